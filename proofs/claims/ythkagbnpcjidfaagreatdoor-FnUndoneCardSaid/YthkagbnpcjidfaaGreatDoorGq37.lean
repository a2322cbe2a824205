/- Walks and mathematics that several claims share, part 37. -/
import Derived.Test.YthkagbnpcjidfaaGreatDoorGq36
import Derived.Test.YthkagbnpcjidfaaGreatDoorGq33
import Derived.Test.YthkagbnpcjidfaaGreatDoorGq23
import Derived.Laws.Rows
namespace Go.Proofs.YthkagbnpcjidfaaGreatDoor
set_option maxRecDepth 100000
open Go.RowKit
set_option linter.unusedVariables false
set_option linter.unusedSimpArgs false
def tM (bN : List aA) (ks : List ByteArray) : Nat → List bP
 | 0 => []
 | k + 1 => if (cE (ks.getD k ⟨#[]⟩) bN).level % 2 = 1 then tM bN ks k ++ [⟨ks.getD k ⟨#[]⟩, (cE (ks.getD k ⟨#[]⟩) bN).counted.qty, decide ((cE (ks.getD k ⟨#[]⟩) bN).placed.kind = 4)⟩] else tM bN ks k
theorem aGJ (bN : List aA) (ks : List ByteArray) (k : Nat) : tM bN ks (k + 1) = if (cE (ks.getD k ⟨#[]⟩) bN).level % 2 = 1 then tM bN ks k ++ [⟨ks.getD k ⟨#[]⟩, (cE (ks.getD k ⟨#[]⟩) bN).counted.qty, decide ((cE (ks.getD k ⟨#[]⟩) bN).placed.kind = 4)⟩] else tM bN ks k := rfl
theorem aBK (bN : List aA) (ks : List ByteArray) : ∀ k, k ≤ ks.length → tM bN ks k = ((ks.take k).filter (fun x => decide ((cE x bN).level % 2 = 1))).map fun x => ⟨x, (cE x bN).counted.qty, decide ((cE x bN).placed.kind = 4)⟩
 | 0, _ => rfl
 | k + 1, hk => by
  have ih := aBK bN ks k (by omega)
  have e : ks.take (k + 1) = ks.take k ++ [ks.getD k ⟨#[]⟩] := by
   rw [List.take_succ_eq_append_getElem (by omega : k < ks.length), List.getD_eq_getElem?_getD, List.getElem?_eq_getElem (by omega)]
   rfl
  rw [tM, e, List.filter_append, List.map_append, ih]
  by_cases h : (cE (ks.getD k ⟨#[]⟩) bN).level % 2 = 1
  ·rw [if_pos h, List.filter_cons, if_pos (decide_eq_true h)]
   rfl
  ·rw [if_neg h, List.filter_cons, if_neg (by simpa using h)]
   simp
theorem aMc {xs : List Int} {l : List aA} {ks : List ByteArray} (h : aCO (counted xs l) ks) : tM (counted xs l) ks ks.length = dC xs l := by
 rw [aBK _ _ _ aRr, List.take_length]
 have e : counted xs l = (if aD xs l = true then iC l l.length else []) := rfl
 rw [e] at h ⊢
 rw [aGN h]
 unfold dC jM
 rcases hc : aD xs l with _ | _
 ·rfl
 ·rw [if_pos rfl, if_pos rfl]
  refine List.map_congr_left fun x _ => ?_
  rw [A0 hc x l.length aRr]
  rfl
theorem aAQ {xs : List Int} {l : List aA} {o : aA} (h : o ∈ counted xs l) : o ∈ l := by
 unfold counted at h
 split at h
 ·unfold iC at h
  exact List.mem_of_mem_take (List.mem_filter.1 h).1
 ·cases h
theorem c8 {B : Nat} {e : TypeId} {k : Nat} {v : Value} {n : Nat} {xs : List Value} {w w' : World} (h : w.ownsRow B e k v n xs) (hb : Below w.heap.size w w') : w'.ownsRow B e k v n xs :=
 h.kept (row := none) (below_grown hb) (by cases hv : v.ownBlock <;> simp)
theorem aFU {ks : List ByteArray} {k : Nat} (h : k < ks.length) : ks.getD k ⟨#[]⟩ ∈ ks := by
 rw [List.getD_eq_getElem?_getD, List.getElem?_eq_getElem h]
 exact List.getElem_mem h
theorem aJd {w : World} {base aB5 : Nat} {e : TypeId} {k : Nat} {v : Value} {n : Nat} {xs : List Value} (h : w.ownsRow base e k v n xs) (hb : aB5 ≤ base) : w.ownsRow aB5 e k v n xs := by
 refine ⟨h.1, ?_⟩
 rcases h.2 with h2 | ⟨g, c, aY, e, hg, r⟩
 ·exact .inl h2
 ·exact .inr ⟨g, c, aY, e, Nat.le_trans hb hg, r⟩
def aME (l : List bP) (w : World) (e : Ending) (w' : World) : Prop := ∃ a c, e = .returned (.slice a l.length c) ∧ w'.ownsRow w.heap.size 39 3 (.slice a l.length c) l.length (eR l) ∧ Below w.heap.size w w'
set_option maxHeartbeats 40000000 in
theorem aBT (w : World) (B : Nat) (av ao : Option Addr) (nv cv no co : Nat) (xs : List Int) (l : List aA) (hx : Ints w B av nv xs) (h : bR w B ao no l) (hB : B ≤ w.heap.size) (hv : nv ≤ 1048576) (hc : no ≤ co) (cY : Fits no co) (hm : ∀ o ∈ l, o.item.size ≤ 1048576) :
  Calls Tryz.prog 26 #[.agg #[.slice av nv cv, .slice ao no co]] w (aME (dC xs l) w) := by
 have xE : no ≤ 1048576 := cY.1
 have HL := aRp h.1
 have HX := aRp (hx.more hB)
 have HO := aRp (h.more hB)
 have HM := aRp hm
 have bG : Below w.heap.size w (w.alloc (.cells #[.slice av nv cv, .slice ao no co] 27)) := (Below.refl _ w).alloc aRr _
 have HB := aRp bG
 clear hx h hB hm bG
 go_enter Tryz.func26, Tryz.ntmps26
 go_wp2_with fail
 generalize w.alloc (.cells #[.slice av nv cv, .slice ao no co] 27) = w0 at HB ⊢
 refine (aHO w0 w.heap.size av ao nv cv no co xs l (HX.out.below HB.out aRr) (HO.out.below HB.out aRr) HB.out.size hv hc cY HM.out).mono ?_
 rintro e w1 ⟨rfl, hT, hb⟩
 obtain ⟨bm, hbm⟩ : ∃ b, w0.heap.size + 1 = b := ⟨_, rfl⟩
 rw [hbm] at hT ⊢
 have HT := aRp hT
 have dK := aRp (HB.out.trans (hb.mono HB.out.size))
 have hbw : w.heap.size ≤ bm := by have := HB.out.size; omega
 clear hT hb hbm HB
 go_wp2_with fail
 refine (aOT _ _).mono ?_
 rintro e w2 ⟨rfl, rfl⟩
 go_wp2_with fail
 refine (aLL w1 bm l.length _ HT.out (by have := HL.out; omega)).mono ?_
 rintro e w2 ⟨ks, ka, kc, rfl, hkl, aNI, aGU, hks, hb⟩
 have HK : Hid (aCO (counted xs l) ks) := ⟨aNI, fun x => (aGU x).trans (and_iff_right_of_imp (fun hs => by
  obtain ⟨o, ho, rfl⟩ := (aD1 _ _).1 hs; have := HM.out o (aAQ ho)
  show _ ≤ maxLen
  unfold maxLen; omega) |>.trans (aD1 _ _))⟩
 have aN := aRp (HT.out.below hb)
 have HS2 := aRp hks.strs
 have cA := aRp (dK.out.trans (hb.mono dK.out.size))
 have J8 : Hid (∀ x ∈ ks, x.size ≤ 1048576) := fun x hx => by
  obtain ⟨o, ho, rfl⟩ := (HK.out.2 x).1 hx; exact HM.out o (aAQ ho)
 have aQ3 : ks.length ≤ 1048576 := by have := HL.out; omega
 clear hkl aNI aGU hks hb dK HT HX HO
 go_wp2
 have nJ := aRp (aGG w2 w2.heap.size)
 have HW2 : Hid (w.heap.size ≤ w2.heap.size) := cA.out.size
 go_loopw [4, 14] (fun v i wr => ∃ (k : Nat) (L : List bP) (vv : Value), k ≤ ks.length ∧ i = .int .i64 (k : Int) ∧ vv = v ∧ Hid (wr.ownsRow w2.heap.size 39 3 vv L.length (eR L)) ∧ Hid (tM (counted xs l) ks k = L) ∧ Hid (L.length ≤ k) ∧ Hid (Below w2.heap.size w2 wr)) (fun _ i _ => ks.length - (intOf i).toNat)
 case atStart => exact ⟨0, [], _, Nat.zero_le _, rfl, rfl, nJ, rfl, Nat.le_refl _, Below.refl _ _⟩
 case round =>
  obtain ⟨k, L, v, hk, rfl, rfl, HR, dU, vR, eE⟩ := hrel; clear nJ
  by_cases aM : k < ks.length
  rotate_left
  ·obtain rfl : k = ks.length := by omega
   obtain ⟨a, c, hv4, aZ⟩ := tK HR.out aRr; subst hv4; have aFl := aRp (aJd HR.out HW2.out); have HF : Hid (dC xs l = L) := (aMc HK.out).symm.trans dU.out; have bS := aRp (cA.out.trans (eE.out.mono HW2.out)); clear aZ HR; go_wp2
   go_ret
   exact ⟨a, c, by rw [HF.out]; rfl, by rw [HF.out]; exact aFl.out, bS.out⟩
  obtain ⟨b, off, rfl, hb, hc⟩ := (HS2.out.below eE.out aRr).2 k aM; have hki : (k : Int) < (ks.length : Int) := by omega
  have nH := J8.out _ (aFU aM); have aDS := aRp (aGJ (counted xs l) ks k); obtain ⟨x, hx⟩ : ∃ x, ks.getD k ⟨#[]⟩ = x := ⟨_, rfl⟩; rw [hx] at hc nH; have HXe := aRp hx; clear hx; have hfx : yH x := by show _ ≤ maxLen; unfold maxLen; omega
  have yR := ((aN.out.below eE.out).look Tryz.underlying89 (Tryz.stateZero wr) hfx).2; rw [aF5] at yR; have h0 := aDZ x (counted xs l); obtain ⟨s, hs⟩ : ∃ s, cE x (counted xs l) = s := ⟨_, rfl⟩; rw [hs] at yR h0; have cI := aRp hs; clear hs; unfold cN.val at yR; have cG := aRp (bM (Below.refl _ (wr.alloc (.cells #[.int .i64 0, .int .i64 0, .int .i64 0, .int .i64 0, .int .i64 0, .string ⟨#[]⟩, .int .i64 0, .int .i64 0, .int .i64 0, .int .i64 0, .int .i64 0, .int .i64 0, .int .i64 0, .string ⟨#[]⟩, .int .i64 0, .int .i64 0, .int .i64 0] 96)))); have aS : Below wr.heap.size wr ((wr.alloc (.cells #[.int .i64 0, .int .i64 0, .int .i64 0, .int .i64 0, .int .i64 0, .string ⟨#[]⟩, .int .i64 0, .int .i64 0, .int .i64 0, .int .i64 0, .int .i64 0, .int .i64 0, .int .i64 0, .string ⟨#[]⟩, .int .i64 0, .int .i64 0, .int .i64 0] 96)).setRow wr.heap.size s.cells) := eV bl aRr cG.out; have mM := aRp (setRow_heap (wr.alloc (.cells #[.int .i64 0, .int .i64 0, .int .i64 0, .int .i64 0, .int .i64 0, .string ⟨#[]⟩, .int .i64 0, .int .i64 0, .int .i64 0, .int .i64 0, .int .i64 0, .int .i64 0, .int .i64 0, .string ⟨#[]⟩, .int .i64 0, .int .i64 0, .int .i64 0] 96)) wr.heap.size _ s.cells 96 (0, 0) cG.out)
  go_upto_region 7 with (refine wpList_store_row rfl 96 (.tmp 7) (.tmp 20) rfl wr.heap.size s.cells rfl rfl 96 _ cG.out s.infoOf (by rw [cN.size]; rfl) s.one ?_)
  generalize (wr.alloc (.cells #[.int .i64 0, .int .i64 0, .int .i64 0, .int .i64 0, .int .i64 0, .string ⟨#[]⟩, .int .i64 0, .int .i64 0, .int .i64 0, .int .i64 0, .int .i64 0, .int .i64 0, .int .i64 0, .string ⟨#[]⟩, .int .i64 0, .int .i64 0, .int .i64 0] 96)).setRow wr.heap.size s.cells = w3 at aS mM ⊢; have E7 := aRp (c8 HR.out aS); have dR := aRp (eE.out.trans (aS.mono eE.out.size)); clear aS cG HR eE yR hc
  go_wp2_with (refine wpList_load_row rfl 96 (.tmp 7) rfl wr.heap.size rfl 96 s.cells (0, 0) _ mM.out Tryz.underlying96 rfl s.infoOf ?_)
  refine (mY s h0 w3).mono ?_
  rintro e w4 ⟨rfl, cW⟩; have uQ := aRp ((cW.block _ (aRq mM.out).1).trans mM.out); have HR4 := aRp (c8 E7.out cW); have iX := aRp (dR.out.trans (cW.mono dR.out.size)); clear cW mM E7 dR
  by_cases hp : s.level % 2 = 1
  rotate_left
  ·have HE : Hid (tM (counted xs l) ks (k + 1) = L) := by show _ = _; rw [aDS.out, HXe.out, cI.out, if_neg hp, dU.out]
   rw [decide_eq_false hp]; clear hp aDS; go_wp2
   go_roundw
   case rel => exact ⟨k + 1, L, _, by omega, by go_num, rfl, HR4, HE, Nat.le_succ_of_le vR.out, iX⟩
   case measure => simp [intOf]; omega
  have HE : Hid (tM (counted xs l) ks (k + 1) = L ++ [⟨x, s.counted.qty, decide (s.placed.kind = 4)⟩]) := by show _ = _; rw [aDS.out, HXe.out, cI.out, if_pos hp, dU.out]
  have hI : zH s x = x := if_pos hp; have hQ : zG s = s.counted.qty := if_pos hp; have hS : zF s = decide (s.placed.kind = 4) := if_pos hp; rw [decide_eq_true hp]; clear hp aDS
  go_wp2_with (refine wpList_load_row rfl 96 (.tmp 7) rfl wr.heap.size rfl 96 s.cells (0, 0) _ uQ.out Tryz.underlying96 rfl s.infoOf ?_)
  refine (aAu s x h0 nH w4).mono ?_
  rintro e w5 ⟨rfl, aW⟩; rw [hI, hQ, hS]; have HR5 := aRp (c8 HR4.out aW); have kL := aRp (iX.out.trans (aW.mono iX.out.size)); clear aW uQ HR4 iX hI hQ hS; obtain ⟨v6, w6, hrun, hr6, hM, _⟩ := aO6 w5 w2.heap.size v L.length L HR5.out ⟨x, s.counted.qty, decide (s.placed.kind = 4)⟩ (by have := vR.out; omega) kL.out.size
  have HR6 : Hid (w6.ownsRow w2.heap.size 39 3 v6 (L ++ [(⟨x, s.counted.qty, decide (s.placed.kind = 4)⟩ : bP)]).length (eR (L ++ [⟨x, s.counted.qty, decide (s.placed.kind = 4)⟩]))) := by
   show World.ownsRow _ _ _ _ _ _ _
   rw [List.length_append]; exact hr6
  have aQl : Hid ((L ++ [(⟨x, s.counted.qty, decide (s.placed.kind = 4)⟩ : bP)]).length ≤ k + 1) := by
   show _ ≤ _
   rw [List.length_append]; have := vR.out
   show _ + 1 ≤ _
   omega
  have eC := aRp (kL.out.trans hM); clear hr6 hM HR5 kL vR
  go_upto_region 9 with (at_builtin; refine dB rfl _ _ _ rfl _ _ rfl rfl hrun ?_)
  go_wp2
  go_roundw
  case rel => exact ⟨k + 1, _, _, by omega, by go_num, rfl, HR6, HE, aQl, eC⟩
  case measure => simp [intOf]; omega
theorem G1 (w : World) (B : Nat) (av ao : Option Addr) (nv cv no co : Nat) (xs : List Int) (l : List aA) (hx : Ints w B av nv xs) (h : bR w B ao no l) (hB : B ≤ w.heap.size) (hv : nv ≤ 1048576) (hc : no ≤ co) (cY : Fits no co) (hm : ∀ o ∈ l, o.item.size ≤ 1048576) :
  Calls Tryz.prog 26 #[.agg #[.slice av nv cv, .slice ao no co]] w (aNY (dC xs l) w) := by
 refine (aBT w B av ao nv cv no co xs l hx h hB hv hc cY hm).mono ?_
 rintro e w' ⟨a, c, e1, hr, hb⟩
 obtain ⟨a', c', e2, aZ⟩ := tK hr aRr
 injection e2 with e3 _ e4
 subst e3 e4
 exact ⟨a, c, e1, aZ, hb⟩
end Go.Proofs.YthkagbnpcjidfaaGreatDoor
