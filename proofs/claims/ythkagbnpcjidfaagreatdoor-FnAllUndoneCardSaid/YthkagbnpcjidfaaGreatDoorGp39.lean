/- Walks and mathematics that several claims share, part 39. -/
import Derived.Test.YthkagbnpcjidfaaGreatDoorGp38
import Derived.Test.YthkagbnpcjidfaaGreatDoorGp26
import Derived.Laws.Rows
namespace Go.Proofs.YthkagbnpcjidfaaGreatDoor
set_option maxRecDepth 100000
open Go.RowKit
set_option linter.unusedVariables false
set_option linter.unusedSimpArgs false
def sW (bI : List aA) (ks : List ByteArray) : Nat → List bO
 | 0 => []
 | k + 1 => if (cA (ks.getD k ⟨#[]⟩) bI).level % 2 = 1 then sW bI ks k ++ [⟨ks.getD k ⟨#[]⟩, (cA (ks.getD k ⟨#[]⟩) bI).counted.qty, decide ((cA (ks.getD k ⟨#[]⟩) bI).placed.kind = 4)⟩] else sW bI ks k
theorem aER (bI : List aA) (ks : List ByteArray) (k : Nat) : sW bI ks (k + 1) = if (cA (ks.getD k ⟨#[]⟩) bI).level % 2 = 1 then sW bI ks k ++ [⟨ks.getD k ⟨#[]⟩, (cA (ks.getD k ⟨#[]⟩) bI).counted.qty, decide ((cA (ks.getD k ⟨#[]⟩) bI).placed.kind = 4)⟩] else sW bI ks k := rfl
theorem aAn (bI : List aA) (ks : List ByteArray) : ∀ k, k ≤ ks.length → sW bI ks k = ((ks.take k).filter (fun x => decide ((cA x bI).level % 2 = 1))).map fun x => ⟨x, (cA x bI).counted.qty, decide ((cA x bI).placed.kind = 4)⟩
 | 0, _ => rfl
 | k + 1, hk => by
  have ih := aAn bI ks k (by omega)
  have e : ks.take (k + 1) = ks.take k ++ [ks.getD k ⟨#[]⟩] := by
   rw [List.take_succ_eq_append_getElem (by omega : k < ks.length), List.getD_eq_getElem?_getD, List.getElem?_eq_getElem (by omega)]
   rfl
  rw [sW, e, List.filter_append, List.map_append, ih]
  by_cases h : (cA (ks.getD k ⟨#[]⟩) bI).level % 2 = 1
  ·rw [if_pos h, List.filter_cons, if_pos (decide_eq_true h)]
   rfl
  ·rw [if_neg h, List.filter_cons, if_neg (by simpa using h)]
   simp
theorem aKa {xs : List Int} {l : List aA} {ks : List ByteArray} (h : aA7 (counted xs l) ks) : sW (counted xs l) ks ks.length = gH xs l := by
 rw [aAn _ _ _ aPw, List.take_length]
 have e : counted xs l = (if aD xs l = true then hM l l.length else []) := rfl
 rw [e] at h ⊢
 rw [aEV h]
 unfold gH oJ
 rcases hc : aD xs l with _ | _
 ·rfl
 ·rw [if_pos rfl, if_pos rfl]
  refine List.map_congr_left fun x _ => ?_
  rw [xV hc x l.length aPw]
  rfl
theorem i7 {xs : List Int} {l : List aA} {o : aA} (h : o ∈ counted xs l) : o ∈ l := by
 unfold counted at h
 split at h
 ·unfold hM at h
  exact List.mem_of_mem_take (List.mem_filter.1 h).1
 ·cases h
theorem P3 {B : Nat} {e : TypeId} {k : Nat} {v : Value} {n : Nat} {xs : List Value} {w w' : World} (h : w.ownsRow B e k v n xs) (hb : Below w.heap.size w w') : w'.ownsRow B e k v n xs :=
 h.kept (row := none) (below_grown hb) (by cases hv : v.ownBlock <;> simp)
theorem aDX {ks : List ByteArray} {k : Nat} (h : k < ks.length) : ks.getD k ⟨#[]⟩ ∈ ks := by
 rw [List.getD_eq_getElem?_getD, List.getElem?_eq_getElem h]
 exact List.getElem_mem h
theorem aHq {w : World} {base aAF : Nat} {e : TypeId} {k : Nat} {v : Value} {n : Nat} {xs : List Value} (h : w.ownsRow base e k v n xs) (hb : aAF ≤ base) : w.ownsRow aAF e k v n xs := by
 refine ⟨h.1, ?_⟩
 rcases h.2 with h2 | ⟨g, c, aV, e, hg, r⟩
 ·exact .inl h2
 ·exact .inr ⟨g, c, aV, e, Nat.le_trans hb hg, r⟩
def aKE (l : List bO) (w : World) (e : Ending) (w' : World) : Prop := ∃ a c, e = .returned (.slice a l.length c) ∧ w'.ownsRow w.heap.size 39 3 (.slice a l.length c) l.length (eQ l) ∧ Below w.heap.size w w'
set_option maxHeartbeats 40000000 in
theorem aEZ (w : World) (B : Nat) (av ao : Option Addr) (nv cv no co : Nat) (xs : List Int) (l : List aA) (hx : Ints w B av nv xs) (h : bK w B ao no l) (hB : B ≤ w.heap.size) (hv : nv ≤ 1048576) (hc : no ≤ co) (cM : Fits no co) (hm : ∀ o ∈ l, o.item.size ≤ 1048576) :
  Calls Tryz.prog 26 #[.agg #[.slice av nv cv, .slice ao no co]] w (aKE (gH xs l) w) := by
 have tF : no ≤ 1048576 := cM.1
 have HL := aPu h.1
 have HX := aPu (hx.more hB)
 have HO := aPu (h.more hB)
 have HM := aPu hm
 have bC : Below w.heap.size w (w.alloc (.cells #[.slice av nv cv, .slice ao no co] 27)) := (Below.refl _ w).alloc aPw _
 have HB := aPu bC
 clear hx h hB hm bC
 go_enter Tryz.func26, Tryz.ntmps26
 go_wp2_with fail
 generalize w.alloc (.cells #[.slice av nv cv, .slice ao no co] 27) = w0 at HB ⊢
 refine (aFW w0 w.heap.size av ao nv cv no co xs l (HX.out.below HB.out aPw) (HO.out.below HB.out aPw) HB.out.size hv hc cM HM.out).mono ?_
 rintro e w1 ⟨rfl, hT, hb⟩
 obtain ⟨bm, hbm⟩ : ∃ b, w0.heap.size + 1 = b := ⟨_, rfl⟩
 rw [hbm] at hT ⊢
 have HT := aPu hT
 have cX := aPu (HB.out.trans (hb.mono HB.out.size))
 have hbw : w.heap.size ≤ bm := by have := HB.out.size; omega
 clear hT hb hbm HB
 go_wp2_with fail
 refine (aM2 _ _).mono ?_
 rintro e w2 ⟨rfl, rfl⟩
 go_wp2_with fail
 refine (aJJ w1 bm l.length _ HT.out (by have := HL.out; omega)).mono ?_
 rintro e w2 ⟨ks, ka, kc, rfl, hkl, aLF, aE6, hks, hb⟩
 have HK : Hid (aA7 (counted xs l) ks) := ⟨aLF, fun x => (aE6 x).trans (and_iff_right_of_imp (fun hs => by
  obtain ⟨o, ho, rfl⟩ := (aCm _ _).1 hs; have := HM.out o (i7 ho)
  show _ ≤ maxLen
  unfold maxLen; omega) |>.trans (aCm _ _))⟩
 have aJ := aPu (HT.out.below hb)
 have HS2 := aPu hks.strs
 have bP := aPu (cX.out.trans (hb.mono cX.out.size))
 have G4 : Hid (∀ x ∈ ks, x.size ≤ 1048576) := fun x hx => by
  obtain ⟨o, ho, rfl⟩ := (HK.out.2 x).1 hx; exact HM.out o (i7 ho)
 have aO7 : ks.length ≤ 1048576 := by have := HL.out; omega
 clear hkl aLF aE6 hks hb cX HT HX HO
 go_wp2
 have pA := aPu (aEN w2 w2.heap.size)
 have HW2 : Hid (w.heap.size ≤ w2.heap.size) := bP.out.size
 go_loopw [4, 14] (fun v i wr => ∃ (k : Nat) (L : List bO) (vv : Value), k ≤ ks.length ∧ i = .int .i64 (k : Int) ∧ vv = v ∧ Hid (wr.ownsRow w2.heap.size 39 3 vv L.length (eQ L)) ∧ Hid (sW (counted xs l) ks k = L) ∧ Hid (L.length ≤ k) ∧ Hid (Below w2.heap.size w2 wr)) (fun _ i _ => ks.length - (intOf i).toNat)
 case atStart => exact ⟨0, [], _, Nat.zero_le _, rfl, rfl, pA, rfl, Nat.le_refl _, Below.refl _ _⟩
 case round =>
  obtain ⟨k, L, v, hk, rfl, rfl, HR, dO, qD, cS⟩ := hrel; clear pA
  by_cases aK : k < ks.length
  rotate_left
  ·obtain rfl : k = ks.length := by omega
   obtain ⟨a, c, hv4, aY⟩ := zX HR.out aPw; subst hv4; have aDu := aPu (aHq HR.out HW2.out); have HF : Hid (gH xs l = L) := (aKa HK.out).symm.trans dO.out; have bT := aPu (bP.out.trans (cS.out.mono HW2.out)); clear aY HR; go_wp2
   go_ret
   exact ⟨a, c, by rw [HF.out]; rfl, by rw [HF.out]; exact aDu.out, bT.out⟩
  obtain ⟨b, off, rfl, hb, hc⟩ := (HS2.out.below cS.out aPw).2 k aK; have hki : (k : Int) < (ks.length : Int) := by omega
  have mJ := G4.out _ (aDX aK); have aCe := aPu (aER (counted xs l) ks k); obtain ⟨x, hx⟩ : ∃ x, ks.getD k ⟨#[]⟩ = x := ⟨_, rfl⟩; rw [hx] at hc mJ; have HXe := aPu hx; clear hx; have hfx : wF x := by show _ ≤ maxLen; unfold maxLen; omega
  have c8 := ((aJ.out.below cS.out).look Tryz.underlying89 (Tryz.stateZero wr) hfx).2; rw [aD9] at c8; have h0 := aCk x (counted xs l); obtain ⟨s, hs⟩ : ∃ s, cA x (counted xs l) = s := ⟨_, rfl⟩; rw [hs] at c8 h0; have bZ := aPu hs; clear hs; unfold cK.val at c8; have cC := aPu (bE (Below.refl _ (wr.alloc (.cells #[.int .i64 0, .int .i64 0, .int .i64 0, .int .i64 0, .int .i64 0, .string ⟨#[]⟩, .int .i64 0, .int .i64 0, .int .i64 0, .int .i64 0, .int .i64 0, .int .i64 0, .int .i64 0, .string ⟨#[]⟩, .int .i64 0, .int .i64 0, .int .i64 0] 96)))); have aR : Below wr.heap.size wr ((wr.alloc (.cells #[.int .i64 0, .int .i64 0, .int .i64 0, .int .i64 0, .int .i64 0, .string ⟨#[]⟩, .int .i64 0, .int .i64 0, .int .i64 0, .int .i64 0, .int .i64 0, .int .i64 0, .int .i64 0, .string ⟨#[]⟩, .int .i64 0, .int .i64 0, .int .i64 0] 96)).setRow wr.heap.size s.cells) := fB bl aPw cC.out; have lU := aPu (setRow_heap (wr.alloc (.cells #[.int .i64 0, .int .i64 0, .int .i64 0, .int .i64 0, .int .i64 0, .string ⟨#[]⟩, .int .i64 0, .int .i64 0, .int .i64 0, .int .i64 0, .int .i64 0, .int .i64 0, .int .i64 0, .string ⟨#[]⟩, .int .i64 0, .int .i64 0, .int .i64 0] 96)) wr.heap.size _ s.cells 96 (0, 0) cC.out)
  go_upto_region 7 with (refine wpList_store_row rfl 96 (.tmp 7) (.tmp 20) rfl wr.heap.size s.cells rfl rfl 96 _ cC.out s.infoOf (by rw [cK.size]; rfl) s.one ?_)
  generalize (wr.alloc (.cells #[.int .i64 0, .int .i64 0, .int .i64 0, .int .i64 0, .int .i64 0, .string ⟨#[]⟩, .int .i64 0, .int .i64 0, .int .i64 0, .int .i64 0, .int .i64 0, .int .i64 0, .int .i64 0, .string ⟨#[]⟩, .int .i64 0, .int .i64 0, .int .i64 0] 96)).setRow wr.heap.size s.cells = w3 at aR lU ⊢; have zG := aPu (P3 HR.out aR); have dQ := aPu (cS.out.trans (aR.mono cS.out.size)); clear aR cC HR cS c8 hc
  go_wp2_with (refine wpList_load_row rfl 96 (.tmp 7) rfl wr.heap.size rfl 96 s.cells (0, 0) _ lU.out Tryz.underlying96 rfl s.infoOf ?_)
  refine (mB s h0 w3).mono ?_
  rintro e w4 ⟨rfl, cW⟩; have N6 := aPu ((cW.block _ (aPv lU.out).1).trans lU.out); have HR4 := aPu (P3 zG.out cW); have lC := aPu (dQ.out.trans (cW.mono dQ.out.size)); clear cW lU zG dQ
  by_cases hp : s.level % 2 = 1
  rotate_left
  ·have HE : Hid (sW (counted xs l) ks (k + 1) = L) := by show _ = _; rw [aCe.out, HXe.out, bZ.out, if_neg hp, dO.out]
   rw [decide_eq_false hp]; clear hp aCe; go_wp2
   go_roundw
   case rel => exact ⟨k + 1, L, _, by omega, by go_num, rfl, HR4, HE, Nat.le_succ_of_le qD.out, lC⟩
   case measure => simp [intOf]; omega
  have HE : Hid (sW (counted xs l) ks (k + 1) = L ++ [⟨x, s.counted.qty, decide (s.placed.kind = 4)⟩]) := by show _ = _; rw [aCe.out, HXe.out, bZ.out, if_pos hp, dO.out]
  have hI : xD s x = x := if_pos hp; have hQ : xC s = s.counted.qty := if_pos hp; have hS : xB s = decide (s.placed.kind = 4) := if_pos hp; rw [decide_eq_true hp]; clear hp aCe
  go_wp2_with (refine wpList_load_row rfl 96 (.tmp 7) rfl wr.heap.size rfl 96 s.cells (0, 0) _ N6.out Tryz.underlying96 rfl s.infoOf ?_)
  refine (X8 s x h0 mJ w4).mono ?_
  rintro e w5 ⟨rfl, aU⟩; rw [hI, hQ, hS]; have j5 := aPu (P3 HR4.out aU); have oB := aPu (lC.out.trans (aU.mono lC.out.size)); clear aU N6 HR4 lC hI hQ hS; obtain ⟨v6, w6, hrun, hr6, jF, _⟩ := aNf w5 w2.heap.size v L.length L j5.out ⟨x, s.counted.qty, decide (s.placed.kind = 4)⟩ (by have := qD.out; omega) oB.out.size
  have HR6 : Hid (w6.ownsRow w2.heap.size 39 3 v6 (L ++ [(⟨x, s.counted.qty, decide (s.placed.kind = 4)⟩ : bO)]).length (eQ (L ++ [⟨x, s.counted.qty, decide (s.placed.kind = 4)⟩]))) := by
   show World.ownsRow _ _ _ _ _ _ _
   rw [List.length_append]; exact hr6
  have aOn : Hid ((L ++ [(⟨x, s.counted.qty, decide (s.placed.kind = 4)⟩ : bO)]).length ≤ k + 1) := by
   show _ ≤ _
   rw [List.length_append]; have := qD.out
   show _ + 1 ≤ _
   omega
  have fA := aPu (oB.out.trans jF); clear hr6 jF j5 oB qD
  go_upto_region 9 with (at_builtin; refine dB rfl _ _ _ rfl _ _ rfl rfl hrun ?_)
  go_wp2
  go_roundw
  case rel => exact ⟨k + 1, _, _, by omega, by go_num, rfl, HR6, HE, aOn, fA⟩
  case measure => simp [intOf]; omega
end Go.Proofs.YthkagbnpcjidfaaGreatDoor
