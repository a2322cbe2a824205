/- Walks and mathematics that several claims share, part 33. -/
import Derived.Test.YthkagbnpcjidfaaGreatDoorGy32
import Derived.Test.YthkagbnpcjidfaaGreatDoorGy21
import Derived.Test.YthkagbnpcjidfaaGreatDoorGy13
import Derived.Test.YthkagbnpcjidfaaGreatDoorGy15
import Derived.Laws.Rows
import Derived.Test.YthkagbnpcjidfaaGreatDoorGyA
namespace Go.Proofs.YthkagbnpcjidfaaGreatDoor
set_option maxHeartbeats 40000000
set_option maxRecDepth 100000
open Go.RowKit
set_option linter.unusedVariables false
set_option linter.unusedSimpArgs false

/-- The lines of the first k of some items, with their states. -/
def wK (bR : List aA) (ks : List ByteArray) : Nat → List aT
 | 0 => []
 | k + 1 => if (cC (ks.getD k ⟨#[]⟩) bR).level % 2 = 1 then wK bR ks k ++ [⟨ks.getD k ⟨#[]⟩, (cC (ks.getD k ⟨#[]⟩) bR).counted.qty, decide ((cC (ks.getD k ⟨#[]⟩) bR).placed.kind = 4)⟩] else wK bR ks k
theorem aGk (bR : List aA) (ks : List ByteArray) (k : Nat) : wK bR ks (k + 1) = if (cC (ks.getD k ⟨#[]⟩) bR).level % 2 = 1 then wK bR ks k ++ [⟨ks.getD k ⟨#[]⟩, (cC (ks.getD k ⟨#[]⟩) bR).counted.qty, decide ((cC (ks.getD k ⟨#[]⟩) bR).placed.kind = 4)⟩] else wK bR ks k := rfl
theorem aBw (bR : List aA) (ks : List ByteArray) : ∀ k, k ≤ ks.length → wK bR ks k = ((ks.take k).filter (fun x => decide ((cC x bR).level % 2 = 1))).map fun x => ⟨x, (cC x bR).counted.qty, decide ((cC x bR).placed.kind = 4)⟩
 | 0, _ => rfl
 | k + 1, hk => by
  have ih := aBw bR ks k (by omega)
  have e : ks.take (k + 1) = ks.take k ++ [ks.getD k ⟨#[]⟩] := by
   rw [List.take_succ_eq_append_getElem (by omega : k < ks.length), List.getD_eq_getElem?_getD, List.getElem?_eq_getElem (by omega)]
   rfl
  rw [wK, e, List.filter_append, List.map_append, ih]
  by_cases h : (cC (ks.getD k ⟨#[]⟩) bR).level % 2 = 1
  ·rw [if_pos h, List.filter_cons, if_pos (decide_eq_true h)]
   rfl
  ·rw [if_neg h, List.filter_cons, if_neg (by simpa using h)]
   simp
theorem aLZ {xs : List Int} {l : List aA} {ks : List ByteArray} (h : aCG (counted xs l) ks) : wK (counted xs l) ks ks.length = aO xs l := by
 rw [aBw _ _ _ aRC, List.take_length]
 have e : counted xs l = (if aE xs l = true then jC l l.length else []) := rfl
 rw [e] at h ⊢
 rw [aGr h]
 unfold aO bY
 rcases hc : aE xs l with _ | _
 ·rfl
 ·rw [if_pos rfl, if_pos rfl]
  refine List.map_congr_left fun x _ => ?_
  rw [yN hc x l.length aRC]
  rfl
theorem aAS {xs : List Int} {l : List aA} {o : aA} (h : o ∈ counted xs l) : o ∈ l := by
 unfold counted at h
 split at h
 ·unfold jC at h
  exact List.mem_of_mem_take (List.mem_filter.1 h).1
 ·cases h
theorem j7 {B : Nat} {e : TypeId} {k : Nat} {v : Value} {n : Nat} {xs : List Value} {w w' : World} (h : w.ownsRow B e k v n xs) (hb : Below w.heap.size w w') : w'.ownsRow B e k v n xs :=
 h.kept (row := none) (below_grown hb) (by cases hv : v.ownBlock <;> simp)
theorem aFo {ks : List ByteArray} {k : Nat} (h : k < ks.length) : ks.getD k ⟨#[]⟩ ∈ ks := by
 rw [List.getD_eq_getElem?_getD, List.getElem?_eq_getElem h]
 exact List.getElem_mem h
theorem aI3 {w : World} {base aBV : Nat} {e : TypeId} {k : Nat} {v : Value} {n : Nat} {xs : List Value} (h : w.ownsRow base e k v n xs) (hb : aBV ≤ base) : w.ownsRow aBV e k v n xs := by
 refine ⟨h.1, ?_⟩
 rcases h.2 with h2 | ⟨g, c, aX, e, hg, r⟩
 ·exact .inl h2
 ·exact .inr ⟨g, c, aX, e, Nat.le_trans hb hg, r⟩
/-- The answer as a row of the call's own. -/
def aMu (l : List aT) (w : World) (e : Ending) (w' : World) : Prop := ∃ a c, e = .returned (.slice a l.length c) ∧ w'.ownsRow w.heap.size 39 3 (.slice a l.length c) l.length (fL l) ∧ Below w.heap.size w w'
theorem aBG (w : World) (B : Nat) (av ao : Option Addr) (nv cv no co : Nat) (xs : List Int) (l : List aA) (hx : Ints w B av nv xs) (h : bS w B ao no l) (hB : B ≤ w.heap.size) (hv : nv ≤ 1048576) (hc : no ≤ co) (cM : Fits no co) (hm : ∀ o ∈ l, o.item.size ≤ 1048576) :
  Calls Tryz.prog 26 #[.agg #[.slice av nv cv, .slice ao no co]] w (aMu (aO xs l) w) := by
 have J5 : no ≤ 1048576 := cM.1
 have HL := aRA h.1
 have HX := aRA (hx.more hB)
 have HO := aRA (h.more hB)
 have HM := aRA hm
 have aW : Below w.heap.size w (w.alloc (.cells #[.slice av nv cv, .slice ao no co] 27)) := (Below.refl _ w).alloc aRC _
 have HB := aRA aW
 clear hx h hB hm aW
 go_enter Tryz.func26, Tryz.ntmps26
 go_wp2_with fail
 generalize w.alloc (.cells #[.slice av nv cv, .slice ao no co] 27) = w0 at HB ⊢
 refine (aHy w0 w.heap.size av ao nv cv no co xs l (HX.out.below HB.out aRC) (HO.out.below HB.out aRC) HB.out.size hv hc cM HM.out).mono ?_
 rintro e w1 ⟨rfl, hT, hb⟩
 obtain ⟨bm, hbm⟩ : ∃ b, w0.heap.size + 1 = b := ⟨_, rfl⟩
 rw [hbm] at hT ⊢
 have HT := aRA hT
 have cO := aRA (HB.out.trans (hb.mono HB.out.size))
 have hbw : w.heap.size ≤ bm := by have := HB.out.size; omega
 clear hT hb hbm HB
 go_wp2_with fail
 refine (aOM _ _).mono ?_
 rintro e w2 ⟨rfl, rfl⟩
 go_wp2_with fail
 refine (aLy w1 bm l.length _ HT.out (by have := HL.out; omega)).mono ?_
 rintro e w2 ⟨ks, ka, kc, rfl, hkl, aNy, yU, hks, hb⟩
 have HK : Hid (aCG (counted xs l) ks) := ⟨aNy, fun x => (yU x).trans (and_iff_right_of_imp (fun hs => by
  obtain ⟨o, ho, rfl⟩ := (aDO _ _).1 hs; have := HM.out o (aAS ho)
  show _ ≤ maxLen
  unfold maxLen; omega) |>.trans (aDO _ _))⟩
 have aM := aRA (HT.out.below hb)
 have HS2 := aRA hks.strs
 have bK := aRA (cO.out.trans (hb.mono cO.out.size))
 have tM : Hid (∀ x ∈ ks, x.size ≤ 1048576) := fun x hx => by
  obtain ⟨o, ho, rfl⟩ := (HK.out.2 x).1 hx; exact HM.out o (aAS ho)
 have aRd : ks.length ≤ 1048576 := by have := HL.out; omega
 clear hkl aNy yU hks hb cO HT HX HO
 go_wp2
 have rX := aRA (aGh w2 w2.heap.size)
 have HW2 : Hid (w.heap.size ≤ w2.heap.size) := bK.out.size
 go_loopw [4, 14] (fun v i wr => ∃ (k : Nat) (L : List aT) (vv : Value), k ≤ ks.length ∧ i = .int .i64 (k : Int) ∧ vv = v ∧ Hid (wr.ownsRow w2.heap.size 39 3 vv L.length (fL L)) ∧ Hid (wK (counted xs l) ks k = L) ∧ Hid (L.length ≤ k) ∧ Hid (Below w2.heap.size w2 wr)) (fun _ i _ => ks.length - (intOf i).toNat)
 case atStart => exact ⟨0, [], _, Nat.zero_le _, rfl, rfl, rX, rfl, Nat.le_refl _, Below.refl _ _⟩
 case round =>
  obtain ⟨k, L, v, hk, rfl, rfl, HR, eL, yM, cR⟩ := hrel; clear rX
  by_cases aK : k < ks.length
  rotate_left
  ·obtain rfl : k = ks.length := by omega
   obtain ⟨a, c, hv4, aY⟩ := rT HR.out aRC; subst hv4; have aEV := aRA (aI3 HR.out HW2.out); have HF : Hid (aO xs l = L) := (aLZ HK.out).symm.trans eL.out; have cA := aRA (bK.out.trans (cR.out.mono HW2.out)); clear aY HR; go_wp2
   go_ret
   exact ⟨a, c, by rw [HF.out]; rfl, by rw [HF.out]; exact aEV.out, cA.out⟩
  obtain ⟨b, off, rfl, hb, hc⟩ := (HS2.out.below cR.out aRC).2 k aK; have hki : (k : Int) < (ks.length : Int) := by omega
  have pI := tM.out _ (aFo aK); have tI := aRA (aGk (counted xs l) ks k); obtain ⟨x, hx⟩ : ∃ x, ks.getD k ⟨#[]⟩ = x := ⟨_, rfl⟩; rw [hx] at hc pI; have HXe := aRA hx; clear hx; have hfx : C7 x := by show _ ≤ maxLen; unfold maxLen; omega
  have hlk := ((aM.out.below cR.out).look Tryz.underlying89 (Tryz.stateZero wr) hfx).2; rw [aFA] at hlk; have h0 := aDM x (counted xs l); obtain ⟨s, hs⟩ : ∃ s, cC x (counted xs l) = s := ⟨_, rfl⟩; rw [hs] at hlk h0; have cZ := aRA hs; clear hs; unfold cW.val at hlk; have cJ := aRA (bL (Below.refl _ (wr.alloc (.cells #[.int .i64 0, .int .i64 0, .int .i64 0, .int .i64 0, .int .i64 0, .string ⟨#[]⟩, .int .i64 0, .int .i64 0, .int .i64 0, .int .i64 0, .int .i64 0, .int .i64 0, .int .i64 0, .string ⟨#[]⟩, .int .i64 0, .int .i64 0, .int .i64 0] 96)))); have bB : Below wr.heap.size wr ((wr.alloc (.cells #[.int .i64 0, .int .i64 0, .int .i64 0, .int .i64 0, .int .i64 0, .string ⟨#[]⟩, .int .i64 0, .int .i64 0, .int .i64 0, .int .i64 0, .int .i64 0, .int .i64 0, .int .i64 0, .string ⟨#[]⟩, .int .i64 0, .int .i64 0, .int .i64 0] 96)).setRow wr.heap.size s.cells) := gA bl aRC cJ.out; have oV := aRA (setRow_heap (wr.alloc (.cells #[.int .i64 0, .int .i64 0, .int .i64 0, .int .i64 0, .int .i64 0, .string ⟨#[]⟩, .int .i64 0, .int .i64 0, .int .i64 0, .int .i64 0, .int .i64 0, .int .i64 0, .int .i64 0, .string ⟨#[]⟩, .int .i64 0, .int .i64 0, .int .i64 0] 96)) wr.heap.size _ s.cells 96 (0, 0) cJ.out)
  go_upto_region 7 with (refine wpList_store_row rfl 96 (.tmp 7) (.tmp 20) rfl wr.heap.size s.cells rfl rfl 96 _ cJ.out s.infoOf (by rw [cW.size]; rfl) s.one ?_)
  generalize (wr.alloc (.cells #[.int .i64 0, .int .i64 0, .int .i64 0, .int .i64 0, .int .i64 0, .string ⟨#[]⟩, .int .i64 0, .int .i64 0, .int .i64 0, .int .i64 0, .int .i64 0, .int .i64 0, .int .i64 0, .string ⟨#[]⟩, .int .i64 0, .int .i64 0, .int .i64 0] 96)).setRow wr.heap.size s.cells = w3 at bB oV ⊢; have B5 := aRA (j7 HR.out bB); have dR := aRA (cR.out.trans (bB.mono cR.out.size)); clear bB cJ HR cR hlk hc
  go_wp2_with (refine wpList_load_row rfl 96 (.tmp 7) rfl wr.heap.size rfl 96 s.cells (0, 0) _ oV.out Tryz.underlying96 rfl s.infoOf ?_)
  refine (pA s h0 w3).mono ?_
  rintro e w4 ⟨rfl, dY⟩; have Z5 := aRA ((dY.block _ (aRB oV.out).1).trans oV.out); have HR4 := aRA (j7 B5.out dY); have jI := aRA (dR.out.trans (dY.mono dR.out.size)); clear dY oV B5 dR
  by_cases hp : s.level % 2 = 1
  rotate_left
  ·have HE : Hid (wK (counted xs l) ks (k + 1) = L) := by show _ = _; rw [tI.out, HXe.out, cZ.out, if_neg hp, eL.out]
   rw [decide_eq_false hp]; clear hp tI; go_wp2
   go_roundw
   case rel => exact ⟨k + 1, L, _, by omega, by go_num, rfl, HR4, HE, Nat.le_succ_of_le yM.out, jI⟩
   case measure => simp [intOf]; omega
  have HE : Hid (wK (counted xs l) ks (k + 1) = L ++ [⟨x, s.counted.qty, decide (s.placed.kind = 4)⟩]) := by show _ = _; rw [tI.out, HXe.out, cZ.out, if_pos hp, eL.out]
  have hI : F0 s x = x := if_pos hp; have hQ : zI s = s.counted.qty := if_pos hp; have hS : zH s = decide (s.placed.kind = 4) := if_pos hp; rw [decide_eq_true hp]; clear hp tI
  go_wp2_with (refine wpList_load_row rfl 96 (.tmp 7) rfl wr.heap.size rfl 96 s.cells (0, 0) _ Z5.out Tryz.underlying96 rfl s.infoOf ?_)
  refine (aAy s x h0 pI w4).mono ?_
  rintro e w5 ⟨rfl, bE⟩; rw [hI, hQ, hS]; have HR5 := aRA (j7 HR4.out bE); have gZ := aRA (jI.out.trans (bE.mono jI.out.size)); clear bE Z5 HR4 jI hI hQ hS; obtain ⟨v6, w6, hrun, hr6, oA, _⟩ := aKY w5 w2.heap.size v L.length L HR5.out ⟨x, s.counted.qty, decide (s.placed.kind = 4)⟩ (by have := yM.out; omega) gZ.out.size
  have HR6 : Hid (w6.ownsRow w2.heap.size 39 3 v6 (L ++ [(⟨x, s.counted.qty, decide (s.placed.kind = 4)⟩ : aT)]).length (fL (L ++ [⟨x, s.counted.qty, decide (s.placed.kind = 4)⟩]))) := by
   show World.ownsRow _ _ _ _ _ _ _
   rw [List.length_append]; exact hr6
  have aQq : Hid ((L ++ [(⟨x, s.counted.qty, decide (s.placed.kind = 4)⟩ : aT)]).length ≤ k + 1) := by
   show _ ≤ _
   rw [List.length_append]; have := yM.out
   show _ + 1 ≤ _
   omega
  have dC := aRA (gZ.out.trans oA); clear hr6 oA HR5 gZ yM
  go_upto_region 9 with (at_builtin; refine cX rfl _ _ _ rfl _ _ rfl rfl hrun ?_)
  go_wp2
  go_roundw
  case rel => exact ⟨k + 1, _, _, by omega, by go_num, rfl, HR6, HE, aQq, dC⟩
  case measure => simp [intOf]; omega
theorem lG (w : World) (B : Nat) (av ao : Option Addr) (nv cv no co : Nat) (xs : List Int) (l : List aA) (hx : Ints w B av nv xs) (h : bS w B ao no l) (hB : B ≤ w.heap.size) (hv : nv ≤ 1048576) (hc : no ≤ co) (cM : Fits no co) (hm : ∀ o ∈ l, o.item.size ≤ 1048576) :
  Calls Tryz.prog 26 #[.agg #[.slice av nv cv, .slice ao no co]] w (aAg (aO xs l) w) := by
 refine (aBG w B av ao nv cv no co xs l hx h hB hv hc cM hm).mono ?_
 rintro e w' ⟨a, c, e1, hr, hb⟩
 obtain ⟨a', c', e2, aY⟩ := rT hr aRC
 injection e2 with e3 _ e4
 subst e3 e4
 exact ⟨a, c, e1, aY, hb⟩
end Go.Proofs.YthkagbnpcjidfaaGreatDoor
