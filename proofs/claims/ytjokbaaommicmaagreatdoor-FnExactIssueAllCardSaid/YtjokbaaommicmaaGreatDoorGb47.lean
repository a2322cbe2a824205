/- Walks and mathematics that several claims share, part 47. -/
import Derived.Test.YtjokbaaommicmaaGreatDoorGb36
import Derived.Test.YtjokbaaommicmaaGreatDoorGb22
import Derived.Test.YtjokbaaommicmaaGreatDoorGb37
import Derived.Test.YtjokbaaommicmaaGreatDoorGb35
import Derived.Test.YtjokbaaommicmaaGreatDoorGb28
import Derived.Test.YtjokbaaommicmaaGreatDoorGb24
import Derived.Laws.Rows
import Derived.Test.YtjokbaaommicmaaGreatDoorGbA
namespace Go.Proofs.YtjokbaaommicmaaGreatDoor
set_option maxRecDepth 100000
open Go.RowKit

/-- The lines of the first k of some items, with their states. -/
def lnsTo (pre : List OpV) (ks : List ByteArray) : Nat → List LnV
 | 0 => []
 | k + 1 => if (stateV (ks.getD k ⟨#[]⟩) pre).level % 2 = 1 then lnsTo pre ks k ++ [⟨ks.getD k ⟨#[]⟩, (stateV (ks.getD k ⟨#[]⟩) pre).counted.qty, decide ((stateV (ks.getD k ⟨#[]⟩) pre).placed.kind = 4)⟩] else lnsTo pre ks k
theorem lnsTo_step (pre : List OpV) (ks : List ByteArray) (k : Nat) : lnsTo pre ks (k + 1) = if (stateV (ks.getD k ⟨#[]⟩) pre).level % 2 = 1 then lnsTo pre ks k ++ [⟨ks.getD k ⟨#[]⟩, (stateV (ks.getD k ⟨#[]⟩) pre).counted.qty, decide ((stateV (ks.getD k ⟨#[]⟩) pre).placed.kind = 4)⟩] else lnsTo pre ks k := rfl
theorem lnsTo_take (pre : List OpV) (ks : List ByteArray) : ∀ k, k ≤ ks.length → lnsTo pre ks k = ((ks.take k).filter (fun x => decide ((stateV x pre).level % 2 = 1))).map fun x => ⟨x, (stateV x pre).counted.qty, decide ((stateV x pre).placed.kind = 4)⟩
 | 0, _ => rfl
 | k + 1, hk => by
  have ih := lnsTo_take pre ks k (by omega)
  have e : ks.take (k + 1) = ks.take k ++ [ks.getD k ⟨#[]⟩] := by
   rw [List.take_succ_eq_append_getElem (by omega : k < ks.length), List.getD_eq_getElem?_getD, List.getElem?_eq_getElem (by omega)]
   rfl
  rw [lnsTo, e, List.filter_append, List.map_append, ih]
  by_cases h : (stateV (ks.getD k ⟨#[]⟩) pre).level % 2 = 1
  ·rw [if_pos h, List.filter_cons, if_pos (decide_eq_true h)]
   rfl
  ·rw [if_neg h, List.filter_cons, if_neg (by simpa using h)]
   simp
theorem lns_all {xs : List Int} {l : List OpV} {ks : List ByteArray} (h : KeysAsc (counted xs l) ks) : lnsTo (counted xs l) ks ks.length = linesN xs l := by
 rw [lnsTo_take _ _ _ (Nat.le_refl _), List.take_length]
 have e : counted xs l = (if cartB xs l = true then liveTo l l.length else []) := rfl
 rw [e] at h ⊢
 rw [items_keys h]
 unfold linesN itemsN
 rcases hc : cartB xs l with _ | _
 ·rfl
 ·rw [if_pos rfl, if_pos rfl]
  refine List.map_congr_left fun x _ => ?_
  rw [state_to hc x l.length (Nat.le_refl _)]
  rfl
theorem counted_mem {xs : List Int} {l : List OpV} {o : OpV} (h : o ∈ counted xs l) : o ∈ l := by
 unfold counted at h
 split at h
 ·unfold liveTo at h
  exact List.mem_of_mem_take (List.mem_filter.1 h).1
 ·cases h
theorem row_below {B : Nat} {e : TypeId} {k : Nat} {v : Value} {n : Nat} {xs : List Value} {w w' : World} (h : w.ownsRow B e k v n xs) (hb : Below w.heap.size w w') : w'.ownsRow B e k v n xs :=
 h.kept (row := none) (below_grown hb) (by cases hv : v.ownBlock <;> simp)
theorem getD_mem_ks {ks : List ByteArray} {k : Nat} (h : k < ks.length) : ks.getD k ⟨#[]⟩ ∈ ks := by
 rw [List.getD_eq_getElem?_getD, List.getElem?_eq_getElem h]
 exact List.getElem_mem h
theorem row_more {w : World} {base base' : Nat} {e : TypeId} {k : Nat} {v : Value} {n : Nat} {xs : List Value} (h : w.ownsRow base e k v n xs) (hb : base' ≤ base) : w.ownsRow base' e k v n xs := by
 refine ⟨h.1, ?_⟩
 rcases h.2 with h2 | ⟨g, c, cur, e, hg, r⟩
 ·exact .inl h2
 ·exact .inr ⟨g, c, cur, e, Nat.le_trans hb hg, r⟩
/-- The answer as a row of the call's own. -/
def LnPostR (l : List LnV) (w : World) (e : Ending) (w' : World) : Prop := ∃ a c, e = .returned (.slice a l.length c) ∧ w'.ownsRow w.heap.size 172 3 (.slice a l.length c) l.length (lnCells l) ∧ Below w.heap.size w w'
set_option maxHeartbeats 40000000 in
theorem implLinesR (w : World) (B : Nat) (av ao : Option Addr) (nv cv no co : Nat) (xs : List Int) (l : List OpV) (hx : Ints w B av nv xs) (h : Ops w B ao no l) (hB : B ≤ w.heap.size) (hv : nv ≤ 1048576) (hc : no ≤ co) (hc2 : Fits no co) (hm : ∀ o ∈ l, o.item.size ≤ 1048576) :
  Calls Tryz.prog 117 #[.agg #[.slice av nv cv, .slice ao no co]] w (LnPostR (linesN xs l) w) := by
 have hn1048 : no ≤ 1048576 := hc2.1
 have HL := Lib.hid h.1
 have HX := Lib.hid (hx.more hB)
 have HO := Lib.hid (h.more hB)
 have HM := Lib.hid hm
 have hb0 : Below w.heap.size w (w.alloc (.cells #[.slice av nv cv, .slice ao no co] 32)) := (Below.refl _ w).alloc (Nat.le_refl _) _
 have HB := Lib.hid hb0
 clear hx h hB hm hb0
 go_enter Tryz.func117, Tryz.ntmps117
 go_wp2_with fail
 generalize w.alloc (.cells #[.slice av nv cv, .slice ao no co] 32) = w0 at HB ⊢
 refine (statesOfW w0 w.heap.size av ao nv cv no co xs l (HX.out.below HB.out (Nat.le_refl _)) (HO.out.below HB.out (Nat.le_refl _)) HB.out.size hv hc hc2 HM.out).mono ?_
 rintro e w1 ⟨rfl, hT, hb⟩
 obtain ⟨bm, hbm⟩ : ∃ b, w0.heap.size + 1 = b := ⟨_, rfl⟩
 rw [hbm] at hT ⊢
 have HT := Lib.hid hT
 have HB1 := Lib.hid (HB.out.trans (hb.mono HB.out.size))
 have hbw : w.heap.size ≤ bm := by have := HB.out.size; omega
 clear hT hb hbm HB
 go_wp2_with fail
 refine (keysW _ _).mono ?_
 rintro e w2 ⟨rfl, rfl⟩
 go_wp2_with fail
 refine (sortedW w1 bm l.length _ HT.out (by have := HL.out; omega)).mono ?_
 rintro e w2 ⟨ks, ka, kc, rfl, hkl, hasc, hmem, hks, hb⟩
 have HK : Hid (KeysAsc (counted xs l) ks) := ⟨hasc, fun x => (hmem x).trans (and_iff_right_of_imp (fun hs => by
  obtain ⟨o, ho, rfl⟩ := (stF_some _ _).1 hs
  have := HM.out o (counted_mem ho)
  show _ ≤ maxLen
  unfold maxLen; omega) |>.trans (stF_some _ _))⟩
 have HT2 := Lib.hid (HT.out.below hb)
 have HS2 := Lib.hid hks.strs
 have HB2 := Lib.hid (HB1.out.trans (hb.mono HB1.out.size))
 have HIt : Hid (∀ x ∈ ks, x.size ≤ 1048576) := fun x hx => by
  obtain ⟨o, ho, rfl⟩ := (HK.out.2 x).1 hx
  exact HM.out o (counted_mem ho)
 have hkl2 : ks.length ≤ 1048576 := by have := HL.out; omega
 clear hkl hasc hmem hks hb HB1 HT HX HO
 go_wp2
 have HR0 := Lib.hid (ownLn_none w2 w2.heap.size)
 have HW2 : Hid (w.heap.size ≤ w2.heap.size) := HB2.out.size
 go_loopw [4, 14] (fun v i wr => ∃ (k : Nat) (L : List LnV) (vv : Value), k ≤ ks.length ∧ i = .int .i64 (k : Int) ∧ vv = v ∧ Hid (wr.ownsRow w2.heap.size 172 3 vv L.length (lnCells L)) ∧ Hid (lnsTo (counted xs l) ks k = L) ∧ Hid (L.length ≤ k) ∧ Hid (Below w2.heap.size w2 wr)) (fun _ i _ => ks.length - (intOf i).toNat)
 case atStart => exact ⟨0, [], _, Nat.zero_le _, rfl, rfl, HR0, rfl, Nat.le_refl _, Below.refl _ _⟩
 case round =>
  obtain ⟨k, L, v, hk, rfl, rfl, HR, HLn, HLk, HBr⟩ := hrel
  clear HR0
  by_cases hlt : k < ks.length
  rotate_left
  ·obtain rfl : k = ks.length := by omega
   obtain ⟨a, c, hv4, hown⟩ := ownLns_of_cells HR.out (Nat.le_refl _)
   subst hv4
   have HRow := Lib.hid (row_more HR.out HW2.out)
   have HF : Hid (linesN xs l = L) := (lns_all HK.out).symm.trans HLn.out
   have HBf := Lib.hid (HB2.out.trans (HBr.out.mono HW2.out))
   clear hown HR
   go_wp2
   go_ret
   exact ⟨a, c, by rw [HF.out]; rfl, by rw [HF.out]; exact HRow.out, HBf.out⟩
  obtain ⟨b, off, rfl, hb, hc⟩ := (HS2.out.below HBr.out (Nat.le_refl _)).2 k hlt
  have hki : (k : Int) < (ks.length : Int) := by omega
  have hxs := HIt.out _ (getD_mem_ks hlt)
  have HStep := Lib.hid (lnsTo_step (counted xs l) ks k)
  obtain ⟨x, hx⟩ : ∃ x, ks.getD k ⟨#[]⟩ = x := ⟨_, rfl⟩
  rw [hx] at hc hxs
  have HXe := Lib.hid hx
  clear hx
  have hfx : FitT x := by show _ ≤ maxLen; unfold maxLen; omega
  have hlk := ((HT2.out.below HBr.out).look Tryz.underlying192 (Tryz.stateZero wr) hfx).2
  rw [stF_get] at hlk
  have h0 := stateV_level x (counted xs l)
  obtain ⟨s, hs⟩ : ∃ s, stateV x (counted xs l) = s := ⟨_, rfl⟩
  rw [hs] at hlk h0
  have HSt := Lib.hid hs
  clear hs
  unfold StV.val at hlk
  have HBx := Lib.hid (boxAt (Below.refl _ (wr.alloc (.cells #[.int .i64 0, .int .i64 0, .int .i64 0, .int .i64 0, .int .i64 0, .string ⟨#[]⟩, .int .i64 0, .int .i64 0, .int .i64 0, .int .i64 0, .int .i64 0, .int .i64 0, .int .i64 0, .string ⟨#[]⟩, .int .i64 0, .int .i64 0, .int .i64 0] 199))))
  have hb3 : Below wr.heap.size wr ((wr.alloc (.cells #[.int .i64 0, .int .i64 0, .int .i64 0, .int .i64 0, .int .i64 0, .string ⟨#[]⟩, .int .i64 0, .int .i64 0, .int .i64 0, .int .i64 0, .int .i64 0, .int .i64 0, .int .i64 0, .string ⟨#[]⟩, .int .i64 0, .int .i64 0, .int .i64 0] 199)).setRow wr.heap.size s.cells) := setRow_below bl (Nat.le_refl _) HBx.out
  have HX3 := Lib.hid (setRow_heap (wr.alloc (.cells #[.int .i64 0, .int .i64 0, .int .i64 0, .int .i64 0, .int .i64 0, .string ⟨#[]⟩, .int .i64 0, .int .i64 0, .int .i64 0, .int .i64 0, .int .i64 0, .int .i64 0, .int .i64 0, .string ⟨#[]⟩, .int .i64 0, .int .i64 0, .int .i64 0] 199)) wr.heap.size _ s.cells 199 (0, 0) HBx.out)
  go_upto_region 7 with (refine wpList_store_row rfl 199 (.tmp 7) (.tmp 20) rfl wr.heap.size s.cells rfl rfl 199 _ HBx.out s.infoOf (by rw [StV.size]; rfl) s.one ?_)
  generalize (wr.alloc (.cells #[.int .i64 0, .int .i64 0, .int .i64 0, .int .i64 0, .int .i64 0, .string ⟨#[]⟩, .int .i64 0, .int .i64 0, .int .i64 0, .int .i64 0, .int .i64 0, .int .i64 0, .int .i64 0, .string ⟨#[]⟩, .int .i64 0, .int .i64 0, .int .i64 0] 199)).setRow wr.heap.size s.cells = w3 at hb3 HX3 ⊢
  have HR3 := Lib.hid (row_below HR.out hb3)
  have HB3 := Lib.hid (HBr.out.trans (hb3.mono HBr.out.size))
  clear hb3 HBx HR HBr hlk hc
  go_wp2_with (refine wpList_load_row rfl 199 (.tmp 7) rfl wr.heap.size rfl 199 s.cells (0, 0) _ HX3.out Tryz.underlying199 rfl s.infoOf ?_)
  refine (presentW s h0 w3).mono ?_
  rintro e w4 ⟨rfl, hb4⟩
  have HX4 := Lib.hid ((hb4.block _ (Array.getElem?_eq_some_iff.1 HX3.out).1).trans HX3.out)
  have HR4 := Lib.hid (row_below HR3.out hb4)
  have HB4 := Lib.hid (HB3.out.trans (hb4.mono HB3.out.size))
  clear hb4 HX3 HR3 HB3
  by_cases hp : s.level % 2 = 1
  rotate_left
  ·have HE : Hid (lnsTo (counted xs l) ks (k + 1) = L) := by show _ = _; rw [HStep.out, HXe.out, HSt.out, if_neg hp, HLn.out]
   rw [decide_eq_false hp]
   clear hp HStep
   go_wp2
   go_roundw
   case rel => exact ⟨k + 1, L, _, by omega, by go_num, rfl, HR4, HE, Nat.le_succ_of_le HLk.out, HB4⟩
   case measure => simp [intOf]; omega
  have HE : Hid (lnsTo (counted xs l) ks (k + 1) = L ++ [⟨x, s.counted.qty, decide (s.placed.kind = 4)⟩]) := by show _ = _; rw [HStep.out, HXe.out, HSt.out, if_pos hp, HLn.out]
  have hI : lineI s x = x := if_pos hp
  have hQ : lineQ s = s.counted.qty := if_pos hp
  have hS : lineS s = decide (s.placed.kind = 4) := if_pos hp
  rw [decide_eq_true hp]
  clear hp HStep
  go_wp2_with (refine wpList_load_row rfl 199 (.tmp 7) rfl wr.heap.size rfl 199 s.cells (0, 0) _ HX4.out Tryz.underlying199 rfl s.infoOf ?_)
  refine (lineW s x h0 hxs w4).mono ?_
  rintro e w5 ⟨rfl, hb5⟩
  rw [hI, hQ, hS]
  have HR5 := Lib.hid (row_below HR4.out hb5)
  have HB5 := Lib.hid (HB4.out.trans (hb5.mono HB4.out.size))
  clear hb5 HX4 HR4 HB4 hI hQ hS
  obtain ⟨v6, w6, hrun, hr6, hb6, _⟩ := appLn w5 w2.heap.size v L.length L HR5.out ⟨x, s.counted.qty, decide (s.placed.kind = 4)⟩ (by have := HLk.out; omega) HB5.out.size
  have HR6 : Hid (w6.ownsRow w2.heap.size 172 3 v6 (L ++ [(⟨x, s.counted.qty, decide (s.placed.kind = 4)⟩ : LnV)]).length (lnCells (L ++ [⟨x, s.counted.qty, decide (s.placed.kind = 4)⟩]))) := by
   show World.ownsRow _ _ _ _ _ _ _
   rw [List.length_append]
   exact hr6
  have HLk6 : Hid ((L ++ [(⟨x, s.counted.qty, decide (s.placed.kind = 4)⟩ : LnV)]).length ≤ k + 1) := by
   show _ ≤ _
   rw [List.length_append]
   have := HLk.out
   show _ + 1 ≤ _
   omega
  have HB6 := Lib.hid (HB5.out.trans hb6)
  clear hr6 hb6 HR5 HB5 HLk
  go_upto_region 9 with (at_builtin; refine wpListApp rfl _ _ _ rfl _ _ rfl rfl hrun ?_)
  go_wp2
  go_roundw
  case rel => exact ⟨k + 1, _, _, by omega, by go_num, rfl, HR6, HE, HLk6, HB6⟩
  case measure => simp [intOf]; omega
end Go.Proofs.YtjokbaaommicmaaGreatDoor
