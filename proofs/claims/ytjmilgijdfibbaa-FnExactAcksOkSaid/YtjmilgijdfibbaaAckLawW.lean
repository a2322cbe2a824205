/- The walks of the laws FnExactAcksNew and FnExactAcksOk. -/
import Derived.Test.YtjmilgijdfibbaaAckP
import Derived.Deep.Cut
import Derived.Deep.RegionHeld3
namespace Go.Proofs.Ytjmilgijdfibbaa
open Go.RowKit
set_option linter.unusedVariables false

/-- What answers a table of four rows leaves. -/
def AckPost4 (l : List (List Int)) (w : World) (e : Ending) (w' : World) : Prop :=
  ∃ g c f, e = .returned (.agg #[.slice (some ⟨g, 0, none⟩) 4 c]) ∧ RowsAt w' w.heap.size w'.heap.size g 4 f (rowOf l) ∧ Below w.heap.size w w'
theorem AckPost.four {l : List (List Int)} {w w' : World} {e : Ending} (h : AckPost l w e w') (hl : l.length = 4) : AckPost4 l w e w' := by
  obtain ⟨g, c, rfl, ⟨f, hr⟩, hb⟩ := h
  rw [hl] at hr ⊢
  exact ⟨g, c, f, rfl, hr, hb⟩
set_option maxRecDepth 100000 in
set_option maxHeartbeats 4000000 in
theorem fnExactAcksNewWalk (w : World) : Calls Try.prog 9 #[] w fun e w' => e = .returned (.bool true) ∧ Below w.heap.size w w' := by
  have hlen : ∀ i, i < 4 → (rowOf newAcks i).length ≤ 1048576 := fun i hi => by rw [newAcks_row hi]; decide
  have HLen := Lib.hid hlen
  have HV : Hid (vsum (rowOf newAcks) 4 ≤ 1048576) := by show vsum (rowOf newAcks) 4 ≤ 1048576; decide
  clear hlen
  go_enter Try.func9, Try.ntmps9
  go_wp2_with fail
  refine (specAcksNew w).mono ?_
  rintro e w1 h
  obtain ⟨g1, c1, f1, rfl, hr, hb⟩ := h.four rfl
  have TA1 := Lib.hid hr
  have BB1 := Lib.hid hb
  have hs1 := hb.size
  clear hr hb h
  go_upto_region 2 with fail
  have hb2 : Below w1.heap.size w1 (w1.alloc (.cells #[.slice (some ⟨g1, 0, none⟩) 4 c1] 53)) := (Below.refl _ _).alloc (Nat.le_refl _) _
  have XA2 := Lib.hid (heap_alloc_new w1 (.cells #[.slice (some ⟨g1, 0, none⟩) 4 c1] 53))
  have hz2 : w1.heap.size < (w1.alloc (.cells #[.slice (some ⟨g1, 0, none⟩) 4 c1] 53)).heap.size := by show _ < (w1.heap.push _).size; simp
  generalize w1.alloc (.cells #[.slice (some ⟨g1, 0, none⟩) 4 c1] 53) = w2 at hb2 XA2 hz2 ⊢
  have TA2 := Lib.hid (TA1.out.below hb2 (by omega))
  have BB2 := Lib.hid (BB1.out.trans (hb2.mono BB1.out.size))
  have hs2 := hb2.size
  clear TA1 BB1
  clear hb2
  go_wp2_with fail
  refine (implAcksNew w2).mono ?_
  rintro e w3 h
  obtain ⟨g2, cg2, fg2, rfl, hr, hb⟩ := h.four rfl
  have TB3 := Lib.hid hr
  have TA3 := Lib.hid (TA2.out.below hb (by omega))
  have BB3 := Lib.hid (BB2.out.trans (hb.mono BB2.out.size))
  have XA3 := Lib.hid ((hb.block _ (lt_of_block XA2.out)).trans XA2.out)
  have hs3 := hb.size
  clear TA2 BB2 XA2
  clear hr hb h
  go_upto_region 3 with fail
  have hb4 : Below w3.heap.size w3 (w3.alloc (.cells #[.slice (some ⟨g2, 0, none⟩) 4 cg2] 53)) := (Below.refl _ _).alloc (Nat.le_refl _) _
  have XB4 := Lib.hid (heap_alloc_new w3 (.cells #[.slice (some ⟨g2, 0, none⟩) 4 cg2] 53))
  have hz4 : w3.heap.size < (w3.alloc (.cells #[.slice (some ⟨g2, 0, none⟩) 4 cg2] 53)).heap.size := by show _ < (w3.heap.push _).size; simp
  generalize w3.alloc (.cells #[.slice (some ⟨g2, 0, none⟩) 4 cg2] 53) = w4 at hb4 XB4 hz4 ⊢
  have TA4 := Lib.hid (TA3.out.below hb4 (by omega))
  have BB4 := Lib.hid (BB3.out.trans (hb4.mono BB3.out.size))
  have XA4 := Lib.hid ((hb4.block _ (lt_of_block XA3.out)).trans XA3.out)
  have TB4 := Lib.hid (TB3.out.below hb4 (by omega))
  have hs4 := hb4.size
  clear TA3 BB3 XA3 TB3
  clear hb4
  have y0 := one_cell XB4.out
  have y1 := one_cell XA4.out
  go_wp2_with fail
  refine (eqAcks w4 _ _ _ _ 4 cg2 c1 newAcks (TB4.out.irows rfl) (TA4.out.irows rfl) (by omega) (by omega) (by omega) HLen.out).mono ?_
  rintro e w5 ⟨rfl, hb⟩
  have TA5 := Lib.hid (TA4.out.below hb (by omega))
  have BB5 := Lib.hid (BB4.out.trans (hb.mono BB4.out.size))
  have XA5 := Lib.hid ((hb.block _ (lt_of_block XA4.out)).trans XA4.out)
  have TB5 := Lib.hid (TB4.out.below hb (by omega))
  have XB5 := Lib.hid ((hb.block _ (lt_of_block XB4.out)).trans XB4.out)
  have hs5 := hb.size
  clear TA4 BB4 XA4 TB4 XB4
  clear hb y0 y1
  have y0 := one_cell XB5.out
  go_wp2_with fail
  refine (markAcks w5 _ _ g2 4 cg2 fg2 _ TB5.out (by omega) 1 (by omega) (by omega) HV.out).mono ?_
  rintro e w6 ⟨rfl, hr, hb⟩
  have TB6 := Lib.hid hr
  have TA6 := Lib.hid (TA5.out.kept fun j h1 h2 => hb.block j (by omega) (by omega))
  have BB6 := Lib.hid (BB5.out.trans (hb.below (by omega) (by omega)))
  have XA6 := Lib.hid ((hb.block _ (by have := lt_of_block XA5.out; omega) (by omega)).trans XA5.out)
  have XB6 := Lib.hid ((hb.block _ (by have := lt_of_block XB5.out; omega) (by omega)).trans XB5.out)
  have hs6 := hb.size
  clear TA5 BB5 XA5 XB5
  clear hb hr y0 TB5
  obtain ⟨s, hse⟩ : ∃ s, s = 1 + vsum (rowOf newAcks) 4 := ⟨_, rfl⟩
  have hsl : s ≤ 2000000 := by have := HV.out; omega
  have hsn : decide ((s : Int) < 0) = false := decide_eq_false (by omega)
  rw [← hse]
  have HS := Lib.hid hse
  clear hse
  have y0 := one_cell XB6.out
  go_wp2_with fail
  refine (heldAcks w6 _ _ g2 4 cg2 fg2 _ 1 TB6.out (by omega) (by omega) (by omega) HV.out).mono ?_
  rintro e w7 ⟨rfl, hb⟩
  rw [← HS.out]
  have TA7 := Lib.hid (TA6.out.below hb (by omega))
  have BB7 := Lib.hid (BB6.out.trans (hb.mono BB6.out.size))
  have XA7 := Lib.hid ((hb.block _ (lt_of_block XA6.out)).trans XA6.out)
  have TB7 := Lib.hid (TB6.out.below hb (by omega))
  have XB7 := Lib.hid ((hb.block _ (lt_of_block XB6.out)).trans XB6.out)
  have hs7 := hb.size
  clear TA6 BB6 XA6 TB6 XB6
  clear hb y0
  go_wp2_with fail
  refine (implAcksNew w7).mono ?_
  rintro e w8 h
  obtain ⟨g5, cg5, fg5, rfl, hr, hb⟩ := h.four rfl
  have TC8 := Lib.hid hr
  have TA8 := Lib.hid (TA7.out.below hb (by omega))
  have BB8 := Lib.hid (BB7.out.trans (hb.mono BB7.out.size))
  have XA8 := Lib.hid ((hb.block _ (lt_of_block XA7.out)).trans XA7.out)
  have TB8 := Lib.hid (TB7.out.below hb (by omega))
  have XB8 := Lib.hid ((hb.block _ (lt_of_block XB7.out)).trans XB7.out)
  have hs8 := hb.size
  clear TA7 BB7 XA7 TB7 XB7
  clear hr hb h
  go_upto_region 14 with fail
  have hb9 : Below w8.heap.size w8 (w8.alloc (.cells #[.slice (some ⟨g5, 0, none⟩) 4 cg5] 53)) := (Below.refl _ _).alloc (Nat.le_refl _) _
  have XC9 := Lib.hid (heap_alloc_new w8 (.cells #[.slice (some ⟨g5, 0, none⟩) 4 cg5] 53))
  have hz9 : w8.heap.size < (w8.alloc (.cells #[.slice (some ⟨g5, 0, none⟩) 4 cg5] 53)).heap.size := by show _ < (w8.heap.push _).size; simp
  generalize w8.alloc (.cells #[.slice (some ⟨g5, 0, none⟩) 4 cg5] 53) = w9 at hb9 XC9 hz9 ⊢
  have TA9 := Lib.hid (TA8.out.below hb9 (by omega))
  have BB9 := Lib.hid (BB8.out.trans (hb9.mono BB8.out.size))
  have XA9 := Lib.hid ((hb9.block _ (lt_of_block XA8.out)).trans XA8.out)
  have TB9 := Lib.hid (TB8.out.below hb9 (by omega))
  have XB9 := Lib.hid ((hb9.block _ (lt_of_block XB8.out)).trans XB8.out)
  have TC9 := Lib.hid (TC8.out.below hb9 (by omega))
  have hs9 := hb9.size
  clear TA8 BB8 XA8 TB8 XB8 TC8
  clear hb9
  have y0 := one_cell XC9.out
  have y1 := one_cell XA9.out
  go_wp2_with fail
  refine (eqAcks w9 _ _ _ _ 4 cg5 c1 newAcks (TC9.out.irows rfl) (TA9.out.irows rfl) (by omega) (by omega) (by omega) HLen.out).mono ?_
  rintro e w10 ⟨rfl, hb⟩
  have TA10 := Lib.hid (TA9.out.below hb (by omega))
  have BB10 := Lib.hid (BB9.out.trans (hb.mono BB9.out.size))
  have XA10 := Lib.hid ((hb.block _ (lt_of_block XA9.out)).trans XA9.out)
  have TB10 := Lib.hid (TB9.out.below hb (by omega))
  have XB10 := Lib.hid ((hb.block _ (lt_of_block XB9.out)).trans XB9.out)
  have TC10 := Lib.hid (TC9.out.below hb (by omega))
  have XC10 := Lib.hid ((hb.block _ (lt_of_block XC9.out)).trans XC9.out)
  have hs10 := hb.size
  clear TA9 BB9 XA9 TB9 XB9 TC9 XC9
  clear hb y0 y1
  have y0 := one_cell XB10.out
  go_wp2_with fail
  refine (heldAcks w10 _ _ g2 4 cg2 fg2 _ 1 TB10.out (by omega) (by omega) (by omega) HV.out).mono ?_
  rintro e w11 ⟨rfl, hb⟩
  rw [← HS.out]
  have TA11 := Lib.hid (TA10.out.below hb (by omega))
  have BB11 := Lib.hid (BB10.out.trans (hb.mono BB10.out.size))
  have XA11 := Lib.hid ((hb.block _ (lt_of_block XA10.out)).trans XA10.out)
  have TB11 := Lib.hid (TB10.out.below hb (by omega))
  have XB11 := Lib.hid ((hb.block _ (lt_of_block XB10.out)).trans XB10.out)
  have TC11 := Lib.hid (TC10.out.below hb (by omega))
  have XC11 := Lib.hid ((hb.block _ (lt_of_block XC10.out)).trans XC10.out)
  have hs11 := hb.size
  clear TA10 BB10 XA10 TB10 XB10 TC10 XC10
  clear hb y0
  go_wp2
  go_ret
  exact ⟨rfl, BB11.out⟩
set_option maxRecDepth 100000 in
set_option maxHeartbeats 4000000 in
theorem fnExactAcksOkWalk (a : Option Addr) (n cap : Nat) (l : List (List Int)) (w : World) (h : IRows w w.heap.size a n l) (hn : n ≤ maxLen) (hm : ∀ i, i < n → (rowOf l i).length ≤ maxLen) : Calls Try.prog 10 #[.agg #[.slice a n cap]] w fun e w' => e = .returned (.bool true) ∧ Below w.heap.size w w' := by
  have hb0 : Below w.heap.size w (w.alloc (.cells #[.slice a n cap] 58)) := (Below.refl _ w).alloc (Nat.le_refl _) _
  have XA0 := Lib.hid (heap_alloc_new w (.cells #[.slice a n cap] 58))
  have RR0 := Lib.hid (h.below hb0 (Nat.le_refl _))
  have BB0 := Lib.hid hb0
  have HL := Lib.hid h.1
  have HM := Lib.hid hm
  have hz0 : w.heap.size < (w.alloc (.cells #[.slice a n cap] 58)).heap.size := by show _ < (w.heap.push _).size; simp
  clear h hb0 hm
  go_enter Try.func10, Try.ntmps10
  go_wp2_with fail
  generalize w.alloc (.cells #[.slice a n cap] 58) = w0 at XA0 RR0 BB0 hz0 ⊢
  refine (szAcks w0 w.heap.size a n cap l RR0.out (by omega) hn HM.out 1048576 (Nat.le_refl _)).mono ?_
  rintro e w1 ⟨rfl, hb⟩
  have XA1 := Lib.hid ((hb.block _ (lt_of_block XA0.out)).trans XA0.out)
  have RR1 := Lib.hid (RR0.out.below hb (by omega))
  have BB1 := Lib.hid (BB0.out.trans (hb.mono BB0.out.size))
  have hs1 := hb.size
  clear XA0 RR0 BB0
  clear hb
  by_cases hbig : rowsTotal l ≤ 1048576
  rotate_left
  · rw [if_neg hbig]
    go_wp2
    go_ret
    exact ⟨rfl, BB1.out⟩
  rw [if_pos hbig]
  obtain ⟨hll, hrl⟩ := rows_fit hbig
  have hno : n ≤ 1048576 := by rw [← HL.out]; exact hll
  have HR : Hid (∀ i, i < l.length → (rowOf l i).length ≤ 1048576) := hrl
  have HRn : Hid (∀ i, i < n → (rowOf l i).length ≤ 1048576) := by show ∀ i, i < n → _; rw [← HL.out]; exact hrl
  have hd : decide (((1048576 - rowsTotal l : Nat) : Int) < 0) = false := decide_eq_false (by omega)
  clear hbig hrl
  generalize 1048576 - rowsTotal l = lf at hd ⊢
  have y0 := one_cell XA1.out
  go_wp2_with fail
  refine (toAcks w1 w.heap.size a n cap l RR1.out (by omega) hno HRn.out).mono ?_
  rintro e w2 ⟨g1, rfl, ⟨fg1, hr⟩, hb⟩
  have TA2 := Lib.hid hr
  have XA2 := Lib.hid ((hb.block _ (lt_of_block XA1.out)).trans XA1.out)
  have RR2 := Lib.hid (RR1.out.below hb (by omega))
  have BB2 := Lib.hid (BB1.out.trans (hb.mono BB1.out.size))
  have hs2 := hb.size
  clear XA1 RR1 BB1
  clear hr hb y0
  go_wp2_with fail
  refine (specAcksOk w2 _ _ l.length l.length l (TA2.out.irows rfl) (by omega) hll HR.out).mono ?_
  rintro e w3 ⟨rfl, hb⟩
  have XA3 := Lib.hid ((hb.block _ (lt_of_block XA2.out)).trans XA2.out)
  have RR3 := Lib.hid (RR2.out.below hb (by omega))
  have BB3 := Lib.hid (BB2.out.trans (hb.mono BB2.out.size))
  have hs3 := hb.size
  clear XA2 RR2 BB2
  clear hb
  have y0 := one_cell XA3.out
  go_wp2_with fail
  refine (toAcks w3 w.heap.size a n cap l RR3.out (by omega) hno HRn.out).mono ?_
  rintro e w4 ⟨g2, rfl, ⟨fg2, hr⟩, hb⟩
  have TB4 := Lib.hid hr
  have XA4 := Lib.hid ((hb.block _ (lt_of_block XA3.out)).trans XA3.out)
  have RR4 := Lib.hid (RR3.out.below hb (by omega))
  have BB4 := Lib.hid (BB3.out.trans (hb.mono BB3.out.size))
  have hs4 := hb.size
  clear XA3 RR3 BB3
  clear hr hb y0
  go_upto_region 7 with fail
  have hb5 : Below w4.heap.size w4 (w4.alloc (.cells #[.slice (some ⟨g2, 0, none⟩) l.length l.length] 53)) := (Below.refl _ _).alloc (Nat.le_refl _) _
  have XB5 := Lib.hid (heap_alloc_new w4 (.cells #[.slice (some ⟨g2, 0, none⟩) l.length l.length] 53))
  have hz5 : w4.heap.size < (w4.alloc (.cells #[.slice (some ⟨g2, 0, none⟩) l.length l.length] 53)).heap.size := by show _ < (w4.heap.push _).size; simp
  generalize w4.alloc (.cells #[.slice (some ⟨g2, 0, none⟩) l.length l.length] 53) = w5 at hb5 XB5 hz5 ⊢
  have XA5 := Lib.hid ((hb5.block _ (lt_of_block XA4.out)).trans XA4.out)
  have RR5 := Lib.hid (RR4.out.below hb5 (by omega))
  have BB5 := Lib.hid (BB4.out.trans (hb5.mono BB4.out.size))
  have TB5 := Lib.hid (TB4.out.below hb5 (by omega))
  have hs5 := hb5.size
  clear XA4 RR4 BB4 TB4
  clear hb5
  have y0 := one_cell XB5.out
  go_wp2_with fail
  refine (implAcksOk w5 _ _ l.length l.length l (TB5.out.irows rfl) (by omega) HR.out).mono ?_
  rintro e w6 ⟨rfl, hb⟩
  have XA6 := Lib.hid ((hb.block _ (lt_of_block XA5.out)).trans XA5.out)
  have RR6 := Lib.hid (RR5.out.below hb (by omega))
  have BB6 := Lib.hid (BB5.out.trans (hb.mono BB5.out.size))
  have TB6 := Lib.hid (TB5.out.below hb (by omega))
  have XB6 := Lib.hid ((hb.block _ (lt_of_block XB5.out)).trans XB5.out)
  have hs6 := hb.size
  clear XA5 RR5 BB5 TB5 XB5
  clear hb y0
  generalize ackOk l = cb
  have hcb : (cb != cb) = false := bne_self_eq_false _
  go_upto_region 10 with fail
  have y1 := one_cell XB6.out
  have y2 := one_cell XA6.out
  have hl1 := block_lt_of_cell y1
  have hl2 := block_lt_of_cell y2
  have hS6 : w6.drew.cell? ⟨w4.heap.size, 0, none⟩ = some (.slice (some ⟨g2, 0, none⟩) l.length l.length) ∧ w6.drew.cell? ⟨w.heap.size, 0, none⟩ = some (.slice a n cap) := ⟨y1, y2⟩
  have HTc := Lib.hid (toAcks w6.drew w.heap.size a n cap l (RR6.out.kept (w' := w6.drew) fun _ _ => rfl) (by show _ ≤ w6.heap.size; omega) hno HRn.out)
  have hdz : w6.heap.size = w6.drew.heap.size := rfl
  go_region_held3 (fun w' => w'.cell? ⟨w4.heap.size, 0, none⟩ = some (.slice (some ⟨g2, 0, none⟩) l.length l.length) ∧ w'.cell? ⟨w.heap.size, 0, none⟩ = some (.slice a n cap)) (first | with_reducible exact hS6 | with_reducible exact hS7 | with_reducible exact hS8)
    (first | (go_at_call 41; refine HTc.out.mono ?_; rintro e w7 ⟨g3, rfl, ⟨f3, hr7⟩, hb7⟩; have hS7 : w7.cell? ⟨w4.heap.size, 0, none⟩ = some (.slice (some ⟨g2, 0, none⟩) l.length l.length) ∧ w7.cell? ⟨w.heap.size, 0, none⟩ = some (.slice a n cap) := ⟨(hb7.cell (p := ⟨w4.heap.size, 0, none⟩) hl1).trans hS6.1, (hb7.cell (p := ⟨w.heap.size, 0, none⟩) hl2).trans hS6.2⟩) | (go_at_call 36; refine (eqAcks w7 w7.heap.size w7.heap.size _ _ l.length l.length l.length l ((TB6.out.below (Below.mk hb7.os hb7.tape hb7.output hb7.size hb7.block : Below w6.heap.size w6 w7) (by omega)).irows rfl |>.more (Nat.le_trans (by omega) hb7.size)) (hr7.irows rfl) (Nat.le_refl _) (Nat.le_refl _) hll HR.out).mono ?_; rintro e w8 ⟨rfl, hb8⟩; have hS8 : w8.cell? ⟨w4.heap.size, 0, none⟩ = some (.slice (some ⟨g2, 0, none⟩) l.length l.length) ∧ w8.cell? ⟨w.heap.size, 0, none⟩ = some (.slice a n cap) := ⟨(hb8.cell (block_lt_of_cell hS7.1)).trans hS7.1, (hb8.cell (block_lt_of_cell hS7.2)).trans hS7.2⟩))
  have hB7 : Below w.heap.size w w7 := BB6.out.trans ((Below.mk hb7.os hb7.tape hb7.output hb7.size hb7.block : Below w6.heap.size w6 w7).mono BB6.out.size)
  have HB8 := Lib.hid (hB7.trans (hb8.mono hB7.size))
  clear hS6 hS7 hS8 hb7 hb8 hB7 hr7
  go_wp2
  go_ret
  exact ⟨rfl, HB8.out⟩
end Go.Proofs.Ytjmilgijdfibbaa
