/- The walk of the law FnExactHeard. -/
import Derived.Test.YtjmilgijdfibbaaAckLaw2W
namespace Go.Proofs.Ytjmilgijdfibbaa
open Go.RowKit
set_option linter.unusedVariables false

theorem HeardPost.yes {l : List (List Int)} {dev : Int} {ys : List Int} {w w' : World} {e : Ending} {d : Nat} (h : HeardPost l dev ys w e w') (hB : heardB l dev ys = true) (hd : dev = (d : Int)) : ∃ g c f, e = .returned (.tuple #[.agg #[.slice (some ⟨g, 0, none⟩) 4 c], .bool true]) ∧ RowsAt w' w.heap.size w'.heap.size g 4 f (rowOf (heardRows l d ys)) ∧ Below w.heap.size w w' := by
  obtain ⟨⟨_, d', g, c, f, _, hd', rfl, hr⟩ | ⟨hn, _⟩, hb⟩ := h
  · obtain rfl : d' = d := by omega
    exact ⟨g, c, f, rfl, hr, hb⟩
  · rw [hB] at hn; cases hn
theorem HeardPost.no {l : List (List Int)} {dev : Int} {ys : List Int} {w w' : World} {e : Ending} (h : HeardPost l dev ys w e w') (hB : heardB l dev ys = false) : e = .returned (.tuple #[.agg #[.slice none 0 0], .bool false]) ∧ Below w.heap.size w w' := by
  obtain ⟨⟨hy, _⟩ | ⟨_, he⟩, hb⟩ := h
  · rw [hB] at hy; cases hy
  · exact ⟨he, hb⟩
theorem heard_parts {l : List (List Int)} {dev : Int} {ys : List Int} (h : heardB l dev ys = true) : ackOk l = true ∧ inB dev 0 3 = true ∧ vecOk ys = true := by
  unfold heardB at h
  simpa using h
theorem eqAcksNil (w : World) : Calls Try.prog 36 #[.agg #[.slice none 0 0], .agg #[.slice none 0 0]] w fun e w' => e = .returned (.bool true) ∧ Below w.heap.size w w' :=
  eqAcks w 0 0 none none 0 0 0 [] (irows_nil _ _ _) (irows_nil _ _ _) (Nat.zero_le _) (Nat.zero_le _) (Nat.zero_le _) (fun i hi => absurd hi (by omega))
theorem markRowsNil (k : Int) (w : World) : Calls Try.prog 81 #[.slice none 0 0, .int .i64 k] w fun e w' => e = .returned (.int .i64 k) ∧ w = w' := by
  go_enter Try.func81, Try.ntmps81
  go_wp2
  go_loop [5, 1] (fun i m => i = .int .i64 0 ∧ m = .int .i64 k) (fun _ _ => 0)
  case atStart => exact ⟨rfl, rfl⟩
  case round =>
    obtain ⟨rfl, rfl⟩ := hrel
    go_wp2
    go_ret
    exact ⟨rfl, rfl⟩
theorem heldRowsNil (k : Int) (w : World) : Calls Try.prog 82 #[.slice none 0 0, .int .i64 k] w fun e w' => e = .returned (.int .i64 k) ∧ w = w' := by
  go_enter Try.func82, Try.ntmps82
  go_wp2
  go_loop [5, 1] (fun i m => i = .int .i64 0 ∧ m = .int .i64 k) (fun _ _ => 0)
  case atStart => exact ⟨rfl, rfl⟩
  case round =>
    obtain ⟨rfl, rfl⟩ := hrel
    go_wp2
    go_ret
    exact ⟨rfl, rfl⟩
theorem markAcksNil (w : World) : Calls Try.prog 37 #[.agg #[.slice none 0 0], .int .i64 1] w fun e w' => e = .returned (.int .i64 1) ∧ Below w.heap.size w w' := by
  have HB := Lib.hid ((Below.refl _ w).alloc (Nat.le_refl _) (.cells #[.slice none 0 0] 53))
  go_enter Try.func37, Try.ntmps37
  go_wp2_with fail
  refine (markRowsNil 1 _).mono ?_
  rintro e w1 ⟨rfl, rfl⟩
  go_wp2
  go_ret
  exact ⟨rfl, HB.out⟩
theorem heldAcksNil (w : World) : Calls Try.prog 38 #[.agg #[.slice none 0 0], .int .i64 1] w fun e w' => e = .returned (.int .i64 1) ∧ Below w.heap.size w w' := by
  have HB := Lib.hid ((Below.refl _ w).alloc (Nat.le_refl _) (.cells #[.slice none 0 0] 53))
  go_enter Try.func38, Try.ntmps38
  go_wp2_with fail
  refine (heldRowsNil 1 _).mono ?_
  rintro e w1 ⟨rfl, rfl⟩
  go_wp2
  go_ret
  exact ⟨rfl, HB.out⟩
theorem vsum4 {V : Nat → List Int} (h : ∀ i, i < 4 → (V i).length = 4) : vsum V 4 = 16 := by
  show 0 + (V 0).length + (V 1).length + (V 2).length + (V 3).length = 16
  rw [h 0 (by omega), h 1 (by omega), h 2 (by omega), h 3 (by omega)]
set_option maxRecDepth 100000 in
set_option maxHeartbeats 4000000 in
theorem fnExactHeardWalk0 (a av : Option Addr) (n cap nv cv : Nat) (dev : Int) (l : List (List Int)) (ys : List Int) (w : World) (h : IRows w w.heap.size a n l) (hn : n ≤ maxLen) (hm : ∀ i, i < n → (rowOf l i).length ≤ maxLen) (hy : Ints w w.heap.size av nv ys) (hnm : nv ≤ maxLen) : Calls Try.prog 11 #[.agg #[.slice a n cap], .int .i64 dev, .slice av nv cv] w fun e w' => e = .returned (.bool true) ∧ Below w.heap.size w w' := by
  have hb0 : Below w.heap.size w (w.alloc (.cells #[.slice a n cap] 58)) := (Below.refl _ w).alloc (Nat.le_refl _) _
  have XA0 := Lib.hid (heap_alloc_new w (.cells #[.slice a n cap] 58))
  have RR0 := Lib.hid (h.below hb0 (Nat.le_refl _))
  have BB0 := Lib.hid hb0
  have YY0 := Lib.hid (hy.below hb0 (Nat.le_refl _))
  have HLy := Lib.hid hy.1
  unfold maxLen at hnm
  have HL := Lib.hid h.1
  have HM := Lib.hid hm
  have hz0 : w.heap.size < (w.alloc (.cells #[.slice a n cap] 58)).heap.size := by show _ < (w.heap.push _).size; simp
  clear h hb0 hm
  go_enter Try.func11, Try.ntmps11
  by_cases hbv : 1048576 < nv
  · have hbi : ((nv : Int) > 1048576) := by omega
    go_wp2
    go_ret
    exact ⟨rfl, BB0.out⟩
  have hnv : nv ≤ 1048576 := by omega
  have hbi : ¬ ((nv : Int) > 1048576) := by omega
  go_wp2_with fail
  generalize w.alloc (.cells #[.slice a n cap] 58) = w0 at XA0 RR0 BB0 YY0 hz0 ⊢
  refine (szAcks w0 w.heap.size a n cap l RR0.out (by omega) hn HM.out 1048576 (Nat.le_refl _)).mono ?_
  rintro e w1 ⟨rfl, hb⟩
  have XA1 := Lib.hid ((hb.block _ (lt_of_block XA0.out)).trans XA0.out)
  have RR1 := Lib.hid (RR0.out.below hb (by omega))
  have BB1 := Lib.hid (BB0.out.trans (hb.mono BB0.out.size))
  have YY1 := Lib.hid (YY0.out.below hb (by omega))
  have hs1 := hb.size
  clear XA0 RR0 BB0 YY0
  clear hb
  by_cases hbig : rowsTotal l ≤ 1048576
  rotate_left
  · rw [if_neg hbig]
    go_wp2
    go_ret
    exact ⟨rfl, BB1.out⟩
  rw [if_pos hbig]
  obtain ⟨hll, hrl⟩ := rows_fit hbig
  have hno : n ≤ 1048576 := by rw [← HL.out]; exact hll
  have HR : Hid (∀ i, i < l.length → (rowOf l i).length ≤ 1048576) := hrl
  have HRn : Hid (∀ i, i < n → (rowOf l i).length ≤ 1048576) := by show ∀ i, i < n → _; rw [← HL.out]; exact hrl
  have HV := Lib.hid (total_v hbig)
  have hd : decide (((1048576 - rowsTotal l : Nat) : Int) < 0) = false := decide_eq_false (by omega)
  clear hbig hrl
  generalize 1048576 - rowsTotal l = lf at hd ⊢
  have y0 := one_cell XA1.out
  go_wp2_with fail
  refine (toAcks w1 w.heap.size a n cap l RR1.out (by omega) hno HRn.out).mono ?_
  rintro e w2 ⟨g1, rfl, ⟨fg1, hr⟩, hb⟩
  have TA2 := Lib.hid hr
  have XA2 := Lib.hid ((hb.block _ (lt_of_block XA1.out)).trans XA1.out)
  have RR2 := Lib.hid (RR1.out.below hb (by omega))
  have BB2 := Lib.hid (BB1.out.trans (hb.mono BB1.out.size))
  have YY2 := Lib.hid (YY1.out.below hb (by omega))
  have hs2 := hb.size
  clear XA1 RR1 BB1 YY1
  clear hr hb y0
  go_wp2_with fail
  refine (toInts w2 w.heap.size av nv cv ys YY2.out (by omega) hnv).mono ?_
  rintro e w3 ⟨rfl, hg, hb⟩
  have IA3 := Lib.hid (own_fresh hg (lt_of_block hg))
  have hl3 := lt_of_block hg
  have XA3 := Lib.hid ((hb.block _ (lt_of_block XA2.out)).trans XA2.out)
  have RR3 := Lib.hid (RR2.out.below hb (by omega))
  have BB3 := Lib.hid (BB2.out.trans (hb.mono BB2.out.size))
  have YY3 := Lib.hid (YY2.out.below hb (by omega))
  have TA3 := Lib.hid (TA2.out.below hb (by omega))
  have hs3 := hb.size
  clear XA2 RR2 BB2 YY2 TA2
  clear hb hg
  have hyl : ys.length ≤ 1048576 := by rw [HLy.out]; exact hnv
  have HSp := Lib.hid (specHeard w3 w3.heap.size _ _ l.length l.length ys.length ys.length dev l ys ((TA3.out.irows rfl).more (by omega)) IA3.out.ints (Nat.le_refl _) hll hyl HR.out)
  rcases hhb : heardB l dev ys with _ | _
  · skip
    have HHB := Lib.hid hhb
    clear hhb
    go_wp2_with fail
    refine HSp.out.mono ?_
    rintro e w4 hp
    obtain ⟨rfl, hb⟩ := hp.no HHB.out
    have XA4 := Lib.hid ((hb.block _ (lt_of_block XA3.out)).trans XA3.out)
    have RR4 := Lib.hid (RR3.out.below hb (by omega))
    have BB4 := Lib.hid (BB3.out.trans (hb.mono BB3.out.size))
    have YY4 := Lib.hid (YY3.out.below hb (by omega))
    have hs4 := hb.size
    clear XA3 RR3 BB3 YY3
    clear hb hp HSp
    go_upto_region 8 with fail
    have hb5 : Below w4.heap.size w4 (w4.alloc (.cells #[.slice none 0 0] 53)) := (Below.refl _ _).alloc (Nat.le_refl _) _
    have XW5 := Lib.hid (heap_alloc_new w4 (.cells #[.slice none 0 0] 53))
    have hz5 : w4.heap.size < (w4.alloc (.cells #[.slice none 0 0] 53)).heap.size := by show _ < (w4.heap.push _).size; simp
    generalize w4.alloc (.cells #[.slice none 0 0] 53) = w5 at hb5 XW5 hz5 ⊢
    have XA5 := Lib.hid ((hb5.block _ (lt_of_block XA4.out)).trans XA4.out)
    have RR5 := Lib.hid (RR4.out.below hb5 (by omega))
    have BB5 := Lib.hid (BB4.out.trans (hb5.mono BB4.out.size))
    have YY5 := Lib.hid (YY4.out.below hb5 (by omega))
    have hs5 := hb5.size
    clear XA4 RR4 BB4 YY4
    clear hb5
    have y0 := one_cell XA5.out
    go_wp2_with fail
    refine (toAcks w5 w.heap.size a n cap l RR5.out (by omega) hno HRn.out).mono ?_
    rintro e w6 ⟨g2, rfl, ⟨fg2, hr⟩, hb⟩
    have TB6 := Lib.hid hr
    have XA6 := Lib.hid ((hb.block _ (lt_of_block XA5.out)).trans XA5.out)
    have RR6 := Lib.hid (RR5.out.below hb (by omega))
    have BB6 := Lib.hid (BB5.out.trans (hb.mono BB5.out.size))
    have YY6 := Lib.hid (YY5.out.below hb (by omega))
    have XW6 := Lib.hid ((hb.block _ (lt_of_block XW5.out)).trans XW5.out)
    have hs6 := hb.size
    clear XA5 RR5 BB5 YY5 XW5
    clear hr hb y0
    go_upto_region 9 with fail
    have hb7 : Below w6.heap.size w6 (w6.alloc (.cells #[.slice (some ⟨g2, 0, none⟩) l.length l.length] 53)) := (Below.refl _ _).alloc (Nat.le_refl _) _
    have XB7 := Lib.hid (heap_alloc_new w6 (.cells #[.slice (some ⟨g2, 0, none⟩) l.length l.length] 53))
    have hz7 : w6.heap.size < (w6.alloc (.cells #[.slice (some ⟨g2, 0, none⟩) l.length l.length] 53)).heap.size := by show _ < (w6.heap.push _).size; simp
    generalize w6.alloc (.cells #[.slice (some ⟨g2, 0, none⟩) l.length l.length] 53) = w7 at hb7 XB7 hz7 ⊢
    have XA7 := Lib.hid ((hb7.block _ (lt_of_block XA6.out)).trans XA6.out)
    have RR7 := Lib.hid (RR6.out.below hb7 (by omega))
    have BB7 := Lib.hid (BB6.out.trans (hb7.mono BB6.out.size))
    have YY7 := Lib.hid (YY6.out.below hb7 (by omega))
    have XW7 := Lib.hid ((hb7.block _ (lt_of_block XW6.out)).trans XW6.out)
    have TB7 := Lib.hid (TB6.out.below hb7 (by omega))
    have hs7 := hb7.size
    clear XA6 RR6 BB6 YY6 XW6 TB6
    clear hb7
    go_wp2_with fail
    refine (toInts w7 w.heap.size av nv cv ys YY7.out (by omega) hnv).mono ?_
    rintro e w8 ⟨rfl, hg, hb⟩
    have IB8 := Lib.hid (own_fresh hg (lt_of_block hg))
    have hl8 := lt_of_block hg
    have XA8 := Lib.hid ((hb.block _ (lt_of_block XA7.out)).trans XA7.out)
    have RR8 := Lib.hid (RR7.out.below hb (by omega))
    have BB8 := Lib.hid (BB7.out.trans (hb.mono BB7.out.size))
    have YY8 := Lib.hid (YY7.out.below hb (by omega))
    have XW8 := Lib.hid ((hb.block _ (lt_of_block XW7.out)).trans XW7.out)
    have TB8 := Lib.hid (TB7.out.below hb (by omega))
    have XB8 := Lib.hid ((hb.block _ (lt_of_block XB7.out)).trans XB7.out)
    have hs8 := hb.size
    clear XA7 RR7 BB7 YY7 XW7 TB7 XB7
    clear hb hg
    have HSp := Lib.hid (implHeard w8 w8.heap.size _ _ l.length l.length ys.length ys.length dev l ys ((TB8.out.irows rfl).more (by omega)) (IB8.out.ints.more (by omega)) (Nat.le_refl _) hll hyl HR.out)
    have y0 := one_cell XB8.out
    go_wp2_with fail
    refine HSp.out.mono ?_
    rintro e w9 hp
    obtain ⟨rfl, hb⟩ := hp.no HHB.out
    have XA9 := Lib.hid ((hb.block _ (lt_of_block XA8.out)).trans XA8.out)
    have RR9 := Lib.hid (RR8.out.below hb (by omega))
    have BB9 := Lib.hid (BB8.out.trans (hb.mono BB8.out.size))
    have YY9 := Lib.hid (YY8.out.below hb (by omega))
    have XW9 := Lib.hid ((hb.block _ (lt_of_block XW8.out)).trans XW8.out)
    have TB9 := Lib.hid (TB8.out.below hb (by omega))
    have XB9 := Lib.hid ((hb.block _ (lt_of_block XB8.out)).trans XB8.out)
    have IB9 := Lib.hid (IB8.out.below hb (by omega))
    have hs9 := hb.size
    clear XA8 RR8 BB8 YY8 XW8 TB8 XB8 IB8
    clear hb hp HSp y0
    go_upto_region 11 with fail
    have hb10 : Below w9.heap.size w9 (w9.alloc (.cells #[.slice none 0 0] 53)) := (Below.refl _ _).alloc (Nat.le_refl _) _
    have XG10 := Lib.hid (heap_alloc_new w9 (.cells #[.slice none 0 0] 53))
    have hz10 : w9.heap.size < (w9.alloc (.cells #[.slice none 0 0] 53)).heap.size := by show _ < (w9.heap.push _).size; simp
    generalize w9.alloc (.cells #[.slice none 0 0] 53) = w10 at hb10 XG10 hz10 ⊢
    have XA10 := Lib.hid ((hb10.block _ (lt_of_block XA9.out)).trans XA9.out)
    have RR10 := Lib.hid (RR9.out.below hb10 (by omega))
    have BB10 := Lib.hid (BB9.out.trans (hb10.mono BB9.out.size))
    have YY10 := Lib.hid (YY9.out.below hb10 (by omega))
    have XW10 := Lib.hid ((hb10.block _ (lt_of_block XW9.out)).trans XW9.out)
    have TB10 := Lib.hid (TB9.out.below hb10 (by omega))
    have XB10 := Lib.hid ((hb10.block _ (lt_of_block XB9.out)).trans XB9.out)
    have IB10 := Lib.hid (IB9.out.below hb10 (by omega))
    have hs10 := hb10.size
    clear XA9 RR9 BB9 YY9 XW9 TB9 XB9 IB9
    clear hb10
    have y0 := one_cell XG10.out
    have y1 := one_cell XW10.out
    go_wp2_with fail
    refine (eqAcksNil w10).mono ?_
    rintro e w11 ⟨rfl, hb⟩
    have XA11 := Lib.hid ((hb.block _ (lt_of_block XA10.out)).trans XA10.out)
    have RR11 := Lib.hid (RR10.out.below hb (by omega))
    have BB11 := Lib.hid (BB10.out.trans (hb.mono BB10.out.size))
    have YY11 := Lib.hid (YY10.out.below hb (by omega))
    have XW11 := Lib.hid ((hb.block _ (lt_of_block XW10.out)).trans XW10.out)
    have TB11 := Lib.hid (TB10.out.below hb (by omega))
    have XB11 := Lib.hid ((hb.block _ (lt_of_block XB10.out)).trans XB10.out)
    have IB11 := Lib.hid (IB10.out.below hb (by omega))
    have XG11 := Lib.hid ((hb.block _ (lt_of_block XG10.out)).trans XG10.out)
    have hs11 := hb.size
    clear XA10 RR10 BB10 YY10 XW10 TB10 XB10 IB10 XG10
    clear hb y0 y1
    go_upto_region 13 with fail
    have y1 := one_cell XB11.out
    have y2 := one_cell XA11.out
    have hl1 := block_lt_of_cell y1
    have hl2 := block_lt_of_cell y2
    have hS6 : w11.drew.cell? ⟨w6.heap.size, 0, none⟩ = some (.slice (some ⟨g2, 0, none⟩) l.length l.length) ∧ w11.drew.cell? ⟨w.heap.size, 0, none⟩ = some (.slice a n cap) := ⟨y1, y2⟩
    have HTc := Lib.hid (toAcks w11.drew w.heap.size a n cap l (RR11.out.kept (w' := w11.drew) fun _ _ => rfl) (by show _ ≤ w11.heap.size; omega) hno HRn.out)
    have hdz : w11.heap.size = w11.drew.heap.size := rfl
    go_region_held3 (fun w' => w'.cell? ⟨w6.heap.size, 0, none⟩ = some (.slice (some ⟨g2, 0, none⟩) l.length l.length) ∧ w'.cell? ⟨w.heap.size, 0, none⟩ = some (.slice a n cap)) (first | with_reducible exact hS6 | with_reducible exact hS7 | with_reducible exact hS8)
      (first | (go_at_call 41; refine HTc.out.mono ?_; rintro e wa ⟨gx, rfl, ⟨fx, hr7⟩, hb7⟩; have hS7 : wa.cell? ⟨w6.heap.size, 0, none⟩ = some (.slice (some ⟨g2, 0, none⟩) l.length l.length) ∧ wa.cell? ⟨w.heap.size, 0, none⟩ = some (.slice a n cap) := ⟨(hb7.cell (p := ⟨w6.heap.size, 0, none⟩) hl1).trans hS6.1, (hb7.cell (p := ⟨w.heap.size, 0, none⟩) hl2).trans hS6.2⟩) | (go_at_call 36; refine (eqAcks wa wa.heap.size wa.heap.size _ _ l.length l.length l.length l ((TB11.out.below (Below.mk hb7.os hb7.tape hb7.output hb7.size hb7.block : Below w11.heap.size w11 wa) (by omega)).irows rfl |>.more (Nat.le_trans (by omega) hb7.size)) (hr7.irows rfl) (Nat.le_refl _) (Nat.le_refl _) hll HR.out).mono ?_; rintro e w12 ⟨rfl, hb8⟩; have hS8 : w12.cell? ⟨w6.heap.size, 0, none⟩ = some (.slice (some ⟨g2, 0, none⟩) l.length l.length) ∧ w12.cell? ⟨w.heap.size, 0, none⟩ = some (.slice a n cap) := ⟨(hb8.cell (block_lt_of_cell hS7.1)).trans hS7.1, (hb8.cell (block_lt_of_cell hS7.2)).trans hS7.2⟩))
    have hb : Below w11.heap.size w11 w12 := (Below.mk hb7.os hb7.tape hb7.output hb7.size hb7.block : Below w11.heap.size w11 wa).trans (hb8.mono hb7.size)
    clear hS6 hS7 hS8 hb7 hb8 hr7 y1 y2
    have XA12 := Lib.hid ((hb.block _ (lt_of_block XA11.out)).trans XA11.out)
    have RR12 := Lib.hid (RR11.out.below hb (by omega))
    have BB12 := Lib.hid (BB11.out.trans (hb.mono BB11.out.size))
    have YY12 := Lib.hid (YY11.out.below hb (by omega))
    have XW12 := Lib.hid ((hb.block _ (lt_of_block XW11.out)).trans XW11.out)
    have TB12 := Lib.hid (TB11.out.below hb (by omega))
    have XB12 := Lib.hid ((hb.block _ (lt_of_block XB11.out)).trans XB11.out)
    have IB12 := Lib.hid (IB11.out.below hb (by omega))
    have XG12 := Lib.hid ((hb.block _ (lt_of_block XG11.out)).trans XG11.out)
    have hs12 := hb.size
    clear XA11 RR11 BB11 YY11 XW11 TB11 XB11 IB11 XG11
    clear hb hdz
    go_wp2_with fail
    refine (toInts w12 w.heap.size av nv cv ys YY12.out (by omega) hnv).mono ?_
    rintro e w13 ⟨rfl, hg, hb⟩
    have IC13 := Lib.hid (own_fresh hg (lt_of_block hg))
    have hl13 := lt_of_block hg
    have XA13 := Lib.hid ((hb.block _ (lt_of_block XA12.out)).trans XA12.out)
    have RR13 := Lib.hid (RR12.out.below hb (by omega))
    have BB13 := Lib.hid (BB12.out.trans (hb.mono BB12.out.size))
    have YY13 := Lib.hid (YY12.out.below hb (by omega))
    have XW13 := Lib.hid ((hb.block _ (lt_of_block XW12.out)).trans XW12.out)
    have TB13 := Lib.hid (TB12.out.below hb (by omega))
    have XB13 := Lib.hid ((hb.block _ (lt_of_block XB12.out)).trans XB12.out)
    have IB13 := Lib.hid (IB12.out.below hb (by omega))
    have XG13 := Lib.hid ((hb.block _ (lt_of_block XG12.out)).trans XG12.out)
    have hs13 := hb.size
    clear XA12 RR12 BB12 YY12 XW12 TB12 XB12 IB12 XG12
    clear hb hg
    go_wp2_with fail
    refine (eqIntsT w13 _ _ _ _ ys.length ys.length ys IB13.out.ints IC13.out.ints hyl).mono ?_
    rintro e w14 ⟨rfl, hb⟩
    have XA14 := Lib.hid ((hb.block _ (lt_of_block XA13.out)).trans XA13.out)
    have RR14 := Lib.hid (RR13.out.below hb (by omega))
    have BB14 := Lib.hid (BB13.out.trans (hb.mono BB13.out.size))
    have YY14 := Lib.hid (YY13.out.below hb (by omega))
    have XW14 := Lib.hid ((hb.block _ (lt_of_block XW13.out)).trans XW13.out)
    have TB14 := Lib.hid (TB13.out.below hb (by omega))
    have XB14 := Lib.hid ((hb.block _ (lt_of_block XB13.out)).trans XB13.out)
    have IB14 := Lib.hid (IB13.out.below hb (by omega))
    have XG14 := Lib.hid ((hb.block _ (lt_of_block XG13.out)).trans XG13.out)
    have hs14 := hb.size
    clear XA13 RR13 BB13 YY13 XW13 TB13 XB13 IB13 XG13
    clear hb
    have y0 := one_cell XB14.out
    go_wp2_with fail
    refine (markAcks w14 _ _ g2 l.length l.length fg2 _ TB14.out (by omega) 1 (by omega) hll HV.out).mono ?_
    rintro e w15 ⟨rfl, hr, hb⟩
    have hmk : 1 + vsum (rowOf l) l.length ≤ 2000000 := by have := HV.out; omega
    generalize 1 + vsum (rowOf l) l.length = s1 at hmk ⊢
    clear hr TB14
    have XA15 := Lib.hid ((hb.block _ (by have := lt_of_block XA14.out; omega) (by omega)).trans XA14.out)
    have RR15 := Lib.hid (RR14.out.kept fun j h1 => hb.block j (by omega) (by omega))
    have BB15 := Lib.hid (BB14.out.trans (hb.below (by omega) (by omega)))
    have YY15 := Lib.hid (YY14.out.kept fun j h1 => hb.block j (by omega) (by omega))
    have XW15 := Lib.hid ((hb.block _ (by have := lt_of_block XW14.out; omega) (by omega)).trans XW14.out)
    have XB15 := Lib.hid ((hb.block _ (by have := lt_of_block XB14.out; omega) (by omega)).trans XB14.out)
    have IB15 := Lib.hid (IB14.out.kept fun j h1 h2 => hb.block j (by omega) (by omega))
    have XG15 := Lib.hid ((hb.block _ (by have := lt_of_block XG14.out; omega) (by omega)).trans XG14.out)
    have hs15 := hb.size
    clear XA14 RR14 BB14 YY14 XW14 XB14 IB14 XG14
    clear hb y0
    go_wp2_with fail
    refine (mark w15 _ _ _ ys.length ys.length ys IB15.out s1 (by omega) hyl).mono ?_
    rintro e w16 ⟨⟨m, hm, rfl⟩, ho, hO⟩
    have hb := hO.besideA
    clear IB15 ho
    have XA16 := Lib.hid ((hb.block _ (by have := lt_of_block XA15.out; omega) (by omega)).trans XA15.out)
    have RR16 := Lib.hid (RR15.out.kept fun j h1 => hb.block j (by omega) (by omega))
    have BB16 := Lib.hid (BB15.out.trans (hb.below (by omega) (by omega)))
    have YY16 := Lib.hid (YY15.out.kept fun j h1 => hb.block j (by omega) (by omega))
    have XW16 := Lib.hid ((hb.block _ (by have := lt_of_block XW15.out; omega) (by omega)).trans XW15.out)
    have XB16 := Lib.hid ((hb.block _ (by have := lt_of_block XB15.out; omega) (by omega)).trans XB15.out)
    have XG16 := Lib.hid ((hb.block _ (by have := lt_of_block XG15.out; omega) (by omega)).trans XG15.out)
    have hs16 := hb.size
    clear XA15 RR15 BB15 YY15 XW15 XB15 XG15
    clear hb hO
    have hm0 : decide ((m : Int) < 0) = false := decide_eq_false (by omega)
    clear hm
    have y0 := one_cell XG16.out
    have y1 := one_cell XW16.out
    go_wp2_with fail
    refine (eqAcksNil w16).mono ?_
    rintro e w17 ⟨rfl, hb⟩
    have XA17 := Lib.hid ((hb.block _ (lt_of_block XA16.out)).trans XA16.out)
    have RR17 := Lib.hid (RR16.out.below hb (by omega))
    have BB17 := Lib.hid (BB16.out.trans (hb.mono BB16.out.size))
    have YY17 := Lib.hid (YY16.out.below hb (by omega))
    have XW17 := Lib.hid ((hb.block _ (lt_of_block XW16.out)).trans XW16.out)
    have XB17 := Lib.hid ((hb.block _ (lt_of_block XB16.out)).trans XB16.out)
    have XG17 := Lib.hid ((hb.block _ (lt_of_block XG16.out)).trans XG16.out)
    have hs17 := hb.size
    clear XA16 RR16 BB16 YY16 XW16 XB16 XG16
    clear hb y0 y1
    have y0 := one_cell XG17.out
    go_wp2_with fail
    refine (markAcksNil w17).mono ?_
    rintro e w18 ⟨rfl, hb⟩
    have XA18 := Lib.hid ((hb.block _ (lt_of_block XA17.out)).trans XA17.out)
    have RR18 := Lib.hid (RR17.out.below hb (by omega))
    have BB18 := Lib.hid (BB17.out.trans (hb.mono BB17.out.size))
    have YY18 := Lib.hid (YY17.out.below hb (by omega))
    have XW18 := Lib.hid ((hb.block _ (lt_of_block XW17.out)).trans XW17.out)
    have XB18 := Lib.hid ((hb.block _ (lt_of_block XB17.out)).trans XB17.out)
    have XG18 := Lib.hid ((hb.block _ (lt_of_block XG17.out)).trans XG17.out)
    have hs18 := hb.size
    clear XA17 RR17 BB17 YY17 XW17 XB17 XG17
    clear hb y0
    have y0 := one_cell XG18.out
    go_wp2_with fail
    refine (heldAcksNil w18).mono ?_
    rintro e w19 ⟨rfl, hb⟩
    have XA19 := Lib.hid ((hb.block _ (lt_of_block XA18.out)).trans XA18.out)
    have RR19 := Lib.hid (RR18.out.below hb (by omega))
    have BB19 := Lib.hid (BB18.out.trans (hb.mono BB18.out.size))
    have YY19 := Lib.hid (YY18.out.below hb (by omega))
    have XW19 := Lib.hid ((hb.block _ (lt_of_block XW18.out)).trans XW18.out)
    have XB19 := Lib.hid ((hb.block _ (lt_of_block XB18.out)).trans XB18.out)
    have XG19 := Lib.hid ((hb.block _ (lt_of_block XG18.out)).trans XG18.out)
    have hs19 := hb.size
    clear XA18 RR18 BB18 YY18 XW18 XB18 XG18
    clear hb y0
    have y0 := one_cell XA19.out
    go_wp2_with fail
    refine (toAcks w19 w.heap.size a n cap l RR19.out (by omega) hno HRn.out).mono ?_
    rintro e w20 ⟨g3, rfl, ⟨fg3, hr⟩, hb⟩
    have TC20 := Lib.hid hr
    have XA20 := Lib.hid ((hb.block _ (lt_of_block XA19.out)).trans XA19.out)
    have RR20 := Lib.hid (RR19.out.below hb (by omega))
    have BB20 := Lib.hid (BB19.out.trans (hb.mono BB19.out.size))
    have YY20 := Lib.hid (YY19.out.below hb (by omega))
    have XW20 := Lib.hid ((hb.block _ (lt_of_block XW19.out)).trans XW19.out)
    have XB20 := Lib.hid ((hb.block _ (lt_of_block XB19.out)).trans XB19.out)
    have XG20 := Lib.hid ((hb.block _ (lt_of_block XG19.out)).trans XG19.out)
    have hs20 := hb.size
    clear XA19 RR19 BB19 YY19 XW19 XB19 XG19
    clear hr hb y0
    go_wp2_with fail
    refine (toInts w20 w.heap.size av nv cv ys YY20.out (by omega) hnv).mono ?_
    rintro e w21 ⟨rfl, hg, hb⟩
    have ID21 := Lib.hid (own_fresh hg (lt_of_block hg))
    have hl21 := lt_of_block hg
    have XA21 := Lib.hid ((hb.block _ (lt_of_block XA20.out)).trans XA20.out)
    have RR21 := Lib.hid (RR20.out.below hb (by omega))
    have BB21 := Lib.hid (BB20.out.trans (hb.mono BB20.out.size))
    have YY21 := Lib.hid (YY20.out.below hb (by omega))
    have XW21 := Lib.hid ((hb.block _ (lt_of_block XW20.out)).trans XW20.out)
    have XB21 := Lib.hid ((hb.block _ (lt_of_block XB20.out)).trans XB20.out)
    have XG21 := Lib.hid ((hb.block _ (lt_of_block XG20.out)).trans XG20.out)
    have TC21 := Lib.hid (TC20.out.below hb (by omega))
    have hs21 := hb.size
    clear XA20 RR20 BB20 YY20 XW20 XB20 XG20 TC20
    clear hb hg
    have HSp := Lib.hid (implHeard w21 w21.heap.size _ _ l.length l.length ys.length ys.length dev l ys ((TC21.out.irows rfl).more (by omega)) (ID21.out.ints.more (by omega)) (Nat.le_refl _) hll hyl HR.out)
    go_wp2_with fail
    refine HSp.out.mono ?_
    rintro e w22 hp
    obtain ⟨rfl, hb⟩ := hp.no HHB.out
    have XA22 := Lib.hid ((hb.block _ (lt_of_block XA21.out)).trans XA21.out)
    have RR22 := Lib.hid (RR21.out.below hb (by omega))
    have BB22 := Lib.hid (BB21.out.trans (hb.mono BB21.out.size))
    have YY22 := Lib.hid (YY21.out.below hb (by omega))
    have XW22 := Lib.hid ((hb.block _ (lt_of_block XW21.out)).trans XW21.out)
    have XB22 := Lib.hid ((hb.block _ (lt_of_block XB21.out)).trans XB21.out)
    have XG22 := Lib.hid ((hb.block _ (lt_of_block XG21.out)).trans XG21.out)
    have TC22 := Lib.hid (TC21.out.below hb (by omega))
    have ID22 := Lib.hid (ID21.out.below hb (by omega))
    have hs22 := hb.size
    clear XA21 RR21 BB21 YY21 XW21 XB21 XG21 TC21 ID21
    clear hb hp HSp
    go_upto_region 31 with fail
    have hb23 : Below w22.heap.size w22 (w22.alloc (.cells #[.slice none 0 0] 53)) := (Below.refl _ _).alloc (Nat.le_refl _) _
    have XH23 := Lib.hid (heap_alloc_new w22 (.cells #[.slice none 0 0] 53))
    have hz23 : w22.heap.size < (w22.alloc (.cells #[.slice none 0 0] 53)).heap.size := by show _ < (w22.heap.push _).size; simp
    generalize w22.alloc (.cells #[.slice none 0 0] 53) = w23 at hb23 XH23 hz23 ⊢
    have XA23 := Lib.hid ((hb23.block _ (lt_of_block XA22.out)).trans XA22.out)
    have RR23 := Lib.hid (RR22.out.below hb23 (by omega))
    have BB23 := Lib.hid (BB22.out.trans (hb23.mono BB22.out.size))
    have YY23 := Lib.hid (YY22.out.below hb23 (by omega))
    have XW23 := Lib.hid ((hb23.block _ (lt_of_block XW22.out)).trans XW22.out)
    have XB23 := Lib.hid ((hb23.block _ (lt_of_block XB22.out)).trans XB22.out)
    have XG23 := Lib.hid ((hb23.block _ (lt_of_block XG22.out)).trans XG22.out)
    have TC23 := Lib.hid (TC22.out.below hb23 (by omega))
    have ID23 := Lib.hid (ID22.out.below hb23 (by omega))
    have hs23 := hb23.size
    clear XA22 RR22 BB22 YY22 XW22 XB22 XG22 TC22 ID22
    clear hb23
    have y0 := one_cell XH23.out
    have y1 := one_cell XW23.out
    go_wp2_with fail
    refine (eqAcksNil w23).mono ?_
    rintro e w24 ⟨rfl, hb⟩
    have XA24 := Lib.hid ((hb.block _ (lt_of_block XA23.out)).trans XA23.out)
    have RR24 := Lib.hid (RR23.out.below hb (by omega))
    have BB24 := Lib.hid (BB23.out.trans (hb.mono BB23.out.size))
    have YY24 := Lib.hid (YY23.out.below hb (by omega))
    have XW24 := Lib.hid ((hb.block _ (lt_of_block XW23.out)).trans XW23.out)
    have XB24 := Lib.hid ((hb.block _ (lt_of_block XB23.out)).trans XB23.out)
    have XG24 := Lib.hid ((hb.block _ (lt_of_block XG23.out)).trans XG23.out)
    have TC24 := Lib.hid (TC23.out.below hb (by omega))
    have ID24 := Lib.hid (ID23.out.below hb (by omega))
    have XH24 := Lib.hid ((hb.block _ (lt_of_block XH23.out)).trans XH23.out)
    have hs24 := hb.size
    clear XA23 RR23 BB23 YY23 XW23 XB23 XG23 TC23 ID23 XH23
    clear hb y0 y1
    have y0 := one_cell XG24.out
    go_wp2_with fail
    refine (heldAcksNil w24).mono ?_
    rintro e w25 ⟨rfl, hb⟩
    have XA25 := Lib.hid ((hb.block _ (lt_of_block XA24.out)).trans XA24.out)
    have RR25 := Lib.hid (RR24.out.below hb (by omega))
    have BB25 := Lib.hid (BB24.out.trans (hb.mono BB24.out.size))
    have YY25 := Lib.hid (YY24.out.below hb (by omega))
    have XW25 := Lib.hid ((hb.block _ (lt_of_block XW24.out)).trans XW24.out)
    have XB25 := Lib.hid ((hb.block _ (lt_of_block XB24.out)).trans XB24.out)
    have XG25 := Lib.hid ((hb.block _ (lt_of_block XG24.out)).trans XG24.out)
    have TC25 := Lib.hid (TC24.out.below hb (by omega))
    have ID25 := Lib.hid (ID24.out.below hb (by omega))
    have XH25 := Lib.hid ((hb.block _ (lt_of_block XH24.out)).trans XH24.out)
    have hs25 := hb.size
    clear XA24 RR24 BB24 YY24 XW24 XB24 XG24 TC24 ID24 XH24
    clear hb y0
    go_wp2
    go_ret
    exact ⟨rfl, BB25.out⟩
  · skip
    obtain ⟨hok, hdv, hvk⟩ := heard_parts hhb
    obtain ⟨d, hd4, hdd⟩ := dev_nat hdv
    have HHB := Lib.hid hhb
    have HHd := Lib.hid hdd
    have hl4 : ∀ i, i < 4 → (rowOf (heardRows l d ys) i).length = 4 := fun i hi => vec_len (heard_ok hok hd4 hvk hi)
    have HL4 := Lib.hid hl4
    have HLr : Hid ((heardRows l d ys).length = 4) := by show _ = _; rw [heard_len, (ack_row hok (i := 0) (by omega)).2]
    have HVr : Hid (vsum (rowOf (heardRows l d ys)) 4 ≤ 1048576) := by show _ ≤ _; rw [vsum4 hl4]; omega
    have HRr : Hid (∀ i, i < 4 → (rowOf (heardRows l d ys) i).length ≤ 1048576) := fun i hi => by rw [hl4 i hi]; omega
    clear hl4 hok hdv hvk hhb hdd
    go_wp2_with fail
    refine HSp.out.mono ?_
    rintro e w4 hp
    obtain ⟨gw, cw, fw, rfl, hr, hb⟩ := hp.yes HHB.out HHd.out
    have TW4 := Lib.hid hr
    have XA4 := Lib.hid ((hb.block _ (lt_of_block XA3.out)).trans XA3.out)
    have RR4 := Lib.hid (RR3.out.below hb (by omega))
    have BB4 := Lib.hid (BB3.out.trans (hb.mono BB3.out.size))
    have YY4 := Lib.hid (YY3.out.below hb (by omega))
    have hs4 := hb.size
    clear XA3 RR3 BB3 YY3
    clear hb hp HSp hr
    go_upto_region 8 with fail
    have hb5 : Below w4.heap.size w4 (w4.alloc (.cells #[.slice (some ⟨gw, 0, none⟩) 4 cw] 53)) := (Below.refl _ _).alloc (Nat.le_refl _) _
    have XW5 := Lib.hid (heap_alloc_new w4 (.cells #[.slice (some ⟨gw, 0, none⟩) 4 cw] 53))
    have hz5 : w4.heap.size < (w4.alloc (.cells #[.slice (some ⟨gw, 0, none⟩) 4 cw] 53)).heap.size := by show _ < (w4.heap.push _).size; simp
    generalize w4.alloc (.cells #[.slice (some ⟨gw, 0, none⟩) 4 cw] 53) = w5 at hb5 XW5 hz5 ⊢
    have XA5 := Lib.hid ((hb5.block _ (lt_of_block XA4.out)).trans XA4.out)
    have RR5 := Lib.hid (RR4.out.below hb5 (by omega))
    have BB5 := Lib.hid (BB4.out.trans (hb5.mono BB4.out.size))
    have YY5 := Lib.hid (YY4.out.below hb5 (by omega))
    have TW5 := Lib.hid (TW4.out.below hb5 (by omega))
    have hs5 := hb5.size
    clear XA4 RR4 BB4 YY4 TW4
    clear hb5
    have y0 := one_cell XA5.out
    go_wp2_with fail
    refine (toAcks w5 w.heap.size a n cap l RR5.out (by omega) hno HRn.out).mono ?_
    rintro e w6 ⟨g2, rfl, ⟨fg2, hr⟩, hb⟩
    have TB6 := Lib.hid hr
    have XA6 := Lib.hid ((hb.block _ (lt_of_block XA5.out)).trans XA5.out)
    have RR6 := Lib.hid (RR5.out.below hb (by omega))
    have BB6 := Lib.hid (BB5.out.trans (hb.mono BB5.out.size))
    have YY6 := Lib.hid (YY5.out.below hb (by omega))
    have TW6 := Lib.hid (TW5.out.below hb (by omega))
    have XW6 := Lib.hid ((hb.block _ (lt_of_block XW5.out)).trans XW5.out)
    have hs6 := hb.size
    clear XA5 RR5 BB5 YY5 TW5 XW5
    clear hr hb y0
    go_upto_region 9 with fail
    have hb7 : Below w6.heap.size w6 (w6.alloc (.cells #[.slice (some ⟨g2, 0, none⟩) l.length l.length] 53)) := (Below.refl _ _).alloc (Nat.le_refl _) _
    have XB7 := Lib.hid (heap_alloc_new w6 (.cells #[.slice (some ⟨g2, 0, none⟩) l.length l.length] 53))
    have hz7 : w6.heap.size < (w6.alloc (.cells #[.slice (some ⟨g2, 0, none⟩) l.length l.length] 53)).heap.size := by show _ < (w6.heap.push _).size; simp
    generalize w6.alloc (.cells #[.slice (some ⟨g2, 0, none⟩) l.length l.length] 53) = w7 at hb7 XB7 hz7 ⊢
    have XA7 := Lib.hid ((hb7.block _ (lt_of_block XA6.out)).trans XA6.out)
    have RR7 := Lib.hid (RR6.out.below hb7 (by omega))
    have BB7 := Lib.hid (BB6.out.trans (hb7.mono BB6.out.size))
    have YY7 := Lib.hid (YY6.out.below hb7 (by omega))
    have TW7 := Lib.hid (TW6.out.below hb7 (by omega))
    have XW7 := Lib.hid ((hb7.block _ (lt_of_block XW6.out)).trans XW6.out)
    have TB7 := Lib.hid (TB6.out.below hb7 (by omega))
    have hs7 := hb7.size
    clear XA6 RR6 BB6 YY6 TW6 XW6 TB6
    clear hb7
    go_wp2_with fail
    refine (toInts w7 w.heap.size av nv cv ys YY7.out (by omega) hnv).mono ?_
    rintro e w8 ⟨rfl, hg, hb⟩
    have IB8 := Lib.hid (own_fresh hg (lt_of_block hg))
    have hl8 := lt_of_block hg
    have XA8 := Lib.hid ((hb.block _ (lt_of_block XA7.out)).trans XA7.out)
    have RR8 := Lib.hid (RR7.out.below hb (by omega))
    have BB8 := Lib.hid (BB7.out.trans (hb.mono BB7.out.size))
    have YY8 := Lib.hid (YY7.out.below hb (by omega))
    have TW8 := Lib.hid (TW7.out.below hb (by omega))
    have XW8 := Lib.hid ((hb.block _ (lt_of_block XW7.out)).trans XW7.out)
    have TB8 := Lib.hid (TB7.out.below hb (by omega))
    have XB8 := Lib.hid ((hb.block _ (lt_of_block XB7.out)).trans XB7.out)
    have hs8 := hb.size
    clear XA7 RR7 BB7 YY7 TW7 XW7 TB7 XB7
    clear hb hg
    have HSp := Lib.hid (implHeard w8 w8.heap.size _ _ l.length l.length ys.length ys.length dev l ys ((TB8.out.irows rfl).more (by omega)) (IB8.out.ints.more (by omega)) (Nat.le_refl _) hll hyl HR.out)
    have y0 := one_cell XB8.out
    go_wp2_with fail
    refine HSp.out.mono ?_
    rintro e w9 hp
    obtain ⟨gg, cg, fg, rfl, hr, hb⟩ := hp.yes HHB.out HHd.out
    have TG9 := Lib.hid hr
    have XA9 := Lib.hid ((hb.block _ (lt_of_block XA8.out)).trans XA8.out)
    have RR9 := Lib.hid (RR8.out.below hb (by omega))
    have BB9 := Lib.hid (BB8.out.trans (hb.mono BB8.out.size))
    have YY9 := Lib.hid (YY8.out.below hb (by omega))
    have TW9 := Lib.hid (TW8.out.below hb (by omega))
    have XW9 := Lib.hid ((hb.block _ (lt_of_block XW8.out)).trans XW8.out)
    have TB9 := Lib.hid (TB8.out.below hb (by omega))
    have XB9 := Lib.hid ((hb.block _ (lt_of_block XB8.out)).trans XB8.out)
    have IB9 := Lib.hid (IB8.out.below hb (by omega))
    have hs9 := hb.size
    clear XA8 RR8 BB8 YY8 TW8 XW8 TB8 XB8 IB8
    clear hb hp HSp hr y0
    go_upto_region 11 with fail
    have hb10 : Below w9.heap.size w9 (w9.alloc (.cells #[.slice (some ⟨gg, 0, none⟩) 4 cg] 53)) := (Below.refl _ _).alloc (Nat.le_refl _) _
    have XG10 := Lib.hid (heap_alloc_new w9 (.cells #[.slice (some ⟨gg, 0, none⟩) 4 cg] 53))
    have hz10 : w9.heap.size < (w9.alloc (.cells #[.slice (some ⟨gg, 0, none⟩) 4 cg] 53)).heap.size := by show _ < (w9.heap.push _).size; simp
    generalize w9.alloc (.cells #[.slice (some ⟨gg, 0, none⟩) 4 cg] 53) = w10 at hb10 XG10 hz10 ⊢
    have XA10 := Lib.hid ((hb10.block _ (lt_of_block XA9.out)).trans XA9.out)
    have RR10 := Lib.hid (RR9.out.below hb10 (by omega))
    have BB10 := Lib.hid (BB9.out.trans (hb10.mono BB9.out.size))
    have YY10 := Lib.hid (YY9.out.below hb10 (by omega))
    have TW10 := Lib.hid (TW9.out.below hb10 (by omega))
    have XW10 := Lib.hid ((hb10.block _ (lt_of_block XW9.out)).trans XW9.out)
    have TB10 := Lib.hid (TB9.out.below hb10 (by omega))
    have XB10 := Lib.hid ((hb10.block _ (lt_of_block XB9.out)).trans XB9.out)
    have IB10 := Lib.hid (IB9.out.below hb10 (by omega))
    have TG10 := Lib.hid (TG9.out.below hb10 (by omega))
    have hs10 := hb10.size
    clear XA9 RR9 BB9 YY9 TW9 XW9 TB9 XB9 IB9 TG9
    clear hb10
    have y0 := one_cell XG10.out
    have y1 := one_cell XW10.out
    go_wp2_with fail
    refine (eqAcks w10 _ _ _ _ 4 cg cw (heardRows l d ys) (TG10.out.irows HLr.out) (TW10.out.irows HLr.out) (by omega) (by omega) (by omega) HRr.out).mono ?_
    rintro e w11 ⟨rfl, hb⟩
    have XA11 := Lib.hid ((hb.block _ (lt_of_block XA10.out)).trans XA10.out)
    have RR11 := Lib.hid (RR10.out.below hb (by omega))
    have BB11 := Lib.hid (BB10.out.trans (hb.mono BB10.out.size))
    have YY11 := Lib.hid (YY10.out.below hb (by omega))
    have TW11 := Lib.hid (TW10.out.below hb (by omega))
    have XW11 := Lib.hid ((hb.block _ (lt_of_block XW10.out)).trans XW10.out)
    have TB11 := Lib.hid (TB10.out.below hb (by omega))
    have XB11 := Lib.hid ((hb.block _ (lt_of_block XB10.out)).trans XB10.out)
    have IB11 := Lib.hid (IB10.out.below hb (by omega))
    have TG11 := Lib.hid (TG10.out.below hb (by omega))
    have XG11 := Lib.hid ((hb.block _ (lt_of_block XG10.out)).trans XG10.out)
    have hs11 := hb.size
    clear XA10 RR10 BB10 YY10 TW10 XW10 TB10 XB10 IB10 TG10 XG10
    clear hb y0 y1
    go_upto_region 13 with fail
    have y1 := one_cell XB11.out
    have y2 := one_cell XA11.out
    have hl1 := block_lt_of_cell y1
    have hl2 := block_lt_of_cell y2
    have hS6 : w11.drew.cell? ⟨w6.heap.size, 0, none⟩ = some (.slice (some ⟨g2, 0, none⟩) l.length l.length) ∧ w11.drew.cell? ⟨w.heap.size, 0, none⟩ = some (.slice a n cap) := ⟨y1, y2⟩
    have HTc := Lib.hid (toAcks w11.drew w.heap.size a n cap l (RR11.out.kept (w' := w11.drew) fun _ _ => rfl) (by show _ ≤ w11.heap.size; omega) hno HRn.out)
    have hdz : w11.heap.size = w11.drew.heap.size := rfl
    go_region_held3 (fun w' => w'.cell? ⟨w6.heap.size, 0, none⟩ = some (.slice (some ⟨g2, 0, none⟩) l.length l.length) ∧ w'.cell? ⟨w.heap.size, 0, none⟩ = some (.slice a n cap)) (first | with_reducible exact hS6 | with_reducible exact hS7 | with_reducible exact hS8)
      (first | (go_at_call 41; refine HTc.out.mono ?_; rintro e wa ⟨gx, rfl, ⟨fx, hr7⟩, hb7⟩; have hS7 : wa.cell? ⟨w6.heap.size, 0, none⟩ = some (.slice (some ⟨g2, 0, none⟩) l.length l.length) ∧ wa.cell? ⟨w.heap.size, 0, none⟩ = some (.slice a n cap) := ⟨(hb7.cell (p := ⟨w6.heap.size, 0, none⟩) hl1).trans hS6.1, (hb7.cell (p := ⟨w.heap.size, 0, none⟩) hl2).trans hS6.2⟩) | (go_at_call 36; refine (eqAcks wa wa.heap.size wa.heap.size _ _ l.length l.length l.length l ((TB11.out.below (Below.mk hb7.os hb7.tape hb7.output hb7.size hb7.block : Below w11.heap.size w11 wa) (by omega)).irows rfl |>.more (Nat.le_trans (by omega) hb7.size)) (hr7.irows rfl) (Nat.le_refl _) (Nat.le_refl _) hll HR.out).mono ?_; rintro e w12 ⟨rfl, hb8⟩; have hS8 : w12.cell? ⟨w6.heap.size, 0, none⟩ = some (.slice (some ⟨g2, 0, none⟩) l.length l.length) ∧ w12.cell? ⟨w.heap.size, 0, none⟩ = some (.slice a n cap) := ⟨(hb8.cell (block_lt_of_cell hS7.1)).trans hS7.1, (hb8.cell (block_lt_of_cell hS7.2)).trans hS7.2⟩))
    have hb : Below w11.heap.size w11 w12 := (Below.mk hb7.os hb7.tape hb7.output hb7.size hb7.block : Below w11.heap.size w11 wa).trans (hb8.mono hb7.size)
    clear hS6 hS7 hS8 hb7 hb8 hr7 y1 y2
    have XA12 := Lib.hid ((hb.block _ (lt_of_block XA11.out)).trans XA11.out)
    have RR12 := Lib.hid (RR11.out.below hb (by omega))
    have BB12 := Lib.hid (BB11.out.trans (hb.mono BB11.out.size))
    have YY12 := Lib.hid (YY11.out.below hb (by omega))
    have TW12 := Lib.hid (TW11.out.below hb (by omega))
    have XW12 := Lib.hid ((hb.block _ (lt_of_block XW11.out)).trans XW11.out)
    have TB12 := Lib.hid (TB11.out.below hb (by omega))
    have XB12 := Lib.hid ((hb.block _ (lt_of_block XB11.out)).trans XB11.out)
    have IB12 := Lib.hid (IB11.out.below hb (by omega))
    have TG12 := Lib.hid (TG11.out.below hb (by omega))
    have XG12 := Lib.hid ((hb.block _ (lt_of_block XG11.out)).trans XG11.out)
    have hs12 := hb.size
    clear XA11 RR11 BB11 YY11 TW11 XW11 TB11 XB11 IB11 TG11 XG11
    clear hb hdz
    go_wp2_with fail
    refine (toInts w12 w.heap.size av nv cv ys YY12.out (by omega) hnv).mono ?_
    rintro e w13 ⟨rfl, hg, hb⟩
    have IC13 := Lib.hid (own_fresh hg (lt_of_block hg))
    have hl13 := lt_of_block hg
    have XA13 := Lib.hid ((hb.block _ (lt_of_block XA12.out)).trans XA12.out)
    have RR13 := Lib.hid (RR12.out.below hb (by omega))
    have BB13 := Lib.hid (BB12.out.trans (hb.mono BB12.out.size))
    have YY13 := Lib.hid (YY12.out.below hb (by omega))
    have TW13 := Lib.hid (TW12.out.below hb (by omega))
    have XW13 := Lib.hid ((hb.block _ (lt_of_block XW12.out)).trans XW12.out)
    have TB13 := Lib.hid (TB12.out.below hb (by omega))
    have XB13 := Lib.hid ((hb.block _ (lt_of_block XB12.out)).trans XB12.out)
    have IB13 := Lib.hid (IB12.out.below hb (by omega))
    have TG13 := Lib.hid (TG12.out.below hb (by omega))
    have XG13 := Lib.hid ((hb.block _ (lt_of_block XG12.out)).trans XG12.out)
    have hs13 := hb.size
    clear XA12 RR12 BB12 YY12 TW12 XW12 TB12 XB12 IB12 TG12 XG12
    clear hb hg
    go_wp2_with fail
    refine (eqIntsT w13 _ _ _ _ ys.length ys.length ys IB13.out.ints IC13.out.ints hyl).mono ?_
    rintro e w14 ⟨rfl, hb⟩
    have XA14 := Lib.hid ((hb.block _ (lt_of_block XA13.out)).trans XA13.out)
    have RR14 := Lib.hid (RR13.out.below hb (by omega))
    have BB14 := Lib.hid (BB13.out.trans (hb.mono BB13.out.size))
    have YY14 := Lib.hid (YY13.out.below hb (by omega))
    have TW14 := Lib.hid (TW13.out.below hb (by omega))
    have XW14 := Lib.hid ((hb.block _ (lt_of_block XW13.out)).trans XW13.out)
    have TB14 := Lib.hid (TB13.out.below hb (by omega))
    have XB14 := Lib.hid ((hb.block _ (lt_of_block XB13.out)).trans XB13.out)
    have IB14 := Lib.hid (IB13.out.below hb (by omega))
    have TG14 := Lib.hid (TG13.out.below hb (by omega))
    have XG14 := Lib.hid ((hb.block _ (lt_of_block XG13.out)).trans XG13.out)
    have hs14 := hb.size
    clear XA13 RR13 BB13 YY13 TW13 XW13 TB13 XB13 IB13 TG13 XG13
    clear hb
    have y0 := one_cell XB14.out
    go_wp2_with fail
    refine (markAcks w14 _ _ g2 l.length l.length fg2 _ TB14.out (by omega) 1 (by omega) hll HV.out).mono ?_
    rintro e w15 ⟨rfl, hr, hb⟩
    have hmk : 1 + vsum (rowOf l) l.length ≤ 2000000 := by have := HV.out; omega
    generalize 1 + vsum (rowOf l) l.length = s1 at hmk ⊢
    clear hr TB14
    have XA15 := Lib.hid ((hb.block _ (by have := lt_of_block XA14.out; omega) (by omega)).trans XA14.out)
    have RR15 := Lib.hid (RR14.out.kept fun j h1 => hb.block j (by omega) (by omega))
    have BB15 := Lib.hid (BB14.out.trans (hb.below (by omega) (by omega)))
    have YY15 := Lib.hid (YY14.out.kept fun j h1 => hb.block j (by omega) (by omega))
    have TW15 := Lib.hid (TW14.out.kept fun j h1 h2 => hb.block j (by omega) (by omega))
    have XW15 := Lib.hid ((hb.block _ (by have := lt_of_block XW14.out; omega) (by omega)).trans XW14.out)
    have XB15 := Lib.hid ((hb.block _ (by have := lt_of_block XB14.out; omega) (by omega)).trans XB14.out)
    have IB15 := Lib.hid (IB14.out.kept fun j h1 h2 => hb.block j (by omega) (by omega))
    have TG15 := Lib.hid (TG14.out.kept fun j h1 h2 => hb.block j (by omega) (by omega))
    have XG15 := Lib.hid ((hb.block _ (by have := lt_of_block XG14.out; omega) (by omega)).trans XG14.out)
    have hs15 := hb.size
    clear XA14 RR14 BB14 YY14 TW14 XW14 XB14 IB14 TG14 XG14
    clear hb y0
    go_wp2_with fail
    refine (mark w15 _ _ _ ys.length ys.length ys IB15.out s1 (by omega) hyl).mono ?_
    rintro e w16 ⟨⟨m, hm, rfl⟩, ho, hO⟩
    have hb := hO.besideA
    clear IB15 ho
    have XA16 := Lib.hid ((hb.block _ (by have := lt_of_block XA15.out; omega) (by omega)).trans XA15.out)
    have RR16 := Lib.hid (RR15.out.kept fun j h1 => hb.block j (by omega) (by omega))
    have BB16 := Lib.hid (BB15.out.trans (hb.below (by omega) (by omega)))
    have YY16 := Lib.hid (YY15.out.kept fun j h1 => hb.block j (by omega) (by omega))
    have TW16 := Lib.hid (TW15.out.kept fun j h1 h2 => hb.block j (by omega) (by omega))
    have XW16 := Lib.hid ((hb.block _ (by have := lt_of_block XW15.out; omega) (by omega)).trans XW15.out)
    have XB16 := Lib.hid ((hb.block _ (by have := lt_of_block XB15.out; omega) (by omega)).trans XB15.out)
    have TG16 := Lib.hid (TG15.out.kept fun j h1 h2 => hb.block j (by omega) (by omega))
    have XG16 := Lib.hid ((hb.block _ (by have := lt_of_block XG15.out; omega) (by omega)).trans XG15.out)
    have hs16 := hb.size
    clear XA15 RR15 BB15 YY15 TW15 XW15 XB15 TG15 XG15
    clear hb hO
    have hm0 : decide ((m : Int) < 0) = false := decide_eq_false (by omega)
    clear hm
    have y0 := one_cell XG16.out
    have y1 := one_cell XW16.out
    go_wp2_with fail
    refine (eqAcks w16 _ _ _ _ 4 cg cw (heardRows l d ys) (TG16.out.irows HLr.out) (TW16.out.irows HLr.out) (by omega) (by omega) (by omega) HRr.out).mono ?_
    rintro e w17 ⟨rfl, hb⟩
    have XA17 := Lib.hid ((hb.block _ (lt_of_block XA16.out)).trans XA16.out)
    have RR17 := Lib.hid (RR16.out.below hb (by omega))
    have BB17 := Lib.hid (BB16.out.trans (hb.mono BB16.out.size))
    have YY17 := Lib.hid (YY16.out.below hb (by omega))
    have TW17 := Lib.hid (TW16.out.below hb (by omega))
    have XW17 := Lib.hid ((hb.block _ (lt_of_block XW16.out)).trans XW16.out)
    have XB17 := Lib.hid ((hb.block _ (lt_of_block XB16.out)).trans XB16.out)
    have TG17 := Lib.hid (TG16.out.below hb (by omega))
    have XG17 := Lib.hid ((hb.block _ (lt_of_block XG16.out)).trans XG16.out)
    have hs17 := hb.size
    clear XA16 RR16 BB16 YY16 TW16 XW16 XB16 TG16 XG16
    clear hb y0 y1
    have y0 := one_cell XG17.out
    go_wp2_with fail
    refine (markAcks w17 _ _ gg 4 cg fg _ TG17.out (by omega) 1 (by omega) (by omega) HVr.out).mono ?_
    rintro e w18 ⟨rfl, hr, hb⟩
    have TG18 := Lib.hid hr
    have XA18 := Lib.hid ((hb.block _ (by have := lt_of_block XA17.out; omega) (by omega)).trans XA17.out)
    have RR18 := Lib.hid (RR17.out.kept fun j h1 => hb.block j (by omega) (by omega))
    have BB18 := Lib.hid (BB17.out.trans (hb.below (by omega) (by omega)))
    have YY18 := Lib.hid (YY17.out.kept fun j h1 => hb.block j (by omega) (by omega))
    have TW18 := Lib.hid (TW17.out.kept fun j h1 h2 => hb.block j (by omega) (by omega))
    have XW18 := Lib.hid ((hb.block _ (by have := lt_of_block XW17.out; omega) (by omega)).trans XW17.out)
    have XB18 := Lib.hid ((hb.block _ (by have := lt_of_block XB17.out; omega) (by omega)).trans XB17.out)
    have XG18 := Lib.hid ((hb.block _ (by have := lt_of_block XG17.out; omega) (by omega)).trans XG17.out)
    have hs18 := hb.size
    clear XA17 RR17 BB17 YY17 TW17 XW17 XB17 XG17
    clear hb hr y0 TG17
    obtain ⟨s2, hse⟩ : ∃ s2, s2 = 1 + vsum (rowOf (heardRows l d ys)) 4 := ⟨_, rfl⟩
    have hsl : s2 ≤ 2000000 := by have := HVr.out; omega
    have hsn : decide ((s2 : Int) < 0) = false := decide_eq_false (by omega)
    rw [← hse]
    have HS := Lib.hid hse
    clear hse
    have y0 := one_cell XG18.out
    go_wp2_with fail
    refine (heldAcks w18 _ _ gg 4 cg fg _ 1 TG18.out (by omega) (by omega) (by omega) HVr.out).mono ?_
    rintro e w19 ⟨rfl, hb⟩
    rw [← HS.out]
    have XA19 := Lib.hid ((hb.block _ (lt_of_block XA18.out)).trans XA18.out)
    have RR19 := Lib.hid (RR18.out.below hb (by omega))
    have BB19 := Lib.hid (BB18.out.trans (hb.mono BB18.out.size))
    have YY19 := Lib.hid (YY18.out.below hb (by omega))
    have TW19 := Lib.hid (TW18.out.below hb (by omega))
    have XW19 := Lib.hid ((hb.block _ (lt_of_block XW18.out)).trans XW18.out)
    have XB19 := Lib.hid ((hb.block _ (lt_of_block XB18.out)).trans XB18.out)
    have TG19 := Lib.hid (TG18.out.below hb (by omega))
    have XG19 := Lib.hid ((hb.block _ (lt_of_block XG18.out)).trans XG18.out)
    have hs19 := hb.size
    clear XA18 RR18 BB18 YY18 TW18 XW18 XB18 TG18 XG18
    clear hb y0
    have y0 := one_cell XA19.out
    go_wp2_with fail
    refine (toAcks w19 w.heap.size a n cap l RR19.out (by omega) hno HRn.out).mono ?_
    rintro e w20 ⟨g3, rfl, ⟨fg3, hr⟩, hb⟩
    have TC20 := Lib.hid hr
    have XA20 := Lib.hid ((hb.block _ (lt_of_block XA19.out)).trans XA19.out)
    have RR20 := Lib.hid (RR19.out.below hb (by omega))
    have BB20 := Lib.hid (BB19.out.trans (hb.mono BB19.out.size))
    have YY20 := Lib.hid (YY19.out.below hb (by omega))
    have TW20 := Lib.hid (TW19.out.below hb (by omega))
    have XW20 := Lib.hid ((hb.block _ (lt_of_block XW19.out)).trans XW19.out)
    have XB20 := Lib.hid ((hb.block _ (lt_of_block XB19.out)).trans XB19.out)
    have TG20 := Lib.hid (TG19.out.below hb (by omega))
    have XG20 := Lib.hid ((hb.block _ (lt_of_block XG19.out)).trans XG19.out)
    have hs20 := hb.size
    clear XA19 RR19 BB19 YY19 TW19 XW19 XB19 TG19 XG19
    clear hr hb y0
    go_wp2_with fail
    refine (toInts w20 w.heap.size av nv cv ys YY20.out (by omega) hnv).mono ?_
    rintro e w21 ⟨rfl, hg, hb⟩
    have ID21 := Lib.hid (own_fresh hg (lt_of_block hg))
    have hl21 := lt_of_block hg
    have XA21 := Lib.hid ((hb.block _ (lt_of_block XA20.out)).trans XA20.out)
    have RR21 := Lib.hid (RR20.out.below hb (by omega))
    have BB21 := Lib.hid (BB20.out.trans (hb.mono BB20.out.size))
    have YY21 := Lib.hid (YY20.out.below hb (by omega))
    have TW21 := Lib.hid (TW20.out.below hb (by omega))
    have XW21 := Lib.hid ((hb.block _ (lt_of_block XW20.out)).trans XW20.out)
    have XB21 := Lib.hid ((hb.block _ (lt_of_block XB20.out)).trans XB20.out)
    have TG21 := Lib.hid (TG20.out.below hb (by omega))
    have XG21 := Lib.hid ((hb.block _ (lt_of_block XG20.out)).trans XG20.out)
    have TC21 := Lib.hid (TC20.out.below hb (by omega))
    have hs21 := hb.size
    clear XA20 RR20 BB20 YY20 TW20 XW20 XB20 TG20 XG20 TC20
    clear hb hg
    have HSp := Lib.hid (implHeard w21 w21.heap.size _ _ l.length l.length ys.length ys.length dev l ys ((TC21.out.irows rfl).more (by omega)) (ID21.out.ints.more (by omega)) (Nat.le_refl _) hll hyl HR.out)
    go_wp2_with fail
    refine HSp.out.mono ?_
    rintro e w22 hp
    obtain ⟨gh, ch, fh, rfl, hr, hb⟩ := hp.yes HHB.out HHd.out
    have TH22 := Lib.hid hr
    have XA22 := Lib.hid ((hb.block _ (lt_of_block XA21.out)).trans XA21.out)
    have RR22 := Lib.hid (RR21.out.below hb (by omega))
    have BB22 := Lib.hid (BB21.out.trans (hb.mono BB21.out.size))
    have YY22 := Lib.hid (YY21.out.below hb (by omega))
    have TW22 := Lib.hid (TW21.out.below hb (by omega))
    have XW22 := Lib.hid ((hb.block _ (lt_of_block XW21.out)).trans XW21.out)
    have XB22 := Lib.hid ((hb.block _ (lt_of_block XB21.out)).trans XB21.out)
    have TG22 := Lib.hid (TG21.out.below hb (by omega))
    have XG22 := Lib.hid ((hb.block _ (lt_of_block XG21.out)).trans XG21.out)
    have TC22 := Lib.hid (TC21.out.below hb (by omega))
    have ID22 := Lib.hid (ID21.out.below hb (by omega))
    have hs22 := hb.size
    clear XA21 RR21 BB21 YY21 TW21 XW21 XB21 TG21 XG21 TC21 ID21
    clear hb hp HSp hr
    go_upto_region 31 with fail
    have hb23 : Below w22.heap.size w22 (w22.alloc (.cells #[.slice (some ⟨gh, 0, none⟩) 4 ch] 53)) := (Below.refl _ _).alloc (Nat.le_refl _) _
    have XH23 := Lib.hid (heap_alloc_new w22 (.cells #[.slice (some ⟨gh, 0, none⟩) 4 ch] 53))
    have hz23 : w22.heap.size < (w22.alloc (.cells #[.slice (some ⟨gh, 0, none⟩) 4 ch] 53)).heap.size := by show _ < (w22.heap.push _).size; simp
    generalize w22.alloc (.cells #[.slice (some ⟨gh, 0, none⟩) 4 ch] 53) = w23 at hb23 XH23 hz23 ⊢
    have XA23 := Lib.hid ((hb23.block _ (lt_of_block XA22.out)).trans XA22.out)
    have RR23 := Lib.hid (RR22.out.below hb23 (by omega))
    have BB23 := Lib.hid (BB22.out.trans (hb23.mono BB22.out.size))
    have YY23 := Lib.hid (YY22.out.below hb23 (by omega))
    have TW23 := Lib.hid (TW22.out.below hb23 (by omega))
    have XW23 := Lib.hid ((hb23.block _ (lt_of_block XW22.out)).trans XW22.out)
    have XB23 := Lib.hid ((hb23.block _ (lt_of_block XB22.out)).trans XB22.out)
    have TG23 := Lib.hid (TG22.out.below hb23 (by omega))
    have XG23 := Lib.hid ((hb23.block _ (lt_of_block XG22.out)).trans XG22.out)
    have TC23 := Lib.hid (TC22.out.below hb23 (by omega))
    have ID23 := Lib.hid (ID22.out.below hb23 (by omega))
    have TH23 := Lib.hid (TH22.out.below hb23 (by omega))
    have hs23 := hb23.size
    clear XA22 RR22 BB22 YY22 TW22 XW22 XB22 TG22 XG22 TC22 ID22 TH22
    clear hb23
    have y0 := one_cell XH23.out
    have y1 := one_cell XW23.out
    go_wp2_with fail
    refine (eqAcks w23 _ _ _ _ 4 ch cw (heardRows l d ys) (TH23.out.irows HLr.out) (TW23.out.irows HLr.out) (by omega) (by omega) (by omega) HRr.out).mono ?_
    rintro e w24 ⟨rfl, hb⟩
    have XA24 := Lib.hid ((hb.block _ (lt_of_block XA23.out)).trans XA23.out)
    have RR24 := Lib.hid (RR23.out.below hb (by omega))
    have BB24 := Lib.hid (BB23.out.trans (hb.mono BB23.out.size))
    have YY24 := Lib.hid (YY23.out.below hb (by omega))
    have TW24 := Lib.hid (TW23.out.below hb (by omega))
    have XW24 := Lib.hid ((hb.block _ (lt_of_block XW23.out)).trans XW23.out)
    have XB24 := Lib.hid ((hb.block _ (lt_of_block XB23.out)).trans XB23.out)
    have TG24 := Lib.hid (TG23.out.below hb (by omega))
    have XG24 := Lib.hid ((hb.block _ (lt_of_block XG23.out)).trans XG23.out)
    have TC24 := Lib.hid (TC23.out.below hb (by omega))
    have ID24 := Lib.hid (ID23.out.below hb (by omega))
    have TH24 := Lib.hid (TH23.out.below hb (by omega))
    have XH24 := Lib.hid ((hb.block _ (lt_of_block XH23.out)).trans XH23.out)
    have hs24 := hb.size
    clear XA23 RR23 BB23 YY23 TW23 XW23 XB23 TG23 XG23 TC23 ID23 TH23 XH23
    clear hb y0 y1
    have y0 := one_cell XG24.out
    go_wp2_with fail
    refine (heldAcks w24 _ _ gg 4 cg fg _ 1 TG24.out (by omega) (by omega) (by omega) HVr.out).mono ?_
    rintro e w25 ⟨rfl, hb⟩
    rw [← HS.out]
    have XA25 := Lib.hid ((hb.block _ (lt_of_block XA24.out)).trans XA24.out)
    have RR25 := Lib.hid (RR24.out.below hb (by omega))
    have BB25 := Lib.hid (BB24.out.trans (hb.mono BB24.out.size))
    have YY25 := Lib.hid (YY24.out.below hb (by omega))
    have TW25 := Lib.hid (TW24.out.below hb (by omega))
    have XW25 := Lib.hid ((hb.block _ (lt_of_block XW24.out)).trans XW24.out)
    have XB25 := Lib.hid ((hb.block _ (lt_of_block XB24.out)).trans XB24.out)
    have TG25 := Lib.hid (TG24.out.below hb (by omega))
    have XG25 := Lib.hid ((hb.block _ (lt_of_block XG24.out)).trans XG24.out)
    have TC25 := Lib.hid (TC24.out.below hb (by omega))
    have ID25 := Lib.hid (ID24.out.below hb (by omega))
    have TH25 := Lib.hid (TH24.out.below hb (by omega))
    have XH25 := Lib.hid ((hb.block _ (lt_of_block XH24.out)).trans XH24.out)
    have hs25 := hb.size
    clear XA24 RR24 BB24 YY24 TW24 XW24 XB24 TG24 XG24 TC24 ID24 TH24 XH24
    clear hb y0
    go_wp2
    go_ret
    exact ⟨rfl, BB25.out⟩
theorem fnExactHeardWalk (a : Option Addr) (n cap : Nat) (l : List (List Int)) (dev : Int) (av : Option Addr) (nv cv : Nat) (zs : List Int) (w : World) (h : IRows w w.heap.size a n l) (hn : n ≤ maxLen) (hm : ∀ i, i < n → (rowOf l i).length ≤ maxLen) (hq : (Lit.int .i64 dev).wf = true) (hv : IsRow .i64 w av nv cv zs) : Calls Try.prog 11 #[.agg #[.slice a n cap], .int .i64 dev, .slice av nv cv] w fun e w' => e = .returned (.bool true) ∧ Below w.heap.size w w' :=
  fnExactHeardWalk0 a av n cap nv cv dev l (zs.take nv) w h hn hm (ints_of_row hv) (by rcases hv with ⟨_, rfl, _, _⟩ | ⟨_, _, h1, h2, _⟩ <;> omega)
end Go.Proofs.Ytjmilgijdfibbaa
