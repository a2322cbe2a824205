/- The walk of the law FnExactStable. -/
import Derived.Test.YtjmilgijdfibbaaAckQ
import Derived.Deep.Cut
import Derived.Deep.RegionHeld3
namespace Go.Proofs.Ytjmilgijdfibbaa
open Go.RowKit
set_option linter.unusedVariables false

theorem Outside.besideA {lo hi : Nat} {w w' : World} (h : Outside lo hi w w') : BesideA lo hi w w' := ⟨h.os, h.tape, h.output, Nat.le_of_eq h.size.symm, fun j _ q => h.block j q⟩
theorem eqIntsT (w : World) (B B' : Nat) (a a' : Option Addr) (cap cap' : Nat) (xs : List Int) (h : Ints w B a xs.length xs) (h' : Ints w B' a' xs.length xs) (hl : xs.length ≤ 1048576) : Calls Try.prog 46 #[.slice a xs.length cap, .slice a' xs.length cap'] w fun e w' => e = .returned (.bool true) ∧ Below w.heap.size w w' := by
  refine (eqInts w B B' a a' _ cap _ cap' xs xs h h' hl hl).mono ?_
  rintro e w1 ⟨rfl, hs⟩
  exact ⟨by rw [decide_eq_true rfl], hs.below _⟩
theorem stable_len {l : List (List Int)} : (stableL l).length ≤ 1048576 := by
  rcases h : ackOk l with _ | _
  · rw [stable_no h]; decide
  · rw [stable_yes h, vec_len (minTo_ok h (by omega))]; omega
theorem total_v {l : List (List Int)} (h : rowsTotal l ≤ 1048576) : vsum (rowOf l) l.length ≤ 1048576 := by
  rw [isum_v]
  unfold rowsTotal at h
  omega
set_option maxRecDepth 100000 in
set_option maxHeartbeats 4000000 in
theorem fnExactStableWalk (a : Option Addr) (n cap : Nat) (l : List (List Int)) (w : World) (h : IRows w w.heap.size a n l) (hn : n ≤ maxLen) (hm : ∀ i, i < n → (rowOf l i).length ≤ maxLen) : Calls Try.prog 12 #[.agg #[.slice a n cap]] w fun e w' => e = .returned (.bool true) ∧ Below w.heap.size w w' := by
  have hb0 : Below w.heap.size w (w.alloc (.cells #[.slice a n cap] 58)) := (Below.refl _ w).alloc (Nat.le_refl _) _
  have XA0 := Lib.hid (heap_alloc_new w (.cells #[.slice a n cap] 58))
  have RR0 := Lib.hid (h.below hb0 (Nat.le_refl _))
  have BB0 := Lib.hid hb0
  have HL := Lib.hid h.1
  have HM := Lib.hid hm
  have hz0 : w.heap.size < (w.alloc (.cells #[.slice a n cap] 58)).heap.size := by show _ < (w.heap.push _).size; simp
  clear h hb0 hm
  go_enter Try.func12, Try.ntmps12
  go_wp2_with fail
  generalize w.alloc (.cells #[.slice a n cap] 58) = w0 at XA0 RR0 BB0 hz0 ⊢
  refine (szAcks w0 w.heap.size a n cap l RR0.out (by omega) hn HM.out 1048576 (Nat.le_refl _)).mono ?_
  rintro e w1 ⟨rfl, hb⟩
  have XA1 := Lib.hid ((hb.block _ (lt_of_block XA0.out)).trans XA0.out)
  have RR1 := Lib.hid (RR0.out.below hb (by omega))
  have BB1 := Lib.hid (BB0.out.trans (hb.mono BB0.out.size))
  have hs1 := hb.size
  clear XA0 RR0 BB0
  clear hb
  by_cases hbig : rowsTotal l ≤ 1048576
  rotate_left
  · rw [if_neg hbig]
    go_wp2
    go_ret
    exact ⟨rfl, BB1.out⟩
  rw [if_pos hbig]
  obtain ⟨hll, hrl⟩ := rows_fit hbig
  have hno : n ≤ 1048576 := by rw [← HL.out]; exact hll
  have HR : Hid (∀ i, i < l.length → (rowOf l i).length ≤ 1048576) := hrl
  have HRn : Hid (∀ i, i < n → (rowOf l i).length ≤ 1048576) := by show ∀ i, i < n → _; rw [← HL.out]; exact hrl
  have HV := Lib.hid (total_v hbig)
  have hd : decide (((1048576 - rowsTotal l : Nat) : Int) < 0) = false := decide_eq_false (by omega)
  clear hbig hrl
  generalize 1048576 - rowsTotal l = lf at hd ⊢
  obtain ⟨zs, hzs⟩ : ∃ zs, stableL l = zs := ⟨_, rfl⟩
  have HZ := Lib.hid hzs
  have hzl : zs.length ≤ 1048576 := by rw [← hzs]; exact stable_len
  clear hzs
  have y0 := one_cell XA1.out
  go_wp2_with fail
  refine (toAcks w1 w.heap.size a n cap l RR1.out (by omega) hno HRn.out).mono ?_
  rintro e w2 ⟨g1, rfl, ⟨fg1, hr⟩, hb⟩
  have TA2 := Lib.hid hr
  have XA2 := Lib.hid ((hb.block _ (lt_of_block XA1.out)).trans XA1.out)
  have RR2 := Lib.hid (RR1.out.below hb (by omega))
  have BB2 := Lib.hid (BB1.out.trans (hb.mono BB1.out.size))
  have hs2 := hb.size
  clear XA1 RR1 BB1
  clear hr hb y0
  have hsp := specStable w2 _ _ l.length l.length l (TA2.out.irows rfl) (by omega) hll HR.out
  rw [HZ.out] at hsp
  have HSp := Lib.hid hsp
  clear hsp
  go_wp2_with fail
  refine HSp.out.mono ?_
  rintro e w3 ⟨va, vc, rfl, ho, hb⟩
  have OW3 := Lib.hid ho
  have XA3 := Lib.hid ((hb.block _ (lt_of_block XA2.out)).trans XA2.out)
  have RR3 := Lib.hid (RR2.out.below hb (by omega))
  have BB3 := Lib.hid (BB2.out.trans (hb.mono BB2.out.size))
  have hs3 := hb.size
  clear XA2 RR2 BB2
  clear hb ho HSp
  have y0 := one_cell XA3.out
  go_wp2_with fail
  refine (toAcks w3 w.heap.size a n cap l RR3.out (by omega) hno HRn.out).mono ?_
  rintro e w4 ⟨g2, rfl, ⟨fg2, hr⟩, hb⟩
  have TB4 := Lib.hid hr
  have XA4 := Lib.hid ((hb.block _ (lt_of_block XA3.out)).trans XA3.out)
  have RR4 := Lib.hid (RR3.out.below hb (by omega))
  have BB4 := Lib.hid (BB3.out.trans (hb.mono BB3.out.size))
  have OW4 := Lib.hid (OW3.out.below hb (by omega))
  have hs4 := hb.size
  clear XA3 RR3 BB3 OW3
  clear hr hb y0
  go_upto_region 7 with fail
  have hb5 : Below w4.heap.size w4 (w4.alloc (.cells #[.slice (some ⟨g2, 0, none⟩) l.length l.length] 53)) := (Below.refl _ _).alloc (Nat.le_refl _) _
  have XB5 := Lib.hid (heap_alloc_new w4 (.cells #[.slice (some ⟨g2, 0, none⟩) l.length l.length] 53))
  have hz5 : w4.heap.size < (w4.alloc (.cells #[.slice (some ⟨g2, 0, none⟩) l.length l.length] 53)).heap.size := by show _ < (w4.heap.push _).size; simp
  generalize w4.alloc (.cells #[.slice (some ⟨g2, 0, none⟩) l.length l.length] 53) = w5 at hb5 XB5 hz5 ⊢
  have XA5 := Lib.hid ((hb5.block _ (lt_of_block XA4.out)).trans XA4.out)
  have RR5 := Lib.hid (RR4.out.below hb5 (by omega))
  have BB5 := Lib.hid (BB4.out.trans (hb5.mono BB4.out.size))
  have OW5 := Lib.hid (OW4.out.below hb5 (by omega))
  have TB5 := Lib.hid (TB4.out.below hb5 (by omega))
  have hs5 := hb5.size
  clear XA4 RR4 BB4 OW4 TB4
  clear hb5
  have hsp := implStable w5 _ _ l.length l.length l (TB5.out.irows rfl) (by omega) HR.out
  rw [HZ.out] at hsp
  have HSp := Lib.hid hsp
  clear hsp
  have y0 := one_cell XB5.out
  go_wp2_with fail
  refine HSp.out.mono ?_
  rintro e w6 ⟨ua, uc, rfl, ho, hb⟩
  have OG6 := Lib.hid ho
  have XA6 := Lib.hid ((hb.block _ (lt_of_block XA5.out)).trans XA5.out)
  have RR6 := Lib.hid (RR5.out.below hb (by omega))
  have BB6 := Lib.hid (BB5.out.trans (hb.mono BB5.out.size))
  have OW6 := Lib.hid (OW5.out.below hb (by omega))
  have TB6 := Lib.hid (TB5.out.below hb (by omega))
  have XB6 := Lib.hid ((hb.block _ (lt_of_block XB5.out)).trans XB5.out)
  have hs6 := hb.size
  clear XA5 RR5 BB5 OW5 TB5 XB5
  clear hb ho HSp y0
  go_wp2_with fail
  refine (eqIntsT w6 _ _ ua va _ _ zs OG6.out.ints OW6.out.ints hzl).mono ?_
  rintro e w7 ⟨rfl, hb⟩
  have XA7 := Lib.hid ((hb.block _ (lt_of_block XA6.out)).trans XA6.out)
  have RR7 := Lib.hid (RR6.out.below hb (by omega))
  have BB7 := Lib.hid (BB6.out.trans (hb.mono BB6.out.size))
  have OW7 := Lib.hid (OW6.out.below hb (by omega))
  have TB7 := Lib.hid (TB6.out.below hb (by omega))
  have XB7 := Lib.hid ((hb.block _ (lt_of_block XB6.out)).trans XB6.out)
  have OG7 := Lib.hid (OG6.out.below hb (by omega))
  have hs7 := hb.size
  clear XA6 RR6 BB6 OW6 TB6 XB6 OG6
  clear hb
  go_upto_region 10 with fail
  have y1 := one_cell XB7.out
  have y2 := one_cell XA7.out
  have hl1 := block_lt_of_cell y1
  have hl2 := block_lt_of_cell y2
  have hS6 : w7.drew.cell? ⟨w4.heap.size, 0, none⟩ = some (.slice (some ⟨g2, 0, none⟩) l.length l.length) ∧ w7.drew.cell? ⟨w.heap.size, 0, none⟩ = some (.slice a n cap) := ⟨y1, y2⟩
  have HTc := Lib.hid (toAcks w7.drew w.heap.size a n cap l (RR7.out.kept (w' := w7.drew) fun _ _ => rfl) (by show _ ≤ w7.heap.size; omega) hno HRn.out)
  have hdz : w7.heap.size = w7.drew.heap.size := rfl
  go_region_held3 (fun w' => w'.cell? ⟨w4.heap.size, 0, none⟩ = some (.slice (some ⟨g2, 0, none⟩) l.length l.length) ∧ w'.cell? ⟨w.heap.size, 0, none⟩ = some (.slice a n cap)) (first | with_reducible exact hS6 | with_reducible exact hS7 | with_reducible exact hS8)
    (first | (go_at_call 41; refine HTc.out.mono ?_; rintro e wa ⟨gx, rfl, ⟨fx, hr7⟩, hb7⟩; have hS7 : wa.cell? ⟨w4.heap.size, 0, none⟩ = some (.slice (some ⟨g2, 0, none⟩) l.length l.length) ∧ wa.cell? ⟨w.heap.size, 0, none⟩ = some (.slice a n cap) := ⟨(hb7.cell (p := ⟨w4.heap.size, 0, none⟩) hl1).trans hS6.1, (hb7.cell (p := ⟨w.heap.size, 0, none⟩) hl2).trans hS6.2⟩) | (go_at_call 36; refine (eqAcks wa wa.heap.size wa.heap.size _ _ l.length l.length l.length l ((TB7.out.below (Below.mk hb7.os hb7.tape hb7.output hb7.size hb7.block : Below w7.heap.size w7 wa) (by omega)).irows rfl |>.more (Nat.le_trans (by omega) hb7.size)) (hr7.irows rfl) (Nat.le_refl _) (Nat.le_refl _) hll HR.out).mono ?_; rintro e w8 ⟨rfl, hb8⟩; have hS8 : w8.cell? ⟨w4.heap.size, 0, none⟩ = some (.slice (some ⟨g2, 0, none⟩) l.length l.length) ∧ w8.cell? ⟨w.heap.size, 0, none⟩ = some (.slice a n cap) := ⟨(hb8.cell (block_lt_of_cell hS7.1)).trans hS7.1, (hb8.cell (block_lt_of_cell hS7.2)).trans hS7.2⟩))
  have hb : Below w7.heap.size w7 w8 := (Below.mk hb7.os hb7.tape hb7.output hb7.size hb7.block : Below w7.heap.size w7 wa).trans (hb8.mono hb7.size)
  clear hS6 hS7 hS8 hb7 hb8 hr7 y1 y2
  have XA8 := Lib.hid ((hb.block _ (lt_of_block XA7.out)).trans XA7.out)
  have RR8 := Lib.hid (RR7.out.below hb (by omega))
  have BB8 := Lib.hid (BB7.out.trans (hb.mono BB7.out.size))
  have OW8 := Lib.hid (OW7.out.below hb (by omega))
  have TB8 := Lib.hid (TB7.out.below hb (by omega))
  have XB8 := Lib.hid ((hb.block _ (lt_of_block XB7.out)).trans XB7.out)
  have OG8 := Lib.hid (OG7.out.below hb (by omega))
  have hs8 := hb.size
  clear XA7 RR7 BB7 OW7 TB7 XB7 OG7
  clear hb hdz
  have y0 := one_cell XB8.out
  go_wp2_with fail
  refine (markAcks w8 _ _ g2 l.length l.length fg2 _ TB8.out (by omega) 1 (by omega) hll HV.out).mono ?_
  rintro e w9 ⟨rfl, hr, hb⟩
  have hmk : decide (((1 + vsum (rowOf l) l.length : Nat) : Int) < 0) = false := decide_eq_false (by omega)
  generalize 1 + vsum (rowOf l) l.length = s1 at hmk ⊢
  clear hr
  clear TB8
  have XA9 := Lib.hid ((hb.block _ (by have := lt_of_block XA8.out; omega) (by omega)).trans XA8.out)
  have RR9 := Lib.hid (RR8.out.kept fun j h1 => hb.block j (by omega) (by omega))
  have BB9 := Lib.hid (BB8.out.trans (hb.below (by omega) (by omega)))
  have OW9 := Lib.hid (OW8.out.kept fun j h1 h2 => hb.block j (by omega) (by omega))
  have XB9 := Lib.hid ((hb.block _ (by have := lt_of_block XB8.out; omega) (by omega)).trans XB8.out)
  have OG9 := Lib.hid (OG8.out.kept fun j h1 h2 => hb.block j (by omega) (by omega))
  have hs9 := hb.size
  clear XA8 RR8 BB8 OW8 XB8 OG8
  clear hb y0
  go_wp2_with fail
  refine (eqIntsT w9 _ _ ua va _ _ zs OG9.out.ints OW9.out.ints hzl).mono ?_
  rintro e w10 ⟨rfl, hb⟩
  have XA10 := Lib.hid ((hb.block _ (lt_of_block XA9.out)).trans XA9.out)
  have RR10 := Lib.hid (RR9.out.below hb (by omega))
  have BB10 := Lib.hid (BB9.out.trans (hb.mono BB9.out.size))
  have OW10 := Lib.hid (OW9.out.below hb (by omega))
  have XB10 := Lib.hid ((hb.block _ (lt_of_block XB9.out)).trans XB9.out)
  have OG10 := Lib.hid (OG9.out.below hb (by omega))
  have hs10 := hb.size
  clear XA9 RR9 BB9 OW9 XB9 OG9
  clear hb
  go_wp2_with fail
  refine (mark w10 _ _ ua zs.length uc zs OG10.out 1 (by omega) hzl).mono ?_
  rintro e w11 ⟨⟨m, hm, rfl⟩, ho, hO⟩
  have OG11 := Lib.hid ho
  have hb := hO.besideA
  have XA11 := Lib.hid ((hb.block _ (by have := lt_of_block XA10.out; omega) (by omega)).trans XA10.out)
  have RR11 := Lib.hid (RR10.out.kept fun j h1 => hb.block j (by omega) (by omega))
  have BB11 := Lib.hid (BB10.out.trans (hb.below (by omega) (by omega)))
  have OW11 := Lib.hid (OW10.out.kept fun j h1 h2 => hb.block j (by omega) (by omega))
  have XB11 := Lib.hid ((hb.block _ (by have := lt_of_block XB10.out; omega) (by omega)).trans XB10.out)
  have hs11 := hb.size
  clear XA10 RR10 BB10 OW10 XB10
  clear hb hO ho OG10
  have hm0 : decide ((m : Int) < 0) = false := decide_eq_false (by omega)
  go_wp2_with fail
  refine (held w11 _ ua zs.length uc 1 OG11.out.ints (by omega) hzl).mono ?_
  rintro e w12 ⟨rfl, rfl⟩
  rw [← hm]
  have y0 := one_cell XA11.out
  go_wp2_with fail
  refine (toAcks w11 w.heap.size a n cap l RR11.out (by omega) hno HRn.out).mono ?_
  rintro e w12 ⟨g3, rfl, ⟨fg3, hr⟩, hb⟩
  have TC12 := Lib.hid hr
  have XA12 := Lib.hid ((hb.block _ (lt_of_block XA11.out)).trans XA11.out)
  have RR12 := Lib.hid (RR11.out.below hb (by omega))
  have BB12 := Lib.hid (BB11.out.trans (hb.mono BB11.out.size))
  have OW12 := Lib.hid (OW11.out.below hb (by omega))
  have XB12 := Lib.hid ((hb.block _ (lt_of_block XB11.out)).trans XB11.out)
  have OG12 := Lib.hid (OG11.out.below hb (by omega))
  have hs12 := hb.size
  clear XA11 RR11 BB11 OW11 XB11 OG11
  clear hr hb y0
  have hsp := implStable w12 _ _ l.length l.length l (TC12.out.irows rfl) (by omega) HR.out
  rw [HZ.out] at hsp
  have HSp := Lib.hid hsp
  clear hsp
  go_wp2_with fail
  refine HSp.out.mono ?_
  rintro e w13 ⟨xa, xc, rfl, ho, hb⟩
  have OH13 := Lib.hid ho
  have XA13 := Lib.hid ((hb.block _ (lt_of_block XA12.out)).trans XA12.out)
  have RR13 := Lib.hid (RR12.out.below hb (by omega))
  have BB13 := Lib.hid (BB12.out.trans (hb.mono BB12.out.size))
  have OW13 := Lib.hid (OW12.out.below hb (by omega))
  have XB13 := Lib.hid ((hb.block _ (lt_of_block XB12.out)).trans XB12.out)
  have OG13 := Lib.hid (OG12.out.below hb (by omega))
  have TC13 := Lib.hid (TC12.out.below hb (by omega))
  have hs13 := hb.size
  clear XA12 RR12 BB12 OW12 XB12 OG12 TC12
  clear hb ho HSp
  go_wp2_with fail
  refine (eqIntsT w13 _ _ xa va _ _ zs OH13.out.ints OW13.out.ints hzl).mono ?_
  rintro e w14 ⟨rfl, hb⟩
  have XA14 := Lib.hid ((hb.block _ (lt_of_block XA13.out)).trans XA13.out)
  have RR14 := Lib.hid (RR13.out.below hb (by omega))
  have BB14 := Lib.hid (BB13.out.trans (hb.mono BB13.out.size))
  have OW14 := Lib.hid (OW13.out.below hb (by omega))
  have XB14 := Lib.hid ((hb.block _ (lt_of_block XB13.out)).trans XB13.out)
  have OG14 := Lib.hid (OG13.out.below hb (by omega))
  have TC14 := Lib.hid (TC13.out.below hb (by omega))
  have OH14 := Lib.hid (OH13.out.below hb (by omega))
  have hs14 := hb.size
  clear XA13 RR13 BB13 OW13 XB13 OG13 TC13 OH13
  clear hb
  go_wp2_with fail
  refine (held w14 _ ua zs.length uc 1 OG14.out.ints (by omega) hzl).mono ?_
  rintro e w15 ⟨rfl, rfl⟩
  rw [← hm]
  go_wp2
  go_ret
  exact ⟨rfl, BB14.out⟩
end Go.Proofs.Ytjmilgijdfibbaa
