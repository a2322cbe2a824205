/- The walk of the law FnStable. -/
import Derived.Test.YthfkoplljinmmabAckE
import Derived.Deep.Cut
namespace Go.Proofs.Ythfkoplljinmmab
open Go.RowKit
set_option linter.unusedVariables false
set_option linter.unusedSimpArgs false

/-- Is the vector within the first k rows? -/
def allTo (l : List (List Int)) (v : List Int) : Nat → Bool
  | 0 => true
  | k + 1 => allTo l v k && withinB v (rowOf l k)
theorem allTo_stop {l : List (List Int)} {v : List Int} {j : Nat} (h : withinB v (rowOf l j) = false) : ∀ k, j < k → allTo l v k = false
  | 0, hj => absurd hj (Nat.not_lt_zero _)
  | k + 1, hj => by
    show (allTo l v k && withinB v (rowOf l k)) = false
    by_cases e : j = k
    · subst e; rw [h, Bool.and_false]
    · rw [allTo_stop h k (by omega), Bool.false_and]
def plusOne (s : List Int) (d : Nat) : List Int := s.set d (s.getD d 0 + 1)
theorem four_eq {xs : List Int} (h : xs.length = 4) : xs = [xs.getD 0 0, xs.getD 1 0, xs.getD 2 0, xs.getD 3 0] := by
  match xs, h with
  | [a, b, c, d], _ => rfl
theorem within4 (x0 x1 x2 x3 y0 y1 y2 y3 : Int) (hx : vecOk [x0, x1, x2, x3] = true) (hy : vecOk [y0, y1, y2, y3] = true) : withinB [x0, x1, x2, x3] [y0, y1, y2, y3] = true ↔ x0 ≤ y0 ∧ x1 ≤ y1 ∧ x2 ≤ y2 ∧ x3 ≤ y3 := by
  unfold withinB leAll
  rw [hx, hy]
  simp [List.range_succ]
theorem stable_parts {l : List (List Int)} (h : ackOk l = true) : ∃ a0 a1 a2 a3 b0 b1 b2 b3 c0 c1 c2 c3 d0 d1 d2 d3 : Int, rowOf l 0 = [a0, a1, a2, a3] ∧ rowOf l 1 = [b0, b1, b2, b3] ∧ rowOf l 2 = [c0, c1, c2, c3] ∧ rowOf l 3 = [d0, d1, d2, d3] ∧ stableL l = [min (min (min a0 b0) c0) d0, min (min (min a1 b1) c1) d1, min (min (min a2 b2) c2) d2, min (min (min a3 b3) c3) d3] := by
  obtain ⟨a0, a1, a2, a3, e0⟩ := four (ack_row h (i := 0) (by omega)).1
  obtain ⟨b0, b1, b2, b3, e1⟩ := four (ack_row h (i := 1) (by omega)).1
  obtain ⟨c0, c1, c2, c3, e2⟩ := four (ack_row h (i := 2) (by omega)).1
  obtain ⟨d0, d1, d2, d3, e3⟩ := four (ack_row h (i := 3) (by omega)).1
  refine ⟨a0, a1, a2, a3, b0, b1, b2, b3, c0, c1, c2, c3, d0, d1, d2, d3, e0, e1, e2, e3, ?_⟩
  rw [stable_yes h]
  show zipI min (zipI min (zipI min (rowOf l 0) (rowOf l 1)) (rowOf l 2)) (rowOf l 3) = _
  rw [e0, e1, e2, e3]
  rfl
theorem stable_vec {l : List (List Int)} (h : ackOk l = true) : vecOk (stableL l) = true := by
  rw [stable_yes h]
  exact minTo_ok h (by omega)
/-- What is stable is within each row. -/
theorem stable_in {l : List (List Int)} (h : ackOk l = true) {i : Nat} (hi : i < 4) : withinB (stableL l) (rowOf l i) = true := by
  have hv := stable_vec h
  have h0 := (ack_row h (i := 0) (by omega)).1
  have h1 := (ack_row h (i := 1) (by omega)).1
  have h2 := (ack_row h (i := 2) (by omega)).1
  have h3 := (ack_row h (i := 3) (by omega)).1
  obtain ⟨a0, a1, a2, a3, b0, b1, b2, b3, c0, c1, c2, c3, d0, d1, d2, d3, e0, e1, e2, e3, es⟩ := stable_parts h
  rw [e0] at h0
  rw [e1] at h1
  rw [e2] at h2
  rw [e3] at h3
  rw [es] at hv ⊢
  match i, hi with
  | 0, _ => rw [e0, within4 _ _ _ _ _ _ _ _ hv h0]; omega
  | 1, _ => rw [e1, within4 _ _ _ _ _ _ _ _ hv h1]; omega
  | 2, _ => rw [e2, within4 _ _ _ _ _ _ _ _ hv h2]; omega
  | 3, _ => rw [e3, within4 _ _ _ _ _ _ _ _ hv h3]; omega
theorem within_no {xs ys : List Int} (h : vecOk xs = false) : withinB xs ys = false := by unfold withinB; rw [h]; rfl
/-- One more of a device is not within all rows. -/
theorem stable_max {l : List (List Int)} (h : ackOk l = true) {d : Nat} (hd : d < 4) : allTo l (plusOne (stableL l) d) 4 = false := by
  cases hv : vecOk (plusOne (stableL l) d)
  · exact allTo_stop (j := 0) (within_no hv) 4 (by omega)
  have h0 := (ack_row h (i := 0) (by omega)).1
  have h1 := (ack_row h (i := 1) (by omega)).1
  have h2 := (ack_row h (i := 2) (by omega)).1
  have h3 := (ack_row h (i := 3) (by omega)).1
  obtain ⟨a0, a1, a2, a3, b0, b1, b2, b3, c0, c1, c2, c3, d0, d1, d2, d3, e0, e1, e2, e3, es⟩ := stable_parts h
  rw [e0] at h0
  rw [e1] at h1
  rw [e2] at h2
  rw [e3] at h3
  rw [es] at hv ⊢
  have fin : ∀ x0 x1 x2 x3 : Int, vecOk [x0, x1, x2, x3] = true → (¬ (x0 ≤ a0 ∧ x1 ≤ a1 ∧ x2 ≤ a2 ∧ x3 ≤ a3) ∨ ¬ (x0 ≤ b0 ∧ x1 ≤ b1 ∧ x2 ≤ b2 ∧ x3 ≤ b3) ∨ ¬ (x0 ≤ c0 ∧ x1 ≤ c1 ∧ x2 ≤ c2 ∧ x3 ≤ c3) ∨ ¬ (x0 ≤ d0 ∧ x1 ≤ d1 ∧ x2 ≤ d2 ∧ x3 ≤ d3)) → allTo l [x0, x1, x2, x3] 4 = false := by
    intro x0 x1 x2 x3 hx hn
    rcases hn with hn | hn | hn | hn
    · exact allTo_stop (j := 0) (by rw [e0, Bool.eq_false_iff]; exact fun e => hn ((within4 _ _ _ _ _ _ _ _ hx h0).1 e)) 4 (by omega)
    · exact allTo_stop (j := 1) (by rw [e1, Bool.eq_false_iff]; exact fun e => hn ((within4 _ _ _ _ _ _ _ _ hx h1).1 e)) 4 (by omega)
    · exact allTo_stop (j := 2) (by rw [e2, Bool.eq_false_iff]; exact fun e => hn ((within4 _ _ _ _ _ _ _ _ hx h2).1 e)) 4 (by omega)
    · exact allTo_stop (j := 3) (by rw [e3, Bool.eq_false_iff]; exact fun e => hn ((within4 _ _ _ _ _ _ _ _ hx h3).1 e)) 4 (by omega)
  match d, hd with
  | 0, _ => exact fin (min (min (min a0 b0) c0) d0 + 1) _ _ _ hv (by omega)
  | 1, _ => exact fin _ (min (min (min a1 b1) c1) d1 + 1) _ _ hv (by omega)
  | 2, _ => exact fin _ _ (min (min (min a2 b2) c2) d2 + 1) _ hv (by omega)
  | 3, _ => exact fin _ _ _ (min (min (min a3 b3) c3) d3 + 1) hv (by omega)

theorem own_plus {w : World} {lo hi d : Nat} {va : Option Addr} {s : List Int} (h : Own w lo hi va 4 s) (hd : d < 4) : ∃ g, va = some ⟨g, 0, none⟩ ∧ lo ≤ g ∧ g < hi ∧ w.cell? ⟨g, d, none⟩ = some (.int .i64 (s.getD d 0)) ∧ w.frozen? ⟨g, d, none⟩ = false ∧ Own (w.setCell ⟨g, d, none⟩ (.int .i64 (s.getD d 0 + 1))) lo hi va 4 (plusOne s d) := by
  have hl := h.1
  obtain ⟨g, cur, e, h1, h2, hg, hc⟩ := h.2 (by omega)
  refine ⟨g, e, h1, h2, ?_, frozen_of_row _ _ _ _ _ hg, ?_, fun _ => ⟨g, cur.setIfInBounds d (.int .i64 (s.getD d 0 + 1)), e, h1, h2, heap_setCell_same _ _ _ _ _ _ hg, fun i hi => ?_⟩⟩
  · rw [cell_of_row _ _ _ _ _ _ hg]
    exact hc d hd
  · unfold plusOne
    rw [List.length_set]
    exact hl
  · rw [Array.getElem?_setIfInBounds]
    have hsz := (Array.getElem?_eq_some_iff.1 (hc d hd)).1
    unfold plusOne
    by_cases e2 : d = i
    · subst e2
      rw [if_pos rfl, if_pos hsz, List.getD_eq_getElem?_getD (l := s.set _ _), List.getElem?_set_self (by omega)]
      rfl
    · rw [if_neg e2, hc i hi, List.getD_eq_getElem?_getD (l := s.set _ _), List.getElem?_set_ne e2, ← List.getD_eq_getElem?_getD]
set_option maxRecDepth 100000 in
set_option maxHeartbeats 8000000 in
theorem fnStableWalk (a : Option Addr) (len cap : Nat) (zs : List Int) (w : World) (h : IsRow .u8 w a len cap zs) :
    Calls Try.prog 4 #[.slice a len cap] w fun e w' => e = .returned (.bool true) ∧ Below w.heap.size w w' := by
  by_cases hbig : len ≤ 1048576
  rotate_left
  · go_enter Try.func4, Try.ntmps4
    go_wp2_with fail
    refine (bigYes a len cap hbig w).mono ?_
    rintro e w' ⟨rfl, rfl⟩
    go_wp2
    go_ret
    exact ⟨rfl, Below.refl _ _⟩
  have hsrc := Lib.hid (src_of_row h hbig)
  clear h
  go_enter Try.func4, Try.ntmps4
  go_wp2_with fail
  refine (bigNo a len cap hbig w).mono ?_
  rintro e w' ⟨rfl, rfl⟩
  go_wp2_with fail
  refine (drawStable w w.heap.size a len cap (Nat.le_refl _) hsrc.out).mono ?_
  rintro e w1 ⟨aa, n, c, X, l, hn, rfl, hrows, hb1⟩
  have HR1 := Lib.hid hrows.irows
  have HSh : Hid (∀ i, i < n → (rowOf l i).length ≤ 1048576) := fun i hi => Nat.le_trans (hrows.short i hi) (by omega)
  have HB1 := Lib.hid hb1
  have hs1 := hb1.size
  clear hrows hb1
  go_upto_region 4 with fail
  have hb2 : Below w1.heap.size w1 (w1.alloc (.cells #[.slice aa n c] 26)) := (Below.refl _ w1).alloc (Nat.le_refl _) _
  have HX2 := Lib.hid (heap_alloc_new w1 (.cells #[.slice aa n c] 26))
  generalize w1.alloc (.cells #[.slice aa n c] 26) = w2 at hb2 HX2 ⊢
  have HR2 := Lib.hid (HR1.out.below hb2 (Nat.le_refl _))
  have HB2 := Lib.hid (HB1.out.trans (hb2.mono hs1))
  have hs2 := lt_of_block HX2.out
  clear hb2 HR1 HB1
  generalize w1.heap.size = A at HX2 HR2 hs1 hs2 ⊢
  have q0 := one_cell HX2.out
  have hn' : n ≤ 1048576 := by omega
  go_wp2_with fail
  refine (implStable w2 A aa n c l HR2.out (by omega) HSh.out).mono ?_
  rintro e w3 ⟨sa, sc, rfl, hs, hb⟩
  have HSt := Lib.hid hs
  have HR3 := Lib.hid (HR2.out.below hb (by omega))
  have HX3 := Lib.hid ((hb.block _ hs2).trans HX2.out)
  have HB3 := Lib.hid (HB2.out.trans (hb.mono HB2.out.size))
  have hs3 := hb.size
  clear hs hb q0 HR2 HX2 HB2
  have q0 := one_cell HX3.out
  go_wp2_with fail
  refine (specStable w3 A aa n c l HR3.out (by omega) hn' HSh.out).mono ?_
  rintro e w4 ⟨ta, tc, rfl, ht, hb⟩
  have HSt4 := Lib.hid (HSt.out.below hb (by omega))
  have HTt := Lib.hid ht
  have HR4 := Lib.hid (HR3.out.below hb (by omega))
  have HX4 := Lib.hid ((hb.block _ (by omega)).trans HX3.out)
  have HB4 := Lib.hid (HB3.out.trans (hb.mono HB3.out.size))
  have hs4 := hb.size
  clear ht hb q0 HR3 HX3 HB3 HSt
  have q0 := one_cell HX4.out
  have hlen : (stableL l).length ≤ 4 := by
    cases hk : ackOk l
    · rw [stable_no hk]; exact Nat.zero_le _
    · have := vec_len (stable_vec hk); omega
  go_wp2_with fail
  refine (sameInts w4 w4.heap.size w4.heap.size sa ta _ sc _ tc (stableL l) (stableL l) (HSt4.out.ints.more (by omega)) (HTt.out.ints) (by omega) (by omega)).mono ?_
  rintro e w5 ⟨rfl, hSm⟩
  rw [decide_eq_true rfl]
  have hb := hSm.below w4.heap.size
  clear hSm HTt
  have HR5 := Lib.hid (HR4.out.below hb (by omega))
  have HSt5 := Lib.hid (HSt4.out.below hb (by omega))
  have HX5 := Lib.hid ((hb.block _ (by omega)).trans HX4.out)
  have HB5 := Lib.hid (HB4.out.trans (hb.mono HB4.out.size))
  have hs5 := hb.size
  clear hb q0 HR4 HX4 HB4 HSt4
  have q0 := one_cell HX5.out
  go_wp2_with fail
  refine (specAcksOk w5 A aa n c l HR5.out (by omega) hn' HSh.out).mono ?_
  obtain ⟨ok, hok⟩ : ∃ b, ackOk l = b := ⟨_, rfl⟩
  have HOk := Lib.hid hok
  rw [hok]
  clear hok
  rintro e w6 ⟨rfl, hb⟩
  have HR6 := Lib.hid (HR5.out.below hb (by omega))
  have HSt6 := Lib.hid (HSt5.out.below hb (by omega))
  have HX6 := Lib.hid ((hb.block _ (by omega)).trans HX5.out)
  have HB6 := Lib.hid (HB5.out.trans (hb.mono HB5.out.size))
  have hs6 := hb.size
  clear hb q0 HR5 HX5 HB5 HSt5
  have q0 := one_cell HX6.out
  cases ok
  · go_wp2_with fail
    refine (specStable w6 A aa n c l HR6.out (by omega) hn' HSh.out).mono ?_
    rintro e w7 ⟨ta, tc, rfl, ht, hb⟩
    have HTt := Lib.hid ht
    clear ht
    have HR7 := Lib.hid (HR6.out.below hb (by omega))
    have HSt7 := Lib.hid (HSt6.out.below hb (by omega))
    have HX7 := Lib.hid ((hb.block _ (by omega)).trans HX6.out)
    have HB7 := Lib.hid (HB6.out.trans (hb.mono HB6.out.size))
    have hs7 := hb.size
    clear hb q0 HR6 HX6 HB6 HSt6
    have q0 := one_cell HX7.out
    go_wp2_with fail
    refine (sameInts w7 w7.heap.size w7.heap.size sa ta _ sc _ tc (stableL l) (stableL l) (HSt7.out.ints.more (by omega)) (HTt.out.ints) (by omega) (by omega)).mono ?_
    rintro e w8 ⟨rfl, hSm⟩
    rw [decide_eq_true rfl]
    have HBe := Lib.hid (HB7.out.trans ((hSm.below w7.heap.size).mono HB7.out.size))
    clear hSm q0
    go_wp2
    go_ret
    exact ⟨rfl, HBe.out⟩
  have hl4 := (ack_row HOk.out (i := 0) (by omega)).2
  obtain rfl : n = 4 := by have := HR6.out.1; omega
  have hv4 := vec_len (stable_vec HOk.out)
  obtain ⟨s, hse⟩ : ∃ s, stableL l = s := ⟨_, rfl⟩
  have HSe := Lib.hid hse
  rw [hse] at HSt6 hlen hv4 ⊢
  have hs4' := hv4
  clear hse hl4
  obtain ⟨p0, p1, p2, p3, hs4e⟩ : ∃ p0 p1 p2 p3 : Int, s = [p0, p1, p2, p3] := ⟨_, _, _, _, four_eq hv4⟩
  subst hs4e
  have HSt6' : Hid (Own w6 w2.heap.size w3.heap.size sa 4 [p0, p1, p2, p3]) := HSt6.out
  clear HSt6 hs4' hv4
  have HIn : Hid (∀ i, i < 4 → withinB [p0, p1, p2, p3] (rowOf l i) = true) := fun i hi => by rw [← HSe.out]; exact stable_in HOk.out hi
  have HMx : Hid (∀ d, d < 4 → allTo l (plusOne [p0, p1, p2, p3] d) 4 = false) := fun d hd => by rw [← HSe.out]; exact stable_max HOk.out hd
  have HSv : Hid (∀ d, d < 4 → 0 ≤ [p0, p1, p2, p3].getD d 0 ∧ [p0, p1, p2, p3].getD d 0 ≤ 40) := fun d hd => by
    have := stable_vec HOk.out
    rw [HSe.out, vecOk4] at this
    match d, hd with
    | 0, _ => exact this.1
    | 1, _ => exact this.2.1
    | 2, _ => exact this.2.2.1
    | 3, _ => exact this.2.2.2
  have hw6 : w.heap.size ≤ w6.heap.size := HB6.out.size
  clear HSe hlen
  go_wp2
  go_loopw [5] (fun i wr => ∃ k : Nat, k ≤ 4 ∧ i = .int .i64 (k : Int) ∧ Hid (Below w6.heap.size w6 wr)) (fun i _ => 4 - (intOf i).toNat)
  case atStart => exact ⟨0, Nat.zero_le _, rfl, Below.refl _ _⟩
  case round =>
    obtain ⟨k, hk, rfl, HBr⟩ := hrel
    have hsr := HBr.out.size
    have q0 := one_cell ((HBr.out.block _ (by omega)).trans HX6.out)
    by_cases hlt : k < 4
    · obtain ⟨b, off, ai, ci, rfl, hb, hc, hx⟩ := (HR6.out.below HBr.out (by omega)).2 k hlt
      have hki : (k : Int) < 4 := by omega
      go_wp2_with fail
      refine (implWithin wr wr.heap.size sa ai 4 sc (rowOf l k).length ci [p0, p1, p2, p3] (rowOf l k) ((HSt6'.out.below HBr.out (by omega)).ints.more (by omega)) (hx.more (by omega)) (Nat.le_refl _) (by omega) (HSh.out k hlt)).mono ?_
      rw [HIn.out k hlt]
      rintro e w7 ⟨rfl, hb7⟩
      have HB7 := Lib.hid (HBr.out.trans (hb7.mono hsr))
      clear hb7
      go_wp2
      go_roundw
      case rel => exact ⟨k + 1, by omega, by go_num, HB7⟩
      case measure => simp [intOf]; omega
    have hk4 : (k : Int) = 4 := by omega
    rw [hk4]
    clear hlt hk hk4
    go_wp2
    go_loopw [6] (fun i wr => ∃ k : Nat, k ≤ 4 ∧ i = .int .i64 (k : Int) ∧ Hid (Below w6.heap.size w6 wr)) (fun i _ => 4 - (intOf i).toNat)
    case atStart => exact ⟨0, Nat.zero_le _, rfl, HBr⟩
    case round =>
      obtain ⟨d, hd, rfl, HBs⟩ := hrel
      have hss := HBs.out.size
      by_cases hlt : d < 4
      rotate_left
      · have HE := Lib.hid (HB6.out.trans (HBs.out.mono HB6.out.size))
        obtain rfl : d = 4 := by omega
        go_wp2
        go_ret
        exact ⟨rfl, HE.out⟩
      have hdi : (d : Int) < 4 := by omega
      obtain ⟨va, vc, wc, hrun, ho, hbc⟩ := copy4 wr wr.heap.size sa sc [p0, p1, p2, p3] ((HSt6'.out.below HBs.out (by omega)).ints.more (by omega)) (Nat.le_refl _)
      obtain ⟨g, rfl, hg1, hg2, c0, f0, ho2⟩ := own_plus ho hlt
      have HOw := Lib.hid ho2
      have HBc := Lib.hid hbc
      obtain ⟨x0, x40⟩ := HSv.out d hlt
      obtain ⟨x, hxe⟩ : ∃ x, [p0, p1, p2, p3].getD d 0 = x := ⟨_, rfl⟩
      rw [hxe] at c0 x0 x40 HOw
      clear ho ho2 hbc hxe
      go_wp2_with (at_builtin; refine wpListR rfl _ _ _ rfl _ _ rfl rfl hrun ?_)
      clear hrun
      have HB8 : Hid (Below w6.heap.size w6 (wc.setCell ⟨g, d, none⟩ (.int .i64 (x + 1)))) := (HBs.out.trans (HBc.out.mono hss)).setCell (p := ⟨g, d, none⟩) (by show _ ≤ g; omega) _
      have hpl : (plusOne [p0, p1, p2, p3] d).length = 4 := by unfold plusOne; rw [List.length_set]; rfl
      have hMx := HMx.out d hlt
      generalize plusOne [p0, p1, p2, p3] d = v at HOw hMx hpl
      have q1 := (HBc.out.cell (p := ⟨A, 0, none⟩) (by show A < wr.heap.size; omega)).trans (one_cell ((HBs.out.block _ (by omega)).trans HX6.out))
      have hag : g ≠ A := by omega
      clear HMx
      have hz8 : wc.heap.size ≤ (wc.setCell ⟨g, d, none⟩ (.int .i64 (x + 1))).heap.size := by simp [World.setCell]
      go_wp2
      generalize wc.setCell ⟨g, d, none⟩ (.int .i64 (x + 1)) = w8 at HB8 HOw hz8 ⊢
      have hs8 := HB8.out.size
      clear c0 f0 q1 HBc HBs
      go_loopw [8, 9] (fun al i wr => ∃ k : Nat, k ≤ 4 ∧ i = .int .i64 (k : Int) ∧ al = .bool (allTo l v k) ∧ Hid (Below w8.heap.size w8 wr)) (fun _ i _ => 4 - (intOf i).toNat)
      case atStart => exact ⟨0, Nat.zero_le _, rfl, rfl, Below.refl _ _⟩
      case round =>
        obtain ⟨k, hk, rfl, rfl, HBt⟩ := hrel
        have hst := HBt.out.size
        have HB9 := Lib.hid (HB8.out.trans (HBt.out.mono hs8))
        have q1 := one_cell ((HB9.out.block _ (by omega)).trans HX6.out)
        by_cases hkl : k < 4
        rotate_left
        · obtain rfl : k = 4 := by omega
          rw [hMx]
          go_wp2
          go_roundw
          case rel => exact ⟨d + 1, by omega, by go_num, HB9⟩
          case measure => simp [intOf]; omega
        have hkk : (k : Int) < 4 := by omega
        have HAl : Hid (allTo l v (k + 1) = (allTo l v k && withinB v (rowOf l k))) := rfl
        generalize allTo l v k = b at HAl ⊢
        cases b
        · go_wp2
          go_roundw
          case rel => exact ⟨k + 1, by omega, by go_num, by rw [HAl.out]; rfl, HBt⟩
          case measure => simp [intOf]; omega
        obtain ⟨b, off, ai, ci, rfl, hb, hc, hx⟩ := (HR6.out.below HB9.out (by omega)).2 k hkl
        go_wp2_with fail
        refine (implWithin wr wr.heap.size (some ⟨g, 0, none⟩) ai 4 vc (rowOf l k).length ci v (rowOf l k) ((HOw.out.below HBt.out (by omega)).ints.more (by omega)) (hx.more (by omega)) (Nat.le_refl _) (by omega) (HSh.out k hkl)).mono ?_
        generalize withinB v (rowOf l k) = b2 at HAl ⊢
        rintro e w9 ⟨rfl, hb9⟩
        have HB10 := Lib.hid (HBt.out.trans (hb9.mono hst))
        clear hb9
        go_wp2
        go_roundw
        case rel => exact ⟨k + 1, by omega, by go_num, by rw [HAl.out]; rfl, HB10⟩
        case measure => simp [intOf]; omega
end Go.Proofs.Ythfkoplljinmmab
