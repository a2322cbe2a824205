/- The walk of the law FnStable. -/
import Derived.Test.YtmceofdknphgkaaAckE
import Derived.Deep.Cut
namespace Go.Proofs.Ytmceofdknphgkaa
open Go.RowKit
set_option linter.unusedVariables false
set_option linter.unusedSimpArgs false

/-- Is the vector within the first k rows? -/
def allTo (l : List (List Int)) (v : List Int) : Nat → Bool
  | 0 => true
  | k + 1 => allTo l v k && withinB v (rowOf l k)
theorem allTo_stop {l : List (List Int)} {v : List Int} {j : Nat} (h : withinB v (rowOf l j) = false) : ∀ k, j < k → allTo l v k = false
  | 0, hj => absurd hj (Nat.not_lt_zero _)
  | k + 1, hj => by
    show (allTo l v k && withinB v (rowOf l k)) = false
    by_cases e : j = k
    · subst e; rw [h, Bool.and_false]
    · rw [allTo_stop h k (by omega), Bool.false_and]
def plusOne (s : List Int) (d : Nat) : List Int := s.set d (s.getD d 0 + 1)
theorem four_eq {xs : List Int} (h : xs.length = 4) : xs = [xs.getD 0 0, xs.getD 1 0, xs.getD 2 0, xs.getD 3 0] := by
  match xs, h with
  | [a, b, c, d], _ => rfl
theorem within4 (x0 x1 x2 x3 y0 y1 y2 y3 : Int) (hx : vecOk [x0, x1, x2, x3] = true) (hy : vecOk [y0, y1, y2, y3] = true) : withinB [x0, x1, x2, x3] [y0, y1, y2, y3] = true ↔ x0 ≤ y0 ∧ x1 ≤ y1 ∧ x2 ≤ y2 ∧ x3 ≤ y3 := by
  unfold withinB leAll
  rw [hx, hy]
  simp [List.range_succ]
theorem stable_parts {l : List (List Int)} (h : ackOk l = true) : ∃ a0 a1 a2 a3 b0 b1 b2 b3 c0 c1 c2 c3 d0 d1 d2 d3 : Int, rowOf l 0 = [a0, a1, a2, a3] ∧ rowOf l 1 = [b0, b1, b2, b3] ∧ rowOf l 2 = [c0, c1, c2, c3] ∧ rowOf l 3 = [d0, d1, d2, d3] ∧ stableL l = [min (min (min a0 b0) c0) d0, min (min (min a1 b1) c1) d1, min (min (min a2 b2) c2) d2, min (min (min a3 b3) c3) d3] := by
  obtain ⟨a0, a1, a2, a3, e0⟩ := four (ack_row h (i := 0) (by omega)).1
  obtain ⟨b0, b1, b2, b3, e1⟩ := four (ack_row h (i := 1) (by omega)).1
  obtain ⟨c0, c1, c2, c3, e2⟩ := four (ack_row h (i := 2) (by omega)).1
  obtain ⟨d0, d1, d2, d3, e3⟩ := four (ack_row h (i := 3) (by omega)).1
  refine ⟨a0, a1, a2, a3, b0, b1, b2, b3, c0, c1, c2, c3, d0, d1, d2, d3, e0, e1, e2, e3, ?_⟩
  rw [stable_yes h]
  show zipI min (zipI min (zipI min (rowOf l 0) (rowOf l 1)) (rowOf l 2)) (rowOf l 3) = _
  rw [e0, e1, e2, e3]
  rfl
theorem stable_vec {l : List (List Int)} (h : ackOk l = true) : vecOk (stableL l) = true := by
  rw [stable_yes h]
  exact minTo_ok h (by omega)
/-- What is stable is within each row. -/
theorem stable_in {l : List (List Int)} (h : ackOk l = true) {i : Nat} (hi : i < 4) : withinB (stableL l) (rowOf l i) = true := by
  have hv := stable_vec h
  have h0 := (ack_row h (i := 0) (by omega)).1
  have h1 := (ack_row h (i := 1) (by omega)).1
  have h2 := (ack_row h (i := 2) (by omega)).1
  have h3 := (ack_row h (i := 3) (by omega)).1
  obtain ⟨a0, a1, a2, a3, b0, b1, b2, b3, c0, c1, c2, c3, d0, d1, d2, d3, e0, e1, e2, e3, es⟩ := stable_parts h
  rw [e0] at h0
  rw [e1] at h1
  rw [e2] at h2
  rw [e3] at h3
  rw [es] at hv ⊢
  match i, hi with
  | 0, _ => rw [e0, within4 _ _ _ _ _ _ _ _ hv h0]; omega
  | 1, _ => rw [e1, within4 _ _ _ _ _ _ _ _ hv h1]; omega
  | 2, _ => rw [e2, within4 _ _ _ _ _ _ _ _ hv h2]; omega
  | 3, _ => rw [e3, within4 _ _ _ _ _ _ _ _ hv h3]; omega
theorem within_no {xs ys : List Int} (h : vecOk xs = false) : withinB xs ys = false := by unfold withinB; rw [h]; rfl
/-- One more of a device is not within all rows. -/
theorem stable_max {l : List (List Int)} (h : ackOk l = true) {d : Nat} (hd : d < 4) : allTo l (plusOne (stableL l) d) 4 = false := by
  cases hv : vecOk (plusOne (stableL l) d)
  · exact allTo_stop (j := 0) (within_no hv) 4 (by omega)
  have h0 := (ack_row h (i := 0) (by omega)).1
  have h1 := (ack_row h (i := 1) (by omega)).1
  have h2 := (ack_row h (i := 2) (by omega)).1
  have h3 := (ack_row h (i := 3) (by omega)).1
  obtain ⟨a0, a1, a2, a3, b0, b1, b2, b3, c0, c1, c2, c3, d0, d1, d2, d3, e0, e1, e2, e3, es⟩ := stable_parts h
  rw [e0] at h0
  rw [e1] at h1
  rw [e2] at h2
  rw [e3] at h3
  rw [es] at hv ⊢
  have fin : ∀ x0 x1 x2 x3 : Int, vecOk [x0, x1, x2, x3] = true → (¬ (x0 ≤ a0 ∧ x1 ≤ a1 ∧ x2 ≤ a2 ∧ x3 ≤ a3) ∨ ¬ (x0 ≤ b0 ∧ x1 ≤ b1 ∧ x2 ≤ b2 ∧ x3 ≤ b3) ∨ ¬ (x0 ≤ c0 ∧ x1 ≤ c1 ∧ x2 ≤ c2 ∧ x3 ≤ c3) ∨ ¬ (x0 ≤ d0 ∧ x1 ≤ d1 ∧ x2 ≤ d2 ∧ x3 ≤ d3)) → allTo l [x0, x1, x2, x3] 4 = false := by
    intro x0 x1 x2 x3 hx hn
    rcases hn with hn | hn | hn | hn
    · exact allTo_stop (j := 0) (by rw [e0, Bool.eq_false_iff]; exact fun e => hn ((within4 _ _ _ _ _ _ _ _ hx h0).1 e)) 4 (by omega)
    · exact allTo_stop (j := 1) (by rw [e1, Bool.eq_false_iff]; exact fun e => hn ((within4 _ _ _ _ _ _ _ _ hx h1).1 e)) 4 (by omega)
    · exact allTo_stop (j := 2) (by rw [e2, Bool.eq_false_iff]; exact fun e => hn ((within4 _ _ _ _ _ _ _ _ hx h2).1 e)) 4 (by omega)
    · exact allTo_stop (j := 3) (by rw [e3, Bool.eq_false_iff]; exact fun e => hn ((within4 _ _ _ _ _ _ _ _ hx h3).1 e)) 4 (by omega)
  match d, hd with
  | 0, _ => exact fin (min (min (min a0 b0) c0) d0 + 1) _ _ _ hv (by omega)
  | 1, _ => exact fin _ (min (min (min a1 b1) c1) d1 + 1) _ _ hv (by omega)
  | 2, _ => exact fin _ _ (min (min (min a2 b2) c2) d2 + 1) _ hv (by omega)
  | 3, _ => exact fin _ _ _ (min (min (min a3 b3) c3) d3 + 1) hv (by omega)

theorem own_plus {w : World} {lo hi d : Nat} {va : Option Addr} {s : List Int} (h : Own w lo hi va 4 s) (hd : d < 4) : ∃ g, va = some ⟨g, 0, none⟩ ∧ lo ≤ g ∧ g < hi ∧ w.cell? ⟨g, d, none⟩ = some (.int .i64 (s.getD d 0)) ∧ w.frozen? ⟨g, d, none⟩ = false ∧ Own (w.setCell ⟨g, d, none⟩ (.int .i64 (s.getD d 0 + 1))) lo hi va 4 (plusOne s d) := by
  have hl := h.1
  obtain ⟨g, cur, e, h1, h2, hg, hc⟩ := h.2 (by omega)
  refine ⟨g, e, h1, h2, ?_, frozen_of_row _ _ _ _ _ hg, ?_, fun _ => ⟨g, cur.setIfInBounds d (.int .i64 (s.getD d 0 + 1)), e, h1, h2, heap_setCell_same _ _ _ _ _ _ hg, fun i hi => ?_⟩⟩
  · rw [cell_of_row _ _ _ _ _ _ hg]
    exact hc d hd
  · unfold plusOne
    rw [List.length_set]
    exact hl
  · rw [Array.getElem?_setIfInBounds]
    have hsz := (Array.getElem?_eq_some_iff.1 (hc d hd)).1
    unfold plusOne
    by_cases e2 : d = i
    · subst e2
      rw [if_pos rfl, if_pos hsz, List.getD_eq_getElem?_getD (l := s.set _ _), List.getElem?_set_self (by omega)]
      rfl
    · rw [if_neg e2, hc i hi, List.getD_eq_getElem?_getD (l := s.set _ _), List.getElem?_set_ne e2, ← List.getD_eq_getElem?_getD]
end Go.Proofs.Ytmceofdknphgkaa
