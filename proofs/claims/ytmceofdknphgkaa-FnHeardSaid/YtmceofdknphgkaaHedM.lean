/- What is heard of a device: mathematics. -/
import Derived.Test.YtmceofdknphgkaaSacW
import Derived.Test.YtmceofdknphgkaaStabW
namespace Go.Proofs.Ytmceofdknphgkaa
open Go.RowKit

theorem max_again {xs ys : List Int} (hx : vecOk xs = true) (hy : vecOk ys = true) : zipI max (zipI max xs ys) ys = zipI max xs ys := by
  obtain ⟨x0, x1, x2, x3, rfl⟩ := four hx
  obtain ⟨y0, y1, y2, y3, rfl⟩ := four hy
  show [max (max x0 y0) y0, max (max x1 y1) y1, max (max x2 y2) y2, max (max x3 y3) y3] = [max x0 y0, max x1 y1, max x2 y2, max x3 y3]
  have e0 : max (max x0 y0) y0 = max x0 y0 := by omega
  have e1 : max (max x1 y1) y1 = max x1 y1 := by omega
  have e2 : max (max x2 y2) y2 = max x2 y2 := by omega
  have e3 : max (max x3 y3) y3 = max x3 y3 := by omega
  rw [e0, e1, e2, e3]
theorem max_in {xs ys : List Int} (hx : vecOk xs = true) (hy : vecOk ys = true) (hz : vecOk (zipI max xs ys) = true) : withinB xs (zipI max xs ys) = true ∧ withinB ys (zipI max xs ys) = true := by
  obtain ⟨x0, x1, x2, x3, rfl⟩ := four hx
  obtain ⟨y0, y1, y2, y3, rfl⟩ := four hy
  have hz' : vecOk [max x0 y0, max x1 y1, max x2 y2, max x3 y3] = true := hz
  show withinB _ [max x0 y0, max x1 y1, max x2 y2, max x3 y3] = true ∧ withinB _ [max x0 y0, max x1 y1, max x2 y2, max x3 y3] = true
  rw [within4 _ _ _ _ _ _ _ _ hx hz', within4 _ _ _ _ _ _ _ _ hy hz']
  omega
theorem max_le {xs ys : List Int} (hx : vecOk xs = true) (hy : vecOk ys = true) (j : Nat) : xs.getD j 0 ≤ (zipI max xs ys).getD j 0 := by
  obtain ⟨x0, x1, x2, x3, rfl⟩ := four hx
  obtain ⟨y0, y1, y2, y3, rfl⟩ := four hy
  show _ ≤ [max x0 y0, max x1 y1, max x2 y2, max x3 y3].getD j 0
  match j with
  | 0 => show x0 ≤ max x0 y0; omega
  | 1 => show x1 ≤ max x1 y1; omega
  | 2 => show x2 ≤ max x2 y2; omega
  | 3 => show x3 ≤ max x3 y3; omega
  | j + 4 => exact Int.le_refl _
theorem heard_facts {l : List (List Int)} {d : Nat} {ys : List Int} (h : ackOk l = true) (hd : d < 4) (hy : vecOk ys = true) :
    ackOk (heardRows l d ys) = true ∧ heardRows (heardRows l d ys) d ys = heardRows l d ys ∧ withinB ys (rowOf (heardRows l d ys) d) = true ∧ withinB (rowOf l d) (rowOf (heardRows l d ys) d) = true ∧ withinB (stableL l) (stableL (heardRows l d ys)) = true ∧ ∀ i, i < 4 → i ≠ d → rowOf (heardRows l d ys) i = rowOf l i := by
  have hl4 : l.length = 4 := (ack_row h (i := 0) (by omega)).2
  have hL := heard_ackOk h hd hy
  have hat : ∀ i, rowOf (heardRows l d ys) i = if i = d then zipI max (rowOf l d) ys else rowOf l i := fun i => heard_at ys (by omega)
  have hrd := (ack_row h (i := d) hd).1
  have hrd' := (ack_row hL (i := d) hd).1
  have hdd : rowOf (heardRows l d ys) d = zipI max (rowOf l d) ys := by rw [hat d, if_pos rfl]
  rw [hdd] at hrd'
  obtain ⟨w1, w2⟩ := max_in hrd hy hrd'
  refine ⟨hL, ?_, by rw [hdd]; exact w2, by rw [hdd]; exact w1, ?_, fun i _ hne => by rw [hat i, if_neg hne]⟩
  · have e : heardRows (heardRows l d ys) d ys = (heardRows l d ys).set d (zipI max (rowOf (heardRows l d ys) d) ys) := rfl
    rw [e, hdd, max_again hrd hy]
    show (l.set d _).set d _ = l.set d _
    rw [List.set_set]
  · have hle : ∀ i j, (rowOf l i).getD j 0 ≤ (rowOf (heardRows l d ys) i).getD j 0 := fun i j => by
      rw [hat i]
      by_cases e : i = d
      · subst e
        rw [if_pos rfl]
        exact max_le hrd hy j
      · rw [if_neg e]
        exact Int.le_refl _
    have hv := stable_vec h
    have hv' := stable_vec hL
    obtain ⟨a0, a1, a2, a3, b0, b1, b2, b3, c0, c1, c2, c3, d0, d1, d2, d3, e0, e1, e2, e3, es⟩ := stable_parts h
    obtain ⟨p0, p1, p2, p3, q0, q1, q2, q3, r0, r1, r2, r3, s0, s1, s2, s3, f0, f1, f2, f3, fs⟩ := stable_parts hL
    rw [es] at hv
    rw [fs] at hv'
    rw [es, fs, within4 _ _ _ _ _ _ _ _ hv hv']
    have h0 := fun j => hle 0 j
    have h1 := fun j => hle 1 j
    have h2 := fun j => hle 2 j
    have h3 := fun j => hle 3 j
    rw [e0, f0] at h0
    rw [e1, f1] at h1
    rw [e2, f2] at h2
    rw [e3, f3] at h3
    have A0 : a0 ≤ p0 := h0 0
    have A1 : a1 ≤ p1 := h0 1
    have A2 : a2 ≤ p2 := h0 2
    have A3 : a3 ≤ p3 := h0 3
    have B0 : b0 ≤ q0 := h1 0
    have B1 : b1 ≤ q1 := h1 1
    have B2 : b2 ≤ q2 := h1 2
    have B3 : b3 ≤ q3 := h1 3
    have C0 : c0 ≤ r0 := h2 0
    have C1 : c1 ≤ r1 := h2 1
    have C2 : c2 ≤ r2 := h2 2
    have C3 : c3 ≤ r3 := h2 3
    have D0 : d0 ≤ s0 := h3 0
    have D1 : d1 ≤ s1 := h3 1
    have D2 : d2 ≤ s2 := h3 2
    have D3 : d3 ≤ s3 := h3 3
    omega
end Go.Proofs.Ytmceofdknphgkaa
