/- Targets of undo and redo, seen from a device's operations: mathematics. -/
import Derived.Test.YtmceofdknphgkaaGrTargetsW
import Derived.Test.YtmceofdknphgkaaGa19
import Derived.Test.YtmceofdknphgkaaGrpNamedW
namespace Go.Proofs.Ytmceofdknphgkaa
open Go.RowKit

theorem ok_pos {o : OpV} (h : o.ok = true) : 1 ≤ o.seq ∧ o.seq ≤ 40 := by
  have h' : opB o.dev o.seq o.stamp o.kind o.item o.qty o.level o.undos = true := h
  unfold opB headB at h'
  simp only [Bool.and_eq_true, inB_iff] at h'
  omega
theorem undo_spec {xs : List Int} {l : List OpV} (hc : cartB xs l = true) (dev : Int) : ∀ k, k ≤ l.length → (∀ i, i < k → (atOp l i).dev = dev → (atOp l i).undos % 2 = 0 → (atOp l i).seq ≤ undoTo dev l k) ∧ (∀ i, i < k → (atOp l i).dev = dev → (atOp l i).seq = undoTo dev l k → (atOp l i).undos % 2 = 0)
  | 0, _ => ⟨fun i hi => absurd hi (Nat.not_lt_zero _), fun i hi => absurd hi (Nat.not_lt_zero _)⟩
  | k + 1, hk => by
    obtain ⟨h1, h2⟩ := undo_spec hc dev k (by omega)
    have e : atOp l k = l.getD k OpV.zero := rfl
    have hk' : k < l.length := hk
    rw [undoTo, ← e]
    by_cases hq : (atOp l k).dev = dev ∧ (atOp l k).undos % 2 = 0
    · rw [if_pos hq]
      refine ⟨fun i hi hd hu => ?_, fun i hi hd hs => ?_⟩
      · rcases Nat.lt_or_ge i k with h | h
        · exact Int.le_of_lt (cart_mono hc h hk' (hd.trans hq.1.symm))
        · obtain rfl : i = k := by omega
          exact Int.le_refl _
      · rcases Nat.lt_or_ge i k with h | h
        · have := cart_mono hc h hk' (hd.trans hq.1.symm)
          omega
        · obtain rfl : i = k := by omega
          exact hq.2
    · rw [if_neg hq]
      refine ⟨fun i hi hd hu => ?_, fun i hi hd hs => ?_⟩
      · rcases Nat.lt_or_ge i k with h | h
        · exact h1 i h hd hu
        · obtain rfl : i = k := by omega
          exact absurd ⟨hd, hu⟩ hq
      · rcases Nat.lt_or_ge i k with h | h
        · exact h2 i h hd hs
        · obtain rfl : i = k := by omega
          obtain ⟨_, _, _, _, _, hok, _⟩ := cart_atV hc hk'
          have hp := (ok_pos hok).1
          rcases undo_from dev l i with h0 | ⟨j, hj, hdj, hsj⟩
          · omega
          · have := cart_mono hc hj hk' (hdj.trans hd.symm)
            omega
/-- What the law asks of a device's operations. -/
theorem named_undo {xs : List Int} {l : List OpV} (hc : cartB xs l = true) {d : Nat} (hd : d < 4) : (namedL xs l (d : Int)).length = (xs.getD d 0).toNat ∧ ∀ i, i < (namedL xs l (d : Int)).length → (atOp (namedL xs l (d : Int)) i).ok = true ∧ (undoN xs l (d : Int) < (atOp (namedL xs l (d : Int)) i).seq → ¬ (atOp (namedL xs l (d : Int)) i).undos % 2 = 0) ∧ ((atOp (namedL xs l (d : Int)) i).seq = undoN xs l (d : Int) → (atOp (namedL xs l (d : Int)) i).undos % 2 = 0) := by
  have hu : undoN xs l (d : Int) = undoTo (d : Int) l l.length := by
    unfold undoN
    rw [if_pos ⟨hc, inB_iff.2 ⟨by omega, by omega⟩⟩]
  obtain ⟨h1, h2⟩ := undo_spec hc (d : Int) l.length (Nat.le_refl _)
  rw [hu, named_yes hc]
  refine ⟨?_, fun i hi => ?_⟩
  · rw [named_seg hc hd]
    have hl : stOf xs (d + 1) ≤ l.length := by
      have := stOf_mono xs (d + 1) 4 (by omega)
      rw [(cart_true hc).2.2] at this
      exact this
    have es : stOf xs (d + 1) = stOf xs d + (xs.getD d 0).toNat := rfl
    unfold segOf
    rw [List.length_take, List.length_drop]
    omega
  · have hm : atOp (l.filter (ofDev (d : Int))) i ∈ l.filter (ofDev (d : Int)) := by
      unfold atOp
      rw [List.getD_eq_getElem?_getD, List.getElem?_eq_getElem hi]
      exact List.getElem_mem hi
    have hf := List.mem_filter.1 hm
    obtain ⟨j, hj, ej⟩ := List.mem_iff_getElem.1 hf.1
    have ea : atOp l j = atOp (l.filter (ofDev (d : Int))) i := by
      rw [← ej]
      show l.getD j OpV.zero = _
      rw [List.getD_eq_getElem?_getD, List.getElem?_eq_getElem hj]
      rfl
    have hdv : (atOp (l.filter (ofDev (d : Int))) i).dev = (d : Int) := of_decide_eq_true hf.2
    obtain ⟨_, _, _, _, _, hok, _⟩ := cart_atV hc hj
    rw [ea] at hok
    refine ⟨hok, fun hlt hu2 => ?_, fun he => ?_⟩
    · have := h1 j hj (by rw [ea]; exact hdv) (by rw [ea]; exact hu2)
      rw [ea] at this
      omega
    · have := h2 j hj (by rw [ea]; exact hdv) (by rw [ea]; exact he)
      rw [ea] at this
      exact this
theorem redo_spec {xs : List Int} {l : List OpV} (hc : cartB xs l = true) {d : Nat} (hd : d < 4) : (decide (0 < redoN xs l (d : Int)) = decide (undoN xs l (d : Int) < (((namedL xs l (d : Int)).length : Nat) : Int))) ∧ (decide (0 < redoN xs l (d : Int)) = true → redoN xs l (d : Int) = undoN xs l (d : Int) + 1) ∧ 0 ≤ undoN xs l (d : Int) ∧ undoN xs l (d : Int) ≤ 40 := by
  have hn := (named_undo hc hd).1
  have hin : inB (d : Int) 0 3 = true := inB_iff.2 ⟨by omega, by omega⟩
  have hu : undoN xs l (d : Int) = undoTo (d : Int) l l.length := by
    unfold undoN
    rw [if_pos ⟨hc, hin⟩]
  have hr : redoN xs l (d : Int) = redoTo xs d l := by
    unfold redoN
    rw [if_pos ⟨hc, hin⟩, Int.toNat_natCast]
  have hv := (vec_at (cart_true hc).1 hd)
  have hb : 0 ≤ undoTo (d : Int) l l.length ∧ undoTo (d : Int) l l.length ≤ 40 := by
    rcases undo_from (d : Int) l l.length with h | ⟨i, hi, _, h⟩
    · omega
    · obtain ⟨_, _, _, _, _, hok, _⟩ := cart_atV hc hi
      have := ok_pos hok
      omega
  rw [hn, hu, hr]
  unfold redoTo
  have hx : (((xs.getD d 0).toNat : Nat) : Int) = xs.getD d 0 := Int.toNat_of_nonneg (by omega)
  rw [hx]
  by_cases hq : undoTo (d : Int) l l.length + 1 ≤ xs.getD d 0
  · rw [if_pos hq]
    exact ⟨by rw [decide_eq_true (by omega), decide_eq_true (by omega)], fun _ => rfl, hb⟩
  · rw [if_neg hq]
    exact ⟨by rw [decide_eq_false (by omega), decide_eq_false (by omega)], fun h => absurd (of_decide_eq_true h) (by omega), hb⟩
end Go.Proofs.Ytmceofdknphgkaa
