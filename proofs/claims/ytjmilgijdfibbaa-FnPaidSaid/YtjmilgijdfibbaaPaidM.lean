/- What is paid for so many pieces: one more costs one or nothing, a whole group what is bought of it, together never more than apart. -/
import Derived.Test.YtjmilgijdfibbaaOffW
namespace Go.Proofs.Ytjmilgijdfibbaa

theorem paid_at {q b f a r : Int} (hg : 0 < b + f) (hr0 : 0 ≤ r) (hr : r < b + f) (e : q = a * (b + f) + r) : paidZ q b f = a * b + min r b := by
  have h1 : q / (b + f) = a := by
    rw [e, Int.add_comm, Int.add_mul_ediv_right _ _ (by omega), Int.ediv_eq_zero_of_lt hr0 hr, Int.zero_add]
  have h2 : q % (b + f) = r := by
    rw [Int.emod_def, h1, e, Int.mul_comm (b + f) a]
    omega
  unfold paidZ
  rw [h1, h2]
theorem paid_split (q : Int) {b f : Int} (hg : 0 < b + f) : ∃ a r : Int, 0 ≤ r ∧ r < b + f ∧ q = a * (b + f) + r ∧ paidZ q b f = a * b + min r b := by
  have e : q = q / (b + f) * (b + f) + q % (b + f) := by
    have := Int.emod_def q (b + f)
    rw [Int.mul_comm] at this
    omega
  exact ⟨q / (b + f), q % (b + f), Int.emod_nonneg _ (by omega), Int.emod_lt_of_pos _ hg, e, rfl⟩
theorem paid_more (q : Int) {b f : Int} (hb : 1 ≤ b) (hf : 1 ≤ f) : paidZ (q + 1) b f = paidZ q b f ∨ paidZ (q + 1) b f = paidZ q b f + 1 := by
  have hg : 0 < b + f := by omega
  obtain ⟨a, r, h0, h1, e, hp⟩ := paid_split q hg
  by_cases h : r + 1 < b + f
  · rw [hp, paid_at (a := a) (r := r + 1) hg (by omega) h (by rw [e]; omega)]
    generalize a * b = z
    omega
  · rw [hp, paid_at (a := a + 1) (r := 0) hg (by omega) hg (by rw [e, Int.add_mul, Int.one_mul]; omega), Int.add_mul, Int.one_mul]
    generalize a * b = z
    omega
theorem paid_group (q : Int) {b f : Int} (hb : 1 ≤ b) (hf : 1 ≤ f) : paidZ (q + b + f) b f = paidZ q b f + b := by
  have hg : 0 < b + f := by omega
  obtain ⟨a, r, h0, h1, e, hp⟩ := paid_split q hg
  rw [hp, paid_at (a := a + 1) (r := r) hg h0 h1 (by rw [e, Int.add_mul, Int.one_mul]; generalize a * (b + f) = z; omega), Int.add_mul, Int.one_mul]
  generalize a * b = z
  omega
theorem paid_up (q : Int) {b f : Int} (hb : 1 ≤ b) (hf : 1 ≤ f) : ∀ k : Nat, paidZ q b f ≤ paidZ (q + (k : Int)) b f
  | 0 => by simp
  | k + 1 => by
    have h1 := paid_up q hb hf k
    have e : q + ((k + 1 : Nat) : Int) = q + (k : Int) + 1 := by omega
    rw [e]
    rcases paid_more (q + (k : Int)) hb hf with h | h <;> omega
theorem paid_sub (q k : Int) {b f : Int} (hb : 1 ≤ b) (hf : 1 ≤ f) : paidZ (q + k) b f ≤ paidZ q b f + paidZ k b f := by
  have hg : 0 < b + f := by omega
  obtain ⟨a, r, h0, h1, e, hp⟩ := paid_split q hg
  obtain ⟨c, s, k0, k1, ek, hpk⟩ := paid_split k hg
  rw [hp, hpk]
  by_cases h : r + s < b + f
  · rw [paid_at (a := a + c) (r := r + s) hg (by omega) h (by rw [e, ek, Int.add_mul]; generalize a * (b + f) = z; generalize c * (b + f) = y; omega), Int.add_mul]
    generalize a * b = z
    generalize c * b = y
    omega
  · rw [paid_at (a := a + c + 1) (r := r + s - (b + f)) hg (by omega) (by omega) (by rw [e, ek, Int.add_mul, Int.add_mul, Int.one_mul]; generalize a * (b + f) = z; generalize c * (b + f) = y; omega), Int.add_mul, Int.add_mul, Int.one_mul]
    generalize a * b = z
    generalize c * b = y
    omega
end Go.Proofs.Ytjmilgijdfibbaa
