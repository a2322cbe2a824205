/- Plain mathematics of chapter 1's encodings: the numbers of a variable-length encoding. No program text is reached. -/
import Derived.WalkKit
namespace Go.Proofs.Ytdmhibdhnejiiab
open Go.RowKit

/-- The bytes of the encoding of a number, least significant first. -/
def varNums (n : Nat) : List Int := if n < 128 then [(n : Int)] else ((n : Int) % 128 + 128) :: varNums (n / 128)

theorem varNums_lt {n : Nat} (h : n < 128) : varNums n = [(n : Int)] := by rw [varNums, if_pos h]
theorem varNums_ge {n : Nat} (h : ¬ n < 128) : varNums n = ((n : Int) % 128 + 128) :: varNums (n / 128) := by rw [varNums, if_neg h]

theorem varNums_len : ∀ (k n : Nat), n < 128 ^ (k + 1) → (varNums n).length ≤ k + 1
  | 0, n, h => by rw [varNums_lt (by simpa using h)]; simp
  | k + 1, n, h => by
    by_cases hn : n < 128
    · rw [varNums_lt hn]; simp
    · rw [varNums_ge hn]
      have := varNums_len k (n / 128) (by rw [Nat.pow_succ] at h; exact Nat.div_lt_of_lt_mul (by rw [Nat.mul_comm]; exact h))
      simp; omega
theorem varNums_len9 (n : Nat) (h : n < 9223372036854775808) : (varNums n).length ≤ 9 := varNums_len 8 n (by simpa using h)

theorem varNums_pos (n : Nat) : 0 < (varNums n).length := by
  by_cases hn : n < 128
  · rw [varNums_lt hn]; simp
  · rw [varNums_ge hn]; simp

/-- A number that an int64 holds: a name, so that no great numeral stands in a walk. -/
def Fit (n : Nat) : Prop := n < 9223372036854775808

/-- One more byte of the loop's row. -/
theorem var_step {N m : Nat} {xs : List Int} (h : xs ++ varNums m = varNums N) (hm : ¬ m < 128) : (xs ++ [((m : Int) % 128 + 128)]) ++ varNums (m / 128) = varNums N := by
  rw [varNums_ge hm] at h
  simpa using h
theorem var_last {N m : Nat} {xs : List Int} (h : xs ++ varNums m = varNums N) (hm : m < 128) : xs ++ [(m : Int)] = varNums N := by
  rw [varNums_lt hm] at h
  exact h
theorem var_left {N m : Nat} {xs : List Int} (h : xs ++ varNums m = varNums N) (hN : Fit N) : xs.length < 9 := by
  have h1 := varNums_len9 N hN
  have h2 := varNums_pos m
  rw [← h] at h1
  simp at h1
  omega
theorem wrap64_div128 {m : Nat} (h : Fit m) : wrap64 ((m : Int) / 128) = (m : Int) / 128 := by
  unfold Fit at h
  simp only [wrap64]
  omega
end Go.Proofs.Ytdmhibdhnejiiab
