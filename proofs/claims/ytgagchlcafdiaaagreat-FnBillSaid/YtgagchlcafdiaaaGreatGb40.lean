/- Walks and mathematics that several claims share, part 40. -/
import Derived.Test.YtgagchlcafdiaaaGreatGb19
import Derived.Test.YtgagchlcafdiaaaGreatGb39
import Derived.Test.YtgagchlcafdiaaaGreatGb10
import Derived.Test.YtgagchlcafdiaaaGreatGbA
namespace Go.Proofs.YtgagchlcafdiaaaGreat
open Go.RowKit
set_option linter.unusedVariables false
set_option linter.unusedSimpArgs false

/-- An item put among others, where it belongs, if it is not there. -/
def insT (x : ByteArray) : List ByteArray → List ByteArray
 | [] => [x]
 | y :: r => if ltT y x = true then y :: insT x r else if y = x then y :: r else x :: y :: r
theorem mem_insT (x z : ByteArray) : ∀ l : List ByteArray, z ∈ insT x l ↔ z = x ∨ z ∈ l
 | [] => by simp [insT]
 | y :: r => by
  unfold insT
  split
  ·rw [List.mem_cons, mem_insT x z r, List.mem_cons]
   constructor
   ·rintro (h | h | h) <;> simp [h]
   ·rintro (h | h | h) <;> simp [h]
  ·split
   ·rename_i h
    rw [List.mem_cons]
    constructor
    ·exact fun h' => .inr h'
    ·rintro (h' | h')
     ·exact .inl (h'.trans h.symm)
     ·exact h'
   ·simp
theorem insT_len (x : ByteArray) : ∀ l : List ByteArray, (insT x l).length ≤ l.length + 1
 | [] => by simp [insT]
 | y :: r => by
  unfold insT
  split
  ·have := insT_len x r
   simp only [List.length_cons]; omega
  ·split <;> simp
/-- Where the item belongs: behind those that are less. -/
theorem insT_at (x : ByteArray) : ∀ (l : List ByteArray) (at_ : Nat), at_ ≤ l.length → (∀ j, j < at_ → ltT (l.getD j ⟨#[]⟩) x = true) → (at_ < l.length → ltT (l.getD at_ ⟨#[]⟩) x = false) →
  insT x l = if at_ < l.length ∧ l.getD at_ ⟨#[]⟩ = x then l else l.take at_ ++ x :: l.drop at_
 | [], at_, h, _, _ => by
  obtain rfl : at_ = 0 := by simpa using h
  simp [insT]
 | y :: r, 0, _, _, h2 => by
  have h3 : ltT y x = false := h2 (by simp)
  unfold insT
  rw [h3]
  by_cases hy : y = x
  ·simp [hy]
  ·simp [hy]
 | y :: r, k + 1, h, h1, h2 => by
  have h3 : ltT y x = true := h1 0 (by omega)
  have ih := insT_at x r k (by simpa using h) (fun j hj => by have := h1 (j + 1) (by omega); simpa using this) (fun hk => by have := h2 (by simpa using hk); simpa using this)
  unfold insT
  rw [if_pos h3, ih]
  by_cases hc : k < r.length ∧ r.getD k ⟨#[]⟩ = x
  ·rw [if_pos hc, if_pos (by simpa using hc)]
  ·rw [if_neg hc, if_neg (by simpa using hc)]
   simp
/-- What is there after the first k operations were looked at. -/
def namesTo (l : List OpV) : Nat → List ByteArray
 | 0 => []
 | k + 1 => if levTo (l.getD k OpV.zero).item l l.length % 2 = 1 then insT (l.getD k OpV.zero).item (namesTo l k) else namesTo l k
theorem namesTo_mem (l : List OpV) (x : ByteArray) : ∀ k, x ∈ namesTo l k ↔ levTo x l l.length % 2 = 1 ∧ ∃ i, i < k ∧ (l.getD i OpV.zero).item = x
 | 0 => by simp [namesTo]
 | k + 1 => by
  have ih := namesTo_mem l x k
  rw [namesTo]
  split
  ·rename_i h
   rw [mem_insT, ih]
   constructor
   ·rintro (rfl | ⟨h1, i, hi, h2⟩)
    ·exact ⟨h, k, by omega, rfl⟩
    ·exact ⟨h1, i, by omega, h2⟩
   ·rintro ⟨h1, i, hi, h2⟩
    by_cases hk : i = k
    ·subst hk
     exact .inl h2.symm
    ·exact .inr ⟨h1, i, by omega, h2⟩
  ·rename_i h
   rw [ih]
   constructor
   ·rintro ⟨h1, i, hi, h2⟩
    exact ⟨h1, i, by omega, h2⟩
   ·rintro ⟨h1, i, hi, h2⟩
    by_cases hk : i = k
    ·subst hk
     exact absurd (h2 ▸ h1) h
    ·exact ⟨h1, i, by omega, h2⟩
theorem namesTo_len (l : List OpV) : ∀ k, (namesTo l k).length ≤ k
 | 0 => Nat.le_refl _
 | k + 1 => by
  have ih := namesTo_len l k
  rw [namesTo]
  split
  ·have := insT_len (l.getD k OpV.zero).item (namesTo l k)
   omega
  ·omega
/-- The items that a cart shows. -/
def itemsN (xs : List Int) (l : List OpV) : List ByteArray := if cartB xs l = true then namesTo l l.length else []
def lineV (l : List OpV) (x : ByteArray) : LnV := ⟨x, (bestTo cntB x l l.length).qty, decide ((bestTo plcB x l l.length).kind = 4)⟩
def linesN (xs : List Int) (l : List OpV) : List LnV := (itemsN xs l).map (lineV l)
end Go.Proofs.YtgagchlcafdiaaaGreat
