/- Walks and mathematics that several claims share, part 29. -/
import Derived.Test.YtgagchlcafdiaaaGreatRows
import Derived.WalkKit
import Derived.WalkLawsBesides
import Derived.Lib.Hide
import Derived.Lib.Strings
import Derived.WalkSpells
import Derived.IntWalk
import Derived.Deep.QuietTactic
import Derived.Test.YtgagchlcafdiaaaGreatGbA
namespace Go.Proofs.YtgagchlcafdiaaaGreat
open Go.RowKit
set_option linter.unusedVariables false
set_option linter.unusedSimpArgs false

def ltS (s t : ByteArray) : Bool := Op.bytesLess s.toList t.toList
def cmpS (s t : ByteArray) : Int := if ltS s t = true then -1 else if (s.toList == t.toList) = true then 0 else 1
theorem cmp_yes {s t : ByteArray} (h : cmpS s t < 0) : ltS s t = true := by
 unfold cmpS at h
 by_cases h1 : ltS s t = true
 ·exact h1
 ·rw [if_neg h1] at h
  by_cases h2 : (s.toList == t.toList) = true
  ·rw [if_pos h2] at h; omega
  ·rw [if_neg h2] at h; omega
theorem cmp_no {s t : ByteArray} (h : 0 ≤ cmpS s t) : ltS s t = false := by
 unfold cmpS at h
 rcases h1 : ltS s t with _ | _
 ·rfl
 ·rw [if_pos h1] at h; omega
theorem nanStr (s : ByteArray) (w : World) : Calls Tryz.prog 102 #[.string s] w fun e w' => e = .returned (.bool false) ∧ w = w' := by
 go_enter Tryz.func102, Tryz.ntmps102
 go_wp2
 go_ret
 exact ⟨by simp, rfl⟩
theorem cmpStr (s t : ByteArray) (w : World) : Calls Tryz.prog 84 #[.string s, .string t] w fun e w' => e = .returned (.int .i64 (cmpS s t)) ∧ w = w' := by
 have HC : Hid (cmpS s t = if Op.bytesLess s.toList t.toList = true then -1 else if (s.toList == t.toList) = true then 0 else 1) := rfl
 generalize cmpS s t = z at HC ⊢
 rcases h1 : Op.bytesLess s.toList t.toList with _ | _
 ·rcases h2 : (s.toList == t.toList) with _ | _
  ·have HZ : Hid (z = 1) := by have := HC.out; rw [h1, h2] at this; exact this
   go_enter Tryz.func84, Tryz.ntmps84
   go_wp2_with fail
   refine (nanStr s _).mono ?_
   rintro e w1 ⟨rfl, rfl⟩
   go_wp2_with fail
   refine (nanStr t _).mono ?_
   rintro e w1 ⟨rfl, rfl⟩
   go_wp2
   go_ret
   exact ⟨by rw [HZ.out]; rfl, rfl⟩
  ·have HZ : Hid (z = 0) := by have := HC.out; rw [h1, h2] at this; exact this
   go_enter Tryz.func84, Tryz.ntmps84
   go_wp2_with fail
   refine (nanStr s _).mono ?_
   rintro e w1 ⟨rfl, rfl⟩
   go_wp2_with fail
   refine (nanStr t _).mono ?_
   rintro e w1 ⟨rfl, rfl⟩
   go_wp2
   go_ret
   exact ⟨by rw [HZ.out]; rfl, rfl⟩
 ·have HZ : Hid (z = -1) := by have := HC.out; rw [h1] at this; exact this
  go_enter Tryz.func84, Tryz.ntmps84
  go_wp2_with fail
  refine (nanStr s _).mono ?_
  rintro e w1 ⟨rfl, rfl⟩
  go_wp2_with fail
  refine (nanStr t _).mono ?_
  rintro e w1 ⟨rfl, rfl⟩
  go_wp2
  go_ret
  exact ⟨by rw [HZ.out]; rfl, rfl⟩

theorem all_range_no {p : Nat → Bool} {n i : Nat} (hi : i < n) (h : p i = false) : (List.range n).all p = false := by
 rw [List.all_eq_false]
 exact ⟨i, by simpa using hi, by simp [h]⟩
theorem all_range_yes {p : Nat → Bool} {n : Nat} (h : ∀ i, i < n → p i = true) : (List.range n).all p = true := by
 rw [List.all_eq_true]
 intro d hm
 exact h d (by simpa using hm)
theorem allp_stepS {p : Nat → Bool} {k : Nat} (h : ∀ i, i < k → p i = true) (hk : p k = true) : ∀ i, i < k + 1 → p i = true := fun i hi => by
 rcases Nat.lt_or_ge i k with h1 | h1
 ·exact h i h1
 ·obtain rfl : i = k := by omega
  exact hk
/-- At most 50 elements, each valid, each greater than the one before. -/
def sortB (n : Nat) (ok inc : Nat → Bool) : Bool := (List.range n).all ok && ((List.range n).all inc && decide (n ≤ 50))
theorem sort_long {n : Nat} {ok inc : Nat → Bool} (h : ¬ n ≤ 50) : sortB n ok inc = false := by unfold sortB; rw [decide_eq_false h]; simp
theorem sort_inc {n : Nat} {ok inc : Nat → Bool} (h : (List.range n).all inc = false) : sortB n ok inc = false := by unfold sortB; rw [h]; simp
theorem sort_ok {n : Nat} {ok inc : Nat → Bool} (h : (List.range n).all ok = false) : sortB n ok inc = false := by unfold sortB; rw [h]; simp
theorem sort_rest {n : Nat} {ok inc : Nat → Bool} (h : (List.range n).all inc = true) (h2 : n ≤ 50) : sortB n ok inc = (List.range n).all ok := by unfold sortB; rw [h, decide_eq_true h2]; simp
theorem sort_lenB {n : Nat} {ok inc : Nat → Bool} (h1 : ∀ i, i < n → ok i = true) (h2 : ∀ i, i < n → inc i = true) : sortB n ok inc = decide (n ≤ 50) := by unfold sortB; rw [all_range_yes h1, all_range_yes h2]; rfl
end Go.Proofs.YtgagchlcafdiaaaGreat
