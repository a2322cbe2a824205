/- Walks and mathematics that several claims share, part 9. -/
import Derived.Test.YtdbdmfaphdjdpaaGu5
import Derived.Deep.RegionHeld3
import Derived.RegionTactic
import Derived.Test.YtdbdmfaphdjdpaaGuA
namespace Go.Proofs.Ytdbdmfaphdjdpaa
open Go.RowKit

def cmpI (x y : Int) : Int := if x < y then -1 else if y < x then 1 else 0
theorem cmp_lt {x y : Int} (h : x < y) : cmpI x y = -1 := if_pos h
theorem cmp_gt {x y : Int} (h : y < x) : cmpI x y = 1 := by unfold cmpI; rw [if_neg (by omega), if_pos h]
theorem cmp_eq {x y : Int} (h : x = y) : cmpI x y = 0 := by unfold cmpI; rw [if_neg (by omega), if_neg (by omega)]
/-- a precedes b: by stamps, then by devices, then by numbers. -/
def preB (s d q s' d' q' : Int) : Bool := decide (s < s' ∨ (s = s' ∧ (d < d' ∨ (d = d' ∧ q < q'))))
theorem isNaN (x : Int) (w : World) : Calls Try.prog 170 #[.int .i64 x] w fun e w' => e = .returned (.bool false) ∧ w = w' := by
 go_enter Try.func170, Try.ntmps170
 go_wp2
 go_ret
 exact ⟨rfl, rfl⟩
theorem compare (x y : Int) (w : World) : Calls Try.prog 142 #[.int .i64 x, .int .i64 y] w fun e w' => e = .returned (.int .i64 (cmpI x y)) ∧ w = w' := by
 rcases Int.lt_trichotomy x y with h | h | h
 ·have H := Lib.hid (cmp_lt h)
  go_enter Try.func142, Try.ntmps142
  go_wp2_with fail
  refine (isNaN _ _).mono ?_
  rintro e w' ⟨rfl, rfl⟩
  go_wp2_with fail
  refine (isNaN _ _).mono ?_
  rintro e w' ⟨rfl, rfl⟩
  go_wp2
  go_ret
  exact ⟨by rw [H.out]; rfl, rfl⟩
 ·have H := Lib.hid (cmp_eq h)
  subst h
  go_enter Try.func142, Try.ntmps142
  go_wp2_with fail
  refine (isNaN _ _).mono ?_
  rintro e w' ⟨rfl, rfl⟩
  go_wp2_with fail
  refine (isNaN _ _).mono ?_
  rintro e w' ⟨rfl, rfl⟩
  go_wp2
  go_ret
  exact ⟨by rw [H.out]; rfl, rfl⟩
 ·have H := Lib.hid (cmp_gt h)
  have h' : ¬ x < y := by omega
  go_enter Try.func142, Try.ntmps142
  go_wp2_with fail
  refine (isNaN _ _).mono ?_
  rintro e w' ⟨rfl, rfl⟩
  go_wp2_with fail
  refine (isNaN _ _).mono ?_
  rintro e w' ⟨rfl, rfl⟩
  go_wp2
  go_ret
  exact ⟨by rw [H.out]; rfl, rfl⟩
end Go.Proofs.Ytdbdmfaphdjdpaa
