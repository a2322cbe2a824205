/- Walks and mathematics that several claims share, part 7. -/
import Derived.Test.YthkagbnpcjidfaaGreatDoorGu3
import Derived.Deep.RegionHeld3
import Derived.RegionTactic
namespace Go.Proofs.YthkagbnpcjidfaaGreatDoor
set_option maxRecDepth 100000
open Go.RowKit
set_option linter.unusedVariables false
set_option linter.unusedSimpArgs false
def wH (x y : Int) : Int := if x < y then -1 else if y < x then 1 else 0
theorem aAv {x y : Int} (h : x < y) : wH x y = -1 := if_pos h
theorem aAw {x y : Int} (h : y < x) : wH x y = 1 := by unfold wH; rw [if_neg (by omega), if_pos h]
theorem cmp_eq {x y : Int} (h : x = y) : wH x y = 0 := by unfold wH; rw [if_neg (by omega), if_neg (by omega)]
def yD (x y z : Int) : Int := if x ≠ 0 then x else if y ≠ 0 then y else z
def preB (s d q s' d' q' : Int) : Bool := decide (s < s' ∨ (s = s' ∧ (d < d' ∨ (d = d' ∧ q < q'))))
theorem aK6 (s d q s' d' q' : Int) : decide (yD (wH s s') (wH d d') (wH q q') < 0) = preB s d q s' d' q' := by
 unfold preB
 rw [decide_eq_decide]
 unfold yD
 rcases Int.lt_trichotomy s s' with h | h | h
 ·rw [aAv h, if_pos (by decide)]; omega
 ·rw [cmp_eq h, if_neg (by decide)]
  rcases Int.lt_trichotomy d d' with g | g | g
  ·rw [aAv g, if_pos (by decide)]; omega
  ·rw [cmp_eq g, if_neg (by decide)]
   rcases Int.lt_trichotomy q q' with k | k | k
   ·rw [aAv k]; omega
   ·rw [cmp_eq k]; omega
   ·rw [aAw k]; omega
  ·rw [aAw g, if_pos (by decide)]; omega
 ·rw [aAw h, if_pos (by decide)]; omega
theorem isNaN (x : Int) (w : World) : Calls Tryz.prog 149 #[.int .i64 x] w fun e w' => e = .returned (.bool false) ∧ w = w' := by
 go_enter Tryz.func149, Tryz.ntmps149
 go_wp2
 go_ret
 exact ⟨rfl, rfl⟩
theorem compare (x y : Int) (w : World) : Calls Tryz.prog 129 #[.int .i64 x, .int .i64 y] w fun e w' => e = .returned (.int .i64 (wH x y)) ∧ w = w' := by
 rcases Int.lt_trichotomy x y with h | h | h
 ·have H := aPo (aAv h)
  go_enter Tryz.func129, Tryz.ntmps129
  go_wp2_with fail
  refine (isNaN _ _).mono ?_
  rintro e w' ⟨rfl, rfl⟩
  go_wp2_with fail
  refine (isNaN _ _).mono ?_
  rintro e w' ⟨rfl, rfl⟩; go_wp2
  go_ret
  exact ⟨by rw [H.out]; rfl, rfl⟩
 ·have H := aPo (cmp_eq h)
  subst h
  go_enter Tryz.func129, Tryz.ntmps129
  go_wp2_with fail
  refine (isNaN _ _).mono ?_
  rintro e w' ⟨rfl, rfl⟩
  go_wp2_with fail
  refine (isNaN _ _).mono ?_
  rintro e w' ⟨rfl, rfl⟩; go_wp2
  go_ret
  exact ⟨by rw [H.out]; rfl, rfl⟩
 ·have H := aPo (aAw h)
  have h' : ¬ x < y := by omega
  go_enter Tryz.func129, Tryz.ntmps129
  go_wp2_with fail
  refine (isNaN _ _).mono ?_
  rintro e w' ⟨rfl, rfl⟩
  go_wp2_with fail
  refine (isNaN _ _).mono ?_
  rintro e w' ⟨rfl, rfl⟩; go_wp2
  go_ret
  exact ⟨by rw [H.out]; rfl, rfl⟩
theorem aMX (x y z : Int) (b : Nat) (w : World) (h0 : w.cell? ⟨b, 0, none⟩ = some (.int .i64 x)) (h1 : w.cell? ⟨b, 1, none⟩ = some (.int .i64 y)) (h2 : w.cell? ⟨b, 2, none⟩ = some (.int .i64 z)) :
  Calls Tryz.prog 128 #[.slice (some ⟨b, 0, none⟩) 3 3] w fun e w' => e = .returned (.int .i64 (yD x y z)) ∧ w = w' := by
 by_cases hx : x = 0
 ·by_cases hy : y = 0
  ·by_cases hz : z = 0
   ·have z0 : (x != 0) = false := by rw [hx]; rfl
    have z1 : (y != 0) = false := by rw [hy]; rfl
    have z2 : (z != 0) = false := by rw [hz]; rfl
    have HV : Hid (yD x y z = 0) := by show yD x y z = 0; unfold yD; rw [if_neg (fun h => h hx)]; rw [if_neg (fun h => h hy)]; exact hz
    clear hx hy hz
    go_enter Tryz.func128, Tryz.ntmps128
    go_wp2
    go_loop [8] (fun i => ∃ k : Nat, k ≤ 3 ∧ i = .int .i64 k) (fun i => 3 - (intOf i).toNat)
    case atStart => exact ⟨0, by omega, rfl⟩
    case round =>
     obtain ⟨k, hk, rfl⟩ := hrel; obtain rfl | rfl | rfl | rfl : k = 0 ∨ k = 1 ∨ k = 2 ∨ k = 3 := by omega
     ·go_wp2
      go_round
      case rel => exact ⟨1, by omega, by go_num⟩
      case measure => simp [intOf]
     ·go_wp2
      go_round
      case rel => exact ⟨2, by omega, by go_num⟩
      case measure => simp [intOf]
     ·go_wp2
      go_round
      case rel => exact ⟨3, by omega, by go_num⟩
      case measure => simp [intOf]
     ·go_wp2
      go_ret
      exact ⟨by rw [HV.out]; rfl, rfl⟩
   ·have z0 : (x != 0) = false := by rw [hx]; rfl
    have z1 : (y != 0) = false := by rw [hy]; rfl
    have z2 : (z != 0) = true := by rw [bne_iff_ne]; exact hz
    have HV : Hid (yD x y z = z) := by show yD x y z = z; unfold yD; rw [if_neg (fun h => h hx)]; rw [if_neg (fun h => h hy)]
    clear hx hy hz
    go_enter Tryz.func128, Tryz.ntmps128
    go_wp2
    go_loop [8] (fun i => ∃ k : Nat, k ≤ 2 ∧ i = .int .i64 k) (fun i => 3 - (intOf i).toNat)
    case atStart => exact ⟨0, by omega, rfl⟩
    case round =>
     obtain ⟨k, hk, rfl⟩ := hrel; obtain rfl | rfl | rfl : k = 0 ∨ k = 1 ∨ k = 2 := by omega
     ·go_wp2
      go_round
      case rel => exact ⟨1, by omega, by go_num⟩
      case measure => simp [intOf]
     ·go_wp2
      go_round
      case rel => exact ⟨2, by omega, by go_num⟩
      case measure => simp [intOf]
     ·go_wp2
      go_ret
      exact ⟨by rw [HV.out]; rfl, rfl⟩
  ·have z0 : (x != 0) = false := by rw [hx]; rfl
   have z1 : (y != 0) = true := by rw [bne_iff_ne]; exact hy
   have HV : Hid (yD x y z = y) := by show yD x y z = y; unfold yD; rw [if_neg (fun h => h hx)]; rw [if_pos hy]
   clear hx hy
   go_enter Tryz.func128, Tryz.ntmps128
   go_wp2
   go_loop [8] (fun i => ∃ k : Nat, k ≤ 1 ∧ i = .int .i64 k) (fun i => 3 - (intOf i).toNat)
   case atStart => exact ⟨0, by omega, rfl⟩
   case round =>
    obtain ⟨k, hk, rfl⟩ := hrel; obtain rfl | rfl : k = 0 ∨ k = 1 := by omega
    ·go_wp2
     go_round
     case rel => exact ⟨1, by omega, by go_num⟩
     case measure => simp [intOf]
    ·go_wp2
     go_ret
     exact ⟨by rw [HV.out]; rfl, rfl⟩
 ·have z0 : (x != 0) = true := by rw [bne_iff_ne]; exact hx
  have HV : Hid (yD x y z = x) := by show yD x y z = x; unfold yD; rw [if_pos hx]
  clear hx
  go_enter Tryz.func128, Tryz.ntmps128
  go_wp2
  go_loop [8] (fun i => ∃ k : Nat, k ≤ 0 ∧ i = .int .i64 k) (fun i => 3 - (intOf i).toNat)
  case atStart => exact ⟨0, by omega, rfl⟩
  case round =>
   obtain ⟨k, hk, rfl⟩ := hrel; obtain rfl : k = 0 := by omega
   go_wp2
   go_ret
   exact ⟨by rw [HV.out]; rfl, rfl⟩
end Go.Proofs.YthkagbnpcjidfaaGreatDoor
