/- Walks and mathematics that several claims share, part 1. -/
import Derived.Test.YthkagbnpcjidfaaGreatDoorGu0
import Derived.Test.YthkagbnpcjidfaaGreatDoorRows
import Derived.WalkKit
import Derived.WalkLawsBesides
import Derived.Lib.Hide
import Derived.Lib.Strings
import Derived.WalkSpells
import Derived.IntWalk
namespace Go.Proofs.YthkagbnpcjidfaaGreatDoor
set_option maxRecDepth 100000
open Go.RowKit
set_option linter.unusedVariables false
set_option linter.unusedSimpArgs false
theorem cH (n lo hi : Int) (w : World) :
  Calls Tryz.prog 52 #[.int .i64 n, .int .i64 lo, .int .i64 hi] w fun e w' => e = .returned (.bool (cV n lo hi)) ∧ w = w' := by
 by_cases h1 : lo ≤ n
 ·by_cases h2 : n ≤ hi
  ·have H := aPo (xU h1 h2)
   go_enter Tryz.func52, Tryz.ntmps52
   go_wp2
   go_ret
   exact ⟨by rw [H.out]; rfl, rfl⟩
  ·have H := aPo (R6 (lo := lo) (.inr (Int.not_le.1 h2)))
   go_enter Tryz.func52, Tryz.ntmps52
   go_wp2
   go_ret
   exact ⟨by rw [H.out]; rfl, rfl⟩
 ·have H := aPo (R6 (hi := hi) (.inl (Int.not_le.1 h1)))
  go_enter Tryz.func52, Tryz.ntmps52
  go_wp2
  go_ret
  exact ⟨by rw [H.out]; rfl, rfl⟩
theorem bL (n lo hi : Int) (w : World) :
  Calls Tryz.prog 55 #[.int .i64 n, .int .i64 lo, .int .i64 hi] w fun e w' => e = .returned (.bool (cV n lo hi)) ∧ w = w' := by
 by_cases h1 : lo ≤ n
 ·by_cases h2 : n ≤ hi
  ·have H := aPo (xU h1 h2)
   go_enter Tryz.func55, Tryz.ntmps55
   go_wp2
   go_ret
   exact ⟨by rw [H.out]; rfl, rfl⟩
  ·have H := aPo (R6 (lo := lo) (.inr (Int.not_le.1 h2)))
   go_enter Tryz.func55, Tryz.ntmps55
   go_wp2
   go_ret
   exact ⟨by rw [H.out]; rfl, rfl⟩
 ·have H := aPo (R6 (hi := hi) (.inl (Int.not_le.1 h1)))
  go_enter Tryz.func55, Tryz.ntmps55
  go_wp2
  go_ret
  exact ⟨by rw [H.out]; rfl, rfl⟩
theorem fT (n : Int) (w : World) :
  Calls Tryz.prog 45 #[.int .i64 n] w fun e w' => e = .returned (.bool (cV n 0 3)) ∧ w = w' := by
 go_enter Tryz.func45, Tryz.ntmps45
 go_wp2_with fail
 refine (bL _ _ _ _).mono ?_
 rintro e w' ⟨rfl, rfl⟩
 go_wp2
 go_ret
 exact ⟨rfl, rfl⟩
set_option maxHeartbeats 2000000 in
theorem pL (s : ByteArray) (w : World) :
  Calls Tryz.prog 51 #[.string s] w fun e w' => e = .returned (.bool (fJ s)) ∧ w = w' := by
 have hL := aPo (Lib.size_eq s)
 by_cases h0 : s.size = 0
 ·have H := aPo (J4 (s := s) (by omega))
  have o9 : s.toList = [] := by rw [Lib.toList_data]; exact List.eq_nil_of_length_eq_zero (by have := hL.out; omega)
  clear h0
  go_enter Tryz.func51, Tryz.ntmps51
  go_wp2
  go_ret
  exact ⟨by rw [H.out]; rfl, rfl⟩
 ·have bO : s.toList ≠ [] := by rw [Lib.toList_data]; intro h; have := hL.out; rw [h, List.length_nil] at this; exact h0 this
  have aO5 : s.toList.isEmpty = false := by rw [List.isEmpty_eq_false_iff]; exact bO
  by_cases h8 : s.size ≤ 8
  ·go_enter Tryz.func51, Tryz.ntmps51
   go_wp2
   go_loop [15] (fun i => ∃ k : Nat, k ≤ s.size ∧ i = .int .i64 k ∧ Hid (charsB (s.data.toList.take k) = true)) (fun i => s.size - (intOf i).toNat)
   case atStart => exact ⟨0, Nat.zero_le _, rfl, aPo rfl⟩
   case round =>
    obtain ⟨k, hk, rfl, HK⟩ := hrel
    by_cases aJ : k < s.size
    ·have HS := aPo (aAA s k aJ)
     have HN := aPo (fun h => aEH (aB0 s k aJ h))
     rcases aDh s[k] with ⟨a1, a2, b1, b2, hb⟩ | ⟨a1, a2, b1, b2, hb⟩ | ⟨a1, a2, b1, b2, hb⟩ | ⟨a1, a2, b1, b2, hb⟩ | ⟨a1, a2, b1, b2, hb⟩
     ·have HB := aPo hb
      clear hb; go_wp2
      go_ret
      exact ⟨by rw [HN.out HB.out]; rfl, rfl⟩
     ·have HB := aPo hb
      clear hb; go_wp2
      go_round
      case rel => exact ⟨k + 1, by omega, by go_num, aPo (by rw [HS.out, HK.out, HB.out]; rfl)⟩
      case measure => simp [intOf]; omega
     ·have HB := aPo hb
      clear hb; go_wp2
      go_ret
      exact ⟨by rw [HN.out HB.out]; rfl, rfl⟩
     ·have HB := aPo hb
      clear hb; go_wp2
      go_round
      case rel => exact ⟨k + 1, by omega, by go_num, aPo (by rw [HS.out, HK.out, HB.out]; rfl)⟩
      case measure => simp [intOf]; omega
     ·have HB := aPo hb
      clear hb; go_wp2
      go_ret
      exact ⟨by rw [HN.out HB.out]; rfl, rfl⟩
    ·have H := aPo (aCQ (s := s) (by omega) h8 (by have e := HK.out; rwa [List.take_of_length_le (by have := hL.out; omega)] at e))
     go_wp2
     go_ret
     exact ⟨by rw [H.out]; rfl, rfl⟩
  ·have H := aPo (J4 (s := s) (by omega))
   go_enter Tryz.func51, Tryz.ntmps51
   go_wp2
   go_ret
   exact ⟨by rw [H.out]; rfl, rfl⟩
set_option maxHeartbeats 2000000 in
theorem fI (s : ByteArray) (hs : s.size ≤ 1048576) (w : World) :
  Calls Tryz.prog 54 #[.string s] w fun e w' => e = .returned (.bool (fJ s)) ∧ w = w' := by
 have hL := aPo (Lib.size_eq s)
 go_enter Tryz.func54, Tryz.ntmps54
 go_wp2
 go_loop [3] (fun i => ∃ k : Nat, k ≤ s.size ∧ i = .int .i64 k ∧ Hid (charsB (s.data.toList.take k) = true)) (fun i => s.size - (intOf i).toNat)
 case atStart => exact ⟨0, Nat.zero_le _, rfl, aPo rfl⟩
 case round =>
  obtain ⟨k, hk, rfl, HK⟩ := hrel
  by_cases aJ : k < s.size
  ·have HS := aPo (aAA s k aJ)
   have HN := aPo (fun h => aEH (aB0 s k aJ h))
   rcases aDh s[k] with ⟨a1, a2, b1, b2, hb⟩ | ⟨a1, a2, b1, b2, hb⟩ | ⟨a1, a2, b1, b2, hb⟩ | ⟨a1, a2, b1, b2, hb⟩ | ⟨a1, a2, b1, b2, hb⟩
   ·have HB := aPo hb
    clear hb; go_wp2
    go_ret
    exact ⟨by rw [HN.out HB.out]; rfl, rfl⟩
   ·have HB := aPo hb
    clear hb; go_wp2
    go_round
    case rel => exact ⟨k + 1, by omega, by go_num, aPo (by rw [HS.out, HK.out, HB.out]; rfl)⟩
    case measure => simp [intOf]; omega
   ·have HB := aPo hb
    clear hb; go_wp2
    go_ret
    exact ⟨by rw [HN.out HB.out]; rfl, rfl⟩
   ·have HB := aPo hb
    clear hb; go_wp2
    go_round
    case rel => exact ⟨k + 1, by omega, by go_num, aPo (by rw [HS.out, HK.out, HB.out]; rfl)⟩
    case measure => simp [intOf]; omega
   ·have HB := aPo hb
    clear hb; go_wp2
    go_ret
    exact ⟨by rw [HN.out HB.out]; rfl, rfl⟩
  ·have HF : Hid (charsB s.data.toList = true) := by have e := HK.out; rwa [List.take_of_length_le (by have := hL.out; omega)] at e
   by_cases h1 : 1 ≤ s.size
   ·by_cases h8 : s.size ≤ 8
    ·have H := aPo (aCQ (s := s) (by omega) h8 HF.out)
     have hd : decide ((s.size : Int) ≤ 8) = true := decide_eq_true (by omega)
     go_wp2
     go_ret
     exact ⟨by rw [H.out]; rfl, rfl⟩
    ·have H := aPo (J4 (s := s) (by omega))
     have hd : decide ((s.size : Int) ≤ 8) = false := decide_eq_false (by omega)
     go_wp2
     go_ret
     exact ⟨by rw [H.out]; rfl, rfl⟩
   ·have H := aPo (J4 (s := s) (by omega))
    go_wp2
    go_ret
    exact ⟨by rw [H.out]; rfl, rfl⟩
end Go.Proofs.YthkagbnpcjidfaaGreatDoor
