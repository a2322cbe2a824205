/- Walks and mathematics that several claims share, part 6. -/
import Derived.Test.YtjokbaaommicmaaGreatDoorGb0
import Derived.Test.YtjokbaaommicmaaGreatDoorRows
import Derived.WalkKit
import Derived.WalkLawsBesides
import Derived.Lib.Hide
import Derived.Lib.Strings
import Derived.WalkSpells
import Derived.IntWalk
import Derived.Test.YtjokbaaommicmaaGreatDoorGbA
namespace Go.Proofs.YtjokbaaommicmaaGreatDoor
set_option maxRecDepth 100000
open Go.RowKit

theorem inRange (n lo hi : Int) (w : World) :
  Calls Tryz.prog 59 #[.int .i64 n, .int .i64 lo, .int .i64 hi] w fun e w' => e = .returned (.bool (inB n lo hi)) ∧ w = w' := by
 by_cases h1 : lo ≤ n
 ·by_cases h2 : n ≤ hi
  ·have H := Lib.hid (inB_yes h1 h2)
   go_enter Tryz.func59, Tryz.ntmps59
   go_wp2
   go_ret
   exact ⟨by rw [H.out]; rfl, rfl⟩
  ·have H := Lib.hid (inB_no (lo := lo) (.inr (Int.not_le.1 h2)))
   go_enter Tryz.func59, Tryz.ntmps59
   go_wp2
   go_ret
   exact ⟨by rw [H.out]; rfl, rfl⟩
 ·have H := Lib.hid (inB_no (hi := hi) (.inl (Int.not_le.1 h1)))
  go_enter Tryz.func59, Tryz.ntmps59
  go_wp2
  go_ret
  exact ⟨by rw [H.out]; rfl, rfl⟩
theorem l1In (n lo hi : Int) (w : World) :
  Calls Tryz.prog 61 #[.int .i64 n, .int .i64 lo, .int .i64 hi] w fun e w' => e = .returned (.bool (inB n lo hi)) ∧ w = w' := by
 by_cases h1 : lo ≤ n
 ·by_cases h2 : n ≤ hi
  ·have H := Lib.hid (inB_yes h1 h2)
   go_enter Tryz.func61, Tryz.ntmps61
   go_wp2
   go_ret
   exact ⟨by rw [H.out]; rfl, rfl⟩
  ·have H := Lib.hid (inB_no (lo := lo) (.inr (Int.not_le.1 h2)))
   go_enter Tryz.func61, Tryz.ntmps61
   go_wp2
   go_ret
   exact ⟨by rw [H.out]; rfl, rfl⟩
 ·have H := Lib.hid (inB_no (hi := hi) (.inl (Int.not_le.1 h1)))
  go_enter Tryz.func61, Tryz.ntmps61
  go_wp2
  go_ret
  exact ⟨by rw [H.out]; rfl, rfl⟩
theorem l3Dev (n : Int) (w : World) :
  Calls Tryz.prog 35 #[.int .i64 n] w fun e w' => e = .returned (.bool (inB n 0 3)) ∧ w = w' := by
 go_enter Tryz.func35, Tryz.ntmps35
 go_wp2_with fail
 refine (l1In _ _ _ _).mono ?_
 rintro e w' ⟨rfl, rfl⟩
 go_wp2
 go_ret
 exact ⟨rfl, rfl⟩

set_option maxHeartbeats 2000000 in
theorem implItem (s : ByteArray) (w : World) :
  Calls Tryz.prog 58 #[.string s] w fun e w' => e = .returned (.bool (itemB s)) ∧ w = w' := by
 have hL := Lib.hid (Lib.size_eq s)
 by_cases h0 : s.size = 0
 ·have H := Lib.hid (item_len (s := s) (by omega))
  have hnil : s.toList = [] := by rw [Lib.toList_data]; exact List.eq_nil_of_length_eq_zero (by have := hL.out; omega)
  clear h0
  go_enter Tryz.func58, Tryz.ntmps58
  go_wp2
  go_ret
  exact ⟨by rw [H.out]; rfl, rfl⟩
 ·have hne : s.toList ≠ [] := by rw [Lib.toList_data]; intro h; have := hL.out; rw [h, List.length_nil] at this; exact h0 this
  have hemp : s.toList.isEmpty = false := by rw [List.isEmpty_eq_false_iff]; exact hne
  by_cases h8 : s.size ≤ 8
  ·go_enter Tryz.func58, Tryz.ntmps58
   go_wp2
   go_loop [15] (fun i => ∃ k : Nat, k ≤ s.size ∧ i = .int .i64 k ∧ Hid (charsB (s.data.toList.take k) = true)) (fun i => s.size - (intOf i).toNat)
   case atStart => exact ⟨0, Nat.zero_le _, rfl, Lib.hid rfl⟩
   case round =>
    obtain ⟨k, hk, rfl, HK⟩ := hrel
    by_cases hlt : k < s.size
    ·have HS := Lib.hid (chars_snoc s k hlt)
     have HN := Lib.hid (fun h => item_no (chars_not s k hlt h))
     rcases ch_cases s[k] with ⟨a1, a2, b1, b2, hb⟩ | ⟨a1, a2, b1, b2, hb⟩ | ⟨a1, a2, b1, b2, hb⟩ | ⟨a1, a2, b1, b2, hb⟩ | ⟨a1, a2, b1, b2, hb⟩
     ·have HB := Lib.hid hb
      clear hb
      go_wp2
      go_ret
      exact ⟨by rw [HN.out HB.out]; rfl, rfl⟩
     ·have HB := Lib.hid hb
      clear hb
      go_wp2
      go_round
      case rel => exact ⟨k + 1, by omega, by go_num, Lib.hid (by rw [HS.out, HK.out, HB.out]; rfl)⟩
      case measure => simp [intOf]; omega
     ·have HB := Lib.hid hb
      clear hb
      go_wp2
      go_ret
      exact ⟨by rw [HN.out HB.out]; rfl, rfl⟩
     ·have HB := Lib.hid hb
      clear hb
      go_wp2
      go_round
      case rel => exact ⟨k + 1, by omega, by go_num, Lib.hid (by rw [HS.out, HK.out, HB.out]; rfl)⟩
      case measure => simp [intOf]; omega
     ·have HB := Lib.hid hb
      clear hb
      go_wp2
      go_ret
      exact ⟨by rw [HN.out HB.out]; rfl, rfl⟩
    ·have H := Lib.hid (item_yes (s := s) (by omega) h8 (by have e := HK.out; rwa [List.take_of_length_le (by have := hL.out; omega)] at e))
     go_wp2
     go_ret
     exact ⟨by rw [H.out]; rfl, rfl⟩
  ·have H := Lib.hid (item_len (s := s) (by omega))
   go_enter Tryz.func58, Tryz.ntmps58
   go_wp2
   go_ret
   exact ⟨by rw [H.out]; rfl, rfl⟩
set_option maxHeartbeats 2000000 in
theorem l3Item (s : ByteArray) (hs : s.size ≤ 1048576) (w : World) :
  Calls Tryz.prog 60 #[.string s] w fun e w' => e = .returned (.bool (itemB s)) ∧ w = w' := by
 have hL := Lib.hid (Lib.size_eq s)
 go_enter Tryz.func60, Tryz.ntmps60
 go_wp2
 go_loop [3] (fun i => ∃ k : Nat, k ≤ s.size ∧ i = .int .i64 k ∧ Hid (charsB (s.data.toList.take k) = true)) (fun i => s.size - (intOf i).toNat)
 case atStart => exact ⟨0, Nat.zero_le _, rfl, Lib.hid rfl⟩
 case round =>
  obtain ⟨k, hk, rfl, HK⟩ := hrel
  by_cases hlt : k < s.size
  ·have HS := Lib.hid (chars_snoc s k hlt)
   have HN := Lib.hid (fun h => item_no (chars_not s k hlt h))
   rcases ch_cases s[k] with ⟨a1, a2, b1, b2, hb⟩ | ⟨a1, a2, b1, b2, hb⟩ | ⟨a1, a2, b1, b2, hb⟩ | ⟨a1, a2, b1, b2, hb⟩ | ⟨a1, a2, b1, b2, hb⟩
   ·have HB := Lib.hid hb
    clear hb
    go_wp2
    go_ret
    exact ⟨by rw [HN.out HB.out]; rfl, rfl⟩
   ·have HB := Lib.hid hb
    clear hb
    go_wp2
    go_round
    case rel => exact ⟨k + 1, by omega, by go_num, Lib.hid (by rw [HS.out, HK.out, HB.out]; rfl)⟩
    case measure => simp [intOf]; omega
   ·have HB := Lib.hid hb
    clear hb
    go_wp2
    go_ret
    exact ⟨by rw [HN.out HB.out]; rfl, rfl⟩
   ·have HB := Lib.hid hb
    clear hb
    go_wp2
    go_round
    case rel => exact ⟨k + 1, by omega, by go_num, Lib.hid (by rw [HS.out, HK.out, HB.out]; rfl)⟩
    case measure => simp [intOf]; omega
   ·have HB := Lib.hid hb
    clear hb
    go_wp2
    go_ret
    exact ⟨by rw [HN.out HB.out]; rfl, rfl⟩
  ·have HF : Hid (charsB s.data.toList = true) := by have e := HK.out; rwa [List.take_of_length_le (by have := hL.out; omega)] at e
   by_cases h1 : 1 ≤ s.size
   ·by_cases h8 : s.size ≤ 8
    ·have H := Lib.hid (item_yes (s := s) (by omega) h8 HF.out)
     have hd : decide ((s.size : Int) ≤ 8) = true := decide_eq_true (by omega)
     go_wp2
     go_ret
     exact ⟨by rw [H.out]; rfl, rfl⟩
    ·have H := Lib.hid (item_len (s := s) (by omega))
     have hd : decide ((s.size : Int) ≤ 8) = false := decide_eq_false (by omega)
     go_wp2
     go_ret
     exact ⟨by rw [H.out]; rfl, rfl⟩
   ·have H := Lib.hid (item_len (s := s) (by omega))
    go_wp2
    go_ret
    exact ⟨by rw [H.out]; rfl, rfl⟩
end Go.Proofs.YtjokbaaommicmaaGreatDoor
