/- The walks of impl.Unsealed and spec.Unsealed; the law FnExactUnsealed. -/
import Derived.Test.YtbnfmgbailfbgaaSealW
import Derived.Deep.RegionHeld3
import Derived.RegionTactic
import Derived.Deep.QuietTactic
import Derived.BigQuiet
import Derived.Lib.Strings
import Derived.Lib.SmallJoins
namespace Go.Proofs.Ytbnfmgbailfbgaa
open Go.RowKit

theorem extract_le (s : ByteArray) (n : Nat) : (s.extract 0 n).size ≤ n := by rw [ByteArray.size_extract]; omega

set_option maxRecDepth 100000 in
theorem implUnsealed (s : ByteArray) (n : Nat) (hn : Hid (s.size = n + 4)) (hs : n ≤ 16000) (hB : (!(sealStr (s.extract 0 n)).toList == (s.extract n s.size).toList) = false) (w : World) :
    Calls Try.prog 14 #[.string s] w fun e w' => e = .returned (.tuple #[.string (s.extract 0 n), .bool true]) ∧ Below w.heap.size w w' := by
  have e1 : (s.size : Int) - 4 = (n : Int) := by have := hn.out; omega
  have hn3 : n ≤ s.size := by have := hn.out; omega
  have hn4 : (n : Int) ≤ (s.size : Int) := by omega
  have hd1 : decide ((n : Int) < 0) = false := by simp
  have hd2 : decide ((16000 : Int) < (n : Int)) = false := by simp; omega
  go_enter Try.func14, Try.ntmps14
  go_wp2_with fail
  go_region_held3 (fun _ => True) (trivial) (first | (go_at_call 26; refine (sealOf _ (Nat.le_trans (extract_le s n) (by omega)) _).mono ?_; rintro e w1 ⟨rfl, hb1⟩))
  go_wp2_with fail
  refine (clone _ (Nat.le_trans (extract_le s n) (by omega)) _).mono ?_
  rintro e w2 ⟨rfl, hb2⟩
  go_wp2
  go_ret2
  exact ⟨rfl, (Below.trans ⟨hb1.os, hb1.tape, hb1.output, hb1.size, hb1.block⟩ (hb2.mono hb1.size))⟩
set_option maxRecDepth 100000 in
theorem implUnsealedNot (s : ByteArray) (n : Nat) (hn : Hid (s.size = n + 4)) (hs : n ≤ 16000) (hB : (!(sealStr (s.extract 0 n)).toList == (s.extract n s.size).toList) = true) (w : World) :
    Calls Try.prog 14 #[.string s] w fun e w' => e = .returned (.tuple #[.string ByteArray.empty, .bool false]) ∧ Below w.heap.size w w' := by
  have e1 : (s.size : Int) - 4 = (n : Int) := by have := hn.out; omega
  have hn3 : n ≤ s.size := by have := hn.out; omega
  have hn4 : (n : Int) ≤ (s.size : Int) := by omega
  have hd1 : decide ((n : Int) < 0) = false := by simp
  have hd2 : decide ((16000 : Int) < (n : Int)) = false := by simp; omega
  go_enter Try.func14, Try.ntmps14
  go_wp2_with fail
  go_region_held3 (fun _ => True) (trivial) (first | (go_at_call 26; refine (sealOf _ (Nat.le_trans (extract_le s n) (by omega)) _).mono ?_; rintro e w1 ⟨rfl, hb1⟩))
  go_wp2
  go_ret2
  exact ⟨rfl, ⟨hb1.os, hb1.tape, hb1.output, hb1.size, hb1.block⟩⟩
theorem below_drewN (w : World) (n : Nat) : Below w.heap.size w (w.drewN n) := ⟨rfl, rfl, rfl, Nat.le_refl _, fun _ _ => rfl⟩
set_option maxRecDepth 100000 in
theorem implUnsealedShort (s : ByteArray) (h4 : s.size < 4) (w : World) :
    Calls Try.prog 14 #[.string s] w fun e w' => e = .returned (.tuple #[.string ByteArray.empty, .bool false]) ∧ Below w.heap.size w w' := by
  have hd1 : decide ((s.size : Int) - 4 < 0) = true := by simp; omega
  go_enter Try.func14, Try.ntmps14
  go_wp2_with fail
  go_quiet (fail)
  go_wp2
  go_ret2
  exact ⟨rfl, below_drewN _ _⟩
set_option maxRecDepth 100000 in
theorem implUnsealedLong (s : ByteArray) (n : Nat) (hn : Hid (s.size = n + 4)) (hs : ¬ n ≤ 16000) (hm : s.size ≤ 1048576) (w : World) :
    Calls Try.prog 14 #[.string s] w fun e w' => e = .returned (.tuple #[.string ByteArray.empty, .bool false]) ∧ Below w.heap.size w w' := by
  have e1 : (s.size : Int) - 4 = (n : Int) := by have := hn.out; omega
  have hd1 : decide ((n : Int) < 0) = false := by simp
  have hd2 : decide ((16000 : Int) < (n : Int)) = true := by simp; omega
  go_enter Try.func14, Try.ntmps14
  go_wp2_with fail
  go_quiet (fail)
  go_wp2
  go_ret2
  exact ⟨rfl, below_drewN _ _⟩
set_option maxRecDepth 100000 in
theorem specUnsealed (s : ByteArray) (n : Nat) (hn : Hid (s.size = n + 4)) (hs : n ≤ 16000) (hB : (!(s.extract 0 n ++ sealStr (s.extract 0 n)).toList == s.toList) = false) (w : World) :
    Calls Try.prog 16 #[.string s] w fun e w' => e = .returned (.tuple #[.string (s.extract 0 n), .bool true]) ∧ Below w.heap.size w w' := by
  have e1 : (s.size : Int) - 4 = (n : Int) := by have := hn.out; omega
  have hn3 : n ≤ s.size := by have := hn.out; omega
  have hn4 : (n : Int) ≤ (s.size : Int) := by omega
  have hd1 : decide ((n : Int) < 0) = false := by simp
  have hd2 : decide ((16000 : Int) < (n : Int)) = false := by simp; omega
  go_enter Try.func16, Try.ntmps16
  go_wp2_with fail
  refine (l1Seal _ (Nat.le_trans (extract_le s n) (by omega)) _).mono ?_
  rintro e w1 ⟨rfl, hb1⟩
  go_wp2
  go_ret2
  exact ⟨rfl, hb1⟩
set_option maxRecDepth 100000 in
theorem specUnsealedNot (s : ByteArray) (n : Nat) (hn : Hid (s.size = n + 4)) (hs : n ≤ 16000) (hB : (!(s.extract 0 n ++ sealStr (s.extract 0 n)).toList == s.toList) = true) (w : World) :
    Calls Try.prog 16 #[.string s] w fun e w' => e = .returned (.tuple #[.string ByteArray.empty, .bool false]) ∧ Below w.heap.size w w' := by
  have e1 : (s.size : Int) - 4 = (n : Int) := by have := hn.out; omega
  have hn3 : n ≤ s.size := by have := hn.out; omega
  have hn4 : (n : Int) ≤ (s.size : Int) := by omega
  have hd1 : decide ((n : Int) < 0) = false := by simp
  have hd2 : decide ((16000 : Int) < (n : Int)) = false := by simp; omega
  go_enter Try.func16, Try.ntmps16
  go_wp2_with fail
  refine (l1Seal _ (Nat.le_trans (extract_le s n) (by omega)) _).mono ?_
  rintro e w1 ⟨rfl, hb1⟩
  go_wp2
  go_ret2
  exact ⟨rfl, hb1⟩
set_option maxRecDepth 100000 in
theorem specUnsealedShort (s : ByteArray) (h4 : s.size < 4) (w : World) :
    Calls Try.prog 16 #[.string s] w fun e w' => e = .returned (.tuple #[.string ByteArray.empty, .bool false]) ∧ Below w.heap.size w w' := by
  have hd1 : decide ((s.size : Int) - 4 < 0) = true := by simp; omega
  go_enter Try.func16, Try.ntmps16
  go_wp2
  go_ret2
  exact ⟨rfl, Below.refl _ _⟩
set_option maxRecDepth 100000 in
theorem specUnsealedLong (s : ByteArray) (n : Nat) (hn : Hid (s.size = n + 4)) (hs : ¬ n ≤ 16000) (hm : s.size ≤ 1048576) (w : World) :
    Calls Try.prog 16 #[.string s] w fun e w' => e = .returned (.tuple #[.string ByteArray.empty, .bool false]) ∧ Below w.heap.size w w' := by
  have e1 : (s.size : Int) - 4 = (n : Int) := by have := hn.out; omega
  have hd1 : decide ((n : Int) < 0) = false := by simp
  have hd2 : decide ((16000 : Int) < (n : Int)) = true := by simp; omega
  go_enter Try.func16, Try.ntmps16
  go_wp2
  go_ret2
  exact ⟨rfl, Below.refl _ _⟩

theorem seal_iff (s : ByteArray) (n : Nat) (hn : s.size = n + 4) :
    ((s.extract 0 n ++ sealStr (s.extract 0 n)).toList == s.toList) = ((sealStr (s.extract 0 n)).toList == (s.extract n s.size).toList) := by
  have hl : s.data.toList.length = n + 4 := by rw [← Lib.size_eq]; exact hn
  rw [Lib.toList_data, Lib.toList_data, Lib.toList_data, Lib.toList_data, Joins.data_append, Lib.extract_data, Lib.extract_data, List.drop_zero, Nat.sub_zero,
    List.take_of_length_le (l := s.data.toList.drop n) (by rw [List.length_drop, hl]; omega), Bool.eq_iff_iff, beq_iff_eq, beq_iff_eq]
  constructor
  · intro h
    have h2 := h.trans (List.take_append_drop n s.data.toList).symm
    exact List.append_cancel_left h2
  · intro h
    rw [h, List.take_append_drop]

set_option maxRecDepth 100000 in
theorem fnExactUnsealedWalk (s : ByteArray) (w : World) (_hw : s.size ≤ maxLen) :
    Calls Try.prog 10 #[.string s] w fun e w' => e = .returned (.bool true) ∧ Below w.heap.size w w' := by
  by_cases hbig : s.size ≤ 1048576
  · by_cases h4 : s.size < 4
    · go_enter Try.func10, Try.ntmps10
      go_wp2_with fail
      refine (specUnsealedShort s h4 _).mono ?_
      rintro e w1 ⟨rfl, hb1⟩
      go_wp2_with fail
      refine (implUnsealedShort s h4 _).mono ?_
      rintro e w2 ⟨rfl, hb2⟩
      go_wp2
      go_ret
      exact ⟨rfl, hb1.trans (hb2.mono hb1.size)⟩
    · obtain ⟨n, hn0⟩ : ∃ n, s.size = n + 4 := ⟨s.size - 4, by omega⟩
      have hn := Lib.hid hn0
      have hsi := seal_iff s n hn0
      by_cases h : n ≤ 16000
      · cases hB : ((sealStr (s.extract 0 n)).toList == (s.extract n s.size).toList)
        · rw [hB] at hsi
          have hi : (!(sealStr (s.extract 0 n)).toList == (s.extract n s.size).toList) = true := by rw [hB]; rfl
          have hp : (!(s.extract 0 n ++ sealStr (s.extract 0 n)).toList == s.toList) = true := by rw [hsi]; rfl
          have C1 := fun w => Lib.hid (specUnsealedNot s n hn h hp w)
          have C2 := fun w => Lib.hid (implUnsealedNot s n hn h hi w)
          clear hsi hB hi hp hn0
          go_enter Try.func10, Try.ntmps10
          go_wp2_with fail
          refine (C1 _).out.mono ?_
          rintro e w1 ⟨rfl, hb1⟩
          go_wp2_with fail
          refine (C2 _).out.mono ?_
          rintro e w2 ⟨rfl, hb2⟩
          go_wp2
          go_ret
          exact ⟨rfl, hb1.trans (hb2.mono hb1.size)⟩
        · rw [hB] at hsi
          have hi : (!(sealStr (s.extract 0 n)).toList == (s.extract n s.size).toList) = false := by rw [hB]; rfl
          have hp : (!(s.extract 0 n ++ sealStr (s.extract 0 n)).toList == s.toList) = false := by rw [hsi]; rfl
          have C1 := fun w => Lib.hid (specUnsealed s n hn h hp w)
          have C2 := fun w => Lib.hid (implUnsealed s n hn h hi w)
          clear hsi hB hi hp hn0
          go_enter Try.func10, Try.ntmps10
          go_wp2_with fail
          refine (C1 _).out.mono ?_
          rintro e w1 ⟨rfl, hb1⟩
          go_wp2_with fail
          refine (C2 _).out.mono ?_
          rintro e w2 ⟨rfl, hb2⟩
          go_wp2
          go_ret
          exact ⟨rfl, hb1.trans (hb2.mono hb1.size)⟩
      · clear hsi hn0
        go_enter Try.func10, Try.ntmps10
        go_wp2_with fail
        refine (specUnsealedLong s n hn h hbig _).mono ?_
        rintro e w1 ⟨rfl, hb1⟩
        go_wp2_with fail
        refine (implUnsealedLong s n hn h hbig _).mono ?_
        rintro e w2 ⟨rfl, hb2⟩
        go_wp2
        go_ret
        exact ⟨rfl, hb1.trans (hb2.mono hb1.size)⟩
  · go_enter Try.func10, Try.ntmps10
    go_wp2
    go_ret
    exact ⟨rfl, Below.refl _ _⟩
end Go.Proofs.Ytbnfmgbailfbgaa
