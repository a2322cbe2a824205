/- The walk of spec.CmdOk, some kinds. -/
import Derived.Test.YtideaompdbdbhaaCmdW
import Derived.Deep.Cut
namespace Go.Proofs.Ytideaompdbdbhaa
open Go.RowKit

theorem cmd9 (item : ByteArray) (qty dev seq : Int) : cmdB 9 item qty dev seq = (decide (item = ⟨#[]⟩ ∧ qty = 0) && (inB dev 0 3 && inB seq 1 40)) := rfl
set_option maxRecDepth 100000 in
set_option maxHeartbeats 2000000 in
theorem specCmd9 (item : ByteArray) (qty dev seq : Int) (hs : item.size ≤ 1048576) (w : World) : Calls Try.prog 10 #[.agg #[.int .i64 9, .string item, .int .i64 qty, .int .i64 dev, .int .i64 seq]] w fun e w' => e = .returned (.bool (cmdB 9 item qty dev seq)) ∧ Below w.heap.size w w' := by
  have _hs := hs
  by_cases hzd : dev = 0
  · by_cases hzs : seq = 0
    · skip
      by_cases he : item = ⟨#[]⟩
      rotate_left
      · have hn1 := no_text he
        have hn2 : item.toList.isEmpty = false := by rw [List.isEmpty_eq_false_iff]; exact hn1
        have hn3 : (item.toList == []) = false := by rw [beq_eq_false_iff_ne]; exact hn1
        have HE : Hid (cmdB 9 item qty dev seq = false) := by show _ = _; rw [cmd9]; simp [he]
        clear he
        subst hzd
        subst hzs
        go_enter Try.func10, Try.ntmps10
        go_wp2_with (first | (go_at_call 26; refine (l3Item _ (by first | exact hs | exact Nat.zero_le _) _).mono ?_; rintro e w' ⟨rfl, rfl⟩; skip) | (go_at_call 27; refine (l1In _ _ _ _).mono ?_; rintro e w' ⟨rfl, rfl⟩; skip) | (go_at_call 28; refine (l3Dev _ _).mono ?_; rintro e w' ⟨rfl, rfl⟩; skip))
        go_ret
        exact ⟨by rw [HE.out]; rfl, (Below.refl _ _).alloc (Nat.le_refl _) _⟩
      by_cases hzq : qty = 0
      rotate_left
      · have bzq : (qty == 0) = false := by rw [beq_eq_false_iff_ne]; exact hzq
        have HE : Hid (cmdB 9 item qty dev seq = false) := by show _ = _; rw [cmd9]; simp [he, hzq]
        clear hzq
        subst hzd
        subst hzs
        subst he
        go_enter Try.func10, Try.ntmps10
        go_wp2_with (first | (go_at_call 26; refine (l3Item _ (by first | exact hs | exact Nat.zero_le _) _).mono ?_; rintro e w' ⟨rfl, rfl⟩; skip) | (go_at_call 27; refine (l1In _ _ _ _).mono ?_; rintro e w' ⟨rfl, rfl⟩; skip) | (go_at_call 28; refine (l3Dev _ _).mono ?_; rintro e w' ⟨rfl, rfl⟩; skip))
        go_ret
        exact ⟨by rw [HE.out]; rfl, (Below.refl _ _).alloc (Nat.le_refl _) _⟩
      rcases hd : inB dev 0 3 with _ | _
      · have Hd := Lib.hid hd
        have HE : Hid (cmdB 9 item qty dev seq = false) := by show _ = _; rw [cmd9]; simp [he, hzq, hd]
        clear hd
        subst hzd
        subst hzs
        subst he
        subst hzq
        go_enter Try.func10, Try.ntmps10
        go_wp2_with (first | (go_at_call 26; refine (l3Item _ (by first | exact hs | exact Nat.zero_le _) _).mono ?_; rintro e w' ⟨rfl, rfl⟩; skip) | (go_at_call 27; refine (l1In _ _ _ _).mono ?_; rintro e w' ⟨rfl, rfl⟩; skip) | (go_at_call 28; refine (l3Dev _ _).mono ?_; rintro e w' ⟨rfl, rfl⟩; (first | rw [Hd.out] | skip)))
        go_ret
        exact ⟨by rw [HE.out]; rfl, (Below.refl _ _).alloc (Nat.le_refl _) _⟩
      have Hd := Lib.hid hd
      rcases hsq : inB seq 1 40 with _ | _
      · have Hs := Lib.hid hsq
        have HE : Hid (cmdB 9 item qty dev seq = false) := by show _ = _; rw [cmd9]; simp [he, hzq, hd, hsq]
        clear hd hsq
        subst hzd
        subst hzs
        subst he
        subst hzq
        go_enter Try.func10, Try.ntmps10
        go_wp2_with (first | (go_at_call 26; refine (l3Item _ (by first | exact hs | exact Nat.zero_le _) _).mono ?_; rintro e w' ⟨rfl, rfl⟩; skip) | (go_at_call 27; refine (l1In _ _ _ _).mono ?_; rintro e w' ⟨rfl, rfl⟩; (first | rw [Hs.out] | skip)) | (go_at_call 28; refine (l3Dev _ _).mono ?_; rintro e w' ⟨rfl, rfl⟩; (first | rw [Hd.out] | skip)))
        go_ret
        exact ⟨by rw [HE.out]; rfl, (Below.refl _ _).alloc (Nat.le_refl _) _⟩
      have Hs := Lib.hid hsq
      have HE : Hid (cmdB 9 item qty dev seq = true) := by show _ = _; rw [cmd9]; simp [he, hzq, hd, hsq]
      clear hd hsq
      subst hzd
      subst hzs
      subst he
      subst hzq
      go_enter Try.func10, Try.ntmps10
      go_wp2_with (first | (go_at_call 26; refine (l3Item _ (by first | exact hs | exact Nat.zero_le _) _).mono ?_; rintro e w' ⟨rfl, rfl⟩; skip) | (go_at_call 27; refine (l1In _ _ _ _).mono ?_; rintro e w' ⟨rfl, rfl⟩; (first | rw [Hs.out] | skip)) | (go_at_call 28; refine (l3Dev _ _).mono ?_; rintro e w' ⟨rfl, rfl⟩; (first | rw [Hd.out] | skip)))
      go_ret
      exact ⟨by rw [HE.out]; rfl, (Below.refl _ _).alloc (Nat.le_refl _) _⟩
    · have bzs : (seq == 0) = false := by rw [beq_eq_false_iff_ne]; exact hzs
      by_cases he : item = ⟨#[]⟩
      rotate_left
      · have hn1 := no_text he
        have hn2 : item.toList.isEmpty = false := by rw [List.isEmpty_eq_false_iff]; exact hn1
        have hn3 : (item.toList == []) = false := by rw [beq_eq_false_iff_ne]; exact hn1
        have HE : Hid (cmdB 9 item qty dev seq = false) := by show _ = _; rw [cmd9]; simp [he]
        clear hzs he
        subst hzd
        go_enter Try.func10, Try.ntmps10
        go_wp2_with (first | (go_at_call 26; refine (l3Item _ (by first | exact hs | exact Nat.zero_le _) _).mono ?_; rintro e w' ⟨rfl, rfl⟩; skip) | (go_at_call 27; refine (l1In _ _ _ _).mono ?_; rintro e w' ⟨rfl, rfl⟩; skip) | (go_at_call 28; refine (l3Dev _ _).mono ?_; rintro e w' ⟨rfl, rfl⟩; skip))
        go_ret
        exact ⟨by rw [HE.out]; rfl, (Below.refl _ _).alloc (Nat.le_refl _) _⟩
      by_cases hzq : qty = 0
      rotate_left
      · have bzq : (qty == 0) = false := by rw [beq_eq_false_iff_ne]; exact hzq
        have HE : Hid (cmdB 9 item qty dev seq = false) := by show _ = _; rw [cmd9]; simp [he, hzq]
        clear hzs hzq
        subst hzd
        subst he
        go_enter Try.func10, Try.ntmps10
        go_wp2_with (first | (go_at_call 26; refine (l3Item _ (by first | exact hs | exact Nat.zero_le _) _).mono ?_; rintro e w' ⟨rfl, rfl⟩; skip) | (go_at_call 27; refine (l1In _ _ _ _).mono ?_; rintro e w' ⟨rfl, rfl⟩; skip) | (go_at_call 28; refine (l3Dev _ _).mono ?_; rintro e w' ⟨rfl, rfl⟩; skip))
        go_ret
        exact ⟨by rw [HE.out]; rfl, (Below.refl _ _).alloc (Nat.le_refl _) _⟩
      rcases hd : inB dev 0 3 with _ | _
      · have Hd := Lib.hid hd
        have HE : Hid (cmdB 9 item qty dev seq = false) := by show _ = _; rw [cmd9]; simp [he, hzq, hd]
        clear hzs hd
        subst hzd
        subst he
        subst hzq
        go_enter Try.func10, Try.ntmps10
        go_wp2_with (first | (go_at_call 26; refine (l3Item _ (by first | exact hs | exact Nat.zero_le _) _).mono ?_; rintro e w' ⟨rfl, rfl⟩; skip) | (go_at_call 27; refine (l1In _ _ _ _).mono ?_; rintro e w' ⟨rfl, rfl⟩; skip) | (go_at_call 28; refine (l3Dev _ _).mono ?_; rintro e w' ⟨rfl, rfl⟩; (first | rw [Hd.out] | skip)))
        go_ret
        exact ⟨by rw [HE.out]; rfl, (Below.refl _ _).alloc (Nat.le_refl _) _⟩
      have Hd := Lib.hid hd
      rcases hsq : inB seq 1 40 with _ | _
      · have Hs := Lib.hid hsq
        have HE : Hid (cmdB 9 item qty dev seq = false) := by show _ = _; rw [cmd9]; simp [he, hzq, hd, hsq]
        clear hzs hd hsq
        subst hzd
        subst he
        subst hzq
        go_enter Try.func10, Try.ntmps10
        go_wp2_with (first | (go_at_call 26; refine (l3Item _ (by first | exact hs | exact Nat.zero_le _) _).mono ?_; rintro e w' ⟨rfl, rfl⟩; skip) | (go_at_call 27; refine (l1In _ _ _ _).mono ?_; rintro e w' ⟨rfl, rfl⟩; (first | rw [Hs.out] | skip)) | (go_at_call 28; refine (l3Dev _ _).mono ?_; rintro e w' ⟨rfl, rfl⟩; (first | rw [Hd.out] | skip)))
        go_ret
        exact ⟨by rw [HE.out]; rfl, (Below.refl _ _).alloc (Nat.le_refl _) _⟩
      have Hs := Lib.hid hsq
      have HE : Hid (cmdB 9 item qty dev seq = true) := by show _ = _; rw [cmd9]; simp [he, hzq, hd, hsq]
      clear hzs hd hsq
      subst hzd
      subst he
      subst hzq
      go_enter Try.func10, Try.ntmps10
      go_wp2_with (first | (go_at_call 26; refine (l3Item _ (by first | exact hs | exact Nat.zero_le _) _).mono ?_; rintro e w' ⟨rfl, rfl⟩; skip) | (go_at_call 27; refine (l1In _ _ _ _).mono ?_; rintro e w' ⟨rfl, rfl⟩; (first | rw [Hs.out] | skip)) | (go_at_call 28; refine (l3Dev _ _).mono ?_; rintro e w' ⟨rfl, rfl⟩; (first | rw [Hd.out] | skip)))
      go_ret
      exact ⟨by rw [HE.out]; rfl, (Below.refl _ _).alloc (Nat.le_refl _) _⟩
  · have bzd : (dev == 0) = false := by rw [beq_eq_false_iff_ne]; exact hzd
    by_cases hzs : seq = 0
    · skip
      by_cases he : item = ⟨#[]⟩
      rotate_left
      · have hn1 := no_text he
        have hn2 : item.toList.isEmpty = false := by rw [List.isEmpty_eq_false_iff]; exact hn1
        have hn3 : (item.toList == []) = false := by rw [beq_eq_false_iff_ne]; exact hn1
        have HE : Hid (cmdB 9 item qty dev seq = false) := by show _ = _; rw [cmd9]; simp [he]
        clear hzd he
        subst hzs
        go_enter Try.func10, Try.ntmps10
        go_wp2_with (first | (go_at_call 26; refine (l3Item _ (by first | exact hs | exact Nat.zero_le _) _).mono ?_; rintro e w' ⟨rfl, rfl⟩; skip) | (go_at_call 27; refine (l1In _ _ _ _).mono ?_; rintro e w' ⟨rfl, rfl⟩; skip) | (go_at_call 28; refine (l3Dev _ _).mono ?_; rintro e w' ⟨rfl, rfl⟩; skip))
        go_ret
        exact ⟨by rw [HE.out]; rfl, (Below.refl _ _).alloc (Nat.le_refl _) _⟩
      by_cases hzq : qty = 0
      rotate_left
      · have bzq : (qty == 0) = false := by rw [beq_eq_false_iff_ne]; exact hzq
        have HE : Hid (cmdB 9 item qty dev seq = false) := by show _ = _; rw [cmd9]; simp [he, hzq]
        clear hzd hzq
        subst hzs
        subst he
        go_enter Try.func10, Try.ntmps10
        go_wp2_with (first | (go_at_call 26; refine (l3Item _ (by first | exact hs | exact Nat.zero_le _) _).mono ?_; rintro e w' ⟨rfl, rfl⟩; skip) | (go_at_call 27; refine (l1In _ _ _ _).mono ?_; rintro e w' ⟨rfl, rfl⟩; skip) | (go_at_call 28; refine (l3Dev _ _).mono ?_; rintro e w' ⟨rfl, rfl⟩; skip))
        go_ret
        exact ⟨by rw [HE.out]; rfl, (Below.refl _ _).alloc (Nat.le_refl _) _⟩
      rcases hd : inB dev 0 3 with _ | _
      · have Hd := Lib.hid hd
        have HE : Hid (cmdB 9 item qty dev seq = false) := by show _ = _; rw [cmd9]; simp [he, hzq, hd]
        clear hzd hd
        subst hzs
        subst he
        subst hzq
        go_enter Try.func10, Try.ntmps10
        go_wp2_with (first | (go_at_call 26; refine (l3Item _ (by first | exact hs | exact Nat.zero_le _) _).mono ?_; rintro e w' ⟨rfl, rfl⟩; skip) | (go_at_call 27; refine (l1In _ _ _ _).mono ?_; rintro e w' ⟨rfl, rfl⟩; skip) | (go_at_call 28; refine (l3Dev _ _).mono ?_; rintro e w' ⟨rfl, rfl⟩; (first | rw [Hd.out] | skip)))
        go_ret
        exact ⟨by rw [HE.out]; rfl, (Below.refl _ _).alloc (Nat.le_refl _) _⟩
      have Hd := Lib.hid hd
      rcases hsq : inB seq 1 40 with _ | _
      · have Hs := Lib.hid hsq
        have HE : Hid (cmdB 9 item qty dev seq = false) := by show _ = _; rw [cmd9]; simp [he, hzq, hd, hsq]
        clear hzd hd hsq
        subst hzs
        subst he
        subst hzq
        go_enter Try.func10, Try.ntmps10
        go_wp2_with (first | (go_at_call 26; refine (l3Item _ (by first | exact hs | exact Nat.zero_le _) _).mono ?_; rintro e w' ⟨rfl, rfl⟩; skip) | (go_at_call 27; refine (l1In _ _ _ _).mono ?_; rintro e w' ⟨rfl, rfl⟩; (first | rw [Hs.out] | skip)) | (go_at_call 28; refine (l3Dev _ _).mono ?_; rintro e w' ⟨rfl, rfl⟩; (first | rw [Hd.out] | skip)))
        go_ret
        exact ⟨by rw [HE.out]; rfl, (Below.refl _ _).alloc (Nat.le_refl _) _⟩
      have Hs := Lib.hid hsq
      have HE : Hid (cmdB 9 item qty dev seq = true) := by show _ = _; rw [cmd9]; simp [he, hzq, hd, hsq]
      clear hzd hd hsq
      subst hzs
      subst he
      subst hzq
      go_enter Try.func10, Try.ntmps10
      go_wp2_with (first | (go_at_call 26; refine (l3Item _ (by first | exact hs | exact Nat.zero_le _) _).mono ?_; rintro e w' ⟨rfl, rfl⟩; skip) | (go_at_call 27; refine (l1In _ _ _ _).mono ?_; rintro e w' ⟨rfl, rfl⟩; (first | rw [Hs.out] | skip)) | (go_at_call 28; refine (l3Dev _ _).mono ?_; rintro e w' ⟨rfl, rfl⟩; (first | rw [Hd.out] | skip)))
      go_ret
      exact ⟨by rw [HE.out]; rfl, (Below.refl _ _).alloc (Nat.le_refl _) _⟩
    · have bzs : (seq == 0) = false := by rw [beq_eq_false_iff_ne]; exact hzs
      by_cases he : item = ⟨#[]⟩
      rotate_left
      · have hn1 := no_text he
        have hn2 : item.toList.isEmpty = false := by rw [List.isEmpty_eq_false_iff]; exact hn1
        have hn3 : (item.toList == []) = false := by rw [beq_eq_false_iff_ne]; exact hn1
        have HE : Hid (cmdB 9 item qty dev seq = false) := by show _ = _; rw [cmd9]; simp [he]
        clear hzd hzs he
        go_enter Try.func10, Try.ntmps10
        go_wp2_with (first | (go_at_call 26; refine (l3Item _ (by first | exact hs | exact Nat.zero_le _) _).mono ?_; rintro e w' ⟨rfl, rfl⟩; skip) | (go_at_call 27; refine (l1In _ _ _ _).mono ?_; rintro e w' ⟨rfl, rfl⟩; skip) | (go_at_call 28; refine (l3Dev _ _).mono ?_; rintro e w' ⟨rfl, rfl⟩; skip))
        go_ret
        exact ⟨by rw [HE.out]; rfl, (Below.refl _ _).alloc (Nat.le_refl _) _⟩
      by_cases hzq : qty = 0
      rotate_left
      · have bzq : (qty == 0) = false := by rw [beq_eq_false_iff_ne]; exact hzq
        have HE : Hid (cmdB 9 item qty dev seq = false) := by show _ = _; rw [cmd9]; simp [he, hzq]
        clear hzd hzs hzq
        subst he
        go_enter Try.func10, Try.ntmps10
        go_wp2_with (first | (go_at_call 26; refine (l3Item _ (by first | exact hs | exact Nat.zero_le _) _).mono ?_; rintro e w' ⟨rfl, rfl⟩; skip) | (go_at_call 27; refine (l1In _ _ _ _).mono ?_; rintro e w' ⟨rfl, rfl⟩; skip) | (go_at_call 28; refine (l3Dev _ _).mono ?_; rintro e w' ⟨rfl, rfl⟩; skip))
        go_ret
        exact ⟨by rw [HE.out]; rfl, (Below.refl _ _).alloc (Nat.le_refl _) _⟩
      rcases hd : inB dev 0 3 with _ | _
      · have Hd := Lib.hid hd
        have HE : Hid (cmdB 9 item qty dev seq = false) := by show _ = _; rw [cmd9]; simp [he, hzq, hd]
        clear hzd hzs hd
        subst he
        subst hzq
        go_enter Try.func10, Try.ntmps10
        go_wp2_with (first | (go_at_call 26; refine (l3Item _ (by first | exact hs | exact Nat.zero_le _) _).mono ?_; rintro e w' ⟨rfl, rfl⟩; skip) | (go_at_call 27; refine (l1In _ _ _ _).mono ?_; rintro e w' ⟨rfl, rfl⟩; skip) | (go_at_call 28; refine (l3Dev _ _).mono ?_; rintro e w' ⟨rfl, rfl⟩; (first | rw [Hd.out] | skip)))
        go_ret
        exact ⟨by rw [HE.out]; rfl, (Below.refl _ _).alloc (Nat.le_refl _) _⟩
      have Hd := Lib.hid hd
      rcases hsq : inB seq 1 40 with _ | _
      · have Hs := Lib.hid hsq
        have HE : Hid (cmdB 9 item qty dev seq = false) := by show _ = _; rw [cmd9]; simp [he, hzq, hd, hsq]
        clear hzd hzs hd hsq
        subst he
        subst hzq
        go_enter Try.func10, Try.ntmps10
        go_wp2_with (first | (go_at_call 26; refine (l3Item _ (by first | exact hs | exact Nat.zero_le _) _).mono ?_; rintro e w' ⟨rfl, rfl⟩; skip) | (go_at_call 27; refine (l1In _ _ _ _).mono ?_; rintro e w' ⟨rfl, rfl⟩; (first | rw [Hs.out] | skip)) | (go_at_call 28; refine (l3Dev _ _).mono ?_; rintro e w' ⟨rfl, rfl⟩; (first | rw [Hd.out] | skip)))
        go_ret
        exact ⟨by rw [HE.out]; rfl, (Below.refl _ _).alloc (Nat.le_refl _) _⟩
      have Hs := Lib.hid hsq
      have HE : Hid (cmdB 9 item qty dev seq = true) := by show _ = _; rw [cmd9]; simp [he, hzq, hd, hsq]
      clear hzd hzs hd hsq
      subst he
      subst hzq
      go_enter Try.func10, Try.ntmps10
      go_wp2_with (first | (go_at_call 26; refine (l3Item _ (by first | exact hs | exact Nat.zero_le _) _).mono ?_; rintro e w' ⟨rfl, rfl⟩; skip) | (go_at_call 27; refine (l1In _ _ _ _).mono ?_; rintro e w' ⟨rfl, rfl⟩; (first | rw [Hs.out] | skip)) | (go_at_call 28; refine (l3Dev _ _).mono ?_; rintro e w' ⟨rfl, rfl⟩; (first | rw [Hd.out] | skip)))
      go_ret
      exact ⟨by rw [HE.out]; rfl, (Below.refl _ _).alloc (Nat.le_refl _) _⟩
end Go.Proofs.Ytideaompdbdbhaa
