/- The walk of spec.CmdOk, some kinds. -/
import Derived.Test.YtideaompdbdbhaaCmdW
import Derived.Deep.Cut
namespace Go.Proofs.Ytideaompdbdbhaa
open Go.RowKit

set_option maxRecDepth 100000 in
set_option maxHeartbeats 2000000 in
theorem specCmd1 (item : ByteArray) (qty dev seq : Int) (hs : item.size ≤ 1048576) (w : World) : Calls Try.prog 10 #[.agg #[.int .i64 1, .string item, .int .i64 qty, .int .i64 dev, .int .i64 seq]] w fun e w' => e = .returned (.bool (cmdB 1 item qty dev seq)) ∧ Below w.heap.size w w' := by
  have _hs := hs
  by_cases hzd : dev = 0
  · by_cases hzs : seq = 0
    · skip
      rcases hitem : itemB item with _ | _
      · have Hitem := Lib.hid hitem
        have HE : Hid (cmdB 1 item qty dev seq = false) := by show _ = _; simp [cmdB, hzd, hzs, hitem]
        clear hitem
        subst hzd
        subst hzs
        go_enter Try.func10, Try.ntmps10
        go_wp2_with (first | (go_at_call 26; refine (l3Item _ (by first | exact hs | exact Nat.zero_le _) _).mono ?_; rintro e w' ⟨rfl, rfl⟩; (first | rw [Hitem.out] | skip)) | (go_at_call 27; refine (l1In _ _ _ _).mono ?_; rintro e w' ⟨rfl, rfl⟩; skip) | (go_at_call 28; refine (l3Dev _ _).mono ?_; rintro e w' ⟨rfl, rfl⟩; skip))
        go_ret
        exact ⟨by rw [HE.out]; rfl, (Below.refl _ _).alloc (Nat.le_refl _) _⟩
      have Hitem := Lib.hid hitem
      rcases hq : inB qty 1 999 with _ | _
      · have Hq := Lib.hid hq
        have HE : Hid (cmdB 1 item qty dev seq = false) := by show _ = _; simp [cmdB, hzd, hzs, hitem, hq]
        clear hitem hq
        subst hzd
        subst hzs
        go_enter Try.func10, Try.ntmps10
        go_wp2_with (first | (go_at_call 26; refine (l3Item _ (by first | exact hs | exact Nat.zero_le _) _).mono ?_; rintro e w' ⟨rfl, rfl⟩; (first | rw [Hitem.out] | skip)) | (go_at_call 27; refine (l1In _ _ _ _).mono ?_; rintro e w' ⟨rfl, rfl⟩; (first | rw [Hq.out] | skip)) | (go_at_call 28; refine (l3Dev _ _).mono ?_; rintro e w' ⟨rfl, rfl⟩; skip))
        go_ret
        exact ⟨by rw [HE.out]; rfl, (Below.refl _ _).alloc (Nat.le_refl _) _⟩
      have Hq := Lib.hid hq
      have HE : Hid (cmdB 1 item qty dev seq = true) := by show _ = _; simp [cmdB, hzd, hzs, hitem, hq]
      clear hitem hq
      subst hzd
      subst hzs
      go_enter Try.func10, Try.ntmps10
      go_wp2_with (first | (go_at_call 26; refine (l3Item _ (by first | exact hs | exact Nat.zero_le _) _).mono ?_; rintro e w' ⟨rfl, rfl⟩; (first | rw [Hitem.out] | skip)) | (go_at_call 27; refine (l1In _ _ _ _).mono ?_; rintro e w' ⟨rfl, rfl⟩; (first | rw [Hq.out] | skip)) | (go_at_call 28; refine (l3Dev _ _).mono ?_; rintro e w' ⟨rfl, rfl⟩; skip))
      go_ret
      exact ⟨by rw [HE.out]; rfl, (Below.refl _ _).alloc (Nat.le_refl _) _⟩
    · have bzs : (seq == 0) = false := by rw [beq_eq_false_iff_ne]; exact hzs
      rcases hitem : itemB item with _ | _
      · have Hitem := Lib.hid hitem
        have HE : Hid (cmdB 1 item qty dev seq = false) := by show _ = _; simp [cmdB, hzd, hzs, hitem]
        clear hzs hitem
        subst hzd
        go_enter Try.func10, Try.ntmps10
        go_wp2_with (first | (go_at_call 26; refine (l3Item _ (by first | exact hs | exact Nat.zero_le _) _).mono ?_; rintro e w' ⟨rfl, rfl⟩; (first | rw [Hitem.out] | skip)) | (go_at_call 27; refine (l1In _ _ _ _).mono ?_; rintro e w' ⟨rfl, rfl⟩; skip) | (go_at_call 28; refine (l3Dev _ _).mono ?_; rintro e w' ⟨rfl, rfl⟩; skip))
        go_ret
        exact ⟨by rw [HE.out]; rfl, (Below.refl _ _).alloc (Nat.le_refl _) _⟩
      have Hitem := Lib.hid hitem
      rcases hq : inB qty 1 999 with _ | _
      · have Hq := Lib.hid hq
        have HE : Hid (cmdB 1 item qty dev seq = false) := by show _ = _; simp [cmdB, hzd, hzs, hitem, hq]
        clear hzs hitem hq
        subst hzd
        go_enter Try.func10, Try.ntmps10
        go_wp2_with (first | (go_at_call 26; refine (l3Item _ (by first | exact hs | exact Nat.zero_le _) _).mono ?_; rintro e w' ⟨rfl, rfl⟩; (first | rw [Hitem.out] | skip)) | (go_at_call 27; refine (l1In _ _ _ _).mono ?_; rintro e w' ⟨rfl, rfl⟩; (first | rw [Hq.out] | skip)) | (go_at_call 28; refine (l3Dev _ _).mono ?_; rintro e w' ⟨rfl, rfl⟩; skip))
        go_ret
        exact ⟨by rw [HE.out]; rfl, (Below.refl _ _).alloc (Nat.le_refl _) _⟩
      have Hq := Lib.hid hq
      have HE : Hid (cmdB 1 item qty dev seq = false) := by show _ = _; simp [cmdB, hzd, hzs, hitem, hq]
      clear hzs hitem hq
      subst hzd
      go_enter Try.func10, Try.ntmps10
      go_wp2_with (first | (go_at_call 26; refine (l3Item _ (by first | exact hs | exact Nat.zero_le _) _).mono ?_; rintro e w' ⟨rfl, rfl⟩; (first | rw [Hitem.out] | skip)) | (go_at_call 27; refine (l1In _ _ _ _).mono ?_; rintro e w' ⟨rfl, rfl⟩; (first | rw [Hq.out] | skip)) | (go_at_call 28; refine (l3Dev _ _).mono ?_; rintro e w' ⟨rfl, rfl⟩; skip))
      go_ret
      exact ⟨by rw [HE.out]; rfl, (Below.refl _ _).alloc (Nat.le_refl _) _⟩
  · have bzd : (dev == 0) = false := by rw [beq_eq_false_iff_ne]; exact hzd
    by_cases hzs : seq = 0
    · skip
      rcases hitem : itemB item with _ | _
      · have Hitem := Lib.hid hitem
        have HE : Hid (cmdB 1 item qty dev seq = false) := by show _ = _; simp [cmdB, hzd, hzs, hitem]
        clear hzd hitem
        subst hzs
        go_enter Try.func10, Try.ntmps10
        go_wp2_with (first | (go_at_call 26; refine (l3Item _ (by first | exact hs | exact Nat.zero_le _) _).mono ?_; rintro e w' ⟨rfl, rfl⟩; (first | rw [Hitem.out] | skip)) | (go_at_call 27; refine (l1In _ _ _ _).mono ?_; rintro e w' ⟨rfl, rfl⟩; skip) | (go_at_call 28; refine (l3Dev _ _).mono ?_; rintro e w' ⟨rfl, rfl⟩; skip))
        go_ret
        exact ⟨by rw [HE.out]; rfl, (Below.refl _ _).alloc (Nat.le_refl _) _⟩
      have Hitem := Lib.hid hitem
      rcases hq : inB qty 1 999 with _ | _
      · have Hq := Lib.hid hq
        have HE : Hid (cmdB 1 item qty dev seq = false) := by show _ = _; simp [cmdB, hzd, hzs, hitem, hq]
        clear hzd hitem hq
        subst hzs
        go_enter Try.func10, Try.ntmps10
        go_wp2_with (first | (go_at_call 26; refine (l3Item _ (by first | exact hs | exact Nat.zero_le _) _).mono ?_; rintro e w' ⟨rfl, rfl⟩; (first | rw [Hitem.out] | skip)) | (go_at_call 27; refine (l1In _ _ _ _).mono ?_; rintro e w' ⟨rfl, rfl⟩; (first | rw [Hq.out] | skip)) | (go_at_call 28; refine (l3Dev _ _).mono ?_; rintro e w' ⟨rfl, rfl⟩; skip))
        go_ret
        exact ⟨by rw [HE.out]; rfl, (Below.refl _ _).alloc (Nat.le_refl _) _⟩
      have Hq := Lib.hid hq
      have HE : Hid (cmdB 1 item qty dev seq = false) := by show _ = _; simp [cmdB, hzd, hzs, hitem, hq]
      clear hzd hitem hq
      subst hzs
      go_enter Try.func10, Try.ntmps10
      go_wp2_with (first | (go_at_call 26; refine (l3Item _ (by first | exact hs | exact Nat.zero_le _) _).mono ?_; rintro e w' ⟨rfl, rfl⟩; (first | rw [Hitem.out] | skip)) | (go_at_call 27; refine (l1In _ _ _ _).mono ?_; rintro e w' ⟨rfl, rfl⟩; (first | rw [Hq.out] | skip)) | (go_at_call 28; refine (l3Dev _ _).mono ?_; rintro e w' ⟨rfl, rfl⟩; skip))
      go_ret
      exact ⟨by rw [HE.out]; rfl, (Below.refl _ _).alloc (Nat.le_refl _) _⟩
    · have bzs : (seq == 0) = false := by rw [beq_eq_false_iff_ne]; exact hzs
      rcases hitem : itemB item with _ | _
      · have Hitem := Lib.hid hitem
        have HE : Hid (cmdB 1 item qty dev seq = false) := by show _ = _; simp [cmdB, hzd, hzs, hitem]
        clear hzd hzs hitem
        go_enter Try.func10, Try.ntmps10
        go_wp2_with (first | (go_at_call 26; refine (l3Item _ (by first | exact hs | exact Nat.zero_le _) _).mono ?_; rintro e w' ⟨rfl, rfl⟩; (first | rw [Hitem.out] | skip)) | (go_at_call 27; refine (l1In _ _ _ _).mono ?_; rintro e w' ⟨rfl, rfl⟩; skip) | (go_at_call 28; refine (l3Dev _ _).mono ?_; rintro e w' ⟨rfl, rfl⟩; skip))
        go_ret
        exact ⟨by rw [HE.out]; rfl, (Below.refl _ _).alloc (Nat.le_refl _) _⟩
      have Hitem := Lib.hid hitem
      rcases hq : inB qty 1 999 with _ | _
      · have Hq := Lib.hid hq
        have HE : Hid (cmdB 1 item qty dev seq = false) := by show _ = _; simp [cmdB, hzd, hzs, hitem, hq]
        clear hzd hzs hitem hq
        go_enter Try.func10, Try.ntmps10
        go_wp2_with (first | (go_at_call 26; refine (l3Item _ (by first | exact hs | exact Nat.zero_le _) _).mono ?_; rintro e w' ⟨rfl, rfl⟩; (first | rw [Hitem.out] | skip)) | (go_at_call 27; refine (l1In _ _ _ _).mono ?_; rintro e w' ⟨rfl, rfl⟩; (first | rw [Hq.out] | skip)) | (go_at_call 28; refine (l3Dev _ _).mono ?_; rintro e w' ⟨rfl, rfl⟩; skip))
        go_ret
        exact ⟨by rw [HE.out]; rfl, (Below.refl _ _).alloc (Nat.le_refl _) _⟩
      have Hq := Lib.hid hq
      have HE : Hid (cmdB 1 item qty dev seq = false) := by show _ = _; simp [cmdB, hzd, hzs, hitem, hq]
      clear hzd hzs hitem hq
      go_enter Try.func10, Try.ntmps10
      go_wp2_with (first | (go_at_call 26; refine (l3Item _ (by first | exact hs | exact Nat.zero_le _) _).mono ?_; rintro e w' ⟨rfl, rfl⟩; (first | rw [Hitem.out] | skip)) | (go_at_call 27; refine (l1In _ _ _ _).mono ?_; rintro e w' ⟨rfl, rfl⟩; (first | rw [Hq.out] | skip)) | (go_at_call 28; refine (l3Dev _ _).mono ?_; rintro e w' ⟨rfl, rfl⟩; skip))
      go_ret
      exact ⟨by rw [HE.out]; rfl, (Below.refl _ _).alloc (Nat.le_refl _) _⟩
set_option maxRecDepth 100000 in
set_option maxHeartbeats 2000000 in
theorem specCmd2 (item : ByteArray) (qty dev seq : Int) (hs : item.size ≤ 1048576) (w : World) : Calls Try.prog 10 #[.agg #[.int .i64 2, .string item, .int .i64 qty, .int .i64 dev, .int .i64 seq]] w fun e w' => e = .returned (.bool (cmdB 2 item qty dev seq)) ∧ Below w.heap.size w w' := by
  have _hs := hs
  by_cases hzd : dev = 0
  · by_cases hzs : seq = 0
    · skip
      rcases hitem : itemB item with _ | _
      · have Hitem := Lib.hid hitem
        have HE : Hid (cmdB 2 item qty dev seq = false) := by show _ = _; simp [cmdB, hzd, hzs, hitem]
        clear hitem
        subst hzd
        subst hzs
        go_enter Try.func10, Try.ntmps10
        go_wp2_with (first | (go_at_call 26; refine (l3Item _ (by first | exact hs | exact Nat.zero_le _) _).mono ?_; rintro e w' ⟨rfl, rfl⟩; (first | rw [Hitem.out] | skip)) | (go_at_call 27; refine (l1In _ _ _ _).mono ?_; rintro e w' ⟨rfl, rfl⟩; skip) | (go_at_call 28; refine (l3Dev _ _).mono ?_; rintro e w' ⟨rfl, rfl⟩; skip))
        go_ret
        exact ⟨by rw [HE.out]; rfl, (Below.refl _ _).alloc (Nat.le_refl _) _⟩
      have Hitem := Lib.hid hitem
      rcases hq : inB qty 1 999 with _ | _
      · have Hq := Lib.hid hq
        have HE : Hid (cmdB 2 item qty dev seq = false) := by show _ = _; simp [cmdB, hzd, hzs, hitem, hq]
        clear hitem hq
        subst hzd
        subst hzs
        go_enter Try.func10, Try.ntmps10
        go_wp2_with (first | (go_at_call 26; refine (l3Item _ (by first | exact hs | exact Nat.zero_le _) _).mono ?_; rintro e w' ⟨rfl, rfl⟩; (first | rw [Hitem.out] | skip)) | (go_at_call 27; refine (l1In _ _ _ _).mono ?_; rintro e w' ⟨rfl, rfl⟩; (first | rw [Hq.out] | skip)) | (go_at_call 28; refine (l3Dev _ _).mono ?_; rintro e w' ⟨rfl, rfl⟩; skip))
        go_ret
        exact ⟨by rw [HE.out]; rfl, (Below.refl _ _).alloc (Nat.le_refl _) _⟩
      have Hq := Lib.hid hq
      have HE : Hid (cmdB 2 item qty dev seq = true) := by show _ = _; simp [cmdB, hzd, hzs, hitem, hq]
      clear hitem hq
      subst hzd
      subst hzs
      go_enter Try.func10, Try.ntmps10
      go_wp2_with (first | (go_at_call 26; refine (l3Item _ (by first | exact hs | exact Nat.zero_le _) _).mono ?_; rintro e w' ⟨rfl, rfl⟩; (first | rw [Hitem.out] | skip)) | (go_at_call 27; refine (l1In _ _ _ _).mono ?_; rintro e w' ⟨rfl, rfl⟩; (first | rw [Hq.out] | skip)) | (go_at_call 28; refine (l3Dev _ _).mono ?_; rintro e w' ⟨rfl, rfl⟩; skip))
      go_ret
      exact ⟨by rw [HE.out]; rfl, (Below.refl _ _).alloc (Nat.le_refl _) _⟩
    · have bzs : (seq == 0) = false := by rw [beq_eq_false_iff_ne]; exact hzs
      rcases hitem : itemB item with _ | _
      · have Hitem := Lib.hid hitem
        have HE : Hid (cmdB 2 item qty dev seq = false) := by show _ = _; simp [cmdB, hzd, hzs, hitem]
        clear hzs hitem
        subst hzd
        go_enter Try.func10, Try.ntmps10
        go_wp2_with (first | (go_at_call 26; refine (l3Item _ (by first | exact hs | exact Nat.zero_le _) _).mono ?_; rintro e w' ⟨rfl, rfl⟩; (first | rw [Hitem.out] | skip)) | (go_at_call 27; refine (l1In _ _ _ _).mono ?_; rintro e w' ⟨rfl, rfl⟩; skip) | (go_at_call 28; refine (l3Dev _ _).mono ?_; rintro e w' ⟨rfl, rfl⟩; skip))
        go_ret
        exact ⟨by rw [HE.out]; rfl, (Below.refl _ _).alloc (Nat.le_refl _) _⟩
      have Hitem := Lib.hid hitem
      rcases hq : inB qty 1 999 with _ | _
      · have Hq := Lib.hid hq
        have HE : Hid (cmdB 2 item qty dev seq = false) := by show _ = _; simp [cmdB, hzd, hzs, hitem, hq]
        clear hzs hitem hq
        subst hzd
        go_enter Try.func10, Try.ntmps10
        go_wp2_with (first | (go_at_call 26; refine (l3Item _ (by first | exact hs | exact Nat.zero_le _) _).mono ?_; rintro e w' ⟨rfl, rfl⟩; (first | rw [Hitem.out] | skip)) | (go_at_call 27; refine (l1In _ _ _ _).mono ?_; rintro e w' ⟨rfl, rfl⟩; (first | rw [Hq.out] | skip)) | (go_at_call 28; refine (l3Dev _ _).mono ?_; rintro e w' ⟨rfl, rfl⟩; skip))
        go_ret
        exact ⟨by rw [HE.out]; rfl, (Below.refl _ _).alloc (Nat.le_refl _) _⟩
      have Hq := Lib.hid hq
      have HE : Hid (cmdB 2 item qty dev seq = false) := by show _ = _; simp [cmdB, hzd, hzs, hitem, hq]
      clear hzs hitem hq
      subst hzd
      go_enter Try.func10, Try.ntmps10
      go_wp2_with (first | (go_at_call 26; refine (l3Item _ (by first | exact hs | exact Nat.zero_le _) _).mono ?_; rintro e w' ⟨rfl, rfl⟩; (first | rw [Hitem.out] | skip)) | (go_at_call 27; refine (l1In _ _ _ _).mono ?_; rintro e w' ⟨rfl, rfl⟩; (first | rw [Hq.out] | skip)) | (go_at_call 28; refine (l3Dev _ _).mono ?_; rintro e w' ⟨rfl, rfl⟩; skip))
      go_ret
      exact ⟨by rw [HE.out]; rfl, (Below.refl _ _).alloc (Nat.le_refl _) _⟩
  · have bzd : (dev == 0) = false := by rw [beq_eq_false_iff_ne]; exact hzd
    by_cases hzs : seq = 0
    · skip
      rcases hitem : itemB item with _ | _
      · have Hitem := Lib.hid hitem
        have HE : Hid (cmdB 2 item qty dev seq = false) := by show _ = _; simp [cmdB, hzd, hzs, hitem]
        clear hzd hitem
        subst hzs
        go_enter Try.func10, Try.ntmps10
        go_wp2_with (first | (go_at_call 26; refine (l3Item _ (by first | exact hs | exact Nat.zero_le _) _).mono ?_; rintro e w' ⟨rfl, rfl⟩; (first | rw [Hitem.out] | skip)) | (go_at_call 27; refine (l1In _ _ _ _).mono ?_; rintro e w' ⟨rfl, rfl⟩; skip) | (go_at_call 28; refine (l3Dev _ _).mono ?_; rintro e w' ⟨rfl, rfl⟩; skip))
        go_ret
        exact ⟨by rw [HE.out]; rfl, (Below.refl _ _).alloc (Nat.le_refl _) _⟩
      have Hitem := Lib.hid hitem
      rcases hq : inB qty 1 999 with _ | _
      · have Hq := Lib.hid hq
        have HE : Hid (cmdB 2 item qty dev seq = false) := by show _ = _; simp [cmdB, hzd, hzs, hitem, hq]
        clear hzd hitem hq
        subst hzs
        go_enter Try.func10, Try.ntmps10
        go_wp2_with (first | (go_at_call 26; refine (l3Item _ (by first | exact hs | exact Nat.zero_le _) _).mono ?_; rintro e w' ⟨rfl, rfl⟩; (first | rw [Hitem.out] | skip)) | (go_at_call 27; refine (l1In _ _ _ _).mono ?_; rintro e w' ⟨rfl, rfl⟩; (first | rw [Hq.out] | skip)) | (go_at_call 28; refine (l3Dev _ _).mono ?_; rintro e w' ⟨rfl, rfl⟩; skip))
        go_ret
        exact ⟨by rw [HE.out]; rfl, (Below.refl _ _).alloc (Nat.le_refl _) _⟩
      have Hq := Lib.hid hq
      have HE : Hid (cmdB 2 item qty dev seq = false) := by show _ = _; simp [cmdB, hzd, hzs, hitem, hq]
      clear hzd hitem hq
      subst hzs
      go_enter Try.func10, Try.ntmps10
      go_wp2_with (first | (go_at_call 26; refine (l3Item _ (by first | exact hs | exact Nat.zero_le _) _).mono ?_; rintro e w' ⟨rfl, rfl⟩; (first | rw [Hitem.out] | skip)) | (go_at_call 27; refine (l1In _ _ _ _).mono ?_; rintro e w' ⟨rfl, rfl⟩; (first | rw [Hq.out] | skip)) | (go_at_call 28; refine (l3Dev _ _).mono ?_; rintro e w' ⟨rfl, rfl⟩; skip))
      go_ret
      exact ⟨by rw [HE.out]; rfl, (Below.refl _ _).alloc (Nat.le_refl _) _⟩
    · have bzs : (seq == 0) = false := by rw [beq_eq_false_iff_ne]; exact hzs
      rcases hitem : itemB item with _ | _
      · have Hitem := Lib.hid hitem
        have HE : Hid (cmdB 2 item qty dev seq = false) := by show _ = _; simp [cmdB, hzd, hzs, hitem]
        clear hzd hzs hitem
        go_enter Try.func10, Try.ntmps10
        go_wp2_with (first | (go_at_call 26; refine (l3Item _ (by first | exact hs | exact Nat.zero_le _) _).mono ?_; rintro e w' ⟨rfl, rfl⟩; (first | rw [Hitem.out] | skip)) | (go_at_call 27; refine (l1In _ _ _ _).mono ?_; rintro e w' ⟨rfl, rfl⟩; skip) | (go_at_call 28; refine (l3Dev _ _).mono ?_; rintro e w' ⟨rfl, rfl⟩; skip))
        go_ret
        exact ⟨by rw [HE.out]; rfl, (Below.refl _ _).alloc (Nat.le_refl _) _⟩
      have Hitem := Lib.hid hitem
      rcases hq : inB qty 1 999 with _ | _
      · have Hq := Lib.hid hq
        have HE : Hid (cmdB 2 item qty dev seq = false) := by show _ = _; simp [cmdB, hzd, hzs, hitem, hq]
        clear hzd hzs hitem hq
        go_enter Try.func10, Try.ntmps10
        go_wp2_with (first | (go_at_call 26; refine (l3Item _ (by first | exact hs | exact Nat.zero_le _) _).mono ?_; rintro e w' ⟨rfl, rfl⟩; (first | rw [Hitem.out] | skip)) | (go_at_call 27; refine (l1In _ _ _ _).mono ?_; rintro e w' ⟨rfl, rfl⟩; (first | rw [Hq.out] | skip)) | (go_at_call 28; refine (l3Dev _ _).mono ?_; rintro e w' ⟨rfl, rfl⟩; skip))
        go_ret
        exact ⟨by rw [HE.out]; rfl, (Below.refl _ _).alloc (Nat.le_refl _) _⟩
      have Hq := Lib.hid hq
      have HE : Hid (cmdB 2 item qty dev seq = false) := by show _ = _; simp [cmdB, hzd, hzs, hitem, hq]
      clear hzd hzs hitem hq
      go_enter Try.func10, Try.ntmps10
      go_wp2_with (first | (go_at_call 26; refine (l3Item _ (by first | exact hs | exact Nat.zero_le _) _).mono ?_; rintro e w' ⟨rfl, rfl⟩; (first | rw [Hitem.out] | skip)) | (go_at_call 27; refine (l1In _ _ _ _).mono ?_; rintro e w' ⟨rfl, rfl⟩; (first | rw [Hq.out] | skip)) | (go_at_call 28; refine (l3Dev _ _).mono ?_; rintro e w' ⟨rfl, rfl⟩; skip))
      go_ret
      exact ⟨by rw [HE.out]; rfl, (Below.refl _ _).alloc (Nat.le_refl _) _⟩
set_option maxRecDepth 100000 in
set_option maxHeartbeats 2000000 in
theorem specCmd3 (item : ByteArray) (qty dev seq : Int) (hs : item.size ≤ 1048576) (w : World) : Calls Try.prog 10 #[.agg #[.int .i64 3, .string item, .int .i64 qty, .int .i64 dev, .int .i64 seq]] w fun e w' => e = .returned (.bool (cmdB 3 item qty dev seq)) ∧ Below w.heap.size w w' := by
  have _hs := hs
  by_cases hzd : dev = 0
  · by_cases hzs : seq = 0
    · skip
      rcases hitem : itemB item with _ | _
      · have Hitem := Lib.hid hitem
        have HE : Hid (cmdB 3 item qty dev seq = false) := by show _ = _; simp [cmdB, hzd, hzs, hitem]
        clear hitem
        subst hzd
        subst hzs
        go_enter Try.func10, Try.ntmps10
        go_wp2_with (first | (go_at_call 26; refine (l3Item _ (by first | exact hs | exact Nat.zero_le _) _).mono ?_; rintro e w' ⟨rfl, rfl⟩; (first | rw [Hitem.out] | skip)) | (go_at_call 27; refine (l1In _ _ _ _).mono ?_; rintro e w' ⟨rfl, rfl⟩; skip) | (go_at_call 28; refine (l3Dev _ _).mono ?_; rintro e w' ⟨rfl, rfl⟩; skip))
        go_ret
        exact ⟨by rw [HE.out]; rfl, (Below.refl _ _).alloc (Nat.le_refl _) _⟩
      have Hitem := Lib.hid hitem
      by_cases hzq : qty = 0
      rotate_left
      · have bzq : (qty == 0) = false := by rw [beq_eq_false_iff_ne]; exact hzq
        have HE : Hid (cmdB 3 item qty dev seq = false) := by show _ = _; simp [cmdB, hzd, hzs, hitem, hzq]
        clear hitem hzq
        subst hzd
        subst hzs
        go_enter Try.func10, Try.ntmps10
        go_wp2_with (first | (go_at_call 26; refine (l3Item _ (by first | exact hs | exact Nat.zero_le _) _).mono ?_; rintro e w' ⟨rfl, rfl⟩; (first | rw [Hitem.out] | skip)) | (go_at_call 27; refine (l1In _ _ _ _).mono ?_; rintro e w' ⟨rfl, rfl⟩; skip) | (go_at_call 28; refine (l3Dev _ _).mono ?_; rintro e w' ⟨rfl, rfl⟩; skip))
        go_ret
        exact ⟨by rw [HE.out]; rfl, (Below.refl _ _).alloc (Nat.le_refl _) _⟩
      have HE : Hid (cmdB 3 item qty dev seq = true) := by show _ = _; simp [cmdB, hzd, hzs, hitem, hzq]
      clear hitem
      subst hzd
      subst hzs
      subst hzq
      go_enter Try.func10, Try.ntmps10
      go_wp2_with (first | (go_at_call 26; refine (l3Item _ (by first | exact hs | exact Nat.zero_le _) _).mono ?_; rintro e w' ⟨rfl, rfl⟩; (first | rw [Hitem.out] | skip)) | (go_at_call 27; refine (l1In _ _ _ _).mono ?_; rintro e w' ⟨rfl, rfl⟩; skip) | (go_at_call 28; refine (l3Dev _ _).mono ?_; rintro e w' ⟨rfl, rfl⟩; skip))
      go_ret
      exact ⟨by rw [HE.out]; rfl, (Below.refl _ _).alloc (Nat.le_refl _) _⟩
    · have bzs : (seq == 0) = false := by rw [beq_eq_false_iff_ne]; exact hzs
      rcases hitem : itemB item with _ | _
      · have Hitem := Lib.hid hitem
        have HE : Hid (cmdB 3 item qty dev seq = false) := by show _ = _; simp [cmdB, hzd, hzs, hitem]
        clear hzs hitem
        subst hzd
        go_enter Try.func10, Try.ntmps10
        go_wp2_with (first | (go_at_call 26; refine (l3Item _ (by first | exact hs | exact Nat.zero_le _) _).mono ?_; rintro e w' ⟨rfl, rfl⟩; (first | rw [Hitem.out] | skip)) | (go_at_call 27; refine (l1In _ _ _ _).mono ?_; rintro e w' ⟨rfl, rfl⟩; skip) | (go_at_call 28; refine (l3Dev _ _).mono ?_; rintro e w' ⟨rfl, rfl⟩; skip))
        go_ret
        exact ⟨by rw [HE.out]; rfl, (Below.refl _ _).alloc (Nat.le_refl _) _⟩
      have Hitem := Lib.hid hitem
      by_cases hzq : qty = 0
      rotate_left
      · have bzq : (qty == 0) = false := by rw [beq_eq_false_iff_ne]; exact hzq
        have HE : Hid (cmdB 3 item qty dev seq = false) := by show _ = _; simp [cmdB, hzd, hzs, hitem, hzq]
        clear hzs hitem hzq
        subst hzd
        go_enter Try.func10, Try.ntmps10
        go_wp2_with (first | (go_at_call 26; refine (l3Item _ (by first | exact hs | exact Nat.zero_le _) _).mono ?_; rintro e w' ⟨rfl, rfl⟩; (first | rw [Hitem.out] | skip)) | (go_at_call 27; refine (l1In _ _ _ _).mono ?_; rintro e w' ⟨rfl, rfl⟩; skip) | (go_at_call 28; refine (l3Dev _ _).mono ?_; rintro e w' ⟨rfl, rfl⟩; skip))
        go_ret
        exact ⟨by rw [HE.out]; rfl, (Below.refl _ _).alloc (Nat.le_refl _) _⟩
      have HE : Hid (cmdB 3 item qty dev seq = false) := by show _ = _; simp [cmdB, hzd, hzs, hitem, hzq]
      clear hzs hitem
      subst hzd
      subst hzq
      go_enter Try.func10, Try.ntmps10
      go_wp2_with (first | (go_at_call 26; refine (l3Item _ (by first | exact hs | exact Nat.zero_le _) _).mono ?_; rintro e w' ⟨rfl, rfl⟩; (first | rw [Hitem.out] | skip)) | (go_at_call 27; refine (l1In _ _ _ _).mono ?_; rintro e w' ⟨rfl, rfl⟩; skip) | (go_at_call 28; refine (l3Dev _ _).mono ?_; rintro e w' ⟨rfl, rfl⟩; skip))
      go_ret
      exact ⟨by rw [HE.out]; rfl, (Below.refl _ _).alloc (Nat.le_refl _) _⟩
  · have bzd : (dev == 0) = false := by rw [beq_eq_false_iff_ne]; exact hzd
    by_cases hzs : seq = 0
    · skip
      rcases hitem : itemB item with _ | _
      · have Hitem := Lib.hid hitem
        have HE : Hid (cmdB 3 item qty dev seq = false) := by show _ = _; simp [cmdB, hzd, hzs, hitem]
        clear hzd hitem
        subst hzs
        go_enter Try.func10, Try.ntmps10
        go_wp2_with (first | (go_at_call 26; refine (l3Item _ (by first | exact hs | exact Nat.zero_le _) _).mono ?_; rintro e w' ⟨rfl, rfl⟩; (first | rw [Hitem.out] | skip)) | (go_at_call 27; refine (l1In _ _ _ _).mono ?_; rintro e w' ⟨rfl, rfl⟩; skip) | (go_at_call 28; refine (l3Dev _ _).mono ?_; rintro e w' ⟨rfl, rfl⟩; skip))
        go_ret
        exact ⟨by rw [HE.out]; rfl, (Below.refl _ _).alloc (Nat.le_refl _) _⟩
      have Hitem := Lib.hid hitem
      by_cases hzq : qty = 0
      rotate_left
      · have bzq : (qty == 0) = false := by rw [beq_eq_false_iff_ne]; exact hzq
        have HE : Hid (cmdB 3 item qty dev seq = false) := by show _ = _; simp [cmdB, hzd, hzs, hitem, hzq]
        clear hzd hitem hzq
        subst hzs
        go_enter Try.func10, Try.ntmps10
        go_wp2_with (first | (go_at_call 26; refine (l3Item _ (by first | exact hs | exact Nat.zero_le _) _).mono ?_; rintro e w' ⟨rfl, rfl⟩; (first | rw [Hitem.out] | skip)) | (go_at_call 27; refine (l1In _ _ _ _).mono ?_; rintro e w' ⟨rfl, rfl⟩; skip) | (go_at_call 28; refine (l3Dev _ _).mono ?_; rintro e w' ⟨rfl, rfl⟩; skip))
        go_ret
        exact ⟨by rw [HE.out]; rfl, (Below.refl _ _).alloc (Nat.le_refl _) _⟩
      have HE : Hid (cmdB 3 item qty dev seq = false) := by show _ = _; simp [cmdB, hzd, hzs, hitem, hzq]
      clear hzd hitem
      subst hzs
      subst hzq
      go_enter Try.func10, Try.ntmps10
      go_wp2_with (first | (go_at_call 26; refine (l3Item _ (by first | exact hs | exact Nat.zero_le _) _).mono ?_; rintro e w' ⟨rfl, rfl⟩; (first | rw [Hitem.out] | skip)) | (go_at_call 27; refine (l1In _ _ _ _).mono ?_; rintro e w' ⟨rfl, rfl⟩; skip) | (go_at_call 28; refine (l3Dev _ _).mono ?_; rintro e w' ⟨rfl, rfl⟩; skip))
      go_ret
      exact ⟨by rw [HE.out]; rfl, (Below.refl _ _).alloc (Nat.le_refl _) _⟩
    · have bzs : (seq == 0) = false := by rw [beq_eq_false_iff_ne]; exact hzs
      rcases hitem : itemB item with _ | _
      · have Hitem := Lib.hid hitem
        have HE : Hid (cmdB 3 item qty dev seq = false) := by show _ = _; simp [cmdB, hzd, hzs, hitem]
        clear hzd hzs hitem
        go_enter Try.func10, Try.ntmps10
        go_wp2_with (first | (go_at_call 26; refine (l3Item _ (by first | exact hs | exact Nat.zero_le _) _).mono ?_; rintro e w' ⟨rfl, rfl⟩; (first | rw [Hitem.out] | skip)) | (go_at_call 27; refine (l1In _ _ _ _).mono ?_; rintro e w' ⟨rfl, rfl⟩; skip) | (go_at_call 28; refine (l3Dev _ _).mono ?_; rintro e w' ⟨rfl, rfl⟩; skip))
        go_ret
        exact ⟨by rw [HE.out]; rfl, (Below.refl _ _).alloc (Nat.le_refl _) _⟩
      have Hitem := Lib.hid hitem
      by_cases hzq : qty = 0
      rotate_left
      · have bzq : (qty == 0) = false := by rw [beq_eq_false_iff_ne]; exact hzq
        have HE : Hid (cmdB 3 item qty dev seq = false) := by show _ = _; simp [cmdB, hzd, hzs, hitem, hzq]
        clear hzd hzs hitem hzq
        go_enter Try.func10, Try.ntmps10
        go_wp2_with (first | (go_at_call 26; refine (l3Item _ (by first | exact hs | exact Nat.zero_le _) _).mono ?_; rintro e w' ⟨rfl, rfl⟩; (first | rw [Hitem.out] | skip)) | (go_at_call 27; refine (l1In _ _ _ _).mono ?_; rintro e w' ⟨rfl, rfl⟩; skip) | (go_at_call 28; refine (l3Dev _ _).mono ?_; rintro e w' ⟨rfl, rfl⟩; skip))
        go_ret
        exact ⟨by rw [HE.out]; rfl, (Below.refl _ _).alloc (Nat.le_refl _) _⟩
      have HE : Hid (cmdB 3 item qty dev seq = false) := by show _ = _; simp [cmdB, hzd, hzs, hitem, hzq]
      clear hzd hzs hitem
      subst hzq
      go_enter Try.func10, Try.ntmps10
      go_wp2_with (first | (go_at_call 26; refine (l3Item _ (by first | exact hs | exact Nat.zero_le _) _).mono ?_; rintro e w' ⟨rfl, rfl⟩; (first | rw [Hitem.out] | skip)) | (go_at_call 27; refine (l1In _ _ _ _).mono ?_; rintro e w' ⟨rfl, rfl⟩; skip) | (go_at_call 28; refine (l3Dev _ _).mono ?_; rintro e w' ⟨rfl, rfl⟩; skip))
      go_ret
      exact ⟨by rw [HE.out]; rfl, (Below.refl _ _).alloc (Nat.le_refl _) _⟩
set_option maxRecDepth 100000 in
set_option maxHeartbeats 2000000 in
theorem specCmd4 (item : ByteArray) (qty dev seq : Int) (hs : item.size ≤ 1048576) (w : World) : Calls Try.prog 10 #[.agg #[.int .i64 4, .string item, .int .i64 qty, .int .i64 dev, .int .i64 seq]] w fun e w' => e = .returned (.bool (cmdB 4 item qty dev seq)) ∧ Below w.heap.size w w' := by
  have _hs := hs
  by_cases hzd : dev = 0
  · by_cases hzs : seq = 0
    · skip
      rcases hitem : itemB item with _ | _
      · have Hitem := Lib.hid hitem
        have HE : Hid (cmdB 4 item qty dev seq = false) := by show _ = _; simp [cmdB, hzd, hzs, hitem]
        clear hitem
        subst hzd
        subst hzs
        go_enter Try.func10, Try.ntmps10
        go_wp2_with (first | (go_at_call 26; refine (l3Item _ (by first | exact hs | exact Nat.zero_le _) _).mono ?_; rintro e w' ⟨rfl, rfl⟩; (first | rw [Hitem.out] | skip)) | (go_at_call 27; refine (l1In _ _ _ _).mono ?_; rintro e w' ⟨rfl, rfl⟩; skip) | (go_at_call 28; refine (l3Dev _ _).mono ?_; rintro e w' ⟨rfl, rfl⟩; skip))
        go_ret
        exact ⟨by rw [HE.out]; rfl, (Below.refl _ _).alloc (Nat.le_refl _) _⟩
      have Hitem := Lib.hid hitem
      by_cases hzq : qty = 0
      rotate_left
      · have bzq : (qty == 0) = false := by rw [beq_eq_false_iff_ne]; exact hzq
        have HE : Hid (cmdB 4 item qty dev seq = false) := by show _ = _; simp [cmdB, hzd, hzs, hitem, hzq]
        clear hitem hzq
        subst hzd
        subst hzs
        go_enter Try.func10, Try.ntmps10
        go_wp2_with (first | (go_at_call 26; refine (l3Item _ (by first | exact hs | exact Nat.zero_le _) _).mono ?_; rintro e w' ⟨rfl, rfl⟩; (first | rw [Hitem.out] | skip)) | (go_at_call 27; refine (l1In _ _ _ _).mono ?_; rintro e w' ⟨rfl, rfl⟩; skip) | (go_at_call 28; refine (l3Dev _ _).mono ?_; rintro e w' ⟨rfl, rfl⟩; skip))
        go_ret
        exact ⟨by rw [HE.out]; rfl, (Below.refl _ _).alloc (Nat.le_refl _) _⟩
      have HE : Hid (cmdB 4 item qty dev seq = true) := by show _ = _; simp [cmdB, hzd, hzs, hitem, hzq]
      clear hitem
      subst hzd
      subst hzs
      subst hzq
      go_enter Try.func10, Try.ntmps10
      go_wp2_with (first | (go_at_call 26; refine (l3Item _ (by first | exact hs | exact Nat.zero_le _) _).mono ?_; rintro e w' ⟨rfl, rfl⟩; (first | rw [Hitem.out] | skip)) | (go_at_call 27; refine (l1In _ _ _ _).mono ?_; rintro e w' ⟨rfl, rfl⟩; skip) | (go_at_call 28; refine (l3Dev _ _).mono ?_; rintro e w' ⟨rfl, rfl⟩; skip))
      go_ret
      exact ⟨by rw [HE.out]; rfl, (Below.refl _ _).alloc (Nat.le_refl _) _⟩
    · have bzs : (seq == 0) = false := by rw [beq_eq_false_iff_ne]; exact hzs
      rcases hitem : itemB item with _ | _
      · have Hitem := Lib.hid hitem
        have HE : Hid (cmdB 4 item qty dev seq = false) := by show _ = _; simp [cmdB, hzd, hzs, hitem]
        clear hzs hitem
        subst hzd
        go_enter Try.func10, Try.ntmps10
        go_wp2_with (first | (go_at_call 26; refine (l3Item _ (by first | exact hs | exact Nat.zero_le _) _).mono ?_; rintro e w' ⟨rfl, rfl⟩; (first | rw [Hitem.out] | skip)) | (go_at_call 27; refine (l1In _ _ _ _).mono ?_; rintro e w' ⟨rfl, rfl⟩; skip) | (go_at_call 28; refine (l3Dev _ _).mono ?_; rintro e w' ⟨rfl, rfl⟩; skip))
        go_ret
        exact ⟨by rw [HE.out]; rfl, (Below.refl _ _).alloc (Nat.le_refl _) _⟩
      have Hitem := Lib.hid hitem
      by_cases hzq : qty = 0
      rotate_left
      · have bzq : (qty == 0) = false := by rw [beq_eq_false_iff_ne]; exact hzq
        have HE : Hid (cmdB 4 item qty dev seq = false) := by show _ = _; simp [cmdB, hzd, hzs, hitem, hzq]
        clear hzs hitem hzq
        subst hzd
        go_enter Try.func10, Try.ntmps10
        go_wp2_with (first | (go_at_call 26; refine (l3Item _ (by first | exact hs | exact Nat.zero_le _) _).mono ?_; rintro e w' ⟨rfl, rfl⟩; (first | rw [Hitem.out] | skip)) | (go_at_call 27; refine (l1In _ _ _ _).mono ?_; rintro e w' ⟨rfl, rfl⟩; skip) | (go_at_call 28; refine (l3Dev _ _).mono ?_; rintro e w' ⟨rfl, rfl⟩; skip))
        go_ret
        exact ⟨by rw [HE.out]; rfl, (Below.refl _ _).alloc (Nat.le_refl _) _⟩
      have HE : Hid (cmdB 4 item qty dev seq = false) := by show _ = _; simp [cmdB, hzd, hzs, hitem, hzq]
      clear hzs hitem
      subst hzd
      subst hzq
      go_enter Try.func10, Try.ntmps10
      go_wp2_with (first | (go_at_call 26; refine (l3Item _ (by first | exact hs | exact Nat.zero_le _) _).mono ?_; rintro e w' ⟨rfl, rfl⟩; (first | rw [Hitem.out] | skip)) | (go_at_call 27; refine (l1In _ _ _ _).mono ?_; rintro e w' ⟨rfl, rfl⟩; skip) | (go_at_call 28; refine (l3Dev _ _).mono ?_; rintro e w' ⟨rfl, rfl⟩; skip))
      go_ret
      exact ⟨by rw [HE.out]; rfl, (Below.refl _ _).alloc (Nat.le_refl _) _⟩
  · have bzd : (dev == 0) = false := by rw [beq_eq_false_iff_ne]; exact hzd
    by_cases hzs : seq = 0
    · skip
      rcases hitem : itemB item with _ | _
      · have Hitem := Lib.hid hitem
        have HE : Hid (cmdB 4 item qty dev seq = false) := by show _ = _; simp [cmdB, hzd, hzs, hitem]
        clear hzd hitem
        subst hzs
        go_enter Try.func10, Try.ntmps10
        go_wp2_with (first | (go_at_call 26; refine (l3Item _ (by first | exact hs | exact Nat.zero_le _) _).mono ?_; rintro e w' ⟨rfl, rfl⟩; (first | rw [Hitem.out] | skip)) | (go_at_call 27; refine (l1In _ _ _ _).mono ?_; rintro e w' ⟨rfl, rfl⟩; skip) | (go_at_call 28; refine (l3Dev _ _).mono ?_; rintro e w' ⟨rfl, rfl⟩; skip))
        go_ret
        exact ⟨by rw [HE.out]; rfl, (Below.refl _ _).alloc (Nat.le_refl _) _⟩
      have Hitem := Lib.hid hitem
      by_cases hzq : qty = 0
      rotate_left
      · have bzq : (qty == 0) = false := by rw [beq_eq_false_iff_ne]; exact hzq
        have HE : Hid (cmdB 4 item qty dev seq = false) := by show _ = _; simp [cmdB, hzd, hzs, hitem, hzq]
        clear hzd hitem hzq
        subst hzs
        go_enter Try.func10, Try.ntmps10
        go_wp2_with (first | (go_at_call 26; refine (l3Item _ (by first | exact hs | exact Nat.zero_le _) _).mono ?_; rintro e w' ⟨rfl, rfl⟩; (first | rw [Hitem.out] | skip)) | (go_at_call 27; refine (l1In _ _ _ _).mono ?_; rintro e w' ⟨rfl, rfl⟩; skip) | (go_at_call 28; refine (l3Dev _ _).mono ?_; rintro e w' ⟨rfl, rfl⟩; skip))
        go_ret
        exact ⟨by rw [HE.out]; rfl, (Below.refl _ _).alloc (Nat.le_refl _) _⟩
      have HE : Hid (cmdB 4 item qty dev seq = false) := by show _ = _; simp [cmdB, hzd, hzs, hitem, hzq]
      clear hzd hitem
      subst hzs
      subst hzq
      go_enter Try.func10, Try.ntmps10
      go_wp2_with (first | (go_at_call 26; refine (l3Item _ (by first | exact hs | exact Nat.zero_le _) _).mono ?_; rintro e w' ⟨rfl, rfl⟩; (first | rw [Hitem.out] | skip)) | (go_at_call 27; refine (l1In _ _ _ _).mono ?_; rintro e w' ⟨rfl, rfl⟩; skip) | (go_at_call 28; refine (l3Dev _ _).mono ?_; rintro e w' ⟨rfl, rfl⟩; skip))
      go_ret
      exact ⟨by rw [HE.out]; rfl, (Below.refl _ _).alloc (Nat.le_refl _) _⟩
    · have bzs : (seq == 0) = false := by rw [beq_eq_false_iff_ne]; exact hzs
      rcases hitem : itemB item with _ | _
      · have Hitem := Lib.hid hitem
        have HE : Hid (cmdB 4 item qty dev seq = false) := by show _ = _; simp [cmdB, hzd, hzs, hitem]
        clear hzd hzs hitem
        go_enter Try.func10, Try.ntmps10
        go_wp2_with (first | (go_at_call 26; refine (l3Item _ (by first | exact hs | exact Nat.zero_le _) _).mono ?_; rintro e w' ⟨rfl, rfl⟩; (first | rw [Hitem.out] | skip)) | (go_at_call 27; refine (l1In _ _ _ _).mono ?_; rintro e w' ⟨rfl, rfl⟩; skip) | (go_at_call 28; refine (l3Dev _ _).mono ?_; rintro e w' ⟨rfl, rfl⟩; skip))
        go_ret
        exact ⟨by rw [HE.out]; rfl, (Below.refl _ _).alloc (Nat.le_refl _) _⟩
      have Hitem := Lib.hid hitem
      by_cases hzq : qty = 0
      rotate_left
      · have bzq : (qty == 0) = false := by rw [beq_eq_false_iff_ne]; exact hzq
        have HE : Hid (cmdB 4 item qty dev seq = false) := by show _ = _; simp [cmdB, hzd, hzs, hitem, hzq]
        clear hzd hzs hitem hzq
        go_enter Try.func10, Try.ntmps10
        go_wp2_with (first | (go_at_call 26; refine (l3Item _ (by first | exact hs | exact Nat.zero_le _) _).mono ?_; rintro e w' ⟨rfl, rfl⟩; (first | rw [Hitem.out] | skip)) | (go_at_call 27; refine (l1In _ _ _ _).mono ?_; rintro e w' ⟨rfl, rfl⟩; skip) | (go_at_call 28; refine (l3Dev _ _).mono ?_; rintro e w' ⟨rfl, rfl⟩; skip))
        go_ret
        exact ⟨by rw [HE.out]; rfl, (Below.refl _ _).alloc (Nat.le_refl _) _⟩
      have HE : Hid (cmdB 4 item qty dev seq = false) := by show _ = _; simp [cmdB, hzd, hzs, hitem, hzq]
      clear hzd hzs hitem
      subst hzq
      go_enter Try.func10, Try.ntmps10
      go_wp2_with (first | (go_at_call 26; refine (l3Item _ (by first | exact hs | exact Nat.zero_le _) _).mono ?_; rintro e w' ⟨rfl, rfl⟩; (first | rw [Hitem.out] | skip)) | (go_at_call 27; refine (l1In _ _ _ _).mono ?_; rintro e w' ⟨rfl, rfl⟩; skip) | (go_at_call 28; refine (l3Dev _ _).mono ?_; rintro e w' ⟨rfl, rfl⟩; skip))
      go_ret
      exact ⟨by rw [HE.out]; rfl, (Below.refl _ _).alloc (Nat.le_refl _) _⟩
set_option maxRecDepth 100000 in
set_option maxHeartbeats 2000000 in
theorem specCmd5 (item : ByteArray) (qty dev seq : Int) (hs : item.size ≤ 1048576) (w : World) : Calls Try.prog 10 #[.agg #[.int .i64 5, .string item, .int .i64 qty, .int .i64 dev, .int .i64 seq]] w fun e w' => e = .returned (.bool (cmdB 5 item qty dev seq)) ∧ Below w.heap.size w w' := by
  have _hs := hs
  by_cases hzd : dev = 0
  · by_cases hzs : seq = 0
    · skip
      rcases hitem : itemB item with _ | _
      · have Hitem := Lib.hid hitem
        have HE : Hid (cmdB 5 item qty dev seq = false) := by show _ = _; simp [cmdB, hzd, hzs, hitem]
        clear hitem
        subst hzd
        subst hzs
        go_enter Try.func10, Try.ntmps10
        go_wp2_with (first | (go_at_call 26; refine (l3Item _ (by first | exact hs | exact Nat.zero_le _) _).mono ?_; rintro e w' ⟨rfl, rfl⟩; (first | rw [Hitem.out] | skip)) | (go_at_call 27; refine (l1In _ _ _ _).mono ?_; rintro e w' ⟨rfl, rfl⟩; skip) | (go_at_call 28; refine (l3Dev _ _).mono ?_; rintro e w' ⟨rfl, rfl⟩; skip))
        go_ret
        exact ⟨by rw [HE.out]; rfl, (Below.refl _ _).alloc (Nat.le_refl _) _⟩
      have Hitem := Lib.hid hitem
      by_cases hzq : qty = 0
      rotate_left
      · have bzq : (qty == 0) = false := by rw [beq_eq_false_iff_ne]; exact hzq
        have HE : Hid (cmdB 5 item qty dev seq = false) := by show _ = _; simp [cmdB, hzd, hzs, hitem, hzq]
        clear hitem hzq
        subst hzd
        subst hzs
        go_enter Try.func10, Try.ntmps10
        go_wp2_with (first | (go_at_call 26; refine (l3Item _ (by first | exact hs | exact Nat.zero_le _) _).mono ?_; rintro e w' ⟨rfl, rfl⟩; (first | rw [Hitem.out] | skip)) | (go_at_call 27; refine (l1In _ _ _ _).mono ?_; rintro e w' ⟨rfl, rfl⟩; skip) | (go_at_call 28; refine (l3Dev _ _).mono ?_; rintro e w' ⟨rfl, rfl⟩; skip))
        go_ret
        exact ⟨by rw [HE.out]; rfl, (Below.refl _ _).alloc (Nat.le_refl _) _⟩
      have HE : Hid (cmdB 5 item qty dev seq = true) := by show _ = _; simp [cmdB, hzd, hzs, hitem, hzq]
      clear hitem
      subst hzd
      subst hzs
      subst hzq
      go_enter Try.func10, Try.ntmps10
      go_wp2_with (first | (go_at_call 26; refine (l3Item _ (by first | exact hs | exact Nat.zero_le _) _).mono ?_; rintro e w' ⟨rfl, rfl⟩; (first | rw [Hitem.out] | skip)) | (go_at_call 27; refine (l1In _ _ _ _).mono ?_; rintro e w' ⟨rfl, rfl⟩; skip) | (go_at_call 28; refine (l3Dev _ _).mono ?_; rintro e w' ⟨rfl, rfl⟩; skip))
      go_ret
      exact ⟨by rw [HE.out]; rfl, (Below.refl _ _).alloc (Nat.le_refl _) _⟩
    · have bzs : (seq == 0) = false := by rw [beq_eq_false_iff_ne]; exact hzs
      rcases hitem : itemB item with _ | _
      · have Hitem := Lib.hid hitem
        have HE : Hid (cmdB 5 item qty dev seq = false) := by show _ = _; simp [cmdB, hzd, hzs, hitem]
        clear hzs hitem
        subst hzd
        go_enter Try.func10, Try.ntmps10
        go_wp2_with (first | (go_at_call 26; refine (l3Item _ (by first | exact hs | exact Nat.zero_le _) _).mono ?_; rintro e w' ⟨rfl, rfl⟩; (first | rw [Hitem.out] | skip)) | (go_at_call 27; refine (l1In _ _ _ _).mono ?_; rintro e w' ⟨rfl, rfl⟩; skip) | (go_at_call 28; refine (l3Dev _ _).mono ?_; rintro e w' ⟨rfl, rfl⟩; skip))
        go_ret
        exact ⟨by rw [HE.out]; rfl, (Below.refl _ _).alloc (Nat.le_refl _) _⟩
      have Hitem := Lib.hid hitem
      by_cases hzq : qty = 0
      rotate_left
      · have bzq : (qty == 0) = false := by rw [beq_eq_false_iff_ne]; exact hzq
        have HE : Hid (cmdB 5 item qty dev seq = false) := by show _ = _; simp [cmdB, hzd, hzs, hitem, hzq]
        clear hzs hitem hzq
        subst hzd
        go_enter Try.func10, Try.ntmps10
        go_wp2_with (first | (go_at_call 26; refine (l3Item _ (by first | exact hs | exact Nat.zero_le _) _).mono ?_; rintro e w' ⟨rfl, rfl⟩; (first | rw [Hitem.out] | skip)) | (go_at_call 27; refine (l1In _ _ _ _).mono ?_; rintro e w' ⟨rfl, rfl⟩; skip) | (go_at_call 28; refine (l3Dev _ _).mono ?_; rintro e w' ⟨rfl, rfl⟩; skip))
        go_ret
        exact ⟨by rw [HE.out]; rfl, (Below.refl _ _).alloc (Nat.le_refl _) _⟩
      have HE : Hid (cmdB 5 item qty dev seq = false) := by show _ = _; simp [cmdB, hzd, hzs, hitem, hzq]
      clear hzs hitem
      subst hzd
      subst hzq
      go_enter Try.func10, Try.ntmps10
      go_wp2_with (first | (go_at_call 26; refine (l3Item _ (by first | exact hs | exact Nat.zero_le _) _).mono ?_; rintro e w' ⟨rfl, rfl⟩; (first | rw [Hitem.out] | skip)) | (go_at_call 27; refine (l1In _ _ _ _).mono ?_; rintro e w' ⟨rfl, rfl⟩; skip) | (go_at_call 28; refine (l3Dev _ _).mono ?_; rintro e w' ⟨rfl, rfl⟩; skip))
      go_ret
      exact ⟨by rw [HE.out]; rfl, (Below.refl _ _).alloc (Nat.le_refl _) _⟩
  · have bzd : (dev == 0) = false := by rw [beq_eq_false_iff_ne]; exact hzd
    by_cases hzs : seq = 0
    · skip
      rcases hitem : itemB item with _ | _
      · have Hitem := Lib.hid hitem
        have HE : Hid (cmdB 5 item qty dev seq = false) := by show _ = _; simp [cmdB, hzd, hzs, hitem]
        clear hzd hitem
        subst hzs
        go_enter Try.func10, Try.ntmps10
        go_wp2_with (first | (go_at_call 26; refine (l3Item _ (by first | exact hs | exact Nat.zero_le _) _).mono ?_; rintro e w' ⟨rfl, rfl⟩; (first | rw [Hitem.out] | skip)) | (go_at_call 27; refine (l1In _ _ _ _).mono ?_; rintro e w' ⟨rfl, rfl⟩; skip) | (go_at_call 28; refine (l3Dev _ _).mono ?_; rintro e w' ⟨rfl, rfl⟩; skip))
        go_ret
        exact ⟨by rw [HE.out]; rfl, (Below.refl _ _).alloc (Nat.le_refl _) _⟩
      have Hitem := Lib.hid hitem
      by_cases hzq : qty = 0
      rotate_left
      · have bzq : (qty == 0) = false := by rw [beq_eq_false_iff_ne]; exact hzq
        have HE : Hid (cmdB 5 item qty dev seq = false) := by show _ = _; simp [cmdB, hzd, hzs, hitem, hzq]
        clear hzd hitem hzq
        subst hzs
        go_enter Try.func10, Try.ntmps10
        go_wp2_with (first | (go_at_call 26; refine (l3Item _ (by first | exact hs | exact Nat.zero_le _) _).mono ?_; rintro e w' ⟨rfl, rfl⟩; (first | rw [Hitem.out] | skip)) | (go_at_call 27; refine (l1In _ _ _ _).mono ?_; rintro e w' ⟨rfl, rfl⟩; skip) | (go_at_call 28; refine (l3Dev _ _).mono ?_; rintro e w' ⟨rfl, rfl⟩; skip))
        go_ret
        exact ⟨by rw [HE.out]; rfl, (Below.refl _ _).alloc (Nat.le_refl _) _⟩
      have HE : Hid (cmdB 5 item qty dev seq = false) := by show _ = _; simp [cmdB, hzd, hzs, hitem, hzq]
      clear hzd hitem
      subst hzs
      subst hzq
      go_enter Try.func10, Try.ntmps10
      go_wp2_with (first | (go_at_call 26; refine (l3Item _ (by first | exact hs | exact Nat.zero_le _) _).mono ?_; rintro e w' ⟨rfl, rfl⟩; (first | rw [Hitem.out] | skip)) | (go_at_call 27; refine (l1In _ _ _ _).mono ?_; rintro e w' ⟨rfl, rfl⟩; skip) | (go_at_call 28; refine (l3Dev _ _).mono ?_; rintro e w' ⟨rfl, rfl⟩; skip))
      go_ret
      exact ⟨by rw [HE.out]; rfl, (Below.refl _ _).alloc (Nat.le_refl _) _⟩
    · have bzs : (seq == 0) = false := by rw [beq_eq_false_iff_ne]; exact hzs
      rcases hitem : itemB item with _ | _
      · have Hitem := Lib.hid hitem
        have HE : Hid (cmdB 5 item qty dev seq = false) := by show _ = _; simp [cmdB, hzd, hzs, hitem]
        clear hzd hzs hitem
        go_enter Try.func10, Try.ntmps10
        go_wp2_with (first | (go_at_call 26; refine (l3Item _ (by first | exact hs | exact Nat.zero_le _) _).mono ?_; rintro e w' ⟨rfl, rfl⟩; (first | rw [Hitem.out] | skip)) | (go_at_call 27; refine (l1In _ _ _ _).mono ?_; rintro e w' ⟨rfl, rfl⟩; skip) | (go_at_call 28; refine (l3Dev _ _).mono ?_; rintro e w' ⟨rfl, rfl⟩; skip))
        go_ret
        exact ⟨by rw [HE.out]; rfl, (Below.refl _ _).alloc (Nat.le_refl _) _⟩
      have Hitem := Lib.hid hitem
      by_cases hzq : qty = 0
      rotate_left
      · have bzq : (qty == 0) = false := by rw [beq_eq_false_iff_ne]; exact hzq
        have HE : Hid (cmdB 5 item qty dev seq = false) := by show _ = _; simp [cmdB, hzd, hzs, hitem, hzq]
        clear hzd hzs hitem hzq
        go_enter Try.func10, Try.ntmps10
        go_wp2_with (first | (go_at_call 26; refine (l3Item _ (by first | exact hs | exact Nat.zero_le _) _).mono ?_; rintro e w' ⟨rfl, rfl⟩; (first | rw [Hitem.out] | skip)) | (go_at_call 27; refine (l1In _ _ _ _).mono ?_; rintro e w' ⟨rfl, rfl⟩; skip) | (go_at_call 28; refine (l3Dev _ _).mono ?_; rintro e w' ⟨rfl, rfl⟩; skip))
        go_ret
        exact ⟨by rw [HE.out]; rfl, (Below.refl _ _).alloc (Nat.le_refl _) _⟩
      have HE : Hid (cmdB 5 item qty dev seq = false) := by show _ = _; simp [cmdB, hzd, hzs, hitem, hzq]
      clear hzd hzs hitem
      subst hzq
      go_enter Try.func10, Try.ntmps10
      go_wp2_with (first | (go_at_call 26; refine (l3Item _ (by first | exact hs | exact Nat.zero_le _) _).mono ?_; rintro e w' ⟨rfl, rfl⟩; (first | rw [Hitem.out] | skip)) | (go_at_call 27; refine (l1In _ _ _ _).mono ?_; rintro e w' ⟨rfl, rfl⟩; skip) | (go_at_call 28; refine (l3Dev _ _).mono ?_; rintro e w' ⟨rfl, rfl⟩; skip))
      go_ret
      exact ⟨by rw [HE.out]; rfl, (Below.refl _ _).alloc (Nat.le_refl _) _⟩
end Go.Proofs.Ytideaompdbdbhaa
