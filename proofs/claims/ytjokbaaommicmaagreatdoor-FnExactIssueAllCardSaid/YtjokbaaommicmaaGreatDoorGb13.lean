/- Walks and mathematics that several claims share, part 13. -/
import Derived.Test.YtjokbaaommicmaaGreatDoorGb11
import Derived.Deep.Cut
import Derived.Test.YtjokbaaommicmaaGreatDoorGbA
namespace Go.Proofs.YtjokbaaommicmaaGreatDoor
set_option maxRecDepth 100000
open Go.RowKit

def cmdB (kind : Int) (item : ByteArray) (qty dev seq : Int) : Bool :=
 if kind = 1 ∨ kind = 2 then itemB item && (inB qty 1 999 && decide (dev = 0 ∧ seq = 0))
 else if kind = 3 ∨ kind = 4 ∨ kind = 5 then itemB item && decide (qty = 0 ∧ dev = 0 ∧ seq = 0)
 else if kind = 6 ∨ kind = 7 ∨ kind = 8 then decide (item = ⟨#[]⟩ ∧ qty = 0 ∧ dev = 0 ∧ seq = 0)
 else if kind = 9 then decide (item = ⟨#[]⟩ ∧ qty = 0) && (inB dev 0 3 && inB seq 1 40)
 else false
theorem no_text {s : ByteArray} (h : ¬ s = ⟨#[]⟩) : s.toList ≠ [] := fun e => h (by
 rw [Lib.toList_data] at e
 exact ByteArray.ext (Array.toList_eq_nil_iff.1 e))
theorem cmdDevice (dev : Int) (w : World) : Calls Tryz.prog 46 #[.int .i64 dev] w fun e w' => e = .returned (.bool (inB dev 0 3)) ∧ w = w' := by
 go_enter Tryz.func46, Tryz.ntmps46
 go_wp2_with fail
 refine (inRange _ _ _ _).mono ?_
 rintro e w' ⟨rfl, rfl⟩
 go_wp2
 go_ret
 exact ⟨rfl, rfl⟩

set_option maxHeartbeats 10000000 in
theorem implCmd1 (item : ByteArray) (qty dev seq : Int) (w : World) : Calls Tryz.prog 28 #[.agg #[.int .i64 1, .string item, .int .i64 qty, .int .i64 dev, .int .i64 seq]] w fun e w' => e = .returned (.bool (cmdB 1 item qty dev seq)) ∧ Below w.heap.size w w' := by
 rcases hitem : itemB item with _ | _
 ·have Hitem := Lib.hid hitem
  have HE : Hid (cmdB 1 item qty dev seq = false) := by show _ = _; simp [cmdB, hitem]
  clear hitem
  go_enter Tryz.func28, Tryz.ntmps28
  go_wp2_with (first | (go_at_call 58; refine (implItem _ _).mono ?_; rintro e w' ⟨rfl, rfl⟩; (first | rw [Hitem.out] | skip)) | (go_at_call 59; refine (inRange _ _ _ _).mono ?_; rintro e w' ⟨rfl, rfl⟩; skip) | (go_at_call 46; refine (cmdDevice _ _).mono ?_; rintro e w' ⟨rfl, rfl⟩; skip))
  go_ret
  exact ⟨by rw [HE.out]; rfl, bl⟩
 have Hitem := Lib.hid hitem
 rcases hq : inB qty 1 999 with _ | _
 ·have Hq := Lib.hid hq
  have HE : Hid (cmdB 1 item qty dev seq = false) := by show _ = _; simp [cmdB, hitem, hq]
  clear hitem hq
  go_enter Tryz.func28, Tryz.ntmps28
  go_wp2_with (first | (go_at_call 58; refine (implItem _ _).mono ?_; rintro e w' ⟨rfl, rfl⟩; (first | rw [Hitem.out] | skip)) | (go_at_call 59; refine (inRange _ _ _ _).mono ?_; rintro e w' ⟨rfl, rfl⟩; (first | rw [Hq.out] | skip)) | (go_at_call 46; refine (cmdDevice _ _).mono ?_; rintro e w' ⟨rfl, rfl⟩; skip))
  go_ret
  exact ⟨by rw [HE.out]; rfl, bl⟩
 have Hq := Lib.hid hq
 by_cases hzd : dev = 0
 rotate_left
 ·have bzd : (dev == 0) = false := by rw [beq_eq_false_iff_ne]; exact hzd
  have HE : Hid (cmdB 1 item qty dev seq = false) := by show _ = _; simp [cmdB, hitem, hq, hzd]
  clear hitem hq hzd
  go_enter Tryz.func28, Tryz.ntmps28
  go_wp2_with (first | (go_at_call 58; refine (implItem _ _).mono ?_; rintro e w' ⟨rfl, rfl⟩; (first | rw [Hitem.out] | skip)) | (go_at_call 59; refine (inRange _ _ _ _).mono ?_; rintro e w' ⟨rfl, rfl⟩; (first | rw [Hq.out] | skip)) | (go_at_call 46; refine (cmdDevice _ _).mono ?_; rintro e w' ⟨rfl, rfl⟩; skip))
  go_ret
  exact ⟨by rw [HE.out]; rfl, bl⟩
 by_cases hzs : seq = 0
 rotate_left
 ·have bzs : (seq == 0) = false := by rw [beq_eq_false_iff_ne]; exact hzs
  have HE : Hid (cmdB 1 item qty dev seq = false) := by show _ = _; simp [cmdB, hitem, hq, hzd, hzs]
  clear hitem hq hzs
  subst hzd
  go_enter Tryz.func28, Tryz.ntmps28
  go_wp2_with (first | (go_at_call 58; refine (implItem _ _).mono ?_; rintro e w' ⟨rfl, rfl⟩; (first | rw [Hitem.out] | skip)) | (go_at_call 59; refine (inRange _ _ _ _).mono ?_; rintro e w' ⟨rfl, rfl⟩; (first | rw [Hq.out] | skip)) | (go_at_call 46; refine (cmdDevice _ _).mono ?_; rintro e w' ⟨rfl, rfl⟩; skip))
  go_ret
  exact ⟨by rw [HE.out]; rfl, bl⟩
 have HE : Hid (cmdB 1 item qty dev seq = true) := by show _ = _; simp [cmdB, hitem, hq, hzd, hzs]
 clear hitem hq
 subst hzd
 subst hzs
 go_enter Tryz.func28, Tryz.ntmps28
 go_wp2_with (first | (go_at_call 58; refine (implItem _ _).mono ?_; rintro e w' ⟨rfl, rfl⟩; (first | rw [Hitem.out] | skip)) | (go_at_call 59; refine (inRange _ _ _ _).mono ?_; rintro e w' ⟨rfl, rfl⟩; (first | rw [Hq.out] | skip)) | (go_at_call 46; refine (cmdDevice _ _).mono ?_; rintro e w' ⟨rfl, rfl⟩; skip))
 go_ret
 exact ⟨by rw [HE.out]; rfl, bl⟩
set_option maxHeartbeats 10000000 in
theorem implCmd2 (item : ByteArray) (qty dev seq : Int) (w : World) : Calls Tryz.prog 28 #[.agg #[.int .i64 2, .string item, .int .i64 qty, .int .i64 dev, .int .i64 seq]] w fun e w' => e = .returned (.bool (cmdB 2 item qty dev seq)) ∧ Below w.heap.size w w' := by
 rcases hitem : itemB item with _ | _
 ·have Hitem := Lib.hid hitem
  have HE : Hid (cmdB 2 item qty dev seq = false) := by show _ = _; simp [cmdB, hitem]
  clear hitem
  go_enter Tryz.func28, Tryz.ntmps28
  go_wp2_with (first | (go_at_call 58; refine (implItem _ _).mono ?_; rintro e w' ⟨rfl, rfl⟩; (first | rw [Hitem.out] | skip)) | (go_at_call 59; refine (inRange _ _ _ _).mono ?_; rintro e w' ⟨rfl, rfl⟩; skip) | (go_at_call 46; refine (cmdDevice _ _).mono ?_; rintro e w' ⟨rfl, rfl⟩; skip))
  go_ret
  exact ⟨by rw [HE.out]; rfl, bl⟩
 have Hitem := Lib.hid hitem
 rcases hq : inB qty 1 999 with _ | _
 ·have Hq := Lib.hid hq
  have HE : Hid (cmdB 2 item qty dev seq = false) := by show _ = _; simp [cmdB, hitem, hq]
  clear hitem hq
  go_enter Tryz.func28, Tryz.ntmps28
  go_wp2_with (first | (go_at_call 58; refine (implItem _ _).mono ?_; rintro e w' ⟨rfl, rfl⟩; (first | rw [Hitem.out] | skip)) | (go_at_call 59; refine (inRange _ _ _ _).mono ?_; rintro e w' ⟨rfl, rfl⟩; (first | rw [Hq.out] | skip)) | (go_at_call 46; refine (cmdDevice _ _).mono ?_; rintro e w' ⟨rfl, rfl⟩; skip))
  go_ret
  exact ⟨by rw [HE.out]; rfl, bl⟩
 have Hq := Lib.hid hq
 by_cases hzd : dev = 0
 rotate_left
 ·have bzd : (dev == 0) = false := by rw [beq_eq_false_iff_ne]; exact hzd
  have HE : Hid (cmdB 2 item qty dev seq = false) := by show _ = _; simp [cmdB, hitem, hq, hzd]
  clear hitem hq hzd
  go_enter Tryz.func28, Tryz.ntmps28
  go_wp2_with (first | (go_at_call 58; refine (implItem _ _).mono ?_; rintro e w' ⟨rfl, rfl⟩; (first | rw [Hitem.out] | skip)) | (go_at_call 59; refine (inRange _ _ _ _).mono ?_; rintro e w' ⟨rfl, rfl⟩; (first | rw [Hq.out] | skip)) | (go_at_call 46; refine (cmdDevice _ _).mono ?_; rintro e w' ⟨rfl, rfl⟩; skip))
  go_ret
  exact ⟨by rw [HE.out]; rfl, bl⟩
 by_cases hzs : seq = 0
 rotate_left
 ·have bzs : (seq == 0) = false := by rw [beq_eq_false_iff_ne]; exact hzs
  have HE : Hid (cmdB 2 item qty dev seq = false) := by show _ = _; simp [cmdB, hitem, hq, hzd, hzs]
  clear hitem hq hzs
  subst hzd
  go_enter Tryz.func28, Tryz.ntmps28
  go_wp2_with (first | (go_at_call 58; refine (implItem _ _).mono ?_; rintro e w' ⟨rfl, rfl⟩; (first | rw [Hitem.out] | skip)) | (go_at_call 59; refine (inRange _ _ _ _).mono ?_; rintro e w' ⟨rfl, rfl⟩; (first | rw [Hq.out] | skip)) | (go_at_call 46; refine (cmdDevice _ _).mono ?_; rintro e w' ⟨rfl, rfl⟩; skip))
  go_ret
  exact ⟨by rw [HE.out]; rfl, bl⟩
 have HE : Hid (cmdB 2 item qty dev seq = true) := by show _ = _; simp [cmdB, hitem, hq, hzd, hzs]
 clear hitem hq
 subst hzd
 subst hzs
 go_enter Tryz.func28, Tryz.ntmps28
 go_wp2_with (first | (go_at_call 58; refine (implItem _ _).mono ?_; rintro e w' ⟨rfl, rfl⟩; (first | rw [Hitem.out] | skip)) | (go_at_call 59; refine (inRange _ _ _ _).mono ?_; rintro e w' ⟨rfl, rfl⟩; (first | rw [Hq.out] | skip)) | (go_at_call 46; refine (cmdDevice _ _).mono ?_; rintro e w' ⟨rfl, rfl⟩; skip))
 go_ret
 exact ⟨by rw [HE.out]; rfl, bl⟩
set_option maxHeartbeats 10000000 in
theorem implCmd3 (item : ByteArray) (qty dev seq : Int) (w : World) : Calls Tryz.prog 28 #[.agg #[.int .i64 3, .string item, .int .i64 qty, .int .i64 dev, .int .i64 seq]] w fun e w' => e = .returned (.bool (cmdB 3 item qty dev seq)) ∧ Below w.heap.size w w' := by
 rcases hitem : itemB item with _ | _
 ·have Hitem := Lib.hid hitem
  have HE : Hid (cmdB 3 item qty dev seq = false) := by show _ = _; simp [cmdB, hitem]
  clear hitem
  go_enter Tryz.func28, Tryz.ntmps28
  go_wp2_with (first | (go_at_call 58; refine (implItem _ _).mono ?_; rintro e w' ⟨rfl, rfl⟩; (first | rw [Hitem.out] | skip)) | (go_at_call 59; refine (inRange _ _ _ _).mono ?_; rintro e w' ⟨rfl, rfl⟩; skip) | (go_at_call 46; refine (cmdDevice _ _).mono ?_; rintro e w' ⟨rfl, rfl⟩; skip))
  go_ret
  exact ⟨by rw [HE.out]; rfl, bl⟩
 have Hitem := Lib.hid hitem
 by_cases hzq : qty = 0
 rotate_left
 ·have bzq : (qty == 0) = false := by rw [beq_eq_false_iff_ne]; exact hzq
  have HE : Hid (cmdB 3 item qty dev seq = false) := by show _ = _; simp [cmdB, hitem, hzq]
  clear hitem hzq
  go_enter Tryz.func28, Tryz.ntmps28
  go_wp2_with (first | (go_at_call 58; refine (implItem _ _).mono ?_; rintro e w' ⟨rfl, rfl⟩; (first | rw [Hitem.out] | skip)) | (go_at_call 59; refine (inRange _ _ _ _).mono ?_; rintro e w' ⟨rfl, rfl⟩; skip) | (go_at_call 46; refine (cmdDevice _ _).mono ?_; rintro e w' ⟨rfl, rfl⟩; skip))
  go_ret
  exact ⟨by rw [HE.out]; rfl, bl⟩
 by_cases hzd : dev = 0
 rotate_left
 ·have bzd : (dev == 0) = false := by rw [beq_eq_false_iff_ne]; exact hzd
  have HE : Hid (cmdB 3 item qty dev seq = false) := by show _ = _; simp [cmdB, hitem, hzq, hzd]
  clear hitem hzd
  subst hzq
  go_enter Tryz.func28, Tryz.ntmps28
  go_wp2_with (first | (go_at_call 58; refine (implItem _ _).mono ?_; rintro e w' ⟨rfl, rfl⟩; (first | rw [Hitem.out] | skip)) | (go_at_call 59; refine (inRange _ _ _ _).mono ?_; rintro e w' ⟨rfl, rfl⟩; skip) | (go_at_call 46; refine (cmdDevice _ _).mono ?_; rintro e w' ⟨rfl, rfl⟩; skip))
  go_ret
  exact ⟨by rw [HE.out]; rfl, bl⟩
 by_cases hzs : seq = 0
 rotate_left
 ·have bzs : (seq == 0) = false := by rw [beq_eq_false_iff_ne]; exact hzs
  have HE : Hid (cmdB 3 item qty dev seq = false) := by show _ = _; simp [cmdB, hitem, hzq, hzd, hzs]
  clear hitem hzs
  subst hzq
  subst hzd
  go_enter Tryz.func28, Tryz.ntmps28
  go_wp2_with (first | (go_at_call 58; refine (implItem _ _).mono ?_; rintro e w' ⟨rfl, rfl⟩; (first | rw [Hitem.out] | skip)) | (go_at_call 59; refine (inRange _ _ _ _).mono ?_; rintro e w' ⟨rfl, rfl⟩; skip) | (go_at_call 46; refine (cmdDevice _ _).mono ?_; rintro e w' ⟨rfl, rfl⟩; skip))
  go_ret
  exact ⟨by rw [HE.out]; rfl, bl⟩
 have HE : Hid (cmdB 3 item qty dev seq = true) := by show _ = _; simp [cmdB, hitem, hzq, hzd, hzs]
 clear hitem
 subst hzq
 subst hzd
 subst hzs
 go_enter Tryz.func28, Tryz.ntmps28
 go_wp2_with (first | (go_at_call 58; refine (implItem _ _).mono ?_; rintro e w' ⟨rfl, rfl⟩; (first | rw [Hitem.out] | skip)) | (go_at_call 59; refine (inRange _ _ _ _).mono ?_; rintro e w' ⟨rfl, rfl⟩; skip) | (go_at_call 46; refine (cmdDevice _ _).mono ?_; rintro e w' ⟨rfl, rfl⟩; skip))
 go_ret
 exact ⟨by rw [HE.out]; rfl, bl⟩
set_option maxHeartbeats 10000000 in
theorem implCmd4 (item : ByteArray) (qty dev seq : Int) (w : World) : Calls Tryz.prog 28 #[.agg #[.int .i64 4, .string item, .int .i64 qty, .int .i64 dev, .int .i64 seq]] w fun e w' => e = .returned (.bool (cmdB 4 item qty dev seq)) ∧ Below w.heap.size w w' := by
 rcases hitem : itemB item with _ | _
 ·have Hitem := Lib.hid hitem
  have HE : Hid (cmdB 4 item qty dev seq = false) := by show _ = _; simp [cmdB, hitem]
  clear hitem
  go_enter Tryz.func28, Tryz.ntmps28
  go_wp2_with (first | (go_at_call 58; refine (implItem _ _).mono ?_; rintro e w' ⟨rfl, rfl⟩; (first | rw [Hitem.out] | skip)) | (go_at_call 59; refine (inRange _ _ _ _).mono ?_; rintro e w' ⟨rfl, rfl⟩; skip) | (go_at_call 46; refine (cmdDevice _ _).mono ?_; rintro e w' ⟨rfl, rfl⟩; skip))
  go_ret
  exact ⟨by rw [HE.out]; rfl, bl⟩
 have Hitem := Lib.hid hitem
 by_cases hzq : qty = 0
 rotate_left
 ·have bzq : (qty == 0) = false := by rw [beq_eq_false_iff_ne]; exact hzq
  have HE : Hid (cmdB 4 item qty dev seq = false) := by show _ = _; simp [cmdB, hitem, hzq]
  clear hitem hzq
  go_enter Tryz.func28, Tryz.ntmps28
  go_wp2_with (first | (go_at_call 58; refine (implItem _ _).mono ?_; rintro e w' ⟨rfl, rfl⟩; (first | rw [Hitem.out] | skip)) | (go_at_call 59; refine (inRange _ _ _ _).mono ?_; rintro e w' ⟨rfl, rfl⟩; skip) | (go_at_call 46; refine (cmdDevice _ _).mono ?_; rintro e w' ⟨rfl, rfl⟩; skip))
  go_ret
  exact ⟨by rw [HE.out]; rfl, bl⟩
 by_cases hzd : dev = 0
 rotate_left
 ·have bzd : (dev == 0) = false := by rw [beq_eq_false_iff_ne]; exact hzd
  have HE : Hid (cmdB 4 item qty dev seq = false) := by show _ = _; simp [cmdB, hitem, hzq, hzd]
  clear hitem hzd
  subst hzq
  go_enter Tryz.func28, Tryz.ntmps28
  go_wp2_with (first | (go_at_call 58; refine (implItem _ _).mono ?_; rintro e w' ⟨rfl, rfl⟩; (first | rw [Hitem.out] | skip)) | (go_at_call 59; refine (inRange _ _ _ _).mono ?_; rintro e w' ⟨rfl, rfl⟩; skip) | (go_at_call 46; refine (cmdDevice _ _).mono ?_; rintro e w' ⟨rfl, rfl⟩; skip))
  go_ret
  exact ⟨by rw [HE.out]; rfl, bl⟩
 by_cases hzs : seq = 0
 rotate_left
 ·have bzs : (seq == 0) = false := by rw [beq_eq_false_iff_ne]; exact hzs
  have HE : Hid (cmdB 4 item qty dev seq = false) := by show _ = _; simp [cmdB, hitem, hzq, hzd, hzs]
  clear hitem hzs
  subst hzq
  subst hzd
  go_enter Tryz.func28, Tryz.ntmps28
  go_wp2_with (first | (go_at_call 58; refine (implItem _ _).mono ?_; rintro e w' ⟨rfl, rfl⟩; (first | rw [Hitem.out] | skip)) | (go_at_call 59; refine (inRange _ _ _ _).mono ?_; rintro e w' ⟨rfl, rfl⟩; skip) | (go_at_call 46; refine (cmdDevice _ _).mono ?_; rintro e w' ⟨rfl, rfl⟩; skip))
  go_ret
  exact ⟨by rw [HE.out]; rfl, bl⟩
 have HE : Hid (cmdB 4 item qty dev seq = true) := by show _ = _; simp [cmdB, hitem, hzq, hzd, hzs]
 clear hitem
 subst hzq
 subst hzd
 subst hzs
 go_enter Tryz.func28, Tryz.ntmps28
 go_wp2_with (first | (go_at_call 58; refine (implItem _ _).mono ?_; rintro e w' ⟨rfl, rfl⟩; (first | rw [Hitem.out] | skip)) | (go_at_call 59; refine (inRange _ _ _ _).mono ?_; rintro e w' ⟨rfl, rfl⟩; skip) | (go_at_call 46; refine (cmdDevice _ _).mono ?_; rintro e w' ⟨rfl, rfl⟩; skip))
 go_ret
 exact ⟨by rw [HE.out]; rfl, bl⟩
set_option maxHeartbeats 10000000 in
theorem implCmd5 (item : ByteArray) (qty dev seq : Int) (w : World) : Calls Tryz.prog 28 #[.agg #[.int .i64 5, .string item, .int .i64 qty, .int .i64 dev, .int .i64 seq]] w fun e w' => e = .returned (.bool (cmdB 5 item qty dev seq)) ∧ Below w.heap.size w w' := by
 rcases hitem : itemB item with _ | _
 ·have Hitem := Lib.hid hitem
  have HE : Hid (cmdB 5 item qty dev seq = false) := by show _ = _; simp [cmdB, hitem]
  clear hitem
  go_enter Tryz.func28, Tryz.ntmps28
  go_wp2_with (first | (go_at_call 58; refine (implItem _ _).mono ?_; rintro e w' ⟨rfl, rfl⟩; (first | rw [Hitem.out] | skip)) | (go_at_call 59; refine (inRange _ _ _ _).mono ?_; rintro e w' ⟨rfl, rfl⟩; skip) | (go_at_call 46; refine (cmdDevice _ _).mono ?_; rintro e w' ⟨rfl, rfl⟩; skip))
  go_ret
  exact ⟨by rw [HE.out]; rfl, bl⟩
 have Hitem := Lib.hid hitem
 by_cases hzq : qty = 0
 rotate_left
 ·have bzq : (qty == 0) = false := by rw [beq_eq_false_iff_ne]; exact hzq
  have HE : Hid (cmdB 5 item qty dev seq = false) := by show _ = _; simp [cmdB, hitem, hzq]
  clear hitem hzq
  go_enter Tryz.func28, Tryz.ntmps28
  go_wp2_with (first | (go_at_call 58; refine (implItem _ _).mono ?_; rintro e w' ⟨rfl, rfl⟩; (first | rw [Hitem.out] | skip)) | (go_at_call 59; refine (inRange _ _ _ _).mono ?_; rintro e w' ⟨rfl, rfl⟩; skip) | (go_at_call 46; refine (cmdDevice _ _).mono ?_; rintro e w' ⟨rfl, rfl⟩; skip))
  go_ret
  exact ⟨by rw [HE.out]; rfl, bl⟩
 by_cases hzd : dev = 0
 rotate_left
 ·have bzd : (dev == 0) = false := by rw [beq_eq_false_iff_ne]; exact hzd
  have HE : Hid (cmdB 5 item qty dev seq = false) := by show _ = _; simp [cmdB, hitem, hzq, hzd]
  clear hitem hzd
  subst hzq
  go_enter Tryz.func28, Tryz.ntmps28
  go_wp2_with (first | (go_at_call 58; refine (implItem _ _).mono ?_; rintro e w' ⟨rfl, rfl⟩; (first | rw [Hitem.out] | skip)) | (go_at_call 59; refine (inRange _ _ _ _).mono ?_; rintro e w' ⟨rfl, rfl⟩; skip) | (go_at_call 46; refine (cmdDevice _ _).mono ?_; rintro e w' ⟨rfl, rfl⟩; skip))
  go_ret
  exact ⟨by rw [HE.out]; rfl, bl⟩
 by_cases hzs : seq = 0
 rotate_left
 ·have bzs : (seq == 0) = false := by rw [beq_eq_false_iff_ne]; exact hzs
  have HE : Hid (cmdB 5 item qty dev seq = false) := by show _ = _; simp [cmdB, hitem, hzq, hzd, hzs]
  clear hitem hzs
  subst hzq
  subst hzd
  go_enter Tryz.func28, Tryz.ntmps28
  go_wp2_with (first | (go_at_call 58; refine (implItem _ _).mono ?_; rintro e w' ⟨rfl, rfl⟩; (first | rw [Hitem.out] | skip)) | (go_at_call 59; refine (inRange _ _ _ _).mono ?_; rintro e w' ⟨rfl, rfl⟩; skip) | (go_at_call 46; refine (cmdDevice _ _).mono ?_; rintro e w' ⟨rfl, rfl⟩; skip))
  go_ret
  exact ⟨by rw [HE.out]; rfl, bl⟩
 have HE : Hid (cmdB 5 item qty dev seq = true) := by show _ = _; simp [cmdB, hitem, hzq, hzd, hzs]
 clear hitem
 subst hzq
 subst hzd
 subst hzs
 go_enter Tryz.func28, Tryz.ntmps28
 go_wp2_with (first | (go_at_call 58; refine (implItem _ _).mono ?_; rintro e w' ⟨rfl, rfl⟩; (first | rw [Hitem.out] | skip)) | (go_at_call 59; refine (inRange _ _ _ _).mono ?_; rintro e w' ⟨rfl, rfl⟩; skip) | (go_at_call 46; refine (cmdDevice _ _).mono ?_; rintro e w' ⟨rfl, rfl⟩; skip))
 go_ret
 exact ⟨by rw [HE.out]; rfl, bl⟩
set_option maxHeartbeats 10000000 in
theorem implCmd6 (item : ByteArray) (qty dev seq : Int) (w : World) : Calls Tryz.prog 28 #[.agg #[.int .i64 6, .string item, .int .i64 qty, .int .i64 dev, .int .i64 seq]] w fun e w' => e = .returned (.bool (cmdB 6 item qty dev seq)) ∧ Below w.heap.size w w' := by
 by_cases he : item = ⟨#[]⟩
 rotate_left
 ·have hn1 := no_text he
  have hn2 : item.toList.isEmpty = false := by rw [List.isEmpty_eq_false_iff]; exact hn1
  have hn3 : (item.toList == []) = false := by rw [beq_eq_false_iff_ne]; exact hn1
  have HE : Hid (cmdB 6 item qty dev seq = false) := by show _ = _; simp [cmdB, he]
  clear he
  go_enter Tryz.func28, Tryz.ntmps28
  go_wp2_with (first | (go_at_call 58; refine (implItem _ _).mono ?_; rintro e w' ⟨rfl, rfl⟩; skip) | (go_at_call 59; refine (inRange _ _ _ _).mono ?_; rintro e w' ⟨rfl, rfl⟩; skip) | (go_at_call 46; refine (cmdDevice _ _).mono ?_; rintro e w' ⟨rfl, rfl⟩; skip))
  go_ret
  exact ⟨by rw [HE.out]; rfl, bl⟩
 by_cases hzq : qty = 0
 rotate_left
 ·have bzq : (qty == 0) = false := by rw [beq_eq_false_iff_ne]; exact hzq
  have HE : Hid (cmdB 6 item qty dev seq = false) := by show _ = _; simp [cmdB, he, hzq]
  clear hzq
  subst he
  go_enter Tryz.func28, Tryz.ntmps28
  go_wp2_with (first | (go_at_call 58; refine (implItem _ _).mono ?_; rintro e w' ⟨rfl, rfl⟩; skip) | (go_at_call 59; refine (inRange _ _ _ _).mono ?_; rintro e w' ⟨rfl, rfl⟩; skip) | (go_at_call 46; refine (cmdDevice _ _).mono ?_; rintro e w' ⟨rfl, rfl⟩; skip))
  go_ret
  exact ⟨by rw [HE.out]; rfl, bl⟩
 by_cases hzd : dev = 0
 rotate_left
 ·have bzd : (dev == 0) = false := by rw [beq_eq_false_iff_ne]; exact hzd
  have HE : Hid (cmdB 6 item qty dev seq = false) := by show _ = _; simp [cmdB, he, hzq, hzd]
  clear hzd
  subst he
  subst hzq
  go_enter Tryz.func28, Tryz.ntmps28
  go_wp2_with (first | (go_at_call 58; refine (implItem _ _).mono ?_; rintro e w' ⟨rfl, rfl⟩; skip) | (go_at_call 59; refine (inRange _ _ _ _).mono ?_; rintro e w' ⟨rfl, rfl⟩; skip) | (go_at_call 46; refine (cmdDevice _ _).mono ?_; rintro e w' ⟨rfl, rfl⟩; skip))
  go_ret
  exact ⟨by rw [HE.out]; rfl, bl⟩
 by_cases hzs : seq = 0
 rotate_left
 ·have bzs : (seq == 0) = false := by rw [beq_eq_false_iff_ne]; exact hzs
  have HE : Hid (cmdB 6 item qty dev seq = false) := by show _ = _; simp [cmdB, he, hzq, hzd, hzs]
  clear hzs
  subst he
  subst hzq
  subst hzd
  go_enter Tryz.func28, Tryz.ntmps28
  go_wp2_with (first | (go_at_call 58; refine (implItem _ _).mono ?_; rintro e w' ⟨rfl, rfl⟩; skip) | (go_at_call 59; refine (inRange _ _ _ _).mono ?_; rintro e w' ⟨rfl, rfl⟩; skip) | (go_at_call 46; refine (cmdDevice _ _).mono ?_; rintro e w' ⟨rfl, rfl⟩; skip))
  go_ret
  exact ⟨by rw [HE.out]; rfl, bl⟩
 have HE : Hid (cmdB 6 item qty dev seq = true) := by show _ = _; simp [cmdB, he, hzq, hzd, hzs]
 subst he
 subst hzq
 subst hzd
 subst hzs
 go_enter Tryz.func28, Tryz.ntmps28
 go_wp2_with (first | (go_at_call 58; refine (implItem _ _).mono ?_; rintro e w' ⟨rfl, rfl⟩; skip) | (go_at_call 59; refine (inRange _ _ _ _).mono ?_; rintro e w' ⟨rfl, rfl⟩; skip) | (go_at_call 46; refine (cmdDevice _ _).mono ?_; rintro e w' ⟨rfl, rfl⟩; skip))
 go_ret
 exact ⟨by rw [HE.out]; rfl, bl⟩
set_option maxHeartbeats 10000000 in
theorem implCmd7 (item : ByteArray) (qty dev seq : Int) (w : World) : Calls Tryz.prog 28 #[.agg #[.int .i64 7, .string item, .int .i64 qty, .int .i64 dev, .int .i64 seq]] w fun e w' => e = .returned (.bool (cmdB 7 item qty dev seq)) ∧ Below w.heap.size w w' := by
 by_cases he : item = ⟨#[]⟩
 rotate_left
 ·have hn1 := no_text he
  have hn2 : item.toList.isEmpty = false := by rw [List.isEmpty_eq_false_iff]; exact hn1
  have hn3 : (item.toList == []) = false := by rw [beq_eq_false_iff_ne]; exact hn1
  have HE : Hid (cmdB 7 item qty dev seq = false) := by show _ = _; simp [cmdB, he]
  clear he
  go_enter Tryz.func28, Tryz.ntmps28
  go_wp2_with (first | (go_at_call 58; refine (implItem _ _).mono ?_; rintro e w' ⟨rfl, rfl⟩; skip) | (go_at_call 59; refine (inRange _ _ _ _).mono ?_; rintro e w' ⟨rfl, rfl⟩; skip) | (go_at_call 46; refine (cmdDevice _ _).mono ?_; rintro e w' ⟨rfl, rfl⟩; skip))
  go_ret
  exact ⟨by rw [HE.out]; rfl, bl⟩
 by_cases hzq : qty = 0
 rotate_left
 ·have bzq : (qty == 0) = false := by rw [beq_eq_false_iff_ne]; exact hzq
  have HE : Hid (cmdB 7 item qty dev seq = false) := by show _ = _; simp [cmdB, he, hzq]
  clear hzq
  subst he
  go_enter Tryz.func28, Tryz.ntmps28
  go_wp2_with (first | (go_at_call 58; refine (implItem _ _).mono ?_; rintro e w' ⟨rfl, rfl⟩; skip) | (go_at_call 59; refine (inRange _ _ _ _).mono ?_; rintro e w' ⟨rfl, rfl⟩; skip) | (go_at_call 46; refine (cmdDevice _ _).mono ?_; rintro e w' ⟨rfl, rfl⟩; skip))
  go_ret
  exact ⟨by rw [HE.out]; rfl, bl⟩
 by_cases hzd : dev = 0
 rotate_left
 ·have bzd : (dev == 0) = false := by rw [beq_eq_false_iff_ne]; exact hzd
  have HE : Hid (cmdB 7 item qty dev seq = false) := by show _ = _; simp [cmdB, he, hzq, hzd]
  clear hzd
  subst he
  subst hzq
  go_enter Tryz.func28, Tryz.ntmps28
  go_wp2_with (first | (go_at_call 58; refine (implItem _ _).mono ?_; rintro e w' ⟨rfl, rfl⟩; skip) | (go_at_call 59; refine (inRange _ _ _ _).mono ?_; rintro e w' ⟨rfl, rfl⟩; skip) | (go_at_call 46; refine (cmdDevice _ _).mono ?_; rintro e w' ⟨rfl, rfl⟩; skip))
  go_ret
  exact ⟨by rw [HE.out]; rfl, bl⟩
 by_cases hzs : seq = 0
 rotate_left
 ·have bzs : (seq == 0) = false := by rw [beq_eq_false_iff_ne]; exact hzs
  have HE : Hid (cmdB 7 item qty dev seq = false) := by show _ = _; simp [cmdB, he, hzq, hzd, hzs]
  clear hzs
  subst he
  subst hzq
  subst hzd
  go_enter Tryz.func28, Tryz.ntmps28
  go_wp2_with (first | (go_at_call 58; refine (implItem _ _).mono ?_; rintro e w' ⟨rfl, rfl⟩; skip) | (go_at_call 59; refine (inRange _ _ _ _).mono ?_; rintro e w' ⟨rfl, rfl⟩; skip) | (go_at_call 46; refine (cmdDevice _ _).mono ?_; rintro e w' ⟨rfl, rfl⟩; skip))
  go_ret
  exact ⟨by rw [HE.out]; rfl, bl⟩
 have HE : Hid (cmdB 7 item qty dev seq = true) := by show _ = _; simp [cmdB, he, hzq, hzd, hzs]
 subst he
 subst hzq
 subst hzd
 subst hzs
 go_enter Tryz.func28, Tryz.ntmps28
 go_wp2_with (first | (go_at_call 58; refine (implItem _ _).mono ?_; rintro e w' ⟨rfl, rfl⟩; skip) | (go_at_call 59; refine (inRange _ _ _ _).mono ?_; rintro e w' ⟨rfl, rfl⟩; skip) | (go_at_call 46; refine (cmdDevice _ _).mono ?_; rintro e w' ⟨rfl, rfl⟩; skip))
 go_ret
 exact ⟨by rw [HE.out]; rfl, bl⟩
set_option maxHeartbeats 10000000 in
theorem implCmd8 (item : ByteArray) (qty dev seq : Int) (w : World) : Calls Tryz.prog 28 #[.agg #[.int .i64 8, .string item, .int .i64 qty, .int .i64 dev, .int .i64 seq]] w fun e w' => e = .returned (.bool (cmdB 8 item qty dev seq)) ∧ Below w.heap.size w w' := by
 by_cases he : item = ⟨#[]⟩
 rotate_left
 ·have hn1 := no_text he
  have hn2 : item.toList.isEmpty = false := by rw [List.isEmpty_eq_false_iff]; exact hn1
  have hn3 : (item.toList == []) = false := by rw [beq_eq_false_iff_ne]; exact hn1
  have HE : Hid (cmdB 8 item qty dev seq = false) := by show _ = _; simp [cmdB, he]
  clear he
  go_enter Tryz.func28, Tryz.ntmps28
  go_wp2_with (first | (go_at_call 58; refine (implItem _ _).mono ?_; rintro e w' ⟨rfl, rfl⟩; skip) | (go_at_call 59; refine (inRange _ _ _ _).mono ?_; rintro e w' ⟨rfl, rfl⟩; skip) | (go_at_call 46; refine (cmdDevice _ _).mono ?_; rintro e w' ⟨rfl, rfl⟩; skip))
  go_ret
  exact ⟨by rw [HE.out]; rfl, bl⟩
 by_cases hzq : qty = 0
 rotate_left
 ·have bzq : (qty == 0) = false := by rw [beq_eq_false_iff_ne]; exact hzq
  have HE : Hid (cmdB 8 item qty dev seq = false) := by show _ = _; simp [cmdB, he, hzq]
  clear hzq
  subst he
  go_enter Tryz.func28, Tryz.ntmps28
  go_wp2_with (first | (go_at_call 58; refine (implItem _ _).mono ?_; rintro e w' ⟨rfl, rfl⟩; skip) | (go_at_call 59; refine (inRange _ _ _ _).mono ?_; rintro e w' ⟨rfl, rfl⟩; skip) | (go_at_call 46; refine (cmdDevice _ _).mono ?_; rintro e w' ⟨rfl, rfl⟩; skip))
  go_ret
  exact ⟨by rw [HE.out]; rfl, bl⟩
 by_cases hzd : dev = 0
 rotate_left
 ·have bzd : (dev == 0) = false := by rw [beq_eq_false_iff_ne]; exact hzd
  have HE : Hid (cmdB 8 item qty dev seq = false) := by show _ = _; simp [cmdB, he, hzq, hzd]
  clear hzd
  subst he
  subst hzq
  go_enter Tryz.func28, Tryz.ntmps28
  go_wp2_with (first | (go_at_call 58; refine (implItem _ _).mono ?_; rintro e w' ⟨rfl, rfl⟩; skip) | (go_at_call 59; refine (inRange _ _ _ _).mono ?_; rintro e w' ⟨rfl, rfl⟩; skip) | (go_at_call 46; refine (cmdDevice _ _).mono ?_; rintro e w' ⟨rfl, rfl⟩; skip))
  go_ret
  exact ⟨by rw [HE.out]; rfl, bl⟩
 by_cases hzs : seq = 0
 rotate_left
 ·have bzs : (seq == 0) = false := by rw [beq_eq_false_iff_ne]; exact hzs
  have HE : Hid (cmdB 8 item qty dev seq = false) := by show _ = _; simp [cmdB, he, hzq, hzd, hzs]
  clear hzs
  subst he
  subst hzq
  subst hzd
  go_enter Tryz.func28, Tryz.ntmps28
  go_wp2_with (first | (go_at_call 58; refine (implItem _ _).mono ?_; rintro e w' ⟨rfl, rfl⟩; skip) | (go_at_call 59; refine (inRange _ _ _ _).mono ?_; rintro e w' ⟨rfl, rfl⟩; skip) | (go_at_call 46; refine (cmdDevice _ _).mono ?_; rintro e w' ⟨rfl, rfl⟩; skip))
  go_ret
  exact ⟨by rw [HE.out]; rfl, bl⟩
 have HE : Hid (cmdB 8 item qty dev seq = true) := by show _ = _; simp [cmdB, he, hzq, hzd, hzs]
 subst he
 subst hzq
 subst hzd
 subst hzs
 go_enter Tryz.func28, Tryz.ntmps28
 go_wp2_with (first | (go_at_call 58; refine (implItem _ _).mono ?_; rintro e w' ⟨rfl, rfl⟩; skip) | (go_at_call 59; refine (inRange _ _ _ _).mono ?_; rintro e w' ⟨rfl, rfl⟩; skip) | (go_at_call 46; refine (cmdDevice _ _).mono ?_; rintro e w' ⟨rfl, rfl⟩; skip))
 go_ret
 exact ⟨by rw [HE.out]; rfl, bl⟩
set_option maxHeartbeats 10000000 in
theorem implCmd9 (item : ByteArray) (qty dev seq : Int) (w : World) : Calls Tryz.prog 28 #[.agg #[.int .i64 9, .string item, .int .i64 qty, .int .i64 dev, .int .i64 seq]] w fun e w' => e = .returned (.bool (cmdB 9 item qty dev seq)) ∧ Below w.heap.size w w' := by
 rcases hd : inB dev 0 3 with _ | _
 ·have Hd := Lib.hid hd
  have HE : Hid (cmdB 9 item qty dev seq = false) := by show _ = _; simp [cmdB, hd]
  clear hd
  go_enter Tryz.func28, Tryz.ntmps28
  go_wp2_with (first | (go_at_call 58; refine (implItem _ _).mono ?_; rintro e w' ⟨rfl, rfl⟩; skip) | (go_at_call 59; refine (inRange _ _ _ _).mono ?_; rintro e w' ⟨rfl, rfl⟩; skip) | (go_at_call 46; refine (cmdDevice _ _).mono ?_; rintro e w' ⟨rfl, rfl⟩; (first | rw [Hd.out] | skip)))
  go_ret
  exact ⟨by rw [HE.out]; rfl, bl⟩
 have Hd := Lib.hid hd
 rcases hs : inB seq 1 40 with _ | _
 ·have Hs := Lib.hid hs
  have HE : Hid (cmdB 9 item qty dev seq = false) := by show _ = _; simp [cmdB, hd, hs]
  clear hd hs
  go_enter Tryz.func28, Tryz.ntmps28
  go_wp2_with (first | (go_at_call 58; refine (implItem _ _).mono ?_; rintro e w' ⟨rfl, rfl⟩; skip) | (go_at_call 59; refine (inRange _ _ _ _).mono ?_; rintro e w' ⟨rfl, rfl⟩; (first | rw [Hs.out] | skip)) | (go_at_call 46; refine (cmdDevice _ _).mono ?_; rintro e w' ⟨rfl, rfl⟩; (first | rw [Hd.out] | skip)))
  go_ret
  exact ⟨by rw [HE.out]; rfl, bl⟩
 have Hs := Lib.hid hs
 by_cases he : item = ⟨#[]⟩
 rotate_left
 ·have hn1 := no_text he
  have hn2 : item.toList.isEmpty = false := by rw [List.isEmpty_eq_false_iff]; exact hn1
  have hn3 : (item.toList == []) = false := by rw [beq_eq_false_iff_ne]; exact hn1
  have HE : Hid (cmdB 9 item qty dev seq = false) := by show _ = _; simp [cmdB, hd, hs, he]
  clear hd hs he
  go_enter Tryz.func28, Tryz.ntmps28
  go_wp2_with (first | (go_at_call 58; refine (implItem _ _).mono ?_; rintro e w' ⟨rfl, rfl⟩; skip) | (go_at_call 59; refine (inRange _ _ _ _).mono ?_; rintro e w' ⟨rfl, rfl⟩; (first | rw [Hs.out] | skip)) | (go_at_call 46; refine (cmdDevice _ _).mono ?_; rintro e w' ⟨rfl, rfl⟩; (first | rw [Hd.out] | skip)))
  go_ret
  exact ⟨by rw [HE.out]; rfl, bl⟩
 by_cases hzq : qty = 0
 rotate_left
 ·have bzq : (qty == 0) = false := by rw [beq_eq_false_iff_ne]; exact hzq
  have HE : Hid (cmdB 9 item qty dev seq = false) := by show _ = _; simp [cmdB, hd, hs, he, hzq]
  clear hd hs hzq
  subst he
  go_enter Tryz.func28, Tryz.ntmps28
  go_wp2_with (first | (go_at_call 58; refine (implItem _ _).mono ?_; rintro e w' ⟨rfl, rfl⟩; skip) | (go_at_call 59; refine (inRange _ _ _ _).mono ?_; rintro e w' ⟨rfl, rfl⟩; (first | rw [Hs.out] | skip)) | (go_at_call 46; refine (cmdDevice _ _).mono ?_; rintro e w' ⟨rfl, rfl⟩; (first | rw [Hd.out] | skip)))
  go_ret
  exact ⟨by rw [HE.out]; rfl, bl⟩
 have HE : Hid (cmdB 9 item qty dev seq = true) := by show _ = _; simp [cmdB, hd, hs, he, hzq]
 clear hd hs
 subst he
 subst hzq
 go_enter Tryz.func28, Tryz.ntmps28
 go_wp2_with (first | (go_at_call 58; refine (implItem _ _).mono ?_; rintro e w' ⟨rfl, rfl⟩; skip) | (go_at_call 59; refine (inRange _ _ _ _).mono ?_; rintro e w' ⟨rfl, rfl⟩; (first | rw [Hs.out] | skip)) | (go_at_call 46; refine (cmdDevice _ _).mono ?_; rintro e w' ⟨rfl, rfl⟩; (first | rw [Hd.out] | skip)))
 go_ret
 exact ⟨by rw [HE.out]; rfl, bl⟩
theorem cmd_other {kind : Int} {item : ByteArray} {qty dev seq : Int} (h1 : kind ≠ 1) (h2 : kind ≠ 2) (h3 : kind ≠ 3) (h4 : kind ≠ 4) (h5 : kind ≠ 5) (h6 : kind ≠ 6) (h7 : kind ≠ 7) (h8 : kind ≠ 8) (h9 : kind ≠ 9) : cmdB kind item qty dev seq = false := by
 unfold cmdB
 rw [if_neg (by omega), if_neg (by omega), if_neg (by omega), if_neg h9]
set_option maxHeartbeats 10000000 in
theorem implCmd (kind : Int) (item : ByteArray) (qty dev seq : Int) (w : World) : Calls Tryz.prog 28 #[.agg #[.int .i64 kind, .string item, .int .i64 qty, .int .i64 dev, .int .i64 seq]] w fun e w' => e = .returned (.bool (cmdB kind item qty dev seq)) ∧ Below w.heap.size w w' := by
 by_cases h1 : kind = 1
 ·rw [h1]; exact implCmd1 item qty dev seq w
 by_cases h2 : kind = 2
 ·rw [h2]; exact implCmd2 item qty dev seq w
 by_cases h3 : kind = 3
 ·rw [h3]; exact implCmd3 item qty dev seq w
 by_cases h4 : kind = 4
 ·rw [h4]; exact implCmd4 item qty dev seq w
 by_cases h5 : kind = 5
 ·rw [h5]; exact implCmd5 item qty dev seq w
 by_cases h6 : kind = 6
 ·rw [h6]; exact implCmd6 item qty dev seq w
 by_cases h7 : kind = 7
 ·rw [h7]; exact implCmd7 item qty dev seq w
 by_cases h8 : kind = 8
 ·rw [h8]; exact implCmd8 item qty dev seq w
 by_cases h9 : kind = 9
 ·rw [h9]; exact implCmd9 item qty dev seq w
 have HE := Lib.hid (cmd_other (item := item) (qty := qty) (dev := dev) (seq := seq) h1 h2 h3 h4 h5 h6 h7 h8 h9)
 have b1 : (kind == 1) = false := by rw [beq_eq_false_iff_ne]; exact h1
 have b2 : (kind == 2) = false := by rw [beq_eq_false_iff_ne]; exact h2
 have b3 : (kind == 3) = false := by rw [beq_eq_false_iff_ne]; exact h3
 have b4 : (kind == 4) = false := by rw [beq_eq_false_iff_ne]; exact h4
 have b5 : (kind == 5) = false := by rw [beq_eq_false_iff_ne]; exact h5
 have b6 : (kind == 6) = false := by rw [beq_eq_false_iff_ne]; exact h6
 have b7 : (kind == 7) = false := by rw [beq_eq_false_iff_ne]; exact h7
 have b8 : (kind == 8) = false := by rw [beq_eq_false_iff_ne]; exact h8
 have b9 : (kind == 9) = false := by rw [beq_eq_false_iff_ne]; exact h9
 clear h1 h2 h3 h4 h5 h6 h7 h8 h9
 go_enter Tryz.func28, Tryz.ntmps28
 go_wp2
 go_ret
 exact ⟨by rw [HE.out]; rfl, bl⟩
set_option maxHeartbeats 10000000 in
theorem specCmd1 (item : ByteArray) (qty dev seq : Int) (hs : item.size ≤ 1048576) (w : World) : Calls Tryz.prog 29 #[.agg #[.int .i64 1, .string item, .int .i64 qty, .int .i64 dev, .int .i64 seq]] w fun e w' => e = .returned (.bool (cmdB 1 item qty dev seq)) ∧ Below w.heap.size w w' := by
 have _hs := hs
 by_cases hzd : dev = 0
 ·by_cases hzs : seq = 0
  ·skip
   rcases hitem : itemB item with _ | _
   ·have Hitem := Lib.hid hitem
    have HE : Hid (cmdB 1 item qty dev seq = false) := by show _ = _; simp [cmdB, hzd, hzs, hitem]
    clear hitem
    subst hzd
    subst hzs
    go_enter Tryz.func29, Tryz.ntmps29
    go_wp2_with (first | (go_at_call 60; refine (l3Item _ (by first | exact hs | exact Nat.zero_le _) _).mono ?_; rintro e w' ⟨rfl, rfl⟩; (first | rw [Hitem.out] | skip)) | (go_at_call 61; refine (l1In _ _ _ _).mono ?_; rintro e w' ⟨rfl, rfl⟩; skip) | (go_at_call 35; refine (l3Dev _ _).mono ?_; rintro e w' ⟨rfl, rfl⟩; skip))
    go_ret
    exact ⟨by rw [HE.out]; rfl, bl⟩
   have Hitem := Lib.hid hitem
   rcases hq : inB qty 1 999 with _ | _
   ·have Hq := Lib.hid hq
    have HE : Hid (cmdB 1 item qty dev seq = false) := by show _ = _; simp [cmdB, hzd, hzs, hitem, hq]
    clear hitem hq
    subst hzd
    subst hzs
    go_enter Tryz.func29, Tryz.ntmps29
    go_wp2_with (first | (go_at_call 60; refine (l3Item _ (by first | exact hs | exact Nat.zero_le _) _).mono ?_; rintro e w' ⟨rfl, rfl⟩; (first | rw [Hitem.out] | skip)) | (go_at_call 61; refine (l1In _ _ _ _).mono ?_; rintro e w' ⟨rfl, rfl⟩; (first | rw [Hq.out] | skip)) | (go_at_call 35; refine (l3Dev _ _).mono ?_; rintro e w' ⟨rfl, rfl⟩; skip))
    go_ret
    exact ⟨by rw [HE.out]; rfl, bl⟩
   have Hq := Lib.hid hq
   have HE : Hid (cmdB 1 item qty dev seq = true) := by show _ = _; simp [cmdB, hzd, hzs, hitem, hq]
   clear hitem hq
   subst hzd
   subst hzs
   go_enter Tryz.func29, Tryz.ntmps29
   go_wp2_with (first | (go_at_call 60; refine (l3Item _ (by first | exact hs | exact Nat.zero_le _) _).mono ?_; rintro e w' ⟨rfl, rfl⟩; (first | rw [Hitem.out] | skip)) | (go_at_call 61; refine (l1In _ _ _ _).mono ?_; rintro e w' ⟨rfl, rfl⟩; (first | rw [Hq.out] | skip)) | (go_at_call 35; refine (l3Dev _ _).mono ?_; rintro e w' ⟨rfl, rfl⟩; skip))
   go_ret
   exact ⟨by rw [HE.out]; rfl, bl⟩
  ·have bzs : (seq == 0) = false := by rw [beq_eq_false_iff_ne]; exact hzs
   rcases hitem : itemB item with _ | _
   ·have Hitem := Lib.hid hitem
    have HE : Hid (cmdB 1 item qty dev seq = false) := by show _ = _; simp [cmdB, hzd, hzs, hitem]
    clear hzs hitem
    subst hzd
    go_enter Tryz.func29, Tryz.ntmps29
    go_wp2_with (first | (go_at_call 60; refine (l3Item _ (by first | exact hs | exact Nat.zero_le _) _).mono ?_; rintro e w' ⟨rfl, rfl⟩; (first | rw [Hitem.out] | skip)) | (go_at_call 61; refine (l1In _ _ _ _).mono ?_; rintro e w' ⟨rfl, rfl⟩; skip) | (go_at_call 35; refine (l3Dev _ _).mono ?_; rintro e w' ⟨rfl, rfl⟩; skip))
    go_ret
    exact ⟨by rw [HE.out]; rfl, bl⟩
   have Hitem := Lib.hid hitem
   rcases hq : inB qty 1 999 with _ | _
   ·have Hq := Lib.hid hq
    have HE : Hid (cmdB 1 item qty dev seq = false) := by show _ = _; simp [cmdB, hzd, hzs, hitem, hq]
    clear hzs hitem hq
    subst hzd
    go_enter Tryz.func29, Tryz.ntmps29
    go_wp2_with (first | (go_at_call 60; refine (l3Item _ (by first | exact hs | exact Nat.zero_le _) _).mono ?_; rintro e w' ⟨rfl, rfl⟩; (first | rw [Hitem.out] | skip)) | (go_at_call 61; refine (l1In _ _ _ _).mono ?_; rintro e w' ⟨rfl, rfl⟩; (first | rw [Hq.out] | skip)) | (go_at_call 35; refine (l3Dev _ _).mono ?_; rintro e w' ⟨rfl, rfl⟩; skip))
    go_ret
    exact ⟨by rw [HE.out]; rfl, bl⟩
   have Hq := Lib.hid hq
   have HE : Hid (cmdB 1 item qty dev seq = false) := by show _ = _; simp [cmdB, hzd, hzs, hitem, hq]
   clear hzs hitem hq
   subst hzd
   go_enter Tryz.func29, Tryz.ntmps29
   go_wp2_with (first | (go_at_call 60; refine (l3Item _ (by first | exact hs | exact Nat.zero_le _) _).mono ?_; rintro e w' ⟨rfl, rfl⟩; (first | rw [Hitem.out] | skip)) | (go_at_call 61; refine (l1In _ _ _ _).mono ?_; rintro e w' ⟨rfl, rfl⟩; (first | rw [Hq.out] | skip)) | (go_at_call 35; refine (l3Dev _ _).mono ?_; rintro e w' ⟨rfl, rfl⟩; skip))
   go_ret
   exact ⟨by rw [HE.out]; rfl, bl⟩
 ·have bzd : (dev == 0) = false := by rw [beq_eq_false_iff_ne]; exact hzd
  by_cases hzs : seq = 0
  ·skip
   rcases hitem : itemB item with _ | _
   ·have Hitem := Lib.hid hitem
    have HE : Hid (cmdB 1 item qty dev seq = false) := by show _ = _; simp [cmdB, hzd, hzs, hitem]
    clear hzd hitem
    subst hzs
    go_enter Tryz.func29, Tryz.ntmps29
    go_wp2_with (first | (go_at_call 60; refine (l3Item _ (by first | exact hs | exact Nat.zero_le _) _).mono ?_; rintro e w' ⟨rfl, rfl⟩; (first | rw [Hitem.out] | skip)) | (go_at_call 61; refine (l1In _ _ _ _).mono ?_; rintro e w' ⟨rfl, rfl⟩; skip) | (go_at_call 35; refine (l3Dev _ _).mono ?_; rintro e w' ⟨rfl, rfl⟩; skip))
    go_ret
    exact ⟨by rw [HE.out]; rfl, bl⟩
   have Hitem := Lib.hid hitem
   rcases hq : inB qty 1 999 with _ | _
   ·have Hq := Lib.hid hq
    have HE : Hid (cmdB 1 item qty dev seq = false) := by show _ = _; simp [cmdB, hzd, hzs, hitem, hq]
    clear hzd hitem hq
    subst hzs
    go_enter Tryz.func29, Tryz.ntmps29
    go_wp2_with (first | (go_at_call 60; refine (l3Item _ (by first | exact hs | exact Nat.zero_le _) _).mono ?_; rintro e w' ⟨rfl, rfl⟩; (first | rw [Hitem.out] | skip)) | (go_at_call 61; refine (l1In _ _ _ _).mono ?_; rintro e w' ⟨rfl, rfl⟩; (first | rw [Hq.out] | skip)) | (go_at_call 35; refine (l3Dev _ _).mono ?_; rintro e w' ⟨rfl, rfl⟩; skip))
    go_ret
    exact ⟨by rw [HE.out]; rfl, bl⟩
   have Hq := Lib.hid hq
   have HE : Hid (cmdB 1 item qty dev seq = false) := by show _ = _; simp [cmdB, hzd, hzs, hitem, hq]
   clear hzd hitem hq
   subst hzs
   go_enter Tryz.func29, Tryz.ntmps29
   go_wp2_with (first | (go_at_call 60; refine (l3Item _ (by first | exact hs | exact Nat.zero_le _) _).mono ?_; rintro e w' ⟨rfl, rfl⟩; (first | rw [Hitem.out] | skip)) | (go_at_call 61; refine (l1In _ _ _ _).mono ?_; rintro e w' ⟨rfl, rfl⟩; (first | rw [Hq.out] | skip)) | (go_at_call 35; refine (l3Dev _ _).mono ?_; rintro e w' ⟨rfl, rfl⟩; skip))
   go_ret
   exact ⟨by rw [HE.out]; rfl, bl⟩
  ·have bzs : (seq == 0) = false := by rw [beq_eq_false_iff_ne]; exact hzs
   rcases hitem : itemB item with _ | _
   ·have Hitem := Lib.hid hitem
    have HE : Hid (cmdB 1 item qty dev seq = false) := by show _ = _; simp [cmdB, hzd, hzs, hitem]
    clear hzd hzs hitem
    go_enter Tryz.func29, Tryz.ntmps29
    go_wp2_with (first | (go_at_call 60; refine (l3Item _ (by first | exact hs | exact Nat.zero_le _) _).mono ?_; rintro e w' ⟨rfl, rfl⟩; (first | rw [Hitem.out] | skip)) | (go_at_call 61; refine (l1In _ _ _ _).mono ?_; rintro e w' ⟨rfl, rfl⟩; skip) | (go_at_call 35; refine (l3Dev _ _).mono ?_; rintro e w' ⟨rfl, rfl⟩; skip))
    go_ret
    exact ⟨by rw [HE.out]; rfl, bl⟩
   have Hitem := Lib.hid hitem
   rcases hq : inB qty 1 999 with _ | _
   ·have Hq := Lib.hid hq
    have HE : Hid (cmdB 1 item qty dev seq = false) := by show _ = _; simp [cmdB, hzd, hzs, hitem, hq]
    clear hzd hzs hitem hq
    go_enter Tryz.func29, Tryz.ntmps29
    go_wp2_with (first | (go_at_call 60; refine (l3Item _ (by first | exact hs | exact Nat.zero_le _) _).mono ?_; rintro e w' ⟨rfl, rfl⟩; (first | rw [Hitem.out] | skip)) | (go_at_call 61; refine (l1In _ _ _ _).mono ?_; rintro e w' ⟨rfl, rfl⟩; (first | rw [Hq.out] | skip)) | (go_at_call 35; refine (l3Dev _ _).mono ?_; rintro e w' ⟨rfl, rfl⟩; skip))
    go_ret
    exact ⟨by rw [HE.out]; rfl, bl⟩
   have Hq := Lib.hid hq
   have HE : Hid (cmdB 1 item qty dev seq = false) := by show _ = _; simp [cmdB, hzd, hzs, hitem, hq]
   clear hzd hzs hitem hq
   go_enter Tryz.func29, Tryz.ntmps29
   go_wp2_with (first | (go_at_call 60; refine (l3Item _ (by first | exact hs | exact Nat.zero_le _) _).mono ?_; rintro e w' ⟨rfl, rfl⟩; (first | rw [Hitem.out] | skip)) | (go_at_call 61; refine (l1In _ _ _ _).mono ?_; rintro e w' ⟨rfl, rfl⟩; (first | rw [Hq.out] | skip)) | (go_at_call 35; refine (l3Dev _ _).mono ?_; rintro e w' ⟨rfl, rfl⟩; skip))
   go_ret
   exact ⟨by rw [HE.out]; rfl, bl⟩
set_option maxHeartbeats 10000000 in
theorem specCmd2 (item : ByteArray) (qty dev seq : Int) (hs : item.size ≤ 1048576) (w : World) : Calls Tryz.prog 29 #[.agg #[.int .i64 2, .string item, .int .i64 qty, .int .i64 dev, .int .i64 seq]] w fun e w' => e = .returned (.bool (cmdB 2 item qty dev seq)) ∧ Below w.heap.size w w' := by
 have _hs := hs
 by_cases hzd : dev = 0
 ·by_cases hzs : seq = 0
  ·skip
   rcases hitem : itemB item with _ | _
   ·have Hitem := Lib.hid hitem
    have HE : Hid (cmdB 2 item qty dev seq = false) := by show _ = _; simp [cmdB, hzd, hzs, hitem]
    clear hitem
    subst hzd
    subst hzs
    go_enter Tryz.func29, Tryz.ntmps29
    go_wp2_with (first | (go_at_call 60; refine (l3Item _ (by first | exact hs | exact Nat.zero_le _) _).mono ?_; rintro e w' ⟨rfl, rfl⟩; (first | rw [Hitem.out] | skip)) | (go_at_call 61; refine (l1In _ _ _ _).mono ?_; rintro e w' ⟨rfl, rfl⟩; skip) | (go_at_call 35; refine (l3Dev _ _).mono ?_; rintro e w' ⟨rfl, rfl⟩; skip))
    go_ret
    exact ⟨by rw [HE.out]; rfl, bl⟩
   have Hitem := Lib.hid hitem
   rcases hq : inB qty 1 999 with _ | _
   ·have Hq := Lib.hid hq
    have HE : Hid (cmdB 2 item qty dev seq = false) := by show _ = _; simp [cmdB, hzd, hzs, hitem, hq]
    clear hitem hq
    subst hzd
    subst hzs
    go_enter Tryz.func29, Tryz.ntmps29
    go_wp2_with (first | (go_at_call 60; refine (l3Item _ (by first | exact hs | exact Nat.zero_le _) _).mono ?_; rintro e w' ⟨rfl, rfl⟩; (first | rw [Hitem.out] | skip)) | (go_at_call 61; refine (l1In _ _ _ _).mono ?_; rintro e w' ⟨rfl, rfl⟩; (first | rw [Hq.out] | skip)) | (go_at_call 35; refine (l3Dev _ _).mono ?_; rintro e w' ⟨rfl, rfl⟩; skip))
    go_ret
    exact ⟨by rw [HE.out]; rfl, bl⟩
   have Hq := Lib.hid hq
   have HE : Hid (cmdB 2 item qty dev seq = true) := by show _ = _; simp [cmdB, hzd, hzs, hitem, hq]
   clear hitem hq
   subst hzd
   subst hzs
   go_enter Tryz.func29, Tryz.ntmps29
   go_wp2_with (first | (go_at_call 60; refine (l3Item _ (by first | exact hs | exact Nat.zero_le _) _).mono ?_; rintro e w' ⟨rfl, rfl⟩; (first | rw [Hitem.out] | skip)) | (go_at_call 61; refine (l1In _ _ _ _).mono ?_; rintro e w' ⟨rfl, rfl⟩; (first | rw [Hq.out] | skip)) | (go_at_call 35; refine (l3Dev _ _).mono ?_; rintro e w' ⟨rfl, rfl⟩; skip))
   go_ret
   exact ⟨by rw [HE.out]; rfl, bl⟩
  ·have bzs : (seq == 0) = false := by rw [beq_eq_false_iff_ne]; exact hzs
   rcases hitem : itemB item with _ | _
   ·have Hitem := Lib.hid hitem
    have HE : Hid (cmdB 2 item qty dev seq = false) := by show _ = _; simp [cmdB, hzd, hzs, hitem]
    clear hzs hitem
    subst hzd
    go_enter Tryz.func29, Tryz.ntmps29
    go_wp2_with (first | (go_at_call 60; refine (l3Item _ (by first | exact hs | exact Nat.zero_le _) _).mono ?_; rintro e w' ⟨rfl, rfl⟩; (first | rw [Hitem.out] | skip)) | (go_at_call 61; refine (l1In _ _ _ _).mono ?_; rintro e w' ⟨rfl, rfl⟩; skip) | (go_at_call 35; refine (l3Dev _ _).mono ?_; rintro e w' ⟨rfl, rfl⟩; skip))
    go_ret
    exact ⟨by rw [HE.out]; rfl, bl⟩
   have Hitem := Lib.hid hitem
   rcases hq : inB qty 1 999 with _ | _
   ·have Hq := Lib.hid hq
    have HE : Hid (cmdB 2 item qty dev seq = false) := by show _ = _; simp [cmdB, hzd, hzs, hitem, hq]
    clear hzs hitem hq
    subst hzd
    go_enter Tryz.func29, Tryz.ntmps29
    go_wp2_with (first | (go_at_call 60; refine (l3Item _ (by first | exact hs | exact Nat.zero_le _) _).mono ?_; rintro e w' ⟨rfl, rfl⟩; (first | rw [Hitem.out] | skip)) | (go_at_call 61; refine (l1In _ _ _ _).mono ?_; rintro e w' ⟨rfl, rfl⟩; (first | rw [Hq.out] | skip)) | (go_at_call 35; refine (l3Dev _ _).mono ?_; rintro e w' ⟨rfl, rfl⟩; skip))
    go_ret
    exact ⟨by rw [HE.out]; rfl, bl⟩
   have Hq := Lib.hid hq
   have HE : Hid (cmdB 2 item qty dev seq = false) := by show _ = _; simp [cmdB, hzd, hzs, hitem, hq]
   clear hzs hitem hq
   subst hzd
   go_enter Tryz.func29, Tryz.ntmps29
   go_wp2_with (first | (go_at_call 60; refine (l3Item _ (by first | exact hs | exact Nat.zero_le _) _).mono ?_; rintro e w' ⟨rfl, rfl⟩; (first | rw [Hitem.out] | skip)) | (go_at_call 61; refine (l1In _ _ _ _).mono ?_; rintro e w' ⟨rfl, rfl⟩; (first | rw [Hq.out] | skip)) | (go_at_call 35; refine (l3Dev _ _).mono ?_; rintro e w' ⟨rfl, rfl⟩; skip))
   go_ret
   exact ⟨by rw [HE.out]; rfl, bl⟩
 ·have bzd : (dev == 0) = false := by rw [beq_eq_false_iff_ne]; exact hzd
  by_cases hzs : seq = 0
  ·skip
   rcases hitem : itemB item with _ | _
   ·have Hitem := Lib.hid hitem
    have HE : Hid (cmdB 2 item qty dev seq = false) := by show _ = _; simp [cmdB, hzd, hzs, hitem]
    clear hzd hitem
    subst hzs
    go_enter Tryz.func29, Tryz.ntmps29
    go_wp2_with (first | (go_at_call 60; refine (l3Item _ (by first | exact hs | exact Nat.zero_le _) _).mono ?_; rintro e w' ⟨rfl, rfl⟩; (first | rw [Hitem.out] | skip)) | (go_at_call 61; refine (l1In _ _ _ _).mono ?_; rintro e w' ⟨rfl, rfl⟩; skip) | (go_at_call 35; refine (l3Dev _ _).mono ?_; rintro e w' ⟨rfl, rfl⟩; skip))
    go_ret
    exact ⟨by rw [HE.out]; rfl, bl⟩
   have Hitem := Lib.hid hitem
   rcases hq : inB qty 1 999 with _ | _
   ·have Hq := Lib.hid hq
    have HE : Hid (cmdB 2 item qty dev seq = false) := by show _ = _; simp [cmdB, hzd, hzs, hitem, hq]
    clear hzd hitem hq
    subst hzs
    go_enter Tryz.func29, Tryz.ntmps29
    go_wp2_with (first | (go_at_call 60; refine (l3Item _ (by first | exact hs | exact Nat.zero_le _) _).mono ?_; rintro e w' ⟨rfl, rfl⟩; (first | rw [Hitem.out] | skip)) | (go_at_call 61; refine (l1In _ _ _ _).mono ?_; rintro e w' ⟨rfl, rfl⟩; (first | rw [Hq.out] | skip)) | (go_at_call 35; refine (l3Dev _ _).mono ?_; rintro e w' ⟨rfl, rfl⟩; skip))
    go_ret
    exact ⟨by rw [HE.out]; rfl, bl⟩
   have Hq := Lib.hid hq
   have HE : Hid (cmdB 2 item qty dev seq = false) := by show _ = _; simp [cmdB, hzd, hzs, hitem, hq]
   clear hzd hitem hq
   subst hzs
   go_enter Tryz.func29, Tryz.ntmps29
   go_wp2_with (first | (go_at_call 60; refine (l3Item _ (by first | exact hs | exact Nat.zero_le _) _).mono ?_; rintro e w' ⟨rfl, rfl⟩; (first | rw [Hitem.out] | skip)) | (go_at_call 61; refine (l1In _ _ _ _).mono ?_; rintro e w' ⟨rfl, rfl⟩; (first | rw [Hq.out] | skip)) | (go_at_call 35; refine (l3Dev _ _).mono ?_; rintro e w' ⟨rfl, rfl⟩; skip))
   go_ret
   exact ⟨by rw [HE.out]; rfl, bl⟩
  ·have bzs : (seq == 0) = false := by rw [beq_eq_false_iff_ne]; exact hzs
   rcases hitem : itemB item with _ | _
   ·have Hitem := Lib.hid hitem
    have HE : Hid (cmdB 2 item qty dev seq = false) := by show _ = _; simp [cmdB, hzd, hzs, hitem]
    clear hzd hzs hitem
    go_enter Tryz.func29, Tryz.ntmps29
    go_wp2_with (first | (go_at_call 60; refine (l3Item _ (by first | exact hs | exact Nat.zero_le _) _).mono ?_; rintro e w' ⟨rfl, rfl⟩; (first | rw [Hitem.out] | skip)) | (go_at_call 61; refine (l1In _ _ _ _).mono ?_; rintro e w' ⟨rfl, rfl⟩; skip) | (go_at_call 35; refine (l3Dev _ _).mono ?_; rintro e w' ⟨rfl, rfl⟩; skip))
    go_ret
    exact ⟨by rw [HE.out]; rfl, bl⟩
   have Hitem := Lib.hid hitem
   rcases hq : inB qty 1 999 with _ | _
   ·have Hq := Lib.hid hq
    have HE : Hid (cmdB 2 item qty dev seq = false) := by show _ = _; simp [cmdB, hzd, hzs, hitem, hq]
    clear hzd hzs hitem hq
    go_enter Tryz.func29, Tryz.ntmps29
    go_wp2_with (first | (go_at_call 60; refine (l3Item _ (by first | exact hs | exact Nat.zero_le _) _).mono ?_; rintro e w' ⟨rfl, rfl⟩; (first | rw [Hitem.out] | skip)) | (go_at_call 61; refine (l1In _ _ _ _).mono ?_; rintro e w' ⟨rfl, rfl⟩; (first | rw [Hq.out] | skip)) | (go_at_call 35; refine (l3Dev _ _).mono ?_; rintro e w' ⟨rfl, rfl⟩; skip))
    go_ret
    exact ⟨by rw [HE.out]; rfl, bl⟩
   have Hq := Lib.hid hq
   have HE : Hid (cmdB 2 item qty dev seq = false) := by show _ = _; simp [cmdB, hzd, hzs, hitem, hq]
   clear hzd hzs hitem hq
   go_enter Tryz.func29, Tryz.ntmps29
   go_wp2_with (first | (go_at_call 60; refine (l3Item _ (by first | exact hs | exact Nat.zero_le _) _).mono ?_; rintro e w' ⟨rfl, rfl⟩; (first | rw [Hitem.out] | skip)) | (go_at_call 61; refine (l1In _ _ _ _).mono ?_; rintro e w' ⟨rfl, rfl⟩; (first | rw [Hq.out] | skip)) | (go_at_call 35; refine (l3Dev _ _).mono ?_; rintro e w' ⟨rfl, rfl⟩; skip))
   go_ret
   exact ⟨by rw [HE.out]; rfl, bl⟩
set_option maxHeartbeats 10000000 in
theorem specCmd3 (item : ByteArray) (qty dev seq : Int) (hs : item.size ≤ 1048576) (w : World) : Calls Tryz.prog 29 #[.agg #[.int .i64 3, .string item, .int .i64 qty, .int .i64 dev, .int .i64 seq]] w fun e w' => e = .returned (.bool (cmdB 3 item qty dev seq)) ∧ Below w.heap.size w w' := by
 have _hs := hs
 by_cases hzd : dev = 0
 ·by_cases hzs : seq = 0
  ·skip
   rcases hitem : itemB item with _ | _
   ·have Hitem := Lib.hid hitem
    have HE : Hid (cmdB 3 item qty dev seq = false) := by show _ = _; simp [cmdB, hzd, hzs, hitem]
    clear hitem
    subst hzd
    subst hzs
    go_enter Tryz.func29, Tryz.ntmps29
    go_wp2_with (first | (go_at_call 60; refine (l3Item _ (by first | exact hs | exact Nat.zero_le _) _).mono ?_; rintro e w' ⟨rfl, rfl⟩; (first | rw [Hitem.out] | skip)) | (go_at_call 61; refine (l1In _ _ _ _).mono ?_; rintro e w' ⟨rfl, rfl⟩; skip) | (go_at_call 35; refine (l3Dev _ _).mono ?_; rintro e w' ⟨rfl, rfl⟩; skip))
    go_ret
    exact ⟨by rw [HE.out]; rfl, bl⟩
   have Hitem := Lib.hid hitem
   by_cases hzq : qty = 0
   rotate_left
   ·have bzq : (qty == 0) = false := by rw [beq_eq_false_iff_ne]; exact hzq
    have HE : Hid (cmdB 3 item qty dev seq = false) := by show _ = _; simp [cmdB, hzd, hzs, hitem, hzq]
    clear hitem hzq
    subst hzd
    subst hzs
    go_enter Tryz.func29, Tryz.ntmps29
    go_wp2_with (first | (go_at_call 60; refine (l3Item _ (by first | exact hs | exact Nat.zero_le _) _).mono ?_; rintro e w' ⟨rfl, rfl⟩; (first | rw [Hitem.out] | skip)) | (go_at_call 61; refine (l1In _ _ _ _).mono ?_; rintro e w' ⟨rfl, rfl⟩; skip) | (go_at_call 35; refine (l3Dev _ _).mono ?_; rintro e w' ⟨rfl, rfl⟩; skip))
    go_ret
    exact ⟨by rw [HE.out]; rfl, bl⟩
   have HE : Hid (cmdB 3 item qty dev seq = true) := by show _ = _; simp [cmdB, hzd, hzs, hitem, hzq]
   clear hitem
   subst hzd
   subst hzs
   subst hzq
   go_enter Tryz.func29, Tryz.ntmps29
   go_wp2_with (first | (go_at_call 60; refine (l3Item _ (by first | exact hs | exact Nat.zero_le _) _).mono ?_; rintro e w' ⟨rfl, rfl⟩; (first | rw [Hitem.out] | skip)) | (go_at_call 61; refine (l1In _ _ _ _).mono ?_; rintro e w' ⟨rfl, rfl⟩; skip) | (go_at_call 35; refine (l3Dev _ _).mono ?_; rintro e w' ⟨rfl, rfl⟩; skip))
   go_ret
   exact ⟨by rw [HE.out]; rfl, bl⟩
  ·have bzs : (seq == 0) = false := by rw [beq_eq_false_iff_ne]; exact hzs
   rcases hitem : itemB item with _ | _
   ·have Hitem := Lib.hid hitem
    have HE : Hid (cmdB 3 item qty dev seq = false) := by show _ = _; simp [cmdB, hzd, hzs, hitem]
    clear hzs hitem
    subst hzd
    go_enter Tryz.func29, Tryz.ntmps29
    go_wp2_with (first | (go_at_call 60; refine (l3Item _ (by first | exact hs | exact Nat.zero_le _) _).mono ?_; rintro e w' ⟨rfl, rfl⟩; (first | rw [Hitem.out] | skip)) | (go_at_call 61; refine (l1In _ _ _ _).mono ?_; rintro e w' ⟨rfl, rfl⟩; skip) | (go_at_call 35; refine (l3Dev _ _).mono ?_; rintro e w' ⟨rfl, rfl⟩; skip))
    go_ret
    exact ⟨by rw [HE.out]; rfl, bl⟩
   have Hitem := Lib.hid hitem
   by_cases hzq : qty = 0
   rotate_left
   ·have bzq : (qty == 0) = false := by rw [beq_eq_false_iff_ne]; exact hzq
    have HE : Hid (cmdB 3 item qty dev seq = false) := by show _ = _; simp [cmdB, hzd, hzs, hitem, hzq]
    clear hzs hitem hzq
    subst hzd
    go_enter Tryz.func29, Tryz.ntmps29
    go_wp2_with (first | (go_at_call 60; refine (l3Item _ (by first | exact hs | exact Nat.zero_le _) _).mono ?_; rintro e w' ⟨rfl, rfl⟩; (first | rw [Hitem.out] | skip)) | (go_at_call 61; refine (l1In _ _ _ _).mono ?_; rintro e w' ⟨rfl, rfl⟩; skip) | (go_at_call 35; refine (l3Dev _ _).mono ?_; rintro e w' ⟨rfl, rfl⟩; skip))
    go_ret
    exact ⟨by rw [HE.out]; rfl, bl⟩
   have HE : Hid (cmdB 3 item qty dev seq = false) := by show _ = _; simp [cmdB, hzd, hzs, hitem, hzq]
   clear hzs hitem
   subst hzd
   subst hzq
   go_enter Tryz.func29, Tryz.ntmps29
   go_wp2_with (first | (go_at_call 60; refine (l3Item _ (by first | exact hs | exact Nat.zero_le _) _).mono ?_; rintro e w' ⟨rfl, rfl⟩; (first | rw [Hitem.out] | skip)) | (go_at_call 61; refine (l1In _ _ _ _).mono ?_; rintro e w' ⟨rfl, rfl⟩; skip) | (go_at_call 35; refine (l3Dev _ _).mono ?_; rintro e w' ⟨rfl, rfl⟩; skip))
   go_ret
   exact ⟨by rw [HE.out]; rfl, bl⟩
 ·have bzd : (dev == 0) = false := by rw [beq_eq_false_iff_ne]; exact hzd
  by_cases hzs : seq = 0
  ·skip
   rcases hitem : itemB item with _ | _
   ·have Hitem := Lib.hid hitem
    have HE : Hid (cmdB 3 item qty dev seq = false) := by show _ = _; simp [cmdB, hzd, hzs, hitem]
    clear hzd hitem
    subst hzs
    go_enter Tryz.func29, Tryz.ntmps29
    go_wp2_with (first | (go_at_call 60; refine (l3Item _ (by first | exact hs | exact Nat.zero_le _) _).mono ?_; rintro e w' ⟨rfl, rfl⟩; (first | rw [Hitem.out] | skip)) | (go_at_call 61; refine (l1In _ _ _ _).mono ?_; rintro e w' ⟨rfl, rfl⟩; skip) | (go_at_call 35; refine (l3Dev _ _).mono ?_; rintro e w' ⟨rfl, rfl⟩; skip))
    go_ret
    exact ⟨by rw [HE.out]; rfl, bl⟩
   have Hitem := Lib.hid hitem
   by_cases hzq : qty = 0
   rotate_left
   ·have bzq : (qty == 0) = false := by rw [beq_eq_false_iff_ne]; exact hzq
    have HE : Hid (cmdB 3 item qty dev seq = false) := by show _ = _; simp [cmdB, hzd, hzs, hitem, hzq]
    clear hzd hitem hzq
    subst hzs
    go_enter Tryz.func29, Tryz.ntmps29
    go_wp2_with (first | (go_at_call 60; refine (l3Item _ (by first | exact hs | exact Nat.zero_le _) _).mono ?_; rintro e w' ⟨rfl, rfl⟩; (first | rw [Hitem.out] | skip)) | (go_at_call 61; refine (l1In _ _ _ _).mono ?_; rintro e w' ⟨rfl, rfl⟩; skip) | (go_at_call 35; refine (l3Dev _ _).mono ?_; rintro e w' ⟨rfl, rfl⟩; skip))
    go_ret
    exact ⟨by rw [HE.out]; rfl, bl⟩
   have HE : Hid (cmdB 3 item qty dev seq = false) := by show _ = _; simp [cmdB, hzd, hzs, hitem, hzq]
   clear hzd hitem
   subst hzs
   subst hzq
   go_enter Tryz.func29, Tryz.ntmps29
   go_wp2_with (first | (go_at_call 60; refine (l3Item _ (by first | exact hs | exact Nat.zero_le _) _).mono ?_; rintro e w' ⟨rfl, rfl⟩; (first | rw [Hitem.out] | skip)) | (go_at_call 61; refine (l1In _ _ _ _).mono ?_; rintro e w' ⟨rfl, rfl⟩; skip) | (go_at_call 35; refine (l3Dev _ _).mono ?_; rintro e w' ⟨rfl, rfl⟩; skip))
   go_ret
   exact ⟨by rw [HE.out]; rfl, bl⟩
  ·have bzs : (seq == 0) = false := by rw [beq_eq_false_iff_ne]; exact hzs
   rcases hitem : itemB item with _ | _
   ·have Hitem := Lib.hid hitem
    have HE : Hid (cmdB 3 item qty dev seq = false) := by show _ = _; simp [cmdB, hzd, hzs, hitem]
    clear hzd hzs hitem
    go_enter Tryz.func29, Tryz.ntmps29
    go_wp2_with (first | (go_at_call 60; refine (l3Item _ (by first | exact hs | exact Nat.zero_le _) _).mono ?_; rintro e w' ⟨rfl, rfl⟩; (first | rw [Hitem.out] | skip)) | (go_at_call 61; refine (l1In _ _ _ _).mono ?_; rintro e w' ⟨rfl, rfl⟩; skip) | (go_at_call 35; refine (l3Dev _ _).mono ?_; rintro e w' ⟨rfl, rfl⟩; skip))
    go_ret
    exact ⟨by rw [HE.out]; rfl, bl⟩
   have Hitem := Lib.hid hitem
   by_cases hzq : qty = 0
   rotate_left
   ·have bzq : (qty == 0) = false := by rw [beq_eq_false_iff_ne]; exact hzq
    have HE : Hid (cmdB 3 item qty dev seq = false) := by show _ = _; simp [cmdB, hzd, hzs, hitem, hzq]
    clear hzd hzs hitem hzq
    go_enter Tryz.func29, Tryz.ntmps29
    go_wp2_with (first | (go_at_call 60; refine (l3Item _ (by first | exact hs | exact Nat.zero_le _) _).mono ?_; rintro e w' ⟨rfl, rfl⟩; (first | rw [Hitem.out] | skip)) | (go_at_call 61; refine (l1In _ _ _ _).mono ?_; rintro e w' ⟨rfl, rfl⟩; skip) | (go_at_call 35; refine (l3Dev _ _).mono ?_; rintro e w' ⟨rfl, rfl⟩; skip))
    go_ret
    exact ⟨by rw [HE.out]; rfl, bl⟩
   have HE : Hid (cmdB 3 item qty dev seq = false) := by show _ = _; simp [cmdB, hzd, hzs, hitem, hzq]
   clear hzd hzs hitem
   subst hzq
   go_enter Tryz.func29, Tryz.ntmps29
   go_wp2_with (first | (go_at_call 60; refine (l3Item _ (by first | exact hs | exact Nat.zero_le _) _).mono ?_; rintro e w' ⟨rfl, rfl⟩; (first | rw [Hitem.out] | skip)) | (go_at_call 61; refine (l1In _ _ _ _).mono ?_; rintro e w' ⟨rfl, rfl⟩; skip) | (go_at_call 35; refine (l3Dev _ _).mono ?_; rintro e w' ⟨rfl, rfl⟩; skip))
   go_ret
   exact ⟨by rw [HE.out]; rfl, bl⟩
set_option maxHeartbeats 10000000 in
theorem specCmd4 (item : ByteArray) (qty dev seq : Int) (hs : item.size ≤ 1048576) (w : World) : Calls Tryz.prog 29 #[.agg #[.int .i64 4, .string item, .int .i64 qty, .int .i64 dev, .int .i64 seq]] w fun e w' => e = .returned (.bool (cmdB 4 item qty dev seq)) ∧ Below w.heap.size w w' := by
 have _hs := hs
 by_cases hzd : dev = 0
 ·by_cases hzs : seq = 0
  ·skip
   rcases hitem : itemB item with _ | _
   ·have Hitem := Lib.hid hitem
    have HE : Hid (cmdB 4 item qty dev seq = false) := by show _ = _; simp [cmdB, hzd, hzs, hitem]
    clear hitem
    subst hzd
    subst hzs
    go_enter Tryz.func29, Tryz.ntmps29
    go_wp2_with (first | (go_at_call 60; refine (l3Item _ (by first | exact hs | exact Nat.zero_le _) _).mono ?_; rintro e w' ⟨rfl, rfl⟩; (first | rw [Hitem.out] | skip)) | (go_at_call 61; refine (l1In _ _ _ _).mono ?_; rintro e w' ⟨rfl, rfl⟩; skip) | (go_at_call 35; refine (l3Dev _ _).mono ?_; rintro e w' ⟨rfl, rfl⟩; skip))
    go_ret
    exact ⟨by rw [HE.out]; rfl, bl⟩
   have Hitem := Lib.hid hitem
   by_cases hzq : qty = 0
   rotate_left
   ·have bzq : (qty == 0) = false := by rw [beq_eq_false_iff_ne]; exact hzq
    have HE : Hid (cmdB 4 item qty dev seq = false) := by show _ = _; simp [cmdB, hzd, hzs, hitem, hzq]
    clear hitem hzq
    subst hzd
    subst hzs
    go_enter Tryz.func29, Tryz.ntmps29
    go_wp2_with (first | (go_at_call 60; refine (l3Item _ (by first | exact hs | exact Nat.zero_le _) _).mono ?_; rintro e w' ⟨rfl, rfl⟩; (first | rw [Hitem.out] | skip)) | (go_at_call 61; refine (l1In _ _ _ _).mono ?_; rintro e w' ⟨rfl, rfl⟩; skip) | (go_at_call 35; refine (l3Dev _ _).mono ?_; rintro e w' ⟨rfl, rfl⟩; skip))
    go_ret
    exact ⟨by rw [HE.out]; rfl, bl⟩
   have HE : Hid (cmdB 4 item qty dev seq = true) := by show _ = _; simp [cmdB, hzd, hzs, hitem, hzq]
   clear hitem
   subst hzd
   subst hzs
   subst hzq
   go_enter Tryz.func29, Tryz.ntmps29
   go_wp2_with (first | (go_at_call 60; refine (l3Item _ (by first | exact hs | exact Nat.zero_le _) _).mono ?_; rintro e w' ⟨rfl, rfl⟩; (first | rw [Hitem.out] | skip)) | (go_at_call 61; refine (l1In _ _ _ _).mono ?_; rintro e w' ⟨rfl, rfl⟩; skip) | (go_at_call 35; refine (l3Dev _ _).mono ?_; rintro e w' ⟨rfl, rfl⟩; skip))
   go_ret
   exact ⟨by rw [HE.out]; rfl, bl⟩
  ·have bzs : (seq == 0) = false := by rw [beq_eq_false_iff_ne]; exact hzs
   rcases hitem : itemB item with _ | _
   ·have Hitem := Lib.hid hitem
    have HE : Hid (cmdB 4 item qty dev seq = false) := by show _ = _; simp [cmdB, hzd, hzs, hitem]
    clear hzs hitem
    subst hzd
    go_enter Tryz.func29, Tryz.ntmps29
    go_wp2_with (first | (go_at_call 60; refine (l3Item _ (by first | exact hs | exact Nat.zero_le _) _).mono ?_; rintro e w' ⟨rfl, rfl⟩; (first | rw [Hitem.out] | skip)) | (go_at_call 61; refine (l1In _ _ _ _).mono ?_; rintro e w' ⟨rfl, rfl⟩; skip) | (go_at_call 35; refine (l3Dev _ _).mono ?_; rintro e w' ⟨rfl, rfl⟩; skip))
    go_ret
    exact ⟨by rw [HE.out]; rfl, bl⟩
   have Hitem := Lib.hid hitem
   by_cases hzq : qty = 0
   rotate_left
   ·have bzq : (qty == 0) = false := by rw [beq_eq_false_iff_ne]; exact hzq
    have HE : Hid (cmdB 4 item qty dev seq = false) := by show _ = _; simp [cmdB, hzd, hzs, hitem, hzq]
    clear hzs hitem hzq
    subst hzd
    go_enter Tryz.func29, Tryz.ntmps29
    go_wp2_with (first | (go_at_call 60; refine (l3Item _ (by first | exact hs | exact Nat.zero_le _) _).mono ?_; rintro e w' ⟨rfl, rfl⟩; (first | rw [Hitem.out] | skip)) | (go_at_call 61; refine (l1In _ _ _ _).mono ?_; rintro e w' ⟨rfl, rfl⟩; skip) | (go_at_call 35; refine (l3Dev _ _).mono ?_; rintro e w' ⟨rfl, rfl⟩; skip))
    go_ret
    exact ⟨by rw [HE.out]; rfl, bl⟩
   have HE : Hid (cmdB 4 item qty dev seq = false) := by show _ = _; simp [cmdB, hzd, hzs, hitem, hzq]
   clear hzs hitem
   subst hzd
   subst hzq
   go_enter Tryz.func29, Tryz.ntmps29
   go_wp2_with (first | (go_at_call 60; refine (l3Item _ (by first | exact hs | exact Nat.zero_le _) _).mono ?_; rintro e w' ⟨rfl, rfl⟩; (first | rw [Hitem.out] | skip)) | (go_at_call 61; refine (l1In _ _ _ _).mono ?_; rintro e w' ⟨rfl, rfl⟩; skip) | (go_at_call 35; refine (l3Dev _ _).mono ?_; rintro e w' ⟨rfl, rfl⟩; skip))
   go_ret
   exact ⟨by rw [HE.out]; rfl, bl⟩
 ·have bzd : (dev == 0) = false := by rw [beq_eq_false_iff_ne]; exact hzd
  by_cases hzs : seq = 0
  ·skip
   rcases hitem : itemB item with _ | _
   ·have Hitem := Lib.hid hitem
    have HE : Hid (cmdB 4 item qty dev seq = false) := by show _ = _; simp [cmdB, hzd, hzs, hitem]
    clear hzd hitem
    subst hzs
    go_enter Tryz.func29, Tryz.ntmps29
    go_wp2_with (first | (go_at_call 60; refine (l3Item _ (by first | exact hs | exact Nat.zero_le _) _).mono ?_; rintro e w' ⟨rfl, rfl⟩; (first | rw [Hitem.out] | skip)) | (go_at_call 61; refine (l1In _ _ _ _).mono ?_; rintro e w' ⟨rfl, rfl⟩; skip) | (go_at_call 35; refine (l3Dev _ _).mono ?_; rintro e w' ⟨rfl, rfl⟩; skip))
    go_ret
    exact ⟨by rw [HE.out]; rfl, bl⟩
   have Hitem := Lib.hid hitem
   by_cases hzq : qty = 0
   rotate_left
   ·have bzq : (qty == 0) = false := by rw [beq_eq_false_iff_ne]; exact hzq
    have HE : Hid (cmdB 4 item qty dev seq = false) := by show _ = _; simp [cmdB, hzd, hzs, hitem, hzq]
    clear hzd hitem hzq
    subst hzs
    go_enter Tryz.func29, Tryz.ntmps29
    go_wp2_with (first | (go_at_call 60; refine (l3Item _ (by first | exact hs | exact Nat.zero_le _) _).mono ?_; rintro e w' ⟨rfl, rfl⟩; (first | rw [Hitem.out] | skip)) | (go_at_call 61; refine (l1In _ _ _ _).mono ?_; rintro e w' ⟨rfl, rfl⟩; skip) | (go_at_call 35; refine (l3Dev _ _).mono ?_; rintro e w' ⟨rfl, rfl⟩; skip))
    go_ret
    exact ⟨by rw [HE.out]; rfl, bl⟩
   have HE : Hid (cmdB 4 item qty dev seq = false) := by show _ = _; simp [cmdB, hzd, hzs, hitem, hzq]
   clear hzd hitem
   subst hzs
   subst hzq
   go_enter Tryz.func29, Tryz.ntmps29
   go_wp2_with (first | (go_at_call 60; refine (l3Item _ (by first | exact hs | exact Nat.zero_le _) _).mono ?_; rintro e w' ⟨rfl, rfl⟩; (first | rw [Hitem.out] | skip)) | (go_at_call 61; refine (l1In _ _ _ _).mono ?_; rintro e w' ⟨rfl, rfl⟩; skip) | (go_at_call 35; refine (l3Dev _ _).mono ?_; rintro e w' ⟨rfl, rfl⟩; skip))
   go_ret
   exact ⟨by rw [HE.out]; rfl, bl⟩
  ·have bzs : (seq == 0) = false := by rw [beq_eq_false_iff_ne]; exact hzs
   rcases hitem : itemB item with _ | _
   ·have Hitem := Lib.hid hitem
    have HE : Hid (cmdB 4 item qty dev seq = false) := by show _ = _; simp [cmdB, hzd, hzs, hitem]
    clear hzd hzs hitem
    go_enter Tryz.func29, Tryz.ntmps29
    go_wp2_with (first | (go_at_call 60; refine (l3Item _ (by first | exact hs | exact Nat.zero_le _) _).mono ?_; rintro e w' ⟨rfl, rfl⟩; (first | rw [Hitem.out] | skip)) | (go_at_call 61; refine (l1In _ _ _ _).mono ?_; rintro e w' ⟨rfl, rfl⟩; skip) | (go_at_call 35; refine (l3Dev _ _).mono ?_; rintro e w' ⟨rfl, rfl⟩; skip))
    go_ret
    exact ⟨by rw [HE.out]; rfl, bl⟩
   have Hitem := Lib.hid hitem
   by_cases hzq : qty = 0
   rotate_left
   ·have bzq : (qty == 0) = false := by rw [beq_eq_false_iff_ne]; exact hzq
    have HE : Hid (cmdB 4 item qty dev seq = false) := by show _ = _; simp [cmdB, hzd, hzs, hitem, hzq]
    clear hzd hzs hitem hzq
    go_enter Tryz.func29, Tryz.ntmps29
    go_wp2_with (first | (go_at_call 60; refine (l3Item _ (by first | exact hs | exact Nat.zero_le _) _).mono ?_; rintro e w' ⟨rfl, rfl⟩; (first | rw [Hitem.out] | skip)) | (go_at_call 61; refine (l1In _ _ _ _).mono ?_; rintro e w' ⟨rfl, rfl⟩; skip) | (go_at_call 35; refine (l3Dev _ _).mono ?_; rintro e w' ⟨rfl, rfl⟩; skip))
    go_ret
    exact ⟨by rw [HE.out]; rfl, bl⟩
   have HE : Hid (cmdB 4 item qty dev seq = false) := by show _ = _; simp [cmdB, hzd, hzs, hitem, hzq]
   clear hzd hzs hitem
   subst hzq
   go_enter Tryz.func29, Tryz.ntmps29
   go_wp2_with (first | (go_at_call 60; refine (l3Item _ (by first | exact hs | exact Nat.zero_le _) _).mono ?_; rintro e w' ⟨rfl, rfl⟩; (first | rw [Hitem.out] | skip)) | (go_at_call 61; refine (l1In _ _ _ _).mono ?_; rintro e w' ⟨rfl, rfl⟩; skip) | (go_at_call 35; refine (l3Dev _ _).mono ?_; rintro e w' ⟨rfl, rfl⟩; skip))
   go_ret
   exact ⟨by rw [HE.out]; rfl, bl⟩
set_option maxHeartbeats 10000000 in
theorem specCmd5 (item : ByteArray) (qty dev seq : Int) (hs : item.size ≤ 1048576) (w : World) : Calls Tryz.prog 29 #[.agg #[.int .i64 5, .string item, .int .i64 qty, .int .i64 dev, .int .i64 seq]] w fun e w' => e = .returned (.bool (cmdB 5 item qty dev seq)) ∧ Below w.heap.size w w' := by
 have _hs := hs
 by_cases hzd : dev = 0
 ·by_cases hzs : seq = 0
  ·skip
   rcases hitem : itemB item with _ | _
   ·have Hitem := Lib.hid hitem
    have HE : Hid (cmdB 5 item qty dev seq = false) := by show _ = _; simp [cmdB, hzd, hzs, hitem]
    clear hitem
    subst hzd
    subst hzs
    go_enter Tryz.func29, Tryz.ntmps29
    go_wp2_with (first | (go_at_call 60; refine (l3Item _ (by first | exact hs | exact Nat.zero_le _) _).mono ?_; rintro e w' ⟨rfl, rfl⟩; (first | rw [Hitem.out] | skip)) | (go_at_call 61; refine (l1In _ _ _ _).mono ?_; rintro e w' ⟨rfl, rfl⟩; skip) | (go_at_call 35; refine (l3Dev _ _).mono ?_; rintro e w' ⟨rfl, rfl⟩; skip))
    go_ret
    exact ⟨by rw [HE.out]; rfl, bl⟩
   have Hitem := Lib.hid hitem
   by_cases hzq : qty = 0
   rotate_left
   ·have bzq : (qty == 0) = false := by rw [beq_eq_false_iff_ne]; exact hzq
    have HE : Hid (cmdB 5 item qty dev seq = false) := by show _ = _; simp [cmdB, hzd, hzs, hitem, hzq]
    clear hitem hzq
    subst hzd
    subst hzs
    go_enter Tryz.func29, Tryz.ntmps29
    go_wp2_with (first | (go_at_call 60; refine (l3Item _ (by first | exact hs | exact Nat.zero_le _) _).mono ?_; rintro e w' ⟨rfl, rfl⟩; (first | rw [Hitem.out] | skip)) | (go_at_call 61; refine (l1In _ _ _ _).mono ?_; rintro e w' ⟨rfl, rfl⟩; skip) | (go_at_call 35; refine (l3Dev _ _).mono ?_; rintro e w' ⟨rfl, rfl⟩; skip))
    go_ret
    exact ⟨by rw [HE.out]; rfl, bl⟩
   have HE : Hid (cmdB 5 item qty dev seq = true) := by show _ = _; simp [cmdB, hzd, hzs, hitem, hzq]
   clear hitem
   subst hzd
   subst hzs
   subst hzq
   go_enter Tryz.func29, Tryz.ntmps29
   go_wp2_with (first | (go_at_call 60; refine (l3Item _ (by first | exact hs | exact Nat.zero_le _) _).mono ?_; rintro e w' ⟨rfl, rfl⟩; (first | rw [Hitem.out] | skip)) | (go_at_call 61; refine (l1In _ _ _ _).mono ?_; rintro e w' ⟨rfl, rfl⟩; skip) | (go_at_call 35; refine (l3Dev _ _).mono ?_; rintro e w' ⟨rfl, rfl⟩; skip))
   go_ret
   exact ⟨by rw [HE.out]; rfl, bl⟩
  ·have bzs : (seq == 0) = false := by rw [beq_eq_false_iff_ne]; exact hzs
   rcases hitem : itemB item with _ | _
   ·have Hitem := Lib.hid hitem
    have HE : Hid (cmdB 5 item qty dev seq = false) := by show _ = _; simp [cmdB, hzd, hzs, hitem]
    clear hzs hitem
    subst hzd
    go_enter Tryz.func29, Tryz.ntmps29
    go_wp2_with (first | (go_at_call 60; refine (l3Item _ (by first | exact hs | exact Nat.zero_le _) _).mono ?_; rintro e w' ⟨rfl, rfl⟩; (first | rw [Hitem.out] | skip)) | (go_at_call 61; refine (l1In _ _ _ _).mono ?_; rintro e w' ⟨rfl, rfl⟩; skip) | (go_at_call 35; refine (l3Dev _ _).mono ?_; rintro e w' ⟨rfl, rfl⟩; skip))
    go_ret
    exact ⟨by rw [HE.out]; rfl, bl⟩
   have Hitem := Lib.hid hitem
   by_cases hzq : qty = 0
   rotate_left
   ·have bzq : (qty == 0) = false := by rw [beq_eq_false_iff_ne]; exact hzq
    have HE : Hid (cmdB 5 item qty dev seq = false) := by show _ = _; simp [cmdB, hzd, hzs, hitem, hzq]
    clear hzs hitem hzq
    subst hzd
    go_enter Tryz.func29, Tryz.ntmps29
    go_wp2_with (first | (go_at_call 60; refine (l3Item _ (by first | exact hs | exact Nat.zero_le _) _).mono ?_; rintro e w' ⟨rfl, rfl⟩; (first | rw [Hitem.out] | skip)) | (go_at_call 61; refine (l1In _ _ _ _).mono ?_; rintro e w' ⟨rfl, rfl⟩; skip) | (go_at_call 35; refine (l3Dev _ _).mono ?_; rintro e w' ⟨rfl, rfl⟩; skip))
    go_ret
    exact ⟨by rw [HE.out]; rfl, bl⟩
   have HE : Hid (cmdB 5 item qty dev seq = false) := by show _ = _; simp [cmdB, hzd, hzs, hitem, hzq]
   clear hzs hitem
   subst hzd
   subst hzq
   go_enter Tryz.func29, Tryz.ntmps29
   go_wp2_with (first | (go_at_call 60; refine (l3Item _ (by first | exact hs | exact Nat.zero_le _) _).mono ?_; rintro e w' ⟨rfl, rfl⟩; (first | rw [Hitem.out] | skip)) | (go_at_call 61; refine (l1In _ _ _ _).mono ?_; rintro e w' ⟨rfl, rfl⟩; skip) | (go_at_call 35; refine (l3Dev _ _).mono ?_; rintro e w' ⟨rfl, rfl⟩; skip))
   go_ret
   exact ⟨by rw [HE.out]; rfl, bl⟩
 ·have bzd : (dev == 0) = false := by rw [beq_eq_false_iff_ne]; exact hzd
  by_cases hzs : seq = 0
  ·skip
   rcases hitem : itemB item with _ | _
   ·have Hitem := Lib.hid hitem
    have HE : Hid (cmdB 5 item qty dev seq = false) := by show _ = _; simp [cmdB, hzd, hzs, hitem]
    clear hzd hitem
    subst hzs
    go_enter Tryz.func29, Tryz.ntmps29
    go_wp2_with (first | (go_at_call 60; refine (l3Item _ (by first | exact hs | exact Nat.zero_le _) _).mono ?_; rintro e w' ⟨rfl, rfl⟩; (first | rw [Hitem.out] | skip)) | (go_at_call 61; refine (l1In _ _ _ _).mono ?_; rintro e w' ⟨rfl, rfl⟩; skip) | (go_at_call 35; refine (l3Dev _ _).mono ?_; rintro e w' ⟨rfl, rfl⟩; skip))
    go_ret
    exact ⟨by rw [HE.out]; rfl, bl⟩
   have Hitem := Lib.hid hitem
   by_cases hzq : qty = 0
   rotate_left
   ·have bzq : (qty == 0) = false := by rw [beq_eq_false_iff_ne]; exact hzq
    have HE : Hid (cmdB 5 item qty dev seq = false) := by show _ = _; simp [cmdB, hzd, hzs, hitem, hzq]
    clear hzd hitem hzq
    subst hzs
    go_enter Tryz.func29, Tryz.ntmps29
    go_wp2_with (first | (go_at_call 60; refine (l3Item _ (by first | exact hs | exact Nat.zero_le _) _).mono ?_; rintro e w' ⟨rfl, rfl⟩; (first | rw [Hitem.out] | skip)) | (go_at_call 61; refine (l1In _ _ _ _).mono ?_; rintro e w' ⟨rfl, rfl⟩; skip) | (go_at_call 35; refine (l3Dev _ _).mono ?_; rintro e w' ⟨rfl, rfl⟩; skip))
    go_ret
    exact ⟨by rw [HE.out]; rfl, bl⟩
   have HE : Hid (cmdB 5 item qty dev seq = false) := by show _ = _; simp [cmdB, hzd, hzs, hitem, hzq]
   clear hzd hitem
   subst hzs
   subst hzq
   go_enter Tryz.func29, Tryz.ntmps29
   go_wp2_with (first | (go_at_call 60; refine (l3Item _ (by first | exact hs | exact Nat.zero_le _) _).mono ?_; rintro e w' ⟨rfl, rfl⟩; (first | rw [Hitem.out] | skip)) | (go_at_call 61; refine (l1In _ _ _ _).mono ?_; rintro e w' ⟨rfl, rfl⟩; skip) | (go_at_call 35; refine (l3Dev _ _).mono ?_; rintro e w' ⟨rfl, rfl⟩; skip))
   go_ret
   exact ⟨by rw [HE.out]; rfl, bl⟩
  ·have bzs : (seq == 0) = false := by rw [beq_eq_false_iff_ne]; exact hzs
   rcases hitem : itemB item with _ | _
   ·have Hitem := Lib.hid hitem
    have HE : Hid (cmdB 5 item qty dev seq = false) := by show _ = _; simp [cmdB, hzd, hzs, hitem]
    clear hzd hzs hitem
    go_enter Tryz.func29, Tryz.ntmps29
    go_wp2_with (first | (go_at_call 60; refine (l3Item _ (by first | exact hs | exact Nat.zero_le _) _).mono ?_; rintro e w' ⟨rfl, rfl⟩; (first | rw [Hitem.out] | skip)) | (go_at_call 61; refine (l1In _ _ _ _).mono ?_; rintro e w' ⟨rfl, rfl⟩; skip) | (go_at_call 35; refine (l3Dev _ _).mono ?_; rintro e w' ⟨rfl, rfl⟩; skip))
    go_ret
    exact ⟨by rw [HE.out]; rfl, bl⟩
   have Hitem := Lib.hid hitem
   by_cases hzq : qty = 0
   rotate_left
   ·have bzq : (qty == 0) = false := by rw [beq_eq_false_iff_ne]; exact hzq
    have HE : Hid (cmdB 5 item qty dev seq = false) := by show _ = _; simp [cmdB, hzd, hzs, hitem, hzq]
    clear hzd hzs hitem hzq
    go_enter Tryz.func29, Tryz.ntmps29
    go_wp2_with (first | (go_at_call 60; refine (l3Item _ (by first | exact hs | exact Nat.zero_le _) _).mono ?_; rintro e w' ⟨rfl, rfl⟩; (first | rw [Hitem.out] | skip)) | (go_at_call 61; refine (l1In _ _ _ _).mono ?_; rintro e w' ⟨rfl, rfl⟩; skip) | (go_at_call 35; refine (l3Dev _ _).mono ?_; rintro e w' ⟨rfl, rfl⟩; skip))
    go_ret
    exact ⟨by rw [HE.out]; rfl, bl⟩
   have HE : Hid (cmdB 5 item qty dev seq = false) := by show _ = _; simp [cmdB, hzd, hzs, hitem, hzq]
   clear hzd hzs hitem
   subst hzq
   go_enter Tryz.func29, Tryz.ntmps29
   go_wp2_with (first | (go_at_call 60; refine (l3Item _ (by first | exact hs | exact Nat.zero_le _) _).mono ?_; rintro e w' ⟨rfl, rfl⟩; (first | rw [Hitem.out] | skip)) | (go_at_call 61; refine (l1In _ _ _ _).mono ?_; rintro e w' ⟨rfl, rfl⟩; skip) | (go_at_call 35; refine (l3Dev _ _).mono ?_; rintro e w' ⟨rfl, rfl⟩; skip))
   go_ret
   exact ⟨by rw [HE.out]; rfl, bl⟩
set_option maxHeartbeats 10000000 in
theorem specCmd6 (item : ByteArray) (qty dev seq : Int) (hs : item.size ≤ 1048576) (w : World) : Calls Tryz.prog 29 #[.agg #[.int .i64 6, .string item, .int .i64 qty, .int .i64 dev, .int .i64 seq]] w fun e w' => e = .returned (.bool (cmdB 6 item qty dev seq)) ∧ Below w.heap.size w w' := by
 have _hs := hs
 by_cases hzd : dev = 0
 ·by_cases hzs : seq = 0
  ·skip
   by_cases he : item = ⟨#[]⟩
   rotate_left
   ·have hn1 := no_text he
    have hn2 : item.toList.isEmpty = false := by rw [List.isEmpty_eq_false_iff]; exact hn1
    have hn3 : (item.toList == []) = false := by rw [beq_eq_false_iff_ne]; exact hn1
    have HE : Hid (cmdB 6 item qty dev seq = false) := by show _ = _; simp [cmdB, hzd, hzs, he]
    clear he
    subst hzd
    subst hzs
    go_enter Tryz.func29, Tryz.ntmps29
    go_wp2_with (first | (go_at_call 60; refine (l3Item _ (by first | exact hs | exact Nat.zero_le _) _).mono ?_; rintro e w' ⟨rfl, rfl⟩; skip) | (go_at_call 61; refine (l1In _ _ _ _).mono ?_; rintro e w' ⟨rfl, rfl⟩; skip) | (go_at_call 35; refine (l3Dev _ _).mono ?_; rintro e w' ⟨rfl, rfl⟩; skip))
    go_ret
    exact ⟨by rw [HE.out]; rfl, bl⟩
   by_cases hzq : qty = 0
   rotate_left
   ·have bzq : (qty == 0) = false := by rw [beq_eq_false_iff_ne]; exact hzq
    have HE : Hid (cmdB 6 item qty dev seq = false) := by show _ = _; simp [cmdB, hzd, hzs, he, hzq]
    clear hzq
    subst hzd
    subst hzs
    subst he
    go_enter Tryz.func29, Tryz.ntmps29
    go_wp2_with (first | (go_at_call 60; refine (l3Item _ (by first | exact hs | exact Nat.zero_le _) _).mono ?_; rintro e w' ⟨rfl, rfl⟩; skip) | (go_at_call 61; refine (l1In _ _ _ _).mono ?_; rintro e w' ⟨rfl, rfl⟩; skip) | (go_at_call 35; refine (l3Dev _ _).mono ?_; rintro e w' ⟨rfl, rfl⟩; skip))
    go_ret
    exact ⟨by rw [HE.out]; rfl, bl⟩
   have HE : Hid (cmdB 6 item qty dev seq = true) := by show _ = _; simp [cmdB, hzd, hzs, he, hzq]
   subst hzd
   subst hzs
   subst he
   subst hzq
   go_enter Tryz.func29, Tryz.ntmps29
   go_wp2_with (first | (go_at_call 60; refine (l3Item _ (by first | exact hs | exact Nat.zero_le _) _).mono ?_; rintro e w' ⟨rfl, rfl⟩; skip) | (go_at_call 61; refine (l1In _ _ _ _).mono ?_; rintro e w' ⟨rfl, rfl⟩; skip) | (go_at_call 35; refine (l3Dev _ _).mono ?_; rintro e w' ⟨rfl, rfl⟩; skip))
   go_ret
   exact ⟨by rw [HE.out]; rfl, bl⟩
  ·have bzs : (seq == 0) = false := by rw [beq_eq_false_iff_ne]; exact hzs
   by_cases he : item = ⟨#[]⟩
   rotate_left
   ·have hn1 := no_text he
    have hn2 : item.toList.isEmpty = false := by rw [List.isEmpty_eq_false_iff]; exact hn1
    have hn3 : (item.toList == []) = false := by rw [beq_eq_false_iff_ne]; exact hn1
    have HE : Hid (cmdB 6 item qty dev seq = false) := by show _ = _; simp [cmdB, hzd, hzs, he]
    clear hzs he
    subst hzd
    go_enter Tryz.func29, Tryz.ntmps29
    go_wp2_with (first | (go_at_call 60; refine (l3Item _ (by first | exact hs | exact Nat.zero_le _) _).mono ?_; rintro e w' ⟨rfl, rfl⟩; skip) | (go_at_call 61; refine (l1In _ _ _ _).mono ?_; rintro e w' ⟨rfl, rfl⟩; skip) | (go_at_call 35; refine (l3Dev _ _).mono ?_; rintro e w' ⟨rfl, rfl⟩; skip))
    go_ret
    exact ⟨by rw [HE.out]; rfl, bl⟩
   by_cases hzq : qty = 0
   rotate_left
   ·have bzq : (qty == 0) = false := by rw [beq_eq_false_iff_ne]; exact hzq
    have HE : Hid (cmdB 6 item qty dev seq = false) := by show _ = _; simp [cmdB, hzd, hzs, he, hzq]
    clear hzs hzq
    subst hzd
    subst he
    go_enter Tryz.func29, Tryz.ntmps29
    go_wp2_with (first | (go_at_call 60; refine (l3Item _ (by first | exact hs | exact Nat.zero_le _) _).mono ?_; rintro e w' ⟨rfl, rfl⟩; skip) | (go_at_call 61; refine (l1In _ _ _ _).mono ?_; rintro e w' ⟨rfl, rfl⟩; skip) | (go_at_call 35; refine (l3Dev _ _).mono ?_; rintro e w' ⟨rfl, rfl⟩; skip))
    go_ret
    exact ⟨by rw [HE.out]; rfl, bl⟩
   have HE : Hid (cmdB 6 item qty dev seq = false) := by show _ = _; simp [cmdB, hzd, hzs, he, hzq]
   clear hzs
   subst hzd
   subst he
   subst hzq
   go_enter Tryz.func29, Tryz.ntmps29
   go_wp2_with (first | (go_at_call 60; refine (l3Item _ (by first | exact hs | exact Nat.zero_le _) _).mono ?_; rintro e w' ⟨rfl, rfl⟩; skip) | (go_at_call 61; refine (l1In _ _ _ _).mono ?_; rintro e w' ⟨rfl, rfl⟩; skip) | (go_at_call 35; refine (l3Dev _ _).mono ?_; rintro e w' ⟨rfl, rfl⟩; skip))
   go_ret
   exact ⟨by rw [HE.out]; rfl, bl⟩
 ·have bzd : (dev == 0) = false := by rw [beq_eq_false_iff_ne]; exact hzd
  by_cases hzs : seq = 0
  ·skip
   by_cases he : item = ⟨#[]⟩
   rotate_left
   ·have hn1 := no_text he
    have hn2 : item.toList.isEmpty = false := by rw [List.isEmpty_eq_false_iff]; exact hn1
    have hn3 : (item.toList == []) = false := by rw [beq_eq_false_iff_ne]; exact hn1
    have HE : Hid (cmdB 6 item qty dev seq = false) := by show _ = _; simp [cmdB, hzd, hzs, he]
    clear hzd he
    subst hzs
    go_enter Tryz.func29, Tryz.ntmps29
    go_wp2_with (first | (go_at_call 60; refine (l3Item _ (by first | exact hs | exact Nat.zero_le _) _).mono ?_; rintro e w' ⟨rfl, rfl⟩; skip) | (go_at_call 61; refine (l1In _ _ _ _).mono ?_; rintro e w' ⟨rfl, rfl⟩; skip) | (go_at_call 35; refine (l3Dev _ _).mono ?_; rintro e w' ⟨rfl, rfl⟩; skip))
    go_ret
    exact ⟨by rw [HE.out]; rfl, bl⟩
   by_cases hzq : qty = 0
   rotate_left
   ·have bzq : (qty == 0) = false := by rw [beq_eq_false_iff_ne]; exact hzq
    have HE : Hid (cmdB 6 item qty dev seq = false) := by show _ = _; simp [cmdB, hzd, hzs, he, hzq]
    clear hzd hzq
    subst hzs
    subst he
    go_enter Tryz.func29, Tryz.ntmps29
    go_wp2_with (first | (go_at_call 60; refine (l3Item _ (by first | exact hs | exact Nat.zero_le _) _).mono ?_; rintro e w' ⟨rfl, rfl⟩; skip) | (go_at_call 61; refine (l1In _ _ _ _).mono ?_; rintro e w' ⟨rfl, rfl⟩; skip) | (go_at_call 35; refine (l3Dev _ _).mono ?_; rintro e w' ⟨rfl, rfl⟩; skip))
    go_ret
    exact ⟨by rw [HE.out]; rfl, bl⟩
   have HE : Hid (cmdB 6 item qty dev seq = false) := by show _ = _; simp [cmdB, hzd, hzs, he, hzq]
   clear hzd
   subst hzs
   subst he
   subst hzq
   go_enter Tryz.func29, Tryz.ntmps29
   go_wp2_with (first | (go_at_call 60; refine (l3Item _ (by first | exact hs | exact Nat.zero_le _) _).mono ?_; rintro e w' ⟨rfl, rfl⟩; skip) | (go_at_call 61; refine (l1In _ _ _ _).mono ?_; rintro e w' ⟨rfl, rfl⟩; skip) | (go_at_call 35; refine (l3Dev _ _).mono ?_; rintro e w' ⟨rfl, rfl⟩; skip))
   go_ret
   exact ⟨by rw [HE.out]; rfl, bl⟩
  ·have bzs : (seq == 0) = false := by rw [beq_eq_false_iff_ne]; exact hzs
   by_cases he : item = ⟨#[]⟩
   rotate_left
   ·have hn1 := no_text he
    have hn2 : item.toList.isEmpty = false := by rw [List.isEmpty_eq_false_iff]; exact hn1
    have hn3 : (item.toList == []) = false := by rw [beq_eq_false_iff_ne]; exact hn1
    have HE : Hid (cmdB 6 item qty dev seq = false) := by show _ = _; simp [cmdB, hzd, hzs, he]
    clear hzd hzs he
    go_enter Tryz.func29, Tryz.ntmps29
    go_wp2_with (first | (go_at_call 60; refine (l3Item _ (by first | exact hs | exact Nat.zero_le _) _).mono ?_; rintro e w' ⟨rfl, rfl⟩; skip) | (go_at_call 61; refine (l1In _ _ _ _).mono ?_; rintro e w' ⟨rfl, rfl⟩; skip) | (go_at_call 35; refine (l3Dev _ _).mono ?_; rintro e w' ⟨rfl, rfl⟩; skip))
    go_ret
    exact ⟨by rw [HE.out]; rfl, bl⟩
   by_cases hzq : qty = 0
   rotate_left
   ·have bzq : (qty == 0) = false := by rw [beq_eq_false_iff_ne]; exact hzq
    have HE : Hid (cmdB 6 item qty dev seq = false) := by show _ = _; simp [cmdB, hzd, hzs, he, hzq]
    clear hzd hzs hzq
    subst he
    go_enter Tryz.func29, Tryz.ntmps29
    go_wp2_with (first | (go_at_call 60; refine (l3Item _ (by first | exact hs | exact Nat.zero_le _) _).mono ?_; rintro e w' ⟨rfl, rfl⟩; skip) | (go_at_call 61; refine (l1In _ _ _ _).mono ?_; rintro e w' ⟨rfl, rfl⟩; skip) | (go_at_call 35; refine (l3Dev _ _).mono ?_; rintro e w' ⟨rfl, rfl⟩; skip))
    go_ret
    exact ⟨by rw [HE.out]; rfl, bl⟩
   have HE : Hid (cmdB 6 item qty dev seq = false) := by show _ = _; simp [cmdB, hzd, hzs, he, hzq]
   clear hzd hzs
   subst he
   subst hzq
   go_enter Tryz.func29, Tryz.ntmps29
   go_wp2_with (first | (go_at_call 60; refine (l3Item _ (by first | exact hs | exact Nat.zero_le _) _).mono ?_; rintro e w' ⟨rfl, rfl⟩; skip) | (go_at_call 61; refine (l1In _ _ _ _).mono ?_; rintro e w' ⟨rfl, rfl⟩; skip) | (go_at_call 35; refine (l3Dev _ _).mono ?_; rintro e w' ⟨rfl, rfl⟩; skip))
   go_ret
   exact ⟨by rw [HE.out]; rfl, bl⟩
set_option maxHeartbeats 10000000 in
theorem specCmd7 (item : ByteArray) (qty dev seq : Int) (hs : item.size ≤ 1048576) (w : World) : Calls Tryz.prog 29 #[.agg #[.int .i64 7, .string item, .int .i64 qty, .int .i64 dev, .int .i64 seq]] w fun e w' => e = .returned (.bool (cmdB 7 item qty dev seq)) ∧ Below w.heap.size w w' := by
 have _hs := hs
 by_cases hzd : dev = 0
 ·by_cases hzs : seq = 0
  ·skip
   by_cases he : item = ⟨#[]⟩
   rotate_left
   ·have hn1 := no_text he
    have hn2 : item.toList.isEmpty = false := by rw [List.isEmpty_eq_false_iff]; exact hn1
    have hn3 : (item.toList == []) = false := by rw [beq_eq_false_iff_ne]; exact hn1
    have HE : Hid (cmdB 7 item qty dev seq = false) := by show _ = _; simp [cmdB, hzd, hzs, he]
    clear he
    subst hzd
    subst hzs
    go_enter Tryz.func29, Tryz.ntmps29
    go_wp2_with (first | (go_at_call 60; refine (l3Item _ (by first | exact hs | exact Nat.zero_le _) _).mono ?_; rintro e w' ⟨rfl, rfl⟩; skip) | (go_at_call 61; refine (l1In _ _ _ _).mono ?_; rintro e w' ⟨rfl, rfl⟩; skip) | (go_at_call 35; refine (l3Dev _ _).mono ?_; rintro e w' ⟨rfl, rfl⟩; skip))
    go_ret
    exact ⟨by rw [HE.out]; rfl, bl⟩
   by_cases hzq : qty = 0
   rotate_left
   ·have bzq : (qty == 0) = false := by rw [beq_eq_false_iff_ne]; exact hzq
    have HE : Hid (cmdB 7 item qty dev seq = false) := by show _ = _; simp [cmdB, hzd, hzs, he, hzq]
    clear hzq
    subst hzd
    subst hzs
    subst he
    go_enter Tryz.func29, Tryz.ntmps29
    go_wp2_with (first | (go_at_call 60; refine (l3Item _ (by first | exact hs | exact Nat.zero_le _) _).mono ?_; rintro e w' ⟨rfl, rfl⟩; skip) | (go_at_call 61; refine (l1In _ _ _ _).mono ?_; rintro e w' ⟨rfl, rfl⟩; skip) | (go_at_call 35; refine (l3Dev _ _).mono ?_; rintro e w' ⟨rfl, rfl⟩; skip))
    go_ret
    exact ⟨by rw [HE.out]; rfl, bl⟩
   have HE : Hid (cmdB 7 item qty dev seq = true) := by show _ = _; simp [cmdB, hzd, hzs, he, hzq]
   subst hzd
   subst hzs
   subst he
   subst hzq
   go_enter Tryz.func29, Tryz.ntmps29
   go_wp2_with (first | (go_at_call 60; refine (l3Item _ (by first | exact hs | exact Nat.zero_le _) _).mono ?_; rintro e w' ⟨rfl, rfl⟩; skip) | (go_at_call 61; refine (l1In _ _ _ _).mono ?_; rintro e w' ⟨rfl, rfl⟩; skip) | (go_at_call 35; refine (l3Dev _ _).mono ?_; rintro e w' ⟨rfl, rfl⟩; skip))
   go_ret
   exact ⟨by rw [HE.out]; rfl, bl⟩
  ·have bzs : (seq == 0) = false := by rw [beq_eq_false_iff_ne]; exact hzs
   by_cases he : item = ⟨#[]⟩
   rotate_left
   ·have hn1 := no_text he
    have hn2 : item.toList.isEmpty = false := by rw [List.isEmpty_eq_false_iff]; exact hn1
    have hn3 : (item.toList == []) = false := by rw [beq_eq_false_iff_ne]; exact hn1
    have HE : Hid (cmdB 7 item qty dev seq = false) := by show _ = _; simp [cmdB, hzd, hzs, he]
    clear hzs he
    subst hzd
    go_enter Tryz.func29, Tryz.ntmps29
    go_wp2_with (first | (go_at_call 60; refine (l3Item _ (by first | exact hs | exact Nat.zero_le _) _).mono ?_; rintro e w' ⟨rfl, rfl⟩; skip) | (go_at_call 61; refine (l1In _ _ _ _).mono ?_; rintro e w' ⟨rfl, rfl⟩; skip) | (go_at_call 35; refine (l3Dev _ _).mono ?_; rintro e w' ⟨rfl, rfl⟩; skip))
    go_ret
    exact ⟨by rw [HE.out]; rfl, bl⟩
   by_cases hzq : qty = 0
   rotate_left
   ·have bzq : (qty == 0) = false := by rw [beq_eq_false_iff_ne]; exact hzq
    have HE : Hid (cmdB 7 item qty dev seq = false) := by show _ = _; simp [cmdB, hzd, hzs, he, hzq]
    clear hzs hzq
    subst hzd
    subst he
    go_enter Tryz.func29, Tryz.ntmps29
    go_wp2_with (first | (go_at_call 60; refine (l3Item _ (by first | exact hs | exact Nat.zero_le _) _).mono ?_; rintro e w' ⟨rfl, rfl⟩; skip) | (go_at_call 61; refine (l1In _ _ _ _).mono ?_; rintro e w' ⟨rfl, rfl⟩; skip) | (go_at_call 35; refine (l3Dev _ _).mono ?_; rintro e w' ⟨rfl, rfl⟩; skip))
    go_ret
    exact ⟨by rw [HE.out]; rfl, bl⟩
   have HE : Hid (cmdB 7 item qty dev seq = false) := by show _ = _; simp [cmdB, hzd, hzs, he, hzq]
   clear hzs
   subst hzd
   subst he
   subst hzq
   go_enter Tryz.func29, Tryz.ntmps29
   go_wp2_with (first | (go_at_call 60; refine (l3Item _ (by first | exact hs | exact Nat.zero_le _) _).mono ?_; rintro e w' ⟨rfl, rfl⟩; skip) | (go_at_call 61; refine (l1In _ _ _ _).mono ?_; rintro e w' ⟨rfl, rfl⟩; skip) | (go_at_call 35; refine (l3Dev _ _).mono ?_; rintro e w' ⟨rfl, rfl⟩; skip))
   go_ret
   exact ⟨by rw [HE.out]; rfl, bl⟩
 ·have bzd : (dev == 0) = false := by rw [beq_eq_false_iff_ne]; exact hzd
  by_cases hzs : seq = 0
  ·skip
   by_cases he : item = ⟨#[]⟩
   rotate_left
   ·have hn1 := no_text he
    have hn2 : item.toList.isEmpty = false := by rw [List.isEmpty_eq_false_iff]; exact hn1
    have hn3 : (item.toList == []) = false := by rw [beq_eq_false_iff_ne]; exact hn1
    have HE : Hid (cmdB 7 item qty dev seq = false) := by show _ = _; simp [cmdB, hzd, hzs, he]
    clear hzd he
    subst hzs
    go_enter Tryz.func29, Tryz.ntmps29
    go_wp2_with (first | (go_at_call 60; refine (l3Item _ (by first | exact hs | exact Nat.zero_le _) _).mono ?_; rintro e w' ⟨rfl, rfl⟩; skip) | (go_at_call 61; refine (l1In _ _ _ _).mono ?_; rintro e w' ⟨rfl, rfl⟩; skip) | (go_at_call 35; refine (l3Dev _ _).mono ?_; rintro e w' ⟨rfl, rfl⟩; skip))
    go_ret
    exact ⟨by rw [HE.out]; rfl, bl⟩
   by_cases hzq : qty = 0
   rotate_left
   ·have bzq : (qty == 0) = false := by rw [beq_eq_false_iff_ne]; exact hzq
    have HE : Hid (cmdB 7 item qty dev seq = false) := by show _ = _; simp [cmdB, hzd, hzs, he, hzq]
    clear hzd hzq
    subst hzs
    subst he
    go_enter Tryz.func29, Tryz.ntmps29
    go_wp2_with (first | (go_at_call 60; refine (l3Item _ (by first | exact hs | exact Nat.zero_le _) _).mono ?_; rintro e w' ⟨rfl, rfl⟩; skip) | (go_at_call 61; refine (l1In _ _ _ _).mono ?_; rintro e w' ⟨rfl, rfl⟩; skip) | (go_at_call 35; refine (l3Dev _ _).mono ?_; rintro e w' ⟨rfl, rfl⟩; skip))
    go_ret
    exact ⟨by rw [HE.out]; rfl, bl⟩
   have HE : Hid (cmdB 7 item qty dev seq = false) := by show _ = _; simp [cmdB, hzd, hzs, he, hzq]
   clear hzd
   subst hzs
   subst he
   subst hzq
   go_enter Tryz.func29, Tryz.ntmps29
   go_wp2_with (first | (go_at_call 60; refine (l3Item _ (by first | exact hs | exact Nat.zero_le _) _).mono ?_; rintro e w' ⟨rfl, rfl⟩; skip) | (go_at_call 61; refine (l1In _ _ _ _).mono ?_; rintro e w' ⟨rfl, rfl⟩; skip) | (go_at_call 35; refine (l3Dev _ _).mono ?_; rintro e w' ⟨rfl, rfl⟩; skip))
   go_ret
   exact ⟨by rw [HE.out]; rfl, bl⟩
  ·have bzs : (seq == 0) = false := by rw [beq_eq_false_iff_ne]; exact hzs
   by_cases he : item = ⟨#[]⟩
   rotate_left
   ·have hn1 := no_text he
    have hn2 : item.toList.isEmpty = false := by rw [List.isEmpty_eq_false_iff]; exact hn1
    have hn3 : (item.toList == []) = false := by rw [beq_eq_false_iff_ne]; exact hn1
    have HE : Hid (cmdB 7 item qty dev seq = false) := by show _ = _; simp [cmdB, hzd, hzs, he]
    clear hzd hzs he
    go_enter Tryz.func29, Tryz.ntmps29
    go_wp2_with (first | (go_at_call 60; refine (l3Item _ (by first | exact hs | exact Nat.zero_le _) _).mono ?_; rintro e w' ⟨rfl, rfl⟩; skip) | (go_at_call 61; refine (l1In _ _ _ _).mono ?_; rintro e w' ⟨rfl, rfl⟩; skip) | (go_at_call 35; refine (l3Dev _ _).mono ?_; rintro e w' ⟨rfl, rfl⟩; skip))
    go_ret
    exact ⟨by rw [HE.out]; rfl, bl⟩
   by_cases hzq : qty = 0
   rotate_left
   ·have bzq : (qty == 0) = false := by rw [beq_eq_false_iff_ne]; exact hzq
    have HE : Hid (cmdB 7 item qty dev seq = false) := by show _ = _; simp [cmdB, hzd, hzs, he, hzq]
    clear hzd hzs hzq
    subst he
    go_enter Tryz.func29, Tryz.ntmps29
    go_wp2_with (first | (go_at_call 60; refine (l3Item _ (by first | exact hs | exact Nat.zero_le _) _).mono ?_; rintro e w' ⟨rfl, rfl⟩; skip) | (go_at_call 61; refine (l1In _ _ _ _).mono ?_; rintro e w' ⟨rfl, rfl⟩; skip) | (go_at_call 35; refine (l3Dev _ _).mono ?_; rintro e w' ⟨rfl, rfl⟩; skip))
    go_ret
    exact ⟨by rw [HE.out]; rfl, bl⟩
   have HE : Hid (cmdB 7 item qty dev seq = false) := by show _ = _; simp [cmdB, hzd, hzs, he, hzq]
   clear hzd hzs
   subst he
   subst hzq
   go_enter Tryz.func29, Tryz.ntmps29
   go_wp2_with (first | (go_at_call 60; refine (l3Item _ (by first | exact hs | exact Nat.zero_le _) _).mono ?_; rintro e w' ⟨rfl, rfl⟩; skip) | (go_at_call 61; refine (l1In _ _ _ _).mono ?_; rintro e w' ⟨rfl, rfl⟩; skip) | (go_at_call 35; refine (l3Dev _ _).mono ?_; rintro e w' ⟨rfl, rfl⟩; skip))
   go_ret
   exact ⟨by rw [HE.out]; rfl, bl⟩
set_option maxHeartbeats 10000000 in
theorem specCmd8 (item : ByteArray) (qty dev seq : Int) (hs : item.size ≤ 1048576) (w : World) : Calls Tryz.prog 29 #[.agg #[.int .i64 8, .string item, .int .i64 qty, .int .i64 dev, .int .i64 seq]] w fun e w' => e = .returned (.bool (cmdB 8 item qty dev seq)) ∧ Below w.heap.size w w' := by
 have _hs := hs
 by_cases hzd : dev = 0
 ·by_cases hzs : seq = 0
  ·skip
   by_cases he : item = ⟨#[]⟩
   rotate_left
   ·have hn1 := no_text he
    have hn2 : item.toList.isEmpty = false := by rw [List.isEmpty_eq_false_iff]; exact hn1
    have hn3 : (item.toList == []) = false := by rw [beq_eq_false_iff_ne]; exact hn1
    have HE : Hid (cmdB 8 item qty dev seq = false) := by show _ = _; simp [cmdB, hzd, hzs, he]
    clear he
    subst hzd
    subst hzs
    go_enter Tryz.func29, Tryz.ntmps29
    go_wp2_with (first | (go_at_call 60; refine (l3Item _ (by first | exact hs | exact Nat.zero_le _) _).mono ?_; rintro e w' ⟨rfl, rfl⟩; skip) | (go_at_call 61; refine (l1In _ _ _ _).mono ?_; rintro e w' ⟨rfl, rfl⟩; skip) | (go_at_call 35; refine (l3Dev _ _).mono ?_; rintro e w' ⟨rfl, rfl⟩; skip))
    go_ret
    exact ⟨by rw [HE.out]; rfl, bl⟩
   by_cases hzq : qty = 0
   rotate_left
   ·have bzq : (qty == 0) = false := by rw [beq_eq_false_iff_ne]; exact hzq
    have HE : Hid (cmdB 8 item qty dev seq = false) := by show _ = _; simp [cmdB, hzd, hzs, he, hzq]
    clear hzq
    subst hzd
    subst hzs
    subst he
    go_enter Tryz.func29, Tryz.ntmps29
    go_wp2_with (first | (go_at_call 60; refine (l3Item _ (by first | exact hs | exact Nat.zero_le _) _).mono ?_; rintro e w' ⟨rfl, rfl⟩; skip) | (go_at_call 61; refine (l1In _ _ _ _).mono ?_; rintro e w' ⟨rfl, rfl⟩; skip) | (go_at_call 35; refine (l3Dev _ _).mono ?_; rintro e w' ⟨rfl, rfl⟩; skip))
    go_ret
    exact ⟨by rw [HE.out]; rfl, bl⟩
   have HE : Hid (cmdB 8 item qty dev seq = true) := by show _ = _; simp [cmdB, hzd, hzs, he, hzq]
   subst hzd
   subst hzs
   subst he
   subst hzq
   go_enter Tryz.func29, Tryz.ntmps29
   go_wp2_with (first | (go_at_call 60; refine (l3Item _ (by first | exact hs | exact Nat.zero_le _) _).mono ?_; rintro e w' ⟨rfl, rfl⟩; skip) | (go_at_call 61; refine (l1In _ _ _ _).mono ?_; rintro e w' ⟨rfl, rfl⟩; skip) | (go_at_call 35; refine (l3Dev _ _).mono ?_; rintro e w' ⟨rfl, rfl⟩; skip))
   go_ret
   exact ⟨by rw [HE.out]; rfl, bl⟩
  ·have bzs : (seq == 0) = false := by rw [beq_eq_false_iff_ne]; exact hzs
   by_cases he : item = ⟨#[]⟩
   rotate_left
   ·have hn1 := no_text he
    have hn2 : item.toList.isEmpty = false := by rw [List.isEmpty_eq_false_iff]; exact hn1
    have hn3 : (item.toList == []) = false := by rw [beq_eq_false_iff_ne]; exact hn1
    have HE : Hid (cmdB 8 item qty dev seq = false) := by show _ = _; simp [cmdB, hzd, hzs, he]
    clear hzs he
    subst hzd
    go_enter Tryz.func29, Tryz.ntmps29
    go_wp2_with (first | (go_at_call 60; refine (l3Item _ (by first | exact hs | exact Nat.zero_le _) _).mono ?_; rintro e w' ⟨rfl, rfl⟩; skip) | (go_at_call 61; refine (l1In _ _ _ _).mono ?_; rintro e w' ⟨rfl, rfl⟩; skip) | (go_at_call 35; refine (l3Dev _ _).mono ?_; rintro e w' ⟨rfl, rfl⟩; skip))
    go_ret
    exact ⟨by rw [HE.out]; rfl, bl⟩
   by_cases hzq : qty = 0
   rotate_left
   ·have bzq : (qty == 0) = false := by rw [beq_eq_false_iff_ne]; exact hzq
    have HE : Hid (cmdB 8 item qty dev seq = false) := by show _ = _; simp [cmdB, hzd, hzs, he, hzq]
    clear hzs hzq
    subst hzd
    subst he
    go_enter Tryz.func29, Tryz.ntmps29
    go_wp2_with (first | (go_at_call 60; refine (l3Item _ (by first | exact hs | exact Nat.zero_le _) _).mono ?_; rintro e w' ⟨rfl, rfl⟩; skip) | (go_at_call 61; refine (l1In _ _ _ _).mono ?_; rintro e w' ⟨rfl, rfl⟩; skip) | (go_at_call 35; refine (l3Dev _ _).mono ?_; rintro e w' ⟨rfl, rfl⟩; skip))
    go_ret
    exact ⟨by rw [HE.out]; rfl, bl⟩
   have HE : Hid (cmdB 8 item qty dev seq = false) := by show _ = _; simp [cmdB, hzd, hzs, he, hzq]
   clear hzs
   subst hzd
   subst he
   subst hzq
   go_enter Tryz.func29, Tryz.ntmps29
   go_wp2_with (first | (go_at_call 60; refine (l3Item _ (by first | exact hs | exact Nat.zero_le _) _).mono ?_; rintro e w' ⟨rfl, rfl⟩; skip) | (go_at_call 61; refine (l1In _ _ _ _).mono ?_; rintro e w' ⟨rfl, rfl⟩; skip) | (go_at_call 35; refine (l3Dev _ _).mono ?_; rintro e w' ⟨rfl, rfl⟩; skip))
   go_ret
   exact ⟨by rw [HE.out]; rfl, bl⟩
 ·have bzd : (dev == 0) = false := by rw [beq_eq_false_iff_ne]; exact hzd
  by_cases hzs : seq = 0
  ·skip
   by_cases he : item = ⟨#[]⟩
   rotate_left
   ·have hn1 := no_text he
    have hn2 : item.toList.isEmpty = false := by rw [List.isEmpty_eq_false_iff]; exact hn1
    have hn3 : (item.toList == []) = false := by rw [beq_eq_false_iff_ne]; exact hn1
    have HE : Hid (cmdB 8 item qty dev seq = false) := by show _ = _; simp [cmdB, hzd, hzs, he]
    clear hzd he
    subst hzs
    go_enter Tryz.func29, Tryz.ntmps29
    go_wp2_with (first | (go_at_call 60; refine (l3Item _ (by first | exact hs | exact Nat.zero_le _) _).mono ?_; rintro e w' ⟨rfl, rfl⟩; skip) | (go_at_call 61; refine (l1In _ _ _ _).mono ?_; rintro e w' ⟨rfl, rfl⟩; skip) | (go_at_call 35; refine (l3Dev _ _).mono ?_; rintro e w' ⟨rfl, rfl⟩; skip))
    go_ret
    exact ⟨by rw [HE.out]; rfl, bl⟩
   by_cases hzq : qty = 0
   rotate_left
   ·have bzq : (qty == 0) = false := by rw [beq_eq_false_iff_ne]; exact hzq
    have HE : Hid (cmdB 8 item qty dev seq = false) := by show _ = _; simp [cmdB, hzd, hzs, he, hzq]
    clear hzd hzq
    subst hzs
    subst he
    go_enter Tryz.func29, Tryz.ntmps29
    go_wp2_with (first | (go_at_call 60; refine (l3Item _ (by first | exact hs | exact Nat.zero_le _) _).mono ?_; rintro e w' ⟨rfl, rfl⟩; skip) | (go_at_call 61; refine (l1In _ _ _ _).mono ?_; rintro e w' ⟨rfl, rfl⟩; skip) | (go_at_call 35; refine (l3Dev _ _).mono ?_; rintro e w' ⟨rfl, rfl⟩; skip))
    go_ret
    exact ⟨by rw [HE.out]; rfl, bl⟩
   have HE : Hid (cmdB 8 item qty dev seq = false) := by show _ = _; simp [cmdB, hzd, hzs, he, hzq]
   clear hzd
   subst hzs
   subst he
   subst hzq
   go_enter Tryz.func29, Tryz.ntmps29
   go_wp2_with (first | (go_at_call 60; refine (l3Item _ (by first | exact hs | exact Nat.zero_le _) _).mono ?_; rintro e w' ⟨rfl, rfl⟩; skip) | (go_at_call 61; refine (l1In _ _ _ _).mono ?_; rintro e w' ⟨rfl, rfl⟩; skip) | (go_at_call 35; refine (l3Dev _ _).mono ?_; rintro e w' ⟨rfl, rfl⟩; skip))
   go_ret
   exact ⟨by rw [HE.out]; rfl, bl⟩
  ·have bzs : (seq == 0) = false := by rw [beq_eq_false_iff_ne]; exact hzs
   by_cases he : item = ⟨#[]⟩
   rotate_left
   ·have hn1 := no_text he
    have hn2 : item.toList.isEmpty = false := by rw [List.isEmpty_eq_false_iff]; exact hn1
    have hn3 : (item.toList == []) = false := by rw [beq_eq_false_iff_ne]; exact hn1
    have HE : Hid (cmdB 8 item qty dev seq = false) := by show _ = _; simp [cmdB, hzd, hzs, he]
    clear hzd hzs he
    go_enter Tryz.func29, Tryz.ntmps29
    go_wp2_with (first | (go_at_call 60; refine (l3Item _ (by first | exact hs | exact Nat.zero_le _) _).mono ?_; rintro e w' ⟨rfl, rfl⟩; skip) | (go_at_call 61; refine (l1In _ _ _ _).mono ?_; rintro e w' ⟨rfl, rfl⟩; skip) | (go_at_call 35; refine (l3Dev _ _).mono ?_; rintro e w' ⟨rfl, rfl⟩; skip))
    go_ret
    exact ⟨by rw [HE.out]; rfl, bl⟩
   by_cases hzq : qty = 0
   rotate_left
   ·have bzq : (qty == 0) = false := by rw [beq_eq_false_iff_ne]; exact hzq
    have HE : Hid (cmdB 8 item qty dev seq = false) := by show _ = _; simp [cmdB, hzd, hzs, he, hzq]
    clear hzd hzs hzq
    subst he
    go_enter Tryz.func29, Tryz.ntmps29
    go_wp2_with (first | (go_at_call 60; refine (l3Item _ (by first | exact hs | exact Nat.zero_le _) _).mono ?_; rintro e w' ⟨rfl, rfl⟩; skip) | (go_at_call 61; refine (l1In _ _ _ _).mono ?_; rintro e w' ⟨rfl, rfl⟩; skip) | (go_at_call 35; refine (l3Dev _ _).mono ?_; rintro e w' ⟨rfl, rfl⟩; skip))
    go_ret
    exact ⟨by rw [HE.out]; rfl, bl⟩
   have HE : Hid (cmdB 8 item qty dev seq = false) := by show _ = _; simp [cmdB, hzd, hzs, he, hzq]
   clear hzd hzs
   subst he
   subst hzq
   go_enter Tryz.func29, Tryz.ntmps29
   go_wp2_with (first | (go_at_call 60; refine (l3Item _ (by first | exact hs | exact Nat.zero_le _) _).mono ?_; rintro e w' ⟨rfl, rfl⟩; skip) | (go_at_call 61; refine (l1In _ _ _ _).mono ?_; rintro e w' ⟨rfl, rfl⟩; skip) | (go_at_call 35; refine (l3Dev _ _).mono ?_; rintro e w' ⟨rfl, rfl⟩; skip))
   go_ret
   exact ⟨by rw [HE.out]; rfl, bl⟩
theorem cmd9 (item : ByteArray) (qty dev seq : Int) : cmdB 9 item qty dev seq = (decide (item = ⟨#[]⟩ ∧ qty = 0) && (inB dev 0 3 && inB seq 1 40)) := rfl
set_option maxHeartbeats 10000000 in
theorem specCmd9 (item : ByteArray) (qty dev seq : Int) (hs : item.size ≤ 1048576) (w : World) : Calls Tryz.prog 29 #[.agg #[.int .i64 9, .string item, .int .i64 qty, .int .i64 dev, .int .i64 seq]] w fun e w' => e = .returned (.bool (cmdB 9 item qty dev seq)) ∧ Below w.heap.size w w' := by
 have _hs := hs
 by_cases hzd : dev = 0
 ·by_cases hzs : seq = 0
  ·skip
   by_cases he : item = ⟨#[]⟩
   rotate_left
   ·have hn1 := no_text he
    have hn2 : item.toList.isEmpty = false := by rw [List.isEmpty_eq_false_iff]; exact hn1
    have hn3 : (item.toList == []) = false := by rw [beq_eq_false_iff_ne]; exact hn1
    have HE : Hid (cmdB 9 item qty dev seq = false) := by show _ = _; rw [cmd9]; simp [he]
    clear he
    subst hzd
    subst hzs
    go_enter Tryz.func29, Tryz.ntmps29
    go_wp2_with (first | (go_at_call 60; refine (l3Item _ (by first | exact hs | exact Nat.zero_le _) _).mono ?_; rintro e w' ⟨rfl, rfl⟩; skip) | (go_at_call 61; refine (l1In _ _ _ _).mono ?_; rintro e w' ⟨rfl, rfl⟩; skip) | (go_at_call 35; refine (l3Dev _ _).mono ?_; rintro e w' ⟨rfl, rfl⟩; skip))
    go_ret
    exact ⟨by rw [HE.out]; rfl, bl⟩
   by_cases hzq : qty = 0
   rotate_left
   ·have bzq : (qty == 0) = false := by rw [beq_eq_false_iff_ne]; exact hzq
    have HE : Hid (cmdB 9 item qty dev seq = false) := by show _ = _; rw [cmd9]; simp [he, hzq]
    clear hzq
    subst hzd
    subst hzs
    subst he
    go_enter Tryz.func29, Tryz.ntmps29
    go_wp2_with (first | (go_at_call 60; refine (l3Item _ (by first | exact hs | exact Nat.zero_le _) _).mono ?_; rintro e w' ⟨rfl, rfl⟩; skip) | (go_at_call 61; refine (l1In _ _ _ _).mono ?_; rintro e w' ⟨rfl, rfl⟩; skip) | (go_at_call 35; refine (l3Dev _ _).mono ?_; rintro e w' ⟨rfl, rfl⟩; skip))
    go_ret
    exact ⟨by rw [HE.out]; rfl, bl⟩
   rcases hd : inB dev 0 3 with _ | _
   ·have Hd := Lib.hid hd
    have HE : Hid (cmdB 9 item qty dev seq = false) := by show _ = _; rw [cmd9]; simp [he, hzq, hd]
    clear hd
    subst hzd
    subst hzs
    subst he
    subst hzq
    go_enter Tryz.func29, Tryz.ntmps29
    go_wp2_with (first | (go_at_call 60; refine (l3Item _ (by first | exact hs | exact Nat.zero_le _) _).mono ?_; rintro e w' ⟨rfl, rfl⟩; skip) | (go_at_call 61; refine (l1In _ _ _ _).mono ?_; rintro e w' ⟨rfl, rfl⟩; skip) | (go_at_call 35; refine (l3Dev _ _).mono ?_; rintro e w' ⟨rfl, rfl⟩; (first | rw [Hd.out] | skip)))
    go_ret
    exact ⟨by rw [HE.out]; rfl, bl⟩
   have Hd := Lib.hid hd
   rcases hsq : inB seq 1 40 with _ | _
   ·have Hs := Lib.hid hsq
    have HE : Hid (cmdB 9 item qty dev seq = false) := by show _ = _; rw [cmd9]; simp [he, hzq, hd, hsq]
    clear hd hsq
    subst hzd
    subst hzs
    subst he
    subst hzq
    go_enter Tryz.func29, Tryz.ntmps29
    go_wp2_with (first | (go_at_call 60; refine (l3Item _ (by first | exact hs | exact Nat.zero_le _) _).mono ?_; rintro e w' ⟨rfl, rfl⟩; skip) | (go_at_call 61; refine (l1In _ _ _ _).mono ?_; rintro e w' ⟨rfl, rfl⟩; (first | rw [Hs.out] | skip)) | (go_at_call 35; refine (l3Dev _ _).mono ?_; rintro e w' ⟨rfl, rfl⟩; (first | rw [Hd.out] | skip)))
    go_ret
    exact ⟨by rw [HE.out]; rfl, bl⟩
   have Hs := Lib.hid hsq
   have HE : Hid (cmdB 9 item qty dev seq = true) := by show _ = _; rw [cmd9]; simp [he, hzq, hd, hsq]
   clear hd hsq
   subst hzd
   subst hzs
   subst he
   subst hzq
   go_enter Tryz.func29, Tryz.ntmps29
   go_wp2_with (first | (go_at_call 60; refine (l3Item _ (by first | exact hs | exact Nat.zero_le _) _).mono ?_; rintro e w' ⟨rfl, rfl⟩; skip) | (go_at_call 61; refine (l1In _ _ _ _).mono ?_; rintro e w' ⟨rfl, rfl⟩; (first | rw [Hs.out] | skip)) | (go_at_call 35; refine (l3Dev _ _).mono ?_; rintro e w' ⟨rfl, rfl⟩; (first | rw [Hd.out] | skip)))
   go_ret
   exact ⟨by rw [HE.out]; rfl, bl⟩
  ·have bzs : (seq == 0) = false := by rw [beq_eq_false_iff_ne]; exact hzs
   by_cases he : item = ⟨#[]⟩
   rotate_left
   ·have hn1 := no_text he
    have hn2 : item.toList.isEmpty = false := by rw [List.isEmpty_eq_false_iff]; exact hn1
    have hn3 : (item.toList == []) = false := by rw [beq_eq_false_iff_ne]; exact hn1
    have HE : Hid (cmdB 9 item qty dev seq = false) := by show _ = _; rw [cmd9]; simp [he]
    clear hzs he
    subst hzd
    go_enter Tryz.func29, Tryz.ntmps29
    go_wp2_with (first | (go_at_call 60; refine (l3Item _ (by first | exact hs | exact Nat.zero_le _) _).mono ?_; rintro e w' ⟨rfl, rfl⟩; skip) | (go_at_call 61; refine (l1In _ _ _ _).mono ?_; rintro e w' ⟨rfl, rfl⟩; skip) | (go_at_call 35; refine (l3Dev _ _).mono ?_; rintro e w' ⟨rfl, rfl⟩; skip))
    go_ret
    exact ⟨by rw [HE.out]; rfl, bl⟩
   by_cases hzq : qty = 0
   rotate_left
   ·have bzq : (qty == 0) = false := by rw [beq_eq_false_iff_ne]; exact hzq
    have HE : Hid (cmdB 9 item qty dev seq = false) := by show _ = _; rw [cmd9]; simp [he, hzq]
    clear hzs hzq
    subst hzd
    subst he
    go_enter Tryz.func29, Tryz.ntmps29
    go_wp2_with (first | (go_at_call 60; refine (l3Item _ (by first | exact hs | exact Nat.zero_le _) _).mono ?_; rintro e w' ⟨rfl, rfl⟩; skip) | (go_at_call 61; refine (l1In _ _ _ _).mono ?_; rintro e w' ⟨rfl, rfl⟩; skip) | (go_at_call 35; refine (l3Dev _ _).mono ?_; rintro e w' ⟨rfl, rfl⟩; skip))
    go_ret
    exact ⟨by rw [HE.out]; rfl, bl⟩
   rcases hd : inB dev 0 3 with _ | _
   ·have Hd := Lib.hid hd
    have HE : Hid (cmdB 9 item qty dev seq = false) := by show _ = _; rw [cmd9]; simp [he, hzq, hd]
    clear hzs hd
    subst hzd
    subst he
    subst hzq
    go_enter Tryz.func29, Tryz.ntmps29
    go_wp2_with (first | (go_at_call 60; refine (l3Item _ (by first | exact hs | exact Nat.zero_le _) _).mono ?_; rintro e w' ⟨rfl, rfl⟩; skip) | (go_at_call 61; refine (l1In _ _ _ _).mono ?_; rintro e w' ⟨rfl, rfl⟩; skip) | (go_at_call 35; refine (l3Dev _ _).mono ?_; rintro e w' ⟨rfl, rfl⟩; (first | rw [Hd.out] | skip)))
    go_ret
    exact ⟨by rw [HE.out]; rfl, bl⟩
   have Hd := Lib.hid hd
   rcases hsq : inB seq 1 40 with _ | _
   ·have Hs := Lib.hid hsq
    have HE : Hid (cmdB 9 item qty dev seq = false) := by show _ = _; rw [cmd9]; simp [he, hzq, hd, hsq]
    clear hzs hd hsq
    subst hzd
    subst he
    subst hzq
    go_enter Tryz.func29, Tryz.ntmps29
    go_wp2_with (first | (go_at_call 60; refine (l3Item _ (by first | exact hs | exact Nat.zero_le _) _).mono ?_; rintro e w' ⟨rfl, rfl⟩; skip) | (go_at_call 61; refine (l1In _ _ _ _).mono ?_; rintro e w' ⟨rfl, rfl⟩; (first | rw [Hs.out] | skip)) | (go_at_call 35; refine (l3Dev _ _).mono ?_; rintro e w' ⟨rfl, rfl⟩; (first | rw [Hd.out] | skip)))
    go_ret
    exact ⟨by rw [HE.out]; rfl, bl⟩
   have Hs := Lib.hid hsq
   have HE : Hid (cmdB 9 item qty dev seq = true) := by show _ = _; rw [cmd9]; simp [he, hzq, hd, hsq]
   clear hzs hd hsq
   subst hzd
   subst he
   subst hzq
   go_enter Tryz.func29, Tryz.ntmps29
   go_wp2_with (first | (go_at_call 60; refine (l3Item _ (by first | exact hs | exact Nat.zero_le _) _).mono ?_; rintro e w' ⟨rfl, rfl⟩; skip) | (go_at_call 61; refine (l1In _ _ _ _).mono ?_; rintro e w' ⟨rfl, rfl⟩; (first | rw [Hs.out] | skip)) | (go_at_call 35; refine (l3Dev _ _).mono ?_; rintro e w' ⟨rfl, rfl⟩; (first | rw [Hd.out] | skip)))
   go_ret
   exact ⟨by rw [HE.out]; rfl, bl⟩
 ·have bzd : (dev == 0) = false := by rw [beq_eq_false_iff_ne]; exact hzd
  by_cases hzs : seq = 0
  ·skip
   by_cases he : item = ⟨#[]⟩
   rotate_left
   ·have hn1 := no_text he
    have hn2 : item.toList.isEmpty = false := by rw [List.isEmpty_eq_false_iff]; exact hn1
    have hn3 : (item.toList == []) = false := by rw [beq_eq_false_iff_ne]; exact hn1
    have HE : Hid (cmdB 9 item qty dev seq = false) := by show _ = _; rw [cmd9]; simp [he]
    clear hzd he
    subst hzs
    go_enter Tryz.func29, Tryz.ntmps29
    go_wp2_with (first | (go_at_call 60; refine (l3Item _ (by first | exact hs | exact Nat.zero_le _) _).mono ?_; rintro e w' ⟨rfl, rfl⟩; skip) | (go_at_call 61; refine (l1In _ _ _ _).mono ?_; rintro e w' ⟨rfl, rfl⟩; skip) | (go_at_call 35; refine (l3Dev _ _).mono ?_; rintro e w' ⟨rfl, rfl⟩; skip))
    go_ret
    exact ⟨by rw [HE.out]; rfl, bl⟩
   by_cases hzq : qty = 0
   rotate_left
   ·have bzq : (qty == 0) = false := by rw [beq_eq_false_iff_ne]; exact hzq
    have HE : Hid (cmdB 9 item qty dev seq = false) := by show _ = _; rw [cmd9]; simp [he, hzq]
    clear hzd hzq
    subst hzs
    subst he
    go_enter Tryz.func29, Tryz.ntmps29
    go_wp2_with (first | (go_at_call 60; refine (l3Item _ (by first | exact hs | exact Nat.zero_le _) _).mono ?_; rintro e w' ⟨rfl, rfl⟩; skip) | (go_at_call 61; refine (l1In _ _ _ _).mono ?_; rintro e w' ⟨rfl, rfl⟩; skip) | (go_at_call 35; refine (l3Dev _ _).mono ?_; rintro e w' ⟨rfl, rfl⟩; skip))
    go_ret
    exact ⟨by rw [HE.out]; rfl, bl⟩
   rcases hd : inB dev 0 3 with _ | _
   ·have Hd := Lib.hid hd
    have HE : Hid (cmdB 9 item qty dev seq = false) := by show _ = _; rw [cmd9]; simp [he, hzq, hd]
    clear hzd hd
    subst hzs
    subst he
    subst hzq
    go_enter Tryz.func29, Tryz.ntmps29
    go_wp2_with (first | (go_at_call 60; refine (l3Item _ (by first | exact hs | exact Nat.zero_le _) _).mono ?_; rintro e w' ⟨rfl, rfl⟩; skip) | (go_at_call 61; refine (l1In _ _ _ _).mono ?_; rintro e w' ⟨rfl, rfl⟩; skip) | (go_at_call 35; refine (l3Dev _ _).mono ?_; rintro e w' ⟨rfl, rfl⟩; (first | rw [Hd.out] | skip)))
    go_ret
    exact ⟨by rw [HE.out]; rfl, bl⟩
   have Hd := Lib.hid hd
   rcases hsq : inB seq 1 40 with _ | _
   ·have Hs := Lib.hid hsq
    have HE : Hid (cmdB 9 item qty dev seq = false) := by show _ = _; rw [cmd9]; simp [he, hzq, hd, hsq]
    clear hzd hd hsq
    subst hzs
    subst he
    subst hzq
    go_enter Tryz.func29, Tryz.ntmps29
    go_wp2_with (first | (go_at_call 60; refine (l3Item _ (by first | exact hs | exact Nat.zero_le _) _).mono ?_; rintro e w' ⟨rfl, rfl⟩; skip) | (go_at_call 61; refine (l1In _ _ _ _).mono ?_; rintro e w' ⟨rfl, rfl⟩; (first | rw [Hs.out] | skip)) | (go_at_call 35; refine (l3Dev _ _).mono ?_; rintro e w' ⟨rfl, rfl⟩; (first | rw [Hd.out] | skip)))
    go_ret
    exact ⟨by rw [HE.out]; rfl, bl⟩
   have Hs := Lib.hid hsq
   have HE : Hid (cmdB 9 item qty dev seq = true) := by show _ = _; rw [cmd9]; simp [he, hzq, hd, hsq]
   clear hzd hd hsq
   subst hzs
   subst he
   subst hzq
   go_enter Tryz.func29, Tryz.ntmps29
   go_wp2_with (first | (go_at_call 60; refine (l3Item _ (by first | exact hs | exact Nat.zero_le _) _).mono ?_; rintro e w' ⟨rfl, rfl⟩; skip) | (go_at_call 61; refine (l1In _ _ _ _).mono ?_; rintro e w' ⟨rfl, rfl⟩; (first | rw [Hs.out] | skip)) | (go_at_call 35; refine (l3Dev _ _).mono ?_; rintro e w' ⟨rfl, rfl⟩; (first | rw [Hd.out] | skip)))
   go_ret
   exact ⟨by rw [HE.out]; rfl, bl⟩
  ·have bzs : (seq == 0) = false := by rw [beq_eq_false_iff_ne]; exact hzs
   by_cases he : item = ⟨#[]⟩
   rotate_left
   ·have hn1 := no_text he
    have hn2 : item.toList.isEmpty = false := by rw [List.isEmpty_eq_false_iff]; exact hn1
    have hn3 : (item.toList == []) = false := by rw [beq_eq_false_iff_ne]; exact hn1
    have HE : Hid (cmdB 9 item qty dev seq = false) := by show _ = _; rw [cmd9]; simp [he]
    clear hzd hzs he
    go_enter Tryz.func29, Tryz.ntmps29
    go_wp2_with (first | (go_at_call 60; refine (l3Item _ (by first | exact hs | exact Nat.zero_le _) _).mono ?_; rintro e w' ⟨rfl, rfl⟩; skip) | (go_at_call 61; refine (l1In _ _ _ _).mono ?_; rintro e w' ⟨rfl, rfl⟩; skip) | (go_at_call 35; refine (l3Dev _ _).mono ?_; rintro e w' ⟨rfl, rfl⟩; skip))
    go_ret
    exact ⟨by rw [HE.out]; rfl, bl⟩
   by_cases hzq : qty = 0
   rotate_left
   ·have bzq : (qty == 0) = false := by rw [beq_eq_false_iff_ne]; exact hzq
    have HE : Hid (cmdB 9 item qty dev seq = false) := by show _ = _; rw [cmd9]; simp [he, hzq]
    clear hzd hzs hzq
    subst he
    go_enter Tryz.func29, Tryz.ntmps29
    go_wp2_with (first | (go_at_call 60; refine (l3Item _ (by first | exact hs | exact Nat.zero_le _) _).mono ?_; rintro e w' ⟨rfl, rfl⟩; skip) | (go_at_call 61; refine (l1In _ _ _ _).mono ?_; rintro e w' ⟨rfl, rfl⟩; skip) | (go_at_call 35; refine (l3Dev _ _).mono ?_; rintro e w' ⟨rfl, rfl⟩; skip))
    go_ret
    exact ⟨by rw [HE.out]; rfl, bl⟩
   rcases hd : inB dev 0 3 with _ | _
   ·have Hd := Lib.hid hd
    have HE : Hid (cmdB 9 item qty dev seq = false) := by show _ = _; rw [cmd9]; simp [he, hzq, hd]
    clear hzd hzs hd
    subst he
    subst hzq
    go_enter Tryz.func29, Tryz.ntmps29
    go_wp2_with (first | (go_at_call 60; refine (l3Item _ (by first | exact hs | exact Nat.zero_le _) _).mono ?_; rintro e w' ⟨rfl, rfl⟩; skip) | (go_at_call 61; refine (l1In _ _ _ _).mono ?_; rintro e w' ⟨rfl, rfl⟩; skip) | (go_at_call 35; refine (l3Dev _ _).mono ?_; rintro e w' ⟨rfl, rfl⟩; (first | rw [Hd.out] | skip)))
    go_ret
    exact ⟨by rw [HE.out]; rfl, bl⟩
   have Hd := Lib.hid hd
   rcases hsq : inB seq 1 40 with _ | _
   ·have Hs := Lib.hid hsq
    have HE : Hid (cmdB 9 item qty dev seq = false) := by show _ = _; rw [cmd9]; simp [he, hzq, hd, hsq]
    clear hzd hzs hd hsq
    subst he
    subst hzq
    go_enter Tryz.func29, Tryz.ntmps29
    go_wp2_with (first | (go_at_call 60; refine (l3Item _ (by first | exact hs | exact Nat.zero_le _) _).mono ?_; rintro e w' ⟨rfl, rfl⟩; skip) | (go_at_call 61; refine (l1In _ _ _ _).mono ?_; rintro e w' ⟨rfl, rfl⟩; (first | rw [Hs.out] | skip)) | (go_at_call 35; refine (l3Dev _ _).mono ?_; rintro e w' ⟨rfl, rfl⟩; (first | rw [Hd.out] | skip)))
    go_ret
    exact ⟨by rw [HE.out]; rfl, bl⟩
   have Hs := Lib.hid hsq
   have HE : Hid (cmdB 9 item qty dev seq = true) := by show _ = _; rw [cmd9]; simp [he, hzq, hd, hsq]
   clear hzd hzs hd hsq
   subst he
   subst hzq
   go_enter Tryz.func29, Tryz.ntmps29
   go_wp2_with (first | (go_at_call 60; refine (l3Item _ (by first | exact hs | exact Nat.zero_le _) _).mono ?_; rintro e w' ⟨rfl, rfl⟩; skip) | (go_at_call 61; refine (l1In _ _ _ _).mono ?_; rintro e w' ⟨rfl, rfl⟩; (first | rw [Hs.out] | skip)) | (go_at_call 35; refine (l3Dev _ _).mono ?_; rintro e w' ⟨rfl, rfl⟩; (first | rw [Hd.out] | skip)))
   go_ret
   exact ⟨by rw [HE.out]; rfl, bl⟩
set_option maxHeartbeats 10000000 in
theorem specCmd (kind : Int) (item : ByteArray) (qty dev seq : Int) (hs : item.size ≤ 1048576) (w : World) : Calls Tryz.prog 29 #[.agg #[.int .i64 kind, .string item, .int .i64 qty, .int .i64 dev, .int .i64 seq]] w fun e w' => e = .returned (.bool (cmdB kind item qty dev seq)) ∧ Below w.heap.size w w' := by
 by_cases h1 : kind = 1
 ·rw [h1]; exact specCmd1 item qty dev seq hs w
 by_cases h2 : kind = 2
 ·rw [h2]; exact specCmd2 item qty dev seq hs w
 by_cases h3 : kind = 3
 ·rw [h3]; exact specCmd3 item qty dev seq hs w
 by_cases h4 : kind = 4
 ·rw [h4]; exact specCmd4 item qty dev seq hs w
 by_cases h5 : kind = 5
 ·rw [h5]; exact specCmd5 item qty dev seq hs w
 by_cases h6 : kind = 6
 ·rw [h6]; exact specCmd6 item qty dev seq hs w
 by_cases h7 : kind = 7
 ·rw [h7]; exact specCmd7 item qty dev seq hs w
 by_cases h8 : kind = 8
 ·rw [h8]; exact specCmd8 item qty dev seq hs w
 by_cases h9 : kind = 9
 ·rw [h9]; exact specCmd9 item qty dev seq hs w
 have HE := Lib.hid (cmd_other (item := item) (qty := qty) (dev := dev) (seq := seq) h1 h2 h3 h4 h5 h6 h7 h8 h9)
 have b1 : (kind == 1) = false := by rw [beq_eq_false_iff_ne]; exact h1
 have b2 : (kind == 2) = false := by rw [beq_eq_false_iff_ne]; exact h2
 have b3 : (kind == 3) = false := by rw [beq_eq_false_iff_ne]; exact h3
 have b4 : (kind == 4) = false := by rw [beq_eq_false_iff_ne]; exact h4
 have b5 : (kind == 5) = false := by rw [beq_eq_false_iff_ne]; exact h5
 have b6 : (kind == 6) = false := by rw [beq_eq_false_iff_ne]; exact h6
 have b7 : (kind == 7) = false := by rw [beq_eq_false_iff_ne]; exact h7
 have b8 : (kind == 8) = false := by rw [beq_eq_false_iff_ne]; exact h8
 have b9 : (kind == 9) = false := by rw [beq_eq_false_iff_ne]; exact h9
 clear h1 h2 h3 h4 h5 h6 h7 h8 h9
 by_cases hzd : dev = 0
 ·subst hzd
  by_cases hzs : seq = 0
  ·subst hzs
   go_enter Tryz.func29, Tryz.ntmps29
   go_wp2
   go_ret
   exact ⟨by rw [HE.out]; rfl, bl⟩
  ·have bzs : (seq == 0) = false := by rw [beq_eq_false_iff_ne]; exact hzs
   clear hzs
   go_enter Tryz.func29, Tryz.ntmps29
   go_wp2
   go_ret
   exact ⟨by rw [HE.out]; rfl, bl⟩
 have bzd : (dev == 0) = false := by rw [beq_eq_false_iff_ne]; exact hzd
 clear hzd
 go_enter Tryz.func29, Tryz.ntmps29
 go_wp2
 go_ret
 exact ⟨by rw [HE.out]; rfl, bl⟩
end Go.Proofs.YtjokbaaommicmaaGreatDoor
