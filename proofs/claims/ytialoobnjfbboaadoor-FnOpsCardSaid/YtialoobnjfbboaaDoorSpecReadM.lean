/- The walk of spec.ReadOp where a number behind the text is missing. -/
import Derived.Test.YtialoobnjfbboaaDoorSpecReadB
import Derived.Deep.Cut
namespace Go.Proofs.YtialoobnjfbboaaDoor
open Go.RowKit

set_option maxRecDepth 100000 in
set_option maxHeartbeats 2000000 in
theorem specReadOp5 (s : ByteArray) (hs : s.size ≤ 1048576) (w : World) (n0 q1 : Nat) (HN0 : Hid (NumIs s 0 n0 q1)) (n1 q2 : Nat) (HN1 : Hid (NumIs s q1 n1 q2)) (n2 q3 : Nat) (HN2 : Hid (NumIs s q2 n2 q3)) (n3 q4 : Nat) (HN3 : Hid (NumIs s q3 n3 q4)) (t : ByteArray) (q5 : Nat) (HN4 : Hid (TxtIs s q4 t q5)) (HF : Hid (NoNum s q5)) : Calls Tryd.prog 10 #[.string s] w (OpPostR s w) := by
  have HNo := Lib.hid (noOp5 HN0.out HN1.out HN2.out HN3.out HN4.out HF.out)
  have hq1 := HN0.out.le (Nat.zero_le _)
  have hq2 := HN1.out.le hq1
  have hq3 := HN2.out.le hq2
  have hq4 := HN3.out.le hq3
  have hq5 := HN4.out.le hq4
  have HZ0 := Lib.hid (res0 w)
  go_enter Tryd.func10, Tryd.ntmps10
  go_wp2_with fail
  generalize w.alloc (.cells #[.int .i64 0, .int .i64 0, .int .i64 0, .int .i64 0, .string ⟨#[]⟩, .int .i64 0, .int .i64 0, .int .i64 0] 25) = w0 at HZ0 ⊢
  refine (l3VarYes s 0 n0 q1 hs (Nat.zero_le _) HN0.out _).mono ?_
  rintro e w1 ⟨rfl, hb⟩
  have HZ1 := Lib.hid (HZ0.out.next hb)
  clear hb HZ0
  go_wp2_with fail
  refine (l3VarYes s q1 n1 q2 hs hq1 HN1.out _).mono ?_
  rintro e w2 ⟨rfl, hb⟩
  have HZ2 := Lib.hid (HZ1.out.next hb)
  clear hb HZ1
  go_wp2_with fail
  refine (l3VarYes s q2 n2 q3 hs hq2 HN2.out _).mono ?_
  rintro e w3 ⟨rfl, hb⟩
  have HZ3 := Lib.hid (HZ2.out.next hb)
  clear hb HZ2
  go_wp2_with fail
  refine (l3VarYes s q3 n3 q4 hs hq3 HN3.out _).mono ?_
  rintro e w4 ⟨rfl, hb⟩
  have HZ4 := Lib.hid (HZ3.out.next hb)
  clear hb HZ3
  have hl4 : ¬ ((q4 : Int) < 0) := by omega
  have hl5 : (q4 : Int) ≤ (s.size : Int) := by omega
  go_wp2_with fail
  refine (specReadText (cut s q4) _ (by rw [cut_size]; omega)).mono ?_
  rintro e w5 ⟨hb, ⟨_, rfl⟩ | ⟨hok, _⟩⟩
  rotate_left
  · exact absurd HN4.out.ok hok
  have HZ5 := Lib.hid (HZ4.out.next hb)
  clear hb HZ4
  rw [← HN4.out.val]
  have HK5 : Hid (∃ k5, txtEnd (cut s q4) = k5 ∧ q5 = q4 + k5) := ⟨_, rfl, HN4.out.at'⟩
  obtain ⟨k5, hk5, hq5'⟩ := HK5.out
  rw [hk5]
  clear hk5 HK5
  have HS5 : Hid ((q4 : Int) + (k5 : Int) = (q5 : Int)) := by show _ = _; omega
  have hkb : k5 ≤ 1048576 := by omega
  clear hq5'
  go_wp2_with fail
  rw [HS5.out]
  refine (l3VarNo s q5 hq5 HF.out _).mono ?_
  rintro e w6 ⟨rfl, hb⟩
  have HZ6 := Lib.hid (HZ5.out.next hb)
  clear hb HZ5
  go_wp2_with fail
  refine (l3VarNeg s _).mono ?_
  rintro e w' ⟨rfl, rfl⟩
  go_wp2_with fail
  refine (l3VarNeg s _).mono ?_
  rintro e w' ⟨rfl, rfl⟩
  go_upto_region 14 with fail
  have HZ7 := Lib.hid (HZ6.out.next ((Below.refl _ w6).alloc (Nat.le_refl _) (.cells #[.int .i64 (n0 : Int), .int .i64 (n1 : Int), .int .i64 (n2 : Int), .int .i64 (n3 : Int), .string t, .int .i64 0, .int .i64 0, .int .i64 0] 25)))
  generalize w6.alloc (.cells #[.int .i64 (n0 : Int), .int .i64 (n1 : Int), .int .i64 (n2 : Int), .int .i64 (n3 : Int), .string t, .int .i64 0, .int .i64 0, .int .i64 0] 25) = w7 at HZ7 ⊢
  clear HZ6
  obtain ⟨e0, e1, e2, e3, e4, e5, e6, e7⟩ := op_cellsR HZ7.out.res
  obtain ⟨f0, f1, f2, f3, f4, f5, f6, f7⟩ := op_frozenR HZ7.out.res
  go_wp2
  have HX := Lib.hid (setOpR_same (.int .i64 0) (.int .i64 0) (.int .i64 0) (.int .i64 0) (.string ⟨#[]⟩) (.int .i64 0) (.int .i64 0) (.int .i64 0) HZ7.out.res)
  have HB := Lib.hid (setOpR_below (.int .i64 0) (.int .i64 0) (.int .i64 0) (.int .i64 0) (.string ⟨#[]⟩) (.int .i64 0) (.int .i64 0) (.int .i64 0) HZ7.out.bel (Nat.le_refl _))
  clear e0 e1 e2 e3 e4 e5 e6 e7 f0 f1 f2 f3 f4 f5 f6 f7
  change bodyPost _ _ _ _ _ (setOpR w7 w.heap.size (.int .i64 0) (.int .i64 0) (.int .i64 0) (.int .i64 0) (.string ⟨#[]⟩) (.int .i64 0) (.int .i64 0) (.int .i64 0))
  generalize setOpR w7 w.heap.size (.int .i64 0) (.int .i64 0) (.int .i64 0) (.int .i64 0) (.string ⟨#[]⟩) (.int .i64 0) (.int .i64 0) (.int .i64 0) = wf at HX HB ⊢
  obtain ⟨d0, d1, d2, d3, d4, d5, d6, d7⟩ := op_cellsR HX.out
  exact bodyPost_ret (v := .tuple #[.agg #[.int .i64 0, .int .i64 0, .int .i64 0, .int .i64 0, .string ⟨#[]⟩, .int .i64 0, .int .i64 0, .int .i64 0], .int .i64 0, .bool false]) (by simp [results, Tryd.results10, go_sem, d0, d1, d2, d3, d4, d5, d6, d7]) rfl ⟨HB.out, .inr ⟨HNo.out, rfl⟩⟩
set_option maxRecDepth 100000 in
set_option maxHeartbeats 2000000 in
theorem specReadOp6 (s : ByteArray) (hs : s.size ≤ 1048576) (w : World) (n0 q1 : Nat) (HN0 : Hid (NumIs s 0 n0 q1)) (n1 q2 : Nat) (HN1 : Hid (NumIs s q1 n1 q2)) (n2 q3 : Nat) (HN2 : Hid (NumIs s q2 n2 q3)) (n3 q4 : Nat) (HN3 : Hid (NumIs s q3 n3 q4)) (t : ByteArray) (q5 : Nat) (HN4 : Hid (TxtIs s q4 t q5)) (n5 q6 : Nat) (HN5 : Hid (NumIs s q5 n5 q6)) (HF : Hid (NoNum s q6)) : Calls Tryd.prog 10 #[.string s] w (OpPostR s w) := by
  have HNo := Lib.hid (noOp6 HN0.out HN1.out HN2.out HN3.out HN4.out HN5.out HF.out)
  have hq1 := HN0.out.le (Nat.zero_le _)
  have hq2 := HN1.out.le hq1
  have hq3 := HN2.out.le hq2
  have hq4 := HN3.out.le hq3
  have hq5 := HN4.out.le hq4
  have hq6 := HN5.out.le hq5
  have HZ0 := Lib.hid (res0 w)
  go_enter Tryd.func10, Tryd.ntmps10
  go_wp2_with fail
  generalize w.alloc (.cells #[.int .i64 0, .int .i64 0, .int .i64 0, .int .i64 0, .string ⟨#[]⟩, .int .i64 0, .int .i64 0, .int .i64 0] 25) = w0 at HZ0 ⊢
  refine (l3VarYes s 0 n0 q1 hs (Nat.zero_le _) HN0.out _).mono ?_
  rintro e w1 ⟨rfl, hb⟩
  have HZ1 := Lib.hid (HZ0.out.next hb)
  clear hb HZ0
  go_wp2_with fail
  refine (l3VarYes s q1 n1 q2 hs hq1 HN1.out _).mono ?_
  rintro e w2 ⟨rfl, hb⟩
  have HZ2 := Lib.hid (HZ1.out.next hb)
  clear hb HZ1
  go_wp2_with fail
  refine (l3VarYes s q2 n2 q3 hs hq2 HN2.out _).mono ?_
  rintro e w3 ⟨rfl, hb⟩
  have HZ3 := Lib.hid (HZ2.out.next hb)
  clear hb HZ2
  go_wp2_with fail
  refine (l3VarYes s q3 n3 q4 hs hq3 HN3.out _).mono ?_
  rintro e w4 ⟨rfl, hb⟩
  have HZ4 := Lib.hid (HZ3.out.next hb)
  clear hb HZ3
  have hl4 : ¬ ((q4 : Int) < 0) := by omega
  have hl5 : (q4 : Int) ≤ (s.size : Int) := by omega
  go_wp2_with fail
  refine (specReadText (cut s q4) _ (by rw [cut_size]; omega)).mono ?_
  rintro e w5 ⟨hb, ⟨_, rfl⟩ | ⟨hok, _⟩⟩
  rotate_left
  · exact absurd HN4.out.ok hok
  have HZ5 := Lib.hid (HZ4.out.next hb)
  clear hb HZ4
  rw [← HN4.out.val]
  have HK5 : Hid (∃ k5, txtEnd (cut s q4) = k5 ∧ q5 = q4 + k5) := ⟨_, rfl, HN4.out.at'⟩
  obtain ⟨k5, hk5, hq5'⟩ := HK5.out
  rw [hk5]
  clear hk5 HK5
  have HS5 : Hid ((q4 : Int) + (k5 : Int) = (q5 : Int)) := by show _ = _; omega
  have hkb : k5 ≤ 1048576 := by omega
  clear hq5'
  go_wp2_with fail
  rw [HS5.out]
  refine (l3VarYes s q5 n5 q6 hs hq5 HN5.out _).mono ?_
  rintro e w6 ⟨rfl, hb⟩
  have HZ6 := Lib.hid (HZ5.out.next hb)
  clear hb HZ5
  go_wp2_with fail
  refine (l3VarNo s q6 hq6 HF.out _).mono ?_
  rintro e w7 ⟨rfl, hb⟩
  have HZ7 := Lib.hid (HZ6.out.next hb)
  clear hb HZ6
  go_wp2_with fail
  refine (l3VarNeg s _).mono ?_
  rintro e w' ⟨rfl, rfl⟩
  go_upto_region 14 with fail
  have HZ8 := Lib.hid (HZ7.out.next ((Below.refl _ w7).alloc (Nat.le_refl _) (.cells #[.int .i64 (n0 : Int), .int .i64 (n1 : Int), .int .i64 (n2 : Int), .int .i64 (n3 : Int), .string t, .int .i64 (n5 : Int), .int .i64 0, .int .i64 0] 25)))
  generalize w7.alloc (.cells #[.int .i64 (n0 : Int), .int .i64 (n1 : Int), .int .i64 (n2 : Int), .int .i64 (n3 : Int), .string t, .int .i64 (n5 : Int), .int .i64 0, .int .i64 0] 25) = w8 at HZ8 ⊢
  clear HZ7
  obtain ⟨e0, e1, e2, e3, e4, e5, e6, e7⟩ := op_cellsR HZ8.out.res
  obtain ⟨f0, f1, f2, f3, f4, f5, f6, f7⟩ := op_frozenR HZ8.out.res
  go_wp2
  have HX := Lib.hid (setOpR_same (.int .i64 0) (.int .i64 0) (.int .i64 0) (.int .i64 0) (.string ⟨#[]⟩) (.int .i64 0) (.int .i64 0) (.int .i64 0) HZ8.out.res)
  have HB := Lib.hid (setOpR_below (.int .i64 0) (.int .i64 0) (.int .i64 0) (.int .i64 0) (.string ⟨#[]⟩) (.int .i64 0) (.int .i64 0) (.int .i64 0) HZ8.out.bel (Nat.le_refl _))
  clear e0 e1 e2 e3 e4 e5 e6 e7 f0 f1 f2 f3 f4 f5 f6 f7
  change bodyPost _ _ _ _ _ (setOpR w8 w.heap.size (.int .i64 0) (.int .i64 0) (.int .i64 0) (.int .i64 0) (.string ⟨#[]⟩) (.int .i64 0) (.int .i64 0) (.int .i64 0))
  generalize setOpR w8 w.heap.size (.int .i64 0) (.int .i64 0) (.int .i64 0) (.int .i64 0) (.string ⟨#[]⟩) (.int .i64 0) (.int .i64 0) (.int .i64 0) = wf at HX HB ⊢
  obtain ⟨d0, d1, d2, d3, d4, d5, d6, d7⟩ := op_cellsR HX.out
  exact bodyPost_ret (v := .tuple #[.agg #[.int .i64 0, .int .i64 0, .int .i64 0, .int .i64 0, .string ⟨#[]⟩, .int .i64 0, .int .i64 0, .int .i64 0], .int .i64 0, .bool false]) (by simp [results, Tryd.results10, go_sem, d0, d1, d2, d3, d4, d5, d6, d7]) rfl ⟨HB.out, .inr ⟨HNo.out, rfl⟩⟩
set_option maxRecDepth 100000 in
set_option maxHeartbeats 2000000 in
theorem specReadOp7 (s : ByteArray) (hs : s.size ≤ 1048576) (w : World) (n0 q1 : Nat) (HN0 : Hid (NumIs s 0 n0 q1)) (n1 q2 : Nat) (HN1 : Hid (NumIs s q1 n1 q2)) (n2 q3 : Nat) (HN2 : Hid (NumIs s q2 n2 q3)) (n3 q4 : Nat) (HN3 : Hid (NumIs s q3 n3 q4)) (t : ByteArray) (q5 : Nat) (HN4 : Hid (TxtIs s q4 t q5)) (n5 q6 : Nat) (HN5 : Hid (NumIs s q5 n5 q6)) (n6 q7 : Nat) (HN6 : Hid (NumIs s q6 n6 q7)) (HF : Hid (NoNum s q7)) : Calls Tryd.prog 10 #[.string s] w (OpPostR s w) := by
  have HNo := Lib.hid (noOp7 HN0.out HN1.out HN2.out HN3.out HN4.out HN5.out HN6.out HF.out)
  have hq1 := HN0.out.le (Nat.zero_le _)
  have hq2 := HN1.out.le hq1
  have hq3 := HN2.out.le hq2
  have hq4 := HN3.out.le hq3
  have hq5 := HN4.out.le hq4
  have hq6 := HN5.out.le hq5
  have hq7 := HN6.out.le hq6
  have HZ0 := Lib.hid (res0 w)
  go_enter Tryd.func10, Tryd.ntmps10
  go_wp2_with fail
  generalize w.alloc (.cells #[.int .i64 0, .int .i64 0, .int .i64 0, .int .i64 0, .string ⟨#[]⟩, .int .i64 0, .int .i64 0, .int .i64 0] 25) = w0 at HZ0 ⊢
  refine (l3VarYes s 0 n0 q1 hs (Nat.zero_le _) HN0.out _).mono ?_
  rintro e w1 ⟨rfl, hb⟩
  have HZ1 := Lib.hid (HZ0.out.next hb)
  clear hb HZ0
  go_wp2_with fail
  refine (l3VarYes s q1 n1 q2 hs hq1 HN1.out _).mono ?_
  rintro e w2 ⟨rfl, hb⟩
  have HZ2 := Lib.hid (HZ1.out.next hb)
  clear hb HZ1
  go_wp2_with fail
  refine (l3VarYes s q2 n2 q3 hs hq2 HN2.out _).mono ?_
  rintro e w3 ⟨rfl, hb⟩
  have HZ3 := Lib.hid (HZ2.out.next hb)
  clear hb HZ2
  go_wp2_with fail
  refine (l3VarYes s q3 n3 q4 hs hq3 HN3.out _).mono ?_
  rintro e w4 ⟨rfl, hb⟩
  have HZ4 := Lib.hid (HZ3.out.next hb)
  clear hb HZ3
  have hl4 : ¬ ((q4 : Int) < 0) := by omega
  have hl5 : (q4 : Int) ≤ (s.size : Int) := by omega
  go_wp2_with fail
  refine (specReadText (cut s q4) _ (by rw [cut_size]; omega)).mono ?_
  rintro e w5 ⟨hb, ⟨_, rfl⟩ | ⟨hok, _⟩⟩
  rotate_left
  · exact absurd HN4.out.ok hok
  have HZ5 := Lib.hid (HZ4.out.next hb)
  clear hb HZ4
  rw [← HN4.out.val]
  have HK5 : Hid (∃ k5, txtEnd (cut s q4) = k5 ∧ q5 = q4 + k5) := ⟨_, rfl, HN4.out.at'⟩
  obtain ⟨k5, hk5, hq5'⟩ := HK5.out
  rw [hk5]
  clear hk5 HK5
  have HS5 : Hid ((q4 : Int) + (k5 : Int) = (q5 : Int)) := by show _ = _; omega
  have hkb : k5 ≤ 1048576 := by omega
  clear hq5'
  go_wp2_with fail
  rw [HS5.out]
  refine (l3VarYes s q5 n5 q6 hs hq5 HN5.out _).mono ?_
  rintro e w6 ⟨rfl, hb⟩
  have HZ6 := Lib.hid (HZ5.out.next hb)
  clear hb HZ5
  go_wp2_with fail
  refine (l3VarYes s q6 n6 q7 hs hq6 HN6.out _).mono ?_
  rintro e w7 ⟨rfl, hb⟩
  have HZ7 := Lib.hid (HZ6.out.next hb)
  clear hb HZ6
  go_wp2_with fail
  refine (l3VarNo s q7 hq7 HF.out _).mono ?_
  rintro e w8 ⟨rfl, hb⟩
  have HZ8 := Lib.hid (HZ7.out.next hb)
  clear hb HZ7
  go_upto_region 14 with fail
  have HZ9 := Lib.hid (HZ8.out.next ((Below.refl _ w8).alloc (Nat.le_refl _) (.cells #[.int .i64 (n0 : Int), .int .i64 (n1 : Int), .int .i64 (n2 : Int), .int .i64 (n3 : Int), .string t, .int .i64 (n5 : Int), .int .i64 (n6 : Int), .int .i64 0] 25)))
  generalize w8.alloc (.cells #[.int .i64 (n0 : Int), .int .i64 (n1 : Int), .int .i64 (n2 : Int), .int .i64 (n3 : Int), .string t, .int .i64 (n5 : Int), .int .i64 (n6 : Int), .int .i64 0] 25) = w9 at HZ9 ⊢
  clear HZ8
  obtain ⟨e0, e1, e2, e3, e4, e5, e6, e7⟩ := op_cellsR HZ9.out.res
  obtain ⟨f0, f1, f2, f3, f4, f5, f6, f7⟩ := op_frozenR HZ9.out.res
  go_wp2
  have HX := Lib.hid (setOpR_same (.int .i64 0) (.int .i64 0) (.int .i64 0) (.int .i64 0) (.string ⟨#[]⟩) (.int .i64 0) (.int .i64 0) (.int .i64 0) HZ9.out.res)
  have HB := Lib.hid (setOpR_below (.int .i64 0) (.int .i64 0) (.int .i64 0) (.int .i64 0) (.string ⟨#[]⟩) (.int .i64 0) (.int .i64 0) (.int .i64 0) HZ9.out.bel (Nat.le_refl _))
  clear e0 e1 e2 e3 e4 e5 e6 e7 f0 f1 f2 f3 f4 f5 f6 f7
  change bodyPost _ _ _ _ _ (setOpR w9 w.heap.size (.int .i64 0) (.int .i64 0) (.int .i64 0) (.int .i64 0) (.string ⟨#[]⟩) (.int .i64 0) (.int .i64 0) (.int .i64 0))
  generalize setOpR w9 w.heap.size (.int .i64 0) (.int .i64 0) (.int .i64 0) (.int .i64 0) (.string ⟨#[]⟩) (.int .i64 0) (.int .i64 0) (.int .i64 0) = wf at HX HB ⊢
  obtain ⟨d0, d1, d2, d3, d4, d5, d6, d7⟩ := op_cellsR HX.out
  exact bodyPost_ret (v := .tuple #[.agg #[.int .i64 0, .int .i64 0, .int .i64 0, .int .i64 0, .string ⟨#[]⟩, .int .i64 0, .int .i64 0, .int .i64 0], .int .i64 0, .bool false]) (by simp [results, Tryd.results10, go_sem, d0, d1, d2, d3, d4, d5, d6, d7]) rfl ⟨HB.out, .inr ⟨HNo.out, rfl⟩⟩
end Go.Proofs.YtialoobnjfbboaaDoor
