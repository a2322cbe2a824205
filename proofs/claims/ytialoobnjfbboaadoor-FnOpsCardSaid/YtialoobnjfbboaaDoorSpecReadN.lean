/- The walk of spec.ReadOp where a number ahead of the text, or the text, is missing. -/
import Derived.Test.YtialoobnjfbboaaDoorSpecReadB
namespace Go.Proofs.YtialoobnjfbboaaDoor
open Go.RowKit

set_option maxRecDepth 100000 in
set_option maxHeartbeats 2000000 in
theorem specReadOp0 (s : ByteArray) (_hs : s.size ≤ 1048576) (w : World) (HF : Hid (NoNum s 0)) : Calls Tryd.prog 10 #[.string s] w (OpPostR s w) := by
  have HNo := Lib.hid (noOp0  HF.out)
  have HZ0 := Lib.hid (res0 w)
  go_enter Tryd.func10, Tryd.ntmps10
  go_wp2_with fail
  generalize w.alloc (.cells #[.int .i64 0, .int .i64 0, .int .i64 0, .int .i64 0, .string ⟨#[]⟩, .int .i64 0, .int .i64 0, .int .i64 0] 25) = w0 at HZ0 ⊢
  refine (l3VarNo s 0 (Nat.zero_le _) HF.out _).mono ?_
  rintro e w1 ⟨rfl, hb⟩
  have HZ1 := Lib.hid (HZ0.out.next hb)
  clear hb HZ0
  go_wp2_with fail
  refine (l3VarNeg s _).mono ?_
  rintro e w' ⟨rfl, rfl⟩
  go_wp2_with fail
  refine (l3VarNeg s _).mono ?_
  rintro e w' ⟨rfl, rfl⟩
  go_wp2_with fail
  refine (l3VarNeg s _).mono ?_
  rintro e w' ⟨rfl, rfl⟩
  obtain ⟨e0, e1, e2, e3, e4, e5, e6, e7⟩ := op_cellsR HZ1.out.res
  obtain ⟨f0, f1, f2, f3, f4, f5, f6, f7⟩ := op_frozenR HZ1.out.res
  go_wp2
  have HX := Lib.hid (setOpR_same (.int .i64 0) (.int .i64 0) (.int .i64 0) (.int .i64 0) (.string ⟨#[]⟩) (.int .i64 0) (.int .i64 0) (.int .i64 0) HZ1.out.res)
  have HB := Lib.hid (setOpR_below (.int .i64 0) (.int .i64 0) (.int .i64 0) (.int .i64 0) (.string ⟨#[]⟩) (.int .i64 0) (.int .i64 0) (.int .i64 0) HZ1.out.bel (Nat.le_refl _))
  clear e0 e1 e2 e3 e4 e5 e6 e7 f0 f1 f2 f3 f4 f5 f6 f7
  change bodyPost _ _ _ _ _ (setOpR w1 w.heap.size (.int .i64 0) (.int .i64 0) (.int .i64 0) (.int .i64 0) (.string ⟨#[]⟩) (.int .i64 0) (.int .i64 0) (.int .i64 0))
  generalize setOpR w1 w.heap.size (.int .i64 0) (.int .i64 0) (.int .i64 0) (.int .i64 0) (.string ⟨#[]⟩) (.int .i64 0) (.int .i64 0) (.int .i64 0) = wf at HX HB ⊢
  obtain ⟨d0, d1, d2, d3, d4, d5, d6, d7⟩ := op_cellsR HX.out
  exact bodyPost_ret (v := .tuple #[.agg #[.int .i64 0, .int .i64 0, .int .i64 0, .int .i64 0, .string ⟨#[]⟩, .int .i64 0, .int .i64 0, .int .i64 0], .int .i64 0, .bool false]) (by simp [results, Tryd.results10, go_sem, d0, d1, d2, d3, d4, d5, d6, d7]) rfl ⟨HB.out, .inr ⟨HNo.out, rfl⟩⟩
set_option maxRecDepth 100000 in
set_option maxHeartbeats 2000000 in
theorem specReadOp1 (s : ByteArray) (hs : s.size ≤ 1048576) (w : World) (n0 q1 : Nat) (HN0 : Hid (NumIs s 0 n0 q1)) (HF : Hid (NoNum s q1)) : Calls Tryd.prog 10 #[.string s] w (OpPostR s w) := by
  have HNo := Lib.hid (noOp1 HN0.out HF.out)
  have hq1 := HN0.out.le (Nat.zero_le _)
  have HZ0 := Lib.hid (res0 w)
  go_enter Tryd.func10, Tryd.ntmps10
  go_wp2_with fail
  generalize w.alloc (.cells #[.int .i64 0, .int .i64 0, .int .i64 0, .int .i64 0, .string ⟨#[]⟩, .int .i64 0, .int .i64 0, .int .i64 0] 25) = w0 at HZ0 ⊢
  refine (l3VarYes s 0 n0 q1 hs (Nat.zero_le _) HN0.out _).mono ?_
  rintro e w1 ⟨rfl, hb⟩
  have HZ1 := Lib.hid (HZ0.out.next hb)
  clear hb HZ0
  go_wp2_with fail
  refine (l3VarNo s q1 hq1 HF.out _).mono ?_
  rintro e w2 ⟨rfl, hb⟩
  have HZ2 := Lib.hid (HZ1.out.next hb)
  clear hb HZ1
  go_wp2_with fail
  refine (l3VarNeg s _).mono ?_
  rintro e w' ⟨rfl, rfl⟩
  go_wp2_with fail
  refine (l3VarNeg s _).mono ?_
  rintro e w' ⟨rfl, rfl⟩
  obtain ⟨e0, e1, e2, e3, e4, e5, e6, e7⟩ := op_cellsR HZ2.out.res
  obtain ⟨f0, f1, f2, f3, f4, f5, f6, f7⟩ := op_frozenR HZ2.out.res
  go_wp2
  have HX := Lib.hid (setOpR_same (.int .i64 0) (.int .i64 0) (.int .i64 0) (.int .i64 0) (.string ⟨#[]⟩) (.int .i64 0) (.int .i64 0) (.int .i64 0) HZ2.out.res)
  have HB := Lib.hid (setOpR_below (.int .i64 0) (.int .i64 0) (.int .i64 0) (.int .i64 0) (.string ⟨#[]⟩) (.int .i64 0) (.int .i64 0) (.int .i64 0) HZ2.out.bel (Nat.le_refl _))
  clear e0 e1 e2 e3 e4 e5 e6 e7 f0 f1 f2 f3 f4 f5 f6 f7
  change bodyPost _ _ _ _ _ (setOpR w2 w.heap.size (.int .i64 0) (.int .i64 0) (.int .i64 0) (.int .i64 0) (.string ⟨#[]⟩) (.int .i64 0) (.int .i64 0) (.int .i64 0))
  generalize setOpR w2 w.heap.size (.int .i64 0) (.int .i64 0) (.int .i64 0) (.int .i64 0) (.string ⟨#[]⟩) (.int .i64 0) (.int .i64 0) (.int .i64 0) = wf at HX HB ⊢
  obtain ⟨d0, d1, d2, d3, d4, d5, d6, d7⟩ := op_cellsR HX.out
  exact bodyPost_ret (v := .tuple #[.agg #[.int .i64 0, .int .i64 0, .int .i64 0, .int .i64 0, .string ⟨#[]⟩, .int .i64 0, .int .i64 0, .int .i64 0], .int .i64 0, .bool false]) (by simp [results, Tryd.results10, go_sem, d0, d1, d2, d3, d4, d5, d6, d7]) rfl ⟨HB.out, .inr ⟨HNo.out, rfl⟩⟩
set_option maxRecDepth 100000 in
set_option maxHeartbeats 2000000 in
theorem specReadOp2 (s : ByteArray) (hs : s.size ≤ 1048576) (w : World) (n0 q1 : Nat) (HN0 : Hid (NumIs s 0 n0 q1)) (n1 q2 : Nat) (HN1 : Hid (NumIs s q1 n1 q2)) (HF : Hid (NoNum s q2)) : Calls Tryd.prog 10 #[.string s] w (OpPostR s w) := by
  have HNo := Lib.hid (noOp2 HN0.out HN1.out HF.out)
  have hq1 := HN0.out.le (Nat.zero_le _)
  have hq2 := HN1.out.le hq1
  have HZ0 := Lib.hid (res0 w)
  go_enter Tryd.func10, Tryd.ntmps10
  go_wp2_with fail
  generalize w.alloc (.cells #[.int .i64 0, .int .i64 0, .int .i64 0, .int .i64 0, .string ⟨#[]⟩, .int .i64 0, .int .i64 0, .int .i64 0] 25) = w0 at HZ0 ⊢
  refine (l3VarYes s 0 n0 q1 hs (Nat.zero_le _) HN0.out _).mono ?_
  rintro e w1 ⟨rfl, hb⟩
  have HZ1 := Lib.hid (HZ0.out.next hb)
  clear hb HZ0
  go_wp2_with fail
  refine (l3VarYes s q1 n1 q2 hs hq1 HN1.out _).mono ?_
  rintro e w2 ⟨rfl, hb⟩
  have HZ2 := Lib.hid (HZ1.out.next hb)
  clear hb HZ1
  go_wp2_with fail
  refine (l3VarNo s q2 hq2 HF.out _).mono ?_
  rintro e w3 ⟨rfl, hb⟩
  have HZ3 := Lib.hid (HZ2.out.next hb)
  clear hb HZ2
  go_wp2_with fail
  refine (l3VarNeg s _).mono ?_
  rintro e w' ⟨rfl, rfl⟩
  obtain ⟨e0, e1, e2, e3, e4, e5, e6, e7⟩ := op_cellsR HZ3.out.res
  obtain ⟨f0, f1, f2, f3, f4, f5, f6, f7⟩ := op_frozenR HZ3.out.res
  go_wp2
  have HX := Lib.hid (setOpR_same (.int .i64 0) (.int .i64 0) (.int .i64 0) (.int .i64 0) (.string ⟨#[]⟩) (.int .i64 0) (.int .i64 0) (.int .i64 0) HZ3.out.res)
  have HB := Lib.hid (setOpR_below (.int .i64 0) (.int .i64 0) (.int .i64 0) (.int .i64 0) (.string ⟨#[]⟩) (.int .i64 0) (.int .i64 0) (.int .i64 0) HZ3.out.bel (Nat.le_refl _))
  clear e0 e1 e2 e3 e4 e5 e6 e7 f0 f1 f2 f3 f4 f5 f6 f7
  change bodyPost _ _ _ _ _ (setOpR w3 w.heap.size (.int .i64 0) (.int .i64 0) (.int .i64 0) (.int .i64 0) (.string ⟨#[]⟩) (.int .i64 0) (.int .i64 0) (.int .i64 0))
  generalize setOpR w3 w.heap.size (.int .i64 0) (.int .i64 0) (.int .i64 0) (.int .i64 0) (.string ⟨#[]⟩) (.int .i64 0) (.int .i64 0) (.int .i64 0) = wf at HX HB ⊢
  obtain ⟨d0, d1, d2, d3, d4, d5, d6, d7⟩ := op_cellsR HX.out
  exact bodyPost_ret (v := .tuple #[.agg #[.int .i64 0, .int .i64 0, .int .i64 0, .int .i64 0, .string ⟨#[]⟩, .int .i64 0, .int .i64 0, .int .i64 0], .int .i64 0, .bool false]) (by simp [results, Tryd.results10, go_sem, d0, d1, d2, d3, d4, d5, d6, d7]) rfl ⟨HB.out, .inr ⟨HNo.out, rfl⟩⟩
set_option maxRecDepth 100000 in
set_option maxHeartbeats 2000000 in
theorem specReadOp3 (s : ByteArray) (hs : s.size ≤ 1048576) (w : World) (n0 q1 : Nat) (HN0 : Hid (NumIs s 0 n0 q1)) (n1 q2 : Nat) (HN1 : Hid (NumIs s q1 n1 q2)) (n2 q3 : Nat) (HN2 : Hid (NumIs s q2 n2 q3)) (HF : Hid (NoNum s q3)) : Calls Tryd.prog 10 #[.string s] w (OpPostR s w) := by
  have HNo := Lib.hid (noOp3 HN0.out HN1.out HN2.out HF.out)
  have hq1 := HN0.out.le (Nat.zero_le _)
  have hq2 := HN1.out.le hq1
  have hq3 := HN2.out.le hq2
  have HZ0 := Lib.hid (res0 w)
  go_enter Tryd.func10, Tryd.ntmps10
  go_wp2_with fail
  generalize w.alloc (.cells #[.int .i64 0, .int .i64 0, .int .i64 0, .int .i64 0, .string ⟨#[]⟩, .int .i64 0, .int .i64 0, .int .i64 0] 25) = w0 at HZ0 ⊢
  refine (l3VarYes s 0 n0 q1 hs (Nat.zero_le _) HN0.out _).mono ?_
  rintro e w1 ⟨rfl, hb⟩
  have HZ1 := Lib.hid (HZ0.out.next hb)
  clear hb HZ0
  go_wp2_with fail
  refine (l3VarYes s q1 n1 q2 hs hq1 HN1.out _).mono ?_
  rintro e w2 ⟨rfl, hb⟩
  have HZ2 := Lib.hid (HZ1.out.next hb)
  clear hb HZ1
  go_wp2_with fail
  refine (l3VarYes s q2 n2 q3 hs hq2 HN2.out _).mono ?_
  rintro e w3 ⟨rfl, hb⟩
  have HZ3 := Lib.hid (HZ2.out.next hb)
  clear hb HZ2
  go_wp2_with fail
  refine (l3VarNo s q3 hq3 HF.out _).mono ?_
  rintro e w4 ⟨rfl, hb⟩
  have HZ4 := Lib.hid (HZ3.out.next hb)
  clear hb HZ3
  obtain ⟨e0, e1, e2, e3, e4, e5, e6, e7⟩ := op_cellsR HZ4.out.res
  obtain ⟨f0, f1, f2, f3, f4, f5, f6, f7⟩ := op_frozenR HZ4.out.res
  go_wp2
  have HX := Lib.hid (setOpR_same (.int .i64 0) (.int .i64 0) (.int .i64 0) (.int .i64 0) (.string ⟨#[]⟩) (.int .i64 0) (.int .i64 0) (.int .i64 0) HZ4.out.res)
  have HB := Lib.hid (setOpR_below (.int .i64 0) (.int .i64 0) (.int .i64 0) (.int .i64 0) (.string ⟨#[]⟩) (.int .i64 0) (.int .i64 0) (.int .i64 0) HZ4.out.bel (Nat.le_refl _))
  clear e0 e1 e2 e3 e4 e5 e6 e7 f0 f1 f2 f3 f4 f5 f6 f7
  change bodyPost _ _ _ _ _ (setOpR w4 w.heap.size (.int .i64 0) (.int .i64 0) (.int .i64 0) (.int .i64 0) (.string ⟨#[]⟩) (.int .i64 0) (.int .i64 0) (.int .i64 0))
  generalize setOpR w4 w.heap.size (.int .i64 0) (.int .i64 0) (.int .i64 0) (.int .i64 0) (.string ⟨#[]⟩) (.int .i64 0) (.int .i64 0) (.int .i64 0) = wf at HX HB ⊢
  obtain ⟨d0, d1, d2, d3, d4, d5, d6, d7⟩ := op_cellsR HX.out
  exact bodyPost_ret (v := .tuple #[.agg #[.int .i64 0, .int .i64 0, .int .i64 0, .int .i64 0, .string ⟨#[]⟩, .int .i64 0, .int .i64 0, .int .i64 0], .int .i64 0, .bool false]) (by simp [results, Tryd.results10, go_sem, d0, d1, d2, d3, d4, d5, d6, d7]) rfl ⟨HB.out, .inr ⟨HNo.out, rfl⟩⟩
set_option maxRecDepth 100000 in
set_option maxHeartbeats 2000000 in
theorem specReadOp4 (s : ByteArray) (hs : s.size ≤ 1048576) (w : World) (n0 q1 : Nat) (HN0 : Hid (NumIs s 0 n0 q1)) (n1 q2 : Nat) (HN1 : Hid (NumIs s q1 n1 q2)) (n2 q3 : Nat) (HN2 : Hid (NumIs s q2 n2 q3)) (n3 q4 : Nat) (HN3 : Hid (NumIs s q3 n3 q4)) (HF : Hid (NoTxt s q4)) : Calls Tryd.prog 10 #[.string s] w (OpPostR s w) := by
  have HNo := Lib.hid (noOp4 HN0.out HN1.out HN2.out HN3.out HF.out)
  have hq1 := HN0.out.le (Nat.zero_le _)
  have hq2 := HN1.out.le hq1
  have hq3 := HN2.out.le hq2
  have hq4 := HN3.out.le hq3
  have HZ0 := Lib.hid (res0 w)
  go_enter Tryd.func10, Tryd.ntmps10
  go_wp2_with fail
  generalize w.alloc (.cells #[.int .i64 0, .int .i64 0, .int .i64 0, .int .i64 0, .string ⟨#[]⟩, .int .i64 0, .int .i64 0, .int .i64 0] 25) = w0 at HZ0 ⊢
  refine (l3VarYes s 0 n0 q1 hs (Nat.zero_le _) HN0.out _).mono ?_
  rintro e w1 ⟨rfl, hb⟩
  have HZ1 := Lib.hid (HZ0.out.next hb)
  clear hb HZ0
  go_wp2_with fail
  refine (l3VarYes s q1 n1 q2 hs hq1 HN1.out _).mono ?_
  rintro e w2 ⟨rfl, hb⟩
  have HZ2 := Lib.hid (HZ1.out.next hb)
  clear hb HZ1
  go_wp2_with fail
  refine (l3VarYes s q2 n2 q3 hs hq2 HN2.out _).mono ?_
  rintro e w3 ⟨rfl, hb⟩
  have HZ3 := Lib.hid (HZ2.out.next hb)
  clear hb HZ2
  go_wp2_with fail
  refine (l3VarYes s q3 n3 q4 hs hq3 HN3.out _).mono ?_
  rintro e w4 ⟨rfl, hb⟩
  have HZ4 := Lib.hid (HZ3.out.next hb)
  clear hb HZ3
  have hl4 : ¬ ((q4 : Int) < 0) := by omega
  have hl5 : (q4 : Int) ≤ (s.size : Int) := by omega
  go_wp2_with fail
  refine (specReadText (cut s q4) _ (by rw [cut_size]; omega)).mono ?_
  rintro e w5 ⟨hb, ⟨hok, _⟩ | ⟨_, rfl⟩⟩
  · exact absurd ⟨hok, rfl, rfl⟩ (HF.out _ _)
  have HZ5 := Lib.hid (HZ4.out.next hb)
  clear hb HZ4
  obtain ⟨e0, e1, e2, e3, e4, e5, e6, e7⟩ := op_cellsR HZ5.out.res
  obtain ⟨f0, f1, f2, f3, f4, f5, f6, f7⟩ := op_frozenR HZ5.out.res
  go_wp2
  have HX := Lib.hid (setOpR_same (.int .i64 0) (.int .i64 0) (.int .i64 0) (.int .i64 0) (.string ⟨#[]⟩) (.int .i64 0) (.int .i64 0) (.int .i64 0) HZ5.out.res)
  have HB := Lib.hid (setOpR_below (.int .i64 0) (.int .i64 0) (.int .i64 0) (.int .i64 0) (.string ⟨#[]⟩) (.int .i64 0) (.int .i64 0) (.int .i64 0) HZ5.out.bel (Nat.le_refl _))
  clear e0 e1 e2 e3 e4 e5 e6 e7 f0 f1 f2 f3 f4 f5 f6 f7
  change bodyPost _ _ _ _ _ (setOpR w5 w.heap.size (.int .i64 0) (.int .i64 0) (.int .i64 0) (.int .i64 0) (.string ⟨#[]⟩) (.int .i64 0) (.int .i64 0) (.int .i64 0))
  generalize setOpR w5 w.heap.size (.int .i64 0) (.int .i64 0) (.int .i64 0) (.int .i64 0) (.string ⟨#[]⟩) (.int .i64 0) (.int .i64 0) (.int .i64 0) = wf at HX HB ⊢
  obtain ⟨d0, d1, d2, d3, d4, d5, d6, d7⟩ := op_cellsR HX.out
  exact bodyPost_ret (v := .tuple #[.agg #[.int .i64 0, .int .i64 0, .int .i64 0, .int .i64 0, .string ⟨#[]⟩, .int .i64 0, .int .i64 0, .int .i64 0], .int .i64 0, .bool false]) (by simp [results, Tryd.results10, go_sem, d0, d1, d2, d3, d4, d5, d6, d7]) rfl ⟨HB.out, .inr ⟨HNo.out, rfl⟩⟩
end Go.Proofs.YtialoobnjfbboaaDoor
