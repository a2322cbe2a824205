/- The walk of spec.ReadOp where all numbers and the text are there; and the whole. -/
import Derived.Test.YtialoobnjfbboaaDoorSpecReadN
import Derived.Deep.Cut
import Derived.Test.YtialoobnjfbboaaDoorSpecReadM
namespace Go.Proofs.YtialoobnjfbboaaDoor
open Go.RowKit

set_option maxRecDepth 100000 in
set_option maxHeartbeats 2000000 in
theorem specReadOp8n (s : ByteArray) (hs : s.size ≤ 1048576) (w : World) (n0 q1 : Nat) (HN0 : Hid (NumIs s 0 n0 q1)) (n1 q2 : Nat) (HN1 : Hid (NumIs s q1 n1 q2)) (n2 q3 : Nat) (HN2 : Hid (NumIs s q2 n2 q3)) (n3 q4 : Nat) (HN3 : Hid (NumIs s q3 n3 q4)) (t : ByteArray) (q5 : Nat) (HN4 : Hid (TxtIs s q4 t q5)) (n5 q6 : Nat) (HN5 : Hid (NumIs s q5 n5 q6)) (n6 q7 : Nat) (HN6 : Hid (NumIs s q6 n6 q7)) (n7 q8 : Nat) (HN7 : Hid (NumIs s q7 n7 q8)) (HO : Hid (opB n0 n1 n2 n3 t n5 n6 n7 = false)) : Calls Tryd.prog 10 #[.string s] w (OpPostR s w) := by
  have HNo := Lib.hid (noOp8 HN0.out HN1.out HN2.out HN3.out HN4.out HN5.out HN6.out HN7.out HO.out)
  have hq1 := HN0.out.le (Nat.zero_le _)
  have hq2 := HN1.out.le hq1
  have hq3 := HN2.out.le hq2
  have hq4 := HN3.out.le hq3
  have hq5 := HN4.out.le hq4
  have hq6 := HN5.out.le hq5
  have hq7 := HN6.out.le hq6
  have hq8 := HN7.out.le hq7
  have ht4 : t.size ≤ 1048576 := Nat.le_trans HN4.out.size (by omega)
  have HZ0 := Lib.hid (res0 w)
  go_enter Tryd.func10, Tryd.ntmps10
  go_wp2_with fail
  generalize w.alloc (.cells #[.int .i64 0, .int .i64 0, .int .i64 0, .int .i64 0, .string ⟨#[]⟩, .int .i64 0, .int .i64 0, .int .i64 0] 25) = w0 at HZ0 ⊢
  refine (l3VarYes s 0 n0 q1 hs (Nat.zero_le _) HN0.out _).mono ?_
  rintro e w1 ⟨rfl, hb⟩
  have HZ1 := Lib.hid (HZ0.out.next hb)
  clear hb HZ0
  go_wp2_with fail
  refine (l3VarYes s q1 n1 q2 hs hq1 HN1.out _).mono ?_
  rintro e w2 ⟨rfl, hb⟩
  have HZ2 := Lib.hid (HZ1.out.next hb)
  clear hb HZ1
  go_wp2_with fail
  refine (l3VarYes s q2 n2 q3 hs hq2 HN2.out _).mono ?_
  rintro e w3 ⟨rfl, hb⟩
  have HZ3 := Lib.hid (HZ2.out.next hb)
  clear hb HZ2
  go_wp2_with fail
  refine (l3VarYes s q3 n3 q4 hs hq3 HN3.out _).mono ?_
  rintro e w4 ⟨rfl, hb⟩
  have HZ4 := Lib.hid (HZ3.out.next hb)
  clear hb HZ3
  have hl4 : ¬ ((q4 : Int) < 0) := by omega
  have hl5 : (q4 : Int) ≤ (s.size : Int) := by omega
  go_wp2_with fail
  refine (specReadText (cut s q4) _ (by rw [cut_size]; omega)).mono ?_
  rintro e w5 ⟨hb, ⟨_, rfl⟩ | ⟨hok, _⟩⟩
  rotate_left
  · exact absurd HN4.out.ok hok
  have HZ5 := Lib.hid (HZ4.out.next hb)
  clear hb HZ4
  rw [← HN4.out.val]
  have HK5 : Hid (∃ k5, txtEnd (cut s q4) = k5 ∧ q5 = q4 + k5) := ⟨_, rfl, HN4.out.at'⟩
  obtain ⟨k5, hk5, hq5'⟩ := HK5.out
  rw [hk5]
  clear hk5 HK5
  have HS5 : Hid ((q4 : Int) + (k5 : Int) = (q5 : Int)) := by show _ = _; omega
  have hkb : k5 ≤ 1048576 := by omega
  clear hq5'
  go_wp2_with fail
  rw [HS5.out]
  refine (l3VarYes s q5 n5 q6 hs hq5 HN5.out _).mono ?_
  rintro e w6 ⟨rfl, hb⟩
  have HZ6 := Lib.hid (HZ5.out.next hb)
  clear hb HZ5
  go_wp2_with fail
  refine (l3VarYes s q6 n6 q7 hs hq6 HN6.out _).mono ?_
  rintro e w7 ⟨rfl, hb⟩
  have HZ7 := Lib.hid (HZ6.out.next hb)
  clear hb HZ6
  go_wp2_with fail
  refine (l3VarYes s q7 n7 q8 hs hq7 HN7.out _).mono ?_
  rintro e w8 ⟨rfl, hb⟩
  have HZ8 := Lib.hid (HZ7.out.next hb)
  clear hb HZ7
  have hl8 : decide ((q8 : Int) < 0) = false := decide_eq_false (by omega)
  go_upto_region 14 with fail
  have HBo := Lib.hid (boxAt (Below.refl _ (w8.alloc (.cells #[.int .i64 (n0 : Int), .int .i64 (n1 : Int), .int .i64 (n2 : Int), .int .i64 (n3 : Int), .string t, .int .i64 (n5 : Int), .int .i64 (n6 : Int), .int .i64 (n7 : Int)] 25))))
  have HZ9 := Lib.hid (HZ8.out.next ((Below.refl _ w8).alloc (Nat.le_refl _) (.cells #[.int .i64 (n0 : Int), .int .i64 (n1 : Int), .int .i64 (n2 : Int), .int .i64 (n3 : Int), .string t, .int .i64 (n5 : Int), .int .i64 (n6 : Int), .int .i64 (n7 : Int)] 25)))
  have hbl := (Array.getElem?_eq_some_iff.1 HZ8.out.res).1
  generalize w8.alloc (.cells #[.int .i64 (n0 : Int), .int .i64 (n1 : Int), .int .i64 (n2 : Int), .int .i64 (n3 : Int), .string t, .int .i64 (n5 : Int), .int .i64 (n6 : Int), .int .i64 (n7 : Int)] 25) = w9 at HZ9 HBo ⊢
  clear HZ8
  generalize w8.heap.size = bo at HBo hbl ⊢
  obtain ⟨d0, d1, d2, d3, d4, d5, d6, d7⟩ := op_cellsR HBo.out
  go_wp2_with fail
  refine (specOpOk (n0 : Int) (n1 : Int) (n2 : Int) (n3 : Int) t (n5 : Int) (n6 : Int) (n7 : Int) _ ht4).mono ?_
  rintro e w10 ⟨rfl, hb⟩
  rw [HO.out]
  have HZ10 := Lib.hid (HZ9.out.next hb)
  have HBo2 := Lib.hid ((hb.block _ (Array.getElem?_eq_some_iff.1 HBo.out).1).trans HBo.out)
  clear hb HZ9 HBo d0 d1 d2 d3 d4 d5 d6 d7
  obtain ⟨e0, e1, e2, e3, e4, e5, e6, e7⟩ := op_cellsR HZ10.out.res
  obtain ⟨f0, f1, f2, f3, f4, f5, f6, f7⟩ := op_frozenR HZ10.out.res
  go_wp2
  have HX := Lib.hid (setOpR_same (.int .i64 0) (.int .i64 0) (.int .i64 0) (.int .i64 0) (.string ⟨#[]⟩) (.int .i64 0) (.int .i64 0) (.int .i64 0) HZ10.out.res)
  have HB := Lib.hid (setOpR_below (.int .i64 0) (.int .i64 0) (.int .i64 0) (.int .i64 0) (.string ⟨#[]⟩) (.int .i64 0) (.int .i64 0) (.int .i64 0) HZ10.out.bel (Nat.le_refl _))
  clear e0 e1 e2 e3 e4 e5 e6 e7 f0 f1 f2 f3 f4 f5 f6 f7
  change bodyPost _ _ _ _ _ (setOpR w10 w.heap.size (.int .i64 0) (.int .i64 0) (.int .i64 0) (.int .i64 0) (.string ⟨#[]⟩) (.int .i64 0) (.int .i64 0) (.int .i64 0))
  generalize setOpR w10 w.heap.size (.int .i64 0) (.int .i64 0) (.int .i64 0) (.int .i64 0) (.string ⟨#[]⟩) (.int .i64 0) (.int .i64 0) (.int .i64 0) = wf at HX HB ⊢
  obtain ⟨d0, d1, d2, d3, d4, d5, d6, d7⟩ := op_cellsR HX.out
  exact bodyPost_ret (v := .tuple #[.agg #[.int .i64 0, .int .i64 0, .int .i64 0, .int .i64 0, .string ⟨#[]⟩, .int .i64 0, .int .i64 0, .int .i64 0], .int .i64 0, .bool false]) (by simp [results, Tryd.results10, go_sem, d0, d1, d2, d3, d4, d5, d6, d7]) rfl ⟨HB.out, .inr ⟨HNo.out, rfl⟩⟩
set_option maxRecDepth 100000 in
set_option maxHeartbeats 2000000 in
theorem specReadOp8y (s : ByteArray) (hs : s.size ≤ 1048576) (w : World) (n0 q1 : Nat) (HN0 : Hid (NumIs s 0 n0 q1)) (n1 q2 : Nat) (HN1 : Hid (NumIs s q1 n1 q2)) (n2 q3 : Nat) (HN2 : Hid (NumIs s q2 n2 q3)) (n3 q4 : Nat) (HN3 : Hid (NumIs s q3 n3 q4)) (t : ByteArray) (q5 : Nat) (HN4 : Hid (TxtIs s q4 t q5)) (n5 q6 : Nat) (HN5 : Hid (NumIs s q5 n5 q6)) (n6 q7 : Nat) (HN6 : Hid (NumIs s q6 n6 q7)) (n7 q8 : Nat) (HN7 : Hid (NumIs s q7 n7 q8)) (HO : Hid (opB n0 n1 n2 n3 t n5 n6 n7 = true)) : Calls Tryd.prog 10 #[.string s] w (OpPostR s w) := by
  have HIs := Lib.hid (opIs_mk HN0.out HN1.out HN2.out HN3.out HN4.out HN5.out HN6.out HN7.out HO.out)
  have hq1 := HN0.out.le (Nat.zero_le _)
  have hq2 := HN1.out.le hq1
  have hq3 := HN2.out.le hq2
  have hq4 := HN3.out.le hq3
  have hq5 := HN4.out.le hq4
  have hq6 := HN5.out.le hq5
  have hq7 := HN6.out.le hq6
  have hq8 := HN7.out.le hq7
  have ht4 : t.size ≤ 1048576 := Nat.le_trans HN4.out.size (by omega)
  have HZ0 := Lib.hid (res0 w)
  go_enter Tryd.func10, Tryd.ntmps10
  go_wp2_with fail
  generalize w.alloc (.cells #[.int .i64 0, .int .i64 0, .int .i64 0, .int .i64 0, .string ⟨#[]⟩, .int .i64 0, .int .i64 0, .int .i64 0] 25) = w0 at HZ0 ⊢
  refine (l3VarYes s 0 n0 q1 hs (Nat.zero_le _) HN0.out _).mono ?_
  rintro e w1 ⟨rfl, hb⟩
  have HZ1 := Lib.hid (HZ0.out.next hb)
  clear hb HZ0
  go_wp2_with fail
  refine (l3VarYes s q1 n1 q2 hs hq1 HN1.out _).mono ?_
  rintro e w2 ⟨rfl, hb⟩
  have HZ2 := Lib.hid (HZ1.out.next hb)
  clear hb HZ1
  go_wp2_with fail
  refine (l3VarYes s q2 n2 q3 hs hq2 HN2.out _).mono ?_
  rintro e w3 ⟨rfl, hb⟩
  have HZ3 := Lib.hid (HZ2.out.next hb)
  clear hb HZ2
  go_wp2_with fail
  refine (l3VarYes s q3 n3 q4 hs hq3 HN3.out _).mono ?_
  rintro e w4 ⟨rfl, hb⟩
  have HZ4 := Lib.hid (HZ3.out.next hb)
  clear hb HZ3
  have hl4 : ¬ ((q4 : Int) < 0) := by omega
  have hl5 : (q4 : Int) ≤ (s.size : Int) := by omega
  go_wp2_with fail
  refine (specReadText (cut s q4) _ (by rw [cut_size]; omega)).mono ?_
  rintro e w5 ⟨hb, ⟨_, rfl⟩ | ⟨hok, _⟩⟩
  rotate_left
  · exact absurd HN4.out.ok hok
  have HZ5 := Lib.hid (HZ4.out.next hb)
  clear hb HZ4
  rw [← HN4.out.val]
  have HK5 : Hid (∃ k5, txtEnd (cut s q4) = k5 ∧ q5 = q4 + k5) := ⟨_, rfl, HN4.out.at'⟩
  obtain ⟨k5, hk5, hq5'⟩ := HK5.out
  rw [hk5]
  clear hk5 HK5
  have HS5 : Hid ((q4 : Int) + (k5 : Int) = (q5 : Int)) := by show _ = _; omega
  have hkb : k5 ≤ 1048576 := by omega
  clear hq5'
  go_wp2_with fail
  rw [HS5.out]
  refine (l3VarYes s q5 n5 q6 hs hq5 HN5.out _).mono ?_
  rintro e w6 ⟨rfl, hb⟩
  have HZ6 := Lib.hid (HZ5.out.next hb)
  clear hb HZ5
  go_wp2_with fail
  refine (l3VarYes s q6 n6 q7 hs hq6 HN6.out _).mono ?_
  rintro e w7 ⟨rfl, hb⟩
  have HZ7 := Lib.hid (HZ6.out.next hb)
  clear hb HZ6
  go_wp2_with fail
  refine (l3VarYes s q7 n7 q8 hs hq7 HN7.out _).mono ?_
  rintro e w8 ⟨rfl, hb⟩
  have HZ8 := Lib.hid (HZ7.out.next hb)
  clear hb HZ7
  have hl8 : decide ((q8 : Int) < 0) = false := decide_eq_false (by omega)
  go_upto_region 14 with fail
  have HBo := Lib.hid (boxAt (Below.refl _ (w8.alloc (.cells #[.int .i64 (n0 : Int), .int .i64 (n1 : Int), .int .i64 (n2 : Int), .int .i64 (n3 : Int), .string t, .int .i64 (n5 : Int), .int .i64 (n6 : Int), .int .i64 (n7 : Int)] 25))))
  have HZ9 := Lib.hid (HZ8.out.next ((Below.refl _ w8).alloc (Nat.le_refl _) (.cells #[.int .i64 (n0 : Int), .int .i64 (n1 : Int), .int .i64 (n2 : Int), .int .i64 (n3 : Int), .string t, .int .i64 (n5 : Int), .int .i64 (n6 : Int), .int .i64 (n7 : Int)] 25)))
  have hbl := (Array.getElem?_eq_some_iff.1 HZ8.out.res).1
  generalize w8.alloc (.cells #[.int .i64 (n0 : Int), .int .i64 (n1 : Int), .int .i64 (n2 : Int), .int .i64 (n3 : Int), .string t, .int .i64 (n5 : Int), .int .i64 (n6 : Int), .int .i64 (n7 : Int)] 25) = w9 at HZ9 HBo ⊢
  clear HZ8
  generalize w8.heap.size = bo at HBo hbl ⊢
  obtain ⟨d0, d1, d2, d3, d4, d5, d6, d7⟩ := op_cellsR HBo.out
  go_wp2_with fail
  refine (specOpOk (n0 : Int) (n1 : Int) (n2 : Int) (n3 : Int) t (n5 : Int) (n6 : Int) (n7 : Int) _ ht4).mono ?_
  rintro e w10 ⟨rfl, hb⟩
  rw [HO.out]
  have HZ10 := Lib.hid (HZ9.out.next hb)
  have HBo2 := Lib.hid ((hb.block _ (Array.getElem?_eq_some_iff.1 HBo.out).1).trans HBo.out)
  clear hb HZ9 HBo d0 d1 d2 d3 d4 d5 d6 d7
  obtain ⟨d0, d1, d2, d3, d4, d5, d6, d7⟩ := op_cellsR HBo2.out
  obtain ⟨e0, e1, e2, e3, e4, e5, e6, e7⟩ := op_cellsR HZ10.out.res
  obtain ⟨f0, f1, f2, f3, f4, f5, f6, f7⟩ := op_frozenR HZ10.out.res
  go_wp2
  have HX := Lib.hid (setOpR_same (.int .i64 (n0 : Int)) (.int .i64 (n1 : Int)) (.int .i64 (n2 : Int)) (.int .i64 (n3 : Int)) (.string t) (.int .i64 (n5 : Int)) (.int .i64 (n6 : Int)) (.int .i64 (n7 : Int)) HZ10.out.res)
  have HB := Lib.hid (setOpR_below (.int .i64 (n0 : Int)) (.int .i64 (n1 : Int)) (.int .i64 (n2 : Int)) (.int .i64 (n3 : Int)) (.string t) (.int .i64 (n5 : Int)) (.int .i64 (n6 : Int)) (.int .i64 (n7 : Int)) HZ10.out.bel (Nat.le_refl _))
  clear d0 d1 d2 d3 d4 d5 d6 d7 e0 e1 e2 e3 e4 e5 e6 e7 f0 f1 f2 f3 f4 f5 f6 f7
  change bodyPost _ _ _ _ _ (setOpR w10 w.heap.size (.int .i64 (n0 : Int)) (.int .i64 (n1 : Int)) (.int .i64 (n2 : Int)) (.int .i64 (n3 : Int)) (.string t) (.int .i64 (n5 : Int)) (.int .i64 (n6 : Int)) (.int .i64 (n7 : Int)))
  generalize setOpR w10 w.heap.size (.int .i64 (n0 : Int)) (.int .i64 (n1 : Int)) (.int .i64 (n2 : Int)) (.int .i64 (n3 : Int)) (.string t) (.int .i64 (n5 : Int)) (.int .i64 (n6 : Int)) (.int .i64 (n7 : Int)) = wf at HX HB ⊢
  obtain ⟨d0, d1, d2, d3, d4, d5, d6, d7⟩ := op_cellsR HX.out
  exact bodyPost_ret (v := .tuple #[.agg #[.int .i64 (n0 : Int), .int .i64 (n1 : Int), .int .i64 (n2 : Int), .int .i64 (n3 : Int), .string t, .int .i64 (n5 : Int), .int .i64 (n6 : Int), .int .i64 (n7 : Int)], .int .i64 (q8 : Int), .bool true]) (by simp [results, Tryd.results10, go_sem, d0, d1, d2, d3, d4, d5, d6, d7]) rfl ⟨HB.out, .inl ⟨_, _, _, _, _, _, _, _, _, HIs.out, rfl⟩⟩
theorem specReadOp (s : ByteArray) (hs : s.size ≤ 1048576) (w : World) : Calls Tryd.prog 10 #[.string s] w (OpPostR s w) := by
  rcases num_or s 0 with ⟨n0, q1, h0⟩ | hf
  rotate_left
  · exact specReadOp0 s hs w (Lib.hid hf)
  rcases num_or s q1 with ⟨n1, q2, h1⟩ | hf
  rotate_left
  · exact specReadOp1 s hs w n0 q1 (Lib.hid h0) (Lib.hid hf)
  rcases num_or s q2 with ⟨n2, q3, h2⟩ | hf
  rotate_left
  · exact specReadOp2 s hs w n0 q1 (Lib.hid h0) n1 q2 (Lib.hid h1) (Lib.hid hf)
  rcases num_or s q3 with ⟨n3, q4, h3⟩ | hf
  rotate_left
  · exact specReadOp3 s hs w n0 q1 (Lib.hid h0) n1 q2 (Lib.hid h1) n2 q3 (Lib.hid h2) (Lib.hid hf)
  rcases txt_or s q4 with ⟨t, q5, h4⟩ | hf
  rotate_left
  · exact specReadOp4 s hs w n0 q1 (Lib.hid h0) n1 q2 (Lib.hid h1) n2 q3 (Lib.hid h2) n3 q4 (Lib.hid h3) (Lib.hid hf)
  rcases num_or s q5 with ⟨n5, q6, h5⟩ | hf
  rotate_left
  · exact specReadOp5 s hs w n0 q1 (Lib.hid h0) n1 q2 (Lib.hid h1) n2 q3 (Lib.hid h2) n3 q4 (Lib.hid h3) t q5 (Lib.hid h4) (Lib.hid hf)
  rcases num_or s q6 with ⟨n6, q7, h6⟩ | hf
  rotate_left
  · exact specReadOp6 s hs w n0 q1 (Lib.hid h0) n1 q2 (Lib.hid h1) n2 q3 (Lib.hid h2) n3 q4 (Lib.hid h3) t q5 (Lib.hid h4) n5 q6 (Lib.hid h5) (Lib.hid hf)
  rcases num_or s q7 with ⟨n7, q8, h7⟩ | hf
  rotate_left
  · exact specReadOp7 s hs w n0 q1 (Lib.hid h0) n1 q2 (Lib.hid h1) n2 q3 (Lib.hid h2) n3 q4 (Lib.hid h3) t q5 (Lib.hid h4) n5 q6 (Lib.hid h5) n6 q7 (Lib.hid h6) (Lib.hid hf)
  rcases ho : opB n0 n1 n2 n3 t n5 n6 n7 with _ | _
  · exact specReadOp8n s hs w n0 q1 (Lib.hid h0) n1 q2 (Lib.hid h1) n2 q3 (Lib.hid h2) n3 q4 (Lib.hid h3) t q5 (Lib.hid h4) n5 q6 (Lib.hid h5) n6 q7 (Lib.hid h6) n7 q8 (Lib.hid h7) (Lib.hid ho)
  · exact specReadOp8y s hs w n0 q1 (Lib.hid h0) n1 q2 (Lib.hid h1) n2 q3 (Lib.hid h2) n3 q4 (Lib.hid h3) t q5 (Lib.hid h4) n5 q6 (Lib.hid h5) n6 q7 (Lib.hid h6) n7 q8 (Lib.hid h7) (Lib.hid ho)
end Go.Proofs.YtialoobnjfbboaaDoor
