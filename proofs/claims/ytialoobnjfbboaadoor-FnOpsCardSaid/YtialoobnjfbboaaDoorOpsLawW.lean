/- The walk of the law FnOps. -/
import Derived.Test.YtialoobnjfbboaaDoorOpTextW
import Derived.Test.YtialoobnjfbboaaDoorReadOpLawW
import Derived.Deep.DeepCutAuto
import Derived.Deep.RegionHeld3
import Derived.Deep.Cut
namespace Go.Proofs.YtialoobnjfbboaaDoor
open Go.RowKit

theorem opT_cases (dev seq stamp kind : Int) (item : ByteArray) (qty level undos : Int) : if opB dev seq stamp kind item qty level undos = true then (opT dev seq stamp kind item qty level undos).toList ≠ [] else opT dev seq stamp kind item qty level undos = ⟨#[]⟩ := by
  unfold opT
  by_cases h : opB dev seq stamp kind item qty level undos = true
  · rw [if_pos h, if_pos h, Lib.toList_data, opBytes_list]
    unfold opList
    intro e
    have := congrArg List.length e
    simp only [List.length_append, List.length_nil] at this
    obtain ⟨pre, z, hpz, _⟩ := varBytes_shape dev.toNat dev.toNat (Nat.le_refl _)
    rw [hpz] at this
    simp only [List.length_append, List.length_cons, List.length_nil] at this
    omega
  · rw [if_neg h, if_neg h]
theorem op_back {t : ByteArray} {dev seq stamp kind : Int} {item : ByteArray} {qty level undos : Int} {k : Nat} (h : OpIs t 0 dev seq stamp kind item qty level undos k) : opT dev seq stamp kind item qty level undos = t.extract 0 k ∧ k ≤ t.size := by
  have ha := op_again h
  obtain ⟨n0, q1, n1, q2, n2, q3, n3, q4, q5, n5, q6, n6, q7, n7, h0, h1, h2, h3, h4, h5, h6, h7, rfl, rfl, rfl, rfl, rfl, rfl, rfl, hB⟩ := h
  have hk : k ≤ t.size := h7.le (h6.le (h5.le (h4.le (h3.le (h2.le (h1.le (h0.le (Nat.zero_le _))))))))
  refine ⟨?_, hk⟩
  unfold opT
  rw [if_pos hB]
  refine bytes_ext ?_
  rw [opBytes_list, ByteArray.data_extract, Array.toList_extract, List.extract_eq_take_drop, List.drop_zero, Nat.sub_zero]
  rw [List.drop_zero] at ha
  have hl := congrArg List.length ha
  rw [List.length_append, List.length_drop] at hl
  rw [Lib.size_eq] at hk
  generalize opList _ _ _ _ _ _ _ _ = A at ha hl ⊢
  have hA : A.length = k := by omega
  rw [ha, ← hA, List.take_left]

theorem op_fits {dev seq stamp kind : Int} {item : ByteArray} {qty level undos : Int} (h : opB dev seq stamp kind item qty level undos = true) : (0 ≤ dev ∧ Fit dev.toNat) ∧ (0 ≤ seq ∧ Fit seq.toNat) ∧ (0 ≤ stamp ∧ Fit stamp.toNat) ∧ (0 ≤ kind ∧ Fit kind.toNat) ∧ item.size ≤ 4000 ∧ (0 ≤ qty ∧ Fit qty.toNat) ∧ (0 ≤ level ∧ Fit level.toNat) ∧ (0 ≤ undos ∧ Fit undos.toNat) := by
  unfold opB headB tailB kindB at h
  simp only [Bool.and_eq_true] at h
  obtain ⟨⟨h1, h2, h3, h4, h5⟩, h6, h7, h8⟩ := h
  have a1 := inB_iff.1 h1
  have a2 := inB_iff.1 h2
  have a3 := inB_iff.1 h3
  have a5 := inB_iff.1 h5
  have a6 := inB_iff.1 h6
  have a4 : item.size ≤ 8 := by
    unfold itemB at h4
    simp only [Bool.and_eq_true, decide_eq_true_eq] at h4
    exact h4.1.2
  have a7 : 0 ≤ qty ∧ qty ≤ 999 := by
    unfold qB at h7
    split at h7
    · have := inB_iff.1 h7; omega
    · have := of_decide_eq_true h7; omega
  have a8 : 0 ≤ level ∧ level ≤ 100 := by
    unfold lB at h8
    split at h8
    · rw [Bool.and_eq_true] at h8; have := inB_iff.1 h8.1; omega
    · split at h8
      · rw [Bool.and_eq_true] at h8; have := inB_iff.1 h8.1; omega
      · have := of_decide_eq_true h8; omega
  unfold Fit
  refine ⟨?_, ?_, ?_, ?_, ?_, ?_, ?_, ?_⟩ <;> omega
theorem op_back2 {dev seq stamp kind : Int} {item : ByteArray} {qty level undos : Int} (hB : opB dev seq stamp kind item qty level undos = true) (t : ByteArray) : OpIs (opT dev seq stamp kind item qty level undos ++ t) 0 dev seq stamp kind item qty level undos (opT dev seq stamp kind item qty level undos).size := by
  obtain ⟨f0, f1, f2, f3, f4, f5, f6, f7⟩ := op_fits hB
  unfold opT
  rw [if_pos hB]
  have h : (opBytes dev seq stamp kind item qty level undos ++ t).data.toList.drop 0 = opList dev seq stamp kind item qty level undos ++ t.data.toList := by
    rw [List.drop_zero, ByteArray.data_append, Array.toList_append, opBytes_list]
  obtain ⟨q, h1, h2⟩ := op_there h f0 f1 f2 f3 f4 f5 f6 f7 hB
  have hq := (op_back h1).2
  have hl := congrArg List.length h2
  rw [List.length_drop, ← Lib.size_eq, ← Lib.size_eq, ByteArray.size_append] at hl
  rw [ByteArray.size_append] at hq
  have e : q = (opBytes dev seq stamp kind item qty level undos).size := by omega
  rw [← e]
  exact h1

set_option linter.unusedSimpArgs false in
set_option maxRecDepth 100000 in
set_option maxHeartbeats 16000000 in
theorem fnOpsWalk (a : Option Addr) (len cap : Nat) (zs : List Int) (w : World) (u : TypeId) (x : Value) (hE : Sent w u x) (h : IsRow .u8 w a len cap zs) : Calls Tryd.prog 3 #[.slice a len cap] w fun e w' => e = .returned (.bool true) ∧ Below w.heap.size w w' := by
  have HE := Lib.hid hE
  clear hE
  by_cases hbig : len ≤ 1048576
  rotate_left
  · go_enter Tryd.func3, Tryd.ntmps3
    go_wp2_with fail
    refine (bigYes a len cap hbig w).mono ?_
    rintro e w' ⟨rfl, rfl⟩
    go_wp2
    go_ret
    exact ⟨rfl, Below.refl _ _⟩
  have HS := Lib.hid (src_of_row h hbig)
  clear h
  go_enter Tryd.func3, Tryd.ntmps3
  go_wp2_with fail
  refine (bigNo a len cap hbig w).mono ?_
  rintro e w' ⟨rfl, rfl⟩
  go_wp2_with fail
  refine (drawOpBytes w a len cap HS.out).mono ?_
  rintro e w1 ⟨dev, seq, stamp, kind, item, qty, level, undos, hit, rfl, hb1⟩
  have HB1 := Lib.hid hb1
  clear hb1
  go_upto_region 4 with fail
  have hxb := boxAt (Below.refl _ (w1.alloc (.cells #[.int .i64 dev, .int .i64 seq, .int .i64 stamp, .int .i64 kind, .string item, .int .i64 qty, .int .i64 level, .int .i64 undos] 25)))
  have HB2 := Lib.hid (HB1.out.alloc HB1.out.size (.cells #[.int .i64 dev, .int .i64 seq, .int .i64 stamp, .int .i64 kind, .string item, .int .i64 qty, .int .i64 level, .int .i64 undos] 25))
  generalize w1.alloc (.cells #[.int .i64 dev, .int .i64 seq, .int .i64 stamp, .int .i64 kind, .string item, .int .i64 qty, .int .i64 level, .int .i64 undos] 25) = w2 at hxb HB2 ⊢
  generalize w1.heap.size = bo at hxb ⊢
  have HXbo2 := Lib.hid hxb
  clear hxb HB1
  obtain ⟨c0, c1, c2, c3, c4, c5, c6, c7⟩ := op_cells HXbo2.out
  go_wp2_with fail
  refine (implOpT dev seq stamp kind item qty level undos w2).mono ?_
  rintro e w3 ⟨rfl, hb⟩
  clear c0 c1 c2 c3 c4 c5 c6 c7
  have HB3 := Lib.hid (HB2.out.trans (hb.mono HB2.out.size))
  have HXbo3 := Lib.hid ((hb.block _ (Array.getElem?_eq_some_iff.1 HXbo2.out).1).trans HXbo2.out)
  clear hb HB2 HXbo2
  have hsz := opT_size dev seq stamp kind item qty level undos
  have HSp := Lib.hid (fun w => specOpT dev seq stamp kind item qty level undos w (by omega))
  have HOk := Lib.hid (fun w => implOpOk dev seq stamp kind item qty level undos w)
  generalize hs : opT dev seq stamp kind item qty level undos = s at hsz HSp ⊢
  have HTs := Lib.hid hs
  clear hs
  go_wp2_with fail
  refine (drawOpOk w3 a len cap (src_below HS.out HB3.out |> fun h => src_wide h HB3.out.size)).mono ?_
  rintro e w4 ⟨dev1, seq1, stamp1, kind1, item1, qty1, level1, undos1, hit1, rfl, hb⟩
  have HB4 := Lib.hid (HB3.out.trans (hb.mono HB3.out.size))
  have HXbo4 := Lib.hid ((hb.block _ (Array.getElem?_eq_some_iff.1 HXbo3.out).1).trans HXbo3.out)
  clear hb HB3 HXbo3
  go_upto_region 6 with fail
  have hxb := boxAt (Below.refl _ (w4.alloc (.cells #[.int .i64 dev1, .int .i64 seq1, .int .i64 stamp1, .int .i64 kind1, .string item1, .int .i64 qty1, .int .i64 level1, .int .i64 undos1] 25)))
  have HB5 := Lib.hid (HB4.out.alloc HB4.out.size (.cells #[.int .i64 dev1, .int .i64 seq1, .int .i64 stamp1, .int .i64 kind1, .string item1, .int .i64 qty1, .int .i64 level1, .int .i64 undos1] 25))
  have HXbo5 := Lib.hid ((Below.heap_alloc w4 (.cells #[.int .i64 dev1, .int .i64 seq1, .int .i64 stamp1, .int .i64 kind1, .string item1, .int .i64 qty1, .int .i64 level1, .int .i64 undos1] 25) bo (Array.getElem?_eq_some_iff.1 HXbo4.out).1).trans HXbo4.out)
  generalize w4.alloc (.cells #[.int .i64 dev1, .int .i64 seq1, .int .i64 stamp1, .int .i64 kind1, .string item1, .int .i64 qty1, .int .i64 level1, .int .i64 undos1] 25) = w5 at hxb HB5 HXbo5 ⊢
  generalize w4.heap.size = bx at hxb ⊢
  have HXbx5 := Lib.hid hxb
  clear hxb HB4 HXbo4
  go_wp2_with fail
  refine (drawReadOp w5 a len cap (src_wide (src_below HS.out HB5.out) HB5.out.size)).mono ?_
  rintro e w6 ⟨t, ht, rfl, hb⟩
  have HB6 := Lib.hid (HB5.out.trans (hb.mono HB5.out.size))
  have HXbo6 := Lib.hid ((hb.block _ (Array.getElem?_eq_some_iff.1 HXbo5.out).1).trans HXbo5.out)
  have HXbx6 := Lib.hid ((hb.block _ (Array.getElem?_eq_some_iff.1 HXbx5.out).1).trans HXbx5.out)
  clear hb HB5 HXbo5 HXbx5
  go_wp2_with fail
  refine (implReadOp t w6 u x (by omega) (HE.out.below HB6.out)).mono ?_
  rintro e w7 ⟨hb, ⟨dev2, seq2, stamp2, kind2, item2, qty2, level2, undos2, k, his, rfl⟩ | ⟨hno, rfl⟩⟩
  · have HIs := Lib.hid his
    clear his
    have HB7 := Lib.hid (HB6.out.trans (hb.mono HB6.out.size))
    have HXbo7 := Lib.hid ((hb.block _ (Array.getElem?_eq_some_iff.1 HXbo6.out).1).trans HXbo6.out)
    have HXbx7 := Lib.hid ((hb.block _ (Array.getElem?_eq_some_iff.1 HXbx6.out).1).trans HXbx6.out)
    clear hb HB6 HXbo6 HXbx6
    go_upto_region 8 with fail
    have hxb := boxAt (Below.refl _ (w7.alloc (.cells #[.int .i64 dev2, .int .i64 seq2, .int .i64 stamp2, .int .i64 kind2, .string item2, .int .i64 qty2, .int .i64 level2, .int .i64 undos2] 25)))
    have HB8 := Lib.hid (HB7.out.alloc HB7.out.size (.cells #[.int .i64 dev2, .int .i64 seq2, .int .i64 stamp2, .int .i64 kind2, .string item2, .int .i64 qty2, .int .i64 level2, .int .i64 undos2] 25))
    have HXbo8 := Lib.hid ((Below.heap_alloc w7 (.cells #[.int .i64 dev2, .int .i64 seq2, .int .i64 stamp2, .int .i64 kind2, .string item2, .int .i64 qty2, .int .i64 level2, .int .i64 undos2] 25) bo (Array.getElem?_eq_some_iff.1 HXbo7.out).1).trans HXbo7.out)
    have HXbx8 := Lib.hid ((Below.heap_alloc w7 (.cells #[.int .i64 dev2, .int .i64 seq2, .int .i64 stamp2, .int .i64 kind2, .string item2, .int .i64 qty2, .int .i64 level2, .int .i64 undos2] 25) bx (Array.getElem?_eq_some_iff.1 HXbx7.out).1).trans HXbx7.out)
    generalize w7.alloc (.cells #[.int .i64 dev2, .int .i64 seq2, .int .i64 stamp2, .int .i64 kind2, .string item2, .int .i64 qty2, .int .i64 level2, .int .i64 undos2] 25) = w8 at hxb HB8 HXbo8 HXbx8 ⊢
    generalize w7.heap.size = bY at hxb ⊢
    have HXbY8 := Lib.hid hxb
    clear hxb HB7 HXbo7 HXbx7
    go_wp2_with fail
    refine (specReadOp t (by omega) w8).mono ?_
    rintro e w9 ⟨hb, ⟨dev3, seq3, stamp3, kind3, item3, qty3, level3, undos3, k', his', rfl⟩ | ⟨hno', rfl⟩⟩
    rotate_left
    · exact absurd HIs.out (hno' _ _ _ _ _ _ _ _ _)
    obtain ⟨rfl, rfl, rfl, rfl, rfl, rfl, rfl, rfl, rfl⟩ := HIs.out.eq his'
    clear his'
    have HB9 := Lib.hid (HB8.out.trans (hb.mono HB8.out.size))
    have HXbo9 := Lib.hid ((hb.block _ (Array.getElem?_eq_some_iff.1 HXbo8.out).1).trans HXbo8.out)
    have HXbx9 := Lib.hid ((hb.block _ (Array.getElem?_eq_some_iff.1 HXbx8.out).1).trans HXbx8.out)
    have HXbY9 := Lib.hid ((hb.block _ (Array.getElem?_eq_some_iff.1 HXbY8.out).1).trans HXbY8.out)
    clear hb HB8 HXbo8 HXbx8 HXbY8
    go_upto_region 9 with fail
    have hxb := boxAt (Below.refl _ (w9.alloc (.cells #[.int .i64 dev3, .int .i64 seq3, .int .i64 stamp3, .int .i64 kind3, .string item3, .int .i64 qty3, .int .i64 level3, .int .i64 undos3] 25)))
    have HB10 := Lib.hid (HB9.out.alloc HB9.out.size (.cells #[.int .i64 dev3, .int .i64 seq3, .int .i64 stamp3, .int .i64 kind3, .string item3, .int .i64 qty3, .int .i64 level3, .int .i64 undos3] 25))
    have HXbo10 := Lib.hid ((Below.heap_alloc w9 (.cells #[.int .i64 dev3, .int .i64 seq3, .int .i64 stamp3, .int .i64 kind3, .string item3, .int .i64 qty3, .int .i64 level3, .int .i64 undos3] 25) bo (Array.getElem?_eq_some_iff.1 HXbo9.out).1).trans HXbo9.out)
    have HXbx10 := Lib.hid ((Below.heap_alloc w9 (.cells #[.int .i64 dev3, .int .i64 seq3, .int .i64 stamp3, .int .i64 kind3, .string item3, .int .i64 qty3, .int .i64 level3, .int .i64 undos3] 25) bx (Array.getElem?_eq_some_iff.1 HXbx9.out).1).trans HXbx9.out)
    have HXbY10 := Lib.hid ((Below.heap_alloc w9 (.cells #[.int .i64 dev3, .int .i64 seq3, .int .i64 stamp3, .int .i64 kind3, .string item3, .int .i64 qty3, .int .i64 level3, .int .i64 undos3] 25) bY (Array.getElem?_eq_some_iff.1 HXbY9.out).1).trans HXbY9.out)
    generalize w9.alloc (.cells #[.int .i64 dev3, .int .i64 seq3, .int .i64 stamp3, .int .i64 kind3, .string item3, .int .i64 qty3, .int .i64 level3, .int .i64 undos3] 25) = w10 at hxb HB10 HXbo10 HXbx10 HXbY10 ⊢
    generalize w9.heap.size = bz at hxb ⊢
    have HXbz10 := Lib.hid hxb
    clear hxb HB9 HXbo9 HXbx9 HXbY9
    have hk : k' ≤ t.size := (op_back HIs.out).2
    have HV := Lib.hid (fun w => implOpT dev3 seq3 stamp3 kind3 item3 qty3 level3 undos3 w)
    have hte : opT dev3 seq3 stamp3 kind3 item3 qty3 level3 undos3 = t.extract 0 k' := (op_back HIs.out).1
    rw [hte] at HV
    clear hte
    have hk0 : (0 : Int) ≤ (k' : Int) := by omega
    have hk1 : (k' : Int) ≤ (t.size : Int) := by omega
    have hkk : ((k' : Int) != (k' : Int)) = false := bne_self_eq_false _
    have hxt : ((t.extract 0 k').toList == (t.extract 0 k').toList) = true := beq_self_eq_true _
    have hss : (s.toList == s.toList) = true := beq_self_eq_true _
    have HO1 := Lib.hid (fun w => implOpOk dev1 seq1 stamp1 kind1 item1 qty1 level1 undos1 w)
    have HO2 := Lib.hid (fun w => specOpOk dev1 seq1 stamp1 kind1 item1 qty1 level1 undos1 w (by omega))
    generalize opB dev1 seq1 stamp1 kind1 item1 qty1 level1 undos1 = ob1 at HO1 HO2
    have hq1 : (ob1 != ob1) = false := bne_self_eq_false _
    have HCs := Lib.hid (opT_cases dev seq stamp kind item qty level undos)
    have HBk : Hid (opB dev seq stamp kind item qty level undos = true → OpIs (s ++ t) 0 dev seq stamp kind item qty level undos s.size) := fun h => by rw [← HTs.out]; exact op_back2 h t
    rw [HTs.out] at HCs
    generalize opB dev seq stamp kind item qty level undos = ob at HCs HOk HBk
    have hS0 : w10.drew.cell? ⟨bo, 0, none⟩ = some (.int .i64 dev) ∧ w10.drew.cell? ⟨bo, 1, none⟩ = some (.int .i64 seq) ∧ w10.drew.cell? ⟨bo, 2, none⟩ = some (.int .i64 stamp) ∧ w10.drew.cell? ⟨bo, 3, none⟩ = some (.int .i64 kind) ∧ w10.drew.cell? ⟨bo, 4, none⟩ = some (.string item) ∧ w10.drew.cell? ⟨bo, 5, none⟩ = some (.int .i64 qty) ∧ w10.drew.cell? ⟨bo, 6, none⟩ = some (.int .i64 level) ∧ w10.drew.cell? ⟨bo, 7, none⟩ = some (.int .i64 undos) ∧ w10.drew.cell? ⟨bx, 0, none⟩ = some (.int .i64 dev1) ∧ w10.drew.cell? ⟨bx, 1, none⟩ = some (.int .i64 seq1) ∧ w10.drew.cell? ⟨bx, 2, none⟩ = some (.int .i64 stamp1) ∧ w10.drew.cell? ⟨bx, 3, none⟩ = some (.int .i64 kind1) ∧ w10.drew.cell? ⟨bx, 4, none⟩ = some (.string item1) ∧ w10.drew.cell? ⟨bx, 5, none⟩ = some (.int .i64 qty1) ∧ w10.drew.cell? ⟨bx, 6, none⟩ = some (.int .i64 level1) ∧ w10.drew.cell? ⟨bx, 7, none⟩ = some (.int .i64 undos1) ∧ w10.drew.cell? ⟨bY, 0, none⟩ = some (.int .i64 dev3) ∧ w10.drew.cell? ⟨bY, 1, none⟩ = some (.int .i64 seq3) ∧ w10.drew.cell? ⟨bY, 2, none⟩ = some (.int .i64 stamp3) ∧ w10.drew.cell? ⟨bY, 3, none⟩ = some (.int .i64 kind3) ∧ w10.drew.cell? ⟨bY, 4, none⟩ = some (.string item3) ∧ w10.drew.cell? ⟨bY, 5, none⟩ = some (.int .i64 qty3) ∧ w10.drew.cell? ⟨bY, 6, none⟩ = some (.int .i64 level3) ∧ w10.drew.cell? ⟨bY, 7, none⟩ = some (.int .i64 undos3) ∧ w10.drew.cell? ⟨bz, 0, none⟩ = some (.int .i64 dev3) ∧ w10.drew.cell? ⟨bz, 1, none⟩ = some (.int .i64 seq3) ∧ w10.drew.cell? ⟨bz, 2, none⟩ = some (.int .i64 stamp3) ∧ w10.drew.cell? ⟨bz, 3, none⟩ = some (.int .i64 kind3) ∧ w10.drew.cell? ⟨bz, 4, none⟩ = some (.string item3) ∧ w10.drew.cell? ⟨bz, 5, none⟩ = some (.int .i64 qty3) ∧ w10.drew.cell? ⟨bz, 6, none⟩ = some (.int .i64 level3) ∧ w10.drew.cell? ⟨bz, 7, none⟩ = some (.int .i64 undos3) := ⟨cell_of_row w10 bo 0 _ _ _ HXbo10.out, cell_of_row w10 bo 1 _ _ _ HXbo10.out, cell_of_row w10 bo 2 _ _ _ HXbo10.out, cell_of_row w10 bo 3 _ _ _ HXbo10.out, cell_of_row w10 bo 4 _ _ _ HXbo10.out, cell_of_row w10 bo 5 _ _ _ HXbo10.out, cell_of_row w10 bo 6 _ _ _ HXbo10.out, cell_of_row w10 bo 7 _ _ _ HXbo10.out, cell_of_row w10 bx 0 _ _ _ HXbx10.out, cell_of_row w10 bx 1 _ _ _ HXbx10.out, cell_of_row w10 bx 2 _ _ _ HXbx10.out, cell_of_row w10 bx 3 _ _ _ HXbx10.out, cell_of_row w10 bx 4 _ _ _ HXbx10.out, cell_of_row w10 bx 5 _ _ _ HXbx10.out, cell_of_row w10 bx 6 _ _ _ HXbx10.out, cell_of_row w10 bx 7 _ _ _ HXbx10.out, cell_of_row w10 bY 0 _ _ _ HXbY10.out, cell_of_row w10 bY 1 _ _ _ HXbY10.out, cell_of_row w10 bY 2 _ _ _ HXbY10.out, cell_of_row w10 bY 3 _ _ _ HXbY10.out, cell_of_row w10 bY 4 _ _ _ HXbY10.out, cell_of_row w10 bY 5 _ _ _ HXbY10.out, cell_of_row w10 bY 6 _ _ _ HXbY10.out, cell_of_row w10 bY 7 _ _ _ HXbY10.out, cell_of_row w10 bz 0 _ _ _ HXbz10.out, cell_of_row w10 bz 1 _ _ _ HXbz10.out, cell_of_row w10 bz 2 _ _ _ HXbz10.out, cell_of_row w10 bz 3 _ _ _ HXbz10.out, cell_of_row w10 bz 4 _ _ _ HXbz10.out, cell_of_row w10 bz 5 _ _ _ HXbz10.out, cell_of_row w10 bz 6 _ _ _ HXbz10.out, cell_of_row w10 bz 7 _ _ _ HXbz10.out⟩
    cases ob
    · obtain rfl : s = ⟨#[]⟩ := by have h := HCs.out; simpa using h
      go_wp2_with fail
      refine wp_region_held_drew (S := fun w' => w'.cell? ⟨bo, 0, none⟩ = some (.int .i64 dev) ∧ w'.cell? ⟨bo, 1, none⟩ = some (.int .i64 seq) ∧ w'.cell? ⟨bo, 2, none⟩ = some (.int .i64 stamp) ∧ w'.cell? ⟨bo, 3, none⟩ = some (.int .i64 kind) ∧ w'.cell? ⟨bo, 4, none⟩ = some (.string item) ∧ w'.cell? ⟨bo, 5, none⟩ = some (.int .i64 qty) ∧ w'.cell? ⟨bo, 6, none⟩ = some (.int .i64 level) ∧ w'.cell? ⟨bo, 7, none⟩ = some (.int .i64 undos) ∧ w'.cell? ⟨bx, 0, none⟩ = some (.int .i64 dev1) ∧ w'.cell? ⟨bx, 1, none⟩ = some (.int .i64 seq1) ∧ w'.cell? ⟨bx, 2, none⟩ = some (.int .i64 stamp1) ∧ w'.cell? ⟨bx, 3, none⟩ = some (.int .i64 kind1) ∧ w'.cell? ⟨bx, 4, none⟩ = some (.string item1) ∧ w'.cell? ⟨bx, 5, none⟩ = some (.int .i64 qty1) ∧ w'.cell? ⟨bx, 6, none⟩ = some (.int .i64 level1) ∧ w'.cell? ⟨bx, 7, none⟩ = some (.int .i64 undos1) ∧ w'.cell? ⟨bY, 0, none⟩ = some (.int .i64 dev3) ∧ w'.cell? ⟨bY, 1, none⟩ = some (.int .i64 seq3) ∧ w'.cell? ⟨bY, 2, none⟩ = some (.int .i64 stamp3) ∧ w'.cell? ⟨bY, 3, none⟩ = some (.int .i64 kind3) ∧ w'.cell? ⟨bY, 4, none⟩ = some (.string item3) ∧ w'.cell? ⟨bY, 5, none⟩ = some (.int .i64 qty3) ∧ w'.cell? ⟨bY, 6, none⟩ = some (.int .i64 level3) ∧ w'.cell? ⟨bY, 7, none⟩ = some (.int .i64 undos3) ∧ w'.cell? ⟨bz, 0, none⟩ = some (.int .i64 dev3) ∧ w'.cell? ⟨bz, 1, none⟩ = some (.int .i64 seq3) ∧ w'.cell? ⟨bz, 2, none⟩ = some (.int .i64 stamp3) ∧ w'.cell? ⟨bz, 3, none⟩ = some (.int .i64 kind3) ∧ w'.cell? ⟨bz, 4, none⟩ = some (.string item3) ∧ w'.cell? ⟨bz, 5, none⟩ = some (.int .i64 qty3) ∧ w'.cell? ⟨bz, 6, none⟩ = some (.int .i64 level3) ∧ w'.cell? ⟨bz, 7, none⟩ = some (.int .i64 undos3)) (by kernel_rfl) hS0 (fun hHeld => ?_)
      refine wpAnyH_take (i := 0) (oi := { dst := some 38, op := Op.move (Operand.tmp 4), type := 9, pos := "laws.go:188", after := #[], guard := none }) (v := ?_) rfl (by kernel_rfl) (by kernel_rfl) (by kernel_rfl) (fun _ _ _ h => h) (Or.inl ⟨by rfl, ?_⟩) (by assumption) ?_
      rotate_left
      · intro w hSw
        (try dsimp only at hSw)
        first | (go_simp; done) | (go_simp; with_reducible rfl)
      (try simp only [Act.put, List.setIfInBounds_toArray, List.set_cons_zero, List.set_cons_succ])
      refine wpAnyH_take (i := 1) (oi := { dst := some 39, op := Op.load 25 (Operand.tmp 3), type := 25, pos := "laws.go:188", after := #[], guard := none }) (v := ?_) rfl (by kernel_rfl) (by kernel_rfl) (by kernel_rfl) (fun _ _ _ h => h) (Or.inl ⟨by rfl, ?_⟩) (by assumption) ?_
      rotate_left
      · intro w hSw
        (try dsimp only at hSw)
        first | (go_simp; done) | (go_simp; with_reducible rfl)
      (try simp only [Act.put, List.setIfInBounds_toArray, List.set_cons_zero, List.set_cons_succ])
      refine wpAnyH_ready (rs := [2]) (by kernel_rfl) (by simp) ?_
      refine AllReadyH.cons (o := { dst := some 40, op := Op.call { callee := Callee.value (Operand.func 11), args := #[Operand.tmp 39], argTypes := #[25] }, type := 9, pos := "laws.go:188", after := #[{ on := 1, ground := Ground.data }], guard := none }) rfl (fun K hK => ?_) AllReadyH.nil
      go_simp
      go_at_call 11
      refine (HSp.out _).mono ?_
      rintro e y1 ⟨rfl, hb1⟩
      have hS1 : y1.cell? ⟨bo, 0, none⟩ = some (.int .i64 dev) ∧ y1.cell? ⟨bo, 1, none⟩ = some (.int .i64 seq) ∧ y1.cell? ⟨bo, 2, none⟩ = some (.int .i64 stamp) ∧ y1.cell? ⟨bo, 3, none⟩ = some (.int .i64 kind) ∧ y1.cell? ⟨bo, 4, none⟩ = some (.string item) ∧ y1.cell? ⟨bo, 5, none⟩ = some (.int .i64 qty) ∧ y1.cell? ⟨bo, 6, none⟩ = some (.int .i64 level) ∧ y1.cell? ⟨bo, 7, none⟩ = some (.int .i64 undos) ∧ y1.cell? ⟨bx, 0, none⟩ = some (.int .i64 dev1) ∧ y1.cell? ⟨bx, 1, none⟩ = some (.int .i64 seq1) ∧ y1.cell? ⟨bx, 2, none⟩ = some (.int .i64 stamp1) ∧ y1.cell? ⟨bx, 3, none⟩ = some (.int .i64 kind1) ∧ y1.cell? ⟨bx, 4, none⟩ = some (.string item1) ∧ y1.cell? ⟨bx, 5, none⟩ = some (.int .i64 qty1) ∧ y1.cell? ⟨bx, 6, none⟩ = some (.int .i64 level1) ∧ y1.cell? ⟨bx, 7, none⟩ = some (.int .i64 undos1) ∧ y1.cell? ⟨bY, 0, none⟩ = some (.int .i64 dev3) ∧ y1.cell? ⟨bY, 1, none⟩ = some (.int .i64 seq3) ∧ y1.cell? ⟨bY, 2, none⟩ = some (.int .i64 stamp3) ∧ y1.cell? ⟨bY, 3, none⟩ = some (.int .i64 kind3) ∧ y1.cell? ⟨bY, 4, none⟩ = some (.string item3) ∧ y1.cell? ⟨bY, 5, none⟩ = some (.int .i64 qty3) ∧ y1.cell? ⟨bY, 6, none⟩ = some (.int .i64 level3) ∧ y1.cell? ⟨bY, 7, none⟩ = some (.int .i64 undos3) ∧ y1.cell? ⟨bz, 0, none⟩ = some (.int .i64 dev3) ∧ y1.cell? ⟨bz, 1, none⟩ = some (.int .i64 seq3) ∧ y1.cell? ⟨bz, 2, none⟩ = some (.int .i64 stamp3) ∧ y1.cell? ⟨bz, 3, none⟩ = some (.int .i64 kind3) ∧ y1.cell? ⟨bz, 4, none⟩ = some (.string item3) ∧ y1.cell? ⟨bz, 5, none⟩ = some (.int .i64 qty3) ∧ y1.cell? ⟨bz, 6, none⟩ = some (.int .i64 level3) ∧ y1.cell? ⟨bz, 7, none⟩ = some (.int .i64 undos3) := by
          obtain ⟨q0, q1, q2, q3, q4, q5, q6, q7, q8, q9, q10, q11, q12, q13, q14, q15, q16, q17, q18, q19, q20, q21, q22, q23, q24, q25, q26, q27, q28, q29, q30, q31⟩ := hS0
          exact ⟨(hb1.cell (block_lt_of_cell q0)).trans q0, (hb1.cell (block_lt_of_cell q1)).trans q1, (hb1.cell (block_lt_of_cell q2)).trans q2, (hb1.cell (block_lt_of_cell q3)).trans q3, (hb1.cell (block_lt_of_cell q4)).trans q4, (hb1.cell (block_lt_of_cell q5)).trans q5, (hb1.cell (block_lt_of_cell q6)).trans q6, (hb1.cell (block_lt_of_cell q7)).trans q7, (hb1.cell (block_lt_of_cell q8)).trans q8, (hb1.cell (block_lt_of_cell q9)).trans q9, (hb1.cell (block_lt_of_cell q10)).trans q10, (hb1.cell (block_lt_of_cell q11)).trans q11, (hb1.cell (block_lt_of_cell q12)).trans q12, (hb1.cell (block_lt_of_cell q13)).trans q13, (hb1.cell (block_lt_of_cell q14)).trans q14, (hb1.cell (block_lt_of_cell q15)).trans q15, (hb1.cell (block_lt_of_cell q16)).trans q16, (hb1.cell (block_lt_of_cell q17)).trans q17, (hb1.cell (block_lt_of_cell q18)).trans q18, (hb1.cell (block_lt_of_cell q19)).trans q19, (hb1.cell (block_lt_of_cell q20)).trans q20, (hb1.cell (block_lt_of_cell q21)).trans q21, (hb1.cell (block_lt_of_cell q22)).trans q22, (hb1.cell (block_lt_of_cell q23)).trans q23, (hb1.cell (block_lt_of_cell q24)).trans q24, (hb1.cell (block_lt_of_cell q25)).trans q25, (hb1.cell (block_lt_of_cell q26)).trans q26, (hb1.cell (block_lt_of_cell q27)).trans q27, (hb1.cell (block_lt_of_cell q28)).trans q28, (hb1.cell (block_lt_of_cell q29)).trans q29, (hb1.cell (block_lt_of_cell q30)).trans q30, (hb1.cell (block_lt_of_cell q31)).trans q31⟩
      refine hK.out _ _ hS1 (fun hHeld2 => ?_)
      clear hK K
      (try simp only [Act.put, List.setIfInBounds_toArray, List.set_cons_zero, List.set_cons_succ])
      refine wpAnyH_take (i := 3) (oi := { dst := some 41, op := Op.binOp BinOp.neq 9 (Operand.tmp 38) (Operand.tmp 40) 9, type := 4, pos := "laws.go:188", after := #[{ on := 0, ground := Ground.data }, { on := 2, ground := Ground.data }], guard := none }) (v := ?_) rfl (by kernel_rfl) (by kernel_rfl) (by kernel_rfl) (fun _ _ _ h => h) (Or.inl ⟨by rfl, ?_⟩) (by assumption) ?_
      rotate_left
      · intro w hSw
        (try dsimp only at hSw)
        first | (go_simp; done) | (go_simp; with_reducible rfl)
      (try simp only [Act.put, List.setIfInBounds_toArray, List.set_cons_zero, List.set_cons_succ])
      refine wpAnyH_take (i := 4) (oi := { dst := some 42, op := Op.move (Operand.tmp 41), type := 4, pos := "laws.go:188", after := #[{ on := 3, ground := Ground.data }, { on := 2, ground := Ground.chain }], guard := none }) (v := ?_) rfl (by kernel_rfl) (by kernel_rfl) (by kernel_rfl) (fun _ _ _ h => h) (Or.inl ⟨by rfl, ?_⟩) (by assumption) ?_
      rotate_left
      · intro w hSw
        (try dsimp only at hSw)
        first | (go_simp; done) | (go_simp; with_reducible rfl)
      (try simp only [Act.put, List.setIfInBounds_toArray, List.set_cons_zero, List.set_cons_succ])
      refine wpAnyH_take (i := 5) (oi := { dst := some 43, op := Op.load 25 (Operand.tmp 5), type := 25, pos := "laws.go:188", after := #[{ on := 4, ground := Ground.guard }], guard := some (4, false) }) (v := ?_) rfl (by kernel_rfl) (by kernel_rfl) (by kernel_rfl) (fun _ _ _ h => h) (Or.inl ⟨by rfl, ?_⟩) (by assumption) ?_
      rotate_left
      · intro w hSw
        (try dsimp only at hSw)
        first | (go_simp; done) | (go_simp; with_reducible rfl)
      (try simp only [Act.put, List.setIfInBounds_toArray, List.set_cons_zero, List.set_cons_succ])
      refine wpAnyH_take (i := 7) (oi := { dst := some 45, op := Op.load 25 (Operand.tmp 5), type := 25, pos := "laws.go:188", after := #[{ on := 4, ground := Ground.guard }], guard := some (4, false) }) (v := ?_) rfl (by kernel_rfl) (by kernel_rfl) (by kernel_rfl) (fun _ _ _ h => h) (Or.inl ⟨by rfl, ?_⟩) (by assumption) ?_
      rotate_left
      · intro w hSw
        (try dsimp only at hSw)
        first | (go_simp; done) | (go_simp; with_reducible rfl)
      (try simp only [Act.put, List.setIfInBounds_toArray, List.set_cons_zero, List.set_cons_succ])
      refine wpAnyH_ready (rs := [6]) (by kernel_rfl) (by simp) ?_
      refine AllReadyH.cons (o := { dst := some 44, op := Op.call { callee := Callee.value (Operand.func 12), args := #[Operand.tmp 43], argTypes := #[25] }, type := 4, pos := "laws.go:188", after := #[{ on := 5, ground := Ground.data }, { on := 4, ground := Ground.chain }, { on := 4, ground := Ground.guard }], guard := some (4, false) }) rfl (fun K hK => ?_) AllReadyH.nil
      go_simp
      go_at_call 12
      refine (HO1.out _).mono ?_
      rintro e y2 ⟨rfl, hb2⟩
      have hS2 : y2.cell? ⟨bo, 0, none⟩ = some (.int .i64 dev) ∧ y2.cell? ⟨bo, 1, none⟩ = some (.int .i64 seq) ∧ y2.cell? ⟨bo, 2, none⟩ = some (.int .i64 stamp) ∧ y2.cell? ⟨bo, 3, none⟩ = some (.int .i64 kind) ∧ y2.cell? ⟨bo, 4, none⟩ = some (.string item) ∧ y2.cell? ⟨bo, 5, none⟩ = some (.int .i64 qty) ∧ y2.cell? ⟨bo, 6, none⟩ = some (.int .i64 level) ∧ y2.cell? ⟨bo, 7, none⟩ = some (.int .i64 undos) ∧ y2.cell? ⟨bx, 0, none⟩ = some (.int .i64 dev1) ∧ y2.cell? ⟨bx, 1, none⟩ = some (.int .i64 seq1) ∧ y2.cell? ⟨bx, 2, none⟩ = some (.int .i64 stamp1) ∧ y2.cell? ⟨bx, 3, none⟩ = some (.int .i64 kind1) ∧ y2.cell? ⟨bx, 4, none⟩ = some (.string item1) ∧ y2.cell? ⟨bx, 5, none⟩ = some (.int .i64 qty1) ∧ y2.cell? ⟨bx, 6, none⟩ = some (.int .i64 level1) ∧ y2.cell? ⟨bx, 7, none⟩ = some (.int .i64 undos1) ∧ y2.cell? ⟨bY, 0, none⟩ = some (.int .i64 dev3) ∧ y2.cell? ⟨bY, 1, none⟩ = some (.int .i64 seq3) ∧ y2.cell? ⟨bY, 2, none⟩ = some (.int .i64 stamp3) ∧ y2.cell? ⟨bY, 3, none⟩ = some (.int .i64 kind3) ∧ y2.cell? ⟨bY, 4, none⟩ = some (.string item3) ∧ y2.cell? ⟨bY, 5, none⟩ = some (.int .i64 qty3) ∧ y2.cell? ⟨bY, 6, none⟩ = some (.int .i64 level3) ∧ y2.cell? ⟨bY, 7, none⟩ = some (.int .i64 undos3) ∧ y2.cell? ⟨bz, 0, none⟩ = some (.int .i64 dev3) ∧ y2.cell? ⟨bz, 1, none⟩ = some (.int .i64 seq3) ∧ y2.cell? ⟨bz, 2, none⟩ = some (.int .i64 stamp3) ∧ y2.cell? ⟨bz, 3, none⟩ = some (.int .i64 kind3) ∧ y2.cell? ⟨bz, 4, none⟩ = some (.string item3) ∧ y2.cell? ⟨bz, 5, none⟩ = some (.int .i64 qty3) ∧ y2.cell? ⟨bz, 6, none⟩ = some (.int .i64 level3) ∧ y2.cell? ⟨bz, 7, none⟩ = some (.int .i64 undos3) := by
          obtain ⟨q0, q1, q2, q3, q4, q5, q6, q7, q8, q9, q10, q11, q12, q13, q14, q15, q16, q17, q18, q19, q20, q21, q22, q23, q24, q25, q26, q27, q28, q29, q30, q31⟩ := hS1
          exact ⟨(hb2.cell (block_lt_of_cell q0)).trans q0, (hb2.cell (block_lt_of_cell q1)).trans q1, (hb2.cell (block_lt_of_cell q2)).trans q2, (hb2.cell (block_lt_of_cell q3)).trans q3, (hb2.cell (block_lt_of_cell q4)).trans q4, (hb2.cell (block_lt_of_cell q5)).trans q5, (hb2.cell (block_lt_of_cell q6)).trans q6, (hb2.cell (block_lt_of_cell q7)).trans q7, (hb2.cell (block_lt_of_cell q8)).trans q8, (hb2.cell (block_lt_of_cell q9)).trans q9, (hb2.cell (block_lt_of_cell q10)).trans q10, (hb2.cell (block_lt_of_cell q11)).trans q11, (hb2.cell (block_lt_of_cell q12)).trans q12, (hb2.cell (block_lt_of_cell q13)).trans q13, (hb2.cell (block_lt_of_cell q14)).trans q14, (hb2.cell (block_lt_of_cell q15)).trans q15, (hb2.cell (block_lt_of_cell q16)).trans q16, (hb2.cell (block_lt_of_cell q17)).trans q17, (hb2.cell (block_lt_of_cell q18)).trans q18, (hb2.cell (block_lt_of_cell q19)).trans q19, (hb2.cell (block_lt_of_cell q20)).trans q20, (hb2.cell (block_lt_of_cell q21)).trans q21, (hb2.cell (block_lt_of_cell q22)).trans q22, (hb2.cell (block_lt_of_cell q23)).trans q23, (hb2.cell (block_lt_of_cell q24)).trans q24, (hb2.cell (block_lt_of_cell q25)).trans q25, (hb2.cell (block_lt_of_cell q26)).trans q26, (hb2.cell (block_lt_of_cell q27)).trans q27, (hb2.cell (block_lt_of_cell q28)).trans q28, (hb2.cell (block_lt_of_cell q29)).trans q29, (hb2.cell (block_lt_of_cell q30)).trans q30, (hb2.cell (block_lt_of_cell q31)).trans q31⟩
      refine hK.out _ _ hS2 (fun hHeld3 => ?_)
      clear hK K
      (try simp only [Act.put, List.setIfInBounds_toArray, List.set_cons_zero, List.set_cons_succ])
      refine wpAnyH_ready (rs := [8]) (by kernel_rfl) (by simp) ?_
      refine AllReadyH.cons (o := { dst := some 46, op := Op.call { callee := Callee.value (Operand.func 13), args := #[Operand.tmp 45], argTypes := #[25] }, type := 4, pos := "laws.go:188", after := #[{ on := 7, ground := Ground.data }, { on := 6, ground := Ground.chain }, { on := 4, ground := Ground.guard }], guard := some (4, false) }) rfl (fun K hK => ?_) AllReadyH.nil
      go_simp
      go_at_call 13
      refine (HO2.out _).mono ?_
      rintro e y3 ⟨rfl, hb3⟩
      have hS3 : y3.cell? ⟨bo, 0, none⟩ = some (.int .i64 dev) ∧ y3.cell? ⟨bo, 1, none⟩ = some (.int .i64 seq) ∧ y3.cell? ⟨bo, 2, none⟩ = some (.int .i64 stamp) ∧ y3.cell? ⟨bo, 3, none⟩ = some (.int .i64 kind) ∧ y3.cell? ⟨bo, 4, none⟩ = some (.string item) ∧ y3.cell? ⟨bo, 5, none⟩ = some (.int .i64 qty) ∧ y3.cell? ⟨bo, 6, none⟩ = some (.int .i64 level) ∧ y3.cell? ⟨bo, 7, none⟩ = some (.int .i64 undos) ∧ y3.cell? ⟨bx, 0, none⟩ = some (.int .i64 dev1) ∧ y3.cell? ⟨bx, 1, none⟩ = some (.int .i64 seq1) ∧ y3.cell? ⟨bx, 2, none⟩ = some (.int .i64 stamp1) ∧ y3.cell? ⟨bx, 3, none⟩ = some (.int .i64 kind1) ∧ y3.cell? ⟨bx, 4, none⟩ = some (.string item1) ∧ y3.cell? ⟨bx, 5, none⟩ = some (.int .i64 qty1) ∧ y3.cell? ⟨bx, 6, none⟩ = some (.int .i64 level1) ∧ y3.cell? ⟨bx, 7, none⟩ = some (.int .i64 undos1) ∧ y3.cell? ⟨bY, 0, none⟩ = some (.int .i64 dev3) ∧ y3.cell? ⟨bY, 1, none⟩ = some (.int .i64 seq3) ∧ y3.cell? ⟨bY, 2, none⟩ = some (.int .i64 stamp3) ∧ y3.cell? ⟨bY, 3, none⟩ = some (.int .i64 kind3) ∧ y3.cell? ⟨bY, 4, none⟩ = some (.string item3) ∧ y3.cell? ⟨bY, 5, none⟩ = some (.int .i64 qty3) ∧ y3.cell? ⟨bY, 6, none⟩ = some (.int .i64 level3) ∧ y3.cell? ⟨bY, 7, none⟩ = some (.int .i64 undos3) ∧ y3.cell? ⟨bz, 0, none⟩ = some (.int .i64 dev3) ∧ y3.cell? ⟨bz, 1, none⟩ = some (.int .i64 seq3) ∧ y3.cell? ⟨bz, 2, none⟩ = some (.int .i64 stamp3) ∧ y3.cell? ⟨bz, 3, none⟩ = some (.int .i64 kind3) ∧ y3.cell? ⟨bz, 4, none⟩ = some (.string item3) ∧ y3.cell? ⟨bz, 5, none⟩ = some (.int .i64 qty3) ∧ y3.cell? ⟨bz, 6, none⟩ = some (.int .i64 level3) ∧ y3.cell? ⟨bz, 7, none⟩ = some (.int .i64 undos3) := by
          obtain ⟨q0, q1, q2, q3, q4, q5, q6, q7, q8, q9, q10, q11, q12, q13, q14, q15, q16, q17, q18, q19, q20, q21, q22, q23, q24, q25, q26, q27, q28, q29, q30, q31⟩ := hS2
          exact ⟨(hb3.cell (block_lt_of_cell q0)).trans q0, (hb3.cell (block_lt_of_cell q1)).trans q1, (hb3.cell (block_lt_of_cell q2)).trans q2, (hb3.cell (block_lt_of_cell q3)).trans q3, (hb3.cell (block_lt_of_cell q4)).trans q4, (hb3.cell (block_lt_of_cell q5)).trans q5, (hb3.cell (block_lt_of_cell q6)).trans q6, (hb3.cell (block_lt_of_cell q7)).trans q7, (hb3.cell (block_lt_of_cell q8)).trans q8, (hb3.cell (block_lt_of_cell q9)).trans q9, (hb3.cell (block_lt_of_cell q10)).trans q10, (hb3.cell (block_lt_of_cell q11)).trans q11, (hb3.cell (block_lt_of_cell q12)).trans q12, (hb3.cell (block_lt_of_cell q13)).trans q13, (hb3.cell (block_lt_of_cell q14)).trans q14, (hb3.cell (block_lt_of_cell q15)).trans q15, (hb3.cell (block_lt_of_cell q16)).trans q16, (hb3.cell (block_lt_of_cell q17)).trans q17, (hb3.cell (block_lt_of_cell q18)).trans q18, (hb3.cell (block_lt_of_cell q19)).trans q19, (hb3.cell (block_lt_of_cell q20)).trans q20, (hb3.cell (block_lt_of_cell q21)).trans q21, (hb3.cell (block_lt_of_cell q22)).trans q22, (hb3.cell (block_lt_of_cell q23)).trans q23, (hb3.cell (block_lt_of_cell q24)).trans q24, (hb3.cell (block_lt_of_cell q25)).trans q25, (hb3.cell (block_lt_of_cell q26)).trans q26, (hb3.cell (block_lt_of_cell q27)).trans q27, (hb3.cell (block_lt_of_cell q28)).trans q28, (hb3.cell (block_lt_of_cell q29)).trans q29, (hb3.cell (block_lt_of_cell q30)).trans q30, (hb3.cell (block_lt_of_cell q31)).trans q31⟩
      refine hK.out _ _ hS3 (fun hHeld4 => ?_)
      clear hK K
      (try simp only [Act.put, List.setIfInBounds_toArray, List.set_cons_zero, List.set_cons_succ])
      refine wpAnyH_take (i := 9) (oi := { dst := some 47, op := Op.binOp BinOp.neq 4 (Operand.tmp 44) (Operand.tmp 46) 4, type := 4, pos := "laws.go:188", after := #[{ on := 6, ground := Ground.data }, { on := 8, ground := Ground.data }, { on := 4, ground := Ground.guard }], guard := some (4, false) }) (v := ?_) rfl (by kernel_rfl) (by kernel_rfl) (by kernel_rfl) (fun _ _ _ h => h) (Or.inl ⟨by rfl, ?_⟩) (by assumption) ?_
      rotate_left
      · intro w hSw
        (try dsimp only at hSw)
        first | (go_simp; done) | (go_simp; with_reducible rfl)
      (try simp only [Act.put, List.setIfInBounds_toArray, List.set_cons_zero, List.set_cons_succ])
      refine wpAnyH_take (i := 10) (oi := { dst := some 48, op := Op.pick (Operand.tmp 42) (Operand.const (Value.bool true)) (Operand.tmp 47), type := 4, pos := "laws.go:188", after := #[{ on := 4, ground := Ground.data }, { on := 9, ground := Ground.data }], guard := none }) (v := ?_) rfl (by kernel_rfl) (by kernel_rfl) (by kernel_rfl) (fun _ _ _ h => h) (Or.inl ⟨by rfl, ?_⟩) (by assumption) ?_
      rotate_left
      · intro w hSw
        (try dsimp only at hSw)
        first | (go_simp; done) | (go_simp; with_reducible rfl)
      (try simp only [Act.put, List.setIfInBounds_toArray, List.set_cons_zero, List.set_cons_succ])
      refine wpAnyH_take (i := 11) (oi := { dst := some 49, op := Op.move (Operand.tmp 48), type := 4, pos := "laws.go:188", after := #[{ on := 10, ground := Ground.data }, { on := 8, ground := Ground.chain }], guard := none }) (v := ?_) rfl (by kernel_rfl) (by kernel_rfl) (by kernel_rfl) (fun _ _ _ h => h) (Or.inl ⟨by rfl, ?_⟩) (by assumption) ?_
      rotate_left
      · intro w hSw
        (try dsimp only at hSw)
        first | (go_simp; done) | (go_simp; with_reducible rfl)
      (try simp only [Act.put, List.setIfInBounds_toArray, List.set_cons_zero, List.set_cons_succ])
      refine wpAnyH_take (i := 12) (oi := { dst := some 50, op := Op.load 25 (Operand.tmp 7), type := 25, pos := "laws.go:188", after := #[{ on := 11, ground := Ground.guard }], guard := some (11, false) }) (v := ?_) rfl (by kernel_rfl) (by kernel_rfl) (by kernel_rfl) (fun _ _ _ h => h) (Or.inl ⟨by rfl, ?_⟩) (by assumption) ?_
      rotate_left
      · intro w hSw
        (try dsimp only at hSw)
        first | (go_simp; done) | (go_simp; with_reducible rfl)
      (try simp only [Act.put, List.setIfInBounds_toArray, List.set_cons_zero, List.set_cons_succ])
      refine wpAnyH_take (i := 13) (oi := { dst := some 51, op := Op.load 25 (Operand.tmp 10), type := 25, pos := "laws.go:188", after := #[{ on := 11, ground := Ground.guard }], guard := some (11, false) }) (v := ?_) rfl (by kernel_rfl) (by kernel_rfl) (by kernel_rfl) (fun _ _ _ h => h) (Or.inl ⟨by rfl, ?_⟩) (by assumption) ?_
      rotate_left
      · intro w hSw
        (try dsimp only at hSw)
        first | (go_simp; done) | (go_simp; with_reducible rfl)
      (try simp only [Act.put, List.setIfInBounds_toArray, List.set_cons_zero, List.set_cons_succ])
      refine wpAnyH_take (i := 14) (oi := { dst := some 52, op := Op.binOp BinOp.neq 25 (Operand.tmp 50) (Operand.tmp 51) 25, type := 4, pos := "laws.go:188", after := #[{ on := 12, ground := Ground.data }, { on := 13, ground := Ground.data }, { on := 11, ground := Ground.guard }], guard := some (11, false) }) (v := ?_) rfl (by kernel_rfl) (by kernel_rfl) (by kernel_rfl) (fun _ _ _ h => h) (Or.inl ⟨by rfl, ?_⟩) (by assumption) ?_
      rotate_left
      · intro w hSw
        (try dsimp only at hSw)
        first | (go_simp; done) | (go_simp; with_reducible rfl)
      (try simp only [Act.put, List.setIfInBounds_toArray, List.set_cons_zero, List.set_cons_succ])
      refine wpAnyH_take (i := 15) (oi := { dst := some 53, op := Op.pick (Operand.tmp 49) (Operand.const (Value.bool true)) (Operand.tmp 52), type := 4, pos := "laws.go:188", after := #[{ on := 11, ground := Ground.data }, { on := 14, ground := Ground.data }], guard := none }) (v := ?_) rfl (by kernel_rfl) (by kernel_rfl) (by kernel_rfl) (fun _ _ _ h => h) (Or.inl ⟨by rfl, ?_⟩) (by assumption) ?_
      rotate_left
      · intro w hSw
        (try dsimp only at hSw)
        first | (go_simp; done) | (go_simp; with_reducible rfl)
      (try simp only [Act.put, List.setIfInBounds_toArray, List.set_cons_zero, List.set_cons_succ])
      refine wpAnyH_take (i := 16) (oi := { dst := some 54, op := Op.move (Operand.tmp 53), type := 4, pos := "laws.go:188", after := #[{ on := 15, ground := Ground.data }, { on := 11, ground := Ground.chain }], guard := none }) (v := ?_) rfl (by kernel_rfl) (by kernel_rfl) (by kernel_rfl) (fun _ _ _ h => h) (Or.inl ⟨by rfl, ?_⟩) (by assumption) ?_
      rotate_left
      · intro w hSw
        (try dsimp only at hSw)
        first | (go_simp; done) | (go_simp; with_reducible rfl)
      (try simp only [Act.put, List.setIfInBounds_toArray, List.set_cons_zero, List.set_cons_succ])
      refine wpAnyH_take (i := 17) (oi := { dst := some 55, op := Op.move (Operand.tmp 8), type := 2, pos := "laws.go:188", after := #[{ on := 16, ground := Ground.guard }], guard := some (16, false) }) (v := ?_) rfl (by kernel_rfl) (by kernel_rfl) (by kernel_rfl) (fun _ _ _ h => h) (Or.inl ⟨by rfl, ?_⟩) (by assumption) ?_
      rotate_left
      · intro w hSw
        (try dsimp only at hSw)
        first | (go_simp; done) | (go_simp; with_reducible rfl)
      (try simp only [Act.put, List.setIfInBounds_toArray, List.set_cons_zero, List.set_cons_succ])
      refine wpAnyH_take (i := 18) (oi := { dst := some 56, op := Op.move (Operand.tmp 11), type := 2, pos := "laws.go:188", after := #[{ on := 16, ground := Ground.guard }], guard := some (16, false) }) (v := ?_) rfl (by kernel_rfl) (by kernel_rfl) (by kernel_rfl) (fun _ _ _ h => h) (Or.inl ⟨by rfl, ?_⟩) (by assumption) ?_
      rotate_left
      · intro w hSw
        (try dsimp only at hSw)
        first | (go_simp; done) | (go_simp; with_reducible rfl)
      (try simp only [Act.put, List.setIfInBounds_toArray, List.set_cons_zero, List.set_cons_succ])
      refine wpAnyH_take (i := 19) (oi := { dst := some 57, op := Op.binOp BinOp.neq 2 (Operand.tmp 55) (Operand.tmp 56) 2, type := 4, pos := "laws.go:188", after := #[{ on := 17, ground := Ground.data }, { on := 18, ground := Ground.data }, { on := 16, ground := Ground.guard }], guard := some (16, false) }) (v := ?_) rfl (by kernel_rfl) (by kernel_rfl) (by kernel_rfl) (fun _ _ _ h => h) (Or.inl ⟨by rfl, ?_⟩) (by assumption) ?_
      rotate_left
      · intro w hSw
        (try dsimp only at hSw)
        first | (go_simp; done) | (go_simp; with_reducible rfl)
      (try simp only [Act.put, List.setIfInBounds_toArray, List.set_cons_zero, List.set_cons_succ])
      refine wpAnyH_take (i := 20) (oi := { dst := some 58, op := Op.pick (Operand.tmp 54) (Operand.const (Value.bool true)) (Operand.tmp 57), type := 4, pos := "laws.go:188", after := #[{ on := 16, ground := Ground.data }, { on := 19, ground := Ground.data }], guard := none }) (v := ?_) rfl (by kernel_rfl) (by kernel_rfl) (by kernel_rfl) (fun _ _ _ h => h) (Or.inl ⟨by rfl, ?_⟩) (by assumption) ?_
      rotate_left
      · intro w hSw
        (try dsimp only at hSw)
        first | (go_simp; done) | (go_simp; with_reducible rfl)
      (try simp only [Act.put, List.setIfInBounds_toArray, List.set_cons_zero, List.set_cons_succ])
      refine wpAnyH_take (i := 21) (oi := { dst := some 59, op := Op.move (Operand.tmp 58), type := 4, pos := "laws.go:188", after := #[{ on := 20, ground := Ground.data }, { on := 16, ground := Ground.chain }], guard := none }) (v := ?_) rfl (by kernel_rfl) (by kernel_rfl) (by kernel_rfl) (fun _ _ _ h => h) (Or.inl ⟨by rfl, ?_⟩) (by assumption) ?_
      rotate_left
      · intro w hSw
        (try dsimp only at hSw)
        first | (go_simp; done) | (go_simp; with_reducible rfl)
      (try simp only [Act.put, List.setIfInBounds_toArray, List.set_cons_zero, List.set_cons_succ])
      refine wpAnyH_take (i := 22) (oi := { dst := some 60, op := Op.move (Operand.tmp 9), type := 4, pos := "laws.go:188", after := #[{ on := 21, ground := Ground.guard }], guard := some (21, false) }) (v := ?_) rfl (by kernel_rfl) (by kernel_rfl) (by kernel_rfl) (fun _ _ _ h => h) (Or.inl ⟨by rfl, ?_⟩) (by assumption) ?_
      rotate_left
      · intro w hSw
        (try dsimp only at hSw)
        first | (go_simp; done) | (go_simp; with_reducible rfl)
      (try simp only [Act.put, List.setIfInBounds_toArray, List.set_cons_zero, List.set_cons_succ])
      refine wpAnyH_take (i := 23) (oi := { dst := some 61, op := Op.move (Operand.tmp 12), type := 4, pos := "laws.go:188", after := #[{ on := 21, ground := Ground.guard }], guard := some (21, false) }) (v := ?_) rfl (by kernel_rfl) (by kernel_rfl) (by kernel_rfl) (fun _ _ _ h => h) (Or.inl ⟨by rfl, ?_⟩) (by assumption) ?_
      rotate_left
      · intro w hSw
        (try dsimp only at hSw)
        first | (go_simp; done) | (go_simp; with_reducible rfl)
      (try simp only [Act.put, List.setIfInBounds_toArray, List.set_cons_zero, List.set_cons_succ])
      refine wpAnyH_take (i := 24) (oi := { dst := some 62, op := Op.binOp BinOp.neq 4 (Operand.tmp 60) (Operand.tmp 61) 4, type := 4, pos := "laws.go:188", after := #[{ on := 22, ground := Ground.data }, { on := 23, ground := Ground.data }, { on := 21, ground := Ground.guard }], guard := some (21, false) }) (v := ?_) rfl (by kernel_rfl) (by kernel_rfl) (by kernel_rfl) (fun _ _ _ h => h) (Or.inl ⟨by rfl, ?_⟩) (by assumption) ?_
      rotate_left
      · intro w hSw
        (try dsimp only at hSw)
        first | (go_simp; done) | (go_simp; with_reducible rfl)
      (try simp only [Act.put, List.setIfInBounds_toArray, List.set_cons_zero, List.set_cons_succ])
      refine wpAnyH_take (i := 25) (oi := { dst := some 63, op := Op.pick (Operand.tmp 59) (Operand.const (Value.bool true)) (Operand.tmp 62), type := 4, pos := "laws.go:188", after := #[{ on := 21, ground := Ground.data }, { on := 24, ground := Ground.data }], guard := none }) (v := ?_) rfl (by kernel_rfl) (by kernel_rfl) (by kernel_rfl) (fun _ _ _ h => h) (Or.inl ⟨by rfl, ?_⟩) (by assumption) ?_
      rotate_left
      · intro w hSw
        (try dsimp only at hSw)
        first | (go_simp; done) | (go_simp; with_reducible rfl)
      (try simp only [Act.put, List.setIfInBounds_toArray, List.set_cons_zero, List.set_cons_succ])
      refine wpAnyH_take (i := 26) (oi := { dst := some 64, op := Op.move (Operand.tmp 63), type := 4, pos := "laws.go:188", after := #[{ on := 25, ground := Ground.data }, { on := 21, ground := Ground.chain }], guard := none }) (v := ?_) rfl (by kernel_rfl) (by kernel_rfl) (by kernel_rfl) (fun _ _ _ h => h) (Or.inl ⟨by rfl, ?_⟩) (by assumption) ?_
      rotate_left
      · intro w hSw
        (try dsimp only at hSw)
        first | (go_simp; done) | (go_simp; with_reducible rfl)
      (try simp only [Act.put, List.setIfInBounds_toArray, List.set_cons_zero, List.set_cons_succ])
      refine wpAnyH_take (i := 27) (oi := { dst := some 65, op := Op.move (Operand.tmp 9), type := 4, pos := "laws.go:188", after := #[{ on := 26, ground := Ground.guard }], guard := some (26, false) }) (v := ?_) rfl (by kernel_rfl) (by kernel_rfl) (by kernel_rfl) (fun _ _ _ h => h) (Or.inl ⟨by rfl, ?_⟩) (by assumption) ?_
      rotate_left
      · intro w hSw
        (try dsimp only at hSw)
        first | (go_simp; done) | (go_simp; with_reducible rfl)
      (try simp only [Act.put, List.setIfInBounds_toArray, List.set_cons_zero, List.set_cons_succ])
      refine wpAnyH_take (i := 28) (oi := { dst := some 66, op := Op.move (Operand.tmp 65), type := 4, pos := "laws.go:188", after := #[{ on := 27, ground := Ground.data }, { on := 26, ground := Ground.chain }, { on := 26, ground := Ground.guard }], guard := some (26, false) }) (v := ?_) rfl (by kernel_rfl) (by kernel_rfl) (by kernel_rfl) (fun _ _ _ h => h) (Or.inl ⟨by rfl, ?_⟩) (by assumption) ?_
      rotate_left
      · intro w hSw
        (try dsimp only at hSw)
        first | (go_simp; done) | (go_simp; with_reducible rfl)
      (try simp only [Act.put, List.setIfInBounds_toArray, List.set_cons_zero, List.set_cons_succ])
      refine wpAnyH_take (i := 29) (oi := { dst := some 67, op := Op.load 25 (Operand.tmp 7), type := 25, pos := "laws.go:188", after := #[{ on := 28, ground := Ground.guard }], guard := some (28, true) }) (v := ?_) rfl (by kernel_rfl) (by kernel_rfl) (by kernel_rfl) (fun _ _ _ h => h) (Or.inl ⟨by rfl, ?_⟩) (by assumption) ?_
      rotate_left
      · intro w hSw
        (try dsimp only at hSw)
        first | (go_simp; done) | (go_simp; with_reducible rfl)
      (try simp only [Act.put, List.setIfInBounds_toArray, List.set_cons_zero, List.set_cons_succ])
      refine wpAnyH_take (i := 31) (oi := { dst := some 69, op := Op.move (Operand.tmp 6), type := 9, pos := "laws.go:188", after := #[{ on := 28, ground := Ground.guard }], guard := some (28, true) }) (v := ?_) rfl (by kernel_rfl) (by kernel_rfl) (by kernel_rfl) (fun _ _ _ h => h) (Or.inl ⟨by rfl, ?_⟩) (by assumption) ?_
      rotate_left
      · intro w hSw
        (try dsimp only at hSw)
        first | (go_simp; done) | (go_simp; with_reducible rfl)
      (try simp only [Act.put, List.setIfInBounds_toArray, List.set_cons_zero, List.set_cons_succ])
      refine wpAnyH_take (i := 32) (oi := { dst := some 70, op := Op.move (Operand.tmp 8), type := 2, pos := "laws.go:188", after := #[{ on := 28, ground := Ground.guard }], guard := some (28, true) }) (v := ?_) rfl (by kernel_rfl) (by kernel_rfl) (by kernel_rfl) (fun _ _ _ h => h) (Or.inl ⟨by rfl, ?_⟩) (by assumption) ?_
      rotate_left
      · intro w hSw
        (try dsimp only at hSw)
        first | (go_simp; done) | (go_simp; with_reducible rfl)
      (try simp only [Act.put, List.setIfInBounds_toArray, List.set_cons_zero, List.set_cons_succ])
      refine wpAnyH_take (i := 33) (oi := { dst := some 71, op := Op.slice 9 (Operand.tmp 69) none (some (Operand.tmp 70)) none, type := 9, pos := "laws.go:188", after := #[{ on := 31, ground := Ground.data }, { on := 32, ground := Ground.data }, { on := 28, ground := Ground.guard }], guard := some (28, true) }) (v := ?_) rfl (by kernel_rfl) (by kernel_rfl) (by kernel_rfl) (fun _ _ _ h => h) (Or.inl ⟨by rfl, ?_⟩) (by assumption) ?_
      rotate_left
      · intro w hSw
        (try dsimp only at hSw)
        first | (go_simp; done) | (go_simp; with_reducible rfl)
      (try simp only [Act.put, List.setIfInBounds_toArray, List.set_cons_zero, List.set_cons_succ])
      refine wpAnyH_ready (rs := [30]) (by kernel_rfl) (by simp) ?_
      refine AllReadyH.cons (o := { dst := some 68, op := Op.call { callee := Callee.value (Operand.func 6), args := #[Operand.tmp 67], argTypes := #[25] }, type := 9, pos := "laws.go:188", after := #[{ on := 29, ground := Ground.data }, { on := 28, ground := Ground.chain }, { on := 28, ground := Ground.guard }], guard := some (28, true) }) rfl (fun K hK => ?_) AllReadyH.nil
      go_simp
      go_at_call 6
      refine (HV.out _).mono ?_
      rintro e y4 ⟨rfl, hb4⟩
      have hS4 : y4.cell? ⟨bo, 0, none⟩ = some (.int .i64 dev) ∧ y4.cell? ⟨bo, 1, none⟩ = some (.int .i64 seq) ∧ y4.cell? ⟨bo, 2, none⟩ = some (.int .i64 stamp) ∧ y4.cell? ⟨bo, 3, none⟩ = some (.int .i64 kind) ∧ y4.cell? ⟨bo, 4, none⟩ = some (.string item) ∧ y4.cell? ⟨bo, 5, none⟩ = some (.int .i64 qty) ∧ y4.cell? ⟨bo, 6, none⟩ = some (.int .i64 level) ∧ y4.cell? ⟨bo, 7, none⟩ = some (.int .i64 undos) ∧ y4.cell? ⟨bx, 0, none⟩ = some (.int .i64 dev1) ∧ y4.cell? ⟨bx, 1, none⟩ = some (.int .i64 seq1) ∧ y4.cell? ⟨bx, 2, none⟩ = some (.int .i64 stamp1) ∧ y4.cell? ⟨bx, 3, none⟩ = some (.int .i64 kind1) ∧ y4.cell? ⟨bx, 4, none⟩ = some (.string item1) ∧ y4.cell? ⟨bx, 5, none⟩ = some (.int .i64 qty1) ∧ y4.cell? ⟨bx, 6, none⟩ = some (.int .i64 level1) ∧ y4.cell? ⟨bx, 7, none⟩ = some (.int .i64 undos1) ∧ y4.cell? ⟨bY, 0, none⟩ = some (.int .i64 dev3) ∧ y4.cell? ⟨bY, 1, none⟩ = some (.int .i64 seq3) ∧ y4.cell? ⟨bY, 2, none⟩ = some (.int .i64 stamp3) ∧ y4.cell? ⟨bY, 3, none⟩ = some (.int .i64 kind3) ∧ y4.cell? ⟨bY, 4, none⟩ = some (.string item3) ∧ y4.cell? ⟨bY, 5, none⟩ = some (.int .i64 qty3) ∧ y4.cell? ⟨bY, 6, none⟩ = some (.int .i64 level3) ∧ y4.cell? ⟨bY, 7, none⟩ = some (.int .i64 undos3) ∧ y4.cell? ⟨bz, 0, none⟩ = some (.int .i64 dev3) ∧ y4.cell? ⟨bz, 1, none⟩ = some (.int .i64 seq3) ∧ y4.cell? ⟨bz, 2, none⟩ = some (.int .i64 stamp3) ∧ y4.cell? ⟨bz, 3, none⟩ = some (.int .i64 kind3) ∧ y4.cell? ⟨bz, 4, none⟩ = some (.string item3) ∧ y4.cell? ⟨bz, 5, none⟩ = some (.int .i64 qty3) ∧ y4.cell? ⟨bz, 6, none⟩ = some (.int .i64 level3) ∧ y4.cell? ⟨bz, 7, none⟩ = some (.int .i64 undos3) := by
          obtain ⟨q0, q1, q2, q3, q4, q5, q6, q7, q8, q9, q10, q11, q12, q13, q14, q15, q16, q17, q18, q19, q20, q21, q22, q23, q24, q25, q26, q27, q28, q29, q30, q31⟩ := hS3
          exact ⟨(hb4.cell (block_lt_of_cell q0)).trans q0, (hb4.cell (block_lt_of_cell q1)).trans q1, (hb4.cell (block_lt_of_cell q2)).trans q2, (hb4.cell (block_lt_of_cell q3)).trans q3, (hb4.cell (block_lt_of_cell q4)).trans q4, (hb4.cell (block_lt_of_cell q5)).trans q5, (hb4.cell (block_lt_of_cell q6)).trans q6, (hb4.cell (block_lt_of_cell q7)).trans q7, (hb4.cell (block_lt_of_cell q8)).trans q8, (hb4.cell (block_lt_of_cell q9)).trans q9, (hb4.cell (block_lt_of_cell q10)).trans q10, (hb4.cell (block_lt_of_cell q11)).trans q11, (hb4.cell (block_lt_of_cell q12)).trans q12, (hb4.cell (block_lt_of_cell q13)).trans q13, (hb4.cell (block_lt_of_cell q14)).trans q14, (hb4.cell (block_lt_of_cell q15)).trans q15, (hb4.cell (block_lt_of_cell q16)).trans q16, (hb4.cell (block_lt_of_cell q17)).trans q17, (hb4.cell (block_lt_of_cell q18)).trans q18, (hb4.cell (block_lt_of_cell q19)).trans q19, (hb4.cell (block_lt_of_cell q20)).trans q20, (hb4.cell (block_lt_of_cell q21)).trans q21, (hb4.cell (block_lt_of_cell q22)).trans q22, (hb4.cell (block_lt_of_cell q23)).trans q23, (hb4.cell (block_lt_of_cell q24)).trans q24, (hb4.cell (block_lt_of_cell q25)).trans q25, (hb4.cell (block_lt_of_cell q26)).trans q26, (hb4.cell (block_lt_of_cell q27)).trans q27, (hb4.cell (block_lt_of_cell q28)).trans q28, (hb4.cell (block_lt_of_cell q29)).trans q29, (hb4.cell (block_lt_of_cell q30)).trans q30, (hb4.cell (block_lt_of_cell q31)).trans q31⟩
      refine hK.out _ _ hS4 (fun hHeld5 => ?_)
      clear hK K
      (try simp only [Act.put, List.setIfInBounds_toArray, List.set_cons_zero, List.set_cons_succ])
      refine wpAnyH_take (i := 34) (oi := { dst := some 72, op := Op.binOp BinOp.neq 9 (Operand.tmp 68) (Operand.tmp 71) 9, type := 4, pos := "laws.go:188", after := #[{ on := 30, ground := Ground.data }, { on := 33, ground := Ground.data }, { on := 28, ground := Ground.guard }], guard := some (28, true) }) (v := ?_) rfl (by kernel_rfl) (by kernel_rfl) (by kernel_rfl) (fun _ _ _ h => h) (Or.inl ⟨by rfl, ?_⟩) (by assumption) ?_
      rotate_left
      · intro w hSw
        (try dsimp only at hSw)
        first | (go_simp; done) | (go_simp; with_reducible rfl)
      (try simp only [Act.put, List.setIfInBounds_toArray, List.set_cons_zero, List.set_cons_succ])
      refine wpAnyH_take (i := 35) (oi := { dst := some 73, op := Op.pick (Operand.tmp 66) (Operand.tmp 72) (Operand.const (Value.bool false)), type := 4, pos := "laws.go:188", after := #[{ on := 28, ground := Ground.data }, { on := 34, ground := Ground.data }, { on := 26, ground := Ground.guard }], guard := some (26, false) }) (v := ?_) rfl (by kernel_rfl) (by kernel_rfl) (by kernel_rfl) (fun _ _ _ h => h) (Or.inl ⟨by rfl, ?_⟩) (by assumption) ?_
      rotate_left
      · intro w hSw
        (try dsimp only at hSw)
        first | (go_simp; done) | (go_simp; with_reducible rfl)
      (try simp only [Act.put, List.setIfInBounds_toArray, List.set_cons_zero, List.set_cons_succ])
      refine wpAnyH_take (i := 36) (oi := { dst := some 74, op := Op.pick (Operand.tmp 64) (Operand.const (Value.bool true)) (Operand.tmp 73), type := 4, pos := "laws.go:188", after := #[{ on := 26, ground := Ground.data }, { on := 35, ground := Ground.data }], guard := none }) (v := ?_) rfl (by kernel_rfl) (by kernel_rfl) (by kernel_rfl) (fun _ _ _ h => h) (Or.inl ⟨by rfl, ?_⟩) (by assumption) ?_
      rotate_left
      · intro w hSw
        (try dsimp only at hSw)
        first | (go_simp; done) | (go_simp; with_reducible rfl)
      (try simp only [Act.put, List.setIfInBounds_toArray, List.set_cons_zero, List.set_cons_succ])
      refine wpAnyH_take (i := 37) (oi := { dst := some 75, op := Op.move (Operand.tmp 74), type := 4, pos := "laws.go:188", after := #[{ on := 36, ground := Ground.data }, { on := 30, ground := Ground.chain }], guard := none }) (v := ?_) rfl (by kernel_rfl) (by kernel_rfl) (by kernel_rfl) (fun _ _ _ h => h) (Or.inl ⟨by rfl, ?_⟩) (by assumption) ?_
      rotate_left
      · intro w hSw
        (try dsimp only at hSw)
        first | (go_simp; done) | (go_simp; with_reducible rfl)
      (try simp only [Act.put, List.setIfInBounds_toArray, List.set_cons_zero, List.set_cons_succ])
      refine wpAnyH_take (i := 38) (oi := { dst := some 76, op := Op.load 25 (Operand.tmp 3), type := 25, pos := "laws.go:188", after := #[{ on := 37, ground := Ground.guard }], guard := some (37, false) }) (v := ?_) rfl (by kernel_rfl) (by kernel_rfl) (by kernel_rfl) (fun _ _ _ h => h) (Or.inl ⟨by rfl, ?_⟩) (by assumption) ?_
      rotate_left
      · intro w hSw
        (try dsimp only at hSw)
        first | (go_simp; done) | (go_simp; with_reducible rfl)
      (try simp only [Act.put, List.setIfInBounds_toArray, List.set_cons_zero, List.set_cons_succ])
      refine wpAnyH_take (i := 40) (oi := { dst := some 78, op := Op.move (Operand.tmp 4), type := 9, pos := "laws.go:188", after := #[{ on := 37, ground := Ground.guard }], guard := some (37, false) }) (v := ?_) rfl (by kernel_rfl) (by kernel_rfl) (by kernel_rfl) (fun _ _ _ h => h) (Or.inl ⟨by rfl, ?_⟩) (by assumption) ?_
      rotate_left
      · intro w hSw
        (try dsimp only at hSw)
        first | (go_simp; done) | (go_simp; with_reducible rfl)
      (try simp only [Act.put, List.setIfInBounds_toArray, List.set_cons_zero, List.set_cons_succ])
      refine wpAnyH_take (i := 41) (oi := { dst := some 79, op := Op.binOp BinOp.neq 9 (Operand.tmp 78) (Operand.const (Value.string { data := #[] })) 9, type := 4, pos := "laws.go:188", after := #[{ on := 40, ground := Ground.data }, { on := 37, ground := Ground.guard }], guard := some (37, false) }) (v := ?_) rfl (by kernel_rfl) (by kernel_rfl) (by kernel_rfl) (fun _ _ _ h => h) (Or.inl ⟨by rfl, ?_⟩) (by assumption) ?_
      rotate_left
      · intro w hSw
        (try dsimp only at hSw)
        first | (go_simp; done) | (go_simp; with_reducible rfl)
      (try simp only [Act.put, List.setIfInBounds_toArray, List.set_cons_zero, List.set_cons_succ])
      refine wpAnyH_ready (rs := [39]) (by kernel_rfl) (by simp) ?_
      refine AllReadyH.cons (o := { dst := some 77, op := Op.call { callee := Callee.value (Operand.func 12), args := #[Operand.tmp 76], argTypes := #[25] }, type := 4, pos := "laws.go:188", after := #[{ on := 38, ground := Ground.data }, { on := 37, ground := Ground.chain }, { on := 37, ground := Ground.guard }], guard := some (37, false) }) rfl (fun K hK => ?_) AllReadyH.nil
      go_simp
      go_at_call 12
      refine (HOk.out _).mono ?_
      rintro e y5 ⟨rfl, hb5⟩
      have hS5 : y5.cell? ⟨bo, 0, none⟩ = some (.int .i64 dev) ∧ y5.cell? ⟨bo, 1, none⟩ = some (.int .i64 seq) ∧ y5.cell? ⟨bo, 2, none⟩ = some (.int .i64 stamp) ∧ y5.cell? ⟨bo, 3, none⟩ = some (.int .i64 kind) ∧ y5.cell? ⟨bo, 4, none⟩ = some (.string item) ∧ y5.cell? ⟨bo, 5, none⟩ = some (.int .i64 qty) ∧ y5.cell? ⟨bo, 6, none⟩ = some (.int .i64 level) ∧ y5.cell? ⟨bo, 7, none⟩ = some (.int .i64 undos) ∧ y5.cell? ⟨bx, 0, none⟩ = some (.int .i64 dev1) ∧ y5.cell? ⟨bx, 1, none⟩ = some (.int .i64 seq1) ∧ y5.cell? ⟨bx, 2, none⟩ = some (.int .i64 stamp1) ∧ y5.cell? ⟨bx, 3, none⟩ = some (.int .i64 kind1) ∧ y5.cell? ⟨bx, 4, none⟩ = some (.string item1) ∧ y5.cell? ⟨bx, 5, none⟩ = some (.int .i64 qty1) ∧ y5.cell? ⟨bx, 6, none⟩ = some (.int .i64 level1) ∧ y5.cell? ⟨bx, 7, none⟩ = some (.int .i64 undos1) ∧ y5.cell? ⟨bY, 0, none⟩ = some (.int .i64 dev3) ∧ y5.cell? ⟨bY, 1, none⟩ = some (.int .i64 seq3) ∧ y5.cell? ⟨bY, 2, none⟩ = some (.int .i64 stamp3) ∧ y5.cell? ⟨bY, 3, none⟩ = some (.int .i64 kind3) ∧ y5.cell? ⟨bY, 4, none⟩ = some (.string item3) ∧ y5.cell? ⟨bY, 5, none⟩ = some (.int .i64 qty3) ∧ y5.cell? ⟨bY, 6, none⟩ = some (.int .i64 level3) ∧ y5.cell? ⟨bY, 7, none⟩ = some (.int .i64 undos3) ∧ y5.cell? ⟨bz, 0, none⟩ = some (.int .i64 dev3) ∧ y5.cell? ⟨bz, 1, none⟩ = some (.int .i64 seq3) ∧ y5.cell? ⟨bz, 2, none⟩ = some (.int .i64 stamp3) ∧ y5.cell? ⟨bz, 3, none⟩ = some (.int .i64 kind3) ∧ y5.cell? ⟨bz, 4, none⟩ = some (.string item3) ∧ y5.cell? ⟨bz, 5, none⟩ = some (.int .i64 qty3) ∧ y5.cell? ⟨bz, 6, none⟩ = some (.int .i64 level3) ∧ y5.cell? ⟨bz, 7, none⟩ = some (.int .i64 undos3) := by
          obtain ⟨q0, q1, q2, q3, q4, q5, q6, q7, q8, q9, q10, q11, q12, q13, q14, q15, q16, q17, q18, q19, q20, q21, q22, q23, q24, q25, q26, q27, q28, q29, q30, q31⟩ := hS4
          exact ⟨(hb5.cell (block_lt_of_cell q0)).trans q0, (hb5.cell (block_lt_of_cell q1)).trans q1, (hb5.cell (block_lt_of_cell q2)).trans q2, (hb5.cell (block_lt_of_cell q3)).trans q3, (hb5.cell (block_lt_of_cell q4)).trans q4, (hb5.cell (block_lt_of_cell q5)).trans q5, (hb5.cell (block_lt_of_cell q6)).trans q6, (hb5.cell (block_lt_of_cell q7)).trans q7, (hb5.cell (block_lt_of_cell q8)).trans q8, (hb5.cell (block_lt_of_cell q9)).trans q9, (hb5.cell (block_lt_of_cell q10)).trans q10, (hb5.cell (block_lt_of_cell q11)).trans q11, (hb5.cell (block_lt_of_cell q12)).trans q12, (hb5.cell (block_lt_of_cell q13)).trans q13, (hb5.cell (block_lt_of_cell q14)).trans q14, (hb5.cell (block_lt_of_cell q15)).trans q15, (hb5.cell (block_lt_of_cell q16)).trans q16, (hb5.cell (block_lt_of_cell q17)).trans q17, (hb5.cell (block_lt_of_cell q18)).trans q18, (hb5.cell (block_lt_of_cell q19)).trans q19, (hb5.cell (block_lt_of_cell q20)).trans q20, (hb5.cell (block_lt_of_cell q21)).trans q21, (hb5.cell (block_lt_of_cell q22)).trans q22, (hb5.cell (block_lt_of_cell q23)).trans q23, (hb5.cell (block_lt_of_cell q24)).trans q24, (hb5.cell (block_lt_of_cell q25)).trans q25, (hb5.cell (block_lt_of_cell q26)).trans q26, (hb5.cell (block_lt_of_cell q27)).trans q27, (hb5.cell (block_lt_of_cell q28)).trans q28, (hb5.cell (block_lt_of_cell q29)).trans q29, (hb5.cell (block_lt_of_cell q30)).trans q30, (hb5.cell (block_lt_of_cell q31)).trans q31⟩
      refine hK.out _ _ hS5 (fun hHeld6 => ?_)
      clear hK K
      (try simp only [Act.put, List.setIfInBounds_toArray, List.set_cons_zero, List.set_cons_succ])
      refine wpAnyH_take (i := 42) (oi := { dst := some 80, op := Op.binOp BinOp.neq 4 (Operand.tmp 77) (Operand.tmp 79) 4, type := 4, pos := "laws.go:188", after := #[{ on := 39, ground := Ground.data }, { on := 41, ground := Ground.data }, { on := 37, ground := Ground.guard }], guard := some (37, false) }) (v := ?_) rfl (by kernel_rfl) (by kernel_rfl) (by kernel_rfl) (fun _ _ _ h => h) (Or.inl ⟨by rfl, ?_⟩) (by assumption) ?_
      rotate_left
      · intro w hSw
        (try dsimp only at hSw)
        first | (go_simp; done) | (go_simp; with_reducible rfl)
      (try simp only [Act.put, List.setIfInBounds_toArray, List.set_cons_zero, List.set_cons_succ])
      refine wpAnyH_take (i := 43) (oi := { dst := some 81, op := Op.pick (Operand.tmp 75) (Operand.const (Value.bool true)) (Operand.tmp 80), type := 4, pos := "laws.go:188", after := #[{ on := 37, ground := Ground.data }, { on := 42, ground := Ground.data }], guard := none }) (v := ?_) rfl (by kernel_rfl) (by kernel_rfl) (by kernel_rfl) (fun _ _ _ h => h) (Or.inl ⟨by rfl, ?_⟩) (by assumption) ?_
      rotate_left
      · intro w hSw
        (try dsimp only at hSw)
        first | (go_simp; done) | (go_simp; with_reducible rfl)
      (try simp only [Act.put, List.setIfInBounds_toArray, List.set_cons_zero, List.set_cons_succ])
      refine wpAnyH_done (by kernel_rfl) ?_ _
      have B1 : Below w.heap.size w y1 := HB10.out.trans ((Below.mk hb1.os hb1.tape hb1.output hb1.size hb1.block : Below w10.heap.size w10 y1).mono HB10.out.size)
      have B2 := B1.trans (hb2.mono B1.size)
      have B3 := B2.trans (hb3.mono B2.size)
      have B4 := B3.trans (hb4.mono B3.size)
      have HB := Lib.hid (B4.trans (hb5.mono B4.size))
      clear B4
      clear B1 B2 B3 hb1 hb2 hb3 hb5 hS0 hS1 hS2 hS3 hS4 hS5 hHeld
      go_wp2
      go_ret
      exact ⟨rfl, HB.out⟩
    · have hse : (s.toList == []) = false := by have h := HCs.out; rw [if_pos rfl] at h; rw [beq_eq_false_iff_ne]; exact h
      go_wp2_with fail
      refine wp_region_held_drew (S := fun w' => w'.cell? ⟨bo, 0, none⟩ = some (.int .i64 dev) ∧ w'.cell? ⟨bo, 1, none⟩ = some (.int .i64 seq) ∧ w'.cell? ⟨bo, 2, none⟩ = some (.int .i64 stamp) ∧ w'.cell? ⟨bo, 3, none⟩ = some (.int .i64 kind) ∧ w'.cell? ⟨bo, 4, none⟩ = some (.string item) ∧ w'.cell? ⟨bo, 5, none⟩ = some (.int .i64 qty) ∧ w'.cell? ⟨bo, 6, none⟩ = some (.int .i64 level) ∧ w'.cell? ⟨bo, 7, none⟩ = some (.int .i64 undos) ∧ w'.cell? ⟨bx, 0, none⟩ = some (.int .i64 dev1) ∧ w'.cell? ⟨bx, 1, none⟩ = some (.int .i64 seq1) ∧ w'.cell? ⟨bx, 2, none⟩ = some (.int .i64 stamp1) ∧ w'.cell? ⟨bx, 3, none⟩ = some (.int .i64 kind1) ∧ w'.cell? ⟨bx, 4, none⟩ = some (.string item1) ∧ w'.cell? ⟨bx, 5, none⟩ = some (.int .i64 qty1) ∧ w'.cell? ⟨bx, 6, none⟩ = some (.int .i64 level1) ∧ w'.cell? ⟨bx, 7, none⟩ = some (.int .i64 undos1) ∧ w'.cell? ⟨bY, 0, none⟩ = some (.int .i64 dev3) ∧ w'.cell? ⟨bY, 1, none⟩ = some (.int .i64 seq3) ∧ w'.cell? ⟨bY, 2, none⟩ = some (.int .i64 stamp3) ∧ w'.cell? ⟨bY, 3, none⟩ = some (.int .i64 kind3) ∧ w'.cell? ⟨bY, 4, none⟩ = some (.string item3) ∧ w'.cell? ⟨bY, 5, none⟩ = some (.int .i64 qty3) ∧ w'.cell? ⟨bY, 6, none⟩ = some (.int .i64 level3) ∧ w'.cell? ⟨bY, 7, none⟩ = some (.int .i64 undos3) ∧ w'.cell? ⟨bz, 0, none⟩ = some (.int .i64 dev3) ∧ w'.cell? ⟨bz, 1, none⟩ = some (.int .i64 seq3) ∧ w'.cell? ⟨bz, 2, none⟩ = some (.int .i64 stamp3) ∧ w'.cell? ⟨bz, 3, none⟩ = some (.int .i64 kind3) ∧ w'.cell? ⟨bz, 4, none⟩ = some (.string item3) ∧ w'.cell? ⟨bz, 5, none⟩ = some (.int .i64 qty3) ∧ w'.cell? ⟨bz, 6, none⟩ = some (.int .i64 level3) ∧ w'.cell? ⟨bz, 7, none⟩ = some (.int .i64 undos3)) (by kernel_rfl) hS0 (fun hHeld => ?_)
      refine wpAnyH_take (i := 0) (oi := { dst := some 38, op := Op.move (Operand.tmp 4), type := 9, pos := "laws.go:188", after := #[], guard := none }) (v := ?_) rfl (by kernel_rfl) (by kernel_rfl) (by kernel_rfl) (fun _ _ _ h => h) (Or.inl ⟨by rfl, ?_⟩) (by assumption) ?_
      rotate_left
      · intro w hSw
        (try dsimp only at hSw)
        first | (go_simp; done) | (go_simp; with_reducible rfl)
      (try simp only [Act.put, List.setIfInBounds_toArray, List.set_cons_zero, List.set_cons_succ])
      refine wpAnyH_take (i := 1) (oi := { dst := some 39, op := Op.load 25 (Operand.tmp 3), type := 25, pos := "laws.go:188", after := #[], guard := none }) (v := ?_) rfl (by kernel_rfl) (by kernel_rfl) (by kernel_rfl) (fun _ _ _ h => h) (Or.inl ⟨by rfl, ?_⟩) (by assumption) ?_
      rotate_left
      · intro w hSw
        (try dsimp only at hSw)
        first | (go_simp; done) | (go_simp; with_reducible rfl)
      (try simp only [Act.put, List.setIfInBounds_toArray, List.set_cons_zero, List.set_cons_succ])
      refine wpAnyH_ready (rs := [2]) (by kernel_rfl) (by simp) ?_
      refine AllReadyH.cons (o := { dst := some 40, op := Op.call { callee := Callee.value (Operand.func 11), args := #[Operand.tmp 39], argTypes := #[25] }, type := 9, pos := "laws.go:188", after := #[{ on := 1, ground := Ground.data }], guard := none }) rfl (fun K hK => ?_) AllReadyH.nil
      go_simp
      go_at_call 11
      refine (HSp.out _).mono ?_
      rintro e y1 ⟨rfl, hb1⟩
      have hS1 : y1.cell? ⟨bo, 0, none⟩ = some (.int .i64 dev) ∧ y1.cell? ⟨bo, 1, none⟩ = some (.int .i64 seq) ∧ y1.cell? ⟨bo, 2, none⟩ = some (.int .i64 stamp) ∧ y1.cell? ⟨bo, 3, none⟩ = some (.int .i64 kind) ∧ y1.cell? ⟨bo, 4, none⟩ = some (.string item) ∧ y1.cell? ⟨bo, 5, none⟩ = some (.int .i64 qty) ∧ y1.cell? ⟨bo, 6, none⟩ = some (.int .i64 level) ∧ y1.cell? ⟨bo, 7, none⟩ = some (.int .i64 undos) ∧ y1.cell? ⟨bx, 0, none⟩ = some (.int .i64 dev1) ∧ y1.cell? ⟨bx, 1, none⟩ = some (.int .i64 seq1) ∧ y1.cell? ⟨bx, 2, none⟩ = some (.int .i64 stamp1) ∧ y1.cell? ⟨bx, 3, none⟩ = some (.int .i64 kind1) ∧ y1.cell? ⟨bx, 4, none⟩ = some (.string item1) ∧ y1.cell? ⟨bx, 5, none⟩ = some (.int .i64 qty1) ∧ y1.cell? ⟨bx, 6, none⟩ = some (.int .i64 level1) ∧ y1.cell? ⟨bx, 7, none⟩ = some (.int .i64 undos1) ∧ y1.cell? ⟨bY, 0, none⟩ = some (.int .i64 dev3) ∧ y1.cell? ⟨bY, 1, none⟩ = some (.int .i64 seq3) ∧ y1.cell? ⟨bY, 2, none⟩ = some (.int .i64 stamp3) ∧ y1.cell? ⟨bY, 3, none⟩ = some (.int .i64 kind3) ∧ y1.cell? ⟨bY, 4, none⟩ = some (.string item3) ∧ y1.cell? ⟨bY, 5, none⟩ = some (.int .i64 qty3) ∧ y1.cell? ⟨bY, 6, none⟩ = some (.int .i64 level3) ∧ y1.cell? ⟨bY, 7, none⟩ = some (.int .i64 undos3) ∧ y1.cell? ⟨bz, 0, none⟩ = some (.int .i64 dev3) ∧ y1.cell? ⟨bz, 1, none⟩ = some (.int .i64 seq3) ∧ y1.cell? ⟨bz, 2, none⟩ = some (.int .i64 stamp3) ∧ y1.cell? ⟨bz, 3, none⟩ = some (.int .i64 kind3) ∧ y1.cell? ⟨bz, 4, none⟩ = some (.string item3) ∧ y1.cell? ⟨bz, 5, none⟩ = some (.int .i64 qty3) ∧ y1.cell? ⟨bz, 6, none⟩ = some (.int .i64 level3) ∧ y1.cell? ⟨bz, 7, none⟩ = some (.int .i64 undos3) := by
          obtain ⟨q0, q1, q2, q3, q4, q5, q6, q7, q8, q9, q10, q11, q12, q13, q14, q15, q16, q17, q18, q19, q20, q21, q22, q23, q24, q25, q26, q27, q28, q29, q30, q31⟩ := hS0
          exact ⟨(hb1.cell (block_lt_of_cell q0)).trans q0, (hb1.cell (block_lt_of_cell q1)).trans q1, (hb1.cell (block_lt_of_cell q2)).trans q2, (hb1.cell (block_lt_of_cell q3)).trans q3, (hb1.cell (block_lt_of_cell q4)).trans q4, (hb1.cell (block_lt_of_cell q5)).trans q5, (hb1.cell (block_lt_of_cell q6)).trans q6, (hb1.cell (block_lt_of_cell q7)).trans q7, (hb1.cell (block_lt_of_cell q8)).trans q8, (hb1.cell (block_lt_of_cell q9)).trans q9, (hb1.cell (block_lt_of_cell q10)).trans q10, (hb1.cell (block_lt_of_cell q11)).trans q11, (hb1.cell (block_lt_of_cell q12)).trans q12, (hb1.cell (block_lt_of_cell q13)).trans q13, (hb1.cell (block_lt_of_cell q14)).trans q14, (hb1.cell (block_lt_of_cell q15)).trans q15, (hb1.cell (block_lt_of_cell q16)).trans q16, (hb1.cell (block_lt_of_cell q17)).trans q17, (hb1.cell (block_lt_of_cell q18)).trans q18, (hb1.cell (block_lt_of_cell q19)).trans q19, (hb1.cell (block_lt_of_cell q20)).trans q20, (hb1.cell (block_lt_of_cell q21)).trans q21, (hb1.cell (block_lt_of_cell q22)).trans q22, (hb1.cell (block_lt_of_cell q23)).trans q23, (hb1.cell (block_lt_of_cell q24)).trans q24, (hb1.cell (block_lt_of_cell q25)).trans q25, (hb1.cell (block_lt_of_cell q26)).trans q26, (hb1.cell (block_lt_of_cell q27)).trans q27, (hb1.cell (block_lt_of_cell q28)).trans q28, (hb1.cell (block_lt_of_cell q29)).trans q29, (hb1.cell (block_lt_of_cell q30)).trans q30, (hb1.cell (block_lt_of_cell q31)).trans q31⟩
      refine hK.out _ _ hS1 (fun hHeld2 => ?_)
      clear hK K
      (try simp only [Act.put, List.setIfInBounds_toArray, List.set_cons_zero, List.set_cons_succ])
      refine wpAnyH_take (i := 3) (oi := { dst := some 41, op := Op.binOp BinOp.neq 9 (Operand.tmp 38) (Operand.tmp 40) 9, type := 4, pos := "laws.go:188", after := #[{ on := 0, ground := Ground.data }, { on := 2, ground := Ground.data }], guard := none }) (v := ?_) rfl (by kernel_rfl) (by kernel_rfl) (by kernel_rfl) (fun _ _ _ h => h) (Or.inl ⟨by rfl, ?_⟩) (by assumption) ?_
      rotate_left
      · intro w hSw
        (try dsimp only at hSw)
        first | (go_simp; done) | (go_simp; with_reducible rfl)
      (try simp only [Act.put, List.setIfInBounds_toArray, List.set_cons_zero, List.set_cons_succ])
      refine wpAnyH_take (i := 4) (oi := { dst := some 42, op := Op.move (Operand.tmp 41), type := 4, pos := "laws.go:188", after := #[{ on := 3, ground := Ground.data }, { on := 2, ground := Ground.chain }], guard := none }) (v := ?_) rfl (by kernel_rfl) (by kernel_rfl) (by kernel_rfl) (fun _ _ _ h => h) (Or.inl ⟨by rfl, ?_⟩) (by assumption) ?_
      rotate_left
      · intro w hSw
        (try dsimp only at hSw)
        first | (go_simp; done) | (go_simp; with_reducible rfl)
      (try simp only [Act.put, List.setIfInBounds_toArray, List.set_cons_zero, List.set_cons_succ])
      refine wpAnyH_take (i := 5) (oi := { dst := some 43, op := Op.load 25 (Operand.tmp 5), type := 25, pos := "laws.go:188", after := #[{ on := 4, ground := Ground.guard }], guard := some (4, false) }) (v := ?_) rfl (by kernel_rfl) (by kernel_rfl) (by kernel_rfl) (fun _ _ _ h => h) (Or.inl ⟨by rfl, ?_⟩) (by assumption) ?_
      rotate_left
      · intro w hSw
        (try dsimp only at hSw)
        first | (go_simp; done) | (go_simp; with_reducible rfl)
      (try simp only [Act.put, List.setIfInBounds_toArray, List.set_cons_zero, List.set_cons_succ])
      refine wpAnyH_take (i := 7) (oi := { dst := some 45, op := Op.load 25 (Operand.tmp 5), type := 25, pos := "laws.go:188", after := #[{ on := 4, ground := Ground.guard }], guard := some (4, false) }) (v := ?_) rfl (by kernel_rfl) (by kernel_rfl) (by kernel_rfl) (fun _ _ _ h => h) (Or.inl ⟨by rfl, ?_⟩) (by assumption) ?_
      rotate_left
      · intro w hSw
        (try dsimp only at hSw)
        first | (go_simp; done) | (go_simp; with_reducible rfl)
      (try simp only [Act.put, List.setIfInBounds_toArray, List.set_cons_zero, List.set_cons_succ])
      refine wpAnyH_ready (rs := [6]) (by kernel_rfl) (by simp) ?_
      refine AllReadyH.cons (o := { dst := some 44, op := Op.call { callee := Callee.value (Operand.func 12), args := #[Operand.tmp 43], argTypes := #[25] }, type := 4, pos := "laws.go:188", after := #[{ on := 5, ground := Ground.data }, { on := 4, ground := Ground.chain }, { on := 4, ground := Ground.guard }], guard := some (4, false) }) rfl (fun K hK => ?_) AllReadyH.nil
      go_simp
      go_at_call 12
      refine (HO1.out _).mono ?_
      rintro e y2 ⟨rfl, hb2⟩
      have hS2 : y2.cell? ⟨bo, 0, none⟩ = some (.int .i64 dev) ∧ y2.cell? ⟨bo, 1, none⟩ = some (.int .i64 seq) ∧ y2.cell? ⟨bo, 2, none⟩ = some (.int .i64 stamp) ∧ y2.cell? ⟨bo, 3, none⟩ = some (.int .i64 kind) ∧ y2.cell? ⟨bo, 4, none⟩ = some (.string item) ∧ y2.cell? ⟨bo, 5, none⟩ = some (.int .i64 qty) ∧ y2.cell? ⟨bo, 6, none⟩ = some (.int .i64 level) ∧ y2.cell? ⟨bo, 7, none⟩ = some (.int .i64 undos) ∧ y2.cell? ⟨bx, 0, none⟩ = some (.int .i64 dev1) ∧ y2.cell? ⟨bx, 1, none⟩ = some (.int .i64 seq1) ∧ y2.cell? ⟨bx, 2, none⟩ = some (.int .i64 stamp1) ∧ y2.cell? ⟨bx, 3, none⟩ = some (.int .i64 kind1) ∧ y2.cell? ⟨bx, 4, none⟩ = some (.string item1) ∧ y2.cell? ⟨bx, 5, none⟩ = some (.int .i64 qty1) ∧ y2.cell? ⟨bx, 6, none⟩ = some (.int .i64 level1) ∧ y2.cell? ⟨bx, 7, none⟩ = some (.int .i64 undos1) ∧ y2.cell? ⟨bY, 0, none⟩ = some (.int .i64 dev3) ∧ y2.cell? ⟨bY, 1, none⟩ = some (.int .i64 seq3) ∧ y2.cell? ⟨bY, 2, none⟩ = some (.int .i64 stamp3) ∧ y2.cell? ⟨bY, 3, none⟩ = some (.int .i64 kind3) ∧ y2.cell? ⟨bY, 4, none⟩ = some (.string item3) ∧ y2.cell? ⟨bY, 5, none⟩ = some (.int .i64 qty3) ∧ y2.cell? ⟨bY, 6, none⟩ = some (.int .i64 level3) ∧ y2.cell? ⟨bY, 7, none⟩ = some (.int .i64 undos3) ∧ y2.cell? ⟨bz, 0, none⟩ = some (.int .i64 dev3) ∧ y2.cell? ⟨bz, 1, none⟩ = some (.int .i64 seq3) ∧ y2.cell? ⟨bz, 2, none⟩ = some (.int .i64 stamp3) ∧ y2.cell? ⟨bz, 3, none⟩ = some (.int .i64 kind3) ∧ y2.cell? ⟨bz, 4, none⟩ = some (.string item3) ∧ y2.cell? ⟨bz, 5, none⟩ = some (.int .i64 qty3) ∧ y2.cell? ⟨bz, 6, none⟩ = some (.int .i64 level3) ∧ y2.cell? ⟨bz, 7, none⟩ = some (.int .i64 undos3) := by
          obtain ⟨q0, q1, q2, q3, q4, q5, q6, q7, q8, q9, q10, q11, q12, q13, q14, q15, q16, q17, q18, q19, q20, q21, q22, q23, q24, q25, q26, q27, q28, q29, q30, q31⟩ := hS1
          exact ⟨(hb2.cell (block_lt_of_cell q0)).trans q0, (hb2.cell (block_lt_of_cell q1)).trans q1, (hb2.cell (block_lt_of_cell q2)).trans q2, (hb2.cell (block_lt_of_cell q3)).trans q3, (hb2.cell (block_lt_of_cell q4)).trans q4, (hb2.cell (block_lt_of_cell q5)).trans q5, (hb2.cell (block_lt_of_cell q6)).trans q6, (hb2.cell (block_lt_of_cell q7)).trans q7, (hb2.cell (block_lt_of_cell q8)).trans q8, (hb2.cell (block_lt_of_cell q9)).trans q9, (hb2.cell (block_lt_of_cell q10)).trans q10, (hb2.cell (block_lt_of_cell q11)).trans q11, (hb2.cell (block_lt_of_cell q12)).trans q12, (hb2.cell (block_lt_of_cell q13)).trans q13, (hb2.cell (block_lt_of_cell q14)).trans q14, (hb2.cell (block_lt_of_cell q15)).trans q15, (hb2.cell (block_lt_of_cell q16)).trans q16, (hb2.cell (block_lt_of_cell q17)).trans q17, (hb2.cell (block_lt_of_cell q18)).trans q18, (hb2.cell (block_lt_of_cell q19)).trans q19, (hb2.cell (block_lt_of_cell q20)).trans q20, (hb2.cell (block_lt_of_cell q21)).trans q21, (hb2.cell (block_lt_of_cell q22)).trans q22, (hb2.cell (block_lt_of_cell q23)).trans q23, (hb2.cell (block_lt_of_cell q24)).trans q24, (hb2.cell (block_lt_of_cell q25)).trans q25, (hb2.cell (block_lt_of_cell q26)).trans q26, (hb2.cell (block_lt_of_cell q27)).trans q27, (hb2.cell (block_lt_of_cell q28)).trans q28, (hb2.cell (block_lt_of_cell q29)).trans q29, (hb2.cell (block_lt_of_cell q30)).trans q30, (hb2.cell (block_lt_of_cell q31)).trans q31⟩
      refine hK.out _ _ hS2 (fun hHeld3 => ?_)
      clear hK K
      (try simp only [Act.put, List.setIfInBounds_toArray, List.set_cons_zero, List.set_cons_succ])
      refine wpAnyH_ready (rs := [8]) (by kernel_rfl) (by simp) ?_
      refine AllReadyH.cons (o := { dst := some 46, op := Op.call { callee := Callee.value (Operand.func 13), args := #[Operand.tmp 45], argTypes := #[25] }, type := 4, pos := "laws.go:188", after := #[{ on := 7, ground := Ground.data }, { on := 6, ground := Ground.chain }, { on := 4, ground := Ground.guard }], guard := some (4, false) }) rfl (fun K hK => ?_) AllReadyH.nil
      go_simp
      go_at_call 13
      refine (HO2.out _).mono ?_
      rintro e y3 ⟨rfl, hb3⟩
      have hS3 : y3.cell? ⟨bo, 0, none⟩ = some (.int .i64 dev) ∧ y3.cell? ⟨bo, 1, none⟩ = some (.int .i64 seq) ∧ y3.cell? ⟨bo, 2, none⟩ = some (.int .i64 stamp) ∧ y3.cell? ⟨bo, 3, none⟩ = some (.int .i64 kind) ∧ y3.cell? ⟨bo, 4, none⟩ = some (.string item) ∧ y3.cell? ⟨bo, 5, none⟩ = some (.int .i64 qty) ∧ y3.cell? ⟨bo, 6, none⟩ = some (.int .i64 level) ∧ y3.cell? ⟨bo, 7, none⟩ = some (.int .i64 undos) ∧ y3.cell? ⟨bx, 0, none⟩ = some (.int .i64 dev1) ∧ y3.cell? ⟨bx, 1, none⟩ = some (.int .i64 seq1) ∧ y3.cell? ⟨bx, 2, none⟩ = some (.int .i64 stamp1) ∧ y3.cell? ⟨bx, 3, none⟩ = some (.int .i64 kind1) ∧ y3.cell? ⟨bx, 4, none⟩ = some (.string item1) ∧ y3.cell? ⟨bx, 5, none⟩ = some (.int .i64 qty1) ∧ y3.cell? ⟨bx, 6, none⟩ = some (.int .i64 level1) ∧ y3.cell? ⟨bx, 7, none⟩ = some (.int .i64 undos1) ∧ y3.cell? ⟨bY, 0, none⟩ = some (.int .i64 dev3) ∧ y3.cell? ⟨bY, 1, none⟩ = some (.int .i64 seq3) ∧ y3.cell? ⟨bY, 2, none⟩ = some (.int .i64 stamp3) ∧ y3.cell? ⟨bY, 3, none⟩ = some (.int .i64 kind3) ∧ y3.cell? ⟨bY, 4, none⟩ = some (.string item3) ∧ y3.cell? ⟨bY, 5, none⟩ = some (.int .i64 qty3) ∧ y3.cell? ⟨bY, 6, none⟩ = some (.int .i64 level3) ∧ y3.cell? ⟨bY, 7, none⟩ = some (.int .i64 undos3) ∧ y3.cell? ⟨bz, 0, none⟩ = some (.int .i64 dev3) ∧ y3.cell? ⟨bz, 1, none⟩ = some (.int .i64 seq3) ∧ y3.cell? ⟨bz, 2, none⟩ = some (.int .i64 stamp3) ∧ y3.cell? ⟨bz, 3, none⟩ = some (.int .i64 kind3) ∧ y3.cell? ⟨bz, 4, none⟩ = some (.string item3) ∧ y3.cell? ⟨bz, 5, none⟩ = some (.int .i64 qty3) ∧ y3.cell? ⟨bz, 6, none⟩ = some (.int .i64 level3) ∧ y3.cell? ⟨bz, 7, none⟩ = some (.int .i64 undos3) := by
          obtain ⟨q0, q1, q2, q3, q4, q5, q6, q7, q8, q9, q10, q11, q12, q13, q14, q15, q16, q17, q18, q19, q20, q21, q22, q23, q24, q25, q26, q27, q28, q29, q30, q31⟩ := hS2
          exact ⟨(hb3.cell (block_lt_of_cell q0)).trans q0, (hb3.cell (block_lt_of_cell q1)).trans q1, (hb3.cell (block_lt_of_cell q2)).trans q2, (hb3.cell (block_lt_of_cell q3)).trans q3, (hb3.cell (block_lt_of_cell q4)).trans q4, (hb3.cell (block_lt_of_cell q5)).trans q5, (hb3.cell (block_lt_of_cell q6)).trans q6, (hb3.cell (block_lt_of_cell q7)).trans q7, (hb3.cell (block_lt_of_cell q8)).trans q8, (hb3.cell (block_lt_of_cell q9)).trans q9, (hb3.cell (block_lt_of_cell q10)).trans q10, (hb3.cell (block_lt_of_cell q11)).trans q11, (hb3.cell (block_lt_of_cell q12)).trans q12, (hb3.cell (block_lt_of_cell q13)).trans q13, (hb3.cell (block_lt_of_cell q14)).trans q14, (hb3.cell (block_lt_of_cell q15)).trans q15, (hb3.cell (block_lt_of_cell q16)).trans q16, (hb3.cell (block_lt_of_cell q17)).trans q17, (hb3.cell (block_lt_of_cell q18)).trans q18, (hb3.cell (block_lt_of_cell q19)).trans q19, (hb3.cell (block_lt_of_cell q20)).trans q20, (hb3.cell (block_lt_of_cell q21)).trans q21, (hb3.cell (block_lt_of_cell q22)).trans q22, (hb3.cell (block_lt_of_cell q23)).trans q23, (hb3.cell (block_lt_of_cell q24)).trans q24, (hb3.cell (block_lt_of_cell q25)).trans q25, (hb3.cell (block_lt_of_cell q26)).trans q26, (hb3.cell (block_lt_of_cell q27)).trans q27, (hb3.cell (block_lt_of_cell q28)).trans q28, (hb3.cell (block_lt_of_cell q29)).trans q29, (hb3.cell (block_lt_of_cell q30)).trans q30, (hb3.cell (block_lt_of_cell q31)).trans q31⟩
      refine hK.out _ _ hS3 (fun hHeld4 => ?_)
      clear hK K
      (try simp only [Act.put, List.setIfInBounds_toArray, List.set_cons_zero, List.set_cons_succ])
      refine wpAnyH_take (i := 9) (oi := { dst := some 47, op := Op.binOp BinOp.neq 4 (Operand.tmp 44) (Operand.tmp 46) 4, type := 4, pos := "laws.go:188", after := #[{ on := 6, ground := Ground.data }, { on := 8, ground := Ground.data }, { on := 4, ground := Ground.guard }], guard := some (4, false) }) (v := ?_) rfl (by kernel_rfl) (by kernel_rfl) (by kernel_rfl) (fun _ _ _ h => h) (Or.inl ⟨by rfl, ?_⟩) (by assumption) ?_
      rotate_left
      · intro w hSw
        (try dsimp only at hSw)
        first | (go_simp; done) | (go_simp; with_reducible rfl)
      (try simp only [Act.put, List.setIfInBounds_toArray, List.set_cons_zero, List.set_cons_succ])
      refine wpAnyH_take (i := 10) (oi := { dst := some 48, op := Op.pick (Operand.tmp 42) (Operand.const (Value.bool true)) (Operand.tmp 47), type := 4, pos := "laws.go:188", after := #[{ on := 4, ground := Ground.data }, { on := 9, ground := Ground.data }], guard := none }) (v := ?_) rfl (by kernel_rfl) (by kernel_rfl) (by kernel_rfl) (fun _ _ _ h => h) (Or.inl ⟨by rfl, ?_⟩) (by assumption) ?_
      rotate_left
      · intro w hSw
        (try dsimp only at hSw)
        first | (go_simp; done) | (go_simp; with_reducible rfl)
      (try simp only [Act.put, List.setIfInBounds_toArray, List.set_cons_zero, List.set_cons_succ])
      refine wpAnyH_take (i := 11) (oi := { dst := some 49, op := Op.move (Operand.tmp 48), type := 4, pos := "laws.go:188", after := #[{ on := 10, ground := Ground.data }, { on := 8, ground := Ground.chain }], guard := none }) (v := ?_) rfl (by kernel_rfl) (by kernel_rfl) (by kernel_rfl) (fun _ _ _ h => h) (Or.inl ⟨by rfl, ?_⟩) (by assumption) ?_
      rotate_left
      · intro w hSw
        (try dsimp only at hSw)
        first | (go_simp; done) | (go_simp; with_reducible rfl)
      (try simp only [Act.put, List.setIfInBounds_toArray, List.set_cons_zero, List.set_cons_succ])
      refine wpAnyH_take (i := 12) (oi := { dst := some 50, op := Op.load 25 (Operand.tmp 7), type := 25, pos := "laws.go:188", after := #[{ on := 11, ground := Ground.guard }], guard := some (11, false) }) (v := ?_) rfl (by kernel_rfl) (by kernel_rfl) (by kernel_rfl) (fun _ _ _ h => h) (Or.inl ⟨by rfl, ?_⟩) (by assumption) ?_
      rotate_left
      · intro w hSw
        (try dsimp only at hSw)
        first | (go_simp; done) | (go_simp; with_reducible rfl)
      (try simp only [Act.put, List.setIfInBounds_toArray, List.set_cons_zero, List.set_cons_succ])
      refine wpAnyH_take (i := 13) (oi := { dst := some 51, op := Op.load 25 (Operand.tmp 10), type := 25, pos := "laws.go:188", after := #[{ on := 11, ground := Ground.guard }], guard := some (11, false) }) (v := ?_) rfl (by kernel_rfl) (by kernel_rfl) (by kernel_rfl) (fun _ _ _ h => h) (Or.inl ⟨by rfl, ?_⟩) (by assumption) ?_
      rotate_left
      · intro w hSw
        (try dsimp only at hSw)
        first | (go_simp; done) | (go_simp; with_reducible rfl)
      (try simp only [Act.put, List.setIfInBounds_toArray, List.set_cons_zero, List.set_cons_succ])
      refine wpAnyH_take (i := 14) (oi := { dst := some 52, op := Op.binOp BinOp.neq 25 (Operand.tmp 50) (Operand.tmp 51) 25, type := 4, pos := "laws.go:188", after := #[{ on := 12, ground := Ground.data }, { on := 13, ground := Ground.data }, { on := 11, ground := Ground.guard }], guard := some (11, false) }) (v := ?_) rfl (by kernel_rfl) (by kernel_rfl) (by kernel_rfl) (fun _ _ _ h => h) (Or.inl ⟨by rfl, ?_⟩) (by assumption) ?_
      rotate_left
      · intro w hSw
        (try dsimp only at hSw)
        first | (go_simp; done) | (go_simp; with_reducible rfl)
      (try simp only [Act.put, List.setIfInBounds_toArray, List.set_cons_zero, List.set_cons_succ])
      refine wpAnyH_take (i := 15) (oi := { dst := some 53, op := Op.pick (Operand.tmp 49) (Operand.const (Value.bool true)) (Operand.tmp 52), type := 4, pos := "laws.go:188", after := #[{ on := 11, ground := Ground.data }, { on := 14, ground := Ground.data }], guard := none }) (v := ?_) rfl (by kernel_rfl) (by kernel_rfl) (by kernel_rfl) (fun _ _ _ h => h) (Or.inl ⟨by rfl, ?_⟩) (by assumption) ?_
      rotate_left
      · intro w hSw
        (try dsimp only at hSw)
        first | (go_simp; done) | (go_simp; with_reducible rfl)
      (try simp only [Act.put, List.setIfInBounds_toArray, List.set_cons_zero, List.set_cons_succ])
      refine wpAnyH_take (i := 16) (oi := { dst := some 54, op := Op.move (Operand.tmp 53), type := 4, pos := "laws.go:188", after := #[{ on := 15, ground := Ground.data }, { on := 11, ground := Ground.chain }], guard := none }) (v := ?_) rfl (by kernel_rfl) (by kernel_rfl) (by kernel_rfl) (fun _ _ _ h => h) (Or.inl ⟨by rfl, ?_⟩) (by assumption) ?_
      rotate_left
      · intro w hSw
        (try dsimp only at hSw)
        first | (go_simp; done) | (go_simp; with_reducible rfl)
      (try simp only [Act.put, List.setIfInBounds_toArray, List.set_cons_zero, List.set_cons_succ])
      refine wpAnyH_take (i := 17) (oi := { dst := some 55, op := Op.move (Operand.tmp 8), type := 2, pos := "laws.go:188", after := #[{ on := 16, ground := Ground.guard }], guard := some (16, false) }) (v := ?_) rfl (by kernel_rfl) (by kernel_rfl) (by kernel_rfl) (fun _ _ _ h => h) (Or.inl ⟨by rfl, ?_⟩) (by assumption) ?_
      rotate_left
      · intro w hSw
        (try dsimp only at hSw)
        first | (go_simp; done) | (go_simp; with_reducible rfl)
      (try simp only [Act.put, List.setIfInBounds_toArray, List.set_cons_zero, List.set_cons_succ])
      refine wpAnyH_take (i := 18) (oi := { dst := some 56, op := Op.move (Operand.tmp 11), type := 2, pos := "laws.go:188", after := #[{ on := 16, ground := Ground.guard }], guard := some (16, false) }) (v := ?_) rfl (by kernel_rfl) (by kernel_rfl) (by kernel_rfl) (fun _ _ _ h => h) (Or.inl ⟨by rfl, ?_⟩) (by assumption) ?_
      rotate_left
      · intro w hSw
        (try dsimp only at hSw)
        first | (go_simp; done) | (go_simp; with_reducible rfl)
      (try simp only [Act.put, List.setIfInBounds_toArray, List.set_cons_zero, List.set_cons_succ])
      refine wpAnyH_take (i := 19) (oi := { dst := some 57, op := Op.binOp BinOp.neq 2 (Operand.tmp 55) (Operand.tmp 56) 2, type := 4, pos := "laws.go:188", after := #[{ on := 17, ground := Ground.data }, { on := 18, ground := Ground.data }, { on := 16, ground := Ground.guard }], guard := some (16, false) }) (v := ?_) rfl (by kernel_rfl) (by kernel_rfl) (by kernel_rfl) (fun _ _ _ h => h) (Or.inl ⟨by rfl, ?_⟩) (by assumption) ?_
      rotate_left
      · intro w hSw
        (try dsimp only at hSw)
        first | (go_simp; done) | (go_simp; with_reducible rfl)
      (try simp only [Act.put, List.setIfInBounds_toArray, List.set_cons_zero, List.set_cons_succ])
      refine wpAnyH_take (i := 20) (oi := { dst := some 58, op := Op.pick (Operand.tmp 54) (Operand.const (Value.bool true)) (Operand.tmp 57), type := 4, pos := "laws.go:188", after := #[{ on := 16, ground := Ground.data }, { on := 19, ground := Ground.data }], guard := none }) (v := ?_) rfl (by kernel_rfl) (by kernel_rfl) (by kernel_rfl) (fun _ _ _ h => h) (Or.inl ⟨by rfl, ?_⟩) (by assumption) ?_
      rotate_left
      · intro w hSw
        (try dsimp only at hSw)
        first | (go_simp; done) | (go_simp; with_reducible rfl)
      (try simp only [Act.put, List.setIfInBounds_toArray, List.set_cons_zero, List.set_cons_succ])
      refine wpAnyH_take (i := 21) (oi := { dst := some 59, op := Op.move (Operand.tmp 58), type := 4, pos := "laws.go:188", after := #[{ on := 20, ground := Ground.data }, { on := 16, ground := Ground.chain }], guard := none }) (v := ?_) rfl (by kernel_rfl) (by kernel_rfl) (by kernel_rfl) (fun _ _ _ h => h) (Or.inl ⟨by rfl, ?_⟩) (by assumption) ?_
      rotate_left
      · intro w hSw
        (try dsimp only at hSw)
        first | (go_simp; done) | (go_simp; with_reducible rfl)
      (try simp only [Act.put, List.setIfInBounds_toArray, List.set_cons_zero, List.set_cons_succ])
      refine wpAnyH_take (i := 22) (oi := { dst := some 60, op := Op.move (Operand.tmp 9), type := 4, pos := "laws.go:188", after := #[{ on := 21, ground := Ground.guard }], guard := some (21, false) }) (v := ?_) rfl (by kernel_rfl) (by kernel_rfl) (by kernel_rfl) (fun _ _ _ h => h) (Or.inl ⟨by rfl, ?_⟩) (by assumption) ?_
      rotate_left
      · intro w hSw
        (try dsimp only at hSw)
        first | (go_simp; done) | (go_simp; with_reducible rfl)
      (try simp only [Act.put, List.setIfInBounds_toArray, List.set_cons_zero, List.set_cons_succ])
      refine wpAnyH_take (i := 23) (oi := { dst := some 61, op := Op.move (Operand.tmp 12), type := 4, pos := "laws.go:188", after := #[{ on := 21, ground := Ground.guard }], guard := some (21, false) }) (v := ?_) rfl (by kernel_rfl) (by kernel_rfl) (by kernel_rfl) (fun _ _ _ h => h) (Or.inl ⟨by rfl, ?_⟩) (by assumption) ?_
      rotate_left
      · intro w hSw
        (try dsimp only at hSw)
        first | (go_simp; done) | (go_simp; with_reducible rfl)
      (try simp only [Act.put, List.setIfInBounds_toArray, List.set_cons_zero, List.set_cons_succ])
      refine wpAnyH_take (i := 24) (oi := { dst := some 62, op := Op.binOp BinOp.neq 4 (Operand.tmp 60) (Operand.tmp 61) 4, type := 4, pos := "laws.go:188", after := #[{ on := 22, ground := Ground.data }, { on := 23, ground := Ground.data }, { on := 21, ground := Ground.guard }], guard := some (21, false) }) (v := ?_) rfl (by kernel_rfl) (by kernel_rfl) (by kernel_rfl) (fun _ _ _ h => h) (Or.inl ⟨by rfl, ?_⟩) (by assumption) ?_
      rotate_left
      · intro w hSw
        (try dsimp only at hSw)
        first | (go_simp; done) | (go_simp; with_reducible rfl)
      (try simp only [Act.put, List.setIfInBounds_toArray, List.set_cons_zero, List.set_cons_succ])
      refine wpAnyH_take (i := 25) (oi := { dst := some 63, op := Op.pick (Operand.tmp 59) (Operand.const (Value.bool true)) (Operand.tmp 62), type := 4, pos := "laws.go:188", after := #[{ on := 21, ground := Ground.data }, { on := 24, ground := Ground.data }], guard := none }) (v := ?_) rfl (by kernel_rfl) (by kernel_rfl) (by kernel_rfl) (fun _ _ _ h => h) (Or.inl ⟨by rfl, ?_⟩) (by assumption) ?_
      rotate_left
      · intro w hSw
        (try dsimp only at hSw)
        first | (go_simp; done) | (go_simp; with_reducible rfl)
      (try simp only [Act.put, List.setIfInBounds_toArray, List.set_cons_zero, List.set_cons_succ])
      refine wpAnyH_take (i := 26) (oi := { dst := some 64, op := Op.move (Operand.tmp 63), type := 4, pos := "laws.go:188", after := #[{ on := 25, ground := Ground.data }, { on := 21, ground := Ground.chain }], guard := none }) (v := ?_) rfl (by kernel_rfl) (by kernel_rfl) (by kernel_rfl) (fun _ _ _ h => h) (Or.inl ⟨by rfl, ?_⟩) (by assumption) ?_
      rotate_left
      · intro w hSw
        (try dsimp only at hSw)
        first | (go_simp; done) | (go_simp; with_reducible rfl)
      (try simp only [Act.put, List.setIfInBounds_toArray, List.set_cons_zero, List.set_cons_succ])
      refine wpAnyH_take (i := 27) (oi := { dst := some 65, op := Op.move (Operand.tmp 9), type := 4, pos := "laws.go:188", after := #[{ on := 26, ground := Ground.guard }], guard := some (26, false) }) (v := ?_) rfl (by kernel_rfl) (by kernel_rfl) (by kernel_rfl) (fun _ _ _ h => h) (Or.inl ⟨by rfl, ?_⟩) (by assumption) ?_
      rotate_left
      · intro w hSw
        (try dsimp only at hSw)
        first | (go_simp; done) | (go_simp; with_reducible rfl)
      (try simp only [Act.put, List.setIfInBounds_toArray, List.set_cons_zero, List.set_cons_succ])
      refine wpAnyH_take (i := 28) (oi := { dst := some 66, op := Op.move (Operand.tmp 65), type := 4, pos := "laws.go:188", after := #[{ on := 27, ground := Ground.data }, { on := 26, ground := Ground.chain }, { on := 26, ground := Ground.guard }], guard := some (26, false) }) (v := ?_) rfl (by kernel_rfl) (by kernel_rfl) (by kernel_rfl) (fun _ _ _ h => h) (Or.inl ⟨by rfl, ?_⟩) (by assumption) ?_
      rotate_left
      · intro w hSw
        (try dsimp only at hSw)
        first | (go_simp; done) | (go_simp; with_reducible rfl)
      (try simp only [Act.put, List.setIfInBounds_toArray, List.set_cons_zero, List.set_cons_succ])
      refine wpAnyH_take (i := 29) (oi := { dst := some 67, op := Op.load 25 (Operand.tmp 7), type := 25, pos := "laws.go:188", after := #[{ on := 28, ground := Ground.guard }], guard := some (28, true) }) (v := ?_) rfl (by kernel_rfl) (by kernel_rfl) (by kernel_rfl) (fun _ _ _ h => h) (Or.inl ⟨by rfl, ?_⟩) (by assumption) ?_
      rotate_left
      · intro w hSw
        (try dsimp only at hSw)
        first | (go_simp; done) | (go_simp; with_reducible rfl)
      (try simp only [Act.put, List.setIfInBounds_toArray, List.set_cons_zero, List.set_cons_succ])
      refine wpAnyH_take (i := 31) (oi := { dst := some 69, op := Op.move (Operand.tmp 6), type := 9, pos := "laws.go:188", after := #[{ on := 28, ground := Ground.guard }], guard := some (28, true) }) (v := ?_) rfl (by kernel_rfl) (by kernel_rfl) (by kernel_rfl) (fun _ _ _ h => h) (Or.inl ⟨by rfl, ?_⟩) (by assumption) ?_
      rotate_left
      · intro w hSw
        (try dsimp only at hSw)
        first | (go_simp; done) | (go_simp; with_reducible rfl)
      (try simp only [Act.put, List.setIfInBounds_toArray, List.set_cons_zero, List.set_cons_succ])
      refine wpAnyH_take (i := 32) (oi := { dst := some 70, op := Op.move (Operand.tmp 8), type := 2, pos := "laws.go:188", after := #[{ on := 28, ground := Ground.guard }], guard := some (28, true) }) (v := ?_) rfl (by kernel_rfl) (by kernel_rfl) (by kernel_rfl) (fun _ _ _ h => h) (Or.inl ⟨by rfl, ?_⟩) (by assumption) ?_
      rotate_left
      · intro w hSw
        (try dsimp only at hSw)
        first | (go_simp; done) | (go_simp; with_reducible rfl)
      (try simp only [Act.put, List.setIfInBounds_toArray, List.set_cons_zero, List.set_cons_succ])
      refine wpAnyH_take (i := 33) (oi := { dst := some 71, op := Op.slice 9 (Operand.tmp 69) none (some (Operand.tmp 70)) none, type := 9, pos := "laws.go:188", after := #[{ on := 31, ground := Ground.data }, { on := 32, ground := Ground.data }, { on := 28, ground := Ground.guard }], guard := some (28, true) }) (v := ?_) rfl (by kernel_rfl) (by kernel_rfl) (by kernel_rfl) (fun _ _ _ h => h) (Or.inl ⟨by rfl, ?_⟩) (by assumption) ?_
      rotate_left
      · intro w hSw
        (try dsimp only at hSw)
        first | (go_simp; done) | (go_simp; with_reducible rfl)
      (try simp only [Act.put, List.setIfInBounds_toArray, List.set_cons_zero, List.set_cons_succ])
      refine wpAnyH_ready (rs := [30]) (by kernel_rfl) (by simp) ?_
      refine AllReadyH.cons (o := { dst := some 68, op := Op.call { callee := Callee.value (Operand.func 6), args := #[Operand.tmp 67], argTypes := #[25] }, type := 9, pos := "laws.go:188", after := #[{ on := 29, ground := Ground.data }, { on := 28, ground := Ground.chain }, { on := 28, ground := Ground.guard }], guard := some (28, true) }) rfl (fun K hK => ?_) AllReadyH.nil
      go_simp
      go_at_call 6
      refine (HV.out _).mono ?_
      rintro e y4 ⟨rfl, hb4⟩
      have hS4 : y4.cell? ⟨bo, 0, none⟩ = some (.int .i64 dev) ∧ y4.cell? ⟨bo, 1, none⟩ = some (.int .i64 seq) ∧ y4.cell? ⟨bo, 2, none⟩ = some (.int .i64 stamp) ∧ y4.cell? ⟨bo, 3, none⟩ = some (.int .i64 kind) ∧ y4.cell? ⟨bo, 4, none⟩ = some (.string item) ∧ y4.cell? ⟨bo, 5, none⟩ = some (.int .i64 qty) ∧ y4.cell? ⟨bo, 6, none⟩ = some (.int .i64 level) ∧ y4.cell? ⟨bo, 7, none⟩ = some (.int .i64 undos) ∧ y4.cell? ⟨bx, 0, none⟩ = some (.int .i64 dev1) ∧ y4.cell? ⟨bx, 1, none⟩ = some (.int .i64 seq1) ∧ y4.cell? ⟨bx, 2, none⟩ = some (.int .i64 stamp1) ∧ y4.cell? ⟨bx, 3, none⟩ = some (.int .i64 kind1) ∧ y4.cell? ⟨bx, 4, none⟩ = some (.string item1) ∧ y4.cell? ⟨bx, 5, none⟩ = some (.int .i64 qty1) ∧ y4.cell? ⟨bx, 6, none⟩ = some (.int .i64 level1) ∧ y4.cell? ⟨bx, 7, none⟩ = some (.int .i64 undos1) ∧ y4.cell? ⟨bY, 0, none⟩ = some (.int .i64 dev3) ∧ y4.cell? ⟨bY, 1, none⟩ = some (.int .i64 seq3) ∧ y4.cell? ⟨bY, 2, none⟩ = some (.int .i64 stamp3) ∧ y4.cell? ⟨bY, 3, none⟩ = some (.int .i64 kind3) ∧ y4.cell? ⟨bY, 4, none⟩ = some (.string item3) ∧ y4.cell? ⟨bY, 5, none⟩ = some (.int .i64 qty3) ∧ y4.cell? ⟨bY, 6, none⟩ = some (.int .i64 level3) ∧ y4.cell? ⟨bY, 7, none⟩ = some (.int .i64 undos3) ∧ y4.cell? ⟨bz, 0, none⟩ = some (.int .i64 dev3) ∧ y4.cell? ⟨bz, 1, none⟩ = some (.int .i64 seq3) ∧ y4.cell? ⟨bz, 2, none⟩ = some (.int .i64 stamp3) ∧ y4.cell? ⟨bz, 3, none⟩ = some (.int .i64 kind3) ∧ y4.cell? ⟨bz, 4, none⟩ = some (.string item3) ∧ y4.cell? ⟨bz, 5, none⟩ = some (.int .i64 qty3) ∧ y4.cell? ⟨bz, 6, none⟩ = some (.int .i64 level3) ∧ y4.cell? ⟨bz, 7, none⟩ = some (.int .i64 undos3) := by
          obtain ⟨q0, q1, q2, q3, q4, q5, q6, q7, q8, q9, q10, q11, q12, q13, q14, q15, q16, q17, q18, q19, q20, q21, q22, q23, q24, q25, q26, q27, q28, q29, q30, q31⟩ := hS3
          exact ⟨(hb4.cell (block_lt_of_cell q0)).trans q0, (hb4.cell (block_lt_of_cell q1)).trans q1, (hb4.cell (block_lt_of_cell q2)).trans q2, (hb4.cell (block_lt_of_cell q3)).trans q3, (hb4.cell (block_lt_of_cell q4)).trans q4, (hb4.cell (block_lt_of_cell q5)).trans q5, (hb4.cell (block_lt_of_cell q6)).trans q6, (hb4.cell (block_lt_of_cell q7)).trans q7, (hb4.cell (block_lt_of_cell q8)).trans q8, (hb4.cell (block_lt_of_cell q9)).trans q9, (hb4.cell (block_lt_of_cell q10)).trans q10, (hb4.cell (block_lt_of_cell q11)).trans q11, (hb4.cell (block_lt_of_cell q12)).trans q12, (hb4.cell (block_lt_of_cell q13)).trans q13, (hb4.cell (block_lt_of_cell q14)).trans q14, (hb4.cell (block_lt_of_cell q15)).trans q15, (hb4.cell (block_lt_of_cell q16)).trans q16, (hb4.cell (block_lt_of_cell q17)).trans q17, (hb4.cell (block_lt_of_cell q18)).trans q18, (hb4.cell (block_lt_of_cell q19)).trans q19, (hb4.cell (block_lt_of_cell q20)).trans q20, (hb4.cell (block_lt_of_cell q21)).trans q21, (hb4.cell (block_lt_of_cell q22)).trans q22, (hb4.cell (block_lt_of_cell q23)).trans q23, (hb4.cell (block_lt_of_cell q24)).trans q24, (hb4.cell (block_lt_of_cell q25)).trans q25, (hb4.cell (block_lt_of_cell q26)).trans q26, (hb4.cell (block_lt_of_cell q27)).trans q27, (hb4.cell (block_lt_of_cell q28)).trans q28, (hb4.cell (block_lt_of_cell q29)).trans q29, (hb4.cell (block_lt_of_cell q30)).trans q30, (hb4.cell (block_lt_of_cell q31)).trans q31⟩
      refine hK.out _ _ hS4 (fun hHeld5 => ?_)
      clear hK K
      (try simp only [Act.put, List.setIfInBounds_toArray, List.set_cons_zero, List.set_cons_succ])
      refine wpAnyH_take (i := 34) (oi := { dst := some 72, op := Op.binOp BinOp.neq 9 (Operand.tmp 68) (Operand.tmp 71) 9, type := 4, pos := "laws.go:188", after := #[{ on := 30, ground := Ground.data }, { on := 33, ground := Ground.data }, { on := 28, ground := Ground.guard }], guard := some (28, true) }) (v := ?_) rfl (by kernel_rfl) (by kernel_rfl) (by kernel_rfl) (fun _ _ _ h => h) (Or.inl ⟨by rfl, ?_⟩) (by assumption) ?_
      rotate_left
      · intro w hSw
        (try dsimp only at hSw)
        first | (go_simp; done) | (go_simp; with_reducible rfl)
      (try simp only [Act.put, List.setIfInBounds_toArray, List.set_cons_zero, List.set_cons_succ])
      refine wpAnyH_take (i := 35) (oi := { dst := some 73, op := Op.pick (Operand.tmp 66) (Operand.tmp 72) (Operand.const (Value.bool false)), type := 4, pos := "laws.go:188", after := #[{ on := 28, ground := Ground.data }, { on := 34, ground := Ground.data }, { on := 26, ground := Ground.guard }], guard := some (26, false) }) (v := ?_) rfl (by kernel_rfl) (by kernel_rfl) (by kernel_rfl) (fun _ _ _ h => h) (Or.inl ⟨by rfl, ?_⟩) (by assumption) ?_
      rotate_left
      · intro w hSw
        (try dsimp only at hSw)
        first | (go_simp; done) | (go_simp; with_reducible rfl)
      (try simp only [Act.put, List.setIfInBounds_toArray, List.set_cons_zero, List.set_cons_succ])
      refine wpAnyH_take (i := 36) (oi := { dst := some 74, op := Op.pick (Operand.tmp 64) (Operand.const (Value.bool true)) (Operand.tmp 73), type := 4, pos := "laws.go:188", after := #[{ on := 26, ground := Ground.data }, { on := 35, ground := Ground.data }], guard := none }) (v := ?_) rfl (by kernel_rfl) (by kernel_rfl) (by kernel_rfl) (fun _ _ _ h => h) (Or.inl ⟨by rfl, ?_⟩) (by assumption) ?_
      rotate_left
      · intro w hSw
        (try dsimp only at hSw)
        first | (go_simp; done) | (go_simp; with_reducible rfl)
      (try simp only [Act.put, List.setIfInBounds_toArray, List.set_cons_zero, List.set_cons_succ])
      refine wpAnyH_take (i := 37) (oi := { dst := some 75, op := Op.move (Operand.tmp 74), type := 4, pos := "laws.go:188", after := #[{ on := 36, ground := Ground.data }, { on := 30, ground := Ground.chain }], guard := none }) (v := ?_) rfl (by kernel_rfl) (by kernel_rfl) (by kernel_rfl) (fun _ _ _ h => h) (Or.inl ⟨by rfl, ?_⟩) (by assumption) ?_
      rotate_left
      · intro w hSw
        (try dsimp only at hSw)
        first | (go_simp; done) | (go_simp; with_reducible rfl)
      (try simp only [Act.put, List.setIfInBounds_toArray, List.set_cons_zero, List.set_cons_succ])
      refine wpAnyH_take (i := 38) (oi := { dst := some 76, op := Op.load 25 (Operand.tmp 3), type := 25, pos := "laws.go:188", after := #[{ on := 37, ground := Ground.guard }], guard := some (37, false) }) (v := ?_) rfl (by kernel_rfl) (by kernel_rfl) (by kernel_rfl) (fun _ _ _ h => h) (Or.inl ⟨by rfl, ?_⟩) (by assumption) ?_
      rotate_left
      · intro w hSw
        (try dsimp only at hSw)
        first | (go_simp; done) | (go_simp; with_reducible rfl)
      (try simp only [Act.put, List.setIfInBounds_toArray, List.set_cons_zero, List.set_cons_succ])
      refine wpAnyH_take (i := 40) (oi := { dst := some 78, op := Op.move (Operand.tmp 4), type := 9, pos := "laws.go:188", after := #[{ on := 37, ground := Ground.guard }], guard := some (37, false) }) (v := ?_) rfl (by kernel_rfl) (by kernel_rfl) (by kernel_rfl) (fun _ _ _ h => h) (Or.inl ⟨by rfl, ?_⟩) (by assumption) ?_
      rotate_left
      · intro w hSw
        (try dsimp only at hSw)
        first | (go_simp; done) | (go_simp; with_reducible rfl)
      (try simp only [Act.put, List.setIfInBounds_toArray, List.set_cons_zero, List.set_cons_succ])
      refine wpAnyH_take (i := 41) (oi := { dst := some 79, op := Op.binOp BinOp.neq 9 (Operand.tmp 78) (Operand.const (Value.string { data := #[] })) 9, type := 4, pos := "laws.go:188", after := #[{ on := 40, ground := Ground.data }, { on := 37, ground := Ground.guard }], guard := some (37, false) }) (v := ?_) rfl (by kernel_rfl) (by kernel_rfl) (by kernel_rfl) (fun _ _ _ h => h) (Or.inl ⟨by rfl, ?_⟩) (by assumption) ?_
      rotate_left
      · intro w hSw
        (try dsimp only at hSw)
        first | (go_simp; done) | (go_simp; with_reducible rfl)
      (try simp only [Act.put, List.setIfInBounds_toArray, List.set_cons_zero, List.set_cons_succ])
      refine wpAnyH_ready (rs := [39]) (by kernel_rfl) (by simp) ?_
      refine AllReadyH.cons (o := { dst := some 77, op := Op.call { callee := Callee.value (Operand.func 12), args := #[Operand.tmp 76], argTypes := #[25] }, type := 4, pos := "laws.go:188", after := #[{ on := 38, ground := Ground.data }, { on := 37, ground := Ground.chain }, { on := 37, ground := Ground.guard }], guard := some (37, false) }) rfl (fun K hK => ?_) AllReadyH.nil
      go_simp
      go_at_call 12
      refine (HOk.out _).mono ?_
      rintro e y5 ⟨rfl, hb5⟩
      have hS5 : y5.cell? ⟨bo, 0, none⟩ = some (.int .i64 dev) ∧ y5.cell? ⟨bo, 1, none⟩ = some (.int .i64 seq) ∧ y5.cell? ⟨bo, 2, none⟩ = some (.int .i64 stamp) ∧ y5.cell? ⟨bo, 3, none⟩ = some (.int .i64 kind) ∧ y5.cell? ⟨bo, 4, none⟩ = some (.string item) ∧ y5.cell? ⟨bo, 5, none⟩ = some (.int .i64 qty) ∧ y5.cell? ⟨bo, 6, none⟩ = some (.int .i64 level) ∧ y5.cell? ⟨bo, 7, none⟩ = some (.int .i64 undos) ∧ y5.cell? ⟨bx, 0, none⟩ = some (.int .i64 dev1) ∧ y5.cell? ⟨bx, 1, none⟩ = some (.int .i64 seq1) ∧ y5.cell? ⟨bx, 2, none⟩ = some (.int .i64 stamp1) ∧ y5.cell? ⟨bx, 3, none⟩ = some (.int .i64 kind1) ∧ y5.cell? ⟨bx, 4, none⟩ = some (.string item1) ∧ y5.cell? ⟨bx, 5, none⟩ = some (.int .i64 qty1) ∧ y5.cell? ⟨bx, 6, none⟩ = some (.int .i64 level1) ∧ y5.cell? ⟨bx, 7, none⟩ = some (.int .i64 undos1) ∧ y5.cell? ⟨bY, 0, none⟩ = some (.int .i64 dev3) ∧ y5.cell? ⟨bY, 1, none⟩ = some (.int .i64 seq3) ∧ y5.cell? ⟨bY, 2, none⟩ = some (.int .i64 stamp3) ∧ y5.cell? ⟨bY, 3, none⟩ = some (.int .i64 kind3) ∧ y5.cell? ⟨bY, 4, none⟩ = some (.string item3) ∧ y5.cell? ⟨bY, 5, none⟩ = some (.int .i64 qty3) ∧ y5.cell? ⟨bY, 6, none⟩ = some (.int .i64 level3) ∧ y5.cell? ⟨bY, 7, none⟩ = some (.int .i64 undos3) ∧ y5.cell? ⟨bz, 0, none⟩ = some (.int .i64 dev3) ∧ y5.cell? ⟨bz, 1, none⟩ = some (.int .i64 seq3) ∧ y5.cell? ⟨bz, 2, none⟩ = some (.int .i64 stamp3) ∧ y5.cell? ⟨bz, 3, none⟩ = some (.int .i64 kind3) ∧ y5.cell? ⟨bz, 4, none⟩ = some (.string item3) ∧ y5.cell? ⟨bz, 5, none⟩ = some (.int .i64 qty3) ∧ y5.cell? ⟨bz, 6, none⟩ = some (.int .i64 level3) ∧ y5.cell? ⟨bz, 7, none⟩ = some (.int .i64 undos3) := by
          obtain ⟨q0, q1, q2, q3, q4, q5, q6, q7, q8, q9, q10, q11, q12, q13, q14, q15, q16, q17, q18, q19, q20, q21, q22, q23, q24, q25, q26, q27, q28, q29, q30, q31⟩ := hS4
          exact ⟨(hb5.cell (block_lt_of_cell q0)).trans q0, (hb5.cell (block_lt_of_cell q1)).trans q1, (hb5.cell (block_lt_of_cell q2)).trans q2, (hb5.cell (block_lt_of_cell q3)).trans q3, (hb5.cell (block_lt_of_cell q4)).trans q4, (hb5.cell (block_lt_of_cell q5)).trans q5, (hb5.cell (block_lt_of_cell q6)).trans q6, (hb5.cell (block_lt_of_cell q7)).trans q7, (hb5.cell (block_lt_of_cell q8)).trans q8, (hb5.cell (block_lt_of_cell q9)).trans q9, (hb5.cell (block_lt_of_cell q10)).trans q10, (hb5.cell (block_lt_of_cell q11)).trans q11, (hb5.cell (block_lt_of_cell q12)).trans q12, (hb5.cell (block_lt_of_cell q13)).trans q13, (hb5.cell (block_lt_of_cell q14)).trans q14, (hb5.cell (block_lt_of_cell q15)).trans q15, (hb5.cell (block_lt_of_cell q16)).trans q16, (hb5.cell (block_lt_of_cell q17)).trans q17, (hb5.cell (block_lt_of_cell q18)).trans q18, (hb5.cell (block_lt_of_cell q19)).trans q19, (hb5.cell (block_lt_of_cell q20)).trans q20, (hb5.cell (block_lt_of_cell q21)).trans q21, (hb5.cell (block_lt_of_cell q22)).trans q22, (hb5.cell (block_lt_of_cell q23)).trans q23, (hb5.cell (block_lt_of_cell q24)).trans q24, (hb5.cell (block_lt_of_cell q25)).trans q25, (hb5.cell (block_lt_of_cell q26)).trans q26, (hb5.cell (block_lt_of_cell q27)).trans q27, (hb5.cell (block_lt_of_cell q28)).trans q28, (hb5.cell (block_lt_of_cell q29)).trans q29, (hb5.cell (block_lt_of_cell q30)).trans q30, (hb5.cell (block_lt_of_cell q31)).trans q31⟩
      refine hK.out _ _ hS5 (fun hHeld6 => ?_)
      clear hK K
      (try simp only [Act.put, List.setIfInBounds_toArray, List.set_cons_zero, List.set_cons_succ])
      refine wpAnyH_take (i := 42) (oi := { dst := some 80, op := Op.binOp BinOp.neq 4 (Operand.tmp 77) (Operand.tmp 79) 4, type := 4, pos := "laws.go:188", after := #[{ on := 39, ground := Ground.data }, { on := 41, ground := Ground.data }, { on := 37, ground := Ground.guard }], guard := some (37, false) }) (v := ?_) rfl (by kernel_rfl) (by kernel_rfl) (by kernel_rfl) (fun _ _ _ h => h) (Or.inl ⟨by rfl, ?_⟩) (by assumption) ?_
      rotate_left
      · intro w hSw
        (try dsimp only at hSw)
        first | (go_simp; done) | (go_simp; with_reducible rfl)
      (try simp only [Act.put, List.setIfInBounds_toArray, List.set_cons_zero, List.set_cons_succ])
      refine wpAnyH_take (i := 43) (oi := { dst := some 81, op := Op.pick (Operand.tmp 75) (Operand.const (Value.bool true)) (Operand.tmp 80), type := 4, pos := "laws.go:188", after := #[{ on := 37, ground := Ground.data }, { on := 42, ground := Ground.data }], guard := none }) (v := ?_) rfl (by kernel_rfl) (by kernel_rfl) (by kernel_rfl) (fun _ _ _ h => h) (Or.inl ⟨by rfl, ?_⟩) (by assumption) ?_
      rotate_left
      · intro w hSw
        (try dsimp only at hSw)
        first | (go_simp; done) | (go_simp; with_reducible rfl)
      (try simp only [Act.put, List.setIfInBounds_toArray, List.set_cons_zero, List.set_cons_succ])
      refine wpAnyH_done (by kernel_rfl) ?_ _
      have B1 : Below w.heap.size w y1 := HB10.out.trans ((Below.mk hb1.os hb1.tape hb1.output hb1.size hb1.block : Below w10.heap.size w10 y1).mono HB10.out.size)
      have B2 := B1.trans (hb2.mono B1.size)
      have B3 := B2.trans (hb3.mono B2.size)
      have B4 := B3.trans (hb4.mono B3.size)
      have HB := Lib.hid (B4.trans (hb5.mono B4.size))
      clear B4
      have HXo : Hid (y5.heap[bo]? = some (.cells #[.int .i64 dev, .int .i64 seq, .int .i64 stamp, .int .i64 kind, .string item, .int .i64 qty, .int .i64 level, .int .i64 undos] 25 (0, 0))) := by
        have z := HXbo10.out
        have l0 := (Array.getElem?_eq_some_iff.1 z).1
        have z1 := (hb1.block _ l0).trans z
        have z2 := (hb2.block _ (Array.getElem?_eq_some_iff.1 z1).1).trans z1
        have z3 := (hb3.block _ (Array.getElem?_eq_some_iff.1 z2).1).trans z2
        have z4 := (hb4.block _ (Array.getElem?_eq_some_iff.1 z3).1).trans z3
        exact (hb5.block _ (Array.getElem?_eq_some_iff.1 z4).1).trans z4
      clear B1 B2 B3 hb1 hb2 hb3 hb5 hS0 hS1 hS2 hS3 hS4 hS5 hHeld
      have hback := HBk.out (by first | exact rfl | trivial)
      have HBa := Lib.hid hback
      clear hback
      have hst : (s ++ t).size = s.size + t.size := ByteArray.size_append
      go_wp2_with fail
      refine (implReadOp (s ++ t) y5 u x (by omega) (HE.out.below HB.out)).mono ?_
      rintro e w11 ⟨hb, ⟨dev4, seq4, stamp4, kind4, item4, qty4, level4, undos4, k4, his4, rfl⟩ | ⟨hno4, rfl⟩⟩
      rotate_left
      · exact absurd HBa.out (hno4 _ _ _ _ _ _ _ _ _)
      obtain ⟨rfl, rfl, rfl, rfl, rfl, rfl, rfl, rfl, rfl⟩ := HBa.out.eq his4
      clear his4 HBa
      have HB11 := Lib.hid (HB.out.trans (hb.mono HB.out.size))
      have HXo11 := Lib.hid ((hb.block _ (Array.getElem?_eq_some_iff.1 HXo.out).1).trans HXo.out)
      clear hb HB HXo
      obtain ⟨c0, c1, c2, c3, c4, c5, c6, c7⟩ := op_cells HXo11.out
      have hlen : ((s.size : Int) == (s.size : Int)) = true := beq_self_eq_true _
      have hlo := (Array.getElem?_eq_some_iff.1 HXo11.out).1
      go_upto_region 14 with fail
      have hxb := boxAt (Below.refl _ (w11.alloc (.cells #[.int .i64 dev4, .int .i64 seq4, .int .i64 stamp4, .int .i64 kind4, .string item4, .int .i64 qty4, .int .i64 level4, .int .i64 undos4] 25)))
      have HB12 := Lib.hid (HB11.out.alloc HB11.out.size (.cells #[.int .i64 dev4, .int .i64 seq4, .int .i64 stamp4, .int .i64 kind4, .string item4, .int .i64 qty4, .int .i64 level4, .int .i64 undos4] 25))
      have HXo12 := Lib.hid ((Below.heap_alloc w11 (.cells #[.int .i64 dev4, .int .i64 seq4, .int .i64 stamp4, .int .i64 kind4, .string item4, .int .i64 qty4, .int .i64 level4, .int .i64 undos4] 25) bo hlo).trans HXo11.out)
      generalize w11.alloc (.cells #[.int .i64 dev4, .int .i64 seq4, .int .i64 stamp4, .int .i64 kind4, .string item4, .int .i64 qty4, .int .i64 level4, .int .i64 undos4] 25) = w12 at hxb HB12 HXo12 ⊢
      generalize w11.heap.size = bq at hxb ⊢
      clear c0 c1 c2 c3 c4 c5 c6 c7 hlo HXo11 HB11
      obtain ⟨c0, c1, c2, c3, c4, c5, c6, c7⟩ := op_cells HXo12.out
      obtain ⟨d0, d1, d2, d3, d4, d5, d6, d7⟩ := op_cells hxb
      go_wp2
      go_ret
      exact ⟨rfl, HB12.out⟩
  · have HNo := Lib.hid hno
    clear hno
    have HB7 := Lib.hid (HB6.out.trans (hb.mono HB6.out.size))
    have HXbo7 := Lib.hid ((hb.block _ (Array.getElem?_eq_some_iff.1 HXbo6.out).1).trans HXbo6.out)
    have HXbx7 := Lib.hid ((hb.block _ (Array.getElem?_eq_some_iff.1 HXbx6.out).1).trans HXbx6.out)
    clear hb HB6 HXbo6 HXbx6
    go_upto_region 8 with fail
    have hxb := boxAt (Below.refl _ (w7.alloc (.cells #[.int .i64 0, .int .i64 0, .int .i64 0, .int .i64 0, .string ⟨#[]⟩, .int .i64 0, .int .i64 0, .int .i64 0] 25)))
    have HB8 := Lib.hid (HB7.out.alloc HB7.out.size (.cells #[.int .i64 0, .int .i64 0, .int .i64 0, .int .i64 0, .string ⟨#[]⟩, .int .i64 0, .int .i64 0, .int .i64 0] 25))
    have HXbo8 := Lib.hid ((Below.heap_alloc w7 (.cells #[.int .i64 0, .int .i64 0, .int .i64 0, .int .i64 0, .string ⟨#[]⟩, .int .i64 0, .int .i64 0, .int .i64 0] 25) bo (Array.getElem?_eq_some_iff.1 HXbo7.out).1).trans HXbo7.out)
    have HXbx8 := Lib.hid ((Below.heap_alloc w7 (.cells #[.int .i64 0, .int .i64 0, .int .i64 0, .int .i64 0, .string ⟨#[]⟩, .int .i64 0, .int .i64 0, .int .i64 0] 25) bx (Array.getElem?_eq_some_iff.1 HXbx7.out).1).trans HXbx7.out)
    generalize w7.alloc (.cells #[.int .i64 0, .int .i64 0, .int .i64 0, .int .i64 0, .string ⟨#[]⟩, .int .i64 0, .int .i64 0, .int .i64 0] 25) = w8 at hxb HB8 HXbo8 HXbx8 ⊢
    generalize w7.heap.size = bY at hxb ⊢
    have HXbY8 := Lib.hid hxb
    clear hxb HB7 HXbo7 HXbx7
    go_wp2_with fail
    refine (specReadOp t (by omega) w8).mono ?_
    rintro e w9 ⟨hb, ⟨dev3, seq3, stamp3, kind3, item3, qty3, level3, undos3, k', his', rfl⟩ | ⟨hno', rfl⟩⟩
    · exact absurd his' (HNo.out _ _ _ _ _ _ _ _ _)
    clear hno'
    have HB9 := Lib.hid (HB8.out.trans (hb.mono HB8.out.size))
    have HXbo9 := Lib.hid ((hb.block _ (Array.getElem?_eq_some_iff.1 HXbo8.out).1).trans HXbo8.out)
    have HXbx9 := Lib.hid ((hb.block _ (Array.getElem?_eq_some_iff.1 HXbx8.out).1).trans HXbx8.out)
    have HXbY9 := Lib.hid ((hb.block _ (Array.getElem?_eq_some_iff.1 HXbY8.out).1).trans HXbY8.out)
    clear hb HB8 HXbo8 HXbx8 HXbY8
    go_upto_region 9 with fail
    have hxb := boxAt (Below.refl _ (w9.alloc (.cells #[.int .i64 0, .int .i64 0, .int .i64 0, .int .i64 0, .string ⟨#[]⟩, .int .i64 0, .int .i64 0, .int .i64 0] 25)))
    have HB10 := Lib.hid (HB9.out.alloc HB9.out.size (.cells #[.int .i64 0, .int .i64 0, .int .i64 0, .int .i64 0, .string ⟨#[]⟩, .int .i64 0, .int .i64 0, .int .i64 0] 25))
    have HXbo10 := Lib.hid ((Below.heap_alloc w9 (.cells #[.int .i64 0, .int .i64 0, .int .i64 0, .int .i64 0, .string ⟨#[]⟩, .int .i64 0, .int .i64 0, .int .i64 0] 25) bo (Array.getElem?_eq_some_iff.1 HXbo9.out).1).trans HXbo9.out)
    have HXbx10 := Lib.hid ((Below.heap_alloc w9 (.cells #[.int .i64 0, .int .i64 0, .int .i64 0, .int .i64 0, .string ⟨#[]⟩, .int .i64 0, .int .i64 0, .int .i64 0] 25) bx (Array.getElem?_eq_some_iff.1 HXbx9.out).1).trans HXbx9.out)
    have HXbY10 := Lib.hid ((Below.heap_alloc w9 (.cells #[.int .i64 0, .int .i64 0, .int .i64 0, .int .i64 0, .string ⟨#[]⟩, .int .i64 0, .int .i64 0, .int .i64 0] 25) bY (Array.getElem?_eq_some_iff.1 HXbY9.out).1).trans HXbY9.out)
    generalize w9.alloc (.cells #[.int .i64 0, .int .i64 0, .int .i64 0, .int .i64 0, .string ⟨#[]⟩, .int .i64 0, .int .i64 0, .int .i64 0] 25) = w10 at hxb HB10 HXbo10 HXbx10 HXbY10 ⊢
    generalize w9.heap.size = bz at hxb ⊢
    have HXbz10 := Lib.hid hxb
    clear hxb HB9 HXbo9 HXbx9 HXbY9
    have hss : (s.toList == s.toList) = true := beq_self_eq_true _
    have HO1 := Lib.hid (fun w => implOpOk dev1 seq1 stamp1 kind1 item1 qty1 level1 undos1 w)
    have HO2 := Lib.hid (fun w => specOpOk dev1 seq1 stamp1 kind1 item1 qty1 level1 undos1 w (by omega))
    generalize opB dev1 seq1 stamp1 kind1 item1 qty1 level1 undos1 = ob1 at HO1 HO2
    have hq1 : (ob1 != ob1) = false := bne_self_eq_false _
    have HCs := Lib.hid (opT_cases dev seq stamp kind item qty level undos)
    have HBk : Hid (opB dev seq stamp kind item qty level undos = true → OpIs (s ++ t) 0 dev seq stamp kind item qty level undos s.size) := fun h => by rw [← HTs.out]; exact op_back2 h t
    rw [HTs.out] at HCs
    generalize opB dev seq stamp kind item qty level undos = ob at HCs HOk HBk
    have hS0 : w10.drew.cell? ⟨bo, 0, none⟩ = some (.int .i64 dev) ∧ w10.drew.cell? ⟨bo, 1, none⟩ = some (.int .i64 seq) ∧ w10.drew.cell? ⟨bo, 2, none⟩ = some (.int .i64 stamp) ∧ w10.drew.cell? ⟨bo, 3, none⟩ = some (.int .i64 kind) ∧ w10.drew.cell? ⟨bo, 4, none⟩ = some (.string item) ∧ w10.drew.cell? ⟨bo, 5, none⟩ = some (.int .i64 qty) ∧ w10.drew.cell? ⟨bo, 6, none⟩ = some (.int .i64 level) ∧ w10.drew.cell? ⟨bo, 7, none⟩ = some (.int .i64 undos) ∧ w10.drew.cell? ⟨bx, 0, none⟩ = some (.int .i64 dev1) ∧ w10.drew.cell? ⟨bx, 1, none⟩ = some (.int .i64 seq1) ∧ w10.drew.cell? ⟨bx, 2, none⟩ = some (.int .i64 stamp1) ∧ w10.drew.cell? ⟨bx, 3, none⟩ = some (.int .i64 kind1) ∧ w10.drew.cell? ⟨bx, 4, none⟩ = some (.string item1) ∧ w10.drew.cell? ⟨bx, 5, none⟩ = some (.int .i64 qty1) ∧ w10.drew.cell? ⟨bx, 6, none⟩ = some (.int .i64 level1) ∧ w10.drew.cell? ⟨bx, 7, none⟩ = some (.int .i64 undos1) ∧ w10.drew.cell? ⟨bY, 0, none⟩ = some (.int .i64 0) ∧ w10.drew.cell? ⟨bY, 1, none⟩ = some (.int .i64 0) ∧ w10.drew.cell? ⟨bY, 2, none⟩ = some (.int .i64 0) ∧ w10.drew.cell? ⟨bY, 3, none⟩ = some (.int .i64 0) ∧ w10.drew.cell? ⟨bY, 4, none⟩ = some (.string ⟨#[]⟩) ∧ w10.drew.cell? ⟨bY, 5, none⟩ = some (.int .i64 0) ∧ w10.drew.cell? ⟨bY, 6, none⟩ = some (.int .i64 0) ∧ w10.drew.cell? ⟨bY, 7, none⟩ = some (.int .i64 0) ∧ w10.drew.cell? ⟨bz, 0, none⟩ = some (.int .i64 0) ∧ w10.drew.cell? ⟨bz, 1, none⟩ = some (.int .i64 0) ∧ w10.drew.cell? ⟨bz, 2, none⟩ = some (.int .i64 0) ∧ w10.drew.cell? ⟨bz, 3, none⟩ = some (.int .i64 0) ∧ w10.drew.cell? ⟨bz, 4, none⟩ = some (.string ⟨#[]⟩) ∧ w10.drew.cell? ⟨bz, 5, none⟩ = some (.int .i64 0) ∧ w10.drew.cell? ⟨bz, 6, none⟩ = some (.int .i64 0) ∧ w10.drew.cell? ⟨bz, 7, none⟩ = some (.int .i64 0) := ⟨cell_of_row w10 bo 0 _ _ _ HXbo10.out, cell_of_row w10 bo 1 _ _ _ HXbo10.out, cell_of_row w10 bo 2 _ _ _ HXbo10.out, cell_of_row w10 bo 3 _ _ _ HXbo10.out, cell_of_row w10 bo 4 _ _ _ HXbo10.out, cell_of_row w10 bo 5 _ _ _ HXbo10.out, cell_of_row w10 bo 6 _ _ _ HXbo10.out, cell_of_row w10 bo 7 _ _ _ HXbo10.out, cell_of_row w10 bx 0 _ _ _ HXbx10.out, cell_of_row w10 bx 1 _ _ _ HXbx10.out, cell_of_row w10 bx 2 _ _ _ HXbx10.out, cell_of_row w10 bx 3 _ _ _ HXbx10.out, cell_of_row w10 bx 4 _ _ _ HXbx10.out, cell_of_row w10 bx 5 _ _ _ HXbx10.out, cell_of_row w10 bx 6 _ _ _ HXbx10.out, cell_of_row w10 bx 7 _ _ _ HXbx10.out, cell_of_row w10 bY 0 _ _ _ HXbY10.out, cell_of_row w10 bY 1 _ _ _ HXbY10.out, cell_of_row w10 bY 2 _ _ _ HXbY10.out, cell_of_row w10 bY 3 _ _ _ HXbY10.out, cell_of_row w10 bY 4 _ _ _ HXbY10.out, cell_of_row w10 bY 5 _ _ _ HXbY10.out, cell_of_row w10 bY 6 _ _ _ HXbY10.out, cell_of_row w10 bY 7 _ _ _ HXbY10.out, cell_of_row w10 bz 0 _ _ _ HXbz10.out, cell_of_row w10 bz 1 _ _ _ HXbz10.out, cell_of_row w10 bz 2 _ _ _ HXbz10.out, cell_of_row w10 bz 3 _ _ _ HXbz10.out, cell_of_row w10 bz 4 _ _ _ HXbz10.out, cell_of_row w10 bz 5 _ _ _ HXbz10.out, cell_of_row w10 bz 6 _ _ _ HXbz10.out, cell_of_row w10 bz 7 _ _ _ HXbz10.out⟩
    cases ob
    · obtain rfl : s = ⟨#[]⟩ := by have h := HCs.out; simpa using h
      go_wp2_with fail
      refine wp_region_held_drew (S := fun w' => w'.cell? ⟨bo, 0, none⟩ = some (.int .i64 dev) ∧ w'.cell? ⟨bo, 1, none⟩ = some (.int .i64 seq) ∧ w'.cell? ⟨bo, 2, none⟩ = some (.int .i64 stamp) ∧ w'.cell? ⟨bo, 3, none⟩ = some (.int .i64 kind) ∧ w'.cell? ⟨bo, 4, none⟩ = some (.string item) ∧ w'.cell? ⟨bo, 5, none⟩ = some (.int .i64 qty) ∧ w'.cell? ⟨bo, 6, none⟩ = some (.int .i64 level) ∧ w'.cell? ⟨bo, 7, none⟩ = some (.int .i64 undos) ∧ w'.cell? ⟨bx, 0, none⟩ = some (.int .i64 dev1) ∧ w'.cell? ⟨bx, 1, none⟩ = some (.int .i64 seq1) ∧ w'.cell? ⟨bx, 2, none⟩ = some (.int .i64 stamp1) ∧ w'.cell? ⟨bx, 3, none⟩ = some (.int .i64 kind1) ∧ w'.cell? ⟨bx, 4, none⟩ = some (.string item1) ∧ w'.cell? ⟨bx, 5, none⟩ = some (.int .i64 qty1) ∧ w'.cell? ⟨bx, 6, none⟩ = some (.int .i64 level1) ∧ w'.cell? ⟨bx, 7, none⟩ = some (.int .i64 undos1) ∧ w'.cell? ⟨bY, 0, none⟩ = some (.int .i64 0) ∧ w'.cell? ⟨bY, 1, none⟩ = some (.int .i64 0) ∧ w'.cell? ⟨bY, 2, none⟩ = some (.int .i64 0) ∧ w'.cell? ⟨bY, 3, none⟩ = some (.int .i64 0) ∧ w'.cell? ⟨bY, 4, none⟩ = some (.string ⟨#[]⟩) ∧ w'.cell? ⟨bY, 5, none⟩ = some (.int .i64 0) ∧ w'.cell? ⟨bY, 6, none⟩ = some (.int .i64 0) ∧ w'.cell? ⟨bY, 7, none⟩ = some (.int .i64 0) ∧ w'.cell? ⟨bz, 0, none⟩ = some (.int .i64 0) ∧ w'.cell? ⟨bz, 1, none⟩ = some (.int .i64 0) ∧ w'.cell? ⟨bz, 2, none⟩ = some (.int .i64 0) ∧ w'.cell? ⟨bz, 3, none⟩ = some (.int .i64 0) ∧ w'.cell? ⟨bz, 4, none⟩ = some (.string ⟨#[]⟩) ∧ w'.cell? ⟨bz, 5, none⟩ = some (.int .i64 0) ∧ w'.cell? ⟨bz, 6, none⟩ = some (.int .i64 0) ∧ w'.cell? ⟨bz, 7, none⟩ = some (.int .i64 0)) (by kernel_rfl) hS0 (fun hHeld => ?_)
      refine wpAnyH_take (i := 0) (oi := { dst := some 38, op := Op.move (Operand.tmp 4), type := 9, pos := "laws.go:188", after := #[], guard := none }) (v := ?_) rfl (by kernel_rfl) (by kernel_rfl) (by kernel_rfl) (fun _ _ _ h => h) (Or.inl ⟨by rfl, ?_⟩) (by assumption) ?_
      rotate_left
      · intro w hSw
        (try dsimp only at hSw)
        first | (go_simp; done) | (go_simp; with_reducible rfl)
      (try simp only [Act.put, List.setIfInBounds_toArray, List.set_cons_zero, List.set_cons_succ])
      refine wpAnyH_take (i := 1) (oi := { dst := some 39, op := Op.load 25 (Operand.tmp 3), type := 25, pos := "laws.go:188", after := #[], guard := none }) (v := ?_) rfl (by kernel_rfl) (by kernel_rfl) (by kernel_rfl) (fun _ _ _ h => h) (Or.inl ⟨by rfl, ?_⟩) (by assumption) ?_
      rotate_left
      · intro w hSw
        (try dsimp only at hSw)
        first | (go_simp; done) | (go_simp; with_reducible rfl)
      (try simp only [Act.put, List.setIfInBounds_toArray, List.set_cons_zero, List.set_cons_succ])
      refine wpAnyH_ready (rs := [2]) (by kernel_rfl) (by simp) ?_
      refine AllReadyH.cons (o := { dst := some 40, op := Op.call { callee := Callee.value (Operand.func 11), args := #[Operand.tmp 39], argTypes := #[25] }, type := 9, pos := "laws.go:188", after := #[{ on := 1, ground := Ground.data }], guard := none }) rfl (fun K hK => ?_) AllReadyH.nil
      go_simp
      go_at_call 11
      refine (HSp.out _).mono ?_
      rintro e y1 ⟨rfl, hb1⟩
      have hS1 : y1.cell? ⟨bo, 0, none⟩ = some (.int .i64 dev) ∧ y1.cell? ⟨bo, 1, none⟩ = some (.int .i64 seq) ∧ y1.cell? ⟨bo, 2, none⟩ = some (.int .i64 stamp) ∧ y1.cell? ⟨bo, 3, none⟩ = some (.int .i64 kind) ∧ y1.cell? ⟨bo, 4, none⟩ = some (.string item) ∧ y1.cell? ⟨bo, 5, none⟩ = some (.int .i64 qty) ∧ y1.cell? ⟨bo, 6, none⟩ = some (.int .i64 level) ∧ y1.cell? ⟨bo, 7, none⟩ = some (.int .i64 undos) ∧ y1.cell? ⟨bx, 0, none⟩ = some (.int .i64 dev1) ∧ y1.cell? ⟨bx, 1, none⟩ = some (.int .i64 seq1) ∧ y1.cell? ⟨bx, 2, none⟩ = some (.int .i64 stamp1) ∧ y1.cell? ⟨bx, 3, none⟩ = some (.int .i64 kind1) ∧ y1.cell? ⟨bx, 4, none⟩ = some (.string item1) ∧ y1.cell? ⟨bx, 5, none⟩ = some (.int .i64 qty1) ∧ y1.cell? ⟨bx, 6, none⟩ = some (.int .i64 level1) ∧ y1.cell? ⟨bx, 7, none⟩ = some (.int .i64 undos1) ∧ y1.cell? ⟨bY, 0, none⟩ = some (.int .i64 0) ∧ y1.cell? ⟨bY, 1, none⟩ = some (.int .i64 0) ∧ y1.cell? ⟨bY, 2, none⟩ = some (.int .i64 0) ∧ y1.cell? ⟨bY, 3, none⟩ = some (.int .i64 0) ∧ y1.cell? ⟨bY, 4, none⟩ = some (.string ⟨#[]⟩) ∧ y1.cell? ⟨bY, 5, none⟩ = some (.int .i64 0) ∧ y1.cell? ⟨bY, 6, none⟩ = some (.int .i64 0) ∧ y1.cell? ⟨bY, 7, none⟩ = some (.int .i64 0) ∧ y1.cell? ⟨bz, 0, none⟩ = some (.int .i64 0) ∧ y1.cell? ⟨bz, 1, none⟩ = some (.int .i64 0) ∧ y1.cell? ⟨bz, 2, none⟩ = some (.int .i64 0) ∧ y1.cell? ⟨bz, 3, none⟩ = some (.int .i64 0) ∧ y1.cell? ⟨bz, 4, none⟩ = some (.string ⟨#[]⟩) ∧ y1.cell? ⟨bz, 5, none⟩ = some (.int .i64 0) ∧ y1.cell? ⟨bz, 6, none⟩ = some (.int .i64 0) ∧ y1.cell? ⟨bz, 7, none⟩ = some (.int .i64 0) := by
          obtain ⟨q0, q1, q2, q3, q4, q5, q6, q7, q8, q9, q10, q11, q12, q13, q14, q15, q16, q17, q18, q19, q20, q21, q22, q23, q24, q25, q26, q27, q28, q29, q30, q31⟩ := hS0
          exact ⟨(hb1.cell (block_lt_of_cell q0)).trans q0, (hb1.cell (block_lt_of_cell q1)).trans q1, (hb1.cell (block_lt_of_cell q2)).trans q2, (hb1.cell (block_lt_of_cell q3)).trans q3, (hb1.cell (block_lt_of_cell q4)).trans q4, (hb1.cell (block_lt_of_cell q5)).trans q5, (hb1.cell (block_lt_of_cell q6)).trans q6, (hb1.cell (block_lt_of_cell q7)).trans q7, (hb1.cell (block_lt_of_cell q8)).trans q8, (hb1.cell (block_lt_of_cell q9)).trans q9, (hb1.cell (block_lt_of_cell q10)).trans q10, (hb1.cell (block_lt_of_cell q11)).trans q11, (hb1.cell (block_lt_of_cell q12)).trans q12, (hb1.cell (block_lt_of_cell q13)).trans q13, (hb1.cell (block_lt_of_cell q14)).trans q14, (hb1.cell (block_lt_of_cell q15)).trans q15, (hb1.cell (block_lt_of_cell q16)).trans q16, (hb1.cell (block_lt_of_cell q17)).trans q17, (hb1.cell (block_lt_of_cell q18)).trans q18, (hb1.cell (block_lt_of_cell q19)).trans q19, (hb1.cell (block_lt_of_cell q20)).trans q20, (hb1.cell (block_lt_of_cell q21)).trans q21, (hb1.cell (block_lt_of_cell q22)).trans q22, (hb1.cell (block_lt_of_cell q23)).trans q23, (hb1.cell (block_lt_of_cell q24)).trans q24, (hb1.cell (block_lt_of_cell q25)).trans q25, (hb1.cell (block_lt_of_cell q26)).trans q26, (hb1.cell (block_lt_of_cell q27)).trans q27, (hb1.cell (block_lt_of_cell q28)).trans q28, (hb1.cell (block_lt_of_cell q29)).trans q29, (hb1.cell (block_lt_of_cell q30)).trans q30, (hb1.cell (block_lt_of_cell q31)).trans q31⟩
      refine hK.out _ _ hS1 (fun hHeld2 => ?_)
      clear hK K
      (try simp only [Act.put, List.setIfInBounds_toArray, List.set_cons_zero, List.set_cons_succ])
      refine wpAnyH_take (i := 3) (oi := { dst := some 41, op := Op.binOp BinOp.neq 9 (Operand.tmp 38) (Operand.tmp 40) 9, type := 4, pos := "laws.go:188", after := #[{ on := 0, ground := Ground.data }, { on := 2, ground := Ground.data }], guard := none }) (v := ?_) rfl (by kernel_rfl) (by kernel_rfl) (by kernel_rfl) (fun _ _ _ h => h) (Or.inl ⟨by rfl, ?_⟩) (by assumption) ?_
      rotate_left
      · intro w hSw
        (try dsimp only at hSw)
        first | (go_simp; done) | (go_simp; with_reducible rfl)
      (try simp only [Act.put, List.setIfInBounds_toArray, List.set_cons_zero, List.set_cons_succ])
      refine wpAnyH_take (i := 4) (oi := { dst := some 42, op := Op.move (Operand.tmp 41), type := 4, pos := "laws.go:188", after := #[{ on := 3, ground := Ground.data }, { on := 2, ground := Ground.chain }], guard := none }) (v := ?_) rfl (by kernel_rfl) (by kernel_rfl) (by kernel_rfl) (fun _ _ _ h => h) (Or.inl ⟨by rfl, ?_⟩) (by assumption) ?_
      rotate_left
      · intro w hSw
        (try dsimp only at hSw)
        first | (go_simp; done) | (go_simp; with_reducible rfl)
      (try simp only [Act.put, List.setIfInBounds_toArray, List.set_cons_zero, List.set_cons_succ])
      refine wpAnyH_take (i := 5) (oi := { dst := some 43, op := Op.load 25 (Operand.tmp 5), type := 25, pos := "laws.go:188", after := #[{ on := 4, ground := Ground.guard }], guard := some (4, false) }) (v := ?_) rfl (by kernel_rfl) (by kernel_rfl) (by kernel_rfl) (fun _ _ _ h => h) (Or.inl ⟨by rfl, ?_⟩) (by assumption) ?_
      rotate_left
      · intro w hSw
        (try dsimp only at hSw)
        first | (go_simp; done) | (go_simp; with_reducible rfl)
      (try simp only [Act.put, List.setIfInBounds_toArray, List.set_cons_zero, List.set_cons_succ])
      refine wpAnyH_take (i := 7) (oi := { dst := some 45, op := Op.load 25 (Operand.tmp 5), type := 25, pos := "laws.go:188", after := #[{ on := 4, ground := Ground.guard }], guard := some (4, false) }) (v := ?_) rfl (by kernel_rfl) (by kernel_rfl) (by kernel_rfl) (fun _ _ _ h => h) (Or.inl ⟨by rfl, ?_⟩) (by assumption) ?_
      rotate_left
      · intro w hSw
        (try dsimp only at hSw)
        first | (go_simp; done) | (go_simp; with_reducible rfl)
      (try simp only [Act.put, List.setIfInBounds_toArray, List.set_cons_zero, List.set_cons_succ])
      refine wpAnyH_ready (rs := [6]) (by kernel_rfl) (by simp) ?_
      refine AllReadyH.cons (o := { dst := some 44, op := Op.call { callee := Callee.value (Operand.func 12), args := #[Operand.tmp 43], argTypes := #[25] }, type := 4, pos := "laws.go:188", after := #[{ on := 5, ground := Ground.data }, { on := 4, ground := Ground.chain }, { on := 4, ground := Ground.guard }], guard := some (4, false) }) rfl (fun K hK => ?_) AllReadyH.nil
      go_simp
      go_at_call 12
      refine (HO1.out _).mono ?_
      rintro e y2 ⟨rfl, hb2⟩
      have hS2 : y2.cell? ⟨bo, 0, none⟩ = some (.int .i64 dev) ∧ y2.cell? ⟨bo, 1, none⟩ = some (.int .i64 seq) ∧ y2.cell? ⟨bo, 2, none⟩ = some (.int .i64 stamp) ∧ y2.cell? ⟨bo, 3, none⟩ = some (.int .i64 kind) ∧ y2.cell? ⟨bo, 4, none⟩ = some (.string item) ∧ y2.cell? ⟨bo, 5, none⟩ = some (.int .i64 qty) ∧ y2.cell? ⟨bo, 6, none⟩ = some (.int .i64 level) ∧ y2.cell? ⟨bo, 7, none⟩ = some (.int .i64 undos) ∧ y2.cell? ⟨bx, 0, none⟩ = some (.int .i64 dev1) ∧ y2.cell? ⟨bx, 1, none⟩ = some (.int .i64 seq1) ∧ y2.cell? ⟨bx, 2, none⟩ = some (.int .i64 stamp1) ∧ y2.cell? ⟨bx, 3, none⟩ = some (.int .i64 kind1) ∧ y2.cell? ⟨bx, 4, none⟩ = some (.string item1) ∧ y2.cell? ⟨bx, 5, none⟩ = some (.int .i64 qty1) ∧ y2.cell? ⟨bx, 6, none⟩ = some (.int .i64 level1) ∧ y2.cell? ⟨bx, 7, none⟩ = some (.int .i64 undos1) ∧ y2.cell? ⟨bY, 0, none⟩ = some (.int .i64 0) ∧ y2.cell? ⟨bY, 1, none⟩ = some (.int .i64 0) ∧ y2.cell? ⟨bY, 2, none⟩ = some (.int .i64 0) ∧ y2.cell? ⟨bY, 3, none⟩ = some (.int .i64 0) ∧ y2.cell? ⟨bY, 4, none⟩ = some (.string ⟨#[]⟩) ∧ y2.cell? ⟨bY, 5, none⟩ = some (.int .i64 0) ∧ y2.cell? ⟨bY, 6, none⟩ = some (.int .i64 0) ∧ y2.cell? ⟨bY, 7, none⟩ = some (.int .i64 0) ∧ y2.cell? ⟨bz, 0, none⟩ = some (.int .i64 0) ∧ y2.cell? ⟨bz, 1, none⟩ = some (.int .i64 0) ∧ y2.cell? ⟨bz, 2, none⟩ = some (.int .i64 0) ∧ y2.cell? ⟨bz, 3, none⟩ = some (.int .i64 0) ∧ y2.cell? ⟨bz, 4, none⟩ = some (.string ⟨#[]⟩) ∧ y2.cell? ⟨bz, 5, none⟩ = some (.int .i64 0) ∧ y2.cell? ⟨bz, 6, none⟩ = some (.int .i64 0) ∧ y2.cell? ⟨bz, 7, none⟩ = some (.int .i64 0) := by
          obtain ⟨q0, q1, q2, q3, q4, q5, q6, q7, q8, q9, q10, q11, q12, q13, q14, q15, q16, q17, q18, q19, q20, q21, q22, q23, q24, q25, q26, q27, q28, q29, q30, q31⟩ := hS1
          exact ⟨(hb2.cell (block_lt_of_cell q0)).trans q0, (hb2.cell (block_lt_of_cell q1)).trans q1, (hb2.cell (block_lt_of_cell q2)).trans q2, (hb2.cell (block_lt_of_cell q3)).trans q3, (hb2.cell (block_lt_of_cell q4)).trans q4, (hb2.cell (block_lt_of_cell q5)).trans q5, (hb2.cell (block_lt_of_cell q6)).trans q6, (hb2.cell (block_lt_of_cell q7)).trans q7, (hb2.cell (block_lt_of_cell q8)).trans q8, (hb2.cell (block_lt_of_cell q9)).trans q9, (hb2.cell (block_lt_of_cell q10)).trans q10, (hb2.cell (block_lt_of_cell q11)).trans q11, (hb2.cell (block_lt_of_cell q12)).trans q12, (hb2.cell (block_lt_of_cell q13)).trans q13, (hb2.cell (block_lt_of_cell q14)).trans q14, (hb2.cell (block_lt_of_cell q15)).trans q15, (hb2.cell (block_lt_of_cell q16)).trans q16, (hb2.cell (block_lt_of_cell q17)).trans q17, (hb2.cell (block_lt_of_cell q18)).trans q18, (hb2.cell (block_lt_of_cell q19)).trans q19, (hb2.cell (block_lt_of_cell q20)).trans q20, (hb2.cell (block_lt_of_cell q21)).trans q21, (hb2.cell (block_lt_of_cell q22)).trans q22, (hb2.cell (block_lt_of_cell q23)).trans q23, (hb2.cell (block_lt_of_cell q24)).trans q24, (hb2.cell (block_lt_of_cell q25)).trans q25, (hb2.cell (block_lt_of_cell q26)).trans q26, (hb2.cell (block_lt_of_cell q27)).trans q27, (hb2.cell (block_lt_of_cell q28)).trans q28, (hb2.cell (block_lt_of_cell q29)).trans q29, (hb2.cell (block_lt_of_cell q30)).trans q30, (hb2.cell (block_lt_of_cell q31)).trans q31⟩
      refine hK.out _ _ hS2 (fun hHeld3 => ?_)
      clear hK K
      (try simp only [Act.put, List.setIfInBounds_toArray, List.set_cons_zero, List.set_cons_succ])
      refine wpAnyH_ready (rs := [8]) (by kernel_rfl) (by simp) ?_
      refine AllReadyH.cons (o := { dst := some 46, op := Op.call { callee := Callee.value (Operand.func 13), args := #[Operand.tmp 45], argTypes := #[25] }, type := 4, pos := "laws.go:188", after := #[{ on := 7, ground := Ground.data }, { on := 6, ground := Ground.chain }, { on := 4, ground := Ground.guard }], guard := some (4, false) }) rfl (fun K hK => ?_) AllReadyH.nil
      go_simp
      go_at_call 13
      refine (HO2.out _).mono ?_
      rintro e y3 ⟨rfl, hb3⟩
      have hS3 : y3.cell? ⟨bo, 0, none⟩ = some (.int .i64 dev) ∧ y3.cell? ⟨bo, 1, none⟩ = some (.int .i64 seq) ∧ y3.cell? ⟨bo, 2, none⟩ = some (.int .i64 stamp) ∧ y3.cell? ⟨bo, 3, none⟩ = some (.int .i64 kind) ∧ y3.cell? ⟨bo, 4, none⟩ = some (.string item) ∧ y3.cell? ⟨bo, 5, none⟩ = some (.int .i64 qty) ∧ y3.cell? ⟨bo, 6, none⟩ = some (.int .i64 level) ∧ y3.cell? ⟨bo, 7, none⟩ = some (.int .i64 undos) ∧ y3.cell? ⟨bx, 0, none⟩ = some (.int .i64 dev1) ∧ y3.cell? ⟨bx, 1, none⟩ = some (.int .i64 seq1) ∧ y3.cell? ⟨bx, 2, none⟩ = some (.int .i64 stamp1) ∧ y3.cell? ⟨bx, 3, none⟩ = some (.int .i64 kind1) ∧ y3.cell? ⟨bx, 4, none⟩ = some (.string item1) ∧ y3.cell? ⟨bx, 5, none⟩ = some (.int .i64 qty1) ∧ y3.cell? ⟨bx, 6, none⟩ = some (.int .i64 level1) ∧ y3.cell? ⟨bx, 7, none⟩ = some (.int .i64 undos1) ∧ y3.cell? ⟨bY, 0, none⟩ = some (.int .i64 0) ∧ y3.cell? ⟨bY, 1, none⟩ = some (.int .i64 0) ∧ y3.cell? ⟨bY, 2, none⟩ = some (.int .i64 0) ∧ y3.cell? ⟨bY, 3, none⟩ = some (.int .i64 0) ∧ y3.cell? ⟨bY, 4, none⟩ = some (.string ⟨#[]⟩) ∧ y3.cell? ⟨bY, 5, none⟩ = some (.int .i64 0) ∧ y3.cell? ⟨bY, 6, none⟩ = some (.int .i64 0) ∧ y3.cell? ⟨bY, 7, none⟩ = some (.int .i64 0) ∧ y3.cell? ⟨bz, 0, none⟩ = some (.int .i64 0) ∧ y3.cell? ⟨bz, 1, none⟩ = some (.int .i64 0) ∧ y3.cell? ⟨bz, 2, none⟩ = some (.int .i64 0) ∧ y3.cell? ⟨bz, 3, none⟩ = some (.int .i64 0) ∧ y3.cell? ⟨bz, 4, none⟩ = some (.string ⟨#[]⟩) ∧ y3.cell? ⟨bz, 5, none⟩ = some (.int .i64 0) ∧ y3.cell? ⟨bz, 6, none⟩ = some (.int .i64 0) ∧ y3.cell? ⟨bz, 7, none⟩ = some (.int .i64 0) := by
          obtain ⟨q0, q1, q2, q3, q4, q5, q6, q7, q8, q9, q10, q11, q12, q13, q14, q15, q16, q17, q18, q19, q20, q21, q22, q23, q24, q25, q26, q27, q28, q29, q30, q31⟩ := hS2
          exact ⟨(hb3.cell (block_lt_of_cell q0)).trans q0, (hb3.cell (block_lt_of_cell q1)).trans q1, (hb3.cell (block_lt_of_cell q2)).trans q2, (hb3.cell (block_lt_of_cell q3)).trans q3, (hb3.cell (block_lt_of_cell q4)).trans q4, (hb3.cell (block_lt_of_cell q5)).trans q5, (hb3.cell (block_lt_of_cell q6)).trans q6, (hb3.cell (block_lt_of_cell q7)).trans q7, (hb3.cell (block_lt_of_cell q8)).trans q8, (hb3.cell (block_lt_of_cell q9)).trans q9, (hb3.cell (block_lt_of_cell q10)).trans q10, (hb3.cell (block_lt_of_cell q11)).trans q11, (hb3.cell (block_lt_of_cell q12)).trans q12, (hb3.cell (block_lt_of_cell q13)).trans q13, (hb3.cell (block_lt_of_cell q14)).trans q14, (hb3.cell (block_lt_of_cell q15)).trans q15, (hb3.cell (block_lt_of_cell q16)).trans q16, (hb3.cell (block_lt_of_cell q17)).trans q17, (hb3.cell (block_lt_of_cell q18)).trans q18, (hb3.cell (block_lt_of_cell q19)).trans q19, (hb3.cell (block_lt_of_cell q20)).trans q20, (hb3.cell (block_lt_of_cell q21)).trans q21, (hb3.cell (block_lt_of_cell q22)).trans q22, (hb3.cell (block_lt_of_cell q23)).trans q23, (hb3.cell (block_lt_of_cell q24)).trans q24, (hb3.cell (block_lt_of_cell q25)).trans q25, (hb3.cell (block_lt_of_cell q26)).trans q26, (hb3.cell (block_lt_of_cell q27)).trans q27, (hb3.cell (block_lt_of_cell q28)).trans q28, (hb3.cell (block_lt_of_cell q29)).trans q29, (hb3.cell (block_lt_of_cell q30)).trans q30, (hb3.cell (block_lt_of_cell q31)).trans q31⟩
      refine hK.out _ _ hS3 (fun hHeld4 => ?_)
      clear hK K
      (try simp only [Act.put, List.setIfInBounds_toArray, List.set_cons_zero, List.set_cons_succ])
      refine wpAnyH_take (i := 9) (oi := { dst := some 47, op := Op.binOp BinOp.neq 4 (Operand.tmp 44) (Operand.tmp 46) 4, type := 4, pos := "laws.go:188", after := #[{ on := 6, ground := Ground.data }, { on := 8, ground := Ground.data }, { on := 4, ground := Ground.guard }], guard := some (4, false) }) (v := ?_) rfl (by kernel_rfl) (by kernel_rfl) (by kernel_rfl) (fun _ _ _ h => h) (Or.inl ⟨by rfl, ?_⟩) (by assumption) ?_
      rotate_left
      · intro w hSw
        (try dsimp only at hSw)
        first | (go_simp; done) | (go_simp; with_reducible rfl)
      (try simp only [Act.put, List.setIfInBounds_toArray, List.set_cons_zero, List.set_cons_succ])
      refine wpAnyH_take (i := 10) (oi := { dst := some 48, op := Op.pick (Operand.tmp 42) (Operand.const (Value.bool true)) (Operand.tmp 47), type := 4, pos := "laws.go:188", after := #[{ on := 4, ground := Ground.data }, { on := 9, ground := Ground.data }], guard := none }) (v := ?_) rfl (by kernel_rfl) (by kernel_rfl) (by kernel_rfl) (fun _ _ _ h => h) (Or.inl ⟨by rfl, ?_⟩) (by assumption) ?_
      rotate_left
      · intro w hSw
        (try dsimp only at hSw)
        first | (go_simp; done) | (go_simp; with_reducible rfl)
      (try simp only [Act.put, List.setIfInBounds_toArray, List.set_cons_zero, List.set_cons_succ])
      refine wpAnyH_take (i := 11) (oi := { dst := some 49, op := Op.move (Operand.tmp 48), type := 4, pos := "laws.go:188", after := #[{ on := 10, ground := Ground.data }, { on := 8, ground := Ground.chain }], guard := none }) (v := ?_) rfl (by kernel_rfl) (by kernel_rfl) (by kernel_rfl) (fun _ _ _ h => h) (Or.inl ⟨by rfl, ?_⟩) (by assumption) ?_
      rotate_left
      · intro w hSw
        (try dsimp only at hSw)
        first | (go_simp; done) | (go_simp; with_reducible rfl)
      (try simp only [Act.put, List.setIfInBounds_toArray, List.set_cons_zero, List.set_cons_succ])
      refine wpAnyH_take (i := 12) (oi := { dst := some 50, op := Op.load 25 (Operand.tmp 7), type := 25, pos := "laws.go:188", after := #[{ on := 11, ground := Ground.guard }], guard := some (11, false) }) (v := ?_) rfl (by kernel_rfl) (by kernel_rfl) (by kernel_rfl) (fun _ _ _ h => h) (Or.inl ⟨by rfl, ?_⟩) (by assumption) ?_
      rotate_left
      · intro w hSw
        (try dsimp only at hSw)
        first | (go_simp; done) | (go_simp; with_reducible rfl)
      (try simp only [Act.put, List.setIfInBounds_toArray, List.set_cons_zero, List.set_cons_succ])
      refine wpAnyH_take (i := 13) (oi := { dst := some 51, op := Op.load 25 (Operand.tmp 10), type := 25, pos := "laws.go:188", after := #[{ on := 11, ground := Ground.guard }], guard := some (11, false) }) (v := ?_) rfl (by kernel_rfl) (by kernel_rfl) (by kernel_rfl) (fun _ _ _ h => h) (Or.inl ⟨by rfl, ?_⟩) (by assumption) ?_
      rotate_left
      · intro w hSw
        (try dsimp only at hSw)
        first | (go_simp; done) | (go_simp; with_reducible rfl)
      (try simp only [Act.put, List.setIfInBounds_toArray, List.set_cons_zero, List.set_cons_succ])
      refine wpAnyH_take (i := 14) (oi := { dst := some 52, op := Op.binOp BinOp.neq 25 (Operand.tmp 50) (Operand.tmp 51) 25, type := 4, pos := "laws.go:188", after := #[{ on := 12, ground := Ground.data }, { on := 13, ground := Ground.data }, { on := 11, ground := Ground.guard }], guard := some (11, false) }) (v := ?_) rfl (by kernel_rfl) (by kernel_rfl) (by kernel_rfl) (fun _ _ _ h => h) (Or.inl ⟨by rfl, ?_⟩) (by assumption) ?_
      rotate_left
      · intro w hSw
        (try dsimp only at hSw)
        first | (go_simp; done) | (go_simp; with_reducible rfl)
      (try simp only [Act.put, List.setIfInBounds_toArray, List.set_cons_zero, List.set_cons_succ])
      refine wpAnyH_take (i := 15) (oi := { dst := some 53, op := Op.pick (Operand.tmp 49) (Operand.const (Value.bool true)) (Operand.tmp 52), type := 4, pos := "laws.go:188", after := #[{ on := 11, ground := Ground.data }, { on := 14, ground := Ground.data }], guard := none }) (v := ?_) rfl (by kernel_rfl) (by kernel_rfl) (by kernel_rfl) (fun _ _ _ h => h) (Or.inl ⟨by rfl, ?_⟩) (by assumption) ?_
      rotate_left
      · intro w hSw
        (try dsimp only at hSw)
        first | (go_simp; done) | (go_simp; with_reducible rfl)
      (try simp only [Act.put, List.setIfInBounds_toArray, List.set_cons_zero, List.set_cons_succ])
      refine wpAnyH_take (i := 16) (oi := { dst := some 54, op := Op.move (Operand.tmp 53), type := 4, pos := "laws.go:188", after := #[{ on := 15, ground := Ground.data }, { on := 11, ground := Ground.chain }], guard := none }) (v := ?_) rfl (by kernel_rfl) (by kernel_rfl) (by kernel_rfl) (fun _ _ _ h => h) (Or.inl ⟨by rfl, ?_⟩) (by assumption) ?_
      rotate_left
      · intro w hSw
        (try dsimp only at hSw)
        first | (go_simp; done) | (go_simp; with_reducible rfl)
      (try simp only [Act.put, List.setIfInBounds_toArray, List.set_cons_zero, List.set_cons_succ])
      refine wpAnyH_take (i := 17) (oi := { dst := some 55, op := Op.move (Operand.tmp 8), type := 2, pos := "laws.go:188", after := #[{ on := 16, ground := Ground.guard }], guard := some (16, false) }) (v := ?_) rfl (by kernel_rfl) (by kernel_rfl) (by kernel_rfl) (fun _ _ _ h => h) (Or.inl ⟨by rfl, ?_⟩) (by assumption) ?_
      rotate_left
      · intro w hSw
        (try dsimp only at hSw)
        first | (go_simp; done) | (go_simp; with_reducible rfl)
      (try simp only [Act.put, List.setIfInBounds_toArray, List.set_cons_zero, List.set_cons_succ])
      refine wpAnyH_take (i := 18) (oi := { dst := some 56, op := Op.move (Operand.tmp 11), type := 2, pos := "laws.go:188", after := #[{ on := 16, ground := Ground.guard }], guard := some (16, false) }) (v := ?_) rfl (by kernel_rfl) (by kernel_rfl) (by kernel_rfl) (fun _ _ _ h => h) (Or.inl ⟨by rfl, ?_⟩) (by assumption) ?_
      rotate_left
      · intro w hSw
        (try dsimp only at hSw)
        first | (go_simp; done) | (go_simp; with_reducible rfl)
      (try simp only [Act.put, List.setIfInBounds_toArray, List.set_cons_zero, List.set_cons_succ])
      refine wpAnyH_take (i := 19) (oi := { dst := some 57, op := Op.binOp BinOp.neq 2 (Operand.tmp 55) (Operand.tmp 56) 2, type := 4, pos := "laws.go:188", after := #[{ on := 17, ground := Ground.data }, { on := 18, ground := Ground.data }, { on := 16, ground := Ground.guard }], guard := some (16, false) }) (v := ?_) rfl (by kernel_rfl) (by kernel_rfl) (by kernel_rfl) (fun _ _ _ h => h) (Or.inl ⟨by rfl, ?_⟩) (by assumption) ?_
      rotate_left
      · intro w hSw
        (try dsimp only at hSw)
        first | (go_simp; done) | (go_simp; with_reducible rfl)
      (try simp only [Act.put, List.setIfInBounds_toArray, List.set_cons_zero, List.set_cons_succ])
      refine wpAnyH_take (i := 20) (oi := { dst := some 58, op := Op.pick (Operand.tmp 54) (Operand.const (Value.bool true)) (Operand.tmp 57), type := 4, pos := "laws.go:188", after := #[{ on := 16, ground := Ground.data }, { on := 19, ground := Ground.data }], guard := none }) (v := ?_) rfl (by kernel_rfl) (by kernel_rfl) (by kernel_rfl) (fun _ _ _ h => h) (Or.inl ⟨by rfl, ?_⟩) (by assumption) ?_
      rotate_left
      · intro w hSw
        (try dsimp only at hSw)
        first | (go_simp; done) | (go_simp; with_reducible rfl)
      (try simp only [Act.put, List.setIfInBounds_toArray, List.set_cons_zero, List.set_cons_succ])
      refine wpAnyH_take (i := 21) (oi := { dst := some 59, op := Op.move (Operand.tmp 58), type := 4, pos := "laws.go:188", after := #[{ on := 20, ground := Ground.data }, { on := 16, ground := Ground.chain }], guard := none }) (v := ?_) rfl (by kernel_rfl) (by kernel_rfl) (by kernel_rfl) (fun _ _ _ h => h) (Or.inl ⟨by rfl, ?_⟩) (by assumption) ?_
      rotate_left
      · intro w hSw
        (try dsimp only at hSw)
        first | (go_simp; done) | (go_simp; with_reducible rfl)
      (try simp only [Act.put, List.setIfInBounds_toArray, List.set_cons_zero, List.set_cons_succ])
      refine wpAnyH_take (i := 22) (oi := { dst := some 60, op := Op.move (Operand.tmp 9), type := 4, pos := "laws.go:188", after := #[{ on := 21, ground := Ground.guard }], guard := some (21, false) }) (v := ?_) rfl (by kernel_rfl) (by kernel_rfl) (by kernel_rfl) (fun _ _ _ h => h) (Or.inl ⟨by rfl, ?_⟩) (by assumption) ?_
      rotate_left
      · intro w hSw
        (try dsimp only at hSw)
        first | (go_simp; done) | (go_simp; with_reducible rfl)
      (try simp only [Act.put, List.setIfInBounds_toArray, List.set_cons_zero, List.set_cons_succ])
      refine wpAnyH_take (i := 23) (oi := { dst := some 61, op := Op.move (Operand.tmp 12), type := 4, pos := "laws.go:188", after := #[{ on := 21, ground := Ground.guard }], guard := some (21, false) }) (v := ?_) rfl (by kernel_rfl) (by kernel_rfl) (by kernel_rfl) (fun _ _ _ h => h) (Or.inl ⟨by rfl, ?_⟩) (by assumption) ?_
      rotate_left
      · intro w hSw
        (try dsimp only at hSw)
        first | (go_simp; done) | (go_simp; with_reducible rfl)
      (try simp only [Act.put, List.setIfInBounds_toArray, List.set_cons_zero, List.set_cons_succ])
      refine wpAnyH_take (i := 24) (oi := { dst := some 62, op := Op.binOp BinOp.neq 4 (Operand.tmp 60) (Operand.tmp 61) 4, type := 4, pos := "laws.go:188", after := #[{ on := 22, ground := Ground.data }, { on := 23, ground := Ground.data }, { on := 21, ground := Ground.guard }], guard := some (21, false) }) (v := ?_) rfl (by kernel_rfl) (by kernel_rfl) (by kernel_rfl) (fun _ _ _ h => h) (Or.inl ⟨by rfl, ?_⟩) (by assumption) ?_
      rotate_left
      · intro w hSw
        (try dsimp only at hSw)
        first | (go_simp; done) | (go_simp; with_reducible rfl)
      (try simp only [Act.put, List.setIfInBounds_toArray, List.set_cons_zero, List.set_cons_succ])
      refine wpAnyH_take (i := 25) (oi := { dst := some 63, op := Op.pick (Operand.tmp 59) (Operand.const (Value.bool true)) (Operand.tmp 62), type := 4, pos := "laws.go:188", after := #[{ on := 21, ground := Ground.data }, { on := 24, ground := Ground.data }], guard := none }) (v := ?_) rfl (by kernel_rfl) (by kernel_rfl) (by kernel_rfl) (fun _ _ _ h => h) (Or.inl ⟨by rfl, ?_⟩) (by assumption) ?_
      rotate_left
      · intro w hSw
        (try dsimp only at hSw)
        first | (go_simp; done) | (go_simp; with_reducible rfl)
      (try simp only [Act.put, List.setIfInBounds_toArray, List.set_cons_zero, List.set_cons_succ])
      refine wpAnyH_take (i := 26) (oi := { dst := some 64, op := Op.move (Operand.tmp 63), type := 4, pos := "laws.go:188", after := #[{ on := 25, ground := Ground.data }, { on := 21, ground := Ground.chain }], guard := none }) (v := ?_) rfl (by kernel_rfl) (by kernel_rfl) (by kernel_rfl) (fun _ _ _ h => h) (Or.inl ⟨by rfl, ?_⟩) (by assumption) ?_
      rotate_left
      · intro w hSw
        (try dsimp only at hSw)
        first | (go_simp; done) | (go_simp; with_reducible rfl)
      (try simp only [Act.put, List.setIfInBounds_toArray, List.set_cons_zero, List.set_cons_succ])
      refine wpAnyH_take (i := 27) (oi := { dst := some 65, op := Op.move (Operand.tmp 9), type := 4, pos := "laws.go:188", after := #[{ on := 26, ground := Ground.guard }], guard := some (26, false) }) (v := ?_) rfl (by kernel_rfl) (by kernel_rfl) (by kernel_rfl) (fun _ _ _ h => h) (Or.inl ⟨by rfl, ?_⟩) (by assumption) ?_
      rotate_left
      · intro w hSw
        (try dsimp only at hSw)
        first | (go_simp; done) | (go_simp; with_reducible rfl)
      (try simp only [Act.put, List.setIfInBounds_toArray, List.set_cons_zero, List.set_cons_succ])
      refine wpAnyH_take (i := 28) (oi := { dst := some 66, op := Op.move (Operand.tmp 65), type := 4, pos := "laws.go:188", after := #[{ on := 27, ground := Ground.data }, { on := 26, ground := Ground.chain }, { on := 26, ground := Ground.guard }], guard := some (26, false) }) (v := ?_) rfl (by kernel_rfl) (by kernel_rfl) (by kernel_rfl) (fun _ _ _ h => h) (Or.inl ⟨by rfl, ?_⟩) (by assumption) ?_
      rotate_left
      · intro w hSw
        (try dsimp only at hSw)
        first | (go_simp; done) | (go_simp; with_reducible rfl)
      (try simp only [Act.put, List.setIfInBounds_toArray, List.set_cons_zero, List.set_cons_succ])
      refine wpAnyH_take (i := 29) (oi := { dst := some 67, op := Op.load 25 (Operand.tmp 7), type := 25, pos := "laws.go:188", after := #[{ on := 28, ground := Ground.guard }], guard := some (28, true) }) (v := undef) rfl (by kernel_rfl) (by kernel_rfl) (by kernel_rfl) (fun _ _ _ h => h) (Or.inr ⟨by rfl, rfl⟩) (by assumption) ?_
      (try simp only [Act.put, List.setIfInBounds_toArray, List.set_cons_zero, List.set_cons_succ])
      refine wpAnyH_take (i := 30) (oi := { dst := some 68, op := Op.call { callee := Callee.value (Operand.func 6), args := #[Operand.tmp 67], argTypes := #[25] }, type := 9, pos := "laws.go:188", after := #[{ on := 29, ground := Ground.data }, { on := 28, ground := Ground.chain }, { on := 28, ground := Ground.guard }], guard := some (28, true) }) (v := undef) rfl (by kernel_rfl) (by kernel_rfl) (by kernel_rfl) (fun _ _ _ h => h) (Or.inr ⟨by rfl, rfl⟩) (by assumption) ?_
      (try simp only [Act.put, List.setIfInBounds_toArray, List.set_cons_zero, List.set_cons_succ])
      refine wpAnyH_take (i := 31) (oi := { dst := some 69, op := Op.move (Operand.tmp 6), type := 9, pos := "laws.go:188", after := #[{ on := 28, ground := Ground.guard }], guard := some (28, true) }) (v := undef) rfl (by kernel_rfl) (by kernel_rfl) (by kernel_rfl) (fun _ _ _ h => h) (Or.inr ⟨by rfl, rfl⟩) (by assumption) ?_
      (try simp only [Act.put, List.setIfInBounds_toArray, List.set_cons_zero, List.set_cons_succ])
      refine wpAnyH_take (i := 32) (oi := { dst := some 70, op := Op.move (Operand.tmp 8), type := 2, pos := "laws.go:188", after := #[{ on := 28, ground := Ground.guard }], guard := some (28, true) }) (v := undef) rfl (by kernel_rfl) (by kernel_rfl) (by kernel_rfl) (fun _ _ _ h => h) (Or.inr ⟨by rfl, rfl⟩) (by assumption) ?_
      (try simp only [Act.put, List.setIfInBounds_toArray, List.set_cons_zero, List.set_cons_succ])
      refine wpAnyH_take (i := 33) (oi := { dst := some 71, op := Op.slice 9 (Operand.tmp 69) none (some (Operand.tmp 70)) none, type := 9, pos := "laws.go:188", after := #[{ on := 31, ground := Ground.data }, { on := 32, ground := Ground.data }, { on := 28, ground := Ground.guard }], guard := some (28, true) }) (v := undef) rfl (by kernel_rfl) (by kernel_rfl) (by kernel_rfl) (fun _ _ _ h => h) (Or.inr ⟨by rfl, rfl⟩) (by assumption) ?_
      (try simp only [Act.put, List.setIfInBounds_toArray, List.set_cons_zero, List.set_cons_succ])
      refine wpAnyH_take (i := 34) (oi := { dst := some 72, op := Op.binOp BinOp.neq 9 (Operand.tmp 68) (Operand.tmp 71) 9, type := 4, pos := "laws.go:188", after := #[{ on := 30, ground := Ground.data }, { on := 33, ground := Ground.data }, { on := 28, ground := Ground.guard }], guard := some (28, true) }) (v := undef) rfl (by kernel_rfl) (by kernel_rfl) (by kernel_rfl) (fun _ _ _ h => h) (Or.inr ⟨by rfl, rfl⟩) (by assumption) ?_
      (try simp only [Act.put, List.setIfInBounds_toArray, List.set_cons_zero, List.set_cons_succ])
      refine wpAnyH_take (i := 35) (oi := { dst := some 73, op := Op.pick (Operand.tmp 66) (Operand.tmp 72) (Operand.const (Value.bool false)), type := 4, pos := "laws.go:188", after := #[{ on := 28, ground := Ground.data }, { on := 34, ground := Ground.data }, { on := 26, ground := Ground.guard }], guard := some (26, false) }) (v := ?_) rfl (by kernel_rfl) (by kernel_rfl) (by kernel_rfl) (fun _ _ _ h => h) (Or.inl ⟨by rfl, ?_⟩) (by assumption) ?_
      rotate_left
      · intro w hSw
        (try dsimp only at hSw)
        first | (go_simp; done) | (go_simp; with_reducible rfl)
      (try simp only [Act.put, List.setIfInBounds_toArray, List.set_cons_zero, List.set_cons_succ])
      refine wpAnyH_take (i := 36) (oi := { dst := some 74, op := Op.pick (Operand.tmp 64) (Operand.const (Value.bool true)) (Operand.tmp 73), type := 4, pos := "laws.go:188", after := #[{ on := 26, ground := Ground.data }, { on := 35, ground := Ground.data }], guard := none }) (v := ?_) rfl (by kernel_rfl) (by kernel_rfl) (by kernel_rfl) (fun _ _ _ h => h) (Or.inl ⟨by rfl, ?_⟩) (by assumption) ?_
      rotate_left
      · intro w hSw
        (try dsimp only at hSw)
        first | (go_simp; done) | (go_simp; with_reducible rfl)
      (try simp only [Act.put, List.setIfInBounds_toArray, List.set_cons_zero, List.set_cons_succ])
      refine wpAnyH_take (i := 37) (oi := { dst := some 75, op := Op.move (Operand.tmp 74), type := 4, pos := "laws.go:188", after := #[{ on := 36, ground := Ground.data }, { on := 30, ground := Ground.chain }], guard := none }) (v := ?_) rfl (by kernel_rfl) (by kernel_rfl) (by kernel_rfl) (fun _ _ _ h => h) (Or.inl ⟨by rfl, ?_⟩) (by assumption) ?_
      rotate_left
      · intro w hSw
        (try dsimp only at hSw)
        first | (go_simp; done) | (go_simp; with_reducible rfl)
      (try simp only [Act.put, List.setIfInBounds_toArray, List.set_cons_zero, List.set_cons_succ])
      refine wpAnyH_take (i := 38) (oi := { dst := some 76, op := Op.load 25 (Operand.tmp 3), type := 25, pos := "laws.go:188", after := #[{ on := 37, ground := Ground.guard }], guard := some (37, false) }) (v := ?_) rfl (by kernel_rfl) (by kernel_rfl) (by kernel_rfl) (fun _ _ _ h => h) (Or.inl ⟨by rfl, ?_⟩) (by assumption) ?_
      rotate_left
      · intro w hSw
        (try dsimp only at hSw)
        first | (go_simp; done) | (go_simp; with_reducible rfl)
      (try simp only [Act.put, List.setIfInBounds_toArray, List.set_cons_zero, List.set_cons_succ])
      refine wpAnyH_take (i := 40) (oi := { dst := some 78, op := Op.move (Operand.tmp 4), type := 9, pos := "laws.go:188", after := #[{ on := 37, ground := Ground.guard }], guard := some (37, false) }) (v := ?_) rfl (by kernel_rfl) (by kernel_rfl) (by kernel_rfl) (fun _ _ _ h => h) (Or.inl ⟨by rfl, ?_⟩) (by assumption) ?_
      rotate_left
      · intro w hSw
        (try dsimp only at hSw)
        first | (go_simp; done) | (go_simp; with_reducible rfl)
      (try simp only [Act.put, List.setIfInBounds_toArray, List.set_cons_zero, List.set_cons_succ])
      refine wpAnyH_take (i := 41) (oi := { dst := some 79, op := Op.binOp BinOp.neq 9 (Operand.tmp 78) (Operand.const (Value.string { data := #[] })) 9, type := 4, pos := "laws.go:188", after := #[{ on := 40, ground := Ground.data }, { on := 37, ground := Ground.guard }], guard := some (37, false) }) (v := ?_) rfl (by kernel_rfl) (by kernel_rfl) (by kernel_rfl) (fun _ _ _ h => h) (Or.inl ⟨by rfl, ?_⟩) (by assumption) ?_
      rotate_left
      · intro w hSw
        (try dsimp only at hSw)
        first | (go_simp; done) | (go_simp; with_reducible rfl)
      (try simp only [Act.put, List.setIfInBounds_toArray, List.set_cons_zero, List.set_cons_succ])
      refine wpAnyH_ready (rs := [39]) (by kernel_rfl) (by simp) ?_
      refine AllReadyH.cons (o := { dst := some 77, op := Op.call { callee := Callee.value (Operand.func 12), args := #[Operand.tmp 76], argTypes := #[25] }, type := 4, pos := "laws.go:188", after := #[{ on := 38, ground := Ground.data }, { on := 37, ground := Ground.chain }, { on := 37, ground := Ground.guard }], guard := some (37, false) }) rfl (fun K hK => ?_) AllReadyH.nil
      go_simp
      go_at_call 12
      refine (HOk.out _).mono ?_
      rintro e y5 ⟨rfl, hb5⟩
      have hS5 : y5.cell? ⟨bo, 0, none⟩ = some (.int .i64 dev) ∧ y5.cell? ⟨bo, 1, none⟩ = some (.int .i64 seq) ∧ y5.cell? ⟨bo, 2, none⟩ = some (.int .i64 stamp) ∧ y5.cell? ⟨bo, 3, none⟩ = some (.int .i64 kind) ∧ y5.cell? ⟨bo, 4, none⟩ = some (.string item) ∧ y5.cell? ⟨bo, 5, none⟩ = some (.int .i64 qty) ∧ y5.cell? ⟨bo, 6, none⟩ = some (.int .i64 level) ∧ y5.cell? ⟨bo, 7, none⟩ = some (.int .i64 undos) ∧ y5.cell? ⟨bx, 0, none⟩ = some (.int .i64 dev1) ∧ y5.cell? ⟨bx, 1, none⟩ = some (.int .i64 seq1) ∧ y5.cell? ⟨bx, 2, none⟩ = some (.int .i64 stamp1) ∧ y5.cell? ⟨bx, 3, none⟩ = some (.int .i64 kind1) ∧ y5.cell? ⟨bx, 4, none⟩ = some (.string item1) ∧ y5.cell? ⟨bx, 5, none⟩ = some (.int .i64 qty1) ∧ y5.cell? ⟨bx, 6, none⟩ = some (.int .i64 level1) ∧ y5.cell? ⟨bx, 7, none⟩ = some (.int .i64 undos1) ∧ y5.cell? ⟨bY, 0, none⟩ = some (.int .i64 0) ∧ y5.cell? ⟨bY, 1, none⟩ = some (.int .i64 0) ∧ y5.cell? ⟨bY, 2, none⟩ = some (.int .i64 0) ∧ y5.cell? ⟨bY, 3, none⟩ = some (.int .i64 0) ∧ y5.cell? ⟨bY, 4, none⟩ = some (.string ⟨#[]⟩) ∧ y5.cell? ⟨bY, 5, none⟩ = some (.int .i64 0) ∧ y5.cell? ⟨bY, 6, none⟩ = some (.int .i64 0) ∧ y5.cell? ⟨bY, 7, none⟩ = some (.int .i64 0) ∧ y5.cell? ⟨bz, 0, none⟩ = some (.int .i64 0) ∧ y5.cell? ⟨bz, 1, none⟩ = some (.int .i64 0) ∧ y5.cell? ⟨bz, 2, none⟩ = some (.int .i64 0) ∧ y5.cell? ⟨bz, 3, none⟩ = some (.int .i64 0) ∧ y5.cell? ⟨bz, 4, none⟩ = some (.string ⟨#[]⟩) ∧ y5.cell? ⟨bz, 5, none⟩ = some (.int .i64 0) ∧ y5.cell? ⟨bz, 6, none⟩ = some (.int .i64 0) ∧ y5.cell? ⟨bz, 7, none⟩ = some (.int .i64 0) := by
          obtain ⟨q0, q1, q2, q3, q4, q5, q6, q7, q8, q9, q10, q11, q12, q13, q14, q15, q16, q17, q18, q19, q20, q21, q22, q23, q24, q25, q26, q27, q28, q29, q30, q31⟩ := hS3
          exact ⟨(hb5.cell (block_lt_of_cell q0)).trans q0, (hb5.cell (block_lt_of_cell q1)).trans q1, (hb5.cell (block_lt_of_cell q2)).trans q2, (hb5.cell (block_lt_of_cell q3)).trans q3, (hb5.cell (block_lt_of_cell q4)).trans q4, (hb5.cell (block_lt_of_cell q5)).trans q5, (hb5.cell (block_lt_of_cell q6)).trans q6, (hb5.cell (block_lt_of_cell q7)).trans q7, (hb5.cell (block_lt_of_cell q8)).trans q8, (hb5.cell (block_lt_of_cell q9)).trans q9, (hb5.cell (block_lt_of_cell q10)).trans q10, (hb5.cell (block_lt_of_cell q11)).trans q11, (hb5.cell (block_lt_of_cell q12)).trans q12, (hb5.cell (block_lt_of_cell q13)).trans q13, (hb5.cell (block_lt_of_cell q14)).trans q14, (hb5.cell (block_lt_of_cell q15)).trans q15, (hb5.cell (block_lt_of_cell q16)).trans q16, (hb5.cell (block_lt_of_cell q17)).trans q17, (hb5.cell (block_lt_of_cell q18)).trans q18, (hb5.cell (block_lt_of_cell q19)).trans q19, (hb5.cell (block_lt_of_cell q20)).trans q20, (hb5.cell (block_lt_of_cell q21)).trans q21, (hb5.cell (block_lt_of_cell q22)).trans q22, (hb5.cell (block_lt_of_cell q23)).trans q23, (hb5.cell (block_lt_of_cell q24)).trans q24, (hb5.cell (block_lt_of_cell q25)).trans q25, (hb5.cell (block_lt_of_cell q26)).trans q26, (hb5.cell (block_lt_of_cell q27)).trans q27, (hb5.cell (block_lt_of_cell q28)).trans q28, (hb5.cell (block_lt_of_cell q29)).trans q29, (hb5.cell (block_lt_of_cell q30)).trans q30, (hb5.cell (block_lt_of_cell q31)).trans q31⟩
      refine hK.out _ _ hS5 (fun hHeld6 => ?_)
      clear hK K
      (try simp only [Act.put, List.setIfInBounds_toArray, List.set_cons_zero, List.set_cons_succ])
      refine wpAnyH_take (i := 42) (oi := { dst := some 80, op := Op.binOp BinOp.neq 4 (Operand.tmp 77) (Operand.tmp 79) 4, type := 4, pos := "laws.go:188", after := #[{ on := 39, ground := Ground.data }, { on := 41, ground := Ground.data }, { on := 37, ground := Ground.guard }], guard := some (37, false) }) (v := ?_) rfl (by kernel_rfl) (by kernel_rfl) (by kernel_rfl) (fun _ _ _ h => h) (Or.inl ⟨by rfl, ?_⟩) (by assumption) ?_
      rotate_left
      · intro w hSw
        (try dsimp only at hSw)
        first | (go_simp; done) | (go_simp; with_reducible rfl)
      (try simp only [Act.put, List.setIfInBounds_toArray, List.set_cons_zero, List.set_cons_succ])
      refine wpAnyH_take (i := 43) (oi := { dst := some 81, op := Op.pick (Operand.tmp 75) (Operand.const (Value.bool true)) (Operand.tmp 80), type := 4, pos := "laws.go:188", after := #[{ on := 37, ground := Ground.data }, { on := 42, ground := Ground.data }], guard := none }) (v := ?_) rfl (by kernel_rfl) (by kernel_rfl) (by kernel_rfl) (fun _ _ _ h => h) (Or.inl ⟨by rfl, ?_⟩) (by assumption) ?_
      rotate_left
      · intro w hSw
        (try dsimp only at hSw)
        first | (go_simp; done) | (go_simp; with_reducible rfl)
      (try simp only [Act.put, List.setIfInBounds_toArray, List.set_cons_zero, List.set_cons_succ])
      refine wpAnyH_done (by kernel_rfl) ?_ _
      have B1 : Below w.heap.size w y1 := HB10.out.trans ((Below.mk hb1.os hb1.tape hb1.output hb1.size hb1.block : Below w10.heap.size w10 y1).mono HB10.out.size)
      have B2 := B1.trans (hb2.mono B1.size)
      have B3 := B2.trans (hb3.mono B2.size)
      have HB := Lib.hid (B3.trans (hb5.mono B3.size))
      clear B1 B2 B3 hb1 hb2 hb3 hb5 hS0 hS1 hS2 hS3 hS5 hHeld
      go_wp2
      go_ret
      exact ⟨rfl, HB.out⟩
    · have hse : (s.toList == []) = false := by have h := HCs.out; rw [if_pos rfl] at h; rw [beq_eq_false_iff_ne]; exact h
      go_wp2_with fail
      refine wp_region_held_drew (S := fun w' => w'.cell? ⟨bo, 0, none⟩ = some (.int .i64 dev) ∧ w'.cell? ⟨bo, 1, none⟩ = some (.int .i64 seq) ∧ w'.cell? ⟨bo, 2, none⟩ = some (.int .i64 stamp) ∧ w'.cell? ⟨bo, 3, none⟩ = some (.int .i64 kind) ∧ w'.cell? ⟨bo, 4, none⟩ = some (.string item) ∧ w'.cell? ⟨bo, 5, none⟩ = some (.int .i64 qty) ∧ w'.cell? ⟨bo, 6, none⟩ = some (.int .i64 level) ∧ w'.cell? ⟨bo, 7, none⟩ = some (.int .i64 undos) ∧ w'.cell? ⟨bx, 0, none⟩ = some (.int .i64 dev1) ∧ w'.cell? ⟨bx, 1, none⟩ = some (.int .i64 seq1) ∧ w'.cell? ⟨bx, 2, none⟩ = some (.int .i64 stamp1) ∧ w'.cell? ⟨bx, 3, none⟩ = some (.int .i64 kind1) ∧ w'.cell? ⟨bx, 4, none⟩ = some (.string item1) ∧ w'.cell? ⟨bx, 5, none⟩ = some (.int .i64 qty1) ∧ w'.cell? ⟨bx, 6, none⟩ = some (.int .i64 level1) ∧ w'.cell? ⟨bx, 7, none⟩ = some (.int .i64 undos1) ∧ w'.cell? ⟨bY, 0, none⟩ = some (.int .i64 0) ∧ w'.cell? ⟨bY, 1, none⟩ = some (.int .i64 0) ∧ w'.cell? ⟨bY, 2, none⟩ = some (.int .i64 0) ∧ w'.cell? ⟨bY, 3, none⟩ = some (.int .i64 0) ∧ w'.cell? ⟨bY, 4, none⟩ = some (.string ⟨#[]⟩) ∧ w'.cell? ⟨bY, 5, none⟩ = some (.int .i64 0) ∧ w'.cell? ⟨bY, 6, none⟩ = some (.int .i64 0) ∧ w'.cell? ⟨bY, 7, none⟩ = some (.int .i64 0) ∧ w'.cell? ⟨bz, 0, none⟩ = some (.int .i64 0) ∧ w'.cell? ⟨bz, 1, none⟩ = some (.int .i64 0) ∧ w'.cell? ⟨bz, 2, none⟩ = some (.int .i64 0) ∧ w'.cell? ⟨bz, 3, none⟩ = some (.int .i64 0) ∧ w'.cell? ⟨bz, 4, none⟩ = some (.string ⟨#[]⟩) ∧ w'.cell? ⟨bz, 5, none⟩ = some (.int .i64 0) ∧ w'.cell? ⟨bz, 6, none⟩ = some (.int .i64 0) ∧ w'.cell? ⟨bz, 7, none⟩ = some (.int .i64 0)) (by kernel_rfl) hS0 (fun hHeld => ?_)
      refine wpAnyH_take (i := 0) (oi := { dst := some 38, op := Op.move (Operand.tmp 4), type := 9, pos := "laws.go:188", after := #[], guard := none }) (v := ?_) rfl (by kernel_rfl) (by kernel_rfl) (by kernel_rfl) (fun _ _ _ h => h) (Or.inl ⟨by rfl, ?_⟩) (by assumption) ?_
      rotate_left
      · intro w hSw
        (try dsimp only at hSw)
        first | (go_simp; done) | (go_simp; with_reducible rfl)
      (try simp only [Act.put, List.setIfInBounds_toArray, List.set_cons_zero, List.set_cons_succ])
      refine wpAnyH_take (i := 1) (oi := { dst := some 39, op := Op.load 25 (Operand.tmp 3), type := 25, pos := "laws.go:188", after := #[], guard := none }) (v := ?_) rfl (by kernel_rfl) (by kernel_rfl) (by kernel_rfl) (fun _ _ _ h => h) (Or.inl ⟨by rfl, ?_⟩) (by assumption) ?_
      rotate_left
      · intro w hSw
        (try dsimp only at hSw)
        first | (go_simp; done) | (go_simp; with_reducible rfl)
      (try simp only [Act.put, List.setIfInBounds_toArray, List.set_cons_zero, List.set_cons_succ])
      refine wpAnyH_ready (rs := [2]) (by kernel_rfl) (by simp) ?_
      refine AllReadyH.cons (o := { dst := some 40, op := Op.call { callee := Callee.value (Operand.func 11), args := #[Operand.tmp 39], argTypes := #[25] }, type := 9, pos := "laws.go:188", after := #[{ on := 1, ground := Ground.data }], guard := none }) rfl (fun K hK => ?_) AllReadyH.nil
      go_simp
      go_at_call 11
      refine (HSp.out _).mono ?_
      rintro e y1 ⟨rfl, hb1⟩
      have hS1 : y1.cell? ⟨bo, 0, none⟩ = some (.int .i64 dev) ∧ y1.cell? ⟨bo, 1, none⟩ = some (.int .i64 seq) ∧ y1.cell? ⟨bo, 2, none⟩ = some (.int .i64 stamp) ∧ y1.cell? ⟨bo, 3, none⟩ = some (.int .i64 kind) ∧ y1.cell? ⟨bo, 4, none⟩ = some (.string item) ∧ y1.cell? ⟨bo, 5, none⟩ = some (.int .i64 qty) ∧ y1.cell? ⟨bo, 6, none⟩ = some (.int .i64 level) ∧ y1.cell? ⟨bo, 7, none⟩ = some (.int .i64 undos) ∧ y1.cell? ⟨bx, 0, none⟩ = some (.int .i64 dev1) ∧ y1.cell? ⟨bx, 1, none⟩ = some (.int .i64 seq1) ∧ y1.cell? ⟨bx, 2, none⟩ = some (.int .i64 stamp1) ∧ y1.cell? ⟨bx, 3, none⟩ = some (.int .i64 kind1) ∧ y1.cell? ⟨bx, 4, none⟩ = some (.string item1) ∧ y1.cell? ⟨bx, 5, none⟩ = some (.int .i64 qty1) ∧ y1.cell? ⟨bx, 6, none⟩ = some (.int .i64 level1) ∧ y1.cell? ⟨bx, 7, none⟩ = some (.int .i64 undos1) ∧ y1.cell? ⟨bY, 0, none⟩ = some (.int .i64 0) ∧ y1.cell? ⟨bY, 1, none⟩ = some (.int .i64 0) ∧ y1.cell? ⟨bY, 2, none⟩ = some (.int .i64 0) ∧ y1.cell? ⟨bY, 3, none⟩ = some (.int .i64 0) ∧ y1.cell? ⟨bY, 4, none⟩ = some (.string ⟨#[]⟩) ∧ y1.cell? ⟨bY, 5, none⟩ = some (.int .i64 0) ∧ y1.cell? ⟨bY, 6, none⟩ = some (.int .i64 0) ∧ y1.cell? ⟨bY, 7, none⟩ = some (.int .i64 0) ∧ y1.cell? ⟨bz, 0, none⟩ = some (.int .i64 0) ∧ y1.cell? ⟨bz, 1, none⟩ = some (.int .i64 0) ∧ y1.cell? ⟨bz, 2, none⟩ = some (.int .i64 0) ∧ y1.cell? ⟨bz, 3, none⟩ = some (.int .i64 0) ∧ y1.cell? ⟨bz, 4, none⟩ = some (.string ⟨#[]⟩) ∧ y1.cell? ⟨bz, 5, none⟩ = some (.int .i64 0) ∧ y1.cell? ⟨bz, 6, none⟩ = some (.int .i64 0) ∧ y1.cell? ⟨bz, 7, none⟩ = some (.int .i64 0) := by
          obtain ⟨q0, q1, q2, q3, q4, q5, q6, q7, q8, q9, q10, q11, q12, q13, q14, q15, q16, q17, q18, q19, q20, q21, q22, q23, q24, q25, q26, q27, q28, q29, q30, q31⟩ := hS0
          exact ⟨(hb1.cell (block_lt_of_cell q0)).trans q0, (hb1.cell (block_lt_of_cell q1)).trans q1, (hb1.cell (block_lt_of_cell q2)).trans q2, (hb1.cell (block_lt_of_cell q3)).trans q3, (hb1.cell (block_lt_of_cell q4)).trans q4, (hb1.cell (block_lt_of_cell q5)).trans q5, (hb1.cell (block_lt_of_cell q6)).trans q6, (hb1.cell (block_lt_of_cell q7)).trans q7, (hb1.cell (block_lt_of_cell q8)).trans q8, (hb1.cell (block_lt_of_cell q9)).trans q9, (hb1.cell (block_lt_of_cell q10)).trans q10, (hb1.cell (block_lt_of_cell q11)).trans q11, (hb1.cell (block_lt_of_cell q12)).trans q12, (hb1.cell (block_lt_of_cell q13)).trans q13, (hb1.cell (block_lt_of_cell q14)).trans q14, (hb1.cell (block_lt_of_cell q15)).trans q15, (hb1.cell (block_lt_of_cell q16)).trans q16, (hb1.cell (block_lt_of_cell q17)).trans q17, (hb1.cell (block_lt_of_cell q18)).trans q18, (hb1.cell (block_lt_of_cell q19)).trans q19, (hb1.cell (block_lt_of_cell q20)).trans q20, (hb1.cell (block_lt_of_cell q21)).trans q21, (hb1.cell (block_lt_of_cell q22)).trans q22, (hb1.cell (block_lt_of_cell q23)).trans q23, (hb1.cell (block_lt_of_cell q24)).trans q24, (hb1.cell (block_lt_of_cell q25)).trans q25, (hb1.cell (block_lt_of_cell q26)).trans q26, (hb1.cell (block_lt_of_cell q27)).trans q27, (hb1.cell (block_lt_of_cell q28)).trans q28, (hb1.cell (block_lt_of_cell q29)).trans q29, (hb1.cell (block_lt_of_cell q30)).trans q30, (hb1.cell (block_lt_of_cell q31)).trans q31⟩
      refine hK.out _ _ hS1 (fun hHeld2 => ?_)
      clear hK K
      (try simp only [Act.put, List.setIfInBounds_toArray, List.set_cons_zero, List.set_cons_succ])
      refine wpAnyH_take (i := 3) (oi := { dst := some 41, op := Op.binOp BinOp.neq 9 (Operand.tmp 38) (Operand.tmp 40) 9, type := 4, pos := "laws.go:188", after := #[{ on := 0, ground := Ground.data }, { on := 2, ground := Ground.data }], guard := none }) (v := ?_) rfl (by kernel_rfl) (by kernel_rfl) (by kernel_rfl) (fun _ _ _ h => h) (Or.inl ⟨by rfl, ?_⟩) (by assumption) ?_
      rotate_left
      · intro w hSw
        (try dsimp only at hSw)
        first | (go_simp; done) | (go_simp; with_reducible rfl)
      (try simp only [Act.put, List.setIfInBounds_toArray, List.set_cons_zero, List.set_cons_succ])
      refine wpAnyH_take (i := 4) (oi := { dst := some 42, op := Op.move (Operand.tmp 41), type := 4, pos := "laws.go:188", after := #[{ on := 3, ground := Ground.data }, { on := 2, ground := Ground.chain }], guard := none }) (v := ?_) rfl (by kernel_rfl) (by kernel_rfl) (by kernel_rfl) (fun _ _ _ h => h) (Or.inl ⟨by rfl, ?_⟩) (by assumption) ?_
      rotate_left
      · intro w hSw
        (try dsimp only at hSw)
        first | (go_simp; done) | (go_simp; with_reducible rfl)
      (try simp only [Act.put, List.setIfInBounds_toArray, List.set_cons_zero, List.set_cons_succ])
      refine wpAnyH_take (i := 5) (oi := { dst := some 43, op := Op.load 25 (Operand.tmp 5), type := 25, pos := "laws.go:188", after := #[{ on := 4, ground := Ground.guard }], guard := some (4, false) }) (v := ?_) rfl (by kernel_rfl) (by kernel_rfl) (by kernel_rfl) (fun _ _ _ h => h) (Or.inl ⟨by rfl, ?_⟩) (by assumption) ?_
      rotate_left
      · intro w hSw
        (try dsimp only at hSw)
        first | (go_simp; done) | (go_simp; with_reducible rfl)
      (try simp only [Act.put, List.setIfInBounds_toArray, List.set_cons_zero, List.set_cons_succ])
      refine wpAnyH_take (i := 7) (oi := { dst := some 45, op := Op.load 25 (Operand.tmp 5), type := 25, pos := "laws.go:188", after := #[{ on := 4, ground := Ground.guard }], guard := some (4, false) }) (v := ?_) rfl (by kernel_rfl) (by kernel_rfl) (by kernel_rfl) (fun _ _ _ h => h) (Or.inl ⟨by rfl, ?_⟩) (by assumption) ?_
      rotate_left
      · intro w hSw
        (try dsimp only at hSw)
        first | (go_simp; done) | (go_simp; with_reducible rfl)
      (try simp only [Act.put, List.setIfInBounds_toArray, List.set_cons_zero, List.set_cons_succ])
      refine wpAnyH_ready (rs := [6]) (by kernel_rfl) (by simp) ?_
      refine AllReadyH.cons (o := { dst := some 44, op := Op.call { callee := Callee.value (Operand.func 12), args := #[Operand.tmp 43], argTypes := #[25] }, type := 4, pos := "laws.go:188", after := #[{ on := 5, ground := Ground.data }, { on := 4, ground := Ground.chain }, { on := 4, ground := Ground.guard }], guard := some (4, false) }) rfl (fun K hK => ?_) AllReadyH.nil
      go_simp
      go_at_call 12
      refine (HO1.out _).mono ?_
      rintro e y2 ⟨rfl, hb2⟩
      have hS2 : y2.cell? ⟨bo, 0, none⟩ = some (.int .i64 dev) ∧ y2.cell? ⟨bo, 1, none⟩ = some (.int .i64 seq) ∧ y2.cell? ⟨bo, 2, none⟩ = some (.int .i64 stamp) ∧ y2.cell? ⟨bo, 3, none⟩ = some (.int .i64 kind) ∧ y2.cell? ⟨bo, 4, none⟩ = some (.string item) ∧ y2.cell? ⟨bo, 5, none⟩ = some (.int .i64 qty) ∧ y2.cell? ⟨bo, 6, none⟩ = some (.int .i64 level) ∧ y2.cell? ⟨bo, 7, none⟩ = some (.int .i64 undos) ∧ y2.cell? ⟨bx, 0, none⟩ = some (.int .i64 dev1) ∧ y2.cell? ⟨bx, 1, none⟩ = some (.int .i64 seq1) ∧ y2.cell? ⟨bx, 2, none⟩ = some (.int .i64 stamp1) ∧ y2.cell? ⟨bx, 3, none⟩ = some (.int .i64 kind1) ∧ y2.cell? ⟨bx, 4, none⟩ = some (.string item1) ∧ y2.cell? ⟨bx, 5, none⟩ = some (.int .i64 qty1) ∧ y2.cell? ⟨bx, 6, none⟩ = some (.int .i64 level1) ∧ y2.cell? ⟨bx, 7, none⟩ = some (.int .i64 undos1) ∧ y2.cell? ⟨bY, 0, none⟩ = some (.int .i64 0) ∧ y2.cell? ⟨bY, 1, none⟩ = some (.int .i64 0) ∧ y2.cell? ⟨bY, 2, none⟩ = some (.int .i64 0) ∧ y2.cell? ⟨bY, 3, none⟩ = some (.int .i64 0) ∧ y2.cell? ⟨bY, 4, none⟩ = some (.string ⟨#[]⟩) ∧ y2.cell? ⟨bY, 5, none⟩ = some (.int .i64 0) ∧ y2.cell? ⟨bY, 6, none⟩ = some (.int .i64 0) ∧ y2.cell? ⟨bY, 7, none⟩ = some (.int .i64 0) ∧ y2.cell? ⟨bz, 0, none⟩ = some (.int .i64 0) ∧ y2.cell? ⟨bz, 1, none⟩ = some (.int .i64 0) ∧ y2.cell? ⟨bz, 2, none⟩ = some (.int .i64 0) ∧ y2.cell? ⟨bz, 3, none⟩ = some (.int .i64 0) ∧ y2.cell? ⟨bz, 4, none⟩ = some (.string ⟨#[]⟩) ∧ y2.cell? ⟨bz, 5, none⟩ = some (.int .i64 0) ∧ y2.cell? ⟨bz, 6, none⟩ = some (.int .i64 0) ∧ y2.cell? ⟨bz, 7, none⟩ = some (.int .i64 0) := by
          obtain ⟨q0, q1, q2, q3, q4, q5, q6, q7, q8, q9, q10, q11, q12, q13, q14, q15, q16, q17, q18, q19, q20, q21, q22, q23, q24, q25, q26, q27, q28, q29, q30, q31⟩ := hS1
          exact ⟨(hb2.cell (block_lt_of_cell q0)).trans q0, (hb2.cell (block_lt_of_cell q1)).trans q1, (hb2.cell (block_lt_of_cell q2)).trans q2, (hb2.cell (block_lt_of_cell q3)).trans q3, (hb2.cell (block_lt_of_cell q4)).trans q4, (hb2.cell (block_lt_of_cell q5)).trans q5, (hb2.cell (block_lt_of_cell q6)).trans q6, (hb2.cell (block_lt_of_cell q7)).trans q7, (hb2.cell (block_lt_of_cell q8)).trans q8, (hb2.cell (block_lt_of_cell q9)).trans q9, (hb2.cell (block_lt_of_cell q10)).trans q10, (hb2.cell (block_lt_of_cell q11)).trans q11, (hb2.cell (block_lt_of_cell q12)).trans q12, (hb2.cell (block_lt_of_cell q13)).trans q13, (hb2.cell (block_lt_of_cell q14)).trans q14, (hb2.cell (block_lt_of_cell q15)).trans q15, (hb2.cell (block_lt_of_cell q16)).trans q16, (hb2.cell (block_lt_of_cell q17)).trans q17, (hb2.cell (block_lt_of_cell q18)).trans q18, (hb2.cell (block_lt_of_cell q19)).trans q19, (hb2.cell (block_lt_of_cell q20)).trans q20, (hb2.cell (block_lt_of_cell q21)).trans q21, (hb2.cell (block_lt_of_cell q22)).trans q22, (hb2.cell (block_lt_of_cell q23)).trans q23, (hb2.cell (block_lt_of_cell q24)).trans q24, (hb2.cell (block_lt_of_cell q25)).trans q25, (hb2.cell (block_lt_of_cell q26)).trans q26, (hb2.cell (block_lt_of_cell q27)).trans q27, (hb2.cell (block_lt_of_cell q28)).trans q28, (hb2.cell (block_lt_of_cell q29)).trans q29, (hb2.cell (block_lt_of_cell q30)).trans q30, (hb2.cell (block_lt_of_cell q31)).trans q31⟩
      refine hK.out _ _ hS2 (fun hHeld3 => ?_)
      clear hK K
      (try simp only [Act.put, List.setIfInBounds_toArray, List.set_cons_zero, List.set_cons_succ])
      refine wpAnyH_ready (rs := [8]) (by kernel_rfl) (by simp) ?_
      refine AllReadyH.cons (o := { dst := some 46, op := Op.call { callee := Callee.value (Operand.func 13), args := #[Operand.tmp 45], argTypes := #[25] }, type := 4, pos := "laws.go:188", after := #[{ on := 7, ground := Ground.data }, { on := 6, ground := Ground.chain }, { on := 4, ground := Ground.guard }], guard := some (4, false) }) rfl (fun K hK => ?_) AllReadyH.nil
      go_simp
      go_at_call 13
      refine (HO2.out _).mono ?_
      rintro e y3 ⟨rfl, hb3⟩
      have hS3 : y3.cell? ⟨bo, 0, none⟩ = some (.int .i64 dev) ∧ y3.cell? ⟨bo, 1, none⟩ = some (.int .i64 seq) ∧ y3.cell? ⟨bo, 2, none⟩ = some (.int .i64 stamp) ∧ y3.cell? ⟨bo, 3, none⟩ = some (.int .i64 kind) ∧ y3.cell? ⟨bo, 4, none⟩ = some (.string item) ∧ y3.cell? ⟨bo, 5, none⟩ = some (.int .i64 qty) ∧ y3.cell? ⟨bo, 6, none⟩ = some (.int .i64 level) ∧ y3.cell? ⟨bo, 7, none⟩ = some (.int .i64 undos) ∧ y3.cell? ⟨bx, 0, none⟩ = some (.int .i64 dev1) ∧ y3.cell? ⟨bx, 1, none⟩ = some (.int .i64 seq1) ∧ y3.cell? ⟨bx, 2, none⟩ = some (.int .i64 stamp1) ∧ y3.cell? ⟨bx, 3, none⟩ = some (.int .i64 kind1) ∧ y3.cell? ⟨bx, 4, none⟩ = some (.string item1) ∧ y3.cell? ⟨bx, 5, none⟩ = some (.int .i64 qty1) ∧ y3.cell? ⟨bx, 6, none⟩ = some (.int .i64 level1) ∧ y3.cell? ⟨bx, 7, none⟩ = some (.int .i64 undos1) ∧ y3.cell? ⟨bY, 0, none⟩ = some (.int .i64 0) ∧ y3.cell? ⟨bY, 1, none⟩ = some (.int .i64 0) ∧ y3.cell? ⟨bY, 2, none⟩ = some (.int .i64 0) ∧ y3.cell? ⟨bY, 3, none⟩ = some (.int .i64 0) ∧ y3.cell? ⟨bY, 4, none⟩ = some (.string ⟨#[]⟩) ∧ y3.cell? ⟨bY, 5, none⟩ = some (.int .i64 0) ∧ y3.cell? ⟨bY, 6, none⟩ = some (.int .i64 0) ∧ y3.cell? ⟨bY, 7, none⟩ = some (.int .i64 0) ∧ y3.cell? ⟨bz, 0, none⟩ = some (.int .i64 0) ∧ y3.cell? ⟨bz, 1, none⟩ = some (.int .i64 0) ∧ y3.cell? ⟨bz, 2, none⟩ = some (.int .i64 0) ∧ y3.cell? ⟨bz, 3, none⟩ = some (.int .i64 0) ∧ y3.cell? ⟨bz, 4, none⟩ = some (.string ⟨#[]⟩) ∧ y3.cell? ⟨bz, 5, none⟩ = some (.int .i64 0) ∧ y3.cell? ⟨bz, 6, none⟩ = some (.int .i64 0) ∧ y3.cell? ⟨bz, 7, none⟩ = some (.int .i64 0) := by
          obtain ⟨q0, q1, q2, q3, q4, q5, q6, q7, q8, q9, q10, q11, q12, q13, q14, q15, q16, q17, q18, q19, q20, q21, q22, q23, q24, q25, q26, q27, q28, q29, q30, q31⟩ := hS2
          exact ⟨(hb3.cell (block_lt_of_cell q0)).trans q0, (hb3.cell (block_lt_of_cell q1)).trans q1, (hb3.cell (block_lt_of_cell q2)).trans q2, (hb3.cell (block_lt_of_cell q3)).trans q3, (hb3.cell (block_lt_of_cell q4)).trans q4, (hb3.cell (block_lt_of_cell q5)).trans q5, (hb3.cell (block_lt_of_cell q6)).trans q6, (hb3.cell (block_lt_of_cell q7)).trans q7, (hb3.cell (block_lt_of_cell q8)).trans q8, (hb3.cell (block_lt_of_cell q9)).trans q9, (hb3.cell (block_lt_of_cell q10)).trans q10, (hb3.cell (block_lt_of_cell q11)).trans q11, (hb3.cell (block_lt_of_cell q12)).trans q12, (hb3.cell (block_lt_of_cell q13)).trans q13, (hb3.cell (block_lt_of_cell q14)).trans q14, (hb3.cell (block_lt_of_cell q15)).trans q15, (hb3.cell (block_lt_of_cell q16)).trans q16, (hb3.cell (block_lt_of_cell q17)).trans q17, (hb3.cell (block_lt_of_cell q18)).trans q18, (hb3.cell (block_lt_of_cell q19)).trans q19, (hb3.cell (block_lt_of_cell q20)).trans q20, (hb3.cell (block_lt_of_cell q21)).trans q21, (hb3.cell (block_lt_of_cell q22)).trans q22, (hb3.cell (block_lt_of_cell q23)).trans q23, (hb3.cell (block_lt_of_cell q24)).trans q24, (hb3.cell (block_lt_of_cell q25)).trans q25, (hb3.cell (block_lt_of_cell q26)).trans q26, (hb3.cell (block_lt_of_cell q27)).trans q27, (hb3.cell (block_lt_of_cell q28)).trans q28, (hb3.cell (block_lt_of_cell q29)).trans q29, (hb3.cell (block_lt_of_cell q30)).trans q30, (hb3.cell (block_lt_of_cell q31)).trans q31⟩
      refine hK.out _ _ hS3 (fun hHeld4 => ?_)
      clear hK K
      (try simp only [Act.put, List.setIfInBounds_toArray, List.set_cons_zero, List.set_cons_succ])
      refine wpAnyH_take (i := 9) (oi := { dst := some 47, op := Op.binOp BinOp.neq 4 (Operand.tmp 44) (Operand.tmp 46) 4, type := 4, pos := "laws.go:188", after := #[{ on := 6, ground := Ground.data }, { on := 8, ground := Ground.data }, { on := 4, ground := Ground.guard }], guard := some (4, false) }) (v := ?_) rfl (by kernel_rfl) (by kernel_rfl) (by kernel_rfl) (fun _ _ _ h => h) (Or.inl ⟨by rfl, ?_⟩) (by assumption) ?_
      rotate_left
      · intro w hSw
        (try dsimp only at hSw)
        first | (go_simp; done) | (go_simp; with_reducible rfl)
      (try simp only [Act.put, List.setIfInBounds_toArray, List.set_cons_zero, List.set_cons_succ])
      refine wpAnyH_take (i := 10) (oi := { dst := some 48, op := Op.pick (Operand.tmp 42) (Operand.const (Value.bool true)) (Operand.tmp 47), type := 4, pos := "laws.go:188", after := #[{ on := 4, ground := Ground.data }, { on := 9, ground := Ground.data }], guard := none }) (v := ?_) rfl (by kernel_rfl) (by kernel_rfl) (by kernel_rfl) (fun _ _ _ h => h) (Or.inl ⟨by rfl, ?_⟩) (by assumption) ?_
      rotate_left
      · intro w hSw
        (try dsimp only at hSw)
        first | (go_simp; done) | (go_simp; with_reducible rfl)
      (try simp only [Act.put, List.setIfInBounds_toArray, List.set_cons_zero, List.set_cons_succ])
      refine wpAnyH_take (i := 11) (oi := { dst := some 49, op := Op.move (Operand.tmp 48), type := 4, pos := "laws.go:188", after := #[{ on := 10, ground := Ground.data }, { on := 8, ground := Ground.chain }], guard := none }) (v := ?_) rfl (by kernel_rfl) (by kernel_rfl) (by kernel_rfl) (fun _ _ _ h => h) (Or.inl ⟨by rfl, ?_⟩) (by assumption) ?_
      rotate_left
      · intro w hSw
        (try dsimp only at hSw)
        first | (go_simp; done) | (go_simp; with_reducible rfl)
      (try simp only [Act.put, List.setIfInBounds_toArray, List.set_cons_zero, List.set_cons_succ])
      refine wpAnyH_take (i := 12) (oi := { dst := some 50, op := Op.load 25 (Operand.tmp 7), type := 25, pos := "laws.go:188", after := #[{ on := 11, ground := Ground.guard }], guard := some (11, false) }) (v := ?_) rfl (by kernel_rfl) (by kernel_rfl) (by kernel_rfl) (fun _ _ _ h => h) (Or.inl ⟨by rfl, ?_⟩) (by assumption) ?_
      rotate_left
      · intro w hSw
        (try dsimp only at hSw)
        first | (go_simp; done) | (go_simp; with_reducible rfl)
      (try simp only [Act.put, List.setIfInBounds_toArray, List.set_cons_zero, List.set_cons_succ])
      refine wpAnyH_take (i := 13) (oi := { dst := some 51, op := Op.load 25 (Operand.tmp 10), type := 25, pos := "laws.go:188", after := #[{ on := 11, ground := Ground.guard }], guard := some (11, false) }) (v := ?_) rfl (by kernel_rfl) (by kernel_rfl) (by kernel_rfl) (fun _ _ _ h => h) (Or.inl ⟨by rfl, ?_⟩) (by assumption) ?_
      rotate_left
      · intro w hSw
        (try dsimp only at hSw)
        first | (go_simp; done) | (go_simp; with_reducible rfl)
      (try simp only [Act.put, List.setIfInBounds_toArray, List.set_cons_zero, List.set_cons_succ])
      refine wpAnyH_take (i := 14) (oi := { dst := some 52, op := Op.binOp BinOp.neq 25 (Operand.tmp 50) (Operand.tmp 51) 25, type := 4, pos := "laws.go:188", after := #[{ on := 12, ground := Ground.data }, { on := 13, ground := Ground.data }, { on := 11, ground := Ground.guard }], guard := some (11, false) }) (v := ?_) rfl (by kernel_rfl) (by kernel_rfl) (by kernel_rfl) (fun _ _ _ h => h) (Or.inl ⟨by rfl, ?_⟩) (by assumption) ?_
      rotate_left
      · intro w hSw
        (try dsimp only at hSw)
        first | (go_simp; done) | (go_simp; with_reducible rfl)
      (try simp only [Act.put, List.setIfInBounds_toArray, List.set_cons_zero, List.set_cons_succ])
      refine wpAnyH_take (i := 15) (oi := { dst := some 53, op := Op.pick (Operand.tmp 49) (Operand.const (Value.bool true)) (Operand.tmp 52), type := 4, pos := "laws.go:188", after := #[{ on := 11, ground := Ground.data }, { on := 14, ground := Ground.data }], guard := none }) (v := ?_) rfl (by kernel_rfl) (by kernel_rfl) (by kernel_rfl) (fun _ _ _ h => h) (Or.inl ⟨by rfl, ?_⟩) (by assumption) ?_
      rotate_left
      · intro w hSw
        (try dsimp only at hSw)
        first | (go_simp; done) | (go_simp; with_reducible rfl)
      (try simp only [Act.put, List.setIfInBounds_toArray, List.set_cons_zero, List.set_cons_succ])
      refine wpAnyH_take (i := 16) (oi := { dst := some 54, op := Op.move (Operand.tmp 53), type := 4, pos := "laws.go:188", after := #[{ on := 15, ground := Ground.data }, { on := 11, ground := Ground.chain }], guard := none }) (v := ?_) rfl (by kernel_rfl) (by kernel_rfl) (by kernel_rfl) (fun _ _ _ h => h) (Or.inl ⟨by rfl, ?_⟩) (by assumption) ?_
      rotate_left
      · intro w hSw
        (try dsimp only at hSw)
        first | (go_simp; done) | (go_simp; with_reducible rfl)
      (try simp only [Act.put, List.setIfInBounds_toArray, List.set_cons_zero, List.set_cons_succ])
      refine wpAnyH_take (i := 17) (oi := { dst := some 55, op := Op.move (Operand.tmp 8), type := 2, pos := "laws.go:188", after := #[{ on := 16, ground := Ground.guard }], guard := some (16, false) }) (v := ?_) rfl (by kernel_rfl) (by kernel_rfl) (by kernel_rfl) (fun _ _ _ h => h) (Or.inl ⟨by rfl, ?_⟩) (by assumption) ?_
      rotate_left
      · intro w hSw
        (try dsimp only at hSw)
        first | (go_simp; done) | (go_simp; with_reducible rfl)
      (try simp only [Act.put, List.setIfInBounds_toArray, List.set_cons_zero, List.set_cons_succ])
      refine wpAnyH_take (i := 18) (oi := { dst := some 56, op := Op.move (Operand.tmp 11), type := 2, pos := "laws.go:188", after := #[{ on := 16, ground := Ground.guard }], guard := some (16, false) }) (v := ?_) rfl (by kernel_rfl) (by kernel_rfl) (by kernel_rfl) (fun _ _ _ h => h) (Or.inl ⟨by rfl, ?_⟩) (by assumption) ?_
      rotate_left
      · intro w hSw
        (try dsimp only at hSw)
        first | (go_simp; done) | (go_simp; with_reducible rfl)
      (try simp only [Act.put, List.setIfInBounds_toArray, List.set_cons_zero, List.set_cons_succ])
      refine wpAnyH_take (i := 19) (oi := { dst := some 57, op := Op.binOp BinOp.neq 2 (Operand.tmp 55) (Operand.tmp 56) 2, type := 4, pos := "laws.go:188", after := #[{ on := 17, ground := Ground.data }, { on := 18, ground := Ground.data }, { on := 16, ground := Ground.guard }], guard := some (16, false) }) (v := ?_) rfl (by kernel_rfl) (by kernel_rfl) (by kernel_rfl) (fun _ _ _ h => h) (Or.inl ⟨by rfl, ?_⟩) (by assumption) ?_
      rotate_left
      · intro w hSw
        (try dsimp only at hSw)
        first | (go_simp; done) | (go_simp; with_reducible rfl)
      (try simp only [Act.put, List.setIfInBounds_toArray, List.set_cons_zero, List.set_cons_succ])
      refine wpAnyH_take (i := 20) (oi := { dst := some 58, op := Op.pick (Operand.tmp 54) (Operand.const (Value.bool true)) (Operand.tmp 57), type := 4, pos := "laws.go:188", after := #[{ on := 16, ground := Ground.data }, { on := 19, ground := Ground.data }], guard := none }) (v := ?_) rfl (by kernel_rfl) (by kernel_rfl) (by kernel_rfl) (fun _ _ _ h => h) (Or.inl ⟨by rfl, ?_⟩) (by assumption) ?_
      rotate_left
      · intro w hSw
        (try dsimp only at hSw)
        first | (go_simp; done) | (go_simp; with_reducible rfl)
      (try simp only [Act.put, List.setIfInBounds_toArray, List.set_cons_zero, List.set_cons_succ])
      refine wpAnyH_take (i := 21) (oi := { dst := some 59, op := Op.move (Operand.tmp 58), type := 4, pos := "laws.go:188", after := #[{ on := 20, ground := Ground.data }, { on := 16, ground := Ground.chain }], guard := none }) (v := ?_) rfl (by kernel_rfl) (by kernel_rfl) (by kernel_rfl) (fun _ _ _ h => h) (Or.inl ⟨by rfl, ?_⟩) (by assumption) ?_
      rotate_left
      · intro w hSw
        (try dsimp only at hSw)
        first | (go_simp; done) | (go_simp; with_reducible rfl)
      (try simp only [Act.put, List.setIfInBounds_toArray, List.set_cons_zero, List.set_cons_succ])
      refine wpAnyH_take (i := 22) (oi := { dst := some 60, op := Op.move (Operand.tmp 9), type := 4, pos := "laws.go:188", after := #[{ on := 21, ground := Ground.guard }], guard := some (21, false) }) (v := ?_) rfl (by kernel_rfl) (by kernel_rfl) (by kernel_rfl) (fun _ _ _ h => h) (Or.inl ⟨by rfl, ?_⟩) (by assumption) ?_
      rotate_left
      · intro w hSw
        (try dsimp only at hSw)
        first | (go_simp; done) | (go_simp; with_reducible rfl)
      (try simp only [Act.put, List.setIfInBounds_toArray, List.set_cons_zero, List.set_cons_succ])
      refine wpAnyH_take (i := 23) (oi := { dst := some 61, op := Op.move (Operand.tmp 12), type := 4, pos := "laws.go:188", after := #[{ on := 21, ground := Ground.guard }], guard := some (21, false) }) (v := ?_) rfl (by kernel_rfl) (by kernel_rfl) (by kernel_rfl) (fun _ _ _ h => h) (Or.inl ⟨by rfl, ?_⟩) (by assumption) ?_
      rotate_left
      · intro w hSw
        (try dsimp only at hSw)
        first | (go_simp; done) | (go_simp; with_reducible rfl)
      (try simp only [Act.put, List.setIfInBounds_toArray, List.set_cons_zero, List.set_cons_succ])
      refine wpAnyH_take (i := 24) (oi := { dst := some 62, op := Op.binOp BinOp.neq 4 (Operand.tmp 60) (Operand.tmp 61) 4, type := 4, pos := "laws.go:188", after := #[{ on := 22, ground := Ground.data }, { on := 23, ground := Ground.data }, { on := 21, ground := Ground.guard }], guard := some (21, false) }) (v := ?_) rfl (by kernel_rfl) (by kernel_rfl) (by kernel_rfl) (fun _ _ _ h => h) (Or.inl ⟨by rfl, ?_⟩) (by assumption) ?_
      rotate_left
      · intro w hSw
        (try dsimp only at hSw)
        first | (go_simp; done) | (go_simp; with_reducible rfl)
      (try simp only [Act.put, List.setIfInBounds_toArray, List.set_cons_zero, List.set_cons_succ])
      refine wpAnyH_take (i := 25) (oi := { dst := some 63, op := Op.pick (Operand.tmp 59) (Operand.const (Value.bool true)) (Operand.tmp 62), type := 4, pos := "laws.go:188", after := #[{ on := 21, ground := Ground.data }, { on := 24, ground := Ground.data }], guard := none }) (v := ?_) rfl (by kernel_rfl) (by kernel_rfl) (by kernel_rfl) (fun _ _ _ h => h) (Or.inl ⟨by rfl, ?_⟩) (by assumption) ?_
      rotate_left
      · intro w hSw
        (try dsimp only at hSw)
        first | (go_simp; done) | (go_simp; with_reducible rfl)
      (try simp only [Act.put, List.setIfInBounds_toArray, List.set_cons_zero, List.set_cons_succ])
      refine wpAnyH_take (i := 26) (oi := { dst := some 64, op := Op.move (Operand.tmp 63), type := 4, pos := "laws.go:188", after := #[{ on := 25, ground := Ground.data }, { on := 21, ground := Ground.chain }], guard := none }) (v := ?_) rfl (by kernel_rfl) (by kernel_rfl) (by kernel_rfl) (fun _ _ _ h => h) (Or.inl ⟨by rfl, ?_⟩) (by assumption) ?_
      rotate_left
      · intro w hSw
        (try dsimp only at hSw)
        first | (go_simp; done) | (go_simp; with_reducible rfl)
      (try simp only [Act.put, List.setIfInBounds_toArray, List.set_cons_zero, List.set_cons_succ])
      refine wpAnyH_take (i := 27) (oi := { dst := some 65, op := Op.move (Operand.tmp 9), type := 4, pos := "laws.go:188", after := #[{ on := 26, ground := Ground.guard }], guard := some (26, false) }) (v := ?_) rfl (by kernel_rfl) (by kernel_rfl) (by kernel_rfl) (fun _ _ _ h => h) (Or.inl ⟨by rfl, ?_⟩) (by assumption) ?_
      rotate_left
      · intro w hSw
        (try dsimp only at hSw)
        first | (go_simp; done) | (go_simp; with_reducible rfl)
      (try simp only [Act.put, List.setIfInBounds_toArray, List.set_cons_zero, List.set_cons_succ])
      refine wpAnyH_take (i := 28) (oi := { dst := some 66, op := Op.move (Operand.tmp 65), type := 4, pos := "laws.go:188", after := #[{ on := 27, ground := Ground.data }, { on := 26, ground := Ground.chain }, { on := 26, ground := Ground.guard }], guard := some (26, false) }) (v := ?_) rfl (by kernel_rfl) (by kernel_rfl) (by kernel_rfl) (fun _ _ _ h => h) (Or.inl ⟨by rfl, ?_⟩) (by assumption) ?_
      rotate_left
      · intro w hSw
        (try dsimp only at hSw)
        first | (go_simp; done) | (go_simp; with_reducible rfl)
      (try simp only [Act.put, List.setIfInBounds_toArray, List.set_cons_zero, List.set_cons_succ])
      refine wpAnyH_take (i := 29) (oi := { dst := some 67, op := Op.load 25 (Operand.tmp 7), type := 25, pos := "laws.go:188", after := #[{ on := 28, ground := Ground.guard }], guard := some (28, true) }) (v := undef) rfl (by kernel_rfl) (by kernel_rfl) (by kernel_rfl) (fun _ _ _ h => h) (Or.inr ⟨by rfl, rfl⟩) (by assumption) ?_
      (try simp only [Act.put, List.setIfInBounds_toArray, List.set_cons_zero, List.set_cons_succ])
      refine wpAnyH_take (i := 30) (oi := { dst := some 68, op := Op.call { callee := Callee.value (Operand.func 6), args := #[Operand.tmp 67], argTypes := #[25] }, type := 9, pos := "laws.go:188", after := #[{ on := 29, ground := Ground.data }, { on := 28, ground := Ground.chain }, { on := 28, ground := Ground.guard }], guard := some (28, true) }) (v := undef) rfl (by kernel_rfl) (by kernel_rfl) (by kernel_rfl) (fun _ _ _ h => h) (Or.inr ⟨by rfl, rfl⟩) (by assumption) ?_
      (try simp only [Act.put, List.setIfInBounds_toArray, List.set_cons_zero, List.set_cons_succ])
      refine wpAnyH_take (i := 31) (oi := { dst := some 69, op := Op.move (Operand.tmp 6), type := 9, pos := "laws.go:188", after := #[{ on := 28, ground := Ground.guard }], guard := some (28, true) }) (v := undef) rfl (by kernel_rfl) (by kernel_rfl) (by kernel_rfl) (fun _ _ _ h => h) (Or.inr ⟨by rfl, rfl⟩) (by assumption) ?_
      (try simp only [Act.put, List.setIfInBounds_toArray, List.set_cons_zero, List.set_cons_succ])
      refine wpAnyH_take (i := 32) (oi := { dst := some 70, op := Op.move (Operand.tmp 8), type := 2, pos := "laws.go:188", after := #[{ on := 28, ground := Ground.guard }], guard := some (28, true) }) (v := undef) rfl (by kernel_rfl) (by kernel_rfl) (by kernel_rfl) (fun _ _ _ h => h) (Or.inr ⟨by rfl, rfl⟩) (by assumption) ?_
      (try simp only [Act.put, List.setIfInBounds_toArray, List.set_cons_zero, List.set_cons_succ])
      refine wpAnyH_take (i := 33) (oi := { dst := some 71, op := Op.slice 9 (Operand.tmp 69) none (some (Operand.tmp 70)) none, type := 9, pos := "laws.go:188", after := #[{ on := 31, ground := Ground.data }, { on := 32, ground := Ground.data }, { on := 28, ground := Ground.guard }], guard := some (28, true) }) (v := undef) rfl (by kernel_rfl) (by kernel_rfl) (by kernel_rfl) (fun _ _ _ h => h) (Or.inr ⟨by rfl, rfl⟩) (by assumption) ?_
      (try simp only [Act.put, List.setIfInBounds_toArray, List.set_cons_zero, List.set_cons_succ])
      refine wpAnyH_take (i := 34) (oi := { dst := some 72, op := Op.binOp BinOp.neq 9 (Operand.tmp 68) (Operand.tmp 71) 9, type := 4, pos := "laws.go:188", after := #[{ on := 30, ground := Ground.data }, { on := 33, ground := Ground.data }, { on := 28, ground := Ground.guard }], guard := some (28, true) }) (v := undef) rfl (by kernel_rfl) (by kernel_rfl) (by kernel_rfl) (fun _ _ _ h => h) (Or.inr ⟨by rfl, rfl⟩) (by assumption) ?_
      (try simp only [Act.put, List.setIfInBounds_toArray, List.set_cons_zero, List.set_cons_succ])
      refine wpAnyH_take (i := 35) (oi := { dst := some 73, op := Op.pick (Operand.tmp 66) (Operand.tmp 72) (Operand.const (Value.bool false)), type := 4, pos := "laws.go:188", after := #[{ on := 28, ground := Ground.data }, { on := 34, ground := Ground.data }, { on := 26, ground := Ground.guard }], guard := some (26, false) }) (v := ?_) rfl (by kernel_rfl) (by kernel_rfl) (by kernel_rfl) (fun _ _ _ h => h) (Or.inl ⟨by rfl, ?_⟩) (by assumption) ?_
      rotate_left
      · intro w hSw
        (try dsimp only at hSw)
        first | (go_simp; done) | (go_simp; with_reducible rfl)
      (try simp only [Act.put, List.setIfInBounds_toArray, List.set_cons_zero, List.set_cons_succ])
      refine wpAnyH_take (i := 36) (oi := { dst := some 74, op := Op.pick (Operand.tmp 64) (Operand.const (Value.bool true)) (Operand.tmp 73), type := 4, pos := "laws.go:188", after := #[{ on := 26, ground := Ground.data }, { on := 35, ground := Ground.data }], guard := none }) (v := ?_) rfl (by kernel_rfl) (by kernel_rfl) (by kernel_rfl) (fun _ _ _ h => h) (Or.inl ⟨by rfl, ?_⟩) (by assumption) ?_
      rotate_left
      · intro w hSw
        (try dsimp only at hSw)
        first | (go_simp; done) | (go_simp; with_reducible rfl)
      (try simp only [Act.put, List.setIfInBounds_toArray, List.set_cons_zero, List.set_cons_succ])
      refine wpAnyH_take (i := 37) (oi := { dst := some 75, op := Op.move (Operand.tmp 74), type := 4, pos := "laws.go:188", after := #[{ on := 36, ground := Ground.data }, { on := 30, ground := Ground.chain }], guard := none }) (v := ?_) rfl (by kernel_rfl) (by kernel_rfl) (by kernel_rfl) (fun _ _ _ h => h) (Or.inl ⟨by rfl, ?_⟩) (by assumption) ?_
      rotate_left
      · intro w hSw
        (try dsimp only at hSw)
        first | (go_simp; done) | (go_simp; with_reducible rfl)
      (try simp only [Act.put, List.setIfInBounds_toArray, List.set_cons_zero, List.set_cons_succ])
      refine wpAnyH_take (i := 38) (oi := { dst := some 76, op := Op.load 25 (Operand.tmp 3), type := 25, pos := "laws.go:188", after := #[{ on := 37, ground := Ground.guard }], guard := some (37, false) }) (v := ?_) rfl (by kernel_rfl) (by kernel_rfl) (by kernel_rfl) (fun _ _ _ h => h) (Or.inl ⟨by rfl, ?_⟩) (by assumption) ?_
      rotate_left
      · intro w hSw
        (try dsimp only at hSw)
        first | (go_simp; done) | (go_simp; with_reducible rfl)
      (try simp only [Act.put, List.setIfInBounds_toArray, List.set_cons_zero, List.set_cons_succ])
      refine wpAnyH_take (i := 40) (oi := { dst := some 78, op := Op.move (Operand.tmp 4), type := 9, pos := "laws.go:188", after := #[{ on := 37, ground := Ground.guard }], guard := some (37, false) }) (v := ?_) rfl (by kernel_rfl) (by kernel_rfl) (by kernel_rfl) (fun _ _ _ h => h) (Or.inl ⟨by rfl, ?_⟩) (by assumption) ?_
      rotate_left
      · intro w hSw
        (try dsimp only at hSw)
        first | (go_simp; done) | (go_simp; with_reducible rfl)
      (try simp only [Act.put, List.setIfInBounds_toArray, List.set_cons_zero, List.set_cons_succ])
      refine wpAnyH_take (i := 41) (oi := { dst := some 79, op := Op.binOp BinOp.neq 9 (Operand.tmp 78) (Operand.const (Value.string { data := #[] })) 9, type := 4, pos := "laws.go:188", after := #[{ on := 40, ground := Ground.data }, { on := 37, ground := Ground.guard }], guard := some (37, false) }) (v := ?_) rfl (by kernel_rfl) (by kernel_rfl) (by kernel_rfl) (fun _ _ _ h => h) (Or.inl ⟨by rfl, ?_⟩) (by assumption) ?_
      rotate_left
      · intro w hSw
        (try dsimp only at hSw)
        first | (go_simp; done) | (go_simp; with_reducible rfl)
      (try simp only [Act.put, List.setIfInBounds_toArray, List.set_cons_zero, List.set_cons_succ])
      refine wpAnyH_ready (rs := [39]) (by kernel_rfl) (by simp) ?_
      refine AllReadyH.cons (o := { dst := some 77, op := Op.call { callee := Callee.value (Operand.func 12), args := #[Operand.tmp 76], argTypes := #[25] }, type := 4, pos := "laws.go:188", after := #[{ on := 38, ground := Ground.data }, { on := 37, ground := Ground.chain }, { on := 37, ground := Ground.guard }], guard := some (37, false) }) rfl (fun K hK => ?_) AllReadyH.nil
      go_simp
      go_at_call 12
      refine (HOk.out _).mono ?_
      rintro e y5 ⟨rfl, hb5⟩
      have hS5 : y5.cell? ⟨bo, 0, none⟩ = some (.int .i64 dev) ∧ y5.cell? ⟨bo, 1, none⟩ = some (.int .i64 seq) ∧ y5.cell? ⟨bo, 2, none⟩ = some (.int .i64 stamp) ∧ y5.cell? ⟨bo, 3, none⟩ = some (.int .i64 kind) ∧ y5.cell? ⟨bo, 4, none⟩ = some (.string item) ∧ y5.cell? ⟨bo, 5, none⟩ = some (.int .i64 qty) ∧ y5.cell? ⟨bo, 6, none⟩ = some (.int .i64 level) ∧ y5.cell? ⟨bo, 7, none⟩ = some (.int .i64 undos) ∧ y5.cell? ⟨bx, 0, none⟩ = some (.int .i64 dev1) ∧ y5.cell? ⟨bx, 1, none⟩ = some (.int .i64 seq1) ∧ y5.cell? ⟨bx, 2, none⟩ = some (.int .i64 stamp1) ∧ y5.cell? ⟨bx, 3, none⟩ = some (.int .i64 kind1) ∧ y5.cell? ⟨bx, 4, none⟩ = some (.string item1) ∧ y5.cell? ⟨bx, 5, none⟩ = some (.int .i64 qty1) ∧ y5.cell? ⟨bx, 6, none⟩ = some (.int .i64 level1) ∧ y5.cell? ⟨bx, 7, none⟩ = some (.int .i64 undos1) ∧ y5.cell? ⟨bY, 0, none⟩ = some (.int .i64 0) ∧ y5.cell? ⟨bY, 1, none⟩ = some (.int .i64 0) ∧ y5.cell? ⟨bY, 2, none⟩ = some (.int .i64 0) ∧ y5.cell? ⟨bY, 3, none⟩ = some (.int .i64 0) ∧ y5.cell? ⟨bY, 4, none⟩ = some (.string ⟨#[]⟩) ∧ y5.cell? ⟨bY, 5, none⟩ = some (.int .i64 0) ∧ y5.cell? ⟨bY, 6, none⟩ = some (.int .i64 0) ∧ y5.cell? ⟨bY, 7, none⟩ = some (.int .i64 0) ∧ y5.cell? ⟨bz, 0, none⟩ = some (.int .i64 0) ∧ y5.cell? ⟨bz, 1, none⟩ = some (.int .i64 0) ∧ y5.cell? ⟨bz, 2, none⟩ = some (.int .i64 0) ∧ y5.cell? ⟨bz, 3, none⟩ = some (.int .i64 0) ∧ y5.cell? ⟨bz, 4, none⟩ = some (.string ⟨#[]⟩) ∧ y5.cell? ⟨bz, 5, none⟩ = some (.int .i64 0) ∧ y5.cell? ⟨bz, 6, none⟩ = some (.int .i64 0) ∧ y5.cell? ⟨bz, 7, none⟩ = some (.int .i64 0) := by
          obtain ⟨q0, q1, q2, q3, q4, q5, q6, q7, q8, q9, q10, q11, q12, q13, q14, q15, q16, q17, q18, q19, q20, q21, q22, q23, q24, q25, q26, q27, q28, q29, q30, q31⟩ := hS3
          exact ⟨(hb5.cell (block_lt_of_cell q0)).trans q0, (hb5.cell (block_lt_of_cell q1)).trans q1, (hb5.cell (block_lt_of_cell q2)).trans q2, (hb5.cell (block_lt_of_cell q3)).trans q3, (hb5.cell (block_lt_of_cell q4)).trans q4, (hb5.cell (block_lt_of_cell q5)).trans q5, (hb5.cell (block_lt_of_cell q6)).trans q6, (hb5.cell (block_lt_of_cell q7)).trans q7, (hb5.cell (block_lt_of_cell q8)).trans q8, (hb5.cell (block_lt_of_cell q9)).trans q9, (hb5.cell (block_lt_of_cell q10)).trans q10, (hb5.cell (block_lt_of_cell q11)).trans q11, (hb5.cell (block_lt_of_cell q12)).trans q12, (hb5.cell (block_lt_of_cell q13)).trans q13, (hb5.cell (block_lt_of_cell q14)).trans q14, (hb5.cell (block_lt_of_cell q15)).trans q15, (hb5.cell (block_lt_of_cell q16)).trans q16, (hb5.cell (block_lt_of_cell q17)).trans q17, (hb5.cell (block_lt_of_cell q18)).trans q18, (hb5.cell (block_lt_of_cell q19)).trans q19, (hb5.cell (block_lt_of_cell q20)).trans q20, (hb5.cell (block_lt_of_cell q21)).trans q21, (hb5.cell (block_lt_of_cell q22)).trans q22, (hb5.cell (block_lt_of_cell q23)).trans q23, (hb5.cell (block_lt_of_cell q24)).trans q24, (hb5.cell (block_lt_of_cell q25)).trans q25, (hb5.cell (block_lt_of_cell q26)).trans q26, (hb5.cell (block_lt_of_cell q27)).trans q27, (hb5.cell (block_lt_of_cell q28)).trans q28, (hb5.cell (block_lt_of_cell q29)).trans q29, (hb5.cell (block_lt_of_cell q30)).trans q30, (hb5.cell (block_lt_of_cell q31)).trans q31⟩
      refine hK.out _ _ hS5 (fun hHeld6 => ?_)
      clear hK K
      (try simp only [Act.put, List.setIfInBounds_toArray, List.set_cons_zero, List.set_cons_succ])
      refine wpAnyH_take (i := 42) (oi := { dst := some 80, op := Op.binOp BinOp.neq 4 (Operand.tmp 77) (Operand.tmp 79) 4, type := 4, pos := "laws.go:188", after := #[{ on := 39, ground := Ground.data }, { on := 41, ground := Ground.data }, { on := 37, ground := Ground.guard }], guard := some (37, false) }) (v := ?_) rfl (by kernel_rfl) (by kernel_rfl) (by kernel_rfl) (fun _ _ _ h => h) (Or.inl ⟨by rfl, ?_⟩) (by assumption) ?_
      rotate_left
      · intro w hSw
        (try dsimp only at hSw)
        first | (go_simp; done) | (go_simp; with_reducible rfl)
      (try simp only [Act.put, List.setIfInBounds_toArray, List.set_cons_zero, List.set_cons_succ])
      refine wpAnyH_take (i := 43) (oi := { dst := some 81, op := Op.pick (Operand.tmp 75) (Operand.const (Value.bool true)) (Operand.tmp 80), type := 4, pos := "laws.go:188", after := #[{ on := 37, ground := Ground.data }, { on := 42, ground := Ground.data }], guard := none }) (v := ?_) rfl (by kernel_rfl) (by kernel_rfl) (by kernel_rfl) (fun _ _ _ h => h) (Or.inl ⟨by rfl, ?_⟩) (by assumption) ?_
      rotate_left
      · intro w hSw
        (try dsimp only at hSw)
        first | (go_simp; done) | (go_simp; with_reducible rfl)
      (try simp only [Act.put, List.setIfInBounds_toArray, List.set_cons_zero, List.set_cons_succ])
      refine wpAnyH_done (by kernel_rfl) ?_ _
      have B1 : Below w.heap.size w y1 := HB10.out.trans ((Below.mk hb1.os hb1.tape hb1.output hb1.size hb1.block : Below w10.heap.size w10 y1).mono HB10.out.size)
      have B2 := B1.trans (hb2.mono B1.size)
      have B3 := B2.trans (hb3.mono B2.size)
      have HB := Lib.hid (B3.trans (hb5.mono B3.size))
      have HXo : Hid (y5.heap[bo]? = some (.cells #[.int .i64 dev, .int .i64 seq, .int .i64 stamp, .int .i64 kind, .string item, .int .i64 qty, .int .i64 level, .int .i64 undos] 25 (0, 0))) := by
        have z := HXbo10.out
        have l0 := (Array.getElem?_eq_some_iff.1 z).1
        have z1 := (hb1.block _ l0).trans z
        have z2 := (hb2.block _ (Array.getElem?_eq_some_iff.1 z1).1).trans z1
        have z3 := (hb3.block _ (Array.getElem?_eq_some_iff.1 z2).1).trans z2
        exact (hb5.block _ (Array.getElem?_eq_some_iff.1 z3).1).trans z3
      clear B1 B2 B3 hb1 hb2 hb3 hb5 hS0 hS1 hS2 hS3 hS5 hHeld
      have hback := HBk.out (by first | exact rfl | trivial)
      have HBa := Lib.hid hback
      clear hback
      have hst : (s ++ t).size = s.size + t.size := ByteArray.size_append
      go_wp2_with fail
      refine (implReadOp (s ++ t) y5 u x (by omega) (HE.out.below HB.out)).mono ?_
      rintro e w11 ⟨hb, ⟨dev4, seq4, stamp4, kind4, item4, qty4, level4, undos4, k4, his4, rfl⟩ | ⟨hno4, rfl⟩⟩
      rotate_left
      · exact absurd HBa.out (hno4 _ _ _ _ _ _ _ _ _)
      obtain ⟨rfl, rfl, rfl, rfl, rfl, rfl, rfl, rfl, rfl⟩ := HBa.out.eq his4
      clear his4 HBa
      have HB11 := Lib.hid (HB.out.trans (hb.mono HB.out.size))
      have HXo11 := Lib.hid ((hb.block _ (Array.getElem?_eq_some_iff.1 HXo.out).1).trans HXo.out)
      clear hb HB HXo
      obtain ⟨c0, c1, c2, c3, c4, c5, c6, c7⟩ := op_cells HXo11.out
      have hlen : ((s.size : Int) == (s.size : Int)) = true := beq_self_eq_true _
      have hlo := (Array.getElem?_eq_some_iff.1 HXo11.out).1
      go_upto_region 14 with fail
      have hxb := boxAt (Below.refl _ (w11.alloc (.cells #[.int .i64 dev4, .int .i64 seq4, .int .i64 stamp4, .int .i64 kind4, .string item4, .int .i64 qty4, .int .i64 level4, .int .i64 undos4] 25)))
      have HB12 := Lib.hid (HB11.out.alloc HB11.out.size (.cells #[.int .i64 dev4, .int .i64 seq4, .int .i64 stamp4, .int .i64 kind4, .string item4, .int .i64 qty4, .int .i64 level4, .int .i64 undos4] 25))
      have HXo12 := Lib.hid ((Below.heap_alloc w11 (.cells #[.int .i64 dev4, .int .i64 seq4, .int .i64 stamp4, .int .i64 kind4, .string item4, .int .i64 qty4, .int .i64 level4, .int .i64 undos4] 25) bo hlo).trans HXo11.out)
      generalize w11.alloc (.cells #[.int .i64 dev4, .int .i64 seq4, .int .i64 stamp4, .int .i64 kind4, .string item4, .int .i64 qty4, .int .i64 level4, .int .i64 undos4] 25) = w12 at hxb HB12 HXo12 ⊢
      generalize w11.heap.size = bq at hxb ⊢
      clear c0 c1 c2 c3 c4 c5 c6 c7 hlo HXo11 HB11
      obtain ⟨c0, c1, c2, c3, c4, c5, c6, c7⟩ := op_cells HXo12.out
      obtain ⟨d0, d1, d2, d3, d4, d5, d6, d7⟩ := op_cells hxb
      go_wp2
      go_ret
      exact ⟨rfl, HB12.out⟩
end Go.Proofs.YtialoobnjfbboaaDoor
