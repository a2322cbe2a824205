/- The walks of laws.toOp, laws.szOp, and of the laws FnExactOpOk and FnExactLive; impl.Live, spec.Live. -/
import Derived.Test.YtjcfekljdkaaiaaOpSpecW
import Derived.Handy
namespace Go.Proofs.Ytjcfekljdkaaiaa
open Go.RowKit

theorem ret_int {k : IntKind} {a b : Int} (h : a = b) : Ending.returned (.int k a) = .returned (.int k b) := by rw [h]

set_option maxRecDepth 100000 in
theorem toOp (dev seq stamp kind : Int) (item : ByteArray) (qty level undos : Int) (w : World) : Calls Try.prog 10 #[.agg #[.int .i64 dev, .int .i64 seq, .int .i64 stamp, .int .i64 kind, .string item, .int .i64 qty, .int .i64 level, .int .i64 undos]] w fun e w' => e = .returned (.agg #[.int .i64 dev, .int .i64 seq, .int .i64 stamp, .int .i64 kind, .string item, .int .i64 qty, .int .i64 level, .int .i64 undos]) ∧ Below w.heap.size w w' := by
  go_enter Try.func10, Try.ntmps10
  go_wp2
  refine bodyPost_ret (v := .agg #[.int .i64 dev, .int .i64 seq, .int .i64 stamp, .int .i64 kind, .string item, .int .i64 qty, .int .i64 level, .int .i64 undos]) (by simp [results, Try.results10, go_sem]) rfl ⟨rfl, ?_⟩
  go_grown
set_option maxRecDepth 100000 in
theorem szOpYes (dev seq stamp kind : Int) (item : ByteArray) (qty level undos : Int) (left : Nat) (hl : left ≤ 1048576) (h : item.size ≤ left) (w : World) : Calls Try.prog 8 #[.agg #[.int .i64 dev, .int .i64 seq, .int .i64 stamp, .int .i64 kind, .string item, .int .i64 qty, .int .i64 level, .int .i64 undos], .int .i64 (left : Int)] w fun e w' => e = .returned (.int .i64 ((left - item.size : Nat) : Int)) ∧ Below w.heap.size w w' := by
  have hd : decide ((left : Int) - (item.size : Int) < 0) = false := decide_eq_false (by omega)
  go_enter Try.func8, Try.ntmps8
  go_wp2
  go_ret
  exact ⟨ret_int (by omega), (Below.refl _ _).alloc (Nat.le_refl _) _⟩
set_option maxRecDepth 100000 in
theorem szOpNo (dev seq stamp kind : Int) (item : ByteArray) (qty level undos : Int) (left : Nat) (hl : left ≤ 1048576) (hm : item.size ≤ maxLen) (h : ¬ item.size ≤ left) (w : World) : Calls Try.prog 8 #[.agg #[.int .i64 dev, .int .i64 seq, .int .i64 stamp, .int .i64 kind, .string item, .int .i64 qty, .int .i64 level, .int .i64 undos], .int .i64 (left : Int)] w fun e w' => e = .returned (.int .i64 (-1)) ∧ Below w.heap.size w w' := by
  unfold maxLen at hm
  have hd : decide ((left : Int) - (item.size : Int) < 0) = true := decide_eq_true (by omega)
  go_enter Try.func8, Try.ntmps8
  go_wp2
  go_ret
  exact ⟨rfl, (Below.refl _ _).alloc (Nat.le_refl _) _⟩
theorem lt_of_row {w : World} {g : Nat} {cs : Array Value} {T : TypeId} {fr : Nat × Nat} (h : w.heap[g]? = some (.cells cs T fr)) : g < w.heap.size := (Array.getElem?_eq_some_iff.1 h).1
def liveB (dev seq stamp kind : Int) (item : ByteArray) (qty level undos : Int) : Bool := opB dev seq stamp kind item qty level undos && decide (undos % 2 = 0)
theorem undos_of {dev seq stamp kind : Int} {item : ByteArray} {qty level undos : Int} (h : opB dev seq stamp kind item qty level undos = true) : 0 ≤ undos ∧ undos ≤ 50 := by
  unfold opB headB at h
  simp only [Bool.and_eq_true] at h
  exact inB_iff.1 h.1.2.2.2.2
theorem l3Live (dev seq stamp kind : Int) (item : ByteArray) (qty level undos : Int) (w : World) (h0 : 0 ≤ undos) : Calls Try.prog 27 #[.agg #[.int .i64 dev, .int .i64 seq, .int .i64 stamp, .int .i64 kind, .string item, .int .i64 qty, .int .i64 level, .int .i64 undos]] w fun e w' => e = .returned (.bool (decide (undos % 2 = 0))) ∧ Below w.heap.size w w' := by
  by_cases hm : undos % 2 = 0
  · have hm' : (undos % 2 == 0) = true := by rw [hm]; rfl
    have HD := Lib.hid (decide_eq_true hm)
    clear hm
    go_enter Try.func27, Try.ntmps27
    go_wp2
    go_ret
    exact ⟨by rw [HD.out]; rfl, (Below.refl _ _).alloc (Nat.le_refl _) _⟩
  · have hm' : (undos % 2 == 0) = false := by rw [beq_eq_false_iff_ne]; exact hm
    have HD := Lib.hid (decide_eq_false hm)
    clear hm
    go_enter Try.func27, Try.ntmps27
    go_wp2
    go_ret
    exact ⟨by rw [HD.out]; rfl, (Below.refl _ _).alloc (Nat.le_refl _) _⟩
set_option maxRecDepth 100000 in
theorem implLive (dev seq stamp kind : Int) (item : ByteArray) (qty level undos : Int) (w : World) : Calls Try.prog 13 #[.agg #[.int .i64 dev, .int .i64 seq, .int .i64 stamp, .int .i64 kind, .string item, .int .i64 qty, .int .i64 level, .int .i64 undos]] w fun e w' => e = .returned (.bool (liveB dev seq stamp kind item qty level undos)) ∧ Below w.heap.size w w' := by
  have HL : Hid (liveB dev seq stamp kind item qty level undos = (opB dev seq stamp kind item qty level undos && decide (undos % 2 = 0))) := rfl
  rcases ho : opB dev seq stamp kind item qty level undos with _ | _
  · have HO := Lib.hid ho
    clear ho
    go_enter Try.func13, Try.ntmps13
    go_wp2_with fail
    refine (implOpOk dev seq stamp kind item qty level undos _).mono ?_
    rintro e w1 ⟨rfl, hb1⟩
    rw [HO.out]
    have hB1 := Lib.hid (box_below hb1)
    clear hb1
    go_wp2
    go_ret
    exact ⟨by rw [HL.out, HO.out]; rfl, hB1.out⟩
  · have HO := Lib.hid ho
    have h0 := (undos_of ho).1
    clear ho
    by_cases hm : undos % 2 = 0
    · have hm' : (undos % 2 == 0) = true := by rw [hm]; rfl
      have HD := Lib.hid (decide_eq_true hm)
      clear hm
      go_enter Try.func13, Try.ntmps13
      go_wp2_with fail
      refine (implOpOk dev seq stamp kind item qty level undos _).mono ?_
      rintro e w1 ⟨rfl, hb1⟩
      rw [HO.out]
      have hx := boxAt hb1
      have hB1 := Lib.hid (box_below hb1)
      clear hb1
      have c0 := cell_of_row _ _ 0 _ _ _ hx
      have c1 := cell_of_row _ _ 1 _ _ _ hx
      have c2 := cell_of_row _ _ 2 _ _ _ hx
      have c3 := cell_of_row _ _ 3 _ _ _ hx
      have c4 := cell_of_row _ _ 4 _ _ _ hx
      have c5 := cell_of_row _ _ 5 _ _ _ hx
      have c6 := cell_of_row _ _ 6 _ _ _ hx
      have c7 := cell_of_row _ _ 7 _ _ _ hx
      simp only [List.getElem?_toArray, List.getElem?_cons_zero, List.getElem?_cons_succ] at c0 c1 c2 c3 c4 c5 c6 c7
      go_wp2
      go_ret
      exact ⟨by rw [HL.out, HO.out, HD.out]; rfl, hB1.out⟩
    · have hm' : (undos % 2 == 0) = false := by rw [beq_eq_false_iff_ne]; exact hm
      have HD := Lib.hid (decide_eq_false hm)
      clear hm
      go_enter Try.func13, Try.ntmps13
      go_wp2_with fail
      refine (implOpOk dev seq stamp kind item qty level undos _).mono ?_
      rintro e w1 ⟨rfl, hb1⟩
      rw [HO.out]
      have hx := boxAt hb1
      have hB1 := Lib.hid (box_below hb1)
      clear hb1
      have c0 := cell_of_row _ _ 0 _ _ _ hx
      have c1 := cell_of_row _ _ 1 _ _ _ hx
      have c2 := cell_of_row _ _ 2 _ _ _ hx
      have c3 := cell_of_row _ _ 3 _ _ _ hx
      have c4 := cell_of_row _ _ 4 _ _ _ hx
      have c5 := cell_of_row _ _ 5 _ _ _ hx
      have c6 := cell_of_row _ _ 6 _ _ _ hx
      have c7 := cell_of_row _ _ 7 _ _ _ hx
      simp only [List.getElem?_toArray, List.getElem?_cons_zero, List.getElem?_cons_succ] at c0 c1 c2 c3 c4 c5 c6 c7
      go_wp2
      go_ret
      exact ⟨by rw [HL.out, HO.out, HD.out]; rfl, hB1.out⟩
set_option maxRecDepth 100000 in
theorem specLive (dev seq stamp kind : Int) (item : ByteArray) (qty level undos : Int) (w : World) (hs : item.size ≤ 1048576) : Calls Try.prog 12 #[.agg #[.int .i64 dev, .int .i64 seq, .int .i64 stamp, .int .i64 kind, .string item, .int .i64 qty, .int .i64 level, .int .i64 undos]] w fun e w' => e = .returned (.bool (liveB dev seq stamp kind item qty level undos)) ∧ Below w.heap.size w w' := by
  have HL : Hid (liveB dev seq stamp kind item qty level undos = (opB dev seq stamp kind item qty level undos && decide (undos % 2 = 0))) := rfl
  rcases ho : opB dev seq stamp kind item qty level undos with _ | _
  · have HO := Lib.hid ho
    clear ho
    go_enter Try.func12, Try.ntmps12
    go_wp2_with fail
    refine (specOpOk dev seq stamp kind item qty level undos _ hs).mono ?_
    rintro e w1 ⟨rfl, hb1⟩
    rw [HO.out]
    have hB1 := Lib.hid (box_below hb1)
    clear hb1
    go_wp2
    go_ret
    exact ⟨by rw [HL.out, HO.out]; rfl, hB1.out⟩
  · have HO := Lib.hid ho
    have h0 := (undos_of ho).1
    clear ho
    go_enter Try.func12, Try.ntmps12
    go_wp2_with fail
    refine (specOpOk dev seq stamp kind item qty level undos _ hs).mono ?_
    rintro e w1 ⟨rfl, hb1⟩
    rw [HO.out]
    have hx := boxAt hb1
    have hB1 := Lib.hid (box_below hb1)
    clear hb1
    have c0 := cell_of_row _ _ 0 _ _ _ hx
    have c1 := cell_of_row _ _ 1 _ _ _ hx
    have c2 := cell_of_row _ _ 2 _ _ _ hx
    have c3 := cell_of_row _ _ 3 _ _ _ hx
    have c4 := cell_of_row _ _ 4 _ _ _ hx
    have c5 := cell_of_row _ _ 5 _ _ _ hx
    have c6 := cell_of_row _ _ 6 _ _ _ hx
    have c7 := cell_of_row _ _ 7 _ _ _ hx
    simp only [List.getElem?_toArray, List.getElem?_cons_zero, List.getElem?_cons_succ] at c0 c1 c2 c3 c4 c5 c6 c7
    go_wp2_with fail
    refine (l3Live dev seq stamp kind item qty level undos _ h0).mono ?_
    rintro e w2 ⟨rfl, hb2⟩
    go_wp2
    go_ret
    exact ⟨by rw [HL.out, HO.out]; rfl, hB1.out.trans (hb2.mono hB1.out.size)⟩
set_option maxRecDepth 100000 in
set_option maxHeartbeats 400000 in
theorem fnExactOpOkWalk (dev seq stamp kind : Int) (item : ByteArray) (qty level undos : Int) (w : World) (hm : item.size ≤ maxLen) : Calls Try.prog 3 #[.agg #[.int .i64 dev, .int .i64 seq, .int .i64 stamp, .int .i64 kind, .string item, .int .i64 qty, .int .i64 level, .int .i64 undos]] w fun e w' => e = .returned (.bool true) ∧ Below w.heap.size w w' := by
  by_cases hs : item.size ≤ 1048576
  · go_enter Try.func3, Try.ntmps3
    go_wp2_with fail
    refine (szOpYes dev seq stamp kind item qty level undos 1048576 (Nat.le_refl _) hs _).mono ?_
    rintro e w1 ⟨rfl, hb1⟩
    have hx := boxAt hb1
    have hB1 := Lib.hid (box_below hb1)
    have hz := (lt_of_row hx)
    have hl : ¬ (((1048576 - item.size : Nat) : Int) < 0) := by omega
    clear hb1
    have c0 := cell_of_row _ _ 0 _ _ _ hx
    have c1 := cell_of_row _ _ 1 _ _ _ hx
    have c2 := cell_of_row _ _ 2 _ _ _ hx
    have c3 := cell_of_row _ _ 3 _ _ _ hx
    have c4 := cell_of_row _ _ 4 _ _ _ hx
    have c5 := cell_of_row _ _ 5 _ _ _ hx
    have c6 := cell_of_row _ _ 6 _ _ _ hx
    have c7 := cell_of_row _ _ 7 _ _ _ hx
    simp only [List.getElem?_toArray, List.getElem?_cons_zero, List.getElem?_cons_succ] at c0 c1 c2 c3 c4 c5 c6 c7
    go_wp2_with fail
    refine (toOp dev seq stamp kind item qty level undos _).mono ?_
    rintro e w2 ⟨rfl, hb2⟩
    have HX2 := Lib.hid ((hb2.block _ hz).trans hx)
    have hB2 := Lib.hid (hB1.out.trans (hb2.mono hB1.out.size))
    clear hx hz hB1 hb2 c0 c1 c2 c3 c4 c5 c6 c7
    have hx := HX2.out
    have hz := lt_of_row hx
    clear HX2
    have c0 := cell_of_row _ _ 0 _ _ _ hx
    have c1 := cell_of_row _ _ 1 _ _ _ hx
    have c2 := cell_of_row _ _ 2 _ _ _ hx
    have c3 := cell_of_row _ _ 3 _ _ _ hx
    have c4 := cell_of_row _ _ 4 _ _ _ hx
    have c5 := cell_of_row _ _ 5 _ _ _ hx
    have c6 := cell_of_row _ _ 6 _ _ _ hx
    have c7 := cell_of_row _ _ 7 _ _ _ hx
    simp only [List.getElem?_toArray, List.getElem?_cons_zero, List.getElem?_cons_succ] at c0 c1 c2 c3 c4 c5 c6 c7
    go_wp2_with fail
    refine (specOpOk dev seq stamp kind item qty level undos _ hs).mono ?_
    rintro e w3 ⟨rfl, hb3⟩
    have HX3 := Lib.hid ((hb3.block _ hz).trans hx)
    have hB3 := Lib.hid (hB2.out.trans (hb3.mono hB2.out.size))
    clear hx hz hB2 hb3 c0 c1 c2 c3 c4 c5 c6 c7
    have hx := HX3.out
    have hz := lt_of_row hx
    clear HX3
    have c0 := cell_of_row _ _ 0 _ _ _ hx
    have c1 := cell_of_row _ _ 1 _ _ _ hx
    have c2 := cell_of_row _ _ 2 _ _ _ hx
    have c3 := cell_of_row _ _ 3 _ _ _ hx
    have c4 := cell_of_row _ _ 4 _ _ _ hx
    have c5 := cell_of_row _ _ 5 _ _ _ hx
    have c6 := cell_of_row _ _ 6 _ _ _ hx
    have c7 := cell_of_row _ _ 7 _ _ _ hx
    simp only [List.getElem?_toArray, List.getElem?_cons_zero, List.getElem?_cons_succ] at c0 c1 c2 c3 c4 c5 c6 c7
    go_wp2_with fail
    refine (toOp dev seq stamp kind item qty level undos _).mono ?_
    rintro e w4 ⟨rfl, hb4⟩
    have HX4 := Lib.hid ((hb4.block _ hz).trans hx)
    have hB4 := Lib.hid (hB3.out.trans (hb4.mono hB3.out.size))
    clear hx hz hB3 hb4 c0 c1 c2 c3 c4 c5 c6 c7
    have hx := HX4.out
    have hz := lt_of_row hx
    clear HX4
    have c0 := cell_of_row _ _ 0 _ _ _ hx
    have c1 := cell_of_row _ _ 1 _ _ _ hx
    have c2 := cell_of_row _ _ 2 _ _ _ hx
    have c3 := cell_of_row _ _ 3 _ _ _ hx
    have c4 := cell_of_row _ _ 4 _ _ _ hx
    have c5 := cell_of_row _ _ 5 _ _ _ hx
    have c6 := cell_of_row _ _ 6 _ _ _ hx
    have c7 := cell_of_row _ _ 7 _ _ _ hx
    simp only [List.getElem?_toArray, List.getElem?_cons_zero, List.getElem?_cons_succ] at c0 c1 c2 c3 c4 c5 c6 c7
    go_wp2_with fail
    refine (implOpOk dev seq stamp kind item qty level undos _).mono ?_
    rintro e w5 ⟨rfl, hb5⟩
    have HX5 := Lib.hid ((hb5.block _ hz).trans hx)
    have hB5 := Lib.hid (hB4.out.trans (hb5.mono hB4.out.size))
    clear hx hz hB4 hb5 c0 c1 c2 c3 c4 c5 c6 c7
    have hx := HX5.out
    have hz := lt_of_row hx
    clear HX5
    have c0 := cell_of_row _ _ 0 _ _ _ hx
    have c1 := cell_of_row _ _ 1 _ _ _ hx
    have c2 := cell_of_row _ _ 2 _ _ _ hx
    have c3 := cell_of_row _ _ 3 _ _ _ hx
    have c4 := cell_of_row _ _ 4 _ _ _ hx
    have c5 := cell_of_row _ _ 5 _ _ _ hx
    have c6 := cell_of_row _ _ 6 _ _ _ hx
    have c7 := cell_of_row _ _ 7 _ _ _ hx
    simp only [List.getElem?_toArray, List.getElem?_cons_zero, List.getElem?_cons_succ] at c0 c1 c2 c3 c4 c5 c6 c7
    go_wp2
    go_ret
    exact ⟨rfl, hB5.out⟩
  · go_enter Try.func3, Try.ntmps3
    go_wp2_with fail
    refine (szOpNo dev seq stamp kind item qty level undos 1048576 (Nat.le_refl _) hm hs _).mono ?_
    rintro e w1 ⟨rfl, hb1⟩
    have hB1 := Lib.hid (box_below hb1)
    clear hb1
    go_wp2
    go_ret
    exact ⟨rfl, hB1.out⟩
set_option maxRecDepth 100000 in
set_option maxHeartbeats 400000 in
theorem fnExactLiveWalk (dev seq stamp kind : Int) (item : ByteArray) (qty level undos : Int) (w : World) (hm : item.size ≤ maxLen) : Calls Try.prog 4 #[.agg #[.int .i64 dev, .int .i64 seq, .int .i64 stamp, .int .i64 kind, .string item, .int .i64 qty, .int .i64 level, .int .i64 undos]] w fun e w' => e = .returned (.bool true) ∧ Below w.heap.size w w' := by
  by_cases hs : item.size ≤ 1048576
  · go_enter Try.func4, Try.ntmps4
    go_wp2_with fail
    refine (szOpYes dev seq stamp kind item qty level undos 1048576 (Nat.le_refl _) hs _).mono ?_
    rintro e w1 ⟨rfl, hb1⟩
    have hx := boxAt hb1
    have hB1 := Lib.hid (box_below hb1)
    have hz := (lt_of_row hx)
    have hl : ¬ (((1048576 - item.size : Nat) : Int) < 0) := by omega
    clear hb1
    have c0 := cell_of_row _ _ 0 _ _ _ hx
    have c1 := cell_of_row _ _ 1 _ _ _ hx
    have c2 := cell_of_row _ _ 2 _ _ _ hx
    have c3 := cell_of_row _ _ 3 _ _ _ hx
    have c4 := cell_of_row _ _ 4 _ _ _ hx
    have c5 := cell_of_row _ _ 5 _ _ _ hx
    have c6 := cell_of_row _ _ 6 _ _ _ hx
    have c7 := cell_of_row _ _ 7 _ _ _ hx
    simp only [List.getElem?_toArray, List.getElem?_cons_zero, List.getElem?_cons_succ] at c0 c1 c2 c3 c4 c5 c6 c7
    go_wp2_with fail
    refine (toOp dev seq stamp kind item qty level undos _).mono ?_
    rintro e w2 ⟨rfl, hb2⟩
    have HX2 := Lib.hid ((hb2.block _ hz).trans hx)
    have hB2 := Lib.hid (hB1.out.trans (hb2.mono hB1.out.size))
    clear hx hz hB1 hb2 c0 c1 c2 c3 c4 c5 c6 c7
    have hx := HX2.out
    have hz := lt_of_row hx
    clear HX2
    have c0 := cell_of_row _ _ 0 _ _ _ hx
    have c1 := cell_of_row _ _ 1 _ _ _ hx
    have c2 := cell_of_row _ _ 2 _ _ _ hx
    have c3 := cell_of_row _ _ 3 _ _ _ hx
    have c4 := cell_of_row _ _ 4 _ _ _ hx
    have c5 := cell_of_row _ _ 5 _ _ _ hx
    have c6 := cell_of_row _ _ 6 _ _ _ hx
    have c7 := cell_of_row _ _ 7 _ _ _ hx
    simp only [List.getElem?_toArray, List.getElem?_cons_zero, List.getElem?_cons_succ] at c0 c1 c2 c3 c4 c5 c6 c7
    go_wp2_with fail
    refine (specLive dev seq stamp kind item qty level undos _ hs).mono ?_
    rintro e w3 ⟨rfl, hb3⟩
    have HX3 := Lib.hid ((hb3.block _ hz).trans hx)
    have hB3 := Lib.hid (hB2.out.trans (hb3.mono hB2.out.size))
    clear hx hz hB2 hb3 c0 c1 c2 c3 c4 c5 c6 c7
    have hx := HX3.out
    have hz := lt_of_row hx
    clear HX3
    have c0 := cell_of_row _ _ 0 _ _ _ hx
    have c1 := cell_of_row _ _ 1 _ _ _ hx
    have c2 := cell_of_row _ _ 2 _ _ _ hx
    have c3 := cell_of_row _ _ 3 _ _ _ hx
    have c4 := cell_of_row _ _ 4 _ _ _ hx
    have c5 := cell_of_row _ _ 5 _ _ _ hx
    have c6 := cell_of_row _ _ 6 _ _ _ hx
    have c7 := cell_of_row _ _ 7 _ _ _ hx
    simp only [List.getElem?_toArray, List.getElem?_cons_zero, List.getElem?_cons_succ] at c0 c1 c2 c3 c4 c5 c6 c7
    go_wp2_with fail
    refine (toOp dev seq stamp kind item qty level undos _).mono ?_
    rintro e w4 ⟨rfl, hb4⟩
    have HX4 := Lib.hid ((hb4.block _ hz).trans hx)
    have hB4 := Lib.hid (hB3.out.trans (hb4.mono hB3.out.size))
    clear hx hz hB3 hb4 c0 c1 c2 c3 c4 c5 c6 c7
    have hx := HX4.out
    have hz := lt_of_row hx
    clear HX4
    have c0 := cell_of_row _ _ 0 _ _ _ hx
    have c1 := cell_of_row _ _ 1 _ _ _ hx
    have c2 := cell_of_row _ _ 2 _ _ _ hx
    have c3 := cell_of_row _ _ 3 _ _ _ hx
    have c4 := cell_of_row _ _ 4 _ _ _ hx
    have c5 := cell_of_row _ _ 5 _ _ _ hx
    have c6 := cell_of_row _ _ 6 _ _ _ hx
    have c7 := cell_of_row _ _ 7 _ _ _ hx
    simp only [List.getElem?_toArray, List.getElem?_cons_zero, List.getElem?_cons_succ] at c0 c1 c2 c3 c4 c5 c6 c7
    go_wp2_with fail
    refine (implLive dev seq stamp kind item qty level undos _).mono ?_
    rintro e w5 ⟨rfl, hb5⟩
    have HX5 := Lib.hid ((hb5.block _ hz).trans hx)
    have hB5 := Lib.hid (hB4.out.trans (hb5.mono hB4.out.size))
    clear hx hz hB4 hb5 c0 c1 c2 c3 c4 c5 c6 c7
    have hx := HX5.out
    have hz := lt_of_row hx
    clear HX5
    have c0 := cell_of_row _ _ 0 _ _ _ hx
    have c1 := cell_of_row _ _ 1 _ _ _ hx
    have c2 := cell_of_row _ _ 2 _ _ _ hx
    have c3 := cell_of_row _ _ 3 _ _ _ hx
    have c4 := cell_of_row _ _ 4 _ _ _ hx
    have c5 := cell_of_row _ _ 5 _ _ _ hx
    have c6 := cell_of_row _ _ 6 _ _ _ hx
    have c7 := cell_of_row _ _ 7 _ _ _ hx
    simp only [List.getElem?_toArray, List.getElem?_cons_zero, List.getElem?_cons_succ] at c0 c1 c2 c3 c4 c5 c6 c7
    go_wp2
    go_ret
    exact ⟨rfl, hB5.out⟩
  · go_enter Try.func4, Try.ntmps4
    go_wp2_with fail
    refine (szOpNo dev seq stamp kind item qty level undos 1048576 (Nat.le_refl _) hm hs _).mono ?_
    rintro e w1 ⟨rfl, hb1⟩
    have hB1 := Lib.hid (box_below hb1)
    clear hb1
    go_wp2
    go_ret
    exact ⟨rfl, hB1.out⟩
end Go.Proofs.Ytjcfekljdkaaiaa
