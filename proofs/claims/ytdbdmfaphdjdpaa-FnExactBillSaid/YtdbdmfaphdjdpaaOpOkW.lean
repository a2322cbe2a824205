/- The walks of the methods levelOk, and of impl.OpOk. -/
import Derived.Test.YtdbdmfaphdjdpaaOpW
namespace Go.Proofs.Ytdbdmfaphdjdpaa
open Go.RowKit

theorem level_adding (level : Int) (w : World) : Calls Try.prog 215 #[.agg #[], .int .i64 level] w fun e w' => e = .returned (.bool (lB 1 level)) ∧ Below w.heap.size w w' := by
  have HL : Hid (lB 1 level = (inB level 1 100 && decide (level % 2 = 1))) := rfl
  rcases hb : inB level 1 100 with _ | _
  · have HB := Lib.hid hb
    clear hb
    go_enter Try.func215, Try.ntmps215
    go_wp2_with fail
    refine (inRange _ _ _ _).mono ?_
    rintro e w' ⟨rfl, rfl⟩
    rw [HB.out]
    go_wp2
    go_ret
    exact ⟨by rw [HL.out, HB.out]; rfl, (Below.refl _ _).alloc (Nat.le_refl _) _⟩
  · have HB := Lib.hid hb
    obtain ⟨h1, h2⟩ := inB_iff.1 hb
    clear hb
    by_cases hm : level % 2 = 1
    · have hm' : (level % 2 == 1) = true := by rw [hm]; rfl
      have HD := Lib.hid (decide_eq_true hm)
      clear hm
      go_enter Try.func215, Try.ntmps215
      go_wp2_with fail
      refine (inRange _ _ _ _).mono ?_
      rintro e w' ⟨rfl, rfl⟩
      rw [HB.out]
      go_wp2
      go_ret
      exact ⟨by rw [HL.out, HB.out, HD.out]; rfl, (Below.refl _ _).alloc (Nat.le_refl _) _⟩
    · have hm' : (level % 2 == 1) = false := by rw [beq_eq_false_iff_ne]; exact hm
      have HD := Lib.hid (decide_eq_false hm)
      clear hm
      go_enter Try.func215, Try.ntmps215
      go_wp2_with fail
      refine (inRange _ _ _ _).mono ?_
      rintro e w' ⟨rfl, rfl⟩
      rw [HB.out]
      go_wp2
      go_ret
      exact ⟨by rw [HL.out, HB.out, HD.out]; rfl, (Below.refl _ _).alloc (Nat.le_refl _) _⟩
theorem level_removing (level : Int) (w : World) : Calls Try.prog 217 #[.agg #[], .int .i64 level] w fun e w' => e = .returned (.bool (lB 3 level)) ∧ Below w.heap.size w w' := by
  have HL : Hid (lB 3 level = (inB level 2 100 && decide (level % 2 = 0))) := rfl
  rcases hb : inB level 2 100 with _ | _
  · have HB := Lib.hid hb
    clear hb
    go_enter Try.func217, Try.ntmps217
    go_wp2_with fail
    refine (inRange _ _ _ _).mono ?_
    rintro e w' ⟨rfl, rfl⟩
    rw [HB.out]
    go_wp2
    go_ret
    exact ⟨by rw [HL.out, HB.out]; rfl, (Below.refl _ _).alloc (Nat.le_refl _) _⟩
  · have HB := Lib.hid hb
    obtain ⟨h1, h2⟩ := inB_iff.1 hb
    clear hb
    by_cases hm : level % 2 = 0
    · have hm' : (level % 2 == 0) = true := by rw [hm]; rfl
      have HD := Lib.hid (decide_eq_true hm)
      clear hm
      go_enter Try.func217, Try.ntmps217
      go_wp2_with fail
      refine (inRange _ _ _ _).mono ?_
      rintro e w' ⟨rfl, rfl⟩
      rw [HB.out]
      go_wp2
      go_ret
      exact ⟨by rw [HL.out, HB.out, HD.out]; rfl, (Below.refl _ _).alloc (Nat.le_refl _) _⟩
    · have hm' : (level % 2 == 0) = false := by rw [beq_eq_false_iff_ne]; exact hm
      have HD := Lib.hid (decide_eq_false hm)
      clear hm
      go_enter Try.func217, Try.ntmps217
      go_wp2_with fail
      refine (inRange _ _ _ _).mono ?_
      rintro e w' ⟨rfl, rfl⟩
      rw [HB.out]
      go_wp2
      go_ret
      exact ⟨by rw [HL.out, HB.out, HD.out]; rfl, (Below.refl _ _).alloc (Nat.le_refl _) _⟩
theorem level_none (kind level : Int) (h1 : kind ≠ 1) (h3 : kind ≠ 3) (w : World) : Calls Try.prog 216 #[.agg #[], .int .i64 level] w fun e w' => e = .returned (.bool (lB kind level)) ∧ Below w.heap.size w w' := by
  have HL : Hid (lB kind level = decide (level = 0)) := by show lB kind level = _; unfold lB; rw [if_neg h1, if_neg h3]
  clear h1 h3
  by_cases hm : level = 0
  · subst hm
    go_enter Try.func216, Try.ntmps216
    go_wp2
    go_ret
    exact ⟨by rw [HL.out]; rfl, (Below.refl _ _).alloc (Nat.le_refl _) _⟩
  · have hb : (level == 0) = false := by rw [beq_eq_false_iff_ne]; exact hm
    have HD := Lib.hid (decide_eq_false hm)
    clear hm
    go_enter Try.func216, Try.ntmps216
    go_wp2
    go_ret
    exact ⟨by rw [HL.out, HD.out]; rfl, (Below.refl _ _).alloc (Nat.le_refl _) _⟩
set_option maxRecDepth 100000 in
set_option maxHeartbeats 400000 in
theorem implOpOk (dev seq stamp kind : Int) (item : ByteArray) (qty level undos : Int) (w : World) :
    Calls Try.prog 76 #[.agg #[.int .i64 dev, .int .i64 seq, .int .i64 stamp, .int .i64 kind, .string item, .int .i64 qty, .int .i64 level, .int .i64 undos]] w (fun e w' => e = .returned (.bool (opB dev seq stamp kind item qty level undos)) ∧ Below w.heap.size w w') := by
  rcases hki : kindB kind with _ | _
  · have HO := Lib.hid (opB_kind (dev := dev) (seq := seq) (stamp := stamp) (item := item) (qty := qty) (level := level) (undos := undos) hki)
    have HKi := Lib.hid hki
    clear hki
    go_enter Try.func76, Try.ntmps76
    go_wp2_with fail
    refine (kindOfNo _ _ _ _ _ _ _ _ _ HKi.out).mono ?_
    rintro e w1 ⟨rfl, hb1⟩
    have hx := boxAt hb1
    have c0 := cell_of_row _ _ 0 _ _ _ hx
    have c1 := cell_of_row _ _ 1 _ _ _ hx
    have c2 := cell_of_row _ _ 2 _ _ _ hx
    have c3 := cell_of_row _ _ 3 _ _ _ hx
    have c4 := cell_of_row _ _ 4 _ _ _ hx
    have c5 := cell_of_row _ _ 5 _ _ _ hx
    have c6 := cell_of_row _ _ 6 _ _ _ hx
    have c7 := cell_of_row _ _ 7 _ _ _ hx
    simp only [List.getElem?_toArray, List.getElem?_cons_zero, List.getElem?_cons_succ] at c0 c1 c2 c3 c4 c5 c6 c7
    have HB := Lib.hid (box_below hb1)
    clear hx hb1
    go_wp2
    go_ret
    exact ⟨by rw [HO.out]; rfl, HB.out⟩
  have HKi := Lib.hid hki
  rcases h0 : inB dev 0 3 with _ | _
  · have HO := Lib.hid (opB_head (kind := kind) (qty := qty) (level := level) (head_no (dev := dev) (seq := seq) (stamp := stamp) (item := item) (undos := undos) (.inl h0)))
    have H0 := Lib.hid h0
    clear hki h0
    go_enter Try.func76, Try.ntmps76
    go_wp2_with fail
    refine (kindOfYes _ _ _ _ _ _ _ _ _ HKi.out).mono ?_
    rintro e w1 ⟨rfl, hb1⟩
    have hx := boxAt hb1
    have c0 := cell_of_row _ _ 0 _ _ _ hx
    have c1 := cell_of_row _ _ 1 _ _ _ hx
    have c2 := cell_of_row _ _ 2 _ _ _ hx
    have c3 := cell_of_row _ _ 3 _ _ _ hx
    have c4 := cell_of_row _ _ 4 _ _ _ hx
    have c5 := cell_of_row _ _ 5 _ _ _ hx
    have c6 := cell_of_row _ _ 6 _ _ _ hx
    have c7 := cell_of_row _ _ 7 _ _ _ hx
    simp only [List.getElem?_toArray, List.getElem?_cons_zero, List.getElem?_cons_succ] at c0 c1 c2 c3 c4 c5 c6 c7
    have HB := Lib.hid (box_below hb1)
    clear hx hb1
    go_wp2_with fail
    refine (inRange _ _ _ _).mono ?_
    rintro e w' ⟨rfl, rfl⟩
    rw [H0.out]
    go_wp2
    go_ret
    exact ⟨by rw [HO.out]; rfl, HB.out⟩
  have H0 := Lib.hid h0
  rcases h1 : inB seq 1 40 with _ | _
  · have HO := Lib.hid (opB_head (kind := kind) (qty := qty) (level := level) (head_no (dev := dev) (seq := seq) (stamp := stamp) (item := item) (undos := undos) (.inr (.inl h1))))
    have H1 := Lib.hid h1
    clear hki h0 h1
    go_enter Try.func76, Try.ntmps76
    go_wp2_with fail
    refine (kindOfYes _ _ _ _ _ _ _ _ _ HKi.out).mono ?_
    rintro e w1 ⟨rfl, hb1⟩
    have hx := boxAt hb1
    have c0 := cell_of_row _ _ 0 _ _ _ hx
    have c1 := cell_of_row _ _ 1 _ _ _ hx
    have c2 := cell_of_row _ _ 2 _ _ _ hx
    have c3 := cell_of_row _ _ 3 _ _ _ hx
    have c4 := cell_of_row _ _ 4 _ _ _ hx
    have c5 := cell_of_row _ _ 5 _ _ _ hx
    have c6 := cell_of_row _ _ 6 _ _ _ hx
    have c7 := cell_of_row _ _ 7 _ _ _ hx
    simp only [List.getElem?_toArray, List.getElem?_cons_zero, List.getElem?_cons_succ] at c0 c1 c2 c3 c4 c5 c6 c7
    have HB := Lib.hid (box_below hb1)
    clear hx hb1
    go_wp2_with fail
    refine (inRange _ _ _ _).mono ?_
    rintro e w' ⟨rfl, rfl⟩
    rw [H0.out]
    go_wp2_with fail
    refine (inRange _ _ _ _).mono ?_
    rintro e w' ⟨rfl, rfl⟩
    rw [H1.out]
    go_wp2
    go_ret
    exact ⟨by rw [HO.out]; rfl, HB.out⟩
  have H1 := Lib.hid h1
  rcases h2 : inB stamp 1 100000 with _ | _
  · have HO := Lib.hid (opB_head (kind := kind) (qty := qty) (level := level) (head_no (dev := dev) (seq := seq) (stamp := stamp) (item := item) (undos := undos) (.inr (.inr (.inl h2)))))
    have H2 := Lib.hid h2
    clear hki h0 h1 h2
    go_enter Try.func76, Try.ntmps76
    go_wp2_with fail
    refine (kindOfYes _ _ _ _ _ _ _ _ _ HKi.out).mono ?_
    rintro e w1 ⟨rfl, hb1⟩
    have hx := boxAt hb1
    have c0 := cell_of_row _ _ 0 _ _ _ hx
    have c1 := cell_of_row _ _ 1 _ _ _ hx
    have c2 := cell_of_row _ _ 2 _ _ _ hx
    have c3 := cell_of_row _ _ 3 _ _ _ hx
    have c4 := cell_of_row _ _ 4 _ _ _ hx
    have c5 := cell_of_row _ _ 5 _ _ _ hx
    have c6 := cell_of_row _ _ 6 _ _ _ hx
    have c7 := cell_of_row _ _ 7 _ _ _ hx
    simp only [List.getElem?_toArray, List.getElem?_cons_zero, List.getElem?_cons_succ] at c0 c1 c2 c3 c4 c5 c6 c7
    have HB := Lib.hid (box_below hb1)
    clear hx hb1
    go_wp2_with fail
    refine (inRange _ _ _ _).mono ?_
    rintro e w' ⟨rfl, rfl⟩
    rw [H0.out]
    go_wp2_with fail
    refine (inRange _ _ _ _).mono ?_
    rintro e w' ⟨rfl, rfl⟩
    rw [H1.out]
    go_wp2_with fail
    refine (inRange _ _ _ _).mono ?_
    rintro e w' ⟨rfl, rfl⟩
    rw [H2.out]
    go_wp2
    go_ret
    exact ⟨by rw [HO.out]; rfl, HB.out⟩
  have H2 := Lib.hid h2
  rcases h3 : itemB item with _ | _
  · have HO := Lib.hid (opB_head (kind := kind) (qty := qty) (level := level) (head_no (dev := dev) (seq := seq) (stamp := stamp) (item := item) (undos := undos) (.inr (.inr (.inr (.inl h3))))))
    have H3 := Lib.hid h3
    clear hki h0 h1 h2 h3
    go_enter Try.func76, Try.ntmps76
    go_wp2_with fail
    refine (kindOfYes _ _ _ _ _ _ _ _ _ HKi.out).mono ?_
    rintro e w1 ⟨rfl, hb1⟩
    have hx := boxAt hb1
    have c0 := cell_of_row _ _ 0 _ _ _ hx
    have c1 := cell_of_row _ _ 1 _ _ _ hx
    have c2 := cell_of_row _ _ 2 _ _ _ hx
    have c3 := cell_of_row _ _ 3 _ _ _ hx
    have c4 := cell_of_row _ _ 4 _ _ _ hx
    have c5 := cell_of_row _ _ 5 _ _ _ hx
    have c6 := cell_of_row _ _ 6 _ _ _ hx
    have c7 := cell_of_row _ _ 7 _ _ _ hx
    simp only [List.getElem?_toArray, List.getElem?_cons_zero, List.getElem?_cons_succ] at c0 c1 c2 c3 c4 c5 c6 c7
    have HB := Lib.hid (box_below hb1)
    clear hx hb1
    go_wp2_with fail
    refine (inRange _ _ _ _).mono ?_
    rintro e w' ⟨rfl, rfl⟩
    rw [H0.out]
    go_wp2_with fail
    refine (inRange _ _ _ _).mono ?_
    rintro e w' ⟨rfl, rfl⟩
    rw [H1.out]
    go_wp2_with fail
    refine (inRange _ _ _ _).mono ?_
    rintro e w' ⟨rfl, rfl⟩
    rw [H2.out]
    go_wp2_with fail
    refine (implItem _ _).mono ?_
    rintro e w' ⟨rfl, rfl⟩
    rw [H3.out]
    go_wp2
    go_ret
    exact ⟨by rw [HO.out]; rfl, HB.out⟩
  have H3 := Lib.hid h3
  rcases h4 : inB undos 0 50 with _ | _
  · have HO := Lib.hid (opB_head (kind := kind) (qty := qty) (level := level) (head_no (dev := dev) (seq := seq) (stamp := stamp) (item := item) (undos := undos) (.inr (.inr (.inr (.inr (h4)))))))
    have H4 := Lib.hid h4
    clear hki h0 h1 h2 h3 h4
    go_enter Try.func76, Try.ntmps76
    go_wp2_with fail
    refine (kindOfYes _ _ _ _ _ _ _ _ _ HKi.out).mono ?_
    rintro e w1 ⟨rfl, hb1⟩
    have hx := boxAt hb1
    have c0 := cell_of_row _ _ 0 _ _ _ hx
    have c1 := cell_of_row _ _ 1 _ _ _ hx
    have c2 := cell_of_row _ _ 2 _ _ _ hx
    have c3 := cell_of_row _ _ 3 _ _ _ hx
    have c4 := cell_of_row _ _ 4 _ _ _ hx
    have c5 := cell_of_row _ _ 5 _ _ _ hx
    have c6 := cell_of_row _ _ 6 _ _ _ hx
    have c7 := cell_of_row _ _ 7 _ _ _ hx
    simp only [List.getElem?_toArray, List.getElem?_cons_zero, List.getElem?_cons_succ] at c0 c1 c2 c3 c4 c5 c6 c7
    have HB := Lib.hid (box_below hb1)
    clear hx hb1
    go_wp2_with fail
    refine (inRange _ _ _ _).mono ?_
    rintro e w' ⟨rfl, rfl⟩
    rw [H0.out]
    go_wp2_with fail
    refine (inRange _ _ _ _).mono ?_
    rintro e w' ⟨rfl, rfl⟩
    rw [H1.out]
    go_wp2_with fail
    refine (inRange _ _ _ _).mono ?_
    rintro e w' ⟨rfl, rfl⟩
    rw [H2.out]
    go_wp2_with fail
    refine (implItem _ _).mono ?_
    rintro e w' ⟨rfl, rfl⟩
    rw [H3.out]
    go_wp2_with fail
    refine (inRange _ _ _ _).mono ?_
    rintro e w' ⟨rfl, rfl⟩
    rw [H4.out]
    go_wp2
    go_ret
    exact ⟨by rw [HO.out]; rfl, HB.out⟩
  have H4 := Lib.hid h4
  rcases hq : qB kind qty with _ | _
  · have HO := Lib.hid (opB_qty (dev := dev) (seq := seq) (stamp := stamp) (item := item) (level := level) (undos := undos) hq)
    have HQ := Lib.hid hq
    clear hki h0 h1 h2 h3 h4 hq
    go_enter Try.func76, Try.ntmps76
    go_wp2_with fail
    refine (kindOfYes _ _ _ _ _ _ _ _ _ HKi.out).mono ?_
    rintro e w1 ⟨rfl, hb1⟩
    have hx := boxAt hb1
    have c0 := cell_of_row _ _ 0 _ _ _ hx
    have c1 := cell_of_row _ _ 1 _ _ _ hx
    have c2 := cell_of_row _ _ 2 _ _ _ hx
    have c3 := cell_of_row _ _ 3 _ _ _ hx
    have c4 := cell_of_row _ _ 4 _ _ _ hx
    have c5 := cell_of_row _ _ 5 _ _ _ hx
    have c6 := cell_of_row _ _ 6 _ _ _ hx
    have c7 := cell_of_row _ _ 7 _ _ _ hx
    simp only [List.getElem?_toArray, List.getElem?_cons_zero, List.getElem?_cons_succ] at c0 c1 c2 c3 c4 c5 c6 c7
    have HB := Lib.hid (box_below hb1)
    clear hx hb1
    go_wp2_with fail
    refine (inRange _ _ _ _).mono ?_
    rintro e w' ⟨rfl, rfl⟩
    rw [H0.out]
    go_wp2_with fail
    refine (inRange _ _ _ _).mono ?_
    rintro e w' ⟨rfl, rfl⟩
    rw [H1.out]
    go_wp2_with fail
    refine (inRange _ _ _ _).mono ?_
    rintro e w' ⟨rfl, rfl⟩
    rw [H2.out]
    go_wp2_with fail
    refine (implItem _ _).mono ?_
    rintro e w' ⟨rfl, rfl⟩
    rw [H3.out]
    go_wp2_with fail
    refine (inRange _ _ _ _).mono ?_
    rintro e w' ⟨rfl, rfl⟩
    rw [H4.out]
    go_wp2_with fail
    refine (qtyOk _ _ _ HKi.out).mono ?_
    rintro e w' ⟨rfl, rfl⟩
    rw [HQ.out]
    go_wp2
    go_ret
    exact ⟨by rw [HO.out]; rfl, HB.out⟩
  have HO := Lib.hid (opB_level (level := level) (head_yes h0 h1 h2 h3 h4) hki hq)
  have HQ := Lib.hid hq
  have HC := Lib.hid (kind_cases hki)
  clear hki h0 h1 h2 h3 h4 hq
  go_enter Try.func76, Try.ntmps76
  go_wp2_with fail
  refine (kindOfYes _ _ _ _ _ _ _ _ _ HKi.out).mono ?_
  rintro e w1 ⟨rfl, hb1⟩
  have hx := boxAt hb1
  have c0 := cell_of_row _ _ 0 _ _ _ hx
  have c1 := cell_of_row _ _ 1 _ _ _ hx
  have c2 := cell_of_row _ _ 2 _ _ _ hx
  have c3 := cell_of_row _ _ 3 _ _ _ hx
  have c4 := cell_of_row _ _ 4 _ _ _ hx
  have c5 := cell_of_row _ _ 5 _ _ _ hx
  have c6 := cell_of_row _ _ 6 _ _ _ hx
  have c7 := cell_of_row _ _ 7 _ _ _ hx
  simp only [List.getElem?_toArray, List.getElem?_cons_zero, List.getElem?_cons_succ] at c0 c1 c2 c3 c4 c5 c6 c7
  have HB := Lib.hid (box_below hb1)
  clear hx hb1
  go_wp2_with fail
  refine (inRange _ _ _ _).mono ?_
  rintro e w' ⟨rfl, rfl⟩
  rw [H0.out]
  go_wp2_with fail
  refine (inRange _ _ _ _).mono ?_
  rintro e w' ⟨rfl, rfl⟩
  rw [H1.out]
  go_wp2_with fail
  refine (inRange _ _ _ _).mono ?_
  rintro e w' ⟨rfl, rfl⟩
  rw [H2.out]
  go_wp2_with fail
  refine (implItem _ _).mono ?_
  rintro e w' ⟨rfl, rfl⟩
  rw [H3.out]
  go_wp2_with fail
  refine (inRange _ _ _ _).mono ?_
  rintro e w' ⟨rfl, rfl⟩
  rw [H4.out]
  go_wp2_with fail
  refine (qtyOk _ _ _ HKi.out).mono ?_
  rintro e w' ⟨rfl, rfl⟩
  rw [HQ.out]
  rcases HC.out with rfl | rfl | rfl | rfl | rfl
  · simp only [show kV 1 = .iface 199 (.agg #[]) from rfl]
    go_wp2_with fail
    refine (level_adding _ _).mono ?_
    rintro e w2 ⟨rfl, hb2⟩
    go_wp2
    go_ret
    exact ⟨by rw [HO.out]; rfl, HB.out.trans (hb2.mono HB.out.size)⟩
  · simp only [show kV 2 = .iface 202 (.agg #[]) from rfl]
    go_wp2_with fail
    refine (level_none 2 _ (by decide) (by decide) _).mono ?_
    rintro e w2 ⟨rfl, hb2⟩
    go_wp2
    go_ret
    exact ⟨by rw [HO.out]; rfl, HB.out.trans (hb2.mono HB.out.size)⟩
  · simp only [show kV 3 = .iface 203 (.agg #[]) from rfl]
    go_wp2_with fail
    refine (level_removing _ _).mono ?_
    rintro e w2 ⟨rfl, hb2⟩
    go_wp2
    go_ret
    exact ⟨by rw [HO.out]; rfl, HB.out.trans (hb2.mono HB.out.size)⟩
  · simp only [show kV 4 = .iface 204 (.agg #[]) from rfl]
    go_wp2_with fail
    refine (level_none 4 _ (by decide) (by decide) _).mono ?_
    rintro e w2 ⟨rfl, hb2⟩
    go_wp2
    go_ret
    exact ⟨by rw [HO.out]; rfl, HB.out.trans (hb2.mono HB.out.size)⟩
  · simp only [show kV 5 = .iface 205 (.agg #[]) from rfl]
    go_wp2_with fail
    refine (level_none 5 _ (by decide) (by decide) _).mono ?_
    rintro e w2 ⟨rfl, hb2⟩
    go_wp2
    go_ret
    exact ⟨by rw [HO.out]; rfl, HB.out.trans (hb2.mono HB.out.size)⟩
end Go.Proofs.Ytdbdmfaphdjdpaa
