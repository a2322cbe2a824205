/- The walk of spec.CmdOk, and of the law FnExactCmdOk. -/
import Derived.Test.YtideaompdbdbhaaCmdSpecA
import Derived.Test.YtideaompdbdbhaaCmdSpecB
import Derived.Test.YtideaompdbdbhaaCmdSpecC
import Derived.Deep.Cut
namespace Go.Proofs.Ytideaompdbdbhaa
open Go.RowKit

set_option maxRecDepth 100000 in
set_option maxHeartbeats 2000000 in
theorem specCmd (kind : Int) (item : ByteArray) (qty dev seq : Int) (hs : item.size ≤ 1048576) (w : World) : Calls Try.prog 10 #[.agg #[.int .i64 kind, .string item, .int .i64 qty, .int .i64 dev, .int .i64 seq]] w fun e w' => e = .returned (.bool (cmdB kind item qty dev seq)) ∧ Below w.heap.size w w' := by
  by_cases h1 : kind = 1
  · rw [h1]; exact specCmd1 item qty dev seq hs w
  by_cases h2 : kind = 2
  · rw [h2]; exact specCmd2 item qty dev seq hs w
  by_cases h3 : kind = 3
  · rw [h3]; exact specCmd3 item qty dev seq hs w
  by_cases h4 : kind = 4
  · rw [h4]; exact specCmd4 item qty dev seq hs w
  by_cases h5 : kind = 5
  · rw [h5]; exact specCmd5 item qty dev seq hs w
  by_cases h6 : kind = 6
  · rw [h6]; exact specCmd6 item qty dev seq hs w
  by_cases h7 : kind = 7
  · rw [h7]; exact specCmd7 item qty dev seq hs w
  by_cases h8 : kind = 8
  · rw [h8]; exact specCmd8 item qty dev seq hs w
  by_cases h9 : kind = 9
  · rw [h9]; exact specCmd9 item qty dev seq hs w
  have HE := Lib.hid (cmd_other (item := item) (qty := qty) (dev := dev) (seq := seq) h1 h2 h3 h4 h5 h6 h7 h8 h9)
  have b1 : (kind == 1) = false := by rw [beq_eq_false_iff_ne]; exact h1
  have b2 : (kind == 2) = false := by rw [beq_eq_false_iff_ne]; exact h2
  have b3 : (kind == 3) = false := by rw [beq_eq_false_iff_ne]; exact h3
  have b4 : (kind == 4) = false := by rw [beq_eq_false_iff_ne]; exact h4
  have b5 : (kind == 5) = false := by rw [beq_eq_false_iff_ne]; exact h5
  have b6 : (kind == 6) = false := by rw [beq_eq_false_iff_ne]; exact h6
  have b7 : (kind == 7) = false := by rw [beq_eq_false_iff_ne]; exact h7
  have b8 : (kind == 8) = false := by rw [beq_eq_false_iff_ne]; exact h8
  have b9 : (kind == 9) = false := by rw [beq_eq_false_iff_ne]; exact h9
  clear h1 h2 h3 h4 h5 h6 h7 h8 h9
  by_cases hzd : dev = 0
  · subst hzd
    by_cases hzs : seq = 0
    · subst hzs
      go_enter Try.func10, Try.ntmps10
      go_wp2
      go_ret
      exact ⟨by rw [HE.out]; rfl, (Below.refl _ _).alloc (Nat.le_refl _) _⟩
    · have bzs : (seq == 0) = false := by rw [beq_eq_false_iff_ne]; exact hzs
      clear hzs
      go_enter Try.func10, Try.ntmps10
      go_wp2
      go_ret
      exact ⟨by rw [HE.out]; rfl, (Below.refl _ _).alloc (Nat.le_refl _) _⟩
  have bzd : (dev == 0) = false := by rw [beq_eq_false_iff_ne]; exact hzd
  clear hzd
  go_enter Try.func10, Try.ntmps10
  go_wp2
  go_ret
  exact ⟨by rw [HE.out]; rfl, (Below.refl _ _).alloc (Nat.le_refl _) _⟩
set_option maxRecDepth 100000 in
theorem toCmdW (kind : Int) (item : ByteArray) (qty dev seq : Int) (w : World) : Calls Try.prog 11 #[.agg #[.int .i64 kind, .string item, .int .i64 qty, .int .i64 dev, .int .i64 seq]] w fun e w' => e = .returned (.agg #[.int .i64 kind, .string item, .int .i64 qty, .int .i64 dev, .int .i64 seq]) ∧ Below w.heap.size w w' := by
  go_enter Try.func11, Try.ntmps11
  go_wp2
  refine bodyPost_ret (v := .agg #[.int .i64 kind, .string item, .int .i64 qty, .int .i64 dev, .int .i64 seq]) (by simp [results, Try.results11, go_sem]) rfl ⟨rfl, ?_⟩
  go_grown
theorem szCmdNo (kind : Int) (item : ByteArray) (qty dev seq : Int) (hs : item.size ≤ maxLen) (h : ¬ item.size ≤ 1048576) (w : World) : Calls Try.prog 9 #[.agg #[.int .i64 kind, .string item, .int .i64 qty, .int .i64 dev, .int .i64 seq], .int .i64 1048576] w fun e w' => e = .returned (.int .i64 (-1)) ∧ Below w.heap.size w w' := by
  have hd : decide ((1048576 : Int) - (item.size : Int) < 0) = true := decide_eq_true (by omega)
  have hd2 : (1048576 : Int) < (item.size : Int) := by omega
  unfold maxLen at hs
  go_enter Try.func9, Try.ntmps9
  go_wp2
  go_ret
  exact ⟨rfl, (Below.refl _ _).alloc (Nat.le_refl _) _⟩
theorem szCmdYes (kind : Int) (item : ByteArray) (qty dev seq : Int) (h : item.size ≤ 1048576) (w : World) : Calls Try.prog 9 #[.agg #[.int .i64 kind, .string item, .int .i64 qty, .int .i64 dev, .int .i64 seq], .int .i64 1048576] w fun e w' => e = .returned (.int .i64 ((1048576 : Int) - (item.size : Int))) ∧ Below w.heap.size w w' := by
  have hd : decide ((1048576 : Int) - (item.size : Int) < 0) = false := decide_eq_false (by omega)
  go_enter Try.func9, Try.ntmps9
  go_wp2
  go_ret
  exact ⟨rfl, (Below.refl _ _).alloc (Nat.le_refl _) _⟩
set_option maxRecDepth 100000 in
set_option maxHeartbeats 2000000 in
theorem fnExactCmdOkWalk (kind : Int) (item : ByteArray) (qty dev seq : Int) (w : World) (hs : item.size ≤ maxLen) : Calls Try.prog 3 #[.agg #[.int .i64 kind, .string item, .int .i64 qty, .int .i64 dev, .int .i64 seq]] w fun e w' => e = .returned (.bool true) ∧ Below w.heap.size w w' := by
  by_cases hbig : item.size ≤ 1048576
  rotate_left
  · go_enter Try.func3, Try.ntmps3
    go_wp2_with fail
    refine (szCmdNo kind item qty dev seq hs hbig _).mono ?_
    rintro e w1 ⟨rfl, hb1⟩
    have HB := Lib.hid (box_below hb1)
    clear hb1
    go_wp2
    go_ret
    exact ⟨rfl, HB.out⟩
  have hd : decide ((1048576 : Int) - (item.size : Int) < 0) = false := decide_eq_false (by omega)
  go_enter Try.func3, Try.ntmps3
  go_wp2_with fail
  refine (szCmdYes kind item qty dev seq hbig _).mono ?_
  rintro e w1 ⟨rfl, hb1⟩
  have HX1 := Lib.hid (boxAt hb1)
  have HB1 := Lib.hid (box_below hb1)
  clear hb1 hs
  generalize (1048576 : Int) - (item.size : Int) = lf at hd ⊢

  have ⟨c0, c1, c2, c3, c4⟩ : w1.cell? ⟨w.heap.size, 0, none⟩ = some (.int .i64 kind) ∧ w1.cell? ⟨w.heap.size, 1, none⟩ = some (.string item) ∧ w1.cell? ⟨w.heap.size, 2, none⟩ = some (.int .i64 qty) ∧ w1.cell? ⟨w.heap.size, 3, none⟩ = some (.int .i64 dev) ∧ w1.cell? ⟨w.heap.size, 4, none⟩ = some (.int .i64 seq) := ⟨cell_of_row _ _ _ _ _ _ HX1.out, cell_of_row _ _ _ _ _ _ HX1.out, cell_of_row _ _ _ _ _ _ HX1.out, cell_of_row _ _ _ _ _ _ HX1.out, cell_of_row _ _ _ _ _ _ HX1.out⟩
  go_wp2_with fail
  refine (toCmdW kind item qty dev seq _).mono ?_
  rintro e w2 ⟨rfl, hb⟩
  have HX2 := Lib.hid ((hb.block _ (Array.getElem?_eq_some_iff.1 HX1.out).1).trans HX1.out)
  have HB2 := Lib.hid (HB1.out.trans (hb.mono HB1.out.size))
  clear hb HX1 HB1 c0 c1 c2 c3 c4
  go_wp2_with fail
  refine (specCmd kind item qty dev seq hbig _).mono ?_
  rintro e w3 ⟨rfl, hb⟩
  have HX3 := Lib.hid ((hb.block _ (Array.getElem?_eq_some_iff.1 HX2.out).1).trans HX2.out)
  have HB3 := Lib.hid (HB2.out.trans (hb.mono HB2.out.size))
  clear hb HX2 HB2
  have ⟨c0, c1, c2, c3, c4⟩ : w3.cell? ⟨w.heap.size, 0, none⟩ = some (.int .i64 kind) ∧ w3.cell? ⟨w.heap.size, 1, none⟩ = some (.string item) ∧ w3.cell? ⟨w.heap.size, 2, none⟩ = some (.int .i64 qty) ∧ w3.cell? ⟨w.heap.size, 3, none⟩ = some (.int .i64 dev) ∧ w3.cell? ⟨w.heap.size, 4, none⟩ = some (.int .i64 seq) := ⟨cell_of_row _ _ _ _ _ _ HX3.out, cell_of_row _ _ _ _ _ _ HX3.out, cell_of_row _ _ _ _ _ _ HX3.out, cell_of_row _ _ _ _ _ _ HX3.out, cell_of_row _ _ _ _ _ _ HX3.out⟩
  go_wp2_with fail
  refine (toCmdW kind item qty dev seq _).mono ?_
  rintro e w4 ⟨rfl, hb⟩
  have HX4 := Lib.hid ((hb.block _ (Array.getElem?_eq_some_iff.1 HX3.out).1).trans HX3.out)
  have HB4 := Lib.hid (HB3.out.trans (hb.mono HB3.out.size))
  clear hb HX3 HB3 c0 c1 c2 c3 c4
  go_wp2_with fail
  refine (implCmd kind item qty dev seq _).mono ?_
  rintro e w5 ⟨rfl, hb⟩
  have HX5 := Lib.hid ((hb.block _ (Array.getElem?_eq_some_iff.1 HX4.out).1).trans HX4.out)
  have HB5 := Lib.hid (HB4.out.trans (hb.mono HB4.out.size))
  clear hb HX4 HB4
  generalize cmdB kind item qty dev seq = b
  have hbb : (b != b) = false := bne_self_eq_false _
  go_wp2
  go_ret
  exact ⟨rfl, HB5.out⟩
end Go.Proofs.Ytideaompdbdbhaa
