/- Walks and mathematics that several claims share, part 11. -/
import Derived.Test.YtjokbaaommicmaaGreatDoorGb10
import Derived.Handy
import Derived.Test.YtjokbaaommicmaaGreatDoorGbA
namespace Go.Proofs.YtjokbaaommicmaaGreatDoor
set_option maxRecDepth 100000
open Go.RowKit

theorem ret_int {k : IntKind} {a b : Int} (h : a = b) : Ending.returned (.int k a) = .returned (.int k b) := by rw [h]

theorem toOp (dev seq stamp kind : Int) (item : ByteArray) (qty level undos : Int) (w : World) : Calls Tryz.prog 76 #[.agg #[.int .i64 dev, .int .i64 seq, .int .i64 stamp, .int .i64 kind, .string item, .int .i64 qty, .int .i64 level, .int .i64 undos]] w fun e w' => e = .returned (.agg #[.int .i64 dev, .int .i64 seq, .int .i64 stamp, .int .i64 kind, .string item, .int .i64 qty, .int .i64 level, .int .i64 undos]) ∧ Below w.heap.size w w' := by
 go_enter Tryz.func76, Tryz.ntmps76
 go_wp2
 refine bodyPost_ret (v := .agg #[.int .i64 dev, .int .i64 seq, .int .i64 stamp, .int .i64 kind, .string item, .int .i64 qty, .int .i64 level, .int .i64 undos]) (by simp [results, Tryz.results76, go_sem]) rfl ⟨rfl, ?_⟩
 go_grown
theorem szOpYes (dev seq stamp kind : Int) (item : ByteArray) (qty level undos : Int) (left : Nat) (hl : left ≤ 1048576) (h : item.size ≤ left) (w : World) : Calls Tryz.prog 67 #[.agg #[.int .i64 dev, .int .i64 seq, .int .i64 stamp, .int .i64 kind, .string item, .int .i64 qty, .int .i64 level, .int .i64 undos], .int .i64 (left : Int)] w fun e w' => e = .returned (.int .i64 ((left - item.size : Nat) : Int)) ∧ Below w.heap.size w w' := by
 have hd : decide ((left : Int) - (item.size : Int) < 0) = false := decide_eq_false (by omega)
 go_enter Tryz.func67, Tryz.ntmps67
 go_wp2
 go_ret
 exact ⟨ret_int (by omega), bl⟩
theorem szOpNo (dev seq stamp kind : Int) (item : ByteArray) (qty level undos : Int) (left : Nat) (hl : left ≤ 1048576) (hm : item.size ≤ maxLen) (h : ¬ item.size ≤ left) (w : World) : Calls Tryz.prog 67 #[.agg #[.int .i64 dev, .int .i64 seq, .int .i64 stamp, .int .i64 kind, .string item, .int .i64 qty, .int .i64 level, .int .i64 undos], .int .i64 (left : Int)] w fun e w' => e = .returned (.int .i64 (-1)) ∧ Below w.heap.size w w' := by
 unfold maxLen at hm
 have hd : decide ((left : Int) - (item.size : Int) < 0) = true := decide_eq_true (by omega)
 go_enter Tryz.func67, Tryz.ntmps67
 go_wp2
 go_ret
 exact ⟨rfl, bl⟩
theorem lt_of_row {w : World} {g : Nat} {cs : Array Value} {T : TypeId} {fr : Nat × Nat} (h : w.heap[g]? = some (.cells cs T fr)) : g < w.heap.size := (Array.getElem?_eq_some_iff.1 h).1
def liveB (dev seq stamp kind : Int) (item : ByteArray) (qty level undos : Int) : Bool := opB dev seq stamp kind item qty level undos && decide (undos % 2 = 0)
theorem undos_of {dev seq stamp kind : Int} {item : ByteArray} {qty level undos : Int} (h : opB dev seq stamp kind item qty level undos = true) : 0 ≤ undos ∧ undos ≤ 50 := by
 unfold opB headB at h
 simp only [Bool.and_eq_true] at h
 exact inB_iff.1 h.1.2.2.2.2
theorem l3Live (dev seq stamp kind : Int) (item : ByteArray) (qty level undos : Int) (w : World) (h0 : 0 ≤ undos) : Calls Tryz.prog 95 #[.agg #[.int .i64 dev, .int .i64 seq, .int .i64 stamp, .int .i64 kind, .string item, .int .i64 qty, .int .i64 level, .int .i64 undos]] w fun e w' => e = .returned (.bool (decide (undos % 2 = 0))) ∧ Below w.heap.size w w' := by
 by_cases hm : undos % 2 = 0
 ·have hm' : (undos % 2 == 0) = true := by rw [hm]; rfl
  have HD := Lib.hid (decide_eq_true hm)
  clear hm
  go_enter Tryz.func95, Tryz.ntmps95
  go_wp2
  go_ret
  exact ⟨by rw [HD.out]; rfl, bl⟩
 ·have hm' : (undos % 2 == 0) = false := by rw [beq_eq_false_iff_ne]; exact hm
  have HD := Lib.hid (decide_eq_false hm)
  clear hm
  go_enter Tryz.func95, Tryz.ntmps95
  go_wp2
  go_ret
  exact ⟨by rw [HD.out]; rfl, bl⟩
theorem implLive (dev seq stamp kind : Int) (item : ByteArray) (qty level undos : Int) (w : World) : Calls Tryz.prog 144 #[.agg #[.int .i64 dev, .int .i64 seq, .int .i64 stamp, .int .i64 kind, .string item, .int .i64 qty, .int .i64 level, .int .i64 undos]] w fun e w' => e = .returned (.bool (liveB dev seq stamp kind item qty level undos)) ∧ Below w.heap.size w w' := by
 have HL : Hid (liveB dev seq stamp kind item qty level undos = (opB dev seq stamp kind item qty level undos && decide (undos % 2 = 0))) := rfl
 rcases ho : opB dev seq stamp kind item qty level undos with _ | _
 ·have HO := Lib.hid ho
  clear ho
  go_enter Tryz.func144, Tryz.ntmps144
  go_wp2_with fail
  refine (implOpOk dev seq stamp kind item qty level undos _).mono ?_
  rintro e w1 ⟨rfl, hb1⟩
  rw [HO.out]
  have hB1 := Lib.hid (box_below hb1)
  clear hb1
  go_wp2
  go_ret
  exact ⟨by rw [HL.out, HO.out]; rfl, hB1.out⟩
 ·have HO := Lib.hid ho
  have h0 := (undos_of ho).1
  clear ho
  by_cases hm : undos % 2 = 0
  ·have hm' : (undos % 2 == 0) = true := by rw [hm]; rfl
   have HD := Lib.hid (decide_eq_true hm)
   clear hm
   go_enter Tryz.func144, Tryz.ntmps144
   go_wp2_with fail
   refine (implOpOk dev seq stamp kind item qty level undos _).mono ?_
   rintro e w1 ⟨rfl, hb1⟩
   rw [HO.out]
   have hx := boxAt hb1
   have hB1 := Lib.hid (box_below hb1)
   clear hb1
   have c0 := cell_of_row _ _ 0 _ _ _ hx
   have c1 := cell_of_row _ _ 1 _ _ _ hx
   have c2 := cell_of_row _ _ 2 _ _ _ hx
   have c3 := cell_of_row _ _ 3 _ _ _ hx
   have c4 := cell_of_row _ _ 4 _ _ _ hx
   have c5 := cell_of_row _ _ 5 _ _ _ hx
   have c6 := cell_of_row _ _ 6 _ _ _ hx
   have c7 := cell_of_row _ _ 7 _ _ _ hx
   simp only [List.getElem?_toArray, List.getElem?_cons_zero, List.getElem?_cons_succ] at c0 c1 c2 c3 c4 c5 c6 c7
   go_wp2
   go_ret
   exact ⟨by rw [HL.out, HO.out, HD.out]; rfl, hB1.out⟩
  ·have hm' : (undos % 2 == 0) = false := by rw [beq_eq_false_iff_ne]; exact hm
   have HD := Lib.hid (decide_eq_false hm)
   clear hm
   go_enter Tryz.func144, Tryz.ntmps144
   go_wp2_with fail
   refine (implOpOk dev seq stamp kind item qty level undos _).mono ?_
   rintro e w1 ⟨rfl, hb1⟩
   rw [HO.out]
   have hx := boxAt hb1
   have hB1 := Lib.hid (box_below hb1)
   clear hb1
   have c0 := cell_of_row _ _ 0 _ _ _ hx
   have c1 := cell_of_row _ _ 1 _ _ _ hx
   have c2 := cell_of_row _ _ 2 _ _ _ hx
   have c3 := cell_of_row _ _ 3 _ _ _ hx
   have c4 := cell_of_row _ _ 4 _ _ _ hx
   have c5 := cell_of_row _ _ 5 _ _ _ hx
   have c6 := cell_of_row _ _ 6 _ _ _ hx
   have c7 := cell_of_row _ _ 7 _ _ _ hx
   simp only [List.getElem?_toArray, List.getElem?_cons_zero, List.getElem?_cons_succ] at c0 c1 c2 c3 c4 c5 c6 c7
   go_wp2
   go_ret
   exact ⟨by rw [HL.out, HO.out, HD.out]; rfl, hB1.out⟩
end Go.Proofs.YtjokbaaommicmaaGreatDoor
