/- Walks and mathematics that several claims share, part 8. -/
import Derived.Test.YtejhmakfbmhhhaaGreatGx7
import Derived.Handy
import Derived.Test.YtejhmakfbmhhhaaGreatGxA
namespace Go.Proofs.YtejhmakfbmhhhaaGreat
set_option maxRecDepth 100000
open Go.RowKit

theorem lt_of_row {w : World} {g : Nat} {cs : Array Value} {T : TypeId} {fr : Nat × Nat} (h : w.heap[g]? = some (.cells cs T fr)) : g < w.heap.size := (Array.getElem?_eq_some_iff.1 h).1
def liveB (dev seq stamp kind : Int) (item : ByteArray) (qty level undos : Int) : Bool := opB dev seq stamp kind item qty level undos && decide (undos % 2 = 0)
theorem undos_of {dev seq stamp kind : Int} {item : ByteArray} {qty level undos : Int} (h : opB dev seq stamp kind item qty level undos = true) : 0 ≤ undos ∧ undos ≤ 50 := by
 unfold opB headB at h
 simp only [Bool.and_eq_true] at h
 exact inB_iff.1 h.1.2.2.2.2
theorem l3Live (dev seq stamp kind : Int) (item : ByteArray) (qty level undos : Int) (w : World) (h0 : 0 ≤ undos) : Calls Tryz.prog 77 #[.agg #[.int .i64 dev, .int .i64 seq, .int .i64 stamp, .int .i64 kind, .string item, .int .i64 qty, .int .i64 level, .int .i64 undos]] w fun e w' => e = .returned (.bool (decide (undos % 2 = 0))) ∧ Below w.heap.size w w' := by
 by_cases hm : undos % 2 = 0
 ·have hm' : (undos % 2 == 0) = true := by rw [hm]; rfl
  have HD := Lib.hid (decide_eq_true hm)
  clear hm
  go_enter Tryz.func77, Tryz.ntmps77
  go_wp2
  go_ret
  exact ⟨by rw [HD.out]; rfl, bl⟩
 ·have hm' : (undos % 2 == 0) = false := by rw [beq_eq_false_iff_ne]; exact hm
  have HD := Lib.hid (decide_eq_false hm)
  clear hm
  go_enter Tryz.func77, Tryz.ntmps77
  go_wp2
  go_ret
  exact ⟨by rw [HD.out]; rfl, bl⟩
theorem implLive (dev seq stamp kind : Int) (item : ByteArray) (qty level undos : Int) (w : World) : Calls Tryz.prog 94 #[.agg #[.int .i64 dev, .int .i64 seq, .int .i64 stamp, .int .i64 kind, .string item, .int .i64 qty, .int .i64 level, .int .i64 undos]] w fun e w' => e = .returned (.bool (liveB dev seq stamp kind item qty level undos)) ∧ Below w.heap.size w w' := by
 have HL : Hid (liveB dev seq stamp kind item qty level undos = (opB dev seq stamp kind item qty level undos && decide (undos % 2 = 0))) := rfl
 rcases ho : opB dev seq stamp kind item qty level undos with _ | _
 ·have HO := Lib.hid ho
  clear ho
  go_enter Tryz.func94, Tryz.ntmps94
  go_wp2_with fail
  refine (implOpOk dev seq stamp kind item qty level undos _).mono ?_
  rintro e w1 ⟨rfl, hb1⟩
  rw [HO.out]
  have hB1 := Lib.hid (box_below hb1)
  clear hb1
  go_wp2
  go_ret
  exact ⟨by rw [HL.out, HO.out]; rfl, hB1.out⟩
 ·have HO := Lib.hid ho
  have h0 := (undos_of ho).1
  clear ho
  by_cases hm : undos % 2 = 0
  ·have hm' : (undos % 2 == 0) = true := by rw [hm]; rfl
   have HD := Lib.hid (decide_eq_true hm)
   clear hm
   go_enter Tryz.func94, Tryz.ntmps94
   go_wp2_with fail
   refine (implOpOk dev seq stamp kind item qty level undos _).mono ?_
   rintro e w1 ⟨rfl, hb1⟩
   rw [HO.out]
   have hx := boxAt hb1
   have hB1 := Lib.hid (box_below hb1)
   clear hb1
   have c0 := cell_of_row _ _ 0 _ _ _ hx
   have c1 := cell_of_row _ _ 1 _ _ _ hx
   have c2 := cell_of_row _ _ 2 _ _ _ hx
   have c3 := cell_of_row _ _ 3 _ _ _ hx
   have c4 := cell_of_row _ _ 4 _ _ _ hx
   have c5 := cell_of_row _ _ 5 _ _ _ hx
   have c6 := cell_of_row _ _ 6 _ _ _ hx
   have c7 := cell_of_row _ _ 7 _ _ _ hx
   simp only [List.getElem?_toArray, List.getElem?_cons_zero, List.getElem?_cons_succ] at c0 c1 c2 c3 c4 c5 c6 c7
   go_wp2
   go_ret
   exact ⟨by rw [HL.out, HO.out, HD.out]; rfl, hB1.out⟩
  ·have hm' : (undos % 2 == 0) = false := by rw [beq_eq_false_iff_ne]; exact hm
   have HD := Lib.hid (decide_eq_false hm)
   clear hm
   go_enter Tryz.func94, Tryz.ntmps94
   go_wp2_with fail
   refine (implOpOk dev seq stamp kind item qty level undos _).mono ?_
   rintro e w1 ⟨rfl, hb1⟩
   rw [HO.out]
   have hx := boxAt hb1
   have hB1 := Lib.hid (box_below hb1)
   clear hb1
   have c0 := cell_of_row _ _ 0 _ _ _ hx
   have c1 := cell_of_row _ _ 1 _ _ _ hx
   have c2 := cell_of_row _ _ 2 _ _ _ hx
   have c3 := cell_of_row _ _ 3 _ _ _ hx
   have c4 := cell_of_row _ _ 4 _ _ _ hx
   have c5 := cell_of_row _ _ 5 _ _ _ hx
   have c6 := cell_of_row _ _ 6 _ _ _ hx
   have c7 := cell_of_row _ _ 7 _ _ _ hx
   simp only [List.getElem?_toArray, List.getElem?_cons_zero, List.getElem?_cons_succ] at c0 c1 c2 c3 c4 c5 c6 c7
   go_wp2
   go_ret
   exact ⟨by rw [HL.out, HO.out, HD.out]; rfl, hB1.out⟩
end Go.Proofs.YtejhmakfbmhhhaaGreat
