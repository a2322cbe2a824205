/- Walks and mathematics that several claims share, part 3. -/
import Derived.Test.YthkagbnpcjidfaaGreatDoorGu2
import Derived.Handy
namespace Go.Proofs.YthkagbnpcjidfaaGreatDoor
set_option maxRecDepth 100000
open Go.RowKit
set_option linter.unusedVariables false
set_option linter.unusedSimpArgs false
theorem bF {w : World} {g : Nat} {cs : Array Value} {T : TypeId} {fr : Nat × Nat} (h : w.heap[g]? = some (.cells cs T fr)) : g < w.heap.size := (aPp h).1
def X5 (dev seq stamp kind : Int) (item : ByteArray) (qty level undos : Int) : Bool := dM dev seq stamp kind item qty level undos && decide (undos % 2 = 0)
theorem H7 {dev seq stamp kind : Int} {item : ByteArray} {qty level undos : Int} (h : dM dev seq stamp kind item qty level undos = true) : 0 ≤ undos ∧ undos ≤ 50 := by
 unfold dM rA at h
 simp only [Bool.and_eq_true] at h
 exact gJ.1 h.1.2.2.2.2
theorem aCO (dev seq stamp kind : Int) (item : ByteArray) (qty level undos : Int) (w : World) (h0 : 0 ≤ undos) : Calls Tryz.prog 119 #[.agg #[.int .i64 dev, .int .i64 seq, .int .i64 stamp, .int .i64 kind, .string item, .int .i64 qty, .int .i64 level, .int .i64 undos]] w fun e w' => e = .returned (.bool (decide (undos % 2 = 0))) ∧ Below w.heap.size w w' := by
 by_cases hm : undos % 2 = 0
 ·have wO : (undos % 2 == 0) = true := by rw [hm]; rfl
  have HD := aPo (decide_eq_true hm); clear hm
  go_enter Tryz.func119, Tryz.ntmps119
  go_wp2
  go_ret
  exact ⟨by rw [HD.out]; rfl, bl⟩
 ·have wO : (undos % 2 == 0) = false := by rw [beq_eq_false_iff_ne]; exact hm
  have HD := aPo (decide_eq_false hm); clear hm
  go_enter Tryz.func119, Tryz.ntmps119
  go_wp2
  go_ret
  exact ⟨by rw [HD.out]; rfl, bl⟩
theorem aIi (dev seq stamp kind : Int) (item : ByteArray) (qty level undos : Int) (w : World) : Calls Tryz.prog 31 #[.agg #[.int .i64 dev, .int .i64 seq, .int .i64 stamp, .int .i64 kind, .string item, .int .i64 qty, .int .i64 level, .int .i64 undos]] w fun e w' => e = .returned (.bool (X5 dev seq stamp kind item qty level undos)) ∧ Below w.heap.size w w' := by
 have HL : Hid (X5 dev seq stamp kind item qty level undos = (dM dev seq stamp kind item qty level undos && decide (undos % 2 = 0))) := rfl
 rcases ho : dM dev seq stamp kind item qty level undos with _ | _
 ·have HO := aPo ho
  clear ho
  go_enter Tryz.func31, Tryz.ntmps31
  go_wp2_with fail
  refine (kY dev seq stamp kind item qty level undos _).mono ?_
  rintro e w1 ⟨rfl, aG⟩; rw [HO.out]; have hB1 := aPo (iI aG); clear aG; go_wp2
  go_ret
  exact ⟨by rw [HL.out, HO.out]; rfl, hB1.out⟩
 ·have HO := aPo ho
  have h0 := (H7 ho).1; clear ho
  by_cases hm : undos % 2 = 0
  ·have wO : (undos % 2 == 0) = true := by rw [hm]; rfl
   have HD := aPo (decide_eq_true hm); clear hm
   go_enter Tryz.func31, Tryz.ntmps31
   go_wp2_with fail
   refine (kY dev seq stamp kind item qty level undos _).mono ?_
   rintro e w1 ⟨rfl, aG⟩; rw [HO.out]; have hx := bX aG; have hB1 := aPo (iI aG); clear aG; have c0 := cell_of_row _ _ 0 _ _ _ hx; have c1 := cell_of_row _ _ 1 _ _ _ hx; have c2 := cell_of_row _ _ 2 _ _ _ hx; have c3 := cell_of_row _ _ 3 _ _ _ hx; have c4 := cell_of_row _ _ 4 _ _ _ hx; have c5 := cell_of_row _ _ 5 _ _ _ hx; have c6 := cell_of_row _ _ 6 _ _ _ hx; have c7 := cell_of_row _ _ 7 _ _ _ hx; simp only [List.getElem?_toArray, List.getElem?_cons_zero, List.getElem?_cons_succ] at c0 c1 c2 c3 c4 c5 c6 c7
   go_wp2
   go_ret
   exact ⟨by rw [HL.out, HO.out, HD.out]; rfl, hB1.out⟩
  ·have wO : (undos % 2 == 0) = false := by rw [beq_eq_false_iff_ne]; exact hm
   have HD := aPo (decide_eq_false hm); clear hm
   go_enter Tryz.func31, Tryz.ntmps31
   go_wp2_with fail
   refine (kY dev seq stamp kind item qty level undos _).mono ?_
   rintro e w1 ⟨rfl, aG⟩; rw [HO.out]; have hx := bX aG; have hB1 := aPo (iI aG); clear aG; have c0 := cell_of_row _ _ 0 _ _ _ hx; have c1 := cell_of_row _ _ 1 _ _ _ hx; have c2 := cell_of_row _ _ 2 _ _ _ hx; have c3 := cell_of_row _ _ 3 _ _ _ hx; have c4 := cell_of_row _ _ 4 _ _ _ hx; have c5 := cell_of_row _ _ 5 _ _ _ hx; have c6 := cell_of_row _ _ 6 _ _ _ hx; have c7 := cell_of_row _ _ 7 _ _ _ hx; simp only [List.getElem?_toArray, List.getElem?_cons_zero, List.getElem?_cons_succ] at c0 c1 c2 c3 c4 c5 c6 c7
   go_wp2
   go_ret
   exact ⟨by rw [HL.out, HO.out, HD.out]; rfl, hB1.out⟩
end Go.Proofs.YthkagbnpcjidfaaGreatDoor
