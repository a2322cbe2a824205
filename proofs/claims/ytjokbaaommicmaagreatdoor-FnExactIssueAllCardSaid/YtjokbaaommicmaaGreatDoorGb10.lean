/- Walks and mathematics that several claims share, part 10. -/
import Derived.Test.YtjokbaaommicmaaGreatDoorGb6
import Derived.Below
import Derived.Laws.Rows
import Derived.OpenShut
import Derived.Test.YtjokbaaommicmaaGreatDoorGbA
namespace Go.Proofs.YtjokbaaommicmaaGreatDoor
set_option maxRecDepth 100000
open Go.RowKit

theorem boxAt {w w1 : World} {cs : Array Value} {T : TypeId} (hb : Below (w.alloc (.cells cs T)).heap.size (w.alloc (.cells cs T)) w1) : w1.heap[w.heap.size]? = some (.cells cs T (0, 0)) :=
 (hb.block _ (by show _ < (w.heap.push _).size; simp)).trans (by show (w.heap.push _)[_]? = _; simp)
theorem box_below {w w1 : World} {o : Obj} (hb : Below (w.alloc o).heap.size (w.alloc o) w1) : Below w.heap.size w w1 :=
 ((Below.refl _ w).alloc (Nat.le_refl _) o).trans (hb.mono (by show _ ≤ (w.heap.push _).size; simp))
/-- The value behind an operation's kind. -/
def kT (kind : Int) : TypeId := if kind = 1 then 184 else if kind = 2 then 187 else if kind = 3 then 188 else if kind = 4 then 189 else 190
def kV (kind : Int) : Value := .iface (kT kind) (.agg #[])

theorem kindOfYes (dev seq stamp kind : Int) (item : ByteArray) (qty level undos : Int) (w : World) (h : kindB kind = true) :
  Calls Tryz.prog 112 #[.agg #[.int .i64 dev, .int .i64 seq, .int .i64 stamp, .int .i64 kind, .string item, .int .i64 qty, .int .i64 level, .int .i64 undos]] w fun e w' => e = .returned (.tuple #[kV kind, .bool true]) ∧ Below w.heap.size w w' := by
 rcases kind_cases h with rfl | rfl | rfl | rfl | rfl
 ·clear h
  go_enter Tryz.func112, Tryz.ntmps112
  go_wp2
  go_ret2
  exact ⟨rfl, bl⟩
 ·clear h
  go_enter Tryz.func112, Tryz.ntmps112
  go_wp2
  go_ret2
  exact ⟨rfl, bl⟩
 ·clear h
  go_enter Tryz.func112, Tryz.ntmps112
  go_wp2
  go_ret2
  exact ⟨rfl, bl⟩
 ·clear h
  go_enter Tryz.func112, Tryz.ntmps112
  go_wp2
  go_ret2
  exact ⟨rfl, bl⟩
 ·clear h
  go_enter Tryz.func112, Tryz.ntmps112
  go_wp2
  go_ret2
  exact ⟨rfl, bl⟩
theorem kindOfNo (dev seq stamp kind : Int) (item : ByteArray) (qty level undos : Int) (w : World) (h : kindB kind = false) :
  Calls Tryz.prog 112 #[.agg #[.int .i64 dev, .int .i64 seq, .int .i64 stamp, .int .i64 kind, .string item, .int .i64 qty, .int .i64 level, .int .i64 undos]] w fun e w' => e = .returned (.tuple #[.nilIface, .bool false]) ∧ Below w.heap.size w w' := by
 have hn : ¬ (1 ≤ kind ∧ kind ≤ 5) := fun h' => by have := inB_iff.2 h'; unfold kindB at h; rw [this] at h; cases h
 have n1 : (kind == 1) = false := by rw [beq_eq_false_iff_ne]; omega
 have n2 : (kind == 2) = false := by rw [beq_eq_false_iff_ne]; omega
 have n3 : (kind == 3) = false := by rw [beq_eq_false_iff_ne]; omega
 have n4 : (kind == 4) = false := by rw [beq_eq_false_iff_ne]; omega
 have n5 : (kind == 5) = false := by rw [beq_eq_false_iff_ne]; omega
 clear h hn
 go_enter Tryz.func112, Tryz.ntmps112
 go_wp2
 go_ret2
 exact ⟨rfl, bl⟩
theorem Tryz.as1 (w : World) : Sem.run Tryz.prog (Instr.typeAssert (.iface 184 (.agg #[])) 164 184 true) w = .ok (.tuple #[.agg #[], .bool true]) w := by kernel_rfl
theorem Tryz.at1 (w : World) : Sem.run Tryz.prog (Instr.typeAssert (.iface 184 (.agg #[])) 164 187 true) w = .ok (.tuple #[.agg #[], .bool false]) w := by kernel_rfl
theorem Tryz.as2 (w : World) : Sem.run Tryz.prog (Instr.typeAssert (.iface 187 (.agg #[])) 164 184 true) w = .ok (.tuple #[.agg #[], .bool false]) w := by kernel_rfl
theorem Tryz.at2 (w : World) : Sem.run Tryz.prog (Instr.typeAssert (.iface 187 (.agg #[])) 164 187 true) w = .ok (.tuple #[.agg #[], .bool true]) w := by kernel_rfl
theorem Tryz.as3 (w : World) : Sem.run Tryz.prog (Instr.typeAssert (.iface 188 (.agg #[])) 164 184 true) w = .ok (.tuple #[.agg #[], .bool false]) w := by kernel_rfl
theorem Tryz.at3 (w : World) : Sem.run Tryz.prog (Instr.typeAssert (.iface 188 (.agg #[])) 164 187 true) w = .ok (.tuple #[.agg #[], .bool false]) w := by kernel_rfl
theorem Tryz.as4 (w : World) : Sem.run Tryz.prog (Instr.typeAssert (.iface 189 (.agg #[])) 164 184 true) w = .ok (.tuple #[.agg #[], .bool false]) w := by kernel_rfl
theorem Tryz.at4 (w : World) : Sem.run Tryz.prog (Instr.typeAssert (.iface 189 (.agg #[])) 164 187 true) w = .ok (.tuple #[.agg #[], .bool false]) w := by kernel_rfl
theorem Tryz.as5 (w : World) : Sem.run Tryz.prog (Instr.typeAssert (.iface 190 (.agg #[])) 164 184 true) w = .ok (.tuple #[.agg #[], .bool false]) w := by kernel_rfl
theorem Tryz.at5 (w : World) : Sem.run Tryz.prog (Instr.typeAssert (.iface 190 (.agg #[])) 164 187 true) w = .ok (.tuple #[.agg #[], .bool false]) w := by kernel_rfl
theorem qtyOk (kind qty : Int) (w : World) (h : kindB kind = true) :
  Calls Tryz.prog 113 #[kV kind, .int .i64 qty] w fun e w' => e = .returned (.bool (qB kind qty)) ∧ w = w' := by
 rcases kind_cases h with rfl | rfl | rfl | rfl | rfl
 ·clear h
  have ha := Tryz.as1
  have hb' := Tryz.at1
  show Calls Tryz.prog 113 #[.iface 184 (.agg #[]), .int .i64 qty] w _
  go_enter Tryz.func113, Tryz.ntmps113
  go_wp2_with fail
  refine (inRange _ _ _ _).mono ?_
  rintro e w' ⟨rfl, rfl⟩
  go_wp2
  go_ret
  exact ⟨rfl, rfl⟩
 ·clear h
  have ha := Tryz.as2
  have hb' := Tryz.at2
  show Calls Tryz.prog 113 #[.iface 187 (.agg #[]), .int .i64 qty] w _
  go_enter Tryz.func113, Tryz.ntmps113
  go_wp2_with fail
  refine (inRange _ _ _ _).mono ?_
  rintro e w' ⟨rfl, rfl⟩
  go_wp2
  go_ret
  exact ⟨rfl, rfl⟩
 ·clear h
  have ha := Tryz.as3
  have hb' := Tryz.at3
  show Calls Tryz.prog 113 #[.iface 188 (.agg #[]), .int .i64 qty] w _
  by_cases hq : qty = 0
  ·subst hq
   go_enter Tryz.func113, Tryz.ntmps113
   go_wp2
   go_ret
   exact ⟨rfl, rfl⟩
  ·have hb : (qty == 0) = false := by rw [beq_eq_false_iff_ne]; exact hq
   have H : Hid (qB 3 qty = false) := decide_eq_false hq
   clear hq
   go_enter Tryz.func113, Tryz.ntmps113
   go_wp2
   go_ret
   exact ⟨by rw [H.out]; rfl, rfl⟩
 ·clear h
  have ha := Tryz.as4
  have hb' := Tryz.at4
  show Calls Tryz.prog 113 #[.iface 189 (.agg #[]), .int .i64 qty] w _
  by_cases hq : qty = 0
  ·subst hq
   go_enter Tryz.func113, Tryz.ntmps113
   go_wp2
   go_ret
   exact ⟨rfl, rfl⟩
  ·have hb : (qty == 0) = false := by rw [beq_eq_false_iff_ne]; exact hq
   have H : Hid (qB 4 qty = false) := decide_eq_false hq
   clear hq
   go_enter Tryz.func113, Tryz.ntmps113
   go_wp2
   go_ret
   exact ⟨by rw [H.out]; rfl, rfl⟩
 ·clear h
  have ha := Tryz.as5
  have hb' := Tryz.at5
  show Calls Tryz.prog 113 #[.iface 190 (.agg #[]), .int .i64 qty] w _
  by_cases hq : qty = 0
  ·subst hq
   go_enter Tryz.func113, Tryz.ntmps113
   go_wp2
   go_ret
   exact ⟨rfl, rfl⟩
  ·have hb : (qty == 0) = false := by rw [beq_eq_false_iff_ne]; exact hq
   have H : Hid (qB 5 qty = false) := decide_eq_false hq
   clear hq
   go_enter Tryz.func113, Tryz.ntmps113
   go_wp2
   go_ret
   exact ⟨by rw [H.out]; rfl, rfl⟩
theorem level_adding (level : Int) (w : World) : Calls Tryz.prog 209 #[.agg #[], .int .i64 level] w fun e w' => e = .returned (.bool (lB 1 level)) ∧ Below w.heap.size w w' := by
 have HL : Hid (lB 1 level = (inB level 1 100 && decide (level % 2 = 1))) := rfl
 rcases hb : inB level 1 100 with _ | _
 ·have HB := Lib.hid hb
  clear hb
  go_enter Tryz.func209, Tryz.ntmps209
  go_wp2_with fail
  refine (inRange _ _ _ _).mono ?_
  rintro e w' ⟨rfl, rfl⟩
  rw [HB.out]
  go_wp2
  go_ret
  exact ⟨by rw [HL.out, HB.out]; rfl, bl⟩
 ·have HB := Lib.hid hb
  obtain ⟨h1, h2⟩ := inB_iff.1 hb
  clear hb
  by_cases hm : level % 2 = 1
  ·have hm' : (level % 2 == 1) = true := by rw [hm]; rfl
   have HD := Lib.hid (decide_eq_true hm)
   clear hm
   go_enter Tryz.func209, Tryz.ntmps209
   go_wp2_with fail
   refine (inRange _ _ _ _).mono ?_
   rintro e w' ⟨rfl, rfl⟩
   rw [HB.out]
   go_wp2
   go_ret
   exact ⟨by rw [HL.out, HB.out, HD.out]; rfl, bl⟩
  ·have hm' : (level % 2 == 1) = false := by rw [beq_eq_false_iff_ne]; exact hm
   have HD := Lib.hid (decide_eq_false hm)
   clear hm
   go_enter Tryz.func209, Tryz.ntmps209
   go_wp2_with fail
   refine (inRange _ _ _ _).mono ?_
   rintro e w' ⟨rfl, rfl⟩
   rw [HB.out]
   go_wp2
   go_ret
   exact ⟨by rw [HL.out, HB.out, HD.out]; rfl, bl⟩
theorem level_removing (level : Int) (w : World) : Calls Tryz.prog 211 #[.agg #[], .int .i64 level] w fun e w' => e = .returned (.bool (lB 3 level)) ∧ Below w.heap.size w w' := by
 have HL : Hid (lB 3 level = (inB level 2 100 && decide (level % 2 = 0))) := rfl
 rcases hb : inB level 2 100 with _ | _
 ·have HB := Lib.hid hb
  clear hb
  go_enter Tryz.func211, Tryz.ntmps211
  go_wp2_with fail
  refine (inRange _ _ _ _).mono ?_
  rintro e w' ⟨rfl, rfl⟩
  rw [HB.out]
  go_wp2
  go_ret
  exact ⟨by rw [HL.out, HB.out]; rfl, bl⟩
 ·have HB := Lib.hid hb
  obtain ⟨h1, h2⟩ := inB_iff.1 hb
  clear hb
  by_cases hm : level % 2 = 0
  ·have hm' : (level % 2 == 0) = true := by rw [hm]; rfl
   have HD := Lib.hid (decide_eq_true hm)
   clear hm
   go_enter Tryz.func211, Tryz.ntmps211
   go_wp2_with fail
   refine (inRange _ _ _ _).mono ?_
   rintro e w' ⟨rfl, rfl⟩
   rw [HB.out]
   go_wp2
   go_ret
   exact ⟨by rw [HL.out, HB.out, HD.out]; rfl, bl⟩
  ·have hm' : (level % 2 == 0) = false := by rw [beq_eq_false_iff_ne]; exact hm
   have HD := Lib.hid (decide_eq_false hm)
   clear hm
   go_enter Tryz.func211, Tryz.ntmps211
   go_wp2_with fail
   refine (inRange _ _ _ _).mono ?_
   rintro e w' ⟨rfl, rfl⟩
   rw [HB.out]
   go_wp2
   go_ret
   exact ⟨by rw [HL.out, HB.out, HD.out]; rfl, bl⟩
theorem level_none (kind level : Int) (h1 : kind ≠ 1) (h3 : kind ≠ 3) (w : World) : Calls Tryz.prog 210 #[.agg #[], .int .i64 level] w fun e w' => e = .returned (.bool (lB kind level)) ∧ Below w.heap.size w w' := by
 have HL : Hid (lB kind level = decide (level = 0)) := by show lB kind level = _; unfold lB; rw [if_neg h1, if_neg h3]
 clear h1 h3
 by_cases hm : level = 0
 ·subst hm
  go_enter Tryz.func210, Tryz.ntmps210
  go_wp2
  go_ret
  exact ⟨by rw [HL.out]; rfl, bl⟩
 ·have hb : (level == 0) = false := by rw [beq_eq_false_iff_ne]; exact hm
  have HD := Lib.hid (decide_eq_false hm)
  clear hm
  go_enter Tryz.func210, Tryz.ntmps210
  go_wp2
  go_ret
  exact ⟨by rw [HL.out, HD.out]; rfl, bl⟩
set_option maxHeartbeats 2000000 in
theorem implOpOk (dev seq stamp kind : Int) (item : ByteArray) (qty level undos : Int) (w : World) :
  Calls Tryz.prog 90 #[.agg #[.int .i64 dev, .int .i64 seq, .int .i64 stamp, .int .i64 kind, .string item, .int .i64 qty, .int .i64 level, .int .i64 undos]] w (fun e w' => e = .returned (.bool (opB dev seq stamp kind item qty level undos)) ∧ Below w.heap.size w w') := by
 rcases hki : kindB kind with _ | _
 ·have HO := Lib.hid (opB_kind (dev := dev) (seq := seq) (stamp := stamp) (item := item) (qty := qty) (level := level) (undos := undos) hki)
  have HKi := Lib.hid hki
  clear hki
  go_enter Tryz.func90, Tryz.ntmps90
  go_wp2_with fail
  refine (kindOfNo _ _ _ _ _ _ _ _ _ HKi.out).mono ?_
  rintro e w1 ⟨rfl, hb1⟩
  have hx := boxAt hb1
  have c0 := cell_of_row _ _ 0 _ _ _ hx
  have c1 := cell_of_row _ _ 1 _ _ _ hx
  have c2 := cell_of_row _ _ 2 _ _ _ hx
  have c3 := cell_of_row _ _ 3 _ _ _ hx
  have c4 := cell_of_row _ _ 4 _ _ _ hx
  have c5 := cell_of_row _ _ 5 _ _ _ hx
  have c6 := cell_of_row _ _ 6 _ _ _ hx
  have c7 := cell_of_row _ _ 7 _ _ _ hx
  simp only [List.getElem?_toArray, List.getElem?_cons_zero, List.getElem?_cons_succ] at c0 c1 c2 c3 c4 c5 c6 c7
  have HB := Lib.hid (box_below hb1)
  clear hx hb1
  go_wp2
  go_ret
  exact ⟨by rw [HO.out]; rfl, HB.out⟩
 have HKi := Lib.hid hki
 rcases h0 : inB dev 0 3 with _ | _
 ·have HO := Lib.hid (opB_head (kind := kind) (qty := qty) (level := level) (head_no (dev := dev) (seq := seq) (stamp := stamp) (item := item) (undos := undos) (.inl h0)))
  have H0 := Lib.hid h0
  clear hki h0
  go_enter Tryz.func90, Tryz.ntmps90
  go_wp2_with fail
  refine (kindOfYes _ _ _ _ _ _ _ _ _ HKi.out).mono ?_
  rintro e w1 ⟨rfl, hb1⟩
  have hx := boxAt hb1
  have c0 := cell_of_row _ _ 0 _ _ _ hx
  have c1 := cell_of_row _ _ 1 _ _ _ hx
  have c2 := cell_of_row _ _ 2 _ _ _ hx
  have c3 := cell_of_row _ _ 3 _ _ _ hx
  have c4 := cell_of_row _ _ 4 _ _ _ hx
  have c5 := cell_of_row _ _ 5 _ _ _ hx
  have c6 := cell_of_row _ _ 6 _ _ _ hx
  have c7 := cell_of_row _ _ 7 _ _ _ hx
  simp only [List.getElem?_toArray, List.getElem?_cons_zero, List.getElem?_cons_succ] at c0 c1 c2 c3 c4 c5 c6 c7
  have HB := Lib.hid (box_below hb1)
  clear hx hb1
  go_wp2_with fail
  refine (inRange _ _ _ _).mono ?_
  rintro e w' ⟨rfl, rfl⟩
  rw [H0.out]
  go_wp2
  go_ret
  exact ⟨by rw [HO.out]; rfl, HB.out⟩
 have H0 := Lib.hid h0
 rcases h1 : inB seq 1 40 with _ | _
 ·have HO := Lib.hid (opB_head (kind := kind) (qty := qty) (level := level) (head_no (dev := dev) (seq := seq) (stamp := stamp) (item := item) (undos := undos) (.inr (.inl h1))))
  have H1 := Lib.hid h1
  clear hki h0 h1
  go_enter Tryz.func90, Tryz.ntmps90
  go_wp2_with fail
  refine (kindOfYes _ _ _ _ _ _ _ _ _ HKi.out).mono ?_
  rintro e w1 ⟨rfl, hb1⟩
  have hx := boxAt hb1
  have c0 := cell_of_row _ _ 0 _ _ _ hx
  have c1 := cell_of_row _ _ 1 _ _ _ hx
  have c2 := cell_of_row _ _ 2 _ _ _ hx
  have c3 := cell_of_row _ _ 3 _ _ _ hx
  have c4 := cell_of_row _ _ 4 _ _ _ hx
  have c5 := cell_of_row _ _ 5 _ _ _ hx
  have c6 := cell_of_row _ _ 6 _ _ _ hx
  have c7 := cell_of_row _ _ 7 _ _ _ hx
  simp only [List.getElem?_toArray, List.getElem?_cons_zero, List.getElem?_cons_succ] at c0 c1 c2 c3 c4 c5 c6 c7
  have HB := Lib.hid (box_below hb1)
  clear hx hb1
  go_wp2_with fail
  refine (inRange _ _ _ _).mono ?_
  rintro e w' ⟨rfl, rfl⟩
  rw [H0.out]
  go_wp2_with fail
  refine (inRange _ _ _ _).mono ?_
  rintro e w' ⟨rfl, rfl⟩
  rw [H1.out]
  go_wp2
  go_ret
  exact ⟨by rw [HO.out]; rfl, HB.out⟩
 have H1 := Lib.hid h1
 rcases h2 : inB stamp 1 100000 with _ | _
 ·have HO := Lib.hid (opB_head (kind := kind) (qty := qty) (level := level) (head_no (dev := dev) (seq := seq) (stamp := stamp) (item := item) (undos := undos) (.inr (.inr (.inl h2)))))
  have H2 := Lib.hid h2
  clear hki h0 h1 h2
  go_enter Tryz.func90, Tryz.ntmps90
  go_wp2_with fail
  refine (kindOfYes _ _ _ _ _ _ _ _ _ HKi.out).mono ?_
  rintro e w1 ⟨rfl, hb1⟩
  have hx := boxAt hb1
  have c0 := cell_of_row _ _ 0 _ _ _ hx
  have c1 := cell_of_row _ _ 1 _ _ _ hx
  have c2 := cell_of_row _ _ 2 _ _ _ hx
  have c3 := cell_of_row _ _ 3 _ _ _ hx
  have c4 := cell_of_row _ _ 4 _ _ _ hx
  have c5 := cell_of_row _ _ 5 _ _ _ hx
  have c6 := cell_of_row _ _ 6 _ _ _ hx
  have c7 := cell_of_row _ _ 7 _ _ _ hx
  simp only [List.getElem?_toArray, List.getElem?_cons_zero, List.getElem?_cons_succ] at c0 c1 c2 c3 c4 c5 c6 c7
  have HB := Lib.hid (box_below hb1)
  clear hx hb1
  go_wp2_with fail
  refine (inRange _ _ _ _).mono ?_
  rintro e w' ⟨rfl, rfl⟩
  rw [H0.out]
  go_wp2_with fail
  refine (inRange _ _ _ _).mono ?_
  rintro e w' ⟨rfl, rfl⟩
  rw [H1.out]
  go_wp2_with fail
  refine (inRange _ _ _ _).mono ?_
  rintro e w' ⟨rfl, rfl⟩
  rw [H2.out]
  go_wp2
  go_ret
  exact ⟨by rw [HO.out]; rfl, HB.out⟩
 have H2 := Lib.hid h2
 rcases h3 : itemB item with _ | _
 ·have HO := Lib.hid (opB_head (kind := kind) (qty := qty) (level := level) (head_no (dev := dev) (seq := seq) (stamp := stamp) (item := item) (undos := undos) (.inr (.inr (.inr (.inl h3))))))
  have H3 := Lib.hid h3
  clear hki h0 h1 h2 h3
  go_enter Tryz.func90, Tryz.ntmps90
  go_wp2_with fail
  refine (kindOfYes _ _ _ _ _ _ _ _ _ HKi.out).mono ?_
  rintro e w1 ⟨rfl, hb1⟩
  have hx := boxAt hb1
  have c0 := cell_of_row _ _ 0 _ _ _ hx
  have c1 := cell_of_row _ _ 1 _ _ _ hx
  have c2 := cell_of_row _ _ 2 _ _ _ hx
  have c3 := cell_of_row _ _ 3 _ _ _ hx
  have c4 := cell_of_row _ _ 4 _ _ _ hx
  have c5 := cell_of_row _ _ 5 _ _ _ hx
  have c6 := cell_of_row _ _ 6 _ _ _ hx
  have c7 := cell_of_row _ _ 7 _ _ _ hx
  simp only [List.getElem?_toArray, List.getElem?_cons_zero, List.getElem?_cons_succ] at c0 c1 c2 c3 c4 c5 c6 c7
  have HB := Lib.hid (box_below hb1)
  clear hx hb1
  go_wp2_with fail
  refine (inRange _ _ _ _).mono ?_
  rintro e w' ⟨rfl, rfl⟩
  rw [H0.out]
  go_wp2_with fail
  refine (inRange _ _ _ _).mono ?_
  rintro e w' ⟨rfl, rfl⟩
  rw [H1.out]
  go_wp2_with fail
  refine (inRange _ _ _ _).mono ?_
  rintro e w' ⟨rfl, rfl⟩
  rw [H2.out]
  go_wp2_with fail
  refine (implItem _ _).mono ?_
  rintro e w' ⟨rfl, rfl⟩
  rw [H3.out]
  go_wp2
  go_ret
  exact ⟨by rw [HO.out]; rfl, HB.out⟩
 have H3 := Lib.hid h3
 rcases h4 : inB undos 0 50 with _ | _
 ·have HO := Lib.hid (opB_head (kind := kind) (qty := qty) (level := level) (head_no (dev := dev) (seq := seq) (stamp := stamp) (item := item) (undos := undos) (.inr (.inr (.inr (.inr (h4)))))))
  have H4 := Lib.hid h4
  clear hki h0 h1 h2 h3 h4
  go_enter Tryz.func90, Tryz.ntmps90
  go_wp2_with fail
  refine (kindOfYes _ _ _ _ _ _ _ _ _ HKi.out).mono ?_
  rintro e w1 ⟨rfl, hb1⟩
  have hx := boxAt hb1
  have c0 := cell_of_row _ _ 0 _ _ _ hx
  have c1 := cell_of_row _ _ 1 _ _ _ hx
  have c2 := cell_of_row _ _ 2 _ _ _ hx
  have c3 := cell_of_row _ _ 3 _ _ _ hx
  have c4 := cell_of_row _ _ 4 _ _ _ hx
  have c5 := cell_of_row _ _ 5 _ _ _ hx
  have c6 := cell_of_row _ _ 6 _ _ _ hx
  have c7 := cell_of_row _ _ 7 _ _ _ hx
  simp only [List.getElem?_toArray, List.getElem?_cons_zero, List.getElem?_cons_succ] at c0 c1 c2 c3 c4 c5 c6 c7
  have HB := Lib.hid (box_below hb1)
  clear hx hb1
  go_wp2_with fail
  refine (inRange _ _ _ _).mono ?_
  rintro e w' ⟨rfl, rfl⟩
  rw [H0.out]
  go_wp2_with fail
  refine (inRange _ _ _ _).mono ?_
  rintro e w' ⟨rfl, rfl⟩
  rw [H1.out]
  go_wp2_with fail
  refine (inRange _ _ _ _).mono ?_
  rintro e w' ⟨rfl, rfl⟩
  rw [H2.out]
  go_wp2_with fail
  refine (implItem _ _).mono ?_
  rintro e w' ⟨rfl, rfl⟩
  rw [H3.out]
  go_wp2_with fail
  refine (inRange _ _ _ _).mono ?_
  rintro e w' ⟨rfl, rfl⟩
  rw [H4.out]
  go_wp2
  go_ret
  exact ⟨by rw [HO.out]; rfl, HB.out⟩
 have H4 := Lib.hid h4
 rcases hq : qB kind qty with _ | _
 ·have HO := Lib.hid (opB_qty (dev := dev) (seq := seq) (stamp := stamp) (item := item) (level := level) (undos := undos) hq)
  have HQ := Lib.hid hq
  clear hki h0 h1 h2 h3 h4 hq
  go_enter Tryz.func90, Tryz.ntmps90
  go_wp2_with fail
  refine (kindOfYes _ _ _ _ _ _ _ _ _ HKi.out).mono ?_
  rintro e w1 ⟨rfl, hb1⟩
  have hx := boxAt hb1
  have c0 := cell_of_row _ _ 0 _ _ _ hx
  have c1 := cell_of_row _ _ 1 _ _ _ hx
  have c2 := cell_of_row _ _ 2 _ _ _ hx
  have c3 := cell_of_row _ _ 3 _ _ _ hx
  have c4 := cell_of_row _ _ 4 _ _ _ hx
  have c5 := cell_of_row _ _ 5 _ _ _ hx
  have c6 := cell_of_row _ _ 6 _ _ _ hx
  have c7 := cell_of_row _ _ 7 _ _ _ hx
  simp only [List.getElem?_toArray, List.getElem?_cons_zero, List.getElem?_cons_succ] at c0 c1 c2 c3 c4 c5 c6 c7
  have HB := Lib.hid (box_below hb1)
  clear hx hb1
  go_wp2_with fail
  refine (inRange _ _ _ _).mono ?_
  rintro e w' ⟨rfl, rfl⟩
  rw [H0.out]
  go_wp2_with fail
  refine (inRange _ _ _ _).mono ?_
  rintro e w' ⟨rfl, rfl⟩
  rw [H1.out]
  go_wp2_with fail
  refine (inRange _ _ _ _).mono ?_
  rintro e w' ⟨rfl, rfl⟩
  rw [H2.out]
  go_wp2_with fail
  refine (implItem _ _).mono ?_
  rintro e w' ⟨rfl, rfl⟩
  rw [H3.out]
  go_wp2_with fail
  refine (inRange _ _ _ _).mono ?_
  rintro e w' ⟨rfl, rfl⟩
  rw [H4.out]
  go_wp2_with fail
  refine (qtyOk _ _ _ HKi.out).mono ?_
  rintro e w' ⟨rfl, rfl⟩
  rw [HQ.out]
  go_wp2
  go_ret
  exact ⟨by rw [HO.out]; rfl, HB.out⟩
 have HO := Lib.hid (opB_level (level := level) (head_yes h0 h1 h2 h3 h4) hki hq)
 have HQ := Lib.hid hq
 have HC := Lib.hid (kind_cases hki)
 clear hki h0 h1 h2 h3 h4 hq
 go_enter Tryz.func90, Tryz.ntmps90
 go_wp2_with fail
 refine (kindOfYes _ _ _ _ _ _ _ _ _ HKi.out).mono ?_
 rintro e w1 ⟨rfl, hb1⟩
 have hx := boxAt hb1
 have c0 := cell_of_row _ _ 0 _ _ _ hx
 have c1 := cell_of_row _ _ 1 _ _ _ hx
 have c2 := cell_of_row _ _ 2 _ _ _ hx
 have c3 := cell_of_row _ _ 3 _ _ _ hx
 have c4 := cell_of_row _ _ 4 _ _ _ hx
 have c5 := cell_of_row _ _ 5 _ _ _ hx
 have c6 := cell_of_row _ _ 6 _ _ _ hx
 have c7 := cell_of_row _ _ 7 _ _ _ hx
 simp only [List.getElem?_toArray, List.getElem?_cons_zero, List.getElem?_cons_succ] at c0 c1 c2 c3 c4 c5 c6 c7
 have HB := Lib.hid (box_below hb1)
 clear hx hb1
 go_wp2_with fail
 refine (inRange _ _ _ _).mono ?_
 rintro e w' ⟨rfl, rfl⟩
 rw [H0.out]
 go_wp2_with fail
 refine (inRange _ _ _ _).mono ?_
 rintro e w' ⟨rfl, rfl⟩
 rw [H1.out]
 go_wp2_with fail
 refine (inRange _ _ _ _).mono ?_
 rintro e w' ⟨rfl, rfl⟩
 rw [H2.out]
 go_wp2_with fail
 refine (implItem _ _).mono ?_
 rintro e w' ⟨rfl, rfl⟩
 rw [H3.out]
 go_wp2_with fail
 refine (inRange _ _ _ _).mono ?_
 rintro e w' ⟨rfl, rfl⟩
 rw [H4.out]
 go_wp2_with fail
 refine (qtyOk _ _ _ HKi.out).mono ?_
 rintro e w' ⟨rfl, rfl⟩
 rw [HQ.out]
 rcases HC.out with rfl | rfl | rfl | rfl | rfl
 ·simp only [show kV 1 = .iface 184 (.agg #[]) from rfl]
  go_wp2_with fail
  refine (level_adding _ _).mono ?_
  rintro e w2 ⟨rfl, hb2⟩
  go_wp2
  go_ret
  exact ⟨by rw [HO.out]; rfl, HB.out.trans (hb2.mono HB.out.size)⟩
 ·simp only [show kV 2 = .iface 187 (.agg #[]) from rfl]
  go_wp2_with fail
  refine (level_none 2 _ (by decide) (by decide) _).mono ?_
  rintro e w2 ⟨rfl, hb2⟩
  go_wp2
  go_ret
  exact ⟨by rw [HO.out]; rfl, HB.out.trans (hb2.mono HB.out.size)⟩
 ·simp only [show kV 3 = .iface 188 (.agg #[]) from rfl]
  go_wp2_with fail
  refine (level_removing _ _).mono ?_
  rintro e w2 ⟨rfl, hb2⟩
  go_wp2
  go_ret
  exact ⟨by rw [HO.out]; rfl, HB.out.trans (hb2.mono HB.out.size)⟩
 ·simp only [show kV 4 = .iface 189 (.agg #[]) from rfl]
  go_wp2_with fail
  refine (level_none 4 _ (by decide) (by decide) _).mono ?_
  rintro e w2 ⟨rfl, hb2⟩
  go_wp2
  go_ret
  exact ⟨by rw [HO.out]; rfl, HB.out.trans (hb2.mono HB.out.size)⟩
 ·simp only [show kV 5 = .iface 190 (.agg #[]) from rfl]
  go_wp2_with fail
  refine (level_none 5 _ (by decide) (by decide) _).mono ?_
  rintro e w2 ⟨rfl, hb2⟩
  go_wp2
  go_ret
  exact ⟨by rw [HO.out]; rfl, HB.out.trans (hb2.mono HB.out.size)⟩
set_option maxHeartbeats 10000000 in
theorem specOpOk (dev seq stamp kind : Int) (item : ByteArray) (qty level undos : Int) (w : World) (hs : item.size ≤ 1048576) :
  Calls Tryz.prog 69 #[.agg #[.int .i64 dev, .int .i64 seq, .int .i64 stamp, .int .i64 kind, .string item, .int .i64 qty, .int .i64 level, .int .i64 undos]] w (fun e w' => e = .returned (.bool (opB dev seq stamp kind item qty level undos)) ∧ Below w.heap.size w w') := by
 rcases h0 : inB dev 0 3 with _ | _
 ·have HO := Lib.hid (opB_head (kind := kind) (qty := qty) (level := level) (head_no (dev := dev) (seq := seq) (stamp := stamp) (item := item) (undos := undos) (.inl h0)))
  have H0 := Lib.hid h0
  clear h0
  go_enter Tryz.func69, Tryz.ntmps69
  go_wp2_with fail
  refine (l3Dev _ _).mono ?_
  rintro e w' ⟨rfl, rfl⟩
  rw [H0.out]
  go_wp2
  go_ret
  exact ⟨by rw [HO.out]; rfl, bl⟩
 have H0 := Lib.hid h0
 rcases h1 : inB seq 1 40 with _ | _
 ·have HO := Lib.hid (opB_head (kind := kind) (qty := qty) (level := level) (head_no (dev := dev) (seq := seq) (stamp := stamp) (item := item) (undos := undos) (.inr (.inl h1))))
  have H1 := Lib.hid h1
  clear h0 h1
  go_enter Tryz.func69, Tryz.ntmps69
  go_wp2_with fail
  refine (l3Dev _ _).mono ?_
  rintro e w' ⟨rfl, rfl⟩
  rw [H0.out]
  go_wp2_with fail
  refine (l1In _ _ _ _).mono ?_
  rintro e w' ⟨rfl, rfl⟩
  rw [H1.out]
  go_wp2
  go_ret
  exact ⟨by rw [HO.out]; rfl, bl⟩
 have H1 := Lib.hid h1
 rcases h2 : inB stamp 1 100000 with _ | _
 ·have HO := Lib.hid (opB_head (kind := kind) (qty := qty) (level := level) (head_no (dev := dev) (seq := seq) (stamp := stamp) (item := item) (undos := undos) (.inr (.inr (.inl h2)))))
  have H2 := Lib.hid h2
  clear h0 h1 h2
  go_enter Tryz.func69, Tryz.ntmps69
  go_wp2_with fail
  refine (l3Dev _ _).mono ?_
  rintro e w' ⟨rfl, rfl⟩
  rw [H0.out]
  go_wp2_with fail
  refine (l1In _ _ _ _).mono ?_
  rintro e w' ⟨rfl, rfl⟩
  rw [H1.out]
  go_wp2_with fail
  refine (l1In _ _ _ _).mono ?_
  rintro e w' ⟨rfl, rfl⟩
  rw [H2.out]
  go_wp2
  go_ret
  exact ⟨by rw [HO.out]; rfl, bl⟩
 have H2 := Lib.hid h2
 rcases h3 : itemB item with _ | _
 ·have HO := Lib.hid (opB_head (kind := kind) (qty := qty) (level := level) (head_no (dev := dev) (seq := seq) (stamp := stamp) (item := item) (undos := undos) (.inr (.inr (.inr (.inl h3))))))
  have H3 := Lib.hid h3
  clear h0 h1 h2 h3
  go_enter Tryz.func69, Tryz.ntmps69
  go_wp2_with fail
  refine (l3Dev _ _).mono ?_
  rintro e w' ⟨rfl, rfl⟩
  rw [H0.out]
  go_wp2_with fail
  refine (l1In _ _ _ _).mono ?_
  rintro e w' ⟨rfl, rfl⟩
  rw [H1.out]
  go_wp2_with fail
  refine (l1In _ _ _ _).mono ?_
  rintro e w' ⟨rfl, rfl⟩
  rw [H2.out]
  go_wp2_with fail
  refine (l3Item _ hs _).mono ?_
  rintro e w' ⟨rfl, rfl⟩
  rw [H3.out]
  go_wp2
  go_ret
  exact ⟨by rw [HO.out]; rfl, bl⟩
 have H3 := Lib.hid h3
 rcases h4 : inB undos 0 50 with _ | _
 ·have HO := Lib.hid (opB_head (kind := kind) (qty := qty) (level := level) (head_no (dev := dev) (seq := seq) (stamp := stamp) (item := item) (undos := undos) (.inr (.inr (.inr (.inr (h4)))))))
  have H4 := Lib.hid h4
  clear h0 h1 h2 h3 h4
  go_enter Tryz.func69, Tryz.ntmps69
  go_wp2_with fail
  refine (l3Dev _ _).mono ?_
  rintro e w' ⟨rfl, rfl⟩
  rw [H0.out]
  go_wp2_with fail
  refine (l1In _ _ _ _).mono ?_
  rintro e w' ⟨rfl, rfl⟩
  rw [H1.out]
  go_wp2_with fail
  refine (l1In _ _ _ _).mono ?_
  rintro e w' ⟨rfl, rfl⟩
  rw [H2.out]
  go_wp2_with fail
  refine (l3Item _ hs _).mono ?_
  rintro e w' ⟨rfl, rfl⟩
  rw [H3.out]
  go_wp2_with fail
  refine (l1In _ _ _ _).mono ?_
  rintro e w' ⟨rfl, rfl⟩
  rw [H4.out]
  go_wp2
  go_ret
  exact ⟨by rw [HO.out]; rfl, bl⟩
 have H4 := Lib.hid h4
 have HH := Lib.hid (head_yes h0 h1 h2 h3 h4)
 clear h0 h1 h2 h3 h4
 rcases hki : kindB kind with _ | _
 ·have HO := Lib.hid (opB_kind (dev := dev) (seq := seq) (stamp := stamp) (item := item) (qty := qty) (level := level) (undos := undos) hki)
  have hn : ¬ (1 ≤ kind ∧ kind ≤ 5) := fun h' => by have := inB_iff.2 h'; unfold kindB at hki; rw [this] at hki; cases hki
  have n1 : (kind == 1) = false := by rw [beq_eq_false_iff_ne]; omega
  have n2 : (kind == 2) = false := by rw [beq_eq_false_iff_ne]; omega
  have n3 : (kind == 3) = false := by rw [beq_eq_false_iff_ne]; omega
  have n4 : (kind == 4) = false := by rw [beq_eq_false_iff_ne]; omega
  have n5 : (kind == 5) = false := by rw [beq_eq_false_iff_ne]; omega
  clear hki hn
  go_enter Tryz.func69, Tryz.ntmps69
  go_wp2_with fail
  refine (l3Dev _ _).mono ?_
  rintro e w' ⟨rfl, rfl⟩
  rw [H0.out]
  go_wp2_with fail
  refine (l1In _ _ _ _).mono ?_
  rintro e w' ⟨rfl, rfl⟩
  rw [H1.out]
  go_wp2_with fail
  refine (l1In _ _ _ _).mono ?_
  rintro e w' ⟨rfl, rfl⟩
  rw [H2.out]
  go_wp2_with fail
  refine (l3Item _ hs _).mono ?_
  rintro e w' ⟨rfl, rfl⟩
  rw [H3.out]
  go_wp2_with fail
  refine (l1In _ _ _ _).mono ?_
  rintro e w' ⟨rfl, rfl⟩
  rw [H4.out]
  go_wp2
  go_ret
  exact ⟨by rw [HO.out]; rfl, bl⟩
 rcases kind_cases hki with rfl | rfl | rfl | rfl | rfl
 ·rcases hq : inB qty 1 999 with _ | _
  ·have HO := Lib.hid (opB_qty (dev := dev) (seq := seq) (stamp := stamp) (item := item) (level := level) (undos := undos) (kind := 1) (by exact hq))
   have HQ := Lib.hid hq
   clear hq hki
   go_enter Tryz.func69, Tryz.ntmps69
   go_wp2_with fail
   refine (l3Dev _ _).mono ?_
   rintro e w' ⟨rfl, rfl⟩
   rw [H0.out]
   go_wp2_with fail
   refine (l1In _ _ _ _).mono ?_
   rintro e w' ⟨rfl, rfl⟩
   rw [H1.out]
   go_wp2_with fail
   refine (l1In _ _ _ _).mono ?_
   rintro e w' ⟨rfl, rfl⟩
   rw [H2.out]
   go_wp2_with fail
   refine (l3Item _ hs _).mono ?_
   rintro e w' ⟨rfl, rfl⟩
   rw [H3.out]
   go_wp2_with fail
   refine (l1In _ _ _ _).mono ?_
   rintro e w' ⟨rfl, rfl⟩
   rw [H4.out]
   go_wp2_with fail
   refine (l1In _ _ _ _).mono ?_
   rintro e w' ⟨rfl, rfl⟩
   rw [HQ.out]
   go_wp2
   go_ret
   exact ⟨by rw [HO.out]; rfl, bl⟩
  ·have HQ := Lib.hid hq
   have HL : Hid (lB 1 level = (inB level 1 100 && decide (level % 2 = 1))) := rfl
   have HOL := Lib.hid (opB_level (level := level) HH.out hki (by exact hq))
   clear hki hq
   rcases hl : inB level 1 100 with _ | _
   ·have HO : Hid (opB dev seq stamp 1 item qty level undos = false) := by show opB _ _ _ _ _ _ _ _ = _; rw [HOL.out, HL.out, hl]; rfl
    have HV := Lib.hid hl
    clear hl
    go_enter Tryz.func69, Tryz.ntmps69
    go_wp2_with fail
    refine (l3Dev _ _).mono ?_
    rintro e w' ⟨rfl, rfl⟩
    rw [H0.out]
    go_wp2_with fail
    refine (l1In _ _ _ _).mono ?_
    rintro e w' ⟨rfl, rfl⟩
    rw [H1.out]
    go_wp2_with fail
    refine (l1In _ _ _ _).mono ?_
    rintro e w' ⟨rfl, rfl⟩
    rw [H2.out]
    go_wp2_with fail
    refine (l3Item _ hs _).mono ?_
    rintro e w' ⟨rfl, rfl⟩
    rw [H3.out]
    go_wp2_with fail
    refine (l1In _ _ _ _).mono ?_
    rintro e w' ⟨rfl, rfl⟩
    rw [H4.out]
    go_wp2_with fail
    refine (l1In _ _ _ _).mono ?_
    rintro e w' ⟨rfl, rfl⟩
    rw [HQ.out]
    go_wp2_with fail
    refine (l1In _ _ _ _).mono ?_
    rintro e w' ⟨rfl, rfl⟩
    rw [HV.out]
    go_wp2
    go_ret
    exact ⟨by rw [HO.out]; rfl, bl⟩
   ·obtain ⟨g1, g2⟩ := inB_iff.1 hl
    have HV := Lib.hid hl
    by_cases hm : level % 2 = 1
    ·have HO : Hid (opB dev seq stamp 1 item qty level undos = true) := by show opB _ _ _ _ _ _ _ _ = _; rw [HOL.out, HL.out, hl, decide_eq_true hm]; rfl
     have hm' : (level % 2 == 1) = true := by rw [hm]; rfl
     clear hm hl
     go_enter Tryz.func69, Tryz.ntmps69
     go_wp2_with fail
     refine (l3Dev _ _).mono ?_
     rintro e w' ⟨rfl, rfl⟩
     rw [H0.out]
     go_wp2_with fail
     refine (l1In _ _ _ _).mono ?_
     rintro e w' ⟨rfl, rfl⟩
     rw [H1.out]
     go_wp2_with fail
     refine (l1In _ _ _ _).mono ?_
     rintro e w' ⟨rfl, rfl⟩
     rw [H2.out]
     go_wp2_with fail
     refine (l3Item _ hs _).mono ?_
     rintro e w' ⟨rfl, rfl⟩
     rw [H3.out]
     go_wp2_with fail
     refine (l1In _ _ _ _).mono ?_
     rintro e w' ⟨rfl, rfl⟩
     rw [H4.out]
     go_wp2_with fail
     refine (l1In _ _ _ _).mono ?_
     rintro e w' ⟨rfl, rfl⟩
     rw [HQ.out]
     go_wp2_with fail
     refine (l1In _ _ _ _).mono ?_
     rintro e w' ⟨rfl, rfl⟩
     rw [HV.out]
     go_wp2
     go_ret
     exact ⟨by rw [HO.out]; rfl, bl⟩
    ·have HO : Hid (opB dev seq stamp 1 item qty level undos = false) := by show opB _ _ _ _ _ _ _ _ = _; rw [HOL.out, HL.out, hl, decide_eq_false hm]; rfl
     have hm' : (level % 2 == 1) = false := by rw [beq_eq_false_iff_ne]; exact hm
     clear hm hl
     go_enter Tryz.func69, Tryz.ntmps69
     go_wp2_with fail
     refine (l3Dev _ _).mono ?_
     rintro e w' ⟨rfl, rfl⟩
     rw [H0.out]
     go_wp2_with fail
     refine (l1In _ _ _ _).mono ?_
     rintro e w' ⟨rfl, rfl⟩
     rw [H1.out]
     go_wp2_with fail
     refine (l1In _ _ _ _).mono ?_
     rintro e w' ⟨rfl, rfl⟩
     rw [H2.out]
     go_wp2_with fail
     refine (l3Item _ hs _).mono ?_
     rintro e w' ⟨rfl, rfl⟩
     rw [H3.out]
     go_wp2_with fail
     refine (l1In _ _ _ _).mono ?_
     rintro e w' ⟨rfl, rfl⟩
     rw [H4.out]
     go_wp2_with fail
     refine (l1In _ _ _ _).mono ?_
     rintro e w' ⟨rfl, rfl⟩
     rw [HQ.out]
     go_wp2_with fail
     refine (l1In _ _ _ _).mono ?_
     rintro e w' ⟨rfl, rfl⟩
     rw [HV.out]
     go_wp2
     go_ret
     exact ⟨by rw [HO.out]; rfl, bl⟩
 ·rcases hq : inB qty 1 999 with _ | _
  ·have HO := Lib.hid (opB_qty (dev := dev) (seq := seq) (stamp := stamp) (item := item) (level := level) (undos := undos) (kind := 2) (by exact hq))
   have HQ := Lib.hid hq
   clear hq hki
   go_enter Tryz.func69, Tryz.ntmps69
   go_wp2_with fail
   refine (l3Dev _ _).mono ?_
   rintro e w' ⟨rfl, rfl⟩
   rw [H0.out]
   go_wp2_with fail
   refine (l1In _ _ _ _).mono ?_
   rintro e w' ⟨rfl, rfl⟩
   rw [H1.out]
   go_wp2_with fail
   refine (l1In _ _ _ _).mono ?_
   rintro e w' ⟨rfl, rfl⟩
   rw [H2.out]
   go_wp2_with fail
   refine (l3Item _ hs _).mono ?_
   rintro e w' ⟨rfl, rfl⟩
   rw [H3.out]
   go_wp2_with fail
   refine (l1In _ _ _ _).mono ?_
   rintro e w' ⟨rfl, rfl⟩
   rw [H4.out]
   go_wp2_with fail
   refine (l1In _ _ _ _).mono ?_
   rintro e w' ⟨rfl, rfl⟩
   rw [HQ.out]
   go_wp2
   go_ret
   exact ⟨by rw [HO.out]; rfl, bl⟩
  ·have HQ := Lib.hid hq
   have HOL := Lib.hid (opB_level (level := level) HH.out hki (by exact hq))
   clear hki hq
   by_cases hm : level = 0
   ·subst hm
    have HO : Hid (opB dev seq stamp 2 item qty 0 undos = true) := by show opB _ _ _ _ _ _ _ _ = _; rw [HOL.out]; rfl
    go_enter Tryz.func69, Tryz.ntmps69
    go_wp2_with fail
    refine (l3Dev _ _).mono ?_
    rintro e w' ⟨rfl, rfl⟩
    rw [H0.out]
    go_wp2_with fail
    refine (l1In _ _ _ _).mono ?_
    rintro e w' ⟨rfl, rfl⟩
    rw [H1.out]
    go_wp2_with fail
    refine (l1In _ _ _ _).mono ?_
    rintro e w' ⟨rfl, rfl⟩
    rw [H2.out]
    go_wp2_with fail
    refine (l3Item _ hs _).mono ?_
    rintro e w' ⟨rfl, rfl⟩
    rw [H3.out]
    go_wp2_with fail
    refine (l1In _ _ _ _).mono ?_
    rintro e w' ⟨rfl, rfl⟩
    rw [H4.out]
    go_wp2_with fail
    refine (l1In _ _ _ _).mono ?_
    rintro e w' ⟨rfl, rfl⟩
    rw [HQ.out]
    go_wp2
    go_ret
    exact ⟨by rw [HO.out]; rfl, bl⟩
   ·have HO : Hid (opB dev seq stamp 2 item qty level undos = false) := by show opB _ _ _ _ _ _ _ _ = _; rw [HOL.out]; exact decide_eq_false hm
    have hm' : (level == 0) = false := by rw [beq_eq_false_iff_ne]; exact hm
    clear hm
    go_enter Tryz.func69, Tryz.ntmps69
    go_wp2_with fail
    refine (l3Dev _ _).mono ?_
    rintro e w' ⟨rfl, rfl⟩
    rw [H0.out]
    go_wp2_with fail
    refine (l1In _ _ _ _).mono ?_
    rintro e w' ⟨rfl, rfl⟩
    rw [H1.out]
    go_wp2_with fail
    refine (l1In _ _ _ _).mono ?_
    rintro e w' ⟨rfl, rfl⟩
    rw [H2.out]
    go_wp2_with fail
    refine (l3Item _ hs _).mono ?_
    rintro e w' ⟨rfl, rfl⟩
    rw [H3.out]
    go_wp2_with fail
    refine (l1In _ _ _ _).mono ?_
    rintro e w' ⟨rfl, rfl⟩
    rw [H4.out]
    go_wp2_with fail
    refine (l1In _ _ _ _).mono ?_
    rintro e w' ⟨rfl, rfl⟩
    rw [HQ.out]
    go_wp2
    go_ret
    exact ⟨by rw [HO.out]; rfl, bl⟩
 ·by_cases hq : qty = 0
  rotate_left
  ·have hqb : (qty == 0) = false := by rw [beq_eq_false_iff_ne]; exact hq
   have HO := Lib.hid (opB_qty (dev := dev) (seq := seq) (stamp := stamp) (item := item) (level := level) (undos := undos) (kind := 3) (decide_eq_false hq))
   clear hq hki
   go_enter Tryz.func69, Tryz.ntmps69
   go_wp2_with fail
   refine (l3Dev _ _).mono ?_
   rintro e w' ⟨rfl, rfl⟩
   rw [H0.out]
   go_wp2_with fail
   refine (l1In _ _ _ _).mono ?_
   rintro e w' ⟨rfl, rfl⟩
   rw [H1.out]
   go_wp2_with fail
   refine (l1In _ _ _ _).mono ?_
   rintro e w' ⟨rfl, rfl⟩
   rw [H2.out]
   go_wp2_with fail
   refine (l3Item _ hs _).mono ?_
   rintro e w' ⟨rfl, rfl⟩
   rw [H3.out]
   go_wp2_with fail
   refine (l1In _ _ _ _).mono ?_
   rintro e w' ⟨rfl, rfl⟩
   rw [H4.out]
   go_wp2
   go_ret
   exact ⟨by rw [HO.out]; rfl, bl⟩
  ·subst hq
   have HL : Hid (lB 3 level = (inB level 1 100 && decide (level % 2 = 0))) := l3_even
   have HOL := Lib.hid (opB_level (level := level) HH.out hki (show qB 3 0 = true from rfl))
   clear hki
   rcases hl : inB level 1 100 with _ | _
   ·have HO : Hid (opB dev seq stamp 3 item 0 level undos = false) := by show opB _ _ _ _ _ _ _ _ = _; rw [HOL.out, HL.out, hl]; rfl
    have HV := Lib.hid hl
    clear hl
    go_enter Tryz.func69, Tryz.ntmps69
    go_wp2_with fail
    refine (l3Dev _ _).mono ?_
    rintro e w' ⟨rfl, rfl⟩
    rw [H0.out]
    go_wp2_with fail
    refine (l1In _ _ _ _).mono ?_
    rintro e w' ⟨rfl, rfl⟩
    rw [H1.out]
    go_wp2_with fail
    refine (l1In _ _ _ _).mono ?_
    rintro e w' ⟨rfl, rfl⟩
    rw [H2.out]
    go_wp2_with fail
    refine (l3Item _ hs _).mono ?_
    rintro e w' ⟨rfl, rfl⟩
    rw [H3.out]
    go_wp2_with fail
    refine (l1In _ _ _ _).mono ?_
    rintro e w' ⟨rfl, rfl⟩
    rw [H4.out]
    go_wp2_with fail
    refine (l1In _ _ _ _).mono ?_
    rintro e w' ⟨rfl, rfl⟩
    rw [HV.out]
    go_wp2
    go_ret
    exact ⟨by rw [HO.out]; rfl, bl⟩
   ·obtain ⟨g1, g2⟩ := inB_iff.1 hl
    have HV := Lib.hid hl
    by_cases hm : level % 2 = 0
    ·have HO : Hid (opB dev seq stamp 3 item 0 level undos = true) := by show opB _ _ _ _ _ _ _ _ = _; rw [HOL.out, HL.out, hl, decide_eq_true hm]; rfl
     have hm' : (level % 2 == 0) = true := by rw [hm]; rfl
     clear hm hl
     go_enter Tryz.func69, Tryz.ntmps69
     go_wp2_with fail
     refine (l3Dev _ _).mono ?_
     rintro e w' ⟨rfl, rfl⟩
     rw [H0.out]
     go_wp2_with fail
     refine (l1In _ _ _ _).mono ?_
     rintro e w' ⟨rfl, rfl⟩
     rw [H1.out]
     go_wp2_with fail
     refine (l1In _ _ _ _).mono ?_
     rintro e w' ⟨rfl, rfl⟩
     rw [H2.out]
     go_wp2_with fail
     refine (l3Item _ hs _).mono ?_
     rintro e w' ⟨rfl, rfl⟩
     rw [H3.out]
     go_wp2_with fail
     refine (l1In _ _ _ _).mono ?_
     rintro e w' ⟨rfl, rfl⟩
     rw [H4.out]
     go_wp2_with fail
     refine (l1In _ _ _ _).mono ?_
     rintro e w' ⟨rfl, rfl⟩
     rw [HV.out]
     go_wp2
     go_ret
     exact ⟨by rw [HO.out]; rfl, bl⟩
    ·have HO : Hid (opB dev seq stamp 3 item 0 level undos = false) := by show opB _ _ _ _ _ _ _ _ = _; rw [HOL.out, HL.out, hl, decide_eq_false hm]; rfl
     have hm' : (level % 2 == 0) = false := by rw [beq_eq_false_iff_ne]; exact hm
     clear hm hl
     go_enter Tryz.func69, Tryz.ntmps69
     go_wp2_with fail
     refine (l3Dev _ _).mono ?_
     rintro e w' ⟨rfl, rfl⟩
     rw [H0.out]
     go_wp2_with fail
     refine (l1In _ _ _ _).mono ?_
     rintro e w' ⟨rfl, rfl⟩
     rw [H1.out]
     go_wp2_with fail
     refine (l1In _ _ _ _).mono ?_
     rintro e w' ⟨rfl, rfl⟩
     rw [H2.out]
     go_wp2_with fail
     refine (l3Item _ hs _).mono ?_
     rintro e w' ⟨rfl, rfl⟩
     rw [H3.out]
     go_wp2_with fail
     refine (l1In _ _ _ _).mono ?_
     rintro e w' ⟨rfl, rfl⟩
     rw [H4.out]
     go_wp2_with fail
     refine (l1In _ _ _ _).mono ?_
     rintro e w' ⟨rfl, rfl⟩
     rw [HV.out]
     go_wp2
     go_ret
     exact ⟨by rw [HO.out]; rfl, bl⟩
 ·by_cases hq : qty = 0
  rotate_left
  ·have hqb : (qty == 0) = false := by rw [beq_eq_false_iff_ne]; exact hq
   have HO := Lib.hid (opB_qty (dev := dev) (seq := seq) (stamp := stamp) (item := item) (level := level) (undos := undos) (kind := 4) (decide_eq_false hq))
   clear hq hki
   go_enter Tryz.func69, Tryz.ntmps69
   go_wp2_with fail
   refine (l3Dev _ _).mono ?_
   rintro e w' ⟨rfl, rfl⟩
   rw [H0.out]
   go_wp2_with fail
   refine (l1In _ _ _ _).mono ?_
   rintro e w' ⟨rfl, rfl⟩
   rw [H1.out]
   go_wp2_with fail
   refine (l1In _ _ _ _).mono ?_
   rintro e w' ⟨rfl, rfl⟩
   rw [H2.out]
   go_wp2_with fail
   refine (l3Item _ hs _).mono ?_
   rintro e w' ⟨rfl, rfl⟩
   rw [H3.out]
   go_wp2_with fail
   refine (l1In _ _ _ _).mono ?_
   rintro e w' ⟨rfl, rfl⟩
   rw [H4.out]
   go_wp2
   go_ret
   exact ⟨by rw [HO.out]; rfl, bl⟩
  ·subst hq
   have HOL := Lib.hid (opB_level (level := level) HH.out hki (show qB 4 0 = true from rfl))
   clear hki
   by_cases hm : level = 0
   ·subst hm
    have HO : Hid (opB dev seq stamp 4 item 0 0 undos = true) := by show opB _ _ _ _ _ _ _ _ = _; rw [HOL.out]; rfl
    go_enter Tryz.func69, Tryz.ntmps69
    go_wp2_with fail
    refine (l3Dev _ _).mono ?_
    rintro e w' ⟨rfl, rfl⟩
    rw [H0.out]
    go_wp2_with fail
    refine (l1In _ _ _ _).mono ?_
    rintro e w' ⟨rfl, rfl⟩
    rw [H1.out]
    go_wp2_with fail
    refine (l1In _ _ _ _).mono ?_
    rintro e w' ⟨rfl, rfl⟩
    rw [H2.out]
    go_wp2_with fail
    refine (l3Item _ hs _).mono ?_
    rintro e w' ⟨rfl, rfl⟩
    rw [H3.out]
    go_wp2_with fail
    refine (l1In _ _ _ _).mono ?_
    rintro e w' ⟨rfl, rfl⟩
    rw [H4.out]
    go_wp2
    go_ret
    exact ⟨by rw [HO.out]; rfl, bl⟩
   ·have HO : Hid (opB dev seq stamp 4 item 0 level undos = false) := by show opB _ _ _ _ _ _ _ _ = _; rw [HOL.out]; exact decide_eq_false hm
    have hm' : (level == 0) = false := by rw [beq_eq_false_iff_ne]; exact hm
    clear hm
    go_enter Tryz.func69, Tryz.ntmps69
    go_wp2_with fail
    refine (l3Dev _ _).mono ?_
    rintro e w' ⟨rfl, rfl⟩
    rw [H0.out]
    go_wp2_with fail
    refine (l1In _ _ _ _).mono ?_
    rintro e w' ⟨rfl, rfl⟩
    rw [H1.out]
    go_wp2_with fail
    refine (l1In _ _ _ _).mono ?_
    rintro e w' ⟨rfl, rfl⟩
    rw [H2.out]
    go_wp2_with fail
    refine (l3Item _ hs _).mono ?_
    rintro e w' ⟨rfl, rfl⟩
    rw [H3.out]
    go_wp2_with fail
    refine (l1In _ _ _ _).mono ?_
    rintro e w' ⟨rfl, rfl⟩
    rw [H4.out]
    go_wp2
    go_ret
    exact ⟨by rw [HO.out]; rfl, bl⟩
 ·by_cases hq : qty = 0
  rotate_left
  ·have hqb : (qty == 0) = false := by rw [beq_eq_false_iff_ne]; exact hq
   have HO := Lib.hid (opB_qty (dev := dev) (seq := seq) (stamp := stamp) (item := item) (level := level) (undos := undos) (kind := 5) (decide_eq_false hq))
   clear hq hki
   go_enter Tryz.func69, Tryz.ntmps69
   go_wp2_with fail
   refine (l3Dev _ _).mono ?_
   rintro e w' ⟨rfl, rfl⟩
   rw [H0.out]
   go_wp2_with fail
   refine (l1In _ _ _ _).mono ?_
   rintro e w' ⟨rfl, rfl⟩
   rw [H1.out]
   go_wp2_with fail
   refine (l1In _ _ _ _).mono ?_
   rintro e w' ⟨rfl, rfl⟩
   rw [H2.out]
   go_wp2_with fail
   refine (l3Item _ hs _).mono ?_
   rintro e w' ⟨rfl, rfl⟩
   rw [H3.out]
   go_wp2_with fail
   refine (l1In _ _ _ _).mono ?_
   rintro e w' ⟨rfl, rfl⟩
   rw [H4.out]
   go_wp2
   go_ret
   exact ⟨by rw [HO.out]; rfl, bl⟩
  ·subst hq
   have HOL := Lib.hid (opB_level (level := level) HH.out hki (show qB 5 0 = true from rfl))
   clear hki
   by_cases hm : level = 0
   ·subst hm
    have HO : Hid (opB dev seq stamp 5 item 0 0 undos = true) := by show opB _ _ _ _ _ _ _ _ = _; rw [HOL.out]; rfl
    go_enter Tryz.func69, Tryz.ntmps69
    go_wp2_with fail
    refine (l3Dev _ _).mono ?_
    rintro e w' ⟨rfl, rfl⟩
    rw [H0.out]
    go_wp2_with fail
    refine (l1In _ _ _ _).mono ?_
    rintro e w' ⟨rfl, rfl⟩
    rw [H1.out]
    go_wp2_with fail
    refine (l1In _ _ _ _).mono ?_
    rintro e w' ⟨rfl, rfl⟩
    rw [H2.out]
    go_wp2_with fail
    refine (l3Item _ hs _).mono ?_
    rintro e w' ⟨rfl, rfl⟩
    rw [H3.out]
    go_wp2_with fail
    refine (l1In _ _ _ _).mono ?_
    rintro e w' ⟨rfl, rfl⟩
    rw [H4.out]
    go_wp2
    go_ret
    exact ⟨by rw [HO.out]; rfl, bl⟩
   ·have HO : Hid (opB dev seq stamp 5 item 0 level undos = false) := by show opB _ _ _ _ _ _ _ _ = _; rw [HOL.out]; exact decide_eq_false hm
    have hm' : (level == 0) = false := by rw [beq_eq_false_iff_ne]; exact hm
    clear hm
    go_enter Tryz.func69, Tryz.ntmps69
    go_wp2_with fail
    refine (l3Dev _ _).mono ?_
    rintro e w' ⟨rfl, rfl⟩
    rw [H0.out]
    go_wp2_with fail
    refine (l1In _ _ _ _).mono ?_
    rintro e w' ⟨rfl, rfl⟩
    rw [H1.out]
    go_wp2_with fail
    refine (l1In _ _ _ _).mono ?_
    rintro e w' ⟨rfl, rfl⟩
    rw [H2.out]
    go_wp2_with fail
    refine (l3Item _ hs _).mono ?_
    rintro e w' ⟨rfl, rfl⟩
    rw [H3.out]
    go_wp2_with fail
    refine (l1In _ _ _ _).mono ?_
    rintro e w' ⟨rfl, rfl⟩
    rw [H4.out]
    go_wp2
    go_ret
    exact ⟨by rw [HO.out]; rfl, bl⟩
def setOp (w : World) (b : Nat) (v0 v1 v2 v3 v4 v5 v6 v7 : Value) : World := ((((((((w.setCell ⟨b, 0, none⟩ v0).setCell ⟨b, 1, none⟩ v1).setCell ⟨b, 2, none⟩ v2).setCell ⟨b, 3, none⟩ v3).setCell ⟨b, 4, none⟩ v4).setCell ⟨b, 5, none⟩ v5).setCell ⟨b, 6, none⟩ v6).setCell ⟨b, 7, none⟩ v7)
theorem setOp_same {w : World} {b : Nat} {c0 c1 c2 c3 c4 c5 c6 c7 : Value} {T : TypeId} (v0 v1 v2 v3 v4 v5 v6 v7 : Value) (h : w.heap[b]? = some (.cells #[c0, c1, c2, c3, c4, c5, c6, c7] T (0, 0))) : (setOp w b v0 v1 v2 v3 v4 v5 v6 v7).heap[b]? = some (.cells #[v0, v1, v2, v3, v4, v5, v6, v7] T (0, 0)) := by
 have h0 : (w.setCell ⟨b, 0, none⟩ v0).heap[b]? = some (.cells #[v0, c1, c2, c3, c4, c5, c6, c7] T (0, 0)) := heap_setCell_same _ _ _ _ _ _ h
 have h1 : ((w.setCell ⟨b, 0, none⟩ v0).setCell ⟨b, 1, none⟩ v1).heap[b]? = some (.cells #[v0, v1, c2, c3, c4, c5, c6, c7] T (0, 0)) := heap_setCell_same _ _ _ _ _ _ h0
 have h2 : (((w.setCell ⟨b, 0, none⟩ v0).setCell ⟨b, 1, none⟩ v1).setCell ⟨b, 2, none⟩ v2).heap[b]? = some (.cells #[v0, v1, v2, c3, c4, c5, c6, c7] T (0, 0)) := heap_setCell_same _ _ _ _ _ _ h1
 have h3 : ((((w.setCell ⟨b, 0, none⟩ v0).setCell ⟨b, 1, none⟩ v1).setCell ⟨b, 2, none⟩ v2).setCell ⟨b, 3, none⟩ v3).heap[b]? = some (.cells #[v0, v1, v2, v3, c4, c5, c6, c7] T (0, 0)) := heap_setCell_same _ _ _ _ _ _ h2
 have h4 : (((((w.setCell ⟨b, 0, none⟩ v0).setCell ⟨b, 1, none⟩ v1).setCell ⟨b, 2, none⟩ v2).setCell ⟨b, 3, none⟩ v3).setCell ⟨b, 4, none⟩ v4).heap[b]? = some (.cells #[v0, v1, v2, v3, v4, c5, c6, c7] T (0, 0)) := heap_setCell_same _ _ _ _ _ _ h3
 have h5 : ((((((w.setCell ⟨b, 0, none⟩ v0).setCell ⟨b, 1, none⟩ v1).setCell ⟨b, 2, none⟩ v2).setCell ⟨b, 3, none⟩ v3).setCell ⟨b, 4, none⟩ v4).setCell ⟨b, 5, none⟩ v5).heap[b]? = some (.cells #[v0, v1, v2, v3, v4, v5, c6, c7] T (0, 0)) := heap_setCell_same _ _ _ _ _ _ h4
 have h6 : (((((((w.setCell ⟨b, 0, none⟩ v0).setCell ⟨b, 1, none⟩ v1).setCell ⟨b, 2, none⟩ v2).setCell ⟨b, 3, none⟩ v3).setCell ⟨b, 4, none⟩ v4).setCell ⟨b, 5, none⟩ v5).setCell ⟨b, 6, none⟩ v6).heap[b]? = some (.cells #[v0, v1, v2, v3, v4, v5, v6, c7] T (0, 0)) := heap_setCell_same _ _ _ _ _ _ h5
 have h7 : ((((((((w.setCell ⟨b, 0, none⟩ v0).setCell ⟨b, 1, none⟩ v1).setCell ⟨b, 2, none⟩ v2).setCell ⟨b, 3, none⟩ v3).setCell ⟨b, 4, none⟩ v4).setCell ⟨b, 5, none⟩ v5).setCell ⟨b, 6, none⟩ v6).setCell ⟨b, 7, none⟩ v7).heap[b]? = some (.cells #[v0, v1, v2, v3, v4, v5, v6, v7] T (0, 0)) := heap_setCell_same _ _ _ _ _ _ h6
 exact h7
theorem setOp_other {w : World} {b k : Nat} (v0 v1 v2 v3 v4 v5 v6 v7 : Value) (h : k ≠ b) : (setOp w b v0 v1 v2 v3 v4 v5 v6 v7).heap[k]? = w.heap[k]? := by
 unfold setOp
 rw [heap_setCell_other _ _ _ _ h, heap_setCell_other _ _ _ _ h, heap_setCell_other _ _ _ _ h, heap_setCell_other _ _ _ _ h, heap_setCell_other _ _ _ _ h, heap_setCell_other _ _ _ _ h, heap_setCell_other _ _ _ _ h, heap_setCell_other _ _ _ _ h]
theorem setOp_below {B : Nat} {w0 w : World} {b : Nat} (v0 v1 v2 v3 v4 v5 v6 v7 : Value) (h : Below B w0 w) (hb : B ≤ b) : Below B w0 (setOp w b v0 v1 v2 v3 v4 v5 v6 v7) :=
 ((((((((h.setCell (p := ⟨b, 0, none⟩) hb v0).setCell (p := ⟨b, 1, none⟩) hb v1).setCell (p := ⟨b, 2, none⟩) hb v2).setCell (p := ⟨b, 3, none⟩) hb v3).setCell (p := ⟨b, 4, none⟩) hb v4).setCell (p := ⟨b, 5, none⟩) hb v5).setCell (p := ⟨b, 6, none⟩) hb v6).setCell (p := ⟨b, 7, none⟩) hb v7)
theorem op_cells {w : World} {b : Nat} {v0 v1 v2 v3 v4 v5 v6 v7 : Value} {T : TypeId} {fr : Nat × Nat} (h : w.heap[b]? = some (.cells #[v0, v1, v2, v3, v4, v5, v6, v7] T fr)) : w.cell? ⟨b, 0, none⟩ = some v0 ∧ w.cell? ⟨b, 1, none⟩ = some v1 ∧ w.cell? ⟨b, 2, none⟩ = some v2 ∧ w.cell? ⟨b, 3, none⟩ = some v3 ∧ w.cell? ⟨b, 4, none⟩ = some v4 ∧ w.cell? ⟨b, 5, none⟩ = some v5 ∧ w.cell? ⟨b, 6, none⟩ = some v6 ∧ w.cell? ⟨b, 7, none⟩ = some v7 :=
 ⟨cell_of_row _ _ _ _ _ _ h, cell_of_row _ _ _ _ _ _ h, cell_of_row _ _ _ _ _ _ h, cell_of_row _ _ _ _ _ _ h, cell_of_row _ _ _ _ _ _ h, cell_of_row _ _ _ _ _ _ h, cell_of_row _ _ _ _ _ _ h, cell_of_row _ _ _ _ _ _ h⟩
theorem op_frozen {w : World} {b : Nat} {cs : Array Value} {T : TypeId} (h : w.heap[b]? = some (.cells cs T (0, 0))) : w.frozen? ⟨b, 0, none⟩ = false ∧ w.frozen? ⟨b, 1, none⟩ = false ∧ w.frozen? ⟨b, 2, none⟩ = false ∧ w.frozen? ⟨b, 3, none⟩ = false ∧ w.frozen? ⟨b, 4, none⟩ = false ∧ w.frozen? ⟨b, 5, none⟩ = false ∧ w.frozen? ⟨b, 6, none⟩ = false ∧ w.frozen? ⟨b, 7, none⟩ = false :=
 ⟨frozen_of_row _ _ _ _ _ h, frozen_of_row _ _ _ _ _ h, frozen_of_row _ _ _ _ _ h, frozen_of_row _ _ _ _ _ h, frozen_of_row _ _ _ _ _ h, frozen_of_row _ _ _ _ _ h, frozen_of_row _ _ _ _ _ h, frozen_of_row _ _ _ _ _ h⟩
end Go.Proofs.YtjokbaaommicmaaGreatDoor
