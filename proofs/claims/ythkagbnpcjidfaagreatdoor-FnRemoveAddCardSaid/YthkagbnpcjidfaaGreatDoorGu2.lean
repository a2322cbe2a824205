/- Walks and mathematics that several claims share, part 2. -/
import Derived.Test.YthkagbnpcjidfaaGreatDoorGu1
import Derived.Below
import Derived.Laws.Rows
import Derived.OpenShut
namespace Go.Proofs.YthkagbnpcjidfaaGreatDoor
set_option maxRecDepth 100000
open Go.RowKit
set_option linter.unusedVariables false
set_option linter.unusedSimpArgs false
theorem bX {w w1 : World} {cs : Array Value} {T : TypeId} (hb : Below (w.alloc (.cells cs T)).heap.size (w.alloc (.cells cs T)) w1) : w1.heap[w.heap.size]? = some (.cells cs T (0, 0)) :=
 (hb.block _ (by show _ < (w.heap.push _).size; simp)).trans (by show (w.heap.push _)[_]? = _; simp)
theorem iI {w w1 : World} {o : Obj} (hb : Below (w.alloc o).heap.size (w.alloc o) w1) : Below w.heap.size w w1 :=
 ((Below.refl _ w).alloc aPq o).trans (hb.mono (by show _ ≤ (w.heap.push _).size; simp))
def kT (kind : Int) : TypeId := if kind = 1 then 181 else if kind = 2 then 184 else if kind = 3 then 185 else if kind = 4 then 186 else 187
def kV (kind : Int) : Value := .iface (kT kind) (.agg #[])
theorem pJ (dev seq stamp kind : Int) (item : ByteArray) (qty level undos : Int) (w : World) (h : sP kind = true) :
  Calls Tryz.prog 101 #[.agg #[.int .i64 dev, .int .i64 seq, .int .i64 stamp, .int .i64 kind, .string item, .int .i64 qty, .int .i64 level, .int .i64 undos]] w fun e w' => e = .returned (.tuple #[kV kind, .bool true]) ∧ Below w.heap.size w w' := by
 rcases xE h with rfl | rfl | rfl | rfl | rfl
 ·clear h
  go_enter Tryz.func101, Tryz.ntmps101
  go_wp2
  go_ret2
  exact ⟨rfl, bl⟩
 ·clear h
  go_enter Tryz.func101, Tryz.ntmps101
  go_wp2
  go_ret2
  exact ⟨rfl, bl⟩
 ·clear h
  go_enter Tryz.func101, Tryz.ntmps101
  go_wp2
  go_ret2
  exact ⟨rfl, bl⟩
 ·clear h
  go_enter Tryz.func101, Tryz.ntmps101
  go_wp2
  go_ret2
  exact ⟨rfl, bl⟩
 ·clear h
  go_enter Tryz.func101, Tryz.ntmps101
  go_wp2
  go_ret2
  exact ⟨rfl, bl⟩
theorem aIa (dev seq stamp kind : Int) (item : ByteArray) (qty level undos : Int) (w : World) (h : sP kind = false) :
  Calls Tryz.prog 101 #[.agg #[.int .i64 dev, .int .i64 seq, .int .i64 stamp, .int .i64 kind, .string item, .int .i64 qty, .int .i64 level, .int .i64 undos]] w fun e w' => e = .returned (.tuple #[.nilIface, .bool false]) ∧ Below w.heap.size w w' := by
 have hn : ¬ (1 ≤ kind ∧ kind ≤ 5) := fun h' => by have := gJ.2 h'; unfold sP at h; rw [this] at h; cases h
 have n1 : (kind == 1) = false := by rw [beq_eq_false_iff_ne]; omega
 have n2 : (kind == 2) = false := by rw [beq_eq_false_iff_ne]; omega
 have n3 : (kind == 3) = false := by rw [beq_eq_false_iff_ne]; omega
 have n4 : (kind == 4) = false := by rw [beq_eq_false_iff_ne]; omega
 have n5 : (kind == 5) = false := by rw [beq_eq_false_iff_ne]; omega
 clear h hn
 go_enter Tryz.func101, Tryz.ntmps101
 go_wp2
 go_ret2
 exact ⟨rfl, bl⟩
theorem Tryz.as1 (w : World) : Sem.run Tryz.prog (Instr.typeAssert (.iface 181 (.agg #[])) 143 181 true) w = .ok (.tuple #[.agg #[], .bool true]) w := by kernel_rfl
theorem Tryz.at1 (w : World) : Sem.run Tryz.prog (Instr.typeAssert (.iface 181 (.agg #[])) 143 184 true) w = .ok (.tuple #[.agg #[], .bool false]) w := by kernel_rfl
theorem Tryz.as2 (w : World) : Sem.run Tryz.prog (Instr.typeAssert (.iface 184 (.agg #[])) 143 181 true) w = .ok (.tuple #[.agg #[], .bool false]) w := by kernel_rfl
theorem Tryz.at2 (w : World) : Sem.run Tryz.prog (Instr.typeAssert (.iface 184 (.agg #[])) 143 184 true) w = .ok (.tuple #[.agg #[], .bool true]) w := by kernel_rfl
theorem Tryz.as3 (w : World) : Sem.run Tryz.prog (Instr.typeAssert (.iface 185 (.agg #[])) 143 181 true) w = .ok (.tuple #[.agg #[], .bool false]) w := by kernel_rfl
theorem Tryz.at3 (w : World) : Sem.run Tryz.prog (Instr.typeAssert (.iface 185 (.agg #[])) 143 184 true) w = .ok (.tuple #[.agg #[], .bool false]) w := by kernel_rfl
theorem Tryz.as4 (w : World) : Sem.run Tryz.prog (Instr.typeAssert (.iface 186 (.agg #[])) 143 181 true) w = .ok (.tuple #[.agg #[], .bool false]) w := by kernel_rfl
theorem Tryz.at4 (w : World) : Sem.run Tryz.prog (Instr.typeAssert (.iface 186 (.agg #[])) 143 184 true) w = .ok (.tuple #[.agg #[], .bool false]) w := by kernel_rfl
theorem Tryz.as5 (w : World) : Sem.run Tryz.prog (Instr.typeAssert (.iface 187 (.agg #[])) 143 181 true) w = .ok (.tuple #[.agg #[], .bool false]) w := by kernel_rfl
theorem Tryz.at5 (w : World) : Sem.run Tryz.prog (Instr.typeAssert (.iface 187 (.agg #[])) 143 184 true) w = .ok (.tuple #[.agg #[], .bool false]) w := by kernel_rfl
theorem aJj (kind qty : Int) (w : World) (h : sP kind = true) :
  Calls Tryz.prog 102 #[kV kind, .int .i64 qty] w fun e w' => e = .returned (.bool (qB kind qty)) ∧ w = w' := by
 rcases xE h with rfl | rfl | rfl | rfl | rfl
 ·clear h
  have ha := Tryz.as1; have a8 := Tryz.at1
  show Calls Tryz.prog 102 #[.iface 181 (.agg #[]), .int .i64 qty] w _
  go_enter Tryz.func102, Tryz.ntmps102
  go_wp2_with fail
  refine (cH _ _ _ _).mono ?_
  rintro e w' ⟨rfl, rfl⟩; go_wp2
  go_ret
  exact ⟨rfl, rfl⟩
 ·clear h
  have ha := Tryz.as2; have a8 := Tryz.at2
  show Calls Tryz.prog 102 #[.iface 184 (.agg #[]), .int .i64 qty] w _
  go_enter Tryz.func102, Tryz.ntmps102
  go_wp2_with fail
  refine (cH _ _ _ _).mono ?_
  rintro e w' ⟨rfl, rfl⟩; go_wp2
  go_ret
  exact ⟨rfl, rfl⟩
 ·clear h
  have ha := Tryz.as3; have a8 := Tryz.at3
  show Calls Tryz.prog 102 #[.iface 185 (.agg #[]), .int .i64 qty] w _
  by_cases hq : qty = 0
  ·subst hq
   go_enter Tryz.func102, Tryz.ntmps102
   go_wp2
   go_ret
   exact ⟨rfl, rfl⟩
  ·have hb : (qty == 0) = false := by rw [beq_eq_false_iff_ne]; exact hq
   have H : Hid (qB 3 qty = false) := decide_eq_false hq; clear hq
   go_enter Tryz.func102, Tryz.ntmps102
   go_wp2
   go_ret
   exact ⟨by rw [H.out]; rfl, rfl⟩
 ·clear h
  have ha := Tryz.as4; have a8 := Tryz.at4
  show Calls Tryz.prog 102 #[.iface 186 (.agg #[]), .int .i64 qty] w _
  by_cases hq : qty = 0
  ·subst hq
   go_enter Tryz.func102, Tryz.ntmps102
   go_wp2
   go_ret
   exact ⟨rfl, rfl⟩
  ·have hb : (qty == 0) = false := by rw [beq_eq_false_iff_ne]; exact hq
   have H : Hid (qB 4 qty = false) := decide_eq_false hq; clear hq
   go_enter Tryz.func102, Tryz.ntmps102
   go_wp2
   go_ret
   exact ⟨by rw [H.out]; rfl, rfl⟩
 ·clear h
  have ha := Tryz.as5; have a8 := Tryz.at5
  show Calls Tryz.prog 102 #[.iface 187 (.agg #[]), .int .i64 qty] w _
  by_cases hq : qty = 0
  ·subst hq
   go_enter Tryz.func102, Tryz.ntmps102
   go_wp2
   go_ret
   exact ⟨rfl, rfl⟩
  ·have hb : (qty == 0) = false := by rw [beq_eq_false_iff_ne]; exact hq
   have H : Hid (qB 5 qty = false) := decide_eq_false hq; clear hq
   go_enter Tryz.func102, Tryz.ntmps102
   go_wp2
   go_ret
   exact ⟨by rw [H.out]; rfl, rfl⟩
theorem aCJ (level : Int) (w : World) : Calls Tryz.prog 203 #[.agg #[], .int .i64 level] w fun e w' => e = .returned (.bool (lB 1 level)) ∧ Below w.heap.size w w' := by
 have HL : Hid (lB 1 level = (cV level 1 100 && decide (level % 2 = 1))) := rfl
 rcases hb : cV level 1 100 with _ | _
 ·have HB := aPo hb
  clear hb
  go_enter Tryz.func203, Tryz.ntmps203
  go_wp2_with fail
  refine (cH _ _ _ _).mono ?_
  rintro e w' ⟨rfl, rfl⟩; rw [HB.out]; go_wp2
  go_ret
  exact ⟨by rw [HL.out, HB.out]; rfl, bl⟩
 ·have HB := aPo hb
  obtain ⟨h1, h2⟩ := gJ.1 hb; clear hb
  by_cases hm : level % 2 = 1
  ·have wO : (level % 2 == 1) = true := by rw [hm]; rfl
   have HD := aPo (decide_eq_true hm); clear hm
   go_enter Tryz.func203, Tryz.ntmps203
   go_wp2_with fail
   refine (cH _ _ _ _).mono ?_
   rintro e w' ⟨rfl, rfl⟩; rw [HB.out]; go_wp2
   go_ret
   exact ⟨by rw [HL.out, HB.out, HD.out]; rfl, bl⟩
  ·have wO : (level % 2 == 1) = false := by rw [beq_eq_false_iff_ne]; exact hm
   have HD := aPo (decide_eq_false hm); clear hm
   go_enter Tryz.func203, Tryz.ntmps203
   go_wp2_with fail
   refine (cH _ _ _ _).mono ?_
   rintro e w' ⟨rfl, rfl⟩; rw [HB.out]; go_wp2
   go_ret
   exact ⟨by rw [HL.out, HB.out, HD.out]; rfl, bl⟩
theorem aBn (level : Int) (w : World) : Calls Tryz.prog 205 #[.agg #[], .int .i64 level] w fun e w' => e = .returned (.bool (lB 3 level)) ∧ Below w.heap.size w w' := by
 have HL : Hid (lB 3 level = (cV level 2 100 && decide (level % 2 = 0))) := rfl
 rcases hb : cV level 2 100 with _ | _
 ·have HB := aPo hb
  clear hb
  go_enter Tryz.func205, Tryz.ntmps205
  go_wp2_with fail
  refine (cH _ _ _ _).mono ?_
  rintro e w' ⟨rfl, rfl⟩; rw [HB.out]; go_wp2
  go_ret
  exact ⟨by rw [HL.out, HB.out]; rfl, bl⟩
 ·have HB := aPo hb
  obtain ⟨h1, h2⟩ := gJ.1 hb; clear hb
  by_cases hm : level % 2 = 0
  ·have wO : (level % 2 == 0) = true := by rw [hm]; rfl
   have HD := aPo (decide_eq_true hm); clear hm
   go_enter Tryz.func205, Tryz.ntmps205
   go_wp2_with fail
   refine (cH _ _ _ _).mono ?_
   rintro e w' ⟨rfl, rfl⟩; rw [HB.out]; go_wp2
   go_ret
   exact ⟨by rw [HL.out, HB.out, HD.out]; rfl, bl⟩
  ·have wO : (level % 2 == 0) = false := by rw [beq_eq_false_iff_ne]; exact hm
   have HD := aPo (decide_eq_false hm); clear hm
   go_enter Tryz.func205, Tryz.ntmps205
   go_wp2_with fail
   refine (cH _ _ _ _).mono ?_
   rintro e w' ⟨rfl, rfl⟩; rw [HB.out]; go_wp2
   go_ret
   exact ⟨by rw [HL.out, HB.out, HD.out]; rfl, bl⟩
theorem I9 (kind level : Int) (h1 : kind ≠ 1) (h3 : kind ≠ 3) (w : World) : Calls Tryz.prog 204 #[.agg #[], .int .i64 level] w fun e w' => e = .returned (.bool (lB kind level)) ∧ Below w.heap.size w w' := by
 have HL : Hid (lB kind level = decide (level = 0)) := by show lB kind level = _; unfold lB; rw [if_neg h1, if_neg h3]
 clear h1 h3
 by_cases hm : level = 0
 ·subst hm
  go_enter Tryz.func204, Tryz.ntmps204
  go_wp2
  go_ret
  exact ⟨by rw [HL.out]; rfl, bl⟩
 ·have hb : (level == 0) = false := by rw [beq_eq_false_iff_ne]; exact hm
  have HD := aPo (decide_eq_false hm); clear hm
  go_enter Tryz.func204, Tryz.ntmps204
  go_wp2
  go_ret
  exact ⟨by rw [HL.out, HD.out]; rfl, bl⟩
set_option maxHeartbeats 2000000 in
theorem kY (dev seq stamp kind : Int) (item : ByteArray) (qty level undos : Int) (w : World) :
  Calls Tryz.prog 70 #[.agg #[.int .i64 dev, .int .i64 seq, .int .i64 stamp, .int .i64 kind, .string item, .int .i64 qty, .int .i64 level, .int .i64 undos]] w (fun e w' => e = .returned (.bool (dM dev seq stamp kind item qty level undos)) ∧ Below w.heap.size w w') := by
 rcases hki : sP kind with _ | _
 ·have HO := aPo (aCx (dev := dev) (seq := seq) (stamp := stamp) (item := item) (qty := qty) (level := level) (undos := undos) hki)
  have C7 := aPo hki; clear hki
  go_enter Tryz.func70, Tryz.ntmps70
  go_wp2_with fail
  refine (aIa _ _ _ _ _ _ _ _ _ C7.out).mono ?_
  rintro e w1 ⟨rfl, aG⟩; have hx := bX aG; have c0 := cell_of_row _ _ 0 _ _ _ hx; have c1 := cell_of_row _ _ 1 _ _ _ hx; have c2 := cell_of_row _ _ 2 _ _ _ hx; have c3 := cell_of_row _ _ 3 _ _ _ hx; have c4 := cell_of_row _ _ 4 _ _ _ hx; have c5 := cell_of_row _ _ 5 _ _ _ hx; have c6 := cell_of_row _ _ 6 _ _ _ hx; have c7 := cell_of_row _ _ 7 _ _ _ hx; simp only [List.getElem?_toArray, List.getElem?_cons_zero, List.getElem?_cons_succ] at c0 c1 c2 c3 c4 c5 c6 c7
  have HB := aPo (iI aG); clear hx aG; go_wp2
  go_ret
  exact ⟨by rw [HO.out]; rfl, HB.out⟩
 have C7 := aPo hki
 rcases h0 : cV dev 0 3 with _ | _
 ·have HO := aPo (mO (kind := kind) (qty := qty) (level := level) (oO (dev := dev) (seq := seq) (stamp := stamp) (item := item) (undos := undos) (.inl h0)))
  have H0 := aPo h0; clear hki h0
  go_enter Tryz.func70, Tryz.ntmps70
  go_wp2_with fail
  refine (pJ _ _ _ _ _ _ _ _ _ C7.out).mono ?_
  rintro e w1 ⟨rfl, aG⟩; have hx := bX aG; have c0 := cell_of_row _ _ 0 _ _ _ hx; have c1 := cell_of_row _ _ 1 _ _ _ hx; have c2 := cell_of_row _ _ 2 _ _ _ hx; have c3 := cell_of_row _ _ 3 _ _ _ hx; have c4 := cell_of_row _ _ 4 _ _ _ hx; have c5 := cell_of_row _ _ 5 _ _ _ hx; have c6 := cell_of_row _ _ 6 _ _ _ hx; have c7 := cell_of_row _ _ 7 _ _ _ hx; simp only [List.getElem?_toArray, List.getElem?_cons_zero, List.getElem?_cons_succ] at c0 c1 c2 c3 c4 c5 c6 c7
  have HB := aPo (iI aG); clear hx aG
  go_wp2_with fail
  refine (cH _ _ _ _).mono ?_
  rintro e w' ⟨rfl, rfl⟩; rw [H0.out]; go_wp2
  go_ret
  exact ⟨by rw [HO.out]; rfl, HB.out⟩
 have H0 := aPo h0
 rcases h1 : cV seq 1 40 with _ | _
 ·have HO := aPo (mO (kind := kind) (qty := qty) (level := level) (oO (dev := dev) (seq := seq) (stamp := stamp) (item := item) (undos := undos) (.inr (.inl h1))))
  have H1 := aPo h1; clear hki h0 h1
  go_enter Tryz.func70, Tryz.ntmps70
  go_wp2_with fail
  refine (pJ _ _ _ _ _ _ _ _ _ C7.out).mono ?_
  rintro e w1 ⟨rfl, aG⟩; have hx := bX aG; have c0 := cell_of_row _ _ 0 _ _ _ hx; have c1 := cell_of_row _ _ 1 _ _ _ hx; have c2 := cell_of_row _ _ 2 _ _ _ hx; have c3 := cell_of_row _ _ 3 _ _ _ hx; have c4 := cell_of_row _ _ 4 _ _ _ hx; have c5 := cell_of_row _ _ 5 _ _ _ hx; have c6 := cell_of_row _ _ 6 _ _ _ hx; have c7 := cell_of_row _ _ 7 _ _ _ hx; simp only [List.getElem?_toArray, List.getElem?_cons_zero, List.getElem?_cons_succ] at c0 c1 c2 c3 c4 c5 c6 c7
  have HB := aPo (iI aG); clear hx aG
  go_wp2_with fail
  refine (cH _ _ _ _).mono ?_
  rintro e w' ⟨rfl, rfl⟩; rw [H0.out]
  go_wp2_with fail
  refine (cH _ _ _ _).mono ?_
  rintro e w' ⟨rfl, rfl⟩; rw [H1.out]; go_wp2
  go_ret
  exact ⟨by rw [HO.out]; rfl, HB.out⟩
 have H1 := aPo h1
 rcases h2 : cV stamp 1 100000 with _ | _
 ·have HO := aPo (mO (kind := kind) (qty := qty) (level := level) (oO (dev := dev) (seq := seq) (stamp := stamp) (item := item) (undos := undos) (.inr (.inr (.inl h2)))))
  have H2 := aPo h2; clear hki h0 h1 h2
  go_enter Tryz.func70, Tryz.ntmps70
  go_wp2_with fail
  refine (pJ _ _ _ _ _ _ _ _ _ C7.out).mono ?_
  rintro e w1 ⟨rfl, aG⟩; have hx := bX aG; have c0 := cell_of_row _ _ 0 _ _ _ hx; have c1 := cell_of_row _ _ 1 _ _ _ hx; have c2 := cell_of_row _ _ 2 _ _ _ hx; have c3 := cell_of_row _ _ 3 _ _ _ hx; have c4 := cell_of_row _ _ 4 _ _ _ hx; have c5 := cell_of_row _ _ 5 _ _ _ hx; have c6 := cell_of_row _ _ 6 _ _ _ hx; have c7 := cell_of_row _ _ 7 _ _ _ hx; simp only [List.getElem?_toArray, List.getElem?_cons_zero, List.getElem?_cons_succ] at c0 c1 c2 c3 c4 c5 c6 c7
  have HB := aPo (iI aG); clear hx aG
  go_wp2_with fail
  refine (cH _ _ _ _).mono ?_
  rintro e w' ⟨rfl, rfl⟩; rw [H0.out]
  go_wp2_with fail
  refine (cH _ _ _ _).mono ?_
  rintro e w' ⟨rfl, rfl⟩; rw [H1.out]
  go_wp2_with fail
  refine (cH _ _ _ _).mono ?_
  rintro e w' ⟨rfl, rfl⟩; rw [H2.out]; go_wp2
  go_ret
  exact ⟨by rw [HO.out]; rfl, HB.out⟩
 have H2 := aPo h2
 rcases h3 : fJ item with _ | _
 ·have HO := aPo (mO (kind := kind) (qty := qty) (level := level) (oO (dev := dev) (seq := seq) (stamp := stamp) (item := item) (undos := undos) (.inr (.inr (.inr (.inl h3))))))
  have H3 := aPo h3; clear hki h0 h1 h2 h3
  go_enter Tryz.func70, Tryz.ntmps70
  go_wp2_with fail
  refine (pJ _ _ _ _ _ _ _ _ _ C7.out).mono ?_
  rintro e w1 ⟨rfl, aG⟩; have hx := bX aG; have c0 := cell_of_row _ _ 0 _ _ _ hx; have c1 := cell_of_row _ _ 1 _ _ _ hx; have c2 := cell_of_row _ _ 2 _ _ _ hx; have c3 := cell_of_row _ _ 3 _ _ _ hx; have c4 := cell_of_row _ _ 4 _ _ _ hx; have c5 := cell_of_row _ _ 5 _ _ _ hx; have c6 := cell_of_row _ _ 6 _ _ _ hx; have c7 := cell_of_row _ _ 7 _ _ _ hx; simp only [List.getElem?_toArray, List.getElem?_cons_zero, List.getElem?_cons_succ] at c0 c1 c2 c3 c4 c5 c6 c7
  have HB := aPo (iI aG); clear hx aG
  go_wp2_with fail
  refine (cH _ _ _ _).mono ?_
  rintro e w' ⟨rfl, rfl⟩; rw [H0.out]
  go_wp2_with fail
  refine (cH _ _ _ _).mono ?_
  rintro e w' ⟨rfl, rfl⟩; rw [H1.out]
  go_wp2_with fail
  refine (cH _ _ _ _).mono ?_
  rintro e w' ⟨rfl, rfl⟩; rw [H2.out]
  go_wp2_with fail
  refine (pL _ _).mono ?_
  rintro e w' ⟨rfl, rfl⟩; rw [H3.out]; go_wp2
  go_ret
  exact ⟨by rw [HO.out]; rfl, HB.out⟩
 have H3 := aPo h3
 rcases h4 : cV undos 0 50 with _ | _
 ·have HO := aPo (mO (kind := kind) (qty := qty) (level := level) (oO (dev := dev) (seq := seq) (stamp := stamp) (item := item) (undos := undos) (.inr (.inr (.inr (.inr (h4)))))))
  have H4 := aPo h4; clear hki h0 h1 h2 h3 h4
  go_enter Tryz.func70, Tryz.ntmps70
  go_wp2_with fail
  refine (pJ _ _ _ _ _ _ _ _ _ C7.out).mono ?_
  rintro e w1 ⟨rfl, aG⟩; have hx := bX aG; have c0 := cell_of_row _ _ 0 _ _ _ hx; have c1 := cell_of_row _ _ 1 _ _ _ hx; have c2 := cell_of_row _ _ 2 _ _ _ hx; have c3 := cell_of_row _ _ 3 _ _ _ hx; have c4 := cell_of_row _ _ 4 _ _ _ hx; have c5 := cell_of_row _ _ 5 _ _ _ hx; have c6 := cell_of_row _ _ 6 _ _ _ hx; have c7 := cell_of_row _ _ 7 _ _ _ hx; simp only [List.getElem?_toArray, List.getElem?_cons_zero, List.getElem?_cons_succ] at c0 c1 c2 c3 c4 c5 c6 c7
  have HB := aPo (iI aG); clear hx aG
  go_wp2_with fail
  refine (cH _ _ _ _).mono ?_
  rintro e w' ⟨rfl, rfl⟩; rw [H0.out]
  go_wp2_with fail
  refine (cH _ _ _ _).mono ?_
  rintro e w' ⟨rfl, rfl⟩; rw [H1.out]
  go_wp2_with fail
  refine (cH _ _ _ _).mono ?_
  rintro e w' ⟨rfl, rfl⟩; rw [H2.out]
  go_wp2_with fail
  refine (pL _ _).mono ?_
  rintro e w' ⟨rfl, rfl⟩; rw [H3.out]
  go_wp2_with fail
  refine (cH _ _ _ _).mono ?_
  rintro e w' ⟨rfl, rfl⟩; rw [H4.out]; go_wp2
  go_ret
  exact ⟨by rw [HO.out]; rfl, HB.out⟩
 have H4 := aPo h4
 rcases hq : qB kind qty with _ | _
 ·have HO := aPo (xS (dev := dev) (seq := seq) (stamp := stamp) (item := item) (level := level) (undos := undos) hq)
  have HQ := aPo hq; clear hki h0 h1 h2 h3 h4 hq
  go_enter Tryz.func70, Tryz.ntmps70
  go_wp2_with fail
  refine (pJ _ _ _ _ _ _ _ _ _ C7.out).mono ?_
  rintro e w1 ⟨rfl, aG⟩; have hx := bX aG; have c0 := cell_of_row _ _ 0 _ _ _ hx; have c1 := cell_of_row _ _ 1 _ _ _ hx; have c2 := cell_of_row _ _ 2 _ _ _ hx; have c3 := cell_of_row _ _ 3 _ _ _ hx; have c4 := cell_of_row _ _ 4 _ _ _ hx; have c5 := cell_of_row _ _ 5 _ _ _ hx; have c6 := cell_of_row _ _ 6 _ _ _ hx; have c7 := cell_of_row _ _ 7 _ _ _ hx; simp only [List.getElem?_toArray, List.getElem?_cons_zero, List.getElem?_cons_succ] at c0 c1 c2 c3 c4 c5 c6 c7
  have HB := aPo (iI aG); clear hx aG
  go_wp2_with fail
  refine (cH _ _ _ _).mono ?_
  rintro e w' ⟨rfl, rfl⟩; rw [H0.out]
  go_wp2_with fail
  refine (cH _ _ _ _).mono ?_
  rintro e w' ⟨rfl, rfl⟩; rw [H1.out]
  go_wp2_with fail
  refine (cH _ _ _ _).mono ?_
  rintro e w' ⟨rfl, rfl⟩; rw [H2.out]
  go_wp2_with fail
  refine (pL _ _).mono ?_
  rintro e w' ⟨rfl, rfl⟩; rw [H3.out]
  go_wp2_with fail
  refine (cH _ _ _ _).mono ?_
  rintro e w' ⟨rfl, rfl⟩; rw [H4.out]
  go_wp2_with fail
  refine (aJj _ _ _ C7.out).mono ?_
  rintro e w' ⟨rfl, rfl⟩; rw [HQ.out]; go_wp2
  go_ret
  exact ⟨by rw [HO.out]; rfl, HB.out⟩
 have HO := aPo (rR (level := level) (aC8 h0 h1 h2 h3 h4) hki hq)
 have HQ := aPo hq
 have HC := aPo (xE hki)
 clear hki h0 h1 h2 h3 h4 hq
 go_enter Tryz.func70, Tryz.ntmps70
 go_wp2_with fail
 refine (pJ _ _ _ _ _ _ _ _ _ C7.out).mono ?_
 rintro e w1 ⟨rfl, aG⟩
 have hx := bX aG
 have c0 := cell_of_row _ _ 0 _ _ _ hx
 have c1 := cell_of_row _ _ 1 _ _ _ hx
 have c2 := cell_of_row _ _ 2 _ _ _ hx
 have c3 := cell_of_row _ _ 3 _ _ _ hx
 have c4 := cell_of_row _ _ 4 _ _ _ hx
 have c5 := cell_of_row _ _ 5 _ _ _ hx
 have c6 := cell_of_row _ _ 6 _ _ _ hx
 have c7 := cell_of_row _ _ 7 _ _ _ hx
 simp only [List.getElem?_toArray, List.getElem?_cons_zero, List.getElem?_cons_succ] at c0 c1 c2 c3 c4 c5 c6 c7
 have HB := aPo (iI aG)
 clear hx aG
 go_wp2_with fail
 refine (cH _ _ _ _).mono ?_
 rintro e w' ⟨rfl, rfl⟩
 rw [H0.out]
 go_wp2_with fail
 refine (cH _ _ _ _).mono ?_
 rintro e w' ⟨rfl, rfl⟩
 rw [H1.out]
 go_wp2_with fail
 refine (cH _ _ _ _).mono ?_
 rintro e w' ⟨rfl, rfl⟩
 rw [H2.out]
 go_wp2_with fail
 refine (pL _ _).mono ?_
 rintro e w' ⟨rfl, rfl⟩
 rw [H3.out]
 go_wp2_with fail
 refine (cH _ _ _ _).mono ?_
 rintro e w' ⟨rfl, rfl⟩
 rw [H4.out]
 go_wp2_with fail
 refine (aJj _ _ _ C7.out).mono ?_
 rintro e w' ⟨rfl, rfl⟩
 rw [HQ.out]
 rcases HC.out with rfl | rfl | rfl | rfl | rfl
 ·simp only [show kV 1 = .iface 181 (.agg #[]) from rfl]
  go_wp2_with fail
  refine (aCJ _ _).mono ?_
  rintro e w2 ⟨rfl, aM⟩; go_wp2
  go_ret
  exact ⟨by rw [HO.out]; rfl, HB.out.trans (aM.mono HB.out.size)⟩
 ·simp only [show kV 2 = .iface 184 (.agg #[]) from rfl]
  go_wp2_with fail
  refine (I9 2 _ (by decide) (by decide) _).mono ?_
  rintro e w2 ⟨rfl, aM⟩; go_wp2
  go_ret
  exact ⟨by rw [HO.out]; rfl, HB.out.trans (aM.mono HB.out.size)⟩
 ·simp only [show kV 3 = .iface 185 (.agg #[]) from rfl]
  go_wp2_with fail
  refine (aBn _ _).mono ?_
  rintro e w2 ⟨rfl, aM⟩; go_wp2
  go_ret
  exact ⟨by rw [HO.out]; rfl, HB.out.trans (aM.mono HB.out.size)⟩
 ·simp only [show kV 4 = .iface 186 (.agg #[]) from rfl]
  go_wp2_with fail
  refine (I9 4 _ (by decide) (by decide) _).mono ?_
  rintro e w2 ⟨rfl, aM⟩; go_wp2
  go_ret
  exact ⟨by rw [HO.out]; rfl, HB.out.trans (aM.mono HB.out.size)⟩
 ·simp only [show kV 5 = .iface 187 (.agg #[]) from rfl]
  go_wp2_with fail
  refine (I9 5 _ (by decide) (by decide) _).mono ?_
  rintro e w2 ⟨rfl, aM⟩; go_wp2
  go_ret
  exact ⟨by rw [HO.out]; rfl, HB.out.trans (aM.mono HB.out.size)⟩
set_option maxHeartbeats 10000000 in
theorem l7 (dev seq stamp kind : Int) (item : ByteArray) (qty level undos : Int) (w : World) (hs : item.size ≤ 1048576) :
  Calls Tryz.prog 74 #[.agg #[.int .i64 dev, .int .i64 seq, .int .i64 stamp, .int .i64 kind, .string item, .int .i64 qty, .int .i64 level, .int .i64 undos]] w (fun e w' => e = .returned (.bool (dM dev seq stamp kind item qty level undos)) ∧ Below w.heap.size w w') := by
 rcases h0 : cV dev 0 3 with _ | _
 ·have HO := aPo (mO (kind := kind) (qty := qty) (level := level) (oO (dev := dev) (seq := seq) (stamp := stamp) (item := item) (undos := undos) (.inl h0)))
  have H0 := aPo h0; clear h0
  go_enter Tryz.func74, Tryz.ntmps74
  go_wp2_with fail
  refine (fT _ _).mono ?_
  rintro e w' ⟨rfl, rfl⟩; rw [H0.out]; go_wp2
  go_ret
  exact ⟨by rw [HO.out]; rfl, bl⟩
 have H0 := aPo h0
 rcases h1 : cV seq 1 40 with _ | _
 ·have HO := aPo (mO (kind := kind) (qty := qty) (level := level) (oO (dev := dev) (seq := seq) (stamp := stamp) (item := item) (undos := undos) (.inr (.inl h1))))
  have H1 := aPo h1; clear h0 h1
  go_enter Tryz.func74, Tryz.ntmps74
  go_wp2_with fail
  refine (fT _ _).mono ?_
  rintro e w' ⟨rfl, rfl⟩; rw [H0.out]
  go_wp2_with fail
  refine (bL _ _ _ _).mono ?_
  rintro e w' ⟨rfl, rfl⟩; rw [H1.out]; go_wp2
  go_ret
  exact ⟨by rw [HO.out]; rfl, bl⟩
 have H1 := aPo h1
 rcases h2 : cV stamp 1 100000 with _ | _
 ·have HO := aPo (mO (kind := kind) (qty := qty) (level := level) (oO (dev := dev) (seq := seq) (stamp := stamp) (item := item) (undos := undos) (.inr (.inr (.inl h2)))))
  have H2 := aPo h2; clear h0 h1 h2
  go_enter Tryz.func74, Tryz.ntmps74
  go_wp2_with fail
  refine (fT _ _).mono ?_
  rintro e w' ⟨rfl, rfl⟩; rw [H0.out]
  go_wp2_with fail
  refine (bL _ _ _ _).mono ?_
  rintro e w' ⟨rfl, rfl⟩; rw [H1.out]
  go_wp2_with fail
  refine (bL _ _ _ _).mono ?_
  rintro e w' ⟨rfl, rfl⟩; rw [H2.out]; go_wp2
  go_ret
  exact ⟨by rw [HO.out]; rfl, bl⟩
 have H2 := aPo h2
 rcases h3 : fJ item with _ | _
 ·have HO := aPo (mO (kind := kind) (qty := qty) (level := level) (oO (dev := dev) (seq := seq) (stamp := stamp) (item := item) (undos := undos) (.inr (.inr (.inr (.inl h3))))))
  have H3 := aPo h3; clear h0 h1 h2 h3
  go_enter Tryz.func74, Tryz.ntmps74
  go_wp2_with fail
  refine (fT _ _).mono ?_
  rintro e w' ⟨rfl, rfl⟩; rw [H0.out]
  go_wp2_with fail
  refine (bL _ _ _ _).mono ?_
  rintro e w' ⟨rfl, rfl⟩; rw [H1.out]
  go_wp2_with fail
  refine (bL _ _ _ _).mono ?_
  rintro e w' ⟨rfl, rfl⟩; rw [H2.out]
  go_wp2_with fail
  refine (fI _ hs _).mono ?_
  rintro e w' ⟨rfl, rfl⟩; rw [H3.out]; go_wp2
  go_ret
  exact ⟨by rw [HO.out]; rfl, bl⟩
 have H3 := aPo h3
 rcases h4 : cV undos 0 50 with _ | _
 ·have HO := aPo (mO (kind := kind) (qty := qty) (level := level) (oO (dev := dev) (seq := seq) (stamp := stamp) (item := item) (undos := undos) (.inr (.inr (.inr (.inr (h4)))))))
  have H4 := aPo h4; clear h0 h1 h2 h3 h4
  go_enter Tryz.func74, Tryz.ntmps74
  go_wp2_with fail
  refine (fT _ _).mono ?_
  rintro e w' ⟨rfl, rfl⟩; rw [H0.out]
  go_wp2_with fail
  refine (bL _ _ _ _).mono ?_
  rintro e w' ⟨rfl, rfl⟩; rw [H1.out]
  go_wp2_with fail
  refine (bL _ _ _ _).mono ?_
  rintro e w' ⟨rfl, rfl⟩; rw [H2.out]
  go_wp2_with fail
  refine (fI _ hs _).mono ?_
  rintro e w' ⟨rfl, rfl⟩; rw [H3.out]
  go_wp2_with fail
  refine (bL _ _ _ _).mono ?_
  rintro e w' ⟨rfl, rfl⟩; rw [H4.out]; go_wp2
  go_ret
  exact ⟨by rw [HO.out]; rfl, bl⟩
 have H4 := aPo h4
 have HH := aPo (aC8 h0 h1 h2 h3 h4)
 clear h0 h1 h2 h3 h4
 rcases hki : sP kind with _ | _
 ·have HO := aPo (aCx (dev := dev) (seq := seq) (stamp := stamp) (item := item) (qty := qty) (level := level) (undos := undos) hki)
  have hn : ¬ (1 ≤ kind ∧ kind ≤ 5) := fun h' => by have := gJ.2 h'; unfold sP at hki; rw [this] at hki; cases hki
  have n1 : (kind == 1) = false := by rw [beq_eq_false_iff_ne]; omega
  have n2 : (kind == 2) = false := by rw [beq_eq_false_iff_ne]; omega
  have n3 : (kind == 3) = false := by rw [beq_eq_false_iff_ne]; omega
  have n4 : (kind == 4) = false := by rw [beq_eq_false_iff_ne]; omega
  have n5 : (kind == 5) = false := by rw [beq_eq_false_iff_ne]; omega
  clear hki hn
  go_enter Tryz.func74, Tryz.ntmps74
  go_wp2_with fail
  refine (fT _ _).mono ?_
  rintro e w' ⟨rfl, rfl⟩; rw [H0.out]
  go_wp2_with fail
  refine (bL _ _ _ _).mono ?_
  rintro e w' ⟨rfl, rfl⟩; rw [H1.out]
  go_wp2_with fail
  refine (bL _ _ _ _).mono ?_
  rintro e w' ⟨rfl, rfl⟩; rw [H2.out]
  go_wp2_with fail
  refine (fI _ hs _).mono ?_
  rintro e w' ⟨rfl, rfl⟩; rw [H3.out]
  go_wp2_with fail
  refine (bL _ _ _ _).mono ?_
  rintro e w' ⟨rfl, rfl⟩; rw [H4.out]; go_wp2
  go_ret
  exact ⟨by rw [HO.out]; rfl, bl⟩
 rcases xE hki with rfl | rfl | rfl | rfl | rfl
 ·rcases hq : cV qty 1 999 with _ | _
  ·have HO := aPo (xS (dev := dev) (seq := seq) (stamp := stamp) (item := item) (level := level) (undos := undos) (kind := 1) (by exact hq))
   have HQ := aPo hq; clear hq hki
   go_enter Tryz.func74, Tryz.ntmps74
   go_wp2_with fail
   refine (fT _ _).mono ?_
   rintro e w' ⟨rfl, rfl⟩; rw [H0.out]
   go_wp2_with fail
   refine (bL _ _ _ _).mono ?_
   rintro e w' ⟨rfl, rfl⟩; rw [H1.out]
   go_wp2_with fail
   refine (bL _ _ _ _).mono ?_
   rintro e w' ⟨rfl, rfl⟩; rw [H2.out]
   go_wp2_with fail
   refine (fI _ hs _).mono ?_
   rintro e w' ⟨rfl, rfl⟩; rw [H3.out]
   go_wp2_with fail
   refine (bL _ _ _ _).mono ?_
   rintro e w' ⟨rfl, rfl⟩; rw [H4.out]
   go_wp2_with fail
   refine (bL _ _ _ _).mono ?_
   rintro e w' ⟨rfl, rfl⟩; rw [HQ.out]; go_wp2
   go_ret
   exact ⟨by rw [HO.out]; rfl, bl⟩
  ·have HQ := aPo hq
   have HL : Hid (lB 1 level = (cV level 1 100 && decide (level % 2 = 1))) := rfl; have wV := aPo (rR (level := level) HH.out hki (by exact hq))
   clear hki hq; rcases hl : cV level 1 100 with _ | _
   ·have HO : Hid (dM dev seq stamp 1 item qty level undos = false) := by show dM _ _ _ _ _ _ _ _ = _; rw [wV.out, HL.out, hl]; rfl
    have HV := aPo hl; clear hl
    go_enter Tryz.func74, Tryz.ntmps74
    go_wp2_with fail
    refine (fT _ _).mono ?_
    rintro e w' ⟨rfl, rfl⟩; rw [H0.out]
    go_wp2_with fail
    refine (bL _ _ _ _).mono ?_
    rintro e w' ⟨rfl, rfl⟩; rw [H1.out]
    go_wp2_with fail
    refine (bL _ _ _ _).mono ?_
    rintro e w' ⟨rfl, rfl⟩; rw [H2.out]
    go_wp2_with fail
    refine (fI _ hs _).mono ?_
    rintro e w' ⟨rfl, rfl⟩; rw [H3.out]
    go_wp2_with fail
    refine (bL _ _ _ _).mono ?_
    rintro e w' ⟨rfl, rfl⟩; rw [H4.out]
    go_wp2_with fail
    refine (bL _ _ _ _).mono ?_
    rintro e w' ⟨rfl, rfl⟩; rw [HQ.out]
    go_wp2_with fail
    refine (bL _ _ _ _).mono ?_
    rintro e w' ⟨rfl, rfl⟩; rw [HV.out]; go_wp2
    go_ret
    exact ⟨by rw [HO.out]; rfl, bl⟩
   ·obtain ⟨g1, g2⟩ := gJ.1 hl
    have HV := aPo hl
    by_cases hm : level % 2 = 1
    ·have HO : Hid (dM dev seq stamp 1 item qty level undos = true) := by show dM _ _ _ _ _ _ _ _ = _; rw [wV.out, HL.out, hl, decide_eq_true hm]; rfl
     have wO : (level % 2 == 1) = true := by rw [hm]; rfl
     clear hm hl
     go_enter Tryz.func74, Tryz.ntmps74
     go_wp2_with fail
     refine (fT _ _).mono ?_
     rintro e w' ⟨rfl, rfl⟩; rw [H0.out]
     go_wp2_with fail
     refine (bL _ _ _ _).mono ?_
     rintro e w' ⟨rfl, rfl⟩; rw [H1.out]
     go_wp2_with fail
     refine (bL _ _ _ _).mono ?_
     rintro e w' ⟨rfl, rfl⟩; rw [H2.out]
     go_wp2_with fail
     refine (fI _ hs _).mono ?_
     rintro e w' ⟨rfl, rfl⟩; rw [H3.out]
     go_wp2_with fail
     refine (bL _ _ _ _).mono ?_
     rintro e w' ⟨rfl, rfl⟩; rw [H4.out]
     go_wp2_with fail
     refine (bL _ _ _ _).mono ?_
     rintro e w' ⟨rfl, rfl⟩; rw [HQ.out]
     go_wp2_with fail
     refine (bL _ _ _ _).mono ?_
     rintro e w' ⟨rfl, rfl⟩; rw [HV.out]; go_wp2
     go_ret
     exact ⟨by rw [HO.out]; rfl, bl⟩
    ·have HO : Hid (dM dev seq stamp 1 item qty level undos = false) := by show dM _ _ _ _ _ _ _ _ = _; rw [wV.out, HL.out, hl, decide_eq_false hm]; rfl
     have wO : (level % 2 == 1) = false := by rw [beq_eq_false_iff_ne]; exact hm
     clear hm hl
     go_enter Tryz.func74, Tryz.ntmps74
     go_wp2_with fail
     refine (fT _ _).mono ?_
     rintro e w' ⟨rfl, rfl⟩; rw [H0.out]
     go_wp2_with fail
     refine (bL _ _ _ _).mono ?_
     rintro e w' ⟨rfl, rfl⟩; rw [H1.out]
     go_wp2_with fail
     refine (bL _ _ _ _).mono ?_
     rintro e w' ⟨rfl, rfl⟩; rw [H2.out]
     go_wp2_with fail
     refine (fI _ hs _).mono ?_
     rintro e w' ⟨rfl, rfl⟩; rw [H3.out]
     go_wp2_with fail
     refine (bL _ _ _ _).mono ?_
     rintro e w' ⟨rfl, rfl⟩; rw [H4.out]
     go_wp2_with fail
     refine (bL _ _ _ _).mono ?_
     rintro e w' ⟨rfl, rfl⟩; rw [HQ.out]
     go_wp2_with fail
     refine (bL _ _ _ _).mono ?_
     rintro e w' ⟨rfl, rfl⟩; rw [HV.out]; go_wp2
     go_ret
     exact ⟨by rw [HO.out]; rfl, bl⟩
 ·rcases hq : cV qty 1 999 with _ | _
  ·have HO := aPo (xS (dev := dev) (seq := seq) (stamp := stamp) (item := item) (level := level) (undos := undos) (kind := 2) (by exact hq))
   have HQ := aPo hq; clear hq hki
   go_enter Tryz.func74, Tryz.ntmps74
   go_wp2_with fail
   refine (fT _ _).mono ?_
   rintro e w' ⟨rfl, rfl⟩; rw [H0.out]
   go_wp2_with fail
   refine (bL _ _ _ _).mono ?_
   rintro e w' ⟨rfl, rfl⟩; rw [H1.out]
   go_wp2_with fail
   refine (bL _ _ _ _).mono ?_
   rintro e w' ⟨rfl, rfl⟩; rw [H2.out]
   go_wp2_with fail
   refine (fI _ hs _).mono ?_
   rintro e w' ⟨rfl, rfl⟩; rw [H3.out]
   go_wp2_with fail
   refine (bL _ _ _ _).mono ?_
   rintro e w' ⟨rfl, rfl⟩; rw [H4.out]
   go_wp2_with fail
   refine (bL _ _ _ _).mono ?_
   rintro e w' ⟨rfl, rfl⟩; rw [HQ.out]; go_wp2
   go_ret
   exact ⟨by rw [HO.out]; rfl, bl⟩
  ·have HQ := aPo hq
   have wV := aPo (rR (level := level) HH.out hki (by exact hq))
   clear hki hq
   by_cases hm : level = 0
   ·subst hm
    have HO : Hid (dM dev seq stamp 2 item qty 0 undos = true) := by show dM _ _ _ _ _ _ _ _ = _; rw [wV.out]; rfl
    go_enter Tryz.func74, Tryz.ntmps74
    go_wp2_with fail
    refine (fT _ _).mono ?_
    rintro e w' ⟨rfl, rfl⟩; rw [H0.out]
    go_wp2_with fail
    refine (bL _ _ _ _).mono ?_
    rintro e w' ⟨rfl, rfl⟩; rw [H1.out]
    go_wp2_with fail
    refine (bL _ _ _ _).mono ?_
    rintro e w' ⟨rfl, rfl⟩; rw [H2.out]
    go_wp2_with fail
    refine (fI _ hs _).mono ?_
    rintro e w' ⟨rfl, rfl⟩; rw [H3.out]
    go_wp2_with fail
    refine (bL _ _ _ _).mono ?_
    rintro e w' ⟨rfl, rfl⟩; rw [H4.out]
    go_wp2_with fail
    refine (bL _ _ _ _).mono ?_
    rintro e w' ⟨rfl, rfl⟩; rw [HQ.out]; go_wp2
    go_ret
    exact ⟨by rw [HO.out]; rfl, bl⟩
   ·have HO : Hid (dM dev seq stamp 2 item qty level undos = false) := by show dM _ _ _ _ _ _ _ _ = _; rw [wV.out]; exact decide_eq_false hm
    have wO : (level == 0) = false := by rw [beq_eq_false_iff_ne]; exact hm
    clear hm
    go_enter Tryz.func74, Tryz.ntmps74
    go_wp2_with fail
    refine (fT _ _).mono ?_
    rintro e w' ⟨rfl, rfl⟩; rw [H0.out]
    go_wp2_with fail
    refine (bL _ _ _ _).mono ?_
    rintro e w' ⟨rfl, rfl⟩; rw [H1.out]
    go_wp2_with fail
    refine (bL _ _ _ _).mono ?_
    rintro e w' ⟨rfl, rfl⟩; rw [H2.out]
    go_wp2_with fail
    refine (fI _ hs _).mono ?_
    rintro e w' ⟨rfl, rfl⟩; rw [H3.out]
    go_wp2_with fail
    refine (bL _ _ _ _).mono ?_
    rintro e w' ⟨rfl, rfl⟩; rw [H4.out]
    go_wp2_with fail
    refine (bL _ _ _ _).mono ?_
    rintro e w' ⟨rfl, rfl⟩; rw [HQ.out]; go_wp2
    go_ret
    exact ⟨by rw [HO.out]; rfl, bl⟩
 ·by_cases hq : qty = 0
  rotate_left
  ·have yM : (qty == 0) = false := by rw [beq_eq_false_iff_ne]; exact hq
   have HO := aPo (xS (dev := dev) (seq := seq) (stamp := stamp) (item := item) (level := level) (undos := undos) (kind := 3) (decide_eq_false hq)); clear hq hki
   go_enter Tryz.func74, Tryz.ntmps74
   go_wp2_with fail
   refine (fT _ _).mono ?_
   rintro e w' ⟨rfl, rfl⟩; rw [H0.out]
   go_wp2_with fail
   refine (bL _ _ _ _).mono ?_
   rintro e w' ⟨rfl, rfl⟩; rw [H1.out]
   go_wp2_with fail
   refine (bL _ _ _ _).mono ?_
   rintro e w' ⟨rfl, rfl⟩; rw [H2.out]
   go_wp2_with fail
   refine (fI _ hs _).mono ?_
   rintro e w' ⟨rfl, rfl⟩; rw [H3.out]
   go_wp2_with fail
   refine (bL _ _ _ _).mono ?_
   rintro e w' ⟨rfl, rfl⟩; rw [H4.out]; go_wp2
   go_ret
   exact ⟨by rw [HO.out]; rfl, bl⟩
  ·subst hq
   have HL : Hid (lB 3 level = (cV level 1 100 && decide (level % 2 = 0))) := aKl; have wV := aPo (rR (level := level) HH.out hki (show qB 3 0 = true from rfl)); clear hki; rcases hl : cV level 1 100 with _ | _
   ·have HO : Hid (dM dev seq stamp 3 item 0 level undos = false) := by show dM _ _ _ _ _ _ _ _ = _; rw [wV.out, HL.out, hl]; rfl
    have HV := aPo hl; clear hl
    go_enter Tryz.func74, Tryz.ntmps74
    go_wp2_with fail
    refine (fT _ _).mono ?_
    rintro e w' ⟨rfl, rfl⟩; rw [H0.out]
    go_wp2_with fail
    refine (bL _ _ _ _).mono ?_
    rintro e w' ⟨rfl, rfl⟩; rw [H1.out]
    go_wp2_with fail
    refine (bL _ _ _ _).mono ?_
    rintro e w' ⟨rfl, rfl⟩; rw [H2.out]
    go_wp2_with fail
    refine (fI _ hs _).mono ?_
    rintro e w' ⟨rfl, rfl⟩; rw [H3.out]
    go_wp2_with fail
    refine (bL _ _ _ _).mono ?_
    rintro e w' ⟨rfl, rfl⟩; rw [H4.out]
    go_wp2_with fail
    refine (bL _ _ _ _).mono ?_
    rintro e w' ⟨rfl, rfl⟩; rw [HV.out]; go_wp2
    go_ret
    exact ⟨by rw [HO.out]; rfl, bl⟩
   ·obtain ⟨g1, g2⟩ := gJ.1 hl
    have HV := aPo hl
    by_cases hm : level % 2 = 0
    ·have HO : Hid (dM dev seq stamp 3 item 0 level undos = true) := by show dM _ _ _ _ _ _ _ _ = _; rw [wV.out, HL.out, hl, decide_eq_true hm]; rfl
     have wO : (level % 2 == 0) = true := by rw [hm]; rfl
     clear hm hl
     go_enter Tryz.func74, Tryz.ntmps74
     go_wp2_with fail
     refine (fT _ _).mono ?_
     rintro e w' ⟨rfl, rfl⟩; rw [H0.out]
     go_wp2_with fail
     refine (bL _ _ _ _).mono ?_
     rintro e w' ⟨rfl, rfl⟩; rw [H1.out]
     go_wp2_with fail
     refine (bL _ _ _ _).mono ?_
     rintro e w' ⟨rfl, rfl⟩; rw [H2.out]
     go_wp2_with fail
     refine (fI _ hs _).mono ?_
     rintro e w' ⟨rfl, rfl⟩; rw [H3.out]
     go_wp2_with fail
     refine (bL _ _ _ _).mono ?_
     rintro e w' ⟨rfl, rfl⟩; rw [H4.out]
     go_wp2_with fail
     refine (bL _ _ _ _).mono ?_
     rintro e w' ⟨rfl, rfl⟩; rw [HV.out]; go_wp2
     go_ret
     exact ⟨by rw [HO.out]; rfl, bl⟩
    ·have HO : Hid (dM dev seq stamp 3 item 0 level undos = false) := by show dM _ _ _ _ _ _ _ _ = _; rw [wV.out, HL.out, hl, decide_eq_false hm]; rfl
     have wO : (level % 2 == 0) = false := by rw [beq_eq_false_iff_ne]; exact hm
     clear hm hl
     go_enter Tryz.func74, Tryz.ntmps74
     go_wp2_with fail
     refine (fT _ _).mono ?_
     rintro e w' ⟨rfl, rfl⟩; rw [H0.out]
     go_wp2_with fail
     refine (bL _ _ _ _).mono ?_
     rintro e w' ⟨rfl, rfl⟩; rw [H1.out]
     go_wp2_with fail
     refine (bL _ _ _ _).mono ?_
     rintro e w' ⟨rfl, rfl⟩; rw [H2.out]
     go_wp2_with fail
     refine (fI _ hs _).mono ?_
     rintro e w' ⟨rfl, rfl⟩; rw [H3.out]
     go_wp2_with fail
     refine (bL _ _ _ _).mono ?_
     rintro e w' ⟨rfl, rfl⟩; rw [H4.out]
     go_wp2_with fail
     refine (bL _ _ _ _).mono ?_
     rintro e w' ⟨rfl, rfl⟩; rw [HV.out]; go_wp2
     go_ret
     exact ⟨by rw [HO.out]; rfl, bl⟩
 ·by_cases hq : qty = 0
  rotate_left
  ·have yM : (qty == 0) = false := by rw [beq_eq_false_iff_ne]; exact hq
   have HO := aPo (xS (dev := dev) (seq := seq) (stamp := stamp) (item := item) (level := level) (undos := undos) (kind := 4) (decide_eq_false hq)); clear hq hki
   go_enter Tryz.func74, Tryz.ntmps74
   go_wp2_with fail
   refine (fT _ _).mono ?_
   rintro e w' ⟨rfl, rfl⟩; rw [H0.out]
   go_wp2_with fail
   refine (bL _ _ _ _).mono ?_
   rintro e w' ⟨rfl, rfl⟩; rw [H1.out]
   go_wp2_with fail
   refine (bL _ _ _ _).mono ?_
   rintro e w' ⟨rfl, rfl⟩; rw [H2.out]
   go_wp2_with fail
   refine (fI _ hs _).mono ?_
   rintro e w' ⟨rfl, rfl⟩; rw [H3.out]
   go_wp2_with fail
   refine (bL _ _ _ _).mono ?_
   rintro e w' ⟨rfl, rfl⟩; rw [H4.out]; go_wp2
   go_ret
   exact ⟨by rw [HO.out]; rfl, bl⟩
  ·subst hq
   have wV := aPo (rR (level := level) HH.out hki (show qB 4 0 = true from rfl)); clear hki
   by_cases hm : level = 0
   ·subst hm
    have HO : Hid (dM dev seq stamp 4 item 0 0 undos = true) := by show dM _ _ _ _ _ _ _ _ = _; rw [wV.out]; rfl
    go_enter Tryz.func74, Tryz.ntmps74
    go_wp2_with fail
    refine (fT _ _).mono ?_
    rintro e w' ⟨rfl, rfl⟩; rw [H0.out]
    go_wp2_with fail
    refine (bL _ _ _ _).mono ?_
    rintro e w' ⟨rfl, rfl⟩; rw [H1.out]
    go_wp2_with fail
    refine (bL _ _ _ _).mono ?_
    rintro e w' ⟨rfl, rfl⟩; rw [H2.out]
    go_wp2_with fail
    refine (fI _ hs _).mono ?_
    rintro e w' ⟨rfl, rfl⟩; rw [H3.out]
    go_wp2_with fail
    refine (bL _ _ _ _).mono ?_
    rintro e w' ⟨rfl, rfl⟩; rw [H4.out]; go_wp2
    go_ret
    exact ⟨by rw [HO.out]; rfl, bl⟩
   ·have HO : Hid (dM dev seq stamp 4 item 0 level undos = false) := by show dM _ _ _ _ _ _ _ _ = _; rw [wV.out]; exact decide_eq_false hm
    have wO : (level == 0) = false := by rw [beq_eq_false_iff_ne]; exact hm
    clear hm
    go_enter Tryz.func74, Tryz.ntmps74
    go_wp2_with fail
    refine (fT _ _).mono ?_
    rintro e w' ⟨rfl, rfl⟩; rw [H0.out]
    go_wp2_with fail
    refine (bL _ _ _ _).mono ?_
    rintro e w' ⟨rfl, rfl⟩; rw [H1.out]
    go_wp2_with fail
    refine (bL _ _ _ _).mono ?_
    rintro e w' ⟨rfl, rfl⟩; rw [H2.out]
    go_wp2_with fail
    refine (fI _ hs _).mono ?_
    rintro e w' ⟨rfl, rfl⟩; rw [H3.out]
    go_wp2_with fail
    refine (bL _ _ _ _).mono ?_
    rintro e w' ⟨rfl, rfl⟩; rw [H4.out]; go_wp2
    go_ret
    exact ⟨by rw [HO.out]; rfl, bl⟩
 ·by_cases hq : qty = 0
  rotate_left
  ·have yM : (qty == 0) = false := by rw [beq_eq_false_iff_ne]; exact hq
   have HO := aPo (xS (dev := dev) (seq := seq) (stamp := stamp) (item := item) (level := level) (undos := undos) (kind := 5) (decide_eq_false hq)); clear hq hki
   go_enter Tryz.func74, Tryz.ntmps74
   go_wp2_with fail
   refine (fT _ _).mono ?_
   rintro e w' ⟨rfl, rfl⟩; rw [H0.out]
   go_wp2_with fail
   refine (bL _ _ _ _).mono ?_
   rintro e w' ⟨rfl, rfl⟩; rw [H1.out]
   go_wp2_with fail
   refine (bL _ _ _ _).mono ?_
   rintro e w' ⟨rfl, rfl⟩; rw [H2.out]
   go_wp2_with fail
   refine (fI _ hs _).mono ?_
   rintro e w' ⟨rfl, rfl⟩; rw [H3.out]
   go_wp2_with fail
   refine (bL _ _ _ _).mono ?_
   rintro e w' ⟨rfl, rfl⟩; rw [H4.out]; go_wp2
   go_ret
   exact ⟨by rw [HO.out]; rfl, bl⟩
  ·subst hq
   have wV := aPo (rR (level := level) HH.out hki (show qB 5 0 = true from rfl)); clear hki
   by_cases hm : level = 0
   ·subst hm
    have HO : Hid (dM dev seq stamp 5 item 0 0 undos = true) := by show dM _ _ _ _ _ _ _ _ = _; rw [wV.out]; rfl
    go_enter Tryz.func74, Tryz.ntmps74
    go_wp2_with fail
    refine (fT _ _).mono ?_
    rintro e w' ⟨rfl, rfl⟩; rw [H0.out]
    go_wp2_with fail
    refine (bL _ _ _ _).mono ?_
    rintro e w' ⟨rfl, rfl⟩; rw [H1.out]
    go_wp2_with fail
    refine (bL _ _ _ _).mono ?_
    rintro e w' ⟨rfl, rfl⟩; rw [H2.out]
    go_wp2_with fail
    refine (fI _ hs _).mono ?_
    rintro e w' ⟨rfl, rfl⟩; rw [H3.out]
    go_wp2_with fail
    refine (bL _ _ _ _).mono ?_
    rintro e w' ⟨rfl, rfl⟩; rw [H4.out]; go_wp2
    go_ret
    exact ⟨by rw [HO.out]; rfl, bl⟩
   ·have HO : Hid (dM dev seq stamp 5 item 0 level undos = false) := by show dM _ _ _ _ _ _ _ _ = _; rw [wV.out]; exact decide_eq_false hm
    have wO : (level == 0) = false := by rw [beq_eq_false_iff_ne]; exact hm
    clear hm
    go_enter Tryz.func74, Tryz.ntmps74
    go_wp2_with fail
    refine (fT _ _).mono ?_
    rintro e w' ⟨rfl, rfl⟩; rw [H0.out]
    go_wp2_with fail
    refine (bL _ _ _ _).mono ?_
    rintro e w' ⟨rfl, rfl⟩; rw [H1.out]
    go_wp2_with fail
    refine (bL _ _ _ _).mono ?_
    rintro e w' ⟨rfl, rfl⟩; rw [H2.out]
    go_wp2_with fail
    refine (fI _ hs _).mono ?_
    rintro e w' ⟨rfl, rfl⟩; rw [H3.out]
    go_wp2_with fail
    refine (bL _ _ _ _).mono ?_
    rintro e w' ⟨rfl, rfl⟩; rw [H4.out]; go_wp2
    go_ret
    exact ⟨by rw [HO.out]; rfl, bl⟩
def bK (w : World) (b : Nat) (v0 v1 v2 v3 v4 v5 v6 v7 : Value) : World := ((((((((w.setCell ⟨b, 0, none⟩ v0).setCell ⟨b, 1, none⟩ v1).setCell ⟨b, 2, none⟩ v2).setCell ⟨b, 3, none⟩ v3).setCell ⟨b, 4, none⟩ v4).setCell ⟨b, 5, none⟩ v5).setCell ⟨b, 6, none⟩ v6).setCell ⟨b, 7, none⟩ v7)
theorem iX {w : World} {b : Nat} {c0 c1 c2 c3 c4 c5 c6 c7 : Value} {T : TypeId} (v0 v1 v2 v3 v4 v5 v6 v7 : Value) (h : w.heap[b]? = some (.cells #[c0, c1, c2, c3, c4, c5, c6, c7] T (0, 0))) : (bK w b v0 v1 v2 v3 v4 v5 v6 v7).heap[b]? = some (.cells #[v0, v1, v2, v3, v4, v5, v6, v7] T (0, 0)) := by
 have h0 : (w.setCell ⟨b, 0, none⟩ v0).heap[b]? = some (.cells #[v0, c1, c2, c3, c4, c5, c6, c7] T (0, 0)) := heap_setCell_same _ _ _ _ _ _ h
 have h1 : ((w.setCell ⟨b, 0, none⟩ v0).setCell ⟨b, 1, none⟩ v1).heap[b]? = some (.cells #[v0, v1, c2, c3, c4, c5, c6, c7] T (0, 0)) := heap_setCell_same _ _ _ _ _ _ h0
 have h2 : (((w.setCell ⟨b, 0, none⟩ v0).setCell ⟨b, 1, none⟩ v1).setCell ⟨b, 2, none⟩ v2).heap[b]? = some (.cells #[v0, v1, v2, c3, c4, c5, c6, c7] T (0, 0)) := heap_setCell_same _ _ _ _ _ _ h1
 have h3 : ((((w.setCell ⟨b, 0, none⟩ v0).setCell ⟨b, 1, none⟩ v1).setCell ⟨b, 2, none⟩ v2).setCell ⟨b, 3, none⟩ v3).heap[b]? = some (.cells #[v0, v1, v2, v3, c4, c5, c6, c7] T (0, 0)) := heap_setCell_same _ _ _ _ _ _ h2
 have h4 : (((((w.setCell ⟨b, 0, none⟩ v0).setCell ⟨b, 1, none⟩ v1).setCell ⟨b, 2, none⟩ v2).setCell ⟨b, 3, none⟩ v3).setCell ⟨b, 4, none⟩ v4).heap[b]? = some (.cells #[v0, v1, v2, v3, v4, c5, c6, c7] T (0, 0)) := heap_setCell_same _ _ _ _ _ _ h3
 have h5 : ((((((w.setCell ⟨b, 0, none⟩ v0).setCell ⟨b, 1, none⟩ v1).setCell ⟨b, 2, none⟩ v2).setCell ⟨b, 3, none⟩ v3).setCell ⟨b, 4, none⟩ v4).setCell ⟨b, 5, none⟩ v5).heap[b]? = some (.cells #[v0, v1, v2, v3, v4, v5, c6, c7] T (0, 0)) := heap_setCell_same _ _ _ _ _ _ h4
 have h6 : (((((((w.setCell ⟨b, 0, none⟩ v0).setCell ⟨b, 1, none⟩ v1).setCell ⟨b, 2, none⟩ v2).setCell ⟨b, 3, none⟩ v3).setCell ⟨b, 4, none⟩ v4).setCell ⟨b, 5, none⟩ v5).setCell ⟨b, 6, none⟩ v6).heap[b]? = some (.cells #[v0, v1, v2, v3, v4, v5, v6, c7] T (0, 0)) := heap_setCell_same _ _ _ _ _ _ h5
 have h7 : ((((((((w.setCell ⟨b, 0, none⟩ v0).setCell ⟨b, 1, none⟩ v1).setCell ⟨b, 2, none⟩ v2).setCell ⟨b, 3, none⟩ v3).setCell ⟨b, 4, none⟩ v4).setCell ⟨b, 5, none⟩ v5).setCell ⟨b, 6, none⟩ v6).setCell ⟨b, 7, none⟩ v7).heap[b]? = some (.cells #[v0, v1, v2, v3, v4, v5, v6, v7] T (0, 0)) := heap_setCell_same _ _ _ _ _ _ h6
 exact h7
theorem qL {w : World} {b k : Nat} (v0 v1 v2 v3 v4 v5 v6 v7 : Value) (h : k ≠ b) : (bK w b v0 v1 v2 v3 v4 v5 v6 v7).heap[k]? = w.heap[k]? := by
 unfold bK
 rw [heap_setCell_other _ _ _ _ h, heap_setCell_other _ _ _ _ h, heap_setCell_other _ _ _ _ h, heap_setCell_other _ _ _ _ h, heap_setCell_other _ _ _ _ h, heap_setCell_other _ _ _ _ h, heap_setCell_other _ _ _ _ h, heap_setCell_other _ _ _ _ h]
theorem hU {B : Nat} {w0 w : World} {b : Nat} (v0 v1 v2 v3 v4 v5 v6 v7 : Value) (h : Below B w0 w) (hb : B ≤ b) : Below B w0 (bK w b v0 v1 v2 v3 v4 v5 v6 v7) :=
 ((((((((h.setCell (p := ⟨b, 0, none⟩) hb v0).setCell (p := ⟨b, 1, none⟩) hb v1).setCell (p := ⟨b, 2, none⟩) hb v2).setCell (p := ⟨b, 3, none⟩) hb v3).setCell (p := ⟨b, 4, none⟩) hb v4).setCell (p := ⟨b, 5, none⟩) hb v5).setCell (p := ⟨b, 6, none⟩) hb v6).setCell (p := ⟨b, 7, none⟩) hb v7)
theorem aN {w : World} {b : Nat} {v0 v1 v2 v3 v4 v5 v6 v7 : Value} {T : TypeId} {fr : Nat × Nat} (h : w.heap[b]? = some (.cells #[v0, v1, v2, v3, v4, v5, v6, v7] T fr)) : w.cell? ⟨b, 0, none⟩ = some v0 ∧ w.cell? ⟨b, 1, none⟩ = some v1 ∧ w.cell? ⟨b, 2, none⟩ = some v2 ∧ w.cell? ⟨b, 3, none⟩ = some v3 ∧ w.cell? ⟨b, 4, none⟩ = some v4 ∧ w.cell? ⟨b, 5, none⟩ = some v5 ∧ w.cell? ⟨b, 6, none⟩ = some v6 ∧ w.cell? ⟨b, 7, none⟩ = some v7 :=
 ⟨aPr h, aPr h, aPr h, aPr h, aPr h, aPr h, aPr h, aPr h⟩
theorem cP {w : World} {b : Nat} {cs : Array Value} {T : TypeId} (h : w.heap[b]? = some (.cells cs T (0, 0))) : w.frozen? ⟨b, 0, none⟩ = false ∧ w.frozen? ⟨b, 1, none⟩ = false ∧ w.frozen? ⟨b, 2, none⟩ = false ∧ w.frozen? ⟨b, 3, none⟩ = false ∧ w.frozen? ⟨b, 4, none⟩ = false ∧ w.frozen? ⟨b, 5, none⟩ = false ∧ w.frozen? ⟨b, 6, none⟩ = false ∧ w.frozen? ⟨b, 7, none⟩ = false :=
 ⟨aPs h, aPs h, aPs h, aPs h, aPs h, aPs h, aPs h, aPs h⟩
theorem yX {w w1 : World} {g b i : Nat} {v : Value} (h : w.grownBy w1 (some g)) (hb : w.heap.size ≤ b) : w.grownBy (w1.setCell ⟨b, i, none⟩ v) (some g) :=
 ⟨h.os, h.tape, h.output, Nat.le_trans h.size (by simp [World.setCell]), fun k hk bO => (heap_setCell_other _ _ _ _ (by show k ≠ b; omega)).trans (h.block k hk bO)⟩
end Go.Proofs.YthkagbnpcjidfaaGreatDoor
