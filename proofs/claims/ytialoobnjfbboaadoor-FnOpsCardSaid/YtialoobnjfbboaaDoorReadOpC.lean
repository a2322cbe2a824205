/- The walk of impl.ReadOp, with its deferred closure. -/
import Derived.Test.YtialoobnjfbboaaDoorSpecReadB
import Derived.Test.YtialoobnjfbboaaDoorTextReadW
import Derived.Deep.Cut
import Derived.BigRegion
namespace Go.Proofs.YtialoobnjfbboaaDoor
open Go.RowKit

set_option maxRecDepth 100000 in
set_option maxHeartbeats 1000000 in
theorem catchOp (w : World) (a b c : Nat) (x0 x1 x2 x3 x4 x5 x6 x7 y z : Value) (u : TypeId) (pv : Value) (older : List PanicEntry) (hab : a ≠ b) (hac : a ≠ c) (hbc : b ≠ c)
    (h1 : w.heap[a]? = some (.cells #[x0, x1, x2, x3, x4, x5, x6, x7] 25 (0, 0))) (h2 : w.cell? ⟨b, 0, none⟩ = some y) (h3 : w.cell? ⟨c, 0, none⟩ = some z) (f2 : w.frozen? ⟨b, 0, none⟩ = false) (f3 : w.frozen? ⟨c, 0, none⟩ = false) :
    CallsD Tryd.prog 22 #[.pointer (some ⟨a, 0, none⟩), .pointer (some ⟨b, 0, none⟩), .pointer (some ⟨c, 0, none⟩)] (.panicking ({ v := .iface u pv, recovered := false } :: older)) w fun e u' w' =>
      e = .returned (.tuple #[]) ∧ u' = .panicking ({ v := .iface u pv, recovered := true } :: older) ∧ w' = (((((((((w.setCell ⟨a, 0, none⟩ (.int .i64 0)).setCell ⟨a, 1, none⟩ (.int .i64 0)).setCell ⟨a, 2, none⟩ (.int .i64 0)).setCell ⟨a, 3, none⟩ (.int .i64 0)).setCell ⟨a, 4, none⟩ (.string ⟨#[]⟩)).setCell ⟨a, 5, none⟩ (.int .i64 0)).setCell ⟨a, 6, none⟩ (.int .i64 0)).setCell ⟨a, 7, none⟩ (.int .i64 0)).setCell ⟨b, 0, none⟩ (.int .i64 0)).setCell ⟨c, 0, none⟩ (.bool false) := by
  have c2 : (((((((((w.setCell ⟨a, 0, none⟩ (.int .i64 0)).setCell ⟨a, 1, none⟩ (.int .i64 0)).setCell ⟨a, 2, none⟩ (.int .i64 0)).setCell ⟨a, 3, none⟩ (.int .i64 0)).setCell ⟨a, 4, none⟩ (.string ⟨#[]⟩)).setCell ⟨a, 5, none⟩ (.int .i64 0)).setCell ⟨a, 6, none⟩ (.int .i64 0)).setCell ⟨a, 7, none⟩ (.int .i64 0))).cell? ⟨b, 0, none⟩ = some y := (World.cell?_of_block (a := ⟨b, 0, none⟩) (setOpR_other (w := w) (b := a) (.int .i64 0) (.int .i64 0) (.int .i64 0) (.int .i64 0) (.string ⟨#[]⟩) (.int .i64 0) (.int .i64 0) (.int .i64 0) (Ne.symm hab))).trans h2
  have c3 : ((((((((((w.setCell ⟨a, 0, none⟩ (.int .i64 0)).setCell ⟨a, 1, none⟩ (.int .i64 0)).setCell ⟨a, 2, none⟩ (.int .i64 0)).setCell ⟨a, 3, none⟩ (.int .i64 0)).setCell ⟨a, 4, none⟩ (.string ⟨#[]⟩)).setCell ⟨a, 5, none⟩ (.int .i64 0)).setCell ⟨a, 6, none⟩ (.int .i64 0)).setCell ⟨a, 7, none⟩ (.int .i64 0))).setCell ⟨b, 0, none⟩ (.int .i64 0)).cell? ⟨c, 0, none⟩ = some z := by rw [World.cell?_setCell_other _ _ _ _ (addr_ne hbc)]; exact (World.cell?_of_block (a := ⟨c, 0, none⟩) (setOpR_other (w := w) (b := a) (.int .i64 0) (.int .i64 0) (.int .i64 0) (.int .i64 0) (.string ⟨#[]⟩) (.int .i64 0) (.int .i64 0) (.int .i64 0) (Ne.symm hac))).trans h3
  obtain ⟨e0, e1, e2, e3, e4, e5, e6, e7⟩ := op_cellsR h1
  obtain ⟨f0, g1, g2, g3, g4, g5, g6, g7⟩ := op_frozenR h1
  refine callsD_of_wpS Tryd.func22 rfl fun c₀ cs hu => ?_
  apply wpS_seq
  apply wpS_region
  simp [wpOpsS, go_sem, recoverD, hu, Tryd.ntmps22, Exit.thenS]
  refine wpS_cond (t := true) (by simp [Act.eval, Array.replicate]) ?_
  simp only [if_true]
  apply wpS_region
  simp [wpOpsS, go_sem, e0, e1, e2, e3, e4, e5, e6, e7, f0, g1, g2, g3, g4, g5, g6, g7, c2, c3, f2, f3, bodyPostS, results, Tryd.results22]
theorem idleOp (w : World) (a b c : Nat) :
    CallsD Tryd.prog 22 #[.pointer (some ⟨a, 0, none⟩), .pointer (some ⟨b, 0, none⟩), .pointer (some ⟨c, 0, none⟩)] .returning w fun e u' w' => e = .returned (.tuple #[]) ∧ u' = .returning ∧ w' = w := by
  refine callsD_of_wpS Tryd.func22 rfl fun c₀ cs hu => ?_
  apply wpS_seq
  apply wpS_region
  simp [wpOpsS, go_sem, recoverD, hu, Tryd.ntmps22, Exit.thenS]
  refine wpS_cond (t := false) (by simp [Act.eval, Array.replicate]) ?_
  simp only [Bool.false_eq_true, if_false]
  refine wpS_of_wp (wp_skip ?_)
  cases c₀
  simp_all [bodyPostS, results, Tryd.results22]
end Go.Proofs.YtialoobnjfbboaaDoor
