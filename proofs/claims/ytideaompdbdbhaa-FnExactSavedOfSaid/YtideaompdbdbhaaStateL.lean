/- An item's state as a row of cells, read and stored whole; the fenced laws of such loads and stores. -/
import Derived.Test.YtideaompdbdbhaaStateB
import Derived.Laws.Rows
import Derived.Laws.Tables
import Derived.OwnWalkIn
namespace Go
open Go.RowKit

theorem wpListIn_load_whole {F : Fence} {n : Nat} {P : Program} {ops : Array Oper} {rest : List Oper} {o : Oper} {a : Act} {w : World} {Q : Exit → Act → World → Prop} (hgd : o.guard = none) (ty : TypeId) (x : Operand) (ho : o.op = .load ty x)
    (g : Nat) (hx : a.eval x = .pointer (some ⟨g, 0, none⟩)) (t : TypeId) (cs : Array Value) (fr : Nat × Nat) (d : TypeDesc) (hg : w.heap[g]? = some (.cells cs t fr))
    (hu : P.underlying ty = some d) (hd : (match d with | .struct _ | .array _ _ => true | _ => false) = true) (hi : (P.info? ty).map (·.size) = some cs.size)
    (h : wpListIn F n P ops Q rest (a.put o.dst (.agg cs)) w) : wpListIn F n P ops Q (o :: rest) a w := by
  refine wpListIn_plain hgd fun K hK' => ?_
  unfold Oper.wpIn
  refine ⟨?_, ?_⟩
  · simp [Oper.about, ho]
  · rw [Oper.semAt_plain F _ _ (by rw [ho]; intro c hc'; cases hc')]
    simp only [execOp, ho, hx, Instr.loadAt, Instr.sureAddr, Sem.run_bind, Sem.run_pure, Result.andThen_ok, run_loadVar_row w g t ty cs fr d hg hu hd hi]
    exact hK' _ _ h
theorem wpListIn_store_whole {F : Fence} {n : Nat} {P : Program} {ops : Array Oper} {rest : List Oper} {o : Oper} {a : Act} {w : World} {Q : Exit → Act → World → Prop} (hgd : o.guard = none) (ty : TypeId) (x y : Operand) (ho : o.op = .store ty x y)
    (g : Nat) (cells : Array Value) (hx : a.eval x = .pointer (some ⟨g, 0, none⟩)) (hy : a.eval y = .agg cells)
    (t : TypeId) (old : Array Value) (hg : w.heap[g]? = some (.cells old t (0, 0))) (hi : (P.info? ty).map (·.size) = some cells.size)
    (hold : old.size = cells.size) (h1 : cells.all (·.oneCell') = true)
    (h : wpListIn F n P ops Q rest (a.put o.dst undef) (w.setRow g cells)) : wpListIn F n P ops Q (o :: rest) a w := by
  refine wpListIn_plain hgd fun K hK' => ?_
  unfold Oper.wpIn
  refine ⟨?_, ?_⟩
  · simp [Oper.about, ho]
  · rw [Oper.semAt_plain F _ _ (by rw [ho]; intro c hc'; cases hc')]
    simp only [execOp, ho, hx, hy, Instr.storeAt, Instr.sureAddr, Sem.run_bind, Sem.run_pure, Result.andThen_ok, run_storeVar_row w g t ty old cells hg hi hold h1]
    exact hK' _ _ h
end Go
namespace Go.Proofs.Ytideaompdbdbhaa
open Go.RowKit

theorem Try.sizeSt : (Try.prog.info? 56).map (·.size) = some 17 := by kernel_rfl
theorem StV.size (s : StV) : s.cells.size = 17 := rfl
theorem StV.one (s : StV) : s.cells.all (·.oneCell') = true := by simp [StV.cells, Value.oneCell']
theorem StV.infoOf (s : StV) : (Try.prog.info? 56).map (·.size) = some s.cells.size := by rw [StV.size]; exact Try.sizeSt
def OpV.cells (o : OpV) : Array Value := #[.int .i64 o.dev, .int .i64 o.seq, .int .i64 o.stamp, .int .i64 o.kind, .string o.item, .int .i64 o.qty, .int .i64 o.level, .int .i64 o.undos]
theorem zero17 : StV.zero.cells = #[.int .i64 0, .int .i64 0, .int .i64 0, .int .i64 0, .int .i64 0, .string ⟨#[]⟩, .int .i64 0, .int .i64 0, .int .i64 0, .int .i64 0, .int .i64 0, .int .i64 0, .int .i64 0, .string ⟨#[]⟩, .int .i64 0, .int .i64 0, .int .i64 0] := rfl
theorem setRow_below {B g : Nat} {w0 w : World} {old cs : Array Value} {t : TypeId} (h : Below B w0 w) (hb : B ≤ g) (_hg : w.heap[g]? = some (.cells old t (0, 0))) : Below B w0 (w.setRow g cs) :=
  ⟨h.os, h.tape, h.output, by have e : (w.setRow g cs).heap.size = w.heap.size := by simp [World.setRow]
                              rw [e]; exact h.size, fun k hk => (setRow_other w g k cs (by omega)).trans (h.block k hk)⟩
theorem Tri.put {w w1 : World} {x y z : Array Value} {S T U : TypeId} (h : Tri w w1 x y z S T U) (i : Nat) (v : Value) : Tri w (w1.setCell ⟨w.heap.size, i, none⟩ v) (x.setIfInBounds i v) y z S T U :=
  ⟨heap_setCell_same _ _ _ _ _ _ h.fst, (heap_setCell_other _ _ _ _ (by show w.heap.size + 1 ≠ w.heap.size; omega)).trans h.snd, (heap_setCell_other _ _ _ _ (by show w.heap.size + 1 + 1 ≠ w.heap.size; omega)).trans h.res, h.bel.setCell (p := ⟨w.heap.size, i, none⟩) (Nat.le_refl _) v⟩
theorem Tri.putAt {w w1 : World} {x y z : Array Value} {S T U : TypeId} (h : Tri w w1 x y z S T U) (off : Nat) (o : OpV) : Tri w (setAt w1 w.heap.size off o) (putOp x off o) y z S T U :=
  ⟨setAt_same o h.fst, (setAt_other o (by omega)).trans h.snd, (setAt_other o (by omega)).trans h.res, setAt_below o h.bel (Nat.le_refl _)⟩
theorem put_level (s : StV) (n : Int) : s.cells.setIfInBounds 0 (.int .i64 n) = (⟨n, s.counted, s.placed⟩ : StV).cells := rfl
theorem put_cnt (s : StV) (c : OpV) : putOp s.cells 1 c = (⟨s.level, c, s.placed⟩ : StV).cells := by simp [putOp, StV.cells]
theorem put_plc (s : StV) (c : OpV) : putOp s.cells 9 c = (⟨s.level, s.counted, c⟩ : StV).cells := by simp [putOp, StV.cells]
theorem with_1 {s : StV} {o : OpV} (h : o.kind = 1) : withV s o = ⟨max s.level o.level, laterV s.counted o, laterV s.placed o⟩ := by unfold withV; rw [h]; rfl
theorem with_2 {s : StV} {o : OpV} (h : o.kind = 2) : withV s o = ⟨max s.level o.level, laterV s.counted o, s.placed⟩ := by unfold withV; rw [h]; rfl
theorem with_4 {s : StV} {o : OpV} (h : o.kind = 4 ∨ o.kind = 5) : withV s o = ⟨max s.level o.level, s.counted, laterV s.placed o⟩ := by
  unfold withV
  rcases h with h | h <;> (rw [h]; rfl)
theorem with_0 {s : StV} {o : OpV} (h1 : o.kind ≠ 1) (h2 : o.kind ≠ 2) (h4 : o.kind ≠ 4) (h5 : o.kind ≠ 5) : withV s o = ⟨max s.level o.level, s.counted, s.placed⟩ := by
  unfold withV cntB plcB
  rw [decide_eq_false (by omega), decide_eq_false (by omega)]
  rfl
theorem beq_yes {a b : Int} (h : a = b) : (a == b) = true := by rw [h]; exact beq_self_eq_true _
theorem beq_no {a b : Int} (h : a ≠ b) : (a == b) = false := by rw [beq_eq_false_iff_ne]; exact h
theorem st_at {w : World} {b : Nat} {s : StV} {T : TypeId} (h : w.heap[b]? = some (.cells s.cells T (0, 0))) : w.cell? ⟨b, 0, none⟩ = some (.int .i64 s.level) ∧ w.cell? ⟨b, 1, none⟩ = some (.int .i64 s.counted.dev) ∧ w.cell? ⟨b, 2, none⟩ = some (.int .i64 s.counted.seq) ∧ w.cell? ⟨b, 3, none⟩ = some (.int .i64 s.counted.stamp) ∧ w.cell? ⟨b, 4, none⟩ = some (.int .i64 s.counted.kind) ∧ w.cell? ⟨b, 5, none⟩ = some (.string s.counted.item) ∧ w.cell? ⟨b, 6, none⟩ = some (.int .i64 s.counted.qty) ∧ w.cell? ⟨b, 7, none⟩ = some (.int .i64 s.counted.level) ∧ w.cell? ⟨b, 8, none⟩ = some (.int .i64 s.counted.undos) ∧ w.cell? ⟨b, 9, none⟩ = some (.int .i64 s.placed.dev) ∧ w.cell? ⟨b, 10, none⟩ = some (.int .i64 s.placed.seq) ∧ w.cell? ⟨b, 11, none⟩ = some (.int .i64 s.placed.stamp) ∧ w.cell? ⟨b, 12, none⟩ = some (.int .i64 s.placed.kind) ∧ w.cell? ⟨b, 13, none⟩ = some (.string s.placed.item) ∧ w.cell? ⟨b, 14, none⟩ = some (.int .i64 s.placed.qty) ∧ w.cell? ⟨b, 15, none⟩ = some (.int .i64 s.placed.level) ∧ w.cell? ⟨b, 16, none⟩ = some (.int .i64 s.placed.undos) :=
  ⟨cell_of_row _ _ _ _ _ _ h, cell_of_row _ _ _ _ _ _ h, cell_of_row _ _ _ _ _ _ h, cell_of_row _ _ _ _ _ _ h, cell_of_row _ _ _ _ _ _ h, cell_of_row _ _ _ _ _ _ h, cell_of_row _ _ _ _ _ _ h, cell_of_row _ _ _ _ _ _ h, cell_of_row _ _ _ _ _ _ h, cell_of_row _ _ _ _ _ _ h, cell_of_row _ _ _ _ _ _ h, cell_of_row _ _ _ _ _ _ h, cell_of_row _ _ _ _ _ _ h, cell_of_row _ _ _ _ _ _ h, cell_of_row _ _ _ _ _ _ h, cell_of_row _ _ _ _ _ _ h, cell_of_row _ _ _ _ _ _ h⟩
theorem op_at {w : World} {b : Nat} {o : OpV} {T : TypeId} (h : w.heap[b]? = some (.cells o.cells T (0, 0))) : w.cell? ⟨b, 0, none⟩ = some (.int .i64 o.dev) ∧ w.cell? ⟨b, 1, none⟩ = some (.int .i64 o.seq) ∧ w.cell? ⟨b, 2, none⟩ = some (.int .i64 o.stamp) ∧ w.cell? ⟨b, 3, none⟩ = some (.int .i64 o.kind) ∧ w.cell? ⟨b, 4, none⟩ = some (.string o.item) ∧ w.cell? ⟨b, 5, none⟩ = some (.int .i64 o.qty) ∧ w.cell? ⟨b, 6, none⟩ = some (.int .i64 o.level) ∧ w.cell? ⟨b, 7, none⟩ = some (.int .i64 o.undos) :=
  ⟨cell_of_row _ _ _ _ _ _ h, cell_of_row _ _ _ _ _ _ h, cell_of_row _ _ _ _ _ _ h, cell_of_row _ _ _ _ _ _ h, cell_of_row _ _ _ _ _ _ h, cell_of_row _ _ _ _ _ _ h, cell_of_row _ _ _ _ _ _ h, cell_of_row _ _ _ _ _ _ h⟩
end Go.Proofs.Ytideaompdbdbhaa
