/- Walks and mathematics that several claims share, part 33. -/
import Derived.Test.YtjokbaaommicmaaGreatDoorGb30
import Derived.Laws.Rows
import Derived.Laws.Tables
import Derived.OwnWalkIn
import Derived.Deep.Cut
import Derived.Lib.MinMax
import Derived.Test.YtjokbaaommicmaaGreatDoorGbA
namespace Go
open Go.RowKit

theorem wpListIn_load_whole {F : Fence} {n : Nat} {P : Program} {ops : Array Oper} {rest : List Oper} {o : Oper} {a : Act} {w : World} {Q : Exit → Act → World → Prop} (hgd : o.guard = none) (ty : TypeId) (x : Operand) (ho : o.op = .load ty x)
  (g : Nat) (hx : a.eval x = .pointer (some ⟨g, 0, none⟩)) (t : TypeId) (cs : Array Value) (fr : Nat × Nat) (d : TypeDesc) (hg : w.heap[g]? = some (.cells cs t fr))
  (hu : P.underlying ty = some d) (hd : (match d with | .struct _ | .array _ _ => true | _ => false) = true) (hi : (P.info? ty).map (·.size) = some cs.size)
  (h : wpListIn F n P ops Q rest (a.put o.dst (.agg cs)) w) : wpListIn F n P ops Q (o :: rest) a w := by
 refine wpListIn_plain hgd fun K hK' => ?_
 unfold Oper.wpIn
 refine ⟨?_, ?_⟩
 ·simp [Oper.about, ho]
 ·rw [Oper.semAt_plain F _ _ (by rw [ho]; intro c hc'; cases hc')]
  simp only [execOp, ho, hx, Instr.loadAt, Instr.sureAddr, Sem.run_bind, Sem.run_pure, Result.andThen_ok, run_loadVar_row w g t ty cs fr d hg hu hd hi]
  exact hK' _ _ h
theorem wpListIn_store_whole {F : Fence} {n : Nat} {P : Program} {ops : Array Oper} {rest : List Oper} {o : Oper} {a : Act} {w : World} {Q : Exit → Act → World → Prop} (hgd : o.guard = none) (ty : TypeId) (x y : Operand) (ho : o.op = .store ty x y)
  (g : Nat) (cells : Array Value) (hx : a.eval x = .pointer (some ⟨g, 0, none⟩)) (hy : a.eval y = .agg cells)
  (t : TypeId) (old : Array Value) (hg : w.heap[g]? = some (.cells old t (0, 0))) (hi : (P.info? ty).map (·.size) = some cells.size)
  (hold : old.size = cells.size) (h1 : cells.all (·.oneCell') = true)
  (h : wpListIn F n P ops Q rest (a.put o.dst undef) (w.setRow g cells)) : wpListIn F n P ops Q (o :: rest) a w := by
 refine wpListIn_plain hgd fun K hK' => ?_
 unfold Oper.wpIn
 refine ⟨?_, ?_⟩
 ·simp [Oper.about, ho]
 ·rw [Oper.semAt_plain F _ _ (by rw [ho]; intro c hc'; cases hc')]
  simp only [execOp, ho, hx, hy, Instr.storeAt, Instr.sureAddr, Sem.run_bind, Sem.run_pure, Result.andThen_ok, run_storeVar_row w g t ty old cells hg hi hold h1]
  exact hK' _ _ h
end Go
namespace Go.Proofs.YtjokbaaommicmaaGreatDoor
set_option maxRecDepth 100000
open Go.RowKit

theorem Tryz.sizeSt : (Tryz.prog.info? 199).map (·.size) = some 17 := by kernel_rfl
theorem StV.size (s : StV) : s.cells.size = 17 := rfl
theorem StV.one (s : StV) : s.cells.all (·.oneCell') = true := by simp [StV.cells, Value.oneCell']
theorem StV.infoOf (s : StV) : (Tryz.prog.info? 199).map (·.size) = some s.cells.size := by rw [StV.size]; exact Tryz.sizeSt
def OpV.cells (o : OpV) : Array Value := #[.int .i64 o.dev, .int .i64 o.seq, .int .i64 o.stamp, .int .i64 o.kind, .string o.item, .int .i64 o.qty, .int .i64 o.level, .int .i64 o.undos]
theorem zero17 : StV.zero.cells = #[.int .i64 0, .int .i64 0, .int .i64 0, .int .i64 0, .int .i64 0, .string ⟨#[]⟩, .int .i64 0, .int .i64 0, .int .i64 0, .int .i64 0, .int .i64 0, .int .i64 0, .int .i64 0, .string ⟨#[]⟩, .int .i64 0, .int .i64 0, .int .i64 0] := rfl
theorem setRow_below {B g : Nat} {w0 w : World} {old cs : Array Value} {t : TypeId} (h : Below B w0 w) (hb : B ≤ g) (_hg : w.heap[g]? = some (.cells old t (0, 0))) : Below B w0 (w.setRow g cs) :=
 ⟨h.os, h.tape, h.output, by have e : (w.setRow g cs).heap.size = w.heap.size := by simp [World.setRow]
                             rw [e]; exact h.size, fun k hk => (setRow_other w g k cs (by omega)).trans (h.block k hk)⟩
theorem Tri.put {w w1 : World} {x y z : Array Value} {S T U : TypeId} (h : Tri w w1 x y z S T U) (i : Nat) (v : Value) : Tri w (w1.setCell ⟨w.heap.size, i, none⟩ v) (x.setIfInBounds i v) y z S T U :=
 ⟨heap_setCell_same _ _ _ _ _ _ h.fst, (heap_setCell_other _ _ _ _ (by show w.heap.size + 1 ≠ w.heap.size; omega)).trans h.snd, (heap_setCell_other _ _ _ _ (by show w.heap.size + 1 + 1 ≠ w.heap.size; omega)).trans h.res, h.bel.setCell (p := ⟨w.heap.size, i, none⟩) (Nat.le_refl _) v⟩
theorem Tri.putAt {w w1 : World} {x y z : Array Value} {S T U : TypeId} (h : Tri w w1 x y z S T U) (off : Nat) (o : OpV) : Tri w (setAt w1 w.heap.size off o) (putOp x off o) y z S T U :=
 ⟨setAt_same o h.fst, (setAt_other o (by omega)).trans h.snd, (setAt_other o (by omega)).trans h.res, setAt_below o h.bel (Nat.le_refl _)⟩
theorem put_cnt (s : StV) (c : OpV) : putOp s.cells 1 c = (⟨s.level, c, s.placed⟩ : StV).cells := by simp [putOp, StV.cells]
theorem put_plc (s : StV) (c : OpV) : putOp s.cells 9 c = (⟨s.level, s.counted, c⟩ : StV).cells := by simp [putOp, StV.cells]
theorem with_1 {s : StV} {o : OpV} (h : o.kind = 1) : withV s o = ⟨max s.level o.level, laterV s.counted o, laterV s.placed o⟩ := by unfold withV; rw [h]; rfl
theorem with_2 {s : StV} {o : OpV} (h : o.kind = 2) : withV s o = ⟨max s.level o.level, laterV s.counted o, s.placed⟩ := by unfold withV; rw [h]; rfl
theorem with_4 {s : StV} {o : OpV} (h : o.kind = 4 ∨ o.kind = 5) : withV s o = ⟨max s.level o.level, s.counted, laterV s.placed o⟩ := by
 unfold withV
 rcases h with h | h <;> (rw [h]; rfl)
theorem with_0 {s : StV} {o : OpV} (h1 : o.kind ≠ 1) (h2 : o.kind ≠ 2) (h4 : o.kind ≠ 4) (h5 : o.kind ≠ 5) : withV s o = ⟨max s.level o.level, s.counted, s.placed⟩ := by
 unfold withV cntB plcB
 rw [decide_eq_false (by omega), decide_eq_false (by omega)]
 rfl
theorem beq_yes {a b : Int} (h : a = b) : (a == b) = true := by rw [h]; exact beq_self_eq_true _
theorem beq_no {a b : Int} (h : a ≠ b) : (a == b) = false := by rw [beq_eq_false_iff_ne]; exact h
theorem st_at {w : World} {b : Nat} {s : StV} {T : TypeId} (h : w.heap[b]? = some (.cells s.cells T (0, 0))) : w.cell? ⟨b, 0, none⟩ = some (.int .i64 s.level) ∧ w.cell? ⟨b, 1, none⟩ = some (.int .i64 s.counted.dev) ∧ w.cell? ⟨b, 2, none⟩ = some (.int .i64 s.counted.seq) ∧ w.cell? ⟨b, 3, none⟩ = some (.int .i64 s.counted.stamp) ∧ w.cell? ⟨b, 4, none⟩ = some (.int .i64 s.counted.kind) ∧ w.cell? ⟨b, 5, none⟩ = some (.string s.counted.item) ∧ w.cell? ⟨b, 6, none⟩ = some (.int .i64 s.counted.qty) ∧ w.cell? ⟨b, 7, none⟩ = some (.int .i64 s.counted.level) ∧ w.cell? ⟨b, 8, none⟩ = some (.int .i64 s.counted.undos) ∧ w.cell? ⟨b, 9, none⟩ = some (.int .i64 s.placed.dev) ∧ w.cell? ⟨b, 10, none⟩ = some (.int .i64 s.placed.seq) ∧ w.cell? ⟨b, 11, none⟩ = some (.int .i64 s.placed.stamp) ∧ w.cell? ⟨b, 12, none⟩ = some (.int .i64 s.placed.kind) ∧ w.cell? ⟨b, 13, none⟩ = some (.string s.placed.item) ∧ w.cell? ⟨b, 14, none⟩ = some (.int .i64 s.placed.qty) ∧ w.cell? ⟨b, 15, none⟩ = some (.int .i64 s.placed.level) ∧ w.cell? ⟨b, 16, none⟩ = some (.int .i64 s.placed.undos) :=
 ⟨cell_of_row _ _ _ _ _ _ h, cell_of_row _ _ _ _ _ _ h, cell_of_row _ _ _ _ _ _ h, cell_of_row _ _ _ _ _ _ h, cell_of_row _ _ _ _ _ _ h, cell_of_row _ _ _ _ _ _ h, cell_of_row _ _ _ _ _ _ h, cell_of_row _ _ _ _ _ _ h, cell_of_row _ _ _ _ _ _ h, cell_of_row _ _ _ _ _ _ h, cell_of_row _ _ _ _ _ _ h, cell_of_row _ _ _ _ _ _ h, cell_of_row _ _ _ _ _ _ h, cell_of_row _ _ _ _ _ _ h, cell_of_row _ _ _ _ _ _ h, cell_of_row _ _ _ _ _ _ h, cell_of_row _ _ _ _ _ _ h⟩
theorem op_at {w : World} {b : Nat} {o : OpV} {T : TypeId} (h : w.heap[b]? = some (.cells o.cells T (0, 0))) : w.cell? ⟨b, 0, none⟩ = some (.int .i64 o.dev) ∧ w.cell? ⟨b, 1, none⟩ = some (.int .i64 o.seq) ∧ w.cell? ⟨b, 2, none⟩ = some (.int .i64 o.stamp) ∧ w.cell? ⟨b, 3, none⟩ = some (.int .i64 o.kind) ∧ w.cell? ⟨b, 4, none⟩ = some (.string o.item) ∧ w.cell? ⟨b, 5, none⟩ = some (.int .i64 o.qty) ∧ w.cell? ⟨b, 6, none⟩ = some (.int .i64 o.level) ∧ w.cell? ⟨b, 7, none⟩ = some (.int .i64 o.undos) :=
 ⟨cell_of_row _ _ _ _ _ _ h, cell_of_row _ _ _ _ _ _ h, cell_of_row _ _ _ _ _ _ h, cell_of_row _ _ _ _ _ _ h, cell_of_row _ _ _ _ _ _ h, cell_of_row _ _ _ _ _ _ h, cell_of_row _ _ _ _ _ _ h, cell_of_row _ _ _ _ _ _ h⟩
set_option maxHeartbeats 20000000 in
theorem withW1 (s : StV) (o : OpV) (w : World) (h1 : o.kind = 1) : Calls Tryz.prog 139 #[.agg s.cells, .agg o.cells] w fun e w' => e = .returned (withV s o).val ∧ Below w.heap.size w w' := by
 have H := Lib.hid (Tri.mk0 w s.cells o.cells #[.int .i64 0, .int .i64 0, .int .i64 0, .int .i64 0, .int .i64 0, .string ⟨#[]⟩, .int .i64 0, .int .i64 0, .int .i64 0, .int .i64 0, .int .i64 0, .int .i64 0, .int .i64 0, .string ⟨#[]⟩, .int .i64 0, .int .i64 0, .int .i64 0] 199 93 199)
 have HE := Lib.hid (with_1 (s := s) h1)
 have b1 := beq_yes h1
 clear h1
 go_enter Tryz.func139, Tryz.ntmps139
 go_upto_region 1 with fail
 generalize ((w.alloc (.cells s.cells 199)).alloc (.cells o.cells 93)).alloc (.cells #[.int .i64 0, .int .i64 0, .int .i64 0, .int .i64 0, .int .i64 0, .string ⟨#[]⟩, .int .i64 0, .int .i64 0, .int .i64 0, .int .i64 0, .int .i64 0, .int .i64 0, .int .i64 0, .string ⟨#[]⟩, .int .i64 0, .int .i64 0, .int .i64 0] 199) = w0 at H ⊢
 have cl := (st_at H.out.fst).1
 have fl := (st_frozen H.out.fst).1
 obtain ⟨_, _, _, o3, _, _, o6, _⟩ := op_at H.out.snd
 clear o3
 go_upto_region 2 with fail
 have H1 : Hid (Tri w (w0.setCell ⟨w.heap.size, 0, none⟩ (.int .i64 (max s.level o.level))) (⟨max s.level o.level, s.counted, s.placed⟩ : StV).cells o.cells #[.int .i64 0, .int .i64 0, .int .i64 0, .int .i64 0, .int .i64 0, .string ⟨#[]⟩, .int .i64 0, .int .i64 0, .int .i64 0, .int .i64 0, .int .i64 0, .int .i64 0, .int .i64 0, .string ⟨#[]⟩, .int .i64 0, .int .i64 0, .int .i64 0] 199 93 199) := H.out.put 0 (.int .i64 (max s.level o.level))
 generalize w0.setCell ⟨w.heap.size, 0, none⟩ (.int .i64 (max s.level o.level)) = w1 at H1 ⊢
 generalize max s.level o.level = ml at HE H1 ⊢
 clear cl fl o6 H
 generalize s.counted = cn at HE H1 ⊢
 generalize s.placed = pl at HE H1 ⊢
 obtain ⟨o0, o1, o2, o3, o4, o5, o6, o7⟩ := op_at H1.out.snd
 obtain ⟨_, c0, c1, c2, c3, c4, c5, c6, c7, _, _, _, _, _, _, _, _⟩ := st_at H1.out.fst
 go_wp2_with fail
 refine (laterW cn o w1).mono ?_
 rintro e u1 ⟨rfl, hb⟩
 have K0 := Lib.hid (H1.out.next hb)
 clear hb H1 c0 c1 c2 c3 c4 c5 c6 c7 o0 o1 o2 o3 o4 o5 o6 o7
 generalize laterV cn o = n1 at HE ⊢
 simp only [OpV.val]
 obtain ⟨_, c0, c1, c2, c3, c4, c5, c6, c7, _, _, _, _, _, _, _, _⟩ := st_at K0.out.fst
 obtain ⟨_, f0, f1, f2, f3, f4, f5, f6, f7, _, _, _, _, _, _, _, _⟩ := st_frozen K0.out.fst
 obtain ⟨o0, o1, o2, o3, o4, o5, o6, o7⟩ := op_at K0.out.snd
 go_upto_region 5 with fail
 have J0 : Hid (Tri w ((((((((u1.setCell ⟨w.heap.size, 1, none⟩ (.int .i64 n1.dev)).setCell ⟨w.heap.size, 2, none⟩ (.int .i64 n1.seq)).setCell ⟨w.heap.size, 3, none⟩ (.int .i64 n1.stamp)).setCell ⟨w.heap.size, 4, none⟩ (.int .i64 n1.kind)).setCell ⟨w.heap.size, 5, none⟩ (.string n1.item)).setCell ⟨w.heap.size, 6, none⟩ (.int .i64 n1.qty)).setCell ⟨w.heap.size, 7, none⟩ (.int .i64 n1.level)).setCell ⟨w.heap.size, 8, none⟩ (.int .i64 n1.undos)) (⟨ml, n1, pl⟩ : StV).cells o.cells #[.int .i64 0, .int .i64 0, .int .i64 0, .int .i64 0, .int .i64 0, .string ⟨#[]⟩, .int .i64 0, .int .i64 0, .int .i64 0, .int .i64 0, .int .i64 0, .int .i64 0, .int .i64 0, .string ⟨#[]⟩, .int .i64 0, .int .i64 0, .int .i64 0] 199 93 199) := by have h := K0.out.putAt 1 n1; rw [put_cnt] at h; exact h
 generalize ((((((((u1.setCell ⟨w.heap.size, 1, none⟩ (.int .i64 n1.dev)).setCell ⟨w.heap.size, 2, none⟩ (.int .i64 n1.seq)).setCell ⟨w.heap.size, 3, none⟩ (.int .i64 n1.stamp)).setCell ⟨w.heap.size, 4, none⟩ (.int .i64 n1.kind)).setCell ⟨w.heap.size, 5, none⟩ (.string n1.item)).setCell ⟨w.heap.size, 6, none⟩ (.int .i64 n1.qty)).setCell ⟨w.heap.size, 7, none⟩ (.int .i64 n1.level)).setCell ⟨w.heap.size, 8, none⟩ (.int .i64 n1.undos)) = x1 at J0 ⊢
 clear K0 c0 c1 c2 c3 c4 c5 c6 c7 f0 f1 f2 f3 f4 f5 f6 f7 o0 o1 o2 o3 o4 o5 o6 o7
 obtain ⟨o0, o1, o2, o3, o4, o5, o6, o7⟩ := op_at J0.out.snd
 obtain ⟨_, _, _, _, _, _, _, _, _, c0, c1, c2, c3, c4, c5, c6, c7⟩ := st_at J0.out.fst
 go_wp2_with fail
 refine (laterW pl o x1).mono ?_
 rintro e u2 ⟨rfl, hb⟩
 have K1 := Lib.hid (J0.out.next hb)
 clear hb J0 c0 c1 c2 c3 c4 c5 c6 c7 o0 o1 o2 o3 o4 o5 o6 o7
 generalize laterV pl o = n2 at HE ⊢
 simp only [OpV.val]
 obtain ⟨_, _, _, _, _, _, _, _, _, c0, c1, c2, c3, c4, c5, c6, c7⟩ := st_at K1.out.fst
 obtain ⟨_, _, _, _, _, _, _, _, _, f0, f1, f2, f3, f4, f5, f6, f7⟩ := st_frozen K1.out.fst
 obtain ⟨o0, o1, o2, o3, o4, o5, o6, o7⟩ := op_at K1.out.snd
 go_upto_region 11 with fail
 have J1 : Hid (Tri w ((((((((u2.setCell ⟨w.heap.size, 9, none⟩ (.int .i64 n2.dev)).setCell ⟨w.heap.size, 10, none⟩ (.int .i64 n2.seq)).setCell ⟨w.heap.size, 11, none⟩ (.int .i64 n2.stamp)).setCell ⟨w.heap.size, 12, none⟩ (.int .i64 n2.kind)).setCell ⟨w.heap.size, 13, none⟩ (.string n2.item)).setCell ⟨w.heap.size, 14, none⟩ (.int .i64 n2.qty)).setCell ⟨w.heap.size, 15, none⟩ (.int .i64 n2.level)).setCell ⟨w.heap.size, 16, none⟩ (.int .i64 n2.undos)) (⟨ml, n1, n2⟩ : StV).cells o.cells #[.int .i64 0, .int .i64 0, .int .i64 0, .int .i64 0, .int .i64 0, .string ⟨#[]⟩, .int .i64 0, .int .i64 0, .int .i64 0, .int .i64 0, .int .i64 0, .int .i64 0, .int .i64 0, .string ⟨#[]⟩, .int .i64 0, .int .i64 0, .int .i64 0] 199 93 199) := by have h := K1.out.putAt 9 n2; rw [put_plc] at h; exact h
 generalize ((((((((u2.setCell ⟨w.heap.size, 9, none⟩ (.int .i64 n2.dev)).setCell ⟨w.heap.size, 10, none⟩ (.int .i64 n2.seq)).setCell ⟨w.heap.size, 11, none⟩ (.int .i64 n2.stamp)).setCell ⟨w.heap.size, 12, none⟩ (.int .i64 n2.kind)).setCell ⟨w.heap.size, 13, none⟩ (.string n2.item)).setCell ⟨w.heap.size, 14, none⟩ (.int .i64 n2.qty)).setCell ⟨w.heap.size, 15, none⟩ (.int .i64 n2.level)).setCell ⟨w.heap.size, 16, none⟩ (.int .i64 n2.undos)) = x2 at J1 ⊢
 clear K1 c0 c1 c2 c3 c4 c5 c6 c7 f0 f1 f2 f3 f4 f5 f6 f7 o0 o1 o2 o3 o4 o5 o6 o7
 generalize hs : (⟨ml, n1, n2⟩ : StV) = s3 at J1
 have HS := Lib.hid hs
 clear hs
 go_wp2_with (first | (refine wpList_load_row rfl 199 (.tmp 2) rfl w.heap.size rfl 199 s3.cells (0, 0) _ J1.out.fst Tryz.underlying199 rfl s3.infoOf ?_) | (refine wpList_store_row rfl 199 (.tmp 4) (.tmp 40) rfl (w.heap.size + 1 + 1) s3.cells rfl rfl 199 #[.int .i64 0, .int .i64 0, .int .i64 0, .int .i64 0, .int .i64 0, .string ⟨#[]⟩, .int .i64 0, .int .i64 0, .int .i64 0, .int .i64 0, .int .i64 0, .int .i64 0, .int .i64 0, .string ⟨#[]⟩, .int .i64 0, .int .i64 0, .int .i64 0] J1.out.res s3.infoOf (by rw [StV.size]; rfl) s3.one ?_))
 have HX := setRow_heap x2 (w.heap.size + 1 + 1) #[.int .i64 0, .int .i64 0, .int .i64 0, .int .i64 0, .int .i64 0, .string ⟨#[]⟩, .int .i64 0, .int .i64 0, .int .i64 0, .int .i64 0, .int .i64 0, .int .i64 0, .int .i64 0, .string ⟨#[]⟩, .int .i64 0, .int .i64 0, .int .i64 0] s3.cells 199 (0, 0) J1.out.res
 exact bodyPost_ret (results_cell_row rfl _ _ _ _ _ _ _ rfl HX Tryz.underlying199 rfl s3.infoOf) rfl ⟨by rw [HE.out, HS.out]; rfl, setRow_below J1.out.bel (by omega) J1.out.res⟩
set_option maxHeartbeats 20000000 in
theorem withW2 (s : StV) (o : OpV) (w : World) (h2 : o.kind = 2) : Calls Tryz.prog 139 #[.agg s.cells, .agg o.cells] w fun e w' => e = .returned (withV s o).val ∧ Below w.heap.size w w' := by
 have H := Lib.hid (Tri.mk0 w s.cells o.cells #[.int .i64 0, .int .i64 0, .int .i64 0, .int .i64 0, .int .i64 0, .string ⟨#[]⟩, .int .i64 0, .int .i64 0, .int .i64 0, .int .i64 0, .int .i64 0, .int .i64 0, .int .i64 0, .string ⟨#[]⟩, .int .i64 0, .int .i64 0, .int .i64 0] 199 93 199)
 have HE := Lib.hid (with_2 (s := s) h2)
 have b1 : (o.kind == 1) = false := beq_no (by omega)
 have b2 := beq_yes h2
 clear h2
 go_enter Tryz.func139, Tryz.ntmps139
 go_upto_region 1 with fail
 generalize ((w.alloc (.cells s.cells 199)).alloc (.cells o.cells 93)).alloc (.cells #[.int .i64 0, .int .i64 0, .int .i64 0, .int .i64 0, .int .i64 0, .string ⟨#[]⟩, .int .i64 0, .int .i64 0, .int .i64 0, .int .i64 0, .int .i64 0, .int .i64 0, .int .i64 0, .string ⟨#[]⟩, .int .i64 0, .int .i64 0, .int .i64 0] 199) = w0 at H ⊢
 have cl := (st_at H.out.fst).1
 have fl := (st_frozen H.out.fst).1
 obtain ⟨_, _, _, o3, _, _, o6, _⟩ := op_at H.out.snd
 clear o3
 go_upto_region 2 with fail
 have H1 : Hid (Tri w (w0.setCell ⟨w.heap.size, 0, none⟩ (.int .i64 (max s.level o.level))) (⟨max s.level o.level, s.counted, s.placed⟩ : StV).cells o.cells #[.int .i64 0, .int .i64 0, .int .i64 0, .int .i64 0, .int .i64 0, .string ⟨#[]⟩, .int .i64 0, .int .i64 0, .int .i64 0, .int .i64 0, .int .i64 0, .int .i64 0, .int .i64 0, .string ⟨#[]⟩, .int .i64 0, .int .i64 0, .int .i64 0] 199 93 199) := H.out.put 0 (.int .i64 (max s.level o.level))
 generalize w0.setCell ⟨w.heap.size, 0, none⟩ (.int .i64 (max s.level o.level)) = w1 at H1 ⊢
 generalize max s.level o.level = ml at HE H1 ⊢
 clear cl fl o6 H
 generalize s.counted = cn at HE H1 ⊢
 generalize s.placed = pl at HE H1 ⊢
 obtain ⟨o0, o1, o2, o3, o4, o5, o6, o7⟩ := op_at H1.out.snd
 obtain ⟨_, c0, c1, c2, c3, c4, c5, c6, c7, _, _, _, _, _, _, _, _⟩ := st_at H1.out.fst
 go_wp2_with fail
 refine (laterW cn o w1).mono ?_
 rintro e u1 ⟨rfl, hb⟩
 have K0 := Lib.hid (H1.out.next hb)
 clear hb H1 c0 c1 c2 c3 c4 c5 c6 c7 o0 o1 o2 o3 o4 o5 o6 o7
 generalize laterV cn o = n1 at HE ⊢
 simp only [OpV.val]
 obtain ⟨_, c0, c1, c2, c3, c4, c5, c6, c7, _, _, _, _, _, _, _, _⟩ := st_at K0.out.fst
 obtain ⟨_, f0, f1, f2, f3, f4, f5, f6, f7, _, _, _, _, _, _, _, _⟩ := st_frozen K0.out.fst
 obtain ⟨o0, o1, o2, o3, o4, o5, o6, o7⟩ := op_at K0.out.snd
 go_upto_region 11 with fail
 have J0 : Hid (Tri w ((((((((u1.setCell ⟨w.heap.size, 1, none⟩ (.int .i64 n1.dev)).setCell ⟨w.heap.size, 2, none⟩ (.int .i64 n1.seq)).setCell ⟨w.heap.size, 3, none⟩ (.int .i64 n1.stamp)).setCell ⟨w.heap.size, 4, none⟩ (.int .i64 n1.kind)).setCell ⟨w.heap.size, 5, none⟩ (.string n1.item)).setCell ⟨w.heap.size, 6, none⟩ (.int .i64 n1.qty)).setCell ⟨w.heap.size, 7, none⟩ (.int .i64 n1.level)).setCell ⟨w.heap.size, 8, none⟩ (.int .i64 n1.undos)) (⟨ml, n1, pl⟩ : StV).cells o.cells #[.int .i64 0, .int .i64 0, .int .i64 0, .int .i64 0, .int .i64 0, .string ⟨#[]⟩, .int .i64 0, .int .i64 0, .int .i64 0, .int .i64 0, .int .i64 0, .int .i64 0, .int .i64 0, .string ⟨#[]⟩, .int .i64 0, .int .i64 0, .int .i64 0] 199 93 199) := by have h := K0.out.putAt 1 n1; rw [put_cnt] at h; exact h
 generalize ((((((((u1.setCell ⟨w.heap.size, 1, none⟩ (.int .i64 n1.dev)).setCell ⟨w.heap.size, 2, none⟩ (.int .i64 n1.seq)).setCell ⟨w.heap.size, 3, none⟩ (.int .i64 n1.stamp)).setCell ⟨w.heap.size, 4, none⟩ (.int .i64 n1.kind)).setCell ⟨w.heap.size, 5, none⟩ (.string n1.item)).setCell ⟨w.heap.size, 6, none⟩ (.int .i64 n1.qty)).setCell ⟨w.heap.size, 7, none⟩ (.int .i64 n1.level)).setCell ⟨w.heap.size, 8, none⟩ (.int .i64 n1.undos)) = x1 at J0 ⊢
 clear K0 c0 c1 c2 c3 c4 c5 c6 c7 f0 f1 f2 f3 f4 f5 f6 f7 o0 o1 o2 o3 o4 o5 o6 o7
 generalize hs : (⟨ml, n1, pl⟩ : StV) = s3 at J0
 have HS := Lib.hid hs
 clear hs
 go_wp2_with (first | (refine wpList_load_row rfl 199 (.tmp 2) rfl w.heap.size rfl 199 s3.cells (0, 0) _ J0.out.fst Tryz.underlying199 rfl s3.infoOf ?_) | (refine wpList_store_row rfl 199 (.tmp 4) (.tmp 40) rfl (w.heap.size + 1 + 1) s3.cells rfl rfl 199 #[.int .i64 0, .int .i64 0, .int .i64 0, .int .i64 0, .int .i64 0, .string ⟨#[]⟩, .int .i64 0, .int .i64 0, .int .i64 0, .int .i64 0, .int .i64 0, .int .i64 0, .int .i64 0, .string ⟨#[]⟩, .int .i64 0, .int .i64 0, .int .i64 0] J0.out.res s3.infoOf (by rw [StV.size]; rfl) s3.one ?_))
 have HX := setRow_heap x1 (w.heap.size + 1 + 1) #[.int .i64 0, .int .i64 0, .int .i64 0, .int .i64 0, .int .i64 0, .string ⟨#[]⟩, .int .i64 0, .int .i64 0, .int .i64 0, .int .i64 0, .int .i64 0, .int .i64 0, .int .i64 0, .string ⟨#[]⟩, .int .i64 0, .int .i64 0, .int .i64 0] s3.cells 199 (0, 0) J0.out.res
 exact bodyPost_ret (results_cell_row rfl _ _ _ _ _ _ _ rfl HX Tryz.underlying199 rfl s3.infoOf) rfl ⟨by rw [HE.out, HS.out]; rfl, setRow_below J0.out.bel (by omega) J0.out.res⟩
set_option maxHeartbeats 20000000 in
theorem withW4 (s : StV) (o : OpV) (w : World) (h4 : o.kind = 4) : Calls Tryz.prog 139 #[.agg s.cells, .agg o.cells] w fun e w' => e = .returned (withV s o).val ∧ Below w.heap.size w w' := by
 have H := Lib.hid (Tri.mk0 w s.cells o.cells #[.int .i64 0, .int .i64 0, .int .i64 0, .int .i64 0, .int .i64 0, .string ⟨#[]⟩, .int .i64 0, .int .i64 0, .int .i64 0, .int .i64 0, .int .i64 0, .int .i64 0, .int .i64 0, .string ⟨#[]⟩, .int .i64 0, .int .i64 0, .int .i64 0] 199 93 199)
 have HE := Lib.hid (with_4 (s := s) (.inl h4))
 have b1 : (o.kind == 1) = false := beq_no (by omega)
 have b2 : (o.kind == 2) = false := beq_no (by omega)
 have b4 := beq_yes h4
 clear h4
 go_enter Tryz.func139, Tryz.ntmps139
 go_upto_region 1 with fail
 generalize ((w.alloc (.cells s.cells 199)).alloc (.cells o.cells 93)).alloc (.cells #[.int .i64 0, .int .i64 0, .int .i64 0, .int .i64 0, .int .i64 0, .string ⟨#[]⟩, .int .i64 0, .int .i64 0, .int .i64 0, .int .i64 0, .int .i64 0, .int .i64 0, .int .i64 0, .string ⟨#[]⟩, .int .i64 0, .int .i64 0, .int .i64 0] 199) = w0 at H ⊢
 have cl := (st_at H.out.fst).1
 have fl := (st_frozen H.out.fst).1
 obtain ⟨_, _, _, o3, _, _, o6, _⟩ := op_at H.out.snd
 clear o3
 go_upto_region 2 with fail
 have H1 : Hid (Tri w (w0.setCell ⟨w.heap.size, 0, none⟩ (.int .i64 (max s.level o.level))) (⟨max s.level o.level, s.counted, s.placed⟩ : StV).cells o.cells #[.int .i64 0, .int .i64 0, .int .i64 0, .int .i64 0, .int .i64 0, .string ⟨#[]⟩, .int .i64 0, .int .i64 0, .int .i64 0, .int .i64 0, .int .i64 0, .int .i64 0, .int .i64 0, .string ⟨#[]⟩, .int .i64 0, .int .i64 0, .int .i64 0] 199 93 199) := H.out.put 0 (.int .i64 (max s.level o.level))
 generalize w0.setCell ⟨w.heap.size, 0, none⟩ (.int .i64 (max s.level o.level)) = w1 at H1 ⊢
 generalize max s.level o.level = ml at HE H1 ⊢
 clear cl fl o6 H
 generalize s.counted = cn at HE H1 ⊢
 generalize s.placed = pl at HE H1 ⊢
 obtain ⟨o0, o1, o2, o3, o4, o5, o6, o7⟩ := op_at H1.out.snd
 obtain ⟨_, _, _, _, _, _, _, _, _, c0, c1, c2, c3, c4, c5, c6, c7⟩ := st_at H1.out.fst
 go_wp2_with fail
 refine (laterW pl o w1).mono ?_
 rintro e u1 ⟨rfl, hb⟩
 have K0 := Lib.hid (H1.out.next hb)
 clear hb H1 c0 c1 c2 c3 c4 c5 c6 c7 o0 o1 o2 o3 o4 o5 o6 o7
 generalize laterV pl o = n1 at HE ⊢
 simp only [OpV.val]
 obtain ⟨_, _, _, _, _, _, _, _, _, c0, c1, c2, c3, c4, c5, c6, c7⟩ := st_at K0.out.fst
 obtain ⟨_, _, _, _, _, _, _, _, _, f0, f1, f2, f3, f4, f5, f6, f7⟩ := st_frozen K0.out.fst
 obtain ⟨o0, o1, o2, o3, o4, o5, o6, o7⟩ := op_at K0.out.snd
 go_upto_region 11 with fail
 have J0 : Hid (Tri w ((((((((u1.setCell ⟨w.heap.size, 9, none⟩ (.int .i64 n1.dev)).setCell ⟨w.heap.size, 10, none⟩ (.int .i64 n1.seq)).setCell ⟨w.heap.size, 11, none⟩ (.int .i64 n1.stamp)).setCell ⟨w.heap.size, 12, none⟩ (.int .i64 n1.kind)).setCell ⟨w.heap.size, 13, none⟩ (.string n1.item)).setCell ⟨w.heap.size, 14, none⟩ (.int .i64 n1.qty)).setCell ⟨w.heap.size, 15, none⟩ (.int .i64 n1.level)).setCell ⟨w.heap.size, 16, none⟩ (.int .i64 n1.undos)) (⟨ml, cn, n1⟩ : StV).cells o.cells #[.int .i64 0, .int .i64 0, .int .i64 0, .int .i64 0, .int .i64 0, .string ⟨#[]⟩, .int .i64 0, .int .i64 0, .int .i64 0, .int .i64 0, .int .i64 0, .int .i64 0, .int .i64 0, .string ⟨#[]⟩, .int .i64 0, .int .i64 0, .int .i64 0] 199 93 199) := by have h := K0.out.putAt 9 n1; rw [put_plc] at h; exact h
 generalize ((((((((u1.setCell ⟨w.heap.size, 9, none⟩ (.int .i64 n1.dev)).setCell ⟨w.heap.size, 10, none⟩ (.int .i64 n1.seq)).setCell ⟨w.heap.size, 11, none⟩ (.int .i64 n1.stamp)).setCell ⟨w.heap.size, 12, none⟩ (.int .i64 n1.kind)).setCell ⟨w.heap.size, 13, none⟩ (.string n1.item)).setCell ⟨w.heap.size, 14, none⟩ (.int .i64 n1.qty)).setCell ⟨w.heap.size, 15, none⟩ (.int .i64 n1.level)).setCell ⟨w.heap.size, 16, none⟩ (.int .i64 n1.undos)) = x1 at J0 ⊢
 clear K0 c0 c1 c2 c3 c4 c5 c6 c7 f0 f1 f2 f3 f4 f5 f6 f7 o0 o1 o2 o3 o4 o5 o6 o7
 generalize hs : (⟨ml, cn, n1⟩ : StV) = s3 at J0
 have HS := Lib.hid hs
 clear hs
 go_wp2_with (first | (refine wpList_load_row rfl 199 (.tmp 2) rfl w.heap.size rfl 199 s3.cells (0, 0) _ J0.out.fst Tryz.underlying199 rfl s3.infoOf ?_) | (refine wpList_store_row rfl 199 (.tmp 4) (.tmp 40) rfl (w.heap.size + 1 + 1) s3.cells rfl rfl 199 #[.int .i64 0, .int .i64 0, .int .i64 0, .int .i64 0, .int .i64 0, .string ⟨#[]⟩, .int .i64 0, .int .i64 0, .int .i64 0, .int .i64 0, .int .i64 0, .int .i64 0, .int .i64 0, .string ⟨#[]⟩, .int .i64 0, .int .i64 0, .int .i64 0] J0.out.res s3.infoOf (by rw [StV.size]; rfl) s3.one ?_))
 have HX := setRow_heap x1 (w.heap.size + 1 + 1) #[.int .i64 0, .int .i64 0, .int .i64 0, .int .i64 0, .int .i64 0, .string ⟨#[]⟩, .int .i64 0, .int .i64 0, .int .i64 0, .int .i64 0, .int .i64 0, .int .i64 0, .int .i64 0, .string ⟨#[]⟩, .int .i64 0, .int .i64 0, .int .i64 0] s3.cells 199 (0, 0) J0.out.res
 exact bodyPost_ret (results_cell_row rfl _ _ _ _ _ _ _ rfl HX Tryz.underlying199 rfl s3.infoOf) rfl ⟨by rw [HE.out, HS.out]; rfl, setRow_below J0.out.bel (by omega) J0.out.res⟩
set_option maxHeartbeats 20000000 in
theorem withW5 (s : StV) (o : OpV) (w : World) (h5 : o.kind = 5) : Calls Tryz.prog 139 #[.agg s.cells, .agg o.cells] w fun e w' => e = .returned (withV s o).val ∧ Below w.heap.size w w' := by
 have H := Lib.hid (Tri.mk0 w s.cells o.cells #[.int .i64 0, .int .i64 0, .int .i64 0, .int .i64 0, .int .i64 0, .string ⟨#[]⟩, .int .i64 0, .int .i64 0, .int .i64 0, .int .i64 0, .int .i64 0, .int .i64 0, .int .i64 0, .string ⟨#[]⟩, .int .i64 0, .int .i64 0, .int .i64 0] 199 93 199)
 have HE := Lib.hid (with_4 (s := s) (.inr h5))
 have b1 : (o.kind == 1) = false := beq_no (by omega)
 have b2 : (o.kind == 2) = false := beq_no (by omega)
 have b4 : (o.kind == 4) = false := beq_no (by omega)
 have b5 := beq_yes h5
 clear h5
 go_enter Tryz.func139, Tryz.ntmps139
 go_upto_region 1 with fail
 generalize ((w.alloc (.cells s.cells 199)).alloc (.cells o.cells 93)).alloc (.cells #[.int .i64 0, .int .i64 0, .int .i64 0, .int .i64 0, .int .i64 0, .string ⟨#[]⟩, .int .i64 0, .int .i64 0, .int .i64 0, .int .i64 0, .int .i64 0, .int .i64 0, .int .i64 0, .string ⟨#[]⟩, .int .i64 0, .int .i64 0, .int .i64 0] 199) = w0 at H ⊢
 have cl := (st_at H.out.fst).1
 have fl := (st_frozen H.out.fst).1
 obtain ⟨_, _, _, o3, _, _, o6, _⟩ := op_at H.out.snd
 clear o3
 go_upto_region 2 with fail
 have H1 : Hid (Tri w (w0.setCell ⟨w.heap.size, 0, none⟩ (.int .i64 (max s.level o.level))) (⟨max s.level o.level, s.counted, s.placed⟩ : StV).cells o.cells #[.int .i64 0, .int .i64 0, .int .i64 0, .int .i64 0, .int .i64 0, .string ⟨#[]⟩, .int .i64 0, .int .i64 0, .int .i64 0, .int .i64 0, .int .i64 0, .int .i64 0, .int .i64 0, .string ⟨#[]⟩, .int .i64 0, .int .i64 0, .int .i64 0] 199 93 199) := H.out.put 0 (.int .i64 (max s.level o.level))
 generalize w0.setCell ⟨w.heap.size, 0, none⟩ (.int .i64 (max s.level o.level)) = w1 at H1 ⊢
 generalize max s.level o.level = ml at HE H1 ⊢
 clear cl fl o6 H
 generalize s.counted = cn at HE H1 ⊢
 generalize s.placed = pl at HE H1 ⊢
 obtain ⟨o0, o1, o2, o3, o4, o5, o6, o7⟩ := op_at H1.out.snd
 obtain ⟨_, _, _, _, _, _, _, _, _, c0, c1, c2, c3, c4, c5, c6, c7⟩ := st_at H1.out.fst
 go_wp2_with fail
 refine (laterW pl o w1).mono ?_
 rintro e u1 ⟨rfl, hb⟩
 have K0 := Lib.hid (H1.out.next hb)
 clear hb H1 c0 c1 c2 c3 c4 c5 c6 c7 o0 o1 o2 o3 o4 o5 o6 o7
 generalize laterV pl o = n1 at HE ⊢
 simp only [OpV.val]
 obtain ⟨_, _, _, _, _, _, _, _, _, c0, c1, c2, c3, c4, c5, c6, c7⟩ := st_at K0.out.fst
 obtain ⟨_, _, _, _, _, _, _, _, _, f0, f1, f2, f3, f4, f5, f6, f7⟩ := st_frozen K0.out.fst
 obtain ⟨o0, o1, o2, o3, o4, o5, o6, o7⟩ := op_at K0.out.snd
 go_upto_region 11 with fail
 have J0 : Hid (Tri w ((((((((u1.setCell ⟨w.heap.size, 9, none⟩ (.int .i64 n1.dev)).setCell ⟨w.heap.size, 10, none⟩ (.int .i64 n1.seq)).setCell ⟨w.heap.size, 11, none⟩ (.int .i64 n1.stamp)).setCell ⟨w.heap.size, 12, none⟩ (.int .i64 n1.kind)).setCell ⟨w.heap.size, 13, none⟩ (.string n1.item)).setCell ⟨w.heap.size, 14, none⟩ (.int .i64 n1.qty)).setCell ⟨w.heap.size, 15, none⟩ (.int .i64 n1.level)).setCell ⟨w.heap.size, 16, none⟩ (.int .i64 n1.undos)) (⟨ml, cn, n1⟩ : StV).cells o.cells #[.int .i64 0, .int .i64 0, .int .i64 0, .int .i64 0, .int .i64 0, .string ⟨#[]⟩, .int .i64 0, .int .i64 0, .int .i64 0, .int .i64 0, .int .i64 0, .int .i64 0, .int .i64 0, .string ⟨#[]⟩, .int .i64 0, .int .i64 0, .int .i64 0] 199 93 199) := by have h := K0.out.putAt 9 n1; rw [put_plc] at h; exact h
 generalize ((((((((u1.setCell ⟨w.heap.size, 9, none⟩ (.int .i64 n1.dev)).setCell ⟨w.heap.size, 10, none⟩ (.int .i64 n1.seq)).setCell ⟨w.heap.size, 11, none⟩ (.int .i64 n1.stamp)).setCell ⟨w.heap.size, 12, none⟩ (.int .i64 n1.kind)).setCell ⟨w.heap.size, 13, none⟩ (.string n1.item)).setCell ⟨w.heap.size, 14, none⟩ (.int .i64 n1.qty)).setCell ⟨w.heap.size, 15, none⟩ (.int .i64 n1.level)).setCell ⟨w.heap.size, 16, none⟩ (.int .i64 n1.undos)) = x1 at J0 ⊢
 clear K0 c0 c1 c2 c3 c4 c5 c6 c7 f0 f1 f2 f3 f4 f5 f6 f7 o0 o1 o2 o3 o4 o5 o6 o7
 generalize hs : (⟨ml, cn, n1⟩ : StV) = s3 at J0
 have HS := Lib.hid hs
 clear hs
 go_wp2_with (first | (refine wpList_load_row rfl 199 (.tmp 2) rfl w.heap.size rfl 199 s3.cells (0, 0) _ J0.out.fst Tryz.underlying199 rfl s3.infoOf ?_) | (refine wpList_store_row rfl 199 (.tmp 4) (.tmp 40) rfl (w.heap.size + 1 + 1) s3.cells rfl rfl 199 #[.int .i64 0, .int .i64 0, .int .i64 0, .int .i64 0, .int .i64 0, .string ⟨#[]⟩, .int .i64 0, .int .i64 0, .int .i64 0, .int .i64 0, .int .i64 0, .int .i64 0, .int .i64 0, .string ⟨#[]⟩, .int .i64 0, .int .i64 0, .int .i64 0] J0.out.res s3.infoOf (by rw [StV.size]; rfl) s3.one ?_))
 have HX := setRow_heap x1 (w.heap.size + 1 + 1) #[.int .i64 0, .int .i64 0, .int .i64 0, .int .i64 0, .int .i64 0, .string ⟨#[]⟩, .int .i64 0, .int .i64 0, .int .i64 0, .int .i64 0, .int .i64 0, .int .i64 0, .int .i64 0, .string ⟨#[]⟩, .int .i64 0, .int .i64 0, .int .i64 0] s3.cells 199 (0, 0) J0.out.res
 exact bodyPost_ret (results_cell_row rfl _ _ _ _ _ _ _ rfl HX Tryz.underlying199 rfl s3.infoOf) rfl ⟨by rw [HE.out, HS.out]; rfl, setRow_below J0.out.bel (by omega) J0.out.res⟩
set_option maxHeartbeats 20000000 in
theorem withW0 (s : StV) (o : OpV) (w : World) (h1 : o.kind ≠ 1) (h2 : o.kind ≠ 2) (h4 : o.kind ≠ 4) (h5 : o.kind ≠ 5) : Calls Tryz.prog 139 #[.agg s.cells, .agg o.cells] w fun e w' => e = .returned (withV s o).val ∧ Below w.heap.size w w' := by
 have H := Lib.hid (Tri.mk0 w s.cells o.cells #[.int .i64 0, .int .i64 0, .int .i64 0, .int .i64 0, .int .i64 0, .string ⟨#[]⟩, .int .i64 0, .int .i64 0, .int .i64 0, .int .i64 0, .int .i64 0, .int .i64 0, .int .i64 0, .string ⟨#[]⟩, .int .i64 0, .int .i64 0, .int .i64 0] 199 93 199)
 have HE := Lib.hid (with_0 (s := s) h1 h2 h4 h5)
 have b1 := beq_no h1
 have b2 := beq_no h2
 have b4 := beq_no h4
 have b5 := beq_no h5
 clear h1 h2 h4 h5
 go_enter Tryz.func139, Tryz.ntmps139
 go_upto_region 1 with fail
 generalize ((w.alloc (.cells s.cells 199)).alloc (.cells o.cells 93)).alloc (.cells #[.int .i64 0, .int .i64 0, .int .i64 0, .int .i64 0, .int .i64 0, .string ⟨#[]⟩, .int .i64 0, .int .i64 0, .int .i64 0, .int .i64 0, .int .i64 0, .int .i64 0, .int .i64 0, .string ⟨#[]⟩, .int .i64 0, .int .i64 0, .int .i64 0] 199) = w0 at H ⊢
 have cl := (st_at H.out.fst).1
 have fl := (st_frozen H.out.fst).1
 obtain ⟨_, _, _, o3, _, _, o6, _⟩ := op_at H.out.snd
 clear o3
 go_upto_region 2 with fail
 have H1 : Hid (Tri w (w0.setCell ⟨w.heap.size, 0, none⟩ (.int .i64 (max s.level o.level))) (⟨max s.level o.level, s.counted, s.placed⟩ : StV).cells o.cells #[.int .i64 0, .int .i64 0, .int .i64 0, .int .i64 0, .int .i64 0, .string ⟨#[]⟩, .int .i64 0, .int .i64 0, .int .i64 0, .int .i64 0, .int .i64 0, .int .i64 0, .int .i64 0, .string ⟨#[]⟩, .int .i64 0, .int .i64 0, .int .i64 0] 199 93 199) := H.out.put 0 (.int .i64 (max s.level o.level))
 generalize w0.setCell ⟨w.heap.size, 0, none⟩ (.int .i64 (max s.level o.level)) = w1 at H1 ⊢
 generalize max s.level o.level = ml at HE H1 ⊢
 clear cl fl o6 H
 generalize s.counted = cn at HE H1 ⊢
 generalize s.placed = pl at HE H1 ⊢
 have o3 := (op_at H1.out.snd).2.2.2.1
 go_upto_region 11 with fail
 clear o3
 generalize hs : (⟨ml, cn, pl⟩ : StV) = s3 at H1
 have HS := Lib.hid hs
 clear hs
 go_wp2_with (first | (refine wpList_load_row rfl 199 (.tmp 2) rfl w.heap.size rfl 199 s3.cells (0, 0) _ H1.out.fst Tryz.underlying199 rfl s3.infoOf ?_) | (refine wpList_store_row rfl 199 (.tmp 4) (.tmp 40) rfl (w.heap.size + 1 + 1) s3.cells rfl rfl 199 #[.int .i64 0, .int .i64 0, .int .i64 0, .int .i64 0, .int .i64 0, .string ⟨#[]⟩, .int .i64 0, .int .i64 0, .int .i64 0, .int .i64 0, .int .i64 0, .int .i64 0, .int .i64 0, .string ⟨#[]⟩, .int .i64 0, .int .i64 0, .int .i64 0] H1.out.res s3.infoOf (by rw [StV.size]; rfl) s3.one ?_))
 have HX := setRow_heap w1 (w.heap.size + 1 + 1) #[.int .i64 0, .int .i64 0, .int .i64 0, .int .i64 0, .int .i64 0, .string ⟨#[]⟩, .int .i64 0, .int .i64 0, .int .i64 0, .int .i64 0, .int .i64 0, .int .i64 0, .int .i64 0, .string ⟨#[]⟩, .int .i64 0, .int .i64 0, .int .i64 0] s3.cells 199 (0, 0) H1.out.res
 exact bodyPost_ret (results_cell_row rfl _ _ _ _ _ _ _ rfl HX Tryz.underlying199 rfl s3.infoOf) rfl ⟨by rw [HE.out, HS.out]; rfl, setRow_below H1.out.bel (by omega) H1.out.res⟩
theorem withW (s : StV) (o : OpV) (w : World) : Calls Tryz.prog 139 #[s.val, o.val] w fun e w' => e = .returned (withV s o).val ∧ Below w.heap.size w w' := by
 by_cases h1 : o.kind = 1
 ·exact withW1 s o w h1
 by_cases h2 : o.kind = 2
 ·exact withW2 s o w h2
 by_cases h4 : o.kind = 4
 ·exact withW4 s o w h4
 by_cases h5 : o.kind = 5
 ·exact withW5 s o w h5
 exact withW0 s o w h1 h2 h4 h5
theorem presentW (s : StV) (h0 : 0 ≤ s.level) (w : World) : Calls Tryz.prog 131 #[.agg s.cells] w fun e w' => e = .returned (.bool (decide (s.level % 2 = 1))) ∧ Below w.heap.size w w' := by
 have hb0 : Below w.heap.size w (w.alloc (.cells s.cells 199)) := (Below.refl _ w).alloc (Nat.le_refl _) _
 have cl := (st_at (World.alloc_heap_new w (.cells s.cells 199))).1
 by_cases hm : s.level % 2 = 1
 ·have hm' : (s.level % 2 == 1) = true := by rw [hm]; rfl
  have HD := Lib.hid (decide_eq_true hm)
  have HB := Lib.hid hb0
  clear hm hb0
  go_enter Tryz.func131, Tryz.ntmps131
  go_wp2
  go_ret
  exact ⟨by rw [HD.out]; rfl, HB.out⟩
 ·have hm' : (s.level % 2 == 1) = false := by rw [beq_eq_false_iff_ne]; exact hm
  have HD := Lib.hid (decide_eq_false hm)
  have HB := Lib.hid hb0
  clear hm hb0
  go_enter Tryz.func131, Tryz.ntmps131
  go_wp2
  go_ret
  exact ⟨by rw [HD.out]; rfl, HB.out⟩
end Go.Proofs.YtjokbaaommicmaaGreatDoor

namespace Go.Proofs.YtjokbaaommicmaaGreatDoor
set_option maxRecDepth 100000
open Go.RowKit Go.Shelf
attribute [local go_sem] Oper.semAt_some

set_option maxHeartbeats 20000000 in
theorem keeps_below {B : Nat} {W W' : World} (h : Below W.heap.size W W') : KeepsFrom B W W' := KeepsFrom.of_grownBy (below_grown h) (fun j e => by cases e)
theorem setRow_size (W : World) (g : Nat) (cs : Array Value) : (W.setRow g cs).heap.size = W.heap.size := by simp [World.setRow]
theorem keeps_setRow {B g : Nat} {W : World} {cs : Array Value} (h : g < B) : KeepsFrom B W (W.setRow g cs) := KeepsFrom.of_grownBy (row := some g) ⟨rfl, rfl, rfl, Nat.le_of_eq (setRow_size W g cs).symm, fun k _ hne => setRow_other W g k cs (fun e => hne (by rw [e]))⟩ (fun j e => by cases e; exact h)
theorem text_ext {a b : ByteArray} (h : a.toList = b.toList) : a = b := by
 rw [Lib.toList_data, Lib.toList_data] at h
 exact ByteArray.ext (Array.toList_inj.1 h)
theorem Tryz.sizeOp : (Tryz.prog.info? 93).map (·.size) = some 8 := by kernel_rfl
theorem OpV.infoOp (o : OpV) : (Tryz.prog.info? 93).map (·.size) = some o.cells.size := by show _ = some 8; exact Tryz.sizeOp
set_option maxHeartbeats 20000000 in
theorem stateOfW (w : World) (B : Nat) (av ao : Option Addr) (nv cv no co : Nat) (xs : List Int) (l : List OpV) (item : ByteArray) (hx : Ints w B av nv xs) (h : Ops w B ao no l) (hB : B ≤ w.heap.size) (hv : nv ≤ 1048576) (hc : no ≤ co) (hc2 : Fits no co) : Calls Tryz.prog 134 #[.agg #[.slice av nv cv, .slice ao no co], .string item] w fun e w' => e = .returned (.agg (stateV item (counted xs l)).cells) ∧ Below w.heap.size w w' := by
 have hn1048 : no ≤ 1048576 := hc2.1
 have HX := Lib.hid (hx.more hB)
 have HO := Lib.hid (h.more hB)
 clear hx h hB
 refine (callsIn_wide (n := 8)).1 ?_
 refine callsIn_of_wp_marks Tryz.func134 rfl trivial ?_ rfl
 simp only [Tryz.ntmps134, List.size_toArray, List.length_cons, List.length_nil, Nat.reduceAdd, Nat.reduceSub, Array.replicate_succ, Array.replicate_zero, List.push_toArray, List.append_toArray, List.nil_append, List.cons_append]
 gi_wp2_with fail
 refine ⟨trivial, (liveOps _ _ _).mono ?_⟩
 rintro e w' ⟨rfl, rfl⟩
 have hb1 := (((Boxed.new (w.alloc (.cells #[.slice av nv cv, .slice ao no co] 32)) 9 (.string item)).alloc (.cells #[.int .i64 0, .int .i64 0, .int .i64 0, .int .i64 0, .int .i64 0, .string ⟨#[]⟩, .int .i64 0, .int .i64 0, .int .i64 0, .int .i64 0, .int .i64 0, .int .i64 0, .int .i64 0, .string ⟨#[]⟩, .int .i64 0, .int .i64 0, .int .i64 0] 199)).alloc (.cells #[.int .i64 0, .int .i64 0, .int .i64 0, .int .i64 0, .int .i64 0, .string ⟨#[]⟩, .int .i64 0, .int .i64 0, .int .i64 0, .int .i64 0, .int .i64 0, .int .i64 0, .int .i64 0, .string ⟨#[]⟩, .int .i64 0, .int .i64 0, .int .i64 0] 199)).alloc (.cells #[.slice av nv cv, .slice ao no co] 32)
 have hb2 : (((((w.alloc (.cells #[.slice av nv cv, .slice ao no co] 32)).alloc (.cells #[.string item] 9)).alloc (.cells #[.int .i64 0, .int .i64 0, .int .i64 0, .int .i64 0, .int .i64 0, .string ⟨#[]⟩, .int .i64 0, .int .i64 0, .int .i64 0, .int .i64 0, .int .i64 0, .int .i64 0, .int .i64 0, .string ⟨#[]⟩, .int .i64 0, .int .i64 0, .int .i64 0] 199)).alloc (.cells #[.int .i64 0, .int .i64 0, .int .i64 0, .int .i64 0, .int .i64 0, .string ⟨#[]⟩, .int .i64 0, .int .i64 0, .int .i64 0, .int .i64 0, .int .i64 0, .int .i64 0, .int .i64 0, .string ⟨#[]⟩, .int .i64 0, .int .i64 0, .int .i64 0] 199)).alloc (.cells #[.slice av nv cv, .slice ao no co] 32)).heap[w.heap.size + 1 + 1]? = some (.cells #[.int .i64 0, .int .i64 0, .int .i64 0, .int .i64 0, .int .i64 0, .string ⟨#[]⟩, .int .i64 0, .int .i64 0, .int .i64 0, .int .i64 0, .int .i64 0, .int .i64 0, .int .i64 0, .string ⟨#[]⟩, .int .i64 0, .int .i64 0, .int .i64 0] 199 (0, 0)) := by
  have e : ((w.alloc (.cells #[.slice av nv cv, .slice ao no co] 32)).alloc (.cells #[.string item] 9)).heap.size = w.heap.size + 1 + 1 := by simp
  rw [Below.heap_alloc _ _ _ (by simp), Below.heap_alloc _ _ _ (by simp), ← e]
  exact World.alloc_heap_new _ _
 have hb3 : (((((w.alloc (.cells #[.slice av nv cv, .slice ao no co] 32)).alloc (.cells #[.string item] 9)).alloc (.cells #[.int .i64 0, .int .i64 0, .int .i64 0, .int .i64 0, .int .i64 0, .string ⟨#[]⟩, .int .i64 0, .int .i64 0, .int .i64 0, .int .i64 0, .int .i64 0, .int .i64 0, .int .i64 0, .string ⟨#[]⟩, .int .i64 0, .int .i64 0, .int .i64 0] 199)).alloc (.cells #[.int .i64 0, .int .i64 0, .int .i64 0, .int .i64 0, .int .i64 0, .string ⟨#[]⟩, .int .i64 0, .int .i64 0, .int .i64 0, .int .i64 0, .int .i64 0, .int .i64 0, .int .i64 0, .string ⟨#[]⟩, .int .i64 0, .int .i64 0, .int .i64 0] 199)).alloc (.cells #[.slice av nv cv, .slice ao no co] 32)).heap[w.heap.size + 1 + 1 + 1]? = some (.cells #[.int .i64 0, .int .i64 0, .int .i64 0, .int .i64 0, .int .i64 0, .string ⟨#[]⟩, .int .i64 0, .int .i64 0, .int .i64 0, .int .i64 0, .int .i64 0, .int .i64 0, .int .i64 0, .string ⟨#[]⟩, .int .i64 0, .int .i64 0, .int .i64 0] 199 (0, 0)) := by
  have e : (((w.alloc (.cells #[.slice av nv cv, .slice ao no co] 32)).alloc (.cells #[.string item] 9)).alloc (.cells #[.int .i64 0, .int .i64 0, .int .i64 0, .int .i64 0, .int .i64 0, .string ⟨#[]⟩, .int .i64 0, .int .i64 0, .int .i64 0, .int .i64 0, .int .i64 0, .int .i64 0, .int .i64 0, .string ⟨#[]⟩, .int .i64 0, .int .i64 0, .int .i64 0] 199)).heap.size = w.heap.size + 1 + 1 + 1 := by simp
  rw [Below.heap_alloc _ _ _ (by simp), ← e]
  exact World.alloc_heap_new _ _
 have hb4 := boxAt (Below.refl _ (((((w.alloc (.cells #[.slice av nv cv, .slice ao no co] 32)).alloc (.cells #[.string item] 9)).alloc (.cells #[.int .i64 0, .int .i64 0, .int .i64 0, .int .i64 0, .int .i64 0, .string ⟨#[]⟩, .int .i64 0, .int .i64 0, .int .i64 0, .int .i64 0, .int .i64 0, .int .i64 0, .int .i64 0, .string ⟨#[]⟩, .int .i64 0, .int .i64 0, .int .i64 0] 199)).alloc (.cells #[.int .i64 0, .int .i64 0, .int .i64 0, .int .i64 0, .int .i64 0, .string ⟨#[]⟩, .int .i64 0, .int .i64 0, .int .i64 0, .int .i64 0, .int .i64 0, .int .i64 0, .int .i64 0, .string ⟨#[]⟩, .int .i64 0, .int .i64 0, .int .i64 0] 199)).alloc (.cells #[.slice av nv cv, .slice ao no co] 32)))
 have hB0 : Below w.heap.size w (((((w.alloc (.cells #[.slice av nv cv, .slice ao no co] 32)).alloc (.cells #[.string item] 9)).alloc (.cells #[.int .i64 0, .int .i64 0, .int .i64 0, .int .i64 0, .int .i64 0, .string ⟨#[]⟩, .int .i64 0, .int .i64 0, .int .i64 0, .int .i64 0, .int .i64 0, .int .i64 0, .int .i64 0, .string ⟨#[]⟩, .int .i64 0, .int .i64 0, .int .i64 0] 199)).alloc (.cells #[.int .i64 0, .int .i64 0, .int .i64 0, .int .i64 0, .int .i64 0, .string ⟨#[]⟩, .int .i64 0, .int .i64 0, .int .i64 0, .int .i64 0, .int .i64 0, .int .i64 0, .int .i64 0, .string ⟨#[]⟩, .int .i64 0, .int .i64 0, .int .i64 0] 199)).alloc (.cells #[.slice av nv cv, .slice ao no co] 32)) := (((((Below.refl _ w).alloc (Nat.le_refl _) _).alloc (by simp) _).alloc (by simp; omega) _).alloc (by simp; omega) _).alloc (by simp; omega) _
 have hsz : (((((w.alloc (.cells #[.slice av nv cv, .slice ao no co] 32)).alloc (.cells #[.string item] 9)).alloc (.cells #[.int .i64 0, .int .i64 0, .int .i64 0, .int .i64 0, .int .i64 0, .string ⟨#[]⟩, .int .i64 0, .int .i64 0, .int .i64 0, .int .i64 0, .int .i64 0, .int .i64 0, .int .i64 0, .string ⟨#[]⟩, .int .i64 0, .int .i64 0, .int .i64 0] 199)).alloc (.cells #[.int .i64 0, .int .i64 0, .int .i64 0, .int .i64 0, .int .i64 0, .string ⟨#[]⟩, .int .i64 0, .int .i64 0, .int .i64 0, .int .i64 0, .int .i64 0, .int .i64 0, .int .i64 0, .string ⟨#[]⟩, .int .i64 0, .int .i64 0, .int .i64 0] 199)).alloc (.cells #[.slice av nv cv, .slice ao no co] 32)).heap.size = w.heap.size + 1 + 1 + 1 + 1 + 1 := by simp
 simp only [World.size_alloc] at hb1 hb4
 gi_wp2
 generalize (((((w.alloc (.cells #[.slice av nv cv, .slice ao no co] 32)).alloc (.cells #[.string item] 9)).alloc (.cells #[.int .i64 0, .int .i64 0, .int .i64 0, .int .i64 0, .int .i64 0, .string ⟨#[]⟩, .int .i64 0, .int .i64 0, .int .i64 0, .int .i64 0, .int .i64 0, .int .i64 0, .int .i64 0, .string ⟨#[]⟩, .int .i64 0, .int .i64 0, .int .i64 0] 199)).alloc (.cells #[.int .i64 0, .int .i64 0, .int .i64 0, .int .i64 0, .int .i64 0, .string ⟨#[]⟩, .int .i64 0, .int .i64 0, .int .i64 0, .int .i64 0, .int .i64 0, .int .i64 0, .int .i64 0, .string ⟨#[]⟩, .int .i64 0, .int .i64 0, .int .i64 0] 199)).alloc (.cells #[.slice av nv cv, .slice ao no co] 32)) = W0 at hb1 hb2 hb3 hb4 hB0 hsz ⊢
 rw [← zero17] at hb3
 refine wpIn_rangeFunc_ownH rfl (by omega) (gf := 143) (lb := #[.pointer (some ⟨w.heap.size + 1 + 1 + 1 + 1, 0, none⟩)]) rfl trivial (enters_of Tryz.func143 (by kernel_rfl) rfl)
  (live_stops _ (by omega) (w.heap.size + 1 + 1 + 1 + 1) w.heap.size av ao nv cv no co xs l hv hc hc2 W0 hb4 (HX.out.below hB0 (Nat.le_refl _)) (HO.out.below hB0 (Nat.le_refl _)) (by omega))
  belowK_t (belowK_b (by omega)) (Below.refl _ _) (fun _ => rfl)
  (fun pre W => (Boxed W (w.heap.size + 1) 9 (.string item) ∧ W.heap[w.heap.size + 1 + 1]? = some (.cells #[.int .i64 0, .int .i64 0, .int .i64 0, .int .i64 0, .int .i64 0, .string ⟨#[]⟩, .int .i64 0, .int .i64 0, .int .i64 0, .int .i64 0, .int .i64 0, .int .i64 0, .int .i64 0, .string ⟨#[]⟩, .int .i64 0, .int .i64 0, .int .i64 0] 199 (0, 0)) ∧ W.heap[w.heap.size + 1 + 1 + 1]? = some (.cells (stateV item pre).cells 199 (0, 0))) ∧ Below w.heap.size w W)
  (fun _ _ _ => False)
  (OwnFrom.and (OwnFrom.and (Own.from (boxed_own _ _ _) _) (OwnFrom.and (Own.from (cells_own _ _ (fun _ => _)) _) (Own.from (cells_own _ _ (fun pre => (stateV item pre).cells)) _))) (ownFrom_below (Nat.le_refl _) (by omega)))
  (fun _ _ _ _ _ hs _ _ => hs)
  ⟨⟨hb1, hb2, hb3⟩, hB0⟩
  (fun x a' W => ∃ Bx, w.heap.size + 1 + 1 + 1 < Bx ∧ W.heap[Bx]? = some (.cells x.cells 93 (0, 0)) ∧ a' = { tmps := #[.agg #[.slice av nv cv, .slice ao no co], .string item, .pointer (some ⟨w.heap.size, 0, none⟩), .pointer (some ⟨w.heap.size + 1, 0, none⟩), .pointer (some ⟨w.heap.size + 1 + 1, 0, none⟩), .pointer (some ⟨w.heap.size + 1 + 1 + 1, 0, none⟩), .pointer (some ⟨Bx, 0, none⟩), .agg #[.slice av nv cv, .slice ao no co], .func (.func 143) #[] #[.pointer (some ⟨w.heap.size + 1 + 1 + 1 + 1, 0, none⟩)], OpV.val x, undef, undef, undef, undef, undef, undef, undef, undef], defers := [] })
  (fun x a' s A B row hs hg hr => by
   obtain ⟨Bx, h1, h2, h3⟩ := hs
   exact ⟨Bx, h1, (cells_own (β := Unit) Bx _ (fun _ => _)).from _ () A B row h2 hg hr, h3⟩) ?assign ?body ?done ?stop
 case assign =>
  rintro lp pre x W K ⟨⟨h1, h2, h3⟩, h4⟩ hK
  unfold OpV.val
  gi_wp2
  exact hK _ _ ((KeepsOthers.alloc _ _).from _) ((Below.refl _ W).alloc h4.size _) ⟨⟨h1.alloc _, (Below.heap_alloc _ _ _ (Array.getElem?_eq_some_iff.1 h2).1).trans h2, (Below.heap_alloc _ _ _ (Array.getElem?_eq_some_iff.1 h3).1).trans h3⟩, h4.alloc h4.size _⟩ ⟨W.heap.size, (Array.getElem?_eq_some_iff.1 h3).1, World.alloc_heap_new W _, rfl⟩
 case body =>
  rintro lp pre x a' W hl ⟨r, hr⟩ ⟨⟨h1, h2, h3⟩, h4⟩ ⟨Bx, hBx, hX, rfl⟩ hlen
  have g1 := h1.cell
  have d4 := (op_at hX).2.2.2.2.1
  have H1 := Lib.hid h1
  have H2 := Lib.hid h2
  have H3 := Lib.hid h3
  have H4 := Lib.hid h4
  have HXx := Lib.hid hX
  have HS := Lib.hid (stateV_snoc item pre x)
  clear h1 h2 h3 h4 hX hr
  by_cases hd : x.item = item
  rotate_left
  ·have hb : (x.item.toList == item.toList) = false := by rw [beq_eq_false_iff_ne]; exact fun h => hd (text_ext h)
   have HE : Hid (stateV item (pre ++ [x]) = stateV item pre) := by show _ = _; rw [HS.out, if_neg hd]
   clear hd HS
   gi_wp2
   exact ⟨KeepsFrom.refl _ _, Below.refl _ _, ⟨H1.out, H2.out, by rw [HE.out]; exact H3.out⟩, H4.out⟩
  have hb : (x.item.toList == item.toList) = true := by rw [hd]; exact beq_self_eq_true _
  have HE : Hid (stateV item (pre ++ [x]) = withV (stateV item pre) x) := by show _ = _; rw [HS.out, if_pos hd]
  clear hd HS
  generalize stateV item pre = s at H3 HE
  gi_wp2_with (first | (refine wpListIn_load_whole rfl 199 (.tmp 5) rfl (w.heap.size + 1 + 1 + 1) rfl 199 s.cells (0, 0) _ H3.out Tryz.underlying199 rfl s.infoOf ?_) | (refine wpListIn_load_whole rfl 93 (.tmp 6) rfl Bx rfl 93 x.cells (0, 0) _ HXx.out Tryz.underlying93 rfl (by exact x.infoOp) ?_))
  refine ⟨trivial, (CallsIn.inRound lp (callsIn_wide.2 (withW s x W))).mono ?_⟩
  rintro e w2 ⟨rfl, hb2⟩
  have hX3 := (hb2.block _ (Array.getElem?_eq_some_iff.1 H3.out).1).trans H3.out
  have hX2 := (hb2.block _ (Array.getElem?_eq_some_iff.1 H2.out).1).trans H2.out
  have hX1 := (hb2.block _ H1.out.lt).trans H1.out
  have HQ : Hid (KeepsFrom W0.heap.size W (w2.setRow (w.heap.size + 1 + 1 + 1) (withV s x).cells)) := (keeps_below hb2).trans (keeps_setRow (by omega))
  have HKp : Hid (Below w.heap.size W (w2.setRow (w.heap.size + 1 + 1 + 1) (withV s x).cells)) := setRow_below (hb2.mono H4.out.size) (by omega) hX3
  have HBe : Hid (Below w.heap.size w (w2.setRow (w.heap.size + 1 + 1 + 1) (withV s x).cells)) := setRow_below (H4.out.trans (hb2.mono H4.out.size)) (by omega) hX3
  have HN1 : Hid (Boxed (w2.setRow (w.heap.size + 1 + 1 + 1) (withV s x).cells) (w.heap.size + 1) 9 (.string item)) := (setRow_other _ _ _ _ (by omega)).trans hX1
  have HN2 := Lib.hid ((setRow_other w2 (w.heap.size + 1 + 1 + 1) (w.heap.size + 1 + 1) (withV s x).cells (by omega)).trans hX2)
  have HN3 := Lib.hid (setRow_heap w2 (w.heap.size + 1 + 1 + 1) s.cells (withV s x).cells 199 (0, 0) hX3)
  have HO3 := Lib.hid hX3
  clear hb2 hX1 hX2 hX3
  gi_wp2_with (refine wpListIn_store_whole rfl 199 (.tmp 5) (.tmp 16) rfl (w.heap.size + 1 + 1 + 1) (withV s x).cells rfl rfl 199 s.cells HO3.out (withV s x).infoOf (by rw [StV.size, StV.size]) (withV s x).one ?_)
  exact ⟨HQ.out, HKp.out, ⟨HN1.out, HN2.out, by rw [HE.out]; exact HN3.out⟩, HBe.out⟩
 case done =>
  rintro D ys W hD rfl ⟨⟨h1, h2, h3⟩, h4⟩ hK
  have H2 := Lib.hid h2
  have H3 := Lib.hid h3
  have H4 := Lib.hid h4
  have HKd := Lib.hid hK
  clear h1 h2 h3 h4 hK
  generalize hse : stateV item (counted xs l) = s at H3
  have HSe := Lib.hid hse
  clear hse
  gi_wp2_with (first | (refine wpListIn_load_whole rfl 199 (.tmp 5) rfl (w.heap.size + 1 + 1 + 1) rfl 199 s.cells (0, 0) _ H3.out Tryz.underlying199 rfl s.infoOf ?_) | (refine wpListIn_store_whole rfl 199 (.tmp 4) (.tmp 17) rfl (w.heap.size + 1 + 1) s.cells rfl rfl 199 _ H2.out s.infoOf (by rw [StV.size]; rfl) s.one ?_))
  have hK' := (setRow_other W (w.heap.size + 1 + 1) D s.cells (by omega)).trans HKd.out
  refine ⟨by simp, .inl ⟨_, _, rfl, run_takeDeferred hK', ?_⟩⟩
  have HXr : ((W.setRow (w.heap.size + 1 + 1) s.cells).putObj D (.deferred none)).heap[w.heap.size + 1 + 1]? = some (.cells s.cells 199 (0, 0)) := (World.putObj_heap_other (by omega)).trans (setRow_heap W (w.heap.size + 1 + 1) _ s.cells 199 (0, 0) H2.out)
  exact ⟨_, results_cell_row rfl _ _ _ _ _ _ _ rfl HXr Tryz.underlying199 rfl s.infoOf, by rw [HSe.out], (setRow_below H4.out (by omega) H2.out).trans (belowK_b (w := w) (Nat.le_refl _) _ D _ _ (by omega) hK' rfl rfl)⟩
 case stop =>
  rintro D c pre W _ _ h _
  exact h.elim

end Go.Proofs.YtjokbaaommicmaaGreatDoor

namespace Go.Proofs.YtjokbaaommicmaaGreatDoor
set_option maxRecDepth 100000
open Go.RowKit

set_option maxHeartbeats 10000000 in
theorem l5Level (w : World) (B : Nat) (av ao : Option Addr) (nv cv no co : Nat) (xs : List Int) (l : List OpV) (item : ByteArray) (h : Ops w B ao no l) (hB : B ≤ w.heap.size) (hn : no ≤ 1048576) (hc : cartB xs l = true) : Calls Tryz.prog 93 #[.agg #[.slice av nv cv, .slice ao no co], .string item] w fun e w' => e = .returned (.int .i64 (levTo item l l.length)) ∧ Below w.heap.size w w' := by
 have hb0 : Below w.heap.size w (w.alloc (.cells #[.slice av nv cv, .slice ao no co] 32)) := (Below.refl _ w).alloc (Nat.le_refl _) _
 have HO := Lib.hid (h.below hb0 hB)
 have HB := Lib.hid hb0
 have HX := Lib.hid (boxAt (Below.refl _ (w.alloc (.cells #[.slice av nv cv, .slice ao no co] 32))))
 have HL := Lib.hid h.1
 have hsz : w.heap.size < (w.alloc (.cells #[.slice av nv cv, .slice ao no co] 32)).heap.size := by show _ < (w.heap.push _).size; simp
 have HC : Hid (∀ k, k < no → 0 ≤ (l.getD k OpV.zero).undos) := fun k hk => by
  obtain ⟨_, _, _, _, _, hok, _, _⟩ := cart_atV hc (i := k) (by rw [h.1]; exact hk)
  exact (undos_of hok).1
 clear h hb0 hc
 go_enter Tryz.func93, Tryz.ntmps93
 go_wp2_with fail
 generalize w.alloc (.cells #[.slice av nv cv, .slice ao no co] 32) = w0 at HO HB HX hsz ⊢
 go_wp2
 go_loopw [5, 6] (fun n i wr => ∃ k : Nat, k ≤ no ∧ i = .int .i64 k ∧ n = .int .i64 (levTo item l k) ∧ Hid (Below w0.heap.size w0 wr)) (fun _ i _ => no - (intOf i).toNat)
 case atStart => exact ⟨0, Nat.zero_le _, rfl, rfl, Below.refl _ _⟩
 case round =>
  obtain ⟨k, hk, rfl, rfl, HBr⟩ := hrel
  obtain ⟨c0, c1⟩ := pair_cells ((HBr.out.block _ hsz).trans HX.out)
  by_cases hlt : k < no
  rotate_left
  ·obtain rfl : k = no := by omega
   go_wp2
   go_ret
   exact ⟨by rw [HL.out]; rfl, HB.out.trans (HBr.out.mono HB.out.size)⟩
  obtain ⟨b, off, rfl, hb, ho⟩ := HO.out.2 k hlt
  obtain ⟨d0, d1, d2, d3, d4, d5, d6, d7⟩ := ho.kept (HBr.out.block b (by omega))
  have hu0 := HC.out k hlt
  have HU : Hid (levTo item l (k + 1) = if (l.getD k OpV.zero).item = item ∧ (l.getD k OpV.zero).undos % 2 = 0 then max (levTo item l k) (l.getD k OpV.zero).level else levTo item l k) := rfl
  have HO1 := Lib.hid ho
  clear ho
  generalize l.getD k OpV.zero = x at HU hu0 d0 d1 d2 d3 d4 d5 d6 d7 HO1
  by_cases hd : x.item = item
  rotate_left
  ·have hbq : (x.item.toList == item.toList) = false := by rw [beq_eq_false_iff_ne]; exact fun h => hd (text_ext h)
   have HE : Hid (levTo item l (k + 1) = levTo item l k) := by show _ = _; rw [HU.out, if_neg (fun h => hd h.1)]
   clear hd HU
   go_wp2
   go_roundw
   case rel => exact ⟨k + 1, by omega, by go_num, by rw [HE.out], HBr⟩
   case measure => simp [intOf]; omega
  have hbq : (x.item.toList == item.toList) = true := by rw [hd]; exact beq_self_eq_true _
  have HD := Lib.hid hd
  clear hd
  go_wp2_with fail
  refine (l3Live x.dev x.seq x.stamp x.kind x.item x.qty x.level x.undos _ hu0).mono ?_
  rintro e w2 ⟨rfl, hb2⟩
  have HB2 := Lib.hid (HBr.out.trans (hb2.mono HBr.out.size))
  clear hb2 c0 c1 d0 d1 d2 d3 d4 d5 d6 d7
  obtain ⟨c0, c1⟩ := pair_cells ((HB2.out.block _ hsz).trans HX.out)
  obtain ⟨d0, d1, d2, d3, d4, d5, d6, d7⟩ := HO1.out.kept (HB2.out.block b (by omega))
  by_cases hu : x.undos % 2 = 0
  ·have hq : decide (x.undos % 2 = 0) = true := decide_eq_true hu
   have HE : Hid (levTo item l (k + 1) = max (levTo item l k) x.level) := by show _ = _; rw [HU.out, if_pos ⟨HD.out, hu⟩]
   rw [hq]
   clear hu hq HU
   go_wp2
   go_roundw
   case rel => exact ⟨k + 1, by omega, by go_num, by rw [HE.out], HB2⟩
   case measure => simp [intOf]; omega
  ·have hq : decide (x.undos % 2 = 0) = false := decide_eq_false hu
   have HE : Hid (levTo item l (k + 1) = levTo item l k) := by show _ = _; rw [HU.out, if_neg (fun h => hu h.2)]
   rw [hq]
   clear hu hq HU
   go_wp2
   go_roundw
   case rel => exact ⟨k + 1, by omega, by go_num, by rw [HE.out], HB2⟩
   case measure => simp [intOf]; omega

end Go.Proofs.YtjokbaaommicmaaGreatDoor
