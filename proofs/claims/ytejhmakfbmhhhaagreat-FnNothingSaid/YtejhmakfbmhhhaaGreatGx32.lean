/- Walks and mathematics that several claims share, part 32. -/
import Derived.Test.YtejhmakfbmhhhaaGreatGx29
import Derived.Laws.Rows
import Derived.Laws.Tables
import Derived.OwnWalkIn
import Derived.Deep.Cut
import Derived.Lib.MinMax
import Derived.Test.YtejhmakfbmhhhaaGreatGxA
namespace Go
open Go.RowKit

end Go
namespace Go.Proofs.YtejhmakfbmhhhaaGreat
set_option maxRecDepth 100000
open Go.RowKit

theorem Tryz.sizeSt : (Tryz.prog.info? 57).map (·.size) = some 17 := by kernel_rfl
theorem StV.size (s : StV) : s.cells.size = 17 := rfl
theorem StV.one (s : StV) : s.cells.all (·.oneCell') = true := by simp [StV.cells, Value.oneCell']
theorem StV.infoOf (s : StV) : (Tryz.prog.info? 57).map (·.size) = some s.cells.size := by rw [StV.size]; exact Tryz.sizeSt
def OpV.cells (o : OpV) : Array Value := #[.int .i64 o.dev, .int .i64 o.seq, .int .i64 o.stamp, .int .i64 o.kind, .string o.item, .int .i64 o.qty, .int .i64 o.level, .int .i64 o.undos]
theorem setRow_below {B g : Nat} {w0 w : World} {old cs : Array Value} {t : TypeId} (h : Below B w0 w) (hb : B ≤ g) (_hg : w.heap[g]? = some (.cells old t (0, 0))) : Below B w0 (w.setRow g cs) :=
 ⟨h.os, h.tape, h.output, by have e : (w.setRow g cs).heap.size = w.heap.size := by simp [World.setRow]
                             rw [e]; exact h.size, fun k hk => (setRow_other w g k cs (by omega)).trans (h.block k hk)⟩
theorem Tri.put {w w1 : World} {x y z : Array Value} {S T U : TypeId} (h : Tri w w1 x y z S T U) (i : Nat) (v : Value) : Tri w (w1.setCell ⟨w.heap.size, i, none⟩ v) (x.setIfInBounds i v) y z S T U :=
 ⟨heap_setCell_same _ _ _ _ _ _ h.fst, (heap_setCell_other _ _ _ _ (by show w.heap.size + 1 ≠ w.heap.size; omega)).trans h.snd, (heap_setCell_other _ _ _ _ (by show w.heap.size + 1 + 1 ≠ w.heap.size; omega)).trans h.res, h.bel.setCell (p := ⟨w.heap.size, i, none⟩) (Nat.le_refl _) v⟩
theorem Tri.putAt {w w1 : World} {x y z : Array Value} {S T U : TypeId} (h : Tri w w1 x y z S T U) (off : Nat) (o : OpV) : Tri w (setAt w1 w.heap.size off o) (putOp x off o) y z S T U :=
 ⟨setAt_same o h.fst, (setAt_other o (by omega)).trans h.snd, (setAt_other o (by omega)).trans h.res, setAt_below o h.bel (Nat.le_refl _)⟩
theorem put_cnt (s : StV) (c : OpV) : putOp s.cells 1 c = (⟨s.level, c, s.placed⟩ : StV).cells := by simp [putOp, StV.cells]
theorem put_plc (s : StV) (c : OpV) : putOp s.cells 9 c = (⟨s.level, s.counted, c⟩ : StV).cells := by simp [putOp, StV.cells]
theorem with_1 {s : StV} {o : OpV} (h : o.kind = 1) : withV s o = ⟨max s.level o.level, laterV s.counted o, laterV s.placed o⟩ := by unfold withV; rw [h]; rfl
theorem with_2 {s : StV} {o : OpV} (h : o.kind = 2) : withV s o = ⟨max s.level o.level, laterV s.counted o, s.placed⟩ := by unfold withV; rw [h]; rfl
theorem with_4 {s : StV} {o : OpV} (h : o.kind = 4 ∨ o.kind = 5) : withV s o = ⟨max s.level o.level, s.counted, laterV s.placed o⟩ := by
 unfold withV
 rcases h with h | h <;> (rw [h]; rfl)
theorem with_0 {s : StV} {o : OpV} (h1 : o.kind ≠ 1) (h2 : o.kind ≠ 2) (h4 : o.kind ≠ 4) (h5 : o.kind ≠ 5) : withV s o = ⟨max s.level o.level, s.counted, s.placed⟩ := by
 unfold withV cntB plcB
 rw [decide_eq_false (by omega), decide_eq_false (by omega)]
 rfl
theorem beq_yes {a b : Int} (h : a = b) : (a == b) = true := by rw [h]; exact beq_self_eq_true _
theorem beq_no {a b : Int} (h : a ≠ b) : (a == b) = false := by rw [beq_eq_false_iff_ne]; exact h
theorem st_at {w : World} {b : Nat} {s : StV} {T : TypeId} (h : w.heap[b]? = some (.cells s.cells T (0, 0))) : w.cell? ⟨b, 0, none⟩ = some (.int .i64 s.level) ∧ w.cell? ⟨b, 1, none⟩ = some (.int .i64 s.counted.dev) ∧ w.cell? ⟨b, 2, none⟩ = some (.int .i64 s.counted.seq) ∧ w.cell? ⟨b, 3, none⟩ = some (.int .i64 s.counted.stamp) ∧ w.cell? ⟨b, 4, none⟩ = some (.int .i64 s.counted.kind) ∧ w.cell? ⟨b, 5, none⟩ = some (.string s.counted.item) ∧ w.cell? ⟨b, 6, none⟩ = some (.int .i64 s.counted.qty) ∧ w.cell? ⟨b, 7, none⟩ = some (.int .i64 s.counted.level) ∧ w.cell? ⟨b, 8, none⟩ = some (.int .i64 s.counted.undos) ∧ w.cell? ⟨b, 9, none⟩ = some (.int .i64 s.placed.dev) ∧ w.cell? ⟨b, 10, none⟩ = some (.int .i64 s.placed.seq) ∧ w.cell? ⟨b, 11, none⟩ = some (.int .i64 s.placed.stamp) ∧ w.cell? ⟨b, 12, none⟩ = some (.int .i64 s.placed.kind) ∧ w.cell? ⟨b, 13, none⟩ = some (.string s.placed.item) ∧ w.cell? ⟨b, 14, none⟩ = some (.int .i64 s.placed.qty) ∧ w.cell? ⟨b, 15, none⟩ = some (.int .i64 s.placed.level) ∧ w.cell? ⟨b, 16, none⟩ = some (.int .i64 s.placed.undos) :=
 ⟨cell_of_row _ _ _ _ _ _ h, cell_of_row _ _ _ _ _ _ h, cell_of_row _ _ _ _ _ _ h, cell_of_row _ _ _ _ _ _ h, cell_of_row _ _ _ _ _ _ h, cell_of_row _ _ _ _ _ _ h, cell_of_row _ _ _ _ _ _ h, cell_of_row _ _ _ _ _ _ h, cell_of_row _ _ _ _ _ _ h, cell_of_row _ _ _ _ _ _ h, cell_of_row _ _ _ _ _ _ h, cell_of_row _ _ _ _ _ _ h, cell_of_row _ _ _ _ _ _ h, cell_of_row _ _ _ _ _ _ h, cell_of_row _ _ _ _ _ _ h, cell_of_row _ _ _ _ _ _ h, cell_of_row _ _ _ _ _ _ h⟩
theorem op_at {w : World} {b : Nat} {o : OpV} {T : TypeId} (h : w.heap[b]? = some (.cells o.cells T (0, 0))) : w.cell? ⟨b, 0, none⟩ = some (.int .i64 o.dev) ∧ w.cell? ⟨b, 1, none⟩ = some (.int .i64 o.seq) ∧ w.cell? ⟨b, 2, none⟩ = some (.int .i64 o.stamp) ∧ w.cell? ⟨b, 3, none⟩ = some (.int .i64 o.kind) ∧ w.cell? ⟨b, 4, none⟩ = some (.string o.item) ∧ w.cell? ⟨b, 5, none⟩ = some (.int .i64 o.qty) ∧ w.cell? ⟨b, 6, none⟩ = some (.int .i64 o.level) ∧ w.cell? ⟨b, 7, none⟩ = some (.int .i64 o.undos) :=
 ⟨cell_of_row _ _ _ _ _ _ h, cell_of_row _ _ _ _ _ _ h, cell_of_row _ _ _ _ _ _ h, cell_of_row _ _ _ _ _ _ h, cell_of_row _ _ _ _ _ _ h, cell_of_row _ _ _ _ _ _ h, cell_of_row _ _ _ _ _ _ h, cell_of_row _ _ _ _ _ _ h⟩
end Go.Proofs.YtejhmakfbmhhhaaGreat

namespace Go.Proofs.YtejhmakfbmhhhaaGreat
set_option maxRecDepth 100000
open Go.RowKit

set_option maxHeartbeats 20000000 in
theorem withW1 (s : StV) (o : OpV) (w : World) (h1 : o.kind = 1) : Calls Tryz.prog 64 #[.agg s.cells, .agg o.cells] w fun e w' => e = .returned (withV s o).val ∧ Below w.heap.size w w' := by
 have H := Lib.hid (Tri.mk0 w s.cells o.cells #[.int .i64 0, .int .i64 0, .int .i64 0, .int .i64 0, .int .i64 0, .string ⟨#[]⟩, .int .i64 0, .int .i64 0, .int .i64 0, .int .i64 0, .int .i64 0, .int .i64 0, .int .i64 0, .string ⟨#[]⟩, .int .i64 0, .int .i64 0, .int .i64 0] 57 39 57)
 have HE := Lib.hid (with_1 (s := s) h1)
 have b1 := beq_yes h1
 clear h1
 go_enter Tryz.func64, Tryz.ntmps64
 go_upto_region 1 with fail
 generalize ((w.alloc (.cells s.cells 57)).alloc (.cells o.cells 39)).alloc (.cells #[.int .i64 0, .int .i64 0, .int .i64 0, .int .i64 0, .int .i64 0, .string ⟨#[]⟩, .int .i64 0, .int .i64 0, .int .i64 0, .int .i64 0, .int .i64 0, .int .i64 0, .int .i64 0, .string ⟨#[]⟩, .int .i64 0, .int .i64 0, .int .i64 0] 57) = w0 at H ⊢
 have cl := (st_at H.out.fst).1
 have fl := (st_frozen H.out.fst).1
 obtain ⟨_, _, _, o3, _, _, o6, _⟩ := op_at H.out.snd
 clear o3
 go_upto_region 2 with fail
 have H1 : Hid (Tri w (w0.setCell ⟨w.heap.size, 0, none⟩ (.int .i64 (max s.level o.level))) (⟨max s.level o.level, s.counted, s.placed⟩ : StV).cells o.cells #[.int .i64 0, .int .i64 0, .int .i64 0, .int .i64 0, .int .i64 0, .string ⟨#[]⟩, .int .i64 0, .int .i64 0, .int .i64 0, .int .i64 0, .int .i64 0, .int .i64 0, .int .i64 0, .string ⟨#[]⟩, .int .i64 0, .int .i64 0, .int .i64 0] 57 39 57) := H.out.put 0 (.int .i64 (max s.level o.level))
 generalize w0.setCell ⟨w.heap.size, 0, none⟩ (.int .i64 (max s.level o.level)) = w1 at H1 ⊢
 generalize max s.level o.level = ml at HE H1 ⊢
 clear cl fl o6 H
 generalize s.counted = cn at HE H1 ⊢
 generalize s.placed = pl at HE H1 ⊢
 obtain ⟨o0, o1, o2, o3, o4, o5, o6, o7⟩ := op_at H1.out.snd
 obtain ⟨_, c0, c1, c2, c3, c4, c5, c6, c7, _, _, _, _, _, _, _, _⟩ := st_at H1.out.fst
 go_wp2_with fail
 refine (laterW cn o w1).mono ?_
 rintro e u1 ⟨rfl, hb⟩
 have K0 := Lib.hid (H1.out.next hb)
 clear hb H1 c0 c1 c2 c3 c4 c5 c6 c7 o0 o1 o2 o3 o4 o5 o6 o7
 generalize laterV cn o = n1 at HE ⊢
 simp only [OpV.val]
 obtain ⟨_, c0, c1, c2, c3, c4, c5, c6, c7, _, _, _, _, _, _, _, _⟩ := st_at K0.out.fst
 obtain ⟨_, f0, f1, f2, f3, f4, f5, f6, f7, _, _, _, _, _, _, _, _⟩ := st_frozen K0.out.fst
 obtain ⟨o0, o1, o2, o3, o4, o5, o6, o7⟩ := op_at K0.out.snd
 go_upto_region 5 with fail
 have J0 : Hid (Tri w ((((((((u1.setCell ⟨w.heap.size, 1, none⟩ (.int .i64 n1.dev)).setCell ⟨w.heap.size, 2, none⟩ (.int .i64 n1.seq)).setCell ⟨w.heap.size, 3, none⟩ (.int .i64 n1.stamp)).setCell ⟨w.heap.size, 4, none⟩ (.int .i64 n1.kind)).setCell ⟨w.heap.size, 5, none⟩ (.string n1.item)).setCell ⟨w.heap.size, 6, none⟩ (.int .i64 n1.qty)).setCell ⟨w.heap.size, 7, none⟩ (.int .i64 n1.level)).setCell ⟨w.heap.size, 8, none⟩ (.int .i64 n1.undos)) (⟨ml, n1, pl⟩ : StV).cells o.cells #[.int .i64 0, .int .i64 0, .int .i64 0, .int .i64 0, .int .i64 0, .string ⟨#[]⟩, .int .i64 0, .int .i64 0, .int .i64 0, .int .i64 0, .int .i64 0, .int .i64 0, .int .i64 0, .string ⟨#[]⟩, .int .i64 0, .int .i64 0, .int .i64 0] 57 39 57) := by have h := K0.out.putAt 1 n1; rw [put_cnt] at h; exact h
 generalize ((((((((u1.setCell ⟨w.heap.size, 1, none⟩ (.int .i64 n1.dev)).setCell ⟨w.heap.size, 2, none⟩ (.int .i64 n1.seq)).setCell ⟨w.heap.size, 3, none⟩ (.int .i64 n1.stamp)).setCell ⟨w.heap.size, 4, none⟩ (.int .i64 n1.kind)).setCell ⟨w.heap.size, 5, none⟩ (.string n1.item)).setCell ⟨w.heap.size, 6, none⟩ (.int .i64 n1.qty)).setCell ⟨w.heap.size, 7, none⟩ (.int .i64 n1.level)).setCell ⟨w.heap.size, 8, none⟩ (.int .i64 n1.undos)) = x1 at J0 ⊢
 clear K0 c0 c1 c2 c3 c4 c5 c6 c7 f0 f1 f2 f3 f4 f5 f6 f7 o0 o1 o2 o3 o4 o5 o6 o7
 obtain ⟨o0, o1, o2, o3, o4, o5, o6, o7⟩ := op_at J0.out.snd
 obtain ⟨_, _, _, _, _, _, _, _, _, c0, c1, c2, c3, c4, c5, c6, c7⟩ := st_at J0.out.fst
 go_wp2_with fail
 refine (laterW pl o x1).mono ?_
 rintro e u2 ⟨rfl, hb⟩
 have K1 := Lib.hid (J0.out.next hb)
 clear hb J0 c0 c1 c2 c3 c4 c5 c6 c7 o0 o1 o2 o3 o4 o5 o6 o7
 generalize laterV pl o = n2 at HE ⊢
 simp only [OpV.val]
 obtain ⟨_, _, _, _, _, _, _, _, _, c0, c1, c2, c3, c4, c5, c6, c7⟩ := st_at K1.out.fst
 obtain ⟨_, _, _, _, _, _, _, _, _, f0, f1, f2, f3, f4, f5, f6, f7⟩ := st_frozen K1.out.fst
 obtain ⟨o0, o1, o2, o3, o4, o5, o6, o7⟩ := op_at K1.out.snd
 go_upto_region 11 with fail
 have J1 : Hid (Tri w ((((((((u2.setCell ⟨w.heap.size, 9, none⟩ (.int .i64 n2.dev)).setCell ⟨w.heap.size, 10, none⟩ (.int .i64 n2.seq)).setCell ⟨w.heap.size, 11, none⟩ (.int .i64 n2.stamp)).setCell ⟨w.heap.size, 12, none⟩ (.int .i64 n2.kind)).setCell ⟨w.heap.size, 13, none⟩ (.string n2.item)).setCell ⟨w.heap.size, 14, none⟩ (.int .i64 n2.qty)).setCell ⟨w.heap.size, 15, none⟩ (.int .i64 n2.level)).setCell ⟨w.heap.size, 16, none⟩ (.int .i64 n2.undos)) (⟨ml, n1, n2⟩ : StV).cells o.cells #[.int .i64 0, .int .i64 0, .int .i64 0, .int .i64 0, .int .i64 0, .string ⟨#[]⟩, .int .i64 0, .int .i64 0, .int .i64 0, .int .i64 0, .int .i64 0, .int .i64 0, .int .i64 0, .string ⟨#[]⟩, .int .i64 0, .int .i64 0, .int .i64 0] 57 39 57) := by have h := K1.out.putAt 9 n2; rw [put_plc] at h; exact h
 generalize ((((((((u2.setCell ⟨w.heap.size, 9, none⟩ (.int .i64 n2.dev)).setCell ⟨w.heap.size, 10, none⟩ (.int .i64 n2.seq)).setCell ⟨w.heap.size, 11, none⟩ (.int .i64 n2.stamp)).setCell ⟨w.heap.size, 12, none⟩ (.int .i64 n2.kind)).setCell ⟨w.heap.size, 13, none⟩ (.string n2.item)).setCell ⟨w.heap.size, 14, none⟩ (.int .i64 n2.qty)).setCell ⟨w.heap.size, 15, none⟩ (.int .i64 n2.level)).setCell ⟨w.heap.size, 16, none⟩ (.int .i64 n2.undos)) = x2 at J1 ⊢
 clear K1 c0 c1 c2 c3 c4 c5 c6 c7 f0 f1 f2 f3 f4 f5 f6 f7 o0 o1 o2 o3 o4 o5 o6 o7
 generalize hs : (⟨ml, n1, n2⟩ : StV) = s3 at J1
 have HS := Lib.hid hs
 clear hs
 go_wp2_with (first | (refine wpList_load_row rfl 57 (.tmp 2) rfl w.heap.size rfl 57 s3.cells (0, 0) _ J1.out.fst Tryz.underlying57 rfl s3.infoOf ?_) | (refine wpList_store_row rfl 57 (.tmp 4) (.tmp 40) rfl (w.heap.size + 1 + 1) s3.cells rfl rfl 57 #[.int .i64 0, .int .i64 0, .int .i64 0, .int .i64 0, .int .i64 0, .string ⟨#[]⟩, .int .i64 0, .int .i64 0, .int .i64 0, .int .i64 0, .int .i64 0, .int .i64 0, .int .i64 0, .string ⟨#[]⟩, .int .i64 0, .int .i64 0, .int .i64 0] J1.out.res s3.infoOf (by rw [StV.size]; rfl) s3.one ?_))
 have HX := setRow_heap x2 (w.heap.size + 1 + 1) #[.int .i64 0, .int .i64 0, .int .i64 0, .int .i64 0, .int .i64 0, .string ⟨#[]⟩, .int .i64 0, .int .i64 0, .int .i64 0, .int .i64 0, .int .i64 0, .int .i64 0, .int .i64 0, .string ⟨#[]⟩, .int .i64 0, .int .i64 0, .int .i64 0] s3.cells 57 (0, 0) J1.out.res
 exact bodyPost_ret (results_cell_row rfl _ _ _ _ _ _ _ rfl HX Tryz.underlying57 rfl s3.infoOf) rfl ⟨by rw [HE.out, HS.out]; rfl, setRow_below J1.out.bel (by omega) J1.out.res⟩
end Go.Proofs.YtejhmakfbmhhhaaGreat

namespace Go.Proofs.YtejhmakfbmhhhaaGreat
set_option maxRecDepth 100000
open Go.RowKit

set_option maxHeartbeats 20000000 in
theorem withW2 (s : StV) (o : OpV) (w : World) (h2 : o.kind = 2) : Calls Tryz.prog 64 #[.agg s.cells, .agg o.cells] w fun e w' => e = .returned (withV s o).val ∧ Below w.heap.size w w' := by
 have H := Lib.hid (Tri.mk0 w s.cells o.cells #[.int .i64 0, .int .i64 0, .int .i64 0, .int .i64 0, .int .i64 0, .string ⟨#[]⟩, .int .i64 0, .int .i64 0, .int .i64 0, .int .i64 0, .int .i64 0, .int .i64 0, .int .i64 0, .string ⟨#[]⟩, .int .i64 0, .int .i64 0, .int .i64 0] 57 39 57)
 have HE := Lib.hid (with_2 (s := s) h2)
 have b1 : (o.kind == 1) = false := beq_no (by omega)
 have b2 := beq_yes h2
 clear h2
 go_enter Tryz.func64, Tryz.ntmps64
 go_upto_region 1 with fail
 generalize ((w.alloc (.cells s.cells 57)).alloc (.cells o.cells 39)).alloc (.cells #[.int .i64 0, .int .i64 0, .int .i64 0, .int .i64 0, .int .i64 0, .string ⟨#[]⟩, .int .i64 0, .int .i64 0, .int .i64 0, .int .i64 0, .int .i64 0, .int .i64 0, .int .i64 0, .string ⟨#[]⟩, .int .i64 0, .int .i64 0, .int .i64 0] 57) = w0 at H ⊢
 have cl := (st_at H.out.fst).1
 have fl := (st_frozen H.out.fst).1
 obtain ⟨_, _, _, o3, _, _, o6, _⟩ := op_at H.out.snd
 clear o3
 go_upto_region 2 with fail
 have H1 : Hid (Tri w (w0.setCell ⟨w.heap.size, 0, none⟩ (.int .i64 (max s.level o.level))) (⟨max s.level o.level, s.counted, s.placed⟩ : StV).cells o.cells #[.int .i64 0, .int .i64 0, .int .i64 0, .int .i64 0, .int .i64 0, .string ⟨#[]⟩, .int .i64 0, .int .i64 0, .int .i64 0, .int .i64 0, .int .i64 0, .int .i64 0, .int .i64 0, .string ⟨#[]⟩, .int .i64 0, .int .i64 0, .int .i64 0] 57 39 57) := H.out.put 0 (.int .i64 (max s.level o.level))
 generalize w0.setCell ⟨w.heap.size, 0, none⟩ (.int .i64 (max s.level o.level)) = w1 at H1 ⊢
 generalize max s.level o.level = ml at HE H1 ⊢
 clear cl fl o6 H
 generalize s.counted = cn at HE H1 ⊢
 generalize s.placed = pl at HE H1 ⊢
 obtain ⟨o0, o1, o2, o3, o4, o5, o6, o7⟩ := op_at H1.out.snd
 obtain ⟨_, c0, c1, c2, c3, c4, c5, c6, c7, _, _, _, _, _, _, _, _⟩ := st_at H1.out.fst
 go_wp2_with fail
 refine (laterW cn o w1).mono ?_
 rintro e u1 ⟨rfl, hb⟩
 have K0 := Lib.hid (H1.out.next hb)
 clear hb H1 c0 c1 c2 c3 c4 c5 c6 c7 o0 o1 o2 o3 o4 o5 o6 o7
 generalize laterV cn o = n1 at HE ⊢
 simp only [OpV.val]
 obtain ⟨_, c0, c1, c2, c3, c4, c5, c6, c7, _, _, _, _, _, _, _, _⟩ := st_at K0.out.fst
 obtain ⟨_, f0, f1, f2, f3, f4, f5, f6, f7, _, _, _, _, _, _, _, _⟩ := st_frozen K0.out.fst
 obtain ⟨o0, o1, o2, o3, o4, o5, o6, o7⟩ := op_at K0.out.snd
 go_upto_region 11 with fail
 have J0 : Hid (Tri w ((((((((u1.setCell ⟨w.heap.size, 1, none⟩ (.int .i64 n1.dev)).setCell ⟨w.heap.size, 2, none⟩ (.int .i64 n1.seq)).setCell ⟨w.heap.size, 3, none⟩ (.int .i64 n1.stamp)).setCell ⟨w.heap.size, 4, none⟩ (.int .i64 n1.kind)).setCell ⟨w.heap.size, 5, none⟩ (.string n1.item)).setCell ⟨w.heap.size, 6, none⟩ (.int .i64 n1.qty)).setCell ⟨w.heap.size, 7, none⟩ (.int .i64 n1.level)).setCell ⟨w.heap.size, 8, none⟩ (.int .i64 n1.undos)) (⟨ml, n1, pl⟩ : StV).cells o.cells #[.int .i64 0, .int .i64 0, .int .i64 0, .int .i64 0, .int .i64 0, .string ⟨#[]⟩, .int .i64 0, .int .i64 0, .int .i64 0, .int .i64 0, .int .i64 0, .int .i64 0, .int .i64 0, .string ⟨#[]⟩, .int .i64 0, .int .i64 0, .int .i64 0] 57 39 57) := by have h := K0.out.putAt 1 n1; rw [put_cnt] at h; exact h
 generalize ((((((((u1.setCell ⟨w.heap.size, 1, none⟩ (.int .i64 n1.dev)).setCell ⟨w.heap.size, 2, none⟩ (.int .i64 n1.seq)).setCell ⟨w.heap.size, 3, none⟩ (.int .i64 n1.stamp)).setCell ⟨w.heap.size, 4, none⟩ (.int .i64 n1.kind)).setCell ⟨w.heap.size, 5, none⟩ (.string n1.item)).setCell ⟨w.heap.size, 6, none⟩ (.int .i64 n1.qty)).setCell ⟨w.heap.size, 7, none⟩ (.int .i64 n1.level)).setCell ⟨w.heap.size, 8, none⟩ (.int .i64 n1.undos)) = x1 at J0 ⊢
 clear K0 c0 c1 c2 c3 c4 c5 c6 c7 f0 f1 f2 f3 f4 f5 f6 f7 o0 o1 o2 o3 o4 o5 o6 o7
 generalize hs : (⟨ml, n1, pl⟩ : StV) = s3 at J0
 have HS := Lib.hid hs
 clear hs
 go_wp2_with (first | (refine wpList_load_row rfl 57 (.tmp 2) rfl w.heap.size rfl 57 s3.cells (0, 0) _ J0.out.fst Tryz.underlying57 rfl s3.infoOf ?_) | (refine wpList_store_row rfl 57 (.tmp 4) (.tmp 40) rfl (w.heap.size + 1 + 1) s3.cells rfl rfl 57 #[.int .i64 0, .int .i64 0, .int .i64 0, .int .i64 0, .int .i64 0, .string ⟨#[]⟩, .int .i64 0, .int .i64 0, .int .i64 0, .int .i64 0, .int .i64 0, .int .i64 0, .int .i64 0, .string ⟨#[]⟩, .int .i64 0, .int .i64 0, .int .i64 0] J0.out.res s3.infoOf (by rw [StV.size]; rfl) s3.one ?_))
 have HX := setRow_heap x1 (w.heap.size + 1 + 1) #[.int .i64 0, .int .i64 0, .int .i64 0, .int .i64 0, .int .i64 0, .string ⟨#[]⟩, .int .i64 0, .int .i64 0, .int .i64 0, .int .i64 0, .int .i64 0, .int .i64 0, .int .i64 0, .string ⟨#[]⟩, .int .i64 0, .int .i64 0, .int .i64 0] s3.cells 57 (0, 0) J0.out.res
 exact bodyPost_ret (results_cell_row rfl _ _ _ _ _ _ _ rfl HX Tryz.underlying57 rfl s3.infoOf) rfl ⟨by rw [HE.out, HS.out]; rfl, setRow_below J0.out.bel (by omega) J0.out.res⟩
end Go.Proofs.YtejhmakfbmhhhaaGreat

namespace Go.Proofs.YtejhmakfbmhhhaaGreat
set_option maxRecDepth 100000
open Go.RowKit

set_option maxHeartbeats 20000000 in
theorem withW4 (s : StV) (o : OpV) (w : World) (h4 : o.kind = 4) : Calls Tryz.prog 64 #[.agg s.cells, .agg o.cells] w fun e w' => e = .returned (withV s o).val ∧ Below w.heap.size w w' := by
 have H := Lib.hid (Tri.mk0 w s.cells o.cells #[.int .i64 0, .int .i64 0, .int .i64 0, .int .i64 0, .int .i64 0, .string ⟨#[]⟩, .int .i64 0, .int .i64 0, .int .i64 0, .int .i64 0, .int .i64 0, .int .i64 0, .int .i64 0, .string ⟨#[]⟩, .int .i64 0, .int .i64 0, .int .i64 0] 57 39 57)
 have HE := Lib.hid (with_4 (s := s) (.inl h4))
 have b1 : (o.kind == 1) = false := beq_no (by omega)
 have b2 : (o.kind == 2) = false := beq_no (by omega)
 have b4 := beq_yes h4
 clear h4
 go_enter Tryz.func64, Tryz.ntmps64
 go_upto_region 1 with fail
 generalize ((w.alloc (.cells s.cells 57)).alloc (.cells o.cells 39)).alloc (.cells #[.int .i64 0, .int .i64 0, .int .i64 0, .int .i64 0, .int .i64 0, .string ⟨#[]⟩, .int .i64 0, .int .i64 0, .int .i64 0, .int .i64 0, .int .i64 0, .int .i64 0, .int .i64 0, .string ⟨#[]⟩, .int .i64 0, .int .i64 0, .int .i64 0] 57) = w0 at H ⊢
 have cl := (st_at H.out.fst).1
 have fl := (st_frozen H.out.fst).1
 obtain ⟨_, _, _, o3, _, _, o6, _⟩ := op_at H.out.snd
 clear o3
 go_upto_region 2 with fail
 have H1 : Hid (Tri w (w0.setCell ⟨w.heap.size, 0, none⟩ (.int .i64 (max s.level o.level))) (⟨max s.level o.level, s.counted, s.placed⟩ : StV).cells o.cells #[.int .i64 0, .int .i64 0, .int .i64 0, .int .i64 0, .int .i64 0, .string ⟨#[]⟩, .int .i64 0, .int .i64 0, .int .i64 0, .int .i64 0, .int .i64 0, .int .i64 0, .int .i64 0, .string ⟨#[]⟩, .int .i64 0, .int .i64 0, .int .i64 0] 57 39 57) := H.out.put 0 (.int .i64 (max s.level o.level))
 generalize w0.setCell ⟨w.heap.size, 0, none⟩ (.int .i64 (max s.level o.level)) = w1 at H1 ⊢
 generalize max s.level o.level = ml at HE H1 ⊢
 clear cl fl o6 H
 generalize s.counted = cn at HE H1 ⊢
 generalize s.placed = pl at HE H1 ⊢
 obtain ⟨o0, o1, o2, o3, o4, o5, o6, o7⟩ := op_at H1.out.snd
 obtain ⟨_, _, _, _, _, _, _, _, _, c0, c1, c2, c3, c4, c5, c6, c7⟩ := st_at H1.out.fst
 go_wp2_with fail
 refine (laterW pl o w1).mono ?_
 rintro e u1 ⟨rfl, hb⟩
 have K0 := Lib.hid (H1.out.next hb)
 clear hb H1 c0 c1 c2 c3 c4 c5 c6 c7 o0 o1 o2 o3 o4 o5 o6 o7
 generalize laterV pl o = n1 at HE ⊢
 simp only [OpV.val]
 obtain ⟨_, _, _, _, _, _, _, _, _, c0, c1, c2, c3, c4, c5, c6, c7⟩ := st_at K0.out.fst
 obtain ⟨_, _, _, _, _, _, _, _, _, f0, f1, f2, f3, f4, f5, f6, f7⟩ := st_frozen K0.out.fst
 obtain ⟨o0, o1, o2, o3, o4, o5, o6, o7⟩ := op_at K0.out.snd
 go_upto_region 11 with fail
 have J0 : Hid (Tri w ((((((((u1.setCell ⟨w.heap.size, 9, none⟩ (.int .i64 n1.dev)).setCell ⟨w.heap.size, 10, none⟩ (.int .i64 n1.seq)).setCell ⟨w.heap.size, 11, none⟩ (.int .i64 n1.stamp)).setCell ⟨w.heap.size, 12, none⟩ (.int .i64 n1.kind)).setCell ⟨w.heap.size, 13, none⟩ (.string n1.item)).setCell ⟨w.heap.size, 14, none⟩ (.int .i64 n1.qty)).setCell ⟨w.heap.size, 15, none⟩ (.int .i64 n1.level)).setCell ⟨w.heap.size, 16, none⟩ (.int .i64 n1.undos)) (⟨ml, cn, n1⟩ : StV).cells o.cells #[.int .i64 0, .int .i64 0, .int .i64 0, .int .i64 0, .int .i64 0, .string ⟨#[]⟩, .int .i64 0, .int .i64 0, .int .i64 0, .int .i64 0, .int .i64 0, .int .i64 0, .int .i64 0, .string ⟨#[]⟩, .int .i64 0, .int .i64 0, .int .i64 0] 57 39 57) := by have h := K0.out.putAt 9 n1; rw [put_plc] at h; exact h
 generalize ((((((((u1.setCell ⟨w.heap.size, 9, none⟩ (.int .i64 n1.dev)).setCell ⟨w.heap.size, 10, none⟩ (.int .i64 n1.seq)).setCell ⟨w.heap.size, 11, none⟩ (.int .i64 n1.stamp)).setCell ⟨w.heap.size, 12, none⟩ (.int .i64 n1.kind)).setCell ⟨w.heap.size, 13, none⟩ (.string n1.item)).setCell ⟨w.heap.size, 14, none⟩ (.int .i64 n1.qty)).setCell ⟨w.heap.size, 15, none⟩ (.int .i64 n1.level)).setCell ⟨w.heap.size, 16, none⟩ (.int .i64 n1.undos)) = x1 at J0 ⊢
 clear K0 c0 c1 c2 c3 c4 c5 c6 c7 f0 f1 f2 f3 f4 f5 f6 f7 o0 o1 o2 o3 o4 o5 o6 o7
 generalize hs : (⟨ml, cn, n1⟩ : StV) = s3 at J0
 have HS := Lib.hid hs
 clear hs
 go_wp2_with (first | (refine wpList_load_row rfl 57 (.tmp 2) rfl w.heap.size rfl 57 s3.cells (0, 0) _ J0.out.fst Tryz.underlying57 rfl s3.infoOf ?_) | (refine wpList_store_row rfl 57 (.tmp 4) (.tmp 40) rfl (w.heap.size + 1 + 1) s3.cells rfl rfl 57 #[.int .i64 0, .int .i64 0, .int .i64 0, .int .i64 0, .int .i64 0, .string ⟨#[]⟩, .int .i64 0, .int .i64 0, .int .i64 0, .int .i64 0, .int .i64 0, .int .i64 0, .int .i64 0, .string ⟨#[]⟩, .int .i64 0, .int .i64 0, .int .i64 0] J0.out.res s3.infoOf (by rw [StV.size]; rfl) s3.one ?_))
 have HX := setRow_heap x1 (w.heap.size + 1 + 1) #[.int .i64 0, .int .i64 0, .int .i64 0, .int .i64 0, .int .i64 0, .string ⟨#[]⟩, .int .i64 0, .int .i64 0, .int .i64 0, .int .i64 0, .int .i64 0, .int .i64 0, .int .i64 0, .string ⟨#[]⟩, .int .i64 0, .int .i64 0, .int .i64 0] s3.cells 57 (0, 0) J0.out.res
 exact bodyPost_ret (results_cell_row rfl _ _ _ _ _ _ _ rfl HX Tryz.underlying57 rfl s3.infoOf) rfl ⟨by rw [HE.out, HS.out]; rfl, setRow_below J0.out.bel (by omega) J0.out.res⟩
end Go.Proofs.YtejhmakfbmhhhaaGreat

namespace Go.Proofs.YtejhmakfbmhhhaaGreat
set_option maxRecDepth 100000
open Go.RowKit

set_option maxHeartbeats 20000000 in
theorem withW5 (s : StV) (o : OpV) (w : World) (h5 : o.kind = 5) : Calls Tryz.prog 64 #[.agg s.cells, .agg o.cells] w fun e w' => e = .returned (withV s o).val ∧ Below w.heap.size w w' := by
 have H := Lib.hid (Tri.mk0 w s.cells o.cells #[.int .i64 0, .int .i64 0, .int .i64 0, .int .i64 0, .int .i64 0, .string ⟨#[]⟩, .int .i64 0, .int .i64 0, .int .i64 0, .int .i64 0, .int .i64 0, .int .i64 0, .int .i64 0, .string ⟨#[]⟩, .int .i64 0, .int .i64 0, .int .i64 0] 57 39 57)
 have HE := Lib.hid (with_4 (s := s) (.inr h5))
 have b1 : (o.kind == 1) = false := beq_no (by omega)
 have b2 : (o.kind == 2) = false := beq_no (by omega)
 have b4 : (o.kind == 4) = false := beq_no (by omega)
 have b5 := beq_yes h5
 clear h5
 go_enter Tryz.func64, Tryz.ntmps64
 go_upto_region 1 with fail
 generalize ((w.alloc (.cells s.cells 57)).alloc (.cells o.cells 39)).alloc (.cells #[.int .i64 0, .int .i64 0, .int .i64 0, .int .i64 0, .int .i64 0, .string ⟨#[]⟩, .int .i64 0, .int .i64 0, .int .i64 0, .int .i64 0, .int .i64 0, .int .i64 0, .int .i64 0, .string ⟨#[]⟩, .int .i64 0, .int .i64 0, .int .i64 0] 57) = w0 at H ⊢
 have cl := (st_at H.out.fst).1
 have fl := (st_frozen H.out.fst).1
 obtain ⟨_, _, _, o3, _, _, o6, _⟩ := op_at H.out.snd
 clear o3
 go_upto_region 2 with fail
 have H1 : Hid (Tri w (w0.setCell ⟨w.heap.size, 0, none⟩ (.int .i64 (max s.level o.level))) (⟨max s.level o.level, s.counted, s.placed⟩ : StV).cells o.cells #[.int .i64 0, .int .i64 0, .int .i64 0, .int .i64 0, .int .i64 0, .string ⟨#[]⟩, .int .i64 0, .int .i64 0, .int .i64 0, .int .i64 0, .int .i64 0, .int .i64 0, .int .i64 0, .string ⟨#[]⟩, .int .i64 0, .int .i64 0, .int .i64 0] 57 39 57) := H.out.put 0 (.int .i64 (max s.level o.level))
 generalize w0.setCell ⟨w.heap.size, 0, none⟩ (.int .i64 (max s.level o.level)) = w1 at H1 ⊢
 generalize max s.level o.level = ml at HE H1 ⊢
 clear cl fl o6 H
 generalize s.counted = cn at HE H1 ⊢
 generalize s.placed = pl at HE H1 ⊢
 obtain ⟨o0, o1, o2, o3, o4, o5, o6, o7⟩ := op_at H1.out.snd
 obtain ⟨_, _, _, _, _, _, _, _, _, c0, c1, c2, c3, c4, c5, c6, c7⟩ := st_at H1.out.fst
 go_wp2_with fail
 refine (laterW pl o w1).mono ?_
 rintro e u1 ⟨rfl, hb⟩
 have K0 := Lib.hid (H1.out.next hb)
 clear hb H1 c0 c1 c2 c3 c4 c5 c6 c7 o0 o1 o2 o3 o4 o5 o6 o7
 generalize laterV pl o = n1 at HE ⊢
 simp only [OpV.val]
 obtain ⟨_, _, _, _, _, _, _, _, _, c0, c1, c2, c3, c4, c5, c6, c7⟩ := st_at K0.out.fst
 obtain ⟨_, _, _, _, _, _, _, _, _, f0, f1, f2, f3, f4, f5, f6, f7⟩ := st_frozen K0.out.fst
 obtain ⟨o0, o1, o2, o3, o4, o5, o6, o7⟩ := op_at K0.out.snd
 go_upto_region 11 with fail
 have J0 : Hid (Tri w ((((((((u1.setCell ⟨w.heap.size, 9, none⟩ (.int .i64 n1.dev)).setCell ⟨w.heap.size, 10, none⟩ (.int .i64 n1.seq)).setCell ⟨w.heap.size, 11, none⟩ (.int .i64 n1.stamp)).setCell ⟨w.heap.size, 12, none⟩ (.int .i64 n1.kind)).setCell ⟨w.heap.size, 13, none⟩ (.string n1.item)).setCell ⟨w.heap.size, 14, none⟩ (.int .i64 n1.qty)).setCell ⟨w.heap.size, 15, none⟩ (.int .i64 n1.level)).setCell ⟨w.heap.size, 16, none⟩ (.int .i64 n1.undos)) (⟨ml, cn, n1⟩ : StV).cells o.cells #[.int .i64 0, .int .i64 0, .int .i64 0, .int .i64 0, .int .i64 0, .string ⟨#[]⟩, .int .i64 0, .int .i64 0, .int .i64 0, .int .i64 0, .int .i64 0, .int .i64 0, .int .i64 0, .string ⟨#[]⟩, .int .i64 0, .int .i64 0, .int .i64 0] 57 39 57) := by have h := K0.out.putAt 9 n1; rw [put_plc] at h; exact h
 generalize ((((((((u1.setCell ⟨w.heap.size, 9, none⟩ (.int .i64 n1.dev)).setCell ⟨w.heap.size, 10, none⟩ (.int .i64 n1.seq)).setCell ⟨w.heap.size, 11, none⟩ (.int .i64 n1.stamp)).setCell ⟨w.heap.size, 12, none⟩ (.int .i64 n1.kind)).setCell ⟨w.heap.size, 13, none⟩ (.string n1.item)).setCell ⟨w.heap.size, 14, none⟩ (.int .i64 n1.qty)).setCell ⟨w.heap.size, 15, none⟩ (.int .i64 n1.level)).setCell ⟨w.heap.size, 16, none⟩ (.int .i64 n1.undos)) = x1 at J0 ⊢
 clear K0 c0 c1 c2 c3 c4 c5 c6 c7 f0 f1 f2 f3 f4 f5 f6 f7 o0 o1 o2 o3 o4 o5 o6 o7
 generalize hs : (⟨ml, cn, n1⟩ : StV) = s3 at J0
 have HS := Lib.hid hs
 clear hs
 go_wp2_with (first | (refine wpList_load_row rfl 57 (.tmp 2) rfl w.heap.size rfl 57 s3.cells (0, 0) _ J0.out.fst Tryz.underlying57 rfl s3.infoOf ?_) | (refine wpList_store_row rfl 57 (.tmp 4) (.tmp 40) rfl (w.heap.size + 1 + 1) s3.cells rfl rfl 57 #[.int .i64 0, .int .i64 0, .int .i64 0, .int .i64 0, .int .i64 0, .string ⟨#[]⟩, .int .i64 0, .int .i64 0, .int .i64 0, .int .i64 0, .int .i64 0, .int .i64 0, .int .i64 0, .string ⟨#[]⟩, .int .i64 0, .int .i64 0, .int .i64 0] J0.out.res s3.infoOf (by rw [StV.size]; rfl) s3.one ?_))
 have HX := setRow_heap x1 (w.heap.size + 1 + 1) #[.int .i64 0, .int .i64 0, .int .i64 0, .int .i64 0, .int .i64 0, .string ⟨#[]⟩, .int .i64 0, .int .i64 0, .int .i64 0, .int .i64 0, .int .i64 0, .int .i64 0, .int .i64 0, .string ⟨#[]⟩, .int .i64 0, .int .i64 0, .int .i64 0] s3.cells 57 (0, 0) J0.out.res
 exact bodyPost_ret (results_cell_row rfl _ _ _ _ _ _ _ rfl HX Tryz.underlying57 rfl s3.infoOf) rfl ⟨by rw [HE.out, HS.out]; rfl, setRow_below J0.out.bel (by omega) J0.out.res⟩
end Go.Proofs.YtejhmakfbmhhhaaGreat

namespace Go.Proofs.YtejhmakfbmhhhaaGreat
set_option maxRecDepth 100000
open Go.RowKit

set_option maxHeartbeats 20000000 in
theorem withW0 (s : StV) (o : OpV) (w : World) (h1 : o.kind ≠ 1) (h2 : o.kind ≠ 2) (h4 : o.kind ≠ 4) (h5 : o.kind ≠ 5) : Calls Tryz.prog 64 #[.agg s.cells, .agg o.cells] w fun e w' => e = .returned (withV s o).val ∧ Below w.heap.size w w' := by
 have H := Lib.hid (Tri.mk0 w s.cells o.cells #[.int .i64 0, .int .i64 0, .int .i64 0, .int .i64 0, .int .i64 0, .string ⟨#[]⟩, .int .i64 0, .int .i64 0, .int .i64 0, .int .i64 0, .int .i64 0, .int .i64 0, .int .i64 0, .string ⟨#[]⟩, .int .i64 0, .int .i64 0, .int .i64 0] 57 39 57)
 have HE := Lib.hid (with_0 (s := s) h1 h2 h4 h5)
 have b1 := beq_no h1
 have b2 := beq_no h2
 have b4 := beq_no h4
 have b5 := beq_no h5
 clear h1 h2 h4 h5
 go_enter Tryz.func64, Tryz.ntmps64
 go_upto_region 1 with fail
 generalize ((w.alloc (.cells s.cells 57)).alloc (.cells o.cells 39)).alloc (.cells #[.int .i64 0, .int .i64 0, .int .i64 0, .int .i64 0, .int .i64 0, .string ⟨#[]⟩, .int .i64 0, .int .i64 0, .int .i64 0, .int .i64 0, .int .i64 0, .int .i64 0, .int .i64 0, .string ⟨#[]⟩, .int .i64 0, .int .i64 0, .int .i64 0] 57) = w0 at H ⊢
 have cl := (st_at H.out.fst).1
 have fl := (st_frozen H.out.fst).1
 obtain ⟨_, _, _, o3, _, _, o6, _⟩ := op_at H.out.snd
 clear o3
 go_upto_region 2 with fail
 have H1 : Hid (Tri w (w0.setCell ⟨w.heap.size, 0, none⟩ (.int .i64 (max s.level o.level))) (⟨max s.level o.level, s.counted, s.placed⟩ : StV).cells o.cells #[.int .i64 0, .int .i64 0, .int .i64 0, .int .i64 0, .int .i64 0, .string ⟨#[]⟩, .int .i64 0, .int .i64 0, .int .i64 0, .int .i64 0, .int .i64 0, .int .i64 0, .int .i64 0, .string ⟨#[]⟩, .int .i64 0, .int .i64 0, .int .i64 0] 57 39 57) := H.out.put 0 (.int .i64 (max s.level o.level))
 generalize w0.setCell ⟨w.heap.size, 0, none⟩ (.int .i64 (max s.level o.level)) = w1 at H1 ⊢
 generalize max s.level o.level = ml at HE H1 ⊢
 clear cl fl o6 H
 generalize s.counted = cn at HE H1 ⊢
 generalize s.placed = pl at HE H1 ⊢
 have o3 := (op_at H1.out.snd).2.2.2.1
 go_upto_region 11 with fail
 clear o3
 generalize hs : (⟨ml, cn, pl⟩ : StV) = s3 at H1
 have HS := Lib.hid hs
 clear hs
 go_wp2_with (first | (refine wpList_load_row rfl 57 (.tmp 2) rfl w.heap.size rfl 57 s3.cells (0, 0) _ H1.out.fst Tryz.underlying57 rfl s3.infoOf ?_) | (refine wpList_store_row rfl 57 (.tmp 4) (.tmp 40) rfl (w.heap.size + 1 + 1) s3.cells rfl rfl 57 #[.int .i64 0, .int .i64 0, .int .i64 0, .int .i64 0, .int .i64 0, .string ⟨#[]⟩, .int .i64 0, .int .i64 0, .int .i64 0, .int .i64 0, .int .i64 0, .int .i64 0, .int .i64 0, .string ⟨#[]⟩, .int .i64 0, .int .i64 0, .int .i64 0] H1.out.res s3.infoOf (by rw [StV.size]; rfl) s3.one ?_))
 have HX := setRow_heap w1 (w.heap.size + 1 + 1) #[.int .i64 0, .int .i64 0, .int .i64 0, .int .i64 0, .int .i64 0, .string ⟨#[]⟩, .int .i64 0, .int .i64 0, .int .i64 0, .int .i64 0, .int .i64 0, .int .i64 0, .int .i64 0, .string ⟨#[]⟩, .int .i64 0, .int .i64 0, .int .i64 0] s3.cells 57 (0, 0) H1.out.res
 exact bodyPost_ret (results_cell_row rfl _ _ _ _ _ _ _ rfl HX Tryz.underlying57 rfl s3.infoOf) rfl ⟨by rw [HE.out, HS.out]; rfl, setRow_below H1.out.bel (by omega) H1.out.res⟩
end Go.Proofs.YtejhmakfbmhhhaaGreat

namespace Go.Proofs.YtejhmakfbmhhhaaGreat
set_option maxRecDepth 100000
open Go.RowKit

theorem withW (s : StV) (o : OpV) (w : World) : Calls Tryz.prog 64 #[s.val, o.val] w fun e w' => e = .returned (withV s o).val ∧ Below w.heap.size w w' := by
 by_cases h1 : o.kind = 1
 ·exact withW1 s o w h1
 by_cases h2 : o.kind = 2
 ·exact withW2 s o w h2
 by_cases h4 : o.kind = 4
 ·exact withW4 s o w h4
 by_cases h5 : o.kind = 5
 ·exact withW5 s o w h5
 exact withW0 s o w h1 h2 h4 h5
theorem presentW (s : StV) (h0 : 0 ≤ s.level) (w : World) : Calls Tryz.prog 38 #[.agg s.cells] w fun e w' => e = .returned (.bool (decide (s.level % 2 = 1))) ∧ Below w.heap.size w w' := by
 have hb0 : Below w.heap.size w (w.alloc (.cells s.cells 57)) := (Below.refl _ w).alloc (Nat.le_refl _) _
 have cl := (st_at (World.alloc_heap_new w (.cells s.cells 57))).1
 by_cases hm : s.level % 2 = 1
 ·have hm' : (s.level % 2 == 1) = true := by rw [hm]; rfl
  have HD := Lib.hid (decide_eq_true hm)
  have HB := Lib.hid hb0
  clear hm hb0
  go_enter Tryz.func38, Tryz.ntmps38
  go_wp2
  go_ret
  exact ⟨by rw [HD.out]; rfl, HB.out⟩
 ·have hm' : (s.level % 2 == 1) = false := by rw [beq_eq_false_iff_ne]; exact hm
  have HD := Lib.hid (decide_eq_false hm)
  have HB := Lib.hid hb0
  clear hm hb0
  go_enter Tryz.func38, Tryz.ntmps38
  go_wp2
  go_ret
  exact ⟨by rw [HD.out]; rfl, HB.out⟩
end Go.Proofs.YtejhmakfbmhhhaaGreat

namespace Go.Proofs.YtejhmakfbmhhhaaGreat
set_option maxRecDepth 100000
open Go.RowKit Go.Shelf
attribute [local go_sem] Oper.semAt_some

set_option maxHeartbeats 20000000 in
theorem keeps_below {B : Nat} {W W' : World} (h : Below W.heap.size W W') : KeepsFrom B W W' := KeepsFrom.of_grownBy (below_grown h) (fun j e => by cases e)
theorem text_ext {a b : ByteArray} (h : a.toList = b.toList) : a = b := by
 rw [Lib.toList_data, Lib.toList_data] at h
 exact ByteArray.ext (Array.toList_inj.1 h)
theorem Tryz.sizeOp : (Tryz.prog.info? 39).map (·.size) = some 8 := by kernel_rfl
theorem OpV.infoOp (o : OpV) : (Tryz.prog.info? 39).map (·.size) = some o.cells.size := by show _ = some 8; exact Tryz.sizeOp
end Go.Proofs.YtejhmakfbmhhhaaGreat

namespace Go.Proofs.YtejhmakfbmhhhaaGreat
set_option maxRecDepth 100000
open Go.RowKit

set_option maxHeartbeats 10000000 in
theorem l5Level (w : World) (B : Nat) (av ao : Option Addr) (nv cv no co : Nat) (xs : List Int) (l : List OpV) (item : ByteArray) (h : Ops w B ao no l) (hB : B ≤ w.heap.size) (hn : no ≤ 1048576) (hc : cartB xs l = true) : Calls Tryz.prog 49 #[.agg #[.slice av nv cv, .slice ao no co], .string item] w fun e w' => e = .returned (.int .i64 (levTo item l l.length)) ∧ Below w.heap.size w w' := by
 have hb0 : Below w.heap.size w (w.alloc (.cells #[.slice av nv cv, .slice ao no co] 27)) := (Below.refl _ w).alloc (Nat.le_refl _) _
 have HO := Lib.hid (h.below hb0 hB)
 have HB := Lib.hid hb0
 have HX := Lib.hid (boxAt (Below.refl _ (w.alloc (.cells #[.slice av nv cv, .slice ao no co] 27))))
 have HL := Lib.hid h.1
 have hsz : w.heap.size < (w.alloc (.cells #[.slice av nv cv, .slice ao no co] 27)).heap.size := by show _ < (w.heap.push _).size; simp
 have HC : Hid (∀ k, k < no → 0 ≤ (l.getD k OpV.zero).undos) := fun k hk => by
  obtain ⟨_, _, _, _, _, hok, _, _⟩ := cart_atV hc (i := k) (by rw [h.1]; exact hk)
  exact (undos_of hok).1
 clear h hb0 hc
 go_enter Tryz.func49, Tryz.ntmps49
 go_wp2_with fail
 generalize w.alloc (.cells #[.slice av nv cv, .slice ao no co] 27) = w0 at HO HB HX hsz ⊢
 go_wp2
 go_loopw [5, 6] (fun n i wr => ∃ k : Nat, k ≤ no ∧ i = .int .i64 k ∧ n = .int .i64 (levTo item l k) ∧ Hid (Below w0.heap.size w0 wr)) (fun _ i _ => no - (intOf i).toNat)
 case atStart => exact ⟨0, Nat.zero_le _, rfl, rfl, Below.refl _ _⟩
 case round =>
  obtain ⟨k, hk, rfl, rfl, HBr⟩ := hrel
  obtain ⟨c0, c1⟩ := pair_cells ((HBr.out.block _ hsz).trans HX.out)
  by_cases hlt : k < no
  rotate_left
  ·obtain rfl : k = no := by omega
   go_wp2
   go_ret
   exact ⟨by rw [HL.out]; rfl, HB.out.trans (HBr.out.mono HB.out.size)⟩
  obtain ⟨b, off, rfl, hb, ho⟩ := HO.out.2 k hlt
  obtain ⟨d0, d1, d2, d3, d4, d5, d6, d7⟩ := ho.kept (HBr.out.block b (by omega))
  have hu0 := HC.out k hlt
  have HU : Hid (levTo item l (k + 1) = if (l.getD k OpV.zero).item = item ∧ (l.getD k OpV.zero).undos % 2 = 0 then max (levTo item l k) (l.getD k OpV.zero).level else levTo item l k) := rfl
  have HO1 := Lib.hid ho
  clear ho
  generalize l.getD k OpV.zero = x at HU hu0 d0 d1 d2 d3 d4 d5 d6 d7 HO1
  by_cases hd : x.item = item
  rotate_left
  ·have hbq : (x.item.toList == item.toList) = false := by rw [beq_eq_false_iff_ne]; exact fun h => hd (text_ext h)
   have HE : Hid (levTo item l (k + 1) = levTo item l k) := by show _ = _; rw [HU.out, if_neg (fun h => hd h.1)]
   clear hd HU
   go_wp2
   go_roundw
   case rel => exact ⟨k + 1, by omega, by go_num, by rw [HE.out], HBr⟩
   case measure => simp [intOf]; omega
  have hbq : (x.item.toList == item.toList) = true := by rw [hd]; exact beq_self_eq_true _
  have HD := Lib.hid hd
  clear hd
  go_wp2_with fail
  refine (l3Live x.dev x.seq x.stamp x.kind x.item x.qty x.level x.undos _ hu0).mono ?_
  rintro e w2 ⟨rfl, hb2⟩
  have HB2 := Lib.hid (HBr.out.trans (hb2.mono HBr.out.size))
  clear hb2 c0 c1 d0 d1 d2 d3 d4 d5 d6 d7
  obtain ⟨c0, c1⟩ := pair_cells ((HB2.out.block _ hsz).trans HX.out)
  obtain ⟨d0, d1, d2, d3, d4, d5, d6, d7⟩ := HO1.out.kept (HB2.out.block b (by omega))
  by_cases hu : x.undos % 2 = 0
  ·have hq : decide (x.undos % 2 = 0) = true := decide_eq_true hu
   have HE : Hid (levTo item l (k + 1) = max (levTo item l k) x.level) := by show _ = _; rw [HU.out, if_pos ⟨HD.out, hu⟩]
   rw [hq]
   clear hu hq HU
   go_wp2
   go_roundw
   case rel => exact ⟨k + 1, by omega, by go_num, by rw [HE.out], HB2⟩
   case measure => simp [intOf]; omega
  ·have hq : decide (x.undos % 2 = 0) = false := decide_eq_false hu
   have HE : Hid (levTo item l (k + 1) = levTo item l k) := by show _ = _; rw [HU.out, if_neg (fun h => hu h.2)]
   rw [hq]
   clear hu hq HU
   go_wp2
   go_roundw
   case rel => exact ⟨k + 1, by omega, by go_num, by rw [HE.out], HB2⟩
   case measure => simp [intOf]; omega

end Go.Proofs.YtejhmakfbmhhhaaGreat
