/- The walk of the method with of an item's state, at an operation of one kind. -/
import Derived.Test.YtideaompdbdbhaaStateL
import Derived.Deep.Cut
namespace Go.Proofs.Ytideaompdbdbhaa
open Go.RowKit

set_option maxRecDepth 100000 in
set_option maxHeartbeats 4000000 in
theorem withW4 (s : StV) (o : OpV) (w : World) (h4 : o.kind = 4) : Calls Try.prog 55 #[.agg s.cells, .agg o.cells] w fun e w' => e = .returned (withV s o).val ∧ Below w.heap.size w w' := by
  have H := Lib.hid (Tri.mk0 w s.cells o.cells #[.int .i64 0, .int .i64 0, .int .i64 0, .int .i64 0, .int .i64 0, .string ⟨#[]⟩, .int .i64 0, .int .i64 0, .int .i64 0, .int .i64 0, .int .i64 0, .int .i64 0, .int .i64 0, .string ⟨#[]⟩, .int .i64 0, .int .i64 0, .int .i64 0] 56 54 56)
  have HE := Lib.hid (with_4 (s := s) (.inl h4))
  have b1 : (o.kind == 1) = false := beq_no (by omega)
  have b2 : (o.kind == 2) = false := beq_no (by omega)
  have b4 := beq_yes h4
  clear h4
  go_enter Try.func55, Try.ntmps55
  go_upto_region 1 with fail
  generalize ((w.alloc (.cells s.cells 56)).alloc (.cells o.cells 54)).alloc (.cells #[.int .i64 0, .int .i64 0, .int .i64 0, .int .i64 0, .int .i64 0, .string ⟨#[]⟩, .int .i64 0, .int .i64 0, .int .i64 0, .int .i64 0, .int .i64 0, .int .i64 0, .int .i64 0, .string ⟨#[]⟩, .int .i64 0, .int .i64 0, .int .i64 0] 56) = w0 at H ⊢
  have cl := (st_at H.out.fst).1
  have fl := (st_frozen H.out.fst).1
  obtain ⟨_, _, _, o3, _, _, o6, _⟩ := op_at H.out.snd
  clear o3
  go_upto_region 2 with fail
  have H1 : Hid (Tri w (w0.setCell ⟨w.heap.size, 0, none⟩ (.int .i64 (max s.level o.level))) (⟨max s.level o.level, s.counted, s.placed⟩ : StV).cells o.cells #[.int .i64 0, .int .i64 0, .int .i64 0, .int .i64 0, .int .i64 0, .string ⟨#[]⟩, .int .i64 0, .int .i64 0, .int .i64 0, .int .i64 0, .int .i64 0, .int .i64 0, .int .i64 0, .string ⟨#[]⟩, .int .i64 0, .int .i64 0, .int .i64 0] 56 54 56) := H.out.put 0 (.int .i64 (max s.level o.level))
  generalize w0.setCell ⟨w.heap.size, 0, none⟩ (.int .i64 (max s.level o.level)) = w1 at H1 ⊢
  generalize max s.level o.level = ml at HE H1 ⊢
  clear cl fl o6 H
  generalize s.counted = cn at HE H1 ⊢
  generalize s.placed = pl at HE H1 ⊢
  obtain ⟨o0, o1, o2, o3, o4, o5, o6, o7⟩ := op_at H1.out.snd
  obtain ⟨_, _, _, _, _, _, _, _, _, c0, c1, c2, c3, c4, c5, c6, c7⟩ := st_at H1.out.fst
  go_wp2_with fail
  refine (laterW pl o w1).mono ?_
  rintro e u1 ⟨rfl, hb⟩
  have K0 := Lib.hid (H1.out.next hb)
  clear hb H1 c0 c1 c2 c3 c4 c5 c6 c7 o0 o1 o2 o3 o4 o5 o6 o7
  generalize laterV pl o = n1 at HE ⊢
  simp only [OpV.val]
  obtain ⟨_, _, _, _, _, _, _, _, _, c0, c1, c2, c3, c4, c5, c6, c7⟩ := st_at K0.out.fst
  obtain ⟨_, _, _, _, _, _, _, _, _, f0, f1, f2, f3, f4, f5, f6, f7⟩ := st_frozen K0.out.fst
  obtain ⟨o0, o1, o2, o3, o4, o5, o6, o7⟩ := op_at K0.out.snd
  go_upto_region 11 with fail
  have J0 : Hid (Tri w ((((((((u1.setCell ⟨w.heap.size, 9, none⟩ (.int .i64 n1.dev)).setCell ⟨w.heap.size, 10, none⟩ (.int .i64 n1.seq)).setCell ⟨w.heap.size, 11, none⟩ (.int .i64 n1.stamp)).setCell ⟨w.heap.size, 12, none⟩ (.int .i64 n1.kind)).setCell ⟨w.heap.size, 13, none⟩ (.string n1.item)).setCell ⟨w.heap.size, 14, none⟩ (.int .i64 n1.qty)).setCell ⟨w.heap.size, 15, none⟩ (.int .i64 n1.level)).setCell ⟨w.heap.size, 16, none⟩ (.int .i64 n1.undos)) (⟨ml, cn, n1⟩ : StV).cells o.cells #[.int .i64 0, .int .i64 0, .int .i64 0, .int .i64 0, .int .i64 0, .string ⟨#[]⟩, .int .i64 0, .int .i64 0, .int .i64 0, .int .i64 0, .int .i64 0, .int .i64 0, .int .i64 0, .string ⟨#[]⟩, .int .i64 0, .int .i64 0, .int .i64 0] 56 54 56) := by have h := K0.out.putAt 9 n1; rw [put_plc] at h; exact h
  generalize ((((((((u1.setCell ⟨w.heap.size, 9, none⟩ (.int .i64 n1.dev)).setCell ⟨w.heap.size, 10, none⟩ (.int .i64 n1.seq)).setCell ⟨w.heap.size, 11, none⟩ (.int .i64 n1.stamp)).setCell ⟨w.heap.size, 12, none⟩ (.int .i64 n1.kind)).setCell ⟨w.heap.size, 13, none⟩ (.string n1.item)).setCell ⟨w.heap.size, 14, none⟩ (.int .i64 n1.qty)).setCell ⟨w.heap.size, 15, none⟩ (.int .i64 n1.level)).setCell ⟨w.heap.size, 16, none⟩ (.int .i64 n1.undos)) = x1 at J0 ⊢
  clear K0 c0 c1 c2 c3 c4 c5 c6 c7 f0 f1 f2 f3 f4 f5 f6 f7 o0 o1 o2 o3 o4 o5 o6 o7
  generalize hs : (⟨ml, cn, n1⟩ : StV) = s3 at J0
  have HS := Lib.hid hs
  clear hs
  go_wp2_with (first | (refine wpList_load_row rfl 56 (.tmp 2) rfl w.heap.size rfl 56 s3.cells (0, 0) _ J0.out.fst Try.underlying56 rfl s3.infoOf ?_) | (refine wpList_store_row rfl 56 (.tmp 4) (.tmp 40) rfl (w.heap.size + 1 + 1) s3.cells rfl rfl 56 #[.int .i64 0, .int .i64 0, .int .i64 0, .int .i64 0, .int .i64 0, .string ⟨#[]⟩, .int .i64 0, .int .i64 0, .int .i64 0, .int .i64 0, .int .i64 0, .int .i64 0, .int .i64 0, .string ⟨#[]⟩, .int .i64 0, .int .i64 0, .int .i64 0] J0.out.res s3.infoOf (by rw [StV.size]; rfl) s3.one ?_))
  have HX := setRow_heap x1 (w.heap.size + 1 + 1) #[.int .i64 0, .int .i64 0, .int .i64 0, .int .i64 0, .int .i64 0, .string ⟨#[]⟩, .int .i64 0, .int .i64 0, .int .i64 0, .int .i64 0, .int .i64 0, .int .i64 0, .int .i64 0, .string ⟨#[]⟩, .int .i64 0, .int .i64 0, .int .i64 0] s3.cells 56 (0, 0) J0.out.res
  exact bodyPost_ret (results_cell_row rfl _ _ _ _ _ _ _ rfl HX Try.underlying56 rfl s3.infoOf) rfl ⟨by rw [HE.out, HS.out]; rfl, setRow_below J0.out.bel (by omega) J0.out.res⟩
end Go.Proofs.Ytideaompdbdbhaa
