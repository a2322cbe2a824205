/- The walk of the method with of an item's state, at an operation of one kind. -/
import Derived.Test.YtideaompdbdbhaaStateL
import Derived.Deep.Cut
namespace Go.Proofs.Ytideaompdbdbhaa
open Go.RowKit

set_option maxRecDepth 100000 in
set_option maxHeartbeats 4000000 in
theorem withW0 (s : StV) (o : OpV) (w : World) (h1 : o.kind ≠ 1) (h2 : o.kind ≠ 2) (h4 : o.kind ≠ 4) (h5 : o.kind ≠ 5) : Calls Try.prog 55 #[.agg s.cells, .agg o.cells] w fun e w' => e = .returned (withV s o).val ∧ Below w.heap.size w w' := by
  have H := Lib.hid (Tri.mk0 w s.cells o.cells #[.int .i64 0, .int .i64 0, .int .i64 0, .int .i64 0, .int .i64 0, .string ⟨#[]⟩, .int .i64 0, .int .i64 0, .int .i64 0, .int .i64 0, .int .i64 0, .int .i64 0, .int .i64 0, .string ⟨#[]⟩, .int .i64 0, .int .i64 0, .int .i64 0] 56 54 56)
  have HE := Lib.hid (with_0 (s := s) h1 h2 h4 h5)
  have b1 := beq_no h1
  have b2 := beq_no h2
  have b4 := beq_no h4
  have b5 := beq_no h5
  clear h1 h2 h4 h5
  go_enter Try.func55, Try.ntmps55
  go_upto_region 1 with fail
  generalize ((w.alloc (.cells s.cells 56)).alloc (.cells o.cells 54)).alloc (.cells #[.int .i64 0, .int .i64 0, .int .i64 0, .int .i64 0, .int .i64 0, .string ⟨#[]⟩, .int .i64 0, .int .i64 0, .int .i64 0, .int .i64 0, .int .i64 0, .int .i64 0, .int .i64 0, .string ⟨#[]⟩, .int .i64 0, .int .i64 0, .int .i64 0] 56) = w0 at H ⊢
  have cl := (st_at H.out.fst).1
  have fl := (st_frozen H.out.fst).1
  obtain ⟨_, _, _, o3, _, _, o6, _⟩ := op_at H.out.snd
  clear o3
  go_upto_region 2 with fail
  have H1 : Hid (Tri w (w0.setCell ⟨w.heap.size, 0, none⟩ (.int .i64 (max s.level o.level))) (⟨max s.level o.level, s.counted, s.placed⟩ : StV).cells o.cells #[.int .i64 0, .int .i64 0, .int .i64 0, .int .i64 0, .int .i64 0, .string ⟨#[]⟩, .int .i64 0, .int .i64 0, .int .i64 0, .int .i64 0, .int .i64 0, .int .i64 0, .int .i64 0, .string ⟨#[]⟩, .int .i64 0, .int .i64 0, .int .i64 0] 56 54 56) := H.out.put 0 (.int .i64 (max s.level o.level))
  generalize w0.setCell ⟨w.heap.size, 0, none⟩ (.int .i64 (max s.level o.level)) = w1 at H1 ⊢
  generalize max s.level o.level = ml at HE H1 ⊢
  clear cl fl o6 H
  generalize s.counted = cn at HE H1 ⊢
  generalize s.placed = pl at HE H1 ⊢
  have o3 := (op_at H1.out.snd).2.2.2.1
  go_upto_region 11 with fail
  clear o3
  generalize hs : (⟨ml, cn, pl⟩ : StV) = s3 at H1
  have HS := Lib.hid hs
  clear hs
  go_wp2_with (first | (refine wpList_load_row rfl 56 (.tmp 2) rfl w.heap.size rfl 56 s3.cells (0, 0) _ H1.out.fst Try.underlying56 rfl s3.infoOf ?_) | (refine wpList_store_row rfl 56 (.tmp 4) (.tmp 40) rfl (w.heap.size + 1 + 1) s3.cells rfl rfl 56 #[.int .i64 0, .int .i64 0, .int .i64 0, .int .i64 0, .int .i64 0, .string ⟨#[]⟩, .int .i64 0, .int .i64 0, .int .i64 0, .int .i64 0, .int .i64 0, .int .i64 0, .int .i64 0, .string ⟨#[]⟩, .int .i64 0, .int .i64 0, .int .i64 0] H1.out.res s3.infoOf (by rw [StV.size]; rfl) s3.one ?_))
  have HX := setRow_heap w1 (w.heap.size + 1 + 1) #[.int .i64 0, .int .i64 0, .int .i64 0, .int .i64 0, .int .i64 0, .string ⟨#[]⟩, .int .i64 0, .int .i64 0, .int .i64 0, .int .i64 0, .int .i64 0, .int .i64 0, .int .i64 0, .string ⟨#[]⟩, .int .i64 0, .int .i64 0, .int .i64 0] s3.cells 56 (0, 0) H1.out.res
  exact bodyPost_ret (results_cell_row rfl _ _ _ _ _ _ _ rfl HX Try.underlying56 rfl s3.infoOf) rfl ⟨by rw [HE.out, HS.out]; rfl, setRow_below H1.out.bel (by omega) H1.out.res⟩
end Go.Proofs.Ytideaompdbdbhaa
