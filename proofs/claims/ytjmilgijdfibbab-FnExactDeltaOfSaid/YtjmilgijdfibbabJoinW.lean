/- The walks of impl.nameOf, impl.joined and spec.l4Same: are two operations one but for how often they were undone? -/
import Derived.Test.YtjmilgijdfibbabMapB
import Derived.Lib.MinMax
import Derived.Deep.Cut
namespace Go.Proofs.Ytjmilgijdfibbab
open Go.RowKit

def OpV.with (o : OpV) (u : Int) : OpV := ⟨o.dev, o.seq, o.stamp, o.kind, o.item, o.qty, o.level, u⟩
/-- The same but for how often they were undone. -/
def sameB (a b : OpV) : Bool := a.dev == b.dev && (a.seq == b.seq && (a.stamp == b.stamp && (a.kind == b.kind && (a.item.toList == b.item.toList && (a.qty == b.qty && a.level == b.level)))))
theorem text_same {a b : ByteArray} (h : a.toList = b.toList) : a = b := by
  rw [Lib.toList_data, Lib.toList_data] at h
  exact ByteArray.ext (Array.toList_inj.1 h)
theorem same_yes {a b : OpV} (h : sameB a b = true) : b = a.with b.undos := by
  obtain ⟨a0, a1, a2, a3, a4, a5, a6, a7⟩ := a
  obtain ⟨b0, b1, b2, b3, b4, b5, b6, b7⟩ := b
  unfold sameB at h
  simp only [Bool.and_eq_true, beq_iff_eq] at h
  obtain ⟨h0, h1, h2, h3, h4, h5, h6⟩ := h
  have h4 := text_same h4
  subst h0 h1 h2 h3 h4 h5 h6
  rfl
theorem same_with (a : OpV) (u : Int) : sameB a (a.with u) = true := by
  unfold sameB OpV.with
  simp
set_option maxRecDepth 100000 in
theorem nameOf (x : OpV) (w : World) : Calls Try.prog 58 #[.agg #[.int .i64 x.dev, .int .i64 x.seq, .int .i64 x.stamp, .int .i64 x.kind, .string x.item, .int .i64 x.qty, .int .i64 x.level, .int .i64 x.undos]] w fun e w' => e = .returned (nameV x.dev x.seq) ∧ Below w.heap.size w w' := by
  have hb : Below w.heap.size w ((w.alloc (.cells #[.int .i64 x.dev, .int .i64 x.seq, .int .i64 x.stamp, .int .i64 x.kind, .string x.item, .int .i64 x.qty, .int .i64 x.level, .int .i64 x.undos] 66)).alloc (.cells #[.int .i64 0, .int .i64 0] 68)) := ((Below.refl _ w).alloc (Nat.le_refl _) _).alloc (by simp) _
  have h0 : ((w.alloc (.cells #[.int .i64 x.dev, .int .i64 x.seq, .int .i64 x.stamp, .int .i64 x.kind, .string x.item, .int .i64 x.qty, .int .i64 x.level, .int .i64 x.undos] 66)).alloc (.cells #[.int .i64 0, .int .i64 0] 68)).heap[w.heap.size]? = some (.cells #[.int .i64 x.dev, .int .i64 x.seq, .int .i64 x.stamp, .int .i64 x.kind, .string x.item, .int .i64 x.qty, .int .i64 x.level, .int .i64 x.undos] 66 (0, 0)) := (Below.heap_alloc _ _ _ (by simp)).trans (heap_alloc_new w _)
  have h1 : ((w.alloc (.cells #[.int .i64 x.dev, .int .i64 x.seq, .int .i64 x.stamp, .int .i64 x.kind, .string x.item, .int .i64 x.qty, .int .i64 x.level, .int .i64 x.undos] 66)).alloc (.cells #[.int .i64 0, .int .i64 0] 68)).heap[w.heap.size + 1]? = some (.cells #[.int .i64 0, .int .i64 0] 68 (0, 0)) := by
    have e1 : (w.alloc (.cells #[.int .i64 x.dev, .int .i64 x.seq, .int .i64 x.stamp, .int .i64 x.kind, .string x.item, .int .i64 x.qty, .int .i64 x.level, .int .i64 x.undos] 66)).heap.size = w.heap.size + 1 := by simp
    rw [← e1]
    exact heap_alloc_new _ _
  go_enter Try.func58, Try.ntmps58
  go_upto_region 1 with fail
  generalize (w.alloc (.cells #[.int .i64 x.dev, .int .i64 x.seq, .int .i64 x.stamp, .int .i64 x.kind, .string x.item, .int .i64 x.qty, .int .i64 x.level, .int .i64 x.undos] 66)).alloc (.cells #[.int .i64 0, .int .i64 0] 68) = w0 at hb h0 h1 ⊢
  obtain ⟨e0, e1, e2, e3, e4, e5, e6, e7⟩ := op_cells h0
  obtain ⟨c0, c1⟩ := pair_cells h1
  obtain ⟨f0, f1⟩ := pair_frozen h1
  go_wp2
  have HX := Lib.hid (pair_set (.int .i64 x.dev) (.int .i64 x.seq) h1)
  have HB : Hid (Below w.heap.size w ((w0.setCell ⟨w.heap.size + 1, 0, none⟩ (.int .i64 x.dev)).setCell ⟨w.heap.size + 1, 1, none⟩ (.int .i64 x.seq))) := (hb.setCell (by show _ ≤ w.heap.size + 1; omega) _).setCell (by show _ ≤ w.heap.size + 1; omega) _
  generalize (w0.setCell ⟨w.heap.size + 1, 0, none⟩ (.int .i64 x.dev)).setCell ⟨w.heap.size + 1, 1, none⟩ (.int .i64 x.seq) = wf at HX HB ⊢
  obtain ⟨d0, d1⟩ := pair_cells HX.out
  exact bodyPost_ret (v := nameV x.dev x.seq) (by simp [results, Try.results58, go_sem, d0, d1, nameV]) rfl ⟨rfl, HB.out⟩
theorem TriF.und {w w1 : World} {x0 x1 x2 x3 x4 x5 x6 x7 y0 y1 y2 y3 y4 y5 y6 y7 : Value} {z : Array Value} {S T U : TypeId} (h : TriF w w1 #[x0, x1, x2, x3, x4, x5, x6, x7] #[y0, y1, y2, y3, y4, y5, y6, y7] z S T U) (u v : Value) :
    TriF w ((w1.setCell ⟨w.heap.size, 7, none⟩ u).setCell ⟨w.heap.size + 1, 7, none⟩ v) #[x0, x1, x2, x3, x4, x5, x6, u] #[y0, y1, y2, y3, y4, y5, y6, v] z S T U := by
  have h1 : (w1.setCell ⟨w.heap.size, 7, none⟩ u).heap[w.heap.size]? = some (.cells #[x0, x1, x2, x3, x4, x5, x6, u] S (0, 0)) := heap_setCell_same _ _ _ _ _ _ h.fst
  have h2 : (w1.setCell ⟨w.heap.size, 7, none⟩ u).heap[w.heap.size + 1]? = some (.cells #[y0, y1, y2, y3, y4, y5, y6, y7] T (0, 0)) := (heap_setCell_other _ _ _ _ (by show w.heap.size + 1 ≠ w.heap.size; omega)).trans h.snd
  refine ⟨(heap_setCell_other _ _ _ _ (by show w.heap.size ≠ w.heap.size + 1; omega)).trans h1, heap_setCell_same _ _ _ _ _ _ h2, ?_, (h.bel.setCell (Nat.le_refl _) _).setCell (by show _ ≤ w.heap.size + 1; omega) _⟩
  exact (heap_setCell_other _ _ _ _ (by show w.heap.size + 1 + 1 ≠ w.heap.size + 1; omega)).trans ((heap_setCell_other _ _ _ _ (by show w.heap.size + 1 + 1 ≠ w.heap.size; omega)).trans h.res)
set_option linter.unusedSimpArgs false in
set_option maxRecDepth 100000 in
set_option maxHeartbeats 4000000 in
theorem joinedYes (a : OpV) (u : Int) (w : World) : Calls Try.prog 59 #[.agg #[.int .i64 a.dev, .int .i64 a.seq, .int .i64 a.stamp, .int .i64 a.kind, .string a.item, .int .i64 a.qty, .int .i64 a.level, .int .i64 a.undos], .agg #[.int .i64 a.dev, .int .i64 a.seq, .int .i64 a.stamp, .int .i64 a.kind, .string a.item, .int .i64 a.qty, .int .i64 a.level, .int .i64 u]] w fun e w' => e = .returned (.tuple #[.agg #[.int .i64 a.dev, .int .i64 a.seq, .int .i64 a.stamp, .int .i64 a.kind, .string a.item, .int .i64 a.qty, .int .i64 a.level, .int .i64 (max a.undos u)], .bool true]) ∧ Below w.heap.size w w' := by
  have HT := Lib.hid (TriF.mk0 w #[.int .i64 a.dev, .int .i64 a.seq, .int .i64 a.stamp, .int .i64 a.kind, .string a.item, .int .i64 a.qty, .int .i64 a.level, .int .i64 a.undos] #[.int .i64 a.dev, .int .i64 a.seq, .int .i64 a.stamp, .int .i64 a.kind, .string a.item, .int .i64 a.qty, .int .i64 a.level, .int .i64 u] #[.int .i64 0, .int .i64 0, .int .i64 0, .int .i64 0, .string ⟨#[]⟩, .int .i64 0, .int .i64 0, .int .i64 0] 66 66 66)
  go_enter Try.func59, Try.ntmps59
  go_upto_region 2 with fail
  generalize ((w.alloc (.cells #[.int .i64 a.dev, .int .i64 a.seq, .int .i64 a.stamp, .int .i64 a.kind, .string a.item, .int .i64 a.qty, .int .i64 a.level, .int .i64 a.undos] 66)).alloc (.cells #[.int .i64 a.dev, .int .i64 a.seq, .int .i64 a.stamp, .int .i64 a.kind, .string a.item, .int .i64 a.qty, .int .i64 a.level, .int .i64 u] 66)).alloc (.cells #[.int .i64 0, .int .i64 0, .int .i64 0, .int .i64 0, .string ⟨#[]⟩, .int .i64 0, .int .i64 0, .int .i64 0] 66) = w0 at HT ⊢
  obtain ⟨a0, a1, a2, a3, a4, a5, a6, a7⟩ := op_cells HT.out.fst
  obtain ⟨b0, b1, b2, b3, b4, b5, b6, b7⟩ := op_cells HT.out.snd
  obtain ⟨f0, f1, f2, f3, f4, f5, f6, f7⟩ := op_frozen HT.out.fst
  obtain ⟨g0, g1, g2, g3, g4, g5, g6, g7⟩ := op_frozen HT.out.snd
  have HT1 := Lib.hid (HT.out.und (.int .i64 (max a.undos u)) (.int .i64 (max a.undos u)))
  clear HT
  go_upto_region 3 with fail
  clear a0 a1 a2 a3 a4 a5 a6 a7 b0 b1 b2 b3 b4 b5 b6 b7 f0 f1 f2 f3 f4 f5 f6 f7 g0 g1 g2 g3 g4 g5 g6 g7
  generalize (w0.setCell ⟨w.heap.size, 7, none⟩ (.int .i64 (max a.undos u))).setCell ⟨w.heap.size + 1, 7, none⟩ (.int .i64 (max a.undos u)) = w1 at HT1 ⊢
  obtain ⟨a0, a1, a2, a3, a4, a5, a6, a7⟩ := op_cells HT1.out.fst
  obtain ⟨b0, b1, b2, b3, b4, b5, b6, b7⟩ := op_cells HT1.out.snd
  obtain ⟨e0, e1, e2, e3, e4, e5, e6, e7⟩ := op_cells HT1.out.res
  obtain ⟨f0, f1, f2, f3, f4, f5, f6, f7⟩ := op_frozen HT1.out.res
  generalize hm : max a.undos u = m at HT1 a7 b7 ⊢
  have HMx := Lib.hid hm
  clear hm
  go_wp2
  have HX := Lib.hid (setOp_same (.int .i64 a.dev) (.int .i64 a.seq) (.int .i64 a.stamp) (.int .i64 a.kind) (.string a.item) (.int .i64 a.qty) (.int .i64 a.level) (.int .i64 m) HT1.out.res)
  have HB := Lib.hid (setOp_below (.int .i64 a.dev) (.int .i64 a.seq) (.int .i64 a.stamp) (.int .i64 a.kind) (.string a.item) (.int .i64 a.qty) (.int .i64 a.level) (.int .i64 m) HT1.out.bel (by show _ ≤ w.heap.size + 1 + 1; omega))
  clear a0 a1 a2 a3 a4 a5 a6 a7 b0 b1 b2 b3 b4 b5 b6 b7 e0 e1 e2 e3 e4 e5 e6 e7 f0 f1 f2 f3 f4 f5 f6 f7
  change bodyPost _ _ _ _ _ (setOp w1 (w.heap.size + 1 + 1) (.int .i64 a.dev) (.int .i64 a.seq) (.int .i64 a.stamp) (.int .i64 a.kind) (.string a.item) (.int .i64 a.qty) (.int .i64 a.level) (.int .i64 m))
  generalize setOp w1 (w.heap.size + 1 + 1) (.int .i64 a.dev) (.int .i64 a.seq) (.int .i64 a.stamp) (.int .i64 a.kind) (.string a.item) (.int .i64 a.qty) (.int .i64 a.level) (.int .i64 m) = wf at HX HB ⊢
  obtain ⟨d0, d1, d2, d3, d4, d5, d6, d7⟩ := op_cells HX.out
  exact bodyPost_ret (v := .tuple #[.agg #[.int .i64 a.dev, .int .i64 a.seq, .int .i64 a.stamp, .int .i64 a.kind, .string a.item, .int .i64 a.qty, .int .i64 a.level, .int .i64 m], .bool true]) (by simp [results, Try.results59, go_sem, d0, d1, d2, d3, d4, d5, d6, d7]) rfl ⟨by rw [HMx.out], HB.out⟩
set_option linter.unusedSimpArgs false in
set_option maxRecDepth 100000 in
set_option maxHeartbeats 4000000 in
theorem joinedNo (a b : OpV) (hs : sameB a b = false) (w : World) : Calls Try.prog 59 #[.agg #[.int .i64 a.dev, .int .i64 a.seq, .int .i64 a.stamp, .int .i64 a.kind, .string a.item, .int .i64 a.qty, .int .i64 a.level, .int .i64 a.undos], .agg #[.int .i64 b.dev, .int .i64 b.seq, .int .i64 b.stamp, .int .i64 b.kind, .string b.item, .int .i64 b.qty, .int .i64 b.level, .int .i64 b.undos]] w fun e w' => e = .returned (.tuple #[.agg #[.int .i64 0, .int .i64 0, .int .i64 0, .int .i64 0, .string ⟨#[]⟩, .int .i64 0, .int .i64 0, .int .i64 0], .bool false]) ∧ Below w.heap.size w w' := by
  have HT := Lib.hid (TriF.mk0 w #[.int .i64 a.dev, .int .i64 a.seq, .int .i64 a.stamp, .int .i64 a.kind, .string a.item, .int .i64 a.qty, .int .i64 a.level, .int .i64 a.undos] #[.int .i64 b.dev, .int .i64 b.seq, .int .i64 b.stamp, .int .i64 b.kind, .string b.item, .int .i64 b.qty, .int .i64 b.level, .int .i64 b.undos] #[.int .i64 0, .int .i64 0, .int .i64 0, .int .i64 0, .string ⟨#[]⟩, .int .i64 0, .int .i64 0, .int .i64 0] 66 66 66)
  have HS := Lib.hid hs
  clear hs
  go_enter Try.func59, Try.ntmps59
  go_upto_region 2 with fail
  generalize ((w.alloc (.cells #[.int .i64 a.dev, .int .i64 a.seq, .int .i64 a.stamp, .int .i64 a.kind, .string a.item, .int .i64 a.qty, .int .i64 a.level, .int .i64 a.undos] 66)).alloc (.cells #[.int .i64 b.dev, .int .i64 b.seq, .int .i64 b.stamp, .int .i64 b.kind, .string b.item, .int .i64 b.qty, .int .i64 b.level, .int .i64 b.undos] 66)).alloc (.cells #[.int .i64 0, .int .i64 0, .int .i64 0, .int .i64 0, .string ⟨#[]⟩, .int .i64 0, .int .i64 0, .int .i64 0] 66) = w0 at HT ⊢
  obtain ⟨a0, a1, a2, a3, a4, a5, a6, a7⟩ := op_cells HT.out.fst
  obtain ⟨b0, b1, b2, b3, b4, b5, b6, b7⟩ := op_cells HT.out.snd
  obtain ⟨f0, f1, f2, f3, f4, f5, f6, f7⟩ := op_frozen HT.out.fst
  obtain ⟨g0, g1, g2, g3, g4, g5, g6, g7⟩ := op_frozen HT.out.snd
  have HT1 := Lib.hid (HT.out.und (.int .i64 (max a.undos b.undos)) (.int .i64 (max a.undos b.undos)))
  clear HT
  go_upto_region 3 with fail
  clear a0 a1 a2 a3 a4 a5 a6 a7 b0 b1 b2 b3 b4 b5 b6 b7 f0 f1 f2 f3 f4 f5 f6 f7 g0 g1 g2 g3 g4 g5 g6 g7
  generalize (w0.setCell ⟨w.heap.size, 7, none⟩ (.int .i64 (max a.undos b.undos))).setCell ⟨w.heap.size + 1, 7, none⟩ (.int .i64 (max a.undos b.undos)) = w1 at HT1 ⊢
  obtain ⟨a0, a1, a2, a3, a4, a5, a6, a7⟩ := op_cells HT1.out.fst
  obtain ⟨b0, b1, b2, b3, b4, b5, b6, b7⟩ := op_cells HT1.out.snd
  obtain ⟨e0, e1, e2, e3, e4, e5, e6, e7⟩ := op_cells HT1.out.res
  obtain ⟨f0, f1, f2, f3, f4, f5, f6, f7⟩ := op_frozen HT1.out.res
  generalize max a.undos b.undos = m at HT1 a7 b7 ⊢
  go_wp2
  all_goals first
    | (exfalso
       have hf := HS.out
       unfold sameB at hf
       simp_all
       done)
    | (have HX := Lib.hid (setOp_same (.int .i64 0) (.int .i64 0) (.int .i64 0) (.int .i64 0) (.string ⟨#[]⟩) (.int .i64 0) (.int .i64 0) (.int .i64 0) HT1.out.res)
       have HB := Lib.hid (setOp_below (.int .i64 0) (.int .i64 0) (.int .i64 0) (.int .i64 0) (.string ⟨#[]⟩) (.int .i64 0) (.int .i64 0) (.int .i64 0) HT1.out.bel (by show _ ≤ w.heap.size + 1 + 1; omega))
       clear a0 a1 a2 a3 a4 a5 a6 a7 b0 b1 b2 b3 b4 b5 b6 b7 e0 e1 e2 e3 e4 e5 e6 e7 f0 f1 f2 f3 f4 f5 f6 f7
       change bodyPost _ _ _ _ _ (setOp w1 (w.heap.size + 1 + 1) (.int .i64 0) (.int .i64 0) (.int .i64 0) (.int .i64 0) (.string ⟨#[]⟩) (.int .i64 0) (.int .i64 0) (.int .i64 0))
       generalize setOp w1 (w.heap.size + 1 + 1) (.int .i64 0) (.int .i64 0) (.int .i64 0) (.int .i64 0) (.string ⟨#[]⟩) (.int .i64 0) (.int .i64 0) (.int .i64 0) = wf at HX HB ⊢
       obtain ⟨d0, d1, d2, d3, d4, d5, d6, d7⟩ := op_cells HX.out
       exact bodyPost_ret (v := .tuple #[.agg #[.int .i64 0, .int .i64 0, .int .i64 0, .int .i64 0, .string ⟨#[]⟩, .int .i64 0, .int .i64 0, .int .i64 0], .bool false]) (by simp [results, Try.results59, go_sem, d0, d1, d2, d3, d4, d5, d6, d7]) rfl ⟨rfl, HB.out⟩)
end Go.Proofs.Ytjmilgijdfibbab
