/- Walks and mathematics that several claims share, part 21. -/
import Derived.Test.YtdbdmfaphdjdpaaGs18
import Derived.Test.YtdbdmfaphdjdpaaGs17
import Derived.Test.YtdbdmfaphdjdpaaGs9
import Derived.Maps.OwnSet
import Derived.DeepKeys4
import Derived.Lib.MinMax
import Derived.Deep.Cut
import Derived.Deep.RegionHeld3
namespace Go.Proofs.Ytdbdmfaphdjdpaa
open Go.RowKit
open Go.Maps (Keyed)

set_option maxRecDepth 100000 in
theorem nameLaid : laidOutB Try.prog = true := by kernel_rfl
set_option maxRecDepth 100000 in
theorem nameWide : (match Try.prog.underlying 94 with | some (.array _ _) | some (.struct _) => true | _ => false) = true := by kernel_rfl
set_option maxRecDepth 100000 in
theorem nameKeyed : Keyed Try.prog 94 := Keyed.of_law (deep_law_laid nameLaid (m := 2) (by omega) (of_decide_eq_true (by kernel_rfl)) (by kernel_rfl) nameWide)
def nameV (d s : Int) : Value := .agg #[.int .i64 d, .int .i64 s]
set_option maxRecDepth 100000 in
theorem nameType : Try.prog.keyType 94 = true := by kernel_rfl
set_option maxRecDepth 100000 in
theorem nameCells : Try.prog.cellsOf 94 = 2 := by kernel_rfl
set_option maxRecDepth 100000 in
theorem intCells : Try.prog.cellsOf 2 = 1 := by kernel_rfl
set_option maxRecDepth 100000 in
theorem nameSize : ∃ m, Try.prog.types.size = m + 1 := ⟨Try.prog.types.size - 1, by have : 0 < Try.prog.types.size := of_decide_eq_true (by kernel_rfl); omega⟩
set_option maxRecDepth 100000 in
theorem name_key {d s : Int} (hd : (Lit.int .i64 d).wf = true) (hs : (Lit.int .i64 s).wf = true) : ∃ kl, keyOf Try.prog 94 (nameV d s) = some kl := by
  obtain ⟨m, hm⟩ := nameSize
  have hf : (nameV d s).formed Try.prog 94 = true := by simp [nameV, Value.formed, Try.underlying94, nameCells]
  have hl : ∃ ls, Try.prog.keyLits (Try.prog.types.size + 1) 94 (nameV d s).cells.toList = some ls := by
    rw [hm]
    simp [Program.keyLits, Try.underlying94, Try.underlying2, nameV, Value.cells, nameCells, intCells, hd, hs]
  obtain ⟨ls, hls⟩ := hl
  exact ⟨.string (keyBytes ls), by unfold keyOf; rw [Try.underlying94]; simp only [nameType, hf, hls, Bool.and_self, if_true, Option.map_some]⟩
noncomputable def keyN (d s : Int) : Lit := (keyOf Try.prog 94 (nameV d s)).getD (.bool false)
def Fit2 (d s : Int) : Prop := (Lit.int .i64 d).wf = true ∧ (Lit.int .i64 s).wf = true
set_option maxRecDepth 100000 in
theorem key_is {d s : Int} (h : Fit2 d s) : keyOf Try.prog 94 (nameV d s) = some (keyN d s) := by
  obtain ⟨kl, e⟩ := name_key h.1 h.2
  unfold keyN
  rw [e]
  rfl
set_option maxRecDepth 100000 in
theorem key_inj {d s d' s' : Int} (h : Fit2 d s) (h' : Fit2 d' s') (e : keyN d s = keyN d' s') : d = d' ∧ s = s' := by
  have h1 := key_is h
  rw [e] at h1
  have h2 := nameKeyed.inj h1 (key_is h')
  unfold nameV at h2
  injection h2 with h3
  simp only [Array.mk.injEq, List.cons.injEq, Value.int.injEq] at h3
  exact ⟨h3.1.2, h3.2.1.2⟩
set_option maxRecDepth 100000 in
theorem key_lit {d s : Int} (h : Fit2 d s) : WideAt.IsKeyLit (keyN d s) := nameKeyed.key (key_is h)

def opD (o : OpV) : DataW Unit := .agg [.lit (.int .i64 o.dev), .lit (.int .i64 o.seq), .lit (.int .i64 o.stamp), .lit (.int .i64 o.kind), .lit (.string o.item.data.toList), .lit (.int .i64 o.qty), .lit (.int .i64 o.level), .lit (.int .i64 o.undos)]
/-- How an operation reads as a map's element. -/
def opElem : Value → Option (DataW Unit × List MemPlace)
  | .agg ⟨[.int .i64 a, .int .i64 b, .int .i64 c, .int .i64 d, .string e, .int .i64 f, .int .i64 g, .int .i64 h]⟩ => some (opD ⟨a, b, c, d, e, f, g, h⟩, [])
  | _ => none
set_option maxRecDepth 100000 in
theorem opElem_mk (o : OpV) : opElem (opVal o) = some (opD o, []) := rfl
/-- Block b is a map of at most n operations that has f d s under the device d and the number s. -/
def SetIs (w : World) (b n : Nat) (f : Int → Int → Option OpV) : Prop :=
  ∃ D, w.ownsMap Try.prog 94 opElem b n D ∧ ∀ d s, Fit2 d s → Maps.has D (keyN d s) = (f d s).isSome ∧ D.atKey (keyN d s) (opD OpV.zero) = opD ((f d s).getD OpV.zero)
set_option maxRecDepth 100000 in
theorem SetIs.mono {w : World} {b n n' : Nat} {f : Int → Int → Option OpV} (h : SetIs w b n f) (hn : n ≤ n') : SetIs w b n' f := by
  obtain ⟨D, h1, h2⟩ := h
  exact ⟨D, h1.mono hn, h2⟩
set_option maxRecDepth 100000 in
theorem SetIs.congr {w : World} {b n : Nat} {f g : Int → Int → Option OpV} (h : SetIs w b n f) (e : ∀ d s, Fit2 d s → g d s = f d s) : SetIs w b n g := by
  obtain ⟨D, h1, h2⟩ := h
  exact ⟨D, h1, fun d s hf => by rw [e d s hf]; exact h2 d s hf⟩
set_option maxRecDepth 100000 in
theorem SetIs.kept {w w' : World} {b n : Nat} {f : Int → Int → Option OpV} (h : SetIs w b n f) (hb : w'.heap[b]? = w.heap[b]?) : SetIs w' b n f := by
  obtain ⟨D, ⟨es, clock, h0, r⟩, h2⟩ := h
  exact ⟨D, ⟨es, clock, hb.trans h0, r⟩, h2⟩
set_option maxRecDepth 100000 in
theorem SetIs.lt {w : World} {b n : Nat} {f : Int → Int → Option OpV} (h : SetIs w b n f) : b < w.heap.size := by
  obtain ⟨D, h1, _⟩ := h
  exact h1.lt
set_option maxRecDepth 100000 in
theorem SetIs.below {w w' : World} {b n : Nat} {f : Int → Int → Option OpV} (h : SetIs w b n f) (hb : Below w.heap.size w w') : SetIs w' b n f := h.kept (hb.block _ h.lt)
def putF (f : Int → Int → Option OpV) (x : OpV) : Int → Int → Option OpV := fun d s => if d = x.dev ∧ s = x.seq then some x else f d s
set_option maxRecDepth 100000 in
theorem SetIs.put {w : World} {b n : Nat} {f : Int → Int → Option OpV} (h : SetIs w b n f) (hn : n < maxLen) (x : OpV) (hx : Fit2 x.dev x.seq) :
    ∃ w', (Instr.mapUpdate 91 (.map (some b)) (nameV x.dev x.seq) (opVal x)).run Try.prog w = .ok () w' ∧ SetIs w' b (n + 1) (putF f x) ∧ w.grownBy w' (some b) := by
  obtain ⟨D, h1, h2⟩ := h
  obtain ⟨w', e, h3, h4⟩ := h1.update nameKeyed Try.underlying91 hn (key_is hx) (opElem_mk x)
  refine ⟨w', e, ⟨_, h3, fun d s hf => ?_⟩, h4⟩
  unfold putF
  by_cases hds : d = x.dev ∧ s = x.seq
  · obtain ⟨rfl, rfl⟩ := hds
    rw [if_pos ⟨rfl, rfl⟩]
    exact ⟨Maps.has_put_same h1.isMap (key_lit hx) _, Maps.atKey_put_same h1.isMap (key_lit hx) _ _⟩
  · rw [if_neg hds]
    have hne : keyN d s ≠ keyN x.dev x.seq := fun e => hds (key_inj hf hx e)
    rw [Maps.has_put_other hne, Maps.atKey_put_other hne]
    exact h2 d s hf
end Go.Proofs.Ytdbdmfaphdjdpaa

namespace Go.Proofs.Ytdbdmfaphdjdpaa
open Go.RowKit

def OpV.with (o : OpV) (u : Int) : OpV := ⟨o.dev, o.seq, o.stamp, o.kind, o.item, o.qty, o.level, u⟩
/-- The same but for how often they were undone. -/
def sameB (a b : OpV) : Bool := a.dev == b.dev && (a.seq == b.seq && (a.stamp == b.stamp && (a.kind == b.kind && (a.item.toList == b.item.toList && (a.qty == b.qty && a.level == b.level)))))
theorem text_same {a b : ByteArray} (h : a.toList = b.toList) : a = b := by
  rw [Lib.toList_data, Lib.toList_data] at h
  exact ByteArray.ext (Array.toList_inj.1 h)
theorem same_yes {a b : OpV} (h : sameB a b = true) : b = a.with b.undos := by
  obtain ⟨a0, a1, a2, a3, a4, a5, a6, a7⟩ := a
  obtain ⟨b0, b1, b2, b3, b4, b5, b6, b7⟩ := b
  unfold sameB at h
  simp only [Bool.and_eq_true, beq_iff_eq] at h
  obtain ⟨h0, h1, h2, h3, h4, h5, h6⟩ := h
  have h4 := text_same h4
  subst h0 h1 h2 h3 h4 h5 h6
  rfl
theorem TriF.und {w w1 : World} {x0 x1 x2 x3 x4 x5 x6 x7 y0 y1 y2 y3 y4 y5 y6 y7 : Value} {z : Array Value} {S T U : TypeId} (h : TriF w w1 #[x0, x1, x2, x3, x4, x5, x6, x7] #[y0, y1, y2, y3, y4, y5, y6, y7] z S T U) (u v : Value) :
    TriF w ((w1.setCell ⟨w.heap.size, 7, none⟩ u).setCell ⟨w.heap.size + 1, 7, none⟩ v) #[x0, x1, x2, x3, x4, x5, x6, u] #[y0, y1, y2, y3, y4, y5, y6, v] z S T U := by
  have h1 : (w1.setCell ⟨w.heap.size, 7, none⟩ u).heap[w.heap.size]? = some (.cells #[x0, x1, x2, x3, x4, x5, x6, u] S (0, 0)) := heap_setCell_same _ _ _ _ _ _ h.fst
  have h2 : (w1.setCell ⟨w.heap.size, 7, none⟩ u).heap[w.heap.size + 1]? = some (.cells #[y0, y1, y2, y3, y4, y5, y6, y7] T (0, 0)) := (heap_setCell_other _ _ _ _ (by show w.heap.size + 1 ≠ w.heap.size; omega)).trans h.snd
  refine ⟨(heap_setCell_other _ _ _ _ (by show w.heap.size ≠ w.heap.size + 1; omega)).trans h1, heap_setCell_same _ _ _ _ _ _ h2, ?_, (h.bel.setCell (Nat.le_refl _) _).setCell (by show _ ≤ w.heap.size + 1; omega) _⟩
  exact (heap_setCell_other _ _ _ _ (by show w.heap.size + 1 + 1 ≠ w.heap.size + 1; omega)).trans ((heap_setCell_other _ _ _ _ (by show w.heap.size + 1 + 1 ≠ w.heap.size; omega)).trans h.res)
set_option linter.unusedSimpArgs false in
set_option maxRecDepth 100000 in
set_option maxHeartbeats 20000000 in
theorem joinedYes (a : OpV) (u : Int) (w : World) : Calls Try.prog 51 #[.agg #[.int .i64 a.dev, .int .i64 a.seq, .int .i64 a.stamp, .int .i64 a.kind, .string a.item, .int .i64 a.qty, .int .i64 a.level, .int .i64 a.undos], .agg #[.int .i64 a.dev, .int .i64 a.seq, .int .i64 a.stamp, .int .i64 a.kind, .string a.item, .int .i64 a.qty, .int .i64 a.level, .int .i64 u]] w fun e w' => e = .returned (.tuple #[.agg #[.int .i64 a.dev, .int .i64 a.seq, .int .i64 a.stamp, .int .i64 a.kind, .string a.item, .int .i64 a.qty, .int .i64 a.level, .int .i64 (max a.undos u)], .bool true]) ∧ Below w.heap.size w w' := by
  have HT := Lib.hid (TriF.mk0 w #[.int .i64 a.dev, .int .i64 a.seq, .int .i64 a.stamp, .int .i64 a.kind, .string a.item, .int .i64 a.qty, .int .i64 a.level, .int .i64 a.undos] #[.int .i64 a.dev, .int .i64 a.seq, .int .i64 a.stamp, .int .i64 a.kind, .string a.item, .int .i64 a.qty, .int .i64 a.level, .int .i64 u] #[.int .i64 0, .int .i64 0, .int .i64 0, .int .i64 0, .string ⟨#[]⟩, .int .i64 0, .int .i64 0, .int .i64 0] 77 77 77)
  go_enter Try.func51, Try.ntmps51
  go_upto_region 2 with fail
  generalize ((w.alloc (.cells #[.int .i64 a.dev, .int .i64 a.seq, .int .i64 a.stamp, .int .i64 a.kind, .string a.item, .int .i64 a.qty, .int .i64 a.level, .int .i64 a.undos] 77)).alloc (.cells #[.int .i64 a.dev, .int .i64 a.seq, .int .i64 a.stamp, .int .i64 a.kind, .string a.item, .int .i64 a.qty, .int .i64 a.level, .int .i64 u] 77)).alloc (.cells #[.int .i64 0, .int .i64 0, .int .i64 0, .int .i64 0, .string ⟨#[]⟩, .int .i64 0, .int .i64 0, .int .i64 0] 77) = w0 at HT ⊢
  obtain ⟨a0, a1, a2, a3, a4, a5, a6, a7⟩ := op_cells HT.out.fst
  obtain ⟨b0, b1, b2, b3, b4, b5, b6, b7⟩ := op_cells HT.out.snd
  obtain ⟨f0, f1, f2, f3, f4, f5, f6, f7⟩ := op_frozen HT.out.fst
  obtain ⟨g0, g1, g2, g3, g4, g5, g6, g7⟩ := op_frozen HT.out.snd
  have HT1 := Lib.hid (HT.out.und (.int .i64 (max a.undos u)) (.int .i64 (max a.undos u)))
  clear HT
  go_upto_region 3 with fail
  clear a0 a1 a2 a3 a4 a5 a6 a7 b0 b1 b2 b3 b4 b5 b6 b7 f0 f1 f2 f3 f4 f5 f6 f7 g0 g1 g2 g3 g4 g5 g6 g7
  generalize (w0.setCell ⟨w.heap.size, 7, none⟩ (.int .i64 (max a.undos u))).setCell ⟨w.heap.size + 1, 7, none⟩ (.int .i64 (max a.undos u)) = w1 at HT1 ⊢
  obtain ⟨a0, a1, a2, a3, a4, a5, a6, a7⟩ := op_cells HT1.out.fst
  obtain ⟨b0, b1, b2, b3, b4, b5, b6, b7⟩ := op_cells HT1.out.snd
  obtain ⟨e0, e1, e2, e3, e4, e5, e6, e7⟩ := op_cells HT1.out.res
  obtain ⟨f0, f1, f2, f3, f4, f5, f6, f7⟩ := op_frozen HT1.out.res
  generalize hm : max a.undos u = m at HT1 a7 b7 ⊢
  have HMx := Lib.hid hm
  clear hm
  go_wp2
  have HX := Lib.hid (setOp_same (.int .i64 a.dev) (.int .i64 a.seq) (.int .i64 a.stamp) (.int .i64 a.kind) (.string a.item) (.int .i64 a.qty) (.int .i64 a.level) (.int .i64 m) HT1.out.res)
  have HB := Lib.hid (setOp_below (.int .i64 a.dev) (.int .i64 a.seq) (.int .i64 a.stamp) (.int .i64 a.kind) (.string a.item) (.int .i64 a.qty) (.int .i64 a.level) (.int .i64 m) HT1.out.bel (by show _ ≤ w.heap.size + 1 + 1; omega))
  clear a0 a1 a2 a3 a4 a5 a6 a7 b0 b1 b2 b3 b4 b5 b6 b7 e0 e1 e2 e3 e4 e5 e6 e7 f0 f1 f2 f3 f4 f5 f6 f7
  change bodyPost _ _ _ _ _ (setOp w1 (w.heap.size + 1 + 1) (.int .i64 a.dev) (.int .i64 a.seq) (.int .i64 a.stamp) (.int .i64 a.kind) (.string a.item) (.int .i64 a.qty) (.int .i64 a.level) (.int .i64 m))
  generalize setOp w1 (w.heap.size + 1 + 1) (.int .i64 a.dev) (.int .i64 a.seq) (.int .i64 a.stamp) (.int .i64 a.kind) (.string a.item) (.int .i64 a.qty) (.int .i64 a.level) (.int .i64 m) = wf at HX HB ⊢
  obtain ⟨d0, d1, d2, d3, d4, d5, d6, d7⟩ := op_cells HX.out
  exact bodyPost_ret (v := .tuple #[.agg #[.int .i64 a.dev, .int .i64 a.seq, .int .i64 a.stamp, .int .i64 a.kind, .string a.item, .int .i64 a.qty, .int .i64 a.level, .int .i64 m], .bool true]) (by simp [results, Try.results51, go_sem, d0, d1, d2, d3, d4, d5, d6, d7]) rfl ⟨by rw [HMx.out], HB.out⟩
set_option linter.unusedSimpArgs false in
set_option maxRecDepth 100000 in
set_option maxHeartbeats 20000000 in
theorem joinedNo (a b : OpV) (hs : sameB a b = false) (w : World) : Calls Try.prog 51 #[.agg #[.int .i64 a.dev, .int .i64 a.seq, .int .i64 a.stamp, .int .i64 a.kind, .string a.item, .int .i64 a.qty, .int .i64 a.level, .int .i64 a.undos], .agg #[.int .i64 b.dev, .int .i64 b.seq, .int .i64 b.stamp, .int .i64 b.kind, .string b.item, .int .i64 b.qty, .int .i64 b.level, .int .i64 b.undos]] w fun e w' => e = .returned (.tuple #[.agg #[.int .i64 0, .int .i64 0, .int .i64 0, .int .i64 0, .string ⟨#[]⟩, .int .i64 0, .int .i64 0, .int .i64 0], .bool false]) ∧ Below w.heap.size w w' := by
  have HT := Lib.hid (TriF.mk0 w #[.int .i64 a.dev, .int .i64 a.seq, .int .i64 a.stamp, .int .i64 a.kind, .string a.item, .int .i64 a.qty, .int .i64 a.level, .int .i64 a.undos] #[.int .i64 b.dev, .int .i64 b.seq, .int .i64 b.stamp, .int .i64 b.kind, .string b.item, .int .i64 b.qty, .int .i64 b.level, .int .i64 b.undos] #[.int .i64 0, .int .i64 0, .int .i64 0, .int .i64 0, .string ⟨#[]⟩, .int .i64 0, .int .i64 0, .int .i64 0] 77 77 77)
  have HS := Lib.hid hs
  clear hs
  go_enter Try.func51, Try.ntmps51
  go_upto_region 2 with fail
  generalize ((w.alloc (.cells #[.int .i64 a.dev, .int .i64 a.seq, .int .i64 a.stamp, .int .i64 a.kind, .string a.item, .int .i64 a.qty, .int .i64 a.level, .int .i64 a.undos] 77)).alloc (.cells #[.int .i64 b.dev, .int .i64 b.seq, .int .i64 b.stamp, .int .i64 b.kind, .string b.item, .int .i64 b.qty, .int .i64 b.level, .int .i64 b.undos] 77)).alloc (.cells #[.int .i64 0, .int .i64 0, .int .i64 0, .int .i64 0, .string ⟨#[]⟩, .int .i64 0, .int .i64 0, .int .i64 0] 77) = w0 at HT ⊢
  obtain ⟨a0, a1, a2, a3, a4, a5, a6, a7⟩ := op_cells HT.out.fst
  obtain ⟨b0, b1, b2, b3, b4, b5, b6, b7⟩ := op_cells HT.out.snd
  obtain ⟨f0, f1, f2, f3, f4, f5, f6, f7⟩ := op_frozen HT.out.fst
  obtain ⟨g0, g1, g2, g3, g4, g5, g6, g7⟩ := op_frozen HT.out.snd
  have HT1 := Lib.hid (HT.out.und (.int .i64 (max a.undos b.undos)) (.int .i64 (max a.undos b.undos)))
  clear HT
  go_upto_region 3 with fail
  clear a0 a1 a2 a3 a4 a5 a6 a7 b0 b1 b2 b3 b4 b5 b6 b7 f0 f1 f2 f3 f4 f5 f6 f7 g0 g1 g2 g3 g4 g5 g6 g7
  generalize (w0.setCell ⟨w.heap.size, 7, none⟩ (.int .i64 (max a.undos b.undos))).setCell ⟨w.heap.size + 1, 7, none⟩ (.int .i64 (max a.undos b.undos)) = w1 at HT1 ⊢
  obtain ⟨a0, a1, a2, a3, a4, a5, a6, a7⟩ := op_cells HT1.out.fst
  obtain ⟨b0, b1, b2, b3, b4, b5, b6, b7⟩ := op_cells HT1.out.snd
  obtain ⟨e0, e1, e2, e3, e4, e5, e6, e7⟩ := op_cells HT1.out.res
  obtain ⟨f0, f1, f2, f3, f4, f5, f6, f7⟩ := op_frozen HT1.out.res
  generalize max a.undos b.undos = m at HT1 a7 b7 ⊢
  go_wp2
  all_goals first
    | (exfalso
       have hf := HS.out
       unfold sameB at hf
       simp_all
       done)
    | (have HX := Lib.hid (setOp_same (.int .i64 0) (.int .i64 0) (.int .i64 0) (.int .i64 0) (.string ⟨#[]⟩) (.int .i64 0) (.int .i64 0) (.int .i64 0) HT1.out.res)
       have HB := Lib.hid (setOp_below (.int .i64 0) (.int .i64 0) (.int .i64 0) (.int .i64 0) (.string ⟨#[]⟩) (.int .i64 0) (.int .i64 0) (.int .i64 0) HT1.out.bel (by show _ ≤ w.heap.size + 1 + 1; omega))
       clear a0 a1 a2 a3 a4 a5 a6 a7 b0 b1 b2 b3 b4 b5 b6 b7 e0 e1 e2 e3 e4 e5 e6 e7 f0 f1 f2 f3 f4 f5 f6 f7
       change bodyPost _ _ _ _ _ (setOp w1 (w.heap.size + 1 + 1) (.int .i64 0) (.int .i64 0) (.int .i64 0) (.int .i64 0) (.string ⟨#[]⟩) (.int .i64 0) (.int .i64 0) (.int .i64 0))
       generalize setOp w1 (w.heap.size + 1 + 1) (.int .i64 0) (.int .i64 0) (.int .i64 0) (.int .i64 0) (.string ⟨#[]⟩) (.int .i64 0) (.int .i64 0) (.int .i64 0) = wf at HX HB ⊢
       obtain ⟨d0, d1, d2, d3, d4, d5, d6, d7⟩ := op_cells HX.out
       exact bodyPost_ret (v := .tuple #[.agg #[.int .i64 0, .int .i64 0, .int .i64 0, .int .i64 0, .string ⟨#[]⟩, .int .i64 0, .int .i64 0, .int .i64 0], .bool false]) (by simp [results, Try.results51, go_sem, d0, d1, d2, d3, d4, d5, d6, d7]) rfl ⟨rfl, HB.out⟩)
end Go.Proofs.Ytdbdmfaphdjdpaa

namespace Go.Proofs.Ytdbdmfaphdjdpaa
open Go.RowKit


set_option linter.unusedSimpArgs false in
set_option maxRecDepth 100000 in
set_option maxHeartbeats 20000000 in
theorem l4Same (a b : OpV) (w : World) : Calls Try.prog 103 #[.agg #[.int .i64 a.dev, .int .i64 a.seq, .int .i64 a.stamp, .int .i64 a.kind, .string a.item, .int .i64 a.qty, .int .i64 a.level, .int .i64 a.undos], .agg #[.int .i64 b.dev, .int .i64 b.seq, .int .i64 b.stamp, .int .i64 b.kind, .string b.item, .int .i64 b.qty, .int .i64 b.level, .int .i64 b.undos]] w fun e w' => e = .returned (.bool (sameB a b)) ∧ Below w.heap.size w w' := by
  have HS : Hid (sameB a b = (a.dev == b.dev && (a.seq == b.seq && (a.stamp == b.stamp && (a.kind == b.kind && (a.item.toList == b.item.toList && (a.qty == b.qty && a.level == b.level))))))) := rfl
  go_enter Try.func103, Try.ntmps103
  go_wp2
  all_goals
    go_ret
    refine ⟨?_, ((Below.refl _ w).alloc (Nat.le_refl _) _).alloc (by simp) _⟩
    rw [HS.out]
    simp_all
theorem cell_of_block {w w' : World} {b i : Nat} (h : w'.heap[b]? = w.heap[b]?) : w'.cell? ⟨b, i, none⟩ = w.cell? ⟨b, i, none⟩ := by unfold World.cell?; rw [h]
/-- What the first k operations of a list lay under each name. -/
def setF (l : List OpV) : Nat → Int → Int → Option OpV
  | 0 => fun _ _ => none
  | k + 1 => putF (setF l k) (atOp l k)
end Go.Proofs.Ytdbdmfaphdjdpaa

namespace Go.Proofs.Ytdbdmfaphdjdpaa
open Go.RowKit

theorem setF_hit {m : List OpV} (h : incB m = true) : ∀ k, k ≤ m.length → ∀ i, i < k → setF m k (atOp m i).dev (atOp m i).seq = some (atOp m i)
  | 0, _, i, hi => absurd hi (Nat.not_lt_zero _)
  | k + 1, hk, i, hi => by
    show putF (setF m k) (atOp m k) _ _ = _
    unfold putF
    by_cases e : (atOp m i).dev = (atOp m k).dev ∧ (atOp m i).seq = (atOp m k).seq
    · rw [if_pos e]
      have := inc_uniq h (i := i) (j := k) (by omega) (by omega) (dev := (atOp m k).dev) (seq := (atOp m k).seq) e ⟨rfl, rfl⟩
      rw [this]
    · rw [if_neg e]
      have hik : i ≠ k := fun e2 => e (by rw [e2]; exact ⟨rfl, rfl⟩)
      exact setF_hit h k (by omega) i (by omega)
theorem setF_miss {m : List OpV} {d s : Int} : ∀ k, (∀ j, j < k → ¬ eqN m j d s) → setF m k d s = none
  | 0, _ => rfl
  | k + 1, h => by
    show putF (setF m k) (atOp m k) _ _ = _
    unfold putF
    rw [if_neg (fun e => h k (by omega) ⟨e.1.symm, e.2.symm⟩)]
    exact setF_miss k fun j hj => h j (by omega)
theorem setF_some {m : List OpV} {d s : Int} {x : OpV} : ∀ k, setF m k d s = some x → ∃ i, i < k ∧ eqN m i d s ∧ atOp m i = x
  | 0, h => by cases h
  | k + 1, h => by
    have h' : putF (setF m k) (atOp m k) d s = some x := h
    unfold putF at h'
    by_cases e : d = (atOp m k).dev ∧ s = (atOp m k).seq
    · rw [if_pos e] at h'
      injection h' with h'
      exact ⟨k, by omega, ⟨e.1.symm, e.2.symm⟩, h'⟩
    · rw [if_neg e] at h'
      obtain ⟨i, hi, r⟩ := setF_some k h'
      exact ⟨i, by omega, r⟩
theorem cart_has {ys : List Int} {m : List OpV} (h : cartB ys m = true) {d : Nat} (hd : d < 4) {s : Nat} (hs : (s : Int) < ys.getD d 0) : stOf ys d + s < m.length ∧ eqN m (stOf ys d + s) (d : Int) ((s : Int) + 1) := by
  obtain ⟨_, hdv, h4⟩ := cart_true h
  have hD := hdv d hd
  unfold devB at hD
  rw [Bool.and_eq_true] at hD
  have hR := hD.2
  unfold runB at hR
  rw [List.all_eq_true] at hR
  have hF := hR s (List.mem_range.2 (by omega))
  unfold fitB at hF
  simp only [Bool.and_eq_true, decide_eq_true_eq] at hF
  have hm := stOf_mono ys (d + 1) 4 (by omega)
  have e : stOf ys (d + 1) = stOf ys d + (ys.getD d 0).toNat := rfl
  exact ⟨by omega, hF.2.1, hF.2.2.1⟩
theorem get_has {ys : List Int} {m : List OpV} (h : cartB ys m = true) {d : Nat} (hd : d < 4) {s : Nat} (hs : (s : Int) < ys.getD d 0) : setF m m.length (d : Int) ((s : Int) + 1) = some (atOp m (stOf ys d + s)) := by
  obtain ⟨h1, h2, h3⟩ := cart_has h hd hs
  have := setF_hit (cart_inc h) m.length (Nat.le_refl _) _ h1
  rw [h2, h3] at this
  exact this
end Go.Proofs.Ytdbdmfaphdjdpaa

namespace Go.Proofs.Ytdbdmfaphdjdpaa
open Go.RowKit

def getO (l : List OpV) (d s : Int) : Option OpV := setF l l.length d s
def joinAt (l m : List OpV) (d s : Int) : OpV := match getO l d s, getO m d s with
  | some a, some b => a.with (max a.undos b.undos)
  | some a, none => a
  | none, some b => b
  | none, none => OpV.zero
/-- What is listed up to number s of device d, by a vector. -/
def listP (zs : List Int) (F : Nat → Nat → OpV) (d s : Nat) : List OpV := ((List.range d).flatMap fun e => (List.range (zs.getD e 0).toNat).map fun i => F e i) ++ (List.range s).map fun i => F d i
theorem listP_step (zs : List Int) (F : Nat → Nat → OpV) (d s : Nat) : listP zs F d (s + 1) = listP zs F d s ++ [F d s] := by
  unfold listP
  rw [List.range_succ, List.map_append, ← List.append_assoc]
  rfl
theorem listP_next (zs : List Int) (F : Nat → Nat → OpV) (d : Nat) : listP zs F (d + 1) 0 = listP zs F d (zs.getD d 0).toNat := by
  unfold listP
  rw [List.range_succ, List.flatMap_append]
  simp
theorem listP_len (zs : List Int) (F : Nat → Nat → OpV) : ∀ d s, (listP zs F d s).length = stOf zs d + s
  | 0, s => by simp [listP, stOf]
  | d + 1, 0 => by
    rw [listP_next, listP_len zs F d]
    rfl
  | d + 1, s + 1 => by
    rw [listP_step, List.length_append, listP_len zs F (d + 1) s]
    rfl
theorem listP_pre (zs : List Int) (F : Nat → Nat → OpV) (d : Nat) : ∀ k s, s ≤ s + k → ∃ r, listP zs F d (s + k) = listP zs F d s ++ r
  | 0, s, _ => ⟨[], by simp⟩
  | k + 1, s, _ => by
    obtain ⟨r, h⟩ := listP_pre zs F d k s (by omega)
    exact ⟨r ++ [F d (s + k)], by rw [← Nat.add_assoc, listP_step, h, List.append_assoc]⟩
theorem listP_far (zs : List Int) (F : Nat → Nat → OpV) (d : Nat) : ∀ k, ∃ r, listP zs F (d + k) 0 = listP zs F d 0 ++ r
  | 0 => ⟨[], by simp⟩
  | k + 1 => by
    obtain ⟨r, h⟩ := listP_far zs F d k
    obtain ⟨r2, h2⟩ := listP_pre zs F (d + k) (zs.getD (d + k) 0).toNat 0 (by omega)
    refine ⟨r ++ r2, ?_⟩
    rw [← Nat.add_assoc, listP_next, ← List.append_assoc, ← h]
    simpa using h2
theorem listP_at (zs : List Int) (F : Nat → Nat → OpV) {d s : Nat} (hd : d < 4) (hs : s < (zs.getD d 0).toNat) : atOp (listP zs F 4 0) (stOf zs d + s) = F d s := by
  obtain ⟨r, h⟩ := listP_far zs F (d + 1) (3 - d)
  have e4 : d + 1 + (3 - d) = 4 := by omega
  rw [e4, listP_next zs F d] at h
  obtain ⟨r2, h2⟩ := listP_pre zs F d ((zs.getD d 0).toNat - (s + 1)) (s + 1) (by omega)
  have e5 : s + 1 + ((zs.getD d 0).toNat - (s + 1)) = (zs.getD d 0).toNat := by omega
  rw [e5, listP_step zs F d s] at h2
  rw [h2] at h
  have hl := listP_len zs F d s
  unfold atOp
  rw [h, List.getD_eq_getElem?_getD, List.append_assoc, List.append_assoc, List.getElem?_append_right (by omega), hl]
  simp
def mergeF (l m : List OpV) : Nat → Nat → OpV := fun d s => joinAt l m (d : Int) ((s : Int) + 1)
def mergeL (zs : List Int) (l m : List OpV) : List OpV := listP zs (mergeF l m) 4 0
end Go.Proofs.Ytdbdmfaphdjdpaa

namespace Go.Proofs.Ytdbdmfaphdjdpaa
open Go.RowKit

def maxV (xs ys : List Int) : List Int := List.zipWith max xs ys
theorem maxV_at {xs ys : List Int} (h : xs.length = 4) (h2 : ys.length = 4) {d : Nat} (hd : d < 4) : (maxV xs ys).getD d 0 = max (xs.getD d 0) (ys.getD d 0) := by
  unfold maxV
  rw [List.getD_eq_getElem?_getD, List.getD_eq_getElem?_getD, List.getD_eq_getElem?_getD, List.getElem?_zipWith, List.getElem?_eq_getElem (by omega), List.getElem?_eq_getElem (by omega)]
  rfl
theorem maxV_ok {xs ys : List Int} (h : vecOk xs = true) (h2 : vecOk ys = true) : vecOk (maxV xs ys) = true := by
  have l1 := (vec_at h (d := 0) (by omega)).2.2
  have l2 := (vec_at h2 (d := 0) (by omega)).2.2
  have l3 : (maxV xs ys).length = 4 := by unfold maxV; rw [List.length_zipWith]; omega
  unfold vecOk
  rw [Bool.and_eq_true]
  refine ⟨?_, decide_eq_true l3⟩
  rw [List.all_eq_true]
  intro x hx
  obtain ⟨i, hi, e⟩ := List.mem_iff_getElem.1 hx
  have hi4 : i < 4 := by omega
  have e2 : (maxV xs ys).getD i 0 = x := by rw [List.getD_eq_getElem?_getD, List.getElem?_eq_getElem hi]; exact e
  rw [maxV_at l1 l2 hi4] at e2
  have g1 := vec_at h hi4
  have g2 := vec_at h2 hi4
  rw [← e2]
  unfold inV
  rw [Bool.and_eq_true]
  exact ⟨decide_eq_true (by omega), decide_eq_true (by omega)⟩
theorem merge_items {l m : List OpV} {N : Nat} (hl : ∀ i, i < l.length → (atOp l i).item.size ≤ N) (hm : ∀ i, i < m.length → (atOp m i).item.size ≤ N) (d s : Nat) : (mergeF l m d s).item.size ≤ N := by
  show (joinAt l m _ _).item.size ≤ N
  unfold joinAt
  rcases e1 : getO l (d : Int) ((s : Int) + 1) with _ | a
  · rcases e2 : getO m (d : Int) ((s : Int) + 1) with _ | b
    · exact Nat.zero_le _
    · obtain ⟨i, hi, _, e⟩ := setF_some _ e2
      show b.item.size ≤ N
      rw [← e]
      exact hm i hi
  · obtain ⟨i, hi, _, e⟩ := setF_some _ e1
    rcases e2 : getO m (d : Int) ((s : Int) + 1) with _ | b
    · show a.item.size ≤ N
      rw [← e]
      exact hl i hi
    · show a.item.size ≤ N
      rw [← e]
      exact hl i hi
end Go.Proofs.Ytdbdmfaphdjdpaa
