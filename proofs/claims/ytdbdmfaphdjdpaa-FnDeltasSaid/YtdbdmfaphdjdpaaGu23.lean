/- Walks and mathematics that several claims share, part 23. -/
import Derived.Test.YtdbdmfaphdjdpaaGu21
import Derived.Test.YtdbdmfaphdjdpaaGu19
import Derived.Test.YtdbdmfaphdjdpaaGu10
import Derived.Test.YtdbdmfaphdjdpaaGu16
import Derived.Test.YtdbdmfaphdjdpaaGu6
import Derived.Maps.OwnSet
import Derived.DeepKeys4
import Derived.Lib.MinMax
import Derived.Deep.Cut
import Derived.Deep.RegionHeld3
import Derived.Test.YtdbdmfaphdjdpaaGuA
namespace Go.Proofs.Ytdbdmfaphdjdpaa
set_option maxRecDepth 100000
open Go.RowKit
open Go.Maps (Keyed)

theorem nameLaid : laidOutB Try.prog = true := by kernel_rfl
theorem nameWide : (match Try.prog.underlying 94 with | some (.array _ _) | some (.struct _) => true | _ => false) = true := by kernel_rfl
theorem nameKeyed : Keyed Try.prog 94 := Keyed.of_law (deep_law_laid nameLaid (m := 2) (by omega) (of_decide_eq_true (by kernel_rfl)) (by kernel_rfl) nameWide)
def nameV (d s : Int) : Value := .agg #[.int .i64 d, .int .i64 s]
theorem nameType : Try.prog.keyType 94 = true := by kernel_rfl
theorem nameCells : Try.prog.cellsOf 94 = 2 := by kernel_rfl
theorem intCells : Try.prog.cellsOf 2 = 1 := by kernel_rfl
theorem nameSize : ∃ m, Try.prog.types.size = m + 1 := ⟨Try.prog.types.size - 1, by have : 0 < Try.prog.types.size := of_decide_eq_true (by kernel_rfl); omega⟩
theorem name_key {d s : Int} (hd : (Lit.int .i64 d).wf = true) (hs : (Lit.int .i64 s).wf = true) : ∃ kl, keyOf Try.prog 94 (nameV d s) = some kl := by
 obtain ⟨m, hm⟩ := nameSize
 have hf : (nameV d s).formed Try.prog 94 = true := by simp [nameV, Value.formed, Try.underlying94, nameCells]
 have hl : ∃ ls, Try.prog.keyLits (Try.prog.types.size + 1) 94 (nameV d s).cells.toList = some ls := by
  rw [hm]
  simp [Program.keyLits, Try.underlying94, Try.underlying2, nameV, Value.cells, nameCells, intCells, hd, hs]
 obtain ⟨ls, hls⟩ := hl
 exact ⟨.string (keyBytes ls), by unfold keyOf; rw [Try.underlying94]; simp only [nameType, hf, hls, Bool.and_self, if_true, Option.map_some]⟩
noncomputable def keyN (d s : Int) : Lit := (keyOf Try.prog 94 (nameV d s)).getD (.bool false)
def Fit2 (d s : Int) : Prop := (Lit.int .i64 d).wf = true ∧ (Lit.int .i64 s).wf = true
theorem fit2 {d s : Int} (h1 : 0 ≤ d) (h2 : d ≤ 1000) (h3 : 0 ≤ s) (h4 : s ≤ 1000) : Fit2 d s := ⟨WalkArith.wf_i64 (by omega), WalkArith.wf_i64 (by omega)⟩
theorem key_is {d s : Int} (h : Fit2 d s) : keyOf Try.prog 94 (nameV d s) = some (keyN d s) := by
 obtain ⟨kl, e⟩ := name_key h.1 h.2
 unfold keyN
 rw [e]
 rfl
theorem key_inj {d s d' s' : Int} (h : Fit2 d s) (h' : Fit2 d' s') (e : keyN d s = keyN d' s') : d = d' ∧ s = s' := by
 have h1 := key_is h
 rw [e] at h1
 have h2 := nameKeyed.inj h1 (key_is h')
 unfold nameV at h2
 injection h2 with h3
 simp only [Array.mk.injEq, List.cons.injEq, Value.int.injEq] at h3
 exact ⟨h3.1.2, h3.2.1.2⟩
theorem key_lit {d s : Int} (h : Fit2 d s) : WideAt.IsKeyLit (keyN d s) := nameKeyed.key (key_is h)

def opD (o : OpV) : DataW Unit := .agg [.lit (.int .i64 o.dev), .lit (.int .i64 o.seq), .lit (.int .i64 o.stamp), .lit (.int .i64 o.kind), .lit (.string o.item.data.toList), .lit (.int .i64 o.qty), .lit (.int .i64 o.level), .lit (.int .i64 o.undos)]
/-- How an operation reads as a map's element. -/
def opElem : Value → Option (DataW Unit × List MemPlace)
 | .agg ⟨[.int .i64 a, .int .i64 b, .int .i64 c, .int .i64 d, .string e, .int .i64 f, .int .i64 g, .int .i64 h]⟩ => some (opD ⟨a, b, c, d, e, f, g, h⟩, [])
 | _ => none
theorem opElem_mk (o : OpV) : opElem (opVal o) = some (opD o, []) := rfl
theorem opD_inj {o o' : OpV} (h : opD o = opD o') : o = o' := by
 obtain ⟨a, b, c, d, e, f, g, i⟩ := o
 obtain ⟨a', b', c', d', e', f', g', i'⟩ := o'
 simp only [opD, DataW.agg.injEq, List.cons.injEq, DataW.lit.injEq, Lit.int.injEq, Lit.string.injEq, true_and, and_true] at h
 obtain ⟨rfl, rfl, rfl, rfl, h5, rfl, rfl, rfl⟩ := h
 have : e = e' := by
  obtain ⟨⟨x⟩⟩ := e
  obtain ⟨⟨y⟩⟩ := e'
  simp only at h5
  rw [h5]
 rw [this]
theorem opElem_inv {v : Value} {o : OpV} {ps : List MemPlace} (h : opElem v = some (opD o, ps)) : v = opVal o := by
 unfold opElem at h
 split at h
 ·rename_i a b c d e f g i
  simp only [Option.some.injEq, Prod.mk.injEq] at h
  rw [← opD_inj h.1]
  rfl
 ·cases h

/-- Block b is a map of at most n operations that has f d s under the device d and the number s. -/
def SetIs (w : World) (b n : Nat) (f : Int → Int → Option OpV) : Prop :=
 ∃ D, w.ownsMap Try.prog 94 opElem b n D ∧ ∀ d s, Fit2 d s → Maps.has D (keyN d s) = (f d s).isSome ∧ D.atKey (keyN d s) (opD OpV.zero) = opD ((f d s).getD OpV.zero)
theorem setIs_made (w : World) : SetIs (w.alloc (.map #[] 0)) w.heap.size 0 (fun _ _ => none) :=
 ⟨_, World.ownsMap_made w _ _ _, fun _ _ _ => ⟨rfl, rfl⟩⟩
theorem SetIs.mono {w : World} {b n n' : Nat} {f : Int → Int → Option OpV} (h : SetIs w b n f) (hn : n ≤ n') : SetIs w b n' f := by
 obtain ⟨D, h1, h2⟩ := h
 exact ⟨D, h1.mono hn, h2⟩
theorem SetIs.congr {w : World} {b n : Nat} {f g : Int → Int → Option OpV} (h : SetIs w b n f) (e : ∀ d s, Fit2 d s → g d s = f d s) : SetIs w b n g := by
 obtain ⟨D, h1, h2⟩ := h
 exact ⟨D, h1, fun d s hf => by rw [e d s hf]; exact h2 d s hf⟩
theorem SetIs.kept {w w' : World} {b n : Nat} {f : Int → Int → Option OpV} (h : SetIs w b n f) (hb : w'.heap[b]? = w.heap[b]?) : SetIs w' b n f := by
 obtain ⟨D, ⟨es, clock, h0, r⟩, h2⟩ := h
 exact ⟨D, ⟨es, clock, hb.trans h0, r⟩, h2⟩
theorem SetIs.lt {w : World} {b n : Nat} {f : Int → Int → Option OpV} (h : SetIs w b n f) : b < w.heap.size := by
 obtain ⟨D, h1, _⟩ := h
 exact h1.lt
theorem SetIs.below {w w' : World} {b n : Nat} {f : Int → Int → Option OpV} (h : SetIs w b n f) (hb : Below w.heap.size w w') : SetIs w' b n f := h.kept (hb.block _ h.lt)
def putF (f : Int → Int → Option OpV) (x : OpV) : Int → Int → Option OpV := fun d s => if d = x.dev ∧ s = x.seq then some x else f d s
theorem opZero (w : World) : (zeroValue 77).run Try.prog w = .ok (opVal OpV.zero) w := by kernel_rfl
theorem SetIs.put {w : World} {b n : Nat} {f : Int → Int → Option OpV} (h : SetIs w b n f) (hn : n < maxLen) (x : OpV) (hx : Fit2 x.dev x.seq) :
  ∃ w', (Instr.mapUpdate 91 (.map (some b)) (nameV x.dev x.seq) (opVal x)).run Try.prog w = .ok () w' ∧ SetIs w' b (n + 1) (putF f x) ∧ w.grownBy w' (some b) := by
 obtain ⟨D, h1, h2⟩ := h
 obtain ⟨w', e, h3, h4⟩ := h1.update nameKeyed Try.underlying91 hn (key_is hx) (opElem_mk x)
 refine ⟨w', e, ⟨_, h3, fun d s hf => ?_⟩, h4⟩
 unfold putF
 by_cases hds : d = x.dev ∧ s = x.seq
 ·obtain ⟨rfl, rfl⟩ := hds
  rw [if_pos ⟨rfl, rfl⟩]
  exact ⟨Maps.has_put_same h1.isMap (key_lit hx) _, Maps.atKey_put_same h1.isMap (key_lit hx) _ _⟩
 ·rw [if_neg hds]
  have hne : keyN d s ≠ keyN x.dev x.seq := fun e => hds (key_inj hf hx e)
  rw [Maps.has_put_other hne, Maps.atKey_put_other hne]
  exact h2 d s hf
theorem SetIs.look {w : World} {b n : Nat} {f : Int → Int → Option OpV} (h : SetIs w b n f) {d s : Int} (hx : Fit2 d s) :
  (Instr.lookup 91 (.map (some b)) (nameV d s) true).run Try.prog w = .ok (.tuple #[opVal ((f d s).getD OpV.zero), .bool (f d s).isSome]) w ∧ (Instr.lookup 91 (.map (some b)) (nameV d s) false).run Try.prog w = .ok (opVal ((f d s).getD OpV.zero)) w := by
 obtain ⟨D, h1, h2⟩ := h
 obtain ⟨g1, g2⟩ := h2 d s hx
 constructor
 ·obtain ⟨v, ps, e, hv⟩ := h1.look_ok nameKeyed Try.underlying91 (opZero w) (opElem_mk OpV.zero) (key_is hx)
  rw [g2] at hv
  rw [e, opElem_inv hv, g1]
 ·obtain ⟨v, ps, e, hv⟩ := h1.lookup nameKeyed Try.underlying91 (opZero w) (opElem_mk OpV.zero) (key_is hx)
  rw [g2] at hv
  rw [e, opElem_inv hv]
theorem run_makeMap_n (w : World) (n : Nat) : (Instr.makeMap 91 (some (.int .i64 (n : Int)))).run Try.prog w = .ok (.map (some w.heap.size)) (w.alloc (.map #[] 0)) := by
 simp [Instr.makeMap, run_underlying Try.underlying91, asInt, asIntOf]
def OpV.with (o : OpV) (u : Int) : OpV := ⟨o.dev, o.seq, o.stamp, o.kind, o.item, o.qty, o.level, u⟩
/-- The same but for how often they were undone. -/
def sameB (a b : OpV) : Bool := a.dev == b.dev && (a.seq == b.seq && (a.stamp == b.stamp && (a.kind == b.kind && (a.item.toList == b.item.toList && (a.qty == b.qty && a.level == b.level)))))
theorem text_same {a b : ByteArray} (h : a.toList = b.toList) : a = b := by
 rw [Lib.toList_data, Lib.toList_data] at h
 exact ByteArray.ext (Array.toList_inj.1 h)
theorem same_yes {a b : OpV} (h : sameB a b = true) : b = a.with b.undos := by
 obtain ⟨a0, a1, a2, a3, a4, a5, a6, a7⟩ := a
 obtain ⟨b0, b1, b2, b3, b4, b5, b6, b7⟩ := b
 unfold sameB at h
 simp only [Bool.and_eq_true, beq_iff_eq] at h
 obtain ⟨h0, h1, h2, h3, h4, h5, h6⟩ := h
 have h4 := text_same h4
 subst h0 h1 h2 h3 h4 h5 h6
 rfl
theorem same_with (a : OpV) (u : Int) : sameB a (a.with u) = true := by
 unfold sameB OpV.with
 simp
theorem nameOf (x : OpV) (w : World) : Calls Try.prog 67 #[.agg #[.int .i64 x.dev, .int .i64 x.seq, .int .i64 x.stamp, .int .i64 x.kind, .string x.item, .int .i64 x.qty, .int .i64 x.level, .int .i64 x.undos]] w fun e w' => e = .returned (nameV x.dev x.seq) ∧ Below w.heap.size w w' := by
 have hb : Below w.heap.size w ((w.alloc (.cells #[.int .i64 x.dev, .int .i64 x.seq, .int .i64 x.stamp, .int .i64 x.kind, .string x.item, .int .i64 x.qty, .int .i64 x.level, .int .i64 x.undos] 77)).alloc (.cells #[.int .i64 0, .int .i64 0] 94)) := ((Below.refl _ w).alloc (Nat.le_refl _) _).alloc (by simp) _
 have h0 : ((w.alloc (.cells #[.int .i64 x.dev, .int .i64 x.seq, .int .i64 x.stamp, .int .i64 x.kind, .string x.item, .int .i64 x.qty, .int .i64 x.level, .int .i64 x.undos] 77)).alloc (.cells #[.int .i64 0, .int .i64 0] 94)).heap[w.heap.size]? = some (.cells #[.int .i64 x.dev, .int .i64 x.seq, .int .i64 x.stamp, .int .i64 x.kind, .string x.item, .int .i64 x.qty, .int .i64 x.level, .int .i64 x.undos] 77 (0, 0)) := (Below.heap_alloc _ _ _ (by simp)).trans (heap_alloc_new w _)
 have h1 : ((w.alloc (.cells #[.int .i64 x.dev, .int .i64 x.seq, .int .i64 x.stamp, .int .i64 x.kind, .string x.item, .int .i64 x.qty, .int .i64 x.level, .int .i64 x.undos] 77)).alloc (.cells #[.int .i64 0, .int .i64 0] 94)).heap[w.heap.size + 1]? = some (.cells #[.int .i64 0, .int .i64 0] 94 (0, 0)) := by
  have e1 : (w.alloc (.cells #[.int .i64 x.dev, .int .i64 x.seq, .int .i64 x.stamp, .int .i64 x.kind, .string x.item, .int .i64 x.qty, .int .i64 x.level, .int .i64 x.undos] 77)).heap.size = w.heap.size + 1 := by simp
  rw [← e1]
  exact heap_alloc_new _ _
 go_enter Try.func67, Try.ntmps67
 go_upto_region 1 with fail
 generalize (w.alloc (.cells #[.int .i64 x.dev, .int .i64 x.seq, .int .i64 x.stamp, .int .i64 x.kind, .string x.item, .int .i64 x.qty, .int .i64 x.level, .int .i64 x.undos] 77)).alloc (.cells #[.int .i64 0, .int .i64 0] 94) = w0 at hb h0 h1 ⊢
 obtain ⟨e0, e1, e2, e3, e4, e5, e6, e7⟩ := op_cells h0
 obtain ⟨c0, c1⟩ := pair_cells h1
 obtain ⟨f0, f1⟩ := pair_frozen h1
 go_wp2
 have HX := Lib.hid (pair_set (.int .i64 x.dev) (.int .i64 x.seq) h1)
 have HB : Hid (Below w.heap.size w ((w0.setCell ⟨w.heap.size + 1, 0, none⟩ (.int .i64 x.dev)).setCell ⟨w.heap.size + 1, 1, none⟩ (.int .i64 x.seq))) := (hb.setCell (by show _ ≤ w.heap.size + 1; omega) _).setCell (by show _ ≤ w.heap.size + 1; omega) _
 generalize (w0.setCell ⟨w.heap.size + 1, 0, none⟩ (.int .i64 x.dev)).setCell ⟨w.heap.size + 1, 1, none⟩ (.int .i64 x.seq) = wf at HX HB ⊢
 obtain ⟨d0, d1⟩ := pair_cells HX.out
 exact bodyPost_ret (v := nameV x.dev x.seq) (by simp [results, Try.results67, go_sem, d0, d1, nameV]) rfl ⟨rfl, HB.out⟩
theorem TriF.und {w w1 : World} {x0 x1 x2 x3 x4 x5 x6 x7 y0 y1 y2 y3 y4 y5 y6 y7 : Value} {z : Array Value} {S T U : TypeId} (h : TriF w w1 #[x0, x1, x2, x3, x4, x5, x6, x7] #[y0, y1, y2, y3, y4, y5, y6, y7] z S T U) (u v : Value) :
  TriF w ((w1.setCell ⟨w.heap.size, 7, none⟩ u).setCell ⟨w.heap.size + 1, 7, none⟩ v) #[x0, x1, x2, x3, x4, x5, x6, u] #[y0, y1, y2, y3, y4, y5, y6, v] z S T U := by
 have h1 : (w1.setCell ⟨w.heap.size, 7, none⟩ u).heap[w.heap.size]? = some (.cells #[x0, x1, x2, x3, x4, x5, x6, u] S (0, 0)) := heap_setCell_same _ _ _ _ _ _ h.fst
 have h2 : (w1.setCell ⟨w.heap.size, 7, none⟩ u).heap[w.heap.size + 1]? = some (.cells #[y0, y1, y2, y3, y4, y5, y6, y7] T (0, 0)) := (heap_setCell_other _ _ _ _ (by show w.heap.size + 1 ≠ w.heap.size; omega)).trans h.snd
 refine ⟨(heap_setCell_other _ _ _ _ (by show w.heap.size ≠ w.heap.size + 1; omega)).trans h1, heap_setCell_same _ _ _ _ _ _ h2, ?_, (h.bel.setCell (Nat.le_refl _) _).setCell (by show _ ≤ w.heap.size + 1; omega) _⟩
 exact (heap_setCell_other _ _ _ _ (by show w.heap.size + 1 + 1 ≠ w.heap.size + 1; omega)).trans ((heap_setCell_other _ _ _ _ (by show w.heap.size + 1 + 1 ≠ w.heap.size; omega)).trans h.res)
set_option linter.unusedSimpArgs false in
set_option maxHeartbeats 20000000 in
theorem joinedYes (a : OpV) (u : Int) (w : World) : Calls Try.prog 51 #[.agg #[.int .i64 a.dev, .int .i64 a.seq, .int .i64 a.stamp, .int .i64 a.kind, .string a.item, .int .i64 a.qty, .int .i64 a.level, .int .i64 a.undos], .agg #[.int .i64 a.dev, .int .i64 a.seq, .int .i64 a.stamp, .int .i64 a.kind, .string a.item, .int .i64 a.qty, .int .i64 a.level, .int .i64 u]] w fun e w' => e = .returned (.tuple #[.agg #[.int .i64 a.dev, .int .i64 a.seq, .int .i64 a.stamp, .int .i64 a.kind, .string a.item, .int .i64 a.qty, .int .i64 a.level, .int .i64 (max a.undos u)], .bool true]) ∧ Below w.heap.size w w' := by
 have HT := Lib.hid (TriF.mk0 w #[.int .i64 a.dev, .int .i64 a.seq, .int .i64 a.stamp, .int .i64 a.kind, .string a.item, .int .i64 a.qty, .int .i64 a.level, .int .i64 a.undos] #[.int .i64 a.dev, .int .i64 a.seq, .int .i64 a.stamp, .int .i64 a.kind, .string a.item, .int .i64 a.qty, .int .i64 a.level, .int .i64 u] #[.int .i64 0, .int .i64 0, .int .i64 0, .int .i64 0, .string ⟨#[]⟩, .int .i64 0, .int .i64 0, .int .i64 0] 77 77 77)
 go_enter Try.func51, Try.ntmps51
 go_upto_region 2 with fail
 generalize ((w.alloc (.cells #[.int .i64 a.dev, .int .i64 a.seq, .int .i64 a.stamp, .int .i64 a.kind, .string a.item, .int .i64 a.qty, .int .i64 a.level, .int .i64 a.undos] 77)).alloc (.cells #[.int .i64 a.dev, .int .i64 a.seq, .int .i64 a.stamp, .int .i64 a.kind, .string a.item, .int .i64 a.qty, .int .i64 a.level, .int .i64 u] 77)).alloc (.cells #[.int .i64 0, .int .i64 0, .int .i64 0, .int .i64 0, .string ⟨#[]⟩, .int .i64 0, .int .i64 0, .int .i64 0] 77) = w0 at HT ⊢
 obtain ⟨a0, a1, a2, a3, a4, a5, a6, a7⟩ := op_cells HT.out.fst
 obtain ⟨b0, b1, b2, b3, b4, b5, b6, b7⟩ := op_cells HT.out.snd
 obtain ⟨f0, f1, f2, f3, f4, f5, f6, f7⟩ := op_frozen HT.out.fst
 obtain ⟨g0, g1, g2, g3, g4, g5, g6, g7⟩ := op_frozen HT.out.snd
 have HT1 := Lib.hid (HT.out.und (.int .i64 (max a.undos u)) (.int .i64 (max a.undos u)))
 clear HT
 go_upto_region 3 with fail
 clear a0 a1 a2 a3 a4 a5 a6 a7 b0 b1 b2 b3 b4 b5 b6 b7 f0 f1 f2 f3 f4 f5 f6 f7 g0 g1 g2 g3 g4 g5 g6 g7
 generalize (w0.setCell ⟨w.heap.size, 7, none⟩ (.int .i64 (max a.undos u))).setCell ⟨w.heap.size + 1, 7, none⟩ (.int .i64 (max a.undos u)) = w1 at HT1 ⊢
 obtain ⟨a0, a1, a2, a3, a4, a5, a6, a7⟩ := op_cells HT1.out.fst
 obtain ⟨b0, b1, b2, b3, b4, b5, b6, b7⟩ := op_cells HT1.out.snd
 obtain ⟨e0, e1, e2, e3, e4, e5, e6, e7⟩ := op_cells HT1.out.res
 obtain ⟨f0, f1, f2, f3, f4, f5, f6, f7⟩ := op_frozen HT1.out.res
 generalize hm : max a.undos u = m at HT1 a7 b7 ⊢
 have HMx := Lib.hid hm
 clear hm
 go_wp2
 have HX := Lib.hid (setOp_same (.int .i64 a.dev) (.int .i64 a.seq) (.int .i64 a.stamp) (.int .i64 a.kind) (.string a.item) (.int .i64 a.qty) (.int .i64 a.level) (.int .i64 m) HT1.out.res)
 have HB := Lib.hid (setOp_below (.int .i64 a.dev) (.int .i64 a.seq) (.int .i64 a.stamp) (.int .i64 a.kind) (.string a.item) (.int .i64 a.qty) (.int .i64 a.level) (.int .i64 m) HT1.out.bel (by show _ ≤ w.heap.size + 1 + 1; omega))
 clear a0 a1 a2 a3 a4 a5 a6 a7 b0 b1 b2 b3 b4 b5 b6 b7 e0 e1 e2 e3 e4 e5 e6 e7 f0 f1 f2 f3 f4 f5 f6 f7
 change bodyPost _ _ _ _ _ (setOp w1 (w.heap.size + 1 + 1) (.int .i64 a.dev) (.int .i64 a.seq) (.int .i64 a.stamp) (.int .i64 a.kind) (.string a.item) (.int .i64 a.qty) (.int .i64 a.level) (.int .i64 m))
 generalize setOp w1 (w.heap.size + 1 + 1) (.int .i64 a.dev) (.int .i64 a.seq) (.int .i64 a.stamp) (.int .i64 a.kind) (.string a.item) (.int .i64 a.qty) (.int .i64 a.level) (.int .i64 m) = wf at HX HB ⊢
 obtain ⟨d0, d1, d2, d3, d4, d5, d6, d7⟩ := op_cells HX.out
 exact bodyPost_ret (v := .tuple #[.agg #[.int .i64 a.dev, .int .i64 a.seq, .int .i64 a.stamp, .int .i64 a.kind, .string a.item, .int .i64 a.qty, .int .i64 a.level, .int .i64 m], .bool true]) (by simp [results, Try.results51, go_sem, d0, d1, d2, d3, d4, d5, d6, d7]) rfl ⟨by rw [HMx.out], HB.out⟩
set_option linter.unusedSimpArgs false in
set_option maxHeartbeats 20000000 in
theorem joinedNo (a b : OpV) (hs : sameB a b = false) (w : World) : Calls Try.prog 51 #[.agg #[.int .i64 a.dev, .int .i64 a.seq, .int .i64 a.stamp, .int .i64 a.kind, .string a.item, .int .i64 a.qty, .int .i64 a.level, .int .i64 a.undos], .agg #[.int .i64 b.dev, .int .i64 b.seq, .int .i64 b.stamp, .int .i64 b.kind, .string b.item, .int .i64 b.qty, .int .i64 b.level, .int .i64 b.undos]] w fun e w' => e = .returned (.tuple #[.agg #[.int .i64 0, .int .i64 0, .int .i64 0, .int .i64 0, .string ⟨#[]⟩, .int .i64 0, .int .i64 0, .int .i64 0], .bool false]) ∧ Below w.heap.size w w' := by
 have HT := Lib.hid (TriF.mk0 w #[.int .i64 a.dev, .int .i64 a.seq, .int .i64 a.stamp, .int .i64 a.kind, .string a.item, .int .i64 a.qty, .int .i64 a.level, .int .i64 a.undos] #[.int .i64 b.dev, .int .i64 b.seq, .int .i64 b.stamp, .int .i64 b.kind, .string b.item, .int .i64 b.qty, .int .i64 b.level, .int .i64 b.undos] #[.int .i64 0, .int .i64 0, .int .i64 0, .int .i64 0, .string ⟨#[]⟩, .int .i64 0, .int .i64 0, .int .i64 0] 77 77 77)
 have HS := Lib.hid hs
 clear hs
 go_enter Try.func51, Try.ntmps51
 go_upto_region 2 with fail
 generalize ((w.alloc (.cells #[.int .i64 a.dev, .int .i64 a.seq, .int .i64 a.stamp, .int .i64 a.kind, .string a.item, .int .i64 a.qty, .int .i64 a.level, .int .i64 a.undos] 77)).alloc (.cells #[.int .i64 b.dev, .int .i64 b.seq, .int .i64 b.stamp, .int .i64 b.kind, .string b.item, .int .i64 b.qty, .int .i64 b.level, .int .i64 b.undos] 77)).alloc (.cells #[.int .i64 0, .int .i64 0, .int .i64 0, .int .i64 0, .string ⟨#[]⟩, .int .i64 0, .int .i64 0, .int .i64 0] 77) = w0 at HT ⊢
 obtain ⟨a0, a1, a2, a3, a4, a5, a6, a7⟩ := op_cells HT.out.fst
 obtain ⟨b0, b1, b2, b3, b4, b5, b6, b7⟩ := op_cells HT.out.snd
 obtain ⟨f0, f1, f2, f3, f4, f5, f6, f7⟩ := op_frozen HT.out.fst
 obtain ⟨g0, g1, g2, g3, g4, g5, g6, g7⟩ := op_frozen HT.out.snd
 have HT1 := Lib.hid (HT.out.und (.int .i64 (max a.undos b.undos)) (.int .i64 (max a.undos b.undos)))
 clear HT
 go_upto_region 3 with fail
 clear a0 a1 a2 a3 a4 a5 a6 a7 b0 b1 b2 b3 b4 b5 b6 b7 f0 f1 f2 f3 f4 f5 f6 f7 g0 g1 g2 g3 g4 g5 g6 g7
 generalize (w0.setCell ⟨w.heap.size, 7, none⟩ (.int .i64 (max a.undos b.undos))).setCell ⟨w.heap.size + 1, 7, none⟩ (.int .i64 (max a.undos b.undos)) = w1 at HT1 ⊢
 obtain ⟨a0, a1, a2, a3, a4, a5, a6, a7⟩ := op_cells HT1.out.fst
 obtain ⟨b0, b1, b2, b3, b4, b5, b6, b7⟩ := op_cells HT1.out.snd
 obtain ⟨e0, e1, e2, e3, e4, e5, e6, e7⟩ := op_cells HT1.out.res
 obtain ⟨f0, f1, f2, f3, f4, f5, f6, f7⟩ := op_frozen HT1.out.res
 generalize max a.undos b.undos = m at HT1 a7 b7 ⊢
 go_wp2
 all_goals first
  | (exfalso
     have hf := HS.out
     unfold sameB at hf
     simp_all
     done)
  | (have HX := Lib.hid (setOp_same (.int .i64 0) (.int .i64 0) (.int .i64 0) (.int .i64 0) (.string ⟨#[]⟩) (.int .i64 0) (.int .i64 0) (.int .i64 0) HT1.out.res)
     have HB := Lib.hid (setOp_below (.int .i64 0) (.int .i64 0) (.int .i64 0) (.int .i64 0) (.string ⟨#[]⟩) (.int .i64 0) (.int .i64 0) (.int .i64 0) HT1.out.bel (by show _ ≤ w.heap.size + 1 + 1; omega))
     clear a0 a1 a2 a3 a4 a5 a6 a7 b0 b1 b2 b3 b4 b5 b6 b7 e0 e1 e2 e3 e4 e5 e6 e7 f0 f1 f2 f3 f4 f5 f6 f7
     change bodyPost _ _ _ _ _ (setOp w1 (w.heap.size + 1 + 1) (.int .i64 0) (.int .i64 0) (.int .i64 0) (.int .i64 0) (.string ⟨#[]⟩) (.int .i64 0) (.int .i64 0) (.int .i64 0))
     generalize setOp w1 (w.heap.size + 1 + 1) (.int .i64 0) (.int .i64 0) (.int .i64 0) (.int .i64 0) (.string ⟨#[]⟩) (.int .i64 0) (.int .i64 0) (.int .i64 0) = wf at HX HB ⊢
     obtain ⟨d0, d1, d2, d3, d4, d5, d6, d7⟩ := op_cells HX.out
     exact bodyPost_ret (v := .tuple #[.agg #[.int .i64 0, .int .i64 0, .int .i64 0, .int .i64 0, .string ⟨#[]⟩, .int .i64 0, .int .i64 0, .int .i64 0], .bool false]) (by simp [results, Try.results51, go_sem, d0, d1, d2, d3, d4, d5, d6, d7]) rfl ⟨rfl, HB.out⟩)
set_option linter.unusedSimpArgs false in
set_option maxHeartbeats 20000000 in
theorem l4Same (a b : OpV) (w : World) : Calls Try.prog 103 #[.agg #[.int .i64 a.dev, .int .i64 a.seq, .int .i64 a.stamp, .int .i64 a.kind, .string a.item, .int .i64 a.qty, .int .i64 a.level, .int .i64 a.undos], .agg #[.int .i64 b.dev, .int .i64 b.seq, .int .i64 b.stamp, .int .i64 b.kind, .string b.item, .int .i64 b.qty, .int .i64 b.level, .int .i64 b.undos]] w fun e w' => e = .returned (.bool (sameB a b)) ∧ Below w.heap.size w w' := by
 have HS : Hid (sameB a b = (a.dev == b.dev && (a.seq == b.seq && (a.stamp == b.stamp && (a.kind == b.kind && (a.item.toList == b.item.toList && (a.qty == b.qty && a.level == b.level))))))) := rfl
 go_enter Try.func103, Try.ntmps103
 go_wp2
 all_goals
  go_ret
  refine ⟨?_, ((Below.refl _ w).alloc (Nat.le_refl _) _).alloc (by simp) _⟩
  rw [HS.out]
  simp_all
theorem cell_of_block {w w' : World} {b i : Nat} (h : w'.heap[b]? = w.heap[b]?) : w'.cell? ⟨b, i, none⟩ = w.cell? ⟨b, i, none⟩ := by unfold World.cell?; rw [h]
/-- What the first k operations of a list lay under each name. -/
def setF (l : List OpV) : Nat → Int → Int → Option OpV
 | 0 => fun _ _ => none
 | k + 1 => putF (setF l k) (atOp l k)
def SetPost (l : List OpV) (n : Nat) (w : World) (e : Ending) (w' : World) : Prop := ∃ b, e = .returned (.map (some b)) ∧ w.heap.size ≤ b ∧ SetIs w' b n (setF l n) ∧ Below w.heap.size w w'
set_option linter.unusedSimpArgs false in
set_option maxHeartbeats 40000000 in
theorem opSetOf (w : World) (B : Nat) (a : Option Addr) (n c : Nat) (l : List OpV) (h : Ops w B a n l) (hB : B ≤ w.heap.size) (hn : n ≤ 1048576) (hf : ∀ i, i < n → Fit2 (atOp l i).dev (atOp l i).seq) :
  Calls Try.prog 66 #[.slice a n c] w (SetPost l n w) := by
 have hmm := run_makeMap_n w n
 have hb0 : Below w.heap.size w (w.alloc (.map #[] 0)) := (Below.refl _ w).alloc (Nat.le_refl _) _
 have HO := Lib.hid (h.below hb0 hB)
 have HB0 := Lib.hid hb0
 have HS0 := Lib.hid (setIs_made w)
 have HF := Lib.hid hf
 have hs0 : w.heap.size + 1 ≤ (w.alloc (.map #[] 0)).heap.size := by show _ ≤ (w.heap.push _).size; simp
 clear h hb0 hf
 go_enter Try.func66, Try.ntmps66
 go_upto_region 2 with fail
 clear hmm
 generalize w.alloc (.map #[] 0) = w0 at HO HB0 HS0 hs0 ⊢
 go_wp2
 go_loopw [11] (fun i wr => ∃ k : Nat, k ≤ n ∧ i = .int .i64 (k : Int) ∧ Hid (SetIs wr w.heap.size k (setF l k)) ∧ Hid (Below w.heap.size w wr) ∧ w.heap.size + 1 ≤ wr.heap.size) (fun i _ => n - (intOf i).toNat)
 case atStart => exact ⟨0, by omega, rfl, HS0, HB0, hs0⟩
 case round =>
  obtain ⟨k, hk, rfl, HS, HB, hsr⟩ := hrel
  clear HS0
  by_cases hlt : k < n
  rotate_left
  ·obtain rfl : k = n := by omega
   go_wp2
   go_ret
   exact ⟨w.heap.size, rfl, Nat.le_refl _, HS.out, HB.out⟩
  have HOr := Lib.hid (HO.out.kept fun j hj => ((HB.out.block j (by omega)).trans (HB0.out.block j (by omega)).symm))
  obtain ⟨b, off, rfl, hb, ho⟩ := HOr.out.2 k hlt
  have HOk : Hid (OpAt wr b (off + k * 8) (atOp l k)) := ho
  have HFk := Lib.hid (HF.out k hlt)
  have HSt : Hid (setF l (k + 1) = putF (setF l k) (atOp l k)) := rfl
  clear ho
  generalize atOp l k = x at HOk HFk HSt
  obtain ⟨d0, d1, d2, d3, d4, d5, d6, d7⟩ := HOk.out
  go_upto_region 5 with fail

  have hb2 : Below wr.heap.size wr (wr.alloc (.cells #[.int .i64 x.dev, .int .i64 x.seq, .int .i64 x.stamp, .int .i64 x.kind, .string x.item, .int .i64 x.qty, .int .i64 x.level, .int .i64 x.undos] 77)) := bl
  have hx := boxAt (Below.refl _ (wr.alloc (.cells #[.int .i64 x.dev, .int .i64 x.seq, .int .i64 x.stamp, .int .i64 x.kind, .string x.item, .int .i64 x.qty, .int .i64 x.level, .int .i64 x.undos] 77)))
  have HS2 := Lib.hid (HS.out.below hb2)
  generalize wr.alloc (.cells #[.int .i64 x.dev, .int .i64 x.seq, .int .i64 x.stamp, .int .i64 x.kind, .string x.item, .int .i64 x.qty, .int .i64 x.level, .int .i64 x.undos] 77) = w2 at hb2 hx HS2 ⊢
  have hnb := hb2.size
  generalize hnbe : wr.heap.size = nb at hx hb2 hsr hnb ⊢
  have HB2 : Hid (Below w.heap.size w w2) := HB.out.trans ⟨hb2.os, hb2.tape, hb2.output, by omega, fun j hj => hb2.block j (by omega)⟩
  clear d0 d1 d2 d3 d4 d5 d6 d7 HOk HOr
  obtain ⟨e0, e1, e2, e3, e4, e5, e6, e7⟩ := op_cells hx
  have hS : w2.drew.cell? ⟨nb, 0, none⟩ = some (.int .i64 x.dev) ∧ w2.drew.cell? ⟨nb, 1, none⟩ = some (.int .i64 x.seq) ∧ w2.drew.cell? ⟨nb, 2, none⟩ = some (.int .i64 x.stamp) ∧ w2.drew.cell? ⟨nb, 3, none⟩ = some (.int .i64 x.kind) ∧ w2.drew.cell? ⟨nb, 4, none⟩ = some (.string x.item) ∧ w2.drew.cell? ⟨nb, 5, none⟩ = some (.int .i64 x.qty) ∧ w2.drew.cell? ⟨nb, 6, none⟩ = some (.int .i64 x.level) ∧ w2.drew.cell? ⟨nb, 7, none⟩ = some (.int .i64 x.undos) := ⟨e0, e1, e2, e3, e4, e5, e6, e7⟩
  have hnb2 : nb < w2.heap.size := (Array.getElem?_eq_some_iff.1 hx).1
  clear hx hb2 e0 e1 e2 e3 e4 e5 e6 e7
  go_wp2_with fail
  refine wp_region_held_drew (S := fun w' => w'.cell? ⟨nb, 0, none⟩ = some (.int .i64 x.dev) ∧ w'.cell? ⟨nb, 1, none⟩ = some (.int .i64 x.seq) ∧ w'.cell? ⟨nb, 2, none⟩ = some (.int .i64 x.stamp) ∧ w'.cell? ⟨nb, 3, none⟩ = some (.int .i64 x.kind) ∧ w'.cell? ⟨nb, 4, none⟩ = some (.string x.item) ∧ w'.cell? ⟨nb, 5, none⟩ = some (.int .i64 x.qty) ∧ w'.cell? ⟨nb, 6, none⟩ = some (.int .i64 x.level) ∧ w'.cell? ⟨nb, 7, none⟩ = some (.int .i64 x.undos)) (by kernel_rfl) hS (fun hHeld => ?_)
  refine tk 0 ⟨some 15, .move (.tmp 3), 91, "l04_carts.go:28", #[], none⟩ ?_
  (try simp only [Act.put, u1, u2, u3])
  refine tk 1 ⟨some 16, .load 77 (.tmp 5), 77, "l04_carts.go:28", #[], none⟩ ?_
  (try simp only [Act.put, u1, u2, u3])
  refine tk 3 ⟨some 18, .load 77 (.tmp 5), 77, "l04_carts.go:28", #[], none⟩ ?_
  (try simp only [Act.put, u1, u2, u3])
  refine rk 2 rfl (fun K hK => ?_)
  go_simp
  go_at_call 67
  refine (nameOf x w2.drew).mono ?_
  rintro e w3 ⟨rfl, hb3⟩
  have hS3 : w3.cell? ⟨nb, 0, none⟩ = some (.int .i64 x.dev) ∧ w3.cell? ⟨nb, 1, none⟩ = some (.int .i64 x.seq) ∧ w3.cell? ⟨nb, 2, none⟩ = some (.int .i64 x.stamp) ∧ w3.cell? ⟨nb, 3, none⟩ = some (.int .i64 x.kind) ∧ w3.cell? ⟨nb, 4, none⟩ = some (.string x.item) ∧ w3.cell? ⟨nb, 5, none⟩ = some (.int .i64 x.qty) ∧ w3.cell? ⟨nb, 6, none⟩ = some (.int .i64 x.level) ∧ w3.cell? ⟨nb, 7, none⟩ = some (.int .i64 x.undos) := ⟨(hb3.cell (block_lt_of_cell hS.1)).trans hS.1, (hb3.cell (block_lt_of_cell hS.2.1)).trans hS.2.1, (hb3.cell (block_lt_of_cell hS.2.2.1)).trans hS.2.2.1, (hb3.cell (block_lt_of_cell hS.2.2.2.1)).trans hS.2.2.2.1, (hb3.cell (block_lt_of_cell hS.2.2.2.2.1)).trans hS.2.2.2.2.1, (hb3.cell (block_lt_of_cell hS.2.2.2.2.2.1)).trans hS.2.2.2.2.2.1, (hb3.cell (block_lt_of_cell hS.2.2.2.2.2.2.1)).trans hS.2.2.2.2.2.2.1, (hb3.cell (block_lt_of_cell hS.2.2.2.2.2.2.2)).trans hS.2.2.2.2.2.2.2⟩
  refine hK.out _ _ hS3 (fun hHeld2 => ?_)
  clear hK K
  (try simp only [Act.put, u1, u2, u3])
  have hbb : Below w2.heap.size w2 w3 := ⟨hb3.os, hb3.tape, hb3.output, hb3.size, hb3.block⟩
  have HS3 := Lib.hid (HS2.out.below hbb)
  obtain ⟨w4, hrun0, hset, hgr⟩ := HS3.out.put (by unfold maxLen; omega) x HFk.out
  have hrun : (Instr.mapUpdate 91 (.map (some w.heap.size)) (nameV x.dev x.seq) (.agg #[.int .i64 x.dev, .int .i64 x.seq, .int .i64 x.stamp, .int .i64 x.kind, .string x.item, .int .i64 x.qty, .int .i64 x.level, .int .i64 x.undos])).run Try.prog w3 = .ok () w4 := hrun0
  have hn3 : nb < w3.heap.size := Nat.lt_of_lt_of_le hnb2 hbb.size
  have hS4 : w4.cell? ⟨nb, 0, none⟩ = some (.int .i64 x.dev) ∧ w4.cell? ⟨nb, 1, none⟩ = some (.int .i64 x.seq) ∧ w4.cell? ⟨nb, 2, none⟩ = some (.int .i64 x.stamp) ∧ w4.cell? ⟨nb, 3, none⟩ = some (.int .i64 x.kind) ∧ w4.cell? ⟨nb, 4, none⟩ = some (.string x.item) ∧ w4.cell? ⟨nb, 5, none⟩ = some (.int .i64 x.qty) ∧ w4.cell? ⟨nb, 6, none⟩ = some (.int .i64 x.level) ∧ w4.cell? ⟨nb, 7, none⟩ = some (.int .i64 x.undos) := ⟨(cell_of_block (hgr.block nb hn3 (by simp; omega))).trans hS3.1, (cell_of_block (hgr.block nb hn3 (by simp; omega))).trans hS3.2.1, (cell_of_block (hgr.block nb hn3 (by simp; omega))).trans hS3.2.2.1, (cell_of_block (hgr.block nb hn3 (by simp; omega))).trans hS3.2.2.2.1, (cell_of_block (hgr.block nb hn3 (by simp; omega))).trans hS3.2.2.2.2.1, (cell_of_block (hgr.block nb hn3 (by simp; omega))).trans hS3.2.2.2.2.2.1, (cell_of_block (hgr.block nb hn3 (by simp; omega))).trans hS3.2.2.2.2.2.2.1, (cell_of_block (hgr.block nb hn3 (by simp; omega))).trans hS3.2.2.2.2.2.2.2⟩
  refine rk 4 rfl (fun K hK => ?_)
  go_simp
  refine hK.out _ _ hS4 (fun hHeld3 => ?_)
  clear hK K
  (try simp only [Act.put, u1, u2, u3])
  refine wpAnyH_done (by kernel_rfl) ?_ _
  have HB3 := Lib.hid (HB2.out.trans (hbb.mono HB2.out.size))
  have HB4 : Hid (Below w.heap.size w w4) := HB3.out.grown hgr HB3.out.size (fun j hj => by cases hj; exact Nat.le_refl _)
  have HSet := Lib.hid hset
  rw [← HSt.out] at HSet
  have hs4 : w.heap.size + 1 ≤ w4.heap.size := by have := hgr.size; have := hbb.size; omega
  clear hS hS3 hS4 hrun hrun0 hset hgr hb3 hbb hHeld hHeld2 hHeld3
  go_wp2
  go_roundw
  case rel => exact ⟨k + 1, by omega, by go_num, HSet, HB4, hs4⟩
  case measure => simp [intOf]; omega
theorem setF_hit {m : List OpV} (h : incB m = true) : ∀ k, k ≤ m.length → ∀ i, i < k → setF m k (atOp m i).dev (atOp m i).seq = some (atOp m i)
 | 0, _, i, hi => absurd hi (Nat.not_lt_zero _)
 | k + 1, hk, i, hi => by
  show putF (setF m k) (atOp m k) _ _ = _
  unfold putF
  by_cases e : (atOp m i).dev = (atOp m k).dev ∧ (atOp m i).seq = (atOp m k).seq
  ·rw [if_pos e]
   have := inc_uniq h (i := i) (j := k) (by omega) (by omega) (dev := (atOp m k).dev) (seq := (atOp m k).seq) e ⟨rfl, rfl⟩
   rw [this]
  ·rw [if_neg e]
   have hik : i ≠ k := fun e2 => e (by rw [e2]; exact ⟨rfl, rfl⟩)
   exact setF_hit h k (by omega) i (by omega)
theorem setF_miss {m : List OpV} {d s : Int} : ∀ k, (∀ j, j < k → ¬ eqN m j d s) → setF m k d s = none
 | 0, _ => rfl
 | k + 1, h => by
  show putF (setF m k) (atOp m k) _ _ = _
  unfold putF
  rw [if_neg (fun e => h k (by omega) ⟨e.1.symm, e.2.symm⟩)]
  exact setF_miss k fun j hj => h j (by omega)
theorem setF_some {m : List OpV} {d s : Int} {x : OpV} : ∀ k, setF m k d s = some x → ∃ i, i < k ∧ eqN m i d s ∧ atOp m i = x
 | 0, h => by cases h
 | k + 1, h => by
  have h' : putF (setF m k) (atOp m k) d s = some x := h
  unfold putF at h'
  by_cases e : d = (atOp m k).dev ∧ s = (atOp m k).seq
  ·rw [if_pos e] at h'
   injection h' with h'
   exact ⟨k, by omega, ⟨e.1.symm, e.2.symm⟩, h'⟩
  ·rw [if_neg e] at h'
   obtain ⟨i, hi, r⟩ := setF_some k h'
   exact ⟨i, by omega, r⟩
/-- What the operation is in the list m, by device and number. -/
def okW (m : List OpV) (x : OpV) : Bool := match setF m m.length x.dev x.seq with
 | none => false
 | some y => sameB x y && decide (x.undos ≤ y.undos)
theorem okW_none {m : List OpV} {x : OpV} (h : setF m m.length x.dev x.seq = none) : okW m x = false := by unfold okW; rw [h]
theorem okW_some {m : List OpV} {x y : OpV} (h : setF m m.length x.dev x.seq = some y) : okW m x = (sameB x y && decide (x.undos ≤ y.undos)) := by unfold okW; rw [h]
def allW (m l : List OpV) : Bool := (List.range l.length).all fun i => okW m (atOp l i)
def inCart (xs : List Int) (l : List OpV) (ys : List Int) (m : List OpV) : Bool := cartB xs l && (cartB ys m && allW m l)
theorem inCart_3 {xs : List Int} {l : List OpV} {ys : List Int} {m : List OpV} (h : cartB xs l = true) (h2 : cartB ys m = true) : inCart xs l ys m = allW m l := by unfold inCart; rw [h, h2]; rfl
theorem allW_end {m l : List OpV} (h : ∀ i, i < l.length → okW m (atOp l i) = true) : allW m l = true := by
 unfold allW
 rw [List.all_eq_true]
 exact fun i hi => h i (by simpa using hi)
theorem op_fit {o : OpV} (h : o.ok = true) : 0 ≤ o.dev ∧ o.dev ≤ 3 ∧ 0 ≤ o.seq ∧ o.seq ≤ 40 ∧ 0 ≤ o.undos ∧ o.undos ≤ 50 := by
 have h' : opB o.dev o.seq o.stamp o.kind o.item o.qty o.level o.undos = true := h
 unfold opB headB at h'
 simp only [Bool.and_eq_true, inB_iff] at h'
 obtain ⟨⟨h1, h2, _, _, h5⟩, _⟩ := h'
 omega
theorem cart_fit {xs : List Int} {l : List OpV} (h : cartB xs l = true) {i : Nat} (hi : i < l.length) : Fit2 (atOp l i).dev (atOp l i).seq := by
 obtain ⟨h1, h2, h3, h4, _⟩ := op_fit (cart_ok_at h hi)
 exact fit2 h1 (by omega) h3 (by omega)
theorem cart_has {ys : List Int} {m : List OpV} (h : cartB ys m = true) {d : Nat} (hd : d < 4) {s : Nat} (hs : (s : Int) < ys.getD d 0) : stOf ys d + s < m.length ∧ eqN m (stOf ys d + s) (d : Int) ((s : Int) + 1) := by
 obtain ⟨_, hdv, h4⟩ := cart_true h
 have hD := hdv d hd
 unfold devB at hD
 rw [Bool.and_eq_true] at hD
 have hR := hD.2
 unfold runB at hR
 rw [List.all_eq_true] at hR
 have hF := hR s (List.mem_range.2 (by omega))
 unfold fitB at hF
 simp only [Bool.and_eq_true, decide_eq_true_eq] at hF
 have hm := stOf_mono ys (d + 1) 4 (by omega)
 have e : stOf ys (d + 1) = stOf ys d + (ys.getD d 0).toNat := rfl
 exact ⟨by omega, hF.2.1, hF.2.2.1⟩
theorem cart_seq {ys : List Int} {m : List OpV} (h : cartB ys m = true) {j : Nat} (hj : j < m.length) {d : Nat} (e : (atOp m j).dev = (d : Int)) : 1 ≤ (atOp m j).seq ∧ (atOp m j).seq ≤ ys.getD d 0 := by
 obtain ⟨d', _, h1, h2, _, h3, h4⟩ := cart_at h hj
 have hdd : d' = d := by omega
 subst hdd
 have e : stOf ys (d' + 1) = stOf ys d' + (ys.getD d' 0).toNat := rfl
 omega
theorem get_has {ys : List Int} {m : List OpV} (h : cartB ys m = true) {d : Nat} (hd : d < 4) {s : Nat} (hs : (s : Int) < ys.getD d 0) : setF m m.length (d : Int) ((s : Int) + 1) = some (atOp m (stOf ys d + s)) := by
 obtain ⟨h1, h2, h3⟩ := cart_has h hd hs
 have := setF_hit (cart_inc h) m.length (Nat.le_refl _) _ h1
 rw [h2, h3] at this
 exact this
theorem get_none {ys : List Int} {m : List OpV} (h : cartB ys m = true) {d : Nat} {s : Int} (hs : ys.getD d 0 < s) : setF m m.length (d : Int) s = none :=
 setF_miss _ fun j hj e => by
  have := cart_seq h hj e.1
  have := e.2
  omega
def getO (l : List OpV) (d s : Int) : Option OpV := setF l l.length d s
def joinAt (l m : List OpV) (d s : Int) : OpV := match getO l d s, getO m d s with
 | some a, some b => a.with (max a.undos b.undos)
 | some a, none => a
 | none, some b => b
 | none, none => OpV.zero
/-- What is listed up to number s of device d, by a vector. -/
def listP (zs : List Int) (F : Nat → Nat → OpV) (d s : Nat) : List OpV := ((List.range d).flatMap fun e => (List.range (zs.getD e 0).toNat).map fun i => F e i) ++ (List.range s).map fun i => F d i
theorem listP_step (zs : List Int) (F : Nat → Nat → OpV) (d s : Nat) : listP zs F d (s + 1) = listP zs F d s ++ [F d s] := by
 unfold listP
 rw [List.range_succ, List.map_append, ← List.append_assoc]
 rfl
theorem listP_next (zs : List Int) (F : Nat → Nat → OpV) (d : Nat) : listP zs F (d + 1) 0 = listP zs F d (zs.getD d 0).toNat := by
 unfold listP
 rw [List.range_succ, List.flatMap_append]
 simp
theorem listP_len (zs : List Int) (F : Nat → Nat → OpV) : ∀ d s, (listP zs F d s).length = stOf zs d + s
 | 0, s => by simp [listP, stOf]
 | d + 1, 0 => by
  rw [listP_next, listP_len zs F d]
  rfl
 | d + 1, s + 1 => by
  rw [listP_step, List.length_append, listP_len zs F (d + 1) s]
  rfl
theorem listP_pre (zs : List Int) (F : Nat → Nat → OpV) (d : Nat) : ∀ k s, s ≤ s + k → ∃ r, listP zs F d (s + k) = listP zs F d s ++ r
 | 0, s, _ => ⟨[], by simp⟩
 | k + 1, s, _ => by
  obtain ⟨r, h⟩ := listP_pre zs F d k s (by omega)
  exact ⟨r ++ [F d (s + k)], by rw [← Nat.add_assoc, listP_step, h, List.append_assoc]⟩
theorem listP_far (zs : List Int) (F : Nat → Nat → OpV) (d : Nat) : ∀ k, ∃ r, listP zs F (d + k) 0 = listP zs F d 0 ++ r
 | 0 => ⟨[], by simp⟩
 | k + 1 => by
  obtain ⟨r, h⟩ := listP_far zs F d k
  obtain ⟨r2, h2⟩ := listP_pre zs F (d + k) (zs.getD (d + k) 0).toNat 0 (by omega)
  refine ⟨r ++ r2, ?_⟩
  rw [← Nat.add_assoc, listP_next, ← List.append_assoc, ← h]
  simpa using h2
theorem listP_at (zs : List Int) (F : Nat → Nat → OpV) {d s : Nat} (hd : d < 4) (hs : s < (zs.getD d 0).toNat) : atOp (listP zs F 4 0) (stOf zs d + s) = F d s := by
 obtain ⟨r, h⟩ := listP_far zs F (d + 1) (3 - d)
 have e4 : d + 1 + (3 - d) = 4 := by omega
 rw [e4, listP_next zs F d] at h
 obtain ⟨r2, h2⟩ := listP_pre zs F d ((zs.getD d 0).toNat - (s + 1)) (s + 1) (by omega)
 have e5 : s + 1 + ((zs.getD d 0).toNat - (s + 1)) = (zs.getD d 0).toNat := by omega
 rw [e5, listP_step zs F d s] at h2
 rw [h2] at h
 have hl := listP_len zs F d s
 unfold atOp
 rw [h, List.getD_eq_getElem?_getD, List.append_assoc, List.append_assoc, List.getElem?_append_right (by omega), hl]
 simp
def mergeF (l m : List OpV) : Nat → Nat → OpV := fun d s => joinAt l m (d : Int) ((s : Int) + 1)
def mergeL (zs : List Int) (l m : List OpV) : List OpV := listP zs (mergeF l m) 4 0
/-- Does the operation fit what the list has under its name? -/
def okJ (l : List OpV) (x : OpV) : Bool := match getO l x.dev x.seq with
 | none => true
 | some y => sameB x y
def okM (l m : List OpV) : Bool := (List.range m.length).all fun i => okJ l (atOp m i)
theorem okM_stop {l m : List OpV} {k : Nat} (hk : k < m.length) (h : okJ l (atOp m k) = false) : okM l m = false := by
 unfold okM
 rw [List.all_eq_false]
 exact ⟨k, List.mem_range.2 hk, by rw [h]; simp⟩
theorem okM_at {l m : List OpV} (h : okM l m = true) {k : Nat} (hk : k < m.length) : okJ l (atOp m k) = true := by
 unfold okM at h
 rw [List.all_eq_true] at h
 exact h k (List.mem_range.2 hk)
theorem okM_end {l m : List OpV} (h : ∀ i, i < m.length → okJ l (atOp m i) = true) : okM l m = true := by
 unfold okM
 rw [List.all_eq_true]
 exact fun i hi => h i (List.mem_range.1 hi)
theorem okJ_none {l : List OpV} {x : OpV} (h : getO l x.dev x.seq = none) : okJ l x = true := by unfold okJ; rw [h]
theorem okJ_some {l : List OpV} {x y : OpV} (h : getO l x.dev x.seq = some y) : okJ l x = sameB x y := by unfold okJ; rw [h]
def mergedB (xs : List Int) (l : List OpV) (ys : List Int) (m : List OpV) : Bool := cartB xs l && (cartB ys m && okM l m)
theorem mergedB_1 {xs : List Int} {l : List OpV} {ys : List Int} {m : List OpV} (h : cartB xs l = false) : mergedB xs l ys m = false := by unfold mergedB; rw [h]; rfl
theorem mergedB_2 {xs : List Int} {l : List OpV} {ys : List Int} {m : List OpV} (h : cartB ys m = false) : mergedB xs l ys m = false := by unfold mergedB; rw [h]; simp
theorem mergedB_3 {xs : List Int} {l : List OpV} {ys : List Int} {m : List OpV} (h : cartB xs l = true) (h2 : cartB ys m = true) : mergedB xs l ys m = okM l m := by unfold mergedB; rw [h, h2]; rfl
/-- What impl.Merged lays for an operation of the second cart. -/
def jn (l : List OpV) (x : OpV) : OpV := match getO l x.dev x.seq with
 | none => x
 | some y => x.with (max x.undos y.undos)
theorem jn_name (l : List OpV) (x : OpV) : (jn l x).dev = x.dev ∧ (jn l x).seq = x.seq := by
 unfold jn
 split <;> exact ⟨rfl, rfl⟩
theorem jn_none {l : List OpV} {x : OpV} (h : getO l x.dev x.seq = none) : jn l x = x := by unfold jn; rw [h]
theorem jn_some {l : List OpV} {x y : OpV} (h : getO l x.dev x.seq = some y) : jn l x = x.with (max x.undos y.undos) := by unfold jn; rw [h]
def mixF (l m : List OpV) : Nat → Int → Int → Option OpV
 | 0 => getO l
 | k + 1 => putF (mixF l m k) (jn l (atOp m k))
theorem mixF_miss {l m : List OpV} {d s : Int} : ∀ k, (∀ j, j < k → ¬ eqN m j d s) → mixF l m k d s = getO l d s
 | 0, _ => rfl
 | k + 1, h => by
  show putF (mixF l m k) (jn l (atOp m k)) d s = _
  unfold putF
  rw [(jn_name l (atOp m k)).1, (jn_name l (atOp m k)).2, if_neg (fun e => h k (by omega) ⟨e.1.symm, e.2.symm⟩)]
  exact mixF_miss k fun j hj => h j (by omega)
theorem mixF_hit {l m : List OpV} (hm : incB m = true) : ∀ k, k ≤ m.length → ∀ i, i < k → mixF l m k (atOp m i).dev (atOp m i).seq = some (jn l (atOp m i))
 | 0, _, i, hi => absurd hi (Nat.not_lt_zero _)
 | k + 1, hk, i, hi => by
  show putF (mixF l m k) (jn l (atOp m k)) _ _ = _
  unfold putF
  rw [(jn_name l (atOp m k)).1, (jn_name l (atOp m k)).2]
  by_cases e : (atOp m i).dev = (atOp m k).dev ∧ (atOp m i).seq = (atOp m k).seq
  ·rw [if_pos e]
   have := inc_uniq hm (i := i) (j := k) (by omega) (by omega) (dev := (atOp m k).dev) (seq := (atOp m k).seq) e ⟨rfl, rfl⟩
   rw [this]
  ·rw [if_neg e]
   have hik : i ≠ k := fun e2 => e (by rw [e2]; exact ⟨rfl, rfl⟩)
   exact mixF_hit hm k (by omega) i (by omega)
theorem mixF_next {l m : List OpV} (hm : incB m = true) {k : Nat} (hk : k < m.length) : mixF l m k (atOp m k).dev (atOp m k).seq = getO l (atOp m k).dev (atOp m k).seq :=
 mixF_miss k fun j hj e => by
  have := inc_uniq hm (i := j) (j := k) (by omega) hk (dev := (atOp m k).dev) (seq := (atOp m k).seq) e ⟨rfl, rfl⟩
  omega
theorem with_with (a : OpV) (u v : Int) : (a.with u).with v = a.with v := rfl
/-- Of two valid carts that fit the set has what is to be listed. -/
theorem mix_join {xs : List Int} {l : List OpV} {ys : List Int} {m : List OpV} (h : cartB xs l = true) (h2 : cartB ys m = true) (ho : okM l m = true) {d : Nat} (hd : d < 4) {s : Nat} (hs : (s : Int) < max (xs.getD d 0) (ys.getD d 0)) :
  mixF l m m.length (d : Int) ((s : Int) + 1) = some (joinAt l m (d : Int) ((s : Int) + 1)) := by
 by_cases hy : (s : Int) < ys.getD d 0
 ·obtain ⟨h5, h6⟩ := cart_has h2 hd hy
  have e1 := mixF_hit (l := l) (cart_inc h2) m.length (Nat.le_refl _) _ h5
  have e2 : getO m (d : Int) ((s : Int) + 1) = some (atOp m (stOf ys d + s)) := get_has h2 hd hy
  have hj := okM_at ho h5
  rw [h6.1, h6.2] at e1
  rw [e1]
  unfold joinAt
  rw [e2]
  rcases hg : getO l (d : Int) ((s : Int) + 1) with _ | a
  ·rw [jn_none (by rw [h6.1, h6.2]; exact hg)]
  ·have hg' : getO l (atOp m (stOf ys d + s)).dev (atOp m (stOf ys d + s)).seq = some a := by rw [h6.1, h6.2]; exact hg
   rw [jn_some hg']
   rw [okJ_some hg'] at hj
   have ha := same_yes hj
   show some _ = some (a.with (max a.undos (atOp m (stOf ys d + s)).undos))
   rw [Int.max_comm a.undos]
   generalize max (atOp m (stOf ys d + s)).undos a.undos = u
   rw [ha]
   rfl
 ·have hx : (s : Int) < xs.getD d 0 := by omega
  have e2 : getO m (d : Int) ((s : Int) + 1) = none := get_none h2 (by omega)
  have e3 : getO l (d : Int) ((s : Int) + 1) = some (atOp l (stOf xs d + s)) := get_has h hd hx
  rw [mixF_miss _ fun j hj e => by
   have := cart_seq h2 hj e.1
   have := e.2
   omega, e3]
  unfold joinAt
  rw [e2, e3]
theorem ok_with {a : OpV} (h : a.ok = true) {u : Int} (h0 : 0 ≤ u) (h1 : u ≤ 50) : (a.with u).ok = true := by
 have h' : opB a.dev a.seq a.stamp a.kind a.item a.qty a.level a.undos = true := h
 show opB a.dev a.seq a.stamp a.kind a.item a.qty a.level u = true
 unfold opB headB at h' ⊢
 simp only [Bool.and_eq_true, inB_iff] at h' ⊢
 obtain ⟨⟨a1, a2, a3, a4, _⟩, a6⟩ := h'
 exact ⟨⟨a1, a2, a3, a4, h0, h1⟩, a6⟩
theorem cart_fitB {xs : List Int} {l : List OpV} (h : cartB xs l = true) {d : Nat} (hd : d < 4) {s : Nat} (hs : (s : Int) < xs.getD d 0) : fitB l d (stOf xs d) s = true := by
 have hD := (cart_true h).2.1 d hd
 unfold devB at hD
 rw [Bool.and_eq_true] at hD
 have hR := hD.2
 unfold runB at hR
 rw [List.all_eq_true] at hR
 exact hR s (List.mem_range.2 (by omega))
theorem fit_parts {l : List OpV} {d st s : Nat} (h : fitB l d st s = true) : (atOp l (st + s)).ok = true ∧ (atOp l (st + s)).dev = (d : Int) ∧ (atOp l (st + s)).seq = (s : Int) + 1 ∧ prevStamp l st s < (atOp l (st + s)).stamp := by
 unfold fitB at h
 simpa only [Bool.and_eq_true, decide_eq_true_eq] using h
theorem merge_at {xs : List Int} {l : List OpV} {ys : List Int} {m : List OpV} (h : cartB xs l = true) (h2 : cartB ys m = true) (ho : okM l m = true) {d : Nat} (hd : d < 4) {s : Nat} (hs : (s : Int) < max (xs.getD d 0) (ys.getD d 0)) :
  (mergeF l m d s).ok = true ∧ (mergeF l m d s).dev = (d : Int) ∧ (mergeF l m d s).seq = (s : Int) + 1 ∧ ((s : Int) < xs.getD d 0 → (mergeF l m d s).stamp = (atOp l (stOf xs d + s)).stamp) ∧ ((s : Int) < ys.getD d 0 → (mergeF l m d s).stamp = (atOp m (stOf ys d + s)).stamp) := by
 show (joinAt l m _ _).ok = true ∧ (joinAt l m _ _).dev = _ ∧ (joinAt l m _ _).seq = _ ∧ (_ → (joinAt l m _ _).stamp = _) ∧ (_ → (joinAt l m _ _).stamp = _)
 unfold joinAt
 by_cases hx : (s : Int) < xs.getD d 0
 ·have e1 : getO l (d : Int) ((s : Int) + 1) = some (atOp l (stOf xs d + s)) := get_has h hd hx
  obtain ⟨a1, a2, a3, _⟩ := fit_parts (cart_fitB h hd hx)
  rw [e1]
  by_cases hy : (s : Int) < ys.getD d 0
  ·have e2 : getO m (d : Int) ((s : Int) + 1) = some (atOp m (stOf ys d + s)) := get_has h2 hd hy
   obtain ⟨b1, b2, b3, _⟩ := fit_parts (cart_fitB h2 hd hy)
   obtain ⟨h5, h6⟩ := cart_has h2 hd hy
   have hj := okM_at ho h5
   rw [okJ_some (by rw [h6.1, h6.2]; exact e1)] at hj
   have ha := same_yes hj
   have u1 := op_fit a1
   have u2 := op_fit b1
   rw [e2]
   refine ⟨ok_with a1 (by omega) (by omega), a2, a3, fun _ => rfl, fun _ => ?_⟩
   show (atOp l (stOf xs d + s)).stamp = _
   rw [ha]
   rfl
  ·have e2 : getO m (d : Int) ((s : Int) + 1) = none := get_none h2 (by omega)
   rw [e2]
   exact ⟨a1, a2, a3, fun _ => rfl, fun h => absurd h hy⟩
 ·have hy : (s : Int) < ys.getD d 0 := by omega
  have e1 : getO l (d : Int) ((s : Int) + 1) = none := get_none h (by omega)
  have e2 : getO m (d : Int) ((s : Int) + 1) = some (atOp m (stOf ys d + s)) := get_has h2 hd hy
  obtain ⟨b1, b2, b3, _⟩ := fit_parts (cart_fitB h2 hd hy)
  rw [e1, e2]
  exact ⟨b1, b2, b3, fun h => absurd h hx, fun _ => rfl⟩
def maxV (xs ys : List Int) : List Int := List.zipWith max xs ys
theorem maxV_at {xs ys : List Int} (h : xs.length = 4) (h2 : ys.length = 4) {d : Nat} (hd : d < 4) : (maxV xs ys).getD d 0 = max (xs.getD d 0) (ys.getD d 0) := by
 unfold maxV
 rw [List.getD_eq_getElem?_getD, List.getD_eq_getElem?_getD, List.getD_eq_getElem?_getD, List.getElem?_zipWith, List.getElem?_eq_getElem (by omega), List.getElem?_eq_getElem (by omega)]
 rfl
theorem maxV_ok {xs ys : List Int} (h : vecOk xs = true) (h2 : vecOk ys = true) : vecOk (maxV xs ys) = true := by
 have l1 := (vec_at h (d := 0) (by omega)).2.2
 have l2 := (vec_at h2 (d := 0) (by omega)).2.2
 have l3 : (maxV xs ys).length = 4 := by unfold maxV; rw [List.length_zipWith]; omega
 unfold vecOk
 rw [Bool.and_eq_true]
 refine ⟨?_, decide_eq_true l3⟩
 rw [List.all_eq_true]
 intro x hx
 obtain ⟨i, hi, e⟩ := List.mem_iff_getElem.1 hx
 have hi4 : i < 4 := by omega
 have e2 : (maxV xs ys).getD i 0 = x := by rw [List.getD_eq_getElem?_getD, List.getElem?_eq_getElem hi]; exact e
 rw [maxV_at l1 l2 hi4] at e2
 have g1 := vec_at h hi4
 have g2 := vec_at h2 hi4
 rw [← e2]
 unfold inV
 rw [Bool.and_eq_true]
 exact ⟨decide_eq_true (by omega), decide_eq_true (by omega)⟩
theorem cart_merged {xs : List Int} {l : List OpV} {ys : List Int} {m : List OpV} (h : cartB xs l = true) (h2 : cartB ys m = true) (ho : okM l m = true) : cartB (maxV xs ys) (mergeL (maxV xs ys) l m) = true := by
 have v1 := (cart_true h).1
 have v2 := (cart_true h2).1
 have l1 := (vec_at v1 (d := 0) (by omega)).2.2
 have l2 := (vec_at v2 (d := 0) (by omega)).2.2
 have hlen : (mergeL (maxV xs ys) l m).length = stOf (maxV xs ys) 4 := listP_len _ _ 4 0
 rw [cart_end (maxV_ok v1 v2) fun d hd => ?_]
 ·exact decide_eq_true hlen.symm
 ·have hm := stOf_mono (maxV xs ys) (d + 1) 4 (by omega)
  unfold devB
  rw [Bool.and_eq_true]
  refine ⟨decide_eq_true (by omega), ?_⟩
  unfold runB
  rw [List.all_eq_true]
  intro s hs
  have hs := List.mem_range.1 hs
  have hz := maxV_at l1 l2 hd
  have hsi : (s : Int) < max (xs.getD d 0) (ys.getD d 0) := by rw [← hz]; omega
  have ea : atOp (mergeL (maxV xs ys) l m) (stOf (maxV xs ys) d + s) = mergeF l m d s := listP_at _ _ hd hs
  obtain ⟨m1, m2, m3, m4, m5⟩ := merge_at h h2 ho hd hsi
  refine fit_yes (by rw [ea]; exact m1) (by rw [ea]; exact m2) (by rw [ea]; exact m3) ?_
  rw [ea]
  cases s with
  | zero =>
   have e0 : ∀ L st, prevStamp L st 0 = 0 := fun _ _ => rfl
   rw [e0]
   by_cases hx : ((0 : Nat) : Int) < xs.getD d 0
   ·rw [m4 hx]
    have := (fit_parts (cart_fitB h hd hx)).2.2.2
    rw [e0] at this
    exact this
   ·have hy : ((0 : Nat) : Int) < ys.getD d 0 := by omega
    rw [m5 hy]
    have := (fit_parts (cart_fitB h2 hd hy)).2.2.2
    rw [e0] at this
    exact this
  | succ t =>
   rw [prev_step]
   have eb : atOp (mergeL (maxV xs ys) l m) (stOf (maxV xs ys) d + t) = mergeF l m d t := listP_at _ _ hd (by omega)
   rw [eb]
   obtain ⟨_, _, _, n4, n5⟩ := merge_at h h2 ho hd (s := t) (by omega)
   by_cases hx : ((t + 1 : Nat) : Int) < xs.getD d 0
   ·rw [m4 hx, n4 (by omega)]
    have := (fit_parts (cart_fitB h hd hx)).2.2.2
    rw [prev_step] at this
    exact this
   ·have hy : ((t + 1 : Nat) : Int) < ys.getD d 0 := by omega
    rw [m5 hy, n5 (by omega)]
    have := (fit_parts (cart_fitB h2 hd hy)).2.2.2
    rw [prev_step] at this
    exact this
theorem merge_items {l m : List OpV} {N : Nat} (hl : ∀ i, i < l.length → (atOp l i).item.size ≤ N) (hm : ∀ i, i < m.length → (atOp m i).item.size ≤ N) (d s : Nat) : (mergeF l m d s).item.size ≤ N := by
 show (joinAt l m _ _).item.size ≤ N
 unfold joinAt
 rcases e1 : getO l (d : Int) ((s : Int) + 1) with _ | a
 ·rcases e2 : getO m (d : Int) ((s : Int) + 1) with _ | b
  ·exact Nat.zero_le _
  ·obtain ⟨i, hi, _, e⟩ := setF_some _ e2
   show b.item.size ≤ N
   rw [← e]
   exact hm i hi
 ·obtain ⟨i, hi, _, e⟩ := setF_some _ e1
  rcases e2 : getO m (d : Int) ((s : Int) + 1) with _ | b
  ·show a.item.size ≤ N
   rw [← e]
   exact hl i hi
  ·show a.item.size ≤ N
   rw [← e]
   exact hl i hi
set_option linter.unusedVariables false
set_option linter.unusedSimpArgs false

theorem sameIntsS (w : World) (B B' : Nat) (a a' : Option Addr) (len cap len' cap' : Nat) (xs ys : List Int) (h : Ints w B a len xs) (h' : Ints w B' a' len' ys) (hl : len ≤ 1048576) (hl' : len' ≤ 1048576) :
  Calls Try.prog 64 #[.slice a len cap, .slice a' len' cap'] w (EqPost xs ys w) := by
 have hL := Lib.hid h.1
 have hL' := Lib.hid h'.1
 have H := Lib.hid h
 have H' := Lib.hid h'
 clear h h'
 by_cases hn : len = len'
 ·subst hn
  go_enter Try.func64, Try.ntmps64
  go_wp2
  go_loopw [5] (fun i wr => ∃ k n : Nat, k ≤ len ∧ i = .int .i64 k ∧ wr = w.drewN n ∧ Hid (xs.take k = ys.take k)) (fun i _ => len - (intOf i).toNat)
  case atStart => exact ⟨0, 0, Nat.zero_le _, rfl, rfl, rfl⟩
  case round =>
   obtain ⟨k, n, hk, rfl, rfl, HA⟩ := hrel
   by_cases hlt : k < len
   ·obtain ⟨b, off, rfl, hb, hc⟩ := H.out.2 k hlt
    obtain ⟨b', off', rfl, hb', hc'⟩ := H'.out.2 k hlt
    obtain ⟨x, hx⟩ : ∃ x, x = xs.getD k 0 := ⟨_, rfl⟩
    obtain ⟨y, hy⟩ : ∃ y, y = ys.getD k 0 := ⟨_, rfl⟩
    rw [← hx] at hc
    rw [← hy] at hc'
    have HX := Lib.hid hx
    have HY := Lib.hid hy
    have hki : (k : Int) < (len : Int) := by omega
    clear hx hy
    by_cases e : x = y
    ·subst e
     have HS : Hid (xs.take (k + 1) = ys.take (k + 1)) := list_eq_step (by rw [hL.out]; exact hlt) (by rw [hL'.out]; exact hlt) HA.out (by rw [← HX.out, ← HY.out])
     go_wp2
     go_quiet (fail)
     go_wp2
     go_roundw
     case rel => exact ⟨k + 1, n + nq, by omega, by go_num, rfl, HS⟩
     case measure => simp [intOf]; omega
    ·have hne : (x != y) = true := by simpa using e
     have HV : Hid (decide (xs = ys) = false) := decide_eq_false (list_ne (k := k) (by rw [← HX.out, ← HY.out]; exact e))
     clear e
     go_wp2
     go_quiet (fail)
     go_wp2
     go_ret
     exact ⟨ret_bool HV.out.symm, n + nq, World.drewN_drewN ..⟩
   ·have HV : Hid (decide (xs = ys) = true) := decide_eq_true (by
     have := HA.out
     rwa [List.take_of_length_le (by have := hL.out; omega), List.take_of_length_le (by have := hL'.out; omega)] at this)
    go_wp2
    go_ret
    exact ⟨ret_bool HV.out.symm, n, rfl⟩
 ·have hne : ((len : Int) != (len' : Int)) = true := by simp; omega
  have HV : Hid (decide (xs = ys) = false) := decide_eq_false (fun e => hn (by rw [← hL.out, ← hL'.out, e]))
  go_enter Try.func64, Try.ntmps64
  go_wp2
  go_ret
  exact ⟨ret_bool HV.out.symm, 0, rfl⟩
instance : DecidableEq OpV := fun a b => by
 obtain ⟨a0, a1, a2, a3, a4, a5, a6, a7⟩ := a
 obtain ⟨b0, b1, b2, b3, b4, b5, b6, b7⟩ := b
 rw [OpV.mk.injEq]
 exact inferInstance
theorem opv_eq {a b : OpV} (h0 : a.dev = b.dev) (h1 : a.seq = b.seq) (h2 : a.stamp = b.stamp) (h3 : a.kind = b.kind) (h4 : a.item.toList = b.item.toList) (h5 : a.qty = b.qty) (h6 : a.level = b.level) (h7 : a.undos = b.undos) : a = b := by
 obtain ⟨a0, a1, a2, a3, a4, a5, a6, a7⟩ := a
 obtain ⟨b0, b1, b2, b3, b4, b5, b6, b7⟩ := b
 have g4 := text_same h4
 clear h4
 simp only at h0 h1 h2 h3 g4 h5 h6 h7
 subst h0 h1 h2 h3 g4 h5 h6 h7
 rfl
def fullB (a b : OpV) : Bool := a.dev == b.dev && (a.seq == b.seq && (a.stamp == b.stamp && (a.kind == b.kind && (a.item.toList == b.item.toList && (a.qty == b.qty && (a.level == b.level && a.undos == b.undos))))))
theorem full_of {a b : OpV} (h0 : a.dev = b.dev) (h1 : a.seq = b.seq) (h2 : a.stamp = b.stamp) (h3 : a.kind = b.kind) (h4 : a.item.toList = b.item.toList) (h5 : a.qty = b.qty) (h6 : a.level = b.level) (h7 : a.undos = b.undos) : fullB a b = true := by
 unfold fullB
 simp only [Bool.and_eq_true, beq_iff_eq]
 exact ⟨h0, h1, h2, h3, h4, h5, h6, h7⟩
theorem full_no {a b : OpV} (h : a ≠ b) : fullB a b = false := by
 rw [Bool.eq_false_iff]
 intro e
 unfold fullB at e
 simp only [Bool.and_eq_true, beq_iff_eq] at e
 obtain ⟨h0, h1, h2, h3, h4, h5, h6, h7⟩ := e
 exact h (opv_eq h0 h1 h2 h3 h4 h5 h6 h7)
theorem ops_eq_step {xs ys : List OpV} {k : Nat} (hx : k < xs.length) (hy : k < ys.length) (h : xs.take k = ys.take k) (e : atOp xs k = atOp ys k) : xs.take (k + 1) = ys.take (k + 1) := by
 unfold atOp at e
 rw [List.getD_eq_getElem?_getD, List.getD_eq_getElem?_getD, List.getElem?_eq_getElem hx, List.getElem?_eq_getElem hy] at e
 have e : xs[k] = ys[k] := e
 rw [List.take_succ_eq_append_getElem hx, List.take_succ_eq_append_getElem hy, h, e]
theorem ops_ne {xs ys : List OpV} {k : Nat} (e : atOp xs k ≠ atOp ys k) : xs ≠ ys := fun h => e (by rw [h])
/-- What comparing two lists of operations leaves. -/
def EqOpsP (xs ys : List OpV) (w : World) (e : Ending) (w' : World) : Prop := e = .returned (.bool (decide (xs = ys))) ∧ Below w.heap.size w w'
set_option maxHeartbeats 20000000 in
theorem sameOps (w : World) (B B' : Nat) (a a' : Option Addr) (len cap len' cap' : Nat) (xs ys : List OpV) (h : Ops w B a len xs) (h' : Ops w B' a' len' ys) (hB : B ≤ w.heap.size) (hB' : B' ≤ w.heap.size) (hl : len ≤ 1048576) (hl' : len' ≤ 1048576) :
  Calls Try.prog 65 #[.slice a len cap, .slice a' len' cap'] w (EqOpsP xs ys w) := by
 have hL := Lib.hid h.1
 have hL' := Lib.hid h'.1
 have H := Lib.hid h
 have H' := Lib.hid h'
 clear h h'
 by_cases hn : len = len'
 ·subst hn
  go_enter Try.func65, Try.ntmps65
  go_wp2
  go_loopw [5] (fun i wr => ∃ k : Nat, k ≤ len ∧ i = .int .i64 k ∧ Hid (Below w.heap.size w wr) ∧ Hid (xs.take k = ys.take k)) (fun i _ => len - (intOf i).toNat)
  case atStart => exact ⟨0, Nat.zero_le _, rfl, Below.refl _ _, rfl⟩
  case round =>
   obtain ⟨k, hk, rfl, HB, HA⟩ := hrel
   by_cases hlt : k < len
   ·obtain ⟨b, off, rfl, hb, hc⟩ := (H.out.below HB.out hB).2 k hlt
    obtain ⟨b', off', rfl, hb', hc'⟩ := (H'.out.below HB.out hB').2 k hlt
    have hx : OpAt wr b (off + k * 8) (atOp xs k) := hc
    have hy : OpAt wr b' (off' + k * 8) (atOp ys k) := hc'
    have HS : Hid (atOp xs k = atOp ys k → xs.take (k + 1) = ys.take (k + 1)) := fun e => ops_eq_step (by rw [hL.out]; exact hlt) (by rw [hL'.out]; exact hlt) HA.out e
    have HN : Hid (atOp xs k ≠ atOp ys k → decide (xs = ys) = false) := fun e => decide_eq_false (ops_ne e)
    clear hc hc'
    generalize atOp xs k = x at hx HS HN
    generalize atOp ys k = y at hy HS HN
    obtain ⟨d0, d1, d2, d3, d4, d5, d6, d7⟩ := hx
    obtain ⟨e0, e1, e2, e3, e4, e5, e6, e7⟩ := hy
    have hki : (k : Int) < (len : Int) := by omega
    by_cases e : x = y
    ·subst e
     have HS1 := Lib.hid (HS.out rfl)
     go_wp2
     go_region
     go_wp2
     go_roundw
     case rel => exact ⟨k + 1, by omega, by go_num, HB.out.drew, HS1⟩
     case measure => simp [intOf]; omega
    ·have HV := Lib.hid (HN.out e)
     have HF := Lib.hid (full_no e)
     clear e
     --DRAWN
     have hS : wr.drew.cell? ⟨b, off + k * 8, none⟩ = some (.int .i64 x.dev) ∧ wr.drew.cell? ⟨b, off + k * 8 + 1, none⟩ = some (.int .i64 x.seq) ∧ wr.drew.cell? ⟨b, off + k * 8 + 2, none⟩ = some (.int .i64 x.stamp) ∧ wr.drew.cell? ⟨b, off + k * 8 + 3, none⟩ = some (.int .i64 x.kind) ∧ wr.drew.cell? ⟨b, off + k * 8 + 4, none⟩ = some (.string x.item) ∧ wr.drew.cell? ⟨b, off + k * 8 + 5, none⟩ = some (.int .i64 x.qty) ∧ wr.drew.cell? ⟨b, off + k * 8 + 6, none⟩ = some (.int .i64 x.level) ∧ wr.drew.cell? ⟨b, off + k * 8 + 7, none⟩ = some (.int .i64 x.undos) ∧ wr.drew.cell? ⟨b', off' + k * 8, none⟩ = some (.int .i64 y.dev) ∧ wr.drew.cell? ⟨b', off' + k * 8 + 1, none⟩ = some (.int .i64 y.seq) ∧ wr.drew.cell? ⟨b', off' + k * 8 + 2, none⟩ = some (.int .i64 y.stamp) ∧ wr.drew.cell? ⟨b', off' + k * 8 + 3, none⟩ = some (.int .i64 y.kind) ∧ wr.drew.cell? ⟨b', off' + k * 8 + 4, none⟩ = some (.string y.item) ∧ wr.drew.cell? ⟨b', off' + k * 8 + 5, none⟩ = some (.int .i64 y.qty) ∧ wr.drew.cell? ⟨b', off' + k * 8 + 6, none⟩ = some (.int .i64 y.level) ∧ wr.drew.cell? ⟨b', off' + k * 8 + 7, none⟩ = some (.int .i64 y.undos) := ⟨d0, d1, d2, d3, d4, d5, d6, d7, e0, e1, e2, e3, e4, e5, e6, e7⟩
     go_wp2_with fail
     refine wp_region_held_drew (S := fun w' => w'.cell? ⟨b, off + k * 8, none⟩ = some (.int .i64 x.dev) ∧ w'.cell? ⟨b, off + k * 8 + 1, none⟩ = some (.int .i64 x.seq) ∧ w'.cell? ⟨b, off + k * 8 + 2, none⟩ = some (.int .i64 x.stamp) ∧ w'.cell? ⟨b, off + k * 8 + 3, none⟩ = some (.int .i64 x.kind) ∧ w'.cell? ⟨b, off + k * 8 + 4, none⟩ = some (.string x.item) ∧ w'.cell? ⟨b, off + k * 8 + 5, none⟩ = some (.int .i64 x.qty) ∧ w'.cell? ⟨b, off + k * 8 + 6, none⟩ = some (.int .i64 x.level) ∧ w'.cell? ⟨b, off + k * 8 + 7, none⟩ = some (.int .i64 x.undos) ∧ w'.cell? ⟨b', off' + k * 8, none⟩ = some (.int .i64 y.dev) ∧ w'.cell? ⟨b', off' + k * 8 + 1, none⟩ = some (.int .i64 y.seq) ∧ w'.cell? ⟨b', off' + k * 8 + 2, none⟩ = some (.int .i64 y.stamp) ∧ w'.cell? ⟨b', off' + k * 8 + 3, none⟩ = some (.int .i64 y.kind) ∧ w'.cell? ⟨b', off' + k * 8 + 4, none⟩ = some (.string y.item) ∧ w'.cell? ⟨b', off' + k * 8 + 5, none⟩ = some (.int .i64 y.qty) ∧ w'.cell? ⟨b', off' + k * 8 + 6, none⟩ = some (.int .i64 y.level) ∧ w'.cell? ⟨b', off' + k * 8 + 7, none⟩ = some (.int .i64 y.undos)) (by kernel_rfl) hS (fun hHeld => ?_)
     refine tk 0 ⟨some 17, .move (.tmp 0), 27, "laws.go:39", #[], none⟩ ?_
     (try simp only [Act.put, u1, u2, u3])
     refine tk 1 ⟨some 18, .move (.tmp 5), 3, "laws.go:39", #[], none⟩ ?_
     (try simp only [Act.put, u1, u2, u3])
     refine tk 2 ⟨some 19, .indexAddr 27 (.tmp 17) (.tmp 18), 0, "laws.go:39", #[⟨0, .data⟩, ⟨1, .data⟩], none⟩ ?_
     (try simp only [Act.put, u1, u2, u3])
     refine tk 3 ⟨some 20, .load 77 (.tmp 19), 77, "laws.go:39", #[⟨2, .data⟩], none⟩ ?_
     (try simp only [Act.put, u1, u2, u3])
     refine tk 4 ⟨some 21, .move (.tmp 1), 27, "laws.go:39", #[], none⟩ ?_
     (try simp only [Act.put, u1, u2, u3])
     refine tk 5 ⟨some 22, .move (.tmp 5), 3, "laws.go:39", #[], none⟩ ?_
     (try simp only [Act.put, u1, u2, u3])
     refine tk 6 ⟨some 23, .indexAddr 27 (.tmp 21) (.tmp 22), 0, "laws.go:39", #[⟨4, .data⟩, ⟨5, .data⟩], none⟩ ?_
     (try simp only [Act.put, u1, u2, u3])
     refine tk 7 ⟨some 24, .load 77 (.tmp 23), 77, "laws.go:39", #[⟨6, .data⟩], none⟩ ?_
     (try simp only [Act.put, u1, u2, u3])
     refine wpAnyH_take (i := 8) (oi := ⟨some 25, .binOp .neq 77 (.tmp 20) (.tmp 24) 77, 4, "laws.go:39", #[⟨3, .data⟩, ⟨7, .data⟩], none⟩) (v := .bool true) rfl (by kernel_rfl) (by kernel_rfl) (by kernel_rfl) (fun _ _ _ h => h) (Or.inl ⟨by rfl, ?_⟩) (by assumption) ?_
     ·intro w hSw
      (try dsimp only at hSw)
      obtain ⟨c0, c1, c2, c3, c4, c5, c6, c7, g0, g1, g2, g3, g4, g5, g6, g7⟩ := hSw
      go_simp
      intros
      intro hlast
      exact absurd (full_of (a := x) (b := y) (by assumption) (by assumption) (by assumption) (by assumption) (by first | assumption | exact congrArg ByteArray.toList (by assumption)) (by assumption) (by assumption) (by assumption)) (by rw [HF.out]; decide)
     (try simp only [Act.put, u1, u2, u3])
     refine wpAnyH_done (by kernel_rfl) ?_ _
     clear hS d0 d1 d2 d3 d4 d5 d6 d7 e0 e1 e2 e3 e4 e5 e6 e7
     go_wp2
     go_ret
     exact ⟨ret_bool HV.out.symm, HB.out.drew⟩
   ·have HV : Hid (decide (xs = ys) = true) := decide_eq_true (by
     have := HA.out
     rwa [List.take_of_length_le (by have := hL.out; omega), List.take_of_length_le (by have := hL'.out; omega)] at this)
    go_wp2
    go_ret
    exact ⟨ret_bool HV.out.symm, HB.out⟩
 ·have hne : ((len : Int) != (len' : Int)) = true := by simp; omega
  have HV : Hid (decide (xs = ys) = false) := decide_eq_false (fun e => hn (by rw [← hL.out, ← hL'.out, e]))
  go_enter Try.func65, Try.ntmps65
  go_wp2
  go_ret
  exact ⟨ret_bool HV.out.symm, Below.refl _ _⟩
set_option maxHeartbeats 20000000 in
theorem sameCart (w : World) (B : Nat) (av ao bv bo : Option Addr) (nv cv no co mv dv mo eo : Nat) (xs : List Int) (l : List OpV) (ys : List Int) (m : List OpV) (hx : Ints w B av nv xs) (h : Ops w B ao no l) (hy : Ints w B bv mv ys) (g : Ops w B bo mo m) (hB : B ≤ w.heap.size) (hv : nv ≤ 1048576) (hn : no ≤ 1048576) (hv2 : mv ≤ 1048576) (hn2 : mo ≤ 1048576) :
  Calls Try.prog 16 #[.agg #[.slice av nv cv, .slice ao no co], .agg #[.slice bv mv dv, .slice bo mo eo]] w fun e w' => e = .returned (.bool (decide (xs = ys) && decide (l = m))) ∧ Below w.heap.size w w' := by
 have hT := Two.mk0 w #[.slice av nv cv, .slice ao no co] #[.slice bv mv dv, .slice bo mo eo] 29
 have HV := Lib.hid (hx.below hT.bel hB)
 have HO := Lib.hid (h.below hT.bel hB)
 have HY := Lib.hid (hy.below hT.bel hB)
 have HG := Lib.hid (g.below hT.bel hB)
 have HT := Lib.hid hT
 clear hx h hy g hT
 go_enter Try.func16, Try.ntmps16
 go_wp2_with fail
 generalize (w.alloc (.cells #[.slice av nv cv, .slice ao no co] 29)).alloc (.cells #[.slice bv mv dv, .slice bo mo eo] 29) = w0 at HV HO HY HG HT ⊢
 obtain ⟨a0, a1⟩ := pair_cells HT.out.fst
 obtain ⟨b0, b1⟩ := pair_cells HT.out.snd
 have hs0 := HT.out.bel.size
 refine (sameIntsS w0 B B av bv nv cv mv dv xs ys HV.out HY.out hv hv2).mono ?_
 rintro e w1 ⟨rfl, hS1⟩
 have hb1 := hS1.below w0.heap.size
 have HO1 := Lib.hid (HO.out.below hb1 (by omega))
 have HG1 := Lib.hid (HG.out.below hb1 (by omega))
 have HT1 := Lib.hid (HT.out.next hb1)
 have hs1 := hb1.size
 clear hS1 hb1 HV HO HY HG HT a0 a1 b0 b1
 obtain ⟨p, hp⟩ : ∃ p, decide (xs = ys) = p := ⟨_, rfl⟩
 have HP := Lib.hid hp
 rw [hp]
 clear hp
 cases p
 ·have HB := Lib.hid HT1.out.bel
  go_wp2
  go_ret
  exact ⟨by rw [HP.out]; rfl, HB.out⟩
 obtain ⟨a0, a1⟩ := pair_cells HT1.out.fst
 obtain ⟨b0, b1⟩ := pair_cells HT1.out.snd
 go_wp2_with fail
 refine (sameOps w1 B B ao bo no co mo eo l m HO1.out HG1.out (by omega) (by omega) hn hn2).mono ?_
 rintro e w2 ⟨rfl, hb2⟩
 have HB := Lib.hid (HT1.out.bel.trans (hb2.mono HT1.out.bel.size))
 clear hb2
 obtain ⟨q, hq⟩ : ∃ q, decide (l = m) = q := ⟨_, rfl⟩
 have HQ := Lib.hid hq
 rw [hq]
 clear hq
 cases q
 all_goals
  go_wp2
  go_ret
  exact ⟨by rw [HP.out, HQ.out]; rfl, HB.out⟩
end Go.Proofs.Ytdbdmfaphdjdpaa
