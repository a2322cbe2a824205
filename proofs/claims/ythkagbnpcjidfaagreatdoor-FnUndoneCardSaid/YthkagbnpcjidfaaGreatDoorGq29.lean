/- Walks and mathematics that several claims share, part 29. -/
import Derived.Test.YthkagbnpcjidfaaGreatDoorGq22
import Derived.Maps.OwnSet
import Derived.DeepKeys4
import Derived.Lib.MinMax
import Derived.Deep.Cut
import Derived.Deep.RegionHeld3
namespace Go.Proofs.YthkagbnpcjidfaaGreatDoor
set_option maxRecDepth 100000
open Go.RowKit
set_option linter.unusedVariables false
set_option linter.unusedSimpArgs false
open Go.Maps (Keyed)
theorem aJu : laidOutB Tryz.prog = true := by kernel_rfl
theorem aJr : (match Tryz.prog.underlying 86 with | some (.array _ _) | some (.struct _) => true | _ => false) = true := by kernel_rfl
theorem wY : Keyed Tryz.prog 86 := Keyed.of_law (deep_law_laid aJu (m := 2) (by omega) (of_decide_eq_true (by kernel_rfl)) (by kernel_rfl) aJr)
def lL (d s : Int) : Value := .agg #[.int .i64 d, .int .i64 s]
theorem aJs : Tryz.prog.keyType 86 = true := by kernel_rfl
theorem aC3 : Tryz.prog.cellsOf 86 = 2 := by kernel_rfl
theorem intCells : Tryz.prog.cellsOf 2 = 1 := by kernel_rfl
theorem aJt : ∃ m, Tryz.prog.types.size = m + 1 := ⟨Tryz.prog.types.size - 1, by have : 0 < Tryz.prog.types.size := of_decide_eq_true (by kernel_rfl); omega⟩
theorem aJq {d s : Int} (hd : (Lit.int .i64 d).wf = true) (hs : (Lit.int .i64 s).wf = true) : ∃ kl, keyOf Tryz.prog 86 (lL d s) = some kl := by
 obtain ⟨m, hm⟩ := aJt
 have hf : (lL d s).formed Tryz.prog 86 = true := by simp [lL, Value.formed, Tryz.underlying86, aC3]
 have hl : ∃ ls, Tryz.prog.keyLits (Tryz.prog.types.size + 1) 86 (lL d s).cells.toList = some ls := by
  rw [hm]; simp [Program.keyLits, Tryz.underlying86, Tryz.underlying2, lL, Value.cells, aC3, intCells, hd, hs]
 obtain ⟨ls, vG⟩ := hl
 exact ⟨.string (keyBytes ls), by unfold keyOf; rw [Tryz.underlying86]; simp only [aJs, hf, vG, Bool.and_self, if_true, Option.map_some]⟩
noncomputable def Q1 (d s : Int) : Lit := (keyOf Tryz.prog 86 (lL d s)).getD (.bool false)
def yI (d s : Int) : Prop := (Lit.int .i64 d).wf = true ∧ (Lit.int .i64 s).wf = true
theorem aP4 {d s : Int} (h1 : 0 ≤ d) (h2 : d ≤ 1000) (h3 : 0 ≤ s) (h4 : s ≤ 1000) : yI d s := ⟨WalkArith.wf_i64 (by omega), WalkArith.wf_i64 (by omega)⟩
theorem M6 {d s : Int} (h : yI d s) : keyOf Tryz.prog 86 (lL d s) = some (Q1 d s) := by
 obtain ⟨kl, e⟩ := aJq h.1 h.2
 unfold Q1
 rw [e]
 rfl
theorem key_inj {d s d' s' : Int} (h : yI d s) (h' : yI d' s') (e : Q1 d s = Q1 d' s') : d = d' ∧ s = s' := by
 have h1 := M6 h
 rw [e] at h1
 have h2 := wY.inj h1 (M6 h')
 unfold lL at h2
 injection h2 with h3
 simp only [Array.mk.injEq, List.cons.injEq, Value.int.injEq] at h3
 exact ⟨h3.1.2, h3.2.1.2⟩
theorem aGk {d s : Int} (h : yI d s) : WideAt.IsKeyLit (Q1 d s) := wY.key (M6 h)
def opD (o : aA) : DataW Unit := .agg [.lit (.int .i64 o.dev), .lit (.int .i64 o.seq), .lit (.int .i64 o.stamp), .lit (.int .i64 o.kind), .lit (.string o.item.data.toList), .lit (.int .i64 o.qty), .lit (.int .i64 o.level), .lit (.int .i64 o.undos)]
def aBI : Value → Option (DataW Unit × List MemPlace)
 | .agg ⟨[.int .i64 a, .int .i64 b, .int .i64 c, .int .i64 d, .string e, .int .i64 f, .int .i64 g, .int .i64 h]⟩ => some (opD ⟨a, b, c, d, e, f, g, h⟩, [])
 | _ => none
theorem d9 (o : aA) : aBI (aAq o) = some (opD o, []) := rfl
theorem aL7 {o o' : aA} (h : opD o = opD o') : o = o' := by
 obtain ⟨a, b, c, d, e, f, g, i⟩ := o
 obtain ⟨a', b', c', d', e', f', g', i'⟩ := o'
 simp only [opD, DataW.agg.injEq, List.cons.injEq, DataW.lit.injEq, Lit.int.injEq, Lit.string.injEq, true_and, and_true] at h
 obtain ⟨rfl, rfl, rfl, rfl, h5, rfl, rfl, rfl⟩ := h
 have : e = e' := by
  obtain ⟨⟨x⟩⟩ := e; obtain ⟨⟨y⟩⟩ := e'; simp only at h5
  rw [h5]
 rw [this]
theorem aBH {v : Value} {o : aA} {ps : List MemPlace} (h : aBI v = some (opD o, ps)) : v = aAq o := by
 unfold aBI at h
 split at h
 ·rename_i a b c d e f g i
  simp only [Option.some.injEq, Prod.mk.injEq] at h
  rw [← aL7 h.1]
  rfl
 ·cases h
def gX (w : World) (b n : Nat) (f : Int → Int → Option aA) : Prop :=
 ∃ D, w.ownsMap Tryz.prog 86 aBI b n D ∧ ∀ d s, yI d s → Maps.has D (Q1 d s) = (f d s).isSome ∧ D.atKey (Q1 d s) (opD aA.zero) = opD ((f d s).getD aA.zero)
theorem aGC (w : World) : gX (w.alloc (.map #[] 0)) w.heap.size 0 (fun _ _ => none) :=
 ⟨_, World.ownsMap_made w _ _ _, fun _ _ _ => ⟨rfl, rfl⟩⟩
theorem gX.mono {w : World} {b n n' : Nat} {f : Int → Int → Option aA} (h : gX w b n f) (hn : n ≤ n') : gX w b n' f := by
 obtain ⟨D, h1, h2⟩ := h
 exact ⟨D, h1.mono hn, h2⟩
theorem gX.congr {w : World} {b n : Nat} {f g : Int → Int → Option aA} (h : gX w b n f) (e : ∀ d s, yI d s → g d s = f d s) : gX w b n g := by
 obtain ⟨D, h1, h2⟩ := h
 exact ⟨D, h1, fun d s hf => by rw [e d s hf]; exact h2 d s hf⟩
theorem gX.kept {w w' : World} {b n : Nat} {f : Int → Int → Option aA} (h : gX w b n f) (hb : w'.heap[b]? = w.heap[b]?) : gX w' b n f := by
 obtain ⟨D, ⟨es, aB1, h0, r⟩, h2⟩ := h
 exact ⟨D, ⟨es, aB1, hb.trans h0, r⟩, h2⟩
theorem gX.lt {w : World} {b n : Nat} {f : Int → Int → Option aA} (h : gX w b n f) : b < w.heap.size := by
 obtain ⟨D, h1, _⟩ := h
 exact h1.lt
theorem gX.below {w w' : World} {b n : Nat} {f : Int → Int → Option aA} (h : gX w b n f) (hb : Below w.heap.size w w') : gX w' b n f := h.kept (hb.block _ h.lt)
def K4 (f : Int → Int → Option aA) (x : aA) : Int → Int → Option aA := fun d s => if d = x.dev ∧ s = x.seq then some x else f d s
theorem aH4 (w : World) : (zeroValue 50).run Tryz.prog w = .ok (aAq aA.zero) w := by kernel_rfl
theorem gX.put {w : World} {b n : Nat} {f : Int → Int → Option aA} (h : gX w b n f) (hn : n < maxLen) (x : aA) (hx : yI x.dev x.seq) :
  ∃ w', (Instr.mapUpdate 82 (.map (some b)) (lL x.dev x.seq) (aAq x)).run Tryz.prog w = .ok () w' ∧ gX w' b (n + 1) (K4 f x) ∧ w.grownBy w' (some b) := by
 obtain ⟨D, h1, h2⟩ := h
 obtain ⟨w', e, h3, h4⟩ := h1.update wY Tryz.underlying82 hn (M6 hx) (d9 x)
 refine ⟨w', e, ⟨_, h3, fun d s hf => ?_⟩, h4⟩
 unfold K4
 by_cases hds : d = x.dev ∧ s = x.seq
 ·obtain ⟨rfl, rfl⟩ := hds
  rw [if_pos ⟨rfl, rfl⟩]; exact ⟨Maps.has_put_same h1.isMap (aGk hx) _, Maps.atKey_put_same h1.isMap (aGk hx) _ _⟩
 ·rw [if_neg hds]
  have bI : Q1 d s ≠ Q1 x.dev x.seq := fun e => hds (key_inj hf hx e)
  rw [Maps.has_put_other bI, Maps.atKey_put_other bI]; exact h2 d s hf
theorem gX.look {w : World} {b n : Nat} {f : Int → Int → Option aA} (h : gX w b n f) {d s : Int} (hx : yI d s) :
  (Instr.lookup 82 (.map (some b)) (lL d s) true).run Tryz.prog w = .ok (.tuple #[aAq ((f d s).getD aA.zero), .bool (f d s).isSome]) w ∧ (Instr.lookup 82 (.map (some b)) (lL d s) false).run Tryz.prog w = .ok (aAq ((f d s).getD aA.zero)) w := by
 obtain ⟨D, h1, h2⟩ := h
 obtain ⟨g1, g2⟩ := h2 d s hx
 constructor
 ·obtain ⟨v, ps, e, hv⟩ := h1.look_ok wY Tryz.underlying82 (aH4 w) (d9 aA.zero) (M6 hx)
  rw [g2] at hv; rw [e, aBH hv, g1]
 ·obtain ⟨v, ps, e, hv⟩ := h1.lookup wY Tryz.underlying82 (aH4 w) (d9 aA.zero) (M6 hx)
  rw [g2] at hv; rw [e, aBH hv]
theorem aDr (w : World) (n : Nat) : (Instr.makeMap 82 (some (.int .i64 (n : Int)))).run Tryz.prog w = .ok (.map (some w.heap.size)) (w.alloc (.map #[] 0)) := by
 simp [Instr.makeMap, run_underlying Tryz.underlying82, asInt, asIntOf]
def aA.with (o : aA) (u : Int) : aA := ⟨o.dev, o.seq, o.stamp, o.kind, o.item, o.qty, o.level, u⟩
def eW (a b : aA) : Bool := a.dev == b.dev && (a.seq == b.seq && (a.stamp == b.stamp && (a.kind == b.kind && (a.item.toList == b.item.toList && (a.qty == b.qty && a.level == b.level)))))
theorem aCV {a b : ByteArray} (h : a.toList = b.toList) : a = b := by
 rw [Lib.toList_data, Lib.toList_data] at h
 exact ByteArray.ext (Array.toList_inj.1 h)
theorem A1 {a b : aA} (h : eW a b = true) : b = a.with b.undos := by
 obtain ⟨a0, a1, a2, a3, a4, a5, a6, a7⟩ := a
 obtain ⟨b0, b1, b2, b3, b4, b5, b6, b7⟩ := b
 unfold eW at h
 simp only [Bool.and_eq_true, beq_iff_eq] at h
 obtain ⟨h0, h1, h2, h3, h4, h5, h6⟩ := h
 have h4 := aCV h4
 subst h0 h1 h2 h3 h4 h5 h6
 rfl
theorem aCX (a : aA) (u : Int) : eW a (a.with u) = true := by
 unfold eW aA.with
 simp
theorem nameOf (x : aA) (w : World) : Calls Tryz.prog 59 #[.agg #[.int .i64 x.dev, .int .i64 x.seq, .int .i64 x.stamp, .int .i64 x.kind, .string x.item, .int .i64 x.qty, .int .i64 x.level, .int .i64 x.undos]] w fun e w' => e = .returned (lL x.dev x.seq) ∧ Below w.heap.size w w' := by
 have hb : Below w.heap.size w ((w.alloc (.cells #[.int .i64 x.dev, .int .i64 x.seq, .int .i64 x.stamp, .int .i64 x.kind, .string x.item, .int .i64 x.qty, .int .i64 x.level, .int .i64 x.undos] 50)).alloc (.cells #[.int .i64 0, .int .i64 0] 86)) := ((Below.refl _ w).alloc aRr _).alloc (by simp) _
 have h0 : ((w.alloc (.cells #[.int .i64 x.dev, .int .i64 x.seq, .int .i64 x.stamp, .int .i64 x.kind, .string x.item, .int .i64 x.qty, .int .i64 x.level, .int .i64 x.undos] 50)).alloc (.cells #[.int .i64 0, .int .i64 0] 86)).heap[w.heap.size]? = some (.cells #[.int .i64 x.dev, .int .i64 x.seq, .int .i64 x.stamp, .int .i64 x.kind, .string x.item, .int .i64 x.qty, .int .i64 x.level, .int .i64 x.undos] 50 (0, 0)) := (Below.heap_alloc _ _ _ (by simp)).trans (heap_alloc_new w _)
 have h1 : ((w.alloc (.cells #[.int .i64 x.dev, .int .i64 x.seq, .int .i64 x.stamp, .int .i64 x.kind, .string x.item, .int .i64 x.qty, .int .i64 x.level, .int .i64 x.undos] 50)).alloc (.cells #[.int .i64 0, .int .i64 0] 86)).heap[w.heap.size + 1]? = some (.cells #[.int .i64 0, .int .i64 0] 86 (0, 0)) := by
  have e1 : (w.alloc (.cells #[.int .i64 x.dev, .int .i64 x.seq, .int .i64 x.stamp, .int .i64 x.kind, .string x.item, .int .i64 x.qty, .int .i64 x.level, .int .i64 x.undos] 50)).heap.size = w.heap.size + 1 := by simp
  rw [← e1]; exact heap_alloc_new _ _
 go_enter Tryz.func59, Tryz.ntmps59
 go_upto_region 1 with fail
 generalize (w.alloc (.cells #[.int .i64 x.dev, .int .i64 x.seq, .int .i64 x.stamp, .int .i64 x.kind, .string x.item, .int .i64 x.qty, .int .i64 x.level, .int .i64 x.undos] 50)).alloc (.cells #[.int .i64 0, .int .i64 0] 86) = w0 at hb h0 h1 ⊢
 obtain ⟨e0, e1, e2, e3, e4, e5, e6, e7⟩ := aH h0
 obtain ⟨c0, c1⟩ := pair_cells h1
 obtain ⟨f0, f1⟩ := aC h1
 go_wp2
 have HX := aRp (cH (.int .i64 x.dev) (.int .i64 x.seq) h1)
 have HB : Hid (Below w.heap.size w ((w0.setCell ⟨w.heap.size + 1, 0, none⟩ (.int .i64 x.dev)).setCell ⟨w.heap.size + 1, 1, none⟩ (.int .i64 x.seq))) := (hb.setCell (by show _ ≤ w.heap.size + 1; omega) _).setCell (by show _ ≤ w.heap.size + 1; omega) _
 generalize (w0.setCell ⟨w.heap.size + 1, 0, none⟩ (.int .i64 x.dev)).setCell ⟨w.heap.size + 1, 1, none⟩ (.int .i64 x.seq) = wf at HX HB ⊢
 obtain ⟨d0, d1⟩ := pair_cells HX.out
 exact bodyPost_ret (v := lL x.dev x.seq) (by simp [results, Tryz.results59, go_sem, d0, d1, lL]) rfl ⟨rfl, HB.out⟩
theorem pM.und {w w1 : World} {x0 x1 x2 x3 x4 x5 x6 x7 y0 y1 y2 y3 y4 y5 y6 y7 : Value} {z : Array Value} {S T U : TypeId} (h : pM w w1 #[x0, x1, x2, x3, x4, x5, x6, x7] #[y0, y1, y2, y3, y4, y5, y6, y7] z S T U) (u v : Value) :
  pM w ((w1.setCell ⟨w.heap.size, 7, none⟩ u).setCell ⟨w.heap.size + 1, 7, none⟩ v) #[x0, x1, x2, x3, x4, x5, x6, u] #[y0, y1, y2, y3, y4, y5, y6, v] z S T U := by
 have h1 : (w1.setCell ⟨w.heap.size, 7, none⟩ u).heap[w.heap.size]? = some (.cells #[x0, x1, x2, x3, x4, x5, x6, u] S (0, 0)) := heap_setCell_same _ _ _ _ _ _ h.fst
 have h2 : (w1.setCell ⟨w.heap.size, 7, none⟩ u).heap[w.heap.size + 1]? = some (.cells #[y0, y1, y2, y3, y4, y5, y6, y7] T (0, 0)) := (heap_setCell_other _ _ _ _ (by show w.heap.size + 1 ≠ w.heap.size; omega)).trans h.snd
 refine ⟨(heap_setCell_other _ _ _ _ (by show w.heap.size ≠ w.heap.size + 1; omega)).trans h1, heap_setCell_same _ _ _ _ _ _ h2, ?_, (h.bel.setCell aRr _).setCell (by show _ ≤ w.heap.size + 1; omega) _⟩
 exact (heap_setCell_other _ _ _ _ (by show w.heap.size + 1 + 1 ≠ w.heap.size + 1; omega)).trans ((heap_setCell_other _ _ _ _ (by show w.heap.size + 1 + 1 ≠ w.heap.size; omega)).trans h.res)
set_option linter.unusedSimpArgs false in
set_option maxHeartbeats 20000000 in
theorem aIq (a : aA) (u : Int) (w : World) : Calls Tryz.prog 60 #[.agg #[.int .i64 a.dev, .int .i64 a.seq, .int .i64 a.stamp, .int .i64 a.kind, .string a.item, .int .i64 a.qty, .int .i64 a.level, .int .i64 a.undos], .agg #[.int .i64 a.dev, .int .i64 a.seq, .int .i64 a.stamp, .int .i64 a.kind, .string a.item, .int .i64 a.qty, .int .i64 a.level, .int .i64 u]] w fun e w' => e = .returned (.tuple #[.agg #[.int .i64 a.dev, .int .i64 a.seq, .int .i64 a.stamp, .int .i64 a.kind, .string a.item, .int .i64 a.qty, .int .i64 a.level, .int .i64 (max a.undos u)], .bool true]) ∧ Below w.heap.size w w' := by
 have HT := aRp (pM.mk0 w #[.int .i64 a.dev, .int .i64 a.seq, .int .i64 a.stamp, .int .i64 a.kind, .string a.item, .int .i64 a.qty, .int .i64 a.level, .int .i64 a.undos] #[.int .i64 a.dev, .int .i64 a.seq, .int .i64 a.stamp, .int .i64 a.kind, .string a.item, .int .i64 a.qty, .int .i64 a.level, .int .i64 u] #[.int .i64 0, .int .i64 0, .int .i64 0, .int .i64 0, .string ⟨#[]⟩, .int .i64 0, .int .i64 0, .int .i64 0] 50 50 50)
 go_enter Tryz.func60, Tryz.ntmps60
 go_upto_region 2 with fail
 generalize ((w.alloc (.cells #[.int .i64 a.dev, .int .i64 a.seq, .int .i64 a.stamp, .int .i64 a.kind, .string a.item, .int .i64 a.qty, .int .i64 a.level, .int .i64 a.undos] 50)).alloc (.cells #[.int .i64 a.dev, .int .i64 a.seq, .int .i64 a.stamp, .int .i64 a.kind, .string a.item, .int .i64 a.qty, .int .i64 a.level, .int .i64 u] 50)).alloc (.cells #[.int .i64 0, .int .i64 0, .int .i64 0, .int .i64 0, .string ⟨#[]⟩, .int .i64 0, .int .i64 0, .int .i64 0] 50) = w0 at HT ⊢
 obtain ⟨a0, a1, a2, a3, a4, a5, a6, a7⟩ := aH HT.out.fst
 obtain ⟨b0, b1, b2, b3, b4, b5, b6, b7⟩ := aH HT.out.snd
 obtain ⟨f0, f1, f2, f3, f4, f5, f6, f7⟩ := cB HT.out.fst
 obtain ⟨g0, g1, g2, g3, g4, g5, g6, g7⟩ := cB HT.out.snd
 have aR := aRp (HT.out.und (.int .i64 (max a.undos u)) (.int .i64 (max a.undos u)))
 clear HT
 go_upto_region 3 with fail
 clear a0 a1 a2 a3 a4 a5 a6 a7 b0 b1 b2 b3 b4 b5 b6 b7 f0 f1 f2 f3 f4 f5 f6 f7 g0 g1 g2 g3 g4 g5 g6 g7
 generalize (w0.setCell ⟨w.heap.size, 7, none⟩ (.int .i64 (max a.undos u))).setCell ⟨w.heap.size + 1, 7, none⟩ (.int .i64 (max a.undos u)) = w1 at aR ⊢
 obtain ⟨a0, a1, a2, a3, a4, a5, a6, a7⟩ := aH aR.out.fst
 obtain ⟨b0, b1, b2, b3, b4, b5, b6, b7⟩ := aH aR.out.snd
 obtain ⟨e0, e1, e2, e3, e4, e5, e6, e7⟩ := aH aR.out.res
 obtain ⟨f0, f1, f2, f3, f4, f5, f6, f7⟩ := cB aR.out.res
 generalize hm : max a.undos u = m at aR a7 b7 ⊢
 have HMx := aRp hm
 clear hm
 go_wp2
 have HX := aRp (gV (.int .i64 a.dev) (.int .i64 a.seq) (.int .i64 a.stamp) (.int .i64 a.kind) (.string a.item) (.int .i64 a.qty) (.int .i64 a.level) (.int .i64 m) aR.out.res)
 have HB := aRp (fX (.int .i64 a.dev) (.int .i64 a.seq) (.int .i64 a.stamp) (.int .i64 a.kind) (.string a.item) (.int .i64 a.qty) (.int .i64 a.level) (.int .i64 m) aR.out.bel (by show _ ≤ w.heap.size + 1 + 1; omega))
 clear a0 a1 a2 a3 a4 a5 a6 a7 b0 b1 b2 b3 b4 b5 b6 b7 e0 e1 e2 e3 e4 e5 e6 e7 f0 f1 f2 f3 f4 f5 f6 f7
 change bodyPost _ _ _ _ _ (bJ w1 (w.heap.size + 1 + 1) (.int .i64 a.dev) (.int .i64 a.seq) (.int .i64 a.stamp) (.int .i64 a.kind) (.string a.item) (.int .i64 a.qty) (.int .i64 a.level) (.int .i64 m))
 generalize bJ w1 (w.heap.size + 1 + 1) (.int .i64 a.dev) (.int .i64 a.seq) (.int .i64 a.stamp) (.int .i64 a.kind) (.string a.item) (.int .i64 a.qty) (.int .i64 a.level) (.int .i64 m) = wf at HX HB ⊢
 obtain ⟨d0, d1, d2, d3, d4, d5, d6, d7⟩ := aH HX.out
 exact bodyPost_ret (v := .tuple #[.agg #[.int .i64 a.dev, .int .i64 a.seq, .int .i64 a.stamp, .int .i64 a.kind, .string a.item, .int .i64 a.qty, .int .i64 a.level, .int .i64 m], .bool true]) (by simp [results, Tryz.results60, go_sem, d0, d1, d2, d3, d4, d5, d6, d7]) rfl ⟨by rw [HMx.out], HB.out⟩
set_option linter.unusedSimpArgs false in
set_option maxHeartbeats 20000000 in
theorem aJI (a b : aA) (hs : eW a b = false) (w : World) : Calls Tryz.prog 60 #[.agg #[.int .i64 a.dev, .int .i64 a.seq, .int .i64 a.stamp, .int .i64 a.kind, .string a.item, .int .i64 a.qty, .int .i64 a.level, .int .i64 a.undos], .agg #[.int .i64 b.dev, .int .i64 b.seq, .int .i64 b.stamp, .int .i64 b.kind, .string b.item, .int .i64 b.qty, .int .i64 b.level, .int .i64 b.undos]] w fun e w' => e = .returned (.tuple #[.agg #[.int .i64 0, .int .i64 0, .int .i64 0, .int .i64 0, .string ⟨#[]⟩, .int .i64 0, .int .i64 0, .int .i64 0], .bool false]) ∧ Below w.heap.size w w' := by
 have HT := aRp (pM.mk0 w #[.int .i64 a.dev, .int .i64 a.seq, .int .i64 a.stamp, .int .i64 a.kind, .string a.item, .int .i64 a.qty, .int .i64 a.level, .int .i64 a.undos] #[.int .i64 b.dev, .int .i64 b.seq, .int .i64 b.stamp, .int .i64 b.kind, .string b.item, .int .i64 b.qty, .int .i64 b.level, .int .i64 b.undos] #[.int .i64 0, .int .i64 0, .int .i64 0, .int .i64 0, .string ⟨#[]⟩, .int .i64 0, .int .i64 0, .int .i64 0] 50 50 50)
 have HS := aRp hs
 clear hs
 go_enter Tryz.func60, Tryz.ntmps60
 go_upto_region 2 with fail
 generalize ((w.alloc (.cells #[.int .i64 a.dev, .int .i64 a.seq, .int .i64 a.stamp, .int .i64 a.kind, .string a.item, .int .i64 a.qty, .int .i64 a.level, .int .i64 a.undos] 50)).alloc (.cells #[.int .i64 b.dev, .int .i64 b.seq, .int .i64 b.stamp, .int .i64 b.kind, .string b.item, .int .i64 b.qty, .int .i64 b.level, .int .i64 b.undos] 50)).alloc (.cells #[.int .i64 0, .int .i64 0, .int .i64 0, .int .i64 0, .string ⟨#[]⟩, .int .i64 0, .int .i64 0, .int .i64 0] 50) = w0 at HT ⊢
 obtain ⟨a0, a1, a2, a3, a4, a5, a6, a7⟩ := aH HT.out.fst
 obtain ⟨b0, b1, b2, b3, b4, b5, b6, b7⟩ := aH HT.out.snd
 obtain ⟨f0, f1, f2, f3, f4, f5, f6, f7⟩ := cB HT.out.fst
 obtain ⟨g0, g1, g2, g3, g4, g5, g6, g7⟩ := cB HT.out.snd
 have aR := aRp (HT.out.und (.int .i64 (max a.undos b.undos)) (.int .i64 (max a.undos b.undos)))
 clear HT
 go_upto_region 3 with fail
 clear a0 a1 a2 a3 a4 a5 a6 a7 b0 b1 b2 b3 b4 b5 b6 b7 f0 f1 f2 f3 f4 f5 f6 f7 g0 g1 g2 g3 g4 g5 g6 g7
 generalize (w0.setCell ⟨w.heap.size, 7, none⟩ (.int .i64 (max a.undos b.undos))).setCell ⟨w.heap.size + 1, 7, none⟩ (.int .i64 (max a.undos b.undos)) = w1 at aR ⊢
 obtain ⟨a0, a1, a2, a3, a4, a5, a6, a7⟩ := aH aR.out.fst
 obtain ⟨b0, b1, b2, b3, b4, b5, b6, b7⟩ := aH aR.out.snd
 obtain ⟨e0, e1, e2, e3, e4, e5, e6, e7⟩ := aH aR.out.res
 obtain ⟨f0, f1, f2, f3, f4, f5, f6, f7⟩ := cB aR.out.res
 generalize max a.undos b.undos = m at aR a7 b7 ⊢
 go_wp2
 all_goals first
  | (exfalso
     have hf := HS.out; unfold eW at hf
     simp_all
     done)
  | (have HX := aRp (gV (.int .i64 0) (.int .i64 0) (.int .i64 0) (.int .i64 0) (.string ⟨#[]⟩) (.int .i64 0) (.int .i64 0) (.int .i64 0) aR.out.res)
     have HB := aRp (fX (.int .i64 0) (.int .i64 0) (.int .i64 0) (.int .i64 0) (.string ⟨#[]⟩) (.int .i64 0) (.int .i64 0) (.int .i64 0) aR.out.bel (by show _ ≤ w.heap.size + 1 + 1; omega))
     clear a0 a1 a2 a3 a4 a5 a6 a7 b0 b1 b2 b3 b4 b5 b6 b7 e0 e1 e2 e3 e4 e5 e6 e7 f0 f1 f2 f3 f4 f5 f6 f7
     change bodyPost _ _ _ _ _ (bJ w1 (w.heap.size + 1 + 1) (.int .i64 0) (.int .i64 0) (.int .i64 0) (.int .i64 0) (.string ⟨#[]⟩) (.int .i64 0) (.int .i64 0) (.int .i64 0))
     generalize bJ w1 (w.heap.size + 1 + 1) (.int .i64 0) (.int .i64 0) (.int .i64 0) (.int .i64 0) (.string ⟨#[]⟩) (.int .i64 0) (.int .i64 0) (.int .i64 0) = wf at HX HB ⊢; obtain ⟨d0, d1, d2, d3, d4, d5, d6, d7⟩ := aH HX.out; exact bodyPost_ret (v := .tuple #[.agg #[.int .i64 0, .int .i64 0, .int .i64 0, .int .i64 0, .string ⟨#[]⟩, .int .i64 0, .int .i64 0, .int .i64 0], .bool false]) (by simp [results, Tryz.results60, go_sem, d0, d1, d2, d3, d4, d5, d6, d7]) rfl ⟨rfl, HB.out⟩)
set_option linter.unusedSimpArgs false in
set_option maxHeartbeats 20000000 in
theorem aIn (a b : aA) (w : World) : Calls Tryz.prog 151 #[.agg #[.int .i64 a.dev, .int .i64 a.seq, .int .i64 a.stamp, .int .i64 a.kind, .string a.item, .int .i64 a.qty, .int .i64 a.level, .int .i64 a.undos], .agg #[.int .i64 b.dev, .int .i64 b.seq, .int .i64 b.stamp, .int .i64 b.kind, .string b.item, .int .i64 b.qty, .int .i64 b.level, .int .i64 b.undos]] w fun e w' => e = .returned (.bool (eW a b)) ∧ Below w.heap.size w w' := by
 have HS : Hid (eW a b = (a.dev == b.dev && (a.seq == b.seq && (a.stamp == b.stamp && (a.kind == b.kind && (a.item.toList == b.item.toList && (a.qty == b.qty && a.level == b.level))))))) := rfl
 go_enter Tryz.func151, Tryz.ntmps151
 go_wp2
 all_goals
  go_ret
  refine ⟨?_, ((Below.refl _ w).alloc aRr _).alloc (by simp) _⟩
  rw [HS.out]
  simp_all
theorem cell_of_block {w w' : World} {b i : Nat} (h : w'.heap[b]? = w.heap[b]?) : w'.cell? ⟨b, i, none⟩ = w.cell? ⟨b, i, none⟩ := by unfold World.cell?; rw [h]
def mT (l : List aA) : Nat → Int → Int → Option aA
 | 0 => fun _ _ => none
 | k + 1 => K4 (mT l k) (aB l k)
def aMD (l : List aA) (n : Nat) (w : World) (e : Ending) (w' : World) : Prop := ∃ b, e = .returned (.map (some b)) ∧ w.heap.size ≤ b ∧ gX w' b n (mT l n) ∧ Below w.heap.size w w'
set_option linter.unusedSimpArgs false in
set_option maxHeartbeats 40000000 in
theorem aLZ (w : World) (B : Nat) (a : Option Addr) (n c : Nat) (l : List aA) (h : bR w B a n l) (hB : B ≤ w.heap.size) (hn : n ≤ 1048576) (hf : ∀ i, i < n → yI (aB l i).dev (aB l i).seq) :
  Calls Tryz.prog 58 #[.slice a n c] w (aMD l n w) := by
 have hmm := aDr w n
 have bG : Below w.heap.size w (w.alloc (.map #[] 0)) := (Below.refl _ w).alloc aRr _
 have HO := aRp (h.below bG hB)
 have oJ := aRp bG
 have HS0 := aRp (aGC w)
 have HF := aRp hf
 have lC : w.heap.size + 1 ≤ (w.alloc (.map #[] 0)).heap.size := by show _ ≤ (w.heap.push _).size; simp
 clear h bG hf
 go_enter Tryz.func58, Tryz.ntmps58
 go_upto_region 2 with fail
 clear hmm
 generalize w.alloc (.map #[] 0) = w0 at HO oJ HS0 lC ⊢
 go_wp2
 go_loopw [11] (fun i wr => ∃ k : Nat, k ≤ n ∧ i = .int .i64 (k : Int) ∧ Hid (gX wr w.heap.size k (mT l k)) ∧ Hid (Below w.heap.size w wr) ∧ w.heap.size + 1 ≤ wr.heap.size) (fun i _ => n - (intOf i).toNat)
 case atStart => exact ⟨0, by omega, rfl, HS0, oJ, lC⟩
 case round =>
  obtain ⟨k, hk, rfl, HS, HB, hsr⟩ := hrel; clear HS0
  by_cases aM : k < n
  rotate_left
  ·obtain rfl : k = n := by omega
   go_wp2
   go_ret
   exact ⟨w.heap.size, rfl, Nat.le_refl _, HS.out, HB.out⟩
  have HOr := aRp (HO.out.kept fun j hj => ((HB.out.block j (by omega)).trans (oJ.out.block j (by omega)).symm))
  obtain ⟨b, off, rfl, hb, ho⟩ := HOr.out.2 k aM; have pU : Hid (rD wr b (off + k * 8) (aB l k)) := ho; have HFk := aRp (HF.out k aM); have cI : Hid (mT l (k + 1) = K4 (mT l k) (aB l k)) := rfl; clear ho; generalize aB l k = x at pU HFk cI; obtain ⟨d0, d1, d2, d3, d4, d5, d6, d7⟩ := pU.out
  go_upto_region 5 with fail
  have aI : Below wr.heap.size wr (wr.alloc (.cells #[.int .i64 x.dev, .int .i64 x.seq, .int .i64 x.stamp, .int .i64 x.kind, .string x.item, .int .i64 x.qty, .int .i64 x.level, .int .i64 x.undos] 50)) := bl; have hx := bM (Below.refl _ (wr.alloc (.cells #[.int .i64 x.dev, .int .i64 x.seq, .int .i64 x.stamp, .int .i64 x.kind, .string x.item, .int .i64 x.qty, .int .i64 x.level, .int .i64 x.undos] 50))); have HS2 := aRp (HS.out.below aI); generalize wr.alloc (.cells #[.int .i64 x.dev, .int .i64 x.seq, .int .i64 x.stamp, .int .i64 x.kind, .string x.item, .int .i64 x.qty, .int .i64 x.level, .int .i64 x.undos] 50) = w2 at aI hx HS2 ⊢; have hnb := aI.size; generalize aQO : wr.heap.size = nb at hx aI hsr hnb ⊢; have cA : Hid (Below w.heap.size w w2) := HB.out.trans ⟨aI.os, aI.tape, aI.output, by omega, fun j hj => aI.block j (by omega)⟩
  clear d0 d1 d2 d3 d4 d5 d6 d7 pU HOr; obtain ⟨e0, e1, e2, e3, e4, e5, e6, e7⟩ := aH hx; have hS : w2.drew.cell? ⟨nb, 0, none⟩ = some (.int .i64 x.dev) ∧ w2.drew.cell? ⟨nb, 1, none⟩ = some (.int .i64 x.seq) ∧ w2.drew.cell? ⟨nb, 2, none⟩ = some (.int .i64 x.stamp) ∧ w2.drew.cell? ⟨nb, 3, none⟩ = some (.int .i64 x.kind) ∧ w2.drew.cell? ⟨nb, 4, none⟩ = some (.string x.item) ∧ w2.drew.cell? ⟨nb, 5, none⟩ = some (.int .i64 x.qty) ∧ w2.drew.cell? ⟨nb, 6, none⟩ = some (.int .i64 x.level) ∧ w2.drew.cell? ⟨nb, 7, none⟩ = some (.int .i64 x.undos) := ⟨e0, e1, e2, e3, e4, e5, e6, e7⟩; have aNr : nb < w2.heap.size := (aRq hx).1; clear hx aI e0 e1 e2 e3 e4 e5 e6 e7
  go_wp2_with fail
  refine wp_region_held_drew (S := fun w' => w'.cell? ⟨nb, 0, none⟩ = some (.int .i64 x.dev) ∧ w'.cell? ⟨nb, 1, none⟩ = some (.int .i64 x.seq) ∧ w'.cell? ⟨nb, 2, none⟩ = some (.int .i64 x.stamp) ∧ w'.cell? ⟨nb, 3, none⟩ = some (.int .i64 x.kind) ∧ w'.cell? ⟨nb, 4, none⟩ = some (.string x.item) ∧ w'.cell? ⟨nb, 5, none⟩ = some (.int .i64 x.qty) ∧ w'.cell? ⟨nb, 6, none⟩ = some (.int .i64 x.level) ∧ w'.cell? ⟨nb, 7, none⟩ = some (.int .i64 x.undos)) (by kernel_rfl) hS (fun aO => ?_)
  refine tj 0 ?_
  refine tj 1 ?_
  refine tj 3 ?_
  refine rk 2 rfl (fun K hK => ?_)
  go_simp
  go_at_call 59
  refine (nameOf x w2.drew).mono ?_
  rintro e w3 ⟨rfl, aS⟩; have eJ : w3.cell? ⟨nb, 0, none⟩ = some (.int .i64 x.dev) ∧ w3.cell? ⟨nb, 1, none⟩ = some (.int .i64 x.seq) ∧ w3.cell? ⟨nb, 2, none⟩ = some (.int .i64 x.stamp) ∧ w3.cell? ⟨nb, 3, none⟩ = some (.int .i64 x.kind) ∧ w3.cell? ⟨nb, 4, none⟩ = some (.string x.item) ∧ w3.cell? ⟨nb, 5, none⟩ = some (.int .i64 x.qty) ∧ w3.cell? ⟨nb, 6, none⟩ = some (.int .i64 x.level) ∧ w3.cell? ⟨nb, 7, none⟩ = some (.int .i64 x.undos) := ⟨(aS.cell (block_lt_of_cell hS.1)).trans hS.1, (aS.cell (block_lt_of_cell hS.2.1)).trans hS.2.1, (aS.cell (block_lt_of_cell hS.2.2.1)).trans hS.2.2.1, (aS.cell (block_lt_of_cell hS.2.2.2.1)).trans hS.2.2.2.1, (aS.cell (block_lt_of_cell hS.2.2.2.2.1)).trans hS.2.2.2.2.1, (aS.cell (block_lt_of_cell hS.2.2.2.2.2.1)).trans hS.2.2.2.2.2.1, (aS.cell (block_lt_of_cell hS.2.2.2.2.2.2.1)).trans hS.2.2.2.2.2.2.1, (aS.cell (block_lt_of_cell hS.2.2.2.2.2.2.2)).trans hS.2.2.2.2.2.2.2⟩; refine hK.out _ _ eJ (fun bQ => ?_)
  clear hK K
  (try simp only [Act.put, u1, u2, u3])
  have aV : Below w2.heap.size w2 w3 := ⟨aS.os, aS.tape, aS.output, aS.size, aS.block⟩; have HS3 := aRp (HS2.out.below aV); obtain ⟨w4, aK0, aCE, eZ⟩ := HS3.out.put (by unfold maxLen; omega) x HFk.out
  have hrun : (Instr.mapUpdate 82 (.map (some w.heap.size)) (lL x.dev x.seq) (.agg #[.int .i64 x.dev, .int .i64 x.seq, .int .i64 x.stamp, .int .i64 x.kind, .string x.item, .int .i64 x.qty, .int .i64 x.level, .int .i64 x.undos])).run Tryz.prog w3 = .ok () w4 := aK0; have yN : nb < w3.heap.size := Nat.lt_of_lt_of_le aNr aV.size; have X4 : w4.cell? ⟨nb, 0, none⟩ = some (.int .i64 x.dev) ∧ w4.cell? ⟨nb, 1, none⟩ = some (.int .i64 x.seq) ∧ w4.cell? ⟨nb, 2, none⟩ = some (.int .i64 x.stamp) ∧ w4.cell? ⟨nb, 3, none⟩ = some (.int .i64 x.kind) ∧ w4.cell? ⟨nb, 4, none⟩ = some (.string x.item) ∧ w4.cell? ⟨nb, 5, none⟩ = some (.int .i64 x.qty) ∧ w4.cell? ⟨nb, 6, none⟩ = some (.int .i64 x.level) ∧ w4.cell? ⟨nb, 7, none⟩ = some (.int .i64 x.undos) := ⟨(cell_of_block (eZ.block nb yN (by simp; omega))).trans eJ.1, (cell_of_block (eZ.block nb yN (by simp; omega))).trans eJ.2.1, (cell_of_block (eZ.block nb yN (by simp; omega))).trans eJ.2.2.1, (cell_of_block (eZ.block nb yN (by simp; omega))).trans eJ.2.2.2.1, (cell_of_block (eZ.block nb yN (by simp; omega))).trans eJ.2.2.2.2.1, (cell_of_block (eZ.block nb yN (by simp; omega))).trans eJ.2.2.2.2.2.1, (cell_of_block (eZ.block nb yN (by simp; omega))).trans eJ.2.2.2.2.2.2.1, (cell_of_block (eZ.block nb yN (by simp; omega))).trans eJ.2.2.2.2.2.2.2⟩
  refine rk 4 rfl (fun K hK => ?_)
  go_simp
  refine hK.out _ _ X4 (fun dG => ?_)
  clear hK K
  (try simp only [Act.put, u1, u2, u3])
  refine wpAnyH_done (by kernel_rfl) ?_ _
  have dR := aRp (cA.out.trans (aV.mono cA.out.size)); have iX : Hid (Below w.heap.size w w4) := dR.out.grown eZ dR.out.size (fun j hj => by cases hj; exact Nat.le_refl _)
  have aN9 := aRp aCE; rw [← cI.out] at aN9; have vD : w.heap.size + 1 ≤ w4.heap.size := by have := eZ.size; have := aV.size; omega
  clear hS eJ X4 hrun aK0 aCE eZ aS aV aO bQ dG; go_wp2
  go_roundw
  case rel => exact ⟨k + 1, by omega, by go_num, aN9, iX, vD⟩
  case measure => simp [intOf]; omega
theorem sA {m : List aA} (h : j6 m = true) : ∀ k, k ≤ m.length → ∀ i, i < k → mT m k (aB m i).dev (aB m i).seq = some (aB m i)
 | 0, _, i, hi => absurd hi (Nat.not_lt_zero _)
 | k + 1, hk, i, hi => by
  show K4 (mT m k) (aB m k) _ _ = _
  unfold K4
  by_cases e : (aB m i).dev = (aB m k).dev ∧ (aB m i).seq = (aB m k).seq
  ·rw [if_pos e]
   have := aEy h (i := i) (j := k) (by omega) (by omega) (dev := (aB m k).dev) (seq := (aB m k).seq) e ⟨rfl, rfl⟩
   rw [this]
  ·rw [if_neg e]
   have pD : i ≠ k := fun e2 => e (by rw [e2]; exact ⟨rfl, rfl⟩)
   exact sA h k (by omega) i (by omega)
theorem F6 {m : List aA} {d s : Int} : ∀ k, (∀ j, j < k → ¬ C5 m j d s) → mT m k d s = none
 | 0, _ => rfl
 | k + 1, h => by
  show K4 (mT m k) (aB m k) _ _ = _
  unfold K4; rw [if_neg (fun e => h k (by omega) ⟨e.1.symm, e.2.symm⟩)]
  exact F6 k fun j hj => h j (by omega)
theorem Z8 {m : List aA} {d s : Int} {x : aA} : ∀ k, mT m k d s = some x → ∃ i, i < k ∧ C5 m i d s ∧ aB m i = x
 | 0, h => by cases h
 | k + 1, h => by
  have h' : K4 (mT m k) (aB m k) d s = some x := h; unfold K4 at h'
  by_cases e : d = (aB m k).dev ∧ s = (aB m k).seq
  ·rw [if_pos e] at h'
   injection h' with h'; exact ⟨k, by omega, ⟨e.1.symm, e.2.symm⟩, h'⟩
  ·rw [if_neg e] at h'
   obtain ⟨i, hi, r⟩ := Z8 k h'; exact ⟨i, by omega, r⟩
def okW (m : List aA) (x : aA) : Bool := match mT m m.length x.dev x.seq with
 | none => false
 | some y => eW x y && decide (x.undos ≤ y.undos)
theorem okW_none {m : List aA} {x : aA} (h : mT m m.length x.dev x.seq = none) : okW m x = false := by unfold okW; rw [h]
theorem aEd {m : List aA} {x y : aA} (h : mT m m.length x.dev x.seq = some y) : okW m x = (eW x y && decide (x.undos ≤ y.undos)) := by unfold okW; rw [h]
def aBk (m l : List aA) : Bool := (List.range l.length).all fun i => okW m (aB l i)
def xB (xs : List Int) (l : List aA) (ys : List Int) (m : List aA) : Bool := aD xs l && (aD ys m && aBk m l)
theorem aJO {xs : List Int} {l : List aA} {ys : List Int} {m : List aA} (h : aD xs l = false) : xB xs l ys m = false := by unfold xB; rw [h]; rfl
theorem aJN {xs : List Int} {l : List aA} {ys : List Int} {m : List aA} (h : aD ys m = false) : xB xs l ys m = false := by unfold xB; rw [h]; simp
theorem aEB {xs : List Int} {l : List aA} {ys : List Int} {m : List aA} (h : aD xs l = true) (h2 : aD ys m = true) : xB xs l ys m = aBk m l := by unfold xB; rw [h, h2]; rfl
theorem aI2 {m l : List aA} {k : Nat} (hk : k < l.length) (h : okW m (aB l k) = false) : aBk m l = false := by
 unfold aBk
 rw [List.all_eq_false]
 exact ⟨k, by simpa using hk, by rw [h]; simp⟩
theorem aE2 {m l : List aA} (h : ∀ i, i < l.length → okW m (aB l i) = true) : aBk m l = true := by
 unfold aBk
 rw [List.all_eq_true]
 exact fun i hi => h i (by simpa using hi)
theorem aD9 {o : aA} (h : o.ok = true) : 0 ≤ o.dev ∧ o.dev ≤ 3 ∧ 0 ≤ o.seq ∧ o.seq ≤ 40 ∧ 0 ≤ o.undos ∧ o.undos ≤ 50 := by
 have h' : dP o.dev o.seq o.stamp o.kind o.item o.qty o.level o.undos = true := h
 unfold dP rT at h'
 simp only [Bool.and_eq_true, gM] at h'
 obtain ⟨⟨h1, h2, _, _, h5⟩, _⟩ := h'
 omega
theorem aEW {xs : List Int} {l : List aA} (h : aD xs l = true) {i : Nat} (hi : i < l.length) : yI (aB l i).dev (aB l i).seq := by
 obtain ⟨h1, h2, h3, h4, _⟩ := aD9 (aG8 h hi)
 exact aP4 h1 (by omega) h3 (by omega)
theorem C7 {ys : List Int} {m : List aA} (h : aD ys m = true) {d : Nat} (hd : d < 4) {s : Nat} (hs : (s : Int) < ys.getD d 0) : aP ys d + s < m.length ∧ C5 m (aP ys d + s) (d : Int) ((s : Int) + 1) := by
 obtain ⟨_, iO, h4⟩ := jW h
 have hD := iO d hd
 unfold jD at hD
 rw [Bool.and_eq_true] at hD
 have hR := hD.2
 unfold lU at hR
 rw [List.all_eq_true] at hR
 have hF := hR s (List.mem_range.2 (by omega))
 unfold kG at hF
 simp only [Bool.and_eq_true, decide_eq_true_eq] at hF
 have hm := jI ys (d + 1) 4 (by omega)
 have e : aP ys (d + 1) = aP ys d + (ys.getD d 0).toNat := rfl
 exact ⟨by omega, hF.2.1, hF.2.2.1⟩
theorem aEV {ys : List Int} {m : List aA} (h : aD ys m = true) {j : Nat} (hj : j < m.length) {d : Nat} (e : (aB m j).dev = (d : Int)) : 1 ≤ (aB m j).seq ∧ (aB m j).seq ≤ ys.getD d 0 := by
 obtain ⟨d', _, h1, h2, _, h3, h4⟩ := qT h hj
 have hdd : d' = d := by omega
 subst hdd
 have e : aP ys (d' + 1) = aP ys d' + (ys.getD d' 0).toNat := rfl
 omega
theorem aCI {ys : List Int} {m : List aA} (h : aD ys m = true) {d : Nat} (hd : d < 4) {s : Nat} (hs : (s : Int) < ys.getD d 0) : mT m m.length (d : Int) ((s : Int) + 1) = some (aB m (aP ys d + s)) := by
 obtain ⟨h1, h2, h3⟩ := C7 h hd hs
 have := sA (sD h) m.length aRr _ h1
 rw [h2, h3] at this
 exact this
theorem aEP {ys : List Int} {m : List aA} (h : aD ys m = true) {d : Nat} {s : Int} (hs : ys.getD d 0 < s) : mT m m.length (d : Int) s = none :=
 F6 _ fun j hj e => by
  have := aEV h hj e.1; have := e.2; omega
def lE (l : List aA) (d s : Int) : Option aA := mT l l.length d s
def nT (l m : List aA) (d s : Int) : aA := match lE l d s, lE m d s with
 | some a, some b => a.with (max a.undos b.undos)
 | some a, none => a
 | none, some b => b
 | none, none => aA.zero
def eH (zs : List Int) (F : Nat → Nat → aA) (d s : Nat) : List aA := ((List.range d).flatMap fun e => (List.range (zs.getD e 0).toNat).map fun i => F e i) ++ (List.range s).map fun i => F d i
theorem zD (zs : List Int) (F : Nat → Nat → aA) (d s : Nat) : eH zs F d (s + 1) = eH zs F d s ++ [F d s] := by
 unfold eH
 rw [List.range_succ, List.map_append, ← List.append_assoc]
 rfl
theorem zE (zs : List Int) (F : Nat → Nat → aA) (d : Nat) : eH zs F (d + 1) 0 = eH zs F d (zs.getD d 0).toNat := by
 unfold eH
 rw [List.range_succ, List.flatMap_append]
 simp
theorem sN (zs : List Int) (F : Nat → Nat → aA) : ∀ d s, (eH zs F d s).length = aP zs d + s
 | 0, s => by simp [eH, aP]
 | d + 1, 0 => by
  rw [zE, sN zs F d]
  rfl
 | d + 1, s + 1 => by
  rw [zD, List.length_append, sN zs F (d + 1) s]
  rfl
theorem j2 (zs : List Int) (F : Nat → Nat → aA) (d : Nat) : ∀ k s, s ≤ s + k → ∃ r, eH zs F d (s + k) = eH zs F d s ++ r
 | 0, s, _ => ⟨[], by simp⟩
 | k + 1, s, _ => by
  obtain ⟨r, h⟩ := j2 zs F d k s (by omega)
  exact ⟨r ++ [F d (s + k)], by rw [← Nat.add_assoc, zD, h, List.append_assoc]⟩
theorem aC7 (zs : List Int) (F : Nat → Nat → aA) (d : Nat) : ∀ k, ∃ r, eH zs F (d + k) 0 = eH zs F d 0 ++ r
 | 0 => ⟨[], by simp⟩
 | k + 1 => by
  obtain ⟨r, h⟩ := aC7 zs F d k; obtain ⟨r2, h2⟩ := j2 zs F (d + k) (zs.getD (d + k) 0).toNat 0 (by omega)
  refine ⟨r ++ r2, ?_⟩
  rw [← Nat.add_assoc, zE, ← List.append_assoc, ← h]
  simpa using h2
theorem aEk (zs : List Int) (F : Nat → Nat → aA) {d s : Nat} (hd : d < 4) (hs : s < (zs.getD d 0).toNat) : aB (eH zs F 4 0) (aP zs d + s) = F d s := by
 obtain ⟨r, h⟩ := aC7 zs F (d + 1) (3 - d)
 have e4 : d + 1 + (3 - d) = 4 := by omega
 rw [e4, zE zs F d] at h
 obtain ⟨r2, h2⟩ := j2 zs F d ((zs.getD d 0).toNat - (s + 1)) (s + 1) (by omega)
 have e5 : s + 1 + ((zs.getD d 0).toNat - (s + 1)) = (zs.getD d 0).toNat := by omega
 rw [e5, zD zs F d s] at h2
 rw [h2] at h
 have hl := sN zs F d s
 unfold aB
 rw [h, List.getD_eq_getElem?_getD, List.append_assoc, List.append_assoc, List.getElem?_append_right (by omega), hl]
 simp
def dF (l m : List aA) : Nat → Nat → aA := fun d s => nT l m (d : Int) ((s : Int) + 1)
def i7 (zs : List Int) (l m : List aA) : List aA := eH zs (dF l m) 4 0
def okJ (l : List aA) (x : aA) : Bool := match lE l x.dev x.seq with
 | none => true
 | some y => eW x y
def rF (l m : List aA) : Bool := (List.range m.length).all fun i => okJ l (aB m i)
theorem aJl {l m : List aA} {k : Nat} (hk : k < m.length) (h : okJ l (aB m k) = false) : rF l m = false := by
 unfold rF
 rw [List.all_eq_false]
 exact ⟨k, List.mem_range.2 hk, by rw [h]; simp⟩
theorem aM6 {l m : List aA} (h : rF l m = true) {k : Nat} (hk : k < m.length) : okJ l (aB m k) = true := by
 unfold rF at h
 rw [List.all_eq_true] at h
 exact h k (List.mem_range.2 hk)
theorem aMa {l m : List aA} (h : ∀ i, i < m.length → okJ l (aB m i) = true) : rF l m = true := by
 unfold rF
 rw [List.all_eq_true]
 exact fun i hi => h i (List.mem_range.1 hi)
theorem aJm {l : List aA} {x : aA} (h : lE l x.dev x.seq = none) : okJ l x = true := by unfold okJ; rw [h]
theorem aA3 {l : List aA} {x y : aA} (h : lE l x.dev x.seq = some y) : okJ l x = eW x y := by unfold okJ; rw [h]
def kX (xs : List Int) (l : List aA) (ys : List Int) (m : List aA) : Bool := aD xs l && (aD ys m && rF l m)
theorem aIg {xs : List Int} {l : List aA} {ys : List Int} {m : List aA} (h : aD xs l = false) : kX xs l ys m = false := by unfold kX; rw [h]; rfl
theorem aIf {xs : List Int} {l : List aA} {ys : List Int} {m : List aA} (h : aD ys m = false) : kX xs l ys m = false := by unfold kX; rw [h]; simp
theorem aIe {xs : List Int} {l : List aA} {ys : List Int} {m : List aA} (h : aD xs l = true) (h2 : aD ys m = true) : kX xs l ys m = rF l m := by unfold kX; rw [h, h2]; rfl
theorem aGc {a : aA} (h : a.ok = true) {u : Int} (h0 : 0 ≤ u) (h1 : u ≤ 50) : (a.with u).ok = true := by
 have h' : dP a.dev a.seq a.stamp a.kind a.item a.qty a.level a.undos = true := h
 show dP a.dev a.seq a.stamp a.kind a.item a.qty a.level u = true
 unfold dP rT at h' ⊢
 simp only [Bool.and_eq_true, gM] at h' ⊢
 obtain ⟨⟨a1, a2, a3, a4, _⟩, a6⟩ := h'
 exact ⟨⟨a1, a2, a3, a4, h0, h1⟩, a6⟩
theorem qO {xs : List Int} {l : List aA} (h : aD xs l = true) {d : Nat} (hd : d < 4) {s : Nat} (hs : (s : Int) < xs.getD d 0) : kG l d (aP xs d) s = true := by
 have hD := (jW h).2.1 d hd
 unfold jD at hD
 rw [Bool.and_eq_true] at hD
 have hR := hD.2
 unfold lU at hR
 rw [List.all_eq_true] at hR
 exact hR s (List.mem_range.2 (by omega))
theorem jV {l : List aA} {d st s : Nat} (h : kG l d st s = true) : (aB l (st + s)).ok = true ∧ (aB l (st + s)).dev = (d : Int) ∧ (aB l (st + s)).seq = (s : Int) + 1 ∧ dO l st s < (aB l (st + s)).stamp := by
 unfold kG at h
 simpa only [Bool.and_eq_true, decide_eq_true_eq] using h
theorem aEg {xs : List Int} {l : List aA} {ys : List Int} {m : List aA} (h : aD xs l = true) (h2 : aD ys m = true) (ho : rF l m = true) {d : Nat} (hd : d < 4) {s : Nat} (hs : (s : Int) < max (xs.getD d 0) (ys.getD d 0)) :
  (dF l m d s).ok = true ∧ (dF l m d s).dev = (d : Int) ∧ (dF l m d s).seq = (s : Int) + 1 ∧ ((s : Int) < xs.getD d 0 → (dF l m d s).stamp = (aB l (aP xs d + s)).stamp) ∧ ((s : Int) < ys.getD d 0 → (dF l m d s).stamp = (aB m (aP ys d + s)).stamp) := by
 show (nT l m _ _).ok = true ∧ (nT l m _ _).dev = _ ∧ (nT l m _ _).seq = _ ∧ (_ → (nT l m _ _).stamp = _) ∧ (_ → (nT l m _ _).stamp = _)
 unfold nT
 by_cases hx : (s : Int) < xs.getD d 0
 ·have e1 : lE l (d : Int) ((s : Int) + 1) = some (aB l (aP xs d + s)) := aCI h hd hx
  obtain ⟨a1, a2, a3, _⟩ := jV (qO h hd hx); rw [e1]
  by_cases hy : (s : Int) < ys.getD d 0
  ·have e2 : lE m (d : Int) ((s : Int) + 1) = some (aB m (aP ys d + s)) := aCI h2 hd hy
   obtain ⟨b1, b2, b3, _⟩ := jV (qO h2 hd hy); obtain ⟨h5, h6⟩ := C7 h2 hd hy; have hj := aM6 ho h5; rw [aA3 (by rw [h6.1, h6.2]; exact e1)] at hj
   have ha := A1 hj; have u1 := aD9 a1; have u2 := aD9 b1; rw [e2]; refine ⟨aGc a1 (by omega) (by omega), a2, a3, fun _ => rfl, fun _ => ?_⟩
   show (aB l (aP xs d + s)).stamp = _
   rw [ha]
   rfl
  ·have e2 : lE m (d : Int) ((s : Int) + 1) = none := aEP h2 (by omega)
   rw [e2]; exact ⟨a1, a2, a3, fun _ => rfl, fun h => absurd h hy⟩
 ·have hy : (s : Int) < ys.getD d 0 := by omega
  have e1 : lE l (d : Int) ((s : Int) + 1) = none := aEP h (by omega)
  have e2 : lE m (d : Int) ((s : Int) + 1) = some (aB m (aP ys d + s)) := aCI h2 hd hy; obtain ⟨b1, b2, b3, _⟩ := jV (qO h2 hd hy); rw [e1, e2]; exact ⟨b1, b2, b3, fun h => absurd h hx, fun _ => rfl⟩
def lV (xs ys : List Int) : List Int := List.zipWith max xs ys
theorem aCw {xs ys : List Int} (h : xs.length = 4) (h2 : ys.length = 4) {d : Nat} (hd : d < 4) : (lV xs ys).getD d 0 = max (xs.getD d 0) (ys.getD d 0) := by
 unfold lV
 rw [List.getD_eq_getElem?_getD, List.getD_eq_getElem?_getD, List.getD_eq_getElem?_getD, List.getElem?_zipWith, List.getElem?_eq_getElem (by omega), List.getElem?_eq_getElem (by omega)]
 rfl
theorem aCv {xs ys : List Int} (h : cL xs = true) (h2 : cL ys = true) : cL (lV xs ys) = true := by
 have l1 := (fO h (d := 0) (by omega)).2.2
 have l2 := (fO h2 (d := 0) (by omega)).2.2
 have l3 : (lV xs ys).length = 4 := by unfold lV; rw [List.length_zipWith]; omega
 unfold cL
 rw [Bool.and_eq_true]
 refine ⟨?_, decide_eq_true l3⟩
 rw [List.all_eq_true]
 intro x hx
 obtain ⟨i, hi, e⟩ := List.mem_iff_getElem.1 hx
 have hi4 : i < 4 := by omega
 have e2 : (lV xs ys).getD i 0 = x := by rw [List.getD_eq_getElem?_getD, List.getElem?_eq_getElem hi]; exact e
 rw [aCw l1 l2 hi4] at e2
 have g1 := fO h hi4
 have g2 := fO h2 hi4
 rw [← e2]
 unfold tP
 rw [Bool.and_eq_true]
 exact ⟨decide_eq_true (by omega), decide_eq_true (by omega)⟩
theorem aAR {xs : List Int} {l : List aA} {ys : List Int} {m : List aA} (h : aD xs l = true) (h2 : aD ys m = true) (ho : rF l m = true) : aD (lV xs ys) (i7 (lV xs ys) l m) = true := by
 have v1 := (jW h).1
 have v2 := (jW h2).1
 have l1 := (fO v1 (d := 0) (by omega)).2.2
 have l2 := (fO v2 (d := 0) (by omega)).2.2
 have nD : (i7 (lV xs ys) l m).length = aP (lV xs ys) 4 := sN _ _ 4 0
 rw [aBh (aCv v1 v2) fun d hd => ?_]
 ·exact decide_eq_true nD.symm
 ·have hm := jI (lV xs ys) (d + 1) 4 (by omega)
  unfold jD; rw [Bool.and_eq_true]; refine ⟨decide_eq_true (by omega), ?_⟩
  unfold lU; rw [List.all_eq_true]
  intro s hs
  have hs := List.mem_range.1 hs; have hz := aCw l1 l2 hd; have hsi : (s : Int) < max (xs.getD d 0) (ys.getD d 0) := by rw [← hz]; omega
  have ea : aB (i7 (lV xs ys) l m) (aP (lV xs ys) d + s) = dF l m d s := aEk _ _ hd hs; obtain ⟨m1, m2, m3, m4, m5⟩ := aEg h h2 ho hd hsi; refine sU (by rw [ea]; exact m1) (by rw [ea]; exact m2) (by rw [ea]; exact m3) ?_
  rw [ea]; cases s with
  | zero =>
   have e0 : ∀ L st, dO L st 0 = 0 := fun _ _ => rfl
   rw [e0]
   by_cases hx : ((0 : Nat) : Int) < xs.getD d 0
   ·rw [m4 hx]
    have := (jV (qO h hd hx)).2.2.2; rw [e0] at this; exact this
   ·have hy : ((0 : Nat) : Int) < ys.getD d 0 := by omega
    rw [m5 hy]; have := (jV (qO h2 hd hy)).2.2.2; rw [e0] at this; exact this
  | succ t =>
   rw [wX]; have eb : aB (i7 (lV xs ys) l m) (aP (lV xs ys) d + t) = dF l m d t := aEk _ _ hd (by omega)
   rw [eb]; obtain ⟨_, _, _, n4, n5⟩ := aEg h h2 ho hd (s := t) (by omega)
   by_cases hx : ((t + 1 : Nat) : Int) < xs.getD d 0
   ·rw [m4 hx, n4 (by omega)]
    have := (jV (qO h hd hx)).2.2.2; rw [wX] at this; exact this
   ·have hy : ((t + 1 : Nat) : Int) < ys.getD d 0 := by omega
    rw [m5 hy, n5 (by omega)]
    have := (jV (qO h2 hd hy)).2.2.2; rw [wX] at this; exact this
theorem aFO {l m : List aA} {N : Nat} (hl : ∀ i, i < l.length → (aB l i).item.size ≤ N) (hm : ∀ i, i < m.length → (aB m i).item.size ≤ N) (d s : Nat) : (dF l m d s).item.size ≤ N := by
 show (nT l m _ _).item.size ≤ N
 unfold nT
 rcases e1 : lE l (d : Int) ((s : Int) + 1) with _ | a
 ·rcases e2 : lE m (d : Int) ((s : Int) + 1) with _ | b
  ·exact Nat.zero_le _
  ·obtain ⟨i, hi, _, e⟩ := Z8 _ e2
   show b.item.size ≤ N
   rw [← e]; exact hm i hi
 ·obtain ⟨i, hi, _, e⟩ := Z8 _ e1
  rcases e2 : lE m (d : Int) ((s : Int) + 1) with _ | b
  ·show a.item.size ≤ N
   rw [← e]; exact hl i hi
  ·show a.item.size ≤ N
   rw [← e]; exact hl i hi
theorem aHX (w : World) (B B' : Nat) (a a' : Option Addr) (len cap lW fB : Nat) (xs ys : List Int) (h : Ints w B a len xs) (h' : Ints w B' a' lW ys) (hl : len ≤ 1048576) (hl' : lW ≤ 1048576) :
  Calls Tryz.prog 50 #[.slice a len cap, .slice a' lW fB] w (aON xs ys w) := by
 have hL := aRp h.1
 have hL' := aRp h'.1
 have H := aRp h
 have H' := aRp h'
 clear h h'
 by_cases hn : len = lW
 ·subst hn
  go_enter Tryz.func50, Tryz.ntmps50
  go_wp2
  go_loopw [5] (fun i wr => ∃ k n : Nat, k ≤ len ∧ i = .int .i64 k ∧ wr = w.drewN n ∧ Hid (xs.take k = ys.take k)) (fun i _ => len - (intOf i).toNat)
  case atStart => exact ⟨0, 0, Nat.zero_le _, rfl, rfl, rfl⟩
  case round =>
   obtain ⟨k, n, hk, rfl, rfl, HA⟩ := hrel
   by_cases aM : k < len
   ·obtain ⟨b, off, rfl, hb, hc⟩ := H.out.2 k aM
    obtain ⟨b', iI, rfl, X1, p6⟩ := H'.out.2 k aM; obtain ⟨x, hx⟩ : ∃ x, x = xs.getD k 0 := ⟨_, rfl⟩; obtain ⟨y, hy⟩ : ∃ y, y = ys.getD k 0 := ⟨_, rfl⟩; rw [← hx] at hc; rw [← hy] at p6; have HX := aRp hx; have HY := aRp hy; have hki : (k : Int) < (len : Int) := by omega
    clear hx hy
    by_cases e : x = y
    ·subst e
     have HS : Hid (xs.take (k + 1) = ys.take (k + 1)) := aEj (by rw [hL.out]; exact aM) (by rw [hL'.out]; exact aM) HA.out (by rw [← HX.out, ← HY.out])
     go_wp2
     go_quiet (fail)
     go_wp2
     go_roundw
     case rel => exact ⟨k + 1, n + nq, by omega, by go_num, rfl, HS⟩
     case measure => simp [intOf]; omega
    ·have bI : (x != y) = true := by simpa using e
     have HV : Hid (decide (xs = ys) = false) := decide_eq_false (aMd (k := k) (by rw [← HX.out, ← HY.out]; exact e))
     clear e; go_wp2
     go_quiet (fail)
     go_wp2
     go_ret
     exact ⟨jB HV.out.symm, n + nq, World.drewN_drewN ..⟩
   ·have HV : Hid (decide (xs = ys) = true) := decide_eq_true (by
     have := HA.out
     rwa [List.take_of_length_le (by have := hL.out; omega), List.take_of_length_le (by have := hL'.out; omega)] at this)
    go_wp2
    go_ret
    exact ⟨jB HV.out.symm, n, rfl⟩
 ·have bI : ((len : Int) != (lW : Int)) = true := by simp; omega
  have HV : Hid (decide (xs = ys) = false) := decide_eq_false (fun e => hn (by rw [← hL.out, ← hL'.out, e]))
  go_enter Tryz.func50, Tryz.ntmps50
  go_wp2
  go_ret
  exact ⟨jB HV.out.symm, 0, rfl⟩
instance : DecidableEq aA := fun a b => by
 obtain ⟨a0, a1, a2, a3, a4, a5, a6, a7⟩ := a
 obtain ⟨b0, b1, b2, b3, b4, b5, b6, b7⟩ := b
 rw [aA.mk.injEq]
 exact inferInstance
theorem aM1 {a b : aA} (h0 : a.dev = b.dev) (h1 : a.seq = b.seq) (h2 : a.stamp = b.stamp) (h3 : a.kind = b.kind) (h4 : a.item.toList = b.item.toList) (h5 : a.qty = b.qty) (h6 : a.level = b.level) (h7 : a.undos = b.undos) : a = b := by
 obtain ⟨a0, a1, a2, a3, a4, a5, a6, a7⟩ := a
 obtain ⟨b0, b1, b2, b3, b4, b5, b6, b7⟩ := b
 have g4 := aCV h4
 clear h4
 simp only at h0 h1 h2 h3 g4 h5 h6 h7
 subst h0 h1 h2 h3 g4 h5 h6 h7
 rfl
def aDB (a b : aA) : Bool := a.dev == b.dev && (a.seq == b.seq && (a.stamp == b.stamp && (a.kind == b.kind && (a.item.toList == b.item.toList && (a.qty == b.qty && (a.level == b.level && a.undos == b.undos))))))
theorem full_of {a b : aA} (h0 : a.dev = b.dev) (h1 : a.seq = b.seq) (h2 : a.stamp = b.stamp) (h3 : a.kind = b.kind) (h4 : a.item.toList = b.item.toList) (h5 : a.qty = b.qty) (h6 : a.level = b.level) (h7 : a.undos = b.undos) : aDB a b = true := by
 unfold aDB
 simp only [Bool.and_eq_true, beq_iff_eq]
 exact ⟨h0, h1, h2, h3, h4, h5, h6, h7⟩
theorem aMl {a b : aA} (h : a ≠ b) : aDB a b = false := by
 rw [Bool.eq_false_iff]
 intro e
 unfold aDB at e
 simp only [Bool.and_eq_true, beq_iff_eq] at e
 obtain ⟨h0, h1, h2, h3, h4, h5, h6, h7⟩ := e
 exact h (aM1 h0 h1 h2 h3 h4 h5 h6 h7)
theorem aFK {xs ys : List aA} {k : Nat} (hx : k < xs.length) (hy : k < ys.length) (h : xs.take k = ys.take k) (e : aB xs k = aB ys k) : xs.take (k + 1) = ys.take (k + 1) := by
 unfold aB at e
 rw [List.getD_eq_getElem?_getD, List.getD_eq_getElem?_getD, List.getElem?_eq_getElem hx, List.getElem?_eq_getElem hy] at e
 have e : xs[k] = ys[k] := e
 rw [List.take_succ_eq_append_getElem hx, List.take_succ_eq_append_getElem hy, h, e]
theorem aM2 {xs ys : List aA} {k : Nat} (e : aB xs k ≠ aB ys k) : xs ≠ ys := fun h => e (by rw [h])
def aOO (xs ys : List aA) (w : World) (e : Ending) (w' : World) : Prop := e = .returned (.bool (decide (xs = ys))) ∧ Below w.heap.size w w'
set_option maxHeartbeats 20000000 in
theorem aLM (w : World) (B B' : Nat) (a a' : Option Addr) (len cap lW fB : Nat) (xs ys : List aA) (h : bR w B a len xs) (h' : bR w B' a' lW ys) (hB : B ≤ w.heap.size) (hB' : B' ≤ w.heap.size) (hl : len ≤ 1048576) (hl' : lW ≤ 1048576) :
  Calls Tryz.prog 33 #[.slice a len cap, .slice a' lW fB] w (aOO xs ys w) := by
 have hL := aRp h.1
 have hL' := aRp h'.1
 have H := aRp h
 have H' := aRp h'
 clear h h'
 by_cases hn : len = lW
 ·subst hn
  go_enter Tryz.func33, Tryz.ntmps33
  go_wp2
  go_loopw [5] (fun i wr => ∃ k : Nat, k ≤ len ∧ i = .int .i64 k ∧ Hid (Below w.heap.size w wr) ∧ Hid (xs.take k = ys.take k)) (fun i _ => len - (intOf i).toNat)
  case atStart => exact ⟨0, Nat.zero_le _, rfl, Below.refl _ _, rfl⟩
  case round =>
   obtain ⟨k, hk, rfl, HB, HA⟩ := hrel
   by_cases aM : k < len
   ·obtain ⟨b, off, rfl, hb, hc⟩ := (H.out.below HB.out hB).2 k aM
    obtain ⟨b', iI, rfl, X1, p6⟩ := (H'.out.below HB.out hB').2 k aM; have hx : rD wr b (off + k * 8) (aB xs k) := hc; have hy : rD wr b' (iI + k * 8) (aB ys k) := p6; have HS : Hid (aB xs k = aB ys k → xs.take (k + 1) = ys.take (k + 1)) := fun e => aFK (by rw [hL.out]; exact aM) (by rw [hL'.out]; exact aM) HA.out e
    have HN : Hid (aB xs k ≠ aB ys k → decide (xs = ys) = false) := fun e => decide_eq_false (aM2 e)
    clear hc p6; generalize aB xs k = x at hx HS HN; generalize aB ys k = y at hy HS HN; obtain ⟨d0, d1, d2, d3, d4, d5, d6, d7⟩ := hx; obtain ⟨e0, e1, e2, e3, e4, e5, e6, e7⟩ := hy; have hki : (k : Int) < (len : Int) := by omega
    by_cases e : x = y
    ·subst e
     have HS1 := aRp (HS.out rfl); go_wp2
     go_region
     go_wp2
     go_roundw
     case rel => exact ⟨k + 1, by omega, by go_num, HB.out.drew, HS1⟩
     case measure => simp [intOf]; omega
    ·have HV := aRp (HN.out e)
     have HF := aRp (aMl e); clear e
     --DRAWN
     have hS : wr.drew.cell? ⟨b, off + k * 8, none⟩ = some (.int .i64 x.dev) ∧ wr.drew.cell? ⟨b, off + k * 8 + 1, none⟩ = some (.int .i64 x.seq) ∧ wr.drew.cell? ⟨b, off + k * 8 + 2, none⟩ = some (.int .i64 x.stamp) ∧ wr.drew.cell? ⟨b, off + k * 8 + 3, none⟩ = some (.int .i64 x.kind) ∧ wr.drew.cell? ⟨b, off + k * 8 + 4, none⟩ = some (.string x.item) ∧ wr.drew.cell? ⟨b, off + k * 8 + 5, none⟩ = some (.int .i64 x.qty) ∧ wr.drew.cell? ⟨b, off + k * 8 + 6, none⟩ = some (.int .i64 x.level) ∧ wr.drew.cell? ⟨b, off + k * 8 + 7, none⟩ = some (.int .i64 x.undos) ∧ wr.drew.cell? ⟨b', iI + k * 8, none⟩ = some (.int .i64 y.dev) ∧ wr.drew.cell? ⟨b', iI + k * 8 + 1, none⟩ = some (.int .i64 y.seq) ∧ wr.drew.cell? ⟨b', iI + k * 8 + 2, none⟩ = some (.int .i64 y.stamp) ∧ wr.drew.cell? ⟨b', iI + k * 8 + 3, none⟩ = some (.int .i64 y.kind) ∧ wr.drew.cell? ⟨b', iI + k * 8 + 4, none⟩ = some (.string y.item) ∧ wr.drew.cell? ⟨b', iI + k * 8 + 5, none⟩ = some (.int .i64 y.qty) ∧ wr.drew.cell? ⟨b', iI + k * 8 + 6, none⟩ = some (.int .i64 y.level) ∧ wr.drew.cell? ⟨b', iI + k * 8 + 7, none⟩ = some (.int .i64 y.undos) := ⟨d0, d1, d2, d3, d4, d5, d6, d7, e0, e1, e2, e3, e4, e5, e6, e7⟩
     go_wp2_with fail
     refine wp_region_held_drew (S := fun w' => w'.cell? ⟨b, off + k * 8, none⟩ = some (.int .i64 x.dev) ∧ w'.cell? ⟨b, off + k * 8 + 1, none⟩ = some (.int .i64 x.seq) ∧ w'.cell? ⟨b, off + k * 8 + 2, none⟩ = some (.int .i64 x.stamp) ∧ w'.cell? ⟨b, off + k * 8 + 3, none⟩ = some (.int .i64 x.kind) ∧ w'.cell? ⟨b, off + k * 8 + 4, none⟩ = some (.string x.item) ∧ w'.cell? ⟨b, off + k * 8 + 5, none⟩ = some (.int .i64 x.qty) ∧ w'.cell? ⟨b, off + k * 8 + 6, none⟩ = some (.int .i64 x.level) ∧ w'.cell? ⟨b, off + k * 8 + 7, none⟩ = some (.int .i64 x.undos) ∧ w'.cell? ⟨b', iI + k * 8, none⟩ = some (.int .i64 y.dev) ∧ w'.cell? ⟨b', iI + k * 8 + 1, none⟩ = some (.int .i64 y.seq) ∧ w'.cell? ⟨b', iI + k * 8 + 2, none⟩ = some (.int .i64 y.stamp) ∧ w'.cell? ⟨b', iI + k * 8 + 3, none⟩ = some (.int .i64 y.kind) ∧ w'.cell? ⟨b', iI + k * 8 + 4, none⟩ = some (.string y.item) ∧ w'.cell? ⟨b', iI + k * 8 + 5, none⟩ = some (.int .i64 y.qty) ∧ w'.cell? ⟨b', iI + k * 8 + 6, none⟩ = some (.int .i64 y.level) ∧ w'.cell? ⟨b', iI + k * 8 + 7, none⟩ = some (.int .i64 y.undos)) (by kernel_rfl) hS (fun aO => ?_)
     refine tk 0 ⟨some 17, .move (.tmp 0), 25, "laws.go:39", #[], none⟩ ?_
     (try simp only [Act.put, u1, u2, u3])
     refine tk 1 ⟨some 18, .move (.tmp 5), 3, "laws.go:39", #[], none⟩ ?_
     (try simp only [Act.put, u1, u2, u3])
     refine tk 2 ⟨some 19, .indexAddr 25 (.tmp 17) (.tmp 18), 0, "laws.go:39", #[⟨0, .data⟩, ⟨1, .data⟩], none⟩ ?_
     (try simp only [Act.put, u1, u2, u3])
     refine tk 3 ⟨some 20, .load 50 (.tmp 19), 50, "laws.go:39", #[⟨2, .data⟩], none⟩ ?_
     (try simp only [Act.put, u1, u2, u3])
     refine tk 4 ⟨some 21, .move (.tmp 1), 25, "laws.go:39", #[], none⟩ ?_
     (try simp only [Act.put, u1, u2, u3])
     refine tk 5 ⟨some 22, .move (.tmp 5), 3, "laws.go:39", #[], none⟩ ?_
     (try simp only [Act.put, u1, u2, u3])
     refine tk 6 ⟨some 23, .indexAddr 25 (.tmp 21) (.tmp 22), 0, "laws.go:39", #[⟨4, .data⟩, ⟨5, .data⟩], none⟩ ?_
     (try simp only [Act.put, u1, u2, u3])
     refine tk 7 ⟨some 24, .load 50 (.tmp 23), 50, "laws.go:39", #[⟨6, .data⟩], none⟩ ?_
     (try simp only [Act.put, u1, u2, u3])
     refine wpAnyH_take (i := 8) (oi := ⟨some 25, .binOp .neq 50 (.tmp 20) (.tmp 24) 50, 4, "laws.go:39", #[⟨3, .data⟩, ⟨7, .data⟩], none⟩) (v := .bool true) rfl (by kernel_rfl) (by kernel_rfl) (by kernel_rfl) (fun _ _ _ h => h) (Or.inl ⟨by rfl, ?_⟩) (by assumption) ?_
     ·intro w hSw
      (try dsimp only at hSw)
      obtain ⟨c0, c1, c2, c3, c4, c5, c6, c7, g0, g1, g2, g3, g4, g5, g6, g7⟩ := hSw
      go_simp
      intros
      intro aK4
      exact absurd (full_of (a := x) (b := y) (by assumption) (by assumption) (by assumption) (by assumption) (by first | assumption | exact congrArg ByteArray.toList (by assumption)) (by assumption) (by assumption) (by assumption)) (by rw [HF.out]; decide)
     (try simp only [Act.put, u1, u2, u3])
     refine wpAnyH_done (by kernel_rfl) ?_ _
     clear hS d0 d1 d2 d3 d4 d5 d6 d7 e0 e1 e2 e3 e4 e5 e6 e7; go_wp2
     go_ret
     exact ⟨jB HV.out.symm, HB.out.drew⟩
   ·have HV : Hid (decide (xs = ys) = true) := decide_eq_true (by
     have := HA.out
     rwa [List.take_of_length_le (by have := hL.out; omega), List.take_of_length_le (by have := hL'.out; omega)] at this)
    go_wp2
    go_ret
    exact ⟨jB HV.out.symm, HB.out⟩
 ·have bI : ((len : Int) != (lW : Int)) = true := by simp; omega
  have HV : Hid (decide (xs = ys) = false) := decide_eq_false (fun e => hn (by rw [← hL.out, ← hL'.out, e]))
  go_enter Tryz.func33, Tryz.ntmps33
  go_wp2
  go_ret
  exact ⟨jB HV.out.symm, Below.refl _ _⟩
set_option maxHeartbeats 20000000 in
theorem mV (w : World) (B : Nat) (av ao bv bo : Option Addr) (nv cv no co mv dv mo eo : Nat) (xs : List Int) (l : List aA) (ys : List Int) (m : List aA) (hx : Ints w B av nv xs) (h : bR w B ao no l) (hy : Ints w B bv mv ys) (g : bR w B bo mo m) (hB : B ≤ w.heap.size) (hv : nv ≤ 1048576) (hn : no ≤ 1048576) (yL : mv ≤ 1048576) (yO : mo ≤ 1048576) :
  Calls Tryz.prog 20 #[.agg #[.slice av nv cv, .slice ao no co], .agg #[.slice bv mv dv, .slice bo mo eo]] w fun e w' => e = .returned (.bool (decide (xs = ys) && decide (l = m))) ∧ Below w.heap.size w w' := by
 have hT := sW.mk0 w #[.slice av nv cv, .slice ao no co] #[.slice bv mv dv, .slice bo mo eo] 27
 have HV := aRp (hx.below hT.bel hB)
 have HO := aRp (h.below hT.bel hB)
 have HY := aRp (hy.below hT.bel hB)
 have HG := aRp (g.below hT.bel hB)
 have HT := aRp hT
 clear hx h hy g hT
 go_enter Tryz.func20, Tryz.ntmps20
 go_wp2_with fail
 generalize (w.alloc (.cells #[.slice av nv cv, .slice ao no co] 27)).alloc (.cells #[.slice bv mv dv, .slice bo mo eo] 27) = w0 at HV HO HY HG HT ⊢
 obtain ⟨a0, a1⟩ := pair_cells HT.out.fst
 obtain ⟨b0, b1⟩ := pair_cells HT.out.snd
 have lC := HT.out.bel.size
 refine (aHX w0 B B av bv nv cv mv dv xs ys HV.out HY.out hv yL).mono ?_
 rintro e w1 ⟨rfl, dQ⟩
 have aF := dQ.below w0.heap.size
 have cV := aRp (HO.out.below aF (by omega))
 have tA := aRp (HG.out.below aF (by omega))
 have aR := aRp (HT.out.next aF)
 have eL := aF.size
 clear dQ aF HV HO HY HG HT a0 a1 b0 b1
 obtain ⟨p, hp⟩ : ∃ p, decide (xs = ys) = p := ⟨_, rfl⟩
 have HP := aRp hp
 rw [hp]
 clear hp
 cases p
 ·have HB := aRp aR.out.bel
  go_wp2
  go_ret
  exact ⟨by rw [HP.out]; rfl, HB.out⟩
 obtain ⟨a0, a1⟩ := pair_cells aR.out.fst
 obtain ⟨b0, b1⟩ := pair_cells aR.out.snd
 go_wp2_with fail
 refine (aLM w1 B B ao bo no co mo eo l m cV.out tA.out (by omega) (by omega) hn yO).mono ?_
 rintro e w2 ⟨rfl, aI⟩
 have HB := aRp (aR.out.bel.trans (aI.mono aR.out.bel.size))
 clear aI
 obtain ⟨q, hq⟩ : ∃ q, decide (l = m) = q := ⟨_, rfl⟩
 have HQ := aRp hq
 rw [hq]
 clear hq
 cases q
 all_goals
  go_wp2
  go_ret
  exact ⟨by rw [HP.out, HQ.out]; rfl, HB.out⟩
end Go.Proofs.YthkagbnpcjidfaaGreatDoor
