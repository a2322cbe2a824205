/- A map of operations, keyed by device and number. -/
import Derived.Test.YtjmilgijdfibbabLookW
import Derived.Test.YtjmilgijdfibbabCloneW
import Derived.Maps.OwnSet
import Derived.DeepKeys4
namespace Go.Proofs.Ytjmilgijdfibbab
open Go.RowKit
open Go.Maps (Keyed)

set_option maxRecDepth 100000 in
theorem nameLaid : laidOutB Try.prog = true := by kernel_rfl
set_option maxRecDepth 100000 in
theorem nameWide : (match Try.prog.underlying 68 with | some (.array _ _) | some (.struct _) => true | _ => false) = true := by kernel_rfl
set_option maxRecDepth 100000 in
theorem nameKeyed : Keyed Try.prog 68 := Keyed.of_law (deep_law_laid nameLaid (m := 2) (by omega) (of_decide_eq_true (by kernel_rfl)) (by kernel_rfl) nameWide)
def nameV (d s : Int) : Value := .agg #[.int .i64 d, .int .i64 s]
set_option maxRecDepth 100000 in
theorem nameType : Try.prog.keyType 68 = true := by kernel_rfl
set_option maxRecDepth 100000 in
theorem nameCells : Try.prog.cellsOf 68 = 2 := by kernel_rfl
set_option maxRecDepth 100000 in
theorem intCells : Try.prog.cellsOf 2 = 1 := by kernel_rfl
set_option maxRecDepth 100000 in
theorem nameSize : ∃ m, Try.prog.types.size = m + 1 := ⟨Try.prog.types.size - 1, by have : 0 < Try.prog.types.size := of_decide_eq_true (by kernel_rfl); omega⟩
set_option maxRecDepth 100000 in
theorem name_key {d s : Int} (hd : (Lit.int .i64 d).wf = true) (hs : (Lit.int .i64 s).wf = true) : ∃ kl, keyOf Try.prog 68 (nameV d s) = some kl := by
  obtain ⟨m, hm⟩ := nameSize
  have hf : (nameV d s).formed Try.prog 68 = true := by simp [nameV, Value.formed, Try.underlying68, nameCells]
  have hl : ∃ ls, Try.prog.keyLits (Try.prog.types.size + 1) 68 (nameV d s).cells.toList = some ls := by
    rw [hm]
    simp [Program.keyLits, Try.underlying68, Try.underlying2, nameV, Value.cells, nameCells, intCells, hd, hs]
  obtain ⟨ls, hls⟩ := hl
  exact ⟨.string (keyBytes ls), by unfold keyOf; rw [Try.underlying68]; simp only [nameType, hf, hls, Bool.and_self, if_true, Option.map_some]⟩
noncomputable def keyN (d s : Int) : Lit := (keyOf Try.prog 68 (nameV d s)).getD (.bool false)
def Fit2 (d s : Int) : Prop := (Lit.int .i64 d).wf = true ∧ (Lit.int .i64 s).wf = true
set_option maxRecDepth 100000 in
theorem fit2 {d s : Int} (h1 : 0 ≤ d) (h2 : d ≤ 1000) (h3 : 0 ≤ s) (h4 : s ≤ 1000) : Fit2 d s := ⟨WalkArith.wf_i64 (by omega), WalkArith.wf_i64 (by omega)⟩
set_option maxRecDepth 100000 in
theorem key_is {d s : Int} (h : Fit2 d s) : keyOf Try.prog 68 (nameV d s) = some (keyN d s) := by
  obtain ⟨kl, e⟩ := name_key h.1 h.2
  unfold keyN
  rw [e]
  rfl
set_option maxRecDepth 100000 in
theorem key_inj {d s d' s' : Int} (h : Fit2 d s) (h' : Fit2 d' s') (e : keyN d s = keyN d' s') : d = d' ∧ s = s' := by
  have h1 := key_is h
  rw [e] at h1
  have h2 := nameKeyed.inj h1 (key_is h')
  unfold nameV at h2
  injection h2 with h3
  simp only [Array.mk.injEq, List.cons.injEq, Value.int.injEq] at h3
  exact ⟨h3.1.2, h3.2.1.2⟩
set_option maxRecDepth 100000 in
theorem key_lit {d s : Int} (h : Fit2 d s) : WideAt.IsKeyLit (keyN d s) := nameKeyed.key (key_is h)

def opD (o : OpV) : DataW Unit := .agg [.lit (.int .i64 o.dev), .lit (.int .i64 o.seq), .lit (.int .i64 o.stamp), .lit (.int .i64 o.kind), .lit (.string o.item.data.toList), .lit (.int .i64 o.qty), .lit (.int .i64 o.level), .lit (.int .i64 o.undos)]
/-- How an operation reads as a map's element. -/
def opElem : Value → Option (DataW Unit × List MemPlace)
  | .agg ⟨[.int .i64 a, .int .i64 b, .int .i64 c, .int .i64 d, .string e, .int .i64 f, .int .i64 g, .int .i64 h]⟩ => some (opD ⟨a, b, c, d, e, f, g, h⟩, [])
  | _ => none
set_option maxRecDepth 100000 in
theorem opElem_mk (o : OpV) : opElem (opVal o) = some (opD o, []) := rfl
set_option maxRecDepth 100000 in
theorem opD_inj {o o' : OpV} (h : opD o = opD o') : o = o' := by
  obtain ⟨a, b, c, d, e, f, g, i⟩ := o
  obtain ⟨a', b', c', d', e', f', g', i'⟩ := o'
  simp only [opD, DataW.agg.injEq, List.cons.injEq, DataW.lit.injEq, Lit.int.injEq, Lit.string.injEq, true_and, and_true] at h
  obtain ⟨rfl, rfl, rfl, rfl, h5, rfl, rfl, rfl⟩ := h
  have : e = e' := by
    obtain ⟨⟨x⟩⟩ := e
    obtain ⟨⟨y⟩⟩ := e'
    simp only at h5
    rw [h5]
  rw [this]
set_option maxRecDepth 100000 in
theorem opElem_inv {v : Value} {o : OpV} {ps : List MemPlace} (h : opElem v = some (opD o, ps)) : v = opVal o := by
  unfold opElem at h
  split at h
  · rename_i a b c d e f g i
    simp only [Option.some.injEq, Prod.mk.injEq] at h
    rw [← opD_inj h.1]
    rfl
  · cases h

/-- Block b is a map of at most n operations that has f d s under the device d and the number s. -/
def SetIs (w : World) (b n : Nat) (f : Int → Int → Option OpV) : Prop :=
  ∃ D, w.ownsMap Try.prog 68 opElem b n D ∧ ∀ d s, Fit2 d s → Maps.has D (keyN d s) = (f d s).isSome ∧ D.atKey (keyN d s) (opD OpV.zero) = opD ((f d s).getD OpV.zero)
set_option maxRecDepth 100000 in
theorem setIs_made (w : World) : SetIs (w.alloc (.map #[] 0)) w.heap.size 0 (fun _ _ => none) :=
  ⟨_, World.ownsMap_made w _ _ _, fun _ _ _ => ⟨rfl, rfl⟩⟩
set_option maxRecDepth 100000 in
theorem SetIs.mono {w : World} {b n n' : Nat} {f : Int → Int → Option OpV} (h : SetIs w b n f) (hn : n ≤ n') : SetIs w b n' f := by
  obtain ⟨D, h1, h2⟩ := h
  exact ⟨D, h1.mono hn, h2⟩
set_option maxRecDepth 100000 in
theorem SetIs.congr {w : World} {b n : Nat} {f g : Int → Int → Option OpV} (h : SetIs w b n f) (e : ∀ d s, Fit2 d s → g d s = f d s) : SetIs w b n g := by
  obtain ⟨D, h1, h2⟩ := h
  exact ⟨D, h1, fun d s hf => by rw [e d s hf]; exact h2 d s hf⟩
set_option maxRecDepth 100000 in
theorem SetIs.kept {w w' : World} {b n : Nat} {f : Int → Int → Option OpV} (h : SetIs w b n f) (hb : w'.heap[b]? = w.heap[b]?) : SetIs w' b n f := by
  obtain ⟨D, ⟨es, clock, h0, r⟩, h2⟩ := h
  exact ⟨D, ⟨es, clock, hb.trans h0, r⟩, h2⟩
set_option maxRecDepth 100000 in
theorem SetIs.lt {w : World} {b n : Nat} {f : Int → Int → Option OpV} (h : SetIs w b n f) : b < w.heap.size := by
  obtain ⟨D, h1, _⟩ := h
  exact h1.lt
set_option maxRecDepth 100000 in
theorem SetIs.below {w w' : World} {b n : Nat} {f : Int → Int → Option OpV} (h : SetIs w b n f) (hb : Below w.heap.size w w') : SetIs w' b n f := h.kept (hb.block _ h.lt)
def putF (f : Int → Int → Option OpV) (x : OpV) : Int → Int → Option OpV := fun d s => if d = x.dev ∧ s = x.seq then some x else f d s
set_option maxRecDepth 100000 in
theorem opZero (w : World) : (zeroValue 66).run Try.prog w = .ok (opVal OpV.zero) w := by kernel_rfl
set_option maxRecDepth 100000 in
theorem SetIs.put {w : World} {b n : Nat} {f : Int → Int → Option OpV} (h : SetIs w b n f) (hn : n < maxLen) (x : OpV) (hx : Fit2 x.dev x.seq) :
    ∃ w', (Instr.mapUpdate 63 (.map (some b)) (nameV x.dev x.seq) (opVal x)).run Try.prog w = .ok () w' ∧ SetIs w' b (n + 1) (putF f x) ∧ w.grownBy w' (some b) := by
  obtain ⟨D, h1, h2⟩ := h
  obtain ⟨w', e, h3, h4⟩ := h1.update nameKeyed Try.underlying63 hn (key_is hx) (opElem_mk x)
  refine ⟨w', e, ⟨_, h3, fun d s hf => ?_⟩, h4⟩
  unfold putF
  by_cases hds : d = x.dev ∧ s = x.seq
  · obtain ⟨rfl, rfl⟩ := hds
    rw [if_pos ⟨rfl, rfl⟩]
    exact ⟨Maps.has_put_same h1.isMap (key_lit hx) _, Maps.atKey_put_same h1.isMap (key_lit hx) _ _⟩
  · rw [if_neg hds]
    have hne : keyN d s ≠ keyN x.dev x.seq := fun e => hds (key_inj hf hx e)
    rw [Maps.has_put_other hne, Maps.atKey_put_other hne]
    exact h2 d s hf
set_option maxRecDepth 100000 in
theorem SetIs.look {w : World} {b n : Nat} {f : Int → Int → Option OpV} (h : SetIs w b n f) {d s : Int} (hx : Fit2 d s) :
    (Instr.lookup 63 (.map (some b)) (nameV d s) true).run Try.prog w = .ok (.tuple #[opVal ((f d s).getD OpV.zero), .bool (f d s).isSome]) w ∧ (Instr.lookup 63 (.map (some b)) (nameV d s) false).run Try.prog w = .ok (opVal ((f d s).getD OpV.zero)) w := by
  obtain ⟨D, h1, h2⟩ := h
  obtain ⟨g1, g2⟩ := h2 d s hx
  constructor
  · obtain ⟨v, ps, e, hv⟩ := h1.look_ok nameKeyed Try.underlying63 (opZero w) (opElem_mk OpV.zero) (key_is hx)
    rw [g2] at hv
    rw [e, opElem_inv hv, g1]
  · obtain ⟨v, ps, e, hv⟩ := h1.lookup nameKeyed Try.underlying63 (opZero w) (opElem_mk OpV.zero) (key_is hx)
    rw [g2] at hv
    rw [e, opElem_inv hv]
set_option maxRecDepth 100000 in
theorem run_makeMap_n (w : World) (n : Nat) : (Instr.makeMap 63 (some (.int .i64 (n : Int)))).run Try.prog w = .ok (.map (some w.heap.size)) (w.alloc (.map #[] 0)) := by
  simp [Instr.makeMap, run_underlying Try.underlying63, asInt, asIntOf]
end Go.Proofs.Ytjmilgijdfibbab
