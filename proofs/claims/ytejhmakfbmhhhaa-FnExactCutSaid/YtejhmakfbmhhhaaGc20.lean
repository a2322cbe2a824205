/- Walks and mathematics that several claims share, part 20. -/
import Derived.Test.YtejhmakfbmhhhaaGc18
import Derived.Test.YtejhmakfbmhhhaaGc17
import Derived.Test.YtejhmakfbmhhhaaGc9
import Derived.Maps.OwnSet
import Derived.DeepKeys4
import Derived.Lib.MinMax
import Derived.Deep.Cut
import Derived.Deep.RegionHeld3
namespace Go.Proofs.Ytejhmakfbmhhhaa
open Go.RowKit
open Go.Maps (Keyed)

set_option maxRecDepth 100000 in
theorem nameLaid : laidOutB Try.prog = true := by kernel_rfl
set_option maxRecDepth 100000 in
theorem nameWide : (match Try.prog.underlying 87 with | some (.array _ _) | some (.struct _) => true | _ => false) = true := by kernel_rfl
set_option maxRecDepth 100000 in
theorem nameKeyed : Keyed Try.prog 87 := Keyed.of_law (deep_law_laid nameLaid (m := 2) (by omega) (of_decide_eq_true (by kernel_rfl)) (by kernel_rfl) nameWide)
def nameV (d s : Int) : Value := .agg #[.int .i64 d, .int .i64 s]
set_option maxRecDepth 100000 in
theorem nameType : Try.prog.keyType 87 = true := by kernel_rfl
set_option maxRecDepth 100000 in
theorem nameCells : Try.prog.cellsOf 87 = 2 := by kernel_rfl
set_option maxRecDepth 100000 in
theorem intCells : Try.prog.cellsOf 2 = 1 := by kernel_rfl
set_option maxRecDepth 100000 in
theorem nameSize : ∃ m, Try.prog.types.size = m + 1 := ⟨Try.prog.types.size - 1, by have : 0 < Try.prog.types.size := of_decide_eq_true (by kernel_rfl); omega⟩
set_option maxRecDepth 100000 in
theorem name_key {d s : Int} (hd : (Lit.int .i64 d).wf = true) (hs : (Lit.int .i64 s).wf = true) : ∃ kl, keyOf Try.prog 87 (nameV d s) = some kl := by
  obtain ⟨m, hm⟩ := nameSize
  have hf : (nameV d s).formed Try.prog 87 = true := by simp [nameV, Value.formed, Try.underlying87, nameCells]
  have hl : ∃ ls, Try.prog.keyLits (Try.prog.types.size + 1) 87 (nameV d s).cells.toList = some ls := by
    rw [hm]
    simp [Program.keyLits, Try.underlying87, Try.underlying2, nameV, Value.cells, nameCells, intCells, hd, hs]
  obtain ⟨ls, hls⟩ := hl
  exact ⟨.string (keyBytes ls), by unfold keyOf; rw [Try.underlying87]; simp only [nameType, hf, hls, Bool.and_self, if_true, Option.map_some]⟩
noncomputable def keyN (d s : Int) : Lit := (keyOf Try.prog 87 (nameV d s)).getD (.bool false)
def Fit2 (d s : Int) : Prop := (Lit.int .i64 d).wf = true ∧ (Lit.int .i64 s).wf = true
set_option maxRecDepth 100000 in
theorem key_is {d s : Int} (h : Fit2 d s) : keyOf Try.prog 87 (nameV d s) = some (keyN d s) := by
  obtain ⟨kl, e⟩ := name_key h.1 h.2
  unfold keyN
  rw [e]
  rfl
set_option maxRecDepth 100000 in
theorem key_inj {d s d' s' : Int} (h : Fit2 d s) (h' : Fit2 d' s') (e : keyN d s = keyN d' s') : d = d' ∧ s = s' := by
  have h1 := key_is h
  rw [e] at h1
  have h2 := nameKeyed.inj h1 (key_is h')
  unfold nameV at h2
  injection h2 with h3
  simp only [Array.mk.injEq, List.cons.injEq, Value.int.injEq] at h3
  exact ⟨h3.1.2, h3.2.1.2⟩
set_option maxRecDepth 100000 in
theorem key_lit {d s : Int} (h : Fit2 d s) : WideAt.IsKeyLit (keyN d s) := nameKeyed.key (key_is h)

def opD (o : OpV) : DataW Unit := .agg [.lit (.int .i64 o.dev), .lit (.int .i64 o.seq), .lit (.int .i64 o.stamp), .lit (.int .i64 o.kind), .lit (.string o.item.data.toList), .lit (.int .i64 o.qty), .lit (.int .i64 o.level), .lit (.int .i64 o.undos)]
/-- How an operation reads as a map's element. -/
def opElem : Value → Option (DataW Unit × List MemPlace)
  | .agg ⟨[.int .i64 a, .int .i64 b, .int .i64 c, .int .i64 d, .string e, .int .i64 f, .int .i64 g, .int .i64 h]⟩ => some (opD ⟨a, b, c, d, e, f, g, h⟩, [])
  | _ => none
set_option maxRecDepth 100000 in
theorem opElem_mk (o : OpV) : opElem (opVal o) = some (opD o, []) := rfl
/-- Block b is a map of at most n operations that has f d s under the device d and the number s. -/
def SetIs (w : World) (b n : Nat) (f : Int → Int → Option OpV) : Prop :=
  ∃ D, w.ownsMap Try.prog 87 opElem b n D ∧ ∀ d s, Fit2 d s → Maps.has D (keyN d s) = (f d s).isSome ∧ D.atKey (keyN d s) (opD OpV.zero) = opD ((f d s).getD OpV.zero)
set_option maxRecDepth 100000 in
theorem SetIs.mono {w : World} {b n n' : Nat} {f : Int → Int → Option OpV} (h : SetIs w b n f) (hn : n ≤ n') : SetIs w b n' f := by
  obtain ⟨D, h1, h2⟩ := h
  exact ⟨D, h1.mono hn, h2⟩
set_option maxRecDepth 100000 in
theorem SetIs.kept {w w' : World} {b n : Nat} {f : Int → Int → Option OpV} (h : SetIs w b n f) (hb : w'.heap[b]? = w.heap[b]?) : SetIs w' b n f := by
  obtain ⟨D, ⟨es, clock, h0, r⟩, h2⟩ := h
  exact ⟨D, ⟨es, clock, hb.trans h0, r⟩, h2⟩
set_option maxRecDepth 100000 in
theorem SetIs.lt {w : World} {b n : Nat} {f : Int → Int → Option OpV} (h : SetIs w b n f) : b < w.heap.size := by
  obtain ⟨D, h1, _⟩ := h
  exact h1.lt
set_option maxRecDepth 100000 in
theorem SetIs.below {w w' : World} {b n : Nat} {f : Int → Int → Option OpV} (h : SetIs w b n f) (hb : Below w.heap.size w w') : SetIs w' b n f := h.kept (hb.block _ h.lt)
def putF (f : Int → Int → Option OpV) (x : OpV) : Int → Int → Option OpV := fun d s => if d = x.dev ∧ s = x.seq then some x else f d s
set_option maxRecDepth 100000 in
theorem SetIs.put {w : World} {b n : Nat} {f : Int → Int → Option OpV} (h : SetIs w b n f) (hn : n < maxLen) (x : OpV) (hx : Fit2 x.dev x.seq) :
    ∃ w', (Instr.mapUpdate 83 (.map (some b)) (nameV x.dev x.seq) (opVal x)).run Try.prog w = .ok () w' ∧ SetIs w' b (n + 1) (putF f x) ∧ w.grownBy w' (some b) := by
  obtain ⟨D, h1, h2⟩ := h
  obtain ⟨w', e, h3, h4⟩ := h1.update nameKeyed Try.underlying83 hn (key_is hx) (opElem_mk x)
  refine ⟨w', e, ⟨_, h3, fun d s hf => ?_⟩, h4⟩
  unfold putF
  by_cases hds : d = x.dev ∧ s = x.seq
  · obtain ⟨rfl, rfl⟩ := hds
    rw [if_pos ⟨rfl, rfl⟩]
    exact ⟨Maps.has_put_same h1.isMap (key_lit hx) _, Maps.atKey_put_same h1.isMap (key_lit hx) _ _⟩
  · rw [if_neg hds]
    have hne : keyN d s ≠ keyN x.dev x.seq := fun e => hds (key_inj hf hx e)
    rw [Maps.has_put_other hne, Maps.atKey_put_other hne]
    exact h2 d s hf
end Go.Proofs.Ytejhmakfbmhhhaa

namespace Go.Proofs.Ytejhmakfbmhhhaa
open Go.RowKit

def OpV.with (o : OpV) (u : Int) : OpV := ⟨o.dev, o.seq, o.stamp, o.kind, o.item, o.qty, o.level, u⟩
end Go.Proofs.Ytejhmakfbmhhhaa

namespace Go.Proofs.Ytejhmakfbmhhhaa
open Go.RowKit


end Go.Proofs.Ytejhmakfbmhhhaa

namespace Go.Proofs.Ytejhmakfbmhhhaa
open Go.RowKit

end Go.Proofs.Ytejhmakfbmhhhaa

namespace Go.Proofs.Ytejhmakfbmhhhaa
open Go.RowKit

end Go.Proofs.Ytejhmakfbmhhhaa

namespace Go.Proofs.Ytejhmakfbmhhhaa
open Go.RowKit

end Go.Proofs.Ytejhmakfbmhhhaa
