/- Walks and mathematics that several claims share, part 32. -/
import Derived.Test.YtjokbaaommicmaaGreatDoorGb29
import Derived.Test.YtjokbaaommicmaaGreatDoorGb27
import Derived.Test.YtjokbaaommicmaaGreatDoorGb16
import Derived.Maps.OwnSet
import Derived.DeepKeys4
import Derived.Lib.MinMax
import Derived.Deep.Cut
import Derived.Deep.RegionHeld3
import Derived.Test.YtjokbaaommicmaaGreatDoorGbA
namespace Go.Proofs.YtjokbaaommicmaaGreatDoor
set_option maxRecDepth 100000
open Go.RowKit
open Go.Maps (Keyed)

theorem nameLaid : laidOutB Tryz.prog = true := by kernel_rfl
theorem nameWide : (match Tryz.prog.underlying 96 with | some (.array _ _) | some (.struct _) => true | _ => false) = true := by kernel_rfl
theorem nameKeyed : Keyed Tryz.prog 96 := Keyed.of_law (deep_law_laid nameLaid (m := 2) (by omega) (of_decide_eq_true (by kernel_rfl)) (by kernel_rfl) nameWide)
def nameV (d s : Int) : Value := .agg #[.int .i64 d, .int .i64 s]
theorem nameType : Tryz.prog.keyType 96 = true := by kernel_rfl
theorem nameCells : Tryz.prog.cellsOf 96 = 2 := by kernel_rfl
theorem intCells : Tryz.prog.cellsOf 2 = 1 := by kernel_rfl
theorem nameSize : ∃ m, Tryz.prog.types.size = m + 1 := ⟨Tryz.prog.types.size - 1, by have : 0 < Tryz.prog.types.size := of_decide_eq_true (by kernel_rfl); omega⟩
theorem name_key {d s : Int} (hd : (Lit.int .i64 d).wf = true) (hs : (Lit.int .i64 s).wf = true) : ∃ kl, keyOf Tryz.prog 96 (nameV d s) = some kl := by
 obtain ⟨m, hm⟩ := nameSize
 have hf : (nameV d s).formed Tryz.prog 96 = true := by simp [nameV, Value.formed, Tryz.underlying96, nameCells]
 have hl : ∃ ls, Tryz.prog.keyLits (Tryz.prog.types.size + 1) 96 (nameV d s).cells.toList = some ls := by
  rw [hm]
  simp [Program.keyLits, Tryz.underlying96, Tryz.underlying2, nameV, Value.cells, nameCells, intCells, hd, hs]
 obtain ⟨ls, hls⟩ := hl
 exact ⟨.string (keyBytes ls), by unfold keyOf; rw [Tryz.underlying96]; simp only [nameType, hf, hls, Bool.and_self, if_true, Option.map_some]⟩
noncomputable def keyN (d s : Int) : Lit := (keyOf Tryz.prog 96 (nameV d s)).getD (.bool false)
def Fit2 (d s : Int) : Prop := (Lit.int .i64 d).wf = true ∧ (Lit.int .i64 s).wf = true
theorem key_is {d s : Int} (h : Fit2 d s) : keyOf Tryz.prog 96 (nameV d s) = some (keyN d s) := by
 obtain ⟨kl, e⟩ := name_key h.1 h.2
 unfold keyN
 rw [e]
 rfl
theorem key_inj {d s d' s' : Int} (h : Fit2 d s) (h' : Fit2 d' s') (e : keyN d s = keyN d' s') : d = d' ∧ s = s' := by
 have h1 := key_is h
 rw [e] at h1
 have h2 := nameKeyed.inj h1 (key_is h')
 unfold nameV at h2
 injection h2 with h3
 simp only [Array.mk.injEq, List.cons.injEq, Value.int.injEq] at h3
 exact ⟨h3.1.2, h3.2.1.2⟩
theorem key_lit {d s : Int} (h : Fit2 d s) : WideAt.IsKeyLit (keyN d s) := nameKeyed.key (key_is h)

def opD (o : OpV) : DataW Unit := .agg [.lit (.int .i64 o.dev), .lit (.int .i64 o.seq), .lit (.int .i64 o.stamp), .lit (.int .i64 o.kind), .lit (.string o.item.data.toList), .lit (.int .i64 o.qty), .lit (.int .i64 o.level), .lit (.int .i64 o.undos)]
/-- How an operation reads as a map's element. -/
def opElem : Value → Option (DataW Unit × List MemPlace)
 | .agg ⟨[.int .i64 a, .int .i64 b, .int .i64 c, .int .i64 d, .string e, .int .i64 f, .int .i64 g, .int .i64 h]⟩ => some (opD ⟨a, b, c, d, e, f, g, h⟩, [])
 | _ => none
theorem opElem_mk (o : OpV) : opElem (opVal o) = some (opD o, []) := rfl
theorem opD_inj {o o' : OpV} (h : opD o = opD o') : o = o' := by
 obtain ⟨a, b, c, d, e, f, g, i⟩ := o
 obtain ⟨a', b', c', d', e', f', g', i'⟩ := o'
 simp only [opD, DataW.agg.injEq, List.cons.injEq, DataW.lit.injEq, Lit.int.injEq, Lit.string.injEq, true_and, and_true] at h
 obtain ⟨rfl, rfl, rfl, rfl, h5, rfl, rfl, rfl⟩ := h
 have : e = e' := by
  obtain ⟨⟨x⟩⟩ := e
  obtain ⟨⟨y⟩⟩ := e'
  simp only at h5
  rw [h5]
 rw [this]
theorem opElem_inv {v : Value} {o : OpV} {ps : List MemPlace} (h : opElem v = some (opD o, ps)) : v = opVal o := by
 unfold opElem at h
 split at h
 ·rename_i a b c d e f g i
  simp only [Option.some.injEq, Prod.mk.injEq] at h
  rw [← opD_inj h.1]
  rfl
 ·cases h

/-- Block b is a map of at most n operations that has f d s under the device d and the number s. -/
def SetIs (w : World) (b n : Nat) (f : Int → Int → Option OpV) : Prop :=
 ∃ D, w.ownsMap Tryz.prog 96 opElem b n D ∧ ∀ d s, Fit2 d s → Maps.has D (keyN d s) = (f d s).isSome ∧ D.atKey (keyN d s) (opD OpV.zero) = opD ((f d s).getD OpV.zero)
theorem SetIs.mono {w : World} {b n n' : Nat} {f : Int → Int → Option OpV} (h : SetIs w b n f) (hn : n ≤ n') : SetIs w b n' f := by
 obtain ⟨D, h1, h2⟩ := h
 exact ⟨D, h1.mono hn, h2⟩
theorem SetIs.congr {w : World} {b n : Nat} {f g : Int → Int → Option OpV} (h : SetIs w b n f) (e : ∀ d s, Fit2 d s → g d s = f d s) : SetIs w b n g := by
 obtain ⟨D, h1, h2⟩ := h
 exact ⟨D, h1, fun d s hf => by rw [e d s hf]; exact h2 d s hf⟩
theorem SetIs.kept {w w' : World} {b n : Nat} {f : Int → Int → Option OpV} (h : SetIs w b n f) (hb : w'.heap[b]? = w.heap[b]?) : SetIs w' b n f := by
 obtain ⟨D, ⟨es, clock, h0, r⟩, h2⟩ := h
 exact ⟨D, ⟨es, clock, hb.trans h0, r⟩, h2⟩
theorem SetIs.lt {w : World} {b n : Nat} {f : Int → Int → Option OpV} (h : SetIs w b n f) : b < w.heap.size := by
 obtain ⟨D, h1, _⟩ := h
 exact h1.lt
theorem SetIs.below {w w' : World} {b n : Nat} {f : Int → Int → Option OpV} (h : SetIs w b n f) (hb : Below w.heap.size w w') : SetIs w' b n f := h.kept (hb.block _ h.lt)
def putF (f : Int → Int → Option OpV) (x : OpV) : Int → Int → Option OpV := fun d s => if d = x.dev ∧ s = x.seq then some x else f d s
theorem opZero (w : World) : (zeroValue 93).run Tryz.prog w = .ok (opVal OpV.zero) w := by kernel_rfl
theorem SetIs.put {w : World} {b n : Nat} {f : Int → Int → Option OpV} (h : SetIs w b n f) (hn : n < maxLen) (x : OpV) (hx : Fit2 x.dev x.seq) :
  ∃ w', (Instr.mapUpdate 90 (.map (some b)) (nameV x.dev x.seq) (opVal x)).run Tryz.prog w = .ok () w' ∧ SetIs w' b (n + 1) (putF f x) ∧ w.grownBy w' (some b) := by
 obtain ⟨D, h1, h2⟩ := h
 obtain ⟨w', e, h3, h4⟩ := h1.update nameKeyed Tryz.underlying90 hn (key_is hx) (opElem_mk x)
 refine ⟨w', e, ⟨_, h3, fun d s hf => ?_⟩, h4⟩
 unfold putF
 by_cases hds : d = x.dev ∧ s = x.seq
 ·obtain ⟨rfl, rfl⟩ := hds
  rw [if_pos ⟨rfl, rfl⟩]
  exact ⟨Maps.has_put_same h1.isMap (key_lit hx) _, Maps.atKey_put_same h1.isMap (key_lit hx) _ _⟩
 ·rw [if_neg hds]
  have hne : keyN d s ≠ keyN x.dev x.seq := fun e => hds (key_inj hf hx e)
  rw [Maps.has_put_other hne, Maps.atKey_put_other hne]
  exact h2 d s hf
theorem SetIs.look {w : World} {b n : Nat} {f : Int → Int → Option OpV} (h : SetIs w b n f) {d s : Int} (hx : Fit2 d s) :
  (Instr.lookup 90 (.map (some b)) (nameV d s) true).run Tryz.prog w = .ok (.tuple #[opVal ((f d s).getD OpV.zero), .bool (f d s).isSome]) w ∧ (Instr.lookup 90 (.map (some b)) (nameV d s) false).run Tryz.prog w = .ok (opVal ((f d s).getD OpV.zero)) w := by
 obtain ⟨D, h1, h2⟩ := h
 obtain ⟨g1, g2⟩ := h2 d s hx
 constructor
 ·obtain ⟨v, ps, e, hv⟩ := h1.look_ok nameKeyed Tryz.underlying90 (opZero w) (opElem_mk OpV.zero) (key_is hx)
  rw [g2] at hv
  rw [e, opElem_inv hv, g1]
 ·obtain ⟨v, ps, e, hv⟩ := h1.lookup nameKeyed Tryz.underlying90 (opZero w) (opElem_mk OpV.zero) (key_is hx)
  rw [g2] at hv
  rw [e, opElem_inv hv]
def OpV.with (o : OpV) (u : Int) : OpV := ⟨o.dev, o.seq, o.stamp, o.kind, o.item, o.qty, o.level, u⟩
theorem cart_has {ys : List Int} {m : List OpV} (h : cartB ys m = true) {d : Nat} (hd : d < 4) {s : Nat} (hs : (s : Int) < ys.getD d 0) : stOf ys d + s < m.length ∧ eqN m (stOf ys d + s) (d : Int) ((s : Int) + 1) := by
 obtain ⟨_, hdv, h4⟩ := cart_true h
 have hD := hdv d hd
 unfold devB at hD
 rw [Bool.and_eq_true] at hD
 have hR := hD.2
 unfold runB at hR
 rw [List.all_eq_true] at hR
 have hF := hR s (List.mem_range.2 (by omega))
 unfold fitB at hF
 simp only [Bool.and_eq_true, decide_eq_true_eq] at hF
 have hm := stOf_mono ys (d + 1) 4 (by omega)
 have e : stOf ys (d + 1) = stOf ys d + (ys.getD d 0).toNat := rfl
 exact ⟨by omega, hF.2.1, hF.2.2.1⟩
theorem ok_with {a : OpV} (h : a.ok = true) {u : Int} (h0 : 0 ≤ u) (h1 : u ≤ 50) : (a.with u).ok = true := by
 have h' : opB a.dev a.seq a.stamp a.kind a.item a.qty a.level a.undos = true := h
 show opB a.dev a.seq a.stamp a.kind a.item a.qty a.level u = true
 unfold opB headB at h' ⊢
 simp only [Bool.and_eq_true, inB_iff] at h' ⊢
 obtain ⟨⟨a1, a2, a3, a4, _⟩, a6⟩ := h'
 exact ⟨⟨a1, a2, a3, a4, h0, h1⟩, a6⟩
theorem fit_parts {l : List OpV} {d st s : Nat} (h : fitB l d st s = true) : (atOp l (st + s)).ok = true ∧ (atOp l (st + s)).dev = (d : Int) ∧ (atOp l (st + s)).seq = (s : Int) + 1 ∧ prevStamp l st s < (atOp l (st + s)).stamp := by
 unfold fitB at h
 simpa only [Bool.and_eq_true, decide_eq_true_eq] using h
end Go.Proofs.YtjokbaaommicmaaGreatDoor
