/- Walks and mathematics that several claims share, part 26. -/
import Derived.Test.YthkagbnpcjidfaaGreatDoorGy19
import Derived.Test.YthkagbnpcjidfaaGreatDoorGy14
import Derived.Test.YthkagbnpcjidfaaGreatDoorGy13
import Derived.Test.YthkagbnpcjidfaaGreatDoorGy8
import Derived.Test.YthkagbnpcjidfaaGreatDoorGy4
import Derived.Maps.OwnSet
import Derived.DeepKeys4
import Derived.Lib.MinMax
import Derived.Deep.Cut
import Derived.Deep.RegionHeld3
import Derived.Test.YthkagbnpcjidfaaGreatDoorGyA
namespace Go.Proofs.YthkagbnpcjidfaaGreatDoor
set_option maxRecDepth 100000
open Go.RowKit
set_option linter.unusedVariables false
set_option linter.unusedSimpArgs false
open Go.Maps (Keyed)

theorem aJm : laidOutB Tryz.prog = true := by kernel_rfl
theorem aJj : (match Tryz.prog.underlying 86 with | some (.array _ _) | some (.struct _) => true | _ => false) = true := by kernel_rfl
theorem zY : Keyed Tryz.prog 86 := Keyed.of_law (deep_law_laid aJm (m := 2) (by omega) (of_decide_eq_true (by kernel_rfl)) (by kernel_rfl) aJj)
def wJ (d s : Int) : Value := .agg #[.int .i64 d, .int .i64 s]
theorem aJk : Tryz.prog.keyType 86 = true := by kernel_rfl
theorem aC2 : Tryz.prog.cellsOf 86 = 2 := by kernel_rfl
theorem intCells : Tryz.prog.cellsOf 2 = 1 := by kernel_rfl
theorem aJl : ∃ m, Tryz.prog.types.size = m + 1 := ⟨Tryz.prog.types.size - 1, by have : 0 < Tryz.prog.types.size := of_decide_eq_true (by kernel_rfl); omega⟩
theorem aJi {d s : Int} (hd : (Lit.int .i64 d).wf = true) (hs : (Lit.int .i64 s).wf = true) : ∃ kl, keyOf Tryz.prog 86 (wJ d s) = some kl := by
 obtain ⟨m, hm⟩ := aJl
 have hf : (wJ d s).formed Tryz.prog 86 = true := by simp [wJ, Value.formed, Tryz.underlying86, aC2]
 have hl : ∃ ls, Tryz.prog.keyLits (Tryz.prog.types.size + 1) 86 (wJ d s).cells.toList = some ls := by
  rw [hm]; simp [Program.keyLits, Tryz.underlying86, Tryz.underlying2, wJ, Value.cells, aC2, intCells, hd, hs]
 obtain ⟨ls, jD⟩ := hl
 exact ⟨.string (keyBytes ls), by unfold keyOf; rw [Tryz.underlying86]; simp only [aJk, hf, jD, Bool.and_self, if_true, Option.map_some]⟩
noncomputable def U5 (d s : Int) : Lit := (keyOf Tryz.prog 86 (wJ d s)).getD (.bool false)
def aAp (d s : Int) : Prop := (Lit.int .i64 d).wf = true ∧ (Lit.int .i64 s).wf = true
theorem R7 {d s : Int} (h : aAp d s) : keyOf Tryz.prog 86 (wJ d s) = some (U5 d s) := by
 obtain ⟨kl, e⟩ := aJi h.1 h.2
 unfold U5
 rw [e]
 rfl
theorem key_inj {d s d' s' : Int} (h : aAp d s) (h' : aAp d' s') (e : U5 d s = U5 d' s') : d = d' ∧ s = s' := by
 have h1 := R7 h
 rw [e] at h1
 have h2 := zY.inj h1 (R7 h')
 unfold wJ at h2
 injection h2 with h3
 simp only [Array.mk.injEq, List.cons.injEq, Value.int.injEq] at h3
 exact ⟨h3.1.2, h3.2.1.2⟩
theorem aFQ {d s : Int} (h : aAp d s) : WideAt.IsKeyLit (U5 d s) := zY.key (R7 h)

def opD (o : aA) : DataW Unit := .agg [.lit (.int .i64 o.dev), .lit (.int .i64 o.seq), .lit (.int .i64 o.stamp), .lit (.int .i64 o.kind), .lit (.string o.item.data.toList), .lit (.int .i64 o.qty), .lit (.int .i64 o.level), .lit (.int .i64 o.undos)]
/-- How an operation reads as a map's element. -/
def aBu : Value → Option (DataW Unit × List MemPlace)
 | .agg ⟨[.int .i64 a, .int .i64 b, .int .i64 c, .int .i64 d, .string e, .int .i64 f, .int .i64 g, .int .i64 h]⟩ => some (opD ⟨a, b, c, d, e, f, g, h⟩, [])
 | _ => none
theorem l5 (o : aA) : aBu (aAv o) = some (opD o, []) := rfl
theorem aLT {o o' : aA} (h : opD o = opD o') : o = o' := by
 obtain ⟨a, b, c, d, e, f, g, i⟩ := o
 obtain ⟨a', b', c', d', e', f', g', i'⟩ := o'
 simp only [opD, DataW.agg.injEq, List.cons.injEq, DataW.lit.injEq, Lit.int.injEq, Lit.string.injEq, true_and, and_true] at h
 obtain ⟨rfl, rfl, rfl, rfl, h5, rfl, rfl, rfl⟩ := h
 have : e = e' := by
  obtain ⟨⟨x⟩⟩ := e; obtain ⟨⟨y⟩⟩ := e'; simp only at h5
  rw [h5]
 rw [this]
theorem aBt {v : Value} {o : aA} {ps : List MemPlace} (h : aBu v = some (opD o, ps)) : v = aAv o := by
 unfold aBu at h
 split at h
 ·rename_i a b c d e f g i
  simp only [Option.some.injEq, Prod.mk.injEq] at h
  rw [← aLT h.1]
  rfl
 ·cases h

/-- Block b is a map of at most n operations that has f d s under the device d and the number s. -/
def lA (w : World) (b n : Nat) (f : Int → Int → Option aA) : Prop :=
 ∃ D, w.ownsMap Tryz.prog 86 aBu b n D ∧ ∀ d s, aAp d s → Maps.has D (U5 d s) = (f d s).isSome ∧ D.atKey (U5 d s) (opD aA.zero) = opD ((f d s).getD aA.zero)
theorem lA.mono {w : World} {b n n' : Nat} {f : Int → Int → Option aA} (h : lA w b n f) (hn : n ≤ n') : lA w b n' f := by
 obtain ⟨D, h1, h2⟩ := h
 exact ⟨D, h1.mono hn, h2⟩
theorem lA.congr {w : World} {b n : Nat} {f g : Int → Int → Option aA} (h : lA w b n f) (e : ∀ d s, aAp d s → g d s = f d s) : lA w b n g := by
 obtain ⟨D, h1, h2⟩ := h
 exact ⟨D, h1, fun d s hf => by rw [e d s hf]; exact h2 d s hf⟩
theorem lA.kept {w w' : World} {b n : Nat} {f : Int → Int → Option aA} (h : lA w b n f) (hb : w'.heap[b]? = w.heap[b]?) : lA w' b n f := by
 obtain ⟨D, ⟨es, aBP, h0, r⟩, h2⟩ := h
 exact ⟨D, ⟨es, aBP, hb.trans h0, r⟩, h2⟩
theorem lA.lt {w : World} {b n : Nat} {f : Int → Int → Option aA} (h : lA w b n f) : b < w.heap.size := by
 obtain ⟨D, h1, _⟩ := h
 exact h1.lt
theorem lA.below {w w' : World} {b n : Nat} {f : Int → Int → Option aA} (h : lA w b n f) (hb : Below w.heap.size w w') : lA w' b n f := h.kept (hb.block _ h.lt)
def T9 (f : Int → Int → Option aA) (x : aA) : Int → Int → Option aA := fun d s => if d = x.dev ∧ s = x.seq then some x else f d s
theorem aHS (w : World) : (zeroValue 50).run Tryz.prog w = .ok (aAv aA.zero) w := by kernel_rfl
theorem lA.put {w : World} {b n : Nat} {f : Int → Int → Option aA} (h : lA w b n f) (hn : n < maxLen) (x : aA) (hx : aAp x.dev x.seq) :
  ∃ w', (Instr.mapUpdate 82 (.map (some b)) (wJ x.dev x.seq) (aAv x)).run Tryz.prog w = .ok () w' ∧ lA w' b (n + 1) (T9 f x) ∧ w.grownBy w' (some b) := by
 obtain ⟨D, h1, h2⟩ := h
 obtain ⟨w', e, h3, h4⟩ := h1.update zY Tryz.underlying82 hn (R7 hx) (l5 x)
 refine ⟨w', e, ⟨_, h3, fun d s hf => ?_⟩, h4⟩
 unfold T9
 by_cases hds : d = x.dev ∧ s = x.seq
 ·obtain ⟨rfl, rfl⟩ := hds
  rw [if_pos ⟨rfl, rfl⟩]; exact ⟨Maps.has_put_same h1.isMap (aFQ hx) _, Maps.atKey_put_same h1.isMap (aFQ hx) _ _⟩
 ·rw [if_neg hds]
  have bH : U5 d s ≠ U5 x.dev x.seq := fun e => hds (key_inj hf hx e)
  rw [Maps.has_put_other bH, Maps.atKey_put_other bH]; exact h2 d s hf
theorem lA.look {w : World} {b n : Nat} {f : Int → Int → Option aA} (h : lA w b n f) {d s : Int} (hx : aAp d s) :
  (Instr.lookup 82 (.map (some b)) (wJ d s) true).run Tryz.prog w = .ok (.tuple #[aAv ((f d s).getD aA.zero), .bool (f d s).isSome]) w ∧ (Instr.lookup 82 (.map (some b)) (wJ d s) false).run Tryz.prog w = .ok (aAv ((f d s).getD aA.zero)) w := by
 obtain ⟨D, h1, h2⟩ := h
 obtain ⟨g1, g2⟩ := h2 d s hx
 constructor
 ·obtain ⟨v, ps, e, hv⟩ := h1.look_ok zY Tryz.underlying82 (aHS w) (l5 aA.zero) (R7 hx)
  rw [g2] at hv; rw [e, aBt hv, g1]
 ·obtain ⟨v, ps, e, hv⟩ := h1.lookup zY Tryz.underlying82 (aHS w) (l5 aA.zero) (R7 hx)
  rw [g2] at hv; rw [e, aBt hv]
def aA.with (o : aA) (u : Int) : aA := ⟨o.dev, o.seq, o.stamp, o.kind, o.item, o.qty, o.level, u⟩
/-- The same but for how often they were undone. -/
def kG (a b : aA) : Bool := a.dev == b.dev && (a.seq == b.seq && (a.stamp == b.stamp && (a.kind == b.kind && (a.item.toList == b.item.toList && (a.qty == b.qty && a.level == b.level)))))
theorem aCS {a b : ByteArray} (h : a.toList = b.toList) : a = b := by
 rw [Lib.toList_data, Lib.toList_data] at h
 exact ByteArray.ext (Array.toList_inj.1 h)
theorem T8 {a b : aA} (h : kG a b = true) : b = a.with b.undos := by
 obtain ⟨a0, a1, a2, a3, a4, a5, a6, a7⟩ := a
 obtain ⟨b0, b1, b2, b3, b4, b5, b6, b7⟩ := b
 unfold kG at h
 simp only [Bool.and_eq_true, beq_iff_eq] at h
 obtain ⟨h0, h1, h2, h3, h4, h5, h6⟩ := h
 have h4 := aCS h4
 subst h0 h1 h2 h3 h4 h5 h6
 rfl
theorem aCV (a : aA) (u : Int) : kG a (a.with u) = true := by
 unfold kG aA.with
 simp
set_option linter.unusedSimpArgs false in
set_option maxHeartbeats 20000000 in
theorem aIe (a b : aA) (w : World) : Calls Tryz.prog 151 #[.agg #[.int .i64 a.dev, .int .i64 a.seq, .int .i64 a.stamp, .int .i64 a.kind, .string a.item, .int .i64 a.qty, .int .i64 a.level, .int .i64 a.undos], .agg #[.int .i64 b.dev, .int .i64 b.seq, .int .i64 b.stamp, .int .i64 b.kind, .string b.item, .int .i64 b.qty, .int .i64 b.level, .int .i64 b.undos]] w fun e w' => e = .returned (.bool (kG a b)) ∧ Below w.heap.size w w' := by
 have HS : Hid (kG a b = (a.dev == b.dev && (a.seq == b.seq && (a.stamp == b.stamp && (a.kind == b.kind && (a.item.toList == b.item.toList && (a.qty == b.qty && a.level == b.level))))))) := rfl
 go_enter Tryz.func151, Tryz.ntmps151
 go_wp2
 all_goals
  go_ret
  refine ⟨?_, ((Below.refl _ w).alloc aRC _).alloc (by simp) _⟩
  rw [HS.out]
  simp_all
theorem cell_of_block {w w' : World} {b i : Nat} (h : w'.heap[b]? = w.heap[b]?) : w'.cell? ⟨b, i, none⟩ = w.cell? ⟨b, i, none⟩ := by unfold World.cell?; rw [h]
/-- What the first k operations of a list lay under each name. -/
def Q1 (l : List aA) : Nat → Int → Int → Option aA
 | 0 => fun _ _ => none
 | k + 1 => T9 (Q1 l k) (aC l k)
theorem yO {m : List aA} (h : p6 m = true) : ∀ k, k ≤ m.length → ∀ i, i < k → Q1 m k (aC m i).dev (aC m i).seq = some (aC m i)
 | 0, _, i, hi => absurd hi (Nat.not_lt_zero _)
 | k + 1, hk, i, hi => by
  show T9 (Q1 m k) (aC m k) _ _ = _
  unfold T9
  by_cases e : (aC m i).dev = (aC m k).dev ∧ (aC m i).seq = (aC m k).seq
  ·rw [if_pos e]
   have := aEm h (i := i) (j := k) (by omega) (by omega) (dev := (aC m k).dev) (seq := (aC m k).seq) e ⟨rfl, rfl⟩
   rw [this]
  ·rw [if_neg e]
   have pU : i ≠ k := fun e2 => e (by rw [e2]; exact ⟨rfl, rfl⟩)
   exact yO h k (by omega) i (by omega)
theorem M7 {m : List aA} {d s : Int} : ∀ k, (∀ j, j < k → ¬ K6 m j d s) → Q1 m k d s = none
 | 0, _ => rfl
 | k + 1, h => by
  show T9 (Q1 m k) (aC m k) _ _ = _
  unfold T9; rw [if_neg (fun e => h k (by omega) ⟨e.1.symm, e.2.symm⟩)]
  exact M7 k fun j hj => h j (by omega)
theorem j5 {m : List aA} {d s : Int} {x : aA} : ∀ k, Q1 m k d s = some x → ∃ i, i < k ∧ K6 m i d s ∧ aC m i = x
 | 0, h => by cases h
 | k + 1, h => by
  have h' : T9 (Q1 m k) (aC m k) d s = some x := h; unfold T9 at h'
  by_cases e : d = (aC m k).dev ∧ s = (aC m k).seq
  ·rw [if_pos e] at h'
   injection h' with h'; exact ⟨k, by omega, ⟨e.1.symm, e.2.symm⟩, h'⟩
  ·rw [if_neg e] at h'
   obtain ⟨i, hi, r⟩ := j5 k h'; exact ⟨i, by omega, r⟩
theorem aHR {o : aA} (h : o.ok = true) : 0 ≤ o.dev ∧ o.dev ≤ 3 ∧ 0 ≤ o.seq ∧ o.seq ≤ 40 ∧ 0 ≤ o.undos ∧ o.undos ≤ 50 := by
 have h' : dP o.dev o.seq o.stamp o.kind o.item o.qty o.level o.undos = true := h
 unfold dP tE at h'
 simp only [Bool.and_eq_true, gM] at h'
 obtain ⟨⟨h1, h2, _, _, h5⟩, _⟩ := h'
 omega
theorem K9 {ys : List Int} {m : List aA} (h : aE ys m = true) {d : Nat} (hd : d < 4) {s : Nat} (hs : (s : Int) < ys.getD d 0) : aR ys d + s < m.length ∧ K6 m (aR ys d + s) (d : Int) ((s : Int) + 1) := by
 obtain ⟨_, jP, h4⟩ := lO h
 have hD := jP d hd
 unfold kM at hD
 rw [Bool.and_eq_true] at hD
 have hR := hD.2
 unfold oD at hR
 rw [List.all_eq_true] at hR
 have hF := hR s (List.mem_range.2 (by omega))
 unfold mD at hF
 simp only [Bool.and_eq_true, decide_eq_true_eq] at hF
 have hm := lD ys (d + 1) 4 (by omega)
 have e : aR ys (d + 1) = aR ys d + (ys.getD d 0).toNat := rfl
 exact ⟨by omega, hF.2.1, hF.2.2.1⟩
theorem aEI {ys : List Int} {m : List aA} (h : aE ys m = true) {j : Nat} (hj : j < m.length) {d : Nat} (e : (aC m j).dev = (d : Int)) : 1 ≤ (aC m j).seq ∧ (aC m j).seq ≤ ys.getD d 0 := by
 obtain ⟨d', _, h1, h2, _, h3, h4⟩ := vS h hj
 have hdd : d' = d := by omega
 subst hdd
 have e : aR ys (d' + 1) = aR ys d' + (ys.getD d' 0).toNat := rfl
 omega
theorem aCC {ys : List Int} {m : List aA} (h : aE ys m = true) {d : Nat} (hd : d < 4) {s : Nat} (hs : (s : Int) < ys.getD d 0) : Q1 m m.length (d : Int) ((s : Int) + 1) = some (aC m (aR ys d + s)) := by
 obtain ⟨h1, h2, h3⟩ := K9 h hd hs
 have := yO (yW h) m.length aRC _ h1
 rw [h2, h3] at this
 exact this
theorem aEC {ys : List Int} {m : List aA} (h : aE ys m = true) {d : Nat} {s : Int} (hs : ys.getD d 0 < s) : Q1 m m.length (d : Int) s = none :=
 M7 _ fun j hj e => by
  have := aEI h hj e.1; have := e.2; omega
def nM (l : List aA) (d s : Int) : Option aA := Q1 l l.length d s
def pS (l m : List aA) (d s : Int) : aA := match nM l d s, nM m d s with
 | some a, some b => a.with (max a.undos b.undos)
 | some a, none => a
 | none, some b => b
 | none, none => aA.zero
/-- What is listed up to number s of device d, by a vector. -/
def fK (zs : List Int) (F : Nat → Nat → aA) (d s : Nat) : List aA := ((List.range d).flatMap fun e => (List.range (zs.getD e 0).toNat).map fun i => F e i) ++ (List.range s).map fun i => F d i
theorem E8 (zs : List Int) (F : Nat → Nat → aA) (d s : Nat) : fK zs F d (s + 1) = fK zs F d s ++ [F d s] := by
 unfold fK
 rw [List.range_succ, List.map_append, ← List.append_assoc]
 rfl
theorem E9 (zs : List Int) (F : Nat → Nat → aA) (d : Nat) : fK zs F (d + 1) 0 = fK zs F d (zs.getD d 0).toNat := by
 unfold fK
 rw [List.range_succ, List.flatMap_append]
 simp
theorem vL (zs : List Int) (F : Nat → Nat → aA) : ∀ d s, (fK zs F d s).length = aR zs d + s
 | 0, s => by simp [fK, aR]
 | d + 1, 0 => by
  rw [E9, vL zs F d]
  rfl
 | d + 1, s + 1 => by
  rw [E8, List.length_append, vL zs F (d + 1) s]
  rfl
theorem m9 (zs : List Int) (F : Nat → Nat → aA) (d : Nat) : ∀ k s, s ≤ s + k → ∃ r, fK zs F d (s + k) = fK zs F d s ++ r
 | 0, s, _ => ⟨[], by simp⟩
 | k + 1, s, _ => by
  obtain ⟨r, h⟩ := m9 zs F d k s (by omega)
  exact ⟨r ++ [F d (s + k)], by rw [← Nat.add_assoc, E8, h, List.append_assoc]⟩
theorem aC6 (zs : List Int) (F : Nat → Nat → aA) (d : Nat) : ∀ k, ∃ r, fK zs F (d + k) 0 = fK zs F d 0 ++ r
 | 0 => ⟨[], by simp⟩
 | k + 1 => by
  obtain ⟨r, h⟩ := aC6 zs F d k; obtain ⟨r2, h2⟩ := m9 zs F (d + k) (zs.getD (d + k) 0).toNat 0 (by omega)
  refine ⟨r ++ r2, ?_⟩
  rw [← Nat.add_assoc, E9, ← List.append_assoc, ← h]
  simpa using h2
theorem aD6 (zs : List Int) (F : Nat → Nat → aA) {d s : Nat} (hd : d < 4) (hs : s < (zs.getD d 0).toNat) : aC (fK zs F 4 0) (aR zs d + s) = F d s := by
 obtain ⟨r, h⟩ := aC6 zs F (d + 1) (3 - d)
 have e4 : d + 1 + (3 - d) = 4 := by omega
 rw [e4, E9 zs F d] at h
 obtain ⟨r2, h2⟩ := m9 zs F d ((zs.getD d 0).toNat - (s + 1)) (s + 1) (by omega)
 have e5 : s + 1 + ((zs.getD d 0).toNat - (s + 1)) = (zs.getD d 0).toNat := by omega
 rw [e5, E8 zs F d s] at h2
 rw [h2] at h
 have hl := vL zs F d s
 unfold aC
 rw [h, List.getD_eq_getElem?_getD, List.append_assoc, List.append_assoc, List.getElem?_append_right (by omega), hl]
 simp
def dX (l m : List aA) : Nat → Nat → aA := fun d s => pS l m (d : Int) ((s : Int) + 1)
def m0 (zs : List Int) (l m : List aA) : List aA := fK zs (dX l m) 4 0
/-- Does the operation fit what the list has under its name? -/
def okJ (l : List aA) (x : aA) : Bool := match nM l x.dev x.seq with
 | none => true
 | some y => kG x y
def tY (l m : List aA) : Bool := (List.range m.length).all fun i => okJ l (aC m i)
theorem aJd {l m : List aA} {k : Nat} (hk : k < m.length) (h : okJ l (aC m k) = false) : tY l m = false := by
 unfold tY
 rw [List.all_eq_false]
 exact ⟨k, List.mem_range.2 hk, by rw [h]; simp⟩
theorem aMX {l m : List aA} (h : tY l m = true) {k : Nat} (hk : k < m.length) : okJ l (aC m k) = true := by
 unfold tY at h
 rw [List.all_eq_true] at h
 exact h k (List.mem_range.2 hk)
theorem aLW {l m : List aA} (h : ∀ i, i < m.length → okJ l (aC m i) = true) : tY l m = true := by
 unfold tY
 rw [List.all_eq_true]
 exact fun i hi => h i (List.mem_range.1 hi)
theorem aJe {l : List aA} {x : aA} (h : nM l x.dev x.seq = none) : okJ l x = true := by unfold okJ; rw [h]
theorem aA2 {l : List aA} {x y : aA} (h : nM l x.dev x.seq = some y) : okJ l x = kG x y := by unfold okJ; rw [h]
def nC (xs : List Int) (l : List aA) (ys : List Int) (m : List aA) : Bool := aE xs l && (aE ys m && tY l m)
theorem aH3 {xs : List Int} {l : List aA} {ys : List Int} {m : List aA} (h : aE xs l = false) : nC xs l ys m = false := by unfold nC; rw [h]; rfl
theorem aH2 {xs : List Int} {l : List aA} {ys : List Int} {m : List aA} (h : aE ys m = false) : nC xs l ys m = false := by unfold nC; rw [h]; simp
theorem aH1 {xs : List Int} {l : List aA} {ys : List Int} {m : List aA} (h : aE xs l = true) (h2 : aE ys m = true) : nC xs l ys m = tY l m := by unfold nC; rw [h, h2]; rfl
theorem aFI {a : aA} (h : a.ok = true) {u : Int} (h0 : 0 ≤ u) (h1 : u ≤ 50) : (a.with u).ok = true := by
 have h' : dP a.dev a.seq a.stamp a.kind a.item a.qty a.level a.undos = true := h
 show dP a.dev a.seq a.stamp a.kind a.item a.qty a.level u = true
 unfold dP tE at h' ⊢
 simp only [Bool.and_eq_true, gM] at h' ⊢
 obtain ⟨⟨a1, a2, a3, a4, _⟩, a6⟩ := h'
 exact ⟨⟨a1, a2, a3, a4, h0, h1⟩, a6⟩
theorem sU {xs : List Int} {l : List aA} (h : aE xs l = true) {d : Nat} (hd : d < 4) {s : Nat} (hs : (s : Int) < xs.getD d 0) : mD l d (aR xs d) s = true := by
 have hD := (lO h).2.1 d hd
 unfold kM at hD
 rw [Bool.and_eq_true] at hD
 have hR := hD.2
 unfold oD at hR
 rw [List.all_eq_true] at hR
 exact hR s (List.mem_range.2 (by omega))
theorem lN {l : List aA} {d st s : Nat} (h : mD l d st s = true) : (aC l (st + s)).ok = true ∧ (aC l (st + s)).dev = (d : Int) ∧ (aC l (st + s)).seq = (s : Int) + 1 ∧ eE l st s < (aC l (st + s)).stamp := by
 unfold mD at h
 simpa only [Bool.and_eq_true, decide_eq_true_eq] using h
theorem aD2 {xs : List Int} {l : List aA} {ys : List Int} {m : List aA} (h : aE xs l = true) (h2 : aE ys m = true) (ho : tY l m = true) {d : Nat} (hd : d < 4) {s : Nat} (hs : (s : Int) < max (xs.getD d 0) (ys.getD d 0)) :
  (dX l m d s).ok = true ∧ (dX l m d s).dev = (d : Int) ∧ (dX l m d s).seq = (s : Int) + 1 ∧ ((s : Int) < xs.getD d 0 → (dX l m d s).stamp = (aC l (aR xs d + s)).stamp) ∧ ((s : Int) < ys.getD d 0 → (dX l m d s).stamp = (aC m (aR ys d + s)).stamp) := by
 show (pS l m _ _).ok = true ∧ (pS l m _ _).dev = _ ∧ (pS l m _ _).seq = _ ∧ (_ → (pS l m _ _).stamp = _) ∧ (_ → (pS l m _ _).stamp = _)
 unfold pS
 by_cases hx : (s : Int) < xs.getD d 0
 ·have e1 : nM l (d : Int) ((s : Int) + 1) = some (aC l (aR xs d + s)) := aCC h hd hx
  obtain ⟨a1, a2, a3, _⟩ := lN (sU h hd hx); rw [e1]
  by_cases hy : (s : Int) < ys.getD d 0
  ·have e2 : nM m (d : Int) ((s : Int) + 1) = some (aC m (aR ys d + s)) := aCC h2 hd hy
   obtain ⟨b1, b2, b3, _⟩ := lN (sU h2 hd hy); obtain ⟨h5, h6⟩ := K9 h2 hd hy; have hj := aMX ho h5; rw [aA2 (by rw [h6.1, h6.2]; exact e1)] at hj
   have ha := T8 hj; have u1 := aHR a1; have u2 := aHR b1; rw [e2]; refine ⟨aFI a1 (by omega) (by omega), a2, a3, fun _ => rfl, fun _ => ?_⟩
   show (aC l (aR xs d + s)).stamp = _
   rw [ha]
   rfl
  ·have e2 : nM m (d : Int) ((s : Int) + 1) = none := aEC h2 (by omega)
   rw [e2]; exact ⟨a1, a2, a3, fun _ => rfl, fun h => absurd h hy⟩
 ·have hy : (s : Int) < ys.getD d 0 := by omega
  have e1 : nM l (d : Int) ((s : Int) + 1) = none := aEC h (by omega)
  have e2 : nM m (d : Int) ((s : Int) + 1) = some (aC m (aR ys d + s)) := aCC h2 hd hy; obtain ⟨b1, b2, b3, _⟩ := lN (sU h2 hd hy); rw [e1, e2]; exact ⟨b1, b2, b3, fun h => absurd h hx, fun _ => rfl⟩
def oE (xs ys : List Int) : List Int := List.zipWith max xs ys
theorem aCq {xs ys : List Int} (h : xs.length = 4) (h2 : ys.length = 4) {d : Nat} (hd : d < 4) : (oE xs ys).getD d 0 = max (xs.getD d 0) (ys.getD d 0) := by
 unfold oE
 rw [List.getD_eq_getElem?_getD, List.getD_eq_getElem?_getD, List.getD_eq_getElem?_getD, List.getElem?_zipWith, List.getElem?_eq_getElem (by omega), List.getElem?_eq_getElem (by omega)]
 rfl
theorem aCp {xs ys : List Int} (h : cU xs = true) (h2 : cU ys = true) : cU (oE xs ys) = true := by
 have l1 := (gR h (d := 0) (by omega)).2.2
 have l2 := (gR h2 (d := 0) (by omega)).2.2
 have l3 : (oE xs ys).length = 4 := by unfold oE; rw [List.length_zipWith]; omega
 unfold cU
 rw [Bool.and_eq_true]
 refine ⟨?_, decide_eq_true l3⟩
 rw [List.all_eq_true]
 intro x hx
 obtain ⟨i, hi, e⟩ := List.mem_iff_getElem.1 hx
 have hi4 : i < 4 := by omega
 have e2 : (oE xs ys).getD i 0 = x := by rw [List.getD_eq_getElem?_getD, List.getElem?_eq_getElem hi]; exact e
 rw [aCq l1 l2 hi4] at e2
 have g1 := gR h hi4
 have g2 := gR h2 hi4
 rw [← e2]
 unfold wN
 rw [Bool.and_eq_true]
 exact ⟨decide_eq_true (by omega), decide_eq_true (by omega)⟩
theorem aAT {xs : List Int} {l : List aA} {ys : List Int} {m : List aA} (h : aE xs l = true) (h2 : aE ys m = true) (ho : tY l m = true) : aE (oE xs ys) (m0 (oE xs ys) l m) = true := by
 have v1 := (lO h).1
 have v2 := (lO h2).1
 have l1 := (gR v1 (d := 0) (by omega)).2.2
 have l2 := (gR v2 (d := 0) (by omega)).2.2
 have pE : (m0 (oE xs ys) l m).length = aR (oE xs ys) 4 := vL _ _ 4 0
 rw [aBf (aCp v1 v2) fun d hd => ?_]
 ·exact decide_eq_true pE.symm
 ·have hm := lD (oE xs ys) (d + 1) 4 (by omega)
  unfold kM; rw [Bool.and_eq_true]; refine ⟨decide_eq_true (by omega), ?_⟩
  unfold oD; rw [List.all_eq_true]
  intro s hs
  have hs := List.mem_range.1 hs; have hz := aCq l1 l2 hd; have hsi : (s : Int) < max (xs.getD d 0) (ys.getD d 0) := by rw [← hz]; omega
  have ea : aC (m0 (oE xs ys) l m) (aR (oE xs ys) d + s) = dX l m d s := aD6 _ _ hd hs; obtain ⟨m1, m2, m3, m4, m5⟩ := aD2 h h2 ho hd hsi; refine vQ (by rw [ea]; exact m1) (by rw [ea]; exact m2) (by rw [ea]; exact m3) ?_
  rw [ea]; cases s with
  | zero =>
   have e0 : ∀ L st, eE L st 0 = 0 := fun _ _ => rfl
   rw [e0]
   by_cases hx : ((0 : Nat) : Int) < xs.getD d 0
   ·rw [m4 hx]
    have := (lN (sU h hd hx)).2.2.2; rw [e0] at this; exact this
   ·have hy : ((0 : Nat) : Int) < ys.getD d 0 := by omega
    rw [m5 hy]; have := (lN (sU h2 hd hy)).2.2.2; rw [e0] at this; exact this
  | succ t =>
   rw [zX]; have eb : aC (m0 (oE xs ys) l m) (aR (oE xs ys) d + t) = dX l m d t := aD6 _ _ hd (by omega)
   rw [eb]; obtain ⟨_, _, _, n4, n5⟩ := aD2 h h2 ho hd (s := t) (by omega)
   by_cases hx : ((t + 1 : Nat) : Int) < xs.getD d 0
   ·rw [m4 hx, n4 (by omega)]
    have := (lN (sU h hd hx)).2.2.2; rw [zX] at this; exact this
   ·have hy : ((t + 1 : Nat) : Int) < ys.getD d 0 := by omega
    rw [m5 hy, n5 (by omega)]
    have := (lN (sU h2 hd hy)).2.2.2; rw [zX] at this; exact this
theorem aFj {l m : List aA} {N : Nat} (hl : ∀ i, i < l.length → (aC l i).item.size ≤ N) (hm : ∀ i, i < m.length → (aC m i).item.size ≤ N) (d s : Nat) : (dX l m d s).item.size ≤ N := by
 show (pS l m _ _).item.size ≤ N
 unfold pS
 rcases e1 : nM l (d : Int) ((s : Int) + 1) with _ | a
 ·rcases e2 : nM m (d : Int) ((s : Int) + 1) with _ | b
  ·exact Nat.zero_le _
  ·obtain ⟨i, hi, _, e⟩ := j5 _ e2
   show b.item.size ≤ N
   rw [← e]; exact hm i hi
 ·obtain ⟨i, hi, _, e⟩ := j5 _ e1
  rcases e2 : nM m (d : Int) ((s : Int) + 1) with _ | b
  ·show a.item.size ≤ N
   rw [← e]; exact hl i hi
  ·show a.item.size ≤ N
   rw [← e]; exact hl i hi
set_option linter.unusedVariables false
set_option linter.unusedSimpArgs false

theorem aHI (w : World) (B B' : Nat) (a a' : Option Addr) (len cap oF gE : Nat) (xs ys : List Int) (h : Ints w B a len xs) (h' : Ints w B' a' oF ys) (hl : len ≤ 1048576) (hl' : oF ≤ 1048576) :
  Calls Tryz.prog 50 #[.slice a len cap, .slice a' oF gE] w (aOD xs ys w) := by
 have hL := aRA h.1
 have hL' := aRA h'.1
 have H := aRA h
 have H' := aRA h'
 clear h h'
 by_cases hn : len = oF
 ·subst hn
  go_enter Tryz.func50, Tryz.ntmps50
  go_wp2
  go_loopw [5] (fun i wr => ∃ k n : Nat, k ≤ len ∧ i = .int .i64 k ∧ wr = w.drewN n ∧ Hid (xs.take k = ys.take k)) (fun i _ => len - (intOf i).toNat)
  case atStart => exact ⟨0, 0, Nat.zero_le _, rfl, rfl, rfl⟩
  case round =>
   obtain ⟨k, n, hk, rfl, rfl, HA⟩ := hrel
   by_cases aK : k < len
   ·obtain ⟨b, off, rfl, hb, hc⟩ := H.out.2 k aK
    obtain ⟨b', iH, rfl, Y7, x5⟩ := H'.out.2 k aK; obtain ⟨x, hx⟩ : ∃ x, x = xs.getD k 0 := ⟨_, rfl⟩; obtain ⟨y, hy⟩ : ∃ y, y = ys.getD k 0 := ⟨_, rfl⟩; rw [← hx] at hc; rw [← hy] at x5; have HX := aRA hx; have HY := aRA hy; have hki : (k : Int) < (len : Int) := by omega
    clear hx hy
    by_cases e : x = y
    ·subst e
     have HS : Hid (xs.take (k + 1) = ys.take (k + 1)) := aD5 (by rw [hL.out]; exact aK) (by rw [hL'.out]; exact aK) HA.out (by rw [← HX.out, ← HY.out])
     go_wp2
     go_quiet (fail)
     go_wp2
     go_roundw
     case rel => exact ⟨k + 1, n + nq, by omega, by go_num, rfl, HS⟩
     case measure => simp [intOf]; omega
    ·have bH : (x != y) = true := by simpa using e
     have HV : Hid (decide (xs = ys) = false) := decide_eq_false (aL0 (k := k) (by rw [← HX.out, ← HY.out]; exact e))
     clear e; go_wp2
     go_quiet (fail)
     go_wp2
     go_ret
     exact ⟨kK HV.out.symm, n + nq, World.drewN_drewN ..⟩
   ·have HV : Hid (decide (xs = ys) = true) := decide_eq_true (by
     have := HA.out
     rwa [List.take_of_length_le (by have := hL.out; omega), List.take_of_length_le (by have := hL'.out; omega)] at this)
    go_wp2
    go_ret
    exact ⟨kK HV.out.symm, n, rfl⟩
 ·have bH : ((len : Int) != (oF : Int)) = true := by simp; omega
  have HV : Hid (decide (xs = ys) = false) := decide_eq_false (fun e => hn (by rw [← hL.out, ← hL'.out, e]))
  go_enter Tryz.func50, Tryz.ntmps50
  go_wp2
  go_ret
  exact ⟨kK HV.out.symm, 0, rfl⟩
instance : DecidableEq aA := fun a b => by
 obtain ⟨a0, a1, a2, a3, a4, a5, a6, a7⟩ := a
 obtain ⟨b0, b1, b2, b3, b4, b5, b6, b7⟩ := b
 rw [aA.mk.injEq]
 exact inferInstance
theorem aMR {a b : aA} (h0 : a.dev = b.dev) (h1 : a.seq = b.seq) (h2 : a.stamp = b.stamp) (h3 : a.kind = b.kind) (h4 : a.item.toList = b.item.toList) (h5 : a.qty = b.qty) (h6 : a.level = b.level) (h7 : a.undos = b.undos) : a = b := by
 obtain ⟨a0, a1, a2, a3, a4, a5, a6, a7⟩ := a
 obtain ⟨b0, b1, b2, b3, b4, b5, b6, b7⟩ := b
 have g4 := aCS h4
 clear h4
 simp only at h0 h1 h2 h3 g4 h5 h6 h7
 subst h0 h1 h2 h3 g4 h5 h6 h7
 rfl
def aDy (a b : aA) : Bool := a.dev == b.dev && (a.seq == b.seq && (a.stamp == b.stamp && (a.kind == b.kind && (a.item.toList == b.item.toList && (a.qty == b.qty && (a.level == b.level && a.undos == b.undos))))))
theorem full_of {a b : aA} (h0 : a.dev = b.dev) (h1 : a.seq = b.seq) (h2 : a.stamp = b.stamp) (h3 : a.kind = b.kind) (h4 : a.item.toList = b.item.toList) (h5 : a.qty = b.qty) (h6 : a.level = b.level) (h7 : a.undos = b.undos) : aDy a b = true := by
 unfold aDy
 simp only [Bool.and_eq_true, beq_iff_eq]
 exact ⟨h0, h1, h2, h3, h4, h5, h6, h7⟩
theorem aL9 {a b : aA} (h : a ≠ b) : aDy a b = false := by
 rw [Bool.eq_false_iff]
 intro e
 unfold aDy at e
 simp only [Bool.and_eq_true, beq_iff_eq] at e
 obtain ⟨h0, h1, h2, h3, h4, h5, h6, h7⟩ := e
 exact h (aMR h0 h1 h2 h3 h4 h5 h6 h7)
theorem aFf {xs ys : List aA} {k : Nat} (hx : k < xs.length) (hy : k < ys.length) (h : xs.take k = ys.take k) (e : aC xs k = aC ys k) : xs.take (k + 1) = ys.take (k + 1) := by
 unfold aC at e
 rw [List.getD_eq_getElem?_getD, List.getD_eq_getElem?_getD, List.getElem?_eq_getElem hx, List.getElem?_eq_getElem hy] at e
 have e : xs[k] = ys[k] := e
 rw [List.take_succ_eq_append_getElem hx, List.take_succ_eq_append_getElem hy, h, e]
theorem aMS {xs ys : List aA} {k : Nat} (e : aC xs k ≠ aC ys k) : xs ≠ ys := fun h => e (by rw [h])
/-- What comparing two lists of operations leaves. -/
def aOE (xs ys : List aA) (w : World) (e : Ending) (w' : World) : Prop := e = .returned (.bool (decide (xs = ys))) ∧ Below w.heap.size w w'
set_option maxHeartbeats 20000000 in
theorem aLz (w : World) (B B' : Nat) (a a' : Option Addr) (len cap oF gE : Nat) (xs ys : List aA) (h : bS w B a len xs) (h' : bS w B' a' oF ys) (hB : B ≤ w.heap.size) (hB' : B' ≤ w.heap.size) (hl : len ≤ 1048576) (hl' : oF ≤ 1048576) :
  Calls Tryz.prog 33 #[.slice a len cap, .slice a' oF gE] w (aOE xs ys w) := by
 have hL := aRA h.1
 have hL' := aRA h'.1
 have H := aRA h
 have H' := aRA h'
 clear h h'
 by_cases hn : len = oF
 ·subst hn
  go_enter Tryz.func33, Tryz.ntmps33
  go_wp2
  go_loopw [5] (fun i wr => ∃ k : Nat, k ≤ len ∧ i = .int .i64 k ∧ Hid (Below w.heap.size w wr) ∧ Hid (xs.take k = ys.take k)) (fun i _ => len - (intOf i).toNat)
  case atStart => exact ⟨0, Nat.zero_le _, rfl, Below.refl _ _, rfl⟩
  case round =>
   obtain ⟨k, hk, rfl, HB, HA⟩ := hrel
   by_cases aK : k < len
   ·obtain ⟨b, off, rfl, hb, hc⟩ := (H.out.below HB.out hB).2 k aK
    obtain ⟨b', iH, rfl, Y7, x5⟩ := (H'.out.below HB.out hB').2 k aK; have hx : xC wr b (off + k * 8) (aC xs k) := hc; have hy : xC wr b' (iH + k * 8) (aC ys k) := x5; have HS : Hid (aC xs k = aC ys k → xs.take (k + 1) = ys.take (k + 1)) := fun e => aFf (by rw [hL.out]; exact aK) (by rw [hL'.out]; exact aK) HA.out e
    have HN : Hid (aC xs k ≠ aC ys k → decide (xs = ys) = false) := fun e => decide_eq_false (aMS e)
    clear hc x5; generalize aC xs k = x at hx HS HN; generalize aC ys k = y at hy HS HN; obtain ⟨d0, d1, d2, d3, d4, d5, d6, d7⟩ := hx; obtain ⟨e0, e1, e2, e3, e4, e5, e6, e7⟩ := hy; have hki : (k : Int) < (len : Int) := by omega
    by_cases e : x = y
    ·subst e
     have HS1 := aRA (HS.out rfl); go_wp2
     go_region
     go_wp2
     go_roundw
     case rel => exact ⟨k + 1, by omega, by go_num, HB.out.drew, HS1⟩
     case measure => simp [intOf]; omega
    ·have HV := aRA (HN.out e)
     have HF := aRA (aL9 e); clear e
     --DRAWN
     have hS : wr.drew.cell? ⟨b, off + k * 8, none⟩ = some (.int .i64 x.dev) ∧ wr.drew.cell? ⟨b, off + k * 8 + 1, none⟩ = some (.int .i64 x.seq) ∧ wr.drew.cell? ⟨b, off + k * 8 + 2, none⟩ = some (.int .i64 x.stamp) ∧ wr.drew.cell? ⟨b, off + k * 8 + 3, none⟩ = some (.int .i64 x.kind) ∧ wr.drew.cell? ⟨b, off + k * 8 + 4, none⟩ = some (.string x.item) ∧ wr.drew.cell? ⟨b, off + k * 8 + 5, none⟩ = some (.int .i64 x.qty) ∧ wr.drew.cell? ⟨b, off + k * 8 + 6, none⟩ = some (.int .i64 x.level) ∧ wr.drew.cell? ⟨b, off + k * 8 + 7, none⟩ = some (.int .i64 x.undos) ∧ wr.drew.cell? ⟨b', iH + k * 8, none⟩ = some (.int .i64 y.dev) ∧ wr.drew.cell? ⟨b', iH + k * 8 + 1, none⟩ = some (.int .i64 y.seq) ∧ wr.drew.cell? ⟨b', iH + k * 8 + 2, none⟩ = some (.int .i64 y.stamp) ∧ wr.drew.cell? ⟨b', iH + k * 8 + 3, none⟩ = some (.int .i64 y.kind) ∧ wr.drew.cell? ⟨b', iH + k * 8 + 4, none⟩ = some (.string y.item) ∧ wr.drew.cell? ⟨b', iH + k * 8 + 5, none⟩ = some (.int .i64 y.qty) ∧ wr.drew.cell? ⟨b', iH + k * 8 + 6, none⟩ = some (.int .i64 y.level) ∧ wr.drew.cell? ⟨b', iH + k * 8 + 7, none⟩ = some (.int .i64 y.undos) := ⟨d0, d1, d2, d3, d4, d5, d6, d7, e0, e1, e2, e3, e4, e5, e6, e7⟩
     go_wp2_with fail
     refine wp_region_held_drew (S := fun w' => w'.cell? ⟨b, off + k * 8, none⟩ = some (.int .i64 x.dev) ∧ w'.cell? ⟨b, off + k * 8 + 1, none⟩ = some (.int .i64 x.seq) ∧ w'.cell? ⟨b, off + k * 8 + 2, none⟩ = some (.int .i64 x.stamp) ∧ w'.cell? ⟨b, off + k * 8 + 3, none⟩ = some (.int .i64 x.kind) ∧ w'.cell? ⟨b, off + k * 8 + 4, none⟩ = some (.string x.item) ∧ w'.cell? ⟨b, off + k * 8 + 5, none⟩ = some (.int .i64 x.qty) ∧ w'.cell? ⟨b, off + k * 8 + 6, none⟩ = some (.int .i64 x.level) ∧ w'.cell? ⟨b, off + k * 8 + 7, none⟩ = some (.int .i64 x.undos) ∧ w'.cell? ⟨b', iH + k * 8, none⟩ = some (.int .i64 y.dev) ∧ w'.cell? ⟨b', iH + k * 8 + 1, none⟩ = some (.int .i64 y.seq) ∧ w'.cell? ⟨b', iH + k * 8 + 2, none⟩ = some (.int .i64 y.stamp) ∧ w'.cell? ⟨b', iH + k * 8 + 3, none⟩ = some (.int .i64 y.kind) ∧ w'.cell? ⟨b', iH + k * 8 + 4, none⟩ = some (.string y.item) ∧ w'.cell? ⟨b', iH + k * 8 + 5, none⟩ = some (.int .i64 y.qty) ∧ w'.cell? ⟨b', iH + k * 8 + 6, none⟩ = some (.int .i64 y.level) ∧ w'.cell? ⟨b', iH + k * 8 + 7, none⟩ = some (.int .i64 y.undos)) (by kernel_rfl) hS (fun aP => ?_)
     refine tk 0 ⟨some 17, .move (.tmp 0), 25, "laws.go:39", #[], none⟩ ?_
     (try simp only [Act.put, u1, u2, u3])
     refine tk 1 ⟨some 18, .move (.tmp 5), 3, "laws.go:39", #[], none⟩ ?_
     (try simp only [Act.put, u1, u2, u3])
     refine tk 2 ⟨some 19, .indexAddr 25 (.tmp 17) (.tmp 18), 0, "laws.go:39", #[⟨0, .data⟩, ⟨1, .data⟩], none⟩ ?_
     (try simp only [Act.put, u1, u2, u3])
     refine tk 3 ⟨some 20, .load 50 (.tmp 19), 50, "laws.go:39", #[⟨2, .data⟩], none⟩ ?_
     (try simp only [Act.put, u1, u2, u3])
     refine tk 4 ⟨some 21, .move (.tmp 1), 25, "laws.go:39", #[], none⟩ ?_
     (try simp only [Act.put, u1, u2, u3])
     refine tk 5 ⟨some 22, .move (.tmp 5), 3, "laws.go:39", #[], none⟩ ?_
     (try simp only [Act.put, u1, u2, u3])
     refine tk 6 ⟨some 23, .indexAddr 25 (.tmp 21) (.tmp 22), 0, "laws.go:39", #[⟨4, .data⟩, ⟨5, .data⟩], none⟩ ?_
     (try simp only [Act.put, u1, u2, u3])
     refine tk 7 ⟨some 24, .load 50 (.tmp 23), 50, "laws.go:39", #[⟨6, .data⟩], none⟩ ?_
     (try simp only [Act.put, u1, u2, u3])
     refine wpAnyH_take (i := 8) (oi := ⟨some 25, .binOp .neq 50 (.tmp 20) (.tmp 24) 50, 4, "laws.go:39", #[⟨3, .data⟩, ⟨7, .data⟩], none⟩) (v := .bool true) rfl (by kernel_rfl) (by kernel_rfl) (by kernel_rfl) (fun _ _ _ h => h) (Or.inl ⟨by rfl, ?_⟩) (by assumption) ?_
     ·intro w hSw
      (try dsimp only at hSw)
      obtain ⟨c0, c1, c2, c3, c4, c5, c6, c7, g0, g1, g2, g3, g4, g5, g6, g7⟩ := hSw
      go_simp
      intros
      intro aAA
      exact absurd (full_of (a := x) (b := y) (by assumption) (by assumption) (by assumption) (by assumption) (by first | assumption | exact congrArg ByteArray.toList (by assumption)) (by assumption) (by assumption) (by assumption)) (by rw [HF.out]; decide)
     (try simp only [Act.put, u1, u2, u3])
     refine wpAnyH_done (by kernel_rfl) ?_ _
     clear hS d0 d1 d2 d3 d4 d5 d6 d7 e0 e1 e2 e3 e4 e5 e6 e7; go_wp2
     go_ret
     exact ⟨kK HV.out.symm, HB.out.drew⟩
   ·have HV : Hid (decide (xs = ys) = true) := decide_eq_true (by
     have := HA.out
     rwa [List.take_of_length_le (by have := hL.out; omega), List.take_of_length_le (by have := hL'.out; omega)] at this)
    go_wp2
    go_ret
    exact ⟨kK HV.out.symm, HB.out⟩
 ·have bH : ((len : Int) != (oF : Int)) = true := by simp; omega
  have HV : Hid (decide (xs = ys) = false) := decide_eq_false (fun e => hn (by rw [← hL.out, ← hL'.out, e]))
  go_enter Tryz.func33, Tryz.ntmps33
  go_wp2
  go_ret
  exact ⟨kK HV.out.symm, Below.refl _ _⟩
set_option maxHeartbeats 20000000 in
theorem eJ (w : World) (B : Nat) (av ao bv bo : Option Addr) (nv cv no co mv dv mo eo : Nat) (xs : List Int) (l : List aA) (ys : List Int) (m : List aA) (hx : Ints w B av nv xs) (h : bS w B ao no l) (hy : Ints w B bv mv ys) (g : bS w B bo mo m) (hB : B ≤ w.heap.size) (hv : nv ≤ 1048576) (hn : no ≤ 1048576) (N3 : mv ≤ 1048576) (D2 : mo ≤ 1048576) :
  Calls Tryz.prog 20 #[.agg #[.slice av nv cv, .slice ao no co], .agg #[.slice bv mv dv, .slice bo mo eo]] w fun e w' => e = .returned (.bool (decide (xs = ys) && decide (l = m))) ∧ Below w.heap.size w w' := by
 have hT := xB.mk0 w #[.slice av nv cv, .slice ao no co] #[.slice bv mv dv, .slice bo mo eo] 27
 have HV := aRA (hx.below hT.bel hB)
 have HO := aRA (h.below hT.bel hB)
 have HY := aRA (hy.below hT.bel hB)
 have HG := aRA (g.below hT.bel hB)
 have HT := aRA hT
 clear hx h hy g hT
 go_enter Tryz.func20, Tryz.ntmps20
 go_wp2_with fail
 generalize (w.alloc (.cells #[.slice av nv cv, .slice ao no co] 27)).alloc (.cells #[.slice bv mv dv, .slice bo mo eo] 27) = w0 at HV HO HY HG HT ⊢
 obtain ⟨a0, a1⟩ := pair_cells HT.out.fst
 obtain ⟨b0, b1⟩ := pair_cells HT.out.snd
 have mF := HT.out.bel.size
 refine (aHI w0 B B av bv nv cv mv dv xs ys HV.out HY.out hv N3).mono ?_
 rintro e w1 ⟨rfl, eH⟩
 have aI := eH.below w0.heap.size
 have dL := aRA (HO.out.below aI (by omega))
 have E4 := aRA (HG.out.below aI (by omega))
 have aZ := aRA (HT.out.next aI)
 have fH := aI.size
 clear eH aI HV HO HY HG HT a0 a1 b0 b1
 obtain ⟨p, hp⟩ : ∃ p, decide (xs = ys) = p := ⟨_, rfl⟩
 have HP := aRA hp
 rw [hp]
 clear hp
 cases p
 ·have HB := aRA aZ.out.bel
  go_wp2
  go_ret
  exact ⟨by rw [HP.out]; rfl, HB.out⟩
 obtain ⟨a0, a1⟩ := pair_cells aZ.out.fst
 obtain ⟨b0, b1⟩ := pair_cells aZ.out.snd
 go_wp2_with fail
 refine (aLz w1 B B ao bo no co mo eo l m dL.out E4.out (by omega) (by omega) hn D2).mono ?_
 rintro e w2 ⟨rfl, aN⟩
 have HB := aRA (aZ.out.bel.trans (aN.mono aZ.out.bel.size))
 clear aN
 obtain ⟨q, hq⟩ : ∃ q, decide (l = m) = q := ⟨_, rfl⟩
 have HQ := aRA hq
 rw [hq]
 clear hq
 cases q
 all_goals
  go_wp2
  go_ret
  exact ⟨by rw [HP.out, HQ.out]; rfl, HB.out⟩
end Go.Proofs.YthkagbnpcjidfaaGreatDoor
