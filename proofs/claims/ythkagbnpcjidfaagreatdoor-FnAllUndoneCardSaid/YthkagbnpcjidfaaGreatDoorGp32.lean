/- Walks and mathematics that several claims share, part 32. -/
import Derived.Test.YthkagbnpcjidfaaGreatDoorGp25
import Derived.Maps.OwnSet
import Derived.DeepKeys4
import Derived.Lib.MinMax
import Derived.Deep.Cut
import Derived.Deep.RegionHeld3
namespace Go.Proofs.YthkagbnpcjidfaaGreatDoor
set_option maxRecDepth 100000
open Go.RowKit
set_option linter.unusedVariables false
set_option linter.unusedSimpArgs false
open Go.Maps (Keyed)
theorem aHJ : laidOutB Tryz.prog = true := by kernel_rfl
theorem aHG : (match Tryz.prog.underlying 86 with | some (.array _ _) | some (.struct _) => true | _ => false) = true := by kernel_rfl
theorem vG : Keyed Tryz.prog 86 := Keyed.of_law (deep_law_laid aHJ (m := 2) (by omega) (of_decide_eq_true (by kernel_rfl)) (by kernel_rfl) aHG)
def sV (d s : Int) : Value := .agg #[.int .i64 d, .int .i64 s]
theorem aHH : Tryz.prog.keyType 86 = true := by kernel_rfl
theorem aBB : Tryz.prog.cellsOf 86 = 2 := by kernel_rfl
theorem intCells : Tryz.prog.cellsOf 2 = 1 := by kernel_rfl
theorem aHI : ∃ m, Tryz.prog.types.size = m + 1 := ⟨Tryz.prog.types.size - 1, by have : 0 < Tryz.prog.types.size := of_decide_eq_true (by kernel_rfl); omega⟩
theorem aHF {d s : Int} (hd : (Lit.int .i64 d).wf = true) (hs : (Lit.int .i64 s).wf = true) : ∃ kl, keyOf Tryz.prog 86 (sV d s) = some kl := by
 obtain ⟨m, hm⟩ := aHI
 have hf : (sV d s).formed Tryz.prog 86 = true := by simp [sV, Value.formed, Tryz.underlying86, aBB]
 have hl : ∃ ls, Tryz.prog.keyLits (Tryz.prog.types.size + 1) 86 (sV d s).cells.toList = some ls := by
  rw [hm]; simp [Program.keyLits, Tryz.underlying86, Tryz.underlying2, sV, Value.cells, aBB, intCells, hd, hs]
 obtain ⟨ls, hls⟩ := hl
 exact ⟨.string (keyBytes ls), by unfold keyOf; rw [Tryz.underlying86]; simp only [aHH, hf, hls, Bool.and_self, if_true, Option.map_some]⟩
noncomputable def I4 (d s : Int) : Lit := (keyOf Tryz.prog 86 (sV d s)).getD (.bool false)
def X1 (d s : Int) : Prop := (Lit.int .i64 d).wf = true ∧ (Lit.int .i64 s).wf = true
theorem E7 {d s : Int} (h : X1 d s) : keyOf Tryz.prog 86 (sV d s) = some (I4 d s) := by
 obtain ⟨kl, e⟩ := aHF h.1 h.2
 unfold I4
 rw [e]
 rfl
theorem key_inj {d s d' s' : Int} (h : X1 d s) (h' : X1 d' s') (e : I4 d s = I4 d' s') : d = d' ∧ s = s' := by
 have h1 := E7 h
 rw [e] at h1
 have h2 := vG.inj h1 (E7 h')
 unfold sV at h2
 injection h2 with h3
 simp only [Array.mk.injEq, List.cons.injEq, Value.int.injEq] at h3
 exact ⟨h3.1.2, h3.2.1.2⟩
theorem aEp {d s : Int} (h : X1 d s) : WideAt.IsKeyLit (I4 d s) := vG.key (E7 h)
def opD (o : aA) : DataW Unit := .agg [.lit (.int .i64 o.dev), .lit (.int .i64 o.seq), .lit (.int .i64 o.stamp), .lit (.int .i64 o.kind), .lit (.string o.item.data.toList), .lit (.int .i64 o.qty), .lit (.int .i64 o.level), .lit (.int .i64 o.undos)]
def aAk : Value → Option (DataW Unit × List MemPlace)
 | .agg ⟨[.int .i64 a, .int .i64 b, .int .i64 c, .int .i64 d, .string e, .int .i64 f, .int .i64 g, .int .i64 h]⟩ => some (opD ⟨a, b, c, d, e, f, g, h⟩, [])
 | _ => none
theorem P7 (o : aA) : aAk (wY o) = some (opD o, []) := rfl
theorem aJ5 {o o' : aA} (h : opD o = opD o') : o = o' := by
 obtain ⟨a, b, c, d, e, f, g, i⟩ := o
 obtain ⟨a', b', c', d', e', f', g', i'⟩ := o'
 simp only [opD, DataW.agg.injEq, List.cons.injEq, DataW.lit.injEq, Lit.int.injEq, Lit.string.injEq, true_and, and_true] at h
 obtain ⟨rfl, rfl, rfl, rfl, h5, rfl, rfl, rfl⟩ := h
 have : e = e' := by
  obtain ⟨⟨x⟩⟩ := e; obtain ⟨⟨y⟩⟩ := e'; simp only at h5
  rw [h5]
 rw [this]
theorem aAj {v : Value} {o : aA} {ps : List MemPlace} (h : aAk v = some (opD o, ps)) : v = wY o := by
 unfold aAk at h
 split at h
 ·rename_i a b c d e f g i
  simp only [Option.some.injEq, Prod.mk.injEq] at h
  rw [← aJ5 h.1]
  rfl
 ·cases h
def jG (w : World) (b n : Nat) (f : Int → Int → Option aA) : Prop :=
 ∃ D, w.ownsMap Tryz.prog 86 aAk b n D ∧ ∀ d s, X1 d s → Maps.has D (I4 d s) = (f d s).isSome ∧ D.atKey (I4 d s) (opD aA.zero) = opD ((f d s).getD aA.zero)
theorem jG.mono {w : World} {b n n' : Nat} {f : Int → Int → Option aA} (h : jG w b n f) (hn : n ≤ n') : jG w b n' f := by
 obtain ⟨D, h1, h2⟩ := h
 exact ⟨D, h1.mono hn, h2⟩
theorem jG.congr {w : World} {b n : Nat} {f g : Int → Int → Option aA} (h : jG w b n f) (e : ∀ d s, X1 d s → g d s = f d s) : jG w b n g := by
 obtain ⟨D, h1, h2⟩ := h
 exact ⟨D, h1, fun d s hf => by rw [e d s hf]; exact h2 d s hf⟩
theorem jG.kept {w w' : World} {b n : Nat} {f : Int → Int → Option aA} (h : jG w b n f) (hb : w'.heap[b]? = w.heap[b]?) : jG w' b n f := by
 obtain ⟨D, ⟨es, aAA, h0, r⟩, h2⟩ := h
 exact ⟨D, ⟨es, aAA, hb.trans h0, r⟩, h2⟩
theorem jG.lt {w : World} {b n : Nat} {f : Int → Int → Option aA} (h : jG w b n f) : b < w.heap.size := by
 obtain ⟨D, h1, _⟩ := h
 exact h1.lt
theorem jG.below {w w' : World} {b n : Nat} {f : Int → Int → Option aA} (h : jG w b n f) (hb : Below w.heap.size w w') : jG w' b n f := h.kept (hb.block _ h.lt)
def G8 (f : Int → Int → Option aA) (x : aA) : Int → Int → Option aA := fun d s => if d = x.dev ∧ s = x.seq then some x else f d s
theorem aGe (w : World) : (zeroValue 50).run Tryz.prog w = .ok (wY aA.zero) w := by kernel_rfl
theorem jG.put {w : World} {b n : Nat} {f : Int → Int → Option aA} (h : jG w b n f) (hn : n < maxLen) (x : aA) (hx : X1 x.dev x.seq) :
  ∃ w', (Instr.mapUpdate 82 (.map (some b)) (sV x.dev x.seq) (wY x)).run Tryz.prog w = .ok () w' ∧ jG w' b (n + 1) (G8 f x) ∧ w.grownBy w' (some b) := by
 obtain ⟨D, h1, h2⟩ := h
 obtain ⟨w', e, h3, h4⟩ := h1.update vG Tryz.underlying82 hn (E7 hx) (P7 x)
 refine ⟨w', e, ⟨_, h3, fun d s hf => ?_⟩, h4⟩
 unfold G8
 by_cases hds : d = x.dev ∧ s = x.seq
 ·obtain ⟨rfl, rfl⟩ := hds
  rw [if_pos ⟨rfl, rfl⟩]; exact ⟨Maps.has_put_same h1.isMap (aEp hx) _, Maps.atKey_put_same h1.isMap (aEp hx) _ _⟩
 ·rw [if_neg hds]
  have bJ : I4 d s ≠ I4 x.dev x.seq := fun e => hds (key_inj hf hx e)
  rw [Maps.has_put_other bJ, Maps.atKey_put_other bJ]; exact h2 d s hf
theorem jG.look {w : World} {b n : Nat} {f : Int → Int → Option aA} (h : jG w b n f) {d s : Int} (hx : X1 d s) :
  (Instr.lookup 82 (.map (some b)) (sV d s) true).run Tryz.prog w = .ok (.tuple #[wY ((f d s).getD aA.zero), .bool (f d s).isSome]) w ∧ (Instr.lookup 82 (.map (some b)) (sV d s) false).run Tryz.prog w = .ok (wY ((f d s).getD aA.zero)) w := by
 obtain ⟨D, h1, h2⟩ := h
 obtain ⟨g1, g2⟩ := h2 d s hx
 constructor
 ·obtain ⟨v, ps, e, hv⟩ := h1.look_ok vG Tryz.underlying82 (aGe w) (P7 aA.zero) (E7 hx)
  rw [g2] at hv; rw [e, aAj hv, g1]
 ·obtain ⟨v, ps, e, hv⟩ := h1.lookup vG Tryz.underlying82 (aGe w) (P7 aA.zero) (E7 hx)
  rw [g2] at hv; rw [e, aAj hv]
def aA.with (o : aA) (u : Int) : aA := ⟨o.dev, o.seq, o.stamp, o.kind, o.item, o.qty, o.level, u⟩
def iW (a b : aA) : Bool := a.dev == b.dev && (a.seq == b.seq && (a.stamp == b.stamp && (a.kind == b.kind && (a.item.toList == b.item.toList && (a.qty == b.qty && a.level == b.level)))))
theorem aBr {a b : ByteArray} (h : a.toList = b.toList) : a = b := by
 rw [Lib.toList_data, Lib.toList_data] at h
 exact ByteArray.ext (Array.toList_inj.1 h)
theorem G7 {a b : aA} (h : iW a b = true) : b = a.with b.undos := by
 obtain ⟨a0, a1, a2, a3, a4, a5, a6, a7⟩ := a
 obtain ⟨b0, b1, b2, b3, b4, b5, b6, b7⟩ := b
 unfold iW at h
 simp only [Bool.and_eq_true, beq_iff_eq] at h
 obtain ⟨h0, h1, h2, h3, h4, h5, h6⟩ := h
 have h4 := aBr h4
 subst h0 h1 h2 h3 h4 h5 h6
 rfl
theorem aBt (a : aA) (u : Int) : iW a (a.with u) = true := by
 unfold iW aA.with
 simp
set_option linter.unusedSimpArgs false in
set_option maxHeartbeats 20000000 in
theorem aGx (a b : aA) (w : World) : Calls Tryz.prog 151 #[.agg #[.int .i64 a.dev, .int .i64 a.seq, .int .i64 a.stamp, .int .i64 a.kind, .string a.item, .int .i64 a.qty, .int .i64 a.level, .int .i64 a.undos], .agg #[.int .i64 b.dev, .int .i64 b.seq, .int .i64 b.stamp, .int .i64 b.kind, .string b.item, .int .i64 b.qty, .int .i64 b.level, .int .i64 b.undos]] w fun e w' => e = .returned (.bool (iW a b)) ∧ Below w.heap.size w w' := by
 have HS : Hid (iW a b = (a.dev == b.dev && (a.seq == b.seq && (a.stamp == b.stamp && (a.kind == b.kind && (a.item.toList == b.item.toList && (a.qty == b.qty && a.level == b.level))))))) := rfl
 go_enter Tryz.func151, Tryz.ntmps151
 go_wp2
 all_goals
  go_ret
  refine ⟨?_, ((Below.refl _ w).alloc aPw _).alloc (by simp) _⟩
  rw [HS.out]
  simp_all
theorem cell_of_block {w w' : World} {b i : Nat} (h : w'.heap[b]? = w.heap[b]?) : w'.cell? ⟨b, i, none⟩ = w.cell? ⟨b, i, none⟩ := by unfold World.cell?; rw [h]
def C4 (l : List aA) : Nat → Int → Int → Option aA
 | 0 => fun _ _ => none
 | k + 1 => G8 (C4 l k) (aB l k)
theorem uK {m : List aA} (h : qF m = true) : ∀ k, k ≤ m.length → ∀ i, i < k → C4 m k (aB m i).dev (aB m i).seq = some (aB m i)
 | 0, _, i, hi => absurd hi (Nat.not_lt_zero _)
 | k + 1, hk, i, hi => by
  show G8 (C4 m k) (aB m k) _ _ = _
  unfold G8
  by_cases e : (aB m i).dev = (aB m k).dev ∧ (aB m i).seq = (aB m k).seq
  ·rw [if_pos e]
   have := I7 h (i := i) (j := k) (by omega) (by omega) (dev := (aB m k).dev) (seq := (aB m k).seq) e ⟨rfl, rfl⟩
   rw [this]
  ·rw [if_neg e]
   have oL : i ≠ k := fun e2 => e (by rw [e2]; exact ⟨rfl, rfl⟩)
   exact uK h k (by omega) i (by omega)
theorem zU {m : List aA} {d s : Int} : ∀ k, (∀ j, j < k → ¬ mM m j d s) → C4 m k d s = none
 | 0, _ => rfl
 | k + 1, h => by
  show G8 (C4 m k) (aB m k) _ _ = _
  unfold G8; rw [if_neg (fun e => h k (by omega) ⟨e.1.symm, e.2.symm⟩)]
  exact zU k fun j hj => h j (by omega)
theorem P1 {m : List aA} {d s : Int} {x : aA} : ∀ k, C4 m k d s = some x → ∃ i, i < k ∧ mM m i d s ∧ aB m i = x
 | 0, h => by cases h
 | k + 1, h => by
  have h' : G8 (C4 m k) (aB m k) d s = some x := h; unfold G8 at h'
  by_cases e : d = (aB m k).dev ∧ s = (aB m k).seq
  ·rw [if_pos e] at h'
   injection h' with h'; exact ⟨k, by omega, ⟨e.1.symm, e.2.symm⟩, h'⟩
  ·rw [if_neg e] at h'
   obtain ⟨i, hi, r⟩ := P1 k h'; exact ⟨i, by omega, r⟩
theorem aGc {o : aA} (h : o.ok = true) : 0 ≤ o.dev ∧ o.dev ≤ 3 ∧ 0 ≤ o.seq ∧ o.seq ≤ 40 ∧ 0 ≤ o.undos ∧ o.undos ≤ 50 := by
 have h' : dK o.dev o.seq o.stamp o.kind o.item o.qty o.level o.undos = true := h
 unfold dK rI at h'
 simp only [Bool.and_eq_true, eR] at h'
 obtain ⟨⟨h1, h2, _, _, h5⟩, _⟩ := h'
 omega
theorem zA {ys : List Int} {m : List aA} (h : aD ys m = true) {d : Nat} (hd : d < 4) {s : Nat} (hs : (s : Int) < ys.getD d 0) : aL ys d + s < m.length ∧ mM m (aL ys d + s) (d : Int) ((s : Int) + 1) := by
 obtain ⟨_, gJ, h4⟩ := fX h
 have hD := gJ d hd
 unfold iF at hD
 rw [Bool.and_eq_true] at hD
 have hR := hD.2
 unfold kR at hR
 rw [List.all_eq_true] at hR
 have hF := hR s (List.mem_range.2 (by omega))
 unfold jT at hF
 simp only [Bool.and_eq_true, decide_eq_true_eq] at hF
 have hm := hC ys (d + 1) 4 (by omega)
 have e : aL ys (d + 1) = aL ys d + (ys.getD d 0).toNat := rfl
 exact ⟨by omega, hF.2.1, hF.2.2.1⟩
theorem aDf {ys : List Int} {m : List aA} (h : aD ys m = true) {j : Nat} (hj : j < m.length) {d : Nat} (e : (aB m j).dev = (d : Int)) : 1 ≤ (aB m j).seq ∧ (aB m j).seq ≤ ys.getD d 0 := by
 obtain ⟨d', _, h1, h2, _, h3, h4⟩ := pW h hj
 have hdd : d' = d := by omega
 subst hdd
 have e : aL ys (d' + 1) = aL ys d' + (ys.getD d' 0).toNat := rfl
 omega
theorem aA2 {ys : List Int} {m : List aA} (h : aD ys m = true) {d : Nat} (hd : d < 4) {s : Nat} (hs : (s : Int) < ys.getD d 0) : C4 m m.length (d : Int) ((s : Int) + 1) = some (aB m (aL ys d + s)) := by
 obtain ⟨h1, h2, h3⟩ := zA h hd hs
 have := uK (pP h) m.length aPw _ h1
 rw [h2, h3] at this
 exact this
theorem aC9 {ys : List Int} {m : List aA} (h : aD ys m = true) {d : Nat} {s : Int} (hs : ys.getD d 0 < s) : C4 m m.length (d : Int) s = none :=
 zU _ fun j hj e => by
  have := aDf h hj e.1; have := e.2; omega
def kX (l : List aA) (d s : Int) : Option aA := C4 l l.length d s
def mV (l m : List aA) (d s : Int) : aA := match kX l d s, kX m d s with
 | some a, some b => a.with (max a.undos b.undos)
 | some a, none => a
 | none, some b => b
 | none, none => aA.zero
def eE (zs : List Int) (F : Nat → Nat → aA) (d s : Nat) : List aA := ((List.range d).flatMap fun e => (List.range (zs.getD e 0).toNat).map fun i => F e i) ++ (List.range s).map fun i => F d i
theorem wZ (zs : List Int) (F : Nat → Nat → aA) (d s : Nat) : eE zs F d (s + 1) = eE zs F d s ++ [F d s] := by
 unfold eE
 rw [List.range_succ, List.map_append, ← List.append_assoc]
 rfl
theorem xA (zs : List Int) (F : Nat → Nat → aA) (d : Nat) : eE zs F (d + 1) 0 = eE zs F d (zs.getD d 0).toNat := by
 unfold eE
 rw [List.range_succ, List.flatMap_append]
 simp
theorem rX (zs : List Int) (F : Nat → Nat → aA) : ∀ d s, (eE zs F d s).length = aL zs d + s
 | 0, s => by simp [eE, aL]
 | d + 1, 0 => by
  rw [xA, rX zs F d]
  rfl
 | d + 1, s + 1 => by
  rw [wZ, List.length_append, rX zs F (d + 1) s]
  rfl
theorem Q8 (zs : List Int) (F : Nat → Nat → aA) (d : Nat) : ∀ k s, s ≤ s + k → ∃ r, eE zs F d (s + k) = eE zs F d s ++ r
 | 0, s, _ => ⟨[], by simp⟩
 | k + 1, s, _ => by
  obtain ⟨r, h⟩ := Q8 zs F d k s (by omega)
  exact ⟨r ++ [F d (s + k)], by rw [← Nat.add_assoc, wZ, h, List.append_assoc]⟩
theorem aBG (zs : List Int) (F : Nat → Nat → aA) (d : Nat) : ∀ k, ∃ r, eE zs F (d + k) 0 = eE zs F d 0 ++ r
 | 0 => ⟨[], by simp⟩
 | k + 1 => by
  obtain ⟨r, h⟩ := aBG zs F d k; obtain ⟨r2, h2⟩ := Q8 zs F (d + k) (zs.getD (d + k) 0).toNat 0 (by omega)
  refine ⟨r ++ r2, ?_⟩
  rw [← Nat.add_assoc, xA, ← List.append_assoc, ← h]
  simpa using h2
theorem aCF (zs : List Int) (F : Nat → Nat → aA) {d s : Nat} (hd : d < 4) (hs : s < (zs.getD d 0).toNat) : aB (eE zs F 4 0) (aL zs d + s) = F d s := by
 obtain ⟨r, h⟩ := aBG zs F (d + 1) (3 - d)
 have e4 : d + 1 + (3 - d) = 4 := by omega
 rw [e4, xA zs F d] at h
 obtain ⟨r2, h2⟩ := Q8 zs F d ((zs.getD d 0).toNat - (s + 1)) (s + 1) (by omega)
 have e5 : s + 1 + ((zs.getD d 0).toNat - (s + 1)) = (zs.getD d 0).toNat := by omega
 rw [e5, wZ zs F d s] at h2
 rw [h2] at h
 have hl := rX zs F d s
 unfold aB
 rw [h, List.getD_eq_getElem?_getD, List.append_assoc, List.append_assoc, List.getElem?_append_right (by omega), hl]
 simp
def dE (l m : List aA) : Nat → Nat → aA := fun d s => mV l m (d : Int) ((s : Int) + 1)
def Q4 (zs : List Int) (l m : List aA) : List aA := eE zs (dE l m) 4 0
def okJ (l : List aA) (x : aA) : Bool := match kX l x.dev x.seq with
 | none => true
 | some y => iW x y
def qP (l m : List aA) : Bool := (List.range m.length).all fun i => okJ l (aB m i)
theorem aHz {l m : List aA} {k : Nat} (hk : k < m.length) (h : okJ l (aB m k) = false) : qP l m = false := by
 unfold qP
 rw [List.all_eq_false]
 exact ⟨k, List.mem_range.2 hk, by rw [h]; simp⟩
theorem aK4 {l m : List aA} (h : qP l m = true) {k : Nat} (hk : k < m.length) : okJ l (aB m k) = true := by
 unfold qP at h
 rw [List.all_eq_true] at h
 exact h k (List.mem_range.2 hk)
theorem aJ8 {l m : List aA} (h : ∀ i, i < m.length → okJ l (aB m i) = true) : qP l m = true := by
 unfold qP
 rw [List.all_eq_true]
 exact fun i hi => h i (List.mem_range.1 hi)
theorem aHA {l : List aA} {x : aA} (h : kX l x.dev x.seq = none) : okJ l x = true := by unfold okJ; rw [h]
theorem m8 {l : List aA} {x y : aA} (h : kX l x.dev x.seq = some y) : okJ l x = iW x y := by unfold okJ; rw [h]
def kQ (xs : List Int) (l : List aA) (ys : List Int) (m : List aA) : Bool := aD xs l && (aD ys m && qP l m)
theorem aGq {xs : List Int} {l : List aA} {ys : List Int} {m : List aA} (h : aD xs l = false) : kQ xs l ys m = false := by unfold kQ; rw [h]; rfl
theorem aGp {xs : List Int} {l : List aA} {ys : List Int} {m : List aA} (h : aD ys m = false) : kQ xs l ys m = false := by unfold kQ; rw [h]; simp
theorem aGo {xs : List Int} {l : List aA} {ys : List Int} {m : List aA} (h : aD xs l = true) (h2 : aD ys m = true) : kQ xs l ys m = qP l m := by unfold kQ; rw [h, h2]; rfl
theorem aEg {a : aA} (h : a.ok = true) {u : Int} (h0 : 0 ≤ u) (h1 : u ≤ 50) : (a.with u).ok = true := by
 have h' : dK a.dev a.seq a.stamp a.kind a.item a.qty a.level a.undos = true := h
 show dK a.dev a.seq a.stamp a.kind a.item a.qty a.level u = true
 unfold dK rI at h' ⊢
 simp only [Bool.and_eq_true, eR] at h' ⊢
 obtain ⟨⟨a1, a2, a3, a4, _⟩, a6⟩ := h'
 exact ⟨⟨a1, a2, a3, a4, h0, h1⟩, a6⟩
theorem pQ {xs : List Int} {l : List aA} (h : aD xs l = true) {d : Nat} (hd : d < 4) {s : Nat} (hs : (s : Int) < xs.getD d 0) : jT l d (aL xs d) s = true := by
 have hD := (fX h).2.1 d hd
 unfold iF at hD
 rw [Bool.and_eq_true] at hD
 have hR := hD.2
 unfold kR at hR
 rw [List.all_eq_true] at hR
 exact hR s (List.mem_range.2 (by omega))
theorem jS {l : List aA} {d st s : Nat} (h : jT l d st s = true) : (aB l (st + s)).ok = true ∧ (aB l (st + s)).dev = (d : Int) ∧ (aB l (st + s)).seq = (s : Int) + 1 ∧ dJ l st s < (aB l (st + s)).stamp := by
 unfold jT at h
 simpa only [Bool.and_eq_true, decide_eq_true_eq] using h
theorem aCB {xs : List Int} {l : List aA} {ys : List Int} {m : List aA} (h : aD xs l = true) (h2 : aD ys m = true) (ho : qP l m = true) {d : Nat} (hd : d < 4) {s : Nat} (hs : (s : Int) < max (xs.getD d 0) (ys.getD d 0)) :
  (dE l m d s).ok = true ∧ (dE l m d s).dev = (d : Int) ∧ (dE l m d s).seq = (s : Int) + 1 ∧ ((s : Int) < xs.getD d 0 → (dE l m d s).stamp = (aB l (aL xs d + s)).stamp) ∧ ((s : Int) < ys.getD d 0 → (dE l m d s).stamp = (aB m (aL ys d + s)).stamp) := by
 show (mV l m _ _).ok = true ∧ (mV l m _ _).dev = _ ∧ (mV l m _ _).seq = _ ∧ (_ → (mV l m _ _).stamp = _) ∧ (_ → (mV l m _ _).stamp = _)
 unfold mV
 by_cases hx : (s : Int) < xs.getD d 0
 ·have e1 : kX l (d : Int) ((s : Int) + 1) = some (aB l (aL xs d + s)) := aA2 h hd hx
  obtain ⟨a1, a2, a3, _⟩ := jS (pQ h hd hx); rw [e1]
  by_cases hy : (s : Int) < ys.getD d 0
  ·have e2 : kX m (d : Int) ((s : Int) + 1) = some (aB m (aL ys d + s)) := aA2 h2 hd hy
   obtain ⟨b1, b2, b3, _⟩ := jS (pQ h2 hd hy); obtain ⟨h5, h6⟩ := zA h2 hd hy; have hj := aK4 ho h5; rw [m8 (by rw [h6.1, h6.2]; exact e1)] at hj
   have ha := G7 hj; have u1 := aGc a1; have u2 := aGc b1; rw [e2]; refine ⟨aEg a1 (by omega) (by omega), a2, a3, fun _ => rfl, fun _ => ?_⟩
   show (aB l (aL xs d + s)).stamp = _
   rw [ha]
   rfl
  ·have e2 : kX m (d : Int) ((s : Int) + 1) = none := aC9 h2 (by omega)
   rw [e2]; exact ⟨a1, a2, a3, fun _ => rfl, fun h => absurd h hy⟩
 ·have hy : (s : Int) < ys.getD d 0 := by omega
  have e1 : kX l (d : Int) ((s : Int) + 1) = none := aC9 h (by omega)
  have e2 : kX m (d : Int) ((s : Int) + 1) = some (aB m (aL ys d + s)) := aA2 h2 hd hy; obtain ⟨b1, b2, b3, _⟩ := jS (pQ h2 hd hy); rw [e1, e2]; exact ⟨b1, b2, b3, fun h => absurd h hx, fun _ => rfl⟩
def lK (xs ys : List Int) : List Int := List.zipWith max xs ys
theorem aAT {xs ys : List Int} (h : xs.length = 4) (h2 : ys.length = 4) {d : Nat} (hd : d < 4) : (lK xs ys).getD d 0 = max (xs.getD d 0) (ys.getD d 0) := by
 unfold lK
 rw [List.getD_eq_getElem?_getD, List.getD_eq_getElem?_getD, List.getD_eq_getElem?_getD, List.getElem?_zipWith, List.getElem?_eq_getElem (by omega), List.getElem?_eq_getElem (by omega)]
 rfl
theorem aAS {xs ys : List Int} (h : cG xs = true) (h2 : cG ys = true) : cG (lK xs ys) = true := by
 have l1 := (eM h (d := 0) (by omega)).2.2
 have l2 := (eM h2 (d := 0) (by omega)).2.2
 have l3 : (lK xs ys).length = 4 := by unfold lK; rw [List.length_zipWith]; omega
 unfold cG
 rw [Bool.and_eq_true]
 refine ⟨?_, decide_eq_true l3⟩
 rw [List.all_eq_true]
 intro x hx
 obtain ⟨i, hi, e⟩ := List.mem_iff_getElem.1 hx
 have hi4 : i < 4 := by omega
 have e2 : (lK xs ys).getD i 0 = x := by rw [List.getD_eq_getElem?_getD, List.getElem?_eq_getElem hi]; exact e
 rw [aAT l1 l2 hi4] at e2
 have g1 := eM h hi4
 have g2 := eM h2 hi4
 rw [← e2]
 unfold sZ
 rw [Bool.and_eq_true]
 exact ⟨decide_eq_true (by omega), decide_eq_true (by omega)⟩
theorem i8 {xs : List Int} {l : List aA} {ys : List Int} {m : List aA} (h : aD xs l = true) (h2 : aD ys m = true) (ho : qP l m = true) : aD (lK xs ys) (Q4 (lK xs ys) l m) = true := by
 have v1 := (fX h).1
 have v2 := (fX h2).1
 have l1 := (eM v1 (d := 0) (by omega)).2.2
 have l2 := (eM v2 (d := 0) (by omega)).2.2
 have kU : (Q4 (lK xs ys) l m).length = aL (lK xs ys) 4 := rX _ _ 4 0
 rw [s9 (aAS v1 v2) fun d hd => ?_]
 ·exact decide_eq_true kU.symm
 ·have hm := hC (lK xs ys) (d + 1) 4 (by omega)
  unfold iF; rw [Bool.and_eq_true]; refine ⟨decide_eq_true (by omega), ?_⟩
  unfold kR; rw [List.all_eq_true]
  intro s hs
  have hs := List.mem_range.1 hs; have hz := aAT l1 l2 hd; have hsi : (s : Int) < max (xs.getD d 0) (ys.getD d 0) := by rw [← hz]; omega
  have ea : aB (Q4 (lK xs ys) l m) (aL (lK xs ys) d + s) = dE l m d s := aCF _ _ hd hs; obtain ⟨m1, m2, m3, m4, m5⟩ := aCB h h2 ho hd hsi; refine sE (by rw [ea]; exact m1) (by rw [ea]; exact m2) (by rw [ea]; exact m3) ?_
  rw [ea]; cases s with
  | zero =>
   have e0 : ∀ L st, dJ L st 0 = 0 := fun _ _ => rfl
   rw [e0]
   by_cases hx : ((0 : Nat) : Int) < xs.getD d 0
   ·rw [m4 hx]
    have := (jS (pQ h hd hx)).2.2.2; rw [e0] at this; exact this
   ·have hy : ((0 : Nat) : Int) < ys.getD d 0 := by omega
    rw [m5 hy]; have := (jS (pQ h2 hd hy)).2.2.2; rw [e0] at this; exact this
  | succ t =>
   rw [vF]; have eb : aB (Q4 (lK xs ys) l m) (aL (lK xs ys) d + t) = dE l m d t := aCF _ _ hd (by omega)
   rw [eb]; obtain ⟨_, _, _, n4, n5⟩ := aCB h h2 ho hd (s := t) (by omega)
   by_cases hx : ((t + 1 : Nat) : Int) < xs.getD d 0
   ·rw [m4 hx, n4 (by omega)]
    have := (jS (pQ h hd hx)).2.2.2; rw [vF] at this; exact this
   ·have hy : ((t + 1 : Nat) : Int) < ys.getD d 0 := by omega
    rw [m5 hy, n5 (by omega)]
    have := (jS (pQ h2 hd hy)).2.2.2; rw [vF] at this; exact this
theorem aDS {l m : List aA} {N : Nat} (hl : ∀ i, i < l.length → (aB l i).item.size ≤ N) (hm : ∀ i, i < m.length → (aB m i).item.size ≤ N) (d s : Nat) : (dE l m d s).item.size ≤ N := by
 show (mV l m _ _).item.size ≤ N
 unfold mV
 rcases e1 : kX l (d : Int) ((s : Int) + 1) with _ | a
 ·rcases e2 : kX m (d : Int) ((s : Int) + 1) with _ | b
  ·exact Nat.zero_le _
  ·obtain ⟨i, hi, _, e⟩ := P1 _ e2
   show b.item.size ≤ N
   rw [← e]; exact hm i hi
 ·obtain ⟨i, hi, _, e⟩ := P1 _ e1
  rcases e2 : kX m (d : Int) ((s : Int) + 1) with _ | b
  ·show a.item.size ≤ N
   rw [← e]; exact hl i hi
  ·show a.item.size ≤ N
   rw [← e]; exact hl i hi
theorem aF4 (w : World) (B B' : Nat) (a a' : Option Addr) (len cap lL fY : Nat) (xs ys : List Int) (h : Ints w B a len xs) (h' : Ints w B' a' lL ys) (hl : len ≤ 1048576) (hl' : lL ≤ 1048576) :
  Calls Tryz.prog 50 #[.slice a len cap, .slice a' lL fY] w (aMW xs ys w) := by
 have hL := aPu h.1
 have hL' := aPu h'.1
 have H := aPu h
 have H' := aPu h'
 clear h h'
 by_cases hn : len = lL
 ·subst hn
  go_enter Tryz.func50, Tryz.ntmps50
  go_wp2
  go_loopw [5] (fun i wr => ∃ k n : Nat, k ≤ len ∧ i = .int .i64 k ∧ wr = w.drewN n ∧ Hid (xs.take k = ys.take k)) (fun i _ => len - (intOf i).toNat)
  case atStart => exact ⟨0, 0, Nat.zero_le _, rfl, rfl, rfl⟩
  case round =>
   obtain ⟨k, n, hk, rfl, rfl, HA⟩ := hrel
   by_cases aK : k < len
   ·obtain ⟨b, off, rfl, hb, hc⟩ := H.out.2 k aK
    obtain ⟨b', iE, rfl, T1, hc'⟩ := H'.out.2 k aK; obtain ⟨x, hx⟩ : ∃ x, x = xs.getD k 0 := ⟨_, rfl⟩; obtain ⟨y, hy⟩ : ∃ y, y = ys.getD k 0 := ⟨_, rfl⟩; rw [← hx] at hc; rw [← hy] at hc'; have HX := aPu hx; have HY := aPu hy; have hki : (k : Int) < (len : Int) := by omega
    clear hx hy
    by_cases e : x = y
    ·subst e
     have HS : Hid (xs.take (k + 1) = ys.take (k + 1)) := aCE (by rw [hL.out]; exact aK) (by rw [hL'.out]; exact aK) HA.out (by rw [← HX.out, ← HY.out])
     go_wp2
     go_quiet (fail)
     go_wp2
     go_roundw
     case rel => exact ⟨k + 1, n + nq, by omega, by go_num, rfl, HS⟩
     case measure => simp [intOf]; omega
    ·have bJ : (x != y) = true := by simpa using e
     have HV : Hid (decide (xs = ys) = false) := decide_eq_false (aKb (k := k) (by rw [← HX.out, ← HY.out]; exact e))
     clear e; go_wp2
     go_quiet (fail)
     go_wp2
     go_ret
     exact ⟨jC HV.out.symm, n + nq, World.drewN_drewN ..⟩
   ·have HV : Hid (decide (xs = ys) = true) := decide_eq_true (by
     have := HA.out
     rwa [List.take_of_length_le (by have := hL.out; omega), List.take_of_length_le (by have := hL'.out; omega)] at this)
    go_wp2
    go_ret
    exact ⟨jC HV.out.symm, n, rfl⟩
 ·have bJ : ((len : Int) != (lL : Int)) = true := by simp; omega
  have HV : Hid (decide (xs = ys) = false) := decide_eq_false (fun e => hn (by rw [← hL.out, ← hL'.out, e]))
  go_enter Tryz.func50, Tryz.ntmps50
  go_wp2
  go_ret
  exact ⟨jC HV.out.symm, 0, rfl⟩
instance : DecidableEq aA := fun a b => by
 obtain ⟨a0, a1, a2, a3, a4, a5, a6, a7⟩ := a
 obtain ⟨b0, b1, b2, b3, b4, b5, b6, b7⟩ := b
 rw [aA.mk.injEq]
 exact inferInstance
theorem aK0 {a b : aA} (h0 : a.dev = b.dev) (h1 : a.seq = b.seq) (h2 : a.stamp = b.stamp) (h3 : a.kind = b.kind) (h4 : a.item.toList = b.item.toList) (h5 : a.qty = b.qty) (h6 : a.level = b.level) (h7 : a.undos = b.undos) : a = b := by
 obtain ⟨a0, a1, a2, a3, a4, a5, a6, a7⟩ := a
 obtain ⟨b0, b1, b2, b3, b4, b5, b6, b7⟩ := b
 have g4 := aBr h4
 clear h4
 simp only at h0 h1 h2 h3 g4 h5 h6 h7
 subst h0 h1 h2 h3 g4 h5 h6 h7
 rfl
def aCd (a b : aA) : Bool := a.dev == b.dev && (a.seq == b.seq && (a.stamp == b.stamp && (a.kind == b.kind && (a.item.toList == b.item.toList && (a.qty == b.qty && (a.level == b.level && a.undos == b.undos))))))
theorem full_of {a b : aA} (h0 : a.dev = b.dev) (h1 : a.seq = b.seq) (h2 : a.stamp = b.stamp) (h3 : a.kind = b.kind) (h4 : a.item.toList = b.item.toList) (h5 : a.qty = b.qty) (h6 : a.level = b.level) (h7 : a.undos = b.undos) : aCd a b = true := by
 unfold aCd
 simp only [Bool.and_eq_true, beq_iff_eq]
 exact ⟨h0, h1, h2, h3, h4, h5, h6, h7⟩
theorem aKj {a b : aA} (h : a ≠ b) : aCd a b = false := by
 rw [Bool.eq_false_iff]
 intro e
 unfold aCd at e
 simp only [Bool.and_eq_true, beq_iff_eq] at e
 obtain ⟨h0, h1, h2, h3, h4, h5, h6, h7⟩ := e
 exact h (aK0 h0 h1 h2 h3 h4 h5 h6 h7)
theorem aDO {xs ys : List aA} {k : Nat} (hx : k < xs.length) (hy : k < ys.length) (h : xs.take k = ys.take k) (e : aB xs k = aB ys k) : xs.take (k + 1) = ys.take (k + 1) := by
 unfold aB at e
 rw [List.getD_eq_getElem?_getD, List.getD_eq_getElem?_getD, List.getElem?_eq_getElem hx, List.getElem?_eq_getElem hy] at e
 have e : xs[k] = ys[k] := e
 rw [List.take_succ_eq_append_getElem hx, List.take_succ_eq_append_getElem hy, h, e]
theorem aK1 {xs ys : List aA} {k : Nat} (e : aB xs k ≠ aB ys k) : xs ≠ ys := fun h => e (by rw [h])
def aMX (xs ys : List aA) (w : World) (e : Ending) (w' : World) : Prop := e = .returned (.bool (decide (xs = ys))) ∧ Below w.heap.size w w'
set_option maxHeartbeats 20000000 in
theorem aJK (w : World) (B B' : Nat) (a a' : Option Addr) (len cap lL fY : Nat) (xs ys : List aA) (h : bK w B a len xs) (h' : bK w B' a' lL ys) (hB : B ≤ w.heap.size) (hB' : B' ≤ w.heap.size) (hl : len ≤ 1048576) (hl' : lL ≤ 1048576) :
  Calls Tryz.prog 33 #[.slice a len cap, .slice a' lL fY] w (aMX xs ys w) := by
 have hL := aPu h.1
 have hL' := aPu h'.1
 have H := aPu h
 have H' := aPu h'
 clear h h'
 by_cases hn : len = lL
 ·subst hn
  go_enter Tryz.func33, Tryz.ntmps33
  go_wp2
  go_loopw [5] (fun i wr => ∃ k : Nat, k ≤ len ∧ i = .int .i64 k ∧ Hid (Below w.heap.size w wr) ∧ Hid (xs.take k = ys.take k)) (fun i _ => len - (intOf i).toNat)
  case atStart => exact ⟨0, Nat.zero_le _, rfl, Below.refl _ _, rfl⟩
  case round =>
   obtain ⟨k, hk, rfl, HB, HA⟩ := hrel
   by_cases aK : k < len
   ·obtain ⟨b, off, rfl, hb, hc⟩ := (H.out.below HB.out hB).2 k aK
    obtain ⟨b', iE, rfl, T1, hc'⟩ := (H'.out.below HB.out hB').2 k aK; have hx : nI wr b (off + k * 8) (aB xs k) := hc; have hy : nI wr b' (iE + k * 8) (aB ys k) := hc'; have HS : Hid (aB xs k = aB ys k → xs.take (k + 1) = ys.take (k + 1)) := fun e => aDO (by rw [hL.out]; exact aK) (by rw [hL'.out]; exact aK) HA.out e
    have HN : Hid (aB xs k ≠ aB ys k → decide (xs = ys) = false) := fun e => decide_eq_false (aK1 e)
    clear hc hc'; generalize aB xs k = x at hx HS HN; generalize aB ys k = y at hy HS HN; obtain ⟨d0, d1, d2, d3, d4, d5, d6, d7⟩ := hx; obtain ⟨e0, e1, e2, e3, e4, e5, e6, e7⟩ := hy; have hki : (k : Int) < (len : Int) := by omega
    by_cases e : x = y
    ·subst e
     have HS1 := aPu (HS.out rfl); go_wp2
     go_region
     go_wp2
     go_roundw
     case rel => exact ⟨k + 1, by omega, by go_num, HB.out.drew, HS1⟩
     case measure => simp [intOf]; omega
    ·have HV := aPu (HN.out e)
     have HF := aPu (aKj e); clear e
     --DRAWN
     have hS : wr.drew.cell? ⟨b, off + k * 8, none⟩ = some (.int .i64 x.dev) ∧ wr.drew.cell? ⟨b, off + k * 8 + 1, none⟩ = some (.int .i64 x.seq) ∧ wr.drew.cell? ⟨b, off + k * 8 + 2, none⟩ = some (.int .i64 x.stamp) ∧ wr.drew.cell? ⟨b, off + k * 8 + 3, none⟩ = some (.int .i64 x.kind) ∧ wr.drew.cell? ⟨b, off + k * 8 + 4, none⟩ = some (.string x.item) ∧ wr.drew.cell? ⟨b, off + k * 8 + 5, none⟩ = some (.int .i64 x.qty) ∧ wr.drew.cell? ⟨b, off + k * 8 + 6, none⟩ = some (.int .i64 x.level) ∧ wr.drew.cell? ⟨b, off + k * 8 + 7, none⟩ = some (.int .i64 x.undos) ∧ wr.drew.cell? ⟨b', iE + k * 8, none⟩ = some (.int .i64 y.dev) ∧ wr.drew.cell? ⟨b', iE + k * 8 + 1, none⟩ = some (.int .i64 y.seq) ∧ wr.drew.cell? ⟨b', iE + k * 8 + 2, none⟩ = some (.int .i64 y.stamp) ∧ wr.drew.cell? ⟨b', iE + k * 8 + 3, none⟩ = some (.int .i64 y.kind) ∧ wr.drew.cell? ⟨b', iE + k * 8 + 4, none⟩ = some (.string y.item) ∧ wr.drew.cell? ⟨b', iE + k * 8 + 5, none⟩ = some (.int .i64 y.qty) ∧ wr.drew.cell? ⟨b', iE + k * 8 + 6, none⟩ = some (.int .i64 y.level) ∧ wr.drew.cell? ⟨b', iE + k * 8 + 7, none⟩ = some (.int .i64 y.undos) := ⟨d0, d1, d2, d3, d4, d5, d6, d7, e0, e1, e2, e3, e4, e5, e6, e7⟩
     go_wp2_with fail
     refine wp_region_held_drew (S := fun w' => w'.cell? ⟨b, off + k * 8, none⟩ = some (.int .i64 x.dev) ∧ w'.cell? ⟨b, off + k * 8 + 1, none⟩ = some (.int .i64 x.seq) ∧ w'.cell? ⟨b, off + k * 8 + 2, none⟩ = some (.int .i64 x.stamp) ∧ w'.cell? ⟨b, off + k * 8 + 3, none⟩ = some (.int .i64 x.kind) ∧ w'.cell? ⟨b, off + k * 8 + 4, none⟩ = some (.string x.item) ∧ w'.cell? ⟨b, off + k * 8 + 5, none⟩ = some (.int .i64 x.qty) ∧ w'.cell? ⟨b, off + k * 8 + 6, none⟩ = some (.int .i64 x.level) ∧ w'.cell? ⟨b, off + k * 8 + 7, none⟩ = some (.int .i64 x.undos) ∧ w'.cell? ⟨b', iE + k * 8, none⟩ = some (.int .i64 y.dev) ∧ w'.cell? ⟨b', iE + k * 8 + 1, none⟩ = some (.int .i64 y.seq) ∧ w'.cell? ⟨b', iE + k * 8 + 2, none⟩ = some (.int .i64 y.stamp) ∧ w'.cell? ⟨b', iE + k * 8 + 3, none⟩ = some (.int .i64 y.kind) ∧ w'.cell? ⟨b', iE + k * 8 + 4, none⟩ = some (.string y.item) ∧ w'.cell? ⟨b', iE + k * 8 + 5, none⟩ = some (.int .i64 y.qty) ∧ w'.cell? ⟨b', iE + k * 8 + 6, none⟩ = some (.int .i64 y.level) ∧ w'.cell? ⟨b', iE + k * 8 + 7, none⟩ = some (.int .i64 y.undos)) (by kernel_rfl) hS (fun aP => ?_)
     refine tk 0 ⟨some 17, .move (.tmp 0), 25, "laws.go:39", #[], none⟩ ?_
     (try simp only [Act.put, u1, u2, u3])
     refine tk 1 ⟨some 18, .move (.tmp 5), 3, "laws.go:39", #[], none⟩ ?_
     (try simp only [Act.put, u1, u2, u3])
     refine tk 2 ⟨some 19, .indexAddr 25 (.tmp 17) (.tmp 18), 0, "laws.go:39", #[⟨0, .data⟩, ⟨1, .data⟩], none⟩ ?_
     (try simp only [Act.put, u1, u2, u3])
     refine tk 3 ⟨some 20, .load 50 (.tmp 19), 50, "laws.go:39", #[⟨2, .data⟩], none⟩ ?_
     (try simp only [Act.put, u1, u2, u3])
     refine tk 4 ⟨some 21, .move (.tmp 1), 25, "laws.go:39", #[], none⟩ ?_
     (try simp only [Act.put, u1, u2, u3])
     refine tk 5 ⟨some 22, .move (.tmp 5), 3, "laws.go:39", #[], none⟩ ?_
     (try simp only [Act.put, u1, u2, u3])
     refine tk 6 ⟨some 23, .indexAddr 25 (.tmp 21) (.tmp 22), 0, "laws.go:39", #[⟨4, .data⟩, ⟨5, .data⟩], none⟩ ?_
     (try simp only [Act.put, u1, u2, u3])
     refine tk 7 ⟨some 24, .load 50 (.tmp 23), 50, "laws.go:39", #[⟨6, .data⟩], none⟩ ?_
     (try simp only [Act.put, u1, u2, u3])
     refine wpAnyH_take (i := 8) (oi := ⟨some 25, .binOp .neq 50 (.tmp 20) (.tmp 24) 50, 4, "laws.go:39", #[⟨3, .data⟩, ⟨7, .data⟩], none⟩) (v := .bool true) rfl (by kernel_rfl) (by kernel_rfl) (by kernel_rfl) (fun _ _ _ h => h) (Or.inl ⟨by rfl, ?_⟩) (by assumption) ?_
     ·intro w hSw
      (try dsimp only at hSw)
      obtain ⟨c0, c1, c2, c3, c4, c5, c6, c7, g0, g1, g2, g3, g4, g5, g6, g7⟩ := hSw
      go_simp
      intros
      intro aJx
      exact absurd (full_of (a := x) (b := y) (by assumption) (by assumption) (by assumption) (by assumption) (by first | assumption | exact congrArg ByteArray.toList (by assumption)) (by assumption) (by assumption) (by assumption)) (by rw [HF.out]; decide)
     (try simp only [Act.put, u1, u2, u3])
     refine wpAnyH_done (by kernel_rfl) ?_ _
     clear hS d0 d1 d2 d3 d4 d5 d6 d7 e0 e1 e2 e3 e4 e5 e6 e7; go_wp2
     go_ret
     exact ⟨jC HV.out.symm, HB.out.drew⟩
   ·have HV : Hid (decide (xs = ys) = true) := decide_eq_true (by
     have := HA.out
     rwa [List.take_of_length_le (by have := hL.out; omega), List.take_of_length_le (by have := hL'.out; omega)] at this)
    go_wp2
    go_ret
    exact ⟨jC HV.out.symm, HB.out⟩
 ·have bJ : ((len : Int) != (lL : Int)) = true := by simp; omega
  have HV : Hid (decide (xs = ys) = false) := decide_eq_false (fun e => hn (by rw [← hL.out, ← hL'.out, e]))
  go_enter Tryz.func33, Tryz.ntmps33
  go_wp2
  go_ret
  exact ⟨jC HV.out.symm, Below.refl _ _⟩
set_option maxHeartbeats 20000000 in
theorem rK (w : World) (B : Nat) (av ao bv bo : Option Addr) (nv cv no co mv dv mo eo : Nat) (xs : List Int) (l : List aA) (ys : List Int) (m : List aA) (hx : Ints w B av nv xs) (h : bK w B ao no l) (hy : Ints w B bv mv ys) (g : bK w B bo mo m) (hB : B ≤ w.heap.size) (hv : nv ≤ 1048576) (hn : no ≤ 1048576) (wM : mv ≤ 1048576) (vJ : mo ≤ 1048576) :
  Calls Tryz.prog 20 #[.agg #[.slice av nv cv, .slice ao no co], .agg #[.slice bv mv dv, .slice bo mo eo]] w fun e w' => e = .returned (.bool (decide (xs = ys) && decide (l = m))) ∧ Below w.heap.size w w' := by
 have hT := qZ.mk0 w #[.slice av nv cv, .slice ao no co] #[.slice bv mv dv, .slice bo mo eo] 27
 have HV := aPu (hx.below hT.bel hB)
 have HO := aPu (h.below hT.bel hB)
 have HY := aPu (hy.below hT.bel hB)
 have HG := aPu (g.below hT.bel hB)
 have HT := aPu hT
 clear hx h hy g hT
 go_enter Tryz.func20, Tryz.ntmps20
 go_wp2_with fail
 generalize (w.alloc (.cells #[.slice av nv cv, .slice ao no co] 27)).alloc (.cells #[.slice bv mv dv, .slice bo mo eo] 27) = w0 at HV HO HY HG HT ⊢
 obtain ⟨a0, a1⟩ := pair_cells HT.out.fst
 obtain ⟨b0, b1⟩ := pair_cells HT.out.snd
 have lQ := HT.out.bel.size
 refine (aF4 w0 B B av bv nv cv mv dv xs ys HV.out HY.out hv wM).mono ?_
 rintro e w1 ⟨rfl, dM⟩
 have aE := dM.below w0.heap.size
 have cI := aPu (HO.out.below aE (by omega))
 have sM := aPu (HG.out.below aE (by omega))
 have aT := aPu (HT.out.next aE)
 have dZ := aE.size
 clear dM aE HV HO HY HG HT a0 a1 b0 b1
 obtain ⟨p, hp⟩ : ∃ p, decide (xs = ys) = p := ⟨_, rfl⟩
 have HP := aPu hp
 rw [hp]
 clear hp
 cases p
 ·have HB := aPu aT.out.bel
  go_wp2
  go_ret
  exact ⟨by rw [HP.out]; rfl, HB.out⟩
 obtain ⟨a0, a1⟩ := pair_cells aT.out.fst
 obtain ⟨b0, b1⟩ := pair_cells aT.out.snd
 go_wp2_with fail
 refine (aJK w1 B B ao bo no co mo eo l m cI.out sM.out (by omega) (by omega) hn vJ).mono ?_
 rintro e w2 ⟨rfl, aG⟩
 have HB := aPu (aT.out.bel.trans (aG.mono aT.out.bel.size))
 clear aG
 obtain ⟨q, hq⟩ : ∃ q, decide (l = m) = q := ⟨_, rfl⟩
 have HQ := aPu hq
 rw [hq]
 clear hq
 cases q
 all_goals
  go_wp2
  go_ret
  exact ⟨by rw [HP.out, HQ.out]; rfl, HB.out⟩
theorem aB2 {l : List aA} {i : Nat} (h : i < l.length) : aB l i ∈ l := by
 unfold aB
 rw [List.getD_eq_getElem?_getD, List.getElem?_eq_getElem h]
 exact List.getElem_mem h
def aCb (o : aA) : Int × Int := (o.dev, o.seq)
theorem aCh {l : List aA} {o : aA} : iI l o = true ↔ ∃ x, x ∈ l ∧ aCb x = aCb o ∧ (oY x != oY o) = true := by
 unfold iI aCb
 rw [List.any_eq_true]
 constructor
 ·rintro ⟨j, hj, hp⟩
  rw [List.mem_range] at hj; simp only [Bool.and_eq_true, decide_eq_true_eq] at hp
  exact ⟨_, aB2 hj, by rw [hp.1, hp.2.1], hp.2.2⟩
 ·rintro ⟨x, hx, e, hu⟩
  obtain ⟨j, hj, ej⟩ := List.mem_iff_getElem.1 hx; have ea : aB l j = x := by
   unfold aB; rw [List.getD_eq_getElem?_getD, List.getElem?_eq_getElem hj]; exact ej
  rw [Prod.mk.injEq] at e; refine ⟨j, by rw [List.mem_range]; exact hj, ?_⟩
  rw [ea, decide_eq_true e.1, decide_eq_true e.2, hu]
  rfl
theorem aHk {xs : List Int} {l : List aA} (h : aD xs l = true) : O6 xs l xs l = [] := by
 rw [X4 (by rw [h]; rfl), List.filter_eq_nil_iff]
 intro o ho hc
 obtain ⟨x, hx, en, hu⟩ := aCh.1 hc
 obtain ⟨j, hj, ej⟩ := List.mem_iff_getElem.1 hx
 obtain ⟨k, hk, ek⟩ := List.mem_iff_getElem.1 ho
 have ea : aB l j = x := by
  unfold aB; rw [List.getD_eq_getElem?_getD, List.getElem?_eq_getElem hj]; exact ej
 have eb : aB l k = o := by
  unfold aB; rw [List.getD_eq_getElem?_getD, List.getElem?_eq_getElem hk]; exact ek
 unfold aCb at en
 rw [Prod.mk.injEq] at en
 have : j = k := I7 (pP h) hj hk (dev := x.dev) (seq := x.seq) ⟨by rw [ea], by rw [ea]⟩ ⟨by rw [eb, en.1], by rw [eb, en.2]⟩
 subst this
 rw [← ea, ← eb, bne_self_eq_false] at hu
 cases hu
end Go.Proofs.YthkagbnpcjidfaaGreatDoor
