/- Walks and mathematics that several claims share, part 31. -/
import Derived.Test.YthkagbnpcjidfaaGreatDoorGu24
import Derived.Maps.OwnSet
import Derived.DeepKeys4
import Derived.Lib.MinMax
import Derived.Deep.Cut
import Derived.Deep.RegionHeld3
namespace Go.Proofs.YthkagbnpcjidfaaGreatDoor
set_option maxRecDepth 100000
open Go.RowKit
set_option linter.unusedVariables false
set_option linter.unusedSimpArgs false
open Go.Maps (Keyed)
theorem aHX : laidOutB Tryz.prog = true := by kernel_rfl
theorem aHU : (match Tryz.prog.underlying 86 with | some (.array _ _) | some (.struct _) => true | _ => false) = true := by kernel_rfl
theorem vJ : Keyed Tryz.prog 86 := Keyed.of_law (deep_law_laid aHX (m := 2) (by omega) (of_decide_eq_true (by kernel_rfl)) (by kernel_rfl) aHU)
def sN (d s : Int) : Value := .agg #[.int .i64 d, .int .i64 s]
theorem aHV : Tryz.prog.keyType 86 = true := by kernel_rfl
theorem aBJ : Tryz.prog.cellsOf 86 = 2 := by kernel_rfl
theorem intCells : Tryz.prog.cellsOf 2 = 1 := by kernel_rfl
theorem aHW : ∃ m, Tryz.prog.types.size = m + 1 := ⟨Tryz.prog.types.size - 1, by have : 0 < Tryz.prog.types.size := of_decide_eq_true (by kernel_rfl); omega⟩
theorem aHT {d s : Int} (hd : (Lit.int .i64 d).wf = true) (hs : (Lit.int .i64 s).wf = true) : ∃ kl, keyOf Tryz.prog 86 (sN d s) = some kl := by
 obtain ⟨m, hm⟩ := aHW
 have hf : (sN d s).formed Tryz.prog 86 = true := by simp [sN, Value.formed, Tryz.underlying86, aBJ]
 have hl : ∃ ls, Tryz.prog.keyLits (Tryz.prog.types.size + 1) 86 (sN d s).cells.toList = some ls := by
  rw [hm]; simp [Program.keyLits, Tryz.underlying86, Tryz.underlying2, sN, Value.cells, aBJ, intCells, hd, hs]
 obtain ⟨ls, pO⟩ := hl
 exact ⟨.string (keyBytes ls), by unfold keyOf; rw [Tryz.underlying86]; simp only [aHV, hf, pO, Bool.and_self, if_true, Option.map_some]⟩
noncomputable def J2 (d s : Int) : Lit := (keyOf Tryz.prog 86 (sN d s)).getD (.bool false)
def W8 (d s : Int) : Prop := (Lit.int .i64 d).wf = true ∧ (Lit.int .i64 s).wf = true
theorem F0 {d s : Int} (h : W8 d s) : keyOf Tryz.prog 86 (sN d s) = some (J2 d s) := by
 obtain ⟨kl, e⟩ := aHT h.1 h.2
 unfold J2
 rw [e]
 rfl
theorem key_inj {d s d' s' : Int} (h : W8 d s) (h' : W8 d' s') (e : J2 d s = J2 d' s') : d = d' ∧ s = s' := by
 have h1 := F0 h
 rw [e] at h1
 have h2 := vJ.inj h1 (F0 h')
 unfold sN at h2
 injection h2 with h3
 simp only [Array.mk.injEq, List.cons.injEq, Value.int.injEq] at h3
 exact ⟨h3.1.2, h3.2.1.2⟩
theorem aEF {d s : Int} (h : W8 d s) : WideAt.IsKeyLit (J2 d s) := vJ.key (F0 h)
def opD (o : aA) : DataW Unit := .agg [.lit (.int .i64 o.dev), .lit (.int .i64 o.seq), .lit (.int .i64 o.stamp), .lit (.int .i64 o.kind), .lit (.string o.item.data.toList), .lit (.int .i64 o.qty), .lit (.int .i64 o.level), .lit (.int .i64 o.undos)]
def aAi : Value → Option (DataW Unit × List MemPlace)
 | .agg ⟨[.int .i64 a, .int .i64 b, .int .i64 c, .int .i64 d, .string e, .int .i64 f, .int .i64 g, .int .i64 h]⟩ => some (opD ⟨a, b, c, d, e, f, g, h⟩, [])
 | _ => none
theorem Q0 (o : aA) : aAi (X4 o) = some (opD o, []) := rfl
theorem aKd {o o' : aA} (h : opD o = opD o') : o = o' := by
 obtain ⟨a, b, c, d, e, f, g, i⟩ := o
 obtain ⟨a', b', c', d', e', f', g', i'⟩ := o'
 simp only [opD, DataW.agg.injEq, List.cons.injEq, DataW.lit.injEq, Lit.int.injEq, Lit.string.injEq, true_and, and_true] at h
 obtain ⟨rfl, rfl, rfl, rfl, h5, rfl, rfl, rfl⟩ := h
 have : e = e' := by
  obtain ⟨⟨x⟩⟩ := e; obtain ⟨⟨y⟩⟩ := e'; simp only at h5
  rw [h5]
 rw [this]
theorem aAh {v : Value} {o : aA} {ps : List MemPlace} (h : aAi v = some (opD o, ps)) : v = X4 o := by
 unfold aAi at h
 split at h
 ·rename_i a b c d e f g i
  simp only [Option.some.injEq, Prod.mk.injEq] at h
  rw [← aKd h.1]
  rfl
 ·cases h
def jA (w : World) (b n : Nat) (f : Int → Int → Option aA) : Prop :=
 ∃ D, w.ownsMap Tryz.prog 86 aAi b n D ∧ ∀ d s, W8 d s → Maps.has D (J2 d s) = (f d s).isSome ∧ D.atKey (J2 d s) (opD aA.zero) = opD ((f d s).getD aA.zero)
theorem jA.mono {w : World} {b n n' : Nat} {f : Int → Int → Option aA} (h : jA w b n f) (hn : n ≤ n') : jA w b n' f := by
 obtain ⟨D, h1, h2⟩ := h
 exact ⟨D, h1.mono hn, h2⟩
theorem jA.congr {w : World} {b n : Nat} {f g : Int → Int → Option aA} (h : jA w b n f) (e : ∀ d s, W8 d s → g d s = f d s) : jA w b n g := by
 obtain ⟨D, h1, h2⟩ := h
 exact ⟨D, h1, fun d s hf => by rw [e d s hf]; exact h2 d s hf⟩
theorem jA.kept {w w' : World} {b n : Nat} {f : Int → Int → Option aA} (h : jA w b n f) (hb : w'.heap[b]? = w.heap[b]?) : jA w' b n f := by
 obtain ⟨D, ⟨es, aAz, h0, r⟩, h2⟩ := h
 exact ⟨D, ⟨es, aAz, hb.trans h0, r⟩, h2⟩
theorem jA.lt {w : World} {b n : Nat} {f : Int → Int → Option aA} (h : jA w b n f) : b < w.heap.size := by
 obtain ⟨D, h1, _⟩ := h
 exact h1.lt
theorem jA.below {w w' : World} {b n : Nat} {f : Int → Int → Option aA} (h : jA w b n f) (hb : Below w.heap.size w w') : jA w' b n f := h.kept (hb.block _ h.lt)
def I2 (f : Int → Int → Option aA) (x : aA) : Int → Int → Option aA := fun d s => if d = x.dev ∧ s = x.seq then some x else f d s
theorem aGs (w : World) : (zeroValue 50).run Tryz.prog w = .ok (X4 aA.zero) w := by kernel_rfl
theorem jA.put {w : World} {b n : Nat} {f : Int → Int → Option aA} (h : jA w b n f) (hn : n < maxLen) (x : aA) (hx : W8 x.dev x.seq) :
  ∃ w', (Instr.mapUpdate 82 (.map (some b)) (sN x.dev x.seq) (X4 x)).run Tryz.prog w = .ok () w' ∧ jA w' b (n + 1) (I2 f x) ∧ w.grownBy w' (some b) := by
 obtain ⟨D, h1, h2⟩ := h
 obtain ⟨w', e, h3, h4⟩ := h1.update vJ Tryz.underlying82 hn (F0 hx) (Q0 x)
 refine ⟨w', e, ⟨_, h3, fun d s hf => ?_⟩, h4⟩
 unfold I2
 by_cases hds : d = x.dev ∧ s = x.seq
 ·obtain ⟨rfl, rfl⟩ := hds
  rw [if_pos ⟨rfl, rfl⟩]; exact ⟨Maps.has_put_same h1.isMap (aEF hx) _, Maps.atKey_put_same h1.isMap (aEF hx) _ _⟩
 ·rw [if_neg hds]
  have bO : J2 d s ≠ J2 x.dev x.seq := fun e => hds (key_inj hf hx e)
  rw [Maps.has_put_other bO, Maps.atKey_put_other bO]; exact h2 d s hf
theorem jA.look {w : World} {b n : Nat} {f : Int → Int → Option aA} (h : jA w b n f) {d s : Int} (hx : W8 d s) :
  (Instr.lookup 82 (.map (some b)) (sN d s) true).run Tryz.prog w = .ok (.tuple #[X4 ((f d s).getD aA.zero), .bool (f d s).isSome]) w ∧ (Instr.lookup 82 (.map (some b)) (sN d s) false).run Tryz.prog w = .ok (X4 ((f d s).getD aA.zero)) w := by
 obtain ⟨D, h1, h2⟩ := h
 obtain ⟨g1, g2⟩ := h2 d s hx
 constructor
 ·obtain ⟨v, ps, e, hv⟩ := h1.look_ok vJ Tryz.underlying82 (aGs w) (Q0 aA.zero) (F0 hx)
  rw [g2] at hv; rw [e, aAh hv, g1]
 ·obtain ⟨v, ps, e, hv⟩ := h1.lookup vJ Tryz.underlying82 (aGs w) (Q0 aA.zero) (F0 hx)
  rw [g2] at hv; rw [e, aAh hv]
def aA.with (o : aA) (u : Int) : aA := ⟨o.dev, o.seq, o.stamp, o.kind, o.item, o.qty, o.level, u⟩
def iL (a b : aA) : Bool := a.dev == b.dev && (a.seq == b.seq && (a.stamp == b.stamp && (a.kind == b.kind && (a.item.toList == b.item.toList && (a.qty == b.qty && a.level == b.level)))))
theorem aF6 {a b : ByteArray} (h : a.toList = b.toList) : a = b := by
 rw [Lib.toList_data, Lib.toList_data] at h
 exact ByteArray.ext (Array.toList_inj.1 h)
theorem I1 {a b : aA} (h : iL a b = true) : b = a.with b.undos := by
 obtain ⟨a0, a1, a2, a3, a4, a5, a6, a7⟩ := a
 obtain ⟨b0, b1, b2, b3, b4, b5, b6, b7⟩ := b
 unfold iL at h
 simp only [Bool.and_eq_true, beq_iff_eq] at h
 obtain ⟨h0, h1, h2, h3, h4, h5, h6⟩ := h
 have h4 := aF6 h4
 subst h0 h1 h2 h3 h4 h5 h6
 rfl
theorem aBD (a : aA) (u : Int) : iL a (a.with u) = true := by
 unfold iL aA.with
 simp
set_option linter.unusedSimpArgs false in
set_option maxHeartbeats 20000000 in
theorem aGM (a b : aA) (w : World) : Calls Tryz.prog 151 #[.agg #[.int .i64 a.dev, .int .i64 a.seq, .int .i64 a.stamp, .int .i64 a.kind, .string a.item, .int .i64 a.qty, .int .i64 a.level, .int .i64 a.undos], .agg #[.int .i64 b.dev, .int .i64 b.seq, .int .i64 b.stamp, .int .i64 b.kind, .string b.item, .int .i64 b.qty, .int .i64 b.level, .int .i64 b.undos]] w fun e w' => e = .returned (.bool (iL a b)) ∧ Below w.heap.size w w' := by
 have HS : Hid (iL a b = (a.dev == b.dev && (a.seq == b.seq && (a.stamp == b.stamp && (a.kind == b.kind && (a.item.toList == b.item.toList && (a.qty == b.qty && a.level == b.level))))))) := rfl
 go_enter Tryz.func151, Tryz.ntmps151
 go_wp2
 all_goals
  go_ret
  refine ⟨?_, ((Below.refl _ w).alloc aPq _).alloc (by simp) _⟩
  rw [HS.out]
  simp_all
theorem cell_of_block {w w' : World} {b i : Nat} (h : w'.heap[b]? = w.heap[b]?) : w'.cell? ⟨b, i, none⟩ = w.cell? ⟨b, i, none⟩ := by unfold World.cell?; rw [h]
def D6 (l : List aA) : Nat → Int → Int → Option aA
 | 0 => fun _ _ => none
 | k + 1 => I2 (D6 l k) (aC l k)
theorem uC {m : List aA} (h : R5 m = true) : ∀ k, k ≤ m.length → ∀ i, i < k → D6 m k (aC m i).dev (aC m i).seq = some (aC m i)
 | 0, _, i, hi => absurd hi (Nat.not_lt_zero _)
 | k + 1, hk, i, hi => by
  show I2 (D6 m k) (aC m k) _ _ = _
  unfold I2
  by_cases e : (aC m i).dev = (aC m k).dev ∧ (aC m i).seq = (aC m k).seq
  ·rw [if_pos e]
   have := aCV h (i := i) (j := k) (by omega) (by omega) (dev := (aC m k).dev) (seq := (aC m k).seq) e ⟨rfl, rfl⟩
   rw [this]
  ·rw [if_neg e]
   have oG : i ≠ k := fun e2 => e (by rw [e2]; exact ⟨rfl, rfl⟩)
   exact uC h k (by omega) i (by omega)
theorem zX {m : List aA} {d s : Int} : ∀ k, (∀ j, j < k → ¬ yY m j d s) → D6 m k d s = none
 | 0, _ => rfl
 | k + 1, h => by
  show I2 (D6 m k) (aC m k) _ _ = _
  unfold I2; rw [if_neg (fun e => h k (by omega) ⟨e.1.symm, e.2.symm⟩)]
  exact zX k fun j hj => h j (by omega)
theorem P4 {m : List aA} {d s : Int} {x : aA} : ∀ k, D6 m k d s = some x → ∃ i, i < k ∧ yY m i d s ∧ aC m i = x
 | 0, h => by cases h
 | k + 1, h => by
  have h' : I2 (D6 m k) (aC m k) d s = some x := h; unfold I2 at h'
  by_cases e : d = (aC m k).dev ∧ s = (aC m k).seq
  ·rw [if_pos e] at h'
   injection h' with h'; exact ⟨k, by omega, ⟨e.1.symm, e.2.symm⟩, h'⟩
  ·rw [if_neg e] at h'
   obtain ⟨i, hi, r⟩ := P4 k h'; exact ⟨i, by omega, r⟩
theorem aGr {o : aA} (h : o.ok = true) : 0 ≤ o.dev ∧ o.dev ≤ 3 ∧ 0 ≤ o.seq ∧ o.seq ≤ 40 ∧ 0 ≤ o.undos ∧ o.undos ≤ 50 := by
 have h' : dM o.dev o.seq o.stamp o.kind o.item o.qty o.level o.undos = true := h
 unfold dM rA at h'
 simp only [Bool.and_eq_true, gJ] at h'
 obtain ⟨⟨h1, h2, _, _, h5⟩, _⟩ := h'
 omega
theorem zA {ys : List Int} {m : List aA} (h : aE ys m = true) {d : Nat} (hd : d < 4) {s : Nat} (hs : (s : Int) < ys.getD d 0) : aO ys d + s < m.length ∧ yY m (aO ys d + s) (d : Int) ((s : Int) + 1) := by
 obtain ⟨_, jI, h4⟩ := jQ h
 have hD := jI d hd
 unfold iQ at hD
 rw [Bool.and_eq_true] at hD
 have hR := hD.2
 unfold lP at hR
 rw [List.all_eq_true] at hR
 have hF := hR s (List.mem_range.2 (by omega))
 unfold kD at hF
 simp only [Bool.and_eq_true, decide_eq_true_eq] at hF
 have hm := jB ys (d + 1) 4 (by omega)
 have e : aO ys (d + 1) = aO ys d + (ys.getD d 0).toNat := rfl
 exact ⟨by omega, hF.2.1, hF.2.2.1⟩
theorem aDi {ys : List Int} {m : List aA} (h : aE ys m = true) {j : Nat} (hj : j < m.length) {d : Nat} (e : (aC m j).dev = (d : Int)) : 1 ≤ (aC m j).seq ∧ (aC m j).seq ≤ ys.getD d 0 := by
 obtain ⟨d', _, h1, h2, _, h3, h4⟩ := uP h hj
 have hdd : d' = d := by omega
 subst hdd
 have e : aO ys (d' + 1) = aO ys d' + (ys.getD d' 0).toNat := rfl
 omega
theorem aBt {ys : List Int} {m : List aA} (h : aE ys m = true) {d : Nat} (hd : d < 4) {s : Nat} (hs : (s : Int) < ys.getD d 0) : D6 m m.length (d : Int) ((s : Int) + 1) = some (aC m (aO ys d + s)) := by
 obtain ⟨h1, h2, h3⟩ := zA h hd hs
 have := uC (uO h) m.length aPq _ h1
 rw [h2, h3] at this
 exact this
theorem aDc {ys : List Int} {m : List aA} (h : aE ys m = true) {d : Nat} {s : Int} (hs : ys.getD d 0 < s) : D6 m m.length (d : Int) s = none :=
 zX _ fun j hj e => by
  have := aDi h hj e.1; have := e.2; omega
def lD (l : List aA) (d s : Int) : Option aA := D6 l l.length d s
def nD (l m : List aA) (d s : Int) : aA := match lD l d s, lD m d s with
 | some a, some b => a.with (max a.undos b.undos)
 | some a, none => a
 | none, some b => b
 | none, none => aA.zero
def eI (zs : List Int) (F : Nat → Nat → aA) (d s : Nat) : List aA := ((List.range d).flatMap fun e => (List.range (zs.getD e 0).toNat).map fun i => F e i) ++ (List.range s).map fun i => F d i
theorem wY (zs : List Int) (F : Nat → Nat → aA) (d s : Nat) : eI zs F d (s + 1) = eI zs F d s ++ [F d s] := by
 unfold eI
 rw [List.range_succ, List.map_append, ← List.append_assoc]
 rfl
theorem wZ (zs : List Int) (F : Nat → Nat → aA) (d : Nat) : eI zs F (d + 1) 0 = eI zs F d (zs.getD d 0).toNat := by
 unfold eI
 rw [List.range_succ, List.flatMap_append]
 simp
theorem rS (zs : List Int) (F : Nat → Nat → aA) : ∀ d s, (eI zs F d s).length = aO zs d + s
 | 0, s => by simp [eI, aO]
 | d + 1, 0 => by
  rw [wZ, rS zs F d]
  rfl
 | d + 1, s + 1 => by
  rw [wY, List.length_append, rS zs F (d + 1) s]
  rfl
theorem R0 (zs : List Int) (F : Nat → Nat → aA) (d : Nat) : ∀ k s, s ≤ s + k → ∃ r, eI zs F d (s + k) = eI zs F d s ++ r
 | 0, s, _ => ⟨[], by simp⟩
 | k + 1, s, _ => by
  obtain ⟨r, h⟩ := R0 zs F d k s (by omega)
  exact ⟨r ++ [F d (s + k)], by rw [← Nat.add_assoc, wY, h, List.append_assoc]⟩
theorem aBN (zs : List Int) (F : Nat → Nat → aA) (d : Nat) : ∀ k, ∃ r, eI zs F (d + k) 0 = eI zs F d 0 ++ r
 | 0 => ⟨[], by simp⟩
 | k + 1 => by
  obtain ⟨r, h⟩ := aBN zs F d k; obtain ⟨r2, h2⟩ := R0 zs F (d + k) (zs.getD (d + k) 0).toNat 0 (by omega)
  refine ⟨r ++ r2, ?_⟩
  rw [← Nat.add_assoc, wZ, ← List.append_assoc, ← h]
  simpa using h2
theorem aCH (zs : List Int) (F : Nat → Nat → aA) {d s : Nat} (hd : d < 4) (hs : s < (zs.getD d 0).toNat) : aC (eI zs F 4 0) (aO zs d + s) = F d s := by
 obtain ⟨r, h⟩ := aBN zs F (d + 1) (3 - d)
 have e4 : d + 1 + (3 - d) = 4 := by omega
 rw [e4, wZ zs F d] at h
 obtain ⟨r2, h2⟩ := R0 zs F d ((zs.getD d 0).toNat - (s + 1)) (s + 1) (by omega)
 have e5 : s + 1 + ((zs.getD d 0).toNat - (s + 1)) = (zs.getD d 0).toNat := by omega
 rw [e5, wY zs F d s] at h2
 rw [h2] at h
 have hl := rS zs F d s
 unfold aC
 rw [h, List.getD_eq_getElem?_getD, List.append_assoc, List.append_assoc, List.getElem?_append_right (by omega), hl]
 simp
def dH (l m : List aA) : Nat → Nat → aA := fun d s => nD l m (d : Int) ((s : Int) + 1)
def Q5 (zs : List Int) (l m : List aA) : List aA := eI zs (dH l m) 4 0
def okJ (l : List aA) (x : aA) : Bool := match lD l x.dev x.seq with
 | none => true
 | some y => iL x y
def qN (l m : List aA) : Bool := (List.range m.length).all fun i => okJ l (aC m i)
theorem aHO {l m : List aA} {k : Nat} (hk : k < m.length) (h : okJ l (aC m k) = false) : qN l m = false := by
 unfold qN
 rw [List.all_eq_false]
 exact ⟨k, List.mem_range.2 hk, by rw [h]; simp⟩
theorem aLa {l m : List aA} (h : qN l m = true) {k : Nat} (hk : k < m.length) : okJ l (aC m k) = true := by
 unfold qN at h
 rw [List.all_eq_true] at h
 exact h k (List.mem_range.2 hk)
theorem aKg {l m : List aA} (h : ∀ i, i < m.length → okJ l (aC m i) = true) : qN l m = true := by
 unfold qN
 rw [List.all_eq_true]
 exact fun i hi => h i (List.mem_range.1 hi)
theorem aHP {l : List aA} {x : aA} (h : lD l x.dev x.seq = none) : okJ l x = true := by unfold okJ; rw [h]
theorem m0 {l : List aA} {x y : aA} (h : lD l x.dev x.seq = some y) : okJ l x = iL x y := by unfold okJ; rw [h]
def kR (xs : List Int) (l : List aA) (ys : List Int) (m : List aA) : Bool := aE xs l && (aE ys m && qN l m)
theorem aGE {xs : List Int} {l : List aA} {ys : List Int} {m : List aA} (h : aE xs l = false) : kR xs l ys m = false := by unfold kR; rw [h]; rfl
theorem aGD {xs : List Int} {l : List aA} {ys : List Int} {m : List aA} (h : aE ys m = false) : kR xs l ys m = false := by unfold kR; rw [h]; simp
theorem aGC {xs : List Int} {l : List aA} {ys : List Int} {m : List aA} (h : aE xs l = true) (h2 : aE ys m = true) : kR xs l ys m = qN l m := by unfold kR; rw [h, h2]; rfl
theorem aEx {a : aA} (h : a.ok = true) {u : Int} (h0 : 0 ≤ u) (h1 : u ≤ 50) : (a.with u).ok = true := by
 have h' : dM a.dev a.seq a.stamp a.kind a.item a.qty a.level a.undos = true := h
 show dM a.dev a.seq a.stamp a.kind a.item a.qty a.level u = true
 unfold dM rA at h' ⊢
 simp only [Bool.and_eq_true, gJ] at h' ⊢
 obtain ⟨⟨a1, a2, a3, a4, _⟩, a6⟩ := h'
 exact ⟨⟨a1, a2, a3, a4, h0, h1⟩, a6⟩
theorem pT {xs : List Int} {l : List aA} (h : aE xs l = true) {d : Nat} (hd : d < 4) {s : Nat} (hs : (s : Int) < xs.getD d 0) : kD l d (aO xs d) s = true := by
 have hD := (jQ h).2.1 d hd
 unfold iQ at hD
 rw [Bool.and_eq_true] at hD
 have hR := hD.2
 unfold lP at hR
 rw [List.all_eq_true] at hR
 exact hR s (List.mem_range.2 (by omega))
theorem jO {l : List aA} {d st s : Nat} (h : kD l d st s = true) : (aC l (st + s)).ok = true ∧ (aC l (st + s)).dev = (d : Int) ∧ (aC l (st + s)).seq = (s : Int) + 1 ∧ dO l st s < (aC l (st + s)).stamp := by
 unfold kD at h
 simpa only [Bool.and_eq_true, decide_eq_true_eq] using h
theorem aCB {xs : List Int} {l : List aA} {ys : List Int} {m : List aA} (h : aE xs l = true) (h2 : aE ys m = true) (ho : qN l m = true) {d : Nat} (hd : d < 4) {s : Nat} (hs : (s : Int) < max (xs.getD d 0) (ys.getD d 0)) :
  (dH l m d s).ok = true ∧ (dH l m d s).dev = (d : Int) ∧ (dH l m d s).seq = (s : Int) + 1 ∧ ((s : Int) < xs.getD d 0 → (dH l m d s).stamp = (aC l (aO xs d + s)).stamp) ∧ ((s : Int) < ys.getD d 0 → (dH l m d s).stamp = (aC m (aO ys d + s)).stamp) := by
 show (nD l m _ _).ok = true ∧ (nD l m _ _).dev = _ ∧ (nD l m _ _).seq = _ ∧ (_ → (nD l m _ _).stamp = _) ∧ (_ → (nD l m _ _).stamp = _)
 unfold nD
 by_cases hx : (s : Int) < xs.getD d 0
 ·have e1 : lD l (d : Int) ((s : Int) + 1) = some (aC l (aO xs d + s)) := aBt h hd hx
  obtain ⟨a1, a2, a3, _⟩ := jO (pT h hd hx); rw [e1]
  by_cases hy : (s : Int) < ys.getD d 0
  ·have e2 : lD m (d : Int) ((s : Int) + 1) = some (aC m (aO ys d + s)) := aBt h2 hd hy
   obtain ⟨b1, b2, b3, _⟩ := jO (pT h2 hd hy); obtain ⟨h5, h6⟩ := zA h2 hd hy; have hj := aLa ho h5; rw [m0 (by rw [h6.1, h6.2]; exact e1)] at hj
   have ha := I1 hj; have u1 := aGr a1; have u2 := aGr b1; rw [e2]; refine ⟨aEx a1 (by omega) (by omega), a2, a3, fun _ => rfl, fun _ => ?_⟩
   show (aC l (aO xs d + s)).stamp = _
   rw [ha]
   rfl
  ·have e2 : lD m (d : Int) ((s : Int) + 1) = none := aDc h2 (by omega)
   rw [e2]; exact ⟨a1, a2, a3, fun _ => rfl, fun h => absurd h hy⟩
 ·have hy : (s : Int) < ys.getD d 0 := by omega
  have e1 : lD l (d : Int) ((s : Int) + 1) = none := aDc h (by omega)
  have e2 : lD m (d : Int) ((s : Int) + 1) = some (aC m (aO ys d + s)) := aBt h2 hd hy; obtain ⟨b1, b2, b3, _⟩ := jO (pT h2 hd hy); rw [e1, e2]; exact ⟨b1, b2, b3, fun h => absurd h hx, fun _ => rfl⟩
def lQ (xs ys : List Int) : List Int := List.zipWith max xs ys
theorem aBj {xs ys : List Int} (h : xs.length = 4) (h2 : ys.length = 4) {d : Nat} (hd : d < 4) : (lQ xs ys).getD d 0 = max (xs.getD d 0) (ys.getD d 0) := by
 unfold lQ
 rw [List.getD_eq_getElem?_getD, List.getD_eq_getElem?_getD, List.getD_eq_getElem?_getD, List.getElem?_zipWith, List.getElem?_eq_getElem (by omega), List.getElem?_eq_getElem (by omega)]
 rfl
theorem aBi {xs ys : List Int} (h : cJ xs = true) (h2 : cJ ys = true) : cJ (lQ xs ys) = true := by
 have l1 := (fU h (d := 0) (by omega)).2.2
 have l2 := (fU h2 (d := 0) (by omega)).2.2
 have l3 : (lQ xs ys).length = 4 := by unfold lQ; rw [List.length_zipWith]; omega
 unfold cJ
 rw [Bool.and_eq_true]
 refine ⟨?_, decide_eq_true l3⟩
 rw [List.all_eq_true]
 intro x hx
 obtain ⟨i, hi, e⟩ := List.mem_iff_getElem.1 hx
 have hi4 : i < 4 := by omega
 have e2 : (lQ xs ys).getD i 0 = x := by rw [List.getD_eq_getElem?_getD, List.getElem?_eq_getElem hi]; exact e
 rw [aBj l1 l2 hi4] at e2
 have g1 := fU h hi4
 have g2 := fU h2 hi4
 rw [← e2]
 unfold sR
 rw [Bool.and_eq_true]
 exact ⟨decide_eq_true (by omega), decide_eq_true (by omega)⟩
theorem g7 {xs : List Int} {l : List aA} {ys : List Int} {m : List aA} (h : aE xs l = true) (h2 : aE ys m = true) (ho : qN l m = true) : aE (lQ xs ys) (Q5 (lQ xs ys) l m) = true := by
 have v1 := (jQ h).1
 have v2 := (jQ h2).1
 have l1 := (fU v1 (d := 0) (by omega)).2.2
 have l2 := (fU v2 (d := 0) (by omega)).2.2
 have mQ : (Q5 (lQ xs ys) l m).length = aO (lQ xs ys) 4 := rS _ _ 4 0
 rw [q8 (aBi v1 v2) fun d hd => ?_]
 ·exact decide_eq_true mQ.symm
 ·have hm := jB (lQ xs ys) (d + 1) 4 (by omega)
  unfold iQ; rw [Bool.and_eq_true]; refine ⟨decide_eq_true (by omega), ?_⟩
  unfold lP; rw [List.all_eq_true]
  intro s hs
  have hs := List.mem_range.1 hs; have hz := aBj l1 l2 hd; have hsi : (s : Int) < max (xs.getD d 0) (ys.getD d 0) := by rw [← hz]; omega
  have ea : aC (Q5 (lQ xs ys) l m) (aO (lQ xs ys) d + s) = dH l m d s := aCH _ _ hd hs; obtain ⟨m1, m2, m3, m4, m5⟩ := aCB h h2 ho hd hsi; refine rY (by rw [ea]; exact m1) (by rw [ea]; exact m2) (by rw [ea]; exact m3) ?_
  rw [ea]; cases s with
  | zero =>
   have e0 : ∀ L st, dO L st 0 = 0 := fun _ _ => rfl
   rw [e0]
   by_cases hx : ((0 : Nat) : Int) < xs.getD d 0
   ·rw [m4 hx]
    have := (jO (pT h hd hx)).2.2.2; rw [e0] at this; exact this
   ·have hy : ((0 : Nat) : Int) < ys.getD d 0 := by omega
    rw [m5 hy]; have := (jO (pT h2 hd hy)).2.2.2; rw [e0] at this; exact this
  | succ t =>
   rw [vI]; have eb : aC (Q5 (lQ xs ys) l m) (aO (lQ xs ys) d + t) = dH l m d t := aCH _ _ hd (by omega)
   rw [eb]; obtain ⟨_, _, _, n4, n5⟩ := aCB h h2 ho hd (s := t) (by omega)
   by_cases hx : ((t + 1 : Nat) : Int) < xs.getD d 0
   ·rw [m4 hx, n4 (by omega)]
    have := (jO (pT h hd hx)).2.2.2; rw [vI] at this; exact this
   ·have hy : ((t + 1 : Nat) : Int) < ys.getD d 0 := by omega
    rw [m5 hy, n5 (by omega)]
    have := (jO (pT h2 hd hy)).2.2.2; rw [vI] at this; exact this
theorem aEc {l m : List aA} {N : Nat} (hl : ∀ i, i < l.length → (aC l i).item.size ≤ N) (hm : ∀ i, i < m.length → (aC m i).item.size ≤ N) (d s : Nat) : (dH l m d s).item.size ≤ N := by
 show (nD l m _ _).item.size ≤ N
 unfold nD
 rcases e1 : lD l (d : Int) ((s : Int) + 1) with _ | a
 ·rcases e2 : lD m (d : Int) ((s : Int) + 1) with _ | b
  ·exact Nat.zero_le _
  ·obtain ⟨i, hi, _, e⟩ := P4 _ e2
   show b.item.size ≤ N
   rw [← e]; exact hm i hi
 ·obtain ⟨i, hi, _, e⟩ := P4 _ e1
  rcases e2 : lD m (d : Int) ((s : Int) + 1) with _ | b
  ·show a.item.size ≤ N
   rw [← e]; exact hl i hi
  ·show a.item.size ≤ N
   rw [← e]; exact hl i hi
instance : DecidableEq aA := fun a b => by
 obtain ⟨a0, a1, a2, a3, a4, a5, a6, a7⟩ := a
 obtain ⟨b0, b1, b2, b3, b4, b5, b6, b7⟩ := b
 rw [aA.mk.injEq]
 exact inferInstance
end Go.Proofs.YthkagbnpcjidfaaGreatDoor
