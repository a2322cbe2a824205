/- Walks and mathematics that several claims share, part 7. -/
import Derived.Test.YthkagbnpcjidfaaGreatDoorGq2
import Derived.Test.YthkagbnpcjidfaaGreatDoorGq4
import Derived.Test.YthkagbnpcjidfaaGreatDoorGq5
import Derived.Test.YthkagbnpcjidfaaGreatDoorGq6
import Derived.Deep.RegionHeld3
import Derived.RegionTactic
import Derived.Laws.Cover3
import Derived.Deep.AppendLies
import Derived.Lib.SliceRun
import Derived.Lib.MinMax
import Derived.Deep.Cut
import Derived.Test.YthkagbnpcjidfaaGreatDoorRows
import Derived.WalkKit
import Derived.Lib.Hide
import Derived.Lib.Strings
import Derived.Maps.OwnSet
import Derived.Sort.KeysCollected
import Derived.Below
import Derived.WalkLawsBesides
import Derived.Deep.QuietTactic
import Derived.BigQuiet
import Derived.Laws.Rows
import Derived.WalkSpells
import Derived.OwnWalk
import Derived.Laws.BytesArg
import Derived.Deep.Draws
namespace Go.Proofs.YthkagbnpcjidfaaGreatDoor
set_option maxRecDepth 100000
open Go.RowKit
set_option linter.unusedVariables false
set_option linter.unusedSimpArgs false
theorem pair_cells {w : World} {b : Nat} {v0 v1 : Value} {T : TypeId} {fr : Nat × Nat} (h : w.heap[b]? = some (.cells #[v0, v1] T fr)) : w.cell? ⟨b, 0, none⟩ = some v0 ∧ w.cell? ⟨b, 1, none⟩ = some v1 :=
 ⟨aRs h, aRs h⟩
theorem aC {w : World} {b : Nat} {cs : Array Value} {T : TypeId} (h : w.heap[b]? = some (.cells cs T (0, 0))) : w.frozen? ⟨b, 0, none⟩ = false ∧ w.frozen? ⟨b, 1, none⟩ = false :=
 ⟨aRt h, aRt h⟩
theorem cH {w : World} {b : Nat} {c0 c1 : Value} {T : TypeId} (v0 v1 : Value) (h : w.heap[b]? = some (.cells #[c0, c1] T (0, 0))) : ((w.setCell ⟨b, 0, none⟩ v0).setCell ⟨b, 1, none⟩ v1).heap[b]? = some (.cells #[v0, v1] T (0, 0)) := by
 have h0 : (w.setCell ⟨b, 0, none⟩ v0).heap[b]? = some (.cells #[v0, c1] T (0, 0)) := heap_setCell_same _ _ _ _ _ _ h
 exact heap_setCell_same _ _ _ _ _ _ h0
theorem aE {w : World} {b k : Nat} (v0 v1 : Value) (h : k ≠ b) : ((w.setCell ⟨b, 0, none⟩ v0).setCell ⟨b, 1, none⟩ v1).heap[k]? = w.heap[k]? := by
 rw [heap_setCell_other _ _ _ _ h, heap_setCell_other _ _ _ _ h]
theorem bB (w : World) (b : Nat) (v0 v1 : Value) : ((w.setCell ⟨b, 0, none⟩ v0).setCell ⟨b, 1, none⟩ v1).heap.size = w.heap.size := by
 simp [World.setCell]
open Go.Maps (Keyed)
def wO : Value → Option (DataW Value × List MemPlace) := fun v => some (.held v, [])
theorem wV : Keyed Tryz.prog 9 := Go.Maps.string_keyed Tryz.underlying9
def yH (s : ByteArray) : Prop := s.size ≤ maxLen
theorem aCn {s : ByteArray} (h : yH s) : keyOf Tryz.prog 9 (.string s) = some (.string s.data.toList) := by
 unfold yH at h
 simp [keyOf, Tryz.underlying9, mapKey, h]
theorem aGl (x : ByteArray) : WideAt.IsKeyLit (.string x.data.toList) := trivial
theorem aBz {a b : ByteArray} (h : a.data.toList = b.data.toList) : a = b := by
 cases a; cases b
 simpa using h
def gS (w : World) (b n : Nat) (f : ByteArray → Option Value) : Prop :=
 ∃ D : DataW Value, w.ownsMap Tryz.prog 9 wO b n D ∧ ∀ s, yH s → Maps.has D (.string s.data.toList) = (f s).isSome ∧ ∀ z, D.atKey (.string s.data.toList) (.held z) = .held ((f s).getD z)
theorem gS.made (w : World) : gS (w.alloc (.map #[] 0)) w.heap.size 0 (fun _ => none) :=
 ⟨_, World.ownsMap_made w _ _ _, fun _ _ => ⟨rfl, fun _ => rfl⟩⟩
theorem gS.mono {w : World} {b n n' : Nat} {f : ByteArray → Option Value} (h : gS w b n f) (hn : n ≤ n') : gS w b n' f := by
 obtain ⟨D, h1, h2⟩ := h
 exact ⟨D, h1.mono hn, h2⟩
theorem gS.congr {w : World} {b n : Nat} {f g : ByteArray → Option Value} (h : gS w b n f) (e : ∀ s, yH s → g s = f s) : gS w b n g := by
 obtain ⟨D, h1, h2⟩ := h
 exact ⟨D, h1, fun s hs => by rw [e s hs]; exact h2 s hs⟩
theorem gS.kept {w w' : World} {b n : Nat} {f : ByteArray → Option Value} (h : gS w b n f) (hb : w'.heap[b]? = w.heap[b]?) : gS w' b n f := by
 obtain ⟨D, ⟨es, aB1, h0, r⟩, h2⟩ := h
 exact ⟨D, ⟨es, aB1, hb.trans h0, r⟩, h2⟩
theorem gS.lt {w : World} {b n : Nat} {f : ByteArray → Option Value} (h : gS w b n f) : b < w.heap.size := by
 obtain ⟨D, h1, _⟩ := h
 exact h1.lt
theorem gS.below {w w' : World} {b n : Nat} {f : ByteArray → Option Value} (h : gS w b n f) (hb : Below w.heap.size w w') : gS w' b n f := h.kept (hb.block _ h.lt)
def aGE (f : ByteArray → Option Value) (x : ByteArray) (v : Value) : ByteArray → Option Value := fun s => if s = x then some v else f s
theorem gS.put {w : World} {b n : Nat} {f : ByteArray → Option Value} (h : gS w b n f) {t e : TypeId} (ht : Tryz.prog.underlying t = some (.map 9 e)) (hn : n < maxLen) {x : ByteArray} (v : Value) (hx : yH x) :
  ∃ w', (Instr.mapUpdate t (.map (some b)) (.string x) v).run Tryz.prog w = .ok () w' ∧ gS w' b (n + 1) (aGE f x v) ∧ w.grownBy w' (some b) := by
 obtain ⟨D, h1, h2⟩ := h
 obtain ⟨w', r, h3, h4⟩ := h1.update wV ht hn (aCn hx) (show wO v = some (.held v, []) from rfl)
 refine ⟨w', r, ⟨_, h3, fun s hs => ?_⟩, h4⟩
 unfold aGE
 by_cases e : s = x
 ·rw [if_pos e, e]
  exact ⟨Maps.has_put_same h1.isMap (aGl x) _, fun z => Maps.atKey_put_same h1.isMap (aGl x) _ _⟩
 ·rw [if_neg e]
  have bI : (Lit.string s.data.toList) ≠ .string x.data.toList := fun h' => e (aBz (by injection h'))
  rw [Maps.has_put_other bI]; refine ⟨(h2 s hs).1, fun z => ?_⟩
  rw [Maps.atKey_put_other bI]; exact (h2 s hs).2 z
theorem gS.look {w : World} {b n : Nat} {f : ByteArray → Option Value} (h : gS w b n f) {t e : TypeId} (ht : Tryz.prog.underlying t = some (.map 9 e)) {z : Value} (hz : (zeroValue e).run Tryz.prog w = .ok z w) {x : ByteArray} (hx : yH x) :
  (Instr.lookup t (.map (some b)) (.string x) true).run Tryz.prog w = .ok (.tuple #[(f x).getD z, .bool (f x).isSome]) w ∧ (Instr.lookup t (.map (some b)) (.string x) false).run Tryz.prog w = .ok ((f x).getD z) w := by
 obtain ⟨D, h1, h2⟩ := h
 obtain ⟨g1, g2⟩ := h2 x hx
 constructor
 ·obtain ⟨v, ps, r, hv⟩ := h1.look_ok wV ht hz (show wO z = some (.held z, []) from rfl) (aCn hx)
  rw [g2] at hv; unfold wO at hv; simp only [Option.some.injEq, Prod.mk.injEq, DataW.held.injEq] at hv
  rw [r, hv.1, g1]
 ·obtain ⟨v, ps, r, hv⟩ := h1.lookup wV ht hz (show wO z = some (.held z, []) from rfl) (aCn hx)
  rw [g2] at hv; unfold wO at hv; simp only [Option.some.injEq, Prod.mk.injEq, DataW.held.injEq] at hv
  rw [r, hv.1]
theorem i8 {w : World} {b n : Nat} {D : DataW Value} (h : w.ownsMap Tryz.prog 9 wO b n D) (x : List UInt8) : x ∈ strKeys D ↔ Maps.has D (.string x) = true := by
 obtain ⟨es, rfl, hko⟩ := h.keysOf
 rw [Maps.has_eq, List.any_eq_true]
 show x ∈ es.map (fun p => strOf p.1) ↔ _
 rw [List.mem_map]
 constructor
 ·rintro ⟨p, hp, rfl⟩
  obtain ⟨v, hv⟩ := hko p hp; obtain ⟨y, _, hy, _⟩ := Maps.keyOf_str Tryz.underlying9 hv; exact ⟨p, hp, by rw [hy]; simp [Lit.sameKey, strOf]⟩
 ·rintro ⟨p, hp, hs⟩
  obtain ⟨v, hv⟩ := hko p hp; obtain ⟨y, _, hy, _⟩ := Maps.keyOf_str Tryz.underlying9 hv; rw [hy] at hs; exact ⟨p, hp, by rw [hy]; simpa [Lit.sameKey, strOf] using hs⟩
theorem aCu {w : World} {b n : Nat} {D : DataW Value} (h : w.ownsMap Tryz.prog 9 wO b n D) : (strKeys D).Nodup := by
 obtain ⟨es, hD, hpw, _⟩ := h.entries wV
 obtain ⟨es', hD', hko⟩ := h.keysOf
 obtain rfl : es = es' := by rw [hD] at hD'; simpa using hD'
 subst hD
 show (es.map fun p => strOf p.1).Nodup
 refine List.pairwise_map.2 (hpw.imp_of_mem fun {p q} hp hq bI e => bI ?_)
 obtain ⟨v, hv⟩ := hko p hp
 obtain ⟨y, _, hy, _⟩ := Maps.keyOf_str Tryz.underlying9 hv
 obtain ⟨v', hv'⟩ := hko q hq
 obtain ⟨y', _, hy', _⟩ := Maps.keyOf_str Tryz.underlying9 hv'
 rw [hy, hy'] at e ⊢
 exact congrArg _ e
def qE (a b : ByteArray) : Bool := decide (a.toList < b.toList)
theorem aKU {a b : ByteArray} (h : a.toList = b.toList) : a = b := by
 rw [Lib.toList_data, Lib.toList_data] at h
 exact aBz h
theorem P6 (a : ByteArray) : qE a a = false := decide_eq_false (List.lt_irrefl _)
theorem aC5 {a b c : ByteArray} (h1 : qE a b = true) (h2 : qE b c = true) : qE a c = true :=
 decide_eq_true (List.lt_trans (of_decide_eq_true h1) (of_decide_eq_true h2))
theorem aJw {a b : ByteArray} (h : qE a b = false) (bI : a ≠ b) : qE b a = true := by
 have h1 : b.toList ≤ a.toList := List.not_lt.1 (of_decide_eq_false h)
 refine decide_eq_true ?_
 by_cases h2 : b.toList < a.toList
 ·exact h2
 ·exact absurd (aKU (List.le_antisymm (List.not_lt.1 h2) h1)) bI
def Asc (l : List ByteArray) : Prop := l.Pairwise fun a b => qE a b = true
def Z3 (x : List UInt8) : ByteArray := ⟨x.toArray⟩
theorem aAU (x : List UInt8) : (Z3 x).data.toList = x := by simp [Z3]
theorem aMP (s : ByteArray) : Z3 s.data.toList = s := by cases s; simp [Z3]
theorem gS.keys {w : World} {b n : Nat} {D : DataW Value} (h : w.ownsMap Tryz.prog 9 wO b n D) {f : ByteArray → Option Value} (hf : ∀ s, yH s → Maps.has D (.string s.data.toList) = (f s).isSome) {ss : List (List UInt8)} (hp : ss.Perm (strKeys D)) :
  Asc ((ss.mergeSort (fun x y => decide (x ≤ y))).map Z3) ∧ ∀ s, s ∈ (ss.mergeSort (fun x y => decide (x ≤ y))).map Z3 ↔ yH s ∧ (f s).isSome = true := by
 have tr : ∀ a b c : List UInt8, leB a b = true → leB b c = true → leB a c = true := fun a b c h1 h2 => by simp only [leB, decide_eq_true_eq] at *; exact List.le_trans h1 h2
 have to : ∀ a b : List UInt8, (leB a b || leB b a) = true := fun a b => by simp only [leB, Bool.or_eq_true, decide_eq_true_eq]; exact List.le_total a b
 have hs := List.pairwise_mergeSort tr to ss
 have hpm := (List.mergeSort_perm ss leB).trans hp
 have hnd : (ss.mergeSort leB).Nodup := hpm.nodup_iff.2 (aCu h)
 constructor
 ·refine List.pairwise_map.2 ((List.Pairwise.and hs hnd).imp fun {x y} hxy => ?_)
  have h1 : x ≤ y := of_decide_eq_true hxy.1; refine decide_eq_true ?_
  rw [Lib.toList_data, Lib.toList_data, aAU, aAU]
  by_cases h2 : x < y
  ·exact h2
  ·exact absurd (List.le_antisymm h1 (List.not_lt.1 h2)) hxy.2
 ·intro s
  rw [List.mem_map]
  constructor
  ·rintro ⟨x, hx, rfl⟩
   have hm := hpm.mem_iff.1 hx; have hl : yH (Z3 x) := by
    have := strKeys_le h Tryz.underlying9 x hm
    show (Z3 x).size ≤ maxLen
    simpa [Z3, ByteArray.size] using this
   refine ⟨hl, ?_⟩
   rw [← hf _ hl, aAU]; exact (i8 h x).1 hm
  ·rintro ⟨h1, h2⟩
   refine ⟨s.data.toList, hpm.mem_iff.2 ((i8 h _).2 ?_), aMP s⟩
   rw [hf s h1]; exact h2
def L0 (w : World) (B : Nat) (a : Option Addr) (n : Nat) (l : List ByteArray) : Prop :=
 l.length = n ∧ ∀ i, i < n → ∃ b off, a = some ⟨b, off, none⟩ ∧ b < B ∧ w.cell? ⟨b, off + i, none⟩ = some (.string (l.getD i ⟨#[]⟩))
theorem L0.kept {w w' : World} {B : Nat} {a : Option Addr} {n : Nat} {l : List ByteArray} (h : L0 w B a n l) (hk : ∀ k, k < B → w'.heap[k]? = w.heap[k]?) : L0 w' B a n l :=
 ⟨h.1, fun i hi => by
  obtain ⟨b, off, e, hb, hc⟩ := h.2 i hi; exact ⟨b, off, e, hb, (World.cell?_of_block (hk b hb)).trans hc⟩⟩
theorem L0.below {w w' : World} {B B' : Nat} {a : Option Addr} {n : Nat} {l : List ByteArray} (h : L0 w B a n l) (hb : Below B' w w') (hB : B ≤ B') : L0 w' B a n l :=
 h.kept fun k hk => hb.block k (by omega)
theorem L0.more {w : World} {B B' : Nat} {a : Option Addr} {n : Nat} {l : List ByteArray} (h : L0 w B a n l) (hB : B ≤ B') : L0 w B' a n l :=
 ⟨h.1, fun i hi => by
  obtain ⟨b, off, e, hb, hc⟩ := h.2 i hi; exact ⟨b, off, e, by omega, hc⟩⟩
def eX (w : World) (lo hi : Nat) (a : Option Addr) (n : Nat) (l : List ByteArray) : Prop :=
 l.length = n ∧ (0 < n → ∃ g off cs, a = some ⟨g, off, none⟩ ∧ lo ≤ g ∧ g < hi ∧ w.heap[g]? = some (.cells cs 9 (0, 0)) ∧ off + n ≤ cs.size ∧ ∀ i, i < n → cs[off + i]? = some (.string (l.getD i ⟨#[]⟩)))
theorem eX.strs {w : World} {lo hi : Nat} {a : Option Addr} {n : Nat} {l : List ByteArray} (h : eX w lo hi a n l) : L0 w hi a n l :=
 ⟨h.1, fun i hi' => by
  obtain ⟨g, off, cs, e, _, h2, hg, _, hc⟩ := h.2 (by omega)
  exact ⟨g, off, e, h2, (aRs hg).trans (hc i hi')⟩⟩
theorem eX.kept {w w' : World} {lo hi : Nat} {a : Option Addr} {n : Nat} {l : List ByteArray} (h : eX w lo hi a n l) (hk : ∀ j, lo ≤ j → j < hi → w'.heap[j]? = w.heap[j]?) : eX w' lo hi a n l :=
 ⟨h.1, fun hn => by
  obtain ⟨g, off, cs, e, h1, h2, hg, hs, hc⟩ := h.2 hn; exact ⟨g, off, cs, e, h1, h2, (hk g h1 h2).trans hg, hs, hc⟩⟩
theorem eX.below {w w' : World} {lo hi B : Nat} {a : Option Addr} {n : Nat} {l : List ByteArray} (h : eX w lo hi a n l) (hb : Below B w w') (hB : hi ≤ B) : eX w' lo hi a n l :=
 h.kept fun j _ h2 => hb.block j (by omega)
theorem eX.more {w : World} {lo hi lo' hi' : Nat} {a : Option Addr} {n : Nat} {l : List ByteArray} (h : eX w lo hi a n l) (h1 : lo' ≤ lo) (h2 : hi ≤ hi') : eX w lo' hi' a n l :=
 ⟨h.1, fun hn => by
  obtain ⟨g, off, cs, e, a1, a2, r⟩ := h.2 hn; exact ⟨g, off, cs, e, by omega, by omega, r⟩⟩
theorem M4 {w : World} {base : Nat} {v : Value} {n : Nat} {l : List ByteArray} (h : w.ownsRow base 9 1 v n (l.map Value.string)) :
  ∃ a c, v = .slice a n c ∧ eX w base w.heap.size a n l := by
 have hl : l.length = n := by have := h.1; simpa using this
 rcases h.2 with ⟨e, e2⟩ | ⟨g, c, aY, e, hb, hg, hnc, _, hcs, ht⟩
 ·have hn0 : n = 0 := by simpa using e2
  subst hn0; exact ⟨none, 0, e, hl, fun h => absurd h (by omega)⟩
 ·refine ⟨_, c, e, hl, fun hn => ⟨g, 0, aY, rfl, hb, (aRq hg).1, hg, by omega, fun i hi' => ?_⟩⟩
  have h2 : (aY.toList.take (n * 1))[i]? = (l.map Value.string)[i]? := by rw [ht]
  rw [Nat.mul_one, List.getElem?_take_of_lt hi', List.getElem?_map, List.getElem?_eq_getElem (by omega : i < l.length)] at h2
  rw [Nat.zero_add, ← Array.getElem?_toList, h2, List.getD_eq_getElem?_getD, List.getElem?_eq_getElem (by omega)]
  rfl
structure kA (lo hi : Nat) (w w' : World) : Prop where
 os : w'.os = w.os
 tape : w'.tape = w.tape
 output : w'.output = w.output
 size : w.heap.size ≤ w'.heap.size
 block : ∀ j, j < w.heap.size → j < lo ∨ hi ≤ j → w'.heap[j]? = w.heap[j]?
theorem kA.refl (lo hi : Nat) (w : World) : kA lo hi w w := ⟨rfl, rfl, rfl, Nat.le_refl _, fun _ _ _ => rfl⟩
theorem kA.step {lo hi : Nat} {w w1 w2 : World} (h : kA lo hi w w1) (hb : Below w1.heap.size w1 w2) : kA lo hi w w2 :=
 ⟨hb.os.trans h.os, hb.tape.trans h.tape, hb.output.trans h.output, Nat.le_trans h.size hb.size, fun j h1 h2 => (hb.block j (by have := h.size; omega)).trans (h.block j h1 h2)⟩
theorem kA.put {w wr : World} {g i : Nat} {v : Value} (h : kA g (g + 1) w wr) : kA g (g + 1) w (wr.setCell ⟨g, i, none⟩ v) :=
 ⟨h.os, h.tape, h.output, by simpa [World.setCell] using h.size, fun j h1 h2 => (heap_setCell_other _ _ _ _ (by show j ≠ g; omega)).trans (h.block j h1 h2)⟩
theorem kA.below {lo hi B : Nat} {w w' : World} (h : kA lo hi w w') (hB : B ≤ lo) (hw : B ≤ w.heap.size) : Below B w w' := ⟨h.os, h.tape, h.output, h.size, fun k hk => h.block k (by omega) (.inl (by omega))⟩
theorem kA.wide {lo hi lo' hi' : Nat} {w w' : World} (h : kA lo hi w w') (h1 : lo' ≤ lo) (h2 : hi ≤ hi') : kA lo' hi' w w' :=
 ⟨h.os, h.tape, h.output, h.size, fun j a b => h.block j a (by omega)⟩
theorem eX.beside {w w' : World} {lo hi lo' hi' : Nat} {a : Option Addr} {n : Nat} {l : List ByteArray} (h : eX w lo hi a n l) (hb : kA lo' hi' w w') (hd : hi ≤ lo' ∨ hi' ≤ lo) (hw : hi ≤ w.heap.size) : eX w' lo hi a n l :=
 h.kept fun j h1 h2 => hb.block j (by omega) (by omega)
end Go.Proofs.YthkagbnpcjidfaaGreatDoor
namespace Go.Proofs.YthkagbnpcjidfaaGreatDoor
set_option maxRecDepth 100000
open Go.RowKit Go.Maps
theorem aG3 (l : List (List UInt8)) : l.map Go.Proofs.encStr = (l.map Z3).map Value.string := by
 rw [List.map_map]
 rfl
def aKw (b : Nat) (w w1 : World) (f : ByteArray → Option Value) (e : Ending) (w' : World) : Prop :=
 ∃ ks a c, e = .returned (.slice a ks.length c) ∧ ks.length ≤ b ∧ Asc ks ∧ (∀ s, s ∈ ks ↔ yH s ∧ (f s).isSome = true) ∧ eX w' w1.heap.size w'.heap.size a ks.length ks ∧ Below w.heap.size w w'
theorem aOT (mb : Option Nat) (W : World) : Calls Tryz.prog 63 #[.map mb] W fun e w' => e = .returned (.func (.func 96) #[] #[.pointer (some ⟨W.heap.size, 0, none⟩)]) ∧ w' = W.alloc (.cells #[.map mb] 89) :=
 callsIn_wide.1 (Tryz.maps_Keys_63 mb W)
theorem aLL (w : World) (b n : Nat) (f : ByteArray → Option Value) (h : gS w b n f) (hn : n ≤ 1048576) :
  Calls Tryz.prog 62 #[.func (.func 96) #[] #[.pointer (some ⟨w.heap.size, 0, none⟩)]] (w.alloc (.cells #[.map (some b)] 89)) (aKw n w (w.alloc (.cells #[.map (some b)] 89)) f) := by
 obtain ⟨D, h1, h2⟩ := h
 have hs := h1.size_le
 refine (callsIn_wide.1 (Tryz.slices_Sorted_keys_62_63 b n D wO w h1 (by unfold maxLen; omega) (by omega))).mono ?_
 rintro e w' ⟨v, ss, rfl, hp, jO, aA9, hb⟩
 obtain ⟨k1, k2⟩ := gS.keys h1 (fun s hf => (h2 s hf).1) hp
 have hl : ((ss.mergeSort (fun x y => decide (x ≤ y))).map Z3).length = ss.length := by simp
 rw [aG3] at jO
 obtain ⟨a, c, rfl, ho⟩ := M4 jO
 refine ⟨_, a, c, by rw [hl], ?_, k1, k2, by rw [hl]; exact ho, ((Below.refl _ w).alloc aRr _).trans (hb.mono (by simp))⟩
 rw [hl, hp.length_eq]
 obtain ⟨es, hD, _⟩ := h1.entries wV
 have dA : (strKeys D).length = Maps.size D := by rw [hD]; show (es.map _).length = _; simp [Maps.size]
 omega
end Go.Proofs.YthkagbnpcjidfaaGreatDoor
namespace Go.Proofs.YthkagbnpcjidfaaGreatDoor
set_option maxRecDepth 100000
open Go.RowKit
structure OpD (w w1 : World) (B g : Nat) (a : Option Addr) (len cap bo : Nat) (cs : Array Value) : Prop where
 res : w1.heap[w.heap.size]? = some (.cells #[.int .i64 0, .int .i64 0, .int .i64 0, .int .i64 0, .string ⟨#[]⟩, .int .i64 0, .int .i64 0, .int .i64 0] 50 (0, 0))
 opr : w1.heap[bo]? = some (.cells cs 50 (0, 0))
 own : w.heap.size < bo
 gr : w.grownBy w1 (some g)
 rd : Rd w1 B g a len cap
theorem OpD.next {w w1 w2 : World} {B g : Nat} {a : Option Addr} {len cap bo : Nat} {cs : Array Value} (h : OpD w w1 B g a len cap bo cs) (aM : g < w.heap.size) (hg : w1.grownBy w2 (some g)) (hr : Rd w2 B g a len cap) : OpD w w2 B g a len cap bo cs :=
 ⟨(hg.block _ (aRq h.res).1 (by simp; omega)).trans h.res, (hg.block _ (aRq h.opr).1 (by have := h.own; simp; omega)).trans h.opr, h.own, h.gr.trans hg, hr⟩
theorem OpD.put {w w1 : World} {B g : Nat} {a : Option Addr} {len cap bo : Nat} {cs : Array Value} (h : OpD w w1 B g a len cap bo cs) (hB : B ≤ w.heap.size) (aM : g < w.heap.size) (i : Nat) (v : Value) : OpD w (w1.setCell ⟨bo, i, none⟩ v) B g a len cap bo (cs.setIfInBounds i v) :=
 have aZ := h.own
 ⟨(heap_setCell_other _ _ _ _ (by show w.heap.size ≠ bo; omega)).trans h.res, heap_setCell_same _ _ _ _ _ _ h.opr, h.own,
  ⟨h.gr.os, h.gr.tape, h.gr.output, Nat.le_trans h.gr.size (by simp [World.setCell]), fun k hk bI => (heap_setCell_other _ _ _ _ (by show k ≠ bo; omega)).trans (h.gr.block k hk bI)⟩,
  h.rd.kept fun k hk => heap_setCell_other _ _ _ _ (by show k ≠ bo; omega)⟩
theorem Res.next {w w1 w2 : World} {g : Nat} {cs : Array Value} {T : TypeId} (h : w1.heap[w.heap.size]? = some (.cells cs T (0, 0))) (hg : w1.grownBy w2 (some g)) (aM : g < w.heap.size) : w2.heap[w.heap.size]? = some (.cells cs T (0, 0)) :=
 (hg.block _ (aRq h).1 (by simp; omega)).trans h
end Go.Proofs.YthkagbnpcjidfaaGreatDoor
