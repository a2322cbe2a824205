/- Walks and mathematics that several claims share, part 23. -/
import Derived.Test.YthkagbnpcjidfaaGreatDoorGu22
import Derived.Test.YthkagbnpcjidfaaGreatDoorGu17
import Derived.Test.YthkagbnpcjidfaaGreatDoorRows
import Derived.WalkKit
import Derived.Lib.Hide
import Derived.Lib.Strings
import Derived.Maps.OwnSet
import Derived.Sort.KeysCollected
import Derived.Below
import Derived.WalkLawsBesides
import Derived.Deep.QuietTactic
import Derived.BigQuiet
import Derived.Laws.Rows
import Derived.WalkSpells
import Derived.OwnWalk
import Derived.Laws.BytesArg
import Derived.Deep.RegionHeld3
import Derived.Deep.Draws
namespace Go.Proofs.YthkagbnpcjidfaaGreatDoor
set_option maxRecDepth 100000
open Go.RowKit
set_option linter.unusedVariables false
set_option linter.unusedSimpArgs false
open Go.Maps (Keyed)
def vD : Value → Option (DataW Value × List MemPlace) := fun v => some (.held v, [])
theorem vG : Keyed Tryz.prog 9 := Go.Maps.string_keyed Tryz.underlying9
def wL (s : ByteArray) : Prop := s.size ≤ maxLen
theorem aA7 {s : ByteArray} (h : wL s) : keyOf Tryz.prog 9 (.string s) = some (.string s.data.toList) := by
 unfold wL at h
 simp [keyOf, Tryz.underlying9, mapKey, h]
theorem aEG (x : ByteArray) : WideAt.IsKeyLit (.string x.data.toList) := trivial
theorem aAb {a b : ByteArray} (h : a.data.toList = b.data.toList) : a = b := by
 cases a; cases b
 simpa using h
def gL (w : World) (b n : Nat) (f : ByteArray → Option Value) : Prop :=
 ∃ D : DataW Value, w.ownsMap Tryz.prog 9 vD b n D ∧ ∀ s, wL s → Maps.has D (.string s.data.toList) = (f s).isSome ∧ ∀ z, D.atKey (.string s.data.toList) (.held z) = .held ((f s).getD z)
theorem gL.made (w : World) : gL (w.alloc (.map #[] 0)) w.heap.size 0 (fun _ => none) :=
 ⟨_, World.ownsMap_made w _ _ _, fun _ _ => ⟨rfl, fun _ => rfl⟩⟩
theorem gL.mono {w : World} {b n n' : Nat} {f : ByteArray → Option Value} (h : gL w b n f) (hn : n ≤ n') : gL w b n' f := by
 obtain ⟨D, h1, h2⟩ := h
 exact ⟨D, h1.mono hn, h2⟩
theorem gL.congr {w : World} {b n : Nat} {f g : ByteArray → Option Value} (h : gL w b n f) (e : ∀ s, wL s → g s = f s) : gL w b n g := by
 obtain ⟨D, h1, h2⟩ := h
 exact ⟨D, h1, fun s hs => by rw [e s hs]; exact h2 s hs⟩
theorem gL.kept {w w' : World} {b n : Nat} {f : ByteArray → Option Value} (h : gL w b n f) (hb : w'.heap[b]? = w.heap[b]?) : gL w' b n f := by
 obtain ⟨D, ⟨es, aAz, h0, r⟩, h2⟩ := h
 exact ⟨D, ⟨es, aAz, hb.trans h0, r⟩, h2⟩
theorem gL.lt {w : World} {b n : Nat} {f : ByteArray → Option Value} (h : gL w b n f) : b < w.heap.size := by
 obtain ⟨D, h1, _⟩ := h
 exact h1.lt
theorem gL.below {w w' : World} {b n : Nat} {f : ByteArray → Option Value} (h : gL w b n f) (hb : Below w.heap.size w w') : gL w' b n f := h.kept (hb.block _ h.lt)
def aE6 (f : ByteArray → Option Value) (x : ByteArray) (v : Value) : ByteArray → Option Value := fun s => if s = x then some v else f s
theorem gL.put {w : World} {b n : Nat} {f : ByteArray → Option Value} (h : gL w b n f) {t e : TypeId} (ht : Tryz.prog.underlying t = some (.map 9 e)) (hn : n < maxLen) {x : ByteArray} (v : Value) (hx : wL x) :
  ∃ w', (Instr.mapUpdate t (.map (some b)) (.string x) v).run Tryz.prog w = .ok () w' ∧ gL w' b (n + 1) (aE6 f x v) ∧ w.grownBy w' (some b) := by
 obtain ⟨D, h1, h2⟩ := h
 obtain ⟨w', r, h3, h4⟩ := h1.update vG ht hn (aA7 hx) (show vD v = some (.held v, []) from rfl)
 refine ⟨w', r, ⟨_, h3, fun s hs => ?_⟩, h4⟩
 unfold aE6
 by_cases e : s = x
 ·rw [if_pos e, e]
  exact ⟨Maps.has_put_same h1.isMap (aEG x) _, fun z => Maps.atKey_put_same h1.isMap (aEG x) _ _⟩
 ·rw [if_neg e]
  have bO : (Lit.string s.data.toList) ≠ .string x.data.toList := fun h' => e (aAb (by injection h'))
  rw [Maps.has_put_other bO]; refine ⟨(h2 s hs).1, fun z => ?_⟩
  rw [Maps.atKey_put_other bO]; exact (h2 s hs).2 z
theorem gL.look {w : World} {b n : Nat} {f : ByteArray → Option Value} (h : gL w b n f) {t e : TypeId} (ht : Tryz.prog.underlying t = some (.map 9 e)) {z : Value} (hz : (zeroValue e).run Tryz.prog w = .ok z w) {x : ByteArray} (hx : wL x) :
  (Instr.lookup t (.map (some b)) (.string x) true).run Tryz.prog w = .ok (.tuple #[(f x).getD z, .bool (f x).isSome]) w ∧ (Instr.lookup t (.map (some b)) (.string x) false).run Tryz.prog w = .ok ((f x).getD z) w := by
 obtain ⟨D, h1, h2⟩ := h
 obtain ⟨g1, g2⟩ := h2 x hx
 constructor
 ·obtain ⟨v, ps, r, hv⟩ := h1.look_ok vG ht hz (show vD z = some (.held z, []) from rfl) (aA7 hx)
  rw [g2] at hv; unfold vD at hv; simp only [Option.some.injEq, Prod.mk.injEq, DataW.held.injEq] at hv
  rw [r, hv.1, g1]
 ·obtain ⟨v, ps, r, hv⟩ := h1.lookup vG ht hz (show vD z = some (.held z, []) from rfl) (aA7 hx)
  rw [g2] at hv; unfold vD at hv; simp only [Option.some.injEq, Prod.mk.injEq, DataW.held.injEq] at hv
  rw [r, hv.1]
theorem Q6 {w : World} {b n : Nat} {D : DataW Value} (h : w.ownsMap Tryz.prog 9 vD b n D) (x : List UInt8) : x ∈ strKeys D ↔ Maps.has D (.string x) = true := by
 obtain ⟨es, rfl, hko⟩ := h.keysOf
 rw [Maps.has_eq, List.any_eq_true]
 show x ∈ es.map (fun p => strOf p.1) ↔ _
 rw [List.mem_map]
 constructor
 ·rintro ⟨p, hp, rfl⟩
  obtain ⟨v, hv⟩ := hko p hp; obtain ⟨y, _, hy, _⟩ := Maps.keyOf_str Tryz.underlying9 hv; exact ⟨p, hp, by rw [hy]; simp [Lit.sameKey, strOf]⟩
 ·rintro ⟨p, hp, hs⟩
  obtain ⟨v, hv⟩ := hko p hp; obtain ⟨y, _, hy, _⟩ := Maps.keyOf_str Tryz.underlying9 hv; rw [hy] at hs; exact ⟨p, hp, by rw [hy]; simpa [Lit.sameKey, strOf] using hs⟩
theorem aBg {w : World} {b n : Nat} {D : DataW Value} (h : w.ownsMap Tryz.prog 9 vD b n D) : (strKeys D).Nodup := by
 obtain ⟨es, hD, hpw, _⟩ := h.entries vG
 obtain ⟨es', hD', hko⟩ := h.keysOf
 obtain rfl : es = es' := by rw [hD] at hD'; simpa using hD'
 subst hD
 show (es.map fun p => strOf p.1).Nodup
 refine List.pairwise_map.2 (hpw.imp_of_mem fun {p q} hp hq bO e => bO ?_)
 obtain ⟨v, hv⟩ := hko p hp
 obtain ⟨y, _, hy, _⟩ := Maps.keyOf_str Tryz.underlying9 hv
 obtain ⟨v', hv'⟩ := hko q hq
 obtain ⟨y', _, hy', _⟩ := Maps.keyOf_str Tryz.underlying9 hv'
 rw [hy, hy'] at e ⊢
 exact congrArg _ e
def pI (a b : ByteArray) : Bool := decide (a.toList < b.toList)
theorem aEX {a b : ByteArray} (h : a.toList = b.toList) : a = b := by
 rw [Lib.toList_data, Lib.toList_data] at h
 exact aAb h
theorem yH (a : ByteArray) : pI a a = false := decide_eq_false (List.lt_irrefl _)
theorem aBL {a b c : ByteArray} (h1 : pI a b = true) (h2 : pI b c = true) : pI a c = true :=
 decide_eq_true (List.lt_trans (of_decide_eq_true h1) (of_decide_eq_true h2))
theorem aHZ {a b : ByteArray} (h : pI a b = false) (bO : a ≠ b) : pI b a = true := by
 have h1 : b.toList ≤ a.toList := List.not_lt.1 (of_decide_eq_false h)
 refine decide_eq_true ?_
 by_cases h2 : b.toList < a.toList
 ·exact h2
 ·exact absurd (aEX (List.le_antisymm (List.not_lt.1 h2) h1)) bO
def Asc (l : List ByteArray) : Prop := l.Pairwise fun a b => pI a b = true
def P0 (x : List UInt8) : ByteArray := ⟨x.toArray⟩
theorem j9 (x : List UInt8) : (P0 x).data.toList = x := by simp [P0]
theorem aKU (s : ByteArray) : P0 s.data.toList = s := by cases s; simp [P0]
theorem gL.keys {w : World} {b n : Nat} {D : DataW Value} (h : w.ownsMap Tryz.prog 9 vD b n D) {f : ByteArray → Option Value} (hf : ∀ s, wL s → Maps.has D (.string s.data.toList) = (f s).isSome) {ss : List (List UInt8)} (hp : ss.Perm (strKeys D)) :
  Asc ((ss.mergeSort (fun x y => decide (x ≤ y))).map P0) ∧ ∀ s, s ∈ (ss.mergeSort (fun x y => decide (x ≤ y))).map P0 ↔ wL s ∧ (f s).isSome = true := by
 have tr : ∀ a b c : List UInt8, leB a b = true → leB b c = true → leB a c = true := fun a b c h1 h2 => by simp only [leB, decide_eq_true_eq] at *; exact List.le_trans h1 h2
 have to : ∀ a b : List UInt8, (leB a b || leB b a) = true := fun a b => by simp only [leB, Bool.or_eq_true, decide_eq_true_eq]; exact List.le_total a b
 have hs := List.pairwise_mergeSort tr to ss
 have hpm := (List.mergeSort_perm ss leB).trans hp
 have hnd : (ss.mergeSort leB).Nodup := hpm.nodup_iff.2 (aBg h)
 constructor
 ·refine List.pairwise_map.2 ((List.Pairwise.and hs hnd).imp fun {x y} hxy => ?_)
  have h1 : x ≤ y := of_decide_eq_true hxy.1; refine decide_eq_true ?_
  rw [Lib.toList_data, Lib.toList_data, j9, j9]
  by_cases h2 : x < y
  ·exact h2
  ·exact absurd (List.le_antisymm h1 (List.not_lt.1 h2)) hxy.2
 ·intro s
  rw [List.mem_map]
  constructor
  ·rintro ⟨x, hx, rfl⟩
   have hm := hpm.mem_iff.1 hx; have hl : wL (P0 x) := by
    have := strKeys_le h Tryz.underlying9 x hm
    show (P0 x).size ≤ maxLen
    simpa [P0, ByteArray.size] using this
   refine ⟨hl, ?_⟩
   rw [← hf _ hl, j9]; exact (Q6 h x).1 hm
  ·rintro ⟨h1, h2⟩
   refine ⟨s.data.toList, hpm.mem_iff.2 ((Q6 h _).2 ?_), aKU s⟩
   rw [hf s h1]; exact h2
def E3 (w : World) (B : Nat) (a : Option Addr) (n : Nat) (l : List ByteArray) : Prop :=
 l.length = n ∧ ∀ i, i < n → ∃ b off, a = some ⟨b, off, none⟩ ∧ b < B ∧ w.cell? ⟨b, off + i, none⟩ = some (.string (l.getD i ⟨#[]⟩))
theorem E3.kept {w w' : World} {B : Nat} {a : Option Addr} {n : Nat} {l : List ByteArray} (h : E3 w B a n l) (hk : ∀ k, k < B → w'.heap[k]? = w.heap[k]?) : E3 w' B a n l :=
 ⟨h.1, fun i hi => by
  obtain ⟨b, off, e, hb, hc⟩ := h.2 i hi; exact ⟨b, off, e, hb, (World.cell?_of_block (hk b hb)).trans hc⟩⟩
theorem E3.below {w w' : World} {B B' : Nat} {a : Option Addr} {n : Nat} {l : List ByteArray} (h : E3 w B a n l) (hb : Below B' w w') (hB : B ≤ B') : E3 w' B a n l :=
 h.kept fun k hk => hb.block k (by omega)
theorem E3.more {w : World} {B B' : Nat} {a : Option Addr} {n : Nat} {l : List ByteArray} (h : E3 w B a n l) (hB : B ≤ B') : E3 w B' a n l :=
 ⟨h.1, fun i hi => by
  obtain ⟨b, off, e, hb, hc⟩ := h.2 i hi; exact ⟨b, off, e, by omega, hc⟩⟩
def eV (w : World) (lo hi : Nat) (a : Option Addr) (n : Nat) (l : List ByteArray) : Prop :=
 l.length = n ∧ (0 < n → ∃ g off cs, a = some ⟨g, off, none⟩ ∧ lo ≤ g ∧ g < hi ∧ w.heap[g]? = some (.cells cs 9 (0, 0)) ∧ off + n ≤ cs.size ∧ ∀ i, i < n → cs[off + i]? = some (.string (l.getD i ⟨#[]⟩)))
theorem eV.strs {w : World} {lo hi : Nat} {a : Option Addr} {n : Nat} {l : List ByteArray} (h : eV w lo hi a n l) : E3 w hi a n l :=
 ⟨h.1, fun i hi' => by
  obtain ⟨g, off, cs, e, _, h2, hg, _, hc⟩ := h.2 (by omega)
  exact ⟨g, off, e, h2, (aPr hg).trans (hc i hi')⟩⟩
theorem eV.kept {w w' : World} {lo hi : Nat} {a : Option Addr} {n : Nat} {l : List ByteArray} (h : eV w lo hi a n l) (hk : ∀ j, lo ≤ j → j < hi → w'.heap[j]? = w.heap[j]?) : eV w' lo hi a n l :=
 ⟨h.1, fun hn => by
  obtain ⟨g, off, cs, e, h1, h2, hg, hs, hc⟩ := h.2 hn; exact ⟨g, off, cs, e, h1, h2, (hk g h1 h2).trans hg, hs, hc⟩⟩
theorem eV.below {w w' : World} {lo hi B : Nat} {a : Option Addr} {n : Nat} {l : List ByteArray} (h : eV w lo hi a n l) (hb : Below B w w') (hB : hi ≤ B) : eV w' lo hi a n l :=
 h.kept fun j _ h2 => hb.block j (by omega)
theorem eV.more {w : World} {lo hi lo' hi' : Nat} {a : Option Addr} {n : Nat} {l : List ByteArray} (h : eV w lo hi a n l) (h1 : lo' ≤ lo) (h2 : hi ≤ hi') : eV w lo' hi' a n l :=
 ⟨h.1, fun hn => by
  obtain ⟨g, off, cs, e, a1, a2, r⟩ := h.2 hn; exact ⟨g, off, cs, e, by omega, by omega, r⟩⟩
theorem uG {w : World} {base : Nat} {v : Value} {n : Nat} {l : List ByteArray} (h : w.ownsRow base 9 1 v n (l.map Value.string)) :
  ∃ a c, v = .slice a n c ∧ eV w base w.heap.size a n l := by
 have hl : l.length = n := by have := h.1; simpa using this
 rcases h.2 with ⟨e, e2⟩ | ⟨g, c, aW, e, hb, hg, hnc, _, hcs, ht⟩
 ·have hn0 : n = 0 := by simpa using e2
  subst hn0; exact ⟨none, 0, e, hl, fun h => absurd h (by omega)⟩
 ·refine ⟨_, c, e, hl, fun hn => ⟨g, 0, aW, rfl, hb, (aPp hg).1, hg, by omega, fun i hi' => ?_⟩⟩
  have h2 : (aW.toList.take (n * 1))[i]? = (l.map Value.string)[i]? := by rw [ht]
  rw [Nat.mul_one, List.getElem?_take_of_lt hi', List.getElem?_map, List.getElem?_eq_getElem (by omega : i < l.length)] at h2
  rw [Nat.zero_add, ← Array.getElem?_toList, h2, List.getD_eq_getElem?_getD, List.getElem?_eq_getElem (by omega)]
  rfl
structure jY (lo hi : Nat) (w w' : World) : Prop where
 os : w'.os = w.os
 tape : w'.tape = w.tape
 output : w'.output = w.output
 size : w.heap.size ≤ w'.heap.size
 block : ∀ j, j < w.heap.size → j < lo ∨ hi ≤ j → w'.heap[j]? = w.heap[j]?
theorem jY.refl (lo hi : Nat) (w : World) : jY lo hi w w := ⟨rfl, rfl, rfl, Nat.le_refl _, fun _ _ _ => rfl⟩
theorem jY.step {lo hi : Nat} {w w1 w2 : World} (h : jY lo hi w w1) (hb : Below w1.heap.size w1 w2) : jY lo hi w w2 :=
 ⟨hb.os.trans h.os, hb.tape.trans h.tape, hb.output.trans h.output, Nat.le_trans h.size hb.size, fun j h1 h2 => (hb.block j (by have := h.size; omega)).trans (h.block j h1 h2)⟩
theorem jY.put {w wr : World} {g i : Nat} {v : Value} (h : jY g (g + 1) w wr) : jY g (g + 1) w (wr.setCell ⟨g, i, none⟩ v) :=
 ⟨h.os, h.tape, h.output, by simpa [World.setCell] using h.size, fun j h1 h2 => (heap_setCell_other _ _ _ _ (by show j ≠ g; omega)).trans (h.block j h1 h2)⟩
theorem jY.below {lo hi B : Nat} {w w' : World} (h : jY lo hi w w') (hB : B ≤ lo) (hw : B ≤ w.heap.size) : Below B w w' := ⟨h.os, h.tape, h.output, h.size, fun k hk => h.block k (by omega) (.inl (by omega))⟩
theorem jY.wide {lo hi lo' hi' : Nat} {w w' : World} (h : jY lo hi w w') (h1 : lo' ≤ lo) (h2 : hi ≤ hi') : jY lo' hi' w w' :=
 ⟨h.os, h.tape, h.output, h.size, fun j a b => h.block j a (by omega)⟩
theorem eV.beside {w w' : World} {lo hi lo' hi' : Nat} {a : Option Addr} {n : Nat} {l : List ByteArray} (h : eV w lo hi a n l) (hb : jY lo' hi' w w') (hd : hi ≤ lo' ∨ hi' ≤ lo) (hw : hi ≤ w.heap.size) : eV w' lo hi a n l :=
 h.kept fun j h1 h2 => hb.block j (by omega) (by omega)
end Go.Proofs.YthkagbnpcjidfaaGreatDoor
namespace Go.Proofs.YthkagbnpcjidfaaGreatDoor
set_option maxRecDepth 100000
open Go.RowKit Go.Maps
theorem aFu (l : List (List UInt8)) : l.map Go.Proofs.encStr = (l.map P0).map Value.string := by
 rw [List.map_map]
 rfl
def aI0 (b : Nat) (w w1 : World) (f : ByteArray → Option Value) (e : Ending) (w' : World) : Prop :=
 ∃ ks a c, e = .returned (.slice a ks.length c) ∧ ks.length ≤ b ∧ Asc ks ∧ (∀ s, s ∈ ks ↔ wL s ∧ (f s).isSome = true) ∧ eV w' w1.heap.size w'.heap.size a ks.length ks ∧ Below w.heap.size w w'
theorem aMO (mb : Option Nat) (W : World) : Calls Tryz.prog 63 #[.map mb] W fun e w' => e = .returned (.func (.func 96) #[] #[.pointer (some ⟨W.heap.size, 0, none⟩)]) ∧ w' = W.alloc (.cells #[.map mb] 89) :=
 callsIn_wide.1 (Tryz.maps_Keys_63 mb W)
theorem aJS (w : World) (b n : Nat) (f : ByteArray → Option Value) (h : gL w b n f) (hn : n ≤ 1048576) :
  Calls Tryz.prog 62 #[.func (.func 96) #[] #[.pointer (some ⟨w.heap.size, 0, none⟩)]] (w.alloc (.cells #[.map (some b)] 89)) (aI0 n w (w.alloc (.cells #[.map (some b)] 89)) f) := by
 obtain ⟨D, h1, h2⟩ := h
 have hs := h1.size_le
 refine (callsIn_wide.1 (Tryz.slices_Sorted_keys_62_63 b n D vD w h1 (by unfold maxLen; omega) (by omega))).mono ?_
 rintro e w' ⟨v, ss, rfl, hp, jG, o9, hb⟩
 obtain ⟨k1, k2⟩ := gL.keys h1 (fun s hf => (h2 s hf).1) hp
 have hl : ((ss.mergeSort (fun x y => decide (x ≤ y))).map P0).length = ss.length := by simp
 rw [aFu] at jG
 obtain ⟨a, c, rfl, ho⟩ := uG jG
 refine ⟨_, a, c, by rw [hl], ?_, k1, k2, by rw [hl]; exact ho, ((Below.refl _ w).alloc aPq _).trans (hb.mono (by simp))⟩
 rw [hl, hp.length_eq]
 obtain ⟨es, hD, _⟩ := h1.entries vG
 have dC : (strKeys D).length = Maps.size D := by rw [hD]; show (es.map _).length = _; simp [Maps.size]
 omega
end Go.Proofs.YthkagbnpcjidfaaGreatDoor
namespace Go.Proofs.YthkagbnpcjidfaaGreatDoor
set_option maxRecDepth 100000
open Go.RowKit
end Go.Proofs.YthkagbnpcjidfaaGreatDoor
