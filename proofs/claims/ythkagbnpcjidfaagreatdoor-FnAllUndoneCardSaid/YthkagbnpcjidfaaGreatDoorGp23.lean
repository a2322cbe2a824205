/- Walks and mathematics that several claims share, part 23. -/
import Derived.Test.YthkagbnpcjidfaaGreatDoorGp22
import Derived.Test.YthkagbnpcjidfaaGreatDoorGp17
import Derived.Test.YthkagbnpcjidfaaGreatDoorRows
import Derived.WalkKit
import Derived.Lib.Hide
import Derived.Lib.Strings
import Derived.Maps.OwnSet
import Derived.Sort.KeysCollected
import Derived.Below
import Derived.WalkLawsBesides
import Derived.Deep.QuietTactic
import Derived.BigQuiet
import Derived.Laws.Rows
import Derived.WalkSpells
import Derived.OwnWalk
import Derived.Laws.BytesArg
import Derived.Deep.RegionHeld3
import Derived.Deep.Draws
namespace Go.Proofs.YthkagbnpcjidfaaGreatDoor
set_option maxRecDepth 100000
open Go.RowKit
set_option linter.unusedVariables false
set_option linter.unusedSimpArgs false
open Go.Maps (Keyed)
def uZ : Value → Option (DataW Value × List MemPlace) := fun v => some (.held v, [])
theorem vC : Keyed Tryz.prog 9 := Go.Maps.string_keyed Tryz.underlying9
def wF (s : ByteArray) : Prop := s.size ≤ maxLen
theorem aAJ {s : ByteArray} (h : wF s) : keyOf Tryz.prog 9 (.string s) = some (.string s.data.toList) := by
 unfold wF at h
 simp [keyOf, Tryz.underlying9, mapKey, h]
theorem aEq (x : ByteArray) : WideAt.IsKeyLit (.string x.data.toList) := trivial
theorem aAc {a b : ByteArray} (h : a.data.toList = b.data.toList) : a = b := by
 cases a; cases b
 simpa using h
def gS (w : World) (b n : Nat) (f : ByteArray → Option Value) : Prop :=
 ∃ D : DataW Value, w.ownsMap Tryz.prog 9 uZ b n D ∧ ∀ s, wF s → Maps.has D (.string s.data.toList) = (f s).isSome ∧ ∀ z, D.atKey (.string s.data.toList) (.held z) = .held ((f s).getD z)
theorem gS.made (w : World) : gS (w.alloc (.map #[] 0)) w.heap.size 0 (fun _ => none) :=
 ⟨_, World.ownsMap_made w _ _ _, fun _ _ => ⟨rfl, fun _ => rfl⟩⟩
theorem gS.mono {w : World} {b n n' : Nat} {f : ByteArray → Option Value} (h : gS w b n f) (hn : n ≤ n') : gS w b n' f := by
 obtain ⟨D, h1, h2⟩ := h
 exact ⟨D, h1.mono hn, h2⟩
theorem gS.congr {w : World} {b n : Nat} {f g : ByteArray → Option Value} (h : gS w b n f) (e : ∀ s, wF s → g s = f s) : gS w b n g := by
 obtain ⟨D, h1, h2⟩ := h
 exact ⟨D, h1, fun s hs => by rw [e s hs]; exact h2 s hs⟩
theorem gS.kept {w w' : World} {b n : Nat} {f : ByteArray → Option Value} (h : gS w b n f) (hb : w'.heap[b]? = w.heap[b]?) : gS w' b n f := by
 obtain ⟨D, ⟨es, aAA, h0, r⟩, h2⟩ := h
 exact ⟨D, ⟨es, aAA, hb.trans h0, r⟩, h2⟩
theorem gS.lt {w : World} {b n : Nat} {f : ByteArray → Option Value} (h : gS w b n f) : b < w.heap.size := by
 obtain ⟨D, h1, _⟩ := h
 exact h1.lt
theorem gS.below {w w' : World} {b n : Nat} {f : ByteArray → Option Value} (h : gS w b n f) (hb : Below w.heap.size w w') : gS w' b n f := h.kept (hb.block _ h.lt)
def aEL (f : ByteArray → Option Value) (x : ByteArray) (v : Value) : ByteArray → Option Value := fun s => if s = x then some v else f s
theorem gS.put {w : World} {b n : Nat} {f : ByteArray → Option Value} (h : gS w b n f) {t e : TypeId} (ht : Tryz.prog.underlying t = some (.map 9 e)) (hn : n < maxLen) {x : ByteArray} (v : Value) (hx : wF x) :
  ∃ w', (Instr.mapUpdate t (.map (some b)) (.string x) v).run Tryz.prog w = .ok () w' ∧ gS w' b (n + 1) (aEL f x v) ∧ w.grownBy w' (some b) := by
 obtain ⟨D, h1, h2⟩ := h
 obtain ⟨w', r, h3, h4⟩ := h1.update vC ht hn (aAJ hx) (show uZ v = some (.held v, []) from rfl)
 refine ⟨w', r, ⟨_, h3, fun s hs => ?_⟩, h4⟩
 unfold aEL
 by_cases e : s = x
 ·rw [if_pos e, e]
  exact ⟨Maps.has_put_same h1.isMap (aEq x) _, fun z => Maps.atKey_put_same h1.isMap (aEq x) _ _⟩
 ·rw [if_neg e]
  have bJ : (Lit.string s.data.toList) ≠ .string x.data.toList := fun h' => e (aAc (by injection h'))
  rw [Maps.has_put_other bJ]; refine ⟨(h2 s hs).1, fun z => ?_⟩
  rw [Maps.atKey_put_other bJ]; exact (h2 s hs).2 z
theorem gS.look {w : World} {b n : Nat} {f : ByteArray → Option Value} (h : gS w b n f) {t e : TypeId} (ht : Tryz.prog.underlying t = some (.map 9 e)) {z : Value} (hz : (zeroValue e).run Tryz.prog w = .ok z w) {x : ByteArray} (hx : wF x) :
  (Instr.lookup t (.map (some b)) (.string x) true).run Tryz.prog w = .ok (.tuple #[(f x).getD z, .bool (f x).isSome]) w ∧ (Instr.lookup t (.map (some b)) (.string x) false).run Tryz.prog w = .ok ((f x).getD z) w := by
 obtain ⟨D, h1, h2⟩ := h
 obtain ⟨g1, g2⟩ := h2 x hx
 constructor
 ·obtain ⟨v, ps, r, hv⟩ := h1.look_ok vC ht hz (show uZ z = some (.held z, []) from rfl) (aAJ hx)
  rw [g2] at hv; unfold uZ at hv; simp only [Option.some.injEq, Prod.mk.injEq, DataW.held.injEq] at hv
  rw [r, hv.1, g1]
 ·obtain ⟨v, ps, r, hv⟩ := h1.lookup vC ht hz (show uZ z = some (.held z, []) from rfl) (aAJ hx)
  rw [g2] at hv; unfold uZ at hv; simp only [Option.some.injEq, Prod.mk.injEq, DataW.held.injEq] at hv
  rw [r, hv.1]
theorem Q5 {w : World} {b n : Nat} {D : DataW Value} (h : w.ownsMap Tryz.prog 9 uZ b n D) (x : List UInt8) : x ∈ strKeys D ↔ Maps.has D (.string x) = true := by
 obtain ⟨es, rfl, hko⟩ := h.keysOf
 rw [Maps.has_eq, List.any_eq_true]
 show x ∈ es.map (fun p => strOf p.1) ↔ _
 rw [List.mem_map]
 constructor
 ·rintro ⟨p, hp, rfl⟩
  obtain ⟨v, hv⟩ := hko p hp; obtain ⟨y, _, hy, _⟩ := Maps.keyOf_str Tryz.underlying9 hv; exact ⟨p, hp, by rw [hy]; simp [Lit.sameKey, strOf]⟩
 ·rintro ⟨p, hp, hs⟩
  obtain ⟨v, hv⟩ := hko p hp; obtain ⟨y, _, hy, _⟩ := Maps.keyOf_str Tryz.underlying9 hv; rw [hy] at hs; exact ⟨p, hp, by rw [hy]; simpa [Lit.sameKey, strOf] using hs⟩
theorem aAR {w : World} {b n : Nat} {D : DataW Value} (h : w.ownsMap Tryz.prog 9 uZ b n D) : (strKeys D).Nodup := by
 obtain ⟨es, hD, hpw, _⟩ := h.entries vC
 obtain ⟨es', hD', hko⟩ := h.keysOf
 obtain rfl : es = es' := by rw [hD] at hD'; simpa using hD'
 subst hD
 show (es.map fun p => strOf p.1).Nodup
 refine List.pairwise_map.2 (hpw.imp_of_mem fun {p q} hp hq bJ e => bJ ?_)
 obtain ⟨v, hv⟩ := hko p hp
 obtain ⟨y, _, hy, _⟩ := Maps.keyOf_str Tryz.underlying9 hv
 obtain ⟨v', hv'⟩ := hko q hq
 obtain ⟨y', _, hy', _⟩ := Maps.keyOf_str Tryz.underlying9 hv'
 rw [hy, hy'] at e ⊢
 exact congrArg _ e
def pH (a b : ByteArray) : Bool := decide (a.toList < b.toList)
theorem aJm {a b : ByteArray} (h : a.toList = b.toList) : a = b := by
 rw [Lib.toList_data, Lib.toList_data] at h
 exact aAc h
theorem H9 (a : ByteArray) : pH a a = false := decide_eq_false (List.lt_irrefl _)
theorem aBD {a b c : ByteArray} (h1 : pH a b = true) (h2 : pH b c = true) : pH a c = true :=
 decide_eq_true (List.lt_trans (of_decide_eq_true h1) (of_decide_eq_true h2))
theorem aHL {a b : ByteArray} (h : pH a b = false) (bJ : a ≠ b) : pH b a = true := by
 have h1 : b.toList ≤ a.toList := List.not_lt.1 (of_decide_eq_false h)
 refine decide_eq_true ?_
 by_cases h2 : b.toList < a.toList
 ·exact h2
 ·exact absurd (aJm (List.le_antisymm (List.not_lt.1 h2) h1)) bJ
def Asc (l : List ByteArray) : Prop := l.Pairwise fun a b => pH a b = true
def O5 (x : List UInt8) : ByteArray := ⟨x.toArray⟩
theorem l7 (x : List UInt8) : (O5 x).data.toList = x := by simp [O5]
theorem aKO (s : ByteArray) : O5 s.data.toList = s := by cases s; simp [O5]
theorem gS.keys {w : World} {b n : Nat} {D : DataW Value} (h : w.ownsMap Tryz.prog 9 uZ b n D) {f : ByteArray → Option Value} (hf : ∀ s, wF s → Maps.has D (.string s.data.toList) = (f s).isSome) {ss : List (List UInt8)} (hp : ss.Perm (strKeys D)) :
  Asc ((ss.mergeSort (fun x y => decide (x ≤ y))).map O5) ∧ ∀ s, s ∈ (ss.mergeSort (fun x y => decide (x ≤ y))).map O5 ↔ wF s ∧ (f s).isSome = true := by
 have tr : ∀ a b c : List UInt8, leB a b = true → leB b c = true → leB a c = true := fun a b c h1 h2 => by simp only [leB, decide_eq_true_eq] at *; exact List.le_trans h1 h2
 have to : ∀ a b : List UInt8, (leB a b || leB b a) = true := fun a b => by simp only [leB, Bool.or_eq_true, decide_eq_true_eq]; exact List.le_total a b
 have hs := List.pairwise_mergeSort tr to ss
 have hpm := (List.mergeSort_perm ss leB).trans hp
 have hnd : (ss.mergeSort leB).Nodup := hpm.nodup_iff.2 (aAR h)
 constructor
 ·refine List.pairwise_map.2 ((List.Pairwise.and hs hnd).imp fun {x y} hxy => ?_)
  have h1 : x ≤ y := of_decide_eq_true hxy.1; refine decide_eq_true ?_
  rw [Lib.toList_data, Lib.toList_data, l7, l7]
  by_cases h2 : x < y
  ·exact h2
  ·exact absurd (List.le_antisymm h1 (List.not_lt.1 h2)) hxy.2
 ·intro s
  rw [List.mem_map]
  constructor
  ·rintro ⟨x, hx, rfl⟩
   have hm := hpm.mem_iff.1 hx; have hl : wF (O5 x) := by
    have := strKeys_le h Tryz.underlying9 x hm
    show (O5 x).size ≤ maxLen
    simpa [O5, ByteArray.size] using this
   refine ⟨hl, ?_⟩
   rw [← hf _ hl, l7]; exact (Q5 h x).1 hm
  ·rintro ⟨h1, h2⟩
   refine ⟨s.data.toList, hpm.mem_iff.2 ((Q5 h _).2 ?_), aKO s⟩
   rw [hf s h1]; exact h2
def D1 (w : World) (B : Nat) (a : Option Addr) (n : Nat) (l : List ByteArray) : Prop :=
 l.length = n ∧ ∀ i, i < n → ∃ b off, a = some ⟨b, off, none⟩ ∧ b < B ∧ w.cell? ⟨b, off + i, none⟩ = some (.string (l.getD i ⟨#[]⟩))
theorem D1.kept {w w' : World} {B : Nat} {a : Option Addr} {n : Nat} {l : List ByteArray} (h : D1 w B a n l) (hk : ∀ k, k < B → w'.heap[k]? = w.heap[k]?) : D1 w' B a n l :=
 ⟨h.1, fun i hi => by
  obtain ⟨b, off, e, hb, hc⟩ := h.2 i hi; exact ⟨b, off, e, hb, (World.cell?_of_block (hk b hb)).trans hc⟩⟩
theorem D1.below {w w' : World} {B B' : Nat} {a : Option Addr} {n : Nat} {l : List ByteArray} (h : D1 w B a n l) (hb : Below B' w w') (hB : B ≤ B') : D1 w' B a n l :=
 h.kept fun k hk => hb.block k (by omega)
theorem D1.more {w : World} {B B' : Nat} {a : Option Addr} {n : Nat} {l : List ByteArray} (h : D1 w B a n l) (hB : B ≤ B') : D1 w B' a n l :=
 ⟨h.1, fun i hi => by
  obtain ⟨b, off, e, hb, hc⟩ := h.2 i hi; exact ⟨b, off, e, by omega, hc⟩⟩
def fD (w : World) (lo hi : Nat) (a : Option Addr) (n : Nat) (l : List ByteArray) : Prop :=
 l.length = n ∧ (0 < n → ∃ g off cs, a = some ⟨g, off, none⟩ ∧ lo ≤ g ∧ g < hi ∧ w.heap[g]? = some (.cells cs 9 (0, 0)) ∧ off + n ≤ cs.size ∧ ∀ i, i < n → cs[off + i]? = some (.string (l.getD i ⟨#[]⟩)))
theorem fD.strs {w : World} {lo hi : Nat} {a : Option Addr} {n : Nat} {l : List ByteArray} (h : fD w lo hi a n l) : D1 w hi a n l :=
 ⟨h.1, fun i hi' => by
  obtain ⟨g, off, cs, e, _, h2, hg, _, hc⟩ := h.2 (by omega)
  exact ⟨g, off, e, h2, (aPx hg).trans (hc i hi')⟩⟩
theorem fD.kept {w w' : World} {lo hi : Nat} {a : Option Addr} {n : Nat} {l : List ByteArray} (h : fD w lo hi a n l) (hk : ∀ j, lo ≤ j → j < hi → w'.heap[j]? = w.heap[j]?) : fD w' lo hi a n l :=
 ⟨h.1, fun hn => by
  obtain ⟨g, off, cs, e, h1, h2, hg, hs, hc⟩ := h.2 hn; exact ⟨g, off, cs, e, h1, h2, (hk g h1 h2).trans hg, hs, hc⟩⟩
theorem fD.below {w w' : World} {lo hi B : Nat} {a : Option Addr} {n : Nat} {l : List ByteArray} (h : fD w lo hi a n l) (hb : Below B w w') (hB : hi ≤ B) : fD w' lo hi a n l :=
 h.kept fun j _ h2 => hb.block j (by omega)
theorem fD.more {w : World} {lo hi lo' hi' : Nat} {a : Option Addr} {n : Nat} {l : List ByteArray} (h : fD w lo hi a n l) (h1 : lo' ≤ lo) (h2 : hi ≤ hi') : fD w lo' hi' a n l :=
 ⟨h.1, fun hn => by
  obtain ⟨g, off, cs, e, a1, a2, r⟩ := h.2 hn; exact ⟨g, off, cs, e, by omega, by omega, r⟩⟩
theorem E3 {w : World} {base : Nat} {v : Value} {n : Nat} {l : List ByteArray} (h : w.ownsRow base 9 1 v n (l.map Value.string)) :
  ∃ a c, v = .slice a n c ∧ fD w base w.heap.size a n l := by
 have hl : l.length = n := by have := h.1; simpa using this
 rcases h.2 with ⟨e, e2⟩ | ⟨g, c, aV, e, hb, hg, hnc, _, hcs, ht⟩
 ·have hn0 : n = 0 := by simpa using e2
  subst hn0; exact ⟨none, 0, e, hl, fun h => absurd h (by omega)⟩
 ·refine ⟨_, c, e, hl, fun hn => ⟨g, 0, aV, rfl, hb, (aPv hg).1, hg, by omega, fun i hi' => ?_⟩⟩
  have h2 : (aV.toList.take (n * 1))[i]? = (l.map Value.string)[i]? := by rw [ht]
  rw [Nat.mul_one, List.getElem?_take_of_lt hi', List.getElem?_map, List.getElem?_eq_getElem (by omega : i < l.length)] at h2
  rw [Nat.zero_add, ← Array.getElem?_toList, h2, List.getD_eq_getElem?_getD, List.getElem?_eq_getElem (by omega)]
  rfl
structure jX (lo hi : Nat) (w w' : World) : Prop where
 os : w'.os = w.os
 tape : w'.tape = w.tape
 output : w'.output = w.output
 size : w.heap.size ≤ w'.heap.size
 block : ∀ j, j < w.heap.size → j < lo ∨ hi ≤ j → w'.heap[j]? = w.heap[j]?
theorem jX.refl (lo hi : Nat) (w : World) : jX lo hi w w := ⟨rfl, rfl, rfl, Nat.le_refl _, fun _ _ _ => rfl⟩
theorem jX.step {lo hi : Nat} {w w1 w2 : World} (h : jX lo hi w w1) (hb : Below w1.heap.size w1 w2) : jX lo hi w w2 :=
 ⟨hb.os.trans h.os, hb.tape.trans h.tape, hb.output.trans h.output, Nat.le_trans h.size hb.size, fun j h1 h2 => (hb.block j (by have := h.size; omega)).trans (h.block j h1 h2)⟩
theorem jX.put {w wr : World} {g i : Nat} {v : Value} (h : jX g (g + 1) w wr) : jX g (g + 1) w (wr.setCell ⟨g, i, none⟩ v) :=
 ⟨h.os, h.tape, h.output, by simpa [World.setCell] using h.size, fun j h1 h2 => (heap_setCell_other _ _ _ _ (by show j ≠ g; omega)).trans (h.block j h1 h2)⟩
theorem jX.below {lo hi B : Nat} {w w' : World} (h : jX lo hi w w') (hB : B ≤ lo) (hw : B ≤ w.heap.size) : Below B w w' := ⟨h.os, h.tape, h.output, h.size, fun k hk => h.block k (by omega) (.inl (by omega))⟩
theorem jX.wide {lo hi lo' hi' : Nat} {w w' : World} (h : jX lo hi w w') (h1 : lo' ≤ lo) (h2 : hi ≤ hi') : jX lo' hi' w w' :=
 ⟨h.os, h.tape, h.output, h.size, fun j a b => h.block j a (by omega)⟩
theorem fD.beside {w w' : World} {lo hi lo' hi' : Nat} {a : Option Addr} {n : Nat} {l : List ByteArray} (h : fD w lo hi a n l) (hb : jX lo' hi' w w') (hd : hi ≤ lo' ∨ hi' ≤ lo) (hw : hi ≤ w.heap.size) : fD w' lo hi a n l :=
 h.kept fun j h1 h2 => hb.block j (by omega) (by omega)
end Go.Proofs.YthkagbnpcjidfaaGreatDoor
namespace Go.Proofs.YthkagbnpcjidfaaGreatDoor
set_option maxRecDepth 100000
open Go.RowKit Go.Maps
theorem aFf (l : List (List UInt8)) : l.map Go.Proofs.encStr = (l.map O5).map Value.string := by
 rw [List.map_map]
 rfl
def aIM (b : Nat) (w w1 : World) (f : ByteArray → Option Value) (e : Ending) (w' : World) : Prop :=
 ∃ ks a c, e = .returned (.slice a ks.length c) ∧ ks.length ≤ b ∧ Asc ks ∧ (∀ s, s ∈ ks ↔ wF s ∧ (f s).isSome = true) ∧ fD w' w1.heap.size w'.heap.size a ks.length ks ∧ Below w.heap.size w w'
theorem aM2 (mb : Option Nat) (W : World) : Calls Tryz.prog 63 #[.map mb] W fun e w' => e = .returned (.func (.func 96) #[] #[.pointer (some ⟨W.heap.size, 0, none⟩)]) ∧ w' = W.alloc (.cells #[.map mb] 89) :=
 callsIn_wide.1 (Tryz.maps_Keys_63 mb W)
theorem aJJ (w : World) (b n : Nat) (f : ByteArray → Option Value) (h : gS w b n f) (hn : n ≤ 1048576) :
  Calls Tryz.prog 62 #[.func (.func 96) #[] #[.pointer (some ⟨w.heap.size, 0, none⟩)]] (w.alloc (.cells #[.map (some b)] 89)) (aIM n w (w.alloc (.cells #[.map (some b)] 89)) f) := by
 obtain ⟨D, h1, h2⟩ := h
 have hs := h1.size_le
 refine (callsIn_wide.1 (Tryz.slices_Sorted_keys_62_63 b n D uZ w h1 (by unfold maxLen; omega) (by omega))).mono ?_
 rintro e w' ⟨v, ss, rfl, hp, jL, C6, hb⟩
 obtain ⟨k1, k2⟩ := gS.keys h1 (fun s hf => (h2 s hf).1) hp
 have hl : ((ss.mergeSort (fun x y => decide (x ≤ y))).map O5).length = ss.length := by simp
 rw [aFf] at jL
 obtain ⟨a, c, rfl, ho⟩ := E3 jL
 refine ⟨_, a, c, by rw [hl], ?_, k1, k2, by rw [hl]; exact ho, ((Below.refl _ w).alloc aPw _).trans (hb.mono (by simp))⟩
 rw [hl, hp.length_eq]
 obtain ⟨es, hD, _⟩ := h1.entries vC
 have cP : (strKeys D).length = Maps.size D := by rw [hD]; show (es.map _).length = _; simp [Maps.size]
 omega
end Go.Proofs.YthkagbnpcjidfaaGreatDoor
namespace Go.Proofs.YthkagbnpcjidfaaGreatDoor
set_option maxRecDepth 100000
open Go.RowKit
theorem aCx {o : aA} (h : o.ok = true) : 1 ≤ o.seq ∧ o.seq ≤ 40 := by
 have h' : dK o.dev o.seq o.stamp o.kind o.item o.qty o.level o.undos = true := h
 unfold dK rI at h'
 simp only [Bool.and_eq_true, eR] at h'
 omega
theorem vB {xs : List Int} {l : List aA} (hc : aD xs l = true) (dev : Int) : ∀ k, k ≤ l.length → (∀ i, i < k → (aB l i).dev = dev → (aB l i).undos % 2 = 0 → (aB l i).seq ≤ bV dev l k) ∧ (∀ i, i < k → (aB l i).dev = dev → (aB l i).seq = bV dev l k → (aB l i).undos % 2 = 0)
 | 0, _ => ⟨fun i hi => absurd hi (Nat.not_lt_zero _), fun i hi => absurd hi (Nat.not_lt_zero _)⟩
 | k + 1, hk => by
  obtain ⟨h1, h2⟩ := vB hc dev k (by omega)
  have e : aB l k = l.getD k aA.zero := rfl; have mY : k < l.length := hk; rw [bV, ← e]
  by_cases hq : (aB l k).dev = dev ∧ (aB l k).undos % 2 = 0
  ·rw [if_pos hq]
   refine ⟨fun i hi hd hu => ?_, fun i hi hd hs => ?_⟩
   ·rcases Nat.lt_or_ge i k with h | h
    ·exact Int.le_of_lt (B3 hc h mY (hd.trans hq.1.symm))
    ·obtain rfl : i = k := by omega
     exact Int.le_refl _
   ·rcases Nat.lt_or_ge i k with h | h
    ·have := B3 hc h mY (hd.trans hq.1.symm)
     omega
    ·obtain rfl : i = k := by omega
     exact hq.2
  ·rw [if_neg hq]
   refine ⟨fun i hi hd hu => ?_, fun i hi hd hs => ?_⟩
   ·rcases Nat.lt_or_ge i k with h | h
    ·exact h1 i h hd hu
    ·obtain rfl : i = k := by omega
     exact absurd ⟨hd, hu⟩ hq
   ·rcases Nat.lt_or_ge i k with h | h
    ·exact h2 i h hd hs
    ·obtain rfl : i = k := by omega
     obtain ⟨_, _, _, _, _, hok, _⟩ := fG hc mY; have hp := (aCx hok).1; rcases rT dev l i with h0 | ⟨j, hj, hdj, hsj⟩
     ·omega
     ·have := B3 hc hj mY (hdj.trans hd.symm)
      omega
theorem aAm {xs : List Int} {l : List aA} (hc : aD xs l = true) {d : Nat} (hd : d < 4) : (gG xs l (d : Int)).length = (xs.getD d 0).toNat ∧ ∀ i, i < (gG xs l (d : Int)).length → (aB (gG xs l (d : Int)) i).ok = true ∧ (oW xs l (d : Int) < (aB (gG xs l (d : Int)) i).seq → ¬ (aB (gG xs l (d : Int)) i).undos % 2 = 0) ∧ ((aB (gG xs l (d : Int)) i).seq = oW xs l (d : Int) → (aB (gG xs l (d : Int)) i).undos % 2 = 0) := by
 have hu : oW xs l (d : Int) = bV (d : Int) l l.length := by
  unfold oW; rw [if_pos ⟨hc, eR.2 ⟨by omega, by omega⟩⟩]
 obtain ⟨h1, h2⟩ := vB hc (d : Int) l.length aPw
 rw [hu, Q2 hc]
 refine ⟨?_, fun i hi => ?_⟩
 ·rw [aBy hc hd]
  have hl : aL xs (d + 1) ≤ l.length := by
   have := hC xs (d + 1) 4 (by omega)
   rw [(fX hc).2.2] at this; exact this
  have es : aL xs (d + 1) = aL xs d + (xs.getD d 0).toNat := rfl; unfold oC; rw [List.length_take, List.length_drop]; omega
 ·have hm : aB (l.filter (oX (d : Int))) i ∈ l.filter (oX (d : Int)) := by
   unfold aB; rw [List.getD_eq_getElem?_getD, List.getElem?_eq_getElem hi]; exact List.getElem_mem hi
  have hf := List.mem_filter.1 hm; obtain ⟨j, hj, ej⟩ := List.mem_iff_getElem.1 hf.1; have ea : aB l j = aB (l.filter (oX (d : Int))) i := by
   rw [← ej]
   show l.getD j aA.zero = _
   rw [List.getD_eq_getElem?_getD, List.getElem?_eq_getElem hj]
   rfl
  have gJ : (aB (l.filter (oX (d : Int))) i).dev = (d : Int) := of_decide_eq_true hf.2; obtain ⟨_, _, _, _, _, hok, _⟩ := fG hc hj; rw [ea] at hok; refine ⟨hok, fun aK hu2 => ?_, fun he => ?_⟩
  ·have := h1 j hj (by rw [ea]; exact gJ) (by rw [ea]; exact hu2)
   rw [ea] at this; omega
  ·have := h2 j hj (by rw [ea]; exact gJ) (by rw [ea]; exact he)
   rw [ea] at this; exact this
end Go.Proofs.YthkagbnpcjidfaaGreatDoor
