/- Walks and mathematics that several claims share, part 21. -/
import Derived.Test.YthkagbnpcjidfaaGreatDoorGy12
import Derived.Test.YthkagbnpcjidfaaGreatDoorGy13
import Derived.Test.YthkagbnpcjidfaaGreatDoorGy16
import Derived.Test.YthkagbnpcjidfaaGreatDoorGy17
import Derived.Test.YthkagbnpcjidfaaGreatDoorGy18
import Derived.Test.YthkagbnpcjidfaaGreatDoorGy19
import Derived.Test.YthkagbnpcjidfaaGreatDoorGy0
import Derived.Test.YthkagbnpcjidfaaGreatDoorGy8
import Derived.Test.YthkagbnpcjidfaaGreatDoorGy20
import Derived.Test.YthkagbnpcjidfaaGreatDoorGy14
import Derived.Test.YthkagbnpcjidfaaGreatDoorGy9
import Derived.Test.YthkagbnpcjidfaaGreatDoorRows
import Derived.WalkKit
import Derived.Lib.Hide
import Derived.Lib.Strings
import Derived.Maps.OwnSet
import Derived.Sort.KeysCollected
import Derived.Below
import Derived.WalkLawsBesides
import Derived.Deep.QuietTactic
import Derived.BigQuiet
import Derived.Laws.Rows
import Derived.WalkSpells
import Derived.OwnWalk
import Derived.Laws.BytesArg
import Derived.Deep.RegionHeld3
import Derived.Deep.Draws
import Derived.Laws.CopyRow
import Derived.Laws.IdiomCopy
import Derived.Deep.Onto
import Derived.Deep.Cut
import Derived.ScopeJumps
import Derived.Test.YthkagbnpcjidfaaGreatDoorGyA
namespace Go.Proofs.YthkagbnpcjidfaaGreatDoor
set_option maxRecDepth 100000
open Go.RowKit
set_option linter.unusedVariables false
set_option linter.unusedSimpArgs false
open Go.Maps (Keyed)

/-- How an element reads: as itself. -/
def zK : Value → Option (DataW Value × List MemPlace) := fun v => some (.held v, [])
theorem zU : Keyed Tryz.prog 9 := Go.Maps.string_keyed Tryz.underlying9
/-- A text that can be a key. -/
def C7 (s : ByteArray) : Prop := s.size ≤ maxLen
theorem aCf {s : ByteArray} (h : C7 s) : keyOf Tryz.prog 9 (.string s) = some (.string s.data.toList) := by
 unfold C7 at h
 simp [keyOf, Tryz.underlying9, mapKey, h]
theorem aFR (x : ByteArray) : WideAt.IsKeyLit (.string x.data.toList) := trivial
theorem aBn {a b : ByteArray} (h : a.data.toList = b.data.toList) : a = b := by
 cases a; cases b
 simpa using h
/-- Block b is a map of at most n entries that has f s under the text s. -/
def iN (w : World) (b n : Nat) (f : ByteArray → Option Value) : Prop :=
 ∃ D : DataW Value, w.ownsMap Tryz.prog 9 zK b n D ∧ ∀ s, C7 s → Maps.has D (.string s.data.toList) = (f s).isSome ∧ ∀ z, D.atKey (.string s.data.toList) (.held z) = .held ((f s).getD z)
theorem iN.made (w : World) : iN (w.alloc (.map #[] 0)) w.heap.size 0 (fun _ => none) :=
 ⟨_, World.ownsMap_made w _ _ _, fun _ _ => ⟨rfl, fun _ => rfl⟩⟩
theorem iN.mono {w : World} {b n n' : Nat} {f : ByteArray → Option Value} (h : iN w b n f) (hn : n ≤ n') : iN w b n' f := by
 obtain ⟨D, h1, h2⟩ := h
 exact ⟨D, h1.mono hn, h2⟩
theorem iN.congr {w : World} {b n : Nat} {f g : ByteArray → Option Value} (h : iN w b n f) (e : ∀ s, C7 s → g s = f s) : iN w b n g := by
 obtain ⟨D, h1, h2⟩ := h
 exact ⟨D, h1, fun s hs => by rw [e s hs]; exact h2 s hs⟩
theorem iN.kept {w w' : World} {b n : Nat} {f : ByteArray → Option Value} (h : iN w b n f) (hb : w'.heap[b]? = w.heap[b]?) : iN w' b n f := by
 obtain ⟨D, ⟨es, aBP, h0, r⟩, h2⟩ := h
 exact ⟨D, ⟨es, aBP, hb.trans h0, r⟩, h2⟩
theorem iN.lt {w : World} {b n : Nat} {f : ByteArray → Option Value} (h : iN w b n f) : b < w.heap.size := by
 obtain ⟨D, h1, _⟩ := h
 exact h1.lt
theorem iN.below {w w' : World} {b n : Nat} {f : ByteArray → Option Value} (h : iN w b n f) (hb : Below w.heap.size w w') : iN w' b n f := h.kept (hb.block _ h.lt)
/-- With one more. -/
def aGf (f : ByteArray → Option Value) (x : ByteArray) (v : Value) : ByteArray → Option Value := fun s => if s = x then some v else f s
theorem iN.put {w : World} {b n : Nat} {f : ByteArray → Option Value} (h : iN w b n f) {t e : TypeId} (ht : Tryz.prog.underlying t = some (.map 9 e)) (hn : n < maxLen) {x : ByteArray} (v : Value) (hx : C7 x) :
  ∃ w', (Instr.mapUpdate t (.map (some b)) (.string x) v).run Tryz.prog w = .ok () w' ∧ iN w' b (n + 1) (aGf f x v) ∧ w.grownBy w' (some b) := by
 obtain ⟨D, h1, h2⟩ := h
 obtain ⟨w', r, h3, h4⟩ := h1.update zU ht hn (aCf hx) (show zK v = some (.held v, []) from rfl)
 refine ⟨w', r, ⟨_, h3, fun s hs => ?_⟩, h4⟩
 unfold aGf
 by_cases e : s = x
 ·rw [if_pos e, e]
  exact ⟨Maps.has_put_same h1.isMap (aFR x) _, fun z => Maps.atKey_put_same h1.isMap (aFR x) _ _⟩
 ·rw [if_neg e]
  have bH : (Lit.string s.data.toList) ≠ .string x.data.toList := fun h' => e (aBn (by injection h'))
  rw [Maps.has_put_other bH]; refine ⟨(h2 s hs).1, fun z => ?_⟩
  rw [Maps.atKey_put_other bH]; exact (h2 s hs).2 z
theorem iN.look {w : World} {b n : Nat} {f : ByteArray → Option Value} (h : iN w b n f) {t e : TypeId} (ht : Tryz.prog.underlying t = some (.map 9 e)) {z : Value} (hz : (zeroValue e).run Tryz.prog w = .ok z w) {x : ByteArray} (hx : C7 x) :
  (Instr.lookup t (.map (some b)) (.string x) true).run Tryz.prog w = .ok (.tuple #[(f x).getD z, .bool (f x).isSome]) w ∧ (Instr.lookup t (.map (some b)) (.string x) false).run Tryz.prog w = .ok ((f x).getD z) w := by
 obtain ⟨D, h1, h2⟩ := h
 obtain ⟨g1, g2⟩ := h2 x hx
 constructor
 ·obtain ⟨v, ps, r, hv⟩ := h1.look_ok zU ht hz (show zK z = some (.held z, []) from rfl) (aCf hx)
  rw [g2] at hv; unfold zK at hv; simp only [Option.some.injEq, Prod.mk.injEq, DataW.held.injEq] at hv
  rw [r, hv.1, g1]
 ·obtain ⟨v, ps, r, hv⟩ := h1.lookup zU ht hz (show zK z = some (.held z, []) from rfl) (aCf hx)
  rw [g2] at hv; unfold zK at hv; simp only [Option.some.injEq, Prod.mk.injEq, DataW.held.injEq] at hv
  rw [r, hv.1]

theorem m6 {w : World} {b n : Nat} {D : DataW Value} (h : w.ownsMap Tryz.prog 9 zK b n D) (x : List UInt8) : x ∈ strKeys D ↔ Maps.has D (.string x) = true := by
 obtain ⟨es, rfl, hko⟩ := h.keysOf
 rw [Maps.has_eq, List.any_eq_true]
 show x ∈ es.map (fun p => strOf p.1) ↔ _
 rw [List.mem_map]
 constructor
 ·rintro ⟨p, hp, rfl⟩
  obtain ⟨v, hv⟩ := hko p hp; obtain ⟨y, _, hy, _⟩ := Maps.keyOf_str Tryz.underlying9 hv; exact ⟨p, hp, by rw [hy]; simp [Lit.sameKey, strOf]⟩
 ·rintro ⟨p, hp, hs⟩
  obtain ⟨v, hv⟩ := hko p hp; obtain ⟨y, _, hy, _⟩ := Maps.keyOf_str Tryz.underlying9 hv; rw [hy] at hs; exact ⟨p, hp, by rw [hy]; simpa [Lit.sameKey, strOf] using hs⟩
theorem aCo {w : World} {b n : Nat} {D : DataW Value} (h : w.ownsMap Tryz.prog 9 zK b n D) : (strKeys D).Nodup := by
 obtain ⟨es, hD, hpw, _⟩ := h.entries zU
 obtain ⟨es', hD', hko⟩ := h.keysOf
 obtain rfl : es = es' := by rw [hD] at hD'; simpa using hD'
 subst hD
 show (es.map fun p => strOf p.1).Nodup
 refine List.pairwise_map.2 (hpw.imp_of_mem fun {p q} hp hq bH e => bH ?_)
 obtain ⟨v, hv⟩ := hko p hp
 obtain ⟨y, _, hy, _⟩ := Maps.keyOf_str Tryz.underlying9 hv
 obtain ⟨v', hv'⟩ := hko q hq
 obtain ⟨y', _, hy', _⟩ := Maps.keyOf_str Tryz.underlying9 hv'
 rw [hy, hy'] at e ⊢
 exact congrArg _ e
/-- Go's order of texts. -/
def sH (a b : ByteArray) : Bool := decide (a.toList < b.toList)
theorem aBo {a b : ByteArray} (h : a.toList = b.toList) : a = b := by
 rw [Lib.toList_data, Lib.toList_data] at h
 exact aBn h
theorem I4 (a : ByteArray) : sH a a = false := decide_eq_false (List.lt_irrefl _)
theorem aC4 {a b c : ByteArray} (h1 : sH a b = true) (h2 : sH b c = true) : sH a c = true :=
 decide_eq_true (List.lt_trans (of_decide_eq_true h1) (of_decide_eq_true h2))
theorem aJo {a b : ByteArray} (h : sH a b = false) (bH : a ≠ b) : sH b a = true := by
 have h1 : b.toList ≤ a.toList := List.not_lt.1 (of_decide_eq_false h)
 refine decide_eq_true ?_
 by_cases h2 : b.toList < a.toList
 ·exact h2
 ·exact absurd (aBo (List.le_antisymm (List.not_lt.1 h2) h1)) bH
def Asc (l : List ByteArray) : Prop := l.Pairwise fun a b => sH a b = true
/-- The bytes of a key as a text. -/
def j0 (x : List UInt8) : ByteArray := ⟨x.toArray⟩
theorem aAV (x : List UInt8) : (j0 x).data.toList = x := by simp [j0]
theorem aMF (s : ByteArray) : j0 s.data.toList = s := by cases s; simp [j0]
/-- The keys of a map, sorted: ascending, and just those that the map has. -/
theorem iN.keys {w : World} {b n : Nat} {D : DataW Value} (h : w.ownsMap Tryz.prog 9 zK b n D) {f : ByteArray → Option Value} (hf : ∀ s, C7 s → Maps.has D (.string s.data.toList) = (f s).isSome) {ss : List (List UInt8)} (hp : ss.Perm (strKeys D)) :
  Asc ((ss.mergeSort (fun x y => decide (x ≤ y))).map j0) ∧ ∀ s, s ∈ (ss.mergeSort (fun x y => decide (x ≤ y))).map j0 ↔ C7 s ∧ (f s).isSome = true := by
 have tr : ∀ a b c : List UInt8, leB a b = true → leB b c = true → leB a c = true := fun a b c h1 h2 => by simp only [leB, decide_eq_true_eq] at *; exact List.le_trans h1 h2
 have to : ∀ a b : List UInt8, (leB a b || leB b a) = true := fun a b => by simp only [leB, Bool.or_eq_true, decide_eq_true_eq]; exact List.le_total a b
 have hs := List.pairwise_mergeSort tr to ss
 have hpm := (List.mergeSort_perm ss leB).trans hp
 have hnd : (ss.mergeSort leB).Nodup := hpm.nodup_iff.2 (aCo h)
 constructor
 ·refine List.pairwise_map.2 ((List.Pairwise.and hs hnd).imp fun {x y} hxy => ?_)
  have h1 : x ≤ y := of_decide_eq_true hxy.1; refine decide_eq_true ?_
  rw [Lib.toList_data, Lib.toList_data, aAV, aAV]
  by_cases h2 : x < y
  ·exact h2
  ·exact absurd (List.le_antisymm h1 (List.not_lt.1 h2)) hxy.2
 ·intro s
  rw [List.mem_map]
  constructor
  ·rintro ⟨x, hx, rfl⟩
   have hm := hpm.mem_iff.1 hx; have hl : C7 (j0 x) := by
    have := strKeys_le h Tryz.underlying9 x hm
    show (j0 x).size ≤ maxLen
    simpa [j0, ByteArray.size] using this
   refine ⟨hl, ?_⟩
   rw [← hf _ hl, aAV]; exact (m6 h x).1 hm
  ·rintro ⟨h1, h2⟩
   refine ⟨s.data.toList, hpm.mem_iff.2 ((m6 h _).2 ?_), aMF s⟩
   rw [hf s h1]; exact h2
/-- An item put among others, where it belongs, if it is not there. -/
def uU (x : ByteArray) : List ByteArray → List ByteArray
 | [] => [x]
 | y :: r => if sH y x = true then y :: uU x r else if y = x then y :: r else x :: y :: r
theorem aA3 (x z : ByteArray) : ∀ l : List ByteArray, z ∈ uU x l ↔ z = x ∨ z ∈ l
 | [] => by simp [uU]
 | y :: r => by
  unfold uU
  split
  ·rw [List.mem_cons, aA3 x z r, List.mem_cons]
   constructor
   ·rintro (h | h | h) <;> simp [h]
   ·rintro (h | h | h) <;> simp [h]
  ·split
   ·rename_i h
    rw [List.mem_cons]
    constructor
    ·exact fun h' => .inr h'
    ·rintro (h' | h')
     ·exact .inl (h'.trans h.symm)
     ·exact h'
   ·simp
theorem aEl (x : ByteArray) : ∀ l : List ByteArray, Asc l → Asc (uU x l)
 | [], _ => by simp [uU, Asc]
 | y :: r, h => by
  obtain ⟨h1, h2⟩ := List.pairwise_cons.1 h; unfold uU
  split
  ·rename_i hl
   refine List.pairwise_cons.2 ⟨fun z hz => ?_, aEl x r h2⟩
   rcases (aA3 x z r).1 hz with rfl | hz
   ·exact hl
   ·exact h1 z hz
  ·split
   ·exact h
   ·rename_i hl bH
    have hxy : sH x y = true := aJo (by cases hq : sH y x <;> simp_all) bH
    refine List.pairwise_cons.2 ⟨fun z hz => ?_, h⟩
    rcases List.mem_cons.1 hz with rfl | hz
    ·exact hxy
    ·exact aC4 hxy (h1 z hz)
theorem aEk (x : ByteArray) : ∀ l : List ByteArray, (uU x l).length ≤ l.length + 1
 | [] => by simp [uU]
 | y :: r => by
  unfold uU
  split
  ·have := aEk x r
   simp only [List.length_cons]; omega
  ·split <;> simp
/-- Where the item belongs: behind those that are less. -/
theorem aFV (x : ByteArray) : ∀ (l : List ByteArray) (at_ : Nat), at_ ≤ l.length → (∀ j, j < at_ → sH (l.getD j ⟨#[]⟩) x = true) → (at_ < l.length → sH (l.getD at_ ⟨#[]⟩) x = false) →
  uU x l = if at_ < l.length ∧ l.getD at_ ⟨#[]⟩ = x then l else l.take at_ ++ x :: l.drop at_
 | [], at_, h, _, _ => by
  obtain rfl : at_ = 0 := by simpa using h
  simp [uU]
 | y :: r, 0, _, _, h2 => by
  have h3 : sH y x = false := h2 (by simp)
  unfold uU; rw [h3]
  by_cases hy : y = x
  ·simp [hy]
  ·simp [hy]
 | y :: r, k + 1, h, h1, h2 => by
  have h3 : sH y x = true := h1 0 (by omega)
  have ih := aFV x r k (by simpa using h) (fun j hj => by have := h1 (j + 1) (by omega); simpa using this) (fun hk => by have := h2 (by simpa using hk); simpa using this)
  unfold uU; rw [if_pos h3, ih]
  by_cases hc : k < r.length ∧ r.getD k ⟨#[]⟩ = x
  ·rw [if_pos hc, if_pos (by simpa using hc)]
  ·rw [if_neg hc, if_neg (by simpa using hc)]
   simp
theorem asc_one {a b : List ByteArray} (ha : Asc a) (hb : Asc b) (h : ∀ x, x ∈ a ↔ x ∈ b) : a = b := by
 induction a generalizing b with
 | nil =>
  cases b with
  | nil => rfl
  | cons y r => exact absurd ((h y).2 (by simp)) (by simp)
 | cons x s ih =>
  obtain ⟨h1, h2⟩ := List.pairwise_cons.1 ha; cases b with
  | nil => exact absurd ((h x).1 (by simp)) (by simp)
  | cons y r =>
   obtain ⟨g1, g2⟩ := List.pairwise_cons.1 hb; have hxy : x = y := by
    rcases List.mem_cons.1 ((h x).1 (by simp)) with e | hx
    ·exact e
    rcases List.mem_cons.1 ((h y).2 (by simp)) with e | hy
    ·exact e.symm
    have := aC4 (g1 x hx) (h1 y hy); rw [I4] at this; cases this
   subst hxy; rw [ih h2 g2 fun z => ?_]
   constructor
   ·intro hz
    rcases List.mem_cons.1 ((h z).1 (by simp [hz])) with rfl | hr
    ·have := h1 z hz
     rw [I4] at this; cases this
    ·exact hr
   ·intro hz
    rcases List.mem_cons.1 ((h z).2 (by simp [hz])) with rfl | hr
    ·have := g1 z hz
     rw [I4] at this; cases this
    ·exact hr
/-- What is there after the first k operations were looked at. -/
def bW (l : List aA) : Nat → List ByteArray
 | 0 => []
 | k + 1 => if aG (l.getD k aA.zero).item l l.length % 2 = 1 then uU (l.getD k aA.zero).item (bW l k) else bW l k
theorem tZ (l : List aA) : ∀ k, Asc (bW l k)
 | 0 => List.Pairwise.nil
 | k + 1 => by
  rw [bW]
  split
  ·exact aEl _ _ (tZ l k)
  ·exact tZ l k
theorem mW (l : List aA) (x : ByteArray) : ∀ k, x ∈ bW l k ↔ aG x l l.length % 2 = 1 ∧ ∃ i, i < k ∧ (l.getD i aA.zero).item = x
 | 0 => by simp [bW]
 | k + 1 => by
  have ih := mW l x k; rw [bW]
  split
  ·rename_i h
   rw [aA3, ih]
   constructor
   ·rintro (rfl | ⟨h1, i, hi, h2⟩)
    ·exact ⟨h, k, by omega, rfl⟩
    ·exact ⟨h1, i, by omega, h2⟩
   ·rintro ⟨h1, i, hi, h2⟩
    by_cases hk : i = k
    ·subst hk
     exact .inl h2.symm
    ·exact .inr ⟨h1, i, by omega, h2⟩
  ·rename_i h
   rw [ih]
   constructor
   ·rintro ⟨h1, i, hi, h2⟩
    exact ⟨h1, i, by omega, h2⟩
   ·rintro ⟨h1, i, hi, h2⟩
    by_cases hk : i = k
    ·subst hk
     exact absurd (h2 ▸ h1) h
    ·exact ⟨h1, i, by omega, h2⟩
theorem zG (l : List aA) : ∀ k, (bW l k).length ≤ k
 | 0 => Nat.le_refl _
 | k + 1 => by
  have ih := zG l k; rw [bW]
  split
  ·have := aEk (l.getD k aA.zero).item (bW l k)
   omega
  ·omega
theorem aD0 {l : List aA} {c : Nat} (hc : ∀ i, i < l.length → (l.getD i aA.zero).item.size ≤ c) {x : ByteArray} {k : Nat} (hk : k ≤ l.length) (h : x ∈ bW l k) : x.size ≤ c := by
 obtain ⟨_, i, hi, rfl⟩ := (mW l x k).1 h
 exact hc i (by omega)
/-- A level above none comes of a live operation. -/
theorem F1 (x : ByteArray) (l : List aA) : ∀ k, aG x l k ≠ 0 → ∃ i, i < k ∧ (l.getD i aA.zero).item = x ∧ (l.getD i aA.zero).undos % 2 = 0
 | 0, h => absurd rfl h
 | k + 1, h => by
  rw [aG] at h
  split at h
  ·rename_i hc
   exact ⟨k, by omega, hc.1, hc.2⟩
  ·obtain ⟨i, hi, r⟩ := F1 x l k h
   exact ⟨i, by omega, r⟩
theorem Z3 {l : List aA} {o : aA} {k : Nat} (hk : k ≤ l.length) : o ∈ jC l k ↔ (∃ i, i < k ∧ l.getD i aA.zero = o) ∧ o.live = true := by
 unfold jC
 rw [List.mem_filter]
 refine and_congr_left fun _ => ?_
 rw [List.mem_take_iff_getElem]
 constructor
 ·rintro ⟨i, hi, e⟩
  exact ⟨i, by omega, by rw [List.getD_eq_getElem?_getD, List.getElem?_eq_getElem (by omega)]; exact e⟩
 ·rintro ⟨i, hi, e⟩
  refine ⟨i, by omega, ?_⟩
  rw [List.getD_eq_getElem?_getD, List.getElem?_eq_getElem (by omega)] at e
  exact e
/-- The items that a cart shows. -/
def bY (xs : List Int) (l : List aA) : List ByteArray := if aE xs l = true then bW l l.length else []
def bX (l : List aA) (x : ByteArray) : aT := ⟨x, (aU qV x l l.length).qty, decide ((aU iC x l l.length).kind = 4)⟩
def aO (xs : List Int) (l : List aA) : List aT := (bY xs l).map (bX l)
/-- The items of some operations, in their order. -/
def aCG (bR : List aA) (ks : List ByteArray) : Prop := Asc ks ∧ ∀ x, x ∈ ks ↔ ∃ o, o ∈ bR ∧ o.item = x
theorem aGr {xs : List Int} {l : List aA} {ks : List ByteArray} (h : aCG (if aE xs l = true then jC l l.length else []) ks) :
  ks.filter (fun x => decide ((cC x (if aE xs l = true then jC l l.length else [])).level % 2 = 1)) = bY xs l := by
 unfold bY
 rcases hc : aE xs l with _ | _
 ·rw [hc] at h
  have : ks = [] := by
   cases ks with
   | nil => rfl
   | cons y r =>
    obtain ⟨o, ho, _⟩ := (h.2 y).1 (by simp)
    exact absurd ho (by simp)
  rw [this]
  rfl
 ·rw [hc] at h
  rw [if_pos rfl, if_pos rfl]; rw [if_pos rfl] at h; refine asc_one (List.Pairwise.filter _ h.1) (tZ l _) fun x => ?_
  rw [List.mem_filter, h.2 x, mW, decide_eq_true_eq, yN hc x l.length aRC]
  show (_ ∧ aG x l l.length % 2 = 1) ↔ _
  constructor
  ·rintro ⟨⟨o, ho, hx⟩, hl⟩
   obtain ⟨⟨i, hi, e⟩, _⟩ := (Z3 aRC).1 ho; exact ⟨hl, i, hi, by rw [e]; exact hx⟩
  ·rintro ⟨hl, _⟩
   obtain ⟨i, hi, e, hu⟩ := F1 x l l.length (by intro h0; rw [h0] at hl; cases hl)
   refine ⟨⟨l.getD i aA.zero, (Z3 aRC).2 ⟨⟨i, hi, rfl⟩, ?_⟩, e⟩, hl⟩
   obtain ⟨_, _, _, _, _, hok, _, _⟩ := gX hc hi; have := aCs hok; have ea : aC l i = l.getD i aA.zero := rfl; rw [ea] at this; rw [this, decide_eq_true hu]
set_option linter.unusedVariables false

def bG (l : List aA) (s : ByteArray) : Bool := decide ((aU iC s l l.length).kind = 4)
def mL (l : List aA) (s : ByteArray) : aA := ⟨0, 0, 0, 3, s, 0, aG s l l.length + 1, 0⟩
/-- One item more is cleared. -/
def fU (l : List aA) (d : Nat) (s : ByteArray) (q : List Int × List aA × Int) : Option (List Int × List aA × Int) :=
 if bG l s = true then some q
 else if (aJ q.1 q.2.1 d (mL l s)).ok = true then some (dU q.1 d, bO q.2.1 d (aJ q.1 q.2.1 d (mL l s)), 0) else none
/-- The cart when the first k of some items are cleared; none: there was no room. -/
def jF (xs : List Int) (l : List aA) (d : Nat) (L : List ByteArray) : Nat → Option (List Int × List aA × Int)
 | 0 => some (xs, l, 2)
 | k + 1 => (jF xs l d L k).bind (fU l d (L.getD k ⟨#[]⟩))
theorem aBN {xs : List Int} {l : List aA} {d : Nat} {L : List ByteArray} {k : Nat} (h : jF xs l d L k = none) : ∀ j, jF xs l d L (k + j) = none
 | 0 => h
 | j + 1 => by
  show (jF xs l d L (k + j)).bind _ = none
  rw [aBN h j]
  rfl
def sS (xs : List Int) (l : List aA) (d : Nat) : Int × List Int × List aA :=
 match jF xs l d (bW l l.length) (bW l l.length).length with
 | none => (4, [], [])
 | some q => if q.2.2 = 0 then (0, q.1, q.2.1) else (2, [], [])
/-- Which operation has a device and a number. -/
def nameAt (l : List aA) (dev seq : Int) : Nat := l.findIdx fun x => decide (x.dev = dev ∧ x.seq = seq)
def jK (xs : List Int) (l : List aA) (dev seq : Int) : Int × List Int × List aA :=
 if nameAt l dev seq < l.length then (if (aC l (nameAt l dev seq)).undos = 50 then (4, [], []) else (0, xs, fB l (nameAt l dev seq))) else (2, [], [])
def eA (xs : List Int) (l : List aA) (d : Nat) (kind : Int) (item : ByteArray) (qty : Int) : Int × List Int × List aA :=
 let o := oneOf (aG item l l.length) (bG l item) kind item qty
 if o.2 = 0 then (if (aJ xs l d o.1).ok = true then (0, dU xs d, bO l d (aJ xs l d o.1)) else (4, [], [])) else (o.2, [], [])
def jN (xs : List Int) (l : List aA) (d : Nat) (kind : Int) (item : ByteArray) (qty dv sq : Int) : Int × List Int × List aA :=
 if kind = 6 then sS xs l d
 else if kind = 7 then jK xs l (d : Int) (cY (d : Int) l l.length)
 else if kind = 8 then jK xs l (d : Int) (rJ xs d l)
 else if kind = 9 then jK xs l dv sq
 else eA xs l d kind item qty
def bN (xs : List Int) (l : List aA) (dev kind : Int) (item : ByteArray) (qty dv sq : Int) : Int × List Int × List aA :=
 if aE xs l = true ∧ dD dev 0 3 = true ∧ eN kind item qty dv sq = true then
  (if (jN xs l dev.toNat kind item qty dv sq).1 = 0 then jN xs l dev.toNat kind item qty dv sq else ((jN xs l dev.toNat kind item qty dv sq).1, xs, l))
 else (1, [], [])
theorem aAw {xs : List Int} {l : List aA} (hc : aE xs l = true) {i : Nat} (hi : i < l.length) {dev seq : Int} (h1 : (aC l i).dev = dev) (h2 : (aC l i).seq = seq) : nameAt l dev seq = i := by
 have aK : nameAt l dev seq < l.length := List.findIdx_lt_length_of_exists ⟨l[i], List.getElem_mem hi, by
  have e : aC l i = l[i] := by unfold aC; rw [List.getD_eq_getElem?_getD, List.getElem?_eq_getElem hi]; rfl
  rw [e] at h1 h2; exact decide_eq_true ⟨h1, h2⟩⟩
 have hp := List.findIdx_getElem (w := aK)
 have e : aC l (nameAt l dev seq) = l[nameAt l dev seq] := by unfold aC; rw [List.getD_eq_getElem?_getD, List.getElem?_eq_getElem aK]; rfl
 have hp2 := of_decide_eq_true hp
 have hq : (aC l (nameAt l dev seq)).dev = dev ∧ (aC l (nameAt l dev seq)).seq = seq := by rw [e]; exact hp2
 exact aEm (yW hc) aK hi (dev := dev) (seq := seq) hq ⟨h1, h2⟩
theorem aC1 {l : List aA} {dev seq : Int} (h : ∀ j, j < l.length → ¬ ((aC l j).dev = dev ∧ (aC l j).seq = seq)) : ¬ nameAt l dev seq < l.length := fun aK => by
 have hp := of_decide_eq_true (List.findIdx_getElem (w := aK))
 have e : aC l (nameAt l dev seq) = l[nameAt l dev seq] := by unfold aC; rw [List.getD_eq_getElem?_getD, List.getElem?_eq_getElem aK]; rfl
 exact h _ aK (by rw [e]; exact hp)
/-- What a command's walk leaves: the code, and when it is 0 a cart of the call's own. -/
def aGQ (r : Int × List Int × List aA) (w : World) (e : Ending) (w' : World) : Prop :=
 ∃ va nv vc oa no oc, e = .returned (.tuple #[.agg #[.slice va nv vc, .slice oa no oc], .int .i64 r.1]) ∧ Below w.heap.size w w' ∧ (r.1 = 0 → nv = r.2.1.length ∧ no = r.2.2.length ∧ Own w' w.heap.size w'.heap.size va nv r.2.1 ∧ bF w' w.heap.size w'.heap.size oa no r.2.2 ∧ bP va nv vc ∧ bP oa no oc)
theorem tR.toX {code : Int} {zs : List Int} {L : List aA} {w w' : World} {e : Ending} (h : tR code zs L w e w') : aGQ (code, zs, L) w e w' := by
 obtain ⟨va, vc, oa, oc, e1, h1, h2, h3, h4, h5⟩ := h
 exact ⟨va, _, vc, oa, _, oc, e1, h3, fun _ => ⟨rfl, rfl, h1, h2, h4, h5⟩⟩
theorem aEO.toX {xs : List Int} {l : List aA} {dev seq : Int} {w w' : World} {e : Ending} (h : aEO xs l dev seq w e w') (hc : aE xs l = true) : aGQ (jK xs l dev seq) w e w' := by
 unfold jK
 rcases h with ⟨h0, h⟩ | ⟨i, hi, ⟨h1, h2⟩, ⟨hu, h⟩ | ⟨hu, h⟩⟩
 ·rw [if_neg (aC1 h0)]
  exact h.toX
 ·rw [aAw hc hi h1 h2, if_pos hi, if_pos hu]
  exact h.toX
 ·rw [aAw hc hi h1 h2, if_pos hi, if_neg hu]
  exact h.toX
set_option linter.unusedVariables false

/-- A slice of strings that reads as the list l; its cells lie below block B. -/
def Q7 (w : World) (B : Nat) (a : Option Addr) (n : Nat) (l : List ByteArray) : Prop :=
 l.length = n ∧ ∀ i, i < n → ∃ b off, a = some ⟨b, off, none⟩ ∧ b < B ∧ w.cell? ⟨b, off + i, none⟩ = some (.string (l.getD i ⟨#[]⟩))
theorem Q7.kept {w w' : World} {B : Nat} {a : Option Addr} {n : Nat} {l : List ByteArray} (h : Q7 w B a n l) (hk : ∀ k, k < B → w'.heap[k]? = w.heap[k]?) : Q7 w' B a n l :=
 ⟨h.1, fun i hi => by
  obtain ⟨b, off, e, hb, hc⟩ := h.2 i hi; exact ⟨b, off, e, hb, (World.cell?_of_block (hk b hb)).trans hc⟩⟩
theorem Q7.below {w w' : World} {B B' : Nat} {a : Option Addr} {n : Nat} {l : List ByteArray} (h : Q7 w B a n l) (hb : Below B' w w') (hB : B ≤ B') : Q7 w' B a n l :=
 h.kept fun k hk => hb.block k (by omega)
theorem Q7.more {w : World} {B B' : Nat} {a : Option Addr} {n : Nat} {l : List ByteArray} (h : Q7 w B a n l) (hB : B ≤ B') : Q7 w B' a n l :=
 ⟨h.1, fun i hi => by
  obtain ⟨b, off, e, hb, hc⟩ := h.2 i hi; exact ⟨b, off, e, by omega, hc⟩⟩
/-- A slice of strings whose row, if it has elements, is a block between lo and hi. -/
def fV (w : World) (lo hi : Nat) (a : Option Addr) (n : Nat) (l : List ByteArray) : Prop :=
 l.length = n ∧ (0 < n → ∃ g off cs, a = some ⟨g, off, none⟩ ∧ lo ≤ g ∧ g < hi ∧ w.heap[g]? = some (.cells cs 9 (0, 0)) ∧ off + n ≤ cs.size ∧ ∀ i, i < n → cs[off + i]? = some (.string (l.getD i ⟨#[]⟩)))
theorem fV.strs {w : World} {lo hi : Nat} {a : Option Addr} {n : Nat} {l : List ByteArray} (h : fV w lo hi a n l) : Q7 w hi a n l :=
 ⟨h.1, fun i hi' => by
  obtain ⟨g, off, cs, e, _, h2, hg, _, hc⟩ := h.2 (by omega)
  exact ⟨g, off, e, h2, (aRD hg).trans (hc i hi')⟩⟩
theorem fV.kept {w w' : World} {lo hi : Nat} {a : Option Addr} {n : Nat} {l : List ByteArray} (h : fV w lo hi a n l) (hk : ∀ j, lo ≤ j → j < hi → w'.heap[j]? = w.heap[j]?) : fV w' lo hi a n l :=
 ⟨h.1, fun hn => by
  obtain ⟨g, off, cs, e, h1, h2, hg, hs, hc⟩ := h.2 hn; exact ⟨g, off, cs, e, h1, h2, (hk g h1 h2).trans hg, hs, hc⟩⟩
theorem fV.below {w w' : World} {lo hi B : Nat} {a : Option Addr} {n : Nat} {l : List ByteArray} (h : fV w lo hi a n l) (hb : Below B w w') (hB : hi ≤ B) : fV w' lo hi a n l :=
 h.kept fun j _ h2 => hb.block j (by omega)
theorem fV.more {w : World} {lo hi lo' hi' : Nat} {a : Option Addr} {n : Nat} {l : List ByteArray} (h : fV w lo hi a n l) (h1 : lo' ≤ lo) (h2 : hi ≤ hi') : fV w lo' hi' a n l :=
 ⟨h.1, fun hn => by
  obtain ⟨g, off, cs, e, a1, a2, r⟩ := h.2 hn; exact ⟨g, off, cs, e, by omega, by omega, r⟩⟩
/-- A row that a call has appended to, read as such a slice. -/
theorem yQ {w : World} {base : Nat} {v : Value} {n : Nat} {l : List ByteArray} (h : w.ownsRow base 9 1 v n (l.map Value.string)) :
  ∃ a c, v = .slice a n c ∧ fV w base w.heap.size a n l := by
 have hl : l.length = n := by have := h.1; simpa using this
 rcases h.2 with ⟨e, e2⟩ | ⟨g, c, aX, e, hb, hg, hnc, _, hcs, ht⟩
 ·have hn0 : n = 0 := by simpa using e2
  subst hn0; exact ⟨none, 0, e, hl, fun h => absurd h (by omega)⟩
 ·refine ⟨_, c, e, hl, fun hn => ⟨g, 0, aX, rfl, hb, (aRB hg).1, hg, by omega, fun i hi' => ?_⟩⟩
  have h2 : (aX.toList.take (n * 1))[i]? = (l.map Value.string)[i]? := by rw [ht]
  rw [Nat.mul_one, List.getElem?_take_of_lt hi', List.getElem?_map, List.getElem?_eq_getElem (by omega : i < l.length)] at h2
  rw [Nat.zero_add, ← Array.getElem?_toList, h2, List.getD_eq_getElem?_getD, List.getElem?_eq_getElem (by omega)]
  rfl

/-- Of the blocks that were there none has turned but those from lo up to hi. -/
structure lX (lo hi : Nat) (w w' : World) : Prop where
 os : w'.os = w.os
 tape : w'.tape = w.tape
 output : w'.output = w.output
 size : w.heap.size ≤ w'.heap.size
 block : ∀ j, j < w.heap.size → j < lo ∨ hi ≤ j → w'.heap[j]? = w.heap[j]?
theorem lX.refl (lo hi : Nat) (w : World) : lX lo hi w w := ⟨rfl, rfl, rfl, Nat.le_refl _, fun _ _ _ => rfl⟩
theorem lX.step {lo hi : Nat} {w w1 w2 : World} (h : lX lo hi w w1) (hb : Below w1.heap.size w1 w2) : lX lo hi w w2 :=
 ⟨hb.os.trans h.os, hb.tape.trans h.tape, hb.output.trans h.output, Nat.le_trans h.size hb.size, fun j h1 h2 => (hb.block j (by have := h.size; omega)).trans (h.block j h1 h2)⟩
theorem lX.put {w wr : World} {g i : Nat} {v : Value} (h : lX g (g + 1) w wr) : lX g (g + 1) w (wr.setCell ⟨g, i, none⟩ v) :=
 ⟨h.os, h.tape, h.output, by simpa [World.setCell] using h.size, fun j h1 h2 => (heap_setCell_other _ _ _ _ (by show j ≠ g; omega)).trans (h.block j h1 h2)⟩
theorem lX.below {lo hi B : Nat} {w w' : World} (h : lX lo hi w w') (hB : B ≤ lo) (hw : B ≤ w.heap.size) : Below B w w' := ⟨h.os, h.tape, h.output, h.size, fun k hk => h.block k (by omega) (.inl (by omega))⟩
theorem lX.wide {lo hi lo' hi' : Nat} {w w' : World} (h : lX lo hi w w') (h1 : lo' ≤ lo) (h2 : hi ≤ hi') : lX lo' hi' w w' :=
 ⟨h.os, h.tape, h.output, h.size, fun j a b => h.block j a (by omega)⟩
theorem fV.beside {w w' : World} {lo hi lo' hi' : Nat} {a : Option Addr} {n : Nat} {l : List ByteArray} (h : fV w lo hi a n l) (hb : lX lo' hi' w w') (hd : hi ≤ lo' ∨ hi' ≤ lo) (hw : hi ≤ w.heap.size) : fV w' lo hi a n l :=
 h.kept fun j h1 h2 => hb.block j (by omega) (by omega)
set_option linter.unusedVariables false

theorem pR : ∀ a b : List aA, aH (a ++ b) = aH a ++ aH b
 | [], b => rfl
 | x :: a, b => by
  show cB x ++ aH (a ++ b) = (cB x ++ aH a) ++ aH b
  rw [pR a b, List.append_assoc]
theorem l6 (o : aA) : aH [o] = cB o := by show cB o ++ [] = _; rw [List.append_nil]
theorem vJ (o : aA) : (cB o).length = 8 := rfl
/-- Where there is room: the rest is moved up by one, then the element is written. -/
theorem aIl {aX A B R O : List Value} {p q : Nat} (hc : aX = A ++ B ++ R) (hA : A.length = p) (hB : B.length = q) (hO : O.length = 8) (hR : 8 ≤ R.length) :
  ((aX.take (p + 8) ++ B ++ aX.drop (p + 8 + B.length)).take p ++ O ++ (aX.take (p + 8) ++ B ++ aX.drop (p + 8 + B.length)).drop (p + O.length)).take (p + 8 + q) = A ++ O ++ B ∧
  (aX.take (p + 8) ++ B ++ aX.drop (p + 8 + B.length)).length = aX.length ∧
  ((aX.take (p + 8) ++ B ++ aX.drop (p + 8 + B.length)).take p ++ O ++ (aX.take (p + 8) ++ B ++ aX.drop (p + 8 + B.length)).drop (p + O.length)).length = aX.length := by
 have hl : aX.length = p + q + R.length := by rw [hc, List.length_append, List.length_append, hA, hB]
 have ht : (aX.take (p + 8)).length = p + 8 := by rw [List.length_take]; omega
 have e1 : (aX.take (p + 8) ++ B ++ aX.drop (p + 8 + B.length)).take p = A := by
  rw [List.append_assoc, List.take_append_of_le_length (by omega), List.take_take, Nat.min_eq_left (by omega), hc, List.append_assoc, List.take_append_of_le_length (by omega), ← hA, List.take_length]
 have e2 : (aX.take (p + 8) ++ B ++ aX.drop (p + 8 + B.length)).drop (p + O.length) = B ++ aX.drop (p + 8 + B.length) := by
  rw [hO, List.append_assoc]; exact List.drop_left' ht
 rw [e1, e2]
 refine ⟨?_, ?_, ?_⟩
 ·rw [← List.append_assoc, List.take_append_of_le_length (by simp only [List.length_append]; omega)]
  exact List.take_of_length_le (by simp only [List.length_append]; omega)
 ·simp only [List.length_append, List.length_drop, ht]; omega
 ·simp only [List.length_append, List.length_drop]; omega
/-- In a new row: the element, then the rest. -/
theorem aJA {row A B Z O : List Value} {p q : Nat} (hc : row = A ++ Z) (hA : A.length = p) (hB : B.length = q) (hO : O.length = 8) (hZ : 8 + q ≤ Z.length) :
  ((row.take p ++ O ++ row.drop (p + O.length)).take (p + 8) ++ B ++ (row.take p ++ O ++ row.drop (p + O.length)).drop (p + 8 + B.length)).take (p + 8 + q) = A ++ O ++ B ∧
  (row.take p ++ O ++ row.drop (p + O.length)).length = row.length ∧
  ((row.take p ++ O ++ row.drop (p + O.length)).take (p + 8) ++ B ++ (row.take p ++ O ++ row.drop (p + O.length)).drop (p + 8 + B.length)).length = row.length := by
 have hl : row.length = p + Z.length := by rw [hc, List.length_append, hA]
 have e0 : row.take p = A := by rw [hc, List.take_append_of_le_length (by omega), ← hA, List.take_length]
 have e1 : (row.take p ++ O ++ row.drop (p + O.length)).take (p + 8) = A ++ O := by
  rw [e0, List.take_append_of_le_length (by simp only [List.length_append]; omega)]
  exact List.take_of_length_le (by simp only [List.length_append]; omega)
 have hl2 : (row.take p ++ O ++ row.drop (p + O.length)).length = row.length := by
  simp only [List.length_append, List.length_take, List.length_drop]; omega
 refine ⟨?_, hl2, ?_⟩
 ·rw [e1, List.take_append_of_le_length (by simp only [List.length_append]; omega)]
  exact List.take_of_length_le (by simp only [List.length_append]; omega)
 ·rw [e1]
  simp only [List.length_append, List.length_drop, hl2]
  omega
section
variable {P : Program}
/-- The built-in copy, over rows of elements of any size. -/
theorem uP (w : World) (dT sT ty elem : TypeId) (g o aJ5 aP8 : Nat) (a : Addr) (aI2 aPn : Nat) (aX : Array Value) (t : TypeId) (cs : List Value) (k : Nat)
  (hu : P.underlying dT = some (.slice elem)) (hs : (P.info? elem).map (·.size) = some k)
  (hg : w.heap[g]? = some (.cells aX t (0, 0))) (hn : cs.length = Nat.min aI2 aJ5 * k)
  (J2 : ∀ j v, cs[j]? = some v → w.cell? (a.add j) = some v) (aJS : o + cs.length ≤ aX.size) (h1 : ∀ v ∈ cs, v.oneCell' = true) :
  (Builtin.copy_ #[dT, sT] ty #[.slice (some ⟨g, o, none⟩) aJ5 aP8, .slice (some a) aI2 aPn]).run P w =
   .ok (goInt (Nat.min aI2 aJ5)) (w.setRow g (aX.toList.take o ++ cs ++ aX.toList.drop (o + cs.length)).toArray) := by
 have hl := run_loadCells_list (P := P) w a cs J2
 have gC := run_storeCells_at P g o t cs 0 aX w hg (by simpa using aJS) h1
 cases hq : P.info? elem with
 | none => simp [hq] at hs
 | some i =>
  have hi : i.size = k := by simpa [hq] using hs
  simp [Builtin.copy_, run_underlying hu, Builtin.lenOf, Builtin.firstCells, sizeOf, typeInfo, hq, hi, ← hn, hl, gC]
theorem aDW {o : Oper} {a : Act} {w : World} {K : Act → World → Prop} {Q : Exit → Act → World → Prop} (x y : Operand) (ts : Array TypeId) (cD : o.op = Op.call { callee := Callee.builtin Builtin.copy, args := #[x, y], argTypes := ts }) (v1 v2 : Value) {v' : Value} {w' : World} (h1 : a.eval x = v1) (h2 : a.eval y = v2)
  (hrun : (Builtin.copy_ ts o.type #[v1, v2]).run P w = .ok v' w') (hK : K (a.put o.dst v') w') : Oper.wp P o a w K Q := by
 unfold Oper.wp
 simp [execOp, cD, resolve, invoke, builtin, h1, h2, hrun, Result.andThen]
 exact hK
theorem aF6 {w : World} {ops : Array Oper} {rest : List Oper} {o : Oper} {a : Act} {Q : Exit → Act → World → Prop} (hgd : o.guard = none) (x y : Operand) (ts : Array TypeId) (cD : o.op = Op.call { callee := Callee.builtin Builtin.copy, args := #[x, y], argTypes := ts }) (v1 v2 : Value) {v' : Value} {w' : World} (h1 : a.eval x = v1) (h2 : a.eval y = v2)
  (hrun : (Builtin.copy_ ts o.type #[v1, v2]).run P w = .ok v' w') (h : wpList P ops Q rest (a.put o.dst v') w') : wpList P ops Q (o :: rest) a w :=
 wpList_plain hgd fun _ hK => aDW x y ts cD v1 v2 h1 h2 hrun (hK _ _ h)
end
end Go.Proofs.YthkagbnpcjidfaaGreatDoor

namespace Go.Proofs.YthkagbnpcjidfaaGreatDoor
set_option maxRecDepth 100000
open Go.RowKit Go.Maps

theorem aGG (l : List (List UInt8)) : l.map Go.Proofs.encStr = (l.map j0).map Value.string := by
 rw [List.map_map]
 rfl
/-- What slices.Sorted(maps.Keys(m)) hands back: the keys, ascending. -/
def aKk (b : Nat) (w w1 : World) (f : ByteArray → Option Value) (e : Ending) (w' : World) : Prop :=
 ∃ ks a c, e = .returned (.slice a ks.length c) ∧ ks.length ≤ b ∧ Asc ks ∧ (∀ s, s ∈ ks ↔ C7 s ∧ (f s).isSome = true) ∧ fV w' w1.heap.size w'.heap.size a ks.length ks ∧ Below w.heap.size w w'
theorem aOM (mb : Option Nat) (W : World) : Calls Tryz.prog 63 #[.map mb] W fun e w' => e = .returned (.func (.func 96) #[] #[.pointer (some ⟨W.heap.size, 0, none⟩)]) ∧ w' = W.alloc (.cells #[.map mb] 89) :=
 callsIn_wide.1 (Tryz.maps_Keys_63 mb W)
theorem aLy (w : World) (b n : Nat) (f : ByteArray → Option Value) (h : iN w b n f) (hn : n ≤ 1048576) :
  Calls Tryz.prog 62 #[.func (.func 96) #[] #[.pointer (some ⟨w.heap.size, 0, none⟩)]] (w.alloc (.cells #[.map (some b)] 89)) (aKk n w (w.alloc (.cells #[.map (some b)] 89)) f) := by
 obtain ⟨D, h1, h2⟩ := h
 have hs := h1.size_le
 refine (callsIn_wide.1 (Tryz.slices_Sorted_keys_62_63 b n D zK w h1 (by unfold maxLen; omega) (by omega))).mono ?_
 rintro e w' ⟨v, ss, rfl, hp, gW, aA8, hb⟩
 obtain ⟨k1, k2⟩ := iN.keys h1 (fun s hf => (h2 s hf).1) hp
 have hl : ((ss.mergeSort (fun x y => decide (x ≤ y))).map j0).length = ss.length := by simp
 rw [aGG] at gW
 obtain ⟨a, c, rfl, ho⟩ := yQ gW
 refine ⟨_, a, c, by rw [hl], ?_, k1, k2, by rw [hl]; exact ho, ((Below.refl _ w).alloc aRC _).trans (hb.mono (by simp))⟩
 rw [hl, hp.length_eq]
 obtain ⟨es, hD, _⟩ := h1.entries zU
 have dK : (strKeys D).length = Maps.size D := by rw [hD]; show (es.map _).length = _; simp [Maps.size]
 omega
end Go.Proofs.YthkagbnpcjidfaaGreatDoor

namespace Go.Proofs.YthkagbnpcjidfaaGreatDoor
set_option maxRecDepth 100000
open Go.RowKit

def aGL (a b : aA) : Bool := V8 a.dev a.seq a.stamp a.kind a.item a.qty a.level a.undos b.dev b.seq b.stamp b.kind b.item b.qty b.level b.undos
/-- Does the list's first operation, if there is one, not precede x? -/
def u9 (L : List aA) (x : aA) : Bool := decide (L.length = 0) || !(aGL (aC L 0) x)
def aDw (R : Nat → List aA) (x : aA) : Bool := (List.range 4).all fun e => u9 (R e) x
theorem aIv {L : List aA} {x : aA} (h : 0 < L.length) : u9 L x = !(aGL (aC L 0) x) := by unfold u9; rw [decide_eq_false (by omega)]; rfl

theorem aF2 {a b : aA} : tQ a b = true ↔ a.stamp < b.stamp ∨ (a.stamp = b.stamp ∧ (a.dev < b.dev ∨ (a.dev = b.dev ∧ a.seq < b.seq))) := by unfold tQ preB; exact decide_eq_true_iff
theorem aIP {a b c : aA} (h1 : tQ a b = true) (h2 : tQ b c = true) : tQ a c = true := by rw [aF2] at *; omega
theorem aF1 {a : aA} (h : tQ a a = true) : False := by rw [aF2] at h; omega
theorem aMk {a b : aA} (ha : a.ok = true) (hb : b.ok = true) : aGL a b = tQ a b := by
 have ha' : dP a.dev a.seq a.stamp a.kind a.item a.qty a.level a.undos = true := ha
 have Y7 : dP b.dev b.seq b.stamp b.kind b.item b.qty b.level b.undos = true := hb
 unfold aGL V8
 rw [ha', Y7]
 rfl
def aF4 (L : List aA) : Prop := L.Pairwise fun a b => tQ a b = true
theorem aFT (x : aA) : tP [] x = [x] := rfl
theorem aCx {y : aA} {L : List aA} {x : aA} (h : tQ y x = true) : tP (y :: L) x = y :: tP L x := by
 have e : aAb (y :: L) x = aAb L x + 1 := by
  unfold aAb; rw [List.takeWhile_cons_of_pos (by simpa using h)]
  rfl
 unfold tP
 rw [e]
 rfl
theorem aCy {y : aA} {L : List aA} {x : aA} (h : tQ y x = false) : tP (y :: L) x = x :: y :: L := by
 have e : aAb (y :: L) x = 0 := by
  unfold aAb; rw [List.takeWhile_cons_of_neg (by simp [h])]
  rfl
 unfold tP
 rw [e]
 rfl
theorem aL6 (L : List aA) (x y : aA) : y ∈ tP L x ↔ y ∈ L ∨ y = x := by
 have e := List.take_append_drop (aAb L x) L
 unfold tP
 constructor
 ·intro h
  rcases List.mem_append.1 h with h | h
  ·rcases List.mem_append.1 h with h | h
   ·exact Or.inl (List.mem_of_mem_take h)
   ·exact Or.inr (List.mem_singleton.1 h)
  ·exact Or.inl (List.mem_of_mem_drop h)
 ·rintro (h | rfl)
  ·rw [← e] at h
   rcases List.mem_append.1 h with h | h
   ·exact List.mem_append.2 (Or.inl (List.mem_append.2 (Or.inl h)))
   ·exact List.mem_append.2 (Or.inr h)
  ·exact List.mem_append.2 (Or.inl (List.mem_append.2 (Or.inr (List.mem_singleton.2 rfl))))
/-- What is left of the lists, R, is what is left of the history, T. -/
structure W4 (T : List aA) (R : Nat → List aA) : Prop where
 srt : aF4 T
 mem : ∀ y, y ∈ T ↔ ∃ e, e < 4 ∧ y ∈ R e
 run : ∀ e, e < 4 → aF4 (R e)
 dev : ∀ e, e < 4 → ∀ y ∈ R e, y.dev = (e : Int)
 ok : ∀ e, e < 4 → ∀ y ∈ R e, y.ok = true
theorem aI7 {R : Nat → List aA} {x : aA} (h : aDw R x = true) {e : Nat} (he : e < 4) : u9 (R e) x = true := by
 unfold aDw at h
 rw [List.all_eq_true] at h
 exact h e (by simpa using he)
theorem aIu {y x : aA} {r : List aA} (h : u9 (y :: r) x = true) (hy : y.ok = true) (hx : x.ok = true) : tQ y x = false := by
 rw [aIv (by simp)] at h
 have e : aC (y :: r) 0 = y := rfl
 rw [e, aMk hy hx] at h
 simpa using h
theorem W4.step {T : List aA} {R : Nat → List aA} (h : W4 T R) {d : Nat} (hd : d < 4) {x : aA} {rest : List aA} (hR : R d = x :: rest) (hp : aDw R x = true) :
  ∃ T', T = x :: T' ∧ W4 T' (fun e => if e = d then rest else R e) := by
 have hxd : x ∈ R d := by rw [hR]; exact List.mem_cons_self
 have hxT : x ∈ T := (h.mem x).2 ⟨d, hd, hxd⟩
 have aPs := h.ok d hd x hxd
 cases T with
 | nil => cases hxT
 | cons t T' =>
  have hc := List.pairwise_cons.1 h.srt; obtain ⟨e, he, hte⟩ := (h.mem t).1 List.mem_cons_self; have htx : t = x := by
   rcases List.mem_cons.1 hxT with rfl | hx'
   ·rfl
   have hb := hc.1 x hx'
   exfalso
   have hH := aI7 hp he; cases hRe : R e with
   | nil => rw [hRe] at hte; cases hte
   | cons y r =>
    rw [hRe] at hH hte; have aPq := h.ok e he y (by rw [hRe]; exact List.mem_cons_self)
    have hf := aIu hH aPq aPs; have hs := h.run e he; rw [hRe] at hs; rcases List.mem_cons.1 hte with rfl | ht
    ·rw [hb] at hf; cases hf
    ·rw [aIP ((List.pairwise_cons.1 hs).1 t ht) hb] at hf; cases hf
  subst htx; refine ⟨T', rfl, hc.2, fun y => ?_, fun e he => ?_, fun e he y hy => ?_, fun e he y hy => ?_⟩
  ·constructor
   ·intro hy
    obtain ⟨e2, J8, wO⟩ := (h.mem y).1 (List.mem_cons_of_mem _ hy); refine ⟨e2, J8, ?_⟩
    by_cases e3 : e2 = d
    ·subst e3
     rw [if_pos rfl]; rw [hR] at wO; rcases List.mem_cons.1 wO with rfl | h2
     ·exact absurd (hc.1 y hy) (fun h => aF1 h)
     ·exact h2
    ·rw [if_neg e3]; exact wO
   ·rintro ⟨e2, J8, wO⟩
    by_cases e3 : e2 = d
    ·subst e3
     rw [if_pos rfl] at wO; have hs := h.run e2 J8; rw [hR] at hs; have hb := (List.pairwise_cons.1 hs).1 y wO; rcases List.mem_cons.1 ((h.mem y).2 ⟨e2, J8, by rw [hR]; exact List.mem_cons_of_mem _ wO⟩) with rfl | h2
     ·exact (aF1 hb).elim
     ·exact h2
    ·rw [if_neg e3] at wO
     rcases List.mem_cons.1 ((h.mem y).2 ⟨e2, J8, wO⟩) with rfl | h2
     ·have h1 := h.dev e2 J8 y wO
      have h2 := h.dev d hd y hxd; omega
     ·exact h2
  ·by_cases e3 : e = d
   ·subst e3
    rw [if_pos rfl]; have hs := h.run e he; rw [hR] at hs; exact (List.pairwise_cons.1 hs).2
   ·rw [if_neg e3]; exact h.run e he
  ·by_cases e3 : e = d
   ·subst e3
    rw [if_pos rfl] at hy; exact h.dev e he y (by rw [hR]; exact List.mem_cons_of_mem _ hy)
   ·rw [if_neg e3] at hy; exact h.dev e he y hy
  ·by_cases e3 : e = d
   ·subst e3
    rw [if_pos rfl] at hy; exact h.ok e he y (by rw [hR]; exact List.mem_cons_of_mem _ hy)
   ·rw [if_neg e3] at hy; exact h.ok e he y hy
def aGy (xs : List Int) (l : List aA) : List aA := if aE xs l = true then aHF l l.length else []
theorem bF.tail {w : World} {lo hi : Nat} {a : Option Addr} {n : Nat} {l : List aA} (h : bF w lo hi a n l) (hn : 0 < n) : bF w lo hi (Option.map (fun x => x.add 8) a) (n - 1) (l.drop 1) := by
 have hl := h.1
 refine ⟨by rw [List.length_drop]; omega, fun h1 => ?_⟩
 obtain ⟨g, off, cs, e, h2, h3, hg, hs, hc⟩ := h.2 hn
 refine ⟨g, off + 8, cs, by rw [e]; rfl, h2, h3, hg, by omega, fun i hi => ?_⟩
 have e1 : (l.drop 1).getD i aA.zero = l.getD (i + 1) aA.zero := by
  rw [List.getD_eq_getElem?_getD, List.getElem?_drop, List.getD_eq_getElem?_getD, Nat.add_comm 1 i]
 rw [e1]
 have := hc (i + 1) (by omega)
 have e2 : off + 8 + i * 8 = off + (i + 1) * 8 := by omega
 rw [e2]
 exact this
theorem W4.congr {T : List aA} {R R' : Nat → List aA} (h : W4 T R) (hR : ∀ e, e < 4 → R' e = R e) : W4 T R' :=
 ⟨h.srt, fun y => (h.mem y).trans ⟨fun ⟨e, he, hy⟩ => ⟨e, he, by rw [hR e he]; exact hy⟩, fun ⟨e, he, hy⟩ => ⟨e, he, by rw [← hR e he]; exact hy⟩⟩, fun e he => by rw [hR e he]; exact h.run e he, fun e he y hy => h.dev e he y (by rw [← hR e he]; exact hy), fun e he y hy => h.ok e he y (by rw [← hR e he]; exact hy)⟩
theorem aMm (A : Nat → Option Addr) (N C : Nat → Nat) {k : Nat} (hk : k < 4) (a : Option Addr) (n c : Nat) :
  (#[.slice (A 0) (N 0) (C 0), .slice (A 1) (N 1) (C 1), .slice (A 2) (N 2) (C 2), .slice (A 3) (N 3) (C 3)] : Array Value).setIfInBounds k (.slice a n c) = #[.slice (if 0 = k then a else A 0) (if 0 = k then n else N 0) (if 0 = k then c else C 0), .slice (if 1 = k then a else A 1) (if 1 = k then n else N 1) (if 1 = k then c else C 1), .slice (if 2 = k then a else A 2) (if 2 = k then n else N 2) (if 2 = k then c else C 2), .slice (if 3 = k then a else A 3) (if 3 = k then n else N 3) (if 3 = k then c else C 3)] := by
 obtain rfl | rfl | rfl | rfl : k = 0 ∨ k = 1 ∨ k = 2 ∨ k = 3 := by omega
 all_goals simp
structure aAG (b3 nB : Nat) (w0 : World) (L H T : List aA) (A : Nat → Option Addr) (N C : Nat → Nat) (R : Nat → List aA) (v : Value) (w' : World) : Prop where
 below : Below b3 w0 w'
 arr : w'.heap[b3]? = some (.cells #[.slice (A 0) (N 0) (C 0), .slice (A 1) (N 1) (C 1), .slice (A 2) (N 2) (C 2), .slice (A 3) (N 3) (C 3)] 106 (0, 0))
 own : ∀ e, e < 4 → bF w' (b3 + 1) nB (A e) (N e) (R e)
 cap : ∀ e, e < 4 → N e ≤ C e
 lim : ∀ e, e < 4 → N e ≤ 1048576
 hist : w'.ownsRow nB 50 8 v H.length (aH H)
 sum : H ++ T = L
 mrg : W4 T R
 hi1 : b3 + 1 ≤ nB
 hi2 : nB ≤ w'.heap.size
theorem aAG.step {b3 nB : Nat} {w0 : World} {L H T : List aA} {A : Nat → Option Addr} {N C : Nat → Nat} {R : Nat → List aA} {v : Value} {w' : World} (h : aAG b3 nB w0 L H T A N C R v w') {w1 : World} (hb : Below w'.heap.size w' w1) : aAG b3 nB w0 L H T A N C R v w1 :=
 ⟨h.below.trans (hb.mono (by have := h.hi1; have := h.hi2; omega)), (hb.block _ (aRB h.arr).1).trans h.arr, fun e he => (h.own e he).below hb h.hi2, h.cap, h.lim, H9 h.hist hb, h.sum, h.mrg, h.hi1, Nat.le_trans h.hi2 hb.size⟩
theorem aAG.put {b3 nB : Nat} {w0 : World} {L H T : List aA} {A : Nat → Option Addr} {N C : Nat → Nat} {R : Nat → List aA} {v v' : Value} {w' w1 : World} (h : aAG b3 nB w0 L H T A N C R v w') {k : Nat} (hk : k < 4) {x : aA} {rest : List aA} (hR : R k = x :: rest) (hp : aDw R x = true)
  (hb : Below nB w' w1) (hh : w1.ownsRow nB 50 8 v' (H.length + 1) (aH H ++ cB x)) :
  ∃ T', aAG b3 nB w0 L (H ++ [x]) T' (fun e => if e = k then (if C k = 1 then A k else Option.map (fun y => y.add 8) (A k)) else A e) (fun e => if e = k then N k - 1 else N e) (fun e => if e = k then C k - 1 else C e) (fun e => if e = k then rest else R e) v' (w1.setCell ⟨b3, k, none⟩ (.slice (if C k = 1 then A k else Option.map (fun y => y.add 8) (A k)) (N k - 1) (C k - 1))) := by
 obtain ⟨T', hT, hm⟩ := h.mrg.step hk hR hp
 have hh1 := h.hi1
 have hh2 := h.hi2
 have hNk : 0 < N k := by have := (h.own k hk).1; rw [hR] at this; simp at this; omega
 have ha1 : w1.heap[b3]? = some (.cells #[.slice (A 0) (N 0) (C 0), .slice (A 1) (N 1) (C 1), .slice (A 2) (N 2) (C 2), .slice (A 3) (N 3) (C 3)] 106 (0, 0)) := (hb.block _ (by omega)).trans h.arr
 have lJ := h.cap k hk
 refine ⟨T', ⟨(h.below.trans (hb.mono (by omega))).setCell aRC _, ?_, fun e he => ?_, fun e he => ?_, fun e he => ?_, ?_, ?_, hm, hh1, ?_⟩⟩
 ·rw [heap_setCell_same _ _ _ _ _ _ ha1, aMm A N C hk]
 ·have V2 : ∀ {a : Option Addr} {n : Nat} {l : List aA}, bF w' (b3 + 1) nB a n l → bF (w1.setCell ⟨b3, k, none⟩ (.slice (if C k = 1 then A k else Option.map (fun y => y.add 8) (A k)) (N k - 1) (C k - 1))) (b3 + 1) nB a n l := fun ho =>
   (ho.below hb aRC).kept fun q h1 h2 => heap_setCell_other _ _ _ _ (by show q ≠ b3; omega)
  by_cases hek : e = k
  ·subst hek
   simp only [if_true]
   have h1 := (h.own e he).tail hNk; have e1 : (R e).drop 1 = rest := by rw [hR]; rfl
   rw [e1] at h1
   by_cases hc1 : C e = 1
   ·have hn1 : N e - 1 = 0 := by omega
    rw [hn1] at h1 ⊢; have : rest = [] := List.eq_nil_of_length_eq_zero h1.1; rw [this]; exact gD _ _ _ _
   ·rw [if_neg hc1] at V2 ⊢
    exact V2 h1
  ·simp only [if_neg hek]
   exact V2 (h.own e he)
 ·by_cases hek : e = k
  ·simp only [if_pos hek]; omega
  ·simp only [if_neg hek]; exact h.cap e he
 ·by_cases hek : e = k
  ·simp only [if_pos hek]; have := h.lim k hk; omega
  ·simp only [if_neg hek]; exact h.lim e he
 ·have h1 : w1.ownsRow nB 50 8 v' (H ++ [x]).length (aH (H ++ [x])) := by rw [lF, List.length_append]; exact hh
  refine h1.kept (row := some b3) ⟨rfl, rfl, rfl, by simp [World.setCell], fun j hj bH => heap_setCell_other _ _ _ _ (fun e => bH (by rw [e]))⟩ ?_
  rcases hg : v'.ownBlock with _ | g
  ·exact .inl rfl
  ·refine .inr fun e => ?_
   injection e with e; have := (h1.lt g hg).1; omega
 ·rw [← h.sum, hT]; simp
 ·rw [World.size_setCell]; exact Nat.le_trans hh2 hb.size
theorem aMV {o : aA} (h : o.ok = true) : 1 ≤ o.seq ∧ o.seq ≤ 40 := by
 have h' : dP o.dev o.seq o.stamp o.kind o.item o.qty o.level o.undos = true := h
 unfold dP tE at h'
 simp only [Bool.and_eq_true, gM] at h'
 omega
theorem aCP {xs : List Int} {l : List aA} (hc : aE xs l = true) (dev : Int) : ∀ k, k ≤ l.length → (∀ i, i < k → (aC l i).dev = dev → (aC l i).undos % 2 = 0 → (aC l i).seq ≤ cY dev l k) ∧ (∀ i, i < k → (aC l i).dev = dev → (aC l i).seq = cY dev l k → (aC l i).undos % 2 = 0)
 | 0, _ => ⟨fun i hi => absurd hi (Nat.not_lt_zero _), fun i hi => absurd hi (Nat.not_lt_zero _)⟩
 | k + 1, hk => by
  obtain ⟨h1, h2⟩ := aCP hc dev k (by omega)
  have e : aC l k = l.getD k aA.zero := rfl; have pJ : k < l.length := hk; rw [cY, ← e]
  by_cases hq : (aC l k).dev = dev ∧ (aC l k).undos % 2 = 0
  ·rw [if_pos hq]
   refine ⟨fun i hi hd hu => ?_, fun i hi hd hs => ?_⟩
   ·rcases Nat.lt_or_ge i k with h | h
    ·exact Int.le_of_lt (O2 hc h pJ (hd.trans hq.1.symm))
    ·obtain rfl : i = k := by omega
     exact Int.le_refl _
   ·rcases Nat.lt_or_ge i k with h | h
    ·have := O2 hc h pJ (hd.trans hq.1.symm)
     omega
    ·obtain rfl : i = k := by omega
     exact hq.2
  ·rw [if_neg hq]
   refine ⟨fun i hi hd hu => ?_, fun i hi hd hs => ?_⟩
   ·rcases Nat.lt_or_ge i k with h | h
    ·exact h1 i h hd hu
    ·obtain rfl : i = k := by omega
     exact absurd ⟨hd, hu⟩ hq
   ·rcases Nat.lt_or_ge i k with h | h
    ·exact h2 i h hd hs
    ·obtain rfl : i = k := by omega
     obtain ⟨_, _, _, _, _, hok, _⟩ := gX hc pJ; have hp := (aMV hok).1; rcases zT dev l i with h0 | ⟨j, hj, hdj, hsj⟩
     ·omega
     ·have := O2 hc hj pJ (hdj.trans hd.symm)
      omega
end Go.Proofs.YthkagbnpcjidfaaGreatDoor
