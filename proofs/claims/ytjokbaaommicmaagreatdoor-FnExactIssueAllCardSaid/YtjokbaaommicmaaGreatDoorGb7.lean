/- Walks and mathematics that several claims share, part 7. -/
import Derived.Test.YtjokbaaommicmaaGreatDoorRows
import Derived.WalkKit
import Derived.Lib.Hide
import Derived.Lib.Strings
import Derived.Maps.OwnSet
import Derived.Sort.KeysCollected
import Derived.Below
import Derived.Test.YtjokbaaommicmaaGreatDoorGbA
namespace Go.Proofs.YtjokbaaommicmaaGreatDoor
set_option maxRecDepth 100000
open Go.RowKit
open Go.Maps (Keyed)

/-- How an element reads: as itself. -/
def heldR : Value → Option (DataW Value × List MemPlace) := fun v => some (.held v, [])
theorem textKeyed : Keyed Tryz.prog 9 := Go.Maps.string_keyed Tryz.underlying9
/-- A text that can be a key. -/
def FitT (s : ByteArray) : Prop := s.size ≤ maxLen
theorem textKey {s : ByteArray} (h : FitT s) : keyOf Tryz.prog 9 (.string s) = some (.string s.data.toList) := by
 unfold FitT at h
 simp [keyOf, Tryz.underlying9, mapKey, h]
theorem keyLitT (x : ByteArray) : WideAt.IsKeyLit (.string x.data.toList) := trivial
theorem text_dataT {a b : ByteArray} (h : a.data.toList = b.data.toList) : a = b := by
 cases a; cases b
 simpa using h
/-- Block b is a map of at most n entries that has f s under the text s. -/
def TMap (w : World) (b n : Nat) (f : ByteArray → Option Value) : Prop :=
 ∃ D : DataW Value, w.ownsMap Tryz.prog 9 heldR b n D ∧ ∀ s, FitT s → Maps.has D (.string s.data.toList) = (f s).isSome ∧ ∀ z, D.atKey (.string s.data.toList) (.held z) = .held ((f s).getD z)
theorem TMap.made (w : World) : TMap (w.alloc (.map #[] 0)) w.heap.size 0 (fun _ => none) :=
 ⟨_, World.ownsMap_made w _ _ _, fun _ _ => ⟨rfl, fun _ => rfl⟩⟩
theorem TMap.mono {w : World} {b n n' : Nat} {f : ByteArray → Option Value} (h : TMap w b n f) (hn : n ≤ n') : TMap w b n' f := by
 obtain ⟨D, h1, h2⟩ := h
 exact ⟨D, h1.mono hn, h2⟩
theorem TMap.congr {w : World} {b n : Nat} {f g : ByteArray → Option Value} (h : TMap w b n f) (e : ∀ s, FitT s → g s = f s) : TMap w b n g := by
 obtain ⟨D, h1, h2⟩ := h
 exact ⟨D, h1, fun s hs => by rw [e s hs]; exact h2 s hs⟩
theorem TMap.kept {w w' : World} {b n : Nat} {f : ByteArray → Option Value} (h : TMap w b n f) (hb : w'.heap[b]? = w.heap[b]?) : TMap w' b n f := by
 obtain ⟨D, ⟨es, clock, h0, r⟩, h2⟩ := h
 exact ⟨D, ⟨es, clock, hb.trans h0, r⟩, h2⟩
theorem TMap.lt {w : World} {b n : Nat} {f : ByteArray → Option Value} (h : TMap w b n f) : b < w.heap.size := by
 obtain ⟨D, h1, _⟩ := h
 exact h1.lt
theorem TMap.below {w w' : World} {b n : Nat} {f : ByteArray → Option Value} (h : TMap w b n f) (hb : Below w.heap.size w w') : TMap w' b n f := h.kept (hb.block _ h.lt)
/-- With one more. -/
def putT (f : ByteArray → Option Value) (x : ByteArray) (v : Value) : ByteArray → Option Value := fun s => if s = x then some v else f s
theorem TMap.put {w : World} {b n : Nat} {f : ByteArray → Option Value} (h : TMap w b n f) {t e : TypeId} (ht : Tryz.prog.underlying t = some (.map 9 e)) (hn : n < maxLen) {x : ByteArray} (v : Value) (hx : FitT x) :
  ∃ w', (Instr.mapUpdate t (.map (some b)) (.string x) v).run Tryz.prog w = .ok () w' ∧ TMap w' b (n + 1) (putT f x v) ∧ w.grownBy w' (some b) := by
 obtain ⟨D, h1, h2⟩ := h
 obtain ⟨w', r, h3, h4⟩ := h1.update textKeyed ht hn (textKey hx) (show heldR v = some (.held v, []) from rfl)
 refine ⟨w', r, ⟨_, h3, fun s hs => ?_⟩, h4⟩
 unfold putT
 by_cases e : s = x
 ·rw [if_pos e, e]
  exact ⟨Maps.has_put_same h1.isMap (keyLitT x) _, fun z => Maps.atKey_put_same h1.isMap (keyLitT x) _ _⟩
 ·rw [if_neg e]
  have hne : (Lit.string s.data.toList) ≠ .string x.data.toList := fun h' => e (text_dataT (by injection h'))
  rw [Maps.has_put_other hne]
  refine ⟨(h2 s hs).1, fun z => ?_⟩
  rw [Maps.atKey_put_other hne]
  exact (h2 s hs).2 z
theorem TMap.look {w : World} {b n : Nat} {f : ByteArray → Option Value} (h : TMap w b n f) {t e : TypeId} (ht : Tryz.prog.underlying t = some (.map 9 e)) {z : Value} (hz : (zeroValue e).run Tryz.prog w = .ok z w) {x : ByteArray} (hx : FitT x) :
  (Instr.lookup t (.map (some b)) (.string x) true).run Tryz.prog w = .ok (.tuple #[(f x).getD z, .bool (f x).isSome]) w ∧ (Instr.lookup t (.map (some b)) (.string x) false).run Tryz.prog w = .ok ((f x).getD z) w := by
 obtain ⟨D, h1, h2⟩ := h
 obtain ⟨g1, g2⟩ := h2 x hx
 constructor
 ·obtain ⟨v, ps, r, hv⟩ := h1.look_ok textKeyed ht hz (show heldR z = some (.held z, []) from rfl) (textKey hx)
  rw [g2] at hv
  unfold heldR at hv
  simp only [Option.some.injEq, Prod.mk.injEq, DataW.held.injEq] at hv
  rw [r, hv.1, g1]
 ·obtain ⟨v, ps, r, hv⟩ := h1.lookup textKeyed ht hz (show heldR z = some (.held z, []) from rfl) (textKey hx)
  rw [g2] at hv
  unfold heldR at hv
  simp only [Option.some.injEq, Prod.mk.injEq, DataW.held.injEq] at hv
  rw [r, hv.1]

theorem mem_strKeysT {w : World} {b n : Nat} {D : DataW Value} (h : w.ownsMap Tryz.prog 9 heldR b n D) (x : List UInt8) : x ∈ strKeys D ↔ Maps.has D (.string x) = true := by
 obtain ⟨es, rfl, hko⟩ := h.keysOf
 rw [Maps.has_eq, List.any_eq_true]
 show x ∈ es.map (fun p => strOf p.1) ↔ _
 rw [List.mem_map]
 constructor
 ·rintro ⟨p, hp, rfl⟩
  obtain ⟨v, hv⟩ := hko p hp
  obtain ⟨y, _, hy, _⟩ := Maps.keyOf_str Tryz.underlying9 hv
  exact ⟨p, hp, by rw [hy]; simp [Lit.sameKey, strOf]⟩
 ·rintro ⟨p, hp, hs⟩
  obtain ⟨v, hv⟩ := hko p hp
  obtain ⟨y, _, hy, _⟩ := Maps.keyOf_str Tryz.underlying9 hv
  rw [hy] at hs
  exact ⟨p, hp, by rw [hy]; simpa [Lit.sameKey, strOf] using hs⟩
theorem nodup_strKeysT {w : World} {b n : Nat} {D : DataW Value} (h : w.ownsMap Tryz.prog 9 heldR b n D) : (strKeys D).Nodup := by
 obtain ⟨es, hD, hpw, _⟩ := h.entries textKeyed
 obtain ⟨es', hD', hko⟩ := h.keysOf
 obtain rfl : es = es' := by rw [hD] at hD'; simpa using hD'
 subst hD
 show (es.map fun p => strOf p.1).Nodup
 refine List.pairwise_map.2 (hpw.imp_of_mem fun {p q} hp hq hne e => hne ?_)
 obtain ⟨v, hv⟩ := hko p hp
 obtain ⟨y, _, hy, _⟩ := Maps.keyOf_str Tryz.underlying9 hv
 obtain ⟨v', hv'⟩ := hko q hq
 obtain ⟨y', _, hy', _⟩ := Maps.keyOf_str Tryz.underlying9 hv'
 rw [hy, hy'] at e ⊢
 exact congrArg _ e
/-- Go's order of texts. -/
def ltT (a b : ByteArray) : Bool := decide (a.toList < b.toList)
theorem textT {a b : ByteArray} (h : a.toList = b.toList) : a = b := by
 rw [Lib.toList_data, Lib.toList_data] at h
 exact text_dataT h
theorem ltT_self (a : ByteArray) : ltT a a = false := decide_eq_false (List.lt_irrefl _)
theorem ltT_trans {a b c : ByteArray} (h1 : ltT a b = true) (h2 : ltT b c = true) : ltT a c = true :=
 decide_eq_true (List.lt_trans (of_decide_eq_true h1) (of_decide_eq_true h2))
theorem ltT_flip {a b : ByteArray} (h : ltT a b = false) (hne : a ≠ b) : ltT b a = true := by
 have h1 : b.toList ≤ a.toList := List.not_lt.1 (of_decide_eq_false h)
 refine decide_eq_true ?_
 by_cases h2 : b.toList < a.toList
 ·exact h2
 ·exact absurd (textT (List.le_antisymm (List.not_lt.1 h2) h1)) hne
def Asc (l : List ByteArray) : Prop := l.Pairwise fun a b => ltT a b = true
/-- The bytes of a key as a text. -/
def txt (x : List UInt8) : ByteArray := ⟨x.toArray⟩
theorem txt_data (x : List UInt8) : (txt x).data.toList = x := by simp [txt]
theorem txt_of (s : ByteArray) : txt s.data.toList = s := by cases s; simp [txt]
/-- The keys of a map, sorted: ascending, and just those that the map has. -/
theorem TMap.keys {w : World} {b n : Nat} {D : DataW Value} (h : w.ownsMap Tryz.prog 9 heldR b n D) {f : ByteArray → Option Value} (hf : ∀ s, FitT s → Maps.has D (.string s.data.toList) = (f s).isSome) {ss : List (List UInt8)} (hp : ss.Perm (strKeys D)) :
  Asc ((ss.mergeSort (fun x y => decide (x ≤ y))).map txt) ∧ ∀ s, s ∈ (ss.mergeSort (fun x y => decide (x ≤ y))).map txt ↔ FitT s ∧ (f s).isSome = true := by
 have tr : ∀ a b c : List UInt8, leB a b = true → leB b c = true → leB a c = true := fun a b c h1 h2 => by simp only [leB, decide_eq_true_eq] at *; exact List.le_trans h1 h2
 have to : ∀ a b : List UInt8, (leB a b || leB b a) = true := fun a b => by simp only [leB, Bool.or_eq_true, decide_eq_true_eq]; exact List.le_total a b
 have hs := List.pairwise_mergeSort tr to ss
 have hpm := (List.mergeSort_perm ss leB).trans hp
 have hnd : (ss.mergeSort leB).Nodup := hpm.nodup_iff.2 (nodup_strKeysT h)
 constructor
 ·refine List.pairwise_map.2 ((List.Pairwise.and hs hnd).imp fun {x y} hxy => ?_)
  have h1 : x ≤ y := of_decide_eq_true hxy.1
  refine decide_eq_true ?_
  rw [Lib.toList_data, Lib.toList_data, txt_data, txt_data]
  by_cases h2 : x < y
  ·exact h2
  ·exact absurd (List.le_antisymm h1 (List.not_lt.1 h2)) hxy.2
 ·intro s
  rw [List.mem_map]
  constructor
  ·rintro ⟨x, hx, rfl⟩
   have hm := hpm.mem_iff.1 hx
   have hl : FitT (txt x) := by
    have := strKeys_le h Tryz.underlying9 x hm
    show (txt x).size ≤ maxLen
    simpa [txt, ByteArray.size] using this
   refine ⟨hl, ?_⟩
   rw [← hf _ hl, txt_data]
   exact (mem_strKeysT h x).1 hm
  ·rintro ⟨h1, h2⟩
   refine ⟨s.data.toList, hpm.mem_iff.2 ((mem_strKeysT h _).2 ?_), txt_of s⟩
   rw [hf s h1]
   exact h2
end Go.Proofs.YtjokbaaommicmaaGreatDoor
