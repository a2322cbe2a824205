/- Walks and mathematics that several claims share, part 39. -/
import Derived.Test.YtgagchlcafdiaaaGreatRows
import Derived.WalkKit
import Derived.Lib.Hide
import Derived.Lib.Strings
import Derived.Maps.OwnSet
import Derived.Sort.KeysCollected
import Derived.Below
import Derived.Test.YtgagchlcafdiaaaGreatGbA
namespace Go.Proofs.YtgagchlcafdiaaaGreat
set_option maxRecDepth 100000
open Go.RowKit
set_option linter.unusedVariables false
set_option linter.unusedSimpArgs false
open Go.Maps (Keyed)

/-- How an element reads: as itself. -/
def heldR : Value → Option (DataW Value × List MemPlace) := fun v => some (.held v, [])
theorem textKeyed : Keyed Tryz.prog 9 := Go.Maps.string_keyed Tryz.underlying9
/-- A text that can be a key. -/
def FitT (s : ByteArray) : Prop := s.size ≤ maxLen
theorem textKey {s : ByteArray} (h : FitT s) : keyOf Tryz.prog 9 (.string s) = some (.string s.data.toList) := by
 unfold FitT at h
 simp [keyOf, Tryz.underlying9, mapKey, h]
theorem keyLitT (x : ByteArray) : WideAt.IsKeyLit (.string x.data.toList) := trivial
theorem text_dataT {a b : ByteArray} (h : a.data.toList = b.data.toList) : a = b := by
 cases a; cases b
 simpa using h
/-- Block b is a map of at most n entries that has f s under the text s. -/
def TMap (w : World) (b n : Nat) (f : ByteArray → Option Value) : Prop :=
 ∃ D : DataW Value, w.ownsMap Tryz.prog 9 heldR b n D ∧ ∀ s, FitT s → Maps.has D (.string s.data.toList) = (f s).isSome ∧ ∀ z, D.atKey (.string s.data.toList) (.held z) = .held ((f s).getD z)
theorem TMap.made (w : World) : TMap (w.alloc (.map #[] 0)) w.heap.size 0 (fun _ => none) :=
 ⟨_, World.ownsMap_made w _ _ _, fun _ _ => ⟨rfl, fun _ => rfl⟩⟩
theorem TMap.mono {w : World} {b n n' : Nat} {f : ByteArray → Option Value} (h : TMap w b n f) (hn : n ≤ n') : TMap w b n' f := by
 obtain ⟨D, h1, h2⟩ := h
 exact ⟨D, h1.mono hn, h2⟩
theorem TMap.kept {w w' : World} {b n : Nat} {f : ByteArray → Option Value} (h : TMap w b n f) (hb : w'.heap[b]? = w.heap[b]?) : TMap w' b n f := by
 obtain ⟨D, ⟨es, clock, h0, r⟩, h2⟩ := h
 exact ⟨D, ⟨es, clock, hb.trans h0, r⟩, h2⟩
theorem TMap.lt {w : World} {b n : Nat} {f : ByteArray → Option Value} (h : TMap w b n f) : b < w.heap.size := by
 obtain ⟨D, h1, _⟩ := h
 exact h1.lt
theorem TMap.below {w w' : World} {b n : Nat} {f : ByteArray → Option Value} (h : TMap w b n f) (hb : Below w.heap.size w w') : TMap w' b n f := h.kept (hb.block _ h.lt)
/-- With one more. -/
def putT (f : ByteArray → Option Value) (x : ByteArray) (v : Value) : ByteArray → Option Value := fun s => if s = x then some v else f s
theorem TMap.put {w : World} {b n : Nat} {f : ByteArray → Option Value} (h : TMap w b n f) {t e : TypeId} (ht : Tryz.prog.underlying t = some (.map 9 e)) (hn : n < maxLen) {x : ByteArray} (v : Value) (hx : FitT x) :
  ∃ w', (Instr.mapUpdate t (.map (some b)) (.string x) v).run Tryz.prog w = .ok () w' ∧ TMap w' b (n + 1) (putT f x v) ∧ w.grownBy w' (some b) := by
 obtain ⟨D, h1, h2⟩ := h
 obtain ⟨w', r, h3, h4⟩ := h1.update textKeyed ht hn (textKey hx) (show heldR v = some (.held v, []) from rfl)
 refine ⟨w', r, ⟨_, h3, fun s hs => ?_⟩, h4⟩
 unfold putT
 by_cases e : s = x
 ·rw [if_pos e, e]
  exact ⟨Maps.has_put_same h1.isMap (keyLitT x) _, fun z => Maps.atKey_put_same h1.isMap (keyLitT x) _ _⟩
 ·rw [if_neg e]
  have hne : (Lit.string s.data.toList) ≠ .string x.data.toList := fun h' => e (text_dataT (by injection h'))
  rw [Maps.has_put_other hne]
  refine ⟨(h2 s hs).1, fun z => ?_⟩
  rw [Maps.atKey_put_other hne]
  exact (h2 s hs).2 z
theorem TMap.look {w : World} {b n : Nat} {f : ByteArray → Option Value} (h : TMap w b n f) {t e : TypeId} (ht : Tryz.prog.underlying t = some (.map 9 e)) {z : Value} (hz : (zeroValue e).run Tryz.prog w = .ok z w) {x : ByteArray} (hx : FitT x) :
  (Instr.lookup t (.map (some b)) (.string x) true).run Tryz.prog w = .ok (.tuple #[(f x).getD z, .bool (f x).isSome]) w ∧ (Instr.lookup t (.map (some b)) (.string x) false).run Tryz.prog w = .ok ((f x).getD z) w := by
 obtain ⟨D, h1, h2⟩ := h
 obtain ⟨g1, g2⟩ := h2 x hx
 constructor
 ·obtain ⟨v, ps, r, hv⟩ := h1.look_ok textKeyed ht hz (show heldR z = some (.held z, []) from rfl) (textKey hx)
  rw [g2] at hv
  unfold heldR at hv
  simp only [Option.some.injEq, Prod.mk.injEq, DataW.held.injEq] at hv
  rw [r, hv.1, g1]
 ·obtain ⟨v, ps, r, hv⟩ := h1.lookup textKeyed ht hz (show heldR z = some (.held z, []) from rfl) (textKey hx)
  rw [g2] at hv
  unfold heldR at hv
  simp only [Option.some.injEq, Prod.mk.injEq, DataW.held.injEq] at hv
  rw [r, hv.1]

/-- Go's order of texts. -/
def ltT (a b : ByteArray) : Bool := decide (a.toList < b.toList)
theorem textT {a b : ByteArray} (h : a.toList = b.toList) : a = b := by
 rw [Lib.toList_data, Lib.toList_data] at h
 exact text_dataT h
end Go.Proofs.YtgagchlcafdiaaaGreat
