/- Walks and mathematics that several claims share, part 18. -/
import Derived.Test.YtejhmakfbmhhhaaGc15
import Derived.Test.YtejhmakfbmhhhaaGc17
import Derived.Test.YtejhmakfbmhhhaaGc5
import Derived.Deep.Cut
import Derived.Deep.RegionHeld3
namespace Go.Proofs.Ytejhmakfbmhhhaa
open Go.RowKit

theorem cart_at {xs : List Int} {l : List OpV} (h : cartB xs l = true) {i : Nat} (hi : i < l.length) : ∃ d : Nat, d < 4 ∧ stOf xs d ≤ i ∧ i < stOf xs (d + 1) ∧ (atOp l i).ok = true ∧ (atOp l i).dev = (d : Int) ∧ (atOp l i).seq = ((i - stOf xs d : Nat) : Int) + 1 := by
  obtain ⟨_, h1, h2⟩ := cart_true h
  have hd : ∃ d : Nat, d < 4 ∧ stOf xs d ≤ i ∧ i < stOf xs (d + 1) := by
    by_cases a1 : i < stOf xs 1
    · exact ⟨0, by omega, Nat.zero_le _, a1⟩
    by_cases a2 : i < stOf xs 2
    · exact ⟨1, by omega, by omega, a2⟩
    by_cases a3 : i < stOf xs 3
    · exact ⟨2, by omega, by omega, a3⟩
    · exact ⟨3, by omega, by omega, by rw [h2]; exact hi⟩
  obtain ⟨d, hd4, hlo, hhi⟩ := hd
  have hb := h1 d hd4
  unfold devB at hb
  rw [Bool.and_eq_true] at hb
  have hr := hb.2
  unfold runB at hr
  rw [List.all_eq_true] at hr
  have es : stOf xs (d + 1) = stOf xs d + (xs.getD d 0).toNat := rfl
  have hf := hr (i - stOf xs d) (by rw [List.mem_range]; omega)
  have e : stOf xs d + (i - stOf xs d) = i := by omega
  unfold fitB at hf
  rw [e] at hf
  simp only [Bool.and_eq_true, decide_eq_true_eq] at hf
  exact ⟨d, hd4, hlo, hhi, hf.1, hf.2.1, hf.2.2.1⟩
end Go.Proofs.Ytejhmakfbmhhhaa

namespace Go.Proofs.Ytejhmakfbmhhhaa
open Go.RowKit

/-- An operation as a value. -/
def opVal (x : OpV) : Value := .agg #[.int .i64 x.dev, .int .i64 x.seq, .int .i64 x.stamp, .int .i64 x.kind, .string x.item, .int .i64 x.qty, .int .i64 x.level, .int .i64 x.undos]
/-- Three blocks that a call has laid first: two arguments and a result. -/
structure TriF (w w1 : World) (x y z : Array Value) (S T U : TypeId) : Prop where
  fst : w1.heap[w.heap.size]? = some (.cells x S (0, 0))
  snd : w1.heap[w.heap.size + 1]? = some (.cells y T (0, 0))
  res : w1.heap[w.heap.size + 1 + 1]? = some (.cells z U (0, 0))
  bel : Below w.heap.size w w1
theorem TriF.mk0 (w : World) (x y z : Array Value) (S T U : TypeId) : TriF w (((w.alloc (.cells x S)).alloc (.cells y T)).alloc (.cells z U)) x y z S T U := by
  have e1 : (w.alloc (.cells x S)).heap.size = w.heap.size + 1 := by simp
  have e2 : ((w.alloc (.cells x S)).alloc (.cells y T)).heap.size = w.heap.size + 1 + 1 := by simp
  refine ⟨?_, ?_, ?_, (((Below.refl _ w).alloc (Nat.le_refl _) _).alloc (by simp) _).alloc (by simp; omega) _⟩
  · rw [Below.heap_alloc _ _ _ (by omega), Below.heap_alloc _ _ _ (by omega)]
    exact heap_alloc_new w _
  · rw [Below.heap_alloc _ _ _ (by omega), ← e1]
    exact heap_alloc_new _ _
  · rw [← e2]
    exact heap_alloc_new _ _
theorem TriF.next {w w1 w2 : World} {x y z : Array Value} {S T U : TypeId} (h : TriF w w1 x y z S T U) (hb : Below w1.heap.size w1 w2) : TriF w w2 x y z S T U :=
  ⟨(hb.block _ (Array.getElem?_eq_some_iff.1 h.fst).1).trans h.fst, (hb.block _ (Array.getElem?_eq_some_iff.1 h.snd).1).trans h.snd, (hb.block _ (Array.getElem?_eq_some_iff.1 h.res).1).trans h.res, h.bel.trans (hb.mono h.bel.size)⟩
end Go.Proofs.Ytejhmakfbmhhhaa

namespace Go.Proofs.Ytejhmakfbmhhhaa
open Go.RowKit

theorem own_row_kept {w w' : World} {base n : Nat} {v : Value} {xs : List Value} (h : w.ownsRow base 80 8 v n xs) (hb : Below w.heap.size w w') : w'.ownsRow base 80 8 v n xs :=
  h.kept (row := none) ⟨hb.os, hb.tape, hb.output, hb.size, fun j hj _ => hb.block j hj⟩ (by rcases v.ownBlock with _ | g; exact .inl rfl; exact .inr (fun h => by cases h))
theorem opRow_new (w : World) (x : OpV) : ∀ j u, (opRow x)[j]? = some u → (w.alloc (.cells #[.int .i64 x.dev, .int .i64 x.seq, .int .i64 x.stamp, .int .i64 x.kind, .string x.item, .int .i64 x.qty, .int .i64 x.level, .int .i64 x.undos] 80)).cell? ((⟨w.heap.size, 0, none⟩ : Addr).add j) = some u := by
  intro j u hj
  have hjl : j < 8 := by
    rcases Nat.lt_or_ge j 8 with h' | h'
    · exact h'
    · rw [List.getElem?_eq_none (by show 8 ≤ j; exact h')] at hj; cases hj
  rw [add_at, Nat.zero_add, cell_of_row _ _ _ _ _ _ (heap_alloc_new w _)]
  obtain rfl | rfl | rfl | rfl | rfl | rfl | rfl | rfl : j = 0 ∨ j = 1 ∨ j = 2 ∨ j = 3 ∨ j = 4 ∨ j = 5 ∨ j = 6 ∨ j = 7 := by omega
  all_goals exact hj
end Go.Proofs.Ytejhmakfbmhhhaa

namespace Go.Proofs.Ytejhmakfbmhhhaa
open Go.RowKit

def befO (a b : OpV) : Bool := preB a.stamp a.dev a.seq b.stamp b.dev b.seq
end Go.Proofs.Ytejhmakfbmhhhaa
