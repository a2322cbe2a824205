/- Tables of rows of numbers: the walks of laws.szInt64SS, toInt64SS, eqInt64SS, szAcks, toAcks, eqAcks and of spec.AcksOk. -/
import Derived.Test.YtmceofdknphgkaaRowsI
import Derived.Deep.Cut
import Derived.Deep.RegionHeld3
import Derived.RegionTactic
import Derived.Handy
import Derived.Below
namespace Go.Proofs.Ytmceofdknphgkaa
open Go.RowKit
set_option linter.unusedVariables false

theorem ret_intA {x y : Int} (h : x = y) : Ending.returned (.int .i64 x) = .returned (.int .i64 y) := by rw [h]
theorem szRow (a : Option Addr) (n cap left : Nat) (hl : left ≤ 1048576) (hn : n ≤ maxLen) (w : World) : Calls Try.prog 121 #[.slice a n cap, .int .i64 (left : Int)] w fun e w' => e = .returned (.int .i64 (if n ≤ left then ((left - n : Nat) : Int) else -1)) ∧ w = w' := by
  unfold maxLen at hn
  by_cases h : n ≤ left
  · have hd : decide ((left : Int) - (n : Int) < 0) = false := decide_eq_false (by omega)
    go_enter Try.func121, Try.ntmps121
    go_wp2
    go_ret
    exact ⟨ret_intA (by omega), rfl⟩
  · have hd : decide ((left : Int) - (n : Int) < 0) = true := decide_eq_true (by omega)
    go_enter Try.func121, Try.ntmps121
    go_wp2
    go_ret
    exact ⟨rfl, rfl⟩
def rowsTotal (l : List (List Int)) : Nat := l.length + isum l l.length
def SzRows (t left : Nat) (w : World) (e : Ending) (w' : World) : Prop := e = .returned (.int .i64 (if t ≤ left then ((left - t : Nat) : Int) else -1)) ∧ Below w.heap.size w w'
theorem rows_fit {l : List (List Int)} (h : rowsTotal l ≤ 1048576) : l.length ≤ 1048576 ∧ ∀ i, i < l.length → (rowOf l i).length ≤ 1048576 := by
  unfold rowsTotal at h
  exact ⟨by omega, fun i hi => by have := row_le l hi; omega⟩

/-- A row of rows: block g holds n slices, the cells of the i-th, if it has any, lie in block f i; no two of these blocks are one. -/
def RowsAt (w : World) (lo hi g n : Nat) (f : Nat → Nat) (V : Nat → List Int) : Prop :=
  (lo ≤ g ∧ g < hi ∧ ∃ cs, w.heap[g]? = some (.cells cs 24 (0, 0)) ∧ ∀ i, i < n → ∃ ai ci, cs[i]? = some (.slice ai (V i).length ci) ∧ Own w (f i) (f i + 1) ai (V i).length (V i)) ∧ (∀ i, i < n → lo ≤ f i ∧ f i < hi ∧ f i ≠ g) ∧ ∀ i j, i < j → j < n → f i ≠ f j
theorem RowsAt.kept {w w' : World} {lo hi g n : Nat} {f : Nat → Nat} {V : Nat → List Int} (h : RowsAt w lo hi g n f V) (hk : ∀ j, lo ≤ j → j < hi → w'.heap[j]? = w.heap[j]?) : RowsAt w' lo hi g n f V := by
  obtain ⟨⟨h1, h2, cs, hg, hc⟩, hf, hd⟩ := h
  refine ⟨⟨h1, h2, cs, (hk g h1 h2).trans hg, fun i hi' => ?_⟩, hf, hd⟩
  obtain ⟨ai, ci, e, ho⟩ := hc i hi'
  exact ⟨ai, ci, e, ho.kept fun j q1 q2 => by have := hf i hi'; exact hk j (by omega) (by omega)⟩
theorem RowsAt.below {w w' : World} {lo hi g n B : Nat} {f : Nat → Nat} {V : Nat → List Int} (h : RowsAt w lo hi g n f V) (hb : Below B w w') (hB : hi ≤ B) : RowsAt w' lo hi g n f V :=
  h.kept fun j _ h2 => hb.block j (by omega)
theorem RowsAt.more {w : World} {lo hi lo' hi' g n : Nat} {f : Nat → Nat} {V : Nat → List Int} (h : RowsAt w lo hi g n f V) (h1 : lo' ≤ lo) (h2 : hi ≤ hi') : RowsAt w lo' hi' g n f V := by
  obtain ⟨⟨a1, a2, cs⟩, hf, hd⟩ := h
  exact ⟨⟨by omega, by omega, cs⟩, fun i hi' => by have := hf i hi'; omega, hd⟩
theorem RowsAt.irows {w : World} {lo hi g n : Nat} {f : Nat → Nat} {l : List (List Int)} (h : RowsAt w lo hi g n f (rowOf l)) (hl : l.length = n) : IRows w hi (some ⟨g, 0, none⟩) n l := by
  obtain ⟨⟨h1, h2, cs, hg, hc⟩, hf, hd⟩ := h
  refine ⟨hl, fun i hi' => ?_⟩
  obtain ⟨ai, ci, e, ho⟩ := hc i hi'
  refine ⟨g, 0, ai, ci, rfl, h2, ?_, (ho.ints).more (by have := hf i hi'; omega)⟩
  rw [Nat.zero_add]
  exact (cell_of_row _ _ _ _ _ _ hg).trans e

theorem Try.infoRow : (Try.prog.info? 24).map (fun i => (i.zero, i.size, i.bytes)) = some (some (.slice none 0 0), 1, 24) := by kernel_rfl
/-- What a call leaves that hands back a new row of new rows. -/
def FreshRows (l : List (List Int)) (w : World) (e : Ending) (w' : World) : Prop :=
  e = .returned (.slice (some ⟨w.heap.size, 0, none⟩) l.length l.length) ∧ (∃ f, RowsAt w' w.heap.size w'.heap.size w.heap.size l.length f (rowOf l)) ∧ Below w.heap.size w w'
/-- The row of toInt64SS when k of its rows are made. -/
def PartRows (w wr : World) (n : Nat) (l : List (List Int)) (k : Nat) : Prop :=
  Below w.heap.size w wr ∧ w.heap.size < wr.heap.size ∧ ∃ (f : Nat → Nat) (cs : Array Value), wr.heap[w.heap.size]? = some (.cells cs 24 (0, 0)) ∧ cs.size = n ∧ (∀ i, i < k → (∃ ai ci, cs[i]? = some (.slice ai (rowOf l i).length ci) ∧ Own wr (f i) (f i + 1) ai (rowOf l i).length (rowOf l i)) ∧ w.heap.size < f i ∧ f i < wr.heap.size) ∧ ∀ i j, i < j → j < k → f i < f j
theorem PartRows.step {w wr w1 : World} {n : Nat} {l : List (List Int)} {k : Nat} (h : PartRows w wr n l k) (hk : k < n) (hg : w1.heap[wr.heap.size]? = some (.cells ((rowOf l k).map (Value.int .i64)).toArray 2 (0, 0))) (hb : Below wr.heap.size wr w1) :
    PartRows w (w1.setCell ⟨w.heap.size, k, none⟩ (.slice (some ⟨wr.heap.size, 0, none⟩) (rowOf l k).length (rowOf l k).length)) n l (k + 1) ∧ (∃ v, w1.cell? ⟨w.heap.size, k, none⟩ = some v) ∧ w1.frozen? ⟨w.heap.size, k, none⟩ = false := by
  obtain ⟨h1, h2, f, cs, h3, h4, h5, h6⟩ := h
  have hg1 : w1.heap[w.heap.size]? = some (.cells cs 24 (0, 0)) := (hb.block _ h2).trans h3
  have hlt := lt_of_block hg
  have hsz : (w1.setCell ⟨w.heap.size, k, none⟩ (.slice (some ⟨wr.heap.size, 0, none⟩) (rowOf l k).length (rowOf l k).length)).heap.size = w1.heap.size := by simp [World.setCell]
  refine ⟨⟨(h1.trans (hb.mono h1.size)).setCell (Nat.le_refl _) _, by omega, fun i => if i = k then wr.heap.size else f i, cs.setIfInBounds k (.slice (some ⟨wr.heap.size, 0, none⟩) (rowOf l k).length (rowOf l k).length), heap_setCell_same _ _ _ _ _ _ hg1, by simpa using h4, fun i hi => ?_, fun i j hij hj => ?_⟩, ⟨cs[k], (cell_of_row _ _ _ _ _ _ hg1).trans (Array.getElem?_eq_getElem (by omega))⟩, frozen_of_row _ _ _ _ _ hg1⟩
  · by_cases e : i = k
    · subst e
      simp only [if_pos]
      refine ⟨⟨_, _, by rw [Array.getElem?_setIfInBounds, if_pos rfl, if_pos (by omega)], ?_⟩, h2, by omega⟩
      exact (own_fresh hg (Nat.lt_succ_self _)).kept fun j q1 q2 => heap_setCell_other _ _ _ _ (by show j ≠ w.heap.size; omega)
    · simp only [if_neg e]
      obtain ⟨⟨ai, ci, q, ho⟩, q1, q2⟩ := h5 i (by omega)
      refine ⟨⟨ai, ci, by rw [Array.getElem?_setIfInBounds, if_neg (fun q => e q.symm)]; exact q, ho.kept fun j r1 r2 => (heap_setCell_other _ _ _ _ (by show j ≠ w.heap.size; omega)).trans (hb.block j (by omega))⟩, q1, by omega⟩
  · have hi : i ≠ k := by omega
    simp only [if_neg hi]
    by_cases e : j = k
    · rw [if_pos e]
      exact (h5 i (by omega)).2.2
    · rw [if_neg e]
      exact h6 i j hij (by omega)
theorem PartRows.done {w wr : World} {n : Nat} {l : List (List Int)} (h : PartRows w wr n l n) : ∃ f, RowsAt wr w.heap.size wr.heap.size w.heap.size n f (rowOf l) := by
  obtain ⟨h1, h2, f, cs, h3, h4, h5, h6⟩ := h
  exact ⟨f, ⟨Nat.le_refl _, h2, cs, h3, fun i hi => (h5 i hi).1⟩, fun i hi => by have := (h5 i hi).2; omega, fun i j hij hj => by have := h6 i j hij hj; omega⟩
end Go.Proofs.Ytmceofdknphgkaa
