/- Rows of lists of numbers: what a walk is told of them. -/
import Derived.Test.YtmceofdknphgkaaOwnW
namespace Go.Proofs.Ytmceofdknphgkaa
open Go.RowKit
set_option linter.unusedVariables false

def rowOf (l : List (List Int)) (i : Nat) : List Int := l.getD i []
/-- A slice of slices of int64 that reads as the list l; all its cells lie below block B. -/
def IRows (w : World) (B : Nat) (a : Option Addr) (n : Nat) (l : List (List Int)) : Prop :=
  l.length = n ∧ ∀ i, i < n → ∃ b off ai ci, a = some ⟨b, off, none⟩ ∧ b < B ∧ w.cell? ⟨b, off + i, none⟩ = some (.slice ai (rowOf l i).length ci) ∧ Ints w B ai (rowOf l i).length (rowOf l i)
theorem IRows.kept {w w' : World} {B : Nat} {a : Option Addr} {n : Nat} {l : List (List Int)} (h : IRows w B a n l) (hk : ∀ k, k < B → w'.heap[k]? = w.heap[k]?) : IRows w' B a n l :=
  ⟨h.1, fun i hi => by
    obtain ⟨b, off, ai, ci, e, hb, hc, hx⟩ := h.2 i hi
    exact ⟨b, off, ai, ci, e, hb, (World.cell?_of_block (hk b hb)).trans hc, hx.kept hk⟩⟩
theorem IRows.below {w w' : World} {B B' : Nat} {a : Option Addr} {n : Nat} {l : List (List Int)} (h : IRows w B a n l) (hb : Below B' w w') (hB : B ≤ B') : IRows w' B a n l :=
  h.kept fun k hk => hb.block k (by omega)
theorem IRows.more {w : World} {B B' : Nat} {a : Option Addr} {n : Nat} {l : List (List Int)} (h : IRows w B a n l) (hB : B ≤ B') : IRows w B' a n l :=
  ⟨h.1, fun i hi => by
    obtain ⟨b, off, ai, ci, e, hb, hc, hx⟩ := h.2 i hi
    exact ⟨b, off, ai, ci, e, by omega, hc, hx.more hB⟩⟩
theorem irows_nil (w : World) (B : Nat) (a : Option Addr) : IRows w B a 0 [] := ⟨rfl, fun i hi => by omega⟩

/-- A slice of slices whose row and whose rows' rows, if they have elements, are blocks between lo and hi. -/
def ORows (w : World) (lo hi : Nat) (a : Option Addr) (n : Nat) (l : List (List Int)) : Prop :=
  l.length = n ∧ (0 < n → ∃ g cs, a = some ⟨g, 0, none⟩ ∧ lo ≤ g ∧ g < hi ∧ w.heap[g]? = some (.cells cs 24 (0, 0)) ∧ n ≤ cs.size ∧ ∀ i, i < n → ∃ ai ci, cs[i]? = some (.slice ai (rowOf l i).length ci) ∧ Own w lo hi ai (rowOf l i).length (rowOf l i))
theorem ORows.irows {w : World} {lo hi : Nat} {a : Option Addr} {n : Nat} {l : List (List Int)} (h : ORows w lo hi a n l) : IRows w hi a n l :=
  ⟨h.1, fun i hi' => by
    obtain ⟨g, cs, e, _, h2, hg, _, hc⟩ := h.2 (by omega)
    obtain ⟨ai, ci, hci, ho⟩ := hc i hi'
    exact ⟨g, 0, ai, ci, e, h2, by rw [Nat.zero_add]; exact (cell_of_row _ _ _ _ _ _ hg).trans hci, ho.ints⟩⟩
theorem ORows.kept {w w' : World} {lo hi : Nat} {a : Option Addr} {n : Nat} {l : List (List Int)} (h : ORows w lo hi a n l) (hk : ∀ j, lo ≤ j → j < hi → w'.heap[j]? = w.heap[j]?) : ORows w' lo hi a n l :=
  ⟨h.1, fun hn => by
    obtain ⟨g, cs, e, h1, h2, hg, hs, hc⟩ := h.2 hn
    refine ⟨g, cs, e, h1, h2, (hk g h1 h2).trans hg, hs, fun i hi' => ?_⟩
    obtain ⟨ai, ci, hci, ho⟩ := hc i hi'
    exact ⟨ai, ci, hci, ho.kept hk⟩⟩
theorem ORows.below {w w' : World} {lo hi B : Nat} {a : Option Addr} {n : Nat} {l : List (List Int)} (h : ORows w lo hi a n l) (hb : Below B w w') (hB : hi ≤ B) : ORows w' lo hi a n l :=
  h.kept fun j _ h2 => hb.block j (by omega)

/-- How many numbers stand in the first k rows. -/
def isum (l : List (List Int)) : Nat → Nat
  | 0 => 0
  | k + 1 => isum l k + (rowOf l k).length
theorem isum_le (l : List (List Int)) {i n : Nat} (h : i ≤ n) : isum l i ≤ isum l n := by
  induction n with
  | zero => obtain rfl : i = 0 := by omega
            exact Nat.le_refl _
  | succ n ih =>
    rcases Nat.lt_or_ge i (n + 1) with h1 | h1
    · have := ih (by omega)
      show _ ≤ isum l n + _
      omega
    · obtain rfl : i = n + 1 := by omega
      exact Nat.le_refl _
theorem row_le (l : List (List Int)) {i n : Nat} (h : i < n) : (rowOf l i).length ≤ isum l n := by
  have := isum_le l (show i + 1 ≤ n by omega)
  have e : isum l (i + 1) = isum l i + (rowOf l i).length := rfl
  omega
theorem take_row (l : List (List Int)) (k : Nat) (h : k < l.length) : l.take (k + 1) = l.take k ++ [rowOf l k] := by
  rw [List.take_succ_eq_append_getElem h]
  unfold rowOf
  rw [List.getD_eq_getElem?_getD, List.getElem?_eq_getElem h]; rfl
theorem row_mem {l : List (List Int)} {k : Nat} (h : k < l.length) : rowOf l k ∈ l := by
  unfold rowOf
  rw [List.getD_eq_getElem?_getD, List.getElem?_eq_getElem h]
  exact List.getElem_mem h

/-- Are these rows of a table of what each device has seen? -/
def ackOk (l : List (List Int)) : Bool := l.all vecOk && decide (l.length = 4)
theorem ack_len {l : List (List Int)} (h : l.length ≠ 4) : ackOk l = false := by unfold ackOk; rw [decide_eq_false h, Bool.and_false]
theorem ack_stop {l : List (List Int)} {k : Nat} (hk : k < l.length) (h : vecOk (rowOf l k) = false) : ackOk l = false := by
  unfold ackOk
  have : l.all vecOk = false := by
    rw [← Bool.not_eq_true]
    intro e
    rw [List.all_eq_true] at e
    rw [e _ (row_mem hk)] at h
    cases h
  rw [this]
  rfl
theorem ack_step {l : List (List Int)} {k : Nat} (hk : k < l.length) (h : (l.take k).all vecOk = true) (hx : vecOk (rowOf l k) = true) : (l.take (k + 1)).all vecOk = true := by
  rw [take_row l k hk, List.all_append, h, List.all_cons, hx]
  rfl
theorem ack_end {l : List (List Int)} {k : Nat} (hk : ¬ k < l.length) (h : (l.take k).all vecOk = true) : ackOk l = decide (l.length = 4) := by
  rw [List.take_of_length_le (by omega)] at h
  unfold ackOk
  rw [h]
  rfl
theorem ack_row {l : List (List Int)} (h : ackOk l = true) {i : Nat} (hi : i < 4) : vecOk (rowOf l i) = true ∧ l.length = 4 := by
  unfold ackOk at h
  simp only [Bool.and_eq_true, decide_eq_true_eq] at h
  refine ⟨?_, h.2⟩
  have := h.1
  rw [List.all_eq_true] at this
  exact this _ (row_mem (by omega))
theorem vec_len {xs : List Int} (h : vecOk xs = true) : xs.length = 4 := by
  obtain ⟨_, _, _, _, rfl⟩ := four h
  rfl
end Go.Proofs.Ytmceofdknphgkaa
