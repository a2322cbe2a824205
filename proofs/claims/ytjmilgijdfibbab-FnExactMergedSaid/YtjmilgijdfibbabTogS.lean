/- The operations that are live in exactly one of two carts: the walk of spec.Toggled. -/
import Derived.Test.YtjmilgijdfibbabLookW
import Derived.Test.YtjmilgijdfibbabOwnB
import Derived.Deep.Cut
namespace Go.Proofs.Ytjmilgijdfibbab
open Go.RowKit

theorem own_row_kept {w w' : World} {base n : Nat} {v : Value} {xs : List Value} (h : w.ownsRow base 66 8 v n xs) (hb : Below w.heap.size w w') : w'.ownsRow base 66 8 v n xs :=
  h.kept (row := none) ⟨hb.os, hb.tape, hb.output, hb.size, fun j hj _ => hb.block j hj⟩ (by rcases v.ownBlock with _ | g; exact .inl rfl; exact .inr (fun h => by cases h))
theorem opRow_new (w : World) (x : OpV) : ∀ j u, (opRow x)[j]? = some u → (w.alloc (.cells #[.int .i64 x.dev, .int .i64 x.seq, .int .i64 x.stamp, .int .i64 x.kind, .string x.item, .int .i64 x.qty, .int .i64 x.level, .int .i64 x.undos] 66)).cell? ((⟨w.heap.size, 0, none⟩ : Addr).add j) = some u := by
  intro j u hj
  have hjl : j < 8 := by
    rcases Nat.lt_or_ge j 8 with h' | h'
    · exact h'
    · rw [List.getElem?_eq_none (by show 8 ≤ j; exact h')] at hj; cases hj
  rw [add_at, Nat.zero_add, cell_of_row _ _ _ _ _ _ (heap_alloc_new w _)]
  obtain rfl | rfl | rfl | rfl | rfl | rfl | rfl | rfl : j = 0 ∨ j = 1 ∨ j = 2 ∨ j = 3 ∨ j = 4 ∨ j = 5 ∨ j = 6 ∨ j = 7 := by omega
  all_goals exact hj
def liveU (o : OpV) : Bool := decide (o.undos % 2 = 0)
/-- Has the list another state of an operation's undos? -/
def togB (l : List OpV) (o : OpV) : Bool := (List.range l.length).any fun i => decide ((atOp l i).dev = o.dev) && (decide ((atOp l i).seq = o.seq) && (liveU (atOp l i) != liveU o))
def togL (xs : List Int) (l : List OpV) (ys : List Int) (m : List OpV) : List OpV := if (cartB xs l && cartB ys m) = true then m.filter (togB l) else []
theorem tog_no {xs : List Int} {l : List OpV} {ys : List Int} {m : List OpV} (h : (cartB xs l && cartB ys m) = false) : togL xs l ys m = [] := by unfold togL; rw [h]; rfl
theorem tog_yes {xs : List Int} {l : List OpV} {ys : List Int} {m : List OpV} (h : (cartB xs l && cartB ys m) = true) : togL xs l ys m = m.filter (togB l) := by unfold togL; rw [if_pos h]
theorem tog_len (xs : List Int) (l : List OpV) (ys : List Int) (m : List OpV) : (togL xs l ys m).length ≤ m.length := by
  unfold togL
  split
  · exact List.length_filter_le _ _
  · exact Nat.zero_le _
theorem togB_at {l : List OpV} (h : incB l = true) {o : OpV} {i : Nat} (hi : i < l.length) (e : eqN l i o.dev o.seq) : togB l o = (liveU (atOp l i) != liveU o) := by
  rw [Bool.eq_iff_iff]
  unfold togB
  rw [List.any_eq_true]
  constructor
  · rintro ⟨j, hj, hp⟩
    rw [List.mem_range] at hj
    simp only [Bool.and_eq_true, decide_eq_true_eq] at hp
    have : j = i := inc_uniq h hj hi ⟨hp.1, hp.2.1⟩ e
    subst this
    exact hp.2.2
  · intro hp
    refine ⟨i, by rw [List.mem_range]; exact hi, ?_⟩
    unfold eqN at e
    rw [decide_eq_true e.1, decide_eq_true e.2, hp]
    rfl
theorem togB_none {l : List OpV} {o : OpV} (h : ∀ j, j < l.length → ¬ eqN l j o.dev o.seq) : togB l o = false := by
  unfold togB
  rw [List.any_eq_false]
  intro j hj
  rw [List.mem_range] at hj
  have := h j hj
  unfold eqN at this
  simp only [Bool.and_eq_true, decide_eq_true_eq, not_and]
  intro a b
  exact absurd ⟨a, b⟩ this
theorem undos_pos {o : OpV} (h : o.ok = true) : 0 ≤ o.undos := by
  unfold OpV.ok opB headB at h
  simp only [Bool.and_eq_true] at h
  exact (inB_iff.1 h.1.2.2.2.2).1
theorem cart_ok_at {xs : List Int} {l : List OpV} (h : cartB xs l = true) {i : Nat} (hi : i < l.length) : (atOp l i).ok = true := by
  obtain ⟨_, _, _, _, e, _⟩ := cart_at h hi
  exact e

end Go.Proofs.Ytjmilgijdfibbab
