/- The walk of spec.l8Sort. -/
import Derived.Test.YtjmilgijdfibbabSortMath
import Derived.Deep.Onto
import Derived.Deep.Cut
namespace Go.Proofs.Ytjmilgijdfibbab
open Go.RowKit

theorem row_form {w : World} {base n : Nat} {v : Value} {xs : List Value} (h : w.ownsRow base 66 8 v n xs) (hne : v ≠ .slice none 0 0) : ∃ g cap, v = .slice (some ⟨g, 0, none⟩) n cap ∧ base ≤ g ∧ g < w.heap.size ∧ n ≤ cap ∧ cap ≤ maxLen := by
  rcases h.2 with ⟨e, _⟩ | ⟨g, c, cur, e, hb, hg, hnc, hm, _⟩
  · exact absurd e hne
  · exact ⟨g, c, e, hb, (Array.getElem?_eq_some_iff.1 hg).1, hnc, hm⟩
theorem row_op {w : World} {base n cap g : Nat} {L : List OpV} (h : w.ownsRow base 66 8 (.slice (some ⟨g, 0, none⟩) n cap) n (opCells L)) {t : Nat} (ht : t < n) : OpAt w g (t * 8) (atOp L t) := by
  obtain ⟨b, off, e, _, ho⟩ := (own_of_cells h (Nat.le_refl _)).ops.2 t ht
  injection e with e
  injection e with e1 e2
  subst e1 e2
  rw [Nat.zero_add] at ho
  exact ho
theorem row_kept_grown {w w' : World} {base n cap g base2 n2 : Nat} {v2 : Value} {xs ys : List Value} (h : w.ownsRow base 66 8 (.slice (some ⟨g, 0, none⟩) n cap) n xs) (h2 : w.ownsRow base2 66 8 v2 n2 ys) (hg : w.grownBy w' v2.ownBlock) (hlt : g < base2) : w'.ownsRow base 66 8 (.slice (some ⟨g, 0, none⟩) n cap) n xs :=
  h.kept hg (.inr (fun e => by
    have := (h2.lt g e.symm).1
    omega))

end Go.Proofs.Ytjmilgijdfibbab
