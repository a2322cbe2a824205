/- The walk of spec.History. -/
import Derived.Test.YtjmilgijdfibbabHistMath
import Derived.Test.YtjmilgijdfibbabSortW
import Derived.Deep.Cut
namespace Go.Proofs.Ytjmilgijdfibbab
open Go.RowKit

def histL (xs : List Int) (l : List OpV) : List OpV := if cartB xs l = true then sortTo l l.length else []
theorem hist_no {xs : List Int} {l : List OpV} (h : cartB xs l = false) : histL xs l = [] := by unfold histL; rw [h]; rfl
theorem hist_yes {xs : List Int} {l : List OpV} (h : cartB xs l = true) : histL xs l = sortTo l l.length := by unfold histL; rw [if_pos h]
theorem hist_len (xs : List Int) (l : List OpV) : (histL xs l).length ≤ l.length := by
  rcases h : cartB xs l with _ | _
  · rw [hist_no h]; exact Nat.zero_le _
  · rw [hist_yes h, sort_len l l.length (Nat.le_refl _)]; exact Nat.le_refl _

end Go.Proofs.Ytjmilgijdfibbab
