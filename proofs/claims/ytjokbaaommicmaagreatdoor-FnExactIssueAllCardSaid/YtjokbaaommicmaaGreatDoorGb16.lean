/- Walks and mathematics that several claims share, part 16. -/
import Derived.Test.YtjokbaaommicmaaGreatDoorGb12
import Derived.Deep.RegionHeld3
import Derived.RegionTactic
import Derived.Laws.Cover3
import Derived.Test.YtjokbaaommicmaaGreatDoorGbA
namespace Go.Proofs.YtjokbaaommicmaaGreatDoor
open Go.RowKit

theorem four {xs : List Int} (h : vecOk xs = true) : ∃ x0 x1 x2 x3, xs = [x0, x1, x2, x3] := by
 have h4 : xs.length = 4 := by unfold vecOk at h; simp only [Bool.and_eq_true, decide_eq_true_eq] at h; exact h.2
 match xs, h4 with
 | [x0, x1, x2, x3], _ => exact ⟨x0, x1, x2, x3, rfl⟩



end Go.Proofs.YtjokbaaommicmaaGreatDoor
