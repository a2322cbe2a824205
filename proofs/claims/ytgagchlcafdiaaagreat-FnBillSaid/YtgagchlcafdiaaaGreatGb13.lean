/- Walks and mathematics that several claims share, part 13. -/
import Derived.Test.YtgagchlcafdiaaaGreatGb5
import Derived.Test.YtgagchlcafdiaaaGreatGb9
import Derived.Test.YtgagchlcafdiaaaGreatGb8
import Derived.Deep.RegionHeld3
import Derived.RegionTactic
import Derived.Laws.Cover3
import Derived.Deep.Cut
import Derived.Laws.EntriesVeiled
import Derived.Test.YtgagchlcafdiaaaGreatGbA
namespace Go.Proofs.YtgagchlcafdiaaaGreat
open Go.RowKit
set_option linter.unusedVariables false
set_option linter.unusedSimpArgs false

theorem four {xs : List Int} (h : vecOk xs = true) : ∃ x0 x1 x2 x3, xs = [x0, x1, x2, x3] := by
 have h4 : xs.length = 4 := by unfold vecOk at h; simp only [Bool.and_eq_true, decide_eq_true_eq] at h; exact h.2
 match xs, h4 with
 | [x0, x1, x2, x3], _ => exact ⟨x0, x1, x2, x3, rfl⟩



def numB (d q d' q' : Int) : Bool := decide (d < d' ∨ (d = d' ∧ q < q'))
def incAt (l : List OpV) (i : Nat) : Bool := decide (i = 0) || numB (atOp l (i - 1)).dev (atOp l (i - 1)).seq (atOp l i).dev (atOp l i).seq
def incB (l : List OpV) : Bool := (List.range l.length).all (incAt l)
theorem inc_yes {l : List OpV} (h : ∀ i, i < l.length → incAt l i = true) : incB l = true := by
 unfold incB
 rw [List.all_eq_true]
 intro d hm
 exact h d (by simpa using hm)
end Go.Proofs.YtgagchlcafdiaaaGreat
