/- Walks and mathematics that several claims share, part 25. -/
import Derived.Test.YtjokbaaommicmaaGreatDoorGb23
import Derived.Test.YtjokbaaommicmaaGreatDoorGb17
import Derived.Deep.Cut
import Derived.Laws.EntriesVeiled
import Derived.Deep.RegionHeld3
import Derived.Test.YtjokbaaommicmaaGreatDoorGbA
namespace Go.Proofs.YtjokbaaommicmaaGreatDoor
open Go.RowKit

def numB (d q d' q' : Int) : Bool := decide (d < d' ∨ (d = d' ∧ q < q'))
def incAt (l : List OpV) (i : Nat) : Bool := decide (i = 0) || numB (atOp l (i - 1)).dev (atOp l (i - 1)).seq (atOp l i).dev (atOp l i).seq
def incB (l : List OpV) : Bool := (List.range l.length).all (incAt l)
theorem inc_yes {l : List OpV} (h : ∀ i, i < l.length → incAt l i = true) : incB l = true := by
 unfold incB
 rw [List.all_eq_true]
 intro d hm
 exact h d (by simpa using hm)
end Go.Proofs.YtjokbaaommicmaaGreatDoor
