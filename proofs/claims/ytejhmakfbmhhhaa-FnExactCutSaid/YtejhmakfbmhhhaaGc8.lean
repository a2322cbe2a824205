/- Walks and mathematics that several claims share, part 8. -/
import Derived.Test.YtejhmakfbmhhhaaGc6
import Derived.Deep.RegionHeld3
import Derived.RegionTactic
namespace Go.Proofs.Ytejhmakfbmhhhaa
open Go.RowKit

/-- a precedes b: by stamps, then by devices, then by numbers. -/
def preB (s d q s' d' q' : Int) : Bool := decide (s < s' ∨ (s = s' ∧ (d < d' ∨ (d = d' ∧ q < q'))))
end Go.Proofs.Ytejhmakfbmhhhaa
