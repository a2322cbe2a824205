/- More of what several claims share. -/
import Derived.Test.YtmceofdknphgkaaGa17
import Derived.Test.YtmceofdknphgkaaGa16
import Derived.Test.YtmceofdknphgkaaGdp0
import Derived.Test.YtmceofdknphgkaaGdp1
import Derived.Deep.AppendLies
import Derived.Lib.SliceRun
import Derived.Laws.BytesArg
import Derived.Deep.RegionHeld3
import Derived.Deep.Cut
namespace Go.Proofs.Ytmceofdknphgkaa
open Go.RowKit

/-- What a call answers that hands back a list of operations of its own. -/
def OpsPost (l : List OpV) (w : World) (e : Ending) (w' : World) : Prop := ∃ a c, e = .returned (.slice a l.length c) ∧ OwnOps w' w.heap.size w'.heap.size a l.length l ∧ Below w.heap.size w w'

end Go.Proofs.Ytmceofdknphgkaa
