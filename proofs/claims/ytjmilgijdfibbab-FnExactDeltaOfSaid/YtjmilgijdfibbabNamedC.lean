/- The walk of impl.Named, with the capacity of its answer. -/
import Derived.Test.YtjmilgijdfibbabCloneC
import Derived.Deep.RegionHeld3
import Derived.Deep.Cut
namespace Go.Proofs.Ytjmilgijdfibbab
open Go.RowKit

end Go.Proofs.Ytjmilgijdfibbab
