/- Walks and mathematics that several claims share, part 15. -/
import Derived.Test.YtejhmakfbmhhhaaGc13
import Derived.Test.YtejhmakfbmhhhaaGc10
import Derived.Deep.Cut
import Derived.Laws.EntriesVeiled
import Derived.Deep.RegionHeld3
namespace Go.Proofs.Ytejhmakfbmhhhaa
open Go.RowKit

end Go.Proofs.Ytejhmakfbmhhhaa
