/- Walks and mathematics that several claims share, part 29. -/
import Derived.Test.YtejhmakfbmhhhaaGv22
import Derived.Test.YtejhmakfbmhhhaaGv23
namespace Go.Proofs.Ytejhmakfbmhhhaa
open Go.RowKit

end Go.Proofs.Ytejhmakfbmhhhaa
