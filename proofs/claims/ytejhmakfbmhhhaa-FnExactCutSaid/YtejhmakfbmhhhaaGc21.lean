/- Walks and mathematics that several claims share, part 21. -/
import Derived.Test.YtejhmakfbmhhhaaGc19
import Derived.Test.YtejhmakfbmhhhaaGc17
import Derived.ScopeJumps
import Derived.Deep.Cut
namespace Go.Proofs.Ytejhmakfbmhhhaa
open Go.RowKit

end Go.Proofs.Ytejhmakfbmhhhaa
