/- Walks and mathematics that several claims share, part 49. -/
import Derived.Test.YtgagchlcafdiaaaGreatGb44
import Derived.Test.YtgagchlcafdiaaaGreatGb48
import Derived.Test.YtgagchlcafdiaaaGreatGb35
import Derived.Test.YtgagchlcafdiaaaGreatGb10
import Derived.Test.YtgagchlcafdiaaaGreatGb15
import Derived.Test.YtgagchlcafdiaaaGreatGbA
namespace Go.Proofs.YtgagchlcafdiaaaGreat
open Go.RowKit
set_option linter.unusedVariables false
set_option linter.unusedSimpArgs false
set_option linter.unusedVariables false
set_option linter.unusedSimpArgs false

theorem billRs_len3 {l : List LnV} {ps : List PrV} {os : List OfV} {R : Bool} : (billRs l ps os R).length ≤ l.length := by
 unfold billRs
 split
 ·unfold rowsV
  rw [List.length_map]
  exact openL_len l
 ·exact Nat.zero_le _
/-- The loop that gathers the lines that are not saved. -/
structure LeftI (w3 wr : World) (l : List LnV) (k : Nat) (v : Value) : Prop where
 own : wr.ownsRow w3.heap.size 40 3 v (openL (l.take k)).length (lnCells (openL (l.take k)))
 bel : Below w3.heap.size w3 wr
end Go.Proofs.YtgagchlcafdiaaaGreat
