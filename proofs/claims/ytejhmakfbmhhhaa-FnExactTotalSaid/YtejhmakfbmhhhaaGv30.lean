/- Walks and mathematics that several claims share, part 30. -/
import Derived.Test.YtejhmakfbmhhhaaGv29
import Derived.Test.YtejhmakfbmhhhaaGv25
namespace Go.Proofs.Ytejhmakfbmhhhaa
open Go.RowKit

structure OneF (w w1 : World) (x y z : Array Value) : Prop where
  fst : w1.heap[w.heap.size]? = some (.cells x 31 (0, 0))
  snd : w1.heap[w.heap.size + 1]? = some (.cells y 149 (0, 0))
  res : w1.heap[w.heap.size + 1 + 1]? = some (.cells z 80 (0, 0))
  bel : Below w.heap.size w w1
end Go.Proofs.Ytejhmakfbmhhhaa
