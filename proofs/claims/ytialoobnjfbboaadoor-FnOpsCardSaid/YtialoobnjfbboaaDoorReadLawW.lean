/- The walk of the law on ReadVar. -/
import Derived.Test.YtialoobnjfbboaaDoorReadImplW
namespace Go.Proofs.YtialoobnjfbboaaDoor
open Go.RowKit

theorem Sent.below {w w' : World} {u : TypeId} {x : Value} (h : Sent w u x) (hb : Below w.heap.size w w') : Sent w' u x :=
  (hb.cell (p := ⟨0, 0, none⟩) (block_lt_of_cell h)).trans h
end Go.Proofs.YtialoobnjfbboaaDoor
