/- More of what several claims share. -/
import Derived.Test.YtmceofdknphgkaaGa15
import Derived.Test.YtmceofdknphgkaaGlp0
import Derived.Test.YtmceofdknphgkaaGlp1
import Derived.Deep.Cut
namespace Go.Proofs.Ytmceofdknphgkaa
open Go.RowKit

theorem setAt_other {w : World} {b off k : Nat} (o : OpV) (h : k ≠ b) : (setAt w b off o).heap[k]? = w.heap[k]? := by
  unfold setAt
  rw [heap_setCell_other _ _ _ _ h, heap_setCell_other _ _ _ _ h, heap_setCell_other _ _ _ _ h, heap_setCell_other _ _ _ _ h, heap_setCell_other _ _ _ _ h, heap_setCell_other _ _ _ _ h, heap_setCell_other _ _ _ _ h, heap_setCell_other _ _ _ _ h]
end Go.Proofs.Ytmceofdknphgkaa
