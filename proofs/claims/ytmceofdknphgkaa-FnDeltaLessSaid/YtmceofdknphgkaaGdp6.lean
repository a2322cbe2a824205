/- More of what several claims share. -/
import Derived.Test.YtmceofdknphgkaaGa4
import Derived.Laws.Rows
import Derived.Below
namespace Go.Proofs.Ytmceofdknphgkaa
open Go.RowKit

theorem setOp_other {w : World} {b k : Nat} (v0 v1 v2 v3 v4 v5 v6 v7 : Value) (h : k ≠ b) : (setOp w b v0 v1 v2 v3 v4 v5 v6 v7).heap[k]? = w.heap[k]? := by
  unfold setOp
  rw [heap_setCell_other _ _ _ _ h, heap_setCell_other _ _ _ _ h, heap_setCell_other _ _ _ _ h, heap_setCell_other _ _ _ _ h, heap_setCell_other _ _ _ _ h, heap_setCell_other _ _ _ _ h, heap_setCell_other _ _ _ _ h, heap_setCell_other _ _ _ _ h]
end Go.Proofs.Ytmceofdknphgkaa
