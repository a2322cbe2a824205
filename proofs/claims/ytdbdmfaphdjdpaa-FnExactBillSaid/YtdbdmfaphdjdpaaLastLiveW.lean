/- The walk of impl.lastLive: a loop over the iterator of live operations. -/
import Derived.Test.YtdbdmfaphdjdpaaLiveOpsW
import Derived.Lib.MinMax
namespace Go.Proofs.Ytdbdmfaphdjdpaa
open Go.RowKit Go.Shelf
attribute [local go_sem] Oper.semAt_some

/-- The operations that count. -/
def counted (xs : List Int) (l : List OpV) : List OpV := if cartB xs l = true then liveTo l l.length else []
theorem cells_own {β : Type} (B : Nat) (t : TypeId) (f : β → Array Value) : Own (fun s W => W.heap[B]? = some (.cells (f s) t (0, 0))) := fun s X Y row hs hg hrow =>
  (hg.block B (Array.getElem?_eq_some_iff.1 hs).1 (fun e' => by obtain ⟨o, ho, hc⟩ := hrow B e'.symm; rw [hs] at ho; cases ho; cases hc)).trans hs

end Go.Proofs.Ytdbdmfaphdjdpaa
