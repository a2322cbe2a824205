/- The walks of laws.toOp, laws.szOp, and of the laws FnExactOpOk and FnExactLive; impl.Live, spec.Live. -/
import Derived.Test.YtialoobnjfbboaaDoorOpSpecW
import Derived.Handy
namespace Go.Proofs.YtialoobnjfbboaaDoor
open Go.RowKit

theorem ret_int {k : IntKind} {a b : Int} (h : a = b) : Ending.returned (.int k a) = .returned (.int k b) := by rw [h]

theorem lt_of_row {w : World} {g : Nat} {cs : Array Value} {T : TypeId} {fr : Nat × Nat} (h : w.heap[g]? = some (.cells cs T fr)) : g < w.heap.size := (Array.getElem?_eq_some_iff.1 h).1
def liveB (dev seq stamp kind : Int) (item : ByteArray) (qty level undos : Int) : Bool := opB dev seq stamp kind item qty level undos && decide (undos % 2 = 0)
theorem undos_of {dev seq stamp kind : Int} {item : ByteArray} {qty level undos : Int} (h : opB dev seq stamp kind item qty level undos = true) : 0 ≤ undos ∧ undos ≤ 50 := by
  unfold opB headB at h
  simp only [Bool.and_eq_true] at h
  exact inB_iff.1 h.1.2.2.2.2
end Go.Proofs.YtialoobnjfbboaaDoor
