/- The walks of impl.ReadText, with its deferred closure, of spec.ReadText, and of the law on them. -/
import Derived.Test.YtialoobnjfbboaaDoorWordW
import Derived.Test.YtialoobnjfbboaaDoorReadLawW
namespace Go.Proofs.YtialoobnjfbboaaDoor
open Go.RowKit

def TxtPost (s : ByteArray) (w : World) (e : Ending) (w' : World) : Prop :=
  Below w.heap.size w w' ∧ ((TxtOk s ∧ e = .returned (.tuple #[.string (txt s), .int .i64 (txtEnd s : Int), .bool true])) ∨ (¬ TxtOk s ∧ e = .returned (.tuple #[.string ⟨#[]⟩, .int .i64 0, .bool false])))

end Go.Proofs.YtialoobnjfbboaaDoor
