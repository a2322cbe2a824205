/- The walk of impl.precedesNext. -/
import Derived.Test.YtjmilgijdfibbabSortW
import Derived.Deep.Cut
namespace Go.Proofs.Ytjmilgijdfibbab
open Go.RowKit

def befV (a b : OpV) : Bool := befB a.dev a.seq a.stamp a.kind a.item a.qty a.level a.undos b.dev b.seq b.stamp b.kind b.item b.qty b.level b.undos
/-- Does the list's first operation, if there is one, not precede x? -/
def headOk (L : List OpV) (x : OpV) : Bool := decide (L.length = 0) || !(befV (atOp L 0) x)
def precB (R : Nat → List OpV) (x : OpV) : Bool := (List.range 4).all fun e => headOk (R e) x
theorem prec_no {R : Nat → List OpV} {x : OpV} {e : Nat} (he : e < 4) (h : headOk (R e) x = false) : precB R x = false := by
  unfold precB
  rw [List.all_eq_false]
  exact ⟨e, by simpa using he, by simp [h]⟩
theorem prec_yes {R : Nat → List OpV} {x : OpV} (h : ∀ e, e < 4 → headOk (R e) x = true) : precB R x = true := by
  unfold precB
  rw [List.all_eq_true]
  intro e he
  exact h e (by simpa using he)
theorem headOk_nil {L : List OpV} {x : OpV} (h : L.length = 0) : headOk L x = true := by unfold headOk; rw [decide_eq_true h]; rfl
theorem headOk_at {L : List OpV} {x : OpV} (h : 0 < L.length) : headOk L x = !(befV (atOp L 0) x) := by unfold headOk; rw [decide_eq_false (by omega)]; rfl

end Go.Proofs.Ytjmilgijdfibbab
