/- The walks of laws.toOp, laws.szOp, and of the laws FnExactOpOk and FnExactLive; impl.Live, spec.Live. -/
import Derived.Test.YtjmilgijdfibbabOpSpecW
import Derived.Handy
namespace Go.Proofs.Ytjmilgijdfibbab
open Go.RowKit

theorem ret_int {k : IntKind} {a b : Int} (h : a = b) : Ending.returned (.int k a) = .returned (.int k b) := by rw [h]

set_option maxRecDepth 100000 in
theorem toOp (dev seq stamp kind : Int) (item : ByteArray) (qty level undos : Int) (w : World) : Calls Try.prog 81 #[.agg #[.int .i64 dev, .int .i64 seq, .int .i64 stamp, .int .i64 kind, .string item, .int .i64 qty, .int .i64 level, .int .i64 undos]] w fun e w' => e = .returned (.agg #[.int .i64 dev, .int .i64 seq, .int .i64 stamp, .int .i64 kind, .string item, .int .i64 qty, .int .i64 level, .int .i64 undos]) ∧ Below w.heap.size w w' := by
  go_enter Try.func81, Try.ntmps81
  go_wp2
  refine bodyPost_ret (v := .agg #[.int .i64 dev, .int .i64 seq, .int .i64 stamp, .int .i64 kind, .string item, .int .i64 qty, .int .i64 level, .int .i64 undos]) (by simp [results, Try.results81, go_sem]) rfl ⟨rfl, ?_⟩
  go_grown
set_option maxRecDepth 100000 in
theorem szOpYes (dev seq stamp kind : Int) (item : ByteArray) (qty level undos : Int) (left : Nat) (hl : left ≤ 1048576) (h : item.size ≤ left) (w : World) : Calls Try.prog 77 #[.agg #[.int .i64 dev, .int .i64 seq, .int .i64 stamp, .int .i64 kind, .string item, .int .i64 qty, .int .i64 level, .int .i64 undos], .int .i64 (left : Int)] w fun e w' => e = .returned (.int .i64 ((left - item.size : Nat) : Int)) ∧ Below w.heap.size w w' := by
  have hd : decide ((left : Int) - (item.size : Int) < 0) = false := decide_eq_false (by omega)
  go_enter Try.func77, Try.ntmps77
  go_wp2
  go_ret
  exact ⟨ret_int (by omega), (Below.refl _ _).alloc (Nat.le_refl _) _⟩
set_option maxRecDepth 100000 in
theorem szOpNo (dev seq stamp kind : Int) (item : ByteArray) (qty level undos : Int) (left : Nat) (hl : left ≤ 1048576) (hm : item.size ≤ maxLen) (h : ¬ item.size ≤ left) (w : World) : Calls Try.prog 77 #[.agg #[.int .i64 dev, .int .i64 seq, .int .i64 stamp, .int .i64 kind, .string item, .int .i64 qty, .int .i64 level, .int .i64 undos], .int .i64 (left : Int)] w fun e w' => e = .returned (.int .i64 (-1)) ∧ Below w.heap.size w w' := by
  unfold maxLen at hm
  have hd : decide ((left : Int) - (item.size : Int) < 0) = true := decide_eq_true (by omega)
  go_enter Try.func77, Try.ntmps77
  go_wp2
  go_ret
  exact ⟨rfl, (Below.refl _ _).alloc (Nat.le_refl _) _⟩
theorem lt_of_row {w : World} {g : Nat} {cs : Array Value} {T : TypeId} {fr : Nat × Nat} (h : w.heap[g]? = some (.cells cs T fr)) : g < w.heap.size := (Array.getElem?_eq_some_iff.1 h).1
def liveB (dev seq stamp kind : Int) (item : ByteArray) (qty level undos : Int) : Bool := opB dev seq stamp kind item qty level undos && decide (undos % 2 = 0)
theorem undos_of {dev seq stamp kind : Int} {item : ByteArray} {qty level undos : Int} (h : opB dev seq stamp kind item qty level undos = true) : 0 ≤ undos ∧ undos ≤ 50 := by
  unfold opB headB at h
  simp only [Bool.and_eq_true] at h
  exact inB_iff.1 h.1.2.2.2.2
end Go.Proofs.Ytjmilgijdfibbab
