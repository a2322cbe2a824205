/- The walks of laws.toOp, laws.szOp, and of the laws FnExactOpOk and FnExactLive; impl.Live, spec.Live. -/
import Derived.Test.YtdbdmfaphdjdpaaOpSpecW
import Derived.Handy
namespace Go.Proofs.Ytdbdmfaphdjdpaa
open Go.RowKit

theorem ret_int {k : IntKind} {a b : Int} (h : a = b) : Ending.returned (.int k a) = .returned (.int k b) := by rw [h]

set_option maxRecDepth 100000 in
theorem toOp (dev seq stamp kind : Int) (item : ByteArray) (qty level undos : Int) (w : World) : Calls Try.prog 104 #[.agg #[.int .i64 dev, .int .i64 seq, .int .i64 stamp, .int .i64 kind, .string item, .int .i64 qty, .int .i64 level, .int .i64 undos]] w fun e w' => e = .returned (.agg #[.int .i64 dev, .int .i64 seq, .int .i64 stamp, .int .i64 kind, .string item, .int .i64 qty, .int .i64 level, .int .i64 undos]) ∧ Below w.heap.size w w' := by
  go_enter Try.func104, Try.ntmps104
  go_wp2
  refine bodyPost_ret (v := .agg #[.int .i64 dev, .int .i64 seq, .int .i64 stamp, .int .i64 kind, .string item, .int .i64 qty, .int .i64 level, .int .i64 undos]) (by simp [results, Try.results104, go_sem]) rfl ⟨rfl, ?_⟩
  go_grown
set_option maxRecDepth 100000 in
theorem szOpYes (dev seq stamp kind : Int) (item : ByteArray) (qty level undos : Int) (left : Nat) (hl : left ≤ 1048576) (h : item.size ≤ left) (w : World) : Calls Try.prog 100 #[.agg #[.int .i64 dev, .int .i64 seq, .int .i64 stamp, .int .i64 kind, .string item, .int .i64 qty, .int .i64 level, .int .i64 undos], .int .i64 (left : Int)] w fun e w' => e = .returned (.int .i64 ((left - item.size : Nat) : Int)) ∧ Below w.heap.size w w' := by
  have hd : decide ((left : Int) - (item.size : Int) < 0) = false := decide_eq_false (by omega)
  go_enter Try.func100, Try.ntmps100
  go_wp2
  go_ret
  exact ⟨ret_int (by omega), (Below.refl _ _).alloc (Nat.le_refl _) _⟩
set_option maxRecDepth 100000 in
theorem szOpNo (dev seq stamp kind : Int) (item : ByteArray) (qty level undos : Int) (left : Nat) (hl : left ≤ 1048576) (hm : item.size ≤ maxLen) (h : ¬ item.size ≤ left) (w : World) : Calls Try.prog 100 #[.agg #[.int .i64 dev, .int .i64 seq, .int .i64 stamp, .int .i64 kind, .string item, .int .i64 qty, .int .i64 level, .int .i64 undos], .int .i64 (left : Int)] w fun e w' => e = .returned (.int .i64 (-1)) ∧ Below w.heap.size w w' := by
  unfold maxLen at hm
  have hd : decide ((left : Int) - (item.size : Int) < 0) = true := decide_eq_true (by omega)
  go_enter Try.func100, Try.ntmps100
  go_wp2
  go_ret
  exact ⟨rfl, (Below.refl _ _).alloc (Nat.le_refl _) _⟩
theorem lt_of_row {w : World} {g : Nat} {cs : Array Value} {T : TypeId} {fr : Nat × Nat} (h : w.heap[g]? = some (.cells cs T fr)) : g < w.heap.size := (Array.getElem?_eq_some_iff.1 h).1
def liveB (dev seq stamp kind : Int) (item : ByteArray) (qty level undos : Int) : Bool := opB dev seq stamp kind item qty level undos && decide (undos % 2 = 0)
theorem undos_of {dev seq stamp kind : Int} {item : ByteArray} {qty level undos : Int} (h : opB dev seq stamp kind item qty level undos = true) : 0 ≤ undos ∧ undos ≤ 50 := by
  unfold opB headB at h
  simp only [Bool.and_eq_true] at h
  exact inB_iff.1 h.1.2.2.2.2
theorem l3Live (dev seq stamp kind : Int) (item : ByteArray) (qty level undos : Int) (w : World) (h0 : 0 ≤ undos) : Calls Try.prog 189 #[.agg #[.int .i64 dev, .int .i64 seq, .int .i64 stamp, .int .i64 kind, .string item, .int .i64 qty, .int .i64 level, .int .i64 undos]] w fun e w' => e = .returned (.bool (decide (undos % 2 = 0))) ∧ Below w.heap.size w w' := by
  by_cases hm : undos % 2 = 0
  · have hm' : (undos % 2 == 0) = true := by rw [hm]; rfl
    have HD := Lib.hid (decide_eq_true hm)
    clear hm
    go_enter Try.func189, Try.ntmps189
    go_wp2
    go_ret
    exact ⟨by rw [HD.out]; rfl, (Below.refl _ _).alloc (Nat.le_refl _) _⟩
  · have hm' : (undos % 2 == 0) = false := by rw [beq_eq_false_iff_ne]; exact hm
    have HD := Lib.hid (decide_eq_false hm)
    clear hm
    go_enter Try.func189, Try.ntmps189
    go_wp2
    go_ret
    exact ⟨by rw [HD.out]; rfl, (Below.refl _ _).alloc (Nat.le_refl _) _⟩
end Go.Proofs.Ytdbdmfaphdjdpaa
