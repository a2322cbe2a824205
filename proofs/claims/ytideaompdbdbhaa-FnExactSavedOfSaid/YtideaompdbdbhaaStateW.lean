/- The walks of the methods with and present of an item's state. -/
import Derived.Test.YtideaompdbdbhaaStateW1
import Derived.Test.YtideaompdbdbhaaStateW2
import Derived.Test.YtideaompdbdbhaaStateW4
import Derived.Test.YtideaompdbdbhaaStateW5
import Derived.Test.YtideaompdbdbhaaStateW0
import Derived.Deep.Cut
namespace Go.Proofs.Ytideaompdbdbhaa
open Go.RowKit

theorem withW (s : StV) (o : OpV) (w : World) : Calls Try.prog 55 #[s.val, o.val] w fun e w' => e = .returned (withV s o).val ∧ Below w.heap.size w w' := by
  by_cases h1 : o.kind = 1
  · exact withW1 s o w h1
  by_cases h2 : o.kind = 2
  · exact withW2 s o w h2
  by_cases h4 : o.kind = 4
  · exact withW4 s o w h4
  by_cases h5 : o.kind = 5
  · exact withW5 s o w h5
  exact withW0 s o w h1 h2 h4 h5
set_option maxRecDepth 100000 in
theorem presentW (s : StV) (h0 : 0 ≤ s.level) (w : World) : Calls Try.prog 58 #[.agg s.cells] w fun e w' => e = .returned (.bool (decide (s.level % 2 = 1))) ∧ Below w.heap.size w w' := by
  have hb0 : Below w.heap.size w (w.alloc (.cells s.cells 56)) := (Below.refl _ w).alloc (Nat.le_refl _) _
  have cl := (st_at (World.alloc_heap_new w (.cells s.cells 56))).1
  by_cases hm : s.level % 2 = 1
  · have hm' : (s.level % 2 == 1) = true := by rw [hm]; rfl
    have HD := Lib.hid (decide_eq_true hm)
    have HB := Lib.hid hb0
    clear hm hb0
    go_enter Try.func58, Try.ntmps58
    go_wp2
    go_ret
    exact ⟨by rw [HD.out]; rfl, HB.out⟩
  · have hm' : (s.level % 2 == 1) = false := by rw [beq_eq_false_iff_ne]; exact hm
    have HD := Lib.hid (decide_eq_false hm)
    have HB := Lib.hid hb0
    clear hm hb0
    go_enter Try.func58, Try.ntmps58
    go_wp2
    go_ret
    exact ⟨by rw [HD.out]; rfl, HB.out⟩
end Go.Proofs.Ytideaompdbdbhaa
