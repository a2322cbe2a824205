/- The walks of impl.TextOf and spec.TextOf. -/
import Derived.Test.YtialoobnjfbboaaDoorVarW
namespace Go.Proofs.YtialoobnjfbboaaDoor
open Go.RowKit

/-- The encoding of a text. -/
def textBytes (s : ByteArray) : ByteArray := strOfNums (varNums s.size) ++ s

theorem text_fit {s : ByteArray} (h : s.size ≤ 4000) : Fit s.size ∧ (strOfNums (varNums s.size)).size ≤ 9 := by
  refine ⟨by unfold Fit; omega, ?_⟩
  rw [strOfNums_size]
  exact varNums_len9 s.size (by omega)

set_option maxRecDepth 100000 in
theorem implText (s : ByteArray) (h : s.size ≤ 4000) (w : World) :
    Calls Tryd.prog 15 #[.string s] w fun e w' => e = .returned (.string (textBytes s)) ∧ Below w.heap.size w w' := by
  obtain ⟨hF, hl2⟩ := text_fit h
  go_enter Tryd.func15, Tryd.ntmps15
  go_wp2_with fail
  refine (implVar s.size hF _).mono ?_
  rintro e w1 ⟨rfl, hb1⟩
  go_wp2
  go_ret
  exact ⟨rfl, hb1⟩
set_option maxRecDepth 100000 in
theorem implTextNo (s : ByteArray) (h : ¬ s.size ≤ 4000) (w : World) :
    Calls Tryd.prog 15 #[.string s] w fun e w' => e = .returned (.string ByteArray.empty) ∧ w = w' := by
  go_enter Tryd.func15, Tryd.ntmps15
  go_wp2
  go_ret
  exact ⟨rfl, rfl⟩
set_option maxRecDepth 100000 in
theorem l1Text (s : ByteArray) (h : s.size ≤ 4000) (w : World) :
    Calls Tryd.prog 41 #[.string s] w fun e w' => e = .returned (.string (textBytes s)) ∧ Below w.heap.size w w' := by
  obtain ⟨hF, hl2⟩ := text_fit h
  go_enter Tryd.func41, Tryd.ntmps41
  go_wp2_with fail
  refine (l1Var s.size hF _).mono ?_
  rintro e w1 ⟨rfl, hb1⟩
  go_wp2
  go_ret
  exact ⟨rfl, hb1⟩
end Go.Proofs.YtialoobnjfbboaaDoor
