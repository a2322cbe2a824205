/- The walk of the law on ReadVar. -/
import Derived.Test.YtbnfmgbailfbgaaDoorReadImplW
namespace Go.Proofs.YtbnfmgbailfbgaaDoor
open Go.RowKit

theorem Sent.below {w w' : World} {u : TypeId} {x : Value} (h : Sent w u x) (hb : Below w.heap.size w w') : Sent w' u x :=
  (hb.cell (p := ⟨0, 0, none⟩) (block_lt_of_cell h)).trans h
set_option maxRecDepth 100000 in
theorem fnExactReadVarWalk (s : ByteArray) (w : World) (u : TypeId) (x : Value) (hE : Sent w u x) (_hw : s.size ≤ maxLen) :
    Calls Tryd.prog 5 #[.string s] w fun e w' => e = .returned (.bool true) ∧ Below w.heap.size w w' := by
  have HE := Lib.hid hE
  clear hE
  by_cases hbig : s.size ≤ 1048576
  · go_enter Tryd.func5, Tryd.ntmps5
    go_wp2_with fail
    refine (specRead s _).mono ?_
    rintro e w1 ⟨rfl, hb1⟩
    go_wp2_with fail
    refine (implRead s _ u x hbig (HE.out.below hb1)).mono ?_
    rintro e w2 ⟨rfl, hb2⟩
    have HB := Lib.hid (hb1.trans (hb2.mono hb1.size))
    clear hb1 hb2
    go_wp2
    go_ret
    exact ⟨rfl, HB.out⟩
  · go_enter Tryd.func5, Tryd.ntmps5
    go_wp2
    go_ret
    exact ⟨rfl, Below.refl _ _⟩
end Go.Proofs.YtbnfmgbailfbgaaDoor
