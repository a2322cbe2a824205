/- The walk of the law FnExactVecOk. -/
import Derived.Test.YtbnfmgbailfbgabIntsW
namespace Go.Proofs.Ytbnfmgbailfbgab
open Go.RowKit

set_option maxRecDepth 100000 in
theorem fnExactVecOkWalk (a : Option Addr) (len cap : Nat) (zs : List Int) (w : World) (h : IsRow .i64 w a len cap zs) :
    Calls Try.prog 6 #[.slice a len cap] w fun e w' => e = .returned (.bool true) ∧ Below w.heap.size w w' := by
  by_cases hbig : len ≤ 1048576
  · have hI := ints_of_row h
    generalize zs.take len = xs at hI
    have hxl : xs.length ≤ 1048576 := by have := hI.1; omega
    have HI := Lib.hid hI
    clear h hI
    go_enter Try.func6, Try.ntmps6
    go_wp2_with fail
    refine (toInts w w.heap.size a len cap xs HI.out (Nat.le_refl _) hbig).mono ?_
    rintro e w1 ⟨rfl, hg1, hb1⟩
    go_wp2_with fail
    refine (specVecOk w1 w1.heap.size _ _ _ xs (fresh_ints hg1 (lt_of_block hg1)) hxl).mono ?_
    rintro e w1' ⟨rfl, rfl⟩
    have HI1 := Lib.hid (HI.out.below hb1 (Nat.le_refl _))
    have hs1 := hb1.size
    clear hg1
    go_wp2_with fail
    refine (toInts w1 w.heap.size a len cap xs HI1.out hs1 hbig).mono ?_
    rintro e w2 ⟨rfl, hg2, hb2⟩
    have HF := Lib.hid (fresh_ints hg2 (lt_of_block hg2))
    have hlt2 := lt_of_block hg2
    have hB2 : Below w.heap.size w w2 := hb1.trans (hb2.mono hs1)
    clear hb1 hs1 hg2 hb2
    go_wp2_with fail
    refine (implVecOk w2 w2.heap.size _ _ _ xs HF.out hxl).mono ?_
    rintro e w2' ⟨rfl, rfl⟩
    have HI2 := Lib.hid (HI.out.below hB2 (Nat.le_refl _))
    go_wp2_with fail
    refine (toInts w2 w.heap.size a len cap xs HI2.out hB2.size hbig).mono ?_
    rintro e w3 ⟨rfl, hg3, hb3⟩
    have HF3 := Lib.hid (fresh_ints hg3 (lt_of_block hg3))
    have HF' := Lib.hid (HF.out.below hb3 (Nat.le_refl _))
    have hB3 : Below w.heap.size w w3 := hB2.trans (hb3.mono hB2.size)
    clear hg3 hb3 hB2
    go_wp2_with fail
    refine (eqInts w3 w2.heap.size w3.heap.size _ _ _ _ _ _ xs xs HF'.out HF3.out hxl hxl).mono ?_
    rintro e w4 ⟨rfl, hS⟩
    have hB4 : Below w.heap.size w w4 := hB3.trans (hS.below _)
    rw [decide_eq_true rfl]
    go_wp2
    go_ret
    exact ⟨rfl, hB4⟩
  · have hd : decide ((1048576 : Int) < (len : Int)) = true := decide_eq_true (by omega)
    go_enter Try.func6, Try.ntmps6
    go_wp2
    go_ret
    exact ⟨rfl, Below.refl _ _⟩
end Go.Proofs.Ytbnfmgbailfbgab
