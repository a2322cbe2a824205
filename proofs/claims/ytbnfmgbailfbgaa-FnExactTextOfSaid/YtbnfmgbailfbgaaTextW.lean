/- The walks of impl.TextOf, spec.TextOf and the law FnExactTextOf. -/
import Derived.Test.YtbnfmgbailfbgaaRows
import Derived.Test.YtbnfmgbailfbgaaVarW
namespace Go.Proofs.Ytbnfmgbailfbgaa
open Go.RowKit

/-- The encoding of a text. -/
def textBytes (s : ByteArray) : ByteArray := strOfNums (varNums s.size) ++ s

theorem text_fit {s : ByteArray} (h : s.size ≤ 4000) : Fit s.size ∧ (strOfNums (varNums s.size)).size ≤ 9 := by
  refine ⟨by unfold Fit; omega, ?_⟩
  rw [strOfNums_size]
  exact varNums_len9 s.size (by omega)

set_option maxRecDepth 100000 in
theorem implText (s : ByteArray) (h : s.size ≤ 4000) (w : World) :
    Calls Try.prog 24 #[.string s] w fun e w' => e = .returned (.string (textBytes s)) ∧ Below w.heap.size w w' := by
  obtain ⟨hF, hl2⟩ := text_fit h
  go_enter Try.func24, Try.ntmps24
  go_wp2_with fail
  refine (implVar s.size hF _).mono ?_
  rintro e w1 ⟨rfl, hb1⟩
  go_wp2
  go_ret
  exact ⟨rfl, hb1⟩
set_option maxRecDepth 100000 in
theorem implTextNo (s : ByteArray) (h : ¬ s.size ≤ 4000) (w : World) :
    Calls Try.prog 24 #[.string s] w fun e w' => e = .returned (.string ByteArray.empty) ∧ w = w' := by
  go_enter Try.func24, Try.ntmps24
  go_wp2
  go_ret
  exact ⟨rfl, rfl⟩
set_option maxRecDepth 100000 in
theorem l1Text (s : ByteArray) (h : s.size ≤ 4000) (w : World) :
    Calls Try.prog 36 #[.string s] w fun e w' => e = .returned (.string (textBytes s)) ∧ Below w.heap.size w w' := by
  obtain ⟨hF, hl2⟩ := text_fit h
  go_enter Try.func36, Try.ntmps36
  go_wp2_with fail
  refine (l1Var s.size hF _).mono ?_
  rintro e w1 ⟨rfl, hb1⟩
  go_wp2
  go_ret
  exact ⟨rfl, hb1⟩
set_option maxRecDepth 100000 in
theorem specText (s : ByteArray) (h : s.size ≤ 4000) (w : World) :
    Calls Try.prog 23 #[.string s] w fun e w' => e = .returned (.string (textBytes s)) ∧ Below w.heap.size w w' := by
  go_enter Try.func23, Try.ntmps23
  go_wp2_with fail
  refine (l1Text s h _).mono ?_
  rintro e w1 ⟨rfl, hb1⟩
  go_wp2
  go_ret
  exact ⟨rfl, hb1⟩
set_option maxRecDepth 100000 in
theorem specTextNo (s : ByteArray) (h : ¬ s.size ≤ 4000) (w : World) :
    Calls Try.prog 23 #[.string s] w fun e w' => e = .returned (.string ByteArray.empty) ∧ w = w' := by
  go_enter Try.func23, Try.ntmps23
  go_wp2
  go_ret
  exact ⟨rfl, rfl⟩

set_option maxRecDepth 100000 in
theorem fnExactTextOfWalk (s : ByteArray) (w : World) (_hw : s.size ≤ maxLen) :
    Calls Try.prog 7 #[.string s] w fun e w' => e = .returned (.bool true) ∧ Below w.heap.size w w' := by
  by_cases hbig : s.size ≤ 1048576
  · by_cases h : s.size ≤ 4000
    · go_enter Try.func7, Try.ntmps7
      go_wp2_with fail
      refine (specText s h _).mono ?_
      rintro e w1 ⟨rfl, hb1⟩
      go_wp2_with fail
      refine (implText s h _).mono ?_
      rintro e w2 ⟨rfl, hb2⟩
      go_wp2
      go_ret
      exact ⟨rfl, hb1.trans (hb2.mono hb1.size)⟩
    · go_enter Try.func7, Try.ntmps7
      go_wp2_with fail
      refine (specTextNo s h _).mono ?_
      rintro e w1 ⟨rfl, rfl⟩
      go_wp2_with fail
      refine (implTextNo s h _).mono ?_
      rintro e w2 ⟨rfl, rfl⟩
      go_wp2
      go_ret
      exact ⟨rfl, Below.refl _ _⟩
  · go_enter Try.func7, Try.ntmps7
    go_wp2
    go_ret
    exact ⟨rfl, Below.refl _ _⟩
end Go.Proofs.Ytbnfmgbailfbgaa
