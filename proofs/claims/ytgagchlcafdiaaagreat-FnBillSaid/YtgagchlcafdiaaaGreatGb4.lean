/- Walks and mathematics that several claims share, part 4. -/
import Derived.Test.YtgagchlcafdiaaaGreatGb3
import Derived.Test.YtgagchlcafdiaaaGreatRows
import Derived.WalkKit
import Derived.Laws.AppendOwn
import Derived.Deep.RegionHeld3
import Derived.RegionTactic
import Derived.Test.YtgagchlcafdiaaaGreatGbA
namespace Go.Proofs.YtgagchlcafdiaaaGreat
open Go.RowKit
set_option linter.unusedVariables false
set_option linter.unusedSimpArgs false

/-- A capacity that a slice may have. -/
def CapOk (n : Nat) : Prop := n ≤ maxLen
theorem CapOk.sub {n : Nat} (h : CapOk n) (c : Nat) : CapOk (n - c) := Nat.le_trans (Nat.sub_le _ _) h
/-- Of a slice of n elements with capacity c: the capacity bears them, and a nil one has none. -/
def Caps (a : Option Addr) (n c : Nat) : Prop := n ≤ c ∧ CapOk c ∧ (a = none → c = 0)
theorem caps_nil : Caps none 0 0 := ⟨Nat.le_refl _, Nat.zero_le _, fun _ => rfl⟩
theorem caps_zero (g : Addr) : Caps (some g) 0 0 := ⟨Nat.le_refl _, Nat.zero_le _, fun _ => rfl⟩
theorem caps_of_row {w : World} {base size n c : Nat} {e : TypeId} {a : Option Addr} {xs : List Value} (h : w.ownsRow base e size (.slice a n c) n xs) : Caps a n c := by
 rcases h.2 with ⟨e1, _⟩ | ⟨g, cap, cur, e1, _, _, hnc, hcm, _⟩
 ·injection e1 with e2 e3 e4
  subst e2 e4
  exact ⟨by omega, Nat.zero_le _, fun _ => rfl⟩
 ·injection e1 with e2 e3 e4
  subst e2 e4
  exact ⟨hnc, hcm, fun h => by cases h⟩
/-- a precedes b: by stamps, then by devices, then by numbers. -/
def preB (s d q s' d' q' : Int) : Bool := decide (s < s' ∨ (s = s' ∧ (d < d' ∨ (d = d' ∧ q < q'))))
end Go.Proofs.YtgagchlcafdiaaaGreat
