/- Walks and mathematics that several claims share, part 1. -/
import Derived.Test.YtjokbaaommicmaaGreatDoorRows
import Derived.WalkKit
import Derived.Laws.AppendOwn
import Derived.Test.YtjokbaaommicmaaGreatDoorGbA
namespace Go.Proofs.YtjokbaaommicmaaGreatDoor
open Go.RowKit

/-- A capacity that a slice may have. -/
def CapOk (n : Nat) : Prop := n ≤ maxLen
theorem CapOk.sub {n : Nat} (h : CapOk n) (c : Nat) : CapOk (n - c) := Nat.le_trans (Nat.sub_le _ _) h
/-- So many elements, and a capacity for them. -/
def Fits (n c : Nat) : Prop := n ≤ 1048576 ∧ CapOk c
/-- Of a slice of n elements with capacity c: the capacity bears them, and a nil one has none. -/
def Caps (a : Option Addr) (n c : Nat) : Prop := n ≤ c ∧ CapOk c ∧ (a = none → c = 0)
theorem caps_nil : Caps none 0 0 := ⟨Nat.le_refl _, Nat.zero_le _, fun _ => rfl⟩
theorem caps_of_row {w : World} {base size n c : Nat} {e : TypeId} {a : Option Addr} {xs : List Value} (h : w.ownsRow base e size (.slice a n c) n xs) : Caps a n c := by
 rcases h.2 with ⟨e1, _⟩ | ⟨g, cap, cur, e1, _, _, hnc, hcm, _⟩
 ·injection e1 with e2 e3 e4
  subst e2 e4
  exact ⟨by omega, Nat.zero_le _, fun _ => rfl⟩
 ·injection e1 with e2 e3 e4
  subst e2 e4
  exact ⟨hnc, hcm, fun h => by cases h⟩
end Go.Proofs.YtjokbaaommicmaaGreatDoor
