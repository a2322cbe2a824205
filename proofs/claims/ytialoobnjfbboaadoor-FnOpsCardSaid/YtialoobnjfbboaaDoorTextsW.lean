/- The walks of spec.DrawReadText and of the law FnTexts. -/
import Derived.Test.YtialoobnjfbboaaDoorDrawBase
import Derived.Test.YtialoobnjfbboaaDoorTextLawW
import Derived.Test.YtialoobnjfbboaaDoorBackMath
namespace Go.Proofs.YtialoobnjfbboaaDoor
open Go.RowKit

set_option maxRecDepth 100000 in
theorem bigNo (a : Option Addr) (len cap : Nat) (h : len ≤ 1048576) (w : World) :
    Calls Tryd.prog 4 #[.slice a len cap] w fun e w' => e = .returned (.bool false) ∧ w = w' := by
  have hd : decide ((1048576 : Int) < (len : Int)) = false := decide_eq_false (by omega)
  go_enter Tryd.func4, Tryd.ntmps4
  go_wp2
  go_ret
  exact ⟨rfl, rfl⟩
theorem bigYes (a : Option Addr) (len cap : Nat) (h : ¬ len ≤ 1048576) (w : World) :
    Calls Tryd.prog 4 #[.slice a len cap] w fun e w' => e = .returned (.bool true) ∧ w = w' := by
  have hd : decide ((1048576 : Int) < (len : Int)) = true := decide_eq_true (by omega)
  go_enter Tryd.func4, Tryd.ntmps4
  go_wp2
  go_ret
  exact ⟨rfl, rfl⟩

theorem specTextYes (s : ByteArray) (w : World) (hs : s.size ≤ 1048576) (h : TxtOk s) :
    Calls Tryd.prog 25 #[.string s] w fun e w' => e = .returned (.tuple #[.string (txt s), .int .i64 (txtEnd s : Int), .bool true]) ∧ Below w.heap.size w w' :=
  (specReadText s w hs).mono fun e w' ⟨hb, hc⟩ => by
    obtain ⟨_, rfl⟩ | ⟨hno, _⟩ := hc
    · exact ⟨rfl, hb⟩
    · exact absurd h hno
theorem specTextNot (s : ByteArray) (w : World) (hs : s.size ≤ 1048576) (h : ¬ TxtOk s) :
    Calls Tryd.prog 25 #[.string s] w fun e w' => e = .returned (.tuple #[.string ⟨#[]⟩, .int .i64 0, .bool false]) ∧ Below w.heap.size w w' :=
  (specReadText s w hs).mono fun e w' ⟨hb, hc⟩ => by
    obtain ⟨hno, _⟩ | ⟨_, rfl⟩ := hc
    · exact absurd hno h
    · exact ⟨rfl, hb⟩
end Go.Proofs.YtialoobnjfbboaaDoor
