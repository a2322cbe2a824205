/- Walks and mathematics that several claims share, part 44. -/
import Derived.Test.YthkagbnpcjidfaaGreatDoorGy21
import Derived.Test.YthkagbnpcjidfaaGreatDoorGy13
import Derived.Test.YthkagbnpcjidfaaGreatDoorGy8
import Derived.Test.YthkagbnpcjidfaaGreatDoorGyA
namespace Go.Proofs.YthkagbnpcjidfaaGreatDoor
set_option maxHeartbeats 10000000
set_option maxRecDepth 100000
open Go.RowKit
set_option linter.unusedVariables false
set_option linter.unusedSimpArgs false
set_option linter.unusedVariables false

theorem aOH {B : Nat} {a w : World} (h : Below B a w) (n : Nat) : Below B a (w.drewN n) := ⟨h.os, h.tape, h.output, h.size, h.block⟩

theorem E7 (w : World) (B B' : Nat) (a a' : Option Addr) (n cap gE : Nat) (l : List aT) (h : E0 w B a n l) (h' : E0 w B' a' n l) (hB : B ≤ w.heap.size) (hB' : B' ≤ w.heap.size) (hn : n ≤ 1048576) :
  Calls Tryz.prog 27 #[.slice a n cap, .slice a' n gE] w fun e w' => e = .returned (.bool true) ∧ Below w.heap.size w w' := by
 have H := aRA h
 have H' := aRA h'
 clear h h'
 go_enter Tryz.func27, Tryz.ntmps27
 go_wp2
 go_loopw [5] (fun i wr => ∃ k : Nat, k ≤ n ∧ i = .int .i64 k ∧ Hid (Below w.heap.size w wr)) (fun i _ => n - (intOf i).toNat)
 case atStart => exact ⟨0, Nat.zero_le _, rfl, Below.refl _ _⟩
 case round =>
  obtain ⟨k, hk, rfl, HB⟩ := hrel
  by_cases aK : k < n
  ·obtain ⟨b, off, rfl, hb, hc⟩ := (H.out.below HB.out hB).2 k aK
   obtain ⟨b', iH, rfl, Y7, x5⟩ := (H'.out.below HB.out hB').2 k aK; generalize l.getD k aT.zero = x at hc x5; obtain ⟨d0, d1, d2⟩ := hc; obtain ⟨e0, e1, e2⟩ := x5; have hki : (k : Int) < (n : Int) := by omega
   go_wp2
   go_region
   go_wp2
   go_roundw
   case rel => exact ⟨k + 1, by omega, by go_num, HB.out.drew⟩
   case measure => simp [intOf]; omega
  ·go_wp2
   go_ret
   exact ⟨rfl, HB.out⟩
end Go.Proofs.YthkagbnpcjidfaaGreatDoor
