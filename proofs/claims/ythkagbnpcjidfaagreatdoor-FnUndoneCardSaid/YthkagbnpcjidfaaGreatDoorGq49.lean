/- Walks and mathematics that several claims share, part 49. -/
import Derived.Test.YthkagbnpcjidfaaGreatDoorGq12
namespace Go.Proofs.YthkagbnpcjidfaaGreatDoor
set_option maxRecDepth 100000
open Go.RowKit
set_option linter.unusedVariables false
set_option linter.unusedSimpArgs false
set_option maxHeartbeats 10000000 in
theorem aBE (w : World) (B B' : Nat) (a a' : Option Addr) (n cap fB : Nat) (l : List bP) (h : D1 w B a n l) (h' : D1 w B' a' n l) (hB : B ≤ w.heap.size) (hB' : B' ≤ w.heap.size) (hn : n ≤ 1048576) :
  Calls Tryz.prog 27 #[.slice a n cap, .slice a' n fB] w fun e w' => e = .returned (.bool true) ∧ Below w.heap.size w w' := by
 have H := aRp h
 have H' := aRp h'
 clear h h'
 go_enter Tryz.func27, Tryz.ntmps27
 go_wp2
 go_loopw [5] (fun i wr => ∃ k : Nat, k ≤ n ∧ i = .int .i64 k ∧ Hid (Below w.heap.size w wr)) (fun i _ => n - (intOf i).toNat)
 case atStart => exact ⟨0, Nat.zero_le _, rfl, Below.refl _ _⟩
 case round =>
  obtain ⟨k, hk, rfl, HB⟩ := hrel
  by_cases aM : k < n
  ·obtain ⟨b, off, rfl, hb, hc⟩ := (H.out.below HB.out hB).2 k aM
   obtain ⟨b', iI, rfl, X1, p6⟩ := (H'.out.below HB.out hB').2 k aM; generalize l.getD k bP.zero = x at hc p6; obtain ⟨d0, d1, d2⟩ := hc; obtain ⟨e0, e1, e2⟩ := p6; have hki : (k : Int) < (n : Int) := by omega
   go_wp2
   go_region
   go_wp2
   go_roundw
   case rel => exact ⟨k + 1, by omega, by go_num, HB.out.drew⟩
   case measure => simp [intOf]; omega
  ·go_wp2
   go_ret
   exact ⟨rfl, HB.out⟩
end Go.Proofs.YthkagbnpcjidfaaGreatDoor
