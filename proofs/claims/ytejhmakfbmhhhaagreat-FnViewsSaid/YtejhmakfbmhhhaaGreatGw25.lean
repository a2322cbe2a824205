/- Walks and mathematics that several claims share, part 25. -/
import Derived.Test.YtejhmakfbmhhhaaGreatGw14
import Derived.Test.YtejhmakfbmhhhaaGreatGw17
import Derived.Test.YtejhmakfbmhhhaaGreatGw22
namespace Go.Proofs.YtejhmakfbmhhhaaGreat
open Go.RowKit
set_option linter.unusedVariables false

theorem below_quiet {B : Nat} {a w : World} (h : Below B a w) (n : Nat) : Below B a (w.drewN n) := ⟨h.os, h.tape, h.output, h.size, h.block⟩

set_option maxRecDepth 100000 in
set_option maxHeartbeats 10000000 in
theorem sameTextsE (w : World) (B B' : Nat) (a a' : Option Addr) (n cap cap' : Nat) (l : List ByteArray) (h : Strs w B a n l) (h' : Strs w B' a' n l) (hB : B ≤ w.heap.size) (hB' : B' ≤ w.heap.size) (hn : n ≤ 1048576) :
    Calls Tryz.prog 14 #[.slice a n cap, .slice a' n cap'] w fun e w' => e = .returned (.bool true) ∧ Below w.heap.size w w' := by
  have H := Lib.hid h
  have H' := Lib.hid h'
  clear h h'
  go_enter Tryz.func14, Tryz.ntmps14
  go_wp2
  go_loopw [5] (fun i wr => ∃ k : Nat, k ≤ n ∧ i = .int .i64 k ∧ Hid (Below w.heap.size w wr)) (fun i _ => n - (intOf i).toNat)
  case atStart => exact ⟨0, Nat.zero_le _, rfl, Below.refl _ _⟩
  case round =>
    obtain ⟨k, hk, rfl, HB⟩ := hrel
    by_cases hlt : k < n
    · obtain ⟨b, off, rfl, hb, hc⟩ := (H.out.below HB.out hB).2 k hlt
      obtain ⟨b', off', rfl, hb', hc'⟩ := (H'.out.below HB.out hB').2 k hlt
      generalize l.getD k ⟨#[]⟩ = x at hc hc'
      have hki : (k : Int) < (n : Int) := by omega
      have hne : (!(x.toList == x.toList)) = false := by simp
      go_wp2
      go_quiet (fail)
      go_wp2
      go_roundw
      case rel => exact ⟨k + 1, by omega, by go_num, below_quiet HB.out nq⟩
      case measure => simp [intOf]; omega
    · go_wp2
      go_ret
      exact ⟨rfl, HB.out⟩
set_option maxRecDepth 100000 in
set_option maxHeartbeats 10000000 in
theorem sameLinesE (w : World) (B B' : Nat) (a a' : Option Addr) (n cap cap' : Nat) (l : List LnV) (h : Lns w B a n l) (h' : Lns w B' a' n l) (hB : B ≤ w.heap.size) (hB' : B' ≤ w.heap.size) (hn : n ≤ 1048576) :
    Calls Tryz.prog 24 #[.slice a n cap, .slice a' n cap'] w fun e w' => e = .returned (.bool true) ∧ Below w.heap.size w w' := by
  have H := Lib.hid h
  have H' := Lib.hid h'
  clear h h'
  go_enter Tryz.func24, Tryz.ntmps24
  go_wp2
  go_loopw [5] (fun i wr => ∃ k : Nat, k ≤ n ∧ i = .int .i64 k ∧ Hid (Below w.heap.size w wr)) (fun i _ => n - (intOf i).toNat)
  case atStart => exact ⟨0, Nat.zero_le _, rfl, Below.refl _ _⟩
  case round =>
    obtain ⟨k, hk, rfl, HB⟩ := hrel
    by_cases hlt : k < n
    · obtain ⟨b, off, rfl, hb, hc⟩ := (H.out.below HB.out hB).2 k hlt
      obtain ⟨b', off', rfl, hb', hc'⟩ := (H'.out.below HB.out hB').2 k hlt
      generalize l.getD k LnV.zero = x at hc hc'
      obtain ⟨d0, d1, d2⟩ := hc
      obtain ⟨e0, e1, e2⟩ := hc'
      have hki : (k : Int) < (n : Int) := by omega
      go_wp2
      go_region
      go_wp2
      go_roundw
      case rel => exact ⟨k + 1, by omega, by go_num, HB.out.drew⟩
      case measure => simp [intOf]; omega
    · go_wp2
      go_ret
      exact ⟨rfl, HB.out⟩
end Go.Proofs.YtejhmakfbmhhhaaGreat
