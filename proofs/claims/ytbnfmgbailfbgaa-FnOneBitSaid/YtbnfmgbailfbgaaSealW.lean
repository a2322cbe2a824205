/- The walks of impl.sealOf, impl.Sealed, impl.Unsealed and of spec.l1Seal, spec.Sealed, spec.Unsealed; the laws FnExactSealed, FnExactUnsealed. -/
import Derived.Test.YtbnfmgbailfbgaaRows
import Derived.Test.YtbnfmgbailfbgaaSumW
import Derived.Test.YtbnfmgbailfbgaaShelf
import Derived.WalkSpells
namespace Go.Proofs.Ytbnfmgbailfbgaa
open Go.RowKit

/-- The four bytes of a checksum, the highest first. -/
def sealNums (c : Nat) : List Int := [(c : Int) / 16777216 % 256, (c : Int) / 65536 % 256, (c : Int) / 256 % 256, (c : Int) % 256]
def sealStr (s : ByteArray) : ByteArray := strOfNums (sealNums (crc s.data.toList))

theorem run_four {W : World} {c : Nat} : (convert 22 9 (.slice (some ⟨W.heap.size, 0, none⟩) 4 4)).run Try.prog (W.alloc (.cells #[.int .u8 ((c : Int) / 16777216 % 256), .int .u8 ((c : Int) / 65536 % 256), .int .u8 ((c : Int) / 256 % 256), .int .u8 ((c : Int) % 256)] 5)) =
    .ok (.string (strOfNums (sealNums c))) (W.alloc (.cells #[.int .u8 ((c : Int) / 16777216 % 256), .int .u8 ((c : Int) / 65536 % 256), .int .u8 ((c : Int) / 256 % 256), .int .u8 ((c : Int) % 256)] 5)) := by
  refine run_convert_bytes_arg _ 22 5 Try.underlying22 Try.underlying5 W.heap.size 0 4 4 (sealNums c) rfl (fun i hi => ?_) 9 Try.underlying9
  rw [cell_of_row _ _ _ _ _ _ (heap_alloc_new W _)]
  match i, hi with
  | 0, _ => rfl
  | 1, _ => rfl
  | 2, _ => rfl
  | 3, _ => rfl

set_option maxRecDepth 100000 in
theorem sealOf (s : ByteArray) (hs : s.size ≤ 1048576) (w : World) :
    Calls Try.prog 26 #[.string s] w fun e w' => e = .returned (.string (sealStr s)) ∧ Below w.heap.size w w' := by
  go_enter Try.func26, Try.ntmps26
  go_wp2_with fail
  refine (checksum s hs _).mono ?_
  rintro e w1 ⟨rfl, hb1⟩
  have hcv := @run_four w1 (crc s.data.toList)
  go_wp2
  go_ret
  exact ⟨rfl, hb1.alloc hb1.size _⟩

theorem sealStr_size (s : ByteArray) : (sealStr s).size = 4 := by unfold sealStr; rw [strOfNums_size]; rfl

set_option maxRecDepth 100000 in
theorem l1Seal (s : ByteArray) (hs : s.size ≤ 1048576) (w : World) :
    Calls Try.prog 32 #[.string s] w fun e w' => e = .returned (.string (s ++ sealStr s)) ∧ Below w.heap.size w w' := by
  have h4 : (strOfNums (sealNums (crc s.data.toList))).size ≤ 4 := Nat.le_of_eq (sealStr_size s)
  go_enter Try.func32, Try.ntmps32
  go_wp2_with fail
  refine (l1Sum s hs _).mono ?_
  rintro e w1 ⟨rfl, rfl⟩
  have hcv := @run_four w (crc s.data.toList)
  go_wp2
  go_ret
  exact ⟨rfl, (Below.refl _ _).alloc (Nat.le_refl _) _⟩

set_option maxRecDepth 100000 in
theorem implSealed (s : ByteArray) (hs : s.size ≤ 16000) (w : World) :
    Calls Try.prog 13 #[.string s] w fun e w' => e = .returned (.string (s ++ sealStr s)) ∧ Below w.heap.size w w' := by
  have h4 : (sealStr s).size ≤ 4 := Nat.le_of_eq (sealStr_size s)
  go_enter Try.func13, Try.ntmps13
  go_wp2_with fail
  refine (sealOf s (by omega) _).mono ?_
  rintro e w1 ⟨rfl, hb1⟩
  go_wp2
  go_ret
  exact ⟨rfl, hb1⟩
set_option maxRecDepth 100000 in
theorem implSealedNo (s : ByteArray) (hs : ¬ s.size ≤ 16000) (w : World) :
    Calls Try.prog 13 #[.string s] w fun e w' => e = .returned (.string ByteArray.empty) ∧ w = w' := by
  go_enter Try.func13, Try.ntmps13
  go_wp2
  go_ret
  exact ⟨rfl, rfl⟩
set_option maxRecDepth 100000 in
theorem specSealed (s : ByteArray) (hs : s.size ≤ 16000) (w : World) :
    Calls Try.prog 18 #[.string s] w fun e w' => e = .returned (.string (s ++ sealStr s)) ∧ Below w.heap.size w w' := by
  go_enter Try.func18, Try.ntmps18
  go_wp2_with fail
  refine (l1Seal s (by omega) _).mono ?_
  rintro e w1 ⟨rfl, hb1⟩
  go_wp2
  go_ret
  exact ⟨rfl, hb1⟩
set_option maxRecDepth 100000 in
theorem specSealedNo (s : ByteArray) (hs : ¬ s.size ≤ 16000) (w : World) :
    Calls Try.prog 18 #[.string s] w fun e w' => e = .returned (.string ByteArray.empty) ∧ w = w' := by
  go_enter Try.func18, Try.ntmps18
  go_wp2
  go_ret
  exact ⟨rfl, rfl⟩

set_option maxRecDepth 100000 in
theorem fnExactSealedWalk (s : ByteArray) (w : World) (_hw : s.size ≤ maxLen) :
    Calls Try.prog 9 #[.string s] w fun e w' => e = .returned (.bool true) ∧ Below w.heap.size w w' := by
  by_cases hbig : s.size ≤ 1048576
  · by_cases h : s.size ≤ 16000
    · go_enter Try.func9, Try.ntmps9
      go_wp2_with fail
      refine (specSealed s h _).mono ?_
      rintro e w1 ⟨rfl, hb1⟩
      go_wp2_with fail
      refine (implSealed s h _).mono ?_
      rintro e w2 ⟨rfl, hb2⟩
      go_wp2
      go_ret
      exact ⟨rfl, hb1.trans (hb2.mono hb1.size)⟩
    · go_enter Try.func9, Try.ntmps9
      go_wp2_with fail
      refine (specSealedNo s h _).mono ?_
      rintro e w1 ⟨rfl, rfl⟩
      go_wp2_with fail
      refine (implSealedNo s h _).mono ?_
      rintro e w2 ⟨rfl, rfl⟩
      go_wp2
      go_ret
      exact ⟨rfl, Below.refl _ _⟩
  · go_enter Try.func9, Try.ntmps9
    go_wp2
    go_ret
    exact ⟨rfl, Below.refl _ _⟩

theorem clone (s : ByteArray) (h : s.size ≤ 1048576) (w : World) :
    Calls Try.prog 27 #[.string s] w fun e w' => e = .returned (.string s) ∧ Below w.heap.size w w' := by
  go_enter Try.func27, Try.ntmps27
  go_wp2_with fail
  refine (Try.stringslite_Clone s _ (by omega)).mono ?_
  rintro e w1 ⟨rfl, hb1⟩
  go_wp2
  go_ret
  exact ⟨rfl, hb1⟩
end Go.Proofs.Ytbnfmgbailfbgaa
