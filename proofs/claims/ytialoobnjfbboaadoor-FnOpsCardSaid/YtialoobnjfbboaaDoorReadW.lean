/- The walk of spec.ReadVar. -/
import Derived.Test.YtialoobnjfbboaaDoorVarW
import Derived.Test.YtialoobnjfbboaaDoorReadMath
import Derived.Deep.RegionHeld3
import Derived.RegionTactic
import Derived.WalkSpells
import Derived.IntWalk
namespace Go.Proofs.YtialoobnjfbboaaDoor
open Go.RowKit

def RdPost (l : List UInt8) (w : World) (e : Ending) (w' : World) : Prop :=
  e = .returned (.tuple #[.int .i64 ((rd l).1 : Int), .int .i64 ((rd l).2.1 : Int), .bool (rd l).2.2]) ∧ Below w.heap.size w w'
theorem byte_getD (s : ByteArray) (k : Nat) (h : k < s.size) : s.data.toList.getD k 0 = s[k] := by
  rw [List.getD_eq_getElem?_getD, List.getElem?_eq_getElem (by simpa using h)]
  rfl

set_option maxRecDepth 100000 in
set_option maxHeartbeats 400000 in
theorem specRead (s : ByteArray) (w : World) :
    Calls Tryd.prog 39 #[.string s] w (RdPost s.data.toList w) := by
  have hL := Lib.hid (Lib.size_eq s)
  go_enter Tryd.func39, Tryd.ntmps39
  go_wp2
  go_loop [5, 6] (fun n i => ∃ k : Nat, i = .int .i64 k ∧ n = .int .i64 (decVal (s.data.toList.take k) : Nat) ∧ Goes s.data.toList k) (fun _ i => 9 - (intOf i).toNat)
  case atStart => exact ⟨0, rfl, rfl, Goes.zero _⟩
  case round =>
    obtain ⟨k, rfl, rfl, hG⟩ := hrel
    have hk1 : k ≤ s.size := by have := hG.1; have := hL.out; omega
    have hk9 : k ≤ 9 := hG.2.1
    have HG := Lib.hid hG
    clear hG
    by_cases hlt : k < s.size
    · by_cases h9 : k < 9
      · have hkl : k < s.data.toList.length := by have := hL.out; omega
        have HB : Hid (s.data.toList.getD k 0 = s[k]) := byte_getD s k hlt
        have HV := Lib.hid (step_val hkl h9 HB.out)
        by_cases hc : 128 ≤ s[k].toNat
        · have hci : (128 : Int) ≤ (s[k].toNat : Int) := by omega
          have HG2 := Lib.hid (HG.out.step hkl h9 (by rw [HB.out]; exact hc))
          go_wp2
          go_round
          case rel => exact ⟨k + 1, by go_num, by rw [HV.out], HG2.out⟩
          case measure => simp [intOf]; omega
        · have hci : ¬ (128 : Int) ≤ (s[k].toNat : Int) := by omega
          have hbl : (s.data.toList.getD k 0).toNat < 128 := by rw [HB.out]; omega
          have HT := Lib.hid (short_test HG.out hkl hbl)
          have HF := Lib.hid (dec_fit (l := s.data.toList) k h9)
          by_cases h0 : k ≠ 0 ∧ s.data.toList.getD k 0 = 0
          · have HR := Lib.hid (rd_bad HG.out hkl h9 hbl h0)
            have ht : (!(strOfNums (varNums (decVal (s.data.toList.take (k + 1))))).toList == (s.extract 0 (k + 1)).toList) = true := by rw [HT.out, decide_eq_true h0]; rfl
            clear hbl h0 HT
            go_wp2
            rw [HV.out]
            obtain ⟨D, hD⟩ : ∃ D, D = decVal (s.data.toList.take (k + 1)) := ⟨_, rfl⟩
            rw [← hD] at ht HF ⊢
            clear hD HV HB HG
            have hwr : IntKind.i64.wrap ((k : Int) + 1) = (k : Int) + 1 := IntWalk.i64_in _ (by omega)
            have hw0 : (0 : Int) ≤ (k : Int) + 1 := by omega
            have hw1 : (k : Int) + 1 ≤ (s.size : Int) := by omega
            have hwt : ((k : Int) + 1).toNat = k + 1 := by omega
            have hw2 : k + 1 ≤ s.size := by omega
            go_region_held3 (fun _ => True) (trivial) (first | (go_at_call 40; refine (l1Var D HF.out _).mono ?_; rintro e w1 ⟨rfl, hb1⟩))
            clear hwr hw0 hw1 hwt
            go_wp2
            go_ret3
            exact ⟨by rw [HR.out]; rfl, ⟨hb1.os, hb1.tape, hb1.output, hb1.size, hb1.block⟩⟩
          · have HR := Lib.hid (rd_good HG.out hkl h9 hbl h0)
            have ht : (!(strOfNums (varNums (decVal (s.data.toList.take (k + 1))))).toList == (s.extract 0 (k + 1)).toList) = false := by rw [HT.out, decide_eq_false h0]; rfl
            clear hbl h0 HT
            go_wp2
            rw [HV.out]
            obtain ⟨D, hD⟩ : ∃ D, D = decVal (s.data.toList.take (k + 1)) := ⟨_, rfl⟩
            rw [← hD] at ht HF HR ⊢
            clear hD HV HB HG
            have hwr : IntKind.i64.wrap ((k : Int) + 1) = (k : Int) + 1 := IntWalk.i64_in _ (by omega)
            have hw0 : (0 : Int) ≤ (k : Int) + 1 := by omega
            have hw1 : (k : Int) + 1 ≤ (s.size : Int) := by omega
            have hwt : ((k : Int) + 1).toNat = k + 1 := by omega
            have hw2 : k + 1 ≤ s.size := by omega
            go_region_held3 (fun _ => True) (trivial) (first | (go_at_call 40; refine (l1Var D HF.out _).mono ?_; rintro e w1 ⟨rfl, hb1⟩))
            clear hwr hw0 hw1 hwt
            go_wp2
            go_ret3
            exact ⟨by rw [HR.out]; rfl, ⟨hb1.os, hb1.tape, hb1.output, hb1.size, hb1.block⟩⟩
      · have HR := Lib.hid (rd_none HG.out (.inr h9))
        go_wp2
        go_ret3
        exact ⟨by rw [HR.out]; rfl, Below.refl _ _⟩
    · have HR := Lib.hid (rd_none HG.out (.inl (by have := hL.out; omega)))
      go_wp2
      go_ret3
      exact ⟨by rw [HR.out]; rfl, Below.refl _ _⟩
end Go.Proofs.YtialoobnjfbboaaDoor
