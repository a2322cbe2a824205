/- The walk of the law FnOneBit. -/
import Derived.Test.YtbnfmgbailfbgaaBitMath
import Derived.Lib.ConvBytes
namespace Go.Proofs.Ytbnfmgbailfbgaa
open Go.RowKit

theorem bit_val (z r : Nat) (hz : z < 256) (hr : r < 8) : ∃ V : Nat, bits .xor .u8 (z : Int) (2 ^ r % 256) = (V : Int) ∧ V < 256 ∧ V ≠ z := by
  have h2 : 2 ^ r < 256 := Nat.lt_of_lt_of_le (Nat.pow_lt_pow_right (by omega) hr) (by decide)
  have hi : ((2 : Int) ^ r) = ((2 ^ r : Nat) : Int) := by rw [Int.natCast_pow]; rfl
  have e : ((2 : Int) ^ r % 256) = ((2 ^ r : Nat) : Int) := by
    rw [hi]
    generalize 2 ^ r = m at h2 ⊢
    omega
  refine ⟨z ^^^ 2 ^ r, by rw [e]; exact u8_xor_nat z (2 ^ r) hz h2, Nat.xor_lt_two_pow (n := 8) (by omega) (by omega), fun h => ?_⟩
  have h3 : z ^^^ 2 ^ r = z ^^^ 0 := by rw [Nat.xor_zero]; exact h
  have h4 := xor_left_inj h3
  have : 0 < 2 ^ r := Nat.pow_pos (by omega)
  omega
theorem flip_not' (s b : ByteArray) (hs : s.size ≤ 16000) (hb : b = s ++ sealStr s) (q : Nat) (v : UInt8) (hq : q < b.size) (hv : b[q] ≠ v) : unsealOk (flip b q v) = false := by
  subst hb
  exact flip_not s hs q v hq hv
theorem flip_conv (wr W1 : World) (b : ByteArray) (q V : Nat) {cap : Nat} (hW : W1 = Lib.bytesWorld wr 5 b) (hq : q < b.size) (hV : V < 256) :
    (convert 22 9 (.slice (some ⟨wr.heap.size, 0, none⟩) b.size cap)).run Try.prog (W1.setCell ⟨wr.heap.size, q, none⟩ (.int .u8 (V : Int))) = .ok (.string (flip b q (UInt8.ofNat V))) (W1.setCell ⟨wr.heap.size, q, none⟩ (.int .u8 (V : Int))) := by
  have hx : strOfNums ((b.data.toList.set q (UInt8.ofNat V)).map fun c => (c.toNat : Int)) = flip b q (UInt8.ofNat V) := by
    unfold strOfNums flip
    rw [List.map_map]
    congr 2
    rw [List.map_congr_left (g := id) (fun c _ => by simp), List.map_id]
  rw [← hx]
  refine run_convert_bytes_arg _ 22 5 Try.underlying22 Try.underlying5 wr.heap.size 0 b.size cap _ (by rw [List.length_map, List.length_set, ← Lib.size_eq]) (fun i hi => ?_) 9 Try.underlying9
  rw [Nat.zero_add]
  have hil : i < b.data.toList.length := by rw [← Lib.size_eq]; exact hi
  by_cases e : i = q
  · subst e
    have hc : W1.cell? ⟨wr.heap.size, i, none⟩ = some (.int .u8 (b.data.toList.getD i 0).toNat) := by rw [hW]; exact Lib.bytesWorld_cell _ _ _ _ hi
    rw [World.cell?_setCell_same _ _ _ hc, List.getD_eq_getElem?_getD, List.getElem?_map, List.getElem?_set_self hil]
    simp only [Option.map_some, Option.getD_some]
    rw [UInt8.toNat_ofNat', Nat.mod_eq_of_lt (by omega)]
  · rw [World.cell?_setCell_other _ _ _ _ (by simp), hW, Lib.bytesWorld_cell _ _ _ _ hi, List.getD_eq_getElem?_getD, List.getD_eq_getElem?_getD, List.getElem?_map, List.getElem?_set_ne (by omega), List.getElem?_eq_getElem hil]
    rfl

set_option maxRecDepth 100000 in
set_option maxHeartbeats 1000000 in
theorem fnOneBitWalk (a : Option Addr) (len cap : Nat) (zs : List Int) (w : World) (h : IsRow .u8 w a len cap zs) :
    Calls Try.prog 4 #[.slice a len cap] w fun e w' => e = .returned (.bool true) ∧ Below w.heap.size w w' := by
  by_cases hbig : len ≤ 1048576
  · have hsrc := Lib.hid (src_of_row h hbig)
    clear h
    go_enter Try.func4, Try.ntmps4
    go_wp2_with fail
    refine (bigNo a len cap hbig w).mono ?_
    rintro e w' ⟨rfl, rfl⟩
    go_wp2_with fail
    refine (drawSealed w w.heap.size a len cap (Nat.le_refl _) hsrc.out).mono ?_
    rintro e w1 ⟨s, hs, rfl, hb1⟩
    go_wp2_with fail
    refine (implSealed s (by omega) w1).mono ?_
    rintro e w2 ⟨rfl, hb2⟩
    go_wp2_with fail
    refine (specSealed s (by omega) w2).mono ?_
    rintro e w3 ⟨rfl, hb3⟩
    have hbel : Below w.heap.size w w3 := (hb1.trans (hb2.mono hb1.size)).trans (hb3.mono (Nat.le_trans hb1.size hb2.size))
    have HB : Hid (∃ b, b = s ++ sealStr s) := ⟨_, rfl⟩
    obtain ⟨b, hbe⟩ := HB
    have hz : b.size = s.size + 4 := by rw [hbe, ByteArray.size_append, sealStr_size]
    rw [← hbe]
    have HE := Lib.hid hbe
    have hz2 : b.size ≤ 16 := by omega
    clear hb1 hb2 hb3 hbe hz
    go_wp2
    go_loopw [5, 6, 7, 8] (fun i _ _ _ wr => ∃ k : Nat, k ≤ 8 * b.size ∧ i = .int .i64 k ∧ Below w.heap.size w wr) (fun i _ _ _ _ => 8 * b.size - (intOf i).toNat)
    case atStart => exact ⟨0, Nat.zero_le _, rfl, hbel⟩
    case round =>
      obtain ⟨k, hk, rfl, hwr⟩ := hrel
      by_cases hlt : k < 8 * b.size
      · have hcb := Lib.run_convert_string_bytes (P := Try.prog) wr 9 22 5 b Try.underlying9 Try.underlying22 Try.underlying5
        have hlt' : (k : Int) < 8 * (b.size : Int) := by omega
        obtain ⟨q, r, hkd, hkm, hqb, hr8⟩ : ∃ q r : Nat, (k : Int) / 8 = (q : Int) ∧ (k : Int) % 8 = (r : Int) ∧ q < b.size ∧ r < 8 := ⟨k / 8, k % 8, by omega, by omega, by omega, by omega⟩
        have hqi : (q : Int) < (b.size : Int) := by omega
        have hri : (r : Int) < 8 := by omega
        obtain ⟨W1, hW1⟩ : ∃ W1, W1 = Lib.bytesWorld wr 5 b := ⟨_, rfl⟩
        rw [← hW1] at hcb
        obtain ⟨z, hz, hzb⟩ : ∃ z : Nat, z < 256 ∧ z = b[q].toNat := ⟨_, b[q].toNat_lt, rfl⟩
        have hc : W1.cell? ⟨wr.heap.size, q, none⟩ = some (.int .u8 (z : Int)) := by
          rw [hW1, Lib.bytesWorld_cell _ _ _ _ hqb, hzb]
          congr 2
          rw [List.getD_eq_getElem?_getD, List.getElem?_eq_getElem (by simpa using hqb)]
          rfl
        have hf : W1.frozen? ⟨wr.heap.size, q, none⟩ = false := by
          rw [hW1]
          simp [World.frozen?, Lib.bytesWorld_at_new, Lib.bytesCells]
          omega
        have HW := Lib.hid hW1
        have HZ := Lib.hid hzb
        clear hW1 hzb
        obtain ⟨V, hV, hV2, hVz⟩ := bit_val z r hz hr8
        have hcv := flip_conv (cap := grownCap wr b.size 0 5) wr W1 b q V HW.out hqb hV2
        have hno := flip_not' s b (by omega) HE.out q (UInt8.ofNat V) hqb (by intro e; apply hVz; rw [HZ.out, e, UInt8.toNat_ofNat']; omega)
        have hfs := flip_size b q (UInt8.ofNat V)
        have HN := Lib.hid hno
        have HF := Lib.hid hfs
        have hWb : Below w.heap.size w (W1.setCell ⟨wr.heap.size, q, none⟩ (.int .u8 (V : Int))) := by
          have h1 : Below w.heap.size w W1 := hwr.trans ⟨by rw [HW.out]; rfl, by rw [HW.out]; rfl, by rw [HW.out]; rfl, by rw [HW.out, Lib.bytesWorld_size]; omega, fun j hj => by rw [HW.out]; exact Lib.bytesWorld_at_old _ _ _ _ (Nat.lt_of_lt_of_le hj hwr.size)⟩
          exact h1.setCell hwr.size _
        clear hno hfs hVz
        go_wp2_with fail
        refine (implUnsealedAny _ (by have := HF.out; omega) _).mono ?_
        rintro e w5 ⟨rfl, hb5⟩
        rw [HN.out]
        have hB5 := hWb.trans (hb5.mono hWb.size)
        clear hb5 hWb hc hf hcv hcb
        go_wp2
        go_roundw
        case rel => exact ⟨k + 1, by omega, by go_num, hB5⟩
        case measure => simp [intOf]; omega
      · go_wp2
        go_ret
        exact ⟨rfl, hwr⟩
  · go_enter Try.func4, Try.ntmps4
    go_wp2_with fail
    refine (bigYes a len cap hbig w).mono ?_
    rintro e w' ⟨rfl, rfl⟩
    go_wp2
    go_ret
    exact ⟨rfl, Below.refl _ _⟩
end Go.Proofs.Ytbnfmgbailfbgaa
