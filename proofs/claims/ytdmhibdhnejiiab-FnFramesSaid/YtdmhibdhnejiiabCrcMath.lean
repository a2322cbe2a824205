/- Plain mathematics of the checksum: the bit-by-bit CRC-32 and the one with a table of sixteen entries are the same. No program text is reached. -/
import Derived.WalkKit
import Derived.Laws.BitsAllLaws
namespace Go.Proofs.Ytdmhibdhnejiiab
open Go.RowKit

/-- One bit of the checksum. -/
def crcBit (c : Nat) : Nat := if c % 2 = 1 then (c / 2) ^^^ 3988292384 else c / 2
/-- k bits of the checksum. -/
def crcBits : Nat → Nat → Nat
  | 0, c => c
  | k + 1, c => crcBit (crcBits k c)

theorem crcBits_add (k : Nat) : ∀ j c, crcBits (k + j) c = crcBits k (crcBits j c) := by
  induction k with
  | zero => intro j c; simp [crcBits]
  | succ k ih => intro j c; rw [Nat.succ_add]; simp only [crcBits]; rw [ih]

theorem crcBit_xor (a b : Nat) : crcBit (a ^^^ b) = crcBit a ^^^ crcBit b := by
  have hd : (a ^^^ b) / 2 = a / 2 ^^^ b / 2 := Nat.xor_div_two
  have hm : (a ^^^ b) % 2 = 1 ↔ ¬ (a % 2 = 1 ↔ b % 2 = 1) := Nat.xor_mod_two_eq_one
  unfold crcBit
  rw [hd]
  by_cases ha : a % 2 = 1 <;> by_cases hb : b % 2 = 1
  · rw [if_neg (by rw [hm]; simp [ha, hb]), if_pos ha, if_pos hb]
    rw [Nat.xor_assoc, ← Nat.xor_assoc 3988292384, Nat.xor_comm 3988292384, Nat.xor_assoc (b / 2), Nat.xor_self, Nat.xor_zero]
  · rw [if_pos (by rw [hm]; simp [ha, hb]), if_pos ha, if_neg hb]
    rw [Nat.xor_assoc, Nat.xor_comm (b / 2), ← Nat.xor_assoc]
  · rw [if_pos (by rw [hm]; simp [ha, hb]), if_neg ha, if_pos hb]
    rw [Nat.xor_assoc]
  · rw [if_neg (by rw [hm]; simp [ha, hb]), if_neg ha, if_neg hb]

theorem crcBits_xor (k a b : Nat) : crcBits k (a ^^^ b) = crcBits k a ^^^ crcBits k b := by
  induction k with
  | zero => rfl
  | succ k ih => simp only [crcBits]; rw [ih, crcBit_xor]

theorem crcBit_two (k : Nat) : crcBit (2 * k) = k := by
  unfold crcBit
  rw [if_neg (by omega)]
  omega
theorem crcBits_sixteen (k : Nat) : crcBits 4 (16 * k) = k := by
  have e1 : 16 * k = 2 * (8 * k) := by omega
  have e2 : 8 * k = 2 * (4 * k) := by omega
  have e3 : 4 * k = 2 * (2 * k) := by omega
  simp only [crcBits]
  rw [e1, crcBit_two, e2, crcBit_two, e3, crcBit_two, crcBit_two]

theorem low_xor (S : Nat) : 16 * (S / 16) ^^^ S % 16 = S := by
  have e1 : 16 * (S / 16) = S >>> 4 <<< 4 := by rw [Nat.shiftLeft_eq, Nat.shiftRight_eq_div_pow]; omega
  have e2 : S % 16 = S % 2 ^ 4 := rfl
  rw [e1, e2]
  apply Nat.eq_of_testBit_eq
  intro i
  rw [Nat.testBit_xor, Nat.testBit_shiftLeft, Nat.testBit_shiftRight, Nat.testBit_mod_two_pow]
  by_cases h : i < 4
  · have : ¬ i ≥ 4 := by omega
    simp [h, this]
  · have h' : i ≥ 4 := by omega
    have e : 4 + (i - 4) = i := by omega
    simp [h, h', e]

theorem crc_nibble (S : Nat) : crcBits 4 (S % 16) ^^^ S / 16 = crcBits 4 S := by
  have h := crcBits_xor 4 (16 * (S / 16)) (S % 16)
  rw [low_xor, crcBits_sixteen] at h
  rw [h, Nat.xor_comm]

theorem crcBit_lt {c : Nat} (h : c < 4294967296) : crcBit c < 4294967296 := by
  unfold crcBit
  split
  · exact Nat.xor_lt_two_pow (n := 32) (by omega) (by omega)
  · omega
theorem crcBits_lt (k : Nat) {c : Nat} (h : c < 4294967296) : crcBits k c < 4294967296 := by
  induction k with
  | zero => exact h
  | succ k ih => exact crcBit_lt ih

/-- A byte more. -/
def crcByte (c : Nat) (b : UInt8) : Nat := crcBits 8 (c ^^^ b.toNat)
theorem xor_byte_lt {c : Nat} (h : c < 4294967296) (b : UInt8) : c ^^^ b.toNat < 4294967296 :=
  Nat.xor_lt_two_pow (n := 32) (by omega) (by have := b.toNat_lt; omega)
theorem crcByte_lt {c : Nat} (h : c < 4294967296) (b : UInt8) : crcByte c b < 4294967296 := crcBits_lt 8 (xor_byte_lt h b)
/-- The register behind the first bytes. -/
def crcReg (l : List UInt8) : Nat := l.foldl crcByte 4294967295
theorem crcReg_snoc (l : List UInt8) (b : UInt8) : crcReg (l ++ [b]) = crcByte (crcReg l) b := by simp [crcReg, List.foldl_append]
theorem foldl_crc_lt : ∀ (l : List UInt8) (c : Nat), c < 4294967296 → l.foldl crcByte c < 4294967296
  | [], _, h => h
  | b :: l, _, h => foldl_crc_lt l _ (crcByte_lt h b)
theorem crcReg_lt (l : List UInt8) : crcReg l < 4294967296 := foldl_crc_lt l _ (by omega)
/-- The checksum. -/
def crc (l : List UInt8) : Nat := 4294967295 - crcReg l

theorem not32 (S : Nat) (h : S < 4294967296) : S ^^^ 4294967295 = 4294967295 - S := by
  have e : (BitVec.ofNat 32 S ^^^ BitVec.allOnes 32) = ~~~ BitVec.ofNat 32 S := BitVec.xor_allOnes
  have e2 := congrArg BitVec.toNat e
  rw [BitVec.toNat_xor, BitVec.toNat_not, BitVec.toNat_allOnes, BitVec.toNat_ofNat, Nat.mod_eq_of_lt (by omega)] at e2
  simpa using e2

theorem and1 (S : Nat) (h : S < 4294967296) : bits .and .u32 (S : Int) 1 = ((S % 2 : Nat) : Int) := by
  have := u32_and_nat S 1 h (by omega)
  rw [Nat.and_one_is_mod] at this
  exact this
theorem and15 (S : Nat) (h : S < 4294967296) : bits .and .u32 (S : Int) 15 = ((S % 16 : Nat) : Int) := by
  have := u32_and_nat S 15 h (by omega)
  rw [show (15 : Nat) = 2 ^ 4 - 1 from rfl, Nat.and_two_pow_sub_one_eq_mod] at this
  exact this
theorem xorPoly (S : Nat) (h : S < 4294967296) : bits .xor .u32 ((S : Int) / 2) 3988292384 = ((S / 2 ^^^ 3988292384 : Nat) : Int) := by
  have := u32_xor_nat (S / 2) 3988292384 (by omega) (by omega)
  have e : ((S : Int) / 2) = ((S / 2 : Nat) : Int) := by omega
  rw [e]
  exact this
theorem xorNat (a b : Nat) (ha : a < 4294967296) (hb : b < 4294967296) : bits .xor .u32 (a : Int) (b : Int) = ((a ^^^ b : Nat) : Int) := u32_xor_nat a b ha hb
theorem xorOnes (S : Nat) (h : S < 4294967296) : bits .xor .u32 (S : Int) 4294967295 = ((4294967295 - S : Nat) : Int) := by
  have := u32_xor_nat S 4294967295 h (by omega)
  rw [not32 S h] at this
  exact this
theorem crcBit_odd {c : Nat} (h : c % 2 = 1) : crcBit c = c / 2 ^^^ 3988292384 := by unfold crcBit; rw [if_pos h]
theorem crcBit_even {c : Nat} (h : ¬ c % 2 = 1) : crcBit c = c / 2 := by unfold crcBit; rw [if_neg h]
theorem xorByte (S : Nat) (h : S < 4294967296) (b : UInt8) : bits .xor .u32 (S : Int) ((b.toNat : Int) % 4294967296) = ((S ^^^ b.toNat : Nat) : Int) := by
  have hb := b.toNat_lt
  have e : ((b.toNat : Int) % 4294967296) = ((b.toNat : Nat) : Int) := by omega
  rw [e]
  exact u32_xor_nat S b.toNat h (by omega)
theorem test_odd {S : Nat} (h : S < 4294967296) (ho : S % 2 = 1) : (bits .and .u32 (S : Int) 1 == 1) = true := by rw [and1 S h, ho]; rfl
theorem test_even {S : Nat} (h : S < 4294967296) (ho : ¬ S % 2 = 1) : (bits .and .u32 (S : Int) 1 == 1) = false := by
  have : S % 2 = 0 := by omega
  rw [and1 S h, this]; rfl
theorem crc_lt (l : List UInt8) : crc l < 4294967296 := by unfold crc; omega
theorem sum_end (l : List UInt8) : wrap64 (bits .xor .u32 (crcReg l : Int) 4294967295) = ((crc l : Nat) : Int) := by
  rw [xorOnes _ (crcReg_lt l)]
  have h := crcReg_lt l
  unfold crc
  simp only [wrap64]
  omega
/-- Half a byte by the table. -/
theorem nib (X : Nat) (h : X < 4294967296) : ∃ r T Y : Nat, r < 16 ∧ T = crcBits 4 r ∧ Y = crcBits 4 X ∧ Y < 4294967296 ∧ bits .and .u32 (X : Int) 15 = (r : Int) ∧ bits .xor .u32 (T : Int) ((X : Int) / 16) = (Y : Int) := by
  refine ⟨X % 16, crcBits 4 (X % 16), crcBits 4 X, by omega, rfl, rfl, crcBits_lt 4 h, and15 X h, ?_⟩
  have e : ((X : Int) / 16) = ((X / 16 : Nat) : Int) := by omega
  rw [e, xorNat _ _ (crcBits_lt 4 (by omega)) (by omega), crc_nibble]
theorem nibs (c : Nat) (h : c < 4294967296) (b : UInt8) : ∃ X, X < 4294967296 ∧ crcBits 4 (crcBits 4 X) = crcByte c b ∧ bits .xor .u32 (c : Int) ((b.toNat : Int) % 4294967296) = (X : Int) :=
  ⟨c ^^^ b.toNat, xor_byte_lt h b, by rw [← crcBits_add]; rfl, xorByte c h b⟩
theorem wrap64_crc (l : List UInt8) : wrap64 (crc l : Int) = ((crc l : Nat) : Int) := by
  have h := crc_lt l
  simp only [wrap64]
  omega
theorem sum_not (l : List UInt8) : bits .xor .u32 IntKind.u32.max (crcReg l : Int) = ((crc l : Nat) : Int) := by
  have e : IntKind.u32.max = ((4294967295 : Nat) : Int) := by decide
  rw [e, u32_xor_nat _ _ (by omega) (crcReg_lt l), Nat.xor_comm, not32 _ (crcReg_lt l)]
  rfl
end Go.Proofs.Ytdmhibdhnejiiab
