/- Plain mathematics of promise 1: a sealed string with one modified byte is not accepted. -/
import Derived.Test.YtbnfmgbailfbgaaSealLawsW
namespace Go.Proofs.Ytbnfmgbailfbgaa
open Go.RowKit

theorem crcBit_inj {a b : Nat} (ha : a < 4294967296) (hb : b < 4294967296) (h : crcBit a = crcBit b) : a = b := by
  have top : ∀ x y : Nat, x < 4294967296 → y < 4294967296 → x / 2 ^^^ 3988292384 ≠ y / 2 := by
    intro x y hx hy e
    have e1 := congrArg (fun n => Nat.testBit n 31) e
    have t1 : (x / 2).testBit 31 = false := Nat.testBit_lt_two_pow (by omega)
    have t2 : (y / 2).testBit 31 = false := Nat.testBit_lt_two_pow (by omega)
    have t3 : Nat.testBit 3988292384 31 = true := by decide
    simp only [Nat.testBit_xor, t1, t2, t3] at e1
    exact absurd e1 (by decide)
  by_cases h1 : a % 2 = 1 <;> by_cases h2 : b % 2 = 1
  · rw [crcBit_odd h1, crcBit_odd h2] at h
    have := congrArg (fun n => n ^^^ 3988292384) h
    simp only [Nat.xor_assoc, Nat.xor_self, Nat.xor_zero] at this
    omega
  · rw [crcBit_odd h1, crcBit_even h2] at h
    exact absurd h (top a b ha hb)
  · rw [crcBit_even h1, crcBit_odd h2] at h
    exact absurd h.symm (top b a hb ha)
  · rw [crcBit_even h1, crcBit_even h2] at h
    omega
theorem crcBits_inj : ∀ (k : Nat) {a b : Nat}, a < 4294967296 → b < 4294967296 → crcBits k a = crcBits k b → a = b
  | 0, _, _, _, _, h => h
  | k + 1, _, _, ha, hb, h => crcBits_inj k ha hb (crcBit_inj (crcBits_lt k ha) (crcBits_lt k hb) h)
theorem xor_left_inj {a b c : Nat} (h : a ^^^ b = a ^^^ c) : b = c := by
  have := congrArg (fun n => a ^^^ n) h
  simpa only [← Nat.xor_assoc, Nat.xor_self, Nat.zero_xor] using this
theorem xor_right_inj {a b c : Nat} (h : b ^^^ a = c ^^^ a) : b = c := by rw [Nat.xor_comm b, Nat.xor_comm c] at h; exact xor_left_inj h
theorem crcByte_inj {c d : Nat} {b : UInt8} (hc : c < 4294967296) (hd : d < 4294967296) (h : crcByte c b = crcByte d b) : c = d :=
  xor_right_inj (crcBits_inj 8 (xor_byte_lt hc b) (xor_byte_lt hd b) h)
theorem crcByte_ne {c : Nat} {b d : UInt8} (hc : c < 4294967296) (h : crcByte c b = crcByte c d) : b = d :=
  UInt8.toNat_inj.1 (xor_left_inj (crcBits_inj 8 (xor_byte_lt hc b) (xor_byte_lt hc d) h))
theorem foldl_crc_inj : ∀ (l : List UInt8) {c d : Nat}, c < 4294967296 → d < 4294967296 → l.foldl crcByte c = l.foldl crcByte d → c = d
  | [], _, _, _, _, h => h
  | b :: l, _, _, hc, hd, h => crcByte_inj hc hd (foldl_crc_inj l (crcByte_lt hc b) (crcByte_lt hd b) h)

/-- One byte modified: another checksum. -/
theorem crc_set : ∀ (l : List UInt8) (q : Nat) (v : UInt8) (c : Nat), c < 4294967296 → (h : q < l.length) → (l.set q v).foldl crcByte c = l.foldl crcByte c → l[q] = v
  | b :: l, 0, v, c, hc, _, e => by
    simp only [List.set_cons_zero, List.foldl_cons] at e
    exact (crcByte_ne hc (foldl_crc_inj l (crcByte_lt hc v) (crcByte_lt hc b) e)).symm
  | b :: l, q + 1, v, c, hc, h, e => by
    simp only [List.set_cons_succ, List.foldl_cons] at e
    simpa using crc_set l q v (crcByte c b) (crcByte_lt hc b) (by simpa using h) e
theorem crc_inj_set {l : List UInt8} {q : Nat} {v : UInt8} (h : q < l.length) (e : crc (l.set q v) = crc l) : l[q] = v := by
  have h1 := crcReg_lt l
  have h2 := crcReg_lt (l.set q v)
  unfold crc at e
  exact crc_set l q v 4294967295 (by omega) h (show crcReg (l.set q v) = crcReg l by omega)

theorem sealNums_inj {c d : Nat} (hc : c < 4294967296) (hd : d < 4294967296) (h : (strOfNums (sealNums c)).data.toList = (strOfNums (sealNums d)).data.toList) : c = d := by
  rw [strOfNums_data, strOfNums_data] at h
  simp only [sealNums, List.map_cons, List.map_nil, List.cons.injEq, and_true] at h
  obtain ⟨h1, h2, h3, h4⟩ := h
  have a1 := congrArg UInt8.toNat h1
  have a2 := congrArg UInt8.toNat h2
  have a3 := congrArg UInt8.toNat h3
  have a4 := congrArg UInt8.toNat h4
  rw [show ((16777216 : Int)) = ((16777216 : Nat) : Int) from rfl, u8_of, u8_of] at a1
  rw [show ((65536 : Int)) = ((65536 : Nat) : Int) from rfl, u8_of, u8_of] at a2
  have e256 : ∀ c : Nat, ((c : Int) / 256 % 256).toNat = c / 256 % 256 := fun c => by omega
  have e1 : ∀ c : Nat, ((c : Int) % 256).toNat = c % 256 := fun c => by omega
  rw [e256, e256, UInt8.toNat_ofNat', UInt8.toNat_ofNat'] at a3
  rw [e1, e1, UInt8.toNat_ofNat', UInt8.toNat_ofNat'] at a4
  omega

/-- A string with byte q modified. -/
def flip (b : ByteArray) (q : Nat) (v : UInt8) : ByteArray := ⟨(b.data.toList.set q v).toArray⟩
theorem flip_size (b : ByteArray) (q : Nat) (v : UInt8) : (flip b q v).size = b.size := by
  rw [Lib.size_eq, Lib.size_eq]
  simp [flip]

theorem flip_not (s : ByteArray) (hs : s.size ≤ 16000) (q : Nat) (v : UInt8) (hq : q < (s ++ sealStr s).size) (hv : (s ++ sealStr s)[q] ≠ v) : unsealOk (flip (s ++ sealStr s) q v) = false := by
  cases hk : unsealOk (flip (s ++ sealStr s) q v)
  · rfl
  · exfalso
    obtain ⟨hb, _⟩ := unseal_back hk
    generalize unsealStr (flip (s ++ sealStr s) q v) = y at hb
    have hd := congrArg (fun b : ByteArray => b.data.toList) hb
    simp only [Joins.data_append, flip] at hd
    have hl4 : (sealStr s).data.toList.length = 4 := by rw [← Lib.size_eq, sealStr_size]
    have hl4' : (sealStr y).data.toList.length = 4 := by rw [← Lib.size_eq, sealStr_size]
    have hsz : q < s.data.toList.length + 4 := by rw [ByteArray.size_append, sealStr_size] at hq; rw [← Lib.size_eq]; exact hq
    have hlen := congrArg List.length hd
    simp only [List.length_append, List.length_set, hl4, hl4'] at hlen
    have hv' : ∀ h : q < (s.data.toList ++ (sealStr s).data.toList).length, (s.data.toList ++ (sealStr s).data.toList)[q] ≠ v := by
      intro h e
      apply hv
      rw [← e]
      show (s ++ sealStr s).data[q] = _
      rw [← Array.getElem_toList]
      congr 1
    by_cases hq2 : q < s.data.toList.length
    · rw [List.set_append_left _ _ hq2] at hd
      have hd' := List.append_inj hd (by rw [List.length_set]; omega)
      obtain ⟨e1, e2⟩ := hd'
      have ec : crc y.data.toList = crc s.data.toList := sealNums_inj (crc_lt _) (crc_lt _) e2
      rw [e1] at ec
      have := crc_inj_set hq2 ec
      exact hv' (by rw [List.length_append, hl4]; omega) (by rw [List.getElem_append_left hq2]; exact this)
    · rw [List.set_append_right _ _ (by omega)] at hd
      obtain ⟨e1, e2⟩ := List.append_inj hd (by omega)
      have ey : y = s := by apply ByteArray.ext; exact Array.toList_inj.1 e1
      subst ey
      have hx : q - y.data.toList.length < (sealStr y).data.toList.length := by omega
      have e3 : ((sealStr y).data.toList.set (q - y.data.toList.length) v)[q - y.data.toList.length]'(by rw [List.length_set]; exact hx) = v := List.getElem_set_self _
      exact hv' (by rw [List.length_append, hl4]; omega) (by rw [List.getElem_append_right (by omega)]; rw [← e3]; congr 1)
end Go.Proofs.Ytbnfmgbailfbgaa
