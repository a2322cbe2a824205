/- Plain mathematics of chapter 1's readers: what a reader of a variable-length number answers, and that both tests of the shortest encoding agree. -/
import Derived.Test.YtialoobnjfbboaaDoorMath
import Derived.Laws.BytesArg
import Derived.Laws.BitsAllLaws
import Derived.Lib.Strings
namespace Go.Proofs.YtialoobnjfbboaaDoor
open Go.RowKit

/-- The number that bytes encode, the least significant first. -/
def decVal : List UInt8 → Nat
  | [] => 0
  | b :: l => b.toNat % 128 + 128 * decVal l
theorem decVal_snoc : ∀ (l : List UInt8) (b : UInt8), decVal (l ++ [b]) = decVal l + b.toNat % 128 * 128 ^ l.length
  | [], b => by simp [decVal]
  | c :: l, b => by
    rw [List.cons_append, decVal, decVal, decVal_snoc l b, List.length_cons, Nat.pow_succ, Nat.mul_add, ← Nat.add_assoc]
    congr 1
    rw [Nat.mul_comm 128, Nat.mul_assoc]
theorem decVal_lt : ∀ (l : List UInt8), decVal l < 128 ^ l.length
  | [] => by simp [decVal]
  | c :: l => by
    have := decVal_lt l
    rw [decVal, List.length_cons, Nat.pow_succ]
    omega

def varBytes (n : Nat) : List UInt8 := (varNums n).map fun x => UInt8.ofNat x.toNat
theorem varBytes_lt {n : Nat} (h : n < 128) : varBytes n = [UInt8.ofNat n] := by unfold varBytes; rw [varNums_lt h]; rfl
theorem varBytes_ge {n : Nat} (h : ¬ n < 128) : varBytes n = UInt8.ofNat (n % 128 + 128) :: varBytes (n / 128) := by
  unfold varBytes
  rw [varNums_ge h, List.map_cons]
  congr 2
theorem varBytes_last : ∀ (k n : Nat), n ≤ k → ∀ (pre : List UInt8), pre ≠ [] → varBytes n ≠ pre ++ [0]
  | k, n, hk, pre, hp, e => by
    by_cases hn : n < 128
    · rw [varBytes_lt hn] at e
      have := congrArg List.length e
      simp at this
      exact hp this
    · rw [varBytes_ge hn] at e
      match pre, hp with
      | c :: pre', _ =>
        rw [List.cons_append] at e
        injection e with _ e2
        match k with
        | 0 => omega
        | k' + 1 =>
          by_cases hp' : pre' = []
          · subst hp'
            by_cases hn2 : n / 128 < 128
            · rw [varBytes_lt hn2] at e2
              injection e2 with e3
              have e4 := congrArg UInt8.toNat e3
              rw [UInt8.toNat_ofNat'] at e4
              have : (0 : UInt8).toNat = 0 := rfl
              omega
            · rw [varBytes_ge hn2] at e2
              injection e2 with _ e5
              have := congrArg List.length e5
              have hpos := varNums_pos (n / 128 / 128)
              simp [varBytes] at this
              rw [this] at hpos
              simp at hpos
          · exact varBytes_last k' (n / 128) (by omega) pre' hp' e2
theorem decVal_pos : ∀ (pre : List UInt8) (z : UInt8), z.toNat < 128 → z ≠ 0 → 0 < decVal (pre ++ [z])
  | [], z, hz, h0 => by
    have : z.toNat ≠ 0 := fun e => h0 (UInt8.toNat_inj.1 (by rw [e]; rfl))
    simp [decVal]
    omega
  | c :: pre, z, hz, h0 => by
    have := decVal_pos pre z hz h0
    rw [List.cons_append, decVal]
    omega
theorem var_back : ∀ (pre : List UInt8) (z : UInt8), (∀ b ∈ pre, 128 ≤ b.toNat) → z.toNat < 128 → (pre ≠ [] → z ≠ 0) → varBytes (decVal (pre ++ [z])) = pre ++ [z]
  | [], z, _, hz, _ => by
    have e : decVal ([] ++ [z]) = z.toNat := by simp [decVal]; omega
    rw [e, varBytes_lt hz]
    simp
  | c :: pre, z, hp, hz, hn => by
    have h0 := hn (by simp)
    have hc := hp c (by simp)
    have hc2 := c.toNat_lt
    have hpos := decVal_pos pre z hz h0
    have ih := var_back pre z (fun b hb => hp b (by simp [hb])) hz (fun _ => h0)
    rw [List.cons_append, decVal, varBytes_ge (by omega)]
    have e1 : (c.toNat % 128 + 128 * decVal (pre ++ [z])) / 128 = decVal (pre ++ [z]) := by omega
    have e2 : (c.toNat % 128 + 128 * decVal (pre ++ [z])) % 128 + 128 = c.toNat := by omega
    rw [e1, e2, ih]
    simp

/-- The bytes ahead of place k all continue. -/
def Goes (l : List UInt8) (k : Nat) : Prop := k ≤ l.length ∧ k ≤ 9 ∧ ∀ j, j < k → 128 ≤ (l.getD j 0).toNat
theorem Goes.zero (l : List UInt8) : Goes l 0 := ⟨Nat.zero_le _, by omega, fun j hj => by omega⟩
theorem Goes.step {l : List UInt8} {k : Nat} (h : Goes l k) (hk : k < l.length) (h9 : k < 9) (hb : 128 ≤ (l.getD k 0).toNat) : Goes l (k + 1) :=
  ⟨hk, h9, fun j hj => by
    rcases Nat.lt_or_ge j k with h1 | h1
    · exact h.2.2 j h1
    · obtain rfl : j = k := by omega
      exact hb⟩
def rdIdx (l : List UInt8) : Nat := (l.take 9).findIdx fun b => decide (b.toNat < 128)
/-- What ReadVar answers, plainly. -/
def rd (l : List UInt8) : Nat × Nat × Bool :=
  if rdIdx l < (l.take 9).length then (if rdIdx l ≠ 0 ∧ l.getD (rdIdx l) 0 = 0 then (0, 0, false) else (decVal (l.take (rdIdx l + 1)), rdIdx l + 1, true)) else (0, 0, false)
theorem getD_at {l : List UInt8} {k : Nat} (h : k < l.length) : l.getD k 0 = l[k] := by rw [List.getD_eq_getElem?_getD, List.getElem?_eq_getElem h]; rfl
theorem idx_stop {l : List UInt8} {k : Nat} (h : Goes l k) (hk : k < l.length) (h9 : k < 9) (hb : (l.getD k 0).toNat < 128) : rdIdx l = k ∧ k < (l.take 9).length := by
  have hl : k < (l.take 9).length := by rw [List.length_take]; omega
  refine ⟨?_, hl⟩
  unfold rdIdx
  rw [List.findIdx_eq hl]
  refine ⟨?_, fun j hj => ?_⟩
  · rw [List.getElem_take, decide_eq_true_eq]
    rw [getD_at hk] at hb
    exact hb
  · have := h.2.2 j hj
    rw [getD_at (by omega)] at this
    rw [List.getElem_take]
    exact decide_eq_false (by omega)
theorem rd_bad {l : List UInt8} {k : Nat} (h : Goes l k) (hk : k < l.length) (h9 : k < 9) (hb : (l.getD k 0).toNat < 128) (h0 : k ≠ 0 ∧ l.getD k 0 = 0) : rd l = (0, 0, false) := by
  obtain ⟨e, hl⟩ := idx_stop h hk h9 hb
  unfold rd
  rw [e, if_pos hl, if_pos h0]
theorem rd_good {l : List UInt8} {k : Nat} (h : Goes l k) (hk : k < l.length) (h9 : k < 9) (hb : (l.getD k 0).toNat < 128) (h0 : ¬ (k ≠ 0 ∧ l.getD k 0 = 0)) : rd l = (decVal (l.take (k + 1)), k + 1, true) := by
  obtain ⟨e, hl⟩ := idx_stop h hk h9 hb
  unfold rd
  rw [e, if_pos hl, if_neg h0]
theorem rd_none {l : List UInt8} {k : Nat} (h : Goes l k) (hk : ¬ k < l.length ∨ ¬ k < 9) : rd l = (0, 0, false) := by
  have hkl := h.1
  have hk9 := h.2.1
  unfold rd
  rw [if_neg]
  have hn : rdIdx l = (l.take 9).length := by
    unfold rdIdx
    rw [List.findIdx_eq_length]
    intro x hx
    obtain ⟨j, hj, rfl⟩ := List.getElem_of_mem hx
    have hj' := hj
    rw [List.length_take] at hj'
    have := h.2.2 j (by omega)
    rw [getD_at (by omega)] at this
    rw [List.getElem_take]
    exact decide_eq_false (by omega)
  omega
theorem take_getD8 {l : List UInt8} {k : Nat} (h : k < l.length) : l.take (k + 1) = l.take k ++ [l.getD k 0] := by
  rw [List.take_succ_eq_append_getElem h, getD_at h]
/-- The spec's test of the shortest encoding. -/
theorem short_iff {l : List UInt8} {k : Nat} (h : Goes l k) (hk : k < l.length) (hb : (l.getD k 0).toNat < 128) : (varBytes (decVal (l.take (k + 1))) == l.take (k + 1)) = !decide (k ≠ 0 ∧ l.getD k 0 = 0) := by
  rw [take_getD8 hk]
  have hpre : ∀ b ∈ l.take k, 128 ≤ b.toNat := by
    intro b hb'
    obtain ⟨j, hj, rfl⟩ := List.getElem_of_mem hb'
    have hj' := hj
    rw [List.length_take] at hj'
    have := h.2.2 j (by omega)
    rw [getD_at (by omega)] at this
    rw [List.getElem_take]
    exact this
  have hnil : l.take k = [] ↔ k = 0 := by
    rw [← List.length_eq_zero_iff, List.length_take]
    omega
  by_cases h0 : k ≠ 0 ∧ l.getD k 0 = 0
  · rw [decide_eq_true h0, Bool.not_true, beq_eq_false_iff_ne, h0.2]
    exact varBytes_last _ _ (Nat.le_refl _) _ (fun e => h0.1 (hnil.1 e))
  · rw [decide_eq_false h0, Bool.not_false, beq_iff_eq]
    refine var_back _ _ hpre hb (fun e e2 => h0 ⟨fun e3 => e (hnil.2 e3), e2⟩)
theorem dec_fit {l : List UInt8} (k : Nat) (hk : k < 9) : Fit (decVal (l.take (k + 1))) := by
  have h1 := decVal_lt (l.take (k + 1))
  have h2 : (l.take (k + 1)).length ≤ 9 := Nat.le_trans (List.length_take_le _ _) (by omega)
  have h3 : 128 ^ (l.take (k + 1)).length ≤ 128 ^ 9 := Nat.pow_le_pow_right (by omega) h2
  have h4 : (128 : Nat) ^ 9 = 9223372036854775808 := by decide
  unfold Fit
  omega
theorem step_dec {l : List UInt8} {k : Nat} (hk : k < l.length) : decVal (l.take (k + 1)) = decVal (l.take k) + (l.getD k 0).toNat % 128 * 2 ^ (7 * k) := by
  rw [take_getD8 hk, decVal_snoc, List.length_take, Nat.min_eq_left (by omega)]
  congr 2
  rw [show (128 : Nat) = 2 ^ 7 from rfl, ← Nat.pow_mul]
theorem cast_shift (b : UInt8) (k : Nat) : ((b.toNat : Int) % 128 * 2 ^ (7 * k)) = ((b.toNat % 128 * 2 ^ (7 * k) : Nat) : Int) := by
  rw [Int.natCast_mul, Int.natCast_emod, Int.natCast_pow]; rfl
theorem step_val {l : List UInt8} {k : Nat} {b : UInt8} (hk : k < l.length) (h9 : k < 9) (hb : l.getD k 0 = b) :
    wrap64 ((decVal (l.take k) : Int) + wrap64 ((b.toNat : Int) % 128 * 2 ^ (7 * k))) = (decVal (l.take (k + 1)) : Int) := by
  have hf := dec_fit (l := l) k h9
  have hs := step_dec hk
  rw [hb] at hs
  rw [cast_shift]
  generalize b.toNat % 128 * 2 ^ (7 * k) = x at hs ⊢
  generalize decVal (l.take k) = y at hs ⊢
  generalize decVal (l.take (k + 1)) = z at hs hf ⊢
  unfold Fit at hf
  simp only [wrap64]
  omega
theorem short_test {s : ByteArray} {k : Nat} (h : Goes s.data.toList k) (hk : k < s.data.toList.length) (hb : (s.data.toList.getD k 0).toNat < 128) :
    ((strOfNums (varNums (decVal (s.data.toList.take (k + 1))))).toList == (s.extract 0 (k + 1)).toList) = !decide (k ≠ 0 ∧ s.data.toList.getD k 0 = 0) := by
  rw [Lib.toList_data, strOfNums_data, Lib.extract_toList, List.drop_zero, Nat.sub_zero]
  exact short_iff h hk hb
end Go.Proofs.YtialoobnjfbboaaDoor
