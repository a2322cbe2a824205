/- Plain mathematics: a number and a text come back from their encodings, whatever follows; what is read, written again, has its bytes. -/
import Derived.Test.YtialoobnjfbboaaDoorReadMath
import Derived.Test.YtialoobnjfbboaaDoorWordW
import Derived.Test.YtialoobnjfbboaaDoorTextBase
namespace Go.Proofs.YtialoobnjfbboaaDoor
open Go.RowKit

theorem varBytes_shape : ∀ (k n : Nat), n ≤ k → ∃ (pre : List UInt8) (z : UInt8), varBytes n = pre ++ [z] ∧ (∀ b ∈ pre, 128 ≤ b.toNat) ∧ z.toNat < 128 ∧ (pre ≠ [] → z ≠ 0) ∧ decVal (pre ++ [z]) = n
  | k, n, hk => by
    by_cases hn : n < 128
    · have hz : (UInt8.ofNat n).toNat = n := by rw [UInt8.toNat_ofNat']; omega
      refine ⟨[], UInt8.ofNat n, varBytes_lt hn, by simp, by omega, by simp, ?_⟩
      simp only [List.nil_append, decVal, hz]
      omega
    · match k with
      | 0 => omega
      | k' + 1 =>
        obtain ⟨pre, z, e, hp, hz, h0, hd⟩ := varBytes_shape k' (n / 128) (by omega)
        have hc : (UInt8.ofNat (n % 128 + 128)).toNat = n % 128 + 128 := by rw [UInt8.toNat_ofNat']; omega
        refine ⟨UInt8.ofNat (n % 128 + 128) :: pre, z, by rw [varBytes_ge hn, e]; rfl, ?_, hz, ?_, ?_⟩
        · intro b hb
          rcases List.mem_cons.1 hb with rfl | hb
          · omega
          · exact hp b hb
        · intro _ e0
          by_cases hpre : pre = []
          · subst hpre
            rw [List.nil_append, decVal, decVal, e0] at hd
            have : (0 : UInt8).toNat = 0 := rfl
            omega
          · exact h0 hpre e0
        · rw [List.cons_append, decVal, hd, hc]
          omega
theorem rd_var (n : Nat) (hF : Fit n) (t : List UInt8) : rd (varBytes n ++ t) = (n, (varBytes n).length, true) := by
  obtain ⟨pre, z, e, hp, hz, h0, hd⟩ := varBytes_shape n n (Nat.le_refl _)
  have h9 : (varBytes n).length ≤ 9 := by
    unfold varBytes
    rw [List.length_map]
    exact varNums_len9 n (by unfold Fit at hF; exact hF)
  have hl : (varBytes n).length = pre.length + 1 := by rw [e]; simp
  have hkl : pre.length < (varBytes n ++ t).length := by rw [List.length_append]; omega
  have hat : (varBytes n ++ t).getD pre.length 0 = z := by rw [e, List.getD_eq_getElem?_getD]; simp
  have hG : Goes (varBytes n ++ t) pre.length := by
    refine ⟨by omega, by omega, fun j hj => ?_⟩
    have : (varBytes n ++ t).getD j 0 = pre[j] := by
      rw [e, List.getD_eq_getElem?_getD, List.append_assoc, List.getElem?_append_left hj, List.getElem?_eq_getElem hj]
      rfl
    rw [this]
    exact hp _ (List.getElem_mem hj)
  have hz0 : ¬ (pre.length ≠ 0 ∧ (varBytes n ++ t).getD pre.length 0 = 0) := by
    rw [hat]
    rintro ⟨h1, h2⟩
    exact h0 (fun h => h1 (by rw [h]; rfl)) h2
  rw [rd_good hG hkl (by omega) (by rw [hat]; exact hz) hz0]
  have ht : (varBytes n ++ t).take (pre.length + 1) = varBytes n := by rw [← hl, List.take_left]
  rw [ht, hl, e, hd]
theorem rd_back {l : List UInt8} (h : (rd l).2.2 = true) : varBytes (rd l).1 = l.take (rd l).2.1 ∧ Fit (rd l).1 := by
  by_cases h1 : rdIdx l < (l.take 9).length
  · by_cases h2 : rdIdx l ≠ 0 ∧ l.getD (rdIdx l) 0 = 0
    · unfold rd at h
      rw [if_pos h1, if_pos h2] at h
      cases h
    · have hl : rdIdx l < l.length ∧ rdIdx l < 9 := by rw [List.length_take] at h1; omega
      have hb : (l.getD (rdIdx l) 0).toNat < 128 := by
        have : decide (((l.take 9)[rdIdx l]'h1).toNat < 128) = true := List.findIdx_getElem (w := h1)
        rw [decide_eq_true_eq, List.getElem_take] at this
        rw [getD_at hl.1]
        exact this
      have hG : Goes l (rdIdx l) := by
        refine ⟨by omega, by omega, fun j hj => ?_⟩
        have := List.not_of_lt_findIdx (p := fun b : UInt8 => decide (b.toNat < 128)) (xs := l.take 9) hj
        rw [List.getElem_take] at this
        rw [getD_at (by omega)]
        simpa using this
      have e := rd_good hG hl.1 hl.2 hb h2
      have hs := short_iff hG hl.1 hb
      rw [decide_eq_false h2, Bool.not_false, beq_iff_eq] at hs
      rw [e]
      exact ⟨hs, dec_fit _ hl.2⟩
  · unfold rd at h
    rw [if_neg h1] at h
    cases h
theorem strVar_list (n : Nat) : (strOfNums (varNums n)).data.toList = varBytes n := by rw [strOfNums_data]; rfl
theorem bytes_ext {a b : ByteArray} (h : a.data.toList = b.data.toList) : a = b := by
  cases a; cases b
  simp only [ByteArray.mk.injEq]
  exact Array.toList_inj.1 h
theorem text_rd (s t : ByteArray) (h : s.size ≤ 4000) : rd (textBytes s ++ t).data.toList = (s.size, (varBytes s.size).length, true) := by
  have e : (textBytes s ++ t).data.toList = varBytes s.size ++ (s.data.toList ++ t.data.toList) := by
    unfold textBytes
    simp [strVar_list, ByteArray.data_append]
  rw [e, rd_var _ (by unfold Fit; omega)]
theorem text_size (s : ByteArray) : (textBytes s).size = (varBytes s.size).length + s.size := by
  unfold textBytes
  rw [ByteArray.size_append, Lib.size_eq (strOfNums _), strVar_list]
theorem text_there (s t : ByteArray) (h : s.size ≤ 4000) : TxtOk (textBytes s ++ t) ∧ txtEnd (textBytes s ++ t) = (textBytes s).size ∧ txt (textBytes s ++ t) = s := by
  have e := text_rd s t h
  have hz := text_size s
  have he : txtEnd (textBytes s ++ t) = (textBytes s).size := by unfold txtEnd; rw [e, hz]
  refine ⟨⟨by rw [e], by rw [e]; exact h, by rw [e, ByteArray.size_append]; simp only; omega⟩, he, ?_⟩
  unfold txt
  rw [he, e]
  refine bytes_ext ?_
  rw [ByteArray.data_extract]
  have e2 : (textBytes s ++ t).data.toList = varBytes s.size ++ (s.data.toList ++ t.data.toList) := by
    unfold textBytes
    simp [strVar_list, ByteArray.data_append]
  rw [Array.toList_extract, List.extract_eq_take_drop, e2, List.drop_left, hz, Nat.add_sub_cancel_left, Lib.size_eq, List.take_left]
theorem text_again {t : ByteArray} (h : TxtOk t) : textBytes (txt t) = t.extract 0 (txtEnd t) ∧ (txt t).size ≤ 4000 ∧ txtEnd t ≤ t.size := by
  obtain ⟨h1, h2, h3⟩ := h
  obtain ⟨hb, hF⟩ := rd_back h1
  have hz : (txt t).size = (rd t.data.toList).1 := by
    unfold txt txtEnd
    rw [ByteArray.size_extract]
    omega
  refine ⟨?_, by omega, h3⟩
  refine bytes_ext ?_
  unfold textBytes
  rw [hz, ByteArray.data_append, Array.toList_append, strVar_list, hb]
  unfold txt txtEnd
  rw [ByteArray.data_extract, ByteArray.data_extract, Array.toList_extract, Array.toList_extract, List.extract_eq_take_drop, List.extract_eq_take_drop, List.drop_zero, Nat.sub_zero, Nat.add_sub_cancel_left, List.take_add]
end Go.Proofs.YtialoobnjfbboaaDoor
