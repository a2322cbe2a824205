/- The walks of the laws FnSealSum, FnSealed, FnOneBit. -/
import Derived.Test.YtbnfmgbailfbgaaDrawW
import Derived.Test.YtbnfmgbailfbgaaUnsealW
namespace Go.Proofs.Ytbnfmgbailfbgaa
open Go.RowKit

theorem bigNo (a : Option Addr) (len cap : Nat) (h : len ≤ 1048576) (w : World) :
    Calls Try.prog 11 #[.slice a len cap] w fun e w' => e = .returned (.bool false) ∧ w = w' := by
  have hd : decide ((1048576 : Int) < (len : Int)) = false := decide_eq_false (by omega)
  go_enter Try.func11, Try.ntmps11
  go_wp2
  go_ret
  exact ⟨rfl, rfl⟩
theorem bigYes (a : Option Addr) (len cap : Nat) (h : ¬ len ≤ 1048576) (w : World) :
    Calls Try.prog 11 #[.slice a len cap] w fun e w' => e = .returned (.bool true) ∧ w = w' := by
  have hd : decide ((1048576 : Int) < (len : Int)) = true := decide_eq_true (by omega)
  go_enter Try.func11, Try.ntmps11
  go_wp2
  go_ret
  exact ⟨rfl, rfl⟩

theorem u8_of (c d : Nat) : (UInt8.ofNat ((c : Int) / (d : Int) % 256).toNat).toNat = c / d % 256 := by
  have e : ((c : Int) / (d : Int) % 256).toNat = c / d % 256 := by
    rw [show ((c : Int) / (d : Int) % 256) = ((c / d % 256 : Nat) : Int) by simp]
    exact Int.toNat_natCast _
  rw [e, UInt8.toNat_ofNat']
  omega
/-- A sealed string, byte by byte. -/
theorem seal_byte (s b : ByteArray) (hb : b = s ++ sealStr s) (k : Nat) (hk : k < b.size) (h0 : s.size ≤ k) : b[k].toNat = crc s.data.toList / 256 ^ (s.size + 3 - k) % 256 := by
  subst hb
  have hz : (s ++ sealStr s).size = s.size + 4 := by rw [ByteArray.size_append, sealStr_size]
  have e : (s ++ sealStr s)[k] = (sealStr s)[k - s.size]'(by rw [sealStr_size]; omega) := ByteArray.getElem_append_right h0
  rw [e]
  obtain ⟨j, rfl⟩ : ∃ j, k = s.size + j := ⟨k - s.size, by omega⟩
  have hj : j < 4 := by omega
  simp only [Nat.add_sub_cancel_left]
  match j, hj with
  | 0, _ => rw [show s.size + 3 - (s.size + 0) = 3 by omega]; exact u8_of (crc s.data.toList) 16777216
  | 1, _ => rw [show s.size + 3 - (s.size + 1) = 2 by omega]; exact u8_of (crc s.data.toList) 65536
  | 2, _ => rw [show s.size + 3 - (s.size + 2) = 1 by omega]; exact u8_of (crc s.data.toList) 256
  | 3, _ =>
    rw [show s.size + 3 - (s.size + 3) = 0 by omega]
    have := u8_of (crc s.data.toList) 1
    simp only [Int.cast_ofNat_Int, Int.ediv_one, Nat.div_one] at this
    rw [Nat.pow_zero, Nat.div_one]
    exact this
/-- The number that the law FnSealSum has gathered when it has come to place k. -/
def sealPart (s : ByteArray) (k : Nat) : Nat := crc s.data.toList / 256 ^ (s.size + 4 - k)
theorem sealPart_step (s b : ByteArray) (hb : b = s ++ sealStr s) (k : Nat) (hk : k < b.size) (h0 : s.size ≤ k) : 256 * (sealPart s k : Int) + (b[k].toNat : Int) = (sealPart s (k + 1) : Int) := by
  rw [seal_byte s b hb k hk h0]
  have hz : b.size = s.size + 4 := by rw [hb, ByteArray.size_append, sealStr_size]
  unfold sealPart
  rw [show s.size + 4 - k = (s.size + 3 - k) + 1 by omega, show s.size + 4 - (k + 1) = s.size + 3 - k by omega, Nat.pow_succ, ← Nat.div_div_eq_div_mul]
  omega
theorem sealPart_lt (s : ByteArray) (k : Nat) : sealPart s k < 4294967296 := Nat.lt_of_le_of_lt (Nat.div_le_self _ _) (crc_lt _)
theorem sealPart_zero (s : ByteArray) : sealPart s s.size = 0 := by
  unfold sealPart
  rw [show s.size + 4 - s.size = 4 by omega]
  exact Nat.div_eq_of_lt (crc_lt _)
theorem sealPart_end (s : ByteArray) : sealPart s (s.size + 4) = crc s.data.toList := by
  unfold sealPart
  rw [Nat.sub_self, Nat.pow_zero, Nat.div_one]
def Small (n : Nat) : Prop := n < 4294967296
theorem wrap_part {n : Nat} (z : Nat) (h : Small n) (hz : z < 256) : wrap64 (wrap64 (256 * (n : Int)) + wrap64 (z : Int)) = 256 * (n : Int) + (z : Int) := by
  unfold Small at h
  simp only [wrap64]
  omega

set_option maxRecDepth 100000 in
set_option maxHeartbeats 400000 in
theorem fnSealSumWalk (a : Option Addr) (len cap : Nat) (zs : List Int) (w : World) (h : IsRow .u8 w a len cap zs) :
    Calls Try.prog 5 #[.slice a len cap] w fun e w' => e = .returned (.bool true) ∧ Below w.heap.size w w' := by
  by_cases hbig : len ≤ 1048576
  · have hsrc := Lib.hid (src_of_row h hbig)
    clear h
    go_enter Try.func5, Try.ntmps5
    go_wp2_with fail
    refine (bigNo a len cap hbig w).mono ?_
    rintro e w' ⟨rfl, rfl⟩
    go_wp2_with fail
    refine (drawSealed w w.heap.size a len cap (Nat.le_refl _) hsrc.out).mono ?_
    rintro e w1 ⟨s, hs, rfl, hb1⟩
    go_wp2_with fail
    refine (implSealed s (by omega) w1).mono ?_
    rintro e w2 ⟨rfl, hb2⟩
    go_wp2_with fail
    refine (specSealed s (by omega) w2).mono ?_
    rintro e w3 ⟨rfl, hb3⟩
    have hbel : Below w.heap.size w w3 := (hb1.trans (hb2.mono hb1.size)).trans (hb3.mono (Nat.le_trans hb1.size hb2.size))
    have HB : Hid (∃ b, b = s ++ sealStr s) := ⟨_, rfl⟩
    obtain ⟨b, hbe⟩ := HB
    have hz : b.size = s.size + 4 := by rw [hbe, ByteArray.size_append, sealStr_size]
    rw [← hbe]
    have HE := Lib.hid hbe
    have HZ := Lib.hid hz
    have hz1 : ((b.size : Int) != (s.size : Int) + 4) = false := by rw [hz]; simp
    have hz2 : b.size ≤ 100 := by omega
    clear hb1 hb2 hb3 hbe hz
    go_wp2
    go_loop [5, 6] (fun n i => ∃ k : Nat, s.size ≤ k ∧ k ≤ b.size ∧ i = .int .i64 k ∧ n = .int .i64 (sealPart s k : Nat)) (fun _ i => b.size - (intOf i).toNat)
    case atStart => exact ⟨s.size, Nat.le_refl _, by have := HZ.out; omega, rfl, by rw [sealPart_zero]; rfl⟩
    case round =>
      obtain ⟨k, hk0, hk, rfl, rfl⟩ := hrel
      by_cases hlt : k < b.size
      · have HS := Lib.hid (sealPart_step s b HE.out k hlt hk0)
        have hP : Small (sealPart s k) := sealPart_lt s k
        go_wp2
        go_round
        case rel => exact ⟨k + 1, by omega, by omega, by go_num, by rw [wrap_part _ hP b[k].toNat_lt, HS.out]⟩
        case measure => simp [intOf]; omega
      · have HK : Hid (k = s.size + 4) := by have := HZ.out; show k = s.size + 4; omega
        have HP : Hid (sealPart s k = crc s.data.toList) := by rw [HK.out]; exact sealPart_end s
        go_wp2_with fail
        refine (implSum s (by omega) w3).mono ?_
        rintro e w4 ⟨rfl, hb4⟩
        have ht : ((sealPart s k : Int) == (crc s.data.toList : Int)) = true := by rw [HP.out]; simp
        go_wp2
        go_ret
        exact ⟨rfl, hbel.trans (hb4.mono hbel.size)⟩
  · go_enter Try.func5, Try.ntmps5
    go_wp2_with fail
    refine (bigYes a len cap hbig w).mono ?_
    rintro e w' ⟨rfl, rfl⟩
    go_wp2
    go_ret
    exact ⟨rfl, Below.refl _ _⟩

/-- What Unsealed answers, plainly. -/
def unsealOk (t : ByteArray) : Bool := decide (4 ≤ t.size) && decide (t.size ≤ 16004) && ((sealStr (t.extract 0 (t.size - 4))).toList == (t.extract (t.size - 4) t.size).toList)
def unsealStr (t : ByteArray) : ByteArray := if unsealOk t = true then t.extract 0 (t.size - 4) else ByteArray.empty
def Unseals (t : ByteArray) (w : World) (e : Ending) (w' : World) : Prop := e = .returned (.tuple #[.string (unsealStr t), .bool (unsealOk t)]) ∧ Below w.heap.size w w'

theorem unseal_no {t : ByteArray} (h : unsealOk t = false) : unsealStr t = ByteArray.empty := by unfold unsealStr; rw [h]; rfl
theorem unseal_yes {t : ByteArray} (h : unsealOk t = true) : unsealStr t = t.extract 0 (t.size - 4) := by unfold unsealStr; rw [if_pos h]
theorem ok_short {t : ByteArray} (h : t.size < 4) : unsealOk t = false := by unfold unsealOk; rw [decide_eq_false (by omega)]; rfl
theorem ok_long {t : ByteArray} (h : 16004 < t.size) : unsealOk t = false := by unfold unsealOk; rw [decide_eq_false (p := t.size ≤ 16004) (by omega)]; simp
theorem ok_is {t : ByteArray} (n : Nat) (hn : t.size = n + 4) (h : n ≤ 16000) : unsealOk t = ((sealStr (t.extract 0 n)).toList == (t.extract n t.size).toList) := by
  unfold unsealOk
  rw [decide_eq_true (p := 4 ≤ t.size) (by omega), decide_eq_true (p := t.size ≤ 16004) (by omega), show t.size - 4 = n by omega]
  rfl

theorem implUnsealedAny (t : ByteArray) (ht : t.size ≤ 1048576) (w : World) : Calls Try.prog 14 #[.string t] w (Unseals t w) := by
  by_cases h4 : t.size < 4
  · refine (implUnsealedShort t h4 w).mono ?_
    rintro e w' ⟨rfl, hb⟩
    exact ⟨by rw [unseal_no (ok_short h4), ok_short h4], hb⟩
  · obtain ⟨n, hn⟩ : ∃ n, t.size = n + 4 := ⟨t.size - 4, by omega⟩
    by_cases hl : n ≤ 16000
    · have hk := ok_is n hn hl
      cases hB : ((sealStr (t.extract 0 n)).toList == (t.extract n t.size).toList)
      · rw [hB] at hk
        refine (implUnsealedNot t n (Lib.hid hn) hl (by rw [hB]; rfl) w).mono ?_
        rintro e w' ⟨rfl, hb⟩
        exact ⟨by rw [unseal_no hk, hk], hb⟩
      · rw [hB] at hk
        refine (implUnsealed t n (Lib.hid hn) hl (by rw [hB]; rfl) w).mono ?_
        rintro e w' ⟨rfl, hb⟩
        exact ⟨by rw [unseal_yes hk, hk, show t.size - 4 = n by omega], hb⟩
    · refine (implUnsealedLong t n (Lib.hid hn) hl ht w).mono ?_
      rintro e w' ⟨rfl, hb⟩
      exact ⟨by rw [unseal_no (ok_long (by omega)), ok_long (by omega)], hb⟩
theorem specUnsealedAny (t : ByteArray) (ht : t.size ≤ 1048576) (w : World) : Calls Try.prog 16 #[.string t] w (Unseals t w) := by
  by_cases h4 : t.size < 4
  · refine (specUnsealedShort t h4 w).mono ?_
    rintro e w' ⟨rfl, hb⟩
    exact ⟨by rw [unseal_no (ok_short h4), ok_short h4], hb⟩
  · obtain ⟨n, hn⟩ : ∃ n, t.size = n + 4 := ⟨t.size - 4, by omega⟩
    by_cases hl : n ≤ 16000
    · have hk := ok_is n hn hl
      have hsi := seal_iff t n hn
      cases hB : ((sealStr (t.extract 0 n)).toList == (t.extract n t.size).toList)
      · rw [hB] at hk hsi
        refine (specUnsealedNot t n (Lib.hid hn) hl (by rw [hsi]; rfl) w).mono ?_
        rintro e w' ⟨rfl, hb⟩
        exact ⟨by rw [unseal_no hk, hk], hb⟩
      · rw [hB] at hk hsi
        refine (specUnsealed t n (Lib.hid hn) hl (by rw [hsi]; rfl) w).mono ?_
        rintro e w' ⟨rfl, hb⟩
        exact ⟨by rw [unseal_yes hk, hk, show t.size - 4 = n by omega], hb⟩
    · refine (specUnsealedLong t n (Lib.hid hn) hl ht w).mono ?_
      rintro e w' ⟨rfl, hb⟩
      exact ⟨by rw [unseal_no (ok_long (by omega)), ok_long (by omega)], hb⟩

/-- What is accepted is the Sealed of what is answered. -/
theorem unseal_back {t : ByteArray} (h : unsealOk t = true) : unsealStr t ++ sealStr (unsealStr t) = t ∧ (unsealStr t).size ≤ 16000 := by
  have h' := h
  unfold unsealOk at h'
  simp only [Bool.and_eq_true, decide_eq_true_eq] at h'
  obtain ⟨⟨h4, hl⟩, hB⟩ := h'
  have hsi := seal_iff t (t.size - 4) (by omega)
  rw [hB, beq_iff_eq, Lib.toList_data, Lib.toList_data] at hsi
  rw [unseal_yes h]
  exact ⟨by apply ByteArray.ext; exact Array.toList_inj.1 hsi, by rw [ByteArray.size_extract]; omega⟩
/-- What is sealed is accepted, and comes back. -/
theorem unseal_sealed (s : ByteArray) (hs : s.size ≤ 16000) : unsealOk (s ++ sealStr s) = true ∧ unsealStr (s ++ sealStr s) = s := by
  have hz : (s ++ sealStr s).size = s.size + 4 := by rw [ByteArray.size_append, sealStr_size]
  have e0 : (s ++ sealStr s).extract 0 s.size = s := by
    apply ByteArray.ext; apply Array.toList_inj.1
    rw [Lib.extract_data, Joins.data_append, List.drop_zero, Nat.sub_zero, List.take_append_of_le_length (by rw [← Lib.size_eq]; exact Nat.le_refl _), List.take_of_length_le (by rw [← Lib.size_eq]; exact Nat.le_refl _)]
  have hok : unsealOk (s ++ sealStr s) = true := by
    rw [ok_is s.size hz hs, ← seal_iff _ s.size hz, e0, beq_self_eq_true]
  exact ⟨hok, by rw [unseal_yes hok, hz, Nat.add_sub_cancel, e0]⟩

set_option maxRecDepth 100000 in
set_option maxHeartbeats 1000000 in
theorem fnSealedWalk (a : Option Addr) (len cap : Nat) (zs : List Int) (w : World) (h : IsRow .u8 w a len cap zs) :
    Calls Try.prog 3 #[.slice a len cap] w fun e w' => e = .returned (.bool true) ∧ Below w.heap.size w w' := by
  by_cases hbig : len ≤ 1048576
  · have hsrc := Lib.hid (src_of_row h hbig)
    clear h
    go_enter Try.func3, Try.ntmps3
    go_wp2_with fail
    refine (bigNo a len cap hbig w).mono ?_
    rintro e w' ⟨rfl, rfl⟩
    go_wp2_with fail
    refine (drawSealed w w.heap.size a len cap (Nat.le_refl _) hsrc.out).mono ?_
    rintro e w1 ⟨s, hs, rfl, hb1⟩
    go_wp2_with fail
    refine (implSealed s (by omega) w1).mono ?_
    rintro e w2 ⟨rfl, hb2⟩
    have hB2 : Below w.heap.size w w2 := hb1.trans (hb2.mono hb1.size)
    clear hb1 hb2
    obtain ⟨hok, hstr⟩ := unseal_sealed s (by omega)
    have HB : Hid (∃ b, b = s ++ sealStr s) := ⟨_, rfl⟩
    obtain ⟨b, hbe⟩ := HB
    have hz : b.size = s.size + 4 := by rw [hbe, ByteArray.size_append, sealStr_size]
    rw [← hbe] at hok hstr ⊢
    have HE := Lib.hid hbe
    have HZ := Lib.hid hz
    have HK := Lib.hid hok
    have HT := Lib.hid hstr
    clear hbe hz hok hstr
    go_wp2_with fail
    refine (implUnsealedAny b (by have := HZ.out; omega) w2).mono ?_
    rintro e w3 ⟨rfl, hb3⟩
    have hB3 : Below w.heap.size w w3 := hB2.trans (hb3.mono hB2.size)
    clear hb3 hB2
    rw [HK.out, HT.out]
    go_wp2_with fail
    refine (drawUnsealed w3 w.heap.size a len cap hB3.size (src_below hsrc.out hB3)).mono ?_
    rintro e w4 ⟨t, ht, rfl, hb4⟩
    have hB4 : Below w.heap.size w w4 := hB3.trans (hb4.mono hB3.size)
    clear hb4 hB3
    go_wp2_with fail
    refine (implUnsealedAny t (by omega) w4).mono ?_
    rintro e w5 ⟨rfl, hb5⟩
    have hB5 : Below w.heap.size w w5 := hB4.trans (hb5.mono hB4.size)
    clear hb5 hB4
    go_wp2_with fail
    refine (specUnsealedAny t (by omega) w5).mono ?_
    rintro e w6 ⟨rfl, hb6⟩
    have hB6 : Below w.heap.size w w6 := hB5.trans (hb6.mono hB5.size)
    clear hb6 hB5
    have HY : Hid (∃ y, y = unsealStr t) := ⟨_, rfl⟩
    obtain ⟨y, hy⟩ := HY
    rw [← hy]
    have HYY := Lib.hid hy
    clear hy
    go_wp2_with fail
    refine (drawSum w6 w.heap.size a len cap hB6.size (src_below hsrc.out hB6)).mono ?_
    rintro e w7 ⟨u, hu, rfl, hb7⟩
    have hB7 : Below w.heap.size w w7 := hB6.trans (hb7.mono hB6.size)
    clear hb7 hB6
    go_wp2_with fail
    refine (specSealed s (by omega) w7).mono ?_
    rintro e w8 ⟨rfl, hb8⟩
    have hB8 : Below w.heap.size w w8 := hB7.trans (hb8.mono hB7.size)
    clear hb8 hB7
    rw [← HE.out]
    have hz1 : ((b.size : Int) == (s.size : Int) + 4) = true := by rw [HZ.out]; simp
    have hz2 : b.size ≤ 16 := by have := HZ.out; omega
    cases hf : unsealOk t
    · clear hf
      go_wp2_with fail
      refine (implSum u (by omega) w8).mono ?_
      rintro e w9 ⟨rfl, hb9⟩
      go_wp2_with fail
      refine (specSum u (by omega) w9).mono ?_
      rintro e w10 ⟨rfl, rfl⟩
      go_wp2
      go_ret
      exact ⟨rfl, hB8.trans (hb9.mono hB8.size)⟩
    · have hback := unseal_back hf
      rw [← HYY.out] at hback
      obtain ⟨hy1, hy2⟩ := hback
      have HY1 := Lib.hid hy1
      clear hf hy1
      go_wp2_with fail
      refine (implSealed y hy2 w8).mono ?_
      rintro e w9 ⟨rfl, hb9⟩
      have hB9 : Below w.heap.size w w9 := hB8.trans (hb9.mono hB8.size)
      rw [HY1.out]
      clear hb9 hB8
      go_wp2_with fail
      refine (implSum u (by omega) w9).mono ?_
      rintro e w10 ⟨rfl, hb10⟩
      go_wp2_with fail
      refine (specSum u (by omega) w10).mono ?_
      rintro e w11 ⟨rfl, rfl⟩
      go_wp2
      go_ret
      exact ⟨rfl, hB9.trans (hb10.mono hB9.size)⟩
  · go_enter Try.func3, Try.ntmps3
    go_wp2_with fail
    refine (bigYes a len cap hbig w).mono ?_
    rintro e w' ⟨rfl, rfl⟩
    go_wp2
    go_ret
    exact ⟨rfl, Below.refl _ _⟩
end Go.Proofs.Ytbnfmgbailfbgaa
