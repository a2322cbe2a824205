/- The walk of the law FnVars. -/
import Derived.Deep.DeepCutAuto
import Derived.Test.YtjcfekljdkaaiaaDoorVarDrawW
namespace Go.Proofs.YtjcfekljdkaaiaaDoor
open Go.RowKit

/-- What VarOf returns. -/
def varT (n : Int) : ByteArray := if n < 0 then ⟨#[]⟩ else strOfNums (varNums n.toNat)
theorem implVarT (n : Int) (h : InR n) (w : World) : Calls Tryd.prog 12 #[.int .i64 n] w fun e w' => e = .returned (.string (varT n)) ∧ Below w.heap.size w w' := by
  unfold varT
  by_cases h0 : n < 0
  · rw [if_pos h0]
    exact (implVarNeg n h0 w).mono fun e w' ⟨he, hw⟩ => ⟨he, hw ▸ Below.refl _ _⟩
  · rw [if_neg h0]
    obtain ⟨N, rfl⟩ := Int.eq_ofNat_of_zero_le (Int.not_lt.1 h0)
    have hF : Fit N := by have := inR_fit h (Int.not_lt.1 h0); rwa [Int.toNat_natCast] at this
    rw [Int.toNat_natCast]
    exact implVar N hF w
theorem specVarT (n : Int) (h : InR n) (w : World) : Calls Tryd.prog 16 #[.int .i64 n] w fun e w' => e = .returned (.string (varT n)) ∧ Below w.heap.size w w' := by
  unfold varT
  by_cases h0 : n < 0
  · rw [if_pos h0]
    exact (specVarNeg n h0 w).mono fun e w' ⟨he, hw⟩ => ⟨he, hw ▸ Below.refl _ _⟩
  · rw [if_neg h0]
    obtain ⟨N, rfl⟩ := Int.eq_ofNat_of_zero_le (Int.not_lt.1 h0)
    have hF : Fit N := by have := inR_fit h (Int.not_lt.1 h0); rwa [Int.toNat_natCast] at this
    rw [Int.toNat_natCast]
    exact specVar N hF w
theorem varT_size (n : Int) (h : InR n) : (varT n).size ≤ 9 := by
  unfold varT
  by_cases h0 : n < 0
  · rw [if_pos h0]; decide
  · rw [if_neg h0, strOfNums_size]
    have := inR_fit h (Int.not_lt.1 h0)
    exact varNums_len9 _ (by unfold Fit at this; exact this)
theorem varT_rd (n : Int) (h : InR n) (h0 : ¬ n < 0) (t : ByteArray) : rd (varT n ++ t).data.toList = (n.toNat, (varT n).size, true) := by
  unfold varT
  rw [if_neg h0]
  have e : (strOfNums (varNums n.toNat) ++ t).data.toList = varBytes n.toNat ++ t.data.toList := by simp [strVar_list, ByteArray.data_append]
  rw [e, rd_var _ (inR_fit h (Int.not_lt.1 h0)), Lib.size_eq, strVar_list]
theorem rd_again {t : ByteArray} (h : (rd t.data.toList).2.2 = true) : varT ((rd t.data.toList).1 : Int) = t.extract 0 (rd t.data.toList).2.1 ∧ InR ((rd t.data.toList).1 : Int) := by
  obtain ⟨hb, hF⟩ := rd_back h
  refine ⟨?_, by unfold Fit at hF; unfold InR; omega⟩
  unfold varT
  rw [if_neg (by omega), Int.toNat_natCast]
  refine bytes_ext ?_
  rw [strVar_list, hb, ByteArray.data_extract, Array.toList_extract, List.extract_eq_take_drop, List.drop_zero, Nat.sub_zero]
theorem implReadT (s : ByteArray) (w : World) (u : TypeId) (x : Value) (hs : s.size ≤ 1048576) (hE : Sent w u x) (n k : Nat) (b : Bool) (hr : rd s.data.toList = (n, k, b)) :
    Calls Tryd.prog 14 #[.string s] w fun e w' => e = .returned (.tuple #[.int .i64 (n : Int), .int .i64 (k : Int), .bool b]) ∧ Below w.heap.size w w' :=
  (implRead s w u x hs hE).mono fun e w' ⟨he, hb⟩ => ⟨by rw [he, hr], hb⟩
theorem specReadT (s : ByteArray) (w : World) (n k : Nat) (b : Bool) (hr : rd s.data.toList = (n, k, b)) :
    Calls Tryd.prog 15 #[.string s] w fun e w' => e = .returned (.tuple #[.int .i64 (n : Int), .int .i64 (k : Int), .bool b]) ∧ Below w.heap.size w w' :=
  (specRead s w).mono fun e w' ⟨he, hb⟩ => ⟨by rw [he, hr], hb⟩

set_option maxRecDepth 100000 in
set_option maxHeartbeats 8000000 in
theorem fnVarsWalk (a : Option Addr) (len cap : Nat) (zs : List Int) (w : World) (u : TypeId) (x : Value) (hE : Sent w u x) (h : IsRow .u8 w a len cap zs) : Calls Tryd.prog 3 #[.slice a len cap] w fun e w' => e = .returned (.bool true) ∧ Below w.heap.size w w' := by
  have HE := Lib.hid hE
  clear hE
  by_cases hbig : len ≤ 1048576
  rotate_left
  · go_enter Tryd.func3, Tryd.ntmps3
    go_wp2_with fail
    refine (bigYes a len cap hbig w).mono ?_
    rintro e w' ⟨rfl, rfl⟩
    go_wp2
    go_ret
    exact ⟨rfl, Below.refl _ _⟩
  have HS := Lib.hid (src_of_row h hbig)
  clear h
  go_enter Tryd.func3, Tryd.ntmps3
  go_wp2_with fail
  refine (bigNo a len cap hbig w).mono ?_
  rintro e w' ⟨rfl, rfl⟩
  go_wp2_with fail
  refine (drawVarOf w a len cap HS.out).mono ?_
  rintro e w1 ⟨n, hn, rfl, hb1⟩
  have HN := Lib.hid hn
  clear hn
  go_wp2_with fail
  refine (implVarT n HN.out w1).mono ?_
  rintro e w2 ⟨rfl, hb2⟩
  have hB2 : Below w.heap.size w w2 := hb1.trans (hb2.mono hb1.size)
  clear hb1 hb2
  have hsz := varT_size n HN.out
  have HSp := Lib.hid (fun w => specVarT n HN.out w)
  have HRd := Lib.hid (fun (h0 : 0 ≤ n) t => varT_rd n HN.out (Int.not_lt.2 h0) t)
  have HNeg : Hid (n < 0 → varT n = ⟨#[]⟩) := fun h => by show varT n = _; unfold varT; rw [if_pos h]
  generalize varT n = s at hsz HSp HRd HNeg ⊢
  go_wp2_with fail
  refine (drawReadVar w2 a len cap (src_wide (src_below HS.out hB2) hB2.size)).mono ?_
  rintro e w3 ⟨t, ht, rfl, hb3⟩
  have hB3 : Below w.heap.size w w3 := hB2.trans (hb3.mono hB2.size)
  clear hb3 hB2
  rcases hr : rd t.data.toList with ⟨m, k, b⟩
  have HA : Hid (b = true → varT (m : Int) = t.extract 0 k ∧ InR (m : Int)) := fun hb => by have := rd_again (t := t) (by rw [hr]; exact hb); rw [hr] at this; exact this
  have hk : k ≤ t.size := by have := rd_le t.data.toList; rw [hr, ← Lib.size_eq] at this; exact this
  have HY := Lib.hid (fun w hE' => implReadT t w u x (by omega) hE' m k b hr)
  have HZ := Lib.hid (fun w => specReadT t w m k b hr)
  clear hr
  have hst : (s ++ t).size ≤ 1048576 := by rw [ByteArray.size_append]; omega
  have hst2 : s.size + t.size ≤ 1048576 := by omega
  rcases hj : rd (s ++ t).data.toList with ⟨m2, k2, b2⟩
  have HJ := Lib.hid (fun w hE' => implReadT (s ++ t) w u x hst hE' m2 k2 b2 hj)
  have HP : Hid (0 ≤ n → (m2 : Int) = n ∧ k2 = s.size ∧ b2 = true) := fun h0 => by
    have := HRd.out h0 t
    rw [hj] at this
    simp only [Prod.mk.injEq] at this
    exact ⟨by omega, this.2.1, this.2.2⟩
  clear hj HRd
  go_wp2_with fail
  refine (HY.out _ (HE.out.below hB3)).mono ?_
  rintro e w4 ⟨rfl, hb4⟩
  have hB4 : Below w.heap.size w w4 := hB3.trans (hb4.mono hB3.size)
  clear hb4 hB3 HY
  go_wp2_with fail
  refine (HZ.out _).mono ?_
  rintro e w5 ⟨rfl, hb5⟩
  have hB5 : Below w.heap.size w w5 := hB4.trans (hb5.mono hB4.size)
  clear hb5 hB4 HZ
  have HB5 := Lib.hid hB5
  clear hB5
  have hk0 : (0 : Int) ≤ (k : Int) := by omega
  have hk1 : (k : Int) ≤ (t.size : Int) := by omega
  go_upto_region 8 with fail
  go_cut [64] (fun c wx => c = .bool false ∧ Hid (Below w.heap.size w wx))
  case first =>
    cases b
    · first | (go_region_held (fun _ => True) (trivial) (first | (go_at_call 16; refine (HSp.out _).mono ?_; rintro e w7 ⟨rfl, hb7⟩))) | fail
      all_goals go_wp2_with fail
      all_goals go_meet
      all_goals exact ⟨rfl, HB5.out.trans ((Below.mk hb7.os hb7.tape hb7.output hb7.size hb7.block : Below w5.heap.size w5 w7).mono HB5.out.size)⟩
    · obtain ⟨hv1, hv2⟩ := HA.out rfl
      have HV := Lib.hid (fun w => implVarT (m : Int) hv2 w)
      rw [hv1] at HV
      clear hv1 hv2
      go_region_held3 (fun _ => True) (trivial) (first | (go_at_call 16; refine (HSp.out _).mono ?_; rintro e w7 ⟨rfl, hb7⟩) | (go_at_call 12; refine (HV.out _).mono ?_; rintro e w8 ⟨rfl, hb8⟩))
      all_goals go_wp2_with fail
      all_goals go_meet
      all_goals (have hB7 : Below w.heap.size w w7 := HB5.out.trans ((Below.mk hb7.os hb7.tape hb7.output hb7.size hb7.block : Below w5.heap.size w5 w7).mono HB5.out.size); exact ⟨rfl, hB7.trans (hb8.mono hB7.size)⟩)
  case rest =>
    obtain ⟨rfl, HBx⟩ := hcut
    go_wp2_with fail
    refine (HJ.out _ (HE.out.below HBx.out)).mono ?_
    rintro e w9 ⟨rfl, hb9⟩
    have HB9 := Lib.hid (HBx.out.trans (hb9.mono HBx.out.size))
    clear hb9 HJ
    by_cases h0 : n < 0
    · have hs0 := HNeg.out h0
      subst hs0
      have hd : decide (n < 0) = true := decide_eq_true h0
      go_wp2
      go_ret
      exact ⟨rfl, HB9.out⟩
    · obtain ⟨h1, h2, h3⟩ := HP.out (Int.not_lt.1 h0)
      subst h1 h2 h3
      have hd : decide ((m2 : Int) < 0) = false := decide_eq_false (by omega)
      go_wp2
      go_ret
      exact ⟨rfl, HB9.out⟩
end Go.Proofs.YtjcfekljdkaaiaaDoor
