/- The walk of impl's wireReader.number. -/
import Derived.Test.YtialoobnjfbboaaDoorWireW
namespace Go.Proofs.YtialoobnjfbboaaDoor
open Go.RowKit

theorem i64_or_nat (a b : Nat) (ha : a < 9223372036854775808) (hb : b < 9223372036854775808) : bits .or .i64 (a : Int) (b : Int) = ((a ||| b : Nat) : Int) := by
  have ho : a ||| b < 2 ^ 63 := Nat.or_lt_two_pow ha hb
  have e1 : (BitVec.ofInt 64 (a : Int)).toNat = a := ofInt_u64 a (by omega)
  have e2 : (BitVec.ofInt 64 (b : Int)).toNat = b := ofInt_u64 b (by omega)
  have key : (BitVec.ofInt 64 (a : Int) ||| BitVec.ofInt 64 (b : Int)).toNat = a ||| b := by rw [BitVec.toNat_or, e1, e2]
  show IntKind.i64.wrap ((BitVec.ofInt 64 (a : Int) ||| BitVec.ofInt 64 (b : Int)).toNat : Nat) = _
  rw [key, IntKind.wrap_i64]
  omega
theorem and127 (b : UInt8) : bits .and .u8 (b.toNat : Int) 127 = ((b.toNat % 128 : Nat) : Int) := by
  have := u8_and_nat b.toNat 127 b.toNat_lt (by omega)
  rw [show ((127 : Nat) : Int) = 127 from rfl] at this
  rw [this, show (127 : Nat) = 2 ^ 7 - 1 from rfl, Nat.and_two_pow_sub_one_eq_mod]
theorem num_val {l : List UInt8} {k : Nat} {b : UInt8} (hk : k < l.length) (h9 : k < 9) (hb : l.getD k 0 = b) :
    bits .or .i64 (decVal (l.take k) : Nat) (wrap64 (wrap64 (bits .and .u8 (b.toNat : Int) 127) * 2 ^ (7 * k))) = ((decVal (l.take (k + 1)) : Nat) : Int) := by
  have hf := dec_fit (l := l) k h9
  have hs := step_dec hk
  rw [hb] at hs
  have hd := decVal_lt (l.take k)
  rw [List.length_take, Nat.min_eq_left (by omega), show (128 : Nat) = 2 ^ 7 from rfl, ← Nat.pow_mul] at hd
  unfold Fit at hf
  have e1 : wrap64 (bits .and .u8 (b.toNat : Int) 127) = ((b.toNat % 128 : Nat) : Int) := by
    rw [and127]
    simp only [wrap64]
    omega
  have e2 : wrap64 (((b.toNat % 128 : Nat) : Int) * 2 ^ (7 * k)) = ((b.toNat % 128 * 2 ^ (7 * k) : Nat) : Int) := by
    have e3 : ((b.toNat % 128 : Nat) : Int) * 2 ^ (7 * k) = ((b.toNat % 128 * 2 ^ (7 * k) : Nat) : Int) := by rw [Int.natCast_mul, Int.natCast_pow]; rfl
    rw [e3]
    have hx : b.toNat % 128 * 2 ^ (7 * k) < 9223372036854775808 := by omega
    generalize b.toNat % 128 * 2 ^ (7 * k) = x at hx ⊢
    simp only [wrap64]
    omega
  rw [e1, e2, i64_or_nat _ _ (by omega) (by omega), hs]
  congr 1
  rw [Nat.or_comm, Nat.mul_comm, ← Nat.two_pow_add_eq_or_of_lt hd, Nat.add_comm]

/-- What number does, at place p: returns with the place behind it, or throws where there is no encoding. -/
def NumPostL (L : List UInt8) (s : ByteArray) (p : Nat) (u : TypeId) (x : Value) (w : World) (g : Nat) (e : Ending) (w' : World) : Prop :=
  w.grownBy w' (some g) ∧ ((e = .returned (.int .i64 ((rd L).1 : Int)) ∧ RdrAt w' g s (p + (rd L).2.1) ∧ (rd L).2.2 = true) ∨ (e = Thrown u x ∧ rd L = (0, 0, false)))
def NumPostP (s : ByteArray) (p : Nat) : TypeId → Value → World → Nat → Ending → World → Prop := NumPostL (s.data.toList.drop p) s p
theorem nextByteB (w : World) (g : Nat) (s : ByteArray) (p : Nat) (b : UInt8) (hs : s.size ≤ 1048576) (hp : p < s.size) (hb : s.data.toList.getD p 0 = b) (h : RdrAt w g s p) :
    Calls Tryd.prog 44 #[.pointer (some ⟨g, 0, none⟩)] w fun e w' => e = .returned (.int .u8 (b.toNat : Int)) ∧ w.grownBy w' (some g) ∧ RdrAt w' g s (p + 1) := by
  have := nextByteYes w g s p hs hp h
  rw [byte_getD s p hp] at hb
  rw [← hb]
  exact this

set_option maxRecDepth 100000 in
set_option maxHeartbeats 400000 in
theorem numberP (w : World) (g : Nat) (s : ByteArray) (p : Nat) (u : TypeId) (x : Value) (hs : s.size ≤ 1048576) (hp : p ≤ s.size) (h : RdrAt w g s p) (hE : Sent w u x) (hg : 0 < g) :
    Calls Tryd.prog 37 #[.pointer (some ⟨g, 0, none⟩)] w (NumPostP s p u x w g) := by
  have H := Lib.hid h
  have HE := Lib.hid hE
  have HLn : Hid ((s.data.toList.drop p).length = s.size - p) := by show List.length _ = _; rw [List.length_drop, Lib.size_eq]
  have HLg : Hid (∀ k, (s.data.toList.drop p).getD k 0 = s.data.toList.getD (p + k) 0) := fun k => by rw [List.getD_eq_getElem?_getD, List.getElem?_drop, List.getD_eq_getElem?_getD]
  clear h hE
  show Calls _ _ _ _ (NumPostL (s.data.toList.drop p) s p u x w g)
  generalize s.data.toList.drop p = L at HLn HLg ⊢
  go_enter Tryd.func37, Tryd.ntmps37
  go_wp2
  go_loopw [3, 4, 5] (fun n sh _ wr => ∃ k : Nat, sh = .int .i64 ((7 * k : Nat) : Int) ∧ n = .int .i64 (decVal (L.take k) : Nat) ∧ Goes L k ∧ Hid (w.grownBy wr (some g)) ∧ Hid (RdrAt wr g s (p + k))) (fun _ sh _ _ => 63 - (intOf sh).toNat)
  case atStart => exact ⟨0, rfl, rfl, Goes.zero _, World.grownBy.refl _ _, H.out⟩
  case round =>
    obtain ⟨k, rfl, rfl, hG, HW, HR⟩ := hrel
    have hk1 : k ≤ s.size - p := by have := hG.1; have := HLn.out; omega
    have hk9 : k ≤ 9 := hG.2.1
    have HG := Lib.hid hG
    clear hG
    by_cases h9 : k < 9
    · have hsh : ((7 * k : Nat) : Int) < 63 := by omega
      by_cases hlt : p + k < s.size
      · have hkl : k < L.length := by have := HLn.out; omega
        obtain ⟨b, hb⟩ : ∃ b, L.getD k 0 = b := ⟨_, rfl⟩
        have HB := Lib.hid hb
        have HB2 : Hid (s.data.toList.getD (p + k) 0 = b) := by show _ = _; rw [← HLg.out k]; exact hb
        clear hb
        have HV := Lib.hid (num_val hkl h9 HB.out)
        by_cases hc : 128 ≤ b.toNat
        · have HG2 := Lib.hid (HG.out.step hkl h9 (by rw [HB.out]; exact hc))
          go_wp2_with fail
          refine (nextByteB _ g s (p + k) b hs hlt HB2.out HR.out).mono ?_
          rintro e w1 ⟨rfl, hg1, hr1⟩
          go_wp2
          go_roundw
          case rel => exact ⟨k + 1, by go_num, by rw [HV.out], HG2.out, HW.out.trans hg1, hr1⟩
          case measure => simp [intOf]; omega
        · have hbl : (L.getD k 0).toNat < 128 := by rw [HB.out]; omega
          by_cases h0 : k ≠ 0 ∧ L.getD k 0 = 0
          · have HX := Lib.hid (rd_bad HG.out hkl h9 hbl h0)
            have hz : b.toNat = 0 := by rw [← HB.out, h0.2]; rfl
            have hk0 : k ≠ 0 := h0.1
            clear h0 hbl
            go_wp2_with fail
            refine (nextByteB _ g s (p + k) b hs hlt HB2.out HR.out).mono ?_
            rintro e w1 ⟨rfl, hg1, hr1⟩
            have hE1 : w1.cell? ⟨0, 0, none⟩ = some (.iface u x) := HE.out.grown (HW.out.trans hg1) hg
            go_wp2
            exact ⟨rfl, ⟨HW.out.trans hg1, .inr ⟨rfl, HX.out⟩⟩⟩
          · have HX := Lib.hid (rd_good HG.out hkl h9 hbl h0)
            by_cases hk0 : k = 0
            · subst hk0
              clear h0 hbl
              have HV0 : Hid (bits .or .i64 ((decVal [] : Nat) : Int) (wrap64 (wrap64 (bits .and .u8 (b.toNat : Int) 127))) = ((decVal (L.take (0 + 1)) : Nat) : Int)) := by
                have e := HV.out
                rw [show (2 : Int) ^ (7 * 0) = 1 from rfl, Int.mul_one] at e
                exact e
              have HZ : Hid (b.toNat = 0 → bits .or .i64 ((decVal [] : Nat) : Int) (wrap64 (wrap64 (bits .and .u8 0 127))) = ((decVal (L.take (0 + 1)) : Nat) : Int)) := fun hz => by
                have e := HV0.out
                rw [hz] at e
                exact e
              go_wp2_with fail
              refine (nextByteB _ g s (p + 0) b hs hlt HB2.out HR.out).mono ?_
              rintro e w1 ⟨rfl, hg1, hr1⟩
              go_wp2
              all_goals go_ret
              all_goals exact ⟨HW.out.trans hg1, .inl ⟨by rw [HX.out]; first | exact congrArg (fun z => Ending.returned (.int .i64 z)) HV0.out | exact congrArg (fun z => Ending.returned (.int .i64 z)) (HZ.out (by assumption)), by rw [HX.out]; exact hr1, by rw [HX.out]⟩⟩
            · have hz : ¬ b.toNat = 0 := fun e => h0 ⟨hk0, by rw [HB.out]; exact UInt8.toNat_inj.1 e⟩
              clear h0 hbl
              go_wp2_with fail
              refine (nextByteB _ g s (p + k) b hs hlt HB2.out HR.out).mono ?_
              rintro e w1 ⟨rfl, hg1, hr1⟩
              go_wp2
              all_goals go_ret
              all_goals exact ⟨HW.out.trans hg1, .inl ⟨by rw [HX.out]; exact congrArg (fun z => Ending.returned (.int .i64 z)) HV.out, by rw [HX.out]; exact hr1, by rw [HX.out]⟩⟩
      · have hpe : p + k = s.size := by omega
        have HR' := HR.out
        rw [hpe] at HR'
        have HRe := Lib.hid HR'
        clear hpe HR'
        have HX := Lib.hid (rd_none HG.out (.inl (by have := HLn.out; omega)))
        go_wp2_with fail
        refine (nextByteNo _ g s u x HRe.out (HE.out.grown HW.out hg)).mono ?_
        rintro e w1 ⟨rfl, hg1⟩
        unfold Thrown
        exact ⟨rfl, ⟨HW.out.trans hg1, .inr ⟨rfl, HX.out⟩⟩⟩
    · have hsh : ¬ ((7 * k : Nat) : Int) < 63 := by omega
      have HX := Lib.hid (rd_none HG.out (.inr h9))
      have hE1 : wr.cell? ⟨0, 0, none⟩ = some (.iface u x) := HE.out.grown HW.out hg
      go_wp2
      exact ⟨rfl, ⟨HW.out, .inr ⟨rfl, HX.out⟩⟩⟩

/-- At the text's start. -/
def NumPost (s : ByteArray) (u : TypeId) (x : Value) (w : World) (g : Nat) (e : Ending) (w' : World) : Prop :=
  w.grownBy w' (some g) ∧ ((e = .returned (.int .i64 ((rd s.data.toList).1 : Int)) ∧ RdrAt w' g s (rd s.data.toList).2.1 ∧ (rd s.data.toList).2.2 = true) ∨ (e = Thrown u x ∧ rd s.data.toList = (0, 0, false)))
theorem number (w : World) (g : Nat) (s : ByteArray) (u : TypeId) (x : Value) (hs : s.size ≤ 1048576) (h : RdrAt w g s 0) (hE : Sent w u x) (hg : 0 < g) :
    Calls Tryd.prog 37 #[.pointer (some ⟨g, 0, none⟩)] w (NumPost s u x w g) :=
  (numberP w g s 0 u x hs (Nat.zero_le _) h hE hg).mono fun e w' hq => by
    unfold NumPostP NumPostL at hq
    rw [List.drop_zero, Nat.zero_add] at hq
    exact hq
end Go.Proofs.YtialoobnjfbboaaDoor
