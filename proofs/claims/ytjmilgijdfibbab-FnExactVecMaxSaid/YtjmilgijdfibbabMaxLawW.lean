/- The walk of the law FnExactVecMax. -/
import Derived.Test.YtjmilgijdfibbabMaxW
namespace Go.Proofs.Ytjmilgijdfibbab
open Go.RowKit

theorem vecZipMax_len (xs ys : List Int) : (vecZip max xs ys).length ≤ 4 := by
  cases hk : vecOk xs && vecOk ys
  · rw [vecZip_no hk]; simp
  · rw [vecZip_yes hk]
    rw [Bool.and_eq_true] at hk
    obtain ⟨x0, x1, x2, x3, rfl⟩ := four hk.1
    unfold zipI
    rw [List.length_zipWith]
    exact Nat.min_le_left _ _

set_option maxRecDepth 100000 in
set_option maxHeartbeats 4000000 in
theorem fnExactVecMaxWalk (a : Option Addr) (len cap : Nat) (zs : List Int) (a' : Option Addr) (len' cap' : Nat) (zs' : List Int) (w : World) (h : IsRow .i64 w a len cap zs) (h' : IsRow .i64 w a' len' cap' zs') :
    Calls Try.prog 3 #[.slice a len cap, .slice a' len' cap'] w fun e w' => e = .returned (.bool true) ∧ Below w.heap.size w w' := by
  by_cases hbig : len ≤ 1048576
  · by_cases hbig' : len' ≤ 1048576
    · have hI := ints_of_row h
      have hI' := ints_of_row h'
      generalize zs.take len = xs at hI
      generalize zs'.take len' = ys at hI'
      have hxl : xs.length ≤ 1048576 := by have := hI.1; omega
      have hyl : ys.length ≤ 1048576 := by have := hI'.1; omega
      have HI := Lib.hid hI
      have HI' := Lib.hid hI'
      clear h h' hI hI'
      go_enter Try.func3, Try.ntmps3
      go_wp2_with fail
      refine (toInts w w.heap.size a len cap xs HI.out (Nat.le_refl _) hbig).mono ?_
      rintro e w1 ⟨rfl, hg1, hb1⟩
      have s1 : w.heap.size ≤ w1.heap.size := hb1.size
      have HF1 := Lib.hid (fresh_ints hg1 (lt_of_block hg1))
      have hB1 : Below w.heap.size w w1 := hb1
      clear hg1 hb1
      go_wp2_with fail
      refine (toInts w1 w.heap.size a' len' cap' ys (HI'.out.below hB1 (Nat.le_refl _)) s1 hbig').mono ?_
      rintro e w2 ⟨rfl, hg2, hb2⟩
      have s2 : w1.heap.size ≤ w2.heap.size := hb2.size
      have HF1' := Lib.hid (HF1.out.below hb2 (Nat.le_refl _))
      have HF2 := Lib.hid (fresh_ints hg2 (lt_of_block hg2))
      have hB2 : Below w.heap.size w w2 := hB1.trans (hb2.mono s1)
      clear hg2 hb2 hB1
      go_wp2_with fail
      refine (specMax w2 w1.heap.size w2.heap.size _ _ _ _ _ _ xs ys HF1'.out HF2.out s2 (Nat.le_refl _) hxl hyl).mono ?_
      rintro e w3 ⟨aW, cW, rfl, hoW, hb3⟩
      have hR := vecZipMax_len xs ys
      generalize hRR : vecZip max xs ys = R at hoW hR ⊢
      have HRR := Lib.hid hRR
      have hR2 : R.length ≤ 1048576 := by omega
      have s3 : w2.heap.size ≤ w3.heap.size := hb3.size
      have HW3 := Lib.hid hoW
      have hB3 : Below w.heap.size w w3 := hB2.trans (hb3.mono (by omega))
      clear hRR hoW hb3 hB2 HF1 HF1' HF2
      go_wp2_with fail
      refine (toInts w3 w.heap.size a len cap xs (HI.out.below hB3 (Nat.le_refl _)) (by omega) hbig).mono ?_
      rintro e w4 ⟨rfl, hg4, hb4⟩
      have s4 : w3.heap.size < w4.heap.size := lt_of_block hg4
      have HX4 := Lib.hid (own_fresh (hi := w4.heap.size) hg4 s4)
      have HW4 := Lib.hid (HW3.out.below hb4 (Nat.le_refl _))
      have hB4 : Below w.heap.size w w4 := hB3.trans (hb4.mono (by omega))
      clear hg4 hb4 hB3 HW3
      go_wp2_with fail
      refine (toInts w4 w.heap.size a' len' cap' ys (HI'.out.below hB4 (Nat.le_refl _)) (by omega) hbig').mono ?_
      rintro e w5 ⟨rfl, hg5, hb5⟩
      have s5 : w4.heap.size < w5.heap.size := lt_of_block hg5
      have HY5 := Lib.hid (own_fresh (hi := w5.heap.size) hg5 s5)
      have HX5 := Lib.hid (HX4.out.below hb5 (Nat.le_refl _))
      have HW5 := Lib.hid (HW4.out.below hb5 (by omega))
      have hB5 : Below w.heap.size w w5 := hB4.trans (hb5.mono (by omega))
      clear hg5 hb5 hB4 HX4 HW4
      go_wp2_with fail
      refine (implMax w5 w5.heap.size _ _ _ _ _ _ xs ys (HX5.out.ints.more (by omega)) HY5.out.ints (Nat.le_refl _) hxl hyl).mono ?_
      rintro e w6 ⟨aG, cG, rfl, hoG, hb6⟩
      rw [HRR.out] at hoG ⊢
      have s6 : w5.heap.size ≤ w6.heap.size := hb6.size
      have HG6 := Lib.hid hoG
      have HX6 := Lib.hid (HX5.out.below hb6 (by omega))
      have HY6 := Lib.hid (HY5.out.below hb6 (by omega))
      have HW6 := Lib.hid (HW5.out.below hb6 (by omega))
      have hB6 : Below w.heap.size w w6 := hB5.trans (hb6.mono (by omega))
      clear hoG hb6 hB5 HX5 HY5 HW5
      go_wp2_with fail
      refine (eqInts w6 _ _ _ _ _ _ _ _ R R HG6.out.ints HW6.out.ints hR2 hR2).mono ?_
      rintro e w7 ⟨rfl, hS7⟩
      have s7 : w6.heap.size ≤ w7.heap.size := Nat.le_of_eq hS7.size.symm
      have HG7 := Lib.hid (HG6.out.kept fun j _ _ => hS7.block j)
      have HX7 := Lib.hid (HX6.out.kept fun j _ _ => hS7.block j)
      have HY7 := Lib.hid (HY6.out.kept fun j _ _ => hS7.block j)
      have HW7 := Lib.hid (HW6.out.kept fun j _ _ => hS7.block j)
      have hB7 : Below w.heap.size w w7 := hB6.trans (hS7.below _)
      rw [decide_eq_true rfl]
      clear hS7 hB6 HG6 HX6 HY6 HW6
      go_wp2_with fail
      refine (toInts w7 w.heap.size a len cap xs (HI.out.below hB7 (Nat.le_refl _)) (by omega) hbig).mono ?_
      rintro e w8 ⟨rfl, hg8, hb8⟩
      have s8 : w7.heap.size ≤ w8.heap.size := hb8.size
      have HF8 := Lib.hid (fresh_ints hg8 (lt_of_block hg8))
      have HG8 := Lib.hid (HG7.out.below hb8 (by omega))
      have HX8 := Lib.hid (HX7.out.below hb8 (by omega))
      have HY8 := Lib.hid (HY7.out.below hb8 (by omega))
      have HW8 := Lib.hid (HW7.out.below hb8 (by omega))
      have hB8 : Below w.heap.size w w8 := hB7.trans (hb8.mono (by omega))
      clear hg8 hb8 hB7 HG7 HX7 HY7 HW7
      go_wp2_with fail
      refine (eqInts w8 _ _ _ _ _ _ _ _ xs xs HX8.out.ints HF8.out hxl hxl).mono ?_
      rintro e w9 ⟨rfl, hS9⟩
      have s9 : w8.heap.size ≤ w9.heap.size := Nat.le_of_eq hS9.size.symm
      have HG9 := Lib.hid (HG8.out.kept fun j _ _ => hS9.block j)
      have HX9 := Lib.hid (HX8.out.kept fun j _ _ => hS9.block j)
      have HY9 := Lib.hid (HY8.out.kept fun j _ _ => hS9.block j)
      have HW9 := Lib.hid (HW8.out.kept fun j _ _ => hS9.block j)
      have hB9 : Below w.heap.size w w9 := hB8.trans (hS9.below _)
      rw [decide_eq_true rfl]
      clear hS9 hB8 HF8 HG8 HX8 HY8 HW8
      go_wp2_with fail
      refine (toInts w9 w.heap.size a' len' cap' ys (HI'.out.below hB9 (Nat.le_refl _)) (by omega) hbig').mono ?_
      rintro e w10 ⟨rfl, hg10, hb10⟩
      have s10 : w9.heap.size ≤ w10.heap.size := hb10.size
      have HF10 := Lib.hid (fresh_ints hg10 (lt_of_block hg10))
      have HG10 := Lib.hid (HG9.out.below hb10 (by omega))
      have HX10 := Lib.hid (HX9.out.below hb10 (by omega))
      have HY10 := Lib.hid (HY9.out.below hb10 (by omega))
      have HW10 := Lib.hid (HW9.out.below hb10 (by omega))
      have hB10 : Below w.heap.size w w10 := hB9.trans (hb10.mono (by omega))
      clear hg10 hb10 hB9 HG9 HX9 HY9 HW9
      go_wp2_with fail
      refine (eqInts w10 _ _ _ _ _ _ _ _ ys ys HY10.out.ints HF10.out hyl hyl).mono ?_
      rintro e w11 ⟨rfl, hS11⟩
      have s11 : w10.heap.size ≤ w11.heap.size := Nat.le_of_eq hS11.size.symm
      have HG11 := Lib.hid (HG10.out.kept fun j _ _ => hS11.block j)
      have HX11 := Lib.hid (HX10.out.kept fun j _ _ => hS11.block j)
      have HY11 := Lib.hid (HY10.out.kept fun j _ _ => hS11.block j)
      have HW11 := Lib.hid (HW10.out.kept fun j _ _ => hS11.block j)
      have hB11 : Below w.heap.size w w11 := hB10.trans (hS11.below _)
      rw [decide_eq_true rfl]
      clear hS11 hB10 HF10 HG10 HX10 HY10 HW10
      go_wp2_with fail
      refine (mark w11 _ _ _ _ _ xs HX11.out 1 (by omega) hxl).mono ?_
      rintro e w12 ⟨⟨k1, hk1, rfl⟩, _, hO12⟩
      have hk1' : k1 ≤ 2000000 := by omega
      have s12 : w11.heap.size ≤ w12.heap.size := Nat.le_of_eq hO12.size.symm
      have HG12 := Lib.hid (HG11.out.outside hO12 (by omega))
      have HY12 := Lib.hid (HY11.out.outside hO12 (by omega))
      have HW12 := Lib.hid (HW11.out.outside hO12 (by omega))
      have hB12 : Below w.heap.size w w12 := hB11.trans (hO12.below (by omega))
      clear hk1 hO12 hB11 HG11 HX11 HY11 HW11
      go_wp2_with fail
      refine (mark w12 _ _ _ _ _ ys HY12.out k1 (by omega) hyl).mono ?_
      rintro e w13 ⟨⟨k2, hk2, rfl⟩, _, hO13⟩
      have s13 : w12.heap.size ≤ w13.heap.size := Nat.le_of_eq hO13.size.symm
      have HG13 := Lib.hid (HG12.out.outside hO13 (by omega))
      have HW13 := Lib.hid (HW12.out.outside hO13 (by omega))
      have hB13 : Below w.heap.size w w13 := hB12.trans (hO13.below (by omega))
      clear hk2 hO13 hB12 HG12 HY12 HW12
      go_wp2_with fail
      refine (eqInts w13 _ _ _ _ _ _ _ _ R R HG13.out.ints HW13.out.ints hR2 hR2).mono ?_
      rintro e w14 ⟨rfl, hS14⟩
      have s14 : w13.heap.size ≤ w14.heap.size := Nat.le_of_eq hS14.size.symm
      have HG14 := Lib.hid (HG13.out.kept fun j _ _ => hS14.block j)
      have HW14 := Lib.hid (HW13.out.kept fun j _ _ => hS14.block j)
      have hB14 : Below w.heap.size w w14 := hB13.trans (hS14.below _)
      rw [decide_eq_true rfl]
      clear hS14 hB13 HG13 HW13
      go_wp2_with fail
      refine (mark w14 _ _ _ _ _ R HG14.out 1 (by omega) hR2).mono ?_
      rintro e w15 ⟨⟨m1, hm1, rfl⟩, hM15, hO15⟩
      have HM1 := Lib.hid hm1
      have hm2 : m1 ≤ 2000000 := by omega
      have s15 : w14.heap.size ≤ w15.heap.size := Nat.le_of_eq hO15.size.symm
      have HM15 := Lib.hid hM15
      have HW15 := Lib.hid (HW14.out.outside hO15 (by omega))
      have hB15 : Below w.heap.size w w15 := hB14.trans (hO15.below (by omega))
      clear hm1 hM15 hO15 hB14 HG14 HW14
      go_wp2_with fail
      refine (held w15 _ _ _ _ 1 HM15.out.ints (by omega) hR2).mono ?_
      rintro e w15' ⟨rfl, rfl⟩
      rw [← HM1.out]
      go_wp2_with fail
      refine (toInts w15 w.heap.size a len cap xs (HI.out.below hB15 (Nat.le_refl _)) (by omega) hbig).mono ?_
      rintro e w16 ⟨rfl, hg16, hb16⟩
      have s16 : w15.heap.size ≤ w16.heap.size := hb16.size
      have HF16 := Lib.hid (fresh_ints hg16 (lt_of_block hg16))
      have HM16 := Lib.hid (HM15.out.below hb16 (by omega))
      have HW16 := Lib.hid (HW15.out.below hb16 (by omega))
      have hB16 : Below w.heap.size w w16 := hB15.trans (hb16.mono (by omega))
      clear hg16 hb16 hB15 HM15 HW15
      go_wp2_with fail
      refine (toInts w16 w.heap.size a' len' cap' ys (HI'.out.below hB16 (Nat.le_refl _)) (by omega) hbig').mono ?_
      rintro e w17 ⟨rfl, hg17, hb17⟩
      have s17 : w16.heap.size ≤ w17.heap.size := hb17.size
      have HF17 := Lib.hid (fresh_ints hg17 (lt_of_block hg17))
      have HF16' := Lib.hid (HF16.out.below hb17 (Nat.le_refl _))
      have HM17 := Lib.hid (HM16.out.below hb17 (by omega))
      have HW17 := Lib.hid (HW16.out.below hb17 (by omega))
      have hB17 : Below w.heap.size w w17 := hB16.trans (hb17.mono (by omega))
      clear hg17 hb17 hB16 HM16 HW16 HF16
      go_wp2_with fail
      refine (implMax w17 w17.heap.size _ _ _ _ _ _ xs ys (HF16'.out.more s17) HF17.out (Nat.le_refl _) hxl hyl).mono ?_
      rintro e w18 ⟨aH, cH, rfl, hoH, hb18⟩
      rw [HRR.out] at hoH ⊢
      have s18 : w17.heap.size ≤ w18.heap.size := hb18.size
      have HH18 := Lib.hid hoH
      have HM18 := Lib.hid (HM17.out.below hb18 (by omega))
      have HW18 := Lib.hid (HW17.out.below hb18 (by omega))
      have hB18 : Below w.heap.size w w18 := hB17.trans (hb18.mono (by omega))
      clear hoH hb18 hB17 HM17 HW17 HF16' HF17
      go_wp2_with fail
      refine (eqInts w18 _ _ _ _ _ _ _ _ R R HH18.out.ints HW18.out.ints hR2 hR2).mono ?_
      rintro e w19 ⟨rfl, hS19⟩
      have HM19 := Lib.hid (HM18.out.kept fun j _ _ => hS19.block j)
      have hB19 : Below w.heap.size w w19 := hB18.trans (hS19.below _)
      rw [decide_eq_true rfl]
      clear hS19 hB18 HM18 HH18 HW18
      go_wp2_with fail
      refine (held w19 _ _ _ _ 1 HM19.out.ints (by omega) hR2).mono ?_
      rintro e w19' ⟨rfl, rfl⟩
      rw [← HM1.out]
      go_wp2
      go_ret
      exact ⟨rfl, hB19⟩
    · have hd : decide ((1048576 : Int) < (len : Int)) = false := decide_eq_false (by omega)
      have hd' : decide ((1048576 : Int) < (len' : Int)) = true := decide_eq_true (by omega)
      go_enter Try.func3, Try.ntmps3
      go_wp2
      go_ret
      exact ⟨rfl, Below.refl _ _⟩
  · have hd : decide ((1048576 : Int) < (len : Int)) = true := decide_eq_true (by omega)
    go_enter Try.func3, Try.ntmps3
    go_wp2
    go_ret
    exact ⟨rfl, Below.refl _ _⟩
end Go.Proofs.Ytjmilgijdfibbab
