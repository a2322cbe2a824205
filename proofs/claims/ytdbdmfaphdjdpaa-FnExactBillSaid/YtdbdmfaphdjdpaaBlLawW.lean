/- The walk of the law FnExactBill. -/
import Derived.Test.YtdbdmfaphdjdpaaBlS
import Derived.Test.YtdbdmfaphdjdpaaBillMk
namespace Go.Proofs.Ytdbdmfaphdjdpaa
open Go.RowKit
set_option linter.unusedVariables false
set_option linter.unusedSimpArgs false

theorem billRs_len {l : List LnV} {ps : List PrV} {os : List OfV} {R : Bool} : (billRs l ps os R).length ≤ l.length := by
  unfold billRs
  split
  · unfold rowsV
    rw [List.length_map]
    exact openL_len l
  · exact Nat.zero_le _
set_option maxRecDepth 100000 in
set_option maxHeartbeats 8000000 in
theorem fnExactBillWalk (la pa oa : Option Addr) (ln lc pn pc on oc : Nat) (l : List LnV) (ps : List PrV) (os : List OfV) (w : World) (hl : Lns w w.heap.size la ln l) (hp : Prs w w.heap.size pa pn ps) (ho : Ofs w w.heap.size oa on os) (hnl : ln ≤ maxLen) (hnp : pn ≤ maxLen) (hno : on ≤ maxLen) (hml : ∀ i, i < ln → (l.getD i LnV.zero).item.size ≤ maxLen) (hmp : ∀ i, i < pn → (ps.getD i PrV.zero).item.size ≤ maxLen) (hmo : ∀ i, i < on → (os.getD i OfV.zero).item.size ≤ maxLen) : Calls Try.prog 6 #[.slice la ln lc, .slice pa pn pc, .slice oa on oc] w fun e w' => e = .returned (.bool true) ∧ Below w.heap.size w w' := by
  have HLl := Lib.hid hl.1
  have HLp := Lib.hid hp.1
  have HLo := Lib.hid ho.1
  have AA0 := Lib.hid hl
  have PP0 := Lib.hid hp
  have OO0 := Lib.hid ho
  have BB0 : Hid (Below w.heap.size w w) := Below.refl _ _
  have hs0 : w.heap.size ≤ w.heap.size := Nat.le_refl _
  clear hl hp ho
  obtain ⟨RS, hRS⟩ : ∃ r, billRs l ps os (billB l ps os) = r := ⟨_, rfl⟩
  obtain ⟨SM, hSM⟩ : ∃ r, billSum l ps os (billB l ps os) = r := ⟨_, rfl⟩
  obtain ⟨RB, hRB⟩ : ∃ r, billB l ps os = r := ⟨_, rfl⟩
  have hRl : RS.length ≤ l.length := by rw [← hRS]; exact billRs_len
  have HRS := Lib.hid hRS
  have HSM := Lib.hid hSM
  have HRB := Lib.hid hRB
  clear hRS hSM hRB
  go_enter Try.func6, Try.ntmps6
  go_wp2_with fail
  refine (szLns w w.heap.size la ln lc l AA0.out (by omega) hnl hml 1048576 (by omega)).mono ?_
  rintro e w1 ⟨rfl, hb⟩
  have AA1 := Lib.hid (AA0.out.below hb (by omega))
  have PP1 := Lib.hid (PP0.out.below hb (by omega))
  have OO1 := Lib.hid (OO0.out.below hb (by omega))
  have BB1 := Lib.hid (BB0.out.trans (hb.mono BB0.out.size))
  have hs1 := hb.size
  clear AA0 PP0 OO0 BB0 hb
  by_cases hbig : LnTotal l ≤ 1048576
  rotate_left
  · rw [if_neg hbig]
    go_wp2
    go_ret
    exact ⟨rfl, BB1.out⟩
  rw [if_pos hbig]
  obtain ⟨hll, hit⟩ := Ln_fit (l := l) (by omega)
  have HIl := Lib.hid hit
  have hd0 : decide (((1048576 - LnTotal l : Nat) : Int) < 0) = false := decide_eq_false (by omega)
  obtain ⟨lf0, hlf0⟩ : ∃ q : Nat, 1048576 - LnTotal l = q := ⟨_, rfl⟩
  have hlg0 : lf0 ≤ 1048576 := by omega
  rw [hlf0] at hd0 ⊢
  clear hit hbig hlf0
  go_wp2_with fail
  refine (szPrs w1 w.heap.size pa pn pc ps PP1.out (by omega) hnp hmp lf0 (by omega)).mono ?_
  rintro e w2 ⟨rfl, hb⟩
  have AA2 := Lib.hid (AA1.out.below hb (by omega))
  have PP2 := Lib.hid (PP1.out.below hb (by omega))
  have OO2 := Lib.hid (OO1.out.below hb (by omega))
  have BB2 := Lib.hid (BB1.out.trans (hb.mono BB1.out.size))
  have hs2 := hb.size
  clear AA1 PP1 OO1 BB1 hb
  by_cases hbig : PrTotal ps ≤ lf0
  rotate_left
  · rw [if_neg hbig]
    go_wp2
    go_ret
    exact ⟨rfl, BB2.out⟩
  rw [if_pos hbig]
  obtain ⟨hpl, hit⟩ := Pr_fit (l := ps) (by omega)
  have HIp := Lib.hid hit
  have hd1 : decide (((lf0 - PrTotal ps : Nat) : Int) < 0) = false := decide_eq_false (by omega)
  obtain ⟨lf1, hlf1⟩ : ∃ q : Nat, lf0 - PrTotal ps = q := ⟨_, rfl⟩
  have hlg1 : lf1 ≤ 1048576 := by omega
  rw [hlf1] at hd1 ⊢
  clear hit hbig hlf1
  go_wp2_with fail
  refine (szOfs w2 w.heap.size oa on oc os OO2.out (by omega) hno hmo lf1 (by omega)).mono ?_
  rintro e w3 ⟨rfl, hb⟩
  have AA3 := Lib.hid (AA2.out.below hb (by omega))
  have PP3 := Lib.hid (PP2.out.below hb (by omega))
  have OO3 := Lib.hid (OO2.out.below hb (by omega))
  have BB3 := Lib.hid (BB2.out.trans (hb.mono BB2.out.size))
  have hs3 := hb.size
  clear AA2 PP2 OO2 BB2 hb
  by_cases hbig : OfTotal os ≤ lf1
  rotate_left
  · rw [if_neg hbig]
    go_wp2
    go_ret
    exact ⟨rfl, BB3.out⟩
  rw [if_pos hbig]
  obtain ⟨hol, hit⟩ := Of_fit (l := os) (by omega)
  have HIo := Lib.hid hit
  have hd2 : decide (((lf1 - OfTotal os : Nat) : Int) < 0) = false := decide_eq_false (by omega)
  obtain ⟨lf2, hlf2⟩ : ∃ q : Nat, lf1 - OfTotal os = q := ⟨_, rfl⟩
  have hlg2 : lf2 ≤ 1048576 := by omega
  rw [hlf2] at hd2 ⊢
  clear hit hbig hlf2
  have hln : ln ≤ 1048576 := by rw [← HLl.out]; exact hll
  have hpn : pn ≤ 1048576 := by rw [← HLp.out]; exact hpl
  have hon : on ≤ 1048576 := by rw [← HLo.out]; exact hol
  have hRn : RS.length ≤ 1048576 := by omega
  clear hnl hnp hno hml hmp hmo
  go_wp2_with fail
  refine (toLns w3 w.heap.size la ln lc l AA3.out (by omega) hln).mono ?_
  rintro e w4 ⟨rfl, hq, hz4, hb⟩
  have TX4 := Lib.hid hq
  clear hq
  have AA4 := Lib.hid (AA3.out.below hb (by omega))
  have PP4 := Lib.hid (PP3.out.below hb (by omega))
  have OO4 := Lib.hid (OO3.out.below hb (by omega))
  have BB4 := Lib.hid (BB3.out.trans (hb.mono BB3.out.size))
  have hs4 := hb.size
  clear AA3 PP3 OO3 BB3 hb
  go_wp2_with fail
  refine (toPrs w4 w.heap.size pa pn pc ps PP4.out (by omega) hpn).mono ?_
  rintro e w5 ⟨rfl, hq, hz5, hb⟩
  have TY5 := Lib.hid hq
  clear hq
  have AA5 := Lib.hid (AA4.out.below hb (by omega))
  have PP5 := Lib.hid (PP4.out.below hb (by omega))
  have OO5 := Lib.hid (OO4.out.below hb (by omega))
  have BB5 := Lib.hid (BB4.out.trans (hb.mono BB4.out.size))
  have TX5 := Lib.hid (TX4.out.below hb (by omega))
  have hs5 := hb.size
  clear AA4 PP4 OO4 BB4 TX4 hb
  go_wp2_with fail
  refine (toOfs w5 w.heap.size oa on oc os OO5.out (by omega) hon).mono ?_
  rintro e w6 ⟨rfl, hq, hz6, hb⟩
  have TZ6 := Lib.hid hq
  clear hq
  have AA6 := Lib.hid (AA5.out.below hb (by omega))
  have PP6 := Lib.hid (PP5.out.below hb (by omega))
  have OO6 := Lib.hid (OO5.out.below hb (by omega))
  have BB6 := Lib.hid (BB5.out.trans (hb.mono BB5.out.size))
  have TX6 := Lib.hid (TX5.out.below hb (by omega))
  have TY6 := Lib.hid (TY5.out.below hb (by omega))
  have hs6 := hb.size
  clear AA5 PP5 OO5 BB5 TX5 TY5 hb
  have HSp := Lib.hid (specBill w6 w6.heap.size _ _ _ l.length l.length ps.length ps.length os.length os.length l ps os (TX6.out.more (by omega)) (TY6.out.more (by omega)) (TZ6.out.more (by omega)) (Nat.le_refl _) hll hpl hol HIl.out HIp.out HIo.out)
  rw [HRS.out, HSM.out, HRB.out] at HSp
  go_wp2_with fail
  refine HSp.out.mono ?_
  rintro e w7 ⟨raW, rcW, rfl, hq, hb⟩
  have W7 := Lib.hid hq
  clear hq
  have AA7 := Lib.hid (AA6.out.below hb (by omega))
  have PP7 := Lib.hid (PP6.out.below hb (by omega))
  have OO7 := Lib.hid (OO6.out.below hb (by omega))
  have BB7 := Lib.hid (BB6.out.trans (hb.mono BB6.out.size))
  have TX7 := Lib.hid (TX6.out.below hb (by omega))
  have TY7 := Lib.hid (TY6.out.below hb (by omega))
  have TZ7 := Lib.hid (TZ6.out.below hb (by omega))
  have hs7 := hb.size
  clear AA6 PP6 OO6 BB6 TX6 TY6 TZ6 hb HSp
  clear TX7 TY7 TZ7
  go_wp2_with fail
  refine (toLnsO w7 w.heap.size la ln lc l AA7.out (by omega) hln).mono ?_
  rintro e w8 ⟨⟨rfl, _, hz8, hb⟩, hq⟩
  have X8 := Lib.hid hq
  clear hq
  have AA8 := Lib.hid (AA7.out.below hb (by omega))
  have PP8 := Lib.hid (PP7.out.below hb (by omega))
  have OO8 := Lib.hid (OO7.out.below hb (by omega))
  have BB8 := Lib.hid (BB7.out.trans (hb.mono BB7.out.size))
  have W8 := Lib.hid (W7.out.below hb (by omega))
  have hs8 := hb.size
  clear AA7 PP7 OO7 BB7 W7 hb
  go_wp2_with fail
  refine (toPrsO w8 w.heap.size pa pn pc ps PP8.out (by omega) hpn).mono ?_
  rintro e w9 ⟨⟨rfl, _, hz9, hb⟩, hq⟩
  have Y9 := Lib.hid hq
  clear hq
  have AA9 := Lib.hid (AA8.out.below hb (by omega))
  have PP9 := Lib.hid (PP8.out.below hb (by omega))
  have OO9 := Lib.hid (OO8.out.below hb (by omega))
  have BB9 := Lib.hid (BB8.out.trans (hb.mono BB8.out.size))
  have W9 := Lib.hid (W8.out.below hb (by omega))
  have X9 := Lib.hid (X8.out.below hb (by omega))
  have hs9 := hb.size
  clear AA8 PP8 OO8 BB8 W8 X8 hb
  go_wp2_with fail
  refine (toOfsO w9 w.heap.size oa on oc os OO9.out (by omega) hon).mono ?_
  rintro e w10 ⟨⟨rfl, _, hz10, hb⟩, hq⟩
  have Z10 := Lib.hid hq
  clear hq
  have AA10 := Lib.hid (AA9.out.below hb (by omega))
  have PP10 := Lib.hid (PP9.out.below hb (by omega))
  have OO10 := Lib.hid (OO9.out.below hb (by omega))
  have BB10 := Lib.hid (BB9.out.trans (hb.mono BB9.out.size))
  have W10 := Lib.hid (W9.out.below hb (by omega))
  have X10 := Lib.hid (X9.out.below hb (by omega))
  have Y10 := Lib.hid (Y9.out.below hb (by omega))
  have hs10 := hb.size
  clear AA9 PP9 OO9 BB9 W9 X9 Y9 hb
  have HSp := Lib.hid (implBill w10 w10.heap.size _ _ _ l.length l.length ps.length ps.length os.length os.length l ps os (X10.out.rows.more (by omega)) (Y10.out.rows.more (by omega)) (Z10.out.rows.more (by omega)) (Nat.le_refl _) hll hpl hol HIl.out)
  rw [HRS.out, HSM.out, HRB.out] at HSp
  go_wp2_with fail
  refine HSp.out.mono ?_
  rintro e w11 ⟨raG, rcG, rfl, hq, hb⟩
  have G11 := Lib.hid hq
  clear hq
  have AA11 := Lib.hid (AA10.out.below hb (by omega))
  have PP11 := Lib.hid (PP10.out.below hb (by omega))
  have OO11 := Lib.hid (OO10.out.below hb (by omega))
  have BB11 := Lib.hid (BB10.out.trans (hb.mono BB10.out.size))
  have W11 := Lib.hid (W10.out.below hb (by omega))
  have X11 := Lib.hid (X10.out.below hb (by omega))
  have Y11 := Lib.hid (Y10.out.below hb (by omega))
  have Z11 := Lib.hid (Z10.out.below hb (by omega))
  have hs11 := hb.size
  clear AA10 PP10 OO10 BB10 W10 X10 Y10 Z10 hb HSp
  have hcS : (SM != SM) = false := bne_self_eq_false _
  have hcB : (RB != RB) = false := bne_self_eq_false _
  go_wp2_with fail
  refine (eqRws w11 w11.heap.size w11.heap.size raG raW _ _ _ RS (G11.out.rows.more (by omega)) (W11.out.rows.more (by omega)) (Nat.le_refl _) (Nat.le_refl _) hRn).mono ?_
  rintro e w12 ⟨rfl, hb⟩
  have AA12 := Lib.hid (AA11.out.below hb (by omega))
  have PP12 := Lib.hid (PP11.out.below hb (by omega))
  have OO12 := Lib.hid (OO11.out.below hb (by omega))
  have BB12 := Lib.hid (BB11.out.trans (hb.mono BB11.out.size))
  have W12 := Lib.hid (W11.out.below hb (by omega))
  have X12 := Lib.hid (X11.out.below hb (by omega))
  have Y12 := Lib.hid (Y11.out.below hb (by omega))
  have Z12 := Lib.hid (Z11.out.below hb (by omega))
  have G12 := Lib.hid (G11.out.below hb (by omega))
  have hs12 := hb.size
  clear AA11 PP11 OO11 BB11 W11 X11 Y11 Z11 G11 hb
  go_wp2_with fail
  refine (toLns w12 w.heap.size la ln lc l AA12.out (by omega) hln).mono ?_
  rintro e w13 ⟨rfl, hq, hz13, hb⟩
  have T13 := Lib.hid hq
  clear hq
  have AA13 := Lib.hid (AA12.out.below hb (by omega))
  have PP13 := Lib.hid (PP12.out.below hb (by omega))
  have OO13 := Lib.hid (OO12.out.below hb (by omega))
  have BB13 := Lib.hid (BB12.out.trans (hb.mono BB12.out.size))
  have W13 := Lib.hid (W12.out.below hb (by omega))
  have X13 := Lib.hid (X12.out.below hb (by omega))
  have Y13 := Lib.hid (Y12.out.below hb (by omega))
  have Z13 := Lib.hid (Z12.out.below hb (by omega))
  have G13 := Lib.hid (G12.out.below hb (by omega))
  have hs13 := hb.size
  clear AA12 PP12 OO12 BB12 W12 X12 Y12 Z12 G12 hb
  go_wp2_with fail
  refine (eqLns w13 w13.heap.size w13.heap.size _ _ _ _ _ l (X13.out.rows.more (by omega)) (T13.out.more (by omega)) (Nat.le_refl _) (Nat.le_refl _) hll).mono ?_
  rintro e w14 ⟨rfl, hb⟩
  have AA14 := Lib.hid (AA13.out.below hb (by omega))
  have PP14 := Lib.hid (PP13.out.below hb (by omega))
  have OO14 := Lib.hid (OO13.out.below hb (by omega))
  have BB14 := Lib.hid (BB13.out.trans (hb.mono BB13.out.size))
  have W14 := Lib.hid (W13.out.below hb (by omega))
  have X14 := Lib.hid (X13.out.below hb (by omega))
  have Y14 := Lib.hid (Y13.out.below hb (by omega))
  have Z14 := Lib.hid (Z13.out.below hb (by omega))
  have G14 := Lib.hid (G13.out.below hb (by omega))
  have T14 := Lib.hid (T13.out.below hb (by omega))
  have hs14 := hb.size
  clear AA13 PP13 OO13 BB13 W13 X13 Y13 Z13 G13 T13 hb
  clear T14
  go_wp2_with fail
  refine (toPrs w14 w.heap.size pa pn pc ps PP14.out (by omega) hpn).mono ?_
  rintro e w15 ⟨rfl, hq, hz15, hb⟩
  have T15 := Lib.hid hq
  clear hq
  have AA15 := Lib.hid (AA14.out.below hb (by omega))
  have PP15 := Lib.hid (PP14.out.below hb (by omega))
  have OO15 := Lib.hid (OO14.out.below hb (by omega))
  have BB15 := Lib.hid (BB14.out.trans (hb.mono BB14.out.size))
  have W15 := Lib.hid (W14.out.below hb (by omega))
  have X15 := Lib.hid (X14.out.below hb (by omega))
  have Y15 := Lib.hid (Y14.out.below hb (by omega))
  have Z15 := Lib.hid (Z14.out.below hb (by omega))
  have G15 := Lib.hid (G14.out.below hb (by omega))
  have hs15 := hb.size
  clear AA14 PP14 OO14 BB14 W14 X14 Y14 Z14 G14 hb
  go_wp2_with fail
  refine (eqPrs w15 w15.heap.size w15.heap.size _ _ _ _ _ ps (Y15.out.rows.more (by omega)) (T15.out.more (by omega)) (Nat.le_refl _) (Nat.le_refl _) hpl).mono ?_
  rintro e w16 ⟨rfl, hb⟩
  have AA16 := Lib.hid (AA15.out.below hb (by omega))
  have PP16 := Lib.hid (PP15.out.below hb (by omega))
  have OO16 := Lib.hid (OO15.out.below hb (by omega))
  have BB16 := Lib.hid (BB15.out.trans (hb.mono BB15.out.size))
  have W16 := Lib.hid (W15.out.below hb (by omega))
  have X16 := Lib.hid (X15.out.below hb (by omega))
  have Y16 := Lib.hid (Y15.out.below hb (by omega))
  have Z16 := Lib.hid (Z15.out.below hb (by omega))
  have G16 := Lib.hid (G15.out.below hb (by omega))
  have T16 := Lib.hid (T15.out.below hb (by omega))
  have hs16 := hb.size
  clear AA15 PP15 OO15 BB15 W15 X15 Y15 Z15 G15 T15 hb
  clear T16
  go_wp2_with fail
  refine (toOfs w16 w.heap.size oa on oc os OO16.out (by omega) hon).mono ?_
  rintro e w17 ⟨rfl, hq, hz17, hb⟩
  have T17 := Lib.hid hq
  clear hq
  have AA17 := Lib.hid (AA16.out.below hb (by omega))
  have PP17 := Lib.hid (PP16.out.below hb (by omega))
  have OO17 := Lib.hid (OO16.out.below hb (by omega))
  have BB17 := Lib.hid (BB16.out.trans (hb.mono BB16.out.size))
  have W17 := Lib.hid (W16.out.below hb (by omega))
  have X17 := Lib.hid (X16.out.below hb (by omega))
  have Y17 := Lib.hid (Y16.out.below hb (by omega))
  have Z17 := Lib.hid (Z16.out.below hb (by omega))
  have G17 := Lib.hid (G16.out.below hb (by omega))
  have hs17 := hb.size
  clear AA16 PP16 OO16 BB16 W16 X16 Y16 Z16 G16 hb
  go_wp2_with fail
  refine (eqOfs w17 w17.heap.size w17.heap.size _ _ _ _ _ os (Z17.out.rows.more (by omega)) (T17.out.more (by omega)) (Nat.le_refl _) (Nat.le_refl _) hol).mono ?_
  rintro e w18 ⟨rfl, hb⟩
  have AA18 := Lib.hid (AA17.out.below hb (by omega))
  have PP18 := Lib.hid (PP17.out.below hb (by omega))
  have OO18 := Lib.hid (OO17.out.below hb (by omega))
  have BB18 := Lib.hid (BB17.out.trans (hb.mono BB17.out.size))
  have W18 := Lib.hid (W17.out.below hb (by omega))
  have X18 := Lib.hid (X17.out.below hb (by omega))
  have Y18 := Lib.hid (Y17.out.below hb (by omega))
  have Z18 := Lib.hid (Z17.out.below hb (by omega))
  have G18 := Lib.hid (G17.out.below hb (by omega))
  have T18 := Lib.hid (T17.out.below hb (by omega))
  have hs18 := hb.size
  clear AA17 PP17 OO17 BB17 W17 X17 Y17 Z17 G17 T17 hb
  clear T18
  go_wp2_with fail
  refine (markLns w18 w7.heap.size (w7.heap.size + 1) _ _ _ l X18.out 1 (by omega) (by omega) hll).mono ?_
  rintro e w19 ⟨⟨mX, hmX, rfl⟩, _, hb⟩
  have hnX : 0 < mX ∧ mX ≤ 4000000 := by omega
  clear hmX X18
  have AA19 := Lib.hid (AA18.out.below (hb.below (B := w.heap.size) (by omega) (by omega)) (Nat.le_refl _))
  have PP19 := Lib.hid (PP18.out.below (hb.below (B := w.heap.size) (by omega) (by omega)) (Nat.le_refl _))
  have OO19 := Lib.hid (OO18.out.below (hb.below (B := w.heap.size) (by omega) (by omega)) (Nat.le_refl _))
  have BB19 := Lib.hid (BB18.out.trans (hb.below (by omega) (by omega)))
  have W19 := Lib.hid (W18.out.beside hb (by omega) (by omega))
  have Y19 := Lib.hid (Y18.out.beside hb (by omega) (by omega))
  have Z19 := Lib.hid (Z18.out.beside hb (by omega) (by omega))
  have G19 := Lib.hid (G18.out.beside hb (by omega) (by omega))
  have hs19 := hb.size
  clear AA18 PP18 OO18 BB18 W18 Y18 Z18 G18 hb
  go_wp2_with fail
  refine (markPrs w19 w8.heap.size (w8.heap.size + 1) _ _ _ ps Y19.out mX (by omega) (by omega) hpl).mono ?_
  rintro e w20 ⟨⟨mY, hmY, rfl⟩, _, hb⟩
  have hnY : 0 < mY ∧ mY ≤ 8000000 := by omega
  clear hmY Y19
  have AA20 := Lib.hid (AA19.out.below (hb.below (B := w.heap.size) (by omega) (by omega)) (Nat.le_refl _))
  have PP20 := Lib.hid (PP19.out.below (hb.below (B := w.heap.size) (by omega) (by omega)) (Nat.le_refl _))
  have OO20 := Lib.hid (OO19.out.below (hb.below (B := w.heap.size) (by omega) (by omega)) (Nat.le_refl _))
  have BB20 := Lib.hid (BB19.out.trans (hb.below (by omega) (by omega)))
  have W20 := Lib.hid (W19.out.beside hb (by omega) (by omega))
  have Z20 := Lib.hid (Z19.out.beside hb (by omega) (by omega))
  have G20 := Lib.hid (G19.out.beside hb (by omega) (by omega))
  have hs20 := hb.size
  clear AA19 PP19 OO19 BB19 W19 Z19 G19 hb
  go_wp2_with fail
  refine (markOfs w20 w9.heap.size (w9.heap.size + 1) _ _ _ os Z20.out mY (by omega) (by omega) hol).mono ?_
  rintro e w21 ⟨⟨mZ, hmZ, rfl⟩, _, hb⟩
  have hnZ : 0 < mZ ∧ mZ ≤ 12000000 := by omega
  clear hmZ Z20
  have AA21 := Lib.hid (AA20.out.below (hb.below (B := w.heap.size) (by omega) (by omega)) (Nat.le_refl _))
  have PP21 := Lib.hid (PP20.out.below (hb.below (B := w.heap.size) (by omega) (by omega)) (Nat.le_refl _))
  have OO21 := Lib.hid (OO20.out.below (hb.below (B := w.heap.size) (by omega) (by omega)) (Nat.le_refl _))
  have BB21 := Lib.hid (BB20.out.trans (hb.below (by omega) (by omega)))
  have W21 := Lib.hid (W20.out.beside hb (by omega) (by omega))
  have G21 := Lib.hid (G20.out.beside hb (by omega) (by omega))
  have hs21 := hb.size
  clear AA20 PP20 OO20 BB20 W20 G20 hb
  have hm0 : decide ((mZ : Int) < 0) = false := decide_eq_false (by omega)
  go_wp2_with fail
  refine (eqRws w21 w21.heap.size w21.heap.size raG raW _ _ _ RS (G21.out.rows.more (by omega)) (W21.out.rows.more (by omega)) (Nat.le_refl _) (Nat.le_refl _) hRn).mono ?_
  rintro e w22 ⟨rfl, hb⟩
  have AA22 := Lib.hid (AA21.out.below hb (by omega))
  have PP22 := Lib.hid (PP21.out.below hb (by omega))
  have OO22 := Lib.hid (OO21.out.below hb (by omega))
  have BB22 := Lib.hid (BB21.out.trans (hb.mono BB21.out.size))
  have W22 := Lib.hid (W21.out.below hb (by omega))
  have G22 := Lib.hid (G21.out.below hb (by omega))
  have hs22 := hb.size
  clear AA21 PP21 OO21 BB21 W21 G21 hb
  go_wp2_with fail
  refine (markRws w22 _ _ raG _ _ RS G22.out 1 (by omega) (by omega) hRn).mono ?_
  rintro e w23 ⟨⟨mg, hmg, rfl⟩, hq, hb⟩
  have M23 := Lib.hid hq
  clear G22 hq
  have AA23 := Lib.hid (AA22.out.below (hb.below (B := w.heap.size) (by omega) (by omega)) (Nat.le_refl _))
  have PP23 := Lib.hid (PP22.out.below (hb.below (B := w.heap.size) (by omega) (by omega)) (Nat.le_refl _))
  have OO23 := Lib.hid (OO22.out.below (hb.below (B := w.heap.size) (by omega) (by omega)) (Nat.le_refl _))
  have BB23 := Lib.hid (BB22.out.trans (hb.below (by omega) (by omega)))
  have W23 := Lib.hid (W22.out.beside hb (by omega) (by omega))
  have hs23 := hb.size
  clear AA22 PP22 OO22 BB22 W22 hb
  have HMg : Hid (1 + 3 * RS.length = mg) := hmg.symm
  have hmb : mg ≤ 4000000 := by omega
  have hdg : decide ((mg : Int) < 0) = false := decide_eq_false (by omega)
  have hbg : ((mg : Int) != (mg : Int)) = false := bne_self_eq_false _
  clear hmg
  go_wp2_with fail
  refine (heldRws w23 w23.heap.size raG _ _ 1 (M23.out.rows.more (by omega)) (Nat.le_refl _) (by omega) (by omega) hRn).mono ?_
  rintro e w24 ⟨rfl, hb⟩
  rw [HMg.out]
  have AA24 := Lib.hid (AA23.out.below hb (by omega))
  have PP24 := Lib.hid (PP23.out.below hb (by omega))
  have OO24 := Lib.hid (OO23.out.below hb (by omega))
  have BB24 := Lib.hid (BB23.out.trans (hb.mono BB23.out.size))
  have W24 := Lib.hid (W23.out.below hb (by omega))
  have M24 := Lib.hid (M23.out.below hb (by omega))
  have hs24 := hb.size
  clear AA23 PP23 OO23 BB23 W23 M23 hb
  go_wp2_with fail
  refine (toLns w24 w.heap.size la ln lc l AA24.out (by omega) hln).mono ?_
  rintro e w25 ⟨rfl, hq, hz25, hb⟩
  have TX25 := Lib.hid hq
  clear hq
  have AA25 := Lib.hid (AA24.out.below hb (by omega))
  have PP25 := Lib.hid (PP24.out.below hb (by omega))
  have OO25 := Lib.hid (OO24.out.below hb (by omega))
  have BB25 := Lib.hid (BB24.out.trans (hb.mono BB24.out.size))
  have W25 := Lib.hid (W24.out.below hb (by omega))
  have M25 := Lib.hid (M24.out.below hb (by omega))
  have hs25 := hb.size
  clear AA24 PP24 OO24 BB24 W24 M24 hb
  go_wp2_with fail
  refine (toPrs w25 w.heap.size pa pn pc ps PP25.out (by omega) hpn).mono ?_
  rintro e w26 ⟨rfl, hq, hz26, hb⟩
  have TY26 := Lib.hid hq
  clear hq
  have AA26 := Lib.hid (AA25.out.below hb (by omega))
  have PP26 := Lib.hid (PP25.out.below hb (by omega))
  have OO26 := Lib.hid (OO25.out.below hb (by omega))
  have BB26 := Lib.hid (BB25.out.trans (hb.mono BB25.out.size))
  have W26 := Lib.hid (W25.out.below hb (by omega))
  have M26 := Lib.hid (M25.out.below hb (by omega))
  have TX26 := Lib.hid (TX25.out.below hb (by omega))
  have hs26 := hb.size
  clear AA25 PP25 OO25 BB25 W25 M25 TX25 hb
  go_wp2_with fail
  refine (toOfs w26 w.heap.size oa on oc os OO26.out (by omega) hon).mono ?_
  rintro e w27 ⟨rfl, hq, hz27, hb⟩
  have TZ27 := Lib.hid hq
  clear hq
  have AA27 := Lib.hid (AA26.out.below hb (by omega))
  have PP27 := Lib.hid (PP26.out.below hb (by omega))
  have OO27 := Lib.hid (OO26.out.below hb (by omega))
  have BB27 := Lib.hid (BB26.out.trans (hb.mono BB26.out.size))
  have W27 := Lib.hid (W26.out.below hb (by omega))
  have M27 := Lib.hid (M26.out.below hb (by omega))
  have TX27 := Lib.hid (TX26.out.below hb (by omega))
  have TY27 := Lib.hid (TY26.out.below hb (by omega))
  have hs27 := hb.size
  clear AA26 PP26 OO26 BB26 W26 M26 TX26 TY26 hb
  have HSp := Lib.hid (implBill w27 w27.heap.size _ _ _ l.length l.length ps.length ps.length os.length os.length l ps os (TX27.out.more (by omega)) (TY27.out.more (by omega)) (TZ27.out.more (by omega)) (Nat.le_refl _) hll hpl hol HIl.out)
  rw [HRS.out, HSM.out, HRB.out] at HSp
  go_wp2_with fail
  refine HSp.out.mono ?_
  rintro e w28 ⟨raH, rcH, rfl, hq, hb⟩
  have H28 := Lib.hid hq
  clear hq
  have AA28 := Lib.hid (AA27.out.below hb (by omega))
  have PP28 := Lib.hid (PP27.out.below hb (by omega))
  have OO28 := Lib.hid (OO27.out.below hb (by omega))
  have BB28 := Lib.hid (BB27.out.trans (hb.mono BB27.out.size))
  have W28 := Lib.hid (W27.out.below hb (by omega))
  have M28 := Lib.hid (M27.out.below hb (by omega))
  have TX28 := Lib.hid (TX27.out.below hb (by omega))
  have TY28 := Lib.hid (TY27.out.below hb (by omega))
  have TZ28 := Lib.hid (TZ27.out.below hb (by omega))
  have hs28 := hb.size
  clear AA27 PP27 OO27 BB27 W27 M27 TX27 TY27 TZ27 hb HSp
  go_wp2_with fail
  refine (eqRws w28 w28.heap.size w28.heap.size raH raW _ _ _ RS (H28.out.rows.more (by omega)) (W28.out.rows.more (by omega)) (Nat.le_refl _) (Nat.le_refl _) hRn).mono ?_
  rintro e w29 ⟨rfl, hb⟩
  have AA29 := Lib.hid (AA28.out.below hb (by omega))
  have PP29 := Lib.hid (PP28.out.below hb (by omega))
  have OO29 := Lib.hid (OO28.out.below hb (by omega))
  have BB29 := Lib.hid (BB28.out.trans (hb.mono BB28.out.size))
  have W29 := Lib.hid (W28.out.below hb (by omega))
  have M29 := Lib.hid (M28.out.below hb (by omega))
  have TX29 := Lib.hid (TX28.out.below hb (by omega))
  have TY29 := Lib.hid (TY28.out.below hb (by omega))
  have TZ29 := Lib.hid (TZ28.out.below hb (by omega))
  have H29 := Lib.hid (H28.out.below hb (by omega))
  have hs29 := hb.size
  clear AA28 PP28 OO28 BB28 W28 M28 TX28 TY28 TZ28 H28 hb
  go_wp2_with fail
  refine (heldRws w29 w29.heap.size raG _ _ 1 (M29.out.rows.more (by omega)) (Nat.le_refl _) (by omega) (by omega) hRn).mono ?_
  rintro e w30 ⟨rfl, hb⟩
  rw [HMg.out]
  have AA30 := Lib.hid (AA29.out.below hb (by omega))
  have PP30 := Lib.hid (PP29.out.below hb (by omega))
  have OO30 := Lib.hid (OO29.out.below hb (by omega))
  have BB30 := Lib.hid (BB29.out.trans (hb.mono BB29.out.size))
  have W30 := Lib.hid (W29.out.below hb (by omega))
  have M30 := Lib.hid (M29.out.below hb (by omega))
  have TX30 := Lib.hid (TX29.out.below hb (by omega))
  have TY30 := Lib.hid (TY29.out.below hb (by omega))
  have TZ30 := Lib.hid (TZ29.out.below hb (by omega))
  have H30 := Lib.hid (H29.out.below hb (by omega))
  have hs30 := hb.size
  clear AA29 PP29 OO29 BB29 W29 M29 TX29 TY29 TZ29 H29 hb
  go_wp2
  go_ret
  exact ⟨rfl, BB30.out⟩
end Go.Proofs.Ytdbdmfaphdjdpaa
