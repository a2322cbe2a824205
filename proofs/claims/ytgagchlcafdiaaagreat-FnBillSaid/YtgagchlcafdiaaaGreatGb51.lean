/- The walk of the law FnBill. -/
import Derived.Test.YtgagchlcafdiaaaGreatGb49
import Derived.Test.YtgagchlcafdiaaaGreatGb50
import Derived.Test.YtgagchlcafdiaaaGreatGb33
import Derived.Deep.RegionHeld3
namespace Go.Proofs.YtgagchlcafdiaaaGreat
open Go.RowKit
open List (setIfInBounds_toArray set_cons_zero set_cons_succ)
open Go in
theorem lk51 {P : Program} {ops : Array Oper} {Q : Exit → Act → World → Prop} {md : Region.Mode} {S : World → Prop} {i : Nat} {oi : Oper} {v : Value} {fuel : Nat} {listed : Array Bool} {a : Act} {w : World} (hi : ops[i]? = some oi) (hd : (Region.wanted oi (yielded ops a.tmps) = true ∧ ∀ w, S w → (execOp a.eval oi).run P w = .ok (.value v) w) ∨ (Region.wanted oi (yielded ops a.tmps) = false ∧ v = undef)) (h : wpAnyH P md ops Q S fuel (listed.setIfInBounds i true) (a.put oi.dst v) w) (hs : Region.noSelect ops = true := by kernel_rfl) (hf : Region.free md ops listed i = true := by kernel_rfl) (hr : (Region.ready md ops listed).contains i = true := by kernel_rfl) (hQ : ∀ c a w, Q (.panic c) (a.put oi.dst v) w → Q (.panic c) a w := by exact fun _ _ _ h => h) (hS : S w := by assumption) : wpAnyH P md ops Q S (fuel + 1) listed a w := wpAnyH_take hi hs hf hr hQ hd hS h
set_option linter.unusedVariables false
set_option linter.unusedSimpArgs false

theorem bill_lens {l : List LnV} {ps : List PrV} {os : List OfV} : (billRs l ps os true).length = (openL l).length := by
 show (rowsV ps os l).length = _
 unfold rowsV
 rw [List.length_map]
/-- What holds before round j of the law's loop. -/
def BillR (l : List LnV) (ps : List PrV) (os : List OfV) (SM : Int) (j k : Nat) (z : Int) : Prop := (openL (l.take j)).length = k ∧ z = SM - sumR (rowsV ps os (l.take j))
set_option maxRecDepth 100000 in
set_option maxHeartbeats 16000000 in
theorem fnBillWalk (a : Option Addr) (len cap : Nat) (zs : List Int) (w : World) (h : IsRow .u8 w a len cap zs) :
  Calls Tryz.prog 3 #[.slice a len cap] w fun e w' => e = .returned (.bool true) ∧ Below w.heap.size w w' := by
 by_cases hl : len ≤ 1048576
 rotate_left
 ·go_enter Tryz.func3, Tryz.ntmps3
  go_wp2_with fail
  refine (bigYes a len cap hl _).mono ?_
  rintro e w1 ⟨rfl, rfl⟩
  go_wp2
  go_ret
  exact ⟨rfl, Below.refl _ _⟩
 have HS := Lib.hid (src_of_row h hl)
 clear h
 go_enter Tryz.func3, Tryz.ntmps3
 go_wp2_with fail
 refine (bigNo a len cap hl _).mono ?_
 rintro e w1 ⟨rfl, rfl⟩
 go_wp2_with fail
 refine (drawBill w w.heap.size a len cap (Nat.le_refl _) HS.out).mono ?_
 rintro e w1 ⟨la, pa, oa, ln, lc, pn, pc, on, oc, l, ps, os, rfl, hl1, hp1, ho1, hln, hpn, hon, hml, hmp, hmo, hb1⟩
 have HB1 := Lib.hid hb1
 have HL1 := Lib.hid hl1
 have HP1 := Lib.hid hp1
 have HO1 := Lib.hid ho1
 have HML := Lib.hid hml
 have HMP := Lib.hid hmp
 have HMO := Lib.hid hmo
 have hll := hl1.1
 have hs1 := hb1.size
 obtain ⟨RB, hRB⟩ : ∃ r, billB l ps os = r := ⟨_, rfl⟩
 have HSp := Lib.hid (implBill w1 w1.heap.size la pa oa ln lc pn pc on oc l ps os HL1.out HP1.out HO1.out (Nat.le_refl _) hln hpn hon HML.out)
 have HSs := fun (w2 : World) (hb : Below w1.heap.size w1 w2) => specBill w2 w1.heap.size la pa oa ln lc pn pc on oc l ps os (HL1.out.below hb (Nat.le_refl _)) (HP1.out.below hb (Nat.le_refl _)) (HO1.out.below hb (Nat.le_refl _)) hb.size hln hpn hon HML.out HMP.out HMO.out
 obtain ⟨RS, hRS⟩ : ∃ r, billRs l ps os (billB l ps os) = r := ⟨_, rfl⟩
 obtain ⟨SM, hSM⟩ : ∃ r, billSum l ps os (billB l ps os) = r := ⟨_, rfl⟩
 have hRl : RS.length ≤ l.length := by rw [← hRS]; exact billRs_len3
 rw [hRS, hSM, hRB] at HSp
 have HSs := Lib.hid HSs
 have HRS : Hid (billRs l ps os RB = RS) := by have := hRS; rwa [hRB] at this
 have HSM : Hid (billSum l ps os RB = SM) := by have := hSM; rwa [hRB] at this
 have HQ := Lib.hid (And.intro hRS (And.intro hSM hRB))
 have HRB := Lib.hid hRB
 clear hb1 hl1 hp1 ho1 hml hmp hmo hRS hSM hRB
 go_wp2_with fail
 refine HSp.out.mono ?_
 rintro e w2 ⟨ra, rc, rfl, hr2, hb⟩
 have HSq := Lib.hid (HSs.out w2 hb)
 rw [HQ.out.1, HQ.out.2.1, HQ.out.2.2] at HSq
 have HB2 := Lib.hid (HB1.out.trans (hb.mono (by omega)))
 have HL2 := Lib.hid (HL1.out.below hb (by omega))
 have HP2 := Lib.hid (HP1.out.below hb (by omega))
 have HO2 := Lib.hid (HO1.out.below hb (by omega))
 have hs2 := hb.size
 clear HB1 HL1 HP1 HO1
 clear hb HSs HSp HQ
 have HR2 := Lib.hid (hr2)
 clear hr2
 go_wp2_with fail
 refine HSq.out.mono ?_
 rintro e w3 ⟨rb, rc3, rfl, hr3, hb⟩
 have HB3 := Lib.hid (HB2.out.trans (hb.mono (by omega)))
 have HL3 := Lib.hid (HL2.out.below hb (by omega))
 have HP3 := Lib.hid (HP2.out.below hb (by omega))
 have HO3 := Lib.hid (HO2.out.below hb (by omega))
 have HR3 := Lib.hid (HR2.out.below hb (by omega))
 have hs3 := hb.size
 clear HB2 HL2 HP2 HO2 HR2
 have HW3 := Lib.hid (hr3)
 clear hb HSq hr3
 go_wp2_with fail
 refine (drawPricesOk w3 w.heap.size a len cap HB3.out.size (HS.out.kept fun k hk => HB3.out.block k hk)).mono ?_
 rintro e w4 ⟨xa, xn, xc, xs, hxn, rfl, hx, hxi, hb⟩
 have HB4 := Lib.hid (HB3.out.trans (hb.mono (by omega)))
 have HL4 := Lib.hid (HL3.out.below hb (by omega))
 have HP4 := Lib.hid (HP3.out.below hb (by omega))
 have HO4 := Lib.hid (HO3.out.below hb (by omega))
 have HR4 := Lib.hid (HR3.out.below hb (by omega))
 have HW4 := Lib.hid (HW3.out.below hb (by omega))
 have hs4 := hb.size
 clear HB3 HL3 HP3 HO3 HR3 HW3
 clear hb
 have HX4 := Lib.hid (hx)
 have HXi := Lib.hid hxi
 clear hx hxi
 go_wp2_with fail
 refine (drawPriceOf w4 w.heap.size a len cap HB4.out.size (HS.out.kept fun k hk => HB4.out.block k hk)).mono ?_
 rintro e w5 ⟨ya, yn, yc, ys, t, hyn, ht, rfl, hy, hyi, hb⟩
 have HB5 := Lib.hid (HB4.out.trans (hb.mono (by omega)))
 have HL5 := Lib.hid (HL4.out.below hb (by omega))
 have HP5 := Lib.hid (HP4.out.below hb (by omega))
 have HO5 := Lib.hid (HO4.out.below hb (by omega))
 have HR5 := Lib.hid (HR4.out.below hb (by omega))
 have HW5 := Lib.hid (HW4.out.below hb (by omega))
 have HX5 := Lib.hid (HX4.out.below hb (by omega))
 have hs5 := hb.size
 clear HB4 HL4 HP4 HO4 HR4 HW4 HX4
 clear hb
 have HY5 := Lib.hid (hy)
 have HYi := Lib.hid hyi
 clear hy hyi HS
 have HV := Lib.hid (fun (wz wy : World) (e : Ending) (h : PriceP ys t wz e wy) => priceP_val h)
 generalize priceC ys t = pC at HV
 generalize priceF ys t = pF at HV
 go_wp2_with fail
 refine (implPriceOf w5 w5.heap.size ya yn yc ys t HY5.out (Nat.le_refl _) (by omega)).mono ?_
 intro e w6 h6
 obtain ⟨rfl, hb⟩ := HV.out _ _ _ h6
 clear h6
 have HB6 := Lib.hid (HB5.out.trans (hb.mono (by omega)))
 have HL6 := Lib.hid (HL5.out.below hb (by omega))
 have HP6 := Lib.hid (HP5.out.below hb (by omega))
 have HO6 := Lib.hid (HO5.out.below hb (by omega))
 have HR6 := Lib.hid (HR5.out.below hb (by omega))
 have HW6 := Lib.hid (HW5.out.below hb (by omega))
 have HX6 := Lib.hid (HX5.out.below hb (by omega))
 have HY6 := Lib.hid (HY5.out.below hb (by omega))
 have hs6 := hb.size
 clear HB5 HL5 HP5 HO5 HR5 HW5 HX5 HY5
 clear hb
 go_wp2_with fail
 refine (specPriceOf w6 w5.heap.size ya yn yc ys t HY6.out (by omega) (by omega) HYi.out).mono ?_
 intro e w7 h6
 obtain ⟨rfl, hb⟩ := HV.out _ _ _ h6
 clear h6
 have HB7 := Lib.hid (HB6.out.trans (hb.mono (by omega)))
 have HL7 := Lib.hid (HL6.out.below hb (by omega))
 have HP7 := Lib.hid (HP6.out.below hb (by omega))
 have HO7 := Lib.hid (HO6.out.below hb (by omega))
 have HR7 := Lib.hid (HR6.out.below hb (by omega))
 have HW7 := Lib.hid (HW6.out.below hb (by omega))
 have HX7 := Lib.hid (HX6.out.below hb (by omega))
 have HY7 := Lib.hid (HY6.out.below hb (by omega))
 have hs7 := hb.size
 clear HB6 HL6 HP6 HO6 HR6 HW6 HX6 HY6
 clear hb
 clear HY7
 clear HV HYi
 obtain ⟨XB, hXB⟩ : ∃ r, PrsB xs = r := ⟨_, rfl⟩
 have HXB := Lib.hid hXB
 clear hXB
 have hc1 : (RB != RB) = false := bne_self_eq_false _
 have hc2 : (SM != SM) = false := bne_self_eq_false _
 have hc3 : (RB == RB) = true := beq_self_eq_true _
 have hc4 : (SM == SM) = true := beq_self_eq_true _
 have hc5 : (pC != pC) = false := bne_self_eq_false _
 have hc6 : (pF != pF) = false := bne_self_eq_false _
 have hc7 : (XB != XB) = false := bne_self_eq_false _
 have hc8 : (pC == pC) = true := beq_self_eq_true _
 have hc9 : (pF == pF) = true := beq_self_eq_true _
 have hc10 : (XB == XB) = true := beq_self_eq_true _
 rcases RB with _ | _
 ·skip
  go_wp2_with fail
  refine (sameRowsY w7 w2.heap.size w3.heap.size ra rb RS.length rc rc3 RS HR7.out.rows HW7.out.rows (by omega) (by omega) (by omega)).mono ?_
  rintro e w8 ⟨rfl, hb⟩
  have HB8 := Lib.hid (HB7.out.trans (hb.mono (by omega)))
  have HL8 := Lib.hid (HL7.out.below hb (by omega))
  have HP8 := Lib.hid (HP7.out.below hb (by omega))
  have HO8 := Lib.hid (HO7.out.below hb (by omega))
  have HR8 := Lib.hid (HR7.out.below hb (by omega))
  have HW8 := Lib.hid (HW7.out.below hb (by omega))
  have HX8 := Lib.hid (HX7.out.below hb (by omega))
  have hs8 := hb.size
  clear HB7 HL7 HP7 HO7 HR7 HW7 HX7
  clear hb
  go_wp2_with fail
  refine (implPricesOk w8 w4.heap.size xa xn xc xs HX8.out (by omega) (by omega)).mono ?_
  rintro e w9 ⟨rfl, hb⟩
  have HB9 := Lib.hid (HB8.out.trans (hb.mono (by omega)))
  have HL9 := Lib.hid (HL8.out.below hb (by omega))
  have HP9 := Lib.hid (HP8.out.below hb (by omega))
  have HO9 := Lib.hid (HO8.out.below hb (by omega))
  have HR9 := Lib.hid (HR8.out.below hb (by omega))
  have HW9 := Lib.hid (HW8.out.below hb (by omega))
  have HX9 := Lib.hid (HX8.out.below hb (by omega))
  have hs9 := hb.size
  clear HB8 HL8 HP8 HO8 HR8 HW8 HX8
  rw [HXB.out]
  clear hb
  go_wp2_with fail
  refine (specPrsOk w9 w4.heap.size xa xn xc xs HX9.out (by omega) HXi.out).mono ?_
  rintro e w10 ⟨rfl, hb⟩
  have HB10 := Lib.hid (HB9.out.trans (hb.mono (by omega)))
  have HL10 := Lib.hid (HL9.out.below hb (by omega))
  have HP10 := Lib.hid (HP9.out.below hb (by omega))
  have HO10 := Lib.hid (HO9.out.below hb (by omega))
  have HR10 := Lib.hid (HR9.out.below hb (by omega))
  have HW10 := Lib.hid (HW9.out.below hb (by omega))
  have HX10 := Lib.hid (HX9.out.below hb (by omega))
  have hs10 := hb.size
  clear HB9 HL9 HP9 HO9 HR9 HW9 HX9
  rw [HXB.out]
  clear hb
  go_wp2_with fail
  refine (sameRowsY w10 w2.heap.size w3.heap.size ra rb RS.length rc rc3 RS HR10.out.rows HW10.out.rows (by omega) (by omega) (by omega)).mono ?_
  rintro e w11 ⟨rfl, hb⟩
  have HB11 := Lib.hid (HB10.out.trans (hb.mono (by omega)))
  have HL11 := Lib.hid (HL10.out.below hb (by omega))
  have HP11 := Lib.hid (HP10.out.below hb (by omega))
  have HO11 := Lib.hid (HO10.out.below hb (by omega))
  have HR11 := Lib.hid (HR10.out.below hb (by omega))
  have HW11 := Lib.hid (HW10.out.below hb (by omega))
  have HX11 := Lib.hid (HX10.out.below hb (by omega))
  have hs11 := hb.size
  clear HB10 HL10 HP10 HO10 HR10 HW10 HX10
  clear hb
  go_wp2_with fail
  refine (implPricesOk w11 w4.heap.size xa xn xc xs HX11.out (by omega) (by omega)).mono ?_
  rintro e w12 ⟨rfl, hb⟩
  have HB12 := Lib.hid (HB11.out.trans (hb.mono (by omega)))
  have HL12 := Lib.hid (HL11.out.below hb (by omega))
  have HP12 := Lib.hid (HP11.out.below hb (by omega))
  have HO12 := Lib.hid (HO11.out.below hb (by omega))
  have HR12 := Lib.hid (HR11.out.below hb (by omega))
  have HW12 := Lib.hid (HW11.out.below hb (by omega))
  have HX12 := Lib.hid (HX11.out.below hb (by omega))
  have hs12 := hb.size
  clear HB11 HL11 HP11 HO11 HR11 HW11 HX11
  rw [HXB.out]
  clear hb
  go_wp2_with fail
  refine (specPrsOk w12 w4.heap.size xa xn xc xs HX12.out (by omega) HXi.out).mono ?_
  rintro e w13 ⟨rfl, hb⟩
  have HB13 := Lib.hid (HB12.out.trans (hb.mono (by omega)))
  have HL13 := Lib.hid (HL12.out.below hb (by omega))
  have HP13 := Lib.hid (HP12.out.below hb (by omega))
  have HO13 := Lib.hid (HO12.out.below hb (by omega))
  have HR13 := Lib.hid (HR12.out.below hb (by omega))
  have HW13 := Lib.hid (HW12.out.below hb (by omega))
  have HX13 := Lib.hid (HX12.out.below hb (by omega))
  have hs13 := hb.size
  clear HB12 HL12 HP12 HO12 HR12 HW12 HX12
  rw [HXB.out]
  clear hb
  go_wp2
  go_ret
  exact ⟨rfl, HB13.out⟩
 go_wp2_with fail
 refine (sameRowsY w7 w2.heap.size w3.heap.size ra rb RS.length rc rc3 RS HR7.out.rows HW7.out.rows (by omega) (by omega) (by omega)).mono ?_
 rintro e w8 ⟨rfl, hb⟩
 have HB8 := Lib.hid (HB7.out.trans (hb.mono (by omega)))
 have HL8 := Lib.hid (HL7.out.below hb (by omega))
 have HP8 := Lib.hid (HP7.out.below hb (by omega))
 have HO8 := Lib.hid (HO7.out.below hb (by omega))
 have HR8 := Lib.hid (HR7.out.below hb (by omega))
 have HW8 := Lib.hid (HW7.out.below hb (by omega))
 have HX8 := Lib.hid (HX7.out.below hb (by omega))
 have hs8 := hb.size
 clear HB7 HL7 HP7 HO7 HR7 HW7 HX7
 clear hb
 go_wp2_with fail
 refine (implPricesOk w8 w4.heap.size xa xn xc xs HX8.out (by omega) (by omega)).mono ?_
 rintro e w9 ⟨rfl, hb⟩
 have HB9 := Lib.hid (HB8.out.trans (hb.mono (by omega)))
 have HL9 := Lib.hid (HL8.out.below hb (by omega))
 have HP9 := Lib.hid (HP8.out.below hb (by omega))
 have HO9 := Lib.hid (HO8.out.below hb (by omega))
 have HR9 := Lib.hid (HR8.out.below hb (by omega))
 have HW9 := Lib.hid (HW8.out.below hb (by omega))
 have HX9 := Lib.hid (HX8.out.below hb (by omega))
 have hs9 := hb.size
 clear HB8 HL8 HP8 HO8 HR8 HW8 HX8
 rw [HXB.out]
 clear hb
 go_wp2_with fail
 refine (specPrsOk w9 w4.heap.size xa xn xc xs HX9.out (by omega) HXi.out).mono ?_
 rintro e w10 ⟨rfl, hb⟩
 have HB10 := Lib.hid (HB9.out.trans (hb.mono (by omega)))
 have HL10 := Lib.hid (HL9.out.below hb (by omega))
 have HP10 := Lib.hid (HP9.out.below hb (by omega))
 have HO10 := Lib.hid (HO9.out.below hb (by omega))
 have HR10 := Lib.hid (HR9.out.below hb (by omega))
 have HW10 := Lib.hid (HW9.out.below hb (by omega))
 have HX10 := Lib.hid (HX9.out.below hb (by omega))
 have hs10 := hb.size
 clear HB9 HL9 HP9 HO9 HR9 HW9 HX9
 rw [HXB.out]
 clear hb
 clear HX10 HW10
 clear HXi HXB hc1 hc2 hc3 hc4 hc5 hc6 hc7 hc8 hc9 hc10 hxn hyn ht
 have hpl := bill_plain HRB.out
 obtain ⟨yb1, yb2, yb3, yb4⟩ := bill_yes HRB.out
 have hln2 : RS.length = (openL l).length := by rw [← HRS.out]; exact bill_lens
 obtain ⟨RP, hRP⟩ : ∃ r, billRs l ps [] true = r := ⟨_, rfl⟩
 have hln3 : RP.length = (openL l).length := by rw [← hRP]; exact bill_lens
 have HSp := Lib.hid (implBill w10 w1.heap.size la pa none ln lc pn pc 0 0 l ps [] HL10.out HP10.out ⟨rfl, fun i hi => absurd hi (by omega)⟩ (by omega) hln hpn (by omega) HML.out)
 rw [hpl, hRP] at HSp
 have HRP := Lib.hid hRP
 clear hRP hpl
 generalize billSum l ps [] true = sp at HSp
 go_wp2_with fail
 refine HSp.out.mono ?_
 rintro e w11 ⟨qa, qc, rfl, hq, hb⟩
 clear HO10
 have HB11 := Lib.hid (HB10.out.trans (hb.mono (by omega)))
 have HL11 := Lib.hid (HL10.out.below hb (by omega))
 have HP11 := Lib.hid (HP10.out.below hb (by omega))
 have HR11 := Lib.hid (HR10.out.below hb (by omega))
 have hs11 := hb.size
 clear HB10 HL10 HP10 HR10
 have HF11 := Lib.hid (hq)
 clear hb hq HSp
 rw [hln3]
 have hnn : (((openL l).length : Int) != ((openL l).length : Int)) = false := bne_self_eq_false _
 have hol := openL_len l
 obtain ⟨m, hm⟩ : ∃ z, (openL l).length = z := ⟨_, rfl⟩
 have HM := Lib.hid hm
 rw [hm] at hln2 hln3 hnn hol ⊢
 have HSM2 : Hid (sumR (rowsV ps os l) = SM) := HSM.out
 have HI0 : Hid (BillR l ps os SM 0 0 SM) := ⟨rfl, by show SM = SM - 0; omega⟩
 try rw [hln2]
 clear hm HSM
 go_wp2
 go_loopw [7, 22, 23] (fun z c i wr => ∃ (j k : Nat) (y : Int), j ≤ ln ∧ i = .int .i64 (j : Int) ∧ c = .int .i64 (k : Int) ∧ z = .int .i64 y ∧ Hid (BillR l ps os SM j k y) ∧ Hid (Below w11.heap.size w11 wr)) (fun _ _ i _ => ln - (intOf i).toNat)
 case atStart => exact ⟨0, 0, SM, Nat.zero_le _, rfl, rfl, rfl, HI0, Below.refl _ _⟩
 case round =>
  obtain ⟨j, k, y, hj, rfl, rfl, rfl, HI, HBk⟩ := hrel
  have hb := HBk.out
  have HBr := Lib.hid (HB11.out.trans (hb.mono (by omega)))
  have HLr := Lib.hid (HL11.out.below hb (by omega))
  have HPr := Lib.hid (HP11.out.below hb (by omega))
  have HRr := Lib.hid (HR11.out.below hb (by omega))
  have HFr := Lib.hid (HF11.out.below hb (by omega))
  have hsr := hb.size
  clear hb HI0
  by_cases hlt : j < ln
  rotate_left
  ·obtain rfl : j = ln := by omega
   have ht : l.take j = l := by rw [← hll]; exact List.take_length
   obtain ⟨i1, i2⟩ := HI.out
   rw [ht, HM.out] at i1
   rw [ht, HSM2.out] at i2
   have hy0 : y = 0 := by omega
   have hmk : m = k := i1
   subst hy0 hmk
   have hb0 : ((0 : Int) == 0) = true := rfl
   have hmm : ((m : Int) == (m : Int)) = true := beq_self_eq_true _
   have hmd : decide ((m : Int) = (m : Int)) = true := decide_eq_true rfl
   clear i1 i2 ht
   go_wp2
   go_ret
   exact ⟨rfl, HBr.out⟩
  obtain ⟨lb, lo, hla, hlb, d0, d1, d2⟩ := HLr.out.2 j hlt
  have hji : (j : Int) < (ln : Int) := by omega
  have hj0 : (0 : Int) ≤ (j : Int) := by omega
  have hjn : ¬ ((j : Int) < 0) := by omega
  have HO1 := Lib.hid (fun (h : (atLn l j).saved = false) => open_at (l := l) (i := j) (by omega) h)
  have HO2 := Lib.hid (fun (h : (atLn l j).saved = false) => rows_sum_at (ps := ps) (os := os) (l := l) (i := j) (by omega) h)
  have HO3 := Lib.hid (openL_snoc (l := l) (k := j) (by omega))
  have HO4 := Lib.hid (rowsV_snoc (ps := ps) (os := os) (l := l) (k := j) (by omega))
  have hok : (atLn l j).ok = true := (lns_parts yb1).1 j (by omega)
  have HLs := Lib.hid (row_less (ps := ps) (os := os) yb2 yb3 hok)
  have hsum1 := rows_sum_le (ps := ps) (os := os) (l := l) yb1 yb2 yb3 j
  have hsum2 := rows_sum_le (ps := ps) (os := os) (l := l) yb1 yb2 yb3 (j + 1)
  have hsumA := rows_sum_le (ps := ps) (os := os) (l := l) yb1 yb2 yb3 ln
  have htk : l.take ln = l := by rw [← hll]; exact List.take_length
  rw [htk, HSM2.out] at hsumA
  obtain ⟨i1, i2⟩ := HI.out
  rw [i1] at HO1
  clear htk
  change _ = some (Value.string (atLn l j).item) at d0
  change _ = some (Value.int .i64 (atLn l j).qty) at d1
  change _ = some (Value.bool (atLn l j).saved) at d2
  generalize hx : atLn l j = x at d0 d1 d2 HO1 HO2 HO3 HO4 HLs hok
  rcases hsv : x.saved with _ | _
  rotate_left
  ·rw [hsv] at d2
   have HI2 : Hid (BillR l ps os SM (j + 1) k y) := by
    refine ⟨?_, ?_⟩
    ·rw [HO3.out, if_pos hsv]; exact i1
    ·rw [HO4.out, if_pos hsv]; exact i2
   subst hla
   go_wp2
   go_roundw
   case rel => exact ⟨j + 1, k, y, by omega, by go_num, rfl, rfl, HI2, HBk⟩
   case measure => simp [intOf]; omega
  obtain ⟨hkm, hxk⟩ := HO1.out hsv
  have hsn := HO2.out hsv
  rw [HM.out] at hkm
  obtain ⟨rb2, ro, hra, hrb, e0, e1, e2⟩ := HRr.out.rows.2 k (by omega)
  obtain ⟨qb, qo, hqa, hqb, f0, f1, f2⟩ := HFr.out.rows.2 k (by omega)
  have hr1 : RS.getD k RwV.zero = rowV ps os x := by
   rw [← HRS.out, ← hxk]
   exact rowsV_at (by rw [HM.out]; exact hkm)
  have hr2 : RP.getD k RwV.zero = rowV ps [] x := by
   rw [← HRP.out, ← hxk]
   exact rowsV_at (by rw [HM.out]; exact hkm)
  rw [hr1] at e0 e1 e2
  rw [hr2] at f0 f1 f2
  have hcn : (rowV ps [] x).cents = centsOf ps x.item * x.qty := rfl
  have hhas : hasP ps x = true := yb4 x (by
   rw [← hxk, List.getD_eq_getElem?_getD, List.getElem?_eq_getElem (by rw [HM.out]; exact hkm)]
   exact List.getElem_mem _)
  have HPv := Lib.hid (fun (wz wy : World) (e : Ending) (h : PriceP ps x.item wz e wy) => priceP_val h)
  have hpc : priceC ps x.item = centsOf ps x.item := if_pos yb2
  have hpf : priceF ps x.item = true := by unfold priceF; rw [yb2]; exact hhas
  rw [hpc, hpf] at HPv
  have hle := HLs.out
  have hcl := cents_le yb2 x.item
  obtain ⟨_, hq1, hq2⟩ := ln_ok hok
  rw [hcn] at f2 hle
  change _ = some (Value.string x.item) at e0
  rw [hsv] at d2
  rw [i2] at *
  have HI2 : Hid (BillR l ps os SM (j + 1) (k + 1) (SM - sumR (rowsV ps os (l.take j)) - (rowV ps os x).cents)) := by
   refine ⟨?_, ?_⟩
   ·rw [HO3.out, if_neg (by rw [hsv]; decide), List.length_append, i1]; rfl
   ·rw [hsn]; omega
  rw [hsn] at hsum2
  clear hr1 hr2 hxk hhas hpc hpf HLs HO1 HO2 HO3 HO4 hsn hsv hok hcn f0 f1 e1 i1
  generalize (rowV ps os x).cents = rz at e2 hle HI2 hsum2
  generalize sumR (rowsV ps os (l.take j)) = sj at HI2 hsum1 hsum2 ⊢
  generalize hcz : centsOf ps x.item = cz at f2 hle HPv hcl
  have hwm : IntKind.i64.wrap (cz * x.qty) = cz * x.qty := IntWalk.i64_in _ (by
   have h1 := Int.mul_le_mul hcl.2 hq2 (by omega) (by omega)
   have h2 := Int.mul_nonneg hcl.1 (by omega : (0 : Int) ≤ x.qty)
   omega)
  generalize x.item = xi at d0 e0 HPv
  generalize x.qty = xq at d1 f2 hle hq1 hq2 hwm
  clear hx hcz
  subst hla hra hqa
  go_wp2_with fail
  refine (implPriceOf wr w1.heap.size pa pn pc ps xi HPr.out (by omega) (by omega)).mono ?_
  intro e wz hz
  obtain ⟨rfl, hb⟩ := HPv.out _ _ _ hz
  have hzz := hb.size
  have D0 := Lib.hid ((World.cell?_of_block (hb.block lb (by omega))).trans d0)
  have D1 := Lib.hid ((World.cell?_of_block (hb.block lb (by omega))).trans d1)
  have E0 := Lib.hid ((World.cell?_of_block (hb.block rb2 (by omega))).trans e0)
  have E2 := Lib.hid ((World.cell?_of_block (hb.block rb2 (by omega))).trans e2)
  have F2 := Lib.hid ((World.cell?_of_block (hb.block qb (by omega))).trans f2)
  have HBz : Hid (Below w11.heap.size w11 wz) := HBk.out.trans (hb.mono (by omega))
  clear hz hb d0 d1 d2 e0 e2 f2 HPv
  have hki : (k : Int) < (m : Int) := by omega
  have hk0 : (0 : Int) ≤ (k : Int) := by omega
  have hkn : ¬ ((k : Int) < 0) := by omega
  have hkm2 : ((k : Int) == (m : Int)) = false := by simp; omega
  have hkm3 : decide ((k : Int) = (m : Int)) = false := decide_eq_false (by omega)
  have hyy : (!(xi.toList == xi.toList)) = false := by simp
  have hmm : (cz * xq != cz * xq) = false := bne_self_eq_false _
  have hgt : decide (cz * xq < rz) = false := decide_eq_false (by omega)
  go_upto_region 21 with fail
  rename_i KR hKR
  have hS : wz.drew.cell? ⟨lb, lo + j * 3, none⟩ = some (.string xi) ∧ wz.drew.cell? ⟨lb, lo + j * 3 + 1, none⟩ = some (.int .i64 xq) ∧ wz.drew.cell? ⟨rb2, ro + k * 3, none⟩ = some (.string xi) ∧ wz.drew.cell? ⟨rb2, ro + k * 3 + 2, none⟩ = some (.int .i64 rz) ∧ wz.drew.cell? ⟨qb, qo + k * 3 + 2, none⟩ = some (.int .i64 (cz * xq)) := ⟨D0.out, D1.out, E0.out, E2.out, F2.out⟩
  refine wp_region_held_drew (S := fun w' => w'.cell? ⟨lb, lo + j * 3, none⟩ = some (.string xi) ∧ w'.cell? ⟨lb, lo + j * 3 + 1, none⟩ = some (.int .i64 xq) ∧ w'.cell? ⟨rb2, ro + k * 3, none⟩ = some (.string xi) ∧ w'.cell? ⟨rb2, ro + k * 3 + 2, none⟩ = some (.int .i64 rz) ∧ w'.cell? ⟨qb, qo + k * 3 + 2, none⟩ = some (.int .i64 (cz * xq))) (by kernel_rfl) hS (fun hHeld => ?_)
  clear hHeld
  refine lk51 (i := 0) (oi := ⟨some 171, .move (.tmp 25), 4, "laws.go:1325", #[], none⟩) (v := ?_) rfl (Or.inl ⟨by rfl, ?_⟩) ?_
  rotate_left
  ·intro w hSw
   (try dsimp only at hSw)
   first | (go_simp; done) | (go_simp; with_reducible rfl)
  (try simp only [Act.put, setIfInBounds_toArray, set_cons_zero, set_cons_succ])
  refine lk51 (i := 1) (oi := ⟨some 172, .unOp .not 4 (.tmp 171), 4, "laws.go:1325", #[⟨0, .data⟩], none⟩) (v := ?_) rfl (Or.inl ⟨by rfl, ?_⟩) ?_
  rotate_left
  ·intro w hSw
   (try dsimp only at hSw)
   first | (go_simp; done) | (go_simp; with_reducible rfl)
  (try simp only [Act.put, setIfInBounds_toArray, set_cons_zero, set_cons_succ])
  refine lk51 (i := 2) (oi := ⟨some 173, .move (.tmp 172), 4, "laws.go:1325", #[⟨1, .data⟩], none⟩) (v := ?_) rfl (Or.inl ⟨by rfl, ?_⟩) ?_
  rotate_left
  ·intro w hSw
   (try dsimp only at hSw)
   first | (go_simp; done) | (go_simp; with_reducible rfl)
  (try simp only [Act.put, setIfInBounds_toArray, set_cons_zero, set_cons_succ])
  refine lk51 (i := 3) (oi := ⟨some 174, .move (.tmp 22), 3, "laws.go:1325", #[⟨2, .guard⟩], some (2, false)⟩) (v := ?_) rfl (Or.inl ⟨by rfl, ?_⟩) ?_
  rotate_left
  ·intro w hSw
   (try dsimp only at hSw)
   first | (go_simp; done) | (go_simp; with_reducible rfl)
  (try simp only [Act.put, setIfInBounds_toArray, set_cons_zero, set_cons_succ])
  refine lk51 (i := 4) (oi := ⟨some 175, .move (.tmp 6), 29, "laws.go:1325", #[⟨2, .guard⟩], some (2, false)⟩) (v := ?_) rfl (Or.inl ⟨by rfl, ?_⟩) ?_
  rotate_left
  ·intro w hSw
   (try dsimp only at hSw)
   first | (go_simp; done) | (go_simp; with_reducible rfl)
  (try simp only [Act.put, setIfInBounds_toArray, set_cons_zero, set_cons_succ])
  refine lk51 (i := 5) (oi := ⟨some 176, .call ⟨.builtin .len, #[.tmp 175], #[29]⟩, 3, "laws.go:1325", #[⟨4, .data⟩, ⟨2, .guard⟩], some (2, false)⟩) (v := ?_) rfl (Or.inl ⟨by rfl, ?_⟩) ?_
  rotate_left
  ·intro w hSw
   (try dsimp only at hSw)
   first | (go_simp; done) | (go_simp; with_reducible rfl)
  (try simp only [Act.put, setIfInBounds_toArray, set_cons_zero, set_cons_succ])
  refine lk51 (i := 6) (oi := ⟨some 177, .binOp .eql 3 (.tmp 174) (.tmp 176) 3, 4, "laws.go:1325", #[⟨3, .data⟩, ⟨5, .data⟩, ⟨2, .guard⟩], some (2, false)⟩) (v := ?_) rfl (Or.inl ⟨by rfl, ?_⟩) ?_
  rotate_left
  ·intro w hSw
   (try dsimp only at hSw)
   first | (go_simp; done) | (go_simp; with_reducible rfl)
  (try simp only [Act.put, setIfInBounds_toArray, set_cons_zero, set_cons_succ])
  refine lk51 (i := 7) (oi := ⟨some 178, .pick (.tmp 173) (.const (Value.bool true)) (.tmp 177), 4, "laws.go:1325", #[⟨2, .data⟩, ⟨6, .data⟩], none⟩) (v := ?_) rfl (Or.inl ⟨by rfl, ?_⟩) ?_
  rotate_left
  ·intro w hSw
   (try dsimp only at hSw)
   first | (go_simp; done) | (go_simp; with_reducible rfl)
  (try simp only [Act.put, setIfInBounds_toArray, set_cons_zero, set_cons_succ])
  refine lk51 (i := 8) (oi := ⟨some 179, .move (.tmp 178), 4, "laws.go:1325", #[⟨7, .data⟩, ⟨2, .chain⟩], none⟩) (v := ?_) rfl (Or.inl ⟨by rfl, ?_⟩) ?_
  rotate_left
  ·intro w hSw
   (try dsimp only at hSw)
   first | (go_simp; done) | (go_simp; with_reducible rfl)
  (try simp only [Act.put, setIfInBounds_toArray, set_cons_zero, set_cons_succ])
  refine lk51 (i := 9) (oi := ⟨some 180, .move (.tmp 6), 29, "laws.go:1325", #[⟨8, .guard⟩], some (8, false)⟩) (v := ?_) rfl (Or.inl ⟨by rfl, ?_⟩) ?_
  rotate_left
  ·intro w hSw
   (try dsimp only at hSw)
   first | (go_simp; done) | (go_simp; with_reducible rfl)
  (try simp only [Act.put, setIfInBounds_toArray, set_cons_zero, set_cons_succ])
  refine lk51 (i := 10) (oi := ⟨some 181, .move (.tmp 22), 3, "laws.go:1325", #[⟨8, .guard⟩], some (8, false)⟩) (v := ?_) rfl (Or.inl ⟨by rfl, ?_⟩) ?_
  rotate_left
  ·intro w hSw
   (try dsimp only at hSw)
   first | (go_simp; done) | (go_simp; with_reducible rfl)
  (try simp only [Act.put, setIfInBounds_toArray, set_cons_zero, set_cons_succ])
  refine lk51 (i := 11) (oi := ⟨some 182, .indexAddr 29 (.tmp 180) (.tmp 181), 0, "laws.go:1325", #[⟨9, .data⟩, ⟨10, .data⟩, ⟨8, .guard⟩], some (8, false)⟩) (v := ?_) rfl (Or.inl ⟨by rfl, ?_⟩) ?_
  rotate_left
  ·intro w hSw
   (try dsimp only at hSw)
   first | (go_simp; done) | (go_simp; with_reducible rfl)
  (try simp only [Act.put, setIfInBounds_toArray, set_cons_zero, set_cons_succ])
  refine lk51 (i := 12) (oi := ⟨some 183, .fieldAddr 42 (.tmp 182) 0, 0, "laws.go:1325", #[⟨11, .data⟩, ⟨8, .guard⟩], some (8, false)⟩) (v := ?_) rfl (Or.inl ⟨by rfl, ?_⟩) ?_
  rotate_left
  ·intro w hSw
   (try dsimp only at hSw)
   first | (go_simp; done) | (go_simp; with_reducible rfl)
  (try simp only [Act.put, setIfInBounds_toArray, set_cons_zero, set_cons_succ])
  refine lk51 (i := 13) (oi := ⟨some 184, .load 9 (.tmp 183), 9, "laws.go:1325", #[⟨12, .data⟩, ⟨8, .guard⟩], some (8, false)⟩) (v := ?_) rfl (Or.inl ⟨by rfl, ?_⟩) ?_
  rotate_left
  ·intro w hSw
   (try dsimp only at hSw)
   first | (go_simp; done) | (go_simp; with_reducible rfl)
  (try simp only [Act.put, setIfInBounds_toArray, set_cons_zero, set_cons_succ])
  refine lk51 (i := 14) (oi := ⟨some 185, .move (.tmp 3), 24, "laws.go:1325", #[⟨8, .guard⟩], some (8, false)⟩) (v := ?_) rfl (Or.inl ⟨by rfl, ?_⟩) ?_
  rotate_left
  ·intro w hSw
   (try dsimp only at hSw)
   first | (go_simp; done) | (go_simp; with_reducible rfl)
  (try simp only [Act.put, setIfInBounds_toArray, set_cons_zero, set_cons_succ])
  refine lk51 (i := 15) (oi := ⟨some 186, .move (.tmp 23), 3, "laws.go:1325", #[⟨8, .guard⟩], some (8, false)⟩) (v := ?_) rfl (Or.inl ⟨by rfl, ?_⟩) ?_
  rotate_left
  ·intro w hSw
   (try dsimp only at hSw)
   first | (go_simp; done) | (go_simp; with_reducible rfl)
  (try simp only [Act.put, setIfInBounds_toArray, set_cons_zero, set_cons_succ])
  refine lk51 (i := 16) (oi := ⟨some 187, .indexAddr 24 (.tmp 185) (.tmp 186), 0, "laws.go:1325", #[⟨14, .data⟩, ⟨15, .data⟩, ⟨8, .guard⟩], some (8, false)⟩) (v := ?_) rfl (Or.inl ⟨by rfl, ?_⟩) ?_
  rotate_left
  ·intro w hSw
   (try dsimp only at hSw)
   first | (go_simp; done) | (go_simp; with_reducible rfl)
  (try simp only [Act.put, setIfInBounds_toArray, set_cons_zero, set_cons_succ])
  refine lk51 (i := 17) (oi := ⟨some 188, .fieldAddr 40 (.tmp 187) 0, 0, "laws.go:1325", #[⟨16, .data⟩, ⟨8, .guard⟩], some (8, false)⟩) (v := ?_) rfl (Or.inl ⟨by rfl, ?_⟩) ?_
  rotate_left
  ·intro w hSw
   (try dsimp only at hSw)
   first | (go_simp; done) | (go_simp; with_reducible rfl)
  (try simp only [Act.put, setIfInBounds_toArray, set_cons_zero, set_cons_succ])
  refine lk51 (i := 18) (oi := ⟨some 189, .load 9 (.tmp 188), 9, "laws.go:1325", #[⟨17, .data⟩, ⟨8, .guard⟩], some (8, false)⟩) (v := ?_) rfl (Or.inl ⟨by rfl, ?_⟩) ?_
  rotate_left
  ·intro w hSw
   (try dsimp only at hSw)
   first | (go_simp; done) | (go_simp; with_reducible rfl)
  (try simp only [Act.put, setIfInBounds_toArray, set_cons_zero, set_cons_succ])
  refine lk51 (i := 19) (oi := ⟨some 190, .binOp .neq 9 (.tmp 184) (.tmp 189) 9, 4, "laws.go:1325", #[⟨13, .data⟩, ⟨18, .data⟩, ⟨8, .guard⟩], some (8, false)⟩) (v := ?_) rfl (Or.inl ⟨by rfl, ?_⟩) ?_
  rotate_left
  ·intro w hSw
   (try dsimp only at hSw)
   first | (go_simp; done) | (go_simp; with_reducible rfl)
  (try simp only [Act.put, setIfInBounds_toArray, set_cons_zero, set_cons_succ])
  refine lk51 (i := 20) (oi := ⟨some 191, .pick (.tmp 179) (.const (Value.bool true)) (.tmp 190), 4, "laws.go:1325", #[⟨8, .data⟩, ⟨19, .data⟩], none⟩) (v := ?_) rfl (Or.inl ⟨by rfl, ?_⟩) ?_
  rotate_left
  ·intro w hSw
   (try dsimp only at hSw)
   first | (go_simp; done) | (go_simp; with_reducible rfl)
  (try simp only [Act.put, setIfInBounds_toArray, set_cons_zero, set_cons_succ])
  refine lk51 (i := 21) (oi := ⟨some 192, .move (.tmp 191), 4, "laws.go:1325", #[⟨20, .data⟩, ⟨8, .chain⟩], none⟩) (v := ?_) rfl (Or.inl ⟨by rfl, ?_⟩) ?_
  rotate_left
  ·intro w hSw
   (try dsimp only at hSw)
   first | (go_simp; done) | (go_simp; with_reducible rfl)
  (try simp only [Act.put, setIfInBounds_toArray, set_cons_zero, set_cons_succ])
  refine lk51 (i := 22) (oi := ⟨some 193, .move (.tmp 19), 29, "laws.go:1325", #[⟨21, .guard⟩], some (21, false)⟩) (v := ?_) rfl (Or.inl ⟨by rfl, ?_⟩) ?_
  rotate_left
  ·intro w hSw
   (try dsimp only at hSw)
   first | (go_simp; done) | (go_simp; with_reducible rfl)
  (try simp only [Act.put, setIfInBounds_toArray, set_cons_zero, set_cons_succ])
  refine lk51 (i := 23) (oi := ⟨some 194, .move (.tmp 22), 3, "laws.go:1325", #[⟨21, .guard⟩], some (21, false)⟩) (v := ?_) rfl (Or.inl ⟨by rfl, ?_⟩) ?_
  rotate_left
  ·intro w hSw
   (try dsimp only at hSw)
   first | (go_simp; done) | (go_simp; with_reducible rfl)
  (try simp only [Act.put, setIfInBounds_toArray, set_cons_zero, set_cons_succ])
  refine lk51 (i := 24) (oi := ⟨some 195, .indexAddr 29 (.tmp 193) (.tmp 194), 0, "laws.go:1325", #[⟨22, .data⟩, ⟨23, .data⟩, ⟨21, .guard⟩], some (21, false)⟩) (v := ?_) rfl (Or.inl ⟨by rfl, ?_⟩) ?_
  rotate_left
  ·intro w hSw
   (try dsimp only at hSw)
   first | (go_simp; done) | (go_simp; with_reducible rfl)
  (try simp only [Act.put, setIfInBounds_toArray, set_cons_zero, set_cons_succ])
  refine lk51 (i := 25) (oi := ⟨some 196, .fieldAddr 42 (.tmp 195) 2, 0, "laws.go:1325", #[⟨24, .data⟩, ⟨21, .guard⟩], some (21, false)⟩) (v := ?_) rfl (Or.inl ⟨by rfl, ?_⟩) ?_
  rotate_left
  ·intro w hSw
   (try dsimp only at hSw)
   first | (go_simp; done) | (go_simp; with_reducible rfl)
  (try simp only [Act.put, setIfInBounds_toArray, set_cons_zero, set_cons_succ])
  refine lk51 (i := 26) (oi := ⟨some 197, .load 2 (.tmp 196), 2, "laws.go:1325", #[⟨25, .data⟩, ⟨21, .guard⟩], some (21, false)⟩) (v := ?_) rfl (Or.inl ⟨by rfl, ?_⟩) ?_
  rotate_left
  ·intro w hSw
   (try dsimp only at hSw)
   first | (go_simp; done) | (go_simp; with_reducible rfl)
  (try simp only [Act.put, setIfInBounds_toArray, set_cons_zero, set_cons_succ])
  refine lk51 (i := 27) (oi := ⟨some 198, .move (.tmp 24), 2, "laws.go:1325", #[⟨21, .guard⟩], some (21, false)⟩) (v := ?_) rfl (Or.inl ⟨by rfl, ?_⟩) ?_
  rotate_left
  ·intro w hSw
   (try dsimp only at hSw)
   first | (go_simp; done) | (go_simp; with_reducible rfl)
  (try simp only [Act.put, setIfInBounds_toArray, set_cons_zero, set_cons_succ])
  refine lk51 (i := 28) (oi := ⟨some 199, .move (.tmp 3), 24, "laws.go:1325", #[⟨21, .guard⟩], some (21, false)⟩) (v := ?_) rfl (Or.inl ⟨by rfl, ?_⟩) ?_
  rotate_left
  ·intro w hSw
   (try dsimp only at hSw)
   first | (go_simp; done) | (go_simp; with_reducible rfl)
  (try simp only [Act.put, setIfInBounds_toArray, set_cons_zero, set_cons_succ])
  refine lk51 (i := 29) (oi := ⟨some 200, .move (.tmp 23), 3, "laws.go:1325", #[⟨21, .guard⟩], some (21, false)⟩) (v := ?_) rfl (Or.inl ⟨by rfl, ?_⟩) ?_
  rotate_left
  ·intro w hSw
   (try dsimp only at hSw)
   first | (go_simp; done) | (go_simp; with_reducible rfl)
  (try simp only [Act.put, setIfInBounds_toArray, set_cons_zero, set_cons_succ])
  refine lk51 (i := 30) (oi := ⟨some 201, .indexAddr 24 (.tmp 199) (.tmp 200), 0, "laws.go:1325", #[⟨28, .data⟩, ⟨29, .data⟩, ⟨21, .guard⟩], some (21, false)⟩) (v := ?_) rfl (Or.inl ⟨by rfl, ?_⟩) ?_
  rotate_left
  ·intro w hSw
   (try dsimp only at hSw)
   first | (go_simp; done) | (go_simp; with_reducible rfl)
  (try simp only [Act.put, setIfInBounds_toArray, set_cons_zero, set_cons_succ])
  refine lk51 (i := 31) (oi := ⟨some 202, .fieldAddr 40 (.tmp 201) 1, 0, "laws.go:1325", #[⟨30, .data⟩, ⟨21, .guard⟩], some (21, false)⟩) (v := ?_) rfl (Or.inl ⟨by rfl, ?_⟩) ?_
  rotate_left
  ·intro w hSw
   (try dsimp only at hSw)
   first | (go_simp; done) | (go_simp; with_reducible rfl)
  (try simp only [Act.put, setIfInBounds_toArray, set_cons_zero, set_cons_succ])
  refine lk51 (i := 32) (oi := ⟨some 203, .load 2 (.tmp 202), 2, "laws.go:1325", #[⟨31, .data⟩, ⟨21, .guard⟩], some (21, false)⟩) (v := ?_) rfl (Or.inl ⟨by rfl, ?_⟩) ?_
  rotate_left
  ·intro w hSw
   (try dsimp only at hSw)
   first | (go_simp; done) | (go_simp; with_reducible rfl)
  (try simp only [Act.put, setIfInBounds_toArray, set_cons_zero, set_cons_succ])
  refine lk51 (i := 33) (oi := ⟨some 204, .binOp .mul 2 (.tmp 198) (.tmp 203) 2, 2, "laws.go:1325", #[⟨27, .data⟩, ⟨32, .data⟩, ⟨21, .guard⟩], some (21, false)⟩) (v := ?_) rfl (Or.inl ⟨by rfl, ?_⟩) ?_
  rotate_left
  ·intro w hSw
   (try dsimp only at hSw)
   first | (go_simp; done) | (go_simp; with_reducible rfl)
  (try simp only [Act.put, setIfInBounds_toArray, set_cons_zero, set_cons_succ])
  refine lk51 (i := 34) (oi := ⟨some 205, .binOp .neq 2 (.tmp 197) (.tmp 204) 2, 4, "laws.go:1325", #[⟨26, .data⟩, ⟨33, .data⟩, ⟨21, .guard⟩], some (21, false)⟩) (v := ?_) rfl (Or.inl ⟨by rfl, ?_⟩) ?_
  rotate_left
  ·intro w hSw
   (try dsimp only at hSw)
   first | (go_simp; done) | (go_simp; with_reducible rfl)
  (try simp only [Act.put, setIfInBounds_toArray, set_cons_zero, set_cons_succ])
  refine lk51 (i := 35) (oi := ⟨some 206, .pick (.tmp 192) (.const (Value.bool true)) (.tmp 205), 4, "laws.go:1325", #[⟨21, .data⟩, ⟨34, .data⟩], none⟩) (v := ?_) rfl (Or.inl ⟨by rfl, ?_⟩) ?_
  rotate_left
  ·intro w hSw
   (try dsimp only at hSw)
   first | (go_simp; done) | (go_simp; with_reducible rfl)
  (try simp only [Act.put, setIfInBounds_toArray, set_cons_zero, set_cons_succ])
  refine lk51 (i := 36) (oi := ⟨some 207, .move (.tmp 206), 4, "laws.go:1325", #[⟨35, .data⟩, ⟨21, .chain⟩], none⟩) (v := ?_) rfl (Or.inl ⟨by rfl, ?_⟩) ?_
  rotate_left
  ·intro w hSw
   (try dsimp only at hSw)
   first | (go_simp; done) | (go_simp; with_reducible rfl)
  (try simp only [Act.put, setIfInBounds_toArray, set_cons_zero, set_cons_succ])
  refine lk51 (i := 37) (oi := ⟨some 208, .move (.tmp 6), 29, "laws.go:1325", #[⟨36, .guard⟩], some (36, false)⟩) (v := ?_) rfl (Or.inl ⟨by rfl, ?_⟩) ?_
  rotate_left
  ·intro w hSw
   (try dsimp only at hSw)
   first | (go_simp; done) | (go_simp; with_reducible rfl)
  (try simp only [Act.put, setIfInBounds_toArray, set_cons_zero, set_cons_succ])
  refine lk51 (i := 38) (oi := ⟨some 209, .move (.tmp 22), 3, "laws.go:1325", #[⟨36, .guard⟩], some (36, false)⟩) (v := ?_) rfl (Or.inl ⟨by rfl, ?_⟩) ?_
  rotate_left
  ·intro w hSw
   (try dsimp only at hSw)
   first | (go_simp; done) | (go_simp; with_reducible rfl)
  (try simp only [Act.put, setIfInBounds_toArray, set_cons_zero, set_cons_succ])
  refine lk51 (i := 39) (oi := ⟨some 210, .indexAddr 29 (.tmp 208) (.tmp 209), 0, "laws.go:1325", #[⟨37, .data⟩, ⟨38, .data⟩, ⟨36, .guard⟩], some (36, false)⟩) (v := ?_) rfl (Or.inl ⟨by rfl, ?_⟩) ?_
  rotate_left
  ·intro w hSw
   (try dsimp only at hSw)
   first | (go_simp; done) | (go_simp; with_reducible rfl)
  (try simp only [Act.put, setIfInBounds_toArray, set_cons_zero, set_cons_succ])
  refine lk51 (i := 40) (oi := ⟨some 211, .fieldAddr 42 (.tmp 210) 2, 0, "laws.go:1325", #[⟨39, .data⟩, ⟨36, .guard⟩], some (36, false)⟩) (v := ?_) rfl (Or.inl ⟨by rfl, ?_⟩) ?_
  rotate_left
  ·intro w hSw
   (try dsimp only at hSw)
   first | (go_simp; done) | (go_simp; with_reducible rfl)
  (try simp only [Act.put, setIfInBounds_toArray, set_cons_zero, set_cons_succ])
  refine lk51 (i := 41) (oi := ⟨some 212, .load 2 (.tmp 211), 2, "laws.go:1325", #[⟨40, .data⟩, ⟨36, .guard⟩], some (36, false)⟩) (v := ?_) rfl (Or.inl ⟨by rfl, ?_⟩) ?_
  rotate_left
  ·intro w hSw
   (try dsimp only at hSw)
   first | (go_simp; done) | (go_simp; with_reducible rfl)
  (try simp only [Act.put, setIfInBounds_toArray, set_cons_zero, set_cons_succ])
  refine lk51 (i := 42) (oi := ⟨some 213, .move (.tmp 19), 29, "laws.go:1325", #[⟨36, .guard⟩], some (36, false)⟩) (v := ?_) rfl (Or.inl ⟨by rfl, ?_⟩) ?_
  rotate_left
  ·intro w hSw
   (try dsimp only at hSw)
   first | (go_simp; done) | (go_simp; with_reducible rfl)
  (try simp only [Act.put, setIfInBounds_toArray, set_cons_zero, set_cons_succ])
  refine lk51 (i := 43) (oi := ⟨some 214, .move (.tmp 22), 3, "laws.go:1325", #[⟨36, .guard⟩], some (36, false)⟩) (v := ?_) rfl (Or.inl ⟨by rfl, ?_⟩) ?_
  rotate_left
  ·intro w hSw
   (try dsimp only at hSw)
   first | (go_simp; done) | (go_simp; with_reducible rfl)
  (try simp only [Act.put, setIfInBounds_toArray, set_cons_zero, set_cons_succ])
  refine lk51 (i := 44) (oi := ⟨some 215, .indexAddr 29 (.tmp 213) (.tmp 214), 0, "laws.go:1325", #[⟨42, .data⟩, ⟨43, .data⟩, ⟨36, .guard⟩], some (36, false)⟩) (v := ?_) rfl (Or.inl ⟨by rfl, ?_⟩) ?_
  rotate_left
  ·intro w hSw
   (try dsimp only at hSw)
   first | (go_simp; done) | (go_simp; with_reducible rfl)
  (try simp only [Act.put, setIfInBounds_toArray, set_cons_zero, set_cons_succ])
  refine lk51 (i := 45) (oi := ⟨some 216, .fieldAddr 42 (.tmp 215) 2, 0, "laws.go:1325", #[⟨44, .data⟩, ⟨36, .guard⟩], some (36, false)⟩) (v := ?_) rfl (Or.inl ⟨by rfl, ?_⟩) ?_
  rotate_left
  ·intro w hSw
   (try dsimp only at hSw)
   first | (go_simp; done) | (go_simp; with_reducible rfl)
  (try simp only [Act.put, setIfInBounds_toArray, set_cons_zero, set_cons_succ])
  refine lk51 (i := 46) (oi := ⟨some 217, .load 2 (.tmp 216), 2, "laws.go:1325", #[⟨45, .data⟩, ⟨36, .guard⟩], some (36, false)⟩) (v := ?_) rfl (Or.inl ⟨by rfl, ?_⟩) ?_
  rotate_left
  ·intro w hSw
   (try dsimp only at hSw)
   first | (go_simp; done) | (go_simp; with_reducible rfl)
  (try simp only [Act.put, setIfInBounds_toArray, set_cons_zero, set_cons_succ])
  refine lk51 (i := 47) (oi := ⟨some 218, .binOp .gtr 2 (.tmp 212) (.tmp 217) 2, 4, "laws.go:1325", #[⟨41, .data⟩, ⟨46, .data⟩, ⟨36, .guard⟩], some (36, false)⟩) (v := ?_) rfl (Or.inl ⟨by rfl, ?_⟩) ?_
  rotate_left
  ·intro w hSw
   (try dsimp only at hSw)
   first | (go_simp; done) | (go_simp; with_reducible rfl)
  (try simp only [Act.put, setIfInBounds_toArray, set_cons_zero, set_cons_succ])
  refine lk51 (i := 48) (oi := ⟨some 219, .pick (.tmp 207) (.const (Value.bool true)) (.tmp 218), 4, "laws.go:1325", #[⟨36, .data⟩, ⟨47, .data⟩], none⟩) (v := ?_) rfl (Or.inl ⟨by rfl, ?_⟩) ?_
  rotate_left
  ·intro w hSw
   (try dsimp only at hSw)
   first | (go_simp; done) | (go_simp; with_reducible rfl)
  (try simp only [Act.put, setIfInBounds_toArray, set_cons_zero, set_cons_succ])
  refine wpAnyH_done (by kernel_rfl) ?_ _
  have HBd : Hid (Below w11.heap.size w11 wz.drew) := HBz.out.trans ⟨rfl, rfl, rfl, Nat.le_refl _, fun _ _ => rfl⟩
  obtain ⟨g0, g1, g2, g3, g4⟩ := hS
  generalize wz.drew = wd at HBd g0 g1 g2 g3 g4 ⊢
  refine hKR _ _ ?_
  have hws : IntKind.i64.wrap (SM - sj - rz) = SM - sj - rz := IntWalk.i64_in _ (by omega)
  go_wp2
  go_roundw
  case rel => exact ⟨j + 1, k + 1, SM - sj - rz, by omega, by go_num, by go_num, rfl, HI2, HBd⟩
  case measure => simp [intOf]; omega
end Go.Proofs.YtgagchlcafdiaaaGreat
