/- Walks and mathematics that several claims share, part 50. -/
import Derived.Test.YthkagbnpcjidfaaGreatDoorGq44
import Derived.Test.YthkagbnpcjidfaaGreatDoorGq48
import Derived.Test.YthkagbnpcjidfaaGreatDoorGq49
import Derived.Deep.Cut
namespace Go.Proofs.YthkagbnpcjidfaaGreatDoor
set_option maxRecDepth 100000
open Go.RowKit
set_option linter.unusedVariables false
set_option linter.unusedSimpArgs false
set_option maxHeartbeats 80000000 in
theorem fnUndoneWalk (E : Int → Addr) (a : Option Addr) (len cap : Nat) (bs : List Int) (w : World) (hE : eG w w.heap.size E) (h : IsRow .u8 w a len cap bs) :
  Calls Tryz.prog 6 #[.slice a len cap] w fun e w' => e = .returned (.bool true) ∧ Below w.heap.size w w' := by
 by_cases aBb : len ≤ 1048576
 rotate_left
 ·go_enter Tryz.func6, Tryz.ntmps6
  go_wp2_with fail
  refine (aIZ a len cap aBb w).mono ?_
  rintro e w' ⟨rfl, rfl⟩; go_wp2
  go_ret
  exact ⟨rfl, Below.refl _ _⟩
 have aCD := aRp (aBA h aBb)
 have gT := aRp hE
 clear h hE
 go_enter Tryz.func6, Tryz.ntmps6
 go_wp2_with fail
 refine (aK7 a len cap aBb w).mono ?_
 rintro e w' ⟨rfl, rfl⟩
 go_wp2_with fail
 refine (aDh w w.heap.size a len cap aRr aCD.out).mono ?_
 rintro e w0 ⟨⟨vK, vJ, vM, ano, vL⟩, dev, kind, item, qty, dv, sq, aEL, rfl, hx, bG⟩
 obtain ⟨xs, l, e1, a1, a2, a3, a4, a5, a6⟩ := hx
 have e1 : ano = l.length := e1
 subst e1
 have HE := aRp (gT.out.below bG aRr)
 clear gT
 have gT := HE
 clear HE
 have aFj := aRp a1.ints
 have aFv := aRp a2.ops
 have oJ := aRp bG
 have oH := aRp a3
 have nL := aRp a4
 have tW : item.size ≤ 1048576 := Nat.le_trans aEL (by omega)
 have J8 := aRp tW
 have HIa : Hid (∀ i, i < l.length → (aB l i).item.size ≤ 1048576) := fun i hi => Nat.le_trans (a5 i hi) (by omega)
 have lC := bG.size
 clear a1 a2 a3 a4 a5 bG aEL tW
 dsimp only
 go_upto_region 4 with fail
 have hT := aEY w0 #[.slice vK 4 vJ, .slice vM l.length vL] #[.int .i64 kind, .string item, .int .i64 qty, .int .i64 dv, .int .i64 sq] 27 29
 have U3 := aRp hT.1
 have T4 := aRp hT.2.1
 have hb := hT.2.2
 clear hT
 generalize (w0.alloc (.cells #[.slice vK 4 vJ, .slice vM l.length vL] 27)).alloc (.cells #[.int .i64 kind, .string item, .int .i64 qty, .int .i64 dv, .int .i64 sq] 29) = w1 at hb U3 T4 ⊢
 have eL := hb.size
 have aBq := bC hb aFj
 have aBs := bD hb aFv
 have dK := fV hb oJ
 have eQ := hU hb gT
 clear hb aFj aFv oJ gT
 obtain ⟨⟨k, zs, m⟩, hN⟩ : ∃ N, cD xs l dev kind item qty dv sq = N := ⟨_, rfl⟩
 have HN := aRp hN
 obtain ⟨hlz, hlm, hin, kU⟩ := wN hN
 have HI := aRp hin
 have HCt := aRp kU
 clear hN hin kU
 obtain ⟨lG, lF⟩ := pair_cells U3.out
 obtain ⟨x0, x1, x2, x3, x4⟩ := gG T4.out
 go_wp2_with fail
 have hc := zK w1 w1.heap.size E (eQ.out.more (by omega)) vK vM 4 vJ l.length vL xs l dev kind qty dv sq item (aBq.out.more (by omega)) (aBs.out.more (by omega)) aRr oH.out.1 nL.out (by omega) (by omega) J8.out
 rw [HN.out] at hc
 unfold r9 at hc
 dsimp only at hc
 refine hc.mono ?_
 clear hc
 rintro e w2 ⟨jL, gO, gQ, gP, cQ, rfl, gY, dY, yP, mH, bU, cC, hb⟩
 clear lG lF
 clear x0 x1 x2 x3 x4
 have gY := gY.more aRr mH
 have dY := dY.more yP aRr
 clear yP mH
 have aOD := aRp bU
 have aAg := aRp cC
 clear bU cC
 have eB := hb.size
 have aFi := bC hb aBq
 have aFu := bD hb aBs
 have cA := fV hb dK
 have dV := hU hb eQ
 have aFb := aU hb U3
 have aE8 := aU hb T4
 clear hb aBq aBs dK eQ U3 T4
 have aFg := aRp gY.ints
 have aFs := aRp dY.ops
 clear gY dY
 go_upto_region 5 with fail
 have hb : Below w2.heap.size w2 (w2.alloc (.cells #[.slice jL zs.length gO, .slice gQ m.length gP] 27)) := bl
 have aBn := aRp (bM (Below.refl _ (w2.alloc (.cells #[.slice jL zs.length gO, .slice gQ m.length gP] 27))))
 generalize w2.alloc (.cells #[.slice jL zs.length gO, .slice gQ m.length gP] 27) = w3 at hb aBn ⊢
 have iD := hb.size
 have aBp := bC hb aFi
 have aBr := bD hb aFu
 have dR := fV hb cA
 have HE3 := hU hb dV
 have aBo := aU hb aFb
 have aBm := aU hb aE8
 have aFf := bC hb aFg
 have aFr := bD hb aFs
 clear hb aFi aFu cA dV aFb aE8 aFg aFs
 obtain ⟨lG, lF⟩ := pair_cells aBo.out
 obtain ⟨x0, x1, x2, x3, x4⟩ := gG aBm.out
 go_wp2_with fail
 have hc := aBC w3 w3.heap.size vK vM 4 vJ l.length vL xs l kind qty dv sq item (aBp.out.more (by omega)) (aBr.out.more (by omega)) aRr oH.out nL.out J8.out dev HIa.out (by omega) (by omega)
 rw [HN.out] at hc
 unfold wC at hc
 dsimp only at hc
 refine hc.mono ?_
 clear hc
 rintro e w4 ⟨lO, lN, lQ, lP, rfl, gY, dY, hb, bU, cC⟩
 clear lG lF
 clear x0 x1 x2 x3 x4
 have aQo := aRp bU
 have aQr := aRp cC
 clear bU cC
 have vD := hb.size
 have aFh := bC hb aBp
 have aFt := bD hb aBr
 have iX := fV hb dR
 have yZ := hU hb HE3
 have aFa := aU hb aBo
 have aE7 := aU hb aBm
 have aFe := bC hb aFf
 have aFq := bD hb aFr
 have aE9 := aU hb aBn
 clear hb aBp aBr dR HE3 aBo aBm aFf aFr aBn
 have aFd := aRp gY.ints
 have aFp := aRp dY.ops
 clear gY dY
 go_upto_region 6 with fail
 have hb : Below w4.heap.size w4 (w4.alloc (.cells #[.slice lO zs.length lN, .slice lQ m.length lP] 27)) := bl
 have uJ := aRp (bM (Below.refl _ (w4.alloc (.cells #[.slice lO zs.length lN, .slice lQ m.length lP] 27))))
 generalize w4.alloc (.cells #[.slice lO zs.length lN, .slice lQ m.length lP] 27) = w5 at hb uJ ⊢
 have hs5 := hb.size
 have V0 := bC hb aFh
 have V6 := bD hb aFt
 have kL := fV hb iX
 have O9 := hU hb yZ
 have U2 := aU hb aFa
 have T2 := aU hb aE7
 have yE := bC hb aFe
 have yG := bD hb aFq
 have yC := aU hb aE9
 have yD := bC hb aFd
 have yF := bD hb aFp
 clear hb aFh aFt iX yZ aFa aE7 aFe aFq aE9 aFd aFp
 have hkk : (k != k) = false := bne_self_eq_false _
 have hke : (k == k) = true := beq_self_eq_true _
 by_cases hk0 : k = 0
 rotate_left
 ·have hk1 : (k != 0) = true := by simp [hk0]
  obtain ⟨lG, lF⟩ := pair_cells yC.out; obtain ⟨pT, pS⟩ := pair_cells uJ.out
  go_wp2_with fail
  refine (mV w5 w5.heap.size jL gQ lO lQ zs.length gO m.length gP zs.length lN m.length lP zs m zs m (yE.out.more (by omega)) (yG.out.more (by omega)) (yD.out.more (by omega)) (yF.out.more (by omega)) aRr (by omega) (by omega) (by omega) (by omega)).mono ?_
  rintro e w6 ⟨rfl, hb⟩; rw [decide_eq_true rfl, decide_eq_true rfl]; clear lG lF pT pS; have M9 := hb.size; have E5 := bC hb V0; have F0 := bD hb V6; have eC := fV hb kL; have Y5 := hU hb O9; have E4 := aU hb U2; have wE := aU hb T2; have uR := bC hb yE; have uU := bD hb yG; have uL := aU hb yC; have wG := bC hb yD; have wH := bD hb yF; have wF := aU hb uJ; clear hb V0 V6 kL O9 U2 T2 yE yG yC yD yF uJ; obtain ⟨lG, lF⟩ := pair_cells uL.out; obtain ⟨pT, pS⟩ := pair_cells wF.out
  go_wp2_with fail
  refine (mV w6 w6.heap.size jL gQ lO lQ zs.length gO m.length gP zs.length lN m.length lP zs m zs m (uR.out.more (by omega)) (uU.out.more (by omega)) (wG.out.more (by omega)) (wH.out.more (by omega)) aRr (by omega) (by omega) (by omega) (by omega)).mono ?_
  rintro e w7 ⟨rfl, hb⟩; rw [decide_eq_true rfl, decide_eq_true rfl]; clear lG lF pT pS; have hs7 := hb.size; have U9 := bC hb E5; have V5 := bD hb F0; have tB := fV hb eC; have HE7 := hU hb Y5; have U1 := aU hb E4; have T1 := aU hb wE; have U8 := bC hb uR; have V4 := bD hb uU; have T8 := aU hb uL; have U5 := bC hb wG; have V2 := bD hb wH; have T6 := aU hb wF; clear hb E5 F0 eC Y5 E4 wE uR uU uL wG wH wF; go_wp2
  go_ret
  exact ⟨rfl, tB.out⟩
 subst hk0
 by_cases hk5 : 5 < kind
 ·skip
  obtain ⟨lG, lF⟩ := pair_cells yC.out; obtain ⟨pT, pS⟩ := pair_cells uJ.out
  go_wp2_with fail
  refine (mV w5 w5.heap.size jL gQ lO lQ zs.length gO m.length gP zs.length lN m.length lP zs m zs m (yE.out.more (by omega)) (yG.out.more (by omega)) (yD.out.more (by omega)) (yF.out.more (by omega)) aRr (by omega) (by omega) (by omega) (by omega)).mono ?_
  rintro e w6 ⟨rfl, hb⟩; rw [decide_eq_true rfl, decide_eq_true rfl]; clear lG lF pT pS; have M9 := hb.size; have E5 := bC hb V0; have F0 := bD hb V6; have eC := fV hb kL; have Y5 := hU hb O9; have E4 := aU hb U2; have wE := aU hb T2; have uR := bC hb yE; have uU := bD hb yG; have uL := aU hb yC; have wG := bC hb yD; have wH := bD hb yF; have wF := aU hb uJ; clear hb V0 V6 kL O9 U2 T2 yE yG yC yD yF uJ; obtain ⟨x0, x1, x2, x3, x4⟩ := gG wE.out; obtain ⟨lG, lF⟩ := pair_cells uL.out; obtain ⟨pT, pS⟩ := pair_cells wF.out
  go_wp2_with fail
  refine (mV w6 w6.heap.size jL gQ lO lQ zs.length gO m.length gP zs.length lN m.length lP zs m zs m (uR.out.more (by omega)) (uU.out.more (by omega)) (wG.out.more (by omega)) (wH.out.more (by omega)) aRr (by omega) (by omega) (by omega) (by omega)).mono ?_
  rintro e w7 ⟨rfl, hb⟩; rw [decide_eq_true rfl, decide_eq_true rfl]; clear lG lF pT pS; have hs7 := hb.size; have U9 := bC hb E5; have V5 := bD hb F0; have tB := fV hb eC; have HE7 := hU hb Y5; have U1 := aU hb E4; have T1 := aU hb wE; have U8 := bC hb uR; have V4 := bD hb uU; have T8 := aU hb uL; have U5 := bC hb wG; have V2 := bD hb wH; have T6 := aU hb wF; clear hb E5 F0 eC Y5 E4 wE uR uU uL wG wH wF; go_wp2
  go_ret
  exact ⟨rfl, tB.out⟩
 obtain ⟨hca, iO, hk1, qW, B5⟩ := aBQ (by rw [HN.out]) (Int.not_lt.1 hk5)
 rw [HN.out] at B5
 have HTk := aRp B5
 have HCA := aRp hca
 clear B5 hca qW
 obtain ⟨lG, lF⟩ := pair_cells yC.out
 obtain ⟨pT, pS⟩ := pair_cells uJ.out
 go_wp2_with fail
 refine (mV w5 w5.heap.size jL gQ lO lQ zs.length gO m.length gP zs.length lN m.length lP zs m zs m (yE.out.more (by omega)) (yG.out.more (by omega)) (yD.out.more (by omega)) (yF.out.more (by omega)) aRr (by omega) (by omega) (by omega) (by omega)).mono ?_
 rintro e w6 ⟨rfl, hb⟩
 rw [decide_eq_true rfl, decide_eq_true rfl]
 clear lG lF pT pS
 have M9 := hb.size
 have E5 := bC hb V0
 have F0 := bD hb V6
 have eC := fV hb kL
 have Y5 := hU hb O9
 have E4 := aU hb U2
 have wE := aU hb T2
 have uR := bC hb yE
 have uU := bD hb yG
 have uL := aU hb yC
 have wG := bC hb yD
 have wH := bD hb yF
 have wF := aU hb uJ
 clear hb V0 V6 kL O9 U2 T2 yE yG yC yD yF uJ
 obtain ⟨d, rfl⟩ : ∃ d : Nat, dev = (d : Int) := ⟨dev.toNat, by omega⟩
 have hd4 : d < 4 := by omega
 obtain ⟨⟨k2, us, ul⟩, hN⟩ : ∃ N, cD zs m (d : Int) 7 ⟨#[]⟩ 0 0 0 = N := ⟨_, rfl⟩
 have HU := aRp hN
 obtain ⟨aQS, aQ0, hin, kU⟩ := wN hN
 have qZ := aRp hin
 have aOE := aRp kU
 clear hN hin kU
 obtain ⟨⟨k3, rs, rl⟩, hN⟩ : ∃ N, cD us ul (d : Int) 8 ⟨#[]⟩ 0 0 0 = N := ⟨_, rfl⟩
 have HR := aRp hN
 obtain ⟨aQR, aQZ, hin, kU⟩ := wN hN
 have rQ := aRp hin
 have aRo := aRp kU
 clear hN hin kU
 have hud := aMO (by rw [HN.out]) (by omega) HN.out HU.out HR.out
 dsimp only at hud
 obtain ⟨_, kU, hk2, p5, hlu, aNt⟩ := hud
 have hlr : pO us ul (d : Int) = zs.getD d 0 → k3 = 0 ∧ dC rs rl = dC zs m := aNt
 clear aNt
 subst hk2
 have hz4 : zs.length = 4 := (eP kU).1
 have pC : (dC xs l).length ≤ 160 := by unfold dC; rw [List.length_map]; exact aBP
 have hmm : (dC zs m).length ≤ 160 := by unfold dC; rw [List.length_map]; exact aBP
 obtain ⟨LL, hLL⟩ : ∃ x, dC xs l = x := ⟨_, rfl⟩
 obtain ⟨MM, hMM⟩ : ∃ x, dC zs m = x := ⟨_, rfl⟩
 obtain ⟨nx, hnx⟩ : ∃ x, pO us ul (d : Int) = x := ⟨_, rfl⟩
 obtain ⟨vv, hvv⟩ : ∃ x, zs.getD d 0 = x := ⟨_, rfl⟩
 rw [hLL] at hlu pC
 rw [hMM] at hlr hmm
 rw [hnx, hvv] at hlr
 have HLL := aRp hLL
 have HMM := aRp hMM
 have HLU := aRp hlu
 have HLR := aRp hlr
 have Y2 := aRp hnx
 have HVv := aRp hvv
 have HZ4 := aRp hz4
 clear hLL hMM hlu hlr hnx hvv hz4 kU p5 hk1
 obtain ⟨lG, lF⟩ := pair_cells uL.out
 obtain ⟨x0, x1, x2, x3, x4⟩ := gG wE.out
 go_wp2_with fail
 have hc := zK w6 w6.heap.size E (Y5.out.more (by omega)) jL gQ zs.length gO m.length gP zs m (d : Int) 7 0 0 0 ⟨#[]⟩ (uR.out.more (by omega)) (uU.out.more (by omega)) aRr aOD.out.1 aAg.out (by omega) (by omega) (Nat.zero_le _)
 rw [HU.out] at hc
 unfold r9 at hc
 dsimp only at hc
 refine hc.mono ?_
 clear hc
 rintro e w7 ⟨Z0, Y9, Z2, Z1, cQ, rfl, gY, dY, yP, mH, bU, cC, hb⟩
 clear lG lF
 clear x0 x1 x2 x3 x4
 have gY := gY.more aRr mH
 have dY := dY.more yP aRr
 clear yP mH
 have aQn := aRp bU
 have aFE := aRp cC
 clear bU cC
 have hs7 := hb.size
 have U9 := bC hb E5
 have V5 := bD hb F0
 have tB := fV hb eC
 have HE7 := hU hb Y5
 have U1 := aU hb E4
 have T1 := aU hb wE
 have U8 := bC hb uR
 have V4 := bD hb uU
 have T8 := aU hb uL
 have U5 := bC hb wG
 have V2 := bD hb wH
 have T6 := aU hb wF
 clear hb E5 F0 eC Y5 E4 wE uR uU uL wG wH wF
 have aN7 := aRp gY.ints
 have aOu := aRp dY.ops
 clear gY dY
 go_upto_region 9 with fail
 have hb : Below w7.heap.size w7 (w7.alloc (.cells #[.slice Z0 us.length Y9, .slice Z2 ul.length Z1] 27)) := bl
 have aHg := aRp (bM (Below.refl _ (w7.alloc (.cells #[.slice Z0 us.length Y9, .slice Z2 ul.length Z1] 27))))
 generalize w7.alloc (.cells #[.slice Z0 us.length Y9, .slice Z2 ul.length Z1] 27) = w8 at hb aHg ⊢
 have hs8 := hb.size
 have x8 := bC hb U9
 have aAd := bD hb V5
 have Y7 := fV hb tB
 have HE8 := hU hb HE7
 have t7 := aU hb U1
 have aBl := aU hb T1
 have L2 := bC hb U8
 have L3 := bD hb V4
 have yB := aU hb T8
 have U4 := bC hb U5
 have V1 := bD hb V2
 have E3 := aU hb T6
 have aKz := bC hb aN7
 have aKH := bD hb aOu
 clear hb U9 V5 tB HE7 U1 T1 U8 V4 T8 U5 V2 T6 aN7 aOu
 clear aBl U4 V1 E3
 obtain ⟨lG, lF⟩ := pair_cells aHg.out
 go_wp2_with fail
 have hc := zK w8 w8.heap.size E (HE8.out.more (by omega)) Z0 Z2 us.length Y9 ul.length Z1 us ul (d : Int) 8 0 0 0 ⟨#[]⟩ (aKz.out.more (by omega)) (aKH.out.more (by omega)) aRr aQn.out.1 aFE.out (by omega) (by omega) (Nat.zero_le _)
 rw [HR.out] at hc
 unfold r9 at hc
 dsimp only at hc
 refine hc.mono ?_
 clear hc
 rintro e w9 ⟨rva, rvc, roa, roc, cQ, rfl, gY, dY, yP, mH, bU, cC, hb⟩
 clear lG lF
 have gY := gY.more aRr mH
 have dY := dY.more yP aRr
 clear yP mH
 have aRn := aRp bU
 have aOF := aRp cC
 clear bU cC
 have qJ := hb.size
 have v8 := bC hb x8
 have aAc := bD hb aAd
 have xU := fV hb Y7
 have HE9 := hU hb HE8
 have t6 := aU hb t7
 have u9 := bC hb L2
 have aAb := bD hb L3
 have yA := aU hb yB
 have aN6 := bC hb aKz
 have aOt := bD hb aKH
 have aN5 := aU hb aHg
 clear hb x8 aAd Y7 HE8 t7 L2 L3 yB aKz aKH aHg
 have aN8 := aRp gY.ints
 have aOv := aRp dY.ops
 clear gY dY
 go_upto_region 10 with fail
 have hb : Below w9.heap.size w9 (w9.alloc (.cells #[.slice rva rs.length rvc, .slice roa rl.length roc] 27)) := bl
 have aHj := aRp (bM (Below.refl _ (w9.alloc (.cells #[.slice rva rs.length rvc, .slice roa rl.length roc] 27))))
 generalize w9.alloc (.cells #[.slice rva rs.length rvc, .slice roa rl.length roc] 27) = pN at hb aHj ⊢
 have aNn := hb.size
 have I8 := bC hb v8
 have J5 := bD hb aAc
 have aAi := fV hb xU
 have aAf := hU hb HE9
 have I6 := aU hb t6
 have I7 := bC hb u9
 have J3 := bD hb aAb
 have rV := aU hb yA
 have aHl := bC hb aN6
 have aHt := bD hb aOt
 have aHi := aU hb aN5
 have aLp := bC hb aN8
 have aLD := bD hb aOv
 clear hb v8 aAc xU HE9 t6 u9 aAb yA aN6 aOt aN5 aN8 aOv
 obtain ⟨lG, lF⟩ := pair_cells aHi.out
 go_wp2_with fail
 have hc := aEC pN pN.heap.size Z0 Z2 us.length Y9 ul.length Z1 us ul (d : Int) (aHl.out.more (by omega)) (aHt.out.more (by omega)) aRr (by omega) aFE.out.1 ⟨by omega, aFE.out.2.1⟩
 unfold O0 at hc
 rw [Y2.out] at hc
 obtain ⟨bn, hbn⟩ : ∃ b, decide (0 < nx) = b := ⟨_, rfl⟩
 rw [hbn] at hc
 clear hbn
 refine hc.mono ?_
 clear hc
 rintro e lM ⟨rfl, hb⟩
 clear lG lF
 have aNm := hb.size
 have uT := bC hb I8
 have uX := bD hb J5
 have L6 := fV hb aAi
 have L4 := hU hb aAf
 have uP := aU hb I6
 have rX := bC hb I7
 have rY := bD hb J3
 have nQ := aU hb rV
 have aLi := bC hb aHl
 have aLw := bD hb aHt
 have aK8 := aU hb aHi
 have aLo := bC hb aLp
 have aLC := bD hb aLD
 have aLe := aU hb aHj
 clear hb I8 J5 aAi aAf I6 I7 J3 rV aHl aHt aHi aLp aLD aHj
 have h00 : ((0 : Int) != 0) = false := rfl
 go_wp2_with fail
 obtain ⟨gC, mD⟩ : ∃ z, lM.drew = z := ⟨_, rfl⟩
 have hb : Below lM.heap.size lM gC := by rw [← mD]; exact ⟨rfl, rfl, rfl, Nat.le_refl _, fun _ _ => rfl⟩
 have Q6 := hb.size
 have wR := bC hb uT
 have wT := bD hb uX
 have L5 := fV hb L6
 have V9 := hU hb L4
 have rW := aU hb uP
 have uS := bC hb rX
 have uV := bD hb rY
 have rU := aU hb nQ
 have aHk := bC hb aLi
 have aHs := bD hb aLw
 have aDJ := aU hb aK8
 have aLn := bC hb aLo
 have aLB := bD hb aLC
 have aLd := aU hb aLe
 clear hb uT uX L6 L4 uP rX rY nQ aLi aLw aK8 aLo aLC aLe
 have hS : gC.cell? ⟨w7.heap.size, 0, none⟩ = some (.slice Z0 us.length Y9) ∧ gC.cell? ⟨w7.heap.size, 1, none⟩ = some (.slice Z2 ul.length Z1) ∧ gC.cell? ⟨w0.heap.size, 0, none⟩ = some (.slice vK 4 vJ) ∧ gC.cell? ⟨w0.heap.size, 1, none⟩ = some (.slice vM l.length vL) := ⟨(pair_cells aDJ.out).1, (pair_cells aDJ.out).2, (pair_cells rW.out).1, (pair_cells rW.out).2⟩
 refine wp_region_held_drew (S := fun w' => w'.cell? ⟨w7.heap.size, 0, none⟩ = some (.slice Z0 us.length Y9) ∧ w'.cell? ⟨w7.heap.size, 1, none⟩ = some (.slice Z2 ul.length Z1) ∧ w'.cell? ⟨w0.heap.size, 0, none⟩ = some (.slice vK 4 vJ) ∧ w'.cell? ⟨w0.heap.size, 1, none⟩ = some (.slice vM l.length vL)) (by kernel_rfl) (by rw [mD]; exact hS) (fun aO => ?_)
 rw [mD]
 clear aO mD
 refine tk 0 ⟨some 84, .move (.tmp 11), 2, "laws.go:507", #[], none⟩ ?_
 (try simp only [Act.put, u1, u2, u3])
 refine tk 1 ⟨some 85, .binOp .neq 2 (.tmp 84) (.const (Value.int IntKind.i64 0)) 2, 4, "laws.go:507", #[⟨0, .data⟩], none⟩ ?_
 (try simp only [Act.put, u1, u2, u3])
 refine tk 2 ⟨some 86, .move (.tmp 85), 4, "laws.go:507", #[⟨1, .data⟩], none⟩ ?_
 (try simp only [Act.put, u1, u2, u3])
 refine tk 3 ⟨some 87, .load 27 (.tmp 10), 27, "laws.go:507", #[⟨2, .guard⟩], some (2, false)⟩ ?_
 (try simp only [Act.put, u1, u2, u3])
 refine tk 5 ⟨some 89, .load 27 (.tmp 3), 27, "laws.go:507", #[⟨2, .guard⟩], some (2, false)⟩ ?_
 (try simp only [Act.put, u1, u2, u3])
 refine rk 4 rfl (fun K hK => ?_)
 go_simp
 go_at_call 26
 refine (G1 gC gC.heap.size Z0 Z2 us.length Y9 ul.length Z1 us ul (aHk.out.more (by omega)) (aHs.out.more (by omega)) aRr (by omega) aFE.out.1 ⟨(by omega), aFE.out.2.1⟩ (aAs qZ.out)).mono ?_
 rintro e sJ ⟨pa, pc, m6, vG, hb⟩
 rw [HLU.out] at m6 vG
 subst m6
 have aNl := hb.size
 have wQ := bC hb wR
 have wS := bD hb wT
 have aAh := fV hb L5
 have aAe := hU hb V9
 have uO := aU hb rW
 have zQ := bC hb uS
 have zS := bD hb uV
 have uM := aU hb rU
 have aLh := bC hb aHk
 have aLv := bD hb aHs
 have aDI := aU hb aDJ
 have aLm := bC hb aLn
 have aLA := bD hb aLB
 have aLc := aU hb aLd
 clear hb wR wT L5 V9 rW uS uV rU aHk aHs aDJ aLn aLB aLd
 have eD : sJ.cell? ⟨w7.heap.size, 0, none⟩ = some (.slice Z0 us.length Y9) ∧ sJ.cell? ⟨w7.heap.size, 1, none⟩ = some (.slice Z2 ul.length Z1) ∧ sJ.cell? ⟨w0.heap.size, 0, none⟩ = some (.slice vK 4 vJ) ∧ sJ.cell? ⟨w0.heap.size, 1, none⟩ = some (.slice vM l.length vL) := ⟨(pair_cells aDI.out).1, (pair_cells aDI.out).2, (pair_cells uO.out).1, (pair_cells uO.out).2⟩
 refine hK.out _ _ eD (fun dG => ?_)
 clear hK K
 (try simp only [Act.put, u1, u2, u3])
 clear dG
 have aOi := aRp vG.rows
 clear vG
 refine rk 6 rfl (fun K hK => ?_)
 go_simp
 go_at_call 26
 refine (G1 sJ sJ.heap.size vK vM 4 vJ l.length vL xs l (wQ.out.more (by omega)) (wS.out.more (by omega)) aRr (by omega) nL.out.1 ⟨(by omega), nL.out.2.1⟩ (aAs HIa.out)).mono ?_
 rintro e tE ⟨qa, qc, m6, vG, hb⟩
 rw [HLL.out] at m6 vG
 subst m6
 have aNk := hb.size
 have aAG := bC hb wQ
 have aAI := bD hb wS
 have aBv := fV hb aAh
 have aCR := hU hb aAe
 have I5 := aU hb uO
 have aAF := bC hb zQ
 have aAH := bD hb zS
 have I4 := aU hb uM
 have aLg := bC hb aLh
 have aLu := bD hb aLv
 have aDH := aU hb aDI
 have aLl := bC hb aLm
 have aLz := bD hb aLA
 have aLb := aU hb aLc
 have aKE := aRp (aOi.out.below hb (by omega))
 clear hb wQ wS aAh aAe uO zQ zS uM aLh aLv aDI aLm aLA aLc aOi
 have X4 : tE.cell? ⟨w7.heap.size, 0, none⟩ = some (.slice Z0 us.length Y9) ∧ tE.cell? ⟨w7.heap.size, 1, none⟩ = some (.slice Z2 ul.length Z1) ∧ tE.cell? ⟨w0.heap.size, 0, none⟩ = some (.slice vK 4 vJ) ∧ tE.cell? ⟨w0.heap.size, 1, none⟩ = some (.slice vM l.length vL) := ⟨(pair_cells aDH.out).1, (pair_cells aDH.out).2, (pair_cells I5.out).1, (pair_cells I5.out).2⟩
 refine hK.out _ _ X4 (fun jU => ?_)
 clear hK K
 (try simp only [Act.put, u1, u2, u3])
 clear jU
 have aKB := aRp vG.rows
 clear vG
 refine rk 7 rfl (fun K hK => ?_)
 go_simp
 go_at_call 27
 refine (aBE tE tE.heap.size tE.heap.size pa qa LL.length pc qc _ (aKE.out.more (by omega)) (aKB.out.more (by omega)) aRr aRr (by omega)).mono ?_
 rintro e sI ⟨rfl, hb⟩
 have aPC := hb.size
 have aLr := bC hb aAG
 have aLF := bD hb aAI
 have aCS := fV hb aBv
 have aOC := hU hb aCR
 have aDP := aU hb I5
 have aAE := bC hb aAF
 have aCk := bD hb aAH
 have U0 := aU hb I4
 have aO9 := bC hb aLg
 have aPa := bD hb aLu
 have aHh := aU hb aDH
 have aDR := bC hb aLl
 have aDV := bD hb aLz
 have aDM := aU hb aLb
 have aQf := aRp (aKE.out.below hb (by omega))
 have aQe := aRp (aKB.out.below hb (by omega))
 clear hb aAG aAI aBv aCR I5 aAF aAH I4 aLg aLu aDH aLl aLz aLb aKE aKB
 have X3 : sI.cell? ⟨w7.heap.size, 0, none⟩ = some (.slice Z0 us.length Y9) ∧ sI.cell? ⟨w7.heap.size, 1, none⟩ = some (.slice Z2 ul.length Z1) ∧ sI.cell? ⟨w0.heap.size, 0, none⟩ = some (.slice vK 4 vJ) ∧ sI.cell? ⟨w0.heap.size, 1, none⟩ = some (.slice vM l.length vL) := ⟨(pair_cells aHh.out).1, (pair_cells aHh.out).2, (pair_cells aDP.out).1, (pair_cells aDP.out).2⟩
 refine hK.out _ _ X3 (fun iE => ?_)
 clear hK K
 (try simp only [Act.put, u1, u2, u3])
 clear iE
 refine tk 8 ⟨some 92, .unOp .not 4 (.tmp 91), 4, "laws.go:507", #[⟨7, .data⟩, ⟨2, .guard⟩], some (2, false)⟩ ?_
 (try simp only [Act.put, u1, u2, u3])
 refine tk 9 ⟨some 93, .pick (.tmp 86) (.const (Value.bool true)) (.tmp 92), 4, "laws.go:507", #[⟨2, .data⟩, ⟨8, .data⟩], none⟩ ?_
 (try simp only [Act.put, u1, u2, u3])
 refine wpAnyH_done (by kernel_rfl) ?_ _
 clear aLr aLF aOC aDP aO9 aPa aHh aQf aQe
 have hV := aAE.out
 obtain ⟨g, off, yT, hgb, rJ⟩ := hV.2 d (by rw [HZ4.out]; exact hd4)
 rw [HVv.out] at rJ
 have hki : (d : Int) < (zs.length : Int) := by rw [HZ4.out]; omega
 have aDW := aRp rJ
 clear rJ hV
 subst yT
 by_cases bI : nx = vv
 rotate_left
 ·have aF : (nx != vv) = true := by simp [bI]
  clear bI
  go_wp2_with fail
  obtain ⟨L9, mD⟩ : ∃ z, sI.drew = z := ⟨_, rfl⟩; have hb : Below sI.heap.size sI L9 := by rw [← mD]; exact ⟨rfl, rfl, rfl, Nat.le_refl _, fun _ _ => rfl⟩
  have aPB := hb.size; have aHC := fV hb aCS; have aHo := bC hb aAE; have aHw := bD hb aCk; have T9 := aU hb U0; have aDQ := bC hb aDR; have aDU := bD hb aDV; have aCf := aU hb aDM; have aCl := cK hb aDW; clear hb aCS aAE aCk U0 aDR aDV aDM aDW; have hS : L9.cell? ⟨w2.heap.size, 0, none⟩ = some (.slice (some ⟨g, off, none⟩) zs.length gO) ∧ L9.cell? ⟨w2.heap.size, 1, none⟩ = some (.slice gQ m.length gP) ∧ L9.cell? ⟨g, off + d, none⟩ = some (.int .i64 vv) := ⟨(pair_cells T9.out).1, (pair_cells T9.out).2, aCl.out⟩; refine wp_region_held_drew (S := fun w' => w'.cell? ⟨w2.heap.size, 0, none⟩ = some (.slice (some ⟨g, off, none⟩) zs.length gO) ∧ w'.cell? ⟨w2.heap.size, 1, none⟩ = some (.slice gQ m.length gP) ∧ w'.cell? ⟨g, off + d, none⟩ = some (.int .i64 vv)) (by kernel_rfl) (by rw [mD]; exact hS) (fun aO => ?_)
  rw [mD]; clear aO mD; refine tk 0 ⟨some 94, .move (.tmp 14), 2, "laws.go:510", #[], none⟩ ?_
  (try simp only [Act.put, u1, u2, u3])
  refine tk 1 ⟨some 95, .fieldAddr 27 (.tmp 6) 0, 0, "laws.go:510", #[], none⟩ ?_
  (try simp only [Act.put, u1, u2, u3])
  refine tk 2 ⟨some 96, .load 24 (.tmp 95), 24, "laws.go:510", #[⟨1, .data⟩], none⟩ ?_
  (try simp only [Act.put, u1, u2, u3])
  refine tk 3 ⟨some 97, .move (.tmp 4), 2, "laws.go:510", #[], none⟩ ?_
  (try simp only [Act.put, u1, u2, u3])
  refine tk 4 ⟨some 98, .indexAddr 24 (.tmp 96) (.tmp 97), 0, "laws.go:510", #[⟨2, .data⟩, ⟨3, .data⟩], none⟩ ?_
  (try simp only [Act.put, u1, u2, u3])
  refine tk 5 ⟨some 99, .load 2 (.tmp 98), 2, "laws.go:510", #[⟨4, .data⟩], none⟩ ?_
  (try simp only [Act.put, u1, u2, u3])
  refine tk 6 ⟨some 100, .binOp .neq 2 (.tmp 94) (.tmp 99) 2, 4, "laws.go:510", #[⟨0, .data⟩, ⟨5, .data⟩], none⟩ ?_
  (try simp only [Act.put, u1, u2, u3])
  refine tk 7 ⟨some 101, .move (.tmp 100), 4, "laws.go:510", #[⟨6, .data⟩], none⟩ ?_
  (try simp only [Act.put, u1, u2, u3])
  refine sk 8 ⟨some 102, .move (.tmp 13), 2, "laws.go:510", #[⟨7, .guard⟩], some (7, false)⟩ ?_
  (try simp only [Act.put, u1, u2, u3])
  refine sk 9 ⟨some 103, .binOp .eql 2 (.tmp 102) (.const (Value.int IntKind.i64 0)) 2, 4, "laws.go:510", #[⟨8, .data⟩, ⟨7, .guard⟩], some (7, false)⟩ ?_
  (try simp only [Act.put, u1, u2, u3])
  refine sk 10 ⟨some 104, .move (.tmp 103), 4, "laws.go:510", #[⟨9, .data⟩, ⟨7, .chain⟩, ⟨7, .guard⟩], some (7, false)⟩ ?_
  (try simp only [Act.put, u1, u2, u3])
  refine sk 11 ⟨some 105, .load 27 (.tmp 12), 27, "laws.go:510", #[⟨10, .guard⟩], some (10, true)⟩ ?_
  (try simp only [Act.put, u1, u2, u3])
  refine sk 12 ⟨some 106, .call ⟨.value (.func 26), #[.tmp 105], #[27]⟩, 42, "laws.go:510", #[⟨11, .data⟩, ⟨10, .chain⟩, ⟨10, .guard⟩], some (10, true)⟩ ?_
  (try simp only [Act.put, u1, u2, u3])
  refine sk 13 ⟨some 107, .load 27 (.tmp 6), 27, "laws.go:510", #[⟨10, .guard⟩], some (10, true)⟩ ?_
  (try simp only [Act.put, u1, u2, u3])
  refine sk 14 ⟨some 108, .call ⟨.value (.func 26), #[.tmp 107], #[27]⟩, 42, "laws.go:510", #[⟨13, .data⟩, ⟨12, .chain⟩, ⟨10, .guard⟩], some (10, true)⟩ ?_
  (try simp only [Act.put, u1, u2, u3])
  refine sk 15 ⟨some 109, .call ⟨.value (.func 27), #[.tmp 106, .tmp 108], #[42, 42]⟩, 4, "laws.go:510", #[⟨12, .data⟩, ⟨14, .data⟩, ⟨14, .chain⟩, ⟨10, .guard⟩], some (10, true)⟩ ?_
  (try simp only [Act.put, u1, u2, u3])
  refine sk 16 ⟨some 110, .pick (.tmp 104) (.tmp 109) (.const (Value.bool false)), 4, "laws.go:510", #[⟨10, .data⟩, ⟨15, .data⟩, ⟨7, .guard⟩], some (7, false)⟩ ?_
  (try simp only [Act.put, u1, u2, u3])
  refine tk 17 ⟨some 111, .pick (.tmp 101) (.const (Value.bool true)) (.tmp 110), 4, "laws.go:510", #[⟨7, .data⟩, ⟨16, .data⟩], none⟩ ?_
  (try simp only [Act.put, u1, u2, u3])
  refine tk 18 ⟨some 2, .assign (.tmp 111), 4, "laws.go:510", #[⟨17, .data⟩, ⟨15, .chain⟩, ⟨0, .phase⟩, ⟨1, .phase⟩, ⟨2, .phase⟩, ⟨3, .phase⟩, ⟨4, .phase⟩, ⟨5, .phase⟩, ⟨6, .phase⟩, ⟨7, .phase⟩, ⟨8, .phase⟩, ⟨9, .phase⟩, ⟨10, .phase⟩, ⟨11, .phase⟩, ⟨12, .phase⟩, ⟨13, .phase⟩, ⟨14, .phase⟩, ⟨15, .phase⟩, ⟨16, .phase⟩, ⟨17, .phase⟩], none⟩ ?_
  (try simp only [Act.put, u1, u2, u3])
  refine wpAnyH_done (by kernel_rfl) ?_ _
  go_wp2
  go_ret
  exact ⟨rfl, aHC.out⟩
 obtain ⟨hk3, hlr⟩ := HLR.out bI
 subst hk3
 have aF : (nx != vv) = false := by simp [bI]
 have HLr := aRp hlr
 clear bI hlr
 go_wp2_with fail
 obtain ⟨L9, mD⟩ : ∃ z, sI.drew = z := ⟨_, rfl⟩
 have hb : Below sI.heap.size sI L9 := by rw [← mD]; exact ⟨rfl, rfl, rfl, Nat.le_refl _, fun _ _ => rfl⟩
 have aPB := hb.size
 have aHC := fV hb aCS
 have aHo := bC hb aAE
 have aHw := bD hb aCk
 have T9 := aU hb U0
 have aDQ := bC hb aDR
 have aDU := bD hb aDV
 have aCf := aU hb aDM
 have aCl := cK hb aDW
 clear hb aCS aAE aCk U0 aDR aDV aDM aDW
 have hS : L9.cell? ⟨w2.heap.size, 0, none⟩ = some (.slice (some ⟨g, off, none⟩) zs.length gO) ∧ L9.cell? ⟨w2.heap.size, 1, none⟩ = some (.slice gQ m.length gP) ∧ L9.cell? ⟨w9.heap.size, 0, none⟩ = some (.slice rva rs.length rvc) ∧ L9.cell? ⟨w9.heap.size, 1, none⟩ = some (.slice roa rl.length roc) ∧ L9.cell? ⟨g, off + d, none⟩ = some (.int .i64 vv) := ⟨(pair_cells T9.out).1, (pair_cells T9.out).2, (pair_cells aCf.out).1, (pair_cells aCf.out).2, aCl.out⟩
 refine wp_region_held_drew (S := fun w' => w'.cell? ⟨w2.heap.size, 0, none⟩ = some (.slice (some ⟨g, off, none⟩) zs.length gO) ∧ w'.cell? ⟨w2.heap.size, 1, none⟩ = some (.slice gQ m.length gP) ∧ w'.cell? ⟨w9.heap.size, 0, none⟩ = some (.slice rva rs.length rvc) ∧ w'.cell? ⟨w9.heap.size, 1, none⟩ = some (.slice roa rl.length roc) ∧ w'.cell? ⟨g, off + d, none⟩ = some (.int .i64 vv)) (by kernel_rfl) (by rw [mD]; exact hS) (fun aO => ?_)
 rw [mD]
 clear aO mD
 refine tk 0 ⟨some 94, .move (.tmp 14), 2, "laws.go:510", #[], none⟩ ?_
 (try simp only [Act.put, u1, u2, u3])
 refine tk 1 ⟨some 95, .fieldAddr 27 (.tmp 6) 0, 0, "laws.go:510", #[], none⟩ ?_
 (try simp only [Act.put, u1, u2, u3])
 refine tk 2 ⟨some 96, .load 24 (.tmp 95), 24, "laws.go:510", #[⟨1, .data⟩], none⟩ ?_
 (try simp only [Act.put, u1, u2, u3])
 refine tk 3 ⟨some 97, .move (.tmp 4), 2, "laws.go:510", #[], none⟩ ?_
 (try simp only [Act.put, u1, u2, u3])
 refine tk 4 ⟨some 98, .indexAddr 24 (.tmp 96) (.tmp 97), 0, "laws.go:510", #[⟨2, .data⟩, ⟨3, .data⟩], none⟩ ?_
 (try simp only [Act.put, u1, u2, u3])
 refine tk 5 ⟨some 99, .load 2 (.tmp 98), 2, "laws.go:510", #[⟨4, .data⟩], none⟩ ?_
 (try simp only [Act.put, u1, u2, u3])
 refine tk 6 ⟨some 100, .binOp .neq 2 (.tmp 94) (.tmp 99) 2, 4, "laws.go:510", #[⟨0, .data⟩, ⟨5, .data⟩], none⟩ ?_
 (try simp only [Act.put, u1, u2, u3])
 refine tk 7 ⟨some 101, .move (.tmp 100), 4, "laws.go:510", #[⟨6, .data⟩], none⟩ ?_
 (try simp only [Act.put, u1, u2, u3])
 refine tk 8 ⟨some 102, .move (.tmp 13), 2, "laws.go:510", #[⟨7, .guard⟩], some (7, false)⟩ ?_
 (try simp only [Act.put, u1, u2, u3])
 refine tk 9 ⟨some 103, .binOp .eql 2 (.tmp 102) (.const (Value.int IntKind.i64 0)) 2, 4, "laws.go:510", #[⟨8, .data⟩, ⟨7, .guard⟩], some (7, false)⟩ ?_
 (try simp only [Act.put, u1, u2, u3])
 refine tk 10 ⟨some 104, .move (.tmp 103), 4, "laws.go:510", #[⟨9, .data⟩, ⟨7, .chain⟩, ⟨7, .guard⟩], some (7, false)⟩ ?_
 (try simp only [Act.put, u1, u2, u3])
 refine tk 11 ⟨some 105, .load 27 (.tmp 12), 27, "laws.go:510", #[⟨10, .guard⟩], some (10, true)⟩ ?_
 (try simp only [Act.put, u1, u2, u3])
 refine tk 13 ⟨some 107, .load 27 (.tmp 6), 27, "laws.go:510", #[⟨10, .guard⟩], some (10, true)⟩ ?_
 (try simp only [Act.put, u1, u2, u3])
 refine rk 12 rfl (fun K hK => ?_)
 go_simp
 go_at_call 26
 refine (G1 L9 L9.heap.size rva roa rs.length rvc rl.length roc rs rl (aDQ.out.more (by omega)) (aDU.out.more (by omega)) aRr (by omega) aOF.out.1 ⟨(by omega), aOF.out.2.1⟩ (aAs rQ.out)).mono ?_
 rintro e w17 ⟨pa, pc, m6, vG, hb⟩
 rw [HLr.out] at m6 vG
 subst m6
 have aQJ := hb.size
 have aOM := fV hb aHC
 have aHn := bC hb aHo
 have aHv := bD hb aHw
 have aDO := aU hb T9
 have aLk := bC hb aDQ
 have aLy := bD hb aDU
 have aDL := aU hb aCf
 have aHA := cK hb aCl
 clear hb aHC aHo aHw T9 aDQ aDU aCf aCl
 have eD : w17.cell? ⟨w2.heap.size, 0, none⟩ = some (.slice (some ⟨g, off, none⟩) zs.length gO) ∧ w17.cell? ⟨w2.heap.size, 1, none⟩ = some (.slice gQ m.length gP) ∧ w17.cell? ⟨w9.heap.size, 0, none⟩ = some (.slice rva rs.length rvc) ∧ w17.cell? ⟨w9.heap.size, 1, none⟩ = some (.slice roa rl.length roc) ∧ w17.cell? ⟨g, off + d, none⟩ = some (.int .i64 vv) := ⟨(pair_cells aDO.out).1, (pair_cells aDO.out).2, (pair_cells aDL.out).1, (pair_cells aDL.out).2, aHA.out⟩
 refine hK.out _ _ eD (fun dG => ?_)
 clear hK K
 (try simp only [Act.put, u1, u2, u3])
 clear dG
 have aOh := aRp vG.rows
 clear vG
 refine rk 14 rfl (fun K hK => ?_)
 go_simp
 go_at_call 26
 refine (G1 w17 w17.heap.size (some ⟨g, off, none⟩) gQ zs.length gO m.length gP zs m (aHn.out.more (by omega)) (aHv.out.more (by omega)) aRr (by omega) aAg.out.1 ⟨(by omega), aAg.out.2.1⟩ (aAs HI.out)).mono ?_
 rintro e w18 ⟨qa, qc, m6, vG, hb⟩
 rw [HMM.out] at m6 vG
 subst m6
 have aQI := hb.size
 have aOL := fV hb aOM
 have aLq := bC hb aHn
 have aLE := bD hb aHv
 have aDN := aU hb aDO
 have aLj := bC hb aLk
 have aLx := bD hb aLy
 have aDK := aU hb aDL
 have aHz := cK hb aHA
 have aKD := aRp (aOh.out.below hb (by omega))
 clear hb aOM aHn aHv aDO aLk aLy aDL aHA aOh
 have X4 : w18.cell? ⟨w2.heap.size, 0, none⟩ = some (.slice (some ⟨g, off, none⟩) zs.length gO) ∧ w18.cell? ⟨w2.heap.size, 1, none⟩ = some (.slice gQ m.length gP) ∧ w18.cell? ⟨w9.heap.size, 0, none⟩ = some (.slice rva rs.length rvc) ∧ w18.cell? ⟨w9.heap.size, 1, none⟩ = some (.slice roa rl.length roc) ∧ w18.cell? ⟨g, off + d, none⟩ = some (.int .i64 vv) := ⟨(pair_cells aDN.out).1, (pair_cells aDN.out).2, (pair_cells aDK.out).1, (pair_cells aDK.out).2, aHz.out⟩
 refine hK.out _ _ X4 (fun jU => ?_)
 clear hK K
 (try simp only [Act.put, u1, u2, u3])
 clear jU
 have aKA := aRp vG.rows
 clear vG
 refine rk 15 rfl (fun K hK => ?_)
 go_simp
 go_at_call 27
 refine (aBE w18 w18.heap.size w18.heap.size pa qa MM.length pc qc _ (aKD.out.more (by omega)) (aKA.out.more (by omega)) aRr aRr (by omega)).mono ?_
 rintro e w19 ⟨rfl, hb⟩
 have aQH := hb.size
 have aQs := fV hb aOL
 have aQB := bC hb aLq
 have aQE := bD hb aLE
 have aLf := aU hb aDN
 have aQA := bC hb aLj
 have aQD := bD hb aLx
 have aLa := aU hb aDK
 have aPb := cK hb aHz
 have aRm := aRp (aKD.out.below hb (by omega))
 have aRl := aRp (aKA.out.below hb (by omega))
 clear hb aOL aLq aLE aDN aLj aLx aDK aHz aKD aKA
 have X3 : w19.cell? ⟨w2.heap.size, 0, none⟩ = some (.slice (some ⟨g, off, none⟩) zs.length gO) ∧ w19.cell? ⟨w2.heap.size, 1, none⟩ = some (.slice gQ m.length gP) ∧ w19.cell? ⟨w9.heap.size, 0, none⟩ = some (.slice rva rs.length rvc) ∧ w19.cell? ⟨w9.heap.size, 1, none⟩ = some (.slice roa rl.length roc) ∧ w19.cell? ⟨g, off + d, none⟩ = some (.int .i64 vv) := ⟨(pair_cells aLf.out).1, (pair_cells aLf.out).2, (pair_cells aLa.out).1, (pair_cells aLa.out).2, aPb.out⟩
 refine hK.out _ _ X3 (fun iE => ?_)
 clear hK K
 (try simp only [Act.put, u1, u2, u3])
 clear iE
 refine tk 16 ⟨some 110, .pick (.tmp 104) (.tmp 109) (.const (Value.bool false)), 4, "laws.go:510", #[⟨10, .data⟩, ⟨15, .data⟩, ⟨7, .guard⟩], some (7, false)⟩ ?_
 (try simp only [Act.put, u1, u2, u3])
 refine tk 17 ⟨some 111, .pick (.tmp 101) (.const (Value.bool true)) (.tmp 110), 4, "laws.go:510", #[⟨7, .data⟩, ⟨16, .data⟩], none⟩ ?_
 (try simp only [Act.put, u1, u2, u3])
 refine tk 18 ⟨some 2, .assign (.tmp 111), 4, "laws.go:510", #[⟨17, .data⟩, ⟨15, .chain⟩, ⟨0, .phase⟩, ⟨1, .phase⟩, ⟨2, .phase⟩, ⟨3, .phase⟩, ⟨4, .phase⟩, ⟨5, .phase⟩, ⟨6, .phase⟩, ⟨7, .phase⟩, ⟨8, .phase⟩, ⟨9, .phase⟩, ⟨10, .phase⟩, ⟨11, .phase⟩, ⟨12, .phase⟩, ⟨13, .phase⟩, ⟨14, .phase⟩, ⟨15, .phase⟩, ⟨16, .phase⟩, ⟨17, .phase⟩], none⟩ ?_
 (try simp only [Act.put, u1, u2, u3])
 refine wpAnyH_done (by kernel_rfl) ?_ _
 go_wp2
 go_ret
 exact ⟨rfl, aQs.out⟩
end Go.Proofs.YthkagbnpcjidfaaGreatDoor
