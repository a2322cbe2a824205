/- The walk of the law FnClear. -/
import Derived.Test.YthkagbnpcjidfaaGreatDoorGy41
import Derived.Test.YthkagbnpcjidfaaGreatDoorGy26
import Derived.Test.YthkagbnpcjidfaaGreatDoorGy39
import Derived.Test.YthkagbnpcjidfaaGreatDoorGy43
import Derived.Test.YthkagbnpcjidfaaGreatDoorGy44
import Derived.Deep.Cut
import Derived.Test.YthkagbnpcjidfaaGreatDoorGyA
namespace Go.Proofs.YthkagbnpcjidfaaGreatDoor
set_option maxRecDepth 100000
open Go.RowKit
set_option linter.unusedVariables false
set_option linter.unusedSimpArgs false
set_option linter.unusedVariables false
set_option linter.unusedSimpArgs false

set_option maxHeartbeats 16000000 in
theorem fnClearWalk (E : Int → Addr) (a : Option Addr) (len cap : Nat) (bs : List Int) (w : World) (hE : eZ w w.heap.size E) (h : IsRow .u8 w a len cap bs) :
  Calls Tryz.prog 7 #[.slice a len cap] w fun e w' => e = .returned (.bool true) ∧ Below w.heap.size w w' := by
 by_cases qU : len ≤ 1048576
 rotate_left
 ·go_enter Tryz.func7, Tryz.ntmps7
  go_wp2_with fail
  refine (aAd a len cap qU w).mono ?_
  rintro e w' ⟨rfl, rfl⟩; go_wp2
  go_ret
  exact ⟨rfl, Below.refl _ _⟩
 have J2 := aRA (wD h qU)
 have eX := aRA hE
 clear h hE
 go_enter Tryz.func7, Tryz.ntmps7
 go_wp2_with fail
 refine (aBR a len cap qU w).mono ?_
 rintro e w' ⟨rfl, rfl⟩
 go_wp2_with fail
 refine (A8 w w.heap.size a len cap aRC J2.out).mono ?_
 rintro e w0 ⟨⟨lT, lS, lV, ano, lU⟩, dev, kind, item, qty, dv, sq, wV, rfl, hx, aW⟩
 obtain ⟨xs, l, e1, a1, a2, a3, a4, a5, a6⟩ := hx
 have e1 : ano = l.length := e1
 subst e1
 have HE := aRA (eX.out.below aW aRC)
 clear eX
 have eX := HE
 clear HE
 have xO := aRA a1.ints
 have xY := aRA a2.ops
 have nA := aRA aW
 have kS := aRA a3
 have iR := aRA a4
 have nZ : item.size ≤ 1048576 := Nat.le_trans wV (by omega)
 have tM := aRA nZ
 have P5 : Hid (∀ i, i < l.length → (aC l i).item.size ≤ 1048576) := fun i hi => Nat.le_trans (a5 i hi) (by omega)
 have mF := aW.size
 clear a1 a2 a3 a4 a5 aW wV nZ
 dsimp only
 go_upto_region 4 with fail
 have hT := yX w0 #[.slice lT 4 lS, .slice lV l.length lU] #[.int .i64 kind, .string item, .int .i64 qty, .int .i64 dv, .int .i64 sq] 27 29
 have jR := aRA hT.1
 have kD := aRA hT.2.1
 have hb := hT.2.2
 clear hT
 generalize (w0.alloc (.cells #[.slice lT 4 lS, .slice lV l.length lU] 27)).alloc (.cells #[.int .i64 kind, .string item, .int .i64 qty, .int .i64 dv, .int .i64 sq] 29) = w1 at hb jR kD ⊢
 have eF := aRA (eX.out.below hb (by omega))
 have fH := hb.size
 have rG := aRA (xO.out.below hb (by omega))
 have rI := aRA (xY.out.below hb (by omega))
 have cO := aRA (nA.out.trans (hb.mono (by omega)))
 clear hb xO xY nA
 clear eX
 obtain ⟨⟨k, zs, m⟩, hN⟩ : ∃ N, bN xs l dev 6 ⟨#[]⟩ 0 0 0 = N := ⟨_, rfl⟩
 have HN := aRA hN
 obtain ⟨hlz, hlm, hin, eY⟩ := mX hN
 have HI := aRA hin
 have HCt := aRA eY
 clear hN hin eY
 obtain ⟨cH, cG⟩ := pair_cells jR.out
 go_wp2_with fail
 have hc := oO w1 w1.heap.size E (eF.out.more (by omega)) lT lV 4 lS l.length lU xs l dev 6 0 0 0 ⟨#[]⟩ (rG.out.more (by omega)) (rI.out.more (by omega)) aRC kS.out.1 iR.out (by first | omega | simp) (by first | omega | simp) (Nat.zero_le _)
 rw [HN.out] at hc
 unfold C6 at hc
 dsimp only at hc
 refine hc.mono ?_
 clear hc
 rintro e w2 ⟨gL, fE, fG, fF, cE, rfl, dH, cD, nY, iM, bI, bM, hb⟩
 clear cH cG
 have dH := dH.more aRC iM
 have cD := cD.more nY aRC
 clear nY iM
 have aCN := aRA bI
 have tV := aRA bM
 clear bI bM
 have dQ := aRA (eF.out.below hb (by omega))
 have eV := hb.size
 have xN := aRA (rG.out.below hb (by omega))
 have xX := aRA (rI.out.below hb (by omega))
 have bK := aRA (cO.out.trans (hb.mono (by omega)))
 have rE := aRA ((hb.block _ (aB jR.out)).trans jR.out)
 have rA := aRA ((hb.block _ (aB kD.out)).trans kD.out)
 clear hb rG rI cO jR kD
 clear eF
 have xK := aRA dH.ints
 have xU := aRA cD.ops
 clear dH cD
 go_upto_region 5 with fail
 have hb : Below w2.heap.size w2 (w2.alloc (.cells #[.slice gL zs.length fE, .slice fG m.length fF] 27)) := bl
 have mP := aRA (bL (Below.refl _ (w2.alloc (.cells #[.slice gL zs.length fE, .slice fG m.length fF] 27))))
 generalize w2.alloc (.cells #[.slice gL zs.length fE, .slice fG m.length fF] 27) = w3 at hb mP ⊢
 have xZ := aRA (dQ.out.below hb (by omega))
 have iG := hb.size
 have rF := aRA (xN.out.below hb (by omega))
 have rH := aRA (xX.out.below hb (by omega))
 have dR := aRA (bK.out.trans (hb.mono (by omega)))
 have mQ := aRA ((hb.block _ (aB rE.out)).trans rE.out)
 have nP := aRA ((hb.block _ (aB rA.out)).trans rA.out)
 have xJ := aRA (xK.out.below hb (by omega))
 have xS := aRA (xU.out.below hb (by omega))
 clear hb xN xX bK rE rA xK xU
 clear dQ
 obtain ⟨cH, cG⟩ := pair_cells mQ.out
 go_wp2_with fail
 have hc := wE w3 w3.heap.size lT lV 4 lS l.length lU xs l 6 0 0 0 ⟨#[]⟩ (rF.out.more (by omega)) (rH.out.more (by omega)) aRC kS.out iR.out (Nat.zero_le _) dev P5.out (by first | omega | simp) (by first | omega | simp)
 rw [HN.out] at hc
 unfold tR at hc
 dsimp only at hc
 refine hc.mono ?_
 clear hc
 rintro e w4 ⟨iU, iT, iW, iV, rfl, dH, cD, hb, bI, bM⟩
 clear cH cG
 have aHf := aRA bI
 have aHg := aRA bM
 clear bI bM
 have rN := aRA (xZ.out.below hb (by omega))
 have D1 := hb.size
 have xM := aRA (rF.out.below hb (by omega))
 have xW := aRA (rH.out.below hb (by omega))
 have jI := aRA (dR.out.trans (hb.mono (by omega)))
 have rD := aRA ((hb.block _ (aB mQ.out)).trans mQ.out)
 have qZ := aRA ((hb.block _ (aB nP.out)).trans nP.out)
 have xI := aRA (xJ.out.below hb (by omega))
 have xR := aRA (xS.out.below hb (by omega))
 have rB := aRA ((hb.block _ (aB mP.out)).trans mP.out)
 clear hb rF rH dR mQ nP xJ xS mP
 clear xZ
 have xH := aRA dH.ints
 have xQ := aRA cD.ops
 clear dH cD
 go_upto_region 6 with fail
 have hb : Below w4.heap.size w4 (w4.alloc (.cells #[.slice iU zs.length iT, .slice iW m.length iV] 27)) := bl
 have cN := aRA (bL (Below.refl _ (w4.alloc (.cells #[.slice iU zs.length iT, .slice iW m.length iV] 27))))
 generalize w4.alloc (.cells #[.slice iU zs.length iT, .slice iW m.length iV] 27) = w5 at hb cN ⊢
 have kR := aRA (rN.out.below hb (by omega))
 have hs5 := hb.size
 have iO := aRA (xM.out.below hb (by omega))
 have iP := aRA (xW.out.below hb (by omega))
 have gZ := aRA (jI.out.trans (hb.mono (by omega)))
 have eP := aRA ((hb.block _ (aB rD.out)).trans rD.out)
 have eO := aRA ((hb.block _ (aB qZ.out)).trans qZ.out)
 have eR := aRA (xI.out.below hb (by omega))
 have eT := aRA (xR.out.below hb (by omega))
 have dB := aRA ((hb.block _ (aB rB.out)).trans rB.out)
 have eQ := aRA (xH.out.below hb (by omega))
 have eS := aRA (xQ.out.below hb (by omega))
 clear hb xM xW jI rD qZ xI xR rB xH xQ
 clear rN
 have Y3 : (k != k) = false := bne_self_eq_false _
 have R9 : (k == k) = true := beq_self_eq_true _
 by_cases yF : k = 0
 rotate_left
 ·have Y4 : (k != 0) = true := by simp [yF]
  obtain ⟨cH, cG⟩ := pair_cells dB.out; obtain ⟨fQ, fP⟩ := pair_cells cN.out
  go_wp2_with fail
  refine (eJ w5 w5.heap.size gL fG iU iW zs.length fE m.length fF zs.length iT m.length iV zs m zs m (eR.out.more (by omega)) (eT.out.more (by omega)) (eQ.out.more (by omega)) (eS.out.more (by omega)) aRC (by first | omega | simp) (by first | omega | simp) (by first | omega | simp) (by first | omega | simp)).mono ?_
  rintro e w6 ⟨rfl, hb⟩; rw [decide_eq_true rfl, decide_eq_true rfl]; clear cH cG fQ fP; have iQ := aRA (kR.out.below hb (by omega))
  have wR := hb.size; have fC := aRA (iO.out.below hb (by omega))
  have fD := aRA (iP.out.below hb (by omega))
  have dC := aRA (gZ.out.trans (hb.mono (by omega)))
  have dJ := aRA ((hb.block _ (aB eP.out)).trans eP.out); have cS := aRA ((hb.block _ (aB eO.out)).trans eO.out); have dV := aRA (eR.out.below hb (by omega))
  have dW := aRA (eT.out.below hb (by omega))
  have cL := aRA ((hb.block _ (aB dB.out)).trans dB.out); have eB := aRA (eQ.out.below hb (by omega))
  have eC := aRA (eS.out.below hb (by omega))
  have cP := aRA ((hb.block _ (aB cN.out)).trans cN.out); clear hb iO iP gZ eP eO eR eT dB eQ eS cN; clear kR; obtain ⟨cH, cG⟩ := pair_cells cL.out; obtain ⟨fQ, fP⟩ := pair_cells cP.out
  go_wp2_with fail
  refine (eJ w6 w6.heap.size gL fG iU iW zs.length fE m.length fF zs.length iT m.length iV zs m zs m (dV.out.more (by omega)) (dW.out.more (by omega)) (eB.out.more (by omega)) (eC.out.more (by omega)) aRC (by first | omega | simp) (by first | omega | simp) (by first | omega | simp) (by first | omega | simp)).mono ?_
  rintro e w7 ⟨rfl, hb⟩; rw [decide_eq_true rfl, decide_eq_true rfl]; clear cH cG fQ fP; have sX := aRA (iQ.out.below hb (by omega))
  have J3 := hb.size; have mS := aRA (fC.out.below hb (by omega))
  have mT := aRA (fD.out.below hb (by omega))
  have lR := aRA (dC.out.trans (hb.mono (by omega)))
  have jQ := aRA ((hb.block _ (aB dJ.out)).trans dJ.out); have kC := aRA ((hb.block _ (aB cS.out)).trans cS.out); have nR := aRA (dV.out.below hb (by omega))
  have nT := aRA (dW.out.below hb (by omega))
  have kF := aRA ((hb.block _ (aB cL.out)).trans cL.out); have nQ := aRA (eB.out.below hb (by omega))
  have nS := aRA (eC.out.below hb (by omega))
  have kE := aRA ((hb.block _ (aB cP.out)).trans cP.out); clear hb fC fD dC dJ cS dV dW cL eB eC cP; clear iQ; go_wp2
  go_ret
  exact ⟨rfl, lR.out⟩
 subst yF
 obtain ⟨cH, cG⟩ := pair_cells dB.out
 obtain ⟨fQ, fP⟩ := pair_cells cN.out
 go_wp2_with fail
 refine (eJ w5 w5.heap.size gL fG iU iW zs.length fE m.length fF zs.length iT m.length iV zs m zs m (eR.out.more (by omega)) (eT.out.more (by omega)) (eQ.out.more (by omega)) (eS.out.more (by omega)) aRC (by first | omega | simp) (by first | omega | simp) (by first | omega | simp) (by first | omega | simp)).mono ?_
 rintro e w6 ⟨rfl, hb⟩
 rw [decide_eq_true rfl, decide_eq_true rfl]
 clear cH cG fQ fP
 have iQ := aRA (kR.out.below hb (by omega))
 have wR := hb.size
 have fC := aRA (iO.out.below hb (by omega))
 have fD := aRA (iP.out.below hb (by omega))
 have dC := aRA (gZ.out.trans (hb.mono (by omega)))
 have dJ := aRA ((hb.block _ (aB eP.out)).trans eP.out)
 have cS := aRA ((hb.block _ (aB eO.out)).trans eO.out)
 have dV := aRA (eR.out.below hb (by omega))
 have dW := aRA (eT.out.below hb (by omega))
 have cL := aRA ((hb.block _ (aB dB.out)).trans dB.out)
 have eB := aRA (eQ.out.below hb (by omega))
 have eC := aRA (eS.out.below hb (by omega))
 have cP := aRA ((hb.block _ (aB cN.out)).trans cN.out)
 clear hb iO iP gZ eP eO eR eT dB eQ eS cN
 clear kR
 go_upto_region 9 with fail
 have hb : Below w6.heap.size w6 (w6.alloc (.cells #[] 39)) := bl
 generalize w6.alloc (.cells #[] 39) = w7 at hb ⊢
 have sX := aRA (iQ.out.below hb (by omega))
 have J3 := hb.size
 have mS := aRA (fC.out.below hb (by omega))
 have mT := aRA (fD.out.below hb (by omega))
 have lR := aRA (dC.out.trans (hb.mono (by omega)))
 have jQ := aRA ((hb.block _ (aB dJ.out)).trans dJ.out)
 have kC := aRA ((hb.block _ (aB cS.out)).trans cS.out)
 have nR := aRA (dV.out.below hb (by omega))
 have nT := aRA (dW.out.below hb (by omega))
 have kF := aRA ((hb.block _ (aB cL.out)).trans cL.out)
 have nQ := aRA (eB.out.below hb (by omega))
 have nS := aRA (eC.out.below hb (by omega))
 have kE := aRA ((hb.block _ (aB cP.out)).trans cP.out)
 clear hb fC fD dC dJ cS dV dW cL eB eC cP
 clear iQ
 obtain ⟨_, _, D7, _⟩ := aDi HN.out rfl
 have hct := aII HN.out rfl
 dsimp only at D7 hct
 have kI : (aO xs l).length ≤ 160 := by unfold aO; rw [List.length_map]; exact oN
 obtain ⟨LL, Y9⟩ : ∃ x, aO xs l = x := ⟨_, rfl⟩
 rw [Y9] at D7 kI
 have HLL := aRA Y9
 have D6 : (LL.filter (·.saved)).length ≤ 160 := Nat.le_trans (List.length_filter_le _ _) kI
 obtain ⟨FF, hFF⟩ : ∃ x, LL.filter (·.saved) = x := ⟨_, rfl⟩
 rw [hFF] at D7 D6
 have HFF := aRA hFF
 clear hFF
 have HCl := aRA D7
 obtain ⟨tn, htn⟩ : ∃ x, tW xs l = x := ⟨_, rfl⟩
 have HTn := aRA htn
 rw [htn] at hct
 have Z8 := aRA hct.1
 have ht1 : 0 < tn := hct.2
 clear Y9 D7 htn hct
 obtain ⟨cH, cG⟩ := pair_cells jQ.out
 go_wp2_with fail
 have hc := lG w7 w7.heap.size lT lV 4 lS l.length lU xs l (mS.out.more (by omega)) (mT.out.more (by omega)) aRC (by first | omega | simp) iR.out.1 ⟨(by first | omega | simp), iR.out.2.1⟩ (nD P5.out)
 unfold aAg at hc
 rw [HLL.out] at hc
 refine hc.mono ?_
 clear hc
 rintro e w8 ⟨ra, rc, rfl, jD, hb⟩
 clear cH cG
 have M1 := aRA (sX.out.below hb (by omega))
 have hs8 := hb.size
 have vC := aRA (mS.out.below hb (by omega))
 have vH := aRA (mT.out.below hb (by omega))
 have P9 := aRA (lR.out.trans (hb.mono (by omega)))
 have qC := aRA ((hb.block _ (aB jQ.out)).trans jQ.out)
 have qY := aRA ((hb.block _ (aB kC.out)).trans kC.out)
 have vB := aRA (nR.out.below hb (by omega))
 have vG := aRA (nT.out.below hb (by omega))
 have qA := aRA ((hb.block _ (aB kF.out)).trans kF.out)
 have zB := aRA (nQ.out.below hb (by omega))
 have zC := aRA (nS.out.below hb (by omega))
 have sV := aRA ((hb.block _ (aB kE.out)).trans kE.out)
 clear hb mS mT lR jQ kC nR nT kF nQ nS kE
 clear sX
 have HL8 := aRA jD.rows
 clear jD
 go_wp2
 go_loopw [10, 12] (fun v i wr => ∃ (q : Nat) (vv : Value), q ≤ LL.length ∧ i = .int .i64 (q : Int) ∧ vv = v ∧ Hid (kB w6.heap.size w8.heap.size wr vv ((LL.take q).filter (·.saved))) ∧ Hid (Below w8.heap.size w8 wr)) (fun _ i _ => LL.length - (intOf i).toNat)
 case atStart => exact ⟨0, _, Nat.zero_le _, rfl, rfl, kB.nil _ _ _, Below.refl _ _⟩
 case round =>
  obtain ⟨q, v, hq, rfl, rfl, HR, cR⟩ := hrel; have hsr := cR.out.size
  by_cases aK : q < LL.length
  rotate_left
  ·obtain rfl : q = LL.length := by omega
   have hr := HR.out; rw [List.take_of_length_le aRC, HFF.out] at hr; obtain ⟨sa, sc, hv, A3⟩ := hr.slice; subst hv; have HS := aRA A3; clear hr A3 HR; have hb : Below w8.heap.size w8 wr := cR.out; obtain ⟨w9, hwr⟩ : ∃ z, z = wr := ⟨_, rfl⟩; subst hwr; have HL9 := aRA (HL8.out.below hb (by omega))
   have P6 := aRA (M1.out.below hb (by omega))
   have rK := hb.size; have xL := aRA (vC.out.below hb (by omega))
   have xV := aRA (vH.out.below hb (by omega))
   have sZ := aRA (P9.out.trans (hb.mono (by omega)))
   have rC := aRA ((hb.block _ (aB qC.out)).trans qC.out); have uZ := aRA ((hb.block _ (aB qY.out)).trans qY.out); have tS := aRA (vB.out.below hb (by omega))
   have tU := aRA (vG.out.below hb (by omega))
   have pG := aRA ((hb.block _ (aB qA.out)).trans qA.out); have L4 := aRA (zB.out.below hb (by omega))
   have L9 := aRA (zC.out.below hb (by omega))
   have vA := aRA ((hb.block _ (aB sV.out)).trans sV.out); clear hb vC vH P9 qC qY vB vG qA zB zC sV; clear M1; clear HL8; clear cR; have HS9 := HS; clear HS; obtain ⟨cH, cG⟩ := pair_cells pG.out
   go_wp2_with fail
   have hc := lG w9 w9.heap.size gL fG zs.length fE m.length fF zs m (tS.out.more (by omega)) (tU.out.more (by omega)) aRC (by first | omega | simp) tV.out.1 ⟨(by first | omega | simp), tV.out.2.1⟩ (nD HI.out)
   unfold aAg at hc; rw [HCl.out] at hc; refine hc.mono ?_
   clear hc; rintro e vY ⟨ua, uc, rfl, jD, hb⟩; clear cH cG; have aCM := aRA (HL9.out.below hb (by omega))
   have aKt := aRA (HS9.out.below hb (by omega))
   have Q8 := aRA (P6.out.below hb (by omega))
   have aGv := hb.size; have zO := aRA (xL.out.below hb (by omega))
   have zQ := aRA (xV.out.below hb (by omega))
   have tA := aRA (sZ.out.trans (hb.mono (by omega)))
   have tH := aRA ((hb.block _ (aB rC.out)).trans rC.out); have pP := aRA ((hb.block _ (aB uZ.out)).trans uZ.out); have zN := aRA (tS.out.below hb (by omega))
   have zP := aRA (tU.out.below hb (by omega))
   have tG := aRA ((hb.block _ (aB pG.out)).trans pG.out); have X0 := aRA (L4.out.below hb (by omega))
   have X1 := aRA (L9.out.below hb (by omega))
   have F8 := aRA ((hb.block _ (aB vA.out)).trans vA.out); clear hb xL xV sZ rC uZ tS tU pG L4 L9 vA; clear P6; clear HL9 HS9; have aKs := aRA jD.rows; clear jD
   go_wp2_with fail
   refine (E7 vY vY.heap.size vY.heap.size ua sa FF.length uc sc _ (aKs.out.more (by omega)) (aKt.out.more (by omega)) aRC aRC (by omega)).mono ?_
   rintro e zS ⟨rfl, hb⟩; have aE4 := aRA (aCM.out.below hb (by omega))
   have aEU := aRA (aKt.out.below hb (by omega))
   have aNV := aRA (aKs.out.below hb (by omega))
   have aAm := aRA (Q8.out.below hb (by omega))
   have aNd := hb.size; have O9 := aRA (zO.out.below hb (by omega))
   have P2 := aRA (zQ.out.below hb (by omega))
   have aAo := aRA (tA.out.trans (hb.mono (by omega)))
   have xG := aRA ((hb.block _ (aB tH.out)).trans tH.out); have F7 := aRA ((hb.block _ (aB pP.out)).trans pP.out); have F9 := aRA (zN.out.below hb (by omega))
   have G2 := aRA (zP.out.below hb (by omega))
   have uQ := aRA ((hb.block _ (aB tG.out)).trans tG.out); have aB7 := aRA (X0.out.below hb (by omega))
   have aCa := aRA (X1.out.below hb (by omega))
   have W8 := aRA ((hb.block _ (aB F8.out)).trans F8.out); clear hb zO zQ tA tH pP zN zP tG X0 X1 F8; clear Q8; clear aCM aKt aKs; obtain ⟨cH, cG⟩ := pair_cells uQ.out
   go_wp2_with fail
   have hc := aDd zS zS.heap.size gL fG zs.length fE m.length fF zs m (F9.out.more (by omega)) (G2.out.more (by omega)) aRC (by first | omega | simp) tV.out.1 ⟨(by first | omega | simp), tV.out.2.1⟩ (nD HI.out)
   rw [Z8.out] at hc; refine hc.mono ?_
   clear hc; rintro e lC ⟨rfl, hb⟩; clear cH cG; have aE3 := aRA (aE4.out.below hb (by omega))
   have aCK := aRA (aEU.out.below hb (by omega))
   have aCJ := aRA (aNV.out.below hb (by omega))
   have aAl := aRA (aAm.out.below hb (by omega))
   have r9 := hb.size; have G0 := aRA (O9.out.below hb (by omega))
   have G3 := aRA (P2.out.below hb (by omega))
   have aAn := aRA (aAo.out.trans (hb.mono (by omega)))
   have rW := aRA ((hb.block _ (aB xG.out)).trans xG.out); have W6 := aRA ((hb.block _ (aB F7.out)).trans F7.out); have O8 := aRA (F9.out.below hb (by omega))
   have P0 := aRA (G2.out.below hb (by omega))
   have xE := aRA ((hb.block _ (aB uQ.out)).trans uQ.out); have aB6 := aRA (aB7.out.below hb (by omega))
   have rY := aRA (aCa.out.below hb (by omega))
   have W7 := aRA ((hb.block _ (aB W8.out)).trans W8.out); clear hb O9 P2 aAo xG F7 F9 G2 uQ aB7 aCa W8; clear aAm; clear aE4 aEU aNV; obtain ⟨cH, cG⟩ := pair_cells rW.out
   go_wp2_with fail
   have hc := aDd lC lC.heap.size lT lV 4 lS l.length lU xs l (G0.out.more (by omega)) (G3.out.more (by omega)) aRC (by first | omega | simp) iR.out.1 ⟨(by first | omega | simp), iR.out.2.1⟩ (nD P5.out)
   rw [HTn.out] at hc; refine hc.mono ?_
   clear hc; rintro e w13 ⟨rfl, hb⟩; clear cH cG; have aQr := aRA (aE3.out.below hb (by omega))
   have aQh := aRA (aCK.out.below hb (by omega))
   have aQg := aRA (aCJ.out.below hb (by omega))
   have aHe := aRA (aAl.out.below hb (by omega))
   have aNc := hb.size; have aB9 := aRA (G0.out.below hb (by omega))
   have aCb := aRA (G3.out.below hb (by omega))
   have aCO := aRA (aAn.out.trans (hb.mono (by omega)))
   have W9 := aRA ((hb.block _ (aB rW.out)).trans rW.out); have aO2 := aRA ((hb.block _ (aB W6.out)).trans W6.out); have aDC := aRA (O8.out.below hb (by omega))
   have aDH := aRA (P0.out.below hb (by omega))
   have aB4 := aRA ((hb.block _ (aB xE.out)).trans xE.out); have aO5 := aRA (aB6.out.below hb (by omega))
   have aO8 := aRA (rY.out.below hb (by omega))
   have aO3 := aRA ((hb.block _ (aB W7.out)).trans W7.out); clear hb G0 G3 aAn rW W6 O8 P0 xE aB6 rY W7; clear aAl; clear aE3 aCK aCJ; go_wp2
   go_ret
   exact ⟨rfl, aCO.out⟩
  obtain ⟨b, off, rfl, hb, ho⟩ := (HL8.out.below cR.out aRC).2 q aK; obtain ⟨d0, d1, d2⟩ := ho; have hki : (q : Int) < (LL.length : Int) := by omega
  have oQ := Q0 (·.saved) aK; have xP := aRA oQ; clear oQ; have hfq := aAa (·.saved) LL q (by omega)
  generalize LL.getD q aT.zero = y at d0 d1 d2 xP; obtain ⟨sv, hsv⟩ : ∃ s, y.saved = s := ⟨_, rfl⟩; have HSv := aRA hsv; rw [hsv] at d2; clear hsv; cases sv
  ·have iY : Hid (kB w6.heap.size w8.heap.size wr v ((LL.take (q + 1)).filter (·.saved))) := by
    show kB _ _ _ _ _
    rw [xP.out, HSv.out, if_neg (by decide), List.append_nil]
    exact HR.out
   go_wp2
   go_roundw
   case rel => exact ⟨q + 1, v, by omega, by go_num, rfl, iY, cR⟩
   case measure => simp [intOf]; omega
  ·obtain ⟨v', w', hrun, gW, oG⟩ := HR.out.app hsr hfq y
   rw [HSv.out] at hrun; have iY : Hid (kB w6.heap.size w8.heap.size w' v' ((LL.take (q + 1)).filter (·.saved))) := by
    show kB _ _ _ _ _
    rw [xP.out, HSv.out, if_pos rfl]; exact gW
   have bK := aRA (cR.out.trans oG); clear gW oG
   go_wp2_with (at_builtin; refine cX rfl _ _ _ rfl _ _ rfl rfl hrun ?_)
   go_roundw
   case rel => exact ⟨q + 1, v', by omega, by go_num, rfl, iY, bK⟩
   case measure => simp [intOf]; omega
end Go.Proofs.YthkagbnpcjidfaaGreatDoor
