/- The walk of the law FnOthers. -/
import Derived.Test.YthkagbnpcjidfaaGreatDoorGy41
import Derived.Test.YthkagbnpcjidfaaGreatDoorGy43
import Derived.Test.YthkagbnpcjidfaaGreatDoorGy44
import Derived.Deep.Cut
namespace Go.Proofs.YthkagbnpcjidfaaGreatDoor
set_option maxRecDepth 100000
open Go.RowKit
set_option linter.unusedVariables false
set_option linter.unusedSimpArgs false
set_option maxHeartbeats 16000000 in
theorem fnOthersWalk (E : Int → Addr) (a : Option Addr) (len cap : Nat) (bs : List Int) (w : World) (hE : eZ w w.heap.size E) (h : IsRow .u8 w a len cap bs) :
  Calls Tryz.prog 5 #[.slice a len cap] w fun e w' => e = .returned (.bool true) ∧ Below w.heap.size w w' := by
 by_cases qU : len ≤ 1048576
 rotate_left
 ·go_enter Tryz.func5, Tryz.ntmps5
  go_wp2_with fail
  refine (aAd a len cap qU w).mono ?_
  rintro e w' ⟨rfl, rfl⟩; go_wp2
  go_ret
  exact ⟨rfl, Below.refl _ _⟩
 have J2 := aRA (wD h qU)
 have eX := aRA hE
 clear h hE
 go_enter Tryz.func5, Tryz.ntmps5
 go_wp2_with fail
 refine (aBR a len cap qU w).mono ?_
 rintro e w' ⟨rfl, rfl⟩
 go_wp2_with fail
 refine (A8 w w.heap.size a len cap aRC J2.out).mono ?_
 rintro e w0 ⟨⟨lT, lS, lV, ano, lU⟩, dev, kind, item, qty, dv, sq, wV, rfl, hx, aW⟩
 obtain ⟨xs, l, e1, a1, a2, a3, a4, a5, a6⟩ := hx
 have e1 : ano = l.length := e1
 subst e1
 have HE := aRA (eX.out.below aW aRC)
 clear eX
 have eX := HE
 clear HE
 have xO := aRA a1.ints
 have xY := aRA a2.ops
 have nA := aRA aW
 have kS := aRA a3
 have iR := aRA a4
 have nZ : item.size ≤ 1048576 := Nat.le_trans wV (by omega)
 have tM := aRA nZ
 have P5 : Hid (∀ i, i < l.length → (aC l i).item.size ≤ 1048576) := fun i hi => Nat.le_trans (a5 i hi) (by omega)
 have mF := aW.size
 clear a1 a2 a3 a4 a5 aW wV nZ
 dsimp only
 go_upto_region 4 with fail
 have hT := yX w0 #[.slice lT 4 lS, .slice lV l.length lU] #[.int .i64 kind, .string item, .int .i64 qty, .int .i64 dv, .int .i64 sq] 27 29
 have jR := aRA hT.1
 have kD := aRA hT.2.1
 have hb := hT.2.2
 clear hT
 generalize (w0.alloc (.cells #[.slice lT 4 lS, .slice lV l.length lU] 27)).alloc (.cells #[.int .i64 kind, .string item, .int .i64 qty, .int .i64 dv, .int .i64 sq] 29) = w1 at hb jR kD ⊢
 have eF := aRA (eX.out.below hb (by omega))
 have fH := hb.size
 have rG := aRA (xO.out.below hb (by omega))
 have rI := aRA (xY.out.below hb (by omega))
 have cO := aRA (nA.out.trans (hb.mono (by omega)))
 clear hb xO xY nA
 clear eX
 obtain ⟨⟨k, zs, m⟩, hN⟩ : ∃ N, bN xs l dev kind item qty dv sq = N := ⟨_, rfl⟩
 have HN := aRA hN
 obtain ⟨hlz, hlm, hin, eY⟩ := mX hN
 have HI := aRA hin
 have HCt := aRA eY
 clear hN hin eY
 obtain ⟨cH, cG⟩ := pair_cells jR.out
 obtain ⟨x0, x1, x2, x3, x4⟩ := dN kD.out
 go_wp2_with fail
 have hc := oO w1 w1.heap.size E (eF.out.more (by omega)) lT lV 4 lS l.length lU xs l dev kind qty dv sq item (rG.out.more (by omega)) (rI.out.more (by omega)) aRC kS.out.1 iR.out (by first | omega | simp) (by first | omega | simp) tM.out
 rw [HN.out] at hc
 unfold C6 at hc
 dsimp only at hc
 refine hc.mono ?_
 clear hc
 rintro e w2 ⟨gL, fE, fG, fF, cE, rfl, dH, cD, nY, iM, bI, bM, hb⟩
 clear cH cG
 clear x0 x1 x2 x3 x4
 have dH := dH.more aRC iM
 have cD := cD.more nY aRC
 clear nY iM
 have aCN := aRA bI
 have tV := aRA bM
 clear bI bM
 have dQ := aRA (eF.out.below hb (by omega))
 have eV := hb.size
 have xN := aRA (rG.out.below hb (by omega))
 have xX := aRA (rI.out.below hb (by omega))
 have bK := aRA (cO.out.trans (hb.mono (by omega)))
 have rE := aRA ((hb.block _ (aB jR.out)).trans jR.out)
 have rA := aRA ((hb.block _ (aB kD.out)).trans kD.out)
 clear hb rG rI cO jR kD
 clear eF
 have xK := aRA dH.ints
 have xU := aRA cD.ops
 clear dH cD
 go_upto_region 5 with fail
 have hb : Below w2.heap.size w2 (w2.alloc (.cells #[.slice gL zs.length fE, .slice fG m.length fF] 27)) := bl
 have mP := aRA (bL (Below.refl _ (w2.alloc (.cells #[.slice gL zs.length fE, .slice fG m.length fF] 27))))
 generalize w2.alloc (.cells #[.slice gL zs.length fE, .slice fG m.length fF] 27) = w3 at hb mP ⊢
 have xZ := aRA (dQ.out.below hb (by omega))
 have iG := hb.size
 have rF := aRA (xN.out.below hb (by omega))
 have rH := aRA (xX.out.below hb (by omega))
 have dR := aRA (bK.out.trans (hb.mono (by omega)))
 have mQ := aRA ((hb.block _ (aB rE.out)).trans rE.out)
 have nP := aRA ((hb.block _ (aB rA.out)).trans rA.out)
 have xJ := aRA (xK.out.below hb (by omega))
 have xS := aRA (xU.out.below hb (by omega))
 clear hb xN xX bK rE rA xK xU
 clear dQ
 obtain ⟨cH, cG⟩ := pair_cells mQ.out
 obtain ⟨x0, x1, x2, x3, x4⟩ := dN nP.out
 go_wp2_with fail
 have hc := wE w3 w3.heap.size lT lV 4 lS l.length lU xs l kind qty dv sq item (rF.out.more (by omega)) (rH.out.more (by omega)) aRC kS.out iR.out tM.out dev P5.out (by first | omega | simp) (by first | omega | simp)
 rw [HN.out] at hc
 unfold tR at hc
 dsimp only at hc
 refine hc.mono ?_
 clear hc
 rintro e w4 ⟨iU, iT, iW, iV, rfl, dH, cD, hb, bI, bM⟩
 clear cH cG
 clear x0 x1 x2 x3 x4
 have aHf := aRA bI
 have aHg := aRA bM
 clear bI bM
 have rN := aRA (xZ.out.below hb (by omega))
 have D1 := hb.size
 have xM := aRA (rF.out.below hb (by omega))
 have xW := aRA (rH.out.below hb (by omega))
 have jI := aRA (dR.out.trans (hb.mono (by omega)))
 have rD := aRA ((hb.block _ (aB mQ.out)).trans mQ.out)
 have qZ := aRA ((hb.block _ (aB nP.out)).trans nP.out)
 have xI := aRA (xJ.out.below hb (by omega))
 have xR := aRA (xS.out.below hb (by omega))
 have rB := aRA ((hb.block _ (aB mP.out)).trans mP.out)
 clear hb rF rH dR mQ nP xJ xS mP
 clear xZ
 have xH := aRA dH.ints
 have xQ := aRA cD.ops
 clear dH cD
 go_upto_region 6 with fail
 have hb : Below w4.heap.size w4 (w4.alloc (.cells #[.slice iU zs.length iT, .slice iW m.length iV] 27)) := bl
 have cN := aRA (bL (Below.refl _ (w4.alloc (.cells #[.slice iU zs.length iT, .slice iW m.length iV] 27))))
 generalize w4.alloc (.cells #[.slice iU zs.length iT, .slice iW m.length iV] 27) = w5 at hb cN ⊢
 have kR := aRA (rN.out.below hb (by omega))
 have hs5 := hb.size
 have iO := aRA (xM.out.below hb (by omega))
 have iP := aRA (xW.out.below hb (by omega))
 have gZ := aRA (jI.out.trans (hb.mono (by omega)))
 have eP := aRA ((hb.block _ (aB rD.out)).trans rD.out)
 have eO := aRA ((hb.block _ (aB qZ.out)).trans qZ.out)
 have eR := aRA (xI.out.below hb (by omega))
 have eT := aRA (xR.out.below hb (by omega))
 have dB := aRA ((hb.block _ (aB rB.out)).trans rB.out)
 have eQ := aRA (xH.out.below hb (by omega))
 have eS := aRA (xQ.out.below hb (by omega))
 clear hb xM xW jI rD qZ xI xR rB xH xQ
 clear rN
 have Y3 : (k != k) = false := bne_self_eq_false _
 have R9 : (k == k) = true := beq_self_eq_true _
 by_cases yF : k = 0
 rotate_left
 ·have Y4 : (k != 0) = true := by simp [yF]
  obtain ⟨cH, cG⟩ := pair_cells dB.out; obtain ⟨fQ, fP⟩ := pair_cells cN.out
  go_wp2_with fail
  refine (eJ w5 w5.heap.size gL fG iU iW zs.length fE m.length fF zs.length iT m.length iV zs m zs m (eR.out.more (by omega)) (eT.out.more (by omega)) (eQ.out.more (by omega)) (eS.out.more (by omega)) aRC (by first | omega | simp) (by first | omega | simp) (by first | omega | simp) (by first | omega | simp)).mono ?_
  rintro e w6 ⟨rfl, hb⟩; rw [decide_eq_true rfl, decide_eq_true rfl]; clear cH cG fQ fP; have iQ := aRA (kR.out.below hb (by omega))
  have wR := hb.size; have fC := aRA (iO.out.below hb (by omega))
  have fD := aRA (iP.out.below hb (by omega))
  have dC := aRA (gZ.out.trans (hb.mono (by omega)))
  have dJ := aRA ((hb.block _ (aB eP.out)).trans eP.out); have cS := aRA ((hb.block _ (aB eO.out)).trans eO.out); have dV := aRA (eR.out.below hb (by omega))
  have dW := aRA (eT.out.below hb (by omega))
  have cL := aRA ((hb.block _ (aB dB.out)).trans dB.out); have eB := aRA (eQ.out.below hb (by omega))
  have eC := aRA (eS.out.below hb (by omega))
  have cP := aRA ((hb.block _ (aB cN.out)).trans cN.out); clear hb iO iP gZ eP eO eR eT dB eQ eS cN; clear kR; obtain ⟨cH, cG⟩ := pair_cells cL.out; obtain ⟨fQ, fP⟩ := pair_cells cP.out
  go_wp2_with fail
  refine (eJ w6 w6.heap.size gL fG iU iW zs.length fE m.length fF zs.length iT m.length iV zs m zs m (dV.out.more (by omega)) (dW.out.more (by omega)) (eB.out.more (by omega)) (eC.out.more (by omega)) aRC (by first | omega | simp) (by first | omega | simp) (by first | omega | simp) (by first | omega | simp)).mono ?_
  rintro e w7 ⟨rfl, hb⟩; rw [decide_eq_true rfl, decide_eq_true rfl]; clear cH cG fQ fP; have sX := aRA (iQ.out.below hb (by omega))
  have J3 := hb.size; have mS := aRA (fC.out.below hb (by omega))
  have mT := aRA (fD.out.below hb (by omega))
  have lR := aRA (dC.out.trans (hb.mono (by omega)))
  have jQ := aRA ((hb.block _ (aB dJ.out)).trans dJ.out); have kC := aRA ((hb.block _ (aB cS.out)).trans cS.out); have nR := aRA (dV.out.below hb (by omega))
  have nT := aRA (dW.out.below hb (by omega))
  have kF := aRA ((hb.block _ (aB cL.out)).trans cL.out); have nQ := aRA (eB.out.below hb (by omega))
  have nS := aRA (eC.out.below hb (by omega))
  have kE := aRA ((hb.block _ (aB cP.out)).trans cP.out); clear hb fC fD dC dJ cS dV dW cL eB eC cP; clear iQ; go_wp2
  go_ret
  exact ⟨rfl, lR.out⟩
 subst yF
 by_cases hk5 : 5 < kind
 ·skip
  obtain ⟨cH, cG⟩ := pair_cells dB.out; obtain ⟨fQ, fP⟩ := pair_cells cN.out
  go_wp2_with fail
  refine (eJ w5 w5.heap.size gL fG iU iW zs.length fE m.length fF zs.length iT m.length iV zs m zs m (eR.out.more (by omega)) (eT.out.more (by omega)) (eQ.out.more (by omega)) (eS.out.more (by omega)) aRC (by first | omega | simp) (by first | omega | simp) (by first | omega | simp) (by first | omega | simp)).mono ?_
  rintro e w6 ⟨rfl, hb⟩; rw [decide_eq_true rfl, decide_eq_true rfl]; clear cH cG fQ fP; have iQ := aRA (kR.out.below hb (by omega))
  have wR := hb.size; have fC := aRA (iO.out.below hb (by omega))
  have fD := aRA (iP.out.below hb (by omega))
  have dC := aRA (gZ.out.trans (hb.mono (by omega)))
  have dJ := aRA ((hb.block _ (aB eP.out)).trans eP.out); have cS := aRA ((hb.block _ (aB eO.out)).trans eO.out); have dV := aRA (eR.out.below hb (by omega))
  have dW := aRA (eT.out.below hb (by omega))
  have cL := aRA ((hb.block _ (aB dB.out)).trans dB.out); have eB := aRA (eQ.out.below hb (by omega))
  have eC := aRA (eS.out.below hb (by omega))
  have cP := aRA ((hb.block _ (aB cN.out)).trans cN.out); clear hb iO iP gZ eP eO eR eT dB eQ eS cN; clear kR; obtain ⟨x0, x1, x2, x3, x4⟩ := dN cS.out; obtain ⟨cH, cG⟩ := pair_cells cL.out; obtain ⟨fQ, fP⟩ := pair_cells cP.out
  go_wp2_with fail
  refine (eJ w6 w6.heap.size gL fG iU iW zs.length fE m.length fF zs.length iT m.length iV zs m zs m (dV.out.more (by omega)) (dW.out.more (by omega)) (eB.out.more (by omega)) (eC.out.more (by omega)) aRC (by first | omega | simp) (by first | omega | simp) (by first | omega | simp) (by first | omega | simp)).mono ?_
  rintro e w7 ⟨rfl, hb⟩; rw [decide_eq_true rfl, decide_eq_true rfl]; clear cH cG fQ fP; have sX := aRA (iQ.out.below hb (by omega))
  have J3 := hb.size; have mS := aRA (fC.out.below hb (by omega))
  have mT := aRA (fD.out.below hb (by omega))
  have lR := aRA (dC.out.trans (hb.mono (by omega)))
  have jQ := aRA ((hb.block _ (aB dJ.out)).trans dJ.out); have kC := aRA ((hb.block _ (aB cS.out)).trans cS.out); have nR := aRA (dV.out.below hb (by omega))
  have nT := aRA (dW.out.below hb (by omega))
  have kF := aRA ((hb.block _ (aB cL.out)).trans cL.out); have nQ := aRA (eB.out.below hb (by omega))
  have nS := aRA (eC.out.below hb (by omega))
  have kE := aRA ((hb.block _ (aB cP.out)).trans cP.out); clear hb fC fD dC dJ cS dV dW cL eB eC cP; clear iQ; go_wp2
  go_ret
  exact ⟨rfl, lR.out⟩
 obtain ⟨hca, jP, Y4, qJ, oQ⟩ := kZ (by rw [HN.out]) (Int.not_lt.1 hk5)
 rw [HN.out] at oQ
 have xP := aRA oQ
 have T5 := aRA hca
 clear oQ hca qJ
 obtain ⟨cH, cG⟩ := pair_cells dB.out
 obtain ⟨fQ, fP⟩ := pair_cells cN.out
 go_wp2_with fail
 refine (eJ w5 w5.heap.size gL fG iU iW zs.length fE m.length fF zs.length iT m.length iV zs m zs m (eR.out.more (by omega)) (eT.out.more (by omega)) (eQ.out.more (by omega)) (eS.out.more (by omega)) aRC (by first | omega | simp) (by first | omega | simp) (by first | omega | simp) (by first | omega | simp)).mono ?_
 rintro e w6 ⟨rfl, hb⟩
 rw [decide_eq_true rfl, decide_eq_true rfl]
 clear cH cG fQ fP
 have iQ := aRA (kR.out.below hb (by omega))
 have wR := hb.size
 have fC := aRA (iO.out.below hb (by omega))
 have fD := aRA (iP.out.below hb (by omega))
 have dC := aRA (gZ.out.trans (hb.mono (by omega)))
 have dJ := aRA ((hb.block _ (aB eP.out)).trans eP.out)
 have cS := aRA ((hb.block _ (aB eO.out)).trans eO.out)
 have dV := aRA (eR.out.below hb (by omega))
 have dW := aRA (eT.out.below hb (by omega))
 have cL := aRA ((hb.block _ (aB dB.out)).trans dB.out)
 have eB := aRA (eQ.out.below hb (by omega))
 have eC := aRA (eS.out.below hb (by omega))
 have cP := aRA ((hb.block _ (aB cN.out)).trans cN.out)
 clear hb iO iP gZ eP eO eR eT dB eQ eS cN
 clear kR
 obtain ⟨x0, x1, x2, x3, x4⟩ := dN cS.out
 go_upto_region 9 with fail
 have hb : Below w6.heap.size w6 (w6.alloc (.cells #[] 39)) := bl
 generalize w6.alloc (.cells #[] 39) = w7 at hb ⊢
 have sX := aRA (iQ.out.below hb (by omega))
 have J3 := hb.size
 have mS := aRA (fC.out.below hb (by omega))
 have mT := aRA (fD.out.below hb (by omega))
 have lR := aRA (dC.out.trans (hb.mono (by omega)))
 have jQ := aRA ((hb.block _ (aB dJ.out)).trans dJ.out)
 have kC := aRA ((hb.block _ (aB cS.out)).trans cS.out)
 have nR := aRA (dV.out.below hb (by omega))
 have nT := aRA (dW.out.below hb (by omega))
 have kF := aRA ((hb.block _ (aB cL.out)).trans cL.out)
 have nQ := aRA (eB.out.below hb (by omega))
 have nS := aRA (eC.out.below hb (by omega))
 have kE := aRA ((hb.block _ (aB cP.out)).trans cP.out)
 clear hb fC fD dC dJ cS dV dW cL eB eC cP
 clear iQ
 clear x0 x1 x2 x3 x4
 go_upto_region 10 with fail
 have hb : Below w7.heap.size w7 (w7.alloc (.cells #[] 39)) := bl
 generalize w7.alloc (.cells #[] 39) = w8 at hb ⊢
 have M1 := aRA (sX.out.below hb (by omega))
 have hs8 := hb.size
 have vC := aRA (mS.out.below hb (by omega))
 have vH := aRA (mT.out.below hb (by omega))
 have P9 := aRA (lR.out.trans (hb.mono (by omega)))
 have qC := aRA ((hb.block _ (aB jQ.out)).trans jQ.out)
 have qY := aRA ((hb.block _ (aB kC.out)).trans kC.out)
 have vB := aRA (nR.out.below hb (by omega))
 have vG := aRA (nT.out.below hb (by omega))
 have qA := aRA ((hb.block _ (aB kF.out)).trans kF.out)
 have zB := aRA (nQ.out.below hb (by omega))
 have zC := aRA (nS.out.below hb (by omega))
 have sV := aRA ((hb.block _ (aB kE.out)).trans kE.out)
 clear hb mS mT lR jQ kC nR nT kF nQ nS kE
 clear sX
 have D6 := xP.out.lines T5.out (by omega)
 dsimp only at D6
 have kI : (aO xs l).length ≤ 160 := by unfold aO; rw [List.length_map]; exact oN
 have hmm : (aO zs m).length ≤ 160 := by unfold aO; rw [List.length_map]; exact oN
 obtain ⟨LL, Y9⟩ : ∃ x, aO xs l = x := ⟨_, rfl⟩
 obtain ⟨MM, hMM⟩ : ∃ x, aO zs m = x := ⟨_, rfl⟩
 rw [Y9] at kI
 rw [hMM] at hmm
 rw [Y9, hMM] at D6
 have hfn : (LL.filter (fun n => decide (n.item ≠ item))).length ≤ 160 := Nat.le_trans (List.length_filter_le _ _) kI
 obtain ⟨FF, hFF⟩ : ∃ x, LL.filter (fun n => decide (n.item ≠ item)) = x := ⟨_, rfl⟩
 rw [hFF] at D6 hfn
 have HFF := aRA hFF
 have HFG := aRA D6
 have HLL := aRA Y9
 have HMM := aRA hMM
 clear hFF D6 Y9 hMM hk5 Y4
 obtain ⟨cH, cG⟩ := pair_cells qC.out
 go_wp2_with fail
 have hc := lG w8 w8.heap.size lT lV 4 lS l.length lU xs l (vC.out.more (by omega)) (vH.out.more (by omega)) aRC (by first | omega | simp) iR.out.1 ⟨(by first | omega | simp), iR.out.2.1⟩ (nD P5.out)
 unfold aAg at hc
 rw [HLL.out] at hc
 refine hc.mono ?_
 clear hc
 rintro e w9 ⟨ra, rc, rfl, jD, hb⟩
 clear cH cG
 have P6 := aRA (M1.out.below hb (by omega))
 have rK := hb.size
 have xL := aRA (vC.out.below hb (by omega))
 have xV := aRA (vH.out.below hb (by omega))
 have sZ := aRA (P9.out.trans (hb.mono (by omega)))
 have rC := aRA ((hb.block _ (aB qC.out)).trans qC.out)
 have uZ := aRA ((hb.block _ (aB qY.out)).trans qY.out)
 have tS := aRA (vB.out.below hb (by omega))
 have tU := aRA (vG.out.below hb (by omega))
 have pG := aRA ((hb.block _ (aB qA.out)).trans qA.out)
 have L4 := aRA (zB.out.below hb (by omega))
 have L9 := aRA (zC.out.below hb (by omega))
 have vA := aRA ((hb.block _ (aB sV.out)).trans sV.out)
 clear hb vC vH P9 qC qY vB vG qA zB zC sV
 clear M1
 have HL9 := aRA jD.rows
 clear jD
 obtain ⟨cH, cG⟩ := pair_cells pG.out
 go_wp2_with fail
 have hc := lG w9 w9.heap.size gL fG zs.length fE m.length fF zs m (tS.out.more (by omega)) (tU.out.more (by omega)) aRC (by first | omega | simp) tV.out.1 ⟨(by first | omega | simp), tV.out.2.1⟩ (nD HI.out)
 unfold aAg at hc
 rw [HMM.out] at hc
 refine hc.mono ?_
 clear hc
 rintro e vY ⟨ua, uc, rfl, jD, hb⟩
 clear cH cG
 have aCM := aRA (HL9.out.below hb (by omega))
 have Q8 := aRA (P6.out.below hb (by omega))
 have aGv := hb.size
 have zO := aRA (xL.out.below hb (by omega))
 have zQ := aRA (xV.out.below hb (by omega))
 have tA := aRA (sZ.out.trans (hb.mono (by omega)))
 have tH := aRA ((hb.block _ (aB rC.out)).trans rC.out)
 have pP := aRA ((hb.block _ (aB uZ.out)).trans uZ.out)
 have zN := aRA (tS.out.below hb (by omega))
 have zP := aRA (tU.out.below hb (by omega))
 have tG := aRA ((hb.block _ (aB pG.out)).trans pG.out)
 have X0 := aRA (L4.out.below hb (by omega))
 have X1 := aRA (L9.out.below hb (by omega))
 have F8 := aRA ((hb.block _ (aB vA.out)).trans vA.out)
 clear hb xL xV sZ rC uZ tS tU pG L4 L9 vA
 clear P6
 clear HL9
 have aOn := aRA jD.rows
 clear jD
 go_wp2
 go_loopw [10, 14] (fun v i wr => ∃ (q : Nat) (vv : Value), q ≤ LL.length ∧ i = .int .i64 (q : Int) ∧ vv = v ∧ Hid (kB w6.heap.size vY.heap.size wr vv ((LL.take q).filter (fun n => decide (n.item ≠ item)))) ∧ Hid (Below vY.heap.size vY wr)) (fun _ i _ => LL.length - (intOf i).toNat)
 case atStart => exact ⟨0, _, Nat.zero_le _, rfl, rfl, kB.nil _ _ _, Below.refl _ _⟩
 case round =>
  obtain ⟨q, v, hq, rfl, rfl, HR, cR⟩ := hrel; have hsr := cR.out.size
  by_cases aK : q < LL.length
  rotate_left
  ·obtain rfl : q = LL.length := by omega
   have hr := HR.out; rw [List.take_of_length_le aRC, HFF.out] at hr; obtain ⟨hsa, hsc, hv, A3⟩ := hr.slice; subst hv; have HS := aRA A3; clear hr A3 HR; have hb : Below vY.heap.size vY wr := cR.out; obtain ⟨zS, hwr⟩ : ∃ z, z = wr := ⟨_, rfl⟩; subst hwr; have aE4 := aRA (aCM.out.below hb (by omega))
   have aKE := aRA (aOn.out.below hb (by omega))
   have aAm := aRA (Q8.out.below hb (by omega))
   have aNd := hb.size; have O9 := aRA (zO.out.below hb (by omega))
   have P2 := aRA (zQ.out.below hb (by omega))
   have aAo := aRA (tA.out.trans (hb.mono (by omega)))
   have xG := aRA ((hb.block _ (aB tH.out)).trans tH.out); have F7 := aRA ((hb.block _ (aB pP.out)).trans pP.out); have F9 := aRA (zN.out.below hb (by omega))
   have G2 := aRA (zP.out.below hb (by omega))
   have uQ := aRA ((hb.block _ (aB tG.out)).trans tG.out); have aB7 := aRA (X0.out.below hb (by omega))
   have aCa := aRA (X1.out.below hb (by omega))
   have W8 := aRA ((hb.block _ (aB F8.out)).trans F8.out); clear hb zO zQ tA tH pP zN zP tG X0 X1 F8; clear Q8; clear aCM aOn; clear cR; have aEU := HS; clear HS; go_wp2
   go_loopw [11, 15] (fun v i wr => ∃ (q : Nat) (vv : Value), q ≤ MM.length ∧ i = .int .i64 (q : Int) ∧ vv = v ∧ Hid (kB w7.heap.size zS.heap.size wr vv ((MM.take q).filter (fun n => decide (n.item ≠ item)))) ∧ Hid (Below zS.heap.size zS wr)) (fun _ i _ => MM.length - (intOf i).toNat)
   case atStart => exact ⟨0, _, Nat.zero_le _, rfl, rfl, kB.nil _ _ _, Below.refl _ _⟩
   case round =>
    obtain ⟨q, v, hq, rfl, rfl, HR, cR⟩ := hrel; have hsr := cR.out.size
    by_cases aK : q < MM.length
    rotate_left
    ·obtain rfl : q = MM.length := by omega
     have hr := HR.out; rw [List.take_of_length_le aRC, HFG.out] at hr; obtain ⟨hua, huc, hv, A3⟩ := hr.slice; subst hv; have HU := aRA A3; clear hr A3 HR; have hb : Below zS.heap.size zS wr := cR.out; obtain ⟨lC, hwr⟩ : ∃ z, z = wr := ⟨_, rfl⟩; subst hwr; have aE3 := aRA (aE4.out.below hb (by omega))
     have aOm := aRA (aKE.out.below hb (by omega))
     have aCK := aRA (aEU.out.below hb (by omega))
     have aAl := aRA (aAm.out.below hb (by omega))
     have r9 := hb.size; have G0 := aRA (O9.out.below hb (by omega))
     have G3 := aRA (P2.out.below hb (by omega))
     have aAn := aRA (aAo.out.trans (hb.mono (by omega)))
     have rW := aRA ((hb.block _ (aB xG.out)).trans xG.out); have W6 := aRA ((hb.block _ (aB F7.out)).trans F7.out); have O8 := aRA (F9.out.below hb (by omega))
     have P0 := aRA (G2.out.below hb (by omega))
     have xE := aRA ((hb.block _ (aB uQ.out)).trans uQ.out); have aB6 := aRA (aB7.out.below hb (by omega))
     have rY := aRA (aCa.out.below hb (by omega))
     have W7 := aRA ((hb.block _ (aB W8.out)).trans W8.out); clear hb O9 P2 aAo xG F7 F9 G2 uQ aB7 aCa W8; clear aAm; clear aE4 aKE aEU; clear cR; have aCJ := HU; clear HU
     go_wp2_with fail
     refine (E7 lC lC.heap.size lC.heap.size hsa hua FF.length hsc huc _ (aCK.out.more (by omega)) (aCJ.out.more (by omega)) aRC aRC (by omega)).mono ?_
     rintro e w13 ⟨rfl, hb⟩; have aQr := aRA (aE3.out.below hb (by omega))
     have aRw := aRA (aOm.out.below hb (by omega))
     have aQh := aRA (aCK.out.below hb (by omega))
     have aQg := aRA (aCJ.out.below hb (by omega))
     have aHe := aRA (aAl.out.below hb (by omega))
     have aNc := hb.size; have aB9 := aRA (G0.out.below hb (by omega))
     have aCb := aRA (G3.out.below hb (by omega))
     have aCO := aRA (aAn.out.trans (hb.mono (by omega)))
     have W9 := aRA ((hb.block _ (aB rW.out)).trans rW.out); have aO2 := aRA ((hb.block _ (aB W6.out)).trans W6.out); have aDC := aRA (O8.out.below hb (by omega))
     have aDH := aRA (P0.out.below hb (by omega))
     have aB4 := aRA ((hb.block _ (aB xE.out)).trans xE.out); have aO5 := aRA (aB6.out.below hb (by omega))
     have aO8 := aRA (rY.out.below hb (by omega))
     have aO3 := aRA ((hb.block _ (aB W7.out)).trans W7.out); clear hb G0 G3 aAn rW W6 O8 P0 xE aB6 rY W7; clear aAl; clear aE3 aOm aCK aCJ; go_wp2
     go_ret
     exact ⟨rfl, aCO.out⟩
    obtain ⟨b, off, rfl, hb, ho⟩ := (aKE.out.below cR.out (by omega)).2 q aK
    obtain ⟨d0, d1, d2⟩ := ho; have hki : (q : Int) < (MM.length : Int) := by omega
    have oQ := Q0 (fun n => decide (n.item ≠ item)) aK
    have xP := aRA oQ; clear oQ; have hfq := aAa (fun n => decide (n.item ≠ item)) MM q (by omega)
    generalize MM.getD q aT.zero = y at d0 d1 d2 xP; have Y5 := ((cR.out.block _ (aB F7.out)).trans F7.out); obtain ⟨x0, x1, x2, x3, x4⟩ := dN Y5; clear Y5 x0 x2 x3 x4; obtain ⟨z, hz⟩ : ∃ z, wr.drew = z := ⟨_, rfl⟩; have fY : Below wr.heap.size wr z := by rw [← hz]; exact ⟨rfl, rfl, rfl, Nat.le_refl _, fun _ _ => rfl⟩
    have dK := fY.size; have hS : wr.drew.cell? ⟨b, off + q * 3, none⟩ = some (.string y.item) ∧ wr.drew.cell? ⟨w0.heap.size + 1, 1, none⟩ = some (.string item) := ⟨d0, x1⟩; have e0 : z.cell? ⟨b, off + q * 3, none⟩ = some (.string y.item) ∧ z.cell? ⟨b, off + q * 3 + 1, none⟩ = some (.int .i64 y.qty) ∧ z.cell? ⟨b, off + q * 3 + 2, none⟩ = some (.bool y.saved) := by rw [← hz]; exact ⟨d0, d1, d2⟩
    have dG : Hid (Below zS.heap.size zS z) := cR.out.trans (fY.mono hsr); clear d0 d1 d2 x1; obtain ⟨t, ht⟩ : ∃ t, (y.item.toList == item.toList) = t := ⟨_, rfl⟩; have HT : Hid ((y.item ≠ item) ↔ t = false) := by
     show _ ↔ _
     rw [← ht]
     constructor
     ·intro h
      cases hq2 : (y.item.toList == item.toList)
      ·rfl
      ·exact absurd (aBo (eq_of_beq hq2)) h
     ·intro h e
      rw [e, beq_self_eq_true] at h; cases h
    go_wp2_with fail
    refine wp_region_held_drew (S := fun w' => w'.cell? ⟨b, off + q * 3, none⟩ = some (.string y.item) ∧ w'.cell? ⟨w0.heap.size + 1, 1, none⟩ = some (.string item)) (by kernel_rfl) hS (fun aP => ?_)
    clear aP; refine tk 0 ⟨some 97, .move (.tmp 13), 42, "laws.go:486", #[], none⟩ ?_
    (try simp only [Act.put, u1, u2, u3])
    refine tk 1 ⟨some 98, .move (.tmp 15), 3, "laws.go:486", #[], none⟩ ?_
    (try simp only [Act.put, u1, u2, u3])
    refine tk 2 ⟨some 99, .indexAddr 42 (.tmp 97) (.tmp 98), 0, "laws.go:486", #[⟨0, .data⟩, ⟨1, .data⟩], none⟩ ?_
    (try simp only [Act.put, u1, u2, u3])
    refine tk 3 ⟨some 100, .fieldAddr 39 (.tmp 99) 0, 0, "laws.go:486", #[⟨2, .data⟩], none⟩ ?_
    (try simp only [Act.put, u1, u2, u3])
    refine tk 4 ⟨some 101, .load 9 (.tmp 100), 9, "laws.go:486", #[⟨3, .data⟩], none⟩ ?_
    (try simp only [Act.put, u1, u2, u3])
    refine tk 5 ⟨some 102, .fieldAddr 29 (.tmp 5) 1, 0, "laws.go:486", #[], none⟩ ?_
    (try simp only [Act.put, u1, u2, u3])
    refine tk 6 ⟨some 103, .load 9 (.tmp 102), 9, "laws.go:486", #[⟨5, .data⟩], none⟩ ?_
    (try simp only [Act.put, u1, u2, u3])
    refine tk 7 ⟨some 104, .binOp .neq 9 (.tmp 101) (.tmp 103) 9, 4, "laws.go:486", #[⟨4, .data⟩, ⟨6, .data⟩], none⟩ ?_
    (try simp only [Act.put, u1, u2, u3])
    refine wpAnyH_done (by kernel_rfl) ?_ _
    rw [hz]; clear hz hS; have hM : t = true → ¬ (decide (y.item ≠ item) = true) := fun h q => by have := HT.out.1 (of_decide_eq_true q); rw [h] at this; cases this
    have p9 : t = false → decide (y.item ≠ item) = true := fun h => decide_eq_true (HT.out.2 h)
    have HNo := aRA hM; have HYs := aRA p9; clear hM p9; obtain ⟨d0, d1, d2⟩ := e0; have aEs : zS.heap.size ≤ z.heap.size := by omega
    cases t
    ·obtain ⟨v', w', hrun, gW, oG⟩ := (HR.out.below fY).app aEs hfq y
     have iY : Hid (kB w7.heap.size zS.heap.size w' v' ((MM.take (q + 1)).filter (fun n => decide (n.item ≠ item)))) := by
      show kB _ _ _ _ _
      rw [xP.out, if_pos (HYs.out rfl)]; exact gW
     have bK := aRA ((dG.out).trans oG); clear gW oG
     go_wp2_with (at_builtin; refine cX rfl _ _ _ rfl _ _ rfl rfl hrun ?_)
     go_roundw
     case rel => exact ⟨q + 1, v', by omega, by go_num, rfl, iY, bK⟩
     case measure => simp [intOf]; omega
    ·have iY : Hid (kB w7.heap.size zS.heap.size z v ((MM.take (q + 1)).filter (fun n => decide (n.item ≠ item)))) := by
      show kB _ _ _ _ _
      rw [xP.out, if_neg (HNo.out rfl), List.append_nil]; exact HR.out.below fY
     have bK := aRA (dG.out); go_wp2
     go_roundw
     case rel => exact ⟨q + 1, v, by omega, by go_num, rfl, iY, bK⟩
     case measure => simp [intOf]; omega
  obtain ⟨b, off, rfl, hb, ho⟩ := (aCM.out.below cR.out (by omega)).2 q aK
  obtain ⟨d0, d1, d2⟩ := ho; have hki : (q : Int) < (LL.length : Int) := by omega
  have oQ := Q0 (fun n => decide (n.item ≠ item)) aK
  have xP := aRA oQ; clear oQ; have hfq := aAa (fun n => decide (n.item ≠ item)) LL q (by omega)
  generalize LL.getD q aT.zero = y at d0 d1 d2 xP; have Y5 := ((cR.out.block _ (aB pP.out)).trans pP.out); obtain ⟨x0, x1, x2, x3, x4⟩ := dN Y5; clear Y5 x0 x2 x3 x4; obtain ⟨z, hz⟩ : ∃ z, wr.drew = z := ⟨_, rfl⟩; have fY : Below wr.heap.size wr z := by rw [← hz]; exact ⟨rfl, rfl, rfl, Nat.le_refl _, fun _ _ => rfl⟩
  have dK := fY.size; have hS : wr.drew.cell? ⟨b, off + q * 3, none⟩ = some (.string y.item) ∧ wr.drew.cell? ⟨w0.heap.size + 1, 1, none⟩ = some (.string item) := ⟨d0, x1⟩; have e0 : z.cell? ⟨b, off + q * 3, none⟩ = some (.string y.item) ∧ z.cell? ⟨b, off + q * 3 + 1, none⟩ = some (.int .i64 y.qty) ∧ z.cell? ⟨b, off + q * 3 + 2, none⟩ = some (.bool y.saved) := by rw [← hz]; exact ⟨d0, d1, d2⟩
  have dG : Hid (Below vY.heap.size vY z) := cR.out.trans (fY.mono hsr); clear d0 d1 d2 x1; obtain ⟨t, ht⟩ : ∃ t, (y.item.toList == item.toList) = t := ⟨_, rfl⟩; have HT : Hid ((y.item ≠ item) ↔ t = false) := by
   show _ ↔ _
   rw [← ht]
   constructor
   ·intro h
    cases hq2 : (y.item.toList == item.toList)
    ·rfl
    ·exact absurd (aBo (eq_of_beq hq2)) h
   ·intro h e
    rw [e, beq_self_eq_true] at h; cases h
  go_wp2_with fail
  refine wp_region_held_drew (S := fun w' => w'.cell? ⟨b, off + q * 3, none⟩ = some (.string y.item) ∧ w'.cell? ⟨w0.heap.size + 1, 1, none⟩ = some (.string item)) (by kernel_rfl) hS (fun aP => ?_)
  clear aP; refine tk 0 ⟨some 76, .move (.tmp 12), 42, "laws.go:481", #[], none⟩ ?_
  (try simp only [Act.put, u1, u2, u3])
  refine tk 1 ⟨some 77, .move (.tmp 14), 3, "laws.go:481", #[], none⟩ ?_
  (try simp only [Act.put, u1, u2, u3])
  refine tk 2 ⟨some 78, .indexAddr 42 (.tmp 76) (.tmp 77), 0, "laws.go:481", #[⟨0, .data⟩, ⟨1, .data⟩], none⟩ ?_
  (try simp only [Act.put, u1, u2, u3])
  refine tk 3 ⟨some 79, .fieldAddr 39 (.tmp 78) 0, 0, "laws.go:481", #[⟨2, .data⟩], none⟩ ?_
  (try simp only [Act.put, u1, u2, u3])
  refine tk 4 ⟨some 80, .load 9 (.tmp 79), 9, "laws.go:481", #[⟨3, .data⟩], none⟩ ?_
  (try simp only [Act.put, u1, u2, u3])
  refine tk 5 ⟨some 81, .fieldAddr 29 (.tmp 5) 1, 0, "laws.go:481", #[], none⟩ ?_
  (try simp only [Act.put, u1, u2, u3])
  refine tk 6 ⟨some 82, .load 9 (.tmp 81), 9, "laws.go:481", #[⟨5, .data⟩], none⟩ ?_
  (try simp only [Act.put, u1, u2, u3])
  refine tk 7 ⟨some 83, .binOp .neq 9 (.tmp 80) (.tmp 82) 9, 4, "laws.go:481", #[⟨4, .data⟩, ⟨6, .data⟩], none⟩ ?_
  (try simp only [Act.put, u1, u2, u3])
  refine wpAnyH_done (by kernel_rfl) ?_ _
  rw [hz]; clear hz hS; have hM : t = true → ¬ (decide (y.item ≠ item) = true) := fun h q => by have := HT.out.1 (of_decide_eq_true q); rw [h] at this; cases this
  have p9 : t = false → decide (y.item ≠ item) = true := fun h => decide_eq_true (HT.out.2 h)
  have HNo := aRA hM; have HYs := aRA p9; clear hM p9; obtain ⟨d0, d1, d2⟩ := e0; have aEs : vY.heap.size ≤ z.heap.size := by omega
  cases t
  ·obtain ⟨v', w', hrun, gW, oG⟩ := (HR.out.below fY).app aEs hfq y
   have iY : Hid (kB w6.heap.size vY.heap.size w' v' ((LL.take (q + 1)).filter (fun n => decide (n.item ≠ item)))) := by
    show kB _ _ _ _ _
    rw [xP.out, if_pos (HYs.out rfl)]; exact gW
   have bK := aRA ((dG.out).trans oG); clear gW oG
   go_wp2_with (at_builtin; refine cX rfl _ _ _ rfl _ _ rfl rfl hrun ?_)
   go_roundw
   case rel => exact ⟨q + 1, v', by omega, by go_num, rfl, iY, bK⟩
   case measure => simp [intOf]; omega
  ·have iY : Hid (kB w6.heap.size vY.heap.size z v ((LL.take (q + 1)).filter (fun n => decide (n.item ≠ item)))) := by
    show kB _ _ _ _ _
    rw [xP.out, if_neg (HNo.out rfl), List.append_nil]; exact HR.out.below fY
   have bK := aRA (dG.out); go_wp2
   go_roundw
   case rel => exact ⟨q + 1, v, by omega, by go_num, rfl, iY, bK⟩
   case measure => simp [intOf]; omega
end Go.Proofs.YthkagbnpcjidfaaGreatDoor
