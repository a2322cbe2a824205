/- The walk of the law FnEffect. -/
import Derived.Test.YthkagbnpcjidfaaGreatDoorGy41
import Derived.Test.YthkagbnpcjidfaaGreatDoorGy26
import Derived.Test.YthkagbnpcjidfaaGreatDoorGy39
import Derived.Deep.Cut
import Derived.Test.YthkagbnpcjidfaaGreatDoorGyA
namespace Go.Proofs.YthkagbnpcjidfaaGreatDoor
set_option maxRecDepth 100000
open Go.RowKit
set_option linter.unusedVariables false
set_option linter.unusedSimpArgs false
set_option linter.unusedVariables false
set_option linter.unusedSimpArgs false

set_option maxHeartbeats 16000000 in
theorem fnEffectWalk (E : Int → Addr) (a : Option Addr) (len cap : Nat) (bs : List Int) (w : World) (hE : eZ w w.heap.size E) (h : IsRow .u8 w a len cap bs) :
  Calls Tryz.prog 4 #[.slice a len cap] w fun e w' => e = .returned (.bool true) ∧ Below w.heap.size w w' := by
 by_cases qU : len ≤ 1048576
 rotate_left
 ·go_enter Tryz.func4, Tryz.ntmps4
  go_wp2_with fail
  refine (aAd a len cap qU w).mono ?_
  rintro e w' ⟨rfl, rfl⟩; go_wp2
  go_ret
  exact ⟨rfl, Below.refl _ _⟩
 have J2 := aRA (wD h qU)
 have eX := aRA hE
 clear h hE
 go_enter Tryz.func4, Tryz.ntmps4
 go_wp2_with fail
 refine (aBR a len cap qU w).mono ?_
 rintro e w' ⟨rfl, rfl⟩
 go_wp2_with fail
 refine (A8 w w.heap.size a len cap aRC J2.out).mono ?_
 rintro e w0 ⟨⟨lT, lS, lV, ano, lU⟩, dev, kind, item, qty, dv, sq, wV, rfl, hx, aW⟩
 obtain ⟨xs, l, e1, a1, a2, a3, a4, a5, a6⟩ := hx
 have e1 : ano = l.length := e1
 subst e1
 have HE := aRA (eX.out.below aW aRC)
 clear eX
 have eX := HE
 clear HE
 have xO := aRA a1.ints
 have xY := aRA a2.ops
 have nA := aRA aW
 have kS := aRA a3
 have iR := aRA a4
 have nZ : item.size ≤ 1048576 := Nat.le_trans wV (by omega)
 have tM := aRA nZ
 have P5 : Hid (∀ i, i < l.length → (aC l i).item.size ≤ 1048576) := fun i hi => Nat.le_trans (a5 i hi) (by omega)
 have mF := aW.size
 clear a1 a2 a3 a4 a5 aW wV nZ
 dsimp only
 go_upto_region 4 with fail
 have hT := yX w0 #[.slice lT 4 lS, .slice lV l.length lU] #[.int .i64 kind, .string item, .int .i64 qty, .int .i64 dv, .int .i64 sq] 27 29
 have jR := aRA hT.1
 have kD := aRA hT.2.1
 have hb := hT.2.2
 clear hT
 generalize (w0.alloc (.cells #[.slice lT 4 lS, .slice lV l.length lU] 27)).alloc (.cells #[.int .i64 kind, .string item, .int .i64 qty, .int .i64 dv, .int .i64 sq] 29) = w1 at hb jR kD ⊢
 have eF := aRA (eX.out.below hb (by omega))
 have fH := hb.size
 have rG := aRA (xO.out.below hb (by omega))
 have rI := aRA (xY.out.below hb (by omega))
 have cO := aRA (nA.out.trans (hb.mono (by omega)))
 clear hb xO xY nA
 clear eX
 obtain ⟨⟨k, zs, m⟩, hN⟩ : ∃ N, bN xs l dev kind item qty dv sq = N := ⟨_, rfl⟩
 have HN := aRA hN
 obtain ⟨hlz, hlm, hin, eY⟩ := mX hN
 have HI := aRA hin
 have HCt := aRA eY
 clear hN hin eY
 obtain ⟨cH, cG⟩ := pair_cells jR.out
 obtain ⟨x0, x1, x2, x3, x4⟩ := dN kD.out
 go_wp2_with fail
 have hc := oO w1 w1.heap.size E (eF.out.more (by omega)) lT lV 4 lS l.length lU xs l dev kind qty dv sq item (rG.out.more (by omega)) (rI.out.more (by omega)) aRC kS.out.1 iR.out (by first | omega | simp) (by first | omega | simp) tM.out
 rw [HN.out] at hc
 unfold C6 at hc
 dsimp only at hc
 refine hc.mono ?_
 clear hc
 rintro e w2 ⟨gL, fE, fG, fF, cE, rfl, dH, cD, nY, iM, bI, bM, hb⟩
 clear cH cG
 clear x0 x1 x2 x3 x4
 have dH := dH.more aRC iM
 have cD := cD.more nY aRC
 clear nY iM
 have aCN := aRA bI
 have tV := aRA bM
 clear bI bM
 have dQ := aRA (eF.out.below hb (by omega))
 have eV := hb.size
 have xN := aRA (rG.out.below hb (by omega))
 have xX := aRA (rI.out.below hb (by omega))
 have bK := aRA (cO.out.trans (hb.mono (by omega)))
 have rE := aRA ((hb.block _ (aB jR.out)).trans jR.out)
 have rA := aRA ((hb.block _ (aB kD.out)).trans kD.out)
 clear hb rG rI cO jR kD
 clear eF
 have xK := aRA dH.ints
 have xU := aRA cD.ops
 clear dH cD
 go_upto_region 5 with fail
 have hb : Below w2.heap.size w2 (w2.alloc (.cells #[.slice gL zs.length fE, .slice fG m.length fF] 27)) := bl
 have mP := aRA (bL (Below.refl _ (w2.alloc (.cells #[.slice gL zs.length fE, .slice fG m.length fF] 27))))
 generalize w2.alloc (.cells #[.slice gL zs.length fE, .slice fG m.length fF] 27) = w3 at hb mP ⊢
 have xZ := aRA (dQ.out.below hb (by omega))
 have iG := hb.size
 have rF := aRA (xN.out.below hb (by omega))
 have rH := aRA (xX.out.below hb (by omega))
 have dR := aRA (bK.out.trans (hb.mono (by omega)))
 have mQ := aRA ((hb.block _ (aB rE.out)).trans rE.out)
 have nP := aRA ((hb.block _ (aB rA.out)).trans rA.out)
 have xJ := aRA (xK.out.below hb (by omega))
 have xS := aRA (xU.out.below hb (by omega))
 clear hb xN xX bK rE rA xK xU
 clear dQ
 obtain ⟨cH, cG⟩ := pair_cells mQ.out
 obtain ⟨x0, x1, x2, x3, x4⟩ := dN nP.out
 go_wp2_with fail
 have hc := wE w3 w3.heap.size lT lV 4 lS l.length lU xs l kind qty dv sq item (rF.out.more (by omega)) (rH.out.more (by omega)) aRC kS.out iR.out tM.out dev P5.out (by first | omega | simp) (by first | omega | simp)
 rw [HN.out] at hc
 unfold tR at hc
 dsimp only at hc
 refine hc.mono ?_
 clear hc
 rintro e w4 ⟨iU, iT, iW, iV, rfl, dH, cD, hb, bI, bM⟩
 clear cH cG
 clear x0 x1 x2 x3 x4
 have aHf := aRA bI
 have aHg := aRA bM
 clear bI bM
 have rN := aRA (xZ.out.below hb (by omega))
 have D1 := hb.size
 have xM := aRA (rF.out.below hb (by omega))
 have xW := aRA (rH.out.below hb (by omega))
 have jI := aRA (dR.out.trans (hb.mono (by omega)))
 have rD := aRA ((hb.block _ (aB mQ.out)).trans mQ.out)
 have qZ := aRA ((hb.block _ (aB nP.out)).trans nP.out)
 have xI := aRA (xJ.out.below hb (by omega))
 have xR := aRA (xS.out.below hb (by omega))
 have rB := aRA ((hb.block _ (aB mP.out)).trans mP.out)
 clear hb rF rH dR mQ nP xJ xS mP
 clear xZ
 have xH := aRA dH.ints
 have xQ := aRA cD.ops
 clear dH cD
 go_upto_region 6 with fail
 have hb : Below w4.heap.size w4 (w4.alloc (.cells #[.slice iU zs.length iT, .slice iW m.length iV] 27)) := bl
 have cN := aRA (bL (Below.refl _ (w4.alloc (.cells #[.slice iU zs.length iT, .slice iW m.length iV] 27))))
 generalize w4.alloc (.cells #[.slice iU zs.length iT, .slice iW m.length iV] 27) = w5 at hb cN ⊢
 have kR := aRA (rN.out.below hb (by omega))
 have hs5 := hb.size
 have iO := aRA (xM.out.below hb (by omega))
 have iP := aRA (xW.out.below hb (by omega))
 have gZ := aRA (jI.out.trans (hb.mono (by omega)))
 have eP := aRA ((hb.block _ (aB rD.out)).trans rD.out)
 have eO := aRA ((hb.block _ (aB qZ.out)).trans qZ.out)
 have eR := aRA (xI.out.below hb (by omega))
 have eT := aRA (xR.out.below hb (by omega))
 have dB := aRA ((hb.block _ (aB rB.out)).trans rB.out)
 have eQ := aRA (xH.out.below hb (by omega))
 have eS := aRA (xQ.out.below hb (by omega))
 clear hb xM xW jI rD qZ xI xR rB xH xQ
 clear rN
 have Y3 : (k != k) = false := bne_self_eq_false _
 have R9 : (k == k) = true := beq_self_eq_true _
 by_cases yF : k = 0
 rotate_left
 ·have Y4 : (k != 0) = true := by simp [yF]
  obtain ⟨cH, cG⟩ := pair_cells dB.out; obtain ⟨fQ, fP⟩ := pair_cells cN.out
  go_wp2_with fail
  refine (eJ w5 w5.heap.size gL fG iU iW zs.length fE m.length fF zs.length iT m.length iV zs m zs m (eR.out.more (by omega)) (eT.out.more (by omega)) (eQ.out.more (by omega)) (eS.out.more (by omega)) aRC (by first | omega | simp) (by first | omega | simp) (by first | omega | simp) (by first | omega | simp)).mono ?_
  rintro e w6 ⟨rfl, hb⟩; rw [decide_eq_true rfl, decide_eq_true rfl]; clear cH cG fQ fP; have iQ := aRA (kR.out.below hb (by omega))
  have wR := hb.size; have fC := aRA (iO.out.below hb (by omega))
  have fD := aRA (iP.out.below hb (by omega))
  have dC := aRA (gZ.out.trans (hb.mono (by omega)))
  have dJ := aRA ((hb.block _ (aB eP.out)).trans eP.out); have cS := aRA ((hb.block _ (aB eO.out)).trans eO.out); have dV := aRA (eR.out.below hb (by omega))
  have dW := aRA (eT.out.below hb (by omega))
  have cL := aRA ((hb.block _ (aB dB.out)).trans dB.out); have eB := aRA (eQ.out.below hb (by omega))
  have eC := aRA (eS.out.below hb (by omega))
  have cP := aRA ((hb.block _ (aB cN.out)).trans cN.out); clear hb iO iP gZ eP eO eR eT dB eQ eS cN; clear kR; obtain ⟨cH, cG⟩ := pair_cells cL.out; obtain ⟨fQ, fP⟩ := pair_cells cP.out
  go_wp2_with fail
  refine (eJ w6 w6.heap.size gL fG iU iW zs.length fE m.length fF zs.length iT m.length iV zs m zs m (dV.out.more (by omega)) (dW.out.more (by omega)) (eB.out.more (by omega)) (eC.out.more (by omega)) aRC (by first | omega | simp) (by first | omega | simp) (by first | omega | simp) (by first | omega | simp)).mono ?_
  rintro e w7 ⟨rfl, hb⟩; rw [decide_eq_true rfl, decide_eq_true rfl]; clear cH cG fQ fP; have sX := aRA (iQ.out.below hb (by omega))
  have J3 := hb.size; have mS := aRA (fC.out.below hb (by omega))
  have mT := aRA (fD.out.below hb (by omega))
  have lR := aRA (dC.out.trans (hb.mono (by omega)))
  have jQ := aRA ((hb.block _ (aB dJ.out)).trans dJ.out); have kC := aRA ((hb.block _ (aB cS.out)).trans cS.out); have nR := aRA (dV.out.below hb (by omega))
  have nT := aRA (dW.out.below hb (by omega))
  have kF := aRA ((hb.block _ (aB cL.out)).trans cL.out); have nQ := aRA (eB.out.below hb (by omega))
  have nS := aRA (eC.out.below hb (by omega))
  have kE := aRA ((hb.block _ (aB cP.out)).trans cP.out); clear hb fC fD dC dJ cS dV dW cL eB eC cP; clear iQ; go_wp2
  go_ret
  exact ⟨rfl, lR.out⟩
 subst yF
 by_cases hk5 : 5 < kind
 ·skip
  obtain ⟨cH, cG⟩ := pair_cells dB.out; obtain ⟨fQ, fP⟩ := pair_cells cN.out
  go_wp2_with fail
  refine (eJ w5 w5.heap.size gL fG iU iW zs.length fE m.length fF zs.length iT m.length iV zs m zs m (eR.out.more (by omega)) (eT.out.more (by omega)) (eQ.out.more (by omega)) (eS.out.more (by omega)) aRC (by first | omega | simp) (by first | omega | simp) (by first | omega | simp) (by first | omega | simp)).mono ?_
  rintro e w6 ⟨rfl, hb⟩; rw [decide_eq_true rfl, decide_eq_true rfl]; clear cH cG fQ fP; have iQ := aRA (kR.out.below hb (by omega))
  have wR := hb.size; have fC := aRA (iO.out.below hb (by omega))
  have fD := aRA (iP.out.below hb (by omega))
  have dC := aRA (gZ.out.trans (hb.mono (by omega)))
  have dJ := aRA ((hb.block _ (aB eP.out)).trans eP.out); have cS := aRA ((hb.block _ (aB eO.out)).trans eO.out); have dV := aRA (eR.out.below hb (by omega))
  have dW := aRA (eT.out.below hb (by omega))
  have cL := aRA ((hb.block _ (aB dB.out)).trans dB.out); have eB := aRA (eQ.out.below hb (by omega))
  have eC := aRA (eS.out.below hb (by omega))
  have cP := aRA ((hb.block _ (aB cN.out)).trans cN.out); clear hb iO iP gZ eP eO eR eT dB eQ eS cN; clear kR; obtain ⟨x0, x1, x2, x3, x4⟩ := dN cS.out; obtain ⟨cH, cG⟩ := pair_cells cL.out; obtain ⟨fQ, fP⟩ := pair_cells cP.out
  go_wp2_with fail
  refine (eJ w6 w6.heap.size gL fG iU iW zs.length fE m.length fF zs.length iT m.length iV zs m zs m (dV.out.more (by omega)) (dW.out.more (by omega)) (eB.out.more (by omega)) (eC.out.more (by omega)) aRC (by first | omega | simp) (by first | omega | simp) (by first | omega | simp) (by first | omega | simp)).mono ?_
  rintro e w7 ⟨rfl, hb⟩; rw [decide_eq_true rfl, decide_eq_true rfl]; clear cH cG fQ fP; have sX := aRA (iQ.out.below hb (by omega))
  have J3 := hb.size; have mS := aRA (fC.out.below hb (by omega))
  have mT := aRA (fD.out.below hb (by omega))
  have lR := aRA (dC.out.trans (hb.mono (by omega)))
  have jQ := aRA ((hb.block _ (aB dJ.out)).trans dJ.out); have kC := aRA ((hb.block _ (aB cS.out)).trans cS.out); have nR := aRA (dV.out.below hb (by omega))
  have nT := aRA (dW.out.below hb (by omega))
  have kF := aRA ((hb.block _ (aB cL.out)).trans cL.out); have nQ := aRA (eB.out.below hb (by omega))
  have nS := aRA (eC.out.below hb (by omega))
  have kE := aRA ((hb.block _ (aB cP.out)).trans cP.out); clear hb fC fD dC dJ cS dV dW cL eB eC cP; clear iQ; go_wp2
  go_ret
  exact ⟨rfl, lR.out⟩
 obtain ⟨hca, jP, Y4, qJ, oQ⟩ := kZ (by rw [HN.out]) (Int.not_lt.1 hk5)
 rw [HN.out] at oQ
 have xP := aRA oQ
 have T5 := aRA hca
 clear oQ hca qJ
 obtain ⟨cH, cG⟩ := pair_cells dB.out
 obtain ⟨fQ, fP⟩ := pair_cells cN.out
 go_wp2_with fail
 refine (eJ w5 w5.heap.size gL fG iU iW zs.length fE m.length fF zs.length iT m.length iV zs m zs m (eR.out.more (by omega)) (eT.out.more (by omega)) (eQ.out.more (by omega)) (eS.out.more (by omega)) aRC (by first | omega | simp) (by first | omega | simp) (by first | omega | simp) (by first | omega | simp)).mono ?_
 rintro e w6 ⟨rfl, hb⟩
 rw [decide_eq_true rfl, decide_eq_true rfl]
 clear cH cG fQ fP
 have iQ := aRA (kR.out.below hb (by omega))
 have wR := hb.size
 have fC := aRA (iO.out.below hb (by omega))
 have fD := aRA (iP.out.below hb (by omega))
 have dC := aRA (gZ.out.trans (hb.mono (by omega)))
 have dJ := aRA ((hb.block _ (aB eP.out)).trans eP.out)
 have cS := aRA ((hb.block _ (aB eO.out)).trans eO.out)
 have dV := aRA (eR.out.below hb (by omega))
 have dW := aRA (eT.out.below hb (by omega))
 have cL := aRA ((hb.block _ (aB dB.out)).trans dB.out)
 have eB := aRA (eQ.out.below hb (by omega))
 have eC := aRA (eS.out.below hb (by omega))
 have cP := aRA ((hb.block _ (aB cN.out)).trans cN.out)
 clear hb iO iP gZ eP eO eR eT dB eQ eS cN
 clear kR
 obtain ⟨x0, x1, x2, x3, x4⟩ := dN cS.out
 obtain ⟨cH, cG⟩ := pair_cells dJ.out
 go_wp2_with fail
 refine (aGo w6 w6.heap.size lT lV 4 lS l.length lU xs l item (fC.out.more (by omega)) (fD.out.more (by omega)) aRC (by first | omega | simp) iR.out.1 ⟨(by first | omega | simp), iR.out.2.1⟩ (nD P5.out)).mono ?_
 rintro e w7 ⟨o, b, rfl, A3, hb⟩
 have Ho := aRA A3
 clear A3
 clear cH cG
 clear x0 x1 x2 x3 x4
 have sX := aRA (iQ.out.below hb (by omega))
 have J3 := hb.size
 have mS := aRA (fC.out.below hb (by omega))
 have mT := aRA (fD.out.below hb (by omega))
 have lR := aRA (dC.out.trans (hb.mono (by omega)))
 have jQ := aRA ((hb.block _ (aB dJ.out)).trans dJ.out)
 have kC := aRA ((hb.block _ (aB cS.out)).trans cS.out)
 have nR := aRA (dV.out.below hb (by omega))
 have nT := aRA (dW.out.below hb (by omega))
 have kF := aRA ((hb.block _ (aB cL.out)).trans cL.out)
 have nQ := aRA (eB.out.below hb (by omega))
 have nS := aRA (eC.out.below hb (by omega))
 have kE := aRA ((hb.block _ (aB cP.out)).trans cP.out)
 clear hb fC fD dC dJ cS dV dW cL eB eC cP
 clear iQ
 go_upto_region 9 with fail
 have hb : Below w7.heap.size w7 (w7.alloc (.cells #[.string o.item, .int .i64 o.qty, .bool o.saved] 39)) := bl
 have aGX := aRA (heap_alloc_new w7 (.cells #[.string o.item, .int .i64 o.qty, .bool o.saved] 39))
 generalize w7.alloc (.cells #[.string o.item, .int .i64 o.qty, .bool o.saved] 39) = w8 at hb aGX ⊢
 have M1 := aRA (sX.out.below hb (by omega))
 have hs8 := hb.size
 have vC := aRA (mS.out.below hb (by omega))
 have vH := aRA (mT.out.below hb (by omega))
 have P9 := aRA (lR.out.trans (hb.mono (by omega)))
 have qC := aRA ((hb.block _ (aB jQ.out)).trans jQ.out)
 have qY := aRA ((hb.block _ (aB kC.out)).trans kC.out)
 have vB := aRA (nR.out.below hb (by omega))
 have vG := aRA (nT.out.below hb (by omega))
 have qA := aRA ((hb.block _ (aB kF.out)).trans kF.out)
 have zB := aRA (nQ.out.below hb (by omega))
 have zC := aRA (nS.out.below hb (by omega))
 have sV := aRA ((hb.block _ (aB kE.out)).trans kE.out)
 clear hb mS mT lR jQ kC nR nT kF nQ nS kE
 clear sX
 obtain ⟨cH, cG⟩ := pair_cells qA.out
 obtain ⟨x0, x1, x2, x3, x4⟩ := dN qY.out
 go_wp2_with fail
 refine (aGo w8 w8.heap.size gL fG zs.length fE m.length fF zs m item (vB.out.more (by omega)) (vG.out.more (by omega)) aRC (by first | omega | simp) tV.out.1 ⟨(by first | omega | simp), tV.out.2.1⟩ (nD HI.out)).mono ?_
 rintro e w9 ⟨r, t, rfl, A3, hb⟩
 have Hr := aRA A3
 clear A3
 clear cH cG
 clear x0 x1 x2 x3 x4
 have P6 := aRA (M1.out.below hb (by omega))
 have rK := hb.size
 have xL := aRA (vC.out.below hb (by omega))
 have xV := aRA (vH.out.below hb (by omega))
 have sZ := aRA (P9.out.trans (hb.mono (by omega)))
 have rC := aRA ((hb.block _ (aB qC.out)).trans qC.out)
 have uZ := aRA ((hb.block _ (aB qY.out)).trans qY.out)
 have tS := aRA (vB.out.below hb (by omega))
 have tU := aRA (vG.out.below hb (by omega))
 have pG := aRA ((hb.block _ (aB qA.out)).trans qA.out)
 have L4 := aRA (zB.out.below hb (by omega))
 have L9 := aRA (zC.out.below hb (by omega))
 have vA := aRA ((hb.block _ (aB sV.out)).trans sV.out)
 have aKp := aRA ((hb.block _ (aB aGX.out)).trans aGX.out)
 clear hb vC vH P9 qC qY vB vG qA zB zC sV aGX
 clear M1
 go_upto_region 10 with fail
 have hb : Below w9.heap.size w9 (w9.alloc (.cells #[.string r.item, .int .i64 r.qty, .bool r.saved] 39)) := bl
 have pQ := aRA (heap_alloc_new w9 (.cells #[.string r.item, .int .i64 r.qty, .bool r.saved] 39))
 generalize w9.alloc (.cells #[.string r.item, .int .i64 r.qty, .bool r.saved] 39) = vY at hb pQ ⊢
 have Q8 := aRA (P6.out.below hb (by omega))
 have aGv := hb.size
 have zO := aRA (xL.out.below hb (by omega))
 have zQ := aRA (xV.out.below hb (by omega))
 have tA := aRA (sZ.out.trans (hb.mono (by omega)))
 have tH := aRA ((hb.block _ (aB rC.out)).trans rC.out)
 have pP := aRA ((hb.block _ (aB uZ.out)).trans uZ.out)
 have zN := aRA (tS.out.below hb (by omega))
 have zP := aRA (tU.out.below hb (by omega))
 have tG := aRA ((hb.block _ (aB pG.out)).trans pG.out)
 have X0 := aRA (L4.out.below hb (by omega))
 have X1 := aRA (L9.out.below hb (by omega))
 have F8 := aRA ((hb.block _ (aB vA.out)).trans vA.out)
 have zM := aRA ((hb.block _ (aB aKp.out)).trans aKp.out)
 clear hb xL xV sZ rC uZ tS tU pG L4 L9 vA aKp
 clear P6
 have eY := xP.out.cart T5.out (by omega)
 have hkr : kind = 1 ∨ kind = 2 ∨ kind = 3 ∨ kind = 4 ∨ kind = 5 := by omega
 have hti := xP.out.item
 have ho := Ho.out
 have hr := Hr.out
 have hca := T5.out
 clear hk5 Y4
 rcases hkr with rfl | rfl | rfl | rfl | rfl
 ·obtain ⟨h1, h2, h3⟩ := hti.1 rfl
  have ⟨e1, e2⟩ := ho.no hca h1; have ⟨e3, e4⟩ := hr.yes eY h2; rw [h3] at e4; clear hti ho hr hca eY h1 h2 e2 h3; subst e1 e3; obtain ⟨p0, p1, p2⟩ := oK zM.out; obtain ⟨q0, q1, q2⟩ := oK pQ.out; obtain ⟨x0, x1, x2, x3, x4⟩ := dN pP.out; subst e4
  dsimp only at q0 q1 q2
  clear zM pQ Ho Hr; go_wp2
  go_ret
  exact ⟨rfl, tA.out⟩
 ·obtain ⟨h1, h2, h3⟩ := hti.2.1 rfl
  have ⟨e1, e2⟩ := ho.yes hca h1; have ⟨e3, e4⟩ := hr.yes eY h2; rw [h3] at e4; rw [← e2] at e4; clear hti ho hr hca eY h1 h2 e2 h3; subst e1 e3; obtain ⟨p0, p1, p2⟩ := oK zM.out; obtain ⟨q0, q1, q2⟩ := oK pQ.out; obtain ⟨x0, x1, x2, x3, x4⟩ := dN pP.out; subst e4
  dsimp only at q0 q1 q2
  clear zM pQ Ho Hr; go_wp2
  go_ret
  exact ⟨rfl, tA.out⟩
 ·obtain ⟨h1, h2⟩ := hti.2.2.1 rfl
  have ⟨e1, e2⟩ := ho.yes hca h1; have ⟨e3, e4⟩ := hr.no eY h2; clear hti ho hr hca eY h1 h2 e2; subst e1 e3; obtain ⟨p0, p1, p2⟩ := oK zM.out; obtain ⟨q0, q1, q2⟩ := oK pQ.out; obtain ⟨x0, x1, x2, x3, x4⟩ := dN pP.out; clear e4; clear zM pQ Ho Hr; go_wp2
  go_ret
  exact ⟨rfl, tA.out⟩
 ·obtain ⟨h1, h2, h4, h3⟩ := hti.2.2.2.1 rfl
  have ⟨e1, e2⟩ := ho.yes hca h1; have ⟨e3, e4⟩ := hr.yes eY h2; rw [h3] at e4; rw [← e2] at e4; have h5 : o.saved = false := by rw [e2]; exact h4
  clear hti ho hr hca eY h1 h2 e2 h3 h4; subst e1 e3; obtain ⟨p0, p1, p2⟩ := oK zM.out; obtain ⟨q0, q1, q2⟩ := oK pQ.out; obtain ⟨x0, x1, x2, x3, x4⟩ := dN pP.out; subst e4
  dsimp only at q0 q1 q2
  rw [h5] at p2; clear h5; clear zM pQ Ho Hr; go_wp2
  go_ret
  exact ⟨rfl, tA.out⟩
 ·obtain ⟨h1, h2, h4, h3⟩ := hti.2.2.2.2 rfl
  have ⟨e1, e2⟩ := ho.yes hca h1; have ⟨e3, e4⟩ := hr.yes eY h2; rw [h3] at e4; rw [← e2] at e4; have h5 : o.saved = true := by rw [e2]; exact h4
  clear hti ho hr hca eY h1 h2 e2 h3 h4; subst e1 e3; obtain ⟨p0, p1, p2⟩ := oK zM.out; obtain ⟨q0, q1, q2⟩ := oK pQ.out; obtain ⟨x0, x1, x2, x3, x4⟩ := dN pP.out; subst e4
  dsimp only at q0 q1 q2
  rw [h5] at p2; clear h5; clear zM pQ Ho Hr; go_wp2
  go_ret
  exact ⟨rfl, tA.out⟩
end Go.Proofs.YthkagbnpcjidfaaGreatDoor
