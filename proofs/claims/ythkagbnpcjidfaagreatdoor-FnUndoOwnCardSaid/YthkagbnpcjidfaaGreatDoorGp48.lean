/- Walks and mathematics that several claims share, part 48. -/
import Derived.Test.YthkagbnpcjidfaaGreatDoorGp46
import Derived.Test.YthkagbnpcjidfaaGreatDoorGp47
import Derived.Deep.Cut
namespace Go.Proofs.YthkagbnpcjidfaaGreatDoor
set_option maxRecDepth 100000
open Go.RowKit
set_option linter.unusedVariables false
set_option linter.unusedSimpArgs false
set_option maxHeartbeats 80000000 in
theorem fnUndoOwnWalk (E : Int → Addr) (a : Option Addr) (len cap : Nat) (bs : List Int) (w : World) (hE : eA w w.heap.size E) (h : IsRow .u8 w a len cap bs) :
  Calls Tryz.prog 9 #[.slice a len cap] w fun e w' => e = .returned (.bool true) ∧ Below w.heap.size w w' := by
 by_cases p7 : len ≤ 1048576
 rotate_left
 ·go_enter Tryz.func9, Tryz.ntmps9
  go_wp2_with fail
  refine (aHb a len cap p7 w).mono ?_
  rintro e w' ⟨rfl, rfl⟩; go_wp2
  go_ret
  exact ⟨rfl, Below.refl _ _⟩
 have aCY := aPu (aAd h p7)
 have gT := aPu hE
 clear h hE
 go_enter Tryz.func9, Tryz.ntmps9
 go_wp2_with fail
 refine (aJA a len cap p7 w).mono ?_
 rintro e w' ⟨rfl, rfl⟩
 go_wp2_with fail
 refine (aBQ w w.heap.size a len cap aPw aCY.out).mono ?_
 rintro e w0 ⟨⟨N2, N1, N4, ano, N3⟩, dev, kind, item, qty, dv, sq, aC4, rfl, hx, bC⟩
 obtain ⟨xs, l, e1, a1, a2, a3, a4, a5, a6⟩ := hx
 have e1 : ano = l.length := e1
 subst e1
 have HE := aPu (gT.out.below bC aPw)
 clear gT
 have gT := HE
 clear HE
 have aDs := aPu a1.ints
 have aDA := aPu a2.ops
 have tX := aPu bC
 have nZ := aPu a3
 have oQ := aPu a4
 have tI : item.size ≤ 1048576 := Nat.le_trans aC4 (by omega)
 have G4 := aPu tI
 have HIa : Hid (∀ i, i < l.length → (aB l i).item.size ≤ 1048576) := fun i hi => Nat.le_trans (a5 i hi) (by omega)
 have lQ := bC.size
 clear a1 a2 a3 a4 a5 bC aC4 tI
 dsimp only
 go_upto_region 4 with fail
 have hT := aDh w0 #[.slice N2 4 N1, .slice N4 l.length N3] #[.int .i64 kind, .string item, .int .i64 qty, .int .i64 dv, .int .i64 sq] 27 29
 have L0 := aPu hT.1
 have u4 := aPu hT.2.1
 have hb := hT.2.2
 clear hT
 generalize (w0.alloc (.cells #[.slice N2 4 N1, .slice N4 l.length N3] 27)).alloc (.cells #[.int .i64 kind, .string item, .int .i64 qty, .int .i64 dv, .int .i64 sq] 29) = w1 at hb L0 u4 ⊢
 have dZ := hb.size
 have aBi := eX hb aDs
 have aBo := eY hb aDA
 have cX := kN hb tX
 have eZ := pZ hb gT
 clear hb aDs aDA tX gT
 go_upto_region 5 with fail
 generalize hkd : (7 + (len : Int) % 2) = kd
 have aLq : kd = 7 ∨ kd = 8 := by omega
 clear hkd
 obtain ⟨⟨k, zs, m⟩, hN⟩ : ∃ N, cH xs l dev kd ⟨#[]⟩ 0 0 0 = N := ⟨_, rfl⟩
 have HN := aPu hN
 obtain ⟨hlz, hlm, hin, kM⟩ := Z0 hN
 have HI := aPu hin
 have HCt := aPu kM
 clear hN hin kM
 obtain ⟨lI, lH⟩ := pair_cells L0.out
 go_wp2_with fail
 have hc := aAu w1 w1.heap.size E (eZ.out.more (by omega)) N2 N4 4 N1 l.length N3 xs l dev kd 0 0 0 ⟨#[]⟩ (aBi.out.more (by omega)) (aBo.out.more (by omega)) aPw nZ.out.1 oQ.out (by omega) (by omega) (Nat.zero_le _)
 rw [HN.out] at hc
 unfold aA8 at hc
 dsimp only at hc
 refine hc.mono ?_
 clear hc
 rintro e w2 ⟨wI, wH, wK, wJ, cQ, rfl, kB, dX, Z9, nP, bX, cD, hb⟩
 clear lI lH
 have kB := kB.more aPw nP
 have dX := dX.more Z9 aPw
 clear Z9 nP
 have aMK := aPu bX
 have aFF := aPu cD
 clear bX cD
 have dS := hb.size
 have aDr := eX hb aBi
 have aDz := eY hb aBo
 have bP := kN hb cX
 have dP := pZ hb eZ
 have aFv := eD hb L0
 have aFs := eD hb u4
 clear hb aBi aBo cX eZ L0 u4
 have aMc := aPu kB.ints
 have aMC := aPu dX.ops
 clear kB dX
 go_upto_region 6 with fail
 have hb : Below w2.heap.size w2 (w2.alloc (.cells #[.slice wI zs.length wH, .slice wK m.length wJ] 27)) := bl
 have aIT := aPu (bE (Below.refl _ (w2.alloc (.cells #[.slice wI zs.length wH, .slice wK m.length wJ] 27))))
 generalize w2.alloc (.cells #[.slice wI zs.length wH, .slice wK m.length wJ] 27) = w3 at hb aIT ⊢
 have hU := hb.size
 have aI0 := eX hb aDr
 have aJb := eY hb aDz
 have dQ := kN hb bP
 have W8 := pZ hb dP
 have aIV := eD hb aFv
 have aLZ := eD hb aFs
 have aMb := eX hb aMc
 have aMB := eY hb aMC
 clear hb aDr aDz bP dP aFv aFs aMc aMC
 obtain ⟨lI, lH⟩ := pair_cells aIV.out
 go_wp2_with fail
 have hc := aAf w3 w3.heap.size N2 N4 4 N1 l.length N3 xs l kd 0 0 0 ⟨#[]⟩ (aI0.out.more (by omega)) (aJb.out.more (by omega)) aPw nZ.out oQ.out (Nat.zero_le _) dev HIa.out (by omega) (by omega)
 rw [HN.out] at hc
 unfold uT at hc
 dsimp only at hc
 refine hc.mono ?_
 clear hc
 rintro e w4 ⟨zR, zQ, zT, zS, rfl, kB, dX, hb, bX, cD⟩
 clear lI lH
 have aOr := aPu bX
 have aOu := aPu cD
 clear bX cD
 have F0 := hb.size
 have aMd := eX hb aI0
 have aMF := eY hb aJb
 have lC := kN hb dQ
 have wX := pZ hb W8
 have aL5 := eD hb aIV
 have aLY := eD hb aLZ
 have aDq := eX hb aMb
 have aDy := eY hb aMB
 have aL4 := eD hb aIT
 clear hb aI0 aJb dQ W8 aIV aLZ aMb aMB aIT
 have aL9 := aPu kB.ints
 have aMz := aPu dX.ops
 clear kB dX
 go_upto_region 7 with fail
 have hb : Below w4.heap.size w4 (w4.alloc (.cells #[.slice zR zs.length zQ, .slice zT m.length zS] 27)) := bl
 have u5 := aPu (bE (Below.refl _ (w4.alloc (.cells #[.slice zR zs.length zQ, .slice zT m.length zS] 27))))
 generalize w4.alloc (.cells #[.slice zR zs.length zQ, .slice zT m.length zS] 27) = w5 at hb u5 ⊢
 have hs5 := hb.size
 have aFw := eX hb aMd
 have aFD := eY hb aMF
 have oB := kN hb lC
 have W7 := pZ hb wX
 have aFu := eD hb aL5
 have aFr := eD hb aLY
 have L3 := eX hb aDq
 have L5 := eY hb aDy
 have D3 := eD hb aL4
 have aBg := eX hb aL9
 have aBl := eY hb aMz
 clear hb aMd aMF lC wX aL5 aLY aDq aDy aL4 aL9 aMz
 have hkk : (k != k) = false := bne_self_eq_false _
 have hke : (k == k) = true := beq_self_eq_true _
 by_cases hk0 : k = 0
 rotate_left
 ·have hk1 : (k != 0) = true := by simp [hk0]
  obtain ⟨lI, lH⟩ := pair_cells D3.out; obtain ⟨nH, nG⟩ := pair_cells u5.out
  go_wp2_with fail
  refine (rK w5 w5.heap.size wI wK zR zT zs.length wH m.length wJ zs.length zQ m.length zS zs m zs m (L3.out.more (by omega)) (L5.out.more (by omega)) (aBg.out.more (by omega)) (aBl.out.more (by omega)) aPw (by omega) (by omega) (by omega) (by omega)).mono ?_
  rintro e w6 ⟨rfl, hb⟩; rw [decide_eq_true rfl, decide_eq_true rfl]; clear lI lH nH nG; have S2 := hb.size; have aBh := eX hb aFw; have aBn := eY hb aFD; have fA := kN hb oB; have HE6 := pZ hb W7; have aBc := eD hb aFu; have aDp := eD hb aFr; have D4 := eX hb L3; have D5 := eY hb L5; have D2 := eD hb D3; have L2 := eX hb aBg; have L4 := eY hb aBl; have aBa := eD hb u5; clear hb aFw aFD oB W7 aFu aFr L3 L5 D3 aBg aBl u5; obtain ⟨lI, lH⟩ := pair_cells D2.out; obtain ⟨nH, nG⟩ := pair_cells aBa.out
  go_wp2_with fail
  refine (rK w6 w6.heap.size wI wK zR zT zs.length wH m.length wJ zs.length zQ m.length zS zs m zs m (D4.out.more (by omega)) (D5.out.more (by omega)) (L2.out.more (by omega)) (L4.out.more (by omega)) aPw (by omega) (by omega) (by omega) (by omega)).mono ?_
  rintro e w7 ⟨rfl, hb⟩; rw [decide_eq_true rfl, decide_eq_true rfl]; clear lI lH nH nG; have Z5 := hb.size; have aIZ := eX hb aBh; have aJa := eY hb aBn; have oA := kN hb fA; have O2 := pZ hb HE6; have aIU := eD hb aBc; have aIP := eD hb aDp; have qL := eX hb D4; have qN := eY hb D5; have qJ := eD hb D2; have qK := eX hb L2; have qM := eY hb L4; have pR := eD hb aBa; clear hb aBh aBn fA HE6 aBc aDp D4 D5 D2 L2 L4 aBa; go_wp2
  go_ret
  exact ⟨rfl, oA.out⟩
 subst hk0
 obtain ⟨lI, lH⟩ := pair_cells D3.out
 obtain ⟨nH, nG⟩ := pair_cells u5.out
 go_wp2_with fail
 refine (rK w5 w5.heap.size wI wK zR zT zs.length wH m.length wJ zs.length zQ m.length zS zs m zs m (L3.out.more (by omega)) (L5.out.more (by omega)) (aBg.out.more (by omega)) (aBl.out.more (by omega)) aPw (by omega) (by omega) (by omega) (by omega)).mono ?_
 rintro e w6 ⟨rfl, hb⟩
 rw [decide_eq_true rfl, decide_eq_true rfl]
 clear lI lH nH nG
 have S2 := hb.size
 have aBh := eX hb aFw
 have aBn := eY hb aFD
 have fA := kN hb oB
 have HE6 := pZ hb W7
 have aBc := eD hb aFu
 have aDp := eD hb aFr
 have D4 := eX hb L3
 have D5 := eY hb L5
 have D2 := eD hb D3
 have L2 := eX hb aBg
 have L4 := eY hb aBl
 have aBa := eD hb u5
 clear hb aFw aFD oB W7 aFu aFr L3 L5 D3 aBg aBl u5
 obtain ⟨o, _, _, qS, hdo, hok, hlv⟩ := aHj aLq HN.out rfl
 dsimp only at qS
 have HTg := aPu qS
 have HLv := aPu ((E5 hok).trans hlv)
 clear qS hlv hok
 obtain ⟨lI, lH⟩ := pair_cells aBc.out
 obtain ⟨nH, nG⟩ := pair_cells D2.out
 go_wp2_with fail
 have hc := aDW w6 w6.heap.size N2 N4 wI wK 4 N1 l.length N3 zs.length wH m.length wJ xs l zs m (aBh.out.more (by omega)) (aBn.out.more (by omega)) (D4.out.more (by omega)) (D5.out.more (by omega)) aPw (by omega) oQ.out.1 ⟨by omega, oQ.out.2.1⟩ (by omega) aFF.out.1 ⟨by omega, aFF.out.2.1⟩ HI.out
 rw [HTg.out] at hc
 refine hc.mono ?_
 clear hc
 rintro e w7 ⟨pa, pc, hre, dX, hb⟩
 have hre : e = .returned (.slice pa 1 pc) := hre
 subst hre
 clear lI lH nH nG
 have Z5 := hb.size
 have aIZ := eX hb aBh
 have aJa := eY hb aBn
 have oA := kN hb fA
 have O2 := pZ hb HE6
 have aIU := eD hb aBc
 have aIP := eD hb aDp
 have qL := eX hb D4
 have qN := eY hb D5
 have qJ := eD hb D2
 have qK := eX hb L2
 have qM := eY hb L4
 have pR := eD hb aBa
 clear hb aBh aBn fA HE6 aBc aDp D4 D5 D2 L2 L4 aBa
 have dX := dX.ops
 obtain ⟨b, off, rfl, aW, ho⟩ := dX.2 0 (Nat.lt_succ_self 0)
 have ho : nI w7 b (off + 0 * 8) o := ho
 rw [Nat.zero_mul, Nat.add_zero] at ho
 obtain ⟨d0, d1, d2, d3, d4, d5, d6, d7⟩ := ho
 clear dX
 rw [hdo] at d0
 have hdd : (dev == dev) = true := beq_self_eq_true _
 rcases aLq with rfl | rfl
 all_goals
  go_wp2_with fail
  refine (yK dev o.seq o.stamp o.kind o.item o.qty o.level o.undos w7).mono ?_
  rintro e w8 ⟨rfl, hb⟩; have hlv := HLv.out; rw [show o.live = rH o.dev o.seq o.stamp o.kind o.item o.qty o.level o.undos from rfl, hdo] at hlv; rw [hlv]; clear hlv; have hs8 := hb.size; have aPr := eX hb aIZ; have aPs := eY hb aJa; have HB8 := kN hb oA; have HE8 := pZ hb O2; have aPq := eD hb aIU; have aPp := eD hb aIP; have u9 := eX hb qL; have v8 := eY hb qN; have u6 := eD hb qJ; have aBf := eX hb qK; have aBk := eY hb qM; have aA9 := eD hb pR; clear hb aIZ aJa oA O2 aIU aIP qL qN qJ qK qM pR; go_wp2
  go_ret
  exact ⟨rfl, HB8.out⟩
end Go.Proofs.YthkagbnpcjidfaaGreatDoor
