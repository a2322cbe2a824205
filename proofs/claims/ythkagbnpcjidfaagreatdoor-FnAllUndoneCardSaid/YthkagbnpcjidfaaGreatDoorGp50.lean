/- Walks and mathematics that several claims share, part 50. -/
import Derived.Test.YthkagbnpcjidfaaGreatDoorGp46
import Derived.Test.YthkagbnpcjidfaaGreatDoorGp49
import Derived.Deep.Cut
namespace Go.Proofs.YthkagbnpcjidfaaGreatDoor
set_option maxRecDepth 100000
open Go.RowKit
set_option linter.unusedVariables false
set_option linter.unusedSimpArgs false
theorem aKX {w : World} {lo hi : Nat} {a : Option Addr} {n : Nat} {l : List Int} (h : Own w lo hi a n l) : ∀ g off, a = some ⟨g, off, none⟩ → 0 < n → lo ≤ g := fun g off e hn => by
 obtain ⟨g', aV, e1, h1, _⟩ := h.2 hn
 rw [e1] at e
 injection e with e
 injection e with e
 omega
theorem aGb {w : World} {lo hi : Nat} {a : Option Addr} {n : Nat} {l : List aA} (h : bB w lo hi a n l) : ∀ g off, a = some ⟨g, off, none⟩ → 0 < n → lo ≤ g := fun g off e hn => by
 obtain ⟨g', iE, aV, e1, h1, _⟩ := h.2 hn
 rw [e1] at e
 injection e with e
 injection e with e
 omega
theorem aHY {w w' : World} {B nb : Nat} {a : Option Addr} {n : Nat} {l : List Int} (h : Ints w B a n l) (bJ : ∀ g off, a = some ⟨g, off, none⟩ → 0 < n → g ≠ nb) (hk : ∀ j, j ≠ nb → w'.heap[j]? = w.heap[j]?) : Ints w' B a n l :=
 ⟨h.1, fun i hi => by
  obtain ⟨b, off, e, hb, hc⟩ := h.2 i hi; exact ⟨b, off, e, hb, (World.cell?_of_block (a := ⟨b, off + i, none⟩) (hk b (bJ b off e (by omega)))).trans hc⟩⟩
theorem aJX {w w' : World} {B nb : Nat} {a : Option Addr} {n : Nat} {l : List aA} (h : bK w B a n l) (bJ : ∀ g off, a = some ⟨g, off, none⟩ → 0 < n → g ≠ nb) (hk : ∀ j, j ≠ nb → w'.heap[j]? = w.heap[j]?) : bK w' B a n l :=
 ⟨h.1, fun i hi => by
  obtain ⟨b, off, e, hb, hc⟩ := h.2 i hi; exact ⟨b, off, e, hb, hc.kept (hk b (bJ b off e (by omega)))⟩⟩
structure aDn (nb : Nat) (va oa : Option Addr) (nv vc no oc : Nat) (ys : List Int) (ul : List aA) (W : World) : Prop where
 box : W.heap[nb]? = some (.cells #[.slice va nv vc, .slice oa no oc] 27 (0, 0))
 vec : Ints W W.heap.size va nv ys
 ops : bK W W.heap.size oa no ul
 vcap : bQ va nv vc
 ocap : bQ oa no oc
 small : nv ≤ 4 ∧ no ≤ 400
 len : ul.length = no
 item : ∀ i, i < no → (aB ul i).item.size ≤ 1048576
theorem aDn.set {nb : Nat} {W : World} {va oa : Option Addr} {vc oc : Nat} {zs : List Int} {m : List aA} {c0 c1 : Value} (hbx : W.heap[nb]? = some (.cells #[c0, c1] 27 (0, 0)))
  (hv : Ints W W.heap.size va zs.length zs) (ho : bK W W.heap.size oa m.length m) (c1 : bQ va zs.length vc) (c2 : bQ oa m.length oc) (hz : zs.length ≤ 4) (hm : m.length ≤ 160) (hi : ∀ i, i < m.length → (aB m i).item.size ≤ 1048576)
  (n1 : ∀ g off, va = some ⟨g, off, none⟩ → 0 < zs.length → g ≠ nb) (n2 : ∀ g off, oa = some ⟨g, off, none⟩ → 0 < m.length → g ≠ nb) :
  aDn nb va oa zs.length vc m.length oc zs m ((W.setCell ⟨nb, 0, none⟩ (.slice va zs.length vc)).setCell ⟨nb, 1, none⟩ (.slice oa m.length oc)) :=
 ⟨cF _ _ hbx, (aHY hv n1 fun j hj => aF _ _ hj).more (by rw [aZ]; exact Nat.le_refl _), (aJX ho n2 fun j hj => aF _ _ hj).more (by rw [aZ]; exact Nat.le_refl _), c1, c2, ⟨hz, by omega⟩, rfl, hi⟩
set_option maxHeartbeats 80000000 in
theorem fnAllUndoneWalk (E : Int → Addr) (a : Option Addr) (len cap : Nat) (bs : List Int) (w : World) (hE : eA w w.heap.size E) (h : IsRow .u8 w a len cap bs) :
  Calls Tryz.prog 11 #[.slice a len cap] w fun e w' => e = .returned (.bool true) ∧ Below w.heap.size w w' := by
 by_cases p7 : len ≤ 1048576
 rotate_left
 ·go_enter Tryz.func11, Tryz.ntmps11
  go_wp2_with fail
  refine (aHb a len cap p7 w).mono ?_
  rintro e w' ⟨rfl, rfl⟩; go_wp2
  go_ret
  exact ⟨rfl, Below.refl _ _⟩
 have aCY := aPu (aAd h p7)
 have gT := aPu hE
 clear h hE
 go_enter Tryz.func11, Tryz.ntmps11
 go_wp2_with fail
 refine (aJA a len cap p7 w).mono ?_
 rintro e w' ⟨rfl, rfl⟩
 go_wp2_with fail
 refine (aBQ w w.heap.size a len cap aPw aCY.out).mono ?_
 rintro e w0 ⟨⟨N2, N1, N4, ano, N3⟩, dev, kind, item, qty, dv, sq, aC4, rfl, hx, bC⟩
 obtain ⟨xs, l, e1, a1, a2, a3, a4, a5, a6⟩ := hx
 have e1 : ano = l.length := e1
 subst e1
 have HE := aPu (gT.out.below bC aPw)
 clear gT
 have gT := HE
 clear HE
 have aDs := aPu a1.ints
 have aDA := aPu a2.ops
 have tX := aPu bC
 have nZ := aPu a3
 have oQ := aPu a4
 have tI : item.size ≤ 1048576 := Nat.le_trans aC4 (by omega)
 have G4 := aPu tI
 have HIa : Hid (∀ i, i < l.length → (aB l i).item.size ≤ 1048576) := fun i hi => Nat.le_trans (a5 i hi) (by omega)
 have lQ := bC.size
 clear a1 a2 a3 a4 a5 bC aC4 tI
 dsimp only
 go_upto_region 4 with fail
 have hT := aDh w0 #[.slice N2 4 N1, .slice N4 l.length N3] #[.int .i64 kind, .string item, .int .i64 qty, .int .i64 dv, .int .i64 sq] 27 29
 have L0 := aPu hT.1
 have u4 := aPu hT.2.1
 have hb := hT.2.2
 clear hT
 generalize (w0.alloc (.cells #[.slice N2 4 N1, .slice N4 l.length N3] 27)).alloc (.cells #[.int .i64 kind, .string item, .int .i64 qty, .int .i64 dv, .int .i64 sq] 29) = w1 at hb L0 u4 ⊢
 have dZ := hb.size
 have aBi := eX hb aDs
 have aBo := eY hb aDA
 have cX := kN hb tX
 have eZ := pZ hb gT
 clear hb aDs aDA tX gT
 obtain ⟨lI, lH⟩ := pair_cells L0.out
 go_upto_region 5 with fail
 have hb : Below w1.heap.size w1 (w1.alloc (.cells #[.slice N2 4 N1, .slice N4 l.length N3] 27)) := bl
 have hbx := bE (Below.refl _ (w1.alloc (.cells #[.slice N2 4 N1, .slice N4 l.length N3] 27)))
 generalize w1.alloc (.cells #[.slice N2 4 N1, .slice N4 l.length N3] 27) = w2 at hb hbx ⊢
 clear lI lH
 have dS := hb.size
 have aDr := eX hb aBi
 have aDz := eY hb aBo
 have bP := kN hb cX
 have dP := pZ hb eZ
 have aFv := eD hb L0
 have aFs := eD hb u4
 clear hb aBi aBo cX eZ L0 u4
 have hnw : aDn w1.heap.size N2 N4 4 N1 l.length N3 xs l w2 := ⟨hbx, aDr.out.more (by omega), aDz.out.more (by omega), nZ.out, oQ.out, ⟨by omega, a6⟩, rfl, HIa.out⟩
 have HNw := aPu hnw
 have hnl : w1.heap.size < w2.heap.size := bS hbx
 obtain ⟨nb, hnb⟩ : ∃ b, w1.heap.size = b := ⟨_, rfl⟩
 rw [hnb] at HNw hnl
 have aId : w.heap.size ≤ nb := by omega
 clear hnw hbx aDr aDz aFv aFs
 rw [hnb]
 clear hnb
 go_wp2
 go_loopw [7] (fun i wr => ∃ (q : Nat) (va oa : Option Addr) (nv vc no oc : Nat) (ys : List Int) (ul : List aA), q ≤ 50 ∧ i = .int .i64 (q : Int) ∧ Hid (aDn nb va oa nv vc no oc ys ul wr) ∧ Hid (Below nb w2 wr) ∧ Hid (q = 0 ∨ (aD ys ul = true ∧ (0 ≤ dev ∧ dev ≤ 3) ∧ sX dev ul + q ≤ 40))) (fun i _ => 50 - (intOf i).toNat)
 case atStart => exact ⟨0, _, _, _, _, _, _, _, _, by omega, rfl, HNw.out, Below.refl _ _, .inl rfl⟩
 case round =>
  obtain ⟨q, va, oa, nv, vc, no, oc, ys, ul, hq, rfl, sJ, cS, HQ⟩ := hrel; have hsr := cS.out.size
  by_cases aK : q < 50
  rotate_left
  ·exfalso
   have := HQ.out; omega
  obtain ⟨w3, hwr⟩ : ∃ z, z = wr := ⟨_, rfl⟩; subst hwr; have dQ := aPu (bP.out.trans (cS.out.mono aId)); have W8 := aPu (dP.out.below cS.out aId); have aIS := aPu sJ.out.box; have aIY := aPu sJ.out.vec; have aI8 := aPu sJ.out.ops; have aMQ := aPu (Below.refl nb w3); have aJf := aPu sJ.out.vcap; have x6 := aPu sJ.out.ocap; have hsm := sJ.out.small; have fE := aPu sJ.out.item; have HLw := aPu sJ.out.len; have aOS : nb < w3.heap.size := bS sJ.out.box; clear sJ HNw dP; obtain ⟨⟨k, zs, m⟩, hN⟩ : ∃ N, cH ys ul dev 7 ⟨#[]⟩ 0 0 0 = N := ⟨_, rfl⟩; have HN := aPu hN; obtain ⟨hlz, hlm, hin, kM⟩ := Z0 hN; have HI := aPu hin; have HCt := aPu kM; clear hN hin kM; have hkr := aEE HN.out; have hkr : k = 0 ∨ k = 1 ∨ k = 2 ∨ k = 4 := hkr; obtain ⟨lI, lH⟩ := pair_cells aIS.out
  go_wp2_with fail
  have hc := aAu w3 w3.heap.size E (W8.out.more (by omega)) va oa nv vc no oc ys ul dev 7 0 0 0 ⟨#[]⟩ (aIY.out.more (by omega)) (aI8.out.more (by omega)) aPw aJf.out.1 x6.out (by omega) (by omega) (Nat.zero_le _)
  rw [HN.out] at hc; unfold aA8 at hc
  dsimp only at hc
  refine hc.mono ?_
  clear hc; rintro e w4 ⟨wI, wH, wK, wJ, cQ, rfl, kB, dX, Z9, nP, bX, cD, hb⟩; clear lI lH; have kB := kB.more aPw nP; have dX := dX.more Z9 aPw; clear Z9 nP; have aOp := aPu (aKX kB); have aOq := aPu (aGb dX); have aMK := aPu bX; have aFF := aPu cD; clear bX cD; have F0 := hb.size; have lC := kN hb dQ; have aMP := kN hb aMQ; have wX := pZ hb W8; have aL1 := eD hb aIS; have aL7 := eX hb aIY; have aMx := eY hb aI8; clear hb dQ aMQ W8 aIS aIY aI8; have aDq := aPu kB.ints; have aDy := aPu dX.ops; clear kB dX
  go_upto_region 9 with fail
  have hb : Below w4.heap.size w4 (w4.alloc (.cells #[.slice wI zs.length wH, .slice wK m.length wJ] 27)) := bl; have D3 := aPu (bE (Below.refl _ (w4.alloc (.cells #[.slice wI zs.length wH, .slice wK m.length wJ] 27)))); generalize w4.alloc (.cells #[.slice wI zs.length wH, .slice wK m.length wJ] 27) = w5 at hb D3 ⊢; have hs5 := hb.size; have oB := kN hb lC; have aMO := kN hb aMP; have W7 := pZ hb wX; have aIR := eD hb aL1; have aIX := eX hb aL7; have aI7 := eY hb aMx; have L3 := eX hb aDq; have L5 := eY hb aDy; clear hb lC aMP wX aL1 aL7 aMx aDq aDy; obtain ⟨lI, lH⟩ := pair_cells aIR.out
  go_wp2_with fail
  have hc := aAf w5 w5.heap.size va oa nv vc no oc ys ul 7 0 0 0 ⟨#[]⟩ (aIX.out.more (by omega)) (aI7.out.more (by omega)) aPw aJf.out x6.out (Nat.zero_le _) dev fE.out (by omega) (by omega)
  rw [HN.out] at hc; unfold uT at hc
  dsimp only at hc
  refine hc.mono ?_
  clear hc; rintro e w6 ⟨zR, zQ, zT, zS, rfl, kB, dX, hb, bX, cD⟩; clear lI lH; have aOr := aPu bX; have aOu := aPu cD; clear bX cD; have S2 := hb.size; have fA := kN hb oB; have aMN := kN hb aMO; have HE6 := pZ hb W7; have aL0 := eD hb aIR; have aL6 := eX hb aIX; have aMw := eY hb aI7; have D4 := eX hb L3; have D5 := eY hb L5; have D2 := eD hb D3; clear hb oB aMO W7 aIR aIX aI7 L3 L5 D3; have L2 := aPu kB.ints; have L4 := aPu dX.ops; clear kB dX
  go_upto_region 10 with fail
  have hb : Below w6.heap.size w6 (w6.alloc (.cells #[.slice zR zs.length zQ, .slice zT m.length zS] 27)) := bl; have pR := aPu (bE (Below.refl _ (w6.alloc (.cells #[.slice zR zs.length zQ, .slice zT m.length zS] 27)))); generalize w6.alloc (.cells #[.slice zR zs.length zQ, .slice zT m.length zS] 27) = w7 at hb pR ⊢; have Z5 := hb.size; have oA := kN hb fA; have W9 := kN hb aMN; have O2 := pZ hb HE6; have U5 := eD hb aL0; have V0 := eX hb aL6; have V7 := eY hb aMw; have qL := eX hb D4; have qN := eY hb D5; have qJ := eD hb D2; have qK := eX hb L2; have qM := eY hb L4; clear hb fA aMN HE6 aL0 aL6 aMw D4 D5 D2 L2 L4; have hkk : (k != k) = false := bne_self_eq_false _; rcases hkr with rfl | rfl | rfl | rfl
  ·have eB := aEF HN.out rfl
   dsimp only at eB
   obtain ⟨kM, gJ, F3, hlc⟩ := eB; have hqq : sX dev m + (q + 1) ≤ 40 := by
    rcases HQ.out with h | ⟨_, _, h⟩
    ·have := aHM F3 gJ; omega
    ·omega
   have HQ2 : Hid (q + 1 = 0 ∨ (aD zs m = true ∧ (0 ≤ dev ∧ dev ≤ 3) ∧ sX dev m + (q + 1) ≤ 40)) := .inr ⟨kM, gJ, hqq⟩; clear kM gJ F3 hlc hqq; obtain ⟨lI, lH⟩ := pair_cells qJ.out; obtain ⟨nH, nG⟩ := pair_cells pR.out
   go_wp2_with fail
   refine (rK w7 w7.heap.size wI wK zR zT zs.length wH m.length wJ zs.length zQ m.length zS zs m zs m (qL.out.more (by omega)) (qN.out.more (by omega)) (qK.out.more (by omega)) (qM.out.more (by omega)) aPw (by omega) (by omega) (by omega) (by omega)).mono ?_
   rintro e w8 ⟨rfl, hb⟩; rw [decide_eq_true rfl, decide_eq_true rfl]; clear lI lH nH nG; have hs8 := hb.size; have HB8 := kN hb oA; have aBp := kN hb W9; have HE8 := pZ hb O2; have K9 := eD hb U5; have aBe := eX hb V0; have aBj := eY hb V7; have u9 := eX hb qL; have v8 := eY hb qN; have u6 := eD hb qJ; have aBf := eX hb qK; have aBk := eY hb qM; have aA9 := eD hb pR; clear hb oA W9 O2 U5 V0 V7 qL qN qJ qK qM pR; obtain ⟨lI, lH⟩ := pair_cells u6.out; have hfr := aC K9.out; obtain ⟨f0, f1⟩ := hfr; have tL := pair_cells K9.out; obtain ⟨g0, g1⟩ := tL; have sJ := aPu (aDn.set K9.out (u9.out.more (by omega)) (v8.out.more (by omega)) aMK.out aFF.out hlz hlm HI.out (fun g off e h => by have := aOp.out g off e h; omega) (fun g off e h => by have := aOq.out g off e h; omega))
   have hbw : Below nb w3 w8 := by have h := aBp.out; exact h
   have HBw := aPu (cS.out.trans ((hbw.setCell (p := ⟨nb, 0, none⟩) aPw (.slice wI zs.length wH)).setCell (p := ⟨nb, 1, none⟩) aPw (.slice wK m.length wJ))); clear hbw; go_wp2
   go_roundw
   case rel => exact ⟨q + 1, _, _, _, _, _, _, _, _, by omega, by go_num, sJ, HBw, HQ2⟩
   case measure => simp [intOf]; omega
  ·obtain ⟨lI, lH⟩ := pair_cells qJ.out
   obtain ⟨nH, nG⟩ := pair_cells pR.out
   go_wp2_with fail
   refine (rK w7 w7.heap.size wI wK zR zT zs.length wH m.length wJ zs.length zQ m.length zS zs m zs m (qL.out.more (by omega)) (qN.out.more (by omega)) (qK.out.more (by omega)) (qM.out.more (by omega)) aPw (by omega) (by omega) (by omega) (by omega)).mono ?_
   rintro e w8 ⟨rfl, hb⟩; rw [decide_eq_true rfl, decide_eq_true rfl]; clear lI lH nH nG; have hs8 := hb.size; have HB8 := kN hb oA; have aBp := kN hb W9; have HE8 := pZ hb O2; have K9 := eD hb U5; have aBe := eX hb V0; have aBj := eY hb V7; have u9 := eX hb qL; have v8 := eY hb qN; have u6 := eD hb qJ; have aBf := eX hb qK; have aBk := eY hb qM; have aA9 := eD hb pR; clear hb oA W9 O2 U5 V0 V7 qL qN qJ qK qM pR; go_wp2
   go_ret
   exact ⟨rfl, HB8.out⟩
  ·have hen := aFM HN.out rfl
   obtain ⟨hce, uB, hpt⟩ := hen; have HUe := aPu uB; obtain ⟨nl, aE5⟩ : ∃ x, gG ys ul dev = x := ⟨_, rfl⟩; rw [aE5] at hpt; have HNL := aPu aE5; have HPt := aPu hpt; have oK : nl.length ≤ 400 := by rw [← aE5]; exact Nat.le_trans (aGk ys ul _) (by rw [HLw.out]; exact hsm.2)
   clear aE5 hpt uB hce; obtain ⟨lI, lH⟩ := pair_cells qJ.out; obtain ⟨nH, nG⟩ := pair_cells pR.out
   go_wp2_with fail
   refine (rK w7 w7.heap.size wI wK zR zT zs.length wH m.length wJ zs.length zQ m.length zS zs m zs m (qL.out.more (by omega)) (qN.out.more (by omega)) (qK.out.more (by omega)) (qM.out.more (by omega)) aPw (by omega) (by omega) (by omega) (by omega)).mono ?_
   rintro e w8 ⟨rfl, hb⟩; rw [decide_eq_true rfl, decide_eq_true rfl]; clear lI lH nH nG; have hs8 := hb.size; have HB8 := kN hb oA; have aBp := kN hb W9; have HE8 := pZ hb O2; have K9 := eD hb U5; have aBe := eX hb V0; have aBj := eY hb V7; have u9 := eX hb qL; have v8 := eY hb qN; have u6 := eD hb qJ; have aBf := eX hb qK; have aBk := eY hb qM; have aA9 := eD hb pR; clear hb oA W9 O2 U5 V0 V7 qL qN qJ qK qM pR; obtain ⟨lI, lH⟩ := pair_cells K9.out
   go_wp2_with fail
   have hc := aCT w8 w8.heap.size va oa nv vc no oc ys ul dev (aBe.out.more (by omega)) (aBj.out.more (by omega)) aPw (by omega) x6.out.1 ⟨by omega, x6.out.2.1⟩
   unfold G0 at hc; rw [HUe.out] at hc; refine hc.mono ?_
   clear hc; rintro e w9 ⟨rfl, hb⟩; clear lI lH; have qT := hb.size; have X0 := kN hb HB8; have aMM := kN hb aBp; have HE9 := pZ hb HE8; have aIQ := eD hb K9; have aIW := eX hb aBe; have aI6 := eY hb aBj; have aMa := eX hb u9; have aMA := eY hb v8; have aL3 := eD hb u6; have aL8 := eX hb aBf; have aMy := eY hb aBk; have aL2 := eD hb aA9; clear hb HB8 aBp HE8 K9 aBe aBj u9 v8 u6 aBf aBk aA9; obtain ⟨lI, lH⟩ := pair_cells aIQ.out
   go_wp2_with fail
   have hc := aGH w9 w9.heap.size va oa nv vc no oc ys ul dev (aIW.out.more (by omega)) (aI6.out.more (by omega)) aPw (by omega) aJf.out.1 x6.out.1 ⟨by omega, x6.out.2.1⟩ x6.out.2.2 fE.out
   rw [HNL.out] at hc; refine hc.mono ?_
   clear hc; rintro e w10 ⟨pa, pc, rfl, dX, hb⟩; clear lI lH; have aON := hb.size; have aMV := kN hb X0; have aOK := kN hb aMM; have aPt := pZ hb HE9; have aOB := eD hb aIQ; have aOE := eX hb aIW; have aOH := eY hb aI6; have aOG := eX hb aMa; have aOJ := eY hb aMA; have aOD := eD hb aL3; have aOF := eX hb aL8; have aOI := eY hb aMy; have aOC := eD hb aL2; clear hb X0 aMM HE9 aIQ aIW aI6 aMa aMA aL3 aL8 aMy aL2; have HP := aPu dX.ops; clear dX; go_wp2
   go_loopw [15] (fun i wr => ∃ p : Nat, p ≤ nl.length ∧ i = .int .i64 (p : Int) ∧ Hid (Below w10.heap.size w10 wr)) (fun i _ => nl.length - (intOf i).toNat)
   case atStart => exact ⟨0, Nat.zero_le _, rfl, Below.refl _ _⟩
   case round =>
    obtain ⟨p, hp, rfl, cU⟩ := hrel; have cP := cU.out.size
    by_cases Z7 : p < nl.length
    rotate_left
    ·have bT := aPu (aMV.out.trans (cU.out.mono (by have := aMV.out.size; omega)))
     go_wp2
     go_ret
     exact ⟨rfl, bT.out⟩
    have hpi : (p : Int) < (nl.length : Int) := by omega
    obtain ⟨hok, hnu⟩ := HPt.out p Z7; obtain ⟨ab, ao, rfl, hab, hao⟩ := (HP.out.below cU.out aPw).2 p Z7; have hao : nI wr ab (ao + p * 8) (aB nl p) := hao; obtain ⟨x, hx⟩ : ∃ x, aB nl p = x := ⟨_, rfl⟩; rw [hx] at hao hok hnu; clear hx; have HLv : Hid (rH x.dev x.seq x.stamp x.kind x.item x.qty x.level x.undos = false) := (E5 hok).trans (decide_eq_false hnu); obtain ⟨d0, d1, d2, d3, d4, d5, d6, d7⟩ := hao; clear hok hnu
    go_wp2_with fail
    refine (yK x.dev x.seq x.stamp x.kind x.item x.qty x.level x.undos wr).mono ?_
    rintro e w11 ⟨rfl, hb⟩; rw [HLv.out]; have HBe : Hid (Below w10.heap.size w10 w11) := cU.out.trans (hb.mono cP); clear d0 d1 d2 d3 d4 d5 d6 d7 hb; go_wp2
    go_roundw
    case rel => exact ⟨p + 1, by omega, by go_num, HBe⟩
    case measure => simp [intOf]; omega
  ·obtain ⟨lI, lH⟩ := pair_cells qJ.out
   obtain ⟨nH, nG⟩ := pair_cells pR.out
   go_wp2_with fail
   refine (rK w7 w7.heap.size wI wK zR zT zs.length wH m.length wJ zs.length zQ m.length zS zs m zs m (qL.out.more (by omega)) (qN.out.more (by omega)) (qK.out.more (by omega)) (qM.out.more (by omega)) aPw (by omega) (by omega) (by omega) (by omega)).mono ?_
   rintro e w8 ⟨rfl, hb⟩; rw [decide_eq_true rfl, decide_eq_true rfl]; clear lI lH nH nG; have hs8 := hb.size; have HB8 := kN hb oA; have aBp := kN hb W9; have HE8 := pZ hb O2; have K9 := eD hb U5; have aBe := eX hb V0; have aBj := eY hb V7; have u9 := eX hb qL; have v8 := eY hb qN; have u6 := eD hb qJ; have aBf := eX hb qK; have aBk := eY hb qM; have aA9 := eD hb pR; clear hb oA W9 O2 U5 V0 V7 qL qN qJ qK qM pR; go_wp2
   go_ret
   exact ⟨rfl, HB8.out⟩
end Go.Proofs.YthkagbnpcjidfaaGreatDoor
