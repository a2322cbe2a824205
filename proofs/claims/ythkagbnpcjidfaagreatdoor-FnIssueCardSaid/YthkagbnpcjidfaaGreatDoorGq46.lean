/- Walks and mathematics that several claims share, part 46. -/
import Derived.Test.YthkagbnpcjidfaaGreatDoorGq29
import Derived.Deep.Cut
namespace Go.Proofs.YthkagbnpcjidfaaGreatDoor
set_option maxRecDepth 100000
open Go.RowKit
set_option linter.unusedVariables false
set_option linter.unusedSimpArgs false
set_option linter.unusedSimpArgs false in
set_option maxHeartbeats 40000000 in
theorem aFT (w : World) (B : Nat) (av ao bv bo : Option Addr) (nv cv no co mv dv mo eo : Nat) (xs : List Int) (l : List aA) (ys : List Int) (m : List aA) (hx : Ints w B av nv xs) (h : bR w B ao no l) (hy : Ints w B bv mv ys) (g : bR w B bo mo m) (hB : B ≤ w.heap.size) (hv : nv ≤ 1048576) (hc : no ≤ co) (cY : Fits no co) (yL : mv ≤ 1048576) (he : mo ≤ eo) (tX : Fits mo eo) :
  Calls Tryz.prog 24 #[.agg #[.slice av nv cv, .slice ao no co], .agg #[.slice bv mv dv, .slice bo mo eo]] w (aKR (xB xs l ys m) w) := by
 have xE : no ≤ 1048576 := cY.1
 have aQw : mo ≤ 1048576 := tX.1
 have hT := sW.mk0 w #[.slice av nv cv, .slice ao no co] #[.slice bv mv dv, .slice bo mo eo] 27
 have HV := aRp (hx.below hT.bel hB)
 have HO := aRp (h.below hT.bel hB)
 have HY := aRp (hy.below hT.bel hB)
 have HG := aRp (g.below hT.bel hB)
 have HT := aRp hT
 have HL := aRp h.1
 have HLm := aRp g.1
 have hBw := hB
 clear hx h hy g hT hB
 go_enter Tryz.func24, Tryz.ntmps24
 go_wp2_with fail
 generalize (w.alloc (.cells #[.slice av nv cv, .slice ao no co] 27)).alloc (.cells #[.slice bv mv dv, .slice bo mo eo] 27) = w0 at HV HO HY HG HT ⊢
 have aGR := HT.out.bel.size
 have rB := bT HT.out.snd
 refine (kO w0 B av ao nv cv no co xs l HV.out HO.out (by omega) hv hc cY).mono ?_
 rintro e w1 ⟨rfl, aF⟩
 have iV := aRp (HV.out.below aF (by omega))
 have cV := aRp (HO.out.below aF (by omega))
 have HY1 := aRp (HY.out.below aF (by omega))
 have tA := aRp (HG.out.below aF (by omega))
 have aR := aRp (HT.out.next aF)
 have eL := aF.size
 clear aF HV HO HY HG HT
 rcases hca : aD xs l with _ | _
 ·have HF := aRp (aJO (ys := ys) (m := m) hca)
  clear hca; go_wp2
  go_ret
  exact ⟨by rw [HF.out]; rfl, aR.out.bel⟩
 obtain ⟨b0, b1⟩ := pair_cells aR.out.snd
 go_wp2_with fail
 refine (kO w1 B bv bo mv dv mo eo ys m HY1.out tA.out (by omega) yL he tX).mono ?_
 rintro e w2 ⟨rfl, aI⟩
 have jZ := aRp (iV.out.below aI (by omega))
 have fJ := aRp (cV.out.below aI (by omega))
 have HY2 := aRp (HY1.out.below aI (by omega))
 have HG2 := aRp (tA.out.below aI (by omega))
 have aN := aRp (aR.out.next aI)
 have eB := aI.size
 clear aI iV cV HY1 tA aR b0 b1
 rcases hcb : aD ys m with _ | _
 ·have HF := aRp (aJN (xs := xs) (l := l) hcb)
  clear hca hcb; go_wp2
  go_ret
  exact ⟨by rw [HF.out]; rfl, aN.out.bel⟩
 have HF := aRp (aEB hca hcb)
 have aQm := aRp (fun i (hi : i < l.length) => aEW hca hi)
 have hfm : ∀ i, i < mo → yI (aB m i).dev (aB m i).seq := fun i hi => aEW hcb (by rw [HLm.out]; exact hi)
 clear hca hcb
 obtain ⟨b0, b1⟩ := pair_cells aN.out.snd
 go_wp2_with fail
 refine (aLZ w2 B bo mo eo m HG2.out (by omega) tX.1 hfm).mono ?_
 rintro e w3 ⟨sb, rfl, hsb, aCE, aS⟩
 have uY := aRp (fJ.out.below aS (by omega))
 have bF := aRp (aN.out.next aS)
 have hsl := aCE.lt
 have HS3 : Hid (gX w3 sb mo (mT m m.length)) := by have := aCE; rw [← HLm.out] at this; rw [← HLm.out]; exact this
 have iD := aS.size
 clear aS fJ HG2 aN jZ HY2 b0 b1 aCE hfm
 obtain ⟨a0, a1⟩ := pair_cells bF.out.fst
 go_wp2
 go_loopw [26] (fun i wr => ∃ k : Nat, k ≤ no ∧ i = .int .i64 (k : Int) ∧ Hid (∀ j, j < k → okW m (aB l j) = true) ∧ Hid (Below w3.heap.size w3 wr)) (fun i _ => no - (intOf i).toNat)
 case atStart => exact ⟨0, by omega, rfl, aRp (fun j hj => absurd hj (by omega)), aRp (Below.refl _ _)⟩
 case round =>
  obtain ⟨k, hk, rfl, HK, eE⟩ := hrel; clear a0 a1; have hsr := eE.out.size
  by_cases aM : k < no
  rotate_left
  ·obtain rfl : k = no := by omega
   have HE := aRp (aE2 (m := m) (l := l) (fun i hi => HK.out i (by rw [← HL.out]; exact hi)))
   go_wp2
   go_ret
   exact ⟨by rw [HF.out, HE.out]; rfl, bF.out.bel.trans (eE.out.mono (by omega))⟩
  have hkl : k < l.length := by rw [HL.out]; exact aM
  have I9 := aRp (fun h => aI2 (m := m) hkl h)
  have HFk := aRp (aQm.out k hkl); have HKs : Hid (okW m (aB l k) = true → ∀ j, j < k + 1 → okW m (aB l j) = true) := fun h j hj => by
   rcases Nat.lt_or_ge j k with h1 | h1
   ·exact HK.out j h1
   ·obtain rfl : j = k := by omega
    exact h
  have HOr := aRp (uY.out.below eE.out (by omega))
  obtain ⟨b, off, rfl, hb, ho⟩ := HOr.out.2 k aM; have pU : Hid (rD wr b (off + k * 8) (aB l k)) := ho; have HN : Hid (mT m m.length (aB l k).dev (aB l k).seq = none → okW m (aB l k) = false) := fun h => okW_none h
  have HY : Hid (∀ y, mT m m.length (aB l k).dev (aB l k).seq = some y → okW m (aB l k) = (eW (aB l k) y && decide ((aB l k).undos ≤ y.undos))) := fun y h => aEd h
  have HSr := aRp (HS3.out.below eE.out); clear ho HK HOr; generalize aB l k = x at pU HFk HKs I9 HN HY; obtain ⟨d0, d1, d2, d3, d4, d5, d6, d7⟩ := pU.out
  go_upto_region 7 with fail
  have cW : Below wr.heap.size wr (wr.alloc (.cells #[.int .i64 x.dev, .int .i64 x.seq, .int .i64 x.stamp, .int .i64 x.kind, .string x.item, .int .i64 x.qty, .int .i64 x.level, .int .i64 x.undos] 50)) := bl; have uQ := aRp (bM (Below.refl _ (wr.alloc (.cells #[.int .i64 x.dev, .int .i64 x.seq, .int .i64 x.stamp, .int .i64 x.kind, .string x.item, .int .i64 x.qty, .int .i64 x.level, .int .i64 x.undos] 50)))); have HS4 := aRp (HSr.out.below cW); have iX := aRp (eE.out.trans (cW.mono eE.out.size)); clear d0 d1 d2 d3 d4 d5 d6 d7 pU HSr; generalize wr.alloc (.cells #[.int .i64 x.dev, .int .i64 x.seq, .int .i64 x.stamp, .int .i64 x.kind, .string x.item, .int .i64 x.qty, .int .i64 x.level, .int .i64 x.undos] 50) = w4 at cW uQ HS4 iX ⊢; have vD := cW.size; have hx4 := bT uQ.out; generalize wr.heap.size = nb at uQ vD hsr hx4 ⊢; clear cW; obtain ⟨e0, e1, e2, e3, e4, e5, e6, e7⟩ := aH uQ.out
  go_wp2_with fail
  refine (nameOf x w4).mono ?_
  rintro e w5 ⟨rfl, aW⟩; have HX5 := aRp ((aW.block _ hx4).trans uQ.out); have J2 := aRp (HS4.out.below aW); have kL := aRp (iX.out.trans (aW.mono iX.out.size)); have hs5 := aW.size; clear aW uQ HS4 iX e0 e1 e2 e3 e4 e5 e6 e7; have yR := (J2.out.look HFk.out).1; rcases hg : mT m m.length x.dev x.seq with _ | y
  ·rw [hg] at yR
   have HE := aRp (I9.out (HN.out hg)); have aGV : (Instr.lookup 82 (.map (some sb)) (lL x.dev x.seq) true).run Tryz.prog w5 = .ok (.tuple #[.agg #[.int .i64 0, .int .i64 0, .int .i64 0, .int .i64 0, .string ⟨#[]⟩, .int .i64 0, .int .i64 0, .int .i64 0], .bool false]) w5 := yR; clear yR hg; go_wp2
   go_ret
   exact ⟨by rw [HF.out, HE.out]; rfl, bF.out.bel.trans ((kL.out.mono (by omega)).alloc (by omega) _)⟩
  have HYy := aRp (HY.out y hg); rw [hg] at yR; clear hg; rcases hsm : eW x y with _ | _
  ·have HE := aRp (I9.out (by rw [HYy.out, hsm]; rfl))
   have xN := aRp hsm; have aGV : (Instr.lookup 82 (.map (some sb)) (lL x.dev x.seq) true).run Tryz.prog w5 = .ok (.tuple #[.agg #[.int .i64 y.dev, .int .i64 y.seq, .int .i64 y.stamp, .int .i64 y.kind, .string y.item, .int .i64 y.qty, .int .i64 y.level, .int .i64 y.undos], .bool true]) w5 := yR; clear yR hsm
   go_upto_region 8 with fail
   have hM : Below w5.heap.size w5 (w5.alloc (.cells #[.int .i64 y.dev, .int .i64 y.seq, .int .i64 y.stamp, .int .i64 y.kind, .string y.item, .int .i64 y.qty, .int .i64 y.level, .int .i64 y.undos] 50)) := bl; have xK := aRp (bM (Below.refl _ (w5.alloc (.cells #[.int .i64 y.dev, .int .i64 y.seq, .int .i64 y.stamp, .int .i64 y.kind, .string y.item, .int .i64 y.qty, .int .i64 y.level, .int .i64 y.undos] 50)))); have bL := aRp ((hM.block _ (by omega)).trans HX5.out)
   have eC := aRp (kL.out.trans (hM.mono kL.out.size)); clear aGV HX5 J2 kL; generalize w5.alloc (.cells #[.int .i64 y.dev, .int .i64 y.seq, .int .i64 y.stamp, .int .i64 y.kind, .string y.item, .int .i64 y.qty, .int .i64 y.level, .int .i64 y.undos] 50) = w6 at hM xK bL eC ⊢; have M9 := hM.size; have j9 := bT xK.out; generalize w5.heap.size = nz at xK M9 j9 hs5 ⊢; clear hM; obtain ⟨e0, e1, e2, e3, e4, e5, e6, e7⟩ := aH bL.out; obtain ⟨g0, g1, g2, g3, g4, g5, g6, g7⟩ := aH xK.out
   go_wp2_with fail
   refine (aJI x y xN.out w6).mono ?_
   rintro e w7 ⟨rfl, rL⟩; have tB := aRp (eC.out.trans (rL.mono eC.out.size)); have hs7 := rL.size; clear rL e0 e1 e2 e3 e4 e5 e6 e7 g0 g1 g2 g3 g4 g5 g6 g7; go_wp2
   go_ret
   exact ⟨by rw [HF.out, HE.out]; rfl, bF.out.bel.trans ((tB.out.mono (by omega)).alloc (by omega) _)⟩
  obtain ⟨u, rfl⟩ : ∃ u, y = x.with u := ⟨_, A1 hsm⟩; have aGV : (Instr.lookup 82 (.map (some sb)) (lL x.dev x.seq) true).run Tryz.prog w5 = .ok (.tuple #[.agg #[.int .i64 x.dev, .int .i64 x.seq, .int .i64 x.stamp, .int .i64 x.kind, .string x.item, .int .i64 x.qty, .int .i64 x.level, .int .i64 u], .bool true]) w5 := yR; have fJ : Hid (okW m x = decide (x.undos ≤ u)) := by show _ = _; rw [HYy.out, hsm]; rfl
  clear yR hsm HYy
  go_upto_region 8 with fail
  have hM : Below w5.heap.size w5 (w5.alloc (.cells #[.int .i64 x.dev, .int .i64 x.seq, .int .i64 x.stamp, .int .i64 x.kind, .string x.item, .int .i64 x.qty, .int .i64 x.level, .int .i64 u] 50)) := bl; have xK := aRp (bM (Below.refl _ (w5.alloc (.cells #[.int .i64 x.dev, .int .i64 x.seq, .int .i64 x.stamp, .int .i64 x.kind, .string x.item, .int .i64 x.qty, .int .i64 x.level, .int .i64 u] 50)))); have bL := aRp ((hM.block _ (by omega)).trans HX5.out)
  have eC := aRp (kL.out.trans (hM.mono kL.out.size)); clear aGV HX5 J2 kL; generalize w5.alloc (.cells #[.int .i64 x.dev, .int .i64 x.seq, .int .i64 x.stamp, .int .i64 x.kind, .string x.item, .int .i64 x.qty, .int .i64 x.level, .int .i64 u] 50) = w6 at hM xK bL eC ⊢; have M9 := hM.size; have j9 := bT xK.out; generalize w5.heap.size = nz at xK M9 j9 hs5 ⊢; clear hM; obtain ⟨e0, e1, e2, e3, e4, e5, e6, e7⟩ := aH bL.out; obtain ⟨g0, g1, g2, g3, g4, g5, g6, g7⟩ := aH xK.out
  go_wp2_with fail
  refine (aIq x u w6).mono ?_
  rintro e w7 ⟨rfl, rL⟩; have HZ7 := aRp ((rL.block _ j9).trans xK.out); have tB := aRp (eC.out.trans (rL.mono eC.out.size)); have hs7 := rL.size; clear rL e0 e1 e2 e3 e4 e5 e6 e7 g0 g1 g2 g3 g4 g5 g6 g7 bL xK eC; generalize hmx : max x.undos u = mx
  go_upto_region 11 with fail
  have pE : Below w7.heap.size w7 (w7.alloc (.cells #[.int .i64 x.dev, .int .i64 x.seq, .int .i64 x.stamp, .int .i64 x.kind, .string x.item, .int .i64 x.qty, .int .i64 x.level, .int .i64 mx] 50)) := bl; have HW8 := aRp (bM (Below.refl _ (w7.alloc (.cells #[.int .i64 x.dev, .int .i64 x.seq, .int .i64 x.stamp, .int .i64 x.kind, .string x.item, .int .i64 x.qty, .int .i64 x.level, .int .i64 mx] 50)))); have HZ8 := aRp ((pE.block _ (by omega)).trans HZ7.out)
  have Y7 := aRp (tB.out.trans (pE.mono tB.out.size)); generalize w7.alloc (.cells #[.int .i64 x.dev, .int .i64 x.seq, .int .i64 x.stamp, .int .i64 x.kind, .string x.item, .int .i64 x.qty, .int .i64 x.level, .int .i64 mx] 50) = w8 at pE HW8 HZ8 Y7 ⊢; have hs8 := pE.size; clear pE HZ7 tB; obtain ⟨e0, e1, e2, e3, e4, e5, e6, e7⟩ := aH HW8.out; obtain ⟨g0, g1, g2, g3, g4, g5, g6, g7⟩ := aH HZ8.out
  by_cases yS : x.undos ≤ u
  ·obtain rfl : mx = u := by omega
   have HE := aRp (HKs.out (by rw [fJ.out]; exact decide_eq_true yS))
   clear yS hmx; go_wp2
   go_roundw
   case rel => exact ⟨k + 1, by omega, by go_num, HE, Y7⟩
   case measure => simp [intOf]; omega
  ·have bI : (mx == u) = false := by rw [beq_eq_false_iff_ne]; omega
   have aJ0 : ¬ mx = u := by omega
   have HE := aRp (I9.out (by rw [fJ.out]; exact decide_eq_false yS))
   clear yS hmx; go_wp2
   go_ret
   exact ⟨by rw [HF.out, HE.out]; rfl, bF.out.bel.trans (Y7.out.mono (by omega))⟩
end Go.Proofs.YthkagbnpcjidfaaGreatDoor
