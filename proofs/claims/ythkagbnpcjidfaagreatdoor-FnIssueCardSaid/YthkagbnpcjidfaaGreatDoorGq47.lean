/- Walks and mathematics that several claims share, part 47. -/
import Derived.Test.YthkagbnpcjidfaaGreatDoorGq44
import Derived.Test.YthkagbnpcjidfaaGreatDoorGq45
import Derived.Test.YthkagbnpcjidfaaGreatDoorGq46
import Derived.Deep.Cut
namespace Go.Proofs.YthkagbnpcjidfaaGreatDoor
set_option maxRecDepth 100000
open Go.RowKit
set_option linter.unusedVariables false
set_option linter.unusedSimpArgs false
structure Dk (w wr : World) (B g : Nat) (a : Option Addr) (len cap : Nat) : Prop where
 ra : wr.heap[w.heap.size]? = some (.cells #[.int .i64 0, .string ⟨#[]⟩, .int .i64 0, .int .i64 0, .int .i64 0] 29 (0, 0))
 bel : Below w.heap.size w wr
 rd : Rd wr B g a len cap
 glt : w.heap.size < g
theorem Dk.step {w wr w1 : World} {B g : Nat} {a : Option Addr} {len cap : Nat} (h : Dk w wr B g a len cap) (hg : wr.grownBy w1 (some g)) (hr : Rd w1 B g a len cap) : Dk w w1 B g a len cap := by
 have rI := h.glt
 have hs := h.bel.size
 have hk : ∀ j, j < wr.heap.size → j ≠ g → w1.heap[j]? = wr.heap[j]? := fun j h1 h2 => hg.block j h1 (by intro e; injection e with e; exact h2 e)
 exact ⟨(hk _ (aRq h.ra).1 (by omega)).trans h.ra, h.bel.grown hg hs (fun k hk => by cases hk; omega), hr, rI⟩
theorem Dk.box {w wr : World} {B g : Nat} {a : Option Addr} {len cap : Nat} (h : Dk w wr B g a len cap) (ob : Obj) : Dk w (wr.alloc ob) B g a len cap := by
 have dJ : Below wr.heap.size wr (wr.alloc ob) := bl
 exact h.step (grown_of dJ) (h.rd.grown (C3 dJ) fun k hk => by cases hk)
set_option maxHeartbeats 40000000 in
theorem aIO (w : World) (B : Nat) (a : Option Addr) (len cap : Nat) (hB : B ≤ w.heap.size) (h : Src w B a len) :
  Calls Tryz.prog 19 #[.slice a len cap] w (aKO w) := by
 have bG : Below w.heap.size w (w.alloc (.cells #[.int .i64 0, .string ⟨#[]⟩, .int .i64 0, .int .i64 0, .int .i64 0] 29)) := (Below.refl _ w).alloc aRr _
 have pR := heap_alloc_new w (.cells #[.int .i64 0, .string ⟨#[]⟩, .int .i64 0, .int .i64 0, .int .i64 0] 29)
 have xF : Hid ((w.alloc (.cells #[.int .i64 0, .string ⟨#[]⟩, .int .i64 0, .int .i64 0, .int .i64 0] 29)).heap.size = w.heap.size + 1) := by show _ = _; simp
 have HS0 := aRp (h.kept (w' := w.alloc (.cells #[.int .i64 0, .string ⟨#[]⟩, .int .i64 0, .int .i64 0, .int .i64 0] 29)) fun k hk => bG.block k (by omega))
 have nJ := aRp pR
 have oJ := aRp bG
 clear h pR bG
 go_enter Tryz.func19, Tryz.ntmps19
 go_wp2_with fail
 generalize w.alloc (.cells #[.int .i64 0, .string ⟨#[]⟩, .int .i64 0, .int .i64 0, .int .i64 0] 29) = w0 at HS0 nJ oJ xF ⊢
 refine (aIo w0 B a len cap (by have := xF.out; omega) HS0.out).mono ?_
 rintro e w1 ⟨rfl, bZ, cR⟩
 have lT : Hid (Dk w w1 B w0.heap.size a len cap) := ⟨(bZ.block _ (by have := xF.out; omega) (by intro e; cases e)).trans nJ.out, oJ.out.grown bZ (by have := xF.out; omega) (fun k hk => by cases hk), cR, by have := xF.out; omega⟩
 clear bZ cR HS0 nJ oJ xF
 generalize w0.heap.size = g at lT ⊢
 have hsw := lT.out.bel.size
 go_wp2_with fail
 refine (aDy w1 B g a len cap lT.out.rd (by omega)).mono ?_
 rintro e w2 ⟨kind, item, qty, dv, sq, hi, rfl, eA, dL⟩
 have vS := aRp (lT.out.step eA dL)
 have jG := lT.out.rd.lt
 have eB := eA.size
 clear eA dL lT
 go_upto_region 3 with fail
 have zB := aRp (heap_alloc_new w2 (.cells #[.int .i64 kind, .string item, .int .i64 qty, .int .i64 dv, .int .i64 sq] 29))
 have zA := aRp (vS.out.box (.cells #[.int .i64 kind, .string item, .int .i64 qty, .int .i64 dv, .int .i64 sq] 29))
 clear vS
 generalize w2.alloc (.cells #[.int .i64 kind, .string item, .int .i64 qty, .int .i64 dv, .int .i64 sq] 29) = w3 at zB zA ⊢
 have hcg : w2.heap.size ≠ g := by omega
 have tY : w.heap.size < w2.heap.size := by have := zA.out.glt; omega
 have N3 : w2.heap.size < w3.heap.size := (aRq zB.out).1
 generalize w2.heap.size = cb at zB hcg tY N3 eB ⊢
 go_wp2_with fail
 refine (aA2 w3 B g a len cap zA.out.rd 5 (by omega) (by omega)).mono ?_
 rintro e w4 ⟨b, rfl, rK, G3⟩
 have mP := aRp (zA.out.step rK G3)
 have HC4 := aRp ((rK.block cb N3 (by intro e; injection e with e; exact hcg e)).trans zB.out)
 have vD := rK.size
 clear rK G3 zA zB
 cases b
 ·skip
  obtain ⟨c0, c1, c2, c3, c4⟩ := gG HC4.out; obtain ⟨g0, g1, g2, g3, g4⟩ := gG mP.out.ra; obtain ⟨f0, f1, f2, f3, f4⟩ := aAx mP.out.ra; have HRf : Hid ((((((w4.setCell ⟨w.heap.size, 0, none⟩ (.int .i64 kind)).setCell ⟨w.heap.size, 1, none⟩ (.string item)).setCell ⟨w.heap.size, 2, none⟩ (.int .i64 qty)).setCell ⟨w.heap.size, 3, none⟩ (.int .i64 dv)).setCell ⟨w.heap.size, 4, none⟩ (.int .i64 sq)).heap[w.heap.size]? = some (.cells #[.int .i64 kind, .string item, .int .i64 qty, .int .i64 dv, .int .i64 sq] 29 (0, 0))) := aCJ mP.out.ra; have bS : Hid (Below w.heap.size w (((((w4.setCell ⟨w.heap.size, 0, none⟩ (.int .i64 kind)).setCell ⟨w.heap.size, 1, none⟩ (.string item)).setCell ⟨w.heap.size, 2, none⟩ (.int .i64 qty)).setCell ⟨w.heap.size, 3, none⟩ (.int .i64 dv)).setCell ⟨w.heap.size, 4, none⟩ (.int .i64 sq))) := aCK mP.out.bel aRr; go_wp2
  clear c0 c1 c2 c3 c4 g0 g1 g2 g3 g4 f0 f1 f2 f3 f4; generalize (((((w4.setCell ⟨w.heap.size, 0, none⟩ (.int .i64 kind)).setCell ⟨w.heap.size, 1, none⟩ (.string item)).setCell ⟨w.heap.size, 2, none⟩ (.int .i64 qty)).setCell ⟨w.heap.size, 3, none⟩ (.int .i64 dv)).setCell ⟨w.heap.size, 4, none⟩ (.int .i64 sq)) = wf at HRf bS ⊢; obtain ⟨g0, g1, g2, g3, g4⟩ := gG HRf.out; exact bodyPost_ret (v := .agg #[.int .i64 kind, .string item, .int .i64 qty, .int .i64 dv, .int .i64 sq]) (by simp [results, Tryz.results19, go_sem, g0, g1, g2, g3, g4]) rfl ⟨kind, item, qty, dv, sq, hi, rfl, bS.out⟩
 ·go_wp2_with fail
  refine (zC w4 B g a len cap mP.out.rd 1 9 (by omega) (by omega) (by omega)).mono ?_
  rintro e w5 ⟨v, rfl, hg5, hr5⟩; have oG := aRp (mP.out.step hg5 hr5); have HC5 := aRp ((hg5.block cb (by omega) (by intro e; injection e with e; exact hcg e)).trans HC4.out)
  clear hg5 hr5 mP HC4; obtain ⟨d0, d1, d2, d3, d4⟩ := gG HC5.out; obtain ⟨e0, e1, e2, e3, e4⟩ := aAx HC5.out; have HC6 : Hid ((w5.setCell ⟨cb, 0, none⟩ (.int .i64 v)).heap[cb]? = some (.cells #[.int .i64 v, .string item, .int .i64 qty, .int .i64 dv, .int .i64 sq] 29 (0, 0))) := heap_setCell_same _ _ _ _ _ _ HC5.out; have HD6 : Hid (Dk w (w5.setCell ⟨cb, 0, none⟩ (.int .i64 v)) B g a len cap) := ⟨(heap_setCell_other _ _ _ _ (by show w.heap.size ≠ cb; omega)).trans oG.out.ra, oG.out.bel.setCell (p := ⟨cb, 0, none⟩) (by show w.heap.size ≤ cb; omega) _, oG.out.rd.kept fun k hk => heap_setCell_other _ _ _ _ (by show k ≠ cb; omega), oG.out.glt⟩
  go_upto_region 5 with fail
  generalize w5.setCell ⟨cb, 0, none⟩ (.int .i64 v) = w6 at HC6 HD6 ⊢; clear d0 d1 d2 d3 d4 e0 e1 e2 e3 e4 HC5 oG; obtain ⟨c0, c1, c2, c3, c4⟩ := gG HC6.out; obtain ⟨g0, g1, g2, g3, g4⟩ := gG HD6.out.ra; obtain ⟨f0, f1, f2, f3, f4⟩ := aAx HD6.out.ra; have HRf : Hid ((((((w6.setCell ⟨w.heap.size, 0, none⟩ (.int .i64 v)).setCell ⟨w.heap.size, 1, none⟩ (.string item)).setCell ⟨w.heap.size, 2, none⟩ (.int .i64 qty)).setCell ⟨w.heap.size, 3, none⟩ (.int .i64 dv)).setCell ⟨w.heap.size, 4, none⟩ (.int .i64 sq)).heap[w.heap.size]? = some (.cells #[.int .i64 v, .string item, .int .i64 qty, .int .i64 dv, .int .i64 sq] 29 (0, 0))) := aCJ HD6.out.ra; have bS : Hid (Below w.heap.size w (((((w6.setCell ⟨w.heap.size, 0, none⟩ (.int .i64 v)).setCell ⟨w.heap.size, 1, none⟩ (.string item)).setCell ⟨w.heap.size, 2, none⟩ (.int .i64 qty)).setCell ⟨w.heap.size, 3, none⟩ (.int .i64 dv)).setCell ⟨w.heap.size, 4, none⟩ (.int .i64 sq))) := aCK HD6.out.bel aRr; go_wp2
  clear c0 c1 c2 c3 c4 g0 g1 g2 g3 g4 f0 f1 f2 f3 f4; generalize (((((w6.setCell ⟨w.heap.size, 0, none⟩ (.int .i64 v)).setCell ⟨w.heap.size, 1, none⟩ (.string item)).setCell ⟨w.heap.size, 2, none⟩ (.int .i64 qty)).setCell ⟨w.heap.size, 3, none⟩ (.int .i64 dv)).setCell ⟨w.heap.size, 4, none⟩ (.int .i64 sq)) = wf at HRf bS ⊢; obtain ⟨g0, g1, g2, g3, g4⟩ := gG HRf.out; exact bodyPost_ret (v := .agg #[.int .i64 v, .string item, .int .i64 qty, .int .i64 dv, .int .i64 sq]) (by simp [results, Tryz.results19, go_sem, g0, g1, g2, g3, g4]) rfl ⟨v, item, qty, dv, sq, hi, rfl, bS.out⟩
set_option maxHeartbeats 80000000 in
theorem fnIssueWalk (E : Int → Addr) (a : Option Addr) (len cap : Nat) (bs : List Int) (w : World) (hE : eG w w.heap.size E) (h : IsRow .u8 w a len cap bs) :
  Calls Tryz.prog 3 #[.slice a len cap] w fun e w' => e = .returned (.bool true) ∧ Below w.heap.size w w' := by
 by_cases aBb : len ≤ 1048576
 rotate_left
 ·go_enter Tryz.func3, Tryz.ntmps3
  go_wp2_with fail
  refine (aIZ a len cap aBb w).mono ?_
  rintro e w' ⟨rfl, rfl⟩; go_wp2
  go_ret
  exact ⟨rfl, Below.refl _ _⟩
 have aCD := aRp (aBA h aBb)
 have gT := aRp hE
 clear h hE
 go_enter Tryz.func3, Tryz.ntmps3
 go_wp2_with fail
 refine (aK7 a len cap aBb w).mono ?_
 rintro e w' ⟨rfl, rfl⟩
 go_wp2_with fail
 refine (aDh w w.heap.size a len cap aRr aCD.out).mono ?_
 rintro e w0 ⟨⟨vK, vJ, vM, ano, vL⟩, dev, kind, item, qty, dv, sq, aEL, rfl, hx, bG⟩
 obtain ⟨xs, l, e1, a1, a2, a3, a4, a5, a6⟩ := hx
 have e1 : ano = l.length := e1
 subst e1
 have HE := aRp (gT.out.below bG aRr)
 clear gT
 have gT := HE
 clear HE
 have aFj := aRp a1.ints
 have aFv := aRp a2.ops
 have oJ := aRp bG
 have oH := aRp a3
 have nL := aRp a4
 have tW : item.size ≤ 1048576 := Nat.le_trans aEL (by omega)
 have J8 := aRp tW
 have HIa : Hid (∀ i, i < l.length → (aB l i).item.size ≤ 1048576) := fun i hi => Nat.le_trans (a5 i hi) (by omega)
 have lC := bG.size
 clear a1 a2 a3 a4 a5 bG aEL tW
 dsimp only
 go_upto_region 4 with fail
 have hT := aEY w0 #[.slice vK 4 vJ, .slice vM l.length vL] #[.int .i64 kind, .string item, .int .i64 qty, .int .i64 dv, .int .i64 sq] 27 29
 have U3 := aRp hT.1
 have T4 := aRp hT.2.1
 have hb := hT.2.2
 clear hT
 generalize (w0.alloc (.cells #[.slice vK 4 vJ, .slice vM l.length vL] 27)).alloc (.cells #[.int .i64 kind, .string item, .int .i64 qty, .int .i64 dv, .int .i64 sq] 29) = w1 at hb U3 T4 ⊢
 have eL := hb.size
 have aBq := bC hb aFj
 have aBs := bD hb aFv
 have dK := fV hb oJ
 have eQ := hU hb gT
 clear hb aFj aFv oJ gT
 obtain ⟨⟨k, zs, m⟩, hN⟩ : ∃ N, cD xs l dev kind item qty dv sq = N := ⟨_, rfl⟩
 have HN := aRp hN
 obtain ⟨hlz, hlm, hin, kU⟩ := wN hN
 have HI := aRp hin
 have HCt := aRp kU
 clear hN hin kU
 obtain ⟨lG, lF⟩ := pair_cells U3.out
 obtain ⟨x0, x1, x2, x3, x4⟩ := gG T4.out
 go_wp2_with fail
 have hc := zK w1 w1.heap.size E (eQ.out.more (by omega)) vK vM 4 vJ l.length vL xs l dev kind qty dv sq item (aBq.out.more (by omega)) (aBs.out.more (by omega)) aRr oH.out.1 nL.out (by omega) (by omega) J8.out
 rw [HN.out] at hc
 unfold r9 at hc
 dsimp only at hc
 refine hc.mono ?_
 clear hc
 rintro e w2 ⟨jL, gO, gQ, gP, cQ, rfl, gY, dY, yP, mH, bU, cC, hb⟩
 clear lG lF
 clear x0 x1 x2 x3 x4
 have gY := gY.more aRr mH
 have dY := dY.more yP aRr
 clear yP mH
 have aOD := aRp bU
 have aAg := aRp cC
 clear bU cC
 have eB := hb.size
 have aFi := bC hb aBq
 have aFu := bD hb aBs
 have cA := fV hb dK
 have dV := hU hb eQ
 have aFb := aU hb U3
 have aE8 := aU hb T4
 clear hb aBq aBs dK eQ U3 T4
 have aFg := aRp gY.ints
 have aFs := aRp dY.ops
 clear gY dY
 go_upto_region 5 with fail
 have hb : Below w2.heap.size w2 (w2.alloc (.cells #[.slice jL zs.length gO, .slice gQ m.length gP] 27)) := bl
 have aBn := aRp (bM (Below.refl _ (w2.alloc (.cells #[.slice jL zs.length gO, .slice gQ m.length gP] 27))))
 generalize w2.alloc (.cells #[.slice jL zs.length gO, .slice gQ m.length gP] 27) = w3 at hb aBn ⊢
 have iD := hb.size
 have aBp := bC hb aFi
 have aBr := bD hb aFu
 have dR := fV hb cA
 have HE3 := hU hb dV
 have aBo := aU hb aFb
 have aBm := aU hb aE8
 have aFf := bC hb aFg
 have aFr := bD hb aFs
 clear hb aFi aFu cA dV aFb aE8 aFg aFs
 obtain ⟨lG, lF⟩ := pair_cells aBo.out
 obtain ⟨x0, x1, x2, x3, x4⟩ := gG aBm.out
 go_wp2_with fail
 have hc := aBC w3 w3.heap.size vK vM 4 vJ l.length vL xs l kind qty dv sq item (aBp.out.more (by omega)) (aBr.out.more (by omega)) aRr oH.out nL.out J8.out dev HIa.out (by omega) (by omega)
 rw [HN.out] at hc
 unfold wC at hc
 dsimp only at hc
 refine hc.mono ?_
 clear hc
 rintro e w4 ⟨lO, lN, lQ, lP, rfl, gY, dY, hb, bU, cC⟩
 clear lG lF
 clear x0 x1 x2 x3 x4
 have aQo := aRp bU
 have aQr := aRp cC
 clear bU cC
 have vD := hb.size
 have aFh := bC hb aBp
 have aFt := bD hb aBr
 have iX := fV hb dR
 have yZ := hU hb HE3
 have aFa := aU hb aBo
 have aE7 := aU hb aBm
 have aFe := bC hb aFf
 have aFq := bD hb aFr
 have aE9 := aU hb aBn
 clear hb aBp aBr dR HE3 aBo aBm aFf aFr aBn
 have aFd := aRp gY.ints
 have aFp := aRp dY.ops
 clear gY dY
 go_upto_region 6 with fail
 have hb : Below w4.heap.size w4 (w4.alloc (.cells #[.slice lO zs.length lN, .slice lQ m.length lP] 27)) := bl
 have uJ := aRp (bM (Below.refl _ (w4.alloc (.cells #[.slice lO zs.length lN, .slice lQ m.length lP] 27))))
 generalize w4.alloc (.cells #[.slice lO zs.length lN, .slice lQ m.length lP] 27) = w5 at hb uJ ⊢
 have hs5 := hb.size
 have V0 := bC hb aFh
 have V6 := bD hb aFt
 have kL := fV hb iX
 have O9 := hU hb yZ
 have U2 := aU hb aFa
 have T2 := aU hb aE7
 have yE := bC hb aFe
 have yG := bD hb aFq
 have yC := aU hb aE9
 have yD := bC hb aFd
 have yF := bD hb aFp
 clear hb aFh aFt iX yZ aFa aE7 aFe aFq aE9 aFd aFp
 go_wp2_with fail
 refine (aIO w5 w.heap.size a len cap (by omega) (aHP aCD.out kL.out)).mono ?_
 rintro e w6 ⟨gU, gI, kB, pA, oZ, yhi, rfl, hb⟩
 have hyi : gI.size ≤ 1048576 := Nat.le_trans yhi (by omega)
 have HYi := aRp hyi
 clear yhi hyi
 have M9 := hb.size
 have E5 := bC hb V0
 have F0 := bD hb V6
 have eC := fV hb kL
 have Y5 := hU hb O9
 have E4 := aU hb U2
 have wE := aU hb T2
 have uR := bC hb yE
 have uU := bD hb yG
 have uL := aU hb yC
 have wG := bC hb yD
 have wH := bD hb yF
 have wF := aU hb uJ
 clear hb V0 V6 kL O9 U2 T2 yE yG yC yD yF uJ
 go_upto_region 7 with fail
 have hb : Below w6.heap.size w6 (w6.alloc (.cells #[.int .i64 gU, .string gI, .int .i64 kB, .int .i64 pA, .int .i64 oZ] 29)) := bl
 have hy := heap_alloc_new w6 (.cells #[.int .i64 gU, .string gI, .int .i64 kB, .int .i64 pA, .int .i64 oZ] 29)
 generalize w6.alloc (.cells #[.int .i64 gU, .string gI, .int .i64 kB, .int .i64 pA, .int .i64 oZ] 29) = w7 at hb hy ⊢
 have hs7 := hb.size
 have U9 := bC hb E5
 have V5 := bD hb F0
 have tB := fV hb eC
 have HE7 := hU hb Y5
 have U1 := aU hb E4
 have T1 := aU hb wE
 have U8 := bC hb uR
 have V4 := bD hb uU
 have T8 := aU hb uL
 have U5 := bC hb wG
 have V2 := bD hb wH
 have T6 := aU hb wF
 clear hb E5 F0 eC Y5 E4 wE uR uU uL wG wH wF
 have hyl : w6.heap.size < w7.heap.size := bT hy
 obtain ⟨y0, y1, y2, y3, y4⟩ := gG hy
 clear hy
 have aDG := aRp y0
 have aDF := aRp y1
 have aDE := aRp y2
 have aDD := aRp y3
 have aDC := aRp y4
 clear y0 y1 y2 y3 y4
 have hkk : (k != k) = false := bne_self_eq_false _
 have hke : (k == k) = true := beq_self_eq_true _
 obtain ⟨cb, hcb⟩ : ∃ b, fT gU gI kB pA oZ = b := ⟨_, rfl⟩
 have pW := aRp hcb
 clear hcb
 have aV : (cb != cb) = false := by cases cb <;> rfl
 have hbe : (cb == cb) = true := by cases cb <;> rfl
 by_cases hk1 : k = 1
 ·have hk1 := hk1
  subst hk1
  go_wp2_with fail
  obtain ⟨w8, mD⟩ : ∃ z, w7.drew = z := ⟨_, rfl⟩; have hb : Below w7.heap.size w7 w8 := by rw [← mD]; exact ⟨rfl, rfl, rfl, Nat.le_refl _, fun _ _ => rfl⟩
  have hs8 := hb.size; have x8 := bC hb U9; have aAd := bD hb V5; have Y7 := fV hb tB; have HE8 := hU hb HE7; have t7 := aU hb U1; have aBl := aU hb T1; have L2 := bC hb U8; have L3 := bD hb V4; have yB := aU hb T8; have U4 := bC hb U5; have V1 := bD hb V2; have E3 := aU hb T6; have T0 := cK hb aDG; have S8 := cK hb aDF; have S6 := cK hb aDE; have S4 := cK hb aDD; have S2 := cK hb aDC; clear hb U9 V5 tB HE7 U1 T1 U8 V4 T8 U5 V2 T6 aDG aDF aDE aDD aDC; have hS : w8.cell? ⟨w2.heap.size, 0, none⟩ = some (.slice jL zs.length gO) ∧ w8.cell? ⟨w2.heap.size, 1, none⟩ = some (.slice gQ m.length gP) ∧ w8.cell? ⟨w4.heap.size, 0, none⟩ = some (.slice lO zs.length lN) ∧ w8.cell? ⟨w4.heap.size, 1, none⟩ = some (.slice lQ m.length lP) ∧ w8.cell? ⟨w6.heap.size, 0, none⟩ = some (.int .i64 gU) ∧ w8.cell? ⟨w6.heap.size, 1, none⟩ = some (.string gI) ∧ w8.cell? ⟨w6.heap.size, 2, none⟩ = some (.int .i64 kB) ∧ w8.cell? ⟨w6.heap.size, 3, none⟩ = some (.int .i64 pA) ∧ w8.cell? ⟨w6.heap.size, 4, none⟩ = some (.int .i64 oZ) := ⟨(pair_cells yB.out).1, (pair_cells yB.out).2, (pair_cells E3.out).1, (pair_cells E3.out).2, T0.out, S8.out, S6.out, S4.out, S2.out⟩; refine wp_region_held_drew (S := fun w' => w'.cell? ⟨w2.heap.size, 0, none⟩ = some (.slice jL zs.length gO) ∧ w'.cell? ⟨w2.heap.size, 1, none⟩ = some (.slice gQ m.length gP) ∧ w'.cell? ⟨w4.heap.size, 0, none⟩ = some (.slice lO zs.length lN) ∧ w'.cell? ⟨w4.heap.size, 1, none⟩ = some (.slice lQ m.length lP) ∧ w'.cell? ⟨w6.heap.size, 0, none⟩ = some (.int .i64 gU) ∧ w'.cell? ⟨w6.heap.size, 1, none⟩ = some (.string gI) ∧ w'.cell? ⟨w6.heap.size, 2, none⟩ = some (.int .i64 kB) ∧ w'.cell? ⟨w6.heap.size, 3, none⟩ = some (.int .i64 pA) ∧ w'.cell? ⟨w6.heap.size, 4, none⟩ = some (.int .i64 oZ)) (by kernel_rfl) (by rw [mD]; exact hS) (fun aO => ?_)
  rw [mD]; clear aO mD; refine tk 0 ⟨some 35, .load 27 (.tmp 6), 27, "laws.go:419", #[], none⟩ ?_
  (try simp only [Act.put, u1, u2, u3])
  refine tk 1 ⟨some 36, .load 27 (.tmp 8), 27, "laws.go:419", #[], none⟩ ?_
  (try simp only [Act.put, u1, u2, u3])
  refine rk 2 rfl (fun K hK => ?_)
  go_simp
  go_at_call 20
  refine (mV w8 w8.heap.size jL gQ lO lQ zs.length gO m.length gP zs.length lN m.length lP zs m zs m (L2.out.more (by omega)) (L3.out.more (by omega)) (U4.out.more (by omega)) (V1.out.more (by omega)) aRr (by omega) (by omega) (by omega) (by omega)).mono ?_
  rintro e w9 ⟨rfl, hb⟩; rw [decide_eq_true rfl, decide_eq_true rfl]; have qJ := hb.size; have v8 := bC hb x8; have aAc := bD hb aAd; have xU := fV hb Y7; have HE9 := hU hb HE8; have t6 := aU hb t7; have aE6 := aU hb aBl; have u9 := bC hb L2; have aAb := bD hb L3; have yA := aU hb yB; have aFc := bC hb U4; have aFo := bD hb V1; have T5 := aU hb E3; have S9 := cK hb T0; have S7 := cK hb S8; have S5 := cK hb S6; have S3 := cK hb S4; have S1 := cK hb S2; clear hb x8 aAd Y7 HE8 t7 aBl L2 L3 yB U4 V1 E3 T0 S8 S6 S4 S2; have eD : w9.cell? ⟨w2.heap.size, 0, none⟩ = some (.slice jL zs.length gO) ∧ w9.cell? ⟨w2.heap.size, 1, none⟩ = some (.slice gQ m.length gP) ∧ w9.cell? ⟨w4.heap.size, 0, none⟩ = some (.slice lO zs.length lN) ∧ w9.cell? ⟨w4.heap.size, 1, none⟩ = some (.slice lQ m.length lP) ∧ w9.cell? ⟨w6.heap.size, 0, none⟩ = some (.int .i64 gU) ∧ w9.cell? ⟨w6.heap.size, 1, none⟩ = some (.string gI) ∧ w9.cell? ⟨w6.heap.size, 2, none⟩ = some (.int .i64 kB) ∧ w9.cell? ⟨w6.heap.size, 3, none⟩ = some (.int .i64 pA) ∧ w9.cell? ⟨w6.heap.size, 4, none⟩ = some (.int .i64 oZ) := ⟨(pair_cells yA.out).1, (pair_cells yA.out).2, (pair_cells T5.out).1, (pair_cells T5.out).2, S9.out, S7.out, S5.out, S3.out, S1.out⟩; refine hK.out _ _ eD (fun dG => ?_)
  clear hK K
  (try simp only [Act.put, u1, u2, u3])
  clear dG; refine tk 3 ⟨some 38, .unOp .not 4 (.tmp 37), 4, "laws.go:419", #[⟨2, .data⟩], none⟩ ?_
  (try simp only [Act.put, u1, u2, u3])
  refine tk 4 ⟨some 39, .move (.tmp 38), 4, "laws.go:419", #[⟨3, .data⟩, ⟨2, .chain⟩], none⟩ ?_
  (try simp only [Act.put, u1, u2, u3])
  refine tk 5 ⟨some 40, .move (.tmp 7), 2, "laws.go:419", #[⟨4, .guard⟩], some (4, false)⟩ ?_
  (try simp only [Act.put, u1, u2, u3])
  refine tk 6 ⟨some 41, .move (.tmp 9), 2, "laws.go:419", #[⟨4, .guard⟩], some (4, false)⟩ ?_
  (try simp only [Act.put, u1, u2, u3])
  refine tk 7 ⟨some 42, .binOp .neq 2 (.tmp 40) (.tmp 41) 2, 4, "laws.go:419", #[⟨5, .data⟩, ⟨6, .data⟩, ⟨4, .guard⟩], some (4, false)⟩ ?_
  (try simp only [Act.put, u1, u2, u3])
  refine tk 8 ⟨some 43, .pick (.tmp 39) (.const (Value.bool true)) (.tmp 42), 4, "laws.go:419", #[⟨4, .data⟩, ⟨7, .data⟩], none⟩ ?_
  (try simp only [Act.put, u1, u2, u3])
  refine tk 9 ⟨some 44, .move (.tmp 43), 4, "laws.go:419", #[⟨8, .data⟩, ⟨4, .chain⟩], none⟩ ?_
  (try simp only [Act.put, u1, u2, u3])
  refine tk 10 ⟨some 45, .load 29 (.tmp 10), 29, "laws.go:419", #[⟨9, .guard⟩], some (9, false)⟩ ?_
  (try simp only [Act.put, u1, u2, u3])
  refine tk 12 ⟨some 47, .load 29 (.tmp 10), 29, "laws.go:419", #[⟨9, .guard⟩], some (9, false)⟩ ?_
  (try simp only [Act.put, u1, u2, u3])
  refine rk 11 rfl (fun K hK => ?_)
  go_simp
  go_at_call 21
  refine (M7 gU gI kB pA oZ w9).mono ?_
  rintro e pN ⟨rfl, hb⟩; rw [pW.out]; have aNn := hb.size; have I8 := bC hb v8; have J5 := bD hb aAc; have aAi := fV hb xU; have aAf := hU hb HE9; have I6 := aU hb t6; have aCd := aU hb aE6; have I7 := bC hb u9; have J3 := bD hb aAb; have rV := aU hb yA; have aCh := bC hb aFc; have aCj := bD hb aFo; have zP := aU hb T5; have E2 := cK hb S9; have E0 := cK hb S7; have D8 := cK hb S5; have D6 := cK hb S3; have D4 := cK hb S1; clear hb v8 aAc xU HE9 t6 aE6 u9 aAb yA aFc aFo T5 S9 S7 S5 S3 S1; have X4 : pN.cell? ⟨w2.heap.size, 0, none⟩ = some (.slice jL zs.length gO) ∧ pN.cell? ⟨w2.heap.size, 1, none⟩ = some (.slice gQ m.length gP) ∧ pN.cell? ⟨w4.heap.size, 0, none⟩ = some (.slice lO zs.length lN) ∧ pN.cell? ⟨w4.heap.size, 1, none⟩ = some (.slice lQ m.length lP) ∧ pN.cell? ⟨w6.heap.size, 0, none⟩ = some (.int .i64 gU) ∧ pN.cell? ⟨w6.heap.size, 1, none⟩ = some (.string gI) ∧ pN.cell? ⟨w6.heap.size, 2, none⟩ = some (.int .i64 kB) ∧ pN.cell? ⟨w6.heap.size, 3, none⟩ = some (.int .i64 pA) ∧ pN.cell? ⟨w6.heap.size, 4, none⟩ = some (.int .i64 oZ) := ⟨(pair_cells rV.out).1, (pair_cells rV.out).2, (pair_cells zP.out).1, (pair_cells zP.out).2, E2.out, E0.out, D8.out, D6.out, D4.out⟩; refine hK.out _ _ X4 (fun jU => ?_)
  clear hK K
  (try simp only [Act.put, u1, u2, u3])
  clear jU; refine rk 13 rfl (fun K hK => ?_)
  go_simp
  go_at_call 22
  refine (aAn gU gI kB pA oZ HYi.out pN).mono ?_
  rintro e lM ⟨rfl, hb⟩; rw [pW.out]; have aNm := hb.size; have uT := bC hb I8; have uX := bD hb J5; have L6 := fV hb aAi; have L4 := hU hb aAf; have uP := aU hb I6; have T3 := aU hb aCd; have rX := bC hb I7; have rY := bD hb J3; have nQ := aU hb rV; have U7 := bC hb aCh; have V3 := bD hb aCj; have uK := aU hb zP; have uI := cK hb E2; have uH := cK hb E0; have uG := cK hb D8; have uF := cK hb D6; have uD := cK hb D4; clear hb I8 J5 aAi aAf I6 aCd I7 J3 rV aCh aCj zP E2 E0 D8 D6 D4; have X3 : lM.cell? ⟨w2.heap.size, 0, none⟩ = some (.slice jL zs.length gO) ∧ lM.cell? ⟨w2.heap.size, 1, none⟩ = some (.slice gQ m.length gP) ∧ lM.cell? ⟨w4.heap.size, 0, none⟩ = some (.slice lO zs.length lN) ∧ lM.cell? ⟨w4.heap.size, 1, none⟩ = some (.slice lQ m.length lP) ∧ lM.cell? ⟨w6.heap.size, 0, none⟩ = some (.int .i64 gU) ∧ lM.cell? ⟨w6.heap.size, 1, none⟩ = some (.string gI) ∧ lM.cell? ⟨w6.heap.size, 2, none⟩ = some (.int .i64 kB) ∧ lM.cell? ⟨w6.heap.size, 3, none⟩ = some (.int .i64 pA) ∧ lM.cell? ⟨w6.heap.size, 4, none⟩ = some (.int .i64 oZ) := ⟨(pair_cells nQ.out).1, (pair_cells nQ.out).2, (pair_cells uK.out).1, (pair_cells uK.out).2, uI.out, uH.out, uG.out, uF.out, uD.out⟩; refine hK.out _ _ X3 (fun iE => ?_)
  clear hK K
  (try simp only [Act.put, u1, u2, u3])
  clear iE; refine tk 14 ⟨some 49, .binOp .neq 4 (.tmp 46) (.tmp 48) 4, 4, "laws.go:419", #[⟨11, .data⟩, ⟨13, .data⟩, ⟨9, .guard⟩], some (9, false)⟩ ?_
  (try simp only [Act.put, u1, u2, u3])
  refine tk 15 ⟨some 50, .pick (.tmp 44) (.const (Value.bool true)) (.tmp 49), 4, "laws.go:419", #[⟨9, .data⟩, ⟨14, .data⟩], none⟩ ?_
  (try simp only [Act.put, u1, u2, u3])
  refine tk 16 ⟨some 51, .move (.tmp 50), 4, "laws.go:419", #[⟨15, .data⟩, ⟨13, .chain⟩], none⟩ ?_
  (try simp only [Act.put, u1, u2, u3])
  refine tk 17 ⟨some 52, .move (.tmp 7), 2, "laws.go:419", #[⟨16, .guard⟩], some (16, false)⟩ ?_
  (try simp only [Act.put, u1, u2, u3])
  refine tk 18 ⟨some 53, .binOp .eql 2 (.tmp 52) (.const (Value.int IntKind.i64 1)) 2, 4, "laws.go:419", #[⟨17, .data⟩, ⟨16, .guard⟩], some (16, false)⟩ ?_
  (try simp only [Act.put, u1, u2, u3])
  refine tk 19 ⟨some 54, .pick (.tmp 51) (.const (Value.bool true)) (.tmp 53), 4, "laws.go:419", #[⟨16, .data⟩, ⟨18, .data⟩], none⟩ ?_
  (try simp only [Act.put, u1, u2, u3])
  refine wpAnyH_done (by kernel_rfl) ?_ _
  go_wp2_with fail
  obtain ⟨gC, mD⟩ : ∃ z, lM.drew = z := ⟨_, rfl⟩; have hb : Below lM.heap.size lM gC := by rw [← mD]; exact ⟨rfl, rfl, rfl, Nat.le_refl _, fun _ _ => rfl⟩
  have Q6 := hb.size; have wR := bC hb uT; have wT := bD hb uX; have L5 := fV hb L6; have V9 := hU hb L4; have rW := aU hb uP; have aAD := aU hb T3; have uS := bC hb rX; have uV := bD hb rY; have rU := aU hb nQ; have U6 := bC hb U7; have nR := bD hb V3; have I3 := aU hb uK; have E1 := cK hb uI; have D9 := cK hb uH; have D7 := cK hb uG; have D5 := cK hb uF; have D3 := cK hb uD; clear hb uT uX L6 L4 uP T3 rX rY nQ U7 V3 uK uI uH uG uF uD; have hS : gC.cell? ⟨w2.heap.size, 0, none⟩ = some (.slice jL zs.length gO) ∧ gC.cell? ⟨w2.heap.size, 1, none⟩ = some (.slice gQ m.length gP) ∧ gC.cell? ⟨w4.heap.size, 0, none⟩ = some (.slice lO zs.length lN) ∧ gC.cell? ⟨w4.heap.size, 1, none⟩ = some (.slice lQ m.length lP) ∧ gC.cell? ⟨w6.heap.size, 0, none⟩ = some (.int .i64 gU) ∧ gC.cell? ⟨w6.heap.size, 1, none⟩ = some (.string gI) ∧ gC.cell? ⟨w6.heap.size, 2, none⟩ = some (.int .i64 kB) ∧ gC.cell? ⟨w6.heap.size, 3, none⟩ = some (.int .i64 pA) ∧ gC.cell? ⟨w6.heap.size, 4, none⟩ = some (.int .i64 oZ) := ⟨(pair_cells rU.out).1, (pair_cells rU.out).2, (pair_cells I3.out).1, (pair_cells I3.out).2, E1.out, D9.out, D7.out, D5.out, D3.out⟩; refine wp_region_held_drew (S := fun w' => w'.cell? ⟨w2.heap.size, 0, none⟩ = some (.slice jL zs.length gO) ∧ w'.cell? ⟨w2.heap.size, 1, none⟩ = some (.slice gQ m.length gP) ∧ w'.cell? ⟨w4.heap.size, 0, none⟩ = some (.slice lO zs.length lN) ∧ w'.cell? ⟨w4.heap.size, 1, none⟩ = some (.slice lQ m.length lP) ∧ w'.cell? ⟨w6.heap.size, 0, none⟩ = some (.int .i64 gU) ∧ w'.cell? ⟨w6.heap.size, 1, none⟩ = some (.string gI) ∧ w'.cell? ⟨w6.heap.size, 2, none⟩ = some (.int .i64 kB) ∧ w'.cell? ⟨w6.heap.size, 3, none⟩ = some (.int .i64 pA) ∧ w'.cell? ⟨w6.heap.size, 4, none⟩ = some (.int .i64 oZ)) (by kernel_rfl) (by rw [mD]; exact hS) (fun aO => ?_)
  rw [mD]; clear aO mD; refine tk 0 ⟨some 55, .load 27 (.tmp 6), 27, "laws.go:420", #[], none⟩ ?_
  (try simp only [Act.put, u1, u2, u3])
  refine tk 1 ⟨some 56, .load 27 (.tmp 8), 27, "laws.go:420", #[], none⟩ ?_
  (try simp only [Act.put, u1, u2, u3])
  refine rk 2 rfl (fun K hK => ?_)
  go_simp
  go_at_call 20
  refine (mV gC gC.heap.size jL gQ lO lQ zs.length gO m.length gP zs.length lN m.length lP zs m zs m (uS.out.more (by omega)) (uV.out.more (by omega)) (U6.out.more (by omega)) (nR.out.more (by omega)) aRr (by omega) (by omega) (by omega) (by omega)).mono ?_
  rintro e sJ ⟨rfl, hb⟩; rw [decide_eq_true rfl, decide_eq_true rfl]; have aNl := hb.size; have wQ := bC hb wR; have wS := bD hb wT; have aAh := fV hb L5; have aAe := hU hb V9; have uO := aU hb rW; have aCc := aU hb aAD; have zQ := bC hb uS; have zS := bD hb uV; have uM := aU hb rU; have aCg := bC hb U6; have aCi := bD hb nR; have T7 := aU hb I3; have O5 := cK hb E1; have O4 := cK hb D9; have O3 := cK hb D7; have O2 := cK hb D5; have O1 := cK hb D3; clear hb wR wT L5 V9 rW aAD uS uV rU U6 nR I3 E1 D9 D7 D5 D3; have eD : sJ.cell? ⟨w2.heap.size, 0, none⟩ = some (.slice jL zs.length gO) ∧ sJ.cell? ⟨w2.heap.size, 1, none⟩ = some (.slice gQ m.length gP) ∧ sJ.cell? ⟨w4.heap.size, 0, none⟩ = some (.slice lO zs.length lN) ∧ sJ.cell? ⟨w4.heap.size, 1, none⟩ = some (.slice lQ m.length lP) ∧ sJ.cell? ⟨w6.heap.size, 0, none⟩ = some (.int .i64 gU) ∧ sJ.cell? ⟨w6.heap.size, 1, none⟩ = some (.string gI) ∧ sJ.cell? ⟨w6.heap.size, 2, none⟩ = some (.int .i64 kB) ∧ sJ.cell? ⟨w6.heap.size, 3, none⟩ = some (.int .i64 pA) ∧ sJ.cell? ⟨w6.heap.size, 4, none⟩ = some (.int .i64 oZ) := ⟨(pair_cells uM.out).1, (pair_cells uM.out).2, (pair_cells T7.out).1, (pair_cells T7.out).2, O5.out, O4.out, O3.out, O2.out, O1.out⟩; refine hK.out _ _ eD (fun dG => ?_)
  clear hK K
  (try simp only [Act.put, u1, u2, u3])
  clear dG; refine tk 3 ⟨some 58, .move (.tmp 57), 4, "laws.go:420", #[⟨2, .data⟩, ⟨2, .chain⟩], none⟩ ?_
  (try simp only [Act.put, u1, u2, u3])
  refine tk 4 ⟨some 59, .move (.tmp 7), 2, "laws.go:420", #[⟨3, .guard⟩], some (3, true)⟩ ?_
  (try simp only [Act.put, u1, u2, u3])
  refine tk 5 ⟨some 60, .move (.tmp 9), 2, "laws.go:420", #[⟨3, .guard⟩], some (3, true)⟩ ?_
  (try simp only [Act.put, u1, u2, u3])
  refine tk 6 ⟨some 61, .binOp .eql 2 (.tmp 59) (.tmp 60) 2, 4, "laws.go:420", #[⟨4, .data⟩, ⟨5, .data⟩, ⟨3, .guard⟩], some (3, true)⟩ ?_
  (try simp only [Act.put, u1, u2, u3])
  refine tk 7 ⟨some 62, .pick (.tmp 58) (.tmp 61) (.const (Value.bool false)), 4, "laws.go:420", #[⟨3, .data⟩, ⟨6, .data⟩], none⟩ ?_
  (try simp only [Act.put, u1, u2, u3])
  refine tk 8 ⟨some 63, .move (.tmp 62), 4, "laws.go:420", #[⟨7, .data⟩, ⟨3, .chain⟩], none⟩ ?_
  (try simp only [Act.put, u1, u2, u3])
  refine tk 9 ⟨some 64, .load 29 (.tmp 10), 29, "laws.go:420", #[⟨8, .guard⟩], some (8, true)⟩ ?_
  (try simp only [Act.put, u1, u2, u3])
  refine tk 11 ⟨some 66, .load 29 (.tmp 10), 29, "laws.go:420", #[⟨8, .guard⟩], some (8, true)⟩ ?_
  (try simp only [Act.put, u1, u2, u3])
  refine rk 10 rfl (fun K hK => ?_)
  go_simp
  go_at_call 21
  refine (M7 gU gI kB pA oZ sJ).mono ?_
  rintro e tE ⟨rfl, hb⟩; rw [pW.out]; have aNk := hb.size; have aAG := bC hb wQ; have aAI := bD hb wS; have aBv := fV hb aAh; have aCR := hU hb aAe; have I5 := aU hb uO; have aHf := aU hb aCc; have aAF := bC hb zQ; have aAH := bD hb zS; have I4 := aU hb uM; have aHm := bC hb aCg; have aHu := bD hb aCi; have aCe := aU hb T7; have aCb := cK hb O5; have aCa := cK hb O4; have aB9 := cK hb O3; have aB8 := cK hb O2; have aB7 := cK hb O1; clear hb wQ wS aAh aAe uO aCc zQ zS uM aCg aCi T7 O5 O4 O3 O2 O1; have X4 : tE.cell? ⟨w2.heap.size, 0, none⟩ = some (.slice jL zs.length gO) ∧ tE.cell? ⟨w2.heap.size, 1, none⟩ = some (.slice gQ m.length gP) ∧ tE.cell? ⟨w4.heap.size, 0, none⟩ = some (.slice lO zs.length lN) ∧ tE.cell? ⟨w4.heap.size, 1, none⟩ = some (.slice lQ m.length lP) ∧ tE.cell? ⟨w6.heap.size, 0, none⟩ = some (.int .i64 gU) ∧ tE.cell? ⟨w6.heap.size, 1, none⟩ = some (.string gI) ∧ tE.cell? ⟨w6.heap.size, 2, none⟩ = some (.int .i64 kB) ∧ tE.cell? ⟨w6.heap.size, 3, none⟩ = some (.int .i64 pA) ∧ tE.cell? ⟨w6.heap.size, 4, none⟩ = some (.int .i64 oZ) := ⟨(pair_cells I4.out).1, (pair_cells I4.out).2, (pair_cells aCe.out).1, (pair_cells aCe.out).2, aCb.out, aCa.out, aB9.out, aB8.out, aB7.out⟩; refine hK.out _ _ X4 (fun jU => ?_)
  clear hK K
  (try simp only [Act.put, u1, u2, u3])
  clear jU; refine rk 12 rfl (fun K hK => ?_)
  go_simp
  go_at_call 22
  refine (aAn gU gI kB pA oZ HYi.out tE).mono ?_
  rintro e sI ⟨rfl, hb⟩; rw [pW.out]; have aPC := hb.size; have aLr := bC hb aAG; have aLF := bD hb aAI; have aCS := fV hb aBv; have aOC := hU hb aCR; have aDP := aU hb I5; have aQy := aU hb aHf; have aAE := bC hb aAF; have aCk := bD hb aAH; have U0 := aU hb I4; have aQz := bC hb aHm; have aQC := bD hb aHu; have aK9 := aU hb aCe; have aN4 := cK hb aCb; have aN3 := cK hb aCa; have aN2 := cK hb aB9; have aN1 := cK hb aB8; have aN0 := cK hb aB7; clear hb aAG aAI aBv aCR I5 aHf aAF aAH I4 aHm aHu aCe aCb aCa aB9 aB8 aB7; have X3 : sI.cell? ⟨w2.heap.size, 0, none⟩ = some (.slice jL zs.length gO) ∧ sI.cell? ⟨w2.heap.size, 1, none⟩ = some (.slice gQ m.length gP) ∧ sI.cell? ⟨w4.heap.size, 0, none⟩ = some (.slice lO zs.length lN) ∧ sI.cell? ⟨w4.heap.size, 1, none⟩ = some (.slice lQ m.length lP) ∧ sI.cell? ⟨w6.heap.size, 0, none⟩ = some (.int .i64 gU) ∧ sI.cell? ⟨w6.heap.size, 1, none⟩ = some (.string gI) ∧ sI.cell? ⟨w6.heap.size, 2, none⟩ = some (.int .i64 kB) ∧ sI.cell? ⟨w6.heap.size, 3, none⟩ = some (.int .i64 pA) ∧ sI.cell? ⟨w6.heap.size, 4, none⟩ = some (.int .i64 oZ) := ⟨(pair_cells U0.out).1, (pair_cells U0.out).2, (pair_cells aK9.out).1, (pair_cells aK9.out).2, aN4.out, aN3.out, aN2.out, aN1.out, aN0.out⟩; refine hK.out _ _ X3 (fun iE => ?_)
  clear hK K
  (try simp only [Act.put, u1, u2, u3])
  clear iE; refine tk 13 ⟨some 68, .binOp .eql 4 (.tmp 65) (.tmp 67) 4, 4, "laws.go:420", #[⟨10, .data⟩, ⟨12, .data⟩, ⟨8, .guard⟩], some (8, true)⟩ ?_
  (try simp only [Act.put, u1, u2, u3])
  refine tk 14 ⟨some 69, .pick (.tmp 63) (.tmp 68) (.const (Value.bool false)), 4, "laws.go:420", #[⟨8, .data⟩, ⟨13, .data⟩], none⟩ ?_
  (try simp only [Act.put, u1, u2, u3])
  refine tk 15 ⟨some 2, .assign (.tmp 69), 4, "laws.go:420", #[⟨14, .data⟩, ⟨12, .chain⟩, ⟨0, .phase⟩, ⟨1, .phase⟩, ⟨2, .phase⟩, ⟨3, .phase⟩, ⟨4, .phase⟩, ⟨5, .phase⟩, ⟨6, .phase⟩, ⟨7, .phase⟩, ⟨8, .phase⟩, ⟨9, .phase⟩, ⟨10, .phase⟩, ⟨11, .phase⟩, ⟨12, .phase⟩, ⟨13, .phase⟩, ⟨14, .phase⟩], none⟩ ?_
  (try simp only [Act.put, u1, u2, u3])
  refine wpAnyH_done (by kernel_rfl) ?_ _
  go_wp2
  go_ret
  exact ⟨rfl, aCS.out⟩
 have aQ4 : (k == 1) = false := by simp [hk1]
 go_wp2_with fail
 obtain ⟨w8, mD⟩ : ∃ z, w7.drew = z := ⟨_, rfl⟩
 have hb : Below w7.heap.size w7 w8 := by rw [← mD]; exact ⟨rfl, rfl, rfl, Nat.le_refl _, fun _ _ => rfl⟩
 have hs8 := hb.size
 have x8 := bC hb U9
 have aAd := bD hb V5
 have Y7 := fV hb tB
 have HE8 := hU hb HE7
 have t7 := aU hb U1
 have aBl := aU hb T1
 have L2 := bC hb U8
 have L3 := bD hb V4
 have yB := aU hb T8
 have U4 := bC hb U5
 have V1 := bD hb V2
 have E3 := aU hb T6
 have T0 := cK hb aDG
 have S8 := cK hb aDF
 have S6 := cK hb aDE
 have S4 := cK hb aDD
 have S2 := cK hb aDC
 clear hb U9 V5 tB HE7 U1 T1 U8 V4 T8 U5 V2 T6 aDG aDF aDE aDD aDC
 have hS : w8.cell? ⟨w2.heap.size, 0, none⟩ = some (.slice jL zs.length gO) ∧ w8.cell? ⟨w2.heap.size, 1, none⟩ = some (.slice gQ m.length gP) ∧ w8.cell? ⟨w4.heap.size, 0, none⟩ = some (.slice lO zs.length lN) ∧ w8.cell? ⟨w4.heap.size, 1, none⟩ = some (.slice lQ m.length lP) ∧ w8.cell? ⟨w6.heap.size, 0, none⟩ = some (.int .i64 gU) ∧ w8.cell? ⟨w6.heap.size, 1, none⟩ = some (.string gI) ∧ w8.cell? ⟨w6.heap.size, 2, none⟩ = some (.int .i64 kB) ∧ w8.cell? ⟨w6.heap.size, 3, none⟩ = some (.int .i64 pA) ∧ w8.cell? ⟨w6.heap.size, 4, none⟩ = some (.int .i64 oZ) := ⟨(pair_cells yB.out).1, (pair_cells yB.out).2, (pair_cells E3.out).1, (pair_cells E3.out).2, T0.out, S8.out, S6.out, S4.out, S2.out⟩
 refine wp_region_held_drew (S := fun w' => w'.cell? ⟨w2.heap.size, 0, none⟩ = some (.slice jL zs.length gO) ∧ w'.cell? ⟨w2.heap.size, 1, none⟩ = some (.slice gQ m.length gP) ∧ w'.cell? ⟨w4.heap.size, 0, none⟩ = some (.slice lO zs.length lN) ∧ w'.cell? ⟨w4.heap.size, 1, none⟩ = some (.slice lQ m.length lP) ∧ w'.cell? ⟨w6.heap.size, 0, none⟩ = some (.int .i64 gU) ∧ w'.cell? ⟨w6.heap.size, 1, none⟩ = some (.string gI) ∧ w'.cell? ⟨w6.heap.size, 2, none⟩ = some (.int .i64 kB) ∧ w'.cell? ⟨w6.heap.size, 3, none⟩ = some (.int .i64 pA) ∧ w'.cell? ⟨w6.heap.size, 4, none⟩ = some (.int .i64 oZ)) (by kernel_rfl) (by rw [mD]; exact hS) (fun aO => ?_)
 rw [mD]
 clear aO mD
 refine tk 0 ⟨some 35, .load 27 (.tmp 6), 27, "laws.go:419", #[], none⟩ ?_
 (try simp only [Act.put, u1, u2, u3])
 refine tk 1 ⟨some 36, .load 27 (.tmp 8), 27, "laws.go:419", #[], none⟩ ?_
 (try simp only [Act.put, u1, u2, u3])
 refine rk 2 rfl (fun K hK => ?_)
 go_simp
 go_at_call 20
 refine (mV w8 w8.heap.size jL gQ lO lQ zs.length gO m.length gP zs.length lN m.length lP zs m zs m (L2.out.more (by omega)) (L3.out.more (by omega)) (U4.out.more (by omega)) (V1.out.more (by omega)) aRr (by omega) (by omega) (by omega) (by omega)).mono ?_
 rintro e w9 ⟨rfl, hb⟩
 rw [decide_eq_true rfl, decide_eq_true rfl]
 have qJ := hb.size
 have v8 := bC hb x8
 have aAc := bD hb aAd
 have xU := fV hb Y7
 have HE9 := hU hb HE8
 have t6 := aU hb t7
 have aE6 := aU hb aBl
 have u9 := bC hb L2
 have aAb := bD hb L3
 have yA := aU hb yB
 have aFc := bC hb U4
 have aFo := bD hb V1
 have T5 := aU hb E3
 have S9 := cK hb T0
 have S7 := cK hb S8
 have S5 := cK hb S6
 have S3 := cK hb S4
 have S1 := cK hb S2
 clear hb x8 aAd Y7 HE8 t7 aBl L2 L3 yB U4 V1 E3 T0 S8 S6 S4 S2
 have eD : w9.cell? ⟨w2.heap.size, 0, none⟩ = some (.slice jL zs.length gO) ∧ w9.cell? ⟨w2.heap.size, 1, none⟩ = some (.slice gQ m.length gP) ∧ w9.cell? ⟨w4.heap.size, 0, none⟩ = some (.slice lO zs.length lN) ∧ w9.cell? ⟨w4.heap.size, 1, none⟩ = some (.slice lQ m.length lP) ∧ w9.cell? ⟨w6.heap.size, 0, none⟩ = some (.int .i64 gU) ∧ w9.cell? ⟨w6.heap.size, 1, none⟩ = some (.string gI) ∧ w9.cell? ⟨w6.heap.size, 2, none⟩ = some (.int .i64 kB) ∧ w9.cell? ⟨w6.heap.size, 3, none⟩ = some (.int .i64 pA) ∧ w9.cell? ⟨w6.heap.size, 4, none⟩ = some (.int .i64 oZ) := ⟨(pair_cells yA.out).1, (pair_cells yA.out).2, (pair_cells T5.out).1, (pair_cells T5.out).2, S9.out, S7.out, S5.out, S3.out, S1.out⟩
 refine hK.out _ _ eD (fun dG => ?_)
 clear hK K
 (try simp only [Act.put, u1, u2, u3])
 clear dG
 refine tk 3 ⟨some 38, .unOp .not 4 (.tmp 37), 4, "laws.go:419", #[⟨2, .data⟩], none⟩ ?_
 (try simp only [Act.put, u1, u2, u3])
 refine tk 4 ⟨some 39, .move (.tmp 38), 4, "laws.go:419", #[⟨3, .data⟩, ⟨2, .chain⟩], none⟩ ?_
 (try simp only [Act.put, u1, u2, u3])
 refine tk 5 ⟨some 40, .move (.tmp 7), 2, "laws.go:419", #[⟨4, .guard⟩], some (4, false)⟩ ?_
 (try simp only [Act.put, u1, u2, u3])
 refine tk 6 ⟨some 41, .move (.tmp 9), 2, "laws.go:419", #[⟨4, .guard⟩], some (4, false)⟩ ?_
 (try simp only [Act.put, u1, u2, u3])
 refine tk 7 ⟨some 42, .binOp .neq 2 (.tmp 40) (.tmp 41) 2, 4, "laws.go:419", #[⟨5, .data⟩, ⟨6, .data⟩, ⟨4, .guard⟩], some (4, false)⟩ ?_
 (try simp only [Act.put, u1, u2, u3])
 refine tk 8 ⟨some 43, .pick (.tmp 39) (.const (Value.bool true)) (.tmp 42), 4, "laws.go:419", #[⟨4, .data⟩, ⟨7, .data⟩], none⟩ ?_
 (try simp only [Act.put, u1, u2, u3])
 refine tk 9 ⟨some 44, .move (.tmp 43), 4, "laws.go:419", #[⟨8, .data⟩, ⟨4, .chain⟩], none⟩ ?_
 (try simp only [Act.put, u1, u2, u3])
 refine tk 10 ⟨some 45, .load 29 (.tmp 10), 29, "laws.go:419", #[⟨9, .guard⟩], some (9, false)⟩ ?_
 (try simp only [Act.put, u1, u2, u3])
 refine tk 12 ⟨some 47, .load 29 (.tmp 10), 29, "laws.go:419", #[⟨9, .guard⟩], some (9, false)⟩ ?_
 (try simp only [Act.put, u1, u2, u3])
 refine rk 11 rfl (fun K hK => ?_)
 go_simp
 go_at_call 21
 refine (M7 gU gI kB pA oZ w9).mono ?_
 rintro e pN ⟨rfl, hb⟩
 rw [pW.out]
 have aNn := hb.size
 have I8 := bC hb v8
 have J5 := bD hb aAc
 have aAi := fV hb xU
 have aAf := hU hb HE9
 have I6 := aU hb t6
 have aCd := aU hb aE6
 have I7 := bC hb u9
 have J3 := bD hb aAb
 have rV := aU hb yA
 have aCh := bC hb aFc
 have aCj := bD hb aFo
 have zP := aU hb T5
 have E2 := cK hb S9
 have E0 := cK hb S7
 have D8 := cK hb S5
 have D6 := cK hb S3
 have D4 := cK hb S1
 clear hb v8 aAc xU HE9 t6 aE6 u9 aAb yA aFc aFo T5 S9 S7 S5 S3 S1
 have X4 : pN.cell? ⟨w2.heap.size, 0, none⟩ = some (.slice jL zs.length gO) ∧ pN.cell? ⟨w2.heap.size, 1, none⟩ = some (.slice gQ m.length gP) ∧ pN.cell? ⟨w4.heap.size, 0, none⟩ = some (.slice lO zs.length lN) ∧ pN.cell? ⟨w4.heap.size, 1, none⟩ = some (.slice lQ m.length lP) ∧ pN.cell? ⟨w6.heap.size, 0, none⟩ = some (.int .i64 gU) ∧ pN.cell? ⟨w6.heap.size, 1, none⟩ = some (.string gI) ∧ pN.cell? ⟨w6.heap.size, 2, none⟩ = some (.int .i64 kB) ∧ pN.cell? ⟨w6.heap.size, 3, none⟩ = some (.int .i64 pA) ∧ pN.cell? ⟨w6.heap.size, 4, none⟩ = some (.int .i64 oZ) := ⟨(pair_cells rV.out).1, (pair_cells rV.out).2, (pair_cells zP.out).1, (pair_cells zP.out).2, E2.out, E0.out, D8.out, D6.out, D4.out⟩
 refine hK.out _ _ X4 (fun jU => ?_)
 clear hK K
 (try simp only [Act.put, u1, u2, u3])
 clear jU
 refine rk 13 rfl (fun K hK => ?_)
 go_simp
 go_at_call 22
 refine (aAn gU gI kB pA oZ HYi.out pN).mono ?_
 rintro e lM ⟨rfl, hb⟩
 rw [pW.out]
 have aNm := hb.size
 have uT := bC hb I8
 have uX := bD hb J5
 have L6 := fV hb aAi
 have L4 := hU hb aAf
 have uP := aU hb I6
 have T3 := aU hb aCd
 have rX := bC hb I7
 have rY := bD hb J3
 have nQ := aU hb rV
 have U7 := bC hb aCh
 have V3 := bD hb aCj
 have uK := aU hb zP
 have uI := cK hb E2
 have uH := cK hb E0
 have uG := cK hb D8
 have uF := cK hb D6
 have uD := cK hb D4
 clear hb I8 J5 aAi aAf I6 aCd I7 J3 rV aCh aCj zP E2 E0 D8 D6 D4
 have X3 : lM.cell? ⟨w2.heap.size, 0, none⟩ = some (.slice jL zs.length gO) ∧ lM.cell? ⟨w2.heap.size, 1, none⟩ = some (.slice gQ m.length gP) ∧ lM.cell? ⟨w4.heap.size, 0, none⟩ = some (.slice lO zs.length lN) ∧ lM.cell? ⟨w4.heap.size, 1, none⟩ = some (.slice lQ m.length lP) ∧ lM.cell? ⟨w6.heap.size, 0, none⟩ = some (.int .i64 gU) ∧ lM.cell? ⟨w6.heap.size, 1, none⟩ = some (.string gI) ∧ lM.cell? ⟨w6.heap.size, 2, none⟩ = some (.int .i64 kB) ∧ lM.cell? ⟨w6.heap.size, 3, none⟩ = some (.int .i64 pA) ∧ lM.cell? ⟨w6.heap.size, 4, none⟩ = some (.int .i64 oZ) := ⟨(pair_cells nQ.out).1, (pair_cells nQ.out).2, (pair_cells uK.out).1, (pair_cells uK.out).2, uI.out, uH.out, uG.out, uF.out, uD.out⟩
 refine hK.out _ _ X3 (fun iE => ?_)
 clear hK K
 (try simp only [Act.put, u1, u2, u3])
 clear iE
 refine tk 14 ⟨some 49, .binOp .neq 4 (.tmp 46) (.tmp 48) 4, 4, "laws.go:419", #[⟨11, .data⟩, ⟨13, .data⟩, ⟨9, .guard⟩], some (9, false)⟩ ?_
 (try simp only [Act.put, u1, u2, u3])
 refine tk 15 ⟨some 50, .pick (.tmp 44) (.const (Value.bool true)) (.tmp 49), 4, "laws.go:419", #[⟨9, .data⟩, ⟨14, .data⟩], none⟩ ?_
 (try simp only [Act.put, u1, u2, u3])
 refine tk 16 ⟨some 51, .move (.tmp 50), 4, "laws.go:419", #[⟨15, .data⟩, ⟨13, .chain⟩], none⟩ ?_
 (try simp only [Act.put, u1, u2, u3])
 refine tk 17 ⟨some 52, .move (.tmp 7), 2, "laws.go:419", #[⟨16, .guard⟩], some (16, false)⟩ ?_
 (try simp only [Act.put, u1, u2, u3])
 refine tk 18 ⟨some 53, .binOp .eql 2 (.tmp 52) (.const (Value.int IntKind.i64 1)) 2, 4, "laws.go:419", #[⟨17, .data⟩, ⟨16, .guard⟩], some (16, false)⟩ ?_
 (try simp only [Act.put, u1, u2, u3])
 refine tk 19 ⟨some 54, .pick (.tmp 51) (.const (Value.bool true)) (.tmp 53), 4, "laws.go:419", #[⟨16, .data⟩, ⟨18, .data⟩], none⟩ ?_
 (try simp only [Act.put, u1, u2, u3])
 refine wpAnyH_done (by kernel_rfl) ?_ _
 by_cases hk0 : k = 0
 rotate_left
 ·have hk2 : (k != 0) = true := by simp [hk0]
  have hkp := aFR (by rw [HN.out]; exact hk0) (by rw [HN.out]; exact hk1)
  rw [HN.out] at hkp; injection hkp with hkz hkm; have hkz := hkz; subst hkz hkm; obtain ⟨lG, lF⟩ := pair_cells nQ.out; obtain ⟨pT, pS⟩ := pair_cells uP.out
  go_wp2_with fail
  refine (mV lM lM.heap.size jL gQ vK vM zs.length gO m.length gP 4 vJ m.length vL zs m zs m (rX.out.more (by omega)) (rY.out.more (by omega)) (uT.out.more (by omega)) (uX.out.more (by omega)) aRr (by omega) (by omega) (by omega) (by omega)).mono ?_
  rintro e gC ⟨rfl, hb⟩; rw [decide_eq_true rfl, decide_eq_true rfl]; clear lG lF pT pS; have Q6 := hb.size; have wR := bC hb uT; have wT := bD hb uX; have L5 := fV hb L6; have V9 := hU hb L4; have rW := aU hb uP; have aAD := aU hb T3; have uS := bC hb rX; have uV := bD hb rY; have rU := aU hb nQ; have U6 := bC hb U7; have nR := bD hb V3; have I3 := aU hb uK; have E1 := cK hb uI; have D9 := cK hb uH; have D7 := cK hb uG; have D5 := cK hb uF; have D3 := cK hb uD; clear hb uT uX L6 L4 uP T3 rX rY nQ U7 V3 uK uI uH uG uF uD; go_wp2
  go_ret
  exact ⟨rfl, L5.out⟩
 subst hk0
 have B5 := aEu (by rw [HN.out])
 rw [HN.out] at B5
 obtain ⟨hin, bI⟩ := B5
 have hct := HCt.out (by decide)
 have qQ := aRp hin
 have HNe := aRp bI
 have aOE := aRp hct
 clear hin bI hct
 obtain ⟨lG, lF⟩ := pair_cells nQ.out
 go_wp2_with fail
 refine (kO lM lM.heap.size jL gQ zs.length gO m.length gP zs m (rX.out.more (by omega)) (rY.out.more (by omega)) aRr (by omega) aAg.out.1 ⟨by omega, aAg.out.2.1⟩).mono ?_
 rintro e gC ⟨rfl, hb⟩
 rw [aOE.out]
 clear lG lF
 have Q6 := hb.size
 have wR := bC hb uT
 have wT := bD hb uX
 have L5 := fV hb L6
 have V9 := hU hb L4
 have rW := aU hb uP
 have aAD := aU hb T3
 have uS := bC hb rX
 have uV := bD hb rY
 have rU := aU hb nQ
 have U6 := bC hb U7
 have nR := bD hb V3
 have I3 := aU hb uK
 have E1 := cK hb uI
 have D9 := cK hb uH
 have D7 := cK hb uG
 have D5 := cK hb uF
 have D3 := cK hb uD
 clear hb uT uX L6 L4 uP T3 rX rY nQ U7 V3 uK uI uH uG uF uD
 obtain ⟨lG, lF⟩ := pair_cells rW.out
 obtain ⟨pT, pS⟩ := pair_cells rU.out
 go_wp2_with fail
 have hc := aFT gC gC.heap.size vK vM jL gQ 4 vJ l.length vL zs.length gO m.length gP xs l zs m (wR.out.more (by omega)) (wT.out.more (by omega)) (uS.out.more (by omega)) (uV.out.more (by omega)) aRr (by omega) nL.out.1 ⟨by omega, nL.out.2.1⟩ (by omega) aAg.out.1 ⟨by omega, aAg.out.2.1⟩
 rw [qQ.out] at hc
 refine hc.mono ?_
 clear hc
 rintro e sJ ⟨rfl, hb⟩
 clear lG lF pT pS
 have aNl := hb.size
 have wQ := bC hb wR
 have wS := bD hb wT
 have aAh := fV hb L5
 have aAe := hU hb V9
 have uO := aU hb rW
 have aCc := aU hb aAD
 have zQ := bC hb uS
 have zS := bD hb uV
 have uM := aU hb rU
 have aCg := bC hb U6
 have aCi := bD hb nR
 have T7 := aU hb I3
 have O5 := cK hb E1
 have O4 := cK hb D9
 have O3 := cK hb D7
 have O2 := cK hb D5
 have O1 := cK hb D3
 clear hb wR wT L5 V9 rW aAD uS uV rU U6 nR I3 E1 D9 D7 D5 D3
 obtain ⟨lG, lF⟩ := pair_cells uM.out
 obtain ⟨pT, pS⟩ := pair_cells uO.out
 go_wp2_with fail
 refine (mV sJ sJ.heap.size jL gQ vK vM zs.length gO m.length gP 4 vJ l.length vL zs m xs l (zQ.out.more (by omega)) (zS.out.more (by omega)) (wQ.out.more (by omega)) (wS.out.more (by omega)) aRr (by omega) (by omega) (by omega) (by omega)).mono ?_
 rintro e tE ⟨rfl, hb⟩
 rw [decide_eq_false HNe.out, Bool.and_false]
 clear lG lF pT pS
 have aNk := hb.size
 have aAG := bC hb wQ
 have aAI := bD hb wS
 have aBv := fV hb aAh
 have aCR := hU hb aAe
 have I5 := aU hb uO
 have aHf := aU hb aCc
 have aAF := bC hb zQ
 have aAH := bD hb zS
 have I4 := aU hb uM
 have aHm := bC hb aCg
 have aHu := bD hb aCi
 have aCe := aU hb T7
 have aCb := cK hb O5
 have aCa := cK hb O4
 have aB9 := cK hb O3
 have aB8 := cK hb O2
 have aB7 := cK hb O1
 clear hb wQ wS aAh aAe uO aCc zQ zS uM aCg aCi T7 O5 O4 O3 O2 O1
 go_wp2
 go_ret
 exact ⟨rfl, aBv.out⟩
end Go.Proofs.YthkagbnpcjidfaaGreatDoor
