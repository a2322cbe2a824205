/- Walks and mathematics that several claims share, part 37. -/
import Derived.Test.YthkagbnpcjidfaaGreatDoorGp31
import Derived.Test.YthkagbnpcjidfaaGreatDoorGp33
import Derived.Test.YthkagbnpcjidfaaGreatDoorGp36
import Derived.Deep.Cut
import Derived.Deep.RegionHeld
import Derived.Lib.Hide
namespace Go.Proofs.YthkagbnpcjidfaaGreatDoor
set_option maxRecDepth 100000
open Go.RowKit
set_option linter.unusedVariables false
set_option linter.unusedSimpArgs false
def mO (E : Int → Addr) (r : Int × List Int × List aA) (w : World) (e : Ending) (w' : World) : Prop :=
 (r.1 ≠ 0 ∧ e = .returned (.tuple #[.agg #[.slice none 0 0, .slice none 0 0], kJ E r.1]) ∧ Below w.heap.size w w') ∨
 (r.1 = 0 ∧ ∃ va vc oa oc cQ, e = .returned (.tuple #[.agg #[.slice va r.2.1.length vc, .slice oa r.2.2.length oc], .nilIface]) ∧ Own w' w.heap.size cQ va r.2.1.length r.2.1 ∧ bB w' cQ w'.heap.size oa r.2.2.length r.2.2 ∧ w.heap.size ≤ cQ ∧ cQ ≤ w'.heap.size ∧ bQ va r.2.1.length vc ∧ bQ oa r.2.2.length oc ∧ Below w.heap.size w w')
theorem aGZ (E : Int → Addr) : kJ E 4 = .iface 226 (.pointer (some (E 4))) := by unfold kJ; rw [if_neg (by decide)]
theorem aJy {w : World} {B : Nat} {E : Int → Addr} (h : eA w B E) : w.cell? ⟨4, 0, none⟩ = some (.iface 226 (.pointer (some (E 4)))) := h.cells 4 (by omega) (by omega)
theorem aJz {w : World} {B : Nat} {E : Int → Addr} (h : eA w B E) : w.cell? ⟨2, 0, none⟩ = some (.iface 226 (.pointer (some (E 2)))) := h.cells 2 (by omega) (by omega)
theorem aBv {w w1 : World} {x y z : Array Value} (h : jD w w1 x y z) (u0 u1 u2 : Value) : jD w (((w1.setCell ⟨w.heap.size + 1, 0, none⟩ u0).setCell ⟨w.heap.size + 1, 1, none⟩ u1).setCell ⟨w.heap.size + 1, 2, none⟩ u2) x (((y.setIfInBounds 0 u0).setIfInBounds 1 u1).setIfInBounds 2 u2) z := ((h.put 0 u0).put 1 u1).put 2 u2
set_option maxHeartbeats 40000000 in
theorem aEY (w : World) (B : Nat) (E : Int → Addr) (hE : eA w B E) (g off : Nat) (ao : Option Addr) (cv no co d : Nat) (xs : List Int) (l : List aA) (o : aA) (hx : Ints w B (some ⟨g, off, none⟩) 4 xs) (h : bK w B ao no l) (hB : B ≤ w.heap.size) (bX : 4 ≤ cv) (cD : bQ ao no co) (hc : aD xs l = true) (hd : d < 4) (hi : o.item.size ≤ 1048576) (hok : (aN xs l d o).ok = false) :
  Calls Tryz.prog 135 #[.agg #[.slice (some ⟨g, off, none⟩) 4 cv, .slice ao no co], .int .i64 (d : Int), .agg #[.int .i64 o.dev, .int .i64 o.seq, .int .i64 o.stamp, .int .i64 o.kind, .string o.item, .int .i64 o.qty, .int .i64 o.level, .int .i64 o.undos]] w (mO E (4, [], []) w) := by
 obtain ⟨yL, Z4⟩ := eP hc
 obtain ⟨uA, hx1⟩ := Z4 d hd
 have iP : no ≤ 160 := by rw [← h.1]; exact eL hc
 have eB : ∀ i, i < l.length → (aB l i).stamp ≤ 200000 := fun i hi' => by
  have h2 := (dG (eT hc hi')).2.2.2.1; omega
 have HM : Hid (∀ i, i < no → (l.getD i aA.zero).item.size ≤ 1048576) := fun i hi' => by
  have h2 := (dG (eT hc (i := i) (by rw [h.1]; exact hi'))).2.2.2.2.1
  have e : aB l i = l.getD i aA.zero := rfl; rw [← e]; omega
 have wS := oR l l.length
 have dM := sQ (N := 200000) (by omega) eB l.length aPw
 have hT := jD.mk0 w #[.slice (some ⟨g, off, none⟩) 4 cv, .slice ao no co] #[.int .i64 o.dev, .int .i64 o.seq, .int .i64 o.stamp, .int .i64 o.kind, .string o.item, .int .i64 o.qty, .int .i64 o.level, .int .i64 o.undos] #[.slice none 0 0, .slice none 0 0]
 have HV := aPu (hx.below hT.bel hB)
 have HO := aPu (h.below hT.bel hB)
 have HE := aPu (hE.below hT.bel hB)
 have HT := aPu hT
 have nY := aPu h.1
 have gY := aPu cD
 have HC := aPu hc
 have V9 : Hid (dK (d : Int) (xs.getD d 0 + 1) (cY l l.length + 1) o.kind o.item o.qty o.level o.undos = false) := hok
 have N9 : Hid (aN xs l d o = ⟨(d : Int), xs.getD d 0 + 1, cY l l.length + 1, o.kind, o.item, o.qty, o.level, o.undos⟩) := rfl
 have zH : Hid (dF xs d = xs.set d (xs.getD d 0 + 1)) := rfl
 have M7 := hE.low
 clear hx h hT eB hok cD hE hc Z4
 go_enter Tryz.func135, Tryz.ntmps135
 go_upto_region 1 with fail
 rename_i KR g8
 generalize ((w.alloc (.cells #[.slice (some ⟨g, off, none⟩) 4 cv, .slice ao no co] 27)).alloc (.cells #[.int .i64 o.dev, .int .i64 o.seq, .int .i64 o.stamp, .int .i64 o.kind, .string o.item, .int .i64 o.qty, .int .i64 o.level, .int .i64 o.undos] 50)).alloc (.cells #[.slice none 0 0, .slice none 0 0] 27) = w0 at HV HO HE HT ⊢
 obtain ⟨b, iE, he, hb, hc⟩ := HV.out.2 d hd
 injection he with he
 injection he with he1 tK
 subst he1 tK
 obtain ⟨x, pK⟩ : ∃ x, x = xs.getD d 0 := ⟨_, rfl⟩
 obtain ⟨S, eH⟩ : ∃ S, S = cY l l.length := ⟨_, rfl⟩
 rw [← pK, ← eH] at V9 N9
 rw [← pK] at hc uA hx1 zH
 rw [← eH] at wS dM
 have HSE := aPu eH
 have HXE := aPu pK
 clear pK eH
 have hdi : (d : Int) < 4 := by omega
 have lQ := HT.out.lt
 have hwx : IntKind.i64.wrap (x + 1) = x + 1 := IntWalk.i64_in _ (by omega)
 have hws : IntKind.i64.wrap (S + 1) = S + 1 := IntWalk.i64_in _ (by omega)
 have hS : w0.cell? ⟨w.heap.size, 0, none⟩ = some (.slice (some ⟨g, off, none⟩) 4 cv) ∧ w0.cell? ⟨w.heap.size, 1, none⟩ = some (.slice ao no co) ∧ w0.cell? ⟨g, off + d, none⟩ = some (.int .i64 x) := ⟨(pair_cells HT.out.fst).1, (pair_cells HT.out.fst).2, hc⟩
 refine wp_region_held_drew (S := fun w' => w'.cell? ⟨w.heap.size, 0, none⟩ = some (.slice (some ⟨g, off, none⟩) 4 cv) ∧ w'.cell? ⟨w.heap.size, 1, none⟩ = some (.slice ao no co) ∧ w'.cell? ⟨g, off + d, none⟩ = some (.int .i64 x)) (by kernel_rfl) hS (fun aP => ?_)
 have cU : Hid (Below w0.heap.size w0 w0.drew) := ⟨rfl, rfl, rfl, Nat.le_refl _, fun _ _ => rfl⟩
 generalize w0.drew = z0 at cU aP ⊢
 refine tj 0 ?_
 refine tj 1 ?_
 refine tj 2 ?_
 refine tj 3 ?_
 refine tj 4 ?_
 refine tj 5 ?_
 refine tj 6 ?_
 refine tj 7 ?_
 refine tj 8 ?_
 refine tj 11 ?_
 refine rk 9 rfl (fun K hK => ?_)
 go_simp
 go_at_call 154
 refine (aAr z0 B ao no co l (HO.out.below cU.out (by omega)) (by have := cU.out.size; omega) (by omega)).mono ?_
 rintro e z1 ⟨rfl, gX⟩
 rw [← HSE.out]
 have cX : Hid (Below w0.heap.size w0 z1) := cU.out.trans (gX.mono cU.out.size)
 have aT := aPu (HT.out.next cX.out)
 have dM : z1.cell? ⟨w.heap.size, 0, none⟩ = some (.slice (some ⟨g, off, none⟩) 4 cv) ∧ z1.cell? ⟨w.heap.size, 1, none⟩ = some (.slice ao no co) ∧ z1.cell? ⟨g, off + d, none⟩ = some (.int .i64 x) := ⟨(pair_cells aT.out.fst).1, (pair_cells aT.out.fst).2, (cX.out.cell (p := ⟨g, off + d, none⟩) (by show g < _; omega)).trans hc⟩
 clear gX
 refine hK.out _ _ dM (fun bG => ?_)
 clear hK K
 (try simp only [Act.put, u1, u2, u3])
 obtain ⟨o0, o1, o2, o3, o4, o5, o6, o7⟩ := aM aT.out.snd
 obtain ⟨f0, f1, f2, f3, f4, f5, f6, f7⟩ := cL aT.out.snd
 have hSt : ∀ (W : World), (∀ k, k ≠ w.heap.size + 1 → W.heap[k]? = z1.heap[k]?) → W.cell? ⟨w.heap.size, 0, none⟩ = some (.slice (some ⟨g, off, none⟩) 4 cv) ∧ W.cell? ⟨w.heap.size, 1, none⟩ = some (.slice ao no co) ∧ W.cell? ⟨g, off + d, none⟩ = some (.int .i64 x) := fun W hW => ⟨(World.cell?_of_block (a := ⟨w.heap.size, 0, none⟩) (hW _ (by show w.heap.size ≠ w.heap.size + 1; omega))).trans dM.1, (World.cell?_of_block (a := ⟨w.heap.size, 1, none⟩) (hW _ (by show w.heap.size ≠ w.heap.size + 1; omega))).trans dM.2.1, (World.cell?_of_block (a := ⟨g, off + d, none⟩) (hW _ (by show g ≠ w.heap.size + 1; omega))).trans dM.2.2⟩
 refine tj 10 ?_
 refine rk 12 rfl (fun K hK => ?_)
 go_simp
 refine hK.out _ _ (hSt _ (fun k hk => heap_setCell_other _ _ _ _ hk)) (fun fI => ?_)
 clear hK K
 (try simp only [Act.put, u1, u2, u3])
 refine tj 13 ?_
 refine rk 14 rfl (fun K hK => ?_)
 go_simp
 refine hK.out _ _ (hSt _ (fun k hk => (heap_setCell_other _ _ _ _ hk).trans (heap_setCell_other _ _ _ _ hk))) (fun kW => ?_)
 clear hK K
 (try simp only [Act.put, u1, u2, u3])
 refine tj 15 ?_
 refine rk 16 rfl (fun K hK => ?_)
 go_simp
 refine hK.out _ _ (hSt _ (fun k hk => (heap_setCell_other _ _ _ _ hk).trans ((heap_setCell_other _ _ _ _ hk).trans (heap_setCell_other _ _ _ _ hk)))) (fun yW => ?_)
 clear hK K
 (try simp only [Act.put, u1, u2, u3])
 refine wpAnyH_done (by kernel_rfl) ?_ _
 have nU : Hid (jD w (((z1.setCell ⟨w.heap.size + 1, 0, none⟩ (.int .i64 (d : Int))).setCell ⟨w.heap.size + 1, 1, none⟩ (.int .i64 (x + 1))).setCell ⟨w.heap.size + 1, 2, none⟩ (.int .i64 (S + 1))) #[.slice (some ⟨g, off, none⟩) 4 cv, .slice ao no co] #[.int .i64 (d : Int), .int .i64 (x + 1), .int .i64 (S + 1), .int .i64 o.kind, .string o.item, .int .i64 o.qty, .int .i64 o.level, .int .i64 o.undos] #[.slice none 0 0, .slice none 0 0]) := aBv aT.out _ _ _
 have lC : Hid (Below (w.heap.size + 1) w0 (((z1.setCell ⟨w.heap.size + 1, 0, none⟩ (.int .i64 (d : Int))).setCell ⟨w.heap.size + 1, 1, none⟩ (.int .i64 (x + 1))).setCell ⟨w.heap.size + 1, 2, none⟩ (.int .i64 (S + 1)))) := ((cX.out.mono (by omega)).trans (dR _ _ _ _ _ _)).trans (gV _ _ _ _)
 have qA := aPu (HV.out.below lC.out (by omega))
 have nV := aPu (HO.out.below lC.out (by omega))
 have wX := aPu (HE.out.below lC.out (by omega))
 clear o0 o1 o2 o3 o4 o5 o6 o7 f0 f1 f2 f3 f4 f5 f6 f7 hSt aP bG fI kW yW hS dM HT aT cX HV HO HE lC hc lQ
 have pM := nU.out.lt
 generalize (((z1.setCell ⟨w.heap.size + 1, 0, none⟩ (.int .i64 (d : Int))).setCell ⟨w.heap.size + 1, 1, none⟩ (.int .i64 (x + 1))).setCell ⟨w.heap.size + 1, 2, none⟩ (.int .i64 (S + 1))) = w4 at nU qA nV wX pM ⊢
 apply g8
 clear g8 KR
 obtain ⟨o0, o1, o2, o3, o4, o5, o6, o7⟩ := aM (show w4.heap[w.heap.size + 1]? = some (.cells #[.int .i64 (d : Int), .int .i64 (x + 1), .int .i64 (S + 1), .int .i64 o.kind, .string o.item, .int .i64 o.qty, .int .i64 o.level, .int .i64 o.undos] 50 (0, 0)) from nU.out.snd)
 go_wp2_with fail
 refine (kS (d : Int) (x + 1) (S + 1) o.kind o.item o.qty o.level o.undos w4).mono ?_
 rintro e w5 ⟨rfl, aU⟩
 rw [V9.out]
 have rA := aPu (nU.out.next aU)
 have HV5 := aPu (qA.out.below aU (by omega))
 have zJ := aPu (nV.out.below aU (by omega))
 have W7 := aPu (wX.out.below aU (by omega))
 have hl5 := rA.out.lt
 clear aU nU qA nV wX pM o0 o1 o2 o3 o4 o5 o6 o7
 have g4 := aJy W7.out
 obtain ⟨bM, fA⟩ : Hid (((w5.setCell ⟨w.heap.size + 1 + 1, 0, none⟩ (.slice none 0 0)).setCell ⟨w.heap.size + 1 + 1, 1, none⟩ (.slice none 0 0)).heap[w.heap.size + 1 + 1]? = some (.cells #[.slice none 0 0, .slice none 0 0] 27 (0, 0))) ∧ True := ⟨(rA.out.set2 (.slice none 0 0) (.slice none 0 0)).1, trivial⟩
 clear bM fA
 go_wp2_with fail
 refine wp_region_held_drew (S := fun w' => w'.cell? ⟨4, 0, none⟩ = some (.iface 226 (.pointer (some (E 4))))) (by kernel_rfl) g4 (fun aP => ?_)
 have cU : Hid (Below w5.heap.size w5 w5.drew) := ⟨rfl, rfl, rfl, Nat.le_refl _, fun _ _ => rfl⟩
 generalize w5.drew = z5 at cU aP ⊢
 have zI := aPu (rA.out.next cU.out)
 clear rA
 obtain ⟨r0, r1⟩ := pair_cells zI.out.res
 obtain ⟨g0, g1⟩ := aC zI.out.res
 refine tj 0 ?_
 refine tj 1 ?_
 refine rk 2 rfl (fun K hK => ?_)
 go_simp
 refine hK.out _ _ ((World.cell?_of_block (a := ⟨4, 0, none⟩) (aF (w := z5) (b := w.heap.size + 1 + 1) (k := 4) (.slice none 0 0) (.slice none 0 0) (by omega))).trans aP) (fun bG => ?_)
 clear hK K
 (try simp only [Act.put, u1, u2, u3])
 refine tj 3 ?_
 refine wpAnyH_done (by kernel_rfl) ?_ _
 have bM := aPu (zI.out.set2 (.slice none 0 0) (.slice none 0 0)).1
 have fA := aPu (zI.out.bel.trans ((zI.out.set2 (.slice none 0 0) (.slice none 0 0)).2.mono (by omega)))
 go_wp2
 change bodyPost _ _ _ _ _ ((z5.setCell ⟨w.heap.size + 1 + 1, 0, none⟩ (.slice none 0 0)).setCell ⟨w.heap.size + 1 + 1, 1, none⟩ (.slice none 0 0))
 clear r0 r1 g0 g1 aP bG
 generalize ((z5.setCell ⟨w.heap.size + 1 + 1, 0, none⟩ (.slice none 0 0)).setCell ⟨w.heap.size + 1 + 1, 1, none⟩ (.slice none 0 0)) = wf at bM fA ⊢
 obtain ⟨q0, q1⟩ := pair_cells bM.out
 exact bodyPost_ret (v := .tuple #[.agg #[.slice none 0 0, .slice none 0 0], (.iface 226 (.pointer (some (E 4))))]) (by simp [results, Tryz.results135, go_sem, q0, q1]) rfl (.inl ⟨by decide, by rw [aGZ], fA.out⟩)
theorem vD {W W' : World} {base n m c : Nat} {a : Option Addr} {xs : List Value} (h : W.ownsRow base 50 8 (.slice a m c) n xs) (hk : ∀ k x, a = some ⟨k, x, none⟩ → base ≤ k → W'.heap[k]? = W.heap[k]?) : W'.ownsRow base 50 8 (.slice a m c) n xs := by
 refine ⟨h.1, ?_⟩
 rcases h.2 with h2 | ⟨g, cap, aV, e, hg, hc, r⟩
 ·exact .inl h2
 ·have e0 := e
  injection e0 with e1 _ _; exact .inr ⟨g, cap, aV, e, hg, (hk g 0 e1 hg).trans hc, r⟩
theorem aJM {W : World} {base n m c b : Nat} {a : Option Addr} {xs : List Value} {cs : Array Value} {T : TypeId} (h : W.ownsRow base 50 8 (.slice a m c) n xs) (hb : W.heap[b]? = some (.cells cs T (0, 0))) (hT : T ≠ 50) : ∀ k x, a = some ⟨k, x, none⟩ → k ≠ b := by
 intro k x e F1
 rcases h.2 with ⟨e2, _⟩ | ⟨g, cap, aV, e2, hg, hc, r⟩
 ·injection e2 with e3 _ _
  rw [e] at e3; cases e3
 ·injection e2 with e3 _ _
  rw [e] at e3; injection e3 with e3; injection e3 with e4 _; subst e4 F1; rw [hc] at hb; injection hb with hb; injection hb with _ hb _; exact hT hb.symm
theorem aJW {w : World} {lo hi gv n d : Nat} {aV : Array Value} {xs : List Int} (x : Int) (hl : xs.length = n) (hd : d < n) (h1 : lo ≤ gv) (h2 : gv < hi) (hg : w.heap[gv]? = some (.cells aV 2 (0, 0))) (hc : ∀ i, i < n → aV[i]? = some (.int .i64 (xs.getD i 0))) : Own (w.setCell ⟨gv, d, none⟩ (.int .i64 x)) lo hi (some ⟨gv, 0, none⟩) n (xs.set d x) := by
 refine ⟨by simp [hl], fun _ => ⟨gv, aV.setIfInBounds d (.int .i64 x), rfl, h1, h2, heap_setCell_same _ _ _ _ _ _ hg, fun i hi => ?_⟩⟩
 have hs : d < aV.size := (aPv (hc d hd)).1
 rw [Array.getElem?_setIfInBounds, gZ (by omega)]
 by_cases e : d = i
 ·subst e
  rw [if_pos rfl, if_pos hs, if_pos rfl]
 ·rw [if_neg e, if_neg e]
  exact hc i hi
theorem aM0 {G : Prop} {F : Nat → World → Prop} (T : Nat → World → Prop) (h1 : (∀ vb z, F vb z → T vb z) → G) (h2 : ∀ vb z, F vb z → T vb z) : G := h1 h2
theorem lM {P : Program} {ops : Array Oper} {Q : Exit → Act → World → Prop} {md : Region.Mode} {S : World → Prop} {fuel : Nat} {l l' : Array Bool} {a : Act} {w : World} (h : l = l') (hw : wpAnyH P md ops Q S fuel l' a w) : wpAnyH P md ops Q S fuel l a w := h ▸ hw
set_option maxHeartbeats 40000000 in
theorem aDV (w : World) (B : Nat) (E : Int → Addr) (hE : eA w B E) (g off : Nat) (ao : Option Addr) (cv no co d : Nat) (xs : List Int) (l : List aA) (o : aA) (hx : Ints w B (some ⟨g, off, none⟩) 4 xs) (h : bK w B ao no l) (hB : B ≤ w.heap.size) (bX : 4 ≤ cv) (cD : bQ ao no co) (hc : aD xs l = true) (hd : d < 4) (hi : o.item.size ≤ 1048576) (hok : (aN xs l d o).ok = true) :
  Calls Tryz.prog 135 #[.agg #[.slice (some ⟨g, off, none⟩) 4 cv, .slice ao no co], .int .i64 (d : Int), .agg #[.int .i64 o.dev, .int .i64 o.seq, .int .i64 o.stamp, .int .i64 o.kind, .string o.item, .int .i64 o.qty, .int .i64 o.level, .int .i64 o.undos]] w (mO E (0, dF xs d, bN l d (aN xs l d o)) w) := by
 obtain ⟨yL, Z4⟩ := eP hc
 obtain ⟨uA, hx1⟩ := Z4 d hd
 have iP : no ≤ 160 := by rw [← h.1]; exact eL hc
 have eB : ∀ i, i < l.length → (aB l i).stamp ≤ 200000 := fun i hi' => by
  have h2 := (dG (eT hc hi')).2.2.2.1; omega
 have HM : Hid (∀ i, i < no → (l.getD i aA.zero).item.size ≤ 1048576) := fun i hi' => by
  have h2 := (dG (eT hc (i := i) (by rw [h.1]; exact hi'))).2.2.2.2.1
  have e : aB l i = l.getD i aA.zero := rfl; rw [← e]; omega
 have wS := oR l l.length
 have dM := sQ (N := 200000) (by omega) eB l.length aPw
 have hT := jD.mk0 w #[.slice (some ⟨g, off, none⟩) 4 cv, .slice ao no co] #[.int .i64 o.dev, .int .i64 o.seq, .int .i64 o.stamp, .int .i64 o.kind, .string o.item, .int .i64 o.qty, .int .i64 o.level, .int .i64 o.undos] #[.slice none 0 0, .slice none 0 0]
 have HV := aPu (hx.below hT.bel hB)
 have HO := aPu (h.below hT.bel hB)
 have HE := aPu (hE.below hT.bel hB)
 have HT := aPu hT
 have nY := aPu h.1
 have gY := aPu cD
 have HC := aPu hc
 have V9 : Hid (dK (d : Int) (xs.getD d 0 + 1) (cY l l.length + 1) o.kind o.item o.qty o.level o.undos = true) := hok
 have N9 : Hid (aN xs l d o = ⟨(d : Int), xs.getD d 0 + 1, cY l l.length + 1, o.kind, o.item, o.qty, o.level, o.undos⟩) := rfl
 have zH : Hid (dF xs d = xs.set d (xs.getD d 0 + 1)) := rfl
 have M7 := hE.low
 clear hx h hT eB hok cD hE hc Z4
 go_enter Tryz.func135, Tryz.ntmps135
 go_upto_region 1 with fail
 rename_i KR g8
 generalize ((w.alloc (.cells #[.slice (some ⟨g, off, none⟩) 4 cv, .slice ao no co] 27)).alloc (.cells #[.int .i64 o.dev, .int .i64 o.seq, .int .i64 o.stamp, .int .i64 o.kind, .string o.item, .int .i64 o.qty, .int .i64 o.level, .int .i64 o.undos] 50)).alloc (.cells #[.slice none 0 0, .slice none 0 0] 27) = w0 at HV HO HE HT ⊢
 obtain ⟨b, iE, he, hb, hc⟩ := HV.out.2 d hd
 injection he with he
 injection he with he1 tK
 subst he1 tK
 obtain ⟨x, pK⟩ : ∃ x, x = xs.getD d 0 := ⟨_, rfl⟩
 obtain ⟨S, eH⟩ : ∃ S, S = cY l l.length := ⟨_, rfl⟩
 rw [← pK, ← eH] at V9 N9
 rw [← pK] at hc uA hx1 zH
 rw [← eH] at wS dM
 have HSE := aPu eH
 have HXE := aPu pK
 clear pK eH
 have hdi : (d : Int) < 4 := by omega
 have lQ := HT.out.lt
 have hwx : IntKind.i64.wrap (x + 1) = x + 1 := IntWalk.i64_in _ (by omega)
 have hws : IntKind.i64.wrap (S + 1) = S + 1 := IntWalk.i64_in _ (by omega)
 have hS : w0.cell? ⟨w.heap.size, 0, none⟩ = some (.slice (some ⟨g, off, none⟩) 4 cv) ∧ w0.cell? ⟨w.heap.size, 1, none⟩ = some (.slice ao no co) ∧ w0.cell? ⟨g, off + d, none⟩ = some (.int .i64 x) := ⟨(pair_cells HT.out.fst).1, (pair_cells HT.out.fst).2, hc⟩
 refine wp_region_held_drew (S := fun w' => w'.cell? ⟨w.heap.size, 0, none⟩ = some (.slice (some ⟨g, off, none⟩) 4 cv) ∧ w'.cell? ⟨w.heap.size, 1, none⟩ = some (.slice ao no co) ∧ w'.cell? ⟨g, off + d, none⟩ = some (.int .i64 x)) (by kernel_rfl) hS (fun aP => ?_)
 have cU : Hid (Below w0.heap.size w0 w0.drew) := ⟨rfl, rfl, rfl, Nat.le_refl _, fun _ _ => rfl⟩
 generalize w0.drew = z0 at cU aP ⊢
 refine tj 0 ?_
 refine tj 1 ?_
 refine tj 2 ?_
 refine tj 3 ?_
 refine tj 4 ?_
 refine tj 5 ?_
 refine tj 6 ?_
 refine tj 7 ?_
 refine tj 8 ?_
 refine tj 11 ?_
 refine rk 9 rfl (fun K hK => ?_)
 go_simp
 go_at_call 154
 refine (aAr z0 B ao no co l (HO.out.below cU.out (by omega)) (by have := cU.out.size; omega) (by omega)).mono ?_
 rintro e z1 ⟨rfl, gX⟩
 rw [← HSE.out]
 have cX : Hid (Below w0.heap.size w0 z1) := cU.out.trans (gX.mono cU.out.size)
 have aT := aPu (HT.out.next cX.out)
 have dM : z1.cell? ⟨w.heap.size, 0, none⟩ = some (.slice (some ⟨g, off, none⟩) 4 cv) ∧ z1.cell? ⟨w.heap.size, 1, none⟩ = some (.slice ao no co) ∧ z1.cell? ⟨g, off + d, none⟩ = some (.int .i64 x) := ⟨(pair_cells aT.out.fst).1, (pair_cells aT.out.fst).2, (cX.out.cell (p := ⟨g, off + d, none⟩) (by show g < _; omega)).trans hc⟩
 clear gX
 refine hK.out _ _ dM (fun bG => ?_)
 clear hK K
 (try simp only [Act.put, u1, u2, u3])
 obtain ⟨o0, o1, o2, o3, o4, o5, o6, o7⟩ := aM aT.out.snd
 obtain ⟨f0, f1, f2, f3, f4, f5, f6, f7⟩ := cL aT.out.snd
 have hSt : ∀ (W : World), (∀ k, k ≠ w.heap.size + 1 → W.heap[k]? = z1.heap[k]?) → W.cell? ⟨w.heap.size, 0, none⟩ = some (.slice (some ⟨g, off, none⟩) 4 cv) ∧ W.cell? ⟨w.heap.size, 1, none⟩ = some (.slice ao no co) ∧ W.cell? ⟨g, off + d, none⟩ = some (.int .i64 x) := fun W hW => ⟨(World.cell?_of_block (a := ⟨w.heap.size, 0, none⟩) (hW _ (by show w.heap.size ≠ w.heap.size + 1; omega))).trans dM.1, (World.cell?_of_block (a := ⟨w.heap.size, 1, none⟩) (hW _ (by show w.heap.size ≠ w.heap.size + 1; omega))).trans dM.2.1, (World.cell?_of_block (a := ⟨g, off + d, none⟩) (hW _ (by show g ≠ w.heap.size + 1; omega))).trans dM.2.2⟩
 refine tj 10 ?_
 refine rk 12 rfl (fun K hK => ?_)
 go_simp
 refine hK.out _ _ (hSt _ (fun k hk => heap_setCell_other _ _ _ _ hk)) (fun fI => ?_)
 clear hK K
 (try simp only [Act.put, u1, u2, u3])
 refine tj 13 ?_
 refine rk 14 rfl (fun K hK => ?_)
 go_simp
 refine hK.out _ _ (hSt _ (fun k hk => (heap_setCell_other _ _ _ _ hk).trans (heap_setCell_other _ _ _ _ hk))) (fun kW => ?_)
 clear hK K
 (try simp only [Act.put, u1, u2, u3])
 refine tj 15 ?_
 refine rk 16 rfl (fun K hK => ?_)
 go_simp
 refine hK.out _ _ (hSt _ (fun k hk => (heap_setCell_other _ _ _ _ hk).trans ((heap_setCell_other _ _ _ _ hk).trans (heap_setCell_other _ _ _ _ hk)))) (fun yW => ?_)
 clear hK K
 (try simp only [Act.put, u1, u2, u3])
 refine wpAnyH_done (by kernel_rfl) ?_ _
 have nU : Hid (jD w (((z1.setCell ⟨w.heap.size + 1, 0, none⟩ (.int .i64 (d : Int))).setCell ⟨w.heap.size + 1, 1, none⟩ (.int .i64 (x + 1))).setCell ⟨w.heap.size + 1, 2, none⟩ (.int .i64 (S + 1))) #[.slice (some ⟨g, off, none⟩) 4 cv, .slice ao no co] #[.int .i64 (d : Int), .int .i64 (x + 1), .int .i64 (S + 1), .int .i64 o.kind, .string o.item, .int .i64 o.qty, .int .i64 o.level, .int .i64 o.undos] #[.slice none 0 0, .slice none 0 0]) := aBv aT.out _ _ _
 have lC : Hid (Below (w.heap.size + 1) w0 (((z1.setCell ⟨w.heap.size + 1, 0, none⟩ (.int .i64 (d : Int))).setCell ⟨w.heap.size + 1, 1, none⟩ (.int .i64 (x + 1))).setCell ⟨w.heap.size + 1, 2, none⟩ (.int .i64 (S + 1)))) := ((cX.out.mono (by omega)).trans (dR _ _ _ _ _ _)).trans (gV _ _ _ _)
 have qA := aPu (HV.out.below lC.out (by omega))
 have nV := aPu (HO.out.below lC.out (by omega))
 have wX := aPu (HE.out.below lC.out (by omega))
 clear o0 o1 o2 o3 o4 o5 o6 o7 f0 f1 f2 f3 f4 f5 f6 f7 hSt aP bG fI kW yW hS dM HT aT cX HV HO HE lC hc lQ
 have pM := nU.out.lt
 generalize (((z1.setCell ⟨w.heap.size + 1, 0, none⟩ (.int .i64 (d : Int))).setCell ⟨w.heap.size + 1, 1, none⟩ (.int .i64 (x + 1))).setCell ⟨w.heap.size + 1, 2, none⟩ (.int .i64 (S + 1))) = w4 at nU qA nV wX pM ⊢
 apply g8
 clear g8 KR
 obtain ⟨o0, o1, o2, o3, o4, o5, o6, o7⟩ := aM (show w4.heap[w.heap.size + 1]? = some (.cells #[.int .i64 (d : Int), .int .i64 (x + 1), .int .i64 (S + 1), .int .i64 o.kind, .string o.item, .int .i64 o.qty, .int .i64 o.level, .int .i64 o.undos] 50 (0, 0)) from nU.out.snd)
 go_wp2_with fail
 refine (kS (d : Int) (x + 1) (S + 1) o.kind o.item o.qty o.level o.undos w4).mono ?_
 rintro e w5 ⟨rfl, aU⟩
 rw [V9.out]
 have rA := aPu (nU.out.next aU)
 have HV5 := aPu (qA.out.below aU (by omega))
 have zJ := aPu (nV.out.below aU (by omega))
 have W7 := aPu (wX.out.below aU (by omega))
 have hl5 := rA.out.lt
 clear aU nU qA nV wX pM o0 o1 o2 o3 o4 o5 o6 o7
 obtain ⟨o0, o1, o2, o3, o4, o5, o6, o7⟩ := aM (show w5.heap[w.heap.size + 1]? = some (.cells #[.int .i64 (d : Int), .int .i64 (x + 1), .int .i64 (S + 1), .int .i64 o.kind, .string o.item, .int .i64 o.qty, .int .i64 o.level, .int .i64 o.undos] 50 (0, 0)) from rA.out.snd)
 go_wp2_with fail
 refine (l9 o.item hi w5).mono ?_
 rintro e w6 ⟨rfl, jF⟩
 have zI := aPu (rA.out.next jF)
 have j6 : Hid (jD w (w6.setCell ⟨w.heap.size + 1, 4, none⟩ (.string o.item)) #[.slice (some ⟨g, off, none⟩) 4 cv, .slice ao no co] #[.int .i64 (d : Int), .int .i64 (x + 1), .int .i64 (S + 1), .int .i64 o.kind, .string o.item, .int .i64 o.qty, .int .i64 o.level, .int .i64 o.undos] #[.slice none 0 0, .slice none 0 0]) := zI.out.put 4 (.string o.item)
 have S2 := jF.size
 have hB7 : Below (w.heap.size + 1) w5 (w6.setCell ⟨w.heap.size + 1, 4, none⟩ (.string o.item)) := (jF.mono (by omega)).trans (gV _ _ _ _)
 have HV7 := aPu (HV5.out.below hB7 (by omega))
 have G3 := aPu (zJ.out.below hB7 (by omega))
 have hl7 := j6.out.lt
 clear jF hB7 o0 o1 o2 o3 o4 o5 o6 o7 HV5 zJ W7 rA hl5
 obtain ⟨o0, o1, o2, o3, o4, o5, o6, o7⟩ := aM (show w6.heap[w.heap.size + 1]? = some (.cells #[.int .i64 (d : Int), .int .i64 (x + 1), .int .i64 (S + 1), .int .i64 o.kind, .string o.item, .int .i64 o.qty, .int .i64 o.level, .int .i64 o.undos] 50 (0, 0)) from zI.out.snd)
 obtain ⟨f0, f1, f2, f3, f4, f5, f6, f7⟩ := cL zI.out.snd
 go_upto_region 5 with fail
 generalize w6.setCell ⟨w.heap.size + 1, 4, none⟩ (.string o.item) = w7 at j6 HV7 G3 hl7 ⊢
 clear o0 o1 o2 o3 o4 o5 o6 o7 f0 f1 f2 f3 f4 f5 f6 f7 zI S2
 obtain ⟨q0, q1⟩ := pair_cells j6.out.fst
 go_wp2_with fail
 refine (C8 w7 B g off ao 4 cv no co xs l HV7.out G3.out (by omega) (by omega) (by omega) (by omega) gY.out.2.2  HM.out).mono ?_
 rintro e w8 ⟨va, vc, oa, oc, cQ, rfl, aY, jL, Z9, nP, tM, jO⟩
 rw [yL] at aY jO ⊢
 have V6 := aPu (j6.out.next tM)
 have HV8 := aPu (HV7.out.below tM (by omega))
 obtain ⟨gv, aV, rfl, bY, eC, hgv, aC7⟩ := aY.2 (by omega)
 have hs8 := tM.size
 have HGV := aPu hgv
 have j9 := aPu aC7
 have HCA := aPu jO
 have HR8 := aPu jL
 have vI : Hid (∀ k y, oa = some ⟨k, y, none⟩ → cQ ≤ k ∧ k < w8.heap.size) := fun k y e => jL.lt k (by rw [e]; rfl)
 clear tM j6 HV7 G3 q0 q1 aY jO hgv aC7 jL
 have hgs : gv < w8.heap.size := by omega
 go_upto_region 6 with fail
 rename_i KR g8
 have aW := ((Below.refl w8.heap.size w8).alloc aPw (.cells #[.slice (some ⟨gv, 0, none⟩) 4 vc, .slice oa l.length oc] 27))
 have wU := aPu (V6.out.next aW)
 have HV9 := aPu (HV8.out.below aW (by omega))
 have HG9 := aPu ((aW.block _ hgs).trans HGV.out)
 have V4 := aPu (rU (B := 0) HR8.out aW)
 have O0 := aPu (World.alloc_heap_new w8 (.cells #[.slice (some ⟨gv, 0, none⟩) 4 vc, .slice oa l.length oc] 27))
 have qT := aW.size
 have hl9 := wU.out.lt
 clear aW V6 HV8 HGV HR8
 generalize w8.alloc (.cells #[.slice (some ⟨gv, 0, none⟩) 4 vc, .slice oa l.length oc] 27) = w9 at wU HV9 HG9 V4 O0 qT hl9 ⊢
 have hx9 : w8.heap.size < w9.heap.size := (aPv O0.out).1
 generalize w8.heap.size = nb at vI hs8 hgs qT hx9 O0 nP ⊢
 have Z7 : aL xs d + ((x + 1).toNat - 1) = putAt (d : Int) l := by
  rw [aCs HC.out hd]
  show _ = aL xs d + (xs.getD d 0).toNat
  rw [← HXE.out]; omega
 have hvo : cG xs = true := (pV HC.out).1
 have aNJ := oE (d : Int) l
 have cU : Hid (Below w9.heap.size w9 w9.drew) := ⟨rfl, rfl, rfl, Nat.le_refl _, fun _ _ => rfl⟩
 obtain ⟨z0, gI⟩ : ∃ z0, z0 = w9.drew := ⟨_, rfl⟩
 rw [← gI] at cU
 have aDw := aPu (wU.out.next cU.out)
 have aBd := aPu (HV9.out.below cU.out (by omega))
 have aMH := aPu ((cU.out.block _ (by omega)).trans HG9.out)
 have aMe := aPu (rU (B := 0) V4.out cU.out)
 have x5 := aPu ((cU.out.block _ hx9).trans O0.out)
 have aE1 := cU.out.size
 have vL : ∀ z, Below z0.heap.size z0 z → z.cell? ⟨w.heap.size, 0, none⟩ = some (.slice (some ⟨g, off, none⟩) 4 cv) ∧ z.cell? ⟨w.heap.size, 1, none⟩ = some (.slice ao no co) ∧ z.cell? ⟨w.heap.size + 1, 0, none⟩ = some (.int .i64 (d : Int)) ∧ z.cell? ⟨w.heap.size + 1, 1, none⟩ = some (.int .i64 (x + 1)) ∧ z.cell? ⟨w.heap.size + 1, 2, none⟩ = some (.int .i64 (S + 1)) ∧ z.cell? ⟨w.heap.size + 1, 3, none⟩ = some (.int .i64 o.kind) ∧ z.cell? ⟨w.heap.size + 1, 4, none⟩ = some (.string o.item) ∧ z.cell? ⟨w.heap.size + 1, 5, none⟩ = some (.int .i64 o.qty) ∧ z.cell? ⟨w.heap.size + 1, 6, none⟩ = some (.int .i64 o.level) ∧ z.cell? ⟨w.heap.size + 1, 7, none⟩ = some (.int .i64 o.undos) := fun z hb => ⟨(pair_cells (aDw.out.next hb).fst).1, (pair_cells (aDw.out.next hb).fst).2, aM (show z.heap[w.heap.size + 1]? = some (.cells #[.int .i64 (d : Int), .int .i64 (x + 1), .int .i64 (S + 1), .int .i64 o.kind, .string o.item, .int .i64 o.qty, .int .i64 o.level, .int .i64 o.undos] 50 (0, 0)) from (aDw.out.next hb).snd)⟩
 refine wp_region_held_drew (S := fun w' => w'.cell? ⟨w.heap.size, 0, none⟩ = some (.slice (some ⟨g, off, none⟩) 4 cv) ∧ w'.cell? ⟨w.heap.size, 1, none⟩ = some (.slice ao no co) ∧ w'.cell? ⟨w.heap.size + 1, 0, none⟩ = some (.int .i64 (d : Int)) ∧ w'.cell? ⟨w.heap.size + 1, 1, none⟩ = some (.int .i64 (x + 1)) ∧ w'.cell? ⟨w.heap.size + 1, 2, none⟩ = some (.int .i64 (S + 1)) ∧ w'.cell? ⟨w.heap.size + 1, 3, none⟩ = some (.int .i64 o.kind) ∧ w'.cell? ⟨w.heap.size + 1, 4, none⟩ = some (.string o.item) ∧ w'.cell? ⟨w.heap.size + 1, 5, none⟩ = some (.int .i64 o.qty) ∧ w'.cell? ⟨w.heap.size + 1, 6, none⟩ = some (.int .i64 o.level) ∧ w'.cell? ⟨w.heap.size + 1, 7, none⟩ = some (.int .i64 o.undos)) (by kernel_rfl) (by rw [← gI]; exact vL z0 (Below.refl _ _)) (fun aP => ?_)
 rw [← gI] at aP ⊢
 clear gI wU HV9 HG9 V4 O0 cU
 refine tj 0 ?_
 refine tj 2 ?_
 refine tj 3 ?_
 refine tj 4 ?_
 refine tj 5 ?_
 refine tj 7 ?_
 apply aM0 (F := fun vb z => Below z0.heap.size z0 z ∧ z0.heap.size ≤ vb ∧ z.heap[vb]? = some (.cells #[.int .i64 (d : Int), .int .i64 (x + 1), .int .i64 (S + 1), .int .i64 o.kind, .string o.item, .int .i64 o.qty, .int .i64 o.level, .int .i64 o.undos] 50 (0, 0)))
 case h1 =>
  intro hT
  have wT : Below z0.heap.size z0 z0 := Below.refl _ _; refine wpAnyH_ready (rs := [1, 6, 8]) (by kernel_rfl) (by simp) ?_
  refine (AllReadyH.cons rfl (fun K hK => ?_) (AllReadyH.cons rfl (fun K hK => ?_) (AllReadyH.cons rfl (fun K hK => ?_) AllReadyH.nil)))
  ·
   have xS : z0.cell? ⟨nb, 1, none⟩ = some (.slice oa l.length oc) := (wT.cell (p := ⟨nb, 1, none⟩) (by show nb < _; omega)).trans (pair_cells x5.out).2
   go_simp
   refine hK.out _ _ (vL z0 wT) (fun _ => ?_)
   clear hK K xS
   (try simp only [Act.put, u1, u2, u3])
   refine wpAnyH_ready (rs := [6, 8]) (by kernel_rfl) (by simp) ?_
   refine (AllReadyH.cons rfl (fun K hK => ?_) (AllReadyH.cons rfl (fun K hK => ?_) AllReadyH.nil))
   ·
    go_simp
    go_at_call 72
    refine (uL z0 B (some ⟨g, off, none⟩) ao cv no co d xs (aBd.out.below wT (by omega)) (by have := wT.size; omega) bX hd hvo (x + 1) (by omega) (by omega)).mono ?_
    rintro e y2 ⟨rfl, aLD⟩; rw [Z7]; have gy2 : Below z0.heap.size z0 y2 := wT.trans (aLD.mono wT.size); refine hK.out _ _ (vL y2 gy2) (fun _ => ?_)
    clear hK K aLD
    (try simp only [Act.put, u1, u2, u3])
    refine wpAnyH_ready (rs := [8]) (by kernel_rfl) (by simp) ?_
    refine (AllReadyH.cons rfl (fun K hK => ?_) AllReadyH.nil)
    ·
     have gy3 : Below z0.heap.size z0 (y2.alloc (.cells #[.int .i64 (d : Int), .int .i64 (x + 1), .int .i64 (S + 1), .int .i64 o.kind, .string o.item, .int .i64 o.qty, .int .i64 o.level, .int .i64 o.undos] 50)) := gy2.alloc gy2.size _; have vy3 : (y2.alloc (.cells #[.int .i64 (d : Int), .int .i64 (x + 1), .int .i64 (S + 1), .int .i64 o.kind, .string o.item, .int .i64 o.qty, .int .i64 o.level, .int .i64 o.undos] 50)).heap[y2.heap.size]? = some (.cells #[.int .i64 (d : Int), .int .i64 (x + 1), .int .i64 (S + 1), .int .i64 o.kind, .string o.item, .int .i64 o.qty, .int .i64 o.level, .int .i64 o.undos] 50 (0, 0)) := World.alloc_heap_new _ _
     go_simp
     refine hK.out _ _ (vL _ gy3) (fun _ => ?_)
     clear hK K
     (try simp only [Act.put, u1, u2, u3])
     generalize (y2.alloc (.cells #[.int .i64 (d : Int), .int .i64 (x + 1), .int .i64 (S + 1), .int .i64 o.kind, .string o.item, .int .i64 o.qty, .int .i64 o.level, .int .i64 o.undos] 50)) = y3 at gy3 vy3 ⊢; obtain ⟨vb, oG⟩ : ∃ vb, vb = y2.heap.size := ⟨_, rfl⟩; have yM : z0.heap.size ≤ vb := by rw [oG]; exact gy2.size
     rw [← oG] at vy3 ⊢; clear oG; exact lM (l' := #[true, true, true, true, true, true, true, true, true, false, false, false]) (by kernel_rfl) (hT vb y3 ⟨gy3, yM, vy3⟩)
   ·
    have gy4 : Below z0.heap.size z0 (z0.alloc (.cells #[.int .i64 (d : Int), .int .i64 (x + 1), .int .i64 (S + 1), .int .i64 o.kind, .string o.item, .int .i64 o.qty, .int .i64 o.level, .int .i64 o.undos] 50)) := wT.alloc wT.size _; have vy4 : (z0.alloc (.cells #[.int .i64 (d : Int), .int .i64 (x + 1), .int .i64 (S + 1), .int .i64 o.kind, .string o.item, .int .i64 o.qty, .int .i64 o.level, .int .i64 o.undos] 50)).heap[z0.heap.size]? = some (.cells #[.int .i64 (d : Int), .int .i64 (x + 1), .int .i64 (S + 1), .int .i64 o.kind, .string o.item, .int .i64 o.qty, .int .i64 o.level, .int .i64 o.undos] 50 (0, 0)) := World.alloc_heap_new _ _
    go_simp
    refine hK.out _ _ (vL _ gy4) (fun _ => ?_)
    clear hK K
    (try simp only [Act.put, u1, u2, u3])
    generalize (z0.alloc (.cells #[.int .i64 (d : Int), .int .i64 (x + 1), .int .i64 (S + 1), .int .i64 o.kind, .string o.item, .int .i64 o.qty, .int .i64 o.level, .int .i64 o.undos] 50)) = y4 at gy4 vy4 ⊢; obtain ⟨vb, oG⟩ : ∃ vb, vb = z0.heap.size := ⟨_, rfl⟩; have yM : z0.heap.size ≤ vb := by rw [oG]; exact wT.size
    rw [← oG] at vy4 ⊢; clear oG; refine wpAnyH_ready (rs := [6]) (by kernel_rfl) (by simp) ?_
    refine (AllReadyH.cons rfl (fun K hK => ?_) AllReadyH.nil)
    ·
     go_simp
     go_at_call 72
     refine (uL y4 B (some ⟨g, off, none⟩) ao cv no co d xs (aBd.out.below gy4 (by omega)) (by have := gy4.size; omega) bX hd hvo (x + 1) (by omega) (by omega)).mono ?_
     rintro e y5 ⟨rfl, aIo⟩; rw [Z7]; have gy5 : Below z0.heap.size z0 y5 := gy4.trans (aIo.mono gy4.size); have vy5 := (aIo.block _ (aPv vy4).1).trans vy4; refine hK.out _ _ (vL y5 gy5) (fun _ => ?_)
     clear hK K aIo
     (try simp only [Act.put, u1, u2, u3])
     exact lM (l' := #[true, true, true, true, true, true, true, true, true, false, false, false]) (by kernel_rfl) (hT vb y5 ⟨gy5, yM, vy5⟩)
  ·
   go_simp
   go_at_call 72
   refine (uL z0 B (some ⟨g, off, none⟩) ao cv no co d xs (aBd.out.below wT (by omega)) (by have := wT.size; omega) bX hd hvo (x + 1) (by omega) (by omega)).mono ?_
   rintro e y6 ⟨rfl, aLC⟩; rw [Z7]; have gy6 : Below z0.heap.size z0 y6 := wT.trans (aLC.mono wT.size); refine hK.out _ _ (vL y6 gy6) (fun _ => ?_)
   clear hK K aLC
   (try simp only [Act.put, u1, u2, u3])
   refine wpAnyH_ready (rs := [1, 8]) (by kernel_rfl) (by simp) ?_
   refine (AllReadyH.cons rfl (fun K hK => ?_) (AllReadyH.cons rfl (fun K hK => ?_) AllReadyH.nil))
   ·
    have xS : y6.cell? ⟨nb, 1, none⟩ = some (.slice oa l.length oc) := (gy6.cell (p := ⟨nb, 1, none⟩) (by show nb < _; omega)).trans (pair_cells x5.out).2
    go_simp
    refine hK.out _ _ (vL y6 gy6) (fun _ => ?_)
    clear hK K xS
    (try simp only [Act.put, u1, u2, u3])
    refine wpAnyH_ready (rs := [8]) (by kernel_rfl) (by simp) ?_
    refine (AllReadyH.cons rfl (fun K hK => ?_) AllReadyH.nil)
    ·
     have gy8 : Below z0.heap.size z0 (y6.alloc (.cells #[.int .i64 (d : Int), .int .i64 (x + 1), .int .i64 (S + 1), .int .i64 o.kind, .string o.item, .int .i64 o.qty, .int .i64 o.level, .int .i64 o.undos] 50)) := gy6.alloc gy6.size _; have vy8 : (y6.alloc (.cells #[.int .i64 (d : Int), .int .i64 (x + 1), .int .i64 (S + 1), .int .i64 o.kind, .string o.item, .int .i64 o.qty, .int .i64 o.level, .int .i64 o.undos] 50)).heap[y6.heap.size]? = some (.cells #[.int .i64 (d : Int), .int .i64 (x + 1), .int .i64 (S + 1), .int .i64 o.kind, .string o.item, .int .i64 o.qty, .int .i64 o.level, .int .i64 o.undos] 50 (0, 0)) := World.alloc_heap_new _ _
     go_simp
     refine hK.out _ _ (vL _ gy8) (fun _ => ?_)
     clear hK K
     (try simp only [Act.put, u1, u2, u3])
     generalize (y6.alloc (.cells #[.int .i64 (d : Int), .int .i64 (x + 1), .int .i64 (S + 1), .int .i64 o.kind, .string o.item, .int .i64 o.qty, .int .i64 o.level, .int .i64 o.undos] 50)) = y8 at gy8 vy8 ⊢; obtain ⟨vb, oG⟩ : ∃ vb, vb = y6.heap.size := ⟨_, rfl⟩; have yM : z0.heap.size ≤ vb := by rw [oG]; exact gy6.size
     rw [← oG] at vy8 ⊢; clear oG; exact lM (l' := #[true, true, true, true, true, true, true, true, true, false, false, false]) (by kernel_rfl) (hT vb y8 ⟨gy8, yM, vy8⟩)
   ·
    have gy9 : Below z0.heap.size z0 (y6.alloc (.cells #[.int .i64 (d : Int), .int .i64 (x + 1), .int .i64 (S + 1), .int .i64 o.kind, .string o.item, .int .i64 o.qty, .int .i64 o.level, .int .i64 o.undos] 50)) := gy6.alloc gy6.size _; have vy9 : (y6.alloc (.cells #[.int .i64 (d : Int), .int .i64 (x + 1), .int .i64 (S + 1), .int .i64 o.kind, .string o.item, .int .i64 o.qty, .int .i64 o.level, .int .i64 o.undos] 50)).heap[y6.heap.size]? = some (.cells #[.int .i64 (d : Int), .int .i64 (x + 1), .int .i64 (S + 1), .int .i64 o.kind, .string o.item, .int .i64 o.qty, .int .i64 o.level, .int .i64 o.undos] 50 (0, 0)) := World.alloc_heap_new _ _
    go_simp
    refine hK.out _ _ (vL _ gy9) (fun _ => ?_)
    clear hK K
    (try simp only [Act.put, u1, u2, u3])
    generalize (y6.alloc (.cells #[.int .i64 (d : Int), .int .i64 (x + 1), .int .i64 (S + 1), .int .i64 o.kind, .string o.item, .int .i64 o.qty, .int .i64 o.level, .int .i64 o.undos] 50)) = y9 at gy9 vy9 ⊢; obtain ⟨vb, oG⟩ : ∃ vb, vb = y6.heap.size := ⟨_, rfl⟩; have yM : z0.heap.size ≤ vb := by rw [oG]; exact gy6.size
    rw [← oG] at vy9 ⊢; clear oG; refine wpAnyH_ready (rs := [1]) (by kernel_rfl) (by simp) ?_
    refine (AllReadyH.cons rfl (fun K hK => ?_) AllReadyH.nil)
    ·
     have xS : y9.cell? ⟨nb, 1, none⟩ = some (.slice oa l.length oc) := (gy9.cell (p := ⟨nb, 1, none⟩) (by show nb < _; omega)).trans (pair_cells x5.out).2
     go_simp
     refine hK.out _ _ (vL y9 gy9) (fun _ => ?_)
     clear hK K xS
     (try simp only [Act.put, u1, u2, u3])
     exact lM (l' := #[true, true, true, true, true, true, true, true, true, false, false, false]) (by kernel_rfl) (hT vb y9 ⟨gy9, yM, vy9⟩)
  ·
   have wC : Below z0.heap.size z0 (z0.alloc (.cells #[.int .i64 (d : Int), .int .i64 (x + 1), .int .i64 (S + 1), .int .i64 o.kind, .string o.item, .int .i64 o.qty, .int .i64 o.level, .int .i64 o.undos] 50)) := wT.alloc wT.size _; have aAI : (z0.alloc (.cells #[.int .i64 (d : Int), .int .i64 (x + 1), .int .i64 (S + 1), .int .i64 o.kind, .string o.item, .int .i64 o.qty, .int .i64 o.level, .int .i64 o.undos] 50)).heap[z0.heap.size]? = some (.cells #[.int .i64 (d : Int), .int .i64 (x + 1), .int .i64 (S + 1), .int .i64 o.kind, .string o.item, .int .i64 o.qty, .int .i64 o.level, .int .i64 o.undos] 50 (0, 0)) := World.alloc_heap_new _ _
   go_simp
   refine hK.out _ _ (vL _ wC) (fun _ => ?_)
   clear hK K
   (try simp only [Act.put, u1, u2, u3])
   generalize (z0.alloc (.cells #[.int .i64 (d : Int), .int .i64 (x + 1), .int .i64 (S + 1), .int .i64 o.kind, .string o.item, .int .i64 o.qty, .int .i64 o.level, .int .i64 o.undos] 50)) = y11 at wC aAI ⊢; obtain ⟨vb, oG⟩ : ∃ vb, vb = z0.heap.size := ⟨_, rfl⟩; have yM : z0.heap.size ≤ vb := by rw [oG]; exact wT.size
   rw [← oG] at aAI ⊢; clear oG; refine wpAnyH_ready (rs := [1, 6]) (by kernel_rfl) (by simp) ?_
   refine (AllReadyH.cons rfl (fun K hK => ?_) (AllReadyH.cons rfl (fun K hK => ?_) AllReadyH.nil))
   ·
    have xS : y11.cell? ⟨nb, 1, none⟩ = some (.slice oa l.length oc) := (wC.cell (p := ⟨nb, 1, none⟩) (by show nb < _; omega)).trans (pair_cells x5.out).2
    go_simp
    refine hK.out _ _ (vL y11 wC) (fun _ => ?_)
    clear hK K xS
    (try simp only [Act.put, u1, u2, u3])
    refine wpAnyH_ready (rs := [6]) (by kernel_rfl) (by simp) ?_
    refine (AllReadyH.cons rfl (fun K hK => ?_) AllReadyH.nil)
    ·
     go_simp
     go_at_call 72
     refine (uL y11 B (some ⟨g, off, none⟩) ao cv no co d xs (aBd.out.below wC (by omega)) (by have := wC.size; omega) bX hd hvo (x + 1) (by omega) (by omega)).mono ?_
     rintro e y13 ⟨rfl, aE8⟩; rw [Z7]; have aLL : Below z0.heap.size z0 y13 := wC.trans (aE8.mono wC.size); have aNk := (aE8.block _ (aPv aAI).1).trans aAI; refine hK.out _ _ (vL y13 aLL) (fun _ => ?_)
     clear hK K aE8
     (try simp only [Act.put, u1, u2, u3])
     exact lM (l' := #[true, true, true, true, true, true, true, true, true, false, false, false]) (by kernel_rfl) (hT vb y13 ⟨aLL, yM, aNk⟩)
   ·
    go_simp
    go_at_call 72
    refine (uL y11 B (some ⟨g, off, none⟩) ao cv no co d xs (aBd.out.below wC (by omega)) (by have := wC.size; omega) bX hd hvo (x + 1) (by omega) (by omega)).mono ?_
    rintro e y14 ⟨rfl, aE7⟩; rw [Z7]; have aFc : Below z0.heap.size z0 y14 := wC.trans (aE7.mono wC.size); have aNj := (aE7.block _ (aPv aAI).1).trans aAI; refine hK.out _ _ (vL y14 aFc) (fun _ => ?_)
    clear hK K aE7
    (try simp only [Act.put, u1, u2, u3])
    refine wpAnyH_ready (rs := [1]) (by kernel_rfl) (by simp) ?_
    refine (AllReadyH.cons rfl (fun K hK => ?_) AllReadyH.nil)
    ·
     have xS : y14.cell? ⟨nb, 1, none⟩ = some (.slice oa l.length oc) := (aFc.cell (p := ⟨nb, 1, none⟩) (by show nb < _; omega)).trans (pair_cells x5.out).2
     go_simp
     refine hK.out _ _ (vL y14 aFc) (fun _ => ?_)
     clear hK K xS
     (try simp only [Act.put, u1, u2, u3])
     exact lM (l' := #[true, true, true, true, true, true, true, true, true, false, false, false]) (by kernel_rfl) (hT vb y14 ⟨aFc, yM, aNj⟩)
 case h2 =>
  intro vb z ⟨gz, yM, hvb⟩
  have HPz := aPu (aDw.out.next gz); have HGz := aPu ((gz.block _ (by omega)).trans aMH.out)
  have vS := aPu (rU (B := 0) aMe.out gz); have HNz := aPu ((gz.block _ (by omega)).trans x5.out)
  have cP := gz.size; clear gz aDw aMH aMe x5 aBd aP; have hI := aM3 z cQ oa l.length oc (putAt (d : Int) l) l vS.out (by omega) (by have := nY.out; omega) aNJ (⟨(d : Int), x + 1, S + 1, o.kind, o.item, o.qty, o.level, o.undos⟩ : aA) vb hvb (fun k y e => by have := vI.out k y e; omega)
  have hI := aPu hI; refine rk 9 rfl (fun K hK => ?_)
  go_simp
  go_at_call 155
  refine hI.out.mono ?_
  rintro e zi ⟨ra, rc, rfl, hro, hbi, pX⟩; have J3 : ∀ j, j < z.heap.size → (j < cQ ∨ nb ≤ j) → zi.heap[j]? = z.heap[j]? := fun j h1 h2 => pX j h1 (fun y e => by have := vI.out j y e; omega)
  have HPi : Hid (jD w zi #[.slice (some ⟨g, off, none⟩) 4 cv, .slice ao no co] #[.int .i64 (d : Int), .int .i64 (x + 1), .int .i64 (S + 1), .int .i64 o.kind, .string o.item, .int .i64 o.qty, .int .i64 o.level, .int .i64 o.undos] #[.slice none 0 0, .slice none 0 0]) := HPz.out.far (hbi.mono (by omega))
  have HGi := aPu ((J3 gv (by omega) (.inl (by omega))).trans HGz.out)
  have HNi := aPu ((J3 nb (by omega) (.inr aPw)).trans HNz.out)
  have HRi := aPu hro; have hsi := hbi.size; clear hro hbi pX J3 HPz HGz HNz vS hvb hI; obtain ⟨Ln, yV⟩ : ∃ Ln, Ln = (l.take (putAt (d : Int) l) ++ [(⟨(d : Int), x + 1, S + 1, o.kind, o.item, o.qty, o.level, o.undos⟩ : aA)] ++ l.drop (putAt (d : Int) l)) := ⟨_, rfl⟩; rw [← yV] at HRi ⊢; have HLN := aPu yV; clear yV; have hSi : zi.cell? ⟨w.heap.size, 0, none⟩ = some (.slice (some ⟨g, off, none⟩) 4 cv) ∧ zi.cell? ⟨w.heap.size, 1, none⟩ = some (.slice ao no co) ∧ zi.cell? ⟨w.heap.size + 1, 0, none⟩ = some (.int .i64 (d : Int)) ∧ zi.cell? ⟨w.heap.size + 1, 1, none⟩ = some (.int .i64 (x + 1)) ∧ zi.cell? ⟨w.heap.size + 1, 2, none⟩ = some (.int .i64 (S + 1)) ∧ zi.cell? ⟨w.heap.size + 1, 3, none⟩ = some (.int .i64 o.kind) ∧ zi.cell? ⟨w.heap.size + 1, 4, none⟩ = some (.string o.item) ∧ zi.cell? ⟨w.heap.size + 1, 5, none⟩ = some (.int .i64 o.qty) ∧ zi.cell? ⟨w.heap.size + 1, 6, none⟩ = some (.int .i64 o.level) ∧ zi.cell? ⟨w.heap.size + 1, 7, none⟩ = some (.int .i64 o.undos) := ⟨(pair_cells HPi.out.fst).1, (pair_cells HPi.out.fst).2, aM (show zi.heap[w.heap.size + 1]? = some (.cells #[.int .i64 (d : Int), .int .i64 (x + 1), .int .i64 (S + 1), .int .i64 o.kind, .string o.item, .int .i64 o.qty, .int .i64 o.level, .int .i64 o.undos] 50 (0, 0)) from HPi.out.snd)⟩; refine hK.out _ _ hSi (fun _ => ?_)
  clear hK K
  (try simp only [Act.put, u1, u2, u3])
  obtain ⟨xc0, xS⟩ := pair_cells HNi.out; obtain ⟨zO, zN⟩ := aC HNi.out; refine tj 10 ?_
  have bJ := aJM HRi.out HNi.out (by decide)
  have hbj : Below nb zi (zi.setCell ⟨nb, 1, none⟩ (.slice ra Ln.length rc)) := gV _ _ _ _; have HPj : Hid (jD w (zi.setCell ⟨nb, 1, none⟩ (.slice ra Ln.length rc)) #[.slice (some ⟨g, off, none⟩) 4 cv, .slice ao no co] #[.int .i64 (d : Int), .int .i64 (x + 1), .int .i64 (S + 1), .int .i64 o.kind, .string o.item, .int .i64 o.qty, .int .i64 o.level, .int .i64 o.undos] #[.slice none 0 0, .slice none 0 0]) := HPi.out.far (hbj.mono (by omega))
  have HGj : Hid ((zi.setCell ⟨nb, 1, none⟩ (.slice ra Ln.length rc)).heap[gv]? = some (.cells aV 2 (0, 0))) := (hbj.block gv (by omega)).trans HGi.out
  have HNj : Hid ((zi.setCell ⟨nb, 1, none⟩ (.slice ra Ln.length rc)).heap[nb]? = some (.cells #[.slice (some ⟨gv, 0, none⟩) 4 vc, (.slice ra Ln.length rc)] 27 (0, 0))) := heap_setCell_same _ _ _ _ _ _ HNi.out; have HRj : Hid ((zi.setCell ⟨nb, 1, none⟩ (.slice ra Ln.length rc)).ownsRow cQ 50 8 (.slice ra Ln.length rc) Ln.length (aH Ln)) := vD HRi.out (fun k y e _ => heap_setCell_other _ _ _ _ (bJ k y e))
  have hsj : (zi.setCell ⟨nb, 1, none⟩ (.slice ra Ln.length rc)).heap.size = zi.heap.size := by simp [World.setCell]
  have hSj : (zi.setCell ⟨nb, 1, none⟩ (.slice ra Ln.length rc)).cell? ⟨w.heap.size, 0, none⟩ = some (.slice (some ⟨g, off, none⟩) 4 cv) ∧ (zi.setCell ⟨nb, 1, none⟩ (.slice ra Ln.length rc)).cell? ⟨w.heap.size, 1, none⟩ = some (.slice ao no co) ∧ (zi.setCell ⟨nb, 1, none⟩ (.slice ra Ln.length rc)).cell? ⟨w.heap.size + 1, 0, none⟩ = some (.int .i64 (d : Int)) ∧ (zi.setCell ⟨nb, 1, none⟩ (.slice ra Ln.length rc)).cell? ⟨w.heap.size + 1, 1, none⟩ = some (.int .i64 (x + 1)) ∧ (zi.setCell ⟨nb, 1, none⟩ (.slice ra Ln.length rc)).cell? ⟨w.heap.size + 1, 2, none⟩ = some (.int .i64 (S + 1)) ∧ (zi.setCell ⟨nb, 1, none⟩ (.slice ra Ln.length rc)).cell? ⟨w.heap.size + 1, 3, none⟩ = some (.int .i64 o.kind) ∧ (zi.setCell ⟨nb, 1, none⟩ (.slice ra Ln.length rc)).cell? ⟨w.heap.size + 1, 4, none⟩ = some (.string o.item) ∧ (zi.setCell ⟨nb, 1, none⟩ (.slice ra Ln.length rc)).cell? ⟨w.heap.size + 1, 5, none⟩ = some (.int .i64 o.qty) ∧ (zi.setCell ⟨nb, 1, none⟩ (.slice ra Ln.length rc)).cell? ⟨w.heap.size + 1, 6, none⟩ = some (.int .i64 o.level) ∧ (zi.setCell ⟨nb, 1, none⟩ (.slice ra Ln.length rc)).cell? ⟨w.heap.size + 1, 7, none⟩ = some (.int .i64 o.undos) := ⟨(pair_cells HPj.out.fst).1, (pair_cells HPj.out.fst).2, aM (show (zi.setCell ⟨nb, 1, none⟩ (.slice ra Ln.length rc)).heap[w.heap.size + 1]? = some (.cells #[.int .i64 (d : Int), .int .i64 (x + 1), .int .i64 (S + 1), .int .i64 o.kind, .string o.item, .int .i64 o.qty, .int .i64 o.level, .int .i64 o.undos] 50 (0, 0)) from HPj.out.snd)⟩; refine rk 11 rfl (fun K hK => ?_)
  go_simp
  refine hK.out _ _ hSj (fun qV => ?_)
  clear hK K
  (try simp only [Act.put, u1, u2, u3])
  refine wpAnyH_done (by kernel_rfl) ?_ _
  clear hSi hSj xc0 xS zO zN bJ hbj HPi HGi HNi HRi vL; generalize (zi.setCell ⟨nb, 1, none⟩ (.slice ra Ln.length rc)) = zj at HPj HGj HNj HRj hsj ⊢
  apply g8
  clear g8 KR; obtain ⟨xc0, xS⟩ := pair_cells HNj.out; obtain ⟨o0, o1, o2, o3, o4, o5, o6, o7⟩ := aM (show zj.heap[w.heap.size + 1]? = some (.cells #[.int .i64 (d : Int), .int .i64 (x + 1), .int .i64 (S + 1), .int .i64 o.kind, .string o.item, .int .i64 o.qty, .int .i64 o.level, .int .i64 o.undos] 50 (0, 0)) from HPj.out.snd); obtain ⟨zz, hcz⟩ : ∃ zz, zj.cell? ⟨gv, d, none⟩ = some zz := ⟨_, (aPx HGj.out).trans (j9.out d hd)⟩; have hfz : zj.frozen? ⟨gv, d, none⟩ = false := aPy HGj.out; have lV : Hid (Own (zj.setCell ⟨gv, d, none⟩ (.int .i64 (x + 1))) w7.heap.size cQ (some ⟨gv, 0, none⟩) 4 (xs.set d (x + 1))) := aJW (x + 1) yL hd bY eC HGj.out j9.out; have F4 : Below gv zj (zj.setCell ⟨gv, d, none⟩ (.int .i64 (x + 1))) := gV _ _ _ _; have HPk : Hid (jD w (zj.setCell ⟨gv, d, none⟩ (.int .i64 (x + 1))) #[.slice (some ⟨g, off, none⟩) 4 cv, .slice ao no co] #[.int .i64 (d : Int), .int .i64 (x + 1), .int .i64 (S + 1), .int .i64 o.kind, .string o.item, .int .i64 o.qty, .int .i64 o.level, .int .i64 o.undos] #[.slice none 0 0, .slice none 0 0]) := HPj.out.far (F4.mono (by omega))
  have HNk : Hid ((zj.setCell ⟨gv, d, none⟩ (.int .i64 (x + 1))).heap[nb]? = some (.cells #[.slice (some ⟨gv, 0, none⟩) 4 vc, (.slice ra Ln.length rc)] 27 (0, 0))) := (heap_setCell_other _ _ _ _ (by show nb ≠ gv; omega)).trans HNj.out
  have HRk : Hid ((zj.setCell ⟨gv, d, none⟩ (.int .i64 (x + 1))).ownsRow cQ 50 8 (.slice ra Ln.length rc) Ln.length (aH Ln)) := vD HRj.out (fun k y e hk => heap_setCell_other _ _ _ _ (by show k ≠ gv; omega))
  have hsk : (zj.setCell ⟨gv, d, none⟩ (.int .i64 (x + 1))).heap.size = zj.heap.size := by simp [World.setCell]
  go_upto_region 8 with fail
  generalize zj.setCell ⟨gv, d, none⟩ (.int .i64 (x + 1)) = zk at lV HPk HNk HRk hsk ⊢; clear xc0 xS o0 o1 o2 o3 o4 o5 o6 o7 hcz hfz F4 HPj HGj HNj HRj; obtain ⟨xc0, xS⟩ := pair_cells HNk.out; obtain ⟨r0, r1⟩ := pair_cells HPk.out.res; obtain ⟨fO, fN⟩ := aC HPk.out.res; have A7 := HPk.out.set2 (.slice (some ⟨gv, 0, none⟩) 4 vc) (.slice ra Ln.length rc); have HX := aPu A7.1; have bT : Hid (Below w.heap.size w ((zk.setCell ⟨w.heap.size + 1 + 1, 0, none⟩ (.slice (some ⟨gv, 0, none⟩) 4 vc)).setCell ⟨w.heap.size + 1 + 1, 1, none⟩ (.slice ra Ln.length rc))) := HPk.out.bel.trans (A7.2.mono (by omega))
  have vU : Hid (Own ((zk.setCell ⟨w.heap.size + 1 + 1, 0, none⟩ (.slice (some ⟨gv, 0, none⟩) 4 vc)).setCell ⟨w.heap.size + 1 + 1, 1, none⟩ (.slice ra Ln.length rc)) w7.heap.size cQ (some ⟨gv, 0, none⟩) 4 (xs.set d (x + 1))) := lV.out.kept (fun j h1 h2 => aF _ _ (by omega))
  have HRf := aPu (eG (vD (W' := ((zk.setCell ⟨w.heap.size + 1 + 1, 0, none⟩ (.slice (some ⟨gv, 0, none⟩) 4 vc)).setCell ⟨w.heap.size + 1 + 1, 1, none⟩ (.slice ra Ln.length rc))) HRk.out (fun k y e hk => aF _ _ (by omega))) aPw)
  have HCf := aPu (gB HRk.out); have tC : ((zk.setCell ⟨w.heap.size + 1 + 1, 0, none⟩ (.slice (some ⟨gv, 0, none⟩) 4 vc)).setCell ⟨w.heap.size + 1 + 1, 1, none⟩ (.slice ra Ln.length rc)).heap.size = zk.heap.size := aZ _ _ _ _; clear A7; go_wp2
  change bodyPost _ _ _ _ _ ((zk.setCell ⟨w.heap.size + 1 + 1, 0, none⟩ (.slice (some ⟨gv, 0, none⟩) 4 vc)).setCell ⟨w.heap.size + 1 + 1, 1, none⟩ (.slice ra Ln.length rc))
  clear xc0 xS r0 r1 fO fN lV HPk HNk HRk; generalize ((zk.setCell ⟨w.heap.size + 1 + 1, 0, none⟩ (.slice (some ⟨gv, 0, none⟩) 4 vc)).setCell ⟨w.heap.size + 1 + 1, 1, none⟩ (.slice ra Ln.length rc)) = wf at HX bT vU HRf tC ⊢; obtain ⟨q0, q1⟩ := pair_cells HX.out; have hvl : (dF xs d).length = 4 := by rw [zH.out, List.length_set]; exact yL
  have aNI : bN l d (⟨(d : Int), x + 1, S + 1, o.kind, o.item, o.qty, o.level, o.undos⟩ : aA) = Ln := by rw [HLN.out]; rfl
  refine bodyPost_ret (v := .tuple #[.agg #[.slice (some ⟨gv, 0, none⟩) 4 vc, (.slice ra Ln.length rc)], .nilIface]) (by simp [results, Tryz.results135, go_sem, q0, q1]) rfl ?_
  rw [N9.out, aNI]; refine .inr ⟨rfl, some ⟨gv, 0, none⟩, vc, ra, rc, cQ, ?_, ?_, HRf.out, by omega, by omega, ?_, HCf.out, bT.out⟩
  ·show _ = Ending.returned (.tuple #[.agg #[.slice (some ⟨gv, 0, none⟩) (dF xs d).length vc, _], _])
   rw [hvl]
  ·show Own wf w.heap.size cQ _ (dF xs d).length (dF xs d)
   rw [hvl, zH.out]; exact vU.out.more (by omega) aPw
  ·show bQ _ (dF xs d).length vc
   rw [hvl]; exact HCA.out
theorem aGC (w : World) (B : Nat) (E : Int → Addr) (hE : eA w B E) (g off : Nat) (ao : Option Addr) (cv no co d : Nat) (xs : List Int) (l : List aA) (o : aA) (hx : Ints w B (some ⟨g, off, none⟩) 4 xs) (h : bK w B ao no l) (hB : B ≤ w.heap.size) (bX : 4 ≤ cv) (cD : bQ ao no co) (hc : aD xs l = true) (hd : d < 4) (hi : o.item.size ≤ 1048576) :
  Calls Tryz.prog 135 #[.agg #[.slice (some ⟨g, off, none⟩) 4 cv, .slice ao no co], .int .i64 (d : Int), .agg #[.int .i64 o.dev, .int .i64 o.seq, .int .i64 o.stamp, .int .i64 o.kind, .string o.item, .int .i64 o.qty, .int .i64 o.level, .int .i64 o.undos]] w (mO E (if (aN xs l d o).ok = true then (0, dF xs d, bN l d (aN xs l d o)) else (4, [], [])) w) := by
 cases hok : (aN xs l d o).ok
 ·rw [if_neg (by decide)]
  exact aEY w B E hE g off ao cv no co d xs l o hx h hB bX cD hc hd hi hok
 ·rw [if_pos rfl]
  exact aDV w B E hE g off ao cv no co d xs l o hx h hB bX cD hc hd hi hok
structure rO (w w1 : World) (x : Array Value) (tx : TypeId) (y : Array Value) (ty : TypeId) (z : Array Value) (tz : TypeId) : Prop where
 fst : w1.heap[w.heap.size]? = some (.cells x tx (0, 0))
 snd : w1.heap[w.heap.size + 1]? = some (.cells y ty (0, 0))
 res : w1.heap[w.heap.size + 1 + 1]? = some (.cells z tz (0, 0))
 bel : Below w.heap.size w w1
theorem rO.mk0 (w : World) (x y z : Array Value) (tx ty tz : TypeId) : rO w (((w.alloc (.cells x tx)).alloc (.cells y ty)).alloc (.cells z tz)) x tx y ty z tz := by
 have e1 : (w.alloc (.cells x tx)).heap.size = w.heap.size + 1 := by simp
 have e2 : ((w.alloc (.cells x tx)).alloc (.cells y ty)).heap.size = w.heap.size + 1 + 1 := by simp
 refine ⟨?_, ?_, ?_, (((Below.refl _ w).alloc aPw _).alloc (by simp) _).alloc (by simp; omega) _⟩
 ·exact ((Below.heap_alloc _ _ _ (by omega)).trans (Below.heap_alloc _ _ _ (by omega))).trans (heap_alloc_new _ _)
 ·rw [← e1]; exact (Below.heap_alloc _ _ _ (by omega)).trans (heap_alloc_new _ _)
 ·rw [← e2]; exact heap_alloc_new _ _
section
variable {w w1 w2 : World} {x y z : Array Value} {tx ty tz : TypeId}
theorem rO.next (h : rO w w1 x tx y ty z tz) (hb : Below w1.heap.size w1 w2) : rO w w2 x tx y ty z tz :=
 ⟨(hb.block _ (aPv h.fst).1).trans h.fst, (hb.block _ (aPv h.snd).1).trans h.snd, (hb.block _ (aPv h.res).1).trans h.res, h.bel.trans (hb.mono h.bel.size)⟩
theorem rO.lt (h : rO w w1 x tx y ty z tz) : w.heap.size + 1 + 1 < w1.heap.size := (aPv h.res).1
theorem rO.set2 {z0 z1 : Value} (h : rO w w1 x tx y ty #[z0, z1] tz) (u v : Value) :
  ((w1.setCell ⟨w.heap.size + 1 + 1, 0, none⟩ u).setCell ⟨w.heap.size + 1 + 1, 1, none⟩ v).heap[w.heap.size + 1 + 1]? = some (.cells #[u, v] tz (0, 0)) ∧ Below (w.heap.size + 1 + 1) w1 ((w1.setCell ⟨w.heap.size + 1 + 1, 0, none⟩ u).setCell ⟨w.heap.size + 1 + 1, 1, none⟩ v) :=
 ⟨cF _ _ h.res, dR _ _ _ _ _ _⟩
end
theorem kK {w : World} {b : Nat} {v0 v1 v2 v3 v4 : Value} {T : TypeId} {fr : Nat × Nat} (h : w.heap[b]? = some (.cells #[v0, v1, v2, v3, v4] T fr)) : w.cell? ⟨b, 0, none⟩ = some v0 ∧ w.cell? ⟨b, 1, none⟩ = some v1 ∧ w.cell? ⟨b, 2, none⟩ = some v2 ∧ w.cell? ⟨b, 3, none⟩ = some v3 ∧ w.cell? ⟨b, 4, none⟩ = some v4 :=
 ⟨aPx h, aPx h, aPx h, aPx h, aPx h⟩
theorem mO.form {E : Int → Addr} {r : Int × List Int × List aA} {w w' : World} {e : Ending} (h : mO E r w e w') : ∃ a n c a' n' c' er, e = .returned (.tuple #[.agg #[.slice a n c, .slice a' n' c'], er]) := by
 rcases h with ⟨_, e1, _⟩ | ⟨_, va, vc, oa, oc, cQ, e1, _⟩
 ·exact ⟨_, _, _, _, _, _, _, e1⟩
 ·exact ⟨_, _, _, _, _, _, _, e1⟩
theorem mO.bel {E : Int → Addr} {r : Int × List Int × List aA} {w w' : World} {e : Ending} (h : mO E r w e w') : Below w.heap.size w w' := by
 rcases h with ⟨_, _, h⟩ | ⟨_, va, vc, oa, oc, cQ, _, _, _, _, _, _, _, h⟩
 ·exact h
 ·exact h
theorem mO.up {E : Int → Addr} {r : Int × List Int × List aA} {w w2 w3 wf : World} {e : Ending} (h : mO E r w2 e w3) (hs : w.heap.size ≤ w2.heap.size) (hk : ∀ j, w2.heap.size ≤ j → wf.heap[j]? = w3.heap[j]?) (hz : wf.heap.size = w3.heap.size) (hb : Below w.heap.size w wf) : mO E r w e wf := by
 rcases h with ⟨h1, h2, _⟩ | ⟨h0, va, vc, oa, oc, cQ, h1, h2, h3, h4, h5, h6, h7, _⟩
 ·exact .inl ⟨h1, h2, hb⟩
 ·exact .inr ⟨h0, va, vc, oa, oc, cQ, h1, (h2.kept (fun j a b => hk j a)).more hs aPw, by rw [hz]; exact h3.kept (fun j a b => hk j (by omega)), by omega, by omega, h6, h7, hb⟩
theorem mO.eqr {E : Int → Addr} {r r' : Int × List Int × List aA} {w w' : World} {e : Ending} (h : mO E r w e w') (e1 : r = r') : mO E r' w e w' := e1 ▸ h
theorem aGf {xs : List Int} {l : List aA} (h : aD xs l = true) (item : ByteArray) (kind qty : Int) : oneOf (cA item (counted xs l)).level (decide ((cA item (counted xs l)).placed.kind = 4)) kind item qty = oneOf (aO item l l.length) (bW l item) kind item qty := by
 have e : cA item (counted xs l) = ⟨aO item l l.length, bA wD item l l.length, bA gR item l l.length⟩ := by
  unfold counted; rw [if_pos h, xV h item _ aPw]
 rw [e]
 rfl
set_option maxHeartbeats 40000000 in
theorem xU (w : World) (B : Nat) (E : Int → Addr) (hE : eA w B E) (g off : Nat) (ao : Option Addr) (cv no co d : Nat) (xs : List Int) (l : List aA) (kind qty dv sq : Int) (item : ByteArray) (hx : Ints w B (some ⟨g, off, none⟩) 4 xs) (h : bK w B ao no l) (hB : B ≤ w.heap.size) (bX : 4 ≤ cv) (cD : bQ ao no co) (hc : aD xs l = true) (hd : d < 4) (hi : item.size ≤ 1048576) :
  Calls Tryz.prog 109 #[.agg #[.slice (some ⟨g, off, none⟩) 4 cv, .slice ao no co], .int .i64 (d : Int), .agg #[.int .i64 kind, .string item, .int .i64 qty, .int .i64 dv, .int .i64 sq]] w (mO E (dW xs l d kind item qty) w) := by
 have iP : no ≤ 160 := by rw [← h.1]; exact eL hc
 have hlv := xK hc item l.length aPw
 have aNS : 0 ≤ aO item l l.length := rY item l l.length
 have hsl : (cA item (counted xs l)).level = aO item l l.length := by
  unfold counted; rw [if_pos hc, xV hc item _ aPw]
 have hT := rO.mk0 w #[.slice (some ⟨g, off, none⟩) 4 cv, .slice ao no co] #[.int .i64 kind, .string item, .int .i64 qty, .int .i64 dv, .int .i64 sq] #[.slice none 0 0, .slice none 0 0] 27 29 27
 have HV := aPu (hx.below hT.bel hB)
 have HO := aPu (h.below hT.bel hB)
 have HE := aPu (hE.below hT.bel hB)
 have HT := aPu hT
 have gY := aPu cD
 have HC := aPu hc
 have HR := aGf hc item kind qty
 have HON : dW xs l d kind item qty = (if (oneOf (aO item l l.length) (bW l item) kind item qty).2 = 0 then (if (aN xs l d (oneOf (aO item l l.length) (bW l item) kind item qty).1).ok = true then (0, dF xs d, bN l d (aN xs l d (oneOf (aO item l l.length) (bW l item) kind item qty).1)) else (4, [], [])) else ((oneOf (aO item l l.length) (bW l item) kind item qty).2, [], [])) := rfl
 have hoi := aAl (aO item l l.length) (bW l item) kind item qty
 generalize oneOf (aO item l l.length) (bW l item) kind item qty = r at HR HON hoi
 rw [HON]
 obtain ⟨R, hR⟩ : ∃ R : Int × List Int × List aA, R = (if r.2 = 0 then (if (aN xs l d r.1).ok = true then (0, dF xs d, bN l d (aN xs l d r.1)) else (4, [], [])) else (r.2, [], [])) := ⟨_, rfl⟩
 rw [← hR]
 have uJ := aPu hR
 have hri : r.1.item.size ≤ 1048576 := by
  rcases hoi with e | e
  ·rw [e]; exact hi
  ·rw [e]; decide
 have HR := aPu HR
 have HSL := aPu hsl
 clear hx h hT cD hE hc HON hoi hsl hR
 go_enter Tryz.func109, Tryz.ntmps109
 go_upto_region 1 with fail
 generalize ((w.alloc (.cells #[.slice (some ⟨g, off, none⟩) 4 cv, .slice ao no co] 27)).alloc (.cells #[.int .i64 kind, .string item, .int .i64 qty, .int .i64 dv, .int .i64 sq] 29)).alloc (.cells #[.slice none 0 0, .slice none 0 0] 27) = w0 at HV HO HE HT ⊢
 obtain ⟨c0, c1⟩ := pair_cells HT.out.fst
 obtain ⟨d0, d1, d2, d3, d4⟩ := kK HT.out.snd
 have lQ := HT.out.lt
 go_wp2_with fail
 refine (aK2 w0 B E HE.out (some ⟨g, off, none⟩) ao 4 cv no co xs l kind qty dv sq item HV.out HO.out (by omega) (by omega) gY.out.1 ⟨by omega, gY.out.2.1⟩ hi _ rfl (by rw [HSL.out]; exact aNS) (by rw [HSL.out]; omega)).mono ?_
 rintro e w1 ⟨rfl, hb⟩
 rw [HR.out]
 have aT := aPu (HT.out.next hb)
 have iA := aPu (HV.out.below hb (by omega))
 have cI := aPu (HO.out.below hb (by omega))
 have eZ := aPu (HE.out.below hb (by omega))
 have dZ := hb.size
 clear hb c0 c1 d0 d1 d2 d3 d4 HT HV HO HE HR HSL
 obtain ⟨o, code⟩ := r
 dsimp only at hri ⊢
 obtain ⟨c0, c1⟩ := pair_cells aT.out.fst
 by_cases uF : code = 0
 ·subst uF
  rw [F9]
  go_upto_region 2 with fail
  have aW := ((Below.refl w1.heap.size w1).alloc aPw (.cells #[.int .i64 o.dev, .int .i64 o.seq, .int .i64 o.stamp, .int .i64 o.kind, .string o.item, .int .i64 o.qty, .int .i64 o.level, .int .i64 o.undos] 50)); have aJ := aPu (aT.out.next aW); have jW := aPu (iA.out.below aW (by omega))
  have fZ := aPu (cI.out.below aW (by omega))
  have dP := aPu (eZ.out.below aW (by omega))
  have mN := aPu (heap_alloc_new w1 (.cells #[.int .i64 o.dev, .int .i64 o.seq, .int .i64 o.stamp, .int .i64 o.kind, .string o.item, .int .i64 o.qty, .int .i64 o.level, .int .i64 o.undos] 50)); have dS := aW.size; clear aW c0 c1 aT iA cI eZ; generalize w1.alloc (.cells #[.int .i64 o.dev, .int .i64 o.seq, .int .i64 o.stamp, .int .i64 o.kind, .string o.item, .int .i64 o.qty, .int .i64 o.level, .int .i64 o.undos] 50) = w2 at aJ jW fZ dP mN dS ⊢; generalize w1.heap.size = ob at dZ dS mN ⊢; obtain ⟨c0, c1⟩ := pair_cells aJ.out.fst; obtain ⟨o0, o1, o2, o3, o4, o5, o6, o7⟩ := aM mN.out
  go_wp2_with fail
  refine (aGC w2 B E dP.out g off ao cv no co d xs l o jW.out fZ.out (by omega) bX gY.out  HC.out hd hri).mono ?_
  intro e w3 gW
  obtain ⟨a, n, c, a', n', c', er, rfl⟩ := gW.form; have C1 := aPu gW; have aR := gW.bel; have bD := aPu (aJ.out.next aR); have hU := aR.size; clear gW aR c0 c1 o0 o1 o2 o3 o4 o5 o6 o7 jW fZ dP mN aJ; obtain ⟨r0, r1⟩ := pair_cells bD.out.res; obtain ⟨fO, fN⟩ := aC bD.out.res; have HX := aPu (bD.out.set2 (.slice a n c) (.slice a' n' c')).1; have bT := aPu (bD.out.bel.trans ((bD.out.set2 (.slice a n c) (.slice a' n' c')).2.mono (by omega)))
  have pL := aZ w3 (w.heap.size + 1 + 1) (.slice a n c) (.slice a' n' c'); have vX : Hid (∀ j, w2.heap.size ≤ j → ((w3.setCell ⟨w.heap.size + 1 + 1, 0, none⟩ (.slice a n c)).setCell ⟨w.heap.size + 1 + 1, 1, none⟩ (.slice a' n' c')).heap[j]? = w3.heap[j]?) := fun j hj => aF _ _ (by omega)
  go_wp2
  change bodyPost _ _ _ _ _ ((w3.setCell ⟨w.heap.size + 1 + 1, 0, none⟩ (.slice a n c)).setCell ⟨w.heap.size + 1 + 1, 1, none⟩ (.slice a' n' c'))
  clear r0 r1 fO fN; generalize (w3.setCell ⟨w.heap.size + 1 + 1, 0, none⟩ (.slice a n c)).setCell ⟨w.heap.size + 1 + 1, 1, none⟩ (.slice a' n' c') = wf at HX bT vX pL ⊢; obtain ⟨q0, q1⟩ := pair_cells HX.out; exact bodyPost_ret (v := .tuple #[.agg #[.slice a n c, .slice a' n' c'], er]) (by simp [results, Tryz.results109, go_sem, q0, q1]) rfl ((C1.out.up (by omega) vX.out pL bT.out).eqr (by rw [uJ.out]; exact (if_pos trivial).symm))
 ·obtain ⟨er, her⟩ : ∃ er, er = kJ E code := ⟨_, rfl⟩
  rw [← her]; have HER : Hid (er = kJ E code) := her; have J4 : er = .iface 226 (.pointer (some (E code))) := by rw [her]; unfold kJ; rw [if_neg uF]
  clear her
  go_upto_region 2 with fail
  have aW := ((Below.refl w1.heap.size w1).alloc aPw (.cells #[.int .i64 o.dev, .int .i64 o.seq, .int .i64 o.stamp, .int .i64 o.kind, .string o.item, .int .i64 o.qty, .int .i64 o.level, .int .i64 o.undos] 50)); have aJ := aPu (aT.out.next aW); clear aW c0 c1 aT iA cI eZ; generalize w1.alloc (.cells #[.int .i64 o.dev, .int .i64 o.seq, .int .i64 o.stamp, .int .i64 o.kind, .string o.item, .int .i64 o.qty, .int .i64 o.level, .int .i64 o.undos] 50) = w2 at aJ ⊢; generalize w1.heap.size = ob at dZ ⊢; obtain ⟨r0, r1⟩ := pair_cells aJ.out.res; obtain ⟨fO, fN⟩ := aC aJ.out.res; have HX := aPu (aJ.out.set2 (.slice none 0 0) (.slice none 0 0)).1; have bT := aPu (aJ.out.bel.trans ((aJ.out.set2 (.slice none 0 0) (.slice none 0 0)).2.mono (by omega)))
  subst J4; go_wp2
  change bodyPost _ _ _ _ _ ((w2.setCell ⟨w.heap.size + 1 + 1, 0, none⟩ (.slice none 0 0)).setCell ⟨w.heap.size + 1 + 1, 1, none⟩ (.slice none 0 0))
  clear r0 r1 fO fN; generalize (w2.setCell ⟨w.heap.size + 1 + 1, 0, none⟩ (.slice none 0 0)).setCell ⟨w.heap.size + 1 + 1, 1, none⟩ (.slice none 0 0) = wf at HX bT ⊢; obtain ⟨q0, q1⟩ := pair_cells HX.out; exact bodyPost_ret (v := .tuple #[.agg #[.slice none 0 0, .slice none 0 0], .iface 226 (.pointer (some (E code)))]) (by simp [results, Tryz.results109, go_sem, q0, q1]) rfl ((show mO E (code, [], []) w _ wf from .inl ⟨uF, by rw [← HER.out], bT.out⟩).eqr (by rw [uJ.out]; exact (if_neg uF).symm))
set_option linter.unusedVariables false
set_option linter.unusedSimpArgs false
theorem lY {w w1 : World} {x : Array Value} {z0 z1 : Value} {T : TypeId} (h : qZ w w1 x #[z0, z1] T) (u v : Value) :
  ((w1.setCell ⟨w.heap.size + 1, 0, none⟩ u).setCell ⟨w.heap.size + 1, 1, none⟩ v).heap[w.heap.size + 1]? = some (.cells #[u, v] T (0, 0)) ∧ Below (w.heap.size + 1) w1 ((w1.setCell ⟨w.heap.size + 1, 0, none⟩ u).setCell ⟨w.heap.size + 1, 1, none⟩ v) :=
 ⟨cF _ _ h.snd, dR _ _ _ _ _ _⟩
theorem aCg {w w1 : World} {x y : Array Value} {T : TypeId} (h : qZ w w1 x y T) : w.heap.size + 1 < w1.heap.size := (aPv h.snd).1
theorem Y7 : ∀ (l : List aA) (i : Nat), i < l.length → (aH l).set (i * 8 + 7) (.int .i64 ((l.getD i aA.zero).undos + 1)) = aH (l.set i (eV (l.getD i aA.zero)))
 | [], i, h => by simp at h
 | x :: l, 0, _ => rfl
 | x :: l, i + 1, h => by
  have ih := Y7 l i (by simpa using h)
  show (bR x ++ aH l).set ((i + 1) * 8 + 7) (.int .i64 ((l.getD i aA.zero).undos + 1)) = bR x ++ aH (l.set i (eV (l.getD i aA.zero)))
  rw [← ih, show (i + 1) * 8 + 7 = (i * 8 + 7) + 8 by omega]
  rfl
theorem aF6 {W : World} {base n m c : Nat} {a : Option Addr} {xs : List Value} (h : W.ownsRow base 50 8 (.slice a m c) n xs) (hn : 0 < n) : ∃ k, a = some ⟨k, 0, none⟩ ∧ base ≤ k ∧ k < W.heap.size := by
 rcases h.2 with ⟨_, e⟩ | ⟨g, cap, aV, e, hg, hc, _⟩
 ·omega
 ·injection e with e1 _ _
  exact ⟨g, e1, hg, (aPv hc).1⟩
set_option maxHeartbeats 40000000 in
theorem sP (w : World) (B : Nat) (E : Int → Addr) (hE : eA w B E) (g off : Nat) (ao : Option Addr) (cv no co d : Nat) (xs : List Int) (l : List aA) (s : Int) (hx : Ints w B (some ⟨g, off, none⟩) 4 xs) (h : bK w B ao no l) (hB : B ≤ w.heap.size) (bX : 4 ≤ cv) (cD : bQ ao no co) (hc : aD xs l = true) (hd : d < 4) :
  Calls Tryz.prog 108 #[.agg #[.slice (some ⟨g, off, none⟩) 4 cv, .slice ao no co], .int .i64 (d : Int), .int .i64 s] w (mO E (eF xs l (d : Int) s) w) := by
 obtain ⟨yL, Z4⟩ := eP hc
 obtain ⟨uA, hx1⟩ := Z4 d hd
 clear yL
 have iP : no ≤ 160 := by rw [← h.1]; exact eL hc
 have HM : Hid (∀ i, i < no → (l.getD i aA.zero).item.size ≤ 1048576) := fun i hi' => by
  have h2 := (dG (eT hc (i := i) (by rw [h.1]; exact hi'))).2.2.2.2.1
  have e : aB l i = l.getD i aA.zero := rfl; rw [← e]; omega
 have HU : Hid (∀ i, i < no → 0 ≤ (l.getD i aA.zero).undos ∧ (l.getD i aA.zero).undos ≤ 50) := fun i hi' => by
  have h2 := dG (eT hc (i := i) (by rw [h.1]; exact hi'))
  have e : aB l i = l.getD i aA.zero := rfl; rw [← e]; exact ⟨h2.2.2.2.2.2.1, h2.2.2.2.2.2.2.1⟩
 have hT := qZ.mk0 w #[.slice (some ⟨g, off, none⟩) 4 cv, .slice ao no co] #[.slice none 0 0, .slice none 0 0] 27
 have HV := aPu (hx.below hT.bel hB)
 have HO := aPu (h.below hT.bel hB)
 have HE := aPu (hE.below hT.bel hB)
 have HT := aPu hT
 have nY := aPu h.1
 have gY := aPu cD
 have HC := aPu hc
 have hvo : cG xs = true := (pV hc).1
 have M7 := hE.low
 have HNO : Hid (¬ (1 ≤ s ∧ s ≤ xs.getD d 0) → eF xs l (d : Int) s = (2, [], [])) := fun hn => by
  unfold eF; rw [if_neg (aHt hc hd hn)]
 have HYE : Hid (1 ≤ s → s ≤ xs.getD d 0 → aL xs d + (s.toNat - 1) < l.length ∧ eF xs l (d : Int) s = (if (aB l (aL xs d + (s.toNat - 1))).undos = 50 then (4, [], []) else (0, xs, dI l (aL xs d + (s.toNat - 1))))) := fun h1 h2 => by
  obtain ⟨q1, q2⟩ := aF9 hc hd h1 h2; refine ⟨q1, ?_⟩
  unfold eF; rw [q2, if_pos q1]
 clear hx h hT cD hE hc Z4
 go_enter Tryz.func108, Tryz.ntmps108
 go_upto_region 1 with fail
 generalize (w.alloc (.cells #[.slice (some ⟨g, off, none⟩) 4 cv, .slice ao no co] 27)).alloc (.cells #[.slice none 0 0, .slice none 0 0] 27) = w0 at HV HO HE HT ⊢
 obtain ⟨b, iE, he, hb, F3⟩ := HV.out.2 d hd
 injection he with he
 injection he with he1 tK
 subst he1 tK
 obtain ⟨x, pK⟩ : ∃ x, x = xs.getD d 0 := ⟨_, rfl⟩
 rw [← pK] at HNO HYE F3 uA hx1
 clear pK
 have hdi : (d : Int) < 4 := by omega
 have lQ := aCg HT.out
 obtain ⟨c0, c1⟩ := pair_cells HT.out.fst
 go_wp2_with fail
 refine (cE s 1 x w0).mono ?_
 rintro e w1 ⟨rfl, rfl⟩
 clear F3
 by_cases hin : 1 ≤ s ∧ s ≤ x
 rotate_left
 ·have sB : cO s 1 x = false := R4 (by omega)
  rw [sB]; have G2 := aPu (HNO.out hin); have g2 := aJz HE.out
  go_wp2_with fail
  refine wp_region_held_drew (S := fun w' => w'.cell? ⟨2, 0, none⟩ = some (.iface 226 (.pointer (some (E 2))))) (by kernel_rfl) g2 (fun aP => ?_)
  have cU : Hid (Below w0.heap.size w0 w0.drew) := ⟨rfl, rfl, rfl, Nat.le_refl _, fun _ _ => rfl⟩
  generalize w0.drew = z0 at cU aP ⊢; have cR := aPu (HT.out.next cU.out); obtain ⟨r0, r1⟩ := pair_cells cR.out.snd; obtain ⟨fO, fN⟩ := aC cR.out.snd; refine tj 0 ?_
  refine tj 1 ?_
  refine rk 2 rfl (fun K hK => ?_)
  go_simp
  refine hK.out _ _ ((World.cell?_of_block (a := ⟨2, 0, none⟩) (aF (w := z0) (b := w.heap.size + 1) (k := 2) (.slice none 0 0) (.slice none 0 0) (by omega))).trans aP) (fun bG => ?_)
  clear hK K
  (try simp only [Act.put, u1, u2, u3])
  refine tj 3 ?_
  refine wpAnyH_done (by kernel_rfl) ?_ _
  have HX := aPu (lY cR.out (.slice none 0 0) (.slice none 0 0)).1; have bT := aPu (cR.out.bel.trans ((lY cR.out (.slice none 0 0) (.slice none 0 0)).2.mono (by omega)))
  go_wp2
  change bodyPost _ _ _ _ _ ((z0.setCell ⟨w.heap.size + 1, 0, none⟩ (.slice none 0 0)).setCell ⟨w.heap.size + 1, 1, none⟩ (.slice none 0 0))
  clear r0 r1 fO fN aP bG; generalize ((z0.setCell ⟨w.heap.size + 1, 0, none⟩ (.slice none 0 0)).setCell ⟨w.heap.size + 1, 1, none⟩ (.slice none 0 0)) = wf at HX bT ⊢; obtain ⟨q0, q1⟩ := pair_cells HX.out; exact bodyPost_ret (v := .tuple #[.agg #[.slice none 0 0, .slice none 0 0], (.iface 226 (.pointer (some (E 2))))]) (by simp [results, Tryz.results108, go_sem, q0, q1]) rfl ((show mO E (2, [], []) w _ wf from .inl ⟨by decide, by rw [F7], bT.out⟩).eqr G2.out.symm)
 have sB : cO s 1 x = true := uP hin.1 hin.2
 obtain ⟨Z7, qS⟩ := HYE.out hin.1 hin.2
 rw [sB]
 have j3 := aPu qS
 clear qS sB
 go_wp2_with fail
 refine (uL w0 B (some ⟨g, off, none⟩) ao cv no co d xs HV.out (by omega) bX hd hvo s (by omega) (by omega)).mono ?_
 rintro e w1 ⟨rfl, aE⟩
 generalize aL xs d + (s.toNat - 1) = q at Z7 j3 ⊢
 have aT := aPu (HT.out.next aE)
 have iA := aPu (HV.out.below aE (by omega))
 have cI := aPu (HO.out.below aE (by omega))
 have eZ := aPu (HE.out.below aE (by omega))
 have dZ := aE.size
 clear aE c0 c1 HT HV HO HE HNO HYE
 obtain ⟨c0, c1⟩ := pair_cells aT.out.fst
 have hqn : q < no := by have := nY.out; omega
 have hqi : (q : Int) < (no : Int) := by omega
 obtain ⟨bo, oo, rfl, hbo, vI⟩ := cI.out.2 q hqn
 obtain ⟨_, _, _, _, _, _, _, u7⟩ := vI
 obtain ⟨M4, hu1⟩ := HU.out q hqn
 obtain ⟨u, uB⟩ : ∃ u, u = (l.getD q aA.zero).undos := ⟨_, rfl⟩
 rw [← uB] at u7 M4 hu1
 have HUE := aPu uB
 clear uB
 by_cases g9 : u = 50
 ·subst g9
  have G2 : Hid (eF xs l (d : Int) s = (4, [], [])) := by
   show _ = _
   rw [j3.out]; exact if_pos HUE.out.symm
  have g4 := aJy eZ.out
  go_wp2_with fail
  refine wp_region_held_drew (S := fun w' => w'.cell? ⟨4, 0, none⟩ = some (.iface 226 (.pointer (some (E 4))))) (by kernel_rfl) g4 (fun aP => ?_)
  have cU : Hid (Below w1.heap.size w1 w1.drew) := ⟨rfl, rfl, rfl, Nat.le_refl _, fun _ _ => rfl⟩
  generalize w1.drew = z0 at cU aP ⊢; have cR := aPu (aT.out.next cU.out); obtain ⟨r0, r1⟩ := pair_cells cR.out.snd; obtain ⟨fO, fN⟩ := aC cR.out.snd; refine tj 0 ?_
  refine tj 1 ?_
  refine rk 2 rfl (fun K hK => ?_)
  go_simp
  refine hK.out _ _ ((World.cell?_of_block (a := ⟨4, 0, none⟩) (aF (w := z0) (b := w.heap.size + 1) (k := 4) (.slice none 0 0) (.slice none 0 0) (by omega))).trans aP) (fun bG => ?_)
  clear hK K
  (try simp only [Act.put, u1, u2, u3])
  refine tj 3 ?_
  refine wpAnyH_done (by kernel_rfl) ?_ _
  have HX := aPu (lY cR.out (.slice none 0 0) (.slice none 0 0)).1; have bT := aPu (cR.out.bel.trans ((lY cR.out (.slice none 0 0) (.slice none 0 0)).2.mono (by omega)))
  go_wp2
  change bodyPost _ _ _ _ _ ((z0.setCell ⟨w.heap.size + 1, 0, none⟩ (.slice none 0 0)).setCell ⟨w.heap.size + 1, 1, none⟩ (.slice none 0 0))
  clear r0 r1 fO fN aP bG; generalize ((z0.setCell ⟨w.heap.size + 1, 0, none⟩ (.slice none 0 0)).setCell ⟨w.heap.size + 1, 1, none⟩ (.slice none 0 0)) = wf at HX bT ⊢; obtain ⟨q0, q1⟩ := pair_cells HX.out; exact bodyPost_ret (v := .tuple #[.agg #[.slice none 0 0, .slice none 0 0], (.iface 226 (.pointer (some (E 4))))]) (by simp [results, Tryz.results108, go_sem, q0, q1]) rfl ((show mO E (4, [], []) w _ wf from .inl ⟨by decide, by rw [aGZ], bT.out⟩).eqr G2.out.symm)
 have aPm : (u == 50) = false := beq_eq_false_iff_ne.2 g9
 have G2 : Hid (eF xs l (d : Int) s = (0, xs, dI l q)) := by
  show _ = _
  rw [j3.out]; exact if_neg (fun h => g9 (HUE.out.trans h))
 go_wp2_with fail
 clear u7
 refine (C8 w1 B g off (some ⟨bo, oo, none⟩) 4 cv no co xs l iA.out cI.out (by omega) (by omega) (by omega) (by omega) gY.out.2.2  HM.out).mono ?_
 rintro e w8 ⟨va, vc, oa, oc, cQ, rfl, aY, jL, Z9, nP, tM, jO⟩
 have HT8 := aPu (aT.out.next tM)
 have hs8 := tM.size
 obtain ⟨go, rfl, aPb, aNX⟩ := aF6 jL (by have := nY.out; omega)
 have HW8 := aPu aY
 have HCA := aPu jO
 have HR8 := aPu jL
 have S9 := aCg aT.out
 clear tM aY jO jL c0 c1 aT iA cI eZ
 go_upto_region 7 with fail
 have aW := ((Below.refl w8.heap.size w8).alloc aPw (.cells #[.slice va xs.length vc, .slice (some ⟨go, 0, none⟩) l.length oc] 27))
 have HT9 := aPu (HT8.out.next aW)
 have HW9 := aPu (HW8.out.below aW (by omega))
 have V4 := aPu (rU (B := 0) HR8.out aW)
 have O0 := aPu (heap_alloc_new w8 (.cells #[.slice va xs.length vc, .slice (some ⟨go, 0, none⟩) l.length oc] 27))
 have qT := aW.size
 clear aW HT8 HW8 HR8
 generalize w8.alloc (.cells #[.slice va xs.length vc, .slice (some ⟨go, 0, none⟩) l.length oc] 27) = w9 at HT9 HW9 V4 O0 qT ⊢
 have hx9 : w8.heap.size < w9.heap.size := (aPv O0.out).1
 generalize w8.heap.size = nb at hs8 qT hx9 O0 nP aNX ⊢
 obtain ⟨c0, c1⟩ := pair_cells O0.out
 have hql : (q : Int) < (l.length : Int) := by have := nY.out; omega
 have hqk : q < l.length := by have := nY.out; omega
 have hcu : (aH l)[q * 8 + 7]? = some (.int .i64 u) := by
  rw [HUE.out]; exact (sU l q 7 hqk (by omega)).trans rfl
 have u7 : w9.cell? ⟨go, q * 8 + 7, none⟩ = some (.int .i64 u) := (V4.out.cellAt (q * 8 + 7) (by omega)).trans hcu
 have f7 : w9.frozen? ⟨go, q * 8 + 7, none⟩ = false := V4.out.frozenAt (q * 8 + 7)
 have hwu : IntKind.i64.wrap (u + 1) = u + 1 := IntWalk.i64_in _ (by omega)
 have eB := V4.out.stored (q * 8 + 7) (.int .i64 (u + 1))
 have HRa : Hid ((w9.setCell ⟨go, q * 8 + 7, none⟩ (.int .i64 (u + 1))).ownsRow cQ 50 8 (.slice (some ⟨go, 0, none⟩) l.length oc) l.length (aH (dI l q))) := by
  have e : aH (dI l q) = (aH l).set (q * 8 + 7) (.int .i64 (u + 1)) := by
   rw [HUE.out]; exact (Y7 l q hqk).symm
  rw [e]; exact eB.1
 have iS : Below go w9 (w9.setCell ⟨go, q * 8 + 7, none⟩ (.int .i64 (u + 1))) := gV _ _ _ _
 have nK : Hid (qZ w (w9.setCell ⟨go, q * 8 + 7, none⟩ (.int .i64 (u + 1))) #[.slice (some ⟨g, off, none⟩) 4 cv, .slice (some ⟨bo, oo, none⟩) no co] #[.slice none 0 0, .slice none 0 0] 27) := ⟨(iS.block _ (by omega)).trans HT9.out.fst, (iS.block _ (by omega)).trans HT9.out.snd, HT9.out.bel.trans (iS.mono (by omega))⟩
 have HWa := aPu (HW9.out.below iS (by omega))
 have HNa : Hid ((w9.setCell ⟨go, q * 8 + 7, none⟩ (.int .i64 (u + 1))).heap[nb]? = some (.cells #[.slice va xs.length vc, .slice (some ⟨go, 0, none⟩) l.length oc] 27 (0, 0))) := (heap_setCell_other _ _ _ _ (by show nb ≠ go; omega)).trans O0.out
 have hsa : (w9.setCell ⟨go, q * 8 + 7, none⟩ (.int .i64 (u + 1))).heap.size = w9.heap.size := by simp [World.setCell]
 clear eB hcu
 go_upto_region 8 with fail
 generalize w9.setCell ⟨go, q * 8 + 7, none⟩ (.int .i64 (u + 1)) = wa at HRa nK HWa HNa hsa ⊢
 clear c0 c1 u7 f7 iS HT9 HW9 V4 O0
 obtain ⟨c0, c1⟩ := pair_cells HNa.out
 obtain ⟨r0, r1⟩ := pair_cells nK.out.snd
 obtain ⟨fO, fN⟩ := aC nK.out.snd
 have A7 := lY nK.out (.slice va xs.length vc) (.slice (some ⟨go, 0, none⟩) l.length oc)
 have HX := aPu A7.1
 have bT : Hid (Below w.heap.size w ((wa.setCell ⟨w.heap.size + 1, 0, none⟩ (.slice va xs.length vc)).setCell ⟨w.heap.size + 1, 1, none⟩ (.slice (some ⟨go, 0, none⟩) l.length oc))) := nK.out.bel.trans (A7.2.mono (by omega))
 have vU : Hid (Own ((wa.setCell ⟨w.heap.size + 1, 0, none⟩ (.slice va xs.length vc)).setCell ⟨w.heap.size + 1, 1, none⟩ (.slice (some ⟨go, 0, none⟩) l.length oc)) w1.heap.size cQ va xs.length xs) := HWa.out.kept (fun j h1 h2 => aF _ _ (by omega))
 have HRf := aPu (eG (vD (W' := ((wa.setCell ⟨w.heap.size + 1, 0, none⟩ (.slice va xs.length vc)).setCell ⟨w.heap.size + 1, 1, none⟩ (.slice (some ⟨go, 0, none⟩) l.length oc))) HRa.out (fun k y e hk => aF _ _ (by omega))) aPw)
 have HCf := aPu (gB HRa.out)
 have tC : ((wa.setCell ⟨w.heap.size + 1, 0, none⟩ (.slice va xs.length vc)).setCell ⟨w.heap.size + 1, 1, none⟩ (.slice (some ⟨go, 0, none⟩) l.length oc)).heap.size = wa.heap.size := aZ _ _ _ _
 clear A7
 go_wp2
 change bodyPost _ _ _ _ _ ((wa.setCell ⟨w.heap.size + 1, 0, none⟩ (.slice va xs.length vc)).setCell ⟨w.heap.size + 1, 1, none⟩ (.slice (some ⟨go, 0, none⟩) l.length oc))
 clear c0 c1 r0 r1 fO fN nK HWa HNa HRa
 generalize ((wa.setCell ⟨w.heap.size + 1, 0, none⟩ (.slice va xs.length vc)).setCell ⟨w.heap.size + 1, 1, none⟩ (.slice (some ⟨go, 0, none⟩) l.length oc)) = wf at HX bT vU HRf tC ⊢
 obtain ⟨q0, q1⟩ := pair_cells HX.out
 have htl : (dI l q).length = l.length := jY l q
 refine bodyPost_ret (v := .tuple #[.agg #[.slice va xs.length vc, .slice (some ⟨go, 0, none⟩) l.length oc], .nilIface]) (by simp [results, Tryz.results108, go_sem, q0, q1]) rfl (mO.eqr (show mO E (0, xs, dI l q) w _ wf from .inr ⟨rfl, va, vc, some ⟨go, 0, none⟩, oc, cQ, ?_, vU.out.more (by omega) aPw, ?_, by omega, by omega, HCA.out, ?_, bT.out⟩) G2.out.symm)
 ·show _ = Ending.returned (.tuple #[.agg #[_, .slice _ (dI l q).length _], _])
  rw [htl]
 ·show bB wf cQ wf.heap.size _ (dI l q).length (dI l q)
  rw [htl]; exact HRf.out
 ·show bQ _ (dI l q).length oc
  rw [htl]; exact HCf.out
end Go.Proofs.YthkagbnpcjidfaaGreatDoor
