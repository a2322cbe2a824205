/- Walks and mathematics that several claims share, part 36. -/
import Derived.Test.YthkagbnpcjidfaaGreatDoorGu30
import Derived.Test.YthkagbnpcjidfaaGreatDoorGu32
import Derived.Test.YthkagbnpcjidfaaGreatDoorGu35
import Derived.Deep.Cut
import Derived.Deep.RegionHeld
import Derived.Lib.Hide
namespace Go.Proofs.YthkagbnpcjidfaaGreatDoor
set_option maxRecDepth 100000
open Go.RowKit
set_option linter.unusedVariables false
set_option linter.unusedSimpArgs false
def mX (E : Int → Addr) (r : Int × List Int × List aA) (w : World) (e : Ending) (w' : World) : Prop :=
 (r.1 ≠ 0 ∧ e = .returned (.tuple #[.agg #[.slice none 0 0, .slice none 0 0], kM E r.1]) ∧ Below w.heap.size w w') ∨
 (r.1 = 0 ∧ ∃ va vc oa oc bY, e = .returned (.tuple #[.agg #[.slice va r.2.1.length vc, .slice oa r.2.2.length oc], .nilIface]) ∧ Own w' w.heap.size bY va r.2.1.length r.2.1 ∧ bB w' bY w'.heap.size oa r.2.2.length r.2.2 ∧ w.heap.size ≤ bY ∧ bY ≤ w'.heap.size ∧ bM va r.2.1.length vc ∧ bM oa r.2.2.length oc ∧ Below w.heap.size w w')
theorem aHc (E : Int → Addr) : kM E 4 = .iface 226 (.pointer (some (E 4))) := by unfold kM; rw [if_neg (by decide)]
theorem aJs {w : World} {B : Nat} {E : Int → Addr} (h : eG w B E) : w.cell? ⟨4, 0, none⟩ = some (.iface 226 (.pointer (some (E 4)))) := h.cells 4 (by omega) (by omega)
theorem aJt {w : World} {B : Nat} {E : Int → Addr} (h : eG w B E) : w.cell? ⟨2, 0, none⟩ = some (.iface 226 (.pointer (some (E 2)))) := h.cells 2 (by omega) (by omega)
theorem aBF {w w1 : World} {x y z : Array Value} (h : iR w w1 x y z) (u0 u1 u2 : Value) : iR w (((w1.setCell ⟨w.heap.size + 1, 0, none⟩ u0).setCell ⟨w.heap.size + 1, 1, none⟩ u1).setCell ⟨w.heap.size + 1, 2, none⟩ u2) x (((y.setIfInBounds 0 u0).setIfInBounds 1 u1).setIfInBounds 2 u2) z := ((h.put 0 u0).put 1 u1).put 2 u2
set_option maxHeartbeats 40000000 in
theorem aFi (w : World) (B : Nat) (E : Int → Addr) (hE : eG w B E) (g off : Nat) (ao : Option Addr) (cv no co d : Nat) (xs : List Int) (l : List aA) (o : aA) (hx : Ints w B (some ⟨g, off, none⟩) 4 xs) (h : bP w B ao no l) (hB : B ≤ w.heap.size) (bW : 4 ≤ cv) (cB : bM ao no co) (hc : aE xs l = true) (hd : d < 4) (hi : o.item.size ≤ 1048576) (hok : (aQ xs l d o).ok = false) :
  Calls Tryz.prog 135 #[.agg #[.slice (some ⟨g, off, none⟩) 4 cv, .slice ao no co], .int .i64 (d : Int), .agg #[.int .i64 o.dev, .int .i64 o.seq, .int .i64 o.stamp, .int .i64 o.kind, .string o.item, .int .i64 o.qty, .int .i64 o.level, .int .i64 o.undos]] w (mX E (4, [], []) w) := by
 obtain ⟨yJ, hxa⟩ := iH hc
 obtain ⟨qD, hx1⟩ := hxa d hd
 have hM : no ≤ 160 := by rw [← h.1]; exact eF hc
 have dF : ∀ i, i < l.length → (aC l i).stamp ≤ 200000 := fun i hi' => by
  have h2 := (dK (eU hc hi')).2.2.2.1; omega
 have HM : Hid (∀ i, i < no → (l.getD i aA.zero).item.size ≤ 1048576) := fun i hi' => by
  have h2 := (dK (eU hc (i := i) (by rw [h.1]; exact hi'))).2.2.2.2.1
  have e : aC l i = l.getD i aA.zero := rfl; rw [← e]; omega
 have wQ := oN l l.length
 have bG := sH (N := 200000) (by omega) dF l.length aPq
 have hT := iR.mk0 w #[.slice (some ⟨g, off, none⟩) 4 cv, .slice ao no co] #[.int .i64 o.dev, .int .i64 o.seq, .int .i64 o.stamp, .int .i64 o.kind, .string o.item, .int .i64 o.qty, .int .i64 o.level, .int .i64 o.undos] #[.slice none 0 0, .slice none 0 0]
 have HV := aPo (hx.below hT.bel hB)
 have HO := aPo (h.below hT.bel hB)
 have HE := aPo (hE.below hT.bel hB)
 have HT := aPo hT
 have nV := aPo h.1
 have gS := aPo cB
 have HC := aPo hc
 have V9 : Hid (dM (d : Int) (xs.getD d 0 + 1) (cZ l l.length + 1) o.kind o.item o.qty o.level o.undos = false) := hok
 have O4 : Hid (aQ xs l d o = ⟨(d : Int), xs.getD d 0 + 1, cZ l l.length + 1, o.kind, o.item, o.qty, o.level, o.undos⟩) := rfl
 have zN : Hid (eE xs d = xs.set d (xs.getD d 0 + 1)) := rfl
 have N6 := hE.low
 clear hx h hT dF hok cB hE hc hxa
 go_enter Tryz.func135, Tryz.ntmps135
 go_upto_region 1 with fail
 rename_i KR c9
 generalize ((w.alloc (.cells #[.slice (some ⟨g, off, none⟩) 4 cv, .slice ao no co] 27)).alloc (.cells #[.int .i64 o.dev, .int .i64 o.seq, .int .i64 o.stamp, .int .i64 o.kind, .string o.item, .int .i64 o.qty, .int .i64 o.level, .int .i64 o.undos] 50)).alloc (.cells #[.slice none 0 0, .slice none 0 0] 27) = w0 at HV HO HE HT ⊢
 obtain ⟨b, sM, he, hb, hc⟩ := HV.out.2 d hd
 injection he with he
 injection he with he1 yR
 subst he1 yR
 obtain ⟨x, pM⟩ : ∃ x, x = xs.getD d 0 := ⟨_, rfl⟩
 obtain ⟨S, eK⟩ : ∃ S, S = cZ l l.length := ⟨_, rfl⟩
 rw [← pM, ← eK] at V9 O4
 rw [← pM] at hc qD hx1 zN
 rw [← eK] at wQ bG
 have HSE := aPo eK
 have HXE := aPo pM
 clear pM eK
 have hdi : (d : Int) < 4 := by omega
 have jW := HT.out.lt
 have hwx : IntKind.i64.wrap (x + 1) = x + 1 := IntWalk.i64_in _ (by omega)
 have hws : IntKind.i64.wrap (S + 1) = S + 1 := IntWalk.i64_in _ (by omega)
 have hS : w0.cell? ⟨w.heap.size, 0, none⟩ = some (.slice (some ⟨g, off, none⟩) 4 cv) ∧ w0.cell? ⟨w.heap.size, 1, none⟩ = some (.slice ao no co) ∧ w0.cell? ⟨g, off + d, none⟩ = some (.int .i64 x) := ⟨(pair_cells HT.out.fst).1, (pair_cells HT.out.fst).2, hc⟩
 refine wp_region_held_drew (S := fun w' => w'.cell? ⟨w.heap.size, 0, none⟩ = some (.slice (some ⟨g, off, none⟩) 4 cv) ∧ w'.cell? ⟨w.heap.size, 1, none⟩ = some (.slice ao no co) ∧ w'.cell? ⟨g, off + d, none⟩ = some (.int .i64 x)) (by kernel_rfl) hS (fun aL => ?_)
 have cS : Hid (Below w0.heap.size w0 w0.drew) := ⟨rfl, rfl, rfl, Nat.le_refl _, fun _ _ => rfl⟩
 generalize w0.drew = z0 at cS aL ⊢
 refine tj 0 ?_
 refine tj 1 ?_
 refine tj 2 ?_
 refine tj 3 ?_
 refine tj 4 ?_
 refine tj 5 ?_
 refine tj 6 ?_
 refine tj 7 ?_
 refine tj 8 ?_
 refine tj 11 ?_
 refine rk 9 rfl (fun K hK => ?_)
 go_simp
 go_at_call 154
 refine (aAp z0 B ao no co l (HO.out.below cS.out (by omega)) (by have := cS.out.size; omega) (by omega)).mono ?_
 rintro e z1 ⟨rfl, gQ⟩
 rw [← HSE.out]
 have cU : Hid (Below w0.heap.size w0 z1) := cS.out.trans (gQ.mono cS.out.size)
 have bC := aPo (HT.out.next cU.out)
 have bG : z1.cell? ⟨w.heap.size, 0, none⟩ = some (.slice (some ⟨g, off, none⟩) 4 cv) ∧ z1.cell? ⟨w.heap.size, 1, none⟩ = some (.slice ao no co) ∧ z1.cell? ⟨g, off + d, none⟩ = some (.int .i64 x) := ⟨(pair_cells bC.out.fst).1, (pair_cells bC.out.fst).2, (cU.out.cell (p := ⟨g, off + d, none⟩) (by show g < _; omega)).trans hc⟩
 clear gQ
 refine hK.out _ _ bG (fun bS => ?_)
 clear hK K
 (try simp only [Act.put, u1, u2, u3])
 obtain ⟨o0, o1, o2, o3, o4, o5, o6, o7⟩ := aN bC.out.snd
 obtain ⟨f0, f1, f2, f3, f4, f5, f6, f7⟩ := cP bC.out.snd
 have hSt : ∀ (W : World), (∀ k, k ≠ w.heap.size + 1 → W.heap[k]? = z1.heap[k]?) → W.cell? ⟨w.heap.size, 0, none⟩ = some (.slice (some ⟨g, off, none⟩) 4 cv) ∧ W.cell? ⟨w.heap.size, 1, none⟩ = some (.slice ao no co) ∧ W.cell? ⟨g, off + d, none⟩ = some (.int .i64 x) := fun W hW => ⟨(World.cell?_of_block (a := ⟨w.heap.size, 0, none⟩) (hW _ (by show w.heap.size ≠ w.heap.size + 1; omega))).trans bG.1, (World.cell?_of_block (a := ⟨w.heap.size, 1, none⟩) (hW _ (by show w.heap.size ≠ w.heap.size + 1; omega))).trans bG.2.1, (World.cell?_of_block (a := ⟨g, off + d, none⟩) (hW _ (by show g ≠ w.heap.size + 1; omega))).trans bG.2.2⟩
 refine tj 10 ?_
 refine rk 12 rfl (fun K hK => ?_)
 go_simp
 refine hK.out _ _ (hSt _ (fun k hk => heap_setCell_other _ _ _ _ hk)) (fun dQ => ?_)
 clear hK K
 (try simp only [Act.put, u1, u2, u3])
 refine tj 13 ?_
 refine rk 14 rfl (fun K hK => ?_)
 go_simp
 refine hK.out _ _ (hSt _ (fun k hk => (heap_setCell_other _ _ _ _ hk).trans (heap_setCell_other _ _ _ _ hk))) (fun lC => ?_)
 clear hK K
 (try simp only [Act.put, u1, u2, u3])
 refine tj 15 ?_
 refine rk 16 rfl (fun K hK => ?_)
 go_simp
 refine hK.out _ _ (hSt _ (fun k hk => (heap_setCell_other _ _ _ _ hk).trans ((heap_setCell_other _ _ _ _ hk).trans (heap_setCell_other _ _ _ _ hk)))) (fun jN => ?_)
 clear hK K
 (try simp only [Act.put, u1, u2, u3])
 refine wpAnyH_done (by kernel_rfl) ?_ _
 have nT : Hid (iR w (((z1.setCell ⟨w.heap.size + 1, 0, none⟩ (.int .i64 (d : Int))).setCell ⟨w.heap.size + 1, 1, none⟩ (.int .i64 (x + 1))).setCell ⟨w.heap.size + 1, 2, none⟩ (.int .i64 (S + 1))) #[.slice (some ⟨g, off, none⟩) 4 cv, .slice ao no co] #[.int .i64 (d : Int), .int .i64 (x + 1), .int .i64 (S + 1), .int .i64 o.kind, .string o.item, .int .i64 o.qty, .int .i64 o.level, .int .i64 o.undos] #[.slice none 0 0, .slice none 0 0]) := aBF bC.out _ _ _
 have lF : Hid (Below (w.heap.size + 1) w0 (((z1.setCell ⟨w.heap.size + 1, 0, none⟩ (.int .i64 (d : Int))).setCell ⟨w.heap.size + 1, 1, none⟩ (.int .i64 (x + 1))).setCell ⟨w.heap.size + 1, 2, none⟩ (.int .i64 (S + 1)))) := ((cU.out.mono (by omega)).trans (dY _ _ _ _ _ _)).trans (gN _ _ _ _)
 have qI := aPo (HV.out.below lF.out (by omega))
 have oW := aPo (HO.out.below lF.out (by omega))
 have wW := aPo (HE.out.below lF.out (by omega))
 clear o0 o1 o2 o3 o4 o5 o6 o7 f0 f1 f2 f3 f4 f5 f6 f7 hSt aL bS dQ lC jN hS bG HT bC cU HV HO HE lF hc jW
 have pP := nT.out.lt
 generalize (((z1.setCell ⟨w.heap.size + 1, 0, none⟩ (.int .i64 (d : Int))).setCell ⟨w.heap.size + 1, 1, none⟩ (.int .i64 (x + 1))).setCell ⟨w.heap.size + 1, 2, none⟩ (.int .i64 (S + 1))) = w4 at nT qI oW wW pP ⊢
 apply c9
 clear c9 KR
 obtain ⟨o0, o1, o2, o3, o4, o5, o6, o7⟩ := aN (show w4.heap[w.heap.size + 1]? = some (.cells #[.int .i64 (d : Int), .int .i64 (x + 1), .int .i64 (S + 1), .int .i64 o.kind, .string o.item, .int .i64 o.qty, .int .i64 o.level, .int .i64 o.undos] 50 (0, 0)) from nT.out.snd)
 go_wp2_with fail
 refine (kY (d : Int) (x + 1) (S + 1) o.kind o.item o.qty o.level o.undos w4).mono ?_
 rintro e w5 ⟨rfl, bA⟩
 rw [V9.out]
 have qV := aPo (nT.out.next bA)
 have HV5 := aPo (qI.out.below bA (by omega))
 have W3 := aPo (oW.out.below bA (by omega))
 have G9 := aPo (wW.out.below bA (by omega))
 have hl5 := qV.out.lt
 clear bA nT qI oW wW pP o0 o1 o2 o3 o4 o5 o6 o7
 have g4 := aJs G9.out
 obtain ⟨bR, eN⟩ : Hid (((w5.setCell ⟨w.heap.size + 1 + 1, 0, none⟩ (.slice none 0 0)).setCell ⟨w.heap.size + 1 + 1, 1, none⟩ (.slice none 0 0)).heap[w.heap.size + 1 + 1]? = some (.cells #[.slice none 0 0, .slice none 0 0] 27 (0, 0))) ∧ True := ⟨(qV.out.set2 (.slice none 0 0) (.slice none 0 0)).1, trivial⟩
 clear bR eN
 go_wp2_with fail
 refine wp_region_held_drew (S := fun w' => w'.cell? ⟨4, 0, none⟩ = some (.iface 226 (.pointer (some (E 4))))) (by kernel_rfl) g4 (fun aL => ?_)
 have cS : Hid (Below w5.heap.size w5 w5.drew) := ⟨rfl, rfl, rfl, Nat.le_refl _, fun _ _ => rfl⟩
 generalize w5.drew = z5 at cS aL ⊢
 have zO := aPo (qV.out.next cS.out)
 clear qV
 obtain ⟨r0, r1⟩ := pair_cells zO.out.res
 obtain ⟨g0, g1⟩ := aB zO.out.res
 refine tj 0 ?_
 refine tj 1 ?_
 refine rk 2 rfl (fun K hK => ?_)
 go_simp
 refine hK.out _ _ ((World.cell?_of_block (a := ⟨4, 0, none⟩) (aD (w := z5) (b := w.heap.size + 1 + 1) (k := 4) (.slice none 0 0) (.slice none 0 0) (by omega))).trans aL) (fun bS => ?_)
 clear hK K
 (try simp only [Act.put, u1, u2, u3])
 refine tj 3 ?_
 refine wpAnyH_done (by kernel_rfl) ?_ _
 have bR := aPo (zO.out.set2 (.slice none 0 0) (.slice none 0 0)).1
 have eN := aPo (zO.out.bel.trans ((zO.out.set2 (.slice none 0 0) (.slice none 0 0)).2.mono (by omega)))
 go_wp2
 change bodyPost _ _ _ _ _ ((z5.setCell ⟨w.heap.size + 1 + 1, 0, none⟩ (.slice none 0 0)).setCell ⟨w.heap.size + 1 + 1, 1, none⟩ (.slice none 0 0))
 clear r0 r1 g0 g1 aL bS
 generalize ((z5.setCell ⟨w.heap.size + 1 + 1, 0, none⟩ (.slice none 0 0)).setCell ⟨w.heap.size + 1 + 1, 1, none⟩ (.slice none 0 0)) = wf at bR eN ⊢
 obtain ⟨q0, q1⟩ := pair_cells bR.out
 exact bodyPost_ret (v := .tuple #[.agg #[.slice none 0 0, .slice none 0 0], (.iface 226 (.pointer (some (E 4))))]) (by simp [results, Tryz.results135, go_sem, q0, q1]) rfl (.inl ⟨by decide, by rw [aHc], eN.out⟩)
theorem vH {W W' : World} {base n m c : Nat} {a : Option Addr} {xs : List Value} (h : W.ownsRow base 50 8 (.slice a m c) n xs) (hk : ∀ k x, a = some ⟨k, x, none⟩ → base ≤ k → W'.heap[k]? = W.heap[k]?) : W'.ownsRow base 50 8 (.slice a m c) n xs := by
 refine ⟨h.1, ?_⟩
 rcases h.2 with h2 | ⟨g, cap, aW, e, hg, hc, r⟩
 ·exact .inl h2
 ·have e0 := e
  injection e0 with e1 _ _; exact .inr ⟨g, cap, aW, e, hg, (hk g 0 e1 hg).trans hc, r⟩
theorem aJU {W : World} {base n m c b : Nat} {a : Option Addr} {xs : List Value} {cs : Array Value} {T : TypeId} (h : W.ownsRow base 50 8 (.slice a m c) n xs) (hb : W.heap[b]? = some (.cells cs T (0, 0))) (hT : T ≠ 50) : ∀ k x, a = some ⟨k, x, none⟩ → k ≠ b := by
 intro k x e F5
 rcases h.2 with ⟨e2, _⟩ | ⟨g, cap, aW, e2, hg, hc, r⟩
 ·injection e2 with e3 _ _
  rw [e] at e3; cases e3
 ·injection e2 with e3 _ _
  rw [e] at e3; injection e3 with e3; injection e3 with e4 _; subst e4 F5; rw [hc] at hb; injection hb with hb; injection hb with _ hb _; exact hT hb.symm
theorem aJ4 {w : World} {lo hi gv n d : Nat} {aW : Array Value} {xs : List Int} (x : Int) (hl : xs.length = n) (hd : d < n) (h1 : lo ≤ gv) (h2 : gv < hi) (hg : w.heap[gv]? = some (.cells aW 2 (0, 0))) (hc : ∀ i, i < n → aW[i]? = some (.int .i64 (xs.getD i 0))) : Own (w.setCell ⟨gv, d, none⟩ (.int .i64 x)) lo hi (some ⟨gv, 0, none⟩) n (xs.set d x) := by
 refine ⟨by simp [hl], fun _ => ⟨gv, aW.setIfInBounds d (.int .i64 x), rfl, h1, h2, heap_setCell_same _ _ _ _ _ _ hg, fun i hi => ?_⟩⟩
 have hs : d < aW.size := (aPp (hc d hd)).1
 rw [Array.getElem?_setIfInBounds, jZ (by omega)]
 by_cases e : d = i
 ·subst e
  rw [if_pos rfl, if_pos hs, if_pos rfl]
 ·rw [if_neg e, if_neg e]
  exact hc i hi
theorem aMM {G : Prop} {F : Nat → World → Prop} (T : Nat → World → Prop) (h1 : (∀ vb z, F vb z → T vb z) → G) (h2 : ∀ vb z, F vb z → T vb z) : G := h1 h2
theorem dA {P : Program} {ops : Array Oper} {Q : Exit → Act → World → Prop} {md : Region.Mode} {S : World → Prop} {fuel : Nat} {l l' : Array Bool} {a : Act} {w : World} (h : l = l') (hw : wpAnyH P md ops Q S fuel l' a w) : wpAnyH P md ops Q S fuel l a w := h ▸ hw
set_option maxHeartbeats 40000000 in
theorem aEf (w : World) (B : Nat) (E : Int → Addr) (hE : eG w B E) (g off : Nat) (ao : Option Addr) (cv no co d : Nat) (xs : List Int) (l : List aA) (o : aA) (hx : Ints w B (some ⟨g, off, none⟩) 4 xs) (h : bP w B ao no l) (hB : B ≤ w.heap.size) (bW : 4 ≤ cv) (cB : bM ao no co) (hc : aE xs l = true) (hd : d < 4) (hi : o.item.size ≤ 1048576) (hok : (aQ xs l d o).ok = true) :
  Calls Tryz.prog 135 #[.agg #[.slice (some ⟨g, off, none⟩) 4 cv, .slice ao no co], .int .i64 (d : Int), .agg #[.int .i64 o.dev, .int .i64 o.seq, .int .i64 o.stamp, .int .i64 o.kind, .string o.item, .int .i64 o.qty, .int .i64 o.level, .int .i64 o.undos]] w (mX E (0, eE xs d, cI l d (aQ xs l d o)) w) := by
 obtain ⟨yJ, hxa⟩ := iH hc
 obtain ⟨qD, hx1⟩ := hxa d hd
 have hM : no ≤ 160 := by rw [← h.1]; exact eF hc
 have dF : ∀ i, i < l.length → (aC l i).stamp ≤ 200000 := fun i hi' => by
  have h2 := (dK (eU hc hi')).2.2.2.1; omega
 have HM : Hid (∀ i, i < no → (l.getD i aA.zero).item.size ≤ 1048576) := fun i hi' => by
  have h2 := (dK (eU hc (i := i) (by rw [h.1]; exact hi'))).2.2.2.2.1
  have e : aC l i = l.getD i aA.zero := rfl; rw [← e]; omega
 have wQ := oN l l.length
 have bG := sH (N := 200000) (by omega) dF l.length aPq
 have hT := iR.mk0 w #[.slice (some ⟨g, off, none⟩) 4 cv, .slice ao no co] #[.int .i64 o.dev, .int .i64 o.seq, .int .i64 o.stamp, .int .i64 o.kind, .string o.item, .int .i64 o.qty, .int .i64 o.level, .int .i64 o.undos] #[.slice none 0 0, .slice none 0 0]
 have HV := aPo (hx.below hT.bel hB)
 have HO := aPo (h.below hT.bel hB)
 have HE := aPo (hE.below hT.bel hB)
 have HT := aPo hT
 have nV := aPo h.1
 have gS := aPo cB
 have HC := aPo hc
 have V9 : Hid (dM (d : Int) (xs.getD d 0 + 1) (cZ l l.length + 1) o.kind o.item o.qty o.level o.undos = true) := hok
 have O4 : Hid (aQ xs l d o = ⟨(d : Int), xs.getD d 0 + 1, cZ l l.length + 1, o.kind, o.item, o.qty, o.level, o.undos⟩) := rfl
 have zN : Hid (eE xs d = xs.set d (xs.getD d 0 + 1)) := rfl
 have N6 := hE.low
 clear hx h hT dF hok cB hE hc hxa
 go_enter Tryz.func135, Tryz.ntmps135
 go_upto_region 1 with fail
 rename_i KR c9
 generalize ((w.alloc (.cells #[.slice (some ⟨g, off, none⟩) 4 cv, .slice ao no co] 27)).alloc (.cells #[.int .i64 o.dev, .int .i64 o.seq, .int .i64 o.stamp, .int .i64 o.kind, .string o.item, .int .i64 o.qty, .int .i64 o.level, .int .i64 o.undos] 50)).alloc (.cells #[.slice none 0 0, .slice none 0 0] 27) = w0 at HV HO HE HT ⊢
 obtain ⟨b, sM, he, hb, hc⟩ := HV.out.2 d hd
 injection he with he
 injection he with he1 yR
 subst he1 yR
 obtain ⟨x, pM⟩ : ∃ x, x = xs.getD d 0 := ⟨_, rfl⟩
 obtain ⟨S, eK⟩ : ∃ S, S = cZ l l.length := ⟨_, rfl⟩
 rw [← pM, ← eK] at V9 O4
 rw [← pM] at hc qD hx1 zN
 rw [← eK] at wQ bG
 have HSE := aPo eK
 have HXE := aPo pM
 clear pM eK
 have hdi : (d : Int) < 4 := by omega
 have jW := HT.out.lt
 have hwx : IntKind.i64.wrap (x + 1) = x + 1 := IntWalk.i64_in _ (by omega)
 have hws : IntKind.i64.wrap (S + 1) = S + 1 := IntWalk.i64_in _ (by omega)
 have hS : w0.cell? ⟨w.heap.size, 0, none⟩ = some (.slice (some ⟨g, off, none⟩) 4 cv) ∧ w0.cell? ⟨w.heap.size, 1, none⟩ = some (.slice ao no co) ∧ w0.cell? ⟨g, off + d, none⟩ = some (.int .i64 x) := ⟨(pair_cells HT.out.fst).1, (pair_cells HT.out.fst).2, hc⟩
 refine wp_region_held_drew (S := fun w' => w'.cell? ⟨w.heap.size, 0, none⟩ = some (.slice (some ⟨g, off, none⟩) 4 cv) ∧ w'.cell? ⟨w.heap.size, 1, none⟩ = some (.slice ao no co) ∧ w'.cell? ⟨g, off + d, none⟩ = some (.int .i64 x)) (by kernel_rfl) hS (fun aL => ?_)
 have cS : Hid (Below w0.heap.size w0 w0.drew) := ⟨rfl, rfl, rfl, Nat.le_refl _, fun _ _ => rfl⟩
 generalize w0.drew = z0 at cS aL ⊢
 refine tj 0 ?_
 refine tj 1 ?_
 refine tj 2 ?_
 refine tj 3 ?_
 refine tj 4 ?_
 refine tj 5 ?_
 refine tj 6 ?_
 refine tj 7 ?_
 refine tj 8 ?_
 refine tj 11 ?_
 refine rk 9 rfl (fun K hK => ?_)
 go_simp
 go_at_call 154
 refine (aAp z0 B ao no co l (HO.out.below cS.out (by omega)) (by have := cS.out.size; omega) (by omega)).mono ?_
 rintro e z1 ⟨rfl, gQ⟩
 rw [← HSE.out]
 have cU : Hid (Below w0.heap.size w0 z1) := cS.out.trans (gQ.mono cS.out.size)
 have bC := aPo (HT.out.next cU.out)
 have bG : z1.cell? ⟨w.heap.size, 0, none⟩ = some (.slice (some ⟨g, off, none⟩) 4 cv) ∧ z1.cell? ⟨w.heap.size, 1, none⟩ = some (.slice ao no co) ∧ z1.cell? ⟨g, off + d, none⟩ = some (.int .i64 x) := ⟨(pair_cells bC.out.fst).1, (pair_cells bC.out.fst).2, (cU.out.cell (p := ⟨g, off + d, none⟩) (by show g < _; omega)).trans hc⟩
 clear gQ
 refine hK.out _ _ bG (fun bS => ?_)
 clear hK K
 (try simp only [Act.put, u1, u2, u3])
 obtain ⟨o0, o1, o2, o3, o4, o5, o6, o7⟩ := aN bC.out.snd
 obtain ⟨f0, f1, f2, f3, f4, f5, f6, f7⟩ := cP bC.out.snd
 have hSt : ∀ (W : World), (∀ k, k ≠ w.heap.size + 1 → W.heap[k]? = z1.heap[k]?) → W.cell? ⟨w.heap.size, 0, none⟩ = some (.slice (some ⟨g, off, none⟩) 4 cv) ∧ W.cell? ⟨w.heap.size, 1, none⟩ = some (.slice ao no co) ∧ W.cell? ⟨g, off + d, none⟩ = some (.int .i64 x) := fun W hW => ⟨(World.cell?_of_block (a := ⟨w.heap.size, 0, none⟩) (hW _ (by show w.heap.size ≠ w.heap.size + 1; omega))).trans bG.1, (World.cell?_of_block (a := ⟨w.heap.size, 1, none⟩) (hW _ (by show w.heap.size ≠ w.heap.size + 1; omega))).trans bG.2.1, (World.cell?_of_block (a := ⟨g, off + d, none⟩) (hW _ (by show g ≠ w.heap.size + 1; omega))).trans bG.2.2⟩
 refine tj 10 ?_
 refine rk 12 rfl (fun K hK => ?_)
 go_simp
 refine hK.out _ _ (hSt _ (fun k hk => heap_setCell_other _ _ _ _ hk)) (fun dQ => ?_)
 clear hK K
 (try simp only [Act.put, u1, u2, u3])
 refine tj 13 ?_
 refine rk 14 rfl (fun K hK => ?_)
 go_simp
 refine hK.out _ _ (hSt _ (fun k hk => (heap_setCell_other _ _ _ _ hk).trans (heap_setCell_other _ _ _ _ hk))) (fun lC => ?_)
 clear hK K
 (try simp only [Act.put, u1, u2, u3])
 refine tj 15 ?_
 refine rk 16 rfl (fun K hK => ?_)
 go_simp
 refine hK.out _ _ (hSt _ (fun k hk => (heap_setCell_other _ _ _ _ hk).trans ((heap_setCell_other _ _ _ _ hk).trans (heap_setCell_other _ _ _ _ hk)))) (fun jN => ?_)
 clear hK K
 (try simp only [Act.put, u1, u2, u3])
 refine wpAnyH_done (by kernel_rfl) ?_ _
 have nT : Hid (iR w (((z1.setCell ⟨w.heap.size + 1, 0, none⟩ (.int .i64 (d : Int))).setCell ⟨w.heap.size + 1, 1, none⟩ (.int .i64 (x + 1))).setCell ⟨w.heap.size + 1, 2, none⟩ (.int .i64 (S + 1))) #[.slice (some ⟨g, off, none⟩) 4 cv, .slice ao no co] #[.int .i64 (d : Int), .int .i64 (x + 1), .int .i64 (S + 1), .int .i64 o.kind, .string o.item, .int .i64 o.qty, .int .i64 o.level, .int .i64 o.undos] #[.slice none 0 0, .slice none 0 0]) := aBF bC.out _ _ _
 have lF : Hid (Below (w.heap.size + 1) w0 (((z1.setCell ⟨w.heap.size + 1, 0, none⟩ (.int .i64 (d : Int))).setCell ⟨w.heap.size + 1, 1, none⟩ (.int .i64 (x + 1))).setCell ⟨w.heap.size + 1, 2, none⟩ (.int .i64 (S + 1)))) := ((cU.out.mono (by omega)).trans (dY _ _ _ _ _ _)).trans (gN _ _ _ _)
 have qI := aPo (HV.out.below lF.out (by omega))
 have oW := aPo (HO.out.below lF.out (by omega))
 have wW := aPo (HE.out.below lF.out (by omega))
 clear o0 o1 o2 o3 o4 o5 o6 o7 f0 f1 f2 f3 f4 f5 f6 f7 hSt aL bS dQ lC jN hS bG HT bC cU HV HO HE lF hc jW
 have pP := nT.out.lt
 generalize (((z1.setCell ⟨w.heap.size + 1, 0, none⟩ (.int .i64 (d : Int))).setCell ⟨w.heap.size + 1, 1, none⟩ (.int .i64 (x + 1))).setCell ⟨w.heap.size + 1, 2, none⟩ (.int .i64 (S + 1))) = w4 at nT qI oW wW pP ⊢
 apply c9
 clear c9 KR
 obtain ⟨o0, o1, o2, o3, o4, o5, o6, o7⟩ := aN (show w4.heap[w.heap.size + 1]? = some (.cells #[.int .i64 (d : Int), .int .i64 (x + 1), .int .i64 (S + 1), .int .i64 o.kind, .string o.item, .int .i64 o.qty, .int .i64 o.level, .int .i64 o.undos] 50 (0, 0)) from nT.out.snd)
 go_wp2_with fail
 refine (kY (d : Int) (x + 1) (S + 1) o.kind o.item o.qty o.level o.undos w4).mono ?_
 rintro e w5 ⟨rfl, bA⟩
 rw [V9.out]
 have qV := aPo (nT.out.next bA)
 have HV5 := aPo (qI.out.below bA (by omega))
 have W3 := aPo (oW.out.below bA (by omega))
 have G9 := aPo (wW.out.below bA (by omega))
 have hl5 := qV.out.lt
 clear bA nT qI oW wW pP o0 o1 o2 o3 o4 o5 o6 o7
 obtain ⟨o0, o1, o2, o3, o4, o5, o6, o7⟩ := aN (show w5.heap[w.heap.size + 1]? = some (.cells #[.int .i64 (d : Int), .int .i64 (x + 1), .int .i64 (S + 1), .int .i64 o.kind, .string o.item, .int .i64 o.qty, .int .i64 o.level, .int .i64 o.undos] 50 (0, 0)) from qV.out.snd)
 go_wp2_with fail
 refine (l6 o.item hi w5).mono ?_
 rintro e w6 ⟨rfl, lK⟩
 have zO := aPo (qV.out.next lK)
 have j0 : Hid (iR w (w6.setCell ⟨w.heap.size + 1, 4, none⟩ (.string o.item)) #[.slice (some ⟨g, off, none⟩) 4 cv, .slice ao no co] #[.int .i64 (d : Int), .int .i64 (x + 1), .int .i64 (S + 1), .int .i64 o.kind, .string o.item, .int .i64 o.qty, .int .i64 o.level, .int .i64 o.undos] #[.slice none 0 0, .slice none 0 0]) := zO.out.put 4 (.string o.item)
 have hs6 := lK.size
 have hB7 : Below (w.heap.size + 1) w5 (w6.setCell ⟨w.heap.size + 1, 4, none⟩ (.string o.item)) := (lK.mono (by omega)).trans (gN _ _ _ _)
 have HV7 := aPo (HV5.out.below hB7 (by omega))
 have G6 := aPo (W3.out.below hB7 (by omega))
 have hl7 := j0.out.lt
 clear lK hB7 o0 o1 o2 o3 o4 o5 o6 o7 HV5 W3 G9 qV hl5
 obtain ⟨o0, o1, o2, o3, o4, o5, o6, o7⟩ := aN (show w6.heap[w.heap.size + 1]? = some (.cells #[.int .i64 (d : Int), .int .i64 (x + 1), .int .i64 (S + 1), .int .i64 o.kind, .string o.item, .int .i64 o.qty, .int .i64 o.level, .int .i64 o.undos] 50 (0, 0)) from zO.out.snd)
 obtain ⟨f0, f1, f2, f3, f4, f5, f6, f7⟩ := cP zO.out.snd
 go_upto_region 5 with fail
 generalize w6.setCell ⟨w.heap.size + 1, 4, none⟩ (.string o.item) = w7 at j0 HV7 G6 hl7 ⊢
 clear o0 o1 o2 o3 o4 o5 o6 o7 f0 f1 f2 f3 f4 f5 f6 f7 zO hs6
 obtain ⟨q0, q1⟩ := pair_cells j0.out.fst
 go_wp2_with fail
 refine (D9 w7 B g off ao 4 cv no co xs l HV7.out G6.out (by omega) (by omega) (by omega) (by omega) gS.out.2.2  HM.out).mono ?_
 rintro e w8 ⟨va, vc, oa, oc, bY, rfl, aU, jG, nQ, iN, sZ, jJ⟩
 rw [yJ] at aU jJ ⊢
 have V7 := aPo (j0.out.next sZ)
 have HV8 := aPo (HV7.out.below sZ (by omega))
 obtain ⟨gv, aW, rfl, bZ, eH, hgv, aDa⟩ := aU.2 (by omega)
 have hs8 := sZ.size
 have HGV := aPo hgv
 have j6 := aPo aDa
 have HCA := aPo jJ
 have HR8 := aPo jG
 have vN : Hid (∀ k y, oa = some ⟨k, y, none⟩ → bY ≤ k ∧ k < w8.heap.size) := fun k y e => jG.lt k (by rw [e]; rfl)
 clear sZ j0 HV7 G6 q0 q1 aU jJ hgv aDa jG
 have hgs : gv < w8.heap.size := by omega
 go_upto_region 6 with fail
 rename_i KR c9
 have aT := ((Below.refl w8.heap.size w8).alloc aPq (.cells #[.slice (some ⟨gv, 0, none⟩) 4 vc, .slice oa l.length oc] 27))
 have wS := aPo (V7.out.next aT)
 have HV9 := aPo (HV8.out.below aT (by omega))
 have HG9 := aPo ((aT.block _ hgs).trans HGV.out)
 have V5 := aPo (rP (B := 0) HR8.out aT)
 have O5 := aPo (World.alloc_heap_new w8 (.cells #[.slice (some ⟨gv, 0, none⟩) 4 vc, .slice oa l.length oc] 27))
 have qE := aT.size
 have hl9 := wS.out.lt
 clear aT V7 HV8 HGV HR8
 generalize w8.alloc (.cells #[.slice (some ⟨gv, 0, none⟩) 4 vc, .slice oa l.length oc] 27) = w9 at wS HV9 HG9 V5 O5 qE hl9 ⊢
 have hx9 : w8.heap.size < w9.heap.size := (aPp O5.out).1
 generalize w8.heap.size = nb at vN hs8 hgs qE hx9 O5 iN ⊢
 have hpl : aO xs d + ((x + 1).toNat - 1) = putAt (d : Int) l := by
  rw [aCu HC.out hd]
  show _ = aO xs d + (xs.getD d 0).toNat
  rw [← HXE.out]; omega
 have hvo : cJ xs = true := (pY HC.out).1
 have aND := rF (d : Int) l
 have cS : Hid (Below w9.heap.size w9 w9.drew) := ⟨rfl, rfl, rfl, Nat.le_refl _, fun _ _ => rfl⟩
 obtain ⟨z0, gK⟩ : ∃ z0, z0 = w9.drew := ⟨_, rfl⟩
 rw [← gK] at cS
 have aDK := aPo (wS.out.next cS.out)
 have aBy := aPo (HV9.out.below cS.out (by omega))
 have aMy := aPo ((cS.out.block _ (by omega)).trans HG9.out)
 have aL9 := aPo (rP (B := 0) V5.out cS.out)
 have u9 := aPo ((cS.out.block _ hx9).trans O5.out)
 have aIl := cS.out.size
 have cQ : ∀ z, Below z0.heap.size z0 z → z.cell? ⟨w.heap.size, 0, none⟩ = some (.slice (some ⟨g, off, none⟩) 4 cv) ∧ z.cell? ⟨w.heap.size, 1, none⟩ = some (.slice ao no co) ∧ z.cell? ⟨w.heap.size + 1, 0, none⟩ = some (.int .i64 (d : Int)) ∧ z.cell? ⟨w.heap.size + 1, 1, none⟩ = some (.int .i64 (x + 1)) ∧ z.cell? ⟨w.heap.size + 1, 2, none⟩ = some (.int .i64 (S + 1)) ∧ z.cell? ⟨w.heap.size + 1, 3, none⟩ = some (.int .i64 o.kind) ∧ z.cell? ⟨w.heap.size + 1, 4, none⟩ = some (.string o.item) ∧ z.cell? ⟨w.heap.size + 1, 5, none⟩ = some (.int .i64 o.qty) ∧ z.cell? ⟨w.heap.size + 1, 6, none⟩ = some (.int .i64 o.level) ∧ z.cell? ⟨w.heap.size + 1, 7, none⟩ = some (.int .i64 o.undos) := fun z hb => ⟨(pair_cells (aDK.out.next hb).fst).1, (pair_cells (aDK.out.next hb).fst).2, aN (show z.heap[w.heap.size + 1]? = some (.cells #[.int .i64 (d : Int), .int .i64 (x + 1), .int .i64 (S + 1), .int .i64 o.kind, .string o.item, .int .i64 o.qty, .int .i64 o.level, .int .i64 o.undos] 50 (0, 0)) from (aDK.out.next hb).snd)⟩
 refine wp_region_held_drew (S := fun w' => w'.cell? ⟨w.heap.size, 0, none⟩ = some (.slice (some ⟨g, off, none⟩) 4 cv) ∧ w'.cell? ⟨w.heap.size, 1, none⟩ = some (.slice ao no co) ∧ w'.cell? ⟨w.heap.size + 1, 0, none⟩ = some (.int .i64 (d : Int)) ∧ w'.cell? ⟨w.heap.size + 1, 1, none⟩ = some (.int .i64 (x + 1)) ∧ w'.cell? ⟨w.heap.size + 1, 2, none⟩ = some (.int .i64 (S + 1)) ∧ w'.cell? ⟨w.heap.size + 1, 3, none⟩ = some (.int .i64 o.kind) ∧ w'.cell? ⟨w.heap.size + 1, 4, none⟩ = some (.string o.item) ∧ w'.cell? ⟨w.heap.size + 1, 5, none⟩ = some (.int .i64 o.qty) ∧ w'.cell? ⟨w.heap.size + 1, 6, none⟩ = some (.int .i64 o.level) ∧ w'.cell? ⟨w.heap.size + 1, 7, none⟩ = some (.int .i64 o.undos)) (by kernel_rfl) (by rw [← gK]; exact cQ z0 (Below.refl _ _)) (fun aL => ?_)
 rw [← gK] at aL ⊢
 clear gK wS HV9 HG9 V5 O5 cS
 refine tj 0 ?_
 refine tj 2 ?_
 refine tj 3 ?_
 refine tj 4 ?_
 refine tj 5 ?_
 refine tj 7 ?_
 apply aMM (F := fun vb z => Below z0.heap.size z0 z ∧ z0.heap.size ≤ vb ∧ z.heap[vb]? = some (.cells #[.int .i64 (d : Int), .int .i64 (x + 1), .int .i64 (S + 1), .int .i64 o.kind, .string o.item, .int .i64 o.qty, .int .i64 o.level, .int .i64 o.undos] 50 (0, 0)))
 case h1 =>
  intro hT
  have wR : Below z0.heap.size z0 z0 := Below.refl _ _; refine wpAnyH_ready (rs := [1, 6, 8]) (by kernel_rfl) (by simp) ?_
  refine (AllReadyH.cons rfl (fun K hK => ?_) (AllReadyH.cons rfl (fun K hK => ?_) (AllReadyH.cons rfl (fun K hK => ?_) AllReadyH.nil)))
  ·
   have xV : z0.cell? ⟨nb, 1, none⟩ = some (.slice oa l.length oc) := (wR.cell (p := ⟨nb, 1, none⟩) (by show nb < _; omega)).trans (pair_cells u9.out).2
   go_simp
   refine hK.out _ _ (cQ z0 wR) (fun _ => ?_)
   clear hK K xV
   (try simp only [Act.put, u1, u2, u3])
   refine wpAnyH_ready (rs := [6, 8]) (by kernel_rfl) (by simp) ?_
   refine (AllReadyH.cons rfl (fun K hK => ?_) (AllReadyH.cons rfl (fun K hK => ?_) AllReadyH.nil))
   ·
    go_simp
    go_at_call 72
    refine (uF z0 B (some ⟨g, off, none⟩) ao cv no co d xs (aBy.out.below wR (by omega)) (by have := wR.size; omega) bW hd hvo (x + 1) (by omega) (by omega)).mono ?_
    rintro e y2 ⟨rfl, aLJ⟩; rw [hpl]; have gy2 : Below z0.heap.size z0 y2 := wR.trans (aLJ.mono wR.size); refine hK.out _ _ (cQ y2 gy2) (fun _ => ?_)
    clear hK K aLJ
    (try simp only [Act.put, u1, u2, u3])
    refine wpAnyH_ready (rs := [8]) (by kernel_rfl) (by simp) ?_
    refine (AllReadyH.cons rfl (fun K hK => ?_) AllReadyH.nil)
    ·
     have gy3 : Below z0.heap.size z0 (y2.alloc (.cells #[.int .i64 (d : Int), .int .i64 (x + 1), .int .i64 (S + 1), .int .i64 o.kind, .string o.item, .int .i64 o.qty, .int .i64 o.level, .int .i64 o.undos] 50)) := gy2.alloc gy2.size _; have vy3 : (y2.alloc (.cells #[.int .i64 (d : Int), .int .i64 (x + 1), .int .i64 (S + 1), .int .i64 o.kind, .string o.item, .int .i64 o.qty, .int .i64 o.level, .int .i64 o.undos] 50)).heap[y2.heap.size]? = some (.cells #[.int .i64 (d : Int), .int .i64 (x + 1), .int .i64 (S + 1), .int .i64 o.kind, .string o.item, .int .i64 o.qty, .int .i64 o.level, .int .i64 o.undos] 50 (0, 0)) := World.alloc_heap_new _ _
     go_simp
     refine hK.out _ _ (cQ _ gy3) (fun _ => ?_)
     clear hK K
     (try simp only [Act.put, u1, u2, u3])
     generalize (y2.alloc (.cells #[.int .i64 (d : Int), .int .i64 (x + 1), .int .i64 (S + 1), .int .i64 o.kind, .string o.item, .int .i64 o.qty, .int .i64 o.level, .int .i64 o.undos] 50)) = y3 at gy3 vy3 ⊢; obtain ⟨vb, oA⟩ : ∃ vb, vb = y2.heap.size := ⟨_, rfl⟩; have yK : z0.heap.size ≤ vb := by rw [oA]; exact gy2.size
     rw [← oA] at vy3 ⊢; clear oA; exact dA (l' := #[true, true, true, true, true, true, true, true, true, false, false, false]) (by kernel_rfl) (hT vb y3 ⟨gy3, yK, vy3⟩)
   ·
    have gy4 : Below z0.heap.size z0 (z0.alloc (.cells #[.int .i64 (d : Int), .int .i64 (x + 1), .int .i64 (S + 1), .int .i64 o.kind, .string o.item, .int .i64 o.qty, .int .i64 o.level, .int .i64 o.undos] 50)) := wR.alloc wR.size _; have vy4 : (z0.alloc (.cells #[.int .i64 (d : Int), .int .i64 (x + 1), .int .i64 (S + 1), .int .i64 o.kind, .string o.item, .int .i64 o.qty, .int .i64 o.level, .int .i64 o.undos] 50)).heap[z0.heap.size]? = some (.cells #[.int .i64 (d : Int), .int .i64 (x + 1), .int .i64 (S + 1), .int .i64 o.kind, .string o.item, .int .i64 o.qty, .int .i64 o.level, .int .i64 o.undos] 50 (0, 0)) := World.alloc_heap_new _ _
    go_simp
    refine hK.out _ _ (cQ _ gy4) (fun _ => ?_)
    clear hK K
    (try simp only [Act.put, u1, u2, u3])
    generalize (z0.alloc (.cells #[.int .i64 (d : Int), .int .i64 (x + 1), .int .i64 (S + 1), .int .i64 o.kind, .string o.item, .int .i64 o.qty, .int .i64 o.level, .int .i64 o.undos] 50)) = y4 at gy4 vy4 ⊢; obtain ⟨vb, oA⟩ : ∃ vb, vb = z0.heap.size := ⟨_, rfl⟩; have yK : z0.heap.size ≤ vb := by rw [oA]; exact wR.size
    rw [← oA] at vy4 ⊢; clear oA; refine wpAnyH_ready (rs := [6]) (by kernel_rfl) (by simp) ?_
    refine (AllReadyH.cons rfl (fun K hK => ?_) AllReadyH.nil)
    ·
     go_simp
     go_at_call 72
     refine (uF y4 B (some ⟨g, off, none⟩) ao cv no co d xs (aBy.out.below gy4 (by omega)) (by have := gy4.size; omega) bW hd hvo (x + 1) (by omega) (by omega)).mono ?_
     rintro e y5 ⟨rfl, aIC⟩; rw [hpl]; have gy5 : Below z0.heap.size z0 y5 := gy4.trans (aIC.mono gy4.size); have vy5 := (aIC.block _ (aPp vy4).1).trans vy4; refine hK.out _ _ (cQ y5 gy5) (fun _ => ?_)
     clear hK K aIC
     (try simp only [Act.put, u1, u2, u3])
     exact dA (l' := #[true, true, true, true, true, true, true, true, true, false, false, false]) (by kernel_rfl) (hT vb y5 ⟨gy5, yK, vy5⟩)
  ·
   go_simp
   go_at_call 72
   refine (uF z0 B (some ⟨g, off, none⟩) ao cv no co d xs (aBy.out.below wR (by omega)) (by have := wR.size; omega) bW hd hvo (x + 1) (by omega) (by omega)).mono ?_
   rintro e y6 ⟨rfl, aLI⟩; rw [hpl]; have gy6 : Below z0.heap.size z0 y6 := wR.trans (aLI.mono wR.size); refine hK.out _ _ (cQ y6 gy6) (fun _ => ?_)
   clear hK K aLI
   (try simp only [Act.put, u1, u2, u3])
   refine wpAnyH_ready (rs := [1, 8]) (by kernel_rfl) (by simp) ?_
   refine (AllReadyH.cons rfl (fun K hK => ?_) (AllReadyH.cons rfl (fun K hK => ?_) AllReadyH.nil))
   ·
    have xV : y6.cell? ⟨nb, 1, none⟩ = some (.slice oa l.length oc) := (gy6.cell (p := ⟨nb, 1, none⟩) (by show nb < _; omega)).trans (pair_cells u9.out).2
    go_simp
    refine hK.out _ _ (cQ y6 gy6) (fun _ => ?_)
    clear hK K xV
    (try simp only [Act.put, u1, u2, u3])
    refine wpAnyH_ready (rs := [8]) (by kernel_rfl) (by simp) ?_
    refine (AllReadyH.cons rfl (fun K hK => ?_) AllReadyH.nil)
    ·
     have gy8 : Below z0.heap.size z0 (y6.alloc (.cells #[.int .i64 (d : Int), .int .i64 (x + 1), .int .i64 (S + 1), .int .i64 o.kind, .string o.item, .int .i64 o.qty, .int .i64 o.level, .int .i64 o.undos] 50)) := gy6.alloc gy6.size _; have vy8 : (y6.alloc (.cells #[.int .i64 (d : Int), .int .i64 (x + 1), .int .i64 (S + 1), .int .i64 o.kind, .string o.item, .int .i64 o.qty, .int .i64 o.level, .int .i64 o.undos] 50)).heap[y6.heap.size]? = some (.cells #[.int .i64 (d : Int), .int .i64 (x + 1), .int .i64 (S + 1), .int .i64 o.kind, .string o.item, .int .i64 o.qty, .int .i64 o.level, .int .i64 o.undos] 50 (0, 0)) := World.alloc_heap_new _ _
     go_simp
     refine hK.out _ _ (cQ _ gy8) (fun _ => ?_)
     clear hK K
     (try simp only [Act.put, u1, u2, u3])
     generalize (y6.alloc (.cells #[.int .i64 (d : Int), .int .i64 (x + 1), .int .i64 (S + 1), .int .i64 o.kind, .string o.item, .int .i64 o.qty, .int .i64 o.level, .int .i64 o.undos] 50)) = y8 at gy8 vy8 ⊢; obtain ⟨vb, oA⟩ : ∃ vb, vb = y6.heap.size := ⟨_, rfl⟩; have yK : z0.heap.size ≤ vb := by rw [oA]; exact gy6.size
     rw [← oA] at vy8 ⊢; clear oA; exact dA (l' := #[true, true, true, true, true, true, true, true, true, false, false, false]) (by kernel_rfl) (hT vb y8 ⟨gy8, yK, vy8⟩)
   ·
    have gy9 : Below z0.heap.size z0 (y6.alloc (.cells #[.int .i64 (d : Int), .int .i64 (x + 1), .int .i64 (S + 1), .int .i64 o.kind, .string o.item, .int .i64 o.qty, .int .i64 o.level, .int .i64 o.undos] 50)) := gy6.alloc gy6.size _; have vy9 : (y6.alloc (.cells #[.int .i64 (d : Int), .int .i64 (x + 1), .int .i64 (S + 1), .int .i64 o.kind, .string o.item, .int .i64 o.qty, .int .i64 o.level, .int .i64 o.undos] 50)).heap[y6.heap.size]? = some (.cells #[.int .i64 (d : Int), .int .i64 (x + 1), .int .i64 (S + 1), .int .i64 o.kind, .string o.item, .int .i64 o.qty, .int .i64 o.level, .int .i64 o.undos] 50 (0, 0)) := World.alloc_heap_new _ _
    go_simp
    refine hK.out _ _ (cQ _ gy9) (fun _ => ?_)
    clear hK K
    (try simp only [Act.put, u1, u2, u3])
    generalize (y6.alloc (.cells #[.int .i64 (d : Int), .int .i64 (x + 1), .int .i64 (S + 1), .int .i64 o.kind, .string o.item, .int .i64 o.qty, .int .i64 o.level, .int .i64 o.undos] 50)) = y9 at gy9 vy9 ⊢; obtain ⟨vb, oA⟩ : ∃ vb, vb = y6.heap.size := ⟨_, rfl⟩; have yK : z0.heap.size ≤ vb := by rw [oA]; exact gy6.size
    rw [← oA] at vy9 ⊢; clear oA; refine wpAnyH_ready (rs := [1]) (by kernel_rfl) (by simp) ?_
    refine (AllReadyH.cons rfl (fun K hK => ?_) AllReadyH.nil)
    ·
     have xV : y9.cell? ⟨nb, 1, none⟩ = some (.slice oa l.length oc) := (gy9.cell (p := ⟨nb, 1, none⟩) (by show nb < _; omega)).trans (pair_cells u9.out).2
     go_simp
     refine hK.out _ _ (cQ y9 gy9) (fun _ => ?_)
     clear hK K xV
     (try simp only [Act.put, u1, u2, u3])
     exact dA (l' := #[true, true, true, true, true, true, true, true, true, false, false, false]) (by kernel_rfl) (hT vb y9 ⟨gy9, yK, vy9⟩)
  ·
   have wG : Below z0.heap.size z0 (z0.alloc (.cells #[.int .i64 (d : Int), .int .i64 (x + 1), .int .i64 (S + 1), .int .i64 o.kind, .string o.item, .int .i64 o.qty, .int .i64 o.level, .int .i64 o.undos] 50)) := wR.alloc wR.size _; have aA5 : (z0.alloc (.cells #[.int .i64 (d : Int), .int .i64 (x + 1), .int .i64 (S + 1), .int .i64 o.kind, .string o.item, .int .i64 o.qty, .int .i64 o.level, .int .i64 o.undos] 50)).heap[z0.heap.size]? = some (.cells #[.int .i64 (d : Int), .int .i64 (x + 1), .int .i64 (S + 1), .int .i64 o.kind, .string o.item, .int .i64 o.qty, .int .i64 o.level, .int .i64 o.undos] 50 (0, 0)) := World.alloc_heap_new _ _
   go_simp
   refine hK.out _ _ (cQ _ wG) (fun _ => ?_)
   clear hK K
   (try simp only [Act.put, u1, u2, u3])
   generalize (z0.alloc (.cells #[.int .i64 (d : Int), .int .i64 (x + 1), .int .i64 (S + 1), .int .i64 o.kind, .string o.item, .int .i64 o.qty, .int .i64 o.level, .int .i64 o.undos] 50)) = y11 at wG aA5 ⊢; obtain ⟨vb, oA⟩ : ∃ vb, vb = z0.heap.size := ⟨_, rfl⟩; have yK : z0.heap.size ≤ vb := by rw [oA]; exact wR.size
   rw [← oA] at aA5 ⊢; clear oA; refine wpAnyH_ready (rs := [1, 6]) (by kernel_rfl) (by simp) ?_
   refine (AllReadyH.cons rfl (fun K hK => ?_) (AllReadyH.cons rfl (fun K hK => ?_) AllReadyH.nil))
   ·
    have xV : y11.cell? ⟨nb, 1, none⟩ = some (.slice oa l.length oc) := (wG.cell (p := ⟨nb, 1, none⟩) (by show nb < _; omega)).trans (pair_cells u9.out).2
    go_simp
    refine hK.out _ _ (cQ y11 wG) (fun _ => ?_)
    clear hK K xV
    (try simp only [Act.put, u1, u2, u3])
    refine wpAnyH_ready (rs := [6]) (by kernel_rfl) (by simp) ?_
    refine (AllReadyH.cons rfl (fun K hK => ?_) AllReadyH.nil)
    ·
     go_simp
     go_at_call 72
     refine (uF y11 B (some ⟨g, off, none⟩) ao cv no co d xs (aBy.out.below wG (by omega)) (by have := wG.size; omega) bW hd hvo (x + 1) (by omega) (by omega)).mono ?_
     rintro e y13 ⟨rfl, aFn⟩; rw [hpl]; have aLQ : Below z0.heap.size z0 y13 := wG.trans (aFn.mono wG.size); have aM9 := (aFn.block _ (aPp aA5).1).trans aA5; refine hK.out _ _ (cQ y13 aLQ) (fun _ => ?_)
     clear hK K aFn
     (try simp only [Act.put, u1, u2, u3])
     exact dA (l' := #[true, true, true, true, true, true, true, true, true, false, false, false]) (by kernel_rfl) (hT vb y13 ⟨aLQ, yK, aM9⟩)
   ·
    go_simp
    go_at_call 72
    refine (uF y11 B (some ⟨g, off, none⟩) ao cv no co d xs (aBy.out.below wG (by omega)) (by have := wG.size; omega) bW hd hvo (x + 1) (by omega) (by omega)).mono ?_
    rintro e y14 ⟨rfl, aFm⟩; rw [hpl]; have aFs : Below z0.heap.size z0 y14 := wG.trans (aFm.mono wG.size); have aM8 := (aFm.block _ (aPp aA5).1).trans aA5; refine hK.out _ _ (cQ y14 aFs) (fun _ => ?_)
    clear hK K aFm
    (try simp only [Act.put, u1, u2, u3])
    refine wpAnyH_ready (rs := [1]) (by kernel_rfl) (by simp) ?_
    refine (AllReadyH.cons rfl (fun K hK => ?_) AllReadyH.nil)
    ·
     have xV : y14.cell? ⟨nb, 1, none⟩ = some (.slice oa l.length oc) := (aFs.cell (p := ⟨nb, 1, none⟩) (by show nb < _; omega)).trans (pair_cells u9.out).2
     go_simp
     refine hK.out _ _ (cQ y14 aFs) (fun _ => ?_)
     clear hK K xV
     (try simp only [Act.put, u1, u2, u3])
     exact dA (l' := #[true, true, true, true, true, true, true, true, true, false, false, false]) (by kernel_rfl) (hT vb y14 ⟨aFs, yK, aM8⟩)
 case h2 =>
  intro vb z ⟨gz, yK, hvb⟩
  have HPz := aPo (aDK.out.next gz); have HGz := aPo ((gz.block _ (by omega)).trans aMy.out)
  have vW := aPo (rP (B := 0) aL9.out gz); have HNz := aPo ((gz.block _ (by omega)).trans u9.out)
  have dC := gz.size; clear gz aDK aMy aL9 u9 aBy aL; have hI := aMP z bY oa l.length oc (putAt (d : Int) l) l vW.out (by omega) (by have := nV.out; omega) aND (⟨(d : Int), x + 1, S + 1, o.kind, o.item, o.qty, o.level, o.undos⟩ : aA) vb hvb (fun k y e => by have := vN.out k y e; omega)
  have hI := aPo hI; refine rk 9 rfl (fun K hK => ?_)
  go_simp
  go_at_call 155
  refine hI.out.mono ?_
  rintro e zi ⟨ra, rc, rfl, hro, hbi, lJ⟩; have J9 : ∀ j, j < z.heap.size → (j < bY ∨ nb ≤ j) → zi.heap[j]? = z.heap[j]? := fun j h1 h2 => lJ j h1 (fun y e => by have := vN.out j y e; omega)
  have HPi : Hid (iR w zi #[.slice (some ⟨g, off, none⟩) 4 cv, .slice ao no co] #[.int .i64 (d : Int), .int .i64 (x + 1), .int .i64 (S + 1), .int .i64 o.kind, .string o.item, .int .i64 o.qty, .int .i64 o.level, .int .i64 o.undos] #[.slice none 0 0, .slice none 0 0]) := HPz.out.far (hbi.mono (by omega))
  have HGi := aPo ((J9 gv (by omega) (.inl (by omega))).trans HGz.out)
  have HNi := aPo ((J9 nb (by omega) (.inr aPq)).trans HNz.out)
  have HRi := aPo hro; have hsi := hbi.size; clear hro hbi lJ J9 HPz HGz HNz vW hvb hI; obtain ⟨Ln, yV⟩ : ∃ Ln, Ln = (l.take (putAt (d : Int) l) ++ [(⟨(d : Int), x + 1, S + 1, o.kind, o.item, o.qty, o.level, o.undos⟩ : aA)] ++ l.drop (putAt (d : Int) l)) := ⟨_, rfl⟩; rw [← yV] at HRi ⊢; have HLN := aPo yV; clear yV; have hSi : zi.cell? ⟨w.heap.size, 0, none⟩ = some (.slice (some ⟨g, off, none⟩) 4 cv) ∧ zi.cell? ⟨w.heap.size, 1, none⟩ = some (.slice ao no co) ∧ zi.cell? ⟨w.heap.size + 1, 0, none⟩ = some (.int .i64 (d : Int)) ∧ zi.cell? ⟨w.heap.size + 1, 1, none⟩ = some (.int .i64 (x + 1)) ∧ zi.cell? ⟨w.heap.size + 1, 2, none⟩ = some (.int .i64 (S + 1)) ∧ zi.cell? ⟨w.heap.size + 1, 3, none⟩ = some (.int .i64 o.kind) ∧ zi.cell? ⟨w.heap.size + 1, 4, none⟩ = some (.string o.item) ∧ zi.cell? ⟨w.heap.size + 1, 5, none⟩ = some (.int .i64 o.qty) ∧ zi.cell? ⟨w.heap.size + 1, 6, none⟩ = some (.int .i64 o.level) ∧ zi.cell? ⟨w.heap.size + 1, 7, none⟩ = some (.int .i64 o.undos) := ⟨(pair_cells HPi.out.fst).1, (pair_cells HPi.out.fst).2, aN (show zi.heap[w.heap.size + 1]? = some (.cells #[.int .i64 (d : Int), .int .i64 (x + 1), .int .i64 (S + 1), .int .i64 o.kind, .string o.item, .int .i64 o.qty, .int .i64 o.level, .int .i64 o.undos] 50 (0, 0)) from HPi.out.snd)⟩; refine hK.out _ _ hSi (fun _ => ?_)
  clear hK K
  (try simp only [Act.put, u1, u2, u3])
  obtain ⟨xc0, xV⟩ := pair_cells HNi.out; obtain ⟨zV, zU⟩ := aB HNi.out; refine tj 10 ?_
  have bO := aJU HRi.out HNi.out (by decide)
  have hbj : Below nb zi (zi.setCell ⟨nb, 1, none⟩ (.slice ra Ln.length rc)) := gN _ _ _ _; have HPj : Hid (iR w (zi.setCell ⟨nb, 1, none⟩ (.slice ra Ln.length rc)) #[.slice (some ⟨g, off, none⟩) 4 cv, .slice ao no co] #[.int .i64 (d : Int), .int .i64 (x + 1), .int .i64 (S + 1), .int .i64 o.kind, .string o.item, .int .i64 o.qty, .int .i64 o.level, .int .i64 o.undos] #[.slice none 0 0, .slice none 0 0]) := HPi.out.far (hbj.mono (by omega))
  have HGj : Hid ((zi.setCell ⟨nb, 1, none⟩ (.slice ra Ln.length rc)).heap[gv]? = some (.cells aW 2 (0, 0))) := (hbj.block gv (by omega)).trans HGi.out
  have HNj : Hid ((zi.setCell ⟨nb, 1, none⟩ (.slice ra Ln.length rc)).heap[nb]? = some (.cells #[.slice (some ⟨gv, 0, none⟩) 4 vc, (.slice ra Ln.length rc)] 27 (0, 0))) := heap_setCell_same _ _ _ _ _ _ HNi.out; have HRj : Hid ((zi.setCell ⟨nb, 1, none⟩ (.slice ra Ln.length rc)).ownsRow bY 50 8 (.slice ra Ln.length rc) Ln.length (aF Ln)) := vH HRi.out (fun k y e _ => heap_setCell_other _ _ _ _ (bO k y e))
  have hsj : (zi.setCell ⟨nb, 1, none⟩ (.slice ra Ln.length rc)).heap.size = zi.heap.size := by simp [World.setCell]
  have hSj : (zi.setCell ⟨nb, 1, none⟩ (.slice ra Ln.length rc)).cell? ⟨w.heap.size, 0, none⟩ = some (.slice (some ⟨g, off, none⟩) 4 cv) ∧ (zi.setCell ⟨nb, 1, none⟩ (.slice ra Ln.length rc)).cell? ⟨w.heap.size, 1, none⟩ = some (.slice ao no co) ∧ (zi.setCell ⟨nb, 1, none⟩ (.slice ra Ln.length rc)).cell? ⟨w.heap.size + 1, 0, none⟩ = some (.int .i64 (d : Int)) ∧ (zi.setCell ⟨nb, 1, none⟩ (.slice ra Ln.length rc)).cell? ⟨w.heap.size + 1, 1, none⟩ = some (.int .i64 (x + 1)) ∧ (zi.setCell ⟨nb, 1, none⟩ (.slice ra Ln.length rc)).cell? ⟨w.heap.size + 1, 2, none⟩ = some (.int .i64 (S + 1)) ∧ (zi.setCell ⟨nb, 1, none⟩ (.slice ra Ln.length rc)).cell? ⟨w.heap.size + 1, 3, none⟩ = some (.int .i64 o.kind) ∧ (zi.setCell ⟨nb, 1, none⟩ (.slice ra Ln.length rc)).cell? ⟨w.heap.size + 1, 4, none⟩ = some (.string o.item) ∧ (zi.setCell ⟨nb, 1, none⟩ (.slice ra Ln.length rc)).cell? ⟨w.heap.size + 1, 5, none⟩ = some (.int .i64 o.qty) ∧ (zi.setCell ⟨nb, 1, none⟩ (.slice ra Ln.length rc)).cell? ⟨w.heap.size + 1, 6, none⟩ = some (.int .i64 o.level) ∧ (zi.setCell ⟨nb, 1, none⟩ (.slice ra Ln.length rc)).cell? ⟨w.heap.size + 1, 7, none⟩ = some (.int .i64 o.undos) := ⟨(pair_cells HPj.out.fst).1, (pair_cells HPj.out.fst).2, aN (show (zi.setCell ⟨nb, 1, none⟩ (.slice ra Ln.length rc)).heap[w.heap.size + 1]? = some (.cells #[.int .i64 (d : Int), .int .i64 (x + 1), .int .i64 (S + 1), .int .i64 o.kind, .string o.item, .int .i64 o.qty, .int .i64 o.level, .int .i64 o.undos] 50 (0, 0)) from HPj.out.snd)⟩; refine rk 11 rfl (fun K hK => ?_)
  go_simp
  refine hK.out _ _ hSj (fun oH => ?_)
  clear hK K
  (try simp only [Act.put, u1, u2, u3])
  refine wpAnyH_done (by kernel_rfl) ?_ _
  clear hSi hSj xc0 xV zV zU bO hbj HPi HGi HNi HRi cQ; generalize (zi.setCell ⟨nb, 1, none⟩ (.slice ra Ln.length rc)) = zj at HPj HGj HNj HRj hsj ⊢
  apply c9
  clear c9 KR; obtain ⟨xc0, xV⟩ := pair_cells HNj.out; obtain ⟨o0, o1, o2, o3, o4, o5, o6, o7⟩ := aN (show zj.heap[w.heap.size + 1]? = some (.cells #[.int .i64 (d : Int), .int .i64 (x + 1), .int .i64 (S + 1), .int .i64 o.kind, .string o.item, .int .i64 o.qty, .int .i64 o.level, .int .i64 o.undos] 50 (0, 0)) from HPj.out.snd); obtain ⟨zz, hcz⟩ : ∃ zz, zj.cell? ⟨gv, d, none⟩ = some zz := ⟨_, (aPr HGj.out).trans (j6.out d hd)⟩; have hfz : zj.frozen? ⟨gv, d, none⟩ = false := aPs HGj.out; have wU : Hid (Own (zj.setCell ⟨gv, d, none⟩ (.int .i64 (x + 1))) w7.heap.size bY (some ⟨gv, 0, none⟩) 4 (xs.set d (x + 1))) := aJ4 (x + 1) yJ hd bZ eH HGj.out j6.out; have F8 : Below gv zj (zj.setCell ⟨gv, d, none⟩ (.int .i64 (x + 1))) := gN _ _ _ _; have HPk : Hid (iR w (zj.setCell ⟨gv, d, none⟩ (.int .i64 (x + 1))) #[.slice (some ⟨g, off, none⟩) 4 cv, .slice ao no co] #[.int .i64 (d : Int), .int .i64 (x + 1), .int .i64 (S + 1), .int .i64 o.kind, .string o.item, .int .i64 o.qty, .int .i64 o.level, .int .i64 o.undos] #[.slice none 0 0, .slice none 0 0]) := HPj.out.far (F8.mono (by omega))
  have HNk : Hid ((zj.setCell ⟨gv, d, none⟩ (.int .i64 (x + 1))).heap[nb]? = some (.cells #[.slice (some ⟨gv, 0, none⟩) 4 vc, (.slice ra Ln.length rc)] 27 (0, 0))) := (heap_setCell_other _ _ _ _ (by show nb ≠ gv; omega)).trans HNj.out
  have HRk : Hid ((zj.setCell ⟨gv, d, none⟩ (.int .i64 (x + 1))).ownsRow bY 50 8 (.slice ra Ln.length rc) Ln.length (aF Ln)) := vH HRj.out (fun k y e hk => heap_setCell_other _ _ _ _ (by show k ≠ gv; omega))
  have hsk : (zj.setCell ⟨gv, d, none⟩ (.int .i64 (x + 1))).heap.size = zj.heap.size := by simp [World.setCell]
  go_upto_region 8 with fail
  generalize zj.setCell ⟨gv, d, none⟩ (.int .i64 (x + 1)) = zk at wU HPk HNk HRk hsk ⊢; clear xc0 xV o0 o1 o2 o3 o4 o5 o6 o7 hcz hfz F8 HPj HGj HNj HRj; obtain ⟨xc0, xV⟩ := pair_cells HNk.out; obtain ⟨r0, r1⟩ := pair_cells HPk.out.res; obtain ⟨fP, fO⟩ := aB HPk.out.res; have A8 := HPk.out.set2 (.slice (some ⟨gv, 0, none⟩) 4 vc) (.slice ra Ln.length rc); have HX := aPo A8.1; have bQ : Hid (Below w.heap.size w ((zk.setCell ⟨w.heap.size + 1 + 1, 0, none⟩ (.slice (some ⟨gv, 0, none⟩) 4 vc)).setCell ⟨w.heap.size + 1 + 1, 1, none⟩ (.slice ra Ln.length rc))) := HPk.out.bel.trans (A8.2.mono (by omega))
  have vZ : Hid (Own ((zk.setCell ⟨w.heap.size + 1 + 1, 0, none⟩ (.slice (some ⟨gv, 0, none⟩) 4 vc)).setCell ⟨w.heap.size + 1 + 1, 1, none⟩ (.slice ra Ln.length rc)) w7.heap.size bY (some ⟨gv, 0, none⟩) 4 (xs.set d (x + 1))) := wU.out.kept (fun j h1 h2 => aD _ _ (by omega))
  have HRf := aPo (fV (vH (W' := ((zk.setCell ⟨w.heap.size + 1 + 1, 0, none⟩ (.slice (some ⟨gv, 0, none⟩) 4 vc)).setCell ⟨w.heap.size + 1 + 1, 1, none⟩ (.slice ra Ln.length rc))) HRk.out (fun k y e hk => aD _ _ (by omega))) aPq)
  have HCf := aPo (gA HRk.out); have sV : ((zk.setCell ⟨w.heap.size + 1 + 1, 0, none⟩ (.slice (some ⟨gv, 0, none⟩) 4 vc)).setCell ⟨w.heap.size + 1 + 1, 1, none⟩ (.slice ra Ln.length rc)).heap.size = zk.heap.size := aY _ _ _ _; clear A8; go_wp2
  change bodyPost _ _ _ _ _ ((zk.setCell ⟨w.heap.size + 1 + 1, 0, none⟩ (.slice (some ⟨gv, 0, none⟩) 4 vc)).setCell ⟨w.heap.size + 1 + 1, 1, none⟩ (.slice ra Ln.length rc))
  clear xc0 xV r0 r1 fP fO wU HPk HNk HRk; generalize ((zk.setCell ⟨w.heap.size + 1 + 1, 0, none⟩ (.slice (some ⟨gv, 0, none⟩) 4 vc)).setCell ⟨w.heap.size + 1 + 1, 1, none⟩ (.slice ra Ln.length rc)) = wf at HX bQ vZ HRf sV ⊢; obtain ⟨q0, q1⟩ := pair_cells HX.out; have hvl : (eE xs d).length = 4 := by rw [zN.out, List.length_set]; exact yJ
  have aNC : cI l d (⟨(d : Int), x + 1, S + 1, o.kind, o.item, o.qty, o.level, o.undos⟩ : aA) = Ln := by rw [HLN.out]; rfl
  refine bodyPost_ret (v := .tuple #[.agg #[.slice (some ⟨gv, 0, none⟩) 4 vc, (.slice ra Ln.length rc)], .nilIface]) (by simp [results, Tryz.results135, go_sem, q0, q1]) rfl ?_
  rw [O4.out, aNC]; refine .inr ⟨rfl, some ⟨gv, 0, none⟩, vc, ra, rc, bY, ?_, ?_, HRf.out, by omega, by omega, ?_, HCf.out, bQ.out⟩
  ·show _ = Ending.returned (.tuple #[.agg #[.slice (some ⟨gv, 0, none⟩) (eE xs d).length vc, _], _])
   rw [hvl]
  ·show Own wf w.heap.size bY _ (eE xs d).length (eE xs d)
   rw [hvl, zN.out]; exact vZ.out.more (by omega) aPq
  ·show bM _ (eE xs d).length vc
   rw [hvl]; exact HCA.out
theorem aGS (w : World) (B : Nat) (E : Int → Addr) (hE : eG w B E) (g off : Nat) (ao : Option Addr) (cv no co d : Nat) (xs : List Int) (l : List aA) (o : aA) (hx : Ints w B (some ⟨g, off, none⟩) 4 xs) (h : bP w B ao no l) (hB : B ≤ w.heap.size) (bW : 4 ≤ cv) (cB : bM ao no co) (hc : aE xs l = true) (hd : d < 4) (hi : o.item.size ≤ 1048576) :
  Calls Tryz.prog 135 #[.agg #[.slice (some ⟨g, off, none⟩) 4 cv, .slice ao no co], .int .i64 (d : Int), .agg #[.int .i64 o.dev, .int .i64 o.seq, .int .i64 o.stamp, .int .i64 o.kind, .string o.item, .int .i64 o.qty, .int .i64 o.level, .int .i64 o.undos]] w (mX E (if (aQ xs l d o).ok = true then (0, eE xs d, cI l d (aQ xs l d o)) else (4, [], [])) w) := by
 cases hok : (aQ xs l d o).ok
 ·rw [if_neg (by decide)]
  exact aFi w B E hE g off ao cv no co d xs l o hx h hB bW cB hc hd hi hok
 ·rw [if_pos rfl]
  exact aEf w B E hE g off ao cv no co d xs l o hx h hB bW cB hc hd hi hok
structure rJ (w w1 : World) (x : Array Value) (tx : TypeId) (y : Array Value) (ty : TypeId) (z : Array Value) (tz : TypeId) : Prop where
 fst : w1.heap[w.heap.size]? = some (.cells x tx (0, 0))
 snd : w1.heap[w.heap.size + 1]? = some (.cells y ty (0, 0))
 res : w1.heap[w.heap.size + 1 + 1]? = some (.cells z tz (0, 0))
 bel : Below w.heap.size w w1
theorem rJ.mk0 (w : World) (x y z : Array Value) (tx ty tz : TypeId) : rJ w (((w.alloc (.cells x tx)).alloc (.cells y ty)).alloc (.cells z tz)) x tx y ty z tz := by
 have e1 : (w.alloc (.cells x tx)).heap.size = w.heap.size + 1 := by simp
 have e2 : ((w.alloc (.cells x tx)).alloc (.cells y ty)).heap.size = w.heap.size + 1 + 1 := by simp
 refine ⟨?_, ?_, ?_, (((Below.refl _ w).alloc aPq _).alloc (by simp) _).alloc (by simp; omega) _⟩
 ·exact ((Below.heap_alloc _ _ _ (by omega)).trans (Below.heap_alloc _ _ _ (by omega))).trans (heap_alloc_new _ _)
 ·rw [← e1]; exact (Below.heap_alloc _ _ _ (by omega)).trans (heap_alloc_new _ _)
 ·rw [← e2]; exact heap_alloc_new _ _
section
variable {w w1 w2 : World} {x y z : Array Value} {tx ty tz : TypeId}
theorem rJ.next (h : rJ w w1 x tx y ty z tz) (hb : Below w1.heap.size w1 w2) : rJ w w2 x tx y ty z tz :=
 ⟨(hb.block _ (aPp h.fst).1).trans h.fst, (hb.block _ (aPp h.snd).1).trans h.snd, (hb.block _ (aPp h.res).1).trans h.res, h.bel.trans (hb.mono h.bel.size)⟩
theorem rJ.lt (h : rJ w w1 x tx y ty z tz) : w.heap.size + 1 + 1 < w1.heap.size := (aPp h.res).1
theorem rJ.set2 {z0 z1 : Value} (h : rJ w w1 x tx y ty #[z0, z1] tz) (u v : Value) :
  ((w1.setCell ⟨w.heap.size + 1 + 1, 0, none⟩ u).setCell ⟨w.heap.size + 1 + 1, 1, none⟩ v).heap[w.heap.size + 1 + 1]? = some (.cells #[u, v] tz (0, 0)) ∧ Below (w.heap.size + 1 + 1) w1 ((w1.setCell ⟨w.heap.size + 1 + 1, 0, none⟩ u).setCell ⟨w.heap.size + 1 + 1, 1, none⟩ v) :=
 ⟨cE _ _ h.res, dY _ _ _ _ _ _⟩
end
theorem kN {w : World} {b : Nat} {v0 v1 v2 v3 v4 : Value} {T : TypeId} {fr : Nat × Nat} (h : w.heap[b]? = some (.cells #[v0, v1, v2, v3, v4] T fr)) : w.cell? ⟨b, 0, none⟩ = some v0 ∧ w.cell? ⟨b, 1, none⟩ = some v1 ∧ w.cell? ⟨b, 2, none⟩ = some v2 ∧ w.cell? ⟨b, 3, none⟩ = some v3 ∧ w.cell? ⟨b, 4, none⟩ = some v4 :=
 ⟨aPr h, aPr h, aPr h, aPr h, aPr h⟩
theorem mX.form {E : Int → Addr} {r : Int × List Int × List aA} {w w' : World} {e : Ending} (h : mX E r w e w') : ∃ a n c a' n' c' er, e = .returned (.tuple #[.agg #[.slice a n c, .slice a' n' c'], er]) := by
 rcases h with ⟨_, e1, _⟩ | ⟨_, va, vc, oa, oc, bY, e1, _⟩
 ·exact ⟨_, _, _, _, _, _, _, e1⟩
 ·exact ⟨_, _, _, _, _, _, _, e1⟩
theorem mX.bel {E : Int → Addr} {r : Int × List Int × List aA} {w w' : World} {e : Ending} (h : mX E r w e w') : Below w.heap.size w w' := by
 rcases h with ⟨_, _, h⟩ | ⟨_, va, vc, oa, oc, bY, _, _, _, _, _, _, _, h⟩
 ·exact h
 ·exact h
theorem mX.up {E : Int → Addr} {r : Int × List Int × List aA} {w w2 w3 wf : World} {e : Ending} (h : mX E r w2 e w3) (hs : w.heap.size ≤ w2.heap.size) (hk : ∀ j, w2.heap.size ≤ j → wf.heap[j]? = w3.heap[j]?) (hz : wf.heap.size = w3.heap.size) (hb : Below w.heap.size w wf) : mX E r w e wf := by
 rcases h with ⟨h1, h2, _⟩ | ⟨h0, va, vc, oa, oc, bY, h1, h2, h3, h4, h5, h6, h7, _⟩
 ·exact .inl ⟨h1, h2, hb⟩
 ·exact .inr ⟨h0, va, vc, oa, oc, bY, h1, (h2.kept (fun j a b => hk j a)).more hs aPq, by rw [hz]; exact h3.kept (fun j a b => hk j (by omega)), by omega, by omega, h6, h7, hb⟩
theorem mX.eqr {E : Int → Addr} {r r' : Int × List Int × List aA} {w w' : World} {e : Ending} (h : mX E r w e w') (e1 : r = r') : mX E r' w e w' := e1 ▸ h
theorem aGt {xs : List Int} {l : List aA} (h : aE xs l = true) (item : ByteArray) (kind qty : Int) : oneOf (cA item (counted xs l)).level (decide ((cA item (counted xs l)).placed.kind = 4)) kind item qty = oneOf (aI item l l.length) (bN l item) kind item qty := by
 have e : cA item (counted xs l) = ⟨aI item l l.length, bE tB item l l.length, bE gT item l l.length⟩ := by
  unfold counted; rw [if_pos h, xY h item _ aPq]
 rw [e]
 rfl
set_option maxHeartbeats 40000000 in
theorem xW (w : World) (B : Nat) (E : Int → Addr) (hE : eG w B E) (g off : Nat) (ao : Option Addr) (cv no co d : Nat) (xs : List Int) (l : List aA) (kind qty dv sq : Int) (item : ByteArray) (hx : Ints w B (some ⟨g, off, none⟩) 4 xs) (h : bP w B ao no l) (hB : B ≤ w.heap.size) (bW : 4 ≤ cv) (cB : bM ao no co) (hc : aE xs l = true) (hd : d < 4) (hi : item.size ≤ 1048576) :
  Calls Tryz.prog 109 #[.agg #[.slice (some ⟨g, off, none⟩) 4 cv, .slice ao no co], .int .i64 (d : Int), .agg #[.int .i64 kind, .string item, .int .i64 qty, .int .i64 dv, .int .i64 sq]] w (mX E (dL xs l d kind item qty) w) := by
 have hM : no ≤ 160 := by rw [← h.1]; exact eF hc
 have hlv := xL hc item l.length aPq
 have aNN : 0 ≤ aI item l l.length := rT item l l.length
 have hsl : (cA item (counted xs l)).level = aI item l l.length := by
  unfold counted; rw [if_pos hc, xY hc item _ aPq]
 have hT := rJ.mk0 w #[.slice (some ⟨g, off, none⟩) 4 cv, .slice ao no co] #[.int .i64 kind, .string item, .int .i64 qty, .int .i64 dv, .int .i64 sq] #[.slice none 0 0, .slice none 0 0] 27 29 27
 have HV := aPo (hx.below hT.bel hB)
 have HO := aPo (h.below hT.bel hB)
 have HE := aPo (hE.below hT.bel hB)
 have HT := aPo hT
 have gS := aPo cB
 have HC := aPo hc
 have HR := aGt hc item kind qty
 have HON : dL xs l d kind item qty = (if (oneOf (aI item l l.length) (bN l item) kind item qty).2 = 0 then (if (aQ xs l d (oneOf (aI item l l.length) (bN l item) kind item qty).1).ok = true then (0, eE xs d, cI l d (aQ xs l d (oneOf (aI item l l.length) (bN l item) kind item qty).1)) else (4, [], [])) else ((oneOf (aI item l l.length) (bN l item) kind item qty).2, [], [])) := rfl
 have hoi := aAj (aI item l l.length) (bN l item) kind item qty
 generalize oneOf (aI item l l.length) (bN l item) kind item qty = r at HR HON hoi
 rw [HON]
 obtain ⟨R, hR⟩ : ∃ R : Int × List Int × List aA, R = (if r.2 = 0 then (if (aQ xs l d r.1).ok = true then (0, eE xs d, cI l d (aQ xs l d r.1)) else (4, [], [])) else (r.2, [], [])) := ⟨_, rfl⟩
 rw [← hR]
 have tY := aPo hR
 have hri : r.1.item.size ≤ 1048576 := by
  rcases hoi with e | e
  ·rw [e]; exact hi
  ·rw [e]; decide
 have HR := aPo HR
 have HSL := aPo hsl
 clear hx h hT cB hE hc HON hoi hsl hR
 go_enter Tryz.func109, Tryz.ntmps109
 go_upto_region 1 with fail
 generalize ((w.alloc (.cells #[.slice (some ⟨g, off, none⟩) 4 cv, .slice ao no co] 27)).alloc (.cells #[.int .i64 kind, .string item, .int .i64 qty, .int .i64 dv, .int .i64 sq] 29)).alloc (.cells #[.slice none 0 0, .slice none 0 0] 27) = w0 at HV HO HE HT ⊢
 obtain ⟨c0, c1⟩ := pair_cells HT.out.fst
 obtain ⟨d0, d1, d2, d3, d4⟩ := kN HT.out.snd
 have jW := HT.out.lt
 go_wp2_with fail
 refine (aK8 w0 B E HE.out (some ⟨g, off, none⟩) ao 4 cv no co xs l kind qty dv sq item HV.out HO.out (by omega) (by omega) gS.out.1 ⟨by omega, gS.out.2.1⟩ hi _ rfl (by rw [HSL.out]; exact aNN) (by rw [HSL.out]; omega)).mono ?_
 rintro e w1 ⟨rfl, hb⟩
 rw [HR.out]
 have bC := aPo (HT.out.next hb)
 have jR := aPo (HV.out.below hb (by omega))
 have dD := aPo (HO.out.below hb (by omega))
 have fB := aPo (HE.out.below hb (by omega))
 have eZ := hb.size
 clear hb c0 c1 d0 d1 d2 d3 d4 HT HV HO HE HR HSL
 obtain ⟨o, code⟩ := r
 dsimp only at hri ⊢
 obtain ⟨c0, c1⟩ := pair_cells bC.out.fst
 by_cases tS : code = 0
 ·subst tS
  rw [G3]
  go_upto_region 2 with fail
  have aT := ((Below.refl w1.heap.size w1).alloc aPq (.cells #[.int .i64 o.dev, .int .i64 o.seq, .int .i64 o.stamp, .int .i64 o.kind, .string o.item, .int .i64 o.qty, .int .i64 o.level, .int .i64 o.undos] 50)); have aK := aPo (bC.out.next aT); have kQ := aPo (jR.out.below aT (by omega))
  have gR := aPo (dD.out.below aT (by omega))
  have dW := aPo (fB.out.below aT (by omega))
  have lN := aPo (heap_alloc_new w1 (.cells #[.int .i64 o.dev, .int .i64 o.seq, .int .i64 o.stamp, .int .i64 o.kind, .string o.item, .int .i64 o.qty, .int .i64 o.level, .int .i64 o.undos] 50)); have eC := aT.size; clear aT c0 c1 bC jR dD fB; generalize w1.alloc (.cells #[.int .i64 o.dev, .int .i64 o.seq, .int .i64 o.stamp, .int .i64 o.kind, .string o.item, .int .i64 o.qty, .int .i64 o.level, .int .i64 o.undos] 50) = w2 at aK kQ gR dW lN eC ⊢; generalize w1.heap.size = ob at eZ eC lN ⊢; obtain ⟨c0, c1⟩ := pair_cells aK.out.fst; obtain ⟨o0, o1, o2, o3, o4, o5, o6, o7⟩ := aN lN.out
  go_wp2_with fail
  refine (aGS w2 B E dW.out g off ao cv no co d xs l o kQ.out gR.out (by omega) bW gS.out  HC.out hd hri).mono ?_
  intro e w3 gP
  obtain ⟨a, n, c, a', n', c', er, rfl⟩ := gP.form; have C9 := aPo gP; have aV := gP.bel; have bH := aPo (aK.out.next aV); have gO := aV.size; clear gP aV c0 c1 o0 o1 o2 o3 o4 o5 o6 o7 kQ gR dW lN aK; obtain ⟨r0, r1⟩ := pair_cells bH.out.res; obtain ⟨fP, fO⟩ := aB bH.out.res; have HX := aPo (bH.out.set2 (.slice a n c) (.slice a' n' c')).1; have bQ := aPo (bH.out.bel.trans ((bH.out.set2 (.slice a n c) (.slice a' n' c')).2.mono (by omega)))
  have pN := aY w3 (w.heap.size + 1 + 1) (.slice a n c) (.slice a' n' c'); have wE : Hid (∀ j, w2.heap.size ≤ j → ((w3.setCell ⟨w.heap.size + 1 + 1, 0, none⟩ (.slice a n c)).setCell ⟨w.heap.size + 1 + 1, 1, none⟩ (.slice a' n' c')).heap[j]? = w3.heap[j]?) := fun j hj => aD _ _ (by omega)
  go_wp2
  change bodyPost _ _ _ _ _ ((w3.setCell ⟨w.heap.size + 1 + 1, 0, none⟩ (.slice a n c)).setCell ⟨w.heap.size + 1 + 1, 1, none⟩ (.slice a' n' c'))
  clear r0 r1 fP fO; generalize (w3.setCell ⟨w.heap.size + 1 + 1, 0, none⟩ (.slice a n c)).setCell ⟨w.heap.size + 1 + 1, 1, none⟩ (.slice a' n' c') = wf at HX bQ wE pN ⊢; obtain ⟨q0, q1⟩ := pair_cells HX.out; exact bodyPost_ret (v := .tuple #[.agg #[.slice a n c, .slice a' n' c'], er]) (by simp [results, Tryz.results109, go_sem, q0, q1]) rfl ((C9.out.up (by omega) wE.out pN bQ.out).eqr (by rw [tY.out]; exact (if_pos trivial).symm))
 ·obtain ⟨er, her⟩ : ∃ er, er = kM E code := ⟨_, rfl⟩
  rw [← her]; have HER : Hid (er = kM E code) := her; have K2 : er = .iface 226 (.pointer (some (E code))) := by rw [her]; unfold kM; rw [if_neg tS]
  clear her
  go_upto_region 2 with fail
  have aT := ((Below.refl w1.heap.size w1).alloc aPq (.cells #[.int .i64 o.dev, .int .i64 o.seq, .int .i64 o.stamp, .int .i64 o.kind, .string o.item, .int .i64 o.qty, .int .i64 o.level, .int .i64 o.undos] 50)); have aK := aPo (bC.out.next aT); clear aT c0 c1 bC jR dD fB; generalize w1.alloc (.cells #[.int .i64 o.dev, .int .i64 o.seq, .int .i64 o.stamp, .int .i64 o.kind, .string o.item, .int .i64 o.qty, .int .i64 o.level, .int .i64 o.undos] 50) = w2 at aK ⊢; generalize w1.heap.size = ob at eZ ⊢; obtain ⟨r0, r1⟩ := pair_cells aK.out.res; obtain ⟨fP, fO⟩ := aB aK.out.res; have HX := aPo (aK.out.set2 (.slice none 0 0) (.slice none 0 0)).1; have bQ := aPo (aK.out.bel.trans ((aK.out.set2 (.slice none 0 0) (.slice none 0 0)).2.mono (by omega)))
  subst K2; go_wp2
  change bodyPost _ _ _ _ _ ((w2.setCell ⟨w.heap.size + 1 + 1, 0, none⟩ (.slice none 0 0)).setCell ⟨w.heap.size + 1 + 1, 1, none⟩ (.slice none 0 0))
  clear r0 r1 fP fO; generalize (w2.setCell ⟨w.heap.size + 1 + 1, 0, none⟩ (.slice none 0 0)).setCell ⟨w.heap.size + 1 + 1, 1, none⟩ (.slice none 0 0) = wf at HX bQ ⊢; obtain ⟨q0, q1⟩ := pair_cells HX.out; exact bodyPost_ret (v := .tuple #[.agg #[.slice none 0 0, .slice none 0 0], .iface 226 (.pointer (some (E code)))]) (by simp [results, Tryz.results109, go_sem, q0, q1]) rfl ((show mX E (code, [], []) w _ wf from .inl ⟨tS, by rw [← HER.out], bQ.out⟩).eqr (by rw [tY.out]; exact (if_neg tS).symm))
set_option linter.unusedVariables false
set_option linter.unusedSimpArgs false
theorem mJ {w w1 : World} {x : Array Value} {z0 z1 : Value} {T : TypeId} (h : tV w w1 x #[z0, z1] T) (u v : Value) :
  ((w1.setCell ⟨w.heap.size + 1, 0, none⟩ u).setCell ⟨w.heap.size + 1, 1, none⟩ v).heap[w.heap.size + 1]? = some (.cells #[u, v] T (0, 0)) ∧ Below (w.heap.size + 1) w1 ((w1.setCell ⟨w.heap.size + 1, 0, none⟩ u).setCell ⟨w.heap.size + 1, 1, none⟩ v) :=
 ⟨cE _ _ h.snd, dY _ _ _ _ _ _⟩
theorem aCl {w w1 : World} {x y : Array Value} {T : TypeId} (h : tV w w1 x y T) : w.heap.size + 1 < w1.heap.size := (aPp h.snd).1
theorem Y9 : ∀ (l : List aA) (i : Nat), i < l.length → (aF l).set (i * 8 + 7) (.int .i64 ((l.getD i aA.zero).undos + 1)) = aF (l.set i (I5 (l.getD i aA.zero)))
 | [], i, h => by simp at h
 | x :: l, 0, _ => rfl
 | x :: l, i + 1, h => by
  have ih := Y9 l i (by simpa using h)
  show (bV x ++ aF l).set ((i + 1) * 8 + 7) (.int .i64 ((l.getD i aA.zero).undos + 1)) = bV x ++ aF (l.set i (I5 (l.getD i aA.zero)))
  rw [← ih, show (i + 1) * 8 + 7 = (i * 8 + 7) + 8 by omega]
  rfl
theorem aGk {W : World} {base n m c : Nat} {a : Option Addr} {xs : List Value} (h : W.ownsRow base 50 8 (.slice a m c) n xs) (hn : 0 < n) : ∃ k, a = some ⟨k, 0, none⟩ ∧ base ≤ k ∧ k < W.heap.size := by
 rcases h.2 with ⟨_, e⟩ | ⟨g, cap, aW, e, hg, hc, _⟩
 ·omega
 ·injection e with e1 _ _
  exact ⟨g, e1, hg, (aPp hc).1⟩
set_option maxHeartbeats 40000000 in
theorem sG (w : World) (B : Nat) (E : Int → Addr) (hE : eG w B E) (g off : Nat) (ao : Option Addr) (cv no co d : Nat) (xs : List Int) (l : List aA) (s : Int) (hx : Ints w B (some ⟨g, off, none⟩) 4 xs) (h : bP w B ao no l) (hB : B ≤ w.heap.size) (bW : 4 ≤ cv) (cB : bM ao no co) (hc : aE xs l = true) (hd : d < 4) :
  Calls Tryz.prog 108 #[.agg #[.slice (some ⟨g, off, none⟩) 4 cv, .slice ao no co], .int .i64 (d : Int), .int .i64 s] w (mX E (kW xs l (d : Int) s) w) := by
 obtain ⟨yJ, hxa⟩ := iH hc
 obtain ⟨qD, hx1⟩ := hxa d hd
 clear yJ
 have hM : no ≤ 160 := by rw [← h.1]; exact eF hc
 have HM : Hid (∀ i, i < no → (l.getD i aA.zero).item.size ≤ 1048576) := fun i hi' => by
  have h2 := (dK (eU hc (i := i) (by rw [h.1]; exact hi'))).2.2.2.2.1
  have e : aC l i = l.getD i aA.zero := rfl; rw [← e]; omega
 have HU : Hid (∀ i, i < no → 0 ≤ (l.getD i aA.zero).undos ∧ (l.getD i aA.zero).undos ≤ 50) := fun i hi' => by
  have h2 := dK (eU hc (i := i) (by rw [h.1]; exact hi'))
  have e : aC l i = l.getD i aA.zero := rfl; rw [← e]; exact ⟨h2.2.2.2.2.2.1, h2.2.2.2.2.2.2.1⟩
 have hT := tV.mk0 w #[.slice (some ⟨g, off, none⟩) 4 cv, .slice ao no co] #[.slice none 0 0, .slice none 0 0] 27
 have HV := aPo (hx.below hT.bel hB)
 have HO := aPo (h.below hT.bel hB)
 have HE := aPo (hE.below hT.bel hB)
 have HT := aPo hT
 have nV := aPo h.1
 have gS := aPo cB
 have HC := aPo hc
 have hvo : cJ xs = true := (pY hc).1
 have N6 := hE.low
 have HNO : Hid (¬ (1 ≤ s ∧ s ≤ xs.getD d 0) → kW xs l (d : Int) s = (2, [], [])) := fun hn => by
  unfold kW; rw [if_neg (aHJ hc hd hn)]
 have HYE : Hid (1 ≤ s → s ≤ xs.getD d 0 → aO xs d + (s.toNat - 1) < l.length ∧ kW xs l (d : Int) s = (if (aC l (aO xs d + (s.toNat - 1))).undos = 50 then (4, [], []) else (0, xs, lO l (aO xs d + (s.toNat - 1))))) := fun h1 h2 => by
  obtain ⟨q1, q2⟩ := aGo hc hd h1 h2; refine ⟨q1, ?_⟩
  unfold kW; rw [q2, if_pos q1]
 clear hx h hT cB hE hc hxa
 go_enter Tryz.func108, Tryz.ntmps108
 go_upto_region 1 with fail
 generalize (w.alloc (.cells #[.slice (some ⟨g, off, none⟩) 4 cv, .slice ao no co] 27)).alloc (.cells #[.slice none 0 0, .slice none 0 0] 27) = w0 at HV HO HE HT ⊢
 obtain ⟨b, sM, he, hb, Z8⟩ := HV.out.2 d hd
 injection he with he
 injection he with he1 yR
 subst he1 yR
 obtain ⟨x, pM⟩ : ∃ x, x = xs.getD d 0 := ⟨_, rfl⟩
 rw [← pM] at HNO HYE Z8 qD hx1
 clear pM
 have hdi : (d : Int) < 4 := by omega
 have jW := aCl HT.out
 obtain ⟨c0, c1⟩ := pair_cells HT.out.fst
 go_wp2_with fail
 refine (cH s 1 x w0).mono ?_
 rintro e w1 ⟨rfl, rfl⟩
 clear Z8
 by_cases hin : 1 ≤ s ∧ s ≤ x
 rotate_left
 ·have rV : cV s 1 x = false := R6 (by omega)
  rw [rV]; have G5 := aPo (HNO.out hin); have g2 := aJt HE.out
  go_wp2_with fail
  refine wp_region_held_drew (S := fun w' => w'.cell? ⟨2, 0, none⟩ = some (.iface 226 (.pointer (some (E 2))))) (by kernel_rfl) g2 (fun aL => ?_)
  have cS : Hid (Below w0.heap.size w0 w0.drew) := ⟨rfl, rfl, rfl, Nat.le_refl _, fun _ _ => rfl⟩
  generalize w0.drew = z0 at cS aL ⊢; have cR := aPo (HT.out.next cS.out); obtain ⟨r0, r1⟩ := pair_cells cR.out.snd; obtain ⟨fP, fO⟩ := aB cR.out.snd; refine tj 0 ?_
  refine tj 1 ?_
  refine rk 2 rfl (fun K hK => ?_)
  go_simp
  refine hK.out _ _ ((World.cell?_of_block (a := ⟨2, 0, none⟩) (aD (w := z0) (b := w.heap.size + 1) (k := 2) (.slice none 0 0) (.slice none 0 0) (by omega))).trans aL) (fun bS => ?_)
  clear hK K
  (try simp only [Act.put, u1, u2, u3])
  refine tj 3 ?_
  refine wpAnyH_done (by kernel_rfl) ?_ _
  have HX := aPo (mJ cR.out (.slice none 0 0) (.slice none 0 0)).1; have bQ := aPo (cR.out.bel.trans ((mJ cR.out (.slice none 0 0) (.slice none 0 0)).2.mono (by omega)))
  go_wp2
  change bodyPost _ _ _ _ _ ((z0.setCell ⟨w.heap.size + 1, 0, none⟩ (.slice none 0 0)).setCell ⟨w.heap.size + 1, 1, none⟩ (.slice none 0 0))
  clear r0 r1 fP fO aL bS; generalize ((z0.setCell ⟨w.heap.size + 1, 0, none⟩ (.slice none 0 0)).setCell ⟨w.heap.size + 1, 1, none⟩ (.slice none 0 0)) = wf at HX bQ ⊢; obtain ⟨q0, q1⟩ := pair_cells HX.out; exact bodyPost_ret (v := .tuple #[.agg #[.slice none 0 0, .slice none 0 0], (.iface 226 (.pointer (some (E 2))))]) (by simp [results, Tryz.results108, go_sem, q0, q1]) rfl ((show mX E (2, [], []) w _ wf from .inl ⟨by decide, by rw [G1], bQ.out⟩).eqr G5.out.symm)
 have rV : cV s 1 x = true := xU hin.1 hin.2
 obtain ⟨hpl, vM⟩ := HYE.out hin.1 hin.2
 rw [rV]
 have i6 := aPo vM
 clear vM rV
 go_wp2_with fail
 refine (uF w0 B (some ⟨g, off, none⟩) ao cv no co d xs HV.out (by omega) bW hd hvo s (by omega) (by omega)).mono ?_
 rintro e w1 ⟨rfl, aG⟩
 generalize aO xs d + (s.toNat - 1) = q at hpl i6 ⊢
 have bC := aPo (HT.out.next aG)
 have jR := aPo (HV.out.below aG (by omega))
 have dD := aPo (HO.out.below aG (by omega))
 have fB := aPo (HE.out.below aG (by omega))
 have eZ := aG.size
 clear aG c0 c1 HT HV HO HE HNO HYE
 obtain ⟨c0, c1⟩ := pair_cells bC.out.fst
 have hqn : q < no := by have := nV.out; omega
 have hqi : (q : Int) < (no : Int) := by omega
 obtain ⟨bo, oo, rfl, hbo, vN⟩ := dD.out.2 q hqn
 obtain ⟨_, _, _, _, _, _, _, u7⟩ := vN
 obtain ⟨M9, hu1⟩ := HU.out q hqn
 obtain ⟨u, yL⟩ : ∃ u, u = (l.getD q aA.zero).undos := ⟨_, rfl⟩
 rw [← yL] at u7 M9 hu1
 have HUE := aPo yL
 clear yL
 by_cases d8 : u = 50
 ·subst d8
  have G5 : Hid (kW xs l (d : Int) s = (4, [], [])) := by
   show _ = _
   rw [i6.out]; exact if_pos HUE.out.symm
  have g4 := aJs fB.out
  go_wp2_with fail
  refine wp_region_held_drew (S := fun w' => w'.cell? ⟨4, 0, none⟩ = some (.iface 226 (.pointer (some (E 4))))) (by kernel_rfl) g4 (fun aL => ?_)
  have cS : Hid (Below w1.heap.size w1 w1.drew) := ⟨rfl, rfl, rfl, Nat.le_refl _, fun _ _ => rfl⟩
  generalize w1.drew = z0 at cS aL ⊢; have cR := aPo (bC.out.next cS.out); obtain ⟨r0, r1⟩ := pair_cells cR.out.snd; obtain ⟨fP, fO⟩ := aB cR.out.snd; refine tj 0 ?_
  refine tj 1 ?_
  refine rk 2 rfl (fun K hK => ?_)
  go_simp
  refine hK.out _ _ ((World.cell?_of_block (a := ⟨4, 0, none⟩) (aD (w := z0) (b := w.heap.size + 1) (k := 4) (.slice none 0 0) (.slice none 0 0) (by omega))).trans aL) (fun bS => ?_)
  clear hK K
  (try simp only [Act.put, u1, u2, u3])
  refine tj 3 ?_
  refine wpAnyH_done (by kernel_rfl) ?_ _
  have HX := aPo (mJ cR.out (.slice none 0 0) (.slice none 0 0)).1; have bQ := aPo (cR.out.bel.trans ((mJ cR.out (.slice none 0 0) (.slice none 0 0)).2.mono (by omega)))
  go_wp2
  change bodyPost _ _ _ _ _ ((z0.setCell ⟨w.heap.size + 1, 0, none⟩ (.slice none 0 0)).setCell ⟨w.heap.size + 1, 1, none⟩ (.slice none 0 0))
  clear r0 r1 fP fO aL bS; generalize ((z0.setCell ⟨w.heap.size + 1, 0, none⟩ (.slice none 0 0)).setCell ⟨w.heap.size + 1, 1, none⟩ (.slice none 0 0)) = wf at HX bQ ⊢; obtain ⟨q0, q1⟩ := pair_cells HX.out; exact bodyPost_ret (v := .tuple #[.agg #[.slice none 0 0, .slice none 0 0], (.iface 226 (.pointer (some (E 4))))]) (by simp [results, Tryz.results108, go_sem, q0, q1]) rfl ((show mX E (4, [], []) w _ wf from .inl ⟨by decide, by rw [aHc], bQ.out⟩).eqr G5.out.symm)
 have aPf : (u == 50) = false := beq_eq_false_iff_ne.2 d8
 have G5 : Hid (kW xs l (d : Int) s = (0, xs, lO l q)) := by
  show _ = _
  rw [i6.out]; exact if_neg (fun h => d8 (HUE.out.trans h))
 go_wp2_with fail
 clear u7
 refine (D9 w1 B g off (some ⟨bo, oo, none⟩) 4 cv no co xs l jR.out dD.out (by omega) (by omega) (by omega) (by omega) gS.out.2.2  HM.out).mono ?_
 rintro e w8 ⟨va, vc, oa, oc, bY, rfl, aU, jG, nQ, iN, sZ, jJ⟩
 have HT8 := aPo (bC.out.next sZ)
 have hs8 := sZ.size
 obtain ⟨go, rfl, aO4, aNT⟩ := aGk jG (by have := nV.out; omega)
 have HW8 := aPo aU
 have HCA := aPo jJ
 have HR8 := aPo jG
 have T1 := aCl bC.out
 clear sZ aU jJ jG c0 c1 bC jR dD fB
 go_upto_region 7 with fail
 have aT := ((Below.refl w8.heap.size w8).alloc aPq (.cells #[.slice va xs.length vc, .slice (some ⟨go, 0, none⟩) l.length oc] 27))
 have HT9 := aPo (HT8.out.next aT)
 have HW9 := aPo (HW8.out.below aT (by omega))
 have V5 := aPo (rP (B := 0) HR8.out aT)
 have O5 := aPo (heap_alloc_new w8 (.cells #[.slice va xs.length vc, .slice (some ⟨go, 0, none⟩) l.length oc] 27))
 have qE := aT.size
 clear aT HT8 HW8 HR8
 generalize w8.alloc (.cells #[.slice va xs.length vc, .slice (some ⟨go, 0, none⟩) l.length oc] 27) = w9 at HT9 HW9 V5 O5 qE ⊢
 have hx9 : w8.heap.size < w9.heap.size := (aPp O5.out).1
 generalize w8.heap.size = nb at hs8 qE hx9 O5 iN aNT ⊢
 obtain ⟨c0, c1⟩ := pair_cells O5.out
 have hql : (q : Int) < (l.length : Int) := by have := nV.out; omega
 have hqk : q < l.length := by have := nV.out; omega
 have hcu : (aF l)[q * 8 + 7]? = some (.int .i64 u) := by
  rw [HUE.out]; exact (sL l q 7 hqk (by omega)).trans rfl
 have u7 : w9.cell? ⟨go, q * 8 + 7, none⟩ = some (.int .i64 u) := (V5.out.cellAt (q * 8 + 7) (by omega)).trans hcu
 have f7 : w9.frozen? ⟨go, q * 8 + 7, none⟩ = false := V5.out.frozenAt (q * 8 + 7)
 have hwu : IntKind.i64.wrap (u + 1) = u + 1 := IntWalk.i64_in _ (by omega)
 have dF := V5.out.stored (q * 8 + 7) (.int .i64 (u + 1))
 have zM : Hid ((w9.setCell ⟨go, q * 8 + 7, none⟩ (.int .i64 (u + 1))).ownsRow bY 50 8 (.slice (some ⟨go, 0, none⟩) l.length oc) l.length (aF (lO l q))) := by
  have e : aF (lO l q) = (aF l).set (q * 8 + 7) (.int .i64 (u + 1)) := by
   rw [HUE.out]; exact (Y9 l q hqk).symm
  rw [e]; exact dF.1
 have iG : Below go w9 (w9.setCell ⟨go, q * 8 + 7, none⟩ (.int .i64 (u + 1))) := gN _ _ _ _
 have mF : Hid (tV w (w9.setCell ⟨go, q * 8 + 7, none⟩ (.int .i64 (u + 1))) #[.slice (some ⟨g, off, none⟩) 4 cv, .slice (some ⟨bo, oo, none⟩) no co] #[.slice none 0 0, .slice none 0 0] 27) := ⟨(iG.block _ (by omega)).trans HT9.out.fst, (iG.block _ (by omega)).trans HT9.out.snd, HT9.out.bel.trans (iG.mono (by omega))⟩
 have HWa := aPo (HW9.out.below iG (by omega))
 have HNa : Hid ((w9.setCell ⟨go, q * 8 + 7, none⟩ (.int .i64 (u + 1))).heap[nb]? = some (.cells #[.slice va xs.length vc, .slice (some ⟨go, 0, none⟩) l.length oc] 27 (0, 0))) := (heap_setCell_other _ _ _ _ (by show nb ≠ go; omega)).trans O5.out
 have hsa : (w9.setCell ⟨go, q * 8 + 7, none⟩ (.int .i64 (u + 1))).heap.size = w9.heap.size := by simp [World.setCell]
 clear dF hcu
 go_upto_region 8 with fail
 generalize w9.setCell ⟨go, q * 8 + 7, none⟩ (.int .i64 (u + 1)) = wa at zM mF HWa HNa hsa ⊢
 clear c0 c1 u7 f7 iG HT9 HW9 V5 O5
 obtain ⟨c0, c1⟩ := pair_cells HNa.out
 obtain ⟨r0, r1⟩ := pair_cells mF.out.snd
 obtain ⟨fP, fO⟩ := aB mF.out.snd
 have A8 := mJ mF.out (.slice va xs.length vc) (.slice (some ⟨go, 0, none⟩) l.length oc)
 have HX := aPo A8.1
 have bQ : Hid (Below w.heap.size w ((wa.setCell ⟨w.heap.size + 1, 0, none⟩ (.slice va xs.length vc)).setCell ⟨w.heap.size + 1, 1, none⟩ (.slice (some ⟨go, 0, none⟩) l.length oc))) := mF.out.bel.trans (A8.2.mono (by omega))
 have vZ : Hid (Own ((wa.setCell ⟨w.heap.size + 1, 0, none⟩ (.slice va xs.length vc)).setCell ⟨w.heap.size + 1, 1, none⟩ (.slice (some ⟨go, 0, none⟩) l.length oc)) w1.heap.size bY va xs.length xs) := HWa.out.kept (fun j h1 h2 => aD _ _ (by omega))
 have HRf := aPo (fV (vH (W' := ((wa.setCell ⟨w.heap.size + 1, 0, none⟩ (.slice va xs.length vc)).setCell ⟨w.heap.size + 1, 1, none⟩ (.slice (some ⟨go, 0, none⟩) l.length oc))) zM.out (fun k y e hk => aD _ _ (by omega))) aPq)
 have HCf := aPo (gA zM.out)
 have sV : ((wa.setCell ⟨w.heap.size + 1, 0, none⟩ (.slice va xs.length vc)).setCell ⟨w.heap.size + 1, 1, none⟩ (.slice (some ⟨go, 0, none⟩) l.length oc)).heap.size = wa.heap.size := aY _ _ _ _
 clear A8
 go_wp2
 change bodyPost _ _ _ _ _ ((wa.setCell ⟨w.heap.size + 1, 0, none⟩ (.slice va xs.length vc)).setCell ⟨w.heap.size + 1, 1, none⟩ (.slice (some ⟨go, 0, none⟩) l.length oc))
 clear c0 c1 r0 r1 fP fO mF HWa HNa zM
 generalize ((wa.setCell ⟨w.heap.size + 1, 0, none⟩ (.slice va xs.length vc)).setCell ⟨w.heap.size + 1, 1, none⟩ (.slice (some ⟨go, 0, none⟩) l.length oc)) = wf at HX bQ vZ HRf sV ⊢
 obtain ⟨q0, q1⟩ := pair_cells HX.out
 have htl : (lO l q).length = l.length := rB l q
 refine bodyPost_ret (v := .tuple #[.agg #[.slice va xs.length vc, .slice (some ⟨go, 0, none⟩) l.length oc], .nilIface]) (by simp [results, Tryz.results108, go_sem, q0, q1]) rfl (mX.eqr (show mX E (0, xs, lO l q) w _ wf from .inr ⟨rfl, va, vc, some ⟨go, 0, none⟩, oc, bY, ?_, vZ.out.more (by omega) aPq, ?_, by omega, by omega, HCA.out, ?_, bQ.out⟩) G5.out.symm)
 ·show _ = Ending.returned (.tuple #[.agg #[_, .slice _ (lO l q).length _], _])
  rw [htl]
 ·show bB wf bY wf.heap.size _ (lO l q).length (lO l q)
  rw [htl]; exact HRf.out
 ·show bM _ (lO l q).length oc
  rw [htl]; exact HCf.out
end Go.Proofs.YthkagbnpcjidfaaGreatDoor
