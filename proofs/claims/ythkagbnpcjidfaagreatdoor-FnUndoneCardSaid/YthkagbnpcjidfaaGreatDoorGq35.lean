/- Walks and mathematics that several claims share, part 35. -/
import Derived.Test.YthkagbnpcjidfaaGreatDoorGq28
import Derived.Test.YthkagbnpcjidfaaGreatDoorGq30
import Derived.Test.YthkagbnpcjidfaaGreatDoorGq34
import Derived.Deep.Cut
import Derived.Deep.RegionHeld
import Derived.Lib.Hide
namespace Go.Proofs.YthkagbnpcjidfaaGreatDoor
set_option maxRecDepth 100000
open Go.RowKit
set_option linter.unusedVariables false
set_option linter.unusedSimpArgs false
def nM (E : Int → Addr) (r : Int × List Int × List aA) (w : World) (e : Ending) (w' : World) : Prop :=
 (r.1 ≠ 0 ∧ e = .returned (.tuple #[.agg #[.slice none 0 0, .slice none 0 0], kQ E r.1]) ∧ Below w.heap.size w w') ∨
 (r.1 = 0 ∧ ∃ va vc oa oc cQ, e = .returned (.tuple #[.agg #[.slice va r.2.1.length vc, .slice oa r.2.2.length oc], .nilIface]) ∧ Own w' w.heap.size cQ va r.2.1.length r.2.1 ∧ bE w' cQ w'.heap.size oa r.2.2.length r.2.2 ∧ w.heap.size ≤ cQ ∧ cQ ≤ w'.heap.size ∧ bY va r.2.1.length vc ∧ bY oa r.2.2.length oc ∧ Below w.heap.size w w')
theorem aIN (E : Int → Addr) : kQ E 4 = .iface 226 (.pointer (some (E 4))) := by unfold kQ; rw [if_neg (by decide)]
theorem aK5 {w : World} {B : Nat} {E : Int → Addr} (h : eG w B E) : w.cell? ⟨4, 0, none⟩ = some (.iface 226 (.pointer (some (E 4)))) := h.cells 4 (by omega) (by omega)
theorem aK6 {w : World} {B : Nat} {E : Int → Addr} (h : eG w B E) : w.cell? ⟨2, 0, none⟩ = some (.iface 226 (.pointer (some (E 2)))) := h.cells 2 (by omega) (by omega)
theorem aCZ {w w1 : World} {x y z : Array Value} (h : jE w w1 x y z) (u0 u1 u2 : Value) : jE w (((w1.setCell ⟨w.heap.size + 1, 0, none⟩ u0).setCell ⟨w.heap.size + 1, 1, none⟩ u1).setCell ⟨w.heap.size + 1, 2, none⟩ u2) x (((y.setIfInBounds 0 u0).setIfInBounds 1 u1).setIfInBounds 2 u2) z := ((h.put 0 u0).put 1 u1).put 2 u2
set_option maxHeartbeats 40000000 in
theorem aGP (w : World) (B : Nat) (E : Int → Addr) (hE : eG w B E) (g off : Nat) (ao : Option Addr) (cv no co d : Nat) (xs : List Int) (l : List aA) (o : aA) (hx : Ints w B (some ⟨g, off, none⟩) 4 xs) (h : bR w B ao no l) (hB : B ≤ w.heap.size) (bU : 4 ≤ cv) (cC : bY ao no co) (hc : aD xs l = true) (hd : d < 4) (hi : o.item.size ≤ 1048576) (hok : (aK xs l d o).ok = false) :
  Calls Tryz.prog 135 #[.agg #[.slice (some ⟨g, off, none⟩) 4 cv, .slice ao no co], .int .i64 (d : Int), .agg #[.int .i64 o.dev, .int .i64 o.seq, .int .i64 o.stamp, .int .i64 o.kind, .string o.item, .int .i64 o.qty, .int .i64 o.level, .int .i64 o.undos]] w (nM E (4, [], []) w) := by
 obtain ⟨B2, hxa⟩ := eP hc
 obtain ⟨vC, hx1⟩ := hxa d hd
 have iR : no ≤ 160 := by rw [← h.1]; exact eF hc
 have eY : ∀ i, i < l.length → (aB l i).stamp ≤ 200000 := fun i hi' => by
  have h2 := (dI (fI hc hi')).2.2.2.1; omega
 have HM : Hid (∀ i, i < no → (l.getD i aA.zero).item.size ≤ 1048576) := fun i hi' => by
  have h2 := (dI (fI hc (i := i) (by rw [h.1]; exact hi'))).2.2.2.2.1
  have e : aB l i = l.getD i aA.zero := rfl; rw [← e]; omega
 have yU := pI l l.length
 have dQ := tG (N := 200000) (by omega) eY l.length aRr
 have hT := jE.mk0 w #[.slice (some ⟨g, off, none⟩) 4 cv, .slice ao no co] #[.int .i64 o.dev, .int .i64 o.seq, .int .i64 o.stamp, .int .i64 o.kind, .string o.item, .int .i64 o.qty, .int .i64 o.level, .int .i64 o.undos] #[.slice none 0 0, .slice none 0 0]
 have HV := aRp (hx.below hT.bel hB)
 have HO := aRp (h.below hT.bel hB)
 have HE := aRp (hE.below hT.bel hB)
 have HT := aRp hT
 have oQ := aRp h.1
 have iA := aRp cC
 have HC := aRp hc
 have HOK : Hid (dP (d : Int) (xs.getD d 0 + 1) (cX l l.length + 1) o.kind o.item o.qty o.level o.undos = false) := hok
 have Y3 : Hid (aK xs l d o = ⟨(d : Int), xs.getD d 0 + 1, cX l l.length + 1, o.kind, o.item, o.qty, o.level, o.undos⟩) := rfl
 have E8 : Hid (dH xs d = xs.set d (xs.getD d 0 + 1)) := rfl
 have X5 := hE.low
 clear hx h hT eY hok cC hE hc hxa
 go_enter Tryz.func135, Tryz.ntmps135
 go_upto_region 1 with fail
 rename_i KR hKR
 generalize ((w.alloc (.cells #[.slice (some ⟨g, off, none⟩) 4 cv, .slice ao no co] 27)).alloc (.cells #[.int .i64 o.dev, .int .i64 o.seq, .int .i64 o.stamp, .int .i64 o.kind, .string o.item, .int .i64 o.qty, .int .i64 o.level, .int .i64 o.undos] 50)).alloc (.cells #[.slice none 0 0, .slice none 0 0] 27) = w0 at HV HO HE HT ⊢
 obtain ⟨b, iI, he, hb, hc⟩ := HV.out.2 d hd
 injection he with he
 injection he with he1 tX
 subst he1 tX
 obtain ⟨x, qH⟩ : ∃ x, x = xs.getD d 0 := ⟨_, rfl⟩
 obtain ⟨S, eI⟩ : ∃ S, S = cX l l.length := ⟨_, rfl⟩
 rw [← qH, ← eI] at HOK Y3
 rw [← qH] at hc vC hx1 E8
 rw [← eI] at yU dQ
 have HSE := aRp eI
 have HXE := aRp qH
 clear qH eI
 have hdi : (d : Int) < 4 := by omega
 have lC := HT.out.lt
 have hwx : IntKind.i64.wrap (x + 1) = x + 1 := IntWalk.i64_in _ (by omega)
 have hws : IntKind.i64.wrap (S + 1) = S + 1 := IntWalk.i64_in _ (by omega)
 have hS : w0.cell? ⟨w.heap.size, 0, none⟩ = some (.slice (some ⟨g, off, none⟩) 4 cv) ∧ w0.cell? ⟨w.heap.size, 1, none⟩ = some (.slice ao no co) ∧ w0.cell? ⟨g, off + d, none⟩ = some (.int .i64 x) := ⟨(pair_cells HT.out.fst).1, (pair_cells HT.out.fst).2, hc⟩
 refine wp_region_held_drew (S := fun w' => w'.cell? ⟨w.heap.size, 0, none⟩ = some (.slice (some ⟨g, off, none⟩) 4 cv) ∧ w'.cell? ⟨w.heap.size, 1, none⟩ = some (.slice ao no co) ∧ w'.cell? ⟨g, off + d, none⟩ = some (.int .i64 x)) (by kernel_rfl) hS (fun aO => ?_)
 have dE : Hid (Below w0.heap.size w0 w0.drew) := ⟨rfl, rfl, rfl, Nat.le_refl _, fun _ _ => rfl⟩
 generalize w0.drew = z0 at dE aO ⊢
 refine tj 0 ?_
 refine tj 1 ?_
 refine tj 2 ?_
 refine tj 3 ?_
 refine tj 4 ?_
 refine tj 5 ?_
 refine tj 6 ?_
 refine tj 7 ?_
 refine tj 8 ?_
 refine tj 11 ?_
 refine rk 9 rfl (fun K hK => ?_)
 go_simp
 go_at_call 154
 refine (aBO z0 B ao no co l (HO.out.below dE.out (by omega)) (by have := dE.out.size; omega) (by omega)).mono ?_
 rintro e z1 ⟨rfl, hC⟩
 rw [← HSE.out]
 have dK : Hid (Below w0.heap.size w0 z1) := dE.out.trans (hC.mono dE.out.size)
 have aR := aRp (HT.out.next dK.out)
 have dQ : z1.cell? ⟨w.heap.size, 0, none⟩ = some (.slice (some ⟨g, off, none⟩) 4 cv) ∧ z1.cell? ⟨w.heap.size, 1, none⟩ = some (.slice ao no co) ∧ z1.cell? ⟨g, off + d, none⟩ = some (.int .i64 x) := ⟨(pair_cells aR.out.fst).1, (pair_cells aR.out.fst).2, (dK.out.cell (p := ⟨g, off + d, none⟩) (by show g < _; omega)).trans hc⟩
 clear hC
 refine hK.out _ _ dQ (fun bQ => ?_)
 clear hK K
 (try simp only [Act.put, u1, u2, u3])
 obtain ⟨o0, o1, o2, o3, o4, o5, o6, o7⟩ := aH aR.out.snd
 obtain ⟨f0, f1, f2, f3, f4, f5, f6, f7⟩ := cB aR.out.snd
 have hSt : ∀ (W : World), (∀ k, k ≠ w.heap.size + 1 → W.heap[k]? = z1.heap[k]?) → W.cell? ⟨w.heap.size, 0, none⟩ = some (.slice (some ⟨g, off, none⟩) 4 cv) ∧ W.cell? ⟨w.heap.size, 1, none⟩ = some (.slice ao no co) ∧ W.cell? ⟨g, off + d, none⟩ = some (.int .i64 x) := fun W hW => ⟨(World.cell?_of_block (a := ⟨w.heap.size, 0, none⟩) (hW _ (by show w.heap.size ≠ w.heap.size + 1; omega))).trans dQ.1, (World.cell?_of_block (a := ⟨w.heap.size, 1, none⟩) (hW _ (by show w.heap.size ≠ w.heap.size + 1; omega))).trans dQ.2.1, (World.cell?_of_block (a := ⟨g, off + d, none⟩) (hW _ (by show g ≠ w.heap.size + 1; omega))).trans dQ.2.2⟩
 refine tj 10 ?_
 refine rk 12 rfl (fun K hK => ?_)
 go_simp
 refine hK.out _ _ (hSt _ (fun k hk => heap_setCell_other _ _ _ _ hk)) (fun dG => ?_)
 clear hK K
 (try simp only [Act.put, u1, u2, u3])
 refine tj 13 ?_
 refine rk 14 rfl (fun K hK => ?_)
 go_simp
 refine hK.out _ _ (hSt _ (fun k hk => (heap_setCell_other _ _ _ _ hk).trans (heap_setCell_other _ _ _ _ hk))) (fun lD => ?_)
 clear hK K
 (try simp only [Act.put, u1, u2, u3])
 refine tj 15 ?_
 refine rk 16 rfl (fun K hK => ?_)
 go_simp
 refine hK.out _ _ (hSt _ (fun k hk => (heap_setCell_other _ _ _ _ hk).trans ((heap_setCell_other _ _ _ _ hk).trans (heap_setCell_other _ _ _ _ hk)))) (fun jU => ?_)
 clear hK K
 (try simp only [Act.put, u1, u2, u3])
 refine wpAnyH_done (by kernel_rfl) ?_ _
 have oO : Hid (jE w (((z1.setCell ⟨w.heap.size + 1, 0, none⟩ (.int .i64 (d : Int))).setCell ⟨w.heap.size + 1, 1, none⟩ (.int .i64 (x + 1))).setCell ⟨w.heap.size + 1, 2, none⟩ (.int .i64 (S + 1))) #[.slice (some ⟨g, off, none⟩) 4 cv, .slice ao no co] #[.int .i64 (d : Int), .int .i64 (x + 1), .int .i64 (S + 1), .int .i64 o.kind, .string o.item, .int .i64 o.qty, .int .i64 o.level, .int .i64 o.undos] #[.slice none 0 0, .slice none 0 0]) := aCZ aR.out _ _ _
 have iX : Hid (Below (w.heap.size + 1) w0 (((z1.setCell ⟨w.heap.size + 1, 0, none⟩ (.int .i64 (d : Int))).setCell ⟨w.heap.size + 1, 1, none⟩ (.int .i64 (x + 1))).setCell ⟨w.heap.size + 1, 2, none⟩ (.int .i64 (S + 1)))) := ((dK.out.mono (by omega)).trans (dW _ _ _ _ _ _)).trans (gW _ _ _ _)
 have qX := aRp (HV.out.below iX.out (by omega))
 have pV := aRp (HO.out.below iX.out (by omega))
 have yZ := aRp (HE.out.below iX.out (by omega))
 clear o0 o1 o2 o3 o4 o5 o6 o7 f0 f1 f2 f3 f4 f5 f6 f7 hSt aO bQ dG lD jU hS dQ HT aR dK HV HO HE iX hc lC
 have qK := oO.out.lt
 generalize (((z1.setCell ⟨w.heap.size + 1, 0, none⟩ (.int .i64 (d : Int))).setCell ⟨w.heap.size + 1, 1, none⟩ (.int .i64 (x + 1))).setCell ⟨w.heap.size + 1, 2, none⟩ (.int .i64 (S + 1))) = w4 at oO qX pV yZ qK ⊢
 apply hKR
 clear hKR KR
 obtain ⟨o0, o1, o2, o3, o4, o5, o6, o7⟩ := aH (show w4.heap[w.heap.size + 1]? = some (.cells #[.int .i64 (d : Int), .int .i64 (x + 1), .int .i64 (S + 1), .int .i64 o.kind, .string o.item, .int .i64 o.qty, .int .i64 o.level, .int .i64 o.undos] 50 (0, 0)) from oO.out.snd)
 go_wp2_with fail
 refine (lA (d : Int) (x + 1) (S + 1) o.kind o.item o.qty o.level o.undos w4).mono ?_
 rintro e w5 ⟨rfl, aW⟩
 rw [HOK.out]
 have rP := aRp (oO.out.next aW)
 have HV5 := aRp (qX.out.below aW (by omega))
 have HO5 := aRp (pV.out.below aW (by omega))
 have O9 := aRp (yZ.out.below aW (by omega))
 have hl5 := rP.out.lt
 clear aW oO qX pV yZ qK o0 o1 o2 o3 o4 o5 o6 o7
 have g4 := aK5 O9.out
 obtain ⟨bL, eC⟩ : Hid (((w5.setCell ⟨w.heap.size + 1 + 1, 0, none⟩ (.slice none 0 0)).setCell ⟨w.heap.size + 1 + 1, 1, none⟩ (.slice none 0 0)).heap[w.heap.size + 1 + 1]? = some (.cells #[.slice none 0 0, .slice none 0 0] 27 (0, 0))) ∧ True := ⟨(rP.out.set2 (.slice none 0 0) (.slice none 0 0)).1, trivial⟩
 clear bL eC
 go_wp2_with fail
 refine wp_region_held_drew (S := fun w' => w'.cell? ⟨4, 0, none⟩ = some (.iface 226 (.pointer (some (E 4))))) (by kernel_rfl) g4 (fun aO => ?_)
 have dE : Hid (Below w5.heap.size w5 w5.drew) := ⟨rfl, rfl, rfl, Nat.le_refl _, fun _ _ => rfl⟩
 generalize w5.drew = z5 at dE aO ⊢
 have E9 := aRp (rP.out.next dE.out)
 clear rP
 obtain ⟨r0, r1⟩ := pair_cells E9.out.res
 obtain ⟨g0, g1⟩ := aC E9.out.res
 refine tj 0 ?_
 refine tj 1 ?_
 refine rk 2 rfl (fun K hK => ?_)
 go_simp
 refine hK.out _ _ ((World.cell?_of_block (a := ⟨4, 0, none⟩) (aE (w := z5) (b := w.heap.size + 1 + 1) (k := 4) (.slice none 0 0) (.slice none 0 0) (by omega))).trans aO) (fun bQ => ?_)
 clear hK K
 (try simp only [Act.put, u1, u2, u3])
 refine tj 3 ?_
 refine wpAnyH_done (by kernel_rfl) ?_ _
 have bL := aRp (E9.out.set2 (.slice none 0 0) (.slice none 0 0)).1
 have eC := aRp (E9.out.bel.trans ((E9.out.set2 (.slice none 0 0) (.slice none 0 0)).2.mono (by omega)))
 go_wp2
 change bodyPost _ _ _ _ _ ((z5.setCell ⟨w.heap.size + 1 + 1, 0, none⟩ (.slice none 0 0)).setCell ⟨w.heap.size + 1 + 1, 1, none⟩ (.slice none 0 0))
 clear r0 r1 g0 g1 aO bQ
 generalize ((z5.setCell ⟨w.heap.size + 1 + 1, 0, none⟩ (.slice none 0 0)).setCell ⟨w.heap.size + 1 + 1, 1, none⟩ (.slice none 0 0)) = wf at bL eC ⊢
 obtain ⟨q0, q1⟩ := pair_cells bL.out
 exact bodyPost_ret (v := .tuple #[.agg #[.slice none 0 0, .slice none 0 0], (.iface 226 (.pointer (some (E 4))))]) (by simp [results, Tryz.results135, go_sem, q0, q1]) rfl (.inl ⟨by decide, by rw [aIN], eC.out⟩)
theorem wW {W W' : World} {base n m c : Nat} {a : Option Addr} {xs : List Value} (h : W.ownsRow base 50 8 (.slice a m c) n xs) (hk : ∀ k x, a = some ⟨k, x, none⟩ → base ≤ k → W'.heap[k]? = W.heap[k]?) : W'.ownsRow base 50 8 (.slice a m c) n xs := by
 refine ⟨h.1, ?_⟩
 rcases h.2 with h2 | ⟨g, cap, aY, e, hg, hc, r⟩
 ·exact .inl h2
 ·have e0 := e
  injection e0 with e1 _ _; exact .inr ⟨g, cap, aY, e, hg, (hk g 0 e1 hg).trans hc, r⟩
theorem aLO {W : World} {base n m c b : Nat} {a : Option Addr} {xs : List Value} {cs : Array Value} {T : TypeId} (h : W.ownsRow base 50 8 (.slice a m c) n xs) (hb : W.heap[b]? = some (.cells cs T (0, 0))) (hT : T ≠ 50) : ∀ k x, a = some ⟨k, x, none⟩ → k ≠ b := by
 intro k x e N0
 rcases h.2 with ⟨e2, _⟩ | ⟨g, cap, aY, e2, hg, hc, r⟩
 ·injection e2 with e3 _ _
  rw [e] at e3; cases e3
 ·injection e2 with e3 _ _
  rw [e] at e3; injection e3 with e3; injection e3 with e4 _; subst e4 N0; rw [hc] at hb; injection hb with hb; injection hb with _ hb _; exact hT hb.symm
theorem aLY {w : World} {lo hi gv n d : Nat} {aY : Array Value} {xs : List Int} (x : Int) (hl : xs.length = n) (hd : d < n) (h1 : lo ≤ gv) (h2 : gv < hi) (hg : w.heap[gv]? = some (.cells aY 2 (0, 0))) (hc : ∀ i, i < n → aY[i]? = some (.int .i64 (xs.getD i 0))) : Own (w.setCell ⟨gv, d, none⟩ (.int .i64 x)) lo hi (some ⟨gv, 0, none⟩) n (xs.set d x) := by
 refine ⟨by simp [hl], fun _ => ⟨gv, aY.setIfInBounds d (.int .i64 x), rfl, h1, h2, heap_setCell_same _ _ _ _ _ _ hg, fun i hi => ?_⟩⟩
 have hs : d < aY.size := (aRq (hc d hd)).1
 rw [Array.getElem?_setIfInBounds, gF (by omega)]
 by_cases e : d = i
 ·subst e
  rw [if_pos rfl, if_pos hs, if_pos rfl]
 ·rw [if_neg e, if_neg e]
  exact hc i hi
theorem aOR {G : Prop} {F : Nat → World → Prop} (T : Nat → World → Prop) (h1 : (∀ vb z, F vb z → T vb z) → G) (h2 : ∀ vb z, F vb z → T vb z) : G := h1 h2
theorem lX {P : Program} {ops : Array Oper} {Q : Exit → Act → World → Prop} {md : Region.Mode} {S : World → Prop} {fuel : Nat} {l l' : Array Bool} {a : Act} {w : World} (h : l = l') (hw : wpAnyH P md ops Q S fuel l' a w) : wpAnyH P md ops Q S fuel l a w := h ▸ hw
set_option maxHeartbeats 40000000 in
theorem aFS (w : World) (B : Nat) (E : Int → Addr) (hE : eG w B E) (g off : Nat) (ao : Option Addr) (cv no co d : Nat) (xs : List Int) (l : List aA) (o : aA) (hx : Ints w B (some ⟨g, off, none⟩) 4 xs) (h : bR w B ao no l) (hB : B ≤ w.heap.size) (bU : 4 ≤ cv) (cC : bY ao no co) (hc : aD xs l = true) (hd : d < 4) (hi : o.item.size ≤ 1048576) (hok : (aK xs l d o).ok = true) :
  Calls Tryz.prog 135 #[.agg #[.slice (some ⟨g, off, none⟩) 4 cv, .slice ao no co], .int .i64 (d : Int), .agg #[.int .i64 o.dev, .int .i64 o.seq, .int .i64 o.stamp, .int .i64 o.kind, .string o.item, .int .i64 o.qty, .int .i64 o.level, .int .i64 o.undos]] w (nM E (0, dH xs d, bH l d (aK xs l d o)) w) := by
 obtain ⟨B2, hxa⟩ := eP hc
 obtain ⟨vC, hx1⟩ := hxa d hd
 have iR : no ≤ 160 := by rw [← h.1]; exact eF hc
 have eY : ∀ i, i < l.length → (aB l i).stamp ≤ 200000 := fun i hi' => by
  have h2 := (dI (fI hc hi')).2.2.2.1; omega
 have HM : Hid (∀ i, i < no → (l.getD i aA.zero).item.size ≤ 1048576) := fun i hi' => by
  have h2 := (dI (fI hc (i := i) (by rw [h.1]; exact hi'))).2.2.2.2.1
  have e : aB l i = l.getD i aA.zero := rfl; rw [← e]; omega
 have yU := pI l l.length
 have dQ := tG (N := 200000) (by omega) eY l.length aRr
 have hT := jE.mk0 w #[.slice (some ⟨g, off, none⟩) 4 cv, .slice ao no co] #[.int .i64 o.dev, .int .i64 o.seq, .int .i64 o.stamp, .int .i64 o.kind, .string o.item, .int .i64 o.qty, .int .i64 o.level, .int .i64 o.undos] #[.slice none 0 0, .slice none 0 0]
 have HV := aRp (hx.below hT.bel hB)
 have HO := aRp (h.below hT.bel hB)
 have HE := aRp (hE.below hT.bel hB)
 have HT := aRp hT
 have oQ := aRp h.1
 have iA := aRp cC
 have HC := aRp hc
 have HOK : Hid (dP (d : Int) (xs.getD d 0 + 1) (cX l l.length + 1) o.kind o.item o.qty o.level o.undos = true) := hok
 have Y3 : Hid (aK xs l d o = ⟨(d : Int), xs.getD d 0 + 1, cX l l.length + 1, o.kind, o.item, o.qty, o.level, o.undos⟩) := rfl
 have E8 : Hid (dH xs d = xs.set d (xs.getD d 0 + 1)) := rfl
 have X5 := hE.low
 clear hx h hT eY hok cC hE hc hxa
 go_enter Tryz.func135, Tryz.ntmps135
 go_upto_region 1 with fail
 rename_i KR hKR
 generalize ((w.alloc (.cells #[.slice (some ⟨g, off, none⟩) 4 cv, .slice ao no co] 27)).alloc (.cells #[.int .i64 o.dev, .int .i64 o.seq, .int .i64 o.stamp, .int .i64 o.kind, .string o.item, .int .i64 o.qty, .int .i64 o.level, .int .i64 o.undos] 50)).alloc (.cells #[.slice none 0 0, .slice none 0 0] 27) = w0 at HV HO HE HT ⊢
 obtain ⟨b, iI, he, hb, hc⟩ := HV.out.2 d hd
 injection he with he
 injection he with he1 tX
 subst he1 tX
 obtain ⟨x, qH⟩ : ∃ x, x = xs.getD d 0 := ⟨_, rfl⟩
 obtain ⟨S, eI⟩ : ∃ S, S = cX l l.length := ⟨_, rfl⟩
 rw [← qH, ← eI] at HOK Y3
 rw [← qH] at hc vC hx1 E8
 rw [← eI] at yU dQ
 have HSE := aRp eI
 have HXE := aRp qH
 clear qH eI
 have hdi : (d : Int) < 4 := by omega
 have lC := HT.out.lt
 have hwx : IntKind.i64.wrap (x + 1) = x + 1 := IntWalk.i64_in _ (by omega)
 have hws : IntKind.i64.wrap (S + 1) = S + 1 := IntWalk.i64_in _ (by omega)
 have hS : w0.cell? ⟨w.heap.size, 0, none⟩ = some (.slice (some ⟨g, off, none⟩) 4 cv) ∧ w0.cell? ⟨w.heap.size, 1, none⟩ = some (.slice ao no co) ∧ w0.cell? ⟨g, off + d, none⟩ = some (.int .i64 x) := ⟨(pair_cells HT.out.fst).1, (pair_cells HT.out.fst).2, hc⟩
 refine wp_region_held_drew (S := fun w' => w'.cell? ⟨w.heap.size, 0, none⟩ = some (.slice (some ⟨g, off, none⟩) 4 cv) ∧ w'.cell? ⟨w.heap.size, 1, none⟩ = some (.slice ao no co) ∧ w'.cell? ⟨g, off + d, none⟩ = some (.int .i64 x)) (by kernel_rfl) hS (fun aO => ?_)
 have dE : Hid (Below w0.heap.size w0 w0.drew) := ⟨rfl, rfl, rfl, Nat.le_refl _, fun _ _ => rfl⟩
 generalize w0.drew = z0 at dE aO ⊢
 refine tj 0 ?_
 refine tj 1 ?_
 refine tj 2 ?_
 refine tj 3 ?_
 refine tj 4 ?_
 refine tj 5 ?_
 refine tj 6 ?_
 refine tj 7 ?_
 refine tj 8 ?_
 refine tj 11 ?_
 refine rk 9 rfl (fun K hK => ?_)
 go_simp
 go_at_call 154
 refine (aBO z0 B ao no co l (HO.out.below dE.out (by omega)) (by have := dE.out.size; omega) (by omega)).mono ?_
 rintro e z1 ⟨rfl, hC⟩
 rw [← HSE.out]
 have dK : Hid (Below w0.heap.size w0 z1) := dE.out.trans (hC.mono dE.out.size)
 have aR := aRp (HT.out.next dK.out)
 have dQ : z1.cell? ⟨w.heap.size, 0, none⟩ = some (.slice (some ⟨g, off, none⟩) 4 cv) ∧ z1.cell? ⟨w.heap.size, 1, none⟩ = some (.slice ao no co) ∧ z1.cell? ⟨g, off + d, none⟩ = some (.int .i64 x) := ⟨(pair_cells aR.out.fst).1, (pair_cells aR.out.fst).2, (dK.out.cell (p := ⟨g, off + d, none⟩) (by show g < _; omega)).trans hc⟩
 clear hC
 refine hK.out _ _ dQ (fun bQ => ?_)
 clear hK K
 (try simp only [Act.put, u1, u2, u3])
 obtain ⟨o0, o1, o2, o3, o4, o5, o6, o7⟩ := aH aR.out.snd
 obtain ⟨f0, f1, f2, f3, f4, f5, f6, f7⟩ := cB aR.out.snd
 have hSt : ∀ (W : World), (∀ k, k ≠ w.heap.size + 1 → W.heap[k]? = z1.heap[k]?) → W.cell? ⟨w.heap.size, 0, none⟩ = some (.slice (some ⟨g, off, none⟩) 4 cv) ∧ W.cell? ⟨w.heap.size, 1, none⟩ = some (.slice ao no co) ∧ W.cell? ⟨g, off + d, none⟩ = some (.int .i64 x) := fun W hW => ⟨(World.cell?_of_block (a := ⟨w.heap.size, 0, none⟩) (hW _ (by show w.heap.size ≠ w.heap.size + 1; omega))).trans dQ.1, (World.cell?_of_block (a := ⟨w.heap.size, 1, none⟩) (hW _ (by show w.heap.size ≠ w.heap.size + 1; omega))).trans dQ.2.1, (World.cell?_of_block (a := ⟨g, off + d, none⟩) (hW _ (by show g ≠ w.heap.size + 1; omega))).trans dQ.2.2⟩
 refine tj 10 ?_
 refine rk 12 rfl (fun K hK => ?_)
 go_simp
 refine hK.out _ _ (hSt _ (fun k hk => heap_setCell_other _ _ _ _ hk)) (fun dG => ?_)
 clear hK K
 (try simp only [Act.put, u1, u2, u3])
 refine tj 13 ?_
 refine rk 14 rfl (fun K hK => ?_)
 go_simp
 refine hK.out _ _ (hSt _ (fun k hk => (heap_setCell_other _ _ _ _ hk).trans (heap_setCell_other _ _ _ _ hk))) (fun lD => ?_)
 clear hK K
 (try simp only [Act.put, u1, u2, u3])
 refine tj 15 ?_
 refine rk 16 rfl (fun K hK => ?_)
 go_simp
 refine hK.out _ _ (hSt _ (fun k hk => (heap_setCell_other _ _ _ _ hk).trans ((heap_setCell_other _ _ _ _ hk).trans (heap_setCell_other _ _ _ _ hk)))) (fun jU => ?_)
 clear hK K
 (try simp only [Act.put, u1, u2, u3])
 refine wpAnyH_done (by kernel_rfl) ?_ _
 have oO : Hid (jE w (((z1.setCell ⟨w.heap.size + 1, 0, none⟩ (.int .i64 (d : Int))).setCell ⟨w.heap.size + 1, 1, none⟩ (.int .i64 (x + 1))).setCell ⟨w.heap.size + 1, 2, none⟩ (.int .i64 (S + 1))) #[.slice (some ⟨g, off, none⟩) 4 cv, .slice ao no co] #[.int .i64 (d : Int), .int .i64 (x + 1), .int .i64 (S + 1), .int .i64 o.kind, .string o.item, .int .i64 o.qty, .int .i64 o.level, .int .i64 o.undos] #[.slice none 0 0, .slice none 0 0]) := aCZ aR.out _ _ _
 have iX : Hid (Below (w.heap.size + 1) w0 (((z1.setCell ⟨w.heap.size + 1, 0, none⟩ (.int .i64 (d : Int))).setCell ⟨w.heap.size + 1, 1, none⟩ (.int .i64 (x + 1))).setCell ⟨w.heap.size + 1, 2, none⟩ (.int .i64 (S + 1)))) := ((dK.out.mono (by omega)).trans (dW _ _ _ _ _ _)).trans (gW _ _ _ _)
 have qX := aRp (HV.out.below iX.out (by omega))
 have pV := aRp (HO.out.below iX.out (by omega))
 have yZ := aRp (HE.out.below iX.out (by omega))
 clear o0 o1 o2 o3 o4 o5 o6 o7 f0 f1 f2 f3 f4 f5 f6 f7 hSt aO bQ dG lD jU hS dQ HT aR dK HV HO HE iX hc lC
 have qK := oO.out.lt
 generalize (((z1.setCell ⟨w.heap.size + 1, 0, none⟩ (.int .i64 (d : Int))).setCell ⟨w.heap.size + 1, 1, none⟩ (.int .i64 (x + 1))).setCell ⟨w.heap.size + 1, 2, none⟩ (.int .i64 (S + 1))) = w4 at oO qX pV yZ qK ⊢
 apply hKR
 clear hKR KR
 obtain ⟨o0, o1, o2, o3, o4, o5, o6, o7⟩ := aH (show w4.heap[w.heap.size + 1]? = some (.cells #[.int .i64 (d : Int), .int .i64 (x + 1), .int .i64 (S + 1), .int .i64 o.kind, .string o.item, .int .i64 o.qty, .int .i64 o.level, .int .i64 o.undos] 50 (0, 0)) from oO.out.snd)
 go_wp2_with fail
 refine (lA (d : Int) (x + 1) (S + 1) o.kind o.item o.qty o.level o.undos w4).mono ?_
 rintro e w5 ⟨rfl, aW⟩
 rw [HOK.out]
 have rP := aRp (oO.out.next aW)
 have HV5 := aRp (qX.out.below aW (by omega))
 have HO5 := aRp (pV.out.below aW (by omega))
 have O9 := aRp (yZ.out.below aW (by omega))
 have hl5 := rP.out.lt
 clear aW oO qX pV yZ qK o0 o1 o2 o3 o4 o5 o6 o7
 obtain ⟨o0, o1, o2, o3, o4, o5, o6, o7⟩ := aH (show w5.heap[w.heap.size + 1]? = some (.cells #[.int .i64 (d : Int), .int .i64 (x + 1), .int .i64 (S + 1), .int .i64 o.kind, .string o.item, .int .i64 o.qty, .int .i64 o.level, .int .i64 o.undos] 50 (0, 0)) from rP.out.snd)
 go_wp2_with fail
 refine (aAX o.item hi w5).mono ?_
 rintro e w6 ⟨rfl, hM⟩
 have E9 := aRp (rP.out.next hM)
 have HP7 : Hid (jE w (w6.setCell ⟨w.heap.size + 1, 4, none⟩ (.string o.item)) #[.slice (some ⟨g, off, none⟩) 4 cv, .slice ao no co] #[.int .i64 (d : Int), .int .i64 (x + 1), .int .i64 (S + 1), .int .i64 o.kind, .string o.item, .int .i64 o.qty, .int .i64 o.level, .int .i64 o.undos] #[.slice none 0 0, .slice none 0 0]) := E9.out.put 4 (.string o.item)
 have M9 := hM.size
 have hB7 : Below (w.heap.size + 1) w5 (w6.setCell ⟨w.heap.size + 1, 4, none⟩ (.string o.item)) := (hM.mono (by omega)).trans (gW _ _ _ _)
 have HV7 := aRp (HV5.out.below hB7 (by omega))
 have O7 := aRp (HO5.out.below hB7 (by omega))
 have hl7 := HP7.out.lt
 clear hM hB7 o0 o1 o2 o3 o4 o5 o6 o7 HV5 HO5 O9 rP hl5
 obtain ⟨o0, o1, o2, o3, o4, o5, o6, o7⟩ := aH (show w6.heap[w.heap.size + 1]? = some (.cells #[.int .i64 (d : Int), .int .i64 (x + 1), .int .i64 (S + 1), .int .i64 o.kind, .string o.item, .int .i64 o.qty, .int .i64 o.level, .int .i64 o.undos] 50 (0, 0)) from E9.out.snd)
 obtain ⟨f0, f1, f2, f3, f4, f5, f6, f7⟩ := cB E9.out.snd
 go_upto_region 5 with fail
 generalize w6.setCell ⟨w.heap.size + 1, 4, none⟩ (.string o.item) = w7 at HP7 HV7 O7 hl7 ⊢
 clear o0 o1 o2 o3 o4 o5 o6 o7 f0 f1 f2 f3 f4 f5 f6 f7 E9 M9
 obtain ⟨q0, q1⟩ := pair_cells HP7.out.fst
 go_wp2_with fail
 refine (K7 w7 B g off ao 4 cv no co xs l HV7.out O7.out (by omega) (by omega) (by omega) (by omega) iA.out.2.2  HM.out).mono ?_
 rintro e w8 ⟨va, vc, oa, oc, cQ, rfl, aZ, jO, yP, mH, pE, jQ⟩
 rw [B2] at aZ jQ ⊢
 have HP8 := aRp (HP7.out.next pE)
 have HV8 := aRp (HV7.out.below pE (by omega))
 obtain ⟨gv, aY, rfl, bZ, eA, hgv, aEN⟩ := aZ.2 (by omega)
 have hs8 := pE.size
 have HGV := aRp hgv
 have HCU := aRp aEN
 have HCA := aRp jQ
 have HR8 := aRp jO
 have xD : Hid (∀ k y, oa = some ⟨k, y, none⟩ → cQ ≤ k ∧ k < w8.heap.size) := fun k y e => jO.lt k (by rw [e]; rfl)
 clear pE HP7 HV7 O7 q0 q1 aZ jQ hgv aEN jO
 have hgs : gv < w8.heap.size := by omega
 go_upto_region 6 with fail
 rename_i KR hKR
 have aV := ((Below.refl w8.heap.size w8).alloc aRr (.cells #[.slice (some ⟨gv, 0, none⟩) 4 vc, .slice oa l.length oc] 27))
 have yW := aRp (HP8.out.next aV)
 have HV9 := aRp (HV8.out.below aV (by omega))
 have HG9 := aRp ((aV.block _ hgs).trans HGV.out)
 have HR9 := aRp (sK (B := 0) HR8.out aV)
 have Y4 := aRp (World.alloc_heap_new w8 (.cells #[.slice (some ⟨gv, 0, none⟩) 4 vc, .slice oa l.length oc] 27))
 have qJ := aV.size
 have hl9 := yW.out.lt
 clear aV HP8 HV8 HGV HR8
 generalize w8.alloc (.cells #[.slice (some ⟨gv, 0, none⟩) 4 vc, .slice oa l.length oc] 27) = w9 at yW HV9 HG9 HR9 Y4 qJ hl9 ⊢
 have hx9 : w8.heap.size < w9.heap.size := (aRq Y4.out).1
 generalize w8.heap.size = nb at xD hs8 hgs qJ hx9 Y4 mH ⊢
 have hpl : aP xs d + ((x + 1).toNat - 1) = putAt (d : Int) l := by
  rw [aD7 HC.out hd]
  show _ = aP xs d + (xs.getD d 0).toNat
  rw [← HXE.out]; omega
 have hvo : cL xs = true := (qS HC.out).1
 have aPG := mX (d : Int) l
 have dE : Hid (Below w9.heap.size w9 w9.drew) := ⟨rfl, rfl, rfl, Nat.le_refl _, fun _ _ => rfl⟩
 obtain ⟨z0, gR⟩ : ∃ z0, z0 = w9.drew := ⟨_, rfl⟩
 rw [← gR] at dE
 have aFn := aRp (yW.out.next dE.out)
 have aCP := aRp (HV9.out.below dE.out (by omega))
 have aOz := aRp ((dE.out.block _ (by omega)).trans HG9.out)
 have aOa := aRp (sK (B := 0) HR9.out dE.out)
 have aBt := aRp ((dE.out.block _ hx9).trans Y4.out)
 have aGR := dE.out.size
 have xG : ∀ z, Below z0.heap.size z0 z → z.cell? ⟨w.heap.size, 0, none⟩ = some (.slice (some ⟨g, off, none⟩) 4 cv) ∧ z.cell? ⟨w.heap.size, 1, none⟩ = some (.slice ao no co) ∧ z.cell? ⟨w.heap.size + 1, 0, none⟩ = some (.int .i64 (d : Int)) ∧ z.cell? ⟨w.heap.size + 1, 1, none⟩ = some (.int .i64 (x + 1)) ∧ z.cell? ⟨w.heap.size + 1, 2, none⟩ = some (.int .i64 (S + 1)) ∧ z.cell? ⟨w.heap.size + 1, 3, none⟩ = some (.int .i64 o.kind) ∧ z.cell? ⟨w.heap.size + 1, 4, none⟩ = some (.string o.item) ∧ z.cell? ⟨w.heap.size + 1, 5, none⟩ = some (.int .i64 o.qty) ∧ z.cell? ⟨w.heap.size + 1, 6, none⟩ = some (.int .i64 o.level) ∧ z.cell? ⟨w.heap.size + 1, 7, none⟩ = some (.int .i64 o.undos) := fun z hb => ⟨(pair_cells (aFn.out.next hb).fst).1, (pair_cells (aFn.out.next hb).fst).2, aH (show z.heap[w.heap.size + 1]? = some (.cells #[.int .i64 (d : Int), .int .i64 (x + 1), .int .i64 (S + 1), .int .i64 o.kind, .string o.item, .int .i64 o.qty, .int .i64 o.level, .int .i64 o.undos] 50 (0, 0)) from (aFn.out.next hb).snd)⟩
 refine wp_region_held_drew (S := fun w' => w'.cell? ⟨w.heap.size, 0, none⟩ = some (.slice (some ⟨g, off, none⟩) 4 cv) ∧ w'.cell? ⟨w.heap.size, 1, none⟩ = some (.slice ao no co) ∧ w'.cell? ⟨w.heap.size + 1, 0, none⟩ = some (.int .i64 (d : Int)) ∧ w'.cell? ⟨w.heap.size + 1, 1, none⟩ = some (.int .i64 (x + 1)) ∧ w'.cell? ⟨w.heap.size + 1, 2, none⟩ = some (.int .i64 (S + 1)) ∧ w'.cell? ⟨w.heap.size + 1, 3, none⟩ = some (.int .i64 o.kind) ∧ w'.cell? ⟨w.heap.size + 1, 4, none⟩ = some (.string o.item) ∧ w'.cell? ⟨w.heap.size + 1, 5, none⟩ = some (.int .i64 o.qty) ∧ w'.cell? ⟨w.heap.size + 1, 6, none⟩ = some (.int .i64 o.level) ∧ w'.cell? ⟨w.heap.size + 1, 7, none⟩ = some (.int .i64 o.undos)) (by kernel_rfl) (by rw [← gR]; exact xG z0 (Below.refl _ _)) (fun aO => ?_)
 rw [← gR] at aO ⊢
 clear gR yW HV9 HG9 HR9 Y4 dE
 refine tj 0 ?_
 refine tj 2 ?_
 refine tj 3 ?_
 refine tj 4 ?_
 refine tj 5 ?_
 refine tj 7 ?_
 apply aOR (F := fun vb z => Below z0.heap.size z0 z ∧ z0.heap.size ≤ vb ∧ z.heap[vb]? = some (.cells #[.int .i64 (d : Int), .int .i64 (x + 1), .int .i64 (S + 1), .int .i64 o.kind, .string o.item, .int .i64 o.qty, .int .i64 o.level, .int .i64 o.undos] 50 (0, 0)))
 case h1 =>
  intro hT
  have yV : Below z0.heap.size z0 z0 := Below.refl _ _; refine wpAnyH_ready (rs := [1, 6, 8]) (by kernel_rfl) (by simp) ?_
  refine (AllReadyH.cons rfl (fun K hK => ?_) (AllReadyH.cons rfl (fun K hK => ?_) (AllReadyH.cons rfl (fun K hK => ?_) AllReadyH.nil)))
  ·
   have zY : z0.cell? ⟨nb, 1, none⟩ = some (.slice oa l.length oc) := (yV.cell (p := ⟨nb, 1, none⟩) (by show nb < _; omega)).trans (pair_cells aBt.out).2
   go_simp
   refine hK.out _ _ (xG z0 yV) (fun _ => ?_)
   clear hK K zY
   (try simp only [Act.put, u1, u2, u3])
   refine wpAnyH_ready (rs := [6, 8]) (by kernel_rfl) (by simp) ?_
   refine (AllReadyH.cons rfl (fun K hK => ?_) (AllReadyH.cons rfl (fun K hK => ?_) AllReadyH.nil))
   ·
    go_simp
    go_at_call 72
    refine (vT z0 B (some ⟨g, off, none⟩) ao cv no co d xs (aCP.out.below yV (by omega)) (by have := yV.size; omega) bU hd hvo (x + 1) (by omega) (by omega)).mono ?_
    rintro e y2 ⟨rfl, aNG⟩; rw [hpl]; have gy2 : Below z0.heap.size z0 y2 := yV.trans (aNG.mono yV.size); refine hK.out _ _ (xG y2 gy2) (fun _ => ?_)
    clear hK K aNG
    (try simp only [Act.put, u1, u2, u3])
    refine wpAnyH_ready (rs := [8]) (by kernel_rfl) (by simp) ?_
    refine (AllReadyH.cons rfl (fun K hK => ?_) AllReadyH.nil)
    ·
     have gy3 : Below z0.heap.size z0 (y2.alloc (.cells #[.int .i64 (d : Int), .int .i64 (x + 1), .int .i64 (S + 1), .int .i64 o.kind, .string o.item, .int .i64 o.qty, .int .i64 o.level, .int .i64 o.undos] 50)) := gy2.alloc gy2.size _; have vy3 : (y2.alloc (.cells #[.int .i64 (d : Int), .int .i64 (x + 1), .int .i64 (S + 1), .int .i64 o.kind, .string o.item, .int .i64 o.qty, .int .i64 o.level, .int .i64 o.undos] 50)).heap[y2.heap.size]? = some (.cells #[.int .i64 (d : Int), .int .i64 (x + 1), .int .i64 (S + 1), .int .i64 o.kind, .string o.item, .int .i64 o.qty, .int .i64 o.level, .int .i64 o.undos] 50 (0, 0)) := World.alloc_heap_new _ _
     go_simp
     refine hK.out _ _ (xG _ gy3) (fun _ => ?_)
     clear hK K
     (try simp only [Act.put, u1, u2, u3])
     generalize (y2.alloc (.cells #[.int .i64 (d : Int), .int .i64 (x + 1), .int .i64 (S + 1), .int .i64 o.kind, .string o.item, .int .i64 o.qty, .int .i64 o.level, .int .i64 o.undos] 50)) = y3 at gy3 vy3 ⊢; obtain ⟨vb, oU⟩ : ∃ vb, vb = y2.heap.size := ⟨_, rfl⟩; have B3 : z0.heap.size ≤ vb := by rw [oU]; exact gy2.size
     rw [← oU] at vy3 ⊢; clear oU; exact lX (l' := #[true, true, true, true, true, true, true, true, true, false, false, false]) (by kernel_rfl) (hT vb y3 ⟨gy3, B3, vy3⟩)
   ·
    have gy4 : Below z0.heap.size z0 (z0.alloc (.cells #[.int .i64 (d : Int), .int .i64 (x + 1), .int .i64 (S + 1), .int .i64 o.kind, .string o.item, .int .i64 o.qty, .int .i64 o.level, .int .i64 o.undos] 50)) := yV.alloc yV.size _; have vy4 : (z0.alloc (.cells #[.int .i64 (d : Int), .int .i64 (x + 1), .int .i64 (S + 1), .int .i64 o.kind, .string o.item, .int .i64 o.qty, .int .i64 o.level, .int .i64 o.undos] 50)).heap[z0.heap.size]? = some (.cells #[.int .i64 (d : Int), .int .i64 (x + 1), .int .i64 (S + 1), .int .i64 o.kind, .string o.item, .int .i64 o.qty, .int .i64 o.level, .int .i64 o.undos] 50 (0, 0)) := World.alloc_heap_new _ _
    go_simp
    refine hK.out _ _ (xG _ gy4) (fun _ => ?_)
    clear hK K
    (try simp only [Act.put, u1, u2, u3])
    generalize (z0.alloc (.cells #[.int .i64 (d : Int), .int .i64 (x + 1), .int .i64 (S + 1), .int .i64 o.kind, .string o.item, .int .i64 o.qty, .int .i64 o.level, .int .i64 o.undos] 50)) = y4 at gy4 vy4 ⊢; obtain ⟨vb, oU⟩ : ∃ vb, vb = z0.heap.size := ⟨_, rfl⟩; have B3 : z0.heap.size ≤ vb := by rw [oU]; exact yV.size
    rw [← oU] at vy4 ⊢; clear oU; refine wpAnyH_ready (rs := [6]) (by kernel_rfl) (by simp) ?_
    refine (AllReadyH.cons rfl (fun K hK => ?_) AllReadyH.nil)
    ·
     go_simp
     go_at_call 72
     refine (vT y4 B (some ⟨g, off, none⟩) ao cv no co d xs (aCP.out.below gy4 (by omega)) (by have := gy4.size; omega) bU hd hvo (x + 1) (by omega) (by omega)).mono ?_
     rintro e y5 ⟨rfl, aJ8⟩; rw [hpl]; have gy5 : Below z0.heap.size z0 y5 := gy4.trans (aJ8.mono gy4.size); have vy5 := (aJ8.block _ (aRq vy4).1).trans vy4; refine hK.out _ _ (xG y5 gy5) (fun _ => ?_)
     clear hK K aJ8
     (try simp only [Act.put, u1, u2, u3])
     exact lX (l' := #[true, true, true, true, true, true, true, true, true, false, false, false]) (by kernel_rfl) (hT vb y5 ⟨gy5, B3, vy5⟩)
  ·
   go_simp
   go_at_call 72
   refine (vT z0 B (some ⟨g, off, none⟩) ao cv no co d xs (aCP.out.below yV (by omega)) (by have := yV.size; omega) bU hd hvo (x + 1) (by omega) (by omega)).mono ?_
   rintro e y6 ⟨rfl, aNF⟩; rw [hpl]; have gy6 : Below z0.heap.size z0 y6 := yV.trans (aNF.mono yV.size); refine hK.out _ _ (xG y6 gy6) (fun _ => ?_)
   clear hK K aNF
   (try simp only [Act.put, u1, u2, u3])
   refine wpAnyH_ready (rs := [1, 8]) (by kernel_rfl) (by simp) ?_
   refine (AllReadyH.cons rfl (fun K hK => ?_) (AllReadyH.cons rfl (fun K hK => ?_) AllReadyH.nil))
   ·
    have zY : y6.cell? ⟨nb, 1, none⟩ = some (.slice oa l.length oc) := (gy6.cell (p := ⟨nb, 1, none⟩) (by show nb < _; omega)).trans (pair_cells aBt.out).2
    go_simp
    refine hK.out _ _ (xG y6 gy6) (fun _ => ?_)
    clear hK K zY
    (try simp only [Act.put, u1, u2, u3])
    refine wpAnyH_ready (rs := [8]) (by kernel_rfl) (by simp) ?_
    refine (AllReadyH.cons rfl (fun K hK => ?_) AllReadyH.nil)
    ·
     have gy8 : Below z0.heap.size z0 (y6.alloc (.cells #[.int .i64 (d : Int), .int .i64 (x + 1), .int .i64 (S + 1), .int .i64 o.kind, .string o.item, .int .i64 o.qty, .int .i64 o.level, .int .i64 o.undos] 50)) := gy6.alloc gy6.size _; have vy8 : (y6.alloc (.cells #[.int .i64 (d : Int), .int .i64 (x + 1), .int .i64 (S + 1), .int .i64 o.kind, .string o.item, .int .i64 o.qty, .int .i64 o.level, .int .i64 o.undos] 50)).heap[y6.heap.size]? = some (.cells #[.int .i64 (d : Int), .int .i64 (x + 1), .int .i64 (S + 1), .int .i64 o.kind, .string o.item, .int .i64 o.qty, .int .i64 o.level, .int .i64 o.undos] 50 (0, 0)) := World.alloc_heap_new _ _
     go_simp
     refine hK.out _ _ (xG _ gy8) (fun _ => ?_)
     clear hK K
     (try simp only [Act.put, u1, u2, u3])
     generalize (y6.alloc (.cells #[.int .i64 (d : Int), .int .i64 (x + 1), .int .i64 (S + 1), .int .i64 o.kind, .string o.item, .int .i64 o.qty, .int .i64 o.level, .int .i64 o.undos] 50)) = y8 at gy8 vy8 ⊢; obtain ⟨vb, oU⟩ : ∃ vb, vb = y6.heap.size := ⟨_, rfl⟩; have B3 : z0.heap.size ≤ vb := by rw [oU]; exact gy6.size
     rw [← oU] at vy8 ⊢; clear oU; exact lX (l' := #[true, true, true, true, true, true, true, true, true, false, false, false]) (by kernel_rfl) (hT vb y8 ⟨gy8, B3, vy8⟩)
   ·
    have gy9 : Below z0.heap.size z0 (y6.alloc (.cells #[.int .i64 (d : Int), .int .i64 (x + 1), .int .i64 (S + 1), .int .i64 o.kind, .string o.item, .int .i64 o.qty, .int .i64 o.level, .int .i64 o.undos] 50)) := gy6.alloc gy6.size _; have vy9 : (y6.alloc (.cells #[.int .i64 (d : Int), .int .i64 (x + 1), .int .i64 (S + 1), .int .i64 o.kind, .string o.item, .int .i64 o.qty, .int .i64 o.level, .int .i64 o.undos] 50)).heap[y6.heap.size]? = some (.cells #[.int .i64 (d : Int), .int .i64 (x + 1), .int .i64 (S + 1), .int .i64 o.kind, .string o.item, .int .i64 o.qty, .int .i64 o.level, .int .i64 o.undos] 50 (0, 0)) := World.alloc_heap_new _ _
    go_simp
    refine hK.out _ _ (xG _ gy9) (fun _ => ?_)
    clear hK K
    (try simp only [Act.put, u1, u2, u3])
    generalize (y6.alloc (.cells #[.int .i64 (d : Int), .int .i64 (x + 1), .int .i64 (S + 1), .int .i64 o.kind, .string o.item, .int .i64 o.qty, .int .i64 o.level, .int .i64 o.undos] 50)) = y9 at gy9 vy9 ⊢; obtain ⟨vb, oU⟩ : ∃ vb, vb = y6.heap.size := ⟨_, rfl⟩; have B3 : z0.heap.size ≤ vb := by rw [oU]; exact gy6.size
    rw [← oU] at vy9 ⊢; clear oU; refine wpAnyH_ready (rs := [1]) (by kernel_rfl) (by simp) ?_
    refine (AllReadyH.cons rfl (fun K hK => ?_) AllReadyH.nil)
    ·
     have zY : y9.cell? ⟨nb, 1, none⟩ = some (.slice oa l.length oc) := (gy9.cell (p := ⟨nb, 1, none⟩) (by show nb < _; omega)).trans (pair_cells aBt.out).2
     go_simp
     refine hK.out _ _ (xG y9 gy9) (fun _ => ?_)
     clear hK K zY
     (try simp only [Act.put, u1, u2, u3])
     exact lX (l' := #[true, true, true, true, true, true, true, true, true, false, false, false]) (by kernel_rfl) (hT vb y9 ⟨gy9, B3, vy9⟩)
  ·
   have xW : Below z0.heap.size z0 (z0.alloc (.cells #[.int .i64 (d : Int), .int .i64 (x + 1), .int .i64 (S + 1), .int .i64 o.kind, .string o.item, .int .i64 o.qty, .int .i64 o.level, .int .i64 o.undos] 50)) := yV.alloc yV.size _; have aCm : (z0.alloc (.cells #[.int .i64 (d : Int), .int .i64 (x + 1), .int .i64 (S + 1), .int .i64 o.kind, .string o.item, .int .i64 o.qty, .int .i64 o.level, .int .i64 o.undos] 50)).heap[z0.heap.size]? = some (.cells #[.int .i64 (d : Int), .int .i64 (x + 1), .int .i64 (S + 1), .int .i64 o.kind, .string o.item, .int .i64 o.qty, .int .i64 o.level, .int .i64 o.undos] 50 (0, 0)) := World.alloc_heap_new _ _
   go_simp
   refine hK.out _ _ (xG _ xW) (fun _ => ?_)
   clear hK K
   (try simp only [Act.put, u1, u2, u3])
   generalize (z0.alloc (.cells #[.int .i64 (d : Int), .int .i64 (x + 1), .int .i64 (S + 1), .int .i64 o.kind, .string o.item, .int .i64 o.qty, .int .i64 o.level, .int .i64 o.undos] 50)) = y11 at xW aCm ⊢; obtain ⟨vb, oU⟩ : ∃ vb, vb = z0.heap.size := ⟨_, rfl⟩; have B3 : z0.heap.size ≤ vb := by rw [oU]; exact yV.size
   rw [← oU] at aCm ⊢; clear oU; refine wpAnyH_ready (rs := [1, 6]) (by kernel_rfl) (by simp) ?_
   refine (AllReadyH.cons rfl (fun K hK => ?_) (AllReadyH.cons rfl (fun K hK => ?_) AllReadyH.nil))
   ·
    have zY : y11.cell? ⟨nb, 1, none⟩ = some (.slice oa l.length oc) := (xW.cell (p := ⟨nb, 1, none⟩) (by show nb < _; omega)).trans (pair_cells aBt.out).2
    go_simp
    refine hK.out _ _ (xG y11 xW) (fun _ => ?_)
    clear hK K zY
    (try simp only [Act.put, u1, u2, u3])
    refine wpAnyH_ready (rs := [6]) (by kernel_rfl) (by simp) ?_
    refine (AllReadyH.cons rfl (fun K hK => ?_) AllReadyH.nil)
    ·
     go_simp
     go_at_call 72
     refine (vT y11 B (some ⟨g, off, none⟩) ao cv no co d xs (aCP.out.below xW (by omega)) (by have := xW.size; omega) bU hd hvo (x + 1) (by omega) (by omega)).mono ?_
     rintro e y13 ⟨rfl, aGX⟩; rw [hpl]; have aNN : Below z0.heap.size z0 y13 := xW.trans (aGX.mono xW.size); have aPf := (aGX.block _ (aRq aCm).1).trans aCm; refine hK.out _ _ (xG y13 aNN) (fun _ => ?_)
     clear hK K aGX
     (try simp only [Act.put, u1, u2, u3])
     exact lX (l' := #[true, true, true, true, true, true, true, true, true, false, false, false]) (by kernel_rfl) (hT vb y13 ⟨aNN, B3, aPf⟩)
   ·
    go_simp
    go_at_call 72
    refine (vT y11 B (some ⟨g, off, none⟩) ao cv no co d xs (aCP.out.below xW (by omega)) (by have := xW.size; omega) bU hd hvo (x + 1) (by omega) (by omega)).mono ?_
    rintro e y14 ⟨rfl, aGW⟩; rw [hpl]; have aG1 : Below z0.heap.size z0 y14 := xW.trans (aGW.mono xW.size); have aPe := (aGW.block _ (aRq aCm).1).trans aCm; refine hK.out _ _ (xG y14 aG1) (fun _ => ?_)
    clear hK K aGW
    (try simp only [Act.put, u1, u2, u3])
    refine wpAnyH_ready (rs := [1]) (by kernel_rfl) (by simp) ?_
    refine (AllReadyH.cons rfl (fun K hK => ?_) AllReadyH.nil)
    ·
     have zY : y14.cell? ⟨nb, 1, none⟩ = some (.slice oa l.length oc) := (aG1.cell (p := ⟨nb, 1, none⟩) (by show nb < _; omega)).trans (pair_cells aBt.out).2
     go_simp
     refine hK.out _ _ (xG y14 aG1) (fun _ => ?_)
     clear hK K zY
     (try simp only [Act.put, u1, u2, u3])
     exact lX (l' := #[true, true, true, true, true, true, true, true, true, false, false, false]) (by kernel_rfl) (hT vb y14 ⟨aG1, B3, aPe⟩)
 case h2 =>
  intro vb z ⟨gz, B3, hvb⟩
  have HPz := aRp (aFn.out.next gz); have HGz := aRp ((gz.block _ (by omega)).trans aOz.out)
  have xO := aRp (sK (B := 0) aOa.out gz); have HNz := aRp ((gz.block _ (by omega)).trans aBt.out)
  have dA := gz.size; clear gz aFn aOz aOa aBt aCP aO; have hI := aOU z cQ oa l.length oc (putAt (d : Int) l) l xO.out (by omega) (by have := oQ.out; omega) aPG (⟨(d : Int), x + 1, S + 1, o.kind, o.item, o.qty, o.level, o.undos⟩ : aA) vb hvb (fun k y e => by have := xD.out k y e; omega)
  have hI := aRp hI; refine rk 9 rfl (fun K hK => ?_)
  go_simp
  go_at_call 155
  refine hI.out.mono ?_
  rintro e zi ⟨ra, rc, rfl, hro, hbi, qU⟩; have Q9 : ∀ j, j < z.heap.size → (j < cQ ∨ nb ≤ j) → zi.heap[j]? = z.heap[j]? := fun j h1 h2 => qU j h1 (fun y e => by have := xD.out j y e; omega)
  have HPi : Hid (jE w zi #[.slice (some ⟨g, off, none⟩) 4 cv, .slice ao no co] #[.int .i64 (d : Int), .int .i64 (x + 1), .int .i64 (S + 1), .int .i64 o.kind, .string o.item, .int .i64 o.qty, .int .i64 o.level, .int .i64 o.undos] #[.slice none 0 0, .slice none 0 0]) := HPz.out.far (hbi.mono (by omega))
  have HGi := aRp ((Q9 gv (by omega) (.inl (by omega))).trans HGz.out)
  have HNi := aRp ((Q9 nb (by omega) (.inr aRr)).trans HNz.out)
  have HRi := aRp hro; have hsi := hbi.size; clear hro hbi qU Q9 HPz HGz HNz xO hvb hI; obtain ⟨Ln, C1⟩ : ∃ Ln, Ln = (l.take (putAt (d : Int) l) ++ [(⟨(d : Int), x + 1, S + 1, o.kind, o.item, o.qty, o.level, o.undos⟩ : aA)] ++ l.drop (putAt (d : Int) l)) := ⟨_, rfl⟩; rw [← C1] at HRi ⊢; have HLN := aRp C1; clear C1; have hSi : zi.cell? ⟨w.heap.size, 0, none⟩ = some (.slice (some ⟨g, off, none⟩) 4 cv) ∧ zi.cell? ⟨w.heap.size, 1, none⟩ = some (.slice ao no co) ∧ zi.cell? ⟨w.heap.size + 1, 0, none⟩ = some (.int .i64 (d : Int)) ∧ zi.cell? ⟨w.heap.size + 1, 1, none⟩ = some (.int .i64 (x + 1)) ∧ zi.cell? ⟨w.heap.size + 1, 2, none⟩ = some (.int .i64 (S + 1)) ∧ zi.cell? ⟨w.heap.size + 1, 3, none⟩ = some (.int .i64 o.kind) ∧ zi.cell? ⟨w.heap.size + 1, 4, none⟩ = some (.string o.item) ∧ zi.cell? ⟨w.heap.size + 1, 5, none⟩ = some (.int .i64 o.qty) ∧ zi.cell? ⟨w.heap.size + 1, 6, none⟩ = some (.int .i64 o.level) ∧ zi.cell? ⟨w.heap.size + 1, 7, none⟩ = some (.int .i64 o.undos) := ⟨(pair_cells HPi.out.fst).1, (pair_cells HPi.out.fst).2, aH (show zi.heap[w.heap.size + 1]? = some (.cells #[.int .i64 (d : Int), .int .i64 (x + 1), .int .i64 (S + 1), .int .i64 o.kind, .string o.item, .int .i64 o.qty, .int .i64 o.level, .int .i64 o.undos] 50 (0, 0)) from HPi.out.snd)⟩; refine hK.out _ _ hSi (fun _ => ?_)
  clear hK K
  (try simp only [Act.put, u1, u2, u3])
  obtain ⟨xc0, zY⟩ := pair_cells HNi.out; obtain ⟨F4, F3⟩ := aC HNi.out; refine tj 10 ?_
  have bI := aLO HRi.out HNi.out (by decide)
  have hbj : Below nb zi (zi.setCell ⟨nb, 1, none⟩ (.slice ra Ln.length rc)) := gW _ _ _ _; have HPj : Hid (jE w (zi.setCell ⟨nb, 1, none⟩ (.slice ra Ln.length rc)) #[.slice (some ⟨g, off, none⟩) 4 cv, .slice ao no co] #[.int .i64 (d : Int), .int .i64 (x + 1), .int .i64 (S + 1), .int .i64 o.kind, .string o.item, .int .i64 o.qty, .int .i64 o.level, .int .i64 o.undos] #[.slice none 0 0, .slice none 0 0]) := HPi.out.far (hbj.mono (by omega))
  have HGj : Hid ((zi.setCell ⟨nb, 1, none⟩ (.slice ra Ln.length rc)).heap[gv]? = some (.cells aY 2 (0, 0))) := (hbj.block gv (by omega)).trans HGi.out
  have HNj : Hid ((zi.setCell ⟨nb, 1, none⟩ (.slice ra Ln.length rc)).heap[nb]? = some (.cells #[.slice (some ⟨gv, 0, none⟩) 4 vc, (.slice ra Ln.length rc)] 27 (0, 0))) := heap_setCell_same _ _ _ _ _ _ HNi.out; have HRj : Hid ((zi.setCell ⟨nb, 1, none⟩ (.slice ra Ln.length rc)).ownsRow cQ 50 8 (.slice ra Ln.length rc) Ln.length (aG Ln)) := wW HRi.out (fun k y e _ => heap_setCell_other _ _ _ _ (bI k y e))
  have hsj : (zi.setCell ⟨nb, 1, none⟩ (.slice ra Ln.length rc)).heap.size = zi.heap.size := by simp [World.setCell]
  have hSj : (zi.setCell ⟨nb, 1, none⟩ (.slice ra Ln.length rc)).cell? ⟨w.heap.size, 0, none⟩ = some (.slice (some ⟨g, off, none⟩) 4 cv) ∧ (zi.setCell ⟨nb, 1, none⟩ (.slice ra Ln.length rc)).cell? ⟨w.heap.size, 1, none⟩ = some (.slice ao no co) ∧ (zi.setCell ⟨nb, 1, none⟩ (.slice ra Ln.length rc)).cell? ⟨w.heap.size + 1, 0, none⟩ = some (.int .i64 (d : Int)) ∧ (zi.setCell ⟨nb, 1, none⟩ (.slice ra Ln.length rc)).cell? ⟨w.heap.size + 1, 1, none⟩ = some (.int .i64 (x + 1)) ∧ (zi.setCell ⟨nb, 1, none⟩ (.slice ra Ln.length rc)).cell? ⟨w.heap.size + 1, 2, none⟩ = some (.int .i64 (S + 1)) ∧ (zi.setCell ⟨nb, 1, none⟩ (.slice ra Ln.length rc)).cell? ⟨w.heap.size + 1, 3, none⟩ = some (.int .i64 o.kind) ∧ (zi.setCell ⟨nb, 1, none⟩ (.slice ra Ln.length rc)).cell? ⟨w.heap.size + 1, 4, none⟩ = some (.string o.item) ∧ (zi.setCell ⟨nb, 1, none⟩ (.slice ra Ln.length rc)).cell? ⟨w.heap.size + 1, 5, none⟩ = some (.int .i64 o.qty) ∧ (zi.setCell ⟨nb, 1, none⟩ (.slice ra Ln.length rc)).cell? ⟨w.heap.size + 1, 6, none⟩ = some (.int .i64 o.level) ∧ (zi.setCell ⟨nb, 1, none⟩ (.slice ra Ln.length rc)).cell? ⟨w.heap.size + 1, 7, none⟩ = some (.int .i64 o.undos) := ⟨(pair_cells HPj.out.fst).1, (pair_cells HPj.out.fst).2, aH (show (zi.setCell ⟨nb, 1, none⟩ (.slice ra Ln.length rc)).heap[w.heap.size + 1]? = some (.cells #[.int .i64 (d : Int), .int .i64 (x + 1), .int .i64 (S + 1), .int .i64 o.kind, .string o.item, .int .i64 o.qty, .int .i64 o.level, .int .i64 o.undos] 50 (0, 0)) from HPj.out.snd)⟩; refine rk 11 rfl (fun K hK => ?_)
  go_simp
  refine hK.out _ _ hSj (fun rM => ?_)
  clear hK K
  (try simp only [Act.put, u1, u2, u3])
  refine wpAnyH_done (by kernel_rfl) ?_ _
  clear hSi hSj xc0 zY F4 F3 bI hbj HPi HGi HNi HRi xG; generalize (zi.setCell ⟨nb, 1, none⟩ (.slice ra Ln.length rc)) = zj at HPj HGj HNj HRj hsj ⊢
  apply hKR
  clear hKR KR; obtain ⟨xc0, zY⟩ := pair_cells HNj.out; obtain ⟨o0, o1, o2, o3, o4, o5, o6, o7⟩ := aH (show zj.heap[w.heap.size + 1]? = some (.cells #[.int .i64 (d : Int), .int .i64 (x + 1), .int .i64 (S + 1), .int .i64 o.kind, .string o.item, .int .i64 o.qty, .int .i64 o.level, .int .i64 o.undos] 50 (0, 0)) from HPj.out.snd); obtain ⟨zz, hcz⟩ : ∃ zz, zj.cell? ⟨gv, d, none⟩ = some zz := ⟨_, (aRs HGj.out).trans (HCU.out d hd)⟩; have hfz : zj.frozen? ⟨gv, d, none⟩ = false := aRt HGj.out; have pU : Hid (Own (zj.setCell ⟨gv, d, none⟩ (.int .i64 (x + 1))) w7.heap.size cQ (some ⟨gv, 0, none⟩) 4 (xs.set d (x + 1))) := aLY (x + 1) B2 hd bZ eA HGj.out HCU.out; have N4 : Below gv zj (zj.setCell ⟨gv, d, none⟩ (.int .i64 (x + 1))) := gW _ _ _ _; have HPk : Hid (jE w (zj.setCell ⟨gv, d, none⟩ (.int .i64 (x + 1))) #[.slice (some ⟨g, off, none⟩) 4 cv, .slice ao no co] #[.int .i64 (d : Int), .int .i64 (x + 1), .int .i64 (S + 1), .int .i64 o.kind, .string o.item, .int .i64 o.qty, .int .i64 o.level, .int .i64 o.undos] #[.slice none 0 0, .slice none 0 0]) := HPj.out.far (N4.mono (by omega))
  have HNk : Hid ((zj.setCell ⟨gv, d, none⟩ (.int .i64 (x + 1))).heap[nb]? = some (.cells #[.slice (some ⟨gv, 0, none⟩) 4 vc, (.slice ra Ln.length rc)] 27 (0, 0))) := (heap_setCell_other _ _ _ _ (by show nb ≠ gv; omega)).trans HNj.out
  have HRk : Hid ((zj.setCell ⟨gv, d, none⟩ (.int .i64 (x + 1))).ownsRow cQ 50 8 (.slice ra Ln.length rc) Ln.length (aG Ln)) := wW HRj.out (fun k y e hk => heap_setCell_other _ _ _ _ (by show k ≠ gv; omega))
  have hsk : (zj.setCell ⟨gv, d, none⟩ (.int .i64 (x + 1))).heap.size = zj.heap.size := by simp [World.setCell]
  go_upto_region 8 with fail
  generalize zj.setCell ⟨gv, d, none⟩ (.int .i64 (x + 1)) = zk at pU HPk HNk HRk hsk ⊢; clear xc0 zY o0 o1 o2 o3 o4 o5 o6 o7 hcz hfz N4 HPj HGj HNj HRj; obtain ⟨xc0, zY⟩ := pair_cells HNk.out; obtain ⟨r0, r1⟩ := pair_cells HPk.out.res; obtain ⟨fH, fG⟩ := aC HPk.out.res; have G8 := HPk.out.set2 (.slice (some ⟨gv, 0, none⟩) 4 vc) (.slice ra Ln.length rc); have HX := aRp G8.1; have bS : Hid (Below w.heap.size w ((zk.setCell ⟨w.heap.size + 1 + 1, 0, none⟩ (.slice (some ⟨gv, 0, none⟩) 4 vc)).setCell ⟨w.heap.size + 1 + 1, 1, none⟩ (.slice ra Ln.length rc))) := HPk.out.bel.trans (G8.2.mono (by omega))
  have xQ : Hid (Own ((zk.setCell ⟨w.heap.size + 1 + 1, 0, none⟩ (.slice (some ⟨gv, 0, none⟩) 4 vc)).setCell ⟨w.heap.size + 1 + 1, 1, none⟩ (.slice ra Ln.length rc)) w7.heap.size cQ (some ⟨gv, 0, none⟩) 4 (xs.set d (x + 1))) := pU.out.kept (fun j h1 h2 => aE _ _ (by omega))
  have HRf := aRp (fP (wW (W' := ((zk.setCell ⟨w.heap.size + 1 + 1, 0, none⟩ (.slice (some ⟨gv, 0, none⟩) 4 vc)).setCell ⟨w.heap.size + 1 + 1, 1, none⟩ (.slice ra Ln.length rc))) HRk.out (fun k y e hk => aE _ _ (by omega))) aRr)
  have HCf := aRp (fY HRk.out); have tS : ((zk.setCell ⟨w.heap.size + 1 + 1, 0, none⟩ (.slice (some ⟨gv, 0, none⟩) 4 vc)).setCell ⟨w.heap.size + 1 + 1, 1, none⟩ (.slice ra Ln.length rc)).heap.size = zk.heap.size := bB _ _ _ _; clear G8; go_wp2
  change bodyPost _ _ _ _ _ ((zk.setCell ⟨w.heap.size + 1 + 1, 0, none⟩ (.slice (some ⟨gv, 0, none⟩) 4 vc)).setCell ⟨w.heap.size + 1 + 1, 1, none⟩ (.slice ra Ln.length rc))
  clear xc0 zY r0 r1 fH fG pU HPk HNk HRk; generalize ((zk.setCell ⟨w.heap.size + 1 + 1, 0, none⟩ (.slice (some ⟨gv, 0, none⟩) 4 vc)).setCell ⟨w.heap.size + 1 + 1, 1, none⟩ (.slice ra Ln.length rc)) = wf at HX bS xQ HRf tS ⊢; obtain ⟨q0, q1⟩ := pair_cells HX.out; have hvl : (dH xs d).length = 4 := by rw [E8.out, List.length_set]; exact B2
  have aPF : bH l d (⟨(d : Int), x + 1, S + 1, o.kind, o.item, o.qty, o.level, o.undos⟩ : aA) = Ln := by rw [HLN.out]; rfl
  refine bodyPost_ret (v := .tuple #[.agg #[.slice (some ⟨gv, 0, none⟩) 4 vc, (.slice ra Ln.length rc)], .nilIface]) (by simp [results, Tryz.results135, go_sem, q0, q1]) rfl ?_
  rw [Y3.out, aPF]; refine .inr ⟨rfl, some ⟨gv, 0, none⟩, vc, ra, rc, cQ, ?_, ?_, HRf.out, by omega, by omega, ?_, HCf.out, bS.out⟩
  ·show _ = Ending.returned (.tuple #[.agg #[.slice (some ⟨gv, 0, none⟩) (dH xs d).length vc, _], _])
   rw [hvl]
  ·show Own wf w.heap.size cQ _ (dH xs d).length (dH xs d)
   rw [hvl, E8.out]; exact xQ.out.more (by omega) aRr
  ·show bY _ (dH xs d).length vc
   rw [hvl]; exact HCA.out
theorem aIu (w : World) (B : Nat) (E : Int → Addr) (hE : eG w B E) (g off : Nat) (ao : Option Addr) (cv no co d : Nat) (xs : List Int) (l : List aA) (o : aA) (hx : Ints w B (some ⟨g, off, none⟩) 4 xs) (h : bR w B ao no l) (hB : B ≤ w.heap.size) (bU : 4 ≤ cv) (cC : bY ao no co) (hc : aD xs l = true) (hd : d < 4) (hi : o.item.size ≤ 1048576) :
  Calls Tryz.prog 135 #[.agg #[.slice (some ⟨g, off, none⟩) 4 cv, .slice ao no co], .int .i64 (d : Int), .agg #[.int .i64 o.dev, .int .i64 o.seq, .int .i64 o.stamp, .int .i64 o.kind, .string o.item, .int .i64 o.qty, .int .i64 o.level, .int .i64 o.undos]] w (nM E (if (aK xs l d o).ok = true then (0, dH xs d, bH l d (aK xs l d o)) else (4, [], [])) w) := by
 cases hok : (aK xs l d o).ok
 ·rw [if_neg (by decide)]
  exact aGP w B E hE g off ao cv no co d xs l o hx h hB bU cC hc hd hi hok
 ·rw [if_pos rfl]
  exact aFS w B E hE g off ao cv no co d xs l o hx h hB bU cC hc hd hi hok
structure sE (w w1 : World) (x : Array Value) (tx : TypeId) (y : Array Value) (ty : TypeId) (z : Array Value) (tz : TypeId) : Prop where
 fst : w1.heap[w.heap.size]? = some (.cells x tx (0, 0))
 snd : w1.heap[w.heap.size + 1]? = some (.cells y ty (0, 0))
 res : w1.heap[w.heap.size + 1 + 1]? = some (.cells z tz (0, 0))
 bel : Below w.heap.size w w1
theorem sE.mk0 (w : World) (x y z : Array Value) (tx ty tz : TypeId) : sE w (((w.alloc (.cells x tx)).alloc (.cells y ty)).alloc (.cells z tz)) x tx y ty z tz := by
 have e1 : (w.alloc (.cells x tx)).heap.size = w.heap.size + 1 := by simp
 have e2 : ((w.alloc (.cells x tx)).alloc (.cells y ty)).heap.size = w.heap.size + 1 + 1 := by simp
 refine ⟨?_, ?_, ?_, (((Below.refl _ w).alloc aRr _).alloc (by simp) _).alloc (by simp; omega) _⟩
 ·exact ((Below.heap_alloc _ _ _ (by omega)).trans (Below.heap_alloc _ _ _ (by omega))).trans (heap_alloc_new _ _)
 ·rw [← e1]; exact (Below.heap_alloc _ _ _ (by omega)).trans (heap_alloc_new _ _)
 ·rw [← e2]; exact heap_alloc_new _ _
section
variable {w w1 w2 : World} {x y z : Array Value} {tx ty tz : TypeId}
theorem sE.next (h : sE w w1 x tx y ty z tz) (hb : Below w1.heap.size w1 w2) : sE w w2 x tx y ty z tz :=
 ⟨(hb.block _ (aRq h.fst).1).trans h.fst, (hb.block _ (aRq h.snd).1).trans h.snd, (hb.block _ (aRq h.res).1).trans h.res, h.bel.trans (hb.mono h.bel.size)⟩
theorem sE.lt (h : sE w w1 x tx y ty z tz) : w.heap.size + 1 + 1 < w1.heap.size := (aRq h.res).1
theorem sE.set2 {z0 z1 : Value} (h : sE w w1 x tx y ty #[z0, z1] tz) (u v : Value) :
  ((w1.setCell ⟨w.heap.size + 1 + 1, 0, none⟩ u).setCell ⟨w.heap.size + 1 + 1, 1, none⟩ v).heap[w.heap.size + 1 + 1]? = some (.cells #[u, v] tz (0, 0)) ∧ Below (w.heap.size + 1 + 1) w1 ((w1.setCell ⟨w.heap.size + 1 + 1, 0, none⟩ u).setCell ⟨w.heap.size + 1 + 1, 1, none⟩ v) :=
 ⟨cH _ _ h.res, dW _ _ _ _ _ _⟩
end
theorem kR {w : World} {b : Nat} {v0 v1 v2 v3 v4 : Value} {T : TypeId} {fr : Nat × Nat} (h : w.heap[b]? = some (.cells #[v0, v1, v2, v3, v4] T fr)) : w.cell? ⟨b, 0, none⟩ = some v0 ∧ w.cell? ⟨b, 1, none⟩ = some v1 ∧ w.cell? ⟨b, 2, none⟩ = some v2 ∧ w.cell? ⟨b, 3, none⟩ = some v3 ∧ w.cell? ⟨b, 4, none⟩ = some v4 :=
 ⟨aRs h, aRs h, aRs h, aRs h, aRs h⟩
theorem nM.form {E : Int → Addr} {r : Int × List Int × List aA} {w w' : World} {e : Ending} (h : nM E r w e w') : ∃ a n c a' n' c' er, e = .returned (.tuple #[.agg #[.slice a n c, .slice a' n' c'], er]) := by
 rcases h with ⟨_, e1, _⟩ | ⟨_, va, vc, oa, oc, cQ, e1, _⟩
 ·exact ⟨_, _, _, _, _, _, _, e1⟩
 ·exact ⟨_, _, _, _, _, _, _, e1⟩
theorem nM.bel {E : Int → Addr} {r : Int × List Int × List aA} {w w' : World} {e : Ending} (h : nM E r w e w') : Below w.heap.size w w' := by
 rcases h with ⟨_, _, h⟩ | ⟨_, va, vc, oa, oc, cQ, _, _, _, _, _, _, _, h⟩
 ·exact h
 ·exact h
theorem nM.up {E : Int → Addr} {r : Int × List Int × List aA} {w w2 w3 wf : World} {e : Ending} (h : nM E r w2 e w3) (hs : w.heap.size ≤ w2.heap.size) (hk : ∀ j, w2.heap.size ≤ j → wf.heap[j]? = w3.heap[j]?) (hz : wf.heap.size = w3.heap.size) (hb : Below w.heap.size w wf) : nM E r w e wf := by
 rcases h with ⟨h1, h2, _⟩ | ⟨h0, va, vc, oa, oc, cQ, h1, h2, h3, h4, h5, h6, h7, _⟩
 ·exact .inl ⟨h1, h2, hb⟩
 ·exact .inr ⟨h0, va, vc, oa, oc, cQ, h1, (h2.kept (fun j a b => hk j a)).more hs aRr, by rw [hz]; exact h3.kept (fun j a b => hk j (by omega)), by omega, by omega, h6, h7, hb⟩
theorem nM.eqr {E : Int → Addr} {r r' : Int × List Int × List aA} {w w' : World} {e : Ending} (h : nM E r w e w') (e1 : r = r') : nM E r' w e w' := e1 ▸ h
theorem aH5 {xs : List Int} {l : List aA} (h : aD xs l = true) (item : ByteArray) (kind qty : Int) : oneOf (cE item (counted xs l)).level (decide ((cE item (counted xs l)).placed.kind = 4)) kind item qty = oneOf (aL item l l.length) (bW l item) kind item qty := by
 have e : cE item (counted xs l) = ⟨aL item l l.length, bA xX item l l.length, bA gN item l l.length⟩ := by
  unfold counted; rw [if_pos h, A0 h item _ aRr]
 rw [e]
 rfl
set_option maxHeartbeats 40000000 in
theorem zZ (w : World) (B : Nat) (E : Int → Addr) (hE : eG w B E) (g off : Nat) (ao : Option Addr) (cv no co d : Nat) (xs : List Int) (l : List aA) (kind qty dv sq : Int) (item : ByteArray) (hx : Ints w B (some ⟨g, off, none⟩) 4 xs) (h : bR w B ao no l) (hB : B ≤ w.heap.size) (bU : 4 ≤ cv) (cC : bY ao no co) (hc : aD xs l = true) (hd : d < 4) (hi : item.size ≤ 1048576) :
  Calls Tryz.prog 109 #[.agg #[.slice (some ⟨g, off, none⟩) 4 cv, .slice ao no co], .int .i64 (d : Int), .agg #[.int .i64 kind, .string item, .int .i64 qty, .int .i64 dv, .int .i64 sq]] w (nM E (dM xs l d kind item qty) w) := by
 have iR : no ≤ 160 := by rw [← h.1]; exact eF hc
 have hlv := zO hc item l.length aRr
 have aPP : 0 ≤ aL item l l.length := sO item l l.length
 have hsl : (cE item (counted xs l)).level = aL item l l.length := by
  unfold counted; rw [if_pos hc, A0 hc item _ aRr]
 have hT := sE.mk0 w #[.slice (some ⟨g, off, none⟩) 4 cv, .slice ao no co] #[.int .i64 kind, .string item, .int .i64 qty, .int .i64 dv, .int .i64 sq] #[.slice none 0 0, .slice none 0 0] 27 29 27
 have HV := aRp (hx.below hT.bel hB)
 have HO := aRp (h.below hT.bel hB)
 have HE := aRp (hE.below hT.bel hB)
 have HT := aRp hT
 have iA := aRp cC
 have HC := aRp hc
 have HR := aH5 hc item kind qty
 have HON : dM xs l d kind item qty = (if (oneOf (aL item l l.length) (bW l item) kind item qty).2 = 0 then (if (aK xs l d (oneOf (aL item l l.length) (bW l item) kind item qty).1).ok = true then (0, dH xs d, bH l d (aK xs l d (oneOf (aL item l l.length) (bW l item) kind item qty).1)) else (4, [], [])) else ((oneOf (aL item l l.length) (bW l item) kind item qty).2, [], [])) := rfl
 have hoi := aBJ (aL item l l.length) (bW l item) kind item qty
 generalize oneOf (aL item l l.length) (bW l item) kind item qty = r at HR HON hoi
 rw [HON]
 obtain ⟨R, hR⟩ : ∃ R : Int × List Int × List aA, R = (if r.2 = 0 then (if (aK xs l d r.1).ok = true then (0, dH xs d, bH l d (aK xs l d r.1)) else (4, [], [])) else (r.2, [], [])) := ⟨_, rfl⟩
 rw [← hR]
 have vP := aRp hR
 have hri : r.1.item.size ≤ 1048576 := by
  rcases hoi with e | e
  ·rw [e]; exact hi
  ·rw [e]; decide
 have HR := aRp HR
 have HSL := aRp hsl
 clear hx h hT cC hE hc HON hoi hsl hR
 go_enter Tryz.func109, Tryz.ntmps109
 go_upto_region 1 with fail
 generalize ((w.alloc (.cells #[.slice (some ⟨g, off, none⟩) 4 cv, .slice ao no co] 27)).alloc (.cells #[.int .i64 kind, .string item, .int .i64 qty, .int .i64 dv, .int .i64 sq] 29)).alloc (.cells #[.slice none 0 0, .slice none 0 0] 27) = w0 at HV HO HE HT ⊢
 obtain ⟨c0, c1⟩ := pair_cells HT.out.fst
 obtain ⟨d0, d1, d2, d3, d4⟩ := kR HT.out.snd
 have lC := HT.out.lt
 go_wp2_with fail
 refine (aM3 w0 B E HE.out (some ⟨g, off, none⟩) ao 4 cv no co xs l kind qty dv sq item HV.out HO.out (by omega) (by omega) iA.out.1 ⟨by omega, iA.out.2.1⟩ hi _ rfl (by rw [HSL.out]; exact aPP) (by rw [HSL.out]; omega)).mono ?_
 rintro e w1 ⟨rfl, hb⟩
 rw [HR.out]
 have aR := aRp (HT.out.next hb)
 have iV := aRp (HV.out.below hb (by omega))
 have cV := aRp (HO.out.below hb (by omega))
 have eQ := aRp (HE.out.below hb (by omega))
 have eL := hb.size
 clear hb c0 c1 d0 d1 d2 d3 d4 HT HV HO HE HR HSL
 obtain ⟨o, code⟩ := r
 dsimp only at hri ⊢
 obtain ⟨c0, c1⟩ := pair_cells aR.out.fst
 by_cases vH : code = 0
 ·subst vH
  rw [N9]
  go_upto_region 2 with fail
  have aV := ((Below.refl w1.heap.size w1).alloc aRr (.cells #[.int .i64 o.dev, .int .i64 o.seq, .int .i64 o.stamp, .int .i64 o.kind, .string o.item, .int .i64 o.qty, .int .i64 o.level, .int .i64 o.undos] 50)); have aN := aRp (aR.out.next aV); have jZ := aRp (iV.out.below aV (by omega))
  have fJ := aRp (cV.out.below aV (by omega))
  have dV := aRp (eQ.out.below aV (by omega))
  have nK := aRp (heap_alloc_new w1 (.cells #[.int .i64 o.dev, .int .i64 o.seq, .int .i64 o.stamp, .int .i64 o.kind, .string o.item, .int .i64 o.qty, .int .i64 o.level, .int .i64 o.undos] 50)); have eB := aV.size; clear aV c0 c1 aR iV cV eQ; generalize w1.alloc (.cells #[.int .i64 o.dev, .int .i64 o.seq, .int .i64 o.stamp, .int .i64 o.kind, .string o.item, .int .i64 o.qty, .int .i64 o.level, .int .i64 o.undos] 50) = w2 at aN jZ fJ dV nK eB ⊢; generalize w1.heap.size = ob at eL eB nK ⊢; obtain ⟨c0, c1⟩ := pair_cells aN.out.fst; obtain ⟨o0, o1, o2, o3, o4, o5, o6, o7⟩ := aH nK.out
  go_wp2_with fail
  refine (aIu w2 B E dV.out g off ao cv no co d xs l o jZ.out fJ.out (by omega) bU iA.out  HC.out hd hri).mono ?_
  intro e w3 gZ
  obtain ⟨a, n, c, a', n', c', er, rfl⟩ := gZ.form; have J9 := aRp gZ; have aS := gZ.bel; have bF := aRp (aN.out.next aS); have iD := aS.size; clear gZ aS c0 c1 o0 o1 o2 o3 o4 o5 o6 o7 jZ fJ dV nK aN; obtain ⟨r0, r1⟩ := pair_cells bF.out.res; obtain ⟨fH, fG⟩ := aC bF.out.res; have HX := aRp (bF.out.set2 (.slice a n c) (.slice a' n' c')).1; have bS := aRp (bF.out.bel.trans ((bF.out.set2 (.slice a n c) (.slice a' n' c')).2.mono (by omega)))
  have qI := bB w3 (w.heap.size + 1 + 1) (.slice a n c) (.slice a' n' c'); have xS : Hid (∀ j, w2.heap.size ≤ j → ((w3.setCell ⟨w.heap.size + 1 + 1, 0, none⟩ (.slice a n c)).setCell ⟨w.heap.size + 1 + 1, 1, none⟩ (.slice a' n' c')).heap[j]? = w3.heap[j]?) := fun j hj => aE _ _ (by omega)
  go_wp2
  change bodyPost _ _ _ _ _ ((w3.setCell ⟨w.heap.size + 1 + 1, 0, none⟩ (.slice a n c)).setCell ⟨w.heap.size + 1 + 1, 1, none⟩ (.slice a' n' c'))
  clear r0 r1 fH fG; generalize (w3.setCell ⟨w.heap.size + 1 + 1, 0, none⟩ (.slice a n c)).setCell ⟨w.heap.size + 1 + 1, 1, none⟩ (.slice a' n' c') = wf at HX bS xS qI ⊢; obtain ⟨q0, q1⟩ := pair_cells HX.out; exact bodyPost_ret (v := .tuple #[.agg #[.slice a n c, .slice a' n' c'], er]) (by simp [results, Tryz.results109, go_sem, q0, q1]) rfl ((J9.out.up (by omega) xS.out qI bS.out).eqr (by rw [vP.out]; exact (if_pos trivial).symm))
 ·obtain ⟨er, her⟩ : ∃ er, er = kQ E code := ⟨_, rfl⟩
  rw [← her]; have HER : Hid (er = kQ E code) := her; have R0 : er = .iface 226 (.pointer (some (E code))) := by rw [her]; unfold kQ; rw [if_neg vH]
  clear her
  go_upto_region 2 with fail
  have aV := ((Below.refl w1.heap.size w1).alloc aRr (.cells #[.int .i64 o.dev, .int .i64 o.seq, .int .i64 o.stamp, .int .i64 o.kind, .string o.item, .int .i64 o.qty, .int .i64 o.level, .int .i64 o.undos] 50)); have aN := aRp (aR.out.next aV); clear aV c0 c1 aR iV cV eQ; generalize w1.alloc (.cells #[.int .i64 o.dev, .int .i64 o.seq, .int .i64 o.stamp, .int .i64 o.kind, .string o.item, .int .i64 o.qty, .int .i64 o.level, .int .i64 o.undos] 50) = w2 at aN ⊢; generalize w1.heap.size = ob at eL ⊢; obtain ⟨r0, r1⟩ := pair_cells aN.out.res; obtain ⟨fH, fG⟩ := aC aN.out.res; have HX := aRp (aN.out.set2 (.slice none 0 0) (.slice none 0 0)).1; have bS := aRp (aN.out.bel.trans ((aN.out.set2 (.slice none 0 0) (.slice none 0 0)).2.mono (by omega)))
  subst R0; go_wp2
  change bodyPost _ _ _ _ _ ((w2.setCell ⟨w.heap.size + 1 + 1, 0, none⟩ (.slice none 0 0)).setCell ⟨w.heap.size + 1 + 1, 1, none⟩ (.slice none 0 0))
  clear r0 r1 fH fG; generalize (w2.setCell ⟨w.heap.size + 1 + 1, 0, none⟩ (.slice none 0 0)).setCell ⟨w.heap.size + 1 + 1, 1, none⟩ (.slice none 0 0) = wf at HX bS ⊢; obtain ⟨q0, q1⟩ := pair_cells HX.out; exact bodyPost_ret (v := .tuple #[.agg #[.slice none 0 0, .slice none 0 0], .iface 226 (.pointer (some (E code)))]) (by simp [results, Tryz.results109, go_sem, q0, q1]) rfl ((show nM E (code, [], []) w _ wf from .inl ⟨vH, by rw [← HER.out], bS.out⟩).eqr (by rw [vP.out]; exact (if_neg vH).symm))
set_option linter.unusedVariables false
set_option linter.unusedSimpArgs false
theorem mQ {w w1 : World} {x : Array Value} {z0 z1 : Value} {T : TypeId} (h : sW w w1 x #[z0, z1] T) (u v : Value) :
  ((w1.setCell ⟨w.heap.size + 1, 0, none⟩ u).setCell ⟨w.heap.size + 1, 1, none⟩ v).heap[w.heap.size + 1]? = some (.cells #[u, v] T (0, 0)) ∧ Below (w.heap.size + 1) w1 ((w1.setCell ⟨w.heap.size + 1, 0, none⟩ u).setCell ⟨w.heap.size + 1, 1, none⟩ v) :=
 ⟨cH _ _ h.snd, dW _ _ _ _ _ _⟩
theorem aDX {w w1 : World} {x y : Array Value} {T : TypeId} (h : sW w w1 x y T) : w.heap.size + 1 < w1.heap.size := (aRq h.snd).1
theorem aAM : ∀ (l : List aA) (i : Nat), i < l.length → (aG l).set (i * 8 + 7) (.int .i64 ((l.getD i aA.zero).undos + 1)) = aG (l.set i (iL (l.getD i aA.zero)))
 | [], i, h => by simp at h
 | x :: l, 0, _ => rfl
 | x :: l, i + 1, h => by
  have ih := aAM l i (by simpa using h)
  show (bX x ++ aG l).set ((i + 1) * 8 + 7) (.int .i64 ((l.getD i aA.zero).undos + 1)) = bX x ++ aG (l.set i (iL (l.getD i aA.zero)))
  rw [← ih, show (i + 1) * 8 + 7 = (i * 8 + 7) + 8 by omega]
  rfl
theorem aHZ {W : World} {base n m c : Nat} {a : Option Addr} {xs : List Value} (h : W.ownsRow base 50 8 (.slice a m c) n xs) (hn : 0 < n) : ∃ k, a = some ⟨k, 0, none⟩ ∧ base ≤ k ∧ k < W.heap.size := by
 rcases h.2 with ⟨_, e⟩ | ⟨g, cap, aY, e, hg, hc, _⟩
 ·omega
 ·injection e with e1 _ _
  exact ⟨g, e1, hg, (aRq hc).1⟩
set_option maxHeartbeats 40000000 in
theorem tF (w : World) (B : Nat) (E : Int → Addr) (hE : eG w B E) (g off : Nat) (ao : Option Addr) (cv no co d : Nat) (xs : List Int) (l : List aA) (s : Int) (hx : Ints w B (some ⟨g, off, none⟩) 4 xs) (h : bR w B ao no l) (hB : B ≤ w.heap.size) (bU : 4 ≤ cv) (cC : bY ao no co) (hc : aD xs l = true) (hd : d < 4) :
  Calls Tryz.prog 108 #[.agg #[.slice (some ⟨g, off, none⟩) 4 cv, .slice ao no co], .int .i64 (d : Int), .int .i64 s] w (nM E (gE xs l (d : Int) s) w) := by
 obtain ⟨B2, hxa⟩ := eP hc
 obtain ⟨vC, hx1⟩ := hxa d hd
 clear B2
 have iR : no ≤ 160 := by rw [← h.1]; exact eF hc
 have HM : Hid (∀ i, i < no → (l.getD i aA.zero).item.size ≤ 1048576) := fun i hi' => by
  have h2 := (dI (fI hc (i := i) (by rw [h.1]; exact hi'))).2.2.2.2.1
  have e : aB l i = l.getD i aA.zero := rfl; rw [← e]; omega
 have HU : Hid (∀ i, i < no → 0 ≤ (l.getD i aA.zero).undos ∧ (l.getD i aA.zero).undos ≤ 50) := fun i hi' => by
  have h2 := dI (fI hc (i := i) (by rw [h.1]; exact hi'))
  have e : aB l i = l.getD i aA.zero := rfl; rw [← e]; exact ⟨h2.2.2.2.2.2.1, h2.2.2.2.2.2.2.1⟩
 have hT := sW.mk0 w #[.slice (some ⟨g, off, none⟩) 4 cv, .slice ao no co] #[.slice none 0 0, .slice none 0 0] 27
 have HV := aRp (hx.below hT.bel hB)
 have HO := aRp (h.below hT.bel hB)
 have HE := aRp (hE.below hT.bel hB)
 have HT := aRp hT
 have oQ := aRp h.1
 have iA := aRp cC
 have HC := aRp hc
 have hvo : cL xs = true := (qS hc).1
 have X5 := hE.low
 have HNO : Hid (¬ (1 ≤ s ∧ s ≤ xs.getD d 0) → gE xs l (d : Int) s = (2, [], [])) := fun hn => by
  unfold gE; rw [if_neg (aJg hc hd hn)]
 have HYE : Hid (1 ≤ s → s ≤ xs.getD d 0 → aP xs d + (s.toNat - 1) < l.length ∧ gE xs l (d : Int) s = (if (aB l (aP xs d + (s.toNat - 1))).undos = 50 then (4, [], []) else (0, xs, dX l (aP xs d + (s.toNat - 1))))) := fun h1 h2 => by
  obtain ⟨q1, q2⟩ := aH2 hc hd h1 h2; refine ⟨q1, ?_⟩
  unfold gE; rw [q2, if_pos q1]
 clear hx h hT cC hE hc hxa
 go_enter Tryz.func108, Tryz.ntmps108
 go_upto_region 1 with fail
 generalize (w.alloc (.cells #[.slice (some ⟨g, off, none⟩) 4 cv, .slice ao no co] 27)).alloc (.cells #[.slice none 0 0, .slice none 0 0] 27) = w0 at HV HO HE HT ⊢
 obtain ⟨b, iI, he, hb, N3⟩ := HV.out.2 d hd
 injection he with he
 injection he with he1 tX
 subst he1 tX
 obtain ⟨x, qH⟩ : ∃ x, x = xs.getD d 0 := ⟨_, rfl⟩
 rw [← qH] at HNO HYE N3 vC hx1
 clear qH
 have hdi : (d : Int) < 4 := by omega
 have lC := aDX HT.out
 obtain ⟨c0, c1⟩ := pair_cells HT.out.fst
 go_wp2_with fail
 refine (cJ s 1 x w0).mono ?_
 rintro e w1 ⟨rfl, rfl⟩
 clear N3
 by_cases hin : 1 ≤ s ∧ s ≤ x
 rotate_left
 ·have qW : cS s 1 x = false := j7 (by omega)
  rw [qW]; have O6 := aRp (HNO.out hin); have g2 := aK6 HE.out
  go_wp2_with fail
  refine wp_region_held_drew (S := fun w' => w'.cell? ⟨2, 0, none⟩ = some (.iface 226 (.pointer (some (E 2))))) (by kernel_rfl) g2 (fun aO => ?_)
  have dE : Hid (Below w0.heap.size w0 w0.drew) := ⟨rfl, rfl, rfl, Nat.le_refl _, fun _ _ => rfl⟩
  generalize w0.drew = z0 at dE aO ⊢; have cU := aRp (HT.out.next dE.out); obtain ⟨r0, r1⟩ := pair_cells cU.out.snd; obtain ⟨fH, fG⟩ := aC cU.out.snd; refine tj 0 ?_
  refine tj 1 ?_
  refine rk 2 rfl (fun K hK => ?_)
  go_simp
  refine hK.out _ _ ((World.cell?_of_block (a := ⟨2, 0, none⟩) (aE (w := z0) (b := w.heap.size + 1) (k := 2) (.slice none 0 0) (.slice none 0 0) (by omega))).trans aO) (fun bQ => ?_)
  clear hK K
  (try simp only [Act.put, u1, u2, u3])
  refine tj 3 ?_
  refine wpAnyH_done (by kernel_rfl) ?_ _
  have HX := aRp (mQ cU.out (.slice none 0 0) (.slice none 0 0)).1; have bS := aRp (cU.out.bel.trans ((mQ cU.out (.slice none 0 0) (.slice none 0 0)).2.mono (by omega)))
  go_wp2
  change bodyPost _ _ _ _ _ ((z0.setCell ⟨w.heap.size + 1, 0, none⟩ (.slice none 0 0)).setCell ⟨w.heap.size + 1, 1, none⟩ (.slice none 0 0))
  clear r0 r1 fH fG aO bQ; generalize ((z0.setCell ⟨w.heap.size + 1, 0, none⟩ (.slice none 0 0)).setCell ⟨w.heap.size + 1, 1, none⟩ (.slice none 0 0)) = wf at HX bS ⊢; obtain ⟨q0, q1⟩ := pair_cells HX.out; exact bodyPost_ret (v := .tuple #[.agg #[.slice none 0 0, .slice none 0 0], (.iface 226 (.pointer (some (E 2))))]) (by simp [results, Tryz.results108, go_sem, q0, q1]) rfl ((show nM E (2, [], []) w _ wf from .inl ⟨by decide, by rw [N7], bS.out⟩).eqr O6.out.symm)
 have qW : cS s 1 x = true := zX hin.1 hin.2
 obtain ⟨hpl, xC⟩ := HYE.out hin.1 hin.2
 rw [qW]
 have HT0 := aRp xC
 clear xC qW
 go_wp2_with fail
 refine (vT w0 B (some ⟨g, off, none⟩) ao cv no co d xs HV.out (by omega) bU hd hvo s (by omega) (by omega)).mono ?_
 rintro e w1 ⟨rfl, aF⟩
 generalize aP xs d + (s.toNat - 1) = q at hpl HT0 ⊢
 have aR := aRp (HT.out.next aF)
 have iV := aRp (HV.out.below aF (by omega))
 have cV := aRp (HO.out.below aF (by omega))
 have eQ := aRp (HE.out.below aF (by omega))
 have eL := aF.size
 clear aF c0 c1 HT HV HO HE HNO HYE
 obtain ⟨c0, c1⟩ := pair_cells aR.out.fst
 have hqn : q < no := by have := oQ.out; omega
 have hqi : (q : Int) < (no : Int) := by omega
 obtain ⟨bo, oo, rfl, hbo, xD⟩ := cV.out.2 q hqn
 obtain ⟨_, _, _, _, _, _, _, u7⟩ := xD
 obtain ⟨W8, hu1⟩ := HU.out q hqn
 obtain ⟨u, B4⟩ : ∃ u, u = (l.getD q aA.zero).undos := ⟨_, rfl⟩
 rw [← B4] at u7 W8 hu1
 have HUE := aRp B4
 clear B4
 by_cases h50 : u = 50
 ·subst h50
  have O6 : Hid (gE xs l (d : Int) s = (4, [], [])) := by
   show _ = _
   rw [HT0.out]; exact if_pos HUE.out.symm
  have g4 := aK5 eQ.out
  go_wp2_with fail
  refine wp_region_held_drew (S := fun w' => w'.cell? ⟨4, 0, none⟩ = some (.iface 226 (.pointer (some (E 4))))) (by kernel_rfl) g4 (fun aO => ?_)
  have dE : Hid (Below w1.heap.size w1 w1.drew) := ⟨rfl, rfl, rfl, Nat.le_refl _, fun _ _ => rfl⟩
  generalize w1.drew = z0 at dE aO ⊢; have cU := aRp (aR.out.next dE.out); obtain ⟨r0, r1⟩ := pair_cells cU.out.snd; obtain ⟨fH, fG⟩ := aC cU.out.snd; refine tj 0 ?_
  refine tj 1 ?_
  refine rk 2 rfl (fun K hK => ?_)
  go_simp
  refine hK.out _ _ ((World.cell?_of_block (a := ⟨4, 0, none⟩) (aE (w := z0) (b := w.heap.size + 1) (k := 4) (.slice none 0 0) (.slice none 0 0) (by omega))).trans aO) (fun bQ => ?_)
  clear hK K
  (try simp only [Act.put, u1, u2, u3])
  refine tj 3 ?_
  refine wpAnyH_done (by kernel_rfl) ?_ _
  have HX := aRp (mQ cU.out (.slice none 0 0) (.slice none 0 0)).1; have bS := aRp (cU.out.bel.trans ((mQ cU.out (.slice none 0 0) (.slice none 0 0)).2.mono (by omega)))
  go_wp2
  change bodyPost _ _ _ _ _ ((z0.setCell ⟨w.heap.size + 1, 0, none⟩ (.slice none 0 0)).setCell ⟨w.heap.size + 1, 1, none⟩ (.slice none 0 0))
  clear r0 r1 fH fG aO bQ; generalize ((z0.setCell ⟨w.heap.size + 1, 0, none⟩ (.slice none 0 0)).setCell ⟨w.heap.size + 1, 1, none⟩ (.slice none 0 0)) = wf at HX bS ⊢; obtain ⟨q0, q1⟩ := pair_cells HX.out; exact bodyPost_ret (v := .tuple #[.agg #[.slice none 0 0, .slice none 0 0], (.iface 226 (.pointer (some (E 4))))]) (by simp [results, Tryz.results108, go_sem, q0, q1]) rfl ((show nM E (4, [], []) w _ wf from .inl ⟨by decide, by rw [aIN], bS.out⟩).eqr O6.out.symm)
 have aRi : (u == 50) = false := beq_eq_false_iff_ne.2 h50
 have O6 : Hid (gE xs l (d : Int) s = (0, xs, dX l q)) := by
  show _ = _
  rw [HT0.out]; exact if_neg (fun h => h50 (HUE.out.trans h))
 go_wp2_with fail
 clear u7
 refine (K7 w1 B g off (some ⟨bo, oo, none⟩) 4 cv no co xs l iV.out cV.out (by omega) (by omega) (by omega) (by omega) iA.out.2.2  HM.out).mono ?_
 rintro e w8 ⟨va, vc, oa, oc, cQ, rfl, aZ, jO, yP, mH, pE, jQ⟩
 have HT8 := aRp (aR.out.next pE)
 have hs8 := pE.size
 obtain ⟨go, rfl, aQ7, aPU⟩ := aHZ jO (by have := oQ.out; omega)
 have HW8 := aRp aZ
 have HCA := aRp jQ
 have HR8 := aRp jO
 have o8 := aDX aR.out
 clear pE aZ jQ jO c0 c1 aR iV cV eQ
 go_upto_region 7 with fail
 have aV := ((Below.refl w8.heap.size w8).alloc aRr (.cells #[.slice va xs.length vc, .slice (some ⟨go, 0, none⟩) l.length oc] 27))
 have HT9 := aRp (HT8.out.next aV)
 have HW9 := aRp (HW8.out.below aV (by omega))
 have HR9 := aRp (sK (B := 0) HR8.out aV)
 have Y4 := aRp (heap_alloc_new w8 (.cells #[.slice va xs.length vc, .slice (some ⟨go, 0, none⟩) l.length oc] 27))
 have qJ := aV.size
 clear aV HT8 HW8 HR8
 generalize w8.alloc (.cells #[.slice va xs.length vc, .slice (some ⟨go, 0, none⟩) l.length oc] 27) = w9 at HT9 HW9 HR9 Y4 qJ ⊢
 have hx9 : w8.heap.size < w9.heap.size := (aRq Y4.out).1
 generalize w8.heap.size = nb at hs8 qJ hx9 Y4 mH aPU ⊢
 obtain ⟨c0, c1⟩ := pair_cells Y4.out
 have hql : (q : Int) < (l.length : Int) := by have := oQ.out; omega
 have hqk : q < l.length := by have := oQ.out; omega
 have p5 : (aG l)[q * 8 + 7]? = some (.int .i64 u) := by
  rw [HUE.out]; exact (tL l q 7 hqk (by omega)).trans rfl
 have u7 : w9.cell? ⟨go, q * 8 + 7, none⟩ = some (.int .i64 u) := (HR9.out.cellAt (q * 8 + 7) (by omega)).trans p5
 have f7 : w9.frozen? ⟨go, q * 8 + 7, none⟩ = false := HR9.out.frozenAt (q * 8 + 7)
 have hwu : IntKind.i64.wrap (u + 1) = u + 1 := IntWalk.i64_in _ (by omega)
 have eY := HR9.out.stored (q * 8 + 7) (.int .i64 (u + 1))
 have HRa : Hid ((w9.setCell ⟨go, q * 8 + 7, none⟩ (.int .i64 (u + 1))).ownsRow cQ 50 8 (.slice (some ⟨go, 0, none⟩) l.length oc) l.length (aG (dX l q))) := by
  have e : aG (dX l q) = (aG l).set (q * 8 + 7) (.int .i64 (u + 1)) := by
   rw [HUE.out]; exact (aAM l q hqk).symm
  rw [e]; exact eY.1
 have iT : Below go w9 (w9.setCell ⟨go, q * 8 + 7, none⟩ (.int .i64 (u + 1))) := gW _ _ _ _
 have oE : Hid (sW w (w9.setCell ⟨go, q * 8 + 7, none⟩ (.int .i64 (u + 1))) #[.slice (some ⟨g, off, none⟩) 4 cv, .slice (some ⟨bo, oo, none⟩) no co] #[.slice none 0 0, .slice none 0 0] 27) := ⟨(iT.block _ (by omega)).trans HT9.out.fst, (iT.block _ (by omega)).trans HT9.out.snd, HT9.out.bel.trans (iT.mono (by omega))⟩
 have HWa := aRp (HW9.out.below iT (by omega))
 have HNa : Hid ((w9.setCell ⟨go, q * 8 + 7, none⟩ (.int .i64 (u + 1))).heap[nb]? = some (.cells #[.slice va xs.length vc, .slice (some ⟨go, 0, none⟩) l.length oc] 27 (0, 0))) := (heap_setCell_other _ _ _ _ (by show nb ≠ go; omega)).trans Y4.out
 have hsa : (w9.setCell ⟨go, q * 8 + 7, none⟩ (.int .i64 (u + 1))).heap.size = w9.heap.size := by simp [World.setCell]
 clear eY p5
 go_upto_region 8 with fail
 generalize w9.setCell ⟨go, q * 8 + 7, none⟩ (.int .i64 (u + 1)) = wa at HRa oE HWa HNa hsa ⊢
 clear c0 c1 u7 f7 iT HT9 HW9 HR9 Y4
 obtain ⟨c0, c1⟩ := pair_cells HNa.out
 obtain ⟨r0, r1⟩ := pair_cells oE.out.snd
 obtain ⟨fH, fG⟩ := aC oE.out.snd
 have G8 := mQ oE.out (.slice va xs.length vc) (.slice (some ⟨go, 0, none⟩) l.length oc)
 have HX := aRp G8.1
 have bS : Hid (Below w.heap.size w ((wa.setCell ⟨w.heap.size + 1, 0, none⟩ (.slice va xs.length vc)).setCell ⟨w.heap.size + 1, 1, none⟩ (.slice (some ⟨go, 0, none⟩) l.length oc))) := oE.out.bel.trans (G8.2.mono (by omega))
 have xQ : Hid (Own ((wa.setCell ⟨w.heap.size + 1, 0, none⟩ (.slice va xs.length vc)).setCell ⟨w.heap.size + 1, 1, none⟩ (.slice (some ⟨go, 0, none⟩) l.length oc)) w1.heap.size cQ va xs.length xs) := HWa.out.kept (fun j h1 h2 => aE _ _ (by omega))
 have HRf := aRp (fP (wW (W' := ((wa.setCell ⟨w.heap.size + 1, 0, none⟩ (.slice va xs.length vc)).setCell ⟨w.heap.size + 1, 1, none⟩ (.slice (some ⟨go, 0, none⟩) l.length oc))) HRa.out (fun k y e hk => aE _ _ (by omega))) aRr)
 have HCf := aRp (fY HRa.out)
 have tS : ((wa.setCell ⟨w.heap.size + 1, 0, none⟩ (.slice va xs.length vc)).setCell ⟨w.heap.size + 1, 1, none⟩ (.slice (some ⟨go, 0, none⟩) l.length oc)).heap.size = wa.heap.size := bB _ _ _ _
 clear G8
 go_wp2
 change bodyPost _ _ _ _ _ ((wa.setCell ⟨w.heap.size + 1, 0, none⟩ (.slice va xs.length vc)).setCell ⟨w.heap.size + 1, 1, none⟩ (.slice (some ⟨go, 0, none⟩) l.length oc))
 clear c0 c1 r0 r1 fH fG oE HWa HNa HRa
 generalize ((wa.setCell ⟨w.heap.size + 1, 0, none⟩ (.slice va xs.length vc)).setCell ⟨w.heap.size + 1, 1, none⟩ (.slice (some ⟨go, 0, none⟩) l.length oc)) = wf at HX bS xQ HRf tS ⊢
 obtain ⟨q0, q1⟩ := pair_cells HX.out
 have htl : (dX l q).length = l.length := kC l q
 refine bodyPost_ret (v := .tuple #[.agg #[.slice va xs.length vc, .slice (some ⟨go, 0, none⟩) l.length oc], .nilIface]) (by simp [results, Tryz.results108, go_sem, q0, q1]) rfl (nM.eqr (show nM E (0, xs, dX l q) w _ wf from .inr ⟨rfl, va, vc, some ⟨go, 0, none⟩, oc, cQ, ?_, xQ.out.more (by omega) aRr, ?_, by omega, by omega, HCA.out, ?_, bS.out⟩) O6.out.symm)
 ·show _ = Ending.returned (.tuple #[.agg #[_, .slice _ (dX l q).length _], _])
  rw [htl]
 ·show bE wf cQ wf.heap.size _ (dX l q).length (dX l q)
  rw [htl]; exact HRf.out
 ·show bY _ (dX l q).length oc
  rw [htl]; exact HCf.out
end Go.Proofs.YthkagbnpcjidfaaGreatDoor
