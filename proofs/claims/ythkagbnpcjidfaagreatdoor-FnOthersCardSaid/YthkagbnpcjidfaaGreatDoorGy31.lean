/- Walks and mathematics that several claims share, part 31. -/
import Derived.Test.YthkagbnpcjidfaaGreatDoorGy25
import Derived.Test.YthkagbnpcjidfaaGreatDoorGy19
import Derived.Test.YthkagbnpcjidfaaGreatDoorGy27
import Derived.Test.YthkagbnpcjidfaaGreatDoorGy29
import Derived.Test.YthkagbnpcjidfaaGreatDoorGy15
import Derived.Test.YthkagbnpcjidfaaGreatDoorGy2
import Derived.Test.YthkagbnpcjidfaaGreatDoorGy30
import Derived.Test.YthkagbnpcjidfaaGreatDoorGy21
import Derived.Deep.Cut
import Derived.Deep.RegionHeld
import Derived.Lib.Hide
import Derived.Test.YthkagbnpcjidfaaGreatDoorGyA
namespace Go.Proofs.YthkagbnpcjidfaaGreatDoor
set_option maxRecDepth 100000
open Go.RowKit
set_option linter.unusedVariables false
set_option linter.unusedSimpArgs false
set_option linter.unusedVariables false
set_option linter.unusedSimpArgs false

/-- What a change answers: an error, or a cart of the call's own. -/
def pL (E : Int → Addr) (r : Int × List Int × List aA) (w : World) (e : Ending) (w' : World) : Prop :=
 (r.1 ≠ 0 ∧ e = .returned (.tuple #[.agg #[.slice none 0 0, .slice none 0 0], mN E r.1]) ∧ Below w.heap.size w w') ∨
 (r.1 = 0 ∧ ∃ va vc oa oc cE, e = .returned (.tuple #[.agg #[.slice va r.2.1.length vc, .slice oa r.2.2.length oc], .nilIface]) ∧ Own w' w.heap.size cE va r.2.1.length r.2.1 ∧ bF w' cE w'.heap.size oa r.2.2.length r.2.2 ∧ w.heap.size ≤ cE ∧ cE ≤ w'.heap.size ∧ bP va r.2.1.length vc ∧ bP oa r.2.2.length oc ∧ Below w.heap.size w w')
theorem aID (E : Int → Addr) : mN E 4 = .iface 226 (.pointer (some (E 4))) := by unfold mN; rw [if_neg (by decide)]
theorem aKW {w : World} {B : Nat} {E : Int → Addr} (h : eZ w B E) : w.cell? ⟨4, 0, none⟩ = some (.iface 226 (.pointer (some (E 4)))) := h.cells 4 (by omega) (by omega)
theorem aKX {w : World} {B : Nat} {E : Int → Addr} (h : eZ w B E) : w.cell? ⟨2, 0, none⟩ = some (.iface 226 (.pointer (some (E 2)))) := h.cells 2 (by omega) (by omega)
theorem aCX {w w1 : World} {x y z : Array Value} (h : kN w w1 x y z) (u0 u1 u2 : Value) : kN w (((w1.setCell ⟨w.heap.size + 1, 0, none⟩ u0).setCell ⟨w.heap.size + 1, 1, none⟩ u1).setCell ⟨w.heap.size + 1, 2, none⟩ u2) x (((y.setIfInBounds 0 u0).setIfInBounds 1 u1).setIfInBounds 2 u2) z := ((h.put 0 u0).put 1 u1).put 2 u2
set_option maxHeartbeats 40000000 in
theorem aGt (w : World) (B : Nat) (E : Int → Addr) (hE : eZ w B E) (g off : Nat) (ao : Option Addr) (cv no co d : Nat) (xs : List Int) (l : List aA) (o : aA) (hx : Ints w B (some ⟨g, off, none⟩) 4 xs) (h : bS w B ao no l) (hB : B ≤ w.heap.size) (bI : 4 ≤ cv) (bM : bP ao no co) (hc : aE xs l = true) (hd : d < 4) (hi : o.item.size ≤ 1048576) (hok : (aJ xs l d o).ok = false) :
  Calls Tryz.prog 135 #[.agg #[.slice (some ⟨g, off, none⟩) 4 cv, .slice ao no co], .int .i64 (d : Int), .agg #[.int .i64 o.dev, .int .i64 o.seq, .int .i64 o.stamp, .int .i64 o.kind, .string o.item, .int .i64 o.qty, .int .i64 o.level, .int .i64 o.undos]] w (pL E (4, [], []) w) := by
 obtain ⟨I7, hxa⟩ := fJ hc
 obtain ⟨yD, hx1⟩ := hxa d hd
 have hM : no ≤ 160 := by rw [← h.1]; exact eU hc
 have gC : ∀ i, i < l.length → (aC l i).stamp ≤ 200000 := fun i hi' => by
  have h2 := (dZ (fA hc hi')).2.2.2.1; omega
 have HM : Hid (∀ i, i < no → (l.getD i aA.zero).item.size ≤ 1048576) := fun i hi' => by
  have h2 := (dZ (fA hc (i := i) (by rw [h.1]; exact hi'))).2.2.2.2.1
  have e : aC l i = l.getD i aA.zero := rfl; rw [← e]; omega
 have D8 := rP l l.length
 have eH := wC (N := 200000) (by omega) gC l.length aRC
 have hT := kN.mk0 w #[.slice (some ⟨g, off, none⟩) 4 cv, .slice ao no co] #[.int .i64 o.dev, .int .i64 o.seq, .int .i64 o.stamp, .int .i64 o.kind, .string o.item, .int .i64 o.qty, .int .i64 o.level, .int .i64 o.undos] #[.slice none 0 0, .slice none 0 0]
 have HV := aRA (hx.below hT.bel hB)
 have HO := aRA (h.below hT.bel hB)
 have HE := aRA (hE.below hT.bel hB)
 have HT := aRA hT
 have qO := aRA h.1
 have jA := aRA bM
 have HC := aRA hc
 have HOK : Hid (dP (d : Int) (xs.getD d 0 + 1) (dM l l.length + 1) o.kind o.item o.qty o.level o.undos = false) := hok
 have c9 : Hid (aJ xs l d o = ⟨(d : Int), xs.getD d 0 + 1, dM l l.length + 1, o.kind, o.item, o.qty, o.level, o.undos⟩) := rfl
 have L7 : Hid (dU xs d = xs.set d (xs.getD d 0 + 1)) := rfl
 have Z0 := hE.low
 clear hx h hT gC hok bM hE hc hxa
 go_enter Tryz.func135, Tryz.ntmps135
 go_upto_region 1 with fail
 rename_i KR hKR
 generalize ((w.alloc (.cells #[.slice (some ⟨g, off, none⟩) 4 cv, .slice ao no co] 27)).alloc (.cells #[.int .i64 o.dev, .int .i64 o.seq, .int .i64 o.stamp, .int .i64 o.kind, .string o.item, .int .i64 o.qty, .int .i64 o.level, .int .i64 o.undos] 50)).alloc (.cells #[.slice none 0 0, .slice none 0 0] 27) = w0 at HV HO HE HT ⊢
 obtain ⟨b, iH, he, hb, hc⟩ := HV.out.2 d hd
 injection he with he
 injection he with he1 J8
 subst he1 J8
 obtain ⟨x, sL⟩ : ∃ x, x = xs.getD d 0 := ⟨_, rfl⟩
 obtain ⟨S, fM⟩ : ∃ S, S = dM l l.length := ⟨_, rfl⟩
 rw [← sL, ← fM] at HOK c9
 rw [← sL] at hc yD hx1 L7
 rw [← fM] at D8 eH
 have HSE := aRA fM
 have HXE := aRA sL
 clear sL fM
 have Y5 : (d : Int) < 4 := by omega
 have mF := HT.out.lt
 have hwx : IntKind.i64.wrap (x + 1) = x + 1 := IntWalk.i64_in _ (by omega)
 have hws : IntKind.i64.wrap (S + 1) = S + 1 := IntWalk.i64_in _ (by omega)
 have hS : w0.cell? ⟨w.heap.size, 0, none⟩ = some (.slice (some ⟨g, off, none⟩) 4 cv) ∧ w0.cell? ⟨w.heap.size, 1, none⟩ = some (.slice ao no co) ∧ w0.cell? ⟨g, off + d, none⟩ = some (.int .i64 x) := ⟨(pair_cells HT.out.fst).1, (pair_cells HT.out.fst).2, hc⟩
 refine wp_region_held_drew (S := fun w' => w'.cell? ⟨w.heap.size, 0, none⟩ = some (.slice (some ⟨g, off, none⟩) 4 cv) ∧ w'.cell? ⟨w.heap.size, 1, none⟩ = some (.slice ao no co) ∧ w'.cell? ⟨g, off + d, none⟩ = some (.int .i64 x)) (by kernel_rfl) hS (fun aP => ?_)
 have dG : Hid (Below w0.heap.size w0 w0.drew) := ⟨rfl, rfl, rfl, Nat.le_refl _, fun _ _ => rfl⟩
 generalize w0.drew = z0 at dG aP ⊢
 refine tj 0 ?_
 refine tj 1 ?_
 refine tj 2 ?_
 refine tj 3 ?_
 refine tj 4 ?_
 refine tj 5 ?_
 refine tj 6 ?_
 refine tj 7 ?_
 refine tj 8 ?_
 refine tj 11 ?_
 refine rk 9 rfl (fun K hK => ?_)
 go_simp
 go_at_call 154
 refine (aBB z0 B ao no co l (HO.out.below dG.out (by omega)) (by have := dG.out.size; omega) (by omega)).mono ?_
 rintro e z1 ⟨rfl, fY⟩
 rw [← HSE.out]
 have cO : Hid (Below w0.heap.size w0 z1) := dG.out.trans (fY.mono dG.out.size)
 have aZ := aRA (HT.out.next cO.out)
 have eH : z1.cell? ⟨w.heap.size, 0, none⟩ = some (.slice (some ⟨g, off, none⟩) 4 cv) ∧ z1.cell? ⟨w.heap.size, 1, none⟩ = some (.slice ao no co) ∧ z1.cell? ⟨g, off + d, none⟩ = some (.int .i64 x) := ⟨(pair_cells aZ.out.fst).1, (pair_cells aZ.out.fst).2, (cO.out.cell (p := ⟨g, off + d, none⟩) (by show g < _; omega)).trans hc⟩
 clear fY
 refine hK.out _ _ eH (fun bZ => ?_)
 clear hK K
 (try simp only [Act.put, u1, u2, u3])
 obtain ⟨o0, o1, o2, o3, o4, o5, o6, o7⟩ := aQ aZ.out.snd
 obtain ⟨f0, f1, f2, f3, f4, f5, f6, f7⟩ := dE aZ.out.snd
 have hSt : ∀ (W : World), (∀ k, k ≠ w.heap.size + 1 → W.heap[k]? = z1.heap[k]?) → W.cell? ⟨w.heap.size, 0, none⟩ = some (.slice (some ⟨g, off, none⟩) 4 cv) ∧ W.cell? ⟨w.heap.size, 1, none⟩ = some (.slice ao no co) ∧ W.cell? ⟨g, off + d, none⟩ = some (.int .i64 x) := fun W hW => ⟨(World.cell?_of_block (a := ⟨w.heap.size, 0, none⟩) (hW _ (by show w.heap.size ≠ w.heap.size + 1; omega))).trans eH.1, (World.cell?_of_block (a := ⟨w.heap.size, 1, none⟩) (hW _ (by show w.heap.size ≠ w.heap.size + 1; omega))).trans eH.2.1, (World.cell?_of_block (a := ⟨g, off + d, none⟩) (hW _ (by show g ≠ w.heap.size + 1; omega))).trans eH.2.2⟩
 refine tj 10 ?_
 refine rk 12 rfl (fun K hK => ?_)
 go_simp
 refine hK.out _ _ (hSt _ (fun k hk => heap_setCell_other _ _ _ _ hk)) (fun fT => ?_)
 clear hK K
 (try simp only [Act.put, u1, u2, u3])
 refine tj 13 ?_
 refine rk 14 rfl (fun K hK => ?_)
 go_simp
 refine hK.out _ _ (hSt _ (fun k hk => (heap_setCell_other _ _ _ _ hk).trans (heap_setCell_other _ _ _ _ hk))) (fun nL => ?_)
 clear hK K
 (try simp only [Act.put, u1, u2, u3])
 refine tj 15 ?_
 refine rk 16 rfl (fun K hK => ?_)
 go_simp
 refine hK.out _ _ (hSt _ (fun k hk => (heap_setCell_other _ _ _ _ hk).trans ((heap_setCell_other _ _ _ _ hk).trans (heap_setCell_other _ _ _ _ hk)))) (fun sQ => ?_)
 clear hK K
 (try simp only [Act.put, u1, u2, u3])
 refine wpAnyH_done (by kernel_rfl) ?_ _
 have qM : Hid (kN w (((z1.setCell ⟨w.heap.size + 1, 0, none⟩ (.int .i64 (d : Int))).setCell ⟨w.heap.size + 1, 1, none⟩ (.int .i64 (x + 1))).setCell ⟨w.heap.size + 1, 2, none⟩ (.int .i64 (S + 1))) #[.slice (some ⟨g, off, none⟩) 4 cv, .slice ao no co] #[.int .i64 (d : Int), .int .i64 (x + 1), .int .i64 (S + 1), .int .i64 o.kind, .string o.item, .int .i64 o.qty, .int .i64 o.level, .int .i64 o.undos] #[.slice none 0 0, .slice none 0 0]) := aCX aZ.out _ _ _
 have jI : Hid (Below (w.heap.size + 1) w0 (((z1.setCell ⟨w.heap.size + 1, 0, none⟩ (.int .i64 (d : Int))).setCell ⟨w.heap.size + 1, 1, none⟩ (.int .i64 (x + 1))).setCell ⟨w.heap.size + 1, 2, none⟩ (.int .i64 (S + 1)))) := ((cO.out.mono (by omega)).trans (eM _ _ _ _ _ _)).trans (iS _ _ _ _)
 have tK := aRA (HV.out.below jI.out (by omega))
 have rZ := aRA (HO.out.below jI.out (by omega))
 have rN := aRA (HE.out.below jI.out (by omega))
 clear o0 o1 o2 o3 o4 o5 o6 o7 f0 f1 f2 f3 f4 f5 f6 f7 hSt aP bZ fT nL sQ hS eH HT aZ cO HV HO HE jI hc mF
 have sN := qM.out.lt
 generalize (((z1.setCell ⟨w.heap.size + 1, 0, none⟩ (.int .i64 (d : Int))).setCell ⟨w.heap.size + 1, 1, none⟩ (.int .i64 (x + 1))).setCell ⟨w.heap.size + 1, 2, none⟩ (.int .i64 (S + 1))) = w4 at qM tK rZ rN sN ⊢
 apply hKR
 clear hKR KR
 obtain ⟨o0, o1, o2, o3, o4, o5, o6, o7⟩ := aQ (show w4.heap[w.heap.size + 1]? = some (.cells #[.int .i64 (d : Int), .int .i64 (x + 1), .int .i64 (S + 1), .int .i64 o.kind, .string o.item, .int .i64 o.qty, .int .i64 o.level, .int .i64 o.undos] 50 (0, 0)) from qM.out.snd)
 go_wp2_with fail
 refine (nJ (d : Int) (x + 1) (S + 1) o.kind o.item o.qty o.level o.undos w4).mono ?_
 rintro e w5 ⟨rfl, bE⟩
 rw [HOK.out]
 have uJ := aRA (qM.out.next bE)
 have HV5 := aRA (tK.out.below bE (by omega))
 have HO5 := aRA (rZ.out.below bE (by omega))
 have kR := aRA (rN.out.below bE (by omega))
 have hl5 := uJ.out.lt
 clear bE qM tK rZ rN sN o0 o1 o2 o3 o4 o5 o6 o7
 have g4 := aKW kR.out
 obtain ⟨bV, dC⟩ : Hid (((w5.setCell ⟨w.heap.size + 1 + 1, 0, none⟩ (.slice none 0 0)).setCell ⟨w.heap.size + 1 + 1, 1, none⟩ (.slice none 0 0)).heap[w.heap.size + 1 + 1]? = some (.cells #[.slice none 0 0, .slice none 0 0] 27 (0, 0))) ∧ True := ⟨(uJ.out.set2 (.slice none 0 0) (.slice none 0 0)).1, trivial⟩
 clear bV dC
 go_wp2_with fail
 refine wp_region_held_drew (S := fun w' => w'.cell? ⟨4, 0, none⟩ = some (.iface 226 (.pointer (some (E 4))))) (by kernel_rfl) g4 (fun aP => ?_)
 have dG : Hid (Below w5.heap.size w5 w5.drew) := ⟨rfl, rfl, rfl, Nat.le_refl _, fun _ _ => rfl⟩
 generalize w5.drew = z5 at dG aP ⊢
 have L8 := aRA (uJ.out.next dG.out)
 clear uJ
 obtain ⟨r0, r1⟩ := pair_cells L8.out.res
 obtain ⟨g0, g1⟩ := aD L8.out.res
 refine tj 0 ?_
 refine tj 1 ?_
 refine rk 2 rfl (fun K hK => ?_)
 go_simp
 refine hK.out _ _ ((World.cell?_of_block (a := ⟨4, 0, none⟩) (aF (w := z5) (b := w.heap.size + 1 + 1) (k := 4) (.slice none 0 0) (.slice none 0 0) (by omega))).trans aP) (fun bZ => ?_)
 clear hK K
 (try simp only [Act.put, u1, u2, u3])
 refine tj 3 ?_
 refine wpAnyH_done (by kernel_rfl) ?_ _
 have bV := aRA (L8.out.set2 (.slice none 0 0) (.slice none 0 0)).1
 have dC := aRA (L8.out.bel.trans ((L8.out.set2 (.slice none 0 0) (.slice none 0 0)).2.mono (by omega)))
 go_wp2
 change bodyPost _ _ _ _ _ ((z5.setCell ⟨w.heap.size + 1 + 1, 0, none⟩ (.slice none 0 0)).setCell ⟨w.heap.size + 1 + 1, 1, none⟩ (.slice none 0 0))
 clear r0 r1 g0 g1 aP bZ
 generalize ((z5.setCell ⟨w.heap.size + 1 + 1, 0, none⟩ (.slice none 0 0)).setCell ⟨w.heap.size + 1 + 1, 1, none⟩ (.slice none 0 0)) = wf at bV dC ⊢
 obtain ⟨q0, q1⟩ := pair_cells bV.out
 exact bodyPost_ret (v := .tuple #[.agg #[.slice none 0 0, .slice none 0 0], (.iface 226 (.pointer (some (E 4))))]) (by simp [results, Tryz.results135, go_sem, q0, q1]) rfl (.inl ⟨by decide, by rw [aID], dC.out⟩)
set_option linter.unusedVariables false
set_option linter.unusedSimpArgs false

theorem zV {W W' : World} {base n m c : Nat} {a : Option Addr} {xs : List Value} (h : W.ownsRow base 50 8 (.slice a m c) n xs) (hk : ∀ k x, a = some ⟨k, x, none⟩ → base ≤ k → W'.heap[k]? = W.heap[k]?) : W'.ownsRow base 50 8 (.slice a m c) n xs := by
 refine ⟨h.1, ?_⟩
 rcases h.2 with h2 | ⟨g, cap, aX, e, hg, hc, r⟩
 ·exact .inl h2
 ·have e0 := e
  injection e0 with e1 _ _; exact .inr ⟨g, cap, aX, e, hg, (hk g 0 e1 hg).trans hc, r⟩
theorem aLB {W : World} {base n m c b : Nat} {a : Option Addr} {xs : List Value} {cs : Array Value} {T : TypeId} (h : W.ownsRow base 50 8 (.slice a m c) n xs) (hb : W.heap[b]? = some (.cells cs T (0, 0))) (hT : T ≠ 50) : ∀ k x, a = some ⟨k, x, none⟩ → k ≠ b := by
 intro k x e S0
 rcases h.2 with ⟨e2, _⟩ | ⟨g, cap, aX, e2, hg, hc, r⟩
 ·injection e2 with e3 _ _
  rw [e] at e3; cases e3
 ·injection e2 with e3 _ _
  rw [e] at e3; injection e3 with e3; injection e3 with e4 _; subst e4 S0; rw [hc] at hb; injection hb with hb; injection hb with _ hb _; exact hT hb.symm
theorem aLL {w : World} {lo hi gv n d : Nat} {aX : Array Value} {xs : List Int} (x : Int) (hl : xs.length = n) (hd : d < n) (h1 : lo ≤ gv) (h2 : gv < hi) (hg : w.heap[gv]? = some (.cells aX 2 (0, 0))) (hc : ∀ i, i < n → aX[i]? = some (.int .i64 (xs.getD i 0))) : Own (w.setCell ⟨gv, d, none⟩ (.int .i64 x)) lo hi (some ⟨gv, 0, none⟩) n (xs.set d x) := by
 refine ⟨by simp [hl], fun _ => ⟨gv, aX.setIfInBounds d (.int .i64 x), rfl, h1, h2, heap_setCell_same _ _ _ _ _ _ hg, fun i hi => ?_⟩⟩
 have hs : d < aX.size := (aRB (hc d hd)).1
 rw [Array.getElem?_setIfInBounds, jM (by omega)]
 by_cases e : d = i
 ·subst e
  rw [if_pos rfl, if_pos hs, if_pos rfl]
 ·rw [if_neg e, if_neg e]
  exact hc i hi
theorem aOI {G : Prop} {F : Nat → World → Prop} (T : Nat → World → Prop) (h1 : (∀ vb z, F vb z → T vb z) → G) (h2 : ∀ vb z, F vb z → T vb z) : G := h1 h2
theorem oH {P : Program} {ops : Array Oper} {Q : Exit → Act → World → Prop} {md : Region.Mode} {S : World → Prop} {fuel : Nat} {l l' : Array Bool} {a : Act} {w : World} (h : l = l') (hw : wpAnyH P md ops Q S fuel l' a w) : wpAnyH P md ops Q S fuel l a w := h ▸ hw
set_option maxHeartbeats 40000000 in
theorem aFn (w : World) (B : Nat) (E : Int → Addr) (hE : eZ w B E) (g off : Nat) (ao : Option Addr) (cv no co d : Nat) (xs : List Int) (l : List aA) (o : aA) (hx : Ints w B (some ⟨g, off, none⟩) 4 xs) (h : bS w B ao no l) (hB : B ≤ w.heap.size) (bI : 4 ≤ cv) (bM : bP ao no co) (hc : aE xs l = true) (hd : d < 4) (hi : o.item.size ≤ 1048576) (hok : (aJ xs l d o).ok = true) :
  Calls Tryz.prog 135 #[.agg #[.slice (some ⟨g, off, none⟩) 4 cv, .slice ao no co], .int .i64 (d : Int), .agg #[.int .i64 o.dev, .int .i64 o.seq, .int .i64 o.stamp, .int .i64 o.kind, .string o.item, .int .i64 o.qty, .int .i64 o.level, .int .i64 o.undos]] w (pL E (0, dU xs d, bO l d (aJ xs l d o)) w) := by
 obtain ⟨I7, hxa⟩ := fJ hc
 obtain ⟨yD, hx1⟩ := hxa d hd
 have hM : no ≤ 160 := by rw [← h.1]; exact eU hc
 have gC : ∀ i, i < l.length → (aC l i).stamp ≤ 200000 := fun i hi' => by
  have h2 := (dZ (fA hc hi')).2.2.2.1; omega
 have HM : Hid (∀ i, i < no → (l.getD i aA.zero).item.size ≤ 1048576) := fun i hi' => by
  have h2 := (dZ (fA hc (i := i) (by rw [h.1]; exact hi'))).2.2.2.2.1
  have e : aC l i = l.getD i aA.zero := rfl; rw [← e]; omega
 have D8 := rP l l.length
 have eH := wC (N := 200000) (by omega) gC l.length aRC
 have hT := kN.mk0 w #[.slice (some ⟨g, off, none⟩) 4 cv, .slice ao no co] #[.int .i64 o.dev, .int .i64 o.seq, .int .i64 o.stamp, .int .i64 o.kind, .string o.item, .int .i64 o.qty, .int .i64 o.level, .int .i64 o.undos] #[.slice none 0 0, .slice none 0 0]
 have HV := aRA (hx.below hT.bel hB)
 have HO := aRA (h.below hT.bel hB)
 have HE := aRA (hE.below hT.bel hB)
 have HT := aRA hT
 have qO := aRA h.1
 have jA := aRA bM
 have HC := aRA hc
 have HOK : Hid (dP (d : Int) (xs.getD d 0 + 1) (dM l l.length + 1) o.kind o.item o.qty o.level o.undos = true) := hok
 have c9 : Hid (aJ xs l d o = ⟨(d : Int), xs.getD d 0 + 1, dM l l.length + 1, o.kind, o.item, o.qty, o.level, o.undos⟩) := rfl
 have L7 : Hid (dU xs d = xs.set d (xs.getD d 0 + 1)) := rfl
 have Z0 := hE.low
 clear hx h hT gC hok bM hE hc hxa
 go_enter Tryz.func135, Tryz.ntmps135
 go_upto_region 1 with fail
 rename_i KR hKR
 generalize ((w.alloc (.cells #[.slice (some ⟨g, off, none⟩) 4 cv, .slice ao no co] 27)).alloc (.cells #[.int .i64 o.dev, .int .i64 o.seq, .int .i64 o.stamp, .int .i64 o.kind, .string o.item, .int .i64 o.qty, .int .i64 o.level, .int .i64 o.undos] 50)).alloc (.cells #[.slice none 0 0, .slice none 0 0] 27) = w0 at HV HO HE HT ⊢
 obtain ⟨b, iH, he, hb, hc⟩ := HV.out.2 d hd
 injection he with he
 injection he with he1 J8
 subst he1 J8
 obtain ⟨x, sL⟩ : ∃ x, x = xs.getD d 0 := ⟨_, rfl⟩
 obtain ⟨S, fM⟩ : ∃ S, S = dM l l.length := ⟨_, rfl⟩
 rw [← sL, ← fM] at HOK c9
 rw [← sL] at hc yD hx1 L7
 rw [← fM] at D8 eH
 have HSE := aRA fM
 have HXE := aRA sL
 clear sL fM
 have Y5 : (d : Int) < 4 := by omega
 have mF := HT.out.lt
 have hwx : IntKind.i64.wrap (x + 1) = x + 1 := IntWalk.i64_in _ (by omega)
 have hws : IntKind.i64.wrap (S + 1) = S + 1 := IntWalk.i64_in _ (by omega)
 have hS : w0.cell? ⟨w.heap.size, 0, none⟩ = some (.slice (some ⟨g, off, none⟩) 4 cv) ∧ w0.cell? ⟨w.heap.size, 1, none⟩ = some (.slice ao no co) ∧ w0.cell? ⟨g, off + d, none⟩ = some (.int .i64 x) := ⟨(pair_cells HT.out.fst).1, (pair_cells HT.out.fst).2, hc⟩
 refine wp_region_held_drew (S := fun w' => w'.cell? ⟨w.heap.size, 0, none⟩ = some (.slice (some ⟨g, off, none⟩) 4 cv) ∧ w'.cell? ⟨w.heap.size, 1, none⟩ = some (.slice ao no co) ∧ w'.cell? ⟨g, off + d, none⟩ = some (.int .i64 x)) (by kernel_rfl) hS (fun aP => ?_)
 have dG : Hid (Below w0.heap.size w0 w0.drew) := ⟨rfl, rfl, rfl, Nat.le_refl _, fun _ _ => rfl⟩
 generalize w0.drew = z0 at dG aP ⊢
 refine tj 0 ?_
 refine tj 1 ?_
 refine tj 2 ?_
 refine tj 3 ?_
 refine tj 4 ?_
 refine tj 5 ?_
 refine tj 6 ?_
 refine tj 7 ?_
 refine tj 8 ?_
 refine tj 11 ?_
 refine rk 9 rfl (fun K hK => ?_)
 go_simp
 go_at_call 154
 refine (aBB z0 B ao no co l (HO.out.below dG.out (by omega)) (by have := dG.out.size; omega) (by omega)).mono ?_
 rintro e z1 ⟨rfl, fY⟩
 rw [← HSE.out]
 have cO : Hid (Below w0.heap.size w0 z1) := dG.out.trans (fY.mono dG.out.size)
 have aZ := aRA (HT.out.next cO.out)
 have eH : z1.cell? ⟨w.heap.size, 0, none⟩ = some (.slice (some ⟨g, off, none⟩) 4 cv) ∧ z1.cell? ⟨w.heap.size, 1, none⟩ = some (.slice ao no co) ∧ z1.cell? ⟨g, off + d, none⟩ = some (.int .i64 x) := ⟨(pair_cells aZ.out.fst).1, (pair_cells aZ.out.fst).2, (cO.out.cell (p := ⟨g, off + d, none⟩) (by show g < _; omega)).trans hc⟩
 clear fY
 refine hK.out _ _ eH (fun bZ => ?_)
 clear hK K
 (try simp only [Act.put, u1, u2, u3])
 obtain ⟨o0, o1, o2, o3, o4, o5, o6, o7⟩ := aQ aZ.out.snd
 obtain ⟨f0, f1, f2, f3, f4, f5, f6, f7⟩ := dE aZ.out.snd
 have hSt : ∀ (W : World), (∀ k, k ≠ w.heap.size + 1 → W.heap[k]? = z1.heap[k]?) → W.cell? ⟨w.heap.size, 0, none⟩ = some (.slice (some ⟨g, off, none⟩) 4 cv) ∧ W.cell? ⟨w.heap.size, 1, none⟩ = some (.slice ao no co) ∧ W.cell? ⟨g, off + d, none⟩ = some (.int .i64 x) := fun W hW => ⟨(World.cell?_of_block (a := ⟨w.heap.size, 0, none⟩) (hW _ (by show w.heap.size ≠ w.heap.size + 1; omega))).trans eH.1, (World.cell?_of_block (a := ⟨w.heap.size, 1, none⟩) (hW _ (by show w.heap.size ≠ w.heap.size + 1; omega))).trans eH.2.1, (World.cell?_of_block (a := ⟨g, off + d, none⟩) (hW _ (by show g ≠ w.heap.size + 1; omega))).trans eH.2.2⟩
 refine tj 10 ?_
 refine rk 12 rfl (fun K hK => ?_)
 go_simp
 refine hK.out _ _ (hSt _ (fun k hk => heap_setCell_other _ _ _ _ hk)) (fun fT => ?_)
 clear hK K
 (try simp only [Act.put, u1, u2, u3])
 refine tj 13 ?_
 refine rk 14 rfl (fun K hK => ?_)
 go_simp
 refine hK.out _ _ (hSt _ (fun k hk => (heap_setCell_other _ _ _ _ hk).trans (heap_setCell_other _ _ _ _ hk))) (fun nL => ?_)
 clear hK K
 (try simp only [Act.put, u1, u2, u3])
 refine tj 15 ?_
 refine rk 16 rfl (fun K hK => ?_)
 go_simp
 refine hK.out _ _ (hSt _ (fun k hk => (heap_setCell_other _ _ _ _ hk).trans ((heap_setCell_other _ _ _ _ hk).trans (heap_setCell_other _ _ _ _ hk)))) (fun sQ => ?_)
 clear hK K
 (try simp only [Act.put, u1, u2, u3])
 refine wpAnyH_done (by kernel_rfl) ?_ _
 have qM : Hid (kN w (((z1.setCell ⟨w.heap.size + 1, 0, none⟩ (.int .i64 (d : Int))).setCell ⟨w.heap.size + 1, 1, none⟩ (.int .i64 (x + 1))).setCell ⟨w.heap.size + 1, 2, none⟩ (.int .i64 (S + 1))) #[.slice (some ⟨g, off, none⟩) 4 cv, .slice ao no co] #[.int .i64 (d : Int), .int .i64 (x + 1), .int .i64 (S + 1), .int .i64 o.kind, .string o.item, .int .i64 o.qty, .int .i64 o.level, .int .i64 o.undos] #[.slice none 0 0, .slice none 0 0]) := aCX aZ.out _ _ _
 have jI : Hid (Below (w.heap.size + 1) w0 (((z1.setCell ⟨w.heap.size + 1, 0, none⟩ (.int .i64 (d : Int))).setCell ⟨w.heap.size + 1, 1, none⟩ (.int .i64 (x + 1))).setCell ⟨w.heap.size + 1, 2, none⟩ (.int .i64 (S + 1)))) := ((cO.out.mono (by omega)).trans (eM _ _ _ _ _ _)).trans (iS _ _ _ _)
 have tK := aRA (HV.out.below jI.out (by omega))
 have rZ := aRA (HO.out.below jI.out (by omega))
 have rN := aRA (HE.out.below jI.out (by omega))
 clear o0 o1 o2 o3 o4 o5 o6 o7 f0 f1 f2 f3 f4 f5 f6 f7 hSt aP bZ fT nL sQ hS eH HT aZ cO HV HO HE jI hc mF
 have sN := qM.out.lt
 generalize (((z1.setCell ⟨w.heap.size + 1, 0, none⟩ (.int .i64 (d : Int))).setCell ⟨w.heap.size + 1, 1, none⟩ (.int .i64 (x + 1))).setCell ⟨w.heap.size + 1, 2, none⟩ (.int .i64 (S + 1))) = w4 at qM tK rZ rN sN ⊢
 apply hKR
 clear hKR KR
 obtain ⟨o0, o1, o2, o3, o4, o5, o6, o7⟩ := aQ (show w4.heap[w.heap.size + 1]? = some (.cells #[.int .i64 (d : Int), .int .i64 (x + 1), .int .i64 (S + 1), .int .i64 o.kind, .string o.item, .int .i64 o.qty, .int .i64 o.level, .int .i64 o.undos] 50 (0, 0)) from qM.out.snd)
 go_wp2_with fail
 refine (nJ (d : Int) (x + 1) (S + 1) o.kind o.item o.qty o.level o.undos w4).mono ?_
 rintro e w5 ⟨rfl, bE⟩
 rw [HOK.out]
 have uJ := aRA (qM.out.next bE)
 have HV5 := aRA (tK.out.below bE (by omega))
 have HO5 := aRA (rZ.out.below bE (by omega))
 have kR := aRA (rN.out.below bE (by omega))
 have hl5 := uJ.out.lt
 clear bE qM tK rZ rN sN o0 o1 o2 o3 o4 o5 o6 o7
 obtain ⟨o0, o1, o2, o3, o4, o5, o6, o7⟩ := aQ (show w5.heap[w.heap.size + 1]? = some (.cells #[.int .i64 (d : Int), .int .i64 (x + 1), .int .i64 (S + 1), .int .i64 o.kind, .string o.item, .int .i64 o.qty, .int .i64 o.level, .int .i64 o.undos] 50 (0, 0)) from uJ.out.snd)
 go_wp2_with fail
 refine (aAX o.item hi w5).mono ?_
 rintro e w6 ⟨rfl, oA⟩
 have L8 := aRA (uJ.out.next oA)
 have HP7 : Hid (kN w (w6.setCell ⟨w.heap.size + 1, 4, none⟩ (.string o.item)) #[.slice (some ⟨g, off, none⟩) 4 cv, .slice ao no co] #[.int .i64 (d : Int), .int .i64 (x + 1), .int .i64 (S + 1), .int .i64 o.kind, .string o.item, .int .i64 o.qty, .int .i64 o.level, .int .i64 o.undos] #[.slice none 0 0, .slice none 0 0]) := L8.out.put 4 (.string o.item)
 have wR := oA.size
 have hB7 : Below (w.heap.size + 1) w5 (w6.setCell ⟨w.heap.size + 1, 4, none⟩ (.string o.item)) := (oA.mono (by omega)).trans (iS _ _ _ _)
 have HV7 := aRA (HV5.out.below hB7 (by omega))
 have T2 := aRA (HO5.out.below hB7 (by omega))
 have hl7 := HP7.out.lt
 clear oA hB7 o0 o1 o2 o3 o4 o5 o6 o7 HV5 HO5 kR uJ hl5
 obtain ⟨o0, o1, o2, o3, o4, o5, o6, o7⟩ := aQ (show w6.heap[w.heap.size + 1]? = some (.cells #[.int .i64 (d : Int), .int .i64 (x + 1), .int .i64 (S + 1), .int .i64 o.kind, .string o.item, .int .i64 o.qty, .int .i64 o.level, .int .i64 o.undos] 50 (0, 0)) from L8.out.snd)
 obtain ⟨f0, f1, f2, f3, f4, f5, f6, f7⟩ := dE L8.out.snd
 go_upto_region 5 with fail
 generalize w6.setCell ⟨w.heap.size + 1, 4, none⟩ (.string o.item) = w7 at HP7 HV7 T2 hl7 ⊢
 clear o0 o1 o2 o3 o4 o5 o6 o7 f0 f1 f2 f3 f4 f5 f6 f7 L8 wR
 obtain ⟨q0, q1⟩ := pair_cells HP7.out.fst
 go_wp2_with fail
 refine (Q3 w7 B g off ao 4 cv no co xs l HV7.out T2.out (by omega) (by omega) (by omega) (by omega) jA.out.2.2  HM.out).mono ?_
 rintro e w8 ⟨va, vc, oa, oc, cE, rfl, aY, gW, nY, iM, wY, lJ⟩
 rw [I7] at aY lJ ⊢
 have HP8 := aRA (HP7.out.next wY)
 have HV8 := aRA (HV7.out.below wY (by omega))
 obtain ⟨gv, aX, rfl, cF, fI, hgv, aEA⟩ := aY.2 (by omega)
 have hs8 := wY.size
 have HGV := aRA hgv
 have HCU := aRA aEA
 have T5 := aRA lJ
 have HR8 := aRA gW
 have A2 : Hid (∀ k y, oa = some ⟨k, y, none⟩ → cE ≤ k ∧ k < w8.heap.size) := fun k y e => gW.lt k (by rw [e]; rfl)
 clear wY HP7 HV7 T2 q0 q1 aY lJ hgv aEA gW
 have hgs : gv < w8.heap.size := by omega
 go_upto_region 6 with fail
 rename_i KR hKR
 have bD := ((Below.refl w8.heap.size w8).alloc aRC (.cells #[.slice (some ⟨gv, 0, none⟩) 4 vc, .slice oa l.length oc] 27))
 have E1 := aRA (HP8.out.next bD)
 have HV9 := aRA (HV8.out.below bD (by omega))
 have HG9 := aRA ((bD.block _ hgs).trans HGV.out)
 have HR9 := aRA (vI (B := 0) HR8.out bD)
 have d8 := aRA (World.alloc_heap_new w8 (.cells #[.slice (some ⟨gv, 0, none⟩) 4 vc, .slice oa l.length oc] 27))
 have rK := bD.size
 have hl9 := E1.out.lt
 clear bD HP8 HV8 HGV HR8
 generalize w8.alloc (.cells #[.slice (some ⟨gv, 0, none⟩) 4 vc, .slice oa l.length oc] 27) = w9 at E1 HV9 HG9 HR9 d8 rK hl9 ⊢
 have hx9 : w8.heap.size < w9.heap.size := (aRB d8.out).1
 generalize w8.heap.size = nb at A2 hs8 hgs rK hx9 d8 iM ⊢
 have hpl : aR xs d + ((x + 1).toNat - 1) = putAt (d : Int) l := by
  rw [aDV HC.out hd]
  show _ = aR xs d + (xs.getD d 0).toNat
  rw [← HXE.out]; omega
 have hvo : cU xs = true := (tF HC.out).1
 have aPG := qP (d : Int) l
 have dG : Hid (Below w9.heap.size w9 w9.drew) := ⟨rfl, rfl, rfl, Nat.le_refl _, fun _ _ => rfl⟩
 obtain ⟨z0, iF⟩ : ∃ z0, z0 = w9.drew := ⟨_, rfl⟩
 rw [← iF] at dG
 have aEY := aRA (E1.out.next dG.out)
 have aCI := aRA (HV9.out.below dG.out (by omega))
 have aOp := aRA ((dG.out.block _ (by omega)).trans HG9.out)
 have aNW := aRA (vI (B := 0) HR9.out dG.out)
 have aBi := aRA ((dG.out.block _ hx9).trans d8.out)
 have aJI := dG.out.size
 have A5 : ∀ z, Below z0.heap.size z0 z → z.cell? ⟨w.heap.size, 0, none⟩ = some (.slice (some ⟨g, off, none⟩) 4 cv) ∧ z.cell? ⟨w.heap.size, 1, none⟩ = some (.slice ao no co) ∧ z.cell? ⟨w.heap.size + 1, 0, none⟩ = some (.int .i64 (d : Int)) ∧ z.cell? ⟨w.heap.size + 1, 1, none⟩ = some (.int .i64 (x + 1)) ∧ z.cell? ⟨w.heap.size + 1, 2, none⟩ = some (.int .i64 (S + 1)) ∧ z.cell? ⟨w.heap.size + 1, 3, none⟩ = some (.int .i64 o.kind) ∧ z.cell? ⟨w.heap.size + 1, 4, none⟩ = some (.string o.item) ∧ z.cell? ⟨w.heap.size + 1, 5, none⟩ = some (.int .i64 o.qty) ∧ z.cell? ⟨w.heap.size + 1, 6, none⟩ = some (.int .i64 o.level) ∧ z.cell? ⟨w.heap.size + 1, 7, none⟩ = some (.int .i64 o.undos) := fun z hb => ⟨(pair_cells (aEY.out.next hb).fst).1, (pair_cells (aEY.out.next hb).fst).2, aQ (show z.heap[w.heap.size + 1]? = some (.cells #[.int .i64 (d : Int), .int .i64 (x + 1), .int .i64 (S + 1), .int .i64 o.kind, .string o.item, .int .i64 o.qty, .int .i64 o.level, .int .i64 o.undos] 50 (0, 0)) from (aEY.out.next hb).snd)⟩
 refine wp_region_held_drew (S := fun w' => w'.cell? ⟨w.heap.size, 0, none⟩ = some (.slice (some ⟨g, off, none⟩) 4 cv) ∧ w'.cell? ⟨w.heap.size, 1, none⟩ = some (.slice ao no co) ∧ w'.cell? ⟨w.heap.size + 1, 0, none⟩ = some (.int .i64 (d : Int)) ∧ w'.cell? ⟨w.heap.size + 1, 1, none⟩ = some (.int .i64 (x + 1)) ∧ w'.cell? ⟨w.heap.size + 1, 2, none⟩ = some (.int .i64 (S + 1)) ∧ w'.cell? ⟨w.heap.size + 1, 3, none⟩ = some (.int .i64 o.kind) ∧ w'.cell? ⟨w.heap.size + 1, 4, none⟩ = some (.string o.item) ∧ w'.cell? ⟨w.heap.size + 1, 5, none⟩ = some (.int .i64 o.qty) ∧ w'.cell? ⟨w.heap.size + 1, 6, none⟩ = some (.int .i64 o.level) ∧ w'.cell? ⟨w.heap.size + 1, 7, none⟩ = some (.int .i64 o.undos)) (by kernel_rfl) (by rw [← iF]; exact A5 z0 (Below.refl _ _)) (fun aP => ?_)
 rw [← iF] at aP ⊢
 clear iF E1 HV9 HG9 HR9 d8 dG
 refine tj 0 ?_
 refine tj 2 ?_
 refine tj 3 ?_
 refine tj 4 ?_
 refine tj 5 ?_
 refine tj 7 ?_
 apply aOI (F := fun vb z => Below z0.heap.size z0 z ∧ z0.heap.size ≤ vb ∧ z.heap[vb]? = some (.cells #[.int .i64 (d : Int), .int .i64 (x + 1), .int .i64 (S + 1), .int .i64 o.kind, .string o.item, .int .i64 o.qty, .int .i64 o.level, .int .i64 o.undos] 50 (0, 0)))
 case h1 =>
  intro hT
  have D9 : Below z0.heap.size z0 z0 := Below.refl _ _; refine wpAnyH_ready (rs := [1, 6, 8]) (by kernel_rfl) (by simp) ?_
  refine (AllReadyH.cons rfl (fun K hK => ?_) (AllReadyH.cons rfl (fun K hK => ?_) (AllReadyH.cons rfl (fun K hK => ?_) AllReadyH.nil)))
  ·
   have G8 : z0.cell? ⟨nb, 1, none⟩ = some (.slice oa l.length oc) := (D9.cell (p := ⟨nb, 1, none⟩) (by show nb < _; omega)).trans (pair_cells aBi.out).2
   go_simp
   refine hK.out _ _ (A5 z0 D9) (fun _ => ?_)
   clear hK K G8
   (try simp only [Act.put, u1, u2, u3])
   refine wpAnyH_ready (rs := [6, 8]) (by kernel_rfl) (by simp) ?_
   refine (AllReadyH.cons rfl (fun K hK => ?_) (AllReadyH.cons rfl (fun K hK => ?_) AllReadyH.nil))
   ·
    go_simp
    go_at_call 72
    refine (yP z0 B (some ⟨g, off, none⟩) ao cv no co d xs (aCI.out.below D9 (by omega)) (by have := D9.size; omega) bI hd hvo (x + 1) (by omega) (by omega)).mono ?_
    rintro e y2 ⟨rfl, aNw⟩; rw [hpl]; have gy2 : Below z0.heap.size z0 y2 := D9.trans (aNw.mono D9.size); refine hK.out _ _ (A5 y2 gy2) (fun _ => ?_)
    clear hK K aNw
    (try simp only [Act.put, u1, u2, u3])
    refine wpAnyH_ready (rs := [8]) (by kernel_rfl) (by simp) ?_
    refine (AllReadyH.cons rfl (fun K hK => ?_) AllReadyH.nil)
    ·
     have gy3 : Below z0.heap.size z0 (y2.alloc (.cells #[.int .i64 (d : Int), .int .i64 (x + 1), .int .i64 (S + 1), .int .i64 o.kind, .string o.item, .int .i64 o.qty, .int .i64 o.level, .int .i64 o.undos] 50)) := gy2.alloc gy2.size _; have vy3 : (y2.alloc (.cells #[.int .i64 (d : Int), .int .i64 (x + 1), .int .i64 (S + 1), .int .i64 o.kind, .string o.item, .int .i64 o.qty, .int .i64 o.level, .int .i64 o.undos] 50)).heap[y2.heap.size]? = some (.cells #[.int .i64 (d : Int), .int .i64 (x + 1), .int .i64 (S + 1), .int .i64 o.kind, .string o.item, .int .i64 o.qty, .int .i64 o.level, .int .i64 o.undos] 50 (0, 0)) := World.alloc_heap_new _ _
     go_simp
     refine hK.out _ _ (A5 _ gy3) (fun _ => ?_)
     clear hK K
     (try simp only [Act.put, u1, u2, u3])
     generalize (y2.alloc (.cells #[.int .i64 (d : Int), .int .i64 (x + 1), .int .i64 (S + 1), .int .i64 o.kind, .string o.item, .int .i64 o.qty, .int .i64 o.level, .int .i64 o.undos] 50)) = y3 at gy3 vy3 ⊢; obtain ⟨vb, qT⟩ : ∃ vb, vb = y2.heap.size := ⟨_, rfl⟩; have I8 : z0.heap.size ≤ vb := by rw [qT]; exact gy2.size
     rw [← qT] at vy3 ⊢; clear qT; exact oH (l' := #[true, true, true, true, true, true, true, true, true, false, false, false]) (by kernel_rfl) (hT vb y3 ⟨gy3, I8, vy3⟩)
   ·
    have gy4 : Below z0.heap.size z0 (z0.alloc (.cells #[.int .i64 (d : Int), .int .i64 (x + 1), .int .i64 (S + 1), .int .i64 o.kind, .string o.item, .int .i64 o.qty, .int .i64 o.level, .int .i64 o.undos] 50)) := D9.alloc D9.size _; have vy4 : (z0.alloc (.cells #[.int .i64 (d : Int), .int .i64 (x + 1), .int .i64 (S + 1), .int .i64 o.kind, .string o.item, .int .i64 o.qty, .int .i64 o.level, .int .i64 o.undos] 50)).heap[z0.heap.size]? = some (.cells #[.int .i64 (d : Int), .int .i64 (x + 1), .int .i64 (S + 1), .int .i64 o.kind, .string o.item, .int .i64 o.qty, .int .i64 o.level, .int .i64 o.undos] 50 (0, 0)) := World.alloc_heap_new _ _
    go_simp
    refine hK.out _ _ (A5 _ gy4) (fun _ => ?_)
    clear hK K
    (try simp only [Act.put, u1, u2, u3])
    generalize (z0.alloc (.cells #[.int .i64 (d : Int), .int .i64 (x + 1), .int .i64 (S + 1), .int .i64 o.kind, .string o.item, .int .i64 o.qty, .int .i64 o.level, .int .i64 o.undos] 50)) = y4 at gy4 vy4 ⊢; obtain ⟨vb, qT⟩ : ∃ vb, vb = z0.heap.size := ⟨_, rfl⟩; have I8 : z0.heap.size ≤ vb := by rw [qT]; exact D9.size
    rw [← qT] at vy4 ⊢; clear qT; refine wpAnyH_ready (rs := [6]) (by kernel_rfl) (by simp) ?_
    refine (AllReadyH.cons rfl (fun K hK => ?_) AllReadyH.nil)
    ·
     go_simp
     go_at_call 72
     refine (yP y4 B (some ⟨g, off, none⟩) ao cv no co d xs (aCI.out.below gy4 (by omega)) (by have := gy4.size; omega) bI hd hvo (x + 1) (by omega) (by omega)).mono ?_
     rintro e y5 ⟨rfl, aJX⟩; rw [hpl]; have gy5 : Below z0.heap.size z0 y5 := gy4.trans (aJX.mono gy4.size); have vy5 := (aJX.block _ (aRB vy4).1).trans vy4; refine hK.out _ _ (A5 y5 gy5) (fun _ => ?_)
     clear hK K aJX
     (try simp only [Act.put, u1, u2, u3])
     exact oH (l' := #[true, true, true, true, true, true, true, true, true, false, false, false]) (by kernel_rfl) (hT vb y5 ⟨gy5, I8, vy5⟩)
  ·
   go_simp
   go_at_call 72
   refine (yP z0 B (some ⟨g, off, none⟩) ao cv no co d xs (aCI.out.below D9 (by omega)) (by have := D9.size; omega) bI hd hvo (x + 1) (by omega) (by omega)).mono ?_
   rintro e y6 ⟨rfl, aNv⟩; rw [hpl]; have gy6 : Below z0.heap.size z0 y6 := D9.trans (aNv.mono D9.size); refine hK.out _ _ (A5 y6 gy6) (fun _ => ?_)
   clear hK K aNv
   (try simp only [Act.put, u1, u2, u3])
   refine wpAnyH_ready (rs := [1, 8]) (by kernel_rfl) (by simp) ?_
   refine (AllReadyH.cons rfl (fun K hK => ?_) (AllReadyH.cons rfl (fun K hK => ?_) AllReadyH.nil))
   ·
    have G8 : y6.cell? ⟨nb, 1, none⟩ = some (.slice oa l.length oc) := (gy6.cell (p := ⟨nb, 1, none⟩) (by show nb < _; omega)).trans (pair_cells aBi.out).2
    go_simp
    refine hK.out _ _ (A5 y6 gy6) (fun _ => ?_)
    clear hK K G8
    (try simp only [Act.put, u1, u2, u3])
    refine wpAnyH_ready (rs := [8]) (by kernel_rfl) (by simp) ?_
    refine (AllReadyH.cons rfl (fun K hK => ?_) AllReadyH.nil)
    ·
     have gy8 : Below z0.heap.size z0 (y6.alloc (.cells #[.int .i64 (d : Int), .int .i64 (x + 1), .int .i64 (S + 1), .int .i64 o.kind, .string o.item, .int .i64 o.qty, .int .i64 o.level, .int .i64 o.undos] 50)) := gy6.alloc gy6.size _; have vy8 : (y6.alloc (.cells #[.int .i64 (d : Int), .int .i64 (x + 1), .int .i64 (S + 1), .int .i64 o.kind, .string o.item, .int .i64 o.qty, .int .i64 o.level, .int .i64 o.undos] 50)).heap[y6.heap.size]? = some (.cells #[.int .i64 (d : Int), .int .i64 (x + 1), .int .i64 (S + 1), .int .i64 o.kind, .string o.item, .int .i64 o.qty, .int .i64 o.level, .int .i64 o.undos] 50 (0, 0)) := World.alloc_heap_new _ _
     go_simp
     refine hK.out _ _ (A5 _ gy8) (fun _ => ?_)
     clear hK K
     (try simp only [Act.put, u1, u2, u3])
     generalize (y6.alloc (.cells #[.int .i64 (d : Int), .int .i64 (x + 1), .int .i64 (S + 1), .int .i64 o.kind, .string o.item, .int .i64 o.qty, .int .i64 o.level, .int .i64 o.undos] 50)) = y8 at gy8 vy8 ⊢; obtain ⟨vb, qT⟩ : ∃ vb, vb = y6.heap.size := ⟨_, rfl⟩; have I8 : z0.heap.size ≤ vb := by rw [qT]; exact gy6.size
     rw [← qT] at vy8 ⊢; clear qT; exact oH (l' := #[true, true, true, true, true, true, true, true, true, false, false, false]) (by kernel_rfl) (hT vb y8 ⟨gy8, I8, vy8⟩)
   ·
    have gy9 : Below z0.heap.size z0 (y6.alloc (.cells #[.int .i64 (d : Int), .int .i64 (x + 1), .int .i64 (S + 1), .int .i64 o.kind, .string o.item, .int .i64 o.qty, .int .i64 o.level, .int .i64 o.undos] 50)) := gy6.alloc gy6.size _; have vy9 : (y6.alloc (.cells #[.int .i64 (d : Int), .int .i64 (x + 1), .int .i64 (S + 1), .int .i64 o.kind, .string o.item, .int .i64 o.qty, .int .i64 o.level, .int .i64 o.undos] 50)).heap[y6.heap.size]? = some (.cells #[.int .i64 (d : Int), .int .i64 (x + 1), .int .i64 (S + 1), .int .i64 o.kind, .string o.item, .int .i64 o.qty, .int .i64 o.level, .int .i64 o.undos] 50 (0, 0)) := World.alloc_heap_new _ _
    go_simp
    refine hK.out _ _ (A5 _ gy9) (fun _ => ?_)
    clear hK K
    (try simp only [Act.put, u1, u2, u3])
    generalize (y6.alloc (.cells #[.int .i64 (d : Int), .int .i64 (x + 1), .int .i64 (S + 1), .int .i64 o.kind, .string o.item, .int .i64 o.qty, .int .i64 o.level, .int .i64 o.undos] 50)) = y9 at gy9 vy9 ⊢; obtain ⟨vb, qT⟩ : ∃ vb, vb = y6.heap.size := ⟨_, rfl⟩; have I8 : z0.heap.size ≤ vb := by rw [qT]; exact gy6.size
    rw [← qT] at vy9 ⊢; clear qT; refine wpAnyH_ready (rs := [1]) (by kernel_rfl) (by simp) ?_
    refine (AllReadyH.cons rfl (fun K hK => ?_) AllReadyH.nil)
    ·
     have G8 : y9.cell? ⟨nb, 1, none⟩ = some (.slice oa l.length oc) := (gy9.cell (p := ⟨nb, 1, none⟩) (by show nb < _; omega)).trans (pair_cells aBi.out).2
     go_simp
     refine hK.out _ _ (A5 y9 gy9) (fun _ => ?_)
     clear hK K G8
     (try simp only [Act.put, u1, u2, u3])
     exact oH (l' := #[true, true, true, true, true, true, true, true, true, false, false, false]) (by kernel_rfl) (hT vb y9 ⟨gy9, I8, vy9⟩)
  ·
   have C3 : Below z0.heap.size z0 (z0.alloc (.cells #[.int .i64 (d : Int), .int .i64 (x + 1), .int .i64 (S + 1), .int .i64 o.kind, .string o.item, .int .i64 o.qty, .int .i64 o.level, .int .i64 o.undos] 50)) := D9.alloc D9.size _; have aCd : (z0.alloc (.cells #[.int .i64 (d : Int), .int .i64 (x + 1), .int .i64 (S + 1), .int .i64 o.kind, .string o.item, .int .i64 o.qty, .int .i64 o.level, .int .i64 o.undos] 50)).heap[z0.heap.size]? = some (.cells #[.int .i64 (d : Int), .int .i64 (x + 1), .int .i64 (S + 1), .int .i64 o.kind, .string o.item, .int .i64 o.qty, .int .i64 o.level, .int .i64 o.undos] 50 (0, 0)) := World.alloc_heap_new _ _
   go_simp
   refine hK.out _ _ (A5 _ C3) (fun _ => ?_)
   clear hK K
   (try simp only [Act.put, u1, u2, u3])
   generalize (z0.alloc (.cells #[.int .i64 (d : Int), .int .i64 (x + 1), .int .i64 (S + 1), .int .i64 o.kind, .string o.item, .int .i64 o.qty, .int .i64 o.level, .int .i64 o.undos] 50)) = y11 at C3 aCd ⊢; obtain ⟨vb, qT⟩ : ∃ vb, vb = z0.heap.size := ⟨_, rfl⟩; have I8 : z0.heap.size ≤ vb := by rw [qT]; exact D9.size
   rw [← qT] at aCd ⊢; clear qT; refine wpAnyH_ready (rs := [1, 6]) (by kernel_rfl) (by simp) ?_
   refine (AllReadyH.cons rfl (fun K hK => ?_) (AllReadyH.cons rfl (fun K hK => ?_) AllReadyH.nil))
   ·
    have G8 : y11.cell? ⟨nb, 1, none⟩ = some (.slice oa l.length oc) := (C3.cell (p := ⟨nb, 1, none⟩) (by show nb < _; omega)).trans (pair_cells aBi.out).2
    go_simp
    refine hK.out _ _ (A5 y11 C3) (fun _ => ?_)
    clear hK K G8
    (try simp only [Act.put, u1, u2, u3])
    refine wpAnyH_ready (rs := [6]) (by kernel_rfl) (by simp) ?_
    refine (AllReadyH.cons rfl (fun K hK => ?_) AllReadyH.nil)
    ·
     go_simp
     go_at_call 72
     refine (yP y11 B (some ⟨g, off, none⟩) ao cv no co d xs (aCI.out.below C3 (by omega)) (by have := C3.size; omega) bI hd hvo (x + 1) (by omega) (by omega)).mono ?_
     rintro e y13 ⟨rfl, aGA⟩; rw [hpl]; have aND : Below z0.heap.size z0 y13 := C3.trans (aGA.mono C3.size); have aPg := (aGA.block _ (aRB aCd).1).trans aCd; refine hK.out _ _ (A5 y13 aND) (fun _ => ?_)
     clear hK K aGA
     (try simp only [Act.put, u1, u2, u3])
     exact oH (l' := #[true, true, true, true, true, true, true, true, true, false, false, false]) (by kernel_rfl) (hT vb y13 ⟨aND, I8, aPg⟩)
   ·
    go_simp
    go_at_call 72
    refine (yP y11 B (some ⟨g, off, none⟩) ao cv no co d xs (aCI.out.below C3 (by omega)) (by have := C3.size; omega) bI hd hvo (x + 1) (by omega) (by omega)).mono ?_
    rintro e y14 ⟨rfl, aGz⟩; rw [hpl]; have aGE : Below z0.heap.size z0 y14 := C3.trans (aGz.mono C3.size); have aPf := (aGz.block _ (aRB aCd).1).trans aCd; refine hK.out _ _ (A5 y14 aGE) (fun _ => ?_)
    clear hK K aGz
    (try simp only [Act.put, u1, u2, u3])
    refine wpAnyH_ready (rs := [1]) (by kernel_rfl) (by simp) ?_
    refine (AllReadyH.cons rfl (fun K hK => ?_) AllReadyH.nil)
    ·
     have G8 : y14.cell? ⟨nb, 1, none⟩ = some (.slice oa l.length oc) := (aGE.cell (p := ⟨nb, 1, none⟩) (by show nb < _; omega)).trans (pair_cells aBi.out).2
     go_simp
     refine hK.out _ _ (A5 y14 aGE) (fun _ => ?_)
     clear hK K G8
     (try simp only [Act.put, u1, u2, u3])
     exact oH (l' := #[true, true, true, true, true, true, true, true, true, false, false, false]) (by kernel_rfl) (hT vb y14 ⟨aGE, I8, aPf⟩)
 case h2 =>
  intro vb z ⟨gz, I8, hvb⟩
  have HPz := aRA (aEY.out.next gz); have HGz := aRA ((gz.block _ (by omega)).trans aOp.out)
  have B4 := aRA (vI (B := 0) aNW.out gz); have HNz := aRA ((gz.block _ (by omega)).trans aBi.out)
  have dK := gz.size; clear gz aEY aOp aNW aBi aCI aP; have hI := aOO z cE oa l.length oc (putAt (d : Int) l) l B4.out (by omega) (by have := qO.out; omega) aPG (⟨(d : Int), x + 1, S + 1, o.kind, o.item, o.qty, o.level, o.undos⟩ : aA) vb hvb (fun k y e => by have := A2.out k y e; omega)
  have hI := aRA hI; refine rk 9 rfl (fun K hK => ?_)
  go_simp
  go_at_call 155
  refine hI.out.mono ?_
  rintro e zi ⟨ra, rc, rfl, hro, hbi, pT⟩; have V2 : ∀ j, j < z.heap.size → (j < cE ∨ nb ≤ j) → zi.heap[j]? = z.heap[j]? := fun j h1 h2 => pT j h1 (fun y e => by have := A2.out j y e; omega)
  have HPi : Hid (kN w zi #[.slice (some ⟨g, off, none⟩) 4 cv, .slice ao no co] #[.int .i64 (d : Int), .int .i64 (x + 1), .int .i64 (S + 1), .int .i64 o.kind, .string o.item, .int .i64 o.qty, .int .i64 o.level, .int .i64 o.undos] #[.slice none 0 0, .slice none 0 0]) := HPz.out.far (hbi.mono (by omega))
  have HGi := aRA ((V2 gv (by omega) (.inl (by omega))).trans HGz.out)
  have HNi := aRA ((V2 nb (by omega) (.inr aRC)).trans HNz.out)
  have HRi := aRA hro; have hsi := hbi.size; clear hro hbi pT V2 HPz HGz HNz B4 hvb hI; obtain ⟨Ln, K3⟩ : ∃ Ln, Ln = (l.take (putAt (d : Int) l) ++ [(⟨(d : Int), x + 1, S + 1, o.kind, o.item, o.qty, o.level, o.undos⟩ : aA)] ++ l.drop (putAt (d : Int) l)) := ⟨_, rfl⟩; rw [← K3] at HRi ⊢; have HLN := aRA K3; clear K3; have hSi : zi.cell? ⟨w.heap.size, 0, none⟩ = some (.slice (some ⟨g, off, none⟩) 4 cv) ∧ zi.cell? ⟨w.heap.size, 1, none⟩ = some (.slice ao no co) ∧ zi.cell? ⟨w.heap.size + 1, 0, none⟩ = some (.int .i64 (d : Int)) ∧ zi.cell? ⟨w.heap.size + 1, 1, none⟩ = some (.int .i64 (x + 1)) ∧ zi.cell? ⟨w.heap.size + 1, 2, none⟩ = some (.int .i64 (S + 1)) ∧ zi.cell? ⟨w.heap.size + 1, 3, none⟩ = some (.int .i64 o.kind) ∧ zi.cell? ⟨w.heap.size + 1, 4, none⟩ = some (.string o.item) ∧ zi.cell? ⟨w.heap.size + 1, 5, none⟩ = some (.int .i64 o.qty) ∧ zi.cell? ⟨w.heap.size + 1, 6, none⟩ = some (.int .i64 o.level) ∧ zi.cell? ⟨w.heap.size + 1, 7, none⟩ = some (.int .i64 o.undos) := ⟨(pair_cells HPi.out.fst).1, (pair_cells HPi.out.fst).2, aQ (show zi.heap[w.heap.size + 1]? = some (.cells #[.int .i64 (d : Int), .int .i64 (x + 1), .int .i64 (S + 1), .int .i64 o.kind, .string o.item, .int .i64 o.qty, .int .i64 o.level, .int .i64 o.undos] 50 (0, 0)) from HPi.out.snd)⟩; refine hK.out _ _ hSi (fun _ => ?_)
  clear hK K
  (try simp only [Act.put, u1, u2, u3])
  obtain ⟨xc0, G8⟩ := pair_cells HNi.out; obtain ⟨M5, M4⟩ := aD HNi.out; refine tj 10 ?_
  have bH := aLB HRi.out HNi.out (by decide)
  have hbj : Below nb zi (zi.setCell ⟨nb, 1, none⟩ (.slice ra Ln.length rc)) := iS _ _ _ _; have HPj : Hid (kN w (zi.setCell ⟨nb, 1, none⟩ (.slice ra Ln.length rc)) #[.slice (some ⟨g, off, none⟩) 4 cv, .slice ao no co] #[.int .i64 (d : Int), .int .i64 (x + 1), .int .i64 (S + 1), .int .i64 o.kind, .string o.item, .int .i64 o.qty, .int .i64 o.level, .int .i64 o.undos] #[.slice none 0 0, .slice none 0 0]) := HPi.out.far (hbj.mono (by omega))
  have HGj : Hid ((zi.setCell ⟨nb, 1, none⟩ (.slice ra Ln.length rc)).heap[gv]? = some (.cells aX 2 (0, 0))) := (hbj.block gv (by omega)).trans HGi.out
  have HNj : Hid ((zi.setCell ⟨nb, 1, none⟩ (.slice ra Ln.length rc)).heap[nb]? = some (.cells #[.slice (some ⟨gv, 0, none⟩) 4 vc, (.slice ra Ln.length rc)] 27 (0, 0))) := heap_setCell_same _ _ _ _ _ _ HNi.out; have HRj : Hid ((zi.setCell ⟨nb, 1, none⟩ (.slice ra Ln.length rc)).ownsRow cE 50 8 (.slice ra Ln.length rc) Ln.length (aH Ln)) := zV HRi.out (fun k y e _ => heap_setCell_other _ _ _ _ (bH k y e))
  have hsj : (zi.setCell ⟨nb, 1, none⟩ (.slice ra Ln.length rc)).heap.size = zi.heap.size := by simp [World.setCell]
  have hSj : (zi.setCell ⟨nb, 1, none⟩ (.slice ra Ln.length rc)).cell? ⟨w.heap.size, 0, none⟩ = some (.slice (some ⟨g, off, none⟩) 4 cv) ∧ (zi.setCell ⟨nb, 1, none⟩ (.slice ra Ln.length rc)).cell? ⟨w.heap.size, 1, none⟩ = some (.slice ao no co) ∧ (zi.setCell ⟨nb, 1, none⟩ (.slice ra Ln.length rc)).cell? ⟨w.heap.size + 1, 0, none⟩ = some (.int .i64 (d : Int)) ∧ (zi.setCell ⟨nb, 1, none⟩ (.slice ra Ln.length rc)).cell? ⟨w.heap.size + 1, 1, none⟩ = some (.int .i64 (x + 1)) ∧ (zi.setCell ⟨nb, 1, none⟩ (.slice ra Ln.length rc)).cell? ⟨w.heap.size + 1, 2, none⟩ = some (.int .i64 (S + 1)) ∧ (zi.setCell ⟨nb, 1, none⟩ (.slice ra Ln.length rc)).cell? ⟨w.heap.size + 1, 3, none⟩ = some (.int .i64 o.kind) ∧ (zi.setCell ⟨nb, 1, none⟩ (.slice ra Ln.length rc)).cell? ⟨w.heap.size + 1, 4, none⟩ = some (.string o.item) ∧ (zi.setCell ⟨nb, 1, none⟩ (.slice ra Ln.length rc)).cell? ⟨w.heap.size + 1, 5, none⟩ = some (.int .i64 o.qty) ∧ (zi.setCell ⟨nb, 1, none⟩ (.slice ra Ln.length rc)).cell? ⟨w.heap.size + 1, 6, none⟩ = some (.int .i64 o.level) ∧ (zi.setCell ⟨nb, 1, none⟩ (.slice ra Ln.length rc)).cell? ⟨w.heap.size + 1, 7, none⟩ = some (.int .i64 o.undos) := ⟨(pair_cells HPj.out.fst).1, (pair_cells HPj.out.fst).2, aQ (show (zi.setCell ⟨nb, 1, none⟩ (.slice ra Ln.length rc)).heap[w.heap.size + 1]? = some (.cells #[.int .i64 (d : Int), .int .i64 (x + 1), .int .i64 (S + 1), .int .i64 o.kind, .string o.item, .int .i64 o.qty, .int .i64 o.level, .int .i64 o.undos] 50 (0, 0)) from HPj.out.snd)⟩; refine rk 11 rfl (fun K hK => ?_)
  go_simp
  refine hK.out _ _ hSj (fun uF => ?_)
  clear hK K
  (try simp only [Act.put, u1, u2, u3])
  refine wpAnyH_done (by kernel_rfl) ?_ _
  clear hSi hSj xc0 G8 M5 M4 bH hbj HPi HGi HNi HRi A5; generalize (zi.setCell ⟨nb, 1, none⟩ (.slice ra Ln.length rc)) = zj at HPj HGj HNj HRj hsj ⊢
  apply hKR
  clear hKR KR; obtain ⟨xc0, G8⟩ := pair_cells HNj.out; obtain ⟨o0, o1, o2, o3, o4, o5, o6, o7⟩ := aQ (show zj.heap[w.heap.size + 1]? = some (.cells #[.int .i64 (d : Int), .int .i64 (x + 1), .int .i64 (S + 1), .int .i64 o.kind, .string o.item, .int .i64 o.qty, .int .i64 o.level, .int .i64 o.undos] 50 (0, 0)) from HPj.out.snd); obtain ⟨zz, hcz⟩ : ∃ zz, zj.cell? ⟨gv, d, none⟩ = some zz := ⟨_, (aRD HGj.out).trans (HCU.out d hd)⟩; have hfz : zj.frozen? ⟨gv, d, none⟩ = false := aRE HGj.out; have E2 : Hid (Own (zj.setCell ⟨gv, d, none⟩ (.int .i64 (x + 1))) w7.heap.size cE (some ⟨gv, 0, none⟩) 4 (xs.set d (x + 1))) := aLL (x + 1) I7 hd cF fI HGj.out HCU.out; have S4 : Below gv zj (zj.setCell ⟨gv, d, none⟩ (.int .i64 (x + 1))) := iS _ _ _ _; have HPk : Hid (kN w (zj.setCell ⟨gv, d, none⟩ (.int .i64 (x + 1))) #[.slice (some ⟨g, off, none⟩) 4 cv, .slice ao no co] #[.int .i64 (d : Int), .int .i64 (x + 1), .int .i64 (S + 1), .int .i64 o.kind, .string o.item, .int .i64 o.qty, .int .i64 o.level, .int .i64 o.undos] #[.slice none 0 0, .slice none 0 0]) := HPj.out.far (S4.mono (by omega))
  have HNk : Hid ((zj.setCell ⟨gv, d, none⟩ (.int .i64 (x + 1))).heap[nb]? = some (.cells #[.slice (some ⟨gv, 0, none⟩) 4 vc, (.slice ra Ln.length rc)] 27 (0, 0))) := (heap_setCell_other _ _ _ _ (by show nb ≠ gv; omega)).trans HNj.out
  have HRk : Hid ((zj.setCell ⟨gv, d, none⟩ (.int .i64 (x + 1))).ownsRow cE 50 8 (.slice ra Ln.length rc) Ln.length (aH Ln)) := zV HRj.out (fun k y e hk => heap_setCell_other _ _ _ _ (by show k ≠ gv; omega))
  have hsk : (zj.setCell ⟨gv, d, none⟩ (.int .i64 (x + 1))).heap.size = zj.heap.size := by simp [World.setCell]
  go_upto_region 8 with fail
  generalize zj.setCell ⟨gv, d, none⟩ (.int .i64 (x + 1)) = zk at E2 HPk HNk HRk hsk ⊢; clear xc0 G8 o0 o1 o2 o3 o4 o5 o6 o7 hcz hfz S4 HPj HGj HNj HRj; obtain ⟨xc0, G8⟩ := pair_cells HNk.out; obtain ⟨r0, r1⟩ := pair_cells HPk.out.res; obtain ⟨gK, gJ⟩ := aD HPk.out.res; have N8 := HPk.out.set2 (.slice (some ⟨gv, 0, none⟩) 4 vc) (.slice ra Ln.length rc); have HX := aRA N8.1; have cA : Hid (Below w.heap.size w ((zk.setCell ⟨w.heap.size + 1 + 1, 0, none⟩ (.slice (some ⟨gv, 0, none⟩) 4 vc)).setCell ⟨w.heap.size + 1 + 1, 1, none⟩ (.slice ra Ln.length rc))) := HPk.out.bel.trans (N8.2.mono (by omega))
  have B7 : Hid (Own ((zk.setCell ⟨w.heap.size + 1 + 1, 0, none⟩ (.slice (some ⟨gv, 0, none⟩) 4 vc)).setCell ⟨w.heap.size + 1 + 1, 1, none⟩ (.slice ra Ln.length rc)) w7.heap.size cE (some ⟨gv, 0, none⟩) 4 (xs.set d (x + 1))) := E2.out.kept (fun j h1 h2 => aF _ _ (by omega))
  have HRf := aRA (gS (zV (W' := ((zk.setCell ⟨w.heap.size + 1 + 1, 0, none⟩ (.slice (some ⟨gv, 0, none⟩) 4 vc)).setCell ⟨w.heap.size + 1 + 1, 1, none⟩ (.slice ra Ln.length rc))) HRk.out (fun k y e hk => aF _ _ (by omega))) aRC)
  have HCf := aRA (hC HRk.out); have wQ : ((zk.setCell ⟨w.heap.size + 1 + 1, 0, none⟩ (.slice (some ⟨gv, 0, none⟩) 4 vc)).setCell ⟨w.heap.size + 1 + 1, 1, none⟩ (.slice ra Ln.length rc)).heap.size = zk.heap.size := bA _ _ _ _; clear N8; go_wp2
  change bodyPost _ _ _ _ _ ((zk.setCell ⟨w.heap.size + 1 + 1, 0, none⟩ (.slice (some ⟨gv, 0, none⟩) 4 vc)).setCell ⟨w.heap.size + 1 + 1, 1, none⟩ (.slice ra Ln.length rc))
  clear xc0 G8 r0 r1 gK gJ E2 HPk HNk HRk; generalize ((zk.setCell ⟨w.heap.size + 1 + 1, 0, none⟩ (.slice (some ⟨gv, 0, none⟩) 4 vc)).setCell ⟨w.heap.size + 1 + 1, 1, none⟩ (.slice ra Ln.length rc)) = wf at HX cA B7 HRf wQ ⊢; obtain ⟨q0, q1⟩ := pair_cells HX.out; have hvl : (dU xs d).length = 4 := by rw [L7.out, List.length_set]; exact I7
  have aPF : bO l d (⟨(d : Int), x + 1, S + 1, o.kind, o.item, o.qty, o.level, o.undos⟩ : aA) = Ln := by rw [HLN.out]; rfl
  refine bodyPost_ret (v := .tuple #[.agg #[.slice (some ⟨gv, 0, none⟩) 4 vc, (.slice ra Ln.length rc)], .nilIface]) (by simp [results, Tryz.results135, go_sem, q0, q1]) rfl ?_
  rw [c9.out, aPF]; refine .inr ⟨rfl, some ⟨gv, 0, none⟩, vc, ra, rc, cE, ?_, ?_, HRf.out, by omega, by omega, ?_, HCf.out, cA.out⟩
  ·show _ = Ending.returned (.tuple #[.agg #[.slice (some ⟨gv, 0, none⟩) (dU xs d).length vc, _], _])
   rw [hvl]
  ·show Own wf w.heap.size cE _ (dU xs d).length (dU xs d)
   rw [hvl, L7.out]; exact B7.out.more (by omega) aRC
  ·show bP _ (dU xs d).length vc
   rw [hvl]; exact T5.out
/-- Either way. -/
theorem aIk (w : World) (B : Nat) (E : Int → Addr) (hE : eZ w B E) (g off : Nat) (ao : Option Addr) (cv no co d : Nat) (xs : List Int) (l : List aA) (o : aA) (hx : Ints w B (some ⟨g, off, none⟩) 4 xs) (h : bS w B ao no l) (hB : B ≤ w.heap.size) (bI : 4 ≤ cv) (bM : bP ao no co) (hc : aE xs l = true) (hd : d < 4) (hi : o.item.size ≤ 1048576) :
  Calls Tryz.prog 135 #[.agg #[.slice (some ⟨g, off, none⟩) 4 cv, .slice ao no co], .int .i64 (d : Int), .agg #[.int .i64 o.dev, .int .i64 o.seq, .int .i64 o.stamp, .int .i64 o.kind, .string o.item, .int .i64 o.qty, .int .i64 o.level, .int .i64 o.undos]] w (pL E (if (aJ xs l d o).ok = true then (0, dU xs d, bO l d (aJ xs l d o)) else (4, [], [])) w) := by
 cases hok : (aJ xs l d o).ok
 ·rw [if_neg (by decide)]
  exact aGt w B E hE g off ao cv no co d xs l o hx h hB bI bM hc hd hi hok
 ·rw [if_pos rfl]
  exact aFn w B E hE g off ao cv no co d xs l o hx h hB bI bM hc hd hi hok
set_option linter.unusedVariables false
set_option linter.unusedSimpArgs false

/-- Three blocks that a call has laid first. -/
structure uX (w w1 : World) (x : Array Value) (tx : TypeId) (y : Array Value) (ty : TypeId) (z : Array Value) (tz : TypeId) : Prop where
 fst : w1.heap[w.heap.size]? = some (.cells x tx (0, 0))
 snd : w1.heap[w.heap.size + 1]? = some (.cells y ty (0, 0))
 res : w1.heap[w.heap.size + 1 + 1]? = some (.cells z tz (0, 0))
 bel : Below w.heap.size w w1
theorem uX.mk0 (w : World) (x y z : Array Value) (tx ty tz : TypeId) : uX w (((w.alloc (.cells x tx)).alloc (.cells y ty)).alloc (.cells z tz)) x tx y ty z tz := by
 have e1 : (w.alloc (.cells x tx)).heap.size = w.heap.size + 1 := by simp
 have e2 : ((w.alloc (.cells x tx)).alloc (.cells y ty)).heap.size = w.heap.size + 1 + 1 := by simp
 refine ⟨?_, ?_, ?_, (((Below.refl _ w).alloc aRC _).alloc (by simp) _).alloc (by simp; omega) _⟩
 ·exact ((Below.heap_alloc _ _ _ (by omega)).trans (Below.heap_alloc _ _ _ (by omega))).trans (heap_alloc_new _ _)
 ·rw [← e1]; exact (Below.heap_alloc _ _ _ (by omega)).trans (heap_alloc_new _ _)
 ·rw [← e2]; exact heap_alloc_new _ _
section
variable {w w1 w2 : World} {x y z : Array Value} {tx ty tz : TypeId}
theorem uX.next (h : uX w w1 x tx y ty z tz) (hb : Below w1.heap.size w1 w2) : uX w w2 x tx y ty z tz :=
 ⟨(hb.block _ (aRB h.fst).1).trans h.fst, (hb.block _ (aRB h.snd).1).trans h.snd, (hb.block _ (aRB h.res).1).trans h.res, h.bel.trans (hb.mono h.bel.size)⟩
theorem uX.lt (h : uX w w1 x tx y ty z tz) : w.heap.size + 1 + 1 < w1.heap.size := (aRB h.res).1
theorem uX.set2 {z0 z1 : Value} (h : uX w w1 x tx y ty #[z0, z1] tz) (u v : Value) :
  ((w1.setCell ⟨w.heap.size + 1 + 1, 0, none⟩ u).setCell ⟨w.heap.size + 1 + 1, 1, none⟩ v).heap[w.heap.size + 1 + 1]? = some (.cells #[u, v] tz (0, 0)) ∧ Below (w.heap.size + 1 + 1) w1 ((w1.setCell ⟨w.heap.size + 1 + 1, 0, none⟩ u).setCell ⟨w.heap.size + 1 + 1, 1, none⟩ v) :=
 ⟨cK _ _ h.res, eM _ _ _ _ _ _⟩
end
theorem mO {w : World} {b : Nat} {v0 v1 v2 v3 v4 : Value} {T : TypeId} {fr : Nat × Nat} (h : w.heap[b]? = some (.cells #[v0, v1, v2, v3, v4] T fr)) : w.cell? ⟨b, 0, none⟩ = some v0 ∧ w.cell? ⟨b, 1, none⟩ = some v1 ∧ w.cell? ⟨b, 2, none⟩ = some v2 ∧ w.cell? ⟨b, 3, none⟩ = some v3 ∧ w.cell? ⟨b, 4, none⟩ = some v4 :=
 ⟨aRD h, aRD h, aRD h, aRD h, aRD h⟩
theorem pL.form {E : Int → Addr} {r : Int × List Int × List aA} {w w' : World} {e : Ending} (h : pL E r w e w') : ∃ a n c a' n' c' er, e = .returned (.tuple #[.agg #[.slice a n c, .slice a' n' c'], er]) := by
 rcases h with ⟨_, e1, _⟩ | ⟨_, va, vc, oa, oc, cE, e1, _⟩
 ·exact ⟨_, _, _, _, _, _, _, e1⟩
 ·exact ⟨_, _, _, _, _, _, _, e1⟩
theorem pL.bel {E : Int → Addr} {r : Int × List Int × List aA} {w w' : World} {e : Ending} (h : pL E r w e w') : Below w.heap.size w w' := by
 rcases h with ⟨_, _, h⟩ | ⟨_, va, vc, oa, oc, cE, _, _, _, _, _, _, _, h⟩
 ·exact h
 ·exact h
theorem pL.up {E : Int → Addr} {r : Int × List Int × List aA} {w w2 w3 wf : World} {e : Ending} (h : pL E r w2 e w3) (hs : w.heap.size ≤ w2.heap.size) (hk : ∀ j, w2.heap.size ≤ j → wf.heap[j]? = w3.heap[j]?) (hz : wf.heap.size = w3.heap.size) (hb : Below w.heap.size w wf) : pL E r w e wf := by
 rcases h with ⟨h1, h2, _⟩ | ⟨h0, va, vc, oa, oc, cE, h1, h2, h3, h4, h5, h6, h7, _⟩
 ·exact .inl ⟨h1, h2, hb⟩
 ·exact .inr ⟨h0, va, vc, oa, oc, cE, h1, (h2.kept (fun j a b => hk j a)).more hs aRC, by rw [hz]; exact h3.kept (fun j a b => hk j (by omega)), by omega, by omega, h6, h7, hb⟩
theorem pL.eqr {E : Int → Addr} {r r' : Int × List Int × List aA} {w w' : World} {e : Ending} (h : pL E r w e w') (e1 : r = r') : pL E r' w e w' := e1 ▸ h
theorem aHT {xs : List Int} {l : List aA} (h : aE xs l = true) (item : ByteArray) (kind qty : Int) : oneOf (cC item (counted xs l)).level (decide ((cC item (counted xs l)).placed.kind = 4)) kind item qty = oneOf (aG item l l.length) (bG l item) kind item qty := by
 have e : cC item (counted xs l) = ⟨aG item l l.length, aU qV item l l.length, aU iC item l l.length⟩ := by
  unfold counted; rw [if_pos h, yN h item _ aRC]
 rw [e]
 rfl
set_option maxHeartbeats 40000000 in
theorem G9 (w : World) (B : Nat) (E : Int → Addr) (hE : eZ w B E) (g off : Nat) (ao : Option Addr) (cv no co d : Nat) (xs : List Int) (l : List aA) (kind qty dv sq : Int) (item : ByteArray) (hx : Ints w B (some ⟨g, off, none⟩) 4 xs) (h : bS w B ao no l) (hB : B ≤ w.heap.size) (bI : 4 ≤ cv) (bM : bP ao no co) (hc : aE xs l = true) (hd : d < 4) (hi : item.size ≤ 1048576) :
  Calls Tryz.prog 109 #[.agg #[.slice (some ⟨g, off, none⟩) 4 cv, .slice ao no co], .int .i64 (d : Int), .agg #[.int .i64 kind, .string item, .int .i64 qty, .int .i64 dv, .int .i64 sq]] w (pL E (eA xs l d kind item qty) w) := by
 have hM : no ≤ 160 := by rw [← h.1]; exact eU hc
 have hlv := F6 hc item l.length aRC
 have aPQ : 0 ≤ aG item l l.length := sI item l l.length
 have hsl : (cC item (counted xs l)).level = aG item l l.length := by
  unfold counted; rw [if_pos hc, yN hc item _ aRC]
 have hT := uX.mk0 w #[.slice (some ⟨g, off, none⟩) 4 cv, .slice ao no co] #[.int .i64 kind, .string item, .int .i64 qty, .int .i64 dv, .int .i64 sq] #[.slice none 0 0, .slice none 0 0] 27 29 27
 have HV := aRA (hx.below hT.bel hB)
 have HO := aRA (h.below hT.bel hB)
 have HE := aRA (hE.below hT.bel hB)
 have HT := aRA hT
 have jA := aRA bM
 have HC := aRA hc
 have HR := aHT hc item kind qty
 have HON : eA xs l d kind item qty = (if (oneOf (aG item l l.length) (bG l item) kind item qty).2 = 0 then (if (aJ xs l d (oneOf (aG item l l.length) (bG l item) kind item qty).1).ok = true then (0, dU xs d, bO l d (aJ xs l d (oneOf (aG item l l.length) (bG l item) kind item qty).1)) else (4, [], [])) else ((oneOf (aG item l l.length) (bG l item) kind item qty).2, [], [])) := rfl
 have hoi := aBv (aG item l l.length) (bG l item) kind item qty
 generalize oneOf (aG item l l.length) (bG l item) kind item qty = r at HR HON hoi
 rw [HON]
 obtain ⟨R, hR⟩ : ∃ R : Int × List Int × List aA, R = (if r.2 = 0 then (if (aJ xs l d r.1).ok = true then (0, dU xs d, bO l d (aJ xs l d r.1)) else (4, [], [])) else (r.2, [], [])) := ⟨_, rfl⟩
 rw [← hR]
 have yJ := aRA hR
 have hri : r.1.item.size ≤ 1048576 := by
  rcases hoi with e | e
  ·rw [e]; exact hi
  ·rw [e]; decide
 have HR := aRA HR
 have HSL := aRA hsl
 clear hx h hT bM hE hc HON hoi hsl hR
 go_enter Tryz.func109, Tryz.ntmps109
 go_upto_region 1 with fail
 generalize ((w.alloc (.cells #[.slice (some ⟨g, off, none⟩) 4 cv, .slice ao no co] 27)).alloc (.cells #[.int .i64 kind, .string item, .int .i64 qty, .int .i64 dv, .int .i64 sq] 29)).alloc (.cells #[.slice none 0 0, .slice none 0 0] 27) = w0 at HV HO HE HT ⊢
 obtain ⟨c0, c1⟩ := pair_cells HT.out.fst
 obtain ⟨d0, d1, d2, d3, d4⟩ := mO HT.out.snd
 have mF := HT.out.lt
 go_wp2_with fail
 refine (aMU w0 B E HE.out (some ⟨g, off, none⟩) ao 4 cv no co xs l kind qty dv sq item HV.out HO.out (by omega) (by omega) jA.out.1 ⟨by omega, jA.out.2.1⟩ hi _ rfl (by rw [HSL.out]; exact aPQ) (by rw [HSL.out]; omega)).mono ?_
 rintro e w1 ⟨rfl, hb⟩
 rw [HR.out]
 have aZ := aRA (HT.out.next hb)
 have lP := aRA (HV.out.below hb (by omega))
 have dL := aRA (HO.out.below hb (by omega))
 have eF := aRA (HE.out.below hb (by omega))
 have fH := hb.size
 clear hb c0 c1 d0 d1 d2 d3 d4 HT HV HO HE HR HSL
 obtain ⟨o, code⟩ := r
 dsimp only at hri ⊢
 obtain ⟨c0, c1⟩ := pair_cells aZ.out.fst
 by_cases yG : code = 0
 ·subst yG
  rw [S9]
  go_upto_region 2 with fail
  have bD := ((Below.refl w1.heap.size w1).alloc aRC (.cells #[.int .i64 o.dev, .int .i64 o.seq, .int .i64 o.stamp, .int .i64 o.kind, .string o.item, .int .i64 o.qty, .int .i64 o.level, .int .i64 o.undos] 50)); have aM := aRA (aZ.out.next bD); have mZ := aRA (lP.out.below bD (by omega))
  have iZ := aRA (dL.out.below bD (by omega))
  have dQ := aRA (eF.out.below bD (by omega))
  have oC := aRA (heap_alloc_new w1 (.cells #[.int .i64 o.dev, .int .i64 o.seq, .int .i64 o.stamp, .int .i64 o.kind, .string o.item, .int .i64 o.qty, .int .i64 o.level, .int .i64 o.undos] 50)); have eV := bD.size; clear bD c0 c1 aZ lP dL eF; generalize w1.alloc (.cells #[.int .i64 o.dev, .int .i64 o.seq, .int .i64 o.stamp, .int .i64 o.kind, .string o.item, .int .i64 o.qty, .int .i64 o.level, .int .i64 o.undos] 50) = w2 at aM mZ iZ dQ oC eV ⊢; generalize w1.heap.size = ob at fH eV oC ⊢; obtain ⟨c0, c1⟩ := pair_cells aM.out.fst; obtain ⟨o0, o1, o2, o3, o4, o5, o6, o7⟩ := aQ oC.out
  go_wp2_with fail
  refine (aIk w2 B E dQ.out g off ao cv no co d xs l o mZ.out iZ.out (by omega) bI jA.out  HC.out hd hri).mono ?_
  intro e w3 iX
  obtain ⟨a, n, c, a', n', c', er, rfl⟩ := iX.form; have P7 := aRA iX; have bB := iX.bel; have bJ := aRA (aM.out.next bB); have iG := bB.size; clear iX bB c0 c1 o0 o1 o2 o3 o4 o5 o6 o7 mZ iZ dQ oC aM; obtain ⟨r0, r1⟩ := pair_cells bJ.out.res; obtain ⟨gK, gJ⟩ := aD bJ.out.res; have HX := aRA (bJ.out.set2 (.slice a n c) (.slice a' n' c')).1; have cA := aRA (bJ.out.bel.trans ((bJ.out.set2 (.slice a n c) (.slice a' n' c')).2.mono (by omega)))
  have sM := bA w3 (w.heap.size + 1 + 1) (.slice a n c) (.slice a' n' c'); have C0 : Hid (∀ j, w2.heap.size ≤ j → ((w3.setCell ⟨w.heap.size + 1 + 1, 0, none⟩ (.slice a n c)).setCell ⟨w.heap.size + 1 + 1, 1, none⟩ (.slice a' n' c')).heap[j]? = w3.heap[j]?) := fun j hj => aF _ _ (by omega)
  go_wp2
  change bodyPost _ _ _ _ _ ((w3.setCell ⟨w.heap.size + 1 + 1, 0, none⟩ (.slice a n c)).setCell ⟨w.heap.size + 1 + 1, 1, none⟩ (.slice a' n' c'))
  clear r0 r1 gK gJ; generalize (w3.setCell ⟨w.heap.size + 1 + 1, 0, none⟩ (.slice a n c)).setCell ⟨w.heap.size + 1 + 1, 1, none⟩ (.slice a' n' c') = wf at HX cA C0 sM ⊢; obtain ⟨q0, q1⟩ := pair_cells HX.out; exact bodyPost_ret (v := .tuple #[.agg #[.slice a n c, .slice a' n' c'], er]) (by simp [results, Tryz.results109, go_sem, q0, q1]) rfl ((P7.out.up (by omega) C0.out sM cA.out).eqr (by rw [yJ.out]; exact (if_pos trivial).symm))
 ·obtain ⟨er, her⟩ : ∃ er, er = mN E code := ⟨_, rfl⟩
  rw [← her]; have HER : Hid (er = mN E code) := her; have V3 : er = .iface 226 (.pointer (some (E code))) := by rw [her]; unfold mN; rw [if_neg yG]
  clear her
  go_upto_region 2 with fail
  have bD := ((Below.refl w1.heap.size w1).alloc aRC (.cells #[.int .i64 o.dev, .int .i64 o.seq, .int .i64 o.stamp, .int .i64 o.kind, .string o.item, .int .i64 o.qty, .int .i64 o.level, .int .i64 o.undos] 50)); have aM := aRA (aZ.out.next bD); clear bD c0 c1 aZ lP dL eF; generalize w1.alloc (.cells #[.int .i64 o.dev, .int .i64 o.seq, .int .i64 o.stamp, .int .i64 o.kind, .string o.item, .int .i64 o.qty, .int .i64 o.level, .int .i64 o.undos] 50) = w2 at aM ⊢; generalize w1.heap.size = ob at fH ⊢; obtain ⟨r0, r1⟩ := pair_cells aM.out.res; obtain ⟨gK, gJ⟩ := aD aM.out.res; have HX := aRA (aM.out.set2 (.slice none 0 0) (.slice none 0 0)).1; have cA := aRA (aM.out.bel.trans ((aM.out.set2 (.slice none 0 0) (.slice none 0 0)).2.mono (by omega)))
  subst V3; go_wp2
  change bodyPost _ _ _ _ _ ((w2.setCell ⟨w.heap.size + 1 + 1, 0, none⟩ (.slice none 0 0)).setCell ⟨w.heap.size + 1 + 1, 1, none⟩ (.slice none 0 0))
  clear r0 r1 gK gJ; generalize (w2.setCell ⟨w.heap.size + 1 + 1, 0, none⟩ (.slice none 0 0)).setCell ⟨w.heap.size + 1 + 1, 1, none⟩ (.slice none 0 0) = wf at HX cA ⊢; obtain ⟨q0, q1⟩ := pair_cells HX.out; exact bodyPost_ret (v := .tuple #[.agg #[.slice none 0 0, .slice none 0 0], .iface 226 (.pointer (some (E code)))]) (by simp [results, Tryz.results109, go_sem, q0, q1]) rfl ((show pL E (code, [], []) w _ wf from .inl ⟨yG, by rw [← HER.out], cA.out⟩).eqr (by rw [yJ.out]; exact (if_neg yG).symm))
set_option linter.unusedVariables false
set_option linter.unusedSimpArgs false

theorem oY {w w1 : World} {x : Array Value} {z0 z1 : Value} {T : TypeId} (h : xB w w1 x #[z0, z1] T) (u v : Value) :
  ((w1.setCell ⟨w.heap.size + 1, 0, none⟩ u).setCell ⟨w.heap.size + 1, 1, none⟩ v).heap[w.heap.size + 1]? = some (.cells #[u, v] T (0, 0)) ∧ Below (w.heap.size + 1) w1 ((w1.setCell ⟨w.heap.size + 1, 0, none⟩ u).setCell ⟨w.heap.size + 1, 1, none⟩ v) :=
 ⟨cK _ _ h.snd, eM _ _ _ _ _ _⟩
theorem aDJ {w w1 : World} {x y : Array Value} {T : TypeId} (h : xB w w1 x y T) : w.heap.size + 1 < w1.heap.size := (aRB h.snd).1
theorem aAO : ∀ (l : List aA) (i : Nat), i < l.length → (aH l).set (i * 8 + 7) (.int .i64 ((l.getD i aA.zero).undos + 1)) = aH (l.set i (lY (l.getD i aA.zero)))
 | [], i, h => by simp at h
 | x :: l, 0, _ => rfl
 | x :: l, i + 1, h => by
  have ih := aAO l i (by simpa using h)
  show (cB x ++ aH l).set ((i + 1) * 8 + 7) (.int .i64 ((l.getD i aA.zero).undos + 1)) = cB x ++ aH (l.set i (lY (l.getD i aA.zero)))
  rw [← ih, show (i + 1) * 8 + 7 = (i * 8 + 7) + 8 by omega]
  rfl
theorem aHK {W : World} {base n m c : Nat} {a : Option Addr} {xs : List Value} (h : W.ownsRow base 50 8 (.slice a m c) n xs) (hn : 0 < n) : ∃ k, a = some ⟨k, 0, none⟩ ∧ base ≤ k ∧ k < W.heap.size := by
 rcases h.2 with ⟨_, e⟩ | ⟨g, cap, aX, e, hg, hc, _⟩
 ·omega
 ·injection e with e1 _ _
  exact ⟨g, e1, hg, (aRB hc).1⟩
set_option maxHeartbeats 40000000 in
theorem vZ (w : World) (B : Nat) (E : Int → Addr) (hE : eZ w B E) (g off : Nat) (ao : Option Addr) (cv no co d : Nat) (xs : List Int) (l : List aA) (s : Int) (hx : Ints w B (some ⟨g, off, none⟩) 4 xs) (h : bS w B ao no l) (hB : B ≤ w.heap.size) (bI : 4 ≤ cv) (bM : bP ao no co) (hc : aE xs l = true) (hd : d < 4) :
  Calls Tryz.prog 108 #[.agg #[.slice (some ⟨g, off, none⟩) 4 cv, .slice ao no co], .int .i64 (d : Int), .int .i64 s] w (pL E (jK xs l (d : Int) s) w) := by
 obtain ⟨I7, hxa⟩ := fJ hc
 obtain ⟨yD, hx1⟩ := hxa d hd
 clear I7
 have hM : no ≤ 160 := by rw [← h.1]; exact eU hc
 have HM : Hid (∀ i, i < no → (l.getD i aA.zero).item.size ≤ 1048576) := fun i hi' => by
  have h2 := (dZ (fA hc (i := i) (by rw [h.1]; exact hi'))).2.2.2.2.1
  have e : aC l i = l.getD i aA.zero := rfl; rw [← e]; omega
 have HU : Hid (∀ i, i < no → 0 ≤ (l.getD i aA.zero).undos ∧ (l.getD i aA.zero).undos ≤ 50) := fun i hi' => by
  have h2 := dZ (fA hc (i := i) (by rw [h.1]; exact hi'))
  have e : aC l i = l.getD i aA.zero := rfl; rw [← e]; exact ⟨h2.2.2.2.2.2.1, h2.2.2.2.2.2.2.1⟩
 have hT := xB.mk0 w #[.slice (some ⟨g, off, none⟩) 4 cv, .slice ao no co] #[.slice none 0 0, .slice none 0 0] 27
 have HV := aRA (hx.below hT.bel hB)
 have HO := aRA (h.below hT.bel hB)
 have HE := aRA (hE.below hT.bel hB)
 have HT := aRA hT
 have qO := aRA h.1
 have jA := aRA bM
 have HC := aRA hc
 have hvo : cU xs = true := (tF hc).1
 have Z0 := hE.low
 have HNO : Hid (¬ (1 ≤ s ∧ s ≤ xs.getD d 0) → jK xs l (d : Int) s = (2, [], [])) := fun hn => by
  unfold jK; rw [if_neg (aI9 hc hd hn)]
 have HYE : Hid (1 ≤ s → s ≤ xs.getD d 0 → aR xs d + (s.toNat - 1) < l.length ∧ jK xs l (d : Int) s = (if (aC l (aR xs d + (s.toNat - 1))).undos = 50 then (4, [], []) else (0, xs, fB l (aR xs d + (s.toNat - 1))))) := fun h1 h2 => by
  obtain ⟨q1, q2⟩ := aHO hc hd h1 h2; refine ⟨q1, ?_⟩
  unfold jK; rw [q2, if_pos q1]
 clear hx h hT bM hE hc hxa
 go_enter Tryz.func108, Tryz.ntmps108
 go_upto_region 1 with fail
 generalize (w.alloc (.cells #[.slice (some ⟨g, off, none⟩) 4 cv, .slice ao no co] 27)).alloc (.cells #[.slice none 0 0, .slice none 0 0] 27) = w0 at HV HO HE HT ⊢
 obtain ⟨b, iH, he, hb, D7⟩ := HV.out.2 d hd
 injection he with he
 injection he with he1 J8
 subst he1 J8
 obtain ⟨x, sL⟩ : ∃ x, x = xs.getD d 0 := ⟨_, rfl⟩
 rw [← sL] at HNO HYE D7 yD hx1
 clear sL
 have Y5 : (d : Int) < 4 := by omega
 have mF := aDJ HT.out
 obtain ⟨c0, c1⟩ := pair_cells HT.out.fst
 go_wp2_with fail
 refine (cQ s 1 x w0).mono ?_
 rintro e w1 ⟨rfl, rfl⟩
 clear D7
 by_cases hin : 1 ≤ s ∧ s ≤ x
 rotate_left
 ·have qJ : dD s 1 x = false := p7 (by omega)
  rw [qJ]; have T1 := aRA (HNO.out hin); have g2 := aKX HE.out
  go_wp2_with fail
  refine wp_region_held_drew (S := fun w' => w'.cell? ⟨2, 0, none⟩ = some (.iface 226 (.pointer (some (E 2))))) (by kernel_rfl) g2 (fun aP => ?_)
  have dG : Hid (Below w0.heap.size w0 w0.drew) := ⟨rfl, rfl, rfl, Nat.le_refl _, fun _ _ => rfl⟩
  generalize w0.drew = z0 at dG aP ⊢; have dF := aRA (HT.out.next dG.out); obtain ⟨r0, r1⟩ := pair_cells dF.out.snd; obtain ⟨gK, gJ⟩ := aD dF.out.snd; refine tj 0 ?_
  refine tj 1 ?_
  refine rk 2 rfl (fun K hK => ?_)
  go_simp
  refine hK.out _ _ ((World.cell?_of_block (a := ⟨2, 0, none⟩) (aF (w := z0) (b := w.heap.size + 1) (k := 2) (.slice none 0 0) (.slice none 0 0) (by omega))).trans aP) (fun bZ => ?_)
  clear hK K
  (try simp only [Act.put, u1, u2, u3])
  refine tj 3 ?_
  refine wpAnyH_done (by kernel_rfl) ?_ _
  have HX := aRA (oY dF.out (.slice none 0 0) (.slice none 0 0)).1; have cA := aRA (dF.out.bel.trans ((oY dF.out (.slice none 0 0) (.slice none 0 0)).2.mono (by omega)))
  go_wp2
  change bodyPost _ _ _ _ _ ((z0.setCell ⟨w.heap.size + 1, 0, none⟩ (.slice none 0 0)).setCell ⟨w.heap.size + 1, 1, none⟩ (.slice none 0 0))
  clear r0 r1 gK gJ aP bZ; generalize ((z0.setCell ⟨w.heap.size + 1, 0, none⟩ (.slice none 0 0)).setCell ⟨w.heap.size + 1, 1, none⟩ (.slice none 0 0)) = wf at HX cA ⊢; obtain ⟨q0, q1⟩ := pair_cells HX.out; exact bodyPost_ret (v := .tuple #[.agg #[.slice none 0 0, .slice none 0 0], (.iface 226 (.pointer (some (E 2))))]) (by simp [results, Tryz.results108, go_sem, q0, q1]) rfl ((show pL E (2, [], []) w _ wf from .inl ⟨by decide, by rw [S7], cA.out⟩).eqr T1.out.symm)
 have qJ : dD s 1 x = true := tC hin.1 hin.2
 obtain ⟨hpl, A1⟩ := HYE.out hin.1 hin.2
 rw [qJ]
 have Z8 := aRA A1
 clear A1 qJ
 go_wp2_with fail
 refine (yP w0 B (some ⟨g, off, none⟩) ao cv no co d xs HV.out (by omega) bI hd hvo s (by omega) (by omega)).mono ?_
 rintro e w1 ⟨rfl, aI⟩
 generalize aR xs d + (s.toNat - 1) = q at hpl Z8 ⊢
 have aZ := aRA (HT.out.next aI)
 have lP := aRA (HV.out.below aI (by omega))
 have dL := aRA (HO.out.below aI (by omega))
 have eF := aRA (HE.out.below aI (by omega))
 have fH := aI.size
 clear aI c0 c1 HT HV HO HE HNO HYE
 obtain ⟨c0, c1⟩ := pair_cells aZ.out.fst
 have hqn : q < no := by have := qO.out; omega
 have hqi : (q : Int) < (no : Int) := by omega
 obtain ⟨bo, oo, rfl, hbo, A2⟩ := dL.out.2 q hqn
 obtain ⟨_, _, _, _, _, _, _, u7⟩ := A2
 obtain ⟨X9, hu1⟩ := HU.out q hqn
 obtain ⟨u, I9⟩ : ∃ u, u = (l.getD q aA.zero).undos := ⟨_, rfl⟩
 rw [← I9] at u7 X9 hu1
 have HUE := aRA I9
 clear I9
 by_cases h50 : u = 50
 ·subst h50
  have T1 : Hid (jK xs l (d : Int) s = (4, [], [])) := by
   show _ = _
   rw [Z8.out]; exact if_pos HUE.out.symm
  have g4 := aKW eF.out
  go_wp2_with fail
  refine wp_region_held_drew (S := fun w' => w'.cell? ⟨4, 0, none⟩ = some (.iface 226 (.pointer (some (E 4))))) (by kernel_rfl) g4 (fun aP => ?_)
  have dG : Hid (Below w1.heap.size w1 w1.drew) := ⟨rfl, rfl, rfl, Nat.le_refl _, fun _ _ => rfl⟩
  generalize w1.drew = z0 at dG aP ⊢; have dF := aRA (aZ.out.next dG.out); obtain ⟨r0, r1⟩ := pair_cells dF.out.snd; obtain ⟨gK, gJ⟩ := aD dF.out.snd; refine tj 0 ?_
  refine tj 1 ?_
  refine rk 2 rfl (fun K hK => ?_)
  go_simp
  refine hK.out _ _ ((World.cell?_of_block (a := ⟨4, 0, none⟩) (aF (w := z0) (b := w.heap.size + 1) (k := 4) (.slice none 0 0) (.slice none 0 0) (by omega))).trans aP) (fun bZ => ?_)
  clear hK K
  (try simp only [Act.put, u1, u2, u3])
  refine tj 3 ?_
  refine wpAnyH_done (by kernel_rfl) ?_ _
  have HX := aRA (oY dF.out (.slice none 0 0) (.slice none 0 0)).1; have cA := aRA (dF.out.bel.trans ((oY dF.out (.slice none 0 0) (.slice none 0 0)).2.mono (by omega)))
  go_wp2
  change bodyPost _ _ _ _ _ ((z0.setCell ⟨w.heap.size + 1, 0, none⟩ (.slice none 0 0)).setCell ⟨w.heap.size + 1, 1, none⟩ (.slice none 0 0))
  clear r0 r1 gK gJ aP bZ; generalize ((z0.setCell ⟨w.heap.size + 1, 0, none⟩ (.slice none 0 0)).setCell ⟨w.heap.size + 1, 1, none⟩ (.slice none 0 0)) = wf at HX cA ⊢; obtain ⟨q0, q1⟩ := pair_cells HX.out; exact bodyPost_ret (v := .tuple #[.agg #[.slice none 0 0, .slice none 0 0], (.iface 226 (.pointer (some (E 4))))]) (by simp [results, Tryz.results108, go_sem, q0, q1]) rfl ((show pL E (4, [], []) w _ wf from .inl ⟨by decide, by rw [aID], cA.out⟩).eqr T1.out.symm)
 have aRr : (u == 50) = false := beq_eq_false_iff_ne.2 h50
 have T1 : Hid (jK xs l (d : Int) s = (0, xs, fB l q)) := by
  show _ = _
  rw [Z8.out]; exact if_neg (fun h => h50 (HUE.out.trans h))
 go_wp2_with fail
 clear u7
 refine (Q3 w1 B g off (some ⟨bo, oo, none⟩) 4 cv no co xs l lP.out dL.out (by omega) (by omega) (by omega) (by omega) jA.out.2.2  HM.out).mono ?_
 rintro e w8 ⟨va, vc, oa, oc, cE, rfl, aY, gW, nY, iM, wY, lJ⟩
 have HT8 := aRA (aZ.out.next wY)
 have hs8 := wY.size
 obtain ⟨go, rfl, aRg, aPX⟩ := aHK gW (by have := qO.out; omega)
 have HW8 := aRA aY
 have T5 := aRA lJ
 have HR8 := aRA gW
 have u5 := aDJ aZ.out
 clear wY aY lJ gW c0 c1 aZ lP dL eF
 go_upto_region 7 with fail
 have bD := ((Below.refl w8.heap.size w8).alloc aRC (.cells #[.slice va xs.length vc, .slice (some ⟨go, 0, none⟩) l.length oc] 27))
 have HT9 := aRA (HT8.out.next bD)
 have HW9 := aRA (HW8.out.below bD (by omega))
 have HR9 := aRA (vI (B := 0) HR8.out bD)
 have d8 := aRA (heap_alloc_new w8 (.cells #[.slice va xs.length vc, .slice (some ⟨go, 0, none⟩) l.length oc] 27))
 have rK := bD.size
 clear bD HT8 HW8 HR8
 generalize w8.alloc (.cells #[.slice va xs.length vc, .slice (some ⟨go, 0, none⟩) l.length oc] 27) = w9 at HT9 HW9 HR9 d8 rK ⊢
 have hx9 : w8.heap.size < w9.heap.size := (aRB d8.out).1
 generalize w8.heap.size = nb at hs8 rK hx9 d8 iM aPX ⊢
 obtain ⟨c0, c1⟩ := pair_cells d8.out
 have hql : (q : Int) < (l.length : Int) := by have := qO.out; omega
 have hqk : q < l.length := by have := qO.out; omega
 have v8 : (aH l)[q * 8 + 7]? = some (.int .i64 u) := by
  rw [HUE.out]; exact (wI l q 7 hqk (by omega)).trans rfl
 have u7 : w9.cell? ⟨go, q * 8 + 7, none⟩ = some (.int .i64 u) := (HR9.out.cellAt (q * 8 + 7) (by omega)).trans v8
 have f7 : w9.frozen? ⟨go, q * 8 + 7, none⟩ = false := HR9.out.frozenAt (q * 8 + 7)
 have hwu : IntKind.i64.wrap (u + 1) = u + 1 := IntWalk.i64_in _ (by omega)
 have gC := HR9.out.stored (q * 8 + 7) (.int .i64 (u + 1))
 have Z9 : Hid ((w9.setCell ⟨go, q * 8 + 7, none⟩ (.int .i64 (u + 1))).ownsRow cE 50 8 (.slice (some ⟨go, 0, none⟩) l.length oc) l.length (aH (fB l q))) := by
  have e : aH (fB l q) = (aH l).set (q * 8 + 7) (.int .i64 (u + 1)) := by
   rw [HUE.out]; exact (aAO l q hqk).symm
  rw [e]; exact gC.1
 have jX : Below go w9 (w9.setCell ⟨go, q * 8 + 7, none⟩ (.int .i64 (u + 1))) := iS _ _ _ _
 have qE : Hid (xB w (w9.setCell ⟨go, q * 8 + 7, none⟩ (.int .i64 (u + 1))) #[.slice (some ⟨g, off, none⟩) 4 cv, .slice (some ⟨bo, oo, none⟩) no co] #[.slice none 0 0, .slice none 0 0] 27) := ⟨(jX.block _ (by omega)).trans HT9.out.fst, (jX.block _ (by omega)).trans HT9.out.snd, HT9.out.bel.trans (jX.mono (by omega))⟩
 have HWa := aRA (HW9.out.below jX (by omega))
 have HNa : Hid ((w9.setCell ⟨go, q * 8 + 7, none⟩ (.int .i64 (u + 1))).heap[nb]? = some (.cells #[.slice va xs.length vc, .slice (some ⟨go, 0, none⟩) l.length oc] 27 (0, 0))) := (heap_setCell_other _ _ _ _ (by show nb ≠ go; omega)).trans d8.out
 have hsa : (w9.setCell ⟨go, q * 8 + 7, none⟩ (.int .i64 (u + 1))).heap.size = w9.heap.size := by simp [World.setCell]
 clear gC v8
 go_upto_region 8 with fail
 generalize w9.setCell ⟨go, q * 8 + 7, none⟩ (.int .i64 (u + 1)) = wa at Z9 qE HWa HNa hsa ⊢
 clear c0 c1 u7 f7 jX HT9 HW9 HR9 d8
 obtain ⟨c0, c1⟩ := pair_cells HNa.out
 obtain ⟨r0, r1⟩ := pair_cells qE.out.snd
 obtain ⟨gK, gJ⟩ := aD qE.out.snd
 have N8 := oY qE.out (.slice va xs.length vc) (.slice (some ⟨go, 0, none⟩) l.length oc)
 have HX := aRA N8.1
 have cA : Hid (Below w.heap.size w ((wa.setCell ⟨w.heap.size + 1, 0, none⟩ (.slice va xs.length vc)).setCell ⟨w.heap.size + 1, 1, none⟩ (.slice (some ⟨go, 0, none⟩) l.length oc))) := qE.out.bel.trans (N8.2.mono (by omega))
 have B7 : Hid (Own ((wa.setCell ⟨w.heap.size + 1, 0, none⟩ (.slice va xs.length vc)).setCell ⟨w.heap.size + 1, 1, none⟩ (.slice (some ⟨go, 0, none⟩) l.length oc)) w1.heap.size cE va xs.length xs) := HWa.out.kept (fun j h1 h2 => aF _ _ (by omega))
 have HRf := aRA (gS (zV (W' := ((wa.setCell ⟨w.heap.size + 1, 0, none⟩ (.slice va xs.length vc)).setCell ⟨w.heap.size + 1, 1, none⟩ (.slice (some ⟨go, 0, none⟩) l.length oc))) Z9.out (fun k y e hk => aF _ _ (by omega))) aRC)
 have HCf := aRA (hC Z9.out)
 have wQ : ((wa.setCell ⟨w.heap.size + 1, 0, none⟩ (.slice va xs.length vc)).setCell ⟨w.heap.size + 1, 1, none⟩ (.slice (some ⟨go, 0, none⟩) l.length oc)).heap.size = wa.heap.size := bA _ _ _ _
 clear N8
 go_wp2
 change bodyPost _ _ _ _ _ ((wa.setCell ⟨w.heap.size + 1, 0, none⟩ (.slice va xs.length vc)).setCell ⟨w.heap.size + 1, 1, none⟩ (.slice (some ⟨go, 0, none⟩) l.length oc))
 clear c0 c1 r0 r1 gK gJ qE HWa HNa Z9
 generalize ((wa.setCell ⟨w.heap.size + 1, 0, none⟩ (.slice va xs.length vc)).setCell ⟨w.heap.size + 1, 1, none⟩ (.slice (some ⟨go, 0, none⟩) l.length oc)) = wf at HX cA B7 HRf wQ ⊢
 obtain ⟨q0, q1⟩ := pair_cells HX.out
 have htl : (fB l q).length = l.length := nH l q
 refine bodyPost_ret (v := .tuple #[.agg #[.slice va xs.length vc, .slice (some ⟨go, 0, none⟩) l.length oc], .nilIface]) (by simp [results, Tryz.results108, go_sem, q0, q1]) rfl (pL.eqr (show pL E (0, xs, fB l q) w _ wf from .inr ⟨rfl, va, vc, some ⟨go, 0, none⟩, oc, cE, ?_, B7.out.more (by omega) aRC, ?_, by omega, by omega, T5.out, ?_, cA.out⟩) T1.out.symm)
 ·show _ = Ending.returned (.tuple #[.agg #[_, .slice _ (fB l q).length _], _])
  rw [htl]
 ·show bF wf cE wf.heap.size _ (fB l q).length (fB l q)
  rw [htl]; exact HRf.out
 ·show bP _ (fB l q).length oc
  rw [htl]; exact HCf.out
end Go.Proofs.YthkagbnpcjidfaaGreatDoor
