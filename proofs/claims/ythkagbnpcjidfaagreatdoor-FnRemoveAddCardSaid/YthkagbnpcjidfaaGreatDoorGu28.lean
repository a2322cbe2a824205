/- Walks and mathematics that several claims share, part 28. -/
import Derived.Test.YthkagbnpcjidfaaGreatDoorGu27
import Derived.Deep.Cut
namespace Go.Proofs.YthkagbnpcjidfaaGreatDoor
set_option maxRecDepth 100000
open Go.RowKit
set_option linter.unusedVariables false
set_option linter.unusedSimpArgs false
theorem aIN {xs : List Int} {l : List aA} {d k : Nat} {L : List ByteArray} {s : ByteArray} (hs : s = L.getD k ⟨#[]⟩) (h : bN l s = true) : gY xs l d L (k + 1) = gY xs l d L k := by
 show (gY xs l d L k).bind (eT l d (L.getD k ⟨#[]⟩)) = _
 rw [← hs]
 cases gY xs l d L k with
 | none => rfl
 | some q => show eT l d s q = _; unfold eT; rw [if_pos h]
theorem q5 {xs : List Int} {l : List aA} {d k : Nat} {L : List ByteArray} {s : ByteArray} {zs : List Int} {m : List aA} (hs : s = L.getD k ⟨#[]⟩) (h : bN l s = false) (dF : ∃ c, gY xs l d L k = some (zs, m, c)) (hok : false = (aQ zs m d (kJ l s)).ok) (hk : k < L.length) : gY xs l d L L.length = none := by
 obtain ⟨c, dF⟩ := dF
 have e : gY xs l d L (k + 1) = none := by
  show (gY xs l d L k).bind (eT l d (L.getD k ⟨#[]⟩)) = _
  rw [← hs, dF]
  show eT l d s (zs, m, c) = _
  unfold eT; rw [if_neg (by rw [h]; decide)]
  dsimp only
  rw [if_neg (by rw [← hok]; decide)]
 have := aAx e (L.length - (k + 1))
 rwa [Nat.add_sub_cancel' (by omega : k + 1 ≤ L.length)] at this
theorem aBu {xs : List Int} {l : List aA} {d k : Nat} {L : List ByteArray} {s : ByteArray} {zs iC : List Int} {m m' : List aA} (hs : s = L.getD k ⟨#[]⟩) (h : bN l s = false) (dF : ∃ c, gY xs l d L k = some (zs, m, c)) (hok : true = (aQ zs m d (kJ l s)).ok) (hz : iC = eE zs d) (hm : m' = cI m d (aQ zs m d (kJ l s))) : gY xs l d L (k + 1) = some (iC, m', 0) := by
 obtain ⟨c, dF⟩ := dF
 show (gY xs l d L k).bind (eT l d (L.getD k ⟨#[]⟩)) = _
 rw [← hs, dF]
 show eT l d s (zs, m, c) = _
 unfold eT
 rw [if_neg (by rw [h]; decide)]
 dsimp only
 rw [if_pos hok.symm, ← hz, ← hm]
structure wM (w w1 wr : World) (nb : Nat) (code : Value) (k : Nat) (st : Option (List Int × List aA × Int)) : Prop where
 bel : Below w.heap.size w wr
 size : w1.heap.size ≤ wr.heap.size
 kept : ∀ j, j < w1.heap.size → j ≠ nb → wr.heap[j]? = w1.heap[j]?
 now : ∃ zs m va vc oa oc, wr.heap[nb]? = some (.cells #[.slice va 4 vc, .slice oa m.length oc] 27 (0, 0)) ∧ Ints wr wr.heap.size va 4 zs ∧ bP wr wr.heap.size oa m.length m ∧ bM va 4 vc ∧ bM oa m.length oc ∧ sE zs m (160 + k) ∧ ((code = .int .i64 2 ∧ st = some (zs, m, 2)) ∨ (code = .int .i64 0 ∧ st = some (zs, m, 0) ∧ Own wr (nb + 1) wr.heap.size va 4 zs ∧ bB wr (nb + 1) wr.heap.size oa m.length m))
theorem wM.step {w w1 wr w2 : World} {nb : Nat} {code : Value} {k : Nat} {st : Option (List Int × List aA × Int)} (h : wM w w1 wr nb code k st) (hw : nb < w1.heap.size) (hb : Below wr.heap.size wr w2) : wM w w1 w2 nb code k st := by
 have hs := h.size
 have eC := hb.size
 have gO := h.bel.size
 obtain ⟨zs, m, va, vc, oa, oc, e, hi, ho, c1, c2, hB, hc⟩ := h.now
 refine ⟨h.bel.trans (hb.mono gO), by omega, fun j h1 h2 => (hb.block j (by omega)).trans (h.kept j h1 h2), zs, m, va, vc, oa, oc, (hb.block _ (by omega)).trans e, (hi.below hb aPq).more eC, (ho.below hb aPq).more eC, c1, c2, hB, ?_⟩
 rcases hc with hc | ⟨hc, dF, h1, h2⟩
 ·exact .inl hc
 ·exact .inr ⟨hc, dF, (h1.below hb aPq).more aPq eC, (h2.below hb aPq).more aPq eC⟩
theorem wM.more {w w1 wr : World} {nb : Nat} {code : Value} {k k' : Nat} {st st' : Option (List Int × List aA × Int)} (h : wM w w1 wr nb code k st) (hk : k ≤ k') (hs : st' = st) : wM w w1 wr nb code k' st' := by
 subst hs
 obtain ⟨zs, m, va, vc, oa, oc, e, hi, ho, c1, c2, hB, hc⟩ := h.now
 exact ⟨h.bel, h.size, h.kept, zs, m, va, vc, oa, oc, e, hi, ho, c1, c2, hB.more (by omega), hc⟩
theorem wM.put {w w1 wr : World} {nb : Nat} {code : Value} {k k' : Nat} {st st' : Option (List Int × List aA × Int)} (h : wM w w1 wr nb code k st) (hw : w.heap.size ≤ nb) {zs : List Int} {m : List aA} {va oa : Option Addr} {vc oc lo hi : Nat} (h1 : Own wr lo hi va 4 zs) (h2 : bB wr lo hi oa m.length m) (iE : nb + 1 ≤ lo) (hhi : hi ≤ wr.heap.size) (c1 : bM va 4 vc) (c2 : bM oa m.length oc) (hB : sE zs m (160 + k')) (dF : st' = some (zs, m, 0)) :
  wM w w1 ((wr.setCell ⟨nb, 0, none⟩ (.slice va 4 vc)).setCell ⟨nb, 1, none⟩ (.slice oa m.length oc)) nb (.int .i64 0) k' st' := by
 have hs := h.size
 obtain ⟨iC, m', va', zW, yF, A0, e, _⟩ := h.now
 have hz := aY wr nb (.slice va 4 vc) (.slice oa m.length oc)
 have g1 : Own ((wr.setCell ⟨nb, 0, none⟩ (.slice va 4 vc)).setCell ⟨nb, 1, none⟩ (.slice oa m.length oc)) lo hi va 4 zs := h1.kept fun j a1 a2 => aD _ _ (by omega)
 have g2 : bB ((wr.setCell ⟨nb, 0, none⟩ (.slice va 4 vc)).setCell ⟨nb, 1, none⟩ (.slice oa m.length oc)) lo hi oa m.length m := h2.kept fun j a1 a2 => aD _ _ (by omega)
 refine ⟨(h.bel.setCell (p := ⟨nb, 0, none⟩) hw _).setCell (p := ⟨nb, 1, none⟩) hw _, by rw [hz]; exact hs, fun j a1 a2 => (aD _ _ a2).trans (h.kept j a1 a2), zs, m, va, vc, oa, oc, cE _ _ e, ?_, ?_, c1, c2, hB, .inr ⟨rfl, dF, ?_, ?_⟩⟩
 ·rw [hz]; exact g1.ints.more hhi
 ·rw [hz]; exact g2.ops.more hhi
 ·rw [hz]; exact g1.more iE hhi
 ·rw [hz]; exact g2.more iE hhi
theorem aGJ (zs : List Int) (m : List aA) (d N : Nat) (hN : N ≤ 99999) (o : aA) (hB : sE zs m N) (hd : d < 4) (hi : o.item.size ≤ 1048576) :
  ∃ (ok : Bool) (iC : List Int) (m' : List aA), ok = (aQ zs m d o).ok ∧ (ok = true → sE iC m' (N + 1) ∧ iC = eE zs d ∧ m' = cI m d (aQ zs m d o)) ∧ ∀ (w : World) (B : Nat) (av ao : Option Addr) (cv co : Nat), Ints w B av 4 zs → bP w B ao m.length m → B ≤ w.heap.size → bM av 4 cv → bM ao m.length co →
   Calls Tryz.prog 90 #[.agg #[.slice av 4 cv, .slice ao m.length co], .int .i64 (d : Int), .agg #[.int .i64 o.dev, .int .i64 o.seq, .int .i64 o.stamp, .int .i64 o.kind, .string o.item, .int .i64 o.qty, .int .i64 o.level, .int .i64 o.undos]] w (aI2 ok iC m' w) := by
 have hm := hB.most
 cases hok : (aQ zs m d o).ok
 ·exact ⟨false, [], [], rfl, (fun h => by cases h), fun w B av ao cv co h1 h2 h3 h4 h5 => aKk w B av ao cv m.length co d zs m o h1 h2 h3 h4.2.2 h5 hd (by omega) (hB.num d hd) hB.stamp hi hok⟩
 ·exact ⟨true, _, _, rfl, fun _ => ⟨hB.put hd hok, rfl, rfl⟩, fun w B av ao cv co h1 h2 h3 h4 h5 => aH0 w B av ao cv m.length co d zs m o h1 h2 h3 h4.2.2 h5 hd (by omega) (hB.num d hd) hB.stamp hi hok⟩
set_option maxHeartbeats 40000000 in
theorem aGK (w : World) (B : Nat) (av ao : Option Addr) (cv no co d : Nat) (xs : List Int) (l : List aA) (hx : Ints w B av 4 xs) (h : bP w B ao no l) (hB : B ≤ w.heap.size) (bW : bM av 4 cv) (cB : bM ao no co) (hd : d < 4) (hc : aE xs l = true) (R : Int × List Int × List aA) (hR : qK xs l d = R) :
  Calls Tryz.prog 85 #[.agg #[.slice av 4 cv, .slice ao no co], .int .i64 (d : Int)] w (aFE R w) := by
 obtain rfl := h.1
 have hT := tV.mk0 w #[.slice av 4 cv, .slice ao l.length co] #[.slice none 0 0, .slice none 0 0] 27
 have c8 : ((w.alloc (.cells #[.slice av 4 cv, .slice ao l.length co] 27)).alloc (.cells #[.slice none 0 0, .slice none 0 0] 27)).heap.size = w.heap.size + 2 := by simp
 have HV := aPo (hx.below hT.bel hB)
 have HO := aPo (h.below hT.bel hB)
 have HT := aPo hT
 have HTs := aPo c8
 have tZ := aPo h
 have HC := aPo hc
 have nM := aPo bW
 have oM := aPo cB
 have HBn := aPo (sE.of_cart hc)
 have hl := eF hc
 clear hx h hT c8 hc bW cB
 go_enter Tryz.func85, Tryz.ntmps85
 go_upto_region 1 with fail
 generalize (w.alloc (.cells #[.slice av 4 cv, .slice ao l.length co] 27)).alloc (.cells #[.slice none 0 0, .slice none 0 0] 27) = w0 at HV HO HT HTs ⊢
 have jW := HT.out.bel.size
 obtain ⟨q0, q1⟩ := pair_cells HT.out.fst
 go_upto_region 3 with fail
 have aG : Below w0.heap.size w0 (w0.alloc (.cells #[.slice av 4 cv, .slice ao l.length co] 27)) := (Below.refl _ w0).alloc aPq _
 have C6 : Hid ((w0.alloc (.cells #[.slice av 4 cv, .slice ao l.length co] 27)).heap[w0.heap.size]? = some (.cells #[.slice av 4 cv, .slice ao l.length co] 27 (0, 0))) := bX (Below.refl _ _)
 generalize w0.alloc (.cells #[.slice av 4 cv, .slice ao l.length co] 27) = w1 at aG C6 ⊢
 have bC := aPo (HT.out.next aG)
 have dD := aPo (HO.out.below aG (by omega))
 have jR := aPo (HV.out.below aG (by omega))
 have uM := bF C6.out
 clear q0 q1 HT HO HV aG
 generalize hnb : w0.heap.size = nb at C6 uM ⊢
 have aOQ : w.heap.size + 1 < nb := by have := HTs.out; omega
 clear hnb HTs
 obtain ⟨q0, q1⟩ := pair_cells bC.out.fst
 go_wp2_with fail
 refine (aH6 w1 B av ao 4 cv l.length co xs l dD.out (by omega) (by omega) HC.out).mono ?_
 rintro e w2 ⟨g, c, rfl, hso, aM⟩
 have hLi : ∀ s, s ∈ bU l l.length → ∃ i, i < l.length ∧ s = (aC l i).item := fun s hs => by
  obtain ⟨_, i, hi, e⟩ := (mP l s l.length).1 hs; exact ⟨i, hi, e.symm⟩
 have hLl : (bU l l.length).length ≤ l.length := vB l l.length
 have aIG := hso.strs
 have oV : Hid (match gY xs l d (bU l l.length) (bU l l.length).length with | none => R = (4, [], []) | some q => R = if q.2.2 = 0 then (0, q.1, q.2.1) else (2, [], [])) := by
  rw [← hR]
  show match gY xs l d (bU l l.length) (bU l l.length).length with | none => _ | some q => _
  unfold qK; cases gY xs l d (bU l l.length) (bU l l.length).length <;> rfl
 clear hso hR
 generalize bU l l.length = L at hLi hLl aIG oV ⊢
 have HI8 : Hid (∀ i, i < L.length → (L.getD i ⟨#[]⟩).size ≤ 8) := fun i hi => by
  rw [List.getD_eq_getElem?_getD, List.getElem?_eq_getElem hi]; obtain ⟨j, hj, e⟩ := hLi _ (List.getElem_mem hi)
  show (L[i]).size ≤ 8
  rw [e]; exact (dK (eU HC.out hj)).2.2.2.2.1
 have zK := aPo aIG
 have aK := aPo (bC.out.next aM)
 have lN := aPo ((aM.block _ uM).trans C6.out)
 have eC := aM.size
 have aOe := aPo (dD.out.below aM (by omega))
 have HI0 : Hid (wM w w2 w2 nb (.int .i64 2) 0 (gY xs l d L 0)) := ⟨aK.out.bel, Nat.le_refl _, fun _ _ _ => rfl, xs, l, av, cv, ao, co, lN.out, (jR.out.below aM (by omega)).more (by omega), aOe.out.more (by omega), nM.out, oM.out, HBn.out, .inl ⟨rfl, rfl⟩⟩
 clear aIG hLi aM bC dD jR C6 q0 q1
 go_wp2
 go_loopw [7, 9] (fun cc i wr => ∃ (k : Nat) (cx : Value), k ≤ L.length ∧ cx = cc ∧ i = .int .i64 (k : Int) ∧ Hid (wM w w2 wr nb cx k (gY xs l d L k))) (fun _ i _ => L.length - (intOf i).toNat)
 case atStart => exact ⟨0, _, Nat.zero_le _, rfl, rfl, HI0.out⟩
 case round =>
  obtain ⟨k, cd, hk, tS, rfl, HI⟩ := hrel; subst tS; clear HI0; have hsr := HI.out.size; have HX := aPo ((HI.out.kept w.heap.size (by omega) (by omega)).trans aK.out.fst)
  have HR := aPo ((HI.out.kept (w.heap.size + 1) (by omega) (by omega)).trans aK.out.snd)
  by_cases aJ : k < L.length
  rotate_left
  ·obtain rfl : k = L.length := by omega
   obtain ⟨zs, m, va, vc, oa, oc, e, hi, ho, c1, c2, hBn, cO⟩ := HI.out.now; have fQ := oV.out; obtain ⟨n0, n1⟩ := pair_cells e; rcases cO with ⟨rfl, dF⟩ | ⟨rfl, dF, g1, g2⟩
   ·rw [dF] at fQ
    have hRe : R = (2, [], []) := fQ; subst hRe; clear oV fQ; obtain ⟨r0, r1⟩ := pair_cells HR.out; obtain ⟨f0, f1⟩ := aB HR.out; have bR := aPo (cE (.slice va 4 vc) (.slice oa m.length oc) HR.out); have eN : Hid (Below w.heap.size w ((wr.setCell ⟨w.heap.size + 1, 0, none⟩ (.slice va 4 vc)).setCell ⟨w.heap.size + 1, 1, none⟩ (.slice oa m.length oc))) := HI.out.bel.trans ((dY wr (w.heap.size + 1) 0 1 _ _).mono (by omega))
    go_wp2
    generalize (wr.setCell ⟨w.heap.size + 1, 0, none⟩ (.slice va 4 vc)).setCell ⟨w.heap.size + 1, 1, none⟩ (.slice oa m.length oc) = wf at bR eN ⊢; obtain ⟨p0, p1⟩ := pair_cells bR.out; exact bodyPost_ret (v := .tuple #[.agg #[.slice va 4 vc, .slice oa m.length oc], .int .i64 2]) (by simp [results, Tryz.results85, go_sem, p0, p1]) rfl ⟨va, 4, vc, oa, m.length, oc, rfl, eN.out, fun h => absurd h (by decide)⟩
   ·rw [dF] at fQ
    have hRe : R = (0, zs, m) := fQ; subst hRe; clear oV fQ; obtain ⟨r0, r1⟩ := pair_cells HR.out; obtain ⟨f0, f1⟩ := aB HR.out; have bR := aPo (cE (.slice va 4 vc) (.slice oa m.length oc) HR.out); have eN : Hid (Below w.heap.size w ((wr.setCell ⟨w.heap.size + 1, 0, none⟩ (.slice va 4 vc)).setCell ⟨w.heap.size + 1, 1, none⟩ (.slice oa m.length oc))) := HI.out.bel.trans ((dY wr (w.heap.size + 1) 0 1 _ _).mono (by omega))
    have hz6 := aPo (aY wr (w.heap.size + 1) (.slice va 4 vc) (.slice oa m.length oc)); have HC6 : Hid (4 = zs.length ∧ Own ((wr.setCell ⟨w.heap.size + 1, 0, none⟩ (.slice va 4 vc)).setCell ⟨w.heap.size + 1, 1, none⟩ (.slice oa m.length oc)) w.heap.size ((wr.setCell ⟨w.heap.size + 1, 0, none⟩ (.slice va 4 vc)).setCell ⟨w.heap.size + 1, 1, none⟩ (.slice oa m.length oc)).heap.size va 4 zs ∧ bB ((wr.setCell ⟨w.heap.size + 1, 0, none⟩ (.slice va 4 vc)).setCell ⟨w.heap.size + 1, 1, none⟩ (.slice oa m.length oc)) w.heap.size ((wr.setCell ⟨w.heap.size + 1, 0, none⟩ (.slice va 4 vc)).setCell ⟨w.heap.size + 1, 1, none⟩ (.slice oa m.length oc)).heap.size oa m.length m ∧ bM va 4 vc ∧ bM oa m.length oc) := ⟨g1.1.symm, (g1.kept fun j a1 a2 => aD _ _ (by omega)).more (by omega) (by rw [hz6.out]; exact Nat.le_refl _), (g2.kept fun j a1 a2 => aD _ _ (by omega)).more (by omega) (by rw [hz6.out]; exact Nat.le_refl _), c1, c2⟩
    go_wp2
    generalize (wr.setCell ⟨w.heap.size + 1, 0, none⟩ (.slice va 4 vc)).setCell ⟨w.heap.size + 1, 1, none⟩ (.slice oa m.length oc) = wf at bR eN HC6 ⊢; obtain ⟨p0, p1⟩ := pair_cells bR.out; exact bodyPost_ret (v := .tuple #[.agg #[.slice va 4 vc, .slice oa m.length oc], .int .i64 0]) (by simp [results, Tryz.results85, go_sem, p0, p1]) rfl ⟨va, 4, vc, oa, m.length, oc, rfl, eN.out, fun _ => ⟨HC6.out.1, rfl, HC6.out.2⟩⟩
  obtain ⟨b', sM, e, tU, nI⟩ := zK.out.2 k aJ; injection e with e; injection e with e1 e2; subst e1 e2; rw [Nat.zero_add] at nI; have hi8 := HI8.out k aJ; obtain ⟨s, hs⟩ : ∃ s, s = L.getD k ⟨#[]⟩ := ⟨_, rfl⟩; rw [← hs] at nI hi8; have lL := aPo hs; clear hs; have hgn : g ≠ nb := by
   intro e
   rw [e, aPr lN.out] at nI; have hk2 : k < 2 := (aPp nI).1; rcases (by omega : k = 0 ∨ k = 1) with rfl | rfl
   ·simp at nI
   ·simp at nI
  have fM : Hid (∀ z, wM w w2 z nb cd k (gY xs l d L k) → z.cell? ⟨g, k, none⟩ = some (.string s)) := fun z hz => (World.cell?_of_block (a := ⟨g, k, none⟩) (hz.kept g tU hgn)).trans nI
  have hki : (k : Int) < (L.length : Int) := by omega
  have hk0 : decide ((k : Int) < 0) = false := decide_eq_false (by omega)
  have aO2 : ¬ ((k : Int) < 0) := by omega
  obtain ⟨u, yL⟩ : ∃ u, aI s l l.length = u := ⟨_, rfl⟩; have M9 := rT s l l.length; have hu1 := xL HC.out s l.length aPq; rw [yL] at M9 hu1; have hwu : IntKind.i64.wrap (u + 1) = u + 1 := IntWalk.i64_in _ (by omega)
  have HU := aPo yL; clear nI yL; have hS : wr.drew.cell? ⟨w.heap.size, 0, none⟩ = some (.slice av 4 cv) ∧ wr.drew.cell? ⟨w.heap.size, 1, none⟩ = some (.slice ao l.length co) ∧ wr.drew.cell? ⟨g, k, none⟩ = some (.string s) := ⟨(pair_cells HX.out).1, (pair_cells HX.out).2, fM.out wr HI.out⟩
  go_wp2_with fail
  refine wp_region_held_drew (S := fun w' => w'.cell? ⟨w.heap.size, 0, none⟩ = some (.slice av 4 cv) ∧ w'.cell? ⟨w.heap.size, 1, none⟩ = some (.slice ao l.length co) ∧ w'.cell? ⟨g, k, none⟩ = some (.string s)) (by kernel_rfl) hS (fun aL => ?_)
  refine tj 0 ?_
  refine tj 1 ?_
  refine tj 2 ?_
  refine tj 3 ?_
  refine tj 4 ?_
  refine rk 5 rfl (fun K hK => ?_)
  go_simp
  go_at_call 116
  refine (aED wr.drew B av ao 4 cv l.length co xs l s ((tZ.out.below HI.out.bel hB).kept (w' := wr.drew) fun _ _ => rfl) (by show B ≤ wr.heap.size; omega) (by omega) HC.out).mono ?_
  rintro e z1 ⟨rfl, gQ⟩; have jV : Below wr.heap.size wr z1 := Below.mk gQ.os gQ.tape gQ.output gQ.size gQ.block; have dZ := aPo (HI.out.step (by omega) jV)
  have aOI := dZ.out.size; have vU := aPo ((dZ.out.kept w.heap.size (by omega) (by omega)).trans aK.out.fst)
  have fQ := aPo ((dZ.out.kept (w.heap.size + 1) (by omega) (by omega)).trans aK.out.snd)
  have bG : z1.cell? ⟨w.heap.size, 0, none⟩ = some (.slice av 4 cv) ∧ z1.cell? ⟨w.heap.size, 1, none⟩ = some (.slice ao l.length co) ∧ z1.cell? ⟨g, k, none⟩ = some (.string s) := ⟨(pair_cells vU.out).1, (pair_cells vU.out).2, fM.out z1 dZ.out⟩; have V2 : Hid (bN l s = decide ((bE gT s l l.length).kind = 4)) := rfl; generalize decide ((bE gT s l l.length).kind = 4) = sv at V2 ⊢; clear jV gQ HX HR hS; refine hK.out _ _ bG (fun bS => ?_)
  clear hK K
  (try simp only [Act.put, u1, u2, u3])
  refine wpAnyH_done (by kernel_rfl) ?_ _
  clear aL bS HI; cases sv
  rotate_left
  ·go_wp2
   go_roundw
   case rel => exact ⟨k + 1, _, by omega, rfl, by go_num, dZ.out.more (by omega) (aIN lL.out V2.out)⟩
   case measure => simp [intOf]; omega
  obtain ⟨zs, m, va, vc, oa, oc, he, hi, ho, c1, c2, hBn, cO⟩ := dZ.out.now; have HE := aPo he; have HVi := aPo hi; have HOi := aPo ho; have D1 := aPo c1; have HC2 := aPo c2; have HBd := aPo hBn; obtain ⟨okk, iC, m', aC4, wF⟩ := aGJ zs m d (160 + k) (by omega) ⟨0, 0, 0, 3, s, 0, u + 1, 0⟩ HBd.out hd (by show s.size ≤ 1048576; omega)
  have cM : Hid (∃ c, gY xs l d L k = some (zs, m, c)) := by
   rcases cO with ⟨_, h⟩ | ⟨_, h, _⟩
   ·exact ⟨_, h⟩
   ·exact ⟨_, h⟩
  have wU : Hid (okk = (aQ zs m d (kJ l s)).ok) := by
   unfold kJ; rw [HU.out]; exact aC4
  have aJq : (okk = true → sE iC m' (160 + k + 1) ∧ iC = eE zs d ∧ m' = cI m d (aQ zs m d (kJ l s))) := by
   unfold kJ; rw [HU.out]; exact wF.1
  replace wF := And.intro aJq wF.2
  clear aJq aC4
  dsimp only at wF
  have rO := aPo wF; clear he hi ho c1 c2 hBn cO wF bG
  go_upto_region 8 with fail
  obtain ⟨y0, sU⟩ : ∃ y0, z1.drew = y0 := ⟨_, rfl⟩; have iT : Below z1.heap.size z1 y0 := by rw [← sU]; exact ⟨rfl, rfl, rfl, Nat.le_refl _, fun _ _ => rfl⟩
  have Sy0 : y0.cell? ⟨w.heap.size, 0, none⟩ = some (.slice av 4 cv) ∧ y0.cell? ⟨w.heap.size, 1, none⟩ = some (.slice ao l.length co) ∧ y0.cell? ⟨g, k, none⟩ = some (.string s) ∧ y0.cell? ⟨nb, 0, none⟩ = some (.slice va 4 vc) ∧ y0.cell? ⟨nb, 1, none⟩ = some (.slice oa m.length oc) := by
   have dG := dZ.out.step (by omega) iT
   exact ⟨(pair_cells ((dG.kept w.heap.size (by omega) (by omega)).trans aK.out.fst)).1, (pair_cells ((dG.kept w.heap.size (by omega) (by omega)).trans aK.out.fst)).2, fM.out _ dG, (iT.cell (block_lt_of_cell (pair_cells HE.out).1)).trans (pair_cells HE.out).1, (iT.cell (block_lt_of_cell (pair_cells HE.out).2)).trans (pair_cells HE.out).2⟩
  refine wp_region_held_drew (S := fun w' => w'.cell? ⟨w.heap.size, 0, none⟩ = some (.slice av 4 cv) ∧ w'.cell? ⟨w.heap.size, 1, none⟩ = some (.slice ao l.length co) ∧ w'.cell? ⟨g, k, none⟩ = some (.string s) ∧ w'.cell? ⟨nb, 0, none⟩ = some (.slice va 4 vc) ∧ w'.cell? ⟨nb, 1, none⟩ = some (.slice oa m.length oc)) (by kernel_rfl) (by rw [sU]; exact Sy0) (fun aL => ?_)
  rw [sU]; clear aL sU; refine tj 0 ?_
  refine tj 1 ?_
  refine tj 2 ?_
  refine tj 3 ?_
  refine tj 4 ?_
  refine tj 5 ?_
  refine tj 6 ?_
  refine tj 7 ?_
  refine tj 8 ?_
  refine tj 9 ?_
  refine tj 10 ?_
  refine wpAnyH_ready (rs := [11, 18]) (by kernel_rfl) (by simp) ?_
  refine (AllReadyH.cons rfl (fun K hK => ?_) (AllReadyH.cons rfl (fun K hK => ?_) AllReadyH.nil))
  ·skip
   go_simp
   go_at_call 117
   refine (E9 y0 B av ao 4 cv l.length co xs l s (tZ.out.below (dZ.out.bel.trans (iT.mono (by omega))) hB) (by have := iT.size; omega) (by omega) HC.out).mono ?_
   rw [HU.out]; rintro e y1 ⟨rfl, eM⟩; have qC : Below z1.heap.size z1 y1 := iT.trans (eM.mono iT.size); have Sy1 : y1.cell? ⟨w.heap.size, 0, none⟩ = some (.slice av 4 cv) ∧ y1.cell? ⟨w.heap.size, 1, none⟩ = some (.slice ao l.length co) ∧ y1.cell? ⟨g, k, none⟩ = some (.string s) ∧ y1.cell? ⟨nb, 0, none⟩ = some (.slice va 4 vc) ∧ y1.cell? ⟨nb, 1, none⟩ = some (.slice oa m.length oc) := by
    have dG := dZ.out.step (by omega) qC
    exact ⟨(pair_cells ((dG.kept w.heap.size (by omega) (by omega)).trans aK.out.fst)).1, (pair_cells ((dG.kept w.heap.size (by omega) (by omega)).trans aK.out.fst)).2, fM.out _ dG, (qC.cell (block_lt_of_cell (pair_cells HE.out).1)).trans (pair_cells HE.out).1, (qC.cell (block_lt_of_cell (pair_cells HE.out).2)).trans (pair_cells HE.out).2⟩
   refine hK.out _ _ Sy1 (fun pR => ?_)
   clear hK K pR eM
   (try simp only [Act.put, u1, u2, u3])
   refine tj 12 ?_
   refine tj 13 ?_
   refine wpAnyH_ready (rs := [14, 18]) (by kernel_rfl) (by simp) ?_
   refine (AllReadyH.cons rfl (fun K hK => ?_) (AllReadyH.cons rfl (fun K hK => ?_) AllReadyH.nil))
   ·skip
    go_simp
    go_at_call 90
    refine (rO.out.2 y1 y1.heap.size va oa vc oc ((HVi.out.below qC aPq).more qC.size) ((HOi.out.below qC aPq).more qC.size) aPq D1.out HC2.out).mono ?_
    rintro e y2 ⟨pF, pE, pH, pG, rfl, gW, eA, eM, d1, d2⟩; have sS : Below z1.heap.size z1 y2 := qC.trans (eM.mono qC.size); have Sy2 : y2.cell? ⟨w.heap.size, 0, none⟩ = some (.slice av 4 cv) ∧ y2.cell? ⟨w.heap.size, 1, none⟩ = some (.slice ao l.length co) ∧ y2.cell? ⟨g, k, none⟩ = some (.string s) ∧ y2.cell? ⟨nb, 0, none⟩ = some (.slice va 4 vc) ∧ y2.cell? ⟨nb, 1, none⟩ = some (.slice oa m.length oc) := by
     have dG := dZ.out.step (by omega) sS
     exact ⟨(pair_cells ((dG.kept w.heap.size (by omega) (by omega)).trans aK.out.fst)).1, (pair_cells ((dG.kept w.heap.size (by omega) (by omega)).trans aK.out.fst)).2, fM.out _ dG, (sS.cell (block_lt_of_cell (pair_cells HE.out).1)).trans (pair_cells HE.out).1, (sS.cell (block_lt_of_cell (pair_cells HE.out).2)).trans (pair_cells HE.out).2⟩
    have aNp := aPo gW; have aNH := aPo eA; have pV := aPo d1; have zS := aPo d2; have hpz := eM.size; refine hK.out _ _ Sy2 (fun jK => ?_)
    clear hK K jK eM gW eA d1 d2
    (try simp only [Act.put, u1, u2, u3])
    refine tj 15 ?_
    refine tj 16 ?_
    refine tj 17 ?_
    refine wpAnyH_ready (rs := [18]) (by kernel_rfl) (by simp) ?_
    refine (AllReadyH.cons rfl (fun K hK => ?_) AllReadyH.nil)
    have dR : Below y2.heap.size y2 (y2.alloc (.cells #[.slice none 0 0, .slice none 0 0] 27)) := bl; have iU := bX (Below.refl _ (y2.alloc (.cells #[.slice none 0 0, .slice none 0 0] 27))); have mV : y2.heap.size < (y2.alloc (.cells #[.slice none 0 0, .slice none 0 0] 27)).heap.size := by show _ < (y2.heap.push _).size; simp
    have A6 : Below z1.heap.size z1 (y2.alloc (.cells #[.slice none 0 0, .slice none 0 0] 27)) := sS.trans (dR.mono sS.size); have SA : (y2.alloc (.cells #[.slice none 0 0, .slice none 0 0] 27)).cell? ⟨w.heap.size, 0, none⟩ = some (.slice av 4 cv) ∧ (y2.alloc (.cells #[.slice none 0 0, .slice none 0 0] 27)).cell? ⟨w.heap.size, 1, none⟩ = some (.slice ao l.length co) ∧ (y2.alloc (.cells #[.slice none 0 0, .slice none 0 0] 27)).cell? ⟨g, k, none⟩ = some (.string s) ∧ (y2.alloc (.cells #[.slice none 0 0, .slice none 0 0] 27)).cell? ⟨nb, 0, none⟩ = some (.slice va 4 vc) ∧ (y2.alloc (.cells #[.slice none 0 0, .slice none 0 0] 27)).cell? ⟨nb, 1, none⟩ = some (.slice oa m.length oc) := by
     have dG := dZ.out.step (by omega) A6
     exact ⟨(pair_cells ((dG.kept w.heap.size (by omega) (by omega)).trans aK.out.fst)).1, (pair_cells ((dG.kept w.heap.size (by omega) (by omega)).trans aK.out.fst)).2, fM.out _ dG, (A6.cell (block_lt_of_cell (pair_cells HE.out).1)).trans (pair_cells HE.out).1, (A6.cell (block_lt_of_cell (pair_cells HE.out).2)).trans (pair_cells HE.out).2⟩
    go_simp
    refine hK.out _ _ SA (fun jM => ?_)
    clear hK K jM
    (try simp only [Act.put, u1, u2, u3])
    generalize iD : y2.alloc (.cells #[.slice none 0 0, .slice none 0 0] 27) = y3 at dR iU mV ⊢; clear iD SA A6; have hy3 : Below z1.heap.size z1 y3 := sS.trans (dR.mono sS.size); have Sy3 : y3.cell? ⟨w.heap.size, 0, none⟩ = some (.slice av 4 cv) ∧ y3.cell? ⟨w.heap.size, 1, none⟩ = some (.slice ao l.length co) ∧ y3.cell? ⟨g, k, none⟩ = some (.string s) ∧ y3.cell? ⟨nb, 0, none⟩ = some (.slice va 4 vc) ∧ y3.cell? ⟨nb, 1, none⟩ = some (.slice oa m.length oc) := by
     have dG := dZ.out.step (by omega) hy3
     exact ⟨(pair_cells ((dG.kept w.heap.size (by omega) (by omega)).trans aK.out.fst)).1, (pair_cells ((dG.kept w.heap.size (by omega) (by omega)).trans aK.out.fst)).2, fM.out _ dG, (hy3.cell (block_lt_of_cell (pair_cells HE.out).1)).trans (pair_cells HE.out).1, (hy3.cell (block_lt_of_cell (pair_cells HE.out).2)).trans (pair_cells HE.out).2⟩
    have aNo := aPo (aNp.out.below dR (by omega))
    have aNG := aPo (aNH.out.below dR (by omega))
    have m9 := aPo iU; have aOY := mV; clear iU mV dR; have yN := sS.size; have hq2 := qC.size; obtain ⟨mG, V1, sB, iD, lW⟩ := p8 (.slice pF iC.length pE) (.slice pH m'.length pG) hy3 m9.out yN (by first | exact .inr aPq | (left; omega) | (right; omega)) aNo.out aNG.out
    obtain ⟨d0, d1⟩ := pair_cells m9.out; obtain ⟨f0, f1⟩ := aB m9.out; have SW : ((y3.setCell ⟨y2.heap.size, 0, none⟩ (.slice pF iC.length pE)).setCell ⟨y2.heap.size, 1, none⟩ (.slice pH m'.length pG)).cell? ⟨w.heap.size, 0, none⟩ = some (.slice av 4 cv) ∧ ((y3.setCell ⟨y2.heap.size, 0, none⟩ (.slice pF iC.length pE)).setCell ⟨y2.heap.size, 1, none⟩ (.slice pH m'.length pG)).cell? ⟨w.heap.size, 1, none⟩ = some (.slice ao l.length co) ∧ ((y3.setCell ⟨y2.heap.size, 0, none⟩ (.slice pF iC.length pE)).setCell ⟨y2.heap.size, 1, none⟩ (.slice pH m'.length pG)).cell? ⟨g, k, none⟩ = some (.string s) ∧ ((y3.setCell ⟨y2.heap.size, 0, none⟩ (.slice pF iC.length pE)).setCell ⟨y2.heap.size, 1, none⟩ (.slice pH m'.length pG)).cell? ⟨nb, 0, none⟩ = some (.slice va 4 vc) ∧ ((y3.setCell ⟨y2.heap.size, 0, none⟩ (.slice pF iC.length pE)).setCell ⟨y2.heap.size, 1, none⟩ (.slice pH m'.length pG)).cell? ⟨nb, 1, none⟩ = some (.slice oa m.length oc) := by
     have dG := dZ.out.step (by omega) iD
     exact ⟨(pair_cells ((dG.kept w.heap.size (by omega) (by omega)).trans aK.out.fst)).1, (pair_cells ((dG.kept w.heap.size (by omega) (by omega)).trans aK.out.fst)).2, fM.out _ dG, (iD.cell (block_lt_of_cell (pair_cells HE.out).1)).trans (pair_cells HE.out).1, (iD.cell (block_lt_of_cell (pair_cells HE.out).2)).trans (pair_cells HE.out).2⟩
    refine rk 19 rfl (fun K hK => ?_)
    go_simp
    refine hK.out _ _ SW (fun jL => ?_)
    clear hK K jL d0 d1 f0 f1 SW
    (try simp only [Act.put, u1, u2, u3])
    generalize (y3.setCell ⟨y2.heap.size, 0, none⟩ (.slice pF iC.length pE)).setCell ⟨y2.heap.size, 1, none⟩ (.slice pH m'.length pG) = zn at mG V1 sB iD lW ⊢; have C0 : zn.cell? ⟨w.heap.size, 0, none⟩ = some (.slice av 4 cv) ∧ zn.cell? ⟨w.heap.size, 1, none⟩ = some (.slice ao l.length co) ∧ zn.cell? ⟨g, k, none⟩ = some (.string s) ∧ zn.cell? ⟨nb, 0, none⟩ = some (.slice va 4 vc) ∧ zn.cell? ⟨nb, 1, none⟩ = some (.slice oa m.length oc) := by
     have dG := dZ.out.step (by omega) iD
     exact ⟨(pair_cells ((dG.kept w.heap.size (by omega) (by omega)).trans aK.out.fst)).1, (pair_cells ((dG.kept w.heap.size (by omega) (by omega)).trans aK.out.fst)).2, fM.out _ dG, (iD.cell (block_lt_of_cell (pair_cells HE.out).1)).trans (pair_cells HE.out).1, (iD.cell (block_lt_of_cell (pair_cells HE.out).2)).trans (pair_cells HE.out).2⟩
    refine tj 20 ?_
    refine wpAnyH_done (by kernel_rfl) ?_ _
    have qW := aPo (dZ.out.step (by omega) iD)
    have aLo := qW.out.size; have HXn := aPo ((qW.out.kept w.heap.size (by omega) (by omega)).trans aK.out.fst)
    have V3 := aPo ((qW.out.kept (w.heap.size + 1) (by omega) (by omega)).trans aK.out.snd)
    cases okk
    ·have fQ := oV.out
     rw [q5 lL.out V2.out cM.out wU.out aJ] at fQ; have hRe : R = (4, [], []) := fQ; subst hRe; obtain ⟨r0, r1⟩ := pair_cells V3.out; obtain ⟨f0, f1⟩ := aB V3.out; have bR := aPo (cE (.slice none 0 0) (.slice none 0 0) V3.out); have eN : Hid (Below w.heap.size w ((zn.setCell ⟨w.heap.size + 1, 0, none⟩ (.slice none 0 0)).setCell ⟨w.heap.size + 1, 1, none⟩ (.slice none 0 0))) := qW.out.bel.trans ((dY zn (w.heap.size + 1) 0 1 _ _).mono (by omega))
     go_wp2
     generalize (zn.setCell ⟨w.heap.size + 1, 0, none⟩ (.slice none 0 0)).setCell ⟨w.heap.size + 1, 1, none⟩ (.slice none 0 0) = wf at bR eN ⊢; obtain ⟨p0, p1⟩ := pair_cells bR.out; exact bodyPost_ret (v := .tuple #[.agg #[.slice none 0 0, .slice none 0 0], .int .i64 4]) (by simp [results, Tryz.results85, go_sem, p0, p1]) rfl ⟨none, 0, 0, none, 0, 0, rfl, eN.out, fun h => absurd h (by decide)⟩
    obtain ⟨yU, R7, T0⟩ := rO.out.1 rfl; have aDG := aPo (aBu lL.out V2.out cM.out wU.out R7 T0); clear R7 T0; have pV := pV; rw [yU.len] at mG V1 pV ⊢; obtain ⟨x0, x1⟩ := pair_cells mG.out; obtain ⟨n0, n1⟩ := pair_cells ((iD.block nb (by have := bF HE.out; omega)).trans HE.out)
    obtain ⟨fn0, fn1⟩ := aB ((iD.block nb (by have := bF HE.out; omega)).trans HE.out)
    have HIp := aPo (qW.out.put (k' := k + 1) (by omega) V1.out sB.out (by omega) (by omega) pV.out zS.out yU aDG.out)
    clear yU; go_wp2
    go_roundw
    case rel => exact ⟨k + 1, _, by omega, rfl, by go_num, HIp⟩
    case measure => simp [intOf]; omega
   ·skip
    have dR : Below y1.heap.size y1 (y1.alloc (.cells #[.slice none 0 0, .slice none 0 0] 27)) := bl; have iU := bX (Below.refl _ (y1.alloc (.cells #[.slice none 0 0, .slice none 0 0] 27))); have mV : y1.heap.size < (y1.alloc (.cells #[.slice none 0 0, .slice none 0 0] 27)).heap.size := by show _ < (y1.heap.push _).size; simp
    have A6 : Below z1.heap.size z1 (y1.alloc (.cells #[.slice none 0 0, .slice none 0 0] 27)) := qC.trans (dR.mono qC.size); have SA : (y1.alloc (.cells #[.slice none 0 0, .slice none 0 0] 27)).cell? ⟨w.heap.size, 0, none⟩ = some (.slice av 4 cv) ∧ (y1.alloc (.cells #[.slice none 0 0, .slice none 0 0] 27)).cell? ⟨w.heap.size, 1, none⟩ = some (.slice ao l.length co) ∧ (y1.alloc (.cells #[.slice none 0 0, .slice none 0 0] 27)).cell? ⟨g, k, none⟩ = some (.string s) ∧ (y1.alloc (.cells #[.slice none 0 0, .slice none 0 0] 27)).cell? ⟨nb, 0, none⟩ = some (.slice va 4 vc) ∧ (y1.alloc (.cells #[.slice none 0 0, .slice none 0 0] 27)).cell? ⟨nb, 1, none⟩ = some (.slice oa m.length oc) := by
     have dG := dZ.out.step (by omega) A6
     exact ⟨(pair_cells ((dG.kept w.heap.size (by omega) (by omega)).trans aK.out.fst)).1, (pair_cells ((dG.kept w.heap.size (by omega) (by omega)).trans aK.out.fst)).2, fM.out _ dG, (A6.cell (block_lt_of_cell (pair_cells HE.out).1)).trans (pair_cells HE.out).1, (A6.cell (block_lt_of_cell (pair_cells HE.out).2)).trans (pair_cells HE.out).2⟩
    go_simp
    refine hK.out _ _ SA (fun jM => ?_)
    clear hK K jM
    (try simp only [Act.put, u1, u2, u3])
    generalize iD : y1.alloc (.cells #[.slice none 0 0, .slice none 0 0] 27) = y4 at dR iU mV ⊢; clear iD SA A6; have Z4 : Below z1.heap.size z1 y4 := qC.trans (dR.mono qC.size); have Sy4 : y4.cell? ⟨w.heap.size, 0, none⟩ = some (.slice av 4 cv) ∧ y4.cell? ⟨w.heap.size, 1, none⟩ = some (.slice ao l.length co) ∧ y4.cell? ⟨g, k, none⟩ = some (.string s) ∧ y4.cell? ⟨nb, 0, none⟩ = some (.slice va 4 vc) ∧ y4.cell? ⟨nb, 1, none⟩ = some (.slice oa m.length oc) := by
     have dG := dZ.out.step (by omega) Z4
     exact ⟨(pair_cells ((dG.kept w.heap.size (by omega) (by omega)).trans aK.out.fst)).1, (pair_cells ((dG.kept w.heap.size (by omega) (by omega)).trans aK.out.fst)).2, fM.out _ dG, (Z4.cell (block_lt_of_cell (pair_cells HE.out).1)).trans (pair_cells HE.out).1, (Z4.cell (block_lt_of_cell (pair_cells HE.out).2)).trans (pair_cells HE.out).2⟩
    have S1 := aPo iU; have aOX := mV; clear iU mV dR; refine wpAnyH_ready (rs := [14]) (by kernel_rfl) (by simp) ?_
    refine (AllReadyH.cons rfl (fun K hK => ?_) AllReadyH.nil)
    go_simp
    go_at_call 90
    refine (rO.out.2 y4 y4.heap.size va oa vc oc ((HVi.out.below Z4 aPq).more Z4.size) ((HOi.out.below Z4 aPq).more Z4.size) aPq D1.out HC2.out).mono ?_
    rintro e y5 ⟨pF, pE, pH, pG, rfl, gW, eA, eM, d1, d2⟩; have hy5 : Below z1.heap.size z1 y5 := Z4.trans (eM.mono Z4.size); have Sy5 : y5.cell? ⟨w.heap.size, 0, none⟩ = some (.slice av 4 cv) ∧ y5.cell? ⟨w.heap.size, 1, none⟩ = some (.slice ao l.length co) ∧ y5.cell? ⟨g, k, none⟩ = some (.string s) ∧ y5.cell? ⟨nb, 0, none⟩ = some (.slice va 4 vc) ∧ y5.cell? ⟨nb, 1, none⟩ = some (.slice oa m.length oc) := by
     have dG := dZ.out.step (by omega) hy5
     exact ⟨(pair_cells ((dG.kept w.heap.size (by omega) (by omega)).trans aK.out.fst)).1, (pair_cells ((dG.kept w.heap.size (by omega) (by omega)).trans aK.out.fst)).2, fM.out _ dG, (hy5.cell (block_lt_of_cell (pair_cells HE.out).1)).trans (pair_cells HE.out).1, (hy5.cell (block_lt_of_cell (pair_cells HE.out).2)).trans (pair_cells HE.out).2⟩
    have S0 := aPo ((eM.block _ (aPp S1.out).1).trans S1.out); have aOW := bF S0.out; have aNn := aPo gW; have aNF := aPo eA; have pV := aPo d1; have zS := aPo d2; have hpz := eM.size; refine hK.out _ _ Sy5 (fun jK => ?_)
    clear hK K jK eM gW eA d1 d2
    (try simp only [Act.put, u1, u2, u3])
    refine tj 15 ?_
    refine tj 16 ?_
    refine tj 17 ?_
    have yN := qC.size; have hq2 := Z4.size; obtain ⟨mG, V1, sB, iD, lW⟩ := p8 (.slice pF iC.length pE) (.slice pH m'.length pG) hy5 S0.out yN (by first | exact .inr aPq | (left; omega) | (right; omega)) aNn.out aNF.out
    obtain ⟨d0, d1⟩ := pair_cells S0.out; obtain ⟨f0, f1⟩ := aB S0.out; have SW : ((y5.setCell ⟨y1.heap.size, 0, none⟩ (.slice pF iC.length pE)).setCell ⟨y1.heap.size, 1, none⟩ (.slice pH m'.length pG)).cell? ⟨w.heap.size, 0, none⟩ = some (.slice av 4 cv) ∧ ((y5.setCell ⟨y1.heap.size, 0, none⟩ (.slice pF iC.length pE)).setCell ⟨y1.heap.size, 1, none⟩ (.slice pH m'.length pG)).cell? ⟨w.heap.size, 1, none⟩ = some (.slice ao l.length co) ∧ ((y5.setCell ⟨y1.heap.size, 0, none⟩ (.slice pF iC.length pE)).setCell ⟨y1.heap.size, 1, none⟩ (.slice pH m'.length pG)).cell? ⟨g, k, none⟩ = some (.string s) ∧ ((y5.setCell ⟨y1.heap.size, 0, none⟩ (.slice pF iC.length pE)).setCell ⟨y1.heap.size, 1, none⟩ (.slice pH m'.length pG)).cell? ⟨nb, 0, none⟩ = some (.slice va 4 vc) ∧ ((y5.setCell ⟨y1.heap.size, 0, none⟩ (.slice pF iC.length pE)).setCell ⟨y1.heap.size, 1, none⟩ (.slice pH m'.length pG)).cell? ⟨nb, 1, none⟩ = some (.slice oa m.length oc) := by
     have dG := dZ.out.step (by omega) iD
     exact ⟨(pair_cells ((dG.kept w.heap.size (by omega) (by omega)).trans aK.out.fst)).1, (pair_cells ((dG.kept w.heap.size (by omega) (by omega)).trans aK.out.fst)).2, fM.out _ dG, (iD.cell (block_lt_of_cell (pair_cells HE.out).1)).trans (pair_cells HE.out).1, (iD.cell (block_lt_of_cell (pair_cells HE.out).2)).trans (pair_cells HE.out).2⟩
    refine rk 19 rfl (fun K hK => ?_)
    go_simp
    refine hK.out _ _ SW (fun jL => ?_)
    clear hK K jL d0 d1 f0 f1 SW
    (try simp only [Act.put, u1, u2, u3])
    generalize (y5.setCell ⟨y1.heap.size, 0, none⟩ (.slice pF iC.length pE)).setCell ⟨y1.heap.size, 1, none⟩ (.slice pH m'.length pG) = zn at mG V1 sB iD lW ⊢; have C0 : zn.cell? ⟨w.heap.size, 0, none⟩ = some (.slice av 4 cv) ∧ zn.cell? ⟨w.heap.size, 1, none⟩ = some (.slice ao l.length co) ∧ zn.cell? ⟨g, k, none⟩ = some (.string s) ∧ zn.cell? ⟨nb, 0, none⟩ = some (.slice va 4 vc) ∧ zn.cell? ⟨nb, 1, none⟩ = some (.slice oa m.length oc) := by
     have dG := dZ.out.step (by omega) iD
     exact ⟨(pair_cells ((dG.kept w.heap.size (by omega) (by omega)).trans aK.out.fst)).1, (pair_cells ((dG.kept w.heap.size (by omega) (by omega)).trans aK.out.fst)).2, fM.out _ dG, (iD.cell (block_lt_of_cell (pair_cells HE.out).1)).trans (pair_cells HE.out).1, (iD.cell (block_lt_of_cell (pair_cells HE.out).2)).trans (pair_cells HE.out).2⟩
    refine tj 20 ?_
    refine wpAnyH_done (by kernel_rfl) ?_ _
    have qW := aPo (dZ.out.step (by omega) iD)
    have aLo := qW.out.size; have HXn := aPo ((qW.out.kept w.heap.size (by omega) (by omega)).trans aK.out.fst)
    have V3 := aPo ((qW.out.kept (w.heap.size + 1) (by omega) (by omega)).trans aK.out.snd)
    cases okk
    ·have fQ := oV.out
     rw [q5 lL.out V2.out cM.out wU.out aJ] at fQ; have hRe : R = (4, [], []) := fQ; subst hRe; obtain ⟨r0, r1⟩ := pair_cells V3.out; obtain ⟨f0, f1⟩ := aB V3.out; have bR := aPo (cE (.slice none 0 0) (.slice none 0 0) V3.out); have eN : Hid (Below w.heap.size w ((zn.setCell ⟨w.heap.size + 1, 0, none⟩ (.slice none 0 0)).setCell ⟨w.heap.size + 1, 1, none⟩ (.slice none 0 0))) := qW.out.bel.trans ((dY zn (w.heap.size + 1) 0 1 _ _).mono (by omega))
     go_wp2
     generalize (zn.setCell ⟨w.heap.size + 1, 0, none⟩ (.slice none 0 0)).setCell ⟨w.heap.size + 1, 1, none⟩ (.slice none 0 0) = wf at bR eN ⊢; obtain ⟨p0, p1⟩ := pair_cells bR.out; exact bodyPost_ret (v := .tuple #[.agg #[.slice none 0 0, .slice none 0 0], .int .i64 4]) (by simp [results, Tryz.results85, go_sem, p0, p1]) rfl ⟨none, 0, 0, none, 0, 0, rfl, eN.out, fun h => absurd h (by decide)⟩
    obtain ⟨yU, R7, T0⟩ := rO.out.1 rfl; have aDG := aPo (aBu lL.out V2.out cM.out wU.out R7 T0); clear R7 T0; have pV := pV; rw [yU.len] at mG V1 pV ⊢; obtain ⟨x0, x1⟩ := pair_cells mG.out; obtain ⟨n0, n1⟩ := pair_cells ((iD.block nb (by have := bF HE.out; omega)).trans HE.out)
    obtain ⟨fn0, fn1⟩ := aB ((iD.block nb (by have := bF HE.out; omega)).trans HE.out)
    have HIp := aPo (qW.out.put (k' := k + 1) (by omega) V1.out sB.out (by omega) (by omega) pV.out zS.out yU aDG.out)
    clear yU; go_wp2
    go_roundw
    case rel => exact ⟨k + 1, _, by omega, rfl, by go_num, HIp⟩
    case measure => simp [intOf]; omega
  ·skip
   have dR : Below y0.heap.size y0 (y0.alloc (.cells #[.slice none 0 0, .slice none 0 0] 27)) := bl; have iU := bX (Below.refl _ (y0.alloc (.cells #[.slice none 0 0, .slice none 0 0] 27))); have mV : y0.heap.size < (y0.alloc (.cells #[.slice none 0 0, .slice none 0 0] 27)).heap.size := by show _ < (y0.heap.push _).size; simp
   have A6 : Below z1.heap.size z1 (y0.alloc (.cells #[.slice none 0 0, .slice none 0 0] 27)) := iT.trans (dR.mono iT.size); have SA : (y0.alloc (.cells #[.slice none 0 0, .slice none 0 0] 27)).cell? ⟨w.heap.size, 0, none⟩ = some (.slice av 4 cv) ∧ (y0.alloc (.cells #[.slice none 0 0, .slice none 0 0] 27)).cell? ⟨w.heap.size, 1, none⟩ = some (.slice ao l.length co) ∧ (y0.alloc (.cells #[.slice none 0 0, .slice none 0 0] 27)).cell? ⟨g, k, none⟩ = some (.string s) ∧ (y0.alloc (.cells #[.slice none 0 0, .slice none 0 0] 27)).cell? ⟨nb, 0, none⟩ = some (.slice va 4 vc) ∧ (y0.alloc (.cells #[.slice none 0 0, .slice none 0 0] 27)).cell? ⟨nb, 1, none⟩ = some (.slice oa m.length oc) := by
    have dG := dZ.out.step (by omega) A6
    exact ⟨(pair_cells ((dG.kept w.heap.size (by omega) (by omega)).trans aK.out.fst)).1, (pair_cells ((dG.kept w.heap.size (by omega) (by omega)).trans aK.out.fst)).2, fM.out _ dG, (A6.cell (block_lt_of_cell (pair_cells HE.out).1)).trans (pair_cells HE.out).1, (A6.cell (block_lt_of_cell (pair_cells HE.out).2)).trans (pair_cells HE.out).2⟩
   go_simp
   refine hK.out _ _ SA (fun jM => ?_)
   clear hK K jM
   (try simp only [Act.put, u1, u2, u3])
   generalize iD : y0.alloc (.cells #[.slice none 0 0, .slice none 0 0] 27) = y6 at dR iU mV ⊢; clear iD SA A6; have hy6 : Below z1.heap.size z1 y6 := iT.trans (dR.mono iT.size); have Sy6 : y6.cell? ⟨w.heap.size, 0, none⟩ = some (.slice av 4 cv) ∧ y6.cell? ⟨w.heap.size, 1, none⟩ = some (.slice ao l.length co) ∧ y6.cell? ⟨g, k, none⟩ = some (.string s) ∧ y6.cell? ⟨nb, 0, none⟩ = some (.slice va 4 vc) ∧ y6.cell? ⟨nb, 1, none⟩ = some (.slice oa m.length oc) := by
    have dG := dZ.out.step (by omega) hy6
    exact ⟨(pair_cells ((dG.kept w.heap.size (by omega) (by omega)).trans aK.out.fst)).1, (pair_cells ((dG.kept w.heap.size (by omega) (by omega)).trans aK.out.fst)).2, fM.out _ dG, (hy6.cell (block_lt_of_cell (pair_cells HE.out).1)).trans (pair_cells HE.out).1, (hy6.cell (block_lt_of_cell (pair_cells HE.out).2)).trans (pair_cells HE.out).2⟩
   have R9 := aPo iU; have aOV := mV; clear iU mV dR; refine wpAnyH_ready (rs := [11]) (by kernel_rfl) (by simp) ?_
   refine (AllReadyH.cons rfl (fun K hK => ?_) AllReadyH.nil)
   go_simp
   go_at_call 117
   refine (E9 y6 B av ao 4 cv l.length co xs l s (tZ.out.below (dZ.out.bel.trans (hy6.mono (by omega))) hB) (by have := hy6.size; omega) (by omega) HC.out).mono ?_
   rw [HU.out]; rintro e y7 ⟨rfl, eM⟩; have Z3 : Below z1.heap.size z1 y7 := hy6.trans (eM.mono hy6.size); have Sy7 : y7.cell? ⟨w.heap.size, 0, none⟩ = some (.slice av 4 cv) ∧ y7.cell? ⟨w.heap.size, 1, none⟩ = some (.slice ao l.length co) ∧ y7.cell? ⟨g, k, none⟩ = some (.string s) ∧ y7.cell? ⟨nb, 0, none⟩ = some (.slice va 4 vc) ∧ y7.cell? ⟨nb, 1, none⟩ = some (.slice oa m.length oc) := by
    have dG := dZ.out.step (by omega) Z3
    exact ⟨(pair_cells ((dG.kept w.heap.size (by omega) (by omega)).trans aK.out.fst)).1, (pair_cells ((dG.kept w.heap.size (by omega) (by omega)).trans aK.out.fst)).2, fM.out _ dG, (Z3.cell (block_lt_of_cell (pair_cells HE.out).1)).trans (pair_cells HE.out).1, (Z3.cell (block_lt_of_cell (pair_cells HE.out).2)).trans (pair_cells HE.out).2⟩
   have J6 := aPo ((eM.block _ (aPp R9.out).1).trans R9.out); have aOU := bF J6.out; refine hK.out _ _ Sy7 (fun pR => ?_)
   clear hK K pR eM
   (try simp only [Act.put, u1, u2, u3])
   refine tj 12 ?_
   refine tj 13 ?_
   refine wpAnyH_ready (rs := [14]) (by kernel_rfl) (by simp) ?_
   refine (AllReadyH.cons rfl (fun K hK => ?_) AllReadyH.nil)
   go_simp
   go_at_call 90
   refine (rO.out.2 y7 y7.heap.size va oa vc oc ((HVi.out.below Z3 aPq).more Z3.size) ((HOi.out.below Z3 aPq).more Z3.size) aPq D1.out HC2.out).mono ?_
   rintro e y8 ⟨pF, pE, pH, pG, rfl, gW, eA, eM, d1, d2⟩; have hy8 : Below z1.heap.size z1 y8 := Z3.trans (eM.mono Z3.size); have Sy8 : y8.cell? ⟨w.heap.size, 0, none⟩ = some (.slice av 4 cv) ∧ y8.cell? ⟨w.heap.size, 1, none⟩ = some (.slice ao l.length co) ∧ y8.cell? ⟨g, k, none⟩ = some (.string s) ∧ y8.cell? ⟨nb, 0, none⟩ = some (.slice va 4 vc) ∧ y8.cell? ⟨nb, 1, none⟩ = some (.slice oa m.length oc) := by
    have dG := dZ.out.step (by omega) hy8
    exact ⟨(pair_cells ((dG.kept w.heap.size (by omega) (by omega)).trans aK.out.fst)).1, (pair_cells ((dG.kept w.heap.size (by omega) (by omega)).trans aK.out.fst)).2, fM.out _ dG, (hy8.cell (block_lt_of_cell (pair_cells HE.out).1)).trans (pair_cells HE.out).1, (hy8.cell (block_lt_of_cell (pair_cells HE.out).2)).trans (pair_cells HE.out).2⟩
   have R8 := aPo ((eM.block _ (aPp J6.out).1).trans J6.out); have aOT := bF R8.out; have aNm := aPo gW; have aNE := aPo eA; have pV := aPo d1; have zS := aPo d2; have hpz := eM.size; refine hK.out _ _ Sy8 (fun jK => ?_)
   clear hK K jK eM gW eA d1 d2
   (try simp only [Act.put, u1, u2, u3])
   refine tj 15 ?_
   refine tj 16 ?_
   refine tj 17 ?_
   have yN := iT.size; have hq2 := Z3.size; obtain ⟨mG, V1, sB, iD, lW⟩ := p8 (.slice pF iC.length pE) (.slice pH m'.length pG) hy8 R8.out yN (by first | exact .inr aPq | (left; omega) | (right; omega)) aNm.out aNE.out
   obtain ⟨d0, d1⟩ := pair_cells R8.out; obtain ⟨f0, f1⟩ := aB R8.out; have SW : ((y8.setCell ⟨y0.heap.size, 0, none⟩ (.slice pF iC.length pE)).setCell ⟨y0.heap.size, 1, none⟩ (.slice pH m'.length pG)).cell? ⟨w.heap.size, 0, none⟩ = some (.slice av 4 cv) ∧ ((y8.setCell ⟨y0.heap.size, 0, none⟩ (.slice pF iC.length pE)).setCell ⟨y0.heap.size, 1, none⟩ (.slice pH m'.length pG)).cell? ⟨w.heap.size, 1, none⟩ = some (.slice ao l.length co) ∧ ((y8.setCell ⟨y0.heap.size, 0, none⟩ (.slice pF iC.length pE)).setCell ⟨y0.heap.size, 1, none⟩ (.slice pH m'.length pG)).cell? ⟨g, k, none⟩ = some (.string s) ∧ ((y8.setCell ⟨y0.heap.size, 0, none⟩ (.slice pF iC.length pE)).setCell ⟨y0.heap.size, 1, none⟩ (.slice pH m'.length pG)).cell? ⟨nb, 0, none⟩ = some (.slice va 4 vc) ∧ ((y8.setCell ⟨y0.heap.size, 0, none⟩ (.slice pF iC.length pE)).setCell ⟨y0.heap.size, 1, none⟩ (.slice pH m'.length pG)).cell? ⟨nb, 1, none⟩ = some (.slice oa m.length oc) := by
    have dG := dZ.out.step (by omega) iD
    exact ⟨(pair_cells ((dG.kept w.heap.size (by omega) (by omega)).trans aK.out.fst)).1, (pair_cells ((dG.kept w.heap.size (by omega) (by omega)).trans aK.out.fst)).2, fM.out _ dG, (iD.cell (block_lt_of_cell (pair_cells HE.out).1)).trans (pair_cells HE.out).1, (iD.cell (block_lt_of_cell (pair_cells HE.out).2)).trans (pair_cells HE.out).2⟩
   refine rk 19 rfl (fun K hK => ?_)
   go_simp
   refine hK.out _ _ SW (fun jL => ?_)
   clear hK K jL d0 d1 f0 f1 SW
   (try simp only [Act.put, u1, u2, u3])
   generalize (y8.setCell ⟨y0.heap.size, 0, none⟩ (.slice pF iC.length pE)).setCell ⟨y0.heap.size, 1, none⟩ (.slice pH m'.length pG) = zn at mG V1 sB iD lW ⊢; have C0 : zn.cell? ⟨w.heap.size, 0, none⟩ = some (.slice av 4 cv) ∧ zn.cell? ⟨w.heap.size, 1, none⟩ = some (.slice ao l.length co) ∧ zn.cell? ⟨g, k, none⟩ = some (.string s) ∧ zn.cell? ⟨nb, 0, none⟩ = some (.slice va 4 vc) ∧ zn.cell? ⟨nb, 1, none⟩ = some (.slice oa m.length oc) := by
    have dG := dZ.out.step (by omega) iD
    exact ⟨(pair_cells ((dG.kept w.heap.size (by omega) (by omega)).trans aK.out.fst)).1, (pair_cells ((dG.kept w.heap.size (by omega) (by omega)).trans aK.out.fst)).2, fM.out _ dG, (iD.cell (block_lt_of_cell (pair_cells HE.out).1)).trans (pair_cells HE.out).1, (iD.cell (block_lt_of_cell (pair_cells HE.out).2)).trans (pair_cells HE.out).2⟩
   refine tj 20 ?_
   refine wpAnyH_done (by kernel_rfl) ?_ _
   have qW := aPo (dZ.out.step (by omega) iD)
   have aLo := qW.out.size; have HXn := aPo ((qW.out.kept w.heap.size (by omega) (by omega)).trans aK.out.fst)
   have V3 := aPo ((qW.out.kept (w.heap.size + 1) (by omega) (by omega)).trans aK.out.snd)
   cases okk
   ·have fQ := oV.out
    rw [q5 lL.out V2.out cM.out wU.out aJ] at fQ; have hRe : R = (4, [], []) := fQ; subst hRe; obtain ⟨r0, r1⟩ := pair_cells V3.out; obtain ⟨f0, f1⟩ := aB V3.out; have bR := aPo (cE (.slice none 0 0) (.slice none 0 0) V3.out); have eN : Hid (Below w.heap.size w ((zn.setCell ⟨w.heap.size + 1, 0, none⟩ (.slice none 0 0)).setCell ⟨w.heap.size + 1, 1, none⟩ (.slice none 0 0))) := qW.out.bel.trans ((dY zn (w.heap.size + 1) 0 1 _ _).mono (by omega))
    go_wp2
    generalize (zn.setCell ⟨w.heap.size + 1, 0, none⟩ (.slice none 0 0)).setCell ⟨w.heap.size + 1, 1, none⟩ (.slice none 0 0) = wf at bR eN ⊢; obtain ⟨p0, p1⟩ := pair_cells bR.out; exact bodyPost_ret (v := .tuple #[.agg #[.slice none 0 0, .slice none 0 0], .int .i64 4]) (by simp [results, Tryz.results85, go_sem, p0, p1]) rfl ⟨none, 0, 0, none, 0, 0, rfl, eN.out, fun h => absurd h (by decide)⟩
   obtain ⟨yU, R7, T0⟩ := rO.out.1 rfl; have aDG := aPo (aBu lL.out V2.out cM.out wU.out R7 T0); clear R7 T0; have pV := pV; rw [yU.len] at mG V1 pV ⊢; obtain ⟨x0, x1⟩ := pair_cells mG.out; obtain ⟨n0, n1⟩ := pair_cells ((iD.block nb (by have := bF HE.out; omega)).trans HE.out)
   obtain ⟨fn0, fn1⟩ := aB ((iD.block nb (by have := bF HE.out; omega)).trans HE.out)
   have HIp := aPo (qW.out.put (k' := k + 1) (by omega) V1.out sB.out (by omega) (by omega) pV.out zS.out yU aDG.out)
   clear yU; go_wp2
   go_roundw
   case rel => exact ⟨k + 1, _, by omega, rfl, by go_num, HIp⟩
   case measure => simp [intOf]; omega
theorem aH5 (w : World) (B : Nat) (av ao : Option Addr) (cv no co d : Nat) (xs : List Int) (l : List aA) (hx : Ints w B av 4 xs) (h : bP w B ao no l) (hB : B ≤ w.heap.size) (bW : bM av 4 cv) (cB : bM ao no co) (hd : d < 4) (hc : aE xs l = true) :
  Calls Tryz.prog 85 #[.agg #[.slice av 4 cv, .slice ao no co], .int .i64 (d : Int)] w (aFE (qK xs l d) w) := aGK w B av ao cv no co d xs l hx h hB bW cB hd hc _ rfl
structure tF (w w1 : World) (x y z : Array Value) : Prop where
 fst : w1.heap[w.heap.size]? = some (.cells x 27 (0, 0))
 snd : w1.heap[w.heap.size + 1]? = some (.cells y 29 (0, 0))
 res : w1.heap[w.heap.size + 1 + 1]? = some (.cells z 27 (0, 0))
 bel : Below w.heap.size w w1
theorem tF.mk0 (w : World) (x y z : Array Value) : tF w (((w.alloc (.cells x 27)).alloc (.cells y 29)).alloc (.cells z 27)) x y z := by
 have e1 : (w.alloc (.cells x 27)).heap.size = w.heap.size + 1 := by simp
 have e2 : ((w.alloc (.cells x 27)).alloc (.cells y 29)).heap.size = w.heap.size + 1 + 1 := by simp
 refine ⟨?_, ?_, ?_, (((Below.refl _ w).alloc aPq _).alloc (by simp) _).alloc (by simp; omega) _⟩
 ·exact ((Below.heap_alloc _ _ _ (by omega)).trans (Below.heap_alloc _ _ _ (by omega))).trans (heap_alloc_new _ _)
 ·rw [← e1]; exact (Below.heap_alloc _ _ _ (by omega)).trans (heap_alloc_new _ _)
 ·rw [← e2]; exact heap_alloc_new _ _
theorem tF.next {w w1 w2 : World} {x y z : Array Value} (h : tF w w1 x y z) (hb : Below w1.heap.size w1 w2) : tF w w2 x y z :=
 ⟨(hb.block _ (aPp h.fst).1).trans h.fst, (hb.block _ (aPp h.snd).1).trans h.snd, (hb.block _ (aPp h.res).1).trans h.res, h.bel.trans (hb.mono h.bel.size)⟩
theorem tF.lt {w w1 : World} {x y z : Array Value} (h : tF w w1 x y z) : w.heap.size + 1 + 1 < w1.heap.size := (aPp h.res).1
theorem Y0 {w : World} {b : Nat} {v0 v1 v2 v3 v4 : Value} {T : TypeId} {fr : Nat × Nat} (h : w.heap[b]? = some (.cells #[v0, v1, v2, v3, v4] T fr)) : w.cell? ⟨b, 0, none⟩ = some v0 ∧ w.cell? ⟨b, 1, none⟩ = some v1 ∧ w.cell? ⟨b, 2, none⟩ = some v2 ∧ w.cell? ⟨b, 3, none⟩ = some v3 ∧ w.cell? ⟨b, 4, none⟩ = some v4 :=
 ⟨aPr h, aPr h, aPr h, aPr h, aPr h⟩
def sD (w : World) (lo hi : Nat) (va : Option Addr) (nv vc : Nat) (oa : Option Addr) (no oc : Nat) (zs : List Int) (m : List aA) : Prop :=
 nv = zs.length ∧ no = m.length ∧ Own w lo hi va nv zs ∧ bB w lo hi oa no m ∧ bM va nv vc ∧ bM oa no oc
def aFD (code : Int) (zs : List Int) (m : List aA) (w : World) (e : Ending) (w' : World) : Prop :=
 ∃ va nv vc oa no oc, e = .returned (.tuple #[.agg #[.slice va nv vc, .slice oa no oc], .int .i64 code]) ∧ Below w.heap.size w w' ∧ (code = 0 → sD w' w.heap.size w'.heap.size va nv vc oa no oc zs m)
theorem sD.kept {w w' : World} {lo hi nv vc no oc : Nat} {va oa : Option Addr} {zs : List Int} {m : List aA} (h : sD w lo hi va nv vc oa no oc zs m) (hk : ∀ j, lo ≤ j → j < hi → w'.heap[j]? = w.heap[j]?) : sD w' lo hi va nv vc oa no oc zs m := by
 obtain ⟨h1, h2, h3, h4, h5, h6⟩ := h
 exact ⟨h1, h2, h3.kept hk, h4.kept hk, h5, h6⟩
theorem sD.more {w : World} {lo hi lo' hi' nv vc no oc : Nat} {va oa : Option Addr} {zs : List Int} {m : List aA} (h : sD w lo hi va nv vc oa no oc zs m) (g1 : lo' ≤ lo) (g2 : hi ≤ hi') : sD w lo' hi' va nv vc oa no oc zs m := by
 obtain ⟨h1, h2, h3, h4, h5, h6⟩ := h
 exact ⟨h1, h2, h3.more g1 g2, h4.more g1 g2, h5, h6⟩
theorem sD.below {w w' : World} {lo hi B nv vc no oc : Nat} {va oa : Option Addr} {zs : List Int} {m : List aA} (h : sD w lo hi va nv vc oa no oc zs m) (hb : Below B w w') (hB : hi ≤ B) : sD w' lo hi va nv vc oa no oc zs m := h.kept fun j _ h2 => hb.block j (by omega)
theorem sD.nil (w : World) (lo hi : Nat) : sD w lo hi none 0 0 none 0 0 [] [] :=
 ⟨rfl, rfl, ⟨rfl, fun h => absurd h (by omega)⟩, ⟨rfl, fun h => absurd h (by omega)⟩, cN, cN⟩
theorem aH4 (w : World) (B : Nat) (av ao : Option Addr) (cv no co d : Nat) (xs : List Int) (l : List aA) (hx : Ints w B av 4 xs) (h : bP w B ao no l) (hB : B ≤ w.heap.size) (bW : bM av 4 cv) (cB : bM ao no co) (hd : d < 4) (hc : aE xs l = true) {RC : Int} {RZ : List Int} {RM : List aA} (hR : qK xs l d = (RC, RZ, RM)) :
  Calls Tryz.prog 85 #[.agg #[.slice av 4 cv, .slice ao no co], .int .i64 (d : Int)] w (aFD RC RZ RM w) := by
 have := aH5 w B av ao cv no co d xs l hx h hB bW cB hd hc
 rw [hR] at this
 exact this
theorem aDo.toY {xs : List Int} {l : List aA} {dev seq : Int} {w w' : World} {e : Ending} (h : aDo xs l dev seq w e w') (hc : aE xs l = true) {RC : Int} {RZ : List Int} {RM : List aA} (hR : kW xs l dev seq = (RC, RZ, RM)) : aFD RC RZ RM w e w' := by
 have := h.toX hc
 rw [hR] at this
 exact this
theorem tF.outX {w w1 w2 : World} {x y : Array Value} {z0 z1 : Value} {va oa : Option Addr} {nv vc no oc : Nat} {code : Int} {zs : List Int} {m : List aA} (h : tF w w2 x y #[z0, z1]) (hw : w.heap.size + 1 + 1 < w1.heap.size) (hc : code = 0 → sD w2 w1.heap.size w2.heap.size va nv vc oa no oc zs m) :
  Hid (((w2.setCell ⟨w.heap.size + 1 + 1, 0, none⟩ (.slice va nv vc)).setCell ⟨w.heap.size + 1 + 1, 1, none⟩ (.slice oa no oc)).heap[w.heap.size + 1 + 1]? = some (.cells #[.slice va nv vc, .slice oa no oc] 27 (0, 0))) ∧
  Hid (aFD code zs m w (.returned (.tuple #[.agg #[.slice va nv vc, .slice oa no oc], .int .i64 code])) ((w2.setCell ⟨w.heap.size + 1 + 1, 0, none⟩ (.slice va nv vc)).setCell ⟨w.heap.size + 1 + 1, 1, none⟩ (.slice oa no oc))) := by
 have hz := aY w2 (w.heap.size + 1 + 1) (.slice va nv vc) (.slice oa no oc)
 refine ⟨cE _ _ h.res, va, nv, vc, oa, no, oc, rfl, h.bel.trans ((dY w2 (w.heap.size + 1 + 1) 0 1 _ _).mono (by omega)), fun h0 => ?_⟩
 exact ((hc h0).kept fun j a1 a2 => aD _ _ (by omega)).more (by omega) (by rw [hz]; exact Nat.le_refl _)
theorem tF.outN {w w1 w2 : World} {x y : Array Value} {z0 z1 : Value} {va oa : Option Addr} {nv vc no oc : Nat} {code : Int} {zs : List Int} {m : List aA} (h : tF w w2 x y #[z0, z1]) (hw : w.heap.size + 1 + 1 < w1.heap.size) (hc : sD w2 w1.heap.size w2.heap.size va nv vc oa no oc zs m) :
  Hid (((w2.setCell ⟨w.heap.size + 1 + 1, 0, none⟩ (.slice va nv vc)).setCell ⟨w.heap.size + 1 + 1, 1, none⟩ (.slice oa no oc)).heap[w.heap.size + 1 + 1]? = some (.cells #[.slice va nv vc, .slice oa no oc] 27 (0, 0))) ∧
  Hid (L2 code zs m w (.returned (.tuple #[.agg #[.slice va nv vc, .slice oa no oc], .int .i64 code])) ((w2.setCell ⟨w.heap.size + 1 + 1, 0, none⟩ (.slice va nv vc)).setCell ⟨w.heap.size + 1 + 1, 1, none⟩ (.slice oa no oc))) := by
 have hz := aY w2 (w.heap.size + 1 + 1) (.slice va nv vc) (.slice oa no oc)
 obtain ⟨h1, h2, h3, h4, h5, h6⟩ := (hc.kept (w' := ((w2.setCell ⟨w.heap.size + 1 + 1, 0, none⟩ (.slice va nv vc)).setCell ⟨w.heap.size + 1 + 1, 1, none⟩ (.slice oa no oc))) fun j a1 a2 => aD _ _ (by omega)).more (lo' := w.heap.size) (hi' := ((w2.setCell ⟨w.heap.size + 1 + 1, 0, none⟩ (.slice va nv vc)).setCell ⟨w.heap.size + 1 + 1, 1, none⟩ (.slice oa no oc)).heap.size) (by omega) (by rw [hz]; exact Nat.le_refl _)
 subst h1 h2
 exact ⟨cE _ _ h.res, va, vc, oa, oc, rfl, h3, h4, h.bel.trans ((dY w2 (w.heap.size + 1 + 1) 0 1 _ _).mono (by omega)), h5, h6⟩
set_option maxHeartbeats 40000000 in
theorem aH3 (w : World) (B : Nat) (av ao : Option Addr) (cv no co : Nat) (d : Nat) (xs : List Int) (l : List aA) (kind qty dv sq : Int) (item : ByteArray) (hx : Ints w B av 4 xs) (h : bP w B ao no l) (hB : B ≤ w.heap.size) (bW : bM av 4 cv) (cB : bM ao no co) (hi : item.size ≤ 8) (hd : d < 4) (hc : aE xs l = true) {RC : Int} {RZ : List Int} {RM : List aA} (hR : jE xs l d kind item qty dv sq = (RC, RZ, RM)) :
  Calls Tryz.prog 46 #[.agg #[.slice av 4 cv, .slice ao no co], .int .i64 (d : Int), .agg #[.int .i64 kind, .string item, .int .i64 qty, .int .i64 dv, .int .i64 sq]] w (aFD RC RZ RM w) := by
 have tY := aPo hR
 clear hR
 obtain rfl := h.1
 have hT := tF.mk0 w #[.slice av 4 cv, .slice ao l.length co] #[.int .i64 kind, .string item, .int .i64 qty, .int .i64 dv, .int .i64 sq] #[.slice none 0 0, .slice none 0 0]
 have HV := aPo (hx.below hT.bel hB)
 have HO := aPo (h.below hT.bel hB)
 have HT := aPo hT
 have nM := aPo bW
 have oM := aPo cB
 have HC := aPo hc
 have HBn := aPo (sE.of_cart hc)
 have hl := eF hc
 clear hc
 clear hx h hT bW cB
 go_enter Tryz.func46, Tryz.ntmps46
 go_upto_region 1 with fail
 generalize ((w.alloc (.cells #[.slice av 4 cv, .slice ao l.length co] 27)).alloc (.cells #[.int .i64 kind, .string item, .int .i64 qty, .int .i64 dv, .int .i64 sq] 29)).alloc (.cells #[.slice none 0 0, .slice none 0 0] 27) = w0 at HV HO HT ⊢
 have jW := HT.out.lt
 obtain ⟨q0, q1⟩ := pair_cells HT.out.fst
 obtain ⟨k0, k1, k2, k3, k4⟩ := Y0 HT.out.snd
 by_cases h6 : kind = 6
 ·have e6 : (kind == 6) = true := by rw [h6]; rfl
  have HR6 : Hid (qK xs l d = (RC, RZ, RM)) := by have h := tY.out; unfold jE at h; rwa [if_pos h6] at h
  clear h6
  go_wp2_with fail
  refine (aH4 w0 B av ao cv l.length co d xs l HV.out HO.out (by omega) nM.out oM.out hd HC.out HR6.out).mono ?_
  rintro e w1 ⟨va, nv, vc, oa, no, oc, rfl, hb, kE⟩; have bC := aPo (HT.out.next hb); have O6 := aPo kE; clear q0 q1 k0 k1 k2 k3 k4 HT hb kE; obtain ⟨r0, r1⟩ := pair_cells bC.out.res; obtain ⟨f0, f1⟩ := aB bC.out.res; obtain ⟨bR, jT⟩ := bC.out.outX (w1 := w0) (va := va) (nv := nv) (vc := vc) (oa := oa) (no := no) (oc := oc) (code := RC) (zs := RZ) (m := RM) (by omega) O6.out
  go_wp2
  generalize (w1.setCell ⟨w.heap.size + 1 + 1, 0, none⟩ (.slice va nv vc)).setCell ⟨w.heap.size + 1 + 1, 1, none⟩ (.slice oa no oc) = wf at bR jT ⊢; obtain ⟨p0, p1⟩ := pair_cells bR.out; exact bodyPost_ret (v := .tuple #[.agg #[.slice va nv vc, .slice oa no oc], .int .i64 (RC)]) (by simp [results, Tryz.results46, go_sem, p0, p1]) rfl jT.out
 have e6 : (kind == 6) = false := by rw [beq_eq_false_iff_ne]; exact h6
 by_cases h7 : kind = 7
 ·have e7 : (kind == 7) = true := by rw [h7]; rfl
  have HR7 : Hid (kW xs l (d : Int) (dE (d : Int) l l.length) = (RC, RZ, RM)) := by have h := tY.out; unfold jE at h; rwa [if_neg h6, if_pos h7] at h
  clear h7; clear q0 q1
  go_upto_region 5 with fail
  have hS : w0.drew.cell? ⟨w.heap.size, 0, none⟩ = some (.slice av 4 cv) ∧ w0.drew.cell? ⟨w.heap.size, 1, none⟩ = some (.slice ao l.length co) := pair_cells HT.out.fst
  go_wp2_with fail
  refine wp_region_held_drew (S := fun w' => w'.cell? ⟨w.heap.size, 0, none⟩ = some (.slice av 4 cv) ∧ w'.cell? ⟨w.heap.size, 1, none⟩ = some (.slice ao l.length co)) (by kernel_rfl) hS (fun aL => ?_)
  refine tj 0 ?_
  refine tj 1 ?_
  refine tj 2 ?_
  refine tj 3 ?_
  refine rk 4 rfl (fun K hK => ?_)
  go_simp
  go_at_call 87
  refine (aGI w0.drew B av ao 4 cv l.length co xs l (d : Int) (HO.out.kept (w' := w0.drew) fun _ _ => rfl) (by show B ≤ w0.heap.size; omega) (by omega) HC.out).mono ?_
  rintro e w1 ⟨rfl, gQ⟩; have aG : Below w0.heap.size w0 w1 := Below.mk gQ.os gQ.tape gQ.output gQ.size gQ.block; have bG : w1.cell? ⟨w.heap.size, 0, none⟩ = some (.slice av 4 cv) ∧ w1.cell? ⟨w.heap.size, 1, none⟩ = some (.slice ao l.length co) := pair_cells (HT.out.next aG).fst; have eZ := aG.size; generalize dE (d : Int) l l.length = sqn at HR7 ⊢; refine hK.out _ _ bG (fun bS => ?_)
  clear hK K
  (try simp only [Act.put, u1, u2, u3])
  refine rk 5 rfl (fun K hK => ?_)
  go_simp
  go_at_call 86
  refine (m7 w1 B av ao 4 cv l.length co xs l (d : Int) sqn (HV.out.below aG (by omega)) (HO.out.below aG (by omega)) (by omega) nM.out.2.2 oM.out.2.2 (by omega) (by omega) (fun i hi => by have := dK (eU HC.out hi); omega)).mono ?_
  rintro e w2 vM; obtain ⟨va, nv, vc, oa, no, oc, rfl, aM, kE⟩ := vM.toY HC.out HR7.out; have O6 := aPo kE; have aIE := aG.trans (aM.mono aG.size); have aK := aPo (HT.out.next aIE); have eD : w2.cell? ⟨w.heap.size, 0, none⟩ = some (.slice av 4 cv) ∧ w2.cell? ⟨w.heap.size, 1, none⟩ = some (.slice ao l.length co) := pair_cells aK.out.fst; refine hK.out _ _ eD (fun dQ => ?_)
  clear hK K
  (try simp only [Act.put, u1, u2, u3])
  refine tj 6 ?_
  refine tj 7 ?_
  obtain ⟨r0, r1⟩ := pair_cells aK.out.res; obtain ⟨f0, f1⟩ := aB aK.out.res; obtain ⟨bR, jT⟩ := aK.out.outX (w1 := w1) (va := va) (nv := nv) (vc := vc) (oa := oa) (no := no) (oc := oc) (code := RC) (zs := RZ) (m := RM) (by omega) O6.out
  have gI : ((w2.setCell ⟨w.heap.size + 1 + 1, 0, none⟩ (.slice va nv vc)).setCell ⟨w.heap.size + 1 + 1, 1, none⟩ (.slice oa no oc)).cell? ⟨w.heap.size, 0, none⟩ = some (.slice av 4 cv) ∧ ((w2.setCell ⟨w.heap.size + 1 + 1, 0, none⟩ (.slice va nv vc)).setCell ⟨w.heap.size + 1 + 1, 1, none⟩ (.slice oa no oc)).cell? ⟨w.heap.size, 1, none⟩ = some (.slice ao l.length co) := pair_cells ((aD _ _ (by omega)).trans aK.out.fst)
  refine rk 8 rfl (fun K hK => ?_)
  go_simp
  refine hK.out _ _ gI (fun lC => ?_)
  clear hK K
  (try simp only [Act.put, u1, u2, u3])
  clear hS bG eD r0 r1 f0 f1 aL bS dQ; generalize (w2.setCell ⟨w.heap.size + 1 + 1, 0, none⟩ (.slice va nv vc)).setCell ⟨w.heap.size + 1 + 1, 1, none⟩ (.slice oa no oc) = wf at bR jT gI ⊢; refine tj 9 ?_
  refine wpAnyH_done (by kernel_rfl) ?_ _
  obtain ⟨p0, p1⟩ := pair_cells bR.out; go_wp2
  exact bodyPost_ret (v := .tuple #[.agg #[.slice va nv vc, .slice oa no oc], .int .i64 RC]) (by simp [results, Tryz.results46, go_sem, p0, p1]) rfl jT.out
 have e7 : (kind == 7) = false := by rw [beq_eq_false_iff_ne]; exact h7
 by_cases h8 : kind = 8
 ·have e8 : (kind == 8) = true := by rw [h8]; rfl
  have HR8 : Hid (kW xs l (d : Int) (qM xs d l) = (RC, RZ, RM)) := by have h := tY.out; unfold jE at h; rwa [if_neg h6, if_neg h7, if_pos h8] at h
  clear h8; clear q0 q1
  go_upto_region 7 with fail
  have hS : w0.drew.cell? ⟨w.heap.size, 0, none⟩ = some (.slice av 4 cv) ∧ w0.drew.cell? ⟨w.heap.size, 1, none⟩ = some (.slice ao l.length co) := pair_cells HT.out.fst
  go_wp2_with fail
  refine wp_region_held_drew (S := fun w' => w'.cell? ⟨w.heap.size, 0, none⟩ = some (.slice av 4 cv) ∧ w'.cell? ⟨w.heap.size, 1, none⟩ = some (.slice ao l.length co)) (by kernel_rfl) hS (fun aL => ?_)
  refine tj 0 ?_
  refine tj 1 ?_
  refine tj 2 ?_
  refine tj 3 ?_
  refine rk 4 rfl (fun K hK => ?_)
  go_simp
  go_at_call 88
  refine (aLd w0.drew B av ao 4 cv l.length co xs l d hd (HO.out.kept (w' := w0.drew) fun _ _ => rfl) (by show B ≤ w0.heap.size; omega) (by omega) HC.out).mono ?_
  rintro e w1 ⟨rfl, gQ⟩; have aG : Below w0.heap.size w0 w1 := Below.mk gQ.os gQ.tape gQ.output gQ.size gQ.block; have bG : w1.cell? ⟨w.heap.size, 0, none⟩ = some (.slice av 4 cv) ∧ w1.cell? ⟨w.heap.size, 1, none⟩ = some (.slice ao l.length co) := pair_cells (HT.out.next aG).fst; have eZ := aG.size; generalize qM xs d l = sqn at HR8 ⊢; refine hK.out _ _ bG (fun bS => ?_)
  clear hK K
  (try simp only [Act.put, u1, u2, u3])
  refine rk 5 rfl (fun K hK => ?_)
  go_simp
  go_at_call 86
  refine (m7 w1 B av ao 4 cv l.length co xs l (d : Int) sqn (HV.out.below aG (by omega)) (HO.out.below aG (by omega)) (by omega) nM.out.2.2 oM.out.2.2 (by omega) (by omega) (fun i hi => by have := dK (eU HC.out hi); omega)).mono ?_
  rintro e w2 vM; obtain ⟨va, nv, vc, oa, no, oc, rfl, aM, kE⟩ := vM.toY HC.out HR8.out; have O6 := aPo kE; have aIE := aG.trans (aM.mono aG.size); have aK := aPo (HT.out.next aIE); have eD : w2.cell? ⟨w.heap.size, 0, none⟩ = some (.slice av 4 cv) ∧ w2.cell? ⟨w.heap.size, 1, none⟩ = some (.slice ao l.length co) := pair_cells aK.out.fst; refine hK.out _ _ eD (fun dQ => ?_)
  clear hK K
  (try simp only [Act.put, u1, u2, u3])
  refine tj 6 ?_
  refine tj 7 ?_
  obtain ⟨r0, r1⟩ := pair_cells aK.out.res; obtain ⟨f0, f1⟩ := aB aK.out.res; obtain ⟨bR, jT⟩ := aK.out.outX (w1 := w1) (va := va) (nv := nv) (vc := vc) (oa := oa) (no := no) (oc := oc) (code := RC) (zs := RZ) (m := RM) (by omega) O6.out
  have gI : ((w2.setCell ⟨w.heap.size + 1 + 1, 0, none⟩ (.slice va nv vc)).setCell ⟨w.heap.size + 1 + 1, 1, none⟩ (.slice oa no oc)).cell? ⟨w.heap.size, 0, none⟩ = some (.slice av 4 cv) ∧ ((w2.setCell ⟨w.heap.size + 1 + 1, 0, none⟩ (.slice va nv vc)).setCell ⟨w.heap.size + 1 + 1, 1, none⟩ (.slice oa no oc)).cell? ⟨w.heap.size, 1, none⟩ = some (.slice ao l.length co) := pair_cells ((aD _ _ (by omega)).trans aK.out.fst)
  refine rk 8 rfl (fun K hK => ?_)
  go_simp
  refine hK.out _ _ gI (fun lC => ?_)
  clear hK K
  (try simp only [Act.put, u1, u2, u3])
  clear hS bG eD r0 r1 f0 f1 aL bS dQ; generalize (w2.setCell ⟨w.heap.size + 1 + 1, 0, none⟩ (.slice va nv vc)).setCell ⟨w.heap.size + 1 + 1, 1, none⟩ (.slice oa no oc) = wf at bR jT gI ⊢; refine tj 9 ?_
  refine wpAnyH_done (by kernel_rfl) ?_ _
  obtain ⟨p0, p1⟩ := pair_cells bR.out; go_wp2
  exact bodyPost_ret (v := .tuple #[.agg #[.slice va nv vc, .slice oa no oc], .int .i64 RC]) (by simp [results, Tryz.results46, go_sem, p0, p1]) rfl jT.out
 have e8 : (kind == 8) = false := by rw [beq_eq_false_iff_ne]; exact h8
 by_cases h9 : kind = 9
 ·have e9 : (kind == 9) = true := by rw [h9]; rfl
  have V5 : Hid (kW xs l dv sq = (RC, RZ, RM)) := by have h := tY.out; unfold jE at h; rwa [if_neg h6, if_neg h7, if_neg h8, if_pos h9] at h
  clear h6 h7 h8 h9
  go_wp2_with fail
  refine (m7 w0 B av ao 4 cv l.length co xs l dv sq HV.out HO.out (by omega) nM.out.2.2 oM.out.2.2 (by omega) (by omega) (fun i hi => by have := dK (eU HC.out hi); omega)).mono ?_
  rintro e w1 vM; obtain ⟨va, nv, vc, oa, no, oc, rfl, hb, kE⟩ := vM.toY HC.out V5.out; have bC := aPo (HT.out.next hb); have O6 := aPo kE; clear q0 q1 k0 k1 k2 k3 k4 HT hb kE vM; obtain ⟨r0, r1⟩ := pair_cells bC.out.res; obtain ⟨f0, f1⟩ := aB bC.out.res; obtain ⟨bR, jT⟩ := bC.out.outX (w1 := w0) (va := va) (nv := nv) (vc := vc) (oa := oa) (no := no) (oc := oc) (code := RC) (zs := RZ) (m := RM) (by omega) O6.out
  go_wp2
  generalize (w1.setCell ⟨w.heap.size + 1 + 1, 0, none⟩ (.slice va nv vc)).setCell ⟨w.heap.size + 1 + 1, 1, none⟩ (.slice oa no oc) = wf at bR jT ⊢; obtain ⟨p0, p1⟩ := pair_cells bR.out; exact bodyPost_ret (v := .tuple #[.agg #[.slice va nv vc, .slice oa no oc], .int .i64 (RC)]) (by simp [results, Tryz.results46, go_sem, p0, p1]) rfl jT.out
 have e9 : (kind == 9) = false := by rw [beq_eq_false_iff_ne]; exact h9
 have fQ : Hid ((if (oneOf (aI item l l.length) (decide ((bE gT item l l.length).kind = 4)) kind item qty).2 = 0 then (if (aQ xs l d (oneOf (aI item l l.length) (decide ((bE gT item l l.length).kind = 4)) kind item qty).1).ok = true then ((0 : Int), eE xs d, cI l d (aQ xs l d (oneOf (aI item l l.length) (decide ((bE gT item l l.length).kind = 4)) kind item qty).1)) else (4, [], [])) else ((oneOf (aI item l l.length) (decide ((bE gT item l l.length).kind = 4)) kind item qty).2, [], [])) = (RC, RZ, RM)) := by
  have h := tY.out; unfold jE at h; rw [if_neg h6, if_neg h7, if_neg h8, if_neg h9] at h; exact h
 clear tY h6 h7 h8 h9
 go_wp2_with fail
 refine (aMN w0 B av ao 4 cv l.length co xs l kind qty dv sq item HO.out (by omega) (by omega) HC.out (by have := xL HC.out item l.length aPq; omega)).mono ?_
 have aIu := aAj (aI item l l.length) (decide ((bE gT item l l.length).kind = 4)) kind item qty
 generalize oneOf (aI item l l.length) (decide ((bE gT item l l.length).kind = 4)) kind item qty = oc at aIu fQ ⊢
 obtain ⟨op, code⟩ := oc
 have hi8 : op.item.size ≤ 8 := by
  rcases aIu with e | e
  ·have e : op.item = item := e
   rw [e]; exact hi
  ·have e : op.item = ⟨#[]⟩ := e
   rw [e]; exact Nat.zero_le _
 rintro e w1 ⟨rfl, aG⟩
 have bC := aPo (HT.out.next aG)
 have jR := aPo (HV.out.below aG (by omega))
 have dD := aPo (HO.out.below aG (by omega))
 have eZ := aG.size
 clear aG HT HV HO q0 q1 k0 k1 k2 k3 k4 e6 e7 e8 e9 aIu
 go_upto_region 11 with fail
 have aM : Below w1.heap.size w1 (w1.alloc (.cells #[.int .i64 op.dev, .int .i64 op.seq, .int .i64 op.stamp, .int .i64 op.kind, .string op.item, .int .i64 op.qty, .int .i64 op.level, .int .i64 op.undos] 50)) := (Below.refl _ w1).alloc aPq _
 have vY : Hid ((w1.alloc (.cells #[.int .i64 op.dev, .int .i64 op.seq, .int .i64 op.stamp, .int .i64 op.kind, .string op.item, .int .i64 op.qty, .int .i64 op.level, .int .i64 op.undos] 50)).heap[w1.heap.size]? = some (.cells #[.int .i64 op.dev, .int .i64 op.seq, .int .i64 op.stamp, .int .i64 op.kind, .string op.item, .int .i64 op.qty, .int .i64 op.level, .int .i64 op.undos] 50 (0, 0))) := bX (Below.refl _ _)
 generalize w1.alloc (.cells #[.int .i64 op.dev, .int .i64 op.seq, .int .i64 op.stamp, .int .i64 op.kind, .string op.item, .int .i64 op.qty, .int .i64 op.level, .int .i64 op.undos] 50) = w2 at aM vY ⊢
 have aK := aPo (bC.out.next aM)
 have kQ := aPo (jR.out.below aM (by omega))
 have gR := aPo (dD.out.below aM (by omega))
 have eC := aM.size
 clear aM bC jR dD
 by_cases A7 : code = 0
 rotate_left
 ·have en : (code != 0) = true := by simpa using A7
  have h3 := fQ.out
  try dsimp only at h3
  rw [if_neg A7] at h3; injection h3 with e1 h4; injection h4 with e2 e3; subst e1 e2 e3; have HN0 := aPo A7; clear A7; obtain ⟨r0, r1⟩ := pair_cells aK.out.res; obtain ⟨f0, f1⟩ := aB aK.out.res; obtain ⟨bR, jT⟩ := aK.out.outX (w1 := w2) (va := none) (nv := 0) (vc := 0) (oa := none) (no := 0) (oc := 0) (code := code) (zs := []) (m := []) (by omega) (fun h => absurd h HN0.out)
  go_wp2
  generalize (w2.setCell ⟨w.heap.size + 1 + 1, 0, none⟩ (.slice none 0 0)).setCell ⟨w.heap.size + 1 + 1, 1, none⟩ (.slice none 0 0) = wf at bR jT ⊢; obtain ⟨p0, p1⟩ := pair_cells bR.out; exact bodyPost_ret (v := .tuple #[.agg #[.slice none 0 0, .slice none 0 0], .int .i64 (code)]) (by simp [results, Tryz.results46, go_sem, p0, p1]) rfl jT.out
 subst A7
 have pW := HBn.out
 obtain ⟨okk, iC, m', aC4, wF⟩ := aGJ xs l d 160 (by omega) op pW hd (by omega)
 have wU := aPo aC4
 have rO := aPo wF
 clear wF aC4 pW
 obtain ⟨q0, q1⟩ := pair_cells aK.out.fst
 obtain ⟨d0, d1, d2, d3, d4, d5, d6, d7⟩ := aN vY.out
 go_wp2_with fail
 refine (rO.out.2 w2 B av ao cv co kQ.out gR.out (by omega) nM.out oM.out).mono ?_
 rintro e w3 ⟨va, vc, oa, oc, rfl, gW, eA, aV, c1, c2⟩
 have bH := aPo (aK.out.next aV)
 have HA := aPo gW
 have HD := aPo eA
 have D1 := aPo c1
 have HC2 := aPo c2
 have gO := aV.size
 clear gW eA aV c1 c2 aK q0 q1 d0 d1 d2 d3 d4 d5 d6 d7 vY kQ gR
 go_upto_region 14 with fail
 have dJ : Below w3.heap.size w3 (w3.alloc (.cells #[.slice va iC.length vc, .slice oa m'.length oc] 27)) := (Below.refl _ w3).alloc aPq _
 have G7 : Hid ((w3.alloc (.cells #[.slice va iC.length vc, .slice oa m'.length oc] 27)).heap[w3.heap.size]? = some (.cells #[.slice va iC.length vc, .slice oa m'.length oc] 27 (0, 0))) := bX (Below.refl _ _)
 generalize w3.alloc (.cells #[.slice va iC.length vc, .slice oa m'.length oc] 27) = w4 at dJ G7 ⊢
 have gB := aPo (bH.out.next dJ)
 have HA4 := aPo (HA.out.below dJ aPq)
 have qY := aPo (HD.out.below dJ aPq)
 have F3 := dJ.size
 clear dJ bH HA HD
 have h3 := fQ.out
 try dsimp only at h3
 (first | rw [if_pos rfl] at h3 | rw [if_pos trivial] at h3)
 rw [← wU.out] at h3
 cases okk
 ·rw [if_neg (by decide)] at h3
  injection h3 with e1 h4; injection h4 with e2 e3; subst e1 e2 e3; obtain ⟨r0, r1⟩ := pair_cells gB.out.res; obtain ⟨f0, f1⟩ := aB gB.out.res; obtain ⟨bR, jT⟩ := gB.out.outX (w1 := w4) (va := none) (nv := 0) (vc := 0) (oa := none) (no := 0) (oc := 0) (code := 4) (zs := []) (m := []) (by omega) (fun h => absurd h (by omega))
  go_wp2
  generalize (w4.setCell ⟨w.heap.size + 1 + 1, 0, none⟩ (.slice none 0 0)).setCell ⟨w.heap.size + 1 + 1, 1, none⟩ (.slice none 0 0) = wf at bR jT ⊢; obtain ⟨p0, p1⟩ := pair_cells bR.out; exact bodyPost_ret (v := .tuple #[.agg #[.slice none 0 0, .slice none 0 0], .int .i64 (4)]) (by simp [results, Tryz.results46, go_sem, p0, p1]) rfl jT.out
 obtain ⟨yU, R7, T0⟩ := rO.out.1 rfl
 rw [if_pos rfl, ← R7, ← T0] at h3
 injection h3 with e1 h4
 injection h4 with e2 e3
 subst e1 e2 e3
 clear R7 T0
 have D1 := D1
 have HA4 := HA4
 rw [yU.len] at G7 HA4 D1 ⊢
 have O6 : Hid ((0 : Int) = 0 → sD w4 w2.heap.size w4.heap.size va 4 vc oa m'.length oc iC m') := fun _ => ⟨yU.len.symm, rfl, HA4.out.more aPq F3, qY.out.more aPq F3, D1.out, HC2.out⟩
 clear yU
 obtain ⟨n0, n1⟩ := pair_cells G7.out
 obtain ⟨r0, r1⟩ := pair_cells gB.out.res
 obtain ⟨f0, f1⟩ := aB gB.out.res
 obtain ⟨bR, jT⟩ := gB.out.outX (w1 := w2) (va := va) (nv := 4) (vc := vc) (oa := oa) (no := m'.length) (oc := oc) (code := 0) (zs := iC) (m := m') (by omega) O6.out
 go_wp2
 generalize (w4.setCell ⟨w.heap.size + 1 + 1, 0, none⟩ (.slice va 4 vc)).setCell ⟨w.heap.size + 1 + 1, 1, none⟩ (.slice oa m'.length oc) = wf at bR jT ⊢
 obtain ⟨p0, p1⟩ := pair_cells bR.out
 exact bodyPost_ret (v := .tuple #[.agg #[.slice va 4 vc, .slice oa m'.length oc], .int .i64 (0)]) (by simp [results, Tryz.results46, go_sem, p0, p1]) rfl jT.out
theorem aIM {kind : Int} {item : ByteArray} {qty dv sq : Int} (h : eB kind item qty dv sq = true) : item.size ≤ 8 := by
 unfold eB at h
 have hb : fJ item = true → item.size ≤ 8 := fun h => by
  unfold fJ at h; simp only [Bool.and_eq_true, decide_eq_true_eq] at h
  omega
 have he : item = ⟨#[]⟩ → item.size ≤ 8 := fun h => by rw [h]; exact Nat.zero_le _
 split at h
 ·rw [Bool.and_eq_true] at h; exact hb h.1
 ·split at h
  ·rw [Bool.and_eq_true] at h; exact hb h.1
  ·split at h
   ·exact he (of_decide_eq_true h).1
   ·split at h
    ·rw [Bool.and_eq_true] at h; exact he (of_decide_eq_true h.1).1
    ·cases h
set_option maxHeartbeats 40000000 in
theorem aE0 (w : World) (B : Nat) (av ao : Option Addr) (cv no co : Nat) (xs : List Int) (l : List aA) (kind qty dv sq : Int) (item : ByteArray) (hx : Ints w B av 4 xs) (h : bP w B ao no l) (hB : B ≤ w.heap.size) (bW : bM av 4 cv) (cB : bM ao no co) (hi : item.size ≤ 1048576) (dev : Int) (hm : ∀ i, i < no → (aC l i).item.size ≤ 1048576) (hn : no ≤ 1048576) {RC : Int} {RZ : List Int} {RM : List aA} (hR : dI xs l dev kind item qty dv sq = (RC, RZ, RM)) :
  Calls Tryz.prog 18 #[.agg #[.slice av 4 cv, .slice ao no co], .int .i64 dev, .agg #[.int .i64 kind, .string item, .int .i64 qty, .int .i64 dv, .int .i64 sq]] w (L2 RC RZ RM w) := by
 have tY := aPo hR
 clear hR
 obtain rfl := h.1
 have hT := tF.mk0 w #[.slice av 4 cv, .slice ao l.length co] #[.int .i64 kind, .string item, .int .i64 qty, .int .i64 dv, .int .i64 sq] #[.slice none 0 0, .slice none 0 0]
 have HV := aPo (hx.below hT.bel hB)
 have HO := aPo (h.below hT.bel hB)
 have HT := aPo hT
 have nM := aPo bW
 have oM := aPo cB
 have HM := aPo hm
 clear hm
 clear hx h hT bW cB
 go_enter Tryz.func18, Tryz.ntmps18
 go_upto_region 1 with fail
 generalize ((w.alloc (.cells #[.slice av 4 cv, .slice ao l.length co] 27)).alloc (.cells #[.int .i64 kind, .string item, .int .i64 qty, .int .i64 dv, .int .i64 sq] 29)).alloc (.cells #[.slice none 0 0, .slice none 0 0] 27) = w0 at HV HO HT ⊢
 have jW := HT.out.lt
 obtain ⟨q0, q1⟩ := pair_cells HT.out.fst
 obtain ⟨k0, k1, k2, k3, k4⟩ := Y0 HT.out.snd
 have finish : ∀ (w1 : World), tF w w1 #[.slice av 4 cv, .slice ao l.length co] #[.int .i64 kind, .string item, .int .i64 qty, .int .i64 dv, .int .i64 sq] #[.slice none 0 0, .slice none 0 0] → True := fun _ _ => trivial
 clear finish
 obtain ⟨cb, hcb⟩ : ∃ b, aE xs l = b := ⟨_, rfl⟩
 have jU := aPo hcb
 clear hcb
 go_wp2_with fail
 refine (iW w0 B av ao 4 cv l.length co xs l HV.out HO.out (by omega) (by omega) hn HM.out).mono ?_
 rw [jU.out]
 rintro e w1 ⟨rfl, aG⟩
 have bC := aPo (HT.out.next aG)
 have jR := aPo (HV.out.below aG (by omega))
 have dD := aPo (HO.out.below aG (by omega))
 have eZ := aG.size
 clear aG HT HV HO q0 q1 k0 k1 k2 k3 k4
 cases cb
 ·have h3 := tY.out
  unfold dI at h3; rw [if_neg (by rintro ⟨a1, a2, a3⟩; first | exact Bool.false_ne_true (jU.out.symm.trans a1) | exact Bool.false_ne_true (HDb.out.symm.trans a2) | exact Bool.false_ne_true (W4.out.symm.trans a3))] at h3
  injection h3 with e1 h4; injection h4 with e2 e3; subst e1 e2 e3; obtain ⟨r0, r1⟩ := pair_cells bC.out.res; obtain ⟨f0, f1⟩ := aB bC.out.res; obtain ⟨bR, jT⟩ := bC.out.outN (w1 := w1) (va := none) (nv := 0) (vc := 0) (oa := none) (no := 0) (oc := 0) (code := 1) (zs := []) (m := []) (by omega) (sD.nil _ _ _)
  go_wp2
  generalize (w1.setCell ⟨w.heap.size + 1 + 1, 0, none⟩ (.slice none 0 0)).setCell ⟨w.heap.size + 1 + 1, 1, none⟩ (.slice none 0 0) = wf at bR jT ⊢; obtain ⟨p0, p1⟩ := pair_cells bR.out; exact bodyPost_ret (v := .tuple #[.agg #[.slice none 0 0, .slice none 0 0], .int .i64 (1)]) (by simp [results, Tryz.results18, go_sem, p0, p1]) rfl jT.out
 go_wp2_with fail
 refine (fT dev w1).mono ?_
 rintro e w2 ⟨rfl, rfl⟩
 obtain ⟨db, F6⟩ : ∃ b, cV dev 0 3 = b := ⟨_, rfl⟩
 have HDb := aPo F6
 rw [F6]
 clear F6
 cases db
 ·have h3 := tY.out
  unfold dI at h3; rw [if_neg (by rintro ⟨a1, a2, a3⟩; first | exact Bool.false_ne_true (jU.out.symm.trans a1) | exact Bool.false_ne_true (HDb.out.symm.trans a2) | exact Bool.false_ne_true (W4.out.symm.trans a3))] at h3
  injection h3 with e1 h4; injection h4 with e2 e3; subst e1 e2 e3; obtain ⟨r0, r1⟩ := pair_cells bC.out.res; obtain ⟨f0, f1⟩ := aB bC.out.res; obtain ⟨bR, jT⟩ := bC.out.outN (w1 := w1) (va := none) (nv := 0) (vc := 0) (oa := none) (no := 0) (oc := 0) (code := 1) (zs := []) (m := []) (by omega) (sD.nil _ _ _)
  go_wp2
  generalize (w1.setCell ⟨w.heap.size + 1 + 1, 0, none⟩ (.slice none 0 0)).setCell ⟨w.heap.size + 1 + 1, 1, none⟩ (.slice none 0 0) = wf at bR jT ⊢; obtain ⟨p0, p1⟩ := pair_cells bR.out; exact bodyPost_ret (v := .tuple #[.agg #[.slice none 0 0, .slice none 0 0], .int .i64 (1)]) (by simp [results, Tryz.results18, go_sem, p0, p1]) rfl jT.out
 obtain ⟨k0, k1, k2, k3, k4⟩ := Y0 bC.out.snd
 go_wp2_with fail
 refine (aJR kind item qty dv sq (by omega) w1).mono ?_
 obtain ⟨kb, F5⟩ : ∃ b, eB kind item qty dv sq = b := ⟨_, rfl⟩
 have W4 := aPo F5
 rw [F5]
 clear F5
 rintro e w2 ⟨rfl, aM⟩
 have aK := aPo (bC.out.next aM)
 have kQ := aPo (jR.out.below aM (by omega))
 have gR := aPo (dD.out.below aM (by omega))
 have eC := aM.size
 clear aM bC jR dD k0 k1 k2 k3 k4
 cases kb
 ·have h3 := tY.out
  unfold dI at h3; rw [if_neg (by rintro ⟨a1, a2, a3⟩; first | exact Bool.false_ne_true (jU.out.symm.trans a1) | exact Bool.false_ne_true (HDb.out.symm.trans a2) | exact Bool.false_ne_true (W4.out.symm.trans a3))] at h3
  injection h3 with e1 h4; injection h4 with e2 e3; subst e1 e2 e3; obtain ⟨r0, r1⟩ := pair_cells aK.out.res; obtain ⟨f0, f1⟩ := aB aK.out.res; obtain ⟨bR, jT⟩ := aK.out.outN (w1 := w2) (va := none) (nv := 0) (vc := 0) (oa := none) (no := 0) (oc := 0) (code := 1) (zs := []) (m := []) (by omega) (sD.nil _ _ _)
  go_wp2
  generalize (w2.setCell ⟨w.heap.size + 1 + 1, 0, none⟩ (.slice none 0 0)).setCell ⟨w.heap.size + 1 + 1, 1, none⟩ (.slice none 0 0) = wf at bR jT ⊢; obtain ⟨p0, p1⟩ := pair_cells bR.out; exact bodyPost_ret (v := .tuple #[.agg #[.slice none 0 0, .slice none 0 0], .int .i64 (1)]) (by simp [results, Tryz.results18, go_sem, p0, p1]) rfl jT.out
 have hi := aIM W4.out
 obtain ⟨d, rfl, hd⟩ : ∃ d : Nat, dev = (d : Int) ∧ d < 4 := by
  have := HDb.out; rw [gJ] at this; exact ⟨dev.toNat, by omega, by omega⟩
 have hl := eF jU.out
 obtain ⟨LC, LZ, LM, hL6⟩ : ∃ c z m, jE xs l d kind item qty dv sq = (c, z, m) := ⟨_, _, _, rfl⟩
 have lM : Hid ((if LC = 0 then (LC, LZ, LM) else (LC, xs, l)) = (RC, RZ, RM)) := by
  have h := tY.out; unfold dI at h; rw [if_pos ⟨jU.out, HDb.out, W4.out⟩, Int.toNat_natCast, hL6] at h; exact h
 have HL6 := aPo hL6
 clear hL6 tY
 obtain ⟨q0, q1⟩ := pair_cells aK.out.fst
 obtain ⟨k0, k1, k2, k3, k4⟩ := Y0 aK.out.snd
 go_wp2_with fail
 refine (aH3 w2 B av ao cv l.length co d xs l kind qty dv sq item kQ.out gR.out (by omega) nM.out oM.out hi hd jU.out HL6.out).mono ?_
 rintro e w3 ⟨va, nv, vc, oa, no, oc, rfl, aV, kE⟩
 have bH := aPo (aK.out.next aV)
 have O2 := aPo (kQ.out.below aV (by omega))
 have wD := aPo (gR.out.below aV (by omega))
 have O6 := aPo kE
 have gO := aV.size
 clear aV aK kQ gR kE q0 q1 k0 k1 k2 k3 k4
 go_upto_region 4 with fail
 have dJ : Below w3.heap.size w3 (w3.alloc (.cells #[.slice va nv vc, .slice oa no oc] 27)) := (Below.refl _ w3).alloc aPq _
 have G7 : Hid ((w3.alloc (.cells #[.slice va nv vc, .slice oa no oc] 27)).heap[w3.heap.size]? = some (.cells #[.slice va nv vc, .slice oa no oc] 27 (0, 0))) := bX (Below.refl _ _)
 generalize w3.alloc (.cells #[.slice va nv vc, .slice oa no oc] 27) = w4 at dJ G7 ⊢
 have gB := aPo (bH.out.next dJ)
 have qI := aPo (O2.out.below dJ (by omega))
 have oW := aPo (wD.out.below dJ (by omega))
 have aOq : Hid (LC = 0 → sD w4 w2.heap.size w4.heap.size va nv vc oa no oc LZ LM) := fun h0 => ((O6.out h0).below dJ aPq).more aPq dJ.size
 have F3 := dJ.size
 clear dJ bH O2 wD O6
 by_cases A7 : LC = 0
 rotate_left
 ·have en : (LC != 0) = true := by simpa using A7
  have h3 := lM.out; rw [if_neg A7] at h3; injection h3 with e1 h4; injection h4 with e2 e3; subst e1 e2 e3; have HN0 := aPo A7; clear A7; obtain ⟨q0, q1⟩ := pair_cells gB.out.fst
  go_wp2_with fail
  refine (aCN w4 B av ao 4 cv l.length co xs l qI.out oW.out (by omega) nM.out.2.2 oM.out.2.2 (by omega) (by omega)).mono ?_
  rintro e w5 ⟨ra, rc, sa, sc, rfl, ho1, ho2, bA, yN, hq2⟩; have aOp : Hid (sD w5 w4.heap.size w5.heap.size ra xs.length rc sa l.length sc xs l) := ⟨rfl, rfl, ho1, ho2, yN, hq2⟩; clear ho1 ho2 yN hq2; have tX := aPo (gB.out.next bA); have hs5 := bA.size; clear bA gB qI oW q0 q1; obtain ⟨r0, r1⟩ := pair_cells tX.out.res; obtain ⟨f0, f1⟩ := aB tX.out.res; obtain ⟨bR, jT⟩ := tX.out.outN (w1 := w4) (va := ra) (nv := xs.length) (vc := rc) (oa := sa) (no := l.length) (oc := sc) (code := LC) (zs := xs) (m := l) (by omega) aOp.out
  go_wp2
  generalize (w5.setCell ⟨w.heap.size + 1 + 1, 0, none⟩ (.slice ra xs.length rc)).setCell ⟨w.heap.size + 1 + 1, 1, none⟩ (.slice sa l.length sc) = wf at bR jT ⊢; obtain ⟨p0, p1⟩ := pair_cells bR.out; exact bodyPost_ret (v := .tuple #[.agg #[.slice ra xs.length rc, .slice sa l.length sc], .int .i64 (LC)]) (by simp [results, Tryz.results18, go_sem, p0, p1]) rfl jT.out
 subst A7
 have h3 := lM.out
 rw [if_pos rfl] at h3
 injection h3 with e1 h4
 injection h4 with e2 e3
 subst e1 e2 e3
 obtain ⟨n0, n1⟩ := pair_cells G7.out
 obtain ⟨r0, r1⟩ := pair_cells gB.out.res
 obtain ⟨f0, f1⟩ := aB gB.out.res
 obtain ⟨bR, jT⟩ := gB.out.outN (w1 := w2) (va := va) (nv := nv) (vc := vc) (oa := oa) (no := no) (oc := oc) (code := 0) (zs := LZ) (m := LM) (by omega) (aOq.out rfl)
 go_wp2
 generalize (w4.setCell ⟨w.heap.size + 1 + 1, 0, none⟩ (.slice va nv vc)).setCell ⟨w.heap.size + 1 + 1, 1, none⟩ (.slice oa no oc) = wf at bR jT ⊢
 obtain ⟨p0, p1⟩ := pair_cells bR.out
 exact bodyPost_ret (v := .tuple #[.agg #[.slice va nv vc, .slice oa no oc], .int .i64 (0)]) (by simp [results, Tryz.results18, go_sem, p0, p1]) rfl jT.out
end Go.Proofs.YthkagbnpcjidfaaGreatDoor
