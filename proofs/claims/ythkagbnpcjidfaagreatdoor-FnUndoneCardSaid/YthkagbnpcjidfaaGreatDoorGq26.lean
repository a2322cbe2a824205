/- Walks and mathematics that several claims share, part 26. -/
import Derived.Test.YthkagbnpcjidfaaGreatDoorGq25
import Derived.Deep.Cut
namespace Go.Proofs.YthkagbnpcjidfaaGreatDoor
set_option maxRecDepth 100000
open Go.RowKit
set_option linter.unusedVariables false
set_option linter.unusedSimpArgs false
theorem aKj {xs : List Int} {l : List aA} {d k : Nat} {L : List ByteArray} {s : ByteArray} (hs : s = L.getD k ⟨#[]⟩) (h : bW l s = true) : iG xs l d L (k + 1) = iG xs l d L k := by
 show (iG xs l d L k).bind (eS l d (L.getD k ⟨#[]⟩)) = _
 rw [← hs]
 cases iG xs l d L k with
 | none => rfl
 | some q => show eS l d s q = _; unfold eS; rw [if_pos h]
theorem aBe {xs : List Int} {l : List aA} {d k : Nat} {L : List ByteArray} {s : ByteArray} {zs : List Int} {m : List aA} (hs : s = L.getD k ⟨#[]⟩) (h : bW l s = false) (eY : ∃ c, iG xs l d L k = some (zs, m, c)) (hok : false = (aK zs m d (kM l s)).ok) (hk : k < L.length) : iG xs l d L L.length = none := by
 obtain ⟨c, eY⟩ := eY
 have e : iG xs l d L (k + 1) = none := by
  show (iG xs l d L k).bind (eS l d (L.getD k ⟨#[]⟩)) = _
  rw [← hs, eY]
  show eS l d s (zs, m, c) = _
  unfold eS; rw [if_neg (by rw [h]; decide)]
  dsimp only
  rw [if_neg (by rw [← hok]; decide)]
 have := aBZ e (L.length - (k + 1))
 rwa [Nat.add_sub_cancel' (by omega : k + 1 ≤ L.length)] at this
theorem aCL {xs : List Int} {l : List aA} {d k : Nat} {L : List ByteArray} {s : ByteArray} {zs iP : List Int} {m m' : List aA} (hs : s = L.getD k ⟨#[]⟩) (h : bW l s = false) (eY : ∃ c, iG xs l d L k = some (zs, m, c)) (hok : true = (aK zs m d (kM l s)).ok) (hz : iP = dH zs d) (hm : m' = bH m d (aK zs m d (kM l s))) : iG xs l d L (k + 1) = some (iP, m', 0) := by
 obtain ⟨c, eY⟩ := eY
 show (iG xs l d L k).bind (eS l d (L.getD k ⟨#[]⟩)) = _
 rw [← hs, eY]
 show eS l d s (zs, m, c) = _
 unfold eS
 rw [if_neg (by rw [h]; decide)]
 dsimp only
 rw [if_pos hok.symm, ← hz, ← hm]
structure yJ (w w1 wr : World) (nb : Nat) (code : Value) (k : Nat) (st : Option (List Int × List aA × Int)) : Prop where
 bel : Below w.heap.size w wr
 size : w1.heap.size ≤ wr.heap.size
 kept : ∀ j, j < w1.heap.size → j ≠ nb → wr.heap[j]? = w1.heap[j]?
 now : ∃ zs m va vc oa oc, wr.heap[nb]? = some (.cells #[.slice va 4 vc, .slice oa m.length oc] 27 (0, 0)) ∧ Ints wr wr.heap.size va 4 zs ∧ bR wr wr.heap.size oa m.length m ∧ bY va 4 vc ∧ bY oa m.length oc ∧ tC zs m (160 + k) ∧ ((code = .int .i64 2 ∧ st = some (zs, m, 2)) ∨ (code = .int .i64 0 ∧ st = some (zs, m, 0) ∧ Own wr (nb + 1) wr.heap.size va 4 zs ∧ bE wr (nb + 1) wr.heap.size oa m.length m))
theorem yJ.step {w w1 wr w2 : World} {nb : Nat} {code : Value} {k : Nat} {st : Option (List Int × List aA × Int)} (h : yJ w w1 wr nb code k st) (hw : nb < w1.heap.size) (hb : Below wr.heap.size wr w2) : yJ w w1 w2 nb code k st := by
 have hs := h.size
 have eB := hb.size
 have iD := h.bel.size
 obtain ⟨zs, m, va, vc, oa, oc, e, hi, ho, c1, c2, hB, hc⟩ := h.now
 refine ⟨h.bel.trans (hb.mono iD), by omega, fun j h1 h2 => (hb.block j (by omega)).trans (h.kept j h1 h2), zs, m, va, vc, oa, oc, (hb.block _ (by omega)).trans e, (hi.below hb aRr).more eB, (ho.below hb aRr).more eB, c1, c2, hB, ?_⟩
 rcases hc with hc | ⟨hc, eY, h1, h2⟩
 ·exact .inl hc
 ·exact .inr ⟨hc, eY, (h1.below hb aRr).more aRr eB, (h2.below hb aRr).more aRr eB⟩
theorem yJ.more {w w1 wr : World} {nb : Nat} {code : Value} {k k' : Nat} {st st' : Option (List Int × List aA × Int)} (h : yJ w w1 wr nb code k st) (hk : k ≤ k') (hs : st' = st) : yJ w w1 wr nb code k' st' := by
 subst hs
 obtain ⟨zs, m, va, vc, oa, oc, e, hi, ho, c1, c2, hB, hc⟩ := h.now
 exact ⟨h.bel, h.size, h.kept, zs, m, va, vc, oa, oc, e, hi, ho, c1, c2, hB.more (by omega), hc⟩
theorem yJ.put {w w1 wr : World} {nb : Nat} {code : Value} {k k' : Nat} {st st' : Option (List Int × List aA × Int)} (h : yJ w w1 wr nb code k st) (hw : w.heap.size ≤ nb) {zs : List Int} {m : List aA} {va oa : Option Addr} {vc oc lo hi : Nat} (h1 : Own wr lo hi va 4 zs) (h2 : bE wr lo hi oa m.length m) (iS : nb + 1 ≤ lo) (hhi : hi ≤ wr.heap.size) (c1 : bY va 4 vc) (c2 : bY oa m.length oc) (hB : tC zs m (160 + k')) (eY : st' = some (zs, m, 0)) :
  yJ w w1 ((wr.setCell ⟨nb, 0, none⟩ (.slice va 4 vc)).setCell ⟨nb, 1, none⟩ (.slice oa m.length oc)) nb (.int .i64 0) k' st' := by
 have hs := h.size
 obtain ⟨iP, m', va', F5, A6, F9, e, _⟩ := h.now
 have hz := bB wr nb (.slice va 4 vc) (.slice oa m.length oc)
 have g1 : Own ((wr.setCell ⟨nb, 0, none⟩ (.slice va 4 vc)).setCell ⟨nb, 1, none⟩ (.slice oa m.length oc)) lo hi va 4 zs := h1.kept fun j a1 a2 => aE _ _ (by omega)
 have g2 : bE ((wr.setCell ⟨nb, 0, none⟩ (.slice va 4 vc)).setCell ⟨nb, 1, none⟩ (.slice oa m.length oc)) lo hi oa m.length m := h2.kept fun j a1 a2 => aE _ _ (by omega)
 refine ⟨(h.bel.setCell (p := ⟨nb, 0, none⟩) hw _).setCell (p := ⟨nb, 1, none⟩) hw _, by rw [hz]; exact hs, fun j a1 a2 => (aE _ _ a2).trans (h.kept j a1 a2), zs, m, va, vc, oa, oc, cH _ _ e, ?_, ?_, c1, c2, hB, .inr ⟨rfl, eY, ?_, ?_⟩⟩
 ·rw [hz]; exact g1.ints.more hhi
 ·rw [hz]; exact g2.ops.more hhi
 ·rw [hz]; exact g1.more iS hhi
 ·rw [hz]; exact g2.more iS hhi
theorem aIk (zs : List Int) (m : List aA) (d N : Nat) (hN : N ≤ 99999) (o : aA) (hB : tC zs m N) (hd : d < 4) (hi : o.item.size ≤ 1048576) :
  ∃ (ok : Bool) (iP : List Int) (m' : List aA), ok = (aK zs m d o).ok ∧ (ok = true → tC iP m' (N + 1) ∧ iP = dH zs d ∧ m' = bH m d (aK zs m d o)) ∧ ∀ (w : World) (B : Nat) (av ao : Option Addr) (cv co : Nat), Ints w B av 4 zs → bR w B ao m.length m → B ≤ w.heap.size → bY av 4 cv → bY ao m.length co →
   Calls Tryz.prog 90 #[.agg #[.slice av 4 cv, .slice ao m.length co], .int .i64 (d : Int), .agg #[.int .i64 o.dev, .int .i64 o.seq, .int .i64 o.stamp, .int .i64 o.kind, .string o.item, .int .i64 o.qty, .int .i64 o.level, .int .i64 o.undos]] w (aKy ok iP m' w) := by
 have hm := hB.most
 cases hok : (aK zs m d o).ok
 ·exact ⟨false, [], [], rfl, (fun h => by cases h), fun w B av ao cv co h1 h2 h3 h4 h5 => aMf w B av ao cv m.length co d zs m o h1 h2 h3 h4.2.2 h5 hd (by omega) (hB.num d hd) hB.stamp hi hok⟩
 ·exact ⟨true, _, _, rfl, fun _ => ⟨hB.put hd hok, rfl, rfl⟩, fun w B av ao cv co h1 h2 h3 h4 h5 => aJx w B av ao cv m.length co d zs m o h1 h2 h3 h4.2.2 h5 hd (by omega) (hB.num d hd) hB.stamp hi hok⟩
set_option maxHeartbeats 40000000 in
theorem aIl (w : World) (B : Nat) (av ao : Option Addr) (cv no co d : Nat) (xs : List Int) (l : List aA) (hx : Ints w B av 4 xs) (h : bR w B ao no l) (hB : B ≤ w.heap.size) (bU : bY av 4 cv) (cC : bY ao no co) (hd : d < 4) (hc : aD xs l = true) (R : Int × List Int × List aA) (hR : oW xs l d = R) :
  Calls Tryz.prog 85 #[.agg #[.slice av 4 cv, .slice ao no co], .int .i64 (d : Int)] w (aHe R w) := by
 obtain rfl := h.1
 have hT := sW.mk0 w #[.slice av 4 cv, .slice ao l.length co] #[.slice none 0 0, .slice none 0 0] 27
 have xF : ((w.alloc (.cells #[.slice av 4 cv, .slice ao l.length co] 27)).alloc (.cells #[.slice none 0 0, .slice none 0 0] 27)).heap.size = w.heap.size + 2 := by simp
 have HV := aRp (hx.below hT.bel hB)
 have HO := aRp (h.below hT.bel hB)
 have HT := aRp hT
 have HTs := aRp xF
 have yX := aRp h
 have HC := aRp hc
 have oH := aRp bU
 have pH := aRp cC
 have HBn := aRp (tC.of_cart hc)
 have hl := eF hc
 clear hx h hT xF hc bU cC
 go_enter Tryz.func85, Tryz.ntmps85
 go_upto_region 1 with fail
 generalize (w.alloc (.cells #[.slice av 4 cv, .slice ao l.length co] 27)).alloc (.cells #[.slice none 0 0, .slice none 0 0] 27) = w0 at HV HO HT HTs ⊢
 have lC := HT.out.bel.size
 obtain ⟨q0, q1⟩ := pair_cells HT.out.fst
 go_upto_region 3 with fail
 have aF : Below w0.heap.size w0 (w0.alloc (.cells #[.slice av 4 cv, .slice ao l.length co] 27)) := (Below.refl _ w0).alloc aRr _
 have J6 : Hid ((w0.alloc (.cells #[.slice av 4 cv, .slice ao l.length co] 27)).heap[w0.heap.size]? = some (.cells #[.slice av 4 cv, .slice ao l.length co] 27 (0, 0))) := bM (Below.refl _ _)
 generalize w0.alloc (.cells #[.slice av 4 cv, .slice ao l.length co] 27) = w1 at aF J6 ⊢
 have aR := aRp (HT.out.next aF)
 have cV := aRp (HO.out.below aF (by omega))
 have iV := aRp (HV.out.below aF (by omega))
 have vX := bT J6.out
 clear q0 q1 HT HO HV aF
 generalize hnb : w0.heap.size = nb at J6 vX ⊢
 have aNr : w.heap.size + 1 < nb := by have := HTs.out; omega
 clear hnb HTs
 obtain ⟨q0, q1⟩ := pair_cells aR.out.fst
 go_wp2_with fail
 refine (aJD w1 B av ao 4 cv l.length co xs l cV.out (by omega) (by omega) HC.out).mono ?_
 rintro e w2 ⟨g, c, rfl, hso, aI⟩
 have hLi : ∀ s, s ∈ bV l l.length → ∃ i, i < l.length ∧ s = (aB l i).item := fun s hs => by
  obtain ⟨_, i, hi, e⟩ := (pJ l s l.length).1 hs; exact ⟨i, hi, e.symm⟩
 have hLl : (bV l l.length).length ≤ l.length := wM l l.length
 have aKc := hso.strs
 have nJ : Hid (match iG xs l d (bV l l.length) (bV l l.length).length with | none => R = (4, [], []) | some q => R = if q.2.2 = 0 then (0, q.1, q.2.1) else (2, [], [])) := by
  rw [← hR]
  show match iG xs l d (bV l l.length) (bV l l.length).length with | none => _ | some q => _
  unfold oW; cases iG xs l d (bV l l.length) (bV l l.length).length <;> rfl
 clear hso hR
 generalize bV l l.length = L at hLi hLl aKc nJ ⊢
 have HI8 : Hid (∀ i, i < L.length → (L.getD i ⟨#[]⟩).size ≤ 8) := fun i hi => by
  rw [List.getD_eq_getElem?_getD, List.getElem?_eq_getElem hi]; obtain ⟨j, hj, e⟩ := hLi _ (List.getElem_mem hi)
  show (L[i]).size ≤ 8
  rw [e]; exact (dI (fI HC.out hj)).2.2.2.2.1
 have E6 := aRp aKc
 have aN := aRp (aR.out.next aI)
 have nK := aRp ((aI.block _ vX).trans J6.out)
 have eB := aI.size
 have aQg := aRp (cV.out.below aI (by omega))
 have HI0 : Hid (yJ w w2 w2 nb (.int .i64 2) 0 (iG xs l d L 0)) := ⟨aN.out.bel, Nat.le_refl _, fun _ _ _ => rfl, xs, l, av, cv, ao, co, nK.out, (iV.out.below aI (by omega)).more (by omega), aQg.out.more (by omega), oH.out, pH.out, HBn.out, .inl ⟨rfl, rfl⟩⟩
 clear aKc hLi aI aR cV iV J6 q0 q1
 go_wp2
 go_loopw [7, 9] (fun cc i wr => ∃ (k : Nat) (cx : Value), k ≤ L.length ∧ cx = cc ∧ i = .int .i64 (k : Int) ∧ Hid (yJ w w2 wr nb cx k (iG xs l d L k))) (fun _ i _ => L.length - (intOf i).toNat)
 case atStart => exact ⟨0, _, Nat.zero_le _, rfl, rfl, HI0.out⟩
 case round =>
  obtain ⟨k, cd, hk, vH, rfl, HI⟩ := hrel; subst vH; clear HI0; have hsr := HI.out.size; have HX := aRp ((HI.out.kept w.heap.size (by omega) (by omega)).trans aN.out.fst)
  have HR := aRp ((HI.out.kept (w.heap.size + 1) (by omega) (by omega)).trans aN.out.snd)
  by_cases aM : k < L.length
  rotate_left
  ·obtain rfl : k = L.length := by omega
   obtain ⟨zs, m, va, vc, oa, oc, e, hi, ho, c1, c2, hBn, cM⟩ := HI.out.now; have gD := nJ.out; obtain ⟨n0, n1⟩ := pair_cells e; rcases cM with ⟨rfl, eY⟩ | ⟨rfl, eY, g1, g2⟩
   ·rw [eY] at gD
    have hRe : R = (2, [], []) := gD; subst hRe; clear nJ gD; obtain ⟨r0, r1⟩ := pair_cells HR.out; obtain ⟨f0, f1⟩ := aC HR.out; have bL := aRp (cH (.slice va 4 vc) (.slice oa m.length oc) HR.out); have eC : Hid (Below w.heap.size w ((wr.setCell ⟨w.heap.size + 1, 0, none⟩ (.slice va 4 vc)).setCell ⟨w.heap.size + 1, 1, none⟩ (.slice oa m.length oc))) := HI.out.bel.trans ((dW wr (w.heap.size + 1) 0 1 _ _).mono (by omega))
    go_wp2
    generalize (wr.setCell ⟨w.heap.size + 1, 0, none⟩ (.slice va 4 vc)).setCell ⟨w.heap.size + 1, 1, none⟩ (.slice oa m.length oc) = wf at bL eC ⊢; obtain ⟨p0, p1⟩ := pair_cells bL.out; exact bodyPost_ret (v := .tuple #[.agg #[.slice va 4 vc, .slice oa m.length oc], .int .i64 2]) (by simp [results, Tryz.results85, go_sem, p0, p1]) rfl ⟨va, 4, vc, oa, m.length, oc, rfl, eC.out, fun h => absurd h (by decide)⟩
   ·rw [eY] at gD
    have hRe : R = (0, zs, m) := gD; subst hRe; clear nJ gD; obtain ⟨r0, r1⟩ := pair_cells HR.out; obtain ⟨f0, f1⟩ := aC HR.out; have bL := aRp (cH (.slice va 4 vc) (.slice oa m.length oc) HR.out); have eC : Hid (Below w.heap.size w ((wr.setCell ⟨w.heap.size + 1, 0, none⟩ (.slice va 4 vc)).setCell ⟨w.heap.size + 1, 1, none⟩ (.slice oa m.length oc))) := HI.out.bel.trans ((dW wr (w.heap.size + 1) 0 1 _ _).mono (by omega))
    have j9 := aRp (bB wr (w.heap.size + 1) (.slice va 4 vc) (.slice oa m.length oc)); have HC6 : Hid (4 = zs.length ∧ Own ((wr.setCell ⟨w.heap.size + 1, 0, none⟩ (.slice va 4 vc)).setCell ⟨w.heap.size + 1, 1, none⟩ (.slice oa m.length oc)) w.heap.size ((wr.setCell ⟨w.heap.size + 1, 0, none⟩ (.slice va 4 vc)).setCell ⟨w.heap.size + 1, 1, none⟩ (.slice oa m.length oc)).heap.size va 4 zs ∧ bE ((wr.setCell ⟨w.heap.size + 1, 0, none⟩ (.slice va 4 vc)).setCell ⟨w.heap.size + 1, 1, none⟩ (.slice oa m.length oc)) w.heap.size ((wr.setCell ⟨w.heap.size + 1, 0, none⟩ (.slice va 4 vc)).setCell ⟨w.heap.size + 1, 1, none⟩ (.slice oa m.length oc)).heap.size oa m.length m ∧ bY va 4 vc ∧ bY oa m.length oc) := ⟨g1.1.symm, (g1.kept fun j a1 a2 => aE _ _ (by omega)).more (by omega) (by rw [j9.out]; exact Nat.le_refl _), (g2.kept fun j a1 a2 => aE _ _ (by omega)).more (by omega) (by rw [j9.out]; exact Nat.le_refl _), c1, c2⟩
    go_wp2
    generalize (wr.setCell ⟨w.heap.size + 1, 0, none⟩ (.slice va 4 vc)).setCell ⟨w.heap.size + 1, 1, none⟩ (.slice oa m.length oc) = wf at bL eC HC6 ⊢; obtain ⟨p0, p1⟩ := pair_cells bL.out; exact bodyPost_ret (v := .tuple #[.agg #[.slice va 4 vc, .slice oa m.length oc], .int .i64 0]) (by simp [results, Tryz.results85, go_sem, p0, p1]) rfl ⟨va, 4, vc, oa, m.length, oc, rfl, eC.out, fun _ => ⟨HC6.out.1, rfl, HC6.out.2⟩⟩
  obtain ⟨b', iI, e, vI, oB⟩ := E6.out.2 k aM; injection e with e; injection e with e1 e2; subst e1 e2; rw [Nat.zero_add] at oB; have hi8 := HI8.out k aM; obtain ⟨s, hs⟩ : ∃ s, s = L.getD k ⟨#[]⟩ := ⟨_, rfl⟩; rw [← hs] at oB hi8; have lR := aRp hs; clear hs; have hgn : g ≠ nb := by
   intro e
   rw [e, aRs nK.out] at oB; have hk2 : k < 2 := (aRq oB).1; rcases (by omega : k = 0 ∨ k = 1) with rfl | rfl
   ·simp at oB
   ·simp at oB
  have fE : Hid (∀ z, yJ w w2 z nb cd k (iG xs l d L k) → z.cell? ⟨g, k, none⟩ = some (.string s)) := fun z hz => (World.cell?_of_block (a := ⟨g, k, none⟩) (hz.kept g vI hgn)).trans oB
  have hki : (k : Int) < (L.length : Int) := by omega
  have hk0 : decide ((k : Int) < 0) = false := decide_eq_false (by omega)
  have aQ5 : ¬ ((k : Int) < 0) := by omega
  obtain ⟨u, B4⟩ : ∃ u, aL s l l.length = u := ⟨_, rfl⟩; have W8 := sO s l l.length; have hu1 := zO HC.out s l.length aRr; rw [B4] at W8 hu1; have hwu : IntKind.i64.wrap (u + 1) = u + 1 := IntWalk.i64_in _ (by omega)
  have HU := aRp B4; clear oB B4; have hS : wr.drew.cell? ⟨w.heap.size, 0, none⟩ = some (.slice av 4 cv) ∧ wr.drew.cell? ⟨w.heap.size, 1, none⟩ = some (.slice ao l.length co) ∧ wr.drew.cell? ⟨g, k, none⟩ = some (.string s) := ⟨(pair_cells HX.out).1, (pair_cells HX.out).2, fE.out wr HI.out⟩
  go_wp2_with fail
  refine wp_region_held_drew (S := fun w' => w'.cell? ⟨w.heap.size, 0, none⟩ = some (.slice av 4 cv) ∧ w'.cell? ⟨w.heap.size, 1, none⟩ = some (.slice ao l.length co) ∧ w'.cell? ⟨g, k, none⟩ = some (.string s)) (by kernel_rfl) hS (fun aO => ?_)
  refine tj 0 ?_
  refine tj 1 ?_
  refine tj 2 ?_
  refine tj 3 ?_
  refine tj 4 ?_
  refine rk 5 rfl (fun K hK => ?_)
  go_simp
  go_at_call 116
  refine (aGi wr.drew B av ao 4 cv l.length co xs l s ((yX.out.below HI.out.bel hB).kept (w' := wr.drew) fun _ _ => rfl) (by show B ≤ wr.heap.size; omega) (by omega) HC.out).mono ?_
  rintro e z1 ⟨rfl, hC⟩; have kH : Below wr.heap.size wr z1 := Below.mk hC.os hC.tape hC.output hC.size hC.block; have dZ := aRp (HI.out.step (by omega) kH)
  have aQG := dZ.out.size; have xL := aRp ((dZ.out.kept w.heap.size (by omega) (by omega)).trans aN.out.fst)
  have gD := aRp ((dZ.out.kept (w.heap.size + 1) (by omega) (by omega)).trans aN.out.snd)
  have dQ : z1.cell? ⟨w.heap.size, 0, none⟩ = some (.slice av 4 cv) ∧ z1.cell? ⟨w.heap.size, 1, none⟩ = some (.slice ao l.length co) ∧ z1.cell? ⟨g, k, none⟩ = some (.string s) := ⟨(pair_cells xL.out).1, (pair_cells xL.out).2, fE.out z1 dZ.out⟩; have x9 : Hid (bW l s = decide ((bA gN s l l.length).kind = 4)) := rfl; generalize decide ((bA gN s l l.length).kind = 4) = sv at x9 ⊢; clear kH hC HX HR hS; refine hK.out _ _ dQ (fun bQ => ?_)
  clear hK K
  (try simp only [Act.put, u1, u2, u3])
  refine wpAnyH_done (by kernel_rfl) ?_ _
  clear aO bQ HI; cases sv
  rotate_left
  ·go_wp2
   go_roundw
   case rel => exact ⟨k + 1, _, by omega, rfl, by go_num, dZ.out.more (by omega) (aKj lR.out x9.out)⟩
   case measure => simp [intOf]; omega
  obtain ⟨zs, m, va, vc, oa, oc, he, hi, ho, c1, c2, hBn, cM⟩ := dZ.out.now; have HE := aRp he; have HVi := aRp hi; have HOi := aRp ho; have K2 := aRp c1; have HC2 := aRp c2; have HBd := aRp hBn; obtain ⟨okk, iP, m', aEI, xV⟩ := aIk zs m d (160 + k) (by omega) ⟨0, 0, 0, 3, s, 0, u + 1, 0⟩ HBd.out hd (by show s.size ≤ 1048576; omega)
  have cI : Hid (∃ c, iG xs l d L k = some (zs, m, c)) := by
   rcases cM with ⟨_, h⟩ | ⟨_, h, _⟩
   ·exact ⟨_, h⟩
   ·exact ⟨_, h⟩
  have pU : Hid (okk = (aK zs m d (kM l s)).ok) := by
   unfold kM; rw [HU.out]; exact aEI
  have aK2 : (okk = true → tC iP m' (160 + k + 1) ∧ iP = dH zs d ∧ m' = bH m d (aK zs m d (kM l s))) := by
   unfold kM; rw [HU.out]; exact xV.1
  replace xV := And.intro aK2 xV.2
  clear aK2 aEI
  dsimp only at xV
  have sH := aRp xV; clear he hi ho c1 c2 hBn cM xV dQ
  go_upto_region 8 with fail
  obtain ⟨y0, tR⟩ : ∃ y0, z1.drew = y0 := ⟨_, rfl⟩; have sQ : Below z1.heap.size z1 y0 := by rw [← tR]; exact ⟨rfl, rfl, rfl, Nat.le_refl _, fun _ _ => rfl⟩
  have Sy0 : y0.cell? ⟨w.heap.size, 0, none⟩ = some (.slice av 4 cv) ∧ y0.cell? ⟨w.heap.size, 1, none⟩ = some (.slice ao l.length co) ∧ y0.cell? ⟨g, k, none⟩ = some (.string s) ∧ y0.cell? ⟨nb, 0, none⟩ = some (.slice va 4 vc) ∧ y0.cell? ⟨nb, 1, none⟩ = some (.slice oa m.length oc) := by
   have dD := dZ.out.step (by omega) sQ
   exact ⟨(pair_cells ((dD.kept w.heap.size (by omega) (by omega)).trans aN.out.fst)).1, (pair_cells ((dD.kept w.heap.size (by omega) (by omega)).trans aN.out.fst)).2, fE.out _ dD, (sQ.cell (block_lt_of_cell (pair_cells HE.out).1)).trans (pair_cells HE.out).1, (sQ.cell (block_lt_of_cell (pair_cells HE.out).2)).trans (pair_cells HE.out).2⟩
  refine wp_region_held_drew (S := fun w' => w'.cell? ⟨w.heap.size, 0, none⟩ = some (.slice av 4 cv) ∧ w'.cell? ⟨w.heap.size, 1, none⟩ = some (.slice ao l.length co) ∧ w'.cell? ⟨g, k, none⟩ = some (.string s) ∧ w'.cell? ⟨nb, 0, none⟩ = some (.slice va 4 vc) ∧ w'.cell? ⟨nb, 1, none⟩ = some (.slice oa m.length oc)) (by kernel_rfl) (by rw [tR]; exact Sy0) (fun aO => ?_)
  rw [tR]; clear aO tR; refine tj 0 ?_
  refine tj 1 ?_
  refine tj 2 ?_
  refine tj 3 ?_
  refine tj 4 ?_
  refine tj 5 ?_
  refine tj 6 ?_
  refine tj 7 ?_
  refine tj 8 ?_
  refine tj 9 ?_
  refine tj 10 ?_
  refine wpAnyH_ready (rs := [11, 18]) (by kernel_rfl) (by simp) ?_
  refine (AllReadyH.cons rfl (fun K hK => ?_) (AllReadyH.cons rfl (fun K hK => ?_) AllReadyH.nil))
  ·skip
   go_simp
   go_at_call 117
   refine (M5 y0 B av ao 4 cv l.length co xs l s (yX.out.below (dZ.out.bel.trans (sQ.mono (by omega))) hB) (by have := sQ.size; omega) (by omega) HC.out).mono ?_
   rw [HU.out]; rintro e y1 ⟨rfl, eM⟩; have vB : Below z1.heap.size z1 y1 := sQ.trans (eM.mono sQ.size); have Sy1 : y1.cell? ⟨w.heap.size, 0, none⟩ = some (.slice av 4 cv) ∧ y1.cell? ⟨w.heap.size, 1, none⟩ = some (.slice ao l.length co) ∧ y1.cell? ⟨g, k, none⟩ = some (.string s) ∧ y1.cell? ⟨nb, 0, none⟩ = some (.slice va 4 vc) ∧ y1.cell? ⟨nb, 1, none⟩ = some (.slice oa m.length oc) := by
    have dD := dZ.out.step (by omega) vB
    exact ⟨(pair_cells ((dD.kept w.heap.size (by omega) (by omega)).trans aN.out.fst)).1, (pair_cells ((dD.kept w.heap.size (by omega) (by omega)).trans aN.out.fst)).2, fE.out _ dD, (vB.cell (block_lt_of_cell (pair_cells HE.out).1)).trans (pair_cells HE.out).1, (vB.cell (block_lt_of_cell (pair_cells HE.out).2)).trans (pair_cells HE.out).2⟩
   refine hK.out _ _ Sy1 (fun qM => ?_)
   clear hK K qM eM
   (try simp only [Act.put, u1, u2, u3])
   refine tj 12 ?_
   refine tj 13 ?_
   refine wpAnyH_ready (rs := [14, 18]) (by kernel_rfl) (by simp) ?_
   refine (AllReadyH.cons rfl (fun K hK => ?_) (AllReadyH.cons rfl (fun K hK => ?_) AllReadyH.nil))
   ·skip
    go_simp
    go_at_call 90
    refine (sH.out.2 y1 y1.heap.size va oa vc oc ((HVi.out.below vB aRr).more vB.size) ((HOi.out.below vB aRr).more vB.size) aRr K2.out HC2.out).mono ?_
    rintro e y2 ⟨qA, pZ, qD, qC, rfl, gY, dY, eM, d1, d2⟩; have tQ : Below z1.heap.size z1 y2 := vB.trans (eM.mono vB.size); have Sy2 : y2.cell? ⟨w.heap.size, 0, none⟩ = some (.slice av 4 cv) ∧ y2.cell? ⟨w.heap.size, 1, none⟩ = some (.slice ao l.length co) ∧ y2.cell? ⟨g, k, none⟩ = some (.string s) ∧ y2.cell? ⟨nb, 0, none⟩ = some (.slice va 4 vc) ∧ y2.cell? ⟨nb, 1, none⟩ = some (.slice oa m.length oc) := by
     have dD := dZ.out.step (by omega) tQ
     exact ⟨(pair_cells ((dD.kept w.heap.size (by omega) (by omega)).trans aN.out.fst)).1, (pair_cells ((dD.kept w.heap.size (by omega) (by omega)).trans aN.out.fst)).2, fE.out _ dD, (tQ.cell (block_lt_of_cell (pair_cells HE.out).1)).trans (pair_cells HE.out).1, (tQ.cell (block_lt_of_cell (pair_cells HE.out).2)).trans (pair_cells HE.out).2⟩
    have aPv := aRp gY; have aPK := aRp dY; have lT := aRp d1; have vS := aRp d2; have hpz := eM.size; refine hK.out _ _ Sy2 (fun jR => ?_)
    clear hK K jR eM gY dY d1 d2
    (try simp only [Act.put, u1, u2, u3])
    refine tj 15 ?_
    refine tj 16 ?_
    refine tj 17 ?_
    refine wpAnyH_ready (rs := [18]) (by kernel_rfl) (by simp) ?_
    refine (AllReadyH.cons rfl (fun K hK => ?_) AllReadyH.nil)
    have dJ : Below y2.heap.size y2 (y2.alloc (.cells #[.slice none 0 0, .slice none 0 0] 27)) := bl; have jF := bM (Below.refl _ (y2.alloc (.cells #[.slice none 0 0, .slice none 0 0] 27))); have nH : y2.heap.size < (y2.alloc (.cells #[.slice none 0 0, .slice none 0 0] 27)).heap.size := by show _ < (y2.heap.push _).size; simp
    have yT : Below z1.heap.size z1 (y2.alloc (.cells #[.slice none 0 0, .slice none 0 0] 27)) := tQ.trans (dJ.mono tQ.size); have SA : (y2.alloc (.cells #[.slice none 0 0, .slice none 0 0] 27)).cell? ⟨w.heap.size, 0, none⟩ = some (.slice av 4 cv) ∧ (y2.alloc (.cells #[.slice none 0 0, .slice none 0 0] 27)).cell? ⟨w.heap.size, 1, none⟩ = some (.slice ao l.length co) ∧ (y2.alloc (.cells #[.slice none 0 0, .slice none 0 0] 27)).cell? ⟨g, k, none⟩ = some (.string s) ∧ (y2.alloc (.cells #[.slice none 0 0, .slice none 0 0] 27)).cell? ⟨nb, 0, none⟩ = some (.slice va 4 vc) ∧ (y2.alloc (.cells #[.slice none 0 0, .slice none 0 0] 27)).cell? ⟨nb, 1, none⟩ = some (.slice oa m.length oc) := by
     have dD := dZ.out.step (by omega) yT
     exact ⟨(pair_cells ((dD.kept w.heap.size (by omega) (by omega)).trans aN.out.fst)).1, (pair_cells ((dD.kept w.heap.size (by omega) (by omega)).trans aN.out.fst)).2, fE.out _ dD, (yT.cell (block_lt_of_cell (pair_cells HE.out).1)).trans (pair_cells HE.out).1, (yT.cell (block_lt_of_cell (pair_cells HE.out).2)).trans (pair_cells HE.out).2⟩
    go_simp
    refine hK.out _ _ SA (fun jT => ?_)
    clear hK K jT
    (try simp only [Act.put, u1, u2, u3])
    generalize iQ : y2.alloc (.cells #[.slice none 0 0, .slice none 0 0] 27) = y3 at dJ jF nH ⊢; clear iQ SA yT; have hy3 : Below z1.heap.size z1 y3 := tQ.trans (dJ.mono tQ.size); have Sy3 : y3.cell? ⟨w.heap.size, 0, none⟩ = some (.slice av 4 cv) ∧ y3.cell? ⟨w.heap.size, 1, none⟩ = some (.slice ao l.length co) ∧ y3.cell? ⟨g, k, none⟩ = some (.string s) ∧ y3.cell? ⟨nb, 0, none⟩ = some (.slice va 4 vc) ∧ y3.cell? ⟨nb, 1, none⟩ = some (.slice oa m.length oc) := by
     have dD := dZ.out.step (by omega) hy3
     exact ⟨(pair_cells ((dD.kept w.heap.size (by omega) (by omega)).trans aN.out.fst)).1, (pair_cells ((dD.kept w.heap.size (by omega) (by omega)).trans aN.out.fst)).2, fE.out _ dD, (hy3.cell (block_lt_of_cell (pair_cells HE.out).1)).trans (pair_cells HE.out).1, (hy3.cell (block_lt_of_cell (pair_cells HE.out).2)).trans (pair_cells HE.out).2⟩
    have aPu := aRp (aPv.out.below dJ (by omega))
    have aPJ := aRp (aPK.out.below dJ (by omega))
    have aA7 := aRp jF; have aQY := nH; clear jF nH dJ; have G4 := tQ.size; have yM := vB.size; obtain ⟨mN, u6, sY, iQ, mF⟩ := aBd (.slice qA iP.length pZ) (.slice qD m'.length qC) hy3 aA7.out G4 (by first | exact .inr aRr | (left; omega) | (right; omega)) aPu.out aPJ.out
    obtain ⟨d0, d1⟩ := pair_cells aA7.out; obtain ⟨f0, f1⟩ := aC aA7.out; have SW : ((y3.setCell ⟨y2.heap.size, 0, none⟩ (.slice qA iP.length pZ)).setCell ⟨y2.heap.size, 1, none⟩ (.slice qD m'.length qC)).cell? ⟨w.heap.size, 0, none⟩ = some (.slice av 4 cv) ∧ ((y3.setCell ⟨y2.heap.size, 0, none⟩ (.slice qA iP.length pZ)).setCell ⟨y2.heap.size, 1, none⟩ (.slice qD m'.length qC)).cell? ⟨w.heap.size, 1, none⟩ = some (.slice ao l.length co) ∧ ((y3.setCell ⟨y2.heap.size, 0, none⟩ (.slice qA iP.length pZ)).setCell ⟨y2.heap.size, 1, none⟩ (.slice qD m'.length qC)).cell? ⟨g, k, none⟩ = some (.string s) ∧ ((y3.setCell ⟨y2.heap.size, 0, none⟩ (.slice qA iP.length pZ)).setCell ⟨y2.heap.size, 1, none⟩ (.slice qD m'.length qC)).cell? ⟨nb, 0, none⟩ = some (.slice va 4 vc) ∧ ((y3.setCell ⟨y2.heap.size, 0, none⟩ (.slice qA iP.length pZ)).setCell ⟨y2.heap.size, 1, none⟩ (.slice qD m'.length qC)).cell? ⟨nb, 1, none⟩ = some (.slice oa m.length oc) := by
     have dD := dZ.out.step (by omega) iQ
     exact ⟨(pair_cells ((dD.kept w.heap.size (by omega) (by omega)).trans aN.out.fst)).1, (pair_cells ((dD.kept w.heap.size (by omega) (by omega)).trans aN.out.fst)).2, fE.out _ dD, (iQ.cell (block_lt_of_cell (pair_cells HE.out).1)).trans (pair_cells HE.out).1, (iQ.cell (block_lt_of_cell (pair_cells HE.out).2)).trans (pair_cells HE.out).2⟩
    refine rk 19 rfl (fun K hK => ?_)
    go_simp
    refine hK.out _ _ SW (fun jS => ?_)
    clear hK K jS d0 d1 f0 f1 SW
    (try simp only [Act.put, u1, u2, u3])
    generalize (y3.setCell ⟨y2.heap.size, 0, none⟩ (.slice qA iP.length pZ)).setCell ⟨y2.heap.size, 1, none⟩ (.slice qD m'.length qC) = zn at mN u6 sY iQ mF ⊢; have I1 : zn.cell? ⟨w.heap.size, 0, none⟩ = some (.slice av 4 cv) ∧ zn.cell? ⟨w.heap.size, 1, none⟩ = some (.slice ao l.length co) ∧ zn.cell? ⟨g, k, none⟩ = some (.string s) ∧ zn.cell? ⟨nb, 0, none⟩ = some (.slice va 4 vc) ∧ zn.cell? ⟨nb, 1, none⟩ = some (.slice oa m.length oc) := by
     have dD := dZ.out.step (by omega) iQ
     exact ⟨(pair_cells ((dD.kept w.heap.size (by omega) (by omega)).trans aN.out.fst)).1, (pair_cells ((dD.kept w.heap.size (by omega) (by omega)).trans aN.out.fst)).2, fE.out _ dD, (iQ.cell (block_lt_of_cell (pair_cells HE.out).1)).trans (pair_cells HE.out).1, (iQ.cell (block_lt_of_cell (pair_cells HE.out).2)).trans (pair_cells HE.out).2⟩
    refine tj 20 ?_
    refine wpAnyH_done (by kernel_rfl) ?_ _
    have qQ := aRp (dZ.out.step (by omega) iQ)
    have aNj := qQ.out.size; have HXn := aRp ((qQ.out.kept w.heap.size (by omega) (by omega)).trans aN.out.fst)
    have HRn := aRp ((qQ.out.kept (w.heap.size + 1) (by omega) (by omega)).trans aN.out.snd)
    cases okk
    ·have gD := nJ.out
     rw [aBe lR.out x9.out cI.out pU.out aM] at gD; have hRe : R = (4, [], []) := gD; subst hRe; obtain ⟨r0, r1⟩ := pair_cells HRn.out; obtain ⟨f0, f1⟩ := aC HRn.out; have bL := aRp (cH (.slice none 0 0) (.slice none 0 0) HRn.out); have eC : Hid (Below w.heap.size w ((zn.setCell ⟨w.heap.size + 1, 0, none⟩ (.slice none 0 0)).setCell ⟨w.heap.size + 1, 1, none⟩ (.slice none 0 0))) := qQ.out.bel.trans ((dW zn (w.heap.size + 1) 0 1 _ _).mono (by omega))
     go_wp2
     generalize (zn.setCell ⟨w.heap.size + 1, 0, none⟩ (.slice none 0 0)).setCell ⟨w.heap.size + 1, 1, none⟩ (.slice none 0 0) = wf at bL eC ⊢; obtain ⟨p0, p1⟩ := pair_cells bL.out; exact bodyPost_ret (v := .tuple #[.agg #[.slice none 0 0, .slice none 0 0], .int .i64 4]) (by simp [results, Tryz.results85, go_sem, p0, p1]) rfl ⟨none, 0, 0, none, 0, 0, rfl, eC.out, fun h => absurd h (by decide)⟩
    obtain ⟨C0, j8, n9⟩ := sH.out.1 rfl; have aFk := aRp (aCL lR.out x9.out cI.out pU.out j8 n9); clear j8 n9; have lT := lT; rw [C0.len] at mN u6 lT ⊢; obtain ⟨x0, x1⟩ := pair_cells mN.out; obtain ⟨n0, n1⟩ := pair_cells ((iQ.block nb (by have := bT HE.out; omega)).trans HE.out)
    obtain ⟨fn0, fn1⟩ := aC ((iQ.block nb (by have := bT HE.out; omega)).trans HE.out)
    have HIp := aRp (qQ.out.put (k' := k + 1) (by omega) u6.out sY.out (by omega) (by omega) lT.out vS.out C0 aFk.out)
    clear C0; go_wp2
    go_roundw
    case rel => exact ⟨k + 1, _, by omega, rfl, by go_num, HIp⟩
    case measure => simp [intOf]; omega
   ·skip
    have dJ : Below y1.heap.size y1 (y1.alloc (.cells #[.slice none 0 0, .slice none 0 0] 27)) := bl; have jF := bM (Below.refl _ (y1.alloc (.cells #[.slice none 0 0, .slice none 0 0] 27))); have nH : y1.heap.size < (y1.alloc (.cells #[.slice none 0 0, .slice none 0 0] 27)).heap.size := by show _ < (y1.heap.push _).size; simp
    have yT : Below z1.heap.size z1 (y1.alloc (.cells #[.slice none 0 0, .slice none 0 0] 27)) := vB.trans (dJ.mono vB.size); have SA : (y1.alloc (.cells #[.slice none 0 0, .slice none 0 0] 27)).cell? ⟨w.heap.size, 0, none⟩ = some (.slice av 4 cv) ∧ (y1.alloc (.cells #[.slice none 0 0, .slice none 0 0] 27)).cell? ⟨w.heap.size, 1, none⟩ = some (.slice ao l.length co) ∧ (y1.alloc (.cells #[.slice none 0 0, .slice none 0 0] 27)).cell? ⟨g, k, none⟩ = some (.string s) ∧ (y1.alloc (.cells #[.slice none 0 0, .slice none 0 0] 27)).cell? ⟨nb, 0, none⟩ = some (.slice va 4 vc) ∧ (y1.alloc (.cells #[.slice none 0 0, .slice none 0 0] 27)).cell? ⟨nb, 1, none⟩ = some (.slice oa m.length oc) := by
     have dD := dZ.out.step (by omega) yT
     exact ⟨(pair_cells ((dD.kept w.heap.size (by omega) (by omega)).trans aN.out.fst)).1, (pair_cells ((dD.kept w.heap.size (by omega) (by omega)).trans aN.out.fst)).2, fE.out _ dD, (yT.cell (block_lt_of_cell (pair_cells HE.out).1)).trans (pair_cells HE.out).1, (yT.cell (block_lt_of_cell (pair_cells HE.out).2)).trans (pair_cells HE.out).2⟩
    go_simp
    refine hK.out _ _ SA (fun jT => ?_)
    clear hK K jT
    (try simp only [Act.put, u1, u2, u3])
    generalize iQ : y1.alloc (.cells #[.slice none 0 0, .slice none 0 0] 27) = y4 at dJ jF nH ⊢; clear iQ SA yT; have hy4 : Below z1.heap.size z1 y4 := vB.trans (dJ.mono vB.size); have Sy4 : y4.cell? ⟨w.heap.size, 0, none⟩ = some (.slice av 4 cv) ∧ y4.cell? ⟨w.heap.size, 1, none⟩ = some (.slice ao l.length co) ∧ y4.cell? ⟨g, k, none⟩ = some (.string s) ∧ y4.cell? ⟨nb, 0, none⟩ = some (.slice va 4 vc) ∧ y4.cell? ⟨nb, 1, none⟩ = some (.slice oa m.length oc) := by
     have dD := dZ.out.step (by omega) hy4
     exact ⟨(pair_cells ((dD.kept w.heap.size (by omega) (by omega)).trans aN.out.fst)).1, (pair_cells ((dD.kept w.heap.size (by omega) (by omega)).trans aN.out.fst)).2, fE.out _ dD, (hy4.cell (block_lt_of_cell (pair_cells HE.out).1)).trans (pair_cells HE.out).1, (hy4.cell (block_lt_of_cell (pair_cells HE.out).2)).trans (pair_cells HE.out).2⟩
    have l8 := aRp jF; have aQX := nH; clear jF nH dJ; refine wpAnyH_ready (rs := [14]) (by kernel_rfl) (by simp) ?_
    refine (AllReadyH.cons rfl (fun K hK => ?_) AllReadyH.nil)
    go_simp
    go_at_call 90
    refine (sH.out.2 y4 y4.heap.size va oa vc oc ((HVi.out.below hy4 aRr).more hy4.size) ((HOi.out.below hy4 aRr).more hy4.size) aRr K2.out HC2.out).mono ?_
    rintro e y5 ⟨qA, pZ, qD, qC, rfl, gY, dY, eM, d1, d2⟩; have hy5 : Below z1.heap.size z1 y5 := hy4.trans (eM.mono hy4.size); have Sy5 : y5.cell? ⟨w.heap.size, 0, none⟩ = some (.slice av 4 cv) ∧ y5.cell? ⟨w.heap.size, 1, none⟩ = some (.slice ao l.length co) ∧ y5.cell? ⟨g, k, none⟩ = some (.string s) ∧ y5.cell? ⟨nb, 0, none⟩ = some (.slice va 4 vc) ∧ y5.cell? ⟨nb, 1, none⟩ = some (.slice oa m.length oc) := by
     have dD := dZ.out.step (by omega) hy5
     exact ⟨(pair_cells ((dD.kept w.heap.size (by omega) (by omega)).trans aN.out.fst)).1, (pair_cells ((dD.kept w.heap.size (by omega) (by omega)).trans aN.out.fst)).2, fE.out _ dD, (hy5.cell (block_lt_of_cell (pair_cells HE.out).1)).trans (pair_cells HE.out).1, (hy5.cell (block_lt_of_cell (pair_cells HE.out).2)).trans (pair_cells HE.out).2⟩
    have l7 := aRp ((eM.block _ (aRq l8.out).1).trans l8.out); have aQW := bT l7.out; have aPt := aRp gY; have aPI := aRp dY; have lT := aRp d1; have vS := aRp d2; have hpz := eM.size; refine hK.out _ _ Sy5 (fun jR => ?_)
    clear hK K jR eM gY dY d1 d2
    (try simp only [Act.put, u1, u2, u3])
    refine tj 15 ?_
    refine tj 16 ?_
    refine tj 17 ?_
    have G4 := vB.size; have yM := hy4.size; obtain ⟨mN, u6, sY, iQ, mF⟩ := aBd (.slice qA iP.length pZ) (.slice qD m'.length qC) hy5 l7.out G4 (by first | exact .inr aRr | (left; omega) | (right; omega)) aPt.out aPI.out
    obtain ⟨d0, d1⟩ := pair_cells l7.out; obtain ⟨f0, f1⟩ := aC l7.out; have SW : ((y5.setCell ⟨y1.heap.size, 0, none⟩ (.slice qA iP.length pZ)).setCell ⟨y1.heap.size, 1, none⟩ (.slice qD m'.length qC)).cell? ⟨w.heap.size, 0, none⟩ = some (.slice av 4 cv) ∧ ((y5.setCell ⟨y1.heap.size, 0, none⟩ (.slice qA iP.length pZ)).setCell ⟨y1.heap.size, 1, none⟩ (.slice qD m'.length qC)).cell? ⟨w.heap.size, 1, none⟩ = some (.slice ao l.length co) ∧ ((y5.setCell ⟨y1.heap.size, 0, none⟩ (.slice qA iP.length pZ)).setCell ⟨y1.heap.size, 1, none⟩ (.slice qD m'.length qC)).cell? ⟨g, k, none⟩ = some (.string s) ∧ ((y5.setCell ⟨y1.heap.size, 0, none⟩ (.slice qA iP.length pZ)).setCell ⟨y1.heap.size, 1, none⟩ (.slice qD m'.length qC)).cell? ⟨nb, 0, none⟩ = some (.slice va 4 vc) ∧ ((y5.setCell ⟨y1.heap.size, 0, none⟩ (.slice qA iP.length pZ)).setCell ⟨y1.heap.size, 1, none⟩ (.slice qD m'.length qC)).cell? ⟨nb, 1, none⟩ = some (.slice oa m.length oc) := by
     have dD := dZ.out.step (by omega) iQ
     exact ⟨(pair_cells ((dD.kept w.heap.size (by omega) (by omega)).trans aN.out.fst)).1, (pair_cells ((dD.kept w.heap.size (by omega) (by omega)).trans aN.out.fst)).2, fE.out _ dD, (iQ.cell (block_lt_of_cell (pair_cells HE.out).1)).trans (pair_cells HE.out).1, (iQ.cell (block_lt_of_cell (pair_cells HE.out).2)).trans (pair_cells HE.out).2⟩
    refine rk 19 rfl (fun K hK => ?_)
    go_simp
    refine hK.out _ _ SW (fun jS => ?_)
    clear hK K jS d0 d1 f0 f1 SW
    (try simp only [Act.put, u1, u2, u3])
    generalize (y5.setCell ⟨y1.heap.size, 0, none⟩ (.slice qA iP.length pZ)).setCell ⟨y1.heap.size, 1, none⟩ (.slice qD m'.length qC) = zn at mN u6 sY iQ mF ⊢; have I1 : zn.cell? ⟨w.heap.size, 0, none⟩ = some (.slice av 4 cv) ∧ zn.cell? ⟨w.heap.size, 1, none⟩ = some (.slice ao l.length co) ∧ zn.cell? ⟨g, k, none⟩ = some (.string s) ∧ zn.cell? ⟨nb, 0, none⟩ = some (.slice va 4 vc) ∧ zn.cell? ⟨nb, 1, none⟩ = some (.slice oa m.length oc) := by
     have dD := dZ.out.step (by omega) iQ
     exact ⟨(pair_cells ((dD.kept w.heap.size (by omega) (by omega)).trans aN.out.fst)).1, (pair_cells ((dD.kept w.heap.size (by omega) (by omega)).trans aN.out.fst)).2, fE.out _ dD, (iQ.cell (block_lt_of_cell (pair_cells HE.out).1)).trans (pair_cells HE.out).1, (iQ.cell (block_lt_of_cell (pair_cells HE.out).2)).trans (pair_cells HE.out).2⟩
    refine tj 20 ?_
    refine wpAnyH_done (by kernel_rfl) ?_ _
    have qQ := aRp (dZ.out.step (by omega) iQ)
    have aNj := qQ.out.size; have HXn := aRp ((qQ.out.kept w.heap.size (by omega) (by omega)).trans aN.out.fst)
    have HRn := aRp ((qQ.out.kept (w.heap.size + 1) (by omega) (by omega)).trans aN.out.snd)
    cases okk
    ·have gD := nJ.out
     rw [aBe lR.out x9.out cI.out pU.out aM] at gD; have hRe : R = (4, [], []) := gD; subst hRe; obtain ⟨r0, r1⟩ := pair_cells HRn.out; obtain ⟨f0, f1⟩ := aC HRn.out; have bL := aRp (cH (.slice none 0 0) (.slice none 0 0) HRn.out); have eC : Hid (Below w.heap.size w ((zn.setCell ⟨w.heap.size + 1, 0, none⟩ (.slice none 0 0)).setCell ⟨w.heap.size + 1, 1, none⟩ (.slice none 0 0))) := qQ.out.bel.trans ((dW zn (w.heap.size + 1) 0 1 _ _).mono (by omega))
     go_wp2
     generalize (zn.setCell ⟨w.heap.size + 1, 0, none⟩ (.slice none 0 0)).setCell ⟨w.heap.size + 1, 1, none⟩ (.slice none 0 0) = wf at bL eC ⊢; obtain ⟨p0, p1⟩ := pair_cells bL.out; exact bodyPost_ret (v := .tuple #[.agg #[.slice none 0 0, .slice none 0 0], .int .i64 4]) (by simp [results, Tryz.results85, go_sem, p0, p1]) rfl ⟨none, 0, 0, none, 0, 0, rfl, eC.out, fun h => absurd h (by decide)⟩
    obtain ⟨C0, j8, n9⟩ := sH.out.1 rfl; have aFk := aRp (aCL lR.out x9.out cI.out pU.out j8 n9); clear j8 n9; have lT := lT; rw [C0.len] at mN u6 lT ⊢; obtain ⟨x0, x1⟩ := pair_cells mN.out; obtain ⟨n0, n1⟩ := pair_cells ((iQ.block nb (by have := bT HE.out; omega)).trans HE.out)
    obtain ⟨fn0, fn1⟩ := aC ((iQ.block nb (by have := bT HE.out; omega)).trans HE.out)
    have HIp := aRp (qQ.out.put (k' := k + 1) (by omega) u6.out sY.out (by omega) (by omega) lT.out vS.out C0 aFk.out)
    clear C0; go_wp2
    go_roundw
    case rel => exact ⟨k + 1, _, by omega, rfl, by go_num, HIp⟩
    case measure => simp [intOf]; omega
  ·skip
   have dJ : Below y0.heap.size y0 (y0.alloc (.cells #[.slice none 0 0, .slice none 0 0] 27)) := bl; have jF := bM (Below.refl _ (y0.alloc (.cells #[.slice none 0 0, .slice none 0 0] 27))); have nH : y0.heap.size < (y0.alloc (.cells #[.slice none 0 0, .slice none 0 0] 27)).heap.size := by show _ < (y0.heap.push _).size; simp
   have yT : Below z1.heap.size z1 (y0.alloc (.cells #[.slice none 0 0, .slice none 0 0] 27)) := sQ.trans (dJ.mono sQ.size); have SA : (y0.alloc (.cells #[.slice none 0 0, .slice none 0 0] 27)).cell? ⟨w.heap.size, 0, none⟩ = some (.slice av 4 cv) ∧ (y0.alloc (.cells #[.slice none 0 0, .slice none 0 0] 27)).cell? ⟨w.heap.size, 1, none⟩ = some (.slice ao l.length co) ∧ (y0.alloc (.cells #[.slice none 0 0, .slice none 0 0] 27)).cell? ⟨g, k, none⟩ = some (.string s) ∧ (y0.alloc (.cells #[.slice none 0 0, .slice none 0 0] 27)).cell? ⟨nb, 0, none⟩ = some (.slice va 4 vc) ∧ (y0.alloc (.cells #[.slice none 0 0, .slice none 0 0] 27)).cell? ⟨nb, 1, none⟩ = some (.slice oa m.length oc) := by
    have dD := dZ.out.step (by omega) yT
    exact ⟨(pair_cells ((dD.kept w.heap.size (by omega) (by omega)).trans aN.out.fst)).1, (pair_cells ((dD.kept w.heap.size (by omega) (by omega)).trans aN.out.fst)).2, fE.out _ dD, (yT.cell (block_lt_of_cell (pair_cells HE.out).1)).trans (pair_cells HE.out).1, (yT.cell (block_lt_of_cell (pair_cells HE.out).2)).trans (pair_cells HE.out).2⟩
   go_simp
   refine hK.out _ _ SA (fun jT => ?_)
   clear hK K jT
   (try simp only [Act.put, u1, u2, u3])
   generalize iQ : y0.alloc (.cells #[.slice none 0 0, .slice none 0 0] 27) = y6 at dJ jF nH ⊢; clear iQ SA yT; have hy6 : Below z1.heap.size z1 y6 := sQ.trans (dJ.mono sQ.size); have Sy6 : y6.cell? ⟨w.heap.size, 0, none⟩ = some (.slice av 4 cv) ∧ y6.cell? ⟨w.heap.size, 1, none⟩ = some (.slice ao l.length co) ∧ y6.cell? ⟨g, k, none⟩ = some (.string s) ∧ y6.cell? ⟨nb, 0, none⟩ = some (.slice va 4 vc) ∧ y6.cell? ⟨nb, 1, none⟩ = some (.slice oa m.length oc) := by
    have dD := dZ.out.step (by omega) hy6
    exact ⟨(pair_cells ((dD.kept w.heap.size (by omega) (by omega)).trans aN.out.fst)).1, (pair_cells ((dD.kept w.heap.size (by omega) (by omega)).trans aN.out.fst)).2, fE.out _ dD, (hy6.cell (block_lt_of_cell (pair_cells HE.out).1)).trans (pair_cells HE.out).1, (hy6.cell (block_lt_of_cell (pair_cells HE.out).2)).trans (pair_cells HE.out).2⟩
   have l6 := aRp jF; have aQV := nH; clear jF nH dJ; refine wpAnyH_ready (rs := [11]) (by kernel_rfl) (by simp) ?_
   refine (AllReadyH.cons rfl (fun K hK => ?_) AllReadyH.nil)
   go_simp
   go_at_call 117
   refine (M5 y6 B av ao 4 cv l.length co xs l s (yX.out.below (dZ.out.bel.trans (hy6.mono (by omega))) hB) (by have := hy6.size; omega) (by omega) HC.out).mono ?_
   rw [HU.out]; rintro e y7 ⟨rfl, eM⟩; have hy7 : Below z1.heap.size z1 y7 := hy6.trans (eM.mono hy6.size); have Sy7 : y7.cell? ⟨w.heap.size, 0, none⟩ = some (.slice av 4 cv) ∧ y7.cell? ⟨w.heap.size, 1, none⟩ = some (.slice ao l.length co) ∧ y7.cell? ⟨g, k, none⟩ = some (.string s) ∧ y7.cell? ⟨nb, 0, none⟩ = some (.slice va 4 vc) ∧ y7.cell? ⟨nb, 1, none⟩ = some (.slice oa m.length oc) := by
    have dD := dZ.out.step (by omega) hy7
    exact ⟨(pair_cells ((dD.kept w.heap.size (by omega) (by omega)).trans aN.out.fst)).1, (pair_cells ((dD.kept w.heap.size (by omega) (by omega)).trans aN.out.fst)).2, fE.out _ dD, (hy7.cell (block_lt_of_cell (pair_cells HE.out).1)).trans (pair_cells HE.out).1, (hy7.cell (block_lt_of_cell (pair_cells HE.out).2)).trans (pair_cells HE.out).2⟩
   have Q5 := aRp ((eM.block _ (aRq l6.out).1).trans l6.out); have aQU := bT Q5.out; refine hK.out _ _ Sy7 (fun qM => ?_)
   clear hK K qM eM
   (try simp only [Act.put, u1, u2, u3])
   refine tj 12 ?_
   refine tj 13 ?_
   refine wpAnyH_ready (rs := [14]) (by kernel_rfl) (by simp) ?_
   refine (AllReadyH.cons rfl (fun K hK => ?_) AllReadyH.nil)
   go_simp
   go_at_call 90
   refine (sH.out.2 y7 y7.heap.size va oa vc oc ((HVi.out.below hy7 aRr).more hy7.size) ((HOi.out.below hy7 aRr).more hy7.size) aRr K2.out HC2.out).mono ?_
   rintro e y8 ⟨qA, pZ, qD, qC, rfl, gY, dY, eM, d1, d2⟩; have hy8 : Below z1.heap.size z1 y8 := hy7.trans (eM.mono hy7.size); have Sy8 : y8.cell? ⟨w.heap.size, 0, none⟩ = some (.slice av 4 cv) ∧ y8.cell? ⟨w.heap.size, 1, none⟩ = some (.slice ao l.length co) ∧ y8.cell? ⟨g, k, none⟩ = some (.string s) ∧ y8.cell? ⟨nb, 0, none⟩ = some (.slice va 4 vc) ∧ y8.cell? ⟨nb, 1, none⟩ = some (.slice oa m.length oc) := by
    have dD := dZ.out.step (by omega) hy8
    exact ⟨(pair_cells ((dD.kept w.heap.size (by omega) (by omega)).trans aN.out.fst)).1, (pair_cells ((dD.kept w.heap.size (by omega) (by omega)).trans aN.out.fst)).2, fE.out _ dD, (hy8.cell (block_lt_of_cell (pair_cells HE.out).1)).trans (pair_cells HE.out).1, (hy8.cell (block_lt_of_cell (pair_cells HE.out).2)).trans (pair_cells HE.out).2⟩
   have l5 := aRp ((eM.block _ (aRq Q5.out).1).trans Q5.out); have aQT := bT l5.out; have aPs := aRp gY; have aPH := aRp dY; have lT := aRp d1; have vS := aRp d2; have hpz := eM.size; refine hK.out _ _ Sy8 (fun jR => ?_)
   clear hK K jR eM gY dY d1 d2
   (try simp only [Act.put, u1, u2, u3])
   refine tj 15 ?_
   refine tj 16 ?_
   refine tj 17 ?_
   have G4 := sQ.size; have yM := hy7.size; obtain ⟨mN, u6, sY, iQ, mF⟩ := aBd (.slice qA iP.length pZ) (.slice qD m'.length qC) hy8 l5.out G4 (by first | exact .inr aRr | (left; omega) | (right; omega)) aPs.out aPH.out
   obtain ⟨d0, d1⟩ := pair_cells l5.out; obtain ⟨f0, f1⟩ := aC l5.out; have SW : ((y8.setCell ⟨y0.heap.size, 0, none⟩ (.slice qA iP.length pZ)).setCell ⟨y0.heap.size, 1, none⟩ (.slice qD m'.length qC)).cell? ⟨w.heap.size, 0, none⟩ = some (.slice av 4 cv) ∧ ((y8.setCell ⟨y0.heap.size, 0, none⟩ (.slice qA iP.length pZ)).setCell ⟨y0.heap.size, 1, none⟩ (.slice qD m'.length qC)).cell? ⟨w.heap.size, 1, none⟩ = some (.slice ao l.length co) ∧ ((y8.setCell ⟨y0.heap.size, 0, none⟩ (.slice qA iP.length pZ)).setCell ⟨y0.heap.size, 1, none⟩ (.slice qD m'.length qC)).cell? ⟨g, k, none⟩ = some (.string s) ∧ ((y8.setCell ⟨y0.heap.size, 0, none⟩ (.slice qA iP.length pZ)).setCell ⟨y0.heap.size, 1, none⟩ (.slice qD m'.length qC)).cell? ⟨nb, 0, none⟩ = some (.slice va 4 vc) ∧ ((y8.setCell ⟨y0.heap.size, 0, none⟩ (.slice qA iP.length pZ)).setCell ⟨y0.heap.size, 1, none⟩ (.slice qD m'.length qC)).cell? ⟨nb, 1, none⟩ = some (.slice oa m.length oc) := by
    have dD := dZ.out.step (by omega) iQ
    exact ⟨(pair_cells ((dD.kept w.heap.size (by omega) (by omega)).trans aN.out.fst)).1, (pair_cells ((dD.kept w.heap.size (by omega) (by omega)).trans aN.out.fst)).2, fE.out _ dD, (iQ.cell (block_lt_of_cell (pair_cells HE.out).1)).trans (pair_cells HE.out).1, (iQ.cell (block_lt_of_cell (pair_cells HE.out).2)).trans (pair_cells HE.out).2⟩
   refine rk 19 rfl (fun K hK => ?_)
   go_simp
   refine hK.out _ _ SW (fun jS => ?_)
   clear hK K jS d0 d1 f0 f1 SW
   (try simp only [Act.put, u1, u2, u3])
   generalize (y8.setCell ⟨y0.heap.size, 0, none⟩ (.slice qA iP.length pZ)).setCell ⟨y0.heap.size, 1, none⟩ (.slice qD m'.length qC) = zn at mN u6 sY iQ mF ⊢; have I1 : zn.cell? ⟨w.heap.size, 0, none⟩ = some (.slice av 4 cv) ∧ zn.cell? ⟨w.heap.size, 1, none⟩ = some (.slice ao l.length co) ∧ zn.cell? ⟨g, k, none⟩ = some (.string s) ∧ zn.cell? ⟨nb, 0, none⟩ = some (.slice va 4 vc) ∧ zn.cell? ⟨nb, 1, none⟩ = some (.slice oa m.length oc) := by
    have dD := dZ.out.step (by omega) iQ
    exact ⟨(pair_cells ((dD.kept w.heap.size (by omega) (by omega)).trans aN.out.fst)).1, (pair_cells ((dD.kept w.heap.size (by omega) (by omega)).trans aN.out.fst)).2, fE.out _ dD, (iQ.cell (block_lt_of_cell (pair_cells HE.out).1)).trans (pair_cells HE.out).1, (iQ.cell (block_lt_of_cell (pair_cells HE.out).2)).trans (pair_cells HE.out).2⟩
   refine tj 20 ?_
   refine wpAnyH_done (by kernel_rfl) ?_ _
   have qQ := aRp (dZ.out.step (by omega) iQ)
   have aNj := qQ.out.size; have HXn := aRp ((qQ.out.kept w.heap.size (by omega) (by omega)).trans aN.out.fst)
   have HRn := aRp ((qQ.out.kept (w.heap.size + 1) (by omega) (by omega)).trans aN.out.snd)
   cases okk
   ·have gD := nJ.out
    rw [aBe lR.out x9.out cI.out pU.out aM] at gD; have hRe : R = (4, [], []) := gD; subst hRe; obtain ⟨r0, r1⟩ := pair_cells HRn.out; obtain ⟨f0, f1⟩ := aC HRn.out; have bL := aRp (cH (.slice none 0 0) (.slice none 0 0) HRn.out); have eC : Hid (Below w.heap.size w ((zn.setCell ⟨w.heap.size + 1, 0, none⟩ (.slice none 0 0)).setCell ⟨w.heap.size + 1, 1, none⟩ (.slice none 0 0))) := qQ.out.bel.trans ((dW zn (w.heap.size + 1) 0 1 _ _).mono (by omega))
    go_wp2
    generalize (zn.setCell ⟨w.heap.size + 1, 0, none⟩ (.slice none 0 0)).setCell ⟨w.heap.size + 1, 1, none⟩ (.slice none 0 0) = wf at bL eC ⊢; obtain ⟨p0, p1⟩ := pair_cells bL.out; exact bodyPost_ret (v := .tuple #[.agg #[.slice none 0 0, .slice none 0 0], .int .i64 4]) (by simp [results, Tryz.results85, go_sem, p0, p1]) rfl ⟨none, 0, 0, none, 0, 0, rfl, eC.out, fun h => absurd h (by decide)⟩
   obtain ⟨C0, j8, n9⟩ := sH.out.1 rfl; have aFk := aRp (aCL lR.out x9.out cI.out pU.out j8 n9); clear j8 n9; have lT := lT; rw [C0.len] at mN u6 lT ⊢; obtain ⟨x0, x1⟩ := pair_cells mN.out; obtain ⟨n0, n1⟩ := pair_cells ((iQ.block nb (by have := bT HE.out; omega)).trans HE.out)
   obtain ⟨fn0, fn1⟩ := aC ((iQ.block nb (by have := bT HE.out; omega)).trans HE.out)
   have HIp := aRp (qQ.out.put (k' := k + 1) (by omega) u6.out sY.out (by omega) (by omega) lT.out vS.out C0 aFk.out)
   clear C0; go_wp2
   go_roundw
   case rel => exact ⟨k + 1, _, by omega, rfl, by go_num, HIp⟩
   case measure => simp [intOf]; omega
theorem aJC (w : World) (B : Nat) (av ao : Option Addr) (cv no co d : Nat) (xs : List Int) (l : List aA) (hx : Ints w B av 4 xs) (h : bR w B ao no l) (hB : B ≤ w.heap.size) (bU : bY av 4 cv) (cC : bY ao no co) (hd : d < 4) (hc : aD xs l = true) :
  Calls Tryz.prog 85 #[.agg #[.slice av 4 cv, .slice ao no co], .int .i64 (d : Int)] w (aHe (oW xs l d) w) := aIl w B av ao cv no co d xs l hx h hB bU cC hd hc _ rfl
structure sF (w w1 : World) (x y z : Array Value) : Prop where
 fst : w1.heap[w.heap.size]? = some (.cells x 27 (0, 0))
 snd : w1.heap[w.heap.size + 1]? = some (.cells y 29 (0, 0))
 res : w1.heap[w.heap.size + 1 + 1]? = some (.cells z 27 (0, 0))
 bel : Below w.heap.size w w1
theorem sF.mk0 (w : World) (x y z : Array Value) : sF w (((w.alloc (.cells x 27)).alloc (.cells y 29)).alloc (.cells z 27)) x y z := by
 have e1 : (w.alloc (.cells x 27)).heap.size = w.heap.size + 1 := by simp
 have e2 : ((w.alloc (.cells x 27)).alloc (.cells y 29)).heap.size = w.heap.size + 1 + 1 := by simp
 refine ⟨?_, ?_, ?_, (((Below.refl _ w).alloc aRr _).alloc (by simp) _).alloc (by simp; omega) _⟩
 ·exact ((Below.heap_alloc _ _ _ (by omega)).trans (Below.heap_alloc _ _ _ (by omega))).trans (heap_alloc_new _ _)
 ·rw [← e1]; exact (Below.heap_alloc _ _ _ (by omega)).trans (heap_alloc_new _ _)
 ·rw [← e2]; exact heap_alloc_new _ _
theorem sF.next {w w1 w2 : World} {x y z : Array Value} (h : sF w w1 x y z) (hb : Below w1.heap.size w1 w2) : sF w w2 x y z :=
 ⟨(hb.block _ (aRq h.fst).1).trans h.fst, (hb.block _ (aRq h.snd).1).trans h.snd, (hb.block _ (aRq h.res).1).trans h.res, h.bel.trans (hb.mono h.bel.size)⟩
theorem sF.lt {w w1 : World} {x y z : Array Value} (h : sF w w1 x y z) : w.heap.size + 1 + 1 < w1.heap.size := (aRq h.res).1
theorem aAy {w : World} {b : Nat} {v0 v1 v2 v3 v4 : Value} {T : TypeId} {fr : Nat × Nat} (h : w.heap[b]? = some (.cells #[v0, v1, v2, v3, v4] T fr)) : w.cell? ⟨b, 0, none⟩ = some v0 ∧ w.cell? ⟨b, 1, none⟩ = some v1 ∧ w.cell? ⟨b, 2, none⟩ = some v2 ∧ w.cell? ⟨b, 3, none⟩ = some v3 ∧ w.cell? ⟨b, 4, none⟩ = some v4 :=
 ⟨aRs h, aRs h, aRs h, aRs h, aRs h⟩
def rR (w : World) (lo hi : Nat) (va : Option Addr) (nv vc : Nat) (oa : Option Addr) (no oc : Nat) (zs : List Int) (m : List aA) : Prop :=
 nv = zs.length ∧ no = m.length ∧ Own w lo hi va nv zs ∧ bE w lo hi oa no m ∧ bY va nv vc ∧ bY oa no oc
def aHd (code : Int) (zs : List Int) (m : List aA) (w : World) (e : Ending) (w' : World) : Prop :=
 ∃ va nv vc oa no oc, e = .returned (.tuple #[.agg #[.slice va nv vc, .slice oa no oc], .int .i64 code]) ∧ Below w.heap.size w w' ∧ (code = 0 → rR w' w.heap.size w'.heap.size va nv vc oa no oc zs m)
theorem rR.kept {w w' : World} {lo hi nv vc no oc : Nat} {va oa : Option Addr} {zs : List Int} {m : List aA} (h : rR w lo hi va nv vc oa no oc zs m) (hk : ∀ j, lo ≤ j → j < hi → w'.heap[j]? = w.heap[j]?) : rR w' lo hi va nv vc oa no oc zs m := by
 obtain ⟨h1, h2, h3, h4, h5, h6⟩ := h
 exact ⟨h1, h2, h3.kept hk, h4.kept hk, h5, h6⟩
theorem rR.more {w : World} {lo hi lo' hi' nv vc no oc : Nat} {va oa : Option Addr} {zs : List Int} {m : List aA} (h : rR w lo hi va nv vc oa no oc zs m) (g1 : lo' ≤ lo) (g2 : hi ≤ hi') : rR w lo' hi' va nv vc oa no oc zs m := by
 obtain ⟨h1, h2, h3, h4, h5, h6⟩ := h
 exact ⟨h1, h2, h3.more g1 g2, h4.more g1 g2, h5, h6⟩
theorem rR.below {w w' : World} {lo hi B nv vc no oc : Nat} {va oa : Option Addr} {zs : List Int} {m : List aA} (h : rR w lo hi va nv vc oa no oc zs m) (hb : Below B w w') (hB : hi ≤ B) : rR w' lo hi va nv vc oa no oc zs m := h.kept fun j _ h2 => hb.block j (by omega)
theorem rR.nil (w : World) (lo hi : Nat) : rR w lo hi none 0 0 none 0 0 [] [] :=
 ⟨rfl, rfl, ⟨rfl, fun h => absurd h (by omega)⟩, ⟨rfl, fun h => absurd h (by omega)⟩, cP, cP⟩
theorem aJB (w : World) (B : Nat) (av ao : Option Addr) (cv no co d : Nat) (xs : List Int) (l : List aA) (hx : Ints w B av 4 xs) (h : bR w B ao no l) (hB : B ≤ w.heap.size) (bU : bY av 4 cv) (cC : bY ao no co) (hd : d < 4) (hc : aD xs l = true) {RC : Int} {RZ : List Int} {RM : List aA} (hR : oW xs l d = (RC, RZ, RM)) :
  Calls Tryz.prog 85 #[.agg #[.slice av 4 cv, .slice ao no co], .int .i64 (d : Int)] w (aHd RC RZ RM w) := by
 have := aJC w B av ao cv no co d xs l hx h hB bU cC hd hc
 rw [hR] at this
 exact this
theorem aE4.toY {xs : List Int} {l : List aA} {dev seq : Int} {w w' : World} {e : Ending} (h : aE4 xs l dev seq w e w') (hc : aD xs l = true) {RC : Int} {RZ : List Int} {RM : List aA} (hR : gE xs l dev seq = (RC, RZ, RM)) : aHd RC RZ RM w e w' := by
 have := h.toX hc
 rw [hR] at this
 exact this
theorem sF.outX {w w1 w2 : World} {x y : Array Value} {z0 z1 : Value} {va oa : Option Addr} {nv vc no oc : Nat} {code : Int} {zs : List Int} {m : List aA} (h : sF w w2 x y #[z0, z1]) (hw : w.heap.size + 1 + 1 < w1.heap.size) (hc : code = 0 → rR w2 w1.heap.size w2.heap.size va nv vc oa no oc zs m) :
  Hid (((w2.setCell ⟨w.heap.size + 1 + 1, 0, none⟩ (.slice va nv vc)).setCell ⟨w.heap.size + 1 + 1, 1, none⟩ (.slice oa no oc)).heap[w.heap.size + 1 + 1]? = some (.cells #[.slice va nv vc, .slice oa no oc] 27 (0, 0))) ∧
  Hid (aHd code zs m w (.returned (.tuple #[.agg #[.slice va nv vc, .slice oa no oc], .int .i64 code])) ((w2.setCell ⟨w.heap.size + 1 + 1, 0, none⟩ (.slice va nv vc)).setCell ⟨w.heap.size + 1 + 1, 1, none⟩ (.slice oa no oc))) := by
 have hz := bB w2 (w.heap.size + 1 + 1) (.slice va nv vc) (.slice oa no oc)
 refine ⟨cH _ _ h.res, va, nv, vc, oa, no, oc, rfl, h.bel.trans ((dW w2 (w.heap.size + 1 + 1) 0 1 _ _).mono (by omega)), fun h0 => ?_⟩
 exact ((hc h0).kept fun j a1 a2 => aE _ _ (by omega)).more (by omega) (by rw [hz]; exact Nat.le_refl _)
theorem sF.outN {w w1 w2 : World} {x y : Array Value} {z0 z1 : Value} {va oa : Option Addr} {nv vc no oc : Nat} {code : Int} {zs : List Int} {m : List aA} (h : sF w w2 x y #[z0, z1]) (hw : w.heap.size + 1 + 1 < w1.heap.size) (hc : rR w2 w1.heap.size w2.heap.size va nv vc oa no oc zs m) :
  Hid (((w2.setCell ⟨w.heap.size + 1 + 1, 0, none⟩ (.slice va nv vc)).setCell ⟨w.heap.size + 1 + 1, 1, none⟩ (.slice oa no oc)).heap[w.heap.size + 1 + 1]? = some (.cells #[.slice va nv vc, .slice oa no oc] 27 (0, 0))) ∧
  Hid (wC code zs m w (.returned (.tuple #[.agg #[.slice va nv vc, .slice oa no oc], .int .i64 code])) ((w2.setCell ⟨w.heap.size + 1 + 1, 0, none⟩ (.slice va nv vc)).setCell ⟨w.heap.size + 1 + 1, 1, none⟩ (.slice oa no oc))) := by
 have hz := bB w2 (w.heap.size + 1 + 1) (.slice va nv vc) (.slice oa no oc)
 obtain ⟨h1, h2, h3, h4, h5, h6⟩ := (hc.kept (w' := ((w2.setCell ⟨w.heap.size + 1 + 1, 0, none⟩ (.slice va nv vc)).setCell ⟨w.heap.size + 1 + 1, 1, none⟩ (.slice oa no oc))) fun j a1 a2 => aE _ _ (by omega)).more (lo' := w.heap.size) (hi' := ((w2.setCell ⟨w.heap.size + 1 + 1, 0, none⟩ (.slice va nv vc)).setCell ⟨w.heap.size + 1 + 1, 1, none⟩ (.slice oa no oc)).heap.size) (by omega) (by rw [hz]; exact Nat.le_refl _)
 subst h1 h2
 exact ⟨cH _ _ h.res, va, vc, oa, oc, rfl, h3, h4, h.bel.trans ((dW w2 (w.heap.size + 1 + 1) 0 1 _ _).mono (by omega)), h5, h6⟩
set_option maxHeartbeats 40000000 in
theorem aJA (w : World) (B : Nat) (av ao : Option Addr) (cv no co : Nat) (d : Nat) (xs : List Int) (l : List aA) (kind qty dv sq : Int) (item : ByteArray) (hx : Ints w B av 4 xs) (h : bR w B ao no l) (hB : B ≤ w.heap.size) (bU : bY av 4 cv) (cC : bY ao no co) (hi : item.size ≤ 8) (hd : d < 4) (hc : aD xs l = true) {RC : Int} {RZ : List Int} {RM : List aA} (hR : iM xs l d kind item qty dv sq = (RC, RZ, RM)) :
  Calls Tryz.prog 46 #[.agg #[.slice av 4 cv, .slice ao no co], .int .i64 (d : Int), .agg #[.int .i64 kind, .string item, .int .i64 qty, .int .i64 dv, .int .i64 sq]] w (aHd RC RZ RM w) := by
 have vP := aRp hR
 clear hR
 obtain rfl := h.1
 have hT := sF.mk0 w #[.slice av 4 cv, .slice ao l.length co] #[.int .i64 kind, .string item, .int .i64 qty, .int .i64 dv, .int .i64 sq] #[.slice none 0 0, .slice none 0 0]
 have HV := aRp (hx.below hT.bel hB)
 have HO := aRp (h.below hT.bel hB)
 have HT := aRp hT
 have oH := aRp bU
 have pH := aRp cC
 have HC := aRp hc
 have HBn := aRp (tC.of_cart hc)
 have hl := eF hc
 clear hc
 clear hx h hT bU cC
 go_enter Tryz.func46, Tryz.ntmps46
 go_upto_region 1 with fail
 generalize ((w.alloc (.cells #[.slice av 4 cv, .slice ao l.length co] 27)).alloc (.cells #[.int .i64 kind, .string item, .int .i64 qty, .int .i64 dv, .int .i64 sq] 29)).alloc (.cells #[.slice none 0 0, .slice none 0 0] 27) = w0 at HV HO HT ⊢
 have lC := HT.out.lt
 obtain ⟨q0, q1⟩ := pair_cells HT.out.fst
 obtain ⟨k0, k1, k2, k3, k4⟩ := aAy HT.out.snd
 by_cases h6 : kind = 6
 ·have e6 : (kind == 6) = true := by rw [h6]; rfl
  have HR6 : Hid (oW xs l d = (RC, RZ, RM)) := by have h := vP.out; unfold iM at h; rwa [if_pos h6] at h
  clear h6
  go_wp2_with fail
  refine (aJB w0 B av ao cv l.length co d xs l HV.out HO.out (by omega) oH.out pH.out hd HC.out HR6.out).mono ?_
  rintro e w1 ⟨va, nv, vc, oa, no, oc, rfl, hb, jP⟩; have aR := aRp (HT.out.next hb); have Y6 := aRp jP; clear q0 q1 k0 k1 k2 k3 k4 HT hb jP; obtain ⟨r0, r1⟩ := pair_cells aR.out.res; obtain ⟨f0, f1⟩ := aC aR.out.res; obtain ⟨bL, iW⟩ := aR.out.outX (w1 := w0) (va := va) (nv := nv) (vc := vc) (oa := oa) (no := no) (oc := oc) (code := RC) (zs := RZ) (m := RM) (by omega) Y6.out
  go_wp2
  generalize (w1.setCell ⟨w.heap.size + 1 + 1, 0, none⟩ (.slice va nv vc)).setCell ⟨w.heap.size + 1 + 1, 1, none⟩ (.slice oa no oc) = wf at bL iW ⊢; obtain ⟨p0, p1⟩ := pair_cells bL.out; exact bodyPost_ret (v := .tuple #[.agg #[.slice va nv vc, .slice oa no oc], .int .i64 (RC)]) (by simp [results, Tryz.results46, go_sem, p0, p1]) rfl iW.out
 have e6 : (kind == 6) = false := by rw [beq_eq_false_iff_ne]; exact h6
 by_cases h7 : kind = 7
 ·have e7 : (kind == 7) = true := by rw [h7]; rfl
  have HR7 : Hid (gE xs l (d : Int) (cO (d : Int) l l.length) = (RC, RZ, RM)) := by have h := vP.out; unfold iM at h; rwa [if_neg h6, if_pos h7] at h
  clear h7; clear q0 q1
  go_upto_region 5 with fail
  have hS : w0.drew.cell? ⟨w.heap.size, 0, none⟩ = some (.slice av 4 cv) ∧ w0.drew.cell? ⟨w.heap.size, 1, none⟩ = some (.slice ao l.length co) := pair_cells HT.out.fst
  go_wp2_with fail
  refine wp_region_held_drew (S := fun w' => w'.cell? ⟨w.heap.size, 0, none⟩ = some (.slice av 4 cv) ∧ w'.cell? ⟨w.heap.size, 1, none⟩ = some (.slice ao l.length co)) (by kernel_rfl) hS (fun aO => ?_)
  refine tj 0 ?_
  refine tj 1 ?_
  refine tj 2 ?_
  refine tj 3 ?_
  refine rk 4 rfl (fun K hK => ?_)
  go_simp
  go_at_call 87
  refine (aIj w0.drew B av ao 4 cv l.length co xs l (d : Int) (HO.out.kept (w' := w0.drew) fun _ _ => rfl) (by show B ≤ w0.heap.size; omega) (by omega) HC.out).mono ?_
  rintro e w1 ⟨rfl, hC⟩; have aF : Below w0.heap.size w0 w1 := Below.mk hC.os hC.tape hC.output hC.size hC.block; have dQ : w1.cell? ⟨w.heap.size, 0, none⟩ = some (.slice av 4 cv) ∧ w1.cell? ⟨w.heap.size, 1, none⟩ = some (.slice ao l.length co) := pair_cells (HT.out.next aF).fst; have eL := aF.size; generalize cO (d : Int) l l.length = sqn at HR7 ⊢; refine hK.out _ _ dQ (fun bQ => ?_)
  clear hK K
  (try simp only [Act.put, u1, u2, u3])
  refine rk 5 rfl (fun K hK => ?_)
  go_simp
  go_at_call 86
  refine (aA5 w1 B av ao 4 cv l.length co xs l (d : Int) sqn (HV.out.below aF (by omega)) (HO.out.below aF (by omega)) (by omega) oH.out.2.2 pH.out.2.2 (by omega) (by omega) (fun i hi => by have := dI (fI HC.out hi); omega)).mono ?_
  rintro e w2 xC; obtain ⟨va, nv, vc, oa, no, oc, rfl, aI, jP⟩ := xC.toY HC.out HR7.out; have Y6 := aRp jP; have aKa := aF.trans (aI.mono aF.size); have aN := aRp (HT.out.next aKa); have eD : w2.cell? ⟨w.heap.size, 0, none⟩ = some (.slice av 4 cv) ∧ w2.cell? ⟨w.heap.size, 1, none⟩ = some (.slice ao l.length co) := pair_cells aN.out.fst; refine hK.out _ _ eD (fun dG => ?_)
  clear hK K
  (try simp only [Act.put, u1, u2, u3])
  refine tj 6 ?_
  refine tj 7 ?_
  obtain ⟨r0, r1⟩ := pair_cells aN.out.res; obtain ⟨f0, f1⟩ := aC aN.out.res; obtain ⟨bL, iW⟩ := aN.out.outX (w1 := w1) (va := va) (nv := nv) (vc := vc) (oa := oa) (no := no) (oc := oc) (code := RC) (zs := RZ) (m := RM) (by omega) Y6.out
  have eJ : ((w2.setCell ⟨w.heap.size + 1 + 1, 0, none⟩ (.slice va nv vc)).setCell ⟨w.heap.size + 1 + 1, 1, none⟩ (.slice oa no oc)).cell? ⟨w.heap.size, 0, none⟩ = some (.slice av 4 cv) ∧ ((w2.setCell ⟨w.heap.size + 1 + 1, 0, none⟩ (.slice va nv vc)).setCell ⟨w.heap.size + 1 + 1, 1, none⟩ (.slice oa no oc)).cell? ⟨w.heap.size, 1, none⟩ = some (.slice ao l.length co) := pair_cells ((aE _ _ (by omega)).trans aN.out.fst)
  refine rk 8 rfl (fun K hK => ?_)
  go_simp
  refine hK.out _ _ eJ (fun lD => ?_)
  clear hK K
  (try simp only [Act.put, u1, u2, u3])
  clear hS dQ eD r0 r1 f0 f1 aO bQ dG; generalize (w2.setCell ⟨w.heap.size + 1 + 1, 0, none⟩ (.slice va nv vc)).setCell ⟨w.heap.size + 1 + 1, 1, none⟩ (.slice oa no oc) = wf at bL iW eJ ⊢; refine tj 9 ?_
  refine wpAnyH_done (by kernel_rfl) ?_ _
  obtain ⟨p0, p1⟩ := pair_cells bL.out; go_wp2
  exact bodyPost_ret (v := .tuple #[.agg #[.slice va nv vc, .slice oa no oc], .int .i64 RC]) (by simp [results, Tryz.results46, go_sem, p0, p1]) rfl iW.out
 have e7 : (kind == 7) = false := by rw [beq_eq_false_iff_ne]; exact h7
 by_cases h8 : kind = 8
 ·have e8 : (kind == 8) = true := by rw [h8]; rfl
  have HR8 : Hid (gE xs l (d : Int) (pB xs d l) = (RC, RZ, RM)) := by have h := vP.out; unfold iM at h; rwa [if_neg h6, if_neg h7, if_pos h8] at h
  clear h8; clear q0 q1
  go_upto_region 7 with fail
  have hS : w0.drew.cell? ⟨w.heap.size, 0, none⟩ = some (.slice av 4 cv) ∧ w0.drew.cell? ⟨w.heap.size, 1, none⟩ = some (.slice ao l.length co) := pair_cells HT.out.fst
  go_wp2_with fail
  refine wp_region_held_drew (S := fun w' => w'.cell? ⟨w.heap.size, 0, none⟩ = some (.slice av 4 cv) ∧ w'.cell? ⟨w.heap.size, 1, none⟩ = some (.slice ao l.length co)) (by kernel_rfl) hS (fun aO => ?_)
  refine tj 0 ?_
  refine tj 1 ?_
  refine tj 2 ?_
  refine tj 3 ?_
  refine rk 4 rfl (fun K hK => ?_)
  go_simp
  go_at_call 88
  refine (aM9 w0.drew B av ao 4 cv l.length co xs l d hd (HO.out.kept (w' := w0.drew) fun _ _ => rfl) (by show B ≤ w0.heap.size; omega) (by omega) HC.out).mono ?_
  rintro e w1 ⟨rfl, hC⟩; have aF : Below w0.heap.size w0 w1 := Below.mk hC.os hC.tape hC.output hC.size hC.block; have dQ : w1.cell? ⟨w.heap.size, 0, none⟩ = some (.slice av 4 cv) ∧ w1.cell? ⟨w.heap.size, 1, none⟩ = some (.slice ao l.length co) := pair_cells (HT.out.next aF).fst; have eL := aF.size; generalize pB xs d l = sqn at HR8 ⊢; refine hK.out _ _ dQ (fun bQ => ?_)
  clear hK K
  (try simp only [Act.put, u1, u2, u3])
  refine rk 5 rfl (fun K hK => ?_)
  go_simp
  go_at_call 86
  refine (aA5 w1 B av ao 4 cv l.length co xs l (d : Int) sqn (HV.out.below aF (by omega)) (HO.out.below aF (by omega)) (by omega) oH.out.2.2 pH.out.2.2 (by omega) (by omega) (fun i hi => by have := dI (fI HC.out hi); omega)).mono ?_
  rintro e w2 xC; obtain ⟨va, nv, vc, oa, no, oc, rfl, aI, jP⟩ := xC.toY HC.out HR8.out; have Y6 := aRp jP; have aKa := aF.trans (aI.mono aF.size); have aN := aRp (HT.out.next aKa); have eD : w2.cell? ⟨w.heap.size, 0, none⟩ = some (.slice av 4 cv) ∧ w2.cell? ⟨w.heap.size, 1, none⟩ = some (.slice ao l.length co) := pair_cells aN.out.fst; refine hK.out _ _ eD (fun dG => ?_)
  clear hK K
  (try simp only [Act.put, u1, u2, u3])
  refine tj 6 ?_
  refine tj 7 ?_
  obtain ⟨r0, r1⟩ := pair_cells aN.out.res; obtain ⟨f0, f1⟩ := aC aN.out.res; obtain ⟨bL, iW⟩ := aN.out.outX (w1 := w1) (va := va) (nv := nv) (vc := vc) (oa := oa) (no := no) (oc := oc) (code := RC) (zs := RZ) (m := RM) (by omega) Y6.out
  have eJ : ((w2.setCell ⟨w.heap.size + 1 + 1, 0, none⟩ (.slice va nv vc)).setCell ⟨w.heap.size + 1 + 1, 1, none⟩ (.slice oa no oc)).cell? ⟨w.heap.size, 0, none⟩ = some (.slice av 4 cv) ∧ ((w2.setCell ⟨w.heap.size + 1 + 1, 0, none⟩ (.slice va nv vc)).setCell ⟨w.heap.size + 1 + 1, 1, none⟩ (.slice oa no oc)).cell? ⟨w.heap.size, 1, none⟩ = some (.slice ao l.length co) := pair_cells ((aE _ _ (by omega)).trans aN.out.fst)
  refine rk 8 rfl (fun K hK => ?_)
  go_simp
  refine hK.out _ _ eJ (fun lD => ?_)
  clear hK K
  (try simp only [Act.put, u1, u2, u3])
  clear hS dQ eD r0 r1 f0 f1 aO bQ dG; generalize (w2.setCell ⟨w.heap.size + 1 + 1, 0, none⟩ (.slice va nv vc)).setCell ⟨w.heap.size + 1 + 1, 1, none⟩ (.slice oa no oc) = wf at bL iW eJ ⊢; refine tj 9 ?_
  refine wpAnyH_done (by kernel_rfl) ?_ _
  obtain ⟨p0, p1⟩ := pair_cells bL.out; go_wp2
  exact bodyPost_ret (v := .tuple #[.agg #[.slice va nv vc, .slice oa no oc], .int .i64 RC]) (by simp [results, Tryz.results46, go_sem, p0, p1]) rfl iW.out
 have e8 : (kind == 8) = false := by rw [beq_eq_false_iff_ne]; exact h8
 by_cases h9 : kind = 9
 ·have e9 : (kind == 9) = true := by rw [h9]; rfl
  have HR9 : Hid (gE xs l dv sq = (RC, RZ, RM)) := by have h := vP.out; unfold iM at h; rwa [if_neg h6, if_neg h7, if_neg h8, if_pos h9] at h
  clear h6 h7 h8 h9
  go_wp2_with fail
  refine (aA5 w0 B av ao 4 cv l.length co xs l dv sq HV.out HO.out (by omega) oH.out.2.2 pH.out.2.2 (by omega) (by omega) (fun i hi => by have := dI (fI HC.out hi); omega)).mono ?_
  rintro e w1 xC; obtain ⟨va, nv, vc, oa, no, oc, rfl, hb, jP⟩ := xC.toY HC.out HR9.out; have aR := aRp (HT.out.next hb); have Y6 := aRp jP; clear q0 q1 k0 k1 k2 k3 k4 HT hb jP xC; obtain ⟨r0, r1⟩ := pair_cells aR.out.res; obtain ⟨f0, f1⟩ := aC aR.out.res; obtain ⟨bL, iW⟩ := aR.out.outX (w1 := w0) (va := va) (nv := nv) (vc := vc) (oa := oa) (no := no) (oc := oc) (code := RC) (zs := RZ) (m := RM) (by omega) Y6.out
  go_wp2
  generalize (w1.setCell ⟨w.heap.size + 1 + 1, 0, none⟩ (.slice va nv vc)).setCell ⟨w.heap.size + 1 + 1, 1, none⟩ (.slice oa no oc) = wf at bL iW ⊢; obtain ⟨p0, p1⟩ := pair_cells bL.out; exact bodyPost_ret (v := .tuple #[.agg #[.slice va nv vc, .slice oa no oc], .int .i64 (RC)]) (by simp [results, Tryz.results46, go_sem, p0, p1]) rfl iW.out
 have e9 : (kind == 9) = false := by rw [beq_eq_false_iff_ne]; exact h9
 have gD : Hid ((if (oneOf (aL item l l.length) (decide ((bA gN item l l.length).kind = 4)) kind item qty).2 = 0 then (if (aK xs l d (oneOf (aL item l l.length) (decide ((bA gN item l l.length).kind = 4)) kind item qty).1).ok = true then ((0 : Int), dH xs d, bH l d (aK xs l d (oneOf (aL item l l.length) (decide ((bA gN item l l.length).kind = 4)) kind item qty).1)) else (4, [], [])) else ((oneOf (aL item l l.length) (decide ((bA gN item l l.length).kind = 4)) kind item qty).2, [], [])) = (RC, RZ, RM)) := by
  have h := vP.out; unfold iM at h; rw [if_neg h6, if_neg h7, if_neg h8, if_neg h9] at h; exact h
 clear vP h6 h7 h8 h9
 go_wp2_with fail
 refine (aOS w0 B av ao 4 cv l.length co xs l kind qty dv sq item HO.out (by omega) (by omega) HC.out (by have := zO HC.out item l.length aRr; omega)).mono ?_
 have aJ2 := aBJ (aL item l l.length) (decide ((bA gN item l l.length).kind = 4)) kind item qty
 generalize oneOf (aL item l l.length) (decide ((bA gN item l l.length).kind = 4)) kind item qty = oc at aJ2 gD ⊢
 obtain ⟨op, code⟩ := oc
 have hi8 : op.item.size ≤ 8 := by
  rcases aJ2 with e | e
  ·have e : op.item = item := e
   rw [e]; exact hi
  ·have e : op.item = ⟨#[]⟩ := e
   rw [e]; exact Nat.zero_le _
 rintro e w1 ⟨rfl, aF⟩
 have aR := aRp (HT.out.next aF)
 have iV := aRp (HV.out.below aF (by omega))
 have cV := aRp (HO.out.below aF (by omega))
 have eL := aF.size
 clear aF HT HV HO q0 q1 k0 k1 k2 k3 k4 e6 e7 e8 e9 aJ2
 go_upto_region 11 with fail
 have aI : Below w1.heap.size w1 (w1.alloc (.cells #[.int .i64 op.dev, .int .i64 op.seq, .int .i64 op.stamp, .int .i64 op.kind, .string op.item, .int .i64 op.qty, .int .i64 op.level, .int .i64 op.undos] 50)) := (Below.refl _ w1).alloc aRr _
 have xP : Hid ((w1.alloc (.cells #[.int .i64 op.dev, .int .i64 op.seq, .int .i64 op.stamp, .int .i64 op.kind, .string op.item, .int .i64 op.qty, .int .i64 op.level, .int .i64 op.undos] 50)).heap[w1.heap.size]? = some (.cells #[.int .i64 op.dev, .int .i64 op.seq, .int .i64 op.stamp, .int .i64 op.kind, .string op.item, .int .i64 op.qty, .int .i64 op.level, .int .i64 op.undos] 50 (0, 0))) := bM (Below.refl _ _)
 generalize w1.alloc (.cells #[.int .i64 op.dev, .int .i64 op.seq, .int .i64 op.stamp, .int .i64 op.kind, .string op.item, .int .i64 op.qty, .int .i64 op.level, .int .i64 op.undos] 50) = w2 at aI xP ⊢
 have aN := aRp (aR.out.next aI)
 have jZ := aRp (iV.out.below aI (by omega))
 have fJ := aRp (cV.out.below aI (by omega))
 have eB := aI.size
 clear aI aR iV cV
 by_cases G7 : code = 0
 rotate_left
 ·have en : (code != 0) = true := by simpa using G7
  have h3 := gD.out
  try dsimp only at h3
  rw [if_neg G7] at h3; injection h3 with e1 h4; injection h4 with e2 e3; subst e1 e2 e3; have HN0 := aRp G7; clear G7; obtain ⟨r0, r1⟩ := pair_cells aN.out.res; obtain ⟨f0, f1⟩ := aC aN.out.res; obtain ⟨bL, iW⟩ := aN.out.outX (w1 := w2) (va := none) (nv := 0) (vc := 0) (oa := none) (no := 0) (oc := 0) (code := code) (zs := []) (m := []) (by omega) (fun h => absurd h HN0.out)
  go_wp2
  generalize (w2.setCell ⟨w.heap.size + 1 + 1, 0, none⟩ (.slice none 0 0)).setCell ⟨w.heap.size + 1 + 1, 1, none⟩ (.slice none 0 0) = wf at bL iW ⊢; obtain ⟨p0, p1⟩ := pair_cells bL.out; exact bodyPost_ret (v := .tuple #[.agg #[.slice none 0 0, .slice none 0 0], .int .i64 (code)]) (by simp [results, Tryz.results46, go_sem, p0, p1]) rfl iW.out
 subst G7
 have oJ := HBn.out
 obtain ⟨okk, iP, m', aEI, xV⟩ := aIk xs l d 160 (by omega) op oJ hd (by omega)
 have pU := aRp aEI
 have sH := aRp xV
 clear xV aEI oJ
 obtain ⟨q0, q1⟩ := pair_cells aN.out.fst
 obtain ⟨d0, d1, d2, d3, d4, d5, d6, d7⟩ := aH xP.out
 go_wp2_with fail
 refine (sH.out.2 w2 B av ao cv co jZ.out fJ.out (by omega) oH.out pH.out).mono ?_
 rintro e w3 ⟨va, vc, oa, oc, rfl, gY, dY, aS, c1, c2⟩
 have bF := aRp (aN.out.next aS)
 have HA := aRp gY
 have HD := aRp dY
 have K2 := aRp c1
 have HC2 := aRp c2
 have iD := aS.size
 clear gY dY aS c1 c2 aN q0 q1 d0 d1 d2 d3 d4 d5 d6 d7 xP jZ fJ
 go_upto_region 14 with fail
 have cW : Below w3.heap.size w3 (w3.alloc (.cells #[.slice va iP.length vc, .slice oa m'.length oc] 27)) := (Below.refl _ w3).alloc aRr _
 have O8 : Hid ((w3.alloc (.cells #[.slice va iP.length vc, .slice oa m'.length oc] 27)).heap[w3.heap.size]? = some (.cells #[.slice va iP.length vc, .slice oa m'.length oc] 27 (0, 0))) := bM (Below.refl _ _)
 generalize w3.alloc (.cells #[.slice va iP.length vc, .slice oa m'.length oc] 27) = w4 at cW O8 ⊢
 have fZ := aRp (bF.out.next cW)
 have HA4 := aRp (HA.out.below cW aRr)
 have mP := aRp (HD.out.below cW aRr)
 have vD := cW.size
 clear cW bF HA HD
 have h3 := gD.out
 try dsimp only at h3
 (first | rw [if_pos rfl] at h3 | rw [if_pos trivial] at h3)
 rw [← pU.out] at h3
 cases okk
 ·rw [if_neg (by decide)] at h3
  injection h3 with e1 h4; injection h4 with e2 e3; subst e1 e2 e3; obtain ⟨r0, r1⟩ := pair_cells fZ.out.res; obtain ⟨f0, f1⟩ := aC fZ.out.res; obtain ⟨bL, iW⟩ := fZ.out.outX (w1 := w4) (va := none) (nv := 0) (vc := 0) (oa := none) (no := 0) (oc := 0) (code := 4) (zs := []) (m := []) (by omega) (fun h => absurd h (by omega))
  go_wp2
  generalize (w4.setCell ⟨w.heap.size + 1 + 1, 0, none⟩ (.slice none 0 0)).setCell ⟨w.heap.size + 1 + 1, 1, none⟩ (.slice none 0 0) = wf at bL iW ⊢; obtain ⟨p0, p1⟩ := pair_cells bL.out; exact bodyPost_ret (v := .tuple #[.agg #[.slice none 0 0, .slice none 0 0], .int .i64 (4)]) (by simp [results, Tryz.results46, go_sem, p0, p1]) rfl iW.out
 obtain ⟨C0, j8, n9⟩ := sH.out.1 rfl
 rw [if_pos rfl, ← j8, ← n9] at h3
 injection h3 with e1 h4
 injection h4 with e2 e3
 subst e1 e2 e3
 clear j8 n9
 have K2 := K2
 have HA4 := HA4
 rw [C0.len] at O8 HA4 K2 ⊢
 have Y6 : Hid ((0 : Int) = 0 → rR w4 w2.heap.size w4.heap.size va 4 vc oa m'.length oc iP m') := fun _ => ⟨C0.len.symm, rfl, HA4.out.more aRr vD, mP.out.more aRr vD, K2.out, HC2.out⟩
 clear C0
 obtain ⟨n0, n1⟩ := pair_cells O8.out
 obtain ⟨r0, r1⟩ := pair_cells fZ.out.res
 obtain ⟨f0, f1⟩ := aC fZ.out.res
 obtain ⟨bL, iW⟩ := fZ.out.outX (w1 := w2) (va := va) (nv := 4) (vc := vc) (oa := oa) (no := m'.length) (oc := oc) (code := 0) (zs := iP) (m := m') (by omega) Y6.out
 go_wp2
 generalize (w4.setCell ⟨w.heap.size + 1 + 1, 0, none⟩ (.slice va 4 vc)).setCell ⟨w.heap.size + 1 + 1, 1, none⟩ (.slice oa m'.length oc) = wf at bL iW ⊢
 obtain ⟨p0, p1⟩ := pair_cells bL.out
 exact bodyPost_ret (v := .tuple #[.agg #[.slice va 4 vc, .slice oa m'.length oc], .int .i64 (0)]) (by simp [results, Tryz.results46, go_sem, p0, p1]) rfl iW.out
theorem aKi {kind : Int} {item : ByteArray} {qty dv sq : Int} (h : fT kind item qty dv sq = true) : item.size ≤ 8 := by
 unfold fT at h
 have hb : gK item = true → item.size ≤ 8 := fun h => by
  unfold gK at h; simp only [Bool.and_eq_true, decide_eq_true_eq] at h
  omega
 have he : item = ⟨#[]⟩ → item.size ≤ 8 := fun h => by rw [h]; exact Nat.zero_le _
 split at h
 ·rw [Bool.and_eq_true] at h; exact hb h.1
 ·split at h
  ·rw [Bool.and_eq_true] at h; exact hb h.1
  ·split at h
   ·exact he (of_decide_eq_true h).1
   ·split at h
    ·rw [Bool.and_eq_true] at h; exact he (of_decide_eq_true h.1).1
    ·cases h
set_option maxHeartbeats 40000000 in
theorem aBB (w : World) (B : Nat) (av ao : Option Addr) (cv no co : Nat) (xs : List Int) (l : List aA) (kind qty dv sq : Int) (item : ByteArray) (hx : Ints w B av 4 xs) (h : bR w B ao no l) (hB : B ≤ w.heap.size) (bU : bY av 4 cv) (cC : bY ao no co) (hi : item.size ≤ 1048576) (dev : Int) (hm : ∀ i, i < no → (aB l i).item.size ≤ 1048576) (hn : no ≤ 1048576) {RC : Int} {RZ : List Int} {RM : List aA} (hR : cD xs l dev kind item qty dv sq = (RC, RZ, RM)) :
  Calls Tryz.prog 18 #[.agg #[.slice av 4 cv, .slice ao no co], .int .i64 dev, .agg #[.int .i64 kind, .string item, .int .i64 qty, .int .i64 dv, .int .i64 sq]] w (wC RC RZ RM w) := by
 have vP := aRp hR
 clear hR
 obtain rfl := h.1
 have hT := sF.mk0 w #[.slice av 4 cv, .slice ao l.length co] #[.int .i64 kind, .string item, .int .i64 qty, .int .i64 dv, .int .i64 sq] #[.slice none 0 0, .slice none 0 0]
 have HV := aRp (hx.below hT.bel hB)
 have HO := aRp (h.below hT.bel hB)
 have HT := aRp hT
 have oH := aRp bU
 have pH := aRp cC
 have HM := aRp hm
 clear hm
 clear hx h hT bU cC
 go_enter Tryz.func18, Tryz.ntmps18
 go_upto_region 1 with fail
 generalize ((w.alloc (.cells #[.slice av 4 cv, .slice ao l.length co] 27)).alloc (.cells #[.int .i64 kind, .string item, .int .i64 qty, .int .i64 dv, .int .i64 sq] 29)).alloc (.cells #[.slice none 0 0, .slice none 0 0] 27) = w0 at HV HO HT ⊢
 have lC := HT.out.lt
 obtain ⟨q0, q1⟩ := pair_cells HT.out.fst
 obtain ⟨k0, k1, k2, k3, k4⟩ := aAy HT.out.snd
 have finish : ∀ (w1 : World), sF w w1 #[.slice av 4 cv, .slice ao l.length co] #[.int .i64 kind, .string item, .int .i64 qty, .int .i64 dv, .int .i64 sq] #[.slice none 0 0, .slice none 0 0] → True := fun _ _ => trivial
 clear finish
 obtain ⟨cb, hcb⟩ : ∃ b, aD xs l = b := ⟨_, rfl⟩
 have pW := aRp hcb
 clear hcb
 go_wp2_with fail
 refine (tH w0 B av ao 4 cv l.length co xs l HV.out HO.out (by omega) (by omega) hn HM.out).mono ?_
 rw [pW.out]
 rintro e w1 ⟨rfl, aF⟩
 have aR := aRp (HT.out.next aF)
 have iV := aRp (HV.out.below aF (by omega))
 have cV := aRp (HO.out.below aF (by omega))
 have eL := aF.size
 clear aF HT HV HO q0 q1 k0 k1 k2 k3 k4
 cases cb
 ·have h3 := vP.out
  unfold cD at h3; rw [if_neg (by rintro ⟨a1, a2, a3⟩; first | exact Bool.false_ne_true (pW.out.symm.trans a1) | exact Bool.false_ne_true (HDb.out.symm.trans a2) | exact Bool.false_ne_true (HKb.out.symm.trans a3))] at h3
  injection h3 with e1 h4; injection h4 with e2 e3; subst e1 e2 e3; obtain ⟨r0, r1⟩ := pair_cells aR.out.res; obtain ⟨f0, f1⟩ := aC aR.out.res; obtain ⟨bL, iW⟩ := aR.out.outN (w1 := w1) (va := none) (nv := 0) (vc := 0) (oa := none) (no := 0) (oc := 0) (code := 1) (zs := []) (m := []) (by omega) (rR.nil _ _ _)
  go_wp2
  generalize (w1.setCell ⟨w.heap.size + 1 + 1, 0, none⟩ (.slice none 0 0)).setCell ⟨w.heap.size + 1 + 1, 1, none⟩ (.slice none 0 0) = wf at bL iW ⊢; obtain ⟨p0, p1⟩ := pair_cells bL.out; exact bodyPost_ret (v := .tuple #[.agg #[.slice none 0 0, .slice none 0 0], .int .i64 (1)]) (by simp [results, Tryz.results18, go_sem, p0, p1]) rfl iW.out
 go_wp2_with fail
 refine (fN dev w1).mono ?_
 rintro e w2 ⟨rfl, rfl⟩
 obtain ⟨db, N1⟩ : ∃ b, cS dev 0 3 = b := ⟨_, rfl⟩
 have HDb := aRp N1
 rw [N1]
 clear N1
 cases db
 ·have h3 := vP.out
  unfold cD at h3; rw [if_neg (by rintro ⟨a1, a2, a3⟩; first | exact Bool.false_ne_true (pW.out.symm.trans a1) | exact Bool.false_ne_true (HDb.out.symm.trans a2) | exact Bool.false_ne_true (HKb.out.symm.trans a3))] at h3
  injection h3 with e1 h4; injection h4 with e2 e3; subst e1 e2 e3; obtain ⟨r0, r1⟩ := pair_cells aR.out.res; obtain ⟨f0, f1⟩ := aC aR.out.res; obtain ⟨bL, iW⟩ := aR.out.outN (w1 := w1) (va := none) (nv := 0) (vc := 0) (oa := none) (no := 0) (oc := 0) (code := 1) (zs := []) (m := []) (by omega) (rR.nil _ _ _)
  go_wp2
  generalize (w1.setCell ⟨w.heap.size + 1 + 1, 0, none⟩ (.slice none 0 0)).setCell ⟨w.heap.size + 1 + 1, 1, none⟩ (.slice none 0 0) = wf at bL iW ⊢; obtain ⟨p0, p1⟩ := pair_cells bL.out; exact bodyPost_ret (v := .tuple #[.agg #[.slice none 0 0, .slice none 0 0], .int .i64 (1)]) (by simp [results, Tryz.results18, go_sem, p0, p1]) rfl iW.out
 obtain ⟨k0, k1, k2, k3, k4⟩ := aAy aR.out.snd
 go_wp2_with fail
 refine (aAn kind item qty dv sq (by omega) w1).mono ?_
 obtain ⟨kb, N0⟩ : ∃ b, fT kind item qty dv sq = b := ⟨_, rfl⟩
 have HKb := aRp N0
 rw [N0]
 clear N0
 rintro e w2 ⟨rfl, aI⟩
 have aN := aRp (aR.out.next aI)
 have jZ := aRp (iV.out.below aI (by omega))
 have fJ := aRp (cV.out.below aI (by omega))
 have eB := aI.size
 clear aI aR iV cV k0 k1 k2 k3 k4
 cases kb
 ·have h3 := vP.out
  unfold cD at h3; rw [if_neg (by rintro ⟨a1, a2, a3⟩; first | exact Bool.false_ne_true (pW.out.symm.trans a1) | exact Bool.false_ne_true (HDb.out.symm.trans a2) | exact Bool.false_ne_true (HKb.out.symm.trans a3))] at h3
  injection h3 with e1 h4; injection h4 with e2 e3; subst e1 e2 e3; obtain ⟨r0, r1⟩ := pair_cells aN.out.res; obtain ⟨f0, f1⟩ := aC aN.out.res; obtain ⟨bL, iW⟩ := aN.out.outN (w1 := w2) (va := none) (nv := 0) (vc := 0) (oa := none) (no := 0) (oc := 0) (code := 1) (zs := []) (m := []) (by omega) (rR.nil _ _ _)
  go_wp2
  generalize (w2.setCell ⟨w.heap.size + 1 + 1, 0, none⟩ (.slice none 0 0)).setCell ⟨w.heap.size + 1 + 1, 1, none⟩ (.slice none 0 0) = wf at bL iW ⊢; obtain ⟨p0, p1⟩ := pair_cells bL.out; exact bodyPost_ret (v := .tuple #[.agg #[.slice none 0 0, .slice none 0 0], .int .i64 (1)]) (by simp [results, Tryz.results18, go_sem, p0, p1]) rfl iW.out
 have hi := aKi HKb.out
 obtain ⟨d, rfl, hd⟩ : ∃ d : Nat, dev = (d : Int) ∧ d < 4 := by
  have := HDb.out; rw [gM] at this; exact ⟨dev.toNat, by omega, by omega⟩
 have hl := eF pW.out
 obtain ⟨LC, LZ, LM, hL6⟩ : ∃ c z m, iM xs l d kind item qty dv sq = (c, z, m) := ⟨_, _, _, rfl⟩
 have lS : Hid ((if LC = 0 then (LC, LZ, LM) else (LC, xs, l)) = (RC, RZ, RM)) := by
  have h := vP.out; unfold cD at h; rw [if_pos ⟨pW.out, HDb.out, HKb.out⟩, Int.toNat_natCast, hL6] at h; exact h
 have HL6 := aRp hL6
 clear hL6 vP
 obtain ⟨q0, q1⟩ := pair_cells aN.out.fst
 obtain ⟨k0, k1, k2, k3, k4⟩ := aAy aN.out.snd
 go_wp2_with fail
 refine (aJA w2 B av ao cv l.length co d xs l kind qty dv sq item jZ.out fJ.out (by omega) oH.out pH.out hi hd pW.out HL6.out).mono ?_
 rintro e w3 ⟨va, nv, vc, oa, no, oc, rfl, aS, jP⟩
 have bF := aRp (aN.out.next aS)
 have Y0 := aRp (jZ.out.below aS (by omega))
 have uY := aRp (fJ.out.below aS (by omega))
 have Y6 := aRp jP
 have iD := aS.size
 clear aS aN jZ fJ jP q0 q1 k0 k1 k2 k3 k4
 go_upto_region 4 with fail
 have cW : Below w3.heap.size w3 (w3.alloc (.cells #[.slice va nv vc, .slice oa no oc] 27)) := (Below.refl _ w3).alloc aRr _
 have O8 : Hid ((w3.alloc (.cells #[.slice va nv vc, .slice oa no oc] 27)).heap[w3.heap.size]? = some (.cells #[.slice va nv vc, .slice oa no oc] 27 (0, 0))) := bM (Below.refl _ _)
 generalize w3.alloc (.cells #[.slice va nv vc, .slice oa no oc] 27) = w4 at cW O8 ⊢
 have fZ := aRp (bF.out.next cW)
 have qX := aRp (Y0.out.below cW (by omega))
 have pV := aRp (uY.out.below cW (by omega))
 have aQq : Hid (LC = 0 → rR w4 w2.heap.size w4.heap.size va nv vc oa no oc LZ LM) := fun h0 => ((Y6.out h0).below cW aRr).more aRr cW.size
 have vD := cW.size
 clear cW bF Y0 uY Y6
 by_cases G7 : LC = 0
 rotate_left
 ·have en : (LC != 0) = true := by simpa using G7
  have h3 := lS.out; rw [if_neg G7] at h3; injection h3 with e1 h4; injection h4 with e2 e3; subst e1 e2 e3; have HN0 := aRp G7; clear G7; obtain ⟨q0, q1⟩ := pair_cells fZ.out.fst
  go_wp2_with fail
  refine (aEp w4 B av ao 4 cv l.length co xs l qX.out pV.out (by omega) oH.out.2.2 pH.out.2.2 (by omega) (by omega)).mono ?_
  rintro e w5 ⟨ra, rc, sa, sc, rfl, ho1, ho2, aW, G4, yM⟩; have aQp : Hid (rR w5 w4.heap.size w5.heap.size ra xs.length rc sa l.length sc xs l) := ⟨rfl, rfl, ho1, ho2, G4, yM⟩; clear ho1 ho2 G4 yM; have vO := aRp (fZ.out.next aW); have hs5 := aW.size; clear aW fZ qX pV q0 q1; obtain ⟨r0, r1⟩ := pair_cells vO.out.res; obtain ⟨f0, f1⟩ := aC vO.out.res; obtain ⟨bL, iW⟩ := vO.out.outN (w1 := w4) (va := ra) (nv := xs.length) (vc := rc) (oa := sa) (no := l.length) (oc := sc) (code := LC) (zs := xs) (m := l) (by omega) aQp.out
  go_wp2
  generalize (w5.setCell ⟨w.heap.size + 1 + 1, 0, none⟩ (.slice ra xs.length rc)).setCell ⟨w.heap.size + 1 + 1, 1, none⟩ (.slice sa l.length sc) = wf at bL iW ⊢; obtain ⟨p0, p1⟩ := pair_cells bL.out; exact bodyPost_ret (v := .tuple #[.agg #[.slice ra xs.length rc, .slice sa l.length sc], .int .i64 (LC)]) (by simp [results, Tryz.results18, go_sem, p0, p1]) rfl iW.out
 subst G7
 have h3 := lS.out
 rw [if_pos rfl] at h3
 injection h3 with e1 h4
 injection h4 with e2 e3
 subst e1 e2 e3
 obtain ⟨n0, n1⟩ := pair_cells O8.out
 obtain ⟨r0, r1⟩ := pair_cells fZ.out.res
 obtain ⟨f0, f1⟩ := aC fZ.out.res
 obtain ⟨bL, iW⟩ := fZ.out.outN (w1 := w2) (va := va) (nv := nv) (vc := vc) (oa := oa) (no := no) (oc := oc) (code := 0) (zs := LZ) (m := LM) (by omega) (aQq.out rfl)
 go_wp2
 generalize (w4.setCell ⟨w.heap.size + 1 + 1, 0, none⟩ (.slice va nv vc)).setCell ⟨w.heap.size + 1 + 1, 1, none⟩ (.slice oa no oc) = wf at bL iW ⊢
 obtain ⟨p0, p1⟩ := pair_cells bL.out
 exact bodyPost_ret (v := .tuple #[.agg #[.slice va nv vc, .slice oa no oc], .int .i64 (0)]) (by simp [results, Tryz.results18, go_sem, p0, p1]) rfl iW.out
end Go.Proofs.YthkagbnpcjidfaaGreatDoor
