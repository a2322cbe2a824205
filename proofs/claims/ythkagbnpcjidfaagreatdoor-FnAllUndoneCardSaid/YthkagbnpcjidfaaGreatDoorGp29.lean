/- Walks and mathematics that several claims share, part 29. -/
import Derived.Test.YthkagbnpcjidfaaGreatDoorGp28
import Derived.Deep.Cut
namespace Go.Proofs.YthkagbnpcjidfaaGreatDoor
set_option maxRecDepth 100000
open Go.RowKit
set_option linter.unusedVariables false
set_option linter.unusedSimpArgs false
theorem aIB {xs : List Int} {l : List aA} {d k : Nat} {L : List ByteArray} {s : ByteArray} (hs : s = L.getD k ⟨#[]⟩) (h : bW l s = true) : iC xs l d L (k + 1) = iC xs l d L k := by
 show (iC xs l d L k).bind (eS l d (L.getD k ⟨#[]⟩)) = _
 rw [← hs]
 cases iC xs l d L k with
 | none => rfl
 | some q => show eS l d s q = _; unfold eS; rw [if_pos h]
theorem r9 {xs : List Int} {l : List aA} {d k : Nat} {L : List ByteArray} {s : ByteArray} {zs : List Int} {m : List aA} (hs : s = L.getD k ⟨#[]⟩) (h : bW l s = false) (eB : ∃ c, iC xs l d L k = some (zs, m, c)) (hok : false = (aN zs m d (kE l s)).ok) (hk : k < L.length) : iC xs l d L L.length = none := by
 obtain ⟨c, eB⟩ := eB
 have e : iC xs l d L (k + 1) = none := by
  show (iC xs l d L k).bind (eS l d (L.getD k ⟨#[]⟩)) = _
  rw [← hs, eB]
  show eS l d s (zs, m, c) = _
  unfold eS; rw [if_neg (by rw [h]; decide)]
  dsimp only
  rw [if_neg (by rw [← hok]; decide)]
 have := aAy e (L.length - (k + 1))
 rwa [Nat.add_sub_cancel' (by omega : k + 1 ≤ L.length)] at this
theorem aA3 {xs : List Int} {l : List aA} {d k : Nat} {L : List ByteArray} {s : ByteArray} {zs iN : List Int} {m m' : List aA} (hs : s = L.getD k ⟨#[]⟩) (h : bW l s = false) (eB : ∃ c, iC xs l d L k = some (zs, m, c)) (hok : true = (aN zs m d (kE l s)).ok) (hz : iN = dF zs d) (hm : m' = bN m d (aN zs m d (kE l s))) : iC xs l d L (k + 1) = some (iN, m', 0) := by
 obtain ⟨c, eB⟩ := eB
 show (iC xs l d L k).bind (eS l d (L.getD k ⟨#[]⟩)) = _
 rw [← hs, eB]
 show eS l d s (zs, m, c) = _
 unfold eS
 rw [if_neg (by rw [h]; decide)]
 dsimp only
 rw [if_pos hok.symm, ← hz, ← hm]
structure wG (w w1 wr : World) (nb : Nat) (code : Value) (k : Nat) (st : Option (List Int × List aA × Int)) : Prop where
 bel : Below w.heap.size w wr
 size : w1.heap.size ≤ wr.heap.size
 kept : ∀ j, j < w1.heap.size → j ≠ nb → wr.heap[j]? = w1.heap[j]?
 now : ∃ zs m va vc oa oc, wr.heap[nb]? = some (.cells #[.slice va 4 vc, .slice oa m.length oc] 27 (0, 0)) ∧ Ints wr wr.heap.size va 4 zs ∧ bK wr wr.heap.size oa m.length m ∧ bQ va 4 vc ∧ bQ oa m.length oc ∧ sN zs m (160 + k) ∧ ((code = .int .i64 2 ∧ st = some (zs, m, 2)) ∨ (code = .int .i64 0 ∧ st = some (zs, m, 0) ∧ Own wr (nb + 1) wr.heap.size va 4 zs ∧ bB wr (nb + 1) wr.heap.size oa m.length m))
theorem wG.step {w w1 wr w2 : World} {nb : Nat} {code : Value} {k : Nat} {st : Option (List Int × List aA × Int)} (h : wG w w1 wr nb code k st) (hw : nb < w1.heap.size) (hb : Below wr.heap.size wr w2) : wG w w1 w2 nb code k st := by
 have hs := h.size
 have dS := hb.size
 have hU := h.bel.size
 obtain ⟨zs, m, va, vc, oa, oc, e, hi, ho, c1, c2, hB, hc⟩ := h.now
 refine ⟨h.bel.trans (hb.mono hU), by omega, fun j h1 h2 => (hb.block j (by omega)).trans (h.kept j h1 h2), zs, m, va, vc, oa, oc, (hb.block _ (by omega)).trans e, (hi.below hb aPw).more dS, (ho.below hb aPw).more dS, c1, c2, hB, ?_⟩
 rcases hc with hc | ⟨hc, eB, h1, h2⟩
 ·exact .inl hc
 ·exact .inr ⟨hc, eB, (h1.below hb aPw).more aPw dS, (h2.below hb aPw).more aPw dS⟩
theorem wG.more {w w1 wr : World} {nb : Nat} {code : Value} {k k' : Nat} {st st' : Option (List Int × List aA × Int)} (h : wG w w1 wr nb code k st) (hk : k ≤ k') (hs : st' = st) : wG w w1 wr nb code k' st' := by
 subst hs
 obtain ⟨zs, m, va, vc, oa, oc, e, hi, ho, c1, c2, hB, hc⟩ := h.now
 exact ⟨h.bel, h.size, h.kept, zs, m, va, vc, oa, oc, e, hi, ho, c1, c2, hB.more (by omega), hc⟩
theorem wG.put {w w1 wr : World} {nb : Nat} {code : Value} {k k' : Nat} {st st' : Option (List Int × List aA × Int)} (h : wG w w1 wr nb code k st) (hw : w.heap.size ≤ nb) {zs : List Int} {m : List aA} {va oa : Option Addr} {vc oc lo hi : Nat} (h1 : Own wr lo hi va 4 zs) (h2 : bB wr lo hi oa m.length m) (iQ : nb + 1 ≤ lo) (hhi : hi ≤ wr.heap.size) (c1 : bQ va 4 vc) (c2 : bQ oa m.length oc) (hB : sN zs m (160 + k')) (eB : st' = some (zs, m, 0)) :
  wG w w1 ((wr.setCell ⟨nb, 0, none⟩ (.slice va 4 vc)).setCell ⟨nb, 1, none⟩ (.slice oa m.length oc)) nb (.int .i64 0) k' st' := by
 have hs := h.size
 obtain ⟨iN, m', va', zP, yF, A0, e, _⟩ := h.now
 have hz := aZ wr nb (.slice va 4 vc) (.slice oa m.length oc)
 have g1 : Own ((wr.setCell ⟨nb, 0, none⟩ (.slice va 4 vc)).setCell ⟨nb, 1, none⟩ (.slice oa m.length oc)) lo hi va 4 zs := h1.kept fun j a1 a2 => aF _ _ (by omega)
 have g2 : bB ((wr.setCell ⟨nb, 0, none⟩ (.slice va 4 vc)).setCell ⟨nb, 1, none⟩ (.slice oa m.length oc)) lo hi oa m.length m := h2.kept fun j a1 a2 => aF _ _ (by omega)
 refine ⟨(h.bel.setCell (p := ⟨nb, 0, none⟩) hw _).setCell (p := ⟨nb, 1, none⟩) hw _, by rw [hz]; exact hs, fun j a1 a2 => (aF _ _ a2).trans (h.kept j a1 a2), zs, m, va, vc, oa, oc, cF _ _ e, ?_, ?_, c1, c2, hB, .inr ⟨rfl, eB, ?_, ?_⟩⟩
 ·rw [hz]; exact g1.ints.more hhi
 ·rw [hz]; exact g2.ops.more hhi
 ·rw [hz]; exact g1.more iQ hhi
 ·rw [hz]; exact g2.more iQ hhi
theorem aGu (zs : List Int) (m : List aA) (d N : Nat) (hN : N ≤ 99999) (o : aA) (hB : sN zs m N) (hd : d < 4) (hi : o.item.size ≤ 1048576) :
  ∃ (ok : Bool) (iN : List Int) (m' : List aA), ok = (aN zs m d o).ok ∧ (ok = true → sN iN m' (N + 1) ∧ iN = dF zs d ∧ m' = bN m d (aN zs m d o)) ∧ ∀ (w : World) (B : Nat) (av ao : Option Addr) (cv co : Nat), Ints w B av 4 zs → bK w B ao m.length m → B ≤ w.heap.size → bQ av 4 cv → bQ ao m.length co →
   Calls Tryz.prog 90 #[.agg #[.slice av 4 cv, .slice ao m.length co], .int .i64 (d : Int), .agg #[.int .i64 o.dev, .int .i64 o.seq, .int .i64 o.stamp, .int .i64 o.kind, .string o.item, .int .i64 o.qty, .int .i64 o.level, .int .i64 o.undos]] w (aIO ok iN m' w) := by
 have hm := hB.most
 cases hok : (aN zs m d o).ok
 ·exact ⟨false, [], [], rfl, (fun h => by cases h), fun w B av ao cv co h1 h2 h3 h4 h5 => aKe w B av ao cv m.length co d zs m o h1 h2 h3 h4.2.2 h5 hd (by omega) (hB.num d hd) hB.stamp hi hok⟩
 ·exact ⟨true, _, _, rfl, fun _ => ⟨hB.put hd hok, rfl, rfl⟩, fun w B av ao cv co h1 h2 h3 h4 h5 => aHN w B av ao cv m.length co d zs m o h1 h2 h3 h4.2.2 h5 hd (by omega) (hB.num d hd) hB.stamp hi hok⟩
set_option maxHeartbeats 40000000 in
theorem aGv (w : World) (B : Nat) (av ao : Option Addr) (cv no co d : Nat) (xs : List Int) (l : List aA) (hx : Ints w B av 4 xs) (h : bK w B ao no l) (hB : B ≤ w.heap.size) (bX : bQ av 4 cv) (cD : bQ ao no co) (hd : d < 4) (hc : aD xs l = true) (R : Int × List Int × List aA) (hR : qI xs l d = R) :
  Calls Tryz.prog 85 #[.agg #[.slice av 4 cv, .slice ao no co], .int .i64 (d : Int)] w (aFq R w) := by
 obtain rfl := h.1
 have hT := qZ.mk0 w #[.slice av 4 cv, .slice ao l.length co] #[.slice none 0 0, .slice none 0 0] 27
 have d9 : ((w.alloc (.cells #[.slice av 4 cv, .slice ao l.length co] 27)).alloc (.cells #[.slice none 0 0, .slice none 0 0] 27)).heap.size = w.heap.size + 2 := by simp
 have HV := aPu (hx.below hT.bel hB)
 have HO := aPu (h.below hT.bel hB)
 have HT := aPu hT
 have HTs := aPu d9
 have wV := aPu h
 have HC := aPu hc
 have nZ := aPu bX
 have oP := aPu cD
 have HBn := aPu (sN.of_cart hc)
 have hl := eL hc
 clear hx h hT d9 hc bX cD
 go_enter Tryz.func85, Tryz.ntmps85
 go_upto_region 1 with fail
 generalize (w.alloc (.cells #[.slice av 4 cv, .slice ao l.length co] 27)).alloc (.cells #[.slice none 0 0, .slice none 0 0] 27) = w0 at HV HO HT HTs ⊢
 have lQ := HT.out.bel.size
 obtain ⟨q0, q1⟩ := pair_cells HT.out.fst
 go_upto_region 3 with fail
 have aE : Below w0.heap.size w0 (w0.alloc (.cells #[.slice av 4 cv, .slice ao l.length co] 27)) := (Below.refl _ w0).alloc aPw _
 have B9 : Hid ((w0.alloc (.cells #[.slice av 4 cv, .slice ao l.length co] 27)).heap[w0.heap.size]? = some (.cells #[.slice av 4 cv, .slice ao l.length co] 27 (0, 0))) := bE (Below.refl _ _)
 generalize w0.alloc (.cells #[.slice av 4 cv, .slice ao l.length co] 27) = w1 at aE B9 ⊢
 have aT := aPu (HT.out.next aE)
 have cI := aPu (HO.out.below aE (by omega))
 have iA := aPu (HV.out.below aE (by omega))
 have tG := bS B9.out
 clear q0 q1 HT HO HV aE
 generalize hnb : w0.heap.size = nb at B9 tG ⊢
 have aId : w.heap.size + 1 < nb := by have := HTs.out; omega
 clear hnb HTs
 obtain ⟨q0, q1⟩ := pair_cells aT.out.fst
 go_wp2_with fail
 refine (aHT w1 B av ao 4 cv l.length co xs l cI.out (by omega) (by omega) HC.out).mono ?_
 rintro e w2 ⟨g, c, rfl, hso, aG⟩
 have hLi : ∀ s, s ∈ bU l l.length → ∃ i, i < l.length ∧ s = (aB l i).item := fun s hs => by
  obtain ⟨_, i, hi, e⟩ := (oS l s l.length).1 hs; exact ⟨i, hi, e.symm⟩
 have hLl : (bU l l.length).length ≤ l.length := C5 l l.length
 have aIt := hso.strs
 have pA : Hid (match iC xs l d (bU l l.length) (bU l l.length).length with | none => R = (4, [], []) | some q => R = if q.2.2 = 0 then (0, q.1, q.2.1) else (2, [], [])) := by
  rw [← hR]
  show match iC xs l d (bU l l.length) (bU l l.length).length with | none => _ | some q => _
  unfold qI; cases iC xs l d (bU l l.length) (bU l l.length).length <;> rfl
 clear hso hR
 generalize bU l l.length = L at hLi hLl aIt pA ⊢
 have HI8 : Hid (∀ i, i < L.length → (L.getD i ⟨#[]⟩).size ≤ 8) := fun i hi => by
  rw [List.getD_eq_getElem?_getD, List.getElem?_eq_getElem hi]; obtain ⟨j, hj, e⟩ := hLi _ (List.getElem_mem hi)
  show (L[i]).size ≤ 8
  rw [e]; exact (dG (eT HC.out hj)).2.2.2.2.1
 have zD := aPu aIt
 have aJ := aPu (aT.out.next aG)
 have mN := aPu ((aG.block _ tG).trans B9.out)
 have dS := aG.size
 have aOf := aPu (cI.out.below aG (by omega))
 have HI0 : Hid (wG w w2 w2 nb (.int .i64 2) 0 (iC xs l d L 0)) := ⟨aJ.out.bel, Nat.le_refl _, fun _ _ _ => rfl, xs, l, av, cv, ao, co, mN.out, (iA.out.below aG (by omega)).more (by omega), aOf.out.more (by omega), nZ.out, oP.out, HBn.out, .inl ⟨rfl, rfl⟩⟩
 clear aIt hLi aG aT cI iA B9 q0 q1
 go_wp2
 go_loopw [7, 9] (fun cc i wr => ∃ (k : Nat) (cx : Value), k ≤ L.length ∧ cx = cc ∧ i = .int .i64 (k : Int) ∧ Hid (wG w w2 wr nb cx k (iC xs l d L k))) (fun _ i _ => L.length - (intOf i).toNat)
 case atStart => exact ⟨0, _, Nat.zero_le _, rfl, rfl, HI0.out⟩
 case round =>
  obtain ⟨k, cd, hk, uF, rfl, HI⟩ := hrel; subst uF; clear HI0; have hsr := HI.out.size; have HX := aPu ((HI.out.kept w.heap.size (by omega) (by omega)).trans aJ.out.fst)
  have HR := aPu ((HI.out.kept (w.heap.size + 1) (by omega) (by omega)).trans aJ.out.snd)
  by_cases aK : k < L.length
  rotate_left
  ·obtain rfl : k = L.length := by omega
   obtain ⟨zs, m, va, vc, oa, oc, e, hi, ho, c1, c2, hBn, cJ⟩ := HI.out.now; have gK := pA.out; obtain ⟨n0, n1⟩ := pair_cells e; rcases cJ with ⟨rfl, eB⟩ | ⟨rfl, eB, g1, g2⟩
   ·rw [eB] at gK
    have hRe : R = (2, [], []) := gK; subst hRe; clear pA gK; obtain ⟨r0, r1⟩ := pair_cells HR.out; obtain ⟨f0, f1⟩ := aC HR.out; have bM := aPu (cF (.slice va 4 vc) (.slice oa m.length oc) HR.out); have fA : Hid (Below w.heap.size w ((wr.setCell ⟨w.heap.size + 1, 0, none⟩ (.slice va 4 vc)).setCell ⟨w.heap.size + 1, 1, none⟩ (.slice oa m.length oc))) := HI.out.bel.trans ((dR wr (w.heap.size + 1) 0 1 _ _).mono (by omega))
    go_wp2
    generalize (wr.setCell ⟨w.heap.size + 1, 0, none⟩ (.slice va 4 vc)).setCell ⟨w.heap.size + 1, 1, none⟩ (.slice oa m.length oc) = wf at bM fA ⊢; obtain ⟨p0, p1⟩ := pair_cells bM.out; exact bodyPost_ret (v := .tuple #[.agg #[.slice va 4 vc, .slice oa m.length oc], .int .i64 2]) (by simp [results, Tryz.results85, go_sem, p0, p1]) rfl ⟨va, 4, vc, oa, m.length, oc, rfl, fA.out, fun h => absurd h (by decide)⟩
   ·rw [eB] at gK
    have hRe : R = (0, zs, m) := gK; subst hRe; clear pA gK; obtain ⟨r0, r1⟩ := pair_cells HR.out; obtain ⟨f0, f1⟩ := aC HR.out; have bM := aPu (cF (.slice va 4 vc) (.slice oa m.length oc) HR.out); have fA : Hid (Below w.heap.size w ((wr.setCell ⟨w.heap.size + 1, 0, none⟩ (.slice va 4 vc)).setCell ⟨w.heap.size + 1, 1, none⟩ (.slice oa m.length oc))) := HI.out.bel.trans ((dR wr (w.heap.size + 1) 0 1 _ _).mono (by omega))
    have hz6 := aPu (aZ wr (w.heap.size + 1) (.slice va 4 vc) (.slice oa m.length oc)); have HC6 : Hid (4 = zs.length ∧ Own ((wr.setCell ⟨w.heap.size + 1, 0, none⟩ (.slice va 4 vc)).setCell ⟨w.heap.size + 1, 1, none⟩ (.slice oa m.length oc)) w.heap.size ((wr.setCell ⟨w.heap.size + 1, 0, none⟩ (.slice va 4 vc)).setCell ⟨w.heap.size + 1, 1, none⟩ (.slice oa m.length oc)).heap.size va 4 zs ∧ bB ((wr.setCell ⟨w.heap.size + 1, 0, none⟩ (.slice va 4 vc)).setCell ⟨w.heap.size + 1, 1, none⟩ (.slice oa m.length oc)) w.heap.size ((wr.setCell ⟨w.heap.size + 1, 0, none⟩ (.slice va 4 vc)).setCell ⟨w.heap.size + 1, 1, none⟩ (.slice oa m.length oc)).heap.size oa m.length m ∧ bQ va 4 vc ∧ bQ oa m.length oc) := ⟨g1.1.symm, (g1.kept fun j a1 a2 => aF _ _ (by omega)).more (by omega) (by rw [hz6.out]; exact Nat.le_refl _), (g2.kept fun j a1 a2 => aF _ _ (by omega)).more (by omega) (by rw [hz6.out]; exact Nat.le_refl _), c1, c2⟩
    go_wp2
    generalize (wr.setCell ⟨w.heap.size + 1, 0, none⟩ (.slice va 4 vc)).setCell ⟨w.heap.size + 1, 1, none⟩ (.slice oa m.length oc) = wf at bM fA HC6 ⊢; obtain ⟨p0, p1⟩ := pair_cells bM.out; exact bodyPost_ret (v := .tuple #[.agg #[.slice va 4 vc, .slice oa m.length oc], .int .i64 0]) (by simp [results, Tryz.results85, go_sem, p0, p1]) rfl ⟨va, 4, vc, oa, m.length, oc, rfl, fA.out, fun _ => ⟨HC6.out.1, rfl, HC6.out.2⟩⟩
  obtain ⟨b', iE, e, uG, nD⟩ := zD.out.2 k aK; injection e with e; injection e with e1 e2; subst e1 e2; rw [Nat.zero_add] at nD; have hi8 := HI8.out k aK; obtain ⟨s, hs⟩ : ∃ s, s = L.getD k ⟨#[]⟩ := ⟨_, rfl⟩; rw [← hs] at nD hi8; have lJ := aPu hs; clear hs; have hgn : g ≠ nb := by
   intro e
   rw [e, aPx mN.out] at nD; have hk2 : k < 2 := (aPv nD).1; rcases (by omega : k = 0 ∨ k = 1) with rfl | rfl
   ·simp at nD
   ·simp at nD
  have fL : Hid (∀ z, wG w w2 z nb cd k (iC xs l d L k) → z.cell? ⟨g, k, none⟩ = some (.string s)) := fun z hz => (World.cell?_of_block (a := ⟨g, k, none⟩) (hz.kept g uG hgn)).trans nD
  have hki : (k : Int) < (L.length : Int) := by omega
  have hk0 : decide ((k : Int) < 0) = false := decide_eq_false (by omega)
  have aO8 : ¬ ((k : Int) < 0) := by omega
  obtain ⟨u, uB⟩ : ∃ u, aO s l l.length = u := ⟨_, rfl⟩; have M4 := rY s l l.length; have hu1 := xK HC.out s l.length aPw; rw [uB] at M4 hu1; have hwu : IntKind.i64.wrap (u + 1) = u + 1 := IntWalk.i64_in _ (by omega)
  have HU := aPu uB; clear nD uB; have hS : wr.drew.cell? ⟨w.heap.size, 0, none⟩ = some (.slice av 4 cv) ∧ wr.drew.cell? ⟨w.heap.size, 1, none⟩ = some (.slice ao l.length co) ∧ wr.drew.cell? ⟨g, k, none⟩ = some (.string s) := ⟨(pair_cells HX.out).1, (pair_cells HX.out).2, fL.out wr HI.out⟩
  go_wp2_with fail
  refine wp_region_held_drew (S := fun w' => w'.cell? ⟨w.heap.size, 0, none⟩ = some (.slice av 4 cv) ∧ w'.cell? ⟨w.heap.size, 1, none⟩ = some (.slice ao l.length co) ∧ w'.cell? ⟨g, k, none⟩ = some (.string s)) (by kernel_rfl) hS (fun aP => ?_)
  refine tj 0 ?_
  refine tj 1 ?_
  refine tj 2 ?_
  refine tj 3 ?_
  refine tj 4 ?_
  refine rk 5 rfl (fun K hK => ?_)
  go_simp
  go_at_call 116
  refine (aEn wr.drew B av ao 4 cv l.length co xs l s ((wV.out.below HI.out.bel hB).kept (w' := wr.drew) fun _ _ => rfl) (by show B ≤ wr.heap.size; omega) (by omega) HC.out).mono ?_
  rintro e z1 ⟨rfl, gX⟩; have jK : Below wr.heap.size wr z1 := Below.mk gX.os gX.tape gX.output gX.size gX.block; have dU := aPu (HI.out.step (by omega) jK)
  have aOM := dU.out.size; have oZ := aPu ((dU.out.kept w.heap.size (by omega) (by omega)).trans aJ.out.fst)
  have gK := aPu ((dU.out.kept (w.heap.size + 1) (by omega) (by omega)).trans aJ.out.snd)
  have dM : z1.cell? ⟨w.heap.size, 0, none⟩ = some (.slice av 4 cv) ∧ z1.cell? ⟨w.heap.size, 1, none⟩ = some (.slice ao l.length co) ∧ z1.cell? ⟨g, k, none⟩ = some (.string s) := ⟨(pair_cells oZ.out).1, (pair_cells oZ.out).2, fL.out z1 dU.out⟩; have V1 : Hid (bW l s = decide ((bA gR s l l.length).kind = 4)) := rfl; generalize decide ((bA gR s l l.length).kind = 4) = sv at V1 ⊢; clear jK gX HX HR hS; refine hK.out _ _ dM (fun bG => ?_)
  clear hK K
  (try simp only [Act.put, u1, u2, u3])
  refine wpAnyH_done (by kernel_rfl) ?_ _
  clear aP bG HI; cases sv
  rotate_left
  ·go_wp2
   go_roundw
   case rel => exact ⟨k + 1, _, by omega, rfl, by go_num, dU.out.more (by omega) (aIB lJ.out V1.out)⟩
   case measure => simp [intOf]; omega
  obtain ⟨zs, m, va, vc, oa, oc, he, hi, ho, c1, c2, hBn, cJ⟩ := dU.out.now; have HE := aPu he; have HVi := aPu hi; have HOi := aPu ho; have C2 := aPu c1; have HC2 := aPu c2; have HBd := aPu hBn; obtain ⟨okk, iN, m', aC1, vZ⟩ := aGu zs m d (160 + k) (by omega) ⟨0, 0, 0, 3, s, 0, u + 1, 0⟩ HBd.out hd (by show s.size ≤ 1048576; omega)
  have bZ : Hid (∃ c, iC xs l d L k = some (zs, m, c)) := by
   rcases cJ with ⟨_, h⟩ | ⟨_, h, _⟩
   ·exact ⟨_, h⟩
   ·exact ⟨_, h⟩
  have lV : Hid (okk = (aN zs m d (kE l s)).ok) := by
   unfold kE; rw [HU.out]; exact aC1
  have aJt : (okk = true → sN iN m' (160 + k + 1) ∧ iN = dF zs d ∧ m' = bN m d (aN zs m d (kE l s))) := by
   unfold kE; rw [HU.out]; exact vZ.1
  replace vZ := And.intro aJt vZ.2
  clear aJt aC1
  dsimp only at vZ
  have rR := aPu vZ; clear he hi ho c1 c2 hBn cJ vZ dM
  go_upto_region 8 with fail
  obtain ⟨y0, tB⟩ : ∃ y0, z1.drew = y0 := ⟨_, rfl⟩; have sA : Below z1.heap.size z1 y0 := by rw [← tB]; exact ⟨rfl, rfl, rfl, Nat.le_refl _, fun _ _ => rfl⟩
  have Sy0 : y0.cell? ⟨w.heap.size, 0, none⟩ = some (.slice av 4 cv) ∧ y0.cell? ⟨w.heap.size, 1, none⟩ = some (.slice ao l.length co) ∧ y0.cell? ⟨g, k, none⟩ = some (.string s) ∧ y0.cell? ⟨nb, 0, none⟩ = some (.slice va 4 vc) ∧ y0.cell? ⟨nb, 1, none⟩ = some (.slice oa m.length oc) := by
   have dD := dU.out.step (by omega) sA
   exact ⟨(pair_cells ((dD.kept w.heap.size (by omega) (by omega)).trans aJ.out.fst)).1, (pair_cells ((dD.kept w.heap.size (by omega) (by omega)).trans aJ.out.fst)).2, fL.out _ dD, (sA.cell (block_lt_of_cell (pair_cells HE.out).1)).trans (pair_cells HE.out).1, (sA.cell (block_lt_of_cell (pair_cells HE.out).2)).trans (pair_cells HE.out).2⟩
  refine wp_region_held_drew (S := fun w' => w'.cell? ⟨w.heap.size, 0, none⟩ = some (.slice av 4 cv) ∧ w'.cell? ⟨w.heap.size, 1, none⟩ = some (.slice ao l.length co) ∧ w'.cell? ⟨g, k, none⟩ = some (.string s) ∧ w'.cell? ⟨nb, 0, none⟩ = some (.slice va 4 vc) ∧ w'.cell? ⟨nb, 1, none⟩ = some (.slice oa m.length oc)) (by kernel_rfl) (by rw [tB]; exact Sy0) (fun aP => ?_)
  rw [tB]; clear aP tB; refine tj 0 ?_
  refine tj 1 ?_
  refine tj 2 ?_
  refine tj 3 ?_
  refine tj 4 ?_
  refine tj 5 ?_
  refine tj 6 ?_
  refine tj 7 ?_
  refine tj 8 ?_
  refine tj 9 ?_
  refine tj 10 ?_
  refine wpAnyH_ready (rs := [11, 18]) (by kernel_rfl) (by simp) ?_
  refine (AllReadyH.cons rfl (fun K hK => ?_) (AllReadyH.cons rfl (fun K hK => ?_) AllReadyH.nil))
  ·skip
   go_simp
   go_at_call 117
   refine (E6 y0 B av ao 4 cv l.length co xs l s (wV.out.below (dU.out.bel.trans (sA.mono (by omega))) hB) (by have := sA.size; omega) (by omega) HC.out).mono ?_
   rw [HU.out]; rintro e y1 ⟨rfl, eJ⟩; have tZ : Below z1.heap.size z1 y1 := sA.trans (eJ.mono sA.size); have Sy1 : y1.cell? ⟨w.heap.size, 0, none⟩ = some (.slice av 4 cv) ∧ y1.cell? ⟨w.heap.size, 1, none⟩ = some (.slice ao l.length co) ∧ y1.cell? ⟨g, k, none⟩ = some (.string s) ∧ y1.cell? ⟨nb, 0, none⟩ = some (.slice va 4 vc) ∧ y1.cell? ⟨nb, 1, none⟩ = some (.slice oa m.length oc) := by
    have dD := dU.out.step (by omega) tZ
    exact ⟨(pair_cells ((dD.kept w.heap.size (by omega) (by omega)).trans aJ.out.fst)).1, (pair_cells ((dD.kept w.heap.size (by omega) (by omega)).trans aJ.out.fst)).2, fL.out _ dD, (tZ.cell (block_lt_of_cell (pair_cells HE.out).1)).trans (pair_cells HE.out).1, (tZ.cell (block_lt_of_cell (pair_cells HE.out).2)).trans (pair_cells HE.out).2⟩
   refine hK.out _ _ Sy1 (fun pN => ?_)
   clear hK K pN eJ
   (try simp only [Act.put, u1, u2, u3])
   refine tj 12 ?_
   refine tj 13 ?_
   refine wpAnyH_ready (rs := [14, 18]) (by kernel_rfl) (by simp) ?_
   refine (AllReadyH.cons rfl (fun K hK => ?_) (AllReadyH.cons rfl (fun K hK => ?_) AllReadyH.nil))
   ·skip
    go_simp
    go_at_call 90
    refine (rR.out.2 y1 y1.heap.size va oa vc oc ((HVi.out.below tZ aPw).more tZ.size) ((HOi.out.below tZ aPw).more tZ.size) aPw C2.out HC2.out).mono ?_
    rintro e y2 ⟨pE, pD, pG, pF, rfl, kB, dX, eJ, d1, d2⟩; have tA : Below z1.heap.size z1 y2 := tZ.trans (eJ.mono tZ.size); have Sy2 : y2.cell? ⟨w.heap.size, 0, none⟩ = some (.slice av 4 cv) ∧ y2.cell? ⟨w.heap.size, 1, none⟩ = some (.slice ao l.length co) ∧ y2.cell? ⟨g, k, none⟩ = some (.string s) ∧ y2.cell? ⟨nb, 0, none⟩ = some (.slice va 4 vc) ∧ y2.cell? ⟨nb, 1, none⟩ = some (.slice oa m.length oc) := by
     have dD := dU.out.step (by omega) tA
     exact ⟨(pair_cells ((dD.kept w.heap.size (by omega) (by omega)).trans aJ.out.fst)).1, (pair_cells ((dD.kept w.heap.size (by omega) (by omega)).trans aJ.out.fst)).2, fL.out _ dD, (tA.cell (block_lt_of_cell (pair_cells HE.out).1)).trans (pair_cells HE.out).1, (tA.cell (block_lt_of_cell (pair_cells HE.out).2)).trans (pair_cells HE.out).2⟩
    have aNA := aPu kB; have aNN := aPu dX; have pT := aPu d1; have zL := aPu d2; have hpz := eJ.size; refine hK.out _ _ Sy2 (fun jP => ?_)
    clear hK K jP eJ kB dX d1 d2
    (try simp only [Act.put, u1, u2, u3])
    refine tj 15 ?_
    refine tj 16 ?_
    refine tj 17 ?_
    refine wpAnyH_ready (rs := [18]) (by kernel_rfl) (by simp) ?_
    refine (AllReadyH.cons rfl (fun K hK => ?_) AllReadyH.nil)
    have dL : Below y2.heap.size y2 (y2.alloc (.cells #[.slice none 0 0, .slice none 0 0] 27)) := bl; have jE := bE (Below.refl _ (y2.alloc (.cells #[.slice none 0 0, .slice none 0 0] 27))); have mJ : y2.heap.size < (y2.alloc (.cells #[.slice none 0 0, .slice none 0 0] 27)).heap.size := by show _ < (y2.heap.push _).size; simp
    have A6 : Below z1.heap.size z1 (y2.alloc (.cells #[.slice none 0 0, .slice none 0 0] 27)) := tA.trans (dL.mono tA.size); have SA : (y2.alloc (.cells #[.slice none 0 0, .slice none 0 0] 27)).cell? ⟨w.heap.size, 0, none⟩ = some (.slice av 4 cv) ∧ (y2.alloc (.cells #[.slice none 0 0, .slice none 0 0] 27)).cell? ⟨w.heap.size, 1, none⟩ = some (.slice ao l.length co) ∧ (y2.alloc (.cells #[.slice none 0 0, .slice none 0 0] 27)).cell? ⟨g, k, none⟩ = some (.string s) ∧ (y2.alloc (.cells #[.slice none 0 0, .slice none 0 0] 27)).cell? ⟨nb, 0, none⟩ = some (.slice va 4 vc) ∧ (y2.alloc (.cells #[.slice none 0 0, .slice none 0 0] 27)).cell? ⟨nb, 1, none⟩ = some (.slice oa m.length oc) := by
     have dD := dU.out.step (by omega) A6
     exact ⟨(pair_cells ((dD.kept w.heap.size (by omega) (by omega)).trans aJ.out.fst)).1, (pair_cells ((dD.kept w.heap.size (by omega) (by omega)).trans aJ.out.fst)).2, fL.out _ dD, (A6.cell (block_lt_of_cell (pair_cells HE.out).1)).trans (pair_cells HE.out).1, (A6.cell (block_lt_of_cell (pair_cells HE.out).2)).trans (pair_cells HE.out).2⟩
    go_simp
    refine hK.out _ _ SA (fun jR => ?_)
    clear hK K jR
    (try simp only [Act.put, u1, u2, u3])
    generalize iO : y2.alloc (.cells #[.slice none 0 0, .slice none 0 0] 27) = y3 at dL jE mJ ⊢; clear iO SA A6; have hy3 : Below z1.heap.size z1 y3 := tA.trans (dL.mono tA.size); have Sy3 : y3.cell? ⟨w.heap.size, 0, none⟩ = some (.slice av 4 cv) ∧ y3.cell? ⟨w.heap.size, 1, none⟩ = some (.slice ao l.length co) ∧ y3.cell? ⟨g, k, none⟩ = some (.string s) ∧ y3.cell? ⟨nb, 0, none⟩ = some (.slice va 4 vc) ∧ y3.cell? ⟨nb, 1, none⟩ = some (.slice oa m.length oc) := by
     have dD := dU.out.step (by omega) hy3
     exact ⟨(pair_cells ((dD.kept w.heap.size (by omega) (by omega)).trans aJ.out.fst)).1, (pair_cells ((dD.kept w.heap.size (by omega) (by omega)).trans aJ.out.fst)).2, fL.out _ dD, (hy3.cell (block_lt_of_cell (pair_cells HE.out).1)).trans (pair_cells HE.out).1, (hy3.cell (block_lt_of_cell (pair_cells HE.out).2)).trans (pair_cells HE.out).2⟩
    have aNz := aPu (aNA.out.below dL (by omega))
    have aNM := aPu (aNN.out.below dL (by omega))
    have o9 := aPu jE; have aO3 := mJ; clear jE mJ dL; have A3 := tA.size; have wN := tZ.size; obtain ⟨lW, U9, sH, iO, lP⟩ := p9 (.slice pE iN.length pD) (.slice pG m'.length pF) hy3 o9.out A3 (by first | exact .inr aPw | (left; omega) | (right; omega)) aNz.out aNM.out
    obtain ⟨d0, d1⟩ := pair_cells o9.out; obtain ⟨f0, f1⟩ := aC o9.out; have SW : ((y3.setCell ⟨y2.heap.size, 0, none⟩ (.slice pE iN.length pD)).setCell ⟨y2.heap.size, 1, none⟩ (.slice pG m'.length pF)).cell? ⟨w.heap.size, 0, none⟩ = some (.slice av 4 cv) ∧ ((y3.setCell ⟨y2.heap.size, 0, none⟩ (.slice pE iN.length pD)).setCell ⟨y2.heap.size, 1, none⟩ (.slice pG m'.length pF)).cell? ⟨w.heap.size, 1, none⟩ = some (.slice ao l.length co) ∧ ((y3.setCell ⟨y2.heap.size, 0, none⟩ (.slice pE iN.length pD)).setCell ⟨y2.heap.size, 1, none⟩ (.slice pG m'.length pF)).cell? ⟨g, k, none⟩ = some (.string s) ∧ ((y3.setCell ⟨y2.heap.size, 0, none⟩ (.slice pE iN.length pD)).setCell ⟨y2.heap.size, 1, none⟩ (.slice pG m'.length pF)).cell? ⟨nb, 0, none⟩ = some (.slice va 4 vc) ∧ ((y3.setCell ⟨y2.heap.size, 0, none⟩ (.slice pE iN.length pD)).setCell ⟨y2.heap.size, 1, none⟩ (.slice pG m'.length pF)).cell? ⟨nb, 1, none⟩ = some (.slice oa m.length oc) := by
     have dD := dU.out.step (by omega) iO
     exact ⟨(pair_cells ((dD.kept w.heap.size (by omega) (by omega)).trans aJ.out.fst)).1, (pair_cells ((dD.kept w.heap.size (by omega) (by omega)).trans aJ.out.fst)).2, fL.out _ dD, (iO.cell (block_lt_of_cell (pair_cells HE.out).1)).trans (pair_cells HE.out).1, (iO.cell (block_lt_of_cell (pair_cells HE.out).2)).trans (pair_cells HE.out).2⟩
    refine rk 19 rfl (fun K hK => ?_)
    go_simp
    refine hK.out _ _ SW (fun jQ => ?_)
    clear hK K jQ d0 d1 f0 f1 SW
    (try simp only [Act.put, u1, u2, u3])
    generalize (y3.setCell ⟨y2.heap.size, 0, none⟩ (.slice pE iN.length pD)).setCell ⟨y2.heap.size, 1, none⟩ (.slice pG m'.length pF) = zn at lW U9 sH iO lP ⊢; have B6 : zn.cell? ⟨w.heap.size, 0, none⟩ = some (.slice av 4 cv) ∧ zn.cell? ⟨w.heap.size, 1, none⟩ = some (.slice ao l.length co) ∧ zn.cell? ⟨g, k, none⟩ = some (.string s) ∧ zn.cell? ⟨nb, 0, none⟩ = some (.slice va 4 vc) ∧ zn.cell? ⟨nb, 1, none⟩ = some (.slice oa m.length oc) := by
     have dD := dU.out.step (by omega) iO
     exact ⟨(pair_cells ((dD.kept w.heap.size (by omega) (by omega)).trans aJ.out.fst)).1, (pair_cells ((dD.kept w.heap.size (by omega) (by omega)).trans aJ.out.fst)).2, fL.out _ dD, (iO.cell (block_lt_of_cell (pair_cells HE.out).1)).trans (pair_cells HE.out).1, (iO.cell (block_lt_of_cell (pair_cells HE.out).2)).trans (pair_cells HE.out).2⟩
    refine tj 20 ?_
    refine wpAnyH_done (by kernel_rfl) ?_ _
    have rB := aPu (dU.out.step (by omega) iO)
    have aLj := rB.out.size; have HXn := aPu ((rB.out.kept w.heap.size (by omega) (by omega)).trans aJ.out.fst)
    have zF := aPu ((rB.out.kept (w.heap.size + 1) (by omega) (by omega)).trans aJ.out.snd)
    cases okk
    ·have gK := pA.out
     rw [r9 lJ.out V1.out bZ.out lV.out aK] at gK; have hRe : R = (4, [], []) := gK; subst hRe; obtain ⟨r0, r1⟩ := pair_cells zF.out; obtain ⟨f0, f1⟩ := aC zF.out; have bM := aPu (cF (.slice none 0 0) (.slice none 0 0) zF.out); have fA : Hid (Below w.heap.size w ((zn.setCell ⟨w.heap.size + 1, 0, none⟩ (.slice none 0 0)).setCell ⟨w.heap.size + 1, 1, none⟩ (.slice none 0 0))) := rB.out.bel.trans ((dR zn (w.heap.size + 1) 0 1 _ _).mono (by omega))
     go_wp2
     generalize (zn.setCell ⟨w.heap.size + 1, 0, none⟩ (.slice none 0 0)).setCell ⟨w.heap.size + 1, 1, none⟩ (.slice none 0 0) = wf at bM fA ⊢; obtain ⟨p0, p1⟩ := pair_cells bM.out; exact bodyPost_ret (v := .tuple #[.agg #[.slice none 0 0, .slice none 0 0], .int .i64 4]) (by simp [results, Tryz.results85, go_sem, p0, p1]) rfl ⟨none, 0, 0, none, 0, 0, rfl, fA.out, fun h => absurd h (by decide)⟩
    obtain ⟨yT, R5, S8⟩ := rR.out.1 rfl; have aDt := aPu (aA3 lJ.out V1.out bZ.out lV.out R5 S8); clear R5 S8; have pT := pT; rw [yT.len] at lW U9 pT ⊢; obtain ⟨x0, x1⟩ := pair_cells lW.out; obtain ⟨n0, n1⟩ := pair_cells ((iO.block nb (by have := bS HE.out; omega)).trans HE.out)
    obtain ⟨fn0, fn1⟩ := aC ((iO.block nb (by have := bS HE.out; omega)).trans HE.out)
    have HIp := aPu (rB.out.put (k' := k + 1) (by omega) U9.out sH.out (by omega) (by omega) pT.out zL.out yT aDt.out)
    clear yT; go_wp2
    go_roundw
    case rel => exact ⟨k + 1, _, by omega, rfl, by go_num, HIp⟩
    case measure => simp [intOf]; omega
   ·skip
    have dL : Below y1.heap.size y1 (y1.alloc (.cells #[.slice none 0 0, .slice none 0 0] 27)) := bl; have jE := bE (Below.refl _ (y1.alloc (.cells #[.slice none 0 0, .slice none 0 0] 27))); have mJ : y1.heap.size < (y1.alloc (.cells #[.slice none 0 0, .slice none 0 0] 27)).heap.size := by show _ < (y1.heap.push _).size; simp
    have A6 : Below z1.heap.size z1 (y1.alloc (.cells #[.slice none 0 0, .slice none 0 0] 27)) := tZ.trans (dL.mono tZ.size); have SA : (y1.alloc (.cells #[.slice none 0 0, .slice none 0 0] 27)).cell? ⟨w.heap.size, 0, none⟩ = some (.slice av 4 cv) ∧ (y1.alloc (.cells #[.slice none 0 0, .slice none 0 0] 27)).cell? ⟨w.heap.size, 1, none⟩ = some (.slice ao l.length co) ∧ (y1.alloc (.cells #[.slice none 0 0, .slice none 0 0] 27)).cell? ⟨g, k, none⟩ = some (.string s) ∧ (y1.alloc (.cells #[.slice none 0 0, .slice none 0 0] 27)).cell? ⟨nb, 0, none⟩ = some (.slice va 4 vc) ∧ (y1.alloc (.cells #[.slice none 0 0, .slice none 0 0] 27)).cell? ⟨nb, 1, none⟩ = some (.slice oa m.length oc) := by
     have dD := dU.out.step (by omega) A6
     exact ⟨(pair_cells ((dD.kept w.heap.size (by omega) (by omega)).trans aJ.out.fst)).1, (pair_cells ((dD.kept w.heap.size (by omega) (by omega)).trans aJ.out.fst)).2, fL.out _ dD, (A6.cell (block_lt_of_cell (pair_cells HE.out).1)).trans (pair_cells HE.out).1, (A6.cell (block_lt_of_cell (pair_cells HE.out).2)).trans (pair_cells HE.out).2⟩
    go_simp
    refine hK.out _ _ SA (fun jR => ?_)
    clear hK K jR
    (try simp only [Act.put, u1, u2, u3])
    generalize iO : y1.alloc (.cells #[.slice none 0 0, .slice none 0 0] 27) = y4 at dL jE mJ ⊢; clear iO SA A6; have Z3 : Below z1.heap.size z1 y4 := tZ.trans (dL.mono tZ.size); have Sy4 : y4.cell? ⟨w.heap.size, 0, none⟩ = some (.slice av 4 cv) ∧ y4.cell? ⟨w.heap.size, 1, none⟩ = some (.slice ao l.length co) ∧ y4.cell? ⟨g, k, none⟩ = some (.string s) ∧ y4.cell? ⟨nb, 0, none⟩ = some (.slice va 4 vc) ∧ y4.cell? ⟨nb, 1, none⟩ = some (.slice oa m.length oc) := by
     have dD := dU.out.step (by omega) Z3
     exact ⟨(pair_cells ((dD.kept w.heap.size (by omega) (by omega)).trans aJ.out.fst)).1, (pair_cells ((dD.kept w.heap.size (by omega) (by omega)).trans aJ.out.fst)).2, fL.out _ dD, (Z3.cell (block_lt_of_cell (pair_cells HE.out).1)).trans (pair_cells HE.out).1, (Z3.cell (block_lt_of_cell (pair_cells HE.out).2)).trans (pair_cells HE.out).2⟩
    have R9 := aPu jE; have aO2 := mJ; clear jE mJ dL; refine wpAnyH_ready (rs := [14]) (by kernel_rfl) (by simp) ?_
    refine (AllReadyH.cons rfl (fun K hK => ?_) AllReadyH.nil)
    go_simp
    go_at_call 90
    refine (rR.out.2 y4 y4.heap.size va oa vc oc ((HVi.out.below Z3 aPw).more Z3.size) ((HOi.out.below Z3 aPw).more Z3.size) aPw C2.out HC2.out).mono ?_
    rintro e y5 ⟨pE, pD, pG, pF, rfl, kB, dX, eJ, d1, d2⟩; have hy5 : Below z1.heap.size z1 y5 := Z3.trans (eJ.mono Z3.size); have Sy5 : y5.cell? ⟨w.heap.size, 0, none⟩ = some (.slice av 4 cv) ∧ y5.cell? ⟨w.heap.size, 1, none⟩ = some (.slice ao l.length co) ∧ y5.cell? ⟨g, k, none⟩ = some (.string s) ∧ y5.cell? ⟨nb, 0, none⟩ = some (.slice va 4 vc) ∧ y5.cell? ⟨nb, 1, none⟩ = some (.slice oa m.length oc) := by
     have dD := dU.out.step (by omega) hy5
     exact ⟨(pair_cells ((dD.kept w.heap.size (by omega) (by omega)).trans aJ.out.fst)).1, (pair_cells ((dD.kept w.heap.size (by omega) (by omega)).trans aJ.out.fst)).2, fL.out _ dD, (hy5.cell (block_lt_of_cell (pair_cells HE.out).1)).trans (pair_cells HE.out).1, (hy5.cell (block_lt_of_cell (pair_cells HE.out).2)).trans (pair_cells HE.out).2⟩
    have R8 := aPu ((eJ.block _ (aPv R9.out).1).trans R9.out); have aO1 := bS R8.out; have aNy := aPu kB; have aNL := aPu dX; have pT := aPu d1; have zL := aPu d2; have hpz := eJ.size; refine hK.out _ _ Sy5 (fun jP => ?_)
    clear hK K jP eJ kB dX d1 d2
    (try simp only [Act.put, u1, u2, u3])
    refine tj 15 ?_
    refine tj 16 ?_
    refine tj 17 ?_
    have A3 := tZ.size; have wN := Z3.size; obtain ⟨lW, U9, sH, iO, lP⟩ := p9 (.slice pE iN.length pD) (.slice pG m'.length pF) hy5 R8.out A3 (by first | exact .inr aPw | (left; omega) | (right; omega)) aNy.out aNL.out
    obtain ⟨d0, d1⟩ := pair_cells R8.out; obtain ⟨f0, f1⟩ := aC R8.out; have SW : ((y5.setCell ⟨y1.heap.size, 0, none⟩ (.slice pE iN.length pD)).setCell ⟨y1.heap.size, 1, none⟩ (.slice pG m'.length pF)).cell? ⟨w.heap.size, 0, none⟩ = some (.slice av 4 cv) ∧ ((y5.setCell ⟨y1.heap.size, 0, none⟩ (.slice pE iN.length pD)).setCell ⟨y1.heap.size, 1, none⟩ (.slice pG m'.length pF)).cell? ⟨w.heap.size, 1, none⟩ = some (.slice ao l.length co) ∧ ((y5.setCell ⟨y1.heap.size, 0, none⟩ (.slice pE iN.length pD)).setCell ⟨y1.heap.size, 1, none⟩ (.slice pG m'.length pF)).cell? ⟨g, k, none⟩ = some (.string s) ∧ ((y5.setCell ⟨y1.heap.size, 0, none⟩ (.slice pE iN.length pD)).setCell ⟨y1.heap.size, 1, none⟩ (.slice pG m'.length pF)).cell? ⟨nb, 0, none⟩ = some (.slice va 4 vc) ∧ ((y5.setCell ⟨y1.heap.size, 0, none⟩ (.slice pE iN.length pD)).setCell ⟨y1.heap.size, 1, none⟩ (.slice pG m'.length pF)).cell? ⟨nb, 1, none⟩ = some (.slice oa m.length oc) := by
     have dD := dU.out.step (by omega) iO
     exact ⟨(pair_cells ((dD.kept w.heap.size (by omega) (by omega)).trans aJ.out.fst)).1, (pair_cells ((dD.kept w.heap.size (by omega) (by omega)).trans aJ.out.fst)).2, fL.out _ dD, (iO.cell (block_lt_of_cell (pair_cells HE.out).1)).trans (pair_cells HE.out).1, (iO.cell (block_lt_of_cell (pair_cells HE.out).2)).trans (pair_cells HE.out).2⟩
    refine rk 19 rfl (fun K hK => ?_)
    go_simp
    refine hK.out _ _ SW (fun jQ => ?_)
    clear hK K jQ d0 d1 f0 f1 SW
    (try simp only [Act.put, u1, u2, u3])
    generalize (y5.setCell ⟨y1.heap.size, 0, none⟩ (.slice pE iN.length pD)).setCell ⟨y1.heap.size, 1, none⟩ (.slice pG m'.length pF) = zn at lW U9 sH iO lP ⊢; have B6 : zn.cell? ⟨w.heap.size, 0, none⟩ = some (.slice av 4 cv) ∧ zn.cell? ⟨w.heap.size, 1, none⟩ = some (.slice ao l.length co) ∧ zn.cell? ⟨g, k, none⟩ = some (.string s) ∧ zn.cell? ⟨nb, 0, none⟩ = some (.slice va 4 vc) ∧ zn.cell? ⟨nb, 1, none⟩ = some (.slice oa m.length oc) := by
     have dD := dU.out.step (by omega) iO
     exact ⟨(pair_cells ((dD.kept w.heap.size (by omega) (by omega)).trans aJ.out.fst)).1, (pair_cells ((dD.kept w.heap.size (by omega) (by omega)).trans aJ.out.fst)).2, fL.out _ dD, (iO.cell (block_lt_of_cell (pair_cells HE.out).1)).trans (pair_cells HE.out).1, (iO.cell (block_lt_of_cell (pair_cells HE.out).2)).trans (pair_cells HE.out).2⟩
    refine tj 20 ?_
    refine wpAnyH_done (by kernel_rfl) ?_ _
    have rB := aPu (dU.out.step (by omega) iO)
    have aLj := rB.out.size; have HXn := aPu ((rB.out.kept w.heap.size (by omega) (by omega)).trans aJ.out.fst)
    have zF := aPu ((rB.out.kept (w.heap.size + 1) (by omega) (by omega)).trans aJ.out.snd)
    cases okk
    ·have gK := pA.out
     rw [r9 lJ.out V1.out bZ.out lV.out aK] at gK; have hRe : R = (4, [], []) := gK; subst hRe; obtain ⟨r0, r1⟩ := pair_cells zF.out; obtain ⟨f0, f1⟩ := aC zF.out; have bM := aPu (cF (.slice none 0 0) (.slice none 0 0) zF.out); have fA : Hid (Below w.heap.size w ((zn.setCell ⟨w.heap.size + 1, 0, none⟩ (.slice none 0 0)).setCell ⟨w.heap.size + 1, 1, none⟩ (.slice none 0 0))) := rB.out.bel.trans ((dR zn (w.heap.size + 1) 0 1 _ _).mono (by omega))
     go_wp2
     generalize (zn.setCell ⟨w.heap.size + 1, 0, none⟩ (.slice none 0 0)).setCell ⟨w.heap.size + 1, 1, none⟩ (.slice none 0 0) = wf at bM fA ⊢; obtain ⟨p0, p1⟩ := pair_cells bM.out; exact bodyPost_ret (v := .tuple #[.agg #[.slice none 0 0, .slice none 0 0], .int .i64 4]) (by simp [results, Tryz.results85, go_sem, p0, p1]) rfl ⟨none, 0, 0, none, 0, 0, rfl, fA.out, fun h => absurd h (by decide)⟩
    obtain ⟨yT, R5, S8⟩ := rR.out.1 rfl; have aDt := aPu (aA3 lJ.out V1.out bZ.out lV.out R5 S8); clear R5 S8; have pT := pT; rw [yT.len] at lW U9 pT ⊢; obtain ⟨x0, x1⟩ := pair_cells lW.out; obtain ⟨n0, n1⟩ := pair_cells ((iO.block nb (by have := bS HE.out; omega)).trans HE.out)
    obtain ⟨fn0, fn1⟩ := aC ((iO.block nb (by have := bS HE.out; omega)).trans HE.out)
    have HIp := aPu (rB.out.put (k' := k + 1) (by omega) U9.out sH.out (by omega) (by omega) pT.out zL.out yT aDt.out)
    clear yT; go_wp2
    go_roundw
    case rel => exact ⟨k + 1, _, by omega, rfl, by go_num, HIp⟩
    case measure => simp [intOf]; omega
  ·skip
   have dL : Below y0.heap.size y0 (y0.alloc (.cells #[.slice none 0 0, .slice none 0 0] 27)) := bl; have jE := bE (Below.refl _ (y0.alloc (.cells #[.slice none 0 0, .slice none 0 0] 27))); have mJ : y0.heap.size < (y0.alloc (.cells #[.slice none 0 0, .slice none 0 0] 27)).heap.size := by show _ < (y0.heap.push _).size; simp
   have A6 : Below z1.heap.size z1 (y0.alloc (.cells #[.slice none 0 0, .slice none 0 0] 27)) := sA.trans (dL.mono sA.size); have SA : (y0.alloc (.cells #[.slice none 0 0, .slice none 0 0] 27)).cell? ⟨w.heap.size, 0, none⟩ = some (.slice av 4 cv) ∧ (y0.alloc (.cells #[.slice none 0 0, .slice none 0 0] 27)).cell? ⟨w.heap.size, 1, none⟩ = some (.slice ao l.length co) ∧ (y0.alloc (.cells #[.slice none 0 0, .slice none 0 0] 27)).cell? ⟨g, k, none⟩ = some (.string s) ∧ (y0.alloc (.cells #[.slice none 0 0, .slice none 0 0] 27)).cell? ⟨nb, 0, none⟩ = some (.slice va 4 vc) ∧ (y0.alloc (.cells #[.slice none 0 0, .slice none 0 0] 27)).cell? ⟨nb, 1, none⟩ = some (.slice oa m.length oc) := by
    have dD := dU.out.step (by omega) A6
    exact ⟨(pair_cells ((dD.kept w.heap.size (by omega) (by omega)).trans aJ.out.fst)).1, (pair_cells ((dD.kept w.heap.size (by omega) (by omega)).trans aJ.out.fst)).2, fL.out _ dD, (A6.cell (block_lt_of_cell (pair_cells HE.out).1)).trans (pair_cells HE.out).1, (A6.cell (block_lt_of_cell (pair_cells HE.out).2)).trans (pair_cells HE.out).2⟩
   go_simp
   refine hK.out _ _ SA (fun jR => ?_)
   clear hK K jR
   (try simp only [Act.put, u1, u2, u3])
   generalize iO : y0.alloc (.cells #[.slice none 0 0, .slice none 0 0] 27) = y6 at dL jE mJ ⊢; clear iO SA A6; have hy6 : Below z1.heap.size z1 y6 := sA.trans (dL.mono sA.size); have Sy6 : y6.cell? ⟨w.heap.size, 0, none⟩ = some (.slice av 4 cv) ∧ y6.cell? ⟨w.heap.size, 1, none⟩ = some (.slice ao l.length co) ∧ y6.cell? ⟨g, k, none⟩ = some (.string s) ∧ y6.cell? ⟨nb, 0, none⟩ = some (.slice va 4 vc) ∧ y6.cell? ⟨nb, 1, none⟩ = some (.slice oa m.length oc) := by
    have dD := dU.out.step (by omega) hy6
    exact ⟨(pair_cells ((dD.kept w.heap.size (by omega) (by omega)).trans aJ.out.fst)).1, (pair_cells ((dD.kept w.heap.size (by omega) (by omega)).trans aJ.out.fst)).2, fL.out _ dD, (hy6.cell (block_lt_of_cell (pair_cells HE.out).1)).trans (pair_cells HE.out).1, (hy6.cell (block_lt_of_cell (pair_cells HE.out).2)).trans (pair_cells HE.out).2⟩
   have R7 := aPu jE; have aO0 := mJ; clear jE mJ dL; refine wpAnyH_ready (rs := [11]) (by kernel_rfl) (by simp) ?_
   refine (AllReadyH.cons rfl (fun K hK => ?_) AllReadyH.nil)
   go_simp
   go_at_call 117
   refine (E6 y6 B av ao 4 cv l.length co xs l s (wV.out.below (dU.out.bel.trans (hy6.mono (by omega))) hB) (by have := hy6.size; omega) (by omega) HC.out).mono ?_
   rw [HU.out]; rintro e y7 ⟨rfl, eJ⟩; have Z2 : Below z1.heap.size z1 y7 := hy6.trans (eJ.mono hy6.size); have Sy7 : y7.cell? ⟨w.heap.size, 0, none⟩ = some (.slice av 4 cv) ∧ y7.cell? ⟨w.heap.size, 1, none⟩ = some (.slice ao l.length co) ∧ y7.cell? ⟨g, k, none⟩ = some (.string s) ∧ y7.cell? ⟨nb, 0, none⟩ = some (.slice va 4 vc) ∧ y7.cell? ⟨nb, 1, none⟩ = some (.slice oa m.length oc) := by
    have dD := dU.out.step (by omega) Z2
    exact ⟨(pair_cells ((dD.kept w.heap.size (by omega) (by omega)).trans aJ.out.fst)).1, (pair_cells ((dD.kept w.heap.size (by omega) (by omega)).trans aJ.out.fst)).2, fL.out _ dD, (Z2.cell (block_lt_of_cell (pair_cells HE.out).1)).trans (pair_cells HE.out).1, (Z2.cell (block_lt_of_cell (pair_cells HE.out).2)).trans (pair_cells HE.out).2⟩
   have I9 := aPu ((eJ.block _ (aPv R7.out).1).trans R7.out); have aOZ := bS I9.out; refine hK.out _ _ Sy7 (fun pN => ?_)
   clear hK K pN eJ
   (try simp only [Act.put, u1, u2, u3])
   refine tj 12 ?_
   refine tj 13 ?_
   refine wpAnyH_ready (rs := [14]) (by kernel_rfl) (by simp) ?_
   refine (AllReadyH.cons rfl (fun K hK => ?_) AllReadyH.nil)
   go_simp
   go_at_call 90
   refine (rR.out.2 y7 y7.heap.size va oa vc oc ((HVi.out.below Z2 aPw).more Z2.size) ((HOi.out.below Z2 aPw).more Z2.size) aPw C2.out HC2.out).mono ?_
   rintro e y8 ⟨pE, pD, pG, pF, rfl, kB, dX, eJ, d1, d2⟩; have hy8 : Below z1.heap.size z1 y8 := Z2.trans (eJ.mono Z2.size); have Sy8 : y8.cell? ⟨w.heap.size, 0, none⟩ = some (.slice av 4 cv) ∧ y8.cell? ⟨w.heap.size, 1, none⟩ = some (.slice ao l.length co) ∧ y8.cell? ⟨g, k, none⟩ = some (.string s) ∧ y8.cell? ⟨nb, 0, none⟩ = some (.slice va 4 vc) ∧ y8.cell? ⟨nb, 1, none⟩ = some (.slice oa m.length oc) := by
    have dD := dU.out.step (by omega) hy8
    exact ⟨(pair_cells ((dD.kept w.heap.size (by omega) (by omega)).trans aJ.out.fst)).1, (pair_cells ((dD.kept w.heap.size (by omega) (by omega)).trans aJ.out.fst)).2, fL.out _ dD, (hy8.cell (block_lt_of_cell (pair_cells HE.out).1)).trans (pair_cells HE.out).1, (hy8.cell (block_lt_of_cell (pair_cells HE.out).2)).trans (pair_cells HE.out).2⟩
   have R6 := aPu ((eJ.block _ (aPv I9.out).1).trans I9.out); have aOY := bS R6.out; have aNx := aPu kB; have aNK := aPu dX; have pT := aPu d1; have zL := aPu d2; have hpz := eJ.size; refine hK.out _ _ Sy8 (fun jP => ?_)
   clear hK K jP eJ kB dX d1 d2
   (try simp only [Act.put, u1, u2, u3])
   refine tj 15 ?_
   refine tj 16 ?_
   refine tj 17 ?_
   have A3 := sA.size; have wN := Z2.size; obtain ⟨lW, U9, sH, iO, lP⟩ := p9 (.slice pE iN.length pD) (.slice pG m'.length pF) hy8 R6.out A3 (by first | exact .inr aPw | (left; omega) | (right; omega)) aNx.out aNK.out
   obtain ⟨d0, d1⟩ := pair_cells R6.out; obtain ⟨f0, f1⟩ := aC R6.out; have SW : ((y8.setCell ⟨y0.heap.size, 0, none⟩ (.slice pE iN.length pD)).setCell ⟨y0.heap.size, 1, none⟩ (.slice pG m'.length pF)).cell? ⟨w.heap.size, 0, none⟩ = some (.slice av 4 cv) ∧ ((y8.setCell ⟨y0.heap.size, 0, none⟩ (.slice pE iN.length pD)).setCell ⟨y0.heap.size, 1, none⟩ (.slice pG m'.length pF)).cell? ⟨w.heap.size, 1, none⟩ = some (.slice ao l.length co) ∧ ((y8.setCell ⟨y0.heap.size, 0, none⟩ (.slice pE iN.length pD)).setCell ⟨y0.heap.size, 1, none⟩ (.slice pG m'.length pF)).cell? ⟨g, k, none⟩ = some (.string s) ∧ ((y8.setCell ⟨y0.heap.size, 0, none⟩ (.slice pE iN.length pD)).setCell ⟨y0.heap.size, 1, none⟩ (.slice pG m'.length pF)).cell? ⟨nb, 0, none⟩ = some (.slice va 4 vc) ∧ ((y8.setCell ⟨y0.heap.size, 0, none⟩ (.slice pE iN.length pD)).setCell ⟨y0.heap.size, 1, none⟩ (.slice pG m'.length pF)).cell? ⟨nb, 1, none⟩ = some (.slice oa m.length oc) := by
    have dD := dU.out.step (by omega) iO
    exact ⟨(pair_cells ((dD.kept w.heap.size (by omega) (by omega)).trans aJ.out.fst)).1, (pair_cells ((dD.kept w.heap.size (by omega) (by omega)).trans aJ.out.fst)).2, fL.out _ dD, (iO.cell (block_lt_of_cell (pair_cells HE.out).1)).trans (pair_cells HE.out).1, (iO.cell (block_lt_of_cell (pair_cells HE.out).2)).trans (pair_cells HE.out).2⟩
   refine rk 19 rfl (fun K hK => ?_)
   go_simp
   refine hK.out _ _ SW (fun jQ => ?_)
   clear hK K jQ d0 d1 f0 f1 SW
   (try simp only [Act.put, u1, u2, u3])
   generalize (y8.setCell ⟨y0.heap.size, 0, none⟩ (.slice pE iN.length pD)).setCell ⟨y0.heap.size, 1, none⟩ (.slice pG m'.length pF) = zn at lW U9 sH iO lP ⊢; have B6 : zn.cell? ⟨w.heap.size, 0, none⟩ = some (.slice av 4 cv) ∧ zn.cell? ⟨w.heap.size, 1, none⟩ = some (.slice ao l.length co) ∧ zn.cell? ⟨g, k, none⟩ = some (.string s) ∧ zn.cell? ⟨nb, 0, none⟩ = some (.slice va 4 vc) ∧ zn.cell? ⟨nb, 1, none⟩ = some (.slice oa m.length oc) := by
    have dD := dU.out.step (by omega) iO
    exact ⟨(pair_cells ((dD.kept w.heap.size (by omega) (by omega)).trans aJ.out.fst)).1, (pair_cells ((dD.kept w.heap.size (by omega) (by omega)).trans aJ.out.fst)).2, fL.out _ dD, (iO.cell (block_lt_of_cell (pair_cells HE.out).1)).trans (pair_cells HE.out).1, (iO.cell (block_lt_of_cell (pair_cells HE.out).2)).trans (pair_cells HE.out).2⟩
   refine tj 20 ?_
   refine wpAnyH_done (by kernel_rfl) ?_ _
   have rB := aPu (dU.out.step (by omega) iO)
   have aLj := rB.out.size; have HXn := aPu ((rB.out.kept w.heap.size (by omega) (by omega)).trans aJ.out.fst)
   have zF := aPu ((rB.out.kept (w.heap.size + 1) (by omega) (by omega)).trans aJ.out.snd)
   cases okk
   ·have gK := pA.out
    rw [r9 lJ.out V1.out bZ.out lV.out aK] at gK; have hRe : R = (4, [], []) := gK; subst hRe; obtain ⟨r0, r1⟩ := pair_cells zF.out; obtain ⟨f0, f1⟩ := aC zF.out; have bM := aPu (cF (.slice none 0 0) (.slice none 0 0) zF.out); have fA : Hid (Below w.heap.size w ((zn.setCell ⟨w.heap.size + 1, 0, none⟩ (.slice none 0 0)).setCell ⟨w.heap.size + 1, 1, none⟩ (.slice none 0 0))) := rB.out.bel.trans ((dR zn (w.heap.size + 1) 0 1 _ _).mono (by omega))
    go_wp2
    generalize (zn.setCell ⟨w.heap.size + 1, 0, none⟩ (.slice none 0 0)).setCell ⟨w.heap.size + 1, 1, none⟩ (.slice none 0 0) = wf at bM fA ⊢; obtain ⟨p0, p1⟩ := pair_cells bM.out; exact bodyPost_ret (v := .tuple #[.agg #[.slice none 0 0, .slice none 0 0], .int .i64 4]) (by simp [results, Tryz.results85, go_sem, p0, p1]) rfl ⟨none, 0, 0, none, 0, 0, rfl, fA.out, fun h => absurd h (by decide)⟩
   obtain ⟨yT, R5, S8⟩ := rR.out.1 rfl; have aDt := aPu (aA3 lJ.out V1.out bZ.out lV.out R5 S8); clear R5 S8; have pT := pT; rw [yT.len] at lW U9 pT ⊢; obtain ⟨x0, x1⟩ := pair_cells lW.out; obtain ⟨n0, n1⟩ := pair_cells ((iO.block nb (by have := bS HE.out; omega)).trans HE.out)
   obtain ⟨fn0, fn1⟩ := aC ((iO.block nb (by have := bS HE.out; omega)).trans HE.out)
   have HIp := aPu (rB.out.put (k' := k + 1) (by omega) U9.out sH.out (by omega) (by omega) pT.out zL.out yT aDt.out)
   clear yT; go_wp2
   go_roundw
   case rel => exact ⟨k + 1, _, by omega, rfl, by go_num, HIp⟩
   case measure => simp [intOf]; omega
theorem aHS (w : World) (B : Nat) (av ao : Option Addr) (cv no co d : Nat) (xs : List Int) (l : List aA) (hx : Ints w B av 4 xs) (h : bK w B ao no l) (hB : B ≤ w.heap.size) (bX : bQ av 4 cv) (cD : bQ ao no co) (hd : d < 4) (hc : aD xs l = true) :
  Calls Tryz.prog 85 #[.agg #[.slice av 4 cv, .slice ao no co], .int .i64 (d : Int)] w (aFq (qI xs l d) w) := aGv w B av ao cv no co d xs l hx h hB bX cD hd hc _ rfl
structure rP (w w1 : World) (x y z : Array Value) : Prop where
 fst : w1.heap[w.heap.size]? = some (.cells x 27 (0, 0))
 snd : w1.heap[w.heap.size + 1]? = some (.cells y 29 (0, 0))
 res : w1.heap[w.heap.size + 1 + 1]? = some (.cells z 27 (0, 0))
 bel : Below w.heap.size w w1
theorem rP.mk0 (w : World) (x y z : Array Value) : rP w (((w.alloc (.cells x 27)).alloc (.cells y 29)).alloc (.cells z 27)) x y z := by
 have e1 : (w.alloc (.cells x 27)).heap.size = w.heap.size + 1 := by simp
 have e2 : ((w.alloc (.cells x 27)).alloc (.cells y 29)).heap.size = w.heap.size + 1 + 1 := by simp
 refine ⟨?_, ?_, ?_, (((Below.refl _ w).alloc aPw _).alloc (by simp) _).alloc (by simp; omega) _⟩
 ·exact ((Below.heap_alloc _ _ _ (by omega)).trans (Below.heap_alloc _ _ _ (by omega))).trans (heap_alloc_new _ _)
 ·rw [← e1]; exact (Below.heap_alloc _ _ _ (by omega)).trans (heap_alloc_new _ _)
 ·rw [← e2]; exact heap_alloc_new _ _
theorem rP.next {w w1 w2 : World} {x y z : Array Value} (h : rP w w1 x y z) (hb : Below w1.heap.size w1 w2) : rP w w2 x y z :=
 ⟨(hb.block _ (aPv h.fst).1).trans h.fst, (hb.block _ (aPv h.snd).1).trans h.snd, (hb.block _ (aPv h.res).1).trans h.res, h.bel.trans (hb.mono h.bel.size)⟩
theorem rP.lt {w w1 : World} {x y z : Array Value} (h : rP w w1 x y z) : w.heap.size + 1 + 1 < w1.heap.size := (aPv h.res).1
theorem Y1 {w : World} {b : Nat} {v0 v1 v2 v3 v4 : Value} {T : TypeId} {fr : Nat × Nat} (h : w.heap[b]? = some (.cells #[v0, v1, v2, v3, v4] T fr)) : w.cell? ⟨b, 0, none⟩ = some v0 ∧ w.cell? ⟨b, 1, none⟩ = some v1 ∧ w.cell? ⟨b, 2, none⟩ = some v2 ∧ w.cell? ⟨b, 3, none⟩ = some v3 ∧ w.cell? ⟨b, 4, none⟩ = some v4 :=
 ⟨aPx h, aPx h, aPx h, aPx h, aPx h⟩
def rE (w : World) (lo hi : Nat) (va : Option Addr) (nv vc : Nat) (oa : Option Addr) (no oc : Nat) (zs : List Int) (m : List aA) : Prop :=
 nv = zs.length ∧ no = m.length ∧ Own w lo hi va nv zs ∧ bB w lo hi oa no m ∧ bQ va nv vc ∧ bQ oa no oc
def aFp (code : Int) (zs : List Int) (m : List aA) (w : World) (e : Ending) (w' : World) : Prop :=
 ∃ va nv vc oa no oc, e = .returned (.tuple #[.agg #[.slice va nv vc, .slice oa no oc], .int .i64 code]) ∧ Below w.heap.size w w' ∧ (code = 0 → rE w' w.heap.size w'.heap.size va nv vc oa no oc zs m)
theorem rE.kept {w w' : World} {lo hi nv vc no oc : Nat} {va oa : Option Addr} {zs : List Int} {m : List aA} (h : rE w lo hi va nv vc oa no oc zs m) (hk : ∀ j, lo ≤ j → j < hi → w'.heap[j]? = w.heap[j]?) : rE w' lo hi va nv vc oa no oc zs m := by
 obtain ⟨h1, h2, h3, h4, h5, h6⟩ := h
 exact ⟨h1, h2, h3.kept hk, h4.kept hk, h5, h6⟩
theorem rE.more {w : World} {lo hi lo' hi' nv vc no oc : Nat} {va oa : Option Addr} {zs : List Int} {m : List aA} (h : rE w lo hi va nv vc oa no oc zs m) (g1 : lo' ≤ lo) (g2 : hi ≤ hi') : rE w lo' hi' va nv vc oa no oc zs m := by
 obtain ⟨h1, h2, h3, h4, h5, h6⟩ := h
 exact ⟨h1, h2, h3.more g1 g2, h4.more g1 g2, h5, h6⟩
theorem rE.below {w w' : World} {lo hi B nv vc no oc : Nat} {va oa : Option Addr} {zs : List Int} {m : List aA} (h : rE w lo hi va nv vc oa no oc zs m) (hb : Below B w w') (hB : hi ≤ B) : rE w' lo hi va nv vc oa no oc zs m := h.kept fun j _ h2 => hb.block j (by omega)
theorem rE.nil (w : World) (lo hi : Nat) : rE w lo hi none 0 0 none 0 0 [] [] :=
 ⟨rfl, rfl, ⟨rfl, fun h => absurd h (by omega)⟩, ⟨rfl, fun h => absurd h (by omega)⟩, cN, cN⟩
theorem aHR (w : World) (B : Nat) (av ao : Option Addr) (cv no co d : Nat) (xs : List Int) (l : List aA) (hx : Ints w B av 4 xs) (h : bK w B ao no l) (hB : B ≤ w.heap.size) (bX : bQ av 4 cv) (cD : bQ ao no co) (hd : d < 4) (hc : aD xs l = true) {RC : Int} {RZ : List Int} {RM : List aA} (hR : qI xs l d = (RC, RZ, RM)) :
  Calls Tryz.prog 85 #[.agg #[.slice av 4 cv, .slice ao no co], .int .i64 (d : Int)] w (aFp RC RZ RM w) := by
 have := aHS w B av ao cv no co d xs l hx h hB bX cD hd hc
 rw [hR] at this
 exact this
theorem aDm.toY {xs : List Int} {l : List aA} {dev seq : Int} {w w' : World} {e : Ending} (h : aDm xs l dev seq w e w') (hc : aD xs l = true) {RC : Int} {RZ : List Int} {RM : List aA} (hR : eF xs l dev seq = (RC, RZ, RM)) : aFp RC RZ RM w e w' := by
 have := h.toX hc
 rw [hR] at this
 exact this
theorem rP.outX {w w1 w2 : World} {x y : Array Value} {z0 z1 : Value} {va oa : Option Addr} {nv vc no oc : Nat} {code : Int} {zs : List Int} {m : List aA} (h : rP w w2 x y #[z0, z1]) (hw : w.heap.size + 1 + 1 < w1.heap.size) (hc : code = 0 → rE w2 w1.heap.size w2.heap.size va nv vc oa no oc zs m) :
  Hid (((w2.setCell ⟨w.heap.size + 1 + 1, 0, none⟩ (.slice va nv vc)).setCell ⟨w.heap.size + 1 + 1, 1, none⟩ (.slice oa no oc)).heap[w.heap.size + 1 + 1]? = some (.cells #[.slice va nv vc, .slice oa no oc] 27 (0, 0))) ∧
  Hid (aFp code zs m w (.returned (.tuple #[.agg #[.slice va nv vc, .slice oa no oc], .int .i64 code])) ((w2.setCell ⟨w.heap.size + 1 + 1, 0, none⟩ (.slice va nv vc)).setCell ⟨w.heap.size + 1 + 1, 1, none⟩ (.slice oa no oc))) := by
 have hz := aZ w2 (w.heap.size + 1 + 1) (.slice va nv vc) (.slice oa no oc)
 refine ⟨cF _ _ h.res, va, nv, vc, oa, no, oc, rfl, h.bel.trans ((dR w2 (w.heap.size + 1 + 1) 0 1 _ _).mono (by omega)), fun h0 => ?_⟩
 exact ((hc h0).kept fun j a1 a2 => aF _ _ (by omega)).more (by omega) (by rw [hz]; exact Nat.le_refl _)
theorem rP.outN {w w1 w2 : World} {x y : Array Value} {z0 z1 : Value} {va oa : Option Addr} {nv vc no oc : Nat} {code : Int} {zs : List Int} {m : List aA} (h : rP w w2 x y #[z0, z1]) (hw : w.heap.size + 1 + 1 < w1.heap.size) (hc : rE w2 w1.heap.size w2.heap.size va nv vc oa no oc zs m) :
  Hid (((w2.setCell ⟨w.heap.size + 1 + 1, 0, none⟩ (.slice va nv vc)).setCell ⟨w.heap.size + 1 + 1, 1, none⟩ (.slice oa no oc)).heap[w.heap.size + 1 + 1]? = some (.cells #[.slice va nv vc, .slice oa no oc] 27 (0, 0))) ∧
  Hid (uT code zs m w (.returned (.tuple #[.agg #[.slice va nv vc, .slice oa no oc], .int .i64 code])) ((w2.setCell ⟨w.heap.size + 1 + 1, 0, none⟩ (.slice va nv vc)).setCell ⟨w.heap.size + 1 + 1, 1, none⟩ (.slice oa no oc))) := by
 have hz := aZ w2 (w.heap.size + 1 + 1) (.slice va nv vc) (.slice oa no oc)
 obtain ⟨h1, h2, h3, h4, h5, h6⟩ := (hc.kept (w' := ((w2.setCell ⟨w.heap.size + 1 + 1, 0, none⟩ (.slice va nv vc)).setCell ⟨w.heap.size + 1 + 1, 1, none⟩ (.slice oa no oc))) fun j a1 a2 => aF _ _ (by omega)).more (lo' := w.heap.size) (hi' := ((w2.setCell ⟨w.heap.size + 1 + 1, 0, none⟩ (.slice va nv vc)).setCell ⟨w.heap.size + 1 + 1, 1, none⟩ (.slice oa no oc)).heap.size) (by omega) (by rw [hz]; exact Nat.le_refl _)
 subst h1 h2
 exact ⟨cF _ _ h.res, va, vc, oa, oc, rfl, h3, h4, h.bel.trans ((dR w2 (w.heap.size + 1 + 1) 0 1 _ _).mono (by omega)), h5, h6⟩
set_option maxHeartbeats 40000000 in
theorem aHQ (w : World) (B : Nat) (av ao : Option Addr) (cv no co : Nat) (d : Nat) (xs : List Int) (l : List aA) (kind qty dv sq : Int) (item : ByteArray) (hx : Ints w B av 4 xs) (h : bK w B ao no l) (hB : B ≤ w.heap.size) (bX : bQ av 4 cv) (cD : bQ ao no co) (hi : item.size ≤ 8) (hd : d < 4) (hc : aD xs l = true) {RC : Int} {RZ : List Int} {RM : List aA} (hR : jJ xs l d kind item qty dv sq = (RC, RZ, RM)) :
  Calls Tryz.prog 46 #[.agg #[.slice av 4 cv, .slice ao no co], .int .i64 (d : Int), .agg #[.int .i64 kind, .string item, .int .i64 qty, .int .i64 dv, .int .i64 sq]] w (aFp RC RZ RM w) := by
 have uJ := aPu hR
 clear hR
 obtain rfl := h.1
 have hT := rP.mk0 w #[.slice av 4 cv, .slice ao l.length co] #[.int .i64 kind, .string item, .int .i64 qty, .int .i64 dv, .int .i64 sq] #[.slice none 0 0, .slice none 0 0]
 have HV := aPu (hx.below hT.bel hB)
 have HO := aPu (h.below hT.bel hB)
 have HT := aPu hT
 have nZ := aPu bX
 have oP := aPu cD
 have HC := aPu hc
 have HBn := aPu (sN.of_cart hc)
 have hl := eL hc
 clear hc
 clear hx h hT bX cD
 go_enter Tryz.func46, Tryz.ntmps46
 go_upto_region 1 with fail
 generalize ((w.alloc (.cells #[.slice av 4 cv, .slice ao l.length co] 27)).alloc (.cells #[.int .i64 kind, .string item, .int .i64 qty, .int .i64 dv, .int .i64 sq] 29)).alloc (.cells #[.slice none 0 0, .slice none 0 0] 27) = w0 at HV HO HT ⊢
 have lQ := HT.out.lt
 obtain ⟨q0, q1⟩ := pair_cells HT.out.fst
 obtain ⟨k0, k1, k2, k3, k4⟩ := Y1 HT.out.snd
 by_cases h6 : kind = 6
 ·have e6 : (kind == 6) = true := by rw [h6]; rfl
  have HR6 : Hid (qI xs l d = (RC, RZ, RM)) := by have h := uJ.out; unfold jJ at h; rwa [if_pos h6] at h
  clear h6
  go_wp2_with fail
  refine (aHR w0 B av ao cv l.length co d xs l HV.out HO.out (by omega) nZ.out oP.out hd HC.out HR6.out).mono ?_
  rintro e w1 ⟨va, nv, vc, oa, no, oc, rfl, hb, jN⟩; have aT := aPu (HT.out.next hb); have O3 := aPu jN; clear q0 q1 k0 k1 k2 k3 k4 HT hb jN; obtain ⟨r0, r1⟩ := pair_cells aT.out.res; obtain ⟨f0, f1⟩ := aC aT.out.res; obtain ⟨bM, iU⟩ := aT.out.outX (w1 := w0) (va := va) (nv := nv) (vc := vc) (oa := oa) (no := no) (oc := oc) (code := RC) (zs := RZ) (m := RM) (by omega) O3.out
  go_wp2
  generalize (w1.setCell ⟨w.heap.size + 1 + 1, 0, none⟩ (.slice va nv vc)).setCell ⟨w.heap.size + 1 + 1, 1, none⟩ (.slice oa no oc) = wf at bM iU ⊢; obtain ⟨p0, p1⟩ := pair_cells bM.out; exact bodyPost_ret (v := .tuple #[.agg #[.slice va nv vc, .slice oa no oc], .int .i64 (RC)]) (by simp [results, Tryz.results46, go_sem, p0, p1]) rfl iU.out
 have e6 : (kind == 6) = false := by rw [beq_eq_false_iff_ne]; exact h6
 by_cases h7 : kind = 7
 ·have e7 : (kind == 7) = true := by rw [h7]; rfl
  have HR7 : Hid (eF xs l (d : Int) (bV (d : Int) l l.length) = (RC, RZ, RM)) := by have h := uJ.out; unfold jJ at h; rwa [if_neg h6, if_pos h7] at h
  clear h7; clear q0 q1
  go_upto_region 5 with fail
  have hS : w0.drew.cell? ⟨w.heap.size, 0, none⟩ = some (.slice av 4 cv) ∧ w0.drew.cell? ⟨w.heap.size, 1, none⟩ = some (.slice ao l.length co) := pair_cells HT.out.fst
  go_wp2_with fail
  refine wp_region_held_drew (S := fun w' => w'.cell? ⟨w.heap.size, 0, none⟩ = some (.slice av 4 cv) ∧ w'.cell? ⟨w.heap.size, 1, none⟩ = some (.slice ao l.length co)) (by kernel_rfl) hS (fun aP => ?_)
  refine tj 0 ?_
  refine tj 1 ?_
  refine tj 2 ?_
  refine tj 3 ?_
  refine rk 4 rfl (fun K hK => ?_)
  go_simp
  go_at_call 87
  refine (aGt w0.drew B av ao 4 cv l.length co xs l (d : Int) (HO.out.kept (w' := w0.drew) fun _ _ => rfl) (by show B ≤ w0.heap.size; omega) (by omega) HC.out).mono ?_
  rintro e w1 ⟨rfl, gX⟩; have aE : Below w0.heap.size w0 w1 := Below.mk gX.os gX.tape gX.output gX.size gX.block; have dM : w1.cell? ⟨w.heap.size, 0, none⟩ = some (.slice av 4 cv) ∧ w1.cell? ⟨w.heap.size, 1, none⟩ = some (.slice ao l.length co) := pair_cells (HT.out.next aE).fst; have dZ := aE.size; generalize bV (d : Int) l l.length = sqn at HR7 ⊢; refine hK.out _ _ dM (fun bG => ?_)
  clear hK K
  (try simp only [Act.put, u1, u2, u3])
  refine rk 5 rfl (fun K hK => ?_)
  go_simp
  go_at_call 86
  refine (n9 w1 B av ao 4 cv l.length co xs l (d : Int) sqn (HV.out.below aE (by omega)) (HO.out.below aE (by omega)) (by omega) nZ.out.2.2 oP.out.2.2 (by omega) (by omega) (fun i hi => by have := dG (eT HC.out hi); omega)).mono ?_
  rintro e w2 qS; obtain ⟨va, nv, vc, oa, no, oc, rfl, aG, jN⟩ := qS.toY HC.out HR7.out; have O3 := aPu jN; have aIq := aE.trans (aG.mono aE.size); have aJ := aPu (HT.out.next aIq); have eK : w2.cell? ⟨w.heap.size, 0, none⟩ = some (.slice av 4 cv) ∧ w2.cell? ⟨w.heap.size, 1, none⟩ = some (.slice ao l.length co) := pair_cells aJ.out.fst; refine hK.out _ _ eK (fun fI => ?_)
  clear hK K
  (try simp only [Act.put, u1, u2, u3])
  refine tj 6 ?_
  refine tj 7 ?_
  obtain ⟨r0, r1⟩ := pair_cells aJ.out.res; obtain ⟨f0, f1⟩ := aC aJ.out.res; obtain ⟨bM, iU⟩ := aJ.out.outX (w1 := w1) (va := va) (nv := nv) (vc := vc) (oa := oa) (no := no) (oc := oc) (code := RC) (zs := RZ) (m := RM) (by omega) O3.out
  have fV : ((w2.setCell ⟨w.heap.size + 1 + 1, 0, none⟩ (.slice va nv vc)).setCell ⟨w.heap.size + 1 + 1, 1, none⟩ (.slice oa no oc)).cell? ⟨w.heap.size, 0, none⟩ = some (.slice av 4 cv) ∧ ((w2.setCell ⟨w.heap.size + 1 + 1, 0, none⟩ (.slice va nv vc)).setCell ⟨w.heap.size + 1 + 1, 1, none⟩ (.slice oa no oc)).cell? ⟨w.heap.size, 1, none⟩ = some (.slice ao l.length co) := pair_cells ((aF _ _ (by omega)).trans aJ.out.fst)
  refine rk 8 rfl (fun K hK => ?_)
  go_simp
  refine hK.out _ _ fV (fun kW => ?_)
  clear hK K
  (try simp only [Act.put, u1, u2, u3])
  clear hS dM eK r0 r1 f0 f1 aP bG fI; generalize (w2.setCell ⟨w.heap.size + 1 + 1, 0, none⟩ (.slice va nv vc)).setCell ⟨w.heap.size + 1 + 1, 1, none⟩ (.slice oa no oc) = wf at bM iU fV ⊢; refine tj 9 ?_
  refine wpAnyH_done (by kernel_rfl) ?_ _
  obtain ⟨p0, p1⟩ := pair_cells bM.out; go_wp2
  exact bodyPost_ret (v := .tuple #[.agg #[.slice va nv vc, .slice oa no oc], .int .i64 RC]) (by simp [results, Tryz.results46, go_sem, p0, p1]) rfl iU.out
 have e7 : (kind == 7) = false := by rw [beq_eq_false_iff_ne]; exact h7
 by_cases h8 : kind = 8
 ·have e8 : (kind == 8) = true := by rw [h8]; rfl
  have HR8 : Hid (eF xs l (d : Int) (jH xs d l) = (RC, RZ, RM)) := by have h := uJ.out; unfold jJ at h; rwa [if_neg h6, if_neg h7, if_pos h8] at h
  clear h8; clear q0 q1
  go_upto_region 7 with fail
  have hS : w0.drew.cell? ⟨w.heap.size, 0, none⟩ = some (.slice av 4 cv) ∧ w0.drew.cell? ⟨w.heap.size, 1, none⟩ = some (.slice ao l.length co) := pair_cells HT.out.fst
  go_wp2_with fail
  refine wp_region_held_drew (S := fun w' => w'.cell? ⟨w.heap.size, 0, none⟩ = some (.slice av 4 cv) ∧ w'.cell? ⟨w.heap.size, 1, none⟩ = some (.slice ao l.length co)) (by kernel_rfl) hS (fun aP => ?_)
  refine tj 0 ?_
  refine tj 1 ?_
  refine tj 2 ?_
  refine tj 3 ?_
  refine rk 4 rfl (fun K hK => ?_)
  go_simp
  go_at_call 88
  refine (aK8 w0.drew B av ao 4 cv l.length co xs l d hd (HO.out.kept (w' := w0.drew) fun _ _ => rfl) (by show B ≤ w0.heap.size; omega) (by omega) HC.out).mono ?_
  rintro e w1 ⟨rfl, gX⟩; have aE : Below w0.heap.size w0 w1 := Below.mk gX.os gX.tape gX.output gX.size gX.block; have dM : w1.cell? ⟨w.heap.size, 0, none⟩ = some (.slice av 4 cv) ∧ w1.cell? ⟨w.heap.size, 1, none⟩ = some (.slice ao l.length co) := pair_cells (HT.out.next aE).fst; have dZ := aE.size; generalize jH xs d l = sqn at HR8 ⊢; refine hK.out _ _ dM (fun bG => ?_)
  clear hK K
  (try simp only [Act.put, u1, u2, u3])
  refine rk 5 rfl (fun K hK => ?_)
  go_simp
  go_at_call 86
  refine (n9 w1 B av ao 4 cv l.length co xs l (d : Int) sqn (HV.out.below aE (by omega)) (HO.out.below aE (by omega)) (by omega) nZ.out.2.2 oP.out.2.2 (by omega) (by omega) (fun i hi => by have := dG (eT HC.out hi); omega)).mono ?_
  rintro e w2 qS; obtain ⟨va, nv, vc, oa, no, oc, rfl, aG, jN⟩ := qS.toY HC.out HR8.out; have O3 := aPu jN; have aIq := aE.trans (aG.mono aE.size); have aJ := aPu (HT.out.next aIq); have eK : w2.cell? ⟨w.heap.size, 0, none⟩ = some (.slice av 4 cv) ∧ w2.cell? ⟨w.heap.size, 1, none⟩ = some (.slice ao l.length co) := pair_cells aJ.out.fst; refine hK.out _ _ eK (fun fI => ?_)
  clear hK K
  (try simp only [Act.put, u1, u2, u3])
  refine tj 6 ?_
  refine tj 7 ?_
  obtain ⟨r0, r1⟩ := pair_cells aJ.out.res; obtain ⟨f0, f1⟩ := aC aJ.out.res; obtain ⟨bM, iU⟩ := aJ.out.outX (w1 := w1) (va := va) (nv := nv) (vc := vc) (oa := oa) (no := no) (oc := oc) (code := RC) (zs := RZ) (m := RM) (by omega) O3.out
  have fV : ((w2.setCell ⟨w.heap.size + 1 + 1, 0, none⟩ (.slice va nv vc)).setCell ⟨w.heap.size + 1 + 1, 1, none⟩ (.slice oa no oc)).cell? ⟨w.heap.size, 0, none⟩ = some (.slice av 4 cv) ∧ ((w2.setCell ⟨w.heap.size + 1 + 1, 0, none⟩ (.slice va nv vc)).setCell ⟨w.heap.size + 1 + 1, 1, none⟩ (.slice oa no oc)).cell? ⟨w.heap.size, 1, none⟩ = some (.slice ao l.length co) := pair_cells ((aF _ _ (by omega)).trans aJ.out.fst)
  refine rk 8 rfl (fun K hK => ?_)
  go_simp
  refine hK.out _ _ fV (fun kW => ?_)
  clear hK K
  (try simp only [Act.put, u1, u2, u3])
  clear hS dM eK r0 r1 f0 f1 aP bG fI; generalize (w2.setCell ⟨w.heap.size + 1 + 1, 0, none⟩ (.slice va nv vc)).setCell ⟨w.heap.size + 1 + 1, 1, none⟩ (.slice oa no oc) = wf at bM iU fV ⊢; refine tj 9 ?_
  refine wpAnyH_done (by kernel_rfl) ?_ _
  obtain ⟨p0, p1⟩ := pair_cells bM.out; go_wp2
  exact bodyPost_ret (v := .tuple #[.agg #[.slice va nv vc, .slice oa no oc], .int .i64 RC]) (by simp [results, Tryz.results46, go_sem, p0, p1]) rfl iU.out
 have e8 : (kind == 8) = false := by rw [beq_eq_false_iff_ne]; exact h8
 by_cases h9 : kind = 9
 ·have e9 : (kind == 9) = true := by rw [h9]; rfl
  have V4 : Hid (eF xs l dv sq = (RC, RZ, RM)) := by have h := uJ.out; unfold jJ at h; rwa [if_neg h6, if_neg h7, if_neg h8, if_pos h9] at h
  clear h6 h7 h8 h9
  go_wp2_with fail
  refine (n9 w0 B av ao 4 cv l.length co xs l dv sq HV.out HO.out (by omega) nZ.out.2.2 oP.out.2.2 (by omega) (by omega) (fun i hi => by have := dG (eT HC.out hi); omega)).mono ?_
  rintro e w1 qS; obtain ⟨va, nv, vc, oa, no, oc, rfl, hb, jN⟩ := qS.toY HC.out V4.out; have aT := aPu (HT.out.next hb); have O3 := aPu jN; clear q0 q1 k0 k1 k2 k3 k4 HT hb jN qS; obtain ⟨r0, r1⟩ := pair_cells aT.out.res; obtain ⟨f0, f1⟩ := aC aT.out.res; obtain ⟨bM, iU⟩ := aT.out.outX (w1 := w0) (va := va) (nv := nv) (vc := vc) (oa := oa) (no := no) (oc := oc) (code := RC) (zs := RZ) (m := RM) (by omega) O3.out
  go_wp2
  generalize (w1.setCell ⟨w.heap.size + 1 + 1, 0, none⟩ (.slice va nv vc)).setCell ⟨w.heap.size + 1 + 1, 1, none⟩ (.slice oa no oc) = wf at bM iU ⊢; obtain ⟨p0, p1⟩ := pair_cells bM.out; exact bodyPost_ret (v := .tuple #[.agg #[.slice va nv vc, .slice oa no oc], .int .i64 (RC)]) (by simp [results, Tryz.results46, go_sem, p0, p1]) rfl iU.out
 have e9 : (kind == 9) = false := by rw [beq_eq_false_iff_ne]; exact h9
 have gK : Hid ((if (oneOf (aO item l l.length) (decide ((bA gR item l l.length).kind = 4)) kind item qty).2 = 0 then (if (aN xs l d (oneOf (aO item l l.length) (decide ((bA gR item l l.length).kind = 4)) kind item qty).1).ok = true then ((0 : Int), dF xs d, bN l d (aN xs l d (oneOf (aO item l l.length) (decide ((bA gR item l l.length).kind = 4)) kind item qty).1)) else (4, [], [])) else ((oneOf (aO item l l.length) (decide ((bA gR item l l.length).kind = 4)) kind item qty).2, [], [])) = (RC, RZ, RM)) := by
  have h := uJ.out; unfold jJ at h; rw [if_neg h6, if_neg h7, if_neg h8, if_neg h9] at h; exact h
 clear uJ h6 h7 h8 h9
 go_wp2_with fail
 refine (aM1 w0 B av ao 4 cv l.length co xs l kind qty dv sq item HO.out (by omega) (by omega) HC.out (by have := xK HC.out item l.length aPw; omega)).mono ?_
 have aIg := aAl (aO item l l.length) (decide ((bA gR item l l.length).kind = 4)) kind item qty
 generalize oneOf (aO item l l.length) (decide ((bA gR item l l.length).kind = 4)) kind item qty = oc at aIg gK ⊢
 obtain ⟨op, code⟩ := oc
 have hi8 : op.item.size ≤ 8 := by
  rcases aIg with e | e
  ·have e : op.item = item := e
   rw [e]; exact hi
  ·have e : op.item = ⟨#[]⟩ := e
   rw [e]; exact Nat.zero_le _
 rintro e w1 ⟨rfl, aE⟩
 have aT := aPu (HT.out.next aE)
 have iA := aPu (HV.out.below aE (by omega))
 have cI := aPu (HO.out.below aE (by omega))
 have dZ := aE.size
 clear aE HT HV HO q0 q1 k0 k1 k2 k3 k4 e6 e7 e8 e9 aIg
 go_upto_region 11 with fail
 have aG : Below w1.heap.size w1 (w1.alloc (.cells #[.int .i64 op.dev, .int .i64 op.seq, .int .i64 op.stamp, .int .i64 op.kind, .string op.item, .int .i64 op.qty, .int .i64 op.level, .int .i64 op.undos] 50)) := (Below.refl _ w1).alloc aPw _
 have vT : Hid ((w1.alloc (.cells #[.int .i64 op.dev, .int .i64 op.seq, .int .i64 op.stamp, .int .i64 op.kind, .string op.item, .int .i64 op.qty, .int .i64 op.level, .int .i64 op.undos] 50)).heap[w1.heap.size]? = some (.cells #[.int .i64 op.dev, .int .i64 op.seq, .int .i64 op.stamp, .int .i64 op.kind, .string op.item, .int .i64 op.qty, .int .i64 op.level, .int .i64 op.undos] 50 (0, 0))) := bE (Below.refl _ _)
 generalize w1.alloc (.cells #[.int .i64 op.dev, .int .i64 op.seq, .int .i64 op.stamp, .int .i64 op.kind, .string op.item, .int .i64 op.qty, .int .i64 op.level, .int .i64 op.undos] 50) = w2 at aG vT ⊢
 have aJ := aPu (aT.out.next aG)
 have jW := aPu (iA.out.below aG (by omega))
 have fZ := aPu (cI.out.below aG (by omega))
 have dS := aG.size
 clear aG aT iA cI
 by_cases wR : code = 0
 rotate_left
 ·have en : (code != 0) = true := by simpa using wR
  have h3 := gK.out
  try dsimp only at h3
  rw [if_neg wR] at h3; injection h3 with e1 h4; injection h4 with e2 e3; subst e1 e2 e3; have HN0 := aPu wR; clear wR; obtain ⟨r0, r1⟩ := pair_cells aJ.out.res; obtain ⟨f0, f1⟩ := aC aJ.out.res; obtain ⟨bM, iU⟩ := aJ.out.outX (w1 := w2) (va := none) (nv := 0) (vc := 0) (oa := none) (no := 0) (oc := 0) (code := code) (zs := []) (m := []) (by omega) (fun h => absurd h HN0.out)
  go_wp2
  generalize (w2.setCell ⟨w.heap.size + 1 + 1, 0, none⟩ (.slice none 0 0)).setCell ⟨w.heap.size + 1 + 1, 1, none⟩ (.slice none 0 0) = wf at bM iU ⊢; obtain ⟨p0, p1⟩ := pair_cells bM.out; exact bodyPost_ret (v := .tuple #[.agg #[.slice none 0 0, .slice none 0 0], .int .i64 (code)]) (by simp [results, Tryz.results46, go_sem, p0, p1]) rfl iU.out
 subst wR
 have tX := HBn.out
 obtain ⟨okk, iN, m', aC1, vZ⟩ := aGu xs l d 160 (by omega) op tX hd (by omega)
 have lV := aPu aC1
 have rR := aPu vZ
 clear vZ aC1 tX
 obtain ⟨q0, q1⟩ := pair_cells aJ.out.fst
 obtain ⟨d0, d1, d2, d3, d4, d5, d6, d7⟩ := aM vT.out
 go_wp2_with fail
 refine (rR.out.2 w2 B av ao cv co jW.out fZ.out (by omega) nZ.out oP.out).mono ?_
 rintro e w3 ⟨va, vc, oa, oc, rfl, kB, dX, aR, c1, c2⟩
 have bD := aPu (aJ.out.next aR)
 have HA := aPu kB
 have HD := aPu dX
 have C2 := aPu c1
 have HC2 := aPu c2
 have hU := aR.size
 clear kB dX aR c1 c2 aJ q0 q1 d0 d1 d2 d3 d4 d5 d6 d7 vT jW fZ
 go_upto_region 14 with fail
 have cW : Below w3.heap.size w3 (w3.alloc (.cells #[.slice va iN.length vc, .slice oa m'.length oc] 27)) := (Below.refl _ w3).alloc aPw _
 have vW : Hid ((w3.alloc (.cells #[.slice va iN.length vc, .slice oa m'.length oc] 27)).heap[w3.heap.size]? = some (.cells #[.slice va iN.length vc, .slice oa m'.length oc] 27 (0, 0))) := bE (Below.refl _ _)
 generalize w3.alloc (.cells #[.slice va iN.length vc, .slice oa m'.length oc] 27) = w4 at cW vW ⊢
 have fJ := aPu (bD.out.next cW)
 have HA4 := aPu (HA.out.below cW aPw)
 have rD := aPu (HD.out.below cW aPw)
 have F0 := cW.size
 clear cW bD HA HD
 have h3 := gK.out
 try dsimp only at h3
 (first | rw [if_pos rfl] at h3 | rw [if_pos trivial] at h3)
 rw [← lV.out] at h3
 cases okk
 ·rw [if_neg (by decide)] at h3
  injection h3 with e1 h4; injection h4 with e2 e3; subst e1 e2 e3; obtain ⟨r0, r1⟩ := pair_cells fJ.out.res; obtain ⟨f0, f1⟩ := aC fJ.out.res; obtain ⟨bM, iU⟩ := fJ.out.outX (w1 := w4) (va := none) (nv := 0) (vc := 0) (oa := none) (no := 0) (oc := 0) (code := 4) (zs := []) (m := []) (by omega) (fun h => absurd h (by omega))
  go_wp2
  generalize (w4.setCell ⟨w.heap.size + 1 + 1, 0, none⟩ (.slice none 0 0)).setCell ⟨w.heap.size + 1 + 1, 1, none⟩ (.slice none 0 0) = wf at bM iU ⊢; obtain ⟨p0, p1⟩ := pair_cells bM.out; exact bodyPost_ret (v := .tuple #[.agg #[.slice none 0 0, .slice none 0 0], .int .i64 (4)]) (by simp [results, Tryz.results46, go_sem, p0, p1]) rfl iU.out
 obtain ⟨yT, R5, S8⟩ := rR.out.1 rfl
 rw [if_pos rfl, ← R5, ← S8] at h3
 injection h3 with e1 h4
 injection h4 with e2 e3
 subst e1 e2 e3
 clear R5 S8
 have C2 := C2
 have HA4 := HA4
 rw [yT.len] at vW HA4 C2 ⊢
 have O3 : Hid ((0 : Int) = 0 → rE w4 w2.heap.size w4.heap.size va 4 vc oa m'.length oc iN m') := fun _ => ⟨yT.len.symm, rfl, HA4.out.more aPw F0, rD.out.more aPw F0, C2.out, HC2.out⟩
 clear yT
 obtain ⟨n0, n1⟩ := pair_cells vW.out
 obtain ⟨r0, r1⟩ := pair_cells fJ.out.res
 obtain ⟨f0, f1⟩ := aC fJ.out.res
 obtain ⟨bM, iU⟩ := fJ.out.outX (w1 := w2) (va := va) (nv := 4) (vc := vc) (oa := oa) (no := m'.length) (oc := oc) (code := 0) (zs := iN) (m := m') (by omega) O3.out
 go_wp2
 generalize (w4.setCell ⟨w.heap.size + 1 + 1, 0, none⟩ (.slice va 4 vc)).setCell ⟨w.heap.size + 1 + 1, 1, none⟩ (.slice oa m'.length oc) = wf at bM iU ⊢
 obtain ⟨p0, p1⟩ := pair_cells bM.out
 exact bodyPost_ret (v := .tuple #[.agg #[.slice va 4 vc, .slice oa m'.length oc], .int .i64 (0)]) (by simp [results, Tryz.results46, go_sem, p0, p1]) rfl iU.out
theorem aIA {kind : Int} {item : ByteArray} {qty dv sq : Int} (h : fW kind item qty dv sq = true) : item.size ≤ 8 := by
 unfold fW at h
 have hb : gO item = true → item.size ≤ 8 := fun h => by
  unfold gO at h; simp only [Bool.and_eq_true, decide_eq_true_eq] at h
  omega
 have he : item = ⟨#[]⟩ → item.size ≤ 8 := fun h => by rw [h]; exact Nat.zero_le _
 split at h
 ·rw [Bool.and_eq_true] at h; exact hb h.1
 ·split at h
  ·rw [Bool.and_eq_true] at h; exact hb h.1
  ·split at h
   ·exact he (of_decide_eq_true h).1
   ·split at h
    ·rw [Bool.and_eq_true] at h; exact he (of_decide_eq_true h.1).1
    ·cases h
set_option maxHeartbeats 40000000 in
theorem aAe (w : World) (B : Nat) (av ao : Option Addr) (cv no co : Nat) (xs : List Int) (l : List aA) (kind qty dv sq : Int) (item : ByteArray) (hx : Ints w B av 4 xs) (h : bK w B ao no l) (hB : B ≤ w.heap.size) (bX : bQ av 4 cv) (cD : bQ ao no co) (hi : item.size ≤ 1048576) (dev : Int) (hm : ∀ i, i < no → (aB l i).item.size ≤ 1048576) (hn : no ≤ 1048576) {RC : Int} {RZ : List Int} {RM : List aA} (hR : cH xs l dev kind item qty dv sq = (RC, RZ, RM)) :
  Calls Tryz.prog 18 #[.agg #[.slice av 4 cv, .slice ao no co], .int .i64 dev, .agg #[.int .i64 kind, .string item, .int .i64 qty, .int .i64 dv, .int .i64 sq]] w (uT RC RZ RM w) := by
 have uJ := aPu hR
 clear hR
 obtain rfl := h.1
 have hT := rP.mk0 w #[.slice av 4 cv, .slice ao l.length co] #[.int .i64 kind, .string item, .int .i64 qty, .int .i64 dv, .int .i64 sq] #[.slice none 0 0, .slice none 0 0]
 have HV := aPu (hx.below hT.bel hB)
 have HO := aPu (h.below hT.bel hB)
 have HT := aPu hT
 have nZ := aPu bX
 have oP := aPu cD
 have HM := aPu hm
 clear hm
 clear hx h hT bX cD
 go_enter Tryz.func18, Tryz.ntmps18
 go_upto_region 1 with fail
 generalize ((w.alloc (.cells #[.slice av 4 cv, .slice ao l.length co] 27)).alloc (.cells #[.int .i64 kind, .string item, .int .i64 qty, .int .i64 dv, .int .i64 sq] 29)).alloc (.cells #[.slice none 0 0, .slice none 0 0] 27) = w0 at HV HO HT ⊢
 have lQ := HT.out.lt
 obtain ⟨q0, q1⟩ := pair_cells HT.out.fst
 obtain ⟨k0, k1, k2, k3, k4⟩ := Y1 HT.out.snd
 have finish : ∀ (w1 : World), rP w w1 #[.slice av 4 cv, .slice ao l.length co] #[.int .i64 kind, .string item, .int .i64 qty, .int .i64 dv, .int .i64 sq] #[.slice none 0 0, .slice none 0 0] → True := fun _ _ => trivial
 clear finish
 obtain ⟨cb, hcb⟩ : ∃ b, aD xs l = b := ⟨_, rfl⟩
 have vY := aPu hcb
 clear hcb
 go_wp2_with fail
 refine (sR w0 B av ao 4 cv l.length co xs l HV.out HO.out (by omega) (by omega) hn HM.out).mono ?_
 rw [vY.out]
 rintro e w1 ⟨rfl, aE⟩
 have aT := aPu (HT.out.next aE)
 have iA := aPu (HV.out.below aE (by omega))
 have cI := aPu (HO.out.below aE (by omega))
 have dZ := aE.size
 clear aE HT HV HO q0 q1 k0 k1 k2 k3 k4
 cases cb
 ·have h3 := uJ.out
  unfold cH at h3; rw [if_neg (by rintro ⟨a1, a2, a3⟩; first | exact Bool.false_ne_true (vY.out.symm.trans a1) | exact Bool.false_ne_true (HDb.out.symm.trans a2) | exact Bool.false_ne_true (W4.out.symm.trans a3))] at h3
  injection h3 with e1 h4; injection h4 with e2 e3; subst e1 e2 e3; obtain ⟨r0, r1⟩ := pair_cells aT.out.res; obtain ⟨f0, f1⟩ := aC aT.out.res; obtain ⟨bM, iU⟩ := aT.out.outN (w1 := w1) (va := none) (nv := 0) (vc := 0) (oa := none) (no := 0) (oc := 0) (code := 1) (zs := []) (m := []) (by omega) (rE.nil _ _ _)
  go_wp2
  generalize (w1.setCell ⟨w.heap.size + 1 + 1, 0, none⟩ (.slice none 0 0)).setCell ⟨w.heap.size + 1 + 1, 1, none⟩ (.slice none 0 0) = wf at bM iU ⊢; obtain ⟨p0, p1⟩ := pair_cells bM.out; exact bodyPost_ret (v := .tuple #[.agg #[.slice none 0 0, .slice none 0 0], .int .i64 (1)]) (by simp [results, Tryz.results18, go_sem, p0, p1]) rfl iU.out
 go_wp2_with fail
 refine (fR dev w1).mono ?_
 rintro e w2 ⟨rfl, rfl⟩
 obtain ⟨db, hdb⟩ : ∃ b, cO dev 0 3 = b := ⟨_, rfl⟩
 have HDb := aPu hdb
 rw [hdb]
 clear hdb
 cases db
 ·have h3 := uJ.out
  unfold cH at h3; rw [if_neg (by rintro ⟨a1, a2, a3⟩; first | exact Bool.false_ne_true (vY.out.symm.trans a1) | exact Bool.false_ne_true (HDb.out.symm.trans a2) | exact Bool.false_ne_true (W4.out.symm.trans a3))] at h3
  injection h3 with e1 h4; injection h4 with e2 e3; subst e1 e2 e3; obtain ⟨r0, r1⟩ := pair_cells aT.out.res; obtain ⟨f0, f1⟩ := aC aT.out.res; obtain ⟨bM, iU⟩ := aT.out.outN (w1 := w1) (va := none) (nv := 0) (vc := 0) (oa := none) (no := 0) (oc := 0) (code := 1) (zs := []) (m := []) (by omega) (rE.nil _ _ _)
  go_wp2
  generalize (w1.setCell ⟨w.heap.size + 1 + 1, 0, none⟩ (.slice none 0 0)).setCell ⟨w.heap.size + 1 + 1, 1, none⟩ (.slice none 0 0) = wf at bM iU ⊢; obtain ⟨p0, p1⟩ := pair_cells bM.out; exact bodyPost_ret (v := .tuple #[.agg #[.slice none 0 0, .slice none 0 0], .int .i64 (1)]) (by simp [results, Tryz.results18, go_sem, p0, p1]) rfl iU.out
 obtain ⟨k0, k1, k2, k3, k4⟩ := Y1 aT.out.snd
 go_wp2_with fail
 refine (aJI kind item qty dv sq (by omega) w1).mono ?_
 obtain ⟨kb, F1⟩ : ∃ b, fW kind item qty dv sq = b := ⟨_, rfl⟩
 have W4 := aPu F1
 rw [F1]
 clear F1
 rintro e w2 ⟨rfl, aG⟩
 have aJ := aPu (aT.out.next aG)
 have jW := aPu (iA.out.below aG (by omega))
 have fZ := aPu (cI.out.below aG (by omega))
 have dS := aG.size
 clear aG aT iA cI k0 k1 k2 k3 k4
 cases kb
 ·have h3 := uJ.out
  unfold cH at h3; rw [if_neg (by rintro ⟨a1, a2, a3⟩; first | exact Bool.false_ne_true (vY.out.symm.trans a1) | exact Bool.false_ne_true (HDb.out.symm.trans a2) | exact Bool.false_ne_true (W4.out.symm.trans a3))] at h3
  injection h3 with e1 h4; injection h4 with e2 e3; subst e1 e2 e3; obtain ⟨r0, r1⟩ := pair_cells aJ.out.res; obtain ⟨f0, f1⟩ := aC aJ.out.res; obtain ⟨bM, iU⟩ := aJ.out.outN (w1 := w2) (va := none) (nv := 0) (vc := 0) (oa := none) (no := 0) (oc := 0) (code := 1) (zs := []) (m := []) (by omega) (rE.nil _ _ _)
  go_wp2
  generalize (w2.setCell ⟨w.heap.size + 1 + 1, 0, none⟩ (.slice none 0 0)).setCell ⟨w.heap.size + 1 + 1, 1, none⟩ (.slice none 0 0) = wf at bM iU ⊢; obtain ⟨p0, p1⟩ := pair_cells bM.out; exact bodyPost_ret (v := .tuple #[.agg #[.slice none 0 0, .slice none 0 0], .int .i64 (1)]) (by simp [results, Tryz.results18, go_sem, p0, p1]) rfl iU.out
 have hi := aIA W4.out
 obtain ⟨d, rfl, hd⟩ : ∃ d : Nat, dev = (d : Int) ∧ d < 4 := by
  have := HDb.out; rw [eR] at this; exact ⟨dev.toNat, by omega, by omega⟩
 have hl := eL vY.out
 obtain ⟨LC, LZ, LM, hL6⟩ : ∃ c z m, jJ xs l d kind item qty dv sq = (c, z, m) := ⟨_, _, _, rfl⟩
 have kP : Hid ((if LC = 0 then (LC, LZ, LM) else (LC, xs, l)) = (RC, RZ, RM)) := by
  have h := uJ.out; unfold cH at h; rw [if_pos ⟨vY.out, HDb.out, W4.out⟩, Int.toNat_natCast, hL6] at h; exact h
 have HL6 := aPu hL6
 clear hL6 uJ
 obtain ⟨q0, q1⟩ := pair_cells aJ.out.fst
 obtain ⟨k0, k1, k2, k3, k4⟩ := Y1 aJ.out.snd
 go_wp2_with fail
 refine (aHQ w2 B av ao cv l.length co d xs l kind qty dv sq item jW.out fZ.out (by omega) nZ.out oP.out hi hd vY.out HL6.out).mono ?_
 rintro e w3 ⟨va, nv, vc, oa, no, oc, rfl, aR, jN⟩
 have bD := aPu (aJ.out.next aR)
 have N7 := aPu (jW.out.below aR (by omega))
 have pS := aPu (fZ.out.below aR (by omega))
 have O3 := aPu jN
 have hU := aR.size
 clear aR aJ jW fZ jN q0 q1 k0 k1 k2 k3 k4
 go_upto_region 4 with fail
 have cW : Below w3.heap.size w3 (w3.alloc (.cells #[.slice va nv vc, .slice oa no oc] 27)) := (Below.refl _ w3).alloc aPw _
 have vW : Hid ((w3.alloc (.cells #[.slice va nv vc, .slice oa no oc] 27)).heap[w3.heap.size]? = some (.cells #[.slice va nv vc, .slice oa no oc] 27 (0, 0))) := bE (Below.refl _ _)
 generalize w3.alloc (.cells #[.slice va nv vc, .slice oa no oc] 27) = w4 at cW vW ⊢
 have fJ := aPu (bD.out.next cW)
 have qA := aPu (N7.out.below cW (by omega))
 have nV := aPu (pS.out.below cW (by omega))
 have aOt : Hid (LC = 0 → rE w4 w2.heap.size w4.heap.size va nv vc oa no oc LZ LM) := fun h0 => ((O3.out h0).below cW aPw).more aPw cW.size
 have F0 := cW.size
 clear cW bD N7 pS O3
 by_cases wR : LC = 0
 rotate_left
 ·have en : (LC != 0) = true := by simpa using wR
  have h3 := kP.out; rw [if_neg wR] at h3; injection h3 with e1 h4; injection h4 with e2 e3; subst e1 e2 e3; have HN0 := aPu wR; clear wR; obtain ⟨q0, q1⟩ := pair_cells fJ.out.fst
  go_wp2_with fail
  refine (aCK w4 B av ao 4 cv l.length co xs l qA.out nV.out (by omega) nZ.out.2.2 oP.out.2.2 (by omega) (by omega)).mono ?_
  rintro e w5 ⟨ra, rc, sa, sc, rfl, ho1, ho2, aU, A3, wN⟩; have aOs : Hid (rE w5 w4.heap.size w5.heap.size ra xs.length rc sa l.length sc xs l) := ⟨rfl, rfl, ho1, ho2, A3, wN⟩; clear ho1 ho2 A3 wN; have uI := aPu (fJ.out.next aU); have hs5 := aU.size; clear aU fJ qA nV q0 q1; obtain ⟨r0, r1⟩ := pair_cells uI.out.res; obtain ⟨f0, f1⟩ := aC uI.out.res; obtain ⟨bM, iU⟩ := uI.out.outN (w1 := w4) (va := ra) (nv := xs.length) (vc := rc) (oa := sa) (no := l.length) (oc := sc) (code := LC) (zs := xs) (m := l) (by omega) aOs.out
  go_wp2
  generalize (w5.setCell ⟨w.heap.size + 1 + 1, 0, none⟩ (.slice ra xs.length rc)).setCell ⟨w.heap.size + 1 + 1, 1, none⟩ (.slice sa l.length sc) = wf at bM iU ⊢; obtain ⟨p0, p1⟩ := pair_cells bM.out; exact bodyPost_ret (v := .tuple #[.agg #[.slice ra xs.length rc, .slice sa l.length sc], .int .i64 (LC)]) (by simp [results, Tryz.results18, go_sem, p0, p1]) rfl iU.out
 subst wR
 have h3 := kP.out
 rw [if_pos rfl] at h3
 injection h3 with e1 h4
 injection h4 with e2 e3
 subst e1 e2 e3
 obtain ⟨n0, n1⟩ := pair_cells vW.out
 obtain ⟨r0, r1⟩ := pair_cells fJ.out.res
 obtain ⟨f0, f1⟩ := aC fJ.out.res
 obtain ⟨bM, iU⟩ := fJ.out.outN (w1 := w2) (va := va) (nv := nv) (vc := vc) (oa := oa) (no := no) (oc := oc) (code := 0) (zs := LZ) (m := LM) (by omega) (aOt.out rfl)
 go_wp2
 generalize (w4.setCell ⟨w.heap.size + 1 + 1, 0, none⟩ (.slice va nv vc)).setCell ⟨w.heap.size + 1 + 1, 1, none⟩ (.slice oa no oc) = wf at bM iU ⊢
 obtain ⟨p0, p1⟩ := pair_cells bM.out
 exact bodyPost_ret (v := .tuple #[.agg #[.slice va nv vc, .slice oa no oc], .int .i64 (0)]) (by simp [results, Tryz.results18, go_sem, p0, p1]) rfl iU.out
end Go.Proofs.YthkagbnpcjidfaaGreatDoor
