/- Walks and mathematics that several claims share, part 24. -/
import Derived.Test.YthkagbnpcjidfaaGreatDoorGy16
import Derived.Test.YthkagbnpcjidfaaGreatDoorGy21
import Derived.Test.YthkagbnpcjidfaaGreatDoorGy23
import Derived.Test.YthkagbnpcjidfaaGreatDoorGy17
import Derived.Test.YthkagbnpcjidfaaGreatDoorGy18
import Derived.Deep.Cut
import Derived.Test.YthkagbnpcjidfaaGreatDoorGyA
namespace Go.Proofs.YthkagbnpcjidfaaGreatDoor
set_option maxHeartbeats 40000000
set_option maxRecDepth 100000
open Go.RowKit
set_option linter.unusedVariables false
set_option linter.unusedSimpArgs false
set_option linter.unusedVariables false
set_option linter.unusedSimpArgs false

theorem aJ8 {xs : List Int} {l : List aA} {d k : Nat} {L : List ByteArray} {s : ByteArray} (hs : s = L.getD k ⟨#[]⟩) (h : bG l s = true) : jF xs l d L (k + 1) = jF xs l d L k := by
 show (jF xs l d L k).bind (fU l d (L.getD k ⟨#[]⟩)) = _
 rw [← hs]
 cases jF xs l d L k with
 | none => rfl
 | some q => show fU l d s q = _; unfold fU; rw [if_pos h]
theorem aBc {xs : List Int} {l : List aA} {d k : Nat} {L : List ByteArray} {s : ByteArray} {zs : List Int} {m : List aA} (hs : s = L.getD k ⟨#[]⟩) (h : bG l s = false) (gC : ∃ c, jF xs l d L k = some (zs, m, c)) (hok : false = (aJ zs m d (mL l s)).ok) (hk : k < L.length) : jF xs l d L L.length = none := by
 obtain ⟨c, gC⟩ := gC
 have e : jF xs l d L (k + 1) = none := by
  show (jF xs l d L k).bind (fU l d (L.getD k ⟨#[]⟩)) = _
  rw [← hs, gC]
  show fU l d s (zs, m, c) = _
  unfold fU; rw [if_neg (by rw [h]; decide)]
  dsimp only
  rw [if_neg (by rw [← hok]; decide)]
 have := aBN e (L.length - (k + 1))
 rwa [Nat.add_sub_cancel' (by omega : k + 1 ≤ L.length)] at this
theorem aCD {xs : List Int} {l : List aA} {d k : Nat} {L : List ByteArray} {s : ByteArray} {zs jS : List Int} {m m' : List aA} (hs : s = L.getD k ⟨#[]⟩) (h : bG l s = false) (gC : ∃ c, jF xs l d L k = some (zs, m, c)) (hok : true = (aJ zs m d (mL l s)).ok) (hz : jS = dU zs d) (hm : m' = bO m d (aJ zs m d (mL l s))) : jF xs l d L (k + 1) = some (jS, m', 0) := by
 obtain ⟨c, gC⟩ := gC
 show (jF xs l d L k).bind (fU l d (L.getD k ⟨#[]⟩)) = _
 rw [← hs, gC]
 show fU l d s (zs, m, c) = _
 unfold fU
 rw [if_neg (by rw [h]; decide)]
 dsimp only
 rw [if_pos hok.symm, ← hz, ← hm]
/-- What the loop of l6Clear keeps: block nb holds the cart of now; when the code is 0 it is the call's own. -/
structure C8 (w w1 wr : World) (nb : Nat) (code : Value) (k : Nat) (st : Option (List Int × List aA × Int)) : Prop where
 bel : Below w.heap.size w wr
 size : w1.heap.size ≤ wr.heap.size
 kept : ∀ j, j < w1.heap.size → j ≠ nb → wr.heap[j]? = w1.heap[j]?
 now : ∃ zs m va vc oa oc, wr.heap[nb]? = some (.cells #[.slice va 4 vc, .slice oa m.length oc] 27 (0, 0)) ∧ Ints wr wr.heap.size va 4 zs ∧ bS wr wr.heap.size oa m.length m ∧ bP va 4 vc ∧ bP oa m.length oc ∧ vW zs m (160 + k) ∧ ((code = .int .i64 2 ∧ st = some (zs, m, 2)) ∨ (code = .int .i64 0 ∧ st = some (zs, m, 0) ∧ Own wr (nb + 1) wr.heap.size va 4 zs ∧ bF wr (nb + 1) wr.heap.size oa m.length m))
theorem C8.step {w w1 wr w2 : World} {nb : Nat} {code : Value} {k : Nat} {st : Option (List Int × List aA × Int)} (h : C8 w w1 wr nb code k st) (hw : nb < w1.heap.size) (hb : Below wr.heap.size wr w2) : C8 w w1 w2 nb code k st := by
 have hs := h.size
 have eV := hb.size
 have iG := h.bel.size
 obtain ⟨zs, m, va, vc, oa, oc, e, hi, ho, c1, c2, hB, hc⟩ := h.now
 refine ⟨h.bel.trans (hb.mono iG), by omega, fun j h1 h2 => (hb.block j (by omega)).trans (h.kept j h1 h2), zs, m, va, vc, oa, oc, (hb.block _ (by omega)).trans e, (hi.below hb aRC).more eV, (ho.below hb aRC).more eV, c1, c2, hB, ?_⟩
 rcases hc with hc | ⟨hc, gC, h1, h2⟩
 ·exact .inl hc
 ·exact .inr ⟨hc, gC, (h1.below hb aRC).more aRC eV, (h2.below hb aRC).more aRC eV⟩
theorem C8.more {w w1 wr : World} {nb : Nat} {code : Value} {k k' : Nat} {st st' : Option (List Int × List aA × Int)} (h : C8 w w1 wr nb code k st) (hk : k ≤ k') (hs : st' = st) : C8 w w1 wr nb code k' st' := by
 subst hs
 obtain ⟨zs, m, va, vc, oa, oc, e, hi, ho, c1, c2, hB, hc⟩ := h.now
 exact ⟨h.bel, h.size, h.kept, zs, m, va, vc, oa, oc, e, hi, ho, c1, c2, hB.more (by omega), hc⟩
theorem C8.put {w w1 wr : World} {nb : Nat} {code : Value} {k k' : Nat} {st st' : Option (List Int × List aA × Int)} (h : C8 w w1 wr nb code k st) (hw : w.heap.size ≤ nb) {zs : List Int} {m : List aA} {va oa : Option Addr} {vc oc lo hi : Nat} (h1 : Own wr lo hi va 4 zs) (h2 : bF wr lo hi oa m.length m) (jV : nb + 1 ≤ lo) (hhi : hi ≤ wr.heap.size) (c1 : bP va 4 vc) (c2 : bP oa m.length oc) (hB : vW zs m (160 + k')) (gC : st' = some (zs, m, 0)) :
  C8 w w1 ((wr.setCell ⟨nb, 0, none⟩ (.slice va 4 vc)).setCell ⟨nb, 1, none⟩ (.slice oa m.length oc)) nb (.int .i64 0) k' st' := by
 have hs := h.size
 obtain ⟨jS, m', va', M6, I2, N0, e, _⟩ := h.now
 have hz := bA wr nb (.slice va 4 vc) (.slice oa m.length oc)
 have g1 : Own ((wr.setCell ⟨nb, 0, none⟩ (.slice va 4 vc)).setCell ⟨nb, 1, none⟩ (.slice oa m.length oc)) lo hi va 4 zs := h1.kept fun j a1 a2 => aF _ _ (by omega)
 have g2 : bF ((wr.setCell ⟨nb, 0, none⟩ (.slice va 4 vc)).setCell ⟨nb, 1, none⟩ (.slice oa m.length oc)) lo hi oa m.length m := h2.kept fun j a1 a2 => aF _ _ (by omega)
 refine ⟨(h.bel.setCell (p := ⟨nb, 0, none⟩) hw _).setCell (p := ⟨nb, 1, none⟩) hw _, by rw [hz]; exact hs, fun j a1 a2 => (aF _ _ a2).trans (h.kept j a1 a2), zs, m, va, vc, oa, oc, cK _ _ e, ?_, ?_, c1, c2, hB, .inr ⟨rfl, gC, ?_, ?_⟩⟩
 ·rw [hz]; exact g1.ints.more hhi
 ·rw [hz]; exact g2.ops.more hhi
 ·rw [hz]; exact g1.more jV hhi
 ·rw [hz]; exact g2.more jV hhi

theorem aIb (zs : List Int) (m : List aA) (d N : Nat) (hN : N ≤ 99999) (o : aA) (hB : vW zs m N) (hd : d < 4) (hi : o.item.size ≤ 1048576) :
  ∃ (ok : Bool) (jS : List Int) (m' : List aA), ok = (aJ zs m d o).ok ∧ (ok = true → vW jS m' (N + 1) ∧ jS = dU zs d ∧ m' = bO m d (aJ zs m d o)) ∧ ∀ (w : World) (B : Nat) (av ao : Option Addr) (cv co : Nat), Ints w B av 4 zs → bS w B ao m.length m → B ≤ w.heap.size → bP av 4 cv → bP ao m.length co →
   Calls Tryz.prog 90 #[.agg #[.slice av 4 cv, .slice ao m.length co], .int .i64 (d : Int), .agg #[.int .i64 o.dev, .int .i64 o.seq, .int .i64 o.stamp, .int .i64 o.kind, .string o.item, .int .i64 o.qty, .int .i64 o.level, .int .i64 o.undos]] w (aKm ok jS m' w) := by
 have hm := hB.most
 cases hok : (aJ zs m d o).ok
 ·exact ⟨false, [], [], rfl, (fun h => by cases h), fun w B av ao cv co h1 h2 h3 h4 h5 => aL2 w B av ao cv m.length co d zs m o h1 h2 h3 h4.2.2 h5 hd (by omega) (hB.num d hd) hB.stamp hi hok⟩
 ·exact ⟨true, _, _, rfl, fun _ => ⟨hB.put hd hok, rfl, rfl⟩, fun w B av ao cv co h1 h2 h3 h4 h5 => aJp w B av ao cv m.length co d zs m o h1 h2 h3 h4.2.2 h5 hd (by omega) (hB.num d hd) hB.stamp hi hok⟩
theorem aIc (w : World) (B : Nat) (av ao : Option Addr) (cv no co d : Nat) (xs : List Int) (l : List aA) (hx : Ints w B av 4 xs) (h : bS w B ao no l) (hB : B ≤ w.heap.size) (bI : bP av 4 cv) (bM : bP ao no co) (hd : d < 4) (hc : aE xs l = true) (R : Int × List Int × List aA) (hR : sS xs l d = R) :
  Calls Tryz.prog 85 #[.agg #[.slice av 4 cv, .slice ao no co], .int .i64 (d : Int)] w (aGQ R w) := by
 obtain rfl := h.1
 have hT := xB.mk0 w #[.slice av 4 cv, .slice ao l.length co] #[.slice none 0 0, .slice none 0 0] 27
 have hTs : ((w.alloc (.cells #[.slice av 4 cv, .slice ao l.length co] 27)).alloc (.cells #[.slice none 0 0, .slice none 0 0] 27)).heap.size = w.heap.size + 2 := by simp
 have HV := aRA (hx.below hT.bel hB)
 have HO := aRA (h.below hT.bel hB)
 have HT := aRA hT
 have HTs := aRA hTs
 have yK := aRA h
 have HC := aRA hc
 have kS := aRA bI
 have rO := aRA bM
 have HBn := aRA (vW.of_cart hc)
 have hl := eU hc
 clear hx h hT hTs hc bI bM
 go_enter Tryz.func85, Tryz.ntmps85
 go_upto_region 1 with fail
 generalize (w.alloc (.cells #[.slice av 4 cv, .slice ao l.length co] 27)).alloc (.cells #[.slice none 0 0, .slice none 0 0] 27) = w0 at HV HO HT HTs ⊢
 have mF := HT.out.bel.size
 obtain ⟨q0, q1⟩ := pair_cells HT.out.fst
 go_upto_region 3 with fail
 have aI : Below w0.heap.size w0 (w0.alloc (.cells #[.slice av 4 cv, .slice ao l.length co] 27)) := (Below.refl _ w0).alloc aRC _
 have P3 : Hid ((w0.alloc (.cells #[.slice av 4 cv, .slice ao l.length co] 27)).heap[w0.heap.size]? = some (.cells #[.slice av 4 cv, .slice ao l.length co] 27 (0, 0))) := bL (Below.refl _ _)
 generalize w0.alloc (.cells #[.slice av 4 cv, .slice ao l.length co] 27) = w1 at aI P3 ⊢
 have aZ := aRA (HT.out.next aI)
 have dL := aRA (HO.out.below aI (by omega))
 have lP := aRA (HV.out.below aI (by omega))
 have yV := aB P3.out
 clear q0 q1 HT HO HV aI
 generalize hnb : w0.heap.size = nb at P3 yV ⊢
 have aQ0 : w.heap.size + 1 < nb := by have := HTs.out; omega
 clear hnb HTs
 obtain ⟨q0, q1⟩ := pair_cells aZ.out.fst
 go_wp2_with fail
 refine (aJv w1 B av ao 4 cv l.length co xs l dL.out (by omega) (by omega) HC.out).mono ?_
 rintro e w2 ⟨g, c, rfl, hso, aN⟩
 have hLi : ∀ s, s ∈ bW l l.length → ∃ i, i < l.length ∧ s = (aC l i).item := fun s hs => by
  obtain ⟨_, i, hi, e⟩ := (mW l s l.length).1 hs; exact ⟨i, hi, e.symm⟩
 have hLl : (bW l l.length).length ≤ l.length := zG l l.length
 have aJ1 := hso.strs
 have rX : Hid (match jF xs l d (bW l l.length) (bW l l.length).length with | none => R = (4, [], []) | some q => R = if q.2.2 = 0 then (0, q.1, q.2.1) else (2, [], [])) := by
  rw [← hR]
  show match jF xs l d (bW l l.length) (bW l l.length).length with | none => _ | some q => _
  unfold sS; cases jF xs l d (bW l l.length) (bW l l.length).length <;> rfl
 clear hso hR
 generalize bW l l.length = L at hLi hLl aJ1 rX ⊢
 have HI8 : Hid (∀ i, i < L.length → (L.getD i ⟨#[]⟩).size ≤ 8) := fun i hi => by
  rw [List.getD_eq_getElem?_getD, List.getElem?_eq_getElem hi]; obtain ⟨j, hj, e⟩ := hLi _ (List.getElem_mem hi)
  show (L[i]).size ≤ 8
  rw [e]; exact (dZ (fA HC.out hj)).2.2.2.2.1
 have L5 := aRA aJ1
 have aM := aRA (aZ.out.next aN)
 have oC := aRA ((aN.block _ yV).trans P3.out)
 have eV := aN.size
 have aQl := aRA (dL.out.below aN (by omega))
 have HI0 : Hid (C8 w w2 w2 nb (.int .i64 2) 0 (jF xs l d L 0)) := ⟨aM.out.bel, Nat.le_refl _, fun _ _ _ => rfl, xs, l, av, cv, ao, co, oC.out, (lP.out.below aN (by omega)).more (by omega), aQl.out.more (by omega), kS.out, rO.out, HBn.out, .inl ⟨rfl, rfl⟩⟩
 clear aJ1 hLi aN aZ dL lP P3 q0 q1
 go_wp2
 go_loopw [7, 9] (fun cc i wr => ∃ (k : Nat) (cx : Value), k ≤ L.length ∧ cx = cc ∧ i = .int .i64 (k : Int) ∧ Hid (C8 w w2 wr nb cx k (jF xs l d L k))) (fun _ i _ => L.length - (intOf i).toNat)
 case atStart => exact ⟨0, _, Nat.zero_le _, rfl, rfl, HI0.out⟩
 case round =>
  obtain ⟨k, cd, hk, yG, rfl, HI⟩ := hrel; subst yG; clear HI0; have hsr := HI.out.size; have HX := aRA ((HI.out.kept w.heap.size (by omega) (by omega)).trans aM.out.fst)
  have HR := aRA ((HI.out.kept (w.heap.size + 1) (by omega) (by omega)).trans aM.out.snd)
  by_cases aK : k < L.length
  rotate_left
  ·obtain rfl : k = L.length := by omega
   obtain ⟨zs, m, va, vc, oa, oc, e, hi, ho, c1, c2, hBn, cV⟩ := HI.out.now; have gN := rX.out; obtain ⟨n0, n1⟩ := pair_cells e; rcases cV with ⟨rfl, gC⟩ | ⟨rfl, gC, g1, g2⟩
   ·rw [gC] at gN
    have hRe : R = (2, [], []) := gN; subst hRe; clear rX gN; obtain ⟨r0, r1⟩ := pair_cells HR.out; obtain ⟨f0, f1⟩ := aD HR.out; have bV := aRA (cK (.slice va 4 vc) (.slice oa m.length oc) HR.out); have dC : Hid (Below w.heap.size w ((wr.setCell ⟨w.heap.size + 1, 0, none⟩ (.slice va 4 vc)).setCell ⟨w.heap.size + 1, 1, none⟩ (.slice oa m.length oc))) := HI.out.bel.trans ((eM wr (w.heap.size + 1) 0 1 _ _).mono (by omega))
    go_wp2
    generalize (wr.setCell ⟨w.heap.size + 1, 0, none⟩ (.slice va 4 vc)).setCell ⟨w.heap.size + 1, 1, none⟩ (.slice oa m.length oc) = wf at bV dC ⊢; obtain ⟨p0, p1⟩ := pair_cells bV.out; exact bodyPost_ret (v := .tuple #[.agg #[.slice va 4 vc, .slice oa m.length oc], .int .i64 2]) (by simp [results, Tryz.results85, go_sem, p0, p1]) rfl ⟨va, 4, vc, oa, m.length, oc, rfl, dC.out, fun h => absurd h (by decide)⟩
   ·rw [gC] at gN
    have hRe : R = (0, zs, m) := gN; subst hRe; clear rX gN; obtain ⟨r0, r1⟩ := pair_cells HR.out; obtain ⟨f0, f1⟩ := aD HR.out; have bV := aRA (cK (.slice va 4 vc) (.slice oa m.length oc) HR.out); have dC : Hid (Below w.heap.size w ((wr.setCell ⟨w.heap.size + 1, 0, none⟩ (.slice va 4 vc)).setCell ⟨w.heap.size + 1, 1, none⟩ (.slice oa m.length oc))) := HI.out.bel.trans ((eM wr (w.heap.size + 1) 0 1 _ _).mono (by omega))
    have hz6 := aRA (bA wr (w.heap.size + 1) (.slice va 4 vc) (.slice oa m.length oc)); have HC6 : Hid (4 = zs.length ∧ Own ((wr.setCell ⟨w.heap.size + 1, 0, none⟩ (.slice va 4 vc)).setCell ⟨w.heap.size + 1, 1, none⟩ (.slice oa m.length oc)) w.heap.size ((wr.setCell ⟨w.heap.size + 1, 0, none⟩ (.slice va 4 vc)).setCell ⟨w.heap.size + 1, 1, none⟩ (.slice oa m.length oc)).heap.size va 4 zs ∧ bF ((wr.setCell ⟨w.heap.size + 1, 0, none⟩ (.slice va 4 vc)).setCell ⟨w.heap.size + 1, 1, none⟩ (.slice oa m.length oc)) w.heap.size ((wr.setCell ⟨w.heap.size + 1, 0, none⟩ (.slice va 4 vc)).setCell ⟨w.heap.size + 1, 1, none⟩ (.slice oa m.length oc)).heap.size oa m.length m ∧ bP va 4 vc ∧ bP oa m.length oc) := ⟨g1.1.symm, (g1.kept fun j a1 a2 => aF _ _ (by omega)).more (by omega) (by rw [hz6.out]; exact Nat.le_refl _), (g2.kept fun j a1 a2 => aF _ _ (by omega)).more (by omega) (by rw [hz6.out]; exact Nat.le_refl _), c1, c2⟩
    go_wp2
    generalize (wr.setCell ⟨w.heap.size + 1, 0, none⟩ (.slice va 4 vc)).setCell ⟨w.heap.size + 1, 1, none⟩ (.slice oa m.length oc) = wf at bV dC HC6 ⊢; obtain ⟨p0, p1⟩ := pair_cells bV.out; exact bodyPost_ret (v := .tuple #[.agg #[.slice va 4 vc, .slice oa m.length oc], .int .i64 0]) (by simp [results, Tryz.results85, go_sem, p0, p1]) rfl ⟨va, 4, vc, oa, m.length, oc, rfl, dC.out, fun _ => ⟨HC6.out.1, rfl, HC6.out.2⟩⟩
  obtain ⟨b', iH, e, uC, pY⟩ := L5.out.2 k aK; injection e with e; injection e with e1 e2; subst e1 e2; rw [Nat.zero_add] at pY; have hi8 := HI8.out k aK; obtain ⟨s, hs⟩ : ∃ s, s = L.getD k ⟨#[]⟩ := ⟨_, rfl⟩; rw [← hs] at pY hi8; have oB := aRA hs; clear hs; have hgn : g ≠ nb := by
   intro e
   rw [e, aRD oC.out] at pY; have S1 : k < 2 := (aRB pY).1; rcases (by omega : k = 0 ∨ k = 1) with rfl | rfl
   ·simp at pY
   ·simp at pY
  have gH : Hid (∀ z, C8 w w2 z nb cd k (jF xs l d L k) → z.cell? ⟨g, k, none⟩ = some (.string s)) := fun z hz => (World.cell?_of_block (a := ⟨g, k, none⟩) (hz.kept g uC hgn)).trans pY
  have hki : (k : Int) < (L.length : Int) := by omega
  have yF : decide ((k : Int) < 0) = false := decide_eq_false (by omega)
  have aRe : ¬ ((k : Int) < 0) := by omega
  obtain ⟨u, I9⟩ : ∃ u, aG s l l.length = u := ⟨_, rfl⟩; have X9 := sI s l l.length; have hu1 := F6 HC.out s l.length aRC; rw [I9] at X9 hu1; have hwu : IntKind.i64.wrap (u + 1) = u + 1 := IntWalk.i64_in _ (by omega)
  have HU := aRA I9; clear pY I9; have hS : wr.drew.cell? ⟨w.heap.size, 0, none⟩ = some (.slice av 4 cv) ∧ wr.drew.cell? ⟨w.heap.size, 1, none⟩ = some (.slice ao l.length co) ∧ wr.drew.cell? ⟨g, k, none⟩ = some (.string s) := ⟨(pair_cells HX.out).1, (pair_cells HX.out).2, gH.out wr HI.out⟩
  go_wp2_with fail
  refine wp_region_held_drew (S := fun w' => w'.cell? ⟨w.heap.size, 0, none⟩ = some (.slice av 4 cv) ∧ w'.cell? ⟨w.heap.size, 1, none⟩ = some (.slice ao l.length co) ∧ w'.cell? ⟨g, k, none⟩ = some (.string s)) (by kernel_rfl) hS (fun aP => ?_)
  refine tj 0 ?_
  refine tj 1 ?_
  refine tj 2 ?_
  refine tj 3 ?_
  refine tj 4 ?_
  refine rk 5 rfl (fun K hK => ?_)
  go_simp
  go_at_call 116
  refine (aFO wr.drew B av ao 4 cv l.length co xs l s ((yK.out.below HI.out.bel hB).kept (w' := wr.drew) fun _ _ => rfl) (by show B ≤ wr.heap.size; omega) (by omega) HC.out).mono ?_
  rintro e z1 ⟨rfl, fY⟩; have kO : Below wr.heap.size wr z1 := Below.mk fY.os fY.tape fY.output fY.size fY.block; have eW := aRA (HI.out.step (by omega) kO)
  have aQQ := eW.out.size; have B2 := aRA ((eW.out.kept w.heap.size (by omega) (by omega)).trans aM.out.fst)
  have gN := aRA ((eW.out.kept (w.heap.size + 1) (by omega) (by omega)).trans aM.out.snd)
  have eH : z1.cell? ⟨w.heap.size, 0, none⟩ = some (.slice av 4 cv) ∧ z1.cell? ⟨w.heap.size, 1, none⟩ = some (.slice ao l.length co) ∧ z1.cell? ⟨g, k, none⟩ = some (.string s) := ⟨(pair_cells B2.out).1, (pair_cells B2.out).2, gH.out z1 eW.out⟩; have aAj : Hid (bG l s = decide ((aU iC s l l.length).kind = 4)) := rfl; generalize decide ((aU iC s l l.length).kind = 4) = sv at aAj ⊢; clear kO fY HX HR hS; refine hK.out _ _ eH (fun bZ => ?_)
  clear hK K
  (try simp only [Act.put, u1, u2, u3])
  refine wpAnyH_done (by kernel_rfl) ?_ _
  clear aP bZ HI; cases sv
  rotate_left
  ·go_wp2
   go_roundw
   case rel => exact ⟨k + 1, _, by omega, rfl, by go_num, eW.out.more (by omega) (aJ8 oB.out aAj.out)⟩
   case measure => simp [intOf]; omega
  obtain ⟨zs, m, va, vc, oa, oc, he, hi, ho, c1, c2, hBn, cV⟩ := eW.out.now; have HE := aRA he; have HVi := aRA hi; have HOi := aRA ho; have P8 := aRA c1; have HC2 := aRA c2; have HBd := aRA hBn; obtain ⟨okk, jS, m', aEw, C2⟩ := aIb zs m d (160 + k) (by omega) ⟨0, 0, 0, 3, s, 0, u + 1, 0⟩ HBd.out hd (by show s.size ≤ 1048576; omega)
  have cZ : Hid (∃ c, jF xs l d L k = some (zs, m, c)) := by
   rcases cV with ⟨_, h⟩ | ⟨_, h, _⟩
   ·exact ⟨_, h⟩
   ·exact ⟨_, h⟩
  have E2 : Hid (okk = (aJ zs m d (mL l s)).ok) := by
   unfold mL; rw [HU.out]; exact aEw
  have aKU : (okk = true → vW jS m' (160 + k + 1) ∧ jS = dU zs d ∧ m' = bO m d (aJ zs m d (mL l s))) := by
   unfold mL; rw [HU.out]; exact C2.1
  replace C2 := And.intro aKU C2.2
  clear aKU aEw
  dsimp only at C2
  have vF := aRA C2; clear he hi ho c1 c2 hBn cV C2 eH
  go_upto_region 8 with fail
  obtain ⟨y0, wP⟩ : ∃ y0, z1.drew = y0 := ⟨_, rfl⟩; have vN : Below z1.heap.size z1 y0 := by rw [← wP]; exact ⟨rfl, rfl, rfl, Nat.le_refl _, fun _ _ => rfl⟩
  have Sy0 : y0.cell? ⟨w.heap.size, 0, none⟩ = some (.slice av 4 cv) ∧ y0.cell? ⟨w.heap.size, 1, none⟩ = some (.slice ao l.length co) ∧ y0.cell? ⟨g, k, none⟩ = some (.string s) ∧ y0.cell? ⟨nb, 0, none⟩ = some (.slice va 4 vc) ∧ y0.cell? ⟨nb, 1, none⟩ = some (.slice oa m.length oc) := by
   have dS := eW.out.step (by omega) vN
   exact ⟨(pair_cells ((dS.kept w.heap.size (by omega) (by omega)).trans aM.out.fst)).1, (pair_cells ((dS.kept w.heap.size (by omega) (by omega)).trans aM.out.fst)).2, gH.out _ dS, (vN.cell (block_lt_of_cell (pair_cells HE.out).1)).trans (pair_cells HE.out).1, (vN.cell (block_lt_of_cell (pair_cells HE.out).2)).trans (pair_cells HE.out).2⟩
  refine wp_region_held_drew (S := fun w' => w'.cell? ⟨w.heap.size, 0, none⟩ = some (.slice av 4 cv) ∧ w'.cell? ⟨w.heap.size, 1, none⟩ = some (.slice ao l.length co) ∧ w'.cell? ⟨g, k, none⟩ = some (.string s) ∧ w'.cell? ⟨nb, 0, none⟩ = some (.slice va 4 vc) ∧ w'.cell? ⟨nb, 1, none⟩ = some (.slice oa m.length oc)) (by kernel_rfl) (by rw [wP]; exact Sy0) (fun aP => ?_)
  rw [wP]; clear aP wP; refine tj 0 ?_
  refine tj 1 ?_
  refine tj 2 ?_
  refine tj 3 ?_
  refine tj 4 ?_
  refine tj 5 ?_
  refine tj 6 ?_
  refine tj 7 ?_
  refine tj 8 ?_
  refine tj 9 ?_
  refine tj 10 ?_
  refine wpAnyH_ready (rs := [11, 18]) (by kernel_rfl) (by simp) ?_
  refine (AllReadyH.cons rfl (fun K hK => ?_) (AllReadyH.cons rfl (fun K hK => ?_) AllReadyH.nil))
  ·skip
   go_simp
   go_at_call 117
   refine (R6 y0 B av ao 4 cv l.length co xs l s (yK.out.below (eW.out.bel.trans (vN.mono (by omega))) hB) (by have := vN.size; omega) (by omega) HC.out).mono ?_
   rw [HU.out]; rintro e y1 ⟨rfl, fO⟩; have yC : Below z1.heap.size z1 y1 := vN.trans (fO.mono vN.size); have Sy1 : y1.cell? ⟨w.heap.size, 0, none⟩ = some (.slice av 4 cv) ∧ y1.cell? ⟨w.heap.size, 1, none⟩ = some (.slice ao l.length co) ∧ y1.cell? ⟨g, k, none⟩ = some (.string s) ∧ y1.cell? ⟨nb, 0, none⟩ = some (.slice va 4 vc) ∧ y1.cell? ⟨nb, 1, none⟩ = some (.slice oa m.length oc) := by
    have dS := eW.out.step (by omega) yC
    exact ⟨(pair_cells ((dS.kept w.heap.size (by omega) (by omega)).trans aM.out.fst)).1, (pair_cells ((dS.kept w.heap.size (by omega) (by omega)).trans aM.out.fst)).2, gH.out _ dS, (yC.cell (block_lt_of_cell (pair_cells HE.out).1)).trans (pair_cells HE.out).1, (yC.cell (block_lt_of_cell (pair_cells HE.out).2)).trans (pair_cells HE.out).2⟩
   refine hK.out _ _ Sy1 (fun sP => ?_)
   clear hK K sP fO
   (try simp only [Act.put, u1, u2, u3])
   refine tj 12 ?_
   refine tj 13 ?_
   refine wpAnyH_ready (rs := [14, 18]) (by kernel_rfl) (by simp) ?_
   refine (AllReadyH.cons rfl (fun K hK => ?_) (AllReadyH.cons rfl (fun K hK => ?_) AllReadyH.nil))
   ·skip
    go_simp
    go_at_call 90
    refine (vF.out.2 y1 y1.heap.size va oa vc oc ((HVi.out.below yC aRC).more yC.size) ((HOi.out.below yC aRC).more yC.size) aRC P8.out HC2.out).mono ?_
    rintro e y2 ⟨sE, sD, sG, sF, rfl, dH, cD, fO, d1, d2⟩; have wO : Below z1.heap.size z1 y2 := yC.trans (fO.mono yC.size); have Sy2 : y2.cell? ⟨w.heap.size, 0, none⟩ = some (.slice av 4 cv) ∧ y2.cell? ⟨w.heap.size, 1, none⟩ = some (.slice ao l.length co) ∧ y2.cell? ⟨g, k, none⟩ = some (.string s) ∧ y2.cell? ⟨nb, 0, none⟩ = some (.slice va 4 vc) ∧ y2.cell? ⟨nb, 1, none⟩ = some (.slice oa m.length oc) := by
     have dS := eW.out.step (by omega) wO
     exact ⟨(pair_cells ((dS.kept w.heap.size (by omega) (by omega)).trans aM.out.fst)).1, (pair_cells ((dS.kept w.heap.size (by omega) (by omega)).trans aM.out.fst)).2, gH.out _ dS, (wO.cell (block_lt_of_cell (pair_cells HE.out).1)).trans (pair_cells HE.out).1, (wO.cell (block_lt_of_cell (pair_cells HE.out).2)).trans (pair_cells HE.out).2⟩
    have aPx := aRA dH; have aPK := aRA cD; have sY := aRA d1; have M2 := aRA d2; have hpz := fO.size; refine hK.out _ _ Sy2 (fun lK => ?_)
    clear hK K lK fO dH cD d1 d2
    (try simp only [Act.put, u1, u2, u3])
    refine tj 15 ?_
    refine tj 16 ?_
    refine tj 17 ?_
    refine wpAnyH_ready (rs := [18]) (by kernel_rfl) (by simp) ?_
    refine (AllReadyH.cons rfl (fun K hK => ?_) AllReadyH.nil)
    have eG : Below y2.heap.size y2 (y2.alloc (.cells #[.slice none 0 0, .slice none 0 0] 27)) := bl; have kP := bL (Below.refl _ (y2.alloc (.cells #[.slice none 0 0, .slice none 0 0] 27))); have pI : y2.heap.size < (y2.alloc (.cells #[.slice none 0 0, .slice none 0 0] 27)).heap.size := by show _ < (y2.heap.push _).size; simp
    have D4 : Below z1.heap.size z1 (y2.alloc (.cells #[.slice none 0 0, .slice none 0 0] 27)) := wO.trans (eG.mono wO.size); have SA : (y2.alloc (.cells #[.slice none 0 0, .slice none 0 0] 27)).cell? ⟨w.heap.size, 0, none⟩ = some (.slice av 4 cv) ∧ (y2.alloc (.cells #[.slice none 0 0, .slice none 0 0] 27)).cell? ⟨w.heap.size, 1, none⟩ = some (.slice ao l.length co) ∧ (y2.alloc (.cells #[.slice none 0 0, .slice none 0 0] 27)).cell? ⟨g, k, none⟩ = some (.string s) ∧ (y2.alloc (.cells #[.slice none 0 0, .slice none 0 0] 27)).cell? ⟨nb, 0, none⟩ = some (.slice va 4 vc) ∧ (y2.alloc (.cells #[.slice none 0 0, .slice none 0 0] 27)).cell? ⟨nb, 1, none⟩ = some (.slice oa m.length oc) := by
     have dS := eW.out.step (by omega) D4
     exact ⟨(pair_cells ((dS.kept w.heap.size (by omega) (by omega)).trans aM.out.fst)).1, (pair_cells ((dS.kept w.heap.size (by omega) (by omega)).trans aM.out.fst)).2, gH.out _ dS, (D4.cell (block_lt_of_cell (pair_cells HE.out).1)).trans (pair_cells HE.out).1, (D4.cell (block_lt_of_cell (pair_cells HE.out).2)).trans (pair_cells HE.out).2⟩
    go_simp
    refine hK.out _ _ SA (fun lM => ?_)
    clear hK K lM
    (try simp only [Act.put, u1, u2, u3])
    generalize jT : y2.alloc (.cells #[.slice none 0 0, .slice none 0 0] 27) = y3 at eG kP pI ⊢; clear jT SA D4; have hy3 : Below z1.heap.size z1 y3 := wO.trans (eG.mono wO.size); have Sy3 : y3.cell? ⟨w.heap.size, 0, none⟩ = some (.slice av 4 cv) ∧ y3.cell? ⟨w.heap.size, 1, none⟩ = some (.slice ao l.length co) ∧ y3.cell? ⟨g, k, none⟩ = some (.string s) ∧ y3.cell? ⟨nb, 0, none⟩ = some (.slice va 4 vc) ∧ y3.cell? ⟨nb, 1, none⟩ = some (.slice oa m.length oc) := by
     have dS := eW.out.step (by omega) hy3
     exact ⟨(pair_cells ((dS.kept w.heap.size (by omega) (by omega)).trans aM.out.fst)).1, (pair_cells ((dS.kept w.heap.size (by omega) (by omega)).trans aM.out.fst)).2, gH.out _ dS, (hy3.cell (block_lt_of_cell (pair_cells HE.out).1)).trans (pair_cells HE.out).1, (hy3.cell (block_lt_of_cell (pair_cells HE.out).2)).trans (pair_cells HE.out).2⟩
    have aPw := aRA (aPx.out.below eG (by omega))
    have aPJ := aRA (aPK.out.below eG (by omega))
    have aA6 := aRA kP; have aQ9 := pI; clear kP pI eG; have J4 := wO.size; have hq2 := yC.size; obtain ⟨oW, HVn, vU, jT, oP⟩ := aBb (.slice sE jS.length sD) (.slice sG m'.length sF) hy3 aA6.out J4 (by first | exact .inr aRC | (left; omega) | (right; omega)) aPw.out aPJ.out
    obtain ⟨d0, d1⟩ := pair_cells aA6.out; obtain ⟨f0, f1⟩ := aD aA6.out; have SW : ((y3.setCell ⟨y2.heap.size, 0, none⟩ (.slice sE jS.length sD)).setCell ⟨y2.heap.size, 1, none⟩ (.slice sG m'.length sF)).cell? ⟨w.heap.size, 0, none⟩ = some (.slice av 4 cv) ∧ ((y3.setCell ⟨y2.heap.size, 0, none⟩ (.slice sE jS.length sD)).setCell ⟨y2.heap.size, 1, none⟩ (.slice sG m'.length sF)).cell? ⟨w.heap.size, 1, none⟩ = some (.slice ao l.length co) ∧ ((y3.setCell ⟨y2.heap.size, 0, none⟩ (.slice sE jS.length sD)).setCell ⟨y2.heap.size, 1, none⟩ (.slice sG m'.length sF)).cell? ⟨g, k, none⟩ = some (.string s) ∧ ((y3.setCell ⟨y2.heap.size, 0, none⟩ (.slice sE jS.length sD)).setCell ⟨y2.heap.size, 1, none⟩ (.slice sG m'.length sF)).cell? ⟨nb, 0, none⟩ = some (.slice va 4 vc) ∧ ((y3.setCell ⟨y2.heap.size, 0, none⟩ (.slice sE jS.length sD)).setCell ⟨y2.heap.size, 1, none⟩ (.slice sG m'.length sF)).cell? ⟨nb, 1, none⟩ = some (.slice oa m.length oc) := by
     have dS := eW.out.step (by omega) jT
     exact ⟨(pair_cells ((dS.kept w.heap.size (by omega) (by omega)).trans aM.out.fst)).1, (pair_cells ((dS.kept w.heap.size (by omega) (by omega)).trans aM.out.fst)).2, gH.out _ dS, (jT.cell (block_lt_of_cell (pair_cells HE.out).1)).trans (pair_cells HE.out).1, (jT.cell (block_lt_of_cell (pair_cells HE.out).2)).trans (pair_cells HE.out).2⟩
    refine rk 19 rfl (fun K hK => ?_)
    go_simp
    refine hK.out _ _ SW (fun lL => ?_)
    clear hK K lL d0 d1 f0 f1 SW
    (try simp only [Act.put, u1, u2, u3])
    generalize (y3.setCell ⟨y2.heap.size, 0, none⟩ (.slice sE jS.length sD)).setCell ⟨y2.heap.size, 1, none⟩ (.slice sG m'.length sF) = zn at oW HVn vU jT oP ⊢; have O5 : zn.cell? ⟨w.heap.size, 0, none⟩ = some (.slice av 4 cv) ∧ zn.cell? ⟨w.heap.size, 1, none⟩ = some (.slice ao l.length co) ∧ zn.cell? ⟨g, k, none⟩ = some (.string s) ∧ zn.cell? ⟨nb, 0, none⟩ = some (.slice va 4 vc) ∧ zn.cell? ⟨nb, 1, none⟩ = some (.slice oa m.length oc) := by
     have dS := eW.out.step (by omega) jT
     exact ⟨(pair_cells ((dS.kept w.heap.size (by omega) (by omega)).trans aM.out.fst)).1, (pair_cells ((dS.kept w.heap.size (by omega) (by omega)).trans aM.out.fst)).2, gH.out _ dS, (jT.cell (block_lt_of_cell (pair_cells HE.out).1)).trans (pair_cells HE.out).1, (jT.cell (block_lt_of_cell (pair_cells HE.out).2)).trans (pair_cells HE.out).2⟩
    refine tj 20 ?_
    refine wpAnyH_done (by kernel_rfl) ?_ _
    have uK := aRA (eW.out.step (by omega) jT)
    have aNb := uK.out.size; have HXn := aRA ((uK.out.kept w.heap.size (by omega) (by omega)).trans aM.out.fst)
    have HRn := aRA ((uK.out.kept (w.heap.size + 1) (by omega) (by omega)).trans aM.out.snd)
    cases okk
    ·have gN := rX.out
     rw [aBc oB.out aAj.out cZ.out E2.out aK] at gN; have hRe : R = (4, [], []) := gN; subst hRe; obtain ⟨r0, r1⟩ := pair_cells HRn.out; obtain ⟨f0, f1⟩ := aD HRn.out; have bV := aRA (cK (.slice none 0 0) (.slice none 0 0) HRn.out); have dC : Hid (Below w.heap.size w ((zn.setCell ⟨w.heap.size + 1, 0, none⟩ (.slice none 0 0)).setCell ⟨w.heap.size + 1, 1, none⟩ (.slice none 0 0))) := uK.out.bel.trans ((eM zn (w.heap.size + 1) 0 1 _ _).mono (by omega))
     go_wp2
     generalize (zn.setCell ⟨w.heap.size + 1, 0, none⟩ (.slice none 0 0)).setCell ⟨w.heap.size + 1, 1, none⟩ (.slice none 0 0) = wf at bV dC ⊢; obtain ⟨p0, p1⟩ := pair_cells bV.out; exact bodyPost_ret (v := .tuple #[.agg #[.slice none 0 0, .slice none 0 0], .int .i64 4]) (by simp [results, Tryz.results85, go_sem, p0, p1]) rfl ⟨none, 0, 0, none, 0, 0, rfl, dC.out, fun h => absurd h (by decide)⟩
    obtain ⟨K2, p8, u4⟩ := vF.out.1 rfl; have aET := aRA (aCD oB.out aAj.out cZ.out E2.out p8 u4); clear p8 u4; have sY := sY; rw [K2.len] at oW HVn sY ⊢; obtain ⟨x0, x1⟩ := pair_cells oW.out; obtain ⟨n0, n1⟩ := pair_cells ((jT.block nb (by have := aB HE.out; omega)).trans HE.out)
    obtain ⟨fn0, fn1⟩ := aD ((jT.block nb (by have := aB HE.out; omega)).trans HE.out)
    have HIp := aRA (uK.out.put (k' := k + 1) (by omega) HVn.out vU.out (by omega) (by omega) sY.out M2.out K2 aET.out)
    clear K2; go_wp2
    go_roundw
    case rel => exact ⟨k + 1, _, by omega, rfl, by go_num, HIp⟩
    case measure => simp [intOf]; omega
   ·skip
    have eG : Below y1.heap.size y1 (y1.alloc (.cells #[.slice none 0 0, .slice none 0 0] 27)) := bl; have kP := bL (Below.refl _ (y1.alloc (.cells #[.slice none 0 0, .slice none 0 0] 27))); have pI : y1.heap.size < (y1.alloc (.cells #[.slice none 0 0, .slice none 0 0] 27)).heap.size := by show _ < (y1.heap.push _).size; simp
    have D4 : Below z1.heap.size z1 (y1.alloc (.cells #[.slice none 0 0, .slice none 0 0] 27)) := yC.trans (eG.mono yC.size); have SA : (y1.alloc (.cells #[.slice none 0 0, .slice none 0 0] 27)).cell? ⟨w.heap.size, 0, none⟩ = some (.slice av 4 cv) ∧ (y1.alloc (.cells #[.slice none 0 0, .slice none 0 0] 27)).cell? ⟨w.heap.size, 1, none⟩ = some (.slice ao l.length co) ∧ (y1.alloc (.cells #[.slice none 0 0, .slice none 0 0] 27)).cell? ⟨g, k, none⟩ = some (.string s) ∧ (y1.alloc (.cells #[.slice none 0 0, .slice none 0 0] 27)).cell? ⟨nb, 0, none⟩ = some (.slice va 4 vc) ∧ (y1.alloc (.cells #[.slice none 0 0, .slice none 0 0] 27)).cell? ⟨nb, 1, none⟩ = some (.slice oa m.length oc) := by
     have dS := eW.out.step (by omega) D4
     exact ⟨(pair_cells ((dS.kept w.heap.size (by omega) (by omega)).trans aM.out.fst)).1, (pair_cells ((dS.kept w.heap.size (by omega) (by omega)).trans aM.out.fst)).2, gH.out _ dS, (D4.cell (block_lt_of_cell (pair_cells HE.out).1)).trans (pair_cells HE.out).1, (D4.cell (block_lt_of_cell (pair_cells HE.out).2)).trans (pair_cells HE.out).2⟩
    go_simp
    refine hK.out _ _ SA (fun lM => ?_)
    clear hK K lM
    (try simp only [Act.put, u1, u2, u3])
    generalize jT : y1.alloc (.cells #[.slice none 0 0, .slice none 0 0] 27) = y4 at eG kP pI ⊢; clear jT SA D4; have hy4 : Below z1.heap.size z1 y4 := yC.trans (eG.mono yC.size); have Sy4 : y4.cell? ⟨w.heap.size, 0, none⟩ = some (.slice av 4 cv) ∧ y4.cell? ⟨w.heap.size, 1, none⟩ = some (.slice ao l.length co) ∧ y4.cell? ⟨g, k, none⟩ = some (.string s) ∧ y4.cell? ⟨nb, 0, none⟩ = some (.slice va 4 vc) ∧ y4.cell? ⟨nb, 1, none⟩ = some (.slice oa m.length oc) := by
     have dS := eW.out.step (by omega) hy4
     exact ⟨(pair_cells ((dS.kept w.heap.size (by omega) (by omega)).trans aM.out.fst)).1, (pair_cells ((dS.kept w.heap.size (by omega) (by omega)).trans aM.out.fst)).2, gH.out _ dS, (hy4.cell (block_lt_of_cell (pair_cells HE.out).1)).trans (pair_cells HE.out).1, (hy4.cell (block_lt_of_cell (pair_cells HE.out).2)).trans (pair_cells HE.out).2⟩
    have q8 := aRA kP; have aQ8 := pI; clear kP pI eG; refine wpAnyH_ready (rs := [14]) (by kernel_rfl) (by simp) ?_
    refine (AllReadyH.cons rfl (fun K hK => ?_) AllReadyH.nil)
    go_simp
    go_at_call 90
    refine (vF.out.2 y4 y4.heap.size va oa vc oc ((HVi.out.below hy4 aRC).more hy4.size) ((HOi.out.below hy4 aRC).more hy4.size) aRC P8.out HC2.out).mono ?_
    rintro e y5 ⟨sE, sD, sG, sF, rfl, dH, cD, fO, d1, d2⟩; have hy5 : Below z1.heap.size z1 y5 := hy4.trans (fO.mono hy4.size); have Sy5 : y5.cell? ⟨w.heap.size, 0, none⟩ = some (.slice av 4 cv) ∧ y5.cell? ⟨w.heap.size, 1, none⟩ = some (.slice ao l.length co) ∧ y5.cell? ⟨g, k, none⟩ = some (.string s) ∧ y5.cell? ⟨nb, 0, none⟩ = some (.slice va 4 vc) ∧ y5.cell? ⟨nb, 1, none⟩ = some (.slice oa m.length oc) := by
     have dS := eW.out.step (by omega) hy5
     exact ⟨(pair_cells ((dS.kept w.heap.size (by omega) (by omega)).trans aM.out.fst)).1, (pair_cells ((dS.kept w.heap.size (by omega) (by omega)).trans aM.out.fst)).2, gH.out _ dS, (hy5.cell (block_lt_of_cell (pair_cells HE.out).1)).trans (pair_cells HE.out).1, (hy5.cell (block_lt_of_cell (pair_cells HE.out).2)).trans (pair_cells HE.out).2⟩
    have q7 := aRA ((fO.block _ (aRB q8.out).1).trans q8.out); have aQ7 := aB q7.out; have aPv := aRA dH; have aPI := aRA cD; have sY := aRA d1; have M2 := aRA d2; have hpz := fO.size; refine hK.out _ _ Sy5 (fun lK => ?_)
    clear hK K lK fO dH cD d1 d2
    (try simp only [Act.put, u1, u2, u3])
    refine tj 15 ?_
    refine tj 16 ?_
    refine tj 17 ?_
    have J4 := yC.size; have hq2 := hy4.size; obtain ⟨oW, HVn, vU, jT, oP⟩ := aBb (.slice sE jS.length sD) (.slice sG m'.length sF) hy5 q7.out J4 (by first | exact .inr aRC | (left; omega) | (right; omega)) aPv.out aPI.out
    obtain ⟨d0, d1⟩ := pair_cells q7.out; obtain ⟨f0, f1⟩ := aD q7.out; have SW : ((y5.setCell ⟨y1.heap.size, 0, none⟩ (.slice sE jS.length sD)).setCell ⟨y1.heap.size, 1, none⟩ (.slice sG m'.length sF)).cell? ⟨w.heap.size, 0, none⟩ = some (.slice av 4 cv) ∧ ((y5.setCell ⟨y1.heap.size, 0, none⟩ (.slice sE jS.length sD)).setCell ⟨y1.heap.size, 1, none⟩ (.slice sG m'.length sF)).cell? ⟨w.heap.size, 1, none⟩ = some (.slice ao l.length co) ∧ ((y5.setCell ⟨y1.heap.size, 0, none⟩ (.slice sE jS.length sD)).setCell ⟨y1.heap.size, 1, none⟩ (.slice sG m'.length sF)).cell? ⟨g, k, none⟩ = some (.string s) ∧ ((y5.setCell ⟨y1.heap.size, 0, none⟩ (.slice sE jS.length sD)).setCell ⟨y1.heap.size, 1, none⟩ (.slice sG m'.length sF)).cell? ⟨nb, 0, none⟩ = some (.slice va 4 vc) ∧ ((y5.setCell ⟨y1.heap.size, 0, none⟩ (.slice sE jS.length sD)).setCell ⟨y1.heap.size, 1, none⟩ (.slice sG m'.length sF)).cell? ⟨nb, 1, none⟩ = some (.slice oa m.length oc) := by
     have dS := eW.out.step (by omega) jT
     exact ⟨(pair_cells ((dS.kept w.heap.size (by omega) (by omega)).trans aM.out.fst)).1, (pair_cells ((dS.kept w.heap.size (by omega) (by omega)).trans aM.out.fst)).2, gH.out _ dS, (jT.cell (block_lt_of_cell (pair_cells HE.out).1)).trans (pair_cells HE.out).1, (jT.cell (block_lt_of_cell (pair_cells HE.out).2)).trans (pair_cells HE.out).2⟩
    refine rk 19 rfl (fun K hK => ?_)
    go_simp
    refine hK.out _ _ SW (fun lL => ?_)
    clear hK K lL d0 d1 f0 f1 SW
    (try simp only [Act.put, u1, u2, u3])
    generalize (y5.setCell ⟨y1.heap.size, 0, none⟩ (.slice sE jS.length sD)).setCell ⟨y1.heap.size, 1, none⟩ (.slice sG m'.length sF) = zn at oW HVn vU jT oP ⊢; have O5 : zn.cell? ⟨w.heap.size, 0, none⟩ = some (.slice av 4 cv) ∧ zn.cell? ⟨w.heap.size, 1, none⟩ = some (.slice ao l.length co) ∧ zn.cell? ⟨g, k, none⟩ = some (.string s) ∧ zn.cell? ⟨nb, 0, none⟩ = some (.slice va 4 vc) ∧ zn.cell? ⟨nb, 1, none⟩ = some (.slice oa m.length oc) := by
     have dS := eW.out.step (by omega) jT
     exact ⟨(pair_cells ((dS.kept w.heap.size (by omega) (by omega)).trans aM.out.fst)).1, (pair_cells ((dS.kept w.heap.size (by omega) (by omega)).trans aM.out.fst)).2, gH.out _ dS, (jT.cell (block_lt_of_cell (pair_cells HE.out).1)).trans (pair_cells HE.out).1, (jT.cell (block_lt_of_cell (pair_cells HE.out).2)).trans (pair_cells HE.out).2⟩
    refine tj 20 ?_
    refine wpAnyH_done (by kernel_rfl) ?_ _
    have uK := aRA (eW.out.step (by omega) jT)
    have aNb := uK.out.size; have HXn := aRA ((uK.out.kept w.heap.size (by omega) (by omega)).trans aM.out.fst)
    have HRn := aRA ((uK.out.kept (w.heap.size + 1) (by omega) (by omega)).trans aM.out.snd)
    cases okk
    ·have gN := rX.out
     rw [aBc oB.out aAj.out cZ.out E2.out aK] at gN; have hRe : R = (4, [], []) := gN; subst hRe; obtain ⟨r0, r1⟩ := pair_cells HRn.out; obtain ⟨f0, f1⟩ := aD HRn.out; have bV := aRA (cK (.slice none 0 0) (.slice none 0 0) HRn.out); have dC : Hid (Below w.heap.size w ((zn.setCell ⟨w.heap.size + 1, 0, none⟩ (.slice none 0 0)).setCell ⟨w.heap.size + 1, 1, none⟩ (.slice none 0 0))) := uK.out.bel.trans ((eM zn (w.heap.size + 1) 0 1 _ _).mono (by omega))
     go_wp2
     generalize (zn.setCell ⟨w.heap.size + 1, 0, none⟩ (.slice none 0 0)).setCell ⟨w.heap.size + 1, 1, none⟩ (.slice none 0 0) = wf at bV dC ⊢; obtain ⟨p0, p1⟩ := pair_cells bV.out; exact bodyPost_ret (v := .tuple #[.agg #[.slice none 0 0, .slice none 0 0], .int .i64 4]) (by simp [results, Tryz.results85, go_sem, p0, p1]) rfl ⟨none, 0, 0, none, 0, 0, rfl, dC.out, fun h => absurd h (by decide)⟩
    obtain ⟨K2, p8, u4⟩ := vF.out.1 rfl; have aET := aRA (aCD oB.out aAj.out cZ.out E2.out p8 u4); clear p8 u4; have sY := sY; rw [K2.len] at oW HVn sY ⊢; obtain ⟨x0, x1⟩ := pair_cells oW.out; obtain ⟨n0, n1⟩ := pair_cells ((jT.block nb (by have := aB HE.out; omega)).trans HE.out)
    obtain ⟨fn0, fn1⟩ := aD ((jT.block nb (by have := aB HE.out; omega)).trans HE.out)
    have HIp := aRA (uK.out.put (k' := k + 1) (by omega) HVn.out vU.out (by omega) (by omega) sY.out M2.out K2 aET.out)
    clear K2; go_wp2
    go_roundw
    case rel => exact ⟨k + 1, _, by omega, rfl, by go_num, HIp⟩
    case measure => simp [intOf]; omega
  ·skip
   have eG : Below y0.heap.size y0 (y0.alloc (.cells #[.slice none 0 0, .slice none 0 0] 27)) := bl; have kP := bL (Below.refl _ (y0.alloc (.cells #[.slice none 0 0, .slice none 0 0] 27))); have pI : y0.heap.size < (y0.alloc (.cells #[.slice none 0 0, .slice none 0 0] 27)).heap.size := by show _ < (y0.heap.push _).size; simp
   have D4 : Below z1.heap.size z1 (y0.alloc (.cells #[.slice none 0 0, .slice none 0 0] 27)) := vN.trans (eG.mono vN.size); have SA : (y0.alloc (.cells #[.slice none 0 0, .slice none 0 0] 27)).cell? ⟨w.heap.size, 0, none⟩ = some (.slice av 4 cv) ∧ (y0.alloc (.cells #[.slice none 0 0, .slice none 0 0] 27)).cell? ⟨w.heap.size, 1, none⟩ = some (.slice ao l.length co) ∧ (y0.alloc (.cells #[.slice none 0 0, .slice none 0 0] 27)).cell? ⟨g, k, none⟩ = some (.string s) ∧ (y0.alloc (.cells #[.slice none 0 0, .slice none 0 0] 27)).cell? ⟨nb, 0, none⟩ = some (.slice va 4 vc) ∧ (y0.alloc (.cells #[.slice none 0 0, .slice none 0 0] 27)).cell? ⟨nb, 1, none⟩ = some (.slice oa m.length oc) := by
    have dS := eW.out.step (by omega) D4
    exact ⟨(pair_cells ((dS.kept w.heap.size (by omega) (by omega)).trans aM.out.fst)).1, (pair_cells ((dS.kept w.heap.size (by omega) (by omega)).trans aM.out.fst)).2, gH.out _ dS, (D4.cell (block_lt_of_cell (pair_cells HE.out).1)).trans (pair_cells HE.out).1, (D4.cell (block_lt_of_cell (pair_cells HE.out).2)).trans (pair_cells HE.out).2⟩
   go_simp
   refine hK.out _ _ SA (fun lM => ?_)
   clear hK K lM
   (try simp only [Act.put, u1, u2, u3])
   generalize jT : y0.alloc (.cells #[.slice none 0 0, .slice none 0 0] 27) = y6 at eG kP pI ⊢; clear jT SA D4; have hy6 : Below z1.heap.size z1 y6 := vN.trans (eG.mono vN.size); have Sy6 : y6.cell? ⟨w.heap.size, 0, none⟩ = some (.slice av 4 cv) ∧ y6.cell? ⟨w.heap.size, 1, none⟩ = some (.slice ao l.length co) ∧ y6.cell? ⟨g, k, none⟩ = some (.string s) ∧ y6.cell? ⟨nb, 0, none⟩ = some (.slice va 4 vc) ∧ y6.cell? ⟨nb, 1, none⟩ = some (.slice oa m.length oc) := by
    have dS := eW.out.step (by omega) hy6
    exact ⟨(pair_cells ((dS.kept w.heap.size (by omega) (by omega)).trans aM.out.fst)).1, (pair_cells ((dS.kept w.heap.size (by omega) (by omega)).trans aM.out.fst)).2, gH.out _ dS, (hy6.cell (block_lt_of_cell (pair_cells HE.out).1)).trans (pair_cells HE.out).1, (hy6.cell (block_lt_of_cell (pair_cells HE.out).2)).trans (pair_cells HE.out).2⟩
   have q6 := aRA kP; have aQ6 := pI; clear kP pI eG; refine wpAnyH_ready (rs := [11]) (by kernel_rfl) (by simp) ?_
   refine (AllReadyH.cons rfl (fun K hK => ?_) AllReadyH.nil)
   go_simp
   go_at_call 117
   refine (R6 y6 B av ao 4 cv l.length co xs l s (yK.out.below (eW.out.bel.trans (hy6.mono (by omega))) hB) (by have := hy6.size; omega) (by omega) HC.out).mono ?_
   rw [HU.out]; rintro e y7 ⟨rfl, fO⟩; have hy7 : Below z1.heap.size z1 y7 := hy6.trans (fO.mono hy6.size); have Sy7 : y7.cell? ⟨w.heap.size, 0, none⟩ = some (.slice av 4 cv) ∧ y7.cell? ⟨w.heap.size, 1, none⟩ = some (.slice ao l.length co) ∧ y7.cell? ⟨g, k, none⟩ = some (.string s) ∧ y7.cell? ⟨nb, 0, none⟩ = some (.slice va 4 vc) ∧ y7.cell? ⟨nb, 1, none⟩ = some (.slice oa m.length oc) := by
    have dS := eW.out.step (by omega) hy7
    exact ⟨(pair_cells ((dS.kept w.heap.size (by omega) (by omega)).trans aM.out.fst)).1, (pair_cells ((dS.kept w.heap.size (by omega) (by omega)).trans aM.out.fst)).2, gH.out _ dS, (hy7.cell (block_lt_of_cell (pair_cells HE.out).1)).trans (pair_cells HE.out).1, (hy7.cell (block_lt_of_cell (pair_cells HE.out).2)).trans (pair_cells HE.out).2⟩
   have U9 := aRA ((fO.block _ (aRB q6.out).1).trans q6.out); have aQ5 := aB U9.out; refine hK.out _ _ Sy7 (fun sP => ?_)
   clear hK K sP fO
   (try simp only [Act.put, u1, u2, u3])
   refine tj 12 ?_
   refine tj 13 ?_
   refine wpAnyH_ready (rs := [14]) (by kernel_rfl) (by simp) ?_
   refine (AllReadyH.cons rfl (fun K hK => ?_) AllReadyH.nil)
   go_simp
   go_at_call 90
   refine (vF.out.2 y7 y7.heap.size va oa vc oc ((HVi.out.below hy7 aRC).more hy7.size) ((HOi.out.below hy7 aRC).more hy7.size) aRC P8.out HC2.out).mono ?_
   rintro e y8 ⟨sE, sD, sG, sF, rfl, dH, cD, fO, d1, d2⟩; have hy8 : Below z1.heap.size z1 y8 := hy7.trans (fO.mono hy7.size); have Sy8 : y8.cell? ⟨w.heap.size, 0, none⟩ = some (.slice av 4 cv) ∧ y8.cell? ⟨w.heap.size, 1, none⟩ = some (.slice ao l.length co) ∧ y8.cell? ⟨g, k, none⟩ = some (.string s) ∧ y8.cell? ⟨nb, 0, none⟩ = some (.slice va 4 vc) ∧ y8.cell? ⟨nb, 1, none⟩ = some (.slice oa m.length oc) := by
    have dS := eW.out.step (by omega) hy8
    exact ⟨(pair_cells ((dS.kept w.heap.size (by omega) (by omega)).trans aM.out.fst)).1, (pair_cells ((dS.kept w.heap.size (by omega) (by omega)).trans aM.out.fst)).2, gH.out _ dS, (hy8.cell (block_lt_of_cell (pair_cells HE.out).1)).trans (pair_cells HE.out).1, (hy8.cell (block_lt_of_cell (pair_cells HE.out).2)).trans (pair_cells HE.out).2⟩
   have q5 := aRA ((fO.block _ (aRB U9.out).1).trans U9.out); have aQ4 := aB q5.out; have aPu := aRA dH; have aPH := aRA cD; have sY := aRA d1; have M2 := aRA d2; have hpz := fO.size; refine hK.out _ _ Sy8 (fun lK => ?_)
   clear hK K lK fO dH cD d1 d2
   (try simp only [Act.put, u1, u2, u3])
   refine tj 15 ?_
   refine tj 16 ?_
   refine tj 17 ?_
   have J4 := vN.size; have hq2 := hy7.size; obtain ⟨oW, HVn, vU, jT, oP⟩ := aBb (.slice sE jS.length sD) (.slice sG m'.length sF) hy8 q5.out J4 (by first | exact .inr aRC | (left; omega) | (right; omega)) aPu.out aPH.out
   obtain ⟨d0, d1⟩ := pair_cells q5.out; obtain ⟨f0, f1⟩ := aD q5.out; have SW : ((y8.setCell ⟨y0.heap.size, 0, none⟩ (.slice sE jS.length sD)).setCell ⟨y0.heap.size, 1, none⟩ (.slice sG m'.length sF)).cell? ⟨w.heap.size, 0, none⟩ = some (.slice av 4 cv) ∧ ((y8.setCell ⟨y0.heap.size, 0, none⟩ (.slice sE jS.length sD)).setCell ⟨y0.heap.size, 1, none⟩ (.slice sG m'.length sF)).cell? ⟨w.heap.size, 1, none⟩ = some (.slice ao l.length co) ∧ ((y8.setCell ⟨y0.heap.size, 0, none⟩ (.slice sE jS.length sD)).setCell ⟨y0.heap.size, 1, none⟩ (.slice sG m'.length sF)).cell? ⟨g, k, none⟩ = some (.string s) ∧ ((y8.setCell ⟨y0.heap.size, 0, none⟩ (.slice sE jS.length sD)).setCell ⟨y0.heap.size, 1, none⟩ (.slice sG m'.length sF)).cell? ⟨nb, 0, none⟩ = some (.slice va 4 vc) ∧ ((y8.setCell ⟨y0.heap.size, 0, none⟩ (.slice sE jS.length sD)).setCell ⟨y0.heap.size, 1, none⟩ (.slice sG m'.length sF)).cell? ⟨nb, 1, none⟩ = some (.slice oa m.length oc) := by
    have dS := eW.out.step (by omega) jT
    exact ⟨(pair_cells ((dS.kept w.heap.size (by omega) (by omega)).trans aM.out.fst)).1, (pair_cells ((dS.kept w.heap.size (by omega) (by omega)).trans aM.out.fst)).2, gH.out _ dS, (jT.cell (block_lt_of_cell (pair_cells HE.out).1)).trans (pair_cells HE.out).1, (jT.cell (block_lt_of_cell (pair_cells HE.out).2)).trans (pair_cells HE.out).2⟩
   refine rk 19 rfl (fun K hK => ?_)
   go_simp
   refine hK.out _ _ SW (fun lL => ?_)
   clear hK K lL d0 d1 f0 f1 SW
   (try simp only [Act.put, u1, u2, u3])
   generalize (y8.setCell ⟨y0.heap.size, 0, none⟩ (.slice sE jS.length sD)).setCell ⟨y0.heap.size, 1, none⟩ (.slice sG m'.length sF) = zn at oW HVn vU jT oP ⊢; have O5 : zn.cell? ⟨w.heap.size, 0, none⟩ = some (.slice av 4 cv) ∧ zn.cell? ⟨w.heap.size, 1, none⟩ = some (.slice ao l.length co) ∧ zn.cell? ⟨g, k, none⟩ = some (.string s) ∧ zn.cell? ⟨nb, 0, none⟩ = some (.slice va 4 vc) ∧ zn.cell? ⟨nb, 1, none⟩ = some (.slice oa m.length oc) := by
    have dS := eW.out.step (by omega) jT
    exact ⟨(pair_cells ((dS.kept w.heap.size (by omega) (by omega)).trans aM.out.fst)).1, (pair_cells ((dS.kept w.heap.size (by omega) (by omega)).trans aM.out.fst)).2, gH.out _ dS, (jT.cell (block_lt_of_cell (pair_cells HE.out).1)).trans (pair_cells HE.out).1, (jT.cell (block_lt_of_cell (pair_cells HE.out).2)).trans (pair_cells HE.out).2⟩
   refine tj 20 ?_
   refine wpAnyH_done (by kernel_rfl) ?_ _
   have uK := aRA (eW.out.step (by omega) jT)
   have aNb := uK.out.size; have HXn := aRA ((uK.out.kept w.heap.size (by omega) (by omega)).trans aM.out.fst)
   have HRn := aRA ((uK.out.kept (w.heap.size + 1) (by omega) (by omega)).trans aM.out.snd)
   cases okk
   ·have gN := rX.out
    rw [aBc oB.out aAj.out cZ.out E2.out aK] at gN; have hRe : R = (4, [], []) := gN; subst hRe; obtain ⟨r0, r1⟩ := pair_cells HRn.out; obtain ⟨f0, f1⟩ := aD HRn.out; have bV := aRA (cK (.slice none 0 0) (.slice none 0 0) HRn.out); have dC : Hid (Below w.heap.size w ((zn.setCell ⟨w.heap.size + 1, 0, none⟩ (.slice none 0 0)).setCell ⟨w.heap.size + 1, 1, none⟩ (.slice none 0 0))) := uK.out.bel.trans ((eM zn (w.heap.size + 1) 0 1 _ _).mono (by omega))
    go_wp2
    generalize (zn.setCell ⟨w.heap.size + 1, 0, none⟩ (.slice none 0 0)).setCell ⟨w.heap.size + 1, 1, none⟩ (.slice none 0 0) = wf at bV dC ⊢; obtain ⟨p0, p1⟩ := pair_cells bV.out; exact bodyPost_ret (v := .tuple #[.agg #[.slice none 0 0, .slice none 0 0], .int .i64 4]) (by simp [results, Tryz.results85, go_sem, p0, p1]) rfl ⟨none, 0, 0, none, 0, 0, rfl, dC.out, fun h => absurd h (by decide)⟩
   obtain ⟨K2, p8, u4⟩ := vF.out.1 rfl; have aET := aRA (aCD oB.out aAj.out cZ.out E2.out p8 u4); clear p8 u4; have sY := sY; rw [K2.len] at oW HVn sY ⊢; obtain ⟨x0, x1⟩ := pair_cells oW.out; obtain ⟨n0, n1⟩ := pair_cells ((jT.block nb (by have := aB HE.out; omega)).trans HE.out)
   obtain ⟨fn0, fn1⟩ := aD ((jT.block nb (by have := aB HE.out; omega)).trans HE.out)
   have HIp := aRA (uK.out.put (k' := k + 1) (by omega) HVn.out vU.out (by omega) (by omega) sY.out M2.out K2 aET.out)
   clear K2; go_wp2
   go_roundw
   case rel => exact ⟨k + 1, _, by omega, rfl, by go_num, HIp⟩
   case measure => simp [intOf]; omega
theorem aJu (w : World) (B : Nat) (av ao : Option Addr) (cv no co d : Nat) (xs : List Int) (l : List aA) (hx : Ints w B av 4 xs) (h : bS w B ao no l) (hB : B ≤ w.heap.size) (bI : bP av 4 cv) (bM : bP ao no co) (hd : d < 4) (hc : aE xs l = true) :
  Calls Tryz.prog 85 #[.agg #[.slice av 4 cv, .slice ao no co], .int .i64 (d : Int)] w (aGQ (sS xs l d) w) := aIc w B av ao cv no co d xs l hx h hB bI bM hd hc _ rfl
set_option linter.unusedVariables false
set_option linter.unusedSimpArgs false

/-- Three blocks that a call has laid first: a cart, a command and a result. -/
structure uY (w w1 : World) (x y z : Array Value) : Prop where
 fst : w1.heap[w.heap.size]? = some (.cells x 27 (0, 0))
 snd : w1.heap[w.heap.size + 1]? = some (.cells y 29 (0, 0))
 res : w1.heap[w.heap.size + 1 + 1]? = some (.cells z 27 (0, 0))
 bel : Below w.heap.size w w1
theorem uY.mk0 (w : World) (x y z : Array Value) : uY w (((w.alloc (.cells x 27)).alloc (.cells y 29)).alloc (.cells z 27)) x y z := by
 have e1 : (w.alloc (.cells x 27)).heap.size = w.heap.size + 1 := by simp
 have e2 : ((w.alloc (.cells x 27)).alloc (.cells y 29)).heap.size = w.heap.size + 1 + 1 := by simp
 refine ⟨?_, ?_, ?_, (((Below.refl _ w).alloc aRC _).alloc (by simp) _).alloc (by simp; omega) _⟩
 ·exact ((Below.heap_alloc _ _ _ (by omega)).trans (Below.heap_alloc _ _ _ (by omega))).trans (heap_alloc_new _ _)
 ·rw [← e1]; exact (Below.heap_alloc _ _ _ (by omega)).trans (heap_alloc_new _ _)
 ·rw [← e2]; exact heap_alloc_new _ _
theorem uY.next {w w1 w2 : World} {x y z : Array Value} (h : uY w w1 x y z) (hb : Below w1.heap.size w1 w2) : uY w w2 x y z :=
 ⟨(hb.block _ (aRB h.fst).1).trans h.fst, (hb.block _ (aRB h.snd).1).trans h.snd, (hb.block _ (aRB h.res).1).trans h.res, h.bel.trans (hb.mono h.bel.size)⟩
theorem uY.lt {w w1 : World} {x y z : Array Value} (h : uY w w1 x y z) : w.heap.size + 1 + 1 < w1.heap.size := (aRB h.res).1
theorem aAC {w : World} {b : Nat} {v0 v1 v2 v3 v4 : Value} {T : TypeId} {fr : Nat × Nat} (h : w.heap[b]? = some (.cells #[v0, v1, v2, v3, v4] T fr)) : w.cell? ⟨b, 0, none⟩ = some v0 ∧ w.cell? ⟨b, 1, none⟩ = some v1 ∧ w.cell? ⟨b, 2, none⟩ = some v2 ∧ w.cell? ⟨b, 3, none⟩ = some v3 ∧ w.cell? ⟨b, 4, none⟩ = some v4 :=
 ⟨aRD h, aRD h, aRD h, aRD h, aRD h⟩
/-- A cart of the call's own. -/
def uO (w : World) (lo hi : Nat) (va : Option Addr) (nv vc : Nat) (oa : Option Addr) (no oc : Nat) (zs : List Int) (m : List aA) : Prop :=
 nv = zs.length ∧ no = m.length ∧ Own w lo hi va nv zs ∧ bF w lo hi oa no m ∧ bP va nv vc ∧ bP oa no oc
/-- What a command's walk leaves, spelt out. -/
def aGP (code : Int) (zs : List Int) (m : List aA) (w : World) (e : Ending) (w' : World) : Prop :=
 ∃ va nv vc oa no oc, e = .returned (.tuple #[.agg #[.slice va nv vc, .slice oa no oc], .int .i64 code]) ∧ Below w.heap.size w w' ∧ (code = 0 → uO w' w.heap.size w'.heap.size va nv vc oa no oc zs m)
theorem uO.kept {w w' : World} {lo hi nv vc no oc : Nat} {va oa : Option Addr} {zs : List Int} {m : List aA} (h : uO w lo hi va nv vc oa no oc zs m) (hk : ∀ j, lo ≤ j → j < hi → w'.heap[j]? = w.heap[j]?) : uO w' lo hi va nv vc oa no oc zs m := by
 obtain ⟨h1, h2, h3, h4, h5, h6⟩ := h
 exact ⟨h1, h2, h3.kept hk, h4.kept hk, h5, h6⟩
theorem uO.more {w : World} {lo hi lo' hi' nv vc no oc : Nat} {va oa : Option Addr} {zs : List Int} {m : List aA} (h : uO w lo hi va nv vc oa no oc zs m) (g1 : lo' ≤ lo) (g2 : hi ≤ hi') : uO w lo' hi' va nv vc oa no oc zs m := by
 obtain ⟨h1, h2, h3, h4, h5, h6⟩ := h
 exact ⟨h1, h2, h3.more g1 g2, h4.more g1 g2, h5, h6⟩
theorem uO.below {w w' : World} {lo hi B nv vc no oc : Nat} {va oa : Option Addr} {zs : List Int} {m : List aA} (h : uO w lo hi va nv vc oa no oc zs m) (hb : Below B w w') (hB : hi ≤ B) : uO w' lo hi va nv vc oa no oc zs m := h.kept fun j _ h2 => hb.block j (by omega)
theorem uO.nil (w : World) (lo hi : Nat) : uO w lo hi none 0 0 none 0 0 [] [] :=
 ⟨rfl, rfl, ⟨rfl, fun h => absurd h (by omega)⟩, ⟨rfl, fun h => absurd h (by omega)⟩, dA, dA⟩
theorem aJt (w : World) (B : Nat) (av ao : Option Addr) (cv no co d : Nat) (xs : List Int) (l : List aA) (hx : Ints w B av 4 xs) (h : bS w B ao no l) (hB : B ≤ w.heap.size) (bI : bP av 4 cv) (bM : bP ao no co) (hd : d < 4) (hc : aE xs l = true) {RC : Int} {RZ : List Int} {RM : List aA} (hR : sS xs l d = (RC, RZ, RM)) :
  Calls Tryz.prog 85 #[.agg #[.slice av 4 cv, .slice ao no co], .int .i64 (d : Int)] w (aGP RC RZ RM w) := by
 have := aJu w B av ao cv no co d xs l hx h hB bI bM hd hc
 rw [hR] at this
 exact this
theorem aEO.toY {xs : List Int} {l : List aA} {dev seq : Int} {w w' : World} {e : Ending} (h : aEO xs l dev seq w e w') (hc : aE xs l = true) {RC : Int} {RZ : List Int} {RM : List aA} (hR : jK xs l dev seq = (RC, RZ, RM)) : aGP RC RZ RM w e w' := by
 have := h.toX hc
 rw [hR] at this
 exact this
/-- What the result's block holds goes back. -/
theorem uY.outX {w w1 w2 : World} {x y : Array Value} {z0 z1 : Value} {va oa : Option Addr} {nv vc no oc : Nat} {code : Int} {zs : List Int} {m : List aA} (h : uY w w2 x y #[z0, z1]) (hw : w.heap.size + 1 + 1 < w1.heap.size) (hc : code = 0 → uO w2 w1.heap.size w2.heap.size va nv vc oa no oc zs m) :
  Hid (((w2.setCell ⟨w.heap.size + 1 + 1, 0, none⟩ (.slice va nv vc)).setCell ⟨w.heap.size + 1 + 1, 1, none⟩ (.slice oa no oc)).heap[w.heap.size + 1 + 1]? = some (.cells #[.slice va nv vc, .slice oa no oc] 27 (0, 0))) ∧
  Hid (aGP code zs m w (.returned (.tuple #[.agg #[.slice va nv vc, .slice oa no oc], .int .i64 code])) ((w2.setCell ⟨w.heap.size + 1 + 1, 0, none⟩ (.slice va nv vc)).setCell ⟨w.heap.size + 1 + 1, 1, none⟩ (.slice oa no oc))) := by
 have hz := bA w2 (w.heap.size + 1 + 1) (.slice va nv vc) (.slice oa no oc)
 refine ⟨cK _ _ h.res, va, nv, vc, oa, no, oc, rfl, h.bel.trans ((eM w2 (w.heap.size + 1 + 1) 0 1 _ _).mono (by omega)), fun h0 => ?_⟩
 exact ((hc h0).kept fun j a1 a2 => aF _ _ (by omega)).more (by omega) (by rw [hz]; exact Nat.le_refl _)
/-- The like, where the result is known whatever the code. -/
theorem uY.outN {w w1 w2 : World} {x y : Array Value} {z0 z1 : Value} {va oa : Option Addr} {nv vc no oc : Nat} {code : Int} {zs : List Int} {m : List aA} (h : uY w w2 x y #[z0, z1]) (hw : w.heap.size + 1 + 1 < w1.heap.size) (hc : uO w2 w1.heap.size w2.heap.size va nv vc oa no oc zs m) :
  Hid (((w2.setCell ⟨w.heap.size + 1 + 1, 0, none⟩ (.slice va nv vc)).setCell ⟨w.heap.size + 1 + 1, 1, none⟩ (.slice oa no oc)).heap[w.heap.size + 1 + 1]? = some (.cells #[.slice va nv vc, .slice oa no oc] 27 (0, 0))) ∧
  Hid (tR code zs m w (.returned (.tuple #[.agg #[.slice va nv vc, .slice oa no oc], .int .i64 code])) ((w2.setCell ⟨w.heap.size + 1 + 1, 0, none⟩ (.slice va nv vc)).setCell ⟨w.heap.size + 1 + 1, 1, none⟩ (.slice oa no oc))) := by
 have hz := bA w2 (w.heap.size + 1 + 1) (.slice va nv vc) (.slice oa no oc)
 obtain ⟨h1, h2, h3, h4, h5, h6⟩ := (hc.kept (w' := ((w2.setCell ⟨w.heap.size + 1 + 1, 0, none⟩ (.slice va nv vc)).setCell ⟨w.heap.size + 1 + 1, 1, none⟩ (.slice oa no oc))) fun j a1 a2 => aF _ _ (by omega)).more (lo' := w.heap.size) (hi' := ((w2.setCell ⟨w.heap.size + 1 + 1, 0, none⟩ (.slice va nv vc)).setCell ⟨w.heap.size + 1 + 1, 1, none⟩ (.slice oa no oc)).heap.size) (by omega) (by rw [hz]; exact Nat.le_refl _)
 subst h1 h2
 exact ⟨cK _ _ h.res, va, vc, oa, oc, rfl, h3, h4, h.bel.trans ((eM w2 (w.heap.size + 1 + 1) 0 1 _ _).mono (by omega)), h5, h6⟩
theorem aJs (w : World) (B : Nat) (av ao : Option Addr) (cv no co : Nat) (d : Nat) (xs : List Int) (l : List aA) (kind qty dv sq : Int) (item : ByteArray) (hx : Ints w B av 4 xs) (h : bS w B ao no l) (hB : B ≤ w.heap.size) (bI : bP av 4 cv) (bM : bP ao no co) (hi : item.size ≤ 8) (hd : d < 4) (hc : aE xs l = true) {RC : Int} {RZ : List Int} {RM : List aA} (hR : jN xs l d kind item qty dv sq = (RC, RZ, RM)) :
  Calls Tryz.prog 46 #[.agg #[.slice av 4 cv, .slice ao no co], .int .i64 (d : Int), .agg #[.int .i64 kind, .string item, .int .i64 qty, .int .i64 dv, .int .i64 sq]] w (aGP RC RZ RM w) := by
 have yJ := aRA hR
 clear hR
 obtain rfl := h.1
 have hT := uY.mk0 w #[.slice av 4 cv, .slice ao l.length co] #[.int .i64 kind, .string item, .int .i64 qty, .int .i64 dv, .int .i64 sq] #[.slice none 0 0, .slice none 0 0]
 have HV := aRA (hx.below hT.bel hB)
 have HO := aRA (h.below hT.bel hB)
 have HT := aRA hT
 have kS := aRA bI
 have rO := aRA bM
 have HC := aRA hc
 have HBn := aRA (vW.of_cart hc)
 have hl := eU hc
 clear hc
 clear hx h hT bI bM
 go_enter Tryz.func46, Tryz.ntmps46
 go_upto_region 1 with fail
 generalize ((w.alloc (.cells #[.slice av 4 cv, .slice ao l.length co] 27)).alloc (.cells #[.int .i64 kind, .string item, .int .i64 qty, .int .i64 dv, .int .i64 sq] 29)).alloc (.cells #[.slice none 0 0, .slice none 0 0] 27) = w0 at HV HO HT ⊢
 have mF := HT.out.lt
 obtain ⟨q0, q1⟩ := pair_cells HT.out.fst
 obtain ⟨k0, k1, k2, k3, k4⟩ := aAC HT.out.snd
 by_cases h6 : kind = 6
 ·have e6 : (kind == 6) = true := by rw [h6]; rfl
  have HR6 : Hid (sS xs l d = (RC, RZ, RM)) := by have h := yJ.out; unfold jN at h; rwa [if_pos h6] at h
  clear h6
  go_wp2_with fail
  refine (aJt w0 B av ao cv l.length co d xs l HV.out HO.out (by omega) kS.out rO.out hd HC.out HR6.out).mono ?_
  rintro e w1 ⟨va, nv, vc, oa, no, oc, rfl, hb, lI⟩; have aZ := aRA (HT.out.next hb); have d9 := aRA lI; clear q0 q1 k0 k1 k2 k3 k4 HT hb lI; obtain ⟨r0, r1⟩ := pair_cells aZ.out.res; obtain ⟨f0, f1⟩ := aD aZ.out.res; obtain ⟨bV, jZ⟩ := aZ.out.outX (w1 := w0) (va := va) (nv := nv) (vc := vc) (oa := oa) (no := no) (oc := oc) (code := RC) (zs := RZ) (m := RM) (by omega) d9.out
  go_wp2
  generalize (w1.setCell ⟨w.heap.size + 1 + 1, 0, none⟩ (.slice va nv vc)).setCell ⟨w.heap.size + 1 + 1, 1, none⟩ (.slice oa no oc) = wf at bV jZ ⊢; obtain ⟨p0, p1⟩ := pair_cells bV.out; exact bodyPost_ret (v := .tuple #[.agg #[.slice va nv vc, .slice oa no oc], .int .i64 (RC)]) (by simp [results, Tryz.results46, go_sem, p0, p1]) rfl jZ.out
 have e6 : (kind == 6) = false := by rw [beq_eq_false_iff_ne]; exact h6
 by_cases h7 : kind = 7
 ·have e7 : (kind == 7) = true := by rw [h7]; rfl
  have HR7 : Hid (jK xs l (d : Int) (cY (d : Int) l l.length) = (RC, RZ, RM)) := by have h := yJ.out; unfold jN at h; rwa [if_neg h6, if_pos h7] at h
  clear h7; clear q0 q1
  go_upto_region 5 with fail
  have hS : w0.drew.cell? ⟨w.heap.size, 0, none⟩ = some (.slice av 4 cv) ∧ w0.drew.cell? ⟨w.heap.size, 1, none⟩ = some (.slice ao l.length co) := pair_cells HT.out.fst
  go_wp2_with fail
  refine wp_region_held_drew (S := fun w' => w'.cell? ⟨w.heap.size, 0, none⟩ = some (.slice av 4 cv) ∧ w'.cell? ⟨w.heap.size, 1, none⟩ = some (.slice ao l.length co)) (by kernel_rfl) hS (fun aP => ?_)
  refine tj 0 ?_
  refine tj 1 ?_
  refine tj 2 ?_
  refine tj 3 ?_
  refine rk 4 rfl (fun K hK => ?_)
  go_simp
  go_at_call 87
  refine (aIa w0.drew B av ao 4 cv l.length co xs l (d : Int) (HO.out.kept (w' := w0.drew) fun _ _ => rfl) (by show B ≤ w0.heap.size; omega) (by omega) HC.out).mono ?_
  rintro e w1 ⟨rfl, fY⟩; have aI : Below w0.heap.size w0 w1 := Below.mk fY.os fY.tape fY.output fY.size fY.block; have eH : w1.cell? ⟨w.heap.size, 0, none⟩ = some (.slice av 4 cv) ∧ w1.cell? ⟨w.heap.size, 1, none⟩ = some (.slice ao l.length co) := pair_cells (HT.out.next aI).fst; have fH := aI.size; generalize cY (d : Int) l l.length = sqn at HR7 ⊢; refine hK.out _ _ eH (fun bZ => ?_)
  clear hK K
  (try simp only [Act.put, u1, u2, u3])
  refine rk 5 rfl (fun K hK => ?_)
  go_simp
  go_at_call 86
  refine (aA4 w1 B av ao 4 cv l.length co xs l (d : Int) sqn (HV.out.below aI (by omega)) (HO.out.below aI (by omega)) (by omega) kS.out.2.2 rO.out.2.2 (by omega) (by omega) (fun i hi => by have := dZ (fA HC.out hi); omega)).mono ?_
  rintro e w2 A1; obtain ⟨va, nv, vc, oa, no, oc, rfl, aN, lI⟩ := A1.toY HC.out HR7.out; have d9 := aRA lI; have aJZ := aI.trans (aN.mono aI.size); have aM := aRA (HT.out.next aJZ); have fZ : w2.cell? ⟨w.heap.size, 0, none⟩ = some (.slice av 4 cv) ∧ w2.cell? ⟨w.heap.size, 1, none⟩ = some (.slice ao l.length co) := pair_cells aM.out.fst; refine hK.out _ _ fZ (fun fT => ?_)
  clear hK K
  (try simp only [Act.put, u1, u2, u3])
  refine tj 6 ?_
  refine tj 7 ?_
  obtain ⟨r0, r1⟩ := pair_cells aM.out.res; obtain ⟨f0, f1⟩ := aD aM.out.res; obtain ⟨bV, jZ⟩ := aM.out.outX (w1 := w1) (va := va) (nv := nv) (vc := vc) (oa := oa) (no := no) (oc := oc) (code := RC) (zs := RZ) (m := RM) (by omega) d9.out
  have iL : ((w2.setCell ⟨w.heap.size + 1 + 1, 0, none⟩ (.slice va nv vc)).setCell ⟨w.heap.size + 1 + 1, 1, none⟩ (.slice oa no oc)).cell? ⟨w.heap.size, 0, none⟩ = some (.slice av 4 cv) ∧ ((w2.setCell ⟨w.heap.size + 1 + 1, 0, none⟩ (.slice va nv vc)).setCell ⟨w.heap.size + 1 + 1, 1, none⟩ (.slice oa no oc)).cell? ⟨w.heap.size, 1, none⟩ = some (.slice ao l.length co) := pair_cells ((aF _ _ (by omega)).trans aM.out.fst)
  refine rk 8 rfl (fun K hK => ?_)
  go_simp
  refine hK.out _ _ iL (fun nL => ?_)
  clear hK K
  (try simp only [Act.put, u1, u2, u3])
  clear hS eH fZ r0 r1 f0 f1 aP bZ fT; generalize (w2.setCell ⟨w.heap.size + 1 + 1, 0, none⟩ (.slice va nv vc)).setCell ⟨w.heap.size + 1 + 1, 1, none⟩ (.slice oa no oc) = wf at bV jZ iL ⊢; refine tj 9 ?_
  refine wpAnyH_done (by kernel_rfl) ?_ _
  obtain ⟨p0, p1⟩ := pair_cells bV.out; go_wp2
  exact bodyPost_ret (v := .tuple #[.agg #[.slice va nv vc, .slice oa no oc], .int .i64 RC]) (by simp [results, Tryz.results46, go_sem, p0, p1]) rfl jZ.out
 have e7 : (kind == 7) = false := by rw [beq_eq_false_iff_ne]; exact h7
 by_cases h8 : kind = 8
 ·have e8 : (kind == 8) = true := by rw [h8]; rfl
  have HR8 : Hid (jK xs l (d : Int) (rJ xs d l) = (RC, RZ, RM)) := by have h := yJ.out; unfold jN at h; rwa [if_neg h6, if_neg h7, if_pos h8] at h
  clear h8; clear q0 q1
  go_upto_region 7 with fail
  have hS : w0.drew.cell? ⟨w.heap.size, 0, none⟩ = some (.slice av 4 cv) ∧ w0.drew.cell? ⟨w.heap.size, 1, none⟩ = some (.slice ao l.length co) := pair_cells HT.out.fst
  go_wp2_with fail
  refine wp_region_held_drew (S := fun w' => w'.cell? ⟨w.heap.size, 0, none⟩ = some (.slice av 4 cv) ∧ w'.cell? ⟨w.heap.size, 1, none⟩ = some (.slice ao l.length co)) (by kernel_rfl) hS (fun aP => ?_)
  refine tj 0 ?_
  refine tj 1 ?_
  refine tj 2 ?_
  refine tj 3 ?_
  refine rk 4 rfl (fun K hK => ?_)
  go_simp
  go_at_call 88
  refine (aM0 w0.drew B av ao 4 cv l.length co xs l d hd (HO.out.kept (w' := w0.drew) fun _ _ => rfl) (by show B ≤ w0.heap.size; omega) (by omega) HC.out).mono ?_
  rintro e w1 ⟨rfl, fY⟩; have aI : Below w0.heap.size w0 w1 := Below.mk fY.os fY.tape fY.output fY.size fY.block; have eH : w1.cell? ⟨w.heap.size, 0, none⟩ = some (.slice av 4 cv) ∧ w1.cell? ⟨w.heap.size, 1, none⟩ = some (.slice ao l.length co) := pair_cells (HT.out.next aI).fst; have fH := aI.size; generalize rJ xs d l = sqn at HR8 ⊢; refine hK.out _ _ eH (fun bZ => ?_)
  clear hK K
  (try simp only [Act.put, u1, u2, u3])
  refine rk 5 rfl (fun K hK => ?_)
  go_simp
  go_at_call 86
  refine (aA4 w1 B av ao 4 cv l.length co xs l (d : Int) sqn (HV.out.below aI (by omega)) (HO.out.below aI (by omega)) (by omega) kS.out.2.2 rO.out.2.2 (by omega) (by omega) (fun i hi => by have := dZ (fA HC.out hi); omega)).mono ?_
  rintro e w2 A1; obtain ⟨va, nv, vc, oa, no, oc, rfl, aN, lI⟩ := A1.toY HC.out HR8.out; have d9 := aRA lI; have aJZ := aI.trans (aN.mono aI.size); have aM := aRA (HT.out.next aJZ); have fZ : w2.cell? ⟨w.heap.size, 0, none⟩ = some (.slice av 4 cv) ∧ w2.cell? ⟨w.heap.size, 1, none⟩ = some (.slice ao l.length co) := pair_cells aM.out.fst; refine hK.out _ _ fZ (fun fT => ?_)
  clear hK K
  (try simp only [Act.put, u1, u2, u3])
  refine tj 6 ?_
  refine tj 7 ?_
  obtain ⟨r0, r1⟩ := pair_cells aM.out.res; obtain ⟨f0, f1⟩ := aD aM.out.res; obtain ⟨bV, jZ⟩ := aM.out.outX (w1 := w1) (va := va) (nv := nv) (vc := vc) (oa := oa) (no := no) (oc := oc) (code := RC) (zs := RZ) (m := RM) (by omega) d9.out
  have iL : ((w2.setCell ⟨w.heap.size + 1 + 1, 0, none⟩ (.slice va nv vc)).setCell ⟨w.heap.size + 1 + 1, 1, none⟩ (.slice oa no oc)).cell? ⟨w.heap.size, 0, none⟩ = some (.slice av 4 cv) ∧ ((w2.setCell ⟨w.heap.size + 1 + 1, 0, none⟩ (.slice va nv vc)).setCell ⟨w.heap.size + 1 + 1, 1, none⟩ (.slice oa no oc)).cell? ⟨w.heap.size, 1, none⟩ = some (.slice ao l.length co) := pair_cells ((aF _ _ (by omega)).trans aM.out.fst)
  refine rk 8 rfl (fun K hK => ?_)
  go_simp
  refine hK.out _ _ iL (fun nL => ?_)
  clear hK K
  (try simp only [Act.put, u1, u2, u3])
  clear hS eH fZ r0 r1 f0 f1 aP bZ fT; generalize (w2.setCell ⟨w.heap.size + 1 + 1, 0, none⟩ (.slice va nv vc)).setCell ⟨w.heap.size + 1 + 1, 1, none⟩ (.slice oa no oc) = wf at bV jZ iL ⊢; refine tj 9 ?_
  refine wpAnyH_done (by kernel_rfl) ?_ _
  obtain ⟨p0, p1⟩ := pair_cells bV.out; go_wp2
  exact bodyPost_ret (v := .tuple #[.agg #[.slice va nv vc, .slice oa no oc], .int .i64 RC]) (by simp [results, Tryz.results46, go_sem, p0, p1]) rfl jZ.out
 have e8 : (kind == 8) = false := by rw [beq_eq_false_iff_ne]; exact h8
 by_cases h9 : kind = 9
 ·have e9 : (kind == 9) = true := by rw [h9]; rfl
  have HR9 : Hid (jK xs l dv sq = (RC, RZ, RM)) := by have h := yJ.out; unfold jN at h; rwa [if_neg h6, if_neg h7, if_neg h8, if_pos h9] at h
  clear h6 h7 h8 h9
  go_wp2_with fail
  refine (aA4 w0 B av ao 4 cv l.length co xs l dv sq HV.out HO.out (by omega) kS.out.2.2 rO.out.2.2 (by omega) (by omega) (fun i hi => by have := dZ (fA HC.out hi); omega)).mono ?_
  rintro e w1 A1; obtain ⟨va, nv, vc, oa, no, oc, rfl, hb, lI⟩ := A1.toY HC.out HR9.out; have aZ := aRA (HT.out.next hb); have d9 := aRA lI; clear q0 q1 k0 k1 k2 k3 k4 HT hb lI A1; obtain ⟨r0, r1⟩ := pair_cells aZ.out.res; obtain ⟨f0, f1⟩ := aD aZ.out.res; obtain ⟨bV, jZ⟩ := aZ.out.outX (w1 := w0) (va := va) (nv := nv) (vc := vc) (oa := oa) (no := no) (oc := oc) (code := RC) (zs := RZ) (m := RM) (by omega) d9.out
  go_wp2
  generalize (w1.setCell ⟨w.heap.size + 1 + 1, 0, none⟩ (.slice va nv vc)).setCell ⟨w.heap.size + 1 + 1, 1, none⟩ (.slice oa no oc) = wf at bV jZ ⊢; obtain ⟨p0, p1⟩ := pair_cells bV.out; exact bodyPost_ret (v := .tuple #[.agg #[.slice va nv vc, .slice oa no oc], .int .i64 (RC)]) (by simp [results, Tryz.results46, go_sem, p0, p1]) rfl jZ.out
 have e9 : (kind == 9) = false := by rw [beq_eq_false_iff_ne]; exact h9
 have gN : Hid ((if (oneOf (aG item l l.length) (decide ((aU iC item l l.length).kind = 4)) kind item qty).2 = 0 then (if (aJ xs l d (oneOf (aG item l l.length) (decide ((aU iC item l l.length).kind = 4)) kind item qty).1).ok = true then ((0 : Int), dU xs d, bO l d (aJ xs l d (oneOf (aG item l l.length) (decide ((aU iC item l l.length).kind = 4)) kind item qty).1)) else (4, [], [])) else ((oneOf (aG item l l.length) (decide ((aU iC item l l.length).kind = 4)) kind item qty).2, [], [])) = (RC, RZ, RM)) := by
  have h := yJ.out; unfold jN at h; rw [if_neg h6, if_neg h7, if_neg h8, if_neg h9] at h; exact h
 clear yJ h6 h7 h8 h9
 go_wp2_with fail
 refine (aOL w0 B av ao 4 cv l.length co xs l kind qty dv sq item HO.out (by omega) (by omega) HC.out (by have := F6 HC.out item l.length aRC; omega)).mono ?_
 have aJR := aBv (aG item l l.length) (decide ((aU iC item l l.length).kind = 4)) kind item qty
 generalize oneOf (aG item l l.length) (decide ((aU iC item l l.length).kind = 4)) kind item qty = oc at aJR gN ⊢
 obtain ⟨op, code⟩ := oc
 have hi8 : op.item.size ≤ 8 := by
  rcases aJR with e | e
  ·have e : op.item = item := e
   rw [e]; exact hi
  ·have e : op.item = ⟨#[]⟩ := e
   rw [e]; exact Nat.zero_le _
 rintro e w1 ⟨rfl, aI⟩
 have aZ := aRA (HT.out.next aI)
 have lP := aRA (HV.out.below aI (by omega))
 have dL := aRA (HO.out.below aI (by omega))
 have fH := aI.size
 clear aI HT HV HO q0 q1 k0 k1 k2 k3 k4 e6 e7 e8 e9 aJR
 go_upto_region 11 with fail
 have aN : Below w1.heap.size w1 (w1.alloc (.cells #[.int .i64 op.dev, .int .i64 op.seq, .int .i64 op.stamp, .int .i64 op.kind, .string op.item, .int .i64 op.qty, .int .i64 op.level, .int .i64 op.undos] 50)) := (Below.refl _ w1).alloc aRC _
 have B6 : Hid ((w1.alloc (.cells #[.int .i64 op.dev, .int .i64 op.seq, .int .i64 op.stamp, .int .i64 op.kind, .string op.item, .int .i64 op.qty, .int .i64 op.level, .int .i64 op.undos] 50)).heap[w1.heap.size]? = some (.cells #[.int .i64 op.dev, .int .i64 op.seq, .int .i64 op.stamp, .int .i64 op.kind, .string op.item, .int .i64 op.qty, .int .i64 op.level, .int .i64 op.undos] 50 (0, 0))) := bL (Below.refl _ _)
 generalize w1.alloc (.cells #[.int .i64 op.dev, .int .i64 op.seq, .int .i64 op.stamp, .int .i64 op.kind, .string op.item, .int .i64 op.qty, .int .i64 op.level, .int .i64 op.undos] 50) = w2 at aN B6 ⊢
 have aM := aRA (aZ.out.next aN)
 have mZ := aRA (lP.out.below aN (by omega))
 have iZ := aRA (dL.out.below aN (by omega))
 have eV := aN.size
 clear aN aZ lP dL
 by_cases N7 : code = 0
 rotate_left
 ·have en : (code != 0) = true := by simpa using N7
  have h3 := gN.out
  try dsimp only at h3
  rw [if_neg N7] at h3; injection h3 with e1 h4; injection h4 with e2 e3; subst e1 e2 e3; have HN0 := aRA N7; clear N7; obtain ⟨r0, r1⟩ := pair_cells aM.out.res; obtain ⟨f0, f1⟩ := aD aM.out.res; obtain ⟨bV, jZ⟩ := aM.out.outX (w1 := w2) (va := none) (nv := 0) (vc := 0) (oa := none) (no := 0) (oc := 0) (code := code) (zs := []) (m := []) (by omega) (fun h => absurd h HN0.out)
  go_wp2
  generalize (w2.setCell ⟨w.heap.size + 1 + 1, 0, none⟩ (.slice none 0 0)).setCell ⟨w.heap.size + 1 + 1, 1, none⟩ (.slice none 0 0) = wf at bV jZ ⊢; obtain ⟨p0, p1⟩ := pair_cells bV.out; exact bodyPost_ret (v := .tuple #[.agg #[.slice none 0 0, .slice none 0 0], .int .i64 (code)]) (by simp [results, Tryz.results46, go_sem, p0, p1]) rfl jZ.out
 subst N7
 have nA := HBn.out
 obtain ⟨okk, jS, m', aEw, C2⟩ := aIb xs l d 160 (by omega) op nA hd (by omega)
 have E2 := aRA aEw
 have vF := aRA C2
 clear C2 aEw nA
 obtain ⟨q0, q1⟩ := pair_cells aM.out.fst
 obtain ⟨d0, d1, d2, d3, d4, d5, d6, d7⟩ := aQ B6.out
 go_wp2_with fail
 refine (vF.out.2 w2 B av ao cv co mZ.out iZ.out (by omega) kS.out rO.out).mono ?_
 rintro e w3 ⟨va, vc, oa, oc, rfl, dH, cD, bB, c1, c2⟩
 have bJ := aRA (aM.out.next bB)
 have HA := aRA dH
 have HD := aRA cD
 have P8 := aRA c1
 have HC2 := aRA c2
 have iG := bB.size
 clear dH cD bB c1 c2 aM q0 q1 d0 d1 d2 d3 d4 d5 d6 d7 B6 mZ iZ
 go_upto_region 14 with fail
 have dY : Below w3.heap.size w3 (w3.alloc (.cells #[.slice va jS.length vc, .slice oa m'.length oc] 27)) := (Below.refl _ w3).alloc aRC _
 have T3 : Hid ((w3.alloc (.cells #[.slice va jS.length vc, .slice oa m'.length oc] 27)).heap[w3.heap.size]? = some (.cells #[.slice va jS.length vc, .slice oa m'.length oc] 27 (0, 0))) := bL (Below.refl _ _)
 generalize w3.alloc (.cells #[.slice va jS.length vc, .slice oa m'.length oc] 27) = w4 at dY T3 ⊢
 have iA := aRA (bJ.out.next dY)
 have HA4 := aRA (HA.out.below dY aRC)
 have uN := aRA (HD.out.below dY aRC)
 have D1 := dY.size
 clear dY bJ HA HD
 have h3 := gN.out
 try dsimp only at h3
 (first | rw [if_pos rfl] at h3 | rw [if_pos trivial] at h3)
 rw [← E2.out] at h3
 cases okk
 ·rw [if_neg (by decide)] at h3
  injection h3 with e1 h4; injection h4 with e2 e3; subst e1 e2 e3; obtain ⟨r0, r1⟩ := pair_cells iA.out.res; obtain ⟨f0, f1⟩ := aD iA.out.res; obtain ⟨bV, jZ⟩ := iA.out.outX (w1 := w4) (va := none) (nv := 0) (vc := 0) (oa := none) (no := 0) (oc := 0) (code := 4) (zs := []) (m := []) (by omega) (fun h => absurd h (by omega))
  go_wp2
  generalize (w4.setCell ⟨w.heap.size + 1 + 1, 0, none⟩ (.slice none 0 0)).setCell ⟨w.heap.size + 1 + 1, 1, none⟩ (.slice none 0 0) = wf at bV jZ ⊢; obtain ⟨p0, p1⟩ := pair_cells bV.out; exact bodyPost_ret (v := .tuple #[.agg #[.slice none 0 0, .slice none 0 0], .int .i64 (4)]) (by simp [results, Tryz.results46, go_sem, p0, p1]) rfl jZ.out
 obtain ⟨K2, p8, u4⟩ := vF.out.1 rfl
 rw [if_pos rfl, ← p8, ← u4] at h3
 injection h3 with e1 h4
 injection h4 with e2 e3
 subst e1 e2 e3
 clear p8 u4
 have P8 := P8
 have HA4 := HA4
 rw [K2.len] at T3 HA4 P8 ⊢
 have d9 : Hid ((0 : Int) = 0 → uO w4 w2.heap.size w4.heap.size va 4 vc oa m'.length oc jS m') := fun _ => ⟨K2.len.symm, rfl, HA4.out.more aRC D1, uN.out.more aRC D1, P8.out, HC2.out⟩
 clear K2
 obtain ⟨n0, n1⟩ := pair_cells T3.out
 obtain ⟨r0, r1⟩ := pair_cells iA.out.res
 obtain ⟨f0, f1⟩ := aD iA.out.res
 obtain ⟨bV, jZ⟩ := iA.out.outX (w1 := w2) (va := va) (nv := 4) (vc := vc) (oa := oa) (no := m'.length) (oc := oc) (code := 0) (zs := jS) (m := m') (by omega) d9.out
 go_wp2
 generalize (w4.setCell ⟨w.heap.size + 1 + 1, 0, none⟩ (.slice va 4 vc)).setCell ⟨w.heap.size + 1 + 1, 1, none⟩ (.slice oa m'.length oc) = wf at bV jZ ⊢
 obtain ⟨p0, p1⟩ := pair_cells bV.out
 exact bodyPost_ret (v := .tuple #[.agg #[.slice va 4 vc, .slice oa m'.length oc], .int .i64 (0)]) (by simp [results, Tryz.results46, go_sem, p0, p1]) rfl jZ.out
theorem aJ7 {kind : Int} {item : ByteArray} {qty dv sq : Int} (h : eN kind item qty dv sq = true) : item.size ≤ 8 := by
 unfold eN at h
 have hb : iE item = true → item.size ≤ 8 := fun h => by
  unfold iE at h; simp only [Bool.and_eq_true, decide_eq_true_eq] at h
  omega
 have he : item = ⟨#[]⟩ → item.size ≤ 8 := fun h => by rw [h]; exact Nat.zero_le _
 split at h
 ·rw [Bool.and_eq_true] at h; exact hb h.1
 ·split at h
  ·rw [Bool.and_eq_true] at h; exact hb h.1
  ·split at h
   ·exact he (of_decide_eq_true h).1
   ·split at h
    ·rw [Bool.and_eq_true] at h; exact he (of_decide_eq_true h.1).1
    ·cases h
theorem aBp (w : World) (B : Nat) (av ao : Option Addr) (cv no co : Nat) (xs : List Int) (l : List aA) (kind qty dv sq : Int) (item : ByteArray) (hx : Ints w B av 4 xs) (h : bS w B ao no l) (hB : B ≤ w.heap.size) (bI : bP av 4 cv) (bM : bP ao no co) (hi : item.size ≤ 1048576) (dev : Int) (hm : ∀ i, i < no → (aC l i).item.size ≤ 1048576) (hn : no ≤ 1048576) {RC : Int} {RZ : List Int} {RM : List aA} (hR : bN xs l dev kind item qty dv sq = (RC, RZ, RM)) :
  Calls Tryz.prog 18 #[.agg #[.slice av 4 cv, .slice ao no co], .int .i64 dev, .agg #[.int .i64 kind, .string item, .int .i64 qty, .int .i64 dv, .int .i64 sq]] w (tR RC RZ RM w) := by
 have yJ := aRA hR
 clear hR
 obtain rfl := h.1
 have hT := uY.mk0 w #[.slice av 4 cv, .slice ao l.length co] #[.int .i64 kind, .string item, .int .i64 qty, .int .i64 dv, .int .i64 sq] #[.slice none 0 0, .slice none 0 0]
 have HV := aRA (hx.below hT.bel hB)
 have HO := aRA (h.below hT.bel hB)
 have HT := aRA hT
 have kS := aRA bI
 have rO := aRA bM
 have HM := aRA hm
 clear hm
 clear hx h hT bI bM
 go_enter Tryz.func18, Tryz.ntmps18
 go_upto_region 1 with fail
 generalize ((w.alloc (.cells #[.slice av 4 cv, .slice ao l.length co] 27)).alloc (.cells #[.int .i64 kind, .string item, .int .i64 qty, .int .i64 dv, .int .i64 sq] 29)).alloc (.cells #[.slice none 0 0, .slice none 0 0] 27) = w0 at HV HO HT ⊢
 have mF := HT.out.lt
 obtain ⟨q0, q1⟩ := pair_cells HT.out.fst
 obtain ⟨k0, k1, k2, k3, k4⟩ := aAC HT.out.snd
 have finish : ∀ (w1 : World), uY w w1 #[.slice av 4 cv, .slice ao l.length co] #[.int .i64 kind, .string item, .int .i64 qty, .int .i64 dv, .int .i64 sq] #[.slice none 0 0, .slice none 0 0] → True := fun _ _ => trivial
 clear finish
 obtain ⟨cb, hcb⟩ : ∃ b, aE xs l = b := ⟨_, rfl⟩
 have C1 := aRA hcb
 clear hcb
 go_wp2_with fail
 refine (wF w0 B av ao 4 cv l.length co xs l HV.out HO.out (by omega) (by omega) hn HM.out).mono ?_
 rw [C1.out]
 rintro e w1 ⟨rfl, aI⟩
 have aZ := aRA (HT.out.next aI)
 have lP := aRA (HV.out.below aI (by omega))
 have dL := aRA (HO.out.below aI (by omega))
 have fH := aI.size
 clear aI HT HV HO q0 q1 k0 k1 k2 k3 k4
 cases cb
 ·have h3 := yJ.out
  unfold bN at h3; rw [if_neg (by rintro ⟨a1, a2, a3⟩; first | exact Bool.false_ne_true (C1.out.symm.trans a1) | exact Bool.false_ne_true (HDb.out.symm.trans a2) | exact Bool.false_ne_true (HKb.out.symm.trans a3))] at h3
  injection h3 with e1 h4; injection h4 with e2 e3; subst e1 e2 e3; obtain ⟨r0, r1⟩ := pair_cells aZ.out.res; obtain ⟨f0, f1⟩ := aD aZ.out.res; obtain ⟨bV, jZ⟩ := aZ.out.outN (w1 := w1) (va := none) (nv := 0) (vc := 0) (oa := none) (no := 0) (oc := 0) (code := 1) (zs := []) (m := []) (by omega) (uO.nil _ _ _)
  go_wp2
  generalize (w1.setCell ⟨w.heap.size + 1 + 1, 0, none⟩ (.slice none 0 0)).setCell ⟨w.heap.size + 1 + 1, 1, none⟩ (.slice none 0 0) = wf at bV jZ ⊢; obtain ⟨p0, p1⟩ := pair_cells bV.out; exact bodyPost_ret (v := .tuple #[.agg #[.slice none 0 0, .slice none 0 0], .int .i64 (1)]) (by simp [results, Tryz.results18, go_sem, p0, p1]) rfl jZ.out
 go_wp2_with fail
 refine (gQ dev w1).mono ?_
 rintro e w2 ⟨rfl, rfl⟩
 obtain ⟨db, S2⟩ : ∃ b, dD dev 0 3 = b := ⟨_, rfl⟩
 have HDb := aRA S2
 rw [S2]
 clear S2
 cases db
 ·have h3 := yJ.out
  unfold bN at h3; rw [if_neg (by rintro ⟨a1, a2, a3⟩; first | exact Bool.false_ne_true (C1.out.symm.trans a1) | exact Bool.false_ne_true (HDb.out.symm.trans a2) | exact Bool.false_ne_true (HKb.out.symm.trans a3))] at h3
  injection h3 with e1 h4; injection h4 with e2 e3; subst e1 e2 e3; obtain ⟨r0, r1⟩ := pair_cells aZ.out.res; obtain ⟨f0, f1⟩ := aD aZ.out.res; obtain ⟨bV, jZ⟩ := aZ.out.outN (w1 := w1) (va := none) (nv := 0) (vc := 0) (oa := none) (no := 0) (oc := 0) (code := 1) (zs := []) (m := []) (by omega) (uO.nil _ _ _)
  go_wp2
  generalize (w1.setCell ⟨w.heap.size + 1 + 1, 0, none⟩ (.slice none 0 0)).setCell ⟨w.heap.size + 1 + 1, 1, none⟩ (.slice none 0 0) = wf at bV jZ ⊢; obtain ⟨p0, p1⟩ := pair_cells bV.out; exact bodyPost_ret (v := .tuple #[.agg #[.slice none 0 0, .slice none 0 0], .int .i64 (1)]) (by simp [results, Tryz.results18, go_sem, p0, p1]) rfl jZ.out
 obtain ⟨k0, k1, k2, k3, k4⟩ := aAC aZ.out.snd
 go_wp2_with fail
 refine (aLx kind item qty dv sq (by omega) w1).mono ?_
 obtain ⟨kb, S0⟩ : ∃ b, eN kind item qty dv sq = b := ⟨_, rfl⟩
 have HKb := aRA S0
 rw [S0]
 clear S0
 rintro e w2 ⟨rfl, aN⟩
 have aM := aRA (aZ.out.next aN)
 have mZ := aRA (lP.out.below aN (by omega))
 have iZ := aRA (dL.out.below aN (by omega))
 have eV := aN.size
 clear aN aZ lP dL k0 k1 k2 k3 k4
 cases kb
 ·have h3 := yJ.out
  unfold bN at h3; rw [if_neg (by rintro ⟨a1, a2, a3⟩; first | exact Bool.false_ne_true (C1.out.symm.trans a1) | exact Bool.false_ne_true (HDb.out.symm.trans a2) | exact Bool.false_ne_true (HKb.out.symm.trans a3))] at h3
  injection h3 with e1 h4; injection h4 with e2 e3; subst e1 e2 e3; obtain ⟨r0, r1⟩ := pair_cells aM.out.res; obtain ⟨f0, f1⟩ := aD aM.out.res; obtain ⟨bV, jZ⟩ := aM.out.outN (w1 := w2) (va := none) (nv := 0) (vc := 0) (oa := none) (no := 0) (oc := 0) (code := 1) (zs := []) (m := []) (by omega) (uO.nil _ _ _)
  go_wp2
  generalize (w2.setCell ⟨w.heap.size + 1 + 1, 0, none⟩ (.slice none 0 0)).setCell ⟨w.heap.size + 1 + 1, 1, none⟩ (.slice none 0 0) = wf at bV jZ ⊢; obtain ⟨p0, p1⟩ := pair_cells bV.out; exact bodyPost_ret (v := .tuple #[.agg #[.slice none 0 0, .slice none 0 0], .int .i64 (1)]) (by simp [results, Tryz.results18, go_sem, p0, p1]) rfl jZ.out
 have hi := aJ7 HKb.out
 obtain ⟨d, rfl, hd⟩ : ∃ d : Nat, dev = (d : Int) ∧ d < 4 := by
  have := HDb.out; rw [gM] at this; exact ⟨dev.toNat, by omega, by omega⟩
 have hl := eU C1.out
 obtain ⟨LC, LZ, LM, hL6⟩ : ∃ c z m, jN xs l d kind item qty dv sq = (c, z, m) := ⟨_, _, _, rfl⟩
 have iY : Hid ((if LC = 0 then (LC, LZ, LM) else (LC, xs, l)) = (RC, RZ, RM)) := by
  have h := yJ.out; unfold bN at h; rw [if_pos ⟨C1.out, HDb.out, HKb.out⟩, Int.toNat_natCast, hL6] at h; exact h
 have HL6 := aRA hL6
 clear hL6 yJ
 obtain ⟨q0, q1⟩ := pair_cells aM.out.fst
 obtain ⟨k0, k1, k2, k3, k4⟩ := aAC aM.out.snd
 go_wp2_with fail
 refine (aJs w2 B av ao cv l.length co d xs l kind qty dv sq item mZ.out iZ.out (by omega) kS.out rO.out hi hd C1.out HL6.out).mono ?_
 rintro e w3 ⟨va, nv, vc, oa, no, oc, rfl, bB, lI⟩
 have bJ := aRA (aM.out.next bB)
 have Z6 := aRA (mZ.out.below bB (by omega))
 have B9 := aRA (iZ.out.below bB (by omega))
 have d9 := aRA lI
 have iG := bB.size
 clear bB aM mZ iZ lI q0 q1 k0 k1 k2 k3 k4
 go_upto_region 4 with fail
 have dY : Below w3.heap.size w3 (w3.alloc (.cells #[.slice va nv vc, .slice oa no oc] 27)) := (Below.refl _ w3).alloc aRC _
 have T3 : Hid ((w3.alloc (.cells #[.slice va nv vc, .slice oa no oc] 27)).heap[w3.heap.size]? = some (.cells #[.slice va nv vc, .slice oa no oc] 27 (0, 0))) := bL (Below.refl _ _)
 generalize w3.alloc (.cells #[.slice va nv vc, .slice oa no oc] 27) = w4 at dY T3 ⊢
 have iA := aRA (bJ.out.next dY)
 have tK := aRA (Z6.out.below dY (by omega))
 have rZ := aRA (B9.out.below dY (by omega))
 have aQw : Hid (LC = 0 → uO w4 w2.heap.size w4.heap.size va nv vc oa no oc LZ LM) := fun h0 => ((d9.out h0).below dY aRC).more aRC dY.size
 have D1 := dY.size
 clear dY bJ Z6 B9 d9
 by_cases N7 : LC = 0
 rotate_left
 ·have en : (LC != 0) = true := by simpa using N7
  have h3 := iY.out; rw [if_neg N7] at h3; injection h3 with e1 h4; injection h4 with e2 e3; subst e1 e2 e3; have HN0 := aRA N7; clear N7; obtain ⟨q0, q1⟩ := pair_cells iA.out.fst
  go_wp2_with fail
  refine (aEc w4 B av ao 4 cv l.length co xs l tK.out rZ.out (by omega) kS.out.2.2 rO.out.2.2 (by omega) (by omega)).mono ?_
  rintro e w5 ⟨ra, rc, sa, sc, rfl, ho1, ho2, bE, J4, hq2⟩; have aQv : Hid (uO w5 w4.heap.size w5.heap.size ra xs.length rc sa l.length sc xs l) := ⟨rfl, rfl, ho1, ho2, J4, hq2⟩; clear ho1 ho2 J4 hq2; have yI := aRA (iA.out.next bE); have hs5 := bE.size; clear bE iA tK rZ q0 q1; obtain ⟨r0, r1⟩ := pair_cells yI.out.res; obtain ⟨f0, f1⟩ := aD yI.out.res; obtain ⟨bV, jZ⟩ := yI.out.outN (w1 := w4) (va := ra) (nv := xs.length) (vc := rc) (oa := sa) (no := l.length) (oc := sc) (code := LC) (zs := xs) (m := l) (by omega) aQv.out
  go_wp2
  generalize (w5.setCell ⟨w.heap.size + 1 + 1, 0, none⟩ (.slice ra xs.length rc)).setCell ⟨w.heap.size + 1 + 1, 1, none⟩ (.slice sa l.length sc) = wf at bV jZ ⊢; obtain ⟨p0, p1⟩ := pair_cells bV.out; exact bodyPost_ret (v := .tuple #[.agg #[.slice ra xs.length rc, .slice sa l.length sc], .int .i64 (LC)]) (by simp [results, Tryz.results18, go_sem, p0, p1]) rfl jZ.out
 subst N7
 have h3 := iY.out
 rw [if_pos rfl] at h3
 injection h3 with e1 h4
 injection h4 with e2 e3
 subst e1 e2 e3
 obtain ⟨n0, n1⟩ := pair_cells T3.out
 obtain ⟨r0, r1⟩ := pair_cells iA.out.res
 obtain ⟨f0, f1⟩ := aD iA.out.res
 obtain ⟨bV, jZ⟩ := iA.out.outN (w1 := w2) (va := va) (nv := nv) (vc := vc) (oa := oa) (no := no) (oc := oc) (code := 0) (zs := LZ) (m := LM) (by omega) (aQw.out rfl)
 go_wp2
 generalize (w4.setCell ⟨w.heap.size + 1 + 1, 0, none⟩ (.slice va nv vc)).setCell ⟨w.heap.size + 1 + 1, 1, none⟩ (.slice oa no oc) = wf at bV jZ ⊢
 obtain ⟨p0, p1⟩ := pair_cells bV.out
 exact bodyPost_ret (v := .tuple #[.agg #[.slice va nv vc, .slice oa no oc], .int .i64 (0)]) (by simp [results, Tryz.results18, go_sem, p0, p1]) rfl jZ.out
end Go.Proofs.YthkagbnpcjidfaaGreatDoor
