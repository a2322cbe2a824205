/- Walks and mathematics that several claims share, part 46. -/
import Derived.Test.YtjokbaaommicmaaGreatDoorGb38
import Derived.Test.YtjokbaaommicmaaGreatDoorGb42
import Derived.Test.YtjokbaaommicmaaGreatDoorGb45
import Derived.Test.YtjokbaaommicmaaGreatDoorGb40
import Derived.Test.YtjokbaaommicmaaGreatDoorGb13
import Derived.Deep.Cut
import Derived.Test.YtjokbaaommicmaaGreatDoorGbA
namespace Go.Proofs.YtjokbaaommicmaaGreatDoor
set_option maxRecDepth 100000
open Go.RowKit
set_option linter.unusedVariables false
set_option linter.unusedSimpArgs false

theorem clr_skip {xs : List Int} {l : List OpV} {d k : Nat} {L : List ByteArray} {s : ByteArray} (hs : s = L.getD k ⟨#[]⟩) (h : savedL l s = true) : clrTo xs l d L (k + 1) = clrTo xs l d L k := by
 show (clrTo xs l d L k).bind (clrStep l d (L.getD k ⟨#[]⟩)) = _
 rw [← hs]
 cases clrTo xs l d L k with
 | none => rfl
 | some q => show clrStep l d s q = _; unfold clrStep; rw [if_pos h]
theorem clr_full {xs : List Int} {l : List OpV} {d k : Nat} {L : List ByteArray} {s : ByteArray} {zs : List Int} {m : List OpV} (hs : s = L.getD k ⟨#[]⟩) (h : savedL l s = false) (hst : ∃ c, clrTo xs l d L k = some (zs, m, c)) (hok : false = (nextOp zs m d (remOp l s)).ok) (hk : k < L.length) : clrTo xs l d L L.length = none := by
 obtain ⟨c, hst⟩ := hst
 have e : clrTo xs l d L (k + 1) = none := by
  show (clrTo xs l d L k).bind (clrStep l d (L.getD k ⟨#[]⟩)) = _
  rw [← hs, hst]
  show clrStep l d s (zs, m, c) = _
  unfold clrStep
  rw [if_neg (by rw [h]; decide)]
  dsimp only
  rw [if_neg (by rw [← hok]; decide)]
 have := clrTo_none e (L.length - (k + 1))
 rwa [Nat.add_sub_cancel' (by omega : k + 1 ≤ L.length)] at this
theorem clr_put {xs : List Int} {l : List OpV} {d k : Nat} {L : List ByteArray} {s : ByteArray} {zs zs' : List Int} {m m' : List OpV} (hs : s = L.getD k ⟨#[]⟩) (h : savedL l s = false) (hst : ∃ c, clrTo xs l d L k = some (zs, m, c)) (hok : true = (nextOp zs m d (remOp l s)).ok) (hz : zs' = putV zs d) (hm : m' = putL m d (nextOp zs m d (remOp l s))) : clrTo xs l d L (k + 1) = some (zs', m', 0) := by
 obtain ⟨c, hst⟩ := hst
 show (clrTo xs l d L k).bind (clrStep l d (L.getD k ⟨#[]⟩)) = _
 rw [← hs, hst]
 show clrStep l d s (zs, m, c) = _
 unfold clrStep
 rw [if_neg (by rw [h]; decide)]
 dsimp only
 rw [if_pos hok.symm, ← hz, ← hm]
/-- What the loop of l6Clear keeps: block nb holds the cart of now; when the code is 0 it is the call's own. -/
structure ClrX (w w1 wr : World) (nb : Nat) (code : Value) (k : Nat) (st : Option (List Int × List OpV × Int)) : Prop where
 bel : Below w.heap.size w wr
 size : w1.heap.size ≤ wr.heap.size
 kept : ∀ j, j < w1.heap.size → j ≠ nb → wr.heap[j]? = w1.heap[j]?
 now : ∃ zs m va vc oa oc, wr.heap[nb]? = some (.cells #[.slice va 4 vc, .slice oa m.length oc] 32 (0, 0)) ∧ Ints wr wr.heap.size va 4 zs ∧ Ops wr wr.heap.size oa m.length m ∧ Caps va 4 vc ∧ Caps oa m.length oc ∧ Bnd zs m (160 + k) ∧ ((code = .int .i64 2 ∧ st = some (zs, m, 2)) ∨ (code = .int .i64 0 ∧ st = some (zs, m, 0) ∧ Own wr (nb + 1) wr.heap.size va 4 zs ∧ OwnOps wr (nb + 1) wr.heap.size oa m.length m))
theorem ClrX.step {w w1 wr w2 : World} {nb : Nat} {code : Value} {k : Nat} {st : Option (List Int × List OpV × Int)} (h : ClrX w w1 wr nb code k st) (hw : nb < w1.heap.size) (hb : Below wr.heap.size wr w2) : ClrX w w1 w2 nb code k st := by
 have hs := h.size
 have hs2 := hb.size
 have hs3 := h.bel.size
 obtain ⟨zs, m, va, vc, oa, oc, e, hi, ho, c1, c2, hB, hc⟩ := h.now
 refine ⟨h.bel.trans (hb.mono hs3), by omega, fun j h1 h2 => (hb.block j (by omega)).trans (h.kept j h1 h2), zs, m, va, vc, oa, oc, (hb.block _ (by omega)).trans e, (hi.below hb (Nat.le_refl _)).more hs2, (ho.below hb (Nat.le_refl _)).more hs2, c1, c2, hB, ?_⟩
 rcases hc with hc | ⟨hc, hst, h1, h2⟩
 ·exact .inl hc
 ·exact .inr ⟨hc, hst, (h1.below hb (Nat.le_refl _)).more (Nat.le_refl _) hs2, (h2.below hb (Nat.le_refl _)).more (Nat.le_refl _) hs2⟩
theorem ClrX.more {w w1 wr : World} {nb : Nat} {code : Value} {k k' : Nat} {st st' : Option (List Int × List OpV × Int)} (h : ClrX w w1 wr nb code k st) (hk : k ≤ k') (hs : st' = st) : ClrX w w1 wr nb code k' st' := by
 subst hs
 obtain ⟨zs, m, va, vc, oa, oc, e, hi, ho, c1, c2, hB, hc⟩ := h.now
 exact ⟨h.bel, h.size, h.kept, zs, m, va, vc, oa, oc, e, hi, ho, c1, c2, hB.more (by omega), hc⟩
theorem ClrX.put {w w1 wr : World} {nb : Nat} {code : Value} {k k' : Nat} {st st' : Option (List Int × List OpV × Int)} (h : ClrX w w1 wr nb code k st) (hw : w.heap.size ≤ nb) {zs : List Int} {m : List OpV} {va oa : Option Addr} {vc oc lo hi : Nat} (h1 : Own wr lo hi va 4 zs) (h2 : OwnOps wr lo hi oa m.length m) (hlo : nb + 1 ≤ lo) (hhi : hi ≤ wr.heap.size) (c1 : Caps va 4 vc) (c2 : Caps oa m.length oc) (hB : Bnd zs m (160 + k')) (hst : st' = some (zs, m, 0)) :
  ClrX w w1 ((wr.setCell ⟨nb, 0, none⟩ (.slice va 4 vc)).setCell ⟨nb, 1, none⟩ (.slice oa m.length oc)) nb (.int .i64 0) k' st' := by
 have hs := h.size
 obtain ⟨zs', m', va', vc', oa', oc', e, _⟩ := h.now
 have hz := pair_size wr nb (.slice va 4 vc) (.slice oa m.length oc)
 have g1 : Own ((wr.setCell ⟨nb, 0, none⟩ (.slice va 4 vc)).setCell ⟨nb, 1, none⟩ (.slice oa m.length oc)) lo hi va 4 zs := h1.kept fun j a1 a2 => pair_other _ _ (by omega)
 have g2 : OwnOps ((wr.setCell ⟨nb, 0, none⟩ (.slice va 4 vc)).setCell ⟨nb, 1, none⟩ (.slice oa m.length oc)) lo hi oa m.length m := h2.kept fun j a1 a2 => pair_other _ _ (by omega)
 refine ⟨(h.bel.setCell (p := ⟨nb, 0, none⟩) hw _).setCell (p := ⟨nb, 1, none⟩) hw _, by rw [hz]; exact hs, fun j a1 a2 => (pair_other _ _ a2).trans (h.kept j a1 a2), zs, m, va, vc, oa, oc, pair_set _ _ e, ?_, ?_, c1, c2, hB, .inr ⟨rfl, hst, ?_, ?_⟩⟩
 ·rw [hz]; exact g1.ints.more hhi
 ·rw [hz]; exact g2.ops.more hhi
 ·rw [hz]; exact g1.more hlo hhi
 ·rw [hz]; exact g2.more hlo hhi

theorem l6PutX (zs : List Int) (m : List OpV) (d N : Nat) (hN : N ≤ 99999) (o : OpV) (hB : Bnd zs m N) (hd : d < 4) (hi : o.item.size ≤ 1048576) :
  ∃ (ok : Bool) (zs' : List Int) (m' : List OpV), ok = (nextOp zs m d o).ok ∧ (ok = true → Bnd zs' m' (N + 1) ∧ zs' = putV zs d ∧ m' = putL m d (nextOp zs m d o)) ∧ ∀ (w : World) (B : Nat) (av ao : Option Addr) (cv co : Nat), Ints w B av 4 zs → Ops w B ao m.length m → B ≤ w.heap.size → Caps av 4 cv → Caps ao m.length co →
   Calls Tryz.prog 75 #[.agg #[.slice av 4 cv, .slice ao m.length co], .int .i64 (d : Int), .agg #[.int .i64 o.dev, .int .i64 o.seq, .int .i64 o.stamp, .int .i64 o.kind, .string o.item, .int .i64 o.qty, .int .i64 o.level, .int .i64 o.undos]] w (IssB ok zs' m' w) := by
 have hm := hB.most
 cases hok : (nextOp zs m d o).ok
 ·exact ⟨false, [], [], rfl, (fun h => by cases h), fun w B av ao cv co h1 h2 h3 h4 h5 => l6PutNo w B av ao cv m.length co d zs m o h1 h2 h3 h4.2.2 h5 hd (by omega) (hB.num d hd) hB.stamp hi hok⟩
 ·exact ⟨true, _, _, rfl, fun _ => ⟨hB.put hd hok, rfl, rfl⟩, fun w B av ao cv co h1 h2 h3 h4 h5 => l6PutYes w B av ao cv m.length co d zs m o h1 h2 h3 h4.2.2 h5 hd (by omega) (hB.num d hd) hB.stamp hi hok⟩
set_option maxHeartbeats 40000000 in
theorem l6ClearX0 (w : World) (B : Nat) (av ao : Option Addr) (cv no co d : Nat) (xs : List Int) (l : List OpV) (hx : Ints w B av 4 xs) (h : Ops w B ao no l) (hB : B ≤ w.heap.size) (hcv : Caps av 4 cv) (hco : Caps ao no co) (hd : d < 4) (hc : cartB xs l = true) (R : Int × List Int × List OpV) (hR : clrN xs l d = R) :
  Calls Tryz.prog 70 #[.agg #[.slice av 4 cv, .slice ao no co], .int .i64 (d : Int)] w (IssX R w) := by
 obtain rfl := h.1
 have hT := Two.mk0 w #[.slice av 4 cv, .slice ao l.length co] #[.slice none 0 0, .slice none 0 0] 32
 have hTs : ((w.alloc (.cells #[.slice av 4 cv, .slice ao l.length co] 32)).alloc (.cells #[.slice none 0 0, .slice none 0 0] 32)).heap.size = w.heap.size + 2 := by simp
 have HV := Lib.hid (hx.below hT.bel hB)
 have HO := Lib.hid (h.below hT.bel hB)
 have HT := Lib.hid hT
 have HTs := Lib.hid hTs
 have HOw := Lib.hid h
 have HC := Lib.hid hc
 have HCv := Lib.hid hcv
 have HCo := Lib.hid hco
 have HBn := Lib.hid (Bnd.of_cart hc)
 have hl := cart_length hc
 clear hx h hT hTs hc hcv hco
 go_enter Tryz.func70, Tryz.ntmps70
 go_upto_region 1 with fail
 generalize (w.alloc (.cells #[.slice av 4 cv, .slice ao l.length co] 32)).alloc (.cells #[.slice none 0 0, .slice none 0 0] 32) = w0 at HV HO HT HTs ⊢
 have hs0 := HT.out.bel.size
 obtain ⟨q0, q1⟩ := pair_cells HT.out.fst
 go_upto_region 3 with fail
 have hb1 : Below w0.heap.size w0 (w0.alloc (.cells #[.slice av 4 cv, .slice ao l.length co] 32)) := (Below.refl _ w0).alloc (Nat.le_refl _) _
 have HN1 : Hid ((w0.alloc (.cells #[.slice av 4 cv, .slice ao l.length co] 32)).heap[w0.heap.size]? = some (.cells #[.slice av 4 cv, .slice ao l.length co] 32 (0, 0))) := boxAt (Below.refl _ _)
 generalize w0.alloc (.cells #[.slice av 4 cv, .slice ao l.length co] 32) = w1 at hb1 HN1 ⊢
 have HT1 := Lib.hid (HT.out.next hb1)
 have HO1 := Lib.hid (HO.out.below hb1 (by omega))
 have HV1 := Lib.hid (HV.out.below hb1 (by omega))
 have hlt1 := lt_of_row HN1.out
 clear q0 q1 HT HO HV hb1
 generalize hnb : w0.heap.size = nb at HN1 hlt1 ⊢
 have hnb2 : w.heap.size + 1 < nb := by have := HTs.out; omega
 clear hnb HTs
 obtain ⟨q0, q1⟩ := pair_cells HT1.out.fst
 go_wp2_with fail
 refine (l5ItemsX w1 B av ao 4 cv l.length co xs l HO1.out (by omega) (by omega) HC.out).mono ?_
 rintro e w2 ⟨g, c, rfl, hso, hb2⟩
 have hLi : ∀ s, s ∈ namesTo l l.length → ∃ i, i < l.length ∧ s = (atOp l i).item := fun s hs => by
  obtain ⟨_, i, hi, e⟩ := (namesTo_mem l s l.length).1 hs
  exact ⟨i, hi, e.symm⟩
 have hLl : (namesTo l l.length).length ≤ l.length := namesTo_len l l.length
 have hStr := hso.strs
 have HR0 : Hid (match clrTo xs l d (namesTo l l.length) (namesTo l l.length).length with | none => R = (4, [], []) | some q => R = if q.2.2 = 0 then (0, q.1, q.2.1) else (2, [], [])) := by
  rw [← hR]
  show match clrTo xs l d (namesTo l l.length) (namesTo l l.length).length with | none => _ | some q => _
  unfold clrN
  cases clrTo xs l d (namesTo l l.length) (namesTo l l.length).length <;> rfl
 clear hso hR
 generalize namesTo l l.length = L at hLi hLl hStr HR0 ⊢
 have HI8 : Hid (∀ i, i < L.length → (L.getD i ⟨#[]⟩).size ≤ 8) := fun i hi => by
  rw [List.getD_eq_getElem?_getD, List.getElem?_eq_getElem hi]
  obtain ⟨j, hj, e⟩ := hLi _ (List.getElem_mem hi)
  show (L[i]).size ≤ 8
  rw [e]
  exact (op_bounds (cart_op HC.out hj)).2.2.2.2.1
 have HStr := Lib.hid hStr
 have HT2 := Lib.hid (HT1.out.next hb2)
 have HN2 := Lib.hid ((hb2.block _ hlt1).trans HN1.out)
 have hs2 := hb2.size
 have HOw2 := Lib.hid (HO1.out.below hb2 (by omega))
 have HI0 : Hid (ClrX w w2 w2 nb (.int .i64 2) 0 (clrTo xs l d L 0)) := ⟨HT2.out.bel, Nat.le_refl _, fun _ _ _ => rfl, xs, l, av, cv, ao, co, HN2.out, (HV1.out.below hb2 (by omega)).more (by omega), HOw2.out.more (by omega), HCv.out, HCo.out, HBn.out, .inl ⟨rfl, rfl⟩⟩
 clear hStr hLi hb2 HT1 HO1 HV1 HN1 q0 q1
 go_wp2
 go_loopw [7, 9] (fun cc i wr => ∃ (k : Nat) (cx : Value), k ≤ L.length ∧ cx = cc ∧ i = .int .i64 (k : Int) ∧ Hid (ClrX w w2 wr nb cx k (clrTo xs l d L k))) (fun _ i _ => L.length - (intOf i).toNat)
 case atStart => exact ⟨0, _, Nat.zero_le _, rfl, rfl, HI0.out⟩
 case round =>
  obtain ⟨k, cd, hk, hcd, rfl, HI⟩ := hrel
  subst hcd
  clear HI0
  have hsr := HI.out.size
  have HX := Lib.hid ((HI.out.kept w.heap.size (by omega) (by omega)).trans HT2.out.fst)
  have HR := Lib.hid ((HI.out.kept (w.heap.size + 1) (by omega) (by omega)).trans HT2.out.snd)
  by_cases hlt : k < L.length
  rotate_left
  ·obtain rfl : k = L.length := by omega
   obtain ⟨zs, m, va, vc, oa, oc, e, hi, ho, c1, c2, hBn, hcode⟩ := HI.out.now
   have HR1 := HR0.out
   obtain ⟨n0, n1⟩ := pair_cells e
   rcases hcode with ⟨rfl, hst⟩ | ⟨rfl, hst, g1, g2⟩
   ·rw [hst] at HR1
    have hRe : R = (2, [], []) := HR1
    subst hRe
    clear HR0 HR1
    obtain ⟨r0, r1⟩ := pair_cells HR.out
    obtain ⟨f0, f1⟩ := pair_frozen HR.out
    have HX6 := Lib.hid (pair_set (.slice va 4 vc) (.slice oa m.length oc) HR.out)
    have HB6 : Hid (Below w.heap.size w ((wr.setCell ⟨w.heap.size + 1, 0, none⟩ (.slice va 4 vc)).setCell ⟨w.heap.size + 1, 1, none⟩ (.slice oa m.length oc))) := HI.out.bel.trans ((below_set2 wr (w.heap.size + 1) 0 1 _ _).mono (by omega))
    go_wp2
    generalize (wr.setCell ⟨w.heap.size + 1, 0, none⟩ (.slice va 4 vc)).setCell ⟨w.heap.size + 1, 1, none⟩ (.slice oa m.length oc) = wf at HX6 HB6 ⊢
    obtain ⟨p0, p1⟩ := pair_cells HX6.out
    exact bodyPost_ret (v := .tuple #[.agg #[.slice va 4 vc, .slice oa m.length oc], .int .i64 2]) (by simp [results, Tryz.results70, go_sem, p0, p1]) rfl ⟨va, 4, vc, oa, m.length, oc, rfl, HB6.out, fun h => absurd h (by decide)⟩
   ·rw [hst] at HR1
    have hRe : R = (0, zs, m) := HR1
    subst hRe
    clear HR0 HR1
    obtain ⟨r0, r1⟩ := pair_cells HR.out
    obtain ⟨f0, f1⟩ := pair_frozen HR.out
    have HX6 := Lib.hid (pair_set (.slice va 4 vc) (.slice oa m.length oc) HR.out)
    have HB6 : Hid (Below w.heap.size w ((wr.setCell ⟨w.heap.size + 1, 0, none⟩ (.slice va 4 vc)).setCell ⟨w.heap.size + 1, 1, none⟩ (.slice oa m.length oc))) := HI.out.bel.trans ((below_set2 wr (w.heap.size + 1) 0 1 _ _).mono (by omega))
    have hz6 := Lib.hid (pair_size wr (w.heap.size + 1) (.slice va 4 vc) (.slice oa m.length oc))
    have HC6 : Hid (4 = zs.length ∧ Own ((wr.setCell ⟨w.heap.size + 1, 0, none⟩ (.slice va 4 vc)).setCell ⟨w.heap.size + 1, 1, none⟩ (.slice oa m.length oc)) w.heap.size ((wr.setCell ⟨w.heap.size + 1, 0, none⟩ (.slice va 4 vc)).setCell ⟨w.heap.size + 1, 1, none⟩ (.slice oa m.length oc)).heap.size va 4 zs ∧ OwnOps ((wr.setCell ⟨w.heap.size + 1, 0, none⟩ (.slice va 4 vc)).setCell ⟨w.heap.size + 1, 1, none⟩ (.slice oa m.length oc)) w.heap.size ((wr.setCell ⟨w.heap.size + 1, 0, none⟩ (.slice va 4 vc)).setCell ⟨w.heap.size + 1, 1, none⟩ (.slice oa m.length oc)).heap.size oa m.length m ∧ Caps va 4 vc ∧ Caps oa m.length oc) := ⟨g1.1.symm, (g1.kept fun j a1 a2 => pair_other _ _ (by omega)).more (by omega) (by rw [hz6.out]; exact Nat.le_refl _), (g2.kept fun j a1 a2 => pair_other _ _ (by omega)).more (by omega) (by rw [hz6.out]; exact Nat.le_refl _), c1, c2⟩
    go_wp2
    generalize (wr.setCell ⟨w.heap.size + 1, 0, none⟩ (.slice va 4 vc)).setCell ⟨w.heap.size + 1, 1, none⟩ (.slice oa m.length oc) = wf at HX6 HB6 HC6 ⊢
    obtain ⟨p0, p1⟩ := pair_cells HX6.out
    exact bodyPost_ret (v := .tuple #[.agg #[.slice va 4 vc, .slice oa m.length oc], .int .i64 0]) (by simp [results, Tryz.results70, go_sem, p0, p1]) rfl ⟨va, 4, vc, oa, m.length, oc, rfl, HB6.out, fun _ => ⟨HC6.out.1, rfl, HC6.out.2⟩⟩
  obtain ⟨b', off', e, hbs, hcc⟩ := HStr.out.2 k hlt
  injection e with e
  injection e with e1 e2
  subst e1 e2
  rw [Nat.zero_add] at hcc
  have hi8 := HI8.out k hlt
  obtain ⟨s, hs⟩ : ∃ s, s = L.getD k ⟨#[]⟩ := ⟨_, rfl⟩
  rw [← hs] at hcc hi8
  have HSe := Lib.hid hs
  clear hs
  have hgn : g ≠ nb := by
   intro e
   rw [e, cell_of_row _ _ _ _ _ _ HN2.out] at hcc
   have hk2 : k < 2 := (Array.getElem?_eq_some_iff.1 hcc).1
   rcases (by omega : k = 0 ∨ k = 1) with rfl | rfl
   ·simp at hcc
   ·simp at hcc
  have HCell : Hid (∀ z, ClrX w w2 z nb cd k (clrTo xs l d L k) → z.cell? ⟨g, k, none⟩ = some (.string s)) := fun z hz => (World.cell?_of_block (a := ⟨g, k, none⟩) (hz.kept g hbs hgn)).trans hcc
  have hki : (k : Int) < (L.length : Int) := by omega
  have hk0 : decide ((k : Int) < 0) = false := decide_eq_false (by omega)
  have hk00 : ¬ ((k : Int) < 0) := by omega
  obtain ⟨u, hue⟩ : ∃ u, levTo s l l.length = u := ⟨_, rfl⟩
  have hu0 := levTo_pos s l l.length
  have hu1 := cart_level HC.out s l.length (Nat.le_refl _)
  rw [hue] at hu0 hu1
  have hwu : IntKind.i64.wrap (u + 1) = u + 1 := IntWalk.i64_in _ (by omega)
  have HU := Lib.hid hue
  clear hcc hue
  have hS : wr.drew.cell? ⟨w.heap.size, 0, none⟩ = some (.slice av 4 cv) ∧ wr.drew.cell? ⟨w.heap.size, 1, none⟩ = some (.slice ao l.length co) ∧ wr.drew.cell? ⟨g, k, none⟩ = some (.string s) := ⟨(pair_cells HX.out).1, (pair_cells HX.out).2, HCell.out wr HI.out⟩
  go_wp2_with fail
  refine wp_region_held_drew (S := fun w' => w'.cell? ⟨w.heap.size, 0, none⟩ = some (.slice av 4 cv) ∧ w'.cell? ⟨w.heap.size, 1, none⟩ = some (.slice ao l.length co) ∧ w'.cell? ⟨g, k, none⟩ = some (.string s)) (by kernel_rfl) hS (fun hHeld => ?_)
  refine tk 0 ⟨some 21, .load 32 (.tmp 2), 32, "l06_commands.go:126", #[], none⟩ ?_
  (try simp only [Act.put, u1, u2, u3])
  refine tk 1 ⟨some 22, .move (.tmp 8), 132, "l06_commands.go:126", #[], none⟩ ?_
  (try simp only [Act.put, u1, u2, u3])
  refine tk 2 ⟨some 23, .move (.tmp 9), 3, "l06_commands.go:126", #[], none⟩ ?_
  (try simp only [Act.put, u1, u2, u3])
  refine tk 3 ⟨some 24, .indexAddr 132 (.tmp 22) (.tmp 23), 0, "l06_commands.go:126", #[⟨1, .data⟩, ⟨2, .data⟩], none⟩ ?_
  (try simp only [Act.put, u1, u2, u3])
  refine tk 4 ⟨some 25, .load 9 (.tmp 24), 9, "l06_commands.go:126", #[⟨3, .data⟩], none⟩ ?_
  (try simp only [Act.put, u1, u2, u3])
  refine rk 5 rfl (fun K hK => ?_)
  go_simp
  go_at_call 92
  refine (l5Saved wr.drew B av ao 4 cv l.length co xs l s ((HOw.out.below HI.out.bel hB).kept (w' := wr.drew) fun _ _ => rfl) (by show B ≤ wr.heap.size; omega) (by omega) HC.out).mono ?_
  rintro e z1 ⟨rfl, hbz⟩
  have hz1 : Below wr.heap.size wr z1 := Below.mk hbz.os hbz.tape hbz.output hbz.size hbz.block
  have HI1 := Lib.hid (HI.out.step (by omega) hz1)
  have hsr1 := HI1.out.size
  have HX1 := Lib.hid ((HI1.out.kept w.heap.size (by omega) (by omega)).trans HT2.out.fst)
  have HR1 := Lib.hid ((HI1.out.kept (w.heap.size + 1) (by omega) (by omega)).trans HT2.out.snd)
  have hS1 : z1.cell? ⟨w.heap.size, 0, none⟩ = some (.slice av 4 cv) ∧ z1.cell? ⟨w.heap.size, 1, none⟩ = some (.slice ao l.length co) ∧ z1.cell? ⟨g, k, none⟩ = some (.string s) := ⟨(pair_cells HX1.out).1, (pair_cells HX1.out).2, HCell.out z1 HI1.out⟩
  have HSv0 : Hid (savedL l s = decide ((bestTo plcB s l l.length).kind = 4)) := rfl
  generalize decide ((bestTo plcB s l l.length).kind = 4) = sv at HSv0 ⊢
  clear hz1 hbz HX HR hS
  refine hK.out _ _ hS1 (fun hHeld2 => ?_)
  clear hK K
  (try simp only [Act.put, u1, u2, u3])
  refine wpAnyH_done (by kernel_rfl) ?_ _
  clear hHeld hHeld2 HI
  cases sv
  rotate_left
  ·go_wp2
   go_roundw
   case rel => exact ⟨k + 1, _, by omega, rfl, by go_num, HI1.out.more (by omega) (clr_skip HSe.out HSv0.out)⟩
   case measure => simp [intOf]; omega
  obtain ⟨zs, m, va, vc, oa, oc, he, hi, ho, c1, c2, hBn, hcode⟩ := HI1.out.now
  have HE := Lib.hid he
  have HVi := Lib.hid hi
  have HOi := Lib.hid ho
  have HC1 := Lib.hid c1
  have HC2 := Lib.hid c2
  have HBd := Lib.hid hBn
  obtain ⟨okk, zs', m', hokk, hput⟩ := l6PutX zs m d (160 + k) (by omega) ⟨0, 0, 0, 3, s, 0, u + 1, 0⟩ HBd.out hd (by show s.size ≤ 1048576; omega)
  have HSt : Hid (∃ c, clrTo xs l d L k = some (zs, m, c)) := by
   rcases hcode with ⟨_, h⟩ | ⟨_, h, _⟩
   ·exact ⟨_, h⟩
   ·exact ⟨_, h⟩
  have HOk : Hid (okk = (nextOp zs m d (remOp l s)).ok) := by
   unfold remOp
   rw [HU.out]
   exact hokk
  have hput2 : (okk = true → Bnd zs' m' (160 + k + 1) ∧ zs' = putV zs d ∧ m' = putL m d (nextOp zs m d (remOp l s))) := by
   unfold remOp
   rw [HU.out]
   exact hput.1
  replace hput := And.intro hput2 hput.2
  clear hput2 hokk
  dsimp only at hput
  have HPut := Lib.hid hput
  clear he hi ho c1 c2 hBn hcode hput hS1
  go_upto_region 8 with fail
  obtain ⟨y0, hy0e⟩ : ∃ y0, z1.drew = y0 := ⟨_, rfl⟩
  have hy0 : Below z1.heap.size z1 y0 := by rw [← hy0e]; exact ⟨rfl, rfl, rfl, Nat.le_refl _, fun _ _ => rfl⟩
  have Sy0 : y0.cell? ⟨w.heap.size, 0, none⟩ = some (.slice av 4 cv) ∧ y0.cell? ⟨w.heap.size, 1, none⟩ = some (.slice ao l.length co) ∧ y0.cell? ⟨g, k, none⟩ = some (.string s) ∧ y0.cell? ⟨nb, 0, none⟩ = some (.slice va 4 vc) ∧ y0.cell? ⟨nb, 1, none⟩ = some (.slice oa m.length oc) := by
   have hII := HI1.out.step (by omega) hy0
   exact ⟨(pair_cells ((hII.kept w.heap.size (by omega) (by omega)).trans HT2.out.fst)).1, (pair_cells ((hII.kept w.heap.size (by omega) (by omega)).trans HT2.out.fst)).2, HCell.out _ hII, (hy0.cell (block_lt_of_cell (pair_cells HE.out).1)).trans (pair_cells HE.out).1, (hy0.cell (block_lt_of_cell (pair_cells HE.out).2)).trans (pair_cells HE.out).2⟩
  refine wp_region_held_drew (S := fun w' => w'.cell? ⟨w.heap.size, 0, none⟩ = some (.slice av 4 cv) ∧ w'.cell? ⟨w.heap.size, 1, none⟩ = some (.slice ao l.length co) ∧ w'.cell? ⟨g, k, none⟩ = some (.string s) ∧ w'.cell? ⟨nb, 0, none⟩ = some (.slice va 4 vc) ∧ w'.cell? ⟨nb, 1, none⟩ = some (.slice oa m.length oc)) (by kernel_rfl) (by rw [hy0e]; exact Sy0) (fun hHeld => ?_)
  rw [hy0e]
  clear hHeld hy0e
  refine tk 0 ⟨some 28, .load 32 (.tmp 6), 32, "l06_commands.go:129", #[], none⟩ ?_
  (try simp only [Act.put, u1, u2, u3])
  refine tk 1 ⟨some 29, .move (.tmp 1), 2, "l06_commands.go:129", #[], none⟩ ?_
  (try simp only [Act.put, u1, u2, u3])
  refine tk 2 ⟨some 30, .move (.tmp 8), 132, "l06_commands.go:129", #[], none⟩ ?_
  (try simp only [Act.put, u1, u2, u3])
  refine tk 3 ⟨some 31, .move (.tmp 9), 3, "l06_commands.go:129", #[], none⟩ ?_
  (try simp only [Act.put, u1, u2, u3])
  refine tk 4 ⟨some 32, .indexAddr 132 (.tmp 30) (.tmp 31), 0, "l06_commands.go:129", #[⟨2, .data⟩, ⟨3, .data⟩], none⟩ ?_
  (try simp only [Act.put, u1, u2, u3])
  refine tk 5 ⟨some 33, .load 9 (.tmp 32), 9, "l06_commands.go:129", #[⟨4, .data⟩], none⟩ ?_
  (try simp only [Act.put, u1, u2, u3])
  refine tk 6 ⟨some 34, .load 32 (.tmp 2), 32, "l06_commands.go:129", #[], none⟩ ?_
  (try simp only [Act.put, u1, u2, u3])
  refine tk 7 ⟨some 35, .move (.tmp 8), 132, "l06_commands.go:129", #[], none⟩ ?_
  (try simp only [Act.put, u1, u2, u3])
  refine tk 8 ⟨some 36, .move (.tmp 9), 3, "l06_commands.go:129", #[], none⟩ ?_
  (try simp only [Act.put, u1, u2, u3])
  refine tk 9 ⟨some 37, .indexAddr 132 (.tmp 35) (.tmp 36), 0, "l06_commands.go:129", #[⟨7, .data⟩, ⟨8, .data⟩], none⟩ ?_
  (try simp only [Act.put, u1, u2, u3])
  refine tk 10 ⟨some 38, .load 9 (.tmp 37), 9, "l06_commands.go:129", #[⟨9, .data⟩], none⟩ ?_
  (try simp only [Act.put, u1, u2, u3])
  refine wpAnyH_ready (rs := [11, 18]) (by kernel_rfl) (by simp) ?_
  refine (AllReadyH.cons rfl (fun K hK => ?_) (AllReadyH.cons rfl (fun K hK => ?_) AllReadyH.nil))
  ·skip
   go_simp
   go_at_call 93
   refine (l5Level y0 B av ao 4 cv l.length co xs l s (HOw.out.below (HI1.out.bel.trans (hy0.mono (by omega))) hB) (by have := hy0.size; omega) (by omega) HC.out).mono ?_
   rw [HU.out]
   rintro e y1 ⟨rfl, hbc⟩
   have hy1 : Below z1.heap.size z1 y1 := hy0.trans (hbc.mono hy0.size)
   have Sy1 : y1.cell? ⟨w.heap.size, 0, none⟩ = some (.slice av 4 cv) ∧ y1.cell? ⟨w.heap.size, 1, none⟩ = some (.slice ao l.length co) ∧ y1.cell? ⟨g, k, none⟩ = some (.string s) ∧ y1.cell? ⟨nb, 0, none⟩ = some (.slice va 4 vc) ∧ y1.cell? ⟨nb, 1, none⟩ = some (.slice oa m.length oc) := by
    have hII := HI1.out.step (by omega) hy1
    exact ⟨(pair_cells ((hII.kept w.heap.size (by omega) (by omega)).trans HT2.out.fst)).1, (pair_cells ((hII.kept w.heap.size (by omega) (by omega)).trans HT2.out.fst)).2, HCell.out _ hII, (hy1.cell (block_lt_of_cell (pair_cells HE.out).1)).trans (pair_cells HE.out).1, (hy1.cell (block_lt_of_cell (pair_cells HE.out).2)).trans (pair_cells HE.out).2⟩
   refine hK.out _ _ Sy1 (fun hHeldC => ?_)
   clear hK K hHeldC hbc
   (try simp only [Act.put, u1, u2, u3])
   refine tk 12 ⟨some 40, .binOp .add 2 (.tmp 39) (.const (Value.int IntKind.i64 1)) 2, 2, "l06_commands.go:129", #[⟨11, .data⟩], none⟩ ?_
   (try simp only [Act.put, u1, u2, u3])
   refine tk 13 ⟨some 41, .build 93 #[(3, .const (Value.int IntKind.i64 3)), (4, .tmp 33), (6, .tmp 40)], 93, "l06_commands.go:129", #[⟨5, .data⟩, ⟨12, .data⟩], none⟩ ?_
   (try simp only [Act.put, u1, u2, u3])
   refine wpAnyH_ready (rs := [14, 18]) (by kernel_rfl) (by simp) ?_
   refine (AllReadyH.cons rfl (fun K hK => ?_) (AllReadyH.cons rfl (fun K hK => ?_) AllReadyH.nil))
   ·skip
    go_simp
    go_at_call 75
    refine (HPut.out.2 y1 y1.heap.size va oa vc oc ((HVi.out.below hy1 (Nat.le_refl _)).more hy1.size) ((HOi.out.below hy1 (Nat.le_refl _)).more hy1.size) (Nat.le_refl _) HC1.out HC2.out).mono ?_
    rintro e y2 ⟨pva, pvc, poa, poc, rfl, hov, hop, hbc, d1, d2⟩
    have hy2 : Below z1.heap.size z1 y2 := hy1.trans (hbc.mono hy1.size)
    have Sy2 : y2.cell? ⟨w.heap.size, 0, none⟩ = some (.slice av 4 cv) ∧ y2.cell? ⟨w.heap.size, 1, none⟩ = some (.slice ao l.length co) ∧ y2.cell? ⟨g, k, none⟩ = some (.string s) ∧ y2.cell? ⟨nb, 0, none⟩ = some (.slice va 4 vc) ∧ y2.cell? ⟨nb, 1, none⟩ = some (.slice oa m.length oc) := by
     have hII := HI1.out.step (by omega) hy2
     exact ⟨(pair_cells ((hII.kept w.heap.size (by omega) (by omega)).trans HT2.out.fst)).1, (pair_cells ((hII.kept w.heap.size (by omega) (by omega)).trans HT2.out.fst)).2, HCell.out _ hII, (hy2.cell (block_lt_of_cell (pair_cells HE.out).1)).trans (pair_cells HE.out).1, (hy2.cell (block_lt_of_cell (pair_cells HE.out).2)).trans (pair_cells HE.out).2⟩
    have hvy2 := Lib.hid hov
    have hoy2 := Lib.hid hop
    have HD1 := Lib.hid d1
    have HD2 := Lib.hid d2
    have hpz := hbc.size
    refine hK.out _ _ Sy2 (fun hHeldP => ?_)
    clear hK K hHeldP hbc hov hop d1 d2
    (try simp only [Act.put, u1, u2, u3])
    refine tk 15 ⟨some 27, .move (.tmp 42), 107, "l06_commands.go:129", #[⟨14, .data⟩], none⟩ ?_
    (try simp only [Act.put, u1, u2, u3])
    refine tk 16 ⟨some 43, .extract (.tmp 27) 0, 32, "l06_commands.go:129", #[⟨15, .data⟩], none⟩ ?_
    (try simp only [Act.put, u1, u2, u3])
    refine tk 17 ⟨some 44, .extract (.tmp 27) 1, 4, "l06_commands.go:129", #[⟨15, .data⟩, { on := 19, ground := Ground.gcOnly Departure.lateStores }], none⟩ ?_
    (try simp only [Act.put, u1, u2, u3])
    refine wpAnyH_ready (rs := [18]) (by kernel_rfl) (by simp) ?_
    refine (AllReadyH.cons rfl (fun K hK => ?_) AllReadyH.nil)
    have hal : Below y2.heap.size y2 (y2.alloc (.cells #[.slice none 0 0, .slice none 0 0] 32)) := bl
    have hxn := boxAt (Below.refl _ (y2.alloc (.cells #[.slice none 0 0, .slice none 0 0] 32)))
    have hxs : y2.heap.size < (y2.alloc (.cells #[.slice none 0 0, .slice none 0 0] 32)).heap.size := by show _ < (y2.heap.push _).size; simp
    have hga : Below z1.heap.size z1 (y2.alloc (.cells #[.slice none 0 0, .slice none 0 0] 32)) := hy2.trans (hal.mono hy2.size)
    have SA : (y2.alloc (.cells #[.slice none 0 0, .slice none 0 0] 32)).cell? ⟨w.heap.size, 0, none⟩ = some (.slice av 4 cv) ∧ (y2.alloc (.cells #[.slice none 0 0, .slice none 0 0] 32)).cell? ⟨w.heap.size, 1, none⟩ = some (.slice ao l.length co) ∧ (y2.alloc (.cells #[.slice none 0 0, .slice none 0 0] 32)).cell? ⟨g, k, none⟩ = some (.string s) ∧ (y2.alloc (.cells #[.slice none 0 0, .slice none 0 0] 32)).cell? ⟨nb, 0, none⟩ = some (.slice va 4 vc) ∧ (y2.alloc (.cells #[.slice none 0 0, .slice none 0 0] 32)).cell? ⟨nb, 1, none⟩ = some (.slice oa m.length oc) := by
     have hII := HI1.out.step (by omega) hga
     exact ⟨(pair_cells ((hII.kept w.heap.size (by omega) (by omega)).trans HT2.out.fst)).1, (pair_cells ((hII.kept w.heap.size (by omega) (by omega)).trans HT2.out.fst)).2, HCell.out _ hII, (hga.cell (block_lt_of_cell (pair_cells HE.out).1)).trans (pair_cells HE.out).1, (hga.cell (block_lt_of_cell (pair_cells HE.out).2)).trans (pair_cells HE.out).2⟩
    go_simp
    refine hK.out _ _ SA (fun hHeldA => ?_)
    clear hK K hHeldA
    (try simp only [Act.put, u1, u2, u3])
    generalize hzn : y2.alloc (.cells #[.slice none 0 0, .slice none 0 0] 32) = y3 at hal hxn hxs ⊢
    clear hzn SA hga
    have hy3 : Below z1.heap.size z1 y3 := hy2.trans (hal.mono hy2.size)
    have Sy3 : y3.cell? ⟨w.heap.size, 0, none⟩ = some (.slice av 4 cv) ∧ y3.cell? ⟨w.heap.size, 1, none⟩ = some (.slice ao l.length co) ∧ y3.cell? ⟨g, k, none⟩ = some (.string s) ∧ y3.cell? ⟨nb, 0, none⟩ = some (.slice va 4 vc) ∧ y3.cell? ⟨nb, 1, none⟩ = some (.slice oa m.length oc) := by
     have hII := HI1.out.step (by omega) hy3
     exact ⟨(pair_cells ((hII.kept w.heap.size (by omega) (by omega)).trans HT2.out.fst)).1, (pair_cells ((hII.kept w.heap.size (by omega) (by omega)).trans HT2.out.fst)).2, HCell.out _ hII, (hy3.cell (block_lt_of_cell (pair_cells HE.out).1)).trans (pair_cells HE.out).1, (hy3.cell (block_lt_of_cell (pair_cells HE.out).2)).trans (pair_cells HE.out).2⟩
    have hvy3 := Lib.hid (hvy2.out.below hal (by omega))
    have hoy3 := Lib.hid (hoy2.out.below hal (by omega))
    have hxy3 := Lib.hid hxn
    have hly3 := hxs
    clear hxn hxs hal
    have hq1 := hy2.size
    have hq2 := hy1.size
    obtain ⟨HNn, HVn, HOn, hzn, hzs⟩ := crtStore (.slice pva zs'.length pvc) (.slice poa m'.length poc) hy3 hxy3.out hq1 (by first | exact .inr (Nat.le_refl _) | (left; omega) | (right; omega)) hvy3.out hoy3.out
    obtain ⟨d0, d1⟩ := pair_cells hxy3.out
    obtain ⟨f0, f1⟩ := pair_frozen hxy3.out
    have SW : ((y3.setCell ⟨y2.heap.size, 0, none⟩ (.slice pva zs'.length pvc)).setCell ⟨y2.heap.size, 1, none⟩ (.slice poa m'.length poc)).cell? ⟨w.heap.size, 0, none⟩ = some (.slice av 4 cv) ∧ ((y3.setCell ⟨y2.heap.size, 0, none⟩ (.slice pva zs'.length pvc)).setCell ⟨y2.heap.size, 1, none⟩ (.slice poa m'.length poc)).cell? ⟨w.heap.size, 1, none⟩ = some (.slice ao l.length co) ∧ ((y3.setCell ⟨y2.heap.size, 0, none⟩ (.slice pva zs'.length pvc)).setCell ⟨y2.heap.size, 1, none⟩ (.slice poa m'.length poc)).cell? ⟨g, k, none⟩ = some (.string s) ∧ ((y3.setCell ⟨y2.heap.size, 0, none⟩ (.slice pva zs'.length pvc)).setCell ⟨y2.heap.size, 1, none⟩ (.slice poa m'.length poc)).cell? ⟨nb, 0, none⟩ = some (.slice va 4 vc) ∧ ((y3.setCell ⟨y2.heap.size, 0, none⟩ (.slice pva zs'.length pvc)).setCell ⟨y2.heap.size, 1, none⟩ (.slice poa m'.length poc)).cell? ⟨nb, 1, none⟩ = some (.slice oa m.length oc) := by
     have hII := HI1.out.step (by omega) hzn
     exact ⟨(pair_cells ((hII.kept w.heap.size (by omega) (by omega)).trans HT2.out.fst)).1, (pair_cells ((hII.kept w.heap.size (by omega) (by omega)).trans HT2.out.fst)).2, HCell.out _ hII, (hzn.cell (block_lt_of_cell (pair_cells HE.out).1)).trans (pair_cells HE.out).1, (hzn.cell (block_lt_of_cell (pair_cells HE.out).2)).trans (pair_cells HE.out).2⟩
    refine rk 19 rfl (fun K hK => ?_)
    go_simp
    refine hK.out _ _ SW (fun hHeldB => ?_)
    clear hK K hHeldB d0 d1 f0 f1 SW
    (try simp only [Act.put, u1, u2, u3])
    generalize (y3.setCell ⟨y2.heap.size, 0, none⟩ (.slice pva zs'.length pvc)).setCell ⟨y2.heap.size, 1, none⟩ (.slice poa m'.length poc) = zn at HNn HVn HOn hzn hzs ⊢
    have Szn : zn.cell? ⟨w.heap.size, 0, none⟩ = some (.slice av 4 cv) ∧ zn.cell? ⟨w.heap.size, 1, none⟩ = some (.slice ao l.length co) ∧ zn.cell? ⟨g, k, none⟩ = some (.string s) ∧ zn.cell? ⟨nb, 0, none⟩ = some (.slice va 4 vc) ∧ zn.cell? ⟨nb, 1, none⟩ = some (.slice oa m.length oc) := by
     have hII := HI1.out.step (by omega) hzn
     exact ⟨(pair_cells ((hII.kept w.heap.size (by omega) (by omega)).trans HT2.out.fst)).1, (pair_cells ((hII.kept w.heap.size (by omega) (by omega)).trans HT2.out.fst)).2, HCell.out _ hII, (hzn.cell (block_lt_of_cell (pair_cells HE.out).1)).trans (pair_cells HE.out).1, (hzn.cell (block_lt_of_cell (pair_cells HE.out).2)).trans (pair_cells HE.out).2⟩
    refine tk 20 ⟨some 11, .assign (.tmp 44), 4, "l06_commands.go:129", #[⟨17, .data⟩, ⟨19, .chain⟩, ⟨0, .phase⟩, ⟨1, .phase⟩, ⟨2, .phase⟩, ⟨3, .phase⟩, ⟨4, .phase⟩, ⟨5, .phase⟩, ⟨6, .phase⟩, ⟨7, .phase⟩, ⟨8, .phase⟩, ⟨9, .phase⟩, ⟨10, .phase⟩, ⟨11, .phase⟩, ⟨12, .phase⟩, ⟨13, .phase⟩, ⟨14, .phase⟩, ⟨15, .phase⟩, ⟨16, .phase⟩, ⟨17, .phase⟩, ⟨18, .phase⟩, ⟨19, .phase⟩], none⟩ ?_
    (try simp only [Act.put, u1, u2, u3])
    refine wpAnyH_done (by kernel_rfl) ?_ _
    have HIn := Lib.hid (HI1.out.step (by omega) hzn)
    have hsrn := HIn.out.size
    have HXn := Lib.hid ((HIn.out.kept w.heap.size (by omega) (by omega)).trans HT2.out.fst)
    have HRn := Lib.hid ((HIn.out.kept (w.heap.size + 1) (by omega) (by omega)).trans HT2.out.snd)
    cases okk
    ·have HR1 := HR0.out
     rw [clr_full HSe.out HSv0.out HSt.out HOk.out hlt] at HR1
     have hRe : R = (4, [], []) := HR1
     subst hRe
     obtain ⟨r0, r1⟩ := pair_cells HRn.out
     obtain ⟨f0, f1⟩ := pair_frozen HRn.out
     have HX6 := Lib.hid (pair_set (.slice none 0 0) (.slice none 0 0) HRn.out)
     have HB6 : Hid (Below w.heap.size w ((zn.setCell ⟨w.heap.size + 1, 0, none⟩ (.slice none 0 0)).setCell ⟨w.heap.size + 1, 1, none⟩ (.slice none 0 0))) := HIn.out.bel.trans ((below_set2 zn (w.heap.size + 1) 0 1 _ _).mono (by omega))
     go_wp2
     generalize (zn.setCell ⟨w.heap.size + 1, 0, none⟩ (.slice none 0 0)).setCell ⟨w.heap.size + 1, 1, none⟩ (.slice none 0 0) = wf at HX6 HB6 ⊢
     obtain ⟨p0, p1⟩ := pair_cells HX6.out
     exact bodyPost_ret (v := .tuple #[.agg #[.slice none 0 0, .slice none 0 0], .int .i64 4]) (by simp [results, Tryz.results70, go_sem, p0, p1]) rfl ⟨none, 0, 0, none, 0, 0, rfl, HB6.out, fun h => absurd h (by decide)⟩
    obtain ⟨hbd, hze, hme⟩ := HPut.out.1 rfl
    have HStn := Lib.hid (clr_put HSe.out HSv0.out HSt.out HOk.out hze hme)
    clear hze hme
    have HD1 := HD1
    rw [hbd.len] at HNn HVn HD1 ⊢
    obtain ⟨x0, x1⟩ := pair_cells HNn.out
    obtain ⟨n0, n1⟩ := pair_cells ((hzn.block nb (by have := lt_of_row HE.out; omega)).trans HE.out)
    obtain ⟨fn0, fn1⟩ := pair_frozen ((hzn.block nb (by have := lt_of_row HE.out; omega)).trans HE.out)
    have HIp := Lib.hid (HIn.out.put (k' := k + 1) (by omega) HVn.out HOn.out (by omega) (by omega) HD1.out HD2.out hbd HStn.out)
    clear hbd
    go_wp2
    go_roundw
    case rel => exact ⟨k + 1, _, by omega, rfl, by go_num, HIp⟩
    case measure => simp [intOf]; omega
   ·skip
    have hal : Below y1.heap.size y1 (y1.alloc (.cells #[.slice none 0 0, .slice none 0 0] 32)) := bl
    have hxn := boxAt (Below.refl _ (y1.alloc (.cells #[.slice none 0 0, .slice none 0 0] 32)))
    have hxs : y1.heap.size < (y1.alloc (.cells #[.slice none 0 0, .slice none 0 0] 32)).heap.size := by show _ < (y1.heap.push _).size; simp
    have hga : Below z1.heap.size z1 (y1.alloc (.cells #[.slice none 0 0, .slice none 0 0] 32)) := hy1.trans (hal.mono hy1.size)
    have SA : (y1.alloc (.cells #[.slice none 0 0, .slice none 0 0] 32)).cell? ⟨w.heap.size, 0, none⟩ = some (.slice av 4 cv) ∧ (y1.alloc (.cells #[.slice none 0 0, .slice none 0 0] 32)).cell? ⟨w.heap.size, 1, none⟩ = some (.slice ao l.length co) ∧ (y1.alloc (.cells #[.slice none 0 0, .slice none 0 0] 32)).cell? ⟨g, k, none⟩ = some (.string s) ∧ (y1.alloc (.cells #[.slice none 0 0, .slice none 0 0] 32)).cell? ⟨nb, 0, none⟩ = some (.slice va 4 vc) ∧ (y1.alloc (.cells #[.slice none 0 0, .slice none 0 0] 32)).cell? ⟨nb, 1, none⟩ = some (.slice oa m.length oc) := by
     have hII := HI1.out.step (by omega) hga
     exact ⟨(pair_cells ((hII.kept w.heap.size (by omega) (by omega)).trans HT2.out.fst)).1, (pair_cells ((hII.kept w.heap.size (by omega) (by omega)).trans HT2.out.fst)).2, HCell.out _ hII, (hga.cell (block_lt_of_cell (pair_cells HE.out).1)).trans (pair_cells HE.out).1, (hga.cell (block_lt_of_cell (pair_cells HE.out).2)).trans (pair_cells HE.out).2⟩
    go_simp
    refine hK.out _ _ SA (fun hHeldA => ?_)
    clear hK K hHeldA
    (try simp only [Act.put, u1, u2, u3])
    generalize hzn : y1.alloc (.cells #[.slice none 0 0, .slice none 0 0] 32) = y4 at hal hxn hxs ⊢
    clear hzn SA hga
    have hy4 : Below z1.heap.size z1 y4 := hy1.trans (hal.mono hy1.size)
    have Sy4 : y4.cell? ⟨w.heap.size, 0, none⟩ = some (.slice av 4 cv) ∧ y4.cell? ⟨w.heap.size, 1, none⟩ = some (.slice ao l.length co) ∧ y4.cell? ⟨g, k, none⟩ = some (.string s) ∧ y4.cell? ⟨nb, 0, none⟩ = some (.slice va 4 vc) ∧ y4.cell? ⟨nb, 1, none⟩ = some (.slice oa m.length oc) := by
     have hII := HI1.out.step (by omega) hy4
     exact ⟨(pair_cells ((hII.kept w.heap.size (by omega) (by omega)).trans HT2.out.fst)).1, (pair_cells ((hII.kept w.heap.size (by omega) (by omega)).trans HT2.out.fst)).2, HCell.out _ hII, (hy4.cell (block_lt_of_cell (pair_cells HE.out).1)).trans (pair_cells HE.out).1, (hy4.cell (block_lt_of_cell (pair_cells HE.out).2)).trans (pair_cells HE.out).2⟩
    have hxy4 := Lib.hid hxn
    have hly4 := hxs
    clear hxn hxs hal
    refine wpAnyH_ready (rs := [14]) (by kernel_rfl) (by simp) ?_
    refine (AllReadyH.cons rfl (fun K hK => ?_) AllReadyH.nil)
    go_simp
    go_at_call 75
    refine (HPut.out.2 y4 y4.heap.size va oa vc oc ((HVi.out.below hy4 (Nat.le_refl _)).more hy4.size) ((HOi.out.below hy4 (Nat.le_refl _)).more hy4.size) (Nat.le_refl _) HC1.out HC2.out).mono ?_
    rintro e y5 ⟨pva, pvc, poa, poc, rfl, hov, hop, hbc, d1, d2⟩
    have hy5 : Below z1.heap.size z1 y5 := hy4.trans (hbc.mono hy4.size)
    have Sy5 : y5.cell? ⟨w.heap.size, 0, none⟩ = some (.slice av 4 cv) ∧ y5.cell? ⟨w.heap.size, 1, none⟩ = some (.slice ao l.length co) ∧ y5.cell? ⟨g, k, none⟩ = some (.string s) ∧ y5.cell? ⟨nb, 0, none⟩ = some (.slice va 4 vc) ∧ y5.cell? ⟨nb, 1, none⟩ = some (.slice oa m.length oc) := by
     have hII := HI1.out.step (by omega) hy5
     exact ⟨(pair_cells ((hII.kept w.heap.size (by omega) (by omega)).trans HT2.out.fst)).1, (pair_cells ((hII.kept w.heap.size (by omega) (by omega)).trans HT2.out.fst)).2, HCell.out _ hII, (hy5.cell (block_lt_of_cell (pair_cells HE.out).1)).trans (pair_cells HE.out).1, (hy5.cell (block_lt_of_cell (pair_cells HE.out).2)).trans (pair_cells HE.out).2⟩
    have hxy5 := Lib.hid ((hbc.block _ (Array.getElem?_eq_some_iff.1 hxy4.out).1).trans hxy4.out)
    have hly5 := lt_of_row hxy5.out
    have hvy5 := Lib.hid hov
    have hoy5 := Lib.hid hop
    have HD1 := Lib.hid d1
    have HD2 := Lib.hid d2
    have hpz := hbc.size
    refine hK.out _ _ Sy5 (fun hHeldP => ?_)
    clear hK K hHeldP hbc hov hop d1 d2
    (try simp only [Act.put, u1, u2, u3])
    refine tk 15 ⟨some 27, .move (.tmp 42), 107, "l06_commands.go:129", #[⟨14, .data⟩], none⟩ ?_
    (try simp only [Act.put, u1, u2, u3])
    refine tk 16 ⟨some 43, .extract (.tmp 27) 0, 32, "l06_commands.go:129", #[⟨15, .data⟩], none⟩ ?_
    (try simp only [Act.put, u1, u2, u3])
    refine tk 17 ⟨some 44, .extract (.tmp 27) 1, 4, "l06_commands.go:129", #[⟨15, .data⟩, { on := 19, ground := Ground.gcOnly Departure.lateStores }], none⟩ ?_
    (try simp only [Act.put, u1, u2, u3])
    have hq1 := hy1.size
    have hq2 := hy4.size
    obtain ⟨HNn, HVn, HOn, hzn, hzs⟩ := crtStore (.slice pva zs'.length pvc) (.slice poa m'.length poc) hy5 hxy5.out hq1 (by first | exact .inr (Nat.le_refl _) | (left; omega) | (right; omega)) hvy5.out hoy5.out
    obtain ⟨d0, d1⟩ := pair_cells hxy5.out
    obtain ⟨f0, f1⟩ := pair_frozen hxy5.out
    have SW : ((y5.setCell ⟨y1.heap.size, 0, none⟩ (.slice pva zs'.length pvc)).setCell ⟨y1.heap.size, 1, none⟩ (.slice poa m'.length poc)).cell? ⟨w.heap.size, 0, none⟩ = some (.slice av 4 cv) ∧ ((y5.setCell ⟨y1.heap.size, 0, none⟩ (.slice pva zs'.length pvc)).setCell ⟨y1.heap.size, 1, none⟩ (.slice poa m'.length poc)).cell? ⟨w.heap.size, 1, none⟩ = some (.slice ao l.length co) ∧ ((y5.setCell ⟨y1.heap.size, 0, none⟩ (.slice pva zs'.length pvc)).setCell ⟨y1.heap.size, 1, none⟩ (.slice poa m'.length poc)).cell? ⟨g, k, none⟩ = some (.string s) ∧ ((y5.setCell ⟨y1.heap.size, 0, none⟩ (.slice pva zs'.length pvc)).setCell ⟨y1.heap.size, 1, none⟩ (.slice poa m'.length poc)).cell? ⟨nb, 0, none⟩ = some (.slice va 4 vc) ∧ ((y5.setCell ⟨y1.heap.size, 0, none⟩ (.slice pva zs'.length pvc)).setCell ⟨y1.heap.size, 1, none⟩ (.slice poa m'.length poc)).cell? ⟨nb, 1, none⟩ = some (.slice oa m.length oc) := by
     have hII := HI1.out.step (by omega) hzn
     exact ⟨(pair_cells ((hII.kept w.heap.size (by omega) (by omega)).trans HT2.out.fst)).1, (pair_cells ((hII.kept w.heap.size (by omega) (by omega)).trans HT2.out.fst)).2, HCell.out _ hII, (hzn.cell (block_lt_of_cell (pair_cells HE.out).1)).trans (pair_cells HE.out).1, (hzn.cell (block_lt_of_cell (pair_cells HE.out).2)).trans (pair_cells HE.out).2⟩
    refine rk 19 rfl (fun K hK => ?_)
    go_simp
    refine hK.out _ _ SW (fun hHeldB => ?_)
    clear hK K hHeldB d0 d1 f0 f1 SW
    (try simp only [Act.put, u1, u2, u3])
    generalize (y5.setCell ⟨y1.heap.size, 0, none⟩ (.slice pva zs'.length pvc)).setCell ⟨y1.heap.size, 1, none⟩ (.slice poa m'.length poc) = zn at HNn HVn HOn hzn hzs ⊢
    have Szn : zn.cell? ⟨w.heap.size, 0, none⟩ = some (.slice av 4 cv) ∧ zn.cell? ⟨w.heap.size, 1, none⟩ = some (.slice ao l.length co) ∧ zn.cell? ⟨g, k, none⟩ = some (.string s) ∧ zn.cell? ⟨nb, 0, none⟩ = some (.slice va 4 vc) ∧ zn.cell? ⟨nb, 1, none⟩ = some (.slice oa m.length oc) := by
     have hII := HI1.out.step (by omega) hzn
     exact ⟨(pair_cells ((hII.kept w.heap.size (by omega) (by omega)).trans HT2.out.fst)).1, (pair_cells ((hII.kept w.heap.size (by omega) (by omega)).trans HT2.out.fst)).2, HCell.out _ hII, (hzn.cell (block_lt_of_cell (pair_cells HE.out).1)).trans (pair_cells HE.out).1, (hzn.cell (block_lt_of_cell (pair_cells HE.out).2)).trans (pair_cells HE.out).2⟩
    refine tk 20 ⟨some 11, .assign (.tmp 44), 4, "l06_commands.go:129", #[⟨17, .data⟩, ⟨19, .chain⟩, ⟨0, .phase⟩, ⟨1, .phase⟩, ⟨2, .phase⟩, ⟨3, .phase⟩, ⟨4, .phase⟩, ⟨5, .phase⟩, ⟨6, .phase⟩, ⟨7, .phase⟩, ⟨8, .phase⟩, ⟨9, .phase⟩, ⟨10, .phase⟩, ⟨11, .phase⟩, ⟨12, .phase⟩, ⟨13, .phase⟩, ⟨14, .phase⟩, ⟨15, .phase⟩, ⟨16, .phase⟩, ⟨17, .phase⟩, ⟨18, .phase⟩, ⟨19, .phase⟩], none⟩ ?_
    (try simp only [Act.put, u1, u2, u3])
    refine wpAnyH_done (by kernel_rfl) ?_ _
    have HIn := Lib.hid (HI1.out.step (by omega) hzn)
    have hsrn := HIn.out.size
    have HXn := Lib.hid ((HIn.out.kept w.heap.size (by omega) (by omega)).trans HT2.out.fst)
    have HRn := Lib.hid ((HIn.out.kept (w.heap.size + 1) (by omega) (by omega)).trans HT2.out.snd)
    cases okk
    ·have HR1 := HR0.out
     rw [clr_full HSe.out HSv0.out HSt.out HOk.out hlt] at HR1
     have hRe : R = (4, [], []) := HR1
     subst hRe
     obtain ⟨r0, r1⟩ := pair_cells HRn.out
     obtain ⟨f0, f1⟩ := pair_frozen HRn.out
     have HX6 := Lib.hid (pair_set (.slice none 0 0) (.slice none 0 0) HRn.out)
     have HB6 : Hid (Below w.heap.size w ((zn.setCell ⟨w.heap.size + 1, 0, none⟩ (.slice none 0 0)).setCell ⟨w.heap.size + 1, 1, none⟩ (.slice none 0 0))) := HIn.out.bel.trans ((below_set2 zn (w.heap.size + 1) 0 1 _ _).mono (by omega))
     go_wp2
     generalize (zn.setCell ⟨w.heap.size + 1, 0, none⟩ (.slice none 0 0)).setCell ⟨w.heap.size + 1, 1, none⟩ (.slice none 0 0) = wf at HX6 HB6 ⊢
     obtain ⟨p0, p1⟩ := pair_cells HX6.out
     exact bodyPost_ret (v := .tuple #[.agg #[.slice none 0 0, .slice none 0 0], .int .i64 4]) (by simp [results, Tryz.results70, go_sem, p0, p1]) rfl ⟨none, 0, 0, none, 0, 0, rfl, HB6.out, fun h => absurd h (by decide)⟩
    obtain ⟨hbd, hze, hme⟩ := HPut.out.1 rfl
    have HStn := Lib.hid (clr_put HSe.out HSv0.out HSt.out HOk.out hze hme)
    clear hze hme
    have HD1 := HD1
    rw [hbd.len] at HNn HVn HD1 ⊢
    obtain ⟨x0, x1⟩ := pair_cells HNn.out
    obtain ⟨n0, n1⟩ := pair_cells ((hzn.block nb (by have := lt_of_row HE.out; omega)).trans HE.out)
    obtain ⟨fn0, fn1⟩ := pair_frozen ((hzn.block nb (by have := lt_of_row HE.out; omega)).trans HE.out)
    have HIp := Lib.hid (HIn.out.put (k' := k + 1) (by omega) HVn.out HOn.out (by omega) (by omega) HD1.out HD2.out hbd HStn.out)
    clear hbd
    go_wp2
    go_roundw
    case rel => exact ⟨k + 1, _, by omega, rfl, by go_num, HIp⟩
    case measure => simp [intOf]; omega
  ·skip
   have hal : Below y0.heap.size y0 (y0.alloc (.cells #[.slice none 0 0, .slice none 0 0] 32)) := bl
   have hxn := boxAt (Below.refl _ (y0.alloc (.cells #[.slice none 0 0, .slice none 0 0] 32)))
   have hxs : y0.heap.size < (y0.alloc (.cells #[.slice none 0 0, .slice none 0 0] 32)).heap.size := by show _ < (y0.heap.push _).size; simp
   have hga : Below z1.heap.size z1 (y0.alloc (.cells #[.slice none 0 0, .slice none 0 0] 32)) := hy0.trans (hal.mono hy0.size)
   have SA : (y0.alloc (.cells #[.slice none 0 0, .slice none 0 0] 32)).cell? ⟨w.heap.size, 0, none⟩ = some (.slice av 4 cv) ∧ (y0.alloc (.cells #[.slice none 0 0, .slice none 0 0] 32)).cell? ⟨w.heap.size, 1, none⟩ = some (.slice ao l.length co) ∧ (y0.alloc (.cells #[.slice none 0 0, .slice none 0 0] 32)).cell? ⟨g, k, none⟩ = some (.string s) ∧ (y0.alloc (.cells #[.slice none 0 0, .slice none 0 0] 32)).cell? ⟨nb, 0, none⟩ = some (.slice va 4 vc) ∧ (y0.alloc (.cells #[.slice none 0 0, .slice none 0 0] 32)).cell? ⟨nb, 1, none⟩ = some (.slice oa m.length oc) := by
    have hII := HI1.out.step (by omega) hga
    exact ⟨(pair_cells ((hII.kept w.heap.size (by omega) (by omega)).trans HT2.out.fst)).1, (pair_cells ((hII.kept w.heap.size (by omega) (by omega)).trans HT2.out.fst)).2, HCell.out _ hII, (hga.cell (block_lt_of_cell (pair_cells HE.out).1)).trans (pair_cells HE.out).1, (hga.cell (block_lt_of_cell (pair_cells HE.out).2)).trans (pair_cells HE.out).2⟩
   go_simp
   refine hK.out _ _ SA (fun hHeldA => ?_)
   clear hK K hHeldA
   (try simp only [Act.put, u1, u2, u3])
   generalize hzn : y0.alloc (.cells #[.slice none 0 0, .slice none 0 0] 32) = y6 at hal hxn hxs ⊢
   clear hzn SA hga
   have hy6 : Below z1.heap.size z1 y6 := hy0.trans (hal.mono hy0.size)
   have Sy6 : y6.cell? ⟨w.heap.size, 0, none⟩ = some (.slice av 4 cv) ∧ y6.cell? ⟨w.heap.size, 1, none⟩ = some (.slice ao l.length co) ∧ y6.cell? ⟨g, k, none⟩ = some (.string s) ∧ y6.cell? ⟨nb, 0, none⟩ = some (.slice va 4 vc) ∧ y6.cell? ⟨nb, 1, none⟩ = some (.slice oa m.length oc) := by
    have hII := HI1.out.step (by omega) hy6
    exact ⟨(pair_cells ((hII.kept w.heap.size (by omega) (by omega)).trans HT2.out.fst)).1, (pair_cells ((hII.kept w.heap.size (by omega) (by omega)).trans HT2.out.fst)).2, HCell.out _ hII, (hy6.cell (block_lt_of_cell (pair_cells HE.out).1)).trans (pair_cells HE.out).1, (hy6.cell (block_lt_of_cell (pair_cells HE.out).2)).trans (pair_cells HE.out).2⟩
   have hxy6 := Lib.hid hxn
   have hly6 := hxs
   clear hxn hxs hal
   refine wpAnyH_ready (rs := [11]) (by kernel_rfl) (by simp) ?_
   refine (AllReadyH.cons rfl (fun K hK => ?_) AllReadyH.nil)
   go_simp
   go_at_call 93
   refine (l5Level y6 B av ao 4 cv l.length co xs l s (HOw.out.below (HI1.out.bel.trans (hy6.mono (by omega))) hB) (by have := hy6.size; omega) (by omega) HC.out).mono ?_
   rw [HU.out]
   rintro e y7 ⟨rfl, hbc⟩
   have hy7 : Below z1.heap.size z1 y7 := hy6.trans (hbc.mono hy6.size)
   have Sy7 : y7.cell? ⟨w.heap.size, 0, none⟩ = some (.slice av 4 cv) ∧ y7.cell? ⟨w.heap.size, 1, none⟩ = some (.slice ao l.length co) ∧ y7.cell? ⟨g, k, none⟩ = some (.string s) ∧ y7.cell? ⟨nb, 0, none⟩ = some (.slice va 4 vc) ∧ y7.cell? ⟨nb, 1, none⟩ = some (.slice oa m.length oc) := by
    have hII := HI1.out.step (by omega) hy7
    exact ⟨(pair_cells ((hII.kept w.heap.size (by omega) (by omega)).trans HT2.out.fst)).1, (pair_cells ((hII.kept w.heap.size (by omega) (by omega)).trans HT2.out.fst)).2, HCell.out _ hII, (hy7.cell (block_lt_of_cell (pair_cells HE.out).1)).trans (pair_cells HE.out).1, (hy7.cell (block_lt_of_cell (pair_cells HE.out).2)).trans (pair_cells HE.out).2⟩
   have hxy7 := Lib.hid ((hbc.block _ (Array.getElem?_eq_some_iff.1 hxy6.out).1).trans hxy6.out)
   have hly7 := lt_of_row hxy7.out
   refine hK.out _ _ Sy7 (fun hHeldC => ?_)
   clear hK K hHeldC hbc
   (try simp only [Act.put, u1, u2, u3])
   refine tk 12 ⟨some 40, .binOp .add 2 (.tmp 39) (.const (Value.int IntKind.i64 1)) 2, 2, "l06_commands.go:129", #[⟨11, .data⟩], none⟩ ?_
   (try simp only [Act.put, u1, u2, u3])
   refine tk 13 ⟨some 41, .build 93 #[(3, .const (Value.int IntKind.i64 3)), (4, .tmp 33), (6, .tmp 40)], 93, "l06_commands.go:129", #[⟨5, .data⟩, ⟨12, .data⟩], none⟩ ?_
   (try simp only [Act.put, u1, u2, u3])
   refine wpAnyH_ready (rs := [14]) (by kernel_rfl) (by simp) ?_
   refine (AllReadyH.cons rfl (fun K hK => ?_) AllReadyH.nil)
   go_simp
   go_at_call 75
   refine (HPut.out.2 y7 y7.heap.size va oa vc oc ((HVi.out.below hy7 (Nat.le_refl _)).more hy7.size) ((HOi.out.below hy7 (Nat.le_refl _)).more hy7.size) (Nat.le_refl _) HC1.out HC2.out).mono ?_
   rintro e y8 ⟨pva, pvc, poa, poc, rfl, hov, hop, hbc, d1, d2⟩
   have hy8 : Below z1.heap.size z1 y8 := hy7.trans (hbc.mono hy7.size)
   have Sy8 : y8.cell? ⟨w.heap.size, 0, none⟩ = some (.slice av 4 cv) ∧ y8.cell? ⟨w.heap.size, 1, none⟩ = some (.slice ao l.length co) ∧ y8.cell? ⟨g, k, none⟩ = some (.string s) ∧ y8.cell? ⟨nb, 0, none⟩ = some (.slice va 4 vc) ∧ y8.cell? ⟨nb, 1, none⟩ = some (.slice oa m.length oc) := by
    have hII := HI1.out.step (by omega) hy8
    exact ⟨(pair_cells ((hII.kept w.heap.size (by omega) (by omega)).trans HT2.out.fst)).1, (pair_cells ((hII.kept w.heap.size (by omega) (by omega)).trans HT2.out.fst)).2, HCell.out _ hII, (hy8.cell (block_lt_of_cell (pair_cells HE.out).1)).trans (pair_cells HE.out).1, (hy8.cell (block_lt_of_cell (pair_cells HE.out).2)).trans (pair_cells HE.out).2⟩
   have hxy8 := Lib.hid ((hbc.block _ (Array.getElem?_eq_some_iff.1 hxy7.out).1).trans hxy7.out)
   have hly8 := lt_of_row hxy8.out
   have hvy8 := Lib.hid hov
   have hoy8 := Lib.hid hop
   have HD1 := Lib.hid d1
   have HD2 := Lib.hid d2
   have hpz := hbc.size
   refine hK.out _ _ Sy8 (fun hHeldP => ?_)
   clear hK K hHeldP hbc hov hop d1 d2
   (try simp only [Act.put, u1, u2, u3])
   refine tk 15 ⟨some 27, .move (.tmp 42), 107, "l06_commands.go:129", #[⟨14, .data⟩], none⟩ ?_
   (try simp only [Act.put, u1, u2, u3])
   refine tk 16 ⟨some 43, .extract (.tmp 27) 0, 32, "l06_commands.go:129", #[⟨15, .data⟩], none⟩ ?_
   (try simp only [Act.put, u1, u2, u3])
   refine tk 17 ⟨some 44, .extract (.tmp 27) 1, 4, "l06_commands.go:129", #[⟨15, .data⟩, { on := 19, ground := Ground.gcOnly Departure.lateStores }], none⟩ ?_
   (try simp only [Act.put, u1, u2, u3])
   have hq1 := hy0.size
   have hq2 := hy7.size
   obtain ⟨HNn, HVn, HOn, hzn, hzs⟩ := crtStore (.slice pva zs'.length pvc) (.slice poa m'.length poc) hy8 hxy8.out hq1 (by first | exact .inr (Nat.le_refl _) | (left; omega) | (right; omega)) hvy8.out hoy8.out
   obtain ⟨d0, d1⟩ := pair_cells hxy8.out
   obtain ⟨f0, f1⟩ := pair_frozen hxy8.out
   have SW : ((y8.setCell ⟨y0.heap.size, 0, none⟩ (.slice pva zs'.length pvc)).setCell ⟨y0.heap.size, 1, none⟩ (.slice poa m'.length poc)).cell? ⟨w.heap.size, 0, none⟩ = some (.slice av 4 cv) ∧ ((y8.setCell ⟨y0.heap.size, 0, none⟩ (.slice pva zs'.length pvc)).setCell ⟨y0.heap.size, 1, none⟩ (.slice poa m'.length poc)).cell? ⟨w.heap.size, 1, none⟩ = some (.slice ao l.length co) ∧ ((y8.setCell ⟨y0.heap.size, 0, none⟩ (.slice pva zs'.length pvc)).setCell ⟨y0.heap.size, 1, none⟩ (.slice poa m'.length poc)).cell? ⟨g, k, none⟩ = some (.string s) ∧ ((y8.setCell ⟨y0.heap.size, 0, none⟩ (.slice pva zs'.length pvc)).setCell ⟨y0.heap.size, 1, none⟩ (.slice poa m'.length poc)).cell? ⟨nb, 0, none⟩ = some (.slice va 4 vc) ∧ ((y8.setCell ⟨y0.heap.size, 0, none⟩ (.slice pva zs'.length pvc)).setCell ⟨y0.heap.size, 1, none⟩ (.slice poa m'.length poc)).cell? ⟨nb, 1, none⟩ = some (.slice oa m.length oc) := by
    have hII := HI1.out.step (by omega) hzn
    exact ⟨(pair_cells ((hII.kept w.heap.size (by omega) (by omega)).trans HT2.out.fst)).1, (pair_cells ((hII.kept w.heap.size (by omega) (by omega)).trans HT2.out.fst)).2, HCell.out _ hII, (hzn.cell (block_lt_of_cell (pair_cells HE.out).1)).trans (pair_cells HE.out).1, (hzn.cell (block_lt_of_cell (pair_cells HE.out).2)).trans (pair_cells HE.out).2⟩
   refine rk 19 rfl (fun K hK => ?_)
   go_simp
   refine hK.out _ _ SW (fun hHeldB => ?_)
   clear hK K hHeldB d0 d1 f0 f1 SW
   (try simp only [Act.put, u1, u2, u3])
   generalize (y8.setCell ⟨y0.heap.size, 0, none⟩ (.slice pva zs'.length pvc)).setCell ⟨y0.heap.size, 1, none⟩ (.slice poa m'.length poc) = zn at HNn HVn HOn hzn hzs ⊢
   have Szn : zn.cell? ⟨w.heap.size, 0, none⟩ = some (.slice av 4 cv) ∧ zn.cell? ⟨w.heap.size, 1, none⟩ = some (.slice ao l.length co) ∧ zn.cell? ⟨g, k, none⟩ = some (.string s) ∧ zn.cell? ⟨nb, 0, none⟩ = some (.slice va 4 vc) ∧ zn.cell? ⟨nb, 1, none⟩ = some (.slice oa m.length oc) := by
    have hII := HI1.out.step (by omega) hzn
    exact ⟨(pair_cells ((hII.kept w.heap.size (by omega) (by omega)).trans HT2.out.fst)).1, (pair_cells ((hII.kept w.heap.size (by omega) (by omega)).trans HT2.out.fst)).2, HCell.out _ hII, (hzn.cell (block_lt_of_cell (pair_cells HE.out).1)).trans (pair_cells HE.out).1, (hzn.cell (block_lt_of_cell (pair_cells HE.out).2)).trans (pair_cells HE.out).2⟩
   refine tk 20 ⟨some 11, .assign (.tmp 44), 4, "l06_commands.go:129", #[⟨17, .data⟩, ⟨19, .chain⟩, ⟨0, .phase⟩, ⟨1, .phase⟩, ⟨2, .phase⟩, ⟨3, .phase⟩, ⟨4, .phase⟩, ⟨5, .phase⟩, ⟨6, .phase⟩, ⟨7, .phase⟩, ⟨8, .phase⟩, ⟨9, .phase⟩, ⟨10, .phase⟩, ⟨11, .phase⟩, ⟨12, .phase⟩, ⟨13, .phase⟩, ⟨14, .phase⟩, ⟨15, .phase⟩, ⟨16, .phase⟩, ⟨17, .phase⟩, ⟨18, .phase⟩, ⟨19, .phase⟩], none⟩ ?_
   (try simp only [Act.put, u1, u2, u3])
   refine wpAnyH_done (by kernel_rfl) ?_ _
   have HIn := Lib.hid (HI1.out.step (by omega) hzn)
   have hsrn := HIn.out.size
   have HXn := Lib.hid ((HIn.out.kept w.heap.size (by omega) (by omega)).trans HT2.out.fst)
   have HRn := Lib.hid ((HIn.out.kept (w.heap.size + 1) (by omega) (by omega)).trans HT2.out.snd)
   cases okk
   ·have HR1 := HR0.out
    rw [clr_full HSe.out HSv0.out HSt.out HOk.out hlt] at HR1
    have hRe : R = (4, [], []) := HR1
    subst hRe
    obtain ⟨r0, r1⟩ := pair_cells HRn.out
    obtain ⟨f0, f1⟩ := pair_frozen HRn.out
    have HX6 := Lib.hid (pair_set (.slice none 0 0) (.slice none 0 0) HRn.out)
    have HB6 : Hid (Below w.heap.size w ((zn.setCell ⟨w.heap.size + 1, 0, none⟩ (.slice none 0 0)).setCell ⟨w.heap.size + 1, 1, none⟩ (.slice none 0 0))) := HIn.out.bel.trans ((below_set2 zn (w.heap.size + 1) 0 1 _ _).mono (by omega))
    go_wp2
    generalize (zn.setCell ⟨w.heap.size + 1, 0, none⟩ (.slice none 0 0)).setCell ⟨w.heap.size + 1, 1, none⟩ (.slice none 0 0) = wf at HX6 HB6 ⊢
    obtain ⟨p0, p1⟩ := pair_cells HX6.out
    exact bodyPost_ret (v := .tuple #[.agg #[.slice none 0 0, .slice none 0 0], .int .i64 4]) (by simp [results, Tryz.results70, go_sem, p0, p1]) rfl ⟨none, 0, 0, none, 0, 0, rfl, HB6.out, fun h => absurd h (by decide)⟩
   obtain ⟨hbd, hze, hme⟩ := HPut.out.1 rfl
   have HStn := Lib.hid (clr_put HSe.out HSv0.out HSt.out HOk.out hze hme)
   clear hze hme
   have HD1 := HD1
   rw [hbd.len] at HNn HVn HD1 ⊢
   obtain ⟨x0, x1⟩ := pair_cells HNn.out
   obtain ⟨n0, n1⟩ := pair_cells ((hzn.block nb (by have := lt_of_row HE.out; omega)).trans HE.out)
   obtain ⟨fn0, fn1⟩ := pair_frozen ((hzn.block nb (by have := lt_of_row HE.out; omega)).trans HE.out)
   have HIp := Lib.hid (HIn.out.put (k' := k + 1) (by omega) HVn.out HOn.out (by omega) (by omega) HD1.out HD2.out hbd HStn.out)
   clear hbd
   go_wp2
   go_roundw
   case rel => exact ⟨k + 1, _, by omega, rfl, by go_num, HIp⟩
   case measure => simp [intOf]; omega
theorem l6ClearX (w : World) (B : Nat) (av ao : Option Addr) (cv no co d : Nat) (xs : List Int) (l : List OpV) (hx : Ints w B av 4 xs) (h : Ops w B ao no l) (hB : B ≤ w.heap.size) (hcv : Caps av 4 cv) (hco : Caps ao no co) (hd : d < 4) (hc : cartB xs l = true) :
  Calls Tryz.prog 70 #[.agg #[.slice av 4 cv, .slice ao no co], .int .i64 (d : Int)] w (IssX (clrN xs l d) w) := l6ClearX0 w B av ao cv no co d xs l hx h hB hcv hco hd hc _ rfl
set_option linter.unusedVariables false
set_option linter.unusedSimpArgs false

/-- Three blocks that a call has laid first: a cart, a command and a result. -/
structure IsuF (w w1 : World) (x y z : Array Value) : Prop where
 fst : w1.heap[w.heap.size]? = some (.cells x 32 (0, 0))
 snd : w1.heap[w.heap.size + 1]? = some (.cells y 36 (0, 0))
 res : w1.heap[w.heap.size + 1 + 1]? = some (.cells z 32 (0, 0))
 bel : Below w.heap.size w w1
theorem IsuF.mk0 (w : World) (x y z : Array Value) : IsuF w (((w.alloc (.cells x 32)).alloc (.cells y 36)).alloc (.cells z 32)) x y z := by
 have e1 : (w.alloc (.cells x 32)).heap.size = w.heap.size + 1 := by simp
 have e2 : ((w.alloc (.cells x 32)).alloc (.cells y 36)).heap.size = w.heap.size + 1 + 1 := by simp
 refine ⟨?_, ?_, ?_, (((Below.refl _ w).alloc (Nat.le_refl _) _).alloc (by simp) _).alloc (by simp; omega) _⟩
 ·exact ((Below.heap_alloc _ _ _ (by omega)).trans (Below.heap_alloc _ _ _ (by omega))).trans (heap_alloc_new _ _)
 ·rw [← e1]; exact (Below.heap_alloc _ _ _ (by omega)).trans (heap_alloc_new _ _)
 ·rw [← e2]; exact heap_alloc_new _ _
theorem IsuF.next {w w1 w2 : World} {x y z : Array Value} (h : IsuF w w1 x y z) (hb : Below w1.heap.size w1 w2) : IsuF w w2 x y z :=
 ⟨(hb.block _ (Array.getElem?_eq_some_iff.1 h.fst).1).trans h.fst, (hb.block _ (Array.getElem?_eq_some_iff.1 h.snd).1).trans h.snd, (hb.block _ (Array.getElem?_eq_some_iff.1 h.res).1).trans h.res, h.bel.trans (hb.mono h.bel.size)⟩
theorem IsuF.lt {w w1 : World} {x y z : Array Value} (h : IsuF w w1 x y z) : w.heap.size + 1 + 1 < w1.heap.size := (Array.getElem?_eq_some_iff.1 h.res).1
theorem cmd_all {w : World} {b : Nat} {v0 v1 v2 v3 v4 : Value} {T : TypeId} {fr : Nat × Nat} (h : w.heap[b]? = some (.cells #[v0, v1, v2, v3, v4] T fr)) : w.cell? ⟨b, 0, none⟩ = some v0 ∧ w.cell? ⟨b, 1, none⟩ = some v1 ∧ w.cell? ⟨b, 2, none⟩ = some v2 ∧ w.cell? ⟨b, 3, none⟩ = some v3 ∧ w.cell? ⟨b, 4, none⟩ = some v4 :=
 ⟨cell_of_row _ _ _ _ _ _ h, cell_of_row _ _ _ _ _ _ h, cell_of_row _ _ _ _ _ _ h, cell_of_row _ _ _ _ _ _ h, cell_of_row _ _ _ _ _ _ h⟩
/-- A cart of the call's own. -/
def CrX (w : World) (lo hi : Nat) (va : Option Addr) (nv vc : Nat) (oa : Option Addr) (no oc : Nat) (zs : List Int) (m : List OpV) : Prop :=
 nv = zs.length ∧ no = m.length ∧ Own w lo hi va nv zs ∧ OwnOps w lo hi oa no m ∧ Caps va nv vc ∧ Caps oa no oc
/-- What a command's walk leaves, spelt out. -/
def IssY (code : Int) (zs : List Int) (m : List OpV) (w : World) (e : Ending) (w' : World) : Prop :=
 ∃ va nv vc oa no oc, e = .returned (.tuple #[.agg #[.slice va nv vc, .slice oa no oc], .int .i64 code]) ∧ Below w.heap.size w w' ∧ (code = 0 → CrX w' w.heap.size w'.heap.size va nv vc oa no oc zs m)
theorem CrX.kept {w w' : World} {lo hi nv vc no oc : Nat} {va oa : Option Addr} {zs : List Int} {m : List OpV} (h : CrX w lo hi va nv vc oa no oc zs m) (hk : ∀ j, lo ≤ j → j < hi → w'.heap[j]? = w.heap[j]?) : CrX w' lo hi va nv vc oa no oc zs m := by
 obtain ⟨h1, h2, h3, h4, h5, h6⟩ := h
 exact ⟨h1, h2, h3.kept hk, h4.kept hk, h5, h6⟩
theorem CrX.more {w : World} {lo hi lo' hi' nv vc no oc : Nat} {va oa : Option Addr} {zs : List Int} {m : List OpV} (h : CrX w lo hi va nv vc oa no oc zs m) (g1 : lo' ≤ lo) (g2 : hi ≤ hi') : CrX w lo' hi' va nv vc oa no oc zs m := by
 obtain ⟨h1, h2, h3, h4, h5, h6⟩ := h
 exact ⟨h1, h2, h3.more g1 g2, h4.more g1 g2, h5, h6⟩
theorem CrX.below {w w' : World} {lo hi B nv vc no oc : Nat} {va oa : Option Addr} {zs : List Int} {m : List OpV} (h : CrX w lo hi va nv vc oa no oc zs m) (hb : Below B w w') (hB : hi ≤ B) : CrX w' lo hi va nv vc oa no oc zs m := h.kept fun j _ h2 => hb.block j (by omega)
theorem CrX.nil (w : World) (lo hi : Nat) : CrX w lo hi none 0 0 none 0 0 [] [] :=
 ⟨rfl, rfl, ⟨rfl, fun h => absurd h (by omega)⟩, ⟨rfl, fun h => absurd h (by omega)⟩, caps_nil, caps_nil⟩
theorem l6ClearY (w : World) (B : Nat) (av ao : Option Addr) (cv no co d : Nat) (xs : List Int) (l : List OpV) (hx : Ints w B av 4 xs) (h : Ops w B ao no l) (hB : B ≤ w.heap.size) (hcv : Caps av 4 cv) (hco : Caps ao no co) (hd : d < 4) (hc : cartB xs l = true) {RC : Int} {RZ : List Int} {RM : List OpV} (hR : clrN xs l d = (RC, RZ, RM)) :
  Calls Tryz.prog 70 #[.agg #[.slice av 4 cv, .slice ao no co], .int .i64 (d : Int)] w (IssY RC RZ RM w) := by
 have := l6ClearX w B av ao cv no co d xs l hx h hB hcv hco hd hc
 rw [hR] at this
 exact this
theorem TglP.toY {xs : List Int} {l : List OpV} {dev seq : Int} {w w' : World} {e : Ending} (h : TglP xs l dev seq w e w') (hc : cartB xs l = true) {RC : Int} {RZ : List Int} {RM : List OpV} (hR : tglN xs l dev seq = (RC, RZ, RM)) : IssY RC RZ RM w e w' := by
 have := h.toX hc
 rw [hR] at this
 exact this
/-- What the result's block holds goes back. -/
theorem IsuF.outX {w w1 w2 : World} {x y : Array Value} {z0 z1 : Value} {va oa : Option Addr} {nv vc no oc : Nat} {code : Int} {zs : List Int} {m : List OpV} (h : IsuF w w2 x y #[z0, z1]) (hw : w.heap.size + 1 + 1 < w1.heap.size) (hc : code = 0 → CrX w2 w1.heap.size w2.heap.size va nv vc oa no oc zs m) :
  Hid (((w2.setCell ⟨w.heap.size + 1 + 1, 0, none⟩ (.slice va nv vc)).setCell ⟨w.heap.size + 1 + 1, 1, none⟩ (.slice oa no oc)).heap[w.heap.size + 1 + 1]? = some (.cells #[.slice va nv vc, .slice oa no oc] 32 (0, 0))) ∧
  Hid (IssY code zs m w (.returned (.tuple #[.agg #[.slice va nv vc, .slice oa no oc], .int .i64 code])) ((w2.setCell ⟨w.heap.size + 1 + 1, 0, none⟩ (.slice va nv vc)).setCell ⟨w.heap.size + 1 + 1, 1, none⟩ (.slice oa no oc))) := by
 have hz := pair_size w2 (w.heap.size + 1 + 1) (.slice va nv vc) (.slice oa no oc)
 refine ⟨pair_set _ _ h.res, va, nv, vc, oa, no, oc, rfl, h.bel.trans ((below_set2 w2 (w.heap.size + 1 + 1) 0 1 _ _).mono (by omega)), fun h0 => ?_⟩
 exact ((hc h0).kept fun j a1 a2 => pair_other _ _ (by omega)).more (by omega) (by rw [hz]; exact Nat.le_refl _)
/-- The like, where the result is known whatever the code. -/
theorem IsuF.outN {w w1 w2 : World} {x y : Array Value} {z0 z1 : Value} {va oa : Option Addr} {nv vc no oc : Nat} {code : Int} {zs : List Int} {m : List OpV} (h : IsuF w w2 x y #[z0, z1]) (hw : w.heap.size + 1 + 1 < w1.heap.size) (hc : CrX w2 w1.heap.size w2.heap.size va nv vc oa no oc zs m) :
  Hid (((w2.setCell ⟨w.heap.size + 1 + 1, 0, none⟩ (.slice va nv vc)).setCell ⟨w.heap.size + 1 + 1, 1, none⟩ (.slice oa no oc)).heap[w.heap.size + 1 + 1]? = some (.cells #[.slice va nv vc, .slice oa no oc] 32 (0, 0))) ∧
  Hid (IssN code zs m w (.returned (.tuple #[.agg #[.slice va nv vc, .slice oa no oc], .int .i64 code])) ((w2.setCell ⟨w.heap.size + 1 + 1, 0, none⟩ (.slice va nv vc)).setCell ⟨w.heap.size + 1 + 1, 1, none⟩ (.slice oa no oc))) := by
 have hz := pair_size w2 (w.heap.size + 1 + 1) (.slice va nv vc) (.slice oa no oc)
 obtain ⟨h1, h2, h3, h4, h5, h6⟩ := (hc.kept (w' := ((w2.setCell ⟨w.heap.size + 1 + 1, 0, none⟩ (.slice va nv vc)).setCell ⟨w.heap.size + 1 + 1, 1, none⟩ (.slice oa no oc))) fun j a1 a2 => pair_other _ _ (by omega)).more (lo' := w.heap.size) (hi' := ((w2.setCell ⟨w.heap.size + 1 + 1, 0, none⟩ (.slice va nv vc)).setCell ⟨w.heap.size + 1 + 1, 1, none⟩ (.slice oa no oc)).heap.size) (by omega) (by rw [hz]; exact Nat.le_refl _)
 subst h1 h2
 exact ⟨pair_set _ _ h.res, va, vc, oa, oc, rfl, h3, h4, h.bel.trans ((below_set2 w2 (w.heap.size + 1 + 1) 0 1 _ _).mono (by omega)), h5, h6⟩
set_option maxHeartbeats 40000000 in
theorem l6IssueX (w : World) (B : Nat) (av ao : Option Addr) (cv no co : Nat) (d : Nat) (xs : List Int) (l : List OpV) (kind qty dv sq : Int) (item : ByteArray) (hx : Ints w B av 4 xs) (h : Ops w B ao no l) (hB : B ≤ w.heap.size) (hcv : Caps av 4 cv) (hco : Caps ao no co) (hi : item.size ≤ 8) (hd : d < 4) (hc : cartB xs l = true) {RC : Int} {RZ : List Int} {RM : List OpV} (hR : l6N xs l d kind item qty dv sq = (RC, RZ, RM)) :
  Calls Tryz.prog 36 #[.agg #[.slice av 4 cv, .slice ao no co], .int .i64 (d : Int), .agg #[.int .i64 kind, .string item, .int .i64 qty, .int .i64 dv, .int .i64 sq]] w (IssY RC RZ RM w) := by
 have HRR := Lib.hid hR
 clear hR
 obtain rfl := h.1
 have hT := IsuF.mk0 w #[.slice av 4 cv, .slice ao l.length co] #[.int .i64 kind, .string item, .int .i64 qty, .int .i64 dv, .int .i64 sq] #[.slice none 0 0, .slice none 0 0]
 have HV := Lib.hid (hx.below hT.bel hB)
 have HO := Lib.hid (h.below hT.bel hB)
 have HT := Lib.hid hT
 have HCv := Lib.hid hcv
 have HCo := Lib.hid hco
 have HC := Lib.hid hc
 have HBn := Lib.hid (Bnd.of_cart hc)
 have hl := cart_length hc
 clear hc
 clear hx h hT hcv hco
 go_enter Tryz.func36, Tryz.ntmps36
 go_upto_region 1 with fail
 generalize ((w.alloc (.cells #[.slice av 4 cv, .slice ao l.length co] 32)).alloc (.cells #[.int .i64 kind, .string item, .int .i64 qty, .int .i64 dv, .int .i64 sq] 36)).alloc (.cells #[.slice none 0 0, .slice none 0 0] 32) = w0 at HV HO HT ⊢
 have hs0 := HT.out.lt
 obtain ⟨q0, q1⟩ := pair_cells HT.out.fst
 obtain ⟨k0, k1, k2, k3, k4⟩ := cmd_all HT.out.snd
 by_cases h6 : kind = 6
 ·have e6 : (kind == 6) = true := by rw [h6]; rfl
  have HR6 : Hid (clrN xs l d = (RC, RZ, RM)) := by have h := HRR.out; unfold l6N at h; rwa [if_pos h6] at h
  clear h6
  go_wp2_with fail
  refine (l6ClearY w0 B av ao cv l.length co d xs l HV.out HO.out (by omega) HCv.out HCo.out hd HC.out HR6.out).mono ?_
  rintro e w1 ⟨va, nv, vc, oa, no, oc, rfl, hb, hcr⟩
  have HT1 := Lib.hid (HT.out.next hb)
  have HCr := Lib.hid hcr
  clear q0 q1 k0 k1 k2 k3 k4 HT hb hcr
  obtain ⟨r0, r1⟩ := pair_cells HT1.out.res
  obtain ⟨f0, f1⟩ := pair_frozen HT1.out.res
  obtain ⟨HX6, HI6⟩ := HT1.out.outX (w1 := w0) (va := va) (nv := nv) (vc := vc) (oa := oa) (no := no) (oc := oc) (code := RC) (zs := RZ) (m := RM) (by omega) HCr.out
  go_wp2
  generalize (w1.setCell ⟨w.heap.size + 1 + 1, 0, none⟩ (.slice va nv vc)).setCell ⟨w.heap.size + 1 + 1, 1, none⟩ (.slice oa no oc) = wf at HX6 HI6 ⊢
  obtain ⟨p0, p1⟩ := pair_cells HX6.out
  exact bodyPost_ret (v := .tuple #[.agg #[.slice va nv vc, .slice oa no oc], .int .i64 (RC)]) (by simp [results, Tryz.results36, go_sem, p0, p1]) rfl HI6.out
 have e6 : (kind == 6) = false := by rw [beq_eq_false_iff_ne]; exact h6
 by_cases h7 : kind = 7
 ·have e7 : (kind == 7) = true := by rw [h7]; rfl
  have HR7 : Hid (tglN xs l (d : Int) (undoTo (d : Int) l l.length) = (RC, RZ, RM)) := by have h := HRR.out; unfold l6N at h; rwa [if_neg h6, if_pos h7] at h
  clear h7
  clear q0 q1
  go_upto_region 5 with fail
  have hS : w0.drew.cell? ⟨w.heap.size, 0, none⟩ = some (.slice av 4 cv) ∧ w0.drew.cell? ⟨w.heap.size, 1, none⟩ = some (.slice ao l.length co) := pair_cells HT.out.fst
  go_wp2_with fail
  refine wp_region_held_drew (S := fun w' => w'.cell? ⟨w.heap.size, 0, none⟩ = some (.slice av 4 cv) ∧ w'.cell? ⟨w.heap.size, 1, none⟩ = some (.slice ao l.length co)) (by kernel_rfl) hS (fun hHeld => ?_)
  refine tk 0 ⟨some 23, .load 32 (.tmp 3), 32, "l06_commands.go:145", #[], none⟩ ?_
  (try simp only [Act.put, u1, u2, u3])
  refine tk 1 ⟨some 24, .move (.tmp 1), 2, "l06_commands.go:145", #[], none⟩ ?_
  (try simp only [Act.put, u1, u2, u3])
  refine tk 2 ⟨some 25, .load 32 (.tmp 3), 32, "l06_commands.go:145", #[], none⟩ ?_
  (try simp only [Act.put, u1, u2, u3])
  refine tk 3 ⟨some 26, .move (.tmp 1), 2, "l06_commands.go:145", #[], none⟩ ?_
  (try simp only [Act.put, u1, u2, u3])
  refine rk 4 rfl (fun K hK => ?_)
  go_simp
  go_at_call 72
  refine (l6Undo w0.drew B av ao 4 cv l.length co xs l (d : Int) (HO.out.kept (w' := w0.drew) fun _ _ => rfl) (by show B ≤ w0.heap.size; omega) (by omega) HC.out).mono ?_
  rintro e w1 ⟨rfl, hbz⟩
  have hb1 : Below w0.heap.size w0 w1 := Below.mk hbz.os hbz.tape hbz.output hbz.size hbz.block
  have hS1 : w1.cell? ⟨w.heap.size, 0, none⟩ = some (.slice av 4 cv) ∧ w1.cell? ⟨w.heap.size, 1, none⟩ = some (.slice ao l.length co) := pair_cells (HT.out.next hb1).fst
  have hs1 := hb1.size
  generalize undoTo (d : Int) l l.length = sqn at HR7 ⊢
  refine hK.out _ _ hS1 (fun hHeld2 => ?_)
  clear hK K
  (try simp only [Act.put, u1, u2, u3])
  refine rk 5 rfl (fun K hK => ?_)
  go_simp
  go_at_call 71
  refine (l6Toggle w1 B av ao 4 cv l.length co xs l (d : Int) sqn (HV.out.below hb1 (by omega)) (HO.out.below hb1 (by omega)) (by omega) HCv.out.2.2 HCo.out.2.2 (by omega) (by omega) (fun i hi => by have := op_bounds (cart_op HC.out hi); omega)).mono ?_
  rintro e w2 htg
  obtain ⟨va, nv, vc, oa, no, oc, rfl, hb2, hcr⟩ := htg.toY HC.out HR7.out
  have HCr := Lib.hid hcr
  have hb12 := hb1.trans (hb2.mono hb1.size)
  have HT2 := Lib.hid (HT.out.next hb12)
  have hS2 : w2.cell? ⟨w.heap.size, 0, none⟩ = some (.slice av 4 cv) ∧ w2.cell? ⟨w.heap.size, 1, none⟩ = some (.slice ao l.length co) := pair_cells HT2.out.fst
  refine hK.out _ _ hS2 (fun hHeld3 => ?_)
  clear hK K
  (try simp only [Act.put, u1, u2, u3])
  refine tk 6 ⟨some 29, .extract (.tmp 28) 0, 32, "l06_commands.go:145", #[⟨5, .data⟩], none⟩ ?_
  (try simp only [Act.put, u1, u2, u3])
  refine tk 7 ⟨some 30, .extract (.tmp 28) 1, 2, "l06_commands.go:145", #[⟨5, .data⟩], none⟩ ?_
  (try simp only [Act.put, u1, u2, u3])
  obtain ⟨r0, r1⟩ := pair_cells HT2.out.res
  obtain ⟨f0, f1⟩ := pair_frozen HT2.out.res
  obtain ⟨HX6, HI6⟩ := HT2.out.outX (w1 := w1) (va := va) (nv := nv) (vc := vc) (oa := oa) (no := no) (oc := oc) (code := RC) (zs := RZ) (m := RM) (by omega) HCr.out
  have hS3 : ((w2.setCell ⟨w.heap.size + 1 + 1, 0, none⟩ (.slice va nv vc)).setCell ⟨w.heap.size + 1 + 1, 1, none⟩ (.slice oa no oc)).cell? ⟨w.heap.size, 0, none⟩ = some (.slice av 4 cv) ∧ ((w2.setCell ⟨w.heap.size + 1 + 1, 0, none⟩ (.slice va nv vc)).setCell ⟨w.heap.size + 1 + 1, 1, none⟩ (.slice oa no oc)).cell? ⟨w.heap.size, 1, none⟩ = some (.slice ao l.length co) := pair_cells ((pair_other _ _ (by omega)).trans HT2.out.fst)
  refine rk 8 rfl (fun K hK => ?_)
  go_simp
  refine hK.out _ _ hS3 (fun hHeld4 => ?_)
  clear hK K
  (try simp only [Act.put, u1, u2, u3])
  clear hS hS1 hS2 r0 r1 f0 f1 hHeld hHeld2 hHeld3
  generalize (w2.setCell ⟨w.heap.size + 1 + 1, 0, none⟩ (.slice va nv vc)).setCell ⟨w.heap.size + 1 + 1, 1, none⟩ (.slice oa no oc) = wf at HX6 HI6 hS3 ⊢
  refine tk 9 ⟨some 7, .assign (.tmp 30), 2, "l06_commands.go:145", #[⟨7, .data⟩, ⟨8, .chain⟩, ⟨0, .phase⟩, ⟨1, .phase⟩, ⟨2, .phase⟩, ⟨3, .phase⟩, ⟨4, .phase⟩, ⟨5, .phase⟩, ⟨6, .phase⟩, ⟨7, .phase⟩, ⟨8, .phase⟩], none⟩ ?_
  (try simp only [Act.put, u1, u2, u3])
  refine wpAnyH_done (by kernel_rfl) ?_ _
  obtain ⟨p0, p1⟩ := pair_cells HX6.out
  go_wp2
  exact bodyPost_ret (v := .tuple #[.agg #[.slice va nv vc, .slice oa no oc], .int .i64 RC]) (by simp [results, Tryz.results36, go_sem, p0, p1]) rfl HI6.out
 have e7 : (kind == 7) = false := by rw [beq_eq_false_iff_ne]; exact h7
 by_cases h8 : kind = 8
 ·have e8 : (kind == 8) = true := by rw [h8]; rfl
  have HR8 : Hid (tglN xs l (d : Int) (redoTo xs d l) = (RC, RZ, RM)) := by have h := HRR.out; unfold l6N at h; rwa [if_neg h6, if_neg h7, if_pos h8] at h
  clear h8
  clear q0 q1
  go_upto_region 7 with fail
  have hS : w0.drew.cell? ⟨w.heap.size, 0, none⟩ = some (.slice av 4 cv) ∧ w0.drew.cell? ⟨w.heap.size, 1, none⟩ = some (.slice ao l.length co) := pair_cells HT.out.fst
  go_wp2_with fail
  refine wp_region_held_drew (S := fun w' => w'.cell? ⟨w.heap.size, 0, none⟩ = some (.slice av 4 cv) ∧ w'.cell? ⟨w.heap.size, 1, none⟩ = some (.slice ao l.length co)) (by kernel_rfl) hS (fun hHeld => ?_)
  refine tk 0 ⟨some 33, .load 32 (.tmp 3), 32, "l06_commands.go:147", #[], none⟩ ?_
  (try simp only [Act.put, u1, u2, u3])
  refine tk 1 ⟨some 34, .move (.tmp 1), 2, "l06_commands.go:147", #[], none⟩ ?_
  (try simp only [Act.put, u1, u2, u3])
  refine tk 2 ⟨some 35, .load 32 (.tmp 3), 32, "l06_commands.go:147", #[], none⟩ ?_
  (try simp only [Act.put, u1, u2, u3])
  refine tk 3 ⟨some 36, .move (.tmp 1), 2, "l06_commands.go:147", #[], none⟩ ?_
  (try simp only [Act.put, u1, u2, u3])
  refine rk 4 rfl (fun K hK => ?_)
  go_simp
  go_at_call 73
  refine (l6Redo w0.drew B av ao 4 cv l.length co xs l d hd (HO.out.kept (w' := w0.drew) fun _ _ => rfl) (by show B ≤ w0.heap.size; omega) (by omega) HC.out).mono ?_
  rintro e w1 ⟨rfl, hbz⟩
  have hb1 : Below w0.heap.size w0 w1 := Below.mk hbz.os hbz.tape hbz.output hbz.size hbz.block
  have hS1 : w1.cell? ⟨w.heap.size, 0, none⟩ = some (.slice av 4 cv) ∧ w1.cell? ⟨w.heap.size, 1, none⟩ = some (.slice ao l.length co) := pair_cells (HT.out.next hb1).fst
  have hs1 := hb1.size
  generalize redoTo xs d l = sqn at HR8 ⊢
  refine hK.out _ _ hS1 (fun hHeld2 => ?_)
  clear hK K
  (try simp only [Act.put, u1, u2, u3])
  refine rk 5 rfl (fun K hK => ?_)
  go_simp
  go_at_call 71
  refine (l6Toggle w1 B av ao 4 cv l.length co xs l (d : Int) sqn (HV.out.below hb1 (by omega)) (HO.out.below hb1 (by omega)) (by omega) HCv.out.2.2 HCo.out.2.2 (by omega) (by omega) (fun i hi => by have := op_bounds (cart_op HC.out hi); omega)).mono ?_
  rintro e w2 htg
  obtain ⟨va, nv, vc, oa, no, oc, rfl, hb2, hcr⟩ := htg.toY HC.out HR8.out
  have HCr := Lib.hid hcr
  have hb12 := hb1.trans (hb2.mono hb1.size)
  have HT2 := Lib.hid (HT.out.next hb12)
  have hS2 : w2.cell? ⟨w.heap.size, 0, none⟩ = some (.slice av 4 cv) ∧ w2.cell? ⟨w.heap.size, 1, none⟩ = some (.slice ao l.length co) := pair_cells HT2.out.fst
  refine hK.out _ _ hS2 (fun hHeld3 => ?_)
  clear hK K
  (try simp only [Act.put, u1, u2, u3])
  refine tk 6 ⟨some 39, .extract (.tmp 38) 0, 32, "l06_commands.go:147", #[⟨5, .data⟩], none⟩ ?_
  (try simp only [Act.put, u1, u2, u3])
  refine tk 7 ⟨some 40, .extract (.tmp 38) 1, 2, "l06_commands.go:147", #[⟨5, .data⟩], none⟩ ?_
  (try simp only [Act.put, u1, u2, u3])
  obtain ⟨r0, r1⟩ := pair_cells HT2.out.res
  obtain ⟨f0, f1⟩ := pair_frozen HT2.out.res
  obtain ⟨HX6, HI6⟩ := HT2.out.outX (w1 := w1) (va := va) (nv := nv) (vc := vc) (oa := oa) (no := no) (oc := oc) (code := RC) (zs := RZ) (m := RM) (by omega) HCr.out
  have hS3 : ((w2.setCell ⟨w.heap.size + 1 + 1, 0, none⟩ (.slice va nv vc)).setCell ⟨w.heap.size + 1 + 1, 1, none⟩ (.slice oa no oc)).cell? ⟨w.heap.size, 0, none⟩ = some (.slice av 4 cv) ∧ ((w2.setCell ⟨w.heap.size + 1 + 1, 0, none⟩ (.slice va nv vc)).setCell ⟨w.heap.size + 1 + 1, 1, none⟩ (.slice oa no oc)).cell? ⟨w.heap.size, 1, none⟩ = some (.slice ao l.length co) := pair_cells ((pair_other _ _ (by omega)).trans HT2.out.fst)
  refine rk 8 rfl (fun K hK => ?_)
  go_simp
  refine hK.out _ _ hS3 (fun hHeld4 => ?_)
  clear hK K
  (try simp only [Act.put, u1, u2, u3])
  clear hS hS1 hS2 r0 r1 f0 f1 hHeld hHeld2 hHeld3
  generalize (w2.setCell ⟨w.heap.size + 1 + 1, 0, none⟩ (.slice va nv vc)).setCell ⟨w.heap.size + 1 + 1, 1, none⟩ (.slice oa no oc) = wf at HX6 HI6 hS3 ⊢
  refine tk 9 ⟨some 7, .assign (.tmp 40), 2, "l06_commands.go:147", #[⟨7, .data⟩, ⟨8, .chain⟩, ⟨0, .phase⟩, ⟨1, .phase⟩, ⟨2, .phase⟩, ⟨3, .phase⟩, ⟨4, .phase⟩, ⟨5, .phase⟩, ⟨6, .phase⟩, ⟨7, .phase⟩, ⟨8, .phase⟩], none⟩ ?_
  (try simp only [Act.put, u1, u2, u3])
  refine wpAnyH_done (by kernel_rfl) ?_ _
  obtain ⟨p0, p1⟩ := pair_cells HX6.out
  go_wp2
  exact bodyPost_ret (v := .tuple #[.agg #[.slice va nv vc, .slice oa no oc], .int .i64 RC]) (by simp [results, Tryz.results36, go_sem, p0, p1]) rfl HI6.out
 have e8 : (kind == 8) = false := by rw [beq_eq_false_iff_ne]; exact h8
 by_cases h9 : kind = 9
 ·have e9 : (kind == 9) = true := by rw [h9]; rfl
  have HR9 : Hid (tglN xs l dv sq = (RC, RZ, RM)) := by have h := HRR.out; unfold l6N at h; rwa [if_neg h6, if_neg h7, if_neg h8, if_pos h9] at h
  clear h6 h7 h8 h9
  go_wp2_with fail
  refine (l6Toggle w0 B av ao 4 cv l.length co xs l dv sq HV.out HO.out (by omega) HCv.out.2.2 HCo.out.2.2 (by omega) (by omega) (fun i hi => by have := op_bounds (cart_op HC.out hi); omega)).mono ?_
  rintro e w1 htg
  obtain ⟨va, nv, vc, oa, no, oc, rfl, hb, hcr⟩ := htg.toY HC.out HR9.out
  have HT1 := Lib.hid (HT.out.next hb)
  have HCr := Lib.hid hcr
  clear q0 q1 k0 k1 k2 k3 k4 HT hb hcr htg
  obtain ⟨r0, r1⟩ := pair_cells HT1.out.res
  obtain ⟨f0, f1⟩ := pair_frozen HT1.out.res
  obtain ⟨HX6, HI6⟩ := HT1.out.outX (w1 := w0) (va := va) (nv := nv) (vc := vc) (oa := oa) (no := no) (oc := oc) (code := RC) (zs := RZ) (m := RM) (by omega) HCr.out
  go_wp2
  generalize (w1.setCell ⟨w.heap.size + 1 + 1, 0, none⟩ (.slice va nv vc)).setCell ⟨w.heap.size + 1 + 1, 1, none⟩ (.slice oa no oc) = wf at HX6 HI6 ⊢
  obtain ⟨p0, p1⟩ := pair_cells HX6.out
  exact bodyPost_ret (v := .tuple #[.agg #[.slice va nv vc, .slice oa no oc], .int .i64 (RC)]) (by simp [results, Tryz.results36, go_sem, p0, p1]) rfl HI6.out
 have e9 : (kind == 9) = false := by rw [beq_eq_false_iff_ne]; exact h9
 have HR1 : Hid ((if (oneOf (levTo item l l.length) (decide ((bestTo plcB item l l.length).kind = 4)) kind item qty).2 = 0 then (if (nextOp xs l d (oneOf (levTo item l l.length) (decide ((bestTo plcB item l l.length).kind = 4)) kind item qty).1).ok = true then ((0 : Int), putV xs d, putL l d (nextOp xs l d (oneOf (levTo item l l.length) (decide ((bestTo plcB item l l.length).kind = 4)) kind item qty).1)) else (4, [], [])) else ((oneOf (levTo item l l.length) (decide ((bestTo plcB item l l.length).kind = 4)) kind item qty).2, [], [])) = (RC, RZ, RM)) := by
  have h := HRR.out
  unfold l6N at h
  rw [if_neg h6, if_neg h7, if_neg h8, if_neg h9] at h
  exact h
 clear HRR h6 h7 h8 h9
 go_wp2_with fail
 refine (l6One w0 B av ao 4 cv l.length co xs l kind qty dv sq item HO.out (by omega) (by omega) HC.out (by have := cart_level HC.out item l.length (Nat.le_refl _); omega)).mono ?_
 have hitm := oneOf_item (levTo item l l.length) (decide ((bestTo plcB item l l.length).kind = 4)) kind item qty
 generalize oneOf (levTo item l l.length) (decide ((bestTo plcB item l l.length).kind = 4)) kind item qty = oc at hitm HR1 ⊢
 obtain ⟨op, code⟩ := oc
 have hi8 : op.item.size ≤ 8 := by
  rcases hitm with e | e
  ·have e : op.item = item := e
   rw [e]; exact hi
  ·have e : op.item = ⟨#[]⟩ := e
   rw [e]; exact Nat.zero_le _
 rintro e w1 ⟨rfl, hb1⟩
 have HT1 := Lib.hid (HT.out.next hb1)
 have HV1 := Lib.hid (HV.out.below hb1 (by omega))
 have HO1 := Lib.hid (HO.out.below hb1 (by omega))
 have hs1 := hb1.size
 clear hb1 HT HV HO q0 q1 k0 k1 k2 k3 k4 e6 e7 e8 e9 hitm
 go_upto_region 11 with fail
 have hb2 : Below w1.heap.size w1 (w1.alloc (.cells #[.int .i64 op.dev, .int .i64 op.seq, .int .i64 op.stamp, .int .i64 op.kind, .string op.item, .int .i64 op.qty, .int .i64 op.level, .int .i64 op.undos] 93)) := (Below.refl _ w1).alloc (Nat.le_refl _) _
 have HP2 : Hid ((w1.alloc (.cells #[.int .i64 op.dev, .int .i64 op.seq, .int .i64 op.stamp, .int .i64 op.kind, .string op.item, .int .i64 op.qty, .int .i64 op.level, .int .i64 op.undos] 93)).heap[w1.heap.size]? = some (.cells #[.int .i64 op.dev, .int .i64 op.seq, .int .i64 op.stamp, .int .i64 op.kind, .string op.item, .int .i64 op.qty, .int .i64 op.level, .int .i64 op.undos] 93 (0, 0))) := boxAt (Below.refl _ _)
 generalize w1.alloc (.cells #[.int .i64 op.dev, .int .i64 op.seq, .int .i64 op.stamp, .int .i64 op.kind, .string op.item, .int .i64 op.qty, .int .i64 op.level, .int .i64 op.undos] 93) = w2 at hb2 HP2 ⊢
 have HT2 := Lib.hid (HT1.out.next hb2)
 have HV2 := Lib.hid (HV1.out.below hb2 (by omega))
 have HO2 := Lib.hid (HO1.out.below hb2 (by omega))
 have hs2 := hb2.size
 clear hb2 HT1 HV1 HO1
 by_cases hc0 : code = 0
 rotate_left
 ·have en : (code != 0) = true := by simpa using hc0
  have h3 := HR1.out
  try dsimp only at h3
  rw [if_neg hc0] at h3
  injection h3 with e1 h4
  injection h4 with e2 e3
  subst e1 e2 e3
  have HN0 := Lib.hid hc0
  clear hc0
  obtain ⟨r0, r1⟩ := pair_cells HT2.out.res
  obtain ⟨f0, f1⟩ := pair_frozen HT2.out.res
  obtain ⟨HX6, HI6⟩ := HT2.out.outX (w1 := w2) (va := none) (nv := 0) (vc := 0) (oa := none) (no := 0) (oc := 0) (code := code) (zs := []) (m := []) (by omega) (fun h => absurd h HN0.out)
  go_wp2
  generalize (w2.setCell ⟨w.heap.size + 1 + 1, 0, none⟩ (.slice none 0 0)).setCell ⟨w.heap.size + 1 + 1, 1, none⟩ (.slice none 0 0) = wf at HX6 HI6 ⊢
  obtain ⟨p0, p1⟩ := pair_cells HX6.out
  exact bodyPost_ret (v := .tuple #[.agg #[.slice none 0 0, .slice none 0 0], .int .i64 (code)]) (by simp [results, Tryz.results36, go_sem, p0, p1]) rfl HI6.out
 subst hc0
 have HB0 := HBn.out
 obtain ⟨okk, zs', m', hokk, hput⟩ := l6PutX xs l d 160 (by omega) op HB0 hd (by omega)
 have HOk := Lib.hid hokk
 have HPut := Lib.hid hput
 clear hput hokk HB0
 obtain ⟨q0, q1⟩ := pair_cells HT2.out.fst
 obtain ⟨d0, d1, d2, d3, d4, d5, d6, d7⟩ := op_cells HP2.out
 go_wp2_with fail
 refine (HPut.out.2 w2 B av ao cv co HV2.out HO2.out (by omega) HCv.out HCo.out).mono ?_
 rintro e w3 ⟨va, vc, oa, oc, rfl, hov, hop, hb3, c1, c2⟩
 have HT3 := Lib.hid (HT2.out.next hb3)
 have HA := Lib.hid hov
 have HD := Lib.hid hop
 have HC1 := Lib.hid c1
 have HC2 := Lib.hid c2
 have hs3 := hb3.size
 clear hov hop hb3 c1 c2 HT2 q0 q1 d0 d1 d2 d3 d4 d5 d6 d7 HP2 HV2 HO2
 go_upto_region 14 with fail
 have hb4 : Below w3.heap.size w3 (w3.alloc (.cells #[.slice va zs'.length vc, .slice oa m'.length oc] 32)) := (Below.refl _ w3).alloc (Nat.le_refl _) _
 have HN4 : Hid ((w3.alloc (.cells #[.slice va zs'.length vc, .slice oa m'.length oc] 32)).heap[w3.heap.size]? = some (.cells #[.slice va zs'.length vc, .slice oa m'.length oc] 32 (0, 0))) := boxAt (Below.refl _ _)
 generalize w3.alloc (.cells #[.slice va zs'.length vc, .slice oa m'.length oc] 32) = w4 at hb4 HN4 ⊢
 have HT4 := Lib.hid (HT3.out.next hb4)
 have HA4 := Lib.hid (HA.out.below hb4 (Nat.le_refl _))
 have HD4 := Lib.hid (HD.out.below hb4 (Nat.le_refl _))
 have hs4 := hb4.size
 clear hb4 HT3 HA HD
 have h3 := HR1.out
 try dsimp only at h3
 (first | rw [if_pos rfl] at h3 | rw [if_pos trivial] at h3)
 rw [← HOk.out] at h3
 cases okk
 ·rw [if_neg (by decide)] at h3
  injection h3 with e1 h4
  injection h4 with e2 e3
  subst e1 e2 e3
  obtain ⟨r0, r1⟩ := pair_cells HT4.out.res
  obtain ⟨f0, f1⟩ := pair_frozen HT4.out.res
  obtain ⟨HX6, HI6⟩ := HT4.out.outX (w1 := w4) (va := none) (nv := 0) (vc := 0) (oa := none) (no := 0) (oc := 0) (code := 4) (zs := []) (m := []) (by omega) (fun h => absurd h (by omega))
  go_wp2
  generalize (w4.setCell ⟨w.heap.size + 1 + 1, 0, none⟩ (.slice none 0 0)).setCell ⟨w.heap.size + 1 + 1, 1, none⟩ (.slice none 0 0) = wf at HX6 HI6 ⊢
  obtain ⟨p0, p1⟩ := pair_cells HX6.out
  exact bodyPost_ret (v := .tuple #[.agg #[.slice none 0 0, .slice none 0 0], .int .i64 (4)]) (by simp [results, Tryz.results36, go_sem, p0, p1]) rfl HI6.out
 obtain ⟨hbd, hze, hme⟩ := HPut.out.1 rfl
 rw [if_pos rfl, ← hze, ← hme] at h3
 injection h3 with e1 h4
 injection h4 with e2 e3
 subst e1 e2 e3
 clear hze hme
 have HC1 := HC1
 have HA4 := HA4
 rw [hbd.len] at HN4 HA4 HC1 ⊢
 have HCr : Hid ((0 : Int) = 0 → CrX w4 w2.heap.size w4.heap.size va 4 vc oa m'.length oc zs' m') := fun _ => ⟨hbd.len.symm, rfl, HA4.out.more (Nat.le_refl _) hs4, HD4.out.more (Nat.le_refl _) hs4, HC1.out, HC2.out⟩
 clear hbd
 obtain ⟨n0, n1⟩ := pair_cells HN4.out
 obtain ⟨r0, r1⟩ := pair_cells HT4.out.res
 obtain ⟨f0, f1⟩ := pair_frozen HT4.out.res
 obtain ⟨HX6, HI6⟩ := HT4.out.outX (w1 := w2) (va := va) (nv := 4) (vc := vc) (oa := oa) (no := m'.length) (oc := oc) (code := 0) (zs := zs') (m := m') (by omega) HCr.out
 go_wp2
 generalize (w4.setCell ⟨w.heap.size + 1 + 1, 0, none⟩ (.slice va 4 vc)).setCell ⟨w.heap.size + 1 + 1, 1, none⟩ (.slice oa m'.length oc) = wf at HX6 HI6 ⊢
 obtain ⟨p0, p1⟩ := pair_cells HX6.out
 exact bodyPost_ret (v := .tuple #[.agg #[.slice va 4 vc, .slice oa m'.length oc], .int .i64 (0)]) (by simp [results, Tryz.results36, go_sem, p0, p1]) rfl HI6.out
theorem cmd_item {kind : Int} {item : ByteArray} {qty dv sq : Int} (h : cmdB kind item qty dv sq = true) : item.size ≤ 8 := by
 unfold cmdB at h
 have hb : itemB item = true → item.size ≤ 8 := fun h => by
  unfold itemB at h
  simp only [Bool.and_eq_true, decide_eq_true_eq] at h
  omega
 have he : item = ⟨#[]⟩ → item.size ≤ 8 := fun h => by rw [h]; exact Nat.zero_le _
 split at h
 ·rw [Bool.and_eq_true] at h; exact hb h.1
 ·split at h
  ·rw [Bool.and_eq_true] at h; exact hb h.1
  ·split at h
   ·exact he (of_decide_eq_true h).1
   ·split at h
    ·rw [Bool.and_eq_true] at h; exact he (of_decide_eq_true h.1).1
    ·cases h
set_option maxHeartbeats 40000000 in
theorem specIssueX (w : World) (B : Nat) (av ao : Option Addr) (cv no co : Nat) (xs : List Int) (l : List OpV) (kind qty dv sq : Int) (item : ByteArray) (hx : Ints w B av 4 xs) (h : Ops w B ao no l) (hB : B ≤ w.heap.size) (hcv : Caps av 4 cv) (hco : Caps ao no co) (hi : item.size ≤ 1048576) (dev : Int) (hm : ∀ i, i < no → (atOp l i).item.size ≤ 1048576) (hn : no ≤ 1048576) {RC : Int} {RZ : List Int} {RM : List OpV} (hR : issueN xs l dev kind item qty dv sq = (RC, RZ, RM)) :
  Calls Tryz.prog 8 #[.agg #[.slice av 4 cv, .slice ao no co], .int .i64 dev, .agg #[.int .i64 kind, .string item, .int .i64 qty, .int .i64 dv, .int .i64 sq]] w (IssN RC RZ RM w) := by
 have HRR := Lib.hid hR
 clear hR
 obtain rfl := h.1
 have hT := IsuF.mk0 w #[.slice av 4 cv, .slice ao l.length co] #[.int .i64 kind, .string item, .int .i64 qty, .int .i64 dv, .int .i64 sq] #[.slice none 0 0, .slice none 0 0]
 have HV := Lib.hid (hx.below hT.bel hB)
 have HO := Lib.hid (h.below hT.bel hB)
 have HT := Lib.hid hT
 have HCv := Lib.hid hcv
 have HCo := Lib.hid hco
 have HM := Lib.hid hm
 clear hm
 clear hx h hT hcv hco
 go_enter Tryz.func8, Tryz.ntmps8
 go_upto_region 1 with fail
 generalize ((w.alloc (.cells #[.slice av 4 cv, .slice ao l.length co] 32)).alloc (.cells #[.int .i64 kind, .string item, .int .i64 qty, .int .i64 dv, .int .i64 sq] 36)).alloc (.cells #[.slice none 0 0, .slice none 0 0] 32) = w0 at HV HO HT ⊢
 have hs0 := HT.out.lt
 obtain ⟨q0, q1⟩ := pair_cells HT.out.fst
 obtain ⟨k0, k1, k2, k3, k4⟩ := cmd_all HT.out.snd
 have finish : ∀ (w1 : World), IsuF w w1 #[.slice av 4 cv, .slice ao l.length co] #[.int .i64 kind, .string item, .int .i64 qty, .int .i64 dv, .int .i64 sq] #[.slice none 0 0, .slice none 0 0] → True := fun _ _ => trivial
 clear finish
 obtain ⟨cb, hcb⟩ : ∃ b, cartB xs l = b := ⟨_, rfl⟩
 have HCb := Lib.hid hcb
 clear hcb
 go_wp2_with fail
 refine (specCartOk w0 B av ao 4 cv l.length co xs l HV.out HO.out (by omega) (by omega) hn HM.out).mono ?_
 rw [HCb.out]
 rintro e w1 ⟨rfl, hb1⟩
 have HT1 := Lib.hid (HT.out.next hb1)
 have HV1 := Lib.hid (HV.out.below hb1 (by omega))
 have HO1 := Lib.hid (HO.out.below hb1 (by omega))
 have hs1 := hb1.size
 clear hb1 HT HV HO q0 q1 k0 k1 k2 k3 k4
 cases cb
 ·have h3 := HRR.out
  unfold issueN at h3
  rw [if_neg (by rintro ⟨a1, a2, a3⟩; first | exact Bool.false_ne_true (HCb.out.symm.trans a1) | exact Bool.false_ne_true (HDb.out.symm.trans a2) | exact Bool.false_ne_true (HKb.out.symm.trans a3))] at h3
  injection h3 with e1 h4
  injection h4 with e2 e3
  subst e1 e2 e3
  obtain ⟨r0, r1⟩ := pair_cells HT1.out.res
  obtain ⟨f0, f1⟩ := pair_frozen HT1.out.res
  obtain ⟨HX6, HI6⟩ := HT1.out.outN (w1 := w1) (va := none) (nv := 0) (vc := 0) (oa := none) (no := 0) (oc := 0) (code := 1) (zs := []) (m := []) (by omega) (CrX.nil _ _ _)
  go_wp2
  generalize (w1.setCell ⟨w.heap.size + 1 + 1, 0, none⟩ (.slice none 0 0)).setCell ⟨w.heap.size + 1 + 1, 1, none⟩ (.slice none 0 0) = wf at HX6 HI6 ⊢
  obtain ⟨p0, p1⟩ := pair_cells HX6.out
  exact bodyPost_ret (v := .tuple #[.agg #[.slice none 0 0, .slice none 0 0], .int .i64 (1)]) (by simp [results, Tryz.results8, go_sem, p0, p1]) rfl HI6.out
 go_wp2_with fail
 refine (l3Dev dev w1).mono ?_
 rintro e w2 ⟨rfl, rfl⟩
 obtain ⟨db, hdb⟩ : ∃ b, inB dev 0 3 = b := ⟨_, rfl⟩
 have HDb := Lib.hid hdb
 rw [hdb]
 clear hdb
 cases db
 ·have h3 := HRR.out
  unfold issueN at h3
  rw [if_neg (by rintro ⟨a1, a2, a3⟩; first | exact Bool.false_ne_true (HCb.out.symm.trans a1) | exact Bool.false_ne_true (HDb.out.symm.trans a2) | exact Bool.false_ne_true (HKb.out.symm.trans a3))] at h3
  injection h3 with e1 h4
  injection h4 with e2 e3
  subst e1 e2 e3
  obtain ⟨r0, r1⟩ := pair_cells HT1.out.res
  obtain ⟨f0, f1⟩ := pair_frozen HT1.out.res
  obtain ⟨HX6, HI6⟩ := HT1.out.outN (w1 := w1) (va := none) (nv := 0) (vc := 0) (oa := none) (no := 0) (oc := 0) (code := 1) (zs := []) (m := []) (by omega) (CrX.nil _ _ _)
  go_wp2
  generalize (w1.setCell ⟨w.heap.size + 1 + 1, 0, none⟩ (.slice none 0 0)).setCell ⟨w.heap.size + 1 + 1, 1, none⟩ (.slice none 0 0) = wf at HX6 HI6 ⊢
  obtain ⟨p0, p1⟩ := pair_cells HX6.out
  exact bodyPost_ret (v := .tuple #[.agg #[.slice none 0 0, .slice none 0 0], .int .i64 (1)]) (by simp [results, Tryz.results8, go_sem, p0, p1]) rfl HI6.out
 obtain ⟨k0, k1, k2, k3, k4⟩ := cmd_all HT1.out.snd
 go_wp2_with fail
 refine (specCmd kind item qty dv sq (by omega) w1).mono ?_
 obtain ⟨kb, hkb⟩ : ∃ b, cmdB kind item qty dv sq = b := ⟨_, rfl⟩
 have HKb := Lib.hid hkb
 rw [hkb]
 clear hkb
 rintro e w2 ⟨rfl, hb2⟩
 have HT2 := Lib.hid (HT1.out.next hb2)
 have HV2 := Lib.hid (HV1.out.below hb2 (by omega))
 have HO2 := Lib.hid (HO1.out.below hb2 (by omega))
 have hs2 := hb2.size
 clear hb2 HT1 HV1 HO1 k0 k1 k2 k3 k4
 cases kb
 ·have h3 := HRR.out
  unfold issueN at h3
  rw [if_neg (by rintro ⟨a1, a2, a3⟩; first | exact Bool.false_ne_true (HCb.out.symm.trans a1) | exact Bool.false_ne_true (HDb.out.symm.trans a2) | exact Bool.false_ne_true (HKb.out.symm.trans a3))] at h3
  injection h3 with e1 h4
  injection h4 with e2 e3
  subst e1 e2 e3
  obtain ⟨r0, r1⟩ := pair_cells HT2.out.res
  obtain ⟨f0, f1⟩ := pair_frozen HT2.out.res
  obtain ⟨HX6, HI6⟩ := HT2.out.outN (w1 := w2) (va := none) (nv := 0) (vc := 0) (oa := none) (no := 0) (oc := 0) (code := 1) (zs := []) (m := []) (by omega) (CrX.nil _ _ _)
  go_wp2
  generalize (w2.setCell ⟨w.heap.size + 1 + 1, 0, none⟩ (.slice none 0 0)).setCell ⟨w.heap.size + 1 + 1, 1, none⟩ (.slice none 0 0) = wf at HX6 HI6 ⊢
  obtain ⟨p0, p1⟩ := pair_cells HX6.out
  exact bodyPost_ret (v := .tuple #[.agg #[.slice none 0 0, .slice none 0 0], .int .i64 (1)]) (by simp [results, Tryz.results8, go_sem, p0, p1]) rfl HI6.out
 have hi := cmd_item HKb.out
 obtain ⟨d, rfl, hd⟩ : ∃ d : Nat, dev = (d : Int) ∧ d < 4 := by
  have := HDb.out
  rw [inB_iff] at this
  exact ⟨dev.toNat, by omega, by omega⟩
 have hl := cart_length HCb.out
 obtain ⟨LC, LZ, LM, hL6⟩ : ∃ c z m, l6N xs l d kind item qty dv sq = (c, z, m) := ⟨_, _, _, rfl⟩
 have HR2 : Hid ((if LC = 0 then (LC, LZ, LM) else (LC, xs, l)) = (RC, RZ, RM)) := by
  have h := HRR.out
  unfold issueN at h
  rw [if_pos ⟨HCb.out, HDb.out, HKb.out⟩, Int.toNat_natCast, hL6] at h
  exact h
 have HL6 := Lib.hid hL6
 clear hL6 HRR
 obtain ⟨q0, q1⟩ := pair_cells HT2.out.fst
 obtain ⟨k0, k1, k2, k3, k4⟩ := cmd_all HT2.out.snd
 go_wp2_with fail
 refine (l6IssueX w2 B av ao cv l.length co d xs l kind qty dv sq item HV2.out HO2.out (by omega) HCv.out HCo.out hi hd HCb.out HL6.out).mono ?_
 rintro e w3 ⟨va, nv, vc, oa, no, oc, rfl, hb3, hcr⟩
 have HT3 := Lib.hid (HT2.out.next hb3)
 have HV3 := Lib.hid (HV2.out.below hb3 (by omega))
 have HO3 := Lib.hid (HO2.out.below hb3 (by omega))
 have HCr := Lib.hid hcr
 have hs3 := hb3.size
 clear hb3 HT2 HV2 HO2 hcr q0 q1 k0 k1 k2 k3 k4
 go_upto_region 4 with fail
 have hb4 : Below w3.heap.size w3 (w3.alloc (.cells #[.slice va nv vc, .slice oa no oc] 32)) := (Below.refl _ w3).alloc (Nat.le_refl _) _
 have HN4 : Hid ((w3.alloc (.cells #[.slice va nv vc, .slice oa no oc] 32)).heap[w3.heap.size]? = some (.cells #[.slice va nv vc, .slice oa no oc] 32 (0, 0))) := boxAt (Below.refl _ _)
 generalize w3.alloc (.cells #[.slice va nv vc, .slice oa no oc] 32) = w4 at hb4 HN4 ⊢
 have HT4 := Lib.hid (HT3.out.next hb4)
 have HV4 := Lib.hid (HV3.out.below hb4 (by omega))
 have HO4 := Lib.hid (HO3.out.below hb4 (by omega))
 have HCr4 : Hid (LC = 0 → CrX w4 w2.heap.size w4.heap.size va nv vc oa no oc LZ LM) := fun h0 => ((HCr.out h0).below hb4 (Nat.le_refl _)).more (Nat.le_refl _) hb4.size
 have hs4 := hb4.size
 clear hb4 HT3 HV3 HO3 HCr
 by_cases hc0 : LC = 0
 rotate_left
 ·have en : (LC != 0) = true := by simpa using hc0
  have h3 := HR2.out
  rw [if_neg hc0] at h3
  injection h3 with e1 h4
  injection h4 with e2 e3
  subst e1 e2 e3
  have HN0 := Lib.hid hc0
  clear hc0
  obtain ⟨q0, q1⟩ := pair_cells HT4.out.fst
  go_wp2_with fail
  refine (l4Copy w4 B av ao 4 cv l.length co xs l HV4.out HO4.out (by omega) HCv.out.2.2 HCo.out.2.2 (by omega) (by omega)).mono ?_
  rintro e w5 ⟨ra, rc, sa, sc, rfl, ho1, ho2, hb5, hq1, hq2⟩
  have HCr5 : Hid (CrX w5 w4.heap.size w5.heap.size ra xs.length rc sa l.length sc xs l) := ⟨rfl, rfl, ho1, ho2, hq1, hq2⟩
  clear ho1 ho2 hq1 hq2
  have HT5 := Lib.hid (HT4.out.next hb5)
  have hs5 := hb5.size
  clear hb5 HT4 HV4 HO4 q0 q1
  obtain ⟨r0, r1⟩ := pair_cells HT5.out.res
  obtain ⟨f0, f1⟩ := pair_frozen HT5.out.res
  obtain ⟨HX6, HI6⟩ := HT5.out.outN (w1 := w4) (va := ra) (nv := xs.length) (vc := rc) (oa := sa) (no := l.length) (oc := sc) (code := LC) (zs := xs) (m := l) (by omega) HCr5.out
  go_wp2
  generalize (w5.setCell ⟨w.heap.size + 1 + 1, 0, none⟩ (.slice ra xs.length rc)).setCell ⟨w.heap.size + 1 + 1, 1, none⟩ (.slice sa l.length sc) = wf at HX6 HI6 ⊢
  obtain ⟨p0, p1⟩ := pair_cells HX6.out
  exact bodyPost_ret (v := .tuple #[.agg #[.slice ra xs.length rc, .slice sa l.length sc], .int .i64 (LC)]) (by simp [results, Tryz.results8, go_sem, p0, p1]) rfl HI6.out
 subst hc0
 have h3 := HR2.out
 rw [if_pos rfl] at h3
 injection h3 with e1 h4
 injection h4 with e2 e3
 subst e1 e2 e3
 obtain ⟨n0, n1⟩ := pair_cells HN4.out
 obtain ⟨r0, r1⟩ := pair_cells HT4.out.res
 obtain ⟨f0, f1⟩ := pair_frozen HT4.out.res
 obtain ⟨HX6, HI6⟩ := HT4.out.outN (w1 := w2) (va := va) (nv := nv) (vc := vc) (oa := oa) (no := no) (oc := oc) (code := 0) (zs := LZ) (m := LM) (by omega) (HCr4.out rfl)
 go_wp2
 generalize (w4.setCell ⟨w.heap.size + 1 + 1, 0, none⟩ (.slice va nv vc)).setCell ⟨w.heap.size + 1 + 1, 1, none⟩ (.slice oa no oc) = wf at HX6 HI6 ⊢
 obtain ⟨p0, p1⟩ := pair_cells HX6.out
 exact bodyPost_ret (v := .tuple #[.agg #[.slice va nv vc, .slice oa no oc], .int .i64 (0)]) (by simp [results, Tryz.results8, go_sem, p0, p1]) rfl HI6.out
end Go.Proofs.YtjokbaaommicmaaGreatDoor
