/- Walks and mathematics that several claims share, part 39. -/
import Derived.Test.YthkagbnpcjidfaaGreatDoorGq35
import Derived.Test.YthkagbnpcjidfaaGreatDoorGq38
import Derived.Deep.Cut
import Derived.Deep.RegionHeld
import Derived.Lib.Hide
namespace Go.Proofs.YthkagbnpcjidfaaGreatDoor
set_option maxRecDepth 100000
open Go.RowKit
set_option linter.unusedVariables false
set_option linter.unusedSimpArgs false
theorem eG.up {w : World} {B B' : Nat} {E : Int → Addr} (h : eG w B E) (hB : B ≤ B') : eG w B' E :=
 ⟨Nat.le_trans h.low hB, h.cells, fun c h1 h2 => by obtain ⟨a, r⟩ := h.lies c h1 h2; exact ⟨by omega, r⟩, h.ne, h.typ⟩
theorem aGL {xs : List Int} {l : List aA} (hc : aD xs l = true) : (gB (dC xs l)).map (·.item) = (bV l l.length).filter fun s => !bW l s := by
 unfold dC jM gB
 rw [if_pos hc, List.filter_map, List.map_map]
 have e : ((fun x : bP => x.item) ∘ fM l) = id := rfl
 rw [e, List.map_id]
 rfl
theorem aDk {d : Nat} {eU : List ByteArray} {k : Nat} {zs : List Int} {m : List aA} (hk : k < eU.length) : oV d (eU.drop k) zs m = if (dM zs m d 3 (eU.getD k ⟨#[]⟩) 0).1 = 0 then oV d (eU.drop (k + 1)) (dM zs m d 3 (eU.getD k ⟨#[]⟩) 0).2.1 (dM zs m d 3 (eU.getD k ⟨#[]⟩) 0).2.2 else ((dM zs m d 3 (eU.getD k ⟨#[]⟩) 0).1, [], []) := by
 rw [List.drop_eq_getElem_cons hk, List.getD_eq_getElem?_getD, List.getElem?_eq_getElem hk]
 rfl
theorem aJj {xs : List Int} {l : List aA} {d : Nat} {kind : Int} {item : ByteArray} {qty : Int} (h0 : (dM xs l d kind item qty).1 = 0) : 0 < (dM xs l d kind item qty).2.2.length := by
 unfold dM at h0 ⊢
 dsimp only at h0 ⊢
 split at h0
 ·rename_i h1
  rw [if_pos h1]
  split at h0
  ·rename_i h2
   rw [if_pos h2]
   show 0 < (bH l d _).length
   rw [mW]; omega
  ·cases h0
 ·rename_i h1
  exact absurd h0 h1
structure aAk (wz : World) (rb d : Nat) (T : Int × List Int × List aA) (eU : List ByteArray) (k : Nat) (zs : List Int) (m : List aA) (vg vo vc : Nat) (oa : Option Addr) (n oc : Nat) (wr : World) : Prop where
 bel : Below rb wz wr
 rest : wr.heap[rb]? = some (.cells #[.slice (some ⟨vg, vo, none⟩) 4 vc, .slice oa n oc] 27 (0, 0))
 ints : Ints wr wr.heap.size (some ⟨vg, vo, none⟩) 4 zs
 ops : bR wr wr.heap.size oa n m
 capv : 4 ≤ vc
 capo : bY oa n oc
 cart : aD zs m = true
 tot : oV d (eU.drop k) zs m = T
 own : 0 < k → ∃ cQ, Own wr (rb + 1) cQ (some ⟨vg, vo, none⟩) 4 zs ∧ bE wr cQ wr.heap.size oa n m ∧ rb + 1 ≤ cQ ∧ cQ ≤ wr.heap.size ∧ bY (some ⟨vg, vo, none⟩) 4 vc
theorem aAk.next {wz : World} {rb d : Nat} {T : Int × List Int × List aA} {eU : List ByteArray} {k : Nat} {zs : List Int} {m : List aA} {vg vo vc : Nat} {oa : Option Addr} {n oc : Nat} {wr w2 : World} (h : aAk wz rb d T eU k zs m vg vo vc oa n oc wr) (hz : rb ≤ wz.heap.size) (hb : Below wr.heap.size wr w2) : aAk wz rb d T eU k zs m vg vo vc oa n oc w2 :=
 ⟨h.bel.trans (hb.mono (Nat.le_trans hz h.bel.size)), (hb.block _ (aRq h.rest).1).trans h.rest, (h.ints.below hb aRr).more hb.size, (h.ops.below hb aRr).more hb.size, h.capv, h.capo, h.cart, h.tot, fun hk => by
  obtain ⟨cQ, h1, h2, h3, h4, h5⟩ := h.own hk; exact ⟨cQ, h1.below hb h4, (h2.below hb aRr).more aRr hb.size, h3, Nat.le_trans h4 hb.size, h5⟩⟩
theorem aAk.step {wz : World} {rb d : Nat} {T : Int × List Int × List aA} {eU : List ByteArray} {k : Nat} {zs : List Int} {m : List aA} {vg vo vc : Nat} {oa : Option Addr} {n oc : Nat} {wr w1 w2 w3 : World} (h : aAk wz rb d T eU k zs m vg vo vc oa n oc wr) (hz : rb ≤ wz.heap.size) (hd : d < 4) (hk : k < eU.length) {s : ByteArray} (hs : eU.getD k ⟨#[]⟩ = s) (aF : Below wr.heap.size wr w1) (h0 : (dM zs m d 3 s 0).1 = 0)
  {va : Option Addr} {F5 : Nat} {A6 : Option Addr} {F9 cQ : Nat} (h2 : Own w2 w1.heap.size cQ va (dM zs m d 3 s 0).2.1.length (dM zs m d 3 s 0).2.1) (h3 : bE w2 cQ w2.heap.size A6 (dM zs m d 3 s 0).2.2.length (dM zs m d 3 s 0).2.2) (h4 : w1.heap.size ≤ cQ) (h5 : cQ ≤ w2.heap.size) (h6 : bY va (dM zs m d 3 s 0).2.1.length F5) (h7 : bY A6 (dM zs m d 3 s 0).2.2.length F9) (h8 : Below w1.heap.size w1 w2) (h9 : Below w2.heap.size w2 w3) :
  ∃ M0, va = some ⟨M0, 0, none⟩ ∧ (dM zs m d 3 s 0).2.1.length = 4 ∧ aAk wz rb d T eU (k + 1) (dM zs m d 3 s 0).2.1 (dM zs m d 3 s 0).2.2 M0 0 F5 A6 (dM zs m d 3 s 0).2.2.length F9 ((w3.setCell ⟨rb, 0, none⟩ (.slice (some ⟨M0, 0, none⟩) 4 F5)).setCell ⟨rb, 1, none⟩ (.slice A6 (dM zs m d 3 s 0).2.2.length F9)) := by
 have aND := i1 h.cart hd h0
 have hpos := aJj h0
 have aNh := h.tot
 rw [aDk hk, hs, if_pos h0] at aNh
 generalize dM zs m d 3 s 0 = r at *
 obtain ⟨qK, _⟩ := eP aND
 rw [qK] at h2 h6
 obtain ⟨M0, aY, G2, _⟩ := h2.2 (by omega)
 subst G2
 have hrb : rb < wr.heap.size := (aRq h.rest).1
 have eL := aF.size
 have eB := h8.size
 have iD := h9.size
 have e3 : w3.heap[rb]? = some (.cells #[.slice (some ⟨vg, vo, none⟩) 4 vc, .slice oa n oc] 27 (0, 0)) := (h9.block _ (by omega)).trans ((h8.block _ (by omega)).trans ((aF.block _ hrb).trans h.rest))
 have qU : ∀ j, j ≠ rb → ((w3.setCell ⟨rb, 0, none⟩ (.slice (some ⟨M0, 0, none⟩) 4 F5)).setCell ⟨rb, 1, none⟩ (.slice A6 r.2.2.length F9)).heap[j]? = w3.heap[j]? := fun j hj => aE _ _ hj
 have dA := bB w3 rb (.slice (some ⟨M0, 0, none⟩) 4 F5) (.slice A6 r.2.2.length F9)
 have o2 : Own ((w3.setCell ⟨rb, 0, none⟩ (.slice (some ⟨M0, 0, none⟩) 4 F5)).setCell ⟨rb, 1, none⟩ (.slice A6 r.2.2.length F9)) (rb + 1) cQ (some ⟨M0, 0, none⟩) 4 r.2.1 := ((h2.below h9 h5).kept (fun j a b => qU j (by omega))).more (by omega) aRr
 have o3 := (h3.below h9 aRr).kept (w' := (w3.setCell ⟨rb, 0, none⟩ (.slice (some ⟨M0, 0, none⟩) 4 F5)).setCell ⟨rb, 1, none⟩ (.slice A6 r.2.2.length F9)) (fun j a b => qU j (by omega))
 refine ⟨M0, rfl, qK, ⟨?_, cH _ _ e3, ?_, ?_, h6.1, h7, aND, aNh, fun _ => ⟨cQ, o2, ?_, by omega, by omega, h6⟩⟩⟩
 ·have hbw : Below rb wz w3 := h.bel.trans (((aF.mono (by omega)).trans (h8.mono (by omega))).trans (h9.mono (by omega)))
  exact (hbw.setCell (p := ⟨rb, 0, none⟩) aRr _).setCell (p := ⟨rb, 1, none⟩) aRr _
 ·exact o2.ints.more (by omega)
 ·rw [dA]
  exact o3.ops.more (by omega)
 ·rw [dA]
  exact o3.more aRr (by omega)
set_option maxHeartbeats 40000000 in
theorem aKm (w : World) (B : Nat) (E : Int → Addr) (hE : eG w B E) (g off : Nat) (ao : Option Addr) (cv no co d : Nat) (xs : List Int) (l : List aA) (hx : Ints w B (some ⟨g, off, none⟩) 4 xs) (h : bR w B ao no l) (hB : B ≤ w.heap.size) (bU : 4 ≤ cv) (cC : bY ao no co) (hc : aD xs l = true) (hd : d < 4) :
  Calls Tryz.prog 107 #[.agg #[.slice (some ⟨g, off, none⟩) 4 cv, .slice ao no co], .int .i64 (d : Int)] w (nM E (oW xs l d) w) := by
 have iR : no ≤ 160 := by rw [← h.1]; exact eF hc
 have HM : Hid (∀ o ∈ l, o.item.size ≤ 1048576) := fun o ho => by
  obtain ⟨i, hi, rfl⟩ := List.getElem_of_mem ho; have h2 := (dI (fI hc hi)).2.2.2.2.1; have e : aB l i = l[i] := by unfold aB; rw [List.getD_eq_getElem?_getD, List.getElem?_eq_getElem hi]; rfl
  rw [e] at h2; omega
 obtain ⟨T, pR⟩ : ∃ T, T = oW xs l d := ⟨_, rfl⟩
 rw [← pR]
 obtain ⟨eU, hnm⟩ : ∃ eU, eU = (bV l l.length).filter fun s => !bW l s := ⟨_, rfl⟩
 have HTN : Hid (eU = [] → T = (2, [], [])) := fun e => by rw [pR, R1 hc hd, ← hnm, if_pos e]
 have HTY : Hid (eU ≠ [] → T = oV d eU xs l) := fun e => by rw [pR, R1 hc hd, ← hnm, if_neg e]
 have HNI : Hid (∀ s ∈ eU, s.size ≤ 1048576) := fun s hs => by
  rw [hnm] at hs; have eB := (List.mem_filter.1 hs).1; have := aEe (c := 8) (fun i hi => (dI (fI hc hi)).2.2.2.2.1) aRr eB
  omega
 have HFN : Hid ((gB (dC xs l)).map (·.item) = eU) := (aGL hc).trans hnm.symm
 have aHy : Hid ((dC xs l).length ≤ 1048576) := by
  have e : dC xs l = (bV l l.length).map (fM l) := by unfold dC jM; rw [if_pos hc]
  have h3 := wM l l.length; have h4 := eF hc
  show _ ≤ _
  rw [e, List.length_map]; omega
 have hT := sW.mk0 w #[.slice (some ⟨g, off, none⟩) 4 cv, .slice ao no co] #[.slice none 0 0, .slice none 0 0] 27
 have HV := aRp (hx.below hT.bel hB)
 have HO := aRp (h.below hT.bel hB)
 have HE := aRp (hE.below hT.bel hB)
 have HT := aRp hT
 have iA := aRp cC
 have HC := aRp hc
 have X5 := hE.low
 clear hx h hT cC hE hc pR hnm
 go_enter Tryz.func107, Tryz.ntmps107
 go_upto_region 1 with fail
 generalize (w.alloc (.cells #[.slice (some ⟨g, off, none⟩) 4 cv, .slice ao no co] 27)).alloc (.cells #[.slice none 0 0, .slice none 0 0] 27) = w0 at HV HO HE HT ⊢
 have lC := aDX HT.out
 obtain ⟨c0, c1⟩ := pair_cells HT.out.fst
 go_wp2_with fail
 refine (aBT w0 B (some ⟨g, off, none⟩) ao 4 cv no co xs l HV.out HO.out (by omega) (by omega) iA.out.1 ⟨by omega, iA.out.2.1⟩ HM.out).mono ?_
 rintro e w1 ⟨la, lc, rfl, jO, aF⟩
 have aFl := aRp jO
 have dK := aRp aF
 clear jO aF c0 c1
 generalize dC xs l = LN at HFN aHy aFl ⊢
 go_wp2_with fail
 refine (aFY w1 w0.heap.size la LN.length lc LN aFl.out dK.out.size aHy.out).mono ?_
 rintro e w2 ⟨fa, fc, rfl, hF, hfc, aI⟩
 have aCH : Below w0.heap.size w0 w2 := dK.out.trans aI
 have aN := aRp (HT.out.next aCH)
 have jZ := aRp (HV.out.below aCH (by omega))
 have fJ := aRp (HO.out.below aCH (by omega))
 have dV := aRp (HE.out.below aCH (by omega))
 have eB := aCH.size
 have HF2 := aRp hF
 have hFl : (gB LN).length ≤ 1048576 := Nat.le_trans (List.length_filter_le _ _) aHy.out
 clear hF aI aCH dK aFl HT HV HO HE aHy
 generalize gB LN = F at HFN HF2 hfc hFl ⊢
 obtain ⟨c0, c1⟩ := pair_cells aN.out.fst
 by_cases hf0 : F.length = 0
 ·have hfe : F = [] := List.eq_nil_of_length_eq_zero hf0
  have O6 : Hid (T = (2, [], [])) := HTN.out (by rw [← HFN.out, hfe]; rfl)
  rw [hf0]; have g2 := aK6 dV.out
  go_wp2_with fail
  refine wp_region_held_drew (S := fun w' => w'.cell? ⟨2, 0, none⟩ = some (.iface 226 (.pointer (some (E 2))))) (by kernel_rfl) g2 (fun aO => ?_)
  have dE : Hid (Below w2.heap.size w2 w2.drew) := ⟨rfl, rfl, rfl, Nat.le_refl _, fun _ _ => rfl⟩
  generalize w2.drew = z0 at dE aO ⊢; have cU := aRp (aN.out.next dE.out); obtain ⟨r0, r1⟩ := pair_cells cU.out.snd; obtain ⟨fH, fG⟩ := aC cU.out.snd; refine tj 0 ?_
  refine tj 1 ?_
  refine rk 2 rfl (fun K hK => ?_)
  go_simp
  refine hK.out _ _ ((World.cell?_of_block (a := ⟨2, 0, none⟩) (aE (w := z0) (b := w.heap.size + 1) (k := 2) (.slice none 0 0) (.slice none 0 0) (by omega))).trans aO) (fun bQ => ?_)
  clear hK K
  (try simp only [Act.put, u1, u2, u3])
  refine tj 3 ?_
  refine wpAnyH_done (by kernel_rfl) ?_ _
  have HX := aRp (mQ cU.out (.slice none 0 0) (.slice none 0 0)).1; have bS := aRp (cU.out.bel.trans ((mQ cU.out (.slice none 0 0) (.slice none 0 0)).2.mono (by omega)))
  go_wp2
  change bodyPost _ _ _ _ _ ((z0.setCell ⟨w.heap.size + 1, 0, none⟩ (.slice none 0 0)).setCell ⟨w.heap.size + 1, 1, none⟩ (.slice none 0 0))
  clear r0 r1 fH fG aO bQ; generalize ((z0.setCell ⟨w.heap.size + 1, 0, none⟩ (.slice none 0 0)).setCell ⟨w.heap.size + 1, 1, none⟩ (.slice none 0 0)) = wf at HX bS ⊢; obtain ⟨q0, q1⟩ := pair_cells HX.out; exact bodyPost_ret (v := .tuple #[.agg #[.slice none 0 0, .slice none 0 0], (.iface 226 (.pointer (some (E 2))))]) (by simp [results, Tryz.results107, go_sem, q0, q1]) rfl ((show nM E (2, [], []) w _ wf from .inl ⟨by decide, by rw [N7], bS.out⟩).eqr O6.out.symm)
 have bI : eU ≠ [] := fun e => hf0 (by rw [← HFN.out] at e; have := congrArg List.length e; simpa using this)
 have O6 : Hid (oV d eU xs l = T) := (HTY.out bI).symm
 have hnl : eU.length = F.length := by rw [← HFN.out, List.length_map]
 have hfz : ((F.length : Int) == 0) = false := beq_eq_false_iff_ne.2 (by omega)
 have hfy : ¬ ((F.length : Int) = 0) := by omega
 clear HTN HTY bI
 go_upto_region 5 with fail
 have aV := (Below.refl w2.heap.size w2).alloc aRr (.cells #[.slice (some ⟨g, off, none⟩) 4 cv, .slice ao no co] 27)
 have cU := aRp (aN.out.next aV)
 have HFz := aRp (HF2.out.below aV aRr)
 have HEz := aRp (dV.out.below aV (by omega))
 have dA := aV.size
 have HN := aRp (heap_alloc_new w2 (.cells #[.slice (some ⟨g, off, none⟩) 4 cv, .slice ao no co] 27))
 have HVz := aRp (jZ.out.below aV (by omega))
 have HOz := aRp (fJ.out.below aV (by omega))
 clear aV c0 c1 aN HF2 dV jZ fJ
 generalize w2.alloc (.cells #[.slice (some ⟨g, off, none⟩) 4 cv, .slice ao no co] 27) = wz at cU HFz HEz dA HN HVz HOz ⊢
 generalize w2.heap.size = rb at eB dA HFz HN ⊢
 have hrb : rb < wz.heap.size := (aRq HN.out).1
 have HI0 : Hid (aAk wz rb d T eU 0 xs l g off cv ao no co wz) := ⟨Below.refl _ _, HN.out, HVz.out.more (by omega), HOz.out.more (by omega), bU, iA.out, HC.out, O6.out, fun h => absurd h (by omega)⟩
 clear HN HVz HOz
 go_wp2
 go_loopw [23] (fun i wr => ∃ (k : Nat) (zs : List Int) (m : List aA) (vg vo vc : Nat) (oa : Option Addr) (n oc : Nat), k ≤ F.length ∧ i = .int .i64 (k : Int) ∧ Hid (aAk wz rb d T eU k zs m vg vo vc oa n oc wr)) (fun i _ => F.length - (intOf i).toNat)
 case atStart => exact ⟨0, xs, l, g, off, cv, ao, no, co, Nat.zero_le _, rfl, HI0⟩
 case round =>
  obtain ⟨k, zs, m, vg, vo, vc, oa, n, oc, hk, rfl, HI⟩ := hrel; clear HI0; have hwr := HI.out.bel.size; obtain ⟨x0, x1⟩ := pair_cells HI.out.rest
  by_cases aM : k < F.length
  rotate_left
  ·obtain rfl : k = F.length := by omega
   have hki : ¬ ((F.length : Int) < (F.length : Int)) := by omega
   have oD : Hid (sW w wr #[.slice (some ⟨g, off, none⟩) 4 cv, .slice ao no co] #[.slice none 0 0, .slice none 0 0] 27) := ⟨(HI.out.bel.block _ (by omega)).trans cU.out.fst, (HI.out.bel.block _ (by omega)).trans cU.out.snd, cU.out.bel.trans (HI.out.bel.mono (by omega))⟩
   have Y1 : Hid (T = (0, zs, m)) := by
    have := HI.out.tot; rw [List.drop_eq_nil_of_le (by omega)] at this
    exact this.symm
   obtain ⟨r0, r1⟩ := pair_cells oD.out.snd; obtain ⟨fH, fG⟩ := aC oD.out.snd; have G8 := mQ oD.out (.slice (some ⟨vg, vo, none⟩) 4 vc) (.slice oa n oc); have HX := aRp G8.1; have bS : Hid (Below w.heap.size w ((wr.setCell ⟨w.heap.size + 1, 0, none⟩ (.slice (some ⟨vg, vo, none⟩) 4 vc)).setCell ⟨w.heap.size + 1, 1, none⟩ (.slice oa n oc))) := oD.out.bel.trans (G8.2.mono (by omega))
   obtain ⟨cQ, h1, h2, h3, h4, h5⟩ := HI.out.own (by omega)
   have qK := (eP HI.out.cart).1; have hml : m.length = n := h2.1; have xQ : Hid (Own ((wr.setCell ⟨w.heap.size + 1, 0, none⟩ (.slice (some ⟨vg, vo, none⟩) 4 vc)).setCell ⟨w.heap.size + 1, 1, none⟩ (.slice oa n oc)) (rb + 1) cQ (some ⟨vg, vo, none⟩) 4 zs) := h1.kept (fun j a b => aE _ _ (by omega))
   have sX : Hid (bE ((wr.setCell ⟨w.heap.size + 1, 0, none⟩ (.slice (some ⟨vg, vo, none⟩) 4 vc)).setCell ⟨w.heap.size + 1, 1, none⟩ (.slice oa n oc)) cQ wr.heap.size oa n m) := h2.kept (fun j a b => aE _ _ (by omega))
   have tS : ((wr.setCell ⟨w.heap.size + 1, 0, none⟩ (.slice (some ⟨vg, vo, none⟩) 4 vc)).setCell ⟨w.heap.size + 1, 1, none⟩ (.slice oa n oc)).heap.size = wr.heap.size := bB _ _ _ _; have HC5 := aRp h5; have HC6 := aRp HI.out.capo; have HL4 := aRp qK; have HML := aRp hml; clear G8 h1 h2 h5 qK hml; go_wp2
   change bodyPost _ _ _ _ _ ((wr.setCell ⟨w.heap.size + 1, 0, none⟩ (.slice (some ⟨vg, vo, none⟩) 4 vc)).setCell ⟨w.heap.size + 1, 1, none⟩ (.slice oa n oc))
   clear x0 x1 r0 r1 fH fG; generalize ((wr.setCell ⟨w.heap.size + 1, 0, none⟩ (.slice (some ⟨vg, vo, none⟩) 4 vc)).setCell ⟨w.heap.size + 1, 1, none⟩ (.slice oa n oc)) = wf at HX bS xQ sX tS ⊢; obtain ⟨q0, q1⟩ := pair_cells HX.out; refine bodyPost_ret (v := .tuple #[.agg #[.slice (some ⟨vg, vo, none⟩) 4 vc, .slice oa n oc], .nilIface]) (by simp [results, Tryz.results107, go_sem, q0, q1]) rfl (nM.eqr (show nM E (0, zs, m) w _ wf from .inr ⟨rfl, some ⟨vg, vo, none⟩, vc, oa, oc, cQ, ?_, ?_, ?_, by omega, by omega, ?_, ?_, bS.out⟩) Y1.out.symm)
   ·show _ = Ending.returned (.tuple #[.agg #[.slice _ zs.length _, .slice _ m.length _], _])
    rw [HL4.out, HML.out]
   ·show Own wf w.heap.size cQ _ zs.length zs
    rw [HL4.out]; exact xQ.out.more (by omega) aRr
   ·show bE wf cQ wf.heap.size _ m.length m
    rw [HML.out, tS]; exact sX.out
   ·show bY _ zs.length vc
    rw [HL4.out]; exact HC5.out
   ·show bY _ m.length oc
    rw [HML.out]; exact HC6.out
  have hki : (k : Int) < (F.length : Int) := by omega
  obtain ⟨lb, lo, rfl, hlb, hlc⟩ := (HFz.out.below HI.out.bel aRr).2 k aM; obtain ⟨l0, l1, l2⟩ := hlc; have HXN : Hid (eU.getD k ⟨#[]⟩ = (F.getD k bP.zero).item) := by
   show _ = _
   rw [← HFN.out, List.getD_eq_getElem?_getD, List.getElem?_map, List.getD_eq_getElem?_getD, List.getElem?_eq_getElem aM]
   rfl
  have hxi : (F.getD k bP.zero).item.size ≤ 1048576 := by
   rw [← HXN.out]; exact HNI.out _ (by rw [List.getD_eq_getElem?_getD, List.getElem?_eq_getElem (by omega)]; exact List.getElem_mem _)
  generalize F.getD k bP.zero = x at l0 l1 l2 HXN hxi
  go_upto_region 8 with fail
  have aV := (Below.refl wr.heap.size wr).alloc aRr (.cells #[.string x.item, .int .i64 x.qty, .bool x.saved] 39); have dZ := aRp (HI.out.next (by omega) aV)
  have dK := aRp aV; have J6 := aRp (heap_alloc_new wr (.cells #[.string x.item, .int .i64 x.qty, .bool x.saved] 39)); clear aV l0 l1 l2 x0 x1; generalize wr.alloc (.cells #[.string x.item, .int .i64 x.qty, .bool x.saved] 39) = w1 at dZ dK J6 ⊢; have hx1 : wr.heap.size < w1.heap.size := (aRq J6.out).1; have eQ := aRp ((HEz.out.below dZ.out.bel (by omega)).up (B' := w1.heap.size) (by omega))
  obtain ⟨x0, x1⟩ := pair_cells dZ.out.rest; obtain ⟨d0, d1, d2⟩ := wZ J6.out
  go_wp2_with fail
  refine (zZ w1 w1.heap.size E eQ.out vg vo oa vc n oc d zs m 3 0 0 0 x.item dZ.out.ints dZ.out.ops aRr dZ.out.capv dZ.out.capo dZ.out.cart hd hxi).mono ?_
  intro e w2 gZ
  have aI := gZ.bel; have qZ := aRp (dZ.out.next (by omega) aI)
  have Q6 := aI.size; clear x0 x1 d0 d1 d2 J6 eQ; rcases gZ with ⟨h1, rfl, _⟩ | ⟨h1, va, F5, A6, F9, cQ, rfl, h2, h3, h4, h5, h6, h7, h8⟩
  ·have Y1 : Hid (T = ((dM zs m d 3 x.item 0).1, [], [])) := by
    have := HI.out.tot; rw [aDk (by omega), HXN.out, if_neg h1] at this
    exact this.symm
   obtain ⟨code, cM⟩ : ∃ code, code = (dM zs m d 3 x.item 0).1 := ⟨_, rfl⟩; rw [← cM] at h1 Y1 ⊢; have R0 : kQ E code = .iface 226 (.pointer (some (E code))) := by unfold kQ; rw [if_neg h1]
   rw [R0]; have HER := aRp R0; clear cM R0 aI dZ HI dK
   go_upto_region 9 with fail
   have aV := (Below.refl w2.heap.size w2).alloc aRr (.cells #[.slice none 0 0, .slice none 0 0] 27); have rQ := aRp (qZ.out.next (by omega) aV)
   clear aV qZ; generalize w2.alloc (.cells #[.slice none 0 0, .slice none 0 0] 27) = w3 at rQ ⊢; generalize w2.heap.size = nb at Q6 ⊢; have oD : Hid (sW w w3 #[.slice (some ⟨g, off, none⟩) 4 cv, .slice ao no co] #[.slice none 0 0, .slice none 0 0] 27) := ⟨(rQ.out.bel.block _ (by omega)).trans cU.out.fst, (rQ.out.bel.block _ (by omega)).trans cU.out.snd, cU.out.bel.trans (rQ.out.bel.mono (by omega))⟩
   obtain ⟨r0, r1⟩ := pair_cells oD.out.snd; obtain ⟨fH, fG⟩ := aC oD.out.snd; have HX := aRp (mQ oD.out (.slice none 0 0) (.slice none 0 0)).1; have bS := aRp (oD.out.bel.trans ((mQ oD.out (.slice none 0 0) (.slice none 0 0)).2.mono (by omega)))
   go_wp2
   change bodyPost _ _ _ _ _ ((w3.setCell ⟨w.heap.size + 1, 0, none⟩ (.slice none 0 0)).setCell ⟨w.heap.size + 1, 1, none⟩ (.slice none 0 0))
   clear r0 r1 fH fG; generalize ((w3.setCell ⟨w.heap.size + 1, 0, none⟩ (.slice none 0 0)).setCell ⟨w.heap.size + 1, 1, none⟩ (.slice none 0 0)) = wf at HX bS ⊢; obtain ⟨q0, q1⟩ := pair_cells HX.out; exact bodyPost_ret (v := .tuple #[.agg #[.slice none 0 0, .slice none 0 0], (.iface 226 (.pointer (some (E code))))]) (by simp [results, Tryz.results107, go_sem, q0, q1]) rfl ((show nM E (code, [], []) w _ wf from .inl ⟨h1, by rw [← HER.out], bS.out⟩).eqr Y1.out.symm)
  ·obtain ⟨R, hR⟩ : ∃ R, R = dM zs m d 3 x.item 0 := ⟨_, rfl⟩
   have eY := fun w3 h9 => HI.out.step (w3 := w3) (by omega) hd (by omega) HXN.out dK.out h1 h2 h3 h4 h5 h6 h7 h8 h9
   rw [← hR] at eY ⊢; have HST := aRp eY; clear eY h1 h2 h3 h4 h5 h6 h7 h8 hR aI dZ HI dK
   go_upto_region 9 with fail
   have aV := (Below.refl w2.heap.size w2).alloc aRr (.cells #[.slice va R.2.1.length F5, .slice A6 R.2.2.length F9] 27); have rQ := aRp (qZ.out.next (by omega) aV)
   have HS3 := aRp (HST.out _ aV); have oP := aRp (heap_alloc_new w2 (.cells #[.slice va R.2.1.length F5, .slice A6 R.2.2.length F9] 27)); clear aV qZ HST; generalize w2.alloc (.cells #[.slice va R.2.1.length F5, .slice A6 R.2.2.length F9] 27) = w3 at rQ HS3 oP ⊢; obtain ⟨M0, rfl, qK, eY⟩ := HS3.out; have HST := aRp eY; rw [qK] at oP ⊢; clear HS3 qK eY; have hx3 : w2.heap.size < w3.heap.size := (aRq oP.out).1; generalize w2.heap.size = nb at Q6 oP hx3 ⊢; obtain ⟨x0, x1⟩ := pair_cells rQ.out.rest; obtain ⟨F4, F3⟩ := aC rQ.out.rest; obtain ⟨n0, n1⟩ := pair_cells oP.out
   go_upto_region 12 with fail
   generalize (w3.setCell ⟨rb, 0, none⟩ (.slice (some ⟨M0, 0, none⟩) 4 F5)).setCell ⟨rb, 1, none⟩ (.slice A6 R.2.2.length F9) = w4 at HST ⊢; clear x0 x1 F4 F3 n0 n1 rQ oP; go_wp2
   go_roundw
   case rel => exact ⟨k + 1, R.2.1, R.2.2, M0, 0, F5, A6, R.2.2.length, F9, by omega, by go_num, HST⟩
   case measure => simp [intOf]; omega
theorem aEA {d : Nat} (hd : d < 4) : cS (d : Int) 0 3 = true := zX (by omega) (by omega)
theorem aHH {xs : List Int} {l : List aA} {d : Nat} (hc : aD xs l = true) (hd : d < 4) : P1 xs l (d : Int) = cO (d : Int) l l.length := by
 unfold P1
 rw [if_pos ⟨hc, aEA hd⟩]
theorem aH0 {xs : List Int} {l : List aA} {d : Nat} (hc : aD xs l = true) (hd : d < 4) : pO xs l (d : Int) = pB xs d l := by
 unfold pO
 rw [if_pos ⟨hc, aEA hd⟩]
 rfl
set_option maxHeartbeats 40000000 in
theorem aKn (w : World) (B : Nat) (E : Int → Addr) (hE : eG w B E) (g off : Nat) (ao : Option Addr) (cv no co d : Nat) (xs : List Int) (l : List aA) (kind qty dv sq : Int) (item : ByteArray) (hx : Ints w B (some ⟨g, off, none⟩) 4 xs) (h : bR w B ao no l) (hB : B ≤ w.heap.size) (bU : 4 ≤ cv) (cC : bY ao no co) (hc : aD xs l = true) (hd : d < 4) (hi : item.size ≤ 1048576) (hk9 : kind = 9 → 0 ≤ dv ∧ dv ≤ 3) :
  Calls Tryz.prog 78 #[.agg #[.slice (some ⟨g, off, none⟩) 4 cv, .slice ao no co], .int .i64 (d : Int), .agg #[.int .i64 kind, .string item, .int .i64 qty, .int .i64 dv, .int .i64 sq]] w (nM E (iM xs l d kind item qty dv sq) w) := by
 have iR : no ≤ 160 := by rw [← h.1]; exact eF hc
 obtain ⟨T, pR⟩ : ∃ T, T = iM xs l d kind item qty dv sq := ⟨_, rfl⟩
 rw [← pR]
 have Y1 := aRp pR
 have hT := sE.mk0 w #[.slice (some ⟨g, off, none⟩) 4 cv, .slice ao no co] #[.int .i64 kind, .string item, .int .i64 qty, .int .i64 dv, .int .i64 sq] #[.slice none 0 0, .slice none 0 0] 27 29 27
 have HV := aRp (hx.below hT.bel hB)
 have HO := aRp (h.below hT.bel hB)
 have HE := aRp (hE.below hT.bel hB)
 have HT := aRp hT
 have iA := aRp cC
 have HC := aRp hc
 have HU := aRp (aHH hc hd)
 have HRd := aRp (aH0 hc hd)
 have HK9 := aRp hk9
 clear hx h hT cC hE hc pR hk9
 go_enter Tryz.func78, Tryz.ntmps78
 go_upto_region 1 with fail
 generalize ((w.alloc (.cells #[.slice (some ⟨g, off, none⟩) 4 cv, .slice ao no co] 27)).alloc (.cells #[.int .i64 kind, .string item, .int .i64 qty, .int .i64 dv, .int .i64 sq] 29)).alloc (.cells #[.slice none 0 0, .slice none 0 0] 27) = w0 at HV HO HE HT ⊢
 have lC := HT.out.lt
 obtain ⟨c0, c1⟩ := pair_cells HT.out.fst
 obtain ⟨d0, d1, d2, d3, d4⟩ := kR HT.out.snd
 by_cases k6 : kind = 6
 ·subst k6
  go_wp2_with fail
  refine (aKm w0 B E HE.out g off ao cv no co d xs l HV.out HO.out (by omega) bU iA.out  HC.out hd).mono ?_
  intro e w3 gZ
  obtain ⟨a, n, c, a', n', c', er, rfl⟩ := gZ.form; have J9 := aRp gZ; have aS := gZ.bel; have bF := aRp (HT.out.next aS); have iD := aS.size; clear gZ aS c0 c1 d0 d1 d2 d3 d4; obtain ⟨r0, r1⟩ := pair_cells bF.out.res; obtain ⟨fH, fG⟩ := aC bF.out.res; have HX := aRp (bF.out.set2 (.slice a n c) (.slice a' n' c')).1; have bS := aRp (bF.out.bel.trans ((bF.out.set2 (.slice a n c) (.slice a' n' c')).2.mono (by omega)))
  have qI := bB w3 (w.heap.size + 1 + 1) (.slice a n c) (.slice a' n' c'); have xS : Hid (∀ j, w0.heap.size ≤ j → ((w3.setCell ⟨w.heap.size + 1 + 1, 0, none⟩ (.slice a n c)).setCell ⟨w.heap.size + 1 + 1, 1, none⟩ (.slice a' n' c')).heap[j]? = w3.heap[j]?) := fun j hj => aE _ _ (by omega)
  go_wp2
  change bodyPost _ _ _ _ _ ((w3.setCell ⟨w.heap.size + 1 + 1, 0, none⟩ (.slice a n c)).setCell ⟨w.heap.size + 1 + 1, 1, none⟩ (.slice a' n' c'))
  clear r0 r1 fH fG; generalize ((w3.setCell ⟨w.heap.size + 1 + 1, 0, none⟩ (.slice a n c)).setCell ⟨w.heap.size + 1 + 1, 1, none⟩ (.slice a' n' c')) = wf at HX bS xS qI ⊢; obtain ⟨q0, q1⟩ := pair_cells HX.out; exact bodyPost_ret (v := .tuple #[.agg #[.slice a n c, .slice a' n' c'], er]) (by simp [results, Tryz.results78, go_sem, q0, q1]) rfl ((J9.out.up (by omega) xS.out qI bS.out).eqr (by rw [Y1.out]; unfold iM; rw [if_pos rfl]))
 have k6b : (kind == 6) = false := beq_eq_false_iff_ne.2 k6
 by_cases k7 : kind = 7
 ·subst k7
  go_wp2_with fail
  refine (aJP w0 B (some ⟨g, off, none⟩) ao 4 cv no co xs l (d : Int) HV.out HO.out (by omega) (by omega) iA.out.1 ⟨by omega, iA.out.2.1⟩).mono ?_
  rintro e w1 ⟨rfl, aF⟩; rw [HU.out]; have aR := aRp (HT.out.next aF); have iV := aRp (HV.out.below aF (by omega))
  have cV := aRp (HO.out.below aF (by omega))
  have eQ := aRp (HE.out.below aF (by omega))
  have eL := aF.size; clear aF c0 c1 d0 d1 d2 d3 d4 HT HV HO HE; obtain ⟨tg, xC⟩ : ∃ tg, tg = cO (d : Int) l l.length := ⟨_, rfl⟩; rw [← xC]; have O6 := aRp xC; clear xC; obtain ⟨c0, c1⟩ := pair_cells aR.out.fst; obtain ⟨d0, d1, d2, d3, d4⟩ := kR aR.out.snd
  go_wp2_with fail
  refine (tF w1 B E eQ.out g off ao cv no co d xs l tg iV.out cV.out (by omega) bU iA.out  HC.out hd).mono ?_
  intro e w3 gZ
  obtain ⟨a, n, c, a', n', c', er, rfl⟩ := gZ.form; have J9 := aRp gZ; have aS := gZ.bel; have bF := aRp (aR.out.next aS); have iD := aS.size; clear gZ aS c0 c1 d0 d1 d2 d3 d4; obtain ⟨r0, r1⟩ := pair_cells bF.out.res; obtain ⟨fH, fG⟩ := aC bF.out.res; have HX := aRp (bF.out.set2 (.slice a n c) (.slice a' n' c')).1; have bS := aRp (bF.out.bel.trans ((bF.out.set2 (.slice a n c) (.slice a' n' c')).2.mono (by omega)))
  have qI := bB w3 (w.heap.size + 1 + 1) (.slice a n c) (.slice a' n' c'); have xS : Hid (∀ j, w1.heap.size ≤ j → ((w3.setCell ⟨w.heap.size + 1 + 1, 0, none⟩ (.slice a n c)).setCell ⟨w.heap.size + 1 + 1, 1, none⟩ (.slice a' n' c')).heap[j]? = w3.heap[j]?) := fun j hj => aE _ _ (by omega)
  go_wp2
  change bodyPost _ _ _ _ _ ((w3.setCell ⟨w.heap.size + 1 + 1, 0, none⟩ (.slice a n c)).setCell ⟨w.heap.size + 1 + 1, 1, none⟩ (.slice a' n' c'))
  clear r0 r1 fH fG; generalize ((w3.setCell ⟨w.heap.size + 1 + 1, 0, none⟩ (.slice a n c)).setCell ⟨w.heap.size + 1 + 1, 1, none⟩ (.slice a' n' c')) = wf at HX bS xS qI ⊢; obtain ⟨q0, q1⟩ := pair_cells HX.out; exact bodyPost_ret (v := .tuple #[.agg #[.slice a n c, .slice a' n' c'], er]) (by simp [results, Tryz.results78, go_sem, q0, q1]) rfl ((J9.out.up (by omega) xS.out qI bS.out).eqr (by rw [Y1.out]; unfold iM; rw [if_neg (by decide)]; rw [if_pos rfl, O6.out]))
 have k7b : (kind == 7) = false := beq_eq_false_iff_ne.2 k7
 by_cases k8 : kind = 8
 ·subst k8
  go_wp2_with fail
  refine (aEC w0 B (some ⟨g, off, none⟩) ao 4 cv no co xs l (d : Int) HV.out HO.out (by omega) (by omega) iA.out.1 ⟨by omega, iA.out.2.1⟩).mono ?_
  rintro e w1 ⟨rfl, aF⟩; rw [HRd.out]; have aR := aRp (HT.out.next aF); have iV := aRp (HV.out.below aF (by omega))
  have cV := aRp (HO.out.below aF (by omega))
  have eQ := aRp (HE.out.below aF (by omega))
  have eL := aF.size; clear aF c0 c1 d0 d1 d2 d3 d4 HT HV HO HE; obtain ⟨tg, xC⟩ : ∃ tg, tg = pB xs d l := ⟨_, rfl⟩; rw [← xC]; have O6 := aRp xC; clear xC; obtain ⟨c0, c1⟩ := pair_cells aR.out.fst; obtain ⟨d0, d1, d2, d3, d4⟩ := kR aR.out.snd
  go_wp2_with fail
  refine (tF w1 B E eQ.out g off ao cv no co d xs l tg iV.out cV.out (by omega) bU iA.out  HC.out hd).mono ?_
  intro e w3 gZ
  obtain ⟨a, n, c, a', n', c', er, rfl⟩ := gZ.form; have J9 := aRp gZ; have aS := gZ.bel; have bF := aRp (aR.out.next aS); have iD := aS.size; clear gZ aS c0 c1 d0 d1 d2 d3 d4; obtain ⟨r0, r1⟩ := pair_cells bF.out.res; obtain ⟨fH, fG⟩ := aC bF.out.res; have HX := aRp (bF.out.set2 (.slice a n c) (.slice a' n' c')).1; have bS := aRp (bF.out.bel.trans ((bF.out.set2 (.slice a n c) (.slice a' n' c')).2.mono (by omega)))
  have qI := bB w3 (w.heap.size + 1 + 1) (.slice a n c) (.slice a' n' c'); have xS : Hid (∀ j, w1.heap.size ≤ j → ((w3.setCell ⟨w.heap.size + 1 + 1, 0, none⟩ (.slice a n c)).setCell ⟨w.heap.size + 1 + 1, 1, none⟩ (.slice a' n' c')).heap[j]? = w3.heap[j]?) := fun j hj => aE _ _ (by omega)
  go_wp2
  change bodyPost _ _ _ _ _ ((w3.setCell ⟨w.heap.size + 1 + 1, 0, none⟩ (.slice a n c)).setCell ⟨w.heap.size + 1 + 1, 1, none⟩ (.slice a' n' c'))
  clear r0 r1 fH fG; generalize ((w3.setCell ⟨w.heap.size + 1 + 1, 0, none⟩ (.slice a n c)).setCell ⟨w.heap.size + 1 + 1, 1, none⟩ (.slice a' n' c')) = wf at HX bS xS qI ⊢; obtain ⟨q0, q1⟩ := pair_cells HX.out; exact bodyPost_ret (v := .tuple #[.agg #[.slice a n c, .slice a' n' c'], er]) (by simp [results, Tryz.results78, go_sem, q0, q1]) rfl ((J9.out.up (by omega) xS.out qI bS.out).eqr (by rw [Y1.out]; unfold iM; rw [if_neg (by decide)]; rw [if_neg (by decide)]; rw [if_pos rfl, O6.out]))
 have k8b : (kind == 8) = false := beq_eq_false_iff_ne.2 k8
 by_cases k9 : kind = 9
 ·subst k9
  obtain ⟨hv0, hv1⟩ := HK9.out rfl; obtain ⟨dd, rfl⟩ : ∃ dd : Nat, dv = (dd : Int) := ⟨dv.toNat, by omega⟩
  have hdd : dd < 4 := by omega
  go_wp2_with fail
  refine (tF w0 B E HE.out g off ao cv no co dd xs l sq HV.out HO.out (by omega) bU iA.out  HC.out hdd).mono ?_
  intro e w3 gZ
  obtain ⟨a, n, c, a', n', c', er, rfl⟩ := gZ.form; have J9 := aRp gZ; have aS := gZ.bel; have bF := aRp (HT.out.next aS); have iD := aS.size; clear gZ aS c0 c1 d0 d1 d2 d3 d4; obtain ⟨r0, r1⟩ := pair_cells bF.out.res; obtain ⟨fH, fG⟩ := aC bF.out.res; have HX := aRp (bF.out.set2 (.slice a n c) (.slice a' n' c')).1; have bS := aRp (bF.out.bel.trans ((bF.out.set2 (.slice a n c) (.slice a' n' c')).2.mono (by omega)))
  have qI := bB w3 (w.heap.size + 1 + 1) (.slice a n c) (.slice a' n' c'); have xS : Hid (∀ j, w0.heap.size ≤ j → ((w3.setCell ⟨w.heap.size + 1 + 1, 0, none⟩ (.slice a n c)).setCell ⟨w.heap.size + 1 + 1, 1, none⟩ (.slice a' n' c')).heap[j]? = w3.heap[j]?) := fun j hj => aE _ _ (by omega)
  go_wp2
  change bodyPost _ _ _ _ _ ((w3.setCell ⟨w.heap.size + 1 + 1, 0, none⟩ (.slice a n c)).setCell ⟨w.heap.size + 1 + 1, 1, none⟩ (.slice a' n' c'))
  clear r0 r1 fH fG; generalize ((w3.setCell ⟨w.heap.size + 1 + 1, 0, none⟩ (.slice a n c)).setCell ⟨w.heap.size + 1 + 1, 1, none⟩ (.slice a' n' c')) = wf at HX bS xS qI ⊢; obtain ⟨q0, q1⟩ := pair_cells HX.out; exact bodyPost_ret (v := .tuple #[.agg #[.slice a n c, .slice a' n' c'], er]) (by simp [results, Tryz.results78, go_sem, q0, q1]) rfl ((J9.out.up (by omega) xS.out qI bS.out).eqr (by rw [Y1.out]; unfold iM; rw [if_neg (by decide), if_neg (by decide), if_neg (by decide), if_pos rfl]))
 have k9b : (kind == 9) = false := beq_eq_false_iff_ne.2 k9
 go_wp2_with fail
 refine (zZ w0 B E HE.out g off ao cv no co d xs l kind qty dv sq item HV.out HO.out (by omega) bU iA.out  HC.out hd hi).mono ?_
 intro e w3 gZ
 obtain ⟨a, n, c, a', n', c', er, rfl⟩ := gZ.form
 have J9 := aRp gZ
 have aS := gZ.bel
 have bF := aRp (HT.out.next aS)
 have iD := aS.size
 clear gZ aS c0 c1 d0 d1 d2 d3 d4
 obtain ⟨r0, r1⟩ := pair_cells bF.out.res
 obtain ⟨fH, fG⟩ := aC bF.out.res
 have HX := aRp (bF.out.set2 (.slice a n c) (.slice a' n' c')).1
 have bS := aRp (bF.out.bel.trans ((bF.out.set2 (.slice a n c) (.slice a' n' c')).2.mono (by omega)))
 have qI := bB w3 (w.heap.size + 1 + 1) (.slice a n c) (.slice a' n' c')
 have xS : Hid (∀ j, w0.heap.size ≤ j → ((w3.setCell ⟨w.heap.size + 1 + 1, 0, none⟩ (.slice a n c)).setCell ⟨w.heap.size + 1 + 1, 1, none⟩ (.slice a' n' c')).heap[j]? = w3.heap[j]?) := fun j hj => aE _ _ (by omega)
 go_wp2
 change bodyPost _ _ _ _ _ ((w3.setCell ⟨w.heap.size + 1 + 1, 0, none⟩ (.slice a n c)).setCell ⟨w.heap.size + 1 + 1, 1, none⟩ (.slice a' n' c'))
 clear r0 r1 fH fG
 generalize ((w3.setCell ⟨w.heap.size + 1 + 1, 0, none⟩ (.slice a n c)).setCell ⟨w.heap.size + 1 + 1, 1, none⟩ (.slice a' n' c')) = wf at HX bS xS qI ⊢
 obtain ⟨q0, q1⟩ := pair_cells HX.out
 exact bodyPost_ret (v := .tuple #[.agg #[.slice a n c, .slice a' n' c'], er]) (by simp [results, Tryz.results78, go_sem, q0, q1]) rfl ((J9.out.up (by omega) xS.out qI bS.out).eqr (by rw [Y1.out]; unfold iM; rw [if_neg k6, if_neg k7, if_neg k8, if_neg k9]))
def PfP (E : Int → Addr) (r : Int × List Int × List aA) (w : World) (e : Ending) (w' : World) : Prop :=
 (r.1 = 0 ∧ nM E r w e w') ∨ (1 ≤ r.1 ∧ r.1 ≤ 4 ∧ ∃ rb ka kc oa oc cQ, e = .returned (.tuple #[.agg #[.slice none 0 0, .slice none 0 0], .iface 66 (.pointer (some ⟨rb, 0, none⟩))]) ∧ w'.heap[rb]? = some (.cells #[.slice ka r.2.1.length kc, .slice oa r.2.2.length oc, kQ E r.1] 70 (0, 0)) ∧ w.heap.size ≤ rb ∧ Own w' w.heap.size cQ ka r.2.1.length r.2.1 ∧ bE w' cQ w'.heap.size oa r.2.2.length r.2.2 ∧ w.heap.size ≤ cQ ∧ cQ ≤ w'.heap.size ∧ bY ka r.2.1.length kc ∧ bY oa r.2.2.length oc ∧ Below w.heap.size w w')
theorem PfP.eqr {E : Int → Addr} {r r' : Int × List Int × List aA} {w w' : World} {e : Ending} (h : PfP E r w e w') (e1 : r = r') : PfP E r' w e w' := e1 ▸ h
theorem N8 (E : Int → Addr) : kQ E 1 = .iface 226 (.pointer (some (E 1))) := by unfold kQ; rw [if_neg (by decide)]
theorem aG2 {w : World} {B : Nat} {E : Int → Addr} (h : eG w B E) : w.cell? ⟨0, 0, none⟩ = some (.iface 226 (.pointer (some (E 1)))) := h.cells 1 (by omega) (by omega)
set_option maxHeartbeats 40000000 in
theorem W3 (w : World) (B : Nat) (E : Int → Addr) (hE : eG w B E) (av ao : Option Addr) (nv cv no co : Nat) (xs : List Int) (l : List aA) (dev kind qty dv sq : Int) (item : ByteArray) (hx : Ints w B av nv xs) (h : bR w B ao no l) (hB : B ≤ w.heap.size) (hv : nv ≤ 1048576) (hc : no ≤ co) (cY : Fits no co) (aBc : aD xs l = false ∨ (aD xs l = true ∧ cS dev 0 3 = false) ∨ (aD xs l = true ∧ cS dev 0 3 = true ∧ fT kind item qty dv sq = false)) :
  Calls Tryz.prog 42 #[.agg #[.slice av nv cv, .slice ao no co], .int .i64 dev, .agg #[.int .i64 kind, .string item, .int .i64 qty, .int .i64 dv, .int .i64 sq]] w (PfP E (1, [], []) w) := by
 have hT := sE.mk0 w #[.slice av nv cv, .slice ao no co] #[.int .i64 kind, .string item, .int .i64 qty, .int .i64 dv, .int .i64 sq] #[.slice none 0 0, .slice none 0 0] 27 29 27
 have HV := aRp (hx.below hT.bel hB)
 have HO := aRp (h.below hT.bel hB)
 have HE := aRp (hE.below hT.bel hB)
 have HT := aRp hT
 have aKM := aRp aBc
 have X5 := hE.low
 clear hx h hT hE aBc
 go_enter Tryz.func42, Tryz.ntmps42
 go_upto_region 1 with fail
 generalize ((w.alloc (.cells #[.slice av nv cv, .slice ao no co] 27)).alloc (.cells #[.int .i64 kind, .string item, .int .i64 qty, .int .i64 dv, .int .i64 sq] 29)).alloc (.cells #[.slice none 0 0, .slice none 0 0] 27) = w0 at HV HO HE HT ⊢
 have lC := HT.out.lt
 obtain ⟨c0, c1⟩ := pair_cells HT.out.fst
 obtain ⟨d0, d1, d2, d3, d4⟩ := kR HT.out.snd
 go_wp2_with fail
 refine (kO w0 B av ao nv cv no co xs l HV.out HO.out (by omega) hv hc cY).mono ?_
 rintro e w1 ⟨rfl, aF⟩
 have aR := aRp (HT.out.next aF)
 have eQ := aRp (HE.out.below aF (by omega))
 have eL := aF.size
 clear aF c0 c1 d0 d1 d2 d3 d4 HT HE HV HO
 obtain ⟨d0, d1, d2, d3, d4⟩ := kR aR.out.snd
 rcases aKM.out with hq | ⟨hq, yM⟩ | ⟨hq, yM, hq3⟩
 ·rw [hq]
  have g1 := aG2 eQ.out
  go_wp2_with fail
  refine wp_region_held_drew (S := fun w' => w'.cell? ⟨0, 0, none⟩ = some (.iface 226 (.pointer (some (E 1))))) (by kernel_rfl) g1 (fun aO => ?_)
  have dE : Hid (Below w1.heap.size w1 w1.drew) := ⟨rfl, rfl, rfl, Nat.le_refl _, fun _ _ => rfl⟩
  generalize w1.drew = z0 at dE aO ⊢; have cU := aRp (aR.out.next dE.out); have dA := dE.out.size; have hlz := cU.out.lt; have hC := cU.out.bel.size; refine tj 0 ?_
  refine tj 1 ?_
  refine tj 2 ?_
  refine wpAnyH_ready (rs := [3, 5]) (by kernel_rfl) (by simp) ?_
  refine AllReadyH.cons rfl (fun K hK => ?_) (AllReadyH.cons rfl (fun K hK => ?_) AllReadyH.nil)
  ·
   have iT : Below z0.heap.size z0 (z0.alloc (.cells #[.slice none 0 0, .slice none 0 0, (.iface 226 (.pointer (some (E 1))))] 70)) := bl; have mJ : (z0.alloc (.cells #[.slice none 0 0, .slice none 0 0, (.iface 226 (.pointer (some (E 1))))] 70)).cell? ⟨0, 0, none⟩ = some (.iface 226 (.pointer (some (E 1)))) := (iT.cell (p := ⟨0, 0, none⟩) (by show 0 < _; omega)).trans aO
   have oN := heap_alloc_new z0 (.cells #[.slice none 0 0, .slice none 0 0, (.iface 226 (.pointer (some (E 1))))] 70)
   go_simp
   refine hK.out _ _ mJ (fun _ => ?_)
   clear hK K
   (try simp only [Act.put, u1, u2, u3])
   have oE := aRp (cU.out.next iT); generalize (z0.alloc (.cells #[.slice none 0 0, .slice none 0 0, (.iface 226 (.pointer (some (E 1))))] 70)) = za at iT mJ oN oE ⊢; have hla : z0.heap.size < za.heap.size := (aRq oN).1; generalize z0.heap.size = rb at hla iT oN hlz dA hC ⊢; obtain ⟨r0, r1⟩ := pair_cells oE.out.res; obtain ⟨fH, fG⟩ := aC oE.out.res; refine tj 4 ?_
   refine rk 5 rfl (fun K hK => ?_)
   go_simp
   refine hK.out _ _ ((World.cell?_of_block (a := ⟨0, 0, none⟩) (aE (w := za) (b := w.heap.size + 1 + 1) (k := 0) (.slice none 0 0) (.slice none 0 0) (by omega))).trans mJ) (fun bQ => ?_)
   clear hK K
   (try simp only [Act.put, u1, u2, u3])
   refine tj 6 ?_
   refine wpAnyH_done (by kernel_rfl) ?_ _
   have HX := aRp (oE.out.set2 (.slice none 0 0) (.slice none 0 0)).1; have bS := aRp (oE.out.bel.trans ((oE.out.set2 (.slice none 0 0) (.slice none 0 0)).2.mono (by omega)))
   have lI : Hid (((za.setCell ⟨w.heap.size + 1 + 1, 0, none⟩ (.slice none 0 0)).setCell ⟨w.heap.size + 1 + 1, 1, none⟩ (.slice none 0 0)).heap[rb]? = some (.cells #[.slice none 0 0, .slice none 0 0, (.iface 226 (.pointer (some (E 1))))] 70 (0, 0))) := (aE _ _ (by omega)).trans oN
   clear r0 r1 fH fG oN iT; generalize ((za.setCell ⟨w.heap.size + 1 + 1, 0, none⟩ (.slice none 0 0)).setCell ⟨w.heap.size + 1 + 1, 1, none⟩ (.slice none 0 0)) = wf at HX bS lI ⊢; go_wp2
   obtain ⟨q0, q1⟩ := pair_cells HX.out; exact bodyPost_ret (v := .tuple #[.agg #[.slice none 0 0, .slice none 0 0], .iface 66 (.pointer (some ⟨rb, 0, none⟩))]) (by simp [results, Tryz.results42, go_sem, q0, q1]) rfl (.inr ⟨by decide, by decide, rb, none, 0, none, 0, wf.heap.size, rfl, by rw [N8]; exact lI.out, by omega, oR _ _ _ _, fA _ _ _ _, bS.out.size, Nat.le_refl _, cP, cP, bS.out⟩)
  ·
   obtain ⟨r0, r1⟩ := pair_cells cU.out.res; obtain ⟨fH, fG⟩ := aC cU.out.res; have mJ : ((z0.setCell ⟨w.heap.size + 1 + 1, 0, none⟩ (.slice none 0 0)).setCell ⟨w.heap.size + 1 + 1, 1, none⟩ (.slice none 0 0)).cell? ⟨0, 0, none⟩ = some (.iface 226 (.pointer (some (E 1)))) := (World.cell?_of_block (a := ⟨0, 0, none⟩) (aE (w := z0) (b := w.heap.size + 1 + 1) (k := 0) (.slice none 0 0) (.slice none 0 0) (by omega))).trans aO
   have hX := (cU.out.set2 (.slice none 0 0) (.slice none 0 0)).1; have p9 := cU.out.bel.trans ((cU.out.set2 (.slice none 0 0) (.slice none 0 0)).2.mono (by omega))
   have m0 : ((z0.setCell ⟨w.heap.size + 1 + 1, 0, none⟩ (.slice none 0 0)).setCell ⟨w.heap.size + 1 + 1, 1, none⟩ (.slice none 0 0)).heap.size = z0.heap.size := bB _ _ _ _
   go_simp
   refine hK.out _ _ mJ (fun _ => ?_)
   clear hK K r0 r1 fH fG
   (try simp only [Act.put, u1, u2, u3])
   generalize ((z0.setCell ⟨w.heap.size + 1 + 1, 0, none⟩ (.slice none 0 0)).setCell ⟨w.heap.size + 1 + 1, 1, none⟩ (.slice none 0 0)) = za at mJ hX p9 m0 ⊢; refine rk 3 rfl (fun K hK => ?_)
   have iT : Below za.heap.size za (za.alloc (.cells #[.slice none 0 0, .slice none 0 0, (.iface 226 (.pointer (some (E 1))))] 70)) := bl; have p8 : (za.alloc (.cells #[.slice none 0 0, .slice none 0 0, (.iface 226 (.pointer (some (E 1))))] 70)).cell? ⟨0, 0, none⟩ = some (.iface 226 (.pointer (some (E 1)))) := (iT.cell (p := ⟨0, 0, none⟩) (by show 0 < _; omega)).trans mJ
   have oN := heap_alloc_new za (.cells #[.slice none 0 0, .slice none 0 0, (.iface 226 (.pointer (some (E 1))))] 70)
   go_simp
   refine hK.out _ _ p8 (fun _ => ?_)
   clear hK K
   (try simp only [Act.put, u1, u2, u3])
   have HX := aRp ((iT.block _ (by omega)).trans hX)
   have bS := aRp (p9.trans (iT.mono (by omega)))
   have lI := aRp oN; generalize za.alloc (.cells #[.slice none 0 0, .slice none 0 0, (.iface 226 (.pointer (some (E 1))))] 70) = wf at p8 HX bS lI ⊢; clear oN iT hX p9; generalize za.heap.size = rb at lI m0 ⊢; refine tj 4 ?_
   refine tj 6 ?_
   refine wpAnyH_done (by kernel_rfl) ?_ _
   go_wp2
   obtain ⟨q0, q1⟩ := pair_cells HX.out; exact bodyPost_ret (v := .tuple #[.agg #[.slice none 0 0, .slice none 0 0], .iface 66 (.pointer (some ⟨rb, 0, none⟩))]) (by simp [results, Tryz.results42, go_sem, q0, q1]) rfl (.inr ⟨by decide, by decide, rb, none, 0, none, 0, wf.heap.size, rfl, by rw [N8]; exact lI.out, by omega, oR _ _ _ _, fA _ _ _ _, bS.out.size, Nat.le_refl _, cP, cP, bS.out⟩)
 ·rw [hq]
  go_wp2_with fail
  refine (xJ dev w1).mono ?_
  rintro e w1' ⟨rfl, rfl⟩; rw [yM]; have g1 := aG2 eQ.out
  go_wp2_with fail
  refine wp_region_held_drew (S := fun w' => w'.cell? ⟨0, 0, none⟩ = some (.iface 226 (.pointer (some (E 1))))) (by kernel_rfl) g1 (fun aO => ?_)
  have dE : Hid (Below w1.heap.size w1 w1.drew) := ⟨rfl, rfl, rfl, Nat.le_refl _, fun _ _ => rfl⟩
  generalize w1.drew = z0 at dE aO ⊢; have cU := aRp (aR.out.next dE.out); have dA := dE.out.size; have hlz := cU.out.lt; have hC := cU.out.bel.size; refine tj 0 ?_
  refine tj 1 ?_
  refine tj 2 ?_
  refine wpAnyH_ready (rs := [3, 5]) (by kernel_rfl) (by simp) ?_
  refine AllReadyH.cons rfl (fun K hK => ?_) (AllReadyH.cons rfl (fun K hK => ?_) AllReadyH.nil)
  ·
   have iT : Below z0.heap.size z0 (z0.alloc (.cells #[.slice none 0 0, .slice none 0 0, (.iface 226 (.pointer (some (E 1))))] 70)) := bl; have mJ : (z0.alloc (.cells #[.slice none 0 0, .slice none 0 0, (.iface 226 (.pointer (some (E 1))))] 70)).cell? ⟨0, 0, none⟩ = some (.iface 226 (.pointer (some (E 1)))) := (iT.cell (p := ⟨0, 0, none⟩) (by show 0 < _; omega)).trans aO
   have oN := heap_alloc_new z0 (.cells #[.slice none 0 0, .slice none 0 0, (.iface 226 (.pointer (some (E 1))))] 70)
   go_simp
   refine hK.out _ _ mJ (fun _ => ?_)
   clear hK K
   (try simp only [Act.put, u1, u2, u3])
   have oE := aRp (cU.out.next iT); generalize (z0.alloc (.cells #[.slice none 0 0, .slice none 0 0, (.iface 226 (.pointer (some (E 1))))] 70)) = za at iT mJ oN oE ⊢; have hla : z0.heap.size < za.heap.size := (aRq oN).1; generalize z0.heap.size = rb at hla iT oN hlz dA hC ⊢; obtain ⟨r0, r1⟩ := pair_cells oE.out.res; obtain ⟨fH, fG⟩ := aC oE.out.res; refine tj 4 ?_
   refine rk 5 rfl (fun K hK => ?_)
   go_simp
   refine hK.out _ _ ((World.cell?_of_block (a := ⟨0, 0, none⟩) (aE (w := za) (b := w.heap.size + 1 + 1) (k := 0) (.slice none 0 0) (.slice none 0 0) (by omega))).trans mJ) (fun bQ => ?_)
   clear hK K
   (try simp only [Act.put, u1, u2, u3])
   refine tj 6 ?_
   refine wpAnyH_done (by kernel_rfl) ?_ _
   have HX := aRp (oE.out.set2 (.slice none 0 0) (.slice none 0 0)).1; have bS := aRp (oE.out.bel.trans ((oE.out.set2 (.slice none 0 0) (.slice none 0 0)).2.mono (by omega)))
   have lI : Hid (((za.setCell ⟨w.heap.size + 1 + 1, 0, none⟩ (.slice none 0 0)).setCell ⟨w.heap.size + 1 + 1, 1, none⟩ (.slice none 0 0)).heap[rb]? = some (.cells #[.slice none 0 0, .slice none 0 0, (.iface 226 (.pointer (some (E 1))))] 70 (0, 0))) := (aE _ _ (by omega)).trans oN
   clear r0 r1 fH fG oN iT; generalize ((za.setCell ⟨w.heap.size + 1 + 1, 0, none⟩ (.slice none 0 0)).setCell ⟨w.heap.size + 1 + 1, 1, none⟩ (.slice none 0 0)) = wf at HX bS lI ⊢; go_wp2
   obtain ⟨q0, q1⟩ := pair_cells HX.out; exact bodyPost_ret (v := .tuple #[.agg #[.slice none 0 0, .slice none 0 0], .iface 66 (.pointer (some ⟨rb, 0, none⟩))]) (by simp [results, Tryz.results42, go_sem, q0, q1]) rfl (.inr ⟨by decide, by decide, rb, none, 0, none, 0, wf.heap.size, rfl, by rw [N8]; exact lI.out, by omega, oR _ _ _ _, fA _ _ _ _, bS.out.size, Nat.le_refl _, cP, cP, bS.out⟩)
  ·
   obtain ⟨r0, r1⟩ := pair_cells cU.out.res; obtain ⟨fH, fG⟩ := aC cU.out.res; have mJ : ((z0.setCell ⟨w.heap.size + 1 + 1, 0, none⟩ (.slice none 0 0)).setCell ⟨w.heap.size + 1 + 1, 1, none⟩ (.slice none 0 0)).cell? ⟨0, 0, none⟩ = some (.iface 226 (.pointer (some (E 1)))) := (World.cell?_of_block (a := ⟨0, 0, none⟩) (aE (w := z0) (b := w.heap.size + 1 + 1) (k := 0) (.slice none 0 0) (.slice none 0 0) (by omega))).trans aO
   have hX := (cU.out.set2 (.slice none 0 0) (.slice none 0 0)).1; have p9 := cU.out.bel.trans ((cU.out.set2 (.slice none 0 0) (.slice none 0 0)).2.mono (by omega))
   have m0 : ((z0.setCell ⟨w.heap.size + 1 + 1, 0, none⟩ (.slice none 0 0)).setCell ⟨w.heap.size + 1 + 1, 1, none⟩ (.slice none 0 0)).heap.size = z0.heap.size := bB _ _ _ _
   go_simp
   refine hK.out _ _ mJ (fun _ => ?_)
   clear hK K r0 r1 fH fG
   (try simp only [Act.put, u1, u2, u3])
   generalize ((z0.setCell ⟨w.heap.size + 1 + 1, 0, none⟩ (.slice none 0 0)).setCell ⟨w.heap.size + 1 + 1, 1, none⟩ (.slice none 0 0)) = za at mJ hX p9 m0 ⊢; refine rk 3 rfl (fun K hK => ?_)
   have iT : Below za.heap.size za (za.alloc (.cells #[.slice none 0 0, .slice none 0 0, (.iface 226 (.pointer (some (E 1))))] 70)) := bl; have p8 : (za.alloc (.cells #[.slice none 0 0, .slice none 0 0, (.iface 226 (.pointer (some (E 1))))] 70)).cell? ⟨0, 0, none⟩ = some (.iface 226 (.pointer (some (E 1)))) := (iT.cell (p := ⟨0, 0, none⟩) (by show 0 < _; omega)).trans mJ
   have oN := heap_alloc_new za (.cells #[.slice none 0 0, .slice none 0 0, (.iface 226 (.pointer (some (E 1))))] 70)
   go_simp
   refine hK.out _ _ p8 (fun _ => ?_)
   clear hK K
   (try simp only [Act.put, u1, u2, u3])
   have HX := aRp ((iT.block _ (by omega)).trans hX)
   have bS := aRp (p9.trans (iT.mono (by omega)))
   have lI := aRp oN; generalize za.alloc (.cells #[.slice none 0 0, .slice none 0 0, (.iface 226 (.pointer (some (E 1))))] 70) = wf at p8 HX bS lI ⊢; clear oN iT hX p9; generalize za.heap.size = rb at lI m0 ⊢; refine tj 4 ?_
   refine tj 6 ?_
   refine wpAnyH_done (by kernel_rfl) ?_ _
   go_wp2
   obtain ⟨q0, q1⟩ := pair_cells HX.out; exact bodyPost_ret (v := .tuple #[.agg #[.slice none 0 0, .slice none 0 0], .iface 66 (.pointer (some ⟨rb, 0, none⟩))]) (by simp [results, Tryz.results42, go_sem, q0, q1]) rfl (.inr ⟨by decide, by decide, rb, none, 0, none, 0, wf.heap.size, rfl, by rw [N8]; exact lI.out, by omega, oR _ _ _ _, fA _ _ _ _, bS.out.size, Nat.le_refl _, cP, cP, bS.out⟩)
 ·rw [hq]
  go_wp2_with fail
  refine (xJ dev w1).mono ?_
  rintro e w1' ⟨rfl, rfl⟩; rw [yM]
  go_wp2_with fail
  refine (M7 kind item qty dv sq w1).mono ?_
  rintro e w2 ⟨rfl, aI⟩; rw [hq3]; have aN := aRp (aR.out.next aI); have dV := aRp (eQ.out.below aI (by omega))
  have eB := aI.size; clear aI d0 d1 d2 d3 d4 aR eQ; have g1 := aG2 dV.out
  go_wp2_with fail
  refine wp_region_held_drew (S := fun w' => w'.cell? ⟨0, 0, none⟩ = some (.iface 226 (.pointer (some (E 1))))) (by kernel_rfl) g1 (fun aO => ?_)
  have dE : Hid (Below w2.heap.size w2 w2.drew) := ⟨rfl, rfl, rfl, Nat.le_refl _, fun _ _ => rfl⟩
  generalize w2.drew = z0 at dE aO ⊢; have cU := aRp (aN.out.next dE.out); have dA := dE.out.size; have hlz := cU.out.lt; have hC := cU.out.bel.size; refine tj 0 ?_
  refine tj 1 ?_
  refine tj 2 ?_
  refine wpAnyH_ready (rs := [3, 5]) (by kernel_rfl) (by simp) ?_
  refine AllReadyH.cons rfl (fun K hK => ?_) (AllReadyH.cons rfl (fun K hK => ?_) AllReadyH.nil)
  ·
   have iT : Below z0.heap.size z0 (z0.alloc (.cells #[.slice none 0 0, .slice none 0 0, (.iface 226 (.pointer (some (E 1))))] 70)) := bl; have mJ : (z0.alloc (.cells #[.slice none 0 0, .slice none 0 0, (.iface 226 (.pointer (some (E 1))))] 70)).cell? ⟨0, 0, none⟩ = some (.iface 226 (.pointer (some (E 1)))) := (iT.cell (p := ⟨0, 0, none⟩) (by show 0 < _; omega)).trans aO
   have oN := heap_alloc_new z0 (.cells #[.slice none 0 0, .slice none 0 0, (.iface 226 (.pointer (some (E 1))))] 70)
   go_simp
   refine hK.out _ _ mJ (fun _ => ?_)
   clear hK K
   (try simp only [Act.put, u1, u2, u3])
   have oE := aRp (cU.out.next iT); generalize (z0.alloc (.cells #[.slice none 0 0, .slice none 0 0, (.iface 226 (.pointer (some (E 1))))] 70)) = za at iT mJ oN oE ⊢; have hla : z0.heap.size < za.heap.size := (aRq oN).1; generalize z0.heap.size = rb at hla iT oN hlz dA hC ⊢; obtain ⟨r0, r1⟩ := pair_cells oE.out.res; obtain ⟨fH, fG⟩ := aC oE.out.res; refine tj 4 ?_
   refine rk 5 rfl (fun K hK => ?_)
   go_simp
   refine hK.out _ _ ((World.cell?_of_block (a := ⟨0, 0, none⟩) (aE (w := za) (b := w.heap.size + 1 + 1) (k := 0) (.slice none 0 0) (.slice none 0 0) (by omega))).trans mJ) (fun bQ => ?_)
   clear hK K
   (try simp only [Act.put, u1, u2, u3])
   refine tj 6 ?_
   refine wpAnyH_done (by kernel_rfl) ?_ _
   have HX := aRp (oE.out.set2 (.slice none 0 0) (.slice none 0 0)).1; have bS := aRp (oE.out.bel.trans ((oE.out.set2 (.slice none 0 0) (.slice none 0 0)).2.mono (by omega)))
   have lI : Hid (((za.setCell ⟨w.heap.size + 1 + 1, 0, none⟩ (.slice none 0 0)).setCell ⟨w.heap.size + 1 + 1, 1, none⟩ (.slice none 0 0)).heap[rb]? = some (.cells #[.slice none 0 0, .slice none 0 0, (.iface 226 (.pointer (some (E 1))))] 70 (0, 0))) := (aE _ _ (by omega)).trans oN
   clear r0 r1 fH fG oN iT; generalize ((za.setCell ⟨w.heap.size + 1 + 1, 0, none⟩ (.slice none 0 0)).setCell ⟨w.heap.size + 1 + 1, 1, none⟩ (.slice none 0 0)) = wf at HX bS lI ⊢; go_wp2
   obtain ⟨q0, q1⟩ := pair_cells HX.out; exact bodyPost_ret (v := .tuple #[.agg #[.slice none 0 0, .slice none 0 0], .iface 66 (.pointer (some ⟨rb, 0, none⟩))]) (by simp [results, Tryz.results42, go_sem, q0, q1]) rfl (.inr ⟨by decide, by decide, rb, none, 0, none, 0, wf.heap.size, rfl, by rw [N8]; exact lI.out, by omega, oR _ _ _ _, fA _ _ _ _, bS.out.size, Nat.le_refl _, cP, cP, bS.out⟩)
  ·
   obtain ⟨r0, r1⟩ := pair_cells cU.out.res; obtain ⟨fH, fG⟩ := aC cU.out.res; have mJ : ((z0.setCell ⟨w.heap.size + 1 + 1, 0, none⟩ (.slice none 0 0)).setCell ⟨w.heap.size + 1 + 1, 1, none⟩ (.slice none 0 0)).cell? ⟨0, 0, none⟩ = some (.iface 226 (.pointer (some (E 1)))) := (World.cell?_of_block (a := ⟨0, 0, none⟩) (aE (w := z0) (b := w.heap.size + 1 + 1) (k := 0) (.slice none 0 0) (.slice none 0 0) (by omega))).trans aO
   have hX := (cU.out.set2 (.slice none 0 0) (.slice none 0 0)).1; have p9 := cU.out.bel.trans ((cU.out.set2 (.slice none 0 0) (.slice none 0 0)).2.mono (by omega))
   have m0 : ((z0.setCell ⟨w.heap.size + 1 + 1, 0, none⟩ (.slice none 0 0)).setCell ⟨w.heap.size + 1 + 1, 1, none⟩ (.slice none 0 0)).heap.size = z0.heap.size := bB _ _ _ _
   go_simp
   refine hK.out _ _ mJ (fun _ => ?_)
   clear hK K r0 r1 fH fG
   (try simp only [Act.put, u1, u2, u3])
   generalize ((z0.setCell ⟨w.heap.size + 1 + 1, 0, none⟩ (.slice none 0 0)).setCell ⟨w.heap.size + 1 + 1, 1, none⟩ (.slice none 0 0)) = za at mJ hX p9 m0 ⊢; refine rk 3 rfl (fun K hK => ?_)
   have iT : Below za.heap.size za (za.alloc (.cells #[.slice none 0 0, .slice none 0 0, (.iface 226 (.pointer (some (E 1))))] 70)) := bl; have p8 : (za.alloc (.cells #[.slice none 0 0, .slice none 0 0, (.iface 226 (.pointer (some (E 1))))] 70)).cell? ⟨0, 0, none⟩ = some (.iface 226 (.pointer (some (E 1)))) := (iT.cell (p := ⟨0, 0, none⟩) (by show 0 < _; omega)).trans mJ
   have oN := heap_alloc_new za (.cells #[.slice none 0 0, .slice none 0 0, (.iface 226 (.pointer (some (E 1))))] 70)
   go_simp
   refine hK.out _ _ p8 (fun _ => ?_)
   clear hK K
   (try simp only [Act.put, u1, u2, u3])
   have HX := aRp ((iT.block _ (by omega)).trans hX)
   have bS := aRp (p9.trans (iT.mono (by omega)))
   have lI := aRp oN; generalize za.alloc (.cells #[.slice none 0 0, .slice none 0 0, (.iface 226 (.pointer (some (E 1))))] 70) = wf at p8 HX bS lI ⊢; clear oN iT hX p9; generalize za.heap.size = rb at lI m0 ⊢; refine tj 4 ?_
   refine tj 6 ?_
   refine wpAnyH_done (by kernel_rfl) ?_ _
   go_wp2
   obtain ⟨q0, q1⟩ := pair_cells HX.out; exact bodyPost_ret (v := .tuple #[.agg #[.slice none 0 0, .slice none 0 0], .iface 66 (.pointer (some ⟨rb, 0, none⟩))]) (by simp [results, Tryz.results42, go_sem, q0, q1]) rfl (.inr ⟨by decide, by decide, rb, none, 0, none, 0, wf.heap.size, rfl, by rw [N8]; exact lI.out, by omega, oR _ _ _ _, fA _ _ _ _, bS.out.size, Nat.le_refl _, cP, cP, bS.out⟩)
theorem aKh {kind : Int} {item : ByteArray} {qty dv sq : Int} (h : fT kind item qty dv sq = true) (hk : kind = 9) : 0 ≤ dv ∧ dv ≤ 3 := by
 subst hk
 have e : fT 9 item qty dv sq = (decide (item = ⟨#[]⟩ ∧ qty = 0) && (cS dv 0 3 && cS sq 1 40)) := rfl
 rw [e, Bool.and_eq_true, Bool.and_eq_true] at h
 have h2 := h.2.1
 unfold cS at h2
 exact of_decide_eq_true h2
theorem aGH (yK : Int) (saved : Bool) (kind : Int) (item : ByteArray) (qty : Int) : (oneOf yK saved kind item qty).2 = 0 ∨ (oneOf yK saved kind item qty).2 = 2 ∨ (oneOf yK saved kind item qty).2 = 3 := by
 unfold oneOf
 repeat' split
 all_goals simp
theorem aH6 (xs : List Int) (l : List aA) (d : Nat) (kind : Int) (item : ByteArray) (qty : Int) : 0 ≤ (dM xs l d kind item qty).1 ∧ (dM xs l d kind item qty).1 ≤ 4 := by
 unfold dM
 dsimp only
 have h := aGH (aL item l l.length) (bW l item) kind item qty
 split
 ·split <;> simp
 ·show 0 ≤ (oneOf (aL item l l.length) (bW l item) kind item qty).2 ∧ (oneOf (aL item l l.length) (bW l item) kind item qty).2 ≤ 4
  omega
theorem Z4 (xs : List Int) (l : List aA) (dev s : Int) : 0 ≤ (gE xs l dev s).1 ∧ (gE xs l dev s).1 ≤ 4 := by
 unfold gE
 split
 ·split <;> simp
 ·simp
theorem aIT (xs : List Int) (l : List aA) (d : Nat) : 0 ≤ (oW xs l d).1 ∧ (oW xs l d).1 ≤ 4 := by
 unfold oW
 split
 ·simp
 ·split <;> simp
theorem aJy (xs : List Int) (l : List aA) (d : Nat) (kind : Int) (item : ByteArray) (qty dv sq : Int) : 0 ≤ (iM xs l d kind item qty dv sq).1 ∧ (iM xs l d kind item qty dv sq).1 ≤ 4 := by
 unfold iM
 split
 ·exact aIT _ _ _
 ·split
  ·exact Z4 _ _ _ _
  ·split
   ·exact Z4 _ _ _ _
   ·split
    ·exact Z4 _ _ _ _
    ·exact aH6 _ _ _ _ _ _
set_option maxHeartbeats 40000000 in
theorem aFJ (w : World) (B : Nat) (E : Int → Addr) (hE : eG w B E) (g off : Nat) (ao : Option Addr) (cv no co d : Nat) (xs : List Int) (l : List aA) (kind qty dv sq : Int) (item : ByteArray) (hx : Ints w B (some ⟨g, off, none⟩) 4 xs) (h : bR w B ao no l) (hB : B ≤ w.heap.size) (bU : 4 ≤ cv) (cC : bY ao no co) (hc : aD xs l = true) (hd : d < 4) (hi : item.size ≤ 1048576) (aJ7 : fT kind item qty dv sq = true) :
  Calls Tryz.prog 42 #[.agg #[.slice (some ⟨g, off, none⟩) 4 cv, .slice ao no co], .int .i64 (d : Int), .agg #[.int .i64 kind, .string item, .int .i64 qty, .int .i64 dv, .int .i64 sq]] w (PfP E (if (iM xs l d kind item qty dv sq).1 = 0 then iM xs l d kind item qty dv sq else ((iM xs l d kind item qty dv sq).1, xs, l)) w) := by
 have iR : no ≤ 160 := by rw [← h.1]; exact eF hc
 have HM : Hid (∀ i, i < no → (l.getD i aA.zero).item.size ≤ 1048576) := fun i hi' => by
  have h2 := (dI (fI hc (i := i) (by rw [h.1]; exact hi'))).2.2.2.2.1
  have e : aB l i = l.getD i aA.zero := rfl; rw [← e]; omega
 obtain ⟨T, pR⟩ : ∃ T, T = iM xs l d kind item qty dv sq := ⟨_, rfl⟩
 have cM := aJy xs l d kind item qty dv sq
 rw [← pR] at cM ⊢
 obtain ⟨R, hR0⟩ : ∃ R : Int × List Int × List aA, R = (if T.1 = 0 then T else (T.1, xs, l)) := ⟨_, rfl⟩
 rw [← hR0]
 have Y1 := aRp pR
 have vP := aRp hR0
 have HCd := aRp cM
 have hT := sE.mk0 w #[.slice (some ⟨g, off, none⟩) 4 cv, .slice ao no co] #[.int .i64 kind, .string item, .int .i64 qty, .int .i64 dv, .int .i64 sq] #[.slice none 0 0, .slice none 0 0] 27 29 27
 have HV := aRp (hx.below hT.bel hB)
 have HO := aRp (h.below hT.bel hB)
 have HE := aRp (hE.below hT.bel hB)
 have HT := aRp hT
 have iA := aRp cC
 have HC := aRp hc
 have HCM := aRp aJ7
 have HK9 := aRp (aKh aJ7)
 have iO := aEA hd
 have HDV := aRp iO
 clear hx h hT cC hE hc pR hR0 cM aJ7 iO
 go_enter Tryz.func42, Tryz.ntmps42
 go_upto_region 1 with fail
 generalize ((w.alloc (.cells #[.slice (some ⟨g, off, none⟩) 4 cv, .slice ao no co] 27)).alloc (.cells #[.int .i64 kind, .string item, .int .i64 qty, .int .i64 dv, .int .i64 sq] 29)).alloc (.cells #[.slice none 0 0, .slice none 0 0] 27) = w0 at HV HO HE HT ⊢
 have lC := HT.out.lt
 obtain ⟨c0, c1⟩ := pair_cells HT.out.fst
 go_wp2_with fail
 refine (kO w0 B (some ⟨g, off, none⟩) ao 4 cv no co xs l HV.out HO.out (by omega) (by omega) iA.out.1 ⟨by omega, iA.out.2.1⟩).mono ?_
 rintro e w1 ⟨rfl, aF⟩
 rw [HC.out]
 have aR := aRp (HT.out.next aF)
 have iV := aRp (HV.out.below aF (by omega))
 have cV := aRp (HO.out.below aF (by omega))
 have eQ := aRp (HE.out.below aF (by omega))
 have eL := aF.size
 clear aF c0 c1 HT HE HV HO
 obtain ⟨d0, d1, d2, d3, d4⟩ := kR aR.out.snd
 go_wp2_with fail
 refine (xJ (d : Int) w1).mono ?_
 rintro e w1' ⟨rfl, rfl⟩
 rw [HDV.out]
 go_wp2_with fail
 refine (M7 kind item qty dv sq w1).mono ?_
 rintro e w2 ⟨rfl, aI⟩
 rw [HCM.out]
 have aN := aRp (aR.out.next aI)
 have jZ := aRp (iV.out.below aI (by omega))
 have fJ := aRp (cV.out.below aI (by omega))
 have dV := aRp (eQ.out.below aI (by omega))
 have eB := aI.size
 clear aI d0 d1 d2 d3 d4 aR iV cV eQ
 obtain ⟨c0, c1⟩ := pair_cells aN.out.fst
 obtain ⟨d0, d1, d2, d3, d4⟩ := kR aN.out.snd
 go_wp2_with fail
 refine (aKn w2 B E dV.out g off ao cv no co d xs l kind qty dv sq item jZ.out fJ.out (by omega) bU iA.out  HC.out hd hi HK9.out).mono ?_
 intro e w3 gZ
 rw [← Y1.out] at gZ
 have aS := gZ.bel
 have bF := aRp (aN.out.next aS)
 have Y0 := aRp (jZ.out.below aS (by omega))
 have uY := aRp (fJ.out.below aS (by omega))
 have iD := aS.size
 clear aS c0 c1 d0 d1 d2 d3 d4 jZ fJ dV aN
 by_cases hz : T.1 = 0
 ·obtain ⟨a, n, c, a', n', c', er, rfl⟩ := gZ.form
  have her : er = .nilIface := by
   rcases gZ with ⟨h1, _⟩ | ⟨_, va, vc, oa, oc, cQ, e1, _⟩
   ·exact absurd hz h1
   ·injection e1 with e1
    injection e1 with e1; have e2 := congrArg (fun x : Array Value => x[1]?) e1
    simpa using e2
  subst her; have J9 := aRp gZ; have HRT : Hid (R = T) := by show _ = _; rw [vP.out, if_pos hz]
  clear gZ
  go_upto_region 4 with fail
  have aV := (Below.refl w3.heap.size w3).alloc aRr (.cells #[.slice a n c, .slice a' n' c'] 27); have fZ := aRp (bF.out.next aV); have O8 := aRp (heap_alloc_new w3 (.cells #[.slice a n c, .slice a' n' c'] 27)); have iX := aRp aV; clear aV bF Y0 uY; generalize w3.alloc (.cells #[.slice a n c, .slice a' n' c'] 27) = w4 at fZ O8 iX ⊢; have hx4 : w3.heap.size < w4.heap.size := (aRq O8.out).1; obtain ⟨r0, r1⟩ := pair_cells fZ.out.res; obtain ⟨fH, fG⟩ := aC fZ.out.res; have HX := aRp (fZ.out.set2 (.slice a n c) (.slice a' n' c')).1; have bS := aRp (fZ.out.bel.trans ((fZ.out.set2 (.slice a n c) (.slice a' n' c')).2.mono (by omega)))
  have HCf : Hid (nM E T w (.returned (.tuple #[.agg #[.slice a n c, .slice a' n' c'], .nilIface])) ((w4.setCell ⟨w.heap.size + 1 + 1, 0, none⟩ (.slice a n c)).setCell ⟨w.heap.size + 1 + 1, 1, none⟩ (.slice a' n' c'))) := by
   rcases J9.out with ⟨h1, _⟩ | ⟨h0, va, vc, oa, oc, cQ, e1, h2, h3, h4, h5, h6, h7, _⟩
   ·exact absurd hz h1
   ·have tS : ((w4.setCell ⟨w.heap.size + 1 + 1, 0, none⟩ (.slice a n c)).setCell ⟨w.heap.size + 1 + 1, 1, none⟩ (.slice a' n' c')).heap.size = w4.heap.size := bB _ _ _ _
    exact .inr ⟨h0, va, vc, oa, oc, cQ, e1, ((h2.below iX.out h5).kept (fun j q1 q2 => aE _ _ (by omega))).more (by omega) aRr, by rw [tS]; exact (((h3.below iX.out aRr).kept (fun j q1 q2 => aE _ _ (by omega))).more aRr (by omega)), by omega, by omega, h6, h7, bS.out⟩
  generalize w3.heap.size = nb at iD hx4 O8 iX ⊢; obtain ⟨n0, n1⟩ := pair_cells O8.out; go_wp2
  change bodyPost _ _ _ _ _ ((w4.setCell ⟨w.heap.size + 1 + 1, 0, none⟩ (.slice a n c)).setCell ⟨w.heap.size + 1 + 1, 1, none⟩ (.slice a' n' c'))
  clear n0 n1 r0 r1 fH fG J9; generalize ((w4.setCell ⟨w.heap.size + 1 + 1, 0, none⟩ (.slice a n c)).setCell ⟨w.heap.size + 1 + 1, 1, none⟩ (.slice a' n' c')) = wf at HX bS HCf ⊢; obtain ⟨q0, q1⟩ := pair_cells HX.out; exact bodyPost_ret (v := .tuple #[.agg #[.slice a n c, .slice a' n' c'], .nilIface]) (by simp [results, Tryz.results42, go_sem, q0, q1]) rfl (PfP.eqr (.inl ⟨hz, HCf.out⟩) HRT.out.symm)
 ·rcases gZ with ⟨h1, rfl, _⟩ | ⟨h0, _⟩
  rotate_left
  ·exact absurd h0 hz
  obtain ⟨code, cM⟩ : ∃ code, code = T.1 := ⟨_, rfl⟩; have HRT : Hid (R = (code, xs, l)) := by show _ = _; rw [vP.out, if_neg hz, cM]
  have hc1 : 1 ≤ code ∧ code ≤ 4 := by have := HCd.out; omega
  rw [← cM] at h1 ⊢; have R0 : kQ E code = (.iface 226 (.pointer (some (E code)))) := by unfold kQ; rw [if_neg h1]
  rw [R0]; have HER := aRp R0; clear cM R0 hz h1; obtain ⟨hc3, hc4⟩ := hc1
  go_upto_region 4 with fail
  have aV := (Below.refl w3.heap.size w3).alloc aRr (.cells #[.slice none 0 0, .slice none 0 0] 27); have fZ := aRp (bF.out.next aV); have qX := aRp (Y0.out.below aV (by omega))
  have pV := aRp (uY.out.below aV (by omega))
  have vD := aV.size; clear aV bF Y0 uY; generalize w3.alloc (.cells #[.slice none 0 0, .slice none 0 0] 27) = w4 at fZ qX pV vD ⊢; generalize w3.heap.size = nb at iD vD ⊢; have qK := fZ.out.lt; obtain ⟨c0, c1⟩ := pair_cells fZ.out.fst
  go_wp2_with fail
  refine (K7 w4 B g off ao 4 cv no co xs l qX.out pV.out (by omega) (by omega) (by omega) (by omega) iA.out.2.2  HM.out).mono ?_
  rintro e w5 ⟨va, vc, oa, oc, cQ, rfl, aZ, jO, yP, mH, aW, jQ⟩; have vO := aRp (fZ.out.next aW); have hs5 := aW.size; have yX := aRp aZ; have HRw := aRp jO; have nL := aRp jQ; obtain ⟨XL, B2⟩ : ∃ XL, XL = xs.length := ⟨_, rfl⟩; obtain ⟨LL, pC⟩ : ∃ LL, LL = l.length := ⟨_, rfl⟩; rw [← B2] at yX nL ⊢; rw [← pC] at HRw ⊢; have HXL := aRp B2; have HLL := aRp pC; clear aW aZ jO jQ c0 c1 fZ qX pV B2 pC; have aV := (Below.refl w5.heap.size w5).alloc aRr (.cells #[.slice va XL vc, .slice oa LL oc, (.iface 226 (.pointer (some (E code))))] 70); have HT6 := aRp (vO.out.next aV); have HN6 := aRp (heap_alloc_new w5 (.cells #[.slice va XL vc, .slice oa LL oc, (.iface 226 (.pointer (some (E code))))] 70)); have eC := aRp aV; obtain ⟨w6, hw6⟩ : ∃ w6, w6 = w5.alloc (.cells #[.slice va XL vc, .slice oa LL oc, (.iface 226 (.pointer (some (E code))))] 70) := ⟨_, rfl⟩; rw [← hw6] at HT6 HN6 eC; have hx6 : w5.heap.size < w6.heap.size := (aRq HN6.out).1; obtain ⟨r0, r1⟩ := pair_cells HT6.out.res; obtain ⟨fH, fG⟩ := aC HT6.out.res; have HX := aRp (HT6.out.set2 (.slice none 0 0) (.slice none 0 0)).1; have bS := aRp (HT6.out.bel.trans ((HT6.out.set2 (.slice none 0 0) (.slice none 0 0)).2.mono (by omega)))
  have tS : ((w6.setCell ⟨w.heap.size + 1 + 1, 0, none⟩ (.slice none 0 0)).setCell ⟨w.heap.size + 1 + 1, 1, none⟩ (.slice none 0 0)).heap.size = w6.heap.size := bB _ _ _ _; have lI : Hid (((w6.setCell ⟨w.heap.size + 1 + 1, 0, none⟩ (.slice none 0 0)).setCell ⟨w.heap.size + 1 + 1, 1, none⟩ (.slice none 0 0)).heap[w5.heap.size]? = some (.cells #[.slice va XL vc, .slice oa LL oc, (.iface 226 (.pointer (some (E code))))] 70 (0, 0))) := (aE _ _ (by have := vO.out.lt; omega)).trans HN6.out
  have xQ : Hid (Own ((w6.setCell ⟨w.heap.size + 1 + 1, 0, none⟩ (.slice none 0 0)).setCell ⟨w.heap.size + 1 + 1, 1, none⟩ (.slice none 0 0)) w4.heap.size cQ va XL xs) := (yX.out.below eC.out mH).kept (fun j q1 q2 => aE _ _ (by omega))
  have sX := aRp (fP (wW (W' := ((w6.setCell ⟨w.heap.size + 1 + 1, 0, none⟩ (.slice none 0 0)).setCell ⟨w.heap.size + 1 + 1, 1, none⟩ (.slice none 0 0))) (sK (B := 0) HRw.out eC.out) (fun k y e hk => aE _ _ (by omega))) aRr)
  have HCf := aRp (fY HRw.out); rw [hw6] at r0 r1 fH fG; have HW6 := aRp hw6; clear aV hw6 vO HT6 HN6 eC; go_wp2
  rw [← HW6.out]
  change bodyPost _ _ _ _ _ ((w6.setCell ⟨w.heap.size + 1 + 1, 0, none⟩ (.slice none 0 0)).setCell ⟨w.heap.size + 1 + 1, 1, none⟩ (.slice none 0 0))
  clear r0 r1 fH fG; generalize ((w6.setCell ⟨w.heap.size + 1 + 1, 0, none⟩ (.slice none 0 0)).setCell ⟨w.heap.size + 1 + 1, 1, none⟩ (.slice none 0 0)) = wf at HX bS tS lI xQ sX ⊢; have hl5 : w.heap.size ≤ w5.heap.size := by omega
  generalize w5.heap.size = rb at lI mH hs5 hx6 hl5 ⊢; obtain ⟨q0, q1⟩ := pair_cells HX.out; refine bodyPost_ret (v := .tuple #[.agg #[.slice none 0 0, .slice none 0 0], .iface 66 (.pointer (some ⟨rb, 0, none⟩))]) (by simp [results, Tryz.results42, go_sem, q0, q1]) rfl (PfP.eqr (show PfP E (code, xs, l) w _ wf from .inr ⟨hc3, hc4, rb, va, vc, oa, oc, cQ, rfl, ?_, hl5, ?_, ?_, by omega, by omega, ?_, ?_, bS.out⟩) HRT.out.symm)
  ·show wf.heap[rb]? = some (.cells #[.slice va xs.length vc, .slice oa l.length oc, kQ E code] _ _)
   rw [← HXL.out, ← HLL.out, HER.out]; exact lI.out
  ·show Own wf w.heap.size cQ va xs.length xs
   rw [← HXL.out]; exact xQ.out.more (by omega) aRr
  ·show bE wf cQ wf.heap.size oa l.length l
   rw [← HLL.out]; exact sX.out
  ·show bY va xs.length vc
   rw [← HXL.out]; exact nL.out
  ·show bY oa l.length oc
   rw [← HLL.out]; exact HCf.out
def r9 (r : Int × List Int × List aA) (w : World) (e : Ending) (w' : World) : Prop :=
 ∃ va vc oa oc cQ, e = .returned (.tuple #[.agg #[.slice va r.2.1.length vc, .slice oa r.2.2.length oc], .int .i64 r.1]) ∧ Own w' w.heap.size cQ va r.2.1.length r.2.1 ∧ bE w' cQ w'.heap.size oa r.2.2.length r.2.2 ∧ w.heap.size ≤ cQ ∧ cQ ≤ w'.heap.size ∧ bY va r.2.1.length vc ∧ bY oa r.2.2.length oc ∧ Below w.heap.size w w'
set_option maxHeartbeats 40000000 in
theorem aCC (w : World) (B : Nat) (E : Int → Addr) (hE : eG w B E) (hB : B ≤ w.heap.size) (av ao : Option Addr) (nv cv no co : Nat) (dev kind qty dv sq : Int) (item : ByteArray) (r : Int × List Int × List aA)
  (hP : ∀ w0, Below w.heap.size w w0 → Calls Tryz.prog 42 #[.agg #[.slice av nv cv, .slice ao no co], .int .i64 dev, .agg #[.int .i64 kind, .string item, .int .i64 qty, .int .i64 dv, .int .i64 sq]] w0 (PfP E r w0)) :
  Calls Tryz.prog 17 #[.agg #[.slice av nv cv, .slice ao no co], .int .i64 dev, .agg #[.int .i64 kind, .string item, .int .i64 qty, .int .i64 dv, .int .i64 sq]] w (r9 r w) := by
 have hT := sE.mk0 w #[.slice av nv cv, .slice ao no co] #[.int .i64 kind, .string item, .int .i64 qty, .int .i64 dv, .int .i64 sq] #[.slice none 0 0, .slice none 0 0] 27 29 27
 have HE := aRp (hE.below hT.bel hB)
 have HT := aRp hT
 have HP := aRp hP
 have X5 := hE.low
 clear hT hE hP
 go_enter Tryz.func17, Tryz.ntmps17
 go_upto_region 1 with fail
 generalize ((w.alloc (.cells #[.slice av nv cv, .slice ao no co] 27)).alloc (.cells #[.int .i64 kind, .string item, .int .i64 qty, .int .i64 dv, .int .i64 sq] 29)).alloc (.cells #[.slice none 0 0, .slice none 0 0] 27) = w0 at HE HT ⊢
 have lC := HT.out.lt
 obtain ⟨c0, c1⟩ := pair_cells HT.out.fst
 obtain ⟨d0, d1, d2, d3, d4⟩ := kR HT.out.snd
 go_wp2_with fail
 refine (HP.out w0 HT.out.bel).mono ?_
 rintro e w1 (⟨oL, gZ⟩ | ⟨cR, dL, rb, ka, kc, oa, oc, cQ, rfl, hrb, hrw, aZ, aEH, yP, mH, bU, cC, aF⟩)
 ·rcases gZ with ⟨h1, _⟩ | ⟨_, va, vc, oa, oc, cQ, rfl, aZ, aEH, yP, mH, bU, cC, aF⟩
  ·exact absurd oL h1
  have aR := aRp (HT.out.next aF); have yX := aRp aZ; have HOp := aRp aEH; have oH := aRp bU; have pH := aRp cC; have nJ := aRp oL; have eL := aF.size; clear aF aZ aEH bU cC oL c0 c1 d0 d1 d2 d3 d4 HT HE HP; obtain ⟨zl, M8⟩ : ∃ zl, zl = r.2.1.length := ⟨_, rfl⟩; obtain ⟨ml, hml⟩ : ∃ ml, ml = r.2.2.length := ⟨_, rfl⟩; rw [← M8, ← hml]; have HZL := aRp M8; have HML := aRp hml; clear M8 hml
  go_upto_region 2 with fail
  have aV := (Below.refl w1.heap.size w1).alloc aRr (.cells #[.slice va zl vc, .slice oa ml oc] 27); have aN := aRp (aR.out.next aV); have nK := aRp (heap_alloc_new w1 (.cells #[.slice va zl vc, .slice oa ml oc] 27)); have cA := aRp aV; clear aV aR; generalize w1.alloc (.cells #[.slice va zl vc, .slice oa ml oc] 27) = w2 at aN nK cA ⊢; have l9 : w1.heap.size < w2.heap.size := (aRq nK.out).1
  go_upto_region 3 with fail
  have aV := (Below.refl w2.heap.size w2).alloc aRr (.cells #[.pointer none] 66); have bF := aRp (aN.out.next aV); have oP := aRp ((aV.block _ l9).trans nK.out); have dR := aRp (cA.out.trans (aV.mono (Nat.le_of_lt l9))); have iD := aV.size; clear aV aN nK cA; generalize w2.alloc (.cells #[.pointer none] 66) = w3 at bF oP dR iD ⊢
  go_wp2_with fail
  refine (aO4 _ w3).mono ?_
  rintro e w3' ⟨rfl, rfl⟩; generalize w1.heap.size = nb at eL l9 mH oP dR HOp ⊢; obtain ⟨n0, n1⟩ := pair_cells oP.out; obtain ⟨r0, r1⟩ := pair_cells bF.out.res; obtain ⟨fH, fG⟩ := aC bF.out.res; have HX := aRp (bF.out.set2 (.slice va zl vc) (.slice oa ml oc)).1; have bS := aRp (bF.out.bel.trans ((bF.out.set2 (.slice va zl vc) (.slice oa ml oc)).2.mono (by omega)))
  have tS : ((w3'.setCell ⟨w.heap.size + 1 + 1, 0, none⟩ (.slice va zl vc)).setCell ⟨w.heap.size + 1 + 1, 1, none⟩ (.slice oa ml oc)).heap.size = w3'.heap.size := bB _ _ _ _; have xQ : Hid (Own ((w3'.setCell ⟨w.heap.size + 1 + 1, 0, none⟩ (.slice va zl vc)).setCell ⟨w.heap.size + 1 + 1, 1, none⟩ (.slice oa ml oc)) w0.heap.size cQ va r.2.1.length r.2.1) := (yX.out.below dR.out mH).kept (fun j q1 q2 => aE _ _ (by omega))
  have sX : Hid (bE ((w3'.setCell ⟨w.heap.size + 1 + 1, 0, none⟩ (.slice va zl vc)).setCell ⟨w.heap.size + 1 + 1, 1, none⟩ (.slice oa ml oc)) cQ nb oa r.2.2.length r.2.2) := (HOp.out.below dR.out aRr).kept (fun j q1 q2 => aE _ _ (by omega))
  go_wp2
  change bodyPost _ _ _ _ _ ((w3'.setCell ⟨w.heap.size + 1 + 1, 0, none⟩ (.slice va zl vc)).setCell ⟨w.heap.size + 1 + 1, 1, none⟩ (.slice oa ml oc))
  clear n0 n1 r0 r1 fH fG; generalize ((w3'.setCell ⟨w.heap.size + 1 + 1, 0, none⟩ (.slice va zl vc)).setCell ⟨w.heap.size + 1 + 1, 1, none⟩ (.slice oa ml oc)) = wf at HX bS tS xQ sX ⊢; obtain ⟨q0, q1⟩ := pair_cells HX.out; exact bodyPost_ret (v := .tuple #[.agg #[.slice va zl vc, .slice oa ml oc], .int .i64 0]) (by simp [results, Tryz.results17, go_sem, q0, q1]) rfl ⟨va, vc, oa, oc, cQ, by rw [HZL.out, HML.out, nJ.out], xQ.out.more (by omega) aRr, sX.out.more aRr (by omega), by omega, by omega, oH.out, pH.out, bS.out⟩
 ·have aR := aRp (HT.out.next aF)
  have eQ := aRp (HE.out.below aF (by omega))
  have yX := aRp aZ; have HOp := aRp aEH; have oH := aRp bU; have pH := aRp cC; have lI := aRp hrb; have eL := aF.size; have aPE : rb < w1.heap.size := (aRq hrb).1; clear aF aZ aEH bU cC hrb c0 c1 d0 d1 d2 d3 d4 HT HE HP; obtain ⟨zl, M8⟩ : ∃ zl, zl = r.2.1.length := ⟨_, rfl⟩; obtain ⟨ml, hml⟩ : ∃ ml, ml = r.2.2.length := ⟨_, rfl⟩; obtain ⟨code, cM⟩ : ∃ code, code = r.1 := ⟨_, rfl⟩; rw [← M8, ← hml, ← cM] at lI; rw [← cM] at cR dL; have HZL := aRp M8; have HML := aRp hml; have HCD := aRp cM; clear M8 hml cM
  go_upto_region 2 with fail
  have aV := (Below.refl w1.heap.size w1).alloc aRr (.cells #[.slice none 0 0, .slice none 0 0] 27); have aN := aRp (aR.out.next aV); have dV := aRp (eQ.out.below aV (by omega))
  have cA := aRp aV; have eB := aV.size; clear aV aR eQ; generalize w1.alloc (.cells #[.slice none 0 0, .slice none 0 0] 27) = w2 at aN dV cA eB ⊢
  go_upto_region 3 with fail
  have aV := (Below.refl w2.heap.size w2).alloc aRr (.cells #[.pointer none] 66); have bF := aRp (aN.out.next aV); have HE3 := aRp (dV.out.below aV (by omega))
  have dR := aRp (cA.out.trans (aV.mono eB)); have oP := aRp (heap_alloc_new w2 (.cells #[.pointer none] 66)); have iD := aV.size; clear aV aN dV cA; generalize w2.alloc (.cells #[.pointer none] 66) = w3 at bF HE3 dR oP iD ⊢; have hx3 : w2.heap.size < w3.heap.size := (aRq oP.out).1; generalize w2.heap.size = tb at eB iD hx3 oP ⊢
  go_wp2_with fail
  refine (aO5 tb ⟨rb, 0, none⟩ ⟨tb, 0, none⟩ (.pointer none) w3 iD aRr rfl HE3.out.typ (aRs oP.out) (aRt oP.out)).mono ?_
  rintro e w4 ⟨rfl, cW, ht4, qU⟩; have fZ : Hid (sE w w4 #[.slice av nv cv, .slice ao no co] 27 #[.int .i64 kind, .string item, .int .i64 qty, .int .i64 dv, .int .i64 sq] 29 #[.slice none 0 0, .slice none 0 0] 27) := ⟨(cW.block _ (by omega)).trans bF.out.fst, (cW.block _ (by omega)).trans bF.out.snd, (cW.block _ (by omega)).trans bF.out.res, bF.out.bel.trans (cW.mono (by omega))⟩
  have yZ := aRp (HE3.out.below cW (by omega))
  have iX := aRp (dR.out.trans (cW.mono eB)); have vD := cW.size; have HTC := aRp ht4; have aQd := aRp ((iX.out.block _ aPE).trans lI.out); clear cW ht4 qU bF HE3 dR oP; obtain ⟨k0, k1, k2⟩ := wZ aQd.out; have hS : w4.cell? ⟨tb, 0, none⟩ = some (.pointer (some ⟨rb, 0, none⟩)) ∧ w4.cell? ⟨rb, 0, none⟩ = some (.slice ka zl kc) ∧ w4.cell? ⟨rb, 1, none⟩ = some (.slice oa ml oc) := ⟨HTC.out, k0, k1⟩
  go_wp2_with fail
  refine wp_region_held_drew (S := fun w' => w'.cell? ⟨tb, 0, none⟩ = some (.pointer (some ⟨rb, 0, none⟩)) ∧ w'.cell? ⟨rb, 0, none⟩ = some (.slice ka zl kc) ∧ w'.cell? ⟨rb, 1, none⟩ = some (.slice oa ml oc)) (by kernel_rfl) hS (fun aO => ?_)
  have dE : Hid (Below w4.heap.size w4 w4.drew) := ⟨rfl, rfl, rfl, Nat.le_refl _, fun _ _ => rfl⟩
  have aJ1 : w4.drew.cell? ⟨rb, 0 + 2, none⟩ = some (kQ E code) := k2; generalize w4.drew = z0 at dE aO aJ1 ⊢; have cU := aRp (fZ.out.next dE.out); have HEz := aRp (yZ.out.below dE.out (by omega))
  have aOG := aRp (iX.out.trans (dE.out.mono (by omega)))
  have dA := dE.out.size; clear hS k0 k1 k2 fZ yZ dE; refine tj 0 ?_
  refine tj 1 ?_
  refine tj 2 ?_
  refine tj 3 ?_
  refine tj 4 ?_
  refine tj 5 ?_
  refine rk 6 rfl (fun K hK => ?_)
  go_simp
  go_at_call 44
  refine (aMm z0 B E HEz.out rb 0 code cR dL aJ1).mono ?_
  rintro e z1 ⟨rfl, rfl⟩; refine hK.out _ _ aO (fun bQ => ?_)
  clear hK K
  (try simp only [Act.put, u1, u2, u3])
  obtain ⟨r0, r1⟩ := pair_cells cU.out.res; obtain ⟨fH, fG⟩ := aC cU.out.res; refine rk 7 rfl (fun K hK => ?_)
  go_simp
  refine hK.out _ _ ⟨(World.cell?_of_block (a := ⟨tb, 0, none⟩) (aE (w := z1) (b := w.heap.size + 1 + 1) (k := tb) (.slice ka zl kc) (.slice oa ml oc) (by omega))).trans aO.1, (World.cell?_of_block (a := ⟨rb, 0, none⟩) (aE (w := z1) (b := w.heap.size + 1 + 1) (k := rb) (.slice ka zl kc) (.slice oa ml oc) (by omega))).trans aO.2.1, (World.cell?_of_block (a := ⟨rb, 1, none⟩) (aE (w := z1) (b := w.heap.size + 1 + 1) (k := rb) (.slice ka zl kc) (.slice oa ml oc) (by omega))).trans aO.2.2⟩ (fun dG => ?_)
  clear hK K
  (try simp only [Act.put, u1, u2, u3])
  refine tj 8 ?_
  refine wpAnyH_done (by kernel_rfl) ?_ _
  have HX := aRp (cU.out.set2 (.slice ka zl kc) (.slice oa ml oc)).1; have bS := aRp (cU.out.bel.trans ((cU.out.set2 (.slice ka zl kc) (.slice oa ml oc)).2.mono (by omega)))
  have tS : ((z1.setCell ⟨w.heap.size + 1 + 1, 0, none⟩ (.slice ka zl kc)).setCell ⟨w.heap.size + 1 + 1, 1, none⟩ (.slice oa ml oc)).heap.size = z1.heap.size := bB _ _ _ _; have xQ : Hid (Own ((z1.setCell ⟨w.heap.size + 1 + 1, 0, none⟩ (.slice ka zl kc)).setCell ⟨w.heap.size + 1 + 1, 1, none⟩ (.slice oa ml oc)) w0.heap.size cQ ka r.2.1.length r.2.1) := (yX.out.below aOG.out mH).kept (fun j q1 q2 => aE _ _ (by omega))
  have sX : Hid (bE ((z1.setCell ⟨w.heap.size + 1 + 1, 0, none⟩ (.slice ka zl kc)).setCell ⟨w.heap.size + 1 + 1, 1, none⟩ (.slice oa ml oc)) cQ w1.heap.size oa r.2.2.length r.2.2) := (HOp.out.below aOG.out aRr).kept (fun j q1 q2 => aE _ _ (by omega))
  go_wp2
  change bodyPost _ _ _ _ _ ((z1.setCell ⟨w.heap.size + 1 + 1, 0, none⟩ (.slice ka zl kc)).setCell ⟨w.heap.size + 1 + 1, 1, none⟩ (.slice oa ml oc))
  clear r0 r1 fH fG aO bQ dG aJ1; generalize ((z1.setCell ⟨w.heap.size + 1 + 1, 0, none⟩ (.slice ka zl kc)).setCell ⟨w.heap.size + 1 + 1, 1, none⟩ (.slice oa ml oc)) = wf at HX bS tS xQ sX ⊢; obtain ⟨q0, q1⟩ := pair_cells HX.out; exact bodyPost_ret (v := .tuple #[.agg #[.slice ka zl kc, .slice oa ml oc], .int .i64 code]) (by simp [results, Tryz.results17, go_sem, q0, q1]) rfl ⟨ka, kc, oa, oc, cQ, by rw [HZL.out, HML.out, HCD.out], xQ.out.more (by omega) aRr, sX.out.more aRr (by omega), by omega, by omega, oH.out, pH.out, bS.out⟩
theorem aIz (w : World) (B : Nat) (E : Int → Addr) (hE : eG w B E) (g off : Nat) (ao : Option Addr) (cv no co : Nat) (xs : List Int) (l : List aA) (dev kind qty dv sq : Int) (item : ByteArray) (hx : Ints w B (some ⟨g, off, none⟩) 4 xs) (h : bR w B ao no l) (hB : B ≤ w.heap.size) (bU : 4 ≤ cv) (cC : bY ao no co) (iR : no ≤ 1048576) (hi : item.size ≤ 1048576) :
  Calls Tryz.prog 17 #[.agg #[.slice (some ⟨g, off, none⟩) 4 cv, .slice ao no co], .int .i64 dev, .agg #[.int .i64 kind, .string item, .int .i64 qty, .int .i64 dv, .int .i64 sq]] w (r9 (cD xs l dev kind item qty dv sq) w) := by
 have aJ3 : Fits no co := ⟨iR, cC.2.1⟩
 by_cases hok : aD xs l = true ∧ cS dev 0 3 = true ∧ fT kind item qty dv sq = true
 ·obtain ⟨hc, iO, N2⟩ := hok
  have hd : 0 ≤ dev ∧ dev ≤ 3 := by unfold cS at iO; exact of_decide_eq_true iO
  obtain ⟨d, rfl⟩ : ∃ d : Nat, dev = (d : Int) := ⟨dev.toNat, by omega⟩
  have e : cD xs l (d : Int) kind item qty dv sq = (if (iM xs l d kind item qty dv sq).1 = 0 then iM xs l d kind item qty dv sq else ((iM xs l d kind item qty dv sq).1, xs, l)) := by
   unfold cD; rw [if_pos ⟨hc, iO, N2⟩]
   rfl
  rw [e]; exact aCC w B E hE hB _ _ _ _ _ _ _ _ _ _ _ _ _ (fun w0 hb => aFJ w0 B E (hE.below hb hB) g off ao cv no co d xs l kind qty dv sq item (hx.below hb hB) (h.below hb hB) (Nat.le_trans hB hb.size) bU cC hc (by omega) hi N2)
 ·have e : cD xs l dev kind item qty dv sq = (1, [], []) := by
   unfold cD; rw [if_neg hok]
  rw [e]; exact aCC w B E hE hB _ _ _ _ _ _ _ _ _ _ _ _ _ (fun w0 hb => W3 w0 B E (hE.below hb hB) _ ao 4 cv no co xs l dev kind qty dv sq item (hx.below hb hB) (h.below hb hB) (Nat.le_trans hB hb.size) (by omega) cC.1 aJ3 (by
   cases h1 : aD xs l
   ·exact .inl rfl
   ·cases h2 : cS dev 0 3
    ·exact .inr (.inl ⟨rfl, rfl⟩)
    ·refine .inr (.inr ⟨rfl, rfl, ?_⟩)
     cases h3 : fT kind item qty dv sq
     ·rfl
     ·exact absurd ⟨h1, h2, h3⟩ hok))
theorem aED (w : World) (B : Nat) (E : Int → Addr) (hE : eG w B E) (av ao : Option Addr) (nv cv no co : Nat) (xs : List Int) (l : List aA) (dev kind qty dv sq : Int) (item : ByteArray) (hx : Ints w B av nv xs) (h : bR w B ao no l) (hB : B ≤ w.heap.size) (hv : nv ≤ 1048576) (hc : no ≤ co) (cY : Fits no co) (aBc : aD xs l = false) :
  Calls Tryz.prog 17 #[.agg #[.slice av nv cv, .slice ao no co], .int .i64 dev, .agg #[.int .i64 kind, .string item, .int .i64 qty, .int .i64 dv, .int .i64 sq]] w (r9 (1, [], []) w) :=
 aCC w B E hE hB _ _ _ _ _ _ _ _ _ _ _ _ _ (fun w0 hb => W3 w0 B E (hE.below hb hB) av ao nv cv no co xs l dev kind qty dv sq item (hx.below hb hB) (h.below hb hB) (Nat.le_trans hB hb.size) hv hc cY (.inl aBc))
end Go.Proofs.YthkagbnpcjidfaaGreatDoor
