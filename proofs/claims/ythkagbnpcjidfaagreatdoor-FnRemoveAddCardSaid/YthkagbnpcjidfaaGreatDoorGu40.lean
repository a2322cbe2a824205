/- Walks and mathematics that several claims share, part 40. -/
import Derived.Test.YthkagbnpcjidfaaGreatDoorGu36
import Derived.Test.YthkagbnpcjidfaaGreatDoorGu39
import Derived.Deep.Cut
import Derived.Deep.RegionHeld
import Derived.Lib.Hide
namespace Go.Proofs.YthkagbnpcjidfaaGreatDoor
set_option maxRecDepth 100000
open Go.RowKit
set_option linter.unusedVariables false
set_option linter.unusedSimpArgs false
theorem eG.up {w : World} {B B' : Nat} {E : Int → Addr} (h : eG w B E) (hB : B ≤ B') : eG w B' E :=
 ⟨Nat.le_trans h.low hB, h.cells, fun c h1 h2 => by obtain ⟨a, r⟩ := h.lies c h1 h2; exact ⟨by omega, r⟩, h.ne, h.typ⟩
theorem aFc {xs : List Int} {l : List aA} (hc : aE xs l = true) : (gD (aZ xs l)).map (·.item) = (bU l l.length).filter fun s => !bN l s := by
 unfold aZ cF gD
 rw [if_pos hc, List.filter_map, List.map_map]
 have e : ((fun x : aS => x.item) ∘ cG l) = id := rfl
 rw [e, List.map_id]
 rfl
theorem aBX {d : Nat} {eX : List ByteArray} {k : Nat} {zs : List Int} {m : List aA} (hk : k < eX.length) : rI d (eX.drop k) zs m = if (dL zs m d 3 (eX.getD k ⟨#[]⟩) 0).1 = 0 then rI d (eX.drop (k + 1)) (dL zs m d 3 (eX.getD k ⟨#[]⟩) 0).2.1 (dL zs m d 3 (eX.getD k ⟨#[]⟩) 0).2.2 else ((dL zs m d 3 (eX.getD k ⟨#[]⟩) 0).1, [], []) := by
 rw [List.drop_eq_getElem_cons hk, List.getD_eq_getElem?_getD, List.getElem?_eq_getElem hk]
 rfl
theorem aHM {xs : List Int} {l : List aA} {d : Nat} {kind : Int} {item : ByteArray} {qty : Int} (h0 : (dL xs l d kind item qty).1 = 0) : 0 < (dL xs l d kind item qty).2.2.length := by
 unfold dL at h0 ⊢
 dsimp only at h0 ⊢
 split at h0
 ·rename_i h1
  rw [if_pos h1]
  split at h0
  ·rename_i h2
   rw [if_pos h2]
   show 0 < (cI l d _).length
   rw [uD]; omega
  ·cases h0
 ·rename_i h1
  exact absurd h0 h1
structure X0 (wz : World) (rb d : Nat) (T : Int × List Int × List aA) (eX : List ByteArray) (k : Nat) (zs : List Int) (m : List aA) (vg vo vc : Nat) (oa : Option Addr) (n oc : Nat) (wr : World) : Prop where
 bel : Below rb wz wr
 rest : wr.heap[rb]? = some (.cells #[.slice (some ⟨vg, vo, none⟩) 4 vc, .slice oa n oc] 27 (0, 0))
 ints : Ints wr wr.heap.size (some ⟨vg, vo, none⟩) 4 zs
 ops : bP wr wr.heap.size oa n m
 capv : 4 ≤ vc
 capo : bM oa n oc
 cart : aE zs m = true
 tot : rI d (eX.drop k) zs m = T
 own : 0 < k → ∃ bY, Own wr (rb + 1) bY (some ⟨vg, vo, none⟩) 4 zs ∧ bB wr bY wr.heap.size oa n m ∧ rb + 1 ≤ bY ∧ bY ≤ wr.heap.size ∧ bM (some ⟨vg, vo, none⟩) 4 vc
theorem X0.next {wz : World} {rb d : Nat} {T : Int × List Int × List aA} {eX : List ByteArray} {k : Nat} {zs : List Int} {m : List aA} {vg vo vc : Nat} {oa : Option Addr} {n oc : Nat} {wr w2 : World} (h : X0 wz rb d T eX k zs m vg vo vc oa n oc wr) (hz : rb ≤ wz.heap.size) (hb : Below wr.heap.size wr w2) : X0 wz rb d T eX k zs m vg vo vc oa n oc w2 :=
 ⟨h.bel.trans (hb.mono (Nat.le_trans hz h.bel.size)), (hb.block _ (aPp h.rest).1).trans h.rest, (h.ints.below hb aPq).more hb.size, (h.ops.below hb aPq).more hb.size, h.capv, h.capo, h.cart, h.tot, fun hk => by
  obtain ⟨bY, h1, h2, h3, h4, h5⟩ := h.own hk; exact ⟨bY, h1.below hb h4, (h2.below hb aPq).more aPq hb.size, h3, Nat.le_trans h4 hb.size, h5⟩⟩
theorem X0.step {wz : World} {rb d : Nat} {T : Int × List Int × List aA} {eX : List ByteArray} {k : Nat} {zs : List Int} {m : List aA} {vg vo vc : Nat} {oa : Option Addr} {n oc : Nat} {wr w1 w2 w3 : World} (h : X0 wz rb d T eX k zs m vg vo vc oa n oc wr) (hz : rb ≤ wz.heap.size) (hd : d < 4) (hk : k < eX.length) {s : ByteArray} (hs : eX.getD k ⟨#[]⟩ = s) (aG : Below wr.heap.size wr w1) (h0 : (dL zs m d 3 s 0).1 = 0)
  {va : Option Addr} {zW : Nat} {yF : Option Addr} {A0 bY : Nat} (h2 : Own w2 w1.heap.size bY va (dL zs m d 3 s 0).2.1.length (dL zs m d 3 s 0).2.1) (h3 : bB w2 bY w2.heap.size yF (dL zs m d 3 s 0).2.2.length (dL zs m d 3 s 0).2.2) (h4 : w1.heap.size ≤ bY) (h5 : bY ≤ w2.heap.size) (h6 : bM va (dL zs m d 3 s 0).2.1.length zW) (h7 : bM yF (dL zs m d 3 s 0).2.2.length A0) (h8 : Below w1.heap.size w1 w2) (h9 : Below w2.heap.size w2 w3) :
  ∃ E6, va = some ⟨E6, 0, none⟩ ∧ (dL zs m d 3 s 0).2.1.length = 4 ∧ X0 wz rb d T eX (k + 1) (dL zs m d 3 s 0).2.1 (dL zs m d 3 s 0).2.2 E6 0 zW yF (dL zs m d 3 s 0).2.2.length A0 ((w3.setCell ⟨rb, 0, none⟩ (.slice (some ⟨E6, 0, none⟩) 4 zW)).setCell ⟨rb, 1, none⟩ (.slice yF (dL zs m d 3 s 0).2.2.length A0)) := by
 have aLG := Q2 h.cart hd h0
 have hpos := aHM h0
 have aLm := h.tot
 rw [aBX hk, hs, if_pos h0] at aLm
 generalize dL zs m d 3 s 0 = r at *
 obtain ⟨pP, _⟩ := iH aLG
 rw [pP] at h2 h6
 obtain ⟨E6, aW, A2, _⟩ := h2.2 (by omega)
 subst A2
 have N1 : rb < wr.heap.size := (aPp h.rest).1
 have eZ := aG.size
 have eC := h8.size
 have gO := h9.size
 have e3 : w3.heap[rb]? = some (.cells #[.slice (some ⟨vg, vo, none⟩) 4 vc, .slice oa n oc] 27 (0, 0)) := (h9.block _ (by omega)).trans ((h8.block _ (by omega)).trans ((aG.block _ N1).trans h.rest))
 have lJ : ∀ j, j ≠ rb → ((w3.setCell ⟨rb, 0, none⟩ (.slice (some ⟨E6, 0, none⟩) 4 zW)).setCell ⟨rb, 1, none⟩ (.slice yF r.2.2.length A0)).heap[j]? = w3.heap[j]? := fun j hj => aD _ _ hj
 have dC := aY w3 rb (.slice (some ⟨E6, 0, none⟩) 4 zW) (.slice yF r.2.2.length A0)
 have o2 : Own ((w3.setCell ⟨rb, 0, none⟩ (.slice (some ⟨E6, 0, none⟩) 4 zW)).setCell ⟨rb, 1, none⟩ (.slice yF r.2.2.length A0)) (rb + 1) bY (some ⟨E6, 0, none⟩) 4 r.2.1 := ((h2.below h9 h5).kept (fun j a b => lJ j (by omega))).more (by omega) aPq
 have o3 := (h3.below h9 aPq).kept (w' := (w3.setCell ⟨rb, 0, none⟩ (.slice (some ⟨E6, 0, none⟩) 4 zW)).setCell ⟨rb, 1, none⟩ (.slice yF r.2.2.length A0)) (fun j a b => lJ j (by omega))
 refine ⟨E6, rfl, pP, ⟨?_, cE _ _ e3, ?_, ?_, h6.1, h7, aLG, aLm, fun _ => ⟨bY, o2, ?_, by omega, by omega, h6⟩⟩⟩
 ·have hbw : Below rb wz w3 := h.bel.trans (((aG.mono (by omega)).trans (h8.mono (by omega))).trans (h9.mono (by omega)))
  exact (hbw.setCell (p := ⟨rb, 0, none⟩) aPq _).setCell (p := ⟨rb, 1, none⟩) aPq _
 ·exact o2.ints.more (by omega)
 ·rw [dC]
  exact o3.ops.more (by omega)
 ·rw [dC]
  exact o3.more aPq (by omega)
set_option maxHeartbeats 40000000 in
theorem aIP (w : World) (B : Nat) (E : Int → Addr) (hE : eG w B E) (g off : Nat) (ao : Option Addr) (cv no co d : Nat) (xs : List Int) (l : List aA) (hx : Ints w B (some ⟨g, off, none⟩) 4 xs) (h : bP w B ao no l) (hB : B ≤ w.heap.size) (bW : 4 ≤ cv) (cB : bM ao no co) (hc : aE xs l = true) (hd : d < 4) :
  Calls Tryz.prog 107 #[.agg #[.slice (some ⟨g, off, none⟩) 4 cv, .slice ao no co], .int .i64 (d : Int)] w (mX E (qK xs l d) w) := by
 have hM : no ≤ 160 := by rw [← h.1]; exact eF hc
 have HM : Hid (∀ o ∈ l, o.item.size ≤ 1048576) := fun o ho => by
  obtain ⟨i, hi, rfl⟩ := List.getElem_of_mem ho; have h2 := (dK (eU hc hi)).2.2.2.2.1; have e : aC l i = l[i] := by unfold aC; rw [List.getD_eq_getElem?_getD, List.getElem?_eq_getElem hi]; rfl
  rw [e] at h2; omega
 obtain ⟨T, qS⟩ : ∃ T, T = qK xs l d := ⟨_, rfl⟩
 rw [← qS]
 obtain ⟨eX, hnm⟩ : ∃ eX, eX = (bU l l.length).filter fun s => !bN l s := ⟨_, rfl⟩
 have HTN : Hid (eX = [] → T = (2, [], [])) := fun e => by rw [qS, p9 hc hd, ← hnm, if_pos e]
 have HTY : Hid (eX ≠ [] → T = rI d eX xs l) := fun e => by rw [qS, p9 hc hd, ← hnm, if_neg e]
 have HNI : Hid (∀ s ∈ eX, s.size ≤ 1048576) := fun s hs => by
  rw [hnm] at hs; have eC := (List.mem_filter.1 hs).1; have := aCz (c := 8) (fun i hi => (dK (eU hc hi)).2.2.2.2.1) aPq eC
  omega
 have HFN : Hid ((gD (aZ xs l)).map (·.item) = eX) := (aFc hc).trans hnm.symm
 have aFW : Hid ((aZ xs l).length ≤ 1048576) := by
  have e : aZ xs l = (bU l l.length).map (cG l) := by unfold aZ cF; rw [if_pos hc]
  have h3 := vB l l.length; have h4 := eF hc
  show _ ≤ _
  rw [e, List.length_map]; omega
 have hT := tV.mk0 w #[.slice (some ⟨g, off, none⟩) 4 cv, .slice ao no co] #[.slice none 0 0, .slice none 0 0] 27
 have HV := aPo (hx.below hT.bel hB)
 have HO := aPo (h.below hT.bel hB)
 have HE := aPo (hE.below hT.bel hB)
 have HT := aPo hT
 have gS := aPo cB
 have HC := aPo hc
 have N6 := hE.low
 clear hx h hT cB hE hc qS hnm
 go_enter Tryz.func107, Tryz.ntmps107
 go_upto_region 1 with fail
 generalize (w.alloc (.cells #[.slice (some ⟨g, off, none⟩) 4 cv, .slice ao no co] 27)).alloc (.cells #[.slice none 0 0, .slice none 0 0] 27) = w0 at HV HO HE HT ⊢
 have jW := aCl HT.out
 obtain ⟨c0, c1⟩ := pair_cells HT.out.fst
 go_wp2_with fail
 refine (aAr w0 B (some ⟨g, off, none⟩) ao 4 cv no co xs l HV.out HO.out (by omega) (by omega) gS.out.1 ⟨by omega, gS.out.2.1⟩ HM.out).mono ?_
 rintro e w1 ⟨la, lc, rfl, jG, aG⟩
 have aDH := aPo jG
 have cU := aPo aG
 clear jG aG c0 c1
 generalize aZ xs l = LN at HFN aFW aDH ⊢
 go_wp2_with fail
 refine (aEk w1 w0.heap.size la LN.length lc LN aDH.out cU.out.size aFW.out).mono ?_
 rintro e w2 ⟨fa, fc, rfl, hF, hfc, aM⟩
 have aBs : Below w0.heap.size w0 w2 := cU.out.trans aM
 have aK := aPo (HT.out.next aBs)
 have kQ := aPo (HV.out.below aBs (by omega))
 have gR := aPo (HO.out.below aBs (by omega))
 have dW := aPo (HE.out.below aBs (by omega))
 have eC := aBs.size
 have HF2 := aPo hF
 have hFl : (gD LN).length ≤ 1048576 := Nat.le_trans (List.length_filter_le _ _) aFW.out
 clear hF aM aBs cU aDH HT HV HO HE aFW
 generalize gD LN = F at HFN HF2 hfc hFl ⊢
 obtain ⟨c0, c1⟩ := pair_cells aK.out.fst
 by_cases hf0 : F.length = 0
 ·have hfe : F = [] := List.eq_nil_of_length_eq_zero hf0
  have G5 : Hid (T = (2, [], [])) := HTN.out (by rw [← HFN.out, hfe]; rfl)
  rw [hf0]; have g2 := aJt dW.out
  go_wp2_with fail
  refine wp_region_held_drew (S := fun w' => w'.cell? ⟨2, 0, none⟩ = some (.iface 226 (.pointer (some (E 2))))) (by kernel_rfl) g2 (fun aL => ?_)
  have cS : Hid (Below w2.heap.size w2 w2.drew) := ⟨rfl, rfl, rfl, Nat.le_refl _, fun _ _ => rfl⟩
  generalize w2.drew = z0 at cS aL ⊢; have cR := aPo (aK.out.next cS.out); obtain ⟨r0, r1⟩ := pair_cells cR.out.snd; obtain ⟨fP, fO⟩ := aB cR.out.snd; refine tj 0 ?_
  refine tj 1 ?_
  refine rk 2 rfl (fun K hK => ?_)
  go_simp
  refine hK.out _ _ ((World.cell?_of_block (a := ⟨2, 0, none⟩) (aD (w := z0) (b := w.heap.size + 1) (k := 2) (.slice none 0 0) (.slice none 0 0) (by omega))).trans aL) (fun bS => ?_)
  clear hK K
  (try simp only [Act.put, u1, u2, u3])
  refine tj 3 ?_
  refine wpAnyH_done (by kernel_rfl) ?_ _
  have HX := aPo (mJ cR.out (.slice none 0 0) (.slice none 0 0)).1; have bQ := aPo (cR.out.bel.trans ((mJ cR.out (.slice none 0 0) (.slice none 0 0)).2.mono (by omega)))
  go_wp2
  change bodyPost _ _ _ _ _ ((z0.setCell ⟨w.heap.size + 1, 0, none⟩ (.slice none 0 0)).setCell ⟨w.heap.size + 1, 1, none⟩ (.slice none 0 0))
  clear r0 r1 fP fO aL bS; generalize ((z0.setCell ⟨w.heap.size + 1, 0, none⟩ (.slice none 0 0)).setCell ⟨w.heap.size + 1, 1, none⟩ (.slice none 0 0)) = wf at HX bQ ⊢; obtain ⟨q0, q1⟩ := pair_cells HX.out; exact bodyPost_ret (v := .tuple #[.agg #[.slice none 0 0, .slice none 0 0], (.iface 226 (.pointer (some (E 2))))]) (by simp [results, Tryz.results107, go_sem, q0, q1]) rfl ((show mX E (2, [], []) w _ wf from .inl ⟨by decide, by rw [G1], bQ.out⟩).eqr G5.out.symm)
 have bO : eX ≠ [] := fun e => hf0 (by rw [← HFN.out] at e; have := congrArg List.length e; simpa using this)
 have G5 : Hid (rI d eX xs l = T) := (HTY.out bO).symm
 have hnl : eX.length = F.length := by rw [← HFN.out, List.length_map]
 have hfz : ((F.length : Int) == 0) = false := beq_eq_false_iff_ne.2 (by omega)
 have hfy : ¬ ((F.length : Int) = 0) := by omega
 clear HTN HTY bO
 go_upto_region 5 with fail
 have aT := (Below.refl w2.heap.size w2).alloc aPq (.cells #[.slice (some ⟨g, off, none⟩) 4 cv, .slice ao no co] 27)
 have cR := aPo (aK.out.next aT)
 have HFz := aPo (HF2.out.below aT aPq)
 have HEz := aPo (dW.out.below aT (by omega))
 have dC := aT.size
 have HN := aPo (heap_alloc_new w2 (.cells #[.slice (some ⟨g, off, none⟩) 4 cv, .slice ao no co] 27))
 have HVz := aPo (kQ.out.below aT (by omega))
 have HOz := aPo (gR.out.below aT (by omega))
 clear aT c0 c1 aK HF2 dW kQ gR
 generalize w2.alloc (.cells #[.slice (some ⟨g, off, none⟩) 4 cv, .slice ao no co] 27) = wz at cR HFz HEz dC HN HVz HOz ⊢
 generalize w2.heap.size = rb at eC dC HFz HN ⊢
 have N1 : rb < wz.heap.size := (aPp HN.out).1
 have HI0 : Hid (X0 wz rb d T eX 0 xs l g off cv ao no co wz) := ⟨Below.refl _ _, HN.out, HVz.out.more (by omega), HOz.out.more (by omega), bW, gS.out, HC.out, G5.out, fun h => absurd h (by omega)⟩
 clear HN HVz HOz
 go_wp2
 go_loopw [23] (fun i wr => ∃ (k : Nat) (zs : List Int) (m : List aA) (vg vo vc : Nat) (oa : Option Addr) (n oc : Nat), k ≤ F.length ∧ i = .int .i64 (k : Int) ∧ Hid (X0 wz rb d T eX k zs m vg vo vc oa n oc wr)) (fun i _ => F.length - (intOf i).toNat)
 case atStart => exact ⟨0, xs, l, g, off, cv, ao, no, co, Nat.zero_le _, rfl, HI0⟩
 case round =>
  obtain ⟨k, zs, m, vg, vo, vc, oa, n, oc, hk, rfl, HI⟩ := hrel; clear HI0; have hwr := HI.out.bel.size; obtain ⟨x0, x1⟩ := pair_cells HI.out.rest
  by_cases aJ : k < F.length
  rotate_left
  ·obtain rfl : k = F.length := by omega
   have hki : ¬ ((F.length : Int) < (F.length : Int)) := by omega
   have nK : Hid (tV w wr #[.slice (some ⟨g, off, none⟩) 4 cv, .slice ao no co] #[.slice none 0 0, .slice none 0 0] 27) := ⟨(HI.out.bel.block _ (by omega)).trans cR.out.fst, (HI.out.bel.block _ (by omega)).trans cR.out.snd, cR.out.bel.trans (HI.out.bel.mono (by omega))⟩
   have O3 : Hid (T = (0, zs, m)) := by
    have := HI.out.tot; rw [List.drop_eq_nil_of_le (by omega)] at this
    exact this.symm
   obtain ⟨r0, r1⟩ := pair_cells nK.out.snd; obtain ⟨fP, fO⟩ := aB nK.out.snd; have A8 := mJ nK.out (.slice (some ⟨vg, vo, none⟩) 4 vc) (.slice oa n oc); have HX := aPo A8.1; have bQ : Hid (Below w.heap.size w ((wr.setCell ⟨w.heap.size + 1, 0, none⟩ (.slice (some ⟨vg, vo, none⟩) 4 vc)).setCell ⟨w.heap.size + 1, 1, none⟩ (.slice oa n oc))) := nK.out.bel.trans (A8.2.mono (by omega))
   obtain ⟨bY, h1, h2, h3, h4, h5⟩ := HI.out.own (by omega)
   have pP := (iH HI.out.cart).1; have Z7 : m.length = n := h2.1; have vZ : Hid (Own ((wr.setCell ⟨w.heap.size + 1, 0, none⟩ (.slice (some ⟨vg, vo, none⟩) 4 vc)).setCell ⟨w.heap.size + 1, 1, none⟩ (.slice oa n oc)) (rb + 1) bY (some ⟨vg, vo, none⟩) 4 zs) := h1.kept (fun j a b => aD _ _ (by omega))
   have sA : Hid (bB ((wr.setCell ⟨w.heap.size + 1, 0, none⟩ (.slice (some ⟨vg, vo, none⟩) 4 vc)).setCell ⟨w.heap.size + 1, 1, none⟩ (.slice oa n oc)) bY wr.heap.size oa n m) := h2.kept (fun j a b => aD _ _ (by omega))
   have sV : ((wr.setCell ⟨w.heap.size + 1, 0, none⟩ (.slice (some ⟨vg, vo, none⟩) 4 vc)).setCell ⟨w.heap.size + 1, 1, none⟩ (.slice oa n oc)).heap.size = wr.heap.size := aY _ _ _ _; have HC5 := aPo h5; have HC6 := aPo HI.out.capo; have HL4 := aPo pP; have HML := aPo Z7; clear A8 h1 h2 h5 pP Z7; go_wp2
   change bodyPost _ _ _ _ _ ((wr.setCell ⟨w.heap.size + 1, 0, none⟩ (.slice (some ⟨vg, vo, none⟩) 4 vc)).setCell ⟨w.heap.size + 1, 1, none⟩ (.slice oa n oc))
   clear x0 x1 r0 r1 fP fO; generalize ((wr.setCell ⟨w.heap.size + 1, 0, none⟩ (.slice (some ⟨vg, vo, none⟩) 4 vc)).setCell ⟨w.heap.size + 1, 1, none⟩ (.slice oa n oc)) = wf at HX bQ vZ sA sV ⊢; obtain ⟨q0, q1⟩ := pair_cells HX.out; refine bodyPost_ret (v := .tuple #[.agg #[.slice (some ⟨vg, vo, none⟩) 4 vc, .slice oa n oc], .nilIface]) (by simp [results, Tryz.results107, go_sem, q0, q1]) rfl (mX.eqr (show mX E (0, zs, m) w _ wf from .inr ⟨rfl, some ⟨vg, vo, none⟩, vc, oa, oc, bY, ?_, ?_, ?_, by omega, by omega, ?_, ?_, bQ.out⟩) O3.out.symm)
   ·show _ = Ending.returned (.tuple #[.agg #[.slice _ zs.length _, .slice _ m.length _], _])
    rw [HL4.out, HML.out]
   ·show Own wf w.heap.size bY _ zs.length zs
    rw [HL4.out]; exact vZ.out.more (by omega) aPq
   ·show bB wf bY wf.heap.size _ m.length m
    rw [HML.out, sV]; exact sA.out
   ·show bM _ zs.length vc
    rw [HL4.out]; exact HC5.out
   ·show bM _ m.length oc
    rw [HML.out]; exact HC6.out
  have hki : (k : Int) < (F.length : Int) := by omega
  obtain ⟨lb, lo, rfl, hlb, hlc⟩ := (HFz.out.below HI.out.bel aPq).2 k aJ; obtain ⟨l0, l1, l2⟩ := hlc; have HXN : Hid (eX.getD k ⟨#[]⟩ = (F.getD k aS.zero).item) := by
   show _ = _
   rw [← HFN.out, List.getD_eq_getElem?_getD, List.getElem?_map, List.getD_eq_getElem?_getD, List.getElem?_eq_getElem aJ]
   rfl
  have hxi : (F.getD k aS.zero).item.size ≤ 1048576 := by
   rw [← HXN.out]; exact HNI.out _ (by rw [List.getD_eq_getElem?_getD, List.getElem?_eq_getElem (by omega)]; exact List.getElem_mem _)
  generalize F.getD k aS.zero = x at l0 l1 l2 HXN hxi
  go_upto_region 8 with fail
  have aT := (Below.refl wr.heap.size wr).alloc aPq (.cells #[.string x.item, .int .i64 x.qty, .bool x.saved] 39); have dZ := aPo (HI.out.next (by omega) aT)
  have cU := aPo aT; have C6 := aPo (heap_alloc_new wr (.cells #[.string x.item, .int .i64 x.qty, .bool x.saved] 39)); clear aT l0 l1 l2 x0 x1; generalize wr.alloc (.cells #[.string x.item, .int .i64 x.qty, .bool x.saved] 39) = w1 at dZ cU C6 ⊢; have hx1 : wr.heap.size < w1.heap.size := (aPp C6.out).1; have fB := aPo ((HEz.out.below dZ.out.bel (by omega)).up (B' := w1.heap.size) (by omega))
  obtain ⟨x0, x1⟩ := pair_cells dZ.out.rest; obtain ⟨d0, d1, d2⟩ := vK C6.out
  go_wp2_with fail
  refine (xW w1 w1.heap.size E fB.out vg vo oa vc n oc d zs m 3 0 0 0 x.item dZ.out.ints dZ.out.ops aPq dZ.out.capv dZ.out.capo dZ.out.cart hd hxi).mono ?_
  intro e w2 gP
  have aM := gP.bel; have oL := aPo (dZ.out.next (by omega) aM)
  have o8 := aM.size; clear x0 x1 d0 d1 d2 C6 fB; rcases gP with ⟨h1, rfl, _⟩ | ⟨h1, va, zW, yF, A0, bY, rfl, h2, h3, h4, h5, h6, h7, h8⟩
  ·have O3 : Hid (T = ((dL zs m d 3 x.item 0).1, [], [])) := by
    have := HI.out.tot; rw [aBX (by omega), HXN.out, if_neg h1] at this
    exact this.symm
   obtain ⟨code, cO⟩ : ∃ code, code = (dL zs m d 3 x.item 0).1 := ⟨_, rfl⟩; rw [← cO] at h1 O3 ⊢; have K2 : kM E code = .iface 226 (.pointer (some (E code))) := by unfold kM; rw [if_neg h1]
   rw [K2]; have HER := aPo K2; clear cO K2 aM dZ HI cU
   go_upto_region 9 with fail
   have aT := (Below.refl w2.heap.size w2).alloc aPq (.cells #[.slice none 0 0, .slice none 0 0] 27); have tJ := aPo (oL.out.next (by omega) aT)
   clear aT oL; generalize w2.alloc (.cells #[.slice none 0 0, .slice none 0 0] 27) = w3 at tJ ⊢; generalize w2.heap.size = nb at o8 ⊢; have nK : Hid (tV w w3 #[.slice (some ⟨g, off, none⟩) 4 cv, .slice ao no co] #[.slice none 0 0, .slice none 0 0] 27) := ⟨(tJ.out.bel.block _ (by omega)).trans cR.out.fst, (tJ.out.bel.block _ (by omega)).trans cR.out.snd, cR.out.bel.trans (tJ.out.bel.mono (by omega))⟩
   obtain ⟨r0, r1⟩ := pair_cells nK.out.snd; obtain ⟨fP, fO⟩ := aB nK.out.snd; have HX := aPo (mJ nK.out (.slice none 0 0) (.slice none 0 0)).1; have bQ := aPo (nK.out.bel.trans ((mJ nK.out (.slice none 0 0) (.slice none 0 0)).2.mono (by omega)))
   go_wp2
   change bodyPost _ _ _ _ _ ((w3.setCell ⟨w.heap.size + 1, 0, none⟩ (.slice none 0 0)).setCell ⟨w.heap.size + 1, 1, none⟩ (.slice none 0 0))
   clear r0 r1 fP fO; generalize ((w3.setCell ⟨w.heap.size + 1, 0, none⟩ (.slice none 0 0)).setCell ⟨w.heap.size + 1, 1, none⟩ (.slice none 0 0)) = wf at HX bQ ⊢; obtain ⟨q0, q1⟩ := pair_cells HX.out; exact bodyPost_ret (v := .tuple #[.agg #[.slice none 0 0, .slice none 0 0], (.iface 226 (.pointer (some (E code))))]) (by simp [results, Tryz.results107, go_sem, q0, q1]) rfl ((show mX E (code, [], []) w _ wf from .inl ⟨h1, by rw [← HER.out], bQ.out⟩).eqr O3.out.symm)
  ·obtain ⟨R, hR⟩ : ∃ R, R = dL zs m d 3 x.item 0 := ⟨_, rfl⟩
   have dF := fun w3 h9 => HI.out.step (w3 := w3) (by omega) hd (by omega) HXN.out cU.out h1 h2 h3 h4 h5 h6 h7 h8 h9
   rw [← hR] at dF ⊢; have HST := aPo dF; clear dF h1 h2 h3 h4 h5 h6 h7 h8 hR aM dZ HI cU
   go_upto_region 9 with fail
   have aT := (Below.refl w2.heap.size w2).alloc aPq (.cells #[.slice va R.2.1.length zW, .slice yF R.2.2.length A0] 27); have tJ := aPo (oL.out.next (by omega) aT)
   have HS3 := aPo (HST.out _ aT); have nU := aPo (heap_alloc_new w2 (.cells #[.slice va R.2.1.length zW, .slice yF R.2.2.length A0] 27)); clear aT oL HST; generalize w2.alloc (.cells #[.slice va R.2.1.length zW, .slice yF R.2.2.length A0] 27) = w3 at tJ HS3 nU ⊢; obtain ⟨E6, rfl, pP, dF⟩ := HS3.out; have HST := aPo dF; rw [pP] at nU ⊢; clear HS3 pP dF; have hx3 : w2.heap.size < w3.heap.size := (aPp nU.out).1; generalize w2.heap.size = nb at o8 nU hx3 ⊢; obtain ⟨x0, x1⟩ := pair_cells tJ.out.rest; obtain ⟨zV, zU⟩ := aB tJ.out.rest; obtain ⟨n0, n1⟩ := pair_cells nU.out
   go_upto_region 12 with fail
   generalize (w3.setCell ⟨rb, 0, none⟩ (.slice (some ⟨E6, 0, none⟩) 4 zW)).setCell ⟨rb, 1, none⟩ (.slice yF R.2.2.length A0) = w4 at HST ⊢; clear x0 x1 zV zU n0 n1 tJ nU; go_wp2
   go_roundw
   case rel => exact ⟨k + 1, R.2.1, R.2.2, E6, 0, zW, yF, R.2.2.length, A0, by omega, by go_num, HST⟩
   case measure => simp [intOf]; omega
theorem aCX {d : Nat} (hd : d < 4) : cV (d : Int) 0 3 = true := xU (by omega) (by omega)
theorem aF2 {xs : List Int} {l : List aA} {d : Nat} (hc : aE xs l = true) (hd : d < 4) : H8 xs l (d : Int) = dE (d : Int) l l.length := by
 unfold H8
 rw [if_pos ⟨hc, aCX hd⟩]
theorem aGl {xs : List Int} {l : List aA} {d : Nat} (hc : aE xs l = true) (hd : d < 4) : wX xs l (d : Int) = qM xs d l := by
 unfold wX
 rw [if_pos ⟨hc, aCX hd⟩]
 rfl
set_option maxHeartbeats 40000000 in
theorem aIQ (w : World) (B : Nat) (E : Int → Addr) (hE : eG w B E) (g off : Nat) (ao : Option Addr) (cv no co d : Nat) (xs : List Int) (l : List aA) (kind qty dv sq : Int) (item : ByteArray) (hx : Ints w B (some ⟨g, off, none⟩) 4 xs) (h : bP w B ao no l) (hB : B ≤ w.heap.size) (bW : 4 ≤ cv) (cB : bM ao no co) (hc : aE xs l = true) (hd : d < 4) (hi : item.size ≤ 1048576) (hk9 : kind = 9 → 0 ≤ dv ∧ dv ≤ 3) :
  Calls Tryz.prog 78 #[.agg #[.slice (some ⟨g, off, none⟩) 4 cv, .slice ao no co], .int .i64 (d : Int), .agg #[.int .i64 kind, .string item, .int .i64 qty, .int .i64 dv, .int .i64 sq]] w (mX E (jE xs l d kind item qty dv sq) w) := by
 have hM : no ≤ 160 := by rw [← h.1]; exact eF hc
 obtain ⟨T, qS⟩ : ∃ T, T = jE xs l d kind item qty dv sq := ⟨_, rfl⟩
 rw [← qS]
 have O3 := aPo qS
 have hT := rJ.mk0 w #[.slice (some ⟨g, off, none⟩) 4 cv, .slice ao no co] #[.int .i64 kind, .string item, .int .i64 qty, .int .i64 dv, .int .i64 sq] #[.slice none 0 0, .slice none 0 0] 27 29 27
 have HV := aPo (hx.below hT.bel hB)
 have HO := aPo (h.below hT.bel hB)
 have HE := aPo (hE.below hT.bel hB)
 have HT := aPo hT
 have gS := aPo cB
 have HC := aPo hc
 have HU := aPo (aF2 hc hd)
 have V4 := aPo (aGl hc hd)
 have HK9 := aPo hk9
 clear hx h hT cB hE hc qS hk9
 go_enter Tryz.func78, Tryz.ntmps78
 go_upto_region 1 with fail
 generalize ((w.alloc (.cells #[.slice (some ⟨g, off, none⟩) 4 cv, .slice ao no co] 27)).alloc (.cells #[.int .i64 kind, .string item, .int .i64 qty, .int .i64 dv, .int .i64 sq] 29)).alloc (.cells #[.slice none 0 0, .slice none 0 0] 27) = w0 at HV HO HE HT ⊢
 have jW := HT.out.lt
 obtain ⟨c0, c1⟩ := pair_cells HT.out.fst
 obtain ⟨d0, d1, d2, d3, d4⟩ := kN HT.out.snd
 by_cases k6 : kind = 6
 ·subst k6
  go_wp2_with fail
  refine (aIP w0 B E HE.out g off ao cv no co d xs l HV.out HO.out (by omega) bW gS.out  HC.out hd).mono ?_
  intro e w3 gP
  obtain ⟨a, n, c, a', n', c', er, rfl⟩ := gP.form; have C9 := aPo gP; have aV := gP.bel; have bH := aPo (HT.out.next aV); have gO := aV.size; clear gP aV c0 c1 d0 d1 d2 d3 d4; obtain ⟨r0, r1⟩ := pair_cells bH.out.res; obtain ⟨fP, fO⟩ := aB bH.out.res; have HX := aPo (bH.out.set2 (.slice a n c) (.slice a' n' c')).1; have bQ := aPo (bH.out.bel.trans ((bH.out.set2 (.slice a n c) (.slice a' n' c')).2.mono (by omega)))
  have pN := aY w3 (w.heap.size + 1 + 1) (.slice a n c) (.slice a' n' c'); have wE : Hid (∀ j, w0.heap.size ≤ j → ((w3.setCell ⟨w.heap.size + 1 + 1, 0, none⟩ (.slice a n c)).setCell ⟨w.heap.size + 1 + 1, 1, none⟩ (.slice a' n' c')).heap[j]? = w3.heap[j]?) := fun j hj => aD _ _ (by omega)
  go_wp2
  change bodyPost _ _ _ _ _ ((w3.setCell ⟨w.heap.size + 1 + 1, 0, none⟩ (.slice a n c)).setCell ⟨w.heap.size + 1 + 1, 1, none⟩ (.slice a' n' c'))
  clear r0 r1 fP fO; generalize ((w3.setCell ⟨w.heap.size + 1 + 1, 0, none⟩ (.slice a n c)).setCell ⟨w.heap.size + 1 + 1, 1, none⟩ (.slice a' n' c')) = wf at HX bQ wE pN ⊢; obtain ⟨q0, q1⟩ := pair_cells HX.out; exact bodyPost_ret (v := .tuple #[.agg #[.slice a n c, .slice a' n' c'], er]) (by simp [results, Tryz.results78, go_sem, q0, q1]) rfl ((C9.out.up (by omega) wE.out pN bQ.out).eqr (by rw [O3.out]; unfold jE; rw [if_pos rfl]))
 have k6b : (kind == 6) = false := beq_eq_false_iff_ne.2 k6
 by_cases k7 : kind = 7
 ·subst k7
  go_wp2_with fail
  refine (aIg w0 B (some ⟨g, off, none⟩) ao 4 cv no co xs l (d : Int) HV.out HO.out (by omega) (by omega) gS.out.1 ⟨by omega, gS.out.2.1⟩).mono ?_
  rintro e w1 ⟨rfl, aG⟩; rw [HU.out]; have bC := aPo (HT.out.next aG); have jR := aPo (HV.out.below aG (by omega))
  have dD := aPo (HO.out.below aG (by omega))
  have fB := aPo (HE.out.below aG (by omega))
  have eZ := aG.size; clear aG c0 c1 d0 d1 d2 d3 d4 HT HV HO HE; obtain ⟨tg, vM⟩ : ∃ tg, tg = dE (d : Int) l l.length := ⟨_, rfl⟩; rw [← vM]; have G5 := aPo vM; clear vM; obtain ⟨c0, c1⟩ := pair_cells bC.out.fst; obtain ⟨d0, d1, d2, d3, d4⟩ := kN bC.out.snd
  go_wp2_with fail
  refine (sG w1 B E fB.out g off ao cv no co d xs l tg jR.out dD.out (by omega) bW gS.out  HC.out hd).mono ?_
  intro e w3 gP
  obtain ⟨a, n, c, a', n', c', er, rfl⟩ := gP.form; have C9 := aPo gP; have aV := gP.bel; have bH := aPo (bC.out.next aV); have gO := aV.size; clear gP aV c0 c1 d0 d1 d2 d3 d4; obtain ⟨r0, r1⟩ := pair_cells bH.out.res; obtain ⟨fP, fO⟩ := aB bH.out.res; have HX := aPo (bH.out.set2 (.slice a n c) (.slice a' n' c')).1; have bQ := aPo (bH.out.bel.trans ((bH.out.set2 (.slice a n c) (.slice a' n' c')).2.mono (by omega)))
  have pN := aY w3 (w.heap.size + 1 + 1) (.slice a n c) (.slice a' n' c'); have wE : Hid (∀ j, w1.heap.size ≤ j → ((w3.setCell ⟨w.heap.size + 1 + 1, 0, none⟩ (.slice a n c)).setCell ⟨w.heap.size + 1 + 1, 1, none⟩ (.slice a' n' c')).heap[j]? = w3.heap[j]?) := fun j hj => aD _ _ (by omega)
  go_wp2
  change bodyPost _ _ _ _ _ ((w3.setCell ⟨w.heap.size + 1 + 1, 0, none⟩ (.slice a n c)).setCell ⟨w.heap.size + 1 + 1, 1, none⟩ (.slice a' n' c'))
  clear r0 r1 fP fO; generalize ((w3.setCell ⟨w.heap.size + 1 + 1, 0, none⟩ (.slice a n c)).setCell ⟨w.heap.size + 1 + 1, 1, none⟩ (.slice a' n' c')) = wf at HX bQ wE pN ⊢; obtain ⟨q0, q1⟩ := pair_cells HX.out; exact bodyPost_ret (v := .tuple #[.agg #[.slice a n c, .slice a' n' c'], er]) (by simp [results, Tryz.results78, go_sem, q0, q1]) rfl ((C9.out.up (by omega) wE.out pN bQ.out).eqr (by rw [O3.out]; unfold jE; rw [if_neg (by decide)]; rw [if_pos rfl, G5.out]))
 have k7b : (kind == 7) = false := beq_eq_false_iff_ne.2 k7
 by_cases k8 : kind = 8
 ·subst k8
  go_wp2_with fail
  refine (aIh w0 B (some ⟨g, off, none⟩) ao 4 cv no co xs l (d : Int) HV.out HO.out (by omega) (by omega) gS.out.1 ⟨by omega, gS.out.2.1⟩).mono ?_
  rintro e w1 ⟨rfl, aG⟩; rw [V4.out]; have bC := aPo (HT.out.next aG); have jR := aPo (HV.out.below aG (by omega))
  have dD := aPo (HO.out.below aG (by omega))
  have fB := aPo (HE.out.below aG (by omega))
  have eZ := aG.size; clear aG c0 c1 d0 d1 d2 d3 d4 HT HV HO HE; obtain ⟨tg, vM⟩ : ∃ tg, tg = qM xs d l := ⟨_, rfl⟩; rw [← vM]; have G5 := aPo vM; clear vM; obtain ⟨c0, c1⟩ := pair_cells bC.out.fst; obtain ⟨d0, d1, d2, d3, d4⟩ := kN bC.out.snd
  go_wp2_with fail
  refine (sG w1 B E fB.out g off ao cv no co d xs l tg jR.out dD.out (by omega) bW gS.out  HC.out hd).mono ?_
  intro e w3 gP
  obtain ⟨a, n, c, a', n', c', er, rfl⟩ := gP.form; have C9 := aPo gP; have aV := gP.bel; have bH := aPo (bC.out.next aV); have gO := aV.size; clear gP aV c0 c1 d0 d1 d2 d3 d4; obtain ⟨r0, r1⟩ := pair_cells bH.out.res; obtain ⟨fP, fO⟩ := aB bH.out.res; have HX := aPo (bH.out.set2 (.slice a n c) (.slice a' n' c')).1; have bQ := aPo (bH.out.bel.trans ((bH.out.set2 (.slice a n c) (.slice a' n' c')).2.mono (by omega)))
  have pN := aY w3 (w.heap.size + 1 + 1) (.slice a n c) (.slice a' n' c'); have wE : Hid (∀ j, w1.heap.size ≤ j → ((w3.setCell ⟨w.heap.size + 1 + 1, 0, none⟩ (.slice a n c)).setCell ⟨w.heap.size + 1 + 1, 1, none⟩ (.slice a' n' c')).heap[j]? = w3.heap[j]?) := fun j hj => aD _ _ (by omega)
  go_wp2
  change bodyPost _ _ _ _ _ ((w3.setCell ⟨w.heap.size + 1 + 1, 0, none⟩ (.slice a n c)).setCell ⟨w.heap.size + 1 + 1, 1, none⟩ (.slice a' n' c'))
  clear r0 r1 fP fO; generalize ((w3.setCell ⟨w.heap.size + 1 + 1, 0, none⟩ (.slice a n c)).setCell ⟨w.heap.size + 1 + 1, 1, none⟩ (.slice a' n' c')) = wf at HX bQ wE pN ⊢; obtain ⟨q0, q1⟩ := pair_cells HX.out; exact bodyPost_ret (v := .tuple #[.agg #[.slice a n c, .slice a' n' c'], er]) (by simp [results, Tryz.results78, go_sem, q0, q1]) rfl ((C9.out.up (by omega) wE.out pN bQ.out).eqr (by rw [O3.out]; unfold jE; rw [if_neg (by decide)]; rw [if_neg (by decide)]; rw [if_pos rfl, G5.out]))
 have k8b : (kind == 8) = false := beq_eq_false_iff_ne.2 k8
 by_cases k9 : kind = 9
 ·subst k9
  obtain ⟨hv0, hv1⟩ := HK9.out rfl; obtain ⟨dd, rfl⟩ : ∃ dd : Nat, dv = (dd : Int) := ⟨dv.toNat, by omega⟩
  have hdd : dd < 4 := by omega
  go_wp2_with fail
  refine (sG w0 B E HE.out g off ao cv no co dd xs l sq HV.out HO.out (by omega) bW gS.out  HC.out hdd).mono ?_
  intro e w3 gP
  obtain ⟨a, n, c, a', n', c', er, rfl⟩ := gP.form; have C9 := aPo gP; have aV := gP.bel; have bH := aPo (HT.out.next aV); have gO := aV.size; clear gP aV c0 c1 d0 d1 d2 d3 d4; obtain ⟨r0, r1⟩ := pair_cells bH.out.res; obtain ⟨fP, fO⟩ := aB bH.out.res; have HX := aPo (bH.out.set2 (.slice a n c) (.slice a' n' c')).1; have bQ := aPo (bH.out.bel.trans ((bH.out.set2 (.slice a n c) (.slice a' n' c')).2.mono (by omega)))
  have pN := aY w3 (w.heap.size + 1 + 1) (.slice a n c) (.slice a' n' c'); have wE : Hid (∀ j, w0.heap.size ≤ j → ((w3.setCell ⟨w.heap.size + 1 + 1, 0, none⟩ (.slice a n c)).setCell ⟨w.heap.size + 1 + 1, 1, none⟩ (.slice a' n' c')).heap[j]? = w3.heap[j]?) := fun j hj => aD _ _ (by omega)
  go_wp2
  change bodyPost _ _ _ _ _ ((w3.setCell ⟨w.heap.size + 1 + 1, 0, none⟩ (.slice a n c)).setCell ⟨w.heap.size + 1 + 1, 1, none⟩ (.slice a' n' c'))
  clear r0 r1 fP fO; generalize ((w3.setCell ⟨w.heap.size + 1 + 1, 0, none⟩ (.slice a n c)).setCell ⟨w.heap.size + 1 + 1, 1, none⟩ (.slice a' n' c')) = wf at HX bQ wE pN ⊢; obtain ⟨q0, q1⟩ := pair_cells HX.out; exact bodyPost_ret (v := .tuple #[.agg #[.slice a n c, .slice a' n' c'], er]) (by simp [results, Tryz.results78, go_sem, q0, q1]) rfl ((C9.out.up (by omega) wE.out pN bQ.out).eqr (by rw [O3.out]; unfold jE; rw [if_neg (by decide), if_neg (by decide), if_neg (by decide), if_pos rfl]))
 have k9b : (kind == 9) = false := beq_eq_false_iff_ne.2 k9
 go_wp2_with fail
 refine (xW w0 B E HE.out g off ao cv no co d xs l kind qty dv sq item HV.out HO.out (by omega) bW gS.out  HC.out hd hi).mono ?_
 intro e w3 gP
 obtain ⟨a, n, c, a', n', c', er, rfl⟩ := gP.form
 have C9 := aPo gP
 have aV := gP.bel
 have bH := aPo (HT.out.next aV)
 have gO := aV.size
 clear gP aV c0 c1 d0 d1 d2 d3 d4
 obtain ⟨r0, r1⟩ := pair_cells bH.out.res
 obtain ⟨fP, fO⟩ := aB bH.out.res
 have HX := aPo (bH.out.set2 (.slice a n c) (.slice a' n' c')).1
 have bQ := aPo (bH.out.bel.trans ((bH.out.set2 (.slice a n c) (.slice a' n' c')).2.mono (by omega)))
 have pN := aY w3 (w.heap.size + 1 + 1) (.slice a n c) (.slice a' n' c')
 have wE : Hid (∀ j, w0.heap.size ≤ j → ((w3.setCell ⟨w.heap.size + 1 + 1, 0, none⟩ (.slice a n c)).setCell ⟨w.heap.size + 1 + 1, 1, none⟩ (.slice a' n' c')).heap[j]? = w3.heap[j]?) := fun j hj => aD _ _ (by omega)
 go_wp2
 change bodyPost _ _ _ _ _ ((w3.setCell ⟨w.heap.size + 1 + 1, 0, none⟩ (.slice a n c)).setCell ⟨w.heap.size + 1 + 1, 1, none⟩ (.slice a' n' c'))
 clear r0 r1 fP fO
 generalize ((w3.setCell ⟨w.heap.size + 1 + 1, 0, none⟩ (.slice a n c)).setCell ⟨w.heap.size + 1 + 1, 1, none⟩ (.slice a' n' c')) = wf at HX bQ wE pN ⊢
 obtain ⟨q0, q1⟩ := pair_cells HX.out
 exact bodyPost_ret (v := .tuple #[.agg #[.slice a n c, .slice a' n' c'], er]) (by simp [results, Tryz.results78, go_sem, q0, q1]) rfl ((C9.out.up (by omega) wE.out pN bQ.out).eqr (by rw [O3.out]; unfold jE; rw [if_neg k6, if_neg k7, if_neg k8, if_neg k9]))
def PfP (E : Int → Addr) (r : Int × List Int × List aA) (w : World) (e : Ending) (w' : World) : Prop :=
 (r.1 = 0 ∧ mX E r w e w') ∨ (1 ≤ r.1 ∧ r.1 ≤ 4 ∧ ∃ rb ka kc oa oc bY, e = .returned (.tuple #[.agg #[.slice none 0 0, .slice none 0 0], .iface 66 (.pointer (some ⟨rb, 0, none⟩))]) ∧ w'.heap[rb]? = some (.cells #[.slice ka r.2.1.length kc, .slice oa r.2.2.length oc, kM E r.1] 70 (0, 0)) ∧ w.heap.size ≤ rb ∧ Own w' w.heap.size bY ka r.2.1.length r.2.1 ∧ bB w' bY w'.heap.size oa r.2.2.length r.2.2 ∧ w.heap.size ≤ bY ∧ bY ≤ w'.heap.size ∧ bM ka r.2.1.length kc ∧ bM oa r.2.2.length oc ∧ Below w.heap.size w w')
theorem PfP.eqr {E : Int → Addr} {r r' : Int × List Int × List aA} {w w' : World} {e : Ending} (h : PfP E r w e w') (e1 : r = r') : PfP E r' w e w' := e1 ▸ h
theorem G2 (E : Int → Addr) : kM E 1 = .iface 226 (.pointer (some (E 1))) := by unfold kM; rw [if_neg (by decide)]
theorem aFt {w : World} {B : Nat} {E : Int → Addr} (h : eG w B E) : w.cell? ⟨0, 0, none⟩ = some (.iface 226 (.pointer (some (E 1)))) := h.cells 1 (by omega) (by omega)
set_option maxHeartbeats 40000000 in
theorem M3 (w : World) (B : Nat) (E : Int → Addr) (hE : eG w B E) (av ao : Option Addr) (nv cv no co : Nat) (xs : List Int) (l : List aA) (dev kind qty dv sq : Int) (item : ByteArray) (hx : Ints w B av nv xs) (h : bP w B ao no l) (hB : B ≤ w.heap.size) (hv : nv ≤ 1048576) (hc : no ≤ co) (dP : Fits no co) (aFp : aE xs l = false ∨ (aE xs l = true ∧ cV dev 0 3 = false) ∨ (aE xs l = true ∧ cV dev 0 3 = true ∧ eB kind item qty dv sq = false)) :
  Calls Tryz.prog 42 #[.agg #[.slice av nv cv, .slice ao no co], .int .i64 dev, .agg #[.int .i64 kind, .string item, .int .i64 qty, .int .i64 dv, .int .i64 sq]] w (PfP E (1, [], []) w) := by
 have hT := rJ.mk0 w #[.slice av nv cv, .slice ao no co] #[.int .i64 kind, .string item, .int .i64 qty, .int .i64 dv, .int .i64 sq] #[.slice none 0 0, .slice none 0 0] 27 29 27
 have HV := aPo (hx.below hT.bel hB)
 have HO := aPo (h.below hT.bel hB)
 have HE := aPo (hE.below hT.bel hB)
 have HT := aPo hT
 have aOs := aPo aFp
 have N6 := hE.low
 clear hx h hT hE aFp
 go_enter Tryz.func42, Tryz.ntmps42
 go_upto_region 1 with fail
 generalize ((w.alloc (.cells #[.slice av nv cv, .slice ao no co] 27)).alloc (.cells #[.int .i64 kind, .string item, .int .i64 qty, .int .i64 dv, .int .i64 sq] 29)).alloc (.cells #[.slice none 0 0, .slice none 0 0] 27) = w0 at HV HO HE HT ⊢
 have jW := HT.out.lt
 obtain ⟨c0, c1⟩ := pair_cells HT.out.fst
 obtain ⟨d0, d1, d2, d3, d4⟩ := kN HT.out.snd
 go_wp2_with fail
 refine (iZ w0 B av ao nv cv no co xs l HV.out HO.out (by omega) hv hc dP).mono ?_
 rintro e w1 ⟨rfl, aG⟩
 have bC := aPo (HT.out.next aG)
 have fB := aPo (HE.out.below aG (by omega))
 have eZ := aG.size
 clear aG c0 c1 d0 d1 d2 d3 d4 HT HE HV HO
 obtain ⟨d0, d1, d2, d3, d4⟩ := kN bC.out.snd
 rcases aOs.out with hq | ⟨hq, hq2⟩ | ⟨hq, hq2, hq3⟩
 ·rw [hq]
  have g1 := aFt fB.out
  go_wp2_with fail
  refine wp_region_held_drew (S := fun w' => w'.cell? ⟨0, 0, none⟩ = some (.iface 226 (.pointer (some (E 1))))) (by kernel_rfl) g1 (fun aL => ?_)
  have cS : Hid (Below w1.heap.size w1 w1.drew) := ⟨rfl, rfl, rfl, Nat.le_refl _, fun _ _ => rfl⟩
  generalize w1.drew = z0 at cS aL ⊢; have cR := aPo (bC.out.next cS.out); have dC := cS.out.size; have hlz := cR.out.lt; have gQ := cR.out.bel.size; refine tj 0 ?_
  refine tj 1 ?_
  refine tj 2 ?_
  refine wpAnyH_ready (rs := [3, 5]) (by kernel_rfl) (by simp) ?_
  refine AllReadyH.cons rfl (fun K hK => ?_) (AllReadyH.cons rfl (fun K hK => ?_) AllReadyH.nil)
  ·
   have iG : Below z0.heap.size z0 (z0.alloc (.cells #[.slice none 0 0, .slice none 0 0, (.iface 226 (.pointer (some (E 1))))] 70)) := bl; have lZ : (z0.alloc (.cells #[.slice none 0 0, .slice none 0 0, (.iface 226 (.pointer (some (E 1))))] 70)).cell? ⟨0, 0, none⟩ = some (.iface 226 (.pointer (some (E 1)))) := (iG.cell (p := ⟨0, 0, none⟩) (by show 0 < _; omega)).trans aL
   have nS := heap_alloc_new z0 (.cells #[.slice none 0 0, .slice none 0 0, (.iface 226 (.pointer (some (E 1))))] 70)
   go_simp
   refine hK.out _ _ lZ (fun _ => ?_)
   clear hK K
   (try simp only [Act.put, u1, u2, u3])
   have mF := aPo (cR.out.next iG); generalize (z0.alloc (.cells #[.slice none 0 0, .slice none 0 0, (.iface 226 (.pointer (some (E 1))))] 70)) = za at iG lZ nS mF ⊢; have hla : z0.heap.size < za.heap.size := (aPp nS).1; generalize z0.heap.size = rb at hla iG nS hlz dC gQ ⊢; obtain ⟨r0, r1⟩ := pair_cells mF.out.res; obtain ⟨fP, fO⟩ := aB mF.out.res; refine tj 4 ?_
   refine rk 5 rfl (fun K hK => ?_)
   go_simp
   refine hK.out _ _ ((World.cell?_of_block (a := ⟨0, 0, none⟩) (aD (w := za) (b := w.heap.size + 1 + 1) (k := 0) (.slice none 0 0) (.slice none 0 0) (by omega))).trans lZ) (fun bS => ?_)
   clear hK K
   (try simp only [Act.put, u1, u2, u3])
   refine tj 6 ?_
   refine wpAnyH_done (by kernel_rfl) ?_ _
   have HX := aPo (mF.out.set2 (.slice none 0 0) (.slice none 0 0)).1; have bQ := aPo (mF.out.bel.trans ((mF.out.set2 (.slice none 0 0) (.slice none 0 0)).2.mono (by omega)))
   have iV : Hid (((za.setCell ⟨w.heap.size + 1 + 1, 0, none⟩ (.slice none 0 0)).setCell ⟨w.heap.size + 1 + 1, 1, none⟩ (.slice none 0 0)).heap[rb]? = some (.cells #[.slice none 0 0, .slice none 0 0, (.iface 226 (.pointer (some (E 1))))] 70 (0, 0))) := (aD _ _ (by omega)).trans nS
   clear r0 r1 fP fO nS iG; generalize ((za.setCell ⟨w.heap.size + 1 + 1, 0, none⟩ (.slice none 0 0)).setCell ⟨w.heap.size + 1 + 1, 1, none⟩ (.slice none 0 0)) = wf at HX bQ iV ⊢; go_wp2
   obtain ⟨q0, q1⟩ := pair_cells HX.out; exact bodyPost_ret (v := .tuple #[.agg #[.slice none 0 0, .slice none 0 0], .iface 66 (.pointer (some ⟨rb, 0, none⟩))]) (by simp [results, Tryz.results42, go_sem, q0, q1]) rfl (.inr ⟨by decide, by decide, rb, none, 0, none, 0, wf.heap.size, rfl, by rw [G2]; exact iV.out, by omega, nX _ _ _ _, fH _ _ _ _, bQ.out.size, Nat.le_refl _, cN, cN, bQ.out⟩)
  ·
   obtain ⟨r0, r1⟩ := pair_cells cR.out.res; obtain ⟨fP, fO⟩ := aB cR.out.res; have lZ : ((z0.setCell ⟨w.heap.size + 1 + 1, 0, none⟩ (.slice none 0 0)).setCell ⟨w.heap.size + 1 + 1, 1, none⟩ (.slice none 0 0)).cell? ⟨0, 0, none⟩ = some (.iface 226 (.pointer (some (E 1)))) := (World.cell?_of_block (a := ⟨0, 0, none⟩) (aD (w := z0) (b := w.heap.size + 1 + 1) (k := 0) (.slice none 0 0) (.slice none 0 0) (by omega))).trans aL
   have hX := (cR.out.set2 (.slice none 0 0) (.slice none 0 0)).1; have T6 := cR.out.bel.trans ((cR.out.set2 (.slice none 0 0) (.slice none 0 0)).2.mono (by omega))
   have S3 : ((z0.setCell ⟨w.heap.size + 1 + 1, 0, none⟩ (.slice none 0 0)).setCell ⟨w.heap.size + 1 + 1, 1, none⟩ (.slice none 0 0)).heap.size = z0.heap.size := aY _ _ _ _
   go_simp
   refine hK.out _ _ lZ (fun _ => ?_)
   clear hK K r0 r1 fP fO
   (try simp only [Act.put, u1, u2, u3])
   generalize ((z0.setCell ⟨w.heap.size + 1 + 1, 0, none⟩ (.slice none 0 0)).setCell ⟨w.heap.size + 1 + 1, 1, none⟩ (.slice none 0 0)) = za at lZ hX T6 S3 ⊢; refine rk 3 rfl (fun K hK => ?_)
   have iG : Below za.heap.size za (za.alloc (.cells #[.slice none 0 0, .slice none 0 0, (.iface 226 (.pointer (some (E 1))))] 70)) := bl; have T5 : (za.alloc (.cells #[.slice none 0 0, .slice none 0 0, (.iface 226 (.pointer (some (E 1))))] 70)).cell? ⟨0, 0, none⟩ = some (.iface 226 (.pointer (some (E 1)))) := (iG.cell (p := ⟨0, 0, none⟩) (by show 0 < _; omega)).trans lZ
   have nS := heap_alloc_new za (.cells #[.slice none 0 0, .slice none 0 0, (.iface 226 (.pointer (some (E 1))))] 70)
   go_simp
   refine hK.out _ _ T5 (fun _ => ?_)
   clear hK K
   (try simp only [Act.put, u1, u2, u3])
   have HX := aPo ((iG.block _ (by omega)).trans hX)
   have bQ := aPo (T6.trans (iG.mono (by omega)))
   have iV := aPo nS; generalize za.alloc (.cells #[.slice none 0 0, .slice none 0 0, (.iface 226 (.pointer (some (E 1))))] 70) = wf at T5 HX bQ iV ⊢; clear nS iG hX T6; generalize za.heap.size = rb at iV S3 ⊢; refine tj 4 ?_
   refine tj 6 ?_
   refine wpAnyH_done (by kernel_rfl) ?_ _
   go_wp2
   obtain ⟨q0, q1⟩ := pair_cells HX.out; exact bodyPost_ret (v := .tuple #[.agg #[.slice none 0 0, .slice none 0 0], .iface 66 (.pointer (some ⟨rb, 0, none⟩))]) (by simp [results, Tryz.results42, go_sem, q0, q1]) rfl (.inr ⟨by decide, by decide, rb, none, 0, none, 0, wf.heap.size, rfl, by rw [G2]; exact iV.out, by omega, nX _ _ _ _, fH _ _ _ _, bQ.out.size, Nat.le_refl _, cN, cN, bQ.out⟩)
 ·rw [hq]
  go_wp2_with fail
  refine (vT dev w1).mono ?_
  rintro e w1' ⟨rfl, rfl⟩; rw [hq2]; have g1 := aFt fB.out
  go_wp2_with fail
  refine wp_region_held_drew (S := fun w' => w'.cell? ⟨0, 0, none⟩ = some (.iface 226 (.pointer (some (E 1))))) (by kernel_rfl) g1 (fun aL => ?_)
  have cS : Hid (Below w1.heap.size w1 w1.drew) := ⟨rfl, rfl, rfl, Nat.le_refl _, fun _ _ => rfl⟩
  generalize w1.drew = z0 at cS aL ⊢; have cR := aPo (bC.out.next cS.out); have dC := cS.out.size; have hlz := cR.out.lt; have gQ := cR.out.bel.size; refine tj 0 ?_
  refine tj 1 ?_
  refine tj 2 ?_
  refine wpAnyH_ready (rs := [3, 5]) (by kernel_rfl) (by simp) ?_
  refine AllReadyH.cons rfl (fun K hK => ?_) (AllReadyH.cons rfl (fun K hK => ?_) AllReadyH.nil)
  ·
   have iG : Below z0.heap.size z0 (z0.alloc (.cells #[.slice none 0 0, .slice none 0 0, (.iface 226 (.pointer (some (E 1))))] 70)) := bl; have lZ : (z0.alloc (.cells #[.slice none 0 0, .slice none 0 0, (.iface 226 (.pointer (some (E 1))))] 70)).cell? ⟨0, 0, none⟩ = some (.iface 226 (.pointer (some (E 1)))) := (iG.cell (p := ⟨0, 0, none⟩) (by show 0 < _; omega)).trans aL
   have nS := heap_alloc_new z0 (.cells #[.slice none 0 0, .slice none 0 0, (.iface 226 (.pointer (some (E 1))))] 70)
   go_simp
   refine hK.out _ _ lZ (fun _ => ?_)
   clear hK K
   (try simp only [Act.put, u1, u2, u3])
   have mF := aPo (cR.out.next iG); generalize (z0.alloc (.cells #[.slice none 0 0, .slice none 0 0, (.iface 226 (.pointer (some (E 1))))] 70)) = za at iG lZ nS mF ⊢; have hla : z0.heap.size < za.heap.size := (aPp nS).1; generalize z0.heap.size = rb at hla iG nS hlz dC gQ ⊢; obtain ⟨r0, r1⟩ := pair_cells mF.out.res; obtain ⟨fP, fO⟩ := aB mF.out.res; refine tj 4 ?_
   refine rk 5 rfl (fun K hK => ?_)
   go_simp
   refine hK.out _ _ ((World.cell?_of_block (a := ⟨0, 0, none⟩) (aD (w := za) (b := w.heap.size + 1 + 1) (k := 0) (.slice none 0 0) (.slice none 0 0) (by omega))).trans lZ) (fun bS => ?_)
   clear hK K
   (try simp only [Act.put, u1, u2, u3])
   refine tj 6 ?_
   refine wpAnyH_done (by kernel_rfl) ?_ _
   have HX := aPo (mF.out.set2 (.slice none 0 0) (.slice none 0 0)).1; have bQ := aPo (mF.out.bel.trans ((mF.out.set2 (.slice none 0 0) (.slice none 0 0)).2.mono (by omega)))
   have iV : Hid (((za.setCell ⟨w.heap.size + 1 + 1, 0, none⟩ (.slice none 0 0)).setCell ⟨w.heap.size + 1 + 1, 1, none⟩ (.slice none 0 0)).heap[rb]? = some (.cells #[.slice none 0 0, .slice none 0 0, (.iface 226 (.pointer (some (E 1))))] 70 (0, 0))) := (aD _ _ (by omega)).trans nS
   clear r0 r1 fP fO nS iG; generalize ((za.setCell ⟨w.heap.size + 1 + 1, 0, none⟩ (.slice none 0 0)).setCell ⟨w.heap.size + 1 + 1, 1, none⟩ (.slice none 0 0)) = wf at HX bQ iV ⊢; go_wp2
   obtain ⟨q0, q1⟩ := pair_cells HX.out; exact bodyPost_ret (v := .tuple #[.agg #[.slice none 0 0, .slice none 0 0], .iface 66 (.pointer (some ⟨rb, 0, none⟩))]) (by simp [results, Tryz.results42, go_sem, q0, q1]) rfl (.inr ⟨by decide, by decide, rb, none, 0, none, 0, wf.heap.size, rfl, by rw [G2]; exact iV.out, by omega, nX _ _ _ _, fH _ _ _ _, bQ.out.size, Nat.le_refl _, cN, cN, bQ.out⟩)
  ·
   obtain ⟨r0, r1⟩ := pair_cells cR.out.res; obtain ⟨fP, fO⟩ := aB cR.out.res; have lZ : ((z0.setCell ⟨w.heap.size + 1 + 1, 0, none⟩ (.slice none 0 0)).setCell ⟨w.heap.size + 1 + 1, 1, none⟩ (.slice none 0 0)).cell? ⟨0, 0, none⟩ = some (.iface 226 (.pointer (some (E 1)))) := (World.cell?_of_block (a := ⟨0, 0, none⟩) (aD (w := z0) (b := w.heap.size + 1 + 1) (k := 0) (.slice none 0 0) (.slice none 0 0) (by omega))).trans aL
   have hX := (cR.out.set2 (.slice none 0 0) (.slice none 0 0)).1; have T6 := cR.out.bel.trans ((cR.out.set2 (.slice none 0 0) (.slice none 0 0)).2.mono (by omega))
   have S3 : ((z0.setCell ⟨w.heap.size + 1 + 1, 0, none⟩ (.slice none 0 0)).setCell ⟨w.heap.size + 1 + 1, 1, none⟩ (.slice none 0 0)).heap.size = z0.heap.size := aY _ _ _ _
   go_simp
   refine hK.out _ _ lZ (fun _ => ?_)
   clear hK K r0 r1 fP fO
   (try simp only [Act.put, u1, u2, u3])
   generalize ((z0.setCell ⟨w.heap.size + 1 + 1, 0, none⟩ (.slice none 0 0)).setCell ⟨w.heap.size + 1 + 1, 1, none⟩ (.slice none 0 0)) = za at lZ hX T6 S3 ⊢; refine rk 3 rfl (fun K hK => ?_)
   have iG : Below za.heap.size za (za.alloc (.cells #[.slice none 0 0, .slice none 0 0, (.iface 226 (.pointer (some (E 1))))] 70)) := bl; have T5 : (za.alloc (.cells #[.slice none 0 0, .slice none 0 0, (.iface 226 (.pointer (some (E 1))))] 70)).cell? ⟨0, 0, none⟩ = some (.iface 226 (.pointer (some (E 1)))) := (iG.cell (p := ⟨0, 0, none⟩) (by show 0 < _; omega)).trans lZ
   have nS := heap_alloc_new za (.cells #[.slice none 0 0, .slice none 0 0, (.iface 226 (.pointer (some (E 1))))] 70)
   go_simp
   refine hK.out _ _ T5 (fun _ => ?_)
   clear hK K
   (try simp only [Act.put, u1, u2, u3])
   have HX := aPo ((iG.block _ (by omega)).trans hX)
   have bQ := aPo (T6.trans (iG.mono (by omega)))
   have iV := aPo nS; generalize za.alloc (.cells #[.slice none 0 0, .slice none 0 0, (.iface 226 (.pointer (some (E 1))))] 70) = wf at T5 HX bQ iV ⊢; clear nS iG hX T6; generalize za.heap.size = rb at iV S3 ⊢; refine tj 4 ?_
   refine tj 6 ?_
   refine wpAnyH_done (by kernel_rfl) ?_ _
   go_wp2
   obtain ⟨q0, q1⟩ := pair_cells HX.out; exact bodyPost_ret (v := .tuple #[.agg #[.slice none 0 0, .slice none 0 0], .iface 66 (.pointer (some ⟨rb, 0, none⟩))]) (by simp [results, Tryz.results42, go_sem, q0, q1]) rfl (.inr ⟨by decide, by decide, rb, none, 0, none, 0, wf.heap.size, rfl, by rw [G2]; exact iV.out, by omega, nX _ _ _ _, fH _ _ _ _, bQ.out.size, Nat.le_refl _, cN, cN, bQ.out⟩)
 ·rw [hq]
  go_wp2_with fail
  refine (vT dev w1).mono ?_
  rintro e w1' ⟨rfl, rfl⟩; rw [hq2]
  go_wp2_with fail
  refine (aEJ kind item qty dv sq w1).mono ?_
  rintro e w2 ⟨rfl, aM⟩; rw [hq3]; have aK := aPo (bC.out.next aM); have dW := aPo (fB.out.below aM (by omega))
  have eC := aM.size; clear aM d0 d1 d2 d3 d4 bC fB; have g1 := aFt dW.out
  go_wp2_with fail
  refine wp_region_held_drew (S := fun w' => w'.cell? ⟨0, 0, none⟩ = some (.iface 226 (.pointer (some (E 1))))) (by kernel_rfl) g1 (fun aL => ?_)
  have cS : Hid (Below w2.heap.size w2 w2.drew) := ⟨rfl, rfl, rfl, Nat.le_refl _, fun _ _ => rfl⟩
  generalize w2.drew = z0 at cS aL ⊢; have cR := aPo (aK.out.next cS.out); have dC := cS.out.size; have hlz := cR.out.lt; have gQ := cR.out.bel.size; refine tj 0 ?_
  refine tj 1 ?_
  refine tj 2 ?_
  refine wpAnyH_ready (rs := [3, 5]) (by kernel_rfl) (by simp) ?_
  refine AllReadyH.cons rfl (fun K hK => ?_) (AllReadyH.cons rfl (fun K hK => ?_) AllReadyH.nil)
  ·
   have iG : Below z0.heap.size z0 (z0.alloc (.cells #[.slice none 0 0, .slice none 0 0, (.iface 226 (.pointer (some (E 1))))] 70)) := bl; have lZ : (z0.alloc (.cells #[.slice none 0 0, .slice none 0 0, (.iface 226 (.pointer (some (E 1))))] 70)).cell? ⟨0, 0, none⟩ = some (.iface 226 (.pointer (some (E 1)))) := (iG.cell (p := ⟨0, 0, none⟩) (by show 0 < _; omega)).trans aL
   have nS := heap_alloc_new z0 (.cells #[.slice none 0 0, .slice none 0 0, (.iface 226 (.pointer (some (E 1))))] 70)
   go_simp
   refine hK.out _ _ lZ (fun _ => ?_)
   clear hK K
   (try simp only [Act.put, u1, u2, u3])
   have mF := aPo (cR.out.next iG); generalize (z0.alloc (.cells #[.slice none 0 0, .slice none 0 0, (.iface 226 (.pointer (some (E 1))))] 70)) = za at iG lZ nS mF ⊢; have hla : z0.heap.size < za.heap.size := (aPp nS).1; generalize z0.heap.size = rb at hla iG nS hlz dC gQ ⊢; obtain ⟨r0, r1⟩ := pair_cells mF.out.res; obtain ⟨fP, fO⟩ := aB mF.out.res; refine tj 4 ?_
   refine rk 5 rfl (fun K hK => ?_)
   go_simp
   refine hK.out _ _ ((World.cell?_of_block (a := ⟨0, 0, none⟩) (aD (w := za) (b := w.heap.size + 1 + 1) (k := 0) (.slice none 0 0) (.slice none 0 0) (by omega))).trans lZ) (fun bS => ?_)
   clear hK K
   (try simp only [Act.put, u1, u2, u3])
   refine tj 6 ?_
   refine wpAnyH_done (by kernel_rfl) ?_ _
   have HX := aPo (mF.out.set2 (.slice none 0 0) (.slice none 0 0)).1; have bQ := aPo (mF.out.bel.trans ((mF.out.set2 (.slice none 0 0) (.slice none 0 0)).2.mono (by omega)))
   have iV : Hid (((za.setCell ⟨w.heap.size + 1 + 1, 0, none⟩ (.slice none 0 0)).setCell ⟨w.heap.size + 1 + 1, 1, none⟩ (.slice none 0 0)).heap[rb]? = some (.cells #[.slice none 0 0, .slice none 0 0, (.iface 226 (.pointer (some (E 1))))] 70 (0, 0))) := (aD _ _ (by omega)).trans nS
   clear r0 r1 fP fO nS iG; generalize ((za.setCell ⟨w.heap.size + 1 + 1, 0, none⟩ (.slice none 0 0)).setCell ⟨w.heap.size + 1 + 1, 1, none⟩ (.slice none 0 0)) = wf at HX bQ iV ⊢; go_wp2
   obtain ⟨q0, q1⟩ := pair_cells HX.out; exact bodyPost_ret (v := .tuple #[.agg #[.slice none 0 0, .slice none 0 0], .iface 66 (.pointer (some ⟨rb, 0, none⟩))]) (by simp [results, Tryz.results42, go_sem, q0, q1]) rfl (.inr ⟨by decide, by decide, rb, none, 0, none, 0, wf.heap.size, rfl, by rw [G2]; exact iV.out, by omega, nX _ _ _ _, fH _ _ _ _, bQ.out.size, Nat.le_refl _, cN, cN, bQ.out⟩)
  ·
   obtain ⟨r0, r1⟩ := pair_cells cR.out.res; obtain ⟨fP, fO⟩ := aB cR.out.res; have lZ : ((z0.setCell ⟨w.heap.size + 1 + 1, 0, none⟩ (.slice none 0 0)).setCell ⟨w.heap.size + 1 + 1, 1, none⟩ (.slice none 0 0)).cell? ⟨0, 0, none⟩ = some (.iface 226 (.pointer (some (E 1)))) := (World.cell?_of_block (a := ⟨0, 0, none⟩) (aD (w := z0) (b := w.heap.size + 1 + 1) (k := 0) (.slice none 0 0) (.slice none 0 0) (by omega))).trans aL
   have hX := (cR.out.set2 (.slice none 0 0) (.slice none 0 0)).1; have T6 := cR.out.bel.trans ((cR.out.set2 (.slice none 0 0) (.slice none 0 0)).2.mono (by omega))
   have S3 : ((z0.setCell ⟨w.heap.size + 1 + 1, 0, none⟩ (.slice none 0 0)).setCell ⟨w.heap.size + 1 + 1, 1, none⟩ (.slice none 0 0)).heap.size = z0.heap.size := aY _ _ _ _
   go_simp
   refine hK.out _ _ lZ (fun _ => ?_)
   clear hK K r0 r1 fP fO
   (try simp only [Act.put, u1, u2, u3])
   generalize ((z0.setCell ⟨w.heap.size + 1 + 1, 0, none⟩ (.slice none 0 0)).setCell ⟨w.heap.size + 1 + 1, 1, none⟩ (.slice none 0 0)) = za at lZ hX T6 S3 ⊢; refine rk 3 rfl (fun K hK => ?_)
   have iG : Below za.heap.size za (za.alloc (.cells #[.slice none 0 0, .slice none 0 0, (.iface 226 (.pointer (some (E 1))))] 70)) := bl; have T5 : (za.alloc (.cells #[.slice none 0 0, .slice none 0 0, (.iface 226 (.pointer (some (E 1))))] 70)).cell? ⟨0, 0, none⟩ = some (.iface 226 (.pointer (some (E 1)))) := (iG.cell (p := ⟨0, 0, none⟩) (by show 0 < _; omega)).trans lZ
   have nS := heap_alloc_new za (.cells #[.slice none 0 0, .slice none 0 0, (.iface 226 (.pointer (some (E 1))))] 70)
   go_simp
   refine hK.out _ _ T5 (fun _ => ?_)
   clear hK K
   (try simp only [Act.put, u1, u2, u3])
   have HX := aPo ((iG.block _ (by omega)).trans hX)
   have bQ := aPo (T6.trans (iG.mono (by omega)))
   have iV := aPo nS; generalize za.alloc (.cells #[.slice none 0 0, .slice none 0 0, (.iface 226 (.pointer (some (E 1))))] 70) = wf at T5 HX bQ iV ⊢; clear nS iG hX T6; generalize za.heap.size = rb at iV S3 ⊢; refine tj 4 ?_
   refine tj 6 ?_
   refine wpAnyH_done (by kernel_rfl) ?_ _
   go_wp2
   obtain ⟨q0, q1⟩ := pair_cells HX.out; exact bodyPost_ret (v := .tuple #[.agg #[.slice none 0 0, .slice none 0 0], .iface 66 (.pointer (some ⟨rb, 0, none⟩))]) (by simp [results, Tryz.results42, go_sem, q0, q1]) rfl (.inr ⟨by decide, by decide, rb, none, 0, none, 0, wf.heap.size, rfl, by rw [G2]; exact iV.out, by omega, nX _ _ _ _, fH _ _ _ _, bQ.out.size, Nat.le_refl _, cN, cN, bQ.out⟩)
theorem aIL {kind : Int} {item : ByteArray} {qty dv sq : Int} (h : eB kind item qty dv sq = true) (hk : kind = 9) : 0 ≤ dv ∧ dv ≤ 3 := by
 subst hk
 have e : eB 9 item qty dv sq = (decide (item = ⟨#[]⟩ ∧ qty = 0) && (cV dv 0 3 && cV sq 1 40)) := rfl
 rw [e, Bool.and_eq_true, Bool.and_eq_true] at h
 have h2 := h.2.1
 unfold cV at h2
 exact of_decide_eq_true h2
theorem aE9 (wN : Int) (saved : Bool) (kind : Int) (item : ByteArray) (qty : Int) : (oneOf wN saved kind item qty).2 = 0 ∨ (oneOf wN saved kind item qty).2 = 2 ∨ (oneOf wN saved kind item qty).2 = 3 := by
 unfold oneOf
 repeat' split
 all_goals simp
theorem aGu (xs : List Int) (l : List aA) (d : Nat) (kind : Int) (item : ByteArray) (qty : Int) : 0 ≤ (dL xs l d kind item qty).1 ∧ (dL xs l d kind item qty).1 ≤ 4 := by
 unfold dL
 dsimp only
 have h := aE9 (aI item l l.length) (bN l item) kind item qty
 split
 ·split <;> simp
 ·show 0 ≤ (oneOf (aI item l l.length) (bN l item) kind item qty).2 ∧ (oneOf (aI item l l.length) (bN l item) kind item qty).2 ≤ 4
  omega
theorem P1 (xs : List Int) (l : List aA) (dev s : Int) : 0 ≤ (kW xs l dev s).1 ∧ (kW xs l dev s).1 ≤ 4 := by
 unfold kW
 split
 ·split <;> simp
 ·simp
theorem aHh (xs : List Int) (l : List aA) (d : Nat) : 0 ≤ (qK xs l d).1 ∧ (qK xs l d).1 ≤ 4 := by
 unfold qK
 split
 ·simp
 ·split <;> simp
theorem aH1 (xs : List Int) (l : List aA) (d : Nat) (kind : Int) (item : ByteArray) (qty dv sq : Int) : 0 ≤ (jE xs l d kind item qty dv sq).1 ∧ (jE xs l d kind item qty dv sq).1 ≤ 4 := by
 unfold jE
 split
 ·exact aHh _ _ _
 ·split
  ·exact P1 _ _ _ _
  ·split
   ·exact P1 _ _ _ _
   ·split
    ·exact P1 _ _ _ _
    ·exact aGu _ _ _ _ _ _
set_option maxHeartbeats 40000000 in
theorem aD8 (w : World) (B : Nat) (E : Int → Addr) (hE : eG w B E) (g off : Nat) (ao : Option Addr) (cv no co d : Nat) (xs : List Int) (l : List aA) (kind qty dv sq : Int) (item : ByteArray) (hx : Ints w B (some ⟨g, off, none⟩) 4 xs) (h : bP w B ao no l) (hB : B ≤ w.heap.size) (bW : 4 ≤ cv) (cB : bM ao no co) (hc : aE xs l = true) (hd : d < 4) (hi : item.size ≤ 1048576) (aIB : eB kind item qty dv sq = true) :
  Calls Tryz.prog 42 #[.agg #[.slice (some ⟨g, off, none⟩) 4 cv, .slice ao no co], .int .i64 (d : Int), .agg #[.int .i64 kind, .string item, .int .i64 qty, .int .i64 dv, .int .i64 sq]] w (PfP E (if (jE xs l d kind item qty dv sq).1 = 0 then jE xs l d kind item qty dv sq else ((jE xs l d kind item qty dv sq).1, xs, l)) w) := by
 have hM : no ≤ 160 := by rw [← h.1]; exact eF hc
 have HM : Hid (∀ i, i < no → (l.getD i aA.zero).item.size ≤ 1048576) := fun i hi' => by
  have h2 := (dK (eU hc (i := i) (by rw [h.1]; exact hi'))).2.2.2.2.1
  have e : aC l i = l.getD i aA.zero := rfl; rw [← e]; omega
 obtain ⟨T, qS⟩ : ∃ T, T = jE xs l d kind item qty dv sq := ⟨_, rfl⟩
 have cO := aH1 xs l d kind item qty dv sq
 rw [← qS] at cO ⊢
 obtain ⟨R, hR0⟩ : ∃ R : Int × List Int × List aA, R = (if T.1 = 0 then T else (T.1, xs, l)) := ⟨_, rfl⟩
 rw [← hR0]
 have O3 := aPo qS
 have tY := aPo hR0
 have HCd := aPo cO
 have hT := rJ.mk0 w #[.slice (some ⟨g, off, none⟩) 4 cv, .slice ao no co] #[.int .i64 kind, .string item, .int .i64 qty, .int .i64 dv, .int .i64 sq] #[.slice none 0 0, .slice none 0 0] 27 29 27
 have HV := aPo (hx.below hT.bel hB)
 have HO := aPo (h.below hT.bel hB)
 have HE := aPo (hE.below hT.bel hB)
 have HT := aPo hT
 have gS := aPo cB
 have HC := aPo hc
 have HCM := aPo aIB
 have HK9 := aPo (aIL aIB)
 have jI := aCX hd
 have HDV := aPo jI
 clear hx h hT cB hE hc qS hR0 cO aIB jI
 go_enter Tryz.func42, Tryz.ntmps42
 go_upto_region 1 with fail
 generalize ((w.alloc (.cells #[.slice (some ⟨g, off, none⟩) 4 cv, .slice ao no co] 27)).alloc (.cells #[.int .i64 kind, .string item, .int .i64 qty, .int .i64 dv, .int .i64 sq] 29)).alloc (.cells #[.slice none 0 0, .slice none 0 0] 27) = w0 at HV HO HE HT ⊢
 have jW := HT.out.lt
 obtain ⟨c0, c1⟩ := pair_cells HT.out.fst
 go_wp2_with fail
 refine (iZ w0 B (some ⟨g, off, none⟩) ao 4 cv no co xs l HV.out HO.out (by omega) (by omega) gS.out.1 ⟨by omega, gS.out.2.1⟩).mono ?_
 rintro e w1 ⟨rfl, aG⟩
 rw [HC.out]
 have bC := aPo (HT.out.next aG)
 have jR := aPo (HV.out.below aG (by omega))
 have dD := aPo (HO.out.below aG (by omega))
 have fB := aPo (HE.out.below aG (by omega))
 have eZ := aG.size
 clear aG c0 c1 HT HE HV HO
 obtain ⟨d0, d1, d2, d3, d4⟩ := kN bC.out.snd
 go_wp2_with fail
 refine (vT (d : Int) w1).mono ?_
 rintro e w1' ⟨rfl, rfl⟩
 rw [HDV.out]
 go_wp2_with fail
 refine (aEJ kind item qty dv sq w1).mono ?_
 rintro e w2 ⟨rfl, aM⟩
 rw [HCM.out]
 have aK := aPo (bC.out.next aM)
 have kQ := aPo (jR.out.below aM (by omega))
 have gR := aPo (dD.out.below aM (by omega))
 have dW := aPo (fB.out.below aM (by omega))
 have eC := aM.size
 clear aM d0 d1 d2 d3 d4 bC jR dD fB
 obtain ⟨c0, c1⟩ := pair_cells aK.out.fst
 obtain ⟨d0, d1, d2, d3, d4⟩ := kN aK.out.snd
 go_wp2_with fail
 refine (aIQ w2 B E dW.out g off ao cv no co d xs l kind qty dv sq item kQ.out gR.out (by omega) bW gS.out  HC.out hd hi HK9.out).mono ?_
 intro e w3 gP
 rw [← O3.out] at gP
 have aV := gP.bel
 have bH := aPo (aK.out.next aV)
 have O2 := aPo (kQ.out.below aV (by omega))
 have wD := aPo (gR.out.below aV (by omega))
 have gO := aV.size
 clear aV c0 c1 d0 d1 d2 d3 d4 kQ gR dW aK
 by_cases hz : T.1 = 0
 ·obtain ⟨a, n, c, a', n', c', er, rfl⟩ := gP.form
  have her : er = .nilIface := by
   rcases gP with ⟨h1, _⟩ | ⟨_, va, vc, oa, oc, bY, e1, _⟩
   ·exact absurd hz h1
   ·injection e1 with e1
    injection e1 with e1; have e2 := congrArg (fun x : Array Value => x[1]?) e1
    simpa using e2
  subst her; have C9 := aPo gP; have HRT : Hid (R = T) := by show _ = _; rw [tY.out, if_pos hz]
  clear gP
  go_upto_region 4 with fail
  have aT := (Below.refl w3.heap.size w3).alloc aPq (.cells #[.slice a n c, .slice a' n' c'] 27); have gB := aPo (bH.out.next aT); have G7 := aPo (heap_alloc_new w3 (.cells #[.slice a n c, .slice a' n' c'] 27)); have lF := aPo aT; clear aT bH O2 wD; generalize w3.alloc (.cells #[.slice a n c, .slice a' n' c'] 27) = w4 at gB G7 lF ⊢; have hx4 : w3.heap.size < w4.heap.size := (aPp G7.out).1; obtain ⟨r0, r1⟩ := pair_cells gB.out.res; obtain ⟨fP, fO⟩ := aB gB.out.res; have HX := aPo (gB.out.set2 (.slice a n c) (.slice a' n' c')).1; have bQ := aPo (gB.out.bel.trans ((gB.out.set2 (.slice a n c) (.slice a' n' c')).2.mono (by omega)))
  have HCf : Hid (mX E T w (.returned (.tuple #[.agg #[.slice a n c, .slice a' n' c'], .nilIface])) ((w4.setCell ⟨w.heap.size + 1 + 1, 0, none⟩ (.slice a n c)).setCell ⟨w.heap.size + 1 + 1, 1, none⟩ (.slice a' n' c'))) := by
   rcases C9.out with ⟨h1, _⟩ | ⟨h0, va, vc, oa, oc, bY, e1, h2, h3, h4, h5, h6, h7, _⟩
   ·exact absurd hz h1
   ·have sV : ((w4.setCell ⟨w.heap.size + 1 + 1, 0, none⟩ (.slice a n c)).setCell ⟨w.heap.size + 1 + 1, 1, none⟩ (.slice a' n' c')).heap.size = w4.heap.size := aY _ _ _ _
    exact .inr ⟨h0, va, vc, oa, oc, bY, e1, ((h2.below lF.out h5).kept (fun j q1 q2 => aD _ _ (by omega))).more (by omega) aPq, by rw [sV]; exact (((h3.below lF.out aPq).kept (fun j q1 q2 => aD _ _ (by omega))).more aPq (by omega)), by omega, by omega, h6, h7, bQ.out⟩
  generalize w3.heap.size = nb at gO hx4 G7 lF ⊢; obtain ⟨n0, n1⟩ := pair_cells G7.out; go_wp2
  change bodyPost _ _ _ _ _ ((w4.setCell ⟨w.heap.size + 1 + 1, 0, none⟩ (.slice a n c)).setCell ⟨w.heap.size + 1 + 1, 1, none⟩ (.slice a' n' c'))
  clear n0 n1 r0 r1 fP fO C9; generalize ((w4.setCell ⟨w.heap.size + 1 + 1, 0, none⟩ (.slice a n c)).setCell ⟨w.heap.size + 1 + 1, 1, none⟩ (.slice a' n' c')) = wf at HX bQ HCf ⊢; obtain ⟨q0, q1⟩ := pair_cells HX.out; exact bodyPost_ret (v := .tuple #[.agg #[.slice a n c, .slice a' n' c'], .nilIface]) (by simp [results, Tryz.results42, go_sem, q0, q1]) rfl (PfP.eqr (.inl ⟨hz, HCf.out⟩) HRT.out.symm)
 ·rcases gP with ⟨h1, rfl, _⟩ | ⟨h0, _⟩
  rotate_left
  ·exact absurd h0 hz
  obtain ⟨code, cO⟩ : ∃ code, code = T.1 := ⟨_, rfl⟩; have HRT : Hid (R = (code, xs, l)) := by show _ = _; rw [tY.out, if_neg hz, cO]
  have hc1 : 1 ≤ code ∧ code ≤ 4 := by have := HCd.out; omega
  rw [← cO] at h1 ⊢; have K2 : kM E code = (.iface 226 (.pointer (some (E code)))) := by unfold kM; rw [if_neg h1]
  rw [K2]; have HER := aPo K2; clear cO K2 hz h1; obtain ⟨Z9, hc4⟩ := hc1
  go_upto_region 4 with fail
  have aT := (Below.refl w3.heap.size w3).alloc aPq (.cells #[.slice none 0 0, .slice none 0 0] 27); have gB := aPo (bH.out.next aT); have qI := aPo (O2.out.below aT (by omega))
  have oW := aPo (wD.out.below aT (by omega))
  have F3 := aT.size; clear aT bH O2 wD; generalize w3.alloc (.cells #[.slice none 0 0, .slice none 0 0] 27) = w4 at gB qI oW F3 ⊢; generalize w3.heap.size = nb at gO F3 ⊢; have pP := gB.out.lt; obtain ⟨c0, c1⟩ := pair_cells gB.out.fst
  go_wp2_with fail
  refine (D9 w4 B g off ao 4 cv no co xs l qI.out oW.out (by omega) (by omega) (by omega) (by omega) gS.out.2.2  HM.out).mono ?_
  rintro e w5 ⟨va, vc, oa, oc, bY, rfl, aU, jG, nQ, iN, bA, jJ⟩; have tX := aPo (gB.out.next bA); have hs5 := bA.size; have tZ := aPo aU; have HRw := aPo jG; have iJ := aPo jJ; obtain ⟨XL, yJ⟩ : ∃ XL, XL = xs.length := ⟨_, rfl⟩; obtain ⟨LL, lA⟩ : ∃ LL, LL = l.length := ⟨_, rfl⟩; rw [← yJ] at tZ iJ ⊢; rw [← lA] at HRw ⊢; have HXL := aPo yJ; have HLL := aPo lA; clear bA aU jG jJ c0 c1 gB qI oW yJ lA; have aT := (Below.refl w5.heap.size w5).alloc aPq (.cells #[.slice va XL vc, .slice oa LL oc, (.iface 226 (.pointer (some (E code))))] 70); have HT6 := aPo (tX.out.next aT); have HN6 := aPo (heap_alloc_new w5 (.cells #[.slice va XL vc, .slice oa LL oc, (.iface 226 (.pointer (some (E code))))] 70)); have eN := aPo aT; obtain ⟨w6, hw6⟩ : ∃ w6, w6 = w5.alloc (.cells #[.slice va XL vc, .slice oa LL oc, (.iface 226 (.pointer (some (E code))))] 70) := ⟨_, rfl⟩; rw [← hw6] at HT6 HN6 eN; have hx6 : w5.heap.size < w6.heap.size := (aPp HN6.out).1; obtain ⟨r0, r1⟩ := pair_cells HT6.out.res; obtain ⟨fP, fO⟩ := aB HT6.out.res; have HX := aPo (HT6.out.set2 (.slice none 0 0) (.slice none 0 0)).1; have bQ := aPo (HT6.out.bel.trans ((HT6.out.set2 (.slice none 0 0) (.slice none 0 0)).2.mono (by omega)))
  have sV : ((w6.setCell ⟨w.heap.size + 1 + 1, 0, none⟩ (.slice none 0 0)).setCell ⟨w.heap.size + 1 + 1, 1, none⟩ (.slice none 0 0)).heap.size = w6.heap.size := aY _ _ _ _; have iV : Hid (((w6.setCell ⟨w.heap.size + 1 + 1, 0, none⟩ (.slice none 0 0)).setCell ⟨w.heap.size + 1 + 1, 1, none⟩ (.slice none 0 0)).heap[w5.heap.size]? = some (.cells #[.slice va XL vc, .slice oa LL oc, (.iface 226 (.pointer (some (E code))))] 70 (0, 0))) := (aD _ _ (by have := tX.out.lt; omega)).trans HN6.out
  have vZ : Hid (Own ((w6.setCell ⟨w.heap.size + 1 + 1, 0, none⟩ (.slice none 0 0)).setCell ⟨w.heap.size + 1 + 1, 1, none⟩ (.slice none 0 0)) w4.heap.size bY va XL xs) := (tZ.out.below eN.out iN).kept (fun j q1 q2 => aD _ _ (by omega))
  have sA := aPo (fV (vH (W' := ((w6.setCell ⟨w.heap.size + 1 + 1, 0, none⟩ (.slice none 0 0)).setCell ⟨w.heap.size + 1 + 1, 1, none⟩ (.slice none 0 0))) (rP (B := 0) HRw.out eN.out) (fun k y e hk => aD _ _ (by omega))) aPq)
  have HCf := aPo (gA HRw.out); rw [hw6] at r0 r1 fP fO; have HW6 := aPo hw6; clear aT hw6 tX HT6 HN6 eN; go_wp2
  rw [← HW6.out]
  change bodyPost _ _ _ _ _ ((w6.setCell ⟨w.heap.size + 1 + 1, 0, none⟩ (.slice none 0 0)).setCell ⟨w.heap.size + 1 + 1, 1, none⟩ (.slice none 0 0))
  clear r0 r1 fP fO; generalize ((w6.setCell ⟨w.heap.size + 1 + 1, 0, none⟩ (.slice none 0 0)).setCell ⟨w.heap.size + 1 + 1, 1, none⟩ (.slice none 0 0)) = wf at HX bQ sV iV vZ sA ⊢; have hl5 : w.heap.size ≤ w5.heap.size := by omega
  generalize w5.heap.size = rb at iV iN hs5 hx6 hl5 ⊢; obtain ⟨q0, q1⟩ := pair_cells HX.out; refine bodyPost_ret (v := .tuple #[.agg #[.slice none 0 0, .slice none 0 0], .iface 66 (.pointer (some ⟨rb, 0, none⟩))]) (by simp [results, Tryz.results42, go_sem, q0, q1]) rfl (PfP.eqr (show PfP E (code, xs, l) w _ wf from .inr ⟨Z9, hc4, rb, va, vc, oa, oc, bY, rfl, ?_, hl5, ?_, ?_, by omega, by omega, ?_, ?_, bQ.out⟩) HRT.out.symm)
  ·show wf.heap[rb]? = some (.cells #[.slice va xs.length vc, .slice oa l.length oc, kM E code] _ _)
   rw [← HXL.out, ← HLL.out, HER.out]; exact iV.out
  ·show Own wf w.heap.size bY va xs.length xs
   rw [← HXL.out]; exact vZ.out.more (by omega) aPq
  ·show bB wf bY wf.heap.size oa l.length l
   rw [← HLL.out]; exact sA.out
  ·show bM va xs.length vc
   rw [← HXL.out]; exact iJ.out
  ·show bM oa l.length oc
   rw [← HLL.out]; exact HCf.out
def wK (r : Int × List Int × List aA) (w : World) (e : Ending) (w' : World) : Prop :=
 ∃ va vc oa oc bY, e = .returned (.tuple #[.agg #[.slice va r.2.1.length vc, .slice oa r.2.2.length oc], .int .i64 r.1]) ∧ Own w' w.heap.size bY va r.2.1.length r.2.1 ∧ bB w' bY w'.heap.size oa r.2.2.length r.2.2 ∧ w.heap.size ≤ bY ∧ bY ≤ w'.heap.size ∧ bM va r.2.1.length vc ∧ bM oa r.2.2.length oc ∧ Below w.heap.size w w'
set_option maxHeartbeats 40000000 in
theorem aBp (w : World) (B : Nat) (E : Int → Addr) (hE : eG w B E) (hB : B ≤ w.heap.size) (av ao : Option Addr) (nv cv no co : Nat) (dev kind qty dv sq : Int) (item : ByteArray) (r : Int × List Int × List aA)
  (hP : ∀ w0, Below w.heap.size w w0 → Calls Tryz.prog 42 #[.agg #[.slice av nv cv, .slice ao no co], .int .i64 dev, .agg #[.int .i64 kind, .string item, .int .i64 qty, .int .i64 dv, .int .i64 sq]] w0 (PfP E r w0)) :
  Calls Tryz.prog 17 #[.agg #[.slice av nv cv, .slice ao no co], .int .i64 dev, .agg #[.int .i64 kind, .string item, .int .i64 qty, .int .i64 dv, .int .i64 sq]] w (wK r w) := by
 have hT := rJ.mk0 w #[.slice av nv cv, .slice ao no co] #[.int .i64 kind, .string item, .int .i64 qty, .int .i64 dv, .int .i64 sq] #[.slice none 0 0, .slice none 0 0] 27 29 27
 have HE := aPo (hE.below hT.bel hB)
 have HT := aPo hT
 have HP := aPo hP
 have N6 := hE.low
 clear hT hE hP
 go_enter Tryz.func17, Tryz.ntmps17
 go_upto_region 1 with fail
 generalize ((w.alloc (.cells #[.slice av nv cv, .slice ao no co] 27)).alloc (.cells #[.int .i64 kind, .string item, .int .i64 qty, .int .i64 dv, .int .i64 sq] 29)).alloc (.cells #[.slice none 0 0, .slice none 0 0] 27) = w0 at HE HT ⊢
 have jW := HT.out.lt
 obtain ⟨c0, c1⟩ := pair_cells HT.out.fst
 obtain ⟨d0, d1, d2, d3, d4⟩ := kN HT.out.snd
 go_wp2_with fail
 refine (HP.out w0 HT.out.bel).mono ?_
 rintro e w1 (⟨nP, gP⟩ | ⟨cX, dU, rb, ka, kc, oa, oc, bY, rfl, N1, hrw, aU, aC3, nQ, iN, bW, cB, aG⟩)
 ·rcases gP with ⟨h1, _⟩ | ⟨_, va, vc, oa, oc, bY, rfl, aU, aC3, nQ, iN, bW, cB, aG⟩
  ·exact absurd nP h1
  have bC := aPo (HT.out.next aG); have tZ := aPo aU; have HOp := aPo aC3; have nM := aPo bW; have oM := aPo cB; have oV := aPo nP; have eZ := aG.size; clear aG aU aC3 bW cB nP c0 c1 d0 d1 d2 d3 d4 HT HE HP; obtain ⟨zl, F1⟩ : ∃ zl, zl = r.2.1.length := ⟨_, rfl⟩; obtain ⟨ml, Z7⟩ : ∃ ml, ml = r.2.2.length := ⟨_, rfl⟩; rw [← F1, ← Z7]; have HZL := aPo F1; have HML := aPo Z7; clear F1 Z7
  go_upto_region 2 with fail
  have aT := (Below.refl w1.heap.size w1).alloc aPq (.cells #[.slice va zl vc, .slice oa ml oc] 27); have aK := aPo (bC.out.next aT); have lN := aPo (heap_alloc_new w1 (.cells #[.slice va zl vc, .slice oa ml oc] 27)); have bT := aPo aT; clear aT bC; generalize w1.alloc (.cells #[.slice va zl vc, .slice oa ml oc] 27) = w2 at aK lN bT ⊢; have S2 : w1.heap.size < w2.heap.size := (aPp lN.out).1
  go_upto_region 3 with fail
  have aT := (Below.refl w2.heap.size w2).alloc aPq (.cells #[.pointer none] 66); have bH := aPo (aK.out.next aT); have nU := aPo ((aT.block _ S2).trans lN.out); have dX := aPo (bT.out.trans (aT.mono (Nat.le_of_lt S2))); have gO := aT.size; clear aT aK lN bT; generalize w2.alloc (.cells #[.pointer none] 66) = w3 at bH nU dX gO ⊢
  go_wp2_with fail
  refine (aM0 _ w3).mono ?_
  rintro e w3' ⟨rfl, rfl⟩; generalize w1.heap.size = nb at eZ S2 iN nU dX HOp ⊢; obtain ⟨n0, n1⟩ := pair_cells nU.out; obtain ⟨r0, r1⟩ := pair_cells bH.out.res; obtain ⟨fP, fO⟩ := aB bH.out.res; have HX := aPo (bH.out.set2 (.slice va zl vc) (.slice oa ml oc)).1; have bQ := aPo (bH.out.bel.trans ((bH.out.set2 (.slice va zl vc) (.slice oa ml oc)).2.mono (by omega)))
  have sV : ((w3'.setCell ⟨w.heap.size + 1 + 1, 0, none⟩ (.slice va zl vc)).setCell ⟨w.heap.size + 1 + 1, 1, none⟩ (.slice oa ml oc)).heap.size = w3'.heap.size := aY _ _ _ _; have vZ : Hid (Own ((w3'.setCell ⟨w.heap.size + 1 + 1, 0, none⟩ (.slice va zl vc)).setCell ⟨w.heap.size + 1 + 1, 1, none⟩ (.slice oa ml oc)) w0.heap.size bY va r.2.1.length r.2.1) := (tZ.out.below dX.out iN).kept (fun j q1 q2 => aD _ _ (by omega))
  have sA : Hid (bB ((w3'.setCell ⟨w.heap.size + 1 + 1, 0, none⟩ (.slice va zl vc)).setCell ⟨w.heap.size + 1 + 1, 1, none⟩ (.slice oa ml oc)) bY nb oa r.2.2.length r.2.2) := (HOp.out.below dX.out aPq).kept (fun j q1 q2 => aD _ _ (by omega))
  go_wp2
  change bodyPost _ _ _ _ _ ((w3'.setCell ⟨w.heap.size + 1 + 1, 0, none⟩ (.slice va zl vc)).setCell ⟨w.heap.size + 1 + 1, 1, none⟩ (.slice oa ml oc))
  clear n0 n1 r0 r1 fP fO; generalize ((w3'.setCell ⟨w.heap.size + 1 + 1, 0, none⟩ (.slice va zl vc)).setCell ⟨w.heap.size + 1 + 1, 1, none⟩ (.slice oa ml oc)) = wf at HX bQ sV vZ sA ⊢; obtain ⟨q0, q1⟩ := pair_cells HX.out; exact bodyPost_ret (v := .tuple #[.agg #[.slice va zl vc, .slice oa ml oc], .int .i64 0]) (by simp [results, Tryz.results17, go_sem, q0, q1]) rfl ⟨va, vc, oa, oc, bY, by rw [HZL.out, HML.out, oV.out], vZ.out.more (by omega) aPq, sA.out.more aPq (by omega), by omega, by omega, nM.out, oM.out, bQ.out⟩
 ·have bC := aPo (HT.out.next aG)
  have fB := aPo (HE.out.below aG (by omega))
  have tZ := aPo aU; have HOp := aPo aC3; have nM := aPo bW; have oM := aPo cB; have iV := aPo N1; have eZ := aG.size; have aNz : rb < w1.heap.size := (aPp N1).1; clear aG aU aC3 bW cB N1 c0 c1 d0 d1 d2 d3 d4 HT HE HP; obtain ⟨zl, F1⟩ : ∃ zl, zl = r.2.1.length := ⟨_, rfl⟩; obtain ⟨ml, Z7⟩ : ∃ ml, ml = r.2.2.length := ⟨_, rfl⟩; obtain ⟨code, cO⟩ : ∃ code, code = r.1 := ⟨_, rfl⟩; rw [← F1, ← Z7, ← cO] at iV; rw [← cO] at cX dU; have HZL := aPo F1; have HML := aPo Z7; have HCD := aPo cO; clear F1 Z7 cO
  go_upto_region 2 with fail
  have aT := (Below.refl w1.heap.size w1).alloc aPq (.cells #[.slice none 0 0, .slice none 0 0] 27); have aK := aPo (bC.out.next aT); have dW := aPo (fB.out.below aT (by omega))
  have bT := aPo aT; have eC := aT.size; clear aT bC fB; generalize w1.alloc (.cells #[.slice none 0 0, .slice none 0 0] 27) = w2 at aK dW bT eC ⊢
  go_upto_region 3 with fail
  have aT := (Below.refl w2.heap.size w2).alloc aPq (.cells #[.pointer none] 66); have bH := aPo (aK.out.next aT); have j4 := aPo (dW.out.below aT (by omega))
  have dX := aPo (bT.out.trans (aT.mono eC)); have nU := aPo (heap_alloc_new w2 (.cells #[.pointer none] 66)); have gO := aT.size; clear aT aK dW bT; generalize w2.alloc (.cells #[.pointer none] 66) = w3 at bH j4 dX nU gO ⊢; have hx3 : w2.heap.size < w3.heap.size := (aPp nU.out).1; generalize w2.heap.size = tb at eC gO hx3 nU ⊢
  go_wp2_with fail
  refine (aM1 tb ⟨rb, 0, none⟩ ⟨tb, 0, none⟩ (.pointer none) w3 gO aPq rfl j4.out.typ (aPr nU.out) (aPs nU.out)).mono ?_
  rintro e w4 ⟨rfl, dJ, ht4, lJ⟩; have gB : Hid (rJ w w4 #[.slice av nv cv, .slice ao no co] 27 #[.int .i64 kind, .string item, .int .i64 qty, .int .i64 dv, .int .i64 sq] 29 #[.slice none 0 0, .slice none 0 0] 27) := ⟨(dJ.block _ (by omega)).trans bH.out.fst, (dJ.block _ (by omega)).trans bH.out.snd, (dJ.block _ (by omega)).trans bH.out.res, bH.out.bel.trans (dJ.mono (by omega))⟩
  have wW := aPo (j4.out.below dJ (by omega))
  have lF := aPo (dX.out.trans (dJ.mono eC)); have F3 := dJ.size; have HTC := aPo ht4; have aOd := aPo ((lF.out.block _ aNz).trans iV.out); clear dJ ht4 lJ bH j4 dX nU; obtain ⟨k0, k1, k2⟩ := vK aOd.out; have hS : w4.cell? ⟨tb, 0, none⟩ = some (.pointer (some ⟨rb, 0, none⟩)) ∧ w4.cell? ⟨rb, 0, none⟩ = some (.slice ka zl kc) ∧ w4.cell? ⟨rb, 1, none⟩ = some (.slice oa ml oc) := ⟨HTC.out, k0, k1⟩
  go_wp2_with fail
  refine wp_region_held_drew (S := fun w' => w'.cell? ⟨tb, 0, none⟩ = some (.pointer (some ⟨rb, 0, none⟩)) ∧ w'.cell? ⟨rb, 0, none⟩ = some (.slice ka zl kc) ∧ w'.cell? ⟨rb, 1, none⟩ = some (.slice oa ml oc)) (by kernel_rfl) hS (fun aL => ?_)
  have cS : Hid (Below w4.heap.size w4 w4.drew) := ⟨rfl, rfl, rfl, Nat.le_refl _, fun _ _ => rfl⟩
  have aIt : w4.drew.cell? ⟨rb, 0 + 2, none⟩ = some (kM E code) := k2; generalize w4.drew = z0 at cS aL aIt ⊢; have cR := aPo (gB.out.next cS.out); have HEz := aPo (wW.out.below cS.out (by omega))
  have aMD := aPo (lF.out.trans (cS.out.mono (by omega)))
  have dC := cS.out.size; clear hS k0 k1 k2 gB wW cS; refine tj 0 ?_
  refine tj 1 ?_
  refine tj 2 ?_
  refine tj 3 ?_
  refine tj 4 ?_
  refine tj 5 ?_
  refine rk 6 rfl (fun K hK => ?_)
  go_simp
  go_at_call 44
  refine (aKq z0 B E HEz.out rb 0 code cX dU aIt).mono ?_
  rintro e z1 ⟨rfl, rfl⟩; refine hK.out _ _ aL (fun bS => ?_)
  clear hK K
  (try simp only [Act.put, u1, u2, u3])
  obtain ⟨r0, r1⟩ := pair_cells cR.out.res; obtain ⟨fP, fO⟩ := aB cR.out.res; refine rk 7 rfl (fun K hK => ?_)
  go_simp
  refine hK.out _ _ ⟨(World.cell?_of_block (a := ⟨tb, 0, none⟩) (aD (w := z1) (b := w.heap.size + 1 + 1) (k := tb) (.slice ka zl kc) (.slice oa ml oc) (by omega))).trans aL.1, (World.cell?_of_block (a := ⟨rb, 0, none⟩) (aD (w := z1) (b := w.heap.size + 1 + 1) (k := rb) (.slice ka zl kc) (.slice oa ml oc) (by omega))).trans aL.2.1, (World.cell?_of_block (a := ⟨rb, 1, none⟩) (aD (w := z1) (b := w.heap.size + 1 + 1) (k := rb) (.slice ka zl kc) (.slice oa ml oc) (by omega))).trans aL.2.2⟩ (fun dQ => ?_)
  clear hK K
  (try simp only [Act.put, u1, u2, u3])
  refine tj 8 ?_
  refine wpAnyH_done (by kernel_rfl) ?_ _
  have HX := aPo (cR.out.set2 (.slice ka zl kc) (.slice oa ml oc)).1; have bQ := aPo (cR.out.bel.trans ((cR.out.set2 (.slice ka zl kc) (.slice oa ml oc)).2.mono (by omega)))
  have sV : ((z1.setCell ⟨w.heap.size + 1 + 1, 0, none⟩ (.slice ka zl kc)).setCell ⟨w.heap.size + 1 + 1, 1, none⟩ (.slice oa ml oc)).heap.size = z1.heap.size := aY _ _ _ _; have vZ : Hid (Own ((z1.setCell ⟨w.heap.size + 1 + 1, 0, none⟩ (.slice ka zl kc)).setCell ⟨w.heap.size + 1 + 1, 1, none⟩ (.slice oa ml oc)) w0.heap.size bY ka r.2.1.length r.2.1) := (tZ.out.below aMD.out iN).kept (fun j q1 q2 => aD _ _ (by omega))
  have sA : Hid (bB ((z1.setCell ⟨w.heap.size + 1 + 1, 0, none⟩ (.slice ka zl kc)).setCell ⟨w.heap.size + 1 + 1, 1, none⟩ (.slice oa ml oc)) bY w1.heap.size oa r.2.2.length r.2.2) := (HOp.out.below aMD.out aPq).kept (fun j q1 q2 => aD _ _ (by omega))
  go_wp2
  change bodyPost _ _ _ _ _ ((z1.setCell ⟨w.heap.size + 1 + 1, 0, none⟩ (.slice ka zl kc)).setCell ⟨w.heap.size + 1 + 1, 1, none⟩ (.slice oa ml oc))
  clear r0 r1 fP fO aL bS dQ aIt; generalize ((z1.setCell ⟨w.heap.size + 1 + 1, 0, none⟩ (.slice ka zl kc)).setCell ⟨w.heap.size + 1 + 1, 1, none⟩ (.slice oa ml oc)) = wf at HX bQ sV vZ sA ⊢; obtain ⟨q0, q1⟩ := pair_cells HX.out; exact bodyPost_ret (v := .tuple #[.agg #[.slice ka zl kc, .slice oa ml oc], .int .i64 code]) (by simp [results, Tryz.results17, go_sem, q0, q1]) rfl ⟨ka, kc, oa, oc, bY, by rw [HZL.out, HML.out, HCD.out], vZ.out.more (by omega) aPq, sA.out.more aPq (by omega), by omega, by omega, nM.out, oM.out, bQ.out⟩
theorem aGY (w : World) (B : Nat) (E : Int → Addr) (hE : eG w B E) (g off : Nat) (ao : Option Addr) (cv no co : Nat) (xs : List Int) (l : List aA) (dev kind qty dv sq : Int) (item : ByteArray) (hx : Ints w B (some ⟨g, off, none⟩) 4 xs) (h : bP w B ao no l) (hB : B ≤ w.heap.size) (bW : 4 ≤ cv) (cB : bM ao no co) (hM : no ≤ 1048576) (hi : item.size ≤ 1048576) :
  Calls Tryz.prog 17 #[.agg #[.slice (some ⟨g, off, none⟩) 4 cv, .slice ao no co], .int .i64 dev, .agg #[.int .i64 kind, .string item, .int .i64 qty, .int .i64 dv, .int .i64 sq]] w (wK (dI xs l dev kind item qty dv sq) w) := by
 have aIv : Fits no co := ⟨hM, cB.2.1⟩
 by_cases hok : aE xs l = true ∧ cV dev 0 3 = true ∧ eB kind item qty dv sq = true
 ·obtain ⟨hc, jI, F7⟩ := hok
  have hd : 0 ≤ dev ∧ dev ≤ 3 := by unfold cV at jI; exact of_decide_eq_true jI
  obtain ⟨d, rfl⟩ : ∃ d : Nat, dev = (d : Int) := ⟨dev.toNat, by omega⟩
  have e : dI xs l (d : Int) kind item qty dv sq = (if (jE xs l d kind item qty dv sq).1 = 0 then jE xs l d kind item qty dv sq else ((jE xs l d kind item qty dv sq).1, xs, l)) := by
   unfold dI; rw [if_pos ⟨hc, jI, F7⟩]
   rfl
  rw [e]; exact aBp w B E hE hB _ _ _ _ _ _ _ _ _ _ _ _ _ (fun w0 hb => aD8 w0 B E (hE.below hb hB) g off ao cv no co d xs l kind qty dv sq item (hx.below hb hB) (h.below hb hB) (Nat.le_trans hB hb.size) bW cB hc (by omega) hi F7)
 ·have e : dI xs l dev kind item qty dv sq = (1, [], []) := by
   unfold dI; rw [if_neg hok]
  rw [e]; exact aBp w B E hE hB _ _ _ _ _ _ _ _ _ _ _ _ _ (fun w0 hb => M3 w0 B E (hE.below hb hB) _ ao 4 cv no co xs l dev kind qty dv sq item (hx.below hb hB) (h.below hb hB) (Nat.le_trans hB hb.size) (by omega) cB.1 aIv (by
   cases h1 : aE xs l
   ·exact .inl rfl
   ·cases h2 : cV dev 0 3
    ·exact .inr (.inl ⟨rfl, rfl⟩)
    ·refine .inr (.inr ⟨rfl, rfl, ?_⟩)
     cases h3 : eB kind item qty dv sq
     ·rfl
     ·exact absurd ⟨h1, h2, h3⟩ hok))
theorem aCY (w : World) (B : Nat) (E : Int → Addr) (hE : eG w B E) (av ao : Option Addr) (nv cv no co : Nat) (xs : List Int) (l : List aA) (dev kind qty dv sq : Int) (item : ByteArray) (hx : Ints w B av nv xs) (h : bP w B ao no l) (hB : B ≤ w.heap.size) (hv : nv ≤ 1048576) (hc : no ≤ co) (dP : Fits no co) (aFp : aE xs l = false) :
  Calls Tryz.prog 17 #[.agg #[.slice av nv cv, .slice ao no co], .int .i64 dev, .agg #[.int .i64 kind, .string item, .int .i64 qty, .int .i64 dv, .int .i64 sq]] w (wK (1, [], []) w) :=
 aBp w B E hE hB _ _ _ _ _ _ _ _ _ _ _ _ _ (fun w0 hb => M3 w0 B E (hE.below hb hB) av ao nv cv no co xs l dev kind qty dv sq item (hx.below hb hB) (h.below hb hB) (Nat.le_trans hB hb.size) hv hc dP (.inl aFp))
end Go.Proofs.YthkagbnpcjidfaaGreatDoor
