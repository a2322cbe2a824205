/- Walks and mathematics that several claims share, part 41. -/
import Derived.Test.YthkagbnpcjidfaaGreatDoorGp37
import Derived.Test.YthkagbnpcjidfaaGreatDoorGp40
import Derived.Deep.Cut
import Derived.Deep.RegionHeld
import Derived.Lib.Hide
namespace Go.Proofs.YthkagbnpcjidfaaGreatDoor
set_option maxRecDepth 100000
open Go.RowKit
set_option linter.unusedVariables false
set_option linter.unusedSimpArgs false
theorem eA.up {w : World} {B B' : Nat} {E : Int → Addr} (h : eA w B E) (hB : B ≤ B') : eA w B' E :=
 ⟨Nat.le_trans h.low hB, h.cells, fun c h1 h2 => by obtain ⟨a, r⟩ := h.lies c h1 h2; exact ⟨by omega, r⟩, h.ne, h.typ⟩
theorem aET {xs : List Int} {l : List aA} (hc : aD xs l = true) : (gE (gH xs l)).map (·.item) = (bU l l.length).filter fun s => !bW l s := by
 unfold gH oJ gE
 rw [if_pos hc, List.filter_map, List.map_map]
 have e : ((fun x : bO => x.item) ∘ iX l) = id := rfl
 rw [e, List.map_id]
 rfl
theorem aBV {d : Nat} {eW : List ByteArray} {k : Nat} {zs : List Int} {m : List aA} (hk : k < eW.length) : rN d (eW.drop k) zs m = if (dW zs m d 3 (eW.getD k ⟨#[]⟩) 0).1 = 0 then rN d (eW.drop (k + 1)) (dW zs m d 3 (eW.getD k ⟨#[]⟩) 0).2.1 (dW zs m d 3 (eW.getD k ⟨#[]⟩) 0).2.2 else ((dW zs m d 3 (eW.getD k ⟨#[]⟩) 0).1, [], []) := by
 rw [List.drop_eq_getElem_cons hk, List.getD_eq_getElem?_getD, List.getElem?_eq_getElem hk]
 rfl
theorem aHx {xs : List Int} {l : List aA} {d : Nat} {kind : Int} {item : ByteArray} {qty : Int} (h0 : (dW xs l d kind item qty).1 = 0) : 0 < (dW xs l d kind item qty).2.2.length := by
 unfold dW at h0 ⊢
 dsimp only at h0 ⊢
 split at h0
 ·rename_i h1
  rw [if_pos h1]
  split at h0
  ·rename_i h2
   rw [if_pos h2]
   show 0 < (bN l d _).length
   rw [rL]; omega
  ·cases h0
 ·rename_i h1
  exact absurd h0 h1
structure X3 (wz : World) (rb d : Nat) (T : Int × List Int × List aA) (eW : List ByteArray) (k : Nat) (zs : List Int) (m : List aA) (vg vo vc : Nat) (oa : Option Addr) (n oc : Nat) (wr : World) : Prop where
 bel : Below rb wz wr
 rest : wr.heap[rb]? = some (.cells #[.slice (some ⟨vg, vo, none⟩) 4 vc, .slice oa n oc] 27 (0, 0))
 ints : Ints wr wr.heap.size (some ⟨vg, vo, none⟩) 4 zs
 ops : bK wr wr.heap.size oa n m
 capv : 4 ≤ vc
 capo : bQ oa n oc
 cart : aD zs m = true
 tot : rN d (eW.drop k) zs m = T
 own : 0 < k → ∃ cQ, Own wr (rb + 1) cQ (some ⟨vg, vo, none⟩) 4 zs ∧ bB wr cQ wr.heap.size oa n m ∧ rb + 1 ≤ cQ ∧ cQ ≤ wr.heap.size ∧ bQ (some ⟨vg, vo, none⟩) 4 vc
theorem X3.next {wz : World} {rb d : Nat} {T : Int × List Int × List aA} {eW : List ByteArray} {k : Nat} {zs : List Int} {m : List aA} {vg vo vc : Nat} {oa : Option Addr} {n oc : Nat} {wr w2 : World} (h : X3 wz rb d T eW k zs m vg vo vc oa n oc wr) (hz : rb ≤ wz.heap.size) (hb : Below wr.heap.size wr w2) : X3 wz rb d T eW k zs m vg vo vc oa n oc w2 :=
 ⟨h.bel.trans (hb.mono (Nat.le_trans hz h.bel.size)), (hb.block _ (aPv h.rest).1).trans h.rest, (h.ints.below hb aPw).more hb.size, (h.ops.below hb aPw).more hb.size, h.capv, h.capo, h.cart, h.tot, fun hk => by
  obtain ⟨cQ, h1, h2, h3, h4, h5⟩ := h.own hk; exact ⟨cQ, h1.below hb h4, (h2.below hb aPw).more aPw hb.size, h3, Nat.le_trans h4 hb.size, h5⟩⟩
theorem X3.step {wz : World} {rb d : Nat} {T : Int × List Int × List aA} {eW : List ByteArray} {k : Nat} {zs : List Int} {m : List aA} {vg vo vc : Nat} {oa : Option Addr} {n oc : Nat} {wr w1 w2 w3 : World} (h : X3 wz rb d T eW k zs m vg vo vc oa n oc wr) (hz : rb ≤ wz.heap.size) (hd : d < 4) (hk : k < eW.length) {s : ByteArray} (hs : eW.getD k ⟨#[]⟩ = s) (aE : Below wr.heap.size wr w1) (h0 : (dW zs m d 3 s 0).1 = 0)
  {va : Option Addr} {zP : Nat} {yF : Option Addr} {A0 cQ : Nat} (h2 : Own w2 w1.heap.size cQ va (dW zs m d 3 s 0).2.1.length (dW zs m d 3 s 0).2.1) (h3 : bB w2 cQ w2.heap.size yF (dW zs m d 3 s 0).2.2.length (dW zs m d 3 s 0).2.2) (h4 : w1.heap.size ≤ cQ) (h5 : cQ ≤ w2.heap.size) (h6 : bQ va (dW zs m d 3 s 0).2.1.length zP) (h7 : bQ yF (dW zs m d 3 s 0).2.2.length A0) (h8 : Below w1.heap.size w1 w2) (h9 : Below w2.heap.size w2 w3) :
  ∃ D8, va = some ⟨D8, 0, none⟩ ∧ (dW zs m d 3 s 0).2.1.length = 4 ∧ X3 wz rb d T eW (k + 1) (dW zs m d 3 s 0).2.1 (dW zs m d 3 s 0).2.2 D8 0 zP yF (dW zs m d 3 s 0).2.2.length A0 ((w3.setCell ⟨rb, 0, none⟩ (.slice (some ⟨D8, 0, none⟩) 4 zP)).setCell ⟨rb, 1, none⟩ (.slice yF (dW zs m d 3 s 0).2.2.length A0)) := by
 have aLA := P9 h.cart hd h0
 have hpos := aHx h0
 have aLh := h.tot
 rw [aBV hk, hs, if_pos h0] at aLh
 generalize dW zs m d 3 s 0 = r at *
 obtain ⟨pM, _⟩ := eP aLA
 rw [pM] at h2 h6
 obtain ⟨D8, aV, A2, _⟩ := h2.2 (by omega)
 subst A2
 have hrb : rb < wr.heap.size := (aPv h.rest).1
 have dZ := aE.size
 have dS := h8.size
 have hU := h9.size
 have e3 : w3.heap[rb]? = some (.cells #[.slice (some ⟨vg, vo, none⟩) 4 vc, .slice oa n oc] 27 (0, 0)) := (h9.block _ (by omega)).trans ((h8.block _ (by omega)).trans ((aE.block _ hrb).trans h.rest))
 have pX : ∀ j, j ≠ rb → ((w3.setCell ⟨rb, 0, none⟩ (.slice (some ⟨D8, 0, none⟩) 4 zP)).setCell ⟨rb, 1, none⟩ (.slice yF r.2.2.length A0)).heap[j]? = w3.heap[j]? := fun j hj => aF _ _ hj
 have cP := aZ w3 rb (.slice (some ⟨D8, 0, none⟩) 4 zP) (.slice yF r.2.2.length A0)
 have o2 : Own ((w3.setCell ⟨rb, 0, none⟩ (.slice (some ⟨D8, 0, none⟩) 4 zP)).setCell ⟨rb, 1, none⟩ (.slice yF r.2.2.length A0)) (rb + 1) cQ (some ⟨D8, 0, none⟩) 4 r.2.1 := ((h2.below h9 h5).kept (fun j a b => pX j (by omega))).more (by omega) aPw
 have o3 := (h3.below h9 aPw).kept (w' := (w3.setCell ⟨rb, 0, none⟩ (.slice (some ⟨D8, 0, none⟩) 4 zP)).setCell ⟨rb, 1, none⟩ (.slice yF r.2.2.length A0)) (fun j a b => pX j (by omega))
 refine ⟨D8, rfl, pM, ⟨?_, cF _ _ e3, ?_, ?_, h6.1, h7, aLA, aLh, fun _ => ⟨cQ, o2, ?_, by omega, by omega, h6⟩⟩⟩
 ·have hbw : Below rb wz w3 := h.bel.trans (((aE.mono (by omega)).trans (h8.mono (by omega))).trans (h9.mono (by omega)))
  exact (hbw.setCell (p := ⟨rb, 0, none⟩) aPw _).setCell (p := ⟨rb, 1, none⟩) aPw _
 ·exact o2.ints.more (by omega)
 ·rw [cP]
  exact o3.ops.more (by omega)
 ·rw [cP]
  exact o3.more aPw (by omega)
set_option maxHeartbeats 40000000 in
theorem aID (w : World) (B : Nat) (E : Int → Addr) (hE : eA w B E) (g off : Nat) (ao : Option Addr) (cv no co d : Nat) (xs : List Int) (l : List aA) (hx : Ints w B (some ⟨g, off, none⟩) 4 xs) (h : bK w B ao no l) (hB : B ≤ w.heap.size) (bX : 4 ≤ cv) (cD : bQ ao no co) (hc : aD xs l = true) (hd : d < 4) :
  Calls Tryz.prog 107 #[.agg #[.slice (some ⟨g, off, none⟩) 4 cv, .slice ao no co], .int .i64 (d : Int)] w (mO E (qI xs l d) w) := by
 have iP : no ≤ 160 := by rw [← h.1]; exact eL hc
 have HM : Hid (∀ o ∈ l, o.item.size ≤ 1048576) := fun o ho => by
  obtain ⟨i, hi, rfl⟩ := List.getElem_of_mem ho; have h2 := (dG (eT hc hi)).2.2.2.2.1; have e : aB l i = l[i] := by unfold aB; rw [List.getD_eq_getElem?_getD, List.getElem?_eq_getElem hi]; rfl
  rw [e] at h2; omega
 obtain ⟨T, qU⟩ : ∃ T, T = qI xs l d := ⟨_, rfl⟩
 rw [← qU]
 obtain ⟨eW, hnm⟩ : ∃ eW, eW = (bU l l.length).filter fun s => !bW l s := ⟨_, rfl⟩
 have HTN : Hid (eW = [] → T = (2, [], [])) := fun e => by rw [qU, r8 hc hd, ← hnm, if_pos e]
 have HTY : Hid (eW ≠ [] → T = rN d eW xs l) := fun e => by rw [qU, r8 hc hd, ← hnm, if_neg e]
 have HNI : Hid (∀ s ∈ eW, s.size ≤ 1048576) := fun s hs => by
  rw [hnm] at hs; have dS := (List.mem_filter.1 hs).1; have := aCy (c := 8) (fun i hi => (dG (eT hc hi)).2.2.2.2.1) aPw dS
  omega
 have HFN : Hid ((gE (gH xs l)).map (·.item) = eW) := (aET hc).trans hnm.symm
 have aFE : Hid ((gH xs l).length ≤ 1048576) := by
  have e : gH xs l = (bU l l.length).map (iX l) := by unfold gH oJ; rw [if_pos hc]
  have h3 := C5 l l.length; have h4 := eL hc
  show _ ≤ _
  rw [e, List.length_map]; omega
 have hT := qZ.mk0 w #[.slice (some ⟨g, off, none⟩) 4 cv, .slice ao no co] #[.slice none 0 0, .slice none 0 0] 27
 have HV := aPu (hx.below hT.bel hB)
 have HO := aPu (h.below hT.bel hB)
 have HE := aPu (hE.below hT.bel hB)
 have HT := aPu hT
 have gY := aPu cD
 have HC := aPu hc
 have M7 := hE.low
 clear hx h hT cD hE hc qU hnm
 go_enter Tryz.func107, Tryz.ntmps107
 go_upto_region 1 with fail
 generalize (w.alloc (.cells #[.slice (some ⟨g, off, none⟩) 4 cv, .slice ao no co] 27)).alloc (.cells #[.slice none 0 0, .slice none 0 0] 27) = w0 at HV HO HE HT ⊢
 have lQ := aCg HT.out
 obtain ⟨c0, c1⟩ := pair_cells HT.out.fst
 go_wp2_with fail
 refine (aEZ w0 B (some ⟨g, off, none⟩) ao 4 cv no co xs l HV.out HO.out (by omega) (by omega) gY.out.1 ⟨by omega, gY.out.2.1⟩ HM.out).mono ?_
 rintro e w1 ⟨la, lc, rfl, jL, aE⟩
 have aDu := aPu jL
 have cX := aPu aE
 clear jL aE c0 c1
 generalize gH xs l = LN at HFN aFE aDu ⊢
 go_wp2_with fail
 refine (aD1 w1 w0.heap.size la LN.length lc LN aDu.out cX.out.size aFE.out).mono ?_
 rintro e w2 ⟨fa, fc, rfl, hF, hfc, aG⟩
 have aA1 : Below w0.heap.size w0 w2 := cX.out.trans aG
 have aJ := aPu (HT.out.next aA1)
 have jW := aPu (HV.out.below aA1 (by omega))
 have fZ := aPu (HO.out.below aA1 (by omega))
 have dP := aPu (HE.out.below aA1 (by omega))
 have dS := aA1.size
 have HF2 := aPu hF
 have hFl : (gE LN).length ≤ 1048576 := Nat.le_trans (List.length_filter_le _ _) aFE.out
 clear hF aG aA1 cX aDu HT HV HO HE aFE
 generalize gE LN = F at HFN HF2 hfc hFl ⊢
 obtain ⟨c0, c1⟩ := pair_cells aJ.out.fst
 by_cases hf0 : F.length = 0
 ·have hfe : F = [] := List.eq_nil_of_length_eq_zero hf0
  have G2 : Hid (T = (2, [], [])) := HTN.out (by rw [← HFN.out, hfe]; rfl)
  rw [hf0]; have g2 := aJz dP.out
  go_wp2_with fail
  refine wp_region_held_drew (S := fun w' => w'.cell? ⟨2, 0, none⟩ = some (.iface 226 (.pointer (some (E 2))))) (by kernel_rfl) g2 (fun aP => ?_)
  have cU : Hid (Below w2.heap.size w2 w2.drew) := ⟨rfl, rfl, rfl, Nat.le_refl _, fun _ _ => rfl⟩
  generalize w2.drew = z0 at cU aP ⊢; have cR := aPu (aJ.out.next cU.out); obtain ⟨r0, r1⟩ := pair_cells cR.out.snd; obtain ⟨fO, fN⟩ := aC cR.out.snd; refine tj 0 ?_
  refine tj 1 ?_
  refine rk 2 rfl (fun K hK => ?_)
  go_simp
  refine hK.out _ _ ((World.cell?_of_block (a := ⟨2, 0, none⟩) (aF (w := z0) (b := w.heap.size + 1) (k := 2) (.slice none 0 0) (.slice none 0 0) (by omega))).trans aP) (fun bG => ?_)
  clear hK K
  (try simp only [Act.put, u1, u2, u3])
  refine tj 3 ?_
  refine wpAnyH_done (by kernel_rfl) ?_ _
  have HX := aPu (lY cR.out (.slice none 0 0) (.slice none 0 0)).1; have bT := aPu (cR.out.bel.trans ((lY cR.out (.slice none 0 0) (.slice none 0 0)).2.mono (by omega)))
  go_wp2
  change bodyPost _ _ _ _ _ ((z0.setCell ⟨w.heap.size + 1, 0, none⟩ (.slice none 0 0)).setCell ⟨w.heap.size + 1, 1, none⟩ (.slice none 0 0))
  clear r0 r1 fO fN aP bG; generalize ((z0.setCell ⟨w.heap.size + 1, 0, none⟩ (.slice none 0 0)).setCell ⟨w.heap.size + 1, 1, none⟩ (.slice none 0 0)) = wf at HX bT ⊢; obtain ⟨q0, q1⟩ := pair_cells HX.out; exact bodyPost_ret (v := .tuple #[.agg #[.slice none 0 0, .slice none 0 0], (.iface 226 (.pointer (some (E 2))))]) (by simp [results, Tryz.results107, go_sem, q0, q1]) rfl ((show mO E (2, [], []) w _ wf from .inl ⟨by decide, by rw [F7], bT.out⟩).eqr G2.out.symm)
 have bJ : eW ≠ [] := fun e => hf0 (by rw [← HFN.out] at e; have := congrArg List.length e; simpa using this)
 have G2 : Hid (rN d eW xs l = T) := (HTY.out bJ).symm
 have hnl : eW.length = F.length := by rw [← HFN.out, List.length_map]
 have hfz : ((F.length : Int) == 0) = false := beq_eq_false_iff_ne.2 (by omega)
 have hfy : ¬ ((F.length : Int) = 0) := by omega
 clear HTN HTY bJ
 go_upto_region 5 with fail
 have aW := (Below.refl w2.heap.size w2).alloc aPw (.cells #[.slice (some ⟨g, off, none⟩) 4 cv, .slice ao no co] 27)
 have cR := aPu (aJ.out.next aW)
 have HFz := aPu (HF2.out.below aW aPw)
 have HEz := aPu (dP.out.below aW (by omega))
 have cP := aW.size
 have HN := aPu (heap_alloc_new w2 (.cells #[.slice (some ⟨g, off, none⟩) 4 cv, .slice ao no co] 27))
 have HVz := aPu (jW.out.below aW (by omega))
 have HOz := aPu (fZ.out.below aW (by omega))
 clear aW c0 c1 aJ HF2 dP jW fZ
 generalize w2.alloc (.cells #[.slice (some ⟨g, off, none⟩) 4 cv, .slice ao no co] 27) = wz at cR HFz HEz cP HN HVz HOz ⊢
 generalize w2.heap.size = rb at dS cP HFz HN ⊢
 have hrb : rb < wz.heap.size := (aPv HN.out).1
 have HI0 : Hid (X3 wz rb d T eW 0 xs l g off cv ao no co wz) := ⟨Below.refl _ _, HN.out, HVz.out.more (by omega), HOz.out.more (by omega), bX, gY.out, HC.out, G2.out, fun h => absurd h (by omega)⟩
 clear HN HVz HOz
 go_wp2
 go_loopw [23] (fun i wr => ∃ (k : Nat) (zs : List Int) (m : List aA) (vg vo vc : Nat) (oa : Option Addr) (n oc : Nat), k ≤ F.length ∧ i = .int .i64 (k : Int) ∧ Hid (X3 wz rb d T eW k zs m vg vo vc oa n oc wr)) (fun i _ => F.length - (intOf i).toNat)
 case atStart => exact ⟨0, xs, l, g, off, cv, ao, no, co, Nat.zero_le _, rfl, HI0⟩
 case round =>
  obtain ⟨k, zs, m, vg, vo, vc, oa, n, oc, hk, rfl, HI⟩ := hrel; clear HI0; have hwr := HI.out.bel.size; obtain ⟨x0, x1⟩ := pair_cells HI.out.rest
  by_cases aK : k < F.length
  rotate_left
  ·obtain rfl : k = F.length := by omega
   have hki : ¬ ((F.length : Int) < (F.length : Int)) := by omega
   have nJ : Hid (qZ w wr #[.slice (some ⟨g, off, none⟩) 4 cv, .slice ao no co] #[.slice none 0 0, .slice none 0 0] 27) := ⟨(HI.out.bel.block _ (by omega)).trans cR.out.fst, (HI.out.bel.block _ (by omega)).trans cR.out.snd, cR.out.bel.trans (HI.out.bel.mono (by omega))⟩
   have N8 : Hid (T = (0, zs, m)) := by
    have := HI.out.tot; rw [List.drop_eq_nil_of_le (by omega)] at this
    exact this.symm
   obtain ⟨r0, r1⟩ := pair_cells nJ.out.snd; obtain ⟨fO, fN⟩ := aC nJ.out.snd; have A7 := lY nJ.out (.slice (some ⟨vg, vo, none⟩) 4 vc) (.slice oa n oc); have HX := aPu A7.1; have bT : Hid (Below w.heap.size w ((wr.setCell ⟨w.heap.size + 1, 0, none⟩ (.slice (some ⟨vg, vo, none⟩) 4 vc)).setCell ⟨w.heap.size + 1, 1, none⟩ (.slice oa n oc))) := nJ.out.bel.trans (A7.2.mono (by omega))
   obtain ⟨cQ, h1, h2, h3, h4, h5⟩ := HI.out.own (by omega)
   have pM := (eP HI.out.cart).1; have M6 : m.length = n := h2.1; have vU : Hid (Own ((wr.setCell ⟨w.heap.size + 1, 0, none⟩ (.slice (some ⟨vg, vo, none⟩) 4 vc)).setCell ⟨w.heap.size + 1, 1, none⟩ (.slice oa n oc)) (rb + 1) cQ (some ⟨vg, vo, none⟩) 4 zs) := h1.kept (fun j a b => aF _ _ (by omega))
   have sG : Hid (bB ((wr.setCell ⟨w.heap.size + 1, 0, none⟩ (.slice (some ⟨vg, vo, none⟩) 4 vc)).setCell ⟨w.heap.size + 1, 1, none⟩ (.slice oa n oc)) cQ wr.heap.size oa n m) := h2.kept (fun j a b => aF _ _ (by omega))
   have tC : ((wr.setCell ⟨w.heap.size + 1, 0, none⟩ (.slice (some ⟨vg, vo, none⟩) 4 vc)).setCell ⟨w.heap.size + 1, 1, none⟩ (.slice oa n oc)).heap.size = wr.heap.size := aZ _ _ _ _; have HC5 := aPu h5; have HC6 := aPu HI.out.capo; have HL4 := aPu pM; have HML := aPu M6; clear A7 h1 h2 h5 pM M6; go_wp2
   change bodyPost _ _ _ _ _ ((wr.setCell ⟨w.heap.size + 1, 0, none⟩ (.slice (some ⟨vg, vo, none⟩) 4 vc)).setCell ⟨w.heap.size + 1, 1, none⟩ (.slice oa n oc))
   clear x0 x1 r0 r1 fO fN; generalize ((wr.setCell ⟨w.heap.size + 1, 0, none⟩ (.slice (some ⟨vg, vo, none⟩) 4 vc)).setCell ⟨w.heap.size + 1, 1, none⟩ (.slice oa n oc)) = wf at HX bT vU sG tC ⊢; obtain ⟨q0, q1⟩ := pair_cells HX.out; refine bodyPost_ret (v := .tuple #[.agg #[.slice (some ⟨vg, vo, none⟩) 4 vc, .slice oa n oc], .nilIface]) (by simp [results, Tryz.results107, go_sem, q0, q1]) rfl (mO.eqr (show mO E (0, zs, m) w _ wf from .inr ⟨rfl, some ⟨vg, vo, none⟩, vc, oa, oc, cQ, ?_, ?_, ?_, by omega, by omega, ?_, ?_, bT.out⟩) N8.out.symm)
   ·show _ = Ending.returned (.tuple #[.agg #[.slice _ zs.length _, .slice _ m.length _], _])
    rw [HL4.out, HML.out]
   ·show Own wf w.heap.size cQ _ zs.length zs
    rw [HL4.out]; exact vU.out.more (by omega) aPw
   ·show bB wf cQ wf.heap.size _ m.length m
    rw [HML.out, tC]; exact sG.out
   ·show bQ _ zs.length vc
    rw [HL4.out]; exact HC5.out
   ·show bQ _ m.length oc
    rw [HML.out]; exact HC6.out
  have hki : (k : Int) < (F.length : Int) := by omega
  obtain ⟨lb, lo, rfl, hlb, hlc⟩ := (HFz.out.below HI.out.bel aPw).2 k aK; obtain ⟨l0, l1, l2⟩ := hlc; have HXN : Hid (eW.getD k ⟨#[]⟩ = (F.getD k bO.zero).item) := by
   show _ = _
   rw [← HFN.out, List.getD_eq_getElem?_getD, List.getElem?_map, List.getD_eq_getElem?_getD, List.getElem?_eq_getElem aK]
   rfl
  have hxi : (F.getD k bO.zero).item.size ≤ 1048576 := by
   rw [← HXN.out]; exact HNI.out _ (by rw [List.getD_eq_getElem?_getD, List.getElem?_eq_getElem (by omega)]; exact List.getElem_mem _)
  generalize F.getD k bO.zero = x at l0 l1 l2 HXN hxi
  go_upto_region 8 with fail
  have aW := (Below.refl wr.heap.size wr).alloc aPw (.cells #[.string x.item, .int .i64 x.qty, .bool x.saved] 39); have dU := aPu (HI.out.next (by omega) aW)
  have cX := aPu aW; have B9 := aPu (heap_alloc_new wr (.cells #[.string x.item, .int .i64 x.qty, .bool x.saved] 39)); clear aW l0 l1 l2 x0 x1; generalize wr.alloc (.cells #[.string x.item, .int .i64 x.qty, .bool x.saved] 39) = w1 at dU cX B9 ⊢; have hx1 : wr.heap.size < w1.heap.size := (aPv B9.out).1; have eZ := aPu ((HEz.out.below dU.out.bel (by omega)).up (B' := w1.heap.size) (by omega))
  obtain ⟨x0, x1⟩ := pair_cells dU.out.rest; obtain ⟨d0, d1, d2⟩ := vH B9.out
  go_wp2_with fail
  refine (xU w1 w1.heap.size E eZ.out vg vo oa vc n oc d zs m 3 0 0 0 x.item dU.out.ints dU.out.ops aPw dU.out.capv dU.out.capo dU.out.cart hd hxi).mono ?_
  intro e w2 gW
  have aG := gW.bel; have sL := aPu (dU.out.next (by omega) aG)
  have aCZ := aG.size; clear x0 x1 d0 d1 d2 B9 eZ; rcases gW with ⟨h1, rfl, _⟩ | ⟨h1, va, zP, yF, A0, cQ, rfl, h2, h3, h4, h5, h6, h7, h8⟩
  ·have N8 : Hid (T = ((dW zs m d 3 x.item 0).1, [], [])) := by
    have := HI.out.tot; rw [aBV (by omega), HXN.out, if_neg h1] at this
    exact this.symm
   obtain ⟨code, cJ⟩ : ∃ code, code = (dW zs m d 3 x.item 0).1 := ⟨_, rfl⟩; rw [← cJ] at h1 N8 ⊢; have J4 : kJ E code = .iface 226 (.pointer (some (E code))) := by unfold kJ; rw [if_neg h1]
   rw [J4]; have HER := aPu J4; clear cJ J4 aG dU HI cX
   go_upto_region 9 with fail
   have aW := (Below.refl w2.heap.size w2).alloc aPw (.cells #[.slice none 0 0, .slice none 0 0] 27); have tV := aPu (sL.out.next (by omega) aW)
   clear aW sL; generalize w2.alloc (.cells #[.slice none 0 0, .slice none 0 0] 27) = w3 at tV ⊢; generalize w2.heap.size = nb at aCZ ⊢; have nJ : Hid (qZ w w3 #[.slice (some ⟨g, off, none⟩) 4 cv, .slice ao no co] #[.slice none 0 0, .slice none 0 0] 27) := ⟨(tV.out.bel.block _ (by omega)).trans cR.out.fst, (tV.out.bel.block _ (by omega)).trans cR.out.snd, cR.out.bel.trans (tV.out.bel.mono (by omega))⟩
   obtain ⟨r0, r1⟩ := pair_cells nJ.out.snd; obtain ⟨fO, fN⟩ := aC nJ.out.snd; have HX := aPu (lY nJ.out (.slice none 0 0) (.slice none 0 0)).1; have bT := aPu (nJ.out.bel.trans ((lY nJ.out (.slice none 0 0) (.slice none 0 0)).2.mono (by omega)))
   go_wp2
   change bodyPost _ _ _ _ _ ((w3.setCell ⟨w.heap.size + 1, 0, none⟩ (.slice none 0 0)).setCell ⟨w.heap.size + 1, 1, none⟩ (.slice none 0 0))
   clear r0 r1 fO fN; generalize ((w3.setCell ⟨w.heap.size + 1, 0, none⟩ (.slice none 0 0)).setCell ⟨w.heap.size + 1, 1, none⟩ (.slice none 0 0)) = wf at HX bT ⊢; obtain ⟨q0, q1⟩ := pair_cells HX.out; exact bodyPost_ret (v := .tuple #[.agg #[.slice none 0 0, .slice none 0 0], (.iface 226 (.pointer (some (E code))))]) (by simp [results, Tryz.results107, go_sem, q0, q1]) rfl ((show mO E (code, [], []) w _ wf from .inl ⟨h1, by rw [← HER.out], bT.out⟩).eqr N8.out.symm)
  ·obtain ⟨R, hR⟩ : ∃ R, R = dW zs m d 3 x.item 0 := ⟨_, rfl⟩
   have eB := fun w3 h9 => HI.out.step (w3 := w3) (by omega) hd (by omega) HXN.out cX.out h1 h2 h3 h4 h5 h6 h7 h8 h9
   rw [← hR] at eB ⊢; have HST := aPu eB; clear eB h1 h2 h3 h4 h5 h6 h7 h8 hR aG dU HI cX
   go_upto_region 9 with fail
   have aW := (Below.refl w2.heap.size w2).alloc aPw (.cells #[.slice va R.2.1.length zP, .slice yF R.2.2.length A0] 27); have tV := aPu (sL.out.next (by omega) aW)
   have HS3 := aPu (HST.out _ aW); have nX := aPu (heap_alloc_new w2 (.cells #[.slice va R.2.1.length zP, .slice yF R.2.2.length A0] 27)); clear aW sL HST; generalize w2.alloc (.cells #[.slice va R.2.1.length zP, .slice yF R.2.2.length A0] 27) = w3 at tV HS3 nX ⊢; obtain ⟨D8, rfl, pM, eB⟩ := HS3.out; have HST := aPu eB; rw [pM] at nX ⊢; clear HS3 pM eB; have hx3 : w2.heap.size < w3.heap.size := (aPv nX.out).1; generalize w2.heap.size = nb at aCZ nX hx3 ⊢; obtain ⟨x0, x1⟩ := pair_cells tV.out.rest; obtain ⟨zO, zN⟩ := aC tV.out.rest; obtain ⟨n0, n1⟩ := pair_cells nX.out
   go_upto_region 12 with fail
   generalize (w3.setCell ⟨rb, 0, none⟩ (.slice (some ⟨D8, 0, none⟩) 4 zP)).setCell ⟨rb, 1, none⟩ (.slice yF R.2.2.length A0) = w4 at HST ⊢; clear x0 x1 zO zN n0 n1 tV nX; go_wp2
   go_roundw
   case rel => exact ⟨k + 1, R.2.1, R.2.2, D8, 0, zP, yF, R.2.2.length, A0, by omega, by go_num, HST⟩
   case measure => simp [intOf]; omega
theorem aCS {d : Nat} (hd : d < 4) : cO (d : Int) 0 3 = true := uP (by omega) (by omega)
theorem aFL {xs : List Int} {l : List aA} {d : Nat} (hc : aD xs l = true) (hd : d < 4) : oW xs l (d : Int) = bV (d : Int) l l.length := by
 unfold oW
 rw [if_pos ⟨hc, aCS hd⟩]
theorem aF7 {xs : List Int} {l : List aA} {d : Nat} (hc : aD xs l = true) (hd : d < 4) : rG xs l (d : Int) = jH xs d l := by
 unfold rG
 rw [if_pos ⟨hc, aCS hd⟩]
 rfl
set_option maxHeartbeats 40000000 in
theorem aIE (w : World) (B : Nat) (E : Int → Addr) (hE : eA w B E) (g off : Nat) (ao : Option Addr) (cv no co d : Nat) (xs : List Int) (l : List aA) (kind qty dv sq : Int) (item : ByteArray) (hx : Ints w B (some ⟨g, off, none⟩) 4 xs) (h : bK w B ao no l) (hB : B ≤ w.heap.size) (bX : 4 ≤ cv) (cD : bQ ao no co) (hc : aD xs l = true) (hd : d < 4) (hi : item.size ≤ 1048576) (hk9 : kind = 9 → 0 ≤ dv ∧ dv ≤ 3) :
  Calls Tryz.prog 78 #[.agg #[.slice (some ⟨g, off, none⟩) 4 cv, .slice ao no co], .int .i64 (d : Int), .agg #[.int .i64 kind, .string item, .int .i64 qty, .int .i64 dv, .int .i64 sq]] w (mO E (jJ xs l d kind item qty dv sq) w) := by
 have iP : no ≤ 160 := by rw [← h.1]; exact eL hc
 obtain ⟨T, qU⟩ : ∃ T, T = jJ xs l d kind item qty dv sq := ⟨_, rfl⟩
 rw [← qU]
 have N8 := aPu qU
 have hT := rO.mk0 w #[.slice (some ⟨g, off, none⟩) 4 cv, .slice ao no co] #[.int .i64 kind, .string item, .int .i64 qty, .int .i64 dv, .int .i64 sq] #[.slice none 0 0, .slice none 0 0] 27 29 27
 have HV := aPu (hx.below hT.bel hB)
 have HO := aPu (h.below hT.bel hB)
 have HE := aPu (hE.below hT.bel hB)
 have HT := aPu hT
 have gY := aPu cD
 have HC := aPu hc
 have HU := aPu (aFL hc hd)
 have V3 := aPu (aF7 hc hd)
 have HK9 := aPu hk9
 clear hx h hT cD hE hc qU hk9
 go_enter Tryz.func78, Tryz.ntmps78
 go_upto_region 1 with fail
 generalize ((w.alloc (.cells #[.slice (some ⟨g, off, none⟩) 4 cv, .slice ao no co] 27)).alloc (.cells #[.int .i64 kind, .string item, .int .i64 qty, .int .i64 dv, .int .i64 sq] 29)).alloc (.cells #[.slice none 0 0, .slice none 0 0] 27) = w0 at HV HO HE HT ⊢
 have lQ := HT.out.lt
 obtain ⟨c0, c1⟩ := pair_cells HT.out.fst
 obtain ⟨d0, d1, d2, d3, d4⟩ := kK HT.out.snd
 by_cases k6 : kind = 6
 ·subst k6
  go_wp2_with fail
  refine (aID w0 B E HE.out g off ao cv no co d xs l HV.out HO.out (by omega) bX gY.out  HC.out hd).mono ?_
  intro e w3 gW
  obtain ⟨a, n, c, a', n', c', er, rfl⟩ := gW.form; have C1 := aPu gW; have aR := gW.bel; have bD := aPu (HT.out.next aR); have hU := aR.size; clear gW aR c0 c1 d0 d1 d2 d3 d4; obtain ⟨r0, r1⟩ := pair_cells bD.out.res; obtain ⟨fO, fN⟩ := aC bD.out.res; have HX := aPu (bD.out.set2 (.slice a n c) (.slice a' n' c')).1; have bT := aPu (bD.out.bel.trans ((bD.out.set2 (.slice a n c) (.slice a' n' c')).2.mono (by omega)))
  have pL := aZ w3 (w.heap.size + 1 + 1) (.slice a n c) (.slice a' n' c'); have vX : Hid (∀ j, w0.heap.size ≤ j → ((w3.setCell ⟨w.heap.size + 1 + 1, 0, none⟩ (.slice a n c)).setCell ⟨w.heap.size + 1 + 1, 1, none⟩ (.slice a' n' c')).heap[j]? = w3.heap[j]?) := fun j hj => aF _ _ (by omega)
  go_wp2
  change bodyPost _ _ _ _ _ ((w3.setCell ⟨w.heap.size + 1 + 1, 0, none⟩ (.slice a n c)).setCell ⟨w.heap.size + 1 + 1, 1, none⟩ (.slice a' n' c'))
  clear r0 r1 fO fN; generalize ((w3.setCell ⟨w.heap.size + 1 + 1, 0, none⟩ (.slice a n c)).setCell ⟨w.heap.size + 1 + 1, 1, none⟩ (.slice a' n' c')) = wf at HX bT vX pL ⊢; obtain ⟨q0, q1⟩ := pair_cells HX.out; exact bodyPost_ret (v := .tuple #[.agg #[.slice a n c, .slice a' n' c'], er]) (by simp [results, Tryz.results78, go_sem, q0, q1]) rfl ((C1.out.up (by omega) vX.out pL bT.out).eqr (by rw [N8.out]; unfold jJ; rw [if_pos rfl]))
 have k6b : (kind == 6) = false := beq_eq_false_iff_ne.2 k6
 by_cases k7 : kind = 7
 ·subst k7
  go_wp2_with fail
  refine (aCT w0 B (some ⟨g, off, none⟩) ao 4 cv no co xs l (d : Int) HV.out HO.out (by omega) (by omega) gY.out.1 ⟨by omega, gY.out.2.1⟩).mono ?_
  rintro e w1 ⟨rfl, aE⟩; rw [HU.out]; have aT := aPu (HT.out.next aE); have iA := aPu (HV.out.below aE (by omega))
  have cI := aPu (HO.out.below aE (by omega))
  have eZ := aPu (HE.out.below aE (by omega))
  have dZ := aE.size; clear aE c0 c1 d0 d1 d2 d3 d4 HT HV HO HE; obtain ⟨tg, qS⟩ : ∃ tg, tg = bV (d : Int) l l.length := ⟨_, rfl⟩; rw [← qS]; have G2 := aPu qS; clear qS; obtain ⟨c0, c1⟩ := pair_cells aT.out.fst; obtain ⟨d0, d1, d2, d3, d4⟩ := kK aT.out.snd
  go_wp2_with fail
  refine (sP w1 B E eZ.out g off ao cv no co d xs l tg iA.out cI.out (by omega) bX gY.out  HC.out hd).mono ?_
  intro e w3 gW
  obtain ⟨a, n, c, a', n', c', er, rfl⟩ := gW.form; have C1 := aPu gW; have aR := gW.bel; have bD := aPu (aT.out.next aR); have hU := aR.size; clear gW aR c0 c1 d0 d1 d2 d3 d4; obtain ⟨r0, r1⟩ := pair_cells bD.out.res; obtain ⟨fO, fN⟩ := aC bD.out.res; have HX := aPu (bD.out.set2 (.slice a n c) (.slice a' n' c')).1; have bT := aPu (bD.out.bel.trans ((bD.out.set2 (.slice a n c) (.slice a' n' c')).2.mono (by omega)))
  have pL := aZ w3 (w.heap.size + 1 + 1) (.slice a n c) (.slice a' n' c'); have vX : Hid (∀ j, w1.heap.size ≤ j → ((w3.setCell ⟨w.heap.size + 1 + 1, 0, none⟩ (.slice a n c)).setCell ⟨w.heap.size + 1 + 1, 1, none⟩ (.slice a' n' c')).heap[j]? = w3.heap[j]?) := fun j hj => aF _ _ (by omega)
  go_wp2
  change bodyPost _ _ _ _ _ ((w3.setCell ⟨w.heap.size + 1 + 1, 0, none⟩ (.slice a n c)).setCell ⟨w.heap.size + 1 + 1, 1, none⟩ (.slice a' n' c'))
  clear r0 r1 fO fN; generalize ((w3.setCell ⟨w.heap.size + 1 + 1, 0, none⟩ (.slice a n c)).setCell ⟨w.heap.size + 1 + 1, 1, none⟩ (.slice a' n' c')) = wf at HX bT vX pL ⊢; obtain ⟨q0, q1⟩ := pair_cells HX.out; exact bodyPost_ret (v := .tuple #[.agg #[.slice a n c, .slice a' n' c'], er]) (by simp [results, Tryz.results78, go_sem, q0, q1]) rfl ((C1.out.up (by omega) vX.out pL bT.out).eqr (by rw [N8.out]; unfold jJ; rw [if_neg (by decide)]; rw [if_pos rfl, G2.out]))
 have k7b : (kind == 7) = false := beq_eq_false_iff_ne.2 k7
 by_cases k8 : kind = 8
 ·subst k8
  go_wp2_with fail
  refine (aH3 w0 B (some ⟨g, off, none⟩) ao 4 cv no co xs l (d : Int) HV.out HO.out (by omega) (by omega) gY.out.1 ⟨by omega, gY.out.2.1⟩).mono ?_
  rintro e w1 ⟨rfl, aE⟩; rw [V3.out]; have aT := aPu (HT.out.next aE); have iA := aPu (HV.out.below aE (by omega))
  have cI := aPu (HO.out.below aE (by omega))
  have eZ := aPu (HE.out.below aE (by omega))
  have dZ := aE.size; clear aE c0 c1 d0 d1 d2 d3 d4 HT HV HO HE; obtain ⟨tg, qS⟩ : ∃ tg, tg = jH xs d l := ⟨_, rfl⟩; rw [← qS]; have G2 := aPu qS; clear qS; obtain ⟨c0, c1⟩ := pair_cells aT.out.fst; obtain ⟨d0, d1, d2, d3, d4⟩ := kK aT.out.snd
  go_wp2_with fail
  refine (sP w1 B E eZ.out g off ao cv no co d xs l tg iA.out cI.out (by omega) bX gY.out  HC.out hd).mono ?_
  intro e w3 gW
  obtain ⟨a, n, c, a', n', c', er, rfl⟩ := gW.form; have C1 := aPu gW; have aR := gW.bel; have bD := aPu (aT.out.next aR); have hU := aR.size; clear gW aR c0 c1 d0 d1 d2 d3 d4; obtain ⟨r0, r1⟩ := pair_cells bD.out.res; obtain ⟨fO, fN⟩ := aC bD.out.res; have HX := aPu (bD.out.set2 (.slice a n c) (.slice a' n' c')).1; have bT := aPu (bD.out.bel.trans ((bD.out.set2 (.slice a n c) (.slice a' n' c')).2.mono (by omega)))
  have pL := aZ w3 (w.heap.size + 1 + 1) (.slice a n c) (.slice a' n' c'); have vX : Hid (∀ j, w1.heap.size ≤ j → ((w3.setCell ⟨w.heap.size + 1 + 1, 0, none⟩ (.slice a n c)).setCell ⟨w.heap.size + 1 + 1, 1, none⟩ (.slice a' n' c')).heap[j]? = w3.heap[j]?) := fun j hj => aF _ _ (by omega)
  go_wp2
  change bodyPost _ _ _ _ _ ((w3.setCell ⟨w.heap.size + 1 + 1, 0, none⟩ (.slice a n c)).setCell ⟨w.heap.size + 1 + 1, 1, none⟩ (.slice a' n' c'))
  clear r0 r1 fO fN; generalize ((w3.setCell ⟨w.heap.size + 1 + 1, 0, none⟩ (.slice a n c)).setCell ⟨w.heap.size + 1 + 1, 1, none⟩ (.slice a' n' c')) = wf at HX bT vX pL ⊢; obtain ⟨q0, q1⟩ := pair_cells HX.out; exact bodyPost_ret (v := .tuple #[.agg #[.slice a n c, .slice a' n' c'], er]) (by simp [results, Tryz.results78, go_sem, q0, q1]) rfl ((C1.out.up (by omega) vX.out pL bT.out).eqr (by rw [N8.out]; unfold jJ; rw [if_neg (by decide)]; rw [if_neg (by decide)]; rw [if_pos rfl, G2.out]))
 have k8b : (kind == 8) = false := beq_eq_false_iff_ne.2 k8
 by_cases k9 : kind = 9
 ·subst k9
  obtain ⟨hv0, hv1⟩ := HK9.out rfl; obtain ⟨dd, rfl⟩ : ∃ dd : Nat, dv = (dd : Int) := ⟨dv.toNat, by omega⟩
  have hdd : dd < 4 := by omega
  go_wp2_with fail
  refine (sP w0 B E HE.out g off ao cv no co dd xs l sq HV.out HO.out (by omega) bX gY.out  HC.out hdd).mono ?_
  intro e w3 gW
  obtain ⟨a, n, c, a', n', c', er, rfl⟩ := gW.form; have C1 := aPu gW; have aR := gW.bel; have bD := aPu (HT.out.next aR); have hU := aR.size; clear gW aR c0 c1 d0 d1 d2 d3 d4; obtain ⟨r0, r1⟩ := pair_cells bD.out.res; obtain ⟨fO, fN⟩ := aC bD.out.res; have HX := aPu (bD.out.set2 (.slice a n c) (.slice a' n' c')).1; have bT := aPu (bD.out.bel.trans ((bD.out.set2 (.slice a n c) (.slice a' n' c')).2.mono (by omega)))
  have pL := aZ w3 (w.heap.size + 1 + 1) (.slice a n c) (.slice a' n' c'); have vX : Hid (∀ j, w0.heap.size ≤ j → ((w3.setCell ⟨w.heap.size + 1 + 1, 0, none⟩ (.slice a n c)).setCell ⟨w.heap.size + 1 + 1, 1, none⟩ (.slice a' n' c')).heap[j]? = w3.heap[j]?) := fun j hj => aF _ _ (by omega)
  go_wp2
  change bodyPost _ _ _ _ _ ((w3.setCell ⟨w.heap.size + 1 + 1, 0, none⟩ (.slice a n c)).setCell ⟨w.heap.size + 1 + 1, 1, none⟩ (.slice a' n' c'))
  clear r0 r1 fO fN; generalize ((w3.setCell ⟨w.heap.size + 1 + 1, 0, none⟩ (.slice a n c)).setCell ⟨w.heap.size + 1 + 1, 1, none⟩ (.slice a' n' c')) = wf at HX bT vX pL ⊢; obtain ⟨q0, q1⟩ := pair_cells HX.out; exact bodyPost_ret (v := .tuple #[.agg #[.slice a n c, .slice a' n' c'], er]) (by simp [results, Tryz.results78, go_sem, q0, q1]) rfl ((C1.out.up (by omega) vX.out pL bT.out).eqr (by rw [N8.out]; unfold jJ; rw [if_neg (by decide), if_neg (by decide), if_neg (by decide), if_pos rfl]))
 have k9b : (kind == 9) = false := beq_eq_false_iff_ne.2 k9
 go_wp2_with fail
 refine (xU w0 B E HE.out g off ao cv no co d xs l kind qty dv sq item HV.out HO.out (by omega) bX gY.out  HC.out hd hi).mono ?_
 intro e w3 gW
 obtain ⟨a, n, c, a', n', c', er, rfl⟩ := gW.form
 have C1 := aPu gW
 have aR := gW.bel
 have bD := aPu (HT.out.next aR)
 have hU := aR.size
 clear gW aR c0 c1 d0 d1 d2 d3 d4
 obtain ⟨r0, r1⟩ := pair_cells bD.out.res
 obtain ⟨fO, fN⟩ := aC bD.out.res
 have HX := aPu (bD.out.set2 (.slice a n c) (.slice a' n' c')).1
 have bT := aPu (bD.out.bel.trans ((bD.out.set2 (.slice a n c) (.slice a' n' c')).2.mono (by omega)))
 have pL := aZ w3 (w.heap.size + 1 + 1) (.slice a n c) (.slice a' n' c')
 have vX : Hid (∀ j, w0.heap.size ≤ j → ((w3.setCell ⟨w.heap.size + 1 + 1, 0, none⟩ (.slice a n c)).setCell ⟨w.heap.size + 1 + 1, 1, none⟩ (.slice a' n' c')).heap[j]? = w3.heap[j]?) := fun j hj => aF _ _ (by omega)
 go_wp2
 change bodyPost _ _ _ _ _ ((w3.setCell ⟨w.heap.size + 1 + 1, 0, none⟩ (.slice a n c)).setCell ⟨w.heap.size + 1 + 1, 1, none⟩ (.slice a' n' c'))
 clear r0 r1 fO fN
 generalize ((w3.setCell ⟨w.heap.size + 1 + 1, 0, none⟩ (.slice a n c)).setCell ⟨w.heap.size + 1 + 1, 1, none⟩ (.slice a' n' c')) = wf at HX bT vX pL ⊢
 obtain ⟨q0, q1⟩ := pair_cells HX.out
 exact bodyPost_ret (v := .tuple #[.agg #[.slice a n c, .slice a' n' c'], er]) (by simp [results, Tryz.results78, go_sem, q0, q1]) rfl ((C1.out.up (by omega) vX.out pL bT.out).eqr (by rw [N8.out]; unfold jJ; rw [if_neg k6, if_neg k7, if_neg k8, if_neg k9]))
def PfP (E : Int → Addr) (r : Int × List Int × List aA) (w : World) (e : Ending) (w' : World) : Prop :=
 (r.1 = 0 ∧ mO E r w e w') ∨ (1 ≤ r.1 ∧ r.1 ≤ 4 ∧ ∃ rb ka kc oa oc cQ, e = .returned (.tuple #[.agg #[.slice none 0 0, .slice none 0 0], .iface 66 (.pointer (some ⟨rb, 0, none⟩))]) ∧ w'.heap[rb]? = some (.cells #[.slice ka r.2.1.length kc, .slice oa r.2.2.length oc, kJ E r.1] 70 (0, 0)) ∧ w.heap.size ≤ rb ∧ Own w' w.heap.size cQ ka r.2.1.length r.2.1 ∧ bB w' cQ w'.heap.size oa r.2.2.length r.2.2 ∧ w.heap.size ≤ cQ ∧ cQ ≤ w'.heap.size ∧ bQ ka r.2.1.length kc ∧ bQ oa r.2.2.length oc ∧ Below w.heap.size w w')
theorem PfP.eqr {E : Int → Addr} {r r' : Int × List Int × List aA} {w w' : World} {e : Ending} (h : PfP E r w e w') (e1 : r = r') : PfP E r' w e w' := e1 ▸ h
theorem F8 (E : Int → Addr) : kJ E 1 = .iface 226 (.pointer (some (E 1))) := by unfold kJ; rw [if_neg (by decide)]
theorem aFd {w : World} {B : Nat} {E : Int → Addr} (h : eA w B E) : w.cell? ⟨0, 0, none⟩ = some (.iface 226 (.pointer (some (E 1)))) := h.cells 1 (by omega) (by omega)
set_option maxHeartbeats 40000000 in
theorem L9 (w : World) (B : Nat) (E : Int → Addr) (hE : eA w B E) (av ao : Option Addr) (nv cv no co : Nat) (xs : List Int) (l : List aA) (dev kind qty dv sq : Int) (item : ByteArray) (hx : Ints w B av nv xs) (h : bK w B ao no l) (hB : B ≤ w.heap.size) (hv : nv ≤ 1048576) (hc : no ≤ co) (cM : Fits no co) (p8 : aD xs l = false ∨ (aD xs l = true ∧ cO dev 0 3 = false) ∨ (aD xs l = true ∧ cO dev 0 3 = true ∧ fW kind item qty dv sq = false)) :
  Calls Tryz.prog 42 #[.agg #[.slice av nv cv, .slice ao no co], .int .i64 dev, .agg #[.int .i64 kind, .string item, .int .i64 qty, .int .i64 dv, .int .i64 sq]] w (PfP E (1, [], []) w) := by
 have hT := rO.mk0 w #[.slice av nv cv, .slice ao no co] #[.int .i64 kind, .string item, .int .i64 qty, .int .i64 dv, .int .i64 sq] #[.slice none 0 0, .slice none 0 0] 27 29 27
 have HV := aPu (hx.below hT.bel hB)
 have HO := aPu (h.below hT.bel hB)
 have HE := aPu (hE.below hT.bel hB)
 have HT := aPu hT
 have aJg := aPu p8
 have M7 := hE.low
 clear hx h hT hE p8
 go_enter Tryz.func42, Tryz.ntmps42
 go_upto_region 1 with fail
 generalize ((w.alloc (.cells #[.slice av nv cv, .slice ao no co] 27)).alloc (.cells #[.int .i64 kind, .string item, .int .i64 qty, .int .i64 dv, .int .i64 sq] 29)).alloc (.cells #[.slice none 0 0, .slice none 0 0] 27) = w0 at HV HO HE HT ⊢
 have lQ := HT.out.lt
 obtain ⟨c0, c1⟩ := pair_cells HT.out.fst
 obtain ⟨d0, d1, d2, d3, d4⟩ := kK HT.out.snd
 go_wp2_with fail
 refine (iM w0 B av ao nv cv no co xs l HV.out HO.out (by omega) hv hc cM).mono ?_
 rintro e w1 ⟨rfl, aE⟩
 have aT := aPu (HT.out.next aE)
 have eZ := aPu (HE.out.below aE (by omega))
 have dZ := aE.size
 clear aE c0 c1 d0 d1 d2 d3 d4 HT HE HV HO
 obtain ⟨d0, d1, d2, d3, d4⟩ := kK aT.out.snd
 rcases aJg.out with hq | ⟨hq, wN⟩ | ⟨hq, wN, hq3⟩
 ·rw [hq]
  have g1 := aFd eZ.out
  go_wp2_with fail
  refine wp_region_held_drew (S := fun w' => w'.cell? ⟨0, 0, none⟩ = some (.iface 226 (.pointer (some (E 1))))) (by kernel_rfl) g1 (fun aP => ?_)
  have cU : Hid (Below w1.heap.size w1 w1.drew) := ⟨rfl, rfl, rfl, Nat.le_refl _, fun _ _ => rfl⟩
  generalize w1.drew = z0 at cU aP ⊢; have cR := aPu (aT.out.next cU.out); have cP := cU.out.size; have hlz := cR.out.lt; have gX := cR.out.bel.size; refine tj 0 ?_
  refine tj 1 ?_
  refine tj 2 ?_
  refine wpAnyH_ready (rs := [3, 5]) (by kernel_rfl) (by simp) ?_
  refine AllReadyH.cons rfl (fun K hK => ?_) (AllReadyH.cons rfl (fun K hK => ?_) AllReadyH.nil)
  ·
   have iS : Below z0.heap.size z0 (z0.alloc (.cells #[.slice none 0 0, .slice none 0 0, (.iface 226 (.pointer (some (E 1))))] 70)) := bl; have lS : (z0.alloc (.cells #[.slice none 0 0, .slice none 0 0, (.iface 226 (.pointer (some (E 1))))] 70)).cell? ⟨0, 0, none⟩ = some (.iface 226 (.pointer (some (E 1)))) := (iS.cell (p := ⟨0, 0, none⟩) (by show 0 < _; omega)).trans aP
   have nS := heap_alloc_new z0 (.cells #[.slice none 0 0, .slice none 0 0, (.iface 226 (.pointer (some (E 1))))] 70)
   go_simp
   refine hK.out _ _ lS (fun _ => ?_)
   clear hK K
   (try simp only [Act.put, u1, u2, u3])
   have nK := aPu (cR.out.next iS); generalize (z0.alloc (.cells #[.slice none 0 0, .slice none 0 0, (.iface 226 (.pointer (some (E 1))))] 70)) = za at iS lS nS nK ⊢; have hla : z0.heap.size < za.heap.size := (aPv nS).1; generalize z0.heap.size = rb at hla iS nS hlz cP gX ⊢; obtain ⟨r0, r1⟩ := pair_cells nK.out.res; obtain ⟨fO, fN⟩ := aC nK.out.res; refine tj 4 ?_
   refine rk 5 rfl (fun K hK => ?_)
   go_simp
   refine hK.out _ _ ((World.cell?_of_block (a := ⟨0, 0, none⟩) (aF (w := za) (b := w.heap.size + 1 + 1) (k := 0) (.slice none 0 0) (.slice none 0 0) (by omega))).trans lS) (fun bG => ?_)
   clear hK K
   (try simp only [Act.put, u1, u2, u3])
   refine tj 6 ?_
   refine wpAnyH_done (by kernel_rfl) ?_ _
   have HX := aPu (nK.out.set2 (.slice none 0 0) (.slice none 0 0)).1; have bT := aPu (nK.out.bel.trans ((nK.out.set2 (.slice none 0 0) (.slice none 0 0)).2.mono (by omega)))
   have lA : Hid (((za.setCell ⟨w.heap.size + 1 + 1, 0, none⟩ (.slice none 0 0)).setCell ⟨w.heap.size + 1 + 1, 1, none⟩ (.slice none 0 0)).heap[rb]? = some (.cells #[.slice none 0 0, .slice none 0 0, (.iface 226 (.pointer (some (E 1))))] 70 (0, 0))) := (aF _ _ (by omega)).trans nS
   clear r0 r1 fO fN nS iS; generalize ((za.setCell ⟨w.heap.size + 1 + 1, 0, none⟩ (.slice none 0 0)).setCell ⟨w.heap.size + 1 + 1, 1, none⟩ (.slice none 0 0)) = wf at HX bT lA ⊢; go_wp2
   obtain ⟨q0, q1⟩ := pair_cells HX.out; exact bodyPost_ret (v := .tuple #[.agg #[.slice none 0 0, .slice none 0 0], .iface 66 (.pointer (some ⟨rb, 0, none⟩))]) (by simp [results, Tryz.results42, go_sem, q0, q1]) rfl (.inr ⟨by decide, by decide, rb, none, 0, none, 0, wf.heap.size, rfl, by rw [F8]; exact lA.out, by omega, oF _ _ _ _, dV _ _ _ _, bT.out.size, Nat.le_refl _, cN, cN, bT.out⟩)
  ·
   obtain ⟨r0, r1⟩ := pair_cells cR.out.res; obtain ⟨fO, fN⟩ := aC cR.out.res; have lS : ((z0.setCell ⟨w.heap.size + 1 + 1, 0, none⟩ (.slice none 0 0)).setCell ⟨w.heap.size + 1 + 1, 1, none⟩ (.slice none 0 0)).cell? ⟨0, 0, none⟩ = some (.iface 226 (.pointer (some (E 1)))) := (World.cell?_of_block (a := ⟨0, 0, none⟩) (aF (w := z0) (b := w.heap.size + 1 + 1) (k := 0) (.slice none 0 0) (.slice none 0 0) (by omega))).trans aP
   have hX := (cR.out.set2 (.slice none 0 0) (.slice none 0 0)).1; have T4 := cR.out.bel.trans ((cR.out.set2 (.slice none 0 0) (.slice none 0 0)).2.mono (by omega))
   have S1 : ((z0.setCell ⟨w.heap.size + 1 + 1, 0, none⟩ (.slice none 0 0)).setCell ⟨w.heap.size + 1 + 1, 1, none⟩ (.slice none 0 0)).heap.size = z0.heap.size := aZ _ _ _ _
   go_simp
   refine hK.out _ _ lS (fun _ => ?_)
   clear hK K r0 r1 fO fN
   (try simp only [Act.put, u1, u2, u3])
   generalize ((z0.setCell ⟨w.heap.size + 1 + 1, 0, none⟩ (.slice none 0 0)).setCell ⟨w.heap.size + 1 + 1, 1, none⟩ (.slice none 0 0)) = za at lS hX T4 S1 ⊢; refine rk 3 rfl (fun K hK => ?_)
   have iS : Below za.heap.size za (za.alloc (.cells #[.slice none 0 0, .slice none 0 0, (.iface 226 (.pointer (some (E 1))))] 70)) := bl; have T3 : (za.alloc (.cells #[.slice none 0 0, .slice none 0 0, (.iface 226 (.pointer (some (E 1))))] 70)).cell? ⟨0, 0, none⟩ = some (.iface 226 (.pointer (some (E 1)))) := (iS.cell (p := ⟨0, 0, none⟩) (by show 0 < _; omega)).trans lS
   have nS := heap_alloc_new za (.cells #[.slice none 0 0, .slice none 0 0, (.iface 226 (.pointer (some (E 1))))] 70)
   go_simp
   refine hK.out _ _ T3 (fun _ => ?_)
   clear hK K
   (try simp only [Act.put, u1, u2, u3])
   have HX := aPu ((iS.block _ (by omega)).trans hX)
   have bT := aPu (T4.trans (iS.mono (by omega)))
   have lA := aPu nS; generalize za.alloc (.cells #[.slice none 0 0, .slice none 0 0, (.iface 226 (.pointer (some (E 1))))] 70) = wf at T3 HX bT lA ⊢; clear nS iS hX T4; generalize za.heap.size = rb at lA S1 ⊢; refine tj 4 ?_
   refine tj 6 ?_
   refine wpAnyH_done (by kernel_rfl) ?_ _
   go_wp2
   obtain ⟨q0, q1⟩ := pair_cells HX.out; exact bodyPost_ret (v := .tuple #[.agg #[.slice none 0 0, .slice none 0 0], .iface 66 (.pointer (some ⟨rb, 0, none⟩))]) (by simp [results, Tryz.results42, go_sem, q0, q1]) rfl (.inr ⟨by decide, by decide, rb, none, 0, none, 0, wf.heap.size, rfl, by rw [F8]; exact lA.out, by omega, oF _ _ _ _, dV _ _ _ _, bT.out.size, Nat.le_refl _, cN, cN, bT.out⟩)
 ·rw [hq]
  go_wp2_with fail
  refine (vO dev w1).mono ?_
  rintro e w1' ⟨rfl, rfl⟩; rw [wN]; have g1 := aFd eZ.out
  go_wp2_with fail
  refine wp_region_held_drew (S := fun w' => w'.cell? ⟨0, 0, none⟩ = some (.iface 226 (.pointer (some (E 1))))) (by kernel_rfl) g1 (fun aP => ?_)
  have cU : Hid (Below w1.heap.size w1 w1.drew) := ⟨rfl, rfl, rfl, Nat.le_refl _, fun _ _ => rfl⟩
  generalize w1.drew = z0 at cU aP ⊢; have cR := aPu (aT.out.next cU.out); have cP := cU.out.size; have hlz := cR.out.lt; have gX := cR.out.bel.size; refine tj 0 ?_
  refine tj 1 ?_
  refine tj 2 ?_
  refine wpAnyH_ready (rs := [3, 5]) (by kernel_rfl) (by simp) ?_
  refine AllReadyH.cons rfl (fun K hK => ?_) (AllReadyH.cons rfl (fun K hK => ?_) AllReadyH.nil)
  ·
   have iS : Below z0.heap.size z0 (z0.alloc (.cells #[.slice none 0 0, .slice none 0 0, (.iface 226 (.pointer (some (E 1))))] 70)) := bl; have lS : (z0.alloc (.cells #[.slice none 0 0, .slice none 0 0, (.iface 226 (.pointer (some (E 1))))] 70)).cell? ⟨0, 0, none⟩ = some (.iface 226 (.pointer (some (E 1)))) := (iS.cell (p := ⟨0, 0, none⟩) (by show 0 < _; omega)).trans aP
   have nS := heap_alloc_new z0 (.cells #[.slice none 0 0, .slice none 0 0, (.iface 226 (.pointer (some (E 1))))] 70)
   go_simp
   refine hK.out _ _ lS (fun _ => ?_)
   clear hK K
   (try simp only [Act.put, u1, u2, u3])
   have nK := aPu (cR.out.next iS); generalize (z0.alloc (.cells #[.slice none 0 0, .slice none 0 0, (.iface 226 (.pointer (some (E 1))))] 70)) = za at iS lS nS nK ⊢; have hla : z0.heap.size < za.heap.size := (aPv nS).1; generalize z0.heap.size = rb at hla iS nS hlz cP gX ⊢; obtain ⟨r0, r1⟩ := pair_cells nK.out.res; obtain ⟨fO, fN⟩ := aC nK.out.res; refine tj 4 ?_
   refine rk 5 rfl (fun K hK => ?_)
   go_simp
   refine hK.out _ _ ((World.cell?_of_block (a := ⟨0, 0, none⟩) (aF (w := za) (b := w.heap.size + 1 + 1) (k := 0) (.slice none 0 0) (.slice none 0 0) (by omega))).trans lS) (fun bG => ?_)
   clear hK K
   (try simp only [Act.put, u1, u2, u3])
   refine tj 6 ?_
   refine wpAnyH_done (by kernel_rfl) ?_ _
   have HX := aPu (nK.out.set2 (.slice none 0 0) (.slice none 0 0)).1; have bT := aPu (nK.out.bel.trans ((nK.out.set2 (.slice none 0 0) (.slice none 0 0)).2.mono (by omega)))
   have lA : Hid (((za.setCell ⟨w.heap.size + 1 + 1, 0, none⟩ (.slice none 0 0)).setCell ⟨w.heap.size + 1 + 1, 1, none⟩ (.slice none 0 0)).heap[rb]? = some (.cells #[.slice none 0 0, .slice none 0 0, (.iface 226 (.pointer (some (E 1))))] 70 (0, 0))) := (aF _ _ (by omega)).trans nS
   clear r0 r1 fO fN nS iS; generalize ((za.setCell ⟨w.heap.size + 1 + 1, 0, none⟩ (.slice none 0 0)).setCell ⟨w.heap.size + 1 + 1, 1, none⟩ (.slice none 0 0)) = wf at HX bT lA ⊢; go_wp2
   obtain ⟨q0, q1⟩ := pair_cells HX.out; exact bodyPost_ret (v := .tuple #[.agg #[.slice none 0 0, .slice none 0 0], .iface 66 (.pointer (some ⟨rb, 0, none⟩))]) (by simp [results, Tryz.results42, go_sem, q0, q1]) rfl (.inr ⟨by decide, by decide, rb, none, 0, none, 0, wf.heap.size, rfl, by rw [F8]; exact lA.out, by omega, oF _ _ _ _, dV _ _ _ _, bT.out.size, Nat.le_refl _, cN, cN, bT.out⟩)
  ·
   obtain ⟨r0, r1⟩ := pair_cells cR.out.res; obtain ⟨fO, fN⟩ := aC cR.out.res; have lS : ((z0.setCell ⟨w.heap.size + 1 + 1, 0, none⟩ (.slice none 0 0)).setCell ⟨w.heap.size + 1 + 1, 1, none⟩ (.slice none 0 0)).cell? ⟨0, 0, none⟩ = some (.iface 226 (.pointer (some (E 1)))) := (World.cell?_of_block (a := ⟨0, 0, none⟩) (aF (w := z0) (b := w.heap.size + 1 + 1) (k := 0) (.slice none 0 0) (.slice none 0 0) (by omega))).trans aP
   have hX := (cR.out.set2 (.slice none 0 0) (.slice none 0 0)).1; have T4 := cR.out.bel.trans ((cR.out.set2 (.slice none 0 0) (.slice none 0 0)).2.mono (by omega))
   have S1 : ((z0.setCell ⟨w.heap.size + 1 + 1, 0, none⟩ (.slice none 0 0)).setCell ⟨w.heap.size + 1 + 1, 1, none⟩ (.slice none 0 0)).heap.size = z0.heap.size := aZ _ _ _ _
   go_simp
   refine hK.out _ _ lS (fun _ => ?_)
   clear hK K r0 r1 fO fN
   (try simp only [Act.put, u1, u2, u3])
   generalize ((z0.setCell ⟨w.heap.size + 1 + 1, 0, none⟩ (.slice none 0 0)).setCell ⟨w.heap.size + 1 + 1, 1, none⟩ (.slice none 0 0)) = za at lS hX T4 S1 ⊢; refine rk 3 rfl (fun K hK => ?_)
   have iS : Below za.heap.size za (za.alloc (.cells #[.slice none 0 0, .slice none 0 0, (.iface 226 (.pointer (some (E 1))))] 70)) := bl; have T3 : (za.alloc (.cells #[.slice none 0 0, .slice none 0 0, (.iface 226 (.pointer (some (E 1))))] 70)).cell? ⟨0, 0, none⟩ = some (.iface 226 (.pointer (some (E 1)))) := (iS.cell (p := ⟨0, 0, none⟩) (by show 0 < _; omega)).trans lS
   have nS := heap_alloc_new za (.cells #[.slice none 0 0, .slice none 0 0, (.iface 226 (.pointer (some (E 1))))] 70)
   go_simp
   refine hK.out _ _ T3 (fun _ => ?_)
   clear hK K
   (try simp only [Act.put, u1, u2, u3])
   have HX := aPu ((iS.block _ (by omega)).trans hX)
   have bT := aPu (T4.trans (iS.mono (by omega)))
   have lA := aPu nS; generalize za.alloc (.cells #[.slice none 0 0, .slice none 0 0, (.iface 226 (.pointer (some (E 1))))] 70) = wf at T3 HX bT lA ⊢; clear nS iS hX T4; generalize za.heap.size = rb at lA S1 ⊢; refine tj 4 ?_
   refine tj 6 ?_
   refine wpAnyH_done (by kernel_rfl) ?_ _
   go_wp2
   obtain ⟨q0, q1⟩ := pair_cells HX.out; exact bodyPost_ret (v := .tuple #[.agg #[.slice none 0 0, .slice none 0 0], .iface 66 (.pointer (some ⟨rb, 0, none⟩))]) (by simp [results, Tryz.results42, go_sem, q0, q1]) rfl (.inr ⟨by decide, by decide, rb, none, 0, none, 0, wf.heap.size, rfl, by rw [F8]; exact lA.out, by omega, oF _ _ _ _, dV _ _ _ _, bT.out.size, Nat.le_refl _, cN, cN, bT.out⟩)
 ·rw [hq]
  go_wp2_with fail
  refine (vO dev w1).mono ?_
  rintro e w1' ⟨rfl, rfl⟩; rw [wN]
  go_wp2_with fail
  refine (aEt kind item qty dv sq w1).mono ?_
  rintro e w2 ⟨rfl, aG⟩; rw [hq3]; have aJ := aPu (aT.out.next aG); have dP := aPu (eZ.out.below aG (by omega))
  have dS := aG.size; clear aG d0 d1 d2 d3 d4 aT eZ; have g1 := aFd dP.out
  go_wp2_with fail
  refine wp_region_held_drew (S := fun w' => w'.cell? ⟨0, 0, none⟩ = some (.iface 226 (.pointer (some (E 1))))) (by kernel_rfl) g1 (fun aP => ?_)
  have cU : Hid (Below w2.heap.size w2 w2.drew) := ⟨rfl, rfl, rfl, Nat.le_refl _, fun _ _ => rfl⟩
  generalize w2.drew = z0 at cU aP ⊢; have cR := aPu (aJ.out.next cU.out); have cP := cU.out.size; have hlz := cR.out.lt; have gX := cR.out.bel.size; refine tj 0 ?_
  refine tj 1 ?_
  refine tj 2 ?_
  refine wpAnyH_ready (rs := [3, 5]) (by kernel_rfl) (by simp) ?_
  refine AllReadyH.cons rfl (fun K hK => ?_) (AllReadyH.cons rfl (fun K hK => ?_) AllReadyH.nil)
  ·
   have iS : Below z0.heap.size z0 (z0.alloc (.cells #[.slice none 0 0, .slice none 0 0, (.iface 226 (.pointer (some (E 1))))] 70)) := bl; have lS : (z0.alloc (.cells #[.slice none 0 0, .slice none 0 0, (.iface 226 (.pointer (some (E 1))))] 70)).cell? ⟨0, 0, none⟩ = some (.iface 226 (.pointer (some (E 1)))) := (iS.cell (p := ⟨0, 0, none⟩) (by show 0 < _; omega)).trans aP
   have nS := heap_alloc_new z0 (.cells #[.slice none 0 0, .slice none 0 0, (.iface 226 (.pointer (some (E 1))))] 70)
   go_simp
   refine hK.out _ _ lS (fun _ => ?_)
   clear hK K
   (try simp only [Act.put, u1, u2, u3])
   have nK := aPu (cR.out.next iS); generalize (z0.alloc (.cells #[.slice none 0 0, .slice none 0 0, (.iface 226 (.pointer (some (E 1))))] 70)) = za at iS lS nS nK ⊢; have hla : z0.heap.size < za.heap.size := (aPv nS).1; generalize z0.heap.size = rb at hla iS nS hlz cP gX ⊢; obtain ⟨r0, r1⟩ := pair_cells nK.out.res; obtain ⟨fO, fN⟩ := aC nK.out.res; refine tj 4 ?_
   refine rk 5 rfl (fun K hK => ?_)
   go_simp
   refine hK.out _ _ ((World.cell?_of_block (a := ⟨0, 0, none⟩) (aF (w := za) (b := w.heap.size + 1 + 1) (k := 0) (.slice none 0 0) (.slice none 0 0) (by omega))).trans lS) (fun bG => ?_)
   clear hK K
   (try simp only [Act.put, u1, u2, u3])
   refine tj 6 ?_
   refine wpAnyH_done (by kernel_rfl) ?_ _
   have HX := aPu (nK.out.set2 (.slice none 0 0) (.slice none 0 0)).1; have bT := aPu (nK.out.bel.trans ((nK.out.set2 (.slice none 0 0) (.slice none 0 0)).2.mono (by omega)))
   have lA : Hid (((za.setCell ⟨w.heap.size + 1 + 1, 0, none⟩ (.slice none 0 0)).setCell ⟨w.heap.size + 1 + 1, 1, none⟩ (.slice none 0 0)).heap[rb]? = some (.cells #[.slice none 0 0, .slice none 0 0, (.iface 226 (.pointer (some (E 1))))] 70 (0, 0))) := (aF _ _ (by omega)).trans nS
   clear r0 r1 fO fN nS iS; generalize ((za.setCell ⟨w.heap.size + 1 + 1, 0, none⟩ (.slice none 0 0)).setCell ⟨w.heap.size + 1 + 1, 1, none⟩ (.slice none 0 0)) = wf at HX bT lA ⊢; go_wp2
   obtain ⟨q0, q1⟩ := pair_cells HX.out; exact bodyPost_ret (v := .tuple #[.agg #[.slice none 0 0, .slice none 0 0], .iface 66 (.pointer (some ⟨rb, 0, none⟩))]) (by simp [results, Tryz.results42, go_sem, q0, q1]) rfl (.inr ⟨by decide, by decide, rb, none, 0, none, 0, wf.heap.size, rfl, by rw [F8]; exact lA.out, by omega, oF _ _ _ _, dV _ _ _ _, bT.out.size, Nat.le_refl _, cN, cN, bT.out⟩)
  ·
   obtain ⟨r0, r1⟩ := pair_cells cR.out.res; obtain ⟨fO, fN⟩ := aC cR.out.res; have lS : ((z0.setCell ⟨w.heap.size + 1 + 1, 0, none⟩ (.slice none 0 0)).setCell ⟨w.heap.size + 1 + 1, 1, none⟩ (.slice none 0 0)).cell? ⟨0, 0, none⟩ = some (.iface 226 (.pointer (some (E 1)))) := (World.cell?_of_block (a := ⟨0, 0, none⟩) (aF (w := z0) (b := w.heap.size + 1 + 1) (k := 0) (.slice none 0 0) (.slice none 0 0) (by omega))).trans aP
   have hX := (cR.out.set2 (.slice none 0 0) (.slice none 0 0)).1; have T4 := cR.out.bel.trans ((cR.out.set2 (.slice none 0 0) (.slice none 0 0)).2.mono (by omega))
   have S1 : ((z0.setCell ⟨w.heap.size + 1 + 1, 0, none⟩ (.slice none 0 0)).setCell ⟨w.heap.size + 1 + 1, 1, none⟩ (.slice none 0 0)).heap.size = z0.heap.size := aZ _ _ _ _
   go_simp
   refine hK.out _ _ lS (fun _ => ?_)
   clear hK K r0 r1 fO fN
   (try simp only [Act.put, u1, u2, u3])
   generalize ((z0.setCell ⟨w.heap.size + 1 + 1, 0, none⟩ (.slice none 0 0)).setCell ⟨w.heap.size + 1 + 1, 1, none⟩ (.slice none 0 0)) = za at lS hX T4 S1 ⊢; refine rk 3 rfl (fun K hK => ?_)
   have iS : Below za.heap.size za (za.alloc (.cells #[.slice none 0 0, .slice none 0 0, (.iface 226 (.pointer (some (E 1))))] 70)) := bl; have T3 : (za.alloc (.cells #[.slice none 0 0, .slice none 0 0, (.iface 226 (.pointer (some (E 1))))] 70)).cell? ⟨0, 0, none⟩ = some (.iface 226 (.pointer (some (E 1)))) := (iS.cell (p := ⟨0, 0, none⟩) (by show 0 < _; omega)).trans lS
   have nS := heap_alloc_new za (.cells #[.slice none 0 0, .slice none 0 0, (.iface 226 (.pointer (some (E 1))))] 70)
   go_simp
   refine hK.out _ _ T3 (fun _ => ?_)
   clear hK K
   (try simp only [Act.put, u1, u2, u3])
   have HX := aPu ((iS.block _ (by omega)).trans hX)
   have bT := aPu (T4.trans (iS.mono (by omega)))
   have lA := aPu nS; generalize za.alloc (.cells #[.slice none 0 0, .slice none 0 0, (.iface 226 (.pointer (some (E 1))))] 70) = wf at T3 HX bT lA ⊢; clear nS iS hX T4; generalize za.heap.size = rb at lA S1 ⊢; refine tj 4 ?_
   refine tj 6 ?_
   refine wpAnyH_done (by kernel_rfl) ?_ _
   go_wp2
   obtain ⟨q0, q1⟩ := pair_cells HX.out; exact bodyPost_ret (v := .tuple #[.agg #[.slice none 0 0, .slice none 0 0], .iface 66 (.pointer (some ⟨rb, 0, none⟩))]) (by simp [results, Tryz.results42, go_sem, q0, q1]) rfl (.inr ⟨by decide, by decide, rb, none, 0, none, 0, wf.heap.size, rfl, by rw [F8]; exact lA.out, by omega, oF _ _ _ _, dV _ _ _ _, bT.out.size, Nat.le_refl _, cN, cN, bT.out⟩)
theorem aIz {kind : Int} {item : ByteArray} {qty dv sq : Int} (h : fW kind item qty dv sq = true) (hk : kind = 9) : 0 ≤ dv ∧ dv ≤ 3 := by
 subst hk
 have e : fW 9 item qty dv sq = (decide (item = ⟨#[]⟩ ∧ qty = 0) && (cO dv 0 3 && cO sq 1 40)) := rfl
 rw [e, Bool.and_eq_true, Bool.and_eq_true] at h
 have h2 := h.2.1
 unfold cO at h2
 exact of_decide_eq_true h2
theorem aEO (wL : Int) (saved : Bool) (kind : Int) (item : ByteArray) (qty : Int) : (oneOf wL saved kind item qty).2 = 0 ∨ (oneOf wL saved kind item qty).2 = 2 ∨ (oneOf wL saved kind item qty).2 = 3 := by
 unfold oneOf
 repeat' split
 all_goals simp
theorem aGg (xs : List Int) (l : List aA) (d : Nat) (kind : Int) (item : ByteArray) (qty : Int) : 0 ≤ (dW xs l d kind item qty).1 ∧ (dW xs l d kind item qty).1 ≤ 4 := by
 unfold dW
 dsimp only
 have h := aEO (aO item l l.length) (bW l item) kind item qty
 split
 ·split <;> simp
 ·show 0 ≤ (oneOf (aO item l l.length) (bW l item) kind item qty).2 ∧ (oneOf (aO item l l.length) (bW l item) kind item qty).2 ≤ 4
  omega
theorem O7 (xs : List Int) (l : List aA) (dev s : Int) : 0 ≤ (eF xs l dev s).1 ∧ (eF xs l dev s).1 ≤ 4 := by
 unfold eF
 split
 ·split <;> simp
 ·simp
theorem aG4 (xs : List Int) (l : List aA) (d : Nat) : 0 ≤ (qI xs l d).1 ∧ (qI xs l d).1 ≤ 4 := by
 unfold qI
 split
 ·simp
 ·split <;> simp
theorem aHO (xs : List Int) (l : List aA) (d : Nat) (kind : Int) (item : ByteArray) (qty dv sq : Int) : 0 ≤ (jJ xs l d kind item qty dv sq).1 ∧ (jJ xs l d kind item qty dv sq).1 ≤ 4 := by
 unfold jJ
 split
 ·exact aG4 _ _ _
 ·split
  ·exact O7 _ _ _ _
  ·split
   ·exact O7 _ _ _ _
   ·split
    ·exact O7 _ _ _ _
    ·exact aGg _ _ _ _ _ _
set_option maxHeartbeats 40000000 in
theorem aDN (w : World) (B : Nat) (E : Int → Addr) (hE : eA w B E) (g off : Nat) (ao : Option Addr) (cv no co d : Nat) (xs : List Int) (l : List aA) (kind qty dv sq : Int) (item : ByteArray) (hx : Ints w B (some ⟨g, off, none⟩) 4 xs) (h : bK w B ao no l) (hB : B ≤ w.heap.size) (bX : 4 ≤ cv) (cD : bQ ao no co) (hc : aD xs l = true) (hd : d < 4) (hi : item.size ≤ 1048576) (aIn : fW kind item qty dv sq = true) :
  Calls Tryz.prog 42 #[.agg #[.slice (some ⟨g, off, none⟩) 4 cv, .slice ao no co], .int .i64 (d : Int), .agg #[.int .i64 kind, .string item, .int .i64 qty, .int .i64 dv, .int .i64 sq]] w (PfP E (if (jJ xs l d kind item qty dv sq).1 = 0 then jJ xs l d kind item qty dv sq else ((jJ xs l d kind item qty dv sq).1, xs, l)) w) := by
 have iP : no ≤ 160 := by rw [← h.1]; exact eL hc
 have HM : Hid (∀ i, i < no → (l.getD i aA.zero).item.size ≤ 1048576) := fun i hi' => by
  have h2 := (dG (eT hc (i := i) (by rw [h.1]; exact hi'))).2.2.2.2.1
  have e : aB l i = l.getD i aA.zero := rfl; rw [← e]; omega
 obtain ⟨T, qU⟩ : ∃ T, T = jJ xs l d kind item qty dv sq := ⟨_, rfl⟩
 have cJ := aHO xs l d kind item qty dv sq
 rw [← qU] at cJ ⊢
 obtain ⟨R, hR0⟩ : ∃ R : Int × List Int × List aA, R = (if T.1 = 0 then T else (T.1, xs, l)) := ⟨_, rfl⟩
 rw [← hR0]
 have N8 := aPu qU
 have uJ := aPu hR0
 have HCd := aPu cJ
 have hT := rO.mk0 w #[.slice (some ⟨g, off, none⟩) 4 cv, .slice ao no co] #[.int .i64 kind, .string item, .int .i64 qty, .int .i64 dv, .int .i64 sq] #[.slice none 0 0, .slice none 0 0] 27 29 27
 have HV := aPu (hx.below hT.bel hB)
 have HO := aPu (h.below hT.bel hB)
 have HE := aPu (hE.below hT.bel hB)
 have HT := aPu hT
 have gY := aPu cD
 have HC := aPu hc
 have HCM := aPu aIn
 have HK9 := aPu (aIz aIn)
 have gJ := aCS hd
 have HDV := aPu gJ
 clear hx h hT cD hE hc qU hR0 cJ aIn gJ
 go_enter Tryz.func42, Tryz.ntmps42
 go_upto_region 1 with fail
 generalize ((w.alloc (.cells #[.slice (some ⟨g, off, none⟩) 4 cv, .slice ao no co] 27)).alloc (.cells #[.int .i64 kind, .string item, .int .i64 qty, .int .i64 dv, .int .i64 sq] 29)).alloc (.cells #[.slice none 0 0, .slice none 0 0] 27) = w0 at HV HO HE HT ⊢
 have lQ := HT.out.lt
 obtain ⟨c0, c1⟩ := pair_cells HT.out.fst
 go_wp2_with fail
 refine (iM w0 B (some ⟨g, off, none⟩) ao 4 cv no co xs l HV.out HO.out (by omega) (by omega) gY.out.1 ⟨by omega, gY.out.2.1⟩).mono ?_
 rintro e w1 ⟨rfl, aE⟩
 rw [HC.out]
 have aT := aPu (HT.out.next aE)
 have iA := aPu (HV.out.below aE (by omega))
 have cI := aPu (HO.out.below aE (by omega))
 have eZ := aPu (HE.out.below aE (by omega))
 have dZ := aE.size
 clear aE c0 c1 HT HE HV HO
 obtain ⟨d0, d1, d2, d3, d4⟩ := kK aT.out.snd
 go_wp2_with fail
 refine (vO (d : Int) w1).mono ?_
 rintro e w1' ⟨rfl, rfl⟩
 rw [HDV.out]
 go_wp2_with fail
 refine (aEt kind item qty dv sq w1).mono ?_
 rintro e w2 ⟨rfl, aG⟩
 rw [HCM.out]
 have aJ := aPu (aT.out.next aG)
 have jW := aPu (iA.out.below aG (by omega))
 have fZ := aPu (cI.out.below aG (by omega))
 have dP := aPu (eZ.out.below aG (by omega))
 have dS := aG.size
 clear aG d0 d1 d2 d3 d4 aT iA cI eZ
 obtain ⟨c0, c1⟩ := pair_cells aJ.out.fst
 obtain ⟨d0, d1, d2, d3, d4⟩ := kK aJ.out.snd
 go_wp2_with fail
 refine (aIE w2 B E dP.out g off ao cv no co d xs l kind qty dv sq item jW.out fZ.out (by omega) bX gY.out  HC.out hd hi HK9.out).mono ?_
 intro e w3 gW
 rw [← N8.out] at gW
 have aR := gW.bel
 have bD := aPu (aJ.out.next aR)
 have N7 := aPu (jW.out.below aR (by omega))
 have pS := aPu (fZ.out.below aR (by omega))
 have hU := aR.size
 clear aR c0 c1 d0 d1 d2 d3 d4 jW fZ dP aJ
 by_cases hz : T.1 = 0
 ·obtain ⟨a, n, c, a', n', c', er, rfl⟩ := gW.form
  have her : er = .nilIface := by
   rcases gW with ⟨h1, _⟩ | ⟨_, va, vc, oa, oc, cQ, e1, _⟩
   ·exact absurd hz h1
   ·injection e1 with e1
    injection e1 with e1; have e2 := congrArg (fun x : Array Value => x[1]?) e1
    simpa using e2
  subst her; have C1 := aPu gW; have HRT : Hid (R = T) := by show _ = _; rw [uJ.out, if_pos hz]
  clear gW
  go_upto_region 4 with fail
  have aW := (Below.refl w3.heap.size w3).alloc aPw (.cells #[.slice a n c, .slice a' n' c'] 27); have fJ := aPu (bD.out.next aW); have vW := aPu (heap_alloc_new w3 (.cells #[.slice a n c, .slice a' n' c'] 27)); have lC := aPu aW; clear aW bD N7 pS; generalize w3.alloc (.cells #[.slice a n c, .slice a' n' c'] 27) = w4 at fJ vW lC ⊢; have hx4 : w3.heap.size < w4.heap.size := (aPv vW.out).1; obtain ⟨r0, r1⟩ := pair_cells fJ.out.res; obtain ⟨fO, fN⟩ := aC fJ.out.res; have HX := aPu (fJ.out.set2 (.slice a n c) (.slice a' n' c')).1; have bT := aPu (fJ.out.bel.trans ((fJ.out.set2 (.slice a n c) (.slice a' n' c')).2.mono (by omega)))
  have HCf : Hid (mO E T w (.returned (.tuple #[.agg #[.slice a n c, .slice a' n' c'], .nilIface])) ((w4.setCell ⟨w.heap.size + 1 + 1, 0, none⟩ (.slice a n c)).setCell ⟨w.heap.size + 1 + 1, 1, none⟩ (.slice a' n' c'))) := by
   rcases C1.out with ⟨h1, _⟩ | ⟨h0, va, vc, oa, oc, cQ, e1, h2, h3, h4, h5, h6, h7, _⟩
   ·exact absurd hz h1
   ·have tC : ((w4.setCell ⟨w.heap.size + 1 + 1, 0, none⟩ (.slice a n c)).setCell ⟨w.heap.size + 1 + 1, 1, none⟩ (.slice a' n' c')).heap.size = w4.heap.size := aZ _ _ _ _
    exact .inr ⟨h0, va, vc, oa, oc, cQ, e1, ((h2.below lC.out h5).kept (fun j q1 q2 => aF _ _ (by omega))).more (by omega) aPw, by rw [tC]; exact (((h3.below lC.out aPw).kept (fun j q1 q2 => aF _ _ (by omega))).more aPw (by omega)), by omega, by omega, h6, h7, bT.out⟩
  generalize w3.heap.size = nb at hU hx4 vW lC ⊢; obtain ⟨n0, n1⟩ := pair_cells vW.out; go_wp2
  change bodyPost _ _ _ _ _ ((w4.setCell ⟨w.heap.size + 1 + 1, 0, none⟩ (.slice a n c)).setCell ⟨w.heap.size + 1 + 1, 1, none⟩ (.slice a' n' c'))
  clear n0 n1 r0 r1 fO fN C1; generalize ((w4.setCell ⟨w.heap.size + 1 + 1, 0, none⟩ (.slice a n c)).setCell ⟨w.heap.size + 1 + 1, 1, none⟩ (.slice a' n' c')) = wf at HX bT HCf ⊢; obtain ⟨q0, q1⟩ := pair_cells HX.out; exact bodyPost_ret (v := .tuple #[.agg #[.slice a n c, .slice a' n' c'], .nilIface]) (by simp [results, Tryz.results42, go_sem, q0, q1]) rfl (PfP.eqr (.inl ⟨hz, HCf.out⟩) HRT.out.symm)
 ·rcases gW with ⟨h1, rfl, _⟩ | ⟨h0, _⟩
  rotate_left
  ·exact absurd h0 hz
  obtain ⟨code, cJ⟩ : ∃ code, code = T.1 := ⟨_, rfl⟩; have HRT : Hid (R = (code, xs, l)) := by show _ = _; rw [uJ.out, if_neg hz, cJ]
  have hc1 : 1 ≤ code ∧ code ≤ 4 := by have := HCd.out; omega
  rw [← cJ] at h1 ⊢; have J4 : kJ E code = (.iface 226 (.pointer (some (E code)))) := by unfold kJ; rw [if_neg h1]
  rw [J4]; have HER := aPu J4; clear cJ J4 hz h1; obtain ⟨c9, hc4⟩ := hc1
  go_upto_region 4 with fail
  have aW := (Below.refl w3.heap.size w3).alloc aPw (.cells #[.slice none 0 0, .slice none 0 0] 27); have fJ := aPu (bD.out.next aW); have qA := aPu (N7.out.below aW (by omega))
  have nV := aPu (pS.out.below aW (by omega))
  have F0 := aW.size; clear aW bD N7 pS; generalize w3.alloc (.cells #[.slice none 0 0, .slice none 0 0] 27) = w4 at fJ qA nV F0 ⊢; generalize w3.heap.size = nb at hU F0 ⊢; have pM := fJ.out.lt; obtain ⟨c0, c1⟩ := pair_cells fJ.out.fst
  go_wp2_with fail
  refine (C8 w4 B g off ao 4 cv no co xs l qA.out nV.out (by omega) (by omega) (by omega) (by omega) gY.out.2.2  HM.out).mono ?_
  rintro e w5 ⟨va, vc, oa, oc, cQ, rfl, aY, jL, Z9, nP, aU, jO⟩; have uI := aPu (fJ.out.next aU); have hs5 := aU.size; have wV := aPu aY; have HRw := aPu jL; have oQ := aPu jO; obtain ⟨XL, yL⟩ : ∃ XL, XL = xs.length := ⟨_, rfl⟩; obtain ⟨LL, oK⟩ : ∃ LL, LL = l.length := ⟨_, rfl⟩; rw [← yL] at wV oQ ⊢; rw [← oK] at HRw ⊢; have HXL := aPu yL; have HLL := aPu oK; clear aU aY jL jO c0 c1 fJ qA nV yL oK; have aW := (Below.refl w5.heap.size w5).alloc aPw (.cells #[.slice va XL vc, .slice oa LL oc, (.iface 226 (.pointer (some (E code))))] 70); have HT6 := aPu (uI.out.next aW); have HN6 := aPu (heap_alloc_new w5 (.cells #[.slice va XL vc, .slice oa LL oc, (.iface 226 (.pointer (some (E code))))] 70)); have fA := aPu aW; obtain ⟨w6, hw6⟩ : ∃ w6, w6 = w5.alloc (.cells #[.slice va XL vc, .slice oa LL oc, (.iface 226 (.pointer (some (E code))))] 70) := ⟨_, rfl⟩; rw [← hw6] at HT6 HN6 fA; have hx6 : w5.heap.size < w6.heap.size := (aPv HN6.out).1; obtain ⟨r0, r1⟩ := pair_cells HT6.out.res; obtain ⟨fO, fN⟩ := aC HT6.out.res; have HX := aPu (HT6.out.set2 (.slice none 0 0) (.slice none 0 0)).1; have bT := aPu (HT6.out.bel.trans ((HT6.out.set2 (.slice none 0 0) (.slice none 0 0)).2.mono (by omega)))
  have tC : ((w6.setCell ⟨w.heap.size + 1 + 1, 0, none⟩ (.slice none 0 0)).setCell ⟨w.heap.size + 1 + 1, 1, none⟩ (.slice none 0 0)).heap.size = w6.heap.size := aZ _ _ _ _; have lA : Hid (((w6.setCell ⟨w.heap.size + 1 + 1, 0, none⟩ (.slice none 0 0)).setCell ⟨w.heap.size + 1 + 1, 1, none⟩ (.slice none 0 0)).heap[w5.heap.size]? = some (.cells #[.slice va XL vc, .slice oa LL oc, (.iface 226 (.pointer (some (E code))))] 70 (0, 0))) := (aF _ _ (by have := uI.out.lt; omega)).trans HN6.out
  have vU : Hid (Own ((w6.setCell ⟨w.heap.size + 1 + 1, 0, none⟩ (.slice none 0 0)).setCell ⟨w.heap.size + 1 + 1, 1, none⟩ (.slice none 0 0)) w4.heap.size cQ va XL xs) := (wV.out.below fA.out nP).kept (fun j q1 q2 => aF _ _ (by omega))
  have sG := aPu (eG (vD (W' := ((w6.setCell ⟨w.heap.size + 1 + 1, 0, none⟩ (.slice none 0 0)).setCell ⟨w.heap.size + 1 + 1, 1, none⟩ (.slice none 0 0))) (rU (B := 0) HRw.out fA.out) (fun k y e hk => aF _ _ (by omega))) aPw)
  have HCf := aPu (gB HRw.out); rw [hw6] at r0 r1 fO fN; have HW6 := aPu hw6; clear aW hw6 uI HT6 HN6 fA; go_wp2
  rw [← HW6.out]
  change bodyPost _ _ _ _ _ ((w6.setCell ⟨w.heap.size + 1 + 1, 0, none⟩ (.slice none 0 0)).setCell ⟨w.heap.size + 1 + 1, 1, none⟩ (.slice none 0 0))
  clear r0 r1 fO fN; generalize ((w6.setCell ⟨w.heap.size + 1 + 1, 0, none⟩ (.slice none 0 0)).setCell ⟨w.heap.size + 1 + 1, 1, none⟩ (.slice none 0 0)) = wf at HX bT tC lA vU sG ⊢; have hl5 : w.heap.size ≤ w5.heap.size := by omega
  generalize w5.heap.size = rb at lA nP hs5 hx6 hl5 ⊢; obtain ⟨q0, q1⟩ := pair_cells HX.out; refine bodyPost_ret (v := .tuple #[.agg #[.slice none 0 0, .slice none 0 0], .iface 66 (.pointer (some ⟨rb, 0, none⟩))]) (by simp [results, Tryz.results42, go_sem, q0, q1]) rfl (PfP.eqr (show PfP E (code, xs, l) w _ wf from .inr ⟨c9, hc4, rb, va, vc, oa, oc, cQ, rfl, ?_, hl5, ?_, ?_, by omega, by omega, ?_, ?_, bT.out⟩) HRT.out.symm)
  ·show wf.heap[rb]? = some (.cells #[.slice va xs.length vc, .slice oa l.length oc, kJ E code] _ _)
   rw [← HXL.out, ← HLL.out, HER.out]; exact lA.out
  ·show Own wf w.heap.size cQ va xs.length xs
   rw [← HXL.out]; exact vU.out.more (by omega) aPw
  ·show bB wf cQ wf.heap.size oa l.length l
   rw [← HLL.out]; exact sG.out
  ·show bQ va xs.length vc
   rw [← HXL.out]; exact oQ.out
  ·show bQ oa l.length oc
   rw [← HLL.out]; exact HCf.out
def aA8 (r : Int × List Int × List aA) (w : World) (e : Ending) (w' : World) : Prop :=
 ∃ va vc oa oc cQ, e = .returned (.tuple #[.agg #[.slice va r.2.1.length vc, .slice oa r.2.2.length oc], .int .i64 r.1]) ∧ Own w' w.heap.size cQ va r.2.1.length r.2.1 ∧ bB w' cQ w'.heap.size oa r.2.2.length r.2.2 ∧ w.heap.size ≤ cQ ∧ cQ ≤ w'.heap.size ∧ bQ va r.2.1.length vc ∧ bQ oa r.2.2.length oc ∧ Below w.heap.size w w'
set_option maxHeartbeats 40000000 in
theorem aAY (w : World) (B : Nat) (E : Int → Addr) (hE : eA w B E) (hB : B ≤ w.heap.size) (av ao : Option Addr) (nv cv no co : Nat) (dev kind qty dv sq : Int) (item : ByteArray) (r : Int × List Int × List aA)
  (hP : ∀ w0, Below w.heap.size w w0 → Calls Tryz.prog 42 #[.agg #[.slice av nv cv, .slice ao no co], .int .i64 dev, .agg #[.int .i64 kind, .string item, .int .i64 qty, .int .i64 dv, .int .i64 sq]] w0 (PfP E r w0)) :
  Calls Tryz.prog 17 #[.agg #[.slice av nv cv, .slice ao no co], .int .i64 dev, .agg #[.int .i64 kind, .string item, .int .i64 qty, .int .i64 dv, .int .i64 sq]] w (aA8 r w) := by
 have hT := rO.mk0 w #[.slice av nv cv, .slice ao no co] #[.int .i64 kind, .string item, .int .i64 qty, .int .i64 dv, .int .i64 sq] #[.slice none 0 0, .slice none 0 0] 27 29 27
 have HE := aPu (hE.below hT.bel hB)
 have HT := aPu hT
 have HP := aPu hP
 have M7 := hE.low
 clear hT hE hP
 go_enter Tryz.func17, Tryz.ntmps17
 go_upto_region 1 with fail
 generalize ((w.alloc (.cells #[.slice av nv cv, .slice ao no co] 27)).alloc (.cells #[.int .i64 kind, .string item, .int .i64 qty, .int .i64 dv, .int .i64 sq] 29)).alloc (.cells #[.slice none 0 0, .slice none 0 0] 27) = w0 at HE HT ⊢
 have lQ := HT.out.lt
 obtain ⟨c0, c1⟩ := pair_cells HT.out.fst
 obtain ⟨d0, d1, d2, d3, d4⟩ := kK HT.out.snd
 go_wp2_with fail
 refine (HP.out w0 HT.out.bel).mono ?_
 rintro e w1 (⟨nO, gW⟩ | ⟨cV, dN, rb, ka, kc, oa, oc, cQ, rfl, hrb, hrw, aY, aC0, Z9, nP, bX, cD, aE⟩)
 ·rcases gW with ⟨h1, _⟩ | ⟨_, va, vc, oa, oc, cQ, rfl, aY, aC0, Z9, nP, bX, cD, aE⟩
  ·exact absurd nO h1
  have aT := aPu (HT.out.next aE); have wV := aPu aY; have HOp := aPu aC0; have nZ := aPu bX; have oP := aPu cD; have pA := aPu nO; have dZ := aE.size; clear aE aY aC0 bX cD nO c0 c1 d0 d1 d2 d3 d4 HT HE HP; obtain ⟨zl, E9⟩ : ∃ zl, zl = r.2.1.length := ⟨_, rfl⟩; obtain ⟨ml, M6⟩ : ∃ ml, ml = r.2.2.length := ⟨_, rfl⟩; rw [← E9, ← M6]; have HZL := aPu E9; have HML := aPu M6; clear E9 M6
  go_upto_region 2 with fail
  have aW := (Below.refl w1.heap.size w1).alloc aPw (.cells #[.slice va zl vc, .slice oa ml oc] 27); have aJ := aPu (aT.out.next aW); have mN := aPu (heap_alloc_new w1 (.cells #[.slice va zl vc, .slice oa ml oc] 27)); have bP := aPu aW; clear aW aT; generalize w1.alloc (.cells #[.slice va zl vc, .slice oa ml oc] 27) = w2 at aJ mN bP ⊢; have S0 : w1.heap.size < w2.heap.size := (aPv mN.out).1
  go_upto_region 3 with fail
  have aW := (Below.refl w2.heap.size w2).alloc aPw (.cells #[.pointer none] 66); have bD := aPu (aJ.out.next aW); have nX := aPu ((aW.block _ S0).trans mN.out); have dQ := aPu (bP.out.trans (aW.mono (Nat.le_of_lt S0))); have hU := aW.size; clear aW aJ mN bP; generalize w2.alloc (.cells #[.pointer none] 66) = w3 at bD nX dQ hU ⊢
  go_wp2_with fail
  refine (aNd _ w3).mono ?_
  rintro e w3' ⟨rfl, rfl⟩; generalize w1.heap.size = nb at dZ S0 nP nX dQ HOp ⊢; obtain ⟨n0, n1⟩ := pair_cells nX.out; obtain ⟨r0, r1⟩ := pair_cells bD.out.res; obtain ⟨fO, fN⟩ := aC bD.out.res; have HX := aPu (bD.out.set2 (.slice va zl vc) (.slice oa ml oc)).1; have bT := aPu (bD.out.bel.trans ((bD.out.set2 (.slice va zl vc) (.slice oa ml oc)).2.mono (by omega)))
  have tC : ((w3'.setCell ⟨w.heap.size + 1 + 1, 0, none⟩ (.slice va zl vc)).setCell ⟨w.heap.size + 1 + 1, 1, none⟩ (.slice oa ml oc)).heap.size = w3'.heap.size := aZ _ _ _ _; have vU : Hid (Own ((w3'.setCell ⟨w.heap.size + 1 + 1, 0, none⟩ (.slice va zl vc)).setCell ⟨w.heap.size + 1 + 1, 1, none⟩ (.slice oa ml oc)) w0.heap.size cQ va r.2.1.length r.2.1) := (wV.out.below dQ.out nP).kept (fun j q1 q2 => aF _ _ (by omega))
  have sG : Hid (bB ((w3'.setCell ⟨w.heap.size + 1 + 1, 0, none⟩ (.slice va zl vc)).setCell ⟨w.heap.size + 1 + 1, 1, none⟩ (.slice oa ml oc)) cQ nb oa r.2.2.length r.2.2) := (HOp.out.below dQ.out aPw).kept (fun j q1 q2 => aF _ _ (by omega))
  go_wp2
  change bodyPost _ _ _ _ _ ((w3'.setCell ⟨w.heap.size + 1 + 1, 0, none⟩ (.slice va zl vc)).setCell ⟨w.heap.size + 1 + 1, 1, none⟩ (.slice oa ml oc))
  clear n0 n1 r0 r1 fO fN; generalize ((w3'.setCell ⟨w.heap.size + 1 + 1, 0, none⟩ (.slice va zl vc)).setCell ⟨w.heap.size + 1 + 1, 1, none⟩ (.slice oa ml oc)) = wf at HX bT tC vU sG ⊢; obtain ⟨q0, q1⟩ := pair_cells HX.out; exact bodyPost_ret (v := .tuple #[.agg #[.slice va zl vc, .slice oa ml oc], .int .i64 0]) (by simp [results, Tryz.results17, go_sem, q0, q1]) rfl ⟨va, vc, oa, oc, cQ, by rw [HZL.out, HML.out, pA.out], vU.out.more (by omega) aPw, sG.out.more aPw (by omega), by omega, by omega, nZ.out, oP.out, bT.out⟩
 ·have aT := aPu (HT.out.next aE)
  have eZ := aPu (HE.out.below aE (by omega))
  have wV := aPu aY; have HOp := aPu aC0; have nZ := aPu bX; have oP := aPu cD; have lA := aPu hrb; have dZ := aE.size; have aNH : rb < w1.heap.size := (aPv hrb).1; clear aE aY aC0 bX cD hrb c0 c1 d0 d1 d2 d3 d4 HT HE HP; obtain ⟨zl, E9⟩ : ∃ zl, zl = r.2.1.length := ⟨_, rfl⟩; obtain ⟨ml, M6⟩ : ∃ ml, ml = r.2.2.length := ⟨_, rfl⟩; obtain ⟨code, cJ⟩ : ∃ code, code = r.1 := ⟨_, rfl⟩; rw [← E9, ← M6, ← cJ] at lA; rw [← cJ] at cV dN; have HZL := aPu E9; have HML := aPu M6; have HCD := aPu cJ; clear E9 M6 cJ
  go_upto_region 2 with fail
  have aW := (Below.refl w1.heap.size w1).alloc aPw (.cells #[.slice none 0 0, .slice none 0 0] 27); have aJ := aPu (aT.out.next aW); have dP := aPu (eZ.out.below aW (by omega))
  have bP := aPu aW; have dS := aW.size; clear aW aT eZ; generalize w1.alloc (.cells #[.slice none 0 0, .slice none 0 0] 27) = w2 at aJ dP bP dS ⊢
  go_upto_region 3 with fail
  have aW := (Below.refl w2.heap.size w2).alloc aPw (.cells #[.pointer none] 66); have bD := aPu (aJ.out.next aW); have W8 := aPu (dP.out.below aW (by omega))
  have dQ := aPu (bP.out.trans (aW.mono dS)); have nX := aPu (heap_alloc_new w2 (.cells #[.pointer none] 66)); have hU := aW.size; clear aW aJ dP bP; generalize w2.alloc (.cells #[.pointer none] 66) = w3 at bD W8 dQ nX hU ⊢; have hx3 : w2.heap.size < w3.heap.size := (aPv nX.out).1; generalize w2.heap.size = tb at dS hU hx3 nX ⊢
  go_wp2_with fail
  refine (aNe tb ⟨rb, 0, none⟩ ⟨tb, 0, none⟩ (.pointer none) w3 hU aPw rfl W8.out.typ (aPx nX.out) (aPy nX.out)).mono ?_
  rintro e w4 ⟨rfl, cW, ht4, pX⟩; have fJ : Hid (rO w w4 #[.slice av nv cv, .slice ao no co] 27 #[.int .i64 kind, .string item, .int .i64 qty, .int .i64 dv, .int .i64 sq] 29 #[.slice none 0 0, .slice none 0 0] 27) := ⟨(cW.block _ (by omega)).trans bD.out.fst, (cW.block _ (by omega)).trans bD.out.snd, (cW.block _ (by omega)).trans bD.out.res, bD.out.bel.trans (cW.mono (by omega))⟩
  have wX := aPu (W8.out.below cW (by omega))
  have lC := aPu (dQ.out.trans (cW.mono dS)); have F0 := cW.size; have HTC := aPu ht4; have aOe := aPu ((lC.out.block _ aNH).trans lA.out); clear cW ht4 pX bD W8 dQ nX; obtain ⟨k0, k1, k2⟩ := vH aOe.out; have hS : w4.cell? ⟨tb, 0, none⟩ = some (.pointer (some ⟨rb, 0, none⟩)) ∧ w4.cell? ⟨rb, 0, none⟩ = some (.slice ka zl kc) ∧ w4.cell? ⟨rb, 1, none⟩ = some (.slice oa ml oc) := ⟨HTC.out, k0, k1⟩
  go_wp2_with fail
  refine wp_region_held_drew (S := fun w' => w'.cell? ⟨tb, 0, none⟩ = some (.pointer (some ⟨rb, 0, none⟩)) ∧ w'.cell? ⟨rb, 0, none⟩ = some (.slice ka zl kc) ∧ w'.cell? ⟨rb, 1, none⟩ = some (.slice oa ml oc)) (by kernel_rfl) hS (fun aP => ?_)
  have cU : Hid (Below w4.heap.size w4 w4.drew) := ⟨rfl, rfl, rfl, Nat.le_refl _, fun _ _ => rfl⟩
  have aIf : w4.drew.cell? ⟨rb, 0 + 2, none⟩ = some (kJ E code) := k2; generalize w4.drew = z0 at cU aP aIf ⊢; have cR := aPu (fJ.out.next cU.out); have HEz := aPu (wX.out.below cU.out (by omega))
  have aML := aPu (lC.out.trans (cU.out.mono (by omega)))
  have cP := cU.out.size; clear hS k0 k1 k2 fJ wX cU; refine tj 0 ?_
  refine tj 1 ?_
  refine tj 2 ?_
  refine tj 3 ?_
  refine tj 4 ?_
  refine tj 5 ?_
  refine rk 6 rfl (fun K hK => ?_)
  go_simp
  go_at_call 44
  refine (aKk z0 B E HEz.out rb 0 code cV dN aIf).mono ?_
  rintro e z1 ⟨rfl, rfl⟩; refine hK.out _ _ aP (fun bG => ?_)
  clear hK K
  (try simp only [Act.put, u1, u2, u3])
  obtain ⟨r0, r1⟩ := pair_cells cR.out.res; obtain ⟨fO, fN⟩ := aC cR.out.res; refine rk 7 rfl (fun K hK => ?_)
  go_simp
  refine hK.out _ _ ⟨(World.cell?_of_block (a := ⟨tb, 0, none⟩) (aF (w := z1) (b := w.heap.size + 1 + 1) (k := tb) (.slice ka zl kc) (.slice oa ml oc) (by omega))).trans aP.1, (World.cell?_of_block (a := ⟨rb, 0, none⟩) (aF (w := z1) (b := w.heap.size + 1 + 1) (k := rb) (.slice ka zl kc) (.slice oa ml oc) (by omega))).trans aP.2.1, (World.cell?_of_block (a := ⟨rb, 1, none⟩) (aF (w := z1) (b := w.heap.size + 1 + 1) (k := rb) (.slice ka zl kc) (.slice oa ml oc) (by omega))).trans aP.2.2⟩ (fun fI => ?_)
  clear hK K
  (try simp only [Act.put, u1, u2, u3])
  refine tj 8 ?_
  refine wpAnyH_done (by kernel_rfl) ?_ _
  have HX := aPu (cR.out.set2 (.slice ka zl kc) (.slice oa ml oc)).1; have bT := aPu (cR.out.bel.trans ((cR.out.set2 (.slice ka zl kc) (.slice oa ml oc)).2.mono (by omega)))
  have tC : ((z1.setCell ⟨w.heap.size + 1 + 1, 0, none⟩ (.slice ka zl kc)).setCell ⟨w.heap.size + 1 + 1, 1, none⟩ (.slice oa ml oc)).heap.size = z1.heap.size := aZ _ _ _ _; have vU : Hid (Own ((z1.setCell ⟨w.heap.size + 1 + 1, 0, none⟩ (.slice ka zl kc)).setCell ⟨w.heap.size + 1 + 1, 1, none⟩ (.slice oa ml oc)) w0.heap.size cQ ka r.2.1.length r.2.1) := (wV.out.below aML.out nP).kept (fun j q1 q2 => aF _ _ (by omega))
  have sG : Hid (bB ((z1.setCell ⟨w.heap.size + 1 + 1, 0, none⟩ (.slice ka zl kc)).setCell ⟨w.heap.size + 1 + 1, 1, none⟩ (.slice oa ml oc)) cQ w1.heap.size oa r.2.2.length r.2.2) := (HOp.out.below aML.out aPw).kept (fun j q1 q2 => aF _ _ (by omega))
  go_wp2
  change bodyPost _ _ _ _ _ ((z1.setCell ⟨w.heap.size + 1 + 1, 0, none⟩ (.slice ka zl kc)).setCell ⟨w.heap.size + 1 + 1, 1, none⟩ (.slice oa ml oc))
  clear r0 r1 fO fN aP bG fI aIf; generalize ((z1.setCell ⟨w.heap.size + 1 + 1, 0, none⟩ (.slice ka zl kc)).setCell ⟨w.heap.size + 1 + 1, 1, none⟩ (.slice oa ml oc)) = wf at HX bT tC vU sG ⊢; obtain ⟨q0, q1⟩ := pair_cells HX.out; exact bodyPost_ret (v := .tuple #[.agg #[.slice ka zl kc, .slice oa ml oc], .int .i64 code]) (by simp [results, Tryz.results17, go_sem, q0, q1]) rfl ⟨ka, kc, oa, oc, cQ, by rw [HZL.out, HML.out, HCD.out], vU.out.more (by omega) aPw, sG.out.more aPw (by omega), by omega, by omega, nZ.out, oP.out, bT.out⟩
theorem aGI (w : World) (B : Nat) (E : Int → Addr) (hE : eA w B E) (g off : Nat) (ao : Option Addr) (cv no co : Nat) (xs : List Int) (l : List aA) (dev kind qty dv sq : Int) (item : ByteArray) (hx : Ints w B (some ⟨g, off, none⟩) 4 xs) (h : bK w B ao no l) (hB : B ≤ w.heap.size) (bX : 4 ≤ cv) (cD : bQ ao no co) (iP : no ≤ 1048576) (hi : item.size ≤ 1048576) :
  Calls Tryz.prog 17 #[.agg #[.slice (some ⟨g, off, none⟩) 4 cv, .slice ao no co], .int .i64 dev, .agg #[.int .i64 kind, .string item, .int .i64 qty, .int .i64 dv, .int .i64 sq]] w (aA8 (cH xs l dev kind item qty dv sq) w) := by
 have aIh : Fits no co := ⟨iP, cD.2.1⟩
 by_cases hok : aD xs l = true ∧ cO dev 0 3 = true ∧ fW kind item qty dv sq = true
 ·obtain ⟨hc, gJ, F2⟩ := hok
  have hd : 0 ≤ dev ∧ dev ≤ 3 := by unfold cO at gJ; exact of_decide_eq_true gJ
  obtain ⟨d, rfl⟩ : ∃ d : Nat, dev = (d : Int) := ⟨dev.toNat, by omega⟩
  have e : cH xs l (d : Int) kind item qty dv sq = (if (jJ xs l d kind item qty dv sq).1 = 0 then jJ xs l d kind item qty dv sq else ((jJ xs l d kind item qty dv sq).1, xs, l)) := by
   unfold cH; rw [if_pos ⟨hc, gJ, F2⟩]
   rfl
  rw [e]; exact aAY w B E hE hB _ _ _ _ _ _ _ _ _ _ _ _ _ (fun w0 hb => aDN w0 B E (hE.below hb hB) g off ao cv no co d xs l kind qty dv sq item (hx.below hb hB) (h.below hb hB) (Nat.le_trans hB hb.size) bX cD hc (by omega) hi F2)
 ·have e : cH xs l dev kind item qty dv sq = (1, [], []) := by
   unfold cH; rw [if_neg hok]
  rw [e]; exact aAY w B E hE hB _ _ _ _ _ _ _ _ _ _ _ _ _ (fun w0 hb => L9 w0 B E (hE.below hb hB) _ ao 4 cv no co xs l dev kind qty dv sq item (hx.below hb hB) (h.below hb hB) (Nat.le_trans hB hb.size) (by omega) cD.1 aIh (by
   cases h1 : aD xs l
   ·exact .inl rfl
   ·cases h2 : cO dev 0 3
    ·exact .inr (.inl ⟨rfl, rfl⟩)
    ·refine .inr (.inr ⟨rfl, rfl, ?_⟩)
     cases h3 : fW kind item qty dv sq
     ·rfl
     ·exact absurd ⟨h1, h2, h3⟩ hok))
theorem aCU (w : World) (B : Nat) (E : Int → Addr) (hE : eA w B E) (av ao : Option Addr) (nv cv no co : Nat) (xs : List Int) (l : List aA) (dev kind qty dv sq : Int) (item : ByteArray) (hx : Ints w B av nv xs) (h : bK w B ao no l) (hB : B ≤ w.heap.size) (hv : nv ≤ 1048576) (hc : no ≤ co) (cM : Fits no co) (p8 : aD xs l = false) :
  Calls Tryz.prog 17 #[.agg #[.slice av nv cv, .slice ao no co], .int .i64 dev, .agg #[.int .i64 kind, .string item, .int .i64 qty, .int .i64 dv, .int .i64 sq]] w (aA8 (1, [], []) w) :=
 aAY w B E hE hB _ _ _ _ _ _ _ _ _ _ _ _ _ (fun w0 hb => L9 w0 B E (hE.below hb hB) av ao nv cv no co xs l dev kind qty dv sq item (hx.below hb hB) (h.below hb hB) (Nat.le_trans hB hb.size) hv hc cM (.inl p8))
end Go.Proofs.YthkagbnpcjidfaaGreatDoor
