/- Walks and mathematics that several claims share, part 35. -/
import Derived.Test.YthkagbnpcjidfaaGreatDoorGy31
import Derived.Test.YthkagbnpcjidfaaGreatDoorGy34
import Derived.Test.YthkagbnpcjidfaaGreatDoorGy27
import Derived.Test.YthkagbnpcjidfaaGreatDoorGy9
import Derived.Test.YthkagbnpcjidfaaGreatDoorGy18
import Derived.Test.YthkagbnpcjidfaaGreatDoorGy21
import Derived.Deep.Cut
import Derived.Deep.RegionHeld
import Derived.Lib.Hide
import Derived.Test.YthkagbnpcjidfaaGreatDoorGyA
namespace Go.Proofs.YthkagbnpcjidfaaGreatDoor
set_option maxRecDepth 100000
open Go.RowKit
set_option linter.unusedVariables false
set_option linter.unusedSimpArgs false
set_option linter.unusedVariables false
set_option linter.unusedSimpArgs false

theorem eZ.up {w : World} {B B' : Nat} {E : Int → Addr} (h : eZ w B E) (hB : B ≤ B') : eZ w B' E :=
 ⟨Nat.le_trans h.low hB, h.cells, fun c h1 h2 => by obtain ⟨a, r⟩ := h.lies c h1 h2; exact ⟨by omega, r⟩, h.ne, h.typ⟩
theorem aGp {xs : List Int} {l : List aA} (hc : aE xs l = true) : (iD (aO xs l)).map (·.item) = (bW l l.length).filter fun s => !bG l s := by
 unfold aO bY iD
 rw [if_pos hc, List.filter_map, List.map_map]
 have e : ((fun x : aT => x.item) ∘ bX l) = id := rfl
 rw [e, List.map_id]
 rfl
theorem aDj {d : Nat} {fX : List ByteArray} {k : Nat} {zs : List Int} {m : List aA} (hk : k < fX.length) : nN d (fX.drop k) zs m = if (eA zs m d 3 (fX.getD k ⟨#[]⟩) 0).1 = 0 then nN d (fX.drop (k + 1)) (eA zs m d 3 (fX.getD k ⟨#[]⟩) 0).2.1 (eA zs m d 3 (fX.getD k ⟨#[]⟩) 0).2.2 else ((eA zs m d 3 (fX.getD k ⟨#[]⟩) 0).1, [], []) := by
 rw [List.drop_eq_getElem_cons hk, List.getD_eq_getElem?_getD, List.getElem?_eq_getElem hk]
 rfl
theorem aJb {xs : List Int} {l : List aA} {d : Nat} {kind : Int} {item : ByteArray} {qty : Int} (h0 : (eA xs l d kind item qty).1 = 0) : 0 < (eA xs l d kind item qty).2.2.length := by
 unfold eA at h0 ⊢
 dsimp only at h0 ⊢
 split at h0
 ·rename_i h1
  rw [if_pos h1]
  split at h0
  ·rename_i h2
   rw [if_pos h2]
   show 0 < (bO l d _).length
   rw [uT]; omega
  ·cases h0
 ·rename_i h1
  exact absurd h0 h1
/-- The cart when k items are removed: it lies in block rb. -/
structure aAr (wz : World) (rb d : Nat) (T : Int × List Int × List aA) (fX : List ByteArray) (k : Nat) (zs : List Int) (m : List aA) (vg vo vc : Nat) (oa : Option Addr) (n oc : Nat) (wr : World) : Prop where
 bel : Below rb wz wr
 rest : wr.heap[rb]? = some (.cells #[.slice (some ⟨vg, vo, none⟩) 4 vc, .slice oa n oc] 27 (0, 0))
 ints : Ints wr wr.heap.size (some ⟨vg, vo, none⟩) 4 zs
 ops : bS wr wr.heap.size oa n m
 capv : 4 ≤ vc
 capo : bP oa n oc
 cart : aE zs m = true
 tot : nN d (fX.drop k) zs m = T
 own : 0 < k → ∃ cE, Own wr (rb + 1) cE (some ⟨vg, vo, none⟩) 4 zs ∧ bF wr cE wr.heap.size oa n m ∧ rb + 1 ≤ cE ∧ cE ≤ wr.heap.size ∧ bP (some ⟨vg, vo, none⟩) 4 vc
theorem aAr.next {wz : World} {rb d : Nat} {T : Int × List Int × List aA} {fX : List ByteArray} {k : Nat} {zs : List Int} {m : List aA} {vg vo vc : Nat} {oa : Option Addr} {n oc : Nat} {wr w2 : World} (h : aAr wz rb d T fX k zs m vg vo vc oa n oc wr) (hz : rb ≤ wz.heap.size) (hb : Below wr.heap.size wr w2) : aAr wz rb d T fX k zs m vg vo vc oa n oc w2 :=
 ⟨h.bel.trans (hb.mono (Nat.le_trans hz h.bel.size)), (hb.block _ (aRB h.rest).1).trans h.rest, (h.ints.below hb aRC).more hb.size, (h.ops.below hb aRC).more hb.size, h.capv, h.capo, h.cart, h.tot, fun hk => by
  obtain ⟨cE, h1, h2, h3, h4, h5⟩ := h.own hk; exact ⟨cE, h1.below hb h4, (h2.below hb aRC).more aRC hb.size, h3, Nat.le_trans h4 hb.size, h5⟩⟩
theorem aAr.step {wz : World} {rb d : Nat} {T : Int × List Int × List aA} {fX : List ByteArray} {k : Nat} {zs : List Int} {m : List aA} {vg vo vc : Nat} {oa : Option Addr} {n oc : Nat} {wr w1 w2 w3 : World} (h : aAr wz rb d T fX k zs m vg vo vc oa n oc wr) (hz : rb ≤ wz.heap.size) (hd : d < 4) (hk : k < fX.length) {s : ByteArray} (hs : fX.getD k ⟨#[]⟩ = s) (aI : Below wr.heap.size wr w1) (h0 : (eA zs m d 3 s 0).1 = 0)
  {va : Option Addr} {M6 : Nat} {I2 : Option Addr} {N0 cE : Nat} (h2 : Own w2 w1.heap.size cE va (eA zs m d 3 s 0).2.1.length (eA zs m d 3 s 0).2.1) (h3 : bF w2 cE w2.heap.size I2 (eA zs m d 3 s 0).2.2.length (eA zs m d 3 s 0).2.2) (h4 : w1.heap.size ≤ cE) (h5 : cE ≤ w2.heap.size) (h6 : bP va (eA zs m d 3 s 0).2.1.length M6) (h7 : bP I2 (eA zs m d 3 s 0).2.2.length N0) (h8 : Below w1.heap.size w1 w2) (h9 : Below w2.heap.size w2 w3) :
  ∃ R2, va = some ⟨R2, 0, none⟩ ∧ (eA zs m d 3 s 0).2.1.length = 4 ∧ aAr wz rb d T fX (k + 1) (eA zs m d 3 s 0).2.1 (eA zs m d 3 s 0).2.2 R2 0 M6 I2 (eA zs m d 3 s 0).2.2.length N0 ((w3.setCell ⟨rb, 0, none⟩ (.slice (some ⟨R2, 0, none⟩) 4 M6)).setCell ⟨rb, 1, none⟩ (.slice I2 (eA zs m d 3 s 0).2.2.length N0)) := by
 have aNt := l7 h.cart hd h0
 have hpos := aJb h0
 have aM9 := h.tot
 rw [aDj hk, hs, if_pos h0] at aM9
 generalize eA zs m d 3 s 0 = r at *
 obtain ⟨sN, _⟩ := fJ aNt
 rw [sN] at h2 h6
 obtain ⟨R2, aX, N2, _⟩ := h2.2 (by omega)
 subst N2
 have Y1 : rb < wr.heap.size := (aRB h.rest).1
 have fH := aI.size
 have eV := h8.size
 have iG := h9.size
 have e3 : w3.heap[rb]? = some (.cells #[.slice (some ⟨vg, vo, none⟩) 4 vc, .slice oa n oc] 27 (0, 0)) := (h9.block _ (by omega)).trans ((h8.block _ (by omega)).trans ((aI.block _ Y1).trans h.rest))
 have pT : ∀ j, j ≠ rb → ((w3.setCell ⟨rb, 0, none⟩ (.slice (some ⟨R2, 0, none⟩) 4 M6)).setCell ⟨rb, 1, none⟩ (.slice I2 r.2.2.length N0)).heap[j]? = w3.heap[j]? := fun j hj => aF _ _ hj
 have dK := bA w3 rb (.slice (some ⟨R2, 0, none⟩) 4 M6) (.slice I2 r.2.2.length N0)
 have o2 : Own ((w3.setCell ⟨rb, 0, none⟩ (.slice (some ⟨R2, 0, none⟩) 4 M6)).setCell ⟨rb, 1, none⟩ (.slice I2 r.2.2.length N0)) (rb + 1) cE (some ⟨R2, 0, none⟩) 4 r.2.1 := ((h2.below h9 h5).kept (fun j a b => pT j (by omega))).more (by omega) aRC
 have o3 := (h3.below h9 aRC).kept (w' := (w3.setCell ⟨rb, 0, none⟩ (.slice (some ⟨R2, 0, none⟩) 4 M6)).setCell ⟨rb, 1, none⟩ (.slice I2 r.2.2.length N0)) (fun j a b => pT j (by omega))
 refine ⟨R2, rfl, sN, ⟨?_, cK _ _ e3, ?_, ?_, h6.1, h7, aNt, aM9, fun _ => ⟨cE, o2, ?_, by omega, by omega, h6⟩⟩⟩
 ·have hbw : Below rb wz w3 := h.bel.trans (((aI.mono (by omega)).trans (h8.mono (by omega))).trans (h9.mono (by omega)))
  exact (hbw.setCell (p := ⟨rb, 0, none⟩) aRC _).setCell (p := ⟨rb, 1, none⟩) aRC _
 ·exact o2.ints.more (by omega)
 ·rw [dK]
  exact o3.ops.more (by omega)
 ·rw [dK]
  exact o3.more aRC (by omega)
set_option maxHeartbeats 40000000 in
theorem aKa (w : World) (B : Nat) (E : Int → Addr) (hE : eZ w B E) (g off : Nat) (ao : Option Addr) (cv no co d : Nat) (xs : List Int) (l : List aA) (hx : Ints w B (some ⟨g, off, none⟩) 4 xs) (h : bS w B ao no l) (hB : B ≤ w.heap.size) (bI : 4 ≤ cv) (bM : bP ao no co) (hc : aE xs l = true) (hd : d < 4) :
  Calls Tryz.prog 107 #[.agg #[.slice (some ⟨g, off, none⟩) 4 cv, .slice ao no co], .int .i64 (d : Int)] w (pL E (sS xs l d) w) := by
 have hM : no ≤ 160 := by rw [← h.1]; exact eU hc
 have HM : Hid (∀ o ∈ l, o.item.size ≤ 1048576) := fun o ho => by
  obtain ⟨i, hi, rfl⟩ := List.getElem_of_mem ho; have h2 := (dZ (fA hc hi)).2.2.2.2.1; have e : aC l i = l[i] := by unfold aC; rw [List.getD_eq_getElem?_getD, List.getElem?_eq_getElem hi]; rfl
  rw [e] at h2; omega
 obtain ⟨T, uD⟩ : ∃ T, T = sS xs l d := ⟨_, rfl⟩
 rw [← uD]
 obtain ⟨fX, hnm⟩ : ∃ fX, fX = (bW l l.length).filter fun s => !bG l s := ⟨_, rfl⟩
 have HTN : Hid (fX = [] → T = (2, [], [])) := fun e => by rw [uD, V5 hc hd, ← hnm, if_pos e]
 have HTY : Hid (fX ≠ [] → T = nN d fX xs l) := fun e => by rw [uD, V5 hc hd, ← hnm, if_neg e]
 have HNI : Hid (∀ s ∈ fX, s.size ≤ 1048576) := fun s hs => by
  rw [hnm] at hs; have eV := (List.mem_filter.1 hs).1; have := aD0 (c := 8) (fun i hi => (dZ (fA hc hi)).2.2.2.2.1) aRC eV
  omega
 have HFN : Hid ((iD (aO xs l)).map (·.item) = fX) := (aGp hc).trans hnm.symm
 have aHd : Hid ((aO xs l).length ≤ 1048576) := by
  have e : aO xs l = (bW l l.length).map (bX l) := by unfold aO bY; rw [if_pos hc]
  have h3 := zG l l.length; have h4 := eU hc
  show _ ≤ _
  rw [e, List.length_map]; omega
 have hT := xB.mk0 w #[.slice (some ⟨g, off, none⟩) 4 cv, .slice ao no co] #[.slice none 0 0, .slice none 0 0] 27
 have HV := aRA (hx.below hT.bel hB)
 have HO := aRA (h.below hT.bel hB)
 have HE := aRA (hE.below hT.bel hB)
 have HT := aRA hT
 have jA := aRA bM
 have HC := aRA hc
 have Z0 := hE.low
 clear hx h hT bM hE hc uD hnm
 go_enter Tryz.func107, Tryz.ntmps107
 go_upto_region 1 with fail
 generalize (w.alloc (.cells #[.slice (some ⟨g, off, none⟩) 4 cv, .slice ao no co] 27)).alloc (.cells #[.slice none 0 0, .slice none 0 0] 27) = w0 at HV HO HE HT ⊢
 have mF := aDJ HT.out
 obtain ⟨c0, c1⟩ := pair_cells HT.out.fst
 go_wp2_with fail
 refine (aBG w0 B (some ⟨g, off, none⟩) ao 4 cv no co xs l HV.out HO.out (by omega) (by omega) jA.out.1 ⟨by omega, jA.out.2.1⟩ HM.out).mono ?_
 rintro e w1 ⟨la, lc, rfl, gW, aI⟩
 have aEV := aRA gW
 have cO := aRA aI
 clear gW aI c0 c1
 generalize aO xs l = LN at HFN aHd aEV ⊢
 go_wp2_with fail
 refine (aFs w1 w0.heap.size la LN.length lc LN aEV.out cO.out.size aHd.out).mono ?_
 rintro e w2 ⟨fa, fc, rfl, hF, hfc, aN⟩
 have aCB : Below w0.heap.size w0 w2 := cO.out.trans aN
 have aM := aRA (HT.out.next aCB)
 have mZ := aRA (HV.out.below aCB (by omega))
 have iZ := aRA (HO.out.below aCB (by omega))
 have dQ := aRA (HE.out.below aCB (by omega))
 have eV := aCB.size
 have HF2 := aRA hF
 have hFl : (iD LN).length ≤ 1048576 := Nat.le_trans (List.length_filter_le _ _) aHd.out
 clear hF aN aCB cO aEV HT HV HO HE aHd
 generalize iD LN = F at HFN HF2 hfc hFl ⊢
 obtain ⟨c0, c1⟩ := pair_cells aM.out.fst
 by_cases hf0 : F.length = 0
 ·have hfe : F = [] := List.eq_nil_of_length_eq_zero hf0
  have T1 : Hid (T = (2, [], [])) := HTN.out (by rw [← HFN.out, hfe]; rfl)
  rw [hf0]; have g2 := aKX dQ.out
  go_wp2_with fail
  refine wp_region_held_drew (S := fun w' => w'.cell? ⟨2, 0, none⟩ = some (.iface 226 (.pointer (some (E 2))))) (by kernel_rfl) g2 (fun aP => ?_)
  have dG : Hid (Below w2.heap.size w2 w2.drew) := ⟨rfl, rfl, rfl, Nat.le_refl _, fun _ _ => rfl⟩
  generalize w2.drew = z0 at dG aP ⊢; have dF := aRA (aM.out.next dG.out); obtain ⟨r0, r1⟩ := pair_cells dF.out.snd; obtain ⟨gK, gJ⟩ := aD dF.out.snd; refine tj 0 ?_
  refine tj 1 ?_
  refine rk 2 rfl (fun K hK => ?_)
  go_simp
  refine hK.out _ _ ((World.cell?_of_block (a := ⟨2, 0, none⟩) (aF (w := z0) (b := w.heap.size + 1) (k := 2) (.slice none 0 0) (.slice none 0 0) (by omega))).trans aP) (fun bZ => ?_)
  clear hK K
  (try simp only [Act.put, u1, u2, u3])
  refine tj 3 ?_
  refine wpAnyH_done (by kernel_rfl) ?_ _
  have HX := aRA (oY dF.out (.slice none 0 0) (.slice none 0 0)).1; have cA := aRA (dF.out.bel.trans ((oY dF.out (.slice none 0 0) (.slice none 0 0)).2.mono (by omega)))
  go_wp2
  change bodyPost _ _ _ _ _ ((z0.setCell ⟨w.heap.size + 1, 0, none⟩ (.slice none 0 0)).setCell ⟨w.heap.size + 1, 1, none⟩ (.slice none 0 0))
  clear r0 r1 gK gJ aP bZ; generalize ((z0.setCell ⟨w.heap.size + 1, 0, none⟩ (.slice none 0 0)).setCell ⟨w.heap.size + 1, 1, none⟩ (.slice none 0 0)) = wf at HX cA ⊢; obtain ⟨q0, q1⟩ := pair_cells HX.out; exact bodyPost_ret (v := .tuple #[.agg #[.slice none 0 0, .slice none 0 0], (.iface 226 (.pointer (some (E 2))))]) (by simp [results, Tryz.results107, go_sem, q0, q1]) rfl ((show pL E (2, [], []) w _ wf from .inl ⟨by decide, by rw [S7], cA.out⟩).eqr T1.out.symm)
 have bH : fX ≠ [] := fun e => hf0 (by rw [← HFN.out] at e; have := congrArg List.length e; simpa using this)
 have T1 : Hid (nN d fX xs l = T) := (HTY.out bH).symm
 have hnl : fX.length = F.length := by rw [← HFN.out, List.length_map]
 have hfz : ((F.length : Int) == 0) = false := beq_eq_false_iff_ne.2 (by omega)
 have hfy : ¬ ((F.length : Int) = 0) := by omega
 clear HTN HTY bH
 go_upto_region 5 with fail
 have bD := (Below.refl w2.heap.size w2).alloc aRC (.cells #[.slice (some ⟨g, off, none⟩) 4 cv, .slice ao no co] 27)
 have dF := aRA (aM.out.next bD)
 have HFz := aRA (HF2.out.below bD aRC)
 have HEz := aRA (dQ.out.below bD (by omega))
 have dK := bD.size
 have HN := aRA (heap_alloc_new w2 (.cells #[.slice (some ⟨g, off, none⟩) 4 cv, .slice ao no co] 27))
 have HVz := aRA (mZ.out.below bD (by omega))
 have HOz := aRA (iZ.out.below bD (by omega))
 clear bD c0 c1 aM HF2 dQ mZ iZ
 generalize w2.alloc (.cells #[.slice (some ⟨g, off, none⟩) 4 cv, .slice ao no co] 27) = wz at dF HFz HEz dK HN HVz HOz ⊢
 generalize w2.heap.size = rb at eV dK HFz HN ⊢
 have Y1 : rb < wz.heap.size := (aRB HN.out).1
 have HI0 : Hid (aAr wz rb d T fX 0 xs l g off cv ao no co wz) := ⟨Below.refl _ _, HN.out, HVz.out.more (by omega), HOz.out.more (by omega), bI, jA.out, HC.out, T1.out, fun h => absurd h (by omega)⟩
 clear HN HVz HOz
 go_wp2
 go_loopw [23] (fun i wr => ∃ (k : Nat) (zs : List Int) (m : List aA) (vg vo vc : Nat) (oa : Option Addr) (n oc : Nat), k ≤ F.length ∧ i = .int .i64 (k : Int) ∧ Hid (aAr wz rb d T fX k zs m vg vo vc oa n oc wr)) (fun i _ => F.length - (intOf i).toNat)
 case atStart => exact ⟨0, xs, l, g, off, cv, ao, no, co, Nat.zero_le _, rfl, HI0⟩
 case round =>
  obtain ⟨k, zs, m, vg, vo, vc, oa, n, oc, hk, rfl, HI⟩ := hrel; clear HI0; have hwr := HI.out.bel.size; obtain ⟨x0, x1⟩ := pair_cells HI.out.rest
  by_cases aK : k < F.length
  rotate_left
  ·obtain rfl : k = F.length := by omega
   have hki : ¬ ((F.length : Int) < (F.length : Int)) := by omega
   have qD : Hid (xB w wr #[.slice (some ⟨g, off, none⟩) 4 cv, .slice ao no co] #[.slice none 0 0, .slice none 0 0] 27) := ⟨(HI.out.bel.block _ (by omega)).trans dF.out.fst, (HI.out.bel.block _ (by omega)).trans dF.out.snd, dF.out.bel.trans (HI.out.bel.mono (by omega))⟩
   have Z7 : Hid (T = (0, zs, m)) := by
    have := HI.out.tot; rw [List.drop_eq_nil_of_le (by omega)] at this
    exact this.symm
   obtain ⟨r0, r1⟩ := pair_cells qD.out.snd; obtain ⟨gK, gJ⟩ := aD qD.out.snd; have N8 := oY qD.out (.slice (some ⟨vg, vo, none⟩) 4 vc) (.slice oa n oc); have HX := aRA N8.1; have cA : Hid (Below w.heap.size w ((wr.setCell ⟨w.heap.size + 1, 0, none⟩ (.slice (some ⟨vg, vo, none⟩) 4 vc)).setCell ⟨w.heap.size + 1, 1, none⟩ (.slice oa n oc))) := qD.out.bel.trans (N8.2.mono (by omega))
   obtain ⟨cE, h1, h2, h3, h4, h5⟩ := HI.out.own (by omega)
   have sN := (fJ HI.out.cart).1; have hml : m.length = n := h2.1; have B7 : Hid (Own ((wr.setCell ⟨w.heap.size + 1, 0, none⟩ (.slice (some ⟨vg, vo, none⟩) 4 vc)).setCell ⟨w.heap.size + 1, 1, none⟩ (.slice oa n oc)) (rb + 1) cE (some ⟨vg, vo, none⟩) 4 zs) := h1.kept (fun j a b => aF _ _ (by omega))
   have vT : Hid (bF ((wr.setCell ⟨w.heap.size + 1, 0, none⟩ (.slice (some ⟨vg, vo, none⟩) 4 vc)).setCell ⟨w.heap.size + 1, 1, none⟩ (.slice oa n oc)) cE wr.heap.size oa n m) := h2.kept (fun j a b => aF _ _ (by omega))
   have wQ : ((wr.setCell ⟨w.heap.size + 1, 0, none⟩ (.slice (some ⟨vg, vo, none⟩) 4 vc)).setCell ⟨w.heap.size + 1, 1, none⟩ (.slice oa n oc)).heap.size = wr.heap.size := bA _ _ _ _; have HC5 := aRA h5; have HC6 := aRA HI.out.capo; have HL4 := aRA sN; have HML := aRA hml; clear N8 h1 h2 h5 sN hml; go_wp2
   change bodyPost _ _ _ _ _ ((wr.setCell ⟨w.heap.size + 1, 0, none⟩ (.slice (some ⟨vg, vo, none⟩) 4 vc)).setCell ⟨w.heap.size + 1, 1, none⟩ (.slice oa n oc))
   clear x0 x1 r0 r1 gK gJ; generalize ((wr.setCell ⟨w.heap.size + 1, 0, none⟩ (.slice (some ⟨vg, vo, none⟩) 4 vc)).setCell ⟨w.heap.size + 1, 1, none⟩ (.slice oa n oc)) = wf at HX cA B7 vT wQ ⊢; obtain ⟨q0, q1⟩ := pair_cells HX.out; refine bodyPost_ret (v := .tuple #[.agg #[.slice (some ⟨vg, vo, none⟩) 4 vc, .slice oa n oc], .nilIface]) (by simp [results, Tryz.results107, go_sem, q0, q1]) rfl (pL.eqr (show pL E (0, zs, m) w _ wf from .inr ⟨rfl, some ⟨vg, vo, none⟩, vc, oa, oc, cE, ?_, ?_, ?_, by omega, by omega, ?_, ?_, cA.out⟩) Z7.out.symm)
   ·show _ = Ending.returned (.tuple #[.agg #[.slice _ zs.length _, .slice _ m.length _], _])
    rw [HL4.out, HML.out]
   ·show Own wf w.heap.size cE _ zs.length zs
    rw [HL4.out]; exact B7.out.more (by omega) aRC
   ·show bF wf cE wf.heap.size _ m.length m
    rw [HML.out, wQ]; exact vT.out
   ·show bP _ zs.length vc
    rw [HL4.out]; exact HC5.out
   ·show bP _ m.length oc
    rw [HML.out]; exact HC6.out
  have hki : (k : Int) < (F.length : Int) := by omega
  obtain ⟨lb, lo, rfl, hlb, hlc⟩ := (HFz.out.below HI.out.bel aRC).2 k aK; obtain ⟨l0, l1, l2⟩ := hlc; have HXN : Hid (fX.getD k ⟨#[]⟩ = (F.getD k aT.zero).item) := by
   show _ = _
   rw [← HFN.out, List.getD_eq_getElem?_getD, List.getElem?_map, List.getD_eq_getElem?_getD, List.getElem?_eq_getElem aK]
   rfl
  have hxi : (F.getD k aT.zero).item.size ≤ 1048576 := by
   rw [← HXN.out]; exact HNI.out _ (by rw [List.getD_eq_getElem?_getD, List.getElem?_eq_getElem (by omega)]; exact List.getElem_mem _)
  generalize F.getD k aT.zero = x at l0 l1 l2 HXN hxi
  go_upto_region 8 with fail
  have bD := (Below.refl wr.heap.size wr).alloc aRC (.cells #[.string x.item, .int .i64 x.qty, .bool x.saved] 39); have eW := aRA (HI.out.next (by omega) bD)
  have cO := aRA bD; have P3 := aRA (heap_alloc_new wr (.cells #[.string x.item, .int .i64 x.qty, .bool x.saved] 39)); clear bD l0 l1 l2 x0 x1; generalize wr.alloc (.cells #[.string x.item, .int .i64 x.qty, .bool x.saved] 39) = w1 at eW cO P3 ⊢; have hx1 : wr.heap.size < w1.heap.size := (aRB P3.out).1; have eF := aRA ((HEz.out.below eW.out.bel (by omega)).up (B' := w1.heap.size) (by omega))
  obtain ⟨x0, x1⟩ := pair_cells eW.out.rest; obtain ⟨d0, d1, d2⟩ := zZ P3.out
  go_wp2_with fail
  refine (G9 w1 w1.heap.size E eF.out vg vo oa vc n oc d zs m 3 0 0 0 x.item eW.out.ints eW.out.ops aRC eW.out.capv eW.out.capo eW.out.cart hd hxi).mono ?_
  intro e w2 iX
  have aN := iX.bel; have sA := aRA (eW.out.next (by omega) aN)
  have r9 := aN.size; clear x0 x1 d0 d1 d2 P3 eF; rcases iX with ⟨h1, rfl, _⟩ | ⟨h1, va, M6, I2, N0, cE, rfl, h2, h3, h4, h5, h6, h7, h8⟩
  ·have Z7 : Hid (T = ((eA zs m d 3 x.item 0).1, [], [])) := by
    have := HI.out.tot; rw [aDj (by omega), HXN.out, if_neg h1] at this
    exact this.symm
   obtain ⟨code, cV⟩ : ∃ code, code = (eA zs m d 3 x.item 0).1 := ⟨_, rfl⟩; rw [← cV] at h1 Z7 ⊢; have V3 : mN E code = .iface 226 (.pointer (some (E code))) := by unfold mN; rw [if_neg h1]
   rw [V3]; have HER := aRA V3; clear cV V3 aN eW HI cO
   go_upto_region 9 with fail
   have bD := (Below.refl w2.heap.size w2).alloc aRC (.cells #[.slice none 0 0, .slice none 0 0] 27); have uL := aRA (sA.out.next (by omega) bD)
   clear bD sA; generalize w2.alloc (.cells #[.slice none 0 0, .slice none 0 0] 27) = w3 at uL ⊢; generalize w2.heap.size = nb at r9 ⊢; have qD : Hid (xB w w3 #[.slice (some ⟨g, off, none⟩) 4 cv, .slice ao no co] #[.slice none 0 0, .slice none 0 0] 27) := ⟨(uL.out.bel.block _ (by omega)).trans dF.out.fst, (uL.out.bel.block _ (by omega)).trans dF.out.snd, dF.out.bel.trans (uL.out.bel.mono (by omega))⟩
   obtain ⟨r0, r1⟩ := pair_cells qD.out.snd; obtain ⟨gK, gJ⟩ := aD qD.out.snd; have HX := aRA (oY qD.out (.slice none 0 0) (.slice none 0 0)).1; have cA := aRA (qD.out.bel.trans ((oY qD.out (.slice none 0 0) (.slice none 0 0)).2.mono (by omega)))
   go_wp2
   change bodyPost _ _ _ _ _ ((w3.setCell ⟨w.heap.size + 1, 0, none⟩ (.slice none 0 0)).setCell ⟨w.heap.size + 1, 1, none⟩ (.slice none 0 0))
   clear r0 r1 gK gJ; generalize ((w3.setCell ⟨w.heap.size + 1, 0, none⟩ (.slice none 0 0)).setCell ⟨w.heap.size + 1, 1, none⟩ (.slice none 0 0)) = wf at HX cA ⊢; obtain ⟨q0, q1⟩ := pair_cells HX.out; exact bodyPost_ret (v := .tuple #[.agg #[.slice none 0 0, .slice none 0 0], (.iface 226 (.pointer (some (E code))))]) (by simp [results, Tryz.results107, go_sem, q0, q1]) rfl ((show pL E (code, [], []) w _ wf from .inl ⟨h1, by rw [← HER.out], cA.out⟩).eqr Z7.out.symm)
  ·obtain ⟨R, hR⟩ : ∃ R, R = eA zs m d 3 x.item 0 := ⟨_, rfl⟩
   have gC := fun w3 h9 => HI.out.step (w3 := w3) (by omega) hd (by omega) HXN.out cO.out h1 h2 h3 h4 h5 h6 h7 h8 h9
   rw [← hR] at gC ⊢; have HST := aRA gC; clear gC h1 h2 h3 h4 h5 h6 h7 h8 hR aN eW HI cO
   go_upto_region 9 with fail
   have bD := (Below.refl w2.heap.size w2).alloc aRC (.cells #[.slice va R.2.1.length M6, .slice I2 R.2.2.length N0] 27); have uL := aRA (sA.out.next (by omega) bD)
   have HS3 := aRA (HST.out _ bD); have qN := aRA (heap_alloc_new w2 (.cells #[.slice va R.2.1.length M6, .slice I2 R.2.2.length N0] 27)); clear bD sA HST; generalize w2.alloc (.cells #[.slice va R.2.1.length M6, .slice I2 R.2.2.length N0] 27) = w3 at uL HS3 qN ⊢; obtain ⟨R2, rfl, sN, gC⟩ := HS3.out; have HST := aRA gC; rw [sN] at qN ⊢; clear HS3 sN gC; have hx3 : w2.heap.size < w3.heap.size := (aRB qN.out).1; generalize w2.heap.size = nb at r9 qN hx3 ⊢; obtain ⟨x0, x1⟩ := pair_cells uL.out.rest; obtain ⟨M5, M4⟩ := aD uL.out.rest; obtain ⟨n0, n1⟩ := pair_cells qN.out
   go_upto_region 12 with fail
   generalize (w3.setCell ⟨rb, 0, none⟩ (.slice (some ⟨R2, 0, none⟩) 4 M6)).setCell ⟨rb, 1, none⟩ (.slice I2 R.2.2.length N0) = w4 at HST ⊢; clear x0 x1 M5 M4 n0 n1 uL qN; go_wp2
   go_roundw
   case rel => exact ⟨k + 1, R.2.1, R.2.2, R2, 0, M6, I2, R.2.2.length, N0, by omega, by go_num, HST⟩
   case measure => simp [intOf]; omega
set_option linter.unusedVariables false
set_option linter.unusedSimpArgs false

theorem aEo {d : Nat} (hd : d < 4) : dD (d : Int) 0 3 = true := tC (by omega) (by omega)
theorem aHq {xs : List Int} {l : List aA} {d : Nat} (hc : aE xs l = true) (hd : d < 4) : E5 xs l (d : Int) = cY (d : Int) l l.length := by
 unfold E5
 rw [if_pos ⟨hc, aEo hd⟩]
theorem aHL {xs : List Int} {l : List aA} {d : Nat} (hc : aE xs l = true) (hd : d < 4) : rS xs l (d : Int) = rJ xs d l := by
 unfold rS
 rw [if_pos ⟨hc, aEo hd⟩]
 rfl
set_option maxHeartbeats 40000000 in
theorem aKb (w : World) (B : Nat) (E : Int → Addr) (hE : eZ w B E) (g off : Nat) (ao : Option Addr) (cv no co d : Nat) (xs : List Int) (l : List aA) (kind qty dv sq : Int) (item : ByteArray) (hx : Ints w B (some ⟨g, off, none⟩) 4 xs) (h : bS w B ao no l) (hB : B ≤ w.heap.size) (bI : 4 ≤ cv) (bM : bP ao no co) (hc : aE xs l = true) (hd : d < 4) (hi : item.size ≤ 1048576) (hk9 : kind = 9 → 0 ≤ dv ∧ dv ≤ 3) :
  Calls Tryz.prog 78 #[.agg #[.slice (some ⟨g, off, none⟩) 4 cv, .slice ao no co], .int .i64 (d : Int), .agg #[.int .i64 kind, .string item, .int .i64 qty, .int .i64 dv, .int .i64 sq]] w (pL E (jN xs l d kind item qty dv sq) w) := by
 have hM : no ≤ 160 := by rw [← h.1]; exact eU hc
 obtain ⟨T, uD⟩ : ∃ T, T = jN xs l d kind item qty dv sq := ⟨_, rfl⟩
 rw [← uD]
 have Z7 := aRA uD
 have hT := uX.mk0 w #[.slice (some ⟨g, off, none⟩) 4 cv, .slice ao no co] #[.int .i64 kind, .string item, .int .i64 qty, .int .i64 dv, .int .i64 sq] #[.slice none 0 0, .slice none 0 0] 27 29 27
 have HV := aRA (hx.below hT.bel hB)
 have HO := aRA (h.below hT.bel hB)
 have HE := aRA (hE.below hT.bel hB)
 have HT := aRA hT
 have jA := aRA bM
 have HC := aRA hc
 have HU := aRA (aHq hc hd)
 have HRd := aRA (aHL hc hd)
 have HK9 := aRA hk9
 clear hx h hT bM hE hc uD hk9
 go_enter Tryz.func78, Tryz.ntmps78
 go_upto_region 1 with fail
 generalize ((w.alloc (.cells #[.slice (some ⟨g, off, none⟩) 4 cv, .slice ao no co] 27)).alloc (.cells #[.int .i64 kind, .string item, .int .i64 qty, .int .i64 dv, .int .i64 sq] 29)).alloc (.cells #[.slice none 0 0, .slice none 0 0] 27) = w0 at HV HO HE HT ⊢
 have mF := HT.out.lt
 obtain ⟨c0, c1⟩ := pair_cells HT.out.fst
 obtain ⟨d0, d1, d2, d3, d4⟩ := mO HT.out.snd
 by_cases k6 : kind = 6
 ·subst k6
  go_wp2_with fail
  refine (aKa w0 B E HE.out g off ao cv no co d xs l HV.out HO.out (by omega) bI jA.out  HC.out hd).mono ?_
  intro e w3 iX
  obtain ⟨a, n, c, a', n', c', er, rfl⟩ := iX.form; have P7 := aRA iX; have bB := iX.bel; have bJ := aRA (HT.out.next bB); have iG := bB.size; clear iX bB c0 c1 d0 d1 d2 d3 d4; obtain ⟨r0, r1⟩ := pair_cells bJ.out.res; obtain ⟨gK, gJ⟩ := aD bJ.out.res; have HX := aRA (bJ.out.set2 (.slice a n c) (.slice a' n' c')).1; have cA := aRA (bJ.out.bel.trans ((bJ.out.set2 (.slice a n c) (.slice a' n' c')).2.mono (by omega)))
  have sM := bA w3 (w.heap.size + 1 + 1) (.slice a n c) (.slice a' n' c'); have C0 : Hid (∀ j, w0.heap.size ≤ j → ((w3.setCell ⟨w.heap.size + 1 + 1, 0, none⟩ (.slice a n c)).setCell ⟨w.heap.size + 1 + 1, 1, none⟩ (.slice a' n' c')).heap[j]? = w3.heap[j]?) := fun j hj => aF _ _ (by omega)
  go_wp2
  change bodyPost _ _ _ _ _ ((w3.setCell ⟨w.heap.size + 1 + 1, 0, none⟩ (.slice a n c)).setCell ⟨w.heap.size + 1 + 1, 1, none⟩ (.slice a' n' c'))
  clear r0 r1 gK gJ; generalize ((w3.setCell ⟨w.heap.size + 1 + 1, 0, none⟩ (.slice a n c)).setCell ⟨w.heap.size + 1 + 1, 1, none⟩ (.slice a' n' c')) = wf at HX cA C0 sM ⊢; obtain ⟨q0, q1⟩ := pair_cells HX.out; exact bodyPost_ret (v := .tuple #[.agg #[.slice a n c, .slice a' n' c'], er]) (by simp [results, Tryz.results78, go_sem, q0, q1]) rfl ((P7.out.up (by omega) C0.out sM cA.out).eqr (by rw [Z7.out]; unfold jN; rw [if_pos rfl]))
 have k6b : (kind == 6) = false := beq_eq_false_iff_ne.2 k6
 by_cases k7 : kind = 7
 ·subst k7
  go_wp2_with fail
  refine (aJE w0 B (some ⟨g, off, none⟩) ao 4 cv no co xs l (d : Int) HV.out HO.out (by omega) (by omega) jA.out.1 ⟨by omega, jA.out.2.1⟩).mono ?_
  rintro e w1 ⟨rfl, aI⟩; rw [HU.out]; have aZ := aRA (HT.out.next aI); have lP := aRA (HV.out.below aI (by omega))
  have dL := aRA (HO.out.below aI (by omega))
  have eF := aRA (HE.out.below aI (by omega))
  have fH := aI.size; clear aI c0 c1 d0 d1 d2 d3 d4 HT HV HO HE; obtain ⟨tg, A1⟩ : ∃ tg, tg = cY (d : Int) l l.length := ⟨_, rfl⟩; rw [← A1]; have T1 := aRA A1; clear A1; obtain ⟨c0, c1⟩ := pair_cells aZ.out.fst; obtain ⟨d0, d1, d2, d3, d4⟩ := mO aZ.out.snd
  go_wp2_with fail
  refine (vZ w1 B E eF.out g off ao cv no co d xs l tg lP.out dL.out (by omega) bI jA.out  HC.out hd).mono ?_
  intro e w3 iX
  obtain ⟨a, n, c, a', n', c', er, rfl⟩ := iX.form; have P7 := aRA iX; have bB := iX.bel; have bJ := aRA (aZ.out.next bB); have iG := bB.size; clear iX bB c0 c1 d0 d1 d2 d3 d4; obtain ⟨r0, r1⟩ := pair_cells bJ.out.res; obtain ⟨gK, gJ⟩ := aD bJ.out.res; have HX := aRA (bJ.out.set2 (.slice a n c) (.slice a' n' c')).1; have cA := aRA (bJ.out.bel.trans ((bJ.out.set2 (.slice a n c) (.slice a' n' c')).2.mono (by omega)))
  have sM := bA w3 (w.heap.size + 1 + 1) (.slice a n c) (.slice a' n' c'); have C0 : Hid (∀ j, w1.heap.size ≤ j → ((w3.setCell ⟨w.heap.size + 1 + 1, 0, none⟩ (.slice a n c)).setCell ⟨w.heap.size + 1 + 1, 1, none⟩ (.slice a' n' c')).heap[j]? = w3.heap[j]?) := fun j hj => aF _ _ (by omega)
  go_wp2
  change bodyPost _ _ _ _ _ ((w3.setCell ⟨w.heap.size + 1 + 1, 0, none⟩ (.slice a n c)).setCell ⟨w.heap.size + 1 + 1, 1, none⟩ (.slice a' n' c'))
  clear r0 r1 gK gJ; generalize ((w3.setCell ⟨w.heap.size + 1 + 1, 0, none⟩ (.slice a n c)).setCell ⟨w.heap.size + 1 + 1, 1, none⟩ (.slice a' n' c')) = wf at HX cA C0 sM ⊢; obtain ⟨q0, q1⟩ := pair_cells HX.out; exact bodyPost_ret (v := .tuple #[.agg #[.slice a n c, .slice a' n' c'], er]) (by simp [results, Tryz.results78, go_sem, q0, q1]) rfl ((P7.out.up (by omega) C0.out sM cA.out).eqr (by rw [Z7.out]; unfold jN; rw [if_neg (by decide)]; rw [if_pos rfl, T1.out]))
 have k7b : (kind == 7) = false := beq_eq_false_iff_ne.2 k7
 by_cases k8 : kind = 8
 ·subst k8
  go_wp2_with fail
  refine (aEp w0 B (some ⟨g, off, none⟩) ao 4 cv no co xs l (d : Int) HV.out HO.out (by omega) (by omega) jA.out.1 ⟨by omega, jA.out.2.1⟩).mono ?_
  rintro e w1 ⟨rfl, aI⟩; rw [HRd.out]; have aZ := aRA (HT.out.next aI); have lP := aRA (HV.out.below aI (by omega))
  have dL := aRA (HO.out.below aI (by omega))
  have eF := aRA (HE.out.below aI (by omega))
  have fH := aI.size; clear aI c0 c1 d0 d1 d2 d3 d4 HT HV HO HE; obtain ⟨tg, A1⟩ : ∃ tg, tg = rJ xs d l := ⟨_, rfl⟩; rw [← A1]; have T1 := aRA A1; clear A1; obtain ⟨c0, c1⟩ := pair_cells aZ.out.fst; obtain ⟨d0, d1, d2, d3, d4⟩ := mO aZ.out.snd
  go_wp2_with fail
  refine (vZ w1 B E eF.out g off ao cv no co d xs l tg lP.out dL.out (by omega) bI jA.out  HC.out hd).mono ?_
  intro e w3 iX
  obtain ⟨a, n, c, a', n', c', er, rfl⟩ := iX.form; have P7 := aRA iX; have bB := iX.bel; have bJ := aRA (aZ.out.next bB); have iG := bB.size; clear iX bB c0 c1 d0 d1 d2 d3 d4; obtain ⟨r0, r1⟩ := pair_cells bJ.out.res; obtain ⟨gK, gJ⟩ := aD bJ.out.res; have HX := aRA (bJ.out.set2 (.slice a n c) (.slice a' n' c')).1; have cA := aRA (bJ.out.bel.trans ((bJ.out.set2 (.slice a n c) (.slice a' n' c')).2.mono (by omega)))
  have sM := bA w3 (w.heap.size + 1 + 1) (.slice a n c) (.slice a' n' c'); have C0 : Hid (∀ j, w1.heap.size ≤ j → ((w3.setCell ⟨w.heap.size + 1 + 1, 0, none⟩ (.slice a n c)).setCell ⟨w.heap.size + 1 + 1, 1, none⟩ (.slice a' n' c')).heap[j]? = w3.heap[j]?) := fun j hj => aF _ _ (by omega)
  go_wp2
  change bodyPost _ _ _ _ _ ((w3.setCell ⟨w.heap.size + 1 + 1, 0, none⟩ (.slice a n c)).setCell ⟨w.heap.size + 1 + 1, 1, none⟩ (.slice a' n' c'))
  clear r0 r1 gK gJ; generalize ((w3.setCell ⟨w.heap.size + 1 + 1, 0, none⟩ (.slice a n c)).setCell ⟨w.heap.size + 1 + 1, 1, none⟩ (.slice a' n' c')) = wf at HX cA C0 sM ⊢; obtain ⟨q0, q1⟩ := pair_cells HX.out; exact bodyPost_ret (v := .tuple #[.agg #[.slice a n c, .slice a' n' c'], er]) (by simp [results, Tryz.results78, go_sem, q0, q1]) rfl ((P7.out.up (by omega) C0.out sM cA.out).eqr (by rw [Z7.out]; unfold jN; rw [if_neg (by decide)]; rw [if_neg (by decide)]; rw [if_pos rfl, T1.out]))
 have k8b : (kind == 8) = false := beq_eq_false_iff_ne.2 k8
 by_cases k9 : kind = 9
 ·subst k9
  obtain ⟨hv0, hv1⟩ := HK9.out rfl; obtain ⟨dd, rfl⟩ : ∃ dd : Nat, dv = (dd : Int) := ⟨dv.toNat, by omega⟩
  have hdd : dd < 4 := by omega
  go_wp2_with fail
  refine (vZ w0 B E HE.out g off ao cv no co dd xs l sq HV.out HO.out (by omega) bI jA.out  HC.out hdd).mono ?_
  intro e w3 iX
  obtain ⟨a, n, c, a', n', c', er, rfl⟩ := iX.form; have P7 := aRA iX; have bB := iX.bel; have bJ := aRA (HT.out.next bB); have iG := bB.size; clear iX bB c0 c1 d0 d1 d2 d3 d4; obtain ⟨r0, r1⟩ := pair_cells bJ.out.res; obtain ⟨gK, gJ⟩ := aD bJ.out.res; have HX := aRA (bJ.out.set2 (.slice a n c) (.slice a' n' c')).1; have cA := aRA (bJ.out.bel.trans ((bJ.out.set2 (.slice a n c) (.slice a' n' c')).2.mono (by omega)))
  have sM := bA w3 (w.heap.size + 1 + 1) (.slice a n c) (.slice a' n' c'); have C0 : Hid (∀ j, w0.heap.size ≤ j → ((w3.setCell ⟨w.heap.size + 1 + 1, 0, none⟩ (.slice a n c)).setCell ⟨w.heap.size + 1 + 1, 1, none⟩ (.slice a' n' c')).heap[j]? = w3.heap[j]?) := fun j hj => aF _ _ (by omega)
  go_wp2
  change bodyPost _ _ _ _ _ ((w3.setCell ⟨w.heap.size + 1 + 1, 0, none⟩ (.slice a n c)).setCell ⟨w.heap.size + 1 + 1, 1, none⟩ (.slice a' n' c'))
  clear r0 r1 gK gJ; generalize ((w3.setCell ⟨w.heap.size + 1 + 1, 0, none⟩ (.slice a n c)).setCell ⟨w.heap.size + 1 + 1, 1, none⟩ (.slice a' n' c')) = wf at HX cA C0 sM ⊢; obtain ⟨q0, q1⟩ := pair_cells HX.out; exact bodyPost_ret (v := .tuple #[.agg #[.slice a n c, .slice a' n' c'], er]) (by simp [results, Tryz.results78, go_sem, q0, q1]) rfl ((P7.out.up (by omega) C0.out sM cA.out).eqr (by rw [Z7.out]; unfold jN; rw [if_neg (by decide), if_neg (by decide), if_neg (by decide), if_pos rfl]))
 have k9b : (kind == 9) = false := beq_eq_false_iff_ne.2 k9
 go_wp2_with fail
 refine (G9 w0 B E HE.out g off ao cv no co d xs l kind qty dv sq item HV.out HO.out (by omega) bI jA.out  HC.out hd hi).mono ?_
 intro e w3 iX
 obtain ⟨a, n, c, a', n', c', er, rfl⟩ := iX.form
 have P7 := aRA iX
 have bB := iX.bel
 have bJ := aRA (HT.out.next bB)
 have iG := bB.size
 clear iX bB c0 c1 d0 d1 d2 d3 d4
 obtain ⟨r0, r1⟩ := pair_cells bJ.out.res
 obtain ⟨gK, gJ⟩ := aD bJ.out.res
 have HX := aRA (bJ.out.set2 (.slice a n c) (.slice a' n' c')).1
 have cA := aRA (bJ.out.bel.trans ((bJ.out.set2 (.slice a n c) (.slice a' n' c')).2.mono (by omega)))
 have sM := bA w3 (w.heap.size + 1 + 1) (.slice a n c) (.slice a' n' c')
 have C0 : Hid (∀ j, w0.heap.size ≤ j → ((w3.setCell ⟨w.heap.size + 1 + 1, 0, none⟩ (.slice a n c)).setCell ⟨w.heap.size + 1 + 1, 1, none⟩ (.slice a' n' c')).heap[j]? = w3.heap[j]?) := fun j hj => aF _ _ (by omega)
 go_wp2
 change bodyPost _ _ _ _ _ ((w3.setCell ⟨w.heap.size + 1 + 1, 0, none⟩ (.slice a n c)).setCell ⟨w.heap.size + 1 + 1, 1, none⟩ (.slice a' n' c'))
 clear r0 r1 gK gJ
 generalize ((w3.setCell ⟨w.heap.size + 1 + 1, 0, none⟩ (.slice a n c)).setCell ⟨w.heap.size + 1 + 1, 1, none⟩ (.slice a' n' c')) = wf at HX cA C0 sM ⊢
 obtain ⟨q0, q1⟩ := pair_cells HX.out
 exact bodyPost_ret (v := .tuple #[.agg #[.slice a n c, .slice a' n' c'], er]) (by simp [results, Tryz.results78, go_sem, q0, q1]) rfl ((P7.out.up (by omega) C0.out sM cA.out).eqr (by rw [Z7.out]; unfold jN; rw [if_neg k6, if_neg k7, if_neg k8, if_neg k9]))
set_option linter.unusedVariables false
set_option linter.unusedSimpArgs false

/-- What performing answers: a cart of the call's own, or a rejection with the cart that remains. -/
def PfP (E : Int → Addr) (r : Int × List Int × List aA) (w : World) (e : Ending) (w' : World) : Prop :=
 (r.1 = 0 ∧ pL E r w e w') ∨ (1 ≤ r.1 ∧ r.1 ≤ 4 ∧ ∃ rb ka kc oa oc cE, e = .returned (.tuple #[.agg #[.slice none 0 0, .slice none 0 0], .iface 66 (.pointer (some ⟨rb, 0, none⟩))]) ∧ w'.heap[rb]? = some (.cells #[.slice ka r.2.1.length kc, .slice oa r.2.2.length oc, mN E r.1] 70 (0, 0)) ∧ w.heap.size ≤ rb ∧ Own w' w.heap.size cE ka r.2.1.length r.2.1 ∧ bF w' cE w'.heap.size oa r.2.2.length r.2.2 ∧ w.heap.size ≤ cE ∧ cE ≤ w'.heap.size ∧ bP ka r.2.1.length kc ∧ bP oa r.2.2.length oc ∧ Below w.heap.size w w')
theorem PfP.eqr {E : Int → Addr} {r r' : Int × List Int × List aA} {w w' : World} {e : Ending} (h : PfP E r w e w') (e1 : r = r') : PfP E r' w e w' := e1 ▸ h
theorem S8 (E : Int → Addr) : mN E 1 = .iface 226 (.pointer (some (E 1))) := by unfold mN; rw [if_neg (by decide)]
theorem aGF {w : World} {B : Nat} {E : Int → Addr} (h : eZ w B E) : w.cell? ⟨0, 0, none⟩ = some (.iface 226 (.pointer (some (E 1)))) := h.cells 1 (by omega) (by omega)
set_option maxHeartbeats 40000000 in
theorem X4 (w : World) (B : Nat) (E : Int → Addr) (hE : eZ w B E) (av ao : Option Addr) (nv cv no co : Nat) (xs : List Int) (l : List aA) (dev kind qty dv sq : Int) (item : ByteArray) (hx : Ints w B av nv xs) (h : bS w B ao no l) (hB : B ≤ w.heap.size) (hv : nv ≤ 1048576) (hc : no ≤ co) (cM : Fits no co) (aBa : aE xs l = false ∨ (aE xs l = true ∧ dD dev 0 3 = false) ∨ (aE xs l = true ∧ dD dev 0 3 = true ∧ eN kind item qty dv sq = false)) :
  Calls Tryz.prog 42 #[.agg #[.slice av nv cv, .slice ao no co], .int .i64 dev, .agg #[.int .i64 kind, .string item, .int .i64 qty, .int .i64 dv, .int .i64 sq]] w (PfP E (1, [], []) w) := by
 have hT := uX.mk0 w #[.slice av nv cv, .slice ao no co] #[.int .i64 kind, .string item, .int .i64 qty, .int .i64 dv, .int .i64 sq] #[.slice none 0 0, .slice none 0 0] 27 29 27
 have HV := aRA (hx.below hT.bel hB)
 have HO := aRA (h.below hT.bel hB)
 have HE := aRA (hE.below hT.bel hB)
 have HT := aRA hT
 have aKI := aRA aBa
 have Z0 := hE.low
 clear hx h hT hE aBa
 go_enter Tryz.func42, Tryz.ntmps42
 go_upto_region 1 with fail
 generalize ((w.alloc (.cells #[.slice av nv cv, .slice ao no co] 27)).alloc (.cells #[.int .i64 kind, .string item, .int .i64 qty, .int .i64 dv, .int .i64 sq] 29)).alloc (.cells #[.slice none 0 0, .slice none 0 0] 27) = w0 at HV HO HE HT ⊢
 have mF := HT.out.lt
 obtain ⟨c0, c1⟩ := pair_cells HT.out.fst
 obtain ⟨d0, d1, d2, d3, d4⟩ := mO HT.out.snd
 go_wp2_with fail
 refine (tD w0 B av ao nv cv no co xs l HV.out HO.out (by omega) hv hc cM).mono ?_
 rintro e w1 ⟨rfl, aI⟩
 have aZ := aRA (HT.out.next aI)
 have eF := aRA (HE.out.below aI (by omega))
 have fH := aI.size
 clear aI c0 c1 d0 d1 d2 d3 d4 HT HE HV HO
 obtain ⟨d0, d1, d2, d3, d4⟩ := mO aZ.out.snd
 rcases aKI.out with hq | ⟨hq, hq2⟩ | ⟨hq, hq2, hq3⟩
 ·rw [hq]
  have g1 := aGF eF.out
  go_wp2_with fail
  refine wp_region_held_drew (S := fun w' => w'.cell? ⟨0, 0, none⟩ = some (.iface 226 (.pointer (some (E 1))))) (by kernel_rfl) g1 (fun aP => ?_)
  have dG : Hid (Below w1.heap.size w1 w1.drew) := ⟨rfl, rfl, rfl, Nat.le_refl _, fun _ _ => rfl⟩
  generalize w1.drew = z0 at dG aP ⊢; have dF := aRA (aZ.out.next dG.out); have dK := dG.out.size; have hlz := dF.out.lt; have fY := dF.out.bel.size; refine tj 0 ?_
  refine tj 1 ?_
  refine tj 2 ?_
  refine wpAnyH_ready (rs := [3, 5]) (by kernel_rfl) (by simp) ?_
  refine AllReadyH.cons rfl (fun K hK => ?_) (AllReadyH.cons rfl (fun K hK => ?_) AllReadyH.nil)
  ·
   have jX : Below z0.heap.size z0 (z0.alloc (.cells #[.slice none 0 0, .slice none 0 0, (.iface 226 (.pointer (some (E 1))))] 70)) := bl; have oS : (z0.alloc (.cells #[.slice none 0 0, .slice none 0 0, (.iface 226 (.pointer (some (E 1))))] 70)).cell? ⟨0, 0, none⟩ = some (.iface 226 (.pointer (some (E 1)))) := (jX.cell (p := ⟨0, 0, none⟩) (by show 0 < _; omega)).trans aP
   have qL := heap_alloc_new z0 (.cells #[.slice none 0 0, .slice none 0 0, (.iface 226 (.pointer (some (E 1))))] 70)
   go_simp
   refine hK.out _ _ oS (fun _ => ?_)
   clear hK K
   (try simp only [Act.put, u1, u2, u3])
   have qE := aRA (dF.out.next jX); generalize (z0.alloc (.cells #[.slice none 0 0, .slice none 0 0, (.iface 226 (.pointer (some (E 1))))] 70)) = za at jX oS qL qE ⊢; have hla : z0.heap.size < za.heap.size := (aRB qL).1; generalize z0.heap.size = rb at hla jX qL hlz dK fY ⊢; obtain ⟨r0, r1⟩ := pair_cells qE.out.res; obtain ⟨gK, gJ⟩ := aD qE.out.res; refine tj 4 ?_
   refine rk 5 rfl (fun K hK => ?_)
   go_simp
   refine hK.out _ _ ((World.cell?_of_block (a := ⟨0, 0, none⟩) (aF (w := za) (b := w.heap.size + 1 + 1) (k := 0) (.slice none 0 0) (.slice none 0 0) (by omega))).trans oS) (fun bZ => ?_)
   clear hK K
   (try simp only [Act.put, u1, u2, u3])
   refine tj 6 ?_
   refine wpAnyH_done (by kernel_rfl) ?_ _
   have HX := aRA (qE.out.set2 (.slice none 0 0) (.slice none 0 0)).1; have cA := aRA (qE.out.bel.trans ((qE.out.set2 (.slice none 0 0) (.slice none 0 0)).2.mono (by omega)))
   have kQ : Hid (((za.setCell ⟨w.heap.size + 1 + 1, 0, none⟩ (.slice none 0 0)).setCell ⟨w.heap.size + 1 + 1, 1, none⟩ (.slice none 0 0)).heap[rb]? = some (.cells #[.slice none 0 0, .slice none 0 0, (.iface 226 (.pointer (some (E 1))))] 70 (0, 0))) := (aF _ _ (by omega)).trans qL
   clear r0 r1 gK gJ qL jX; generalize ((za.setCell ⟨w.heap.size + 1 + 1, 0, none⟩ (.slice none 0 0)).setCell ⟨w.heap.size + 1 + 1, 1, none⟩ (.slice none 0 0)) = wf at HX cA kQ ⊢; go_wp2
   obtain ⟨q0, q1⟩ := pair_cells HX.out; exact bodyPost_ret (v := .tuple #[.agg #[.slice none 0 0, .slice none 0 0], .iface 66 (.pointer (some ⟨rb, 0, none⟩))]) (by simp [results, Tryz.results42, go_sem, q0, q1]) rfl (.inr ⟨by decide, by decide, rb, none, 0, none, 0, wf.heap.size, rfl, by rw [S8]; exact kQ.out, by omega, qQ _ _ _ _, gD _ _ _ _, cA.out.size, Nat.le_refl _, dA, dA, cA.out⟩)
  ·
   obtain ⟨r0, r1⟩ := pair_cells dF.out.res; obtain ⟨gK, gJ⟩ := aD dF.out.res; have oS : ((z0.setCell ⟨w.heap.size + 1 + 1, 0, none⟩ (.slice none 0 0)).setCell ⟨w.heap.size + 1 + 1, 1, none⟩ (.slice none 0 0)).cell? ⟨0, 0, none⟩ = some (.iface 226 (.pointer (some (E 1)))) := (World.cell?_of_block (a := ⟨0, 0, none⟩) (aF (w := z0) (b := w.heap.size + 1 + 1) (k := 0) (.slice none 0 0) (.slice none 0 0) (by omega))).trans aP
   have hX := (dF.out.set2 (.slice none 0 0) (.slice none 0 0)).1; have x8 := dF.out.bel.trans ((dF.out.set2 (.slice none 0 0) (.slice none 0 0)).2.mono (by omega))
   have r8 : ((z0.setCell ⟨w.heap.size + 1 + 1, 0, none⟩ (.slice none 0 0)).setCell ⟨w.heap.size + 1 + 1, 1, none⟩ (.slice none 0 0)).heap.size = z0.heap.size := bA _ _ _ _
   go_simp
   refine hK.out _ _ oS (fun _ => ?_)
   clear hK K r0 r1 gK gJ
   (try simp only [Act.put, u1, u2, u3])
   generalize ((z0.setCell ⟨w.heap.size + 1 + 1, 0, none⟩ (.slice none 0 0)).setCell ⟨w.heap.size + 1 + 1, 1, none⟩ (.slice none 0 0)) = za at oS hX x8 r8 ⊢; refine rk 3 rfl (fun K hK => ?_)
   have jX : Below za.heap.size za (za.alloc (.cells #[.slice none 0 0, .slice none 0 0, (.iface 226 (.pointer (some (E 1))))] 70)) := bl; have x7 : (za.alloc (.cells #[.slice none 0 0, .slice none 0 0, (.iface 226 (.pointer (some (E 1))))] 70)).cell? ⟨0, 0, none⟩ = some (.iface 226 (.pointer (some (E 1)))) := (jX.cell (p := ⟨0, 0, none⟩) (by show 0 < _; omega)).trans oS
   have qL := heap_alloc_new za (.cells #[.slice none 0 0, .slice none 0 0, (.iface 226 (.pointer (some (E 1))))] 70)
   go_simp
   refine hK.out _ _ x7 (fun _ => ?_)
   clear hK K
   (try simp only [Act.put, u1, u2, u3])
   have HX := aRA ((jX.block _ (by omega)).trans hX)
   have cA := aRA (x8.trans (jX.mono (by omega)))
   have kQ := aRA qL; generalize za.alloc (.cells #[.slice none 0 0, .slice none 0 0, (.iface 226 (.pointer (some (E 1))))] 70) = wf at x7 HX cA kQ ⊢; clear qL jX hX x8; generalize za.heap.size = rb at kQ r8 ⊢; refine tj 4 ?_
   refine tj 6 ?_
   refine wpAnyH_done (by kernel_rfl) ?_ _
   go_wp2
   obtain ⟨q0, q1⟩ := pair_cells HX.out; exact bodyPost_ret (v := .tuple #[.agg #[.slice none 0 0, .slice none 0 0], .iface 66 (.pointer (some ⟨rb, 0, none⟩))]) (by simp [results, Tryz.results42, go_sem, q0, q1]) rfl (.inr ⟨by decide, by decide, rb, none, 0, none, 0, wf.heap.size, rfl, by rw [S8]; exact kQ.out, by omega, qQ _ _ _ _, gD _ _ _ _, cA.out.size, Nat.le_refl _, dA, dA, cA.out⟩)
 ·rw [hq]
  go_wp2_with fail
  refine (A9 dev w1).mono ?_
  rintro e w1' ⟨rfl, rfl⟩; rw [hq2]; have g1 := aGF eF.out
  go_wp2_with fail
  refine wp_region_held_drew (S := fun w' => w'.cell? ⟨0, 0, none⟩ = some (.iface 226 (.pointer (some (E 1))))) (by kernel_rfl) g1 (fun aP => ?_)
  have dG : Hid (Below w1.heap.size w1 w1.drew) := ⟨rfl, rfl, rfl, Nat.le_refl _, fun _ _ => rfl⟩
  generalize w1.drew = z0 at dG aP ⊢; have dF := aRA (aZ.out.next dG.out); have dK := dG.out.size; have hlz := dF.out.lt; have fY := dF.out.bel.size; refine tj 0 ?_
  refine tj 1 ?_
  refine tj 2 ?_
  refine wpAnyH_ready (rs := [3, 5]) (by kernel_rfl) (by simp) ?_
  refine AllReadyH.cons rfl (fun K hK => ?_) (AllReadyH.cons rfl (fun K hK => ?_) AllReadyH.nil)
  ·
   have jX : Below z0.heap.size z0 (z0.alloc (.cells #[.slice none 0 0, .slice none 0 0, (.iface 226 (.pointer (some (E 1))))] 70)) := bl; have oS : (z0.alloc (.cells #[.slice none 0 0, .slice none 0 0, (.iface 226 (.pointer (some (E 1))))] 70)).cell? ⟨0, 0, none⟩ = some (.iface 226 (.pointer (some (E 1)))) := (jX.cell (p := ⟨0, 0, none⟩) (by show 0 < _; omega)).trans aP
   have qL := heap_alloc_new z0 (.cells #[.slice none 0 0, .slice none 0 0, (.iface 226 (.pointer (some (E 1))))] 70)
   go_simp
   refine hK.out _ _ oS (fun _ => ?_)
   clear hK K
   (try simp only [Act.put, u1, u2, u3])
   have qE := aRA (dF.out.next jX); generalize (z0.alloc (.cells #[.slice none 0 0, .slice none 0 0, (.iface 226 (.pointer (some (E 1))))] 70)) = za at jX oS qL qE ⊢; have hla : z0.heap.size < za.heap.size := (aRB qL).1; generalize z0.heap.size = rb at hla jX qL hlz dK fY ⊢; obtain ⟨r0, r1⟩ := pair_cells qE.out.res; obtain ⟨gK, gJ⟩ := aD qE.out.res; refine tj 4 ?_
   refine rk 5 rfl (fun K hK => ?_)
   go_simp
   refine hK.out _ _ ((World.cell?_of_block (a := ⟨0, 0, none⟩) (aF (w := za) (b := w.heap.size + 1 + 1) (k := 0) (.slice none 0 0) (.slice none 0 0) (by omega))).trans oS) (fun bZ => ?_)
   clear hK K
   (try simp only [Act.put, u1, u2, u3])
   refine tj 6 ?_
   refine wpAnyH_done (by kernel_rfl) ?_ _
   have HX := aRA (qE.out.set2 (.slice none 0 0) (.slice none 0 0)).1; have cA := aRA (qE.out.bel.trans ((qE.out.set2 (.slice none 0 0) (.slice none 0 0)).2.mono (by omega)))
   have kQ : Hid (((za.setCell ⟨w.heap.size + 1 + 1, 0, none⟩ (.slice none 0 0)).setCell ⟨w.heap.size + 1 + 1, 1, none⟩ (.slice none 0 0)).heap[rb]? = some (.cells #[.slice none 0 0, .slice none 0 0, (.iface 226 (.pointer (some (E 1))))] 70 (0, 0))) := (aF _ _ (by omega)).trans qL
   clear r0 r1 gK gJ qL jX; generalize ((za.setCell ⟨w.heap.size + 1 + 1, 0, none⟩ (.slice none 0 0)).setCell ⟨w.heap.size + 1 + 1, 1, none⟩ (.slice none 0 0)) = wf at HX cA kQ ⊢; go_wp2
   obtain ⟨q0, q1⟩ := pair_cells HX.out; exact bodyPost_ret (v := .tuple #[.agg #[.slice none 0 0, .slice none 0 0], .iface 66 (.pointer (some ⟨rb, 0, none⟩))]) (by simp [results, Tryz.results42, go_sem, q0, q1]) rfl (.inr ⟨by decide, by decide, rb, none, 0, none, 0, wf.heap.size, rfl, by rw [S8]; exact kQ.out, by omega, qQ _ _ _ _, gD _ _ _ _, cA.out.size, Nat.le_refl _, dA, dA, cA.out⟩)
  ·
   obtain ⟨r0, r1⟩ := pair_cells dF.out.res; obtain ⟨gK, gJ⟩ := aD dF.out.res; have oS : ((z0.setCell ⟨w.heap.size + 1 + 1, 0, none⟩ (.slice none 0 0)).setCell ⟨w.heap.size + 1 + 1, 1, none⟩ (.slice none 0 0)).cell? ⟨0, 0, none⟩ = some (.iface 226 (.pointer (some (E 1)))) := (World.cell?_of_block (a := ⟨0, 0, none⟩) (aF (w := z0) (b := w.heap.size + 1 + 1) (k := 0) (.slice none 0 0) (.slice none 0 0) (by omega))).trans aP
   have hX := (dF.out.set2 (.slice none 0 0) (.slice none 0 0)).1; have x8 := dF.out.bel.trans ((dF.out.set2 (.slice none 0 0) (.slice none 0 0)).2.mono (by omega))
   have r8 : ((z0.setCell ⟨w.heap.size + 1 + 1, 0, none⟩ (.slice none 0 0)).setCell ⟨w.heap.size + 1 + 1, 1, none⟩ (.slice none 0 0)).heap.size = z0.heap.size := bA _ _ _ _
   go_simp
   refine hK.out _ _ oS (fun _ => ?_)
   clear hK K r0 r1 gK gJ
   (try simp only [Act.put, u1, u2, u3])
   generalize ((z0.setCell ⟨w.heap.size + 1 + 1, 0, none⟩ (.slice none 0 0)).setCell ⟨w.heap.size + 1 + 1, 1, none⟩ (.slice none 0 0)) = za at oS hX x8 r8 ⊢; refine rk 3 rfl (fun K hK => ?_)
   have jX : Below za.heap.size za (za.alloc (.cells #[.slice none 0 0, .slice none 0 0, (.iface 226 (.pointer (some (E 1))))] 70)) := bl; have x7 : (za.alloc (.cells #[.slice none 0 0, .slice none 0 0, (.iface 226 (.pointer (some (E 1))))] 70)).cell? ⟨0, 0, none⟩ = some (.iface 226 (.pointer (some (E 1)))) := (jX.cell (p := ⟨0, 0, none⟩) (by show 0 < _; omega)).trans oS
   have qL := heap_alloc_new za (.cells #[.slice none 0 0, .slice none 0 0, (.iface 226 (.pointer (some (E 1))))] 70)
   go_simp
   refine hK.out _ _ x7 (fun _ => ?_)
   clear hK K
   (try simp only [Act.put, u1, u2, u3])
   have HX := aRA ((jX.block _ (by omega)).trans hX)
   have cA := aRA (x8.trans (jX.mono (by omega)))
   have kQ := aRA qL; generalize za.alloc (.cells #[.slice none 0 0, .slice none 0 0, (.iface 226 (.pointer (some (E 1))))] 70) = wf at x7 HX cA kQ ⊢; clear qL jX hX x8; generalize za.heap.size = rb at kQ r8 ⊢; refine tj 4 ?_
   refine tj 6 ?_
   refine wpAnyH_done (by kernel_rfl) ?_ _
   go_wp2
   obtain ⟨q0, q1⟩ := pair_cells HX.out; exact bodyPost_ret (v := .tuple #[.agg #[.slice none 0 0, .slice none 0 0], .iface 66 (.pointer (some ⟨rb, 0, none⟩))]) (by simp [results, Tryz.results42, go_sem, q0, q1]) rfl (.inr ⟨by decide, by decide, rb, none, 0, none, 0, wf.heap.size, rfl, by rw [S8]; exact kQ.out, by omega, qQ _ _ _ _, gD _ _ _ _, cA.out.size, Nat.le_refl _, dA, dA, cA.out⟩)
 ·rw [hq]
  go_wp2_with fail
  refine (A9 dev w1).mono ?_
  rintro e w1' ⟨rfl, rfl⟩; rw [hq2]
  go_wp2_with fail
  refine (aFW kind item qty dv sq w1).mono ?_
  rintro e w2 ⟨rfl, aN⟩; rw [hq3]; have aM := aRA (aZ.out.next aN); have dQ := aRA (eF.out.below aN (by omega))
  have eV := aN.size; clear aN d0 d1 d2 d3 d4 aZ eF; have g1 := aGF dQ.out
  go_wp2_with fail
  refine wp_region_held_drew (S := fun w' => w'.cell? ⟨0, 0, none⟩ = some (.iface 226 (.pointer (some (E 1))))) (by kernel_rfl) g1 (fun aP => ?_)
  have dG : Hid (Below w2.heap.size w2 w2.drew) := ⟨rfl, rfl, rfl, Nat.le_refl _, fun _ _ => rfl⟩
  generalize w2.drew = z0 at dG aP ⊢; have dF := aRA (aM.out.next dG.out); have dK := dG.out.size; have hlz := dF.out.lt; have fY := dF.out.bel.size; refine tj 0 ?_
  refine tj 1 ?_
  refine tj 2 ?_
  refine wpAnyH_ready (rs := [3, 5]) (by kernel_rfl) (by simp) ?_
  refine AllReadyH.cons rfl (fun K hK => ?_) (AllReadyH.cons rfl (fun K hK => ?_) AllReadyH.nil)
  ·
   have jX : Below z0.heap.size z0 (z0.alloc (.cells #[.slice none 0 0, .slice none 0 0, (.iface 226 (.pointer (some (E 1))))] 70)) := bl; have oS : (z0.alloc (.cells #[.slice none 0 0, .slice none 0 0, (.iface 226 (.pointer (some (E 1))))] 70)).cell? ⟨0, 0, none⟩ = some (.iface 226 (.pointer (some (E 1)))) := (jX.cell (p := ⟨0, 0, none⟩) (by show 0 < _; omega)).trans aP
   have qL := heap_alloc_new z0 (.cells #[.slice none 0 0, .slice none 0 0, (.iface 226 (.pointer (some (E 1))))] 70)
   go_simp
   refine hK.out _ _ oS (fun _ => ?_)
   clear hK K
   (try simp only [Act.put, u1, u2, u3])
   have qE := aRA (dF.out.next jX); generalize (z0.alloc (.cells #[.slice none 0 0, .slice none 0 0, (.iface 226 (.pointer (some (E 1))))] 70)) = za at jX oS qL qE ⊢; have hla : z0.heap.size < za.heap.size := (aRB qL).1; generalize z0.heap.size = rb at hla jX qL hlz dK fY ⊢; obtain ⟨r0, r1⟩ := pair_cells qE.out.res; obtain ⟨gK, gJ⟩ := aD qE.out.res; refine tj 4 ?_
   refine rk 5 rfl (fun K hK => ?_)
   go_simp
   refine hK.out _ _ ((World.cell?_of_block (a := ⟨0, 0, none⟩) (aF (w := za) (b := w.heap.size + 1 + 1) (k := 0) (.slice none 0 0) (.slice none 0 0) (by omega))).trans oS) (fun bZ => ?_)
   clear hK K
   (try simp only [Act.put, u1, u2, u3])
   refine tj 6 ?_
   refine wpAnyH_done (by kernel_rfl) ?_ _
   have HX := aRA (qE.out.set2 (.slice none 0 0) (.slice none 0 0)).1; have cA := aRA (qE.out.bel.trans ((qE.out.set2 (.slice none 0 0) (.slice none 0 0)).2.mono (by omega)))
   have kQ : Hid (((za.setCell ⟨w.heap.size + 1 + 1, 0, none⟩ (.slice none 0 0)).setCell ⟨w.heap.size + 1 + 1, 1, none⟩ (.slice none 0 0)).heap[rb]? = some (.cells #[.slice none 0 0, .slice none 0 0, (.iface 226 (.pointer (some (E 1))))] 70 (0, 0))) := (aF _ _ (by omega)).trans qL
   clear r0 r1 gK gJ qL jX; generalize ((za.setCell ⟨w.heap.size + 1 + 1, 0, none⟩ (.slice none 0 0)).setCell ⟨w.heap.size + 1 + 1, 1, none⟩ (.slice none 0 0)) = wf at HX cA kQ ⊢; go_wp2
   obtain ⟨q0, q1⟩ := pair_cells HX.out; exact bodyPost_ret (v := .tuple #[.agg #[.slice none 0 0, .slice none 0 0], .iface 66 (.pointer (some ⟨rb, 0, none⟩))]) (by simp [results, Tryz.results42, go_sem, q0, q1]) rfl (.inr ⟨by decide, by decide, rb, none, 0, none, 0, wf.heap.size, rfl, by rw [S8]; exact kQ.out, by omega, qQ _ _ _ _, gD _ _ _ _, cA.out.size, Nat.le_refl _, dA, dA, cA.out⟩)
  ·
   obtain ⟨r0, r1⟩ := pair_cells dF.out.res; obtain ⟨gK, gJ⟩ := aD dF.out.res; have oS : ((z0.setCell ⟨w.heap.size + 1 + 1, 0, none⟩ (.slice none 0 0)).setCell ⟨w.heap.size + 1 + 1, 1, none⟩ (.slice none 0 0)).cell? ⟨0, 0, none⟩ = some (.iface 226 (.pointer (some (E 1)))) := (World.cell?_of_block (a := ⟨0, 0, none⟩) (aF (w := z0) (b := w.heap.size + 1 + 1) (k := 0) (.slice none 0 0) (.slice none 0 0) (by omega))).trans aP
   have hX := (dF.out.set2 (.slice none 0 0) (.slice none 0 0)).1; have x8 := dF.out.bel.trans ((dF.out.set2 (.slice none 0 0) (.slice none 0 0)).2.mono (by omega))
   have r8 : ((z0.setCell ⟨w.heap.size + 1 + 1, 0, none⟩ (.slice none 0 0)).setCell ⟨w.heap.size + 1 + 1, 1, none⟩ (.slice none 0 0)).heap.size = z0.heap.size := bA _ _ _ _
   go_simp
   refine hK.out _ _ oS (fun _ => ?_)
   clear hK K r0 r1 gK gJ
   (try simp only [Act.put, u1, u2, u3])
   generalize ((z0.setCell ⟨w.heap.size + 1 + 1, 0, none⟩ (.slice none 0 0)).setCell ⟨w.heap.size + 1 + 1, 1, none⟩ (.slice none 0 0)) = za at oS hX x8 r8 ⊢; refine rk 3 rfl (fun K hK => ?_)
   have jX : Below za.heap.size za (za.alloc (.cells #[.slice none 0 0, .slice none 0 0, (.iface 226 (.pointer (some (E 1))))] 70)) := bl; have x7 : (za.alloc (.cells #[.slice none 0 0, .slice none 0 0, (.iface 226 (.pointer (some (E 1))))] 70)).cell? ⟨0, 0, none⟩ = some (.iface 226 (.pointer (some (E 1)))) := (jX.cell (p := ⟨0, 0, none⟩) (by show 0 < _; omega)).trans oS
   have qL := heap_alloc_new za (.cells #[.slice none 0 0, .slice none 0 0, (.iface 226 (.pointer (some (E 1))))] 70)
   go_simp
   refine hK.out _ _ x7 (fun _ => ?_)
   clear hK K
   (try simp only [Act.put, u1, u2, u3])
   have HX := aRA ((jX.block _ (by omega)).trans hX)
   have cA := aRA (x8.trans (jX.mono (by omega)))
   have kQ := aRA qL; generalize za.alloc (.cells #[.slice none 0 0, .slice none 0 0, (.iface 226 (.pointer (some (E 1))))] 70) = wf at x7 HX cA kQ ⊢; clear qL jX hX x8; generalize za.heap.size = rb at kQ r8 ⊢; refine tj 4 ?_
   refine tj 6 ?_
   refine wpAnyH_done (by kernel_rfl) ?_ _
   go_wp2
   obtain ⟨q0, q1⟩ := pair_cells HX.out; exact bodyPost_ret (v := .tuple #[.agg #[.slice none 0 0, .slice none 0 0], .iface 66 (.pointer (some ⟨rb, 0, none⟩))]) (by simp [results, Tryz.results42, go_sem, q0, q1]) rfl (.inr ⟨by decide, by decide, rb, none, 0, none, 0, wf.heap.size, rfl, by rw [S8]; exact kQ.out, by omega, qQ _ _ _ _, gD _ _ _ _, cA.out.size, Nat.le_refl _, dA, dA, cA.out⟩)
set_option linter.unusedVariables false
set_option linter.unusedSimpArgs false

theorem aJ6 {kind : Int} {item : ByteArray} {qty dv sq : Int} (h : eN kind item qty dv sq = true) (hk : kind = 9) : 0 ≤ dv ∧ dv ≤ 3 := by
 subst hk
 have e : eN 9 item qty dv sq = (decide (item = ⟨#[]⟩ ∧ qty = 0) && (dD dv 0 3 && dD sq 1 40)) := rfl
 rw [e, Bool.and_eq_true, Bool.and_eq_true] at h
 have h2 := h.2.1
 unfold dD at h2
 exact of_decide_eq_true h2
theorem aGi (C9 : Int) (saved : Bool) (kind : Int) (item : ByteArray) (qty : Int) : (oneOf C9 saved kind item qty).2 = 0 ∨ (oneOf C9 saved kind item qty).2 = 2 ∨ (oneOf C9 saved kind item qty).2 = 3 := by
 unfold oneOf
 repeat' split
 all_goals simp
theorem aHU (xs : List Int) (l : List aA) (d : Nat) (kind : Int) (item : ByteArray) (qty : Int) : 0 ≤ (eA xs l d kind item qty).1 ∧ (eA xs l d kind item qty).1 ≤ 4 := by
 unfold eA
 dsimp only
 have h := aGi (aG item l l.length) (bG l item) kind item qty
 split
 ·split <;> simp
 ·show 0 ≤ (oneOf (aG item l l.length) (bG l item) kind item qty).2 ∧ (oneOf (aG item l l.length) (bG l item) kind item qty).2 ≤ 4
  omega
theorem j1 (xs : List Int) (l : List aA) (dev s : Int) : 0 ≤ (jK xs l dev s).1 ∧ (jK xs l dev s).1 ≤ 4 := by
 unfold jK
 split
 ·split <;> simp
 ·simp
theorem aIJ (xs : List Int) (l : List aA) (d : Nat) : 0 ≤ (sS xs l d).1 ∧ (sS xs l d).1 ≤ 4 := by
 unfold sS
 split
 ·simp
 ·split <;> simp
theorem aJq (xs : List Int) (l : List aA) (d : Nat) (kind : Int) (item : ByteArray) (qty dv sq : Int) : 0 ≤ (jN xs l d kind item qty dv sq).1 ∧ (jN xs l d kind item qty dv sq).1 ≤ 4 := by
 unfold jN
 split
 ·exact aIJ _ _ _
 ·split
  ·exact j1 _ _ _ _
  ·split
   ·exact j1 _ _ _ _
   ·split
    ·exact j1 _ _ _ _
    ·exact aHU _ _ _ _ _ _
set_option maxHeartbeats 40000000 in
theorem aFe (w : World) (B : Nat) (E : Int → Addr) (hE : eZ w B E) (g off : Nat) (ao : Option Addr) (cv no co d : Nat) (xs : List Int) (l : List aA) (kind qty dv sq : Int) (item : ByteArray) (hx : Ints w B (some ⟨g, off, none⟩) 4 xs) (h : bS w B ao no l) (hB : B ≤ w.heap.size) (bI : 4 ≤ cv) (bM : bP ao no co) (hc : aE xs l = true) (hd : d < 4) (hi : item.size ≤ 1048576) (aJW : eN kind item qty dv sq = true) :
  Calls Tryz.prog 42 #[.agg #[.slice (some ⟨g, off, none⟩) 4 cv, .slice ao no co], .int .i64 (d : Int), .agg #[.int .i64 kind, .string item, .int .i64 qty, .int .i64 dv, .int .i64 sq]] w (PfP E (if (jN xs l d kind item qty dv sq).1 = 0 then jN xs l d kind item qty dv sq else ((jN xs l d kind item qty dv sq).1, xs, l)) w) := by
 have hM : no ≤ 160 := by rw [← h.1]; exact eU hc
 have HM : Hid (∀ i, i < no → (l.getD i aA.zero).item.size ≤ 1048576) := fun i hi' => by
  have h2 := (dZ (fA hc (i := i) (by rw [h.1]; exact hi'))).2.2.2.2.1
  have e : aC l i = l.getD i aA.zero := rfl; rw [← e]; omega
 obtain ⟨T, uD⟩ : ∃ T, T = jN xs l d kind item qty dv sq := ⟨_, rfl⟩
 have cV := aJq xs l d kind item qty dv sq
 rw [← uD] at cV ⊢
 obtain ⟨R, hR0⟩ : ∃ R : Int × List Int × List aA, R = (if T.1 = 0 then T else (T.1, xs, l)) := ⟨_, rfl⟩
 rw [← hR0]
 have Z7 := aRA uD
 have yJ := aRA hR0
 have HCd := aRA cV
 have hT := uX.mk0 w #[.slice (some ⟨g, off, none⟩) 4 cv, .slice ao no co] #[.int .i64 kind, .string item, .int .i64 qty, .int .i64 dv, .int .i64 sq] #[.slice none 0 0, .slice none 0 0] 27 29 27
 have HV := aRA (hx.below hT.bel hB)
 have HO := aRA (h.below hT.bel hB)
 have HE := aRA (hE.below hT.bel hB)
 have HT := aRA hT
 have jA := aRA bM
 have HC := aRA hc
 have HCM := aRA aJW
 have HK9 := aRA (aJ6 aJW)
 have jP := aEo hd
 have HDV := aRA jP
 clear hx h hT bM hE hc uD hR0 cV aJW jP
 go_enter Tryz.func42, Tryz.ntmps42
 go_upto_region 1 with fail
 generalize ((w.alloc (.cells #[.slice (some ⟨g, off, none⟩) 4 cv, .slice ao no co] 27)).alloc (.cells #[.int .i64 kind, .string item, .int .i64 qty, .int .i64 dv, .int .i64 sq] 29)).alloc (.cells #[.slice none 0 0, .slice none 0 0] 27) = w0 at HV HO HE HT ⊢
 have mF := HT.out.lt
 obtain ⟨c0, c1⟩ := pair_cells HT.out.fst
 go_wp2_with fail
 refine (tD w0 B (some ⟨g, off, none⟩) ao 4 cv no co xs l HV.out HO.out (by omega) (by omega) jA.out.1 ⟨by omega, jA.out.2.1⟩).mono ?_
 rintro e w1 ⟨rfl, aI⟩
 rw [HC.out]
 have aZ := aRA (HT.out.next aI)
 have lP := aRA (HV.out.below aI (by omega))
 have dL := aRA (HO.out.below aI (by omega))
 have eF := aRA (HE.out.below aI (by omega))
 have fH := aI.size
 clear aI c0 c1 HT HE HV HO
 obtain ⟨d0, d1, d2, d3, d4⟩ := mO aZ.out.snd
 go_wp2_with fail
 refine (A9 (d : Int) w1).mono ?_
 rintro e w1' ⟨rfl, rfl⟩
 rw [HDV.out]
 go_wp2_with fail
 refine (aFW kind item qty dv sq w1).mono ?_
 rintro e w2 ⟨rfl, aN⟩
 rw [HCM.out]
 have aM := aRA (aZ.out.next aN)
 have mZ := aRA (lP.out.below aN (by omega))
 have iZ := aRA (dL.out.below aN (by omega))
 have dQ := aRA (eF.out.below aN (by omega))
 have eV := aN.size
 clear aN d0 d1 d2 d3 d4 aZ lP dL eF
 obtain ⟨c0, c1⟩ := pair_cells aM.out.fst
 obtain ⟨d0, d1, d2, d3, d4⟩ := mO aM.out.snd
 go_wp2_with fail
 refine (aKb w2 B E dQ.out g off ao cv no co d xs l kind qty dv sq item mZ.out iZ.out (by omega) bI jA.out  HC.out hd hi HK9.out).mono ?_
 intro e w3 iX
 rw [← Z7.out] at iX
 have bB := iX.bel
 have bJ := aRA (aM.out.next bB)
 have Z6 := aRA (mZ.out.below bB (by omega))
 have B9 := aRA (iZ.out.below bB (by omega))
 have iG := bB.size
 clear bB c0 c1 d0 d1 d2 d3 d4 mZ iZ dQ aM
 by_cases hz : T.1 = 0
 ·obtain ⟨a, n, c, a', n', c', er, rfl⟩ := iX.form
  have her : er = .nilIface := by
   rcases iX with ⟨h1, _⟩ | ⟨_, va, vc, oa, oc, cE, e1, _⟩
   ·exact absurd hz h1
   ·injection e1 with e1
    injection e1 with e1; have e2 := congrArg (fun x : Array Value => x[1]?) e1
    simpa using e2
  subst her; have P7 := aRA iX; have HRT : Hid (R = T) := by show _ = _; rw [yJ.out, if_pos hz]
  clear iX
  go_upto_region 4 with fail
  have bD := (Below.refl w3.heap.size w3).alloc aRC (.cells #[.slice a n c, .slice a' n' c'] 27); have iA := aRA (bJ.out.next bD); have T3 := aRA (heap_alloc_new w3 (.cells #[.slice a n c, .slice a' n' c'] 27)); have jI := aRA bD; clear bD bJ Z6 B9; generalize w3.alloc (.cells #[.slice a n c, .slice a' n' c'] 27) = w4 at iA T3 jI ⊢; have hx4 : w3.heap.size < w4.heap.size := (aRB T3.out).1; obtain ⟨r0, r1⟩ := pair_cells iA.out.res; obtain ⟨gK, gJ⟩ := aD iA.out.res; have HX := aRA (iA.out.set2 (.slice a n c) (.slice a' n' c')).1; have cA := aRA (iA.out.bel.trans ((iA.out.set2 (.slice a n c) (.slice a' n' c')).2.mono (by omega)))
  have HCf : Hid (pL E T w (.returned (.tuple #[.agg #[.slice a n c, .slice a' n' c'], .nilIface])) ((w4.setCell ⟨w.heap.size + 1 + 1, 0, none⟩ (.slice a n c)).setCell ⟨w.heap.size + 1 + 1, 1, none⟩ (.slice a' n' c'))) := by
   rcases P7.out with ⟨h1, _⟩ | ⟨h0, va, vc, oa, oc, cE, e1, h2, h3, h4, h5, h6, h7, _⟩
   ·exact absurd hz h1
   ·have wQ : ((w4.setCell ⟨w.heap.size + 1 + 1, 0, none⟩ (.slice a n c)).setCell ⟨w.heap.size + 1 + 1, 1, none⟩ (.slice a' n' c')).heap.size = w4.heap.size := bA _ _ _ _
    exact .inr ⟨h0, va, vc, oa, oc, cE, e1, ((h2.below jI.out h5).kept (fun j q1 q2 => aF _ _ (by omega))).more (by omega) aRC, by rw [wQ]; exact (((h3.below jI.out aRC).kept (fun j q1 q2 => aF _ _ (by omega))).more aRC (by omega)), by omega, by omega, h6, h7, cA.out⟩
  generalize w3.heap.size = nb at iG hx4 T3 jI ⊢; obtain ⟨n0, n1⟩ := pair_cells T3.out; go_wp2
  change bodyPost _ _ _ _ _ ((w4.setCell ⟨w.heap.size + 1 + 1, 0, none⟩ (.slice a n c)).setCell ⟨w.heap.size + 1 + 1, 1, none⟩ (.slice a' n' c'))
  clear n0 n1 r0 r1 gK gJ P7; generalize ((w4.setCell ⟨w.heap.size + 1 + 1, 0, none⟩ (.slice a n c)).setCell ⟨w.heap.size + 1 + 1, 1, none⟩ (.slice a' n' c')) = wf at HX cA HCf ⊢; obtain ⟨q0, q1⟩ := pair_cells HX.out; exact bodyPost_ret (v := .tuple #[.agg #[.slice a n c, .slice a' n' c'], .nilIface]) (by simp [results, Tryz.results42, go_sem, q0, q1]) rfl (PfP.eqr (.inl ⟨hz, HCf.out⟩) HRT.out.symm)
 ·rcases iX with ⟨h1, rfl, _⟩ | ⟨h0, _⟩
  rotate_left
  ·exact absurd h0 hz
  obtain ⟨code, cV⟩ : ∃ code, code = T.1 := ⟨_, rfl⟩; have HRT : Hid (R = (code, xs, l)) := by show _ = _; rw [yJ.out, if_neg hz, cV]
  have hc1 : 1 ≤ code ∧ code ≤ 4 := by have := HCd.out; omega
  rw [← cV] at h1 ⊢; have V3 : mN E code = (.iface 226 (.pointer (some (E code)))) := by unfold mN; rw [if_neg h1]
  rw [V3]; have HER := aRA V3; clear cV V3 hz h1; obtain ⟨hc3, hc4⟩ := hc1
  go_upto_region 4 with fail
  have bD := (Below.refl w3.heap.size w3).alloc aRC (.cells #[.slice none 0 0, .slice none 0 0] 27); have iA := aRA (bJ.out.next bD); have tK := aRA (Z6.out.below bD (by omega))
  have rZ := aRA (B9.out.below bD (by omega))
  have D1 := bD.size; clear bD bJ Z6 B9; generalize w3.alloc (.cells #[.slice none 0 0, .slice none 0 0] 27) = w4 at iA tK rZ D1 ⊢; generalize w3.heap.size = nb at iG D1 ⊢; have sN := iA.out.lt; obtain ⟨c0, c1⟩ := pair_cells iA.out.fst
  go_wp2_with fail
  refine (Q3 w4 B g off ao 4 cv no co xs l tK.out rZ.out (by omega) (by omega) (by omega) (by omega) jA.out.2.2  HM.out).mono ?_
  rintro e w5 ⟨va, vc, oa, oc, cE, rfl, aY, gW, nY, iM, bE, lJ⟩; have yI := aRA (iA.out.next bE); have hs5 := bE.size; have yK := aRA aY; have HRw := aRA gW; have iR := aRA lJ; obtain ⟨XL, I7⟩ : ∃ XL, XL = xs.length := ⟨_, rfl⟩; obtain ⟨LL, kI⟩ : ∃ LL, LL = l.length := ⟨_, rfl⟩; rw [← I7] at yK iR ⊢; rw [← kI] at HRw ⊢; have HXL := aRA I7; have HLL := aRA kI; clear bE aY gW lJ c0 c1 iA tK rZ I7 kI; have bD := (Below.refl w5.heap.size w5).alloc aRC (.cells #[.slice va XL vc, .slice oa LL oc, (.iface 226 (.pointer (some (E code))))] 70); have HT6 := aRA (yI.out.next bD); have HN6 := aRA (heap_alloc_new w5 (.cells #[.slice va XL vc, .slice oa LL oc, (.iface 226 (.pointer (some (E code))))] 70)); have dC := aRA bD; obtain ⟨w6, hw6⟩ : ∃ w6, w6 = w5.alloc (.cells #[.slice va XL vc, .slice oa LL oc, (.iface 226 (.pointer (some (E code))))] 70) := ⟨_, rfl⟩; rw [← hw6] at HT6 HN6 dC; have hx6 : w5.heap.size < w6.heap.size := (aRB HN6.out).1; obtain ⟨r0, r1⟩ := pair_cells HT6.out.res; obtain ⟨gK, gJ⟩ := aD HT6.out.res; have HX := aRA (HT6.out.set2 (.slice none 0 0) (.slice none 0 0)).1; have cA := aRA (HT6.out.bel.trans ((HT6.out.set2 (.slice none 0 0) (.slice none 0 0)).2.mono (by omega)))
  have wQ : ((w6.setCell ⟨w.heap.size + 1 + 1, 0, none⟩ (.slice none 0 0)).setCell ⟨w.heap.size + 1 + 1, 1, none⟩ (.slice none 0 0)).heap.size = w6.heap.size := bA _ _ _ _; have kQ : Hid (((w6.setCell ⟨w.heap.size + 1 + 1, 0, none⟩ (.slice none 0 0)).setCell ⟨w.heap.size + 1 + 1, 1, none⟩ (.slice none 0 0)).heap[w5.heap.size]? = some (.cells #[.slice va XL vc, .slice oa LL oc, (.iface 226 (.pointer (some (E code))))] 70 (0, 0))) := (aF _ _ (by have := yI.out.lt; omega)).trans HN6.out
  have B7 : Hid (Own ((w6.setCell ⟨w.heap.size + 1 + 1, 0, none⟩ (.slice none 0 0)).setCell ⟨w.heap.size + 1 + 1, 1, none⟩ (.slice none 0 0)) w4.heap.size cE va XL xs) := (yK.out.below dC.out iM).kept (fun j q1 q2 => aF _ _ (by omega))
  have vT := aRA (gS (zV (W' := ((w6.setCell ⟨w.heap.size + 1 + 1, 0, none⟩ (.slice none 0 0)).setCell ⟨w.heap.size + 1 + 1, 1, none⟩ (.slice none 0 0))) (vI (B := 0) HRw.out dC.out) (fun k y e hk => aF _ _ (by omega))) aRC)
  have HCf := aRA (hC HRw.out); rw [hw6] at r0 r1 gK gJ; have HW6 := aRA hw6; clear bD hw6 yI HT6 HN6 dC; go_wp2
  rw [← HW6.out]
  change bodyPost _ _ _ _ _ ((w6.setCell ⟨w.heap.size + 1 + 1, 0, none⟩ (.slice none 0 0)).setCell ⟨w.heap.size + 1 + 1, 1, none⟩ (.slice none 0 0))
  clear r0 r1 gK gJ; generalize ((w6.setCell ⟨w.heap.size + 1 + 1, 0, none⟩ (.slice none 0 0)).setCell ⟨w.heap.size + 1 + 1, 1, none⟩ (.slice none 0 0)) = wf at HX cA wQ kQ B7 vT ⊢; have hl5 : w.heap.size ≤ w5.heap.size := by omega
  generalize w5.heap.size = rb at kQ iM hs5 hx6 hl5 ⊢; obtain ⟨q0, q1⟩ := pair_cells HX.out; refine bodyPost_ret (v := .tuple #[.agg #[.slice none 0 0, .slice none 0 0], .iface 66 (.pointer (some ⟨rb, 0, none⟩))]) (by simp [results, Tryz.results42, go_sem, q0, q1]) rfl (PfP.eqr (show PfP E (code, xs, l) w _ wf from .inr ⟨hc3, hc4, rb, va, vc, oa, oc, cE, rfl, ?_, hl5, ?_, ?_, by omega, by omega, ?_, ?_, cA.out⟩) HRT.out.symm)
  ·show wf.heap[rb]? = some (.cells #[.slice va xs.length vc, .slice oa l.length oc, mN E code] _ _)
   rw [← HXL.out, ← HLL.out, HER.out]; exact kQ.out
  ·show Own wf w.heap.size cE va xs.length xs
   rw [← HXL.out]; exact B7.out.more (by omega) aRC
  ·show bF wf cE wf.heap.size oa l.length l
   rw [← HLL.out]; exact vT.out
  ·show bP va xs.length vc
   rw [← HXL.out]; exact iR.out
  ·show bP oa l.length oc
   rw [← HLL.out]; exact HCf.out
set_option linter.unusedVariables false
set_option linter.unusedSimpArgs false

/-- What a command answers: a code, and a cart of the call's own. -/
def C6 (r : Int × List Int × List aA) (w : World) (e : Ending) (w' : World) : Prop :=
 ∃ va vc oa oc cE, e = .returned (.tuple #[.agg #[.slice va r.2.1.length vc, .slice oa r.2.2.length oc], .int .i64 r.1]) ∧ Own w' w.heap.size cE va r.2.1.length r.2.1 ∧ bF w' cE w'.heap.size oa r.2.2.length r.2.2 ∧ w.heap.size ≤ cE ∧ cE ≤ w'.heap.size ∧ bP va r.2.1.length vc ∧ bP oa r.2.2.length oc ∧ Below w.heap.size w w'
set_option maxHeartbeats 40000000 in
theorem aCw (w : World) (B : Nat) (E : Int → Addr) (hE : eZ w B E) (hB : B ≤ w.heap.size) (av ao : Option Addr) (nv cv no co : Nat) (dev kind qty dv sq : Int) (item : ByteArray) (r : Int × List Int × List aA)
  (hP : ∀ w0, Below w.heap.size w w0 → Calls Tryz.prog 42 #[.agg #[.slice av nv cv, .slice ao no co], .int .i64 dev, .agg #[.int .i64 kind, .string item, .int .i64 qty, .int .i64 dv, .int .i64 sq]] w0 (PfP E r w0)) :
  Calls Tryz.prog 17 #[.agg #[.slice av nv cv, .slice ao no co], .int .i64 dev, .agg #[.int .i64 kind, .string item, .int .i64 qty, .int .i64 dv, .int .i64 sq]] w (C6 r w) := by
 have hT := uX.mk0 w #[.slice av nv cv, .slice ao no co] #[.int .i64 kind, .string item, .int .i64 qty, .int .i64 dv, .int .i64 sq] #[.slice none 0 0, .slice none 0 0] 27 29 27
 have HE := aRA (hE.below hT.bel hB)
 have HT := aRA hT
 have HP := aRA hP
 have Z0 := hE.low
 clear hT hE hP
 go_enter Tryz.func17, Tryz.ntmps17
 go_upto_region 1 with fail
 generalize ((w.alloc (.cells #[.slice av nv cv, .slice ao no co] 27)).alloc (.cells #[.int .i64 kind, .string item, .int .i64 qty, .int .i64 dv, .int .i64 sq] 29)).alloc (.cells #[.slice none 0 0, .slice none 0 0] 27) = w0 at HE HT ⊢
 have mF := HT.out.lt
 obtain ⟨c0, c1⟩ := pair_cells HT.out.fst
 obtain ⟨d0, d1, d2, d3, d4⟩ := mO HT.out.snd
 go_wp2_with fail
 refine (HP.out w0 HT.out.bel).mono ?_
 rintro e w1 (⟨qI, iX⟩ | ⟨dI, eK, rb, ka, kc, oa, oc, cE, rfl, Y1, hrw, aY, aEv, nY, iM, bI, bM, aI⟩)
 ·rcases iX with ⟨h1, _⟩ | ⟨_, va, vc, oa, oc, cE, rfl, aY, aEv, nY, iM, bI, bM, aI⟩
  ·exact absurd qI h1
  have aZ := aRA (HT.out.next aI); have yK := aRA aY; have HOp := aRA aEv; have kS := aRA bI; have rO := aRA bM; have rX := aRA qI; have fH := aI.size; clear aI aY aEv bI bM qI c0 c1 d0 d1 d2 d3 d4 HT HE HP; obtain ⟨zl, R8⟩ : ∃ zl, zl = r.2.1.length := ⟨_, rfl⟩; obtain ⟨ml, hml⟩ : ∃ ml, ml = r.2.2.length := ⟨_, rfl⟩; rw [← R8, ← hml]; have HZL := aRA R8; have HML := aRA hml; clear R8 hml
  go_upto_region 2 with fail
  have bD := (Below.refl w1.heap.size w1).alloc aRC (.cells #[.slice va zl vc, .slice oa ml oc] 27); have aM := aRA (aZ.out.next bD); have oC := aRA (heap_alloc_new w1 (.cells #[.slice va zl vc, .slice oa ml oc] 27)); have bK := aRA bD; clear bD aZ; generalize w1.alloc (.cells #[.slice va zl vc, .slice oa ml oc] 27) = w2 at aM oC bK ⊢; have q9 : w1.heap.size < w2.heap.size := (aRB oC.out).1
  go_upto_region 3 with fail
  have bD := (Below.refl w2.heap.size w2).alloc aRC (.cells #[.pointer none] 66); have bJ := aRA (aM.out.next bD); have qN := aRA ((bD.block _ q9).trans oC.out); have dR := aRA (bK.out.trans (bD.mono (Nat.le_of_lt q9))); have iG := bD.size; clear bD aM oC bK; generalize w2.alloc (.cells #[.pointer none] 66) = w3 at bJ qN dR iG ⊢
  go_wp2_with fail
  refine (aOY _ w3).mono ?_
  rintro e w3' ⟨rfl, rfl⟩; generalize w1.heap.size = nb at fH q9 iM qN dR HOp ⊢; obtain ⟨n0, n1⟩ := pair_cells qN.out; obtain ⟨r0, r1⟩ := pair_cells bJ.out.res; obtain ⟨gK, gJ⟩ := aD bJ.out.res; have HX := aRA (bJ.out.set2 (.slice va zl vc) (.slice oa ml oc)).1; have cA := aRA (bJ.out.bel.trans ((bJ.out.set2 (.slice va zl vc) (.slice oa ml oc)).2.mono (by omega)))
  have wQ : ((w3'.setCell ⟨w.heap.size + 1 + 1, 0, none⟩ (.slice va zl vc)).setCell ⟨w.heap.size + 1 + 1, 1, none⟩ (.slice oa ml oc)).heap.size = w3'.heap.size := bA _ _ _ _; have B7 : Hid (Own ((w3'.setCell ⟨w.heap.size + 1 + 1, 0, none⟩ (.slice va zl vc)).setCell ⟨w.heap.size + 1 + 1, 1, none⟩ (.slice oa ml oc)) w0.heap.size cE va r.2.1.length r.2.1) := (yK.out.below dR.out iM).kept (fun j q1 q2 => aF _ _ (by omega))
  have vT : Hid (bF ((w3'.setCell ⟨w.heap.size + 1 + 1, 0, none⟩ (.slice va zl vc)).setCell ⟨w.heap.size + 1 + 1, 1, none⟩ (.slice oa ml oc)) cE nb oa r.2.2.length r.2.2) := (HOp.out.below dR.out aRC).kept (fun j q1 q2 => aF _ _ (by omega))
  go_wp2
  change bodyPost _ _ _ _ _ ((w3'.setCell ⟨w.heap.size + 1 + 1, 0, none⟩ (.slice va zl vc)).setCell ⟨w.heap.size + 1 + 1, 1, none⟩ (.slice oa ml oc))
  clear n0 n1 r0 r1 gK gJ; generalize ((w3'.setCell ⟨w.heap.size + 1 + 1, 0, none⟩ (.slice va zl vc)).setCell ⟨w.heap.size + 1 + 1, 1, none⟩ (.slice oa ml oc)) = wf at HX cA wQ B7 vT ⊢; obtain ⟨q0, q1⟩ := pair_cells HX.out; exact bodyPost_ret (v := .tuple #[.agg #[.slice va zl vc, .slice oa ml oc], .int .i64 0]) (by simp [results, Tryz.results17, go_sem, q0, q1]) rfl ⟨va, vc, oa, oc, cE, by rw [HZL.out, HML.out, rX.out], B7.out.more (by omega) aRC, vT.out.more aRC (by omega), by omega, by omega, kS.out, rO.out, cA.out⟩
 ·have aZ := aRA (HT.out.next aI)
  have eF := aRA (HE.out.below aI (by omega))
  have yK := aRA aY; have HOp := aRA aEv; have kS := aRA bI; have rO := aRA bM; have kQ := aRA Y1; have fH := aI.size; have aPE : rb < w1.heap.size := (aRB Y1).1; clear aI aY aEv bI bM Y1 c0 c1 d0 d1 d2 d3 d4 HT HE HP; obtain ⟨zl, R8⟩ : ∃ zl, zl = r.2.1.length := ⟨_, rfl⟩; obtain ⟨ml, hml⟩ : ∃ ml, ml = r.2.2.length := ⟨_, rfl⟩; obtain ⟨code, cV⟩ : ∃ code, code = r.1 := ⟨_, rfl⟩; rw [← R8, ← hml, ← cV] at kQ; rw [← cV] at dI eK; have HZL := aRA R8; have HML := aRA hml; have HCD := aRA cV; clear R8 hml cV
  go_upto_region 2 with fail
  have bD := (Below.refl w1.heap.size w1).alloc aRC (.cells #[.slice none 0 0, .slice none 0 0] 27); have aM := aRA (aZ.out.next bD); have dQ := aRA (eF.out.below bD (by omega))
  have bK := aRA bD; have eV := bD.size; clear bD aZ eF; generalize w1.alloc (.cells #[.slice none 0 0, .slice none 0 0] 27) = w2 at aM dQ bK eV ⊢
  go_upto_region 3 with fail
  have bD := (Below.refl w2.heap.size w2).alloc aRC (.cells #[.pointer none] 66); have bJ := aRA (aM.out.next bD); have xZ := aRA (dQ.out.below bD (by omega))
  have dR := aRA (bK.out.trans (bD.mono eV)); have qN := aRA (heap_alloc_new w2 (.cells #[.pointer none] 66)); have iG := bD.size; clear bD aM dQ bK; generalize w2.alloc (.cells #[.pointer none] 66) = w3 at bJ xZ dR qN iG ⊢; have hx3 : w2.heap.size < w3.heap.size := (aRB qN.out).1; generalize w2.heap.size = tb at eV iG hx3 qN ⊢
  go_wp2_with fail
  refine (aOZ tb ⟨rb, 0, none⟩ ⟨tb, 0, none⟩ (.pointer none) w3 iG aRC rfl xZ.out.typ (aRD qN.out) (aRE qN.out)).mono ?_
  rintro e w4 ⟨rfl, dY, ht4, pT⟩; have iA : Hid (uX w w4 #[.slice av nv cv, .slice ao no co] 27 #[.int .i64 kind, .string item, .int .i64 qty, .int .i64 dv, .int .i64 sq] 29 #[.slice none 0 0, .slice none 0 0] 27) := ⟨(dY.block _ (by omega)).trans bJ.out.fst, (dY.block _ (by omega)).trans bJ.out.snd, (dY.block _ (by omega)).trans bJ.out.res, bJ.out.bel.trans (dY.mono (by omega))⟩
  have rN := aRA (xZ.out.below dY (by omega))
  have jI := aRA (dR.out.trans (dY.mono eV)); have D1 := dY.size; have HTC := aRA ht4; have aQi := aRA ((jI.out.block _ aPE).trans kQ.out); clear dY ht4 pT bJ xZ dR qN; obtain ⟨k0, k1, k2⟩ := zZ aQi.out; have hS : w4.cell? ⟨tb, 0, none⟩ = some (.pointer (some ⟨rb, 0, none⟩)) ∧ w4.cell? ⟨rb, 0, none⟩ = some (.slice ka zl kc) ∧ w4.cell? ⟨rb, 1, none⟩ = some (.slice oa ml oc) := ⟨HTC.out, k0, k1⟩
  go_wp2_with fail
  refine wp_region_held_drew (S := fun w' => w'.cell? ⟨tb, 0, none⟩ = some (.pointer (some ⟨rb, 0, none⟩)) ∧ w'.cell? ⟨rb, 0, none⟩ = some (.slice ka zl kc) ∧ w'.cell? ⟨rb, 1, none⟩ = some (.slice oa ml oc)) (by kernel_rfl) hS (fun aP => ?_)
  have dG : Hid (Below w4.heap.size w4 w4.drew) := ⟨rfl, rfl, rfl, Nat.le_refl _, fun _ _ => rfl⟩
  have aJQ : w4.drew.cell? ⟨rb, 0 + 2, none⟩ = some (mN E code) := k2; generalize w4.drew = z0 at dG aP aJQ ⊢; have dF := aRA (iA.out.next dG.out); have HEz := aRA (rN.out.below dG.out (by omega))
  have aOv := aRA (jI.out.trans (dG.out.mono (by omega)))
  have dK := dG.out.size; clear hS k0 k1 k2 iA rN dG; refine tj 0 ?_
  refine tj 1 ?_
  refine tj 2 ?_
  refine tj 3 ?_
  refine tj 4 ?_
  refine tj 5 ?_
  refine rk 6 rfl (fun K hK => ?_)
  go_simp
  go_at_call 44
  refine (aMa z0 B E HEz.out rb 0 code dI eK aJQ).mono ?_
  rintro e z1 ⟨rfl, rfl⟩; refine hK.out _ _ aP (fun bZ => ?_)
  clear hK K
  (try simp only [Act.put, u1, u2, u3])
  obtain ⟨r0, r1⟩ := pair_cells dF.out.res; obtain ⟨gK, gJ⟩ := aD dF.out.res; refine rk 7 rfl (fun K hK => ?_)
  go_simp
  refine hK.out _ _ ⟨(World.cell?_of_block (a := ⟨tb, 0, none⟩) (aF (w := z1) (b := w.heap.size + 1 + 1) (k := tb) (.slice ka zl kc) (.slice oa ml oc) (by omega))).trans aP.1, (World.cell?_of_block (a := ⟨rb, 0, none⟩) (aF (w := z1) (b := w.heap.size + 1 + 1) (k := rb) (.slice ka zl kc) (.slice oa ml oc) (by omega))).trans aP.2.1, (World.cell?_of_block (a := ⟨rb, 1, none⟩) (aF (w := z1) (b := w.heap.size + 1 + 1) (k := rb) (.slice ka zl kc) (.slice oa ml oc) (by omega))).trans aP.2.2⟩ (fun fT => ?_)
  clear hK K
  (try simp only [Act.put, u1, u2, u3])
  refine tj 8 ?_
  refine wpAnyH_done (by kernel_rfl) ?_ _
  have HX := aRA (dF.out.set2 (.slice ka zl kc) (.slice oa ml oc)).1; have cA := aRA (dF.out.bel.trans ((dF.out.set2 (.slice ka zl kc) (.slice oa ml oc)).2.mono (by omega)))
  have wQ : ((z1.setCell ⟨w.heap.size + 1 + 1, 0, none⟩ (.slice ka zl kc)).setCell ⟨w.heap.size + 1 + 1, 1, none⟩ (.slice oa ml oc)).heap.size = z1.heap.size := bA _ _ _ _; have B7 : Hid (Own ((z1.setCell ⟨w.heap.size + 1 + 1, 0, none⟩ (.slice ka zl kc)).setCell ⟨w.heap.size + 1 + 1, 1, none⟩ (.slice oa ml oc)) w0.heap.size cE ka r.2.1.length r.2.1) := (yK.out.below aOv.out iM).kept (fun j q1 q2 => aF _ _ (by omega))
  have vT : Hid (bF ((z1.setCell ⟨w.heap.size + 1 + 1, 0, none⟩ (.slice ka zl kc)).setCell ⟨w.heap.size + 1 + 1, 1, none⟩ (.slice oa ml oc)) cE w1.heap.size oa r.2.2.length r.2.2) := (HOp.out.below aOv.out aRC).kept (fun j q1 q2 => aF _ _ (by omega))
  go_wp2
  change bodyPost _ _ _ _ _ ((z1.setCell ⟨w.heap.size + 1 + 1, 0, none⟩ (.slice ka zl kc)).setCell ⟨w.heap.size + 1 + 1, 1, none⟩ (.slice oa ml oc))
  clear r0 r1 gK gJ aP bZ fT aJQ; generalize ((z1.setCell ⟨w.heap.size + 1 + 1, 0, none⟩ (.slice ka zl kc)).setCell ⟨w.heap.size + 1 + 1, 1, none⟩ (.slice oa ml oc)) = wf at HX cA wQ B7 vT ⊢; obtain ⟨q0, q1⟩ := pair_cells HX.out; exact bodyPost_ret (v := .tuple #[.agg #[.slice ka zl kc, .slice oa ml oc], .int .i64 code]) (by simp [results, Tryz.results17, go_sem, q0, q1]) rfl ⟨ka, kc, oa, oc, cE, by rw [HZL.out, HML.out, HCD.out], B7.out.more (by omega) aRC, vT.out.more aRC (by omega), by omega, by omega, kS.out, rO.out, cA.out⟩
/-- At a right cart of four numbers. -/
theorem aIp (w : World) (B : Nat) (E : Int → Addr) (hE : eZ w B E) (g off : Nat) (ao : Option Addr) (cv no co : Nat) (xs : List Int) (l : List aA) (dev kind qty dv sq : Int) (item : ByteArray) (hx : Ints w B (some ⟨g, off, none⟩) 4 xs) (h : bS w B ao no l) (hB : B ≤ w.heap.size) (bI : 4 ≤ cv) (bM : bP ao no co) (hM : no ≤ 1048576) (hi : item.size ≤ 1048576) :
  Calls Tryz.prog 17 #[.agg #[.slice (some ⟨g, off, none⟩) 4 cv, .slice ao no co], .int .i64 dev, .agg #[.int .i64 kind, .string item, .int .i64 qty, .int .i64 dv, .int .i64 sq]] w (C6 (bN xs l dev kind item qty dv sq) w) := by
 have aJS : Fits no co := ⟨hM, bM.2.1⟩
 by_cases hok : aE xs l = true ∧ dD dev 0 3 = true ∧ eN kind item qty dv sq = true
 ·obtain ⟨hc, jP, S3⟩ := hok
  have hd : 0 ≤ dev ∧ dev ≤ 3 := by unfold dD at jP; exact of_decide_eq_true jP
  obtain ⟨d, rfl⟩ : ∃ d : Nat, dev = (d : Int) := ⟨dev.toNat, by omega⟩
  have e : bN xs l (d : Int) kind item qty dv sq = (if (jN xs l d kind item qty dv sq).1 = 0 then jN xs l d kind item qty dv sq else ((jN xs l d kind item qty dv sq).1, xs, l)) := by
   unfold bN; rw [if_pos ⟨hc, jP, S3⟩]
   rfl
  rw [e]; exact aCw w B E hE hB _ _ _ _ _ _ _ _ _ _ _ _ _ (fun w0 hb => aFe w0 B E (hE.below hb hB) g off ao cv no co d xs l kind qty dv sq item (hx.below hb hB) (h.below hb hB) (Nat.le_trans hB hb.size) bI bM hc (by omega) hi S3)
 ·have e : bN xs l dev kind item qty dv sq = (1, [], []) := by
   unfold bN; rw [if_neg hok]
  rw [e]; exact aCw w B E hE hB _ _ _ _ _ _ _ _ _ _ _ _ _ (fun w0 hb => X4 w0 B E (hE.below hb hB) _ ao 4 cv no co xs l dev kind qty dv sq item (hx.below hb hB) (h.below hb hB) (Nat.le_trans hB hb.size) (by omega) bM.1 aJS (by
   cases h1 : aE xs l
   ·exact .inl rfl
   ·cases h2 : dD dev 0 3
    ·exact .inr (.inl ⟨rfl, rfl⟩)
    ·refine .inr (.inr ⟨rfl, rfl, ?_⟩)
     cases h3 : eN kind item qty dv sq
     ·rfl
     ·exact absurd ⟨h1, h2, h3⟩ hok))
/-- At a cart that is not right. -/
theorem aEq (w : World) (B : Nat) (E : Int → Addr) (hE : eZ w B E) (av ao : Option Addr) (nv cv no co : Nat) (xs : List Int) (l : List aA) (dev kind qty dv sq : Int) (item : ByteArray) (hx : Ints w B av nv xs) (h : bS w B ao no l) (hB : B ≤ w.heap.size) (hv : nv ≤ 1048576) (hc : no ≤ co) (cM : Fits no co) (aBa : aE xs l = false) :
  Calls Tryz.prog 17 #[.agg #[.slice av nv cv, .slice ao no co], .int .i64 dev, .agg #[.int .i64 kind, .string item, .int .i64 qty, .int .i64 dv, .int .i64 sq]] w (C6 (1, [], []) w) :=
 aCw w B E hE hB _ _ _ _ _ _ _ _ _ _ _ _ _ (fun w0 hb => X4 w0 B E (hE.below hb hB) av ao nv cv no co xs l dev kind qty dv sq item (hx.below hb hB) (h.below hb hB) (Nat.le_trans hB hb.size) hv hc cM (.inl aBa))
end Go.Proofs.YthkagbnpcjidfaaGreatDoor
