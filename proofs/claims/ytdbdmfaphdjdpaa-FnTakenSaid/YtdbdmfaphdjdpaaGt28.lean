/- Walks and mathematics that several claims share, part 28. -/
import Derived.Test.YtdbdmfaphdjdpaaGt27
import Derived.Test.YtdbdmfaphdjdpaaGt25
import Derived.Test.YtdbdmfaphdjdpaaGt18
import Derived.Test.YtdbdmfaphdjdpaaGt19
import Derived.Test.YtdbdmfaphdjdpaaGt26
import Derived.Test.YtdbdmfaphdjdpaaGt23
import Derived.Deep.RegionHeld3
import Derived.Deep.Cut
import Derived.Test.YtdbdmfaphdjdpaaGtA
namespace Go.Proofs.Ytdbdmfaphdjdpaa
set_option maxRecDepth 100000
open Go.RowKit

/-- Two carts agree at a name, and one of them has it. -/
def okT (l m : List OpV) (d s : Nat) : Prop := okP l m d s ∧ ((getO l (d : Int) ((s : Int) + 1)).isSome = true ∨ (getO m (d : Int) ((s : Int) + 1)).isSome = true)
/-- What spec.l7Taken hands back: a cart, which is the one that is asked for if the flag is true. -/
def TakPost (xs : List Int) (l : List OpV) (ys : List Int) (m : List OpV) (w : World) (e : Ending) (w' : World) : Prop := ∃ vs os, (takB xs l ys m = true → vs = maxV xs ys ∧ os = takOs l m true) ∧ ReadPostC (takB xs l ys m) vs os w e w'
set_option linter.unusedVariables false
set_option linter.unusedSimpArgs false
set_option maxHeartbeats 80000000 in
theorem l7TakenC (w : World) (B : Nat) (av ao bv bo : Option Addr) (nv cv no co mv dv mo eo : Nat) (xs : List Int) (l : List OpV) (ys : List Int) (m : List OpV) (hx : Ints w B av nv xs) (h : Ops w B ao no l) (hy : Ints w B bv mv ys) (g : Ops w B bo mo m) (hB : B ≤ w.heap.size) (hv : nv ≤ 1048576) (hn : no ≤ 1048576) (hm : ∀ i, i < no → (atOp l i).item.size ≤ 1048576) (hv2 : mv ≤ 1048576) (hn2 : mo ≤ 1048576) (hm2 : ∀ i, i < mo → (atOp m i).item.size ≤ 1048576) (hca : cartB xs l = true) (hcb : partB ys m = true) :
  Calls Try.prog 46 #[.agg #[.slice av nv cv, .slice ao no co], .agg #[.slice bv mv dv, .slice bo mo eo]] w (TakPost xs l ys m w) := by
 obtain ⟨i0, hi, hz0, hz1, hz2⟩ := info_parts Try.infoOp
 have hT := TriF.mk0 w #[.slice av nv cv, .slice ao no co] #[.slice bv mv dv, .slice bo mo eo] #[.slice none 0 0, .slice none 0 0] 29 29 29
 have HV := Lib.hid (hx.below hT.bel hB)
 have HO := Lib.hid (h.below hT.bel hB)
 have HY := Lib.hid (hy.below hT.bel hB)
 have HG := Lib.hid (g.below hT.bel hB)
 have HT := Lib.hid hT
 have HL := Lib.hid h.1
 have HLm := Lib.hid g.1
 have hvA := (cart_true hca).1
 have hvB := (part_split hcb).1
 have hv4 := (vec_at hvA (d := 0) (by omega)).2.2
 have hv4b := (vec_at hvB (d := 0) (by omega)).2.2
 have HVm := Lib.hid (maxV_ok hvA hvB)
 have HZv : Hid (vecZip max xs ys = maxV xs ys) := by show _ = _; rw [vecZip_yes (by rw [hvA, hvB]; rfl)]; rfl
 have hz4 : (maxV xs ys).length = 4 := (vec_at HVm.out (d := 0) (by omega)).2.2
 have HZd : Hid (∀ d, d < 4 → (maxV xs ys).getD d 0 = max (xs.getD d 0) (ys.getD d 0)) := fun d hd => maxV_at hv4 hv4b hd
 have HIt : Hid (∀ d s, (mergeF l m d s).item.size ≤ 1048576) := fun d s => merge_items (N := 1048576) (fun i hi => hm i (by rw [← h.1]; exact hi)) (fun i hi => hm2 i (by rw [← g.1]; exact hi)) d s
 have HCa := Lib.hid hca
 have HCb := Lib.hid hcb
 have HVd := Lib.hid (fun d (hd : d < 4) => vec_at (maxV_ok hvA hvB) hd)
 have hBw := hB
 clear hx h hy g hT hB hm hm2 hca hcb hvA hvB hv4 hv4b
 go_enter Try.func46, Try.ntmps46
 go_wp2_with fail
 generalize ((w.alloc (.cells #[.slice av nv cv, .slice ao no co] 29)).alloc (.cells #[.slice bv mv dv, .slice bo mo eo] 29)).alloc (.cells #[.slice none 0 0, .slice none 0 0] 29) = w0 at HV HO HY HG HT ⊢
 have hsz0 := HT.out.bel.size
 have hsz1 := lt_of_row HT.out.res
 refine (specMaxC w0 B B av bv nv cv mv dv xs ys HV.out HY.out (by omega) (by omega) hv hv2).mono ?_
 rintro e w1 ⟨zv, zc, rfl, hown, hb1, hcz⟩
 rw [HZv.out, hz4] at hown hcz ⊢
 have HCz := Lib.hid hcz
 clear hcz
 have HO1 := Lib.hid (HO.out.below hb1 (by omega))
 have HG1 := Lib.hid (HG.out.below hb1 (by omega))
 have HT1 := Lib.hid (HT.out.next hb1)
 have HZ1 := Lib.hid hown
 have hs1 := hb1.size
 clear hb1 HV HO HY HG HT hown HZv
 go_upto_region 2 with fail
 have hb2 : Below w1.heap.size w1 (w1.alloc (.cells #[.slice zv 4 zc, .slice none 0 0] 29)) := bl
 have HX2 := Lib.hid (boxAt (Below.refl _ (w1.alloc (.cells #[.slice zv 4 zc, .slice none 0 0] 29))))
 have HO2 := Lib.hid (HO1.out.below hb2 (by omega))
 have HG2 := Lib.hid (HG1.out.below hb2 (by omega))
 have HT2 := Lib.hid (HT1.out.next hb2)
 have HZ2 := Lib.hid (HZ1.out.below hb2 (Nat.le_refl _))
 generalize w1.alloc (.cells #[.slice zv 4 zc, .slice none 0 0] 29) = w2 at hb2 HX2 HO2 HG2 HT2 HZ2 ⊢
 have hs2 := hb2.size
 have hx2 := lt_of_row HX2.out
 generalize hob : w1.heap.size = ob at HX2 hs2 hx2 hs1 HZ2 ⊢
 clear hb2 HO1 HG1 HT1 HZ1 hob
 have HOut : Hid (OutL ob zv zc (maxV xs ys) (mergeF l m) w2 w2 0 0) := ⟨none, 0, HX2.out, ⟨rfl, .inl ⟨rfl, rfl⟩⟩, Below.refl _ _⟩
 generalize hzs : maxV xs ys = zs at *
 go_wp2
 go_loopw [7] (fun i wr => ∃ d : Nat, d ≤ 4 ∧ i = .int .i64 (d : Int) ∧ Hid (OutL ob zv zc zs (mergeF l m) w2 wr d 0) ∧ Hid (∀ e, e < d → ∀ s : Nat, (s : Int) < zs.getD e 0 → okT l m e s)) (fun i _ => 4 - (intOf i).toNat)
 case atStart => exact ⟨0, by omega, rfl, HOut, Lib.hid (fun e he => absurd he (by omega))⟩
 case round =>
  obtain ⟨d, hd, rfl, HOu, HOk⟩ := hrel
  clear HOut HX2
  by_cases hlt : d < 4
  rotate_left
  ·obtain rfl : d = 4 := by omega
   obtain ⟨oa, oc, hbox, hrow, hbel⟩ := HOu.out
   have hta := tak_all (xs := xs) (ys := ys) (l := l) (m := m) (fun d s hd hs => (HOk.out d hd s (by rw [← hzs]; exact hs)).2) (fun d s hd hs a b ha hb => (HOk.out d hd s (by rw [← hzs]; exact hs)).1 a b ha hb) HCa.out HCb.out
   have hMo : takOs l m true = listP zs (mergeF l m) 4 0 := by rw [hta.2, ← hzs]; rfl
   have hOK : takB xs l ys m = cartB zs (listP zs (mergeF l m) 4 0) := by rw [hta.1, ← hzs]; rfl
   obtain ⟨cb, hcbe⟩ : ∃ b, cartB zs (listP zs (mergeF l m) 4 0) = b := ⟨_, rfl⟩
   rw [hcbe] at hOK
   have HOKm := Lib.hid hOK
   have HMo := Lib.hid hMo
   have HMv := Lib.hid hzs
   have HCm := Lib.hid hcbe
   have hlen : (listP zs (mergeF l m) 4 0).length ≤ 1048576 := by
    rw [listP_len]
    have h2 := stOf_le HVm.out 4 (by omega)
    omega
   have HIts : Hid (∀ i, i < (listP zs (mergeF l m) 4 0).length → (atOp (listP zs (mergeF l m) 4 0) i).item.size ≤ 1048576) := fun i hi => by
    obtain ⟨d, s, e⟩ := listP_all zs (mergeF l m) 4 0 hi
    rw [e]
    exact HIt.out d s
   have HOB := Lib.hid hbox
   have HROW := Lib.hid hrow
   have HBL := Lib.hid hbel
   have HTr := Lib.hid (HT2.out.low hbel (by omega))
   have HZr := Lib.hid (HZ2.out.below hbel (Nat.le_refl _))
   have hobz : ob < wr.heap.size := lt_of_row hbox
   clear hbox hrow hbel HOu hta hMo hOK hcbe hzs HCa HCb HOk HZ2 HZd HIt
   generalize listP zs (mergeF l m) 4 0 = L at HOB HROW HCm HMo HIts hlen
   have HOps := Lib.hid (own_of_cells HROW.out (Nat.le_refl wr.heap.size))
   have HCo := Lib.hid (caps_of_row HROW.out)
   obtain ⟨z0, hz0e⟩ : ∃ z0, wr.drew = z0 := ⟨_, rfl⟩
   have hS : z0.cell? ⟨ob, 0, none⟩ = some (.slice zv 4 zc) ∧ z0.cell? ⟨ob, 1, none⟩ = some (.slice oa L.length oc) := by rw [← hz0e]; exact pair_cells HOB.out
   have HT0 : Hid (TriF w z0 #[.slice av nv cv, .slice ao no co] #[.slice bv mv dv, .slice bo mo eo] #[.slice none 0 0, .slice none 0 0] 29 29 29) := by rw [← hz0e]; exact ⟨HTr.out.fst, HTr.out.snd, HTr.out.res, ⟨HTr.out.bel.os, HTr.out.bel.tape, HTr.out.bel.output, HTr.out.bel.size, HTr.out.bel.block⟩⟩
   have HZ0 : Hid (Own z0 w0.heap.size ob zv 4 zs) := by rw [← hz0e]; exact HZr.out.kept (w' := wr.drew) fun _ _ _ => rfl
   have HO0 : Hid (OwnOps z0 (ob + 1) z0.heap.size oa L.length L) := by rw [← hz0e]; exact HOps.out.kept (w' := wr.drew) fun _ _ _ => rfl
   have hob0 : ob ≤ z0.heap.size := by rw [← hz0e]; exact Nat.le_of_lt hobz
   clear HOB HROW HTr HZr HOps
   go_upto_region 21 with fail
   go_wp2_with fail
   refine wp_region_held_drew (S := fun w' => w'.cell? ⟨ob, 0, none⟩ = some (.slice zv 4 zc) ∧ w'.cell? ⟨ob, 1, none⟩ = some (.slice oa L.length oc)) (by kernel_rfl) (by rw [hz0e]; exact hS) (fun hHeld => ?_)
   rw [hz0e]
   clear hHeld
   refine tk 0 ⟨some 110, .load 29 (.tmp 6), 29, "l07_deltas.go:64", #[], none⟩ ?_
   (try simp only [Act.put, u1, u2, u3])
   refine tk 1 ⟨some 111, .load 29 (.tmp 6), 29, "l07_deltas.go:64", #[], none⟩ ?_
   (try simp only [Act.put, u1, u2, u3])
   refine rk 2 rfl (fun K hK => ?_)
   go_simp
   go_at_call 45
   refine (specCartOk z0 z0.heap.size zv oa 4 zc L.length oc zs L (HZ0.out.ints.more hob0) HO0.out.ops (Nat.le_refl _) (by omega) hlen HIts.out).mono ?_
   rintro e w5 ⟨rfl, hb5⟩
   rw [HCm.out]
   have hS5 : w5.cell? ⟨ob, 0, none⟩ = some (.slice zv 4 zc) ∧ w5.cell? ⟨ob, 1, none⟩ = some (.slice oa L.length oc) := ⟨(hb5.cell (block_lt_of_cell hS.1)).trans hS.1, (hb5.cell (block_lt_of_cell hS.2)).trans hS.2⟩
   refine hK.out _ _ hS5 (fun hHeld2 => ?_)
   clear hK K
   (try simp only [Act.put, u1, u2, u3])
   have HT5 := Lib.hid (HT0.out.next hb5)
   have HZ5 := Lib.hid (HZ0.out.below hb5 hob0)
   have HO5 := Lib.hid ((HO0.out.below hb5 (Nat.le_refl _)).more (Nat.le_refl _) hb5.size)
   have hob5 : ob ≤ w5.heap.size := Nat.le_trans hob0 hb5.size
   obtain ⟨r0, r1⟩ := pair_cells HT5.out.res
   obtain ⟨fz0, fz1⟩ := pair_frozen HT5.out.res
   have hrl := lt_of_row HT2.out.res
   have hS6 : ((w5.setCell ⟨w.heap.size + 1 + 1, 0, none⟩ (.slice zv 4 zc)).setCell ⟨w.heap.size + 1 + 1, 1, none⟩ (.slice oa L.length oc)).cell? ⟨ob, 0, none⟩ = some (.slice zv 4 zc) ∧ ((w5.setCell ⟨w.heap.size + 1 + 1, 0, none⟩ (.slice zv 4 zc)).setCell ⟨w.heap.size + 1 + 1, 1, none⟩ (.slice oa L.length oc)).cell? ⟨ob, 1, none⟩ = some (.slice oa L.length oc) := ⟨(cell_of_block (pair_other _ _ (by omega))).trans hS5.1, (cell_of_block (pair_other _ _ (by omega))).trans hS5.2⟩
   have HXr := Lib.hid (HT5.out.set2S (.slice zv 4 zc) (.slice oa L.length oc)).1
   have HBr2 := Lib.hid (HT5.out.set2S (.slice zv 4 zc) (.slice oa L.length oc)).2
   have hsz6 : ((w5.setCell ⟨w.heap.size + 1 + 1, 0, none⟩ (.slice zv 4 zc)).setCell ⟨w.heap.size + 1 + 1, 1, none⟩ (.slice oa L.length oc)).heap.size = w5.heap.size := pair_size _ _ _ _
   have HZ6 : Hid (Own ((w5.setCell ⟨w.heap.size + 1 + 1, 0, none⟩ (.slice zv 4 zc)).setCell ⟨w.heap.size + 1 + 1, 1, none⟩ (.slice oa L.length oc)) w0.heap.size ob zv 4 zs) := HZ5.out.kept fun j h1 h2 => pair_other _ _ (by omega)
   have HO6 : Hid (OwnOps ((w5.setCell ⟨w.heap.size + 1 + 1, 0, none⟩ (.slice zv 4 zc)).setCell ⟨w.heap.size + 1 + 1, 1, none⟩ (.slice oa L.length oc)) (ob + 1) w5.heap.size oa L.length L) := HO5.out.kept fun j h1 h2 => pair_other _ _ (by omega)
   refine rk 3 rfl (fun K hK => ?_)
   go_simp
   refine hK.out _ _ hS6 (fun hHeld5 => ?_)
   clear hK K
   (try simp only [Act.put, u1, u2, u3])
   refine tk 4 ⟨some 5, .assign (.tmp 112), 4, "l07_deltas.go:64", #[⟨2, .data⟩, ⟨3, .chain⟩, ⟨0, .phase⟩, ⟨1, .phase⟩, ⟨2, .phase⟩, ⟨3, .phase⟩], none⟩ ?_
   (try simp only [Act.put, u1, u2, u3])
   refine wpAnyH_done (by kernel_rfl) ?_ _
   clear hS hS5 hS6 hHeld2 hHeld5 hb5 HT0 HZ0 HO0 HT5 HZ5 HO5 r0 r1 fz0 fz1
   generalize (w5.setCell ⟨w.heap.size + 1 + 1, 0, none⟩ (.slice zv 4 zc)).setCell ⟨w.heap.size + 1 + 1, 1, none⟩ (.slice oa L.length oc) = wf at HXr HBr2 HZ6 HO6 hsz6 ⊢
   obtain ⟨q0, q1⟩ := pair_cells HXr.out
   go_wp2
   exact bodyPost_ret (v := .tuple #[.agg #[.slice zv 4 zc, .slice oa L.length oc], .bool cb]) (by simp [results, Try.results46, go_sem, q0, q1]) rfl ⟨zs, L, fun _ => ⟨HMv.out.symm, HMo.out.symm⟩, zv, zc, oa, oc, by rw [HOKm.out, hz4], by rw [hz4]; exact HZ6.out.more (by omega) (by omega), HO6.out.more (by omega) (by omega), HBr2.out, by rw [hz4]; exact HCz.out, HCo.out⟩
  obtain ⟨g1, g2, _⟩ := HVd.out d hlt
  obtain ⟨q, hq⟩ := Int.eq_ofNat_of_zero_le g1
  have hdi : (d : Int) < 4 := by omega
  have HOuB : Hid (Below ob w2 wr) := by obtain ⟨_, _, _, _, h⟩ := HOu.out; exact h
  have HZc : Hid (∀ vb vo, zv = some ⟨vb, vo, none⟩ → w2.cell? ⟨vb, vo + d, none⟩ = some (.int .i64 (q : Int))) := fun vb vo e => by
   obtain ⟨vb', vo', e', _, hc⟩ := HZ2.out.ints.2 d hlt
   rw [e] at e'
   cases e'
   rw [hq] at hc
   exact hc
  have HZr := Lib.hid (HZ2.out.ints.below HOuB.out (Nat.le_refl _))
  obtain ⟨vb, vo, rfl, hvb, _⟩ := HZr.out.2 d hlt
  clear HZr
  go_wp2
  go_loopw [8] (fun sq wr => ∃ s : Nat, s ≤ q ∧ sq = .int .i64 ((s : Int) + 1) ∧ Hid (OutL ob (some ⟨vb, vo, none⟩) zc zs (mergeF l m) w2 wr d s) ∧ Hid (∀ e, e < s → okT l m d e)) (fun sq _ => q + 1 - (intOf sq).toNat)
  case atStart => exact ⟨0, Nat.zero_le _, rfl, HOu, Lib.hid (fun e he => absurd he (by omega))⟩
  case round =>
   obtain ⟨s, hsq, rfl, HOu2, HOk2⟩ := hrel
   clear HOu HOuB
   obtain ⟨oa, oc, hbox, hrow, hbel⟩ := HOu2.out
   have HOB := Lib.hid hbox
   have HROW := Lib.hid hrow
   have HBL := Lib.hid hbel
   have hobl := lt_of_row hbox
   have HTr := Lib.hid (HT2.out.low hbel (by omega))
   have HOr := Lib.hid (HO2.out.below hbel (by omega))
   have HGr := Lib.hid (HG2.out.below hbel (by omega))
   have c0 := (hbel.cell (p := ⟨vb, vo + d, none⟩) hvb).trans (HZc.out vb vo rfl)
   obtain ⟨o0, o1⟩ := pair_cells hbox
   clear hbox hrow hbel HOu2
   by_cases hls : s < q
   rotate_left
   ·obtain rfl : s = q := by omega
    have hcnd : ¬ ((s : Int) + 1 ≤ (s : Int)) := by omega
    have HOn : Hid (OutL ob (some ⟨vb, vo, none⟩) zc zs (mergeF l m) w2 wr (d + 1) 0) := by
     show OutL _ _ _ _ _ _ _ _ _
     unfold OutL
     rw [listP_next, hq]
     exact ⟨oa, oc, HOB.out, HROW.out, HBL.out⟩
    have HOkn : Hid (∀ e, e < d + 1 → ∀ s : Nat, (s : Int) < zs.getD e 0 → okT l m e s) := fun e he t ht => by
     rcases Nat.lt_or_ge e d with h1 | h1
     ·exact HOk.out e h1 t ht
     ·obtain rfl : e = d := by omega
      exact HOk2.out t (by rw [hq] at ht; omega)
    clear HOB HROW HBL
    go_wp2
    go_roundw
    case rel => exact ⟨d + 1, by omega, by go_num, HOn, HOkn⟩
    case measure => simp [intOf]; omega
   have hcnd : (s : Int) + 1 ≤ (q : Int) := by omega
   have hmx := HZd.out d hlt
   rw [hq] at hmx
   have HMx := Lib.hid hmx
   clear hmx
   have HSt := Lib.hid (listP_step zs (mergeF l m) d s)
   have hlen : (listP zs (mergeF l m) d s).length ≤ 1048576 := by
    rw [listP_len]
    have h1 := stOf_mono zs d 4 (by omega)
    have h2 := stOf_le HVm.out 4 (by omega)
    omega
   have HFds : Hid (mergeF l m d s = joinAt l m (d : Int) ((s : Int) + 1)) := rfl
   have HOk3 : Hid (okT l m d s → ∀ e, e < s + 1 → okT l m d e) := fun h e he => by
    rcases Nat.lt_or_ge e s with h1 | h1
    ·exact HOk2.out e h1
    ·obtain rfl : e = s := by omega
     exact h
   generalize listP zs (mergeF l m) d s = L at HOB HROW HSt hlen o0 o1 ⊢
   obtain ⟨a0, a1⟩ := pair_cells HTr.out.fst
   obtain ⟨b0, b1⟩ := pair_cells HTr.out.snd
   go_wp2_with fail
   refine (l4At wr B ao no co l (d : Int) ((s : Int) + 1) HOr.out hn).mono ?_
   rintro e w5 ⟨hor, rfl⟩
   rcases hor with ⟨i, hil, hie, rfl⟩ | ⟨hno, rfl⟩
   rotate_left
   ·have hg1 : getO l (d : Int) ((s : Int) + 1) = none := setF_miss _ fun j hj => hno j (by rw [← HL.out]; exact hj)
    clear hno
    go_wp2_with fail
    refine (l4At wr B bo mo eo m (d : Int) ((s : Int) + 1) HGr.out hn2).mono ?_
    rintro e w5 ⟨hor, rfl⟩
    rcases hor with ⟨k, hkm, hke, rfl⟩ | ⟨hno2, rfl⟩
    rotate_left
    ·have hg2 : getO m (d : Int) ((s : Int) + 1) = none := setF_miss _ fun j hj => hno2 j (by rw [← HLm.out]; exact hj)
     have HF : Hid (takB xs l ys m = false) := tak_miss hlt (by rw [hzs, hq]; omega) hg1 hg2 HCa.out HCb.out
     obtain ⟨r0, r1⟩ := pair_cells HTr.out.res
     obtain ⟨fz0, fz1⟩ := pair_frozen HTr.out.res
     have HXr := Lib.hid (HTr.out.set2S (.slice none 0 0) (.slice none 0 0)).1
     have HBr2 := Lib.hid (HTr.out.set2S (.slice none 0 0) (.slice none 0 0)).2
     clear hno2 hg1 hg2 HOB HROW HBL HTr HOr HGr HCa HCb a0 a1 b0 b1 c0 o0 o1
     go_wp2
     change bodyPost _ _ _ _ _ ((wr.setCell ⟨w.heap.size + 1 + 1, 0, none⟩ (.slice none 0 0)).setCell ⟨w.heap.size + 1 + 1, 1, none⟩ (.slice none 0 0))
     generalize (wr.setCell ⟨w.heap.size + 1 + 1, 0, none⟩ (.slice none 0 0)).setCell ⟨w.heap.size + 1 + 1, 1, none⟩ (.slice none 0 0) = wf at HXr HBr2 ⊢
     obtain ⟨q0, q1⟩ := pair_cells HXr.out
     exact bodyPost_ret (v := .tuple #[.agg #[.slice none 0 0, .slice none 0 0], .bool false]) (by simp [results, Try.results46, go_sem, q0, q1]) rfl ⟨[], [], (fun h => by rw [HF.out] at h; cases h), none, 0, none, 0, by rw [HF.out]; rfl, own_nilS _ _ _ _, own_none _ _ _ _, HBr2.out, caps_nil, caps_nil⟩
    obtain ⟨b2, off2, rfl, hb2, ho2⟩ := HGr.out.2 k hkm
    have HO8 : Hid (OpAt wr b2 (off2 + k * 8) (atOp m k)) := ho2
    have hg2 : getO m (d : Int) ((s : Int) + 1) = some (atOp m k) := by
     have := setF_hit ((part_split HCb.out).2.2) m.length (Nat.le_refl _) k (by rw [HLm.out]; exact hkm)
     rw [hke.1, hke.2] at this
     exact this
    have HFy : Hid (mergeF l m d s = atOp m k) := by show _ = _; rw [HFds.out]; unfold joinAt; rw [hg1, hg2]
    have HE := Lib.hid (HOk3.out ⟨fun a b ha hb => (by rw [hg1] at ha; cases ha), .inr (by rw [hg2]; rfl)⟩)
    have hk0 : ¬ ((k : Int) < 0) := by omega
    have hki : (k : Int) < (mo : Int) := by omega
    clear ho2 hg1 hg2 hke
    generalize atOp m k = y at HO8 HFy
    obtain ⟨c0', c1', c2', c3', c4', c5', c6', c7'⟩ := HO8.out
    have hSw : wr.cell? ⟨w.heap.size + 1, 1, none⟩ = some (.slice (some ⟨b2, off2, none⟩) mo eo) ∧ wr.cell? ⟨b2, off2 + k * 8, none⟩ = some (.int .i64 y.dev) ∧ wr.cell? ⟨b2, off2 + k * 8 + 1, none⟩ = some (.int .i64 y.seq) ∧ wr.cell? ⟨b2, off2 + k * 8 + 2, none⟩ = some (.int .i64 y.stamp) ∧ wr.cell? ⟨b2, off2 + k * 8 + 3, none⟩ = some (.int .i64 y.kind) ∧ wr.cell? ⟨b2, off2 + k * 8 + 4, none⟩ = some (.string y.item) ∧ wr.cell? ⟨b2, off2 + k * 8 + 5, none⟩ = some (.int .i64 y.qty) ∧ wr.cell? ⟨b2, off2 + k * 8 + 6, none⟩ = some (.int .i64 y.level) ∧ wr.cell? ⟨b2, off2 + k * 8 + 7, none⟩ = some (.int .i64 y.undos) := ⟨b1, c0', c1', c2', c3', c4', c5', c6', c7'⟩
    clear a0 a1 b0 b1 c0 o0 o1 c0' c1' c2' c3' c4' c5' c6' c7' HO8
    go_upto_region 16 with fail
    obtain ⟨z0, hz0e⟩ : ∃ z0, wr.drew = z0 := ⟨_, rfl⟩
    have hS : z0.cell? ⟨w.heap.size + 1, 1, none⟩ = some (.slice (some ⟨b2, off2, none⟩) mo eo) ∧ z0.cell? ⟨b2, off2 + k * 8, none⟩ = some (.int .i64 y.dev) ∧ z0.cell? ⟨b2, off2 + k * 8 + 1, none⟩ = some (.int .i64 y.seq) ∧ z0.cell? ⟨b2, off2 + k * 8 + 2, none⟩ = some (.int .i64 y.stamp) ∧ z0.cell? ⟨b2, off2 + k * 8 + 3, none⟩ = some (.int .i64 y.kind) ∧ z0.cell? ⟨b2, off2 + k * 8 + 4, none⟩ = some (.string y.item) ∧ z0.cell? ⟨b2, off2 + k * 8 + 5, none⟩ = some (.int .i64 y.qty) ∧ z0.cell? ⟨b2, off2 + k * 8 + 6, none⟩ = some (.int .i64 y.level) ∧ z0.cell? ⟨b2, off2 + k * 8 + 7, none⟩ = some (.int .i64 y.undos) := ⟨by rw [← hz0e]; exact hSw.1, by rw [← hz0e]; exact hSw.2.1, by rw [← hz0e]; exact hSw.2.2.1, by rw [← hz0e]; exact hSw.2.2.2.1, by rw [← hz0e]; exact hSw.2.2.2.2.1, by rw [← hz0e]; exact hSw.2.2.2.2.2.1, by rw [← hz0e]; exact hSw.2.2.2.2.2.2.1, by rw [← hz0e]; exact hSw.2.2.2.2.2.2.2.1, by rw [← hz0e]; exact hSw.2.2.2.2.2.2.2.2⟩
    have ob0 : Hid (z0.heap[ob]? = some (.cells #[.slice (some ⟨vb, vo, none⟩) 4 zc, .slice oa L.length oc] 29 (0, 0))) := by rw [← hz0e]; exact HOB.out
    have row0 : z0.ownsRow (ob + 1) 77 8 (.slice oa L.length oc) L.length (opCells L) := by rw [← hz0e]; exact HROW.out
    have obl0 : ob < z0.heap.size := by rw [← hz0e]; exact hobl
    have hb0z : Hid (Below ob wr z0) := by rw [← hz0e]; exact ⟨rfl, rfl, rfl, Nat.le_refl _, fun _ _ => rfl⟩
    have o1 := (pair_cells ob0.out).2
    have row1 := row0.alloc (.cells #[.int .i64 y.dev, .int .i64 y.seq, .int .i64 y.stamp, .int .i64 y.kind, .string y.item, .int .i64 y.qty, .int .i64 y.level, .int .i64 y.undos] 77)
    have hbz1 : Below ob z0 (z0.alloc (.cells #[.int .i64 y.dev, .int .i64 y.seq, .int .i64 y.stamp, .int .i64 y.kind, .string y.item, .int .i64 y.qty, .int .i64 y.level, .int .i64 y.undos] 77)) := (Below.refl ob z0).alloc (by omega) _
    obtain ⟨v', z2, hrun, hown2, hgr, _⟩ := run_append_own (P := Try.prog) (z0.alloc (.cells #[.int .i64 y.dev, .int .i64 y.seq, .int .i64 y.stamp, .int .i64 y.kind, .string y.item, .int .i64 y.qty, .int .i64 y.level, .int .i64 y.undos] 77)) (ob + 1) 27 27 77 i0 (.agg #[.int .i64 0, .int .i64 0, .int .i64 0, .int .i64 0, .string ⟨#[]⟩, .int .i64 0, .int .i64 0, .int .i64 0]) 8 72 Try.underlying27 hi hz0 hz1 hz2 rfl (by decide) _ _ _ row1 ⟨z0.heap.size, 0, none⟩ 1 1 (opRow y) rfl (opRow_new z0 y) (fun u hu => opCells_one [y] u (by show u ∈ opRow y ++ []; rw [List.append_nil]; exact hu)) (by unfold maxLen; omega) (by omega) (by show _ ≤ (z0.heap.push _).size; simp; omega)
    have hbz2 : Below ob z0 z2 := hbz1.grown hgr (Nat.le_trans (by omega) hbz1.size) (fun q hq => by have := (row1.lt q hq).1; omega)
    obtain ⟨va2, vc2, rfl⟩ : ∃ va2 vc2, v' = .slice va2 (L.length + 1) vc2 := by
     rcases hown2.2 with ⟨_, e2⟩ | ⟨_, c2, _, e2, _⟩
     ·omega
     ·exact ⟨_, c2, e2⟩
    have ob1 : Hid ((z0.alloc (.cells #[.int .i64 y.dev, .int .i64 y.seq, .int .i64 y.stamp, .int .i64 y.kind, .string y.item, .int .i64 y.qty, .int .i64 y.level, .int .i64 y.undos] 77)).heap[ob]? = some (.cells #[.slice (some ⟨vb, vo, none⟩) 4 zc, .slice oa L.length oc] 29 (0, 0))) := (Below.heap_alloc _ _ _ obl0).trans ob0.out
    have ob2 : Hid (z2.heap[ob]? = some (.cells #[.slice (some ⟨vb, vo, none⟩) 4 zc, .slice oa L.length oc] 29 (0, 0))) := (hgr.block ob (by show _ < (z0.heap.push _).size; simp; omega) (fun h => by have := (row1.lt ob h.symm).1; omega)).trans ob1.out
    have o11 := (pair_cells ob1.out).2
    have o12 := (pair_cells ob2.out).2
    have fz2 := (pair_frozen ob2.out).2
    have HBOX3 : Hid ((z2.setCell ⟨ob, 1, none⟩ (.slice va2 (L.length + 1) vc2)).heap[ob]? = some (.cells #[.slice (some ⟨vb, vo, none⟩) 4 zc, .slice va2 (L.length + 1) vc2] 29 (0, 0))) := heap_setCell_same _ _ _ _ _ _ ob2.out
    have HROW3 : Hid ((z2.setCell ⟨ob, 1, none⟩ (.slice va2 (L.length + 1) vc2)).ownsRow (ob + 1) 77 8 (.slice va2 (L.length + 1) vc2) (L.length + 1) (opCells L ++ opRow y)) := row_put hown2 (fun q hq => by have := (hown2.lt q hq).1; omega)
    have hbz3 : Below ob z0 (z2.setCell ⟨ob, 1, none⟩ (.slice va2 (L.length + 1) vc2)) := hbz2.setCell (Nat.le_refl _) _
    have HBEL3 : Hid (Below ob wr (z2.setCell ⟨ob, 1, none⟩ (.slice va2 (L.length + 1) vc2))) := hb0z.out.trans hbz3
    have hSd : z0.cell? ⟨w.heap.size + 1, 1, none⟩ = some (.slice (some ⟨b2, off2, none⟩) mo eo) ∧ z0.cell? ⟨b2, off2 + k * 8, none⟩ = some (.int .i64 y.dev) ∧ z0.cell? ⟨b2, off2 + k * 8 + 1, none⟩ = some (.int .i64 y.seq) ∧ z0.cell? ⟨b2, off2 + k * 8 + 2, none⟩ = some (.int .i64 y.stamp) ∧ z0.cell? ⟨b2, off2 + k * 8 + 3, none⟩ = some (.int .i64 y.kind) ∧ z0.cell? ⟨b2, off2 + k * 8 + 4, none⟩ = some (.string y.item) ∧ z0.cell? ⟨b2, off2 + k * 8 + 5, none⟩ = some (.int .i64 y.qty) ∧ z0.cell? ⟨b2, off2 + k * 8 + 6, none⟩ = some (.int .i64 y.level) ∧ z0.cell? ⟨b2, off2 + k * 8 + 7, none⟩ = some (.int .i64 y.undos) := hS
    have hS1 : (z0.alloc (.cells #[.int .i64 y.dev, .int .i64 y.seq, .int .i64 y.stamp, .int .i64 y.kind, .string y.item, .int .i64 y.qty, .int .i64 y.level, .int .i64 y.undos] 77)).cell? ⟨w.heap.size + 1, 1, none⟩ = some (.slice (some ⟨b2, off2, none⟩) mo eo) ∧ (z0.alloc (.cells #[.int .i64 y.dev, .int .i64 y.seq, .int .i64 y.stamp, .int .i64 y.kind, .string y.item, .int .i64 y.qty, .int .i64 y.level, .int .i64 y.undos] 77)).cell? ⟨b2, off2 + k * 8, none⟩ = some (.int .i64 y.dev) ∧ (z0.alloc (.cells #[.int .i64 y.dev, .int .i64 y.seq, .int .i64 y.stamp, .int .i64 y.kind, .string y.item, .int .i64 y.qty, .int .i64 y.level, .int .i64 y.undos] 77)).cell? ⟨b2, off2 + k * 8 + 1, none⟩ = some (.int .i64 y.seq) ∧ (z0.alloc (.cells #[.int .i64 y.dev, .int .i64 y.seq, .int .i64 y.stamp, .int .i64 y.kind, .string y.item, .int .i64 y.qty, .int .i64 y.level, .int .i64 y.undos] 77)).cell? ⟨b2, off2 + k * 8 + 2, none⟩ = some (.int .i64 y.stamp) ∧ (z0.alloc (.cells #[.int .i64 y.dev, .int .i64 y.seq, .int .i64 y.stamp, .int .i64 y.kind, .string y.item, .int .i64 y.qty, .int .i64 y.level, .int .i64 y.undos] 77)).cell? ⟨b2, off2 + k * 8 + 3, none⟩ = some (.int .i64 y.kind) ∧ (z0.alloc (.cells #[.int .i64 y.dev, .int .i64 y.seq, .int .i64 y.stamp, .int .i64 y.kind, .string y.item, .int .i64 y.qty, .int .i64 y.level, .int .i64 y.undos] 77)).cell? ⟨b2, off2 + k * 8 + 4, none⟩ = some (.string y.item) ∧ (z0.alloc (.cells #[.int .i64 y.dev, .int .i64 y.seq, .int .i64 y.stamp, .int .i64 y.kind, .string y.item, .int .i64 y.qty, .int .i64 y.level, .int .i64 y.undos] 77)).cell? ⟨b2, off2 + k * 8 + 5, none⟩ = some (.int .i64 y.qty) ∧ (z0.alloc (.cells #[.int .i64 y.dev, .int .i64 y.seq, .int .i64 y.stamp, .int .i64 y.kind, .string y.item, .int .i64 y.qty, .int .i64 y.level, .int .i64 y.undos] 77)).cell? ⟨b2, off2 + k * 8 + 6, none⟩ = some (.int .i64 y.level) ∧ (z0.alloc (.cells #[.int .i64 y.dev, .int .i64 y.seq, .int .i64 y.stamp, .int .i64 y.kind, .string y.item, .int .i64 y.qty, .int .i64 y.level, .int .i64 y.undos] 77)).cell? ⟨b2, off2 + k * 8 + 7, none⟩ = some (.int .i64 y.undos) := ⟨(hbz1.cell (by show w.heap.size + 1 < ob; omega)).trans hS.1, (hbz1.cell (by show b2 < ob; omega)).trans hS.2.1, (hbz1.cell (by show b2 < ob; omega)).trans hS.2.2.1, (hbz1.cell (by show b2 < ob; omega)).trans hS.2.2.2.1, (hbz1.cell (by show b2 < ob; omega)).trans hS.2.2.2.2.1, (hbz1.cell (by show b2 < ob; omega)).trans hS.2.2.2.2.2.1, (hbz1.cell (by show b2 < ob; omega)).trans hS.2.2.2.2.2.2.1, (hbz1.cell (by show b2 < ob; omega)).trans hS.2.2.2.2.2.2.2.1, (hbz1.cell (by show b2 < ob; omega)).trans hS.2.2.2.2.2.2.2.2⟩
    have hS2 : z2.cell? ⟨w.heap.size + 1, 1, none⟩ = some (.slice (some ⟨b2, off2, none⟩) mo eo) ∧ z2.cell? ⟨b2, off2 + k * 8, none⟩ = some (.int .i64 y.dev) ∧ z2.cell? ⟨b2, off2 + k * 8 + 1, none⟩ = some (.int .i64 y.seq) ∧ z2.cell? ⟨b2, off2 + k * 8 + 2, none⟩ = some (.int .i64 y.stamp) ∧ z2.cell? ⟨b2, off2 + k * 8 + 3, none⟩ = some (.int .i64 y.kind) ∧ z2.cell? ⟨b2, off2 + k * 8 + 4, none⟩ = some (.string y.item) ∧ z2.cell? ⟨b2, off2 + k * 8 + 5, none⟩ = some (.int .i64 y.qty) ∧ z2.cell? ⟨b2, off2 + k * 8 + 6, none⟩ = some (.int .i64 y.level) ∧ z2.cell? ⟨b2, off2 + k * 8 + 7, none⟩ = some (.int .i64 y.undos) := ⟨(hbz2.cell (by show w.heap.size + 1 < ob; omega)).trans hS.1, (hbz2.cell (by show b2 < ob; omega)).trans hS.2.1, (hbz2.cell (by show b2 < ob; omega)).trans hS.2.2.1, (hbz2.cell (by show b2 < ob; omega)).trans hS.2.2.2.1, (hbz2.cell (by show b2 < ob; omega)).trans hS.2.2.2.2.1, (hbz2.cell (by show b2 < ob; omega)).trans hS.2.2.2.2.2.1, (hbz2.cell (by show b2 < ob; omega)).trans hS.2.2.2.2.2.2.1, (hbz2.cell (by show b2 < ob; omega)).trans hS.2.2.2.2.2.2.2.1, (hbz2.cell (by show b2 < ob; omega)).trans hS.2.2.2.2.2.2.2.2⟩
    have hS3 : (z2.setCell ⟨ob, 1, none⟩ (.slice va2 (L.length + 1) vc2)).cell? ⟨w.heap.size + 1, 1, none⟩ = some (.slice (some ⟨b2, off2, none⟩) mo eo) ∧ (z2.setCell ⟨ob, 1, none⟩ (.slice va2 (L.length + 1) vc2)).cell? ⟨b2, off2 + k * 8, none⟩ = some (.int .i64 y.dev) ∧ (z2.setCell ⟨ob, 1, none⟩ (.slice va2 (L.length + 1) vc2)).cell? ⟨b2, off2 + k * 8 + 1, none⟩ = some (.int .i64 y.seq) ∧ (z2.setCell ⟨ob, 1, none⟩ (.slice va2 (L.length + 1) vc2)).cell? ⟨b2, off2 + k * 8 + 2, none⟩ = some (.int .i64 y.stamp) ∧ (z2.setCell ⟨ob, 1, none⟩ (.slice va2 (L.length + 1) vc2)).cell? ⟨b2, off2 + k * 8 + 3, none⟩ = some (.int .i64 y.kind) ∧ (z2.setCell ⟨ob, 1, none⟩ (.slice va2 (L.length + 1) vc2)).cell? ⟨b2, off2 + k * 8 + 4, none⟩ = some (.string y.item) ∧ (z2.setCell ⟨ob, 1, none⟩ (.slice va2 (L.length + 1) vc2)).cell? ⟨b2, off2 + k * 8 + 5, none⟩ = some (.int .i64 y.qty) ∧ (z2.setCell ⟨ob, 1, none⟩ (.slice va2 (L.length + 1) vc2)).cell? ⟨b2, off2 + k * 8 + 6, none⟩ = some (.int .i64 y.level) ∧ (z2.setCell ⟨ob, 1, none⟩ (.slice va2 (L.length + 1) vc2)).cell? ⟨b2, off2 + k * 8 + 7, none⟩ = some (.int .i64 y.undos) := ⟨(hbz3.cell (by show w.heap.size + 1 < ob; omega)).trans hS.1, (hbz3.cell (by show b2 < ob; omega)).trans hS.2.1, (hbz3.cell (by show b2 < ob; omega)).trans hS.2.2.1, (hbz3.cell (by show b2 < ob; omega)).trans hS.2.2.2.1, (hbz3.cell (by show b2 < ob; omega)).trans hS.2.2.2.2.1, (hbz3.cell (by show b2 < ob; omega)).trans hS.2.2.2.2.2.1, (hbz3.cell (by show b2 < ob; omega)).trans hS.2.2.2.2.2.2.1, (hbz3.cell (by show b2 < ob; omega)).trans hS.2.2.2.2.2.2.2.1, (hbz3.cell (by show b2 < ob; omega)).trans hS.2.2.2.2.2.2.2.2⟩
    clear hSw HOB HROW row0 hb0z
    go_wp2_with fail
    refine wp_region_held_drew (S := fun w' => w'.cell? ⟨w.heap.size + 1, 1, none⟩ = some (.slice (some ⟨b2, off2, none⟩) mo eo) ∧ w'.cell? ⟨b2, off2 + k * 8, none⟩ = some (.int .i64 y.dev) ∧ w'.cell? ⟨b2, off2 + k * 8 + 1, none⟩ = some (.int .i64 y.seq) ∧ w'.cell? ⟨b2, off2 + k * 8 + 2, none⟩ = some (.int .i64 y.stamp) ∧ w'.cell? ⟨b2, off2 + k * 8 + 3, none⟩ = some (.int .i64 y.kind) ∧ w'.cell? ⟨b2, off2 + k * 8 + 4, none⟩ = some (.string y.item) ∧ w'.cell? ⟨b2, off2 + k * 8 + 5, none⟩ = some (.int .i64 y.qty) ∧ w'.cell? ⟨b2, off2 + k * 8 + 6, none⟩ = some (.int .i64 y.level) ∧ w'.cell? ⟨b2, off2 + k * 8 + 7, none⟩ = some (.int .i64 y.undos)) (by kernel_rfl) (by rw [hz0e]; exact hS) (fun hHeld => ?_)
    rw [hz0e]
    clear hHeld
    refine tk 0 ⟨some 73, .fieldAddr 29 (.tmp 6) 1, 0, "l07_deltas.go:52", #[], none⟩ ?_
    (try simp only [Act.put, u1, u2, u3])
    refine tk 2 ⟨some 75, .fieldAddr 29 (.tmp 3) 1, 0, "l07_deltas.go:52", #[], none⟩ ?_
    (try simp only [Act.put, u1, u2, u3])
    refine tk 3 ⟨some 76, .load 27 (.tmp 75), 27, "l07_deltas.go:52", #[⟨2, .data⟩], none⟩ ?_
    (try simp only [Act.put, u1, u2, u3])
    refine tk 4 ⟨some 77, .move (.tmp 10), 3, "l07_deltas.go:52", #[], none⟩ ?_
    (try simp only [Act.put, u1, u2, u3])
    refine tk 5 ⟨some 78, .indexAddr 27 (.tmp 76) (.tmp 77), 0, "l07_deltas.go:52", #[⟨3, .data⟩, ⟨4, .data⟩], none⟩ ?_
    (try simp only [Act.put, u1, u2, u3])
    refine tk 6 ⟨some 79, .load 77 (.tmp 78), 77, "l07_deltas.go:52", #[⟨5, .data⟩], none⟩ ?_
    (try simp only [Act.put, u1, u2, u3])
    refine wpAnyH_ready (rs := [1, 7]) (by kernel_rfl) (by simp) ?_
    refine AllReadyH.cons rfl (fun K hK => ?_) (AllReadyH.cons rfl (fun K hK => ?_) AllReadyH.nil)
    all_goals go_simp
    ·refine hK.out _ _ hSd (fun hHeld7 => ?_)
     clear hK K
     (try simp only [Act.put, u1, u2, u3])
     refine rk 7 rfl (fun K hK => ?_)
     go_simp
     refine hK.out _ _ hS1 (fun hHeld6 => ?_)
     clear hK K
     (try simp only [Act.put, u1, u2, u3])
     refine rk 8 rfl (fun K hK => ?_)
     rw [if_pos (by rfl)]
     refine opwp_append _ _ _ rfl _ _ rfl rfl hrun ?_
     refine hK.out _ _ hS2 (fun hHeld8 => ?_)
     clear hK K
     (try simp only [Act.put, u1, u2, u3])
     refine tk 9 ⟨some 82, .fieldAddr 29 (.tmp 6) 1, 0, "l07_deltas.go:52", #[⟨0, .phase⟩, ⟨1, .phase⟩, ⟨2, .phase⟩, ⟨3, .phase⟩, ⟨4, .phase⟩, ⟨5, .phase⟩, ⟨6, .phase⟩, ⟨7, .phase⟩, ⟨8, .phase⟩], none⟩ ?_
     (try simp only [Act.put, u1, u2, u3])
     refine rk 10 rfl (fun K hK => ?_)
     go_simp
     refine hK.out _ _ hS3 (fun hHeld9 => ?_)
     clear hK K
     (try simp only [Act.put, u1, u2, u3])
     refine wpAnyH_done (by kernel_rfl) ?_ _
     have HOn : Hid (OutL ob (some ⟨vb, vo, none⟩) zc zs (mergeF l m) w2 (z2.setCell ⟨ob, 1, none⟩ (.slice va2 (L.length + 1) vc2)) d (s + 1)) := by
      show OutL _ _ _ _ _ _ _ _ _
      unfold OutL
      rw [HSt.out, HFy.out, opCells_snoc, List.length_append]
      exact ⟨va2, vc2, HBOX3.out, HROW3.out, HBL.out.trans HBEL3.out⟩
     clear HBOX3 HROW3 HBEL3 hSd hS1 hS2 hS3 hS ob0 ob1 ob2 o1 o11 o12 fz2 hrun hown2 hgr row1 hbz1 hbz2 hbz3 hHeld6 hHeld7 hHeld8 hHeld9
     go_wp2
     go_roundw
     case rel => exact ⟨s + 1, by omega, by go_num, HOn, HE⟩
     case measure => simp [intOf]; omega
    ·refine hK.out _ _ hS1 (fun hHeld7 => ?_)
     clear hK K
     (try simp only [Act.put, u1, u2, u3])
     refine rk 1 rfl (fun K hK => ?_)
     go_simp
     refine hK.out _ _ hS1 (fun hHeld6 => ?_)
     clear hK K
     (try simp only [Act.put, u1, u2, u3])
     refine rk 8 rfl (fun K hK => ?_)
     rw [if_pos (by rfl)]
     refine opwp_append _ _ _ rfl _ _ rfl rfl hrun ?_
     refine hK.out _ _ hS2 (fun hHeld8 => ?_)
     clear hK K
     (try simp only [Act.put, u1, u2, u3])
     refine tk 9 ⟨some 82, .fieldAddr 29 (.tmp 6) 1, 0, "l07_deltas.go:52", #[⟨0, .phase⟩, ⟨1, .phase⟩, ⟨2, .phase⟩, ⟨3, .phase⟩, ⟨4, .phase⟩, ⟨5, .phase⟩, ⟨6, .phase⟩, ⟨7, .phase⟩, ⟨8, .phase⟩], none⟩ ?_
     (try simp only [Act.put, u1, u2, u3])
     refine rk 10 rfl (fun K hK => ?_)
     go_simp
     refine hK.out _ _ hS3 (fun hHeld9 => ?_)
     clear hK K
     (try simp only [Act.put, u1, u2, u3])
     refine wpAnyH_done (by kernel_rfl) ?_ _
     have HOn : Hid (OutL ob (some ⟨vb, vo, none⟩) zc zs (mergeF l m) w2 (z2.setCell ⟨ob, 1, none⟩ (.slice va2 (L.length + 1) vc2)) d (s + 1)) := by
      show OutL _ _ _ _ _ _ _ _ _
      unfold OutL
      rw [HSt.out, HFy.out, opCells_snoc, List.length_append]
      exact ⟨va2, vc2, HBOX3.out, HROW3.out, HBL.out.trans HBEL3.out⟩
     clear HBOX3 HROW3 HBEL3 hSd hS1 hS2 hS3 hS ob0 ob1 ob2 o1 o11 o12 fz2 hrun hown2 hgr row1 hbz1 hbz2 hbz3 hHeld6 hHeld7 hHeld8 hHeld9
     go_wp2
     go_roundw
     case rel => exact ⟨s + 1, by omega, by go_num, HOn, HE⟩
     case measure => simp [intOf]; omega
   have HXi : Hid (getO l (d : Int) ((s : Int) + 1) = some (atOp l i)) := by
    show _ = _
    have := setF_hit (cart_inc HCa.out) l.length (Nat.le_refl _) i (by rw [HL.out]; exact hil)
    rw [hie.1, hie.2] at this
    exact this
   obtain ⟨b1', off1, rfl, hb1', ho1⟩ := HOr.out.2 i hil
   have HO7 : Hid (OpAt wr b1' (off1 + i * 8) (atOp l i)) := ho1
   have hii : (i : Int) < (no : Int) := by omega
   have hi0 : ¬ ((i : Int) < 0) := by omega
   clear ho1 hie
   generalize atOp l i = x at HXi HO7
   go_wp2_with fail
   refine (l4At wr B bo mo eo m (d : Int) ((s : Int) + 1) HGr.out hn2).mono ?_
   rintro e w5 ⟨hor, rfl⟩
   rcases hor with ⟨k, hkm, hke, rfl⟩ | ⟨hno, rfl⟩
   rotate_left
   ·have hg2 : getO m (d : Int) ((s : Int) + 1) = none := setF_miss _ fun j hj => hno j (by rw [← HLm.out]; exact hj)
    have HFy : Hid (mergeF l m d s = x) := by show _ = _; rw [HFds.out]; unfold joinAt; rw [HXi.out, hg2]
    have HE := Lib.hid (HOk3.out ⟨fun a b ha hb => (by rw [hg2] at hb; cases hb), .inl (by rw [HXi.out]; rfl)⟩)
    clear hno hg2
    obtain ⟨c0', c1', c2', c3', c4', c5', c6', c7'⟩ := HO7.out
    have hSw : wr.cell? ⟨w.heap.size, 1, none⟩ = some (.slice (some ⟨b1', off1, none⟩) no co) ∧ wr.cell? ⟨b1', off1 + i * 8, none⟩ = some (.int .i64 x.dev) ∧ wr.cell? ⟨b1', off1 + i * 8 + 1, none⟩ = some (.int .i64 x.seq) ∧ wr.cell? ⟨b1', off1 + i * 8 + 2, none⟩ = some (.int .i64 x.stamp) ∧ wr.cell? ⟨b1', off1 + i * 8 + 3, none⟩ = some (.int .i64 x.kind) ∧ wr.cell? ⟨b1', off1 + i * 8 + 4, none⟩ = some (.string x.item) ∧ wr.cell? ⟨b1', off1 + i * 8 + 5, none⟩ = some (.int .i64 x.qty) ∧ wr.cell? ⟨b1', off1 + i * 8 + 6, none⟩ = some (.int .i64 x.level) ∧ wr.cell? ⟨b1', off1 + i * 8 + 7, none⟩ = some (.int .i64 x.undos) := ⟨a1, c0', c1', c2', c3', c4', c5', c6', c7'⟩
    clear a0 a1 b0 b1 c0 o0 o1 c0' c1' c2' c3' c4' c5' c6' c7' HO7
    go_upto_region 18 with fail
    obtain ⟨z0, hz0e⟩ : ∃ z0, wr.drew = z0 := ⟨_, rfl⟩
    have hS : z0.cell? ⟨w.heap.size, 1, none⟩ = some (.slice (some ⟨b1', off1, none⟩) no co) ∧ z0.cell? ⟨b1', off1 + i * 8, none⟩ = some (.int .i64 x.dev) ∧ z0.cell? ⟨b1', off1 + i * 8 + 1, none⟩ = some (.int .i64 x.seq) ∧ z0.cell? ⟨b1', off1 + i * 8 + 2, none⟩ = some (.int .i64 x.stamp) ∧ z0.cell? ⟨b1', off1 + i * 8 + 3, none⟩ = some (.int .i64 x.kind) ∧ z0.cell? ⟨b1', off1 + i * 8 + 4, none⟩ = some (.string x.item) ∧ z0.cell? ⟨b1', off1 + i * 8 + 5, none⟩ = some (.int .i64 x.qty) ∧ z0.cell? ⟨b1', off1 + i * 8 + 6, none⟩ = some (.int .i64 x.level) ∧ z0.cell? ⟨b1', off1 + i * 8 + 7, none⟩ = some (.int .i64 x.undos) := ⟨by rw [← hz0e]; exact hSw.1, by rw [← hz0e]; exact hSw.2.1, by rw [← hz0e]; exact hSw.2.2.1, by rw [← hz0e]; exact hSw.2.2.2.1, by rw [← hz0e]; exact hSw.2.2.2.2.1, by rw [← hz0e]; exact hSw.2.2.2.2.2.1, by rw [← hz0e]; exact hSw.2.2.2.2.2.2.1, by rw [← hz0e]; exact hSw.2.2.2.2.2.2.2.1, by rw [← hz0e]; exact hSw.2.2.2.2.2.2.2.2⟩
    have ob0 : Hid (z0.heap[ob]? = some (.cells #[.slice (some ⟨vb, vo, none⟩) 4 zc, .slice oa L.length oc] 29 (0, 0))) := by rw [← hz0e]; exact HOB.out
    have row0 : z0.ownsRow (ob + 1) 77 8 (.slice oa L.length oc) L.length (opCells L) := by rw [← hz0e]; exact HROW.out
    have obl0 : ob < z0.heap.size := by rw [← hz0e]; exact hobl
    have hb0z : Hid (Below ob wr z0) := by rw [← hz0e]; exact ⟨rfl, rfl, rfl, Nat.le_refl _, fun _ _ => rfl⟩
    have o1 := (pair_cells ob0.out).2
    have row1 := row0.alloc (.cells #[.int .i64 x.dev, .int .i64 x.seq, .int .i64 x.stamp, .int .i64 x.kind, .string x.item, .int .i64 x.qty, .int .i64 x.level, .int .i64 x.undos] 77)
    have hbz1 : Below ob z0 (z0.alloc (.cells #[.int .i64 x.dev, .int .i64 x.seq, .int .i64 x.stamp, .int .i64 x.kind, .string x.item, .int .i64 x.qty, .int .i64 x.level, .int .i64 x.undos] 77)) := (Below.refl ob z0).alloc (by omega) _
    obtain ⟨v', z2, hrun, hown2, hgr, _⟩ := run_append_own (P := Try.prog) (z0.alloc (.cells #[.int .i64 x.dev, .int .i64 x.seq, .int .i64 x.stamp, .int .i64 x.kind, .string x.item, .int .i64 x.qty, .int .i64 x.level, .int .i64 x.undos] 77)) (ob + 1) 27 27 77 i0 (.agg #[.int .i64 0, .int .i64 0, .int .i64 0, .int .i64 0, .string ⟨#[]⟩, .int .i64 0, .int .i64 0, .int .i64 0]) 8 72 Try.underlying27 hi hz0 hz1 hz2 rfl (by decide) _ _ _ row1 ⟨z0.heap.size, 0, none⟩ 1 1 (opRow x) rfl (opRow_new z0 x) (fun u hu => opCells_one [x] u (by show u ∈ opRow x ++ []; rw [List.append_nil]; exact hu)) (by unfold maxLen; omega) (by omega) (by show _ ≤ (z0.heap.push _).size; simp; omega)
    have hbz2 : Below ob z0 z2 := hbz1.grown hgr (Nat.le_trans (by omega) hbz1.size) (fun q hq => by have := (row1.lt q hq).1; omega)
    obtain ⟨va2, vc2, rfl⟩ : ∃ va2 vc2, v' = .slice va2 (L.length + 1) vc2 := by
     rcases hown2.2 with ⟨_, e2⟩ | ⟨_, c2, _, e2, _⟩
     ·omega
     ·exact ⟨_, c2, e2⟩
    have ob1 : Hid ((z0.alloc (.cells #[.int .i64 x.dev, .int .i64 x.seq, .int .i64 x.stamp, .int .i64 x.kind, .string x.item, .int .i64 x.qty, .int .i64 x.level, .int .i64 x.undos] 77)).heap[ob]? = some (.cells #[.slice (some ⟨vb, vo, none⟩) 4 zc, .slice oa L.length oc] 29 (0, 0))) := (Below.heap_alloc _ _ _ obl0).trans ob0.out
    have ob2 : Hid (z2.heap[ob]? = some (.cells #[.slice (some ⟨vb, vo, none⟩) 4 zc, .slice oa L.length oc] 29 (0, 0))) := (hgr.block ob (by show _ < (z0.heap.push _).size; simp; omega) (fun h => by have := (row1.lt ob h.symm).1; omega)).trans ob1.out
    have o11 := (pair_cells ob1.out).2
    have o12 := (pair_cells ob2.out).2
    have fz2 := (pair_frozen ob2.out).2
    have HBOX3 : Hid ((z2.setCell ⟨ob, 1, none⟩ (.slice va2 (L.length + 1) vc2)).heap[ob]? = some (.cells #[.slice (some ⟨vb, vo, none⟩) 4 zc, .slice va2 (L.length + 1) vc2] 29 (0, 0))) := heap_setCell_same _ _ _ _ _ _ ob2.out
    have HROW3 : Hid ((z2.setCell ⟨ob, 1, none⟩ (.slice va2 (L.length + 1) vc2)).ownsRow (ob + 1) 77 8 (.slice va2 (L.length + 1) vc2) (L.length + 1) (opCells L ++ opRow x)) := row_put hown2 (fun q hq => by have := (hown2.lt q hq).1; omega)
    have hbz3 : Below ob z0 (z2.setCell ⟨ob, 1, none⟩ (.slice va2 (L.length + 1) vc2)) := hbz2.setCell (Nat.le_refl _) _
    have HBEL3 : Hid (Below ob wr (z2.setCell ⟨ob, 1, none⟩ (.slice va2 (L.length + 1) vc2))) := hb0z.out.trans hbz3
    have hSd : z0.cell? ⟨w.heap.size, 1, none⟩ = some (.slice (some ⟨b1', off1, none⟩) no co) ∧ z0.cell? ⟨b1', off1 + i * 8, none⟩ = some (.int .i64 x.dev) ∧ z0.cell? ⟨b1', off1 + i * 8 + 1, none⟩ = some (.int .i64 x.seq) ∧ z0.cell? ⟨b1', off1 + i * 8 + 2, none⟩ = some (.int .i64 x.stamp) ∧ z0.cell? ⟨b1', off1 + i * 8 + 3, none⟩ = some (.int .i64 x.kind) ∧ z0.cell? ⟨b1', off1 + i * 8 + 4, none⟩ = some (.string x.item) ∧ z0.cell? ⟨b1', off1 + i * 8 + 5, none⟩ = some (.int .i64 x.qty) ∧ z0.cell? ⟨b1', off1 + i * 8 + 6, none⟩ = some (.int .i64 x.level) ∧ z0.cell? ⟨b1', off1 + i * 8 + 7, none⟩ = some (.int .i64 x.undos) := hS
    have hS1 : (z0.alloc (.cells #[.int .i64 x.dev, .int .i64 x.seq, .int .i64 x.stamp, .int .i64 x.kind, .string x.item, .int .i64 x.qty, .int .i64 x.level, .int .i64 x.undos] 77)).cell? ⟨w.heap.size, 1, none⟩ = some (.slice (some ⟨b1', off1, none⟩) no co) ∧ (z0.alloc (.cells #[.int .i64 x.dev, .int .i64 x.seq, .int .i64 x.stamp, .int .i64 x.kind, .string x.item, .int .i64 x.qty, .int .i64 x.level, .int .i64 x.undos] 77)).cell? ⟨b1', off1 + i * 8, none⟩ = some (.int .i64 x.dev) ∧ (z0.alloc (.cells #[.int .i64 x.dev, .int .i64 x.seq, .int .i64 x.stamp, .int .i64 x.kind, .string x.item, .int .i64 x.qty, .int .i64 x.level, .int .i64 x.undos] 77)).cell? ⟨b1', off1 + i * 8 + 1, none⟩ = some (.int .i64 x.seq) ∧ (z0.alloc (.cells #[.int .i64 x.dev, .int .i64 x.seq, .int .i64 x.stamp, .int .i64 x.kind, .string x.item, .int .i64 x.qty, .int .i64 x.level, .int .i64 x.undos] 77)).cell? ⟨b1', off1 + i * 8 + 2, none⟩ = some (.int .i64 x.stamp) ∧ (z0.alloc (.cells #[.int .i64 x.dev, .int .i64 x.seq, .int .i64 x.stamp, .int .i64 x.kind, .string x.item, .int .i64 x.qty, .int .i64 x.level, .int .i64 x.undos] 77)).cell? ⟨b1', off1 + i * 8 + 3, none⟩ = some (.int .i64 x.kind) ∧ (z0.alloc (.cells #[.int .i64 x.dev, .int .i64 x.seq, .int .i64 x.stamp, .int .i64 x.kind, .string x.item, .int .i64 x.qty, .int .i64 x.level, .int .i64 x.undos] 77)).cell? ⟨b1', off1 + i * 8 + 4, none⟩ = some (.string x.item) ∧ (z0.alloc (.cells #[.int .i64 x.dev, .int .i64 x.seq, .int .i64 x.stamp, .int .i64 x.kind, .string x.item, .int .i64 x.qty, .int .i64 x.level, .int .i64 x.undos] 77)).cell? ⟨b1', off1 + i * 8 + 5, none⟩ = some (.int .i64 x.qty) ∧ (z0.alloc (.cells #[.int .i64 x.dev, .int .i64 x.seq, .int .i64 x.stamp, .int .i64 x.kind, .string x.item, .int .i64 x.qty, .int .i64 x.level, .int .i64 x.undos] 77)).cell? ⟨b1', off1 + i * 8 + 6, none⟩ = some (.int .i64 x.level) ∧ (z0.alloc (.cells #[.int .i64 x.dev, .int .i64 x.seq, .int .i64 x.stamp, .int .i64 x.kind, .string x.item, .int .i64 x.qty, .int .i64 x.level, .int .i64 x.undos] 77)).cell? ⟨b1', off1 + i * 8 + 7, none⟩ = some (.int .i64 x.undos) := ⟨(hbz1.cell (by show w.heap.size < ob; omega)).trans hS.1, (hbz1.cell (by show b1' < ob; omega)).trans hS.2.1, (hbz1.cell (by show b1' < ob; omega)).trans hS.2.2.1, (hbz1.cell (by show b1' < ob; omega)).trans hS.2.2.2.1, (hbz1.cell (by show b1' < ob; omega)).trans hS.2.2.2.2.1, (hbz1.cell (by show b1' < ob; omega)).trans hS.2.2.2.2.2.1, (hbz1.cell (by show b1' < ob; omega)).trans hS.2.2.2.2.2.2.1, (hbz1.cell (by show b1' < ob; omega)).trans hS.2.2.2.2.2.2.2.1, (hbz1.cell (by show b1' < ob; omega)).trans hS.2.2.2.2.2.2.2.2⟩
    have hS2 : z2.cell? ⟨w.heap.size, 1, none⟩ = some (.slice (some ⟨b1', off1, none⟩) no co) ∧ z2.cell? ⟨b1', off1 + i * 8, none⟩ = some (.int .i64 x.dev) ∧ z2.cell? ⟨b1', off1 + i * 8 + 1, none⟩ = some (.int .i64 x.seq) ∧ z2.cell? ⟨b1', off1 + i * 8 + 2, none⟩ = some (.int .i64 x.stamp) ∧ z2.cell? ⟨b1', off1 + i * 8 + 3, none⟩ = some (.int .i64 x.kind) ∧ z2.cell? ⟨b1', off1 + i * 8 + 4, none⟩ = some (.string x.item) ∧ z2.cell? ⟨b1', off1 + i * 8 + 5, none⟩ = some (.int .i64 x.qty) ∧ z2.cell? ⟨b1', off1 + i * 8 + 6, none⟩ = some (.int .i64 x.level) ∧ z2.cell? ⟨b1', off1 + i * 8 + 7, none⟩ = some (.int .i64 x.undos) := ⟨(hbz2.cell (by show w.heap.size < ob; omega)).trans hS.1, (hbz2.cell (by show b1' < ob; omega)).trans hS.2.1, (hbz2.cell (by show b1' < ob; omega)).trans hS.2.2.1, (hbz2.cell (by show b1' < ob; omega)).trans hS.2.2.2.1, (hbz2.cell (by show b1' < ob; omega)).trans hS.2.2.2.2.1, (hbz2.cell (by show b1' < ob; omega)).trans hS.2.2.2.2.2.1, (hbz2.cell (by show b1' < ob; omega)).trans hS.2.2.2.2.2.2.1, (hbz2.cell (by show b1' < ob; omega)).trans hS.2.2.2.2.2.2.2.1, (hbz2.cell (by show b1' < ob; omega)).trans hS.2.2.2.2.2.2.2.2⟩
    have hS3 : (z2.setCell ⟨ob, 1, none⟩ (.slice va2 (L.length + 1) vc2)).cell? ⟨w.heap.size, 1, none⟩ = some (.slice (some ⟨b1', off1, none⟩) no co) ∧ (z2.setCell ⟨ob, 1, none⟩ (.slice va2 (L.length + 1) vc2)).cell? ⟨b1', off1 + i * 8, none⟩ = some (.int .i64 x.dev) ∧ (z2.setCell ⟨ob, 1, none⟩ (.slice va2 (L.length + 1) vc2)).cell? ⟨b1', off1 + i * 8 + 1, none⟩ = some (.int .i64 x.seq) ∧ (z2.setCell ⟨ob, 1, none⟩ (.slice va2 (L.length + 1) vc2)).cell? ⟨b1', off1 + i * 8 + 2, none⟩ = some (.int .i64 x.stamp) ∧ (z2.setCell ⟨ob, 1, none⟩ (.slice va2 (L.length + 1) vc2)).cell? ⟨b1', off1 + i * 8 + 3, none⟩ = some (.int .i64 x.kind) ∧ (z2.setCell ⟨ob, 1, none⟩ (.slice va2 (L.length + 1) vc2)).cell? ⟨b1', off1 + i * 8 + 4, none⟩ = some (.string x.item) ∧ (z2.setCell ⟨ob, 1, none⟩ (.slice va2 (L.length + 1) vc2)).cell? ⟨b1', off1 + i * 8 + 5, none⟩ = some (.int .i64 x.qty) ∧ (z2.setCell ⟨ob, 1, none⟩ (.slice va2 (L.length + 1) vc2)).cell? ⟨b1', off1 + i * 8 + 6, none⟩ = some (.int .i64 x.level) ∧ (z2.setCell ⟨ob, 1, none⟩ (.slice va2 (L.length + 1) vc2)).cell? ⟨b1', off1 + i * 8 + 7, none⟩ = some (.int .i64 x.undos) := ⟨(hbz3.cell (by show w.heap.size < ob; omega)).trans hS.1, (hbz3.cell (by show b1' < ob; omega)).trans hS.2.1, (hbz3.cell (by show b1' < ob; omega)).trans hS.2.2.1, (hbz3.cell (by show b1' < ob; omega)).trans hS.2.2.2.1, (hbz3.cell (by show b1' < ob; omega)).trans hS.2.2.2.2.1, (hbz3.cell (by show b1' < ob; omega)).trans hS.2.2.2.2.2.1, (hbz3.cell (by show b1' < ob; omega)).trans hS.2.2.2.2.2.2.1, (hbz3.cell (by show b1' < ob; omega)).trans hS.2.2.2.2.2.2.2.1, (hbz3.cell (by show b1' < ob; omega)).trans hS.2.2.2.2.2.2.2.2⟩
    clear hSw HOB HROW row0 hb0z
    go_wp2_with fail
    refine wp_region_held_drew (S := fun w' => w'.cell? ⟨w.heap.size, 1, none⟩ = some (.slice (some ⟨b1', off1, none⟩) no co) ∧ w'.cell? ⟨b1', off1 + i * 8, none⟩ = some (.int .i64 x.dev) ∧ w'.cell? ⟨b1', off1 + i * 8 + 1, none⟩ = some (.int .i64 x.seq) ∧ w'.cell? ⟨b1', off1 + i * 8 + 2, none⟩ = some (.int .i64 x.stamp) ∧ w'.cell? ⟨b1', off1 + i * 8 + 3, none⟩ = some (.int .i64 x.kind) ∧ w'.cell? ⟨b1', off1 + i * 8 + 4, none⟩ = some (.string x.item) ∧ w'.cell? ⟨b1', off1 + i * 8 + 5, none⟩ = some (.int .i64 x.qty) ∧ w'.cell? ⟨b1', off1 + i * 8 + 6, none⟩ = some (.int .i64 x.level) ∧ w'.cell? ⟨b1', off1 + i * 8 + 7, none⟩ = some (.int .i64 x.undos)) (by kernel_rfl) (by rw [hz0e]; exact hS) (fun hHeld => ?_)
    rw [hz0e]
    clear hHeld
    refine tk 0 ⟨some 86, .fieldAddr 29 (.tmp 6) 1, 0, "l07_deltas.go:54", #[], none⟩ ?_
    (try simp only [Act.put, u1, u2, u3])
    refine tk 2 ⟨some 88, .fieldAddr 29 (.tmp 2) 1, 0, "l07_deltas.go:54", #[], none⟩ ?_
    (try simp only [Act.put, u1, u2, u3])
    refine tk 3 ⟨some 89, .load 27 (.tmp 88), 27, "l07_deltas.go:54", #[⟨2, .data⟩], none⟩ ?_
    (try simp only [Act.put, u1, u2, u3])
    refine tk 4 ⟨some 90, .move (.tmp 9), 3, "l07_deltas.go:54", #[], none⟩ ?_
    (try simp only [Act.put, u1, u2, u3])
    refine tk 5 ⟨some 91, .indexAddr 27 (.tmp 89) (.tmp 90), 0, "l07_deltas.go:54", #[⟨3, .data⟩, ⟨4, .data⟩], none⟩ ?_
    (try simp only [Act.put, u1, u2, u3])
    refine tk 6 ⟨some 92, .load 77 (.tmp 91), 77, "l07_deltas.go:54", #[⟨5, .data⟩], none⟩ ?_
    (try simp only [Act.put, u1, u2, u3])
    refine wpAnyH_ready (rs := [1, 7]) (by kernel_rfl) (by simp) ?_
    refine AllReadyH.cons rfl (fun K hK => ?_) (AllReadyH.cons rfl (fun K hK => ?_) AllReadyH.nil)
    all_goals go_simp
    ·refine hK.out _ _ hSd (fun hHeld7 => ?_)
     clear hK K
     (try simp only [Act.put, u1, u2, u3])
     refine rk 7 rfl (fun K hK => ?_)
     go_simp
     refine hK.out _ _ hS1 (fun hHeld6 => ?_)
     clear hK K
     (try simp only [Act.put, u1, u2, u3])
     refine rk 8 rfl (fun K hK => ?_)
     rw [if_pos (by rfl)]
     refine opwp_append _ _ _ rfl _ _ rfl rfl hrun ?_
     refine hK.out _ _ hS2 (fun hHeld8 => ?_)
     clear hK K
     (try simp only [Act.put, u1, u2, u3])
     refine tk 9 ⟨some 95, .fieldAddr 29 (.tmp 6) 1, 0, "l07_deltas.go:54", #[⟨0, .phase⟩, ⟨1, .phase⟩, ⟨2, .phase⟩, ⟨3, .phase⟩, ⟨4, .phase⟩, ⟨5, .phase⟩, ⟨6, .phase⟩, ⟨7, .phase⟩, ⟨8, .phase⟩], none⟩ ?_
     (try simp only [Act.put, u1, u2, u3])
     refine rk 10 rfl (fun K hK => ?_)
     go_simp
     refine hK.out _ _ hS3 (fun hHeld9 => ?_)
     clear hK K
     (try simp only [Act.put, u1, u2, u3])
     refine wpAnyH_done (by kernel_rfl) ?_ _
     have HOn : Hid (OutL ob (some ⟨vb, vo, none⟩) zc zs (mergeF l m) w2 (z2.setCell ⟨ob, 1, none⟩ (.slice va2 (L.length + 1) vc2)) d (s + 1)) := by
      show OutL _ _ _ _ _ _ _ _ _
      unfold OutL
      rw [HSt.out, HFy.out, opCells_snoc, List.length_append]
      exact ⟨va2, vc2, HBOX3.out, HROW3.out, HBL.out.trans HBEL3.out⟩
     clear HBOX3 HROW3 HBEL3 hSd hS1 hS2 hS3 hS ob0 ob1 ob2 o1 o11 o12 fz2 hrun hown2 hgr row1 hbz1 hbz2 hbz3 hHeld6 hHeld7 hHeld8 hHeld9
     go_wp2
     go_roundw
     case rel => exact ⟨s + 1, by omega, by go_num, HOn, HE⟩
     case measure => simp [intOf]; omega
    ·refine hK.out _ _ hS1 (fun hHeld7 => ?_)
     clear hK K
     (try simp only [Act.put, u1, u2, u3])
     refine rk 1 rfl (fun K hK => ?_)
     go_simp
     refine hK.out _ _ hS1 (fun hHeld6 => ?_)
     clear hK K
     (try simp only [Act.put, u1, u2, u3])
     refine rk 8 rfl (fun K hK => ?_)
     rw [if_pos (by rfl)]
     refine opwp_append _ _ _ rfl _ _ rfl rfl hrun ?_
     refine hK.out _ _ hS2 (fun hHeld8 => ?_)
     clear hK K
     (try simp only [Act.put, u1, u2, u3])
     refine tk 9 ⟨some 95, .fieldAddr 29 (.tmp 6) 1, 0, "l07_deltas.go:54", #[⟨0, .phase⟩, ⟨1, .phase⟩, ⟨2, .phase⟩, ⟨3, .phase⟩, ⟨4, .phase⟩, ⟨5, .phase⟩, ⟨6, .phase⟩, ⟨7, .phase⟩, ⟨8, .phase⟩], none⟩ ?_
     (try simp only [Act.put, u1, u2, u3])
     refine rk 10 rfl (fun K hK => ?_)
     go_simp
     refine hK.out _ _ hS3 (fun hHeld9 => ?_)
     clear hK K
     (try simp only [Act.put, u1, u2, u3])
     refine wpAnyH_done (by kernel_rfl) ?_ _
     have HOn : Hid (OutL ob (some ⟨vb, vo, none⟩) zc zs (mergeF l m) w2 (z2.setCell ⟨ob, 1, none⟩ (.slice va2 (L.length + 1) vc2)) d (s + 1)) := by
      show OutL _ _ _ _ _ _ _ _ _
      unfold OutL
      rw [HSt.out, HFy.out, opCells_snoc, List.length_append]
      exact ⟨va2, vc2, HBOX3.out, HROW3.out, HBL.out.trans HBEL3.out⟩
     clear HBOX3 HROW3 HBEL3 hSd hS1 hS2 hS3 hS ob0 ob1 ob2 o1 o11 o12 fz2 hrun hown2 hgr row1 hbz1 hbz2 hbz3 hHeld6 hHeld7 hHeld8 hHeld9
     go_wp2
     go_roundw
     case rel => exact ⟨s + 1, by omega, by go_num, HOn, HE⟩
     case measure => simp [intOf]; omega
   obtain ⟨b2, off2, rfl, hb2, ho2⟩ := HGr.out.2 k hkm
   have HO8 : Hid (OpAt wr b2 (off2 + k * 8) (atOp m k)) := ho2
   have HYk : Hid (getO m (d : Int) ((s : Int) + 1) = some (atOp m k)) := by
    show _ = _
    have := setF_hit ((part_split HCb.out).2.2) m.length (Nat.le_refl _) k (by rw [HLm.out]; exact hkm)
    rw [hke.1, hke.2] at this
    exact this
   have HStop : Hid (sameB x (atOp m k) = false → takB xs l ys m = false) := fun h => tak_differ HXi.out HYk.out h HCa.out HCb.out
   have hki : (k : Int) < (mo : Int) := by omega
   have hk0 : ¬ ((k : Int) < 0) := by omega
   clear ho2 hke
   generalize atOp m k = y at HO8 HYk HStop
   obtain ⟨c0', c1', c2', c3', c4', c5', c6', c7'⟩ := HO7.out
   obtain ⟨e0', e1', e2', e3', e4', e5', e6', e7'⟩ := HO8.out
   have hS : wr.drew.cell? ⟨w.heap.size, 1, none⟩ = some (.slice (some ⟨b1', off1, none⟩) no co) ∧ wr.drew.cell? ⟨w.heap.size + 1, 1, none⟩ = some (.slice (some ⟨b2, off2, none⟩) mo eo) ∧ (wr.drew.cell? ⟨b1', off1 + i * 8, none⟩ = some (.int .i64 x.dev) ∧ wr.drew.cell? ⟨b1', off1 + i * 8 + 1, none⟩ = some (.int .i64 x.seq) ∧ wr.drew.cell? ⟨b1', off1 + i * 8 + 2, none⟩ = some (.int .i64 x.stamp) ∧ wr.drew.cell? ⟨b1', off1 + i * 8 + 3, none⟩ = some (.int .i64 x.kind) ∧ wr.drew.cell? ⟨b1', off1 + i * 8 + 4, none⟩ = some (.string x.item) ∧ wr.drew.cell? ⟨b1', off1 + i * 8 + 5, none⟩ = some (.int .i64 x.qty) ∧ wr.drew.cell? ⟨b1', off1 + i * 8 + 6, none⟩ = some (.int .i64 x.level) ∧ wr.drew.cell? ⟨b1', off1 + i * 8 + 7, none⟩ = some (.int .i64 x.undos)) ∧ wr.drew.cell? ⟨b2, off2 + k * 8, none⟩ = some (.int .i64 y.dev) ∧ wr.drew.cell? ⟨b2, off2 + k * 8 + 1, none⟩ = some (.int .i64 y.seq) ∧ wr.drew.cell? ⟨b2, off2 + k * 8 + 2, none⟩ = some (.int .i64 y.stamp) ∧ wr.drew.cell? ⟨b2, off2 + k * 8 + 3, none⟩ = some (.int .i64 y.kind) ∧ wr.drew.cell? ⟨b2, off2 + k * 8 + 4, none⟩ = some (.string y.item) ∧ wr.drew.cell? ⟨b2, off2 + k * 8 + 5, none⟩ = some (.int .i64 y.qty) ∧ wr.drew.cell? ⟨b2, off2 + k * 8 + 6, none⟩ = some (.int .i64 y.level) ∧ wr.drew.cell? ⟨b2, off2 + k * 8 + 7, none⟩ = some (.int .i64 y.undos) := ⟨a1, b1, ⟨c0', c1', c2', c3', c4', c5', c6', c7'⟩, e0', e1', e2', e3', e4', e5', e6', e7'⟩
   clear a0 a1 b0 b1 c0 o0 o1 c0' c1' c2' c3' c4' c5' c6' c7' e0' e1' e2' e3' e4' e5' e6' e7' HO7 HO8 HOr HGr
   go_upto_region 19 with fail
   have HTd := Lib.hid (HTr.out)
   rcases hsm : sameB x y with _ | _
   ·have HNo := Lib.hid (HStop.out hsm)
    have HSm := Lib.hid hsm
    clear hsm
    go_wp2_with fail
    refine wp_region_held_drew (S := fun w' => w'.cell? ⟨w.heap.size, 1, none⟩ = some (.slice (some ⟨b1', off1, none⟩) no co) ∧ w'.cell? ⟨w.heap.size + 1, 1, none⟩ = some (.slice (some ⟨b2, off2, none⟩) mo eo) ∧ (w'.cell? ⟨b1', off1 + i * 8, none⟩ = some (.int .i64 x.dev) ∧ w'.cell? ⟨b1', off1 + i * 8 + 1, none⟩ = some (.int .i64 x.seq) ∧ w'.cell? ⟨b1', off1 + i * 8 + 2, none⟩ = some (.int .i64 x.stamp) ∧ w'.cell? ⟨b1', off1 + i * 8 + 3, none⟩ = some (.int .i64 x.kind) ∧ w'.cell? ⟨b1', off1 + i * 8 + 4, none⟩ = some (.string x.item) ∧ w'.cell? ⟨b1', off1 + i * 8 + 5, none⟩ = some (.int .i64 x.qty) ∧ w'.cell? ⟨b1', off1 + i * 8 + 6, none⟩ = some (.int .i64 x.level) ∧ w'.cell? ⟨b1', off1 + i * 8 + 7, none⟩ = some (.int .i64 x.undos)) ∧ w'.cell? ⟨b2, off2 + k * 8, none⟩ = some (.int .i64 y.dev) ∧ w'.cell? ⟨b2, off2 + k * 8 + 1, none⟩ = some (.int .i64 y.seq) ∧ w'.cell? ⟨b2, off2 + k * 8 + 2, none⟩ = some (.int .i64 y.stamp) ∧ w'.cell? ⟨b2, off2 + k * 8 + 3, none⟩ = some (.int .i64 y.kind) ∧ w'.cell? ⟨b2, off2 + k * 8 + 4, none⟩ = some (.string y.item) ∧ w'.cell? ⟨b2, off2 + k * 8 + 5, none⟩ = some (.int .i64 y.qty) ∧ w'.cell? ⟨b2, off2 + k * 8 + 6, none⟩ = some (.int .i64 y.level) ∧ w'.cell? ⟨b2, off2 + k * 8 + 7, none⟩ = some (.int .i64 y.undos)) (by kernel_rfl) hS (fun hHeld => ?_)
    refine tk 0 ⟨some 97, .fieldAddr 29 (.tmp 2) 1, 0, "l07_deltas.go:55", #[], none⟩ ?_
    (try simp only [Act.put, u1, u2, u3])
    refine tk 1 ⟨some 98, .load 27 (.tmp 97), 27, "l07_deltas.go:55", #[⟨0, .data⟩], none⟩ ?_
    (try simp only [Act.put, u1, u2, u3])
    refine tk 2 ⟨some 99, .move (.tmp 9), 3, "l07_deltas.go:55", #[], none⟩ ?_
    (try simp only [Act.put, u1, u2, u3])
    refine tk 3 ⟨some 100, .indexAddr 27 (.tmp 98) (.tmp 99), 0, "l07_deltas.go:55", #[⟨1, .data⟩, ⟨2, .data⟩], none⟩ ?_
    (try simp only [Act.put, u1, u2, u3])
    refine tk 4 ⟨some 101, .load 77 (.tmp 100), 77, "l07_deltas.go:55", #[⟨3, .data⟩], none⟩ ?_
    (try simp only [Act.put, u1, u2, u3])
    refine tk 5 ⟨some 102, .fieldAddr 29 (.tmp 3) 1, 0, "l07_deltas.go:55", #[], none⟩ ?_
    (try simp only [Act.put, u1, u2, u3])
    refine tk 6 ⟨some 103, .load 27 (.tmp 102), 27, "l07_deltas.go:55", #[⟨5, .data⟩], none⟩ ?_
    (try simp only [Act.put, u1, u2, u3])
    refine tk 7 ⟨some 104, .move (.tmp 10), 3, "l07_deltas.go:55", #[], none⟩ ?_
    (try simp only [Act.put, u1, u2, u3])
    refine tk 8 ⟨some 105, .indexAddr 27 (.tmp 103) (.tmp 104), 0, "l07_deltas.go:55", #[⟨6, .data⟩, ⟨7, .data⟩], none⟩ ?_
    (try simp only [Act.put, u1, u2, u3])
    refine tk 9 ⟨some 106, .load 77 (.tmp 105), 77, "l07_deltas.go:55", #[⟨8, .data⟩], none⟩ ?_
    (try simp only [Act.put, u1, u2, u3])
    refine rk 10 rfl (fun K hK => ?_)
    go_simp
    go_at_call 103
    refine (l4Same x y wr.drew).mono ?_
    rintro e w5 ⟨rfl, hb5⟩
    rw [HSm.out]
    have hS5 : w5.cell? ⟨w.heap.size, 1, none⟩ = some (.slice (some ⟨b1', off1, none⟩) no co) ∧ w5.cell? ⟨w.heap.size + 1, 1, none⟩ = some (.slice (some ⟨b2, off2, none⟩) mo eo) ∧ (w5.cell? ⟨b1', off1 + i * 8, none⟩ = some (.int .i64 x.dev) ∧ w5.cell? ⟨b1', off1 + i * 8 + 1, none⟩ = some (.int .i64 x.seq) ∧ w5.cell? ⟨b1', off1 + i * 8 + 2, none⟩ = some (.int .i64 x.stamp) ∧ w5.cell? ⟨b1', off1 + i * 8 + 3, none⟩ = some (.int .i64 x.kind) ∧ w5.cell? ⟨b1', off1 + i * 8 + 4, none⟩ = some (.string x.item) ∧ w5.cell? ⟨b1', off1 + i * 8 + 5, none⟩ = some (.int .i64 x.qty) ∧ w5.cell? ⟨b1', off1 + i * 8 + 6, none⟩ = some (.int .i64 x.level) ∧ w5.cell? ⟨b1', off1 + i * 8 + 7, none⟩ = some (.int .i64 x.undos)) ∧ w5.cell? ⟨b2, off2 + k * 8, none⟩ = some (.int .i64 y.dev) ∧ w5.cell? ⟨b2, off2 + k * 8 + 1, none⟩ = some (.int .i64 y.seq) ∧ w5.cell? ⟨b2, off2 + k * 8 + 2, none⟩ = some (.int .i64 y.stamp) ∧ w5.cell? ⟨b2, off2 + k * 8 + 3, none⟩ = some (.int .i64 y.kind) ∧ w5.cell? ⟨b2, off2 + k * 8 + 4, none⟩ = some (.string y.item) ∧ w5.cell? ⟨b2, off2 + k * 8 + 5, none⟩ = some (.int .i64 y.qty) ∧ w5.cell? ⟨b2, off2 + k * 8 + 6, none⟩ = some (.int .i64 y.level) ∧ w5.cell? ⟨b2, off2 + k * 8 + 7, none⟩ = some (.int .i64 y.undos) := ⟨(hb5.cell (block_lt_of_cell hS.1)).trans hS.1, (hb5.cell (block_lt_of_cell hS.2.1)).trans hS.2.1, ⟨(hb5.cell (block_lt_of_cell hS.2.2.1.1)).trans hS.2.2.1.1, (hb5.cell (block_lt_of_cell hS.2.2.1.2.1)).trans hS.2.2.1.2.1, (hb5.cell (block_lt_of_cell hS.2.2.1.2.2.1)).trans hS.2.2.1.2.2.1, (hb5.cell (block_lt_of_cell hS.2.2.1.2.2.2.1)).trans hS.2.2.1.2.2.2.1, (hb5.cell (block_lt_of_cell hS.2.2.1.2.2.2.2.1)).trans hS.2.2.1.2.2.2.2.1, (hb5.cell (block_lt_of_cell hS.2.2.1.2.2.2.2.2.1)).trans hS.2.2.1.2.2.2.2.2.1, (hb5.cell (block_lt_of_cell hS.2.2.1.2.2.2.2.2.2.1)).trans hS.2.2.1.2.2.2.2.2.2.1, (hb5.cell (block_lt_of_cell hS.2.2.1.2.2.2.2.2.2.2)).trans hS.2.2.1.2.2.2.2.2.2.2⟩, (hb5.cell (block_lt_of_cell hS.2.2.2.1)).trans hS.2.2.2.1, (hb5.cell (block_lt_of_cell hS.2.2.2.2.1)).trans hS.2.2.2.2.1, (hb5.cell (block_lt_of_cell hS.2.2.2.2.2.1)).trans hS.2.2.2.2.2.1, (hb5.cell (block_lt_of_cell hS.2.2.2.2.2.2.1)).trans hS.2.2.2.2.2.2.1, (hb5.cell (block_lt_of_cell hS.2.2.2.2.2.2.2.1)).trans hS.2.2.2.2.2.2.2.1, (hb5.cell (block_lt_of_cell hS.2.2.2.2.2.2.2.2.1)).trans hS.2.2.2.2.2.2.2.2.1, (hb5.cell (block_lt_of_cell hS.2.2.2.2.2.2.2.2.2.1)).trans hS.2.2.2.2.2.2.2.2.2.1, (hb5.cell (block_lt_of_cell hS.2.2.2.2.2.2.2.2.2.2)).trans hS.2.2.2.2.2.2.2.2.2.2⟩
    refine hK.out _ _ hS5 (fun hHeld2 => ?_)
    clear hK K
    (try simp only [Act.put, u1, u2, u3])
    refine tk 11 ⟨some 108, .unOp .not 4 (.tmp 107), 4, "l07_deltas.go:55", #[⟨10, .data⟩], none⟩ ?_
    (try simp only [Act.put, u1, u2, u3])
    refine tk 12 ⟨some 96, .assign (.tmp 108), 4, "l07_deltas.go:55", #[⟨11, .data⟩, ⟨10, .chain⟩], none⟩ ?_
    (try simp only [Act.put, u1, u2, u3])
    refine wpAnyH_done (by kernel_rfl) ?_ _
    have hbb : Below wr.heap.size wr w5 := ⟨hb5.os, hb5.tape, hb5.output, hb5.size, hb5.block⟩
    have HT5 := Lib.hid (HTr.out.next hbb)
    have HF : Hid (takB xs l ys m = false) := HNo.out
    clear hS hS5 hHeld hHeld2 hb5 hbb HOB HROW HBL HTr HTd HCa HCb
    obtain ⟨r0, r1⟩ := pair_cells HT5.out.res
    obtain ⟨fz0, fz1⟩ := pair_frozen HT5.out.res
    have HXr := Lib.hid (HT5.out.set2S (.slice none 0 0) (.slice none 0 0)).1
    have HBr2 := Lib.hid (HT5.out.set2S (.slice none 0 0) (.slice none 0 0)).2
    go_wp2
    change bodyPost _ _ _ _ _ ((w5.setCell ⟨w.heap.size + 1 + 1, 0, none⟩ (.slice none 0 0)).setCell ⟨w.heap.size + 1 + 1, 1, none⟩ (.slice none 0 0))
    generalize (w5.setCell ⟨w.heap.size + 1 + 1, 0, none⟩ (.slice none 0 0)).setCell ⟨w.heap.size + 1 + 1, 1, none⟩ (.slice none 0 0) = wf at HXr HBr2 ⊢
    obtain ⟨q0, q1⟩ := pair_cells HXr.out
    exact bodyPost_ret (v := .tuple #[.agg #[.slice none 0 0, .slice none 0 0], .bool false]) (by simp [results, Try.results46, go_sem, q0, q1]) rfl ⟨[], [], (fun h => by rw [HF.out] at h; cases h), none, 0, none, 0, by rw [HF.out]; rfl, own_nilS _ _ _ _, own_none _ _ _ _, HBr2.out, caps_nil, caps_nil⟩
   obtain ⟨u, rfl⟩ : ∃ u, y = x.with u := ⟨_, same_yes hsm⟩
   have HSm := Lib.hid hsm
   have HFy : Hid (mergeF l m d s = x.with (max x.undos u)) := by show _ = _; rw [HFds.out]; unfold joinAt; rw [HXi.out, HYk.out]; rfl
   have HE := Lib.hid (HOk3.out ⟨fun a b ha hb => (by rw [HXi.out] at ha; rw [HYk.out] at hb; cases ha; cases hb; exact HSm.out), .inl (by rw [HXi.out]; rfl)⟩)
   clear hsm
   change wr.drew.cell? ⟨w.heap.size, 1, none⟩ = some (.slice (some ⟨b1', off1, none⟩) no co) ∧ wr.drew.cell? ⟨w.heap.size + 1, 1, none⟩ = some (.slice (some ⟨b2, off2, none⟩) mo eo) ∧ (wr.drew.cell? ⟨b1', off1 + i * 8, none⟩ = some (.int .i64 x.dev) ∧ wr.drew.cell? ⟨b1', off1 + i * 8 + 1, none⟩ = some (.int .i64 x.seq) ∧ wr.drew.cell? ⟨b1', off1 + i * 8 + 2, none⟩ = some (.int .i64 x.stamp) ∧ wr.drew.cell? ⟨b1', off1 + i * 8 + 3, none⟩ = some (.int .i64 x.kind) ∧ wr.drew.cell? ⟨b1', off1 + i * 8 + 4, none⟩ = some (.string x.item) ∧ wr.drew.cell? ⟨b1', off1 + i * 8 + 5, none⟩ = some (.int .i64 x.qty) ∧ wr.drew.cell? ⟨b1', off1 + i * 8 + 6, none⟩ = some (.int .i64 x.level) ∧ wr.drew.cell? ⟨b1', off1 + i * 8 + 7, none⟩ = some (.int .i64 x.undos)) ∧ wr.drew.cell? ⟨b2, off2 + k * 8, none⟩ = some (.int .i64 x.dev) ∧ wr.drew.cell? ⟨b2, off2 + k * 8 + 1, none⟩ = some (.int .i64 x.seq) ∧ wr.drew.cell? ⟨b2, off2 + k * 8 + 2, none⟩ = some (.int .i64 x.stamp) ∧ wr.drew.cell? ⟨b2, off2 + k * 8 + 3, none⟩ = some (.int .i64 x.kind) ∧ wr.drew.cell? ⟨b2, off2 + k * 8 + 4, none⟩ = some (.string x.item) ∧ wr.drew.cell? ⟨b2, off2 + k * 8 + 5, none⟩ = some (.int .i64 x.qty) ∧ wr.drew.cell? ⟨b2, off2 + k * 8 + 6, none⟩ = some (.int .i64 x.level) ∧ wr.drew.cell? ⟨b2, off2 + k * 8 + 7, none⟩ = some (.int .i64 u) at hS
   go_wp2_with fail
   refine wp_region_held_drew (S := fun w' => w'.cell? ⟨w.heap.size, 1, none⟩ = some (.slice (some ⟨b1', off1, none⟩) no co) ∧ w'.cell? ⟨w.heap.size + 1, 1, none⟩ = some (.slice (some ⟨b2, off2, none⟩) mo eo) ∧ (w'.cell? ⟨b1', off1 + i * 8, none⟩ = some (.int .i64 x.dev) ∧ w'.cell? ⟨b1', off1 + i * 8 + 1, none⟩ = some (.int .i64 x.seq) ∧ w'.cell? ⟨b1', off1 + i * 8 + 2, none⟩ = some (.int .i64 x.stamp) ∧ w'.cell? ⟨b1', off1 + i * 8 + 3, none⟩ = some (.int .i64 x.kind) ∧ w'.cell? ⟨b1', off1 + i * 8 + 4, none⟩ = some (.string x.item) ∧ w'.cell? ⟨b1', off1 + i * 8 + 5, none⟩ = some (.int .i64 x.qty) ∧ w'.cell? ⟨b1', off1 + i * 8 + 6, none⟩ = some (.int .i64 x.level) ∧ w'.cell? ⟨b1', off1 + i * 8 + 7, none⟩ = some (.int .i64 x.undos)) ∧ w'.cell? ⟨b2, off2 + k * 8, none⟩ = some (.int .i64 x.dev) ∧ w'.cell? ⟨b2, off2 + k * 8 + 1, none⟩ = some (.int .i64 x.seq) ∧ w'.cell? ⟨b2, off2 + k * 8 + 2, none⟩ = some (.int .i64 x.stamp) ∧ w'.cell? ⟨b2, off2 + k * 8 + 3, none⟩ = some (.int .i64 x.kind) ∧ w'.cell? ⟨b2, off2 + k * 8 + 4, none⟩ = some (.string x.item) ∧ w'.cell? ⟨b2, off2 + k * 8 + 5, none⟩ = some (.int .i64 x.qty) ∧ w'.cell? ⟨b2, off2 + k * 8 + 6, none⟩ = some (.int .i64 x.level) ∧ w'.cell? ⟨b2, off2 + k * 8 + 7, none⟩ = some (.int .i64 u)) (by kernel_rfl) hS (fun hHeld => ?_)
   refine tk 0 ⟨some 97, .fieldAddr 29 (.tmp 2) 1, 0, "l07_deltas.go:55", #[], none⟩ ?_
   (try simp only [Act.put, u1, u2, u3])
   refine tk 1 ⟨some 98, .load 27 (.tmp 97), 27, "l07_deltas.go:55", #[⟨0, .data⟩], none⟩ ?_
   (try simp only [Act.put, u1, u2, u3])
   refine tk 2 ⟨some 99, .move (.tmp 9), 3, "l07_deltas.go:55", #[], none⟩ ?_
   (try simp only [Act.put, u1, u2, u3])
   refine tk 3 ⟨some 100, .indexAddr 27 (.tmp 98) (.tmp 99), 0, "l07_deltas.go:55", #[⟨1, .data⟩, ⟨2, .data⟩], none⟩ ?_
   (try simp only [Act.put, u1, u2, u3])
   refine tk 4 ⟨some 101, .load 77 (.tmp 100), 77, "l07_deltas.go:55", #[⟨3, .data⟩], none⟩ ?_
   (try simp only [Act.put, u1, u2, u3])
   refine tk 5 ⟨some 102, .fieldAddr 29 (.tmp 3) 1, 0, "l07_deltas.go:55", #[], none⟩ ?_
   (try simp only [Act.put, u1, u2, u3])
   refine tk 6 ⟨some 103, .load 27 (.tmp 102), 27, "l07_deltas.go:55", #[⟨5, .data⟩], none⟩ ?_
   (try simp only [Act.put, u1, u2, u3])
   refine tk 7 ⟨some 104, .move (.tmp 10), 3, "l07_deltas.go:55", #[], none⟩ ?_
   (try simp only [Act.put, u1, u2, u3])
   refine tk 8 ⟨some 105, .indexAddr 27 (.tmp 103) (.tmp 104), 0, "l07_deltas.go:55", #[⟨6, .data⟩, ⟨7, .data⟩], none⟩ ?_
   (try simp only [Act.put, u1, u2, u3])
   refine tk 9 ⟨some 106, .load 77 (.tmp 105), 77, "l07_deltas.go:55", #[⟨8, .data⟩], none⟩ ?_
   (try simp only [Act.put, u1, u2, u3])
   refine rk 10 rfl (fun K hK => ?_)
   go_simp
   go_at_call 103
   refine (l4Same x (x.with u) wr.drew).mono ?_
   rintro e w5 ⟨rfl, hb5⟩
   rw [HSm.out]
   have hS5 : w5.cell? ⟨w.heap.size, 1, none⟩ = some (.slice (some ⟨b1', off1, none⟩) no co) ∧ w5.cell? ⟨w.heap.size + 1, 1, none⟩ = some (.slice (some ⟨b2, off2, none⟩) mo eo) ∧ (w5.cell? ⟨b1', off1 + i * 8, none⟩ = some (.int .i64 x.dev) ∧ w5.cell? ⟨b1', off1 + i * 8 + 1, none⟩ = some (.int .i64 x.seq) ∧ w5.cell? ⟨b1', off1 + i * 8 + 2, none⟩ = some (.int .i64 x.stamp) ∧ w5.cell? ⟨b1', off1 + i * 8 + 3, none⟩ = some (.int .i64 x.kind) ∧ w5.cell? ⟨b1', off1 + i * 8 + 4, none⟩ = some (.string x.item) ∧ w5.cell? ⟨b1', off1 + i * 8 + 5, none⟩ = some (.int .i64 x.qty) ∧ w5.cell? ⟨b1', off1 + i * 8 + 6, none⟩ = some (.int .i64 x.level) ∧ w5.cell? ⟨b1', off1 + i * 8 + 7, none⟩ = some (.int .i64 x.undos)) ∧ w5.cell? ⟨b2, off2 + k * 8, none⟩ = some (.int .i64 x.dev) ∧ w5.cell? ⟨b2, off2 + k * 8 + 1, none⟩ = some (.int .i64 x.seq) ∧ w5.cell? ⟨b2, off2 + k * 8 + 2, none⟩ = some (.int .i64 x.stamp) ∧ w5.cell? ⟨b2, off2 + k * 8 + 3, none⟩ = some (.int .i64 x.kind) ∧ w5.cell? ⟨b2, off2 + k * 8 + 4, none⟩ = some (.string x.item) ∧ w5.cell? ⟨b2, off2 + k * 8 + 5, none⟩ = some (.int .i64 x.qty) ∧ w5.cell? ⟨b2, off2 + k * 8 + 6, none⟩ = some (.int .i64 x.level) ∧ w5.cell? ⟨b2, off2 + k * 8 + 7, none⟩ = some (.int .i64 u) := ⟨(hb5.cell (block_lt_of_cell hS.1)).trans hS.1, (hb5.cell (block_lt_of_cell hS.2.1)).trans hS.2.1, ⟨(hb5.cell (block_lt_of_cell hS.2.2.1.1)).trans hS.2.2.1.1, (hb5.cell (block_lt_of_cell hS.2.2.1.2.1)).trans hS.2.2.1.2.1, (hb5.cell (block_lt_of_cell hS.2.2.1.2.2.1)).trans hS.2.2.1.2.2.1, (hb5.cell (block_lt_of_cell hS.2.2.1.2.2.2.1)).trans hS.2.2.1.2.2.2.1, (hb5.cell (block_lt_of_cell hS.2.2.1.2.2.2.2.1)).trans hS.2.2.1.2.2.2.2.1, (hb5.cell (block_lt_of_cell hS.2.2.1.2.2.2.2.2.1)).trans hS.2.2.1.2.2.2.2.2.1, (hb5.cell (block_lt_of_cell hS.2.2.1.2.2.2.2.2.2.1)).trans hS.2.2.1.2.2.2.2.2.2.1, (hb5.cell (block_lt_of_cell hS.2.2.1.2.2.2.2.2.2.2)).trans hS.2.2.1.2.2.2.2.2.2.2⟩, (hb5.cell (block_lt_of_cell hS.2.2.2.1)).trans hS.2.2.2.1, (hb5.cell (block_lt_of_cell hS.2.2.2.2.1)).trans hS.2.2.2.2.1, (hb5.cell (block_lt_of_cell hS.2.2.2.2.2.1)).trans hS.2.2.2.2.2.1, (hb5.cell (block_lt_of_cell hS.2.2.2.2.2.2.1)).trans hS.2.2.2.2.2.2.1, (hb5.cell (block_lt_of_cell hS.2.2.2.2.2.2.2.1)).trans hS.2.2.2.2.2.2.2.1, (hb5.cell (block_lt_of_cell hS.2.2.2.2.2.2.2.2.1)).trans hS.2.2.2.2.2.2.2.2.1, (hb5.cell (block_lt_of_cell hS.2.2.2.2.2.2.2.2.2.1)).trans hS.2.2.2.2.2.2.2.2.2.1, (hb5.cell (block_lt_of_cell hS.2.2.2.2.2.2.2.2.2.2)).trans hS.2.2.2.2.2.2.2.2.2.2⟩
   refine hK.out _ _ hS5 (fun hHeld2 => ?_)
   clear hK K
   (try simp only [Act.put, u1, u2, u3])
   refine tk 11 ⟨some 108, .unOp .not 4 (.tmp 107), 4, "l07_deltas.go:55", #[⟨10, .data⟩], none⟩ ?_
   (try simp only [Act.put, u1, u2, u3])
   refine tk 12 ⟨some 96, .assign (.tmp 108), 4, "l07_deltas.go:55", #[⟨11, .data⟩, ⟨10, .chain⟩], none⟩ ?_
   (try simp only [Act.put, u1, u2, u3])
   refine wpAnyH_done (by kernel_rfl) ?_ _
   have hbb : Below wr.heap.size wr w5 := ⟨hb5.os, hb5.tape, hb5.output, hb5.size, hb5.block⟩
   have HOB5 := Lib.hid ((hbb.block _ hobl).trans HOB.out)
   have HROW5 := Lib.hid (own_row_kept HROW.out hbb)
   have HBL5 := Lib.hid (HBL.out.trans (hbb.mono (by omega)))
   have hobl5 : ob < w5.heap.size := Nat.lt_of_lt_of_le hobl hbb.size
   have HS5 := Lib.hid hS5
   have HLt : Hid (∀ g, (Value.slice oa L.length oc).ownBlock = some g → g < w5.heap.size) := fun g hg => (HROW5.out.lt g hg).2
   clear hS hS5 hHeld hHeld2 hb5 hbb HOB HROW HBL HTr HTd HXi HYk HStop
   obtain ⟨a1, b1, ⟨d0, d1, d2, d3, d4, d5, d6, d7⟩, e0', e1', e2', e3', e4', e5', e6', e7'⟩ := HS5.out
   go_upto_region 11 with fail
   have hb6 : Below w5.heap.size w5 (w5.alloc (.cells #[.int .i64 x.dev, .int .i64 x.seq, .int .i64 x.stamp, .int .i64 x.kind, .string x.item, .int .i64 x.qty, .int .i64 x.level, .int .i64 x.undos] 77)) := bl
   have HX6 := Lib.hid (boxAt (Below.refl _ (w5.alloc (.cells #[.int .i64 x.dev, .int .i64 x.seq, .int .i64 x.stamp, .int .i64 x.kind, .string x.item, .int .i64 x.qty, .int .i64 x.level, .int .i64 x.undos] 77))))
   have b16 := (hb6.cell (block_lt_of_cell b1)).trans b1
   have e76 := (hb6.cell (block_lt_of_cell e7')).trans e7'
   have HOB6 := Lib.hid ((hb6.block _ hobl5).trans HOB5.out)
   have HROW6 := Lib.hid (own_row_kept HROW5.out hb6)
   have HBL6 := Lib.hid (HBL5.out.trans (hb6.mono (by omega)))
   clear a1 b1 d0 d1 d2 d3 d4 d5 d6 d7 e0' e1' e2' e3' e4' e5' e6' e7' HS5 HOB5 HROW5 HBL5
   generalize w5.alloc (.cells #[.int .i64 x.dev, .int .i64 x.seq, .int .i64 x.stamp, .int .i64 x.kind, .string x.item, .int .i64 x.qty, .int .i64 x.level, .int .i64 x.undos] 77) = w6 at hb6 HX6 b16 e76 HOB6 HROW6 HBL6 ⊢
   have hs6 := hb6.size
   have hx6 := lt_of_row HX6.out
   generalize w5.heap.size = nb at HX6 hs6 hx6 hobl5 HLt ⊢
   clear hb6
   obtain ⟨z0, hz0e⟩ : ∃ z0, w6.drew = z0 := ⟨_, rfl⟩
   have HX7 : Hid (z0.heap[nb]? = some (.cells #[.int .i64 x.dev, .int .i64 x.seq, .int .i64 x.stamp, .int .i64 x.kind, .string x.item, .int .i64 x.qty, .int .i64 x.level, .int .i64 x.undos] 77 (0, 0))) := by rw [← hz0e]; exact HX6.out
   have HOB7 : Hid (z0.heap[ob]? = some (.cells #[.slice (some ⟨vb, vo, none⟩) 4 zc, .slice oa L.length oc] 29 (0, 0))) := by rw [← hz0e]; exact HOB6.out
   have HROW7 : Hid (z0.ownsRow (ob + 1) 77 8 (.slice oa L.length oc) L.length (opCells L)) := by rw [← hz0e]; exact HROW6.out
   have HBL7 : Hid (Below ob w2 z0) := by rw [← hz0e]; exact ⟨HBL6.out.os, HBL6.out.tape, HBL6.out.output, HBL6.out.size, HBL6.out.block⟩
   have hS : z0.cell? ⟨w.heap.size + 1, 1, none⟩ = some (.slice (some ⟨b2, off2, none⟩) mo eo) ∧ z0.cell? ⟨b2, off2 + k * 8 + 7, none⟩ = some (.int .i64 u) := by rw [← hz0e]; exact ⟨b16, e76⟩
   have hzs0 : z0.heap.size = w6.heap.size := by rw [← hz0e]; rfl
   clear HX6 HOB6 HROW6 HBL6 b16 e76
   obtain ⟨e0, e1, e2, e3, e4, e5, e6, e7⟩ := op_cells HX7.out
   obtain ⟨f0, f1, f2, f3, f4, f5, f6, f7⟩ := op_frozen HX7.out
   have HX8 : Hid ((z0.setCell ⟨nb, 7, none⟩ (.int .i64 (max x.undos u))).heap[nb]? = some (.cells #[.int .i64 x.dev, .int .i64 x.seq, .int .i64 x.stamp, .int .i64 x.kind, .string x.item, .int .i64 x.qty, .int .i64 x.level, .int .i64 (max x.undos u)] 77 (0, 0))) := heap_setCell_same _ _ _ _ _ _ HX7.out
   have HOB8 : Hid ((z0.setCell ⟨nb, 7, none⟩ (.int .i64 (max x.undos u))).heap[ob]? = some (.cells #[.slice (some ⟨vb, vo, none⟩) 4 zc, .slice oa L.length oc] 29 (0, 0))) := (heap_setCell_other _ _ _ _ (by show ob ≠ nb; omega)).trans HOB7.out
   have HROW8 : Hid ((z0.setCell ⟨nb, 7, none⟩ (.int .i64 (max x.undos u))).ownsRow (ob + 1) 77 8 (.slice oa L.length oc) L.length (opCells L)) := row_put HROW7.out (fun q hq => by have := HLt.out q hq; omega)
   have HBL8 : Hid (Below ob w2 (z0.setCell ⟨nb, 7, none⟩ (.int .i64 (max x.undos u)))) := HBL7.out.setCell (by show ob ≤ nb; omega) _
   have hS8 : (z0.setCell ⟨nb, 7, none⟩ (.int .i64 (max x.undos u))).cell? ⟨w.heap.size + 1, 1, none⟩ = some (.slice (some ⟨b2, off2, none⟩) mo eo) ∧ (z0.setCell ⟨nb, 7, none⟩ (.int .i64 (max x.undos u))).cell? ⟨b2, off2 + k * 8 + 7, none⟩ = some (.int .i64 u) := ⟨(cell_of_block (heap_setCell_other _ _ _ _ (by show w.heap.size + 1 ≠ nb; omega))).trans hS.1, (cell_of_block (heap_setCell_other _ _ _ _ (by show b2 ≠ nb; omega))).trans hS.2⟩
   have hzs8 : (z0.setCell ⟨nb, 7, none⟩ (.int .i64 (max x.undos u))).heap.size = z0.heap.size := World.size_setCell _ _ _
   go_wp2_with fail
   refine wp_region_held_drew (S := fun w' => w'.cell? ⟨w.heap.size + 1, 1, none⟩ = some (.slice (some ⟨b2, off2, none⟩) mo eo) ∧ w'.cell? ⟨b2, off2 + k * 8 + 7, none⟩ = some (.int .i64 u)) (by kernel_rfl) (by rw [hz0e]; exact hS) (fun hHeld => ?_)
   rw [hz0e]
   clear hHeld
   refine tk 0 ⟨some 46, .fieldAddr 77 (.tmp 11) 7, 0, "l07_deltas.go:59", #[], none⟩ ?_
   (try simp only [Act.put, u1, u2, u3])
   refine tk 2 ⟨some 48, .fieldAddr 29 (.tmp 3) 1, 0, "l07_deltas.go:59", #[], none⟩ ?_
   (try simp only [Act.put, u1, u2, u3])
   refine tk 3 ⟨some 49, .load 27 (.tmp 48), 27, "l07_deltas.go:59", #[⟨2, .data⟩], none⟩ ?_
   (try simp only [Act.put, u1, u2, u3])
   refine tk 4 ⟨some 50, .move (.tmp 10), 3, "l07_deltas.go:59", #[], none⟩ ?_
   (try simp only [Act.put, u1, u2, u3])
   refine tk 5 ⟨some 51, .indexAddr 27 (.tmp 49) (.tmp 50), 0, "l07_deltas.go:59", #[⟨3, .data⟩, ⟨4, .data⟩], none⟩ ?_
   (try simp only [Act.put, u1, u2, u3])
   refine tk 6 ⟨some 52, .fieldAddr 77 (.tmp 51) 7, 0, "l07_deltas.go:59", #[⟨5, .data⟩], none⟩ ?_
   (try simp only [Act.put, u1, u2, u3])
   refine tk 7 ⟨some 53, .load 2 (.tmp 52), 2, "l07_deltas.go:59", #[⟨6, .data⟩], none⟩ ?_
   (try simp only [Act.put, u1, u2, u3])
   refine rk 1 rfl (fun K hK => ?_)
   go_simp
   refine hK.out _ _ hS (fun hHeld6 => ?_)
   clear hK K
   (try simp only [Act.put, u1, u2, u3])
   refine tk 8 ⟨some 54, .call ⟨.builtin .max, #[.tmp 47, .tmp 53], #[2, 2]⟩, 2, "l07_deltas.go:59", #[⟨1, .data⟩, ⟨7, .data⟩], none⟩ ?_
   (try simp only [Act.put, u1, u2, u3])
   refine tk 9 ⟨some 55, .fieldAddr 77 (.tmp 11) 7, 0, "l07_deltas.go:59", #[⟨0, .phase⟩, ⟨1, .phase⟩, ⟨2, .phase⟩, ⟨3, .phase⟩, ⟨4, .phase⟩, ⟨5, .phase⟩, ⟨6, .phase⟩, ⟨7, .phase⟩, ⟨8, .phase⟩], none⟩ ?_
   (try simp only [Act.put, u1, u2, u3])
   refine rk 10 rfl (fun K hK => ?_)
   go_simp
   refine hK.out _ _ hS8 (fun hHeld7 => ?_)
   clear hK K
   (try simp only [Act.put, u1, u2, u3])
   refine wpAnyH_done (by kernel_rfl) ?_ _
   clear hS hS8 hHeld6 hHeld7 HX7 HOB7 HROW7 HBL7 e0 e1 e2 e3 e4 e5 e6 e7 f0 f1 f2 f3 f4 f5 f6 f7
   generalize hmx : max x.undos u = mx at HX8 HOB8 HROW8 HBL8 hzs8 HFy ⊢
   generalize z0.setCell ⟨nb, 7, none⟩ (.int .i64 mx) = w8 at HX8 HOB8 HROW8 HBL8 hzs8 ⊢
   clear hmx hz0e hzs8 hzs0
   obtain ⟨e0, e1, e2, e3, e4, e5, e6, e7⟩ := op_cells HX8.out
   obtain ⟨o0, o1⟩ := pair_cells HOB8.out
   have hobl8 := lt_of_row HOB8.out
   have hown1 := HROW8.out.alloc (.cells #[.int .i64 x.dev, .int .i64 x.seq, .int .i64 x.stamp, .int .i64 x.kind, .string x.item, .int .i64 x.qty, .int .i64 x.level, .int .i64 mx] 77)
   go_upto_region 12 with fail
   have HFy2 : Hid (mergeF l m d s = x.with mx) := HFy.out
   generalize hX : x.with mx = xx at HFy2
   go_wp2_with (at_builtin; refine wpList_append_own _ rfl _ _ 27 rfl (ob + 1) 77 i0 (.agg #[.int .i64 0, .int .i64 0, .int .i64 0, .int .i64 0, .string ⟨#[]⟩, .int .i64 0, .int .i64 0, .int .i64 0]) 8 72 Try.underlying27 hi hz0 hz1 hz2 rfl (by decide) _ _ _ rfl hown1 ⟨w8.heap.size, 0, none⟩ 1 1 (opRow xx) rfl ?c0 ?c1 ?c2 ?c3 ?c4 ?c5 ?_)
   case c0 => rfl
   case c1 =>
    rw [← hX]
    exact opRow_new w8 (x.with mx)
   case c2 =>
    intro u hu
    exact opCells_one [xx] u (by show u ∈ opRow xx ++ []; rw [List.append_nil]; exact hu)
   case c3 => unfold maxLen; omega
   case c4 => omega
   case c5 => simp; omega
   intro v' w9 hown2 hgrow _
   have hbb9 : Below ob w8 w9 := ((Below.refl ob w8).alloc (by omega) (.cells #[.int .i64 x.dev, .int .i64 x.seq, .int .i64 x.stamp, .int .i64 x.kind, .string x.item, .int .i64 x.qty, .int .i64 x.level, .int .i64 mx] 77)).grown hgrow (by simp; omega) (fun j hj => by have := (hown1.lt j hj).1; omega)
   have HOB9 : Hid (w9.heap[ob]? = some (.cells #[.slice (some ⟨vb, vo, none⟩) 4 zc, .slice oa L.length oc] 29 (0, 0))) := (hgrow.block ob (by show _ < (w8.heap.push _).size; simp; omega) (fun h => by have := (hown1.lt ob h.symm).1; omega)).trans ((Below.heap_alloc _ _ _ hobl8).trans HOB8.out)
   obtain ⟨va2, vc2, rfl⟩ : ∃ va2 vc2, v' = .slice va2 (L.length + 1) vc2 := by
    rcases hown2.2 with ⟨_, e2⟩ | ⟨_, c2, _, e2, _⟩
    ·omega
    ·exact ⟨_, c2, e2⟩
   have HBOX : Hid ((w9.setCell ⟨ob, 1, none⟩ (.slice va2 (L.length + 1) vc2)).heap[ob]? = some (.cells #[.slice (some ⟨vb, vo, none⟩) 4 zc, .slice va2 (L.length + 1) vc2] 29 (0, 0))) := heap_setCell_same _ _ _ _ _ _ HOB9.out
   have HROW9 : Hid ((w9.setCell ⟨ob, 1, none⟩ (.slice va2 (L.length + 1) vc2)).ownsRow (ob + 1) 77 8 (.slice va2 (L.length + 1) vc2) (L.length + 1) (opCells L ++ opRow xx)) := row_put hown2 (fun q hq => by have := (hown2.lt q hq).1; omega)
   have HBL9 : Hid (Below ob w2 (w9.setCell ⟨ob, 1, none⟩ (.slice va2 (L.length + 1) vc2))) := (HBL8.out.trans (hbb9.mono (by omega))).setCell (Nat.le_refl _) _
   have HOn : Hid (OutL ob (some ⟨vb, vo, none⟩) zc zs (mergeF l m) w2 (w9.setCell ⟨ob, 1, none⟩ (.slice va2 (L.length + 1) vc2)) d (s + 1)) := by
    show OutL _ _ _ _ _ _ _ _ _
    unfold OutL
    rw [HSt.out, HFy2.out, opCells_snoc, List.length_append]
    exact ⟨va2, vc2, HBOX.out, HROW9.out, HBL9.out⟩
   have o19 := (pair_cells HOB9.out).2
   have fz9 := (pair_frozen HOB9.out).2
   clear hown1 hown2 hgrow HROW8 HBL8 HX8 HOB8 e0 e1 e2 e3 e4 e5 e6 e7 o0 o1 HBOX HROW9 HBL9 HOB9 hbb9
   go_wp2
   go_roundw
   case rel => exact ⟨s + 1, by omega, by go_num, HOn, HE⟩
   case measure => simp [intOf]; omega
end Go.Proofs.Ytdbdmfaphdjdpaa

namespace Go.Proofs.Ytdbdmfaphdjdpaa
set_option maxRecDepth 100000
open Go.RowKit
set_option linter.unusedSimpArgs false
set_option linter.unusedVariables false

theorem takB_1 {xs : List Int} {l : List OpV} {ys : List Int} {m : List OpV} (h : cartB xs l = false) : takB xs l ys m = false := by
 unfold takB
 rw [h]
 rfl
theorem takB_2 {xs : List Int} {l : List OpV} {ys : List Int} {m : List OpV} (h : partB ys m = false) : takB xs l ys m = false := by
 unfold takB
 rw [h]
 simp
theorem tak_parts {xs : List Int} {l : List OpV} {ys : List Int} {m : List OpV} (h : takB xs l ys m = true) : cartB xs l = true ∧ partB ys m = true ∧ ∃ U, unionO l m = some U ∧ cartB (maxV xs ys) U = true := by
 unfold takB at h
 rw [Bool.and_eq_true, Bool.and_eq_true] at h
 refine ⟨h.1, h.2.1, ?_⟩
 cases hu : unionO l m with
 | none => rw [hu] at h; exact absurd h.2.2 (by simp)
 | some U => rw [hu] at h; exact ⟨U, rfl, h.2.2⟩
theorem takVs_len (xs ys : List Int) (l m : List OpV) (R : Bool) (h : takB xs l ys m = R) : (takVs xs ys R).length ≤ 4 := by
 unfold takVs
 split
 ·rename_i e
  rw [e] at h
  obtain ⟨h1, h2, _⟩ := tak_parts h
  rw [(vec_at (maxV_ok (cart_true h1).1 (part_split h2).1) (d := 0) (by omega)).2.2]
  exact Nat.le_refl _
 ·exact Nat.zero_le _
theorem takOs_len (xs ys : List Int) (l m : List OpV) (R : Bool) (h : takB xs l ys m = R) : (takOs l m R).length ≤ 200 := by
 unfold takOs
 split
 ·rename_i e
  rw [e] at h
  obtain ⟨_, _, U, h3, h4⟩ := tak_parts h
  rw [h3]
  have h5 := stOf_le (cart_true h4).1 4 (by omega)
  have h6 := (cart_true h4).2.2
  show U.length ≤ 200
  omega
 ·exact Nat.zero_le _
set_option maxHeartbeats 40000000 in
theorem specTakenC (w : World) (B : Nat) (av ao bv bo : Option Addr) (nv cv no co mv dv mo eo : Nat) (xs : List Int) (l : List OpV) (ys : List Int) (m : List OpV) (hx : Ints w B av nv xs) (h : Ops w B ao no l) (hy : Ints w B bv mv ys) (g : Ops w B bo mo m) (hB : B ≤ w.heap.size) (hv : nv ≤ 1048576) (hn : no ≤ 1048576) (hm : ∀ i, i < no → (atOp l i).item.size ≤ 1048576) (hv2 : mv ≤ 1048576) (hn2 : mo ≤ 1048576) (hm2 : ∀ i, i < mo → (atOp m i).item.size ≤ 1048576) :
  Calls Try.prog 8 #[.agg #[.slice av nv cv, .slice ao no co], .agg #[.slice bv mv dv, .slice bo mo eo]] w (ReadPostC (takB xs l ys m) (takVs xs ys (takB xs l ys m)) (takOs l m (takB xs l ys m)) w) := by
 have hT := TriF.mk0 w #[.slice av nv cv, .slice ao no co] #[.slice bv mv dv, .slice bo mo eo] #[.slice none 0 0, .slice none 0 0] 29 29 29
 have HV := Lib.hid (hx.below hT.bel hB)
 have HO := Lib.hid (h.below hT.bel hB)
 have HY := Lib.hid (hy.below hT.bel hB)
 have HG := Lib.hid (g.below hT.bel hB)
 have HT := Lib.hid hT
 have HM := Lib.hid hm
 have HM2 := Lib.hid hm2
 have hBw := hB
 clear hx h hy g hT hB hm hm2
 go_enter Try.func8, Try.ntmps8
 go_wp2_with fail
 generalize ((w.alloc (.cells #[.slice av nv cv, .slice ao no co] 29)).alloc (.cells #[.slice bv mv dv, .slice bo mo eo] 29)).alloc (.cells #[.slice none 0 0, .slice none 0 0] 29) = w0 at HV HO HY HG HT ⊢
 have hsz0 := HT.out.bel.size
 have hsz1 := lt_of_row HT.out.res
 refine (specCartOk w0 B av ao nv cv no co xs l HV.out HO.out (by omega) hv hn HM.out).mono ?_
 rintro e w1 ⟨rfl, hb1⟩
 have HV1 := Lib.hid (HV.out.below hb1 (by omega))
 have HO1 := Lib.hid (HO.out.below hb1 (by omega))
 have HY1 := Lib.hid (HY.out.below hb1 (by omega))
 have HG1 := Lib.hid (HG.out.below hb1 (by omega))
 have HT1 := Lib.hid (HT.out.next hb1)
 have hs1 := hb1.size
 clear hb1 HV HO HY HG HT
 rcases hca : cartB xs l with _ | _
 ·have HF := Lib.hid (takB_1 (ys := ys) (m := m) hca)
  clear hca
  obtain ⟨r0, r1⟩ := pair_cells HT1.out.res
  obtain ⟨fz0, fz1⟩ := pair_frozen HT1.out.res
  have HXr := Lib.hid (HT1.out.set2S (.slice none 0 0) (.slice none 0 0)).1
  have HBr2 := Lib.hid (HT1.out.set2S (.slice none 0 0) (.slice none 0 0)).2
  go_wp2
  change bodyPost _ _ _ _ _ ((w1.setCell ⟨w.heap.size + 1 + 1, 0, none⟩ (.slice none 0 0)).setCell ⟨w.heap.size + 1 + 1, 1, none⟩ (.slice none 0 0))
  generalize (w1.setCell ⟨w.heap.size + 1 + 1, 0, none⟩ (.slice none 0 0)).setCell ⟨w.heap.size + 1 + 1, 1, none⟩ (.slice none 0 0) = wf at HXr HBr2 ⊢
  obtain ⟨q0, q1⟩ := pair_cells HXr.out
  exact bodyPost_ret (v := .tuple #[.agg #[.slice none 0 0, .slice none 0 0], .bool false]) (by simp [results, Try.results8, go_sem, q0, q1]) rfl ⟨none, 0, none, 0, by rw [HF.out]; rfl, by rw [HF.out]; exact own_nilS _ _ _ _, by rw [HF.out]; exact own_none _ _ _ _, HBr2.out, by rw [HF.out]; exact caps_nil, by rw [HF.out]; exact caps_nil⟩
 obtain ⟨b0, b1⟩ := pair_cells HT1.out.snd
 go_wp2_with fail
 refine (specPartOk w1 B bv bo mv dv mo eo ys m HY1.out HG1.out (by omega) hv2 hn2 HM2.out).mono ?_
 rintro e w2 ⟨rfl, hb2⟩
 have HV2 := Lib.hid (HV1.out.below hb2 (by omega))
 have HO2 := Lib.hid (HO1.out.below hb2 (by omega))
 have HY2 := Lib.hid (HY1.out.below hb2 (by omega))
 have HG2 := Lib.hid (HG1.out.below hb2 (by omega))
 have HT2 := Lib.hid (HT1.out.next hb2)
 have hs2 := hb2.size
 have hrl2 := lt_of_row HT2.out.res
 clear hb2 HV1 HO1 HY1 HG1 HT1 b0 b1
 rcases hcb : partB ys m with _ | _
 ·have HF := Lib.hid (takB_2 (xs := xs) (l := l) hcb)
  clear hca hcb
  obtain ⟨r0, r1⟩ := pair_cells HT2.out.res
  obtain ⟨fz0, fz1⟩ := pair_frozen HT2.out.res
  have HXr := Lib.hid (HT2.out.set2S (.slice none 0 0) (.slice none 0 0)).1
  have HBr2 := Lib.hid (HT2.out.set2S (.slice none 0 0) (.slice none 0 0)).2
  go_wp2
  change bodyPost _ _ _ _ _ ((w2.setCell ⟨w.heap.size + 1 + 1, 0, none⟩ (.slice none 0 0)).setCell ⟨w.heap.size + 1 + 1, 1, none⟩ (.slice none 0 0))
  generalize (w2.setCell ⟨w.heap.size + 1 + 1, 0, none⟩ (.slice none 0 0)).setCell ⟨w.heap.size + 1 + 1, 1, none⟩ (.slice none 0 0) = wf at HXr HBr2 ⊢
  obtain ⟨q0, q1⟩ := pair_cells HXr.out
  exact bodyPost_ret (v := .tuple #[.agg #[.slice none 0 0, .slice none 0 0], .bool false]) (by simp [results, Try.results8, go_sem, q0, q1]) rfl ⟨none, 0, none, 0, by rw [HF.out]; rfl, by rw [HF.out]; exact own_nilS _ _ _ _, by rw [HF.out]; exact own_none _ _ _ _, HBr2.out, by rw [HF.out]; exact caps_nil, by rw [HF.out]; exact caps_nil⟩
 obtain ⟨a0, a1⟩ := pair_cells HT2.out.fst
 obtain ⟨b0, b1⟩ := pair_cells HT2.out.snd
 go_wp2_with fail
 refine (l7TakenC w2 B av ao bv bo nv cv no co mv dv mo eo xs l ys m HV2.out HO2.out HY2.out HG2.out (by omega) hv hn HM.out hv2 hn2 HM2.out hca hcb).mono ?_
 rintro e w3 ⟨zs, L, himp, va, vc, oa, oc, rfl, hiv, hop, hb3, hcv, hco⟩
 have HImp := Lib.hid himp
 clear himp
 have HCv := Lib.hid hcv
 have HCo := Lib.hid hco
 clear hcv hco
 have HT3 := Lib.hid (HT2.out.next hb3)
 have HI := Lib.hid hiv
 have HP := Lib.hid hop
 have hs3 := hb3.size
 clear hiv hop hb3 HV2 HO2 HY2 HG2 HT2 a0 a1 b0 b1 hca hcb
 rcases hok : takB xs l ys m with _ | _
 ·have HF := Lib.hid hok
  clear hok
  go_upto_region 4 with fail
  have hb4 : Below w3.heap.size w3 (w3.alloc (.cells #[.slice va zs.length vc, .slice oa L.length oc] 29)) := bl
  have HT4 := Lib.hid (HT3.out.next hb4)
  generalize w3.alloc (.cells #[.slice va zs.length vc, .slice oa L.length oc] 29) = w4 at hb4 HT4 ⊢
  clear hb4
  obtain ⟨r0, r1⟩ := pair_cells HT4.out.res
  obtain ⟨fz0, fz1⟩ := pair_frozen HT4.out.res
  have HXr := Lib.hid (HT4.out.set2S (.slice none 0 0) (.slice none 0 0)).1
  have HBr2 := Lib.hid (HT4.out.set2S (.slice none 0 0) (.slice none 0 0)).2
  go_wp2
  change bodyPost _ _ _ _ _ ((w4.setCell ⟨w.heap.size + 1 + 1, 0, none⟩ (.slice none 0 0)).setCell ⟨w.heap.size + 1 + 1, 1, none⟩ (.slice none 0 0))
  generalize (w4.setCell ⟨w.heap.size + 1 + 1, 0, none⟩ (.slice none 0 0)).setCell ⟨w.heap.size + 1 + 1, 1, none⟩ (.slice none 0 0) = wf at HXr HBr2 ⊢
  obtain ⟨q0, q1⟩ := pair_cells HXr.out
  exact bodyPost_ret (v := .tuple #[.agg #[.slice none 0 0, .slice none 0 0], .bool false]) (by simp [results, Try.results8, go_sem, q0, q1]) rfl ⟨none, 0, none, 0, by rw [HF.out]; rfl, by rw [HF.out]; exact own_nilS _ _ _ _, by rw [HF.out]; exact own_none _ _ _ _, HBr2.out, by rw [HF.out]; exact caps_nil, by rw [HF.out]; exact caps_nil⟩
 have HF := Lib.hid hok
 have hzs : takVs xs ys (takB xs l ys m) = zs := by rw [hok, (HImp.out hok).1]; rfl
 have hLs : takOs l m (takB xs l ys m) = L := by rw [hok, (HImp.out hok).2]
 have HZs := Lib.hid hzs
 have HLs := Lib.hid hLs
 clear hok hzs hLs
 go_upto_region 4 with fail
 have hb4 : Below w3.heap.size w3 (w3.alloc (.cells #[.slice va zs.length vc, .slice oa L.length oc] 29)) := bl
 have HT4 := Lib.hid (HT3.out.next hb4)
 have HX4 := Lib.hid (boxAt (Below.refl _ (w3.alloc (.cells #[.slice va zs.length vc, .slice oa L.length oc] 29))))
 have HI4 := Lib.hid (HI.out.below hb4 (Nat.le_refl _))
 have HP4 := Lib.hid (HP.out.below hb4 (Nat.le_refl _))
 generalize w3.alloc (.cells #[.slice va zs.length vc, .slice oa L.length oc] 29) = w4 at hb4 HT4 HX4 HI4 HP4 ⊢
 have hs4 := hb4.size
 clear hb4 HT3 HI HP
 obtain ⟨r0, r1⟩ := pair_cells HT4.out.res
 obtain ⟨fz0, fz1⟩ := pair_frozen HT4.out.res
 obtain ⟨x0, x1⟩ := pair_cells HX4.out
 have hrl := lt_of_row HT4.out.res
 have HXr := Lib.hid (HT4.out.set2S (.slice va zs.length vc) (.slice oa L.length oc)).1
 have HBr2 := Lib.hid (HT4.out.set2S (.slice va zs.length vc) (.slice oa L.length oc)).2
 have hsz6 : ((w4.setCell ⟨w.heap.size + 1 + 1, 0, none⟩ (.slice va zs.length vc)).setCell ⟨w.heap.size + 1 + 1, 1, none⟩ (.slice oa L.length oc)).heap.size = w4.heap.size := pair_size _ _ _ _
 have HZ6 : Hid (Own ((w4.setCell ⟨w.heap.size + 1 + 1, 0, none⟩ (.slice va zs.length vc)).setCell ⟨w.heap.size + 1 + 1, 1, none⟩ (.slice oa L.length oc)) w2.heap.size w3.heap.size va zs.length zs) := HI4.out.kept fun j h1 h2 => pair_other _ _ (by omega)
 have HO6 : Hid (OwnOps ((w4.setCell ⟨w.heap.size + 1 + 1, 0, none⟩ (.slice va zs.length vc)).setCell ⟨w.heap.size + 1 + 1, 1, none⟩ (.slice oa L.length oc)) w2.heap.size w3.heap.size oa L.length L) := HP4.out.kept fun j h1 h2 => pair_other _ _ (by omega)
 have HsM : Hid (w4.heap.size = ((w4.setCell ⟨w.heap.size + 1 + 1, 0, none⟩ (.slice va zs.length vc)).setCell ⟨w.heap.size + 1 + 1, 1, none⟩ (.slice oa L.length oc)).heap.size) := hsz6.symm
 clear hsz6
 go_wp2
 change bodyPost _ _ _ _ _ ((w4.setCell ⟨w.heap.size + 1 + 1, 0, none⟩ (.slice va zs.length vc)).setCell ⟨w.heap.size + 1 + 1, 1, none⟩ (.slice oa L.length oc))
 generalize (w4.setCell ⟨w.heap.size + 1 + 1, 0, none⟩ (.slice va zs.length vc)).setCell ⟨w.heap.size + 1 + 1, 1, none⟩ (.slice oa L.length oc) = wf at HXr HBr2 HZ6 HO6 HsM ⊢
 obtain ⟨q0, q1⟩ := pair_cells HXr.out
 have hsm := HsM.out
 exact bodyPost_ret (v := .tuple #[.agg #[.slice va zs.length vc, .slice oa L.length oc], .bool true]) (by simp [results, Try.results8, go_sem, q0, q1]) rfl ⟨va, vc, oa, oc, by rw [HZs.out, HLs.out, HF.out], by rw [HZs.out]; exact HZ6.out.more (by omega) (by omega), by rw [HLs.out]; exact HO6.out.more (by omega) (by omega), HBr2.out, by rw [HZs.out]; exact HCv.out, by rw [HLs.out]; exact HCo.out⟩
end Go.Proofs.Ytdbdmfaphdjdpaa

namespace Go.Proofs.Ytdbdmfaphdjdpaa
set_option maxRecDepth 100000
open Go.RowKit


set_option maxHeartbeats 5000000 in
theorem cloneOpsK (w : World) (B b off n cap : Nat) (l : List OpV) (h : Ops w B (some ⟨b, off, none⟩) n l) (hB : B ≤ w.heap.size) (hl : n ≤ 1048576) : Calls Try.prog 144 #[.slice (some ⟨b, off, none⟩) n cap] w (OpsPostK l w) := by
 obtain ⟨i0, hi, hz0, hz1, hz2⟩ := info_parts Try.infoOp
 have hnil := fun w => Lib.run_eql_slice_nil (P := Try.prog) w 27 77 (some ⟨b, off, none⟩) n cap 0 0 Try.underlying27
 have hown : (w.alloc (.cells #[] 77)).ownsRow w.heap.size 77 8 (.slice (some ⟨w.heap.size, 0, none⟩) 0 0) 0 [] := World.ownsRow_made w #[] 0 (Nat.le_refl _) (by unfold maxLen; omega) rfl
 have hL := Lib.hid h.1
 have H := Lib.hid h
 clear h
 go_enter Try.func144, Try.ntmps144
 go_wp2_with (at_builtin; refine wpList_append_own _ rfl _ _ 27 rfl w.heap.size 77 i0 (.agg #[.int .i64 0, .int .i64 0, .int .i64 0, .int .i64 0, .string ⟨#[]⟩, .int .i64 0, .int .i64 0, .int .i64 0]) 8 72 Try.underlying27 hi hz0 hz1 hz2 rfl (by decide) _ _ _ rfl hown ⟨b, off, none⟩ n cap (opCells l) rfl ?c0 ?c1 ?c2 ?c3 ?c4 ?c5 ?_)
 case c0 => rw [opCells_len, hL.out]
 case c1 => exact cells_of_ops (H.out.below ((Below.refl w.heap.size w).alloc (Nat.le_refl _) _) hB)
 case c2 => exact opCells_one l
 case c3 => unfold maxLen; omega
 case c4 => omega
 case c5 => simp
 intro v' w1 hown' hgrow hnn
 have hb1 := ((Below.refl w.heap.size w).alloc (Nat.le_refl _) _).grown hgrow (by simp) (fun j hj => (hown.lt j hj).1)
 have hown2 : w1.ownsRow w.heap.size 77 8 v' n (opCells l) := by simpa using hown'
 obtain ⟨a', cap', hv⟩ : ∃ a' cap', v' = .slice a' n cap' := by
  rcases hown2.2 with ⟨e, e2⟩ | ⟨g, c, cur, e, _⟩
  ·exact ⟨none, 0, by rw [e, e2]⟩
  ·exact ⟨_, _, e⟩
 subst hv
 have hvc := Lib.hid (caps_of_row hown2)
 have HO := Lib.hid (own_of_cells (hi := w1.heap.size) hown2 (Nat.le_refl _))
 clear hown' hown2 hgrow hown hnn
 go_wp2
 go_ret
 exact ⟨a', cap', by rw [hL.out]; rfl, by rw [hL.out]; exact hvc.out, by rw [hL.out]; exact HO.out, hb1⟩

set_option maxHeartbeats 10000000 in
theorem copiedOpsK (w : World) (B : Nat) (a : Option Addr) (n cap : Nat) (l : List OpV) (h : Ops w B a n l) (hB : B ≤ w.heap.size) (hn : n ≤ 1048576) (hcap : a = none → cap = 0) (hnz : 0 < n ∨ a = none) (hm : ∀ i, i < n → (l.getD i OpV.zero).item.size ≤ 1048576) : Calls Try.prog 111 #[.slice a n cap] w (OpsPostK l w) := by
 by_cases h0 : 0 < n
 ·obtain ⟨b, off, rfl, hb, _⟩ := h.2 0 h0
  have HL := Lib.hid h.1
  have HM := Lib.hid hm
  clear hm hcap hnz
  go_enter Try.func111, Try.ntmps111
  go_wp2_with fail
  refine (cloneOpsK w B b off n cap l h hB hn).mono ?_
  rintro e w1 ⟨a1, c1, rfl, hcc, ho, hb1⟩
  rw [h.1] at hcc
  have hcc := Lib.hid hcc
  have HC1 : Hid (∃ g o1, a1 = some ⟨g, o1, none⟩ ∧ w.heap.size ≤ g ∧ CS g o1 n l w w1) := by
   rw [h.1] at ho
   obtain ⟨g, o1, cs, e1, h1, h2, hg, hs, hc⟩ := ho.2 h0
   exact ⟨g, o1, e1, h1, hb1, cs, hg, hs, hc⟩
  clear ho hb1 h
  obtain ⟨g, o1, rfl, hg0, hcs⟩ := HC1.out
  have HC := Lib.hid hcs
  clear hcs HC1
  rw [HL.out]
  go_wp2
  go_loopw [4, 9] (fun _ i wr => ∃ k : Nat, k ≤ n ∧ i = .int .i64 (k : Int) ∧ Hid (CS g o1 n l w wr)) (fun _ i _ => n - (intOf i).toNat)
  case atStart => exact ⟨0, by omega, rfl, HC⟩
  case round =>
   obtain ⟨k, hk, rfl, HR⟩ := hrel
   by_cases hlt : k < n
   rotate_left
   ·obtain rfl : k = n := by omega
    have HP : Hid (OpsPostK l w (.returned (.slice (some ⟨g, o1, none⟩) k c1)) wr) := by
     obtain ⟨h1, cs, hg, hs, hc⟩ := HR.out
     exact ⟨some ⟨g, o1, none⟩, c1, by rw [HL.out], by rw [HL.out]; exact hcc.out, ⟨rfl, fun _ => ⟨g, o1, cs, rfl, hg0, (Array.getElem?_eq_some_iff.1 hg).1, hg, by rw [HL.out]; exact hs, by rw [HL.out]; exact hc⟩⟩, h1⟩
    go_wp2
    go_ret
    exact HP.out
   have hit := HM.out k hlt
   have hput := fun w2 (h : CS g o1 n l w w2) => h.put hg0 hlt
   have HPut := Lib.hid hput
   clear hput
   have HCell : Hid (∀ w2, CS g o1 n l w w2 → w2.cell? ⟨g, o1 + k * 8 + 4, none⟩ = some (.string (l.getD k OpV.zero).item) ∧ w2.frozen? ⟨g, o1 + k * 8 + 4, none⟩ = false) := fun w2 h => by
    obtain ⟨_, cs, hg, _, hc⟩ := h
    exact ⟨((hc k hlt).at hg).2.2.2.2.1, frozen_of_row _ _ _ _ _ hg⟩
   generalize (l.getD k OpV.zero).item = s at hit HPut HCell
   have c4 := (HCell.out wr HR.out).1
   go_wp2_with fail
   refine (strClone s hit _).mono ?_
   rintro e w2 ⟨rfl, hb2⟩
   have HR2 := Lib.hid (HR.out.step hb2)
   clear c4 hb2 HR
   have c4 := (HCell.out w2 HR2.out).1
   have f4 := (HCell.out w2 HR2.out).2
   have HR3 := Lib.hid (HPut.out w2 HR2.out)
   go_wp2
   go_roundw
   case rel => exact ⟨k + 1, by omega, by go_num, HR3⟩
   case measure => simp [intOf]; omega
 ·obtain rfl : n = 0 := by omega
  have hl : l = [] := List.eq_nil_of_length_eq_zero h.1
  subst hl
  clear hm
  rcases a with _ | ad
  ·obtain rfl := hcap rfl
   clear hnz h0
   go_enter Try.func111, Try.ntmps111
   go_wp2_with fail
   refine (cloneNil w).mono ?_
   rintro e w1 ⟨rfl, rfl⟩
   go_wp2
   refine wp_loop_rounds 1 ?_
   rw [rounds_succ]
   go_wp2
   go_ret
   exact ⟨none, 0, rfl, caps_nil, own_none _ _ _ _, Below.refl _ _⟩
  ·exact absurd hnz (by rintro (h | h); exact h0 h; cases h)

end Go.Proofs.Ytdbdmfaphdjdpaa

namespace Go.Proofs.Ytdbdmfaphdjdpaa
set_option maxRecDepth 100000
open Go.RowKit

set_option maxHeartbeats 10000000 in
theorem copiedOpsZ (w : World) (g off cap : Nat) : Calls Try.prog 111 #[.slice (some ⟨g, off, none⟩) 0 cap] w (OpsPostK [] w) := by
 go_enter Try.func111, Try.ntmps111
 go_wp2_with fail
 refine (cloneOpsK w w.heap.size g off 0 cap [] ⟨rfl, fun i hi => absurd hi (by omega)⟩ (Nat.le_refl _) (by omega)).mono ?_
 rintro e w1 ⟨a1, c1, rfl, hcc, ho, hb1⟩
 have HC := Lib.hid hcc
 have HO := Lib.hid ho
 have HB := Lib.hid hb1
 clear hcc ho hb1
 rw [List.length_nil] at *
 go_wp2
 refine wp_loop_rounds 1 ?_
 rw [rounds_succ]
 go_wp2
 go_ret
 exact ⟨a1, c1, rfl, HC.out, HO.out, HB.out⟩
theorem copiedOpsA (w : World) (B : Nat) (a : Option Addr) (n cap : Nat) (l : List OpV) (h : Ops w B a n l) (hB : B ≤ w.heap.size) (hn : n ≤ 1048576) (hcap : a = none → cap = 0) (had : ∀ x, a = some x → ∃ g o, x = ⟨g, o, none⟩) (hm : ∀ i, i < n → (l.getD i OpV.zero).item.size ≤ 1048576) : Calls Try.prog 111 #[.slice a n cap] w (OpsPostK l w) := by
 by_cases h0 : 0 < n ∨ a = none
 ·exact copiedOpsK w B a n cap l h hB hn hcap h0 hm
 ·obtain rfl : n = 0 := by omega
  have hl : l = [] := List.eq_nil_of_length_eq_zero h.1
  subst hl
  rcases a with _ | x
  ·exact absurd (Or.inr rfl) h0
  ·obtain ⟨g, o, rfl⟩ := had x rfl
   exact copiedOpsZ w g o cap

set_option maxHeartbeats 20000000 in
theorem copiedCartK (w : World) (B g off : Nat) (ao : Option Addr) (nv cv no co : Nat) (xs : List Int) (l : List OpV) (hx : Ints w B (some ⟨g, off, none⟩) nv xs) (h : Ops w B ao no l) (hB : B ≤ w.heap.size) (hn0 : 0 < nv) (hv : nv ≤ 1048576) (hn : no ≤ 1048576) (hcap : ao = none → co = 0) (had : ∀ x, ao = some x → ∃ g o, x = ⟨g, o, none⟩) (hm : ∀ i, i < no → (l.getD i OpV.zero).item.size ≤ 1048576) :
  Calls Try.prog 53 #[.agg #[.slice (some ⟨g, off, none⟩) nv cv, .slice ao no co]] w fun e w' => ∃ va vc oa oc mid, e = .returned (.agg #[.slice va xs.length vc, .slice oa l.length oc]) ∧ Own w' w.heap.size mid va xs.length xs ∧ OwnOps w' mid w'.heap.size oa l.length l ∧ w.heap.size ≤ mid ∧ mid ≤ w'.heap.size ∧ Below w.heap.size w w' ∧ Caps oa l.length oc := by
 have hT := Two.mk0 w #[.slice (some ⟨g, off, none⟩) nv cv, .slice ao no co] #[.slice none 0 0, .slice none 0 0] 29
 have HV := Lib.hid (hx.below hT.bel hB)
 have HO := Lib.hid (h.below hT.bel hB)
 have HT := Lib.hid hT
 have HM := Lib.hid hm
 have HC := Lib.hid hcap
 have HD := Lib.hid had
 have hBw := hB
 clear hx h hT hB hm hcap had
 go_enter Try.func53, Try.ntmps53
 go_upto_region 1 with fail
 rename_i KR hKR
 generalize (w.alloc (.cells #[.slice (some ⟨g, off, none⟩) nv cv, .slice ao no co] 29)).alloc (.cells #[.slice none 0 0, .slice none 0 0] 29) = w0 at HV HO HT ⊢
 have hsz0 := HT.out.bel.size
 have hsz1 := lt_of_row HT.out.snd
 obtain ⟨z0, hz0e⟩ : ∃ z0, w0.drew = z0 := ⟨_, rfl⟩
 have g0 : Below w0.heap.size w0 z0 := by rw [← hz0e]; exact ⟨rfl, rfl, rfl, Nat.le_refl _, fun _ _ => rfl⟩
 have HVz := Lib.hid (HV.out.below g0 (by omega))
 have HOz := Lib.hid (HO.out.below g0 (by omega))
 have HTz := Lib.hid (HT.out.next g0)
 have hs0 := g0.size
 have hS := pair_cells HTz.out.fst
 clear g0 HV HO HT
 refine wp_region_held_drew (S := fun w' => w'.cell? ⟨w.heap.size, 0, none⟩ = some (.slice (some ⟨g, off, none⟩) nv cv) ∧ w'.cell? ⟨w.heap.size, 1, none⟩ = some (.slice ao no co)) (by kernel_rfl) (by rw [hz0e]; exact hS) (fun hHeld => ?_)
 rw [hz0e]
 clear hHeld hz0e
 refine tk 0 ⟨some 3, .fieldAddr 29 (.tmp 1) 0, 0, "l04_carts.go:95", #[], none⟩ ?_
 (try simp only [Act.put, u1, u2, u3])
 refine tk 1 ⟨some 4, .load 22 (.tmp 3), 22, "l04_carts.go:95", #[⟨0, .data⟩], none⟩ ?_
 (try simp only [Act.put, u1, u2, u3])
 refine tk 3 ⟨some 6, .fieldAddr 29 (.tmp 1) 1, 0, "l04_carts.go:95", #[], none⟩ ?_
 (try simp only [Act.put, u1, u2, u3])
 refine tk 4 ⟨some 7, .load 27 (.tmp 6), 27, "l04_carts.go:95", #[⟨3, .data⟩], none⟩ ?_
 (try simp only [Act.put, u1, u2, u3])
 refine rk 2 rfl (fun K hK => ?_)
 go_simp
 go_at_call 110
 refine (cloneIntsAt z0 B g off nv cv xs HVz.out hn0 hv).mono ?_
 rintro e w1 ⟨va, vc, rfl, hown, hb1⟩
 have HO1 := Lib.hid (HOz.out.below hb1 (by omega))
 have HT1 := Lib.hid (HTz.out.next hb1)
 have HV1 := Lib.hid hown
 have hs1 := hb1.size
 have hS1 := pair_cells HT1.out.fst
 clear hb1 hown HVz HOz HTz
 refine hK.out _ _ hS1 (fun hHeld2 => ?_)
 clear hK K
 (try simp only [Act.put, u1, u2, u3])
 refine rk 5 rfl (fun K hK => ?_)
 go_simp
 go_at_call 111
 refine (copiedOpsA w1 B ao no co l HO1.out (by omega) hn HC.out HD.out HM.out).mono ?_
 rintro e w2 ⟨oa, oc, rfl, hoc, hop, hb2⟩
 have HT2 := Lib.hid (HT1.out.next hb2)
 have HV2 := Lib.hid (HV1.out.below hb2 (Nat.le_refl _))
 have HP2 := Lib.hid hop
 have HCp := Lib.hid hoc
 have hs2 := hb2.size
 have hlt2 := lt_of_row HT2.out.snd
 have hS2 := pair_cells HT2.out.fst
 clear hb2 hop HO1 HT1 HV1 hoc
 refine hK.out _ _ hS2 (fun hHeld3 => ?_)
 clear hK K
 (try simp only [Act.put, u1, u2, u3])
 refine tk 6 ⟨some 9, .build 29 #[(0, .tmp 5), (1, .tmp 8)], 29, "l04_carts.go:95", #[⟨2, .data⟩, ⟨5, .data⟩], none⟩ ?_
 (try simp only [Act.put, u1, u2, u3])
 obtain ⟨r0, r1⟩ := pair_cells HT2.out.snd
 obtain ⟨fz0, fz1⟩ := pair_frozen HT2.out.snd
 have hS3 : ((w2.setCell ⟨w.heap.size + 1, 0, none⟩ (.slice va xs.length vc)).setCell ⟨w.heap.size + 1, 1, none⟩ (.slice oa l.length oc)).cell? ⟨w.heap.size, 0, none⟩ = some (.slice (some ⟨g, off, none⟩) nv cv) ∧ ((w2.setCell ⟨w.heap.size + 1, 0, none⟩ (.slice va xs.length vc)).setCell ⟨w.heap.size + 1, 1, none⟩ (.slice oa l.length oc)).cell? ⟨w.heap.size, 1, none⟩ = some (.slice ao no co) := pair_cells ((pair_other _ _ (by omega)).trans HT2.out.fst)
 refine rk 7 rfl (fun K hK => ?_)
 go_simp
 refine hK.out _ _ hS3 (fun hHeld4 => ?_)
 clear hK K
 (try simp only [Act.put, u1, u2, u3])
 refine wpAnyH_done (by kernel_rfl) ?_ _
 have HXr : Hid (((w2.setCell ⟨w.heap.size + 1, 0, none⟩ (.slice va xs.length vc)).setCell ⟨w.heap.size + 1, 1, none⟩ (.slice oa l.length oc)).heap[w.heap.size + 1]? = some (.cells #[.slice va xs.length vc, .slice oa l.length oc] 29 (0, 0))) := pair_set _ _ HT2.out.snd
 have HBr2 : Hid (Below w.heap.size w ((w2.setCell ⟨w.heap.size + 1, 0, none⟩ (.slice va xs.length vc)).setCell ⟨w.heap.size + 1, 1, none⟩ (.slice oa l.length oc))) := (HT2.out.bel.setCell (by show _ ≤ w.heap.size + 1; omega) _).setCell (by show _ ≤ w.heap.size + 1; omega) _
 have HOv7 : Hid (Own ((w2.setCell ⟨w.heap.size + 1, 0, none⟩ (.slice va xs.length vc)).setCell ⟨w.heap.size + 1, 1, none⟩ (.slice oa l.length oc)) z0.heap.size w1.heap.size va xs.length xs) := HV2.out.kept fun q h1 h2 => pair_other _ _ (by omega)
 have HOp7 : Hid (OwnOps ((w2.setCell ⟨w.heap.size + 1, 0, none⟩ (.slice va xs.length vc)).setCell ⟨w.heap.size + 1, 1, none⟩ (.slice oa l.length oc)) w1.heap.size w2.heap.size oa l.length l) := HP2.out.kept fun q h1 h2 => pair_other _ _ (by omega)
 have hsz7 : ((w2.setCell ⟨w.heap.size + 1, 0, none⟩ (.slice va xs.length vc)).setCell ⟨w.heap.size + 1, 1, none⟩ (.slice oa l.length oc)).heap.size = w2.heap.size := pair_size _ _ _ _
 clear hS hS1 hS2 hS3 hHeld2 hHeld3 hHeld4 r0 r1 fz0 fz1
 generalize (w2.setCell ⟨w.heap.size + 1, 0, none⟩ (.slice va xs.length vc)).setCell ⟨w.heap.size + 1, 1, none⟩ (.slice oa l.length oc) = wf at HXr HBr2 HOv7 HOp7 hsz7 ⊢
 apply hKR
 obtain ⟨q0, q1⟩ := pair_cells HXr.out
 go_wp2
 exact bodyPost_ret (v := .agg #[.slice va xs.length vc, .slice oa l.length oc]) (by simp [results, Try.results53, go_sem, q0, q1]) rfl ⟨va, vc, oa, oc, w1.heap.size, rfl, HOv7.out.more (by omega) (Nat.le_refl _), HOp7.out.more (Nat.le_refl _) (by omega), by omega, by omega, HBr2.out, HCp.out⟩
end Go.Proofs.Ytdbdmfaphdjdpaa

namespace Go.Proofs.Ytdbdmfaphdjdpaa
set_option maxRecDepth 100000
open Go.RowKit

end Go.Proofs.Ytdbdmfaphdjdpaa
