/- Walks and mathematics that several claims share, part 26. -/
import Derived.Test.YtdbdmfaphdjdpaaGt25
import Derived.Test.YtdbdmfaphdjdpaaGt19
import Derived.Test.YtdbdmfaphdjdpaaGt21
import Derived.Test.YtdbdmfaphdjdpaaGt23
import Derived.Deep.Cut
import Derived.Deep.RegionHeld3
import Derived.Test.YtdbdmfaphdjdpaaGtA
namespace Go.Proofs.Ytdbdmfaphdjdpaa
set_option maxRecDepth 100000
open Go.RowKit

/-- A cart of the call's own, and a flag. -/
def CartPost (ok : Bool) (zs : List Int) (L : List OpV) (w : World) (e : Ending) (w' : World) : Prop := ∃ va vc oa oc mid, e = .returned (.tuple #[.agg #[.slice va zs.length vc, .slice oa L.length oc], .bool ok]) ∧ Own w' w.heap.size mid va zs.length zs ∧ OwnOps w' mid w'.heap.size oa L.length L ∧ w.heap.size ≤ mid ∧ mid ≤ w'.heap.size ∧ Below w.heap.size w w'
/-- The same, and what is known of the operations' capacity. -/
def CartPostK (ok : Bool) (zs : List Int) (L : List OpV) (w : World) (e : Ending) (w' : World) : Prop := ∃ va vc oa oc mid, e = .returned (.tuple #[.agg #[.slice va zs.length vc, .slice oa L.length oc], .bool ok]) ∧ Own w' w.heap.size mid va zs.length zs ∧ OwnOps w' mid w'.heap.size oa L.length L ∧ w.heap.size ≤ mid ∧ mid ≤ w'.heap.size ∧ Below w.heap.size w w' ∧ Caps oa L.length oc
theorem CartPostK.cart {ok : Bool} {zs : List Int} {L : List OpV} {w w' : World} {e : Ending} (h : CartPostK ok zs L w e w') : CartPost ok zs L w e w' := by
 obtain ⟨va, vc, oa, oc, mid, e1, h1, h2, h3, h4, h5, _⟩ := h
 exact ⟨va, vc, oa, oc, mid, e1, h1, h2, h3, h4, h5⟩
theorem own_nil (w : World) (lo hi : Nat) (a : Option Addr) : Own w lo hi a 0 [] := ⟨rfl, fun h => absurd h (by omega)⟩
theorem TriF.set2 {w w1 : World} {x y : Array Value} {z0 z1 : Value} {S T U : TypeId} (h : TriF w w1 x y #[z0, z1] S T U) (u v : Value) :
  ((w1.setCell ⟨w.heap.size + 1 + 1, 0, none⟩ u).setCell ⟨w.heap.size + 1 + 1, 1, none⟩ v).heap[w.heap.size + 1 + 1]? = some (.cells #[u, v] U (0, 0)) ∧ Below w.heap.size w ((w1.setCell ⟨w.heap.size + 1 + 1, 0, none⟩ u).setCell ⟨w.heap.size + 1 + 1, 1, none⟩ v) :=
 ⟨pair_set _ _ h.res, (h.bel.setCell (by show _ ≤ w.heap.size + 1 + 1; omega) _).setCell (by show _ ≤ w.heap.size + 1 + 1; omega) _⟩
theorem nameOfL (x : OpV) (w : World) : Calls Try.prog 67 #[.agg #[.int .i64 x.dev, .int .i64 x.seq, .int .i64 x.stamp, .int .i64 x.kind, .string x.item, .int .i64 x.qty, .int .i64 x.level, .int .i64 x.undos]] w fun e w' => e = .returned (.agg #[.int .i64 x.dev, .int .i64 x.seq]) ∧ Below w.heap.size w w' := nameOf x w
def mergedV (xs ys : List Int) (ok : Bool) : List Int := if ok = true then maxV xs ys else []
def mergedO (xs ys : List Int) (l m : List OpV) (ok : Bool) : List OpV := if ok = true then mergeL (maxV xs ys) l m else []

set_option linter.unusedSimpArgs false in
set_option maxHeartbeats 80000000 in
theorem implMergedK (w : World) (B : Nat) (av ao bv bo : Option Addr) (nv cv no co mv dv mo eo : Nat) (xs : List Int) (l : List OpV) (ys : List Int) (m : List OpV) (hx : Ints w B av nv xs) (h : Ops w B ao no l) (hy : Ints w B bv mv ys) (g : Ops w B bo mo m) (hB : B ≤ w.heap.size) (hv : nv ≤ 1048576) (hc : no ≤ co) (hc2 : Fits no co) (hm : ∀ i, i < no → (atOp l i).item.size ≤ 1048576) (hv2 : mv ≤ 1048576) (he : mo ≤ eo) (he2 : Fits mo eo) (hm2 : ∀ i, i < mo → (atOp m i).item.size ≤ 1048576) :
  Calls Try.prog 17 #[.agg #[.slice av nv cv, .slice ao no co], .agg #[.slice bv mv dv, .slice bo mo eo]] w (CartPostK (mergedB xs l ys m) (mergedV xs ys (mergedB xs l ys m)) (mergedO xs ys l m (mergedB xs l ys m)) w) := by
 have hn1048 : no ≤ 1048576 := hc2.1
 have he1048 : mo ≤ 1048576 := he2.1
 have hT := TriF.mk0 w #[.slice av nv cv, .slice ao no co] #[.slice bv mv dv, .slice bo mo eo] #[.slice none 0 0, .slice none 0 0] 29 29 29
 have HV := Lib.hid (hx.below hT.bel hB)
 have HO := Lib.hid (h.below hT.bel hB)
 have HY := Lib.hid (hy.below hT.bel hB)
 have HG := Lib.hid (g.below hT.bel hB)
 have HT := Lib.hid hT
 have HL := Lib.hid h.1
 have HLm := Lib.hid g.1
 have HM := Lib.hid hm
 have HM2 := Lib.hid hm2
 have hBw := hB
 clear hx h hy g hT hB hm hm2
 go_enter Try.func17, Try.ntmps17
 go_wp2_with fail
 generalize ((w.alloc (.cells #[.slice av nv cv, .slice ao no co] 29)).alloc (.cells #[.slice bv mv dv, .slice bo mo eo] 29)).alloc (.cells #[.slice none 0 0, .slice none 0 0] 29) = w0 at HV HO HY HG HT ⊢
 have hsz0 := HT.out.bel.size
 have hsz1 := lt_of_row HT.out.res
 refine (implCartOk w0 B av ao nv cv no co xs l HV.out HO.out (by omega) hv hc hc2).mono ?_
 rintro e w1 ⟨rfl, hb1⟩
 have HV1 := Lib.hid (HV.out.below hb1 (by omega))
 have HO1 := Lib.hid (HO.out.below hb1 (by omega))
 have HY1 := Lib.hid (HY.out.below hb1 (by omega))
 have HG1 := Lib.hid (HG.out.below hb1 (by omega))
 have HT1 := Lib.hid (HT.out.next hb1)
 have hs1 := hb1.size
 clear hb1 HV HO HY HG HT
 rcases hca : cartB xs l with _ | _
 ·have HF := Lib.hid (mergedB_1 (ys := ys) (m := m) hca)
  clear hca
  obtain ⟨r0, r1⟩ := pair_cells HT1.out.res
  obtain ⟨fz0, fz1⟩ := pair_frozen HT1.out.res
  have HXr := Lib.hid (HT1.out.set2 (.slice none 0 0) (.slice none 0 0)).1
  have HBr2 := Lib.hid (HT1.out.set2 (.slice none 0 0) (.slice none 0 0)).2
  go_wp2
  change bodyPost _ _ _ _ _ ((w1.setCell ⟨w.heap.size + 1 + 1, 0, none⟩ (.slice none 0 0)).setCell ⟨w.heap.size + 1 + 1, 1, none⟩ (.slice none 0 0))
  generalize (w1.setCell ⟨w.heap.size + 1 + 1, 0, none⟩ (.slice none 0 0)).setCell ⟨w.heap.size + 1 + 1, 1, none⟩ (.slice none 0 0) = wf at HXr HBr2 ⊢
  obtain ⟨q0, q1⟩ := pair_cells HXr.out
  have hsf := HBr2.out.size
  exact bodyPost_ret (v := .tuple #[.agg #[.slice none 0 0, .slice none 0 0], .bool false]) (by simp [results, Try.results17, go_sem, q0, q1]) rfl ⟨none, 0, none, 0, w.heap.size, by rw [HF.out]; rfl, by rw [HF.out]; exact own_nil _ _ _ _, by rw [HF.out]; exact own_none _ _ _ _, Nat.le_refl _, hsf, HBr2.out, by rw [HF.out]; exact caps_nil⟩
 obtain ⟨b0, b1⟩ := pair_cells HT1.out.snd
 go_wp2_with fail
 refine (implCartOk w1 B bv bo mv dv mo eo ys m HY1.out HG1.out (by omega) hv2 he he2).mono ?_
 rintro e w2 ⟨rfl, hb2⟩
 have HV2 := Lib.hid (HV1.out.below hb2 (by omega))
 have HO2 := Lib.hid (HO1.out.below hb2 (by omega))
 have HY2 := Lib.hid (HY1.out.below hb2 (by omega))
 have HG2 := Lib.hid (HG1.out.below hb2 (by omega))
 have HT2 := Lib.hid (HT1.out.next hb2)
 have hs2 := hb2.size
 clear hb2 HV1 HO1 HY1 HG1 HT1 b0 b1
 rcases hcb : cartB ys m with _ | _
 ·have HF := Lib.hid (mergedB_2 (xs := xs) (l := l) hcb)
  clear hca hcb
  obtain ⟨r0, r1⟩ := pair_cells HT2.out.res
  obtain ⟨fz0, fz1⟩ := pair_frozen HT2.out.res
  have HXr := Lib.hid (HT2.out.set2 (.slice none 0 0) (.slice none 0 0)).1
  have HBr2 := Lib.hid (HT2.out.set2 (.slice none 0 0) (.slice none 0 0)).2
  go_wp2
  change bodyPost _ _ _ _ _ ((w2.setCell ⟨w.heap.size + 1 + 1, 0, none⟩ (.slice none 0 0)).setCell ⟨w.heap.size + 1 + 1, 1, none⟩ (.slice none 0 0))
  generalize (w2.setCell ⟨w.heap.size + 1 + 1, 0, none⟩ (.slice none 0 0)).setCell ⟨w.heap.size + 1 + 1, 1, none⟩ (.slice none 0 0) = wf at HXr HBr2 ⊢
  obtain ⟨q0, q1⟩ := pair_cells HXr.out
  have hsf := HBr2.out.size
  exact bodyPost_ret (v := .tuple #[.agg #[.slice none 0 0, .slice none 0 0], .bool false]) (by simp [results, Try.results17, go_sem, q0, q1]) rfl ⟨none, 0, none, 0, w.heap.size, by rw [HF.out]; rfl, by rw [HF.out]; exact own_nil _ _ _ _, by rw [HF.out]; exact own_none _ _ _ _, Nat.le_refl _, hsf, HBr2.out, by rw [HF.out]; exact caps_nil⟩
 have HF := Lib.hid (mergedB_3 hca hcb)
 have HInc := Lib.hid (cart_inc hcb)
 have hfl : ∀ i, i < no → Fit2 (atOp l i).dev (atOp l i).seq := fun i hi => cart_fit hca (by rw [HL.out]; exact hi)
 have HFm := Lib.hid (fun i (hi : i < m.length) => cart_fit hcb hi)
 have HCa := Lib.hid hca
 have HCb := Lib.hid hcb
 clear hca hcb
 obtain ⟨a0, a1⟩ := pair_cells HT2.out.fst
 have hnol : no ≤ 1048576 := by omega
 go_wp2_with fail
 refine (opSetOf w2 B ao no co l HO2.out (by omega) hnol hfl).mono ?_
 rintro e w3 ⟨sb, rfl, hsb, hset, hb3⟩
 have HS3 : Hid (SetIs w3 sb (no + 0) (mixF l m 0)) := by have := hset; rw [← HL.out] at this ⊢; exact this
 have HB3 := Lib.hid hb3
 have HT3 := Lib.hid (HT2.out.next hb3)
 have hs3 := hb3.size
 clear hb3 hset hfl a0 a1
 obtain ⟨b0, b1⟩ := pair_cells HT3.out.snd
 go_wp2
 go_loopw [30] (fun i wr => ∃ k : Nat, k ≤ mo ∧ i = .int .i64 (k : Int) ∧ Hid (SetIs wr sb (no + k) (mixF l m k)) ∧ Hid (∀ j, j < k → okJ l (atOp m j) = true) ∧ Hid (Below w2.heap.size w2 wr)) (fun i _ => mo - (intOf i).toNat)
 case atStart => exact ⟨0, by omega, rfl, HS3, Lib.hid (fun j hj => absurd hj (by omega)), HB3⟩
 case round =>
  obtain ⟨k, hk, rfl, HSr, HK, HBr⟩ := hrel
  clear HS3 HB3 b0 b1
  have hsr := HBr.out.size
  have HTr := Lib.hid (HT2.out.next HBr.out)
  by_cases hlt : k < mo
  rotate_left
  ·obtain rfl : k = mo := by omega
   have hok := okM_end (l := l) (m := m) (fun i hi => HK.out i (by rw [← HLm.out]; exact hi))
   have HE : Hid (mergedB xs l ys m = true) := by show _ = _; rw [HF.out, hok]
   have hvA := (cart_true HCa.out).1
   have hvB := (cart_true HCb.out).1
   have hv4 := (vec_at hvA (d := 0) (by omega)).2.2
   have hv4b := (vec_at hvB (d := 0) (by omega)).2.2
   have HVm := Lib.hid (maxV_ok hvA hvB)
   have HZv : Hid (vecZip max xs ys = maxV xs ys) := by show _ = _; rw [vecZip_yes (by rw [hvA, hvB]; rfl)]; rfl
   have hz4 : (maxV xs ys).length = 4 := (vec_at HVm.out (d := 0) (by omega)).2.2
   have HGl : Hid (∀ d, d < 4 → ∀ s : Nat, (s : Int) < (maxV xs ys).getD d 0 → mixF l m k (d : Int) ((s : Int) + 1) = some (mergeF l m d s)) := fun d hd s hs => by
    rw [maxV_at hv4 hv4b hd] at hs
    have := mix_join HCa.out HCb.out hok hd hs
    rw [HLm.out] at this
    exact this
   have HIt : Hid (∀ d s, (mergeF l m d s).item.size ≤ 1048576) := fun d s => merge_items (N := 1048576) (fun i hi => HM.out i (by rw [← HL.out]; exact hi)) (fun i hi => HM2.out i (by rw [← HLm.out]; exact hi)) d s
   have HLs : Hid (mergeL (maxV xs ys) l m = listP (maxV xs ys) (mergeF l m) 4 0) := rfl
   have HMv : Hid (mergedV xs ys (mergedB xs l ys m) = maxV xs ys) := by show _ = _; rw [HE.out]; rfl
   have HMo : Hid (mergedO xs ys l m (mergedB xs l ys m) = mergeL (maxV xs ys) l m) := by show _ = _; rw [HE.out]; rfl
   have HVr := Lib.hid (HV2.out.below HBr.out (by omega))
   have HYr := Lib.hid (HY2.out.below HBr.out (by omega))
   clear hok hvA hvB hv4 hv4b HK HF HCa HCb HFm HInc
   obtain ⟨a0, a1⟩ := pair_cells HTr.out.fst
   obtain ⟨b0, b1⟩ := pair_cells HTr.out.snd
   go_wp2_with fail
   refine (implMax wr B av bv nv cv mv dv xs ys HVr.out HYr.out (by omega) hv hv2).mono ?_
   rintro e w5 ⟨va, vc, rfl, hown, hb5⟩
   rw [HZv.out, hz4] at hown ⊢
   have HS5 := Lib.hid (HSr.out.below hb5)
   have HT5 := Lib.hid (HTr.out.next hb5)
   have HOw := Lib.hid hown
   have hs5 := hb5.size
   clear hown hb5 HVr HYr HTr HSr a0 a1 b0 b1 HZv
   go_wp2_with fail
   refine (listed w5 w5.heap.size va vc (maxV xs ys) HOw.out.ints (Nat.le_refl _) HVm.out sb (no + k) (mixF l m k) HS5.out (by omega) (mergeF l m) HGl.out HIt.out).mono ?_
   rintro e w6 ⟨oa, oc, rfl, hcc, hop, hb6⟩
   have HT6 := Lib.hid (HT5.out.next hb6)
   have HOw6 := Lib.hid (HOw.out.below hb6 (Nat.le_refl _))
   have HOp := Lib.hid hop
   have HCc := Lib.hid hcc
   have hs6 := hb6.size
   rw [← HLs.out] at HOp HCc ⊢
   clear hop hb6 hcc HT5 HOw HS5 HGl HIt HVm HLs
   generalize mergeL (maxV xs ys) l m = L at HOp HMo HCc ⊢
   obtain ⟨r0, r1⟩ := pair_cells HT6.out.res
   obtain ⟨fz0, fz1⟩ := pair_frozen HT6.out.res
   have hlt6 := lt_of_row HT2.out.res
   have HXr := Lib.hid (HT6.out.set2 (.slice va 4 vc) (.slice oa L.length oc)).1
   have HBr2 := Lib.hid (HT6.out.set2 (.slice va 4 vc) (.slice oa L.length oc)).2
   have HOv7 : Hid (Own ((w6.setCell ⟨w.heap.size + 1 + 1, 0, none⟩ (.slice va 4 vc)).setCell ⟨w.heap.size + 1 + 1, 1, none⟩ (.slice oa L.length oc)) wr.heap.size w5.heap.size va 4 (maxV xs ys)) := HOw6.out.kept fun q h1 h2 => pair_other _ _ (by omega)
   have HOp7 : Hid (OwnOps ((w6.setCell ⟨w.heap.size + 1 + 1, 0, none⟩ (.slice va 4 vc)).setCell ⟨w.heap.size + 1 + 1, 1, none⟩ (.slice oa L.length oc)) w5.heap.size w6.heap.size oa L.length L) := HOp.out.kept fun q h1 h2 => pair_other _ _ (by omega)
   have hsz7 : ((w6.setCell ⟨w.heap.size + 1 + 1, 0, none⟩ (.slice va 4 vc)).setCell ⟨w.heap.size + 1 + 1, 1, none⟩ (.slice oa L.length oc)).heap.size = w6.heap.size := pair_size _ _ _ _
   go_wp2
   change bodyPost _ _ _ _ _ ((w6.setCell ⟨w.heap.size + 1 + 1, 0, none⟩ (.slice va 4 vc)).setCell ⟨w.heap.size + 1 + 1, 1, none⟩ (.slice oa L.length oc))
   generalize (w6.setCell ⟨w.heap.size + 1 + 1, 0, none⟩ (.slice va 4 vc)).setCell ⟨w.heap.size + 1 + 1, 1, none⟩ (.slice oa L.length oc) = wf at HXr HBr2 HOv7 HOp7 hsz7 ⊢
   obtain ⟨q0, q1⟩ := pair_cells HXr.out
   exact bodyPost_ret (v := .tuple #[.agg #[.slice va 4 vc, .slice oa L.length oc], .bool true]) (by simp [results, Try.results17, go_sem, q0, q1]) rfl ⟨va, vc, oa, oc, w5.heap.size, by rw [HMv.out, HMo.out, HE.out, hz4], by rw [HMv.out, hz4]; exact HOv7.out.more (by omega) (Nat.le_refl _), by rw [HMo.out]; exact HOp7.out.more (Nat.le_refl _) (by omega), by omega, by omega, HBr2.out, by rw [HMo.out]; exact HCc.out⟩
  have hkm : k < m.length := by rw [HLm.out]; exact hlt
  have HStop : Hid (okJ l (atOp m k) = false → mergedB xs l ys m = false) := fun h => by rw [HF.out]; exact okM_stop hkm h
  have HFk := Lib.hid (HFm.out k hkm)
  have HKs : Hid (okJ l (atOp m k) = true → ∀ j, j < k + 1 → okJ l (atOp m j) = true) := fun h j hj => by
   rcases Nat.lt_or_ge j k with h1 | h1
   ·exact HK.out j h1
   ·obtain rfl : j = k := by omega
    exact h
  have HS6s : Hid (sb < wr.heap.size) := HSr.out.lt
  have HNx := Lib.hid (mixF_next (l := l) HInc.out hkm)
  have HSt : Hid (mixF l m (k + 1) = putF (mixF l m k) (jn l (atOp m k))) := rfl
  have HGr := Lib.hid (HG2.out.below HBr.out (by omega))
  obtain ⟨b, off, rfl, hb, ho⟩ := HGr.out.2 k hlt
  have HOk : Hid (OpAt wr b (off + k * 8) (atOp m k)) := ho
  have HN : Hid (getO l (atOp m k).dev (atOp m k).seq = none → okJ l (atOp m k) = true ∧ jn l (atOp m k) = atOp m k) := fun h => ⟨okJ_none h, jn_none h⟩
  have HY : Hid (∀ y, getO l (atOp m k).dev (atOp m k).seq = some y → okJ l (atOp m k) = sameB (atOp m k) y ∧ jn l (atOp m k) = (atOp m k).with (max (atOp m k).undos y.undos)) := fun y h => ⟨okJ_some h, jn_some h⟩
  clear ho HK HGr
  generalize atOp m k = x at HOk HFk HKs HStop HNx HSt HN HY
  obtain ⟨d0, d1, d2, d3, d4, d5, d6, d7⟩ := HOk.out
  go_upto_region 7 with fail
  have hb4 : Below wr.heap.size wr (wr.alloc (.cells #[.int .i64 x.dev, .int .i64 x.seq, .int .i64 x.stamp, .int .i64 x.kind, .string x.item, .int .i64 x.qty, .int .i64 x.level, .int .i64 x.undos] 77)) := bl
  have HX4 := Lib.hid (boxAt (Below.refl _ (wr.alloc (.cells #[.int .i64 x.dev, .int .i64 x.seq, .int .i64 x.stamp, .int .i64 x.kind, .string x.item, .int .i64 x.qty, .int .i64 x.level, .int .i64 x.undos] 77))))
  have HS4 := Lib.hid (HSr.out.below hb4)
  have HB4 := Lib.hid (HBr.out.trans (hb4.mono (by omega)))
  clear d0 d1 d2 d3 d4 d5 d6 d7 HOk HSr
  generalize wr.alloc (.cells #[.int .i64 x.dev, .int .i64 x.seq, .int .i64 x.stamp, .int .i64 x.kind, .string x.item, .int .i64 x.qty, .int .i64 x.level, .int .i64 x.undos] 77) = w4 at hb4 HX4 HS4 HB4 ⊢
  have hs4 := hb4.size
  have hx4 := lt_of_row HX4.out
  generalize wr.heap.size = nb at HX4 hs4 hsr hx4 HS6s ⊢
  clear hb4 HTr HBr
  obtain ⟨e0, e1, e2, e3, e4, e5, e6, e7⟩ := op_cells HX4.out
  go_wp2_with fail
  refine (nameOfL x w4).mono ?_
  rintro e w5 ⟨rfl, hb5⟩
  have HX5 := Lib.hid ((hb5.block _ hx4).trans HX4.out)
  have HS5 := Lib.hid (HS4.out.below hb5)
  have HB5 := Lib.hid (HB4.out.trans (hb5.mono (by omega)))
  have hs5 := hb5.size
  clear hb5 HX4 HS4 HB4 e0 e1 e2 e3 e4 e5 e6 e7
  go_upto_region 8 with fail
  have hb6 : Below w5.heap.size w5 (w5.alloc (.cells #[.int .i64 x.dev, .int .i64 x.seq] 94)) := bl
  have HN6 := Lib.hid (boxAt (Below.refl _ (w5.alloc (.cells #[.int .i64 x.dev, .int .i64 x.seq] 94))))
  have HX6 := Lib.hid ((hb6.block _ (by omega)).trans HX5.out)
  have HS6 := Lib.hid (HS5.out.below hb6)
  have HB6 := Lib.hid (HB5.out.trans (hb6.mono (by omega)))
  generalize w5.alloc (.cells #[.int .i64 x.dev, .int .i64 x.seq] 94) = w6 at hb6 HN6 HX6 HS6 HB6 ⊢
  have hs6 := hb6.size
  have hn6 := lt_of_row HN6.out
  generalize w5.heap.size = nn at HN6 hs6 hn6 hs5 ⊢
  clear hb6 HX5 HS5 HB5
  have hlk := (HS6.out.look HFk.out).1
  rw [HNx.out] at hlk
  obtain ⟨n0, n1⟩ := pair_cells HN6.out
  rcases hg : getO l x.dev x.seq with _ | y
  ·rw [hg] at hlk
   obtain ⟨hok, hjn⟩ := HN.out hg
   have HE := Lib.hid (HKs.out hok)
   rw [hjn] at HSt
   have hlk2 : (Instr.lookup 91 (.map (some sb)) (.agg #[.int .i64 x.dev, .int .i64 x.seq]) true).run Try.prog w6 = .ok (.tuple #[.agg #[.int .i64 0, .int .i64 0, .int .i64 0, .int .i64 0, .string ⟨#[]⟩, .int .i64 0, .int .i64 0, .int .i64 0], .bool false]) w6 := hlk
   clear hlk hg hok hjn
   go_upto_region 14 with fail
   have hb7 : Below w6.heap.size w6 (w6.alloc (.cells #[.int .i64 0, .int .i64 0, .int .i64 0, .int .i64 0, .string ⟨#[]⟩, .int .i64 0, .int .i64 0, .int .i64 0] 77)) := bl
   have HZ7 := Lib.hid (boxAt (Below.refl _ (w6.alloc (.cells #[.int .i64 0, .int .i64 0, .int .i64 0, .int .i64 0, .string ⟨#[]⟩, .int .i64 0, .int .i64 0, .int .i64 0] 77))))
   have HX7 := Lib.hid ((hb7.block _ (by omega)).trans HX6.out)
   have HN7 := Lib.hid ((hb7.block _ (by omega)).trans HN6.out)
   have HS7 := Lib.hid (HS6.out.below hb7)
   have HB7 := Lib.hid (HB6.out.trans (hb7.mono (by omega)))
   generalize w6.alloc (.cells #[.int .i64 0, .int .i64 0, .int .i64 0, .int .i64 0, .string ⟨#[]⟩, .int .i64 0, .int .i64 0, .int .i64 0] 77) = w7 at hb7 HZ7 HX7 HN7 HS7 HB7 ⊢
   have hnz := hb7.size
   have hnzx := lt_of_row HZ7.out
   generalize w6.heap.size = nz at HZ7 hnz hnzx hs6 ⊢
   clear hb7 HX6 HN6 HS6 HB6 hlk2 n0 n1
   obtain ⟨e0, e1, e2, e3, e4, e5, e6, e7⟩ := op_cells HX7.out
   obtain ⟨n0, n1⟩ := pair_cells HN7.out
   obtain ⟨w9, hrun0, hset, hgr⟩ := HS7.out.put (by unfold maxLen; omega) (x) (by exact HFk.out)
   have hrun : (Instr.mapUpdate 91 (.map (some sb)) (.agg #[.int .i64 x.dev, .int .i64 x.seq]) (.agg #[.int .i64 x.dev, .int .i64 x.seq, .int .i64 x.stamp, .int .i64 x.kind, .string x.item, .int .i64 x.qty, .int .i64 x.level, .int .i64 x.undos])).run Try.prog w7 = .ok () w9 := hrun0
   have HB9 : Hid (Below w2.heap.size w2 w9) := HB7.out.grown hgr HB7.out.size (fun j hj => by cases hj; exact hsb)
   have HSet : Hid (SetIs w9 sb (no + (k + 1)) (mixF l m (k + 1))) := by show SetIs _ _ _ _; rw [HSt.out]; exact hset
   clear hrun0 hset hgr
   go_wp2
   go_roundw
   case rel => exact ⟨k + 1, by omega, by go_num, HSet, HE, HB9⟩
   case measure => simp [intOf]; omega
  obtain ⟨hoy, hjy⟩ := HY.out y hg
  have HOy := Lib.hid hoy
  have HJy := Lib.hid hjy
  rw [hg] at hlk
  clear hg hoy hjy
  rcases hsm : sameB x y with _ | _
  ·have HF2 := Lib.hid (HStop.out (by rw [HOy.out, hsm]))
   have HSm := Lib.hid hsm
   have hlk2 : (Instr.lookup 91 (.map (some sb)) (.agg #[.int .i64 x.dev, .int .i64 x.seq]) true).run Try.prog w6 = .ok (.tuple #[.agg #[.int .i64 y.dev, .int .i64 y.seq, .int .i64 y.stamp, .int .i64 y.kind, .string y.item, .int .i64 y.qty, .int .i64 y.level, .int .i64 y.undos], .bool true]) w6 := hlk
   clear hlk hsm HF HCa HCb HFm HInc
   have HF := HF2
   go_upto_region 9 with fail
   have hb7 : Below w6.heap.size w6 (w6.alloc (.cells #[.int .i64 y.dev, .int .i64 y.seq, .int .i64 y.stamp, .int .i64 y.kind, .string y.item, .int .i64 y.qty, .int .i64 y.level, .int .i64 y.undos] 77)) := bl
   have HZ7 := Lib.hid (boxAt (Below.refl _ (w6.alloc (.cells #[.int .i64 y.dev, .int .i64 y.seq, .int .i64 y.stamp, .int .i64 y.kind, .string y.item, .int .i64 y.qty, .int .i64 y.level, .int .i64 y.undos] 77))))
   have HX7 := Lib.hid ((hb7.block _ (by omega)).trans HX6.out)
   have HN7 := Lib.hid ((hb7.block _ (by omega)).trans HN6.out)
   have HS7 := Lib.hid (HS6.out.below hb7)
   have HB7 := Lib.hid (HB6.out.trans (hb7.mono (by omega)))
   generalize w6.alloc (.cells #[.int .i64 y.dev, .int .i64 y.seq, .int .i64 y.stamp, .int .i64 y.kind, .string y.item, .int .i64 y.qty, .int .i64 y.level, .int .i64 y.undos] 77) = w7 at hb7 HZ7 HX7 HN7 HS7 HB7 ⊢
   have hnz := hb7.size
   have hnzx := lt_of_row HZ7.out
   generalize w6.heap.size = nz at HZ7 hnz hnzx hs6 ⊢
   clear hb7 HX6 HN6 HS6 HB6 hlk2 n0 n1
   obtain ⟨e0, e1, e2, e3, e4, e5, e6, e7⟩ := op_cells HX7.out
   obtain ⟨g0, g1, g2, g3, g4, g5, g6, g7⟩ := op_cells HZ7.out
   go_wp2_with fail
   refine (joinedNo x y HSm.out w7).mono ?_
   rintro e w8 ⟨rfl, hb8⟩
   have HB8 := Lib.hid (HB7.out.trans (hb8.mono (by omega)))
   have hs8 := hb8.size
   clear hb8 e0 e1 e2 e3 e4 e5 e6 e7 g0 g1 g2 g3 g4 g5 g6 g7 HX7 HZ7 HS7 HN7 HB7
   go_upto_region 11 with fail
   have hb9 : Below w8.heap.size w8 (w8.alloc (.cells #[.int .i64 0, .int .i64 0, .int .i64 0, .int .i64 0, .string ⟨#[]⟩, .int .i64 0, .int .i64 0, .int .i64 0] 77)) := bl
   have HB9 := Lib.hid (HB8.out.trans (hb9.mono (by omega)))
   generalize w8.alloc (.cells #[.int .i64 0, .int .i64 0, .int .i64 0, .int .i64 0, .string ⟨#[]⟩, .int .i64 0, .int .i64 0, .int .i64 0] 77) = w9 at hb9 HB9 ⊢
   have HT9 := Lib.hid (HT2.out.next HB9.out)
   clear hb9
   obtain ⟨r0, r1⟩ := pair_cells HT9.out.res
   obtain ⟨fz0, fz1⟩ := pair_frozen HT9.out.res
   have HXr := Lib.hid (HT9.out.set2 (.slice none 0 0) (.slice none 0 0)).1
   have HBr2 := Lib.hid (HT9.out.set2 (.slice none 0 0) (.slice none 0 0)).2
   go_wp2
   change bodyPost _ _ _ _ _ ((w9.setCell ⟨w.heap.size + 1 + 1, 0, none⟩ (.slice none 0 0)).setCell ⟨w.heap.size + 1 + 1, 1, none⟩ (.slice none 0 0))
   generalize (w9.setCell ⟨w.heap.size + 1 + 1, 0, none⟩ (.slice none 0 0)).setCell ⟨w.heap.size + 1 + 1, 1, none⟩ (.slice none 0 0) = wf at HXr HBr2 ⊢
   obtain ⟨q0, q1⟩ := pair_cells HXr.out
   have hsf := HBr2.out.size
   exact bodyPost_ret (v := .tuple #[.agg #[.slice none 0 0, .slice none 0 0], .bool false]) (by simp [results, Try.results17, go_sem, q0, q1]) rfl ⟨none, 0, none, 0, w.heap.size, by rw [HF.out]; rfl, by rw [HF.out]; exact own_nil _ _ _ _, by rw [HF.out]; exact own_none _ _ _ _, Nat.le_refl _, hsf, HBr2.out, by rw [HF.out]; exact caps_nil⟩
  obtain ⟨u, rfl⟩ : ∃ u, y = x.with u := ⟨_, same_yes hsm⟩
  have hlk2 : (Instr.lookup 91 (.map (some sb)) (.agg #[.int .i64 x.dev, .int .i64 x.seq]) true).run Try.prog w6 = .ok (.tuple #[.agg #[.int .i64 x.dev, .int .i64 x.seq, .int .i64 x.stamp, .int .i64 x.kind, .string x.item, .int .i64 x.qty, .int .i64 x.level, .int .i64 u], .bool true]) w6 := hlk
  have HE := Lib.hid (HKs.out (by rw [HOy.out, hsm]))
  clear hlk hsm HOy
  have HS6lt : Hid (sb < nb) := by show sb < nb; have := HS6s.out; omega
  go_upto_region 9 with fail
  have hb7 : Below w6.heap.size w6 (w6.alloc (.cells #[.int .i64 x.dev, .int .i64 x.seq, .int .i64 x.stamp, .int .i64 x.kind, .string x.item, .int .i64 x.qty, .int .i64 x.level, .int .i64 u] 77)) := bl
  have HZ7 := Lib.hid (boxAt (Below.refl _ (w6.alloc (.cells #[.int .i64 x.dev, .int .i64 x.seq, .int .i64 x.stamp, .int .i64 x.kind, .string x.item, .int .i64 x.qty, .int .i64 x.level, .int .i64 u] 77))))
  have HX7 := Lib.hid ((hb7.block _ (by omega)).trans HX6.out)
  have HN7 := Lib.hid ((hb7.block _ (by omega)).trans HN6.out)
  have HS7 := Lib.hid (HS6.out.below hb7)
  have HB7 := Lib.hid (HB6.out.trans (hb7.mono (by omega)))
  generalize w6.alloc (.cells #[.int .i64 x.dev, .int .i64 x.seq, .int .i64 x.stamp, .int .i64 x.kind, .string x.item, .int .i64 x.qty, .int .i64 x.level, .int .i64 u] 77) = w7 at hb7 HZ7 HX7 HN7 HS7 HB7 ⊢
  have hnz := hb7.size
  have hnzx := lt_of_row HZ7.out
  generalize w6.heap.size = nz at HZ7 hnz hnzx hs6 ⊢
  clear hb7 HX6 HN6 HS6 HB6 hlk2 n0 n1
  obtain ⟨e0, e1, e2, e3, e4, e5, e6, e7⟩ := op_cells HX7.out
  obtain ⟨g0, g1, g2, g3, g4, g5, g6, g7⟩ := op_cells HZ7.out
  go_wp2_with fail
  refine (joinedYes x u w7).mono ?_
  rintro e w8 ⟨rfl, hb8⟩
  have HX8 := Lib.hid ((hb8.block _ (by omega)).trans HX7.out)
  have HN8 := Lib.hid ((hb8.block _ (by omega)).trans HN7.out)
  have HS8 := Lib.hid (HS7.out.below hb8)
  have HB8 := Lib.hid (HB7.out.trans (hb8.mono (by omega)))
  have hs8 := hb8.size
  clear hb8 e0 e1 e2 e3 e4 e5 e6 e7 g0 g1 g2 g3 g4 g5 g6 g7 HX7 HZ7 HS7 HN7 HB7
  have HJx : Hid (putF (mixF l m k) (x.with (max x.undos u)) = mixF l m (k + 1)) := by show _ = _; rw [HSt.out, HJy.out]; rfl
  generalize max x.undos u = mx at HJx ⊢
  go_upto_region 11 with fail
  have hb9 : Below w8.heap.size w8 (w8.alloc (.cells #[.int .i64 x.dev, .int .i64 x.seq, .int .i64 x.stamp, .int .i64 x.kind, .string x.item, .int .i64 x.qty, .int .i64 x.level, .int .i64 mx] 77)) := bl
  have HW9 := Lib.hid (boxAt (Below.refl _ (w8.alloc (.cells #[.int .i64 x.dev, .int .i64 x.seq, .int .i64 x.stamp, .int .i64 x.kind, .string x.item, .int .i64 x.qty, .int .i64 x.level, .int .i64 mx] 77))))
  have HX9 := Lib.hid ((hb9.block _ (by omega)).trans HX8.out)
  have HN9 := Lib.hid ((hb9.block _ (by omega)).trans HN8.out)
  have HS9 := Lib.hid (HS8.out.below hb9)
  have HB9 := Lib.hid (HB8.out.trans (hb9.mono (by omega)))
  generalize w8.alloc (.cells #[.int .i64 x.dev, .int .i64 x.seq, .int .i64 x.stamp, .int .i64 x.kind, .string x.item, .int .i64 x.qty, .int .i64 x.level, .int .i64 mx] 77) = w10 at hb9 HW9 HX9 HN9 HS9 HB9 ⊢
  clear hb9 HX8 HN8 HS8 HB8
  have hsbn : sb ≠ nb := by have := HS6lt.out; omega
  obtain ⟨e0, e1, e2, e3, e4, e5, e6, e7⟩ := op_cells HX9.out
  obtain ⟨g0, g1, g2, g3, g4, g5, g6, g7⟩ := op_cells HW9.out
  obtain ⟨f0, f1, f2, f3, f4, f5, f6, f7⟩ := op_frozen HX9.out
  have HXs := Lib.hid (setOp_same (.int .i64 x.dev) (.int .i64 x.seq) (.int .i64 x.stamp) (.int .i64 x.kind) (.string x.item) (.int .i64 x.qty) (.int .i64 x.level) (.int .i64 mx) HX9.out)
  have HNs : Hid ((setOp w10 nb (.int .i64 x.dev) (.int .i64 x.seq) (.int .i64 x.stamp) (.int .i64 x.kind) (.string x.item) (.int .i64 x.qty) (.int .i64 x.level) (.int .i64 mx)).heap[nn]? = some (.cells #[.int .i64 x.dev, .int .i64 x.seq] 94 (0, 0))) := (setOp_other _ _ _ _ _ _ _ _ (by omega)).trans HN9.out
  have HSs : Hid (SetIs (setOp w10 nb (.int .i64 x.dev) (.int .i64 x.seq) (.int .i64 x.stamp) (.int .i64 x.kind) (.string x.item) (.int .i64 x.qty) (.int .i64 x.level) (.int .i64 mx)) sb (no + k) (mixF l m k)) := HS9.out.kept (setOp_other _ _ _ _ _ _ _ _ hsbn)
  have HBs : Hid (Below w2.heap.size w2 (setOp w10 nb (.int .i64 x.dev) (.int .i64 x.seq) (.int .i64 x.stamp) (.int .i64 x.kind) (.string x.item) (.int .i64 x.qty) (.int .i64 x.level) (.int .i64 mx))) := setOp_below _ _ _ _ _ _ _ _ HB9.out (by omega)
  go_upto_region 14 with fail
  clear e0 e1 e2 e3 e4 e5 e6 e7 g0 g1 g2 g3 g4 g5 g6 g7 f0 f1 f2 f3 f4 f5 f6 f7 HX9 HN9 HS9 HB9 HW9
  change Code.wp _ _ _ _ (setOp w10 nb (.int .i64 x.dev) (.int .i64 x.seq) (.int .i64 x.stamp) (.int .i64 x.kind) (.string x.item) (.int .i64 x.qty) (.int .i64 x.level) (.int .i64 mx))
  generalize setOp w10 nb (.int .i64 x.dev) (.int .i64 x.seq) (.int .i64 x.stamp) (.int .i64 x.kind) (.string x.item) (.int .i64 x.qty) (.int .i64 x.level) (.int .i64 mx) = w11 at HXs HNs HSs HBs ⊢
  obtain ⟨e0, e1, e2, e3, e4, e5, e6, e7⟩ := op_cells HXs.out
  obtain ⟨n0, n1⟩ := pair_cells HNs.out
  obtain ⟨w9, hrun0, hset, hgr⟩ := HSs.out.put (by unfold maxLen; omega) (x.with mx) (by exact HFk.out)
  have hrun : (Instr.mapUpdate 91 (.map (some sb)) (.agg #[.int .i64 x.dev, .int .i64 x.seq]) (.agg #[.int .i64 x.dev, .int .i64 x.seq, .int .i64 x.stamp, .int .i64 x.kind, .string x.item, .int .i64 x.qty, .int .i64 x.level, .int .i64 mx])).run Try.prog w11 = .ok () w9 := hrun0
  have HB9 : Hid (Below w2.heap.size w2 w9) := HBs.out.grown hgr HBs.out.size (fun j hj => by cases hj; exact hsb)
  have HSet : Hid (SetIs w9 sb (no + (k + 1)) (mixF l m (k + 1))) := by show SetIs _ _ _ _; rw [← HJx.out]; exact hset
  clear hrun0 hset hgr
  go_wp2
  go_roundw
  case rel => exact ⟨k + 1, by omega, by go_num, HSet, HE, HB9⟩
  case measure => simp [intOf]; omega
end Go.Proofs.Ytdbdmfaphdjdpaa

namespace Go.Proofs.Ytdbdmfaphdjdpaa
set_option maxRecDepth 100000
open Go.RowKit

/-- Has the list not this operation, or undone fewer times? -/
def delB (m : List OpV) (o : OpV) : Bool := !((List.range m.length).any fun i => decide ((atOp m i).dev = o.dev) && (decide ((atOp m i).seq = o.seq) && decide (o.undos ≤ (atOp m i).undos)))
def delVs (xs : List Int) (ok : Bool) : List Int := if ok = true then xs else []
def delOs (l m : List OpV) (ok : Bool) : List OpV := if ok = true then l.filter (delB m) else []
theorem delB_at {l : List OpV} (h : incB l = true) {o : OpV} {i : Nat} (hi : i < l.length) (e : eqN l i o.dev o.seq) : delB l o = decide ((atOp l i).undos < o.undos) := by
 have : ((List.range l.length).any fun i => decide ((atOp l i).dev = o.dev) && (decide ((atOp l i).seq = o.seq) && decide (o.undos ≤ (atOp l i).undos))) = decide (o.undos ≤ (atOp l i).undos) := by
  rw [Bool.eq_iff_iff, List.any_eq_true]
  constructor
  ·rintro ⟨j, hj, hp⟩
   rw [List.mem_range] at hj
   simp only [Bool.and_eq_true, decide_eq_true_eq] at hp
   have : j = i := inc_uniq h hj hi ⟨hp.1, hp.2.1⟩ e
   subst this
   exact decide_eq_true hp.2.2
  ·intro hp
   refine ⟨i, by rw [List.mem_range]; exact hi, ?_⟩
   unfold eqN at e
   rw [decide_eq_true e.1, decide_eq_true e.2, hp]
   rfl
 unfold delB
 rw [this]
 by_cases hu : o.undos ≤ (atOp l i).undos
 ·rw [decide_eq_true hu, decide_eq_false (by omega)]; rfl
 ·rw [decide_eq_false hu, decide_eq_true (by omega)]; rfl
theorem delB_none {l : List OpV} {o : OpV} (h : ∀ j, j < l.length → ¬ eqN l j o.dev o.seq) : delB l o = true := by
 have : ((List.range l.length).any fun i => decide ((atOp l i).dev = o.dev) && (decide ((atOp l i).seq = o.seq) && decide (o.undos ≤ (atOp l i).undos))) = false := by
  rw [List.any_eq_false]
  intro j hj
  rw [List.mem_range] at hj
  have := h j hj
  unfold eqN at this
  simp only [Bool.and_eq_true, decide_eq_true_eq, not_and]
  intro a b
  exact absurd ⟨a, b⟩ this
 unfold delB
 rw [this]
 rfl
theorem delVs_len {xs : List Int} {N : Nat} (h : xs.length ≤ N) (R : Bool) : (delVs xs R).length ≤ N := by
 unfold delVs
 split
 ·exact h
 ·exact Nat.zero_le _
theorem delOs_len {l m : List OpV} {N : Nat} (h : l.length ≤ N) (R : Bool) : (delOs l m R).length ≤ N := by
 unfold delOs
 split
 ·exact Nat.le_trans (List.length_filter_le _ _) h
 ·exact Nat.zero_le _
theorem filt_items2 {q : OpV → Bool} {m : List OpV} {N : Nat} (h : ∀ i, i < m.length → (atOp m i).item.size ≤ N) : ∀ i, i < (m.filter q).length → ((m.filter q).getD i OpV.zero).item.size ≤ N := fun i hi => by
 rw [List.getD_eq_getElem?_getD, List.getElem?_eq_getElem hi]
 have hm : (m.filter q)[i] ∈ m := (List.mem_filter.1 (List.getElem_mem hi)).1
 obtain ⟨j, hj, e⟩ := List.mem_iff_getElem.1 hm
 have := h j hj
 unfold atOp at this
 rw [List.getD_eq_getElem?_getD, List.getElem?_eq_getElem hj] at this
 rw [← e]
 exact this

theorem cloneIntsAt (w : World) (B g off n cap : Nat) (xs : List Int) (h : Ints w B (some ⟨g, off, none⟩) n xs) (hn : 0 < n) (hl : n ≤ 1048576) :
  Calls Try.prog 110 #[.slice (some ⟨g, off, none⟩) n cap] w (OwnPost xs w) := by
 obtain ⟨i0, hi, hz0, hz1, hz2⟩ := info_parts Try.infoI64
 have hnil := fun w => Lib.run_eql_slice_nil (P := Try.prog) w 22 2 (some ⟨g, off, none⟩) n cap 0 0 Try.underlying22
 have hown : (w.alloc (.cells #[] 2)).ownsRow w.heap.size 2 1 (.slice (some ⟨w.heap.size, 0, none⟩) 0 0) 0 [] := World.ownsRow_made w #[] 0 (Nat.le_refl _) (by unfold maxLen; omega) rfl
 have hL := Lib.hid h.1
 have H := Lib.hid h
 clear h
 go_enter Try.func110, Try.ntmps110
 go_wp2_with (at_builtin; refine wpList_append_own _ rfl _ _ 22 rfl w.heap.size 2 i0 (.int .i64 0) 1 8 Try.underlying22 hi hz0 hz1 hz2 rfl (by decide) _ _ _ rfl hown ⟨g, off, none⟩ n cap (xs.map (Value.int .i64)) rfl ?c0 ?c1 ?c2 ?c3 ?c4 ?c5 ?_)
 case c0 => rw [List.length_map, hL.out, Nat.mul_one]
 case c1 =>
  intro j u hj
  have hjl : j < xs.length := by
   rcases Nat.lt_or_ge j xs.length with h' | h'
   ·exact h'
   ·rw [List.getElem?_eq_none (by simpa using h')] at hj; cases hj
  obtain ⟨b, off', e, hb, hc⟩ := H.out.2 j (by rw [← hL.out]; exact hjl)
  cases e
  have hlt := block_lt_of_cell hc
  rw [List.getElem?_map, List.getElem?_eq_getElem hjl] at hj
  cases hj
  rw [add_at, World.cell?_alloc_lt w _ _ hlt, hc, List.getD_eq_getElem?_getD, List.getElem?_eq_getElem hjl]
  rfl
 case c2 => exact ints_oneCell _ _
 case c3 => unfold maxLen; omega
 case c4 => omega
 case c5 => simp
 intro v' w1 hown' hgrow _
 have hb1 := ((Below.refl w.heap.size w).alloc (Nat.le_refl _) _).grown hgrow (by simp) (fun j hj => (hown.lt j hj).1)
 obtain ⟨g', cap', hv, _, _⟩ := hown'.form (by omega)
 subst hv
 have HO := Lib.hid (own_of_row (hi := w1.heap.size) (by simpa using hown') (Nat.le_refl _))
 clear hown' hgrow hown
 go_wp2
 go_ret
 exact ⟨some ⟨g', 0, none⟩, cap', by rw [hL.out]; rfl, by rw [hL.out]; exact HO.out, hb1⟩

end Go.Proofs.Ytdbdmfaphdjdpaa

/- The walk of impl.DeltaOf. -/
namespace Go.Proofs.Ytdbdmfaphdjdpaa
set_option maxRecDepth 100000
open Go.RowKit

end Go.Proofs.Ytdbdmfaphdjdpaa

/- The walks of spec.l7Delta and spec.DeltaOf. -/
namespace Go.Proofs.Ytdbdmfaphdjdpaa
set_option maxRecDepth 100000
open Go.RowKit

def OutD (ob vb zc : Nat) (L : List OpV) (w2 wr : World) : Prop :=
 ∃ oa oc, wr.heap[ob]? = some (.cells #[.slice (some ⟨vb, 0, none⟩) 4 zc, .slice oa L.length oc] 29 (0, 0)) ∧ wr.ownsRow (ob + 1) 77 8 (.slice oa L.length oc) L.length (opCells L) ∧ Below ob w2 wr
theorem OutD.drew {ob vb zc : Nat} {L : List OpV} {w2 wr : World} (h : OutD ob vb zc L w2 wr) : OutD ob vb zc L w2 wr.drew := by
 obtain ⟨oa, oc, h1, h2, h3⟩ := h
 exact ⟨oa, oc, h1, h2.drew, ⟨h3.os, h3.tape, h3.output, h3.size, h3.block⟩⟩
set_option linter.unusedSimpArgs false in
set_option maxHeartbeats 80000000 in
theorem l7Delta (w : World) (B : Nat) (av ao bv bo : Option Addr) (nv cv no co mv dv mo eo : Nat) (xs : List Int) (l : List OpV) (ys : List Int) (m : List OpV) (hx : Ints w B av nv xs) (h : Ops w B ao no l) (g : Ops w B bo mo m) (hB : B ≤ w.heap.size) (hn : no ≤ 1048576) (hn2 : mo ≤ 1048576) (hca : cartB xs l = true) (hcb : cartB ys m = true) :
  Calls Try.prog 74 #[.agg #[.slice av nv cv, .slice ao no co], .agg #[.slice bv mv dv, .slice bo mo eo]] w fun e w' => ∃ va vc oa oc, e = .returned (.agg #[.slice va xs.length vc, .slice oa (l.filter (delB m)).length oc]) ∧ Own w' w.heap.size w'.heap.size va xs.length xs ∧ OwnOps w' w.heap.size w'.heap.size oa (l.filter (delB m)).length (l.filter (delB m)) ∧ Below w.heap.size w w' ∧ Caps oa (l.filter (delB m)).length oc := by
 obtain ⟨i0, hi, hz0, hz1, hz2⟩ := info_parts Try.infoOp
 obtain ⟨i1, hi1, hy0, hy1, hy2⟩ := info_parts Try.infoI64
 have hT := TriF.mk0 w #[.slice av nv cv, .slice ao no co] #[.slice bv mv dv, .slice bo mo eo] #[.slice none 0 0, .slice none 0 0] 29 29 29
 have HV := Lib.hid (hx.below hT.bel hB)
 have HO := Lib.hid (h.below hT.bel hB)
 have HG := Lib.hid (g.below hT.bel hB)
 have HT := Lib.hid hT
 have HL := Lib.hid h.1
 have HLx := Lib.hid hx.1
 have HLm := Lib.hid g.1
 have hx4 : xs.length = 4 := (vec_at (cart_true hca).1 (d := 0) (by omega)).2.2
 obtain rfl : nv = 4 := by rw [← hx.1]; exact hx4
 have HX4 := Lib.hid hx4
 have HInc := Lib.hid (cart_inc hcb)
 have hBw := hB
 obtain ⟨gb, go, rfl, -, -⟩ := hx.2 0 (by omega)
 clear hx h g hT hB hca hcb hx4
 go_enter Try.func74, Try.ntmps74
 go_upto_region 1 with fail
 generalize ((w.alloc (.cells #[.slice (some ⟨gb, go, none⟩) 4 cv, .slice ao no co] 29)).alloc (.cells #[.slice bv mv dv, .slice bo mo eo] 29)).alloc (.cells #[.slice none 0 0, .slice none 0 0] 29) = w0 at HV HO HG HT ⊢
 have hsz0 := HT.out.bel.size
 have hsz1 := lt_of_row HT.out.res
 have hown : (w0.alloc (.cells #[] 2)).ownsRow w0.heap.size 2 1 (.slice (some ⟨w0.heap.size, 0, none⟩) 0 0) 0 [] := World.ownsRow_made w0 #[] 0 (Nat.le_refl _) (by unfold maxLen; omega) rfl
 have hba : Below w0.heap.size w0 (w0.alloc (.cells #[] 2)) := (Below.refl _ w0).alloc (Nat.le_refl _) _
 obtain ⟨a0, a1⟩ := pair_cells ((hba.block _ (by omega)).trans HT.out.fst)
 go_wp2_with (at_builtin; refine wpList_append_own _ rfl _ _ 22 rfl w0.heap.size 2 i1 (.int .i64 0) 1 8 Try.underlying22 hi1 hy0 hy1 hy2 rfl (by decide) _ _ _ rfl hown ⟨gb, go, none⟩ 4 cv (xs.map (Value.int .i64)) rfl ?c0 ?c1 ?c2 ?c3 ?c4 ?c5 ?_)
 case c0 => rw [List.length_map, HLx.out]
 case c1 =>
  intro j u hj
  have hjl : j < xs.length := by
   rcases Nat.lt_or_ge j xs.length with h' | h'
   ·exact h'
   ·rw [List.getElem?_eq_none (by simpa using h')] at hj; cases hj
  obtain ⟨b, off', e, hb, hc⟩ := HV.out.2 j (by rw [← HLx.out]; exact hjl)
  cases e
  have hlt := block_lt_of_cell hc
  rw [List.getElem?_map, List.getElem?_eq_getElem hjl] at hj
  cases hj
  rw [add_at, World.cell?_alloc_lt w0 _ _ hlt, hc, List.getD_eq_getElem?_getD, List.getElem?_eq_getElem hjl]
  rfl
 case c2 => exact ints_oneCell _ _
 case c3 => unfold maxLen; omega
 case c4 => omega
 case c5 => simp
 intro v' w1 hown' hgrow _
 have hb1 := hba.grown hgrow (by simp) (fun j hj => (hown.lt j hj).1)
 obtain ⟨vb, zc, hv, _, _⟩ := hown'.form (by omega)
 subst hv
 have HZ1 := Lib.hid (own_of_row (hi := w1.heap.size) (by simpa using hown') (Nat.le_refl _))
 have HO1 := Lib.hid (HO.out.below hb1 (by omega))
 have HG1 := Lib.hid (HG.out.below hb1 (by omega))
 have HT1 := Lib.hid (HT.out.next hb1)
 have hs1 := hb1.size
 clear hown' hgrow hown hb1 hba HV HO HG HT a0 a1
 go_upto_region 2 with fail
 have hb2 : Below w1.heap.size w1 (w1.alloc (.cells #[.slice (some ⟨vb, 0, none⟩) 4 zc, .slice none 0 0] 29)) := bl
 have HX2 := Lib.hid (boxAt (Below.refl _ (w1.alloc (.cells #[.slice (some ⟨vb, 0, none⟩) 4 zc, .slice none 0 0] 29))))
 have HO2 := Lib.hid (HO1.out.below hb2 (by omega))
 have HG2 := Lib.hid (HG1.out.below hb2 (by omega))
 have HT2 := Lib.hid (HT1.out.next hb2)
 have HZ2 := Lib.hid (HZ1.out.below hb2 (Nat.le_refl _))
 generalize w1.alloc (.cells #[.slice (some ⟨vb, 0, none⟩) 4 zc, .slice none 0 0] 29) = w2 at hb2 HX2 HO2 HG2 HT2 HZ2 ⊢
 have hs2 := hb2.size
 have hx2 := lt_of_row HX2.out
 generalize hob : w1.heap.size = ob at HX2 hs2 hx2 hs1 HZ2 ⊢
 clear hb2 HO1 HG1 HT1 HZ1 hob
 have HOut : Hid (OutD ob vb zc ((l.take 0).filter (delB m)) w2 w2) := ⟨none, 0, HX2.out, ⟨rfl, .inl ⟨rfl, rfl⟩⟩, Below.refl _ _⟩
 go_wp2
 go_loopw [6] (fun i wr => ∃ k : Nat, k ≤ no ∧ i = .int .i64 (k : Int) ∧ Hid (OutD ob vb zc ((l.take k).filter (delB m)) w2 wr)) (fun i _ => no - (intOf i).toNat)
 case atStart => exact ⟨0, Nat.zero_le _, rfl, HOut⟩
 case round =>
  obtain ⟨k, hk, rfl, HOu⟩ := hrel
  clear HOut HX2
  obtain ⟨oa, oc, hbox, hrow, hbel⟩ := HOu.out
  have HOB := Lib.hid hbox
  have HROW := Lib.hid hrow
  have HBL := Lib.hid hbel
  have hobl := lt_of_row hbox
  have HTr := Lib.hid (HT2.out.low hbel (by omega))
  have HOr := Lib.hid (HO2.out.below hbel (by omega))
  have HGr := Lib.hid (HG2.out.below hbel (by omega))
  have hsr := hbel.size
  obtain ⟨a0, a1⟩ := pair_cells HTr.out.fst
  obtain ⟨b0, b1⟩ := pair_cells HTr.out.snd
  by_cases hlt : k < no
  rotate_left
  ·obtain rfl : no = k := by omega
   have HTk : Hid (l.take no = l) := by show _ = _; rw [← HL.out]; exact List.take_length
   rw [HTk.out] at HOB HROW
   have HZr := Lib.hid (HZ2.out.below hbel (Nat.le_refl _))
   clear hbox hrow hbel HOu
   obtain ⟨L, hLq⟩ : ∃ L, l.filter (delB m) = L := ⟨_, rfl⟩
   rw [hLq] at HOB HROW
   have HLq := Lib.hid hLq
   clear hLq
   have HP : Hid (OwnOps wr (ob + 1) wr.heap.size oa L.length L) := own_of_cells HROW.out (Nat.le_refl _)
   obtain ⟨x0, x1⟩ := pair_cells HOB.out
   obtain ⟨r0, r1⟩ := pair_cells HTr.out.res
   obtain ⟨fz0, fz1⟩ := pair_frozen HTr.out.res
   have HXr := Lib.hid (HTr.out.set2S (.slice (some ⟨vb, 0, none⟩) 4 zc) (.slice oa L.length oc)).1
   have HBr2 := Lib.hid (HTr.out.set2S (.slice (some ⟨vb, 0, none⟩) 4 zc) (.slice oa L.length oc)).2
   have HsM : Hid (wr.heap.size = ((wr.setCell ⟨w.heap.size + 1 + 1, 0, none⟩ (.slice (some ⟨vb, 0, none⟩) 4 zc)).setCell ⟨w.heap.size + 1 + 1, 1, none⟩ (.slice oa L.length oc)).heap.size) := (pair_size _ _ _ _).symm
   have HZ6 : Hid (Own ((wr.setCell ⟨w.heap.size + 1 + 1, 0, none⟩ (.slice (some ⟨vb, 0, none⟩) 4 zc)).setCell ⟨w.heap.size + 1 + 1, 1, none⟩ (.slice oa L.length oc)) w0.heap.size ob (some ⟨vb, 0, none⟩) 4 xs) := HZr.out.kept fun j h1 h2 => pair_other _ _ (by omega)
   have HO6 : Hid (OwnOps ((wr.setCell ⟨w.heap.size + 1 + 1, 0, none⟩ (.slice (some ⟨vb, 0, none⟩) 4 zc)).setCell ⟨w.heap.size + 1 + 1, 1, none⟩ (.slice oa L.length oc)) (ob + 1) wr.heap.size oa L.length L) := HP.out.kept fun j h1 h2 => pair_other _ _ (by omega)
   have HCp := Lib.hid (caps_of_row HROW.out)
   clear HROW HOB HBL
   go_wp2
   change bodyPost _ _ _ _ _ ((wr.setCell ⟨w.heap.size + 1 + 1, 0, none⟩ (.slice (some ⟨vb, 0, none⟩) 4 zc)).setCell ⟨w.heap.size + 1 + 1, 1, none⟩ (.slice oa L.length oc))
   generalize (wr.setCell ⟨w.heap.size + 1 + 1, 0, none⟩ (.slice (some ⟨vb, 0, none⟩) 4 zc)).setCell ⟨w.heap.size + 1 + 1, 1, none⟩ (.slice oa L.length oc) = wf at HXr HBr2 HZ6 HO6 HsM ⊢
   obtain ⟨q0, q1⟩ := pair_cells HXr.out
   have hsm := HsM.out
   exact bodyPost_ret (v := .agg #[.slice (some ⟨vb, 0, none⟩) 4 zc, .slice oa L.length oc]) (by simp [results, Try.results74, go_sem, q0, q1]) rfl ⟨some ⟨vb, 0, none⟩, zc, oa, oc, by rw [HX4.out, HLq.out], by rw [HX4.out]; exact HZ6.out.more (by omega) (by omega), by rw [HLq.out]; exact HO6.out.more (by omega) (by omega), HBr2.out, by rw [HLq.out]; exact HCp.out⟩
  clear hbox hrow hbel HOu
  skip
  have HSt := Lib.hid (filt_step (q := delB m) (l := l) (k := k) (by rw [HL.out]; exact hlt))
  obtain ⟨b, off, rfl, hb, ho⟩ := HOr.out.2 k hlt
  have HOk : Hid (OpAt wr b (off + k * 8) (atOp l k)) := ho
  have hlen : ((l.take k).filter (delB m)).length ≤ 1048576 := by
   have := List.length_filter_le (delB m) (l.take k)
   have := List.length_take_le k l
   omega
  have HTn : Hid ((∀ j, j < m.length → ¬ eqN m j (atOp l k).dev (atOp l k).seq) → delB m (atOp l k) = true) := fun h => delB_none h
  have HTy : Hid (∀ i, i < m.length → eqN m i (atOp l k).dev (atOp l k).seq → delB m (atOp l k) = decide ((atOp m i).undos < (atOp l k).undos)) := fun i hi e => delB_at HInc.out hi e
  clear ho HOr
  generalize (l.take k).filter (delB m) = L at HOB HROW HSt hlen
  generalize atOp l k = x at HOk HSt HTn HTy
  obtain ⟨d0, d1, d2, d3, d4, d5, d6, d7⟩ := HOk.out
  have hki : (k : Int) < (no : Int) := by omega
  have hS : wr.drew.cell? ⟨w.heap.size, 1, none⟩ = some (.slice (some ⟨b, off, none⟩) no co) ∧ wr.drew.cell? ⟨w.heap.size + 1, 1, none⟩ = some (.slice bo mo eo) ∧ wr.drew.cell? ⟨b, off + k * 8, none⟩ = some (.int .i64 x.dev) ∧ wr.drew.cell? ⟨b, off + k * 8 + 1, none⟩ = some (.int .i64 x.seq) := ⟨a1, b1, d0, d1⟩
  go_wp2_with fail
  refine wp_region_held_drew (S := fun w' => w'.cell? ⟨w.heap.size, 1, none⟩ = some (.slice (some ⟨b, off, none⟩) no co) ∧ w'.cell? ⟨w.heap.size + 1, 1, none⟩ = some (.slice bo mo eo) ∧ w'.cell? ⟨b, off + k * 8, none⟩ = some (.int .i64 x.dev) ∧ w'.cell? ⟨b, off + k * 8 + 1, none⟩ = some (.int .i64 x.seq)) (by kernel_rfl) hS (fun hHeld => ?_)
  refine tk 0 ⟨some 20, .fieldAddr 29 (.tmp 3) 1, 0, "l07_deltas.go:25", #[], none⟩ ?_
  (try simp only [Act.put, u1, u2, u3])
  refine tk 1 ⟨some 21, .load 27 (.tmp 20), 27, "l07_deltas.go:25", #[⟨0, .data⟩], none⟩ ?_
  (try simp only [Act.put, u1, u2, u3])
  refine tk 2 ⟨some 22, .fieldAddr 29 (.tmp 2) 1, 0, "l07_deltas.go:25", #[], none⟩ ?_
  (try simp only [Act.put, u1, u2, u3])
  refine tk 3 ⟨some 23, .load 27 (.tmp 22), 27, "l07_deltas.go:25", #[⟨2, .data⟩], none⟩ ?_
  (try simp only [Act.put, u1, u2, u3])
  refine tk 4 ⟨some 24, .move (.tmp 6), 3, "l07_deltas.go:25", #[], none⟩ ?_
  (try simp only [Act.put, u1, u2, u3])
  refine tk 5 ⟨some 25, .indexAddr 27 (.tmp 23) (.tmp 24), 0, "l07_deltas.go:25", #[⟨3, .data⟩, ⟨4, .data⟩], none⟩ ?_
  (try simp only [Act.put, u1, u2, u3])
  refine tk 6 ⟨some 26, .fieldAddr 77 (.tmp 25) 0, 0, "l07_deltas.go:25", #[⟨5, .data⟩], none⟩ ?_
  (try simp only [Act.put, u1, u2, u3])
  refine tk 7 ⟨some 27, .load 2 (.tmp 26), 2, "l07_deltas.go:25", #[⟨6, .data⟩], none⟩ ?_
  (try simp only [Act.put, u1, u2, u3])
  refine tk 8 ⟨some 28, .fieldAddr 29 (.tmp 2) 1, 0, "l07_deltas.go:25", #[], none⟩ ?_
  (try simp only [Act.put, u1, u2, u3])
  refine tk 9 ⟨some 29, .load 27 (.tmp 28), 27, "l07_deltas.go:25", #[⟨8, .data⟩], none⟩ ?_
  (try simp only [Act.put, u1, u2, u3])
  refine tk 10 ⟨some 30, .move (.tmp 6), 3, "l07_deltas.go:25", #[], none⟩ ?_
  (try simp only [Act.put, u1, u2, u3])
  refine tk 11 ⟨some 31, .indexAddr 27 (.tmp 29) (.tmp 30), 0, "l07_deltas.go:25", #[⟨9, .data⟩, ⟨10, .data⟩], none⟩ ?_
  (try simp only [Act.put, u1, u2, u3])
  refine tk 12 ⟨some 32, .fieldAddr 77 (.tmp 31) 1, 0, "l07_deltas.go:25", #[⟨11, .data⟩], none⟩ ?_
  (try simp only [Act.put, u1, u2, u3])
  refine tk 13 ⟨some 33, .load 2 (.tmp 32), 2, "l07_deltas.go:25", #[⟨12, .data⟩], none⟩ ?_
  (try simp only [Act.put, u1, u2, u3])
  refine rk 14 rfl (fun K hK => ?_)
  go_simp
  go_at_call 102
  refine (l4At wr.drew B bo mo eo m x.dev x.seq (HGr.out.kept fun _ _ => rfl) hn2).mono ?_
  rintro e w3 ⟨hres, rfl⟩
  obtain ⟨kk, HK, rfl⟩ : ∃ kk : Int, Hid ((∃ i : Nat, i < mo ∧ eqN m i x.dev x.seq ∧ kk = (i : Int)) ∨ ((∀ j, j < mo → ¬ eqN m j x.dev x.seq) ∧ kk = -1)) ∧ e = .returned (.int .i64 kk) := by
   rcases hres with ⟨i, q1, q2, rfl⟩ | ⟨q1, rfl⟩
   ·exact ⟨_, .inl ⟨i, q1, q2, rfl⟩, rfl⟩
   ·exact ⟨_, .inr ⟨q1, rfl⟩, rfl⟩
  refine hK.out _ _ hS (fun hHeld2 => ?_)
  clear hK K
  (try simp only [Act.put, u1, u2, u3])
  refine tk 15 ⟨some 7, .assign (.tmp 34), 3, "l07_deltas.go:25", #[⟨14, .data⟩, ⟨14, .chain⟩, ⟨0, .phase⟩, ⟨1, .phase⟩, ⟨2, .phase⟩, ⟨3, .phase⟩, ⟨4, .phase⟩, ⟨5, .phase⟩, ⟨6, .phase⟩, ⟨7, .phase⟩, ⟨8, .phase⟩, ⟨9, .phase⟩, ⟨10, .phase⟩, ⟨11, .phase⟩, ⟨12, .phase⟩, ⟨13, .phase⟩, ⟨14, .phase⟩], none⟩ ?_
  (try simp only [Act.put, u1, u2, u3])
  refine wpAnyH_done (by kernel_rfl) ?_ _
  clear hHeld2 hres a0 b0 HTr hsr
  have HOBd : Hid (wr.drew.heap[ob]? = some (.cells #[.slice (some ⟨vb, 0, none⟩) 4 zc, .slice oa L.length oc] 29 (0, 0))) := HOB.out
  have HROWd : Hid (wr.drew.ownsRow (ob + 1) 77 8 (.slice oa L.length oc) L.length (opCells L)) := HROW.out.drew
  have HBLd : Hid (Below ob w2 wr.drew) := ⟨HBL.out.os, HBL.out.tape, HBL.out.output, HBL.out.size, HBL.out.block⟩
  have HOkd : Hid (OpAt wr.drew b (off + k * 8) x) := HOk.out
  have hobd : ob < wr.drew.heap.size := hobl
  have HCd : Hid (wr.drew.cell? ⟨w.heap.size, 1, none⟩ = some (.slice (some ⟨b, off, none⟩) no co) ∧ wr.drew.cell? ⟨w.heap.size + 1, 1, none⟩ = some (.slice bo mo eo)) := ⟨a1, b1⟩
  have HGd : Hid (Ops wr.drew B bo mo m) := HGr.out.kept fun _ _ => rfl
  clear hS hHeld d0 d1 d2 d3 d4 d5 d6 d7 a1 b1 HOB HROW HBL HOk hobl HGr
  generalize wr.drew = y0 at HOBd HROWd HBLd HOkd hobd HCd HGd ⊢
  obtain ⟨a1, b1⟩ := HCd.out
  obtain ⟨d0, d1, d2, d3, d4, d5, d6, d7⟩ := HOkd.out
  have HOB := HOBd
  have HROW := HROWd
  have HBL := HBLd
  have HOk := HOkd
  have hobl := hobd
  have HGr := HGd
  clear HOBd HROWd HBLd HOkd hobd HCd HGd
  rcases HK.out with ⟨i, him, he, rfl⟩ | ⟨hnone, rfl⟩
  rotate_left
  ·have HE : Hid ((l.take (k + 1)).filter (delB m) = L ++ [x]) := by show _ = _; rw [HSt.out, HTn.out (by rw [HLm.out]; exact hnone)]; rfl
   clear hnone HK
   have hS : y0.drew.cell? ⟨w.heap.size, 1, none⟩ = some (.slice (some ⟨b, off, none⟩) no co) ∧ y0.drew.cell? ⟨w.heap.size + 1, 1, none⟩ = some (.slice bo mo eo) ∧ y0.drew.cell? ⟨b, off + k * 8, none⟩ = some (.int .i64 x.dev) ∧ y0.drew.cell? ⟨b, off + k * 8 + 1, none⟩ = some (.int .i64 x.seq) := ⟨a1, b1, d0, d1⟩
   go_wp2_with fail
   refine wp_region_held_drew (S := fun w' => w'.cell? ⟨w.heap.size, 1, none⟩ = some (.slice (some ⟨b, off, none⟩) no co) ∧ w'.cell? ⟨w.heap.size + 1, 1, none⟩ = some (.slice bo mo eo) ∧ w'.cell? ⟨b, off + k * 8, none⟩ = some (.int .i64 x.dev) ∧ w'.cell? ⟨b, off + k * 8 + 1, none⟩ = some (.int .i64 x.seq)) (by kernel_rfl) hS (fun hHeld => ?_)
   refine tk 0 ⟨some 35, .move (.tmp 7), 3, "l07_deltas.go:26", #[], none⟩ ?_
   (try simp only [Act.put, u1, u2, u3])
   refine tk 1 ⟨some 36, .binOp .lss 3 (.tmp 35) (.const (Value.int IntKind.i64 0)) 3, 4, "l07_deltas.go:26", #[⟨0, .data⟩], none⟩ ?_
   (try simp only [Act.put, u1, u2, u3])
   refine tk 2 ⟨some 37, .move (.tmp 36), 4, "l07_deltas.go:26", #[⟨1, .data⟩], none⟩ ?_
   (try simp only [Act.put, u1, u2, u3])
   refine sk 3 ⟨some 38, .fieldAddr 29 (.tmp 3) 1, 0, "l07_deltas.go:26", #[⟨2, .guard⟩], some (2, false)⟩ ?_
   (try simp only [Act.put, u1, u2, u3])
   refine sk 4 ⟨some 39, .load 27 (.tmp 38), 27, "l07_deltas.go:26", #[⟨3, .data⟩, ⟨2, .guard⟩], some (2, false)⟩ ?_
   (try simp only [Act.put, u1, u2, u3])
   refine sk 5 ⟨some 40, .move (.tmp 7), 3, "l07_deltas.go:26", #[⟨2, .guard⟩], some (2, false)⟩ ?_
   (try simp only [Act.put, u1, u2, u3])
   refine sk 6 ⟨some 41, .indexAddr 27 (.tmp 39) (.tmp 40), 0, "l07_deltas.go:26", #[⟨4, .data⟩, ⟨5, .data⟩, ⟨2, .guard⟩], some (2, false)⟩ ?_
   (try simp only [Act.put, u1, u2, u3])
   refine sk 7 ⟨some 42, .fieldAddr 77 (.tmp 41) 7, 0, "l07_deltas.go:26", #[⟨6, .data⟩, ⟨2, .guard⟩], some (2, false)⟩ ?_
   (try simp only [Act.put, u1, u2, u3])
   refine sk 8 ⟨some 43, .load 2 (.tmp 42), 2, "l07_deltas.go:26", #[⟨7, .data⟩, ⟨2, .guard⟩], some (2, false)⟩ ?_
   (try simp only [Act.put, u1, u2, u3])
   refine sk 9 ⟨some 44, .fieldAddr 29 (.tmp 2) 1, 0, "l07_deltas.go:26", #[⟨2, .guard⟩], some (2, false)⟩ ?_
   (try simp only [Act.put, u1, u2, u3])
   refine sk 10 ⟨some 45, .load 27 (.tmp 44), 27, "l07_deltas.go:26", #[⟨9, .data⟩, ⟨2, .guard⟩], some (2, false)⟩ ?_
   (try simp only [Act.put, u1, u2, u3])
   refine sk 11 ⟨some 46, .move (.tmp 6), 3, "l07_deltas.go:26", #[⟨2, .guard⟩], some (2, false)⟩ ?_
   (try simp only [Act.put, u1, u2, u3])
   refine sk 12 ⟨some 47, .indexAddr 27 (.tmp 45) (.tmp 46), 0, "l07_deltas.go:26", #[⟨10, .data⟩, ⟨11, .data⟩, ⟨2, .guard⟩], some (2, false)⟩ ?_
   (try simp only [Act.put, u1, u2, u3])
   refine sk 13 ⟨some 48, .fieldAddr 77 (.tmp 47) 7, 0, "l07_deltas.go:26", #[⟨12, .data⟩, ⟨2, .guard⟩], some (2, false)⟩ ?_
   (try simp only [Act.put, u1, u2, u3])
   refine sk 14 ⟨some 49, .load 2 (.tmp 48), 2, "l07_deltas.go:26", #[⟨13, .data⟩, ⟨2, .guard⟩], some (2, false)⟩ ?_
   (try simp only [Act.put, u1, u2, u3])
   refine sk 15 ⟨some 50, .binOp .lss 2 (.tmp 43) (.tmp 49) 2, 4, "l07_deltas.go:26", #[⟨8, .data⟩, ⟨14, .data⟩, ⟨2, .guard⟩], some (2, false)⟩ ?_
   (try simp only [Act.put, u1, u2, u3])
   refine tk 16 ⟨some 51, .pick (.tmp 37) (.const (Value.bool true)) (.tmp 50), 4, "l07_deltas.go:26", #[⟨2, .data⟩, ⟨15, .data⟩], none⟩ ?_
   (try simp only [Act.put, u1, u2, u3])
   refine wpAnyH_done (by kernel_rfl) ?_ _
   have HOBd : Hid (y0.drew.heap[ob]? = some (.cells #[.slice (some ⟨vb, 0, none⟩) 4 zc, .slice oa L.length oc] 29 (0, 0))) := HOB.out
   have HROWd : Hid (y0.drew.ownsRow (ob + 1) 77 8 (.slice oa L.length oc) L.length (opCells L)) := HROW.out.drew
   have HBLd : Hid (Below ob w2 y0.drew) := ⟨HBL.out.os, HBL.out.tape, HBL.out.output, HBL.out.size, HBL.out.block⟩
   have HOkd : Hid (OpAt y0.drew b (off + k * 8) x) := HOk.out
   have hobd : ob < y0.drew.heap.size := hobl
   have HCd : Hid (y0.drew.cell? ⟨w.heap.size, 1, none⟩ = some (.slice (some ⟨b, off, none⟩) no co) ∧ y0.drew.cell? ⟨w.heap.size + 1, 1, none⟩ = some (.slice bo mo eo)) := ⟨a1, b1⟩
   have HGd : Hid (Ops y0.drew B bo mo m) := HGr.out.kept fun _ _ => rfl
   clear hS hHeld d0 d1 d2 d3 d4 d5 d6 d7 a1 b1 HOB HROW HBL HOk hobl HGr
   generalize y0.drew = wr at HOBd HROWd HBLd HOkd hobd HCd HGd ⊢
   obtain ⟨a1, b1⟩ := HCd.out
   obtain ⟨d0, d1, d2, d3, d4, d5, d6, d7⟩ := HOkd.out
   have HOB := HOBd
   have HROW := HROWd
   have HBL := HBLd
   have HOk := HOkd
   have hobl := hobd
   have HGr := HGd
   clear HOBd HROWd HBLd HOkd hobd HCd HGd
   have hSw : wr.cell? ⟨w.heap.size, 1, none⟩ = some (.slice (some ⟨b, off, none⟩) no co) ∧ wr.cell? ⟨b, off + k * 8, none⟩ = some (.int .i64 x.dev) ∧ wr.cell? ⟨b, off + k * 8 + 1, none⟩ = some (.int .i64 x.seq) ∧ wr.cell? ⟨b, off + k * 8 + 2, none⟩ = some (.int .i64 x.stamp) ∧ wr.cell? ⟨b, off + k * 8 + 3, none⟩ = some (.int .i64 x.kind) ∧ wr.cell? ⟨b, off + k * 8 + 4, none⟩ = some (.string x.item) ∧ wr.cell? ⟨b, off + k * 8 + 5, none⟩ = some (.int .i64 x.qty) ∧ wr.cell? ⟨b, off + k * 8 + 6, none⟩ = some (.int .i64 x.level) ∧ wr.cell? ⟨b, off + k * 8 + 7, none⟩ = some (.int .i64 x.undos) := ⟨a1, d0, d1, d2, d3, d4, d5, d6, d7⟩
   clear a1 b1 d0 d1 d2 d3 d4 d5 d6 d7 HOk HGr
   go_upto_region 7 with fail
   obtain ⟨z0, hz0e⟩ : ∃ z0, wr.drew = z0 := ⟨_, rfl⟩
   have hS : z0.cell? ⟨w.heap.size, 1, none⟩ = some (.slice (some ⟨b, off, none⟩) no co) ∧ z0.cell? ⟨b, off + k * 8, none⟩ = some (.int .i64 x.dev) ∧ z0.cell? ⟨b, off + k * 8 + 1, none⟩ = some (.int .i64 x.seq) ∧ z0.cell? ⟨b, off + k * 8 + 2, none⟩ = some (.int .i64 x.stamp) ∧ z0.cell? ⟨b, off + k * 8 + 3, none⟩ = some (.int .i64 x.kind) ∧ z0.cell? ⟨b, off + k * 8 + 4, none⟩ = some (.string x.item) ∧ z0.cell? ⟨b, off + k * 8 + 5, none⟩ = some (.int .i64 x.qty) ∧ z0.cell? ⟨b, off + k * 8 + 6, none⟩ = some (.int .i64 x.level) ∧ z0.cell? ⟨b, off + k * 8 + 7, none⟩ = some (.int .i64 x.undos) := ⟨by rw [← hz0e]; exact hSw.1, by rw [← hz0e]; exact hSw.2.1, by rw [← hz0e]; exact hSw.2.2.1, by rw [← hz0e]; exact hSw.2.2.2.1, by rw [← hz0e]; exact hSw.2.2.2.2.1, by rw [← hz0e]; exact hSw.2.2.2.2.2.1, by rw [← hz0e]; exact hSw.2.2.2.2.2.2.1, by rw [← hz0e]; exact hSw.2.2.2.2.2.2.2.1, by rw [← hz0e]; exact hSw.2.2.2.2.2.2.2.2⟩
   have ob0 : Hid (z0.heap[ob]? = some (.cells #[.slice (some ⟨vb, 0, none⟩) 4 zc, .slice oa L.length oc] 29 (0, 0))) := by rw [← hz0e]; exact HOB.out
   have row0 : z0.ownsRow (ob + 1) 77 8 (.slice oa L.length oc) L.length (opCells L) := by rw [← hz0e]; exact HROW.out
   have obl0 : ob < z0.heap.size := by rw [← hz0e]; exact hobl
   have hb0z : Hid (Below ob wr z0) := by rw [← hz0e]; exact ⟨rfl, rfl, rfl, Nat.le_refl _, fun _ _ => rfl⟩
   have o1 := (pair_cells ob0.out).2
   have row1 := row0.alloc (.cells #[.int .i64 x.dev, .int .i64 x.seq, .int .i64 x.stamp, .int .i64 x.kind, .string x.item, .int .i64 x.qty, .int .i64 x.level, .int .i64 x.undos] 77)
   have hbz1 : Below ob z0 (z0.alloc (.cells #[.int .i64 x.dev, .int .i64 x.seq, .int .i64 x.stamp, .int .i64 x.kind, .string x.item, .int .i64 x.qty, .int .i64 x.level, .int .i64 x.undos] 77)) := (Below.refl ob z0).alloc (by omega) _
   obtain ⟨v', z2, hrun, hown2, hgr, _⟩ := run_append_own (P := Try.prog) (z0.alloc (.cells #[.int .i64 x.dev, .int .i64 x.seq, .int .i64 x.stamp, .int .i64 x.kind, .string x.item, .int .i64 x.qty, .int .i64 x.level, .int .i64 x.undos] 77)) (ob + 1) 27 27 77 i0 (.agg #[.int .i64 0, .int .i64 0, .int .i64 0, .int .i64 0, .string ⟨#[]⟩, .int .i64 0, .int .i64 0, .int .i64 0]) 8 72 Try.underlying27 hi hz0 hz1 hz2 rfl (by decide) _ _ _ row1 ⟨z0.heap.size, 0, none⟩ 1 1 (opRow x) rfl (opRow_new z0 x) (fun u hu => opCells_one [x] u (by show u ∈ opRow x ++ []; rw [List.append_nil]; exact hu)) (by unfold maxLen; omega) (by omega) (by show _ ≤ (z0.heap.push _).size; simp; omega)
   have hbz2 : Below ob z0 z2 := hbz1.grown hgr (Nat.le_trans (by omega) hbz1.size) (fun q hq => by have := (row1.lt q hq).1; omega)
   obtain ⟨va2, vc2, rfl⟩ : ∃ va2 vc2, v' = .slice va2 (L.length + 1) vc2 := by
    rcases hown2.2 with ⟨_, e2⟩ | ⟨_, c2, _, e2, _⟩
    ·omega
    ·exact ⟨_, c2, e2⟩
   have ob1 : Hid ((z0.alloc (.cells #[.int .i64 x.dev, .int .i64 x.seq, .int .i64 x.stamp, .int .i64 x.kind, .string x.item, .int .i64 x.qty, .int .i64 x.level, .int .i64 x.undos] 77)).heap[ob]? = some (.cells #[.slice (some ⟨vb, 0, none⟩) 4 zc, .slice oa L.length oc] 29 (0, 0))) := (Below.heap_alloc _ _ _ obl0).trans ob0.out
   have ob2 : Hid (z2.heap[ob]? = some (.cells #[.slice (some ⟨vb, 0, none⟩) 4 zc, .slice oa L.length oc] 29 (0, 0))) := (hgr.block ob (by show _ < (z0.heap.push _).size; simp; omega) (fun h => by have := (row1.lt ob h.symm).1; omega)).trans ob1.out
   have o11 := (pair_cells ob1.out).2
   have o12 := (pair_cells ob2.out).2
   have fz2 := (pair_frozen ob2.out).2
   have HBOX3 : Hid ((z2.setCell ⟨ob, 1, none⟩ (.slice va2 (L.length + 1) vc2)).heap[ob]? = some (.cells #[.slice (some ⟨vb, 0, none⟩) 4 zc, .slice va2 (L.length + 1) vc2] 29 (0, 0))) := heap_setCell_same _ _ _ _ _ _ ob2.out
   have HROW3 : Hid ((z2.setCell ⟨ob, 1, none⟩ (.slice va2 (L.length + 1) vc2)).ownsRow (ob + 1) 77 8 (.slice va2 (L.length + 1) vc2) (L.length + 1) (opCells L ++ opRow x)) := row_put hown2 (fun q hq => by have := (hown2.lt q hq).1; omega)
   have hbz3 : Below ob z0 (z2.setCell ⟨ob, 1, none⟩ (.slice va2 (L.length + 1) vc2)) := hbz2.setCell (Nat.le_refl _) _
   have HBEL3 : Hid (Below ob wr (z2.setCell ⟨ob, 1, none⟩ (.slice va2 (L.length + 1) vc2))) := hb0z.out.trans hbz3
   have hSd : z0.cell? ⟨w.heap.size, 1, none⟩ = some (.slice (some ⟨b, off, none⟩) no co) ∧ z0.cell? ⟨b, off + k * 8, none⟩ = some (.int .i64 x.dev) ∧ z0.cell? ⟨b, off + k * 8 + 1, none⟩ = some (.int .i64 x.seq) ∧ z0.cell? ⟨b, off + k * 8 + 2, none⟩ = some (.int .i64 x.stamp) ∧ z0.cell? ⟨b, off + k * 8 + 3, none⟩ = some (.int .i64 x.kind) ∧ z0.cell? ⟨b, off + k * 8 + 4, none⟩ = some (.string x.item) ∧ z0.cell? ⟨b, off + k * 8 + 5, none⟩ = some (.int .i64 x.qty) ∧ z0.cell? ⟨b, off + k * 8 + 6, none⟩ = some (.int .i64 x.level) ∧ z0.cell? ⟨b, off + k * 8 + 7, none⟩ = some (.int .i64 x.undos) := hS
   have hS1 : (z0.alloc (.cells #[.int .i64 x.dev, .int .i64 x.seq, .int .i64 x.stamp, .int .i64 x.kind, .string x.item, .int .i64 x.qty, .int .i64 x.level, .int .i64 x.undos] 77)).cell? ⟨w.heap.size, 1, none⟩ = some (.slice (some ⟨b, off, none⟩) no co) ∧ (z0.alloc (.cells #[.int .i64 x.dev, .int .i64 x.seq, .int .i64 x.stamp, .int .i64 x.kind, .string x.item, .int .i64 x.qty, .int .i64 x.level, .int .i64 x.undos] 77)).cell? ⟨b, off + k * 8, none⟩ = some (.int .i64 x.dev) ∧ (z0.alloc (.cells #[.int .i64 x.dev, .int .i64 x.seq, .int .i64 x.stamp, .int .i64 x.kind, .string x.item, .int .i64 x.qty, .int .i64 x.level, .int .i64 x.undos] 77)).cell? ⟨b, off + k * 8 + 1, none⟩ = some (.int .i64 x.seq) ∧ (z0.alloc (.cells #[.int .i64 x.dev, .int .i64 x.seq, .int .i64 x.stamp, .int .i64 x.kind, .string x.item, .int .i64 x.qty, .int .i64 x.level, .int .i64 x.undos] 77)).cell? ⟨b, off + k * 8 + 2, none⟩ = some (.int .i64 x.stamp) ∧ (z0.alloc (.cells #[.int .i64 x.dev, .int .i64 x.seq, .int .i64 x.stamp, .int .i64 x.kind, .string x.item, .int .i64 x.qty, .int .i64 x.level, .int .i64 x.undos] 77)).cell? ⟨b, off + k * 8 + 3, none⟩ = some (.int .i64 x.kind) ∧ (z0.alloc (.cells #[.int .i64 x.dev, .int .i64 x.seq, .int .i64 x.stamp, .int .i64 x.kind, .string x.item, .int .i64 x.qty, .int .i64 x.level, .int .i64 x.undos] 77)).cell? ⟨b, off + k * 8 + 4, none⟩ = some (.string x.item) ∧ (z0.alloc (.cells #[.int .i64 x.dev, .int .i64 x.seq, .int .i64 x.stamp, .int .i64 x.kind, .string x.item, .int .i64 x.qty, .int .i64 x.level, .int .i64 x.undos] 77)).cell? ⟨b, off + k * 8 + 5, none⟩ = some (.int .i64 x.qty) ∧ (z0.alloc (.cells #[.int .i64 x.dev, .int .i64 x.seq, .int .i64 x.stamp, .int .i64 x.kind, .string x.item, .int .i64 x.qty, .int .i64 x.level, .int .i64 x.undos] 77)).cell? ⟨b, off + k * 8 + 6, none⟩ = some (.int .i64 x.level) ∧ (z0.alloc (.cells #[.int .i64 x.dev, .int .i64 x.seq, .int .i64 x.stamp, .int .i64 x.kind, .string x.item, .int .i64 x.qty, .int .i64 x.level, .int .i64 x.undos] 77)).cell? ⟨b, off + k * 8 + 7, none⟩ = some (.int .i64 x.undos) := ⟨(hbz1.cell (by show w.heap.size < ob; omega)).trans hS.1, (hbz1.cell (by show b < ob; omega)).trans hS.2.1, (hbz1.cell (by show b < ob; omega)).trans hS.2.2.1, (hbz1.cell (by show b < ob; omega)).trans hS.2.2.2.1, (hbz1.cell (by show b < ob; omega)).trans hS.2.2.2.2.1, (hbz1.cell (by show b < ob; omega)).trans hS.2.2.2.2.2.1, (hbz1.cell (by show b < ob; omega)).trans hS.2.2.2.2.2.2.1, (hbz1.cell (by show b < ob; omega)).trans hS.2.2.2.2.2.2.2.1, (hbz1.cell (by show b < ob; omega)).trans hS.2.2.2.2.2.2.2.2⟩
   have hS2 : z2.cell? ⟨w.heap.size, 1, none⟩ = some (.slice (some ⟨b, off, none⟩) no co) ∧ z2.cell? ⟨b, off + k * 8, none⟩ = some (.int .i64 x.dev) ∧ z2.cell? ⟨b, off + k * 8 + 1, none⟩ = some (.int .i64 x.seq) ∧ z2.cell? ⟨b, off + k * 8 + 2, none⟩ = some (.int .i64 x.stamp) ∧ z2.cell? ⟨b, off + k * 8 + 3, none⟩ = some (.int .i64 x.kind) ∧ z2.cell? ⟨b, off + k * 8 + 4, none⟩ = some (.string x.item) ∧ z2.cell? ⟨b, off + k * 8 + 5, none⟩ = some (.int .i64 x.qty) ∧ z2.cell? ⟨b, off + k * 8 + 6, none⟩ = some (.int .i64 x.level) ∧ z2.cell? ⟨b, off + k * 8 + 7, none⟩ = some (.int .i64 x.undos) := ⟨(hbz2.cell (by show w.heap.size < ob; omega)).trans hS.1, (hbz2.cell (by show b < ob; omega)).trans hS.2.1, (hbz2.cell (by show b < ob; omega)).trans hS.2.2.1, (hbz2.cell (by show b < ob; omega)).trans hS.2.2.2.1, (hbz2.cell (by show b < ob; omega)).trans hS.2.2.2.2.1, (hbz2.cell (by show b < ob; omega)).trans hS.2.2.2.2.2.1, (hbz2.cell (by show b < ob; omega)).trans hS.2.2.2.2.2.2.1, (hbz2.cell (by show b < ob; omega)).trans hS.2.2.2.2.2.2.2.1, (hbz2.cell (by show b < ob; omega)).trans hS.2.2.2.2.2.2.2.2⟩
   have hS3 : (z2.setCell ⟨ob, 1, none⟩ (.slice va2 (L.length + 1) vc2)).cell? ⟨w.heap.size, 1, none⟩ = some (.slice (some ⟨b, off, none⟩) no co) ∧ (z2.setCell ⟨ob, 1, none⟩ (.slice va2 (L.length + 1) vc2)).cell? ⟨b, off + k * 8, none⟩ = some (.int .i64 x.dev) ∧ (z2.setCell ⟨ob, 1, none⟩ (.slice va2 (L.length + 1) vc2)).cell? ⟨b, off + k * 8 + 1, none⟩ = some (.int .i64 x.seq) ∧ (z2.setCell ⟨ob, 1, none⟩ (.slice va2 (L.length + 1) vc2)).cell? ⟨b, off + k * 8 + 2, none⟩ = some (.int .i64 x.stamp) ∧ (z2.setCell ⟨ob, 1, none⟩ (.slice va2 (L.length + 1) vc2)).cell? ⟨b, off + k * 8 + 3, none⟩ = some (.int .i64 x.kind) ∧ (z2.setCell ⟨ob, 1, none⟩ (.slice va2 (L.length + 1) vc2)).cell? ⟨b, off + k * 8 + 4, none⟩ = some (.string x.item) ∧ (z2.setCell ⟨ob, 1, none⟩ (.slice va2 (L.length + 1) vc2)).cell? ⟨b, off + k * 8 + 5, none⟩ = some (.int .i64 x.qty) ∧ (z2.setCell ⟨ob, 1, none⟩ (.slice va2 (L.length + 1) vc2)).cell? ⟨b, off + k * 8 + 6, none⟩ = some (.int .i64 x.level) ∧ (z2.setCell ⟨ob, 1, none⟩ (.slice va2 (L.length + 1) vc2)).cell? ⟨b, off + k * 8 + 7, none⟩ = some (.int .i64 x.undos) := ⟨(hbz3.cell (by show w.heap.size < ob; omega)).trans hS.1, (hbz3.cell (by show b < ob; omega)).trans hS.2.1, (hbz3.cell (by show b < ob; omega)).trans hS.2.2.1, (hbz3.cell (by show b < ob; omega)).trans hS.2.2.2.1, (hbz3.cell (by show b < ob; omega)).trans hS.2.2.2.2.1, (hbz3.cell (by show b < ob; omega)).trans hS.2.2.2.2.2.1, (hbz3.cell (by show b < ob; omega)).trans hS.2.2.2.2.2.2.1, (hbz3.cell (by show b < ob; omega)).trans hS.2.2.2.2.2.2.2.1, (hbz3.cell (by show b < ob; omega)).trans hS.2.2.2.2.2.2.2.2⟩
   clear hSw HOB HROW row0 hb0z
   go_wp2_with fail
   refine wp_region_held_drew (S := fun w' => w'.cell? ⟨w.heap.size, 1, none⟩ = some (.slice (some ⟨b, off, none⟩) no co) ∧ w'.cell? ⟨b, off + k * 8, none⟩ = some (.int .i64 x.dev) ∧ w'.cell? ⟨b, off + k * 8 + 1, none⟩ = some (.int .i64 x.seq) ∧ w'.cell? ⟨b, off + k * 8 + 2, none⟩ = some (.int .i64 x.stamp) ∧ w'.cell? ⟨b, off + k * 8 + 3, none⟩ = some (.int .i64 x.kind) ∧ w'.cell? ⟨b, off + k * 8 + 4, none⟩ = some (.string x.item) ∧ w'.cell? ⟨b, off + k * 8 + 5, none⟩ = some (.int .i64 x.qty) ∧ w'.cell? ⟨b, off + k * 8 + 6, none⟩ = some (.int .i64 x.level) ∧ w'.cell? ⟨b, off + k * 8 + 7, none⟩ = some (.int .i64 x.undos)) (by kernel_rfl) (by rw [hz0e]; exact hS) (fun hHeld => ?_)
   rw [hz0e]
   clear hHeld
   refine tk 0 ⟨some 52, .fieldAddr 29 (.tmp 5) 1, 0, "l07_deltas.go:27", #[], none⟩ ?_
   (try simp only [Act.put, u1, u2, u3])
   refine tk 2 ⟨some 54, .fieldAddr 29 (.tmp 2) 1, 0, "l07_deltas.go:27", #[], none⟩ ?_
   (try simp only [Act.put, u1, u2, u3])
   refine tk 3 ⟨some 55, .load 27 (.tmp 54), 27, "l07_deltas.go:27", #[⟨2, .data⟩], none⟩ ?_
   (try simp only [Act.put, u1, u2, u3])
   refine tk 4 ⟨some 56, .move (.tmp 6), 3, "l07_deltas.go:27", #[], none⟩ ?_
   (try simp only [Act.put, u1, u2, u3])
   refine tk 5 ⟨some 57, .indexAddr 27 (.tmp 55) (.tmp 56), 0, "l07_deltas.go:27", #[⟨3, .data⟩, ⟨4, .data⟩], none⟩ ?_
   (try simp only [Act.put, u1, u2, u3])
   refine tk 6 ⟨some 58, .load 77 (.tmp 57), 77, "l07_deltas.go:27", #[⟨5, .data⟩], none⟩ ?_
   (try simp only [Act.put, u1, u2, u3])
   refine wpAnyH_ready (rs := [1, 7]) (by kernel_rfl) (by simp) ?_
   refine AllReadyH.cons rfl (fun K hK => ?_) (AllReadyH.cons rfl (fun K hK => ?_) AllReadyH.nil)
   all_goals go_simp
   ·refine hK.out _ _ hSd (fun hHeld7 => ?_)
    clear hK K
    (try simp only [Act.put, u1, u2, u3])
    refine rk 7 rfl (fun K hK => ?_)
    go_simp
    refine hK.out _ _ hS1 (fun hHeld6 => ?_)
    clear hK K
    (try simp only [Act.put, u1, u2, u3])
    refine rk 8 rfl (fun K hK => ?_)
    rw [if_pos (by rfl)]
    refine opwp_append _ _ _ rfl _ _ rfl rfl hrun ?_
    refine hK.out _ _ hS2 (fun hHeld8 => ?_)
    clear hK K
    (try simp only [Act.put, u1, u2, u3])
    refine tk 9 ⟨some 61, .fieldAddr 29 (.tmp 5) 1, 0, "l07_deltas.go:27", #[⟨0, .phase⟩, ⟨1, .phase⟩, ⟨2, .phase⟩, ⟨3, .phase⟩, ⟨4, .phase⟩, ⟨5, .phase⟩, ⟨6, .phase⟩, ⟨7, .phase⟩, ⟨8, .phase⟩], none⟩ ?_
    (try simp only [Act.put, u1, u2, u3])
    refine rk 10 rfl (fun K hK => ?_)
    go_simp
    refine hK.out _ _ hS3 (fun hHeld9 => ?_)
    clear hK K
    (try simp only [Act.put, u1, u2, u3])
    refine wpAnyH_done (by kernel_rfl) ?_ _
    have HOn : Hid (OutD ob vb zc ((l.take (k + 1)).filter (delB m)) w2 (z2.setCell ⟨ob, 1, none⟩ (.slice va2 (L.length + 1) vc2))) := by
     show OutD _ _ _ _ _ _
     unfold OutD
     rw [HE.out, opCells_snoc, List.length_append]
     exact ⟨va2, vc2, HBOX3.out, HROW3.out, HBL.out.trans HBEL3.out⟩
    clear HBOX3 HROW3 HBEL3 hSd hS1 hS2 hS3 hS ob0 ob1 ob2 o1 o11 o12 fz2 hrun hown2 hgr row1 hbz1 hbz2 hbz3 hHeld6 hHeld7 hHeld8 hHeld9
    go_wp2
    go_roundw
    case rel => exact ⟨k + 1, by omega, by go_num, HOn⟩
    case measure => simp [intOf]; omega
   ·refine hK.out _ _ hS1 (fun hHeld7 => ?_)
    clear hK K
    (try simp only [Act.put, u1, u2, u3])
    refine rk 1 rfl (fun K hK => ?_)
    go_simp
    refine hK.out _ _ hS1 (fun hHeld6 => ?_)
    clear hK K
    (try simp only [Act.put, u1, u2, u3])
    refine rk 8 rfl (fun K hK => ?_)
    rw [if_pos (by rfl)]
    refine opwp_append _ _ _ rfl _ _ rfl rfl hrun ?_
    refine hK.out _ _ hS2 (fun hHeld8 => ?_)
    clear hK K
    (try simp only [Act.put, u1, u2, u3])
    refine tk 9 ⟨some 61, .fieldAddr 29 (.tmp 5) 1, 0, "l07_deltas.go:27", #[⟨0, .phase⟩, ⟨1, .phase⟩, ⟨2, .phase⟩, ⟨3, .phase⟩, ⟨4, .phase⟩, ⟨5, .phase⟩, ⟨6, .phase⟩, ⟨7, .phase⟩, ⟨8, .phase⟩], none⟩ ?_
    (try simp only [Act.put, u1, u2, u3])
    refine rk 10 rfl (fun K hK => ?_)
    go_simp
    refine hK.out _ _ hS3 (fun hHeld9 => ?_)
    clear hK K
    (try simp only [Act.put, u1, u2, u3])
    refine wpAnyH_done (by kernel_rfl) ?_ _
    have HOn : Hid (OutD ob vb zc ((l.take (k + 1)).filter (delB m)) w2 (z2.setCell ⟨ob, 1, none⟩ (.slice va2 (L.length + 1) vc2))) := by
     show OutD _ _ _ _ _ _
     unfold OutD
     rw [HE.out, opCells_snoc, List.length_append]
     exact ⟨va2, vc2, HBOX3.out, HROW3.out, HBL.out.trans HBEL3.out⟩
    clear HBOX3 HROW3 HBEL3 hSd hS1 hS2 hS3 hS ob0 ob1 ob2 o1 o11 o12 fz2 hrun hown2 hgr row1 hbz1 hbz2 hbz3 hHeld6 hHeld7 hHeld8 hHeld9
    go_wp2
    go_roundw
    case rel => exact ⟨k + 1, by omega, by go_num, HOn⟩
    case measure => simp [intOf]; omega
  have HTg := Lib.hid (HTy.out i (by rw [HLm.out]; exact him) he)
  clear he HK
  obtain ⟨b2, off2, rfl, hb2, ho2⟩ := HGr.out.2 i him
  have HOy : Hid (OpAt y0 b2 (off2 + i * 8) (atOp m i)) := ho2
  clear ho2
  generalize atOp m i = y at HTg HOy
  obtain ⟨e0, e1, e2, e3, e4, e5, e6, e7⟩ := HOy.out
  obtain ⟨tb, htb⟩ : ∃ b, decide (y.undos < x.undos) = b := ⟨_, rfl⟩
  rw [htb] at HTg
  have HTb := Lib.hid htb
  clear htb
  have hii : (i : Int) < (mo : Int) := by omega
  have hi0 : decide ((i : Int) < 0) = false := decide_eq_false (by omega)
  have hi00 : ¬ ((i : Int) < 0) := by omega
  have hS : y0.drew.cell? ⟨w.heap.size, 1, none⟩ = some (.slice (some ⟨b, off, none⟩) no co) ∧ y0.drew.cell? ⟨w.heap.size + 1, 1, none⟩ = some (.slice (some ⟨b2, off2, none⟩) mo eo) ∧ y0.drew.cell? ⟨b, off + k * 8 + 7, none⟩ = some (.int .i64 x.undos) ∧ y0.drew.cell? ⟨b2, off2 + i * 8 + 7, none⟩ = some (.int .i64 y.undos) := ⟨a1, b1, d7, e7⟩
  go_wp2_with fail
  refine wp_region_held_drew (S := fun w' => w'.cell? ⟨w.heap.size, 1, none⟩ = some (.slice (some ⟨b, off, none⟩) no co) ∧ w'.cell? ⟨w.heap.size + 1, 1, none⟩ = some (.slice (some ⟨b2, off2, none⟩) mo eo) ∧ w'.cell? ⟨b, off + k * 8 + 7, none⟩ = some (.int .i64 x.undos) ∧ w'.cell? ⟨b2, off2 + i * 8 + 7, none⟩ = some (.int .i64 y.undos)) (by kernel_rfl) hS (fun hHeld => ?_)
  refine tk 0 ⟨some 35, .move (.tmp 7), 3, "l07_deltas.go:26", #[], none⟩ ?_
  (try simp only [Act.put, u1, u2, u3])
  refine tk 1 ⟨some 36, .binOp .lss 3 (.tmp 35) (.const (Value.int IntKind.i64 0)) 3, 4, "l07_deltas.go:26", #[⟨0, .data⟩], none⟩ ?_
  (try simp only [Act.put, u1, u2, u3])
  refine tk 2 ⟨some 37, .move (.tmp 36), 4, "l07_deltas.go:26", #[⟨1, .data⟩], none⟩ ?_
  (try simp only [Act.put, u1, u2, u3])
  refine tk 3 ⟨some 38, .fieldAddr 29 (.tmp 3) 1, 0, "l07_deltas.go:26", #[⟨2, .guard⟩], some (2, false)⟩ ?_
  (try simp only [Act.put, u1, u2, u3])
  refine tk 4 ⟨some 39, .load 27 (.tmp 38), 27, "l07_deltas.go:26", #[⟨3, .data⟩, ⟨2, .guard⟩], some (2, false)⟩ ?_
  (try simp only [Act.put, u1, u2, u3])
  refine tk 5 ⟨some 40, .move (.tmp 7), 3, "l07_deltas.go:26", #[⟨2, .guard⟩], some (2, false)⟩ ?_
  (try simp only [Act.put, u1, u2, u3])
  refine tk 6 ⟨some 41, .indexAddr 27 (.tmp 39) (.tmp 40), 0, "l07_deltas.go:26", #[⟨4, .data⟩, ⟨5, .data⟩, ⟨2, .guard⟩], some (2, false)⟩ ?_
  (try simp only [Act.put, u1, u2, u3])
  refine tk 7 ⟨some 42, .fieldAddr 77 (.tmp 41) 7, 0, "l07_deltas.go:26", #[⟨6, .data⟩, ⟨2, .guard⟩], some (2, false)⟩ ?_
  (try simp only [Act.put, u1, u2, u3])
  refine tk 8 ⟨some 43, .load 2 (.tmp 42), 2, "l07_deltas.go:26", #[⟨7, .data⟩, ⟨2, .guard⟩], some (2, false)⟩ ?_
  (try simp only [Act.put, u1, u2, u3])
  refine tk 9 ⟨some 44, .fieldAddr 29 (.tmp 2) 1, 0, "l07_deltas.go:26", #[⟨2, .guard⟩], some (2, false)⟩ ?_
  (try simp only [Act.put, u1, u2, u3])
  refine tk 10 ⟨some 45, .load 27 (.tmp 44), 27, "l07_deltas.go:26", #[⟨9, .data⟩, ⟨2, .guard⟩], some (2, false)⟩ ?_
  (try simp only [Act.put, u1, u2, u3])
  refine tk 11 ⟨some 46, .move (.tmp 6), 3, "l07_deltas.go:26", #[⟨2, .guard⟩], some (2, false)⟩ ?_
  (try simp only [Act.put, u1, u2, u3])
  refine tk 12 ⟨some 47, .indexAddr 27 (.tmp 45) (.tmp 46), 0, "l07_deltas.go:26", #[⟨10, .data⟩, ⟨11, .data⟩, ⟨2, .guard⟩], some (2, false)⟩ ?_
  (try simp only [Act.put, u1, u2, u3])
  refine tk 13 ⟨some 48, .fieldAddr 77 (.tmp 47) 7, 0, "l07_deltas.go:26", #[⟨12, .data⟩, ⟨2, .guard⟩], some (2, false)⟩ ?_
  (try simp only [Act.put, u1, u2, u3])
  refine tk 14 ⟨some 49, .load 2 (.tmp 48), 2, "l07_deltas.go:26", #[⟨13, .data⟩, ⟨2, .guard⟩], some (2, false)⟩ ?_
  (try simp only [Act.put, u1, u2, u3])
  refine tk 15 ⟨some 50, .binOp .lss 2 (.tmp 43) (.tmp 49) 2, 4, "l07_deltas.go:26", #[⟨8, .data⟩, ⟨14, .data⟩, ⟨2, .guard⟩], some (2, false)⟩ ?_
  (try simp only [Act.put, u1, u2, u3])
  refine tk 16 ⟨some 51, .pick (.tmp 37) (.const (Value.bool true)) (.tmp 50), 4, "l07_deltas.go:26", #[⟨2, .data⟩, ⟨15, .data⟩], none⟩ ?_
  (try simp only [Act.put, u1, u2, u3])
  refine wpAnyH_done (by kernel_rfl) ?_ _
  clear e0 e1 e2 e3 e4 e5 e6 e7 HOy
  have HOBd : Hid (y0.drew.heap[ob]? = some (.cells #[.slice (some ⟨vb, 0, none⟩) 4 zc, .slice oa L.length oc] 29 (0, 0))) := HOB.out
  have HROWd : Hid (y0.drew.ownsRow (ob + 1) 77 8 (.slice oa L.length oc) L.length (opCells L)) := HROW.out.drew
  have HBLd : Hid (Below ob w2 y0.drew) := ⟨HBL.out.os, HBL.out.tape, HBL.out.output, HBL.out.size, HBL.out.block⟩
  have HOkd : Hid (OpAt y0.drew b (off + k * 8) x) := HOk.out
  have hobd : ob < y0.drew.heap.size := hobl
  have HCd : Hid (y0.drew.cell? ⟨w.heap.size, 1, none⟩ = some (.slice (some ⟨b, off, none⟩) no co) ∧ y0.drew.cell? ⟨w.heap.size + 1, 1, none⟩ = some (.slice (some ⟨b2, off2, none⟩) mo eo)) := ⟨a1, b1⟩
  have HGd : Hid (Ops y0.drew B (some ⟨b2, off2, none⟩) mo m) := HGr.out.kept fun _ _ => rfl
  clear hS hHeld d0 d1 d2 d3 d4 d5 d6 d7 a1 b1 HOB HROW HBL HOk hobl HGr
  generalize y0.drew = wr at HOBd HROWd HBLd HOkd hobd HCd HGd ⊢
  obtain ⟨a1, b1⟩ := HCd.out
  obtain ⟨d0, d1, d2, d3, d4, d5, d6, d7⟩ := HOkd.out
  have HOB := HOBd
  have HROW := HROWd
  have HBL := HBLd
  have HOk := HOkd
  have hobl := hobd
  have HGr := HGd
  clear HOBd HROWd HBLd HOkd hobd HCd HGd
  cases tb
  ·have HE : Hid ((l.take (k + 1)).filter (delB m) = L) := by show _ = _; rw [HSt.out, HTg.out]; rfl
   have hdt := HTb.out
   have hnl : ¬ y.undos < x.undos := of_decide_eq_false hdt
   have HOn : Hid (OutD ob vb zc ((l.take (k + 1)).filter (delB m)) w2 wr) := by
    show OutD _ _ _ _ _ _
    rw [HE.out]
    exact ⟨oa, oc, HOB.out, HROW.out, HBL.out⟩
   clear a1 b1 d0 d1 d2 d3 d4 d5 d6 d7
   go_wp2
   go_roundw
   case rel => exact ⟨k + 1, by omega, by go_num, HOn⟩
   case measure => simp [intOf]; omega
  have HE : Hid ((l.take (k + 1)).filter (delB m) = L ++ [x]) := by show _ = _; rw [HSt.out, HTg.out]; rfl
  have hdt := HTb.out
  have hyl : y.undos < x.undos := of_decide_eq_true hdt
  have hSw : wr.cell? ⟨w.heap.size, 1, none⟩ = some (.slice (some ⟨b, off, none⟩) no co) ∧ wr.cell? ⟨b, off + k * 8, none⟩ = some (.int .i64 x.dev) ∧ wr.cell? ⟨b, off + k * 8 + 1, none⟩ = some (.int .i64 x.seq) ∧ wr.cell? ⟨b, off + k * 8 + 2, none⟩ = some (.int .i64 x.stamp) ∧ wr.cell? ⟨b, off + k * 8 + 3, none⟩ = some (.int .i64 x.kind) ∧ wr.cell? ⟨b, off + k * 8 + 4, none⟩ = some (.string x.item) ∧ wr.cell? ⟨b, off + k * 8 + 5, none⟩ = some (.int .i64 x.qty) ∧ wr.cell? ⟨b, off + k * 8 + 6, none⟩ = some (.int .i64 x.level) ∧ wr.cell? ⟨b, off + k * 8 + 7, none⟩ = some (.int .i64 x.undos) := ⟨a1, d0, d1, d2, d3, d4, d5, d6, d7⟩
  clear a1 b1 d0 d1 d2 d3 d4 d5 d6 d7 HOk HGr
  go_upto_region 7 with fail
  obtain ⟨z0, hz0e⟩ : ∃ z0, wr.drew = z0 := ⟨_, rfl⟩
  have hS : z0.cell? ⟨w.heap.size, 1, none⟩ = some (.slice (some ⟨b, off, none⟩) no co) ∧ z0.cell? ⟨b, off + k * 8, none⟩ = some (.int .i64 x.dev) ∧ z0.cell? ⟨b, off + k * 8 + 1, none⟩ = some (.int .i64 x.seq) ∧ z0.cell? ⟨b, off + k * 8 + 2, none⟩ = some (.int .i64 x.stamp) ∧ z0.cell? ⟨b, off + k * 8 + 3, none⟩ = some (.int .i64 x.kind) ∧ z0.cell? ⟨b, off + k * 8 + 4, none⟩ = some (.string x.item) ∧ z0.cell? ⟨b, off + k * 8 + 5, none⟩ = some (.int .i64 x.qty) ∧ z0.cell? ⟨b, off + k * 8 + 6, none⟩ = some (.int .i64 x.level) ∧ z0.cell? ⟨b, off + k * 8 + 7, none⟩ = some (.int .i64 x.undos) := ⟨by rw [← hz0e]; exact hSw.1, by rw [← hz0e]; exact hSw.2.1, by rw [← hz0e]; exact hSw.2.2.1, by rw [← hz0e]; exact hSw.2.2.2.1, by rw [← hz0e]; exact hSw.2.2.2.2.1, by rw [← hz0e]; exact hSw.2.2.2.2.2.1, by rw [← hz0e]; exact hSw.2.2.2.2.2.2.1, by rw [← hz0e]; exact hSw.2.2.2.2.2.2.2.1, by rw [← hz0e]; exact hSw.2.2.2.2.2.2.2.2⟩
  have ob0 : Hid (z0.heap[ob]? = some (.cells #[.slice (some ⟨vb, 0, none⟩) 4 zc, .slice oa L.length oc] 29 (0, 0))) := by rw [← hz0e]; exact HOB.out
  have row0 : z0.ownsRow (ob + 1) 77 8 (.slice oa L.length oc) L.length (opCells L) := by rw [← hz0e]; exact HROW.out
  have obl0 : ob < z0.heap.size := by rw [← hz0e]; exact hobl
  have hb0z : Hid (Below ob wr z0) := by rw [← hz0e]; exact ⟨rfl, rfl, rfl, Nat.le_refl _, fun _ _ => rfl⟩
  have o1 := (pair_cells ob0.out).2
  have row1 := row0.alloc (.cells #[.int .i64 x.dev, .int .i64 x.seq, .int .i64 x.stamp, .int .i64 x.kind, .string x.item, .int .i64 x.qty, .int .i64 x.level, .int .i64 x.undos] 77)
  have hbz1 : Below ob z0 (z0.alloc (.cells #[.int .i64 x.dev, .int .i64 x.seq, .int .i64 x.stamp, .int .i64 x.kind, .string x.item, .int .i64 x.qty, .int .i64 x.level, .int .i64 x.undos] 77)) := (Below.refl ob z0).alloc (by omega) _
  obtain ⟨v', z2, hrun, hown2, hgr, _⟩ := run_append_own (P := Try.prog) (z0.alloc (.cells #[.int .i64 x.dev, .int .i64 x.seq, .int .i64 x.stamp, .int .i64 x.kind, .string x.item, .int .i64 x.qty, .int .i64 x.level, .int .i64 x.undos] 77)) (ob + 1) 27 27 77 i0 (.agg #[.int .i64 0, .int .i64 0, .int .i64 0, .int .i64 0, .string ⟨#[]⟩, .int .i64 0, .int .i64 0, .int .i64 0]) 8 72 Try.underlying27 hi hz0 hz1 hz2 rfl (by decide) _ _ _ row1 ⟨z0.heap.size, 0, none⟩ 1 1 (opRow x) rfl (opRow_new z0 x) (fun u hu => opCells_one [x] u (by show u ∈ opRow x ++ []; rw [List.append_nil]; exact hu)) (by unfold maxLen; omega) (by omega) (by show _ ≤ (z0.heap.push _).size; simp; omega)
  have hbz2 : Below ob z0 z2 := hbz1.grown hgr (Nat.le_trans (by omega) hbz1.size) (fun q hq => by have := (row1.lt q hq).1; omega)
  obtain ⟨va2, vc2, rfl⟩ : ∃ va2 vc2, v' = .slice va2 (L.length + 1) vc2 := by
   rcases hown2.2 with ⟨_, e2⟩ | ⟨_, c2, _, e2, _⟩
   ·omega
   ·exact ⟨_, c2, e2⟩
  have ob1 : Hid ((z0.alloc (.cells #[.int .i64 x.dev, .int .i64 x.seq, .int .i64 x.stamp, .int .i64 x.kind, .string x.item, .int .i64 x.qty, .int .i64 x.level, .int .i64 x.undos] 77)).heap[ob]? = some (.cells #[.slice (some ⟨vb, 0, none⟩) 4 zc, .slice oa L.length oc] 29 (0, 0))) := (Below.heap_alloc _ _ _ obl0).trans ob0.out
  have ob2 : Hid (z2.heap[ob]? = some (.cells #[.slice (some ⟨vb, 0, none⟩) 4 zc, .slice oa L.length oc] 29 (0, 0))) := (hgr.block ob (by show _ < (z0.heap.push _).size; simp; omega) (fun h => by have := (row1.lt ob h.symm).1; omega)).trans ob1.out
  have o11 := (pair_cells ob1.out).2
  have o12 := (pair_cells ob2.out).2
  have fz2 := (pair_frozen ob2.out).2
  have HBOX3 : Hid ((z2.setCell ⟨ob, 1, none⟩ (.slice va2 (L.length + 1) vc2)).heap[ob]? = some (.cells #[.slice (some ⟨vb, 0, none⟩) 4 zc, .slice va2 (L.length + 1) vc2] 29 (0, 0))) := heap_setCell_same _ _ _ _ _ _ ob2.out
  have HROW3 : Hid ((z2.setCell ⟨ob, 1, none⟩ (.slice va2 (L.length + 1) vc2)).ownsRow (ob + 1) 77 8 (.slice va2 (L.length + 1) vc2) (L.length + 1) (opCells L ++ opRow x)) := row_put hown2 (fun q hq => by have := (hown2.lt q hq).1; omega)
  have hbz3 : Below ob z0 (z2.setCell ⟨ob, 1, none⟩ (.slice va2 (L.length + 1) vc2)) := hbz2.setCell (Nat.le_refl _) _
  have HBEL3 : Hid (Below ob wr (z2.setCell ⟨ob, 1, none⟩ (.slice va2 (L.length + 1) vc2))) := hb0z.out.trans hbz3
  have hSd : z0.cell? ⟨w.heap.size, 1, none⟩ = some (.slice (some ⟨b, off, none⟩) no co) ∧ z0.cell? ⟨b, off + k * 8, none⟩ = some (.int .i64 x.dev) ∧ z0.cell? ⟨b, off + k * 8 + 1, none⟩ = some (.int .i64 x.seq) ∧ z0.cell? ⟨b, off + k * 8 + 2, none⟩ = some (.int .i64 x.stamp) ∧ z0.cell? ⟨b, off + k * 8 + 3, none⟩ = some (.int .i64 x.kind) ∧ z0.cell? ⟨b, off + k * 8 + 4, none⟩ = some (.string x.item) ∧ z0.cell? ⟨b, off + k * 8 + 5, none⟩ = some (.int .i64 x.qty) ∧ z0.cell? ⟨b, off + k * 8 + 6, none⟩ = some (.int .i64 x.level) ∧ z0.cell? ⟨b, off + k * 8 + 7, none⟩ = some (.int .i64 x.undos) := hS
  have hS1 : (z0.alloc (.cells #[.int .i64 x.dev, .int .i64 x.seq, .int .i64 x.stamp, .int .i64 x.kind, .string x.item, .int .i64 x.qty, .int .i64 x.level, .int .i64 x.undos] 77)).cell? ⟨w.heap.size, 1, none⟩ = some (.slice (some ⟨b, off, none⟩) no co) ∧ (z0.alloc (.cells #[.int .i64 x.dev, .int .i64 x.seq, .int .i64 x.stamp, .int .i64 x.kind, .string x.item, .int .i64 x.qty, .int .i64 x.level, .int .i64 x.undos] 77)).cell? ⟨b, off + k * 8, none⟩ = some (.int .i64 x.dev) ∧ (z0.alloc (.cells #[.int .i64 x.dev, .int .i64 x.seq, .int .i64 x.stamp, .int .i64 x.kind, .string x.item, .int .i64 x.qty, .int .i64 x.level, .int .i64 x.undos] 77)).cell? ⟨b, off + k * 8 + 1, none⟩ = some (.int .i64 x.seq) ∧ (z0.alloc (.cells #[.int .i64 x.dev, .int .i64 x.seq, .int .i64 x.stamp, .int .i64 x.kind, .string x.item, .int .i64 x.qty, .int .i64 x.level, .int .i64 x.undos] 77)).cell? ⟨b, off + k * 8 + 2, none⟩ = some (.int .i64 x.stamp) ∧ (z0.alloc (.cells #[.int .i64 x.dev, .int .i64 x.seq, .int .i64 x.stamp, .int .i64 x.kind, .string x.item, .int .i64 x.qty, .int .i64 x.level, .int .i64 x.undos] 77)).cell? ⟨b, off + k * 8 + 3, none⟩ = some (.int .i64 x.kind) ∧ (z0.alloc (.cells #[.int .i64 x.dev, .int .i64 x.seq, .int .i64 x.stamp, .int .i64 x.kind, .string x.item, .int .i64 x.qty, .int .i64 x.level, .int .i64 x.undos] 77)).cell? ⟨b, off + k * 8 + 4, none⟩ = some (.string x.item) ∧ (z0.alloc (.cells #[.int .i64 x.dev, .int .i64 x.seq, .int .i64 x.stamp, .int .i64 x.kind, .string x.item, .int .i64 x.qty, .int .i64 x.level, .int .i64 x.undos] 77)).cell? ⟨b, off + k * 8 + 5, none⟩ = some (.int .i64 x.qty) ∧ (z0.alloc (.cells #[.int .i64 x.dev, .int .i64 x.seq, .int .i64 x.stamp, .int .i64 x.kind, .string x.item, .int .i64 x.qty, .int .i64 x.level, .int .i64 x.undos] 77)).cell? ⟨b, off + k * 8 + 6, none⟩ = some (.int .i64 x.level) ∧ (z0.alloc (.cells #[.int .i64 x.dev, .int .i64 x.seq, .int .i64 x.stamp, .int .i64 x.kind, .string x.item, .int .i64 x.qty, .int .i64 x.level, .int .i64 x.undos] 77)).cell? ⟨b, off + k * 8 + 7, none⟩ = some (.int .i64 x.undos) := ⟨(hbz1.cell (by show w.heap.size < ob; omega)).trans hS.1, (hbz1.cell (by show b < ob; omega)).trans hS.2.1, (hbz1.cell (by show b < ob; omega)).trans hS.2.2.1, (hbz1.cell (by show b < ob; omega)).trans hS.2.2.2.1, (hbz1.cell (by show b < ob; omega)).trans hS.2.2.2.2.1, (hbz1.cell (by show b < ob; omega)).trans hS.2.2.2.2.2.1, (hbz1.cell (by show b < ob; omega)).trans hS.2.2.2.2.2.2.1, (hbz1.cell (by show b < ob; omega)).trans hS.2.2.2.2.2.2.2.1, (hbz1.cell (by show b < ob; omega)).trans hS.2.2.2.2.2.2.2.2⟩
  have hS2 : z2.cell? ⟨w.heap.size, 1, none⟩ = some (.slice (some ⟨b, off, none⟩) no co) ∧ z2.cell? ⟨b, off + k * 8, none⟩ = some (.int .i64 x.dev) ∧ z2.cell? ⟨b, off + k * 8 + 1, none⟩ = some (.int .i64 x.seq) ∧ z2.cell? ⟨b, off + k * 8 + 2, none⟩ = some (.int .i64 x.stamp) ∧ z2.cell? ⟨b, off + k * 8 + 3, none⟩ = some (.int .i64 x.kind) ∧ z2.cell? ⟨b, off + k * 8 + 4, none⟩ = some (.string x.item) ∧ z2.cell? ⟨b, off + k * 8 + 5, none⟩ = some (.int .i64 x.qty) ∧ z2.cell? ⟨b, off + k * 8 + 6, none⟩ = some (.int .i64 x.level) ∧ z2.cell? ⟨b, off + k * 8 + 7, none⟩ = some (.int .i64 x.undos) := ⟨(hbz2.cell (by show w.heap.size < ob; omega)).trans hS.1, (hbz2.cell (by show b < ob; omega)).trans hS.2.1, (hbz2.cell (by show b < ob; omega)).trans hS.2.2.1, (hbz2.cell (by show b < ob; omega)).trans hS.2.2.2.1, (hbz2.cell (by show b < ob; omega)).trans hS.2.2.2.2.1, (hbz2.cell (by show b < ob; omega)).trans hS.2.2.2.2.2.1, (hbz2.cell (by show b < ob; omega)).trans hS.2.2.2.2.2.2.1, (hbz2.cell (by show b < ob; omega)).trans hS.2.2.2.2.2.2.2.1, (hbz2.cell (by show b < ob; omega)).trans hS.2.2.2.2.2.2.2.2⟩
  have hS3 : (z2.setCell ⟨ob, 1, none⟩ (.slice va2 (L.length + 1) vc2)).cell? ⟨w.heap.size, 1, none⟩ = some (.slice (some ⟨b, off, none⟩) no co) ∧ (z2.setCell ⟨ob, 1, none⟩ (.slice va2 (L.length + 1) vc2)).cell? ⟨b, off + k * 8, none⟩ = some (.int .i64 x.dev) ∧ (z2.setCell ⟨ob, 1, none⟩ (.slice va2 (L.length + 1) vc2)).cell? ⟨b, off + k * 8 + 1, none⟩ = some (.int .i64 x.seq) ∧ (z2.setCell ⟨ob, 1, none⟩ (.slice va2 (L.length + 1) vc2)).cell? ⟨b, off + k * 8 + 2, none⟩ = some (.int .i64 x.stamp) ∧ (z2.setCell ⟨ob, 1, none⟩ (.slice va2 (L.length + 1) vc2)).cell? ⟨b, off + k * 8 + 3, none⟩ = some (.int .i64 x.kind) ∧ (z2.setCell ⟨ob, 1, none⟩ (.slice va2 (L.length + 1) vc2)).cell? ⟨b, off + k * 8 + 4, none⟩ = some (.string x.item) ∧ (z2.setCell ⟨ob, 1, none⟩ (.slice va2 (L.length + 1) vc2)).cell? ⟨b, off + k * 8 + 5, none⟩ = some (.int .i64 x.qty) ∧ (z2.setCell ⟨ob, 1, none⟩ (.slice va2 (L.length + 1) vc2)).cell? ⟨b, off + k * 8 + 6, none⟩ = some (.int .i64 x.level) ∧ (z2.setCell ⟨ob, 1, none⟩ (.slice va2 (L.length + 1) vc2)).cell? ⟨b, off + k * 8 + 7, none⟩ = some (.int .i64 x.undos) := ⟨(hbz3.cell (by show w.heap.size < ob; omega)).trans hS.1, (hbz3.cell (by show b < ob; omega)).trans hS.2.1, (hbz3.cell (by show b < ob; omega)).trans hS.2.2.1, (hbz3.cell (by show b < ob; omega)).trans hS.2.2.2.1, (hbz3.cell (by show b < ob; omega)).trans hS.2.2.2.2.1, (hbz3.cell (by show b < ob; omega)).trans hS.2.2.2.2.2.1, (hbz3.cell (by show b < ob; omega)).trans hS.2.2.2.2.2.2.1, (hbz3.cell (by show b < ob; omega)).trans hS.2.2.2.2.2.2.2.1, (hbz3.cell (by show b < ob; omega)).trans hS.2.2.2.2.2.2.2.2⟩
  clear hSw HOB HROW row0 hb0z
  go_wp2_with fail
  refine wp_region_held_drew (S := fun w' => w'.cell? ⟨w.heap.size, 1, none⟩ = some (.slice (some ⟨b, off, none⟩) no co) ∧ w'.cell? ⟨b, off + k * 8, none⟩ = some (.int .i64 x.dev) ∧ w'.cell? ⟨b, off + k * 8 + 1, none⟩ = some (.int .i64 x.seq) ∧ w'.cell? ⟨b, off + k * 8 + 2, none⟩ = some (.int .i64 x.stamp) ∧ w'.cell? ⟨b, off + k * 8 + 3, none⟩ = some (.int .i64 x.kind) ∧ w'.cell? ⟨b, off + k * 8 + 4, none⟩ = some (.string x.item) ∧ w'.cell? ⟨b, off + k * 8 + 5, none⟩ = some (.int .i64 x.qty) ∧ w'.cell? ⟨b, off + k * 8 + 6, none⟩ = some (.int .i64 x.level) ∧ w'.cell? ⟨b, off + k * 8 + 7, none⟩ = some (.int .i64 x.undos)) (by kernel_rfl) (by rw [hz0e]; exact hS) (fun hHeld => ?_)
  rw [hz0e]
  clear hHeld
  refine tk 0 ⟨some 52, .fieldAddr 29 (.tmp 5) 1, 0, "l07_deltas.go:27", #[], none⟩ ?_
  (try simp only [Act.put, u1, u2, u3])
  refine tk 2 ⟨some 54, .fieldAddr 29 (.tmp 2) 1, 0, "l07_deltas.go:27", #[], none⟩ ?_
  (try simp only [Act.put, u1, u2, u3])
  refine tk 3 ⟨some 55, .load 27 (.tmp 54), 27, "l07_deltas.go:27", #[⟨2, .data⟩], none⟩ ?_
  (try simp only [Act.put, u1, u2, u3])
  refine tk 4 ⟨some 56, .move (.tmp 6), 3, "l07_deltas.go:27", #[], none⟩ ?_
  (try simp only [Act.put, u1, u2, u3])
  refine tk 5 ⟨some 57, .indexAddr 27 (.tmp 55) (.tmp 56), 0, "l07_deltas.go:27", #[⟨3, .data⟩, ⟨4, .data⟩], none⟩ ?_
  (try simp only [Act.put, u1, u2, u3])
  refine tk 6 ⟨some 58, .load 77 (.tmp 57), 77, "l07_deltas.go:27", #[⟨5, .data⟩], none⟩ ?_
  (try simp only [Act.put, u1, u2, u3])
  refine wpAnyH_ready (rs := [1, 7]) (by kernel_rfl) (by simp) ?_
  refine AllReadyH.cons rfl (fun K hK => ?_) (AllReadyH.cons rfl (fun K hK => ?_) AllReadyH.nil)
  all_goals go_simp
  ·refine hK.out _ _ hSd (fun hHeld7 => ?_)
   clear hK K
   (try simp only [Act.put, u1, u2, u3])
   refine rk 7 rfl (fun K hK => ?_)
   go_simp
   refine hK.out _ _ hS1 (fun hHeld6 => ?_)
   clear hK K
   (try simp only [Act.put, u1, u2, u3])
   refine rk 8 rfl (fun K hK => ?_)
   rw [if_pos (by rfl)]
   refine opwp_append _ _ _ rfl _ _ rfl rfl hrun ?_
   refine hK.out _ _ hS2 (fun hHeld8 => ?_)
   clear hK K
   (try simp only [Act.put, u1, u2, u3])
   refine tk 9 ⟨some 61, .fieldAddr 29 (.tmp 5) 1, 0, "l07_deltas.go:27", #[⟨0, .phase⟩, ⟨1, .phase⟩, ⟨2, .phase⟩, ⟨3, .phase⟩, ⟨4, .phase⟩, ⟨5, .phase⟩, ⟨6, .phase⟩, ⟨7, .phase⟩, ⟨8, .phase⟩], none⟩ ?_
   (try simp only [Act.put, u1, u2, u3])
   refine rk 10 rfl (fun K hK => ?_)
   go_simp
   refine hK.out _ _ hS3 (fun hHeld9 => ?_)
   clear hK K
   (try simp only [Act.put, u1, u2, u3])
   refine wpAnyH_done (by kernel_rfl) ?_ _
   have HOn : Hid (OutD ob vb zc ((l.take (k + 1)).filter (delB m)) w2 (z2.setCell ⟨ob, 1, none⟩ (.slice va2 (L.length + 1) vc2))) := by
    show OutD _ _ _ _ _ _
    unfold OutD
    rw [HE.out, opCells_snoc, List.length_append]
    exact ⟨va2, vc2, HBOX3.out, HROW3.out, HBL.out.trans HBEL3.out⟩
   clear HBOX3 HROW3 HBEL3 hSd hS1 hS2 hS3 hS ob0 ob1 ob2 o1 o11 o12 fz2 hrun hown2 hgr row1 hbz1 hbz2 hbz3 hHeld6 hHeld7 hHeld8 hHeld9
   go_wp2
   go_roundw
   case rel => exact ⟨k + 1, by omega, by go_num, HOn⟩
   case measure => simp [intOf]; omega
  ·refine hK.out _ _ hS1 (fun hHeld7 => ?_)
   clear hK K
   (try simp only [Act.put, u1, u2, u3])
   refine rk 1 rfl (fun K hK => ?_)
   go_simp
   refine hK.out _ _ hS1 (fun hHeld6 => ?_)
   clear hK K
   (try simp only [Act.put, u1, u2, u3])
   refine rk 8 rfl (fun K hK => ?_)
   rw [if_pos (by rfl)]
   refine opwp_append _ _ _ rfl _ _ rfl rfl hrun ?_
   refine hK.out _ _ hS2 (fun hHeld8 => ?_)
   clear hK K
   (try simp only [Act.put, u1, u2, u3])
   refine tk 9 ⟨some 61, .fieldAddr 29 (.tmp 5) 1, 0, "l07_deltas.go:27", #[⟨0, .phase⟩, ⟨1, .phase⟩, ⟨2, .phase⟩, ⟨3, .phase⟩, ⟨4, .phase⟩, ⟨5, .phase⟩, ⟨6, .phase⟩, ⟨7, .phase⟩, ⟨8, .phase⟩], none⟩ ?_
   (try simp only [Act.put, u1, u2, u3])
   refine rk 10 rfl (fun K hK => ?_)
   go_simp
   refine hK.out _ _ hS3 (fun hHeld9 => ?_)
   clear hK K
   (try simp only [Act.put, u1, u2, u3])
   refine wpAnyH_done (by kernel_rfl) ?_ _
   have HOn : Hid (OutD ob vb zc ((l.take (k + 1)).filter (delB m)) w2 (z2.setCell ⟨ob, 1, none⟩ (.slice va2 (L.length + 1) vc2))) := by
    show OutD _ _ _ _ _ _
    unfold OutD
    rw [HE.out, opCells_snoc, List.length_append]
    exact ⟨va2, vc2, HBOX3.out, HROW3.out, HBL.out.trans HBEL3.out⟩
   clear HBOX3 HROW3 HBEL3 hSd hS1 hS2 hS3 hS ob0 ob1 ob2 o1 o11 o12 fz2 hrun hown2 hgr row1 hbz1 hbz2 hbz3 hHeld6 hHeld7 hHeld8 hHeld9
   go_wp2
   go_roundw
   case rel => exact ⟨k + 1, by omega, by go_num, HOn⟩
   case measure => simp [intOf]; omega
def DelPostK (ok : Bool) (zs : List Int) (L : List OpV) (w : World) (e : Ending) (w' : World) : Prop := ∃ va vc oa oc, e = .returned (.tuple #[.agg #[.slice va zs.length vc, .slice oa L.length oc], .bool ok]) ∧ Own w' w.heap.size w'.heap.size va zs.length zs ∧ OwnOps w' w.heap.size w'.heap.size oa L.length L ∧ Below w.heap.size w w' ∧ Caps oa L.length oc
set_option linter.unusedSimpArgs false in
set_option maxHeartbeats 40000000 in
theorem specDeltaK (w : World) (B : Nat) (av ao bv bo : Option Addr) (nv cv no co mv dv mo eo : Nat) (xs : List Int) (l : List OpV) (ys : List Int) (m : List OpV) (hx : Ints w B av nv xs) (h : Ops w B ao no l) (hy : Ints w B bv mv ys) (g : Ops w B bo mo m) (hB : B ≤ w.heap.size) (hv : nv ≤ 1048576) (hn : no ≤ 1048576) (hm : ∀ i, i < no → (atOp l i).item.size ≤ 1048576) (hv2 : mv ≤ 1048576) (hn2 : mo ≤ 1048576) (hm2 : ∀ i, i < mo → (atOp m i).item.size ≤ 1048576) :
  Calls Try.prog 22 #[.agg #[.slice av nv cv, .slice ao no co], .agg #[.slice bv mv dv, .slice bo mo eo]] w (DelPostK (mergedB xs l ys m) (delVs xs (mergedB xs l ys m)) (delOs l m (mergedB xs l ys m)) w) := by
 have hT := TriF.mk0 w #[.slice av nv cv, .slice ao no co] #[.slice bv mv dv, .slice bo mo eo] #[.slice none 0 0, .slice none 0 0] 29 29 29
 have HV := Lib.hid (hx.below hT.bel hB)
 have HO := Lib.hid (h.below hT.bel hB)
 have HY := Lib.hid (hy.below hT.bel hB)
 have HG := Lib.hid (g.below hT.bel hB)
 have HT := Lib.hid hT
 have HM := Lib.hid hm
 have HM2 := Lib.hid hm2
 have hBw := hB
 clear hx h hy g hT hB hm hm2
 go_enter Try.func22, Try.ntmps22
 go_wp2_with fail
 generalize ((w.alloc (.cells #[.slice av nv cv, .slice ao no co] 29)).alloc (.cells #[.slice bv mv dv, .slice bo mo eo] 29)).alloc (.cells #[.slice none 0 0, .slice none 0 0] 29) = w0 at HV HO HY HG HT ⊢
 have hsz0 := HT.out.bel.size
 have hsz1 := lt_of_row HT.out.res
 refine (specMerged w0 B av ao bv bo nv cv no co mv dv mo eo xs l ys m HV.out HO.out HY.out HG.out (by omega) hv hn HM.out hv2 hn2 HM2.out).mono ?_
 rintro e w1 ⟨gva, gvc, goa, goc, rfl, -, -, hb1⟩
 have HV1 := Lib.hid (HV.out.below hb1 (by omega))
 have HO1 := Lib.hid (HO.out.below hb1 (by omega))
 have HG1 := Lib.hid (HG.out.below hb1 (by omega))
 have HT1 := Lib.hid (HT.out.next hb1)
 have hs1 := hb1.size
 clear hb1 HV HO HY HG HT
 generalize mergedVs xs ys (mergedB xs l ys m) = gzs
 generalize mergedOs xs ys l m (mergedB xs l ys m) = gls
 obtain ⟨R, hR⟩ : ∃ R, mergedB xs l ys m = R := ⟨_, rfl⟩
 have HR := Lib.hid hR
 clear hR
 rw [HR.out]
 go_upto_region 2 with fail
 have hb2 : Below w1.heap.size w1 (w1.alloc (.cells #[.slice gva gzs.length gvc, .slice goa gls.length goc] 29)) := bl
 generalize w1.alloc (.cells #[.slice gva gzs.length gvc, .slice goa gls.length goc] 29) = w2 at hb2 ⊢
 have HV2 := Lib.hid (HV1.out.below hb2 (by omega))
 have HO2 := Lib.hid (HO1.out.below hb2 (by omega))
 have HG2 := Lib.hid (HG1.out.below hb2 (by omega))
 have HT2 := Lib.hid (HT1.out.next hb2)
 have hs2 := hb2.size
 clear hb2 HV1 HO1 HG1 HT1
 cases R
 ·obtain ⟨r0, r1⟩ := pair_cells HT2.out.res
  obtain ⟨fz0, fz1⟩ := pair_frozen HT2.out.res
  have HXr := Lib.hid (HT2.out.set2S (.slice none 0 0) (.slice none 0 0)).1
  have HBr2 := Lib.hid (HT2.out.set2S (.slice none 0 0) (.slice none 0 0)).2
  go_wp2
  change bodyPost _ _ _ _ _ ((w2.setCell ⟨w.heap.size + 1 + 1, 0, none⟩ (.slice none 0 0)).setCell ⟨w.heap.size + 1 + 1, 1, none⟩ (.slice none 0 0))
  generalize (w2.setCell ⟨w.heap.size + 1 + 1, 0, none⟩ (.slice none 0 0)).setCell ⟨w.heap.size + 1 + 1, 1, none⟩ (.slice none 0 0) = wf at HXr HBr2 ⊢
  obtain ⟨q0, q1⟩ := pair_cells HXr.out
  rw [HR.out]
  exact bodyPost_ret (v := .tuple #[.agg #[.slice none 0 0, .slice none 0 0], .bool false]) (by simp [results, Try.results22, go_sem, q0, q1]) rfl ⟨none, 0, none, 0, rfl, own_nilS _ _ _ _, own_none _ _ _ _, HBr2.out, caps_nil⟩
 have hmc := merged_carts HR.out
 obtain ⟨a0, a1⟩ := pair_cells HT2.out.fst
 obtain ⟨b0, b1⟩ := pair_cells HT2.out.snd
 go_wp2_with fail
 refine (l7Delta w2 B av ao bv bo nv cv no co mv dv mo eo xs l ys m HV2.out HO2.out HG2.out (by omega) hn hn2 hmc.1 hmc.2.1).mono ?_
 have HE : Hid (delOs l m true = l.filter (delB m)) := by show _ = _; rfl
 obtain ⟨L, hLq⟩ : ∃ L, l.filter (delB m) = L := ⟨_, rfl⟩
 rw [hLq] at HE ⊢
 clear hLq
 rintro e w3 ⟨va, vc, oa, oc, rfl, hiv, hop, hb3, hcp⟩
 have HCp := Lib.hid hcp
 clear hcp
 have HT3 := Lib.hid (HT2.out.next hb3)
 have HI := Lib.hid hiv
 have HP := Lib.hid hop
 have hs3 := hb3.size
 clear hiv hop hb3 HV2 HO2 HG2 HT2 a0 a1 b0 b1 hmc
 obtain ⟨r0, r1⟩ := pair_cells HT3.out.res
 obtain ⟨fz0, fz1⟩ := pair_frozen HT3.out.res
 have HXr := Lib.hid (HT3.out.set2S (.slice va xs.length vc) (.slice oa L.length oc)).1
 have HBr2 := Lib.hid (HT3.out.set2S (.slice va xs.length vc) (.slice oa L.length oc)).2
 have HsM : Hid (w3.heap.size = ((w3.setCell ⟨w.heap.size + 1 + 1, 0, none⟩ (.slice va xs.length vc)).setCell ⟨w.heap.size + 1 + 1, 1, none⟩ (.slice oa L.length oc)).heap.size) := (pair_size _ _ _ _).symm
 have HZ6 : Hid (Own ((w3.setCell ⟨w.heap.size + 1 + 1, 0, none⟩ (.slice va xs.length vc)).setCell ⟨w.heap.size + 1 + 1, 1, none⟩ (.slice oa L.length oc)) w2.heap.size w3.heap.size va xs.length xs) := HI.out.kept fun j h1 h2 => pair_other _ _ (by omega)
 have HO6 : Hid (OwnOps ((w3.setCell ⟨w.heap.size + 1 + 1, 0, none⟩ (.slice va xs.length vc)).setCell ⟨w.heap.size + 1 + 1, 1, none⟩ (.slice oa L.length oc)) w2.heap.size w3.heap.size oa L.length L) := HP.out.kept fun j h1 h2 => pair_other _ _ (by omega)
 go_wp2
 change bodyPost _ _ _ _ _ ((w3.setCell ⟨w.heap.size + 1 + 1, 0, none⟩ (.slice va xs.length vc)).setCell ⟨w.heap.size + 1 + 1, 1, none⟩ (.slice oa L.length oc))
 generalize (w3.setCell ⟨w.heap.size + 1 + 1, 0, none⟩ (.slice va xs.length vc)).setCell ⟨w.heap.size + 1 + 1, 1, none⟩ (.slice oa L.length oc) = wf at HXr HBr2 HZ6 HO6 HsM ⊢
 obtain ⟨q0, q1⟩ := pair_cells HXr.out
 have hsm := HsM.out
 rw [HR.out, HE.out]
 exact bodyPost_ret (v := .tuple #[.agg #[.slice va xs.length vc, .slice oa L.length oc], .bool true]) (by simp [results, Try.results22, go_sem, q0, q1]) rfl ⟨va, vc, oa, oc, rfl, HZ6.out.more (by omega) (by omega), HO6.out.more (by omega) (by omega), HBr2.out, HCp.out⟩
end Go.Proofs.Ytdbdmfaphdjdpaa

namespace Go.Proofs.Ytdbdmfaphdjdpaa
set_option maxRecDepth 100000
open Go.RowKit
set_option linter.unusedVariables false

theorem atOp_ext {l m : List OpV} (hl : l.length = m.length) (h : ∀ i, i < l.length → atOp l i = atOp m i) : l = m := by
 refine List.ext_getElem hl fun i h1 h2 => ?_
 have := h i h1
 unfold atOp at this
 rw [List.getD_eq_getElem?_getD, List.getD_eq_getElem?_getD, List.getElem?_eq_getElem h1, List.getElem?_eq_getElem h2] at this
 exact this
/-- A valid cart's operations are those that its set has, by device and number. -/
theorem listP_self {xs : List Int} {l : List OpV} (h : cartB xs l = true) {F : Nat → Nat → OpV} (hF : ∀ d s : Nat, d < 4 → (s : Int) < xs.getD d 0 → F d s = atOp l (stOf xs d + s)) : listP xs F 4 0 = l := by
 have hlen : (listP xs F 4 0).length = stOf xs 4 := listP_len xs F 4 0
 have h4 := (cart_true h).2.2
 refine atOp_ext (by rw [hlen, h4]) fun i hi => ?_
 rw [hlen, h4] at hi
 obtain ⟨d, hd, h1, h2, _, _, _⟩ := cart_at h hi
 have e : stOf xs (d + 1) = stOf xs d + (xs.getD d 0).toNat := rfl
 obtain ⟨s, rfl⟩ : ∃ s, i = stOf xs d + s := ⟨i - stOf xs d, by omega⟩
 rw [listP_at xs F hd (s := s) (by omega)]
 exact hF d s hd (by omega)
theorem mergedB_parts {xs ys : List Int} {l m : List OpV} (h : mergedB xs l ys m = true) : cartB xs l = true ∧ cartB ys m = true ∧ okM l m = true := by
 unfold mergedB at h
 rw [Bool.and_eq_true, Bool.and_eq_true] at h
 exact h
theorem sameB_symm {a b : OpV} (h : sameB a b = true) : sameB b a = true := by
 rw [same_yes h]
 have := same_with (a.with b.undos) a.undos
 rw [with_with] at this
 exact this
theorem same_refl (a : OpV) : sameB a a = true := same_with a a.undos
/-- Of two carts that fit: what both have under a name differs at most in Undos. -/
theorem fit_same {xs ys : List Int} {l m : List OpV} (h : mergedB xs l ys m = true) {d : Nat} (hd : d < 4) {s : Nat} {a b : OpV} (ha : getO l (d : Int) ((s : Int) + 1) = some a) (hb : getO m (d : Int) ((s : Int) + 1) = some b) : b = a.with b.undos := by
 obtain ⟨h1, h2, h3⟩ := mergedB_parts h
 obtain ⟨j, hj, e, rfl⟩ := setF_some _ hb
 have := okM_at h3 hj
 rw [okJ_some (by rw [e.1, e.2]; exact ha)] at this
 have hs := same_yes this
 rw [hs]
 rfl
theorem maxV_symm (xs ys : List Int) : maxV xs ys = maxV ys xs := by
 unfold maxV
 rw [List.zipWith_comm]
 congr 1
 funext a b
 exact Int.max_comm _ _
/-- What is within the second cart leaves it as it is, merged with it. -/
theorem maxV_eq {xs ys : List Int} (h : vecOk xs = true) (h2 : vecOk ys = true) (hle : ∀ d, d < 4 → xs.getD d 0 ≤ ys.getD d 0) : maxV xs ys = ys := by
 have l1 := (vec_at h (d := 0) (by omega)).2.2
 have l2 := (vec_at h2 (d := 0) (by omega)).2.2
 have l3 : (maxV xs ys).length = 4 := by unfold maxV; rw [List.length_zipWith]; omega
 refine List.ext_getElem (by omega) fun i h3 h4 => ?_
 have e := maxV_at l1 l2 (d := i) (by omega)
 have := hle i (by omega)
 rw [Int.max_eq_right this, List.getD_eq_getElem?_getD, List.getD_eq_getElem?_getD, List.getElem?_eq_getElem h3, List.getElem?_eq_getElem h4] at e
 exact e
theorem inCart_parts {xs ys : List Int} {l m : List OpV} (h : inCart xs l ys m = true) : cartB xs l = true ∧ cartB ys m = true ∧ allW m l = true := by
 unfold inCart at h
 rw [Bool.and_eq_true, Bool.and_eq_true] at h
 exact h
theorem in_op {xs ys : List Int} {l m : List OpV} (h : inCart xs l ys m = true) {i : Nat} (hi : i < l.length) : ∃ y, getO m (atOp l i).dev (atOp l i).seq = some y ∧ y = (atOp l i).with y.undos ∧ (atOp l i).undos ≤ y.undos := by
 obtain ⟨h1, h2, h3⟩ := inCart_parts h
 unfold allW at h3
 rw [List.all_eq_true] at h3
 have := h3 i (List.mem_range.2 hi)
 rcases hg : setF m m.length (atOp l i).dev (atOp l i).seq with _ | y
 ·rw [okW_none hg] at this; cases this
 ·rw [okW_some hg, Bool.and_eq_true] at this
  exact ⟨y, hg, same_yes this.1, of_decide_eq_true this.2⟩
theorem in_le {xs ys : List Int} {l m : List OpV} (h : inCart xs l ys m = true) {d : Nat} (hd : d < 4) : xs.getD d 0 ≤ ys.getD d 0 := by
 obtain ⟨h1, h2, _⟩ := inCart_parts h
 have hx := (vec_at (cart_true h1).1 hd).1
 have hy := (vec_at (cart_true h2).1 hd).1
 rcases Int.lt_or_le (ys.getD d 0) (xs.getD d 0) with hlt | hle
 ·exfalso
  obtain ⟨s, hs⟩ : ∃ s : Nat, (s : Int) + 1 = xs.getD d 0 := ⟨(xs.getD d 0 - 1).toNat, by omega⟩
  obtain ⟨h5, h6⟩ := cart_has h1 hd (s := s) (by omega)
  obtain ⟨y, hy1, _, _⟩ := in_op h h5
  rw [h6.1, h6.2] at hy1
  have : getO m (d : Int) ((s : Int) + 1) = none := get_none h2 (by omega)
  rw [this] at hy1
  cases hy1
 ·exact hle
theorem merged_in {xs ys : List Int} {l m : List OpV} (h : inCart xs l ys m = true) : mergedB xs l ys m = true ∧ maxV xs ys = ys ∧ mergeL ys l m = m := by
 obtain ⟨h1, h2, _⟩ := inCart_parts h
 have v1 := (cart_true h1).1
 have v2 := (cart_true h2).1
 have hok : okM l m = true := okM_end fun j hj => by
  rcases hg : getO l (atOp m j).dev (atOp m j).seq with _ | x
  ·exact okJ_none hg
  ·rw [okJ_some hg]
   obtain ⟨i, hi, e, rfl⟩ := setF_some _ hg
   obtain ⟨y, hy1, hy2, _⟩ := in_op h hi
   have : y = atOp m j := by
    rw [e.1, e.2] at hy1
    have h3 := setF_hit (cart_inc h2) m.length (Nat.le_refl _) j hj
    have h4 : some y = some (atOp m j) := hy1.symm.trans h3
    injection h4
   rw [this] at hy2
   rw [hy2]
   exact sameB_symm (same_with _ _)
 have hB : mergedB xs l ys m = true := by rw [mergedB_3 h1 h2]; exact hok
 refine ⟨hB, maxV_eq v1 v2 fun d hd => in_le h hd, listP_self h2 fun d s hd hs => ?_⟩
 have hgm : getO m (d : Int) ((s : Int) + 1) = some (atOp m (stOf ys d + s)) := get_has h2 hd hs
 show joinAt l m _ _ = _
 unfold joinAt
 rw [hgm]
 rcases hl : getO l (d : Int) ((s : Int) + 1) with _ | a
 ·rfl
 ·obtain ⟨i, hi, e, rfl⟩ := setF_some _ hl
  obtain ⟨y, hy1, hy2, hy3⟩ := in_op h hi
  rw [e.1, e.2] at hy1
  have h4 : some y = some (atOp m (stOf ys d + s)) := hy1.symm.trans hgm
  injection h4 with h4
  rw [← h4]
  show (atOp l i).with (max (atOp l i).undos y.undos) = y
  rw [Int.max_eq_right hy3]
  exact hy2.symm
end Go.Proofs.Ytdbdmfaphdjdpaa
