/- Walks and mathematics that several claims share, part 26. -/
import Derived.Test.YtdbdmfaphdjdpaaGu25
import Derived.Test.YtdbdmfaphdjdpaaGu19
import Derived.Test.YtdbdmfaphdjdpaaGu23
import Derived.Deep.Cut
import Derived.Test.YtdbdmfaphdjdpaaGuA
namespace Go.Proofs.Ytdbdmfaphdjdpaa
set_option maxRecDepth 100000
open Go.RowKit

/-- A cart of the call's own, and a flag. -/
def CartPost (ok : Bool) (zs : List Int) (L : List OpV) (w : World) (e : Ending) (w' : World) : Prop := ∃ va vc oa oc mid, e = .returned (.tuple #[.agg #[.slice va zs.length vc, .slice oa L.length oc], .bool ok]) ∧ Own w' w.heap.size mid va zs.length zs ∧ OwnOps w' mid w'.heap.size oa L.length L ∧ w.heap.size ≤ mid ∧ mid ≤ w'.heap.size ∧ Below w.heap.size w w'
/-- The same, and what is known of the operations' capacity. -/
def CartPostK (ok : Bool) (zs : List Int) (L : List OpV) (w : World) (e : Ending) (w' : World) : Prop := ∃ va vc oa oc mid, e = .returned (.tuple #[.agg #[.slice va zs.length vc, .slice oa L.length oc], .bool ok]) ∧ Own w' w.heap.size mid va zs.length zs ∧ OwnOps w' mid w'.heap.size oa L.length L ∧ w.heap.size ≤ mid ∧ mid ≤ w'.heap.size ∧ Below w.heap.size w w' ∧ Caps oa L.length oc
theorem CartPostK.cart {ok : Bool} {zs : List Int} {L : List OpV} {w w' : World} {e : Ending} (h : CartPostK ok zs L w e w') : CartPost ok zs L w e w' := by
 obtain ⟨va, vc, oa, oc, mid, e1, h1, h2, h3, h4, h5, _⟩ := h
 exact ⟨va, vc, oa, oc, mid, e1, h1, h2, h3, h4, h5⟩
theorem own_nil (w : World) (lo hi : Nat) (a : Option Addr) : Own w lo hi a 0 [] := ⟨rfl, fun h => absurd h (by omega)⟩
theorem TriF.set2 {w w1 : World} {x y : Array Value} {z0 z1 : Value} {S T U : TypeId} (h : TriF w w1 x y #[z0, z1] S T U) (u v : Value) :
  ((w1.setCell ⟨w.heap.size + 1 + 1, 0, none⟩ u).setCell ⟨w.heap.size + 1 + 1, 1, none⟩ v).heap[w.heap.size + 1 + 1]? = some (.cells #[u, v] U (0, 0)) ∧ Below w.heap.size w ((w1.setCell ⟨w.heap.size + 1 + 1, 0, none⟩ u).setCell ⟨w.heap.size + 1 + 1, 1, none⟩ v) :=
 ⟨pair_set _ _ h.res, (h.bel.setCell (by show _ ≤ w.heap.size + 1 + 1; omega) _).setCell (by show _ ≤ w.heap.size + 1 + 1; omega) _⟩
theorem nameOfL (x : OpV) (w : World) : Calls Try.prog 67 #[.agg #[.int .i64 x.dev, .int .i64 x.seq, .int .i64 x.stamp, .int .i64 x.kind, .string x.item, .int .i64 x.qty, .int .i64 x.level, .int .i64 x.undos]] w fun e w' => e = .returned (.agg #[.int .i64 x.dev, .int .i64 x.seq]) ∧ Below w.heap.size w w' := nameOf x w
def mergedV (xs ys : List Int) (ok : Bool) : List Int := if ok = true then maxV xs ys else []
def mergedO (xs ys : List Int) (l m : List OpV) (ok : Bool) : List OpV := if ok = true then mergeL (maxV xs ys) l m else []

set_option linter.unusedSimpArgs false in
set_option maxHeartbeats 80000000 in
theorem implMergedK (w : World) (B : Nat) (av ao bv bo : Option Addr) (nv cv no co mv dv mo eo : Nat) (xs : List Int) (l : List OpV) (ys : List Int) (m : List OpV) (hx : Ints w B av nv xs) (h : Ops w B ao no l) (hy : Ints w B bv mv ys) (g : Ops w B bo mo m) (hB : B ≤ w.heap.size) (hv : nv ≤ 1048576) (hc : no ≤ co) (hc2 : Fits no co) (hm : ∀ i, i < no → (atOp l i).item.size ≤ 1048576) (hv2 : mv ≤ 1048576) (he : mo ≤ eo) (he2 : Fits mo eo) (hm2 : ∀ i, i < mo → (atOp m i).item.size ≤ 1048576) :
  Calls Try.prog 17 #[.agg #[.slice av nv cv, .slice ao no co], .agg #[.slice bv mv dv, .slice bo mo eo]] w (CartPostK (mergedB xs l ys m) (mergedV xs ys (mergedB xs l ys m)) (mergedO xs ys l m (mergedB xs l ys m)) w) := by
 have hn1048 : no ≤ 1048576 := hc2.1
 have he1048 : mo ≤ 1048576 := he2.1
 have hT := TriF.mk0 w #[.slice av nv cv, .slice ao no co] #[.slice bv mv dv, .slice bo mo eo] #[.slice none 0 0, .slice none 0 0] 29 29 29
 have HV := Lib.hid (hx.below hT.bel hB)
 have HO := Lib.hid (h.below hT.bel hB)
 have HY := Lib.hid (hy.below hT.bel hB)
 have HG := Lib.hid (g.below hT.bel hB)
 have HT := Lib.hid hT
 have HL := Lib.hid h.1
 have HLm := Lib.hid g.1
 have HM := Lib.hid hm
 have HM2 := Lib.hid hm2
 have hBw := hB
 clear hx h hy g hT hB hm hm2
 go_enter Try.func17, Try.ntmps17
 go_wp2_with fail
 generalize ((w.alloc (.cells #[.slice av nv cv, .slice ao no co] 29)).alloc (.cells #[.slice bv mv dv, .slice bo mo eo] 29)).alloc (.cells #[.slice none 0 0, .slice none 0 0] 29) = w0 at HV HO HY HG HT ⊢
 have hsz0 := HT.out.bel.size
 have hsz1 := lt_of_row HT.out.res
 refine (implCartOk w0 B av ao nv cv no co xs l HV.out HO.out (by omega) hv hc hc2).mono ?_
 rintro e w1 ⟨rfl, hb1⟩
 have HV1 := Lib.hid (HV.out.below hb1 (by omega))
 have HO1 := Lib.hid (HO.out.below hb1 (by omega))
 have HY1 := Lib.hid (HY.out.below hb1 (by omega))
 have HG1 := Lib.hid (HG.out.below hb1 (by omega))
 have HT1 := Lib.hid (HT.out.next hb1)
 have hs1 := hb1.size
 clear hb1 HV HO HY HG HT
 rcases hca : cartB xs l with _ | _
 ·have HF := Lib.hid (mergedB_1 (ys := ys) (m := m) hca)
  clear hca
  obtain ⟨r0, r1⟩ := pair_cells HT1.out.res
  obtain ⟨fz0, fz1⟩ := pair_frozen HT1.out.res
  have HXr := Lib.hid (HT1.out.set2 (.slice none 0 0) (.slice none 0 0)).1
  have HBr2 := Lib.hid (HT1.out.set2 (.slice none 0 0) (.slice none 0 0)).2
  go_wp2
  change bodyPost _ _ _ _ _ ((w1.setCell ⟨w.heap.size + 1 + 1, 0, none⟩ (.slice none 0 0)).setCell ⟨w.heap.size + 1 + 1, 1, none⟩ (.slice none 0 0))
  generalize (w1.setCell ⟨w.heap.size + 1 + 1, 0, none⟩ (.slice none 0 0)).setCell ⟨w.heap.size + 1 + 1, 1, none⟩ (.slice none 0 0) = wf at HXr HBr2 ⊢
  obtain ⟨q0, q1⟩ := pair_cells HXr.out
  have hsf := HBr2.out.size
  exact bodyPost_ret (v := .tuple #[.agg #[.slice none 0 0, .slice none 0 0], .bool false]) (by simp [results, Try.results17, go_sem, q0, q1]) rfl ⟨none, 0, none, 0, w.heap.size, by rw [HF.out]; rfl, by rw [HF.out]; exact own_nil _ _ _ _, by rw [HF.out]; exact own_none _ _ _ _, Nat.le_refl _, hsf, HBr2.out, by rw [HF.out]; exact caps_nil⟩
 obtain ⟨b0, b1⟩ := pair_cells HT1.out.snd
 go_wp2_with fail
 refine (implCartOk w1 B bv bo mv dv mo eo ys m HY1.out HG1.out (by omega) hv2 he he2).mono ?_
 rintro e w2 ⟨rfl, hb2⟩
 have HV2 := Lib.hid (HV1.out.below hb2 (by omega))
 have HO2 := Lib.hid (HO1.out.below hb2 (by omega))
 have HY2 := Lib.hid (HY1.out.below hb2 (by omega))
 have HG2 := Lib.hid (HG1.out.below hb2 (by omega))
 have HT2 := Lib.hid (HT1.out.next hb2)
 have hs2 := hb2.size
 clear hb2 HV1 HO1 HY1 HG1 HT1 b0 b1
 rcases hcb : cartB ys m with _ | _
 ·have HF := Lib.hid (mergedB_2 (xs := xs) (l := l) hcb)
  clear hca hcb
  obtain ⟨r0, r1⟩ := pair_cells HT2.out.res
  obtain ⟨fz0, fz1⟩ := pair_frozen HT2.out.res
  have HXr := Lib.hid (HT2.out.set2 (.slice none 0 0) (.slice none 0 0)).1
  have HBr2 := Lib.hid (HT2.out.set2 (.slice none 0 0) (.slice none 0 0)).2
  go_wp2
  change bodyPost _ _ _ _ _ ((w2.setCell ⟨w.heap.size + 1 + 1, 0, none⟩ (.slice none 0 0)).setCell ⟨w.heap.size + 1 + 1, 1, none⟩ (.slice none 0 0))
  generalize (w2.setCell ⟨w.heap.size + 1 + 1, 0, none⟩ (.slice none 0 0)).setCell ⟨w.heap.size + 1 + 1, 1, none⟩ (.slice none 0 0) = wf at HXr HBr2 ⊢
  obtain ⟨q0, q1⟩ := pair_cells HXr.out
  have hsf := HBr2.out.size
  exact bodyPost_ret (v := .tuple #[.agg #[.slice none 0 0, .slice none 0 0], .bool false]) (by simp [results, Try.results17, go_sem, q0, q1]) rfl ⟨none, 0, none, 0, w.heap.size, by rw [HF.out]; rfl, by rw [HF.out]; exact own_nil _ _ _ _, by rw [HF.out]; exact own_none _ _ _ _, Nat.le_refl _, hsf, HBr2.out, by rw [HF.out]; exact caps_nil⟩
 have HF := Lib.hid (mergedB_3 hca hcb)
 have HInc := Lib.hid (cart_inc hcb)
 have hfl : ∀ i, i < no → Fit2 (atOp l i).dev (atOp l i).seq := fun i hi => cart_fit hca (by rw [HL.out]; exact hi)
 have HFm := Lib.hid (fun i (hi : i < m.length) => cart_fit hcb hi)
 have HCa := Lib.hid hca
 have HCb := Lib.hid hcb
 clear hca hcb
 obtain ⟨a0, a1⟩ := pair_cells HT2.out.fst
 have hnol : no ≤ 1048576 := by omega
 go_wp2_with fail
 refine (opSetOf w2 B ao no co l HO2.out (by omega) hnol hfl).mono ?_
 rintro e w3 ⟨sb, rfl, hsb, hset, hb3⟩
 have HS3 : Hid (SetIs w3 sb (no + 0) (mixF l m 0)) := by have := hset; rw [← HL.out] at this ⊢; exact this
 have HB3 := Lib.hid hb3
 have HT3 := Lib.hid (HT2.out.next hb3)
 have hs3 := hb3.size
 clear hb3 hset hfl a0 a1
 obtain ⟨b0, b1⟩ := pair_cells HT3.out.snd
 go_wp2
 go_loopw [30] (fun i wr => ∃ k : Nat, k ≤ mo ∧ i = .int .i64 (k : Int) ∧ Hid (SetIs wr sb (no + k) (mixF l m k)) ∧ Hid (∀ j, j < k → okJ l (atOp m j) = true) ∧ Hid (Below w2.heap.size w2 wr)) (fun i _ => mo - (intOf i).toNat)
 case atStart => exact ⟨0, by omega, rfl, HS3, Lib.hid (fun j hj => absurd hj (by omega)), HB3⟩
 case round =>
  obtain ⟨k, hk, rfl, HSr, HK, HBr⟩ := hrel
  clear HS3 HB3 b0 b1
  have hsr := HBr.out.size
  have HTr := Lib.hid (HT2.out.next HBr.out)
  by_cases hlt : k < mo
  rotate_left
  ·obtain rfl : k = mo := by omega
   have hok := okM_end (l := l) (m := m) (fun i hi => HK.out i (by rw [← HLm.out]; exact hi))
   have HE : Hid (mergedB xs l ys m = true) := by show _ = _; rw [HF.out, hok]
   have hvA := (cart_true HCa.out).1
   have hvB := (cart_true HCb.out).1
   have hv4 := (vec_at hvA (d := 0) (by omega)).2.2
   have hv4b := (vec_at hvB (d := 0) (by omega)).2.2
   have HVm := Lib.hid (maxV_ok hvA hvB)
   have HZv : Hid (vecZip max xs ys = maxV xs ys) := by show _ = _; rw [vecZip_yes (by rw [hvA, hvB]; rfl)]; rfl
   have hz4 : (maxV xs ys).length = 4 := (vec_at HVm.out (d := 0) (by omega)).2.2
   have HGl : Hid (∀ d, d < 4 → ∀ s : Nat, (s : Int) < (maxV xs ys).getD d 0 → mixF l m k (d : Int) ((s : Int) + 1) = some (mergeF l m d s)) := fun d hd s hs => by
    rw [maxV_at hv4 hv4b hd] at hs
    have := mix_join HCa.out HCb.out hok hd hs
    rw [HLm.out] at this
    exact this
   have HIt : Hid (∀ d s, (mergeF l m d s).item.size ≤ 1048576) := fun d s => merge_items (N := 1048576) (fun i hi => HM.out i (by rw [← HL.out]; exact hi)) (fun i hi => HM2.out i (by rw [← HLm.out]; exact hi)) d s
   have HLs : Hid (mergeL (maxV xs ys) l m = listP (maxV xs ys) (mergeF l m) 4 0) := rfl
   have HMv : Hid (mergedV xs ys (mergedB xs l ys m) = maxV xs ys) := by show _ = _; rw [HE.out]; rfl
   have HMo : Hid (mergedO xs ys l m (mergedB xs l ys m) = mergeL (maxV xs ys) l m) := by show _ = _; rw [HE.out]; rfl
   have HVr := Lib.hid (HV2.out.below HBr.out (by omega))
   have HYr := Lib.hid (HY2.out.below HBr.out (by omega))
   clear hok hvA hvB hv4 hv4b HK HF HCa HCb HFm HInc
   obtain ⟨a0, a1⟩ := pair_cells HTr.out.fst
   obtain ⟨b0, b1⟩ := pair_cells HTr.out.snd
   go_wp2_with fail
   refine (implMax wr B av bv nv cv mv dv xs ys HVr.out HYr.out (by omega) hv hv2).mono ?_
   rintro e w5 ⟨va, vc, rfl, hown, hb5⟩
   rw [HZv.out, hz4] at hown ⊢
   have HS5 := Lib.hid (HSr.out.below hb5)
   have HT5 := Lib.hid (HTr.out.next hb5)
   have HOw := Lib.hid hown
   have hs5 := hb5.size
   clear hown hb5 HVr HYr HTr HSr a0 a1 b0 b1 HZv
   go_wp2_with fail
   refine (listed w5 w5.heap.size va vc (maxV xs ys) HOw.out.ints (Nat.le_refl _) HVm.out sb (no + k) (mixF l m k) HS5.out (by omega) (mergeF l m) HGl.out HIt.out).mono ?_
   rintro e w6 ⟨oa, oc, rfl, hcc, hop, hb6⟩
   have HT6 := Lib.hid (HT5.out.next hb6)
   have HOw6 := Lib.hid (HOw.out.below hb6 (Nat.le_refl _))
   have HOp := Lib.hid hop
   have HCc := Lib.hid hcc
   have hs6 := hb6.size
   rw [← HLs.out] at HOp HCc ⊢
   clear hop hb6 hcc HT5 HOw HS5 HGl HIt HVm HLs
   generalize mergeL (maxV xs ys) l m = L at HOp HMo HCc ⊢
   obtain ⟨r0, r1⟩ := pair_cells HT6.out.res
   obtain ⟨fz0, fz1⟩ := pair_frozen HT6.out.res
   have hlt6 := lt_of_row HT2.out.res
   have HXr := Lib.hid (HT6.out.set2 (.slice va 4 vc) (.slice oa L.length oc)).1
   have HBr2 := Lib.hid (HT6.out.set2 (.slice va 4 vc) (.slice oa L.length oc)).2
   have HOv7 : Hid (Own ((w6.setCell ⟨w.heap.size + 1 + 1, 0, none⟩ (.slice va 4 vc)).setCell ⟨w.heap.size + 1 + 1, 1, none⟩ (.slice oa L.length oc)) wr.heap.size w5.heap.size va 4 (maxV xs ys)) := HOw6.out.kept fun q h1 h2 => pair_other _ _ (by omega)
   have HOp7 : Hid (OwnOps ((w6.setCell ⟨w.heap.size + 1 + 1, 0, none⟩ (.slice va 4 vc)).setCell ⟨w.heap.size + 1 + 1, 1, none⟩ (.slice oa L.length oc)) w5.heap.size w6.heap.size oa L.length L) := HOp.out.kept fun q h1 h2 => pair_other _ _ (by omega)
   have hsz7 : ((w6.setCell ⟨w.heap.size + 1 + 1, 0, none⟩ (.slice va 4 vc)).setCell ⟨w.heap.size + 1 + 1, 1, none⟩ (.slice oa L.length oc)).heap.size = w6.heap.size := pair_size _ _ _ _
   go_wp2
   change bodyPost _ _ _ _ _ ((w6.setCell ⟨w.heap.size + 1 + 1, 0, none⟩ (.slice va 4 vc)).setCell ⟨w.heap.size + 1 + 1, 1, none⟩ (.slice oa L.length oc))
   generalize (w6.setCell ⟨w.heap.size + 1 + 1, 0, none⟩ (.slice va 4 vc)).setCell ⟨w.heap.size + 1 + 1, 1, none⟩ (.slice oa L.length oc) = wf at HXr HBr2 HOv7 HOp7 hsz7 ⊢
   obtain ⟨q0, q1⟩ := pair_cells HXr.out
   exact bodyPost_ret (v := .tuple #[.agg #[.slice va 4 vc, .slice oa L.length oc], .bool true]) (by simp [results, Try.results17, go_sem, q0, q1]) rfl ⟨va, vc, oa, oc, w5.heap.size, by rw [HMv.out, HMo.out, HE.out, hz4], by rw [HMv.out, hz4]; exact HOv7.out.more (by omega) (Nat.le_refl _), by rw [HMo.out]; exact HOp7.out.more (Nat.le_refl _) (by omega), by omega, by omega, HBr2.out, by rw [HMo.out]; exact HCc.out⟩
  have hkm : k < m.length := by rw [HLm.out]; exact hlt
  have HStop : Hid (okJ l (atOp m k) = false → mergedB xs l ys m = false) := fun h => by rw [HF.out]; exact okM_stop hkm h
  have HFk := Lib.hid (HFm.out k hkm)
  have HKs : Hid (okJ l (atOp m k) = true → ∀ j, j < k + 1 → okJ l (atOp m j) = true) := fun h j hj => by
   rcases Nat.lt_or_ge j k with h1 | h1
   ·exact HK.out j h1
   ·obtain rfl : j = k := by omega
    exact h
  have HS6s : Hid (sb < wr.heap.size) := HSr.out.lt
  have HNx := Lib.hid (mixF_next (l := l) HInc.out hkm)
  have HSt : Hid (mixF l m (k + 1) = putF (mixF l m k) (jn l (atOp m k))) := rfl
  have HGr := Lib.hid (HG2.out.below HBr.out (by omega))
  obtain ⟨b, off, rfl, hb, ho⟩ := HGr.out.2 k hlt
  have HOk : Hid (OpAt wr b (off + k * 8) (atOp m k)) := ho
  have HN : Hid (getO l (atOp m k).dev (atOp m k).seq = none → okJ l (atOp m k) = true ∧ jn l (atOp m k) = atOp m k) := fun h => ⟨okJ_none h, jn_none h⟩
  have HY : Hid (∀ y, getO l (atOp m k).dev (atOp m k).seq = some y → okJ l (atOp m k) = sameB (atOp m k) y ∧ jn l (atOp m k) = (atOp m k).with (max (atOp m k).undos y.undos)) := fun y h => ⟨okJ_some h, jn_some h⟩
  clear ho HK HGr
  generalize atOp m k = x at HOk HFk HKs HStop HNx HSt HN HY
  obtain ⟨d0, d1, d2, d3, d4, d5, d6, d7⟩ := HOk.out
  go_upto_region 7 with fail
  have hb4 : Below wr.heap.size wr (wr.alloc (.cells #[.int .i64 x.dev, .int .i64 x.seq, .int .i64 x.stamp, .int .i64 x.kind, .string x.item, .int .i64 x.qty, .int .i64 x.level, .int .i64 x.undos] 77)) := bl
  have HX4 := Lib.hid (boxAt (Below.refl _ (wr.alloc (.cells #[.int .i64 x.dev, .int .i64 x.seq, .int .i64 x.stamp, .int .i64 x.kind, .string x.item, .int .i64 x.qty, .int .i64 x.level, .int .i64 x.undos] 77))))
  have HS4 := Lib.hid (HSr.out.below hb4)
  have HB4 := Lib.hid (HBr.out.trans (hb4.mono (by omega)))
  clear d0 d1 d2 d3 d4 d5 d6 d7 HOk HSr
  generalize wr.alloc (.cells #[.int .i64 x.dev, .int .i64 x.seq, .int .i64 x.stamp, .int .i64 x.kind, .string x.item, .int .i64 x.qty, .int .i64 x.level, .int .i64 x.undos] 77) = w4 at hb4 HX4 HS4 HB4 ⊢
  have hs4 := hb4.size
  have hx4 := lt_of_row HX4.out
  generalize wr.heap.size = nb at HX4 hs4 hsr hx4 HS6s ⊢
  clear hb4 HTr HBr
  obtain ⟨e0, e1, e2, e3, e4, e5, e6, e7⟩ := op_cells HX4.out
  go_wp2_with fail
  refine (nameOfL x w4).mono ?_
  rintro e w5 ⟨rfl, hb5⟩
  have HX5 := Lib.hid ((hb5.block _ hx4).trans HX4.out)
  have HS5 := Lib.hid (HS4.out.below hb5)
  have HB5 := Lib.hid (HB4.out.trans (hb5.mono (by omega)))
  have hs5 := hb5.size
  clear hb5 HX4 HS4 HB4 e0 e1 e2 e3 e4 e5 e6 e7
  go_upto_region 8 with fail
  have hb6 : Below w5.heap.size w5 (w5.alloc (.cells #[.int .i64 x.dev, .int .i64 x.seq] 94)) := bl
  have HN6 := Lib.hid (boxAt (Below.refl _ (w5.alloc (.cells #[.int .i64 x.dev, .int .i64 x.seq] 94))))
  have HX6 := Lib.hid ((hb6.block _ (by omega)).trans HX5.out)
  have HS6 := Lib.hid (HS5.out.below hb6)
  have HB6 := Lib.hid (HB5.out.trans (hb6.mono (by omega)))
  generalize w5.alloc (.cells #[.int .i64 x.dev, .int .i64 x.seq] 94) = w6 at hb6 HN6 HX6 HS6 HB6 ⊢
  have hs6 := hb6.size
  have hn6 := lt_of_row HN6.out
  generalize w5.heap.size = nn at HN6 hs6 hn6 hs5 ⊢
  clear hb6 HX5 HS5 HB5
  have hlk := (HS6.out.look HFk.out).1
  rw [HNx.out] at hlk
  obtain ⟨n0, n1⟩ := pair_cells HN6.out
  rcases hg : getO l x.dev x.seq with _ | y
  ·rw [hg] at hlk
   obtain ⟨hok, hjn⟩ := HN.out hg
   have HE := Lib.hid (HKs.out hok)
   rw [hjn] at HSt
   have hlk2 : (Instr.lookup 91 (.map (some sb)) (.agg #[.int .i64 x.dev, .int .i64 x.seq]) true).run Try.prog w6 = .ok (.tuple #[.agg #[.int .i64 0, .int .i64 0, .int .i64 0, .int .i64 0, .string ⟨#[]⟩, .int .i64 0, .int .i64 0, .int .i64 0], .bool false]) w6 := hlk
   clear hlk hg hok hjn
   go_upto_region 14 with fail
   have hb7 : Below w6.heap.size w6 (w6.alloc (.cells #[.int .i64 0, .int .i64 0, .int .i64 0, .int .i64 0, .string ⟨#[]⟩, .int .i64 0, .int .i64 0, .int .i64 0] 77)) := bl
   have HZ7 := Lib.hid (boxAt (Below.refl _ (w6.alloc (.cells #[.int .i64 0, .int .i64 0, .int .i64 0, .int .i64 0, .string ⟨#[]⟩, .int .i64 0, .int .i64 0, .int .i64 0] 77))))
   have HX7 := Lib.hid ((hb7.block _ (by omega)).trans HX6.out)
   have HN7 := Lib.hid ((hb7.block _ (by omega)).trans HN6.out)
   have HS7 := Lib.hid (HS6.out.below hb7)
   have HB7 := Lib.hid (HB6.out.trans (hb7.mono (by omega)))
   generalize w6.alloc (.cells #[.int .i64 0, .int .i64 0, .int .i64 0, .int .i64 0, .string ⟨#[]⟩, .int .i64 0, .int .i64 0, .int .i64 0] 77) = w7 at hb7 HZ7 HX7 HN7 HS7 HB7 ⊢
   have hnz := hb7.size
   have hnzx := lt_of_row HZ7.out
   generalize w6.heap.size = nz at HZ7 hnz hnzx hs6 ⊢
   clear hb7 HX6 HN6 HS6 HB6 hlk2 n0 n1
   obtain ⟨e0, e1, e2, e3, e4, e5, e6, e7⟩ := op_cells HX7.out
   obtain ⟨n0, n1⟩ := pair_cells HN7.out
   obtain ⟨w9, hrun0, hset, hgr⟩ := HS7.out.put (by unfold maxLen; omega) (x) (by exact HFk.out)
   have hrun : (Instr.mapUpdate 91 (.map (some sb)) (.agg #[.int .i64 x.dev, .int .i64 x.seq]) (.agg #[.int .i64 x.dev, .int .i64 x.seq, .int .i64 x.stamp, .int .i64 x.kind, .string x.item, .int .i64 x.qty, .int .i64 x.level, .int .i64 x.undos])).run Try.prog w7 = .ok () w9 := hrun0
   have HB9 : Hid (Below w2.heap.size w2 w9) := HB7.out.grown hgr HB7.out.size (fun j hj => by cases hj; exact hsb)
   have HSet : Hid (SetIs w9 sb (no + (k + 1)) (mixF l m (k + 1))) := by show SetIs _ _ _ _; rw [HSt.out]; exact hset
   clear hrun0 hset hgr
   go_wp2
   go_roundw
   case rel => exact ⟨k + 1, by omega, by go_num, HSet, HE, HB9⟩
   case measure => simp [intOf]; omega
  obtain ⟨hoy, hjy⟩ := HY.out y hg
  have HOy := Lib.hid hoy
  have HJy := Lib.hid hjy
  rw [hg] at hlk
  clear hg hoy hjy
  rcases hsm : sameB x y with _ | _
  ·have HF2 := Lib.hid (HStop.out (by rw [HOy.out, hsm]))
   have HSm := Lib.hid hsm
   have hlk2 : (Instr.lookup 91 (.map (some sb)) (.agg #[.int .i64 x.dev, .int .i64 x.seq]) true).run Try.prog w6 = .ok (.tuple #[.agg #[.int .i64 y.dev, .int .i64 y.seq, .int .i64 y.stamp, .int .i64 y.kind, .string y.item, .int .i64 y.qty, .int .i64 y.level, .int .i64 y.undos], .bool true]) w6 := hlk
   clear hlk hsm HF HCa HCb HFm HInc
   have HF := HF2
   go_upto_region 9 with fail
   have hb7 : Below w6.heap.size w6 (w6.alloc (.cells #[.int .i64 y.dev, .int .i64 y.seq, .int .i64 y.stamp, .int .i64 y.kind, .string y.item, .int .i64 y.qty, .int .i64 y.level, .int .i64 y.undos] 77)) := bl
   have HZ7 := Lib.hid (boxAt (Below.refl _ (w6.alloc (.cells #[.int .i64 y.dev, .int .i64 y.seq, .int .i64 y.stamp, .int .i64 y.kind, .string y.item, .int .i64 y.qty, .int .i64 y.level, .int .i64 y.undos] 77))))
   have HX7 := Lib.hid ((hb7.block _ (by omega)).trans HX6.out)
   have HN7 := Lib.hid ((hb7.block _ (by omega)).trans HN6.out)
   have HS7 := Lib.hid (HS6.out.below hb7)
   have HB7 := Lib.hid (HB6.out.trans (hb7.mono (by omega)))
   generalize w6.alloc (.cells #[.int .i64 y.dev, .int .i64 y.seq, .int .i64 y.stamp, .int .i64 y.kind, .string y.item, .int .i64 y.qty, .int .i64 y.level, .int .i64 y.undos] 77) = w7 at hb7 HZ7 HX7 HN7 HS7 HB7 ⊢
   have hnz := hb7.size
   have hnzx := lt_of_row HZ7.out
   generalize w6.heap.size = nz at HZ7 hnz hnzx hs6 ⊢
   clear hb7 HX6 HN6 HS6 HB6 hlk2 n0 n1
   obtain ⟨e0, e1, e2, e3, e4, e5, e6, e7⟩ := op_cells HX7.out
   obtain ⟨g0, g1, g2, g3, g4, g5, g6, g7⟩ := op_cells HZ7.out
   go_wp2_with fail
   refine (joinedNo x y HSm.out w7).mono ?_
   rintro e w8 ⟨rfl, hb8⟩
   have HB8 := Lib.hid (HB7.out.trans (hb8.mono (by omega)))
   have hs8 := hb8.size
   clear hb8 e0 e1 e2 e3 e4 e5 e6 e7 g0 g1 g2 g3 g4 g5 g6 g7 HX7 HZ7 HS7 HN7 HB7
   go_upto_region 11 with fail
   have hb9 : Below w8.heap.size w8 (w8.alloc (.cells #[.int .i64 0, .int .i64 0, .int .i64 0, .int .i64 0, .string ⟨#[]⟩, .int .i64 0, .int .i64 0, .int .i64 0] 77)) := bl
   have HB9 := Lib.hid (HB8.out.trans (hb9.mono (by omega)))
   generalize w8.alloc (.cells #[.int .i64 0, .int .i64 0, .int .i64 0, .int .i64 0, .string ⟨#[]⟩, .int .i64 0, .int .i64 0, .int .i64 0] 77) = w9 at hb9 HB9 ⊢
   have HT9 := Lib.hid (HT2.out.next HB9.out)
   clear hb9
   obtain ⟨r0, r1⟩ := pair_cells HT9.out.res
   obtain ⟨fz0, fz1⟩ := pair_frozen HT9.out.res
   have HXr := Lib.hid (HT9.out.set2 (.slice none 0 0) (.slice none 0 0)).1
   have HBr2 := Lib.hid (HT9.out.set2 (.slice none 0 0) (.slice none 0 0)).2
   go_wp2
   change bodyPost _ _ _ _ _ ((w9.setCell ⟨w.heap.size + 1 + 1, 0, none⟩ (.slice none 0 0)).setCell ⟨w.heap.size + 1 + 1, 1, none⟩ (.slice none 0 0))
   generalize (w9.setCell ⟨w.heap.size + 1 + 1, 0, none⟩ (.slice none 0 0)).setCell ⟨w.heap.size + 1 + 1, 1, none⟩ (.slice none 0 0) = wf at HXr HBr2 ⊢
   obtain ⟨q0, q1⟩ := pair_cells HXr.out
   have hsf := HBr2.out.size
   exact bodyPost_ret (v := .tuple #[.agg #[.slice none 0 0, .slice none 0 0], .bool false]) (by simp [results, Try.results17, go_sem, q0, q1]) rfl ⟨none, 0, none, 0, w.heap.size, by rw [HF.out]; rfl, by rw [HF.out]; exact own_nil _ _ _ _, by rw [HF.out]; exact own_none _ _ _ _, Nat.le_refl _, hsf, HBr2.out, by rw [HF.out]; exact caps_nil⟩
  obtain ⟨u, rfl⟩ : ∃ u, y = x.with u := ⟨_, same_yes hsm⟩
  have hlk2 : (Instr.lookup 91 (.map (some sb)) (.agg #[.int .i64 x.dev, .int .i64 x.seq]) true).run Try.prog w6 = .ok (.tuple #[.agg #[.int .i64 x.dev, .int .i64 x.seq, .int .i64 x.stamp, .int .i64 x.kind, .string x.item, .int .i64 x.qty, .int .i64 x.level, .int .i64 u], .bool true]) w6 := hlk
  have HE := Lib.hid (HKs.out (by rw [HOy.out, hsm]))
  clear hlk hsm HOy
  have HS6lt : Hid (sb < nb) := by show sb < nb; have := HS6s.out; omega
  go_upto_region 9 with fail
  have hb7 : Below w6.heap.size w6 (w6.alloc (.cells #[.int .i64 x.dev, .int .i64 x.seq, .int .i64 x.stamp, .int .i64 x.kind, .string x.item, .int .i64 x.qty, .int .i64 x.level, .int .i64 u] 77)) := bl
  have HZ7 := Lib.hid (boxAt (Below.refl _ (w6.alloc (.cells #[.int .i64 x.dev, .int .i64 x.seq, .int .i64 x.stamp, .int .i64 x.kind, .string x.item, .int .i64 x.qty, .int .i64 x.level, .int .i64 u] 77))))
  have HX7 := Lib.hid ((hb7.block _ (by omega)).trans HX6.out)
  have HN7 := Lib.hid ((hb7.block _ (by omega)).trans HN6.out)
  have HS7 := Lib.hid (HS6.out.below hb7)
  have HB7 := Lib.hid (HB6.out.trans (hb7.mono (by omega)))
  generalize w6.alloc (.cells #[.int .i64 x.dev, .int .i64 x.seq, .int .i64 x.stamp, .int .i64 x.kind, .string x.item, .int .i64 x.qty, .int .i64 x.level, .int .i64 u] 77) = w7 at hb7 HZ7 HX7 HN7 HS7 HB7 ⊢
  have hnz := hb7.size
  have hnzx := lt_of_row HZ7.out
  generalize w6.heap.size = nz at HZ7 hnz hnzx hs6 ⊢
  clear hb7 HX6 HN6 HS6 HB6 hlk2 n0 n1
  obtain ⟨e0, e1, e2, e3, e4, e5, e6, e7⟩ := op_cells HX7.out
  obtain ⟨g0, g1, g2, g3, g4, g5, g6, g7⟩ := op_cells HZ7.out
  go_wp2_with fail
  refine (joinedYes x u w7).mono ?_
  rintro e w8 ⟨rfl, hb8⟩
  have HX8 := Lib.hid ((hb8.block _ (by omega)).trans HX7.out)
  have HN8 := Lib.hid ((hb8.block _ (by omega)).trans HN7.out)
  have HS8 := Lib.hid (HS7.out.below hb8)
  have HB8 := Lib.hid (HB7.out.trans (hb8.mono (by omega)))
  have hs8 := hb8.size
  clear hb8 e0 e1 e2 e3 e4 e5 e6 e7 g0 g1 g2 g3 g4 g5 g6 g7 HX7 HZ7 HS7 HN7 HB7
  have HJx : Hid (putF (mixF l m k) (x.with (max x.undos u)) = mixF l m (k + 1)) := by show _ = _; rw [HSt.out, HJy.out]; rfl
  generalize max x.undos u = mx at HJx ⊢
  go_upto_region 11 with fail
  have hb9 : Below w8.heap.size w8 (w8.alloc (.cells #[.int .i64 x.dev, .int .i64 x.seq, .int .i64 x.stamp, .int .i64 x.kind, .string x.item, .int .i64 x.qty, .int .i64 x.level, .int .i64 mx] 77)) := bl
  have HW9 := Lib.hid (boxAt (Below.refl _ (w8.alloc (.cells #[.int .i64 x.dev, .int .i64 x.seq, .int .i64 x.stamp, .int .i64 x.kind, .string x.item, .int .i64 x.qty, .int .i64 x.level, .int .i64 mx] 77))))
  have HX9 := Lib.hid ((hb9.block _ (by omega)).trans HX8.out)
  have HN9 := Lib.hid ((hb9.block _ (by omega)).trans HN8.out)
  have HS9 := Lib.hid (HS8.out.below hb9)
  have HB9 := Lib.hid (HB8.out.trans (hb9.mono (by omega)))
  generalize w8.alloc (.cells #[.int .i64 x.dev, .int .i64 x.seq, .int .i64 x.stamp, .int .i64 x.kind, .string x.item, .int .i64 x.qty, .int .i64 x.level, .int .i64 mx] 77) = w10 at hb9 HW9 HX9 HN9 HS9 HB9 ⊢
  clear hb9 HX8 HN8 HS8 HB8
  have hsbn : sb ≠ nb := by have := HS6lt.out; omega
  obtain ⟨e0, e1, e2, e3, e4, e5, e6, e7⟩ := op_cells HX9.out
  obtain ⟨g0, g1, g2, g3, g4, g5, g6, g7⟩ := op_cells HW9.out
  obtain ⟨f0, f1, f2, f3, f4, f5, f6, f7⟩ := op_frozen HX9.out
  have HXs := Lib.hid (setOp_same (.int .i64 x.dev) (.int .i64 x.seq) (.int .i64 x.stamp) (.int .i64 x.kind) (.string x.item) (.int .i64 x.qty) (.int .i64 x.level) (.int .i64 mx) HX9.out)
  have HNs : Hid ((setOp w10 nb (.int .i64 x.dev) (.int .i64 x.seq) (.int .i64 x.stamp) (.int .i64 x.kind) (.string x.item) (.int .i64 x.qty) (.int .i64 x.level) (.int .i64 mx)).heap[nn]? = some (.cells #[.int .i64 x.dev, .int .i64 x.seq] 94 (0, 0))) := (setOp_other _ _ _ _ _ _ _ _ (by omega)).trans HN9.out
  have HSs : Hid (SetIs (setOp w10 nb (.int .i64 x.dev) (.int .i64 x.seq) (.int .i64 x.stamp) (.int .i64 x.kind) (.string x.item) (.int .i64 x.qty) (.int .i64 x.level) (.int .i64 mx)) sb (no + k) (mixF l m k)) := HS9.out.kept (setOp_other _ _ _ _ _ _ _ _ hsbn)
  have HBs : Hid (Below w2.heap.size w2 (setOp w10 nb (.int .i64 x.dev) (.int .i64 x.seq) (.int .i64 x.stamp) (.int .i64 x.kind) (.string x.item) (.int .i64 x.qty) (.int .i64 x.level) (.int .i64 mx))) := setOp_below _ _ _ _ _ _ _ _ HB9.out (by omega)
  go_upto_region 14 with fail
  clear e0 e1 e2 e3 e4 e5 e6 e7 g0 g1 g2 g3 g4 g5 g6 g7 f0 f1 f2 f3 f4 f5 f6 f7 HX9 HN9 HS9 HB9 HW9
  change Code.wp _ _ _ _ (setOp w10 nb (.int .i64 x.dev) (.int .i64 x.seq) (.int .i64 x.stamp) (.int .i64 x.kind) (.string x.item) (.int .i64 x.qty) (.int .i64 x.level) (.int .i64 mx))
  generalize setOp w10 nb (.int .i64 x.dev) (.int .i64 x.seq) (.int .i64 x.stamp) (.int .i64 x.kind) (.string x.item) (.int .i64 x.qty) (.int .i64 x.level) (.int .i64 mx) = w11 at HXs HNs HSs HBs ⊢
  obtain ⟨e0, e1, e2, e3, e4, e5, e6, e7⟩ := op_cells HXs.out
  obtain ⟨n0, n1⟩ := pair_cells HNs.out
  obtain ⟨w9, hrun0, hset, hgr⟩ := HSs.out.put (by unfold maxLen; omega) (x.with mx) (by exact HFk.out)
  have hrun : (Instr.mapUpdate 91 (.map (some sb)) (.agg #[.int .i64 x.dev, .int .i64 x.seq]) (.agg #[.int .i64 x.dev, .int .i64 x.seq, .int .i64 x.stamp, .int .i64 x.kind, .string x.item, .int .i64 x.qty, .int .i64 x.level, .int .i64 mx])).run Try.prog w11 = .ok () w9 := hrun0
  have HB9 : Hid (Below w2.heap.size w2 w9) := HBs.out.grown hgr HBs.out.size (fun j hj => by cases hj; exact hsb)
  have HSet : Hid (SetIs w9 sb (no + (k + 1)) (mixF l m (k + 1))) := by show SetIs _ _ _ _; rw [← HJx.out]; exact hset
  clear hrun0 hset hgr
  go_wp2
  go_roundw
  case rel => exact ⟨k + 1, by omega, by go_num, HSet, HE, HB9⟩
  case measure => simp [intOf]; omega
theorem implMerged (w : World) (B : Nat) (av ao bv bo : Option Addr) (nv cv no co mv dv mo eo : Nat) (xs : List Int) (l : List OpV) (ys : List Int) (m : List OpV) (hx : Ints w B av nv xs) (h : Ops w B ao no l) (hy : Ints w B bv mv ys) (g : Ops w B bo mo m) (hB : B ≤ w.heap.size) (hv : nv ≤ 1048576) (hc : no ≤ co) (hc2 : Fits no co) (hm : ∀ i, i < no → (atOp l i).item.size ≤ 1048576) (hv2 : mv ≤ 1048576) (he : mo ≤ eo) (he2 : Fits mo eo) (hm2 : ∀ i, i < mo → (atOp m i).item.size ≤ 1048576) :
  Calls Try.prog 17 #[.agg #[.slice av nv cv, .slice ao no co], .agg #[.slice bv mv dv, .slice bo mo eo]] w (CartPost (mergedB xs l ys m) (mergedV xs ys (mergedB xs l ys m)) (mergedO xs ys l m (mergedB xs l ys m)) w) :=
 (implMergedK w B av ao bv bo nv cv no co mv dv mo eo xs l ys m hx h hy g hB hv hc hc2 hm hv2 he he2 hm2).mono fun _ _ h => h.cart
set_option linter.unusedVariables false

theorem listP_congr {zs : List Int} {F G : Nat → Nat → OpV} (h : ∀ d s : Nat, d < 4 → (s : Int) < zs.getD d 0 → F d s = G d s) : ∀ d s : Nat, d ≤ 4 → (d < 4 → (s : Int) ≤ max 0 (zs.getD d 0)) → (d = 4 → s = 0) → listP zs F d s = listP zs G d s
 | 0, 0, _, _, _ => rfl
 | d + 1, 0, hd, _, _ => by
  rw [listP_next, listP_next]
  exact listP_congr h d _ (by omega) (fun _ => by omega) (fun e => by omega)
 | d, s + 1, hd, hs, h4 => by
  have hd4 : d < 4 := by
   rcases Nat.lt_or_ge d 4 with h1 | h1
   ·exact h1
   ·have := h4 (by omega); omega
  have := hs hd4
  rw [listP_step, listP_step, listP_congr h d s (by omega) (fun _ => by omega) (fun e => by omega), h d s hd4 (by omega)]
theorem mergeL_congr {zs : List Int} {l m l' m' : List OpV} (h : ∀ d s : Nat, d < 4 → (s : Int) < zs.getD d 0 → mergeF l m d s = mergeF l' m' d s) : mergeL zs l m = mergeL zs l' m' :=
 listP_congr h 4 0 (Nat.le_refl _) (fun e => absurd e (by omega)) (fun _ => rfl)
theorem atOp_ext {l m : List OpV} (hl : l.length = m.length) (h : ∀ i, i < l.length → atOp l i = atOp m i) : l = m := by
 refine List.ext_getElem hl fun i h1 h2 => ?_
 have := h i h1
 unfold atOp at this
 rw [List.getD_eq_getElem?_getD, List.getD_eq_getElem?_getD, List.getElem?_eq_getElem h1, List.getElem?_eq_getElem h2] at this
 exact this
/-- A valid cart's operations are those that its set has, by device and number. -/
theorem listP_self {xs : List Int} {l : List OpV} (h : cartB xs l = true) {F : Nat → Nat → OpV} (hF : ∀ d s : Nat, d < 4 → (s : Int) < xs.getD d 0 → F d s = atOp l (stOf xs d + s)) : listP xs F 4 0 = l := by
 have hlen : (listP xs F 4 0).length = stOf xs 4 := listP_len xs F 4 0
 have h4 := (cart_true h).2.2
 refine atOp_ext (by rw [hlen, h4]) fun i hi => ?_
 rw [hlen, h4] at hi
 obtain ⟨d, hd, h1, h2, _, _, _⟩ := cart_at h hi
 have e : stOf xs (d + 1) = stOf xs d + (xs.getD d 0).toNat := rfl
 obtain ⟨s, rfl⟩ : ∃ s, i = stOf xs d + s := ⟨i - stOf xs d, by omega⟩
 rw [listP_at xs F hd (s := s) (by omega)]
 exact hF d s hd (by omega)
/-- What a set of a valid cart has under a name. -/
theorem get_cases {xs : List Int} {l : List OpV} (h : cartB xs l = true) {d : Nat} (hd : d < 4) (s : Nat) : ((s : Int) < xs.getD d 0 ∧ getO l (d : Int) ((s : Int) + 1) = some (atOp l (stOf xs d + s))) ∨ (xs.getD d 0 ≤ (s : Int) ∧ getO l (d : Int) ((s : Int) + 1) = none) := by
 by_cases hx : (s : Int) < xs.getD d 0
 ·exact .inl ⟨hx, get_has h hd hx⟩
 ·exact .inr ⟨by omega, get_none h (by omega)⟩
theorem mergedB_parts {xs ys : List Int} {l m : List OpV} (h : mergedB xs l ys m = true) : cartB xs l = true ∧ cartB ys m = true ∧ okM l m = true := by
 unfold mergedB at h
 rw [Bool.and_eq_true, Bool.and_eq_true] at h
 exact h
theorem sameB_symm {a b : OpV} (h : sameB a b = true) : sameB b a = true := by
 rw [same_yes h]
 have := same_with (a.with b.undos) a.undos
 rw [with_with] at this
 exact this
theorem same_refl (a : OpV) : sameB a a = true := same_with a a.undos
/-- Of two carts that fit: what both have under a name differs at most in Undos. -/
theorem fit_same {xs ys : List Int} {l m : List OpV} (h : mergedB xs l ys m = true) {d : Nat} (hd : d < 4) {s : Nat} {a b : OpV} (ha : getO l (d : Int) ((s : Int) + 1) = some a) (hb : getO m (d : Int) ((s : Int) + 1) = some b) : b = a.with b.undos := by
 obtain ⟨h1, h2, h3⟩ := mergedB_parts h
 obtain ⟨j, hj, e, rfl⟩ := setF_some _ hb
 have := okM_at h3 hj
 rw [okJ_some (by rw [e.1, e.2]; exact ha)] at this
 have hs := same_yes this
 rw [hs]
 rfl
theorem maxV_symm (xs ys : List Int) : maxV xs ys = maxV ys xs := by
 unfold maxV
 rw [List.zipWith_comm]
 congr 1
 funext a b
 exact Int.max_comm _ _
theorem in_self {xs : List Int} {l : List OpV} (h : cartB xs l = true) : inCart xs l xs l = true := by
 rw [inCart_3 h h]
 refine allW_end fun i hi => ?_
 rw [okW_some (setF_hit (cart_inc h) l.length (Nat.le_refl _) i hi), same_refl, decide_eq_true (Int.le_refl _)]
 rfl
/-- What is within the second cart leaves it as it is, merged with it. -/
theorem maxV_eq {xs ys : List Int} (h : vecOk xs = true) (h2 : vecOk ys = true) (hle : ∀ d, d < 4 → xs.getD d 0 ≤ ys.getD d 0) : maxV xs ys = ys := by
 have l1 := (vec_at h (d := 0) (by omega)).2.2
 have l2 := (vec_at h2 (d := 0) (by omega)).2.2
 have l3 : (maxV xs ys).length = 4 := by unfold maxV; rw [List.length_zipWith]; omega
 refine List.ext_getElem (by omega) fun i h3 h4 => ?_
 have e := maxV_at l1 l2 (d := i) (by omega)
 have := hle i (by omega)
 rw [Int.max_eq_right this, List.getD_eq_getElem?_getD, List.getD_eq_getElem?_getD, List.getElem?_eq_getElem h3, List.getElem?_eq_getElem h4] at e
 exact e
theorem inCart_parts {xs ys : List Int} {l m : List OpV} (h : inCart xs l ys m = true) : cartB xs l = true ∧ cartB ys m = true ∧ allW m l = true := by
 unfold inCart at h
 rw [Bool.and_eq_true, Bool.and_eq_true] at h
 exact h
theorem in_op {xs ys : List Int} {l m : List OpV} (h : inCart xs l ys m = true) {i : Nat} (hi : i < l.length) : ∃ y, getO m (atOp l i).dev (atOp l i).seq = some y ∧ y = (atOp l i).with y.undos ∧ (atOp l i).undos ≤ y.undos := by
 obtain ⟨h1, h2, h3⟩ := inCart_parts h
 unfold allW at h3
 rw [List.all_eq_true] at h3
 have := h3 i (List.mem_range.2 hi)
 rcases hg : setF m m.length (atOp l i).dev (atOp l i).seq with _ | y
 ·rw [okW_none hg] at this; cases this
 ·rw [okW_some hg, Bool.and_eq_true] at this
  exact ⟨y, hg, same_yes this.1, of_decide_eq_true this.2⟩
theorem in_le {xs ys : List Int} {l m : List OpV} (h : inCart xs l ys m = true) {d : Nat} (hd : d < 4) : xs.getD d 0 ≤ ys.getD d 0 := by
 obtain ⟨h1, h2, _⟩ := inCart_parts h
 have hx := (vec_at (cart_true h1).1 hd).1
 have hy := (vec_at (cart_true h2).1 hd).1
 rcases Int.lt_or_le (ys.getD d 0) (xs.getD d 0) with hlt | hle
 ·exfalso
  obtain ⟨s, hs⟩ : ∃ s : Nat, (s : Int) + 1 = xs.getD d 0 := ⟨(xs.getD d 0 - 1).toNat, by omega⟩
  obtain ⟨h5, h6⟩ := cart_has h1 hd (s := s) (by omega)
  obtain ⟨y, hy1, _, _⟩ := in_op h h5
  rw [h6.1, h6.2] at hy1
  have : getO m (d : Int) ((s : Int) + 1) = none := get_none h2 (by omega)
  rw [this] at hy1
  cases hy1
 ·exact hle
theorem merged_in {xs ys : List Int} {l m : List OpV} (h : inCart xs l ys m = true) : mergedB xs l ys m = true ∧ maxV xs ys = ys ∧ mergeL ys l m = m := by
 obtain ⟨h1, h2, _⟩ := inCart_parts h
 have v1 := (cart_true h1).1
 have v2 := (cart_true h2).1
 have hok : okM l m = true := okM_end fun j hj => by
  rcases hg : getO l (atOp m j).dev (atOp m j).seq with _ | x
  ·exact okJ_none hg
  ·rw [okJ_some hg]
   obtain ⟨i, hi, e, rfl⟩ := setF_some _ hg
   obtain ⟨y, hy1, hy2, _⟩ := in_op h hi
   have : y = atOp m j := by
    rw [e.1, e.2] at hy1
    have h3 := setF_hit (cart_inc h2) m.length (Nat.le_refl _) j hj
    have h4 : some y = some (atOp m j) := hy1.symm.trans h3
    injection h4
   rw [this] at hy2
   rw [hy2]
   exact sameB_symm (same_with _ _)
 have hB : mergedB xs l ys m = true := by rw [mergedB_3 h1 h2]; exact hok
 refine ⟨hB, maxV_eq v1 v2 fun d hd => in_le h hd, listP_self h2 fun d s hd hs => ?_⟩
 have hgm : getO m (d : Int) ((s : Int) + 1) = some (atOp m (stOf ys d + s)) := get_has h2 hd hs
 show joinAt l m _ _ = _
 unfold joinAt
 rw [hgm]
 rcases hl : getO l (d : Int) ((s : Int) + 1) with _ | a
 ·rfl
 ·obtain ⟨i, hi, e, rfl⟩ := setF_some _ hl
  obtain ⟨y, hy1, hy2, hy3⟩ := in_op h hi
  rw [e.1, e.2] at hy1
  have h4 : some y = some (atOp m (stOf ys d + s)) := hy1.symm.trans hgm
  injection h4 with h4
  rw [← h4]
  show (atOp l i).with (max (atOp l i).undos y.undos) = y
  rw [Int.max_eq_right hy3]
  exact hy2.symm
set_option maxHeartbeats 5000000 in
theorem cloneOpsK (w : World) (B b off n cap : Nat) (l : List OpV) (h : Ops w B (some ⟨b, off, none⟩) n l) (hB : B ≤ w.heap.size) (hl : n ≤ 1048576) : Calls Try.prog 144 #[.slice (some ⟨b, off, none⟩) n cap] w (OpsPostK l w) := by
 obtain ⟨i0, hi, hz0, hz1, hz2⟩ := info_parts Try.infoOp
 have hnil := fun w => Lib.run_eql_slice_nil (P := Try.prog) w 27 77 (some ⟨b, off, none⟩) n cap 0 0 Try.underlying27
 have hown : (w.alloc (.cells #[] 77)).ownsRow w.heap.size 77 8 (.slice (some ⟨w.heap.size, 0, none⟩) 0 0) 0 [] := World.ownsRow_made w #[] 0 (Nat.le_refl _) (by unfold maxLen; omega) rfl
 have hL := Lib.hid h.1
 have H := Lib.hid h
 clear h
 go_enter Try.func144, Try.ntmps144
 go_wp2_with (at_builtin; refine wpList_append_own _ rfl _ _ 27 rfl w.heap.size 77 i0 (.agg #[.int .i64 0, .int .i64 0, .int .i64 0, .int .i64 0, .string ⟨#[]⟩, .int .i64 0, .int .i64 0, .int .i64 0]) 8 72 Try.underlying27 hi hz0 hz1 hz2 rfl (by decide) _ _ _ rfl hown ⟨b, off, none⟩ n cap (opCells l) rfl ?c0 ?c1 ?c2 ?c3 ?c4 ?c5 ?_)
 case c0 => rw [opCells_len, hL.out]
 case c1 => exact cells_of_ops (H.out.below ((Below.refl w.heap.size w).alloc (Nat.le_refl _) _) hB)
 case c2 => exact opCells_one l
 case c3 => unfold maxLen; omega
 case c4 => omega
 case c5 => simp
 intro v' w1 hown' hgrow hnn
 have hb1 := ((Below.refl w.heap.size w).alloc (Nat.le_refl _) _).grown hgrow (by simp) (fun j hj => (hown.lt j hj).1)
 have hown2 : w1.ownsRow w.heap.size 77 8 v' n (opCells l) := by simpa using hown'
 obtain ⟨a', cap', hv⟩ : ∃ a' cap', v' = .slice a' n cap' := by
  rcases hown2.2 with ⟨e, e2⟩ | ⟨g, c, cur, e, _⟩
  ·exact ⟨none, 0, by rw [e, e2]⟩
  ·exact ⟨_, _, e⟩
 subst hv
 have hvc := Lib.hid (caps_of_row hown2)
 have HO := Lib.hid (own_of_cells (hi := w1.heap.size) hown2 (Nat.le_refl _))
 clear hown' hown2 hgrow hown hnn
 go_wp2
 go_ret
 exact ⟨a', cap', by rw [hL.out]; rfl, by rw [hL.out]; exact hvc.out, by rw [hL.out]; exact HO.out, hb1⟩

set_option maxHeartbeats 10000000 in
theorem copiedOpsK (w : World) (B : Nat) (a : Option Addr) (n cap : Nat) (l : List OpV) (h : Ops w B a n l) (hB : B ≤ w.heap.size) (hn : n ≤ 1048576) (hcap : a = none → cap = 0) (hnz : 0 < n ∨ a = none) (hm : ∀ i, i < n → (l.getD i OpV.zero).item.size ≤ 1048576) : Calls Try.prog 111 #[.slice a n cap] w (OpsPostK l w) := by
 by_cases h0 : 0 < n
 ·obtain ⟨b, off, rfl, hb, _⟩ := h.2 0 h0
  have HL := Lib.hid h.1
  have HM := Lib.hid hm
  clear hm hcap hnz
  go_enter Try.func111, Try.ntmps111
  go_wp2_with fail
  refine (cloneOpsK w B b off n cap l h hB hn).mono ?_
  rintro e w1 ⟨a1, c1, rfl, hcc, ho, hb1⟩
  rw [h.1] at hcc
  have hcc := Lib.hid hcc
  have HC1 : Hid (∃ g o1, a1 = some ⟨g, o1, none⟩ ∧ w.heap.size ≤ g ∧ CS g o1 n l w w1) := by
   rw [h.1] at ho
   obtain ⟨g, o1, cs, e1, h1, h2, hg, hs, hc⟩ := ho.2 h0
   exact ⟨g, o1, e1, h1, hb1, cs, hg, hs, hc⟩
  clear ho hb1 h
  obtain ⟨g, o1, rfl, hg0, hcs⟩ := HC1.out
  have HC := Lib.hid hcs
  clear hcs HC1
  rw [HL.out]
  go_wp2
  go_loopw [4, 9] (fun _ i wr => ∃ k : Nat, k ≤ n ∧ i = .int .i64 (k : Int) ∧ Hid (CS g o1 n l w wr)) (fun _ i _ => n - (intOf i).toNat)
  case atStart => exact ⟨0, by omega, rfl, HC⟩
  case round =>
   obtain ⟨k, hk, rfl, HR⟩ := hrel
   by_cases hlt : k < n
   rotate_left
   ·obtain rfl : k = n := by omega
    have HP : Hid (OpsPostK l w (.returned (.slice (some ⟨g, o1, none⟩) k c1)) wr) := by
     obtain ⟨h1, cs, hg, hs, hc⟩ := HR.out
     exact ⟨some ⟨g, o1, none⟩, c1, by rw [HL.out], by rw [HL.out]; exact hcc.out, ⟨rfl, fun _ => ⟨g, o1, cs, rfl, hg0, (Array.getElem?_eq_some_iff.1 hg).1, hg, by rw [HL.out]; exact hs, by rw [HL.out]; exact hc⟩⟩, h1⟩
    go_wp2
    go_ret
    exact HP.out
   have hit := HM.out k hlt
   have hput := fun w2 (h : CS g o1 n l w w2) => h.put hg0 hlt
   have HPut := Lib.hid hput
   clear hput
   have HCell : Hid (∀ w2, CS g o1 n l w w2 → w2.cell? ⟨g, o1 + k * 8 + 4, none⟩ = some (.string (l.getD k OpV.zero).item) ∧ w2.frozen? ⟨g, o1 + k * 8 + 4, none⟩ = false) := fun w2 h => by
    obtain ⟨_, cs, hg, _, hc⟩ := h
    exact ⟨((hc k hlt).at hg).2.2.2.2.1, frozen_of_row _ _ _ _ _ hg⟩
   generalize (l.getD k OpV.zero).item = s at hit HPut HCell
   have c4 := (HCell.out wr HR.out).1
   go_wp2_with fail
   refine (strClone s hit _).mono ?_
   rintro e w2 ⟨rfl, hb2⟩
   have HR2 := Lib.hid (HR.out.step hb2)
   clear c4 hb2 HR
   have c4 := (HCell.out w2 HR2.out).1
   have f4 := (HCell.out w2 HR2.out).2
   have HR3 := Lib.hid (HPut.out w2 HR2.out)
   go_wp2
   go_roundw
   case rel => exact ⟨k + 1, by omega, by go_num, HR3⟩
   case measure => simp [intOf]; omega
 ·obtain rfl : n = 0 := by omega
  have hl : l = [] := List.eq_nil_of_length_eq_zero h.1
  subst hl
  clear hm
  rcases a with _ | ad
  ·obtain rfl := hcap rfl
   clear hnz h0
   go_enter Try.func111, Try.ntmps111
   go_wp2_with fail
   refine (cloneNil w).mono ?_
   rintro e w1 ⟨rfl, rfl⟩
   go_wp2
   refine wp_loop_rounds 1 ?_
   rw [rounds_succ]
   go_wp2
   go_ret
   exact ⟨none, 0, rfl, caps_nil, own_none _ _ _ _, Below.refl _ _⟩
  ·exact absurd hnz (by rintro (h | h); exact h0 h; cases h)

end Go.Proofs.Ytdbdmfaphdjdpaa
