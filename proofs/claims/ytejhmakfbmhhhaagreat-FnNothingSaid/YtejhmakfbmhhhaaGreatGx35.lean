/- Walks and mathematics that several claims share, part 35. -/
import Derived.Test.YtejhmakfbmhhhaaGreatGx34
import Derived.Test.YtejhmakfbmhhhaaGreatGx25
import Derived.Test.YtejhmakfbmhhhaaGreatGx30
import Derived.Deep.Cut
import Derived.Test.YtejhmakfbmhhhaaGreatGxA
namespace Go.Proofs.YtejhmakfbmhhhaaGreat
set_option maxRecDepth 100000
open Go.RowKit

/-- A cart of the call's own, and a flag. -/
def CartPost (ok : Bool) (zs : List Int) (L : List OpV) (w : World) (e : Ending) (w' : World) : Prop := ∃ va vc oa oc mid, e = .returned (.tuple #[.agg #[.slice va zs.length vc, .slice oa L.length oc], .bool ok]) ∧ Own w' w.heap.size mid va zs.length zs ∧ OwnOps w' mid w'.heap.size oa L.length L ∧ w.heap.size ≤ mid ∧ mid ≤ w'.heap.size ∧ Below w.heap.size w w'
/-- The same, and what is known of the operations' capacity. -/
def CartPostK (ok : Bool) (zs : List Int) (L : List OpV) (w : World) (e : Ending) (w' : World) : Prop := ∃ va vc oa oc mid, e = .returned (.tuple #[.agg #[.slice va zs.length vc, .slice oa L.length oc], .bool ok]) ∧ Own w' w.heap.size mid va zs.length zs ∧ OwnOps w' mid w'.heap.size oa L.length L ∧ w.heap.size ≤ mid ∧ mid ≤ w'.heap.size ∧ Below w.heap.size w w' ∧ Caps oa L.length oc
theorem CartPostK.cart {ok : Bool} {zs : List Int} {L : List OpV} {w w' : World} {e : Ending} (h : CartPostK ok zs L w e w') : CartPost ok zs L w e w' := by
 obtain ⟨va, vc, oa, oc, mid, e1, h1, h2, h3, h4, h5, _⟩ := h
 exact ⟨va, vc, oa, oc, mid, e1, h1, h2, h3, h4, h5⟩
theorem own_nil (w : World) (lo hi : Nat) (a : Option Addr) : Own w lo hi a 0 [] := ⟨rfl, fun h => absurd h (by omega)⟩
theorem TriF.set2 {w w1 : World} {x y : Array Value} {z0 z1 : Value} {S T U : TypeId} (h : TriF w w1 x y #[z0, z1] S T U) (u v : Value) :
  ((w1.setCell ⟨w.heap.size + 1 + 1, 0, none⟩ u).setCell ⟨w.heap.size + 1 + 1, 1, none⟩ v).heap[w.heap.size + 1 + 1]? = some (.cells #[u, v] U (0, 0)) ∧ Below w.heap.size w ((w1.setCell ⟨w.heap.size + 1 + 1, 0, none⟩ u).setCell ⟨w.heap.size + 1 + 1, 1, none⟩ v) :=
 ⟨pair_set _ _ h.res, (h.bel.setCell (by show _ ≤ w.heap.size + 1 + 1; omega) _).setCell (by show _ ≤ w.heap.size + 1 + 1; omega) _⟩
theorem nameOfL (x : OpV) (w : World) : Calls Tryz.prog 81 #[.agg #[.int .i64 x.dev, .int .i64 x.seq, .int .i64 x.stamp, .int .i64 x.kind, .string x.item, .int .i64 x.qty, .int .i64 x.level, .int .i64 x.undos]] w fun e w' => e = .returned (.agg #[.int .i64 x.dev, .int .i64 x.seq]) ∧ Below w.heap.size w w' := nameOf x w
def mergedV (xs ys : List Int) (ok : Bool) : List Int := if ok = true then maxV xs ys else []
def mergedO (xs ys : List Int) (l m : List OpV) (ok : Bool) : List OpV := if ok = true then mergeL (maxV xs ys) l m else []

set_option linter.unusedSimpArgs false in
set_option maxHeartbeats 80000000 in
theorem implMergedK (w : World) (B : Nat) (av ao bv bo : Option Addr) (nv cv no co mv dv mo eo : Nat) (xs : List Int) (l : List OpV) (ys : List Int) (m : List OpV) (hx : Ints w B av nv xs) (h : Ops w B ao no l) (hy : Ints w B bv mv ys) (g : Ops w B bo mo m) (hB : B ≤ w.heap.size) (hv : nv ≤ 1048576) (hc : no ≤ co) (hc2 : Fits no co) (hm : ∀ i, i < no → (atOp l i).item.size ≤ 1048576) (hv2 : mv ≤ 1048576) (he : mo ≤ eo) (he2 : Fits mo eo) (hm2 : ∀ i, i < mo → (atOp m i).item.size ≤ 1048576) :
  Calls Tryz.prog 52 #[.agg #[.slice av nv cv, .slice ao no co], .agg #[.slice bv mv dv, .slice bo mo eo]] w (CartPostK (mergedB xs l ys m) (mergedV xs ys (mergedB xs l ys m)) (mergedO xs ys l m (mergedB xs l ys m)) w) := by
 have hn1048 : no ≤ 1048576 := hc2.1
 have he1048 : mo ≤ 1048576 := he2.1
 have hT := TriF.mk0 w #[.slice av nv cv, .slice ao no co] #[.slice bv mv dv, .slice bo mo eo] #[.slice none 0 0, .slice none 0 0] 27 27 27
 have HV := Lib.hid (hx.below hT.bel hB)
 have HO := Lib.hid (h.below hT.bel hB)
 have HY := Lib.hid (hy.below hT.bel hB)
 have HG := Lib.hid (g.below hT.bel hB)
 have HT := Lib.hid hT
 have HL := Lib.hid h.1
 have HLm := Lib.hid g.1
 have HM := Lib.hid hm
 have HM2 := Lib.hid hm2
 have hBw := hB
 clear hx h hy g hT hB hm hm2
 go_enter Tryz.func52, Tryz.ntmps52
 go_wp2_with fail
 generalize ((w.alloc (.cells #[.slice av nv cv, .slice ao no co] 27)).alloc (.cells #[.slice bv mv dv, .slice bo mo eo] 27)).alloc (.cells #[.slice none 0 0, .slice none 0 0] 27) = w0 at HV HO HY HG HT ⊢
 have hsz0 := HT.out.bel.size
 have hsz1 := lt_of_row HT.out.res
 refine (implCartOk w0 B av ao nv cv no co xs l HV.out HO.out (by omega) hv hc hc2).mono ?_
 rintro e w1 ⟨rfl, hb1⟩
 have HV1 := Lib.hid (HV.out.below hb1 (by omega))
 have HO1 := Lib.hid (HO.out.below hb1 (by omega))
 have HY1 := Lib.hid (HY.out.below hb1 (by omega))
 have HG1 := Lib.hid (HG.out.below hb1 (by omega))
 have HT1 := Lib.hid (HT.out.next hb1)
 have hs1 := hb1.size
 clear hb1 HV HO HY HG HT
 rcases hca : cartB xs l with _ | _
 ·have HF := Lib.hid (mergedB_1 (ys := ys) (m := m) hca)
  clear hca
  obtain ⟨r0, r1⟩ := pair_cells HT1.out.res
  obtain ⟨fz0, fz1⟩ := pair_frozen HT1.out.res
  have HXr := Lib.hid (HT1.out.set2 (.slice none 0 0) (.slice none 0 0)).1
  have HBr2 := Lib.hid (HT1.out.set2 (.slice none 0 0) (.slice none 0 0)).2
  go_wp2
  change bodyPost _ _ _ _ _ ((w1.setCell ⟨w.heap.size + 1 + 1, 0, none⟩ (.slice none 0 0)).setCell ⟨w.heap.size + 1 + 1, 1, none⟩ (.slice none 0 0))
  generalize (w1.setCell ⟨w.heap.size + 1 + 1, 0, none⟩ (.slice none 0 0)).setCell ⟨w.heap.size + 1 + 1, 1, none⟩ (.slice none 0 0) = wf at HXr HBr2 ⊢
  obtain ⟨q0, q1⟩ := pair_cells HXr.out
  have hsf := HBr2.out.size
  exact bodyPost_ret (v := .tuple #[.agg #[.slice none 0 0, .slice none 0 0], .bool false]) (by simp [results, Tryz.results52, go_sem, q0, q1]) rfl ⟨none, 0, none, 0, w.heap.size, by rw [HF.out]; rfl, by rw [HF.out]; exact own_nil _ _ _ _, by rw [HF.out]; exact own_none _ _ _ _, Nat.le_refl _, hsf, HBr2.out, by rw [HF.out]; exact caps_nil⟩
 obtain ⟨b0, b1⟩ := pair_cells HT1.out.snd
 go_wp2_with fail
 refine (implCartOk w1 B bv bo mv dv mo eo ys m HY1.out HG1.out (by omega) hv2 he he2).mono ?_
 rintro e w2 ⟨rfl, hb2⟩
 have HV2 := Lib.hid (HV1.out.below hb2 (by omega))
 have HO2 := Lib.hid (HO1.out.below hb2 (by omega))
 have HY2 := Lib.hid (HY1.out.below hb2 (by omega))
 have HG2 := Lib.hid (HG1.out.below hb2 (by omega))
 have HT2 := Lib.hid (HT1.out.next hb2)
 have hs2 := hb2.size
 clear hb2 HV1 HO1 HY1 HG1 HT1 b0 b1
 rcases hcb : cartB ys m with _ | _
 ·have HF := Lib.hid (mergedB_2 (xs := xs) (l := l) hcb)
  clear hca hcb
  obtain ⟨r0, r1⟩ := pair_cells HT2.out.res
  obtain ⟨fz0, fz1⟩ := pair_frozen HT2.out.res
  have HXr := Lib.hid (HT2.out.set2 (.slice none 0 0) (.slice none 0 0)).1
  have HBr2 := Lib.hid (HT2.out.set2 (.slice none 0 0) (.slice none 0 0)).2
  go_wp2
  change bodyPost _ _ _ _ _ ((w2.setCell ⟨w.heap.size + 1 + 1, 0, none⟩ (.slice none 0 0)).setCell ⟨w.heap.size + 1 + 1, 1, none⟩ (.slice none 0 0))
  generalize (w2.setCell ⟨w.heap.size + 1 + 1, 0, none⟩ (.slice none 0 0)).setCell ⟨w.heap.size + 1 + 1, 1, none⟩ (.slice none 0 0) = wf at HXr HBr2 ⊢
  obtain ⟨q0, q1⟩ := pair_cells HXr.out
  have hsf := HBr2.out.size
  exact bodyPost_ret (v := .tuple #[.agg #[.slice none 0 0, .slice none 0 0], .bool false]) (by simp [results, Tryz.results52, go_sem, q0, q1]) rfl ⟨none, 0, none, 0, w.heap.size, by rw [HF.out]; rfl, by rw [HF.out]; exact own_nil _ _ _ _, by rw [HF.out]; exact own_none _ _ _ _, Nat.le_refl _, hsf, HBr2.out, by rw [HF.out]; exact caps_nil⟩
 have HF := Lib.hid (mergedB_3 hca hcb)
 have HInc := Lib.hid (cart_inc hcb)
 have hfl : ∀ i, i < no → Fit2 (atOp l i).dev (atOp l i).seq := fun i hi => cart_fit hca (by rw [HL.out]; exact hi)
 have HFm := Lib.hid (fun i (hi : i < m.length) => cart_fit hcb hi)
 have HCa := Lib.hid hca
 have HCb := Lib.hid hcb
 clear hca hcb
 obtain ⟨a0, a1⟩ := pair_cells HT2.out.fst
 have hnol : no ≤ 1048576 := by omega
 go_wp2_with fail
 refine (opSetOf w2 B ao no co l HO2.out (by omega) hnol hfl).mono ?_
 rintro e w3 ⟨sb, rfl, hsb, hset, hb3⟩
 have HS3 : Hid (SetIs w3 sb (no + 0) (mixF l m 0)) := by have := hset; rw [← HL.out] at this ⊢; exact this
 have HB3 := Lib.hid hb3
 have HT3 := Lib.hid (HT2.out.next hb3)
 have hs3 := hb3.size
 clear hb3 hset hfl a0 a1
 obtain ⟨b0, b1⟩ := pair_cells HT3.out.snd
 go_wp2
 go_loopw [30] (fun i wr => ∃ k : Nat, k ≤ mo ∧ i = .int .i64 (k : Int) ∧ Hid (SetIs wr sb (no + k) (mixF l m k)) ∧ Hid (∀ j, j < k → okJ l (atOp m j) = true) ∧ Hid (Below w2.heap.size w2 wr)) (fun i _ => mo - (intOf i).toNat)
 case atStart => exact ⟨0, by omega, rfl, HS3, Lib.hid (fun j hj => absurd hj (by omega)), HB3⟩
 case round =>
  obtain ⟨k, hk, rfl, HSr, HK, HBr⟩ := hrel
  clear HS3 HB3 b0 b1
  have hsr := HBr.out.size
  have HTr := Lib.hid (HT2.out.next HBr.out)
  by_cases hlt : k < mo
  rotate_left
  ·obtain rfl : k = mo := by omega
   have hok := okM_end (l := l) (m := m) (fun i hi => HK.out i (by rw [← HLm.out]; exact hi))
   have HE : Hid (mergedB xs l ys m = true) := by show _ = _; rw [HF.out, hok]
   have hvA := (cart_true HCa.out).1
   have hvB := (cart_true HCb.out).1
   have hv4 := (vec_at hvA (d := 0) (by omega)).2.2
   have hv4b := (vec_at hvB (d := 0) (by omega)).2.2
   have HVm := Lib.hid (maxV_ok hvA hvB)
   have HZv : Hid (vecZip max xs ys = maxV xs ys) := by show _ = _; rw [vecZip_yes (by rw [hvA, hvB]; rfl)]; rfl
   have hz4 : (maxV xs ys).length = 4 := (vec_at HVm.out (d := 0) (by omega)).2.2
   have HGl : Hid (∀ d, d < 4 → ∀ s : Nat, (s : Int) < (maxV xs ys).getD d 0 → mixF l m k (d : Int) ((s : Int) + 1) = some (mergeF l m d s)) := fun d hd s hs => by
    rw [maxV_at hv4 hv4b hd] at hs
    have := mix_join HCa.out HCb.out hok hd hs
    rw [HLm.out] at this
    exact this
   have HIt : Hid (∀ d s, (mergeF l m d s).item.size ≤ 1048576) := fun d s => merge_items (N := 1048576) (fun i hi => HM.out i (by rw [← HL.out]; exact hi)) (fun i hi => HM2.out i (by rw [← HLm.out]; exact hi)) d s
   have HLs : Hid (mergeL (maxV xs ys) l m = listP (maxV xs ys) (mergeF l m) 4 0) := rfl
   have HMv : Hid (mergedV xs ys (mergedB xs l ys m) = maxV xs ys) := by show _ = _; rw [HE.out]; rfl
   have HMo : Hid (mergedO xs ys l m (mergedB xs l ys m) = mergeL (maxV xs ys) l m) := by show _ = _; rw [HE.out]; rfl
   have HVr := Lib.hid (HV2.out.below HBr.out (by omega))
   have HYr := Lib.hid (HY2.out.below HBr.out (by omega))
   clear hok hvA hvB hv4 hv4b HK HF HCa HCb HFm HInc
   obtain ⟨a0, a1⟩ := pair_cells HTr.out.fst
   obtain ⟨b0, b1⟩ := pair_cells HTr.out.snd
   go_wp2_with fail
   refine (implMax wr B av bv nv cv mv dv xs ys HVr.out HYr.out (by omega) hv hv2).mono ?_
   rintro e w5 ⟨va, vc, rfl, hown, hb5⟩
   rw [HZv.out, hz4] at hown ⊢
   have HS5 := Lib.hid (HSr.out.below hb5)
   have HT5 := Lib.hid (HTr.out.next hb5)
   have HOw := Lib.hid hown
   have hs5 := hb5.size
   clear hown hb5 HVr HYr HTr HSr a0 a1 b0 b1 HZv
   go_wp2_with fail
   refine (listed w5 w5.heap.size va vc (maxV xs ys) HOw.out.ints (Nat.le_refl _) HVm.out sb (no + k) (mixF l m k) HS5.out (by omega) (mergeF l m) HGl.out HIt.out).mono ?_
   rintro e w6 ⟨oa, oc, rfl, hcc, hop, hb6⟩
   have HT6 := Lib.hid (HT5.out.next hb6)
   have HOw6 := Lib.hid (HOw.out.below hb6 (Nat.le_refl _))
   have HOp := Lib.hid hop
   have HCc := Lib.hid hcc
   have hs6 := hb6.size
   rw [← HLs.out] at HOp HCc ⊢
   clear hop hb6 hcc HT5 HOw HS5 HGl HIt HVm HLs
   generalize mergeL (maxV xs ys) l m = L at HOp HMo HCc ⊢
   obtain ⟨r0, r1⟩ := pair_cells HT6.out.res
   obtain ⟨fz0, fz1⟩ := pair_frozen HT6.out.res
   have hlt6 := lt_of_row HT2.out.res
   have HXr := Lib.hid (HT6.out.set2 (.slice va 4 vc) (.slice oa L.length oc)).1
   have HBr2 := Lib.hid (HT6.out.set2 (.slice va 4 vc) (.slice oa L.length oc)).2
   have HOv7 : Hid (Own ((w6.setCell ⟨w.heap.size + 1 + 1, 0, none⟩ (.slice va 4 vc)).setCell ⟨w.heap.size + 1 + 1, 1, none⟩ (.slice oa L.length oc)) wr.heap.size w5.heap.size va 4 (maxV xs ys)) := HOw6.out.kept fun q h1 h2 => pair_other _ _ (by omega)
   have HOp7 : Hid (OwnOps ((w6.setCell ⟨w.heap.size + 1 + 1, 0, none⟩ (.slice va 4 vc)).setCell ⟨w.heap.size + 1 + 1, 1, none⟩ (.slice oa L.length oc)) w5.heap.size w6.heap.size oa L.length L) := HOp.out.kept fun q h1 h2 => pair_other _ _ (by omega)
   have hsz7 : ((w6.setCell ⟨w.heap.size + 1 + 1, 0, none⟩ (.slice va 4 vc)).setCell ⟨w.heap.size + 1 + 1, 1, none⟩ (.slice oa L.length oc)).heap.size = w6.heap.size := pair_size _ _ _ _
   go_wp2
   change bodyPost _ _ _ _ _ ((w6.setCell ⟨w.heap.size + 1 + 1, 0, none⟩ (.slice va 4 vc)).setCell ⟨w.heap.size + 1 + 1, 1, none⟩ (.slice oa L.length oc))
   generalize (w6.setCell ⟨w.heap.size + 1 + 1, 0, none⟩ (.slice va 4 vc)).setCell ⟨w.heap.size + 1 + 1, 1, none⟩ (.slice oa L.length oc) = wf at HXr HBr2 HOv7 HOp7 hsz7 ⊢
   obtain ⟨q0, q1⟩ := pair_cells HXr.out
   exact bodyPost_ret (v := .tuple #[.agg #[.slice va 4 vc, .slice oa L.length oc], .bool true]) (by simp [results, Tryz.results52, go_sem, q0, q1]) rfl ⟨va, vc, oa, oc, w5.heap.size, by rw [HMv.out, HMo.out, HE.out, hz4], by rw [HMv.out, hz4]; exact HOv7.out.more (by omega) (Nat.le_refl _), by rw [HMo.out]; exact HOp7.out.more (Nat.le_refl _) (by omega), by omega, by omega, HBr2.out, by rw [HMo.out]; exact HCc.out⟩
  have hkm : k < m.length := by rw [HLm.out]; exact hlt
  have HStop : Hid (okJ l (atOp m k) = false → mergedB xs l ys m = false) := fun h => by rw [HF.out]; exact okM_stop hkm h
  have HFk := Lib.hid (HFm.out k hkm)
  have HKs : Hid (okJ l (atOp m k) = true → ∀ j, j < k + 1 → okJ l (atOp m j) = true) := fun h j hj => by
   rcases Nat.lt_or_ge j k with h1 | h1
   ·exact HK.out j h1
   ·obtain rfl : j = k := by omega
    exact h
  have HS6s : Hid (sb < wr.heap.size) := HSr.out.lt
  have HNx := Lib.hid (mixF_next (l := l) HInc.out hkm)
  have HSt : Hid (mixF l m (k + 1) = putF (mixF l m k) (jn l (atOp m k))) := rfl
  have HGr := Lib.hid (HG2.out.below HBr.out (by omega))
  obtain ⟨b, off, rfl, hb, ho⟩ := HGr.out.2 k hlt
  have HOk : Hid (OpAt wr b (off + k * 8) (atOp m k)) := ho
  have HN : Hid (getO l (atOp m k).dev (atOp m k).seq = none → okJ l (atOp m k) = true ∧ jn l (atOp m k) = atOp m k) := fun h => ⟨okJ_none h, jn_none h⟩
  have HY : Hid (∀ y, getO l (atOp m k).dev (atOp m k).seq = some y → okJ l (atOp m k) = sameB (atOp m k) y ∧ jn l (atOp m k) = (atOp m k).with (max (atOp m k).undos y.undos)) := fun y h => ⟨okJ_some h, jn_some h⟩
  clear ho HK HGr
  generalize atOp m k = x at HOk HFk HKs HStop HNx HSt HN HY
  obtain ⟨d0, d1, d2, d3, d4, d5, d6, d7⟩ := HOk.out
  go_upto_region 7 with fail
  have hb4 : Below wr.heap.size wr (wr.alloc (.cells #[.int .i64 x.dev, .int .i64 x.seq, .int .i64 x.stamp, .int .i64 x.kind, .string x.item, .int .i64 x.qty, .int .i64 x.level, .int .i64 x.undos] 39)) := bl
  have HX4 := Lib.hid (boxAt (Below.refl _ (wr.alloc (.cells #[.int .i64 x.dev, .int .i64 x.seq, .int .i64 x.stamp, .int .i64 x.kind, .string x.item, .int .i64 x.qty, .int .i64 x.level, .int .i64 x.undos] 39))))
  have HS4 := Lib.hid (HSr.out.below hb4)
  have HB4 := Lib.hid (HBr.out.trans (hb4.mono (by omega)))
  clear d0 d1 d2 d3 d4 d5 d6 d7 HOk HSr
  generalize wr.alloc (.cells #[.int .i64 x.dev, .int .i64 x.seq, .int .i64 x.stamp, .int .i64 x.kind, .string x.item, .int .i64 x.qty, .int .i64 x.level, .int .i64 x.undos] 39) = w4 at hb4 HX4 HS4 HB4 ⊢
  have hs4 := hb4.size
  have hx4 := lt_of_row HX4.out
  generalize wr.heap.size = nb at HX4 hs4 hsr hx4 HS6s ⊢
  clear hb4 HTr HBr
  obtain ⟨e0, e1, e2, e3, e4, e5, e6, e7⟩ := op_cells HX4.out
  go_wp2_with fail
  refine (nameOfL x w4).mono ?_
  rintro e w5 ⟨rfl, hb5⟩
  have HX5 := Lib.hid ((hb5.block _ hx4).trans HX4.out)
  have HS5 := Lib.hid (HS4.out.below hb5)
  have HB5 := Lib.hid (HB4.out.trans (hb5.mono (by omega)))
  have hs5 := hb5.size
  clear hb5 HX4 HS4 HB4 e0 e1 e2 e3 e4 e5 e6 e7
  go_upto_region 8 with fail
  have hb6 : Below w5.heap.size w5 (w5.alloc (.cells #[.int .i64 x.dev, .int .i64 x.seq] 104)) := bl
  have HN6 := Lib.hid (boxAt (Below.refl _ (w5.alloc (.cells #[.int .i64 x.dev, .int .i64 x.seq] 104))))
  have HX6 := Lib.hid ((hb6.block _ (by omega)).trans HX5.out)
  have HS6 := Lib.hid (HS5.out.below hb6)
  have HB6 := Lib.hid (HB5.out.trans (hb6.mono (by omega)))
  generalize w5.alloc (.cells #[.int .i64 x.dev, .int .i64 x.seq] 104) = w6 at hb6 HN6 HX6 HS6 HB6 ⊢
  have hs6 := hb6.size
  have hn6 := lt_of_row HN6.out
  generalize w5.heap.size = nn at HN6 hs6 hn6 hs5 ⊢
  clear hb6 HX5 HS5 HB5
  have hlk := (HS6.out.look HFk.out).1
  rw [HNx.out] at hlk
  obtain ⟨n0, n1⟩ := pair_cells HN6.out
  rcases hg : getO l x.dev x.seq with _ | y
  ·rw [hg] at hlk
   obtain ⟨hok, hjn⟩ := HN.out hg
   have HE := Lib.hid (HKs.out hok)
   rw [hjn] at HSt
   have hlk2 : (Instr.lookup 101 (.map (some sb)) (.agg #[.int .i64 x.dev, .int .i64 x.seq]) true).run Tryz.prog w6 = .ok (.tuple #[.agg #[.int .i64 0, .int .i64 0, .int .i64 0, .int .i64 0, .string ⟨#[]⟩, .int .i64 0, .int .i64 0, .int .i64 0], .bool false]) w6 := hlk
   clear hlk hg hok hjn
   go_upto_region 14 with fail
   have hb7 : Below w6.heap.size w6 (w6.alloc (.cells #[.int .i64 0, .int .i64 0, .int .i64 0, .int .i64 0, .string ⟨#[]⟩, .int .i64 0, .int .i64 0, .int .i64 0] 39)) := bl
   have HZ7 := Lib.hid (boxAt (Below.refl _ (w6.alloc (.cells #[.int .i64 0, .int .i64 0, .int .i64 0, .int .i64 0, .string ⟨#[]⟩, .int .i64 0, .int .i64 0, .int .i64 0] 39))))
   have HX7 := Lib.hid ((hb7.block _ (by omega)).trans HX6.out)
   have HN7 := Lib.hid ((hb7.block _ (by omega)).trans HN6.out)
   have HS7 := Lib.hid (HS6.out.below hb7)
   have HB7 := Lib.hid (HB6.out.trans (hb7.mono (by omega)))
   generalize w6.alloc (.cells #[.int .i64 0, .int .i64 0, .int .i64 0, .int .i64 0, .string ⟨#[]⟩, .int .i64 0, .int .i64 0, .int .i64 0] 39) = w7 at hb7 HZ7 HX7 HN7 HS7 HB7 ⊢
   have hnz := hb7.size
   have hnzx := lt_of_row HZ7.out
   generalize w6.heap.size = nz at HZ7 hnz hnzx hs6 ⊢
   clear hb7 HX6 HN6 HS6 HB6 hlk2 n0 n1
   obtain ⟨e0, e1, e2, e3, e4, e5, e6, e7⟩ := op_cells HX7.out
   obtain ⟨n0, n1⟩ := pair_cells HN7.out
   obtain ⟨w9, hrun0, hset, hgr⟩ := HS7.out.put (by unfold maxLen; omega) (x) (by exact HFk.out)
   have hrun : (Instr.mapUpdate 101 (.map (some sb)) (.agg #[.int .i64 x.dev, .int .i64 x.seq]) (.agg #[.int .i64 x.dev, .int .i64 x.seq, .int .i64 x.stamp, .int .i64 x.kind, .string x.item, .int .i64 x.qty, .int .i64 x.level, .int .i64 x.undos])).run Tryz.prog w7 = .ok () w9 := hrun0
   have HB9 : Hid (Below w2.heap.size w2 w9) := HB7.out.grown hgr HB7.out.size (fun j hj => by cases hj; exact hsb)
   have HSet : Hid (SetIs w9 sb (no + (k + 1)) (mixF l m (k + 1))) := by show SetIs _ _ _ _; rw [HSt.out]; exact hset
   clear hrun0 hset hgr
   go_wp2
   go_roundw
   case rel => exact ⟨k + 1, by omega, by go_num, HSet, HE, HB9⟩
   case measure => simp [intOf]; omega
  obtain ⟨hoy, hjy⟩ := HY.out y hg
  have HOy := Lib.hid hoy
  have HJy := Lib.hid hjy
  rw [hg] at hlk
  clear hg hoy hjy
  rcases hsm : sameB x y with _ | _
  ·have HF2 := Lib.hid (HStop.out (by rw [HOy.out, hsm]))
   have HSm := Lib.hid hsm
   have hlk2 : (Instr.lookup 101 (.map (some sb)) (.agg #[.int .i64 x.dev, .int .i64 x.seq]) true).run Tryz.prog w6 = .ok (.tuple #[.agg #[.int .i64 y.dev, .int .i64 y.seq, .int .i64 y.stamp, .int .i64 y.kind, .string y.item, .int .i64 y.qty, .int .i64 y.level, .int .i64 y.undos], .bool true]) w6 := hlk
   clear hlk hsm HF HCa HCb HFm HInc
   have HF := HF2
   go_upto_region 9 with fail
   have hb7 : Below w6.heap.size w6 (w6.alloc (.cells #[.int .i64 y.dev, .int .i64 y.seq, .int .i64 y.stamp, .int .i64 y.kind, .string y.item, .int .i64 y.qty, .int .i64 y.level, .int .i64 y.undos] 39)) := bl
   have HZ7 := Lib.hid (boxAt (Below.refl _ (w6.alloc (.cells #[.int .i64 y.dev, .int .i64 y.seq, .int .i64 y.stamp, .int .i64 y.kind, .string y.item, .int .i64 y.qty, .int .i64 y.level, .int .i64 y.undos] 39))))
   have HX7 := Lib.hid ((hb7.block _ (by omega)).trans HX6.out)
   have HN7 := Lib.hid ((hb7.block _ (by omega)).trans HN6.out)
   have HS7 := Lib.hid (HS6.out.below hb7)
   have HB7 := Lib.hid (HB6.out.trans (hb7.mono (by omega)))
   generalize w6.alloc (.cells #[.int .i64 y.dev, .int .i64 y.seq, .int .i64 y.stamp, .int .i64 y.kind, .string y.item, .int .i64 y.qty, .int .i64 y.level, .int .i64 y.undos] 39) = w7 at hb7 HZ7 HX7 HN7 HS7 HB7 ⊢
   have hnz := hb7.size
   have hnzx := lt_of_row HZ7.out
   generalize w6.heap.size = nz at HZ7 hnz hnzx hs6 ⊢
   clear hb7 HX6 HN6 HS6 HB6 hlk2 n0 n1
   obtain ⟨e0, e1, e2, e3, e4, e5, e6, e7⟩ := op_cells HX7.out
   obtain ⟨g0, g1, g2, g3, g4, g5, g6, g7⟩ := op_cells HZ7.out
   go_wp2_with fail
   refine (joinedNo x y HSm.out w7).mono ?_
   rintro e w8 ⟨rfl, hb8⟩
   have HB8 := Lib.hid (HB7.out.trans (hb8.mono (by omega)))
   have hs8 := hb8.size
   clear hb8 e0 e1 e2 e3 e4 e5 e6 e7 g0 g1 g2 g3 g4 g5 g6 g7 HX7 HZ7 HS7 HN7 HB7
   go_upto_region 11 with fail
   have hb9 : Below w8.heap.size w8 (w8.alloc (.cells #[.int .i64 0, .int .i64 0, .int .i64 0, .int .i64 0, .string ⟨#[]⟩, .int .i64 0, .int .i64 0, .int .i64 0] 39)) := bl
   have HB9 := Lib.hid (HB8.out.trans (hb9.mono (by omega)))
   generalize w8.alloc (.cells #[.int .i64 0, .int .i64 0, .int .i64 0, .int .i64 0, .string ⟨#[]⟩, .int .i64 0, .int .i64 0, .int .i64 0] 39) = w9 at hb9 HB9 ⊢
   have HT9 := Lib.hid (HT2.out.next HB9.out)
   clear hb9
   obtain ⟨r0, r1⟩ := pair_cells HT9.out.res
   obtain ⟨fz0, fz1⟩ := pair_frozen HT9.out.res
   have HXr := Lib.hid (HT9.out.set2 (.slice none 0 0) (.slice none 0 0)).1
   have HBr2 := Lib.hid (HT9.out.set2 (.slice none 0 0) (.slice none 0 0)).2
   go_wp2
   change bodyPost _ _ _ _ _ ((w9.setCell ⟨w.heap.size + 1 + 1, 0, none⟩ (.slice none 0 0)).setCell ⟨w.heap.size + 1 + 1, 1, none⟩ (.slice none 0 0))
   generalize (w9.setCell ⟨w.heap.size + 1 + 1, 0, none⟩ (.slice none 0 0)).setCell ⟨w.heap.size + 1 + 1, 1, none⟩ (.slice none 0 0) = wf at HXr HBr2 ⊢
   obtain ⟨q0, q1⟩ := pair_cells HXr.out
   have hsf := HBr2.out.size
   exact bodyPost_ret (v := .tuple #[.agg #[.slice none 0 0, .slice none 0 0], .bool false]) (by simp [results, Tryz.results52, go_sem, q0, q1]) rfl ⟨none, 0, none, 0, w.heap.size, by rw [HF.out]; rfl, by rw [HF.out]; exact own_nil _ _ _ _, by rw [HF.out]; exact own_none _ _ _ _, Nat.le_refl _, hsf, HBr2.out, by rw [HF.out]; exact caps_nil⟩
  obtain ⟨u, rfl⟩ : ∃ u, y = x.with u := ⟨_, same_yes hsm⟩
  have hlk2 : (Instr.lookup 101 (.map (some sb)) (.agg #[.int .i64 x.dev, .int .i64 x.seq]) true).run Tryz.prog w6 = .ok (.tuple #[.agg #[.int .i64 x.dev, .int .i64 x.seq, .int .i64 x.stamp, .int .i64 x.kind, .string x.item, .int .i64 x.qty, .int .i64 x.level, .int .i64 u], .bool true]) w6 := hlk
  have HE := Lib.hid (HKs.out (by rw [HOy.out, hsm]))
  clear hlk hsm HOy
  have HS6lt : Hid (sb < nb) := by show sb < nb; have := HS6s.out; omega
  go_upto_region 9 with fail
  have hb7 : Below w6.heap.size w6 (w6.alloc (.cells #[.int .i64 x.dev, .int .i64 x.seq, .int .i64 x.stamp, .int .i64 x.kind, .string x.item, .int .i64 x.qty, .int .i64 x.level, .int .i64 u] 39)) := bl
  have HZ7 := Lib.hid (boxAt (Below.refl _ (w6.alloc (.cells #[.int .i64 x.dev, .int .i64 x.seq, .int .i64 x.stamp, .int .i64 x.kind, .string x.item, .int .i64 x.qty, .int .i64 x.level, .int .i64 u] 39))))
  have HX7 := Lib.hid ((hb7.block _ (by omega)).trans HX6.out)
  have HN7 := Lib.hid ((hb7.block _ (by omega)).trans HN6.out)
  have HS7 := Lib.hid (HS6.out.below hb7)
  have HB7 := Lib.hid (HB6.out.trans (hb7.mono (by omega)))
  generalize w6.alloc (.cells #[.int .i64 x.dev, .int .i64 x.seq, .int .i64 x.stamp, .int .i64 x.kind, .string x.item, .int .i64 x.qty, .int .i64 x.level, .int .i64 u] 39) = w7 at hb7 HZ7 HX7 HN7 HS7 HB7 ⊢
  have hnz := hb7.size
  have hnzx := lt_of_row HZ7.out
  generalize w6.heap.size = nz at HZ7 hnz hnzx hs6 ⊢
  clear hb7 HX6 HN6 HS6 HB6 hlk2 n0 n1
  obtain ⟨e0, e1, e2, e3, e4, e5, e6, e7⟩ := op_cells HX7.out
  obtain ⟨g0, g1, g2, g3, g4, g5, g6, g7⟩ := op_cells HZ7.out
  go_wp2_with fail
  refine (joinedYes x u w7).mono ?_
  rintro e w8 ⟨rfl, hb8⟩
  have HX8 := Lib.hid ((hb8.block _ (by omega)).trans HX7.out)
  have HN8 := Lib.hid ((hb8.block _ (by omega)).trans HN7.out)
  have HS8 := Lib.hid (HS7.out.below hb8)
  have HB8 := Lib.hid (HB7.out.trans (hb8.mono (by omega)))
  have hs8 := hb8.size
  clear hb8 e0 e1 e2 e3 e4 e5 e6 e7 g0 g1 g2 g3 g4 g5 g6 g7 HX7 HZ7 HS7 HN7 HB7
  have HJx : Hid (putF (mixF l m k) (x.with (max x.undos u)) = mixF l m (k + 1)) := by show _ = _; rw [HSt.out, HJy.out]; rfl
  generalize max x.undos u = mx at HJx ⊢
  go_upto_region 11 with fail
  have hb9 : Below w8.heap.size w8 (w8.alloc (.cells #[.int .i64 x.dev, .int .i64 x.seq, .int .i64 x.stamp, .int .i64 x.kind, .string x.item, .int .i64 x.qty, .int .i64 x.level, .int .i64 mx] 39)) := bl
  have HW9 := Lib.hid (boxAt (Below.refl _ (w8.alloc (.cells #[.int .i64 x.dev, .int .i64 x.seq, .int .i64 x.stamp, .int .i64 x.kind, .string x.item, .int .i64 x.qty, .int .i64 x.level, .int .i64 mx] 39))))
  have HX9 := Lib.hid ((hb9.block _ (by omega)).trans HX8.out)
  have HN9 := Lib.hid ((hb9.block _ (by omega)).trans HN8.out)
  have HS9 := Lib.hid (HS8.out.below hb9)
  have HB9 := Lib.hid (HB8.out.trans (hb9.mono (by omega)))
  generalize w8.alloc (.cells #[.int .i64 x.dev, .int .i64 x.seq, .int .i64 x.stamp, .int .i64 x.kind, .string x.item, .int .i64 x.qty, .int .i64 x.level, .int .i64 mx] 39) = w10 at hb9 HW9 HX9 HN9 HS9 HB9 ⊢
  clear hb9 HX8 HN8 HS8 HB8
  have hsbn : sb ≠ nb := by have := HS6lt.out; omega
  obtain ⟨e0, e1, e2, e3, e4, e5, e6, e7⟩ := op_cells HX9.out
  obtain ⟨g0, g1, g2, g3, g4, g5, g6, g7⟩ := op_cells HW9.out
  obtain ⟨f0, f1, f2, f3, f4, f5, f6, f7⟩ := op_frozen HX9.out
  have HXs := Lib.hid (setOp_same (.int .i64 x.dev) (.int .i64 x.seq) (.int .i64 x.stamp) (.int .i64 x.kind) (.string x.item) (.int .i64 x.qty) (.int .i64 x.level) (.int .i64 mx) HX9.out)
  have HNs : Hid ((setOp w10 nb (.int .i64 x.dev) (.int .i64 x.seq) (.int .i64 x.stamp) (.int .i64 x.kind) (.string x.item) (.int .i64 x.qty) (.int .i64 x.level) (.int .i64 mx)).heap[nn]? = some (.cells #[.int .i64 x.dev, .int .i64 x.seq] 104 (0, 0))) := (setOp_other _ _ _ _ _ _ _ _ (by omega)).trans HN9.out
  have HSs : Hid (SetIs (setOp w10 nb (.int .i64 x.dev) (.int .i64 x.seq) (.int .i64 x.stamp) (.int .i64 x.kind) (.string x.item) (.int .i64 x.qty) (.int .i64 x.level) (.int .i64 mx)) sb (no + k) (mixF l m k)) := HS9.out.kept (setOp_other _ _ _ _ _ _ _ _ hsbn)
  have HBs : Hid (Below w2.heap.size w2 (setOp w10 nb (.int .i64 x.dev) (.int .i64 x.seq) (.int .i64 x.stamp) (.int .i64 x.kind) (.string x.item) (.int .i64 x.qty) (.int .i64 x.level) (.int .i64 mx))) := setOp_below _ _ _ _ _ _ _ _ HB9.out (by omega)
  go_upto_region 14 with fail
  clear e0 e1 e2 e3 e4 e5 e6 e7 g0 g1 g2 g3 g4 g5 g6 g7 f0 f1 f2 f3 f4 f5 f6 f7 HX9 HN9 HS9 HB9 HW9
  change Code.wp _ _ _ _ (setOp w10 nb (.int .i64 x.dev) (.int .i64 x.seq) (.int .i64 x.stamp) (.int .i64 x.kind) (.string x.item) (.int .i64 x.qty) (.int .i64 x.level) (.int .i64 mx))
  generalize setOp w10 nb (.int .i64 x.dev) (.int .i64 x.seq) (.int .i64 x.stamp) (.int .i64 x.kind) (.string x.item) (.int .i64 x.qty) (.int .i64 x.level) (.int .i64 mx) = w11 at HXs HNs HSs HBs ⊢
  obtain ⟨e0, e1, e2, e3, e4, e5, e6, e7⟩ := op_cells HXs.out
  obtain ⟨n0, n1⟩ := pair_cells HNs.out
  obtain ⟨w9, hrun0, hset, hgr⟩ := HSs.out.put (by unfold maxLen; omega) (x.with mx) (by exact HFk.out)
  have hrun : (Instr.mapUpdate 101 (.map (some sb)) (.agg #[.int .i64 x.dev, .int .i64 x.seq]) (.agg #[.int .i64 x.dev, .int .i64 x.seq, .int .i64 x.stamp, .int .i64 x.kind, .string x.item, .int .i64 x.qty, .int .i64 x.level, .int .i64 mx])).run Tryz.prog w11 = .ok () w9 := hrun0
  have HB9 : Hid (Below w2.heap.size w2 w9) := HBs.out.grown hgr HBs.out.size (fun j hj => by cases hj; exact hsb)
  have HSet : Hid (SetIs w9 sb (no + (k + 1)) (mixF l m (k + 1))) := by show SetIs _ _ _ _; rw [← HJx.out]; exact hset
  clear hrun0 hset hgr
  go_wp2
  go_roundw
  case rel => exact ⟨k + 1, by omega, by go_num, HSet, HE, HB9⟩
  case measure => simp [intOf]; omega
theorem implMerged (w : World) (B : Nat) (av ao bv bo : Option Addr) (nv cv no co mv dv mo eo : Nat) (xs : List Int) (l : List OpV) (ys : List Int) (m : List OpV) (hx : Ints w B av nv xs) (h : Ops w B ao no l) (hy : Ints w B bv mv ys) (g : Ops w B bo mo m) (hB : B ≤ w.heap.size) (hv : nv ≤ 1048576) (hc : no ≤ co) (hc2 : Fits no co) (hm : ∀ i, i < no → (atOp l i).item.size ≤ 1048576) (hv2 : mv ≤ 1048576) (he : mo ≤ eo) (he2 : Fits mo eo) (hm2 : ∀ i, i < mo → (atOp m i).item.size ≤ 1048576) :
  Calls Tryz.prog 52 #[.agg #[.slice av nv cv, .slice ao no co], .agg #[.slice bv mv dv, .slice bo mo eo]] w (CartPost (mergedB xs l ys m) (mergedV xs ys (mergedB xs l ys m)) (mergedO xs ys l m (mergedB xs l ys m)) w) :=
 (implMergedK w B av ao bv bo nv cv no co mv dv mo eo xs l ys m hx h hy g hB hv hc hc2 hm hv2 he he2 hm2).mono fun _ _ h => h.cart
end Go.Proofs.YtejhmakfbmhhhaaGreat

namespace Go.Proofs.YtejhmakfbmhhhaaGreat
set_option maxRecDepth 100000
open Go.RowKit
set_option linter.unusedVariables false

end Go.Proofs.YtejhmakfbmhhhaaGreat
