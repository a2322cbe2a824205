/- Walks and mathematics that several claims share, part 26. -/
import Derived.Test.YthfkoplljinmmaaGc25
import Derived.Test.YthfkoplljinmmaaGc19
import Derived.Test.YthfkoplljinmmaaGc23
import Derived.Test.YthfkoplljinmmaaGc21
import Derived.Deep.Cut
import Derived.Deep.RegionHeld3
namespace Go.Proofs.Ythfkoplljinmmaa
open Go.RowKit

/-- A cart of the call's own, and a flag. -/
def CartPost (ok : Bool) (zs : List Int) (L : List OpV) (w : World) (e : Ending) (w' : World) : Prop := ∃ va vc oa oc mid, e = .returned (.tuple #[.agg #[.slice va zs.length vc, .slice oa L.length oc], .bool ok]) ∧ Own w' w.heap.size mid va zs.length zs ∧ OwnOps w' mid w'.heap.size oa L.length L ∧ w.heap.size ≤ mid ∧ mid ≤ w'.heap.size ∧ Below w.heap.size w w'
/-- The same, and what is known of the operations' capacity. -/
def CartPostK (ok : Bool) (zs : List Int) (L : List OpV) (w : World) (e : Ending) (w' : World) : Prop := ∃ va vc oa oc mid, e = .returned (.tuple #[.agg #[.slice va zs.length vc, .slice oa L.length oc], .bool ok]) ∧ Own w' w.heap.size mid va zs.length zs ∧ OwnOps w' mid w'.heap.size oa L.length L ∧ w.heap.size ≤ mid ∧ mid ≤ w'.heap.size ∧ Below w.heap.size w w' ∧ Caps oa L.length oc
theorem CartPostK.cart {ok : Bool} {zs : List Int} {L : List OpV} {w w' : World} {e : Ending} (h : CartPostK ok zs L w e w') : CartPost ok zs L w e w' := by
  obtain ⟨va, vc, oa, oc, mid, e1, h1, h2, h3, h4, h5, _⟩ := h
  exact ⟨va, vc, oa, oc, mid, e1, h1, h2, h3, h4, h5⟩
theorem own_nil (w : World) (lo hi : Nat) (a : Option Addr) : Own w lo hi a 0 [] := ⟨rfl, fun h => absurd h (by omega)⟩
theorem TriF.set2 {w w1 : World} {x y : Array Value} {z0 z1 : Value} {S T U : TypeId} (h : TriF w w1 x y #[z0, z1] S T U) (u v : Value) :
    ((w1.setCell ⟨w.heap.size + 1 + 1, 0, none⟩ u).setCell ⟨w.heap.size + 1 + 1, 1, none⟩ v).heap[w.heap.size + 1 + 1]? = some (.cells #[u, v] U (0, 0)) ∧ Below w.heap.size w ((w1.setCell ⟨w.heap.size + 1 + 1, 0, none⟩ u).setCell ⟨w.heap.size + 1 + 1, 1, none⟩ v) :=
  ⟨pair_set _ _ h.res, (h.bel.setCell (by show _ ≤ w.heap.size + 1 + 1; omega) _).setCell (by show _ ≤ w.heap.size + 1 + 1; omega) _⟩
theorem nameOfL (x : OpV) (w : World) : Calls Try.prog 57 #[.agg #[.int .i64 x.dev, .int .i64 x.seq, .int .i64 x.stamp, .int .i64 x.kind, .string x.item, .int .i64 x.qty, .int .i64 x.level, .int .i64 x.undos]] w fun e w' => e = .returned (.agg #[.int .i64 x.dev, .int .i64 x.seq]) ∧ Below w.heap.size w w' := nameOf x w
def mergedV (xs ys : List Int) (ok : Bool) : List Int := if ok = true then maxV xs ys else []
def mergedO (xs ys : List Int) (l m : List OpV) (ok : Bool) : List OpV := if ok = true then mergeL (maxV xs ys) l m else []

set_option linter.unusedSimpArgs false in
set_option maxRecDepth 100000 in
set_option maxHeartbeats 80000000 in
theorem implMergedK (w : World) (B : Nat) (av ao bv bo : Option Addr) (nv cv no co mv dv mo eo : Nat) (xs : List Int) (l : List OpV) (ys : List Int) (m : List OpV) (hx : Ints w B av nv xs) (h : Ops w B ao no l) (hy : Ints w B bv mv ys) (g : Ops w B bo mo m) (hB : B ≤ w.heap.size) (hv : nv ≤ 1048576) (hc : no ≤ co) (hc2 : Fits no co) (hm : ∀ i, i < no → (atOp l i).item.size ≤ 1048576) (hv2 : mv ≤ 1048576) (he : mo ≤ eo) (he2 : Fits mo eo) (hm2 : ∀ i, i < mo → (atOp m i).item.size ≤ 1048576) :
    Calls Try.prog 17 #[.agg #[.slice av nv cv, .slice ao no co], .agg #[.slice bv mv dv, .slice bo mo eo]] w (CartPostK (mergedB xs l ys m) (mergedV xs ys (mergedB xs l ys m)) (mergedO xs ys l m (mergedB xs l ys m)) w) := by
  have hn1048 : no ≤ 1048576 := hc2.1
  have he1048 : mo ≤ 1048576 := he2.1
  have hT := TriF.mk0 w #[.slice av nv cv, .slice ao no co] #[.slice bv mv dv, .slice bo mo eo] #[.slice none 0 0, .slice none 0 0] 27 27 27
  have HV := Lib.hid (hx.below hT.bel hB)
  have HO := Lib.hid (h.below hT.bel hB)
  have HY := Lib.hid (hy.below hT.bel hB)
  have HG := Lib.hid (g.below hT.bel hB)
  have HT := Lib.hid hT
  have HL := Lib.hid h.1
  have HLm := Lib.hid g.1
  have HM := Lib.hid hm
  have HM2 := Lib.hid hm2
  have hBw := hB
  clear hx h hy g hT hB hm hm2
  go_enter Try.func17, Try.ntmps17
  go_wp2_with fail
  generalize ((w.alloc (.cells #[.slice av nv cv, .slice ao no co] 27)).alloc (.cells #[.slice bv mv dv, .slice bo mo eo] 27)).alloc (.cells #[.slice none 0 0, .slice none 0 0] 27) = w0 at HV HO HY HG HT ⊢
  have hsz0 := HT.out.bel.size
  have hsz1 := lt_of_row HT.out.res
  refine (implCartOk w0 B av ao nv cv no co xs l HV.out HO.out (by omega) hv hc hc2).mono ?_
  rintro e w1 ⟨rfl, hb1⟩
  have HV1 := Lib.hid (HV.out.below hb1 (by omega))
  have HO1 := Lib.hid (HO.out.below hb1 (by omega))
  have HY1 := Lib.hid (HY.out.below hb1 (by omega))
  have HG1 := Lib.hid (HG.out.below hb1 (by omega))
  have HT1 := Lib.hid (HT.out.next hb1)
  have hs1 := hb1.size
  clear hb1 HV HO HY HG HT
  rcases hca : cartB xs l with _ | _
  · have HF := Lib.hid (mergedB_1 (ys := ys) (m := m) hca)
    clear hca
    obtain ⟨r0, r1⟩ := pair_cells HT1.out.res
    obtain ⟨fz0, fz1⟩ := pair_frozen HT1.out.res
    have HXr := Lib.hid (HT1.out.set2 (.slice none 0 0) (.slice none 0 0)).1
    have HBr2 := Lib.hid (HT1.out.set2 (.slice none 0 0) (.slice none 0 0)).2
    go_wp2
    change bodyPost _ _ _ _ _ ((w1.setCell ⟨w.heap.size + 1 + 1, 0, none⟩ (.slice none 0 0)).setCell ⟨w.heap.size + 1 + 1, 1, none⟩ (.slice none 0 0))
    generalize (w1.setCell ⟨w.heap.size + 1 + 1, 0, none⟩ (.slice none 0 0)).setCell ⟨w.heap.size + 1 + 1, 1, none⟩ (.slice none 0 0) = wf at HXr HBr2 ⊢
    obtain ⟨q0, q1⟩ := pair_cells HXr.out
    have hsf := HBr2.out.size
    exact bodyPost_ret (v := .tuple #[.agg #[.slice none 0 0, .slice none 0 0], .bool false]) (by simp [results, Try.results17, go_sem, q0, q1]) rfl ⟨none, 0, none, 0, w.heap.size, by rw [HF.out]; rfl, by rw [HF.out]; exact own_nil _ _ _ _, by rw [HF.out]; exact own_none _ _ _ _, Nat.le_refl _, hsf, HBr2.out, by rw [HF.out]; exact caps_nil⟩
  obtain ⟨b0, b1⟩ := pair_cells HT1.out.snd
  go_wp2_with fail
  refine (implCartOk w1 B bv bo mv dv mo eo ys m HY1.out HG1.out (by omega) hv2 he he2).mono ?_
  rintro e w2 ⟨rfl, hb2⟩
  have HV2 := Lib.hid (HV1.out.below hb2 (by omega))
  have HO2 := Lib.hid (HO1.out.below hb2 (by omega))
  have HY2 := Lib.hid (HY1.out.below hb2 (by omega))
  have HG2 := Lib.hid (HG1.out.below hb2 (by omega))
  have HT2 := Lib.hid (HT1.out.next hb2)
  have hs2 := hb2.size
  clear hb2 HV1 HO1 HY1 HG1 HT1 b0 b1
  rcases hcb : cartB ys m with _ | _
  · have HF := Lib.hid (mergedB_2 (xs := xs) (l := l) hcb)
    clear hca hcb
    obtain ⟨r0, r1⟩ := pair_cells HT2.out.res
    obtain ⟨fz0, fz1⟩ := pair_frozen HT2.out.res
    have HXr := Lib.hid (HT2.out.set2 (.slice none 0 0) (.slice none 0 0)).1
    have HBr2 := Lib.hid (HT2.out.set2 (.slice none 0 0) (.slice none 0 0)).2
    go_wp2
    change bodyPost _ _ _ _ _ ((w2.setCell ⟨w.heap.size + 1 + 1, 0, none⟩ (.slice none 0 0)).setCell ⟨w.heap.size + 1 + 1, 1, none⟩ (.slice none 0 0))
    generalize (w2.setCell ⟨w.heap.size + 1 + 1, 0, none⟩ (.slice none 0 0)).setCell ⟨w.heap.size + 1 + 1, 1, none⟩ (.slice none 0 0) = wf at HXr HBr2 ⊢
    obtain ⟨q0, q1⟩ := pair_cells HXr.out
    have hsf := HBr2.out.size
    exact bodyPost_ret (v := .tuple #[.agg #[.slice none 0 0, .slice none 0 0], .bool false]) (by simp [results, Try.results17, go_sem, q0, q1]) rfl ⟨none, 0, none, 0, w.heap.size, by rw [HF.out]; rfl, by rw [HF.out]; exact own_nil _ _ _ _, by rw [HF.out]; exact own_none _ _ _ _, Nat.le_refl _, hsf, HBr2.out, by rw [HF.out]; exact caps_nil⟩
  have HF := Lib.hid (mergedB_3 hca hcb)
  have HInc := Lib.hid (cart_inc hcb)
  have hfl : ∀ i, i < no → Fit2 (atOp l i).dev (atOp l i).seq := fun i hi => cart_fit hca (by rw [HL.out]; exact hi)
  have HFm := Lib.hid (fun i (hi : i < m.length) => cart_fit hcb hi)
  have HCa := Lib.hid hca
  have HCb := Lib.hid hcb
  clear hca hcb
  obtain ⟨a0, a1⟩ := pair_cells HT2.out.fst
  have hnol : no ≤ 1048576 := by omega
  go_wp2_with fail
  refine (opSetOf w2 B ao no co l HO2.out (by omega) hnol hfl).mono ?_
  rintro e w3 ⟨sb, rfl, hsb, hset, hb3⟩
  have HS3 : Hid (SetIs w3 sb (no + 0) (mixF l m 0)) := by have := hset; rw [← HL.out] at this ⊢; exact this
  have HB3 := Lib.hid hb3
  have HT3 := Lib.hid (HT2.out.next hb3)
  have hs3 := hb3.size
  clear hb3 hset hfl a0 a1
  obtain ⟨b0, b1⟩ := pair_cells HT3.out.snd
  go_wp2
  go_loopw [30] (fun i wr => ∃ k : Nat, k ≤ mo ∧ i = .int .i64 (k : Int) ∧ Hid (SetIs wr sb (no + k) (mixF l m k)) ∧ Hid (∀ j, j < k → okJ l (atOp m j) = true) ∧ Hid (Below w2.heap.size w2 wr)) (fun i _ => mo - (intOf i).toNat)
  case atStart => exact ⟨0, by omega, rfl, HS3, Lib.hid (fun j hj => absurd hj (by omega)), HB3⟩
  case round =>
    obtain ⟨k, hk, rfl, HSr, HK, HBr⟩ := hrel
    clear HS3 HB3 b0 b1
    have hsr := HBr.out.size
    have HTr := Lib.hid (HT2.out.next HBr.out)
    by_cases hlt : k < mo
    rotate_left
    · obtain rfl : k = mo := by omega
      have hok := okM_end (l := l) (m := m) (fun i hi => HK.out i (by rw [← HLm.out]; exact hi))
      have HE : Hid (mergedB xs l ys m = true) := by show _ = _; rw [HF.out, hok]
      have hvA := (cart_true HCa.out).1
      have hvB := (cart_true HCb.out).1
      have hv4 := (vec_at hvA (d := 0) (by omega)).2.2
      have hv4b := (vec_at hvB (d := 0) (by omega)).2.2
      have HVm := Lib.hid (maxV_ok hvA hvB)
      have HZv : Hid (vecZip max xs ys = maxV xs ys) := by show _ = _; rw [vecZip_yes (by rw [hvA, hvB]; rfl)]; rfl
      have hz4 : (maxV xs ys).length = 4 := (vec_at HVm.out (d := 0) (by omega)).2.2
      have HGl : Hid (∀ d, d < 4 → ∀ s : Nat, (s : Int) < (maxV xs ys).getD d 0 → mixF l m k (d : Int) ((s : Int) + 1) = some (mergeF l m d s)) := fun d hd s hs => by
        rw [maxV_at hv4 hv4b hd] at hs
        have := mix_join HCa.out HCb.out hok hd hs
        rw [HLm.out] at this
        exact this
      have HIt : Hid (∀ d s, (mergeF l m d s).item.size ≤ 1048576) := fun d s => merge_items (N := 1048576) (fun i hi => HM.out i (by rw [← HL.out]; exact hi)) (fun i hi => HM2.out i (by rw [← HLm.out]; exact hi)) d s
      have HLs : Hid (mergeL (maxV xs ys) l m = listP (maxV xs ys) (mergeF l m) 4 0) := rfl
      have HMv : Hid (mergedV xs ys (mergedB xs l ys m) = maxV xs ys) := by show _ = _; rw [HE.out]; rfl
      have HMo : Hid (mergedO xs ys l m (mergedB xs l ys m) = mergeL (maxV xs ys) l m) := by show _ = _; rw [HE.out]; rfl
      have HVr := Lib.hid (HV2.out.below HBr.out (by omega))
      have HYr := Lib.hid (HY2.out.below HBr.out (by omega))
      clear hok hvA hvB hv4 hv4b HK HF HCa HCb HFm HInc
      obtain ⟨a0, a1⟩ := pair_cells HTr.out.fst
      obtain ⟨b0, b1⟩ := pair_cells HTr.out.snd
      go_wp2_with fail
      refine (implMax wr B av bv nv cv mv dv xs ys HVr.out HYr.out (by omega) hv hv2).mono ?_
      rintro e w5 ⟨va, vc, rfl, hown, hb5⟩
      rw [HZv.out, hz4] at hown ⊢
      have HS5 := Lib.hid (HSr.out.below hb5)
      have HT5 := Lib.hid (HTr.out.next hb5)
      have HOw := Lib.hid hown
      have hs5 := hb5.size
      clear hown hb5 HVr HYr HTr HSr a0 a1 b0 b1 HZv
      go_wp2_with fail
      refine (listed w5 w5.heap.size va vc (maxV xs ys) HOw.out.ints (Nat.le_refl _) HVm.out sb (no + k) (mixF l m k) HS5.out (by omega) (mergeF l m) HGl.out HIt.out).mono ?_
      rintro e w6 ⟨oa, oc, rfl, hcc, hop, hb6⟩
      have HT6 := Lib.hid (HT5.out.next hb6)
      have HOw6 := Lib.hid (HOw.out.below hb6 (Nat.le_refl _))
      have HOp := Lib.hid hop
      have HCc := Lib.hid hcc
      have hs6 := hb6.size
      rw [← HLs.out] at HOp HCc ⊢
      clear hop hb6 hcc HT5 HOw HS5 HGl HIt HVm HLs
      generalize mergeL (maxV xs ys) l m = L at HOp HMo HCc ⊢
      obtain ⟨r0, r1⟩ := pair_cells HT6.out.res
      obtain ⟨fz0, fz1⟩ := pair_frozen HT6.out.res
      have hlt6 := lt_of_row HT2.out.res
      have HXr := Lib.hid (HT6.out.set2 (.slice va 4 vc) (.slice oa L.length oc)).1
      have HBr2 := Lib.hid (HT6.out.set2 (.slice va 4 vc) (.slice oa L.length oc)).2
      have HOv7 : Hid (Own ((w6.setCell ⟨w.heap.size + 1 + 1, 0, none⟩ (.slice va 4 vc)).setCell ⟨w.heap.size + 1 + 1, 1, none⟩ (.slice oa L.length oc)) wr.heap.size w5.heap.size va 4 (maxV xs ys)) := HOw6.out.kept fun q h1 h2 => pair_other _ _ (by omega)
      have HOp7 : Hid (OwnOps ((w6.setCell ⟨w.heap.size + 1 + 1, 0, none⟩ (.slice va 4 vc)).setCell ⟨w.heap.size + 1 + 1, 1, none⟩ (.slice oa L.length oc)) w5.heap.size w6.heap.size oa L.length L) := HOp.out.kept fun q h1 h2 => pair_other _ _ (by omega)
      have hsz7 : ((w6.setCell ⟨w.heap.size + 1 + 1, 0, none⟩ (.slice va 4 vc)).setCell ⟨w.heap.size + 1 + 1, 1, none⟩ (.slice oa L.length oc)).heap.size = w6.heap.size := pair_size _ _ _ _
      go_wp2
      change bodyPost _ _ _ _ _ ((w6.setCell ⟨w.heap.size + 1 + 1, 0, none⟩ (.slice va 4 vc)).setCell ⟨w.heap.size + 1 + 1, 1, none⟩ (.slice oa L.length oc))
      generalize (w6.setCell ⟨w.heap.size + 1 + 1, 0, none⟩ (.slice va 4 vc)).setCell ⟨w.heap.size + 1 + 1, 1, none⟩ (.slice oa L.length oc) = wf at HXr HBr2 HOv7 HOp7 hsz7 ⊢
      obtain ⟨q0, q1⟩ := pair_cells HXr.out
      exact bodyPost_ret (v := .tuple #[.agg #[.slice va 4 vc, .slice oa L.length oc], .bool true]) (by simp [results, Try.results17, go_sem, q0, q1]) rfl ⟨va, vc, oa, oc, w5.heap.size, by rw [HMv.out, HMo.out, HE.out, hz4], by rw [HMv.out, hz4]; exact HOv7.out.more (by omega) (Nat.le_refl _), by rw [HMo.out]; exact HOp7.out.more (Nat.le_refl _) (by omega), by omega, by omega, HBr2.out, by rw [HMo.out]; exact HCc.out⟩
    have hkm : k < m.length := by rw [HLm.out]; exact hlt
    have HStop : Hid (okJ l (atOp m k) = false → mergedB xs l ys m = false) := fun h => by rw [HF.out]; exact okM_stop hkm h
    have HFk := Lib.hid (HFm.out k hkm)
    have HKs : Hid (okJ l (atOp m k) = true → ∀ j, j < k + 1 → okJ l (atOp m j) = true) := fun h j hj => by
      rcases Nat.lt_or_ge j k with h1 | h1
      · exact HK.out j h1
      · obtain rfl : j = k := by omega
        exact h
    have HS6s : Hid (sb < wr.heap.size) := HSr.out.lt
    have HNx := Lib.hid (mixF_next (l := l) HInc.out hkm)
    have HSt : Hid (mixF l m (k + 1) = putF (mixF l m k) (jn l (atOp m k))) := rfl
    have HGr := Lib.hid (HG2.out.below HBr.out (by omega))
    obtain ⟨b, off, rfl, hb, ho⟩ := HGr.out.2 k hlt
    have HOk : Hid (OpAt wr b (off + k * 8) (atOp m k)) := ho
    have HN : Hid (getO l (atOp m k).dev (atOp m k).seq = none → okJ l (atOp m k) = true ∧ jn l (atOp m k) = atOp m k) := fun h => ⟨okJ_none h, jn_none h⟩
    have HY : Hid (∀ y, getO l (atOp m k).dev (atOp m k).seq = some y → okJ l (atOp m k) = sameB (atOp m k) y ∧ jn l (atOp m k) = (atOp m k).with (max (atOp m k).undos y.undos)) := fun y h => ⟨okJ_some h, jn_some h⟩
    clear ho HK HGr
    generalize atOp m k = x at HOk HFk HKs HStop HNx HSt HN HY
    obtain ⟨d0, d1, d2, d3, d4, d5, d6, d7⟩ := HOk.out
    go_upto_region 7 with fail
    have hb4 : Below wr.heap.size wr (wr.alloc (.cells #[.int .i64 x.dev, .int .i64 x.seq, .int .i64 x.stamp, .int .i64 x.kind, .string x.item, .int .i64 x.qty, .int .i64 x.level, .int .i64 x.undos] 36)) := (Below.refl _ _).alloc (Nat.le_refl _) _
    have HX4 := Lib.hid (boxAt (Below.refl _ (wr.alloc (.cells #[.int .i64 x.dev, .int .i64 x.seq, .int .i64 x.stamp, .int .i64 x.kind, .string x.item, .int .i64 x.qty, .int .i64 x.level, .int .i64 x.undos] 36))))
    have HS4 := Lib.hid (HSr.out.below hb4)
    have HB4 := Lib.hid (HBr.out.trans (hb4.mono (by omega)))
    clear d0 d1 d2 d3 d4 d5 d6 d7 HOk HSr
    generalize wr.alloc (.cells #[.int .i64 x.dev, .int .i64 x.seq, .int .i64 x.stamp, .int .i64 x.kind, .string x.item, .int .i64 x.qty, .int .i64 x.level, .int .i64 x.undos] 36) = w4 at hb4 HX4 HS4 HB4 ⊢
    have hs4 := hb4.size
    have hx4 := lt_of_row HX4.out
    generalize wr.heap.size = nb at HX4 hs4 hsr hx4 HS6s ⊢
    clear hb4 HTr HBr
    obtain ⟨e0, e1, e2, e3, e4, e5, e6, e7⟩ := op_cells HX4.out
    go_wp2_with fail
    refine (nameOfL x w4).mono ?_
    rintro e w5 ⟨rfl, hb5⟩
    have HX5 := Lib.hid ((hb5.block _ hx4).trans HX4.out)
    have HS5 := Lib.hid (HS4.out.below hb5)
    have HB5 := Lib.hid (HB4.out.trans (hb5.mono (by omega)))
    have hs5 := hb5.size
    clear hb5 HX4 HS4 HB4 e0 e1 e2 e3 e4 e5 e6 e7
    go_upto_region 8 with fail
    have hb6 : Below w5.heap.size w5 (w5.alloc (.cells #[.int .i64 x.dev, .int .i64 x.seq] 66)) := (Below.refl _ _).alloc (Nat.le_refl _) _
    have HN6 := Lib.hid (boxAt (Below.refl _ (w5.alloc (.cells #[.int .i64 x.dev, .int .i64 x.seq] 66))))
    have HX6 := Lib.hid ((hb6.block _ (by omega)).trans HX5.out)
    have HS6 := Lib.hid (HS5.out.below hb6)
    have HB6 := Lib.hid (HB5.out.trans (hb6.mono (by omega)))
    generalize w5.alloc (.cells #[.int .i64 x.dev, .int .i64 x.seq] 66) = w6 at hb6 HN6 HX6 HS6 HB6 ⊢
    have hs6 := hb6.size
    have hn6 := lt_of_row HN6.out
    generalize w5.heap.size = nn at HN6 hs6 hn6 hs5 ⊢
    clear hb6 HX5 HS5 HB5
    have hlk := (HS6.out.look HFk.out).1
    rw [HNx.out] at hlk
    obtain ⟨n0, n1⟩ := pair_cells HN6.out
    rcases hg : getO l x.dev x.seq with _ | y
    · rw [hg] at hlk
      obtain ⟨hok, hjn⟩ := HN.out hg
      have HE := Lib.hid (HKs.out hok)
      rw [hjn] at HSt
      have hlk2 : (Instr.lookup 63 (.map (some sb)) (.agg #[.int .i64 x.dev, .int .i64 x.seq]) true).run Try.prog w6 = .ok (.tuple #[.agg #[.int .i64 0, .int .i64 0, .int .i64 0, .int .i64 0, .string ⟨#[]⟩, .int .i64 0, .int .i64 0, .int .i64 0], .bool false]) w6 := hlk
      clear hlk hg hok hjn
      go_upto_region 14 with fail
      have hb7 : Below w6.heap.size w6 (w6.alloc (.cells #[.int .i64 0, .int .i64 0, .int .i64 0, .int .i64 0, .string ⟨#[]⟩, .int .i64 0, .int .i64 0, .int .i64 0] 36)) := (Below.refl _ _).alloc (Nat.le_refl _) _
      have HZ7 := Lib.hid (boxAt (Below.refl _ (w6.alloc (.cells #[.int .i64 0, .int .i64 0, .int .i64 0, .int .i64 0, .string ⟨#[]⟩, .int .i64 0, .int .i64 0, .int .i64 0] 36))))
      have HX7 := Lib.hid ((hb7.block _ (by omega)).trans HX6.out)
      have HN7 := Lib.hid ((hb7.block _ (by omega)).trans HN6.out)
      have HS7 := Lib.hid (HS6.out.below hb7)
      have HB7 := Lib.hid (HB6.out.trans (hb7.mono (by omega)))
      generalize w6.alloc (.cells #[.int .i64 0, .int .i64 0, .int .i64 0, .int .i64 0, .string ⟨#[]⟩, .int .i64 0, .int .i64 0, .int .i64 0] 36) = w7 at hb7 HZ7 HX7 HN7 HS7 HB7 ⊢
      have hnz := hb7.size
      have hnzx := lt_of_row HZ7.out
      generalize w6.heap.size = nz at HZ7 hnz hnzx hs6 ⊢
      clear hb7 HX6 HN6 HS6 HB6 hlk2 n0 n1
      obtain ⟨e0, e1, e2, e3, e4, e5, e6, e7⟩ := op_cells HX7.out
      obtain ⟨n0, n1⟩ := pair_cells HN7.out
      obtain ⟨w9, hrun0, hset, hgr⟩ := HS7.out.put (by unfold maxLen; omega) (x) (by exact HFk.out)
      have hrun : (Instr.mapUpdate 63 (.map (some sb)) (.agg #[.int .i64 x.dev, .int .i64 x.seq]) (.agg #[.int .i64 x.dev, .int .i64 x.seq, .int .i64 x.stamp, .int .i64 x.kind, .string x.item, .int .i64 x.qty, .int .i64 x.level, .int .i64 x.undos])).run Try.prog w7 = .ok () w9 := hrun0
      have HB9 : Hid (Below w2.heap.size w2 w9) := HB7.out.grown hgr HB7.out.size (fun j hj => by cases hj; exact hsb)
      have HSet : Hid (SetIs w9 sb (no + (k + 1)) (mixF l m (k + 1))) := by show SetIs _ _ _ _; rw [HSt.out]; exact hset
      clear hrun0 hset hgr
      go_wp2
      go_roundw
      case rel => exact ⟨k + 1, by omega, by go_num, HSet, HE, HB9⟩
      case measure => simp [intOf]; omega
    obtain ⟨hoy, hjy⟩ := HY.out y hg
    have HOy := Lib.hid hoy
    have HJy := Lib.hid hjy
    rw [hg] at hlk
    clear hg hoy hjy
    rcases hsm : sameB x y with _ | _
    · have HF2 := Lib.hid (HStop.out (by rw [HOy.out, hsm]))
      have HSm := Lib.hid hsm
      have hlk2 : (Instr.lookup 63 (.map (some sb)) (.agg #[.int .i64 x.dev, .int .i64 x.seq]) true).run Try.prog w6 = .ok (.tuple #[.agg #[.int .i64 y.dev, .int .i64 y.seq, .int .i64 y.stamp, .int .i64 y.kind, .string y.item, .int .i64 y.qty, .int .i64 y.level, .int .i64 y.undos], .bool true]) w6 := hlk
      clear hlk hsm HF HCa HCb HFm HInc
      have HF := HF2
      go_upto_region 9 with fail
      have hb7 : Below w6.heap.size w6 (w6.alloc (.cells #[.int .i64 y.dev, .int .i64 y.seq, .int .i64 y.stamp, .int .i64 y.kind, .string y.item, .int .i64 y.qty, .int .i64 y.level, .int .i64 y.undos] 36)) := (Below.refl _ _).alloc (Nat.le_refl _) _
      have HZ7 := Lib.hid (boxAt (Below.refl _ (w6.alloc (.cells #[.int .i64 y.dev, .int .i64 y.seq, .int .i64 y.stamp, .int .i64 y.kind, .string y.item, .int .i64 y.qty, .int .i64 y.level, .int .i64 y.undos] 36))))
      have HX7 := Lib.hid ((hb7.block _ (by omega)).trans HX6.out)
      have HN7 := Lib.hid ((hb7.block _ (by omega)).trans HN6.out)
      have HS7 := Lib.hid (HS6.out.below hb7)
      have HB7 := Lib.hid (HB6.out.trans (hb7.mono (by omega)))
      generalize w6.alloc (.cells #[.int .i64 y.dev, .int .i64 y.seq, .int .i64 y.stamp, .int .i64 y.kind, .string y.item, .int .i64 y.qty, .int .i64 y.level, .int .i64 y.undos] 36) = w7 at hb7 HZ7 HX7 HN7 HS7 HB7 ⊢
      have hnz := hb7.size
      have hnzx := lt_of_row HZ7.out
      generalize w6.heap.size = nz at HZ7 hnz hnzx hs6 ⊢
      clear hb7 HX6 HN6 HS6 HB6 hlk2 n0 n1
      obtain ⟨e0, e1, e2, e3, e4, e5, e6, e7⟩ := op_cells HX7.out
      obtain ⟨g0, g1, g2, g3, g4, g5, g6, g7⟩ := op_cells HZ7.out
      go_wp2_with fail
      refine (joinedNo x y HSm.out w7).mono ?_
      rintro e w8 ⟨rfl, hb8⟩
      have HB8 := Lib.hid (HB7.out.trans (hb8.mono (by omega)))
      have hs8 := hb8.size
      clear hb8 e0 e1 e2 e3 e4 e5 e6 e7 g0 g1 g2 g3 g4 g5 g6 g7 HX7 HZ7 HS7 HN7 HB7
      go_upto_region 11 with fail
      have hb9 : Below w8.heap.size w8 (w8.alloc (.cells #[.int .i64 0, .int .i64 0, .int .i64 0, .int .i64 0, .string ⟨#[]⟩, .int .i64 0, .int .i64 0, .int .i64 0] 36)) := (Below.refl _ _).alloc (Nat.le_refl _) _
      have HB9 := Lib.hid (HB8.out.trans (hb9.mono (by omega)))
      generalize w8.alloc (.cells #[.int .i64 0, .int .i64 0, .int .i64 0, .int .i64 0, .string ⟨#[]⟩, .int .i64 0, .int .i64 0, .int .i64 0] 36) = w9 at hb9 HB9 ⊢
      have HT9 := Lib.hid (HT2.out.next HB9.out)
      clear hb9
      obtain ⟨r0, r1⟩ := pair_cells HT9.out.res
      obtain ⟨fz0, fz1⟩ := pair_frozen HT9.out.res
      have HXr := Lib.hid (HT9.out.set2 (.slice none 0 0) (.slice none 0 0)).1
      have HBr2 := Lib.hid (HT9.out.set2 (.slice none 0 0) (.slice none 0 0)).2
      go_wp2
      change bodyPost _ _ _ _ _ ((w9.setCell ⟨w.heap.size + 1 + 1, 0, none⟩ (.slice none 0 0)).setCell ⟨w.heap.size + 1 + 1, 1, none⟩ (.slice none 0 0))
      generalize (w9.setCell ⟨w.heap.size + 1 + 1, 0, none⟩ (.slice none 0 0)).setCell ⟨w.heap.size + 1 + 1, 1, none⟩ (.slice none 0 0) = wf at HXr HBr2 ⊢
      obtain ⟨q0, q1⟩ := pair_cells HXr.out
      have hsf := HBr2.out.size
      exact bodyPost_ret (v := .tuple #[.agg #[.slice none 0 0, .slice none 0 0], .bool false]) (by simp [results, Try.results17, go_sem, q0, q1]) rfl ⟨none, 0, none, 0, w.heap.size, by rw [HF.out]; rfl, by rw [HF.out]; exact own_nil _ _ _ _, by rw [HF.out]; exact own_none _ _ _ _, Nat.le_refl _, hsf, HBr2.out, by rw [HF.out]; exact caps_nil⟩
    obtain ⟨u, rfl⟩ : ∃ u, y = x.with u := ⟨_, same_yes hsm⟩
    have hlk2 : (Instr.lookup 63 (.map (some sb)) (.agg #[.int .i64 x.dev, .int .i64 x.seq]) true).run Try.prog w6 = .ok (.tuple #[.agg #[.int .i64 x.dev, .int .i64 x.seq, .int .i64 x.stamp, .int .i64 x.kind, .string x.item, .int .i64 x.qty, .int .i64 x.level, .int .i64 u], .bool true]) w6 := hlk
    have HE := Lib.hid (HKs.out (by rw [HOy.out, hsm]))
    clear hlk hsm HOy
    have HS6lt : Hid (sb < nb) := by show sb < nb; have := HS6s.out; omega
    go_upto_region 9 with fail
    have hb7 : Below w6.heap.size w6 (w6.alloc (.cells #[.int .i64 x.dev, .int .i64 x.seq, .int .i64 x.stamp, .int .i64 x.kind, .string x.item, .int .i64 x.qty, .int .i64 x.level, .int .i64 u] 36)) := (Below.refl _ _).alloc (Nat.le_refl _) _
    have HZ7 := Lib.hid (boxAt (Below.refl _ (w6.alloc (.cells #[.int .i64 x.dev, .int .i64 x.seq, .int .i64 x.stamp, .int .i64 x.kind, .string x.item, .int .i64 x.qty, .int .i64 x.level, .int .i64 u] 36))))
    have HX7 := Lib.hid ((hb7.block _ (by omega)).trans HX6.out)
    have HN7 := Lib.hid ((hb7.block _ (by omega)).trans HN6.out)
    have HS7 := Lib.hid (HS6.out.below hb7)
    have HB7 := Lib.hid (HB6.out.trans (hb7.mono (by omega)))
    generalize w6.alloc (.cells #[.int .i64 x.dev, .int .i64 x.seq, .int .i64 x.stamp, .int .i64 x.kind, .string x.item, .int .i64 x.qty, .int .i64 x.level, .int .i64 u] 36) = w7 at hb7 HZ7 HX7 HN7 HS7 HB7 ⊢
    have hnz := hb7.size
    have hnzx := lt_of_row HZ7.out
    generalize w6.heap.size = nz at HZ7 hnz hnzx hs6 ⊢
    clear hb7 HX6 HN6 HS6 HB6 hlk2 n0 n1
    obtain ⟨e0, e1, e2, e3, e4, e5, e6, e7⟩ := op_cells HX7.out
    obtain ⟨g0, g1, g2, g3, g4, g5, g6, g7⟩ := op_cells HZ7.out
    go_wp2_with fail
    refine (joinedYes x u w7).mono ?_
    rintro e w8 ⟨rfl, hb8⟩
    have HX8 := Lib.hid ((hb8.block _ (by omega)).trans HX7.out)
    have HN8 := Lib.hid ((hb8.block _ (by omega)).trans HN7.out)
    have HS8 := Lib.hid (HS7.out.below hb8)
    have HB8 := Lib.hid (HB7.out.trans (hb8.mono (by omega)))
    have hs8 := hb8.size
    clear hb8 e0 e1 e2 e3 e4 e5 e6 e7 g0 g1 g2 g3 g4 g5 g6 g7 HX7 HZ7 HS7 HN7 HB7
    have HJx : Hid (putF (mixF l m k) (x.with (max x.undos u)) = mixF l m (k + 1)) := by show _ = _; rw [HSt.out, HJy.out]; rfl
    generalize max x.undos u = mx at HJx ⊢
    go_upto_region 11 with fail
    have hb9 : Below w8.heap.size w8 (w8.alloc (.cells #[.int .i64 x.dev, .int .i64 x.seq, .int .i64 x.stamp, .int .i64 x.kind, .string x.item, .int .i64 x.qty, .int .i64 x.level, .int .i64 mx] 36)) := (Below.refl _ _).alloc (Nat.le_refl _) _
    have HW9 := Lib.hid (boxAt (Below.refl _ (w8.alloc (.cells #[.int .i64 x.dev, .int .i64 x.seq, .int .i64 x.stamp, .int .i64 x.kind, .string x.item, .int .i64 x.qty, .int .i64 x.level, .int .i64 mx] 36))))
    have HX9 := Lib.hid ((hb9.block _ (by omega)).trans HX8.out)
    have HN9 := Lib.hid ((hb9.block _ (by omega)).trans HN8.out)
    have HS9 := Lib.hid (HS8.out.below hb9)
    have HB9 := Lib.hid (HB8.out.trans (hb9.mono (by omega)))
    generalize w8.alloc (.cells #[.int .i64 x.dev, .int .i64 x.seq, .int .i64 x.stamp, .int .i64 x.kind, .string x.item, .int .i64 x.qty, .int .i64 x.level, .int .i64 mx] 36) = w10 at hb9 HW9 HX9 HN9 HS9 HB9 ⊢
    clear hb9 HX8 HN8 HS8 HB8
    have hsbn : sb ≠ nb := by have := HS6lt.out; omega
    obtain ⟨e0, e1, e2, e3, e4, e5, e6, e7⟩ := op_cells HX9.out
    obtain ⟨g0, g1, g2, g3, g4, g5, g6, g7⟩ := op_cells HW9.out
    obtain ⟨f0, f1, f2, f3, f4, f5, f6, f7⟩ := op_frozen HX9.out
    have HXs := Lib.hid (setOp_same (.int .i64 x.dev) (.int .i64 x.seq) (.int .i64 x.stamp) (.int .i64 x.kind) (.string x.item) (.int .i64 x.qty) (.int .i64 x.level) (.int .i64 mx) HX9.out)
    have HNs : Hid ((setOp w10 nb (.int .i64 x.dev) (.int .i64 x.seq) (.int .i64 x.stamp) (.int .i64 x.kind) (.string x.item) (.int .i64 x.qty) (.int .i64 x.level) (.int .i64 mx)).heap[nn]? = some (.cells #[.int .i64 x.dev, .int .i64 x.seq] 66 (0, 0))) := (setOp_other _ _ _ _ _ _ _ _ (by omega)).trans HN9.out
    have HSs : Hid (SetIs (setOp w10 nb (.int .i64 x.dev) (.int .i64 x.seq) (.int .i64 x.stamp) (.int .i64 x.kind) (.string x.item) (.int .i64 x.qty) (.int .i64 x.level) (.int .i64 mx)) sb (no + k) (mixF l m k)) := HS9.out.kept (setOp_other _ _ _ _ _ _ _ _ hsbn)
    have HBs : Hid (Below w2.heap.size w2 (setOp w10 nb (.int .i64 x.dev) (.int .i64 x.seq) (.int .i64 x.stamp) (.int .i64 x.kind) (.string x.item) (.int .i64 x.qty) (.int .i64 x.level) (.int .i64 mx))) := setOp_below _ _ _ _ _ _ _ _ HB9.out (by omega)
    go_upto_region 14 with fail
    clear e0 e1 e2 e3 e4 e5 e6 e7 g0 g1 g2 g3 g4 g5 g6 g7 f0 f1 f2 f3 f4 f5 f6 f7 HX9 HN9 HS9 HB9 HW9
    change Code.wp _ _ _ _ (setOp w10 nb (.int .i64 x.dev) (.int .i64 x.seq) (.int .i64 x.stamp) (.int .i64 x.kind) (.string x.item) (.int .i64 x.qty) (.int .i64 x.level) (.int .i64 mx))
    generalize setOp w10 nb (.int .i64 x.dev) (.int .i64 x.seq) (.int .i64 x.stamp) (.int .i64 x.kind) (.string x.item) (.int .i64 x.qty) (.int .i64 x.level) (.int .i64 mx) = w11 at HXs HNs HSs HBs ⊢
    obtain ⟨e0, e1, e2, e3, e4, e5, e6, e7⟩ := op_cells HXs.out
    obtain ⟨n0, n1⟩ := pair_cells HNs.out
    obtain ⟨w9, hrun0, hset, hgr⟩ := HSs.out.put (by unfold maxLen; omega) (x.with mx) (by exact HFk.out)
    have hrun : (Instr.mapUpdate 63 (.map (some sb)) (.agg #[.int .i64 x.dev, .int .i64 x.seq]) (.agg #[.int .i64 x.dev, .int .i64 x.seq, .int .i64 x.stamp, .int .i64 x.kind, .string x.item, .int .i64 x.qty, .int .i64 x.level, .int .i64 mx])).run Try.prog w11 = .ok () w9 := hrun0
    have HB9 : Hid (Below w2.heap.size w2 w9) := HBs.out.grown hgr HBs.out.size (fun j hj => by cases hj; exact hsb)
    have HSet : Hid (SetIs w9 sb (no + (k + 1)) (mixF l m (k + 1))) := by show SetIs _ _ _ _; rw [← HJx.out]; exact hset
    clear hrun0 hset hgr
    go_wp2
    go_roundw
    case rel => exact ⟨k + 1, by omega, by go_num, HSet, HE, HB9⟩
    case measure => simp [intOf]; omega
end Go.Proofs.Ythfkoplljinmmaa

namespace Go.Proofs.Ythfkoplljinmmaa
open Go.RowKit
set_option linter.unusedVariables false

theorem listP_congr {zs : List Int} {F G : Nat → Nat → OpV} (h : ∀ d s : Nat, d < 4 → (s : Int) < zs.getD d 0 → F d s = G d s) : ∀ d s : Nat, d ≤ 4 → (d < 4 → (s : Int) ≤ max 0 (zs.getD d 0)) → (d = 4 → s = 0) → listP zs F d s = listP zs G d s
  | 0, 0, _, _, _ => rfl
  | d + 1, 0, hd, _, _ => by
    rw [listP_next, listP_next]
    exact listP_congr h d _ (by omega) (fun _ => by omega) (fun e => by omega)
  | d, s + 1, hd, hs, h4 => by
    have hd4 : d < 4 := by
      rcases Nat.lt_or_ge d 4 with h1 | h1
      · exact h1
      · have := h4 (by omega); omega
    have := hs hd4
    rw [listP_step, listP_step, listP_congr h d s (by omega) (fun _ => by omega) (fun e => by omega), h d s hd4 (by omega)]
theorem atOp_ext {l m : List OpV} (hl : l.length = m.length) (h : ∀ i, i < l.length → atOp l i = atOp m i) : l = m := by
  refine List.ext_getElem hl fun i h1 h2 => ?_
  have := h i h1
  unfold atOp at this
  rw [List.getD_eq_getElem?_getD, List.getD_eq_getElem?_getD, List.getElem?_eq_getElem h1, List.getElem?_eq_getElem h2] at this
  exact this
/-- A valid cart's operations are those that its set has, by device and number. -/
theorem listP_self {xs : List Int} {l : List OpV} (h : cartB xs l = true) {F : Nat → Nat → OpV} (hF : ∀ d s : Nat, d < 4 → (s : Int) < xs.getD d 0 → F d s = atOp l (stOf xs d + s)) : listP xs F 4 0 = l := by
  have hlen : (listP xs F 4 0).length = stOf xs 4 := listP_len xs F 4 0
  have h4 := (cart_true h).2.2
  refine atOp_ext (by rw [hlen, h4]) fun i hi => ?_
  rw [hlen, h4] at hi
  obtain ⟨d, hd, h1, h2, _, _, _⟩ := cart_at h hi
  have e : stOf xs (d + 1) = stOf xs d + (xs.getD d 0).toNat := rfl
  obtain ⟨s, rfl⟩ : ∃ s, i = stOf xs d + s := ⟨i - stOf xs d, by omega⟩
  rw [listP_at xs F hd (s := s) (by omega)]
  exact hF d s hd (by omega)
/-- What a set of a valid cart has under a name. -/
theorem get_cases {xs : List Int} {l : List OpV} (h : cartB xs l = true) {d : Nat} (hd : d < 4) (s : Nat) : ((s : Int) < xs.getD d 0 ∧ getO l (d : Int) ((s : Int) + 1) = some (atOp l (stOf xs d + s))) ∨ (xs.getD d 0 ≤ (s : Int) ∧ getO l (d : Int) ((s : Int) + 1) = none) := by
  by_cases hx : (s : Int) < xs.getD d 0
  · exact .inl ⟨hx, get_has h hd hx⟩
  · exact .inr ⟨by omega, get_none h (by omega)⟩
theorem mergedB_parts {xs ys : List Int} {l m : List OpV} (h : mergedB xs l ys m = true) : cartB xs l = true ∧ cartB ys m = true ∧ okM l m = true := by
  unfold mergedB at h
  rw [Bool.and_eq_true, Bool.and_eq_true] at h
  exact h
theorem sameB_symm {a b : OpV} (h : sameB a b = true) : sameB b a = true := by
  rw [same_yes h]
  have := same_with (a.with b.undos) a.undos
  rw [with_with] at this
  exact this
theorem same_refl (a : OpV) : sameB a a = true := same_with a a.undos
/-- What is within the second cart leaves it as it is, merged with it. -/
theorem maxV_eq {xs ys : List Int} (h : vecOk xs = true) (h2 : vecOk ys = true) (hle : ∀ d, d < 4 → xs.getD d 0 ≤ ys.getD d 0) : maxV xs ys = ys := by
  have l1 := (vec_at h (d := 0) (by omega)).2.2
  have l2 := (vec_at h2 (d := 0) (by omega)).2.2
  have l3 : (maxV xs ys).length = 4 := by unfold maxV; rw [List.length_zipWith]; omega
  refine List.ext_getElem (by omega) fun i h3 h4 => ?_
  have e := maxV_at l1 l2 (d := i) (by omega)
  have := hle i (by omega)
  rw [Int.max_eq_right this, List.getD_eq_getElem?_getD, List.getD_eq_getElem?_getD, List.getElem?_eq_getElem h3, List.getElem?_eq_getElem h4] at e
  exact e
theorem inCart_parts {xs ys : List Int} {l m : List OpV} (h : inCart xs l ys m = true) : cartB xs l = true ∧ cartB ys m = true ∧ allW m l = true := by
  unfold inCart at h
  rw [Bool.and_eq_true, Bool.and_eq_true] at h
  exact h
theorem in_op {xs ys : List Int} {l m : List OpV} (h : inCart xs l ys m = true) {i : Nat} (hi : i < l.length) : ∃ y, getO m (atOp l i).dev (atOp l i).seq = some y ∧ y = (atOp l i).with y.undos ∧ (atOp l i).undos ≤ y.undos := by
  obtain ⟨h1, h2, h3⟩ := inCart_parts h
  unfold allW at h3
  rw [List.all_eq_true] at h3
  have := h3 i (List.mem_range.2 hi)
  rcases hg : setF m m.length (atOp l i).dev (atOp l i).seq with _ | y
  · rw [okW_none hg] at this; cases this
  · rw [okW_some hg, Bool.and_eq_true] at this
    exact ⟨y, hg, same_yes this.1, of_decide_eq_true this.2⟩
theorem in_le {xs ys : List Int} {l m : List OpV} (h : inCart xs l ys m = true) {d : Nat} (hd : d < 4) : xs.getD d 0 ≤ ys.getD d 0 := by
  obtain ⟨h1, h2, _⟩ := inCart_parts h
  have hx := (vec_at (cart_true h1).1 hd).1
  have hy := (vec_at (cart_true h2).1 hd).1
  rcases Int.lt_or_le (ys.getD d 0) (xs.getD d 0) with hlt | hle
  · exfalso
    obtain ⟨s, hs⟩ : ∃ s : Nat, (s : Int) + 1 = xs.getD d 0 := ⟨(xs.getD d 0 - 1).toNat, by omega⟩
    obtain ⟨h5, h6⟩ := cart_has h1 hd (s := s) (by omega)
    obtain ⟨y, hy1, _, _⟩ := in_op h h5
    rw [h6.1, h6.2] at hy1
    have : getO m (d : Int) ((s : Int) + 1) = none := get_none h2 (by omega)
    rw [this] at hy1
    cases hy1
  · exact hle
theorem merged_in {xs ys : List Int} {l m : List OpV} (h : inCart xs l ys m = true) : mergedB xs l ys m = true ∧ maxV xs ys = ys ∧ mergeL ys l m = m := by
  obtain ⟨h1, h2, _⟩ := inCart_parts h
  have v1 := (cart_true h1).1
  have v2 := (cart_true h2).1
  have hok : okM l m = true := okM_end fun j hj => by
    rcases hg : getO l (atOp m j).dev (atOp m j).seq with _ | x
    · exact okJ_none hg
    · rw [okJ_some hg]
      obtain ⟨i, hi, e, rfl⟩ := setF_some _ hg
      obtain ⟨y, hy1, hy2, _⟩ := in_op h hi
      have : y = atOp m j := by
        rw [e.1, e.2] at hy1
        have h3 := setF_hit (cart_inc h2) m.length (Nat.le_refl _) j hj
        have h4 : some y = some (atOp m j) := hy1.symm.trans h3
        injection h4
      rw [this] at hy2
      rw [hy2]
      exact sameB_symm (same_with _ _)
  have hB : mergedB xs l ys m = true := by rw [mergedB_3 h1 h2]; exact hok
  refine ⟨hB, maxV_eq v1 v2 fun d hd => in_le h hd, listP_self h2 fun d s hd hs => ?_⟩
  have hgm : getO m (d : Int) ((s : Int) + 1) = some (atOp m (stOf ys d + s)) := get_has h2 hd hs
  show joinAt l m _ _ = _
  unfold joinAt
  rw [hgm]
  rcases hl : getO l (d : Int) ((s : Int) + 1) with _ | a
  · rfl
  · obtain ⟨i, hi, e, rfl⟩ := setF_some _ hl
    obtain ⟨y, hy1, hy2, hy3⟩ := in_op h hi
    rw [e.1, e.2] at hy1
    have h4 : some y = some (atOp m (stOf ys d + s)) := hy1.symm.trans hgm
    injection h4 with h4
    rw [← h4]
    show (atOp l i).with (max (atOp l i).undos y.undos) = y
    rw [Int.max_eq_right hy3]
    exact hy2.symm
end Go.Proofs.Ythfkoplljinmmaa

namespace Go.Proofs.Ythfkoplljinmmaa
open Go.RowKit

/-- Does the vector count the operation? -/
def cutP (v : List Int) (o : OpV) : Bool := decide (o.seq ≤ v.getD o.dev.toNat 0)
def cutB (xs : List Int) (l : List OpV) (v : List Int) : Bool := cartB xs l && vecOk v
def cutVs (xs v : List Int) (ok : Bool) : List Int := if ok = true then zipI min xs v else []
def cutOs (l : List OpV) (v : List Int) (ok : Bool) : List OpV := if ok = true then l.filter (cutP v) else []
theorem cutVs_len {l : List OpV} (xs v : List Int) {R : Bool} (h : cutB xs l v = R) : (cutVs xs v R).length ≤ 4 := by
  unfold cutVs
  split
  · rename_i hR
    subst hR
    unfold cutB at h
    rw [Bool.and_eq_true] at h
    unfold zipI
    rw [List.length_zipWith]
    have := (vec_at h.2 (d := 0) (by omega)).2.2
    omega
  · exact Nat.zero_le _
theorem cutOs_len {l : List OpV} {v : List Int} {N : Nat} (h : l.length ≤ N) (R : Bool) : (cutOs l v R).length ≤ N := by
  unfold cutOs
  split
  · exact Nat.le_trans (List.length_filter_le _ _) h
  · exact Nat.zero_le _
theorem cut_items {q : OpV → Bool} {m : List OpV} {N : Nat} (h : ∀ i, i < m.length → (atOp m i).item.size ≤ N) : ∀ i, i < (m.filter q).length → ((m.filter q).getD i OpV.zero).item.size ≤ N := fun i hi => by
  rw [List.getD_eq_getElem?_getD, List.getElem?_eq_getElem hi]
  have hm : (m.filter q)[i] ∈ m := (List.mem_filter.1 (List.getElem_mem hi)).1
  obtain ⟨j, hj, e⟩ := List.mem_iff_getElem.1 hm
  have := h j hj
  unfold atOp at this
  rw [List.getD_eq_getElem?_getD, List.getElem?_eq_getElem hj] at this
  rw [← e]
  exact this
end Go.Proofs.Ythfkoplljinmmaa

namespace Go.Proofs.Ythfkoplljinmmaa
open Go.RowKit
set_option linter.unusedVariables false

theorem zip_at {xs v : List Int} (h : vecOk xs = true) (h2 : vecOk v = true) {d : Nat} (hd : d < 4) : (zipI min xs v).getD d 0 = min (xs.getD d 0) (v.getD d 0) := by
  obtain ⟨x0, x1, x2, x3, rfl⟩ := four h
  obtain ⟨y0, y1, y2, y3, rfl⟩ := four h2
  match d, hd with
  | 0, _ => rfl
  | 1, _ => rfl
  | 2, _ => rfl
  | 3, _ => rfl
theorem zip_len {xs v : List Int} (h : vecOk xs = true) (h2 : vecOk v = true) : (zipI min xs v).length = 4 := by
  obtain ⟨x0, x1, x2, x3, rfl⟩ := four h
  obtain ⟨y0, y1, y2, y3, rfl⟩ := four h2
  rfl
theorem vec_of {xs : List Int} (hl : xs.length = 4) (h : ∀ d, d < 4 → 0 ≤ xs.getD d 0 ∧ xs.getD d 0 ≤ 40) : vecOk xs = true := by
  unfold vecOk
  rw [Bool.and_eq_true, List.all_eq_true]
  refine ⟨fun x hx => ?_, decide_eq_true hl⟩
  obtain ⟨i, hi, rfl⟩ := List.mem_iff_getElem.1 hx
  have := h i (by omega)
  rw [List.getD_eq_getElem?_getD, List.getElem?_eq_getElem hi] at this
  unfold inV
  simp only [Option.getD_some] at this
  rw [Bool.and_eq_true, decide_eq_true_eq, decide_eq_true_eq]
  exact this
theorem zip_ok {xs v : List Int} (h : vecOk xs = true) (h2 : vecOk v = true) : vecOk (zipI min xs v) = true := by
  refine vec_of (zip_len h h2) fun d hd => ?_
  rw [zip_at h h2 hd]
  have a := vec_at h hd
  have b := vec_at h2 hd
  omega
theorem vec_ext {xs ys : List Int} (h : xs.length = 4) (h2 : ys.length = 4) (he : ∀ d, d < 4 → xs.getD d 0 = ys.getD d 0) : xs = ys := by
  refine List.ext_getElem (by omega) fun i h3 h4 => ?_
  have := he i (by omega)
  rw [List.getD_eq_getElem?_getD, List.getD_eq_getElem?_getD, List.getElem?_eq_getElem h3, List.getElem?_eq_getElem h4] at this
  exact this
def cutF (xs : List Int) (l : List OpV) : Nat → Nat → OpV := fun d s => atOp l (stOf xs d + s)
theorem cutF_fit {xs : List Int} {l : List OpV} (h : cartB xs l = true) {d : Nat} (hd : d < 4) {s : Nat} (hs : (s : Int) < xs.getD d 0) : (cutF xs l d s).ok = true ∧ (cutF xs l d s).dev = (d : Int) ∧ (cutF xs l d s).seq = (s : Int) + 1 := by
  obtain ⟨a, b, c, _⟩ := fit_parts (cart_fitB h hd hs)
  exact ⟨a, b, c⟩
theorem cutP_at {xs v : List Int} {l : List OpV} (h : cartB xs l = true) {d : Nat} (hd : d < 4) {s : Nat} (hs : (s : Int) < xs.getD d 0) : cutP v (cutF xs l d s) = decide ((s : Int) + 1 ≤ v.getD d 0) := by
  obtain ⟨_, b, c⟩ := cutF_fit h hd hs
  unfold cutP
  rw [b, c]
  rfl
theorem cut_run {xs v : List Int} {l : List OpV} (h : cartB xs l = true) (hv : vecOk v = true) {d : Nat} (hd : d < 4) (h0 : (listP xs (cutF xs l) d 0).filter (cutP v) = listP (zipI min xs v) (cutF xs l) d 0) : ∀ s : Nat, (s : Int) ≤ xs.getD d 0 → (listP xs (cutF xs l) d s).filter (cutP v) = listP (zipI min xs v) (cutF xs l) d (min s (v.getD d 0).toNat)
  | 0, _ => by rw [Nat.zero_min]; exact h0
  | s + 1, hs => by
    rw [listP_step, List.filter_append, cut_run h hv hd h0 s (by omega)]
    have e := cutP_at (v := v) h hd (s := s) (by omega)
    by_cases hc : (s : Int) + 1 ≤ v.getD d 0
    · rw [decide_eq_true hc] at e
      rw [List.filter_cons_of_pos (by exact e), List.filter_nil, Nat.min_eq_left (by omega), Nat.min_eq_left (by omega), listP_step]
    · rw [decide_eq_false hc] at e
      rw [List.filter_cons_of_neg (by rw [e]; exact Bool.false_ne_true), List.filter_nil, List.append_nil, Nat.min_eq_right (by omega), Nat.min_eq_right (by omega)]
theorem cut_list4 {xs v : List Int} {l : List OpV} (h : cartB xs l = true) (hv : vecOk v = true) : ∀ d : Nat, d ≤ 4 → (listP xs (cutF xs l) d 0).filter (cutP v) = listP (zipI min xs v) (cutF xs l) d 0
  | 0, _ => rfl
  | d + 1, hd => by
    have hx := vec_at (cart_true h).1 (d := d) (by omega)
    have hy := vec_at hv (d := d) (by omega)
    rw [listP_next, listP_next, cut_run h hv (by omega) (cut_list4 h hv d (by omega)) _ (by omega), zip_at (cart_true h).1 hv (by omega)]
    congr 1
    omega
theorem cut_list {xs v : List Int} {l : List OpV} (h : cartB xs l = true) (hv : vecOk v = true) : l.filter (cutP v) = listP (zipI min xs v) (cutF xs l) 4 0 := by
  have := cut_list4 h hv 4 (Nat.le_refl _)
  rw [listP_self h (F := cutF xs l) fun d s _ _ => rfl] at this
  exact this
theorem cut_le {xs v : List Int} (h : vecOk xs = true) (h2 : vecOk v = true) {d s : Nat} (hd : d < 4) (hs : (s : Int) < (zipI min xs v).getD d 0) : (s : Int) < xs.getD d 0 ∧ (s : Int) < v.getD d 0 := by
  rw [zip_at h h2 hd] at hs
  omega
/-- What is cut is a right cart. -/
theorem cart_cut {xs v : List Int} {l : List OpV} (h : cartB xs l = true) (hv : vecOk v = true) : cartB (zipI min xs v) (l.filter (cutP v)) = true := by
  have vx := (cart_true h).1
  have hlen : (listP (zipI min xs v) (cutF xs l) 4 0).length = stOf (zipI min xs v) 4 := listP_len _ _ 4 0
  rw [cut_list h hv]
  rw [cart_end (zip_ok vx hv) fun d hd => ?_]
  · exact decide_eq_true hlen.symm
  · have hm := stOf_mono (zipI min xs v) (d + 1) 4 (by omega)
    unfold devB
    rw [Bool.and_eq_true]
    refine ⟨decide_eq_true (by omega), ?_⟩
    unfold runB
    rw [List.all_eq_true]
    intro s hs
    have hs := List.mem_range.1 hs
    have hsi := (cut_le vx hv hd (s := s) (by omega)).1
    have ea : atOp (listP (zipI min xs v) (cutF xs l) 4 0) (stOf (zipI min xs v) d + s) = cutF xs l d s := listP_at _ _ hd hs
    obtain ⟨m1, m2, m3⟩ := cutF_fit h hd hsi
    refine fit_yes (by rw [ea]; exact m1) (by rw [ea]; exact m2) (by rw [ea]; exact m3) ?_
    rw [ea]
    have hp := (fit_parts (cart_fitB h hd hsi)).2.2.2
    cases s with
    | zero => exact hp
    | succ t =>
      rw [prev_step] at hp ⊢
      have eb : atOp (listP (zipI min xs v) (cutF xs l) 4 0) (stOf (zipI min xs v) d + t) = cutF xs l d t := listP_at _ _ hd (by omega)
      rw [eb]
      exact hp
theorem cut_at {xs v : List Int} {l : List OpV} (h : cartB xs l = true) (hv : vecOk v = true) {d s : Nat} (hd : d < 4) (hs : (s : Int) < (zipI min xs v).getD d 0) : atOp (l.filter (cutP v)) (stOf (zipI min xs v) d + s) = atOp l (stOf xs d + s) := by
  rw [cut_list h hv]
  exact listP_at _ _ hd (by omega)
/-- Below the vector a cut cart has what the cart has; from it on, nothing. -/
theorem get_cut {xs v : List Int} {l : List OpV} (h : cartB xs l = true) (hv : vecOk v = true) {d s : Nat} (hd : d < 4) (hs : (s : Int) < v.getD d 0) : getO (l.filter (cutP v)) (d : Int) ((s : Int) + 1) = getO l (d : Int) ((s : Int) + 1) := by
  have hz := zip_at (cart_true h).1 hv hd
  rcases get_cases (cart_cut h hv) hd s with ⟨h1, h2⟩ | ⟨h1, h2⟩
  · rw [h2, cut_at h hv hd h1]
    exact (get_has h hd (cut_le (cart_true h).1 hv hd h1).1).symm
  · rw [h2]
    exact (get_none h (by omega)).symm
theorem in_cut {xs v : List Int} {l : List OpV} (h : cartB xs l = true) (hv : vecOk v = true) : inCart (zipI min xs v) (l.filter (cutP v)) xs l = true := by
  have hc := cart_cut h hv
  rw [inCart_3 hc h]
  refine allW_end fun i hi => ?_
  obtain ⟨d, hd, h1, h2, _, a3, a4⟩ := cart_at hc hi
  have e : stOf (zipI min xs v) (d + 1) = stOf (zipI min xs v) d + ((zipI min xs v).getD d 0).toNat := rfl
  obtain ⟨s, rfl⟩ : ∃ s, i = stOf (zipI min xs v) d + s := ⟨i - stOf (zipI min xs v) d, by omega⟩
  have hs : (s : Int) < (zipI min xs v).getD d 0 := by omega
  have hg : setF l l.length (d : Int) ((s : Int) + 1) = some (atOp l (stOf xs d + s)) := get_has h hd (cut_le (cart_true h).1 hv hd hs).1
  have e2 : ((stOf (zipI min xs v) d + s - stOf (zipI min xs v) d : Nat) : Int) + 1 = (s : Int) + 1 := by omega
  rw [e2] at a4
  rw [← cut_at h hv hd hs] at hg
  rw [okW_some (by rw [a3, a4]; exact hg), Bool.and_eq_true]
  exact ⟨same_refl _, decide_eq_true (Int.le_refl _)⟩
theorem cut_cut (v : List Int) (l : List OpV) : (l.filter (cutP v)).filter (cutP v) = l.filter (cutP v) := by
  rw [List.filter_filter]
  congr 1
  funext a
  exact Bool.and_self _
theorem cut_cutV {xs v : List Int} (h : vecOk xs = true) (hv : vecOk v = true) : zipI min (zipI min xs v) v = zipI min xs v :=
  vec_ext (zip_len (zip_ok h hv) hv) (zip_len h hv) fun d hd => by
    rw [zip_at (zip_ok h hv) hv hd, zip_at h hv hd]
    omega
theorem cut_own {xs : List Int} {l : List OpV} (h : cartB xs l = true) : l.filter (cutP xs) = l := by
  rw [cut_list h (cart_true h).1]
  have e : zipI min xs xs = xs := vec_ext (zip_len (cart_true h).1 (cart_true h).1) (vec_at (cart_true h).1 (d := 0) (by omega)).2.2 fun d hd => by
    rw [zip_at (cart_true h).1 (cart_true h).1 hd]
    omega
  rw [e]
  exact listP_self h fun d s _ _ => rfl
theorem cut_ownV {xs : List Int} (h : vecOk xs = true) : zipI min xs xs = xs := vec_ext (zip_len h h) (vec_at h (d := 0) (by omega)).2.2 fun d hd => by
  rw [zip_at h h hd]
  omega
/-- Cut at two vectors, in either order, is cut at the lesser of both. -/
theorem cut_two {xs v w : List Int} {l : List OpV} (h : cartB xs l = true) (hv : vecOk v = true) (hw : vecOk w = true) : (l.filter (cutP v)).filter (cutP w) = l.filter (cutP (zipI min v w)) := by
  rw [List.filter_filter]
  refine List.filter_congr fun o ho => ?_
  obtain ⟨i, hi, rfl⟩ := List.mem_iff_getElem.1 ho
  obtain ⟨d, hd, _, _, _, a3, _⟩ := cart_at h hi
  have eo : l[i] = atOp l i := by unfold atOp; rw [List.getD_eq_getElem?_getD, List.getElem?_eq_getElem hi]; rfl
  rw [eo]
  unfold cutP
  rw [a3]
  have e : ((d : Int)).toNat = d := rfl
  rw [e, zip_at hv hw hd, ← Bool.decide_and, decide_eq_decide]
  omega
theorem cut_twoV {xs v w : List Int} (h : vecOk xs = true) (hv : vecOk v = true) (hw : vecOk w = true) : zipI min (zipI min xs v) w = zipI min xs (zipI min v w) :=
  vec_ext (zip_len (zip_ok h hv) hw) (zip_len h (zip_ok hv hw)) fun d hd => by
    rw [zip_at (zip_ok h hv) hw hd, zip_at h hv hd, zip_at h (zip_ok hv hw) hd, zip_at hv hw hd]
    omega
theorem zip_comm {v w : List Int} (hv : vecOk v = true) (hw : vecOk w = true) : zipI min v w = zipI min w v :=
  vec_ext (zip_len hv hw) (zip_len hw hv) fun d hd => by
    rw [zip_at hv hw hd, zip_at hw hv hd]
    omega
/-- What is merged and cut is what is cut and merged. -/
theorem cut_merged {xs ys v : List Int} {l m : List OpV} (h : mergedB xs l ys m = true) (hv : vecOk v = true) :
    mergedB (zipI min xs v) (l.filter (cutP v)) (zipI min ys v) (m.filter (cutP v)) = true ∧ maxV (zipI min xs v) (zipI min ys v) = zipI min (maxV xs ys) v ∧ mergeL (maxV (zipI min xs v) (zipI min ys v)) (l.filter (cutP v)) (m.filter (cutP v)) = (mergeL (maxV xs ys) l m).filter (cutP v) := by
  obtain ⟨h1, h2, h3⟩ := mergedB_parts h
  have c1 := cart_cut h1 hv
  have c2 := cart_cut h2 hv
  have v1 := (cart_true h1).1
  have v2 := (cart_true h2).1
  have l1 := (vec_at v1 (d := 0) (by omega)).2.2
  have l2 := (vec_at v2 (d := 0) (by omega)).2.2
  have hM := cart_merged h1 h2 h3
  have vM := (cart_true hM).1
  have ev : maxV (zipI min xs v) (zipI min ys v) = zipI min (maxV xs ys) v := by
    refine vec_ext (vec_at (maxV_ok (cart_true c1).1 (cart_true c2).1) (d := 0) (by omega)).2.2 (zip_len vM hv) fun d hd => ?_
    rw [maxV_at (zip_len v1 hv) (zip_len v2 hv) hd, zip_at v1 hv hd, zip_at v2 hv hd, zip_at vM hv hd, maxV_at l1 l2 hd]
    omega
  have hok : okM (l.filter (cutP v)) (m.filter (cutP v)) = true := okM_end fun j hj => by
    obtain ⟨d, hd, p1, p2, _, a3, a4⟩ := cart_at c2 hj
    have e : stOf (zipI min ys v) (d + 1) = stOf (zipI min ys v) d + ((zipI min ys v).getD d 0).toNat := rfl
    obtain ⟨s, rfl⟩ : ∃ s, j = stOf (zipI min ys v) d + s := ⟨j - stOf (zipI min ys v) d, by omega⟩
    have hs : (s : Int) < (zipI min ys v).getD d 0 := by omega
    have e2 : ((stOf (zipI min ys v) d + s - stOf (zipI min ys v) d : Nat) : Int) + 1 = (s : Int) + 1 := by omega
    rw [e2] at a4
    have hle := cut_le v2 hv hd hs
    have hg := get_cut h1 hv hd hle.2
    have hmm := cart_has h2 hd hle.1
    have hj2 := okM_at h3 hmm.1
    have ea := cut_at h2 hv hd hs
    rw [ea] at a3 a4 ⊢
    unfold okJ at hj2 ⊢
    rw [a3, a4] at hj2 ⊢
    rw [hg]
    exact hj2
  have hB : mergedB (zipI min xs v) (l.filter (cutP v)) (zipI min ys v) (m.filter (cutP v)) = true := by rw [mergedB_3 c1 c2]; exact hok
  refine ⟨hB, ev, ?_⟩
  rw [ev, cut_list hM hv]
  refine listP_congr (fun d s hd hs => ?_) 4 0 (Nat.le_refl _) (fun e => absurd e (by omega)) (fun _ => rfl)
  have hle := cut_le vM hv hd hs
  show joinAt _ _ _ _ = atOp (mergeL (maxV xs ys) l m) (stOf (maxV xs ys) d + s)
  have e3 : atOp (mergeL (maxV xs ys) l m) (stOf (maxV xs ys) d + s) = mergeF l m d s := listP_at _ _ hd (by omega)
  rw [e3]
  show joinAt _ _ _ _ = joinAt _ _ _ _
  unfold joinAt
  rw [get_cut h1 hv hd hle.2, get_cut h2 hv hd hle.2]
end Go.Proofs.Ythfkoplljinmmaa

namespace Go.Proofs.Ythfkoplljinmmaa
open Go.RowKit


set_option maxRecDepth 100000 in
set_option maxHeartbeats 5000000 in
theorem cloneOpsK (w : World) (B b off n cap : Nat) (l : List OpV) (h : Ops w B (some ⟨b, off, none⟩) n l) (hB : B ≤ w.heap.size) (hl : n ≤ 1048576) : Calls Try.prog 111 #[.slice (some ⟨b, off, none⟩) n cap] w (OpsPostK l w) := by
  obtain ⟨i0, hi, hz0, hz1, hz2⟩ := info_parts Try.infoOp
  have hnil := fun w => Lib.run_eql_slice_nil (P := Try.prog) w 25 36 (some ⟨b, off, none⟩) n cap 0 0 Try.underlying25
  have hown : (w.alloc (.cells #[] 36)).ownsRow w.heap.size 36 8 (.slice (some ⟨w.heap.size, 0, none⟩) 0 0) 0 [] := World.ownsRow_made w #[] 0 (Nat.le_refl _) (by unfold maxLen; omega) rfl
  have hL := Lib.hid h.1
  have H := Lib.hid h
  clear h
  go_enter Try.func111, Try.ntmps111
  go_wp2_with (at_builtin; refine wpList_append_own _ rfl _ _ 25 rfl w.heap.size 36 i0 (.agg #[.int .i64 0, .int .i64 0, .int .i64 0, .int .i64 0, .string ⟨#[]⟩, .int .i64 0, .int .i64 0, .int .i64 0]) 8 72 Try.underlying25 hi hz0 hz1 hz2 rfl (by decide) _ _ _ rfl hown ⟨b, off, none⟩ n cap (opCells l) rfl ?c0 ?c1 ?c2 ?c3 ?c4 ?c5 ?_)
  case c0 => rw [opCells_len, hL.out]
  case c1 => exact cells_of_ops (H.out.below ((Below.refl w.heap.size w).alloc (Nat.le_refl _) _) hB)
  case c2 => exact opCells_one l
  case c3 => unfold maxLen; omega
  case c4 => omega
  case c5 => simp
  intro v' w1 hown' hgrow hnn
  have hb1 := ((Below.refl w.heap.size w).alloc (Nat.le_refl _) _).grown hgrow (by simp) (fun j hj => (hown.lt j hj).1)
  have hown2 : w1.ownsRow w.heap.size 36 8 v' n (opCells l) := by simpa using hown'
  obtain ⟨a', cap', hv⟩ : ∃ a' cap', v' = .slice a' n cap' := by
    rcases hown2.2 with ⟨e, e2⟩ | ⟨g, c, cur, e, _⟩
    · exact ⟨none, 0, by rw [e, e2]⟩
    · exact ⟨_, _, e⟩
  subst hv
  have hvc := Lib.hid (caps_of_row hown2)
  have HO := Lib.hid (own_of_cells (hi := w1.heap.size) hown2 (Nat.le_refl _))
  clear hown' hown2 hgrow hown hnn
  go_wp2
  go_ret
  exact ⟨a', cap', by rw [hL.out]; rfl, by rw [hL.out]; exact hvc.out, by rw [hL.out]; exact HO.out, hb1⟩

set_option maxRecDepth 100000 in
set_option maxHeartbeats 10000000 in
theorem copiedOpsK (w : World) (B : Nat) (a : Option Addr) (n cap : Nat) (l : List OpV) (h : Ops w B a n l) (hB : B ≤ w.heap.size) (hn : n ≤ 1048576) (hcap : a = none → cap = 0) (hnz : 0 < n ∨ a = none) (hm : ∀ i, i < n → (l.getD i OpV.zero).item.size ≤ 1048576) : Calls Try.prog 76 #[.slice a n cap] w (OpsPostK l w) := by
  by_cases h0 : 0 < n
  · obtain ⟨b, off, rfl, hb, _⟩ := h.2 0 h0
    have HL := Lib.hid h.1
    have HM := Lib.hid hm
    clear hm hcap hnz
    go_enter Try.func76, Try.ntmps76
    go_wp2_with fail
    refine (cloneOpsK w B b off n cap l h hB hn).mono ?_
    rintro e w1 ⟨a1, c1, rfl, hcc, ho, hb1⟩
    rw [h.1] at hcc
    have hcc := Lib.hid hcc
    have HC1 : Hid (∃ g o1, a1 = some ⟨g, o1, none⟩ ∧ w.heap.size ≤ g ∧ CS g o1 n l w w1) := by
      rw [h.1] at ho
      obtain ⟨g, o1, cs, e1, h1, h2, hg, hs, hc⟩ := ho.2 h0
      exact ⟨g, o1, e1, h1, hb1, cs, hg, hs, hc⟩
    clear ho hb1 h
    obtain ⟨g, o1, rfl, hg0, hcs⟩ := HC1.out
    have HC := Lib.hid hcs
    clear hcs HC1
    rw [HL.out]
    go_wp2
    go_loopw [4, 9] (fun _ i wr => ∃ k : Nat, k ≤ n ∧ i = .int .i64 (k : Int) ∧ Hid (CS g o1 n l w wr)) (fun _ i _ => n - (intOf i).toNat)
    case atStart => exact ⟨0, by omega, rfl, HC⟩
    case round =>
      obtain ⟨k, hk, rfl, HR⟩ := hrel
      by_cases hlt : k < n
      rotate_left
      · obtain rfl : k = n := by omega
        have HP : Hid (OpsPostK l w (.returned (.slice (some ⟨g, o1, none⟩) k c1)) wr) := by
          obtain ⟨h1, cs, hg, hs, hc⟩ := HR.out
          exact ⟨some ⟨g, o1, none⟩, c1, by rw [HL.out], by rw [HL.out]; exact hcc.out, ⟨rfl, fun _ => ⟨g, o1, cs, rfl, hg0, (Array.getElem?_eq_some_iff.1 hg).1, hg, by rw [HL.out]; exact hs, by rw [HL.out]; exact hc⟩⟩, h1⟩
        go_wp2
        go_ret
        exact HP.out
      have hit := HM.out k hlt
      have hput := fun w2 (h : CS g o1 n l w w2) => h.put hg0 hlt
      have HPut := Lib.hid hput
      clear hput
      have HCell : Hid (∀ w2, CS g o1 n l w w2 → w2.cell? ⟨g, o1 + k * 8 + 4, none⟩ = some (.string (l.getD k OpV.zero).item) ∧ w2.frozen? ⟨g, o1 + k * 8 + 4, none⟩ = false) := fun w2 h => by
        obtain ⟨_, cs, hg, _, hc⟩ := h
        exact ⟨((hc k hlt).at hg).2.2.2.2.1, frozen_of_row _ _ _ _ _ hg⟩
      generalize (l.getD k OpV.zero).item = s at hit HPut HCell
      have c4 := (HCell.out wr HR.out).1
      go_wp2_with fail
      refine (strClone s hit _).mono ?_
      rintro e w2 ⟨rfl, hb2⟩
      have HR2 := Lib.hid (HR.out.step hb2)
      clear c4 hb2 HR
      have c4 := (HCell.out w2 HR2.out).1
      have f4 := (HCell.out w2 HR2.out).2
      have HR3 := Lib.hid (HPut.out w2 HR2.out)
      go_wp2
      go_roundw
      case rel => exact ⟨k + 1, by omega, by go_num, HR3⟩
      case measure => simp [intOf]; omega
  · obtain rfl : n = 0 := by omega
    have hl : l = [] := List.eq_nil_of_length_eq_zero h.1
    subst hl
    clear hm
    rcases a with _ | ad
    · obtain rfl := hcap rfl
      clear hnz h0
      go_enter Try.func76, Try.ntmps76
      go_wp2_with fail
      refine (cloneNil w).mono ?_
      rintro e w1 ⟨rfl, rfl⟩
      go_wp2
      refine wp_loop_rounds 1 ?_
      rw [rounds_succ]
      go_wp2
      go_ret
      exact ⟨none, 0, rfl, caps_nil, own_none _ _ _ _, Below.refl _ _⟩
    · exact absurd hnz (by rintro (h | h); exact h0 h; cases h)

end Go.Proofs.Ythfkoplljinmmaa

namespace Go.Proofs.Ythfkoplljinmmaa
open Go.RowKit

theorem Two.set2 {w w1 : World} {x : Array Value} {z0 z1 : Value} {T : TypeId} (h : Two w w1 x #[z0, z1] T) (u v : Value) :
    ((w1.setCell ⟨w.heap.size + 1, 0, none⟩ u).setCell ⟨w.heap.size + 1, 1, none⟩ v).heap[w.heap.size + 1]? = some (.cells #[u, v] T (0, 0)) ∧ Below w.heap.size w ((w1.setCell ⟨w.heap.size + 1, 0, none⟩ u).setCell ⟨w.heap.size + 1, 1, none⟩ v) :=
  ⟨pair_set _ _ h.snd, (h.bel.setCell (by show _ ≤ w.heap.size + 1; omega) _).setCell (by show _ ≤ w.heap.size + 1; omega) _⟩
theorem cut_no {xs : List Int} {l : List OpV} {v : List Int} (h : cartB xs l = false) : cutB xs l v = false := by unfold cutB; rw [h]; rfl
theorem cut_no2 {xs : List Int} {l : List OpV} {v : List Int} (h : vecOk v = false) : cutB xs l v = false := by unfold cutB; rw [h, Bool.and_false]
theorem cut_yes {xs : List Int} {l : List OpV} {v : List Int} (h : cartB xs l = true) (h2 : vecOk v = true) : cutB xs l v = true := by unfold cutB; rw [h, h2]; rfl
set_option linter.unusedSimpArgs false in
set_option maxRecDepth 100000 in
set_option maxHeartbeats 80000000 in
theorem implCut (w : World) (B : Nat) (av ao bv : Option Addr) (nv cv no co mv dv : Nat) (xs : List Int) (l : List OpV) (ys : List Int) (hx : Ints w B av nv xs) (h : Ops w B ao no l) (hy : Ints w B bv mv ys) (hB : B ≤ w.heap.size) (hv : nv ≤ 1048576) (hc : no ≤ co) (hc2 : Fits no co) (hm : ∀ i, i < no → (atOp l i).item.size ≤ 1048576) (hv2 : mv ≤ 1048576) :
    Calls Try.prog 47 #[.agg #[.slice av nv cv, .slice ao no co], .slice bv mv dv] w (CartPostK (cutB xs l ys) (cutVs xs ys (cutB xs l ys)) (cutOs l ys (cutB xs l ys)) w) := by
  have hT := Two.mk0 w #[.slice av nv cv, .slice ao no co] #[.slice none 0 0, .slice none 0 0] 27
  have HV := Lib.hid (hx.below hT.bel hB)
  have HO := Lib.hid (h.below hT.bel hB)
  have HY := Lib.hid (hy.below hT.bel hB)
  have HT := Lib.hid hT
  have HLx := Lib.hid hx.1
  have HL := Lib.hid h.1
  have HLy := Lib.hid hy.1
  have HM := Lib.hid hm
  have hBw := hB
  have hn : no ≤ 1048576 := hc2.1
  have HF := Lib.hid hc2
  obtain ⟨R, hR⟩ : ∃ R, cutB xs l ys = R := ⟨_, rfl⟩
  have HR := Lib.hid hR
  clear hx h hy hT hm hB hc2
  rw [hR]
  clear hR
  go_enter Try.func47, Try.ntmps47
  go_wp2_with fail
  generalize (w.alloc (.cells #[.slice av nv cv, .slice ao no co] 27)).alloc (.cells #[.slice none 0 0, .slice none 0 0] 27) = w0 at HV HO HY HT ⊢
  have hsz0 := HT.out.bel.size
  have hsz1 := lt_of_row HT.out.snd
  refine (implCartOk w0 B av ao nv cv no co xs l HV.out HO.out (by omega) hv hc HF.out).mono ?_
  rintro e w1 ⟨rfl, hb⟩
  have HV1 := Lib.hid (HV.out.below hb (by omega))
  have HO1 := Lib.hid (HO.out.below hb (by omega))
  have HY1 := Lib.hid (HY.out.below hb (by omega))
  have HT1 := Lib.hid (HT.out.next hb)
  have hs1 := hb.size
  clear hb HV HO HY HT
  obtain ⟨ca, hca⟩ : ∃ b, cartB xs l = b := ⟨_, rfl⟩
  have HCa := Lib.hid hca
  rw [hca]
  clear hca
  cases ca
  · skip
    obtain rfl : R = false := by rw [← HR.out]; exact cut_no HCa.out
    obtain ⟨r0, r1⟩ := pair_cells HT1.out.snd
    obtain ⟨fz0, fz1⟩ := pair_frozen HT1.out.snd
    have HXr := Lib.hid (HT1.out.set2 (.slice none 0 0) (.slice none 0 0)).1
    have HBr2 := Lib.hid (HT1.out.set2 (.slice none 0 0) (.slice none 0 0)).2
    go_wp2
    change bodyPost _ _ _ _ _ ((w1.setCell ⟨w.heap.size + 1, 0, none⟩ (.slice none 0 0)).setCell ⟨w.heap.size + 1, 1, none⟩ (.slice none 0 0))
    generalize (w1.setCell ⟨w.heap.size + 1, 0, none⟩ (.slice none 0 0)).setCell ⟨w.heap.size + 1, 1, none⟩ (.slice none 0 0) = wf at HXr HBr2 ⊢
    obtain ⟨q0, q1⟩ := pair_cells HXr.out
    have hsf := HBr2.out.size
    exact bodyPost_ret (v := .tuple #[.agg #[.slice none 0 0, .slice none 0 0], .bool false]) (by simp [results, Try.results47, go_sem, q0, q1]) rfl ⟨none, 0, none, 0, w.heap.size, rfl, own_nil _ _ _ _, own_none _ _ _ _, Nat.le_refl _, hsf, HBr2.out, caps_nil⟩
  go_wp2_with fail
  refine (implVecOk w1 B bv mv dv ys HY1.out hv2).mono ?_
  rintro e w2 ⟨rfl, rfl⟩
  obtain ⟨cb, hcb⟩ : ∃ b, vecOk ys = b := ⟨_, rfl⟩
  have HCb := Lib.hid hcb
  rw [hcb]
  clear hcb
  cases cb
  · skip
    obtain rfl : R = false := by rw [← HR.out]; exact cut_no2 HCb.out
    obtain ⟨r0, r1⟩ := pair_cells HT1.out.snd
    obtain ⟨fz0, fz1⟩ := pair_frozen HT1.out.snd
    have HXr := Lib.hid (HT1.out.set2 (.slice none 0 0) (.slice none 0 0)).1
    have HBr2 := Lib.hid (HT1.out.set2 (.slice none 0 0) (.slice none 0 0)).2
    go_wp2
    change bodyPost _ _ _ _ _ ((w1.setCell ⟨w.heap.size + 1, 0, none⟩ (.slice none 0 0)).setCell ⟨w.heap.size + 1, 1, none⟩ (.slice none 0 0))
    generalize (w1.setCell ⟨w.heap.size + 1, 0, none⟩ (.slice none 0 0)).setCell ⟨w.heap.size + 1, 1, none⟩ (.slice none 0 0) = wf at HXr HBr2 ⊢
    obtain ⟨q0, q1⟩ := pair_cells HXr.out
    have hsf := HBr2.out.size
    exact bodyPost_ret (v := .tuple #[.agg #[.slice none 0 0, .slice none 0 0], .bool false]) (by simp [results, Try.results47, go_sem, q0, q1]) rfl ⟨none, 0, none, 0, w.heap.size, rfl, own_nil _ _ _ _, own_none _ _ _ _, Nat.le_refl _, hsf, HBr2.out, caps_nil⟩
  obtain rfl : R = true := by rw [← HR.out]; exact cut_yes HCa.out HCb.out
  have hy4 : ys.length = 4 := (vec_at HCb.out (d := 0) (by omega)).2.2
  obtain rfl : mv = 4 := by rw [← HLy.out]; exact hy4
  obtain ⟨yb, yo, rfl, -, -⟩ := HY1.out.2 0 (by omega)
  clear hy4
  obtain ⟨a0, a1⟩ := pair_cells HT1.out.fst
  go_wp2
  go_loopw [6, 21] (fun v i wr => ∃ (k : Nat) (vv : Value), k ≤ no ∧ vv = v ∧ i = .int .i64 (k : Int) ∧ Hid (wr.ownsRow w1.heap.size 36 8 v ((l.take k).filter (cutP ys)).length (opCells ((l.take k).filter (cutP ys)))) ∧ Hid (Below w1.heap.size w1 wr) ∧ Hid (((l.take k).filter (cutP ys)).length = 0 → vv = .slice none 0 0)) (fun _ i _ => no - (intOf i).toNat)
  case atStart => exact ⟨0, _, Nat.zero_le _, rfl, rfl, World.ownsRow_nil _ _ _ _, Below.refl _ _, fun _ => rfl⟩
  case round =>
    obtain ⟨k, vv, hk, hvv, rfl, HRw, HBr, HNz⟩ := hrel
    subst hvv
    clear a0 a1
    have hsr := HBr.out.size
    by_cases hlt : k < no
    rotate_left
    · obtain rfl : no = k := by omega
      have HTk : Hid (l.take no = l) := by show _ = _; rw [← HL.out]; exact List.take_length
      rw [HTk.out] at HRw HNz
      have HIt := Lib.hid (cut_items (q := cutP ys) (m := l) (N := 1048576) (fun i hi => HM.out i (by rw [← HL.out]; exact hi)))
      have hlenL : (l.filter (cutP ys)).length ≤ 1048576 := by have := List.length_filter_le (cutP ys) l; have := HL.out; omega
      have HE : Hid (cutOs l ys true = l.filter (cutP ys)) := by show _ = _; rfl
      have HZ : Hid (cutVs xs ys true = zipI min xs ys) := by show _ = _; rfl
      have HZ2 : Hid (vecZip min xs ys = zipI min xs ys) := by show _ = _; exact vecZip_yes (by rw [(cart_true HCa.out).1, HCb.out]; rfl)
      generalize l.filter (cutP ys) = L at HRw HNz HE HIt hlenL
      have HP : Hid (∃ a c, vv = .slice a L.length c ∧ (a = none → c = 0) ∧ (0 < L.length ∨ a = none) ∧ OwnOps wr w1.heap.size wr.heap.size a L.length L) := by
        have hr := HRw.out
        rcases hr.2 with ⟨e, e2⟩ | ⟨g, c, cur, e, r⟩
        · subst e
          rw [e2] at hr ⊢
          exact ⟨none, 0, rfl, fun _ => rfl, .inr rfl, own_of_cells hr (Nat.le_refl _)⟩
        · subst e
          have h0 : 0 < L.length := by
            rcases Nat.eq_zero_or_pos L.length with e0 | e0
            · exact absurd (HNz.out e0) (by intro h; cases h)
            · exact e0
          exact ⟨_, c, rfl, (fun h => by cases h), .inl h0, own_of_cells hr (Nat.le_refl _)⟩
      obtain ⟨ra, rc, rfl, hrc, hr0, hown⟩ := HP.out
      have HOo := Lib.hid hown
      have HRc := Lib.hid hrc
      have HR0 := Lib.hid hr0
      clear hown hrc hr0 HP HRw
      have HTr := Lib.hid (HT1.out.next HBr.out)
      have HVr := Lib.hid (HV1.out.below HBr.out (by omega))
      have HYr := Lib.hid (HY1.out.below HBr.out (by omega))
      obtain ⟨a0, a1⟩ := pair_cells HTr.out.fst
      go_wp2_with fail
      refine (implMin wr B av (some ⟨yb, yo, none⟩) nv cv 4 dv xs ys HVr.out HYr.out (by omega) hv (by omega)).mono ?_
      rintro e w3 ⟨va, vc, rfl, hov, hb3⟩
      rw [HZ2.out] at hov ⊢
      have HOv3 := Lib.hid hov
      have HOo3 := Lib.hid (HOo.out.ops.below hb3 (Nat.le_refl _))
      have HT3 := Lib.hid (HTr.out.next hb3)
      have hs3 := hb3.size
      clear hov hb3 HTr HVr HYr HOo a0 a1
      go_wp2_with fail
      refine (copiedOpsK w3 wr.heap.size ra L.length rc L HOo3.out (by omega) hlenL HRc.out HR0.out HIt.out).mono ?_
      rintro e w5 ⟨oa, oc, rfl, hcaps, hop, hb5⟩
      have HCp := Lib.hid hcaps
      have HOp5 := Lib.hid hop
      have HOv5 := Lib.hid (HOv3.out.below hb5 (Nat.le_refl _))
      have HT5 := Lib.hid (HT3.out.next hb5)
      have hs5 := hb5.size
      clear hcaps hop hb5 HT3 HOo3 HOv3
      obtain ⟨r0, r1⟩ := pair_cells HT5.out.snd
      obtain ⟨fz0, fz1⟩ := pair_frozen HT5.out.snd
      have HXr := Lib.hid (HT5.out.set2 (.slice va (zipI min xs ys).length vc) (.slice oa L.length oc)).1
      have HBr2 := Lib.hid (HT5.out.set2 (.slice va (zipI min xs ys).length vc) (.slice oa L.length oc)).2
      have HOv7 : Hid (Own ((w5.setCell ⟨w.heap.size + 1, 0, none⟩ (.slice va (zipI min xs ys).length vc)).setCell ⟨w.heap.size + 1, 1, none⟩ (.slice oa L.length oc)) wr.heap.size w3.heap.size va (zipI min xs ys).length (zipI min xs ys)) := HOv5.out.kept fun q h1 h2 => pair_other _ _ (by omega)
      have HOp7 : Hid (OwnOps ((w5.setCell ⟨w.heap.size + 1, 0, none⟩ (.slice va (zipI min xs ys).length vc)).setCell ⟨w.heap.size + 1, 1, none⟩ (.slice oa L.length oc)) w3.heap.size w5.heap.size oa L.length L) := HOp5.out.kept fun q h1 h2 => pair_other _ _ (by omega)
      have hsz7 : ((w5.setCell ⟨w.heap.size + 1, 0, none⟩ (.slice va (zipI min xs ys).length vc)).setCell ⟨w.heap.size + 1, 1, none⟩ (.slice oa L.length oc)).heap.size = w5.heap.size := pair_size _ _ _ _
      go_wp2
      change bodyPost _ _ _ _ _ ((w5.setCell ⟨w.heap.size + 1, 0, none⟩ (.slice va (zipI min xs ys).length vc)).setCell ⟨w.heap.size + 1, 1, none⟩ (.slice oa L.length oc))
      generalize (w5.setCell ⟨w.heap.size + 1, 0, none⟩ (.slice va (zipI min xs ys).length vc)).setCell ⟨w.heap.size + 1, 1, none⟩ (.slice oa L.length oc) = wf at HXr HBr2 HOv7 HOp7 hsz7 ⊢
      obtain ⟨q0, q1⟩ := pair_cells HXr.out
      rw [HE.out, HZ.out]
      exact bodyPost_ret (v := .tuple #[.agg #[.slice va (zipI min xs ys).length vc, .slice oa L.length oc], .bool true]) (by simp [results, Try.results47, go_sem, q0, q1]) rfl ⟨va, vc, oa, oc, w3.heap.size, rfl, HOv7.out.more (by omega) (Nat.le_refl _), HOp7.out.more (Nat.le_refl _) (by omega), by omega, by omega, HBr2.out, HCp.out⟩
    have HSt := Lib.hid (filt_step (q := cutP ys) (l := l) (k := k) (by rw [HL.out]; exact hlt))
    have HOr := Lib.hid (HO1.out.below HBr.out (by omega))
    have HYr := Lib.hid (HY1.out.below HBr.out (by omega))
    obtain ⟨b, off, rfl, hb, ho⟩ := HOr.out.2 k hlt
    have HOk : Hid (OpAt wr b (off + k * 8) (atOp l k)) := ho
    have hlen : ((l.take k).filter (cutP ys)).length ≤ 1048576 := by
      have := List.length_filter_le (cutP ys) (l.take k)
      have := List.length_take_le k l
      omega
    have hdev : 0 ≤ (atOp l k).dev ∧ (atOp l k).dev < 4 := by
      obtain ⟨d, hd, _, _, _, e, _⟩ := cart_at HCa.out (i := k) (by rw [HL.out]; exact hlt)
      rw [e]
      omega
    have HYc : Hid (∃ Y, cutP ys (atOp l k) = decide ((atOp l k).seq ≤ Y) ∧ wr.cell? ⟨yb, yo + (atOp l k).dev.toNat, none⟩ = some (.int .i64 Y)) := by
      obtain ⟨b', off', e, _, hcell⟩ := HYr.out.2 (atOp l k).dev.toNat (by omega)
      cases e
      exact ⟨_, rfl, hcell⟩
    obtain ⟨Y, hP, hYc⟩ := HYc.out
    have HPx := Lib.hid hP
    clear ho HOr hP HYc
    generalize (l.take k).filter (cutP ys) = L at HRw HNz HSt hlen
    generalize atOp l k = x at HOk HSt HPx hYc hdev
    obtain ⟨d0, d1, d2, d3, d4, d5, d6, d7⟩ := HOk.out
    have hki : (k : Int) < (no : Int) := by omega
    obtain ⟨hd0, hd4⟩ := hdev
    have hyb := block_lt_of_cell hYc
    go_upto_region 7 with fail
    have hb5 : Below wr.heap.size wr (wr.alloc (.cells #[.int .i64 x.dev, .int .i64 x.seq, .int .i64 x.stamp, .int .i64 x.kind, .string x.item, .int .i64 x.qty, .int .i64 x.level, .int .i64 x.undos] 36)) := (Below.refl _ _).alloc (Nat.le_refl _) _
    have HXo := Lib.hid (boxAt (Below.refl _ (wr.alloc (.cells #[.int .i64 x.dev, .int .i64 x.seq, .int .i64 x.stamp, .int .i64 x.kind, .string x.item, .int .i64 x.qty, .int .i64 x.level, .int .i64 x.undos] 36))))
    have HOw5 := Lib.hid (own_row_kept HRw.out hb5)
    have HY5 : Hid ((wr.alloc (.cells #[.int .i64 x.dev, .int .i64 x.seq, .int .i64 x.stamp, .int .i64 x.kind, .string x.item, .int .i64 x.qty, .int .i64 x.level, .int .i64 x.undos] 36)).cell? ⟨yb, yo + x.dev.toNat, none⟩ = some (.int .i64 Y)) := (hb5.cell hyb).trans hYc
    have HB5 := Lib.hid (HBr.out.trans (hb5.mono (by omega)))
    have hs5 := hb5.size
    generalize wr.alloc (.cells #[.int .i64 x.dev, .int .i64 x.seq, .int .i64 x.stamp, .int .i64 x.kind, .string x.item, .int .i64 x.qty, .int .i64 x.level, .int .i64 x.undos] 36) = w5 at hb5 HXo HOw5 HY5 HB5 hs5 ⊢
    generalize wr.heap.size = ob at HXo hs5 hsr ⊢
    clear hb5 HRw HYr HOk d0 d1 d2 d3 d4 d5 d6 d7 HBr hYc hyb
    have hobl := lt_of_row HXo.out
    obtain ⟨d0, d1, d2, d3, d4, d5, d6, d7⟩ := op_cells HXo.out
    have hyc := HY5.out
    have hd00 : ¬ (x.dev < 0) := by omega
    have hd0d : decide (x.dev < 0) = false := decide_eq_false (by omega)
    have hd4n : x.dev.toNat < 4 := by omega
    have hS : w5.drew.cell? ⟨ob, 0, none⟩ = some (.int .i64 x.dev) ∧ w5.drew.cell? ⟨ob, 1, none⟩ = some (.int .i64 x.seq) ∧ w5.drew.cell? ⟨yb, yo + x.dev.toNat, none⟩ = some (.int .i64 Y) := ⟨d0, d1, hyc⟩
    go_wp2_with fail
    refine wp_region_held_drew (S := fun w' => w'.cell? ⟨ob, 0, none⟩ = some (.int .i64 x.dev) ∧ w'.cell? ⟨ob, 1, none⟩ = some (.int .i64 x.seq) ∧ w'.cell? ⟨yb, yo + x.dev.toNat, none⟩ = some (.int .i64 Y)) (by kernel_rfl) hS (fun hHeld => ?_)
    refine wpAnyH_take (i := 0) (oi := { dst := some 25, op := Op.fieldAddr 36 (Operand.tmp 8) 1, type := 0, pos := "l13_stable.go:74", after := #[], guard := none }) (v := ?_) rfl (by kernel_rfl) (by kernel_rfl) (by kernel_rfl) (fun _ _ _ h => h) (Or.inl ⟨by rfl, ?_⟩) (by assumption) ?_
    rotate_left
    · intro w hSw
      (try dsimp only at hSw)
      first | (go_simp; done) | (go_simp; with_reducible rfl)
    (try simp only [Act.put, List.setIfInBounds_toArray, List.set_cons_zero, List.set_cons_succ])
    refine wpAnyH_take (i := 1) (oi := { dst := some 26, op := Op.load 2 (Operand.tmp 25), type := 2, pos := "l13_stable.go:74", after := #[{ on := 0, ground := Ground.data }], guard := none }) (v := ?_) rfl (by kernel_rfl) (by kernel_rfl) (by kernel_rfl) (fun _ _ _ h => h) (Or.inl ⟨by rfl, ?_⟩) (by assumption) ?_
    rotate_left
    · intro w hSw
      (try dsimp only at hSw)
      first | (go_simp; done) | (go_simp; with_reducible rfl)
    (try simp only [Act.put, List.setIfInBounds_toArray, List.set_cons_zero, List.set_cons_succ])
    refine wpAnyH_take (i := 2) (oi := { dst := some 27, op := Op.move (Operand.tmp 1), type := 24, pos := "l13_stable.go:74", after := #[], guard := none }) (v := ?_) rfl (by kernel_rfl) (by kernel_rfl) (by kernel_rfl) (fun _ _ _ h => h) (Or.inl ⟨by rfl, ?_⟩) (by assumption) ?_
    rotate_left
    · intro w hSw
      (try dsimp only at hSw)
      first | (go_simp; done) | (go_simp; with_reducible rfl)
    (try simp only [Act.put, List.setIfInBounds_toArray, List.set_cons_zero, List.set_cons_succ])
    refine wpAnyH_take (i := 3) (oi := { dst := some 28, op := Op.fieldAddr 36 (Operand.tmp 8) 0, type := 0, pos := "l13_stable.go:74", after := #[], guard := none }) (v := ?_) rfl (by kernel_rfl) (by kernel_rfl) (by kernel_rfl) (fun _ _ _ h => h) (Or.inl ⟨by rfl, ?_⟩) (by assumption) ?_
    rotate_left
    · intro w hSw
      (try dsimp only at hSw)
      first | (go_simp; done) | (go_simp; with_reducible rfl)
    (try simp only [Act.put, List.setIfInBounds_toArray, List.set_cons_zero, List.set_cons_succ])
    refine wpAnyH_take (i := 4) (oi := { dst := some 29, op := Op.load 2 (Operand.tmp 28), type := 2, pos := "l13_stable.go:74", after := #[{ on := 3, ground := Ground.data }], guard := none }) (v := ?_) rfl (by kernel_rfl) (by kernel_rfl) (by kernel_rfl) (fun _ _ _ h => h) (Or.inl ⟨by rfl, ?_⟩) (by assumption) ?_
    rotate_left
    · intro w hSw
      (try dsimp only at hSw)
      first | (go_simp; done) | (go_simp; with_reducible rfl)
    (try simp only [Act.put, List.setIfInBounds_toArray, List.set_cons_zero, List.set_cons_succ])
    refine wpAnyH_take (i := 5) (oi := { dst := some 30, op := Op.indexAddr 24 (Operand.tmp 27) (Operand.tmp 29), type := 0, pos := "l13_stable.go:74", after := #[{ on := 2, ground := Ground.data }, { on := 4, ground := Ground.data }], guard := none }) (v := ?_) rfl (by kernel_rfl) (by kernel_rfl) (by kernel_rfl) (fun _ _ _ h => h) (Or.inl ⟨by rfl, ?_⟩) (by assumption) ?_
    rotate_left
    · intro w hSw
      (try dsimp only at hSw)
      first | (go_simp; done) | (go_simp; with_reducible rfl)
    (try simp only [Act.put, List.setIfInBounds_toArray, List.set_cons_zero, List.set_cons_succ])
    refine wpAnyH_take (i := 6) (oi := { dst := some 31, op := Op.load 2 (Operand.tmp 30), type := 2, pos := "l13_stable.go:74", after := #[{ on := 5, ground := Ground.data }], guard := none }) (v := ?_) rfl (by kernel_rfl) (by kernel_rfl) (by kernel_rfl) (fun _ _ _ h => h) (Or.inl ⟨by rfl, ?_⟩) (by assumption) ?_
    rotate_left
    · intro w hSw
      (try dsimp only at hSw)
      first | (go_simp; done) | (go_simp; with_reducible rfl)
    (try simp only [Act.put, List.setIfInBounds_toArray, List.set_cons_zero, List.set_cons_succ])
    refine wpAnyH_take (i := 7) (oi := { dst := some 32, op := Op.binOp BinOp.leq 2 (Operand.tmp 26) (Operand.tmp 31) 2, type := 4, pos := "l13_stable.go:74", after := #[{ on := 1, ground := Ground.data }, { on := 6, ground := Ground.data }], guard := none }) (v := ?_) rfl (by kernel_rfl) (by kernel_rfl) (by kernel_rfl) (fun _ _ _ h => h) (Or.inl ⟨by rfl, ?_⟩) (by assumption) ?_
    rotate_left
    · intro w hSw
      (try dsimp only at hSw)
      first | (go_simp; done) | (go_simp; with_reducible rfl)
    (try simp only [Act.put, List.setIfInBounds_toArray, List.set_cons_zero, List.set_cons_succ])
    refine wpAnyH_done (by kernel_rfl) ?_ _
    clear hS hHeld hyc HY5
    have HOw6 : Hid (w5.drew.ownsRow w1.heap.size 36 8 vv L.length (opCells L)) := HOw5.out.drew
    have HXo6 : Hid (w5.drew.heap[ob]? = some (.cells #[.int .i64 x.dev, .int .i64 x.seq, .int .i64 x.stamp, .int .i64 x.kind, .string x.item, .int .i64 x.qty, .int .i64 x.level, .int .i64 x.undos] 36 (0, 0))) := HXo.out
    have HB6 : Hid (Below w1.heap.size w1 w5.drew) := HB5.out.drew
    have hs6 : ob ≤ w5.drew.heap.size := hs5
    clear d0 d1 d2 d3 d4 d5 d6 d7 HOw5 HXo HB5 hs5 hobl
    generalize w5.drew = w6 at HOw6 HXo6 HB6 hs6 ⊢
    obtain ⟨d0, d1, d2, d3, d4, d5, d6, d7⟩ := op_cells HXo6.out
    obtain ⟨tb, htb⟩ : ∃ b, decide (x.seq ≤ Y) = b := ⟨_, rfl⟩
    rw [htb] at HPx
    have HTb := Lib.hid htb
    clear htb
    cases tb
    · have HE : Hid ((l.take (k + 1)).filter (cutP ys) = L) := by show _ = _; rw [HSt.out, HPx.out]; rfl
      have hdt := HTb.out
      have hnl : ¬ x.seq ≤ Y := of_decide_eq_false hdt
      have HRe := HOw6
      have HNe := HNz
      rw [← HE.out] at HRe HNe
      go_wp2
      go_roundw
      case rel => exact ⟨k + 1, _, by omega, rfl, by go_num, HRe, HB6, HNe⟩
      case measure => simp [intOf]; omega
    have HE : Hid ((l.take (k + 1)).filter (cutP ys) = L ++ [x]) := by show _ = _; rw [HSt.out, HPx.out]; rfl
    have hdt := HTb.out
    have hyl : x.seq ≤ Y := of_decide_eq_true hdt
    have hsw : w1.heap.size ≤ w6.heap.size := HB6.out.size
    obtain ⟨i0, hi0', hz0, hz1, hz2⟩ := info_parts Try.infoOp
    have hown1 := HOw6.out.alloc (.cells #[.int .i64 x.dev, .int .i64 x.seq, .int .i64 x.stamp, .int .i64 x.kind, .string x.item, .int .i64 x.qty, .int .i64 x.level, .int .i64 x.undos] 36)
    go_wp2_with (at_builtin; refine wpList_append_own _ rfl _ _ 25 rfl w1.heap.size 36 i0 (.agg #[.int .i64 0, .int .i64 0, .int .i64 0, .int .i64 0, .string ⟨#[]⟩, .int .i64 0, .int .i64 0, .int .i64 0]) 8 72 Try.underlying25 hi0' hz0 hz1 hz2 rfl (by decide) _ _ _ rfl hown1 ⟨w6.heap.size, 0, none⟩ 1 1 (opRow x) rfl ?c0 ?c1 ?c2 ?c3 ?c4 ?c5 ?_)
    case c0 => rfl
    case c1 => exact opRow_new w6 x
    case c2 =>
      intro u hu
      exact opCells_one [x] u (by show u ∈ opRow x ++ []; rw [List.append_nil]; exact hu)
    case c3 => unfold maxLen; omega
    case c4 => omega
    case c5 => simp; omega
    intro v' z3 hown2 hgrow _
    have HB2 := Lib.hid ((HB6.out.alloc (by omega) (.cells #[.int .i64 x.dev, .int .i64 x.seq, .int .i64 x.stamp, .int .i64 x.kind, .string x.item, .int .i64 x.qty, .int .i64 x.level, .int .i64 x.undos] 36)).grown hgrow (by simp; omega) (fun j hj => (hown1.lt j hj).1))
    have HR2 : Hid (z3.ownsRow w1.heap.size 36 8 v' ((l.take (k + 1)).filter (cutP ys)).length (opCells ((l.take (k + 1)).filter (cutP ys)))) := by
      show World.ownsRow _ _ _ _ _ _ _
      rw [HE.out, opCells_snoc, List.length_append]
      exact hown2
    have HN2 : Hid (((l.take (k + 1)).filter (cutP ys)).length = 0 → v' = .slice none 0 0) := fun h => by
      rw [HE.out, List.length_append] at h
      exact absurd h (by simp)
    clear hown2 hgrow hown1 HOw6 d0 d1 d2 d3 d4 d5 d6 d7
    go_wp2
    go_roundw
    case rel => exact ⟨k + 1, _, by omega, rfl, by go_num, HR2, HB2, HN2⟩
    case measure => simp [intOf]; omega
end Go.Proofs.Ythfkoplljinmmaa

namespace Go.Proofs.Ythfkoplljinmmaa
open Go.RowKit

def OutC (ob : Nat) (v : Value) (L : List OpV) (w2 wr : World) : Prop :=
  ∃ oa oc, wr.heap[ob]? = some (.cells #[v, .slice oa L.length oc] 27 (0, 0)) ∧ wr.ownsRow (ob + 1) 36 8 (.slice oa L.length oc) L.length (opCells L) ∧ Below ob w2 wr
theorem OutC.drew {ob : Nat} {v : Value} {L : List OpV} {w2 wr : World} (h : OutC ob v L w2 wr) : OutC ob v L w2 wr.drew := by
  obtain ⟨oa, oc, h1, h2, h3⟩ := h
  exact ⟨oa, oc, h1, h2.drew, ⟨h3.os, h3.tape, h3.output, h3.size, h3.block⟩⟩
theorem zip4 {xs ys : List Int} (h : vecOk xs = true) (h2 : vecOk ys = true) : (zipI min xs ys).length = 4 := by
  obtain ⟨x0, x1, x2, x3, rfl⟩ := four h
  obtain ⟨y0, y1, y2, y3, rfl⟩ := four h2
  rfl
set_option linter.unusedSimpArgs false in
set_option maxRecDepth 100000 in
set_option maxHeartbeats 80000000 in
theorem specCut (w : World) (B : Nat) (av ao bv : Option Addr) (nv cv no co mv dv : Nat) (xs : List Int) (l : List OpV) (ys : List Int) (hx : Ints w B av nv xs) (h : Ops w B ao no l) (hy : Ints w B bv mv ys) (hB : B ≤ w.heap.size) (hv : nv ≤ 1048576) (hn : no ≤ 1048576) (hm : ∀ i, i < no → (atOp l i).item.size ≤ 1048576) (hv2 : mv ≤ 1048576) :
    Calls Try.prog 48 #[.agg #[.slice av nv cv, .slice ao no co], .slice bv mv dv] w (ReadPost (cutB xs l ys) (cutVs xs ys (cutB xs l ys)) (cutOs l ys (cutB xs l ys)) w) := by
  obtain ⟨i0, hi, hz0, hz1, hz2⟩ := info_parts Try.infoOp
  have hT := Two.mk0 w #[.slice av nv cv, .slice ao no co] #[.slice none 0 0, .slice none 0 0] 27
  have HV := Lib.hid (hx.below hT.bel hB)
  have HO := Lib.hid (h.below hT.bel hB)
  have HY := Lib.hid (hy.below hT.bel hB)
  have HT := Lib.hid hT
  have HL := Lib.hid h.1
  have HLx := Lib.hid hx.1
  have HLy := Lib.hid hy.1
  have HM := Lib.hid hm
  have hBw := hB
  obtain ⟨R, hR⟩ : ∃ R, cutB xs l ys = R := ⟨_, rfl⟩
  have HR := Lib.hid hR
  clear hx h hy hT hm hB
  rw [hR]
  clear hR
  go_enter Try.func48, Try.ntmps48
  go_wp2_with fail
  generalize (w.alloc (.cells #[.slice av nv cv, .slice ao no co] 27)).alloc (.cells #[.slice none 0 0, .slice none 0 0] 27) = w0 at HV HO HY HT ⊢
  have hsz0 := HT.out.bel.size
  have hsz1 := lt_of_row HT.out.snd
  refine (specCartOk w0 B av ao nv cv no co xs l HV.out HO.out (by omega) hv hn HM.out).mono ?_
  rintro e w1 ⟨rfl, hb⟩
  have HV1 := Lib.hid (HV.out.below hb (by omega))
  have HO1 := Lib.hid (HO.out.below hb (by omega))
  have HY1 := Lib.hid (HY.out.below hb (by omega))
  have HT1 := Lib.hid (HT.out.next hb)
  have hs1 := hb.size
  clear hb HV HO HY HT
  obtain ⟨ca, hca⟩ : ∃ b, cartB xs l = b := ⟨_, rfl⟩
  have HCa := Lib.hid hca
  rw [hca]
  clear hca
  cases ca
  · skip
    obtain rfl : R = false := by rw [← HR.out]; exact cut_no HCa.out
    obtain ⟨r0, r1⟩ := pair_cells HT1.out.snd
    obtain ⟨fz0, fz1⟩ := pair_frozen HT1.out.snd
    have HXr := Lib.hid (HT1.out.set2 (.slice none 0 0) (.slice none 0 0)).1
    have HBr2 := Lib.hid (HT1.out.set2 (.slice none 0 0) (.slice none 0 0)).2
    go_wp2
    change bodyPost _ _ _ _ _ ((w1.setCell ⟨w.heap.size + 1, 0, none⟩ (.slice none 0 0)).setCell ⟨w.heap.size + 1, 1, none⟩ (.slice none 0 0))
    generalize (w1.setCell ⟨w.heap.size + 1, 0, none⟩ (.slice none 0 0)).setCell ⟨w.heap.size + 1, 1, none⟩ (.slice none 0 0) = wf at HXr HBr2 ⊢
    obtain ⟨q0, q1⟩ := pair_cells HXr.out
    exact bodyPost_ret (v := .tuple #[.agg #[.slice none 0 0, .slice none 0 0], .bool false]) (by simp [results, Try.results48, go_sem, q0, q1]) rfl ⟨none, 0, none, 0, rfl, own_nilS _ _ _ _, own_none _ _ _ _, HBr2.out⟩
  go_wp2_with fail
  refine (specVecOk w1 B bv mv dv ys HY1.out hv2).mono ?_
  rintro e w2 ⟨rfl, rfl⟩
  obtain ⟨cb, hcb⟩ : ∃ b, vecOk ys = b := ⟨_, rfl⟩
  have HCb := Lib.hid hcb
  rw [hcb]
  clear hcb
  cases cb
  · skip
    obtain rfl : R = false := by rw [← HR.out]; exact cut_no2 HCb.out
    obtain ⟨r0, r1⟩ := pair_cells HT1.out.snd
    obtain ⟨fz0, fz1⟩ := pair_frozen HT1.out.snd
    have HXr := Lib.hid (HT1.out.set2 (.slice none 0 0) (.slice none 0 0)).1
    have HBr2 := Lib.hid (HT1.out.set2 (.slice none 0 0) (.slice none 0 0)).2
    go_wp2
    change bodyPost _ _ _ _ _ ((w1.setCell ⟨w.heap.size + 1, 0, none⟩ (.slice none 0 0)).setCell ⟨w.heap.size + 1, 1, none⟩ (.slice none 0 0))
    generalize (w1.setCell ⟨w.heap.size + 1, 0, none⟩ (.slice none 0 0)).setCell ⟨w.heap.size + 1, 1, none⟩ (.slice none 0 0) = wf at HXr HBr2 ⊢
    obtain ⟨q0, q1⟩ := pair_cells HXr.out
    exact bodyPost_ret (v := .tuple #[.agg #[.slice none 0 0, .slice none 0 0], .bool false]) (by simp [results, Try.results48, go_sem, q0, q1]) rfl ⟨none, 0, none, 0, rfl, own_nilS _ _ _ _, own_none _ _ _ _, HBr2.out⟩
  obtain rfl : R = true := by rw [← HR.out]; exact cut_yes HCa.out HCb.out
  have hy4 : ys.length = 4 := (vec_at HCb.out (d := 0) (by omega)).2.2
  obtain rfl : mv = 4 := by rw [← HLy.out]; exact hy4
  obtain ⟨yb, yo, rfl, -, -⟩ := HY1.out.2 0 (by omega)
  clear hy4
  have HZ : Hid (cutVs xs ys true = zipI min xs ys) := by show _ = _; rfl
  have HZ2 : Hid (vecZip min xs ys = zipI min xs ys) := by show _ = _; exact vecZip_yes (by rw [(cart_true HCa.out).1, HCb.out]; rfl)
  have HZ4 : Hid ((zipI min xs ys).length = 4) := zip4 (cart_true HCa.out).1 HCb.out
  obtain ⟨a0, a1⟩ := pair_cells HT1.out.fst
  go_wp2_with fail
  refine (specMin w1 B B av (some ⟨yb, yo, none⟩) nv cv 4 dv xs ys HV1.out HY1.out (by omega) (by omega) hv (by omega)).mono ?_
  rintro e w2 ⟨va, zc, rfl, hov, hb2⟩
  rw [HZ2.out, HZ4.out] at hov
  rw [HZ2.out, HZ4.out]
  have HO2 := Lib.hid (HO1.out.below hb2 (by omega))
  have HY2 := Lib.hid (HY1.out.below hb2 (by omega))
  have HT2 := Lib.hid (HT1.out.next hb2)
  have HOv2 := Lib.hid hov
  have hs2 := hb2.size
  obtain ⟨vb, vo, rfl, -, -⟩ := hov.ints.2 0 (by omega)
  clear hov hb2 HV1 HO1 HY1 HT1 a0 a1
  go_upto_region 4 with fail
  have hb3 : Below w2.heap.size w2 (w2.alloc (.cells #[.slice (some ⟨vb, vo, none⟩) 4 zc, .slice none 0 0] 27)) := (Below.refl _ _).alloc (Nat.le_refl _) _
  have HX2 := Lib.hid (boxAt (Below.refl _ (w2.alloc (.cells #[.slice (some ⟨vb, vo, none⟩) 4 zc, .slice none 0 0] 27))))
  have HO3 := Lib.hid (HO2.out.below hb3 (by omega))
  have HY3 := Lib.hid (HY2.out.below hb3 (by omega))
  have HT3 := Lib.hid (HT2.out.next hb3)
  have HOv3 := Lib.hid (HOv2.out.below hb3 (Nat.le_refl _))
  generalize w2.alloc (.cells #[.slice (some ⟨vb, vo, none⟩) 4 zc, .slice none 0 0] 27) = w3 at hb3 HX2 HO3 HY3 HT3 HOv3 ⊢
  have hs3 := hb3.size
  have hx2 := lt_of_row HX2.out
  generalize hob : w2.heap.size = ob at HX2 hs3 hx2 hs2 HOv3 ⊢
  clear hb3 HO2 HY2 HT2 HOv2 hob
  have HOut : Hid (OutC ob (.slice (some ⟨vb, vo, none⟩) 4 zc) ((l.take 0).filter (cutP ys)) w3 w3) := ⟨none, 0, HX2.out, ⟨rfl, .inl ⟨rfl, rfl⟩⟩, Below.refl _ _⟩
  go_wp2
  go_loopw [7] (fun i wr => ∃ k : Nat, k ≤ no ∧ i = .int .i64 (k : Int) ∧ Hid (OutC ob (.slice (some ⟨vb, vo, none⟩) 4 zc) ((l.take k).filter (cutP ys)) w3 wr)) (fun i _ => no - (intOf i).toNat)
  case atStart => exact ⟨0, Nat.zero_le _, rfl, HOut⟩
  case round =>
    obtain ⟨k, hk, rfl, HOu⟩ := hrel
    clear HOut HX2
    obtain ⟨oa, oc, hbox, hrow, hbel⟩ := HOu.out
    have HOB := Lib.hid hbox
    have HROW := Lib.hid hrow
    have HBL := Lib.hid hbel
    have hobl := lt_of_row hbox
    have HTr : Hid (wr.heap[w.heap.size]? = some (.cells #[.slice av nv cv, .slice ao no co] 27 (0, 0)) ∧ wr.heap[w.heap.size + 1]? = some (.cells #[.slice none 0 0, .slice none 0 0] 27 (0, 0))) := ⟨(hbel.block _ (by omega)).trans HT3.out.fst, (hbel.block _ (by omega)).trans HT3.out.snd⟩
    have HOr := Lib.hid (HO3.out.below hbel (by omega))
    have HYr := Lib.hid (HY3.out.below hbel (by omega))
    have hsr := hbel.size
    obtain ⟨a0, a1⟩ := pair_cells HTr.out.1
    by_cases hlt : k < no
    rotate_left
    · obtain rfl : no = k := by omega
      have HTk : Hid (l.take no = l) := by show _ = _; rw [← HL.out]; exact List.take_length
      rw [HTk.out] at HOB HROW
      have HZr := Lib.hid (HOv3.out.below hbel (Nat.le_refl _))
      have HBw : Hid (Below w.heap.size w wr) := HT3.out.bel.trans (hbel.mono (by omega))
      have HE : Hid (cutOs l ys true = l.filter (cutP ys)) := by show _ = _; rfl
      clear hbox hrow hbel HOu
      generalize l.filter (cutP ys) = L at HOB HROW HE
      generalize zipI min xs ys = zs at HZ HZ4 HZr
      have HP : Hid (OwnOps wr (ob + 1) wr.heap.size oa L.length L) := own_of_cells HROW.out (Nat.le_refl _)
      obtain ⟨x0, x1⟩ := pair_cells HOB.out
      obtain ⟨r0, r1⟩ := pair_cells HTr.out.2
      obtain ⟨fz0, fz1⟩ := pair_frozen HTr.out.2
      have HTw : Hid (Two w wr #[.slice av nv cv, .slice ao no co] #[.slice none 0 0, .slice none 0 0] 27) := ⟨HTr.out.1, HTr.out.2, HBw.out⟩
      have HXr := Lib.hid (HTw.out.set2 (.slice (some ⟨vb, vo, none⟩) 4 zc) (.slice oa L.length oc)).1
      have HBr2 := Lib.hid (HTw.out.set2 (.slice (some ⟨vb, vo, none⟩) 4 zc) (.slice oa L.length oc)).2
      have HsM : Hid (wr.heap.size = ((wr.setCell ⟨w.heap.size + 1, 0, none⟩ (.slice (some ⟨vb, vo, none⟩) 4 zc)).setCell ⟨w.heap.size + 1, 1, none⟩ (.slice oa L.length oc)).heap.size) := (pair_size _ _ _ _).symm
      have HZ6 : Hid (Own ((wr.setCell ⟨w.heap.size + 1, 0, none⟩ (.slice (some ⟨vb, vo, none⟩) 4 zc)).setCell ⟨w.heap.size + 1, 1, none⟩ (.slice oa L.length oc)) w1.heap.size ob (some ⟨vb, vo, none⟩) 4 zs) := HZr.out.kept fun j h1 h2 => pair_other _ _ (by omega)
      have HO6 : Hid (OwnOps ((wr.setCell ⟨w.heap.size + 1, 0, none⟩ (.slice (some ⟨vb, vo, none⟩) 4 zc)).setCell ⟨w.heap.size + 1, 1, none⟩ (.slice oa L.length oc)) (ob + 1) wr.heap.size oa L.length L) := HP.out.kept fun j h1 h2 => pair_other _ _ (by omega)
      clear HROW HOB HBL HTw HBw
      go_wp2
      change bodyPost _ _ _ _ _ ((wr.setCell ⟨w.heap.size + 1, 0, none⟩ (.slice (some ⟨vb, vo, none⟩) 4 zc)).setCell ⟨w.heap.size + 1, 1, none⟩ (.slice oa L.length oc))
      generalize (wr.setCell ⟨w.heap.size + 1, 0, none⟩ (.slice (some ⟨vb, vo, none⟩) 4 zc)).setCell ⟨w.heap.size + 1, 1, none⟩ (.slice oa L.length oc) = wf at HXr HBr2 HZ6 HO6 HsM ⊢
      obtain ⟨q0, q1⟩ := pair_cells HXr.out
      have hsm := HsM.out
      exact bodyPost_ret (v := .tuple #[.agg #[.slice (some ⟨vb, vo, none⟩) 4 zc, .slice oa L.length oc], .bool true]) (by simp [results, Try.results48, go_sem, q0, q1]) rfl ⟨some ⟨vb, vo, none⟩, zc, oa, oc, by rw [HZ.out, HZ4.out, HE.out], by rw [HZ.out, HZ4.out]; exact HZ6.out.more (by omega) (by omega), by rw [HE.out]; exact HO6.out.more (by omega) (by omega), HBr2.out⟩
    clear hbox hrow hbel HOu
    have HSt := Lib.hid (filt_step (q := cutP ys) (l := l) (k := k) (by rw [HL.out]; exact hlt))
    obtain ⟨b, off, rfl, hb, ho⟩ := HOr.out.2 k hlt
    have HOk : Hid (OpAt wr b (off + k * 8) (atOp l k)) := ho
    have hlen : ((l.take k).filter (cutP ys)).length ≤ 1048576 := by
      have := List.length_filter_le (cutP ys) (l.take k)
      have := List.length_take_le k l
      omega
    have hdev : 0 ≤ (atOp l k).dev ∧ (atOp l k).dev < 4 := by
      obtain ⟨d, hd, _, _, _, e, _⟩ := cart_at HCa.out (i := k) (by rw [HL.out]; exact hlt)
      rw [e]
      omega
    have HYc : Hid (∃ Y, cutP ys (atOp l k) = decide ((atOp l k).seq ≤ Y) ∧ wr.cell? ⟨yb, yo + (atOp l k).dev.toNat, none⟩ = some (.int .i64 Y)) := by
      obtain ⟨b', off', e, _, hcell⟩ := HYr.out.2 (atOp l k).dev.toNat (by omega)
      cases e
      exact ⟨_, rfl, hcell⟩
    obtain ⟨Y, hP, hYc⟩ := HYc.out
    have HPx := Lib.hid hP
    clear ho HOr hP HYc
    generalize (l.take k).filter (cutP ys) = L at HOB HROW HSt hlen
    generalize atOp l k = x at HOk HSt HPx hYc hdev
    obtain ⟨d0, d1, d2, d3, d4, d5, d6, d7⟩ := HOk.out
    have hki : (k : Int) < (no : Int) := by omega
    obtain ⟨hd0, hd4⟩ := hdev
    have hd00 : ¬ (x.dev < 0) := by omega
    have hd0d : decide (x.dev < 0) = false := decide_eq_false (by omega)
    have hd4n : x.dev.toNat < 4 := by omega
    have hS : wr.drew.cell? ⟨w.heap.size, 1, none⟩ = some (.slice (some ⟨b, off, none⟩) no co) ∧ wr.drew.cell? ⟨b, off + k * 8, none⟩ = some (.int .i64 x.dev) ∧ wr.drew.cell? ⟨b, off + k * 8 + 1, none⟩ = some (.int .i64 x.seq) ∧ wr.drew.cell? ⟨yb, yo + x.dev.toNat, none⟩ = some (.int .i64 Y) := ⟨a1, d0, d1, hYc⟩
    go_wp2_with fail
    refine wp_region_held_drew (S := fun w' => w'.cell? ⟨w.heap.size, 1, none⟩ = some (.slice (some ⟨b, off, none⟩) no co) ∧ w'.cell? ⟨b, off + k * 8, none⟩ = some (.int .i64 x.dev) ∧ w'.cell? ⟨b, off + k * 8 + 1, none⟩ = some (.int .i64 x.seq) ∧ w'.cell? ⟨yb, yo + x.dev.toNat, none⟩ = some (.int .i64 Y)) (by kernel_rfl) hS (fun hHeld => ?_)
    refine wpAnyH_take (i := 0) (oi := { dst := some 29, op := Op.fieldAddr 27 (Operand.tmp 2) 1, type := 0, pos := "l13_stable.go:54", after := #[], guard := none }) (v := ?_) rfl (by kernel_rfl) (by kernel_rfl) (by kernel_rfl) (fun _ _ _ h => h) (Or.inl ⟨by rfl, ?_⟩) (by assumption) ?_
    rotate_left
    · intro w hSw
      (try dsimp only at hSw)
      first | (go_simp; done) | (go_simp; with_reducible rfl)
    (try simp only [Act.put, List.setIfInBounds_toArray, List.set_cons_zero, List.set_cons_succ])
    refine wpAnyH_take (i := 1) (oi := { dst := some 30, op := Op.load 25 (Operand.tmp 29), type := 25, pos := "l13_stable.go:54", after := #[{ on := 0, ground := Ground.data }], guard := none }) (v := ?_) rfl (by kernel_rfl) (by kernel_rfl) (by kernel_rfl) (fun _ _ _ h => h) (Or.inl ⟨by rfl, ?_⟩) (by assumption) ?_
    rotate_left
    · intro w hSw
      (try dsimp only at hSw)
      first | (go_simp; done) | (go_simp; with_reducible rfl)
    (try simp only [Act.put, List.setIfInBounds_toArray, List.set_cons_zero, List.set_cons_succ])
    refine wpAnyH_take (i := 2) (oi := { dst := some 31, op := Op.move (Operand.tmp 7), type := 3, pos := "l13_stable.go:54", after := #[], guard := none }) (v := ?_) rfl (by kernel_rfl) (by kernel_rfl) (by kernel_rfl) (fun _ _ _ h => h) (Or.inl ⟨by rfl, ?_⟩) (by assumption) ?_
    rotate_left
    · intro w hSw
      (try dsimp only at hSw)
      first | (go_simp; done) | (go_simp; with_reducible rfl)
    (try simp only [Act.put, List.setIfInBounds_toArray, List.set_cons_zero, List.set_cons_succ])
    refine wpAnyH_take (i := 3) (oi := { dst := some 32, op := Op.indexAddr 25 (Operand.tmp 30) (Operand.tmp 31), type := 0, pos := "l13_stable.go:54", after := #[{ on := 1, ground := Ground.data }, { on := 2, ground := Ground.data }], guard := none }) (v := ?_) rfl (by kernel_rfl) (by kernel_rfl) (by kernel_rfl) (fun _ _ _ h => h) (Or.inl ⟨by rfl, ?_⟩) (by assumption) ?_
    rotate_left
    · intro w hSw
      (try dsimp only at hSw)
      first | (go_simp; done) | (go_simp; with_reducible rfl)
    (try simp only [Act.put, List.setIfInBounds_toArray, List.set_cons_zero, List.set_cons_succ])
    refine wpAnyH_take (i := 4) (oi := { dst := some 33, op := Op.fieldAddr 36 (Operand.tmp 32) 1, type := 0, pos := "l13_stable.go:54", after := #[{ on := 3, ground := Ground.data }], guard := none }) (v := ?_) rfl (by kernel_rfl) (by kernel_rfl) (by kernel_rfl) (fun _ _ _ h => h) (Or.inl ⟨by rfl, ?_⟩) (by assumption) ?_
    rotate_left
    · intro w hSw
      (try dsimp only at hSw)
      first | (go_simp; done) | (go_simp; with_reducible rfl)
    (try simp only [Act.put, List.setIfInBounds_toArray, List.set_cons_zero, List.set_cons_succ])
    refine wpAnyH_take (i := 5) (oi := { dst := some 34, op := Op.load 2 (Operand.tmp 33), type := 2, pos := "l13_stable.go:54", after := #[{ on := 4, ground := Ground.data }], guard := none }) (v := ?_) rfl (by kernel_rfl) (by kernel_rfl) (by kernel_rfl) (fun _ _ _ h => h) (Or.inl ⟨by rfl, ?_⟩) (by assumption) ?_
    rotate_left
    · intro w hSw
      (try dsimp only at hSw)
      first | (go_simp; done) | (go_simp; with_reducible rfl)
    (try simp only [Act.put, List.setIfInBounds_toArray, List.set_cons_zero, List.set_cons_succ])
    refine wpAnyH_take (i := 6) (oi := { dst := some 35, op := Op.move (Operand.tmp 1), type := 24, pos := "l13_stable.go:54", after := #[], guard := none }) (v := ?_) rfl (by kernel_rfl) (by kernel_rfl) (by kernel_rfl) (fun _ _ _ h => h) (Or.inl ⟨by rfl, ?_⟩) (by assumption) ?_
    rotate_left
    · intro w hSw
      (try dsimp only at hSw)
      first | (go_simp; done) | (go_simp; with_reducible rfl)
    (try simp only [Act.put, List.setIfInBounds_toArray, List.set_cons_zero, List.set_cons_succ])
    refine wpAnyH_take (i := 7) (oi := { dst := some 36, op := Op.fieldAddr 27 (Operand.tmp 2) 1, type := 0, pos := "l13_stable.go:54", after := #[], guard := none }) (v := ?_) rfl (by kernel_rfl) (by kernel_rfl) (by kernel_rfl) (fun _ _ _ h => h) (Or.inl ⟨by rfl, ?_⟩) (by assumption) ?_
    rotate_left
    · intro w hSw
      (try dsimp only at hSw)
      first | (go_simp; done) | (go_simp; with_reducible rfl)
    (try simp only [Act.put, List.setIfInBounds_toArray, List.set_cons_zero, List.set_cons_succ])
    refine wpAnyH_take (i := 8) (oi := { dst := some 37, op := Op.load 25 (Operand.tmp 36), type := 25, pos := "l13_stable.go:54", after := #[{ on := 7, ground := Ground.data }], guard := none }) (v := ?_) rfl (by kernel_rfl) (by kernel_rfl) (by kernel_rfl) (fun _ _ _ h => h) (Or.inl ⟨by rfl, ?_⟩) (by assumption) ?_
    rotate_left
    · intro w hSw
      (try dsimp only at hSw)
      first | (go_simp; done) | (go_simp; with_reducible rfl)
    (try simp only [Act.put, List.setIfInBounds_toArray, List.set_cons_zero, List.set_cons_succ])
    refine wpAnyH_take (i := 9) (oi := { dst := some 38, op := Op.move (Operand.tmp 7), type := 3, pos := "l13_stable.go:54", after := #[], guard := none }) (v := ?_) rfl (by kernel_rfl) (by kernel_rfl) (by kernel_rfl) (fun _ _ _ h => h) (Or.inl ⟨by rfl, ?_⟩) (by assumption) ?_
    rotate_left
    · intro w hSw
      (try dsimp only at hSw)
      first | (go_simp; done) | (go_simp; with_reducible rfl)
    (try simp only [Act.put, List.setIfInBounds_toArray, List.set_cons_zero, List.set_cons_succ])
    refine wpAnyH_take (i := 10) (oi := { dst := some 39, op := Op.indexAddr 25 (Operand.tmp 37) (Operand.tmp 38), type := 0, pos := "l13_stable.go:54", after := #[{ on := 8, ground := Ground.data }, { on := 9, ground := Ground.data }], guard := none }) (v := ?_) rfl (by kernel_rfl) (by kernel_rfl) (by kernel_rfl) (fun _ _ _ h => h) (Or.inl ⟨by rfl, ?_⟩) (by assumption) ?_
    rotate_left
    · intro w hSw
      (try dsimp only at hSw)
      first | (go_simp; done) | (go_simp; with_reducible rfl)
    (try simp only [Act.put, List.setIfInBounds_toArray, List.set_cons_zero, List.set_cons_succ])
    refine wpAnyH_take (i := 11) (oi := { dst := some 40, op := Op.fieldAddr 36 (Operand.tmp 39) 0, type := 0, pos := "l13_stable.go:54", after := #[{ on := 10, ground := Ground.data }], guard := none }) (v := ?_) rfl (by kernel_rfl) (by kernel_rfl) (by kernel_rfl) (fun _ _ _ h => h) (Or.inl ⟨by rfl, ?_⟩) (by assumption) ?_
    rotate_left
    · intro w hSw
      (try dsimp only at hSw)
      first | (go_simp; done) | (go_simp; with_reducible rfl)
    (try simp only [Act.put, List.setIfInBounds_toArray, List.set_cons_zero, List.set_cons_succ])
    refine wpAnyH_take (i := 12) (oi := { dst := some 41, op := Op.load 2 (Operand.tmp 40), type := 2, pos := "l13_stable.go:54", after := #[{ on := 11, ground := Ground.data }], guard := none }) (v := ?_) rfl (by kernel_rfl) (by kernel_rfl) (by kernel_rfl) (fun _ _ _ h => h) (Or.inl ⟨by rfl, ?_⟩) (by assumption) ?_
    rotate_left
    · intro w hSw
      (try dsimp only at hSw)
      first | (go_simp; done) | (go_simp; with_reducible rfl)
    (try simp only [Act.put, List.setIfInBounds_toArray, List.set_cons_zero, List.set_cons_succ])
    refine wpAnyH_take (i := 13) (oi := { dst := some 42, op := Op.indexAddr 24 (Operand.tmp 35) (Operand.tmp 41), type := 0, pos := "l13_stable.go:54", after := #[{ on := 6, ground := Ground.data }, { on := 12, ground := Ground.data }], guard := none }) (v := ?_) rfl (by kernel_rfl) (by kernel_rfl) (by kernel_rfl) (fun _ _ _ h => h) (Or.inl ⟨by rfl, ?_⟩) (by assumption) ?_
    rotate_left
    · intro w hSw
      (try dsimp only at hSw)
      first | (go_simp; done) | (go_simp; with_reducible rfl)
    (try simp only [Act.put, List.setIfInBounds_toArray, List.set_cons_zero, List.set_cons_succ])
    refine wpAnyH_take (i := 14) (oi := { dst := some 43, op := Op.load 2 (Operand.tmp 42), type := 2, pos := "l13_stable.go:54", after := #[{ on := 13, ground := Ground.data }], guard := none }) (v := ?_) rfl (by kernel_rfl) (by kernel_rfl) (by kernel_rfl) (fun _ _ _ h => h) (Or.inl ⟨by rfl, ?_⟩) (by assumption) ?_
    rotate_left
    · intro w hSw
      (try dsimp only at hSw)
      first | (go_simp; done) | (go_simp; with_reducible rfl)
    (try simp only [Act.put, List.setIfInBounds_toArray, List.set_cons_zero, List.set_cons_succ])
    refine wpAnyH_take (i := 15) (oi := { dst := some 44, op := Op.binOp BinOp.leq 2 (Operand.tmp 34) (Operand.tmp 43) 2, type := 4, pos := "l13_stable.go:54", after := #[{ on := 5, ground := Ground.data }, { on := 14, ground := Ground.data }], guard := none }) (v := ?_) rfl (by kernel_rfl) (by kernel_rfl) (by kernel_rfl) (fun _ _ _ h => h) (Or.inl ⟨by rfl, ?_⟩) (by assumption) ?_
    rotate_left
    · intro w hSw
      (try dsimp only at hSw)
      first | (go_simp; done) | (go_simp; with_reducible rfl)
    (try simp only [Act.put, List.setIfInBounds_toArray, List.set_cons_zero, List.set_cons_succ])
    refine wpAnyH_done (by kernel_rfl) ?_ _
    have HOBd : Hid (wr.drew.heap[ob]? = some (.cells #[.slice (some ⟨vb, vo, none⟩) 4 zc, .slice oa L.length oc] 27 (0, 0))) := HOB.out
    have HROWd : Hid (wr.drew.ownsRow (ob + 1) 36 8 (.slice oa L.length oc) L.length (opCells L)) := HROW.out.drew
    have HBLd : Hid (Below ob w3 wr.drew) := ⟨HBL.out.os, HBL.out.tape, HBL.out.output, HBL.out.size, HBL.out.block⟩
    have HOkd : Hid (OpAt wr.drew b (off + k * 8) x) := HOk.out
    have hobd : ob < wr.drew.heap.size := hobl
    have HCd : Hid (wr.drew.cell? ⟨w.heap.size, 1, none⟩ = some (.slice (some ⟨b, off, none⟩) no co)) := a1
    clear hS hHeld d0 d1 d2 d3 d4 d5 d6 d7 a0 a1 hYc HOB HROW HBL HOk hobl HYr HTr hsr
    generalize wr.drew = wr at HOBd HROWd HBLd HOkd hobd HCd ⊢
    have a1 := HCd.out
    obtain ⟨d0, d1, d2, d3, d4, d5, d6, d7⟩ := HOkd.out
    have HOB := HOBd
    have HROW := HROWd
    have HBL := HBLd
    have HOk := HOkd
    have hobl := hobd
    clear HOBd HROWd HBLd HOkd hobd HCd
    obtain ⟨tb, htb⟩ : ∃ b, decide (x.seq ≤ Y) = b := ⟨_, rfl⟩
    rw [htb] at HPx
    have HTb := Lib.hid htb
    clear htb
    cases tb
    · have HE : Hid ((l.take (k + 1)).filter (cutP ys) = L) := by show _ = _; rw [HSt.out, HPx.out]; rfl
      have hdt := HTb.out
      have hnl : ¬ x.seq ≤ Y := of_decide_eq_false hdt
      have HOn : Hid (OutC ob (.slice (some ⟨vb, vo, none⟩) 4 zc) ((l.take (k + 1)).filter (cutP ys)) w3 wr) := by
        show OutC _ _ _ _ _
        rw [HE.out]
        exact ⟨oa, oc, HOB.out, HROW.out, HBL.out⟩
      clear a1 d0 d1 d2 d3 d4 d5 d6 d7
      go_wp2
      go_roundw
      case rel => exact ⟨k + 1, by omega, by go_num, HOn⟩
      case measure => simp [intOf]; omega
    have HE : Hid ((l.take (k + 1)).filter (cutP ys) = L ++ [x]) := by show _ = _; rw [HSt.out, HPx.out]; rfl
    have hdt := HTb.out
    have hyl : x.seq ≤ Y := of_decide_eq_true hdt
    have hSw : wr.cell? ⟨w.heap.size, 1, none⟩ = some (.slice (some ⟨b, off, none⟩) no co) ∧ wr.cell? ⟨b, off + k * 8, none⟩ = some (.int .i64 x.dev) ∧ wr.cell? ⟨b, off + k * 8 + 1, none⟩ = some (.int .i64 x.seq) ∧ wr.cell? ⟨b, off + k * 8 + 2, none⟩ = some (.int .i64 x.stamp) ∧ wr.cell? ⟨b, off + k * 8 + 3, none⟩ = some (.int .i64 x.kind) ∧ wr.cell? ⟨b, off + k * 8 + 4, none⟩ = some (.string x.item) ∧ wr.cell? ⟨b, off + k * 8 + 5, none⟩ = some (.int .i64 x.qty) ∧ wr.cell? ⟨b, off + k * 8 + 6, none⟩ = some (.int .i64 x.level) ∧ wr.cell? ⟨b, off + k * 8 + 7, none⟩ = some (.int .i64 x.undos) := ⟨a1, d0, d1, d2, d3, d4, d5, d6, d7⟩
    clear a1 d0 d1 d2 d3 d4 d5 d6 d7 HOk
    go_upto_region 8 with fail
    obtain ⟨z0, hz0e⟩ : ∃ z0, wr.drew = z0 := ⟨_, rfl⟩
    have hS : z0.cell? ⟨w.heap.size, 1, none⟩ = some (.slice (some ⟨b, off, none⟩) no co) ∧ z0.cell? ⟨b, off + k * 8, none⟩ = some (.int .i64 x.dev) ∧ z0.cell? ⟨b, off + k * 8 + 1, none⟩ = some (.int .i64 x.seq) ∧ z0.cell? ⟨b, off + k * 8 + 2, none⟩ = some (.int .i64 x.stamp) ∧ z0.cell? ⟨b, off + k * 8 + 3, none⟩ = some (.int .i64 x.kind) ∧ z0.cell? ⟨b, off + k * 8 + 4, none⟩ = some (.string x.item) ∧ z0.cell? ⟨b, off + k * 8 + 5, none⟩ = some (.int .i64 x.qty) ∧ z0.cell? ⟨b, off + k * 8 + 6, none⟩ = some (.int .i64 x.level) ∧ z0.cell? ⟨b, off + k * 8 + 7, none⟩ = some (.int .i64 x.undos) := ⟨by rw [← hz0e]; exact hSw.1, by rw [← hz0e]; exact hSw.2.1, by rw [← hz0e]; exact hSw.2.2.1, by rw [← hz0e]; exact hSw.2.2.2.1, by rw [← hz0e]; exact hSw.2.2.2.2.1, by rw [← hz0e]; exact hSw.2.2.2.2.2.1, by rw [← hz0e]; exact hSw.2.2.2.2.2.2.1, by rw [← hz0e]; exact hSw.2.2.2.2.2.2.2.1, by rw [← hz0e]; exact hSw.2.2.2.2.2.2.2.2⟩
    have ob0 : Hid (z0.heap[ob]? = some (.cells #[.slice (some ⟨vb, vo, none⟩) 4 zc, .slice oa L.length oc] 27 (0, 0))) := by rw [← hz0e]; exact HOB.out
    have row0 : z0.ownsRow (ob + 1) 36 8 (.slice oa L.length oc) L.length (opCells L) := by rw [← hz0e]; exact HROW.out
    have obl0 : ob < z0.heap.size := by rw [← hz0e]; exact hobl
    have hb0z : Hid (Below ob wr z0) := by rw [← hz0e]; exact ⟨rfl, rfl, rfl, Nat.le_refl _, fun _ _ => rfl⟩
    have o1 := (pair_cells ob0.out).2
    have row1 := row0.alloc (.cells #[.int .i64 x.dev, .int .i64 x.seq, .int .i64 x.stamp, .int .i64 x.kind, .string x.item, .int .i64 x.qty, .int .i64 x.level, .int .i64 x.undos] 36)
    have hbz1 : Below ob z0 (z0.alloc (.cells #[.int .i64 x.dev, .int .i64 x.seq, .int .i64 x.stamp, .int .i64 x.kind, .string x.item, .int .i64 x.qty, .int .i64 x.level, .int .i64 x.undos] 36)) := (Below.refl ob z0).alloc (by omega) _
    obtain ⟨v', z2, hrun, hown2, hgr, _⟩ := run_append_own (P := Try.prog) (z0.alloc (.cells #[.int .i64 x.dev, .int .i64 x.seq, .int .i64 x.stamp, .int .i64 x.kind, .string x.item, .int .i64 x.qty, .int .i64 x.level, .int .i64 x.undos] 36)) (ob + 1) 25 25 36 i0 (.agg #[.int .i64 0, .int .i64 0, .int .i64 0, .int .i64 0, .string ⟨#[]⟩, .int .i64 0, .int .i64 0, .int .i64 0]) 8 72 Try.underlying25 hi hz0 hz1 hz2 rfl (by decide) _ _ _ row1 ⟨z0.heap.size, 0, none⟩ 1 1 (opRow x) rfl (opRow_new z0 x) (fun u hu => opCells_one [x] u (by show u ∈ opRow x ++ []; rw [List.append_nil]; exact hu)) (by unfold maxLen; omega) (by omega) (by show _ ≤ (z0.heap.push _).size; simp; omega)
    have hbz2 : Below ob z0 z2 := hbz1.grown hgr (Nat.le_trans (by omega) hbz1.size) (fun q hq => by have := (row1.lt q hq).1; omega)
    obtain ⟨va2, vc2, rfl⟩ : ∃ va2 vc2, v' = .slice va2 (L.length + 1) vc2 := by
      rcases hown2.2 with ⟨_, e2⟩ | ⟨_, c2, _, e2, _⟩
      · omega
      · exact ⟨_, c2, e2⟩
    have ob1 : Hid ((z0.alloc (.cells #[.int .i64 x.dev, .int .i64 x.seq, .int .i64 x.stamp, .int .i64 x.kind, .string x.item, .int .i64 x.qty, .int .i64 x.level, .int .i64 x.undos] 36)).heap[ob]? = some (.cells #[.slice (some ⟨vb, vo, none⟩) 4 zc, .slice oa L.length oc] 27 (0, 0))) := (Below.heap_alloc _ _ _ obl0).trans ob0.out
    have ob2 : Hid (z2.heap[ob]? = some (.cells #[.slice (some ⟨vb, vo, none⟩) 4 zc, .slice oa L.length oc] 27 (0, 0))) := (hgr.block ob (by show _ < (z0.heap.push _).size; simp; omega) (fun h => by have := (row1.lt ob h.symm).1; omega)).trans ob1.out
    have o11 := (pair_cells ob1.out).2
    have o12 := (pair_cells ob2.out).2
    have fz2 := (pair_frozen ob2.out).2
    have HBOX3 : Hid ((z2.setCell ⟨ob, 1, none⟩ (.slice va2 (L.length + 1) vc2)).heap[ob]? = some (.cells #[.slice (some ⟨vb, vo, none⟩) 4 zc, .slice va2 (L.length + 1) vc2] 27 (0, 0))) := heap_setCell_same _ _ _ _ _ _ ob2.out
    have HROW3 : Hid ((z2.setCell ⟨ob, 1, none⟩ (.slice va2 (L.length + 1) vc2)).ownsRow (ob + 1) 36 8 (.slice va2 (L.length + 1) vc2) (L.length + 1) (opCells L ++ opRow x)) := row_put hown2 (fun q hq => by have := (hown2.lt q hq).1; omega)
    have hbz3 : Below ob z0 (z2.setCell ⟨ob, 1, none⟩ (.slice va2 (L.length + 1) vc2)) := hbz2.setCell (Nat.le_refl _) _
    have HBEL3 : Hid (Below ob wr (z2.setCell ⟨ob, 1, none⟩ (.slice va2 (L.length + 1) vc2))) := hb0z.out.trans hbz3
    have hSd : z0.cell? ⟨w.heap.size, 1, none⟩ = some (.slice (some ⟨b, off, none⟩) no co) ∧ z0.cell? ⟨b, off + k * 8, none⟩ = some (.int .i64 x.dev) ∧ z0.cell? ⟨b, off + k * 8 + 1, none⟩ = some (.int .i64 x.seq) ∧ z0.cell? ⟨b, off + k * 8 + 2, none⟩ = some (.int .i64 x.stamp) ∧ z0.cell? ⟨b, off + k * 8 + 3, none⟩ = some (.int .i64 x.kind) ∧ z0.cell? ⟨b, off + k * 8 + 4, none⟩ = some (.string x.item) ∧ z0.cell? ⟨b, off + k * 8 + 5, none⟩ = some (.int .i64 x.qty) ∧ z0.cell? ⟨b, off + k * 8 + 6, none⟩ = some (.int .i64 x.level) ∧ z0.cell? ⟨b, off + k * 8 + 7, none⟩ = some (.int .i64 x.undos) := hS
    have hS1 : (z0.alloc (.cells #[.int .i64 x.dev, .int .i64 x.seq, .int .i64 x.stamp, .int .i64 x.kind, .string x.item, .int .i64 x.qty, .int .i64 x.level, .int .i64 x.undos] 36)).cell? ⟨w.heap.size, 1, none⟩ = some (.slice (some ⟨b, off, none⟩) no co) ∧ (z0.alloc (.cells #[.int .i64 x.dev, .int .i64 x.seq, .int .i64 x.stamp, .int .i64 x.kind, .string x.item, .int .i64 x.qty, .int .i64 x.level, .int .i64 x.undos] 36)).cell? ⟨b, off + k * 8, none⟩ = some (.int .i64 x.dev) ∧ (z0.alloc (.cells #[.int .i64 x.dev, .int .i64 x.seq, .int .i64 x.stamp, .int .i64 x.kind, .string x.item, .int .i64 x.qty, .int .i64 x.level, .int .i64 x.undos] 36)).cell? ⟨b, off + k * 8 + 1, none⟩ = some (.int .i64 x.seq) ∧ (z0.alloc (.cells #[.int .i64 x.dev, .int .i64 x.seq, .int .i64 x.stamp, .int .i64 x.kind, .string x.item, .int .i64 x.qty, .int .i64 x.level, .int .i64 x.undos] 36)).cell? ⟨b, off + k * 8 + 2, none⟩ = some (.int .i64 x.stamp) ∧ (z0.alloc (.cells #[.int .i64 x.dev, .int .i64 x.seq, .int .i64 x.stamp, .int .i64 x.kind, .string x.item, .int .i64 x.qty, .int .i64 x.level, .int .i64 x.undos] 36)).cell? ⟨b, off + k * 8 + 3, none⟩ = some (.int .i64 x.kind) ∧ (z0.alloc (.cells #[.int .i64 x.dev, .int .i64 x.seq, .int .i64 x.stamp, .int .i64 x.kind, .string x.item, .int .i64 x.qty, .int .i64 x.level, .int .i64 x.undos] 36)).cell? ⟨b, off + k * 8 + 4, none⟩ = some (.string x.item) ∧ (z0.alloc (.cells #[.int .i64 x.dev, .int .i64 x.seq, .int .i64 x.stamp, .int .i64 x.kind, .string x.item, .int .i64 x.qty, .int .i64 x.level, .int .i64 x.undos] 36)).cell? ⟨b, off + k * 8 + 5, none⟩ = some (.int .i64 x.qty) ∧ (z0.alloc (.cells #[.int .i64 x.dev, .int .i64 x.seq, .int .i64 x.stamp, .int .i64 x.kind, .string x.item, .int .i64 x.qty, .int .i64 x.level, .int .i64 x.undos] 36)).cell? ⟨b, off + k * 8 + 6, none⟩ = some (.int .i64 x.level) ∧ (z0.alloc (.cells #[.int .i64 x.dev, .int .i64 x.seq, .int .i64 x.stamp, .int .i64 x.kind, .string x.item, .int .i64 x.qty, .int .i64 x.level, .int .i64 x.undos] 36)).cell? ⟨b, off + k * 8 + 7, none⟩ = some (.int .i64 x.undos) := ⟨(hbz1.cell (by show w.heap.size < ob; omega)).trans hS.1, (hbz1.cell (by show b < ob; omega)).trans hS.2.1, (hbz1.cell (by show b < ob; omega)).trans hS.2.2.1, (hbz1.cell (by show b < ob; omega)).trans hS.2.2.2.1, (hbz1.cell (by show b < ob; omega)).trans hS.2.2.2.2.1, (hbz1.cell (by show b < ob; omega)).trans hS.2.2.2.2.2.1, (hbz1.cell (by show b < ob; omega)).trans hS.2.2.2.2.2.2.1, (hbz1.cell (by show b < ob; omega)).trans hS.2.2.2.2.2.2.2.1, (hbz1.cell (by show b < ob; omega)).trans hS.2.2.2.2.2.2.2.2⟩
    have hS2 : z2.cell? ⟨w.heap.size, 1, none⟩ = some (.slice (some ⟨b, off, none⟩) no co) ∧ z2.cell? ⟨b, off + k * 8, none⟩ = some (.int .i64 x.dev) ∧ z2.cell? ⟨b, off + k * 8 + 1, none⟩ = some (.int .i64 x.seq) ∧ z2.cell? ⟨b, off + k * 8 + 2, none⟩ = some (.int .i64 x.stamp) ∧ z2.cell? ⟨b, off + k * 8 + 3, none⟩ = some (.int .i64 x.kind) ∧ z2.cell? ⟨b, off + k * 8 + 4, none⟩ = some (.string x.item) ∧ z2.cell? ⟨b, off + k * 8 + 5, none⟩ = some (.int .i64 x.qty) ∧ z2.cell? ⟨b, off + k * 8 + 6, none⟩ = some (.int .i64 x.level) ∧ z2.cell? ⟨b, off + k * 8 + 7, none⟩ = some (.int .i64 x.undos) := ⟨(hbz2.cell (by show w.heap.size < ob; omega)).trans hS.1, (hbz2.cell (by show b < ob; omega)).trans hS.2.1, (hbz2.cell (by show b < ob; omega)).trans hS.2.2.1, (hbz2.cell (by show b < ob; omega)).trans hS.2.2.2.1, (hbz2.cell (by show b < ob; omega)).trans hS.2.2.2.2.1, (hbz2.cell (by show b < ob; omega)).trans hS.2.2.2.2.2.1, (hbz2.cell (by show b < ob; omega)).trans hS.2.2.2.2.2.2.1, (hbz2.cell (by show b < ob; omega)).trans hS.2.2.2.2.2.2.2.1, (hbz2.cell (by show b < ob; omega)).trans hS.2.2.2.2.2.2.2.2⟩
    have hS3 : (z2.setCell ⟨ob, 1, none⟩ (.slice va2 (L.length + 1) vc2)).cell? ⟨w.heap.size, 1, none⟩ = some (.slice (some ⟨b, off, none⟩) no co) ∧ (z2.setCell ⟨ob, 1, none⟩ (.slice va2 (L.length + 1) vc2)).cell? ⟨b, off + k * 8, none⟩ = some (.int .i64 x.dev) ∧ (z2.setCell ⟨ob, 1, none⟩ (.slice va2 (L.length + 1) vc2)).cell? ⟨b, off + k * 8 + 1, none⟩ = some (.int .i64 x.seq) ∧ (z2.setCell ⟨ob, 1, none⟩ (.slice va2 (L.length + 1) vc2)).cell? ⟨b, off + k * 8 + 2, none⟩ = some (.int .i64 x.stamp) ∧ (z2.setCell ⟨ob, 1, none⟩ (.slice va2 (L.length + 1) vc2)).cell? ⟨b, off + k * 8 + 3, none⟩ = some (.int .i64 x.kind) ∧ (z2.setCell ⟨ob, 1, none⟩ (.slice va2 (L.length + 1) vc2)).cell? ⟨b, off + k * 8 + 4, none⟩ = some (.string x.item) ∧ (z2.setCell ⟨ob, 1, none⟩ (.slice va2 (L.length + 1) vc2)).cell? ⟨b, off + k * 8 + 5, none⟩ = some (.int .i64 x.qty) ∧ (z2.setCell ⟨ob, 1, none⟩ (.slice va2 (L.length + 1) vc2)).cell? ⟨b, off + k * 8 + 6, none⟩ = some (.int .i64 x.level) ∧ (z2.setCell ⟨ob, 1, none⟩ (.slice va2 (L.length + 1) vc2)).cell? ⟨b, off + k * 8 + 7, none⟩ = some (.int .i64 x.undos) := ⟨(hbz3.cell (by show w.heap.size < ob; omega)).trans hS.1, (hbz3.cell (by show b < ob; omega)).trans hS.2.1, (hbz3.cell (by show b < ob; omega)).trans hS.2.2.1, (hbz3.cell (by show b < ob; omega)).trans hS.2.2.2.1, (hbz3.cell (by show b < ob; omega)).trans hS.2.2.2.2.1, (hbz3.cell (by show b < ob; omega)).trans hS.2.2.2.2.2.1, (hbz3.cell (by show b < ob; omega)).trans hS.2.2.2.2.2.2.1, (hbz3.cell (by show b < ob; omega)).trans hS.2.2.2.2.2.2.2.1, (hbz3.cell (by show b < ob; omega)).trans hS.2.2.2.2.2.2.2.2⟩
    clear hSw HOB HROW row0 hb0z
    go_wp2_with fail
    refine wp_region_held_drew (S := fun w' => w'.cell? ⟨w.heap.size, 1, none⟩ = some (.slice (some ⟨b, off, none⟩) no co) ∧ w'.cell? ⟨b, off + k * 8, none⟩ = some (.int .i64 x.dev) ∧ w'.cell? ⟨b, off + k * 8 + 1, none⟩ = some (.int .i64 x.seq) ∧ w'.cell? ⟨b, off + k * 8 + 2, none⟩ = some (.int .i64 x.stamp) ∧ w'.cell? ⟨b, off + k * 8 + 3, none⟩ = some (.int .i64 x.kind) ∧ w'.cell? ⟨b, off + k * 8 + 4, none⟩ = some (.string x.item) ∧ w'.cell? ⟨b, off + k * 8 + 5, none⟩ = some (.int .i64 x.qty) ∧ w'.cell? ⟨b, off + k * 8 + 6, none⟩ = some (.int .i64 x.level) ∧ w'.cell? ⟨b, off + k * 8 + 7, none⟩ = some (.int .i64 x.undos)) (by kernel_rfl) (by rw [hz0e]; exact hS) (fun hHeld => ?_)
    rw [hz0e]
    clear hHeld
    refine wpAnyH_take (i := 0) (oi := { dst := some 45, op := Op.fieldAddr 27 (Operand.tmp 6) 1, type := 0, pos := "l13_stable.go:55", after := #[], guard := none }) (v := ?_) rfl (by kernel_rfl) (by kernel_rfl) (by kernel_rfl) (fun _ _ _ h => h) (Or.inl ⟨by rfl, ?_⟩) (by assumption) ?_
    rotate_left
    · intro w hSw
      (try dsimp only at hSw)
      first | (go_simp; done) | (go_simp; with_reducible rfl)
    (try simp only [Act.put, List.setIfInBounds_toArray, List.set_cons_zero, List.set_cons_succ])
    refine wpAnyH_take (i := 2) (oi := { dst := some 47, op := Op.fieldAddr 27 (Operand.tmp 2) 1, type := 0, pos := "l13_stable.go:55", after := #[], guard := none }) (v := ?_) rfl (by kernel_rfl) (by kernel_rfl) (by kernel_rfl) (fun _ _ _ h => h) (Or.inl ⟨by rfl, ?_⟩) (by assumption) ?_
    rotate_left
    · intro w hSw
      (try dsimp only at hSw)
      first | (go_simp; done) | (go_simp; with_reducible rfl)
    (try simp only [Act.put, List.setIfInBounds_toArray, List.set_cons_zero, List.set_cons_succ])
    refine wpAnyH_take (i := 3) (oi := { dst := some 48, op := Op.load 25 (Operand.tmp 47), type := 25, pos := "l13_stable.go:55", after := #[{ on := 2, ground := Ground.data }], guard := none }) (v := ?_) rfl (by kernel_rfl) (by kernel_rfl) (by kernel_rfl) (fun _ _ _ h => h) (Or.inl ⟨by rfl, ?_⟩) (by assumption) ?_
    rotate_left
    · intro w hSw
      (try dsimp only at hSw)
      first | (go_simp; done) | (go_simp; with_reducible rfl)
    (try simp only [Act.put, List.setIfInBounds_toArray, List.set_cons_zero, List.set_cons_succ])
    refine wpAnyH_take (i := 4) (oi := { dst := some 49, op := Op.move (Operand.tmp 7), type := 3, pos := "l13_stable.go:55", after := #[], guard := none }) (v := ?_) rfl (by kernel_rfl) (by kernel_rfl) (by kernel_rfl) (fun _ _ _ h => h) (Or.inl ⟨by rfl, ?_⟩) (by assumption) ?_
    rotate_left
    · intro w hSw
      (try dsimp only at hSw)
      first | (go_simp; done) | (go_simp; with_reducible rfl)
    (try simp only [Act.put, List.setIfInBounds_toArray, List.set_cons_zero, List.set_cons_succ])
    refine wpAnyH_take (i := 5) (oi := { dst := some 50, op := Op.indexAddr 25 (Operand.tmp 48) (Operand.tmp 49), type := 0, pos := "l13_stable.go:55", after := #[{ on := 3, ground := Ground.data }, { on := 4, ground := Ground.data }], guard := none }) (v := ?_) rfl (by kernel_rfl) (by kernel_rfl) (by kernel_rfl) (fun _ _ _ h => h) (Or.inl ⟨by rfl, ?_⟩) (by assumption) ?_
    rotate_left
    · intro w hSw
      (try dsimp only at hSw)
      first | (go_simp; done) | (go_simp; with_reducible rfl)
    (try simp only [Act.put, List.setIfInBounds_toArray, List.set_cons_zero, List.set_cons_succ])
    refine wpAnyH_take (i := 6) (oi := { dst := some 51, op := Op.load 36 (Operand.tmp 50), type := 36, pos := "l13_stable.go:55", after := #[{ on := 5, ground := Ground.data }], guard := none }) (v := ?_) rfl (by kernel_rfl) (by kernel_rfl) (by kernel_rfl) (fun _ _ _ h => h) (Or.inl ⟨by rfl, ?_⟩) (by assumption) ?_
    rotate_left
    · intro w hSw
      (try dsimp only at hSw)
      first | (go_simp; done) | (go_simp; with_reducible rfl)
    (try simp only [Act.put, List.setIfInBounds_toArray, List.set_cons_zero, List.set_cons_succ])
    refine wpAnyH_ready (rs := [1, 7]) (by kernel_rfl) (by simp) ?_
    refine AllReadyH.cons (o := { dst := some 46, op := Op.load 25 (Operand.tmp 45), type := 25, pos := "l13_stable.go:55", after := #[{ on := 0, ground := Ground.data }], guard := none }) rfl (fun K hK => ?_) (AllReadyH.cons (o := { dst := some 52, op := Op.buildSlice 25 1 #[(0, Operand.tmp 51)], type := 25, pos := "l13_stable.go:55", after := #[{ on := 6, ground := Ground.data }], guard := none }) rfl (fun K hK => ?_) AllReadyH.nil)
    all_goals go_simp
    · refine hK.out _ _ hSd (fun hHeld7 => ?_)
      clear hK K
      (try simp only [Act.put, List.setIfInBounds_toArray, List.set_cons_zero, List.set_cons_succ])
      refine wpAnyH_ready (rs := [7]) (by kernel_rfl) (by simp) ?_
      refine AllReadyH.cons (o := { dst := some 52, op := Op.buildSlice 25 1 #[(0, Operand.tmp 51)], type := 25, pos := "l13_stable.go:55", after := #[{ on := 6, ground := Ground.data }], guard := none }) rfl (fun K hK => ?_) AllReadyH.nil
      go_simp
      refine hK.out _ _ hS1 (fun hHeld6 => ?_)
      clear hK K
      (try simp only [Act.put, List.setIfInBounds_toArray, List.set_cons_zero, List.set_cons_succ])
      refine wpAnyH_ready (rs := [8]) (by kernel_rfl) (by simp) ?_
      refine AllReadyH.cons (o := { dst := some 53, op := Op.call { callee := Callee.builtin Builtin.append, args := #[Operand.tmp 46, Operand.tmp 52], argTypes := #[25, 25] }, type := 25, pos := "l13_stable.go:55", after := #[{ on := 1, ground := Ground.data }, { on := 7, ground := Ground.data }], guard := none }) rfl (fun K hK => ?_) AllReadyH.nil
      rw [if_pos (by rfl)]
      refine opwp_append _ _ _ rfl _ _ rfl rfl hrun ?_
      refine hK.out _ _ hS2 (fun hHeld8 => ?_)
      clear hK K
      (try simp only [Act.put, List.setIfInBounds_toArray, List.set_cons_zero, List.set_cons_succ])
      refine wpAnyH_take (i := 9) (oi := { dst := some 54, op := Op.fieldAddr 27 (Operand.tmp 6) 1, type := 0, pos := "l13_stable.go:55", after := #[{ on := 0, ground := Ground.phase }, { on := 1, ground := Ground.phase }, { on := 2, ground := Ground.phase }, { on := 3, ground := Ground.phase }, { on := 4, ground := Ground.phase }, { on := 5, ground := Ground.phase }, { on := 6, ground := Ground.phase }, { on := 7, ground := Ground.phase }, { on := 8, ground := Ground.phase }], guard := none }) (v := ?_) rfl (by kernel_rfl) (by kernel_rfl) (by kernel_rfl) (fun _ _ _ h => h) (Or.inl ⟨by rfl, ?_⟩) (by assumption) ?_
      rotate_left
      · intro w hSw
        (try dsimp only at hSw)
        first | (go_simp; done) | (go_simp; with_reducible rfl)
      (try simp only [Act.put, List.setIfInBounds_toArray, List.set_cons_zero, List.set_cons_succ])
      refine wpAnyH_ready (rs := [10]) (by kernel_rfl) (by simp) ?_
      refine AllReadyH.cons (o := { dst := none, op := Op.store 25 (Operand.tmp 54) (Operand.tmp 53), type := 0, pos := "l13_stable.go:55", after := #[{ on := 9, ground := Ground.data }, { on := 8, ground := Ground.data }, { on := 8, ground := Ground.chain }, { on := 0, ground := Ground.phase }, { on := 1, ground := Ground.phase }, { on := 2, ground := Ground.phase }, { on := 3, ground := Ground.phase }, { on := 4, ground := Ground.phase }, { on := 5, ground := Ground.phase }, { on := 6, ground := Ground.phase }, { on := 7, ground := Ground.phase }, { on := 8, ground := Ground.phase }], guard := none }) rfl (fun K hK => ?_) AllReadyH.nil
      go_simp
      refine hK.out _ _ hS3 (fun hHeld9 => ?_)
      clear hK K
      (try simp only [Act.put, List.setIfInBounds_toArray, List.set_cons_zero, List.set_cons_succ])
      refine wpAnyH_done (by kernel_rfl) ?_ _
      have HOn : Hid (OutC ob (.slice (some ⟨vb, vo, none⟩) 4 zc) ((l.take (k + 1)).filter (cutP ys)) w3 (z2.setCell ⟨ob, 1, none⟩ (.slice va2 (L.length + 1) vc2))) := by
        show OutC _ _ _ _ _
        unfold OutC
        rw [HE.out, opCells_snoc, List.length_append]
        exact ⟨va2, vc2, HBOX3.out, HROW3.out, HBL.out.trans HBEL3.out⟩
      clear HBOX3 HROW3 HBEL3 hSd hS1 hS2 hS3 hS ob0 ob1 ob2 o1 o11 o12 fz2 hrun hown2 hgr row1 hbz1 hbz2 hbz3 hHeld6 hHeld7 hHeld8 hHeld9
      go_wp2
      go_roundw
      case rel => exact ⟨k + 1, by omega, by go_num, HOn⟩
      case measure => simp [intOf]; omega
    · refine hK.out _ _ hS1 (fun hHeld7 => ?_)
      clear hK K
      (try simp only [Act.put, List.setIfInBounds_toArray, List.set_cons_zero, List.set_cons_succ])
      refine wpAnyH_ready (rs := [1]) (by kernel_rfl) (by simp) ?_
      refine AllReadyH.cons (o := { dst := some 46, op := Op.load 25 (Operand.tmp 45), type := 25, pos := "l13_stable.go:55", after := #[{ on := 0, ground := Ground.data }], guard := none }) rfl (fun K hK => ?_) AllReadyH.nil
      go_simp
      refine hK.out _ _ hS1 (fun hHeld6 => ?_)
      clear hK K
      (try simp only [Act.put, List.setIfInBounds_toArray, List.set_cons_zero, List.set_cons_succ])
      refine wpAnyH_ready (rs := [8]) (by kernel_rfl) (by simp) ?_
      refine AllReadyH.cons (o := { dst := some 53, op := Op.call { callee := Callee.builtin Builtin.append, args := #[Operand.tmp 46, Operand.tmp 52], argTypes := #[25, 25] }, type := 25, pos := "l13_stable.go:55", after := #[{ on := 1, ground := Ground.data }, { on := 7, ground := Ground.data }], guard := none }) rfl (fun K hK => ?_) AllReadyH.nil
      rw [if_pos (by rfl)]
      refine opwp_append _ _ _ rfl _ _ rfl rfl hrun ?_
      refine hK.out _ _ hS2 (fun hHeld8 => ?_)
      clear hK K
      (try simp only [Act.put, List.setIfInBounds_toArray, List.set_cons_zero, List.set_cons_succ])
      refine wpAnyH_take (i := 9) (oi := { dst := some 54, op := Op.fieldAddr 27 (Operand.tmp 6) 1, type := 0, pos := "l13_stable.go:55", after := #[{ on := 0, ground := Ground.phase }, { on := 1, ground := Ground.phase }, { on := 2, ground := Ground.phase }, { on := 3, ground := Ground.phase }, { on := 4, ground := Ground.phase }, { on := 5, ground := Ground.phase }, { on := 6, ground := Ground.phase }, { on := 7, ground := Ground.phase }, { on := 8, ground := Ground.phase }], guard := none }) (v := ?_) rfl (by kernel_rfl) (by kernel_rfl) (by kernel_rfl) (fun _ _ _ h => h) (Or.inl ⟨by rfl, ?_⟩) (by assumption) ?_
      rotate_left
      · intro w hSw
        (try dsimp only at hSw)
        first | (go_simp; done) | (go_simp; with_reducible rfl)
      (try simp only [Act.put, List.setIfInBounds_toArray, List.set_cons_zero, List.set_cons_succ])
      refine wpAnyH_ready (rs := [10]) (by kernel_rfl) (by simp) ?_
      refine AllReadyH.cons (o := { dst := none, op := Op.store 25 (Operand.tmp 54) (Operand.tmp 53), type := 0, pos := "l13_stable.go:55", after := #[{ on := 9, ground := Ground.data }, { on := 8, ground := Ground.data }, { on := 8, ground := Ground.chain }, { on := 0, ground := Ground.phase }, { on := 1, ground := Ground.phase }, { on := 2, ground := Ground.phase }, { on := 3, ground := Ground.phase }, { on := 4, ground := Ground.phase }, { on := 5, ground := Ground.phase }, { on := 6, ground := Ground.phase }, { on := 7, ground := Ground.phase }, { on := 8, ground := Ground.phase }], guard := none }) rfl (fun K hK => ?_) AllReadyH.nil
      go_simp
      refine hK.out _ _ hS3 (fun hHeld9 => ?_)
      clear hK K
      (try simp only [Act.put, List.setIfInBounds_toArray, List.set_cons_zero, List.set_cons_succ])
      refine wpAnyH_done (by kernel_rfl) ?_ _
      have HOn : Hid (OutC ob (.slice (some ⟨vb, vo, none⟩) 4 zc) ((l.take (k + 1)).filter (cutP ys)) w3 (z2.setCell ⟨ob, 1, none⟩ (.slice va2 (L.length + 1) vc2))) := by
        show OutC _ _ _ _ _
        unfold OutC
        rw [HE.out, opCells_snoc, List.length_append]
        exact ⟨va2, vc2, HBOX3.out, HROW3.out, HBL.out.trans HBEL3.out⟩
      clear HBOX3 HROW3 HBEL3 hSd hS1 hS2 hS3 hS ob0 ob1 ob2 o1 o11 o12 fz2 hrun hown2 hgr row1 hbz1 hbz2 hbz3 hHeld6 hHeld7 hHeld8 hHeld9
      go_wp2
      go_roundw
      case rel => exact ⟨k + 1, by omega, by go_num, HOn⟩
      case measure => simp [intOf]; omega
end Go.Proofs.Ythfkoplljinmmaa
