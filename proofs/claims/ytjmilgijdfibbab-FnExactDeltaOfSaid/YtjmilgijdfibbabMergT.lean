/- The walk of spec.Merged. -/
import Derived.Test.YtjmilgijdfibbabMergS
import Derived.Deep.Cut
namespace Go.Proofs.Ytjmilgijdfibbab
open Go.RowKit

theorem merged_carts {xs : List Int} {l : List OpV} {ys : List Int} {m : List OpV} (h : mergedB xs l ys m = true) : cartB xs l = true ∧ cartB ys m = true ∧ okM l m = true := by
  unfold mergedB at h
  simpa only [Bool.and_eq_true] using h
theorem mergedVs_len (xs ys : List Int) (l m : List OpV) (R : Bool) (h : mergedB xs l ys m = R) : (mergedVs xs ys R).length ≤ 4 := by
  unfold mergedVs
  split
  · rename_i e
    rw [e] at h
    obtain ⟨h1, h2, _⟩ := merged_carts h
    rw [(vec_at (maxV_ok (cart_true h1).1 (cart_true h2).1) (d := 0) (by omega)).2.2]
    exact Nat.le_refl _
  · exact Nat.zero_le _
theorem mergedOs_len (xs ys : List Int) (l m : List OpV) (R : Bool) (h : mergedB xs l ys m = R) : (mergedOs xs ys l m R).length ≤ 200 := by
  unfold mergedOs
  split
  · rename_i e
    rw [e] at h
    obtain ⟨h1, h2, _⟩ := merged_carts h
    have h3 := stOf_le (maxV_ok (cart_true h1).1 (cart_true h2).1) 4 (by omega)
    have h4 : (mergeL (maxV xs ys) l m).length = stOf (maxV xs ys) 4 := listP_len _ _ 4 0
    omega
  · exact Nat.zero_le _
set_option linter.unusedSimpArgs false in
set_option maxRecDepth 100000 in
set_option maxHeartbeats 8000000 in
theorem specMergedC (w : World) (B : Nat) (av ao bv bo : Option Addr) (nv cv no co mv dv mo eo : Nat) (xs : List Int) (l : List OpV) (ys : List Int) (m : List OpV) (hx : Ints w B av nv xs) (h : Ops w B ao no l) (hy : Ints w B bv mv ys) (g : Ops w B bo mo m) (hB : B ≤ w.heap.size) (hv : nv ≤ 1048576) (hn : no ≤ 1048576) (hm : ∀ i, i < no → (atOp l i).item.size ≤ 1048576) (hv2 : mv ≤ 1048576) (hn2 : mo ≤ 1048576) (hm2 : ∀ i, i < mo → (atOp m i).item.size ≤ 1048576) :
    Calls Try.prog 31 #[.agg #[.slice av nv cv, .slice ao no co], .agg #[.slice bv mv dv, .slice bo mo eo]] w (ReadPostC (mergedB xs l ys m) (mergedVs xs ys (mergedB xs l ys m)) (mergedOs xs ys l m (mergedB xs l ys m)) w) := by
  have hT := TriF.mk0 w #[.slice av nv cv, .slice ao no co] #[.slice bv mv dv, .slice bo mo eo] #[.slice none 0 0, .slice none 0 0] 39 39 39
  have HV := Lib.hid (hx.below hT.bel hB)
  have HO := Lib.hid (h.below hT.bel hB)
  have HY := Lib.hid (hy.below hT.bel hB)
  have HG := Lib.hid (g.below hT.bel hB)
  have HT := Lib.hid hT
  have HM := Lib.hid hm
  have HM2 := Lib.hid hm2
  have hBw := hB
  clear hx h hy g hT hB hm hm2
  go_enter Try.func31, Try.ntmps31
  go_wp2_with fail
  generalize ((w.alloc (.cells #[.slice av nv cv, .slice ao no co] 39)).alloc (.cells #[.slice bv mv dv, .slice bo mo eo] 39)).alloc (.cells #[.slice none 0 0, .slice none 0 0] 39) = w0 at HV HO HY HG HT ⊢
  have hsz0 := HT.out.bel.size
  have hsz1 := lt_of_row HT.out.res
  refine (specCartOk w0 B av ao nv cv no co xs l HV.out HO.out (by omega) hv hn HM.out).mono ?_
  rintro e w1 ⟨rfl, hb1⟩
  have HV1 := Lib.hid (HV.out.below hb1 (by omega))
  have HO1 := Lib.hid (HO.out.below hb1 (by omega))
  have HY1 := Lib.hid (HY.out.below hb1 (by omega))
  have HG1 := Lib.hid (HG.out.below hb1 (by omega))
  have HT1 := Lib.hid (HT.out.next hb1)
  have hs1 := hb1.size
  clear hb1 HV HO HY HG HT
  rcases hca : cartB xs l with _ | _
  · have HF := Lib.hid (mergedB_1 (ys := ys) (m := m) hca)
    clear hca
    obtain ⟨r0, r1⟩ := pair_cells HT1.out.res
    obtain ⟨fz0, fz1⟩ := pair_frozen HT1.out.res
    have HXr := Lib.hid (HT1.out.set2S (.slice none 0 0) (.slice none 0 0)).1
    have HBr2 := Lib.hid (HT1.out.set2S (.slice none 0 0) (.slice none 0 0)).2
    go_wp2
    change bodyPost _ _ _ _ _ ((w1.setCell ⟨w.heap.size + 1 + 1, 0, none⟩ (.slice none 0 0)).setCell ⟨w.heap.size + 1 + 1, 1, none⟩ (.slice none 0 0))
    generalize (w1.setCell ⟨w.heap.size + 1 + 1, 0, none⟩ (.slice none 0 0)).setCell ⟨w.heap.size + 1 + 1, 1, none⟩ (.slice none 0 0) = wf at HXr HBr2 ⊢
    obtain ⟨q0, q1⟩ := pair_cells HXr.out
    exact bodyPost_ret (v := .tuple #[.agg #[.slice none 0 0, .slice none 0 0], .bool false]) (by simp [results, Try.results31, go_sem, q0, q1]) rfl ⟨none, 0, none, 0, by rw [HF.out]; rfl, by rw [HF.out]; exact own_nilS _ _ _ _, by rw [HF.out]; exact own_none _ _ _ _, HBr2.out, by rw [HF.out]; exact caps_nil, by rw [HF.out]; exact caps_nil⟩
  obtain ⟨b0, b1⟩ := pair_cells HT1.out.snd
  go_wp2_with fail
  refine (specCartOk w1 B bv bo mv dv mo eo ys m HY1.out HG1.out (by omega) hv2 hn2 HM2.out).mono ?_
  rintro e w2 ⟨rfl, hb2⟩
  have HV2 := Lib.hid (HV1.out.below hb2 (by omega))
  have HO2 := Lib.hid (HO1.out.below hb2 (by omega))
  have HY2 := Lib.hid (HY1.out.below hb2 (by omega))
  have HG2 := Lib.hid (HG1.out.below hb2 (by omega))
  have HT2 := Lib.hid (HT1.out.next hb2)
  have hs2 := hb2.size
  have hrl2 := lt_of_row HT2.out.res
  clear hb2 HV1 HO1 HY1 HG1 HT1 b0 b1
  rcases hcb : cartB ys m with _ | _
  · have HF := Lib.hid (mergedB_2 (xs := xs) (l := l) hcb)
    clear hca hcb
    obtain ⟨r0, r1⟩ := pair_cells HT2.out.res
    obtain ⟨fz0, fz1⟩ := pair_frozen HT2.out.res
    have HXr := Lib.hid (HT2.out.set2S (.slice none 0 0) (.slice none 0 0)).1
    have HBr2 := Lib.hid (HT2.out.set2S (.slice none 0 0) (.slice none 0 0)).2
    go_wp2
    change bodyPost _ _ _ _ _ ((w2.setCell ⟨w.heap.size + 1 + 1, 0, none⟩ (.slice none 0 0)).setCell ⟨w.heap.size + 1 + 1, 1, none⟩ (.slice none 0 0))
    generalize (w2.setCell ⟨w.heap.size + 1 + 1, 0, none⟩ (.slice none 0 0)).setCell ⟨w.heap.size + 1 + 1, 1, none⟩ (.slice none 0 0) = wf at HXr HBr2 ⊢
    obtain ⟨q0, q1⟩ := pair_cells HXr.out
    exact bodyPost_ret (v := .tuple #[.agg #[.slice none 0 0, .slice none 0 0], .bool false]) (by simp [results, Try.results31, go_sem, q0, q1]) rfl ⟨none, 0, none, 0, by rw [HF.out]; rfl, by rw [HF.out]; exact own_nilS _ _ _ _, by rw [HF.out]; exact own_none _ _ _ _, HBr2.out, by rw [HF.out]; exact caps_nil, by rw [HF.out]; exact caps_nil⟩
  have HFk := Lib.hid (mergedB_3 hca hcb)
  obtain ⟨a0, a1⟩ := pair_cells HT2.out.fst
  obtain ⟨b0, b1⟩ := pair_cells HT2.out.snd
  go_wp2_with fail
  refine (l4MergeC w2 B av ao bv bo nv cv no co mv dv mo eo xs l ys m HV2.out HO2.out HY2.out HG2.out (by omega) hv hn HM.out hv2 hn2 HM2.out hca hcb).mono ?_
  rintro e w3 ⟨va, vc, oa, oc, rfl, hiv, hop, hb3, hcv, hco⟩
  rw [← HFk.out] at hiv hop hcv hco ⊢
  have HCv := Lib.hid hcv
  have HCo := Lib.hid hco
  clear hcv hco
  have HT3 := Lib.hid (HT2.out.next hb3)
  have HI := Lib.hid hiv
  have HP := Lib.hid hop
  have hs3 := hb3.size
  clear hiv hop hb3 HV2 HO2 HY2 HG2 HT2 a0 a1 b0 b1 hca hcb
  generalize hzs : mergedVs xs ys (mergedB xs l ys m) = zs at HI HCv ⊢
  generalize hLs : mergedOs xs ys l m (mergedB xs l ys m) = L at HP HCo ⊢
  have HZs := Lib.hid hzs
  have HLs := Lib.hid hLs
  clear hzs hLs
  rcases hok : mergedB xs l ys m with _ | _
  · have HF := Lib.hid hok
    clear hok
    go_upto_region 4 with fail
    have hb4 : Below w3.heap.size w3 (w3.alloc (.cells #[.slice va zs.length vc, .slice oa L.length oc] 39)) := (Below.refl _ _).alloc (Nat.le_refl _) _
    have HT4 := Lib.hid (HT3.out.next hb4)
    generalize w3.alloc (.cells #[.slice va zs.length vc, .slice oa L.length oc] 39) = w4 at hb4 HT4 ⊢
    clear hb4
    obtain ⟨r0, r1⟩ := pair_cells HT4.out.res
    obtain ⟨fz0, fz1⟩ := pair_frozen HT4.out.res
    have HXr := Lib.hid (HT4.out.set2S (.slice none 0 0) (.slice none 0 0)).1
    have HBr2 := Lib.hid (HT4.out.set2S (.slice none 0 0) (.slice none 0 0)).2
    go_wp2
    change bodyPost _ _ _ _ _ ((w4.setCell ⟨w.heap.size + 1 + 1, 0, none⟩ (.slice none 0 0)).setCell ⟨w.heap.size + 1 + 1, 1, none⟩ (.slice none 0 0))
    generalize (w4.setCell ⟨w.heap.size + 1 + 1, 0, none⟩ (.slice none 0 0)).setCell ⟨w.heap.size + 1 + 1, 1, none⟩ (.slice none 0 0) = wf at HXr HBr2 ⊢
    obtain ⟨q0, q1⟩ := pair_cells HXr.out
    exact bodyPost_ret (v := .tuple #[.agg #[.slice none 0 0, .slice none 0 0], .bool false]) (by simp [results, Try.results31, go_sem, q0, q1]) rfl ⟨none, 0, none, 0, by rw [HF.out]; rfl, by rw [HF.out]; exact own_nilS _ _ _ _, by rw [HF.out]; exact own_none _ _ _ _, HBr2.out, by rw [HF.out]; exact caps_nil, by rw [HF.out]; exact caps_nil⟩
  have HF := Lib.hid hok
  clear hok
  go_upto_region 4 with fail
  have hb4 : Below w3.heap.size w3 (w3.alloc (.cells #[.slice va zs.length vc, .slice oa L.length oc] 39)) := (Below.refl _ _).alloc (Nat.le_refl _) _
  have HT4 := Lib.hid (HT3.out.next hb4)
  have HX4 := Lib.hid (boxAt (Below.refl _ (w3.alloc (.cells #[.slice va zs.length vc, .slice oa L.length oc] 39))))
  have HI4 := Lib.hid (HI.out.below hb4 (Nat.le_refl _))
  have HP4 := Lib.hid (HP.out.below hb4 (Nat.le_refl _))
  generalize w3.alloc (.cells #[.slice va zs.length vc, .slice oa L.length oc] 39) = w4 at hb4 HT4 HX4 HI4 HP4 ⊢
  have hs4 := hb4.size
  clear hb4 HT3 HI HP
  obtain ⟨r0, r1⟩ := pair_cells HT4.out.res
  obtain ⟨fz0, fz1⟩ := pair_frozen HT4.out.res
  obtain ⟨x0, x1⟩ := pair_cells HX4.out
  have hrl := lt_of_row HT4.out.res
  have HXr := Lib.hid (HT4.out.set2S (.slice va zs.length vc) (.slice oa L.length oc)).1
  have HBr2 := Lib.hid (HT4.out.set2S (.slice va zs.length vc) (.slice oa L.length oc)).2
  have hsz6 : ((w4.setCell ⟨w.heap.size + 1 + 1, 0, none⟩ (.slice va zs.length vc)).setCell ⟨w.heap.size + 1 + 1, 1, none⟩ (.slice oa L.length oc)).heap.size = w4.heap.size := pair_size _ _ _ _
  have HZ6 : Hid (Own ((w4.setCell ⟨w.heap.size + 1 + 1, 0, none⟩ (.slice va zs.length vc)).setCell ⟨w.heap.size + 1 + 1, 1, none⟩ (.slice oa L.length oc)) w2.heap.size w3.heap.size va zs.length zs) := HI4.out.kept fun j h1 h2 => pair_other _ _ (by omega)
  have HO6 : Hid (OwnOps ((w4.setCell ⟨w.heap.size + 1 + 1, 0, none⟩ (.slice va zs.length vc)).setCell ⟨w.heap.size + 1 + 1, 1, none⟩ (.slice oa L.length oc)) w2.heap.size w3.heap.size oa L.length L) := HP4.out.kept fun j h1 h2 => pair_other _ _ (by omega)
  have HsM : Hid (w4.heap.size = ((w4.setCell ⟨w.heap.size + 1 + 1, 0, none⟩ (.slice va zs.length vc)).setCell ⟨w.heap.size + 1 + 1, 1, none⟩ (.slice oa L.length oc)).heap.size) := hsz6.symm
  clear hsz6
  go_wp2
  change bodyPost _ _ _ _ _ ((w4.setCell ⟨w.heap.size + 1 + 1, 0, none⟩ (.slice va zs.length vc)).setCell ⟨w.heap.size + 1 + 1, 1, none⟩ (.slice oa L.length oc))
  generalize (w4.setCell ⟨w.heap.size + 1 + 1, 0, none⟩ (.slice va zs.length vc)).setCell ⟨w.heap.size + 1 + 1, 1, none⟩ (.slice oa L.length oc) = wf at HXr HBr2 HZ6 HO6 HsM ⊢
  obtain ⟨q0, q1⟩ := pair_cells HXr.out
  have hsm := HsM.out
  exact bodyPost_ret (v := .tuple #[.agg #[.slice va zs.length vc, .slice oa L.length oc], .bool true]) (by simp [results, Try.results31, go_sem, q0, q1]) rfl ⟨va, vc, oa, oc, by rw [HZs.out, HLs.out, HF.out], by rw [HZs.out]; exact HZ6.out.more (by omega) (by omega), by rw [HLs.out]; exact HO6.out.more (by omega) (by omega), HBr2.out, by rw [HZs.out]; exact HCv.out, by rw [HLs.out]; exact HCo.out⟩
theorem specMerged (w : World) (B : Nat) (av ao bv bo : Option Addr) (nv cv no co mv dv mo eo : Nat) (xs : List Int) (l : List OpV) (ys : List Int) (m : List OpV) (hx : Ints w B av nv xs) (h : Ops w B ao no l) (hy : Ints w B bv mv ys) (g : Ops w B bo mo m) (hB : B ≤ w.heap.size) (hv : nv ≤ 1048576) (hn : no ≤ 1048576) (hm : ∀ i, i < no → (atOp l i).item.size ≤ 1048576) (hv2 : mv ≤ 1048576) (hn2 : mo ≤ 1048576) (hm2 : ∀ i, i < mo → (atOp m i).item.size ≤ 1048576) :
    Calls Try.prog 31 #[.agg #[.slice av nv cv, .slice ao no co], .agg #[.slice bv mv dv, .slice bo mo eo]] w (ReadPost (mergedB xs l ys m) (mergedVs xs ys (mergedB xs l ys m)) (mergedOs xs ys l m (mergedB xs l ys m)) w) :=
  (specMergedC w B av ao bv bo nv cv no co mv dv mo eo xs l ys m hx h hy g hB hv hn hm hv2 hn2 hm2).mono ReadPostC.read
end Go.Proofs.Ytjmilgijdfibbab
