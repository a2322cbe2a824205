/- The walks of the laws FnVecWithin, FnVecThree, FnVecs. Written by program (genveclaws.py). -/
import Derived.Test.YtjmilgijdfibbabVecMath
namespace Go.Proofs.Ytjmilgijdfibbab
open Go.RowKit

set_option maxRecDepth 100000 in
set_option maxHeartbeats 4000000 in
theorem fnVecWithinWalk (a : Option Addr) (len cap : Nat) (zs : List Int) (w : World) (h : IsRow .u8 w a len cap zs) :
    Calls Try.prog 6 #[.slice a len cap] w fun e w' => e = .returned (.bool true) ∧ Below w.heap.size w w' := by
  by_cases hbig : len ≤ 1048576
  · have hsrc := Lib.hid (src_of_row h hbig)
    clear h
    go_enter Try.func6, Try.ntmps6
    go_wp2_with fail
    refine (bigNo a len cap hbig w).mono ?_
    rintro e w' ⟨rfl, rfl⟩
    go_wp2_with fail
    refine (drawVecWithin w w.heap.size a len cap (Nat.le_refl _) hsrc.out).mono ?_
    rintro e v1 ⟨axs, nxs, cxs, xs, ays, nys, cys, ys, lxs, lys, rfl, hI_2, hI_3, hb_1⟩
    have lxs' : nxs ≤ 1048576 := by omega
    have lys' : nys ≤ 1048576 := by omega
    have Hxs_4 := Lib.hid hI_2
    have Hys_5 := Lib.hid hI_3
    clear hI_2 hI_3
    obtain ⟨t, qt⟩ : ∃ t, withinB xs ys = t := ⟨_, rfl⟩
    have Et := Lib.hid qt
    clear qt
    go_wp2_with fail
    refine (implWithin v1 v1.heap.size _ _ _ _ _ _ xs ys Hxs_4.out Hys_5.out (Nat.le_refl _) lxs' lys').mono ?_
    rintro e v2 ⟨rfl, hb_6⟩
    rw [Et.out]
    have hB_7 : Below w.heap.size w v2 := hb_1.trans (hb_6.mono hb_1.size)
    have Hxs_8 := Lib.hid ((Hxs_4.out.below hb_6 (Nat.le_refl _)).more hb_6.size)
    have Hys_9 := Lib.hid ((Hys_5.out.below hb_6 (Nat.le_refl _)).more hb_6.size)
    clear hb_1 Hxs_4 Hys_5
    clear hb_6
    go_wp2_with fail
    refine (specWithin v2 v2.heap.size v2.heap.size _ _ _ _ _ _ xs ys Hxs_8.out Hys_9.out lxs' lys').mono ?_
    rintro e v3 ⟨rfl, hb_10⟩
    rw [Et.out]
    have hB_11 : Below w.heap.size w v3 := hB_7.trans (hb_10.mono hB_7.size)
    have Hxs_12 := Lib.hid ((Hxs_8.out.below hb_10 (Nat.le_refl _)).more hb_10.size)
    have Hys_13 := Lib.hid ((Hys_9.out.below hb_10 (Nat.le_refl _)).more hb_10.size)
    clear hB_7 Hxs_8 Hys_9
    clear hb_10
    cases hx : vecOk xs
    · have Ex := Lib.hid hx
      clear hx
      go_wp2_with fail
      refine (specVecOk v3 v3.heap.size _ _ _ xs Hxs_12.out lxs').mono ?_
      rintro e v4 ⟨rfl, rfl⟩
      rw [Ex.out]
      go_wp2_with fail
      refine (specWithin v3 v3.heap.size v3.heap.size _ _ _ _ _ _ xs ys Hxs_12.out Hys_13.out lxs' lys').mono ?_
      rintro e v5 ⟨rfl, hb_14⟩
      rw [Et.out]
      have hB_15 : Below w.heap.size w v5 := hB_11.trans (hb_14.mono hB_11.size)
      have Hxs_16 := Lib.hid ((Hxs_12.out.below hb_14 (Nat.le_refl _)).more hb_14.size)
      have Hys_17 := Lib.hid ((Hys_13.out.below hb_14 (Nat.le_refl _)).more hb_14.size)
      clear hB_11 Hxs_12 Hys_13
      clear hb_14
      go_wp2
      go_ret
      exact ⟨rfl, hB_15⟩
    · cases hy : vecOk ys
      · have Ex := Lib.hid hx
        have Ey := Lib.hid hy
        clear hx hy
        go_wp2_with fail
        refine (specVecOk v3 v3.heap.size _ _ _ xs Hxs_12.out lxs').mono ?_
        rintro e v4 ⟨rfl, rfl⟩
        rw [Ex.out]
        go_wp2_with fail
        refine (specVecOk v3 v3.heap.size _ _ _ ys Hys_13.out lys').mono ?_
        rintro e v5 ⟨rfl, rfl⟩
        rw [Ey.out]
        go_wp2_with fail
        refine (specWithin v3 v3.heap.size v3.heap.size _ _ _ _ _ _ xs ys Hxs_12.out Hys_13.out lxs' lys').mono ?_
        rintro e v6 ⟨rfl, hb_14⟩
        rw [Et.out]
        have hB_15 : Below w.heap.size w v6 := hB_11.trans (hb_14.mono hB_11.size)
        have Hxs_16 := Lib.hid ((Hxs_12.out.below hb_14 (Nat.le_refl _)).more hb_14.size)
        have Hys_17 := Lib.hid ((Hys_13.out.below hb_14 (Nat.le_refl _)).more hb_14.size)
        clear hB_11 Hxs_12 Hys_13
        clear hb_14
        go_wp2
        go_ret
        exact ⟨rfl, hB_15⟩
      · have Ex := Lib.hid hx
        have Ey := Lib.hid hy
        have F1 := Lib.hid (w_max hx hy)
        have F2 := Lib.hid (w_anti hx hy)
        have F3 := Lib.hid (w_refl hx)
        clear hx hy
        go_wp2_with fail
        refine (specVecOk v3 v3.heap.size _ _ _ xs Hxs_12.out lxs').mono ?_
        rintro e v4 ⟨rfl, rfl⟩
        rw [Ex.out]
        go_wp2_with fail
        refine (specVecOk v3 v3.heap.size _ _ _ ys Hys_13.out lys').mono ?_
        rintro e v5 ⟨rfl, rfl⟩
        rw [Ey.out]
        have lM := zip_len4 max xs ys
        obtain ⟨M, qM⟩ : ∃ L, vecZip max xs ys = L := ⟨_, rfl⟩
        rw [qM] at lM
        have EM := Lib.hid qM
        clear qM
        have lM' : M.length ≤ 1048576 := by omega
        go_wp2_with fail
        refine (implMax v3 v3.heap.size _ _ _ _ _ _ xs ys Hxs_12.out Hys_13.out (Nat.le_refl _) lxs' lys').mono ?_
        rintro e v6 ⟨a_16, c_17, rfl, ho_15, hb_14⟩
        rw [EM.out] at ho_15 ⊢
        have HM_18 := Lib.hid ho_15.ints
        clear ho_15
        have hB_19 : Below w.heap.size w v6 := hB_11.trans (hb_14.mono hB_11.size)
        have Hxs_20 := Lib.hid ((Hxs_12.out.below hb_14 (Nat.le_refl _)).more hb_14.size)
        have Hys_21 := Lib.hid ((Hys_13.out.below hb_14 (Nat.le_refl _)).more hb_14.size)
        clear hB_11 Hxs_12 Hys_13
        clear hb_14
        have G1 : Hid (decide (M = ys) = t) := by rw [← EM.out, ← F1.out]; exact Et.out
        have G2 : Hid ((t && withinB ys xs) = decide (xs = ys)) := by rw [← Et.out]; exact F2.out
        go_wp2_with fail
        refine (sameInts v6 _ _ _ _ _ _ _ _ M ys HM_18.out Hys_21.out lM' lys').mono ?_
        rintro e v7 ⟨rfl, hS_22⟩
        have hb_23 : Below v6.heap.size v6 v7 := hS_22.below _
        rw [G1.out]
        clear hS_22
        have hB_24 : Below w.heap.size w v7 := hB_19.trans (hb_23.mono hB_19.size)
        have Hxs_25 := Lib.hid ((Hxs_20.out.below hb_23 (Nat.le_refl _)).more hb_23.size)
        have Hys_26 := Lib.hid ((Hys_21.out.below hb_23 (Nat.le_refl _)).more hb_23.size)
        have HM_27 := Lib.hid ((HM_18.out.below hb_23 (Nat.le_refl _)).more hb_23.size)
        clear hB_19 Hxs_20 Hys_21 HM_18
        clear hb_23
        cases t
        · have G3 : Hid (decide (xs = ys) = false) := G2.out.symm
          go_wp2_with fail
          refine (sameInts v7 _ _ _ _ _ _ _ _ xs ys Hxs_25.out Hys_26.out lxs' lys').mono ?_
          rintro e v8 ⟨rfl, hS_28⟩
          have hb_29 : Below v7.heap.size v7 v8 := hS_28.below _
          rw [G3.out]
          clear hS_28
          have hB_30 : Below w.heap.size w v8 := hB_24.trans (hb_29.mono hB_24.size)
          have Hxs_31 := Lib.hid ((Hxs_25.out.below hb_29 (Nat.le_refl _)).more hb_29.size)
          have Hys_32 := Lib.hid ((Hys_26.out.below hb_29 (Nat.le_refl _)).more hb_29.size)
          have HM_33 := Lib.hid ((HM_27.out.below hb_29 (Nat.le_refl _)).more hb_29.size)
          clear hB_24 Hxs_25 Hys_26 HM_27
          clear hb_29
          go_wp2_with fail
          refine (implWithin v8 v8.heap.size _ _ _ _ _ _ xs xs Hxs_31.out Hxs_31.out (Nat.le_refl _) lxs' lxs').mono ?_
          rintro e v9 ⟨rfl, hb_34⟩
          rw [F3.out]
          have hB_35 : Below w.heap.size w v9 := hB_30.trans (hb_34.mono hB_30.size)
          have Hxs_36 := Lib.hid ((Hxs_31.out.below hb_34 (Nat.le_refl _)).more hb_34.size)
          have Hys_37 := Lib.hid ((Hys_32.out.below hb_34 (Nat.le_refl _)).more hb_34.size)
          have HM_38 := Lib.hid ((HM_33.out.below hb_34 (Nat.le_refl _)).more hb_34.size)
          clear hB_30 Hxs_31 Hys_32 HM_33
          clear hb_34
          go_wp2
          go_ret
          exact ⟨rfl, hB_35⟩
        · have G3 : Hid (withinB ys xs = decide (xs = ys)) := G2.out
          obtain ⟨u, qu⟩ : ∃ u, decide (xs = ys) = u := ⟨_, rfl⟩
          have Eu := Lib.hid qu
          have G4 : Hid (withinB ys xs = u) := G3.out.trans qu
          clear qu
          go_wp2_with fail
          refine (implWithin v7 v7.heap.size _ _ _ _ _ _ ys xs Hys_26.out Hxs_25.out (Nat.le_refl _) lys' lxs').mono ?_
          rintro e v8 ⟨rfl, hb_28⟩
          rw [G4.out]
          have hB_29 : Below w.heap.size w v8 := hB_24.trans (hb_28.mono hB_24.size)
          have Hxs_30 := Lib.hid ((Hxs_25.out.below hb_28 (Nat.le_refl _)).more hb_28.size)
          have Hys_31 := Lib.hid ((Hys_26.out.below hb_28 (Nat.le_refl _)).more hb_28.size)
          have HM_32 := Lib.hid ((HM_27.out.below hb_28 (Nat.le_refl _)).more hb_28.size)
          clear hB_24 Hxs_25 Hys_26 HM_27
          clear hb_28
          go_wp2_with fail
          refine (sameInts v8 _ _ _ _ _ _ _ _ xs ys Hxs_30.out Hys_31.out lxs' lys').mono ?_
          rintro e v9 ⟨rfl, hS_33⟩
          have hb_34 : Below v8.heap.size v8 v9 := hS_33.below _
          rw [Eu.out]
          clear hS_33
          have hB_35 : Below w.heap.size w v9 := hB_29.trans (hb_34.mono hB_29.size)
          have Hxs_36 := Lib.hid ((Hxs_30.out.below hb_34 (Nat.le_refl _)).more hb_34.size)
          have Hys_37 := Lib.hid ((Hys_31.out.below hb_34 (Nat.le_refl _)).more hb_34.size)
          have HM_38 := Lib.hid ((HM_32.out.below hb_34 (Nat.le_refl _)).more hb_34.size)
          clear hB_29 Hxs_30 Hys_31 HM_32
          clear hb_34
          go_wp2_with fail
          refine (implWithin v9 v9.heap.size _ _ _ _ _ _ xs xs Hxs_36.out Hxs_36.out (Nat.le_refl _) lxs' lxs').mono ?_
          rintro e v10 ⟨rfl, hb_39⟩
          rw [F3.out]
          have hB_40 : Below w.heap.size w v10 := hB_35.trans (hb_39.mono hB_35.size)
          have Hxs_41 := Lib.hid ((Hxs_36.out.below hb_39 (Nat.le_refl _)).more hb_39.size)
          have Hys_42 := Lib.hid ((Hys_37.out.below hb_39 (Nat.le_refl _)).more hb_39.size)
          have HM_43 := Lib.hid ((HM_38.out.below hb_39 (Nat.le_refl _)).more hb_39.size)
          clear hB_35 Hxs_36 Hys_37 HM_38
          clear hb_39
          go_wp2
          go_ret
          exact ⟨rfl, hB_40⟩
  · go_enter Try.func6, Try.ntmps6
    go_wp2_with fail
    refine (bigYes a len cap hbig w).mono ?_
    rintro e w' ⟨rfl, rfl⟩
    go_wp2
    go_ret
    exact ⟨rfl, Below.refl _ _⟩

set_option maxRecDepth 100000 in
set_option maxHeartbeats 4000000 in
theorem fnVecsWalk (a : Option Addr) (len cap : Nat) (zs : List Int) (w : World) (h : IsRow .u8 w a len cap zs) :
    Calls Try.prog 5 #[.slice a len cap] w fun e w' => e = .returned (.bool true) ∧ Below w.heap.size w w' := by
  by_cases hbig : len ≤ 1048576
  · have hsrc := Lib.hid (src_of_row h hbig)
    clear h
    go_enter Try.func5, Try.ntmps5
    go_wp2_with fail
    refine (bigNo a len cap hbig w).mono ?_
    rintro e w' ⟨rfl, rfl⟩
    go_wp2_with fail
    refine (drawVecMax w w.heap.size a len cap (Nat.le_refl _) hsrc.out).mono ?_
    rintro e v1 ⟨axs, nxs, cxs, xs, ays, nys, cys, ys, lxs, lys, rfl, hI_2, hI_3, hb_1⟩
    have lxs' : nxs ≤ 1048576 := by omega
    have lys' : nys ≤ 1048576 := by omega
    have Hxs_4 := Lib.hid hI_2
    have Hys_5 := Lib.hid hI_3
    clear hI_2 hI_3
    have lM := zip_len4 max xs ys
    obtain ⟨M, qM⟩ : ∃ L, vecZip max xs ys = L := ⟨_, rfl⟩
    rw [qM] at lM
    have EM := Lib.hid qM
    clear qM
    have lM' : M.length ≤ 1048576 := by omega
    go_wp2_with fail
    refine (implMax v1 v1.heap.size _ _ _ _ _ _ xs ys Hxs_4.out Hys_5.out (Nat.le_refl _) lxs' lys').mono ?_
    rintro e v2 ⟨a_8, c_9, rfl, ho_7, hb_6⟩
    rw [EM.out] at ho_7 ⊢
    have HM_10 := Lib.hid ho_7.ints
    clear ho_7
    have hB_11 : Below w.heap.size w v2 := hb_1.trans (hb_6.mono hb_1.size)
    have Hxs_12 := Lib.hid ((Hxs_4.out.below hb_6 (Nat.le_refl _)).more hb_6.size)
    have Hys_13 := Lib.hid ((Hys_5.out.below hb_6 (Nat.le_refl _)).more hb_6.size)
    clear hb_1 Hxs_4 Hys_5
    clear hb_6
    go_wp2_with fail
    refine (drawVecMin v2 w.heap.size a len cap hB_11.size (src_below hsrc.out hB_11)).mono ?_
    rintro e v3 ⟨acs, ncs, ccs, cs, ads, nds, cds, ds, lcs, lds, rfl, hI_15, hI_16, hb_14⟩
    have lcs' : ncs ≤ 1048576 := by omega
    have lds' : nds ≤ 1048576 := by omega
    have Hcs_17 := Lib.hid hI_15
    have Hds_18 := Lib.hid hI_16
    clear hI_15 hI_16
    have hB_19 : Below w.heap.size w v3 := hB_11.trans (hb_14.mono hB_11.size)
    have Hxs_20 := Lib.hid ((Hxs_12.out.below hb_14 (Nat.le_refl _)).more hb_14.size)
    have Hys_21 := Lib.hid ((Hys_13.out.below hb_14 (Nat.le_refl _)).more hb_14.size)
    have HM_22 := Lib.hid ((HM_10.out.below hb_14 (Nat.le_refl _)).more hb_14.size)
    clear hB_11 Hxs_12 Hys_13 HM_10
    clear hb_14
    have lN := zip_len4 min cs ds
    obtain ⟨N, qN⟩ : ∃ L, vecZip min cs ds = L := ⟨_, rfl⟩
    rw [qN] at lN
    have EN := Lib.hid qN
    clear qN
    have lN' : N.length ≤ 1048576 := by omega
    go_wp2_with fail
    refine (implMin v3 v3.heap.size _ _ _ _ _ _ cs ds Hcs_17.out Hds_18.out (Nat.le_refl _) lcs' lds').mono ?_
    rintro e v4 ⟨a_25, c_26, rfl, ho_24, hb_23⟩
    rw [EN.out] at ho_24 ⊢
    have HN_27 := Lib.hid ho_24.ints
    clear ho_24
    have hB_28 : Below w.heap.size w v4 := hB_19.trans (hb_23.mono hB_19.size)
    have Hxs_29 := Lib.hid ((Hxs_20.out.below hb_23 (Nat.le_refl _)).more hb_23.size)
    have Hys_30 := Lib.hid ((Hys_21.out.below hb_23 (Nat.le_refl _)).more hb_23.size)
    have HM_31 := Lib.hid ((HM_22.out.below hb_23 (Nat.le_refl _)).more hb_23.size)
    have Hcs_32 := Lib.hid ((Hcs_17.out.below hb_23 (Nat.le_refl _)).more hb_23.size)
    have Hds_33 := Lib.hid ((Hds_18.out.below hb_23 (Nat.le_refl _)).more hb_23.size)
    clear hB_19 Hxs_20 Hys_21 HM_22 Hcs_17 Hds_18
    clear hb_23
    go_wp2_with fail
    refine (drawVecOk v4 w.heap.size a len cap hB_28.size (src_below hsrc.out hB_28)).mono ?_
    rintro e v5 ⟨azz, nzz, czz, zz, lzz, rfl, hI_35, hb_34⟩
    have lzz' : nzz ≤ 1048576 := by omega
    have Hzz_36 := Lib.hid hI_35
    clear hI_35
    have hB_37 : Below w.heap.size w v5 := hB_28.trans (hb_34.mono hB_28.size)
    have Hxs_38 := Lib.hid ((Hxs_29.out.below hb_34 (Nat.le_refl _)).more hb_34.size)
    have Hys_39 := Lib.hid ((Hys_30.out.below hb_34 (Nat.le_refl _)).more hb_34.size)
    have HM_40 := Lib.hid ((HM_31.out.below hb_34 (Nat.le_refl _)).more hb_34.size)
    have Hcs_41 := Lib.hid ((Hcs_32.out.below hb_34 (Nat.le_refl _)).more hb_34.size)
    have Hds_42 := Lib.hid ((Hds_33.out.below hb_34 (Nat.le_refl _)).more hb_34.size)
    have HN_43 := Lib.hid ((HN_27.out.below hb_34 (Nat.le_refl _)).more hb_34.size)
    clear hB_28 Hxs_29 Hys_30 HM_31 Hcs_32 Hds_33 HN_27
    clear hb_34
    obtain ⟨z, qz⟩ : ∃ z, vecOk zz = z := ⟨_, rfl⟩
    have Ez := Lib.hid qz
    clear qz
    go_wp2_with fail
    refine (specMax v5 v5.heap.size v5.heap.size _ _ _ _ _ _ xs ys Hxs_38.out Hys_39.out (Nat.le_refl _) (Nat.le_refl _) lxs' lys').mono ?_
    rintro e v6 ⟨a_46, c_47, rfl, ho_45, hb_44⟩
    rw [EM.out] at ho_45 ⊢
    have HP1_48 := Lib.hid ho_45.ints
    clear ho_45
    have hB_49 : Below w.heap.size w v6 := hB_37.trans (hb_44.mono hB_37.size)
    have Hxs_50 := Lib.hid ((Hxs_38.out.below hb_44 (Nat.le_refl _)).more hb_44.size)
    have Hys_51 := Lib.hid ((Hys_39.out.below hb_44 (Nat.le_refl _)).more hb_44.size)
    have HM_52 := Lib.hid ((HM_40.out.below hb_44 (Nat.le_refl _)).more hb_44.size)
    have Hcs_53 := Lib.hid ((Hcs_41.out.below hb_44 (Nat.le_refl _)).more hb_44.size)
    have Hds_54 := Lib.hid ((Hds_42.out.below hb_44 (Nat.le_refl _)).more hb_44.size)
    have HN_55 := Lib.hid ((HN_43.out.below hb_44 (Nat.le_refl _)).more hb_44.size)
    have Hzz_56 := Lib.hid ((Hzz_36.out.below hb_44 (Nat.le_refl _)).more hb_44.size)
    clear hB_37 Hxs_38 Hys_39 HM_40 Hcs_41 Hds_42 HN_43 Hzz_36
    clear hb_44
    go_wp2_with fail
    refine (sameInts v6 _ _ _ _ _ _ _ _ M M HM_52.out HP1_48.out lM' lM').mono ?_
    rintro e v7 ⟨rfl, hS_57⟩
    have hb_58 : Below v6.heap.size v6 v7 := hS_57.below _
    rw [(decide_eq_true rfl : decide (M = M) = true)]
    clear hS_57
    have hB_59 : Below w.heap.size w v7 := hB_49.trans (hb_58.mono hB_49.size)
    have Hxs_60 := Lib.hid ((Hxs_50.out.below hb_58 (Nat.le_refl _)).more hb_58.size)
    have Hys_61 := Lib.hid ((Hys_51.out.below hb_58 (Nat.le_refl _)).more hb_58.size)
    have HM_62 := Lib.hid ((HM_52.out.below hb_58 (Nat.le_refl _)).more hb_58.size)
    have Hcs_63 := Lib.hid ((Hcs_53.out.below hb_58 (Nat.le_refl _)).more hb_58.size)
    have Hds_64 := Lib.hid ((Hds_54.out.below hb_58 (Nat.le_refl _)).more hb_58.size)
    have HN_65 := Lib.hid ((HN_55.out.below hb_58 (Nat.le_refl _)).more hb_58.size)
    have Hzz_66 := Lib.hid ((Hzz_56.out.below hb_58 (Nat.le_refl _)).more hb_58.size)
    have HP1_67 := Lib.hid ((HP1_48.out.below hb_58 (Nat.le_refl _)).more hb_58.size)
    clear hB_49 Hxs_50 Hys_51 HM_52 Hcs_53 Hds_54 HN_55 Hzz_56 HP1_48
    clear hb_58
    go_wp2_with fail
    refine (specMin v7 v7.heap.size v7.heap.size _ _ _ _ _ _ cs ds Hcs_63.out Hds_64.out (Nat.le_refl _) (Nat.le_refl _) lcs' lds').mono ?_
    rintro e v8 ⟨a_70, c_71, rfl, ho_69, hb_68⟩
    rw [EN.out] at ho_69 ⊢
    have HQ1_72 := Lib.hid ho_69.ints
    clear ho_69
    have hB_73 : Below w.heap.size w v8 := hB_59.trans (hb_68.mono hB_59.size)
    have Hxs_74 := Lib.hid ((Hxs_60.out.below hb_68 (Nat.le_refl _)).more hb_68.size)
    have Hys_75 := Lib.hid ((Hys_61.out.below hb_68 (Nat.le_refl _)).more hb_68.size)
    have HM_76 := Lib.hid ((HM_62.out.below hb_68 (Nat.le_refl _)).more hb_68.size)
    have Hcs_77 := Lib.hid ((Hcs_63.out.below hb_68 (Nat.le_refl _)).more hb_68.size)
    have Hds_78 := Lib.hid ((Hds_64.out.below hb_68 (Nat.le_refl _)).more hb_68.size)
    have HN_79 := Lib.hid ((HN_65.out.below hb_68 (Nat.le_refl _)).more hb_68.size)
    have Hzz_80 := Lib.hid ((Hzz_66.out.below hb_68 (Nat.le_refl _)).more hb_68.size)
    clear hB_59 Hxs_60 Hys_61 HM_62 Hcs_63 Hds_64 HN_65 Hzz_66
    clear hb_68
    go_wp2_with fail
    refine (sameInts v8 _ _ _ _ _ _ _ _ N N HN_79.out HQ1_72.out lN' lN').mono ?_
    rintro e v9 ⟨rfl, hS_81⟩
    have hb_82 : Below v8.heap.size v8 v9 := hS_81.below _
    rw [(decide_eq_true rfl : decide (N = N) = true)]
    clear hS_81
    have hB_83 : Below w.heap.size w v9 := hB_73.trans (hb_82.mono hB_73.size)
    have Hxs_84 := Lib.hid ((Hxs_74.out.below hb_82 (Nat.le_refl _)).more hb_82.size)
    have Hys_85 := Lib.hid ((Hys_75.out.below hb_82 (Nat.le_refl _)).more hb_82.size)
    have HM_86 := Lib.hid ((HM_76.out.below hb_82 (Nat.le_refl _)).more hb_82.size)
    have Hcs_87 := Lib.hid ((Hcs_77.out.below hb_82 (Nat.le_refl _)).more hb_82.size)
    have Hds_88 := Lib.hid ((Hds_78.out.below hb_82 (Nat.le_refl _)).more hb_82.size)
    have HN_89 := Lib.hid ((HN_79.out.below hb_82 (Nat.le_refl _)).more hb_82.size)
    have Hzz_90 := Lib.hid ((Hzz_80.out.below hb_82 (Nat.le_refl _)).more hb_82.size)
    have HQ1_91 := Lib.hid ((HQ1_72.out.below hb_82 (Nat.le_refl _)).more hb_82.size)
    clear hB_73 Hxs_74 Hys_75 HM_76 Hcs_77 Hds_78 HN_79 Hzz_80 HQ1_72
    clear hb_82
    go_wp2_with fail
    refine (implVecOk v9 v9.heap.size _ _ _ zz Hzz_90.out lzz').mono ?_
    rintro e v10 ⟨rfl, rfl⟩
    rw [Ez.out]
    go_wp2_with fail
    refine (specVecOk v9 v9.heap.size _ _ _ zz Hzz_90.out lzz').mono ?_
    rintro e v11 ⟨rfl, rfl⟩
    rw [Ez.out]
    by_cases h0 : M.length = 0
    · have h0' : ((M.length : Int) == 0) = true := by simp [h0]
      have H0 := Lib.hid h0
      clear h0
      go_wp2_with fail
      refine (specMax v9 v9.heap.size v9.heap.size _ _ _ _ _ _ xs ys Hxs_84.out Hys_85.out (Nat.le_refl _) (Nat.le_refl _) lxs' lys').mono ?_
      rintro e v12 ⟨a_94, c_95, rfl, ho_93, hb_92⟩
      rw [EM.out] at ho_93 ⊢
      have HP2_96 := Lib.hid ho_93.ints
      clear ho_93
      have hB_97 : Below w.heap.size w v12 := hB_83.trans (hb_92.mono hB_83.size)
      have Hxs_98 := Lib.hid ((Hxs_84.out.below hb_92 (Nat.le_refl _)).more hb_92.size)
      have Hys_99 := Lib.hid ((Hys_85.out.below hb_92 (Nat.le_refl _)).more hb_92.size)
      have HM_100 := Lib.hid ((HM_86.out.below hb_92 (Nat.le_refl _)).more hb_92.size)
      have Hcs_101 := Lib.hid ((Hcs_87.out.below hb_92 (Nat.le_refl _)).more hb_92.size)
      have Hds_102 := Lib.hid ((Hds_88.out.below hb_92 (Nat.le_refl _)).more hb_92.size)
      have HN_103 := Lib.hid ((HN_89.out.below hb_92 (Nat.le_refl _)).more hb_92.size)
      have Hzz_104 := Lib.hid ((Hzz_90.out.below hb_92 (Nat.le_refl _)).more hb_92.size)
      clear hB_83 Hxs_84 Hys_85 HM_86 Hcs_87 Hds_88 HN_89 Hzz_90
      clear hb_92
      go_wp2_with fail
      refine (sameInts v12 _ _ _ _ _ _ _ _ M M HM_100.out HP2_96.out lM' lM').mono ?_
      rintro e v13 ⟨rfl, hS_105⟩
      have hb_106 : Below v12.heap.size v12 v13 := hS_105.below _
      rw [(decide_eq_true rfl : decide (M = M) = true)]
      clear hS_105
      have hB_107 : Below w.heap.size w v13 := hB_97.trans (hb_106.mono hB_97.size)
      have Hxs_108 := Lib.hid ((Hxs_98.out.below hb_106 (Nat.le_refl _)).more hb_106.size)
      have Hys_109 := Lib.hid ((Hys_99.out.below hb_106 (Nat.le_refl _)).more hb_106.size)
      have HM_110 := Lib.hid ((HM_100.out.below hb_106 (Nat.le_refl _)).more hb_106.size)
      have Hcs_111 := Lib.hid ((Hcs_101.out.below hb_106 (Nat.le_refl _)).more hb_106.size)
      have Hds_112 := Lib.hid ((Hds_102.out.below hb_106 (Nat.le_refl _)).more hb_106.size)
      have HN_113 := Lib.hid ((HN_103.out.below hb_106 (Nat.le_refl _)).more hb_106.size)
      have Hzz_114 := Lib.hid ((Hzz_104.out.below hb_106 (Nat.le_refl _)).more hb_106.size)
      have HP2_115 := Lib.hid ((HP2_96.out.below hb_106 (Nat.le_refl _)).more hb_106.size)
      clear hB_97 Hxs_98 Hys_99 HM_100 Hcs_101 Hds_102 HN_103 Hzz_104 HP2_96
      clear hb_106
      go_wp2_with fail
      refine (specMin v13 v13.heap.size v13.heap.size _ _ _ _ _ _ cs ds Hcs_111.out Hds_112.out (Nat.le_refl _) (Nat.le_refl _) lcs' lds').mono ?_
      rintro e v14 ⟨a_118, c_119, rfl, ho_117, hb_116⟩
      rw [EN.out] at ho_117 ⊢
      have HQ2_120 := Lib.hid ho_117.ints
      clear ho_117
      have hB_121 : Below w.heap.size w v14 := hB_107.trans (hb_116.mono hB_107.size)
      have Hxs_122 := Lib.hid ((Hxs_108.out.below hb_116 (Nat.le_refl _)).more hb_116.size)
      have Hys_123 := Lib.hid ((Hys_109.out.below hb_116 (Nat.le_refl _)).more hb_116.size)
      have HM_124 := Lib.hid ((HM_110.out.below hb_116 (Nat.le_refl _)).more hb_116.size)
      have Hcs_125 := Lib.hid ((Hcs_111.out.below hb_116 (Nat.le_refl _)).more hb_116.size)
      have Hds_126 := Lib.hid ((Hds_112.out.below hb_116 (Nat.le_refl _)).more hb_116.size)
      have HN_127 := Lib.hid ((HN_113.out.below hb_116 (Nat.le_refl _)).more hb_116.size)
      have Hzz_128 := Lib.hid ((Hzz_114.out.below hb_116 (Nat.le_refl _)).more hb_116.size)
      clear hB_107 Hxs_108 Hys_109 HM_110 Hcs_111 Hds_112 HN_113 Hzz_114
      clear hb_116
      go_wp2_with fail
      refine (sameInts v14 _ _ _ _ _ _ _ _ N N HN_127.out HQ2_120.out lN' lN').mono ?_
      rintro e v15 ⟨rfl, hS_129⟩
      have hb_130 : Below v14.heap.size v14 v15 := hS_129.below _
      rw [(decide_eq_true rfl : decide (N = N) = true)]
      clear hS_129
      have hB_131 : Below w.heap.size w v15 := hB_121.trans (hb_130.mono hB_121.size)
      have Hxs_132 := Lib.hid ((Hxs_122.out.below hb_130 (Nat.le_refl _)).more hb_130.size)
      have Hys_133 := Lib.hid ((Hys_123.out.below hb_130 (Nat.le_refl _)).more hb_130.size)
      have HM_134 := Lib.hid ((HM_124.out.below hb_130 (Nat.le_refl _)).more hb_130.size)
      have Hcs_135 := Lib.hid ((Hcs_125.out.below hb_130 (Nat.le_refl _)).more hb_130.size)
      have Hds_136 := Lib.hid ((Hds_126.out.below hb_130 (Nat.le_refl _)).more hb_130.size)
      have HN_137 := Lib.hid ((HN_127.out.below hb_130 (Nat.le_refl _)).more hb_130.size)
      have Hzz_138 := Lib.hid ((Hzz_128.out.below hb_130 (Nat.le_refl _)).more hb_130.size)
      have HQ2_139 := Lib.hid ((HQ2_120.out.below hb_130 (Nat.le_refl _)).more hb_130.size)
      clear hB_121 Hxs_122 Hys_123 HM_124 Hcs_125 Hds_126 HN_127 Hzz_128 HQ2_120
      clear hb_130
      go_wp2_with fail
      refine (implVecOk v15 v15.heap.size _ _ _ zz Hzz_138.out lzz').mono ?_
      rintro e v16 ⟨rfl, rfl⟩
      rw [Ez.out]
      go_wp2_with fail
      refine (specVecOk v15 v15.heap.size _ _ _ zz Hzz_138.out lzz').mono ?_
      rintro e v17 ⟨rfl, rfl⟩
      rw [Ez.out]
      go_wp2
      go_ret
      exact ⟨rfl, hB_131⟩
    · have h0' : ((M.length : Int) == 0) = false := by rw [beq_eq_false_iff_ne]; omega
      obtain ⟨hx, hy⟩ := zip_ne (f := max) (xs := xs) (ys := ys) (by rw [EM.out]; exact h0)
      have ⟨U1, U2⟩ := w_up hx hy
      have ⟨D1, D2⟩ := w_down hx hy
      have ⟨C1, C2⟩ := z_comm hx hy
      have ⟨A1, A2⟩ := z_absorb hx hy
      have lL := zip_len4 min xs ys
      obtain ⟨L, qL⟩ : ∃ L, vecZip min xs ys = L := ⟨_, rfl⟩
      rw [qL] at lL
      have EL := Lib.hid qL
      clear qL
      have lL' : L.length ≤ 1048576 := by omega
      rw [EM.out] at U1 U2 C1 A2
      rw [EL.out] at D1 D2 C2 A1
      have KU1 := Lib.hid U1
      have KU2 := Lib.hid U2
      have KD1 := Lib.hid D1
      have KD2 := Lib.hid D2
      have KC1 := Lib.hid C1
      have KC2 := Lib.hid C2
      have KA1 := Lib.hid A1
      have KA2 := Lib.hid A2
      have H0 := Lib.hid h0
      clear U1 U2 D1 D2 C1 C2 A1 A2 hx hy h0
      go_wp2_with fail
      refine (implMin v9 v9.heap.size _ _ _ _ _ _ xs ys Hxs_84.out Hys_85.out (Nat.le_refl _) lxs' lys').mono ?_
      rintro e v12 ⟨a_94, c_95, rfl, ho_93, hb_92⟩
      rw [EL.out] at ho_93 ⊢
      have HL_96 := Lib.hid ho_93.ints
      clear ho_93
      have hB_97 : Below w.heap.size w v12 := hB_83.trans (hb_92.mono hB_83.size)
      have Hxs_98 := Lib.hid ((Hxs_84.out.below hb_92 (Nat.le_refl _)).more hb_92.size)
      have Hys_99 := Lib.hid ((Hys_85.out.below hb_92 (Nat.le_refl _)).more hb_92.size)
      have HM_100 := Lib.hid ((HM_86.out.below hb_92 (Nat.le_refl _)).more hb_92.size)
      have Hcs_101 := Lib.hid ((Hcs_87.out.below hb_92 (Nat.le_refl _)).more hb_92.size)
      have Hds_102 := Lib.hid ((Hds_88.out.below hb_92 (Nat.le_refl _)).more hb_92.size)
      have HN_103 := Lib.hid ((HN_89.out.below hb_92 (Nat.le_refl _)).more hb_92.size)
      have Hzz_104 := Lib.hid ((Hzz_90.out.below hb_92 (Nat.le_refl _)).more hb_92.size)
      clear hB_83 Hxs_84 Hys_85 HM_86 Hcs_87 Hds_88 HN_89 Hzz_90
      clear hb_92
      go_wp2_with fail
      refine (implWithin v12 v12.heap.size _ _ _ _ _ _ xs M Hxs_98.out HM_100.out (Nat.le_refl _) lxs' lM').mono ?_
      rintro e v13 ⟨rfl, hb_105⟩
      rw [KU1.out]
      have hB_106 : Below w.heap.size w v13 := hB_97.trans (hb_105.mono hB_97.size)
      have Hxs_107 := Lib.hid ((Hxs_98.out.below hb_105 (Nat.le_refl _)).more hb_105.size)
      have Hys_108 := Lib.hid ((Hys_99.out.below hb_105 (Nat.le_refl _)).more hb_105.size)
      have HM_109 := Lib.hid ((HM_100.out.below hb_105 (Nat.le_refl _)).more hb_105.size)
      have Hcs_110 := Lib.hid ((Hcs_101.out.below hb_105 (Nat.le_refl _)).more hb_105.size)
      have Hds_111 := Lib.hid ((Hds_102.out.below hb_105 (Nat.le_refl _)).more hb_105.size)
      have HN_112 := Lib.hid ((HN_103.out.below hb_105 (Nat.le_refl _)).more hb_105.size)
      have Hzz_113 := Lib.hid ((Hzz_104.out.below hb_105 (Nat.le_refl _)).more hb_105.size)
      have HL_114 := Lib.hid ((HL_96.out.below hb_105 (Nat.le_refl _)).more hb_105.size)
      clear hB_97 Hxs_98 Hys_99 HM_100 Hcs_101 Hds_102 HN_103 Hzz_104 HL_96
      clear hb_105
      go_wp2_with fail
      refine (implWithin v13 v13.heap.size _ _ _ _ _ _ ys M Hys_108.out HM_109.out (Nat.le_refl _) lys' lM').mono ?_
      rintro e v14 ⟨rfl, hb_115⟩
      rw [KU2.out]
      have hB_116 : Below w.heap.size w v14 := hB_106.trans (hb_115.mono hB_106.size)
      have Hxs_117 := Lib.hid ((Hxs_107.out.below hb_115 (Nat.le_refl _)).more hb_115.size)
      have Hys_118 := Lib.hid ((Hys_108.out.below hb_115 (Nat.le_refl _)).more hb_115.size)
      have HM_119 := Lib.hid ((HM_109.out.below hb_115 (Nat.le_refl _)).more hb_115.size)
      have Hcs_120 := Lib.hid ((Hcs_110.out.below hb_115 (Nat.le_refl _)).more hb_115.size)
      have Hds_121 := Lib.hid ((Hds_111.out.below hb_115 (Nat.le_refl _)).more hb_115.size)
      have HN_122 := Lib.hid ((HN_112.out.below hb_115 (Nat.le_refl _)).more hb_115.size)
      have Hzz_123 := Lib.hid ((Hzz_113.out.below hb_115 (Nat.le_refl _)).more hb_115.size)
      have HL_124 := Lib.hid ((HL_114.out.below hb_115 (Nat.le_refl _)).more hb_115.size)
      clear hB_106 Hxs_107 Hys_108 HM_109 Hcs_110 Hds_111 HN_112 Hzz_113 HL_114
      clear hb_115
      go_wp2_with fail
      refine (implWithin v14 v14.heap.size _ _ _ _ _ _ L xs HL_124.out Hxs_117.out (Nat.le_refl _) lL' lxs').mono ?_
      rintro e v15 ⟨rfl, hb_125⟩
      rw [KD1.out]
      have hB_126 : Below w.heap.size w v15 := hB_116.trans (hb_125.mono hB_116.size)
      have Hxs_127 := Lib.hid ((Hxs_117.out.below hb_125 (Nat.le_refl _)).more hb_125.size)
      have Hys_128 := Lib.hid ((Hys_118.out.below hb_125 (Nat.le_refl _)).more hb_125.size)
      have HM_129 := Lib.hid ((HM_119.out.below hb_125 (Nat.le_refl _)).more hb_125.size)
      have Hcs_130 := Lib.hid ((Hcs_120.out.below hb_125 (Nat.le_refl _)).more hb_125.size)
      have Hds_131 := Lib.hid ((Hds_121.out.below hb_125 (Nat.le_refl _)).more hb_125.size)
      have HN_132 := Lib.hid ((HN_122.out.below hb_125 (Nat.le_refl _)).more hb_125.size)
      have Hzz_133 := Lib.hid ((Hzz_123.out.below hb_125 (Nat.le_refl _)).more hb_125.size)
      have HL_134 := Lib.hid ((HL_124.out.below hb_125 (Nat.le_refl _)).more hb_125.size)
      clear hB_116 Hxs_117 Hys_118 HM_119 Hcs_120 Hds_121 HN_122 Hzz_123 HL_124
      clear hb_125
      go_wp2_with fail
      refine (implWithin v15 v15.heap.size _ _ _ _ _ _ L ys HL_134.out Hys_128.out (Nat.le_refl _) lL' lys').mono ?_
      rintro e v16 ⟨rfl, hb_135⟩
      rw [KD2.out]
      have hB_136 : Below w.heap.size w v16 := hB_126.trans (hb_135.mono hB_126.size)
      have Hxs_137 := Lib.hid ((Hxs_127.out.below hb_135 (Nat.le_refl _)).more hb_135.size)
      have Hys_138 := Lib.hid ((Hys_128.out.below hb_135 (Nat.le_refl _)).more hb_135.size)
      have HM_139 := Lib.hid ((HM_129.out.below hb_135 (Nat.le_refl _)).more hb_135.size)
      have Hcs_140 := Lib.hid ((Hcs_130.out.below hb_135 (Nat.le_refl _)).more hb_135.size)
      have Hds_141 := Lib.hid ((Hds_131.out.below hb_135 (Nat.le_refl _)).more hb_135.size)
      have HN_142 := Lib.hid ((HN_132.out.below hb_135 (Nat.le_refl _)).more hb_135.size)
      have Hzz_143 := Lib.hid ((Hzz_133.out.below hb_135 (Nat.le_refl _)).more hb_135.size)
      have HL_144 := Lib.hid ((HL_134.out.below hb_135 (Nat.le_refl _)).more hb_135.size)
      clear hB_126 Hxs_127 Hys_128 HM_129 Hcs_130 Hds_131 HN_132 Hzz_133 HL_134
      clear hb_135
      go_wp2_with fail
      refine (implMax v16 v16.heap.size _ _ _ _ _ _ ys xs Hys_138.out Hxs_137.out (Nat.le_refl _) lys' lxs').mono ?_
      rintro e v17 ⟨a_147, c_148, rfl, ho_146, hb_145⟩
      rw [KC1.out] at ho_146 ⊢
      have HT1_149 := Lib.hid ho_146.ints
      clear ho_146
      have hB_150 : Below w.heap.size w v17 := hB_136.trans (hb_145.mono hB_136.size)
      have Hxs_151 := Lib.hid ((Hxs_137.out.below hb_145 (Nat.le_refl _)).more hb_145.size)
      have Hys_152 := Lib.hid ((Hys_138.out.below hb_145 (Nat.le_refl _)).more hb_145.size)
      have HM_153 := Lib.hid ((HM_139.out.below hb_145 (Nat.le_refl _)).more hb_145.size)
      have Hcs_154 := Lib.hid ((Hcs_140.out.below hb_145 (Nat.le_refl _)).more hb_145.size)
      have Hds_155 := Lib.hid ((Hds_141.out.below hb_145 (Nat.le_refl _)).more hb_145.size)
      have HN_156 := Lib.hid ((HN_142.out.below hb_145 (Nat.le_refl _)).more hb_145.size)
      have Hzz_157 := Lib.hid ((Hzz_143.out.below hb_145 (Nat.le_refl _)).more hb_145.size)
      have HL_158 := Lib.hid ((HL_144.out.below hb_145 (Nat.le_refl _)).more hb_145.size)
      clear hB_136 Hxs_137 Hys_138 HM_139 Hcs_140 Hds_141 HN_142 Hzz_143 HL_144
      clear hb_145
      go_wp2_with fail
      refine (sameInts v17 _ _ _ _ _ _ _ _ M M HT1_149.out HM_153.out lM' lM').mono ?_
      rintro e v18 ⟨rfl, hS_159⟩
      have hb_160 : Below v17.heap.size v17 v18 := hS_159.below _
      rw [(decide_eq_true rfl : decide (M = M) = true)]
      clear hS_159
      have hB_161 : Below w.heap.size w v18 := hB_150.trans (hb_160.mono hB_150.size)
      have Hxs_162 := Lib.hid ((Hxs_151.out.below hb_160 (Nat.le_refl _)).more hb_160.size)
      have Hys_163 := Lib.hid ((Hys_152.out.below hb_160 (Nat.le_refl _)).more hb_160.size)
      have HM_164 := Lib.hid ((HM_153.out.below hb_160 (Nat.le_refl _)).more hb_160.size)
      have Hcs_165 := Lib.hid ((Hcs_154.out.below hb_160 (Nat.le_refl _)).more hb_160.size)
      have Hds_166 := Lib.hid ((Hds_155.out.below hb_160 (Nat.le_refl _)).more hb_160.size)
      have HN_167 := Lib.hid ((HN_156.out.below hb_160 (Nat.le_refl _)).more hb_160.size)
      have Hzz_168 := Lib.hid ((Hzz_157.out.below hb_160 (Nat.le_refl _)).more hb_160.size)
      have HL_169 := Lib.hid ((HL_158.out.below hb_160 (Nat.le_refl _)).more hb_160.size)
      have HT1_170 := Lib.hid ((HT1_149.out.below hb_160 (Nat.le_refl _)).more hb_160.size)
      clear hB_150 Hxs_151 Hys_152 HM_153 Hcs_154 Hds_155 HN_156 Hzz_157 HL_158 HT1_149
      clear hb_160
      go_wp2_with fail
      refine (implMin v18 v18.heap.size _ _ _ _ _ _ ys xs Hys_163.out Hxs_162.out (Nat.le_refl _) lys' lxs').mono ?_
      rintro e v19 ⟨a_173, c_174, rfl, ho_172, hb_171⟩
      rw [KC2.out] at ho_172 ⊢
      have HT2_175 := Lib.hid ho_172.ints
      clear ho_172
      have hB_176 : Below w.heap.size w v19 := hB_161.trans (hb_171.mono hB_161.size)
      have Hxs_177 := Lib.hid ((Hxs_162.out.below hb_171 (Nat.le_refl _)).more hb_171.size)
      have Hys_178 := Lib.hid ((Hys_163.out.below hb_171 (Nat.le_refl _)).more hb_171.size)
      have HM_179 := Lib.hid ((HM_164.out.below hb_171 (Nat.le_refl _)).more hb_171.size)
      have Hcs_180 := Lib.hid ((Hcs_165.out.below hb_171 (Nat.le_refl _)).more hb_171.size)
      have Hds_181 := Lib.hid ((Hds_166.out.below hb_171 (Nat.le_refl _)).more hb_171.size)
      have HN_182 := Lib.hid ((HN_167.out.below hb_171 (Nat.le_refl _)).more hb_171.size)
      have Hzz_183 := Lib.hid ((Hzz_168.out.below hb_171 (Nat.le_refl _)).more hb_171.size)
      have HL_184 := Lib.hid ((HL_169.out.below hb_171 (Nat.le_refl _)).more hb_171.size)
      clear hB_161 Hxs_162 Hys_163 HM_164 Hcs_165 Hds_166 HN_167 Hzz_168 HL_169
      clear hb_171
      go_wp2_with fail
      refine (sameInts v19 _ _ _ _ _ _ _ _ L L HT2_175.out HL_184.out lL' lL').mono ?_
      rintro e v20 ⟨rfl, hS_185⟩
      have hb_186 : Below v19.heap.size v19 v20 := hS_185.below _
      rw [(decide_eq_true rfl : decide (L = L) = true)]
      clear hS_185
      have hB_187 : Below w.heap.size w v20 := hB_176.trans (hb_186.mono hB_176.size)
      have Hxs_188 := Lib.hid ((Hxs_177.out.below hb_186 (Nat.le_refl _)).more hb_186.size)
      have Hys_189 := Lib.hid ((Hys_178.out.below hb_186 (Nat.le_refl _)).more hb_186.size)
      have HM_190 := Lib.hid ((HM_179.out.below hb_186 (Nat.le_refl _)).more hb_186.size)
      have Hcs_191 := Lib.hid ((Hcs_180.out.below hb_186 (Nat.le_refl _)).more hb_186.size)
      have Hds_192 := Lib.hid ((Hds_181.out.below hb_186 (Nat.le_refl _)).more hb_186.size)
      have HN_193 := Lib.hid ((HN_182.out.below hb_186 (Nat.le_refl _)).more hb_186.size)
      have Hzz_194 := Lib.hid ((Hzz_183.out.below hb_186 (Nat.le_refl _)).more hb_186.size)
      have HL_195 := Lib.hid ((HL_184.out.below hb_186 (Nat.le_refl _)).more hb_186.size)
      have HT2_196 := Lib.hid ((HT2_175.out.below hb_186 (Nat.le_refl _)).more hb_186.size)
      clear hB_176 Hxs_177 Hys_178 HM_179 Hcs_180 Hds_181 HN_182 Hzz_183 HL_184 HT2_175
      clear hb_186
      have lx2 : xs.length ≤ 1048576 := by have := Hxs_188.out.1; omega
      go_wp2_with fail
      refine (implMax v20 v20.heap.size _ _ _ _ _ _ xs L Hxs_188.out HL_195.out (Nat.le_refl _) lxs' lL').mono ?_
      rintro e v21 ⟨a_199, c_200, rfl, ho_198, hb_197⟩
      rw [KA1.out] at ho_198 ⊢
      have HT3_201 := Lib.hid ho_198.ints
      clear ho_198
      have hB_202 : Below w.heap.size w v21 := hB_187.trans (hb_197.mono hB_187.size)
      have Hxs_203 := Lib.hid ((Hxs_188.out.below hb_197 (Nat.le_refl _)).more hb_197.size)
      have Hys_204 := Lib.hid ((Hys_189.out.below hb_197 (Nat.le_refl _)).more hb_197.size)
      have HM_205 := Lib.hid ((HM_190.out.below hb_197 (Nat.le_refl _)).more hb_197.size)
      have Hcs_206 := Lib.hid ((Hcs_191.out.below hb_197 (Nat.le_refl _)).more hb_197.size)
      have Hds_207 := Lib.hid ((Hds_192.out.below hb_197 (Nat.le_refl _)).more hb_197.size)
      have HN_208 := Lib.hid ((HN_193.out.below hb_197 (Nat.le_refl _)).more hb_197.size)
      have Hzz_209 := Lib.hid ((Hzz_194.out.below hb_197 (Nat.le_refl _)).more hb_197.size)
      have HL_210 := Lib.hid ((HL_195.out.below hb_197 (Nat.le_refl _)).more hb_197.size)
      clear hB_187 Hxs_188 Hys_189 HM_190 Hcs_191 Hds_192 HN_193 Hzz_194 HL_195
      clear hb_197
      go_wp2_with fail
      refine (sameInts v21 _ _ _ _ _ _ _ _ xs xs HT3_201.out Hxs_203.out lx2 lxs').mono ?_
      rintro e v22 ⟨rfl, hS_211⟩
      have hb_212 : Below v21.heap.size v21 v22 := hS_211.below _
      rw [(decide_eq_true rfl : decide (xs = xs) = true)]
      clear hS_211
      have hB_213 : Below w.heap.size w v22 := hB_202.trans (hb_212.mono hB_202.size)
      have Hxs_214 := Lib.hid ((Hxs_203.out.below hb_212 (Nat.le_refl _)).more hb_212.size)
      have Hys_215 := Lib.hid ((Hys_204.out.below hb_212 (Nat.le_refl _)).more hb_212.size)
      have HM_216 := Lib.hid ((HM_205.out.below hb_212 (Nat.le_refl _)).more hb_212.size)
      have Hcs_217 := Lib.hid ((Hcs_206.out.below hb_212 (Nat.le_refl _)).more hb_212.size)
      have Hds_218 := Lib.hid ((Hds_207.out.below hb_212 (Nat.le_refl _)).more hb_212.size)
      have HN_219 := Lib.hid ((HN_208.out.below hb_212 (Nat.le_refl _)).more hb_212.size)
      have Hzz_220 := Lib.hid ((Hzz_209.out.below hb_212 (Nat.le_refl _)).more hb_212.size)
      have HL_221 := Lib.hid ((HL_210.out.below hb_212 (Nat.le_refl _)).more hb_212.size)
      have HT3_222 := Lib.hid ((HT3_201.out.below hb_212 (Nat.le_refl _)).more hb_212.size)
      clear hB_202 Hxs_203 Hys_204 HM_205 Hcs_206 Hds_207 HN_208 Hzz_209 HL_210 HT3_201
      clear hb_212
      go_wp2_with fail
      refine (implMin v22 v22.heap.size _ _ _ _ _ _ xs M Hxs_214.out HM_216.out (Nat.le_refl _) lxs' lM').mono ?_
      rintro e v23 ⟨a_225, c_226, rfl, ho_224, hb_223⟩
      rw [KA2.out] at ho_224 ⊢
      have HT4_227 := Lib.hid ho_224.ints
      clear ho_224
      have hB_228 : Below w.heap.size w v23 := hB_213.trans (hb_223.mono hB_213.size)
      have Hxs_229 := Lib.hid ((Hxs_214.out.below hb_223 (Nat.le_refl _)).more hb_223.size)
      have Hys_230 := Lib.hid ((Hys_215.out.below hb_223 (Nat.le_refl _)).more hb_223.size)
      have HM_231 := Lib.hid ((HM_216.out.below hb_223 (Nat.le_refl _)).more hb_223.size)
      have Hcs_232 := Lib.hid ((Hcs_217.out.below hb_223 (Nat.le_refl _)).more hb_223.size)
      have Hds_233 := Lib.hid ((Hds_218.out.below hb_223 (Nat.le_refl _)).more hb_223.size)
      have HN_234 := Lib.hid ((HN_219.out.below hb_223 (Nat.le_refl _)).more hb_223.size)
      have Hzz_235 := Lib.hid ((Hzz_220.out.below hb_223 (Nat.le_refl _)).more hb_223.size)
      have HL_236 := Lib.hid ((HL_221.out.below hb_223 (Nat.le_refl _)).more hb_223.size)
      clear hB_213 Hxs_214 Hys_215 HM_216 Hcs_217 Hds_218 HN_219 Hzz_220 HL_221
      clear hb_223
      go_wp2_with fail
      refine (sameInts v23 _ _ _ _ _ _ _ _ xs xs HT4_227.out Hxs_229.out lx2 lxs').mono ?_
      rintro e v24 ⟨rfl, hS_237⟩
      have hb_238 : Below v23.heap.size v23 v24 := hS_237.below _
      rw [(decide_eq_true rfl : decide (xs = xs) = true)]
      clear hS_237
      have hB_239 : Below w.heap.size w v24 := hB_228.trans (hb_238.mono hB_228.size)
      have Hxs_240 := Lib.hid ((Hxs_229.out.below hb_238 (Nat.le_refl _)).more hb_238.size)
      have Hys_241 := Lib.hid ((Hys_230.out.below hb_238 (Nat.le_refl _)).more hb_238.size)
      have HM_242 := Lib.hid ((HM_231.out.below hb_238 (Nat.le_refl _)).more hb_238.size)
      have Hcs_243 := Lib.hid ((Hcs_232.out.below hb_238 (Nat.le_refl _)).more hb_238.size)
      have Hds_244 := Lib.hid ((Hds_233.out.below hb_238 (Nat.le_refl _)).more hb_238.size)
      have HN_245 := Lib.hid ((HN_234.out.below hb_238 (Nat.le_refl _)).more hb_238.size)
      have Hzz_246 := Lib.hid ((Hzz_235.out.below hb_238 (Nat.le_refl _)).more hb_238.size)
      have HL_247 := Lib.hid ((HL_236.out.below hb_238 (Nat.le_refl _)).more hb_238.size)
      have HT4_248 := Lib.hid ((HT4_227.out.below hb_238 (Nat.le_refl _)).more hb_238.size)
      clear hB_228 Hxs_229 Hys_230 HM_231 Hcs_232 Hds_233 HN_234 Hzz_235 HL_236 HT4_227
      clear hb_238
      go_wp2
      go_ret
      exact ⟨rfl, hB_239⟩
  · go_enter Try.func5, Try.ntmps5
    go_wp2_with fail
    refine (bigYes a len cap hbig w).mono ?_
    rintro e w' ⟨rfl, rfl⟩
    go_wp2
    go_ret
    exact ⟨rfl, Below.refl _ _⟩

set_option maxRecDepth 100000 in
set_option maxHeartbeats 4000000 in
theorem fnVecThreeWalk (a : Option Addr) (len cap : Nat) (zs : List Int) (w : World) (h : IsRow .u8 w a len cap zs) :
    Calls Try.prog 7 #[.slice a len cap] w fun e w' => e = .returned (.bool true) ∧ Below w.heap.size w w' := by
  by_cases hbig : len ≤ 1048576
  · have hsrc := Lib.hid (src_of_row h hbig)
    clear h
    go_enter Try.func7, Try.ntmps7
    go_wp2_with fail
    refine (bigNo a len cap hbig w).mono ?_
    rintro e w' ⟨rfl, rfl⟩
    go_wp2_with fail
    refine (drawVecMax w w.heap.size a len cap (Nat.le_refl _) hsrc.out).mono ?_
    rintro e v1 ⟨axs, nxs, cxs, xs, ays, nys, cys, ys, lxs, lys, rfl, hI_2, hI_3, hb_1⟩
    have lxs' : nxs ≤ 1048576 := by omega
    have lys' : nys ≤ 1048576 := by omega
    have Hxs_4 := Lib.hid hI_2
    have Hys_5 := Lib.hid hI_3
    clear hI_2 hI_3
    have lM := zip_len4 max xs ys
    obtain ⟨M, qM⟩ : ∃ L, vecZip max xs ys = L := ⟨_, rfl⟩
    rw [qM] at lM
    have EM := Lib.hid qM
    clear qM
    have lM' : M.length ≤ 1048576 := by omega
    go_wp2_with fail
    refine (implMax v1 v1.heap.size _ _ _ _ _ _ xs ys Hxs_4.out Hys_5.out (Nat.le_refl _) lxs' lys').mono ?_
    rintro e v2 ⟨a_8, c_9, rfl, ho_7, hb_6⟩
    rw [EM.out] at ho_7 ⊢
    have HM_10 := Lib.hid ho_7.ints
    clear ho_7
    have hB_11 : Below w.heap.size w v2 := hb_1.trans (hb_6.mono hb_1.size)
    have Hxs_12 := Lib.hid ((Hxs_4.out.below hb_6 (Nat.le_refl _)).more hb_6.size)
    have Hys_13 := Lib.hid ((Hys_5.out.below hb_6 (Nat.le_refl _)).more hb_6.size)
    clear hb_1 Hxs_4 Hys_5
    clear hb_6
    go_wp2_with fail
    refine (specMax v2 v2.heap.size v2.heap.size _ _ _ _ _ _ xs ys Hxs_12.out Hys_13.out (Nat.le_refl _) (Nat.le_refl _) lxs' lys').mono ?_
    rintro e v3 ⟨a_16, c_17, rfl, ho_15, hb_14⟩
    rw [EM.out] at ho_15 ⊢
    have HP_18 := Lib.hid ho_15.ints
    clear ho_15
    have hB_19 : Below w.heap.size w v3 := hB_11.trans (hb_14.mono hB_11.size)
    have Hxs_20 := Lib.hid ((Hxs_12.out.below hb_14 (Nat.le_refl _)).more hb_14.size)
    have Hys_21 := Lib.hid ((Hys_13.out.below hb_14 (Nat.le_refl _)).more hb_14.size)
    have HM_22 := Lib.hid ((HM_10.out.below hb_14 (Nat.le_refl _)).more hb_14.size)
    clear hB_11 Hxs_12 Hys_13 HM_10
    clear hb_14
    go_wp2_with fail
    refine (sameInts v3 _ _ _ _ _ _ _ _ M M HM_22.out HP_18.out lM' lM').mono ?_
    rintro e v4 ⟨rfl, hS_23⟩
    have hb_24 : Below v3.heap.size v3 v4 := hS_23.below _
    rw [(decide_eq_true rfl : decide (M = M) = true)]
    clear hS_23
    have hB_25 : Below w.heap.size w v4 := hB_19.trans (hb_24.mono hB_19.size)
    have Hxs_26 := Lib.hid ((Hxs_20.out.below hb_24 (Nat.le_refl _)).more hb_24.size)
    have Hys_27 := Lib.hid ((Hys_21.out.below hb_24 (Nat.le_refl _)).more hb_24.size)
    have HM_28 := Lib.hid ((HM_22.out.below hb_24 (Nat.le_refl _)).more hb_24.size)
    have HP_29 := Lib.hid ((HP_18.out.below hb_24 (Nat.le_refl _)).more hb_24.size)
    clear hB_19 Hxs_20 Hys_21 HM_22 HP_18
    clear hb_24
    by_cases h0 : M.length = 0
    · have h0' : ((M.length : Int) == 0) = true := by simp [h0]
      have H0 := Lib.hid h0
      clear h0
      go_wp2_with fail
      refine (specMax v4 v4.heap.size v4.heap.size _ _ _ _ _ _ xs ys Hxs_26.out Hys_27.out (Nat.le_refl _) (Nat.le_refl _) lxs' lys').mono ?_
      rintro e v5 ⟨a_32, c_33, rfl, ho_31, hb_30⟩
      rw [EM.out] at ho_31 ⊢
      have HP_34 := Lib.hid ho_31.ints
      clear ho_31
      have hB_35 : Below w.heap.size w v5 := hB_25.trans (hb_30.mono hB_25.size)
      have Hxs_36 := Lib.hid ((Hxs_26.out.below hb_30 (Nat.le_refl _)).more hb_30.size)
      have Hys_37 := Lib.hid ((Hys_27.out.below hb_30 (Nat.le_refl _)).more hb_30.size)
      have HM_38 := Lib.hid ((HM_28.out.below hb_30 (Nat.le_refl _)).more hb_30.size)
      clear hB_25 Hxs_26 Hys_27 HM_28
      clear hb_30
      go_wp2_with fail
      refine (sameInts v5 _ _ _ _ _ _ _ _ M M HM_38.out HP_34.out lM' lM').mono ?_
      rintro e v6 ⟨rfl, hS_39⟩
      have hb_40 : Below v5.heap.size v5 v6 := hS_39.below _
      rw [(decide_eq_true rfl : decide (M = M) = true)]
      clear hS_39
      have hB_41 : Below w.heap.size w v6 := hB_35.trans (hb_40.mono hB_35.size)
      have Hxs_42 := Lib.hid ((Hxs_36.out.below hb_40 (Nat.le_refl _)).more hb_40.size)
      have Hys_43 := Lib.hid ((Hys_37.out.below hb_40 (Nat.le_refl _)).more hb_40.size)
      have HM_44 := Lib.hid ((HM_38.out.below hb_40 (Nat.le_refl _)).more hb_40.size)
      have HP_45 := Lib.hid ((HP_34.out.below hb_40 (Nat.le_refl _)).more hb_40.size)
      clear hB_35 Hxs_36 Hys_37 HM_38 HP_34
      clear hb_40
      go_wp2
      go_ret
      exact ⟨rfl, hB_41⟩
    · have h0' : ((M.length : Int) == 0) = false := by rw [beq_eq_false_iff_ne]; omega
      obtain ⟨hx, hy⟩ := zip_ne (f := max) (xs := xs) (ys := ys) (by rw [EM.out]; exact h0)
      have hxl : xs.length = 4 := by obtain ⟨_, _, _, _, e⟩ := four hx; rw [e]; rfl
      obtain rfl : nxs = 4 := by rw [← Hxs_26.out.1]; exact hxl
      have ⟨A1, A2, A3⟩ := z_assoc hx hy (rev_ok hx)
      have HXL := Lib.hid hxl
      clear h0 hx hy hxl
      rw [EM.out] at A1 A3
      obtain ⟨i0, hi, hz0, hz1, hz2⟩ := info_parts Try.infoI64
      have ho0 := Lib.hid (World.ownsRow_made (e := 2) (size := 1) v4 #[] 0 (Nat.le_refl v4.heap.size) (by unfold maxLen; omega) rfl)
      have hb0 := Lib.hid ((Below.refl v4.heap.size v4).alloc (Nat.le_refl _) (.cells #[] 2))
      have KA1 := Lib.hid A1
      have KA2 := Lib.hid A2
      have KA3 := Lib.hid A3
      clear A1 A2 A3
      go_wp2
      go_loopw [6, 7] (fun v i wr => ∃ j : Nat, j ≤ 4 ∧ i = .int .i64 ((j : Int) - 1) ∧ Hid (wr.ownsRow v4.heap.size 2 1 v (4 - j) ((xs.reverse.take (4 - j)).map (Value.int .i64))) ∧ Below v4.heap.size v4 wr) (fun _ i _ => (intOf i + 1).toNat)
      case atStart => exact ⟨4, by omega, rfl, ho0.out, hb0.out⟩
      case round =>
        obtain ⟨j, hj, rfl, HO, hbr⟩ := hrel
        have hs := hbr.size
        by_cases hlt : 0 < j
        · obtain ⟨m, rfl⟩ : ∃ m, j = m + 1 := ⟨j - 1, by omega⟩
          have em : (((m + 1 : Nat) : Int) - 1) = (m : Int) := by omega
          rw [em]
          clear em
          obtain ⟨b, off, ea, hb, c1⟩ := Hxs_26.out.2 m (by omega)
          cases ea
          have c1' := (hbr.cell (p := ⟨b, off + m, none⟩) hb).trans c1
          obtain ⟨x, hx⟩ : ∃ x, x = xs.getD m 0 := ⟨_, rfl⟩
          rw [← hx] at c1'
          have HZ : Hid (xs.reverse.take (4 - m) = xs.reverse.take (4 - (m + 1)) ++ [x]) := by rw [hx]; exact rev_take HXL.out (by omega)
          have hmi : (m : Int) < 4 := by omega
          clear hx c1
          go_wp2_with (at_builtin; refine wpList_append_own _ rfl _ _ 22 rfl v4.heap.size 2 i0 (.int .i64 0) 1 8 Try.underlying22 hi hz0 hz1 hz2 rfl (by decide) _ _ _ rfl (HO.out.alloc _) ⟨wr.heap.size, 0, none⟩ 1 1 [.int .i64 x] rfl rfl ?c1 ?c2 ?c3 ?c4 ?c5 ?_)
          case c1 =>
            intro j u hj'
            match j, hj' with
            | 0, hj' => simp at hj'; subst hj'; simp [Addr.add]
          case c2 => intro u hu; simp at hu; subst hu; rfl
          case c3 => unfold maxLen; omega
          case c4 => omega
          case c5 => simp; omega
          intro v' w9 hown9 hgrow9 _
          have HO9 := Lib.hid (p := w9.ownsRow v4.heap.size 2 1 v' (4 - m) ((xs.reverse.take (4 - m)).map (Value.int .i64))) (by rw [HZ.out, show 4 - m = 4 - (m + 1) + 1 by omega]; simpa using hown9)
          have hb9 := (hbr.alloc hs _).grown hgrow9 (by simp; omega) (fun j hj' => (HO.out.lt j hj').1)
          clear hown9 hgrow9
          go_wp2
          go_roundw
          case rel => exact ⟨m, by omega, rfl, HO9, hb9⟩
          case measure => simp [intOf]
        · obtain rfl : j = 0 := by omega
          have ho := HO.out
          rw [List.take_of_length_le (by rw [List.length_reverse, HXL.out]; omega)] at ho
          obtain ⟨g, cc, hv, _, _⟩ := ho.form (by omega)
          subst hv
          have HC := Lib.hid (own_of_row (hi := wr.heap.size) ho (Nat.le_refl _)).ints
          clear ho
          obtain ⟨C, qC⟩ : ∃ C, xs.reverse = C := ⟨_, rfl⟩
          rw [qC] at HC HO KA1 KA2 KA3
          clear qC
          have lC' : 4 - 0 ≤ 1048576 := by omega
          have hB_30 : Below w.heap.size w wr := hB_25.trans (hbr.mono hB_25.size)
          have Hxs_31 := Lib.hid ((Hxs_26.out.below hbr (Nat.le_refl _)).more hbr.size)
          have Hys_32 := Lib.hid ((Hys_27.out.below hbr (Nat.le_refl _)).more hbr.size)
          have HM_33 := Lib.hid ((HM_28.out.below hbr (Nat.le_refl _)).more hbr.size)
          clear hB_25 Hxs_26 Hys_27 HM_28
          clear hbr
          have lT1 := zip_len4 max M C
          obtain ⟨T1, qT1⟩ : ∃ L, vecZip max M C = L := ⟨_, rfl⟩
          rw [qT1] at lT1
          have ET1 := Lib.hid qT1
          clear qT1
          have lT1' : T1.length ≤ 1048576 := by omega
          go_wp2_with fail
          refine (implMax wr wr.heap.size _ _ _ _ _ _ M C HM_33.out HC.out (Nat.le_refl _) lM' lC').mono ?_
          rintro e v5 ⟨a_36, c_37, rfl, ho_35, hb_34⟩
          rw [ET1.out] at ho_35 ⊢
          have HT1_38 := Lib.hid ho_35.ints
          clear ho_35
          have hB_39 : Below w.heap.size w v5 := hB_30.trans (hb_34.mono hB_30.size)
          have Hxs_40 := Lib.hid ((Hxs_31.out.below hb_34 (Nat.le_refl _)).more hb_34.size)
          have Hys_41 := Lib.hid ((Hys_32.out.below hb_34 (Nat.le_refl _)).more hb_34.size)
          have HM_42 := Lib.hid ((HM_33.out.below hb_34 (Nat.le_refl _)).more hb_34.size)
          have HC_43 := Lib.hid ((HC.out.below hb_34 (Nat.le_refl _)).more hb_34.size)
          clear hB_30 Hxs_31 Hys_32 HM_33 HC
          clear hb_34
          have lT2 := zip_len4 max ys C
          obtain ⟨T2, qT2⟩ : ∃ L, vecZip max ys C = L := ⟨_, rfl⟩
          rw [qT2] at lT2
          have ET2 := Lib.hid qT2
          clear qT2
          have lT2' : T2.length ≤ 1048576 := by omega
          go_wp2_with fail
          refine (implMax v5 v5.heap.size _ _ _ _ _ _ ys C Hys_41.out HC_43.out (Nat.le_refl _) lys' lC').mono ?_
          rintro e v6 ⟨a_46, c_47, rfl, ho_45, hb_44⟩
          rw [ET2.out] at ho_45 ⊢
          have HT2_48 := Lib.hid ho_45.ints
          clear ho_45
          have hB_49 : Below w.heap.size w v6 := hB_39.trans (hb_44.mono hB_39.size)
          have Hxs_50 := Lib.hid ((Hxs_40.out.below hb_44 (Nat.le_refl _)).more hb_44.size)
          have Hys_51 := Lib.hid ((Hys_41.out.below hb_44 (Nat.le_refl _)).more hb_44.size)
          have HM_52 := Lib.hid ((HM_42.out.below hb_44 (Nat.le_refl _)).more hb_44.size)
          have HC_53 := Lib.hid ((HC_43.out.below hb_44 (Nat.le_refl _)).more hb_44.size)
          have HT1_54 := Lib.hid ((HT1_38.out.below hb_44 (Nat.le_refl _)).more hb_44.size)
          clear hB_39 Hxs_40 Hys_41 HM_42 HC_43 HT1_38
          clear hb_44
          have lT3 := zip_len4 max xs T2
          obtain ⟨T3, qT3⟩ : ∃ L, vecZip max xs T2 = L := ⟨_, rfl⟩
          rw [qT3] at lT3
          have ET3 := Lib.hid qT3
          clear qT3
          have lT3' : T3.length ≤ 1048576 := by omega
          go_wp2_with fail
          refine (implMax v6 v6.heap.size _ _ _ _ _ _ xs T2 Hxs_50.out HT2_48.out (Nat.le_refl _) lxs' lT2').mono ?_
          rintro e v7 ⟨a_57, c_58, rfl, ho_56, hb_55⟩
          rw [ET3.out] at ho_56 ⊢
          have HT3_59 := Lib.hid ho_56.ints
          clear ho_56
          have hB_60 : Below w.heap.size w v7 := hB_49.trans (hb_55.mono hB_49.size)
          have Hxs_61 := Lib.hid ((Hxs_50.out.below hb_55 (Nat.le_refl _)).more hb_55.size)
          have Hys_62 := Lib.hid ((Hys_51.out.below hb_55 (Nat.le_refl _)).more hb_55.size)
          have HM_63 := Lib.hid ((HM_52.out.below hb_55 (Nat.le_refl _)).more hb_55.size)
          have HC_64 := Lib.hid ((HC_53.out.below hb_55 (Nat.le_refl _)).more hb_55.size)
          have HT1_65 := Lib.hid ((HT1_54.out.below hb_55 (Nat.le_refl _)).more hb_55.size)
          have HT2_66 := Lib.hid ((HT2_48.out.below hb_55 (Nat.le_refl _)).more hb_55.size)
          clear hB_49 Hxs_50 Hys_51 HM_52 HC_53 HT1_54 HT2_48
          clear hb_55
          have Q1 : Hid (decide (T1 = T3) = true) := decide_eq_true (by rw [← ET1.out, KA1.out, ET2.out, ET3.out])
          go_wp2_with fail
          refine (sameInts v7 _ _ _ _ _ _ _ _ T1 T3 HT1_65.out HT3_59.out lT1' lT3').mono ?_
          rintro e v8 ⟨rfl, hS_67⟩
          have hb_68 : Below v7.heap.size v7 v8 := hS_67.below _
          rw [Q1.out]
          clear hS_67
          have hB_69 : Below w.heap.size w v8 := hB_60.trans (hb_68.mono hB_60.size)
          have Hxs_70 := Lib.hid ((Hxs_61.out.below hb_68 (Nat.le_refl _)).more hb_68.size)
          have Hys_71 := Lib.hid ((Hys_62.out.below hb_68 (Nat.le_refl _)).more hb_68.size)
          have HM_72 := Lib.hid ((HM_63.out.below hb_68 (Nat.le_refl _)).more hb_68.size)
          have HC_73 := Lib.hid ((HC_64.out.below hb_68 (Nat.le_refl _)).more hb_68.size)
          have HT1_74 := Lib.hid ((HT1_65.out.below hb_68 (Nat.le_refl _)).more hb_68.size)
          have HT2_75 := Lib.hid ((HT2_66.out.below hb_68 (Nat.le_refl _)).more hb_68.size)
          have HT3_76 := Lib.hid ((HT3_59.out.below hb_68 (Nat.le_refl _)).more hb_68.size)
          clear hB_60 Hxs_61 Hys_62 HM_63 HC_64 HT1_65 HT2_66 HT3_59
          clear hb_68
          have lT4 := zip_len4 min xs ys
          obtain ⟨T4, qT4⟩ : ∃ L, vecZip min xs ys = L := ⟨_, rfl⟩
          rw [qT4] at lT4
          have ET4 := Lib.hid qT4
          clear qT4
          have lT4' : T4.length ≤ 1048576 := by omega
          go_wp2_with fail
          refine (implMin v8 v8.heap.size _ _ _ _ _ _ xs ys Hxs_70.out Hys_71.out (Nat.le_refl _) lxs' lys').mono ?_
          rintro e v9 ⟨a_79, c_80, rfl, ho_78, hb_77⟩
          rw [ET4.out] at ho_78 ⊢
          have HT4_81 := Lib.hid ho_78.ints
          clear ho_78
          have hB_82 : Below w.heap.size w v9 := hB_69.trans (hb_77.mono hB_69.size)
          have Hxs_83 := Lib.hid ((Hxs_70.out.below hb_77 (Nat.le_refl _)).more hb_77.size)
          have Hys_84 := Lib.hid ((Hys_71.out.below hb_77 (Nat.le_refl _)).more hb_77.size)
          have HM_85 := Lib.hid ((HM_72.out.below hb_77 (Nat.le_refl _)).more hb_77.size)
          have HC_86 := Lib.hid ((HC_73.out.below hb_77 (Nat.le_refl _)).more hb_77.size)
          clear hB_69 Hxs_70 Hys_71 HM_72 HC_73
          clear hb_77
          have lT5 := zip_len4 min T4 C
          obtain ⟨T5, qT5⟩ : ∃ L, vecZip min T4 C = L := ⟨_, rfl⟩
          rw [qT5] at lT5
          have ET5 := Lib.hid qT5
          clear qT5
          have lT5' : T5.length ≤ 1048576 := by omega
          go_wp2_with fail
          refine (implMin v9 v9.heap.size _ _ _ _ _ _ T4 C HT4_81.out HC_86.out (Nat.le_refl _) lT4' lC').mono ?_
          rintro e v10 ⟨a_89, c_90, rfl, ho_88, hb_87⟩
          rw [ET5.out] at ho_88 ⊢
          have HT5_91 := Lib.hid ho_88.ints
          clear ho_88
          have hB_92 : Below w.heap.size w v10 := hB_82.trans (hb_87.mono hB_82.size)
          have Hxs_93 := Lib.hid ((Hxs_83.out.below hb_87 (Nat.le_refl _)).more hb_87.size)
          have Hys_94 := Lib.hid ((Hys_84.out.below hb_87 (Nat.le_refl _)).more hb_87.size)
          have HM_95 := Lib.hid ((HM_85.out.below hb_87 (Nat.le_refl _)).more hb_87.size)
          have HC_96 := Lib.hid ((HC_86.out.below hb_87 (Nat.le_refl _)).more hb_87.size)
          have HT4_97 := Lib.hid ((HT4_81.out.below hb_87 (Nat.le_refl _)).more hb_87.size)
          clear hB_82 Hxs_83 Hys_84 HM_85 HC_86 HT4_81
          clear hb_87
          have lT6 := zip_len4 min ys C
          obtain ⟨T6, qT6⟩ : ∃ L, vecZip min ys C = L := ⟨_, rfl⟩
          rw [qT6] at lT6
          have ET6 := Lib.hid qT6
          clear qT6
          have lT6' : T6.length ≤ 1048576 := by omega
          go_wp2_with fail
          refine (implMin v10 v10.heap.size _ _ _ _ _ _ ys C Hys_94.out HC_96.out (Nat.le_refl _) lys' lC').mono ?_
          rintro e v11 ⟨a_100, c_101, rfl, ho_99, hb_98⟩
          rw [ET6.out] at ho_99 ⊢
          have HT6_102 := Lib.hid ho_99.ints
          clear ho_99
          have hB_103 : Below w.heap.size w v11 := hB_92.trans (hb_98.mono hB_92.size)
          have Hxs_104 := Lib.hid ((Hxs_93.out.below hb_98 (Nat.le_refl _)).more hb_98.size)
          have Hys_105 := Lib.hid ((Hys_94.out.below hb_98 (Nat.le_refl _)).more hb_98.size)
          have HM_106 := Lib.hid ((HM_95.out.below hb_98 (Nat.le_refl _)).more hb_98.size)
          have HC_107 := Lib.hid ((HC_96.out.below hb_98 (Nat.le_refl _)).more hb_98.size)
          have HT4_108 := Lib.hid ((HT4_97.out.below hb_98 (Nat.le_refl _)).more hb_98.size)
          have HT5_109 := Lib.hid ((HT5_91.out.below hb_98 (Nat.le_refl _)).more hb_98.size)
          clear hB_92 Hxs_93 Hys_94 HM_95 HC_96 HT4_97 HT5_91
          clear hb_98
          have lT7 := zip_len4 min xs T6
          obtain ⟨T7, qT7⟩ : ∃ L, vecZip min xs T6 = L := ⟨_, rfl⟩
          rw [qT7] at lT7
          have ET7 := Lib.hid qT7
          clear qT7
          have lT7' : T7.length ≤ 1048576 := by omega
          go_wp2_with fail
          refine (implMin v11 v11.heap.size _ _ _ _ _ _ xs T6 Hxs_104.out HT6_102.out (Nat.le_refl _) lxs' lT6').mono ?_
          rintro e v12 ⟨a_112, c_113, rfl, ho_111, hb_110⟩
          rw [ET7.out] at ho_111 ⊢
          have HT7_114 := Lib.hid ho_111.ints
          clear ho_111
          have hB_115 : Below w.heap.size w v12 := hB_103.trans (hb_110.mono hB_103.size)
          have Hxs_116 := Lib.hid ((Hxs_104.out.below hb_110 (Nat.le_refl _)).more hb_110.size)
          have Hys_117 := Lib.hid ((Hys_105.out.below hb_110 (Nat.le_refl _)).more hb_110.size)
          have HM_118 := Lib.hid ((HM_106.out.below hb_110 (Nat.le_refl _)).more hb_110.size)
          have HC_119 := Lib.hid ((HC_107.out.below hb_110 (Nat.le_refl _)).more hb_110.size)
          have HT4_120 := Lib.hid ((HT4_108.out.below hb_110 (Nat.le_refl _)).more hb_110.size)
          have HT5_121 := Lib.hid ((HT5_109.out.below hb_110 (Nat.le_refl _)).more hb_110.size)
          have HT6_122 := Lib.hid ((HT6_102.out.below hb_110 (Nat.le_refl _)).more hb_110.size)
          clear hB_103 Hxs_104 Hys_105 HM_106 HC_107 HT4_108 HT5_109 HT6_102
          clear hb_110
          have Q2 : Hid (decide (T5 = T7) = true) := decide_eq_true (by rw [← ET5.out, ← ET4.out, KA2.out, ET6.out, ET7.out])
          go_wp2_with fail
          refine (sameInts v12 _ _ _ _ _ _ _ _ T5 T7 HT5_121.out HT7_114.out lT5' lT7').mono ?_
          rintro e v13 ⟨rfl, hS_123⟩
          have hb_124 : Below v12.heap.size v12 v13 := hS_123.below _
          rw [Q2.out]
          clear hS_123
          have hB_125 : Below w.heap.size w v13 := hB_115.trans (hb_124.mono hB_115.size)
          have Hxs_126 := Lib.hid ((Hxs_116.out.below hb_124 (Nat.le_refl _)).more hb_124.size)
          have Hys_127 := Lib.hid ((Hys_117.out.below hb_124 (Nat.le_refl _)).more hb_124.size)
          have HM_128 := Lib.hid ((HM_118.out.below hb_124 (Nat.le_refl _)).more hb_124.size)
          have HC_129 := Lib.hid ((HC_119.out.below hb_124 (Nat.le_refl _)).more hb_124.size)
          have HT4_130 := Lib.hid ((HT4_120.out.below hb_124 (Nat.le_refl _)).more hb_124.size)
          have HT5_131 := Lib.hid ((HT5_121.out.below hb_124 (Nat.le_refl _)).more hb_124.size)
          have HT6_132 := Lib.hid ((HT6_122.out.below hb_124 (Nat.le_refl _)).more hb_124.size)
          have HT7_133 := Lib.hid ((HT7_114.out.below hb_124 (Nat.le_refl _)).more hb_124.size)
          clear hB_115 Hxs_116 Hys_117 HM_118 HC_119 HT4_120 HT5_121 HT6_122 HT7_114
          clear hb_124
          have lT8 := zip_len4 min M C
          obtain ⟨T8, qT8⟩ : ∃ L, vecZip min M C = L := ⟨_, rfl⟩
          rw [qT8] at lT8
          have ET8 := Lib.hid qT8
          clear qT8
          have lT8' : T8.length ≤ 1048576 := by omega
          go_wp2_with fail
          refine (implMin v13 v13.heap.size _ _ _ _ _ _ M C HM_128.out HC_129.out (Nat.le_refl _) lM' lC').mono ?_
          rintro e v14 ⟨a_136, c_137, rfl, ho_135, hb_134⟩
          rw [ET8.out] at ho_135 ⊢
          have HT8_138 := Lib.hid ho_135.ints
          clear ho_135
          have hB_139 : Below w.heap.size w v14 := hB_125.trans (hb_134.mono hB_125.size)
          have Hxs_140 := Lib.hid ((Hxs_126.out.below hb_134 (Nat.le_refl _)).more hb_134.size)
          have Hys_141 := Lib.hid ((Hys_127.out.below hb_134 (Nat.le_refl _)).more hb_134.size)
          have HM_142 := Lib.hid ((HM_128.out.below hb_134 (Nat.le_refl _)).more hb_134.size)
          have HC_143 := Lib.hid ((HC_129.out.below hb_134 (Nat.le_refl _)).more hb_134.size)
          clear hB_125 Hxs_126 Hys_127 HM_128 HC_129
          clear hb_134
          have lT9 := zip_len4 min xs C
          obtain ⟨T9, qT9⟩ : ∃ L, vecZip min xs C = L := ⟨_, rfl⟩
          rw [qT9] at lT9
          have ET9 := Lib.hid qT9
          clear qT9
          have lT9' : T9.length ≤ 1048576 := by omega
          go_wp2_with fail
          refine (implMin v14 v14.heap.size _ _ _ _ _ _ xs C Hxs_140.out HC_143.out (Nat.le_refl _) lxs' lC').mono ?_
          rintro e v15 ⟨a_146, c_147, rfl, ho_145, hb_144⟩
          rw [ET9.out] at ho_145 ⊢
          have HT9_148 := Lib.hid ho_145.ints
          clear ho_145
          have hB_149 : Below w.heap.size w v15 := hB_139.trans (hb_144.mono hB_139.size)
          have Hxs_150 := Lib.hid ((Hxs_140.out.below hb_144 (Nat.le_refl _)).more hb_144.size)
          have Hys_151 := Lib.hid ((Hys_141.out.below hb_144 (Nat.le_refl _)).more hb_144.size)
          have HM_152 := Lib.hid ((HM_142.out.below hb_144 (Nat.le_refl _)).more hb_144.size)
          have HC_153 := Lib.hid ((HC_143.out.below hb_144 (Nat.le_refl _)).more hb_144.size)
          have HT8_154 := Lib.hid ((HT8_138.out.below hb_144 (Nat.le_refl _)).more hb_144.size)
          clear hB_139 Hxs_140 Hys_141 HM_142 HC_143 HT8_138
          clear hb_144
          go_wp2_with fail
          refine (implMin v15 v15.heap.size _ _ _ _ _ _ ys C Hys_151.out HC_153.out (Nat.le_refl _) lys' lC').mono ?_
          rintro e v16 ⟨a_157, c_158, rfl, ho_156, hb_155⟩
          rw [ET6.out] at ho_156 ⊢
          have HT10_159 := Lib.hid ho_156.ints
          clear ho_156
          have hB_160 : Below w.heap.size w v16 := hB_149.trans (hb_155.mono hB_149.size)
          have Hxs_161 := Lib.hid ((Hxs_150.out.below hb_155 (Nat.le_refl _)).more hb_155.size)
          have Hys_162 := Lib.hid ((Hys_151.out.below hb_155 (Nat.le_refl _)).more hb_155.size)
          have HM_163 := Lib.hid ((HM_152.out.below hb_155 (Nat.le_refl _)).more hb_155.size)
          have HC_164 := Lib.hid ((HC_153.out.below hb_155 (Nat.le_refl _)).more hb_155.size)
          have HT8_165 := Lib.hid ((HT8_154.out.below hb_155 (Nat.le_refl _)).more hb_155.size)
          have HT9_166 := Lib.hid ((HT9_148.out.below hb_155 (Nat.le_refl _)).more hb_155.size)
          clear hB_149 Hxs_150 Hys_151 HM_152 HC_153 HT8_154 HT9_148
          clear hb_155
          have lT11 := zip_len4 max T9 T6
          obtain ⟨T11, qT11⟩ : ∃ L, vecZip max T9 T6 = L := ⟨_, rfl⟩
          rw [qT11] at lT11
          have ET11 := Lib.hid qT11
          clear qT11
          have lT11' : T11.length ≤ 1048576 := by omega
          go_wp2_with fail
          refine (implMax v16 v16.heap.size _ _ _ _ _ _ T9 T6 HT9_166.out HT10_159.out (Nat.le_refl _) lT9' lT6').mono ?_
          rintro e v17 ⟨a_169, c_170, rfl, ho_168, hb_167⟩
          rw [ET11.out] at ho_168 ⊢
          have HT11_171 := Lib.hid ho_168.ints
          clear ho_168
          have hB_172 : Below w.heap.size w v17 := hB_160.trans (hb_167.mono hB_160.size)
          have Hxs_173 := Lib.hid ((Hxs_161.out.below hb_167 (Nat.le_refl _)).more hb_167.size)
          have Hys_174 := Lib.hid ((Hys_162.out.below hb_167 (Nat.le_refl _)).more hb_167.size)
          have HM_175 := Lib.hid ((HM_163.out.below hb_167 (Nat.le_refl _)).more hb_167.size)
          have HC_176 := Lib.hid ((HC_164.out.below hb_167 (Nat.le_refl _)).more hb_167.size)
          have HT8_177 := Lib.hid ((HT8_165.out.below hb_167 (Nat.le_refl _)).more hb_167.size)
          have HT9_178 := Lib.hid ((HT9_166.out.below hb_167 (Nat.le_refl _)).more hb_167.size)
          have HT10_179 := Lib.hid ((HT10_159.out.below hb_167 (Nat.le_refl _)).more hb_167.size)
          clear hB_160 Hxs_161 Hys_162 HM_163 HC_164 HT8_165 HT9_166 HT10_159
          clear hb_167
          have Q3 : Hid (decide (T8 = T11) = true) := decide_eq_true (by rw [← ET8.out, KA3.out, ET9.out, ET6.out, ET11.out])
          go_wp2_with fail
          refine (sameInts v17 _ _ _ _ _ _ _ _ T8 T11 HT8_177.out HT11_171.out lT8' lT11').mono ?_
          rintro e v18 ⟨rfl, hS_180⟩
          have hb_181 : Below v17.heap.size v17 v18 := hS_180.below _
          rw [Q3.out]
          clear hS_180
          have hB_182 : Below w.heap.size w v18 := hB_172.trans (hb_181.mono hB_172.size)
          have Hxs_183 := Lib.hid ((Hxs_173.out.below hb_181 (Nat.le_refl _)).more hb_181.size)
          have Hys_184 := Lib.hid ((Hys_174.out.below hb_181 (Nat.le_refl _)).more hb_181.size)
          have HM_185 := Lib.hid ((HM_175.out.below hb_181 (Nat.le_refl _)).more hb_181.size)
          have HC_186 := Lib.hid ((HC_176.out.below hb_181 (Nat.le_refl _)).more hb_181.size)
          have HT8_187 := Lib.hid ((HT8_177.out.below hb_181 (Nat.le_refl _)).more hb_181.size)
          have HT9_188 := Lib.hid ((HT9_178.out.below hb_181 (Nat.le_refl _)).more hb_181.size)
          have HT10_189 := Lib.hid ((HT10_179.out.below hb_181 (Nat.le_refl _)).more hb_181.size)
          have HT11_190 := Lib.hid ((HT11_171.out.below hb_181 (Nat.le_refl _)).more hb_181.size)
          clear hB_172 Hxs_173 Hys_174 HM_175 HC_176 HT8_177 HT9_178 HT10_179 HT11_171
          clear hb_181
          go_wp2
          go_ret
          exact ⟨rfl, hB_182⟩
  · go_enter Try.func7, Try.ntmps7
    go_wp2_with fail
    refine (bigYes a len cap hbig w).mono ?_
    rintro e w' ⟨rfl, rfl⟩
    go_wp2
    go_ret
    exact ⟨rfl, Below.refl _ _⟩

end Go.Proofs.Ytjmilgijdfibbab
