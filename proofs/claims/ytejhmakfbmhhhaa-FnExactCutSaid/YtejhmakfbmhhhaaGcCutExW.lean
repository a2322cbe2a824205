/- The walk of the law FnExactCut. -/
import Derived.Test.YtejhmakfbmhhhaaGc22
import Derived.Test.YtejhmakfbmhhhaaGc17
import Derived.Test.YtejhmakfbmhhhaaGc13
import Derived.Test.YtejhmakfbmhhhaaGc14
import Derived.Deep.Cut
import Derived.Deep.RegionHeld3
namespace Go.Proofs.Ytejhmakfbmhhhaa
open Go.RowKit


set_option maxRecDepth 100000 in
set_option maxHeartbeats 1000000 in
theorem markCartM (w : World) (lo mid hi : Nat) (av ao : Option Addr) (nv cv no co : Nat) (xs : List Int) (l : List OpV) (hx : Own w lo mid av nv xs) (h : OwnOps w mid hi ao no l) (h1 : lo ≤ mid) (h2 : mid ≤ hi) (hh : hi ≤ w.heap.size) (hv : nv ≤ 1048576) (hn : no ≤ 1048576) (k : Nat) (hk0 : 0 < k) (hk : k ≤ 9000000) :
    Calls Try.prog 27 #[.agg #[.slice av nv cv, .slice ao no co], .int .i64 (k : Int)] w fun e w' => (∃ m : Nat, Hid (m = k + nv + 8 * no) ∧ e = .returned (.int .i64 (m : Int))) ∧ Own w' lo mid av nv (marks k nv) ∧ OwnOps w' mid hi ao no (opMarks (k + nv) no) ∧ Beside lo hi w w' := by
  have hb0 : Below w.heap.size w (w.alloc (.cells #[.slice av nv cv, .slice ao no co] 31)) := (Below.refl _ w).alloc (Nat.le_refl _) _
  have HV := Lib.hid (hx.below hb0 (by omega))
  have HO := Lib.hid (h.below hb0 hh)
  have HB : Hid (Beside lo hi w (w.alloc (.cells #[.slice av nv cv, .slice ao no co] 31))) := Below.beside hb0
  have HX := Lib.hid (boxAt (Below.refl _ (w.alloc (.cells #[.slice av nv cv, .slice ao no co] 31))))
  have hsz : w.heap.size < (w.alloc (.cells #[.slice av nv cv, .slice ao no co] 31)).heap.size := by show _ < (w.heap.push _).size; simp
  clear hx h hb0
  go_enter Try.func27, Try.ntmps27
  go_wp2_with fail
  generalize w.alloc (.cells #[.slice av nv cv, .slice ao no co] 31) = w0 at HV HO HB HX hsz ⊢
  refine (mark w0 lo mid av nv cv xs HV.out k (by omega) hv).mono ?_
  rintro e w1 ⟨⟨m, hm, rfl⟩, ho, hO⟩
  have HO1 : Hid (OwnOps w1 mid hi ao no l) := HO.out.kept fun j h1 h2 => hO.block j (by omega)
  have HX1 := Lib.hid ((hO.block _ (.inr (by omega))).trans HX.out)
  have HB1 := Lib.hid (HB.out.trans (hO.beside.wide (Nat.le_refl _) h2))
  have hs1 : w.heap.size < w1.heap.size := by have := hO.size; omega
  have hmb : 0 < m ∧ m ≤ 10048577 := by omega
  obtain ⟨hm0, hm1⟩ := hmb
  have HMm := Lib.hid hm
  have HV1 := Lib.hid ho
  clear ho hO HX HV HO HB hm
  obtain ⟨c0, c1⟩ := pair_cells HX1.out
  go_wp2_with fail
  refine (markOps w1 mid hi ao no co l HO1.out m hm0 (by omega) hn).mono ?_
  rintro e w2 ⟨⟨m2, hm2, rfl⟩, ho2, hO⟩
  have HV2 : Hid (Own w2 lo mid av nv (marks k nv)) := HV1.out.kept fun j h1 h2 => hO.block j (by omega) (.inl h2)
  have HP2 : Hid (OwnOps w2 mid hi ao no (opMarks (k + nv) no)) := by
    have e : k + nv = m := by have := HMm.out; omega
    rw [e]
    exact ho2
  have HB2 := Lib.hid (HB1.out.trans (hO.wide h1 (Nat.le_refl _)))
  have hm2' : Hid (m2 = k + nv + 8 * no) := by have := HMm.out; show _ = _; omega
  clear hO c0 c1 HX1 HB1 HO1 hm2 HMm HV1 ho2
  go_wp2
  go_ret
  exact ⟨⟨m2, hm2', rfl⟩, HV2.out, HP2.out, HB2.out⟩

set_option maxRecDepth 100000 in
set_option maxHeartbeats 1000000 in
theorem heldCart (w : World) (B : Nat) (av ao : Option Addr) (nv cv no co k : Nat) (hx : Ints w B av nv (marks k nv)) (h : Ops w B ao no (opMarks (k + nv) no)) (hB : B ≤ w.heap.size) (hv : nv ≤ 1048576) (hn : no ≤ 1048576) (hk0 : 0 < k) (hk : k ≤ 1000000) :
    Calls Try.prog 29 #[.agg #[.slice av nv cv, .slice ao no co], .int .i64 (k : Int)] w fun e w' => e = .returned (.int .i64 ((k + nv + 8 * no : Nat) : Int)) ∧ Below w.heap.size w w' := by
  have hb0 : Below w.heap.size w (w.alloc (.cells #[.slice av nv cv, .slice ao no co] 31)) := (Below.refl _ w).alloc (Nat.le_refl _) _
  have HV := Lib.hid (hx.below hb0 hB)
  have HO := Lib.hid (h.below hb0 hB)
  have HB := Lib.hid hb0
  have HX := Lib.hid (boxAt (Below.refl _ (w.alloc (.cells #[.slice av nv cv, .slice ao no co] 31))))
  have hsz : w.heap.size < (w.alloc (.cells #[.slice av nv cv, .slice ao no co] 31)).heap.size := by show _ < (w.heap.push _).size; simp
  have hBw := hB
  clear hx h hb0 hB
  go_enter Try.func29, Try.ntmps29
  go_wp2_with fail
  generalize w.alloc (.cells #[.slice av nv cv, .slice ao no co] 31) = w0 at HV HO HB HX hsz ⊢
  refine (held w0 B av nv cv k HV.out (by omega) hv).mono ?_
  rintro e w1 ⟨rfl, rfl⟩
  have hk1 : 0 < k + nv := by omega
  have hk2 : k + nv ≤ 20000000 := by omega
  have hd1 : ¬ (((k + nv : Nat) : Int) < 0) := by omega
  obtain ⟨c0, c1⟩ := pair_cells HX.out
  generalize hkn : k + nv = kn at HO hk1 hk2 hd1 ⊢
  go_wp2_with fail
  refine (heldOps w0 B ao no co kn HO.out (by omega) hk1 hk2 hn).mono ?_
  rintro e w2 ⟨rfl, hb2⟩
  have HB2 := Lib.hid (HB.out.trans (hb2.mono (by omega)))
  have hd2 : ¬ (((kn + 8 * no : Nat) : Int) < 0) := by omega
  generalize hkm : kn + 8 * no = km at hd2 ⊢
  have HK2 : Hid (k + nv + 8 * no = km) := by show _ = _; omega
  clear hb2 c0 c1 hkm hkn
  go_wp2
  go_ret
  exact ⟨by rw [HK2.out]; rfl, HB2.out⟩

theorem Own.besideM {w w' : World} {lo hi lo' hi' : Nat} {a : Option Addr} {n : Nat} {xs : List Int} (h : Own w lo hi a n xs) (hb : Beside lo' hi' w w') (hd : hi ≤ lo' ∨ hi' ≤ lo) (hw : hi ≤ w.heap.size) : Own w' lo hi a n xs :=
  h.kept fun j h1 h2 => hb.block j (by omega) (by omega)
set_option linter.unusedSimpArgs false in
set_option maxRecDepth 100000 in
set_option maxHeartbeats 16000000 in
theorem fnExactCutWalk0 (av ao : Option Addr) (nv cv no co : Nat) (xs : List Int) (l : List OpV) (bv : Option Addr) (mv dv : Nat) (ys : List Int) (w : World) (hx : Ints w w.heap.size av nv xs) (h : Ops w w.heap.size ao no l) (hv : nv ≤ maxLen) (hn : no ≤ maxLen) (hm : ∀ i, i < no → (l.getD i OpV.zero).item.size ≤ maxLen) (hy : Ints w w.heap.size bv mv ys) (hv2 : mv ≤ maxLen) : Calls Try.prog 4 #[.agg #[.slice av nv cv, .slice ao no co], .slice bv mv dv] w fun e w' => e = .returned (.bool true) ∧ Below w.heap.size w w' := by
  have hb0 : Below w.heap.size w (w.alloc (.cells #[.slice av nv cv, .slice ao no co] 43)) := (Below.refl _ w).alloc (Nat.le_refl _) _
  have HV0 := Lib.hid (hx.below hb0 (Nat.le_refl _))
  have HO0 := Lib.hid (h.below hb0 (Nat.le_refl _))
  have HP0 := Lib.hid (hy.below hb0 (Nat.le_refl _))
  have HB0 := Lib.hid hb0
  have HX0 := Lib.hid (boxAt (Below.refl _ (w.alloc (.cells #[.slice av nv cv, .slice ao no co] 43))))
  have HLx := Lib.hid hx.1
  have HLo := Lib.hid h.1
  have HLy := Lib.hid hy.1
  have HM := Lib.hid hm
  have hs0 : w.heap.size + 1 ≤ (w.alloc (.cells #[.slice av nv cv, .slice ao no co] 43)).heap.size := by show _ ≤ (w.heap.push _).size; simp
  clear hx h hy hb0 hm
  unfold maxLen at hv2
  by_cases hbg : mv ≤ 1048576
  rotate_left
  · have hgt : decide (1048576 < (mv : Int)) = true := decide_eq_true (by omega)
    go_enter Try.func4, Try.ntmps4
    go_wp2
    go_ret
    exact ⟨rfl, HB0.out⟩
  have hgt : decide (1048576 < (mv : Int)) = false := decide_eq_false (by omega)
  go_enter Try.func4, Try.ntmps4
  go_wp2_with fail
  generalize w.alloc (.cells #[.slice av nv cv, .slice ao no co] 43) = w0 at HV0 HO0 HP0 HX0 HB0 hs0 ⊢
  refine (szCart w0 w.heap.size av ao nv cv no co l HO0.out (by omega) hv hn HM.out 1048576 (Nat.le_refl _)).mono ?_
  rintro e w1 ⟨rfl, hb⟩
  have hs1 := hb.size
  have HX1 := Lib.hid ((hb.block _ (Array.getElem?_eq_some_iff.1 HX0.out).1).trans HX0.out)
  have HV1 := Lib.hid (HV0.out.below hb (by omega))
  have HO1 := Lib.hid (HO0.out.below hb (by omega))
  have HP1 := Lib.hid (HP0.out.below hb (by omega))
  have HB1 := Lib.hid (HB0.out.trans (hb.mono (by omega)))
  clear hb HX0 HV0 HO0 HP0 HB0
  by_cases hbig : nv + opsTotal l ≤ 1048576
  rotate_left
  · rw [if_neg hbig]
    go_wp2
    go_ret
    exact ⟨rfl, HB1.out⟩
  rw [if_pos hbig]
  obtain ⟨hlo, hit⟩ := total_item (l := l) (t := 1048576) (by omega)
  have HIt := Lib.hid hit
  have hno : no ≤ 1048576 := by rw [← HLo.out]; exact hlo
  have hnv : nv ≤ 1048576 := by omega
  have hd : decide (((1048576 - (nv + opsTotal l) : Nat) : Int) < 0) = false := decide_eq_false (by omega)
  have HTot : Hid (nv + 8 * no ≤ 8388608) := by show _ ≤ _; have : opsTotal l ≥ l.length := by unfold opsTotal; omega
                                                have := HLo.out
                                                omega
  clear hit hbig
  have hxl : xs.length ≤ 1048576 := by rw [HLx.out]; exact hnv
  have hyl : ys.length ≤ 1048576 := by rw [HLy.out]; exact hbg
  generalize 1048576 - (nv + opsTotal l) = lf at hd ⊢
  obtain ⟨R, hR⟩ : ∃ R, cutB xs l ys = R := ⟨_, rfl⟩
  have HR := Lib.hid hR
  obtain ⟨zs, hZs⟩ : ∃ zs, cutVs xs ys R = zs := ⟨_, rfl⟩
  obtain ⟨Ls, hLs⟩ : ∃ L, cutOs l ys R = L := ⟨_, rfl⟩
  have HZs := Lib.hid hZs
  have HLs := Lib.hid hLs
  have hzl : zs.length ≤ 4 := by rw [← hZs]; exact cutVs_len xs ys hR
  have hLn : Ls.length ≤ 1048576 := by rw [← hLs]; exact cutOs_len hlo R
  clear hR hZs hLs
  obtain ⟨c0, c1⟩ := pair_cells HX1.out
  go_wp2_with fail
  refine (toCart w1 w.heap.size av ao nv cv no co xs l HV1.out HO1.out (by omega) hnv hno).mono ?_
  rintro e w2 ⟨va, oa, rfl, hi, ho, hb⟩
  clear c0 c1
  have HI2 := Lib.hid hi
  have HK2 := Lib.hid ho
  clear hi ho
  have hs2 := hb.size
  have HX2 := Lib.hid ((hb.block _ (Array.getElem?_eq_some_iff.1 HX1.out).1).trans HX1.out)
  have HV2 := Lib.hid (HV1.out.below hb (by omega))
  have HO2 := Lib.hid (HO1.out.below hb (by omega))
  have HP2 := Lib.hid (HP1.out.below hb (by omega))
  have HB2 := Lib.hid (HB1.out.trans (hb.mono (by omega)))
  clear hb HX1 HV1 HO1 HP1 HB1
  have HI2b := HI2
  go_wp2_with fail
  refine (toInts w2 w.heap.size bv mv dv ys HP2.out (by omega) hbg).mono ?_
  rintro e w3 ⟨rfl, hg, hb⟩
  have HI3 := Lib.hid (HI2.out.below hb (Nat.le_refl _) |>.more hb.size)
  have HK3 := Lib.hid (HK2.out.below hb (Nat.le_refl _) |>.more hb.size)
  have HJ3 : Hid (Ints w3 w3.heap.size (some ⟨w2.heap.size, 0, none⟩) ys.length ys) := (own_fresh hg (Array.getElem?_eq_some_iff.1 hg).1).ints
  clear HI2 HI2b HK2 hg
  have hs3 := hb.size
  have HX3 := Lib.hid ((hb.block _ (Array.getElem?_eq_some_iff.1 HX2.out).1).trans HX2.out)
  have HV3 := Lib.hid (HV2.out.below hb (by omega))
  have HO3 := Lib.hid (HO2.out.below hb (by omega))
  have HP3 := Lib.hid (HP2.out.below hb (by omega))
  have HB3 := Lib.hid (HB2.out.trans (hb.mono (by omega)))
  clear hb HX2 HV2 HO2 HP2 HB2
  go_wp2_with fail
  have hsp := specCut w3 w3.heap.size va oa (some ⟨w2.heap.size, 0, none⟩) xs.length xs.length l.length l.length ys.length ys.length xs l ys HI3.out HK3.out HJ3.out (Nat.le_refl _) hxl hlo HIt.out hyl
  rw [HR.out, HZs.out, HLs.out] at hsp
  refine hsp.mono ?_
  rintro e w4 ⟨sva, svc, soa, soc, rfl, hi, ho, hb⟩
  clear hsp HI3 HK3 HJ3
  have HS4 := Lib.hid hi
  have HT4 := Lib.hid ho
  clear hi ho
  have hs4 := hb.size
  have HX4 := Lib.hid ((hb.block _ (Array.getElem?_eq_some_iff.1 HX3.out).1).trans HX3.out)
  have HV4 := Lib.hid (HV3.out.below hb (by omega))
  have HO4 := Lib.hid (HO3.out.below hb (by omega))
  have HP4 := Lib.hid (HP3.out.below hb (by omega))
  have HB4 := Lib.hid (HB3.out.trans (hb.mono (by omega)))
  clear hb HX3 HV3 HO3 HP3 HB3
  generalize hn3 : w3.heap.size = n3 at HS4 HT4 hs3 hs4
  go_upto_region 8 with fail
  have hb : Below w4.heap.size w4 (w4.alloc (.cells #[.slice sva zs.length svc, .slice soa Ls.length soc] 31)) := (Below.refl _ _).alloc (Nat.le_refl _) _
  have HN5 := Lib.hid (boxAt (Below.refl _ (w4.alloc (.cells #[.slice sva zs.length svc, .slice soa Ls.length soc] 31))))
  have hy4 : w4.heap.size + 1 ≤ (w4.alloc (.cells #[.slice sva zs.length svc, .slice soa Ls.length soc] 31)).heap.size := by show _ ≤ (w4.heap.push _).size; simp
  generalize w4.alloc (.cells #[.slice sva zs.length svc, .slice soa Ls.length soc] 31) = w5 at hb HN5 hy4 ⊢
  have hs5 := hb.size
  have HX5 := Lib.hid ((hb.block _ (Array.getElem?_eq_some_iff.1 HX4.out).1).trans HX4.out)
  have HV5 := Lib.hid (HV4.out.below hb (by omega))
  have HO5 := Lib.hid (HO4.out.below hb (by omega))
  have HP5 := Lib.hid (HP4.out.below hb (by omega))
  have HB5 := Lib.hid (HB4.out.trans (hb.mono (by omega)))
  have HS5 := Lib.hid (HS4.out.below hb (by omega))
  have HT5 := Lib.hid (HT4.out.below hb (by omega))
  clear hb HX4 HV4 HO4 HP4 HB4 HS4 HT4
  generalize hn4 : w4.heap.size = n4 at HS5 HT5 HN5 hs4 hs5 hy4 ⊢
  obtain ⟨c0, c1⟩ := pair_cells HX5.out
  go_wp2_with fail
  refine (toCartO w5 w.heap.size av ao nv cv no co xs l HV5.out HO5.out (by omega) hnv hno).mono ?_
  rintro e w6 ⟨ga, gb, mid, rfl, hgA, hm1A, hm2A, hi, ho, hb⟩
  clear c0 c1
  have hs6 := hb.size
  have HX6 := Lib.hid ((hb.block _ (Array.getElem?_eq_some_iff.1 HX5.out).1).trans HX5.out)
  have HV6 := Lib.hid (HV5.out.below hb (by omega))
  have HO6 := Lib.hid (HO5.out.below hb (by omega))
  have HP6 := Lib.hid (HP5.out.below hb (by omega))
  have HB6 := Lib.hid (HB5.out.trans (hb.mono (by omega)))
  have HS6 := Lib.hid (HS5.out.below hb (by omega))
  have HT6 := Lib.hid (HT5.out.below hb (by omega))
  have HN6 := Lib.hid ((hb.block _ (Array.getElem?_eq_some_iff.1 HN5.out).1).trans HN5.out)
  clear hb HX5 HV5 HO5 HP5 HB5 HS5 HT5 HN5
  have HI6 := Lib.hid hi
  have HG6 := Lib.hid ho
  clear hi ho
  generalize hn5 : w5.heap.size = n5 at HI6 hs5 hs6 hm1A
  go_upto_region 9 with fail
  have hb : Below w6.heap.size w6 (w6.alloc (.cells #[.slice ga xs.length xs.length, .slice gb l.length l.length] 31)) := (Below.refl _ _).alloc (Nat.le_refl _) _
  have HY7 := Lib.hid (boxAt (Below.refl _ (w6.alloc (.cells #[.slice ga xs.length xs.length, .slice gb l.length l.length] 31))))
  have hy6 : w6.heap.size + 1 ≤ (w6.alloc (.cells #[.slice ga xs.length xs.length, .slice gb l.length l.length] 31)).heap.size := by show _ ≤ (w6.heap.push _).size; simp
  generalize w6.alloc (.cells #[.slice ga xs.length xs.length, .slice gb l.length l.length] 31) = w7 at hb HY7 hy6 ⊢
  have hs7 := hb.size
  have HX7 := Lib.hid ((hb.block _ (Array.getElem?_eq_some_iff.1 HX6.out).1).trans HX6.out)
  have HV7 := Lib.hid (HV6.out.below hb (by omega))
  have HO7 := Lib.hid (HO6.out.below hb (by omega))
  have HP7 := Lib.hid (HP6.out.below hb (by omega))
  have HB7 := Lib.hid (HB6.out.trans (hb.mono (by omega)))
  have HS7 := Lib.hid (HS6.out.below hb (by omega))
  have HT7 := Lib.hid (HT6.out.below hb (by omega))
  have HN7 := Lib.hid ((hb.block _ (Array.getElem?_eq_some_iff.1 HN6.out).1).trans HN6.out)
  have HI7 := Lib.hid (HI6.out.below hb (by omega))
  have HG7 := Lib.hid (HG6.out.below hb (by omega))
  clear hb HX6 HV6 HO6 HP6 HB6 HS6 HT6 HN6 HI6 HG6
  generalize hn6 : w6.heap.size = n6 at HS7 HT7 HI7 HG7 HY7 hs6 hs7 hy6 ⊢
  go_wp2_with fail
  refine (toInts w7 w.heap.size bv mv dv ys HP7.out (by omega) hbg).mono ?_
  rintro e w8 ⟨rfl, hg, hb⟩
  have hs8 := hb.size
  have HX8 := Lib.hid ((hb.block _ (Array.getElem?_eq_some_iff.1 HX7.out).1).trans HX7.out)
  have HV8 := Lib.hid (HV7.out.below hb (by omega))
  have HO8 := Lib.hid (HO7.out.below hb (by omega))
  have HP8 := Lib.hid (HP7.out.below hb (by omega))
  have HB8 := Lib.hid (HB7.out.trans (hb.mono (by omega)))
  have HS8 := Lib.hid (HS7.out.below hb (by omega))
  have HT8 := Lib.hid (HT7.out.below hb (by omega))
  have HN8 := Lib.hid ((hb.block _ (Array.getElem?_eq_some_iff.1 HN7.out).1).trans HN7.out)
  have HI8 := Lib.hid (HI7.out.below hb (by omega))
  have HG8 := Lib.hid (HG7.out.below hb (by omega))
  have HY8 := Lib.hid ((hb.block _ (Array.getElem?_eq_some_iff.1 HY7.out).1).trans HY7.out)
  clear hb HX7 HV7 HO7 HP7 HB7 HS7 HT7 HN7 HI7 HG7 HY7
  have HJ8 : Hid (Own w8 w7.heap.size w8.heap.size (some ⟨w7.heap.size, 0, none⟩) ys.length ys) := own_fresh hg (Array.getElem?_eq_some_iff.1 hg).1
  clear hg
  generalize hn7 : w7.heap.size = n7 at HJ8 hs7 hs8 ⊢
  generalize hn8 : w8.heap.size = n8 at HJ8 hs8
  obtain ⟨c0, c1⟩ := pair_cells HY8.out
  go_wp2_with fail
  have hsp := implCut w8 n8 ga gb (some ⟨n7, 0, none⟩) xs.length xs.length l.length l.length ys.length ys.length xs l ys (HI8.out.ints.more (by omega)) (HG8.out.ops.more (by omega)) HJ8.out.ints (by omega) hxl (Nat.le_refl _) (fits (Nat.le_refl _) hlo) HIt.out hyl
  rw [HR.out, HZs.out, HLs.out] at hsp
  refine hsp.mono ?_
  rintro e w9 ⟨gva, gvc, goa, goc, gm, rfl, hi, ho, hm1G, hm2G, hb, _⟩
  clear c0 c1 hsp
  have hs9 := hb.size
  have HX9 := Lib.hid ((hb.block _ (Array.getElem?_eq_some_iff.1 HX8.out).1).trans HX8.out)
  have HV9 := Lib.hid (HV8.out.below hb (by omega))
  have HO9 := Lib.hid (HO8.out.below hb (by omega))
  have HP9 := Lib.hid (HP8.out.below hb (by omega))
  have HB9 := Lib.hid (HB8.out.trans (hb.mono (by omega)))
  have HS9 := Lib.hid (HS8.out.below hb (by omega))
  have HT9 := Lib.hid (HT8.out.below hb (by omega))
  have HN9 := Lib.hid ((hb.block _ (Array.getElem?_eq_some_iff.1 HN8.out).1).trans HN8.out)
  have HI9 := Lib.hid (HI8.out.below hb (by omega))
  have HG9 := Lib.hid (HG8.out.below hb (by omega))
  have HY9 := Lib.hid ((hb.block _ (Array.getElem?_eq_some_iff.1 HY8.out).1).trans HY8.out)
  have HJ9 := Lib.hid (HJ8.out.below hb (by omega))
  clear hb HX8 HV8 HO8 HP8 HB8 HS8 HT8 HN8 HI8 HG8 HY8 HJ8
  have HA9 := Lib.hid hi
  have HC9 := Lib.hid ho
  clear hi ho
  generalize hn8b : w8.heap.size = n8b at HA9 hs8 hs9 hm1G hn8
  go_upto_region 11 with fail
  have hb : Below w9.heap.size w9 (w9.alloc (.cells #[.slice gva zs.length gvc, .slice goa Ls.length goc] 31)) := (Below.refl _ _).alloc (Nat.le_refl _) _
  have HD10 := Lib.hid (boxAt (Below.refl _ (w9.alloc (.cells #[.slice gva zs.length gvc, .slice goa Ls.length goc] 31))))
  have hy9 : w9.heap.size + 1 ≤ (w9.alloc (.cells #[.slice gva zs.length gvc, .slice goa Ls.length goc] 31)).heap.size := by show _ ≤ (w9.heap.push _).size; simp
  generalize w9.alloc (.cells #[.slice gva zs.length gvc, .slice goa Ls.length goc] 31) = w10 at hb HD10 hy9 ⊢
  have hs10 := hb.size
  have HX10 := Lib.hid ((hb.block _ (Array.getElem?_eq_some_iff.1 HX9.out).1).trans HX9.out)
  have HV10 := Lib.hid (HV9.out.below hb (by omega))
  have HO10 := Lib.hid (HO9.out.below hb (by omega))
  have HP10 := Lib.hid (HP9.out.below hb (by omega))
  have HB10 := Lib.hid (HB9.out.trans (hb.mono (by omega)))
  have HS10 := Lib.hid (HS9.out.below hb (by omega))
  have HT10 := Lib.hid (HT9.out.below hb (by omega))
  have HN10 := Lib.hid ((hb.block _ (Array.getElem?_eq_some_iff.1 HN9.out).1).trans HN9.out)
  have HI10 := Lib.hid (HI9.out.below hb (by omega))
  have HG10 := Lib.hid (HG9.out.below hb (by omega))
  have HY10 := Lib.hid ((hb.block _ (Array.getElem?_eq_some_iff.1 HY9.out).1).trans HY9.out)
  have HJ10 := Lib.hid (HJ9.out.below hb (by omega))
  have HA10 := Lib.hid (HA9.out.below hb (by omega))
  have HC10 := Lib.hid (HC9.out.below hb (by omega))
  clear hb HX9 HV9 HO9 HP9 HB9 HS9 HT9 HN9 HI9 HG9 HY9 HJ9 HA9 HC9
  generalize hn9 : w9.heap.size = n9 at HS10 HT10 HI10 HG10 HJ10 HA10 HC10 HD10 hs9 hs10 hy9 ⊢
  obtain ⟨c0, c1⟩ := pair_cells HD10.out
  obtain ⟨e0, e1⟩ := pair_cells HN10.out
  go_wp2_with fail
  refine (eqCartV w10 gva sva goa soa _ _ _ _ zs Ls (HA10.out.ints.more (by omega)) (HS10.out.ints.more (by omega)) (HC10.out.ops.more (by omega)) (HT10.out.ops.more (by omega)) (by omega) (by omega)).mono ?_
  rintro e w11 ⟨rfl, hb⟩
  clear c0 c1 e0 e1
  have hs11 := hb.size
  have HX11 := Lib.hid ((hb.block _ (Array.getElem?_eq_some_iff.1 HX10.out).1).trans HX10.out)
  have HV11 := Lib.hid (HV10.out.below hb (by omega))
  have HO11 := Lib.hid (HO10.out.below hb (by omega))
  have HP11 := Lib.hid (HP10.out.below hb (by omega))
  have HB11 := Lib.hid (HB10.out.trans (hb.mono (by omega)))
  have HS11 := Lib.hid (HS10.out.below hb (by omega))
  have HT11 := Lib.hid (HT10.out.below hb (by omega))
  have HN11 := Lib.hid ((hb.block _ (Array.getElem?_eq_some_iff.1 HN10.out).1).trans HN10.out)
  have HI11 := Lib.hid (HI10.out.below hb (by omega))
  have HG11 := Lib.hid (HG10.out.below hb (by omega))
  have HY11 := Lib.hid ((hb.block _ (Array.getElem?_eq_some_iff.1 HY10.out).1).trans HY10.out)
  have HJ11 := Lib.hid (HJ10.out.below hb (by omega))
  have HA11 := Lib.hid (HA10.out.below hb (by omega))
  have HC11 := Lib.hid (HC10.out.below hb (by omega))
  have HD11 := Lib.hid ((hb.block _ (Array.getElem?_eq_some_iff.1 HD10.out).1).trans HD10.out)
  clear hb HX10 HV10 HO10 HP10 HB10 HS10 HT10 HN10 HI10 HG10 HY10 HJ10 HA10 HC10 HD10
  have hS : w11.drew.cell? ⟨n6, 0, none⟩ = some (.slice ga xs.length xs.length) ∧ w11.drew.cell? ⟨n6, 1, none⟩ = some (.slice gb l.length l.length) ∧ w11.drew.cell? ⟨w.heap.size, 0, none⟩ = some (.slice av nv cv) ∧ w11.drew.cell? ⟨w.heap.size, 1, none⟩ = some (.slice ao no co) := ⟨(pair_cells HY11.out).1, (pair_cells HY11.out).2, (pair_cells HX11.out).1, (pair_cells HX11.out).2⟩
  go_wp2_with fail
  refine wp_region_held_drew (S := fun w' => w'.cell? ⟨n6, 0, none⟩ = some (.slice ga xs.length xs.length) ∧ w'.cell? ⟨n6, 1, none⟩ = some (.slice gb l.length l.length) ∧ w'.cell? ⟨w.heap.size, 0, none⟩ = some (.slice av nv cv) ∧ w'.cell? ⟨w.heap.size, 1, none⟩ = some (.slice ao no co)) (by kernel_rfl) hS (fun hHeld => ?_)
  refine wpAnyH_take (i := 0) (oi := { dst := some 52, op := .load 31 (.tmp 8), type := 31, pos := "exact.go:4069", after := #[], guard := none }) (v := ?_) rfl (by kernel_rfl) (by kernel_rfl) (by kernel_rfl) (fun _ _ _ h => h) (Or.inl ⟨by rfl, ?_⟩) (by assumption) ?_
  rotate_left
  · intro w hSw
    (try dsimp only at hSw)
    first | (go_simp; done) | (go_simp; with_reducible rfl)
  (try simp only [Act.put, List.setIfInBounds_toArray, List.set_cons_zero, List.set_cons_succ])
  refine wpAnyH_take (i := 1) (oi := { dst := some 53, op := .load 43 (.tmp 2), type := 43, pos := "exact.go:4069", after := #[], guard := none }) (v := ?_) rfl (by kernel_rfl) (by kernel_rfl) (by kernel_rfl) (fun _ _ _ h => h) (Or.inl ⟨by rfl, ?_⟩) (by assumption) ?_
  rotate_left
  · intro w hSw
    (try dsimp only at hSw)
    first | (go_simp; done) | (go_simp; with_reducible rfl)
  (try simp only [Act.put, List.setIfInBounds_toArray, List.set_cons_zero, List.set_cons_succ])
  refine wpAnyH_ready (rs := [2]) (by kernel_rfl) (by simp) ?_
  refine AllReadyH.cons (o := { dst := some 54, op := .call { callee := .value (.func 23), args := #[.tmp 53], argTypes := #[43] }, type := 31, pos := "exact.go:4069", after := #[⟨1, .data⟩], guard := none }) rfl (fun K hK => ?_) AllReadyH.nil
  go_simp
  go_at_call 23
  refine (toCart w11.drew w.heap.size av ao nv cv no co xs l (HV11.out.kept (w' := w11.drew) fun _ _ => rfl) (HO11.out.kept (w' := w11.drew) fun _ _ => rfl) (by show _ ≤ w11.heap.size; omega) hnv hno).mono ?_
  rintro e z1 ⟨ka, kb, rfl, hi, ho, hbz⟩
  have hz1 : Below w11.heap.size w11 z1 := Below.mk hbz.os hbz.tape hbz.output hbz.size hbz.block
  have hS1 : z1.cell? ⟨n6, 0, none⟩ = some (.slice ga xs.length xs.length) ∧ z1.cell? ⟨n6, 1, none⟩ = some (.slice gb l.length l.length) ∧ z1.cell? ⟨w.heap.size, 0, none⟩ = some (.slice av nv cv) ∧ z1.cell? ⟨w.heap.size, 1, none⟩ = some (.slice ao no co) := ⟨(hbz.cell (block_lt_of_cell hS.1)).trans hS.1, (hbz.cell (block_lt_of_cell hS.2.1)).trans hS.2.1, (hbz.cell (block_lt_of_cell hS.2.2.1)).trans hS.2.2.1, (hbz.cell (block_lt_of_cell hS.2.2.2)).trans hS.2.2.2⟩
  refine hK.out _ _ hS1 (fun hHeld2 => ?_)
  clear hK K
  (try simp only [Act.put, List.setIfInBounds_toArray, List.set_cons_zero, List.set_cons_succ])
  refine wpAnyH_ready (rs := [3]) (by kernel_rfl) (by simp) ?_
  refine AllReadyH.cons (o := { dst := some 55, op := .call { callee := .value (.func 25), args := #[.tmp 52, .tmp 54], argTypes := #[31, 31] }, type := 4, pos := "exact.go:4069", after := #[⟨0, .data⟩, ⟨2, .data⟩, ⟨2, .chain⟩], guard := none }) rfl (fun K hK => ?_) AllReadyH.nil
  go_simp
  go_at_call 25
  refine (eqCartV z1 ga ka gb kb _ _ _ _ xs l ((HI11.out.ints.below hz1 (by omega)).more (Nat.le_trans (by omega) hz1.size)) hi ((HG11.out.ops.below hz1 (by omega)).more (Nat.le_trans (by omega) hz1.size)) ho hxl hlo).mono ?_
  rintro e w12 ⟨rfl, hbw⟩
  have hS2 : w12.cell? ⟨n6, 0, none⟩ = some (.slice ga xs.length xs.length) ∧ w12.cell? ⟨n6, 1, none⟩ = some (.slice gb l.length l.length) ∧ w12.cell? ⟨w.heap.size, 0, none⟩ = some (.slice av nv cv) ∧ w12.cell? ⟨w.heap.size, 1, none⟩ = some (.slice ao no co) := ⟨(hbw.cell (block_lt_of_cell hS1.1)).trans hS1.1, (hbw.cell (block_lt_of_cell hS1.2.1)).trans hS1.2.1, (hbw.cell (block_lt_of_cell hS1.2.2.1)).trans hS1.2.2.1, (hbw.cell (block_lt_of_cell hS1.2.2.2)).trans hS1.2.2.2⟩
  refine hK.out _ _ hS2 (fun hHeld3 => ?_)
  clear hK K
  (try simp only [Act.put, List.setIfInBounds_toArray, List.set_cons_zero, List.set_cons_succ])
  refine wpAnyH_take (i := 4) (oi := { dst := some 56, op := .unOp .not 4 (.tmp 55), type := 4, pos := "exact.go:4069", after := #[⟨3, .data⟩], guard := none }) (v := ?_) rfl (by kernel_rfl) (by kernel_rfl) (by kernel_rfl) (fun _ _ _ h => h) (Or.inl ⟨by rfl, ?_⟩) (by assumption) ?_
  rotate_left
  · intro w hSw
    (try dsimp only at hSw)
    first | (go_simp; done) | (go_simp; with_reducible rfl)
  (try simp only [Act.put, List.setIfInBounds_toArray, List.set_cons_zero, List.set_cons_succ])
  refine wpAnyH_done (by kernel_rfl) ?_ _
  have hb : Below w11.heap.size w11 w12 := hz1.trans (hbw.mono hz1.size)
  clear hS hS1 hS2 hHeld hHeld2 hHeld3 hz1 hbz hbw hi ho
  have hs12 := hb.size
  have HX12 := Lib.hid ((hb.block _ (Array.getElem?_eq_some_iff.1 HX11.out).1).trans HX11.out)
  have HV12 := Lib.hid (HV11.out.below hb (by omega))
  have HO12 := Lib.hid (HO11.out.below hb (by omega))
  have HP12 := Lib.hid (HP11.out.below hb (by omega))
  have HB12 := Lib.hid (HB11.out.trans (hb.mono (by omega)))
  have HS12 := Lib.hid (HS11.out.below hb (by omega))
  have HT12 := Lib.hid (HT11.out.below hb (by omega))
  have HN12 := Lib.hid ((hb.block _ (Array.getElem?_eq_some_iff.1 HN11.out).1).trans HN11.out)
  have HI12 := Lib.hid (HI11.out.below hb (by omega))
  have HG12 := Lib.hid (HG11.out.below hb (by omega))
  have HY12 := Lib.hid ((hb.block _ (Array.getElem?_eq_some_iff.1 HY11.out).1).trans HY11.out)
  have HJ12 := Lib.hid (HJ11.out.below hb (by omega))
  have HA12 := Lib.hid (HA11.out.below hb (by omega))
  have HC12 := Lib.hid (HC11.out.below hb (by omega))
  have HD12 := Lib.hid ((hb.block _ (Array.getElem?_eq_some_iff.1 HD11.out).1).trans HD11.out)
  clear hb HX11 HV11 HO11 HP11 HB11 HS11 HT11 HN11 HI11 HG11 HY11 HJ11 HA11 HC11 HD11
  go_wp2_with fail
  refine (toInts w12 w.heap.size bv mv dv ys HP12.out (by omega) hbg).mono ?_
  rintro e w13 ⟨rfl, hg, hb⟩
  have hs13 := hb.size
  have HX13 := Lib.hid ((hb.block _ (Array.getElem?_eq_some_iff.1 HX12.out).1).trans HX12.out)
  have HV13 := Lib.hid (HV12.out.below hb (by omega))
  have HO13 := Lib.hid (HO12.out.below hb (by omega))
  have HP13 := Lib.hid (HP12.out.below hb (by omega))
  have HB13 := Lib.hid (HB12.out.trans (hb.mono (by omega)))
  have HS13 := Lib.hid (HS12.out.below hb (by omega))
  have HT13 := Lib.hid (HT12.out.below hb (by omega))
  have HN13 := Lib.hid ((hb.block _ (Array.getElem?_eq_some_iff.1 HN12.out).1).trans HN12.out)
  have HI13 := Lib.hid (HI12.out.below hb (by omega))
  have HG13 := Lib.hid (HG12.out.below hb (by omega))
  have HY13 := Lib.hid ((hb.block _ (Array.getElem?_eq_some_iff.1 HY12.out).1).trans HY12.out)
  have HJ13 := Lib.hid (HJ12.out.below hb (by omega))
  have HA13 := Lib.hid (HA12.out.below hb (by omega))
  have HC13 := Lib.hid (HC12.out.below hb (by omega))
  have HD13 := Lib.hid ((hb.block _ (Array.getElem?_eq_some_iff.1 HD12.out).1).trans HD12.out)
  clear hb HX12 HV12 HO12 HP12 HB12 HS12 HT12 HN12 HI12 HG12 HY12 HJ12 HA12 HC12 HD12
  have hz : Ints w13 w13.heap.size (some ⟨w12.heap.size, 0, none⟩) ys.length ys := (own_fresh hg (Array.getElem?_eq_some_iff.1 hg).1).ints
  clear hg
  go_wp2_with fail
  refine (eqInts w13 n8b w13.heap.size (some ⟨n7, 0, none⟩) (some ⟨w12.heap.size, 0, none⟩) ys.length ys.length ys.length ys.length ys ys (HJ13.out.ints.more (by omega)) hz hyl hyl).mono ?_
  rintro e w14 ⟨rfl, hsame⟩
  clear hz
  have hde : decide (ys = ys) = true := decide_eq_true rfl
  rw [hde]
  clear hde
  have hb := hsame.below w13.heap.size
  clear hsame
  have hs14 := hb.size
  have HX14 := Lib.hid ((hb.block _ (Array.getElem?_eq_some_iff.1 HX13.out).1).trans HX13.out)
  have HV14 := Lib.hid (HV13.out.below hb (by omega))
  have HO14 := Lib.hid (HO13.out.below hb (by omega))
  have HP14 := Lib.hid (HP13.out.below hb (by omega))
  have HB14 := Lib.hid (HB13.out.trans (hb.mono (by omega)))
  have HS14 := Lib.hid (HS13.out.below hb (by omega))
  have HT14 := Lib.hid (HT13.out.below hb (by omega))
  have HN14 := Lib.hid ((hb.block _ (Array.getElem?_eq_some_iff.1 HN13.out).1).trans HN13.out)
  have HI14 := Lib.hid (HI13.out.below hb (by omega))
  have HG14 := Lib.hid (HG13.out.below hb (by omega))
  have HY14 := Lib.hid ((hb.block _ (Array.getElem?_eq_some_iff.1 HY13.out).1).trans HY13.out)
  have HJ14 := Lib.hid (HJ13.out.below hb (by omega))
  have HA14 := Lib.hid (HA13.out.below hb (by omega))
  have HC14 := Lib.hid (HC13.out.below hb (by omega))
  have HD14 := Lib.hid ((hb.block _ (Array.getElem?_eq_some_iff.1 HD13.out).1).trans HD13.out)
  clear hb HX13 HV13 HO13 HP13 HB13 HS13 HT13 HN13 HI13 HG13 HY13 HJ13 HA13 HC13 HD13
  have hTot : 1 + xs.length + 8 * l.length ≤ 8388609 := by have := HTot.out; have := HLx.out; have := HLo.out; omega
  obtain ⟨c0, c1⟩ := pair_cells HY14.out
  go_wp2_with fail
  refine (markCartM w14 n5 mid n6 ga gb _ _ _ _ xs l HI14.out HG14.out (by omega) (by omega) (by omega) hxl hlo 1 (by omega) (by omega)).mono ?_
  rintro e w15 ⟨⟨k1, hk1, rfl⟩, -, -, hb⟩
  clear c0 c1
  have hs15 := hb.size
  have HX15 := Lib.hid ((hb.block _ (Array.getElem?_eq_some_iff.1 HX14.out).1 (by omega)).trans HX14.out)
  have HV15 := Lib.hid (HV14.out.kept fun j hj => hb.block j (by omega) (.inl (by omega)))
  have HO15 := Lib.hid (HO14.out.kept fun j hj => hb.block j (by omega) (.inl (by omega)))
  have HP15 := Lib.hid (HP14.out.kept fun j hj => hb.block j (by omega) (.inl (by omega)))
  have HB15 := Lib.hid (HB14.out.trans (hb.below (by omega) (by omega)))
  have HS15 := Lib.hid (HS14.out.besideM hb (by omega) (by omega))
  have HT15 := Lib.hid (HT14.out.beside hb (by omega) (by omega))
  have HN15 := Lib.hid ((hb.block _ (Array.getElem?_eq_some_iff.1 HN14.out).1 (by omega)).trans HN14.out)
  have HY15 := Lib.hid ((hb.block _ (Array.getElem?_eq_some_iff.1 HY14.out).1 (by omega)).trans HY14.out)
  have HJ15 := Lib.hid (HJ14.out.besideM hb (by omega) (by omega))
  have HA15 := Lib.hid (HA14.out.besideM hb (by omega) (by omega))
  have HC15 := Lib.hid (HC14.out.beside hb (by omega) (by omega))
  have HD15 := Lib.hid ((hb.block _ (Array.getElem?_eq_some_iff.1 HD14.out).1 (by omega)).trans HD14.out)
  clear hb HX14 HV14 HO14 HP14 HB14 HS14 HT14 HN14 HI14 HG14 HY14 HJ14 HA14 HC14 HD14
  have hk1b : k1 ≤ 8388609 := by have := hk1.out; omega
  clear hk1 hTot
  go_wp2_with fail
  refine (mark w15 n7 n8 (some ⟨n7, 0, none⟩) ys.length ys.length ys HJ15.out k1 (by omega) hyl).mono ?_
  rintro e w16 ⟨⟨k2, hk2, rfl⟩, -, hbo⟩
  have hb := hbo.beside
  clear hbo
  have hs16 := hb.size
  have HX16 := Lib.hid ((hb.block _ (Array.getElem?_eq_some_iff.1 HX15.out).1 (by omega)).trans HX15.out)
  have HV16 := Lib.hid (HV15.out.kept fun j hj => hb.block j (by omega) (.inl (by omega)))
  have HO16 := Lib.hid (HO15.out.kept fun j hj => hb.block j (by omega) (.inl (by omega)))
  have HP16 := Lib.hid (HP15.out.kept fun j hj => hb.block j (by omega) (.inl (by omega)))
  have HB16 := Lib.hid (HB15.out.trans (hb.below (by omega) (by omega)))
  have HS16 := Lib.hid (HS15.out.besideM hb (by omega) (by omega))
  have HT16 := Lib.hid (HT15.out.beside hb (by omega) (by omega))
  have HN16 := Lib.hid ((hb.block _ (Array.getElem?_eq_some_iff.1 HN15.out).1 (by omega)).trans HN15.out)
  have HY16 := Lib.hid ((hb.block _ (Array.getElem?_eq_some_iff.1 HY15.out).1 (by omega)).trans HY15.out)
  have HA16 := Lib.hid (HA15.out.besideM hb (by omega) (by omega))
  have HC16 := Lib.hid (HC15.out.beside hb (by omega) (by omega))
  have HD16 := Lib.hid ((hb.block _ (Array.getElem?_eq_some_iff.1 HD15.out).1 (by omega)).trans HD15.out)
  clear hb HX15 HV15 HO15 HP15 HB15 HS15 HT15 HN15 HY15 HJ15 HA15 HC15 HD15
  have hd3 : decide ((k2 : Int) < 0) = false := decide_eq_false (by omega)
  clear hk2
  obtain ⟨c0, c1⟩ := pair_cells HD16.out
  obtain ⟨e0, e1⟩ := pair_cells HN16.out
  go_wp2_with fail
  refine (eqCartV w16 gva sva goa soa _ _ _ _ zs Ls (HA16.out.ints.more (by omega)) (HS16.out.ints.more (by omega)) (HC16.out.ops.more (by omega)) (HT16.out.ops.more (by omega)) (by omega) (by omega)).mono ?_
  rintro e w17 ⟨rfl, hb⟩
  clear c0 c1 e0 e1
  have hs17 := hb.size
  have HX17 := Lib.hid ((hb.block _ (Array.getElem?_eq_some_iff.1 HX16.out).1).trans HX16.out)
  have HV17 := Lib.hid (HV16.out.below hb (by omega))
  have HO17 := Lib.hid (HO16.out.below hb (by omega))
  have HP17 := Lib.hid (HP16.out.below hb (by omega))
  have HB17 := Lib.hid (HB16.out.trans (hb.mono (by omega)))
  have HS17 := Lib.hid (HS16.out.below hb (by omega))
  have HT17 := Lib.hid (HT16.out.below hb (by omega))
  have HN17 := Lib.hid ((hb.block _ (Array.getElem?_eq_some_iff.1 HN16.out).1).trans HN16.out)
  have HY17 := Lib.hid ((hb.block _ (Array.getElem?_eq_some_iff.1 HY16.out).1).trans HY16.out)
  have HA17 := Lib.hid (HA16.out.below hb (by omega))
  have HC17 := Lib.hid (HC16.out.below hb (by omega))
  have HD17 := Lib.hid ((hb.block _ (Array.getElem?_eq_some_iff.1 HD16.out).1).trans HD16.out)
  clear hb HX16 HV16 HO16 HP16 HB16 HS16 HT16 HN16 HY16 HA16 HC16 HD16
  obtain ⟨c0, c1⟩ := pair_cells HD17.out
  go_wp2_with fail
  refine (markCartM w17 n8b gm n9 gva goa _ _ _ _ zs Ls HA17.out HC17.out (by omega) (by omega) (by omega) (by omega) (by omega) 1 (by omega) (by omega)).mono ?_
  rintro e w18 ⟨⟨k3, hk3, rfl⟩, hiM, hoM, hb⟩
  clear c0 c1
  have hs18 := hb.size
  have HX18 := Lib.hid ((hb.block _ (Array.getElem?_eq_some_iff.1 HX17.out).1 (by omega)).trans HX17.out)
  have HV18 := Lib.hid (HV17.out.kept fun j hj => hb.block j (by omega) (.inl (by omega)))
  have HO18 := Lib.hid (HO17.out.kept fun j hj => hb.block j (by omega) (.inl (by omega)))
  have HP18 := Lib.hid (HP17.out.kept fun j hj => hb.block j (by omega) (.inl (by omega)))
  have HB18 := Lib.hid (HB17.out.trans (hb.below (by omega) (by omega)))
  have HS18 := Lib.hid (HS17.out.besideM hb (by omega) (by omega))
  have HT18 := Lib.hid (HT17.out.beside hb (by omega) (by omega))
  have HN18 := Lib.hid ((hb.block _ (Array.getElem?_eq_some_iff.1 HN17.out).1 (by omega)).trans HN17.out)
  have HY18 := Lib.hid ((hb.block _ (Array.getElem?_eq_some_iff.1 HY17.out).1 (by omega)).trans HY17.out)
  have HD18 := Lib.hid ((hb.block _ (Array.getElem?_eq_some_iff.1 HD17.out).1 (by omega)).trans HD17.out)
  clear hb HX17 HV17 HO17 HP17 HB17 HS17 HT17 HN17 HY17 HA17 HC17 HD17
  have HA18 := Lib.hid hiM
  have HC18 := Lib.hid hoM
  clear hiM hoM
  have HK3 : Hid (1 + zs.length + 8 * Ls.length = k3) := hk3.symm
  have hk3b : k3 ≤ 10000000 := by have := HK3.out; omega
  clear hk3
  obtain ⟨c0, c1⟩ := pair_cells HD18.out
  go_wp2_with fail
  refine (heldCart w18 n9 gva goa _ _ _ _ 1 (HA18.out.ints.more (by omega)) HC18.out.ops (by omega) (by omega) (by omega) (by omega) (by omega)).mono ?_
  rintro e w19 ⟨rfl, hb⟩
  rw [HK3.out]
  clear c0 c1
  have hs19 := hb.size
  have HX19 := Lib.hid ((hb.block _ (Array.getElem?_eq_some_iff.1 HX18.out).1).trans HX18.out)
  have HV19 := Lib.hid (HV18.out.below hb (by omega))
  have HO19 := Lib.hid (HO18.out.below hb (by omega))
  have HP19 := Lib.hid (HP18.out.below hb (by omega))
  have HB19 := Lib.hid (HB18.out.trans (hb.mono (by omega)))
  have HS19 := Lib.hid (HS18.out.below hb (by omega))
  have HT19 := Lib.hid (HT18.out.below hb (by omega))
  have HN19 := Lib.hid ((hb.block _ (Array.getElem?_eq_some_iff.1 HN18.out).1).trans HN18.out)
  have HY19 := Lib.hid ((hb.block _ (Array.getElem?_eq_some_iff.1 HY18.out).1).trans HY18.out)
  have HD19 := Lib.hid ((hb.block _ (Array.getElem?_eq_some_iff.1 HD18.out).1).trans HD18.out)
  have HA19 := Lib.hid (HA18.out.below hb (by omega))
  have HC19 := Lib.hid (HC18.out.below hb (by omega))
  clear hb HX18 HV18 HO18 HP18 HB18 HS18 HT18 HN18 HY18 HD18 HA18 HC18
  have hdk : decide ((k3 : Int) < 0) = false := decide_eq_false (by omega)
  have hbk : ((k3 : Int) != (k3 : Int)) = false := bne_self_eq_false _
  obtain ⟨c0, c1⟩ := pair_cells HX19.out
  go_wp2_with fail
  refine (toCart w19 w.heap.size av ao nv cv no co xs l HV19.out HO19.out (by omega) hnv hno).mono ?_
  rintro e w20 ⟨va, oa, rfl, hi, ho, hb⟩
  clear c0 c1
  have HI20 := Lib.hid hi
  have HG20 := Lib.hid ho
  clear hi ho
  have hs20 := hb.size
  have HX20 := Lib.hid ((hb.block _ (Array.getElem?_eq_some_iff.1 HX19.out).1).trans HX19.out)
  have HV20 := Lib.hid (HV19.out.below hb (by omega))
  have HO20 := Lib.hid (HO19.out.below hb (by omega))
  have HP20 := Lib.hid (HP19.out.below hb (by omega))
  have HB20 := Lib.hid (HB19.out.trans (hb.mono (by omega)))
  have HS20 := Lib.hid (HS19.out.below hb (by omega))
  have HT20 := Lib.hid (HT19.out.below hb (by omega))
  have HN20 := Lib.hid ((hb.block _ (Array.getElem?_eq_some_iff.1 HN19.out).1).trans HN19.out)
  have HY20 := Lib.hid ((hb.block _ (Array.getElem?_eq_some_iff.1 HY19.out).1).trans HY19.out)
  have HD20 := Lib.hid ((hb.block _ (Array.getElem?_eq_some_iff.1 HD19.out).1).trans HD19.out)
  have HA20 := Lib.hid (HA19.out.below hb (by omega))
  have HC20 := Lib.hid (HC19.out.below hb (by omega))
  clear hb HX19 HV19 HO19 HP19 HB19 HS19 HT19 HN19 HY19 HD19 HA19 HC19
  go_wp2_with fail
  refine (toInts w20 w.heap.size bv mv dv ys HP20.out (by omega) hbg).mono ?_
  rintro e w21 ⟨rfl, hg, hb⟩
  have HI21 := Lib.hid (HI20.out.below hb (Nat.le_refl _) |>.more hb.size)
  have HG21 := Lib.hid (HG20.out.below hb (Nat.le_refl _) |>.more hb.size)
  have HJ21 : Hid (Ints w21 w21.heap.size (some ⟨w20.heap.size, 0, none⟩) ys.length ys) := (own_fresh hg (Array.getElem?_eq_some_iff.1 hg).1).ints
  clear HI20 HG20 hg
  have hs21 := hb.size
  have HX21 := Lib.hid ((hb.block _ (Array.getElem?_eq_some_iff.1 HX20.out).1).trans HX20.out)
  have HV21 := Lib.hid (HV20.out.below hb (by omega))
  have HO21 := Lib.hid (HO20.out.below hb (by omega))
  have HP21 := Lib.hid (HP20.out.below hb (by omega))
  have HB21 := Lib.hid (HB20.out.trans (hb.mono (by omega)))
  have HS21 := Lib.hid (HS20.out.below hb (by omega))
  have HT21 := Lib.hid (HT20.out.below hb (by omega))
  have HN21 := Lib.hid ((hb.block _ (Array.getElem?_eq_some_iff.1 HN20.out).1).trans HN20.out)
  have HY21 := Lib.hid ((hb.block _ (Array.getElem?_eq_some_iff.1 HY20.out).1).trans HY20.out)
  have HD21 := Lib.hid ((hb.block _ (Array.getElem?_eq_some_iff.1 HD20.out).1).trans HD20.out)
  have HA21 := Lib.hid (HA20.out.below hb (by omega))
  have HC21 := Lib.hid (HC20.out.below hb (by omega))
  clear hb HX20 HV20 HO20 HP20 HB20 HS20 HT20 HN20 HY20 HD20 HA20 HC20
  go_wp2_with fail
  have hsp := implCut w21 w21.heap.size va oa (some ⟨w20.heap.size, 0, none⟩) xs.length xs.length l.length l.length ys.length ys.length xs l ys HI21.out HG21.out HJ21.out (Nat.le_refl _) hxl (Nat.le_refl _) (fits (Nat.le_refl _) hlo) HIt.out hyl
  rw [HR.out, HZs.out, HLs.out] at hsp
  refine hsp.mono ?_
  rintro e w22 ⟨hva, hvc, hoa, hoc, hmm, rfl, hi, ho, hm1H, hm2H, hb, _⟩
  clear hsp HI21 HG21 HJ21
  have HE22 := Lib.hid (hi.ints.more hm2H)
  have HF22 := Lib.hid ho.ops
  clear hi ho hm1H hm2H
  have hs22 := hb.size
  have HX22 := Lib.hid ((hb.block _ (Array.getElem?_eq_some_iff.1 HX21.out).1).trans HX21.out)
  have HV22 := Lib.hid (HV21.out.below hb (by omega))
  have HO22 := Lib.hid (HO21.out.below hb (by omega))
  have HP22 := Lib.hid (HP21.out.below hb (by omega))
  have HB22 := Lib.hid (HB21.out.trans (hb.mono (by omega)))
  have HS22 := Lib.hid (HS21.out.below hb (by omega))
  have HT22 := Lib.hid (HT21.out.below hb (by omega))
  have HN22 := Lib.hid ((hb.block _ (Array.getElem?_eq_some_iff.1 HN21.out).1).trans HN21.out)
  have HY22 := Lib.hid ((hb.block _ (Array.getElem?_eq_some_iff.1 HY21.out).1).trans HY21.out)
  have HD22 := Lib.hid ((hb.block _ (Array.getElem?_eq_some_iff.1 HD21.out).1).trans HD21.out)
  have HA22 := Lib.hid (HA21.out.below hb (by omega))
  have HC22 := Lib.hid (HC21.out.below hb (by omega))
  clear hb HX21 HV21 HO21 HP21 HB21 HS21 HT21 HN21 HY21 HD21 HA21 HC21
  go_upto_region 31 with fail
  have hb : Below w22.heap.size w22 (w22.alloc (.cells #[.slice hva zs.length hvc, .slice hoa Ls.length hoc] 31)) := (Below.refl _ _).alloc (Nat.le_refl _) _
  have HW23 := Lib.hid (boxAt (Below.refl _ (w22.alloc (.cells #[.slice hva zs.length hvc, .slice hoa Ls.length hoc] 31))))
  have HE23 := Lib.hid (HE22.out.below hb (Nat.le_refl _) |>.more hb.size)
  have HF23 := Lib.hid (HF22.out.below hb (Nat.le_refl _) |>.more hb.size)
  clear HE22 HF22
  generalize w22.alloc (.cells #[.slice hva zs.length hvc, .slice hoa Ls.length hoc] 31) = w23 at hb HW23 HE23 HF23 ⊢
  have hs23 := hb.size
  have HX23 := Lib.hid ((hb.block _ (Array.getElem?_eq_some_iff.1 HX22.out).1).trans HX22.out)
  have HV23 := Lib.hid (HV22.out.below hb (by omega))
  have HO23 := Lib.hid (HO22.out.below hb (by omega))
  have HP23 := Lib.hid (HP22.out.below hb (by omega))
  have HB23 := Lib.hid (HB22.out.trans (hb.mono (by omega)))
  have HS23 := Lib.hid (HS22.out.below hb (by omega))
  have HT23 := Lib.hid (HT22.out.below hb (by omega))
  have HN23 := Lib.hid ((hb.block _ (Array.getElem?_eq_some_iff.1 HN22.out).1).trans HN22.out)
  have HY23 := Lib.hid ((hb.block _ (Array.getElem?_eq_some_iff.1 HY22.out).1).trans HY22.out)
  have HD23 := Lib.hid ((hb.block _ (Array.getElem?_eq_some_iff.1 HD22.out).1).trans HD22.out)
  have HA23 := Lib.hid (HA22.out.below hb (by omega))
  have HC23 := Lib.hid (HC22.out.below hb (by omega))
  clear hb HX22 HV22 HO22 HP22 HB22 HS22 HT22 HN22 HY22 HD22 HA22 HC22
  obtain ⟨c0, c1⟩ := pair_cells HW23.out
  obtain ⟨e0, e1⟩ := pair_cells HN23.out
  go_wp2_with fail
  refine (eqCartV w23 hva sva hoa soa _ _ _ _ zs Ls HE23.out (HS23.out.ints.more (by omega)) HF23.out (HT23.out.ops.more (by omega)) (by omega) (by omega)).mono ?_
  rintro e w24 ⟨rfl, hb⟩
  clear c0 c1 e0 e1 HW23 HE23 HF23
  have hs24 := hb.size
  have HX24 := Lib.hid ((hb.block _ (Array.getElem?_eq_some_iff.1 HX23.out).1).trans HX23.out)
  have HV24 := Lib.hid (HV23.out.below hb (by omega))
  have HO24 := Lib.hid (HO23.out.below hb (by omega))
  have HP24 := Lib.hid (HP23.out.below hb (by omega))
  have HB24 := Lib.hid (HB23.out.trans (hb.mono (by omega)))
  have HS24 := Lib.hid (HS23.out.below hb (by omega))
  have HT24 := Lib.hid (HT23.out.below hb (by omega))
  have HN24 := Lib.hid ((hb.block _ (Array.getElem?_eq_some_iff.1 HN23.out).1).trans HN23.out)
  have HY24 := Lib.hid ((hb.block _ (Array.getElem?_eq_some_iff.1 HY23.out).1).trans HY23.out)
  have HD24 := Lib.hid ((hb.block _ (Array.getElem?_eq_some_iff.1 HD23.out).1).trans HD23.out)
  have HA24 := Lib.hid (HA23.out.below hb (by omega))
  have HC24 := Lib.hid (HC23.out.below hb (by omega))
  clear hb HX23 HV23 HO23 HP23 HB23 HS23 HT23 HN23 HY23 HD23 HA23 HC23
  obtain ⟨c0, c1⟩ := pair_cells HD24.out
  go_wp2_with fail
  refine (heldCart w24 n9 gva goa _ _ _ _ 1 (HA24.out.ints.more (by omega)) HC24.out.ops (by omega) (by omega) (by omega) (by omega) (by omega)).mono ?_
  rintro e w25 ⟨rfl, hb⟩
  rw [HK3.out]
  clear c0 c1
  have hs25 := hb.size
  have HX25 := Lib.hid ((hb.block _ (Array.getElem?_eq_some_iff.1 HX24.out).1).trans HX24.out)
  have HV25 := Lib.hid (HV24.out.below hb (by omega))
  have HO25 := Lib.hid (HO24.out.below hb (by omega))
  have HP25 := Lib.hid (HP24.out.below hb (by omega))
  have HB25 := Lib.hid (HB24.out.trans (hb.mono (by omega)))
  have HS25 := Lib.hid (HS24.out.below hb (by omega))
  have HT25 := Lib.hid (HT24.out.below hb (by omega))
  have HN25 := Lib.hid ((hb.block _ (Array.getElem?_eq_some_iff.1 HN24.out).1).trans HN24.out)
  have HY25 := Lib.hid ((hb.block _ (Array.getElem?_eq_some_iff.1 HY24.out).1).trans HY24.out)
  have HD25 := Lib.hid ((hb.block _ (Array.getElem?_eq_some_iff.1 HD24.out).1).trans HD24.out)
  have HA25 := Lib.hid (HA24.out.below hb (by omega))
  have HC25 := Lib.hid (HC24.out.below hb (by omega))
  clear hb HX24 HV24 HO24 HP24 HB24 HS24 HT24 HN24 HY24 HD24 HA24 HC24
  go_wp2
  go_ret
  exact ⟨rfl, HB25.out⟩
theorem fnExactCutWalk (av ao : Option Addr) (nv cv no co : Nat) (xs : List Int) (l : List OpV) (bv : Option Addr) (mv dv : Nat) (zs : List Int) (w : World) (hx : Ints w w.heap.size av nv xs) (h : Ops w w.heap.size ao no l) (hv : nv ≤ maxLen) (hn : no ≤ maxLen) (hm : ∀ i, i < no → (l.getD i OpV.zero).item.size ≤ maxLen) (hr : IsRow .i64 w bv mv dv zs) : Calls Try.prog 4 #[.agg #[.slice av nv cv, .slice ao no co], .slice bv mv dv] w fun e w' => e = .returned (.bool true) ∧ Below w.heap.size w w' :=
  fnExactCutWalk0 av ao nv cv no co xs l bv mv dv (zs.take mv) w hx h hv hn hm (ints_of_row hr) (by rcases hr with ⟨_, rfl, _, _⟩ | ⟨_, _, h1, h2, _⟩ <;> omega)
end Go.Proofs.Ytejhmakfbmhhhaa
