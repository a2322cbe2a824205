/- The walk of the law FnCutMerged. -/
import Derived.Test.YthfkoplljinmmaaGcCuLawW
import Derived.Test.YthfkoplljinmmaaGc23
import Derived.Test.YthfkoplljinmmaaGc26
import Derived.Deep.Cut
namespace Go.Proofs.Ythfkoplljinmmaa
open Go.RowKit
set_option linter.unusedVariables false
set_option linter.unusedSimpArgs false

set_option maxRecDepth 100000 in
set_option maxHeartbeats 16000000 in
theorem fnCutMergedWalk (a : Option Addr) (len cap : Nat) (zs : List Int) (w : World) (h : IsRow .u8 w a len cap zs) :
    Calls Try.prog 14 #[.slice a len cap] w fun e w' => e = .returned (.bool true) ∧ Below w.heap.size w w' := by
  by_cases hbig : len ≤ 1048576
  rotate_left
  · go_enter Try.func14, Try.ntmps14
    go_wp2_with fail
    refine (bigYes a len cap hbig w).mono ?_
    rintro e w' ⟨rfl, rfl⟩
    go_wp2
    go_ret
    exact ⟨rfl, Below.refl _ _⟩
  have hsrc := Lib.hid (src_of_row h hbig)
  clear h
  go_enter Try.func14, Try.ntmps14
  go_wp2_with fail
  refine (bigNo a len cap hbig w).mono ?_
  rintro e w' ⟨rfl, rfl⟩
  go_wp2_with fail
  refine (drawMerged w w.heap.size a len cap (Nat.le_refl _) hsrc.out).mono ?_
  rintro e w0 ⟨⟨ava, avc, aoa, ano, aoc⟩, ⟨bva, bvc, boa, bno, boc⟩, rfl, hx, hy, hb0⟩
  obtain ⟨xs, l, e1, a1, a2, a3, a4, a5, a6⟩ := hx
  obtain ⟨ys, m, e2, b1, b2, b3, b4, b5, b6⟩ := hy
  have e1 : ano = l.length := e1
  have e2 : bno = m.length := e2
  subst e1 e2
  have HVA0 := Lib.hid a1.ints
  have HOA0 := Lib.hid a2.ops
  have HVB0 := Lib.hid b1.ints
  have HOB0 := Lib.hid b2.ops
  have HB0 := Lib.hid hb0
  have HCa := Lib.hid a4
  have HCb := Lib.hid b4
  have HIa : Hid (∀ i, i < l.length → (atOp l i).item.size ≤ 1048576) := fun i hi => Nat.le_trans (a5 i hi) (by omega)
  have HIb : Hid (∀ i, i < m.length → (atOp m i).item.size ≤ 1048576) := fun i hi => Nat.le_trans (b5 i hi) (by omega)
  have hs0 := hb0.size
  clear a1 a2 a3 a4 a5 b1 b2 b3 b4 b5 hb0
  dsimp only
  go_upto_region 4 with fail
  have hT := Two.mk0 w0 #[.slice ava 4 avc, .slice aoa l.length aoc] #[.slice bva 4 bvc, .slice boa m.length boc] 27
  have HXa1 := Lib.hid hT.fst
  have HXb1 := Lib.hid hT.snd
  have hb := hT.bel
  clear hT
  generalize (w0.alloc (.cells #[.slice ava 4 avc, .slice aoa l.length aoc] 27)).alloc (.cells #[.slice bva 4 bvc, .slice boa m.length boc] 27) = w1 at hb HXa1 HXb1 ⊢
  have hs1 := hb.size
  have HVA1 := Lib.hid (HVA0.out.below hb (by omega))
  have HOA1 := Lib.hid (HOA0.out.below hb (by omega))
  have HVB1 := Lib.hid (HVB0.out.below hb (by omega))
  have HOB1 := Lib.hid (HOB0.out.below hb (by omega))
  have HB1 := Lib.hid (HB0.out.trans (hb.mono (by omega)))
  clear hb HVA0 HOA0 HVB0 HOB0 HB0
  go_wp2_with fail
  refine (drawCut w1 w.heap.size a len cap (by have := HB1.out.size; omega) (src_below hsrc.out HB1.out)).mono ?_
  rintro e w2 ⟨⟨eva, evc, eoa, eno, eoc⟩, qv, nq, qc, qs, hn4, rfl, _, hy, hb⟩
  dsimp only
  have hs2 := hb.size
  have HVA2 := Lib.hid (HVA1.out.below hb (by omega))
  have HOA2 := Lib.hid (HOA1.out.below hb (by omega))
  have HVB2 := Lib.hid (HVB1.out.below hb (by omega))
  have HOB2 := Lib.hid (HOB1.out.below hb (by omega))
  have HB2 := Lib.hid (HB1.out.trans (hb.mono (by omega)))
  have HXa2 := Lib.hid ((hb.block _ (lt_of_row HXa1.out)).trans HXa1.out)
  have HXb2 := Lib.hid ((hb.block _ (lt_of_row HXb1.out)).trans HXb1.out)
  clear hb HVA1 HOA1 HVB1 HOB1 HB1 HXa1 HXb1
  have HQ2 := Lib.hid hy
  clear hy
  go_upto_region 5 with fail
  have hb : Below w2.heap.size w2 (w2.alloc (.cells #[.slice eva 4 evc, .slice eoa eno eoc] 27)) := (Below.refl _ _).alloc (Nat.le_refl _) _
  have HXe3 := Lib.hid (boxAt (Below.refl _ (w2.alloc (.cells #[.slice eva 4 evc, .slice eoa eno eoc] 27))))
  generalize w2.alloc (.cells #[.slice eva 4 evc, .slice eoa eno eoc] 27) = w3 at hb HXe3 ⊢
  have HQ3 := Lib.hid (HQ2.out.below hb (by omega))
  have hs3 := hb.size
  have HVA3 := Lib.hid (HVA2.out.below hb (by omega))
  have HOA3 := Lib.hid (HOA2.out.below hb (by omega))
  have HVB3 := Lib.hid (HVB2.out.below hb (by omega))
  have HOB3 := Lib.hid (HOB2.out.below hb (by omega))
  have HB3 := Lib.hid (HB2.out.trans (hb.mono (by omega)))
  have HXa3 := Lib.hid ((hb.block _ (lt_of_row HXa2.out)).trans HXa2.out)
  have HXb3 := Lib.hid ((hb.block _ (lt_of_row HXb2.out)).trans HXb2.out)
  clear hb HVA2 HOA2 HVB2 HOB2 HB2 HXa2 HXb2
  clear HQ2
  obtain ⟨R, hR⟩ : ∃ R, mergedB xs l ys m = R := ⟨_, rfl⟩
  have HR := Lib.hid hR
  obtain ⟨vs, hvs⟩ : ∃ vs, mergedV xs ys R = vs := ⟨_, rfl⟩
  obtain ⟨os, hos⟩ : ∃ os, mergedO xs ys l m R = os := ⟨_, rfl⟩
  have HVs := Lib.hid hvs
  have HOs := Lib.hid hos
  have hlv : vs.length ≤ 4 := by rw [← hvs]; exact mergedVs_len xs ys l m R hR
  have hlo : os.length ≤ 200 := by rw [← hos]; exact mergedOs_len xs ys l m R hR
  clear hR hvs hos
  obtain ⟨c00, c01⟩ := pair_cells HXa3.out
  obtain ⟨c10, c11⟩ := pair_cells HXb3.out
  go_wp2_with fail
  have hc := implMergedK w3 w3.heap.size ava aoa bva boa 4 avc l.length aoc 4 bvc m.length boc xs l ys m (HVA3.out.more (by omega)) (HOA3.out.more (by omega)) (HVB3.out.more (by omega)) (HOB3.out.more (by omega)) (Nat.le_refl _) (by omega) HCa.out.1 ⟨by omega, HCa.out.2.1⟩ HIa.out (by omega) HCb.out.1 ⟨by omega, HCb.out.2.1⟩ HIb.out
  rw [HR.out, HVs.out, HOs.out] at hc
  refine hc.mono ?_
  clear hc
  rintro e w4 ⟨mva, mvc, moa, moc, mid, rfl, hov, hop, hm1, hm2, hb, hcm⟩
  clear c00 c01 c10 c11
  have HCm := Lib.hid hcm
  have hov := hov.more (Nat.le_refl _) hm2
  clear hcm hm1 hm2
  have HQ4 := Lib.hid (HQ3.out.below hb (by omega))
  have hs4 := hb.size
  have HVA4 := Lib.hid (HVA3.out.below hb (by omega))
  have HOA4 := Lib.hid (HOA3.out.below hb (by omega))
  have HVB4 := Lib.hid (HVB3.out.below hb (by omega))
  have HOB4 := Lib.hid (HOB3.out.below hb (by omega))
  have HB4 := Lib.hid (HB3.out.trans (hb.mono (by omega)))
  have HXa4 := Lib.hid ((hb.block _ (lt_of_row HXa3.out)).trans HXa3.out)
  have HXb4 := Lib.hid ((hb.block _ (lt_of_row HXb3.out)).trans HXb3.out)
  have HXe4 := Lib.hid ((hb.block _ (lt_of_row HXe3.out)).trans HXe3.out)
  clear hb HVA3 HOA3 HVB3 HOB3 HB3 HXa3 HXb3 HXe3
  clear HQ3
  have HVM4 := Lib.hid hov.ints
  have HOM4 := Lib.hid hop.ops
  clear hov hop
  go_upto_region 6 with fail
  have hb : Below w4.heap.size w4 (w4.alloc (.cells #[.slice mva vs.length mvc, .slice moa os.length moc] 27)) := (Below.refl _ _).alloc (Nat.le_refl _) _
  have HXm5 := Lib.hid (boxAt (Below.refl _ (w4.alloc (.cells #[.slice mva vs.length mvc, .slice moa os.length moc] 27))))
  generalize w4.alloc (.cells #[.slice mva vs.length mvc, .slice moa os.length moc] 27) = w5 at hb HXm5 ⊢
  have HQ5 := Lib.hid (HQ4.out.below hb (by omega))
  have hs5 := hb.size
  have HVA5 := Lib.hid (HVA4.out.below hb (by omega))
  have HOA5 := Lib.hid (HOA4.out.below hb (by omega))
  have HVB5 := Lib.hid (HVB4.out.below hb (by omega))
  have HOB5 := Lib.hid (HOB4.out.below hb (by omega))
  have HB5 := Lib.hid (HB4.out.trans (hb.mono (by omega)))
  have HXa5 := Lib.hid ((hb.block _ (lt_of_row HXa4.out)).trans HXa4.out)
  have HXb5 := Lib.hid ((hb.block _ (lt_of_row HXb4.out)).trans HXb4.out)
  have HXe5 := Lib.hid ((hb.block _ (lt_of_row HXe4.out)).trans HXe4.out)
  have HVM5 := Lib.hid (HVM4.out.below hb (by omega))
  have HOM5 := Lib.hid (HOM4.out.below hb (by omega))
  clear hb HVA4 HOA4 HVB4 HOB4 HB4 HXa4 HXb4 HXe4 HVM4 HOM4
  clear HQ4
  obtain ⟨c00, c01⟩ := pair_cells HXa5.out
  obtain ⟨c10, c11⟩ := pair_cells HXb5.out
  go_wp2_with fail
  have hc := specMergedC w5 w5.heap.size ava aoa bva boa 4 avc l.length aoc 4 bvc m.length boc xs l ys m (HVA5.out.more (by omega)) (HOA5.out.more (by omega)) (HVB5.out.more (by omega)) (HOB5.out.more (by omega)) (Nat.le_refl _) (by omega) (by omega) HIa.out (by omega) (by omega) HIb.out
  rw [HR.out] at hc
  refine hc.mono ?_
  clear hc
  rintro e w6 ⟨wva, wvc, woa, woc, rfl, _, _, hb, _, _⟩
  clear c00 c01 c10 c11
  have HQ6 := Lib.hid (HQ5.out.below hb (by omega))
  have hs6 := hb.size
  have HVA6 := Lib.hid (HVA5.out.below hb (by omega))
  have HOA6 := Lib.hid (HOA5.out.below hb (by omega))
  have HVB6 := Lib.hid (HVB5.out.below hb (by omega))
  have HOB6 := Lib.hid (HOB5.out.below hb (by omega))
  have HB6 := Lib.hid (HB5.out.trans (hb.mono (by omega)))
  have HXa6 := Lib.hid ((hb.block _ (lt_of_row HXa5.out)).trans HXa5.out)
  have HXb6 := Lib.hid ((hb.block _ (lt_of_row HXb5.out)).trans HXb5.out)
  have HXe6 := Lib.hid ((hb.block _ (lt_of_row HXe5.out)).trans HXe5.out)
  have HVM6 := Lib.hid (HVM5.out.below hb (by omega))
  have HOM6 := Lib.hid (HOM5.out.below hb (by omega))
  have HXm6 := Lib.hid ((hb.block _ (lt_of_row HXm5.out)).trans HXm5.out)
  clear hb HVA5 HOA5 HVB5 HOB5 HB5 HXa5 HXb5 HXe5 HVM5 HOM5 HXm5
  clear HQ5
  generalize mergedVs xs ys R = ws
  generalize mergedOs xs ys l m R = wo
  go_upto_region 7 with fail
  have hb : Below w6.heap.size w6 (w6.alloc (.cells #[.slice wva ws.length wvc, .slice woa wo.length woc] 27)) := (Below.refl _ _).alloc (Nat.le_refl _) _
  have HXw7 := Lib.hid (boxAt (Below.refl _ (w6.alloc (.cells #[.slice wva ws.length wvc, .slice woa wo.length woc] 27))))
  generalize w6.alloc (.cells #[.slice wva ws.length wvc, .slice woa wo.length woc] 27) = w7 at hb HXw7 ⊢
  have HQ7 := Lib.hid (HQ6.out.below hb (by omega))
  have hs7 := hb.size
  have HVA7 := Lib.hid (HVA6.out.below hb (by omega))
  have HOA7 := Lib.hid (HOA6.out.below hb (by omega))
  have HVB7 := Lib.hid (HVB6.out.below hb (by omega))
  have HOB7 := Lib.hid (HOB6.out.below hb (by omega))
  have HB7 := Lib.hid (HB6.out.trans (hb.mono (by omega)))
  have HXa7 := Lib.hid ((hb.block _ (lt_of_row HXa6.out)).trans HXa6.out)
  have HXb7 := Lib.hid ((hb.block _ (lt_of_row HXb6.out)).trans HXb6.out)
  have HXe7 := Lib.hid ((hb.block _ (lt_of_row HXe6.out)).trans HXe6.out)
  have HVM7 := Lib.hid (HVM6.out.below hb (by omega))
  have HOM7 := Lib.hid (HOM6.out.below hb (by omega))
  have HXm7 := Lib.hid ((hb.block _ (lt_of_row HXm6.out)).trans HXm6.out)
  clear hb HVA6 HOA6 HVB6 HOB6 HB6 HXa6 HXb6 HXe6 HVM6 HOM6 HXm6
  clear HQ6
  cases R
  · go_wp2
    go_ret
    exact ⟨rfl, HB7.out⟩
  obtain ⟨cq, hcq⟩ : ∃ b, vecOk qs = b := ⟨_, rfl⟩
  have HCq := Lib.hid hcq
  go_wp2_with fail
  refine (specVecOk w7 w7.heap.size qv nq qc qs (HQ7.out.more (by omega)) (by omega)).mono ?_
  rintro e w8 ⟨rfl, rfl⟩
  rw [hcq]
  clear hcq
  cases cq
  · go_wp2
    go_ret
    exact ⟨rfl, HB7.out⟩
  have hp := mergedB_parts HR.out
  have hcm := cart_merged hp.1 hp.2.1 hp.2.2
  have evs : maxV xs ys = vs := HVs.out
  have eos : mergeL (maxV xs ys) l m = os := HOs.out
  have hmm := cut_merged HR.out HCq.out
  obtain ⟨vx, hvx⟩ : ∃ vx, zipI min vs qs = vx := ⟨_, rfl⟩
  obtain ⟨ox, hox⟩ : ∃ ox, os.filter (cutP qs) = ox := ⟨_, rfl⟩
  obtain ⟨v1, hv1⟩ : ∃ v1, zipI min xs qs = v1 := ⟨_, rfl⟩
  obtain ⟨o1, ho1⟩ : ∃ o1, l.filter (cutP qs) = o1 := ⟨_, rfl⟩
  obtain ⟨v2, hv2⟩ : ∃ v2, zipI min ys qs = v2 := ⟨_, rfl⟩
  obtain ⟨o2, ho2⟩ : ∃ o2, m.filter (cutP qs) = o2 := ⟨_, rfl⟩
  rw [eos, evs, hvx, hox, hv1, ho1, hv2, ho2] at hmm
  rw [eos, evs] at hcm
  have k1 := cart_cut hp.1 HCq.out
  have k2 := cart_cut hp.2.1 HCq.out
  have k3 := cart_cut hcm HCq.out
  rw [hv1, ho1] at k1
  rw [hv2, ho2] at k2
  rw [hvx, hox] at k3
  have HBm : Hid (cutB vs os qs = true) := cut_yes hcm HCq.out
  have HVm : Hid (cutVs vs qs true = vx) := hvx
  have HOm : Hid (cutOs os qs true = ox) := hox
  have HB1' : Hid (cutB xs l qs = true) := cut_yes hp.1 HCq.out
  have HV1' : Hid (cutVs xs qs true = v1) := hv1
  have HO1' : Hid (cutOs l qs true = o1) := ho1
  have HB2' : Hid (cutB ys m qs = true) := cut_yes hp.2.1 HCq.out
  have HV2' : Hid (cutVs ys qs true = v2) := hv2
  have HO2' : Hid (cutOs m qs true = o2) := ho2
  have HB3' := Lib.hid hmm.1
  have HV3' : Hid (mergedV v1 v2 true = vx) := hmm.2.1
  have HO3' : Hid (mergedO v1 v2 o1 o2 true = ox) := hmm.2.2
  have HIm := Lib.hid (items_ok hcm)
  have HI1 := Lib.hid (items_ok k1)
  have HI2 := Lib.hid (items_ok k2)
  have lx : vx.length ≤ 4 := Nat.le_of_eq (cart_vecs k3).1
  have l1 : v1.length ≤ 4 := Nat.le_of_eq (cart_vecs k1).1
  have l2 : v2.length ≤ 4 := Nat.le_of_eq (cart_vecs k2).1
  have lox : ox.length ≤ 200 := by rw [← hox]; exact Nat.le_trans (List.length_filter_le _ _) hlo
  have lo1 : o1.length ≤ 400 := by rw [← ho1]; exact Nat.le_trans (List.length_filter_le _ _) a6
  have lo2 : o2.length ≤ 400 := by rw [← ho2]; exact Nat.le_trans (List.length_filter_le _ _) b6
  clear hp hcm evs eos hmm hvx hox hv1 ho1 hv2 ho2 k1 k2 k3
  obtain ⟨c00, c01⟩ := pair_cells HXm7.out
  go_wp2_with fail
  have hc := implCut w7 w7.heap.size mva moa qv vs.length mvc os.length moc nq qc vs os qs (HVM7.out.more (by omega)) (HOM7.out.more (by omega)) (HQ7.out.more (by omega)) (Nat.le_refl _) (by omega) HCm.out.1 ⟨by omega, HCm.out.2.1⟩ HIm.out (by omega)
  rw [HBm.out, HVm.out, HOm.out] at hc
  refine hc.mono ?_
  clear hc
  rintro e w8 ⟨xva, xvc, xoa, xoc, mid, rfl, hov, hop, hm1, hm2, hb, hcn⟩
  clear c00 c01
  have HCx := Lib.hid hcn
  have hov := hov.more (Nat.le_refl _) hm2
  clear hcn hm1 hm2
  have HQ8 := Lib.hid (HQ7.out.below hb (by omega))
  have hs8 := hb.size
  have HVA8 := Lib.hid (HVA7.out.below hb (by omega))
  have HOA8 := Lib.hid (HOA7.out.below hb (by omega))
  have HVB8 := Lib.hid (HVB7.out.below hb (by omega))
  have HOB8 := Lib.hid (HOB7.out.below hb (by omega))
  have HB8 := Lib.hid (HB7.out.trans (hb.mono (by omega)))
  have HXa8 := Lib.hid ((hb.block _ (lt_of_row HXa7.out)).trans HXa7.out)
  have HXb8 := Lib.hid ((hb.block _ (lt_of_row HXb7.out)).trans HXb7.out)
  have HXe8 := Lib.hid ((hb.block _ (lt_of_row HXe7.out)).trans HXe7.out)
  have HVM8 := Lib.hid (HVM7.out.below hb (by omega))
  have HOM8 := Lib.hid (HOM7.out.below hb (by omega))
  have HXm8 := Lib.hid ((hb.block _ (lt_of_row HXm7.out)).trans HXm7.out)
  have HXw8 := Lib.hid ((hb.block _ (lt_of_row HXw7.out)).trans HXw7.out)
  clear hb HVA7 HOA7 HVB7 HOB7 HB7 HXa7 HXb7 HXe7 HVM7 HOM7 HXm7 HXw7
  clear HQ7
  have HVX8 := Lib.hid hov.ints
  have HOX8 := Lib.hid hop.ops
  clear hov hop
  go_upto_region 10 with fail
  have hb : Below w8.heap.size w8 (w8.alloc (.cells #[.slice xva vx.length xvc, .slice xoa ox.length xoc] 27)) := (Below.refl _ _).alloc (Nat.le_refl _) _
  have HXx9 := Lib.hid (boxAt (Below.refl _ (w8.alloc (.cells #[.slice xva vx.length xvc, .slice xoa ox.length xoc] 27))))
  generalize w8.alloc (.cells #[.slice xva vx.length xvc, .slice xoa ox.length xoc] 27) = w9 at hb HXx9 ⊢
  have HQ9 := Lib.hid (HQ8.out.below hb (by omega))
  have hs9 := hb.size
  have HVA9 := Lib.hid (HVA8.out.below hb (by omega))
  have HOA9 := Lib.hid (HOA8.out.below hb (by omega))
  have HVB9 := Lib.hid (HVB8.out.below hb (by omega))
  have HOB9 := Lib.hid (HOB8.out.below hb (by omega))
  have HB9 := Lib.hid (HB8.out.trans (hb.mono (by omega)))
  have HXa9 := Lib.hid ((hb.block _ (lt_of_row HXa8.out)).trans HXa8.out)
  have HXb9 := Lib.hid ((hb.block _ (lt_of_row HXb8.out)).trans HXb8.out)
  have HXe9 := Lib.hid ((hb.block _ (lt_of_row HXe8.out)).trans HXe8.out)
  have HVM9 := Lib.hid (HVM8.out.below hb (by omega))
  have HOM9 := Lib.hid (HOM8.out.below hb (by omega))
  have HXm9 := Lib.hid ((hb.block _ (lt_of_row HXm8.out)).trans HXm8.out)
  have HXw9 := Lib.hid ((hb.block _ (lt_of_row HXw8.out)).trans HXw8.out)
  have HVX9 := Lib.hid (HVX8.out.below hb (by omega))
  have HOX9 := Lib.hid (HOX8.out.below hb (by omega))
  clear hb HVA8 HOA8 HVB8 HOB8 HB8 HXa8 HXb8 HXe8 HVM8 HOM8 HXm8 HXw8 HVX8 HOX8
  clear HQ8
  obtain ⟨c00, c01⟩ := pair_cells HXa9.out
  go_wp2_with fail
  have hc := implCut w9 w9.heap.size ava aoa qv 4 avc l.length aoc nq qc xs l qs (HVA9.out.more (by omega)) (HOA9.out.more (by omega)) (HQ9.out.more (by omega)) (Nat.le_refl _) (by omega) HCa.out.1 ⟨by omega, HCa.out.2.1⟩ HIa.out (by omega)
  rw [HB1'.out, HV1'.out, HO1'.out] at hc
  refine hc.mono ?_
  clear hc
  rintro e w10 ⟨cva, cvc, coa, coc, mid, rfl, hov, hop, hm1, hm2, hb, hcn⟩
  clear c00 c01
  have HCc := Lib.hid hcn
  have hov := hov.more (Nat.le_refl _) hm2
  clear hcn hm1 hm2
  have HQ10 := Lib.hid (HQ9.out.below hb (by omega))
  have hs10 := hb.size
  have HVA10 := Lib.hid (HVA9.out.below hb (by omega))
  have HOA10 := Lib.hid (HOA9.out.below hb (by omega))
  have HVB10 := Lib.hid (HVB9.out.below hb (by omega))
  have HOB10 := Lib.hid (HOB9.out.below hb (by omega))
  have HB10 := Lib.hid (HB9.out.trans (hb.mono (by omega)))
  have HXa10 := Lib.hid ((hb.block _ (lt_of_row HXa9.out)).trans HXa9.out)
  have HXb10 := Lib.hid ((hb.block _ (lt_of_row HXb9.out)).trans HXb9.out)
  have HXe10 := Lib.hid ((hb.block _ (lt_of_row HXe9.out)).trans HXe9.out)
  have HVM10 := Lib.hid (HVM9.out.below hb (by omega))
  have HOM10 := Lib.hid (HOM9.out.below hb (by omega))
  have HXm10 := Lib.hid ((hb.block _ (lt_of_row HXm9.out)).trans HXm9.out)
  have HXw10 := Lib.hid ((hb.block _ (lt_of_row HXw9.out)).trans HXw9.out)
  have HVX10 := Lib.hid (HVX9.out.below hb (by omega))
  have HOX10 := Lib.hid (HOX9.out.below hb (by omega))
  have HXx10 := Lib.hid ((hb.block _ (lt_of_row HXx9.out)).trans HXx9.out)
  clear hb HVA9 HOA9 HVB9 HOB9 HB9 HXa9 HXb9 HXe9 HVM9 HOM9 HXm9 HXw9 HVX9 HOX9 HXx9
  clear HQ9
  have HVC10 := Lib.hid hov.ints
  have HOC10 := Lib.hid hop.ops
  clear hov hop
  go_upto_region 11 with fail
  have hb : Below w10.heap.size w10 (w10.alloc (.cells #[.slice cva v1.length cvc, .slice coa o1.length coc] 27)) := (Below.refl _ _).alloc (Nat.le_refl _) _
  have HXc11 := Lib.hid (boxAt (Below.refl _ (w10.alloc (.cells #[.slice cva v1.length cvc, .slice coa o1.length coc] 27))))
  generalize w10.alloc (.cells #[.slice cva v1.length cvc, .slice coa o1.length coc] 27) = w11 at hb HXc11 ⊢
  have HQ11 := Lib.hid (HQ10.out.below hb (by omega))
  have hs11 := hb.size
  have HVA11 := Lib.hid (HVA10.out.below hb (by omega))
  have HOA11 := Lib.hid (HOA10.out.below hb (by omega))
  have HVB11 := Lib.hid (HVB10.out.below hb (by omega))
  have HOB11 := Lib.hid (HOB10.out.below hb (by omega))
  have HB11 := Lib.hid (HB10.out.trans (hb.mono (by omega)))
  have HXa11 := Lib.hid ((hb.block _ (lt_of_row HXa10.out)).trans HXa10.out)
  have HXb11 := Lib.hid ((hb.block _ (lt_of_row HXb10.out)).trans HXb10.out)
  have HXe11 := Lib.hid ((hb.block _ (lt_of_row HXe10.out)).trans HXe10.out)
  have HVM11 := Lib.hid (HVM10.out.below hb (by omega))
  have HOM11 := Lib.hid (HOM10.out.below hb (by omega))
  have HXm11 := Lib.hid ((hb.block _ (lt_of_row HXm10.out)).trans HXm10.out)
  have HXw11 := Lib.hid ((hb.block _ (lt_of_row HXw10.out)).trans HXw10.out)
  have HVX11 := Lib.hid (HVX10.out.below hb (by omega))
  have HOX11 := Lib.hid (HOX10.out.below hb (by omega))
  have HXx11 := Lib.hid ((hb.block _ (lt_of_row HXx10.out)).trans HXx10.out)
  have HVC11 := Lib.hid (HVC10.out.below hb (by omega))
  have HOC11 := Lib.hid (HOC10.out.below hb (by omega))
  clear hb HVA10 HOA10 HVB10 HOB10 HB10 HXa10 HXb10 HXe10 HVM10 HOM10 HXm10 HXw10 HVX10 HOX10 HXx10 HVC10 HOC10
  clear HQ10
  obtain ⟨c00, c01⟩ := pair_cells HXb11.out
  go_wp2_with fail
  have hc := implCut w11 w11.heap.size bva boa qv 4 bvc m.length boc nq qc ys m qs (HVB11.out.more (by omega)) (HOB11.out.more (by omega)) (HQ11.out.more (by omega)) (Nat.le_refl _) (by omega) HCb.out.1 ⟨by omega, HCb.out.2.1⟩ HIb.out (by omega)
  rw [HB2'.out, HV2'.out, HO2'.out] at hc
  refine hc.mono ?_
  clear hc
  rintro e w12 ⟨dva, dvc, doa, doc, mid, rfl, hov, hop, hm1, hm2, hb, hcn⟩
  clear c00 c01
  have HCd := Lib.hid hcn
  have hov := hov.more (Nat.le_refl _) hm2
  clear hcn hm1 hm2
  have HQ12 := Lib.hid (HQ11.out.below hb (by omega))
  have hs12 := hb.size
  have HVA12 := Lib.hid (HVA11.out.below hb (by omega))
  have HOA12 := Lib.hid (HOA11.out.below hb (by omega))
  have HVB12 := Lib.hid (HVB11.out.below hb (by omega))
  have HOB12 := Lib.hid (HOB11.out.below hb (by omega))
  have HB12 := Lib.hid (HB11.out.trans (hb.mono (by omega)))
  have HXa12 := Lib.hid ((hb.block _ (lt_of_row HXa11.out)).trans HXa11.out)
  have HXb12 := Lib.hid ((hb.block _ (lt_of_row HXb11.out)).trans HXb11.out)
  have HXe12 := Lib.hid ((hb.block _ (lt_of_row HXe11.out)).trans HXe11.out)
  have HVM12 := Lib.hid (HVM11.out.below hb (by omega))
  have HOM12 := Lib.hid (HOM11.out.below hb (by omega))
  have HXm12 := Lib.hid ((hb.block _ (lt_of_row HXm11.out)).trans HXm11.out)
  have HXw12 := Lib.hid ((hb.block _ (lt_of_row HXw11.out)).trans HXw11.out)
  have HVX12 := Lib.hid (HVX11.out.below hb (by omega))
  have HOX12 := Lib.hid (HOX11.out.below hb (by omega))
  have HXx12 := Lib.hid ((hb.block _ (lt_of_row HXx11.out)).trans HXx11.out)
  have HVC12 := Lib.hid (HVC11.out.below hb (by omega))
  have HOC12 := Lib.hid (HOC11.out.below hb (by omega))
  have HXc12 := Lib.hid ((hb.block _ (lt_of_row HXc11.out)).trans HXc11.out)
  clear hb HVA11 HOA11 HVB11 HOB11 HB11 HXa11 HXb11 HXe11 HVM11 HOM11 HXm11 HXw11 HVX11 HOX11 HXx11 HVC11 HOC11 HXc11
  clear HQ11
  have HVD12 := Lib.hid hov.ints
  have HOD12 := Lib.hid hop.ops
  clear hov hop
  go_upto_region 12 with fail
  have hb : Below w12.heap.size w12 (w12.alloc (.cells #[.slice dva v2.length dvc, .slice doa o2.length doc] 27)) := (Below.refl _ _).alloc (Nat.le_refl _) _
  have HXd13 := Lib.hid (boxAt (Below.refl _ (w12.alloc (.cells #[.slice dva v2.length dvc, .slice doa o2.length doc] 27))))
  generalize w12.alloc (.cells #[.slice dva v2.length dvc, .slice doa o2.length doc] 27) = w13 at hb HXd13 ⊢
  have HQ13 := Lib.hid (HQ12.out.below hb (by omega))
  have hs13 := hb.size
  have HVA13 := Lib.hid (HVA12.out.below hb (by omega))
  have HOA13 := Lib.hid (HOA12.out.below hb (by omega))
  have HVB13 := Lib.hid (HVB12.out.below hb (by omega))
  have HOB13 := Lib.hid (HOB12.out.below hb (by omega))
  have HB13 := Lib.hid (HB12.out.trans (hb.mono (by omega)))
  have HXa13 := Lib.hid ((hb.block _ (lt_of_row HXa12.out)).trans HXa12.out)
  have HXb13 := Lib.hid ((hb.block _ (lt_of_row HXb12.out)).trans HXb12.out)
  have HXe13 := Lib.hid ((hb.block _ (lt_of_row HXe12.out)).trans HXe12.out)
  have HVM13 := Lib.hid (HVM12.out.below hb (by omega))
  have HOM13 := Lib.hid (HOM12.out.below hb (by omega))
  have HXm13 := Lib.hid ((hb.block _ (lt_of_row HXm12.out)).trans HXm12.out)
  have HXw13 := Lib.hid ((hb.block _ (lt_of_row HXw12.out)).trans HXw12.out)
  have HVX13 := Lib.hid (HVX12.out.below hb (by omega))
  have HOX13 := Lib.hid (HOX12.out.below hb (by omega))
  have HXx13 := Lib.hid ((hb.block _ (lt_of_row HXx12.out)).trans HXx12.out)
  have HVC13 := Lib.hid (HVC12.out.below hb (by omega))
  have HOC13 := Lib.hid (HOC12.out.below hb (by omega))
  have HXc13 := Lib.hid ((hb.block _ (lt_of_row HXc12.out)).trans HXc12.out)
  have HVD13 := Lib.hid (HVD12.out.below hb (by omega))
  have HOD13 := Lib.hid (HOD12.out.below hb (by omega))
  clear hb HVA12 HOA12 HVB12 HOB12 HB12 HXa12 HXb12 HXe12 HVM12 HOM12 HXm12 HXw12 HVX12 HOX12 HXx12 HVC12 HOC12 HXc12 HVD12 HOD12
  clear HQ12
  obtain ⟨c00, c01⟩ := pair_cells HXc13.out
  obtain ⟨c10, c11⟩ := pair_cells HXd13.out
  go_wp2_with fail
  have hc := implMergedK w13 w13.heap.size cva coa dva doa v1.length cvc o1.length coc v2.length dvc o2.length doc v1 o1 v2 o2 (HVC13.out.more (by omega)) (HOC13.out.more (by omega)) (HVD13.out.more (by omega)) (HOD13.out.more (by omega)) (Nat.le_refl _) (by omega) HCc.out.1 ⟨by omega, HCc.out.2.1⟩ HI1.out (by omega) HCd.out.1 ⟨by omega, HCd.out.2.1⟩ HI2.out
  rw [HB3'.out, HV3'.out, HO3'.out] at hc
  refine hc.mono ?_
  clear hc
  rintro e w14 ⟨yva, yvc, yoa, yoc, mid, rfl, hov, hop, hm1, hm2, hb, hcn⟩
  clear c00 c01 c10 c11
  have HCy := Lib.hid hcn
  have hov := hov.more (Nat.le_refl _) hm2
  clear hcn hm1 hm2
  have HQ14 := Lib.hid (HQ13.out.below hb (by omega))
  have hs14 := hb.size
  have HVA14 := Lib.hid (HVA13.out.below hb (by omega))
  have HOA14 := Lib.hid (HOA13.out.below hb (by omega))
  have HVB14 := Lib.hid (HVB13.out.below hb (by omega))
  have HOB14 := Lib.hid (HOB13.out.below hb (by omega))
  have HB14 := Lib.hid (HB13.out.trans (hb.mono (by omega)))
  have HXa14 := Lib.hid ((hb.block _ (lt_of_row HXa13.out)).trans HXa13.out)
  have HXb14 := Lib.hid ((hb.block _ (lt_of_row HXb13.out)).trans HXb13.out)
  have HXe14 := Lib.hid ((hb.block _ (lt_of_row HXe13.out)).trans HXe13.out)
  have HVM14 := Lib.hid (HVM13.out.below hb (by omega))
  have HOM14 := Lib.hid (HOM13.out.below hb (by omega))
  have HXm14 := Lib.hid ((hb.block _ (lt_of_row HXm13.out)).trans HXm13.out)
  have HXw14 := Lib.hid ((hb.block _ (lt_of_row HXw13.out)).trans HXw13.out)
  have HVX14 := Lib.hid (HVX13.out.below hb (by omega))
  have HOX14 := Lib.hid (HOX13.out.below hb (by omega))
  have HXx14 := Lib.hid ((hb.block _ (lt_of_row HXx13.out)).trans HXx13.out)
  have HVC14 := Lib.hid (HVC13.out.below hb (by omega))
  have HOC14 := Lib.hid (HOC13.out.below hb (by omega))
  have HXc14 := Lib.hid ((hb.block _ (lt_of_row HXc13.out)).trans HXc13.out)
  have HVD14 := Lib.hid (HVD13.out.below hb (by omega))
  have HOD14 := Lib.hid (HOD13.out.below hb (by omega))
  have HXd14 := Lib.hid ((hb.block _ (lt_of_row HXd13.out)).trans HXd13.out)
  clear hb HVA13 HOA13 HVB13 HOB13 HB13 HXa13 HXb13 HXe13 HVM13 HOM13 HXm13 HXw13 HVX13 HOX13 HXx13 HVC13 HOC13 HXc13 HVD13 HOD13 HXd13
  clear HQ13
  have HVY14 := Lib.hid hov.ints
  have HOY14 := Lib.hid hop.ops
  clear hov hop
  go_upto_region 13 with fail
  have hb : Below w14.heap.size w14 (w14.alloc (.cells #[.slice yva vx.length yvc, .slice yoa ox.length yoc] 27)) := (Below.refl _ _).alloc (Nat.le_refl _) _
  have HXy15 := Lib.hid (boxAt (Below.refl _ (w14.alloc (.cells #[.slice yva vx.length yvc, .slice yoa ox.length yoc] 27))))
  generalize w14.alloc (.cells #[.slice yva vx.length yvc, .slice yoa ox.length yoc] 27) = w15 at hb HXy15 ⊢
  have HQ15 := Lib.hid (HQ14.out.below hb (by omega))
  have hs15 := hb.size
  have HVA15 := Lib.hid (HVA14.out.below hb (by omega))
  have HOA15 := Lib.hid (HOA14.out.below hb (by omega))
  have HVB15 := Lib.hid (HVB14.out.below hb (by omega))
  have HOB15 := Lib.hid (HOB14.out.below hb (by omega))
  have HB15 := Lib.hid (HB14.out.trans (hb.mono (by omega)))
  have HXa15 := Lib.hid ((hb.block _ (lt_of_row HXa14.out)).trans HXa14.out)
  have HXb15 := Lib.hid ((hb.block _ (lt_of_row HXb14.out)).trans HXb14.out)
  have HXe15 := Lib.hid ((hb.block _ (lt_of_row HXe14.out)).trans HXe14.out)
  have HVM15 := Lib.hid (HVM14.out.below hb (by omega))
  have HOM15 := Lib.hid (HOM14.out.below hb (by omega))
  have HXm15 := Lib.hid ((hb.block _ (lt_of_row HXm14.out)).trans HXm14.out)
  have HXw15 := Lib.hid ((hb.block _ (lt_of_row HXw14.out)).trans HXw14.out)
  have HVX15 := Lib.hid (HVX14.out.below hb (by omega))
  have HOX15 := Lib.hid (HOX14.out.below hb (by omega))
  have HXx15 := Lib.hid ((hb.block _ (lt_of_row HXx14.out)).trans HXx14.out)
  have HVC15 := Lib.hid (HVC14.out.below hb (by omega))
  have HOC15 := Lib.hid (HOC14.out.below hb (by omega))
  have HXc15 := Lib.hid ((hb.block _ (lt_of_row HXc14.out)).trans HXc14.out)
  have HVD15 := Lib.hid (HVD14.out.below hb (by omega))
  have HOD15 := Lib.hid (HOD14.out.below hb (by omega))
  have HXd15 := Lib.hid ((hb.block _ (lt_of_row HXd14.out)).trans HXd14.out)
  have HVY15 := Lib.hid (HVY14.out.below hb (by omega))
  have HOY15 := Lib.hid (HOY14.out.below hb (by omega))
  clear hb HVA14 HOA14 HVB14 HOB14 HB14 HXa14 HXb14 HXe14 HVM14 HOM14 HXm14 HXw14 HVX14 HOX14 HXx14 HVC14 HOC14 HXc14 HVD14 HOD14 HXd14 HVY14 HOY14
  clear HQ14
  obtain ⟨c00, c01⟩ := pair_cells HXx15.out
  obtain ⟨c10, c11⟩ := pair_cells HXy15.out
  go_wp2_with fail
  refine (sameCart w15 w15.heap.size xva xoa yva yoa vx.length xvc ox.length xoc vx.length yvc ox.length yoc vx ox vx ox (HVX15.out.more (by omega)) (HOX15.out.more (by omega)) (HVY15.out.more (by omega)) (HOY15.out.more (by omega)) (Nat.le_refl _) (by omega) (by omega) (by omega) (by omega)).mono ?_
  rintro e w16 ⟨rfl, hb⟩
  rw [decide_eq_true rfl, decide_eq_true rfl]
  clear c00 c01 c10 c11
  have HQ16 := Lib.hid (HQ15.out.below hb (by omega))
  have hs16 := hb.size
  have HVA16 := Lib.hid (HVA15.out.below hb (by omega))
  have HOA16 := Lib.hid (HOA15.out.below hb (by omega))
  have HVB16 := Lib.hid (HVB15.out.below hb (by omega))
  have HOB16 := Lib.hid (HOB15.out.below hb (by omega))
  have HB16 := Lib.hid (HB15.out.trans (hb.mono (by omega)))
  have HXa16 := Lib.hid ((hb.block _ (lt_of_row HXa15.out)).trans HXa15.out)
  have HXb16 := Lib.hid ((hb.block _ (lt_of_row HXb15.out)).trans HXb15.out)
  have HXe16 := Lib.hid ((hb.block _ (lt_of_row HXe15.out)).trans HXe15.out)
  have HVM16 := Lib.hid (HVM15.out.below hb (by omega))
  have HOM16 := Lib.hid (HOM15.out.below hb (by omega))
  have HXm16 := Lib.hid ((hb.block _ (lt_of_row HXm15.out)).trans HXm15.out)
  have HXw16 := Lib.hid ((hb.block _ (lt_of_row HXw15.out)).trans HXw15.out)
  have HVX16 := Lib.hid (HVX15.out.below hb (by omega))
  have HOX16 := Lib.hid (HOX15.out.below hb (by omega))
  have HXx16 := Lib.hid ((hb.block _ (lt_of_row HXx15.out)).trans HXx15.out)
  have HVC16 := Lib.hid (HVC15.out.below hb (by omega))
  have HOC16 := Lib.hid (HOC15.out.below hb (by omega))
  have HXc16 := Lib.hid ((hb.block _ (lt_of_row HXc15.out)).trans HXc15.out)
  have HVD16 := Lib.hid (HVD15.out.below hb (by omega))
  have HOD16 := Lib.hid (HOD15.out.below hb (by omega))
  have HXd16 := Lib.hid ((hb.block _ (lt_of_row HXd15.out)).trans HXd15.out)
  have HVY16 := Lib.hid (HVY15.out.below hb (by omega))
  have HOY16 := Lib.hid (HOY15.out.below hb (by omega))
  have HXy16 := Lib.hid ((hb.block _ (lt_of_row HXy15.out)).trans HXy15.out)
  clear hb HVA15 HOA15 HVB15 HOB15 HB15 HXa15 HXb15 HXe15 HVM15 HOM15 HXm15 HXw15 HVX15 HOX15 HXx15 HVC15 HOC15 HXc15 HVD15 HOD15 HXd15 HVY15 HOY15 HXy15
  clear HQ15
  go_wp2
  go_ret
  exact ⟨rfl, HB16.out⟩
end Go.Proofs.Ythfkoplljinmmaa
