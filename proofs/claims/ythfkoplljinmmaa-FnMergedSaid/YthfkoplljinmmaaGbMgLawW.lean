/- The walk of the law FnMerged. -/
import Derived.Test.YthfkoplljinmmaaGb34
import Derived.Test.YthfkoplljinmmaaGb23
import Derived.Test.YthfkoplljinmmaaGb26
import Derived.Deep.Cut
import Derived.Test.YthfkoplljinmmaaGbS
namespace Go.Proofs.Ythfkoplljinmmaa
open Go.RowKit
set_option linter.unusedVariables false
set_option linter.unusedSimpArgs false

set_option maxRecDepth 100000 in
set_option maxHeartbeats 16000000 in
theorem fnMergedWalk (a : Option Addr) (len cap : Nat) (zs : List Int) (w : World) (h : IsRow .u8 w a len cap zs) :
    Calls Try.prog 3 #[.slice a len cap] w fun e w' => e = .returned (.bool true) ∧ Below w.heap.size w w' := by
  by_cases hbig : len ≤ 1048576
  rotate_left
  · go_enter Try.func3, Try.ntmps3
    go_wp2_with fail
    refine (bigYes a len cap hbig w).mono ?_
    rintro e w' ⟨rfl, rfl⟩
    go_wp2
    go_ret
    exact ⟨rfl, Below.refl _ _⟩
  have hsrc := Lib.hid (src_of_row h hbig)
  clear h
  go_enter Try.func3, Try.ntmps3
  go_wp2_with fail
  refine (bigNo a len cap hbig w).mono ?_
  rintro e w' ⟨rfl, rfl⟩
  go_wp2_with fail
  refine (drawMerged w w.heap.size a len cap (Nat.le_refl _) hsrc.out).mono ?_
  rintro e w0 ⟨⟨ava, avc, aoa, ano, aoc⟩, ⟨bva, bvc, boa, bno, boc⟩, rfl, hx, hy, hb0⟩
  obtain ⟨xs, l, e1, a1, a2, a3, a4, a5, a6⟩ := hx
  obtain ⟨ys, m, e2, b1, b2, b3, b4, b5, b6⟩ := hy
  have e1 : ano = l.length := e1
  have e2 : bno = m.length := e2
  subst e1 e2
  have HVA0 := Lib.hid a1.ints
  have HOA0 := Lib.hid a2.ops
  have HVB0 := Lib.hid b1.ints
  have HOB0 := Lib.hid b2.ops
  have HB0 := Lib.hid hb0
  have HCa := Lib.hid a4
  have HCb := Lib.hid b4
  have HIa : Hid (∀ i, i < l.length → (atOp l i).item.size ≤ 1048576) := fun i hi => Nat.le_trans (a5 i hi) (by omega)
  have HIb : Hid (∀ i, i < m.length → (atOp m i).item.size ≤ 1048576) := fun i hi => Nat.le_trans (b5 i hi) (by omega)
  have hs0 := hb0.size
  clear a1 a2 a3 a4 a5 b1 b2 b3 b4 b5 hb0
  dsimp only
  go_upto_region 4 with fail
  have hT := Two.mk0 w0 #[.slice ava 4 avc, .slice aoa l.length aoc] #[.slice bva 4 bvc, .slice boa m.length boc] 27
  have HXa1 := Lib.hid hT.fst
  have HXb1 := Lib.hid hT.snd
  have hb := hT.bel
  clear hT
  generalize (w0.alloc (.cells #[.slice ava 4 avc, .slice aoa l.length aoc] 27)).alloc (.cells #[.slice bva 4 bvc, .slice boa m.length boc] 27) = w1 at hb HXa1 HXb1 ⊢
  have hs1 := hb.size
  have HVA1 := Lib.hid (HVA0.out.below hb (by omega))
  have HOA1 := Lib.hid (HOA0.out.below hb (by omega))
  have HVB1 := Lib.hid (HVB0.out.below hb (by omega))
  have HOB1 := Lib.hid (HOB0.out.below hb (by omega))
  have HB1 := Lib.hid (HB0.out.trans (hb.mono (by omega)))
  clear hb HVA0 HOA0 HVB0 HOB0 HB0
  obtain ⟨R, hR⟩ : ∃ R, mergedB xs l ys m = R := ⟨_, rfl⟩
  have HR := Lib.hid hR
  obtain ⟨vs, hvs⟩ : ∃ vs, mergedV xs ys R = vs := ⟨_, rfl⟩
  obtain ⟨os, hos⟩ : ∃ os, mergedO xs ys l m R = os := ⟨_, rfl⟩
  have HVs := Lib.hid hvs
  have HOs := Lib.hid hos
  have hlv : vs.length ≤ 4 := by rw [← hvs]; exact mergedVs_len xs ys l m R hR
  have hlo : os.length ≤ 200 := by rw [← hos]; exact mergedOs_len xs ys l m R hR
  clear hR hvs hos
  obtain ⟨c00, c01⟩ := pair_cells HXa1.out
  obtain ⟨c10, c11⟩ := pair_cells HXb1.out
  go_wp2_with fail
  have hc := implMergedK w1 w1.heap.size ava aoa bva boa 4 avc l.length aoc 4 bvc m.length boc xs l ys m (HVA1.out.more (by omega)) (HOA1.out.more (by omega)) (HVB1.out.more (by omega)) (HOB1.out.more (by omega)) (Nat.le_refl _) (by omega) HCa.out.1 ⟨by omega, HCa.out.2.1⟩ HIa.out (by omega) HCb.out.1 ⟨by omega, HCb.out.2.1⟩ HIb.out
  rw [HR.out, HVs.out, HOs.out] at hc
  refine hc.mono ?_
  clear hc
  rintro e w2 ⟨mva, mvc, moa, moc, mid, rfl, hov, hop, hm1, hm2, hb, hcm⟩
  clear c00 c01 c10 c11
  have HCm := Lib.hid hcm
  have hov := hov.more (Nat.le_refl _) hm2
  clear hcm hm1 hm2
  have hs2 := hb.size
  have HVA2 := Lib.hid (HVA1.out.below hb (by omega))
  have HOA2 := Lib.hid (HOA1.out.below hb (by omega))
  have HVB2 := Lib.hid (HVB1.out.below hb (by omega))
  have HOB2 := Lib.hid (HOB1.out.below hb (by omega))
  have HB2 := Lib.hid (HB1.out.trans (hb.mono (by omega)))
  have HXa2 := Lib.hid ((hb.block _ (lt_of_row HXa1.out)).trans HXa1.out)
  have HXb2 := Lib.hid ((hb.block _ (lt_of_row HXb1.out)).trans HXb1.out)
  clear hb HVA1 HOA1 HVB1 HOB1 HB1 HXa1 HXb1
  have HVM2 := Lib.hid hov.ints
  have HOM2 := Lib.hid hop.ops
  clear hov hop
  go_upto_region 5 with fail
  have hb : Below w2.heap.size w2 (w2.alloc (.cells #[.slice mva vs.length mvc, .slice moa os.length moc] 27)) := (Below.refl _ _).alloc (Nat.le_refl _) _
  have HXm3 := Lib.hid (boxAt (Below.refl _ (w2.alloc (.cells #[.slice mva vs.length mvc, .slice moa os.length moc] 27))))
  generalize w2.alloc (.cells #[.slice mva vs.length mvc, .slice moa os.length moc] 27) = w3 at hb HXm3 ⊢
  have hs3 := hb.size
  have HVA3 := Lib.hid (HVA2.out.below hb (by omega))
  have HOA3 := Lib.hid (HOA2.out.below hb (by omega))
  have HVB3 := Lib.hid (HVB2.out.below hb (by omega))
  have HOB3 := Lib.hid (HOB2.out.below hb (by omega))
  have HB3 := Lib.hid (HB2.out.trans (hb.mono (by omega)))
  have HXa3 := Lib.hid ((hb.block _ (lt_of_row HXa2.out)).trans HXa2.out)
  have HXb3 := Lib.hid ((hb.block _ (lt_of_row HXb2.out)).trans HXb2.out)
  have HVM3 := Lib.hid (HVM2.out.below hb (by omega))
  have HOM3 := Lib.hid (HOM2.out.below hb (by omega))
  clear hb HVA2 HOA2 HVB2 HOB2 HB2 HXa2 HXb2 HVM2 HOM2
  obtain ⟨c00, c01⟩ := pair_cells HXa3.out
  obtain ⟨c10, c11⟩ := pair_cells HXb3.out
  go_wp2_with fail
  have hc := specMergedC w3 w3.heap.size ava aoa bva boa 4 avc l.length aoc 4 bvc m.length boc xs l ys m (HVA3.out.more (by omega)) (HOA3.out.more (by omega)) (HVB3.out.more (by omega)) (HOB3.out.more (by omega)) (Nat.le_refl _) (by omega) (by omega) HIa.out (by omega) (by omega) HIb.out
  have e3 : mergedVs xs ys R = vs := HVs.out
  have e4 : mergedOs xs ys l m R = os := HOs.out
  rw [HR.out, e3, e4] at hc
  clear e3 e4
  refine hc.mono ?_
  clear hc
  rintro e w4 ⟨wva, wvc, woa, woc, rfl, hov, hop, hb, _, _⟩
  clear c00 c01 c10 c11
  have hs4 := hb.size
  have HVA4 := Lib.hid (HVA3.out.below hb (by omega))
  have HOA4 := Lib.hid (HOA3.out.below hb (by omega))
  have HVB4 := Lib.hid (HVB3.out.below hb (by omega))
  have HOB4 := Lib.hid (HOB3.out.below hb (by omega))
  have HB4 := Lib.hid (HB3.out.trans (hb.mono (by omega)))
  have HXa4 := Lib.hid ((hb.block _ (lt_of_row HXa3.out)).trans HXa3.out)
  have HXb4 := Lib.hid ((hb.block _ (lt_of_row HXb3.out)).trans HXb3.out)
  have HVM4 := Lib.hid (HVM3.out.below hb (by omega))
  have HOM4 := Lib.hid (HOM3.out.below hb (by omega))
  have HXm4 := Lib.hid ((hb.block _ (lt_of_row HXm3.out)).trans HXm3.out)
  clear hb HVA3 HOA3 HVB3 HOB3 HB3 HXa3 HXb3 HVM3 HOM3 HXm3
  have HVW4 := Lib.hid hov.ints
  have HOW4 := Lib.hid hop.ops
  clear hov hop
  go_upto_region 6 with fail
  have hb : Below w4.heap.size w4 (w4.alloc (.cells #[.slice wva vs.length wvc, .slice woa os.length woc] 27)) := (Below.refl _ _).alloc (Nat.le_refl _) _
  have HXw5 := Lib.hid (boxAt (Below.refl _ (w4.alloc (.cells #[.slice wva vs.length wvc, .slice woa os.length woc] 27))))
  generalize w4.alloc (.cells #[.slice wva vs.length wvc, .slice woa os.length woc] 27) = w5 at hb HXw5 ⊢
  have hs5 := hb.size
  have HVA5 := Lib.hid (HVA4.out.below hb (by omega))
  have HOA5 := Lib.hid (HOA4.out.below hb (by omega))
  have HVB5 := Lib.hid (HVB4.out.below hb (by omega))
  have HOB5 := Lib.hid (HOB4.out.below hb (by omega))
  have HB5 := Lib.hid (HB4.out.trans (hb.mono (by omega)))
  have HXa5 := Lib.hid ((hb.block _ (lt_of_row HXa4.out)).trans HXa4.out)
  have HXb5 := Lib.hid ((hb.block _ (lt_of_row HXb4.out)).trans HXb4.out)
  have HVM5 := Lib.hid (HVM4.out.below hb (by omega))
  have HOM5 := Lib.hid (HOM4.out.below hb (by omega))
  have HXm5 := Lib.hid ((hb.block _ (lt_of_row HXm4.out)).trans HXm4.out)
  have HVW5 := Lib.hid (HVW4.out.below hb (by omega))
  have HOW5 := Lib.hid (HOW4.out.below hb (by omega))
  clear hb HVA4 HOA4 HVB4 HOB4 HB4 HXa4 HXb4 HVM4 HOM4 HXm4 HVW4 HOW4
  obtain ⟨c00, c01⟩ := pair_cells HXm5.out
  obtain ⟨c10, c11⟩ := pair_cells HXw5.out
  go_wp2_with fail
  refine (sameCart w5 w5.heap.size mva moa wva woa vs.length mvc os.length moc vs.length wvc os.length woc vs os vs os (HVM5.out.more (by omega)) (HOM5.out.more (by omega)) (HVW5.out.more (by omega)) (HOW5.out.more (by omega)) (Nat.le_refl _) (by omega) (by omega) (by omega) (by omega)).mono ?_
  rintro e w6 ⟨rfl, hb⟩
  rw [decide_eq_true rfl, decide_eq_true rfl]
  clear c00 c01 c10 c11
  have hs6 := hb.size
  have HVA6 := Lib.hid (HVA5.out.below hb (by omega))
  have HOA6 := Lib.hid (HOA5.out.below hb (by omega))
  have HVB6 := Lib.hid (HVB5.out.below hb (by omega))
  have HOB6 := Lib.hid (HOB5.out.below hb (by omega))
  have HB6 := Lib.hid (HB5.out.trans (hb.mono (by omega)))
  have HXa6 := Lib.hid ((hb.block _ (lt_of_row HXa5.out)).trans HXa5.out)
  have HXb6 := Lib.hid ((hb.block _ (lt_of_row HXb5.out)).trans HXb5.out)
  have HVM6 := Lib.hid (HVM5.out.below hb (by omega))
  have HOM6 := Lib.hid (HOM5.out.below hb (by omega))
  have HXm6 := Lib.hid ((hb.block _ (lt_of_row HXm5.out)).trans HXm5.out)
  have HVW6 := Lib.hid (HVW5.out.below hb (by omega))
  have HOW6 := Lib.hid (HOW5.out.below hb (by omega))
  have HXw6 := Lib.hid ((hb.block _ (lt_of_row HXw5.out)).trans HXw5.out)
  clear hb HVA5 HOA5 HVB5 HOB5 HB5 HXa5 HXb5 HVM5 HOM5 HXm5 HVW5 HOW5 HXw5
  cases R
  · skip
    obtain ⟨c00, c01⟩ := pair_cells HXm6.out
    obtain ⟨c10, c11⟩ := pair_cells HXw6.out
    go_wp2_with fail
    refine (sameCart w6 w6.heap.size mva moa wva woa vs.length mvc os.length moc vs.length wvc os.length woc vs os vs os (HVM6.out.more (by omega)) (HOM6.out.more (by omega)) (HVW6.out.more (by omega)) (HOW6.out.more (by omega)) (Nat.le_refl _) (by omega) (by omega) (by omega) (by omega)).mono ?_
    rintro e w7 ⟨rfl, hb⟩
    rw [decide_eq_true rfl, decide_eq_true rfl]
    clear c00 c01 c10 c11
    have hs7 := hb.size
    have HVA7 := Lib.hid (HVA6.out.below hb (by omega))
    have HOA7 := Lib.hid (HOA6.out.below hb (by omega))
    have HVB7 := Lib.hid (HVB6.out.below hb (by omega))
    have HOB7 := Lib.hid (HOB6.out.below hb (by omega))
    have HB7 := Lib.hid (HB6.out.trans (hb.mono (by omega)))
    have HXa7 := Lib.hid ((hb.block _ (lt_of_row HXa6.out)).trans HXa6.out)
    have HXb7 := Lib.hid ((hb.block _ (lt_of_row HXb6.out)).trans HXb6.out)
    have HVM7 := Lib.hid (HVM6.out.below hb (by omega))
    have HOM7 := Lib.hid (HOM6.out.below hb (by omega))
    have HXm7 := Lib.hid ((hb.block _ (lt_of_row HXm6.out)).trans HXm6.out)
    have HVW7 := Lib.hid (HVW6.out.below hb (by omega))
    have HOW7 := Lib.hid (HOW6.out.below hb (by omega))
    have HXw7 := Lib.hid ((hb.block _ (lt_of_row HXw6.out)).trans HXw6.out)
    clear hb HVA6 HOA6 HVB6 HOB6 HB6 HXa6 HXb6 HVM6 HOM6 HXm6 HVW6 HOW6 HXw6
    go_wp2
    go_ret
    exact ⟨rfl, HB7.out⟩
  have hp := mergedB_parts HR.out
  have hcm := cart_merged hp.1 hp.2.1 hp.2.2
  have hsy := merged_symm HR.out
  have evs : maxV xs ys = vs := HVs.out
  have eos : mergeL (maxV xs ys) l m = os := HOs.out
  have hin1 := in_merged HR.out
  have hin2 := in_merged2 HR.out
  have ems : mergeL (maxV ys xs) m l = os := (merge_symm HR.out).trans eos
  have evs2 : maxV ys xs = vs := (maxV_symm ys xs).trans evs
  rw [eos, evs] at hcm hin1 hin2
  have HCM := Lib.hid hcm
  have HSY := Lib.hid hsy
  have HIN1 := Lib.hid hin1
  have HIN2 := Lib.hid hin2
  have HEM : Hid (mergedO ys xs m l true = os) := ems
  have HEV : Hid (mergedV ys xs true = vs) := evs2
  have hv4 : vs.length = 4 := (cart_vecs hcm).1
  have HIm : Hid (∀ i, i < os.length → (atOp os i).item.size ≤ 1048576) := fun i hi => Nat.le_trans (op_bounds (cart_op hcm hi)).2.2.2.2.1 (by omega)
  clear hp hcm hsy evs eos hin1 hin2 ems evs2 hv4
  obtain ⟨c00, c01⟩ := pair_cells HXb6.out
  obtain ⟨c10, c11⟩ := pair_cells HXa6.out
  go_wp2_with fail
  have hc := implMergedK w6 w6.heap.size bva boa ava aoa 4 bvc m.length boc 4 avc l.length aoc ys m xs l (HVB6.out.more (by omega)) (HOB6.out.more (by omega)) (HVA6.out.more (by omega)) (HOA6.out.more (by omega)) (Nat.le_refl _) (by omega) HCb.out.1 ⟨by omega, HCb.out.2.1⟩ HIb.out (by omega) HCa.out.1 ⟨by omega, HCa.out.2.1⟩ HIa.out
  rw [HSY.out, HEV.out, HEM.out] at hc
  refine hc.mono ?_
  clear hc
  rintro e w7 ⟨nva, nvc, noa, noc, mid2, rfl, hov, hop, hm1, hm2, hb, _⟩
  clear c00 c01 c10 c11
  have hov := hov.more (Nat.le_refl _) hm2
  clear hm1 hm2
  have hs7 := hb.size
  have HVA7 := Lib.hid (HVA6.out.below hb (by omega))
  have HOA7 := Lib.hid (HOA6.out.below hb (by omega))
  have HVB7 := Lib.hid (HVB6.out.below hb (by omega))
  have HOB7 := Lib.hid (HOB6.out.below hb (by omega))
  have HB7 := Lib.hid (HB6.out.trans (hb.mono (by omega)))
  have HXa7 := Lib.hid ((hb.block _ (lt_of_row HXa6.out)).trans HXa6.out)
  have HXb7 := Lib.hid ((hb.block _ (lt_of_row HXb6.out)).trans HXb6.out)
  have HVM7 := Lib.hid (HVM6.out.below hb (by omega))
  have HOM7 := Lib.hid (HOM6.out.below hb (by omega))
  have HXm7 := Lib.hid ((hb.block _ (lt_of_row HXm6.out)).trans HXm6.out)
  have HVW7 := Lib.hid (HVW6.out.below hb (by omega))
  have HOW7 := Lib.hid (HOW6.out.below hb (by omega))
  have HXw7 := Lib.hid ((hb.block _ (lt_of_row HXw6.out)).trans HXw6.out)
  clear hb HVA6 HOA6 HVB6 HOB6 HB6 HXa6 HXb6 HVM6 HOM6 HXm6 HVW6 HOW6 HXw6
  have HVN7 := Lib.hid hov.ints
  have HON7 := Lib.hid hop.ops
  clear hov hop
  go_upto_region 9 with fail
  have hb : Below w7.heap.size w7 (w7.alloc (.cells #[.slice nva vs.length nvc, .slice noa os.length noc] 27)) := (Below.refl _ _).alloc (Nat.le_refl _) _
  have HXn8 := Lib.hid (boxAt (Below.refl _ (w7.alloc (.cells #[.slice nva vs.length nvc, .slice noa os.length noc] 27))))
  generalize w7.alloc (.cells #[.slice nva vs.length nvc, .slice noa os.length noc] 27) = w8 at hb HXn8 ⊢
  have hs8 := hb.size
  have HVA8 := Lib.hid (HVA7.out.below hb (by omega))
  have HOA8 := Lib.hid (HOA7.out.below hb (by omega))
  have HVB8 := Lib.hid (HVB7.out.below hb (by omega))
  have HOB8 := Lib.hid (HOB7.out.below hb (by omega))
  have HB8 := Lib.hid (HB7.out.trans (hb.mono (by omega)))
  have HXa8 := Lib.hid ((hb.block _ (lt_of_row HXa7.out)).trans HXa7.out)
  have HXb8 := Lib.hid ((hb.block _ (lt_of_row HXb7.out)).trans HXb7.out)
  have HVM8 := Lib.hid (HVM7.out.below hb (by omega))
  have HOM8 := Lib.hid (HOM7.out.below hb (by omega))
  have HXm8 := Lib.hid ((hb.block _ (lt_of_row HXm7.out)).trans HXm7.out)
  have HVW8 := Lib.hid (HVW7.out.below hb (by omega))
  have HOW8 := Lib.hid (HOW7.out.below hb (by omega))
  have HXw8 := Lib.hid ((hb.block _ (lt_of_row HXw7.out)).trans HXw7.out)
  have HVN8 := Lib.hid (HVN7.out.below hb (by omega))
  have HON8 := Lib.hid (HON7.out.below hb (by omega))
  clear hb HVA7 HOA7 HVB7 HOB7 HB7 HXa7 HXb7 HVM7 HOM7 HXm7 HVW7 HOW7 HXw7 HVN7 HON7
  obtain ⟨c00, c01⟩ := pair_cells HXm8.out
  go_wp2_with fail
  refine (implCartOk w8 w8.heap.size mva moa vs.length mvc os.length moc vs os (HVM8.out.more (by omega)) (HOM8.out.more (by omega)) (Nat.le_refl _) (by omega) HCm.out.1 ⟨by omega, HCm.out.2.1⟩).mono ?_
  rintro e w9 ⟨rfl, hb⟩
  rw [HCM.out]
  clear c00 c01
  have hs9 := hb.size
  have HVA9 := Lib.hid (HVA8.out.below hb (by omega))
  have HOA9 := Lib.hid (HOA8.out.below hb (by omega))
  have HVB9 := Lib.hid (HVB8.out.below hb (by omega))
  have HOB9 := Lib.hid (HOB8.out.below hb (by omega))
  have HB9 := Lib.hid (HB8.out.trans (hb.mono (by omega)))
  have HXa9 := Lib.hid ((hb.block _ (lt_of_row HXa8.out)).trans HXa8.out)
  have HXb9 := Lib.hid ((hb.block _ (lt_of_row HXb8.out)).trans HXb8.out)
  have HVM9 := Lib.hid (HVM8.out.below hb (by omega))
  have HOM9 := Lib.hid (HOM8.out.below hb (by omega))
  have HXm9 := Lib.hid ((hb.block _ (lt_of_row HXm8.out)).trans HXm8.out)
  have HVW9 := Lib.hid (HVW8.out.below hb (by omega))
  have HOW9 := Lib.hid (HOW8.out.below hb (by omega))
  have HXw9 := Lib.hid ((hb.block _ (lt_of_row HXw8.out)).trans HXw8.out)
  have HVN9 := Lib.hid (HVN8.out.below hb (by omega))
  have HON9 := Lib.hid (HON8.out.below hb (by omega))
  have HXn9 := Lib.hid ((hb.block _ (lt_of_row HXn8.out)).trans HXn8.out)
  clear hb HVA8 HOA8 HVB8 HOB8 HB8 HXa8 HXb8 HVM8 HOM8 HXm8 HVW8 HOW8 HXw8 HVN8 HON8 HXn8
  obtain ⟨c00, c01⟩ := pair_cells HXa9.out
  obtain ⟨c10, c11⟩ := pair_cells HXm9.out
  go_wp2_with fail
  have hc := implWithinC w9 w9.heap.size ava aoa mva moa 4 avc l.length aoc vs.length mvc os.length moc xs l vs os (HVA9.out.more (by omega)) (HOA9.out.more (by omega)) (HVM9.out.more (by omega)) (HOM9.out.more (by omega)) (Nat.le_refl _) (by omega) HCa.out.1 ⟨by omega, HCa.out.2.1⟩ (by omega) HCm.out.1 ⟨by omega, HCm.out.2.1⟩
  rw [HIN1.out] at hc
  refine hc.mono ?_
  clear hc
  rintro e w10 ⟨rfl, hb⟩
  clear c00 c01 c10 c11
  have hs10 := hb.size
  have HVA10 := Lib.hid (HVA9.out.below hb (by omega))
  have HOA10 := Lib.hid (HOA9.out.below hb (by omega))
  have HVB10 := Lib.hid (HVB9.out.below hb (by omega))
  have HOB10 := Lib.hid (HOB9.out.below hb (by omega))
  have HB10 := Lib.hid (HB9.out.trans (hb.mono (by omega)))
  have HXa10 := Lib.hid ((hb.block _ (lt_of_row HXa9.out)).trans HXa9.out)
  have HXb10 := Lib.hid ((hb.block _ (lt_of_row HXb9.out)).trans HXb9.out)
  have HVM10 := Lib.hid (HVM9.out.below hb (by omega))
  have HOM10 := Lib.hid (HOM9.out.below hb (by omega))
  have HXm10 := Lib.hid ((hb.block _ (lt_of_row HXm9.out)).trans HXm9.out)
  have HVW10 := Lib.hid (HVW9.out.below hb (by omega))
  have HOW10 := Lib.hid (HOW9.out.below hb (by omega))
  have HXw10 := Lib.hid ((hb.block _ (lt_of_row HXw9.out)).trans HXw9.out)
  have HVN10 := Lib.hid (HVN9.out.below hb (by omega))
  have HON10 := Lib.hid (HON9.out.below hb (by omega))
  have HXn10 := Lib.hid ((hb.block _ (lt_of_row HXn9.out)).trans HXn9.out)
  clear hb HVA9 HOA9 HVB9 HOB9 HB9 HXa9 HXb9 HVM9 HOM9 HXm9 HVW9 HOW9 HXw9 HVN9 HON9 HXn9
  obtain ⟨c00, c01⟩ := pair_cells HXb10.out
  obtain ⟨c10, c11⟩ := pair_cells HXm10.out
  go_wp2_with fail
  have hc := implWithinC w10 w10.heap.size bva boa mva moa 4 bvc m.length boc vs.length mvc os.length moc ys m vs os (HVB10.out.more (by omega)) (HOB10.out.more (by omega)) (HVM10.out.more (by omega)) (HOM10.out.more (by omega)) (Nat.le_refl _) (by omega) HCb.out.1 ⟨by omega, HCb.out.2.1⟩ (by omega) HCm.out.1 ⟨by omega, HCm.out.2.1⟩
  rw [HIN2.out] at hc
  refine hc.mono ?_
  clear hc
  rintro e w11 ⟨rfl, hb⟩
  clear c00 c01 c10 c11
  have hs11 := hb.size
  have HVA11 := Lib.hid (HVA10.out.below hb (by omega))
  have HOA11 := Lib.hid (HOA10.out.below hb (by omega))
  have HVB11 := Lib.hid (HVB10.out.below hb (by omega))
  have HOB11 := Lib.hid (HOB10.out.below hb (by omega))
  have HB11 := Lib.hid (HB10.out.trans (hb.mono (by omega)))
  have HXa11 := Lib.hid ((hb.block _ (lt_of_row HXa10.out)).trans HXa10.out)
  have HXb11 := Lib.hid ((hb.block _ (lt_of_row HXb10.out)).trans HXb10.out)
  have HVM11 := Lib.hid (HVM10.out.below hb (by omega))
  have HOM11 := Lib.hid (HOM10.out.below hb (by omega))
  have HXm11 := Lib.hid ((hb.block _ (lt_of_row HXm10.out)).trans HXm10.out)
  have HVW11 := Lib.hid (HVW10.out.below hb (by omega))
  have HOW11 := Lib.hid (HOW10.out.below hb (by omega))
  have HXw11 := Lib.hid ((hb.block _ (lt_of_row HXw10.out)).trans HXw10.out)
  have HVN11 := Lib.hid (HVN10.out.below hb (by omega))
  have HON11 := Lib.hid (HON10.out.below hb (by omega))
  have HXn11 := Lib.hid ((hb.block _ (lt_of_row HXn10.out)).trans HXn10.out)
  clear hb HVA10 HOA10 HVB10 HOB10 HB10 HXa10 HXb10 HVM10 HOM10 HXm10 HVW10 HOW10 HXw10 HVN10 HON10 HXn10
  obtain ⟨c00, c01⟩ := pair_cells HXn11.out
  obtain ⟨c10, c11⟩ := pair_cells HXm11.out
  go_wp2_with fail
  refine (sameCart w11 w11.heap.size nva noa mva moa vs.length nvc os.length noc vs.length mvc os.length moc vs os vs os (HVN11.out.more (by omega)) (HON11.out.more (by omega)) (HVM11.out.more (by omega)) (HOM11.out.more (by omega)) (Nat.le_refl _) (by omega) (by omega) (by omega) (by omega)).mono ?_
  rintro e w12 ⟨rfl, hb⟩
  rw [decide_eq_true rfl, decide_eq_true rfl]
  clear c00 c01 c10 c11
  have hs12 := hb.size
  have HVA12 := Lib.hid (HVA11.out.below hb (by omega))
  have HOA12 := Lib.hid (HOA11.out.below hb (by omega))
  have HVB12 := Lib.hid (HVB11.out.below hb (by omega))
  have HOB12 := Lib.hid (HOB11.out.below hb (by omega))
  have HB12 := Lib.hid (HB11.out.trans (hb.mono (by omega)))
  have HXa12 := Lib.hid ((hb.block _ (lt_of_row HXa11.out)).trans HXa11.out)
  have HXb12 := Lib.hid ((hb.block _ (lt_of_row HXb11.out)).trans HXb11.out)
  have HVM12 := Lib.hid (HVM11.out.below hb (by omega))
  have HOM12 := Lib.hid (HOM11.out.below hb (by omega))
  have HXm12 := Lib.hid ((hb.block _ (lt_of_row HXm11.out)).trans HXm11.out)
  have HVW12 := Lib.hid (HVW11.out.below hb (by omega))
  have HOW12 := Lib.hid (HOW11.out.below hb (by omega))
  have HXw12 := Lib.hid ((hb.block _ (lt_of_row HXw11.out)).trans HXw11.out)
  have HVN12 := Lib.hid (HVN11.out.below hb (by omega))
  have HON12 := Lib.hid (HON11.out.below hb (by omega))
  have HXn12 := Lib.hid ((hb.block _ (lt_of_row HXn11.out)).trans HXn11.out)
  clear hb HVA11 HOA11 HVB11 HOB11 HB11 HXa11 HXb11 HVM11 HOM11 HXm11 HVW11 HOW11 HXw11 HVN11 HON11 HXn11
  go_wp2
  go_ret
  exact ⟨rfl, HB12.out⟩
end Go.Proofs.Ythfkoplljinmmaa
