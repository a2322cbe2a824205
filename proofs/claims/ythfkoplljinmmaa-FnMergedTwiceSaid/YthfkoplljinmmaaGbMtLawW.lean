/- The walk of the law FnMergedTwice. -/
import Derived.Test.YthfkoplljinmmaaGbDwiW
import Derived.Test.YthfkoplljinmmaaGb23
import Derived.Test.YthfkoplljinmmaaGb26
import Derived.Deep.Cut
import Derived.Test.YthfkoplljinmmaaGbS
namespace Go.Proofs.Ythfkoplljinmmaa
open Go.RowKit
set_option linter.unusedVariables false
set_option linter.unusedSimpArgs false

theorem merged_back {xs ys : List Int} {l m : List OpV} (h : inCart xs l ys m = true) : mergedB ys m xs l = true ∧ maxV ys xs = ys ∧ mergeL (maxV ys xs) m l = m := by
  obtain ⟨h1, h2, h3⟩ := merged_in h
  refine ⟨merged_symm h1, (maxV_symm ys xs).trans h2, ?_⟩
  rw [merge_symm h1, h2]
  exact h3
theorem opsNilC (w : World) (B : Nat) : Ops w B none 0 [] := ⟨rfl, fun i hi => absurd hi (by omega)⟩
set_option maxRecDepth 100000 in
set_option maxHeartbeats 16000000 in
theorem fnMergedTwiceWalk (a : Option Addr) (len cap : Nat) (zs : List Int) (w : World) (h : IsRow .u8 w a len cap zs) :
    Calls Try.prog 4 #[.slice a len cap] w fun e w' => e = .returned (.bool true) ∧ Below w.heap.size w w' := by
  by_cases hbig : len ≤ 1048576
  rotate_left
  · go_enter Try.func4, Try.ntmps4
    go_wp2_with fail
    refine (bigYes a len cap hbig w).mono ?_
    rintro e w' ⟨rfl, rfl⟩
    go_wp2
    go_ret
    exact ⟨rfl, Below.refl _ _⟩
  have hsrc := Lib.hid (src_of_row h hbig)
  clear h
  go_enter Try.func4, Try.ntmps4
  go_wp2_with fail
  refine (bigNo a len cap hbig w).mono ?_
  rintro e w' ⟨rfl, rfl⟩
  go_wp2_with fail
  refine (drawMerged w w.heap.size a len cap (Nat.le_refl _) hsrc.out).mono ?_
  rintro e w0 ⟨⟨ava, avc, aoa, ano, aoc⟩, ⟨bva, bvc, boa, bno, boc⟩, rfl, hx, hy, hb0⟩
  obtain ⟨xs, l, e1, a1, a2, a3, a4, a5, a6⟩ := hx
  obtain ⟨ys, m, e2, b1, b2, b3, b4, b5, b6⟩ := hy
  have e1 : ano = l.length := e1
  have e2 : bno = m.length := e2
  subst e1 e2
  have HVA0 := Lib.hid a1.ints
  have HOA0 := Lib.hid a2.ops
  have HVB0 := Lib.hid b1.ints
  have HOB0 := Lib.hid b2.ops
  have HB0 := Lib.hid hb0
  have HCa := Lib.hid a4
  have HCb := Lib.hid b4
  have HIa : Hid (∀ i, i < l.length → (atOp l i).item.size ≤ 1048576) := fun i hi => Nat.le_trans (a5 i hi) (by omega)
  have HIb : Hid (∀ i, i < m.length → (atOp m i).item.size ≤ 1048576) := fun i hi => Nat.le_trans (b5 i hi) (by omega)
  have hs0 := hb0.size
  clear a1 a2 a3 a4 a5 b1 b2 b3 b4 b5 hb0
  dsimp only
  go_upto_region 4 with fail
  have hT := Two.mk0 w0 #[.slice ava 4 avc, .slice aoa l.length aoc] #[.slice bva 4 bvc, .slice boa m.length boc] 27
  have HXa1 := Lib.hid hT.fst
  have HXb1 := Lib.hid hT.snd
  have hb := hT.bel
  clear hT
  generalize (w0.alloc (.cells #[.slice ava 4 avc, .slice aoa l.length aoc] 27)).alloc (.cells #[.slice bva 4 bvc, .slice boa m.length boc] 27) = w1 at hb HXa1 HXb1 ⊢
  have hs1 := hb.size
  have HVA1 := Lib.hid (HVA0.out.below hb (by omega))
  have HOA1 := Lib.hid (HOA0.out.below hb (by omega))
  have HVB1 := Lib.hid (HVB0.out.below hb (by omega))
  have HOB1 := Lib.hid (HOB0.out.below hb (by omega))
  have HB1 := Lib.hid (HB0.out.trans (hb.mono (by omega)))
  clear hb HVA0 HOA0 HVB0 HOB0 HB0
  obtain ⟨R, hR⟩ : ∃ R, mergedB xs l ys m = R := ⟨_, rfl⟩
  have HR := Lib.hid hR
  obtain ⟨vs, hvs⟩ : ∃ vs, mergedV xs ys R = vs := ⟨_, rfl⟩
  obtain ⟨os, hos⟩ : ∃ os, mergedO xs ys l m R = os := ⟨_, rfl⟩
  have HVs := Lib.hid hvs
  have HOs := Lib.hid hos
  have hlv : vs.length ≤ 4 := by rw [← hvs]; exact mergedVs_len xs ys l m R hR
  have hlo : os.length ≤ 200 := by rw [← hos]; exact mergedOs_len xs ys l m R hR
  clear hR hvs hos
  obtain ⟨c00, c01⟩ := pair_cells HXa1.out
  obtain ⟨c10, c11⟩ := pair_cells HXb1.out
  go_wp2_with fail
  have hc := implMergedK w1 w1.heap.size ava aoa bva boa 4 avc l.length aoc 4 bvc m.length boc xs l ys m (HVA1.out.more (by omega)) (HOA1.out.more (by omega)) (HVB1.out.more (by omega)) (HOB1.out.more (by omega)) (Nat.le_refl _) (by omega) HCa.out.1 ⟨by omega, HCa.out.2.1⟩ HIa.out (by omega) HCb.out.1 ⟨by omega, HCb.out.2.1⟩ HIb.out
  rw [HR.out, HVs.out, HOs.out] at hc
  refine hc.mono ?_
  clear hc
  rintro e w2 ⟨mva, mvc, moa, moc, mid, rfl, hov, hop, hm1, hm2, hb, hcm⟩
  clear c00 c01 c10 c11
  have HCm := Lib.hid hcm
  have hov := hov.more (Nat.le_refl _) hm2
  clear hcm hm1 hm2
  have hs2 := hb.size
  have HVA2 := Lib.hid (HVA1.out.below hb (by omega))
  have HOA2 := Lib.hid (HOA1.out.below hb (by omega))
  have HVB2 := Lib.hid (HVB1.out.below hb (by omega))
  have HOB2 := Lib.hid (HOB1.out.below hb (by omega))
  have HB2 := Lib.hid (HB1.out.trans (hb.mono (by omega)))
  have HXa2 := Lib.hid ((hb.block _ (lt_of_row HXa1.out)).trans HXa1.out)
  have HXb2 := Lib.hid ((hb.block _ (lt_of_row HXb1.out)).trans HXb1.out)
  clear hb HVA1 HOA1 HVB1 HOB1 HB1 HXa1 HXb1
  have HVM2 := Lib.hid hov.ints
  have HOM2 := Lib.hid hop.ops
  clear hov hop
  go_upto_region 5 with fail
  have hb : Below w2.heap.size w2 (w2.alloc (.cells #[.slice mva vs.length mvc, .slice moa os.length moc] 27)) := (Below.refl _ _).alloc (Nat.le_refl _) _
  have HXm3 := Lib.hid (boxAt (Below.refl _ (w2.alloc (.cells #[.slice mva vs.length mvc, .slice moa os.length moc] 27))))
  generalize w2.alloc (.cells #[.slice mva vs.length mvc, .slice moa os.length moc] 27) = w3 at hb HXm3 ⊢
  have hs3 := hb.size
  have HVA3 := Lib.hid (HVA2.out.below hb (by omega))
  have HOA3 := Lib.hid (HOA2.out.below hb (by omega))
  have HVB3 := Lib.hid (HVB2.out.below hb (by omega))
  have HOB3 := Lib.hid (HOB2.out.below hb (by omega))
  have HB3 := Lib.hid (HB2.out.trans (hb.mono (by omega)))
  have HXa3 := Lib.hid ((hb.block _ (lt_of_row HXa2.out)).trans HXa2.out)
  have HXb3 := Lib.hid ((hb.block _ (lt_of_row HXb2.out)).trans HXb2.out)
  have HVM3 := Lib.hid (HVM2.out.below hb (by omega))
  have HOM3 := Lib.hid (HOM2.out.below hb (by omega))
  clear hb HVA2 HOA2 HVB2 HOB2 HB2 HXa2 HXb2 HVM2 HOM2
  obtain ⟨c00, c01⟩ := pair_cells HXa3.out
  obtain ⟨c10, c11⟩ := pair_cells HXb3.out
  go_wp2_with fail
  have hc := specMergedC w3 w3.heap.size ava aoa bva boa 4 avc l.length aoc 4 bvc m.length boc xs l ys m (HVA3.out.more (by omega)) (HOA3.out.more (by omega)) (HVB3.out.more (by omega)) (HOB3.out.more (by omega)) (Nat.le_refl _) (by omega) (by omega) HIa.out (by omega) (by omega) HIb.out
  rw [HR.out] at hc
  refine hc.mono ?_
  clear hc
  rintro e w4 ⟨wva, wvc, woa, woc, rfl, _, _, hb, _, _⟩
  clear c00 c01 c10 c11
  have hs4 := hb.size
  have HVA4 := Lib.hid (HVA3.out.below hb (by omega))
  have HOA4 := Lib.hid (HOA3.out.below hb (by omega))
  have HVB4 := Lib.hid (HVB3.out.below hb (by omega))
  have HOB4 := Lib.hid (HOB3.out.below hb (by omega))
  have HB4 := Lib.hid (HB3.out.trans (hb.mono (by omega)))
  have HXa4 := Lib.hid ((hb.block _ (lt_of_row HXa3.out)).trans HXa3.out)
  have HXb4 := Lib.hid ((hb.block _ (lt_of_row HXb3.out)).trans HXb3.out)
  have HVM4 := Lib.hid (HVM3.out.below hb (by omega))
  have HOM4 := Lib.hid (HOM3.out.below hb (by omega))
  have HXm4 := Lib.hid ((hb.block _ (lt_of_row HXm3.out)).trans HXm3.out)
  clear hb HVA3 HOA3 HVB3 HOB3 HB3 HXa3 HXb3 HVM3 HOM3 HXm3
  generalize mergedVs xs ys R = ws
  generalize mergedOs xs ys l m R = wo
  go_upto_region 6 with fail
  have hb : Below w4.heap.size w4 (w4.alloc (.cells #[.slice wva ws.length wvc, .slice woa wo.length woc] 27)) := (Below.refl _ _).alloc (Nat.le_refl _) _
  have HXw5 := Lib.hid (boxAt (Below.refl _ (w4.alloc (.cells #[.slice wva ws.length wvc, .slice woa wo.length woc] 27))))
  generalize w4.alloc (.cells #[.slice wva ws.length wvc, .slice woa wo.length woc] 27) = w5 at hb HXw5 ⊢
  have hs5 := hb.size
  have HVA5 := Lib.hid (HVA4.out.below hb (by omega))
  have HOA5 := Lib.hid (HOA4.out.below hb (by omega))
  have HVB5 := Lib.hid (HVB4.out.below hb (by omega))
  have HOB5 := Lib.hid (HOB4.out.below hb (by omega))
  have HB5 := Lib.hid (HB4.out.trans (hb.mono (by omega)))
  have HXa5 := Lib.hid ((hb.block _ (lt_of_row HXa4.out)).trans HXa4.out)
  have HXb5 := Lib.hid ((hb.block _ (lt_of_row HXb4.out)).trans HXb4.out)
  have HVM5 := Lib.hid (HVM4.out.below hb (by omega))
  have HOM5 := Lib.hid (HOM4.out.below hb (by omega))
  have HXm5 := Lib.hid ((hb.block _ (lt_of_row HXm4.out)).trans HXm4.out)
  clear hb HVA4 HOA4 HVB4 HOB4 HB4 HXa4 HXb4 HVM4 HOM4 HXm4
  cases R
  · go_wp2
    go_ret
    exact ⟨rfl, HB5.out⟩
  have hp := mergedB_parts HR.out
  have hcm := cart_merged hp.1 hp.2.1 hp.2.2
  have evs : maxV xs ys = vs := HVs.out
  have eos : mergeL (maxV xs ys) l m = os := HOs.out
  have hin2 := in_merged2 HR.out
  rw [eos, evs] at hcm hin2
  obtain ⟨s1, s2, s3⟩ := merged_in (in_self hp.1)
  obtain ⟨t1, t2, t3⟩ := merged_back hin2
  obtain ⟨u1, u2, u3⟩ := merged_back (in_zero hp.1)
  have HS1 := Lib.hid s1
  have HS2 : Hid (mergedV xs xs true = xs) := s2
  have HS3 : Hid (mergedO xs xs l l true = l) := (by rw [s2]; exact s3 : mergeL (maxV xs xs) l l = l)
  have HT1 := Lib.hid t1
  have HT2 : Hid (mergedV vs ys true = vs) := t2
  have HT3 : Hid (mergedO vs ys os m true = os) := t3
  have HU1 := Lib.hid u1
  have HU2 : Hid (mergedV xs [0, 0, 0, 0] true = xs) := u2
  have HU3 : Hid (mergedO xs [0, 0, 0, 0] l [] true = l) := u3
  have hx4 : xs.length = 4 := (cart_vecs hp.1).1
  have hv4 : vs.length = 4 := (cart_vecs hcm).1
  have HIm : Hid (∀ i, i < os.length → (atOp os i).item.size ≤ 1048576) := fun i hi => Nat.le_trans (op_bounds (cart_op hcm hi)).2.2.2.2.1 (by omega)
  have hxl : xs.length ≤ 4 := Nat.le_of_eq hx4
  clear hp hcm evs eos hin2 s1 s2 s3 t1 t2 t3 u1 u2 u3 hx4 hv4
  obtain ⟨c00, c01⟩ := pair_cells HXa5.out
  go_wp2_with fail
  have hc := implMergedK w5 w5.heap.size ava aoa ava aoa 4 avc l.length aoc 4 avc l.length aoc xs l xs l (HVA5.out.more (by omega)) (HOA5.out.more (by omega)) (HVA5.out.more (by omega)) (HOA5.out.more (by omega)) (Nat.le_refl _) (by omega) HCa.out.1 ⟨by omega, HCa.out.2.1⟩ HIa.out (by omega) HCa.out.1 ⟨by omega, HCa.out.2.1⟩ HIa.out
  rw [HS1.out, HS2.out, HS3.out] at hc
  refine hc.mono ?_
  clear hc
  rintro e w6 ⟨xva, xvc, xoa, xoc, mid2, rfl, hov, hop, hm1, hm2, hb, _⟩
  clear c00 c01
  have hov := hov.more (Nat.le_refl _) hm2
  clear hm1 hm2
  have hs6 := hb.size
  have HVA6 := Lib.hid (HVA5.out.below hb (by omega))
  have HOA6 := Lib.hid (HOA5.out.below hb (by omega))
  have HVB6 := Lib.hid (HVB5.out.below hb (by omega))
  have HOB6 := Lib.hid (HOB5.out.below hb (by omega))
  have HB6 := Lib.hid (HB5.out.trans (hb.mono (by omega)))
  have HXa6 := Lib.hid ((hb.block _ (lt_of_row HXa5.out)).trans HXa5.out)
  have HXb6 := Lib.hid ((hb.block _ (lt_of_row HXb5.out)).trans HXb5.out)
  have HVM6 := Lib.hid (HVM5.out.below hb (by omega))
  have HOM6 := Lib.hid (HOM5.out.below hb (by omega))
  have HXm6 := Lib.hid ((hb.block _ (lt_of_row HXm5.out)).trans HXm5.out)
  have HXw6 := Lib.hid ((hb.block _ (lt_of_row HXw5.out)).trans HXw5.out)
  clear hb HVA5 HOA5 HVB5 HOB5 HB5 HXa5 HXb5 HVM5 HOM5 HXm5 HXw5
  have HVX6 := Lib.hid hov.ints
  have HOX6 := Lib.hid hop.ops
  clear hov hop
  go_upto_region 9 with fail
  have hb : Below w6.heap.size w6 (w6.alloc (.cells #[.slice xva xs.length xvc, .slice xoa l.length xoc] 27)) := (Below.refl _ _).alloc (Nat.le_refl _) _
  have HXx7 := Lib.hid (boxAt (Below.refl _ (w6.alloc (.cells #[.slice xva xs.length xvc, .slice xoa l.length xoc] 27))))
  generalize w6.alloc (.cells #[.slice xva xs.length xvc, .slice xoa l.length xoc] 27) = w7 at hb HXx7 ⊢
  have hs7 := hb.size
  have HVA7 := Lib.hid (HVA6.out.below hb (by omega))
  have HOA7 := Lib.hid (HOA6.out.below hb (by omega))
  have HVB7 := Lib.hid (HVB6.out.below hb (by omega))
  have HOB7 := Lib.hid (HOB6.out.below hb (by omega))
  have HB7 := Lib.hid (HB6.out.trans (hb.mono (by omega)))
  have HXa7 := Lib.hid ((hb.block _ (lt_of_row HXa6.out)).trans HXa6.out)
  have HXb7 := Lib.hid ((hb.block _ (lt_of_row HXb6.out)).trans HXb6.out)
  have HVM7 := Lib.hid (HVM6.out.below hb (by omega))
  have HOM7 := Lib.hid (HOM6.out.below hb (by omega))
  have HXm7 := Lib.hid ((hb.block _ (lt_of_row HXm6.out)).trans HXm6.out)
  have HXw7 := Lib.hid ((hb.block _ (lt_of_row HXw6.out)).trans HXw6.out)
  have HVX7 := Lib.hid (HVX6.out.below hb (by omega))
  have HOX7 := Lib.hid (HOX6.out.below hb (by omega))
  clear hb HVA6 HOA6 HVB6 HOB6 HB6 HXa6 HXb6 HVM6 HOM6 HXm6 HXw6 HVX6 HOX6
  obtain ⟨c00, c01⟩ := pair_cells HXm7.out
  obtain ⟨c10, c11⟩ := pair_cells HXb7.out
  go_wp2_with fail
  have hc := implMergedK w7 w7.heap.size mva moa bva boa vs.length mvc os.length moc 4 bvc m.length boc vs os ys m (HVM7.out.more (by omega)) (HOM7.out.more (by omega)) (HVB7.out.more (by omega)) (HOB7.out.more (by omega)) (Nat.le_refl _) (by omega) HCm.out.1 ⟨by omega, HCm.out.2.1⟩ HIm.out (by omega) HCb.out.1 ⟨by omega, HCb.out.2.1⟩ HIb.out
  rw [HT1.out, HT2.out, HT3.out] at hc
  refine hc.mono ?_
  clear hc
  rintro e w8 ⟨yva, yvc, yoa, yoc, mid3, rfl, hov, hop, hm1, hm2, hb, _⟩
  clear c00 c01 c10 c11
  have hov := hov.more (Nat.le_refl _) hm2
  clear hm1 hm2
  have hs8 := hb.size
  have HVA8 := Lib.hid (HVA7.out.below hb (by omega))
  have HOA8 := Lib.hid (HOA7.out.below hb (by omega))
  have HVB8 := Lib.hid (HVB7.out.below hb (by omega))
  have HOB8 := Lib.hid (HOB7.out.below hb (by omega))
  have HB8 := Lib.hid (HB7.out.trans (hb.mono (by omega)))
  have HXa8 := Lib.hid ((hb.block _ (lt_of_row HXa7.out)).trans HXa7.out)
  have HXb8 := Lib.hid ((hb.block _ (lt_of_row HXb7.out)).trans HXb7.out)
  have HVM8 := Lib.hid (HVM7.out.below hb (by omega))
  have HOM8 := Lib.hid (HOM7.out.below hb (by omega))
  have HXm8 := Lib.hid ((hb.block _ (lt_of_row HXm7.out)).trans HXm7.out)
  have HXw8 := Lib.hid ((hb.block _ (lt_of_row HXw7.out)).trans HXw7.out)
  have HVX8 := Lib.hid (HVX7.out.below hb (by omega))
  have HOX8 := Lib.hid (HOX7.out.below hb (by omega))
  have HXx8 := Lib.hid ((hb.block _ (lt_of_row HXx7.out)).trans HXx7.out)
  clear hb HVA7 HOA7 HVB7 HOB7 HB7 HXa7 HXb7 HVM7 HOM7 HXm7 HXw7 HVX7 HOX7 HXx7
  have HVY8 := Lib.hid hov.ints
  have HOY8 := Lib.hid hop.ops
  clear hov hop
  go_upto_region 10 with fail
  have hb : Below w8.heap.size w8 (w8.alloc (.cells #[.slice yva vs.length yvc, .slice yoa os.length yoc] 27)) := (Below.refl _ _).alloc (Nat.le_refl _) _
  have HXy9 := Lib.hid (boxAt (Below.refl _ (w8.alloc (.cells #[.slice yva vs.length yvc, .slice yoa os.length yoc] 27))))
  generalize w8.alloc (.cells #[.slice yva vs.length yvc, .slice yoa os.length yoc] 27) = w9 at hb HXy9 ⊢
  have hs9 := hb.size
  have HVA9 := Lib.hid (HVA8.out.below hb (by omega))
  have HOA9 := Lib.hid (HOA8.out.below hb (by omega))
  have HVB9 := Lib.hid (HVB8.out.below hb (by omega))
  have HOB9 := Lib.hid (HOB8.out.below hb (by omega))
  have HB9 := Lib.hid (HB8.out.trans (hb.mono (by omega)))
  have HXa9 := Lib.hid ((hb.block _ (lt_of_row HXa8.out)).trans HXa8.out)
  have HXb9 := Lib.hid ((hb.block _ (lt_of_row HXb8.out)).trans HXb8.out)
  have HVM9 := Lib.hid (HVM8.out.below hb (by omega))
  have HOM9 := Lib.hid (HOM8.out.below hb (by omega))
  have HXm9 := Lib.hid ((hb.block _ (lt_of_row HXm8.out)).trans HXm8.out)
  have HXw9 := Lib.hid ((hb.block _ (lt_of_row HXw8.out)).trans HXw8.out)
  have HVX9 := Lib.hid (HVX8.out.below hb (by omega))
  have HOX9 := Lib.hid (HOX8.out.below hb (by omega))
  have HXx9 := Lib.hid ((hb.block _ (lt_of_row HXx8.out)).trans HXx8.out)
  have HVY9 := Lib.hid (HVY8.out.below hb (by omega))
  have HOY9 := Lib.hid (HOY8.out.below hb (by omega))
  clear hb HVA8 HOA8 HVB8 HOB8 HB8 HXa8 HXb8 HVM8 HOM8 HXm8 HXw8 HVX8 HOX8 HXx8 HVY8 HOY8
  have HXg := HXa9
  have hg0l : w0.heap.size < w9.heap.size := lt_of_row HXg.out
  obtain ⟨y0, hze⟩ : ∃ z, w9.drew = z := ⟨_, rfl⟩
  have hy0 : Below w9.heap.size w9 y0 := by rw [← hze]; exact ⟨rfl, rfl, rfl, Nat.le_refl _, fun _ _ => rfl⟩
  have Sy0 : y0.cell? ⟨w0.heap.size, 0, none⟩ = some (.slice ava 4 avc) ∧ y0.cell? ⟨w0.heap.size, 1, none⟩ = some (.slice aoa l.length aoc) := ⟨(hy0.cell (p := ⟨w0.heap.size, 0, none⟩) hg0l).trans (pair_cells HXg.out).1, (hy0.cell (p := ⟨w0.heap.size, 1, none⟩) hg0l).trans (pair_cells HXg.out).2⟩
  refine wp_region_held_drew (S := fun w' => w'.cell? ⟨w0.heap.size, 0, none⟩ = some (.slice ava 4 avc) ∧ w'.cell? ⟨w0.heap.size, 1, none⟩ = some (.slice aoa l.length aoc)) (by kernel_rfl) (by rw [hze]; exact Sy0) (fun hHeld => ?_)
  rw [hze]
  clear hHeld hze
  refine wpAnyH_take (i := 0) (oi := { dst := some 57, op := Op.load 27 (Operand.tmp 3), type := 27, pos := "laws.go:275", after := #[], guard := none }) (v := ?_) rfl (by kernel_rfl) (by kernel_rfl) (by kernel_rfl) (fun _ _ _ h => h) (Or.inl ⟨by rfl, ?_⟩) (by assumption) ?_
  rotate_left
  · intro w hSw
    (try dsimp only at hSw)
    first | (go_simp; done) | (go_simp; with_reducible rfl)
  (try simp only [Act.put, List.setIfInBounds_toArray, List.set_cons_zero, List.set_cons_succ])
  skip
  refine wpAnyH_ready (rs := [1, 6]) (by kernel_rfl) (by simp) ?_
  refine (AllReadyH.cons (o := { dst := some 58, op := Op.call { callee := Callee.value (Operand.func 22), args := #[], argTypes := #[] }, type := 27, pos := "laws.go:275", after := #[], guard := none }) rfl (fun K hK => ?_) (AllReadyH.cons (o := { dst := some 13, op := Op.alloc 27, type := 0, pos := "laws.go:275", after := #[], guard := none }) rfl (fun K hK => ?_) AllReadyH.nil))
  · skip
    go_simp
    go_at_call 22
    refine (implCartNew y0).mono ?_
    rintro e y1 ⟨nva, ncap, rfl, hown, hbc⟩
    have hy1 := hy0.trans (hbc.mono hy0.size)
    have Sy1 : y1.cell? ⟨w0.heap.size, 0, none⟩ = some (.slice ava 4 avc) ∧ y1.cell? ⟨w0.heap.size, 1, none⟩ = some (.slice aoa l.length aoc) := ⟨(hy1.cell (p := ⟨w0.heap.size, 0, none⟩) hg0l).trans (pair_cells HXg.out).1, (hy1.cell (p := ⟨w0.heap.size, 1, none⟩) hg0l).trans (pair_cells HXg.out).2⟩
    have hny1 := Lib.hid hown
    have hzy1 := hbc.size
    refine hK.out _ _ Sy1 (fun hHeldC => ?_)
    clear hK K hHeldC hbc hown
    (try simp only [Act.put, List.setIfInBounds_toArray, List.set_cons_zero, List.set_cons_succ])
    refine wpAnyH_ready (rs := [2, 6]) (by kernel_rfl) (by simp) ?_
    refine (AllReadyH.cons (o := { dst := some 59, op := Op.call { callee := Callee.value (Operand.func 17), args := #[Operand.tmp 57, Operand.tmp 58], argTypes := #[27, 27] }, type := 30, pos := "laws.go:275", after := #[{ on := 0, ground := Ground.data }, { on := 1, ground := Ground.data }, { on := 1, ground := Ground.chain }], guard := none }) rfl (fun K hK => ?_) (AllReadyH.cons (o := { dst := some 13, op := Op.alloc 27, type := 0, pos := "laws.go:275", after := #[], guard := none }) rfl (fun K hK => ?_) AllReadyH.nil))
    · skip
      go_simp
      go_at_call 17
      have hsz := hy1.size
      have hc := implMergedK y1 y1.heap.size ava aoa nva none 4 avc l.length aoc 4 ncap 0 0 xs l [0, 0, 0, 0] [] ((HVA9.out.below hy1 (by omega)).more (by omega)) ((HOA9.out.below hy1 (by omega)).more (by omega)) (hny1.out.ints.more (by omega)) (opsNilC _ _) (Nat.le_refl _) (by omega) HCa.out.1 ⟨by omega, HCa.out.2.1⟩ HIa.out (by omega) (Nat.le_refl _) ⟨by omega, Nat.zero_le _⟩ (fun i hi => absurd hi (by omega))
      rw [HU1.out, HU2.out, HU3.out] at hc
      refine hc.mono ?_
      clear hc
      rintro e y2 ⟨zva, zvc, zoa, zoc, mid4, rfl, hov, hop, hm1, hm2, hbc, _⟩
      have hov := hov.more (Nat.le_refl _) hm2
      have hop := hop.more hm1 (Nat.le_refl _)
      have hy2 := hy1.trans (hbc.mono hy1.size)
      have Sy2 : y2.cell? ⟨w0.heap.size, 0, none⟩ = some (.slice ava 4 avc) ∧ y2.cell? ⟨w0.heap.size, 1, none⟩ = some (.slice aoa l.length aoc) := ⟨(hy2.cell (p := ⟨w0.heap.size, 0, none⟩) hg0l).trans (pair_cells HXg.out).1, (hy2.cell (p := ⟨w0.heap.size, 1, none⟩) hg0l).trans (pair_cells HXg.out).2⟩
      have hvy2 := Lib.hid hov
      have hoy2 := Lib.hid hop
      have hzy2 := hbc.size
      refine hK.out _ _ Sy2 (fun hHeldP => ?_)
      clear hK K hHeldP hbc hov hop hm1 hm2 hsz
      (try simp only [Act.put, List.setIfInBounds_toArray, List.set_cons_zero, List.set_cons_succ])
      refine wpAnyH_take (i := 3) (oi := { dst := some 56, op := Op.move (Operand.tmp 59), type := 30, pos := "laws.go:275", after := #[{ on := 2, ground := Ground.data }], guard := none }) (v := ?_) rfl (by kernel_rfl) (by kernel_rfl) (by kernel_rfl) (fun _ _ _ h => h) (Or.inl ⟨by rfl, ?_⟩) (by assumption) ?_
      rotate_left
      · intro w hSw
        (try dsimp only at hSw)
        first | (go_simp; done) | (go_simp; with_reducible rfl)
      (try simp only [Act.put, List.setIfInBounds_toArray, List.set_cons_zero, List.set_cons_succ])
      refine wpAnyH_take (i := 4) (oi := { dst := some 60, op := Op.extract (Operand.tmp 56) 0, type := 27, pos := "laws.go:275", after := #[{ on := 3, ground := Ground.data }], guard := none }) (v := ?_) rfl (by kernel_rfl) (by kernel_rfl) (by kernel_rfl) (fun _ _ _ h => h) (Or.inl ⟨by rfl, ?_⟩) (by assumption) ?_
      rotate_left
      · intro w hSw
        (try dsimp only at hSw)
        first | (go_simp; done) | (go_simp; with_reducible rfl)
      (try simp only [Act.put, List.setIfInBounds_toArray, List.set_cons_zero, List.set_cons_succ])
      refine wpAnyH_take (i := 5) (oi := { dst := some 61, op := Op.extract (Operand.tmp 56) 1, type := 4, pos := "laws.go:275", after := #[{ on := 3, ground := Ground.data }, { on := 7, ground := Ground.gcOnly Departure.lateStores }], guard := none }) (v := ?_) rfl (by kernel_rfl) (by kernel_rfl) (by kernel_rfl) (fun _ _ _ h => h) (Or.inl ⟨by rfl, ?_⟩) (by assumption) ?_
      rotate_left
      · intro w hSw
        (try dsimp only at hSw)
        first | (go_simp; done) | (go_simp; with_reducible rfl)
      (try simp only [Act.put, List.setIfInBounds_toArray, List.set_cons_zero, List.set_cons_succ])
      refine wpAnyH_ready (rs := [6]) (by kernel_rfl) (by simp) ?_
      refine (AllReadyH.cons (o := { dst := some 13, op := Op.alloc 27, type := 0, pos := "laws.go:275", after := #[], guard := none }) rfl (fun K hK => ?_) AllReadyH.nil)
      have hal : Below y2.heap.size y2 (y2.alloc (.cells #[.slice none 0 0, .slice none 0 0] 27)) := (Below.refl _ _).alloc (Nat.le_refl _) _
      have hxn := boxAt (Below.refl _ (y2.alloc (.cells #[.slice none 0 0, .slice none 0 0] 27)))
      have hy3A := hy2.trans (hal.mono hy2.size)
      have SA : (y2.alloc (.cells #[.slice none 0 0, .slice none 0 0] 27)).cell? ⟨w0.heap.size, 0, none⟩ = some (.slice ava 4 avc) ∧ (y2.alloc (.cells #[.slice none 0 0, .slice none 0 0] 27)).cell? ⟨w0.heap.size, 1, none⟩ = some (.slice aoa l.length aoc) := ⟨(hy3A.cell (p := ⟨w0.heap.size, 0, none⟩) hg0l).trans (pair_cells HXg.out).1, (hy3A.cell (p := ⟨w0.heap.size, 1, none⟩) hg0l).trans (pair_cells HXg.out).2⟩
      go_simp
      refine hK.out _ _ SA (fun hHeldA => ?_)
      clear hK K hHeldA
      (try simp only [Act.put, List.setIfInBounds_toArray, List.set_cons_zero, List.set_cons_succ])
      generalize y2.alloc (.cells #[.slice none 0 0, .slice none 0 0] 27) = y3 at hal hxn hy3A SA ⊢
      have hy3 := hy3A
      have Sy3 := SA
      have hxy3 := Lib.hid hxn
      have hly3 := lt_of_row hxn
      have hvy3 := Lib.hid (hvy2.out.below hal (by omega))
      have hoy3 := Lib.hid (hoy2.out.below hal (by omega))
      have hzy3 := hal.size
      clear hal hxn hy3A SA
      have hq1 := hy2.size
      have hq2 := hy1.size
      obtain ⟨HNn, HVn, HOn, hzn, hzs⟩ := crtStore (.slice zva xs.length zvc) (.slice zoa l.length zoc) hy3 hxy3.out hq1 (by first | exact .inl (Nat.le_refl _) | (left; omega) | (right; omega)) hvy3.out hoy3.out
      obtain ⟨d0, d1⟩ := pair_cells hxy3.out
      obtain ⟨f0, f1⟩ := pair_frozen hxy3.out
      have SW : ((y3.setCell ⟨y2.heap.size, 0, none⟩ (.slice zva xs.length zvc)).setCell ⟨y2.heap.size, 1, none⟩ (.slice zoa l.length zoc)).cell? ⟨w0.heap.size, 0, none⟩ = some (.slice ava 4 avc) ∧ ((y3.setCell ⟨y2.heap.size, 0, none⟩ (.slice zva xs.length zvc)).setCell ⟨y2.heap.size, 1, none⟩ (.slice zoa l.length zoc)).cell? ⟨w0.heap.size, 1, none⟩ = some (.slice aoa l.length aoc) := ⟨(hzn.cell (p := ⟨w0.heap.size, 0, none⟩) hg0l).trans (pair_cells HXg.out).1, (hzn.cell (p := ⟨w0.heap.size, 1, none⟩) hg0l).trans (pair_cells HXg.out).2⟩
      refine wpAnyH_ready (rs := [7]) (by kernel_rfl) (by simp) ?_
      refine AllReadyH.cons (o := { dst := none, op := Op.store 27 (Operand.tmp 13) (Operand.tmp 60), type := 0, pos := "laws.go:275", after := #[{ on := 6, ground := Ground.data }, { on := 4, ground := Ground.data }, { on := 2, ground := Ground.chain }, { on := 0, ground := Ground.phase }, { on := 1, ground := Ground.phase }, { on := 2, ground := Ground.phase }, { on := 3, ground := Ground.phase }, { on := 4, ground := Ground.phase }, { on := 5, ground := Ground.textOnly Departure.lateStores }, { on := 6, ground := Ground.phase }], guard := none }) rfl (fun K hK => ?_) AllReadyH.nil
      go_simp
      refine hK.out _ _ SW (fun hHeldB => ?_)
      clear hK K hHeldB d0 d1 f0 f1
      (try simp only [Act.put, List.setIfInBounds_toArray, List.set_cons_zero, List.set_cons_succ])
      generalize (y3.setCell ⟨y2.heap.size, 0, none⟩ (.slice zva xs.length zvc)).setCell ⟨y2.heap.size, 1, none⟩ (.slice zoa l.length zoc) = w10 at HNn HVn HOn hzn hzs SW ⊢
      refine wpAnyH_take (i := 8) (oi := { dst := some 14, op := Op.assign (Operand.tmp 61), type := 4, pos := "laws.go:275", after := #[{ on := 5, ground := Ground.data }, { on := 7, ground := Ground.chain }, { on := 0, ground := Ground.phase }, { on := 1, ground := Ground.phase }, { on := 2, ground := Ground.phase }, { on := 3, ground := Ground.phase }, { on := 4, ground := Ground.phase }, { on := 5, ground := Ground.phase }, { on := 6, ground := Ground.phase }, { on := 7, ground := Ground.phase }], guard := none }) (v := ?_) rfl (by kernel_rfl) (by kernel_rfl) (by kernel_rfl) (fun _ _ _ h => h) (Or.inl ⟨by rfl, ?_⟩) (by assumption) ?_
      rotate_left
      · intro w hSw
        (try dsimp only at hSw)
        first | (go_simp; done) | (go_simp; with_reducible rfl)
      (try simp only [Act.put, List.setIfInBounds_toArray, List.set_cons_zero, List.set_cons_succ])
      refine wpAnyH_done (by kernel_rfl) ?_ _
      have hb := hzn
      clear SW hzn
      have hzb := lt_of_row HNn.out
      have HVZ10 := Lib.hid HVn.out.ints
      have HOZ10 := Lib.hid HOn.out.ops
      clear HVn HOn
      have hs10 := hb.size
      have HVA10 := Lib.hid (HVA9.out.below hb (by omega))
      have HOA10 := Lib.hid (HOA9.out.below hb (by omega))
      have HVB10 := Lib.hid (HVB9.out.below hb (by omega))
      have HOB10 := Lib.hid (HOB9.out.below hb (by omega))
      have HB10 := Lib.hid (HB9.out.trans (hb.mono (by omega)))
      have HXa10 := Lib.hid ((hb.block _ (lt_of_row HXa9.out)).trans HXa9.out)
      have HXb10 := Lib.hid ((hb.block _ (lt_of_row HXb9.out)).trans HXb9.out)
      have HVM10 := Lib.hid (HVM9.out.below hb (by omega))
      have HOM10 := Lib.hid (HOM9.out.below hb (by omega))
      have HXm10 := Lib.hid ((hb.block _ (lt_of_row HXm9.out)).trans HXm9.out)
      have HXw10 := Lib.hid ((hb.block _ (lt_of_row HXw9.out)).trans HXw9.out)
      have HVX10 := Lib.hid (HVX9.out.below hb (by omega))
      have HOX10 := Lib.hid (HOX9.out.below hb (by omega))
      have HXx10 := Lib.hid ((hb.block _ (lt_of_row HXx9.out)).trans HXx9.out)
      have HVY10 := Lib.hid (HVY9.out.below hb (by omega))
      have HOY10 := Lib.hid (HOY9.out.below hb (by omega))
      have HXy10 := Lib.hid ((hb.block _ (lt_of_row HXy9.out)).trans HXy9.out)
      clear hb HVA9 HOA9 HVB9 HOB9 HB9 HXa9 HXb9 HVM9 HOM9 HXm9 HXw9 HVX9 HOX9 HXx9 HVY9 HOY9 HXy9
      have HXz10 := HNn
      obtain ⟨c00, c01⟩ := pair_cells HXx10.out
      obtain ⟨c10, c11⟩ := pair_cells HXa10.out
      go_wp2_with fail
      refine (sameCart w10 w10.heap.size xva xoa ava aoa xs.length xvc l.length xoc 4 avc l.length aoc xs l xs l (HVX10.out.more (by omega)) (HOX10.out.more (by omega)) (HVA10.out.more (by omega)) (HOA10.out.more (by omega)) (Nat.le_refl _) (by omega) (by omega) (by omega) (by omega)).mono ?_
      rintro e w11 ⟨rfl, hb⟩
      rw [decide_eq_true rfl, decide_eq_true rfl]
      clear c00 c01 c10 c11
      have hs11 := hb.size
      have HVA11 := Lib.hid (HVA10.out.below hb (by omega))
      have HOA11 := Lib.hid (HOA10.out.below hb (by omega))
      have HVB11 := Lib.hid (HVB10.out.below hb (by omega))
      have HOB11 := Lib.hid (HOB10.out.below hb (by omega))
      have HB11 := Lib.hid (HB10.out.trans (hb.mono (by omega)))
      have HXa11 := Lib.hid ((hb.block _ (lt_of_row HXa10.out)).trans HXa10.out)
      have HXb11 := Lib.hid ((hb.block _ (lt_of_row HXb10.out)).trans HXb10.out)
      have HVM11 := Lib.hid (HVM10.out.below hb (by omega))
      have HOM11 := Lib.hid (HOM10.out.below hb (by omega))
      have HXm11 := Lib.hid ((hb.block _ (lt_of_row HXm10.out)).trans HXm10.out)
      have HXw11 := Lib.hid ((hb.block _ (lt_of_row HXw10.out)).trans HXw10.out)
      have HVX11 := Lib.hid (HVX10.out.below hb (by omega))
      have HOX11 := Lib.hid (HOX10.out.below hb (by omega))
      have HXx11 := Lib.hid ((hb.block _ (lt_of_row HXx10.out)).trans HXx10.out)
      have HVY11 := Lib.hid (HVY10.out.below hb (by omega))
      have HOY11 := Lib.hid (HOY10.out.below hb (by omega))
      have HXy11 := Lib.hid ((hb.block _ (lt_of_row HXy10.out)).trans HXy10.out)
      have HVZ11 := Lib.hid (HVZ10.out.below hb (by omega))
      have HOZ11 := Lib.hid (HOZ10.out.below hb (by omega))
      have HXz11 := Lib.hid ((hb.block _ (lt_of_row HXz10.out)).trans HXz10.out)
      clear hb HVA10 HOA10 HVB10 HOB10 HB10 HXa10 HXb10 HVM10 HOM10 HXm10 HXw10 HVX10 HOX10 HXx10 HVY10 HOY10 HXy10 HVZ10 HOZ10 HXz10
      obtain ⟨c00, c01⟩ := pair_cells HXy11.out
      obtain ⟨c10, c11⟩ := pair_cells HXm11.out
      go_wp2_with fail
      refine (sameCart w11 w11.heap.size yva yoa mva moa vs.length yvc os.length yoc vs.length mvc os.length moc vs os vs os (HVY11.out.more (by omega)) (HOY11.out.more (by omega)) (HVM11.out.more (by omega)) (HOM11.out.more (by omega)) (Nat.le_refl _) (by omega) (by omega) (by omega) (by omega)).mono ?_
      rintro e w12 ⟨rfl, hb⟩
      rw [decide_eq_true rfl, decide_eq_true rfl]
      clear c00 c01 c10 c11
      have hs12 := hb.size
      have HVA12 := Lib.hid (HVA11.out.below hb (by omega))
      have HOA12 := Lib.hid (HOA11.out.below hb (by omega))
      have HVB12 := Lib.hid (HVB11.out.below hb (by omega))
      have HOB12 := Lib.hid (HOB11.out.below hb (by omega))
      have HB12 := Lib.hid (HB11.out.trans (hb.mono (by omega)))
      have HXa12 := Lib.hid ((hb.block _ (lt_of_row HXa11.out)).trans HXa11.out)
      have HXb12 := Lib.hid ((hb.block _ (lt_of_row HXb11.out)).trans HXb11.out)
      have HVM12 := Lib.hid (HVM11.out.below hb (by omega))
      have HOM12 := Lib.hid (HOM11.out.below hb (by omega))
      have HXm12 := Lib.hid ((hb.block _ (lt_of_row HXm11.out)).trans HXm11.out)
      have HXw12 := Lib.hid ((hb.block _ (lt_of_row HXw11.out)).trans HXw11.out)
      have HVX12 := Lib.hid (HVX11.out.below hb (by omega))
      have HOX12 := Lib.hid (HOX11.out.below hb (by omega))
      have HXx12 := Lib.hid ((hb.block _ (lt_of_row HXx11.out)).trans HXx11.out)
      have HVY12 := Lib.hid (HVY11.out.below hb (by omega))
      have HOY12 := Lib.hid (HOY11.out.below hb (by omega))
      have HXy12 := Lib.hid ((hb.block _ (lt_of_row HXy11.out)).trans HXy11.out)
      have HVZ12 := Lib.hid (HVZ11.out.below hb (by omega))
      have HOZ12 := Lib.hid (HOZ11.out.below hb (by omega))
      have HXz12 := Lib.hid ((hb.block _ (lt_of_row HXz11.out)).trans HXz11.out)
      clear hb HVA11 HOA11 HVB11 HOB11 HB11 HXa11 HXb11 HVM11 HOM11 HXm11 HXw11 HVX11 HOX11 HXx11 HVY11 HOY11 HXy11 HVZ11 HOZ11 HXz11
      obtain ⟨c00, c01⟩ := pair_cells HXz12.out
      obtain ⟨c10, c11⟩ := pair_cells HXa12.out
      go_wp2_with fail
      refine (sameCart w12 w12.heap.size zva zoa ava aoa xs.length zvc l.length zoc 4 avc l.length aoc xs l xs l (HVZ12.out.more (by omega)) (HOZ12.out.more (by omega)) (HVA12.out.more (by omega)) (HOA12.out.more (by omega)) (Nat.le_refl _) (by omega) (by omega) (by omega) (by omega)).mono ?_
      rintro e w13 ⟨rfl, hb⟩
      rw [decide_eq_true rfl, decide_eq_true rfl]
      clear c00 c01 c10 c11
      have hs13 := hb.size
      have HVA13 := Lib.hid (HVA12.out.below hb (by omega))
      have HOA13 := Lib.hid (HOA12.out.below hb (by omega))
      have HVB13 := Lib.hid (HVB12.out.below hb (by omega))
      have HOB13 := Lib.hid (HOB12.out.below hb (by omega))
      have HB13 := Lib.hid (HB12.out.trans (hb.mono (by omega)))
      have HXa13 := Lib.hid ((hb.block _ (lt_of_row HXa12.out)).trans HXa12.out)
      have HXb13 := Lib.hid ((hb.block _ (lt_of_row HXb12.out)).trans HXb12.out)
      have HVM13 := Lib.hid (HVM12.out.below hb (by omega))
      have HOM13 := Lib.hid (HOM12.out.below hb (by omega))
      have HXm13 := Lib.hid ((hb.block _ (lt_of_row HXm12.out)).trans HXm12.out)
      have HXw13 := Lib.hid ((hb.block _ (lt_of_row HXw12.out)).trans HXw12.out)
      have HVX13 := Lib.hid (HVX12.out.below hb (by omega))
      have HOX13 := Lib.hid (HOX12.out.below hb (by omega))
      have HXx13 := Lib.hid ((hb.block _ (lt_of_row HXx12.out)).trans HXx12.out)
      have HVY13 := Lib.hid (HVY12.out.below hb (by omega))
      have HOY13 := Lib.hid (HOY12.out.below hb (by omega))
      have HXy13 := Lib.hid ((hb.block _ (lt_of_row HXy12.out)).trans HXy12.out)
      have HVZ13 := Lib.hid (HVZ12.out.below hb (by omega))
      have HOZ13 := Lib.hid (HOZ12.out.below hb (by omega))
      have HXz13 := Lib.hid ((hb.block _ (lt_of_row HXz12.out)).trans HXz12.out)
      clear hb HVA12 HOA12 HVB12 HOB12 HB12 HXa12 HXb12 HVM12 HOM12 HXm12 HXw12 HVX12 HOX12 HXx12 HVY12 HOY12 HXy12 HVZ12 HOZ12 HXz12
      go_wp2
      go_ret
      exact ⟨rfl, HB13.out⟩
    · skip
      have hal : Below y1.heap.size y1 (y1.alloc (.cells #[.slice none 0 0, .slice none 0 0] 27)) := (Below.refl _ _).alloc (Nat.le_refl _) _
      have hxn := boxAt (Below.refl _ (y1.alloc (.cells #[.slice none 0 0, .slice none 0 0] 27)))
      have hy4A := hy1.trans (hal.mono hy1.size)
      have SA : (y1.alloc (.cells #[.slice none 0 0, .slice none 0 0] 27)).cell? ⟨w0.heap.size, 0, none⟩ = some (.slice ava 4 avc) ∧ (y1.alloc (.cells #[.slice none 0 0, .slice none 0 0] 27)).cell? ⟨w0.heap.size, 1, none⟩ = some (.slice aoa l.length aoc) := ⟨(hy4A.cell (p := ⟨w0.heap.size, 0, none⟩) hg0l).trans (pair_cells HXg.out).1, (hy4A.cell (p := ⟨w0.heap.size, 1, none⟩) hg0l).trans (pair_cells HXg.out).2⟩
      go_simp
      refine hK.out _ _ SA (fun hHeldA => ?_)
      clear hK K hHeldA
      (try simp only [Act.put, List.setIfInBounds_toArray, List.set_cons_zero, List.set_cons_succ])
      generalize y1.alloc (.cells #[.slice none 0 0, .slice none 0 0] 27) = y4 at hal hxn hy4A SA ⊢
      have hy4 := hy4A
      have Sy4 := SA
      have hxy4 := Lib.hid hxn
      have hly4 := lt_of_row hxn
      have hny4 := Lib.hid (hny1.out.below hal (by omega))
      have hzy4 := hal.size
      clear hal hxn hy4A SA
      refine wpAnyH_ready (rs := [2]) (by kernel_rfl) (by simp) ?_
      refine (AllReadyH.cons (o := { dst := some 59, op := Op.call { callee := Callee.value (Operand.func 17), args := #[Operand.tmp 57, Operand.tmp 58], argTypes := #[27, 27] }, type := 30, pos := "laws.go:275", after := #[{ on := 0, ground := Ground.data }, { on := 1, ground := Ground.data }, { on := 1, ground := Ground.chain }], guard := none }) rfl (fun K hK => ?_) AllReadyH.nil)
      go_simp
      go_at_call 17
      have hsz := hy4.size
      have hc := implMergedK y4 y4.heap.size ava aoa nva none 4 avc l.length aoc 4 ncap 0 0 xs l [0, 0, 0, 0] [] ((HVA9.out.below hy4 (by omega)).more (by omega)) ((HOA9.out.below hy4 (by omega)).more (by omega)) (hny4.out.ints.more (by omega)) (opsNilC _ _) (Nat.le_refl _) (by omega) HCa.out.1 ⟨by omega, HCa.out.2.1⟩ HIa.out (by omega) (Nat.le_refl _) ⟨by omega, Nat.zero_le _⟩ (fun i hi => absurd hi (by omega))
      rw [HU1.out, HU2.out, HU3.out] at hc
      refine hc.mono ?_
      clear hc
      rintro e y5 ⟨zva, zvc, zoa, zoc, mid4, rfl, hov, hop, hm1, hm2, hbc, _⟩
      have hov := hov.more (Nat.le_refl _) hm2
      have hop := hop.more hm1 (Nat.le_refl _)
      have hy5 := hy4.trans (hbc.mono hy4.size)
      have Sy5 : y5.cell? ⟨w0.heap.size, 0, none⟩ = some (.slice ava 4 avc) ∧ y5.cell? ⟨w0.heap.size, 1, none⟩ = some (.slice aoa l.length aoc) := ⟨(hy5.cell (p := ⟨w0.heap.size, 0, none⟩) hg0l).trans (pair_cells HXg.out).1, (hy5.cell (p := ⟨w0.heap.size, 1, none⟩) hg0l).trans (pair_cells HXg.out).2⟩
      have hvy5 := Lib.hid hov
      have hoy5 := Lib.hid hop
      have hzy5 := hbc.size
      have hxy5 := Lib.hid ((hbc.block _ (lt_of_row hxy4.out)).trans hxy4.out)
      refine hK.out _ _ Sy5 (fun hHeldP => ?_)
      clear hK K hHeldP hbc hov hop hm1 hm2 hsz
      (try simp only [Act.put, List.setIfInBounds_toArray, List.set_cons_zero, List.set_cons_succ])
      refine wpAnyH_take (i := 3) (oi := { dst := some 56, op := Op.move (Operand.tmp 59), type := 30, pos := "laws.go:275", after := #[{ on := 2, ground := Ground.data }], guard := none }) (v := ?_) rfl (by kernel_rfl) (by kernel_rfl) (by kernel_rfl) (fun _ _ _ h => h) (Or.inl ⟨by rfl, ?_⟩) (by assumption) ?_
      rotate_left
      · intro w hSw
        (try dsimp only at hSw)
        first | (go_simp; done) | (go_simp; with_reducible rfl)
      (try simp only [Act.put, List.setIfInBounds_toArray, List.set_cons_zero, List.set_cons_succ])
      refine wpAnyH_take (i := 4) (oi := { dst := some 60, op := Op.extract (Operand.tmp 56) 0, type := 27, pos := "laws.go:275", after := #[{ on := 3, ground := Ground.data }], guard := none }) (v := ?_) rfl (by kernel_rfl) (by kernel_rfl) (by kernel_rfl) (fun _ _ _ h => h) (Or.inl ⟨by rfl, ?_⟩) (by assumption) ?_
      rotate_left
      · intro w hSw
        (try dsimp only at hSw)
        first | (go_simp; done) | (go_simp; with_reducible rfl)
      (try simp only [Act.put, List.setIfInBounds_toArray, List.set_cons_zero, List.set_cons_succ])
      refine wpAnyH_take (i := 5) (oi := { dst := some 61, op := Op.extract (Operand.tmp 56) 1, type := 4, pos := "laws.go:275", after := #[{ on := 3, ground := Ground.data }, { on := 7, ground := Ground.gcOnly Departure.lateStores }], guard := none }) (v := ?_) rfl (by kernel_rfl) (by kernel_rfl) (by kernel_rfl) (fun _ _ _ h => h) (Or.inl ⟨by rfl, ?_⟩) (by assumption) ?_
      rotate_left
      · intro w hSw
        (try dsimp only at hSw)
        first | (go_simp; done) | (go_simp; with_reducible rfl)
      (try simp only [Act.put, List.setIfInBounds_toArray, List.set_cons_zero, List.set_cons_succ])
      have hq1 := hy1.size
      have hq2 := hy4.size
      obtain ⟨HNn, HVn, HOn, hzn, hzs⟩ := crtStore (.slice zva xs.length zvc) (.slice zoa l.length zoc) hy5 hxy5.out hq1 (by first | exact .inl (Nat.le_refl _) | (left; omega) | (right; omega)) hvy5.out hoy5.out
      obtain ⟨d0, d1⟩ := pair_cells hxy5.out
      obtain ⟨f0, f1⟩ := pair_frozen hxy5.out
      have SW : ((y5.setCell ⟨y1.heap.size, 0, none⟩ (.slice zva xs.length zvc)).setCell ⟨y1.heap.size, 1, none⟩ (.slice zoa l.length zoc)).cell? ⟨w0.heap.size, 0, none⟩ = some (.slice ava 4 avc) ∧ ((y5.setCell ⟨y1.heap.size, 0, none⟩ (.slice zva xs.length zvc)).setCell ⟨y1.heap.size, 1, none⟩ (.slice zoa l.length zoc)).cell? ⟨w0.heap.size, 1, none⟩ = some (.slice aoa l.length aoc) := ⟨(hzn.cell (p := ⟨w0.heap.size, 0, none⟩) hg0l).trans (pair_cells HXg.out).1, (hzn.cell (p := ⟨w0.heap.size, 1, none⟩) hg0l).trans (pair_cells HXg.out).2⟩
      refine wpAnyH_ready (rs := [7]) (by kernel_rfl) (by simp) ?_
      refine AllReadyH.cons (o := { dst := none, op := Op.store 27 (Operand.tmp 13) (Operand.tmp 60), type := 0, pos := "laws.go:275", after := #[{ on := 6, ground := Ground.data }, { on := 4, ground := Ground.data }, { on := 2, ground := Ground.chain }, { on := 0, ground := Ground.phase }, { on := 1, ground := Ground.phase }, { on := 2, ground := Ground.phase }, { on := 3, ground := Ground.phase }, { on := 4, ground := Ground.phase }, { on := 5, ground := Ground.textOnly Departure.lateStores }, { on := 6, ground := Ground.phase }], guard := none }) rfl (fun K hK => ?_) AllReadyH.nil
      go_simp
      refine hK.out _ _ SW (fun hHeldB => ?_)
      clear hK K hHeldB d0 d1 f0 f1
      (try simp only [Act.put, List.setIfInBounds_toArray, List.set_cons_zero, List.set_cons_succ])
      generalize (y5.setCell ⟨y1.heap.size, 0, none⟩ (.slice zva xs.length zvc)).setCell ⟨y1.heap.size, 1, none⟩ (.slice zoa l.length zoc) = w10 at HNn HVn HOn hzn hzs SW ⊢
      refine wpAnyH_take (i := 8) (oi := { dst := some 14, op := Op.assign (Operand.tmp 61), type := 4, pos := "laws.go:275", after := #[{ on := 5, ground := Ground.data }, { on := 7, ground := Ground.chain }, { on := 0, ground := Ground.phase }, { on := 1, ground := Ground.phase }, { on := 2, ground := Ground.phase }, { on := 3, ground := Ground.phase }, { on := 4, ground := Ground.phase }, { on := 5, ground := Ground.phase }, { on := 6, ground := Ground.phase }, { on := 7, ground := Ground.phase }], guard := none }) (v := ?_) rfl (by kernel_rfl) (by kernel_rfl) (by kernel_rfl) (fun _ _ _ h => h) (Or.inl ⟨by rfl, ?_⟩) (by assumption) ?_
      rotate_left
      · intro w hSw
        (try dsimp only at hSw)
        first | (go_simp; done) | (go_simp; with_reducible rfl)
      (try simp only [Act.put, List.setIfInBounds_toArray, List.set_cons_zero, List.set_cons_succ])
      refine wpAnyH_done (by kernel_rfl) ?_ _
      have hb := hzn
      clear SW hzn
      have hzb := lt_of_row HNn.out
      have HVZ10 := Lib.hid HVn.out.ints
      have HOZ10 := Lib.hid HOn.out.ops
      clear HVn HOn
      have hs10 := hb.size
      have HVA10 := Lib.hid (HVA9.out.below hb (by omega))
      have HOA10 := Lib.hid (HOA9.out.below hb (by omega))
      have HVB10 := Lib.hid (HVB9.out.below hb (by omega))
      have HOB10 := Lib.hid (HOB9.out.below hb (by omega))
      have HB10 := Lib.hid (HB9.out.trans (hb.mono (by omega)))
      have HXa10 := Lib.hid ((hb.block _ (lt_of_row HXa9.out)).trans HXa9.out)
      have HXb10 := Lib.hid ((hb.block _ (lt_of_row HXb9.out)).trans HXb9.out)
      have HVM10 := Lib.hid (HVM9.out.below hb (by omega))
      have HOM10 := Lib.hid (HOM9.out.below hb (by omega))
      have HXm10 := Lib.hid ((hb.block _ (lt_of_row HXm9.out)).trans HXm9.out)
      have HXw10 := Lib.hid ((hb.block _ (lt_of_row HXw9.out)).trans HXw9.out)
      have HVX10 := Lib.hid (HVX9.out.below hb (by omega))
      have HOX10 := Lib.hid (HOX9.out.below hb (by omega))
      have HXx10 := Lib.hid ((hb.block _ (lt_of_row HXx9.out)).trans HXx9.out)
      have HVY10 := Lib.hid (HVY9.out.below hb (by omega))
      have HOY10 := Lib.hid (HOY9.out.below hb (by omega))
      have HXy10 := Lib.hid ((hb.block _ (lt_of_row HXy9.out)).trans HXy9.out)
      clear hb HVA9 HOA9 HVB9 HOB9 HB9 HXa9 HXb9 HVM9 HOM9 HXm9 HXw9 HVX9 HOX9 HXx9 HVY9 HOY9 HXy9
      have HXz10 := HNn
      obtain ⟨c00, c01⟩ := pair_cells HXx10.out
      obtain ⟨c10, c11⟩ := pair_cells HXa10.out
      go_wp2_with fail
      refine (sameCart w10 w10.heap.size xva xoa ava aoa xs.length xvc l.length xoc 4 avc l.length aoc xs l xs l (HVX10.out.more (by omega)) (HOX10.out.more (by omega)) (HVA10.out.more (by omega)) (HOA10.out.more (by omega)) (Nat.le_refl _) (by omega) (by omega) (by omega) (by omega)).mono ?_
      rintro e w11 ⟨rfl, hb⟩
      rw [decide_eq_true rfl, decide_eq_true rfl]
      clear c00 c01 c10 c11
      have hs11 := hb.size
      have HVA11 := Lib.hid (HVA10.out.below hb (by omega))
      have HOA11 := Lib.hid (HOA10.out.below hb (by omega))
      have HVB11 := Lib.hid (HVB10.out.below hb (by omega))
      have HOB11 := Lib.hid (HOB10.out.below hb (by omega))
      have HB11 := Lib.hid (HB10.out.trans (hb.mono (by omega)))
      have HXa11 := Lib.hid ((hb.block _ (lt_of_row HXa10.out)).trans HXa10.out)
      have HXb11 := Lib.hid ((hb.block _ (lt_of_row HXb10.out)).trans HXb10.out)
      have HVM11 := Lib.hid (HVM10.out.below hb (by omega))
      have HOM11 := Lib.hid (HOM10.out.below hb (by omega))
      have HXm11 := Lib.hid ((hb.block _ (lt_of_row HXm10.out)).trans HXm10.out)
      have HXw11 := Lib.hid ((hb.block _ (lt_of_row HXw10.out)).trans HXw10.out)
      have HVX11 := Lib.hid (HVX10.out.below hb (by omega))
      have HOX11 := Lib.hid (HOX10.out.below hb (by omega))
      have HXx11 := Lib.hid ((hb.block _ (lt_of_row HXx10.out)).trans HXx10.out)
      have HVY11 := Lib.hid (HVY10.out.below hb (by omega))
      have HOY11 := Lib.hid (HOY10.out.below hb (by omega))
      have HXy11 := Lib.hid ((hb.block _ (lt_of_row HXy10.out)).trans HXy10.out)
      have HVZ11 := Lib.hid (HVZ10.out.below hb (by omega))
      have HOZ11 := Lib.hid (HOZ10.out.below hb (by omega))
      have HXz11 := Lib.hid ((hb.block _ (lt_of_row HXz10.out)).trans HXz10.out)
      clear hb HVA10 HOA10 HVB10 HOB10 HB10 HXa10 HXb10 HVM10 HOM10 HXm10 HXw10 HVX10 HOX10 HXx10 HVY10 HOY10 HXy10 HVZ10 HOZ10 HXz10
      obtain ⟨c00, c01⟩ := pair_cells HXy11.out
      obtain ⟨c10, c11⟩ := pair_cells HXm11.out
      go_wp2_with fail
      refine (sameCart w11 w11.heap.size yva yoa mva moa vs.length yvc os.length yoc vs.length mvc os.length moc vs os vs os (HVY11.out.more (by omega)) (HOY11.out.more (by omega)) (HVM11.out.more (by omega)) (HOM11.out.more (by omega)) (Nat.le_refl _) (by omega) (by omega) (by omega) (by omega)).mono ?_
      rintro e w12 ⟨rfl, hb⟩
      rw [decide_eq_true rfl, decide_eq_true rfl]
      clear c00 c01 c10 c11
      have hs12 := hb.size
      have HVA12 := Lib.hid (HVA11.out.below hb (by omega))
      have HOA12 := Lib.hid (HOA11.out.below hb (by omega))
      have HVB12 := Lib.hid (HVB11.out.below hb (by omega))
      have HOB12 := Lib.hid (HOB11.out.below hb (by omega))
      have HB12 := Lib.hid (HB11.out.trans (hb.mono (by omega)))
      have HXa12 := Lib.hid ((hb.block _ (lt_of_row HXa11.out)).trans HXa11.out)
      have HXb12 := Lib.hid ((hb.block _ (lt_of_row HXb11.out)).trans HXb11.out)
      have HVM12 := Lib.hid (HVM11.out.below hb (by omega))
      have HOM12 := Lib.hid (HOM11.out.below hb (by omega))
      have HXm12 := Lib.hid ((hb.block _ (lt_of_row HXm11.out)).trans HXm11.out)
      have HXw12 := Lib.hid ((hb.block _ (lt_of_row HXw11.out)).trans HXw11.out)
      have HVX12 := Lib.hid (HVX11.out.below hb (by omega))
      have HOX12 := Lib.hid (HOX11.out.below hb (by omega))
      have HXx12 := Lib.hid ((hb.block _ (lt_of_row HXx11.out)).trans HXx11.out)
      have HVY12 := Lib.hid (HVY11.out.below hb (by omega))
      have HOY12 := Lib.hid (HOY11.out.below hb (by omega))
      have HXy12 := Lib.hid ((hb.block _ (lt_of_row HXy11.out)).trans HXy11.out)
      have HVZ12 := Lib.hid (HVZ11.out.below hb (by omega))
      have HOZ12 := Lib.hid (HOZ11.out.below hb (by omega))
      have HXz12 := Lib.hid ((hb.block _ (lt_of_row HXz11.out)).trans HXz11.out)
      clear hb HVA11 HOA11 HVB11 HOB11 HB11 HXa11 HXb11 HVM11 HOM11 HXm11 HXw11 HVX11 HOX11 HXx11 HVY11 HOY11 HXy11 HVZ11 HOZ11 HXz11
      obtain ⟨c00, c01⟩ := pair_cells HXz12.out
      obtain ⟨c10, c11⟩ := pair_cells HXa12.out
      go_wp2_with fail
      refine (sameCart w12 w12.heap.size zva zoa ava aoa xs.length zvc l.length zoc 4 avc l.length aoc xs l xs l (HVZ12.out.more (by omega)) (HOZ12.out.more (by omega)) (HVA12.out.more (by omega)) (HOA12.out.more (by omega)) (Nat.le_refl _) (by omega) (by omega) (by omega) (by omega)).mono ?_
      rintro e w13 ⟨rfl, hb⟩
      rw [decide_eq_true rfl, decide_eq_true rfl]
      clear c00 c01 c10 c11
      have hs13 := hb.size
      have HVA13 := Lib.hid (HVA12.out.below hb (by omega))
      have HOA13 := Lib.hid (HOA12.out.below hb (by omega))
      have HVB13 := Lib.hid (HVB12.out.below hb (by omega))
      have HOB13 := Lib.hid (HOB12.out.below hb (by omega))
      have HB13 := Lib.hid (HB12.out.trans (hb.mono (by omega)))
      have HXa13 := Lib.hid ((hb.block _ (lt_of_row HXa12.out)).trans HXa12.out)
      have HXb13 := Lib.hid ((hb.block _ (lt_of_row HXb12.out)).trans HXb12.out)
      have HVM13 := Lib.hid (HVM12.out.below hb (by omega))
      have HOM13 := Lib.hid (HOM12.out.below hb (by omega))
      have HXm13 := Lib.hid ((hb.block _ (lt_of_row HXm12.out)).trans HXm12.out)
      have HXw13 := Lib.hid ((hb.block _ (lt_of_row HXw12.out)).trans HXw12.out)
      have HVX13 := Lib.hid (HVX12.out.below hb (by omega))
      have HOX13 := Lib.hid (HOX12.out.below hb (by omega))
      have HXx13 := Lib.hid ((hb.block _ (lt_of_row HXx12.out)).trans HXx12.out)
      have HVY13 := Lib.hid (HVY12.out.below hb (by omega))
      have HOY13 := Lib.hid (HOY12.out.below hb (by omega))
      have HXy13 := Lib.hid ((hb.block _ (lt_of_row HXy12.out)).trans HXy12.out)
      have HVZ13 := Lib.hid (HVZ12.out.below hb (by omega))
      have HOZ13 := Lib.hid (HOZ12.out.below hb (by omega))
      have HXz13 := Lib.hid ((hb.block _ (lt_of_row HXz12.out)).trans HXz12.out)
      clear hb HVA12 HOA12 HVB12 HOB12 HB12 HXa12 HXb12 HVM12 HOM12 HXm12 HXw12 HVX12 HOX12 HXx12 HVY12 HOY12 HXy12 HVZ12 HOZ12 HXz12
      go_wp2
      go_ret
      exact ⟨rfl, HB13.out⟩
  · skip
    have hal : Below y0.heap.size y0 (y0.alloc (.cells #[.slice none 0 0, .slice none 0 0] 27)) := (Below.refl _ _).alloc (Nat.le_refl _) _
    have hxn := boxAt (Below.refl _ (y0.alloc (.cells #[.slice none 0 0, .slice none 0 0] 27)))
    have hy6A := hy0.trans (hal.mono hy0.size)
    have SA : (y0.alloc (.cells #[.slice none 0 0, .slice none 0 0] 27)).cell? ⟨w0.heap.size, 0, none⟩ = some (.slice ava 4 avc) ∧ (y0.alloc (.cells #[.slice none 0 0, .slice none 0 0] 27)).cell? ⟨w0.heap.size, 1, none⟩ = some (.slice aoa l.length aoc) := ⟨(hy6A.cell (p := ⟨w0.heap.size, 0, none⟩) hg0l).trans (pair_cells HXg.out).1, (hy6A.cell (p := ⟨w0.heap.size, 1, none⟩) hg0l).trans (pair_cells HXg.out).2⟩
    go_simp
    refine hK.out _ _ SA (fun hHeldA => ?_)
    clear hK K hHeldA
    (try simp only [Act.put, List.setIfInBounds_toArray, List.set_cons_zero, List.set_cons_succ])
    generalize y0.alloc (.cells #[.slice none 0 0, .slice none 0 0] 27) = y6 at hal hxn hy6A SA ⊢
    have hy6 := hy6A
    have Sy6 := SA
    have hxy6 := Lib.hid hxn
    have hly6 := lt_of_row hxn
    have hzy6 := hal.size
    clear hal hxn hy6A SA
    refine wpAnyH_ready (rs := [1]) (by kernel_rfl) (by simp) ?_
    refine (AllReadyH.cons (o := { dst := some 58, op := Op.call { callee := Callee.value (Operand.func 22), args := #[], argTypes := #[] }, type := 27, pos := "laws.go:275", after := #[], guard := none }) rfl (fun K hK => ?_) AllReadyH.nil)
    go_simp
    go_at_call 22
    refine (implCartNew y6).mono ?_
    rintro e y7 ⟨nva, ncap, rfl, hown, hbc⟩
    have hy7 := hy6.trans (hbc.mono hy6.size)
    have Sy7 : y7.cell? ⟨w0.heap.size, 0, none⟩ = some (.slice ava 4 avc) ∧ y7.cell? ⟨w0.heap.size, 1, none⟩ = some (.slice aoa l.length aoc) := ⟨(hy7.cell (p := ⟨w0.heap.size, 0, none⟩) hg0l).trans (pair_cells HXg.out).1, (hy7.cell (p := ⟨w0.heap.size, 1, none⟩) hg0l).trans (pair_cells HXg.out).2⟩
    have hny7 := Lib.hid hown
    have hzy7 := hbc.size
    have hxy7 := Lib.hid ((hbc.block _ (lt_of_row hxy6.out)).trans hxy6.out)
    refine hK.out _ _ Sy7 (fun hHeldC => ?_)
    clear hK K hHeldC hbc hown
    (try simp only [Act.put, List.setIfInBounds_toArray, List.set_cons_zero, List.set_cons_succ])
    refine wpAnyH_ready (rs := [2]) (by kernel_rfl) (by simp) ?_
    refine (AllReadyH.cons (o := { dst := some 59, op := Op.call { callee := Callee.value (Operand.func 17), args := #[Operand.tmp 57, Operand.tmp 58], argTypes := #[27, 27] }, type := 30, pos := "laws.go:275", after := #[{ on := 0, ground := Ground.data }, { on := 1, ground := Ground.data }, { on := 1, ground := Ground.chain }], guard := none }) rfl (fun K hK => ?_) AllReadyH.nil)
    go_simp
    go_at_call 17
    have hsz := hy7.size
    have hc := implMergedK y7 y7.heap.size ava aoa nva none 4 avc l.length aoc 4 ncap 0 0 xs l [0, 0, 0, 0] [] ((HVA9.out.below hy7 (by omega)).more (by omega)) ((HOA9.out.below hy7 (by omega)).more (by omega)) (hny7.out.ints.more (by omega)) (opsNilC _ _) (Nat.le_refl _) (by omega) HCa.out.1 ⟨by omega, HCa.out.2.1⟩ HIa.out (by omega) (Nat.le_refl _) ⟨by omega, Nat.zero_le _⟩ (fun i hi => absurd hi (by omega))
    rw [HU1.out, HU2.out, HU3.out] at hc
    refine hc.mono ?_
    clear hc
    rintro e y8 ⟨zva, zvc, zoa, zoc, mid4, rfl, hov, hop, hm1, hm2, hbc, _⟩
    have hov := hov.more (Nat.le_refl _) hm2
    have hop := hop.more hm1 (Nat.le_refl _)
    have hy8 := hy7.trans (hbc.mono hy7.size)
    have Sy8 : y8.cell? ⟨w0.heap.size, 0, none⟩ = some (.slice ava 4 avc) ∧ y8.cell? ⟨w0.heap.size, 1, none⟩ = some (.slice aoa l.length aoc) := ⟨(hy8.cell (p := ⟨w0.heap.size, 0, none⟩) hg0l).trans (pair_cells HXg.out).1, (hy8.cell (p := ⟨w0.heap.size, 1, none⟩) hg0l).trans (pair_cells HXg.out).2⟩
    have hvy8 := Lib.hid hov
    have hoy8 := Lib.hid hop
    have hzy8 := hbc.size
    have hxy8 := Lib.hid ((hbc.block _ (lt_of_row hxy7.out)).trans hxy7.out)
    refine hK.out _ _ Sy8 (fun hHeldP => ?_)
    clear hK K hHeldP hbc hov hop hm1 hm2 hsz
    (try simp only [Act.put, List.setIfInBounds_toArray, List.set_cons_zero, List.set_cons_succ])
    refine wpAnyH_take (i := 3) (oi := { dst := some 56, op := Op.move (Operand.tmp 59), type := 30, pos := "laws.go:275", after := #[{ on := 2, ground := Ground.data }], guard := none }) (v := ?_) rfl (by kernel_rfl) (by kernel_rfl) (by kernel_rfl) (fun _ _ _ h => h) (Or.inl ⟨by rfl, ?_⟩) (by assumption) ?_
    rotate_left
    · intro w hSw
      (try dsimp only at hSw)
      first | (go_simp; done) | (go_simp; with_reducible rfl)
    (try simp only [Act.put, List.setIfInBounds_toArray, List.set_cons_zero, List.set_cons_succ])
    refine wpAnyH_take (i := 4) (oi := { dst := some 60, op := Op.extract (Operand.tmp 56) 0, type := 27, pos := "laws.go:275", after := #[{ on := 3, ground := Ground.data }], guard := none }) (v := ?_) rfl (by kernel_rfl) (by kernel_rfl) (by kernel_rfl) (fun _ _ _ h => h) (Or.inl ⟨by rfl, ?_⟩) (by assumption) ?_
    rotate_left
    · intro w hSw
      (try dsimp only at hSw)
      first | (go_simp; done) | (go_simp; with_reducible rfl)
    (try simp only [Act.put, List.setIfInBounds_toArray, List.set_cons_zero, List.set_cons_succ])
    refine wpAnyH_take (i := 5) (oi := { dst := some 61, op := Op.extract (Operand.tmp 56) 1, type := 4, pos := "laws.go:275", after := #[{ on := 3, ground := Ground.data }, { on := 7, ground := Ground.gcOnly Departure.lateStores }], guard := none }) (v := ?_) rfl (by kernel_rfl) (by kernel_rfl) (by kernel_rfl) (fun _ _ _ h => h) (Or.inl ⟨by rfl, ?_⟩) (by assumption) ?_
    rotate_left
    · intro w hSw
      (try dsimp only at hSw)
      first | (go_simp; done) | (go_simp; with_reducible rfl)
    (try simp only [Act.put, List.setIfInBounds_toArray, List.set_cons_zero, List.set_cons_succ])
    have hq1 := hy0.size
    have hq2 := hy7.size
    obtain ⟨HNn, HVn, HOn, hzn, hzs⟩ := crtStore (.slice zva xs.length zvc) (.slice zoa l.length zoc) hy8 hxy8.out hq1 (by first | exact .inl (Nat.le_refl _) | (left; omega) | (right; omega)) hvy8.out hoy8.out
    obtain ⟨d0, d1⟩ := pair_cells hxy8.out
    obtain ⟨f0, f1⟩ := pair_frozen hxy8.out
    have SW : ((y8.setCell ⟨y0.heap.size, 0, none⟩ (.slice zva xs.length zvc)).setCell ⟨y0.heap.size, 1, none⟩ (.slice zoa l.length zoc)).cell? ⟨w0.heap.size, 0, none⟩ = some (.slice ava 4 avc) ∧ ((y8.setCell ⟨y0.heap.size, 0, none⟩ (.slice zva xs.length zvc)).setCell ⟨y0.heap.size, 1, none⟩ (.slice zoa l.length zoc)).cell? ⟨w0.heap.size, 1, none⟩ = some (.slice aoa l.length aoc) := ⟨(hzn.cell (p := ⟨w0.heap.size, 0, none⟩) hg0l).trans (pair_cells HXg.out).1, (hzn.cell (p := ⟨w0.heap.size, 1, none⟩) hg0l).trans (pair_cells HXg.out).2⟩
    refine wpAnyH_ready (rs := [7]) (by kernel_rfl) (by simp) ?_
    refine AllReadyH.cons (o := { dst := none, op := Op.store 27 (Operand.tmp 13) (Operand.tmp 60), type := 0, pos := "laws.go:275", after := #[{ on := 6, ground := Ground.data }, { on := 4, ground := Ground.data }, { on := 2, ground := Ground.chain }, { on := 0, ground := Ground.phase }, { on := 1, ground := Ground.phase }, { on := 2, ground := Ground.phase }, { on := 3, ground := Ground.phase }, { on := 4, ground := Ground.phase }, { on := 5, ground := Ground.textOnly Departure.lateStores }, { on := 6, ground := Ground.phase }], guard := none }) rfl (fun K hK => ?_) AllReadyH.nil
    go_simp
    refine hK.out _ _ SW (fun hHeldB => ?_)
    clear hK K hHeldB d0 d1 f0 f1
    (try simp only [Act.put, List.setIfInBounds_toArray, List.set_cons_zero, List.set_cons_succ])
    generalize (y8.setCell ⟨y0.heap.size, 0, none⟩ (.slice zva xs.length zvc)).setCell ⟨y0.heap.size, 1, none⟩ (.slice zoa l.length zoc) = w10 at HNn HVn HOn hzn hzs SW ⊢
    refine wpAnyH_take (i := 8) (oi := { dst := some 14, op := Op.assign (Operand.tmp 61), type := 4, pos := "laws.go:275", after := #[{ on := 5, ground := Ground.data }, { on := 7, ground := Ground.chain }, { on := 0, ground := Ground.phase }, { on := 1, ground := Ground.phase }, { on := 2, ground := Ground.phase }, { on := 3, ground := Ground.phase }, { on := 4, ground := Ground.phase }, { on := 5, ground := Ground.phase }, { on := 6, ground := Ground.phase }, { on := 7, ground := Ground.phase }], guard := none }) (v := ?_) rfl (by kernel_rfl) (by kernel_rfl) (by kernel_rfl) (fun _ _ _ h => h) (Or.inl ⟨by rfl, ?_⟩) (by assumption) ?_
    rotate_left
    · intro w hSw
      (try dsimp only at hSw)
      first | (go_simp; done) | (go_simp; with_reducible rfl)
    (try simp only [Act.put, List.setIfInBounds_toArray, List.set_cons_zero, List.set_cons_succ])
    refine wpAnyH_done (by kernel_rfl) ?_ _
    have hb := hzn
    clear SW hzn
    have hzb := lt_of_row HNn.out
    have HVZ10 := Lib.hid HVn.out.ints
    have HOZ10 := Lib.hid HOn.out.ops
    clear HVn HOn
    have hs10 := hb.size
    have HVA10 := Lib.hid (HVA9.out.below hb (by omega))
    have HOA10 := Lib.hid (HOA9.out.below hb (by omega))
    have HVB10 := Lib.hid (HVB9.out.below hb (by omega))
    have HOB10 := Lib.hid (HOB9.out.below hb (by omega))
    have HB10 := Lib.hid (HB9.out.trans (hb.mono (by omega)))
    have HXa10 := Lib.hid ((hb.block _ (lt_of_row HXa9.out)).trans HXa9.out)
    have HXb10 := Lib.hid ((hb.block _ (lt_of_row HXb9.out)).trans HXb9.out)
    have HVM10 := Lib.hid (HVM9.out.below hb (by omega))
    have HOM10 := Lib.hid (HOM9.out.below hb (by omega))
    have HXm10 := Lib.hid ((hb.block _ (lt_of_row HXm9.out)).trans HXm9.out)
    have HXw10 := Lib.hid ((hb.block _ (lt_of_row HXw9.out)).trans HXw9.out)
    have HVX10 := Lib.hid (HVX9.out.below hb (by omega))
    have HOX10 := Lib.hid (HOX9.out.below hb (by omega))
    have HXx10 := Lib.hid ((hb.block _ (lt_of_row HXx9.out)).trans HXx9.out)
    have HVY10 := Lib.hid (HVY9.out.below hb (by omega))
    have HOY10 := Lib.hid (HOY9.out.below hb (by omega))
    have HXy10 := Lib.hid ((hb.block _ (lt_of_row HXy9.out)).trans HXy9.out)
    clear hb HVA9 HOA9 HVB9 HOB9 HB9 HXa9 HXb9 HVM9 HOM9 HXm9 HXw9 HVX9 HOX9 HXx9 HVY9 HOY9 HXy9
    have HXz10 := HNn
    obtain ⟨c00, c01⟩ := pair_cells HXx10.out
    obtain ⟨c10, c11⟩ := pair_cells HXa10.out
    go_wp2_with fail
    refine (sameCart w10 w10.heap.size xva xoa ava aoa xs.length xvc l.length xoc 4 avc l.length aoc xs l xs l (HVX10.out.more (by omega)) (HOX10.out.more (by omega)) (HVA10.out.more (by omega)) (HOA10.out.more (by omega)) (Nat.le_refl _) (by omega) (by omega) (by omega) (by omega)).mono ?_
    rintro e w11 ⟨rfl, hb⟩
    rw [decide_eq_true rfl, decide_eq_true rfl]
    clear c00 c01 c10 c11
    have hs11 := hb.size
    have HVA11 := Lib.hid (HVA10.out.below hb (by omega))
    have HOA11 := Lib.hid (HOA10.out.below hb (by omega))
    have HVB11 := Lib.hid (HVB10.out.below hb (by omega))
    have HOB11 := Lib.hid (HOB10.out.below hb (by omega))
    have HB11 := Lib.hid (HB10.out.trans (hb.mono (by omega)))
    have HXa11 := Lib.hid ((hb.block _ (lt_of_row HXa10.out)).trans HXa10.out)
    have HXb11 := Lib.hid ((hb.block _ (lt_of_row HXb10.out)).trans HXb10.out)
    have HVM11 := Lib.hid (HVM10.out.below hb (by omega))
    have HOM11 := Lib.hid (HOM10.out.below hb (by omega))
    have HXm11 := Lib.hid ((hb.block _ (lt_of_row HXm10.out)).trans HXm10.out)
    have HXw11 := Lib.hid ((hb.block _ (lt_of_row HXw10.out)).trans HXw10.out)
    have HVX11 := Lib.hid (HVX10.out.below hb (by omega))
    have HOX11 := Lib.hid (HOX10.out.below hb (by omega))
    have HXx11 := Lib.hid ((hb.block _ (lt_of_row HXx10.out)).trans HXx10.out)
    have HVY11 := Lib.hid (HVY10.out.below hb (by omega))
    have HOY11 := Lib.hid (HOY10.out.below hb (by omega))
    have HXy11 := Lib.hid ((hb.block _ (lt_of_row HXy10.out)).trans HXy10.out)
    have HVZ11 := Lib.hid (HVZ10.out.below hb (by omega))
    have HOZ11 := Lib.hid (HOZ10.out.below hb (by omega))
    have HXz11 := Lib.hid ((hb.block _ (lt_of_row HXz10.out)).trans HXz10.out)
    clear hb HVA10 HOA10 HVB10 HOB10 HB10 HXa10 HXb10 HVM10 HOM10 HXm10 HXw10 HVX10 HOX10 HXx10 HVY10 HOY10 HXy10 HVZ10 HOZ10 HXz10
    obtain ⟨c00, c01⟩ := pair_cells HXy11.out
    obtain ⟨c10, c11⟩ := pair_cells HXm11.out
    go_wp2_with fail
    refine (sameCart w11 w11.heap.size yva yoa mva moa vs.length yvc os.length yoc vs.length mvc os.length moc vs os vs os (HVY11.out.more (by omega)) (HOY11.out.more (by omega)) (HVM11.out.more (by omega)) (HOM11.out.more (by omega)) (Nat.le_refl _) (by omega) (by omega) (by omega) (by omega)).mono ?_
    rintro e w12 ⟨rfl, hb⟩
    rw [decide_eq_true rfl, decide_eq_true rfl]
    clear c00 c01 c10 c11
    have hs12 := hb.size
    have HVA12 := Lib.hid (HVA11.out.below hb (by omega))
    have HOA12 := Lib.hid (HOA11.out.below hb (by omega))
    have HVB12 := Lib.hid (HVB11.out.below hb (by omega))
    have HOB12 := Lib.hid (HOB11.out.below hb (by omega))
    have HB12 := Lib.hid (HB11.out.trans (hb.mono (by omega)))
    have HXa12 := Lib.hid ((hb.block _ (lt_of_row HXa11.out)).trans HXa11.out)
    have HXb12 := Lib.hid ((hb.block _ (lt_of_row HXb11.out)).trans HXb11.out)
    have HVM12 := Lib.hid (HVM11.out.below hb (by omega))
    have HOM12 := Lib.hid (HOM11.out.below hb (by omega))
    have HXm12 := Lib.hid ((hb.block _ (lt_of_row HXm11.out)).trans HXm11.out)
    have HXw12 := Lib.hid ((hb.block _ (lt_of_row HXw11.out)).trans HXw11.out)
    have HVX12 := Lib.hid (HVX11.out.below hb (by omega))
    have HOX12 := Lib.hid (HOX11.out.below hb (by omega))
    have HXx12 := Lib.hid ((hb.block _ (lt_of_row HXx11.out)).trans HXx11.out)
    have HVY12 := Lib.hid (HVY11.out.below hb (by omega))
    have HOY12 := Lib.hid (HOY11.out.below hb (by omega))
    have HXy12 := Lib.hid ((hb.block _ (lt_of_row HXy11.out)).trans HXy11.out)
    have HVZ12 := Lib.hid (HVZ11.out.below hb (by omega))
    have HOZ12 := Lib.hid (HOZ11.out.below hb (by omega))
    have HXz12 := Lib.hid ((hb.block _ (lt_of_row HXz11.out)).trans HXz11.out)
    clear hb HVA11 HOA11 HVB11 HOB11 HB11 HXa11 HXb11 HVM11 HOM11 HXm11 HXw11 HVX11 HOX11 HXx11 HVY11 HOY11 HXy11 HVZ11 HOZ11 HXz11
    obtain ⟨c00, c01⟩ := pair_cells HXz12.out
    obtain ⟨c10, c11⟩ := pair_cells HXa12.out
    go_wp2_with fail
    refine (sameCart w12 w12.heap.size zva zoa ava aoa xs.length zvc l.length zoc 4 avc l.length aoc xs l xs l (HVZ12.out.more (by omega)) (HOZ12.out.more (by omega)) (HVA12.out.more (by omega)) (HOA12.out.more (by omega)) (Nat.le_refl _) (by omega) (by omega) (by omega) (by omega)).mono ?_
    rintro e w13 ⟨rfl, hb⟩
    rw [decide_eq_true rfl, decide_eq_true rfl]
    clear c00 c01 c10 c11
    have hs13 := hb.size
    have HVA13 := Lib.hid (HVA12.out.below hb (by omega))
    have HOA13 := Lib.hid (HOA12.out.below hb (by omega))
    have HVB13 := Lib.hid (HVB12.out.below hb (by omega))
    have HOB13 := Lib.hid (HOB12.out.below hb (by omega))
    have HB13 := Lib.hid (HB12.out.trans (hb.mono (by omega)))
    have HXa13 := Lib.hid ((hb.block _ (lt_of_row HXa12.out)).trans HXa12.out)
    have HXb13 := Lib.hid ((hb.block _ (lt_of_row HXb12.out)).trans HXb12.out)
    have HVM13 := Lib.hid (HVM12.out.below hb (by omega))
    have HOM13 := Lib.hid (HOM12.out.below hb (by omega))
    have HXm13 := Lib.hid ((hb.block _ (lt_of_row HXm12.out)).trans HXm12.out)
    have HXw13 := Lib.hid ((hb.block _ (lt_of_row HXw12.out)).trans HXw12.out)
    have HVX13 := Lib.hid (HVX12.out.below hb (by omega))
    have HOX13 := Lib.hid (HOX12.out.below hb (by omega))
    have HXx13 := Lib.hid ((hb.block _ (lt_of_row HXx12.out)).trans HXx12.out)
    have HVY13 := Lib.hid (HVY12.out.below hb (by omega))
    have HOY13 := Lib.hid (HOY12.out.below hb (by omega))
    have HXy13 := Lib.hid ((hb.block _ (lt_of_row HXy12.out)).trans HXy12.out)
    have HVZ13 := Lib.hid (HVZ12.out.below hb (by omega))
    have HOZ13 := Lib.hid (HOZ12.out.below hb (by omega))
    have HXz13 := Lib.hid ((hb.block _ (lt_of_row HXz12.out)).trans HXz12.out)
    clear hb HVA12 HOA12 HVB12 HOB12 HB12 HXa12 HXb12 HVM12 HOM12 HXm12 HXw12 HVX12 HOX12 HXx12 HVY12 HOY12 HXy12 HVZ12 HOZ12 HXz12
    go_wp2
    go_ret
    exact ⟨rfl, HB13.out⟩
end Go.Proofs.Ythfkoplljinmmaa
