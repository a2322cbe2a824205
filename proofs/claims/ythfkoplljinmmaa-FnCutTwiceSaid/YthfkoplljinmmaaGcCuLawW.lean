/- The walk of the law FnCut. -/
import Derived.Test.YthfkoplljinmmaaGc34
import Derived.Test.YthfkoplljinmmaaGc26
import Derived.Test.YthfkoplljinmmaaGc23
import Derived.Deep.Cut
namespace Go.Proofs.Ythfkoplljinmmaa
open Go.RowKit
set_option linter.unusedVariables false
set_option linter.unusedSimpArgs false

theorem cutB_parts {xs v : List Int} {l : List OpV} (h : cutB xs l v = true) : cartB xs l = true ∧ vecOk v = true := by
  unfold cutB at h
  rw [Bool.and_eq_true] at h
  exact h
theorem items_ok {xs : List Int} {l : List OpV} (h : cartB xs l = true) : ∀ i, i < l.length → (atOp l i).item.size ≤ 1048576 := fun i hi => Nat.le_trans (op_bounds (cart_op h hi)).2.2.2.2.1 (by omega)
theorem merged_in2 {xs ys : List Int} {l m : List OpV} (h : inCart xs l ys m = true) : mergedB xs l ys m = true ∧ mergedV xs ys true = ys ∧ mergedO xs ys l m true = m := by
  obtain ⟨h1, h2, h3⟩ := merged_in h
  refine ⟨h1, h2, ?_⟩
  show mergeL (maxV xs ys) l m = m
  rw [h2]
  exact h3
set_option maxRecDepth 100000 in
set_option maxHeartbeats 16000000 in
theorem fnCutWalk (a : Option Addr) (len cap : Nat) (zs : List Int) (w : World) (h : IsRow .u8 w a len cap zs) :
    Calls Try.prog 12 #[.slice a len cap] w fun e w' => e = .returned (.bool true) ∧ Below w.heap.size w w' := by
  by_cases hbig : len ≤ 1048576
  rotate_left
  · go_enter Try.func12, Try.ntmps12
    go_wp2_with fail
    refine (bigYes a len cap hbig w).mono ?_
    rintro e w' ⟨rfl, rfl⟩
    go_wp2
    go_ret
    exact ⟨rfl, Below.refl _ _⟩
  have hsrc := Lib.hid (src_of_row h hbig)
  clear h
  go_enter Try.func12, Try.ntmps12
  go_wp2_with fail
  refine (bigNo a len cap hbig w).mono ?_
  rintro e w' ⟨rfl, rfl⟩
  go_wp2_with fail
  refine (drawCut w w.heap.size a len cap (Nat.le_refl _) hsrc.out).mono ?_
  rintro e w0 ⟨⟨ava, avc, aoa, ano, aoc⟩, bv, nb, bc, ys, hn4, rfl, hx, hy, hb0⟩
  obtain ⟨xs, l, e1, a1, a2, a3, a4, a5, a6⟩ := hx
  have e1 : ano = l.length := e1
  subst e1
  have HVA0 := Lib.hid a1.ints
  have HOA0 := Lib.hid a2.ops
  have HY0 := Lib.hid hy
  have HB0 := Lib.hid hb0
  have HCa := Lib.hid a4
  have HIa : Hid (∀ i, i < l.length → (atOp l i).item.size ≤ 1048576) := fun i hi => Nat.le_trans (a5 i hi) (by omega)
  have hs0 := hb0.size
  clear a1 a2 a3 a4 a5 hb0 hy
  dsimp only
  go_upto_region 4 with fail
  have hb : Below w0.heap.size w0 (w0.alloc (.cells #[.slice ava 4 avc, .slice aoa l.length aoc] 27)) := (Below.refl _ _).alloc (Nat.le_refl _) _
  have HXa1 := Lib.hid (boxAt (Below.refl _ (w0.alloc (.cells #[.slice ava 4 avc, .slice aoa l.length aoc] 27))))
  generalize w0.alloc (.cells #[.slice ava 4 avc, .slice aoa l.length aoc] 27) = w1 at hb HXa1 ⊢
  have HY1 := Lib.hid (HY0.out.below hb (by omega))
  have hs1 := hb.size
  have HVA1 := Lib.hid (HVA0.out.below hb (by omega))
  have HOA1 := Lib.hid (HOA0.out.below hb (by omega))
  have HB1 := Lib.hid (HB0.out.trans (hb.mono (by omega)))
  clear hb HVA0 HOA0 HB0
  clear HY0
  obtain ⟨R, hR⟩ : ∃ R, cutB xs l ys = R := ⟨_, rfl⟩
  have HR := Lib.hid hR
  obtain ⟨vs, hvs⟩ : ∃ vs, cutVs xs ys R = vs := ⟨_, rfl⟩
  obtain ⟨os, hos⟩ : ∃ os, cutOs l ys R = os := ⟨_, rfl⟩
  have HVs := Lib.hid hvs
  have HOs := Lib.hid hos
  have hlv : vs.length ≤ 4 := by rw [← hvs]; exact cutVs_len xs ys hR
  have hlo : os.length ≤ 400 := by rw [← hos]; exact cutOs_len a6 R
  clear hR hvs hos
  obtain ⟨c00, c01⟩ := pair_cells HXa1.out
  go_wp2_with fail
  have hc := implCut w1 w1.heap.size ava aoa bv 4 avc l.length aoc nb bc xs l ys (HVA1.out.more (by omega)) (HOA1.out.more (by omega)) (HY1.out.more (by omega)) (Nat.le_refl _) (by omega) HCa.out.1 ⟨by omega, HCa.out.2.1⟩ HIa.out (by omega)
  rw [HR.out, HVs.out, HOs.out] at hc
  refine hc.mono ?_
  clear hc
  rintro e w2 ⟨nva, nvc, noa, noc, mid, rfl, hov, hop, hm1, hm2, hb, hcn⟩
  clear c00 c01
  have HCn := Lib.hid hcn
  have hov := hov.more (Nat.le_refl _) hm2
  clear hcn hm1 hm2
  have HY2 := Lib.hid (HY1.out.below hb (by omega))
  have hs2 := hb.size
  have HVA2 := Lib.hid (HVA1.out.below hb (by omega))
  have HOA2 := Lib.hid (HOA1.out.below hb (by omega))
  have HB2 := Lib.hid (HB1.out.trans (hb.mono (by omega)))
  have HXa2 := Lib.hid ((hb.block _ (lt_of_row HXa1.out)).trans HXa1.out)
  clear hb HVA1 HOA1 HB1 HXa1
  clear HY1
  have HVN2 := Lib.hid hov.ints
  have HON2 := Lib.hid hop.ops
  clear hov hop
  go_upto_region 5 with fail
  have hb : Below w2.heap.size w2 (w2.alloc (.cells #[.slice nva vs.length nvc, .slice noa os.length noc] 27)) := (Below.refl _ _).alloc (Nat.le_refl _) _
  have HXn3 := Lib.hid (boxAt (Below.refl _ (w2.alloc (.cells #[.slice nva vs.length nvc, .slice noa os.length noc] 27))))
  generalize w2.alloc (.cells #[.slice nva vs.length nvc, .slice noa os.length noc] 27) = w3 at hb HXn3 ⊢
  have HY3 := Lib.hid (HY2.out.below hb (by omega))
  have hs3 := hb.size
  have HVA3 := Lib.hid (HVA2.out.below hb (by omega))
  have HOA3 := Lib.hid (HOA2.out.below hb (by omega))
  have HB3 := Lib.hid (HB2.out.trans (hb.mono (by omega)))
  have HXa3 := Lib.hid ((hb.block _ (lt_of_row HXa2.out)).trans HXa2.out)
  have HVN3 := Lib.hid (HVN2.out.below hb (by omega))
  have HON3 := Lib.hid (HON2.out.below hb (by omega))
  clear hb HVA2 HOA2 HB2 HXa2 HVN2 HON2
  clear HY2
  obtain ⟨c00, c01⟩ := pair_cells HXa3.out
  go_wp2_with fail
  have hc := specCut w3 w3.heap.size ava aoa bv 4 avc l.length aoc nb bc xs l ys (HVA3.out.more (by omega)) (HOA3.out.more (by omega)) (HY3.out.more (by omega)) (Nat.le_refl _) (by omega) (by omega) HIa.out (by omega)
  rw [HR.out, HVs.out, HOs.out] at hc
  refine hc.mono ?_
  clear hc
  rintro e w4 ⟨wva, wvc, woa, woc, rfl, hov, hop, hb⟩
  clear c00 c01
  have HY4 := Lib.hid (HY3.out.below hb (by omega))
  have hs4 := hb.size
  have HVA4 := Lib.hid (HVA3.out.below hb (by omega))
  have HOA4 := Lib.hid (HOA3.out.below hb (by omega))
  have HB4 := Lib.hid (HB3.out.trans (hb.mono (by omega)))
  have HXa4 := Lib.hid ((hb.block _ (lt_of_row HXa3.out)).trans HXa3.out)
  have HVN4 := Lib.hid (HVN3.out.below hb (by omega))
  have HON4 := Lib.hid (HON3.out.below hb (by omega))
  have HXn4 := Lib.hid ((hb.block _ (lt_of_row HXn3.out)).trans HXn3.out)
  clear hb HVA3 HOA3 HB3 HXa3 HVN3 HON3 HXn3
  clear HY3
  have HVW4 := Lib.hid hov.ints
  have HOW4 := Lib.hid hop.ops
  clear hov hop
  go_upto_region 6 with fail
  have hb : Below w4.heap.size w4 (w4.alloc (.cells #[.slice wva vs.length wvc, .slice woa os.length woc] 27)) := (Below.refl _ _).alloc (Nat.le_refl _) _
  have HXw5 := Lib.hid (boxAt (Below.refl _ (w4.alloc (.cells #[.slice wva vs.length wvc, .slice woa os.length woc] 27))))
  generalize w4.alloc (.cells #[.slice wva vs.length wvc, .slice woa os.length woc] 27) = w5 at hb HXw5 ⊢
  have HY5 := Lib.hid (HY4.out.below hb (by omega))
  have hs5 := hb.size
  have HVA5 := Lib.hid (HVA4.out.below hb (by omega))
  have HOA5 := Lib.hid (HOA4.out.below hb (by omega))
  have HB5 := Lib.hid (HB4.out.trans (hb.mono (by omega)))
  have HXa5 := Lib.hid ((hb.block _ (lt_of_row HXa4.out)).trans HXa4.out)
  have HVN5 := Lib.hid (HVN4.out.below hb (by omega))
  have HON5 := Lib.hid (HON4.out.below hb (by omega))
  have HXn5 := Lib.hid ((hb.block _ (lt_of_row HXn4.out)).trans HXn4.out)
  have HVW5 := Lib.hid (HVW4.out.below hb (by omega))
  have HOW5 := Lib.hid (HOW4.out.below hb (by omega))
  clear hb HVA4 HOA4 HB4 HXa4 HVN4 HON4 HXn4 HVW4 HOW4
  clear HY4
  obtain ⟨c00, c01⟩ := pair_cells HXn5.out
  obtain ⟨c10, c11⟩ := pair_cells HXw5.out
  go_wp2_with fail
  refine (sameCart w5 w5.heap.size nva noa wva woa vs.length nvc os.length noc vs.length wvc os.length woc vs os vs os (HVN5.out.more (by omega)) (HON5.out.more (by omega)) (HVW5.out.more (by omega)) (HOW5.out.more (by omega)) (Nat.le_refl _) (by omega) (by omega) (by omega) (by omega)).mono ?_
  rintro e w6 ⟨rfl, hb⟩
  rw [decide_eq_true rfl, decide_eq_true rfl]
  clear c00 c01 c10 c11
  have HY6 := Lib.hid (HY5.out.below hb (by omega))
  have hs6 := hb.size
  have HVA6 := Lib.hid (HVA5.out.below hb (by omega))
  have HOA6 := Lib.hid (HOA5.out.below hb (by omega))
  have HB6 := Lib.hid (HB5.out.trans (hb.mono (by omega)))
  have HXa6 := Lib.hid ((hb.block _ (lt_of_row HXa5.out)).trans HXa5.out)
  have HVN6 := Lib.hid (HVN5.out.below hb (by omega))
  have HON6 := Lib.hid (HON5.out.below hb (by omega))
  have HXn6 := Lib.hid ((hb.block _ (lt_of_row HXn5.out)).trans HXn5.out)
  have HVW6 := Lib.hid (HVW5.out.below hb (by omega))
  have HOW6 := Lib.hid (HOW5.out.below hb (by omega))
  have HXw6 := Lib.hid ((hb.block _ (lt_of_row HXw5.out)).trans HXw5.out)
  clear hb HVA5 HOA5 HB5 HXa5 HVN5 HON5 HXn5 HVW5 HOW5 HXw5
  clear HY5
  cases R
  · skip
    obtain ⟨c00, c01⟩ := pair_cells HXn6.out
    obtain ⟨c10, c11⟩ := pair_cells HXw6.out
    go_wp2_with fail
    refine (sameCart w6 w6.heap.size nva noa wva woa vs.length nvc os.length noc vs.length wvc os.length woc vs os vs os (HVN6.out.more (by omega)) (HON6.out.more (by omega)) (HVW6.out.more (by omega)) (HOW6.out.more (by omega)) (Nat.le_refl _) (by omega) (by omega) (by omega) (by omega)).mono ?_
    rintro e w7 ⟨rfl, hb⟩
    rw [decide_eq_true rfl, decide_eq_true rfl]
    clear c00 c01 c10 c11
    have HY7 := Lib.hid (HY6.out.below hb (by omega))
    have hs7 := hb.size
    have HVA7 := Lib.hid (HVA6.out.below hb (by omega))
    have HOA7 := Lib.hid (HOA6.out.below hb (by omega))
    have HB7 := Lib.hid (HB6.out.trans (hb.mono (by omega)))
    have HXa7 := Lib.hid ((hb.block _ (lt_of_row HXa6.out)).trans HXa6.out)
    have HVN7 := Lib.hid (HVN6.out.below hb (by omega))
    have HON7 := Lib.hid (HON6.out.below hb (by omega))
    have HXn7 := Lib.hid ((hb.block _ (lt_of_row HXn6.out)).trans HXn6.out)
    have HVW7 := Lib.hid (HVW6.out.below hb (by omega))
    have HOW7 := Lib.hid (HOW6.out.below hb (by omega))
    have HXw7 := Lib.hid ((hb.block _ (lt_of_row HXw6.out)).trans HXw6.out)
    clear hb HVA6 HOA6 HB6 HXa6 HVN6 HON6 HXn6 HVW6 HOW6 HXw6
    clear HY6
    go_wp2
    go_ret
    exact ⟨rfl, HB7.out⟩
  obtain ⟨hca, hyo⟩ := cutB_parts HR.out
  have evs : zipI min xs ys = vs := HVs.out
  have eos : l.filter (cutP ys) = os := HOs.out
  have hcc := cart_cut hca hyo
  have hin := in_cut hca hyo
  have hvv := cut_cutV (cart_true hca).1 hyo
  have hoo := cut_cut ys l
  rw [evs, eos] at hcc hin
  rw [evs] at hvv
  rw [eos] at hoo
  have HCC := Lib.hid hcc
  have HIN := Lib.hid hin
  have HB2 : Hid (cutB xs l xs = true) := cut_yes hca (cart_true hca).1
  have HV2 : Hid (cutVs xs xs true = xs) := cut_ownV (cart_true hca).1
  have HO2 : Hid (cutOs l xs true = l) := cut_own hca
  have HB3 : Hid (cutB vs os ys = true) := cut_yes hcc hyo
  have HV3 : Hid (cutVs vs ys true = vs) := hvv
  have HO3 : Hid (cutOs os ys true = os) := hoo
  have HB4 := Lib.hid (merged_in2 hin).1
  have HV4 := Lib.hid (merged_in2 hin).2.1
  have HO4 := Lib.hid (merged_in2 hin).2.2
  have HIn := Lib.hid (items_ok hcc)
  have HZz : Hid (vecZip min xs ys = vs) := (vecZip_yes (by rw [(cart_true hca).1, hyo]; rfl)).trans evs
  have hlx : xs.length ≤ 4 := Nat.le_of_eq (cart_vecs hca).1
  clear hca hyo evs eos hcc hin hvv hoo
  obtain ⟨c00, c01⟩ := pair_cells HXa6.out
  go_wp2_with fail
  have hc := implCut w6 w6.heap.size ava aoa ava 4 avc l.length aoc 4 avc xs l xs (HVA6.out.more (by omega)) (HOA6.out.more (by omega)) (HVA6.out.more (by omega)) (Nat.le_refl _) (by omega) HCa.out.1 ⟨by omega, HCa.out.2.1⟩ HIa.out (by omega)
  rw [HB2.out, HV2.out, HO2.out] at hc
  refine hc.mono ?_
  clear hc
  rintro e w7 ⟨xva, xvc, xoa, xoc, mid, rfl, hov, hop, hm1, hm2, hb, hcn⟩
  clear c00 c01
  have HCx := Lib.hid hcn
  have hov := hov.more (Nat.le_refl _) hm2
  clear hcn hm1 hm2
  have HY7 := Lib.hid (HY6.out.below hb (by omega))
  have hs7 := hb.size
  have HVA7 := Lib.hid (HVA6.out.below hb (by omega))
  have HOA7 := Lib.hid (HOA6.out.below hb (by omega))
  have HB7 := Lib.hid (HB6.out.trans (hb.mono (by omega)))
  have HXa7 := Lib.hid ((hb.block _ (lt_of_row HXa6.out)).trans HXa6.out)
  have HVN7 := Lib.hid (HVN6.out.below hb (by omega))
  have HON7 := Lib.hid (HON6.out.below hb (by omega))
  have HXn7 := Lib.hid ((hb.block _ (lt_of_row HXn6.out)).trans HXn6.out)
  have HVW7 := Lib.hid (HVW6.out.below hb (by omega))
  have HOW7 := Lib.hid (HOW6.out.below hb (by omega))
  have HXw7 := Lib.hid ((hb.block _ (lt_of_row HXw6.out)).trans HXw6.out)
  clear hb HVA6 HOA6 HB6 HXa6 HVN6 HON6 HXn6 HVW6 HOW6 HXw6
  clear HY6
  have HVX7 := Lib.hid hov.ints
  have HOX7 := Lib.hid hop.ops
  clear hov hop
  go_upto_region 9 with fail
  have hb : Below w7.heap.size w7 (w7.alloc (.cells #[.slice xva xs.length xvc, .slice xoa l.length xoc] 27)) := (Below.refl _ _).alloc (Nat.le_refl _) _
  have HXx8 := Lib.hid (boxAt (Below.refl _ (w7.alloc (.cells #[.slice xva xs.length xvc, .slice xoa l.length xoc] 27))))
  generalize w7.alloc (.cells #[.slice xva xs.length xvc, .slice xoa l.length xoc] 27) = w8 at hb HXx8 ⊢
  have HY8 := Lib.hid (HY7.out.below hb (by omega))
  have hs8 := hb.size
  have HVA8 := Lib.hid (HVA7.out.below hb (by omega))
  have HOA8 := Lib.hid (HOA7.out.below hb (by omega))
  have HB8 := Lib.hid (HB7.out.trans (hb.mono (by omega)))
  have HXa8 := Lib.hid ((hb.block _ (lt_of_row HXa7.out)).trans HXa7.out)
  have HVN8 := Lib.hid (HVN7.out.below hb (by omega))
  have HON8 := Lib.hid (HON7.out.below hb (by omega))
  have HXn8 := Lib.hid ((hb.block _ (lt_of_row HXn7.out)).trans HXn7.out)
  have HVW8 := Lib.hid (HVW7.out.below hb (by omega))
  have HOW8 := Lib.hid (HOW7.out.below hb (by omega))
  have HXw8 := Lib.hid ((hb.block _ (lt_of_row HXw7.out)).trans HXw7.out)
  have HVX8 := Lib.hid (HVX7.out.below hb (by omega))
  have HOX8 := Lib.hid (HOX7.out.below hb (by omega))
  clear hb HVA7 HOA7 HB7 HXa7 HVN7 HON7 HXn7 HVW7 HOW7 HXw7 HVX7 HOX7
  clear HY7
  obtain ⟨c00, c01⟩ := pair_cells HXn8.out
  go_wp2_with fail
  have hc := implCut w8 w8.heap.size nva noa bv vs.length nvc os.length noc nb bc vs os ys (HVN8.out.more (by omega)) (HON8.out.more (by omega)) (HY8.out.more (by omega)) (Nat.le_refl _) (by omega) HCn.out.1 ⟨by omega, HCn.out.2.1⟩ HIn.out (by omega)
  rw [HB3.out, HV3.out, HO3.out] at hc
  refine hc.mono ?_
  clear hc
  rintro e w9 ⟨gva, gvc, goa, goc, mid, rfl, hov, hop, hm1, hm2, hb, hcn⟩
  clear c00 c01
  have HCg := Lib.hid hcn
  have hov := hov.more (Nat.le_refl _) hm2
  clear hcn hm1 hm2
  have HY9 := Lib.hid (HY8.out.below hb (by omega))
  have hs9 := hb.size
  have HVA9 := Lib.hid (HVA8.out.below hb (by omega))
  have HOA9 := Lib.hid (HOA8.out.below hb (by omega))
  have HB9 := Lib.hid (HB8.out.trans (hb.mono (by omega)))
  have HXa9 := Lib.hid ((hb.block _ (lt_of_row HXa8.out)).trans HXa8.out)
  have HVN9 := Lib.hid (HVN8.out.below hb (by omega))
  have HON9 := Lib.hid (HON8.out.below hb (by omega))
  have HXn9 := Lib.hid ((hb.block _ (lt_of_row HXn8.out)).trans HXn8.out)
  have HVW9 := Lib.hid (HVW8.out.below hb (by omega))
  have HOW9 := Lib.hid (HOW8.out.below hb (by omega))
  have HXw9 := Lib.hid ((hb.block _ (lt_of_row HXw8.out)).trans HXw8.out)
  have HVX9 := Lib.hid (HVX8.out.below hb (by omega))
  have HOX9 := Lib.hid (HOX8.out.below hb (by omega))
  have HXx9 := Lib.hid ((hb.block _ (lt_of_row HXx8.out)).trans HXx8.out)
  clear hb HVA8 HOA8 HB8 HXa8 HVN8 HON8 HXn8 HVW8 HOW8 HXw8 HVX8 HOX8 HXx8
  clear HY8
  have HVG9 := Lib.hid hov.ints
  have HOG9 := Lib.hid hop.ops
  clear hov hop
  go_upto_region 10 with fail
  have hb : Below w9.heap.size w9 (w9.alloc (.cells #[.slice gva vs.length gvc, .slice goa os.length goc] 27)) := (Below.refl _ _).alloc (Nat.le_refl _) _
  have HXg10 := Lib.hid (boxAt (Below.refl _ (w9.alloc (.cells #[.slice gva vs.length gvc, .slice goa os.length goc] 27))))
  generalize w9.alloc (.cells #[.slice gva vs.length gvc, .slice goa os.length goc] 27) = w10 at hb HXg10 ⊢
  have HY10 := Lib.hid (HY9.out.below hb (by omega))
  have hs10 := hb.size
  have HVA10 := Lib.hid (HVA9.out.below hb (by omega))
  have HOA10 := Lib.hid (HOA9.out.below hb (by omega))
  have HB10 := Lib.hid (HB9.out.trans (hb.mono (by omega)))
  have HXa10 := Lib.hid ((hb.block _ (lt_of_row HXa9.out)).trans HXa9.out)
  have HVN10 := Lib.hid (HVN9.out.below hb (by omega))
  have HON10 := Lib.hid (HON9.out.below hb (by omega))
  have HXn10 := Lib.hid ((hb.block _ (lt_of_row HXn9.out)).trans HXn9.out)
  have HVW10 := Lib.hid (HVW9.out.below hb (by omega))
  have HOW10 := Lib.hid (HOW9.out.below hb (by omega))
  have HXw10 := Lib.hid ((hb.block _ (lt_of_row HXw9.out)).trans HXw9.out)
  have HVX10 := Lib.hid (HVX9.out.below hb (by omega))
  have HOX10 := Lib.hid (HOX9.out.below hb (by omega))
  have HXx10 := Lib.hid ((hb.block _ (lt_of_row HXx9.out)).trans HXx9.out)
  have HVG10 := Lib.hid (HVG9.out.below hb (by omega))
  have HOG10 := Lib.hid (HOG9.out.below hb (by omega))
  clear hb HVA9 HOA9 HB9 HXa9 HVN9 HON9 HXn9 HVW9 HOW9 HXw9 HVX9 HOX9 HXx9 HVG9 HOG9
  clear HY9
  obtain ⟨c00, c01⟩ := pair_cells HXn10.out
  obtain ⟨c10, c11⟩ := pair_cells HXa10.out
  go_wp2_with fail
  have hc := implMergedK w10 w10.heap.size nva noa ava aoa vs.length nvc os.length noc 4 avc l.length aoc vs os xs l (HVN10.out.more (by omega)) (HON10.out.more (by omega)) (HVA10.out.more (by omega)) (HOA10.out.more (by omega)) (Nat.le_refl _) (by omega) HCn.out.1 ⟨by omega, HCn.out.2.1⟩ HIn.out (by omega) HCa.out.1 ⟨by omega, HCa.out.2.1⟩ HIa.out
  rw [HB4.out, HV4.out, HO4.out] at hc
  refine hc.mono ?_
  clear hc
  rintro e w11 ⟨mva, mvc, moa, moc, mid, rfl, hov, hop, hm1, hm2, hb, hcn⟩
  clear c00 c01 c10 c11
  have HCm := Lib.hid hcn
  have hov := hov.more (Nat.le_refl _) hm2
  clear hcn hm1 hm2
  have HY11 := Lib.hid (HY10.out.below hb (by omega))
  have hs11 := hb.size
  have HVA11 := Lib.hid (HVA10.out.below hb (by omega))
  have HOA11 := Lib.hid (HOA10.out.below hb (by omega))
  have HB11 := Lib.hid (HB10.out.trans (hb.mono (by omega)))
  have HXa11 := Lib.hid ((hb.block _ (lt_of_row HXa10.out)).trans HXa10.out)
  have HVN11 := Lib.hid (HVN10.out.below hb (by omega))
  have HON11 := Lib.hid (HON10.out.below hb (by omega))
  have HXn11 := Lib.hid ((hb.block _ (lt_of_row HXn10.out)).trans HXn10.out)
  have HVW11 := Lib.hid (HVW10.out.below hb (by omega))
  have HOW11 := Lib.hid (HOW10.out.below hb (by omega))
  have HXw11 := Lib.hid ((hb.block _ (lt_of_row HXw10.out)).trans HXw10.out)
  have HVX11 := Lib.hid (HVX10.out.below hb (by omega))
  have HOX11 := Lib.hid (HOX10.out.below hb (by omega))
  have HXx11 := Lib.hid ((hb.block _ (lt_of_row HXx10.out)).trans HXx10.out)
  have HVG11 := Lib.hid (HVG10.out.below hb (by omega))
  have HOG11 := Lib.hid (HOG10.out.below hb (by omega))
  have HXg11 := Lib.hid ((hb.block _ (lt_of_row HXg10.out)).trans HXg10.out)
  clear hb HVA10 HOA10 HB10 HXa10 HVN10 HON10 HXn10 HVW10 HOW10 HXw10 HVX10 HOX10 HXx10 HVG10 HOG10 HXg10
  clear HY10
  have HVM11 := Lib.hid hov.ints
  have HOM11 := Lib.hid hop.ops
  clear hov hop
  go_upto_region 11 with fail
  have hb : Below w11.heap.size w11 (w11.alloc (.cells #[.slice mva xs.length mvc, .slice moa l.length moc] 27)) := (Below.refl _ _).alloc (Nat.le_refl _) _
  have HXm12 := Lib.hid (boxAt (Below.refl _ (w11.alloc (.cells #[.slice mva xs.length mvc, .slice moa l.length moc] 27))))
  generalize w11.alloc (.cells #[.slice mva xs.length mvc, .slice moa l.length moc] 27) = w12 at hb HXm12 ⊢
  have HY12 := Lib.hid (HY11.out.below hb (by omega))
  have hs12 := hb.size
  have HVA12 := Lib.hid (HVA11.out.below hb (by omega))
  have HOA12 := Lib.hid (HOA11.out.below hb (by omega))
  have HB12 := Lib.hid (HB11.out.trans (hb.mono (by omega)))
  have HXa12 := Lib.hid ((hb.block _ (lt_of_row HXa11.out)).trans HXa11.out)
  have HVN12 := Lib.hid (HVN11.out.below hb (by omega))
  have HON12 := Lib.hid (HON11.out.below hb (by omega))
  have HXn12 := Lib.hid ((hb.block _ (lt_of_row HXn11.out)).trans HXn11.out)
  have HVW12 := Lib.hid (HVW11.out.below hb (by omega))
  have HOW12 := Lib.hid (HOW11.out.below hb (by omega))
  have HXw12 := Lib.hid ((hb.block _ (lt_of_row HXw11.out)).trans HXw11.out)
  have HVX12 := Lib.hid (HVX11.out.below hb (by omega))
  have HOX12 := Lib.hid (HOX11.out.below hb (by omega))
  have HXx12 := Lib.hid ((hb.block _ (lt_of_row HXx11.out)).trans HXx11.out)
  have HVG12 := Lib.hid (HVG11.out.below hb (by omega))
  have HOG12 := Lib.hid (HOG11.out.below hb (by omega))
  have HXg12 := Lib.hid ((hb.block _ (lt_of_row HXg11.out)).trans HXg11.out)
  have HVM12 := Lib.hid (HVM11.out.below hb (by omega))
  have HOM12 := Lib.hid (HOM11.out.below hb (by omega))
  clear hb HVA11 HOA11 HB11 HXa11 HVN11 HON11 HXn11 HVW11 HOW11 HXw11 HVX11 HOX11 HXx11 HVG11 HOG11 HXg11 HVM11 HOM11
  clear HY11
  go_wp2_with fail
  obtain ⟨w13, hzw⟩ : ∃ z, w12.drew = z := ⟨_, rfl⟩
  have hb : Below w12.heap.size w12 w13 := by rw [← hzw]; exact ⟨rfl, rfl, rfl, Nat.le_refl _, fun _ _ => rfl⟩
  have HY13 := Lib.hid (HY12.out.below hb (by omega))
  have hs13 := hb.size
  have HVA13 := Lib.hid (HVA12.out.below hb (by omega))
  have HOA13 := Lib.hid (HOA12.out.below hb (by omega))
  have HB13 := Lib.hid (HB12.out.trans (hb.mono (by omega)))
  have HXa13 := Lib.hid ((hb.block _ (lt_of_row HXa12.out)).trans HXa12.out)
  have HVN13 := Lib.hid (HVN12.out.below hb (by omega))
  have HON13 := Lib.hid (HON12.out.below hb (by omega))
  have HXn13 := Lib.hid ((hb.block _ (lt_of_row HXn12.out)).trans HXn12.out)
  have HVW13 := Lib.hid (HVW12.out.below hb (by omega))
  have HOW13 := Lib.hid (HOW12.out.below hb (by omega))
  have HXw13 := Lib.hid ((hb.block _ (lt_of_row HXw12.out)).trans HXw12.out)
  have HVX13 := Lib.hid (HVX12.out.below hb (by omega))
  have HOX13 := Lib.hid (HOX12.out.below hb (by omega))
  have HXx13 := Lib.hid ((hb.block _ (lt_of_row HXx12.out)).trans HXx12.out)
  have HVG13 := Lib.hid (HVG12.out.below hb (by omega))
  have HOG13 := Lib.hid (HOG12.out.below hb (by omega))
  have HXg13 := Lib.hid ((hb.block _ (lt_of_row HXg12.out)).trans HXg12.out)
  have HVM13 := Lib.hid (HVM12.out.below hb (by omega))
  have HOM13 := Lib.hid (HOM12.out.below hb (by omega))
  have HXm13 := Lib.hid ((hb.block _ (lt_of_row HXm12.out)).trans HXm12.out)
  clear hb HVA12 HOA12 HB12 HXa12 HVN12 HON12 HXn12 HVW12 HOW12 HXw12 HVX12 HOX12 HXx12 HVG12 HOG12 HXg12 HVM12 HOM12 HXm12
  clear HY12
  have hS : w13.cell? ⟨w2.heap.size, 0, none⟩ = some (.slice nva vs.length nvc) ∧ w13.cell? ⟨w2.heap.size, 1, none⟩ = some (.slice noa os.length noc) ∧ w13.cell? ⟨w0.heap.size, 0, none⟩ = some (.slice ava 4 avc) ∧ w13.cell? ⟨w0.heap.size, 1, none⟩ = some (.slice aoa l.length aoc) ∧ w13.cell? ⟨w7.heap.size, 0, none⟩ = some (.slice xva xs.length xvc) ∧ w13.cell? ⟨w7.heap.size, 1, none⟩ = some (.slice xoa l.length xoc) ∧ w13.cell? ⟨w9.heap.size, 0, none⟩ = some (.slice gva vs.length gvc) ∧ w13.cell? ⟨w9.heap.size, 1, none⟩ = some (.slice goa os.length goc) ∧ w13.cell? ⟨w11.heap.size, 0, none⟩ = some (.slice mva xs.length mvc) ∧ w13.cell? ⟨w11.heap.size, 1, none⟩ = some (.slice moa l.length moc) := ⟨(pair_cells HXn13.out).1, (pair_cells HXn13.out).2, (pair_cells HXa13.out).1, (pair_cells HXa13.out).2, (pair_cells HXx13.out).1, (pair_cells HXx13.out).2, (pair_cells HXg13.out).1, (pair_cells HXg13.out).2, (pair_cells HXm13.out).1, (pair_cells HXm13.out).2⟩
  refine wp_region_held_drew (S := fun w' => w'.cell? ⟨w2.heap.size, 0, none⟩ = some (.slice nva vs.length nvc) ∧ w'.cell? ⟨w2.heap.size, 1, none⟩ = some (.slice noa os.length noc) ∧ w'.cell? ⟨w0.heap.size, 0, none⟩ = some (.slice ava 4 avc) ∧ w'.cell? ⟨w0.heap.size, 1, none⟩ = some (.slice aoa l.length aoc) ∧ w'.cell? ⟨w7.heap.size, 0, none⟩ = some (.slice xva xs.length xvc) ∧ w'.cell? ⟨w7.heap.size, 1, none⟩ = some (.slice xoa l.length xoc) ∧ w'.cell? ⟨w9.heap.size, 0, none⟩ = some (.slice gva vs.length gvc) ∧ w'.cell? ⟨w9.heap.size, 1, none⟩ = some (.slice goa os.length goc) ∧ w'.cell? ⟨w11.heap.size, 0, none⟩ = some (.slice mva xs.length mvc) ∧ w'.cell? ⟨w11.heap.size, 1, none⟩ = some (.slice moa l.length moc)) (by kernel_rfl) (by rw [hzw]; exact hS) (fun hHeld => ?_)
  rw [hzw]
  clear hHeld hzw
  refine wpAnyH_take (i := 0) (oi := { dst := some 74, op := Op.load 27 (Operand.tmp 5), type := 27, pos := "laws.go:1432", after := #[], guard := none }) (v := ?_) rfl (by kernel_rfl) (by kernel_rfl) (by kernel_rfl) (fun _ _ _ h => h) (Or.inl ⟨by rfl, ?_⟩) (by assumption) ?_
  rotate_left
  · intro w hSw
    (try dsimp only at hSw)
    first | (go_simp; done) | (go_simp; with_reducible rfl)
  (try simp only [Act.put, List.setIfInBounds_toArray, List.set_cons_zero, List.set_cons_succ])
  refine wpAnyH_ready (rs := [1]) (by kernel_rfl) (by simp) ?_
  refine AllReadyH.cons (o := { dst := some 75, op := Op.call { callee := Callee.value (Operand.func 20), args := #[Operand.tmp 74], argTypes := #[27] }, type := 4, pos := "laws.go:1432", after := #[{ on := 0, ground := Ground.data }], guard := none }) rfl (fun K hK => ?_) AllReadyH.nil
  go_simp
  go_at_call 20
  refine (implCartOk w13 w13.heap.size nva noa vs.length nvc os.length noc vs os (HVN13.out.more (by omega)) (HON13.out.more (by omega)) (Nat.le_refl _) (by omega) HCn.out.1 ⟨by omega, HCn.out.2.1⟩).mono ?_
  rintro e w14 ⟨rfl, hb⟩
  rw [HCC.out]
  have HY14 := Lib.hid (HY13.out.below hb (by omega))
  have hs14 := hb.size
  have HVA14 := Lib.hid (HVA13.out.below hb (by omega))
  have HOA14 := Lib.hid (HOA13.out.below hb (by omega))
  have HB14 := Lib.hid (HB13.out.trans (hb.mono (by omega)))
  have HXa14 := Lib.hid ((hb.block _ (lt_of_row HXa13.out)).trans HXa13.out)
  have HVN14 := Lib.hid (HVN13.out.below hb (by omega))
  have HON14 := Lib.hid (HON13.out.below hb (by omega))
  have HXn14 := Lib.hid ((hb.block _ (lt_of_row HXn13.out)).trans HXn13.out)
  have HVW14 := Lib.hid (HVW13.out.below hb (by omega))
  have HOW14 := Lib.hid (HOW13.out.below hb (by omega))
  have HXw14 := Lib.hid ((hb.block _ (lt_of_row HXw13.out)).trans HXw13.out)
  have HVX14 := Lib.hid (HVX13.out.below hb (by omega))
  have HOX14 := Lib.hid (HOX13.out.below hb (by omega))
  have HXx14 := Lib.hid ((hb.block _ (lt_of_row HXx13.out)).trans HXx13.out)
  have HVG14 := Lib.hid (HVG13.out.below hb (by omega))
  have HOG14 := Lib.hid (HOG13.out.below hb (by omega))
  have HXg14 := Lib.hid ((hb.block _ (lt_of_row HXg13.out)).trans HXg13.out)
  have HVM14 := Lib.hid (HVM13.out.below hb (by omega))
  have HOM14 := Lib.hid (HOM13.out.below hb (by omega))
  have HXm14 := Lib.hid ((hb.block _ (lt_of_row HXm13.out)).trans HXm13.out)
  clear hb HVA13 HOA13 HB13 HXa13 HVN13 HON13 HXn13 HVW13 HOW13 HXw13 HVX13 HOX13 HXx13 HVG13 HOG13 HXg13 HVM13 HOM13 HXm13
  clear HY13
  have hS2 : w14.cell? ⟨w2.heap.size, 0, none⟩ = some (.slice nva vs.length nvc) ∧ w14.cell? ⟨w2.heap.size, 1, none⟩ = some (.slice noa os.length noc) ∧ w14.cell? ⟨w0.heap.size, 0, none⟩ = some (.slice ava 4 avc) ∧ w14.cell? ⟨w0.heap.size, 1, none⟩ = some (.slice aoa l.length aoc) ∧ w14.cell? ⟨w7.heap.size, 0, none⟩ = some (.slice xva xs.length xvc) ∧ w14.cell? ⟨w7.heap.size, 1, none⟩ = some (.slice xoa l.length xoc) ∧ w14.cell? ⟨w9.heap.size, 0, none⟩ = some (.slice gva vs.length gvc) ∧ w14.cell? ⟨w9.heap.size, 1, none⟩ = some (.slice goa os.length goc) ∧ w14.cell? ⟨w11.heap.size, 0, none⟩ = some (.slice mva xs.length mvc) ∧ w14.cell? ⟨w11.heap.size, 1, none⟩ = some (.slice moa l.length moc) := ⟨(pair_cells HXn14.out).1, (pair_cells HXn14.out).2, (pair_cells HXa14.out).1, (pair_cells HXa14.out).2, (pair_cells HXx14.out).1, (pair_cells HXx14.out).2, (pair_cells HXg14.out).1, (pair_cells HXg14.out).2, (pair_cells HXm14.out).1, (pair_cells HXm14.out).2⟩
  refine hK.out _ _ hS2 (fun hHeld3 => ?_)
  clear hK K
  (try simp only [Act.put, List.setIfInBounds_toArray, List.set_cons_zero, List.set_cons_succ])
  clear hHeld3
  refine wpAnyH_take (i := 2) (oi := { dst := some 76, op := Op.move (Operand.tmp 75), type := 4, pos := "laws.go:1432", after := #[{ on := 1, ground := Ground.data }, { on := 1, ground := Ground.chain }], guard := none }) (v := ?_) rfl (by kernel_rfl) (by kernel_rfl) (by kernel_rfl) (fun _ _ _ h => h) (Or.inl ⟨by rfl, ?_⟩) (by assumption) ?_
  rotate_left
  · intro w hSw
    (try dsimp only at hSw)
    first | (go_simp; done) | (go_simp; with_reducible rfl)
  (try simp only [Act.put, List.setIfInBounds_toArray, List.set_cons_zero, List.set_cons_succ])
  refine wpAnyH_take (i := 3) (oi := { dst := some 77, op := Op.load 27 (Operand.tmp 5), type := 27, pos := "laws.go:1432", after := #[{ on := 2, ground := Ground.guard }], guard := some (2, true) }) (v := ?_) rfl (by kernel_rfl) (by kernel_rfl) (by kernel_rfl) (fun _ _ _ h => h) (Or.inl ⟨by rfl, ?_⟩) (by assumption) ?_
  rotate_left
  · intro w hSw
    (try dsimp only at hSw)
    first | (go_simp; done) | (go_simp; with_reducible rfl)
  (try simp only [Act.put, List.setIfInBounds_toArray, List.set_cons_zero, List.set_cons_succ])
  refine wpAnyH_take (i := 4) (oi := { dst := some 78, op := Op.load 27 (Operand.tmp 3), type := 27, pos := "laws.go:1432", after := #[{ on := 2, ground := Ground.guard }], guard := some (2, true) }) (v := ?_) rfl (by kernel_rfl) (by kernel_rfl) (by kernel_rfl) (fun _ _ _ h => h) (Or.inl ⟨by rfl, ?_⟩) (by assumption) ?_
  rotate_left
  · intro w hSw
    (try dsimp only at hSw)
    first | (go_simp; done) | (go_simp; with_reducible rfl)
  (try simp only [Act.put, List.setIfInBounds_toArray, List.set_cons_zero, List.set_cons_succ])
  refine wpAnyH_ready (rs := [5]) (by kernel_rfl) (by simp) ?_
  refine AllReadyH.cons (o := { dst := some 79, op := Op.call { callee := Callee.value (Operand.func 21), args := #[Operand.tmp 77, Operand.tmp 78], argTypes := #[27, 27] }, type := 4, pos := "laws.go:1432", after := #[{ on := 3, ground := Ground.data }, { on := 4, ground := Ground.data }, { on := 2, ground := Ground.chain }, { on := 2, ground := Ground.guard }], guard := some (2, true) }) rfl (fun K hK => ?_) AllReadyH.nil
  go_simp
  go_at_call 21
  refine (implWithinC w14 w14.heap.size nva noa ava aoa vs.length nvc os.length noc 4 avc l.length aoc vs os xs l (HVN14.out.more (by omega)) (HON14.out.more (by omega)) (HVA14.out.more (by omega)) (HOA14.out.more (by omega)) (Nat.le_refl _) (by omega) HCn.out.1 ⟨by omega, HCn.out.2.1⟩ (by omega) HCa.out.1 ⟨by omega, HCa.out.2.1⟩).mono ?_
  rintro e w15 ⟨rfl, hb⟩
  rw [HIN.out]
  have HY15 := Lib.hid (HY14.out.below hb (by omega))
  have hs15 := hb.size
  have HVA15 := Lib.hid (HVA14.out.below hb (by omega))
  have HOA15 := Lib.hid (HOA14.out.below hb (by omega))
  have HB15 := Lib.hid (HB14.out.trans (hb.mono (by omega)))
  have HXa15 := Lib.hid ((hb.block _ (lt_of_row HXa14.out)).trans HXa14.out)
  have HVN15 := Lib.hid (HVN14.out.below hb (by omega))
  have HON15 := Lib.hid (HON14.out.below hb (by omega))
  have HXn15 := Lib.hid ((hb.block _ (lt_of_row HXn14.out)).trans HXn14.out)
  have HVW15 := Lib.hid (HVW14.out.below hb (by omega))
  have HOW15 := Lib.hid (HOW14.out.below hb (by omega))
  have HXw15 := Lib.hid ((hb.block _ (lt_of_row HXw14.out)).trans HXw14.out)
  have HVX15 := Lib.hid (HVX14.out.below hb (by omega))
  have HOX15 := Lib.hid (HOX14.out.below hb (by omega))
  have HXx15 := Lib.hid ((hb.block _ (lt_of_row HXx14.out)).trans HXx14.out)
  have HVG15 := Lib.hid (HVG14.out.below hb (by omega))
  have HOG15 := Lib.hid (HOG14.out.below hb (by omega))
  have HXg15 := Lib.hid ((hb.block _ (lt_of_row HXg14.out)).trans HXg14.out)
  have HVM15 := Lib.hid (HVM14.out.below hb (by omega))
  have HOM15 := Lib.hid (HOM14.out.below hb (by omega))
  have HXm15 := Lib.hid ((hb.block _ (lt_of_row HXm14.out)).trans HXm14.out)
  clear hb HVA14 HOA14 HB14 HXa14 HVN14 HON14 HXn14 HVW14 HOW14 HXw14 HVX14 HOX14 HXx14 HVG14 HOG14 HXg14 HVM14 HOM14 HXm14
  clear HY14
  have hS4 : w15.cell? ⟨w2.heap.size, 0, none⟩ = some (.slice nva vs.length nvc) ∧ w15.cell? ⟨w2.heap.size, 1, none⟩ = some (.slice noa os.length noc) ∧ w15.cell? ⟨w0.heap.size, 0, none⟩ = some (.slice ava 4 avc) ∧ w15.cell? ⟨w0.heap.size, 1, none⟩ = some (.slice aoa l.length aoc) ∧ w15.cell? ⟨w7.heap.size, 0, none⟩ = some (.slice xva xs.length xvc) ∧ w15.cell? ⟨w7.heap.size, 1, none⟩ = some (.slice xoa l.length xoc) ∧ w15.cell? ⟨w9.heap.size, 0, none⟩ = some (.slice gva vs.length gvc) ∧ w15.cell? ⟨w9.heap.size, 1, none⟩ = some (.slice goa os.length goc) ∧ w15.cell? ⟨w11.heap.size, 0, none⟩ = some (.slice mva xs.length mvc) ∧ w15.cell? ⟨w11.heap.size, 1, none⟩ = some (.slice moa l.length moc) := ⟨(pair_cells HXn15.out).1, (pair_cells HXn15.out).2, (pair_cells HXa15.out).1, (pair_cells HXa15.out).2, (pair_cells HXx15.out).1, (pair_cells HXx15.out).2, (pair_cells HXg15.out).1, (pair_cells HXg15.out).2, (pair_cells HXm15.out).1, (pair_cells HXm15.out).2⟩
  refine hK.out _ _ hS4 (fun hHeld5 => ?_)
  clear hK K
  (try simp only [Act.put, List.setIfInBounds_toArray, List.set_cons_zero, List.set_cons_succ])
  clear hHeld5
  refine wpAnyH_take (i := 6) (oi := { dst := some 80, op := Op.pick (Operand.tmp 76) (Operand.tmp 79) (Operand.const (Value.bool false)), type := 4, pos := "laws.go:1432", after := #[{ on := 2, ground := Ground.data }, { on := 5, ground := Ground.data }], guard := none }) (v := ?_) rfl (by kernel_rfl) (by kernel_rfl) (by kernel_rfl) (fun _ _ _ h => h) (Or.inl ⟨by rfl, ?_⟩) (by assumption) ?_
  rotate_left
  · intro w hSw
    (try dsimp only at hSw)
    first | (go_simp; done) | (go_simp; with_reducible rfl)
  (try simp only [Act.put, List.setIfInBounds_toArray, List.set_cons_zero, List.set_cons_succ])
  refine wpAnyH_take (i := 7) (oi := { dst := some 81, op := Op.move (Operand.tmp 80), type := 4, pos := "laws.go:1432", after := #[{ on := 6, ground := Ground.data }, { on := 5, ground := Ground.chain }], guard := none }) (v := ?_) rfl (by kernel_rfl) (by kernel_rfl) (by kernel_rfl) (fun _ _ _ h => h) (Or.inl ⟨by rfl, ?_⟩) (by assumption) ?_
  rotate_left
  · intro w hSw
    (try dsimp only at hSw)
    first | (go_simp; done) | (go_simp; with_reducible rfl)
  (try simp only [Act.put, List.setIfInBounds_toArray, List.set_cons_zero, List.set_cons_succ])
  refine wpAnyH_take (i := 8) (oi := { dst := some 82, op := Op.fieldAddr 27 (Operand.tmp 5) 0, type := 0, pos := "laws.go:1432", after := #[{ on := 7, ground := Ground.guard }], guard := some (7, true) }) (v := ?_) rfl (by kernel_rfl) (by kernel_rfl) (by kernel_rfl) (fun _ _ _ h => h) (Or.inl ⟨by rfl, ?_⟩) (by assumption) ?_
  rotate_left
  · intro w hSw
    (try dsimp only at hSw)
    first | (go_simp; done) | (go_simp; with_reducible rfl)
  (try simp only [Act.put, List.setIfInBounds_toArray, List.set_cons_zero, List.set_cons_succ])
  refine wpAnyH_take (i := 9) (oi := { dst := some 83, op := Op.load 24 (Operand.tmp 82), type := 24, pos := "laws.go:1432", after := #[{ on := 8, ground := Ground.data }, { on := 7, ground := Ground.guard }], guard := some (7, true) }) (v := ?_) rfl (by kernel_rfl) (by kernel_rfl) (by kernel_rfl) (fun _ _ _ h => h) (Or.inl ⟨by rfl, ?_⟩) (by assumption) ?_
  rotate_left
  · intro w hSw
    (try dsimp only at hSw)
    first | (go_simp; done) | (go_simp; with_reducible rfl)
  (try simp only [Act.put, List.setIfInBounds_toArray, List.set_cons_zero, List.set_cons_succ])
  refine wpAnyH_take (i := 10) (oi := { dst := some 84, op := Op.fieldAddr 27 (Operand.tmp 3) 0, type := 0, pos := "laws.go:1432", after := #[{ on := 7, ground := Ground.guard }], guard := some (7, true) }) (v := ?_) rfl (by kernel_rfl) (by kernel_rfl) (by kernel_rfl) (fun _ _ _ h => h) (Or.inl ⟨by rfl, ?_⟩) (by assumption) ?_
  rotate_left
  · intro w hSw
    (try dsimp only at hSw)
    first | (go_simp; done) | (go_simp; with_reducible rfl)
  (try simp only [Act.put, List.setIfInBounds_toArray, List.set_cons_zero, List.set_cons_succ])
  refine wpAnyH_take (i := 11) (oi := { dst := some 85, op := Op.load 24 (Operand.tmp 84), type := 24, pos := "laws.go:1432", after := #[{ on := 10, ground := Ground.data }, { on := 7, ground := Ground.guard }], guard := some (7, true) }) (v := ?_) rfl (by kernel_rfl) (by kernel_rfl) (by kernel_rfl) (fun _ _ _ h => h) (Or.inl ⟨by rfl, ?_⟩) (by assumption) ?_
  rotate_left
  · intro w hSw
    (try dsimp only at hSw)
    first | (go_simp; done) | (go_simp; with_reducible rfl)
  (try simp only [Act.put, List.setIfInBounds_toArray, List.set_cons_zero, List.set_cons_succ])
  refine wpAnyH_take (i := 12) (oi := { dst := some 86, op := Op.move (Operand.tmp 4), type := 24, pos := "laws.go:1432", after := #[{ on := 7, ground := Ground.guard }], guard := some (7, true) }) (v := ?_) rfl (by kernel_rfl) (by kernel_rfl) (by kernel_rfl) (fun _ _ _ h => h) (Or.inl ⟨by rfl, ?_⟩) (by assumption) ?_
  rotate_left
  · intro w hSw
    (try dsimp only at hSw)
    first | (go_simp; done) | (go_simp; with_reducible rfl)
  (try simp only [Act.put, List.setIfInBounds_toArray, List.set_cons_zero, List.set_cons_succ])
  refine wpAnyH_ready (rs := [13]) (by kernel_rfl) (by simp) ?_
  refine AllReadyH.cons (o := { dst := some 87, op := Op.call { callee := Callee.value (Operand.func 49), args := #[Operand.tmp 85, Operand.tmp 86], argTypes := #[24, 24] }, type := 24, pos := "laws.go:1432", after := #[{ on := 11, ground := Ground.data }, { on := 12, ground := Ground.data }, { on := 7, ground := Ground.chain }, { on := 7, ground := Ground.guard }], guard := some (7, true) }) rfl (fun K hK => ?_) AllReadyH.nil
  go_simp
  go_at_call 49
  refine (implMin w15 w15.heap.size ava bv 4 avc nb bc xs ys (HVA15.out.more (by omega)) (HY15.out.more (by omega)) (Nat.le_refl _) (by omega) (by omega)).mono ?_
  rintro e w16 ⟨zva, zvc, rfl, hov, hb⟩
  rw [HZz.out] at hov ⊢
  have HY16 := Lib.hid (HY15.out.below hb (by omega))
  have hs16 := hb.size
  have HVA16 := Lib.hid (HVA15.out.below hb (by omega))
  have HOA16 := Lib.hid (HOA15.out.below hb (by omega))
  have HB16 := Lib.hid (HB15.out.trans (hb.mono (by omega)))
  have HXa16 := Lib.hid ((hb.block _ (lt_of_row HXa15.out)).trans HXa15.out)
  have HVN16 := Lib.hid (HVN15.out.below hb (by omega))
  have HON16 := Lib.hid (HON15.out.below hb (by omega))
  have HXn16 := Lib.hid ((hb.block _ (lt_of_row HXn15.out)).trans HXn15.out)
  have HVW16 := Lib.hid (HVW15.out.below hb (by omega))
  have HOW16 := Lib.hid (HOW15.out.below hb (by omega))
  have HXw16 := Lib.hid ((hb.block _ (lt_of_row HXw15.out)).trans HXw15.out)
  have HVX16 := Lib.hid (HVX15.out.below hb (by omega))
  have HOX16 := Lib.hid (HOX15.out.below hb (by omega))
  have HXx16 := Lib.hid ((hb.block _ (lt_of_row HXx15.out)).trans HXx15.out)
  have HVG16 := Lib.hid (HVG15.out.below hb (by omega))
  have HOG16 := Lib.hid (HOG15.out.below hb (by omega))
  have HXg16 := Lib.hid ((hb.block _ (lt_of_row HXg15.out)).trans HXg15.out)
  have HVM16 := Lib.hid (HVM15.out.below hb (by omega))
  have HOM16 := Lib.hid (HOM15.out.below hb (by omega))
  have HXm16 := Lib.hid ((hb.block _ (lt_of_row HXm15.out)).trans HXm15.out)
  clear hb HVA15 HOA15 HB15 HXa15 HVN15 HON15 HXn15 HVW15 HOW15 HXw15 HVX15 HOX15 HXx15 HVG15 HOG15 HXg15 HVM15 HOM15 HXm15
  clear HY15
  have hS6 : w16.cell? ⟨w2.heap.size, 0, none⟩ = some (.slice nva vs.length nvc) ∧ w16.cell? ⟨w2.heap.size, 1, none⟩ = some (.slice noa os.length noc) ∧ w16.cell? ⟨w0.heap.size, 0, none⟩ = some (.slice ava 4 avc) ∧ w16.cell? ⟨w0.heap.size, 1, none⟩ = some (.slice aoa l.length aoc) ∧ w16.cell? ⟨w7.heap.size, 0, none⟩ = some (.slice xva xs.length xvc) ∧ w16.cell? ⟨w7.heap.size, 1, none⟩ = some (.slice xoa l.length xoc) ∧ w16.cell? ⟨w9.heap.size, 0, none⟩ = some (.slice gva vs.length gvc) ∧ w16.cell? ⟨w9.heap.size, 1, none⟩ = some (.slice goa os.length goc) ∧ w16.cell? ⟨w11.heap.size, 0, none⟩ = some (.slice mva xs.length mvc) ∧ w16.cell? ⟨w11.heap.size, 1, none⟩ = some (.slice moa l.length moc) := ⟨(pair_cells HXn16.out).1, (pair_cells HXn16.out).2, (pair_cells HXa16.out).1, (pair_cells HXa16.out).2, (pair_cells HXx16.out).1, (pair_cells HXx16.out).2, (pair_cells HXg16.out).1, (pair_cells HXg16.out).2, (pair_cells HXm16.out).1, (pair_cells HXm16.out).2⟩
  refine hK.out _ _ hS6 (fun hHeld7 => ?_)
  clear hK K
  (try simp only [Act.put, List.setIfInBounds_toArray, List.set_cons_zero, List.set_cons_succ])
  clear hHeld7
  have HZ16 := Lib.hid hov.ints
  clear hov
  refine wpAnyH_ready (rs := [14]) (by kernel_rfl) (by simp) ?_
  refine AllReadyH.cons (o := { dst := some 88, op := Op.call { callee := Callee.value (Operand.func 29), args := #[Operand.tmp 83, Operand.tmp 87], argTypes := #[24, 24] }, type := 4, pos := "laws.go:1432", after := #[{ on := 9, ground := Ground.data }, { on := 13, ground := Ground.data }, { on := 13, ground := Ground.chain }, { on := 7, ground := Ground.guard }], guard := some (7, true) }) rfl (fun K hK => ?_) AllReadyH.nil
  go_simp
  go_at_call 29
  refine (sameIntsS w16 w16.heap.size w16.heap.size nva zva vs.length nvc vs.length zvc vs vs (HVN16.out.more (by omega)) (HZ16.out.more (by omega)) (by omega) (by omega)).mono ?_
  rintro e w17 ⟨rfl, hsm⟩
  rw [decide_eq_true rfl]
  have hb : Below w16.heap.size w16 w17 := hsm.below _
  clear hsm
  have HY17 := Lib.hid (HY16.out.below hb (by omega))
  have HZ17 := Lib.hid (HZ16.out.below hb (by omega))
  have hs17 := hb.size
  have HVA17 := Lib.hid (HVA16.out.below hb (by omega))
  have HOA17 := Lib.hid (HOA16.out.below hb (by omega))
  have HB17 := Lib.hid (HB16.out.trans (hb.mono (by omega)))
  have HXa17 := Lib.hid ((hb.block _ (lt_of_row HXa16.out)).trans HXa16.out)
  have HVN17 := Lib.hid (HVN16.out.below hb (by omega))
  have HON17 := Lib.hid (HON16.out.below hb (by omega))
  have HXn17 := Lib.hid ((hb.block _ (lt_of_row HXn16.out)).trans HXn16.out)
  have HVW17 := Lib.hid (HVW16.out.below hb (by omega))
  have HOW17 := Lib.hid (HOW16.out.below hb (by omega))
  have HXw17 := Lib.hid ((hb.block _ (lt_of_row HXw16.out)).trans HXw16.out)
  have HVX17 := Lib.hid (HVX16.out.below hb (by omega))
  have HOX17 := Lib.hid (HOX16.out.below hb (by omega))
  have HXx17 := Lib.hid ((hb.block _ (lt_of_row HXx16.out)).trans HXx16.out)
  have HVG17 := Lib.hid (HVG16.out.below hb (by omega))
  have HOG17 := Lib.hid (HOG16.out.below hb (by omega))
  have HXg17 := Lib.hid ((hb.block _ (lt_of_row HXg16.out)).trans HXg16.out)
  have HVM17 := Lib.hid (HVM16.out.below hb (by omega))
  have HOM17 := Lib.hid (HOM16.out.below hb (by omega))
  have HXm17 := Lib.hid ((hb.block _ (lt_of_row HXm16.out)).trans HXm16.out)
  clear hb HVA16 HOA16 HB16 HXa16 HVN16 HON16 HXn16 HVW16 HOW16 HXw16 HVX16 HOX16 HXx16 HVG16 HOG16 HXg16 HVM16 HOM16 HXm16
  clear HY16 HZ16
  have hS8 : w17.cell? ⟨w2.heap.size, 0, none⟩ = some (.slice nva vs.length nvc) ∧ w17.cell? ⟨w2.heap.size, 1, none⟩ = some (.slice noa os.length noc) ∧ w17.cell? ⟨w0.heap.size, 0, none⟩ = some (.slice ava 4 avc) ∧ w17.cell? ⟨w0.heap.size, 1, none⟩ = some (.slice aoa l.length aoc) ∧ w17.cell? ⟨w7.heap.size, 0, none⟩ = some (.slice xva xs.length xvc) ∧ w17.cell? ⟨w7.heap.size, 1, none⟩ = some (.slice xoa l.length xoc) ∧ w17.cell? ⟨w9.heap.size, 0, none⟩ = some (.slice gva vs.length gvc) ∧ w17.cell? ⟨w9.heap.size, 1, none⟩ = some (.slice goa os.length goc) ∧ w17.cell? ⟨w11.heap.size, 0, none⟩ = some (.slice mva xs.length mvc) ∧ w17.cell? ⟨w11.heap.size, 1, none⟩ = some (.slice moa l.length moc) := ⟨(pair_cells HXn17.out).1, (pair_cells HXn17.out).2, (pair_cells HXa17.out).1, (pair_cells HXa17.out).2, (pair_cells HXx17.out).1, (pair_cells HXx17.out).2, (pair_cells HXg17.out).1, (pair_cells HXg17.out).2, (pair_cells HXm17.out).1, (pair_cells HXm17.out).2⟩
  refine hK.out _ _ hS8 (fun hHeld9 => ?_)
  clear hK K
  (try simp only [Act.put, List.setIfInBounds_toArray, List.set_cons_zero, List.set_cons_succ])
  clear hHeld9
  refine wpAnyH_take (i := 15) (oi := { dst := some 89, op := Op.pick (Operand.tmp 81) (Operand.tmp 88) (Operand.const (Value.bool false)), type := 4, pos := "laws.go:1432", after := #[{ on := 7, ground := Ground.data }, { on := 14, ground := Ground.data }], guard := none }) (v := ?_) rfl (by kernel_rfl) (by kernel_rfl) (by kernel_rfl) (fun _ _ _ h => h) (Or.inl ⟨by rfl, ?_⟩) (by assumption) ?_
  rotate_left
  · intro w hSw
    (try dsimp only at hSw)
    first | (go_simp; done) | (go_simp; with_reducible rfl)
  (try simp only [Act.put, List.setIfInBounds_toArray, List.set_cons_zero, List.set_cons_succ])
  refine wpAnyH_take (i := 16) (oi := { dst := some 90, op := Op.move (Operand.tmp 89), type := 4, pos := "laws.go:1432", after := #[{ on := 15, ground := Ground.data }, { on := 14, ground := Ground.chain }], guard := none }) (v := ?_) rfl (by kernel_rfl) (by kernel_rfl) (by kernel_rfl) (fun _ _ _ h => h) (Or.inl ⟨by rfl, ?_⟩) (by assumption) ?_
  rotate_left
  · intro w hSw
    (try dsimp only at hSw)
    first | (go_simp; done) | (go_simp; with_reducible rfl)
  (try simp only [Act.put, List.setIfInBounds_toArray, List.set_cons_zero, List.set_cons_succ])
  refine wpAnyH_take (i := 17) (oi := { dst := some 91, op := Op.move (Operand.tmp 10), type := 4, pos := "laws.go:1432", after := #[{ on := 16, ground := Ground.guard }], guard := some (16, true) }) (v := ?_) rfl (by kernel_rfl) (by kernel_rfl) (by kernel_rfl) (fun _ _ _ h => h) (Or.inl ⟨by rfl, ?_⟩) (by assumption) ?_
  rotate_left
  · intro w hSw
    (try dsimp only at hSw)
    first | (go_simp; done) | (go_simp; with_reducible rfl)
  (try simp only [Act.put, List.setIfInBounds_toArray, List.set_cons_zero, List.set_cons_succ])
  refine wpAnyH_take (i := 18) (oi := { dst := some 92, op := Op.pick (Operand.tmp 90) (Operand.tmp 91) (Operand.const (Value.bool false)), type := 4, pos := "laws.go:1432", after := #[{ on := 16, ground := Ground.data }, { on := 17, ground := Ground.data }], guard := none }) (v := ?_) rfl (by kernel_rfl) (by kernel_rfl) (by kernel_rfl) (fun _ _ _ h => h) (Or.inl ⟨by rfl, ?_⟩) (by assumption) ?_
  rotate_left
  · intro w hSw
    (try dsimp only at hSw)
    first | (go_simp; done) | (go_simp; with_reducible rfl)
  (try simp only [Act.put, List.setIfInBounds_toArray, List.set_cons_zero, List.set_cons_succ])
  refine wpAnyH_take (i := 19) (oi := { dst := some 93, op := Op.move (Operand.tmp 92), type := 4, pos := "laws.go:1432", after := #[{ on := 18, ground := Ground.data }, { on := 16, ground := Ground.chain }], guard := none }) (v := ?_) rfl (by kernel_rfl) (by kernel_rfl) (by kernel_rfl) (fun _ _ _ h => h) (Or.inl ⟨by rfl, ?_⟩) (by assumption) ?_
  rotate_left
  · intro w hSw
    (try dsimp only at hSw)
    first | (go_simp; done) | (go_simp; with_reducible rfl)
  (try simp only [Act.put, List.setIfInBounds_toArray, List.set_cons_zero, List.set_cons_succ])
  refine wpAnyH_take (i := 20) (oi := { dst := some 94, op := Op.load 27 (Operand.tmp 9), type := 27, pos := "laws.go:1432", after := #[{ on := 19, ground := Ground.guard }], guard := some (19, true) }) (v := ?_) rfl (by kernel_rfl) (by kernel_rfl) (by kernel_rfl) (fun _ _ _ h => h) (Or.inl ⟨by rfl, ?_⟩) (by assumption) ?_
  rotate_left
  · intro w hSw
    (try dsimp only at hSw)
    first | (go_simp; done) | (go_simp; with_reducible rfl)
  (try simp only [Act.put, List.setIfInBounds_toArray, List.set_cons_zero, List.set_cons_succ])
  refine wpAnyH_take (i := 21) (oi := { dst := some 95, op := Op.load 27 (Operand.tmp 3), type := 27, pos := "laws.go:1432", after := #[{ on := 19, ground := Ground.guard }], guard := some (19, true) }) (v := ?_) rfl (by kernel_rfl) (by kernel_rfl) (by kernel_rfl) (fun _ _ _ h => h) (Or.inl ⟨by rfl, ?_⟩) (by assumption) ?_
  rotate_left
  · intro w hSw
    (try dsimp only at hSw)
    first | (go_simp; done) | (go_simp; with_reducible rfl)
  (try simp only [Act.put, List.setIfInBounds_toArray, List.set_cons_zero, List.set_cons_succ])
  refine wpAnyH_ready (rs := [22]) (by kernel_rfl) (by simp) ?_
  refine AllReadyH.cons (o := { dst := some 96, op := Op.call { callee := Callee.value (Operand.func 19), args := #[Operand.tmp 94, Operand.tmp 95], argTypes := #[27, 27] }, type := 4, pos := "laws.go:1432", after := #[{ on := 20, ground := Ground.data }, { on := 21, ground := Ground.data }, { on := 19, ground := Ground.chain }, { on := 19, ground := Ground.guard }], guard := some (19, true) }) rfl (fun K hK => ?_) AllReadyH.nil
  go_simp
  go_at_call 19
  refine (sameCart w17 w17.heap.size xva xoa ava aoa xs.length xvc l.length xoc 4 avc l.length aoc xs l xs l (HVX17.out.more (by omega)) (HOX17.out.more (by omega)) (HVA17.out.more (by omega)) (HOA17.out.more (by omega)) (Nat.le_refl _) (by omega) (by omega) (by omega) (by omega)).mono ?_
  rintro e w18 ⟨rfl, hb⟩
  rw [decide_eq_true rfl, decide_eq_true rfl]
  have HY18 := Lib.hid (HY17.out.below hb (by omega))
  have HZ18 := Lib.hid (HZ17.out.below hb (by omega))
  have hs18 := hb.size
  have HVA18 := Lib.hid (HVA17.out.below hb (by omega))
  have HOA18 := Lib.hid (HOA17.out.below hb (by omega))
  have HB18 := Lib.hid (HB17.out.trans (hb.mono (by omega)))
  have HXa18 := Lib.hid ((hb.block _ (lt_of_row HXa17.out)).trans HXa17.out)
  have HVN18 := Lib.hid (HVN17.out.below hb (by omega))
  have HON18 := Lib.hid (HON17.out.below hb (by omega))
  have HXn18 := Lib.hid ((hb.block _ (lt_of_row HXn17.out)).trans HXn17.out)
  have HVW18 := Lib.hid (HVW17.out.below hb (by omega))
  have HOW18 := Lib.hid (HOW17.out.below hb (by omega))
  have HXw18 := Lib.hid ((hb.block _ (lt_of_row HXw17.out)).trans HXw17.out)
  have HVX18 := Lib.hid (HVX17.out.below hb (by omega))
  have HOX18 := Lib.hid (HOX17.out.below hb (by omega))
  have HXx18 := Lib.hid ((hb.block _ (lt_of_row HXx17.out)).trans HXx17.out)
  have HVG18 := Lib.hid (HVG17.out.below hb (by omega))
  have HOG18 := Lib.hid (HOG17.out.below hb (by omega))
  have HXg18 := Lib.hid ((hb.block _ (lt_of_row HXg17.out)).trans HXg17.out)
  have HVM18 := Lib.hid (HVM17.out.below hb (by omega))
  have HOM18 := Lib.hid (HOM17.out.below hb (by omega))
  have HXm18 := Lib.hid ((hb.block _ (lt_of_row HXm17.out)).trans HXm17.out)
  clear hb HVA17 HOA17 HB17 HXa17 HVN17 HON17 HXn17 HVW17 HOW17 HXw17 HVX17 HOX17 HXx17 HVG17 HOG17 HXg17 HVM17 HOM17 HXm17
  clear HY17 HZ17
  have hS10 : w18.cell? ⟨w2.heap.size, 0, none⟩ = some (.slice nva vs.length nvc) ∧ w18.cell? ⟨w2.heap.size, 1, none⟩ = some (.slice noa os.length noc) ∧ w18.cell? ⟨w0.heap.size, 0, none⟩ = some (.slice ava 4 avc) ∧ w18.cell? ⟨w0.heap.size, 1, none⟩ = some (.slice aoa l.length aoc) ∧ w18.cell? ⟨w7.heap.size, 0, none⟩ = some (.slice xva xs.length xvc) ∧ w18.cell? ⟨w7.heap.size, 1, none⟩ = some (.slice xoa l.length xoc) ∧ w18.cell? ⟨w9.heap.size, 0, none⟩ = some (.slice gva vs.length gvc) ∧ w18.cell? ⟨w9.heap.size, 1, none⟩ = some (.slice goa os.length goc) ∧ w18.cell? ⟨w11.heap.size, 0, none⟩ = some (.slice mva xs.length mvc) ∧ w18.cell? ⟨w11.heap.size, 1, none⟩ = some (.slice moa l.length moc) := ⟨(pair_cells HXn18.out).1, (pair_cells HXn18.out).2, (pair_cells HXa18.out).1, (pair_cells HXa18.out).2, (pair_cells HXx18.out).1, (pair_cells HXx18.out).2, (pair_cells HXg18.out).1, (pair_cells HXg18.out).2, (pair_cells HXm18.out).1, (pair_cells HXm18.out).2⟩
  refine hK.out _ _ hS10 (fun hHeld11 => ?_)
  clear hK K
  (try simp only [Act.put, List.setIfInBounds_toArray, List.set_cons_zero, List.set_cons_succ])
  clear hHeld11
  refine wpAnyH_take (i := 23) (oi := { dst := some 97, op := Op.pick (Operand.tmp 93) (Operand.tmp 96) (Operand.const (Value.bool false)), type := 4, pos := "laws.go:1432", after := #[{ on := 19, ground := Ground.data }, { on := 22, ground := Ground.data }], guard := none }) (v := ?_) rfl (by kernel_rfl) (by kernel_rfl) (by kernel_rfl) (fun _ _ _ h => h) (Or.inl ⟨by rfl, ?_⟩) (by assumption) ?_
  rotate_left
  · intro w hSw
    (try dsimp only at hSw)
    first | (go_simp; done) | (go_simp; with_reducible rfl)
  (try simp only [Act.put, List.setIfInBounds_toArray, List.set_cons_zero, List.set_cons_succ])
  refine wpAnyH_take (i := 24) (oi := { dst := some 98, op := Op.move (Operand.tmp 97), type := 4, pos := "laws.go:1432", after := #[{ on := 23, ground := Ground.data }, { on := 22, ground := Ground.chain }], guard := none }) (v := ?_) rfl (by kernel_rfl) (by kernel_rfl) (by kernel_rfl) (fun _ _ _ h => h) (Or.inl ⟨by rfl, ?_⟩) (by assumption) ?_
  rotate_left
  · intro w hSw
    (try dsimp only at hSw)
    first | (go_simp; done) | (go_simp; with_reducible rfl)
  (try simp only [Act.put, List.setIfInBounds_toArray, List.set_cons_zero, List.set_cons_succ])
  refine wpAnyH_take (i := 25) (oi := { dst := some 99, op := Op.move (Operand.tmp 12), type := 4, pos := "laws.go:1432", after := #[{ on := 24, ground := Ground.guard }], guard := some (24, true) }) (v := ?_) rfl (by kernel_rfl) (by kernel_rfl) (by kernel_rfl) (fun _ _ _ h => h) (Or.inl ⟨by rfl, ?_⟩) (by assumption) ?_
  rotate_left
  · intro w hSw
    (try dsimp only at hSw)
    first | (go_simp; done) | (go_simp; with_reducible rfl)
  (try simp only [Act.put, List.setIfInBounds_toArray, List.set_cons_zero, List.set_cons_succ])
  refine wpAnyH_take (i := 26) (oi := { dst := some 100, op := Op.pick (Operand.tmp 98) (Operand.tmp 99) (Operand.const (Value.bool false)), type := 4, pos := "laws.go:1432", after := #[{ on := 24, ground := Ground.data }, { on := 25, ground := Ground.data }], guard := none }) (v := ?_) rfl (by kernel_rfl) (by kernel_rfl) (by kernel_rfl) (fun _ _ _ h => h) (Or.inl ⟨by rfl, ?_⟩) (by assumption) ?_
  rotate_left
  · intro w hSw
    (try dsimp only at hSw)
    first | (go_simp; done) | (go_simp; with_reducible rfl)
  (try simp only [Act.put, List.setIfInBounds_toArray, List.set_cons_zero, List.set_cons_succ])
  refine wpAnyH_take (i := 27) (oi := { dst := some 101, op := Op.move (Operand.tmp 100), type := 4, pos := "laws.go:1432", after := #[{ on := 26, ground := Ground.data }, { on := 24, ground := Ground.chain }], guard := none }) (v := ?_) rfl (by kernel_rfl) (by kernel_rfl) (by kernel_rfl) (fun _ _ _ h => h) (Or.inl ⟨by rfl, ?_⟩) (by assumption) ?_
  rotate_left
  · intro w hSw
    (try dsimp only at hSw)
    first | (go_simp; done) | (go_simp; with_reducible rfl)
  (try simp only [Act.put, List.setIfInBounds_toArray, List.set_cons_zero, List.set_cons_succ])
  refine wpAnyH_take (i := 28) (oi := { dst := some 102, op := Op.load 27 (Operand.tmp 11), type := 27, pos := "laws.go:1432", after := #[{ on := 27, ground := Ground.guard }], guard := some (27, true) }) (v := ?_) rfl (by kernel_rfl) (by kernel_rfl) (by kernel_rfl) (fun _ _ _ h => h) (Or.inl ⟨by rfl, ?_⟩) (by assumption) ?_
  rotate_left
  · intro w hSw
    (try dsimp only at hSw)
    first | (go_simp; done) | (go_simp; with_reducible rfl)
  (try simp only [Act.put, List.setIfInBounds_toArray, List.set_cons_zero, List.set_cons_succ])
  refine wpAnyH_take (i := 29) (oi := { dst := some 103, op := Op.load 27 (Operand.tmp 5), type := 27, pos := "laws.go:1432", after := #[{ on := 27, ground := Ground.guard }], guard := some (27, true) }) (v := ?_) rfl (by kernel_rfl) (by kernel_rfl) (by kernel_rfl) (fun _ _ _ h => h) (Or.inl ⟨by rfl, ?_⟩) (by assumption) ?_
  rotate_left
  · intro w hSw
    (try dsimp only at hSw)
    first | (go_simp; done) | (go_simp; with_reducible rfl)
  (try simp only [Act.put, List.setIfInBounds_toArray, List.set_cons_zero, List.set_cons_succ])
  refine wpAnyH_ready (rs := [30]) (by kernel_rfl) (by simp) ?_
  refine AllReadyH.cons (o := { dst := some 104, op := Op.call { callee := Callee.value (Operand.func 19), args := #[Operand.tmp 102, Operand.tmp 103], argTypes := #[27, 27] }, type := 4, pos := "laws.go:1432", after := #[{ on := 28, ground := Ground.data }, { on := 29, ground := Ground.data }, { on := 27, ground := Ground.chain }, { on := 27, ground := Ground.guard }], guard := some (27, true) }) rfl (fun K hK => ?_) AllReadyH.nil
  go_simp
  go_at_call 19
  refine (sameCart w18 w18.heap.size gva goa nva noa vs.length gvc os.length goc vs.length nvc os.length noc vs os vs os (HVG18.out.more (by omega)) (HOG18.out.more (by omega)) (HVN18.out.more (by omega)) (HON18.out.more (by omega)) (Nat.le_refl _) (by omega) (by omega) (by omega) (by omega)).mono ?_
  rintro e w19 ⟨rfl, hb⟩
  rw [decide_eq_true rfl, decide_eq_true rfl]
  have HY19 := Lib.hid (HY18.out.below hb (by omega))
  have HZ19 := Lib.hid (HZ18.out.below hb (by omega))
  have hs19 := hb.size
  have HVA19 := Lib.hid (HVA18.out.below hb (by omega))
  have HOA19 := Lib.hid (HOA18.out.below hb (by omega))
  have HB19 := Lib.hid (HB18.out.trans (hb.mono (by omega)))
  have HXa19 := Lib.hid ((hb.block _ (lt_of_row HXa18.out)).trans HXa18.out)
  have HVN19 := Lib.hid (HVN18.out.below hb (by omega))
  have HON19 := Lib.hid (HON18.out.below hb (by omega))
  have HXn19 := Lib.hid ((hb.block _ (lt_of_row HXn18.out)).trans HXn18.out)
  have HVW19 := Lib.hid (HVW18.out.below hb (by omega))
  have HOW19 := Lib.hid (HOW18.out.below hb (by omega))
  have HXw19 := Lib.hid ((hb.block _ (lt_of_row HXw18.out)).trans HXw18.out)
  have HVX19 := Lib.hid (HVX18.out.below hb (by omega))
  have HOX19 := Lib.hid (HOX18.out.below hb (by omega))
  have HXx19 := Lib.hid ((hb.block _ (lt_of_row HXx18.out)).trans HXx18.out)
  have HVG19 := Lib.hid (HVG18.out.below hb (by omega))
  have HOG19 := Lib.hid (HOG18.out.below hb (by omega))
  have HXg19 := Lib.hid ((hb.block _ (lt_of_row HXg18.out)).trans HXg18.out)
  have HVM19 := Lib.hid (HVM18.out.below hb (by omega))
  have HOM19 := Lib.hid (HOM18.out.below hb (by omega))
  have HXm19 := Lib.hid ((hb.block _ (lt_of_row HXm18.out)).trans HXm18.out)
  clear hb HVA18 HOA18 HB18 HXa18 HVN18 HON18 HXn18 HVW18 HOW18 HXw18 HVX18 HOX18 HXx18 HVG18 HOG18 HXg18 HVM18 HOM18 HXm18
  clear HY18 HZ18
  have hS12 : w19.cell? ⟨w2.heap.size, 0, none⟩ = some (.slice nva vs.length nvc) ∧ w19.cell? ⟨w2.heap.size, 1, none⟩ = some (.slice noa os.length noc) ∧ w19.cell? ⟨w0.heap.size, 0, none⟩ = some (.slice ava 4 avc) ∧ w19.cell? ⟨w0.heap.size, 1, none⟩ = some (.slice aoa l.length aoc) ∧ w19.cell? ⟨w7.heap.size, 0, none⟩ = some (.slice xva xs.length xvc) ∧ w19.cell? ⟨w7.heap.size, 1, none⟩ = some (.slice xoa l.length xoc) ∧ w19.cell? ⟨w9.heap.size, 0, none⟩ = some (.slice gva vs.length gvc) ∧ w19.cell? ⟨w9.heap.size, 1, none⟩ = some (.slice goa os.length goc) ∧ w19.cell? ⟨w11.heap.size, 0, none⟩ = some (.slice mva xs.length mvc) ∧ w19.cell? ⟨w11.heap.size, 1, none⟩ = some (.slice moa l.length moc) := ⟨(pair_cells HXn19.out).1, (pair_cells HXn19.out).2, (pair_cells HXa19.out).1, (pair_cells HXa19.out).2, (pair_cells HXx19.out).1, (pair_cells HXx19.out).2, (pair_cells HXg19.out).1, (pair_cells HXg19.out).2, (pair_cells HXm19.out).1, (pair_cells HXm19.out).2⟩
  refine hK.out _ _ hS12 (fun hHeld13 => ?_)
  clear hK K
  (try simp only [Act.put, List.setIfInBounds_toArray, List.set_cons_zero, List.set_cons_succ])
  clear hHeld13
  refine wpAnyH_take (i := 31) (oi := { dst := some 105, op := Op.pick (Operand.tmp 101) (Operand.tmp 104) (Operand.const (Value.bool false)), type := 4, pos := "laws.go:1432", after := #[{ on := 27, ground := Ground.data }, { on := 30, ground := Ground.data }], guard := none }) (v := ?_) rfl (by kernel_rfl) (by kernel_rfl) (by kernel_rfl) (fun _ _ _ h => h) (Or.inl ⟨by rfl, ?_⟩) (by assumption) ?_
  rotate_left
  · intro w hSw
    (try dsimp only at hSw)
    first | (go_simp; done) | (go_simp; with_reducible rfl)
  (try simp only [Act.put, List.setIfInBounds_toArray, List.set_cons_zero, List.set_cons_succ])
  refine wpAnyH_take (i := 32) (oi := { dst := some 106, op := Op.move (Operand.tmp 105), type := 4, pos := "laws.go:1432", after := #[{ on := 31, ground := Ground.data }, { on := 30, ground := Ground.chain }], guard := none }) (v := ?_) rfl (by kernel_rfl) (by kernel_rfl) (by kernel_rfl) (fun _ _ _ h => h) (Or.inl ⟨by rfl, ?_⟩) (by assumption) ?_
  rotate_left
  · intro w hSw
    (try dsimp only at hSw)
    first | (go_simp; done) | (go_simp; with_reducible rfl)
  (try simp only [Act.put, List.setIfInBounds_toArray, List.set_cons_zero, List.set_cons_succ])
  refine wpAnyH_take (i := 33) (oi := { dst := some 107, op := Op.move (Operand.tmp 14), type := 4, pos := "laws.go:1432", after := #[{ on := 32, ground := Ground.guard }], guard := some (32, true) }) (v := ?_) rfl (by kernel_rfl) (by kernel_rfl) (by kernel_rfl) (fun _ _ _ h => h) (Or.inl ⟨by rfl, ?_⟩) (by assumption) ?_
  rotate_left
  · intro w hSw
    (try dsimp only at hSw)
    first | (go_simp; done) | (go_simp; with_reducible rfl)
  (try simp only [Act.put, List.setIfInBounds_toArray, List.set_cons_zero, List.set_cons_succ])
  refine wpAnyH_take (i := 34) (oi := { dst := some 108, op := Op.pick (Operand.tmp 106) (Operand.tmp 107) (Operand.const (Value.bool false)), type := 4, pos := "laws.go:1432", after := #[{ on := 32, ground := Ground.data }, { on := 33, ground := Ground.data }], guard := none }) (v := ?_) rfl (by kernel_rfl) (by kernel_rfl) (by kernel_rfl) (fun _ _ _ h => h) (Or.inl ⟨by rfl, ?_⟩) (by assumption) ?_
  rotate_left
  · intro w hSw
    (try dsimp only at hSw)
    first | (go_simp; done) | (go_simp; with_reducible rfl)
  (try simp only [Act.put, List.setIfInBounds_toArray, List.set_cons_zero, List.set_cons_succ])
  refine wpAnyH_take (i := 35) (oi := { dst := some 109, op := Op.move (Operand.tmp 108), type := 4, pos := "laws.go:1432", after := #[{ on := 34, ground := Ground.data }, { on := 32, ground := Ground.chain }], guard := none }) (v := ?_) rfl (by kernel_rfl) (by kernel_rfl) (by kernel_rfl) (fun _ _ _ h => h) (Or.inl ⟨by rfl, ?_⟩) (by assumption) ?_
  rotate_left
  · intro w hSw
    (try dsimp only at hSw)
    first | (go_simp; done) | (go_simp; with_reducible rfl)
  (try simp only [Act.put, List.setIfInBounds_toArray, List.set_cons_zero, List.set_cons_succ])
  refine wpAnyH_take (i := 36) (oi := { dst := some 110, op := Op.load 27 (Operand.tmp 13), type := 27, pos := "laws.go:1432", after := #[{ on := 35, ground := Ground.guard }], guard := some (35, true) }) (v := ?_) rfl (by kernel_rfl) (by kernel_rfl) (by kernel_rfl) (fun _ _ _ h => h) (Or.inl ⟨by rfl, ?_⟩) (by assumption) ?_
  rotate_left
  · intro w hSw
    (try dsimp only at hSw)
    first | (go_simp; done) | (go_simp; with_reducible rfl)
  (try simp only [Act.put, List.setIfInBounds_toArray, List.set_cons_zero, List.set_cons_succ])
  refine wpAnyH_take (i := 37) (oi := { dst := some 111, op := Op.load 27 (Operand.tmp 3), type := 27, pos := "laws.go:1432", after := #[{ on := 35, ground := Ground.guard }], guard := some (35, true) }) (v := ?_) rfl (by kernel_rfl) (by kernel_rfl) (by kernel_rfl) (fun _ _ _ h => h) (Or.inl ⟨by rfl, ?_⟩) (by assumption) ?_
  rotate_left
  · intro w hSw
    (try dsimp only at hSw)
    first | (go_simp; done) | (go_simp; with_reducible rfl)
  (try simp only [Act.put, List.setIfInBounds_toArray, List.set_cons_zero, List.set_cons_succ])
  refine wpAnyH_ready (rs := [38]) (by kernel_rfl) (by simp) ?_
  refine AllReadyH.cons (o := { dst := some 112, op := Op.call { callee := Callee.value (Operand.func 19), args := #[Operand.tmp 110, Operand.tmp 111], argTypes := #[27, 27] }, type := 4, pos := "laws.go:1432", after := #[{ on := 36, ground := Ground.data }, { on := 37, ground := Ground.data }, { on := 35, ground := Ground.chain }, { on := 35, ground := Ground.guard }], guard := some (35, true) }) rfl (fun K hK => ?_) AllReadyH.nil
  go_simp
  go_at_call 19
  refine (sameCart w19 w19.heap.size mva moa ava aoa xs.length mvc l.length moc 4 avc l.length aoc xs l xs l (HVM19.out.more (by omega)) (HOM19.out.more (by omega)) (HVA19.out.more (by omega)) (HOA19.out.more (by omega)) (Nat.le_refl _) (by omega) (by omega) (by omega) (by omega)).mono ?_
  rintro e w20 ⟨rfl, hb⟩
  rw [decide_eq_true rfl, decide_eq_true rfl]
  have HY20 := Lib.hid (HY19.out.below hb (by omega))
  have HZ20 := Lib.hid (HZ19.out.below hb (by omega))
  have hs20 := hb.size
  have HVA20 := Lib.hid (HVA19.out.below hb (by omega))
  have HOA20 := Lib.hid (HOA19.out.below hb (by omega))
  have HB20 := Lib.hid (HB19.out.trans (hb.mono (by omega)))
  have HXa20 := Lib.hid ((hb.block _ (lt_of_row HXa19.out)).trans HXa19.out)
  have HVN20 := Lib.hid (HVN19.out.below hb (by omega))
  have HON20 := Lib.hid (HON19.out.below hb (by omega))
  have HXn20 := Lib.hid ((hb.block _ (lt_of_row HXn19.out)).trans HXn19.out)
  have HVW20 := Lib.hid (HVW19.out.below hb (by omega))
  have HOW20 := Lib.hid (HOW19.out.below hb (by omega))
  have HXw20 := Lib.hid ((hb.block _ (lt_of_row HXw19.out)).trans HXw19.out)
  have HVX20 := Lib.hid (HVX19.out.below hb (by omega))
  have HOX20 := Lib.hid (HOX19.out.below hb (by omega))
  have HXx20 := Lib.hid ((hb.block _ (lt_of_row HXx19.out)).trans HXx19.out)
  have HVG20 := Lib.hid (HVG19.out.below hb (by omega))
  have HOG20 := Lib.hid (HOG19.out.below hb (by omega))
  have HXg20 := Lib.hid ((hb.block _ (lt_of_row HXg19.out)).trans HXg19.out)
  have HVM20 := Lib.hid (HVM19.out.below hb (by omega))
  have HOM20 := Lib.hid (HOM19.out.below hb (by omega))
  have HXm20 := Lib.hid ((hb.block _ (lt_of_row HXm19.out)).trans HXm19.out)
  clear hb HVA19 HOA19 HB19 HXa19 HVN19 HON19 HXn19 HVW19 HOW19 HXw19 HVX19 HOX19 HXx19 HVG19 HOG19 HXg19 HVM19 HOM19 HXm19
  clear HY19 HZ19
  have hS14 : w20.cell? ⟨w2.heap.size, 0, none⟩ = some (.slice nva vs.length nvc) ∧ w20.cell? ⟨w2.heap.size, 1, none⟩ = some (.slice noa os.length noc) ∧ w20.cell? ⟨w0.heap.size, 0, none⟩ = some (.slice ava 4 avc) ∧ w20.cell? ⟨w0.heap.size, 1, none⟩ = some (.slice aoa l.length aoc) ∧ w20.cell? ⟨w7.heap.size, 0, none⟩ = some (.slice xva xs.length xvc) ∧ w20.cell? ⟨w7.heap.size, 1, none⟩ = some (.slice xoa l.length xoc) ∧ w20.cell? ⟨w9.heap.size, 0, none⟩ = some (.slice gva vs.length gvc) ∧ w20.cell? ⟨w9.heap.size, 1, none⟩ = some (.slice goa os.length goc) ∧ w20.cell? ⟨w11.heap.size, 0, none⟩ = some (.slice mva xs.length mvc) ∧ w20.cell? ⟨w11.heap.size, 1, none⟩ = some (.slice moa l.length moc) := ⟨(pair_cells HXn20.out).1, (pair_cells HXn20.out).2, (pair_cells HXa20.out).1, (pair_cells HXa20.out).2, (pair_cells HXx20.out).1, (pair_cells HXx20.out).2, (pair_cells HXg20.out).1, (pair_cells HXg20.out).2, (pair_cells HXm20.out).1, (pair_cells HXm20.out).2⟩
  refine hK.out _ _ hS14 (fun hHeld15 => ?_)
  clear hK K
  (try simp only [Act.put, List.setIfInBounds_toArray, List.set_cons_zero, List.set_cons_succ])
  clear hHeld15
  refine wpAnyH_take (i := 39) (oi := { dst := some 113, op := Op.pick (Operand.tmp 109) (Operand.tmp 112) (Operand.const (Value.bool false)), type := 4, pos := "laws.go:1432", after := #[{ on := 35, ground := Ground.data }, { on := 38, ground := Ground.data }], guard := none }) (v := ?_) rfl (by kernel_rfl) (by kernel_rfl) (by kernel_rfl) (fun _ _ _ h => h) (Or.inl ⟨by rfl, ?_⟩) (by assumption) ?_
  rotate_left
  · intro w hSw
    (try dsimp only at hSw)
    first | (go_simp; done) | (go_simp; with_reducible rfl)
  (try simp only [Act.put, List.setIfInBounds_toArray, List.set_cons_zero, List.set_cons_succ])
  refine wpAnyH_take (i := 40) (oi := { dst := some 2, op := Op.assign (Operand.tmp 113), type := 4, pos := "laws.go:1432", after := #[{ on := 39, ground := Ground.data }, { on := 38, ground := Ground.chain }, { on := 0, ground := Ground.phase }, { on := 1, ground := Ground.phase }, { on := 2, ground := Ground.phase }, { on := 3, ground := Ground.phase }, { on := 4, ground := Ground.phase }, { on := 5, ground := Ground.phase }, { on := 6, ground := Ground.phase }, { on := 7, ground := Ground.phase }, { on := 8, ground := Ground.phase }, { on := 9, ground := Ground.phase }, { on := 10, ground := Ground.phase }, { on := 11, ground := Ground.phase }, { on := 12, ground := Ground.phase }, { on := 13, ground := Ground.phase }, { on := 14, ground := Ground.phase }, { on := 15, ground := Ground.phase }, { on := 16, ground := Ground.phase }, { on := 17, ground := Ground.phase }, { on := 18, ground := Ground.phase }, { on := 19, ground := Ground.phase }, { on := 20, ground := Ground.phase }, { on := 21, ground := Ground.phase }, { on := 22, ground := Ground.phase }, { on := 23, ground := Ground.phase }, { on := 24, ground := Ground.phase }, { on := 25, ground := Ground.phase }, { on := 26, ground := Ground.phase }, { on := 27, ground := Ground.phase }, { on := 28, ground := Ground.phase }, { on := 29, ground := Ground.phase }, { on := 30, ground := Ground.phase }, { on := 31, ground := Ground.phase }, { on := 32, ground := Ground.phase }, { on := 33, ground := Ground.phase }, { on := 34, ground := Ground.phase }, { on := 35, ground := Ground.phase }, { on := 36, ground := Ground.phase }, { on := 37, ground := Ground.phase }, { on := 38, ground := Ground.phase }, { on := 39, ground := Ground.phase }], guard := none }) (v := ?_) rfl (by kernel_rfl) (by kernel_rfl) (by kernel_rfl) (fun _ _ _ h => h) (Or.inl ⟨by rfl, ?_⟩) (by assumption) ?_
  rotate_left
  · intro w hSw
    (try dsimp only at hSw)
    first | (go_simp; done) | (go_simp; with_reducible rfl)
  (try simp only [Act.put, List.setIfInBounds_toArray, List.set_cons_zero, List.set_cons_succ])
  refine wpAnyH_done (by kernel_rfl) ?_ _
  go_wp2
  go_ret
  exact ⟨rfl, HB20.out⟩
end Go.Proofs.Ythfkoplljinmmaa
