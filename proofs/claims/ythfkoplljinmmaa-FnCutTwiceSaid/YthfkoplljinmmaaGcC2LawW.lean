/- The walk of the law FnCutTwice. -/
import Derived.Test.YthfkoplljinmmaaGc34
import Derived.Test.YthfkoplljinmmaaGc26
import Derived.Test.YthfkoplljinmmaaGcCuLawW
import Derived.Test.YthfkoplljinmmaaGc23
import Derived.Deep.Cut
namespace Go.Proofs.Ythfkoplljinmmaa
open Go.RowKit
set_option linter.unusedVariables false
set_option linter.unusedSimpArgs false

set_option maxRecDepth 100000 in
set_option maxHeartbeats 16000000 in
theorem fnCutTwiceWalk (a : Option Addr) (len cap : Nat) (zs : List Int) (w : World) (h : IsRow .u8 w a len cap zs) :
    Calls Try.prog 13 #[.slice a len cap] w fun e w' => e = .returned (.bool true) ∧ Below w.heap.size w w' := by
  by_cases hbig : len ≤ 1048576
  rotate_left
  · go_enter Try.func13, Try.ntmps13
    go_wp2_with fail
    refine (bigYes a len cap hbig w).mono ?_
    rintro e w' ⟨rfl, rfl⟩
    go_wp2
    go_ret
    exact ⟨rfl, Below.refl _ _⟩
  have hsrc := Lib.hid (src_of_row h hbig)
  clear h
  go_enter Try.func13, Try.ntmps13
  go_wp2_with fail
  refine (bigNo a len cap hbig w).mono ?_
  rintro e w' ⟨rfl, rfl⟩
  go_wp2_with fail
  refine (drawCut w w.heap.size a len cap (Nat.le_refl _) hsrc.out).mono ?_
  rintro e w0 ⟨⟨ava, avc, aoa, ano, aoc⟩, bv, nb, bc, ys, hn4, rfl, hx, hy, hb0⟩
  obtain ⟨xs, l, e1, a1, a2, a3, a4, a5, a6⟩ := hx
  have e1 : ano = l.length := e1
  subst e1
  have HVA0 := Lib.hid a1.ints
  have HOA0 := Lib.hid a2.ops
  have HY0 := Lib.hid hy
  have HB0 := Lib.hid hb0
  have HCa := Lib.hid a4
  have HIa : Hid (∀ i, i < l.length → (atOp l i).item.size ≤ 1048576) := fun i hi => Nat.le_trans (a5 i hi) (by omega)
  have hs0 := hb0.size
  clear a1 a2 a3 a4 a5 hb0 hy
  dsimp only
  go_upto_region 4 with fail
  have hb : Below w0.heap.size w0 (w0.alloc (.cells #[.slice ava 4 avc, .slice aoa l.length aoc] 27)) := (Below.refl _ _).alloc (Nat.le_refl _) _
  have HXa1 := Lib.hid (boxAt (Below.refl _ (w0.alloc (.cells #[.slice ava 4 avc, .slice aoa l.length aoc] 27))))
  generalize w0.alloc (.cells #[.slice ava 4 avc, .slice aoa l.length aoc] 27) = w1 at hb HXa1 ⊢
  have HY1 := Lib.hid (HY0.out.below hb (by omega))
  have hs1 := hb.size
  have HVA1 := Lib.hid (HVA0.out.below hb (by omega))
  have HOA1 := Lib.hid (HOA0.out.below hb (by omega))
  have HB1 := Lib.hid (HB0.out.trans (hb.mono (by omega)))
  clear hb HVA0 HOA0 HB0
  clear HY0
  obtain ⟨R, hR⟩ : ∃ R, cutB xs l ys = R := ⟨_, rfl⟩
  have HR := Lib.hid hR
  obtain ⟨vs, hvs⟩ : ∃ vs, cutVs xs ys R = vs := ⟨_, rfl⟩
  obtain ⟨os, hos⟩ : ∃ os, cutOs l ys R = os := ⟨_, rfl⟩
  have HVs := Lib.hid hvs
  have HOs := Lib.hid hos
  have hlv : vs.length ≤ 4 := by rw [← hvs]; exact cutVs_len xs ys hR
  have hlo : os.length ≤ 400 := by rw [← hos]; exact cutOs_len a6 R
  clear hR hvs hos
  go_wp2_with fail
  refine (drawVecMin w1 w.heap.size a len cap (by have := HB1.out.size; omega) (src_below hsrc.out HB1.out)).mono ?_
  rintro e w2 ⟨qv, nq, qc, qs, rv, nr, rc, rs, hq4, hr4, rfl, hq, _, hb⟩
  dsimp only
  have HY2 := Lib.hid (HY1.out.below hb (by omega))
  have hs2 := hb.size
  have HVA2 := Lib.hid (HVA1.out.below hb (by omega))
  have HOA2 := Lib.hid (HOA1.out.below hb (by omega))
  have HB2 := Lib.hid (HB1.out.trans (hb.mono (by omega)))
  have HXa2 := Lib.hid ((hb.block _ (lt_of_row HXa1.out)).trans HXa1.out)
  clear hb HVA1 HOA1 HB1 HXa1
  clear HY1
  have HQ2 := Lib.hid hq
  clear hq
  obtain ⟨c00, c01⟩ := pair_cells HXa2.out
  go_wp2_with fail
  have hc := implCut w2 w2.heap.size ava aoa bv 4 avc l.length aoc nb bc xs l ys (HVA2.out.more (by omega)) (HOA2.out.more (by omega)) (HY2.out.more (by omega)) (Nat.le_refl _) (by omega) HCa.out.1 ⟨by omega, HCa.out.2.1⟩ HIa.out (by omega)
  rw [HR.out, HVs.out, HOs.out] at hc
  refine hc.mono ?_
  clear hc
  rintro e w3 ⟨nva, nvc, noa, noc, mid, rfl, hov, hop, hm1, hm2, hb, hcn⟩
  clear c00 c01
  have HCn := Lib.hid hcn
  have hov := hov.more (Nat.le_refl _) hm2
  clear hcn hm1 hm2
  have HY3 := Lib.hid (HY2.out.below hb (by omega))
  have HQ3 := Lib.hid (HQ2.out.below hb (by omega))
  have hs3 := hb.size
  have HVA3 := Lib.hid (HVA2.out.below hb (by omega))
  have HOA3 := Lib.hid (HOA2.out.below hb (by omega))
  have HB3 := Lib.hid (HB2.out.trans (hb.mono (by omega)))
  have HXa3 := Lib.hid ((hb.block _ (lt_of_row HXa2.out)).trans HXa2.out)
  clear hb HVA2 HOA2 HB2 HXa2
  clear HY2 HQ2
  have HVN3 := Lib.hid hov.ints
  have HON3 := Lib.hid hop.ops
  clear hov hop
  go_upto_region 6 with fail
  have hb : Below w3.heap.size w3 (w3.alloc (.cells #[.slice nva vs.length nvc, .slice noa os.length noc] 27)) := (Below.refl _ _).alloc (Nat.le_refl _) _
  have HXn4 := Lib.hid (boxAt (Below.refl _ (w3.alloc (.cells #[.slice nva vs.length nvc, .slice noa os.length noc] 27))))
  generalize w3.alloc (.cells #[.slice nva vs.length nvc, .slice noa os.length noc] 27) = w4 at hb HXn4 ⊢
  have HY4 := Lib.hid (HY3.out.below hb (by omega))
  have HQ4 := Lib.hid (HQ3.out.below hb (by omega))
  have hs4 := hb.size
  have HVA4 := Lib.hid (HVA3.out.below hb (by omega))
  have HOA4 := Lib.hid (HOA3.out.below hb (by omega))
  have HB4 := Lib.hid (HB3.out.trans (hb.mono (by omega)))
  have HXa4 := Lib.hid ((hb.block _ (lt_of_row HXa3.out)).trans HXa3.out)
  have HVN4 := Lib.hid (HVN3.out.below hb (by omega))
  have HON4 := Lib.hid (HON3.out.below hb (by omega))
  clear hb HVA3 HOA3 HB3 HXa3 HVN3 HON3
  clear HY3 HQ3
  obtain ⟨c00, c01⟩ := pair_cells HXa4.out
  go_wp2_with fail
  have hc := specCut w4 w4.heap.size ava aoa bv 4 avc l.length aoc nb bc xs l ys (HVA4.out.more (by omega)) (HOA4.out.more (by omega)) (HY4.out.more (by omega)) (Nat.le_refl _) (by omega) (by omega) HIa.out (by omega)
  rw [HR.out] at hc
  refine hc.mono ?_
  clear hc
  rintro e w5 ⟨wva, wvc, woa, woc, rfl, _, _, hb⟩
  clear c00 c01
  have HY5 := Lib.hid (HY4.out.below hb (by omega))
  have HQ5 := Lib.hid (HQ4.out.below hb (by omega))
  have hs5 := hb.size
  have HVA5 := Lib.hid (HVA4.out.below hb (by omega))
  have HOA5 := Lib.hid (HOA4.out.below hb (by omega))
  have HB5 := Lib.hid (HB4.out.trans (hb.mono (by omega)))
  have HXa5 := Lib.hid ((hb.block _ (lt_of_row HXa4.out)).trans HXa4.out)
  have HVN5 := Lib.hid (HVN4.out.below hb (by omega))
  have HON5 := Lib.hid (HON4.out.below hb (by omega))
  have HXn5 := Lib.hid ((hb.block _ (lt_of_row HXn4.out)).trans HXn4.out)
  clear hb HVA4 HOA4 HB4 HXa4 HVN4 HON4 HXn4
  clear HY4 HQ4
  generalize cutVs xs ys R = ws
  generalize cutOs l ys R = wo
  go_upto_region 7 with fail
  have hb : Below w5.heap.size w5 (w5.alloc (.cells #[.slice wva ws.length wvc, .slice woa wo.length woc] 27)) := (Below.refl _ _).alloc (Nat.le_refl _) _
  have HXw6 := Lib.hid (boxAt (Below.refl _ (w5.alloc (.cells #[.slice wva ws.length wvc, .slice woa wo.length woc] 27))))
  generalize w5.alloc (.cells #[.slice wva ws.length wvc, .slice woa wo.length woc] 27) = w6 at hb HXw6 ⊢
  have HY6 := Lib.hid (HY5.out.below hb (by omega))
  have HQ6 := Lib.hid (HQ5.out.below hb (by omega))
  have hs6 := hb.size
  have HVA6 := Lib.hid (HVA5.out.below hb (by omega))
  have HOA6 := Lib.hid (HOA5.out.below hb (by omega))
  have HB6 := Lib.hid (HB5.out.trans (hb.mono (by omega)))
  have HXa6 := Lib.hid ((hb.block _ (lt_of_row HXa5.out)).trans HXa5.out)
  have HVN6 := Lib.hid (HVN5.out.below hb (by omega))
  have HON6 := Lib.hid (HON5.out.below hb (by omega))
  have HXn6 := Lib.hid ((hb.block _ (lt_of_row HXn5.out)).trans HXn5.out)
  clear hb HVA5 HOA5 HB5 HXa5 HVN5 HON5 HXn5
  clear HY5 HQ5
  cases R
  · go_wp2
    go_ret
    exact ⟨rfl, HB6.out⟩
  obtain ⟨cq, hcq⟩ : ∃ b, vecOk qs = b := ⟨_, rfl⟩
  have HCq := Lib.hid hcq
  go_wp2_with fail
  refine (specVecOk w6 w6.heap.size qv nq qc qs (HQ6.out.more (by omega)) (by omega)).mono ?_
  rintro e w7 ⟨rfl, rfl⟩
  rw [hcq]
  clear hcq
  cases cq
  · go_wp2
    go_ret
    exact ⟨rfl, HB6.out⟩
  obtain ⟨hca, hyo⟩ := cutB_parts HR.out
  have hqo : vecOk qs = true := HCq.out
  have evs : zipI min xs ys = vs := HVs.out
  have eos : l.filter (cutP ys) = os := HOs.out
  have hcc := cart_cut hca hyo
  obtain ⟨vg, hvg⟩ : ∃ vg, zipI min vs qs = vg := ⟨_, rfl⟩
  obtain ⟨og, hog⟩ : ∃ og, os.filter (cutP qs) = og := ⟨_, rfl⟩
  obtain ⟨zq, hzq⟩ : ∃ zq, zipI min ys qs = zq := ⟨_, rfl⟩
  obtain ⟨vm, hvm⟩ : ∃ vm, zipI min xs qs = vm := ⟨_, rfl⟩
  obtain ⟨om, hom⟩ : ∃ om, l.filter (cutP qs) = om := ⟨_, rfl⟩
  have vx := (cart_true hca).1
  have k1 := cut_twoV vx hyo hqo
  have k2 := cut_two hca hyo hqo
  have k3 := cut_twoV vx hqo hyo
  have k4 := cut_two hca hqo hyo
  rw [zip_comm hqo hyo] at k3 k4
  rw [evs, hvg, hzq] at k1
  rw [eos, hog, hzq] at k2
  rw [hvm, hzq, ← k1] at k3
  rw [hom, hzq, ← k2] at k4
  rw [evs, eos] at hcc
  have kg := cart_cut hcc hqo
  have km := cart_cut hca hqo
  rw [hvg, hog] at kg
  rw [hvm, hom] at km
  have zok : vecOk zq = true := by rw [← hzq]; exact zip_ok hyo hqo
  have HB2' : Hid (cutB vs os qs = true) := cut_yes hcc hqo
  have HV2' : Hid (cutVs vs qs true = vg) := hvg
  have HO2' : Hid (cutOs os qs true = og) := hog
  have HZz : Hid (vecZip min ys qs = zq) := (vecZip_yes (by rw [hyo, hqo]; rfl)).trans hzq
  have HB3' : Hid (cutB xs l zq = true) := cut_yes hca zok
  have HV3' : Hid (cutVs xs zq true = vg) := k1.symm
  have HO3' : Hid (cutOs l zq true = og) := k2.symm
  have HB4' : Hid (cutB xs l qs = true) := cut_yes hca hqo
  have HV4' : Hid (cutVs xs qs true = vm) := hvm
  have HO4' : Hid (cutOs l qs true = om) := hom
  have HB5' : Hid (cutB vm om ys = true) := cut_yes km hyo
  have HV5' : Hid (cutVs vm ys true = vg) := k3
  have HO5' : Hid (cutOs om ys true = og) := k4
  have HIn := Lib.hid (items_ok hcc)
  have HIm := Lib.hid (items_ok km)
  have lg : vg.length ≤ 4 := Nat.le_of_eq (cart_vecs kg).1
  have lm : vm.length ≤ 4 := Nat.le_of_eq (cart_vecs km).1
  have lz : zq.length ≤ 4 := by rw [← hzq]; exact Nat.le_of_eq (zip_len hyo hqo)
  have log : og.length ≤ 400 := by rw [← hog]; exact Nat.le_trans (List.length_filter_le _ _) hlo
  have lom : om.length ≤ 400 := by rw [← hom]; exact Nat.le_trans (List.length_filter_le _ _) a6
  clear hca hyo hqo evs eos hcc hvg hog hzq hvm hom vx k1 k2 k3 k4 kg km zok
  obtain ⟨c00, c01⟩ := pair_cells HXn6.out
  go_wp2_with fail
  have hc := implCut w6 w6.heap.size nva noa qv vs.length nvc os.length noc nq qc vs os qs (HVN6.out.more (by omega)) (HON6.out.more (by omega)) (HQ6.out.more (by omega)) (Nat.le_refl _) (by omega) HCn.out.1 ⟨by omega, HCn.out.2.1⟩ HIn.out (by omega)
  rw [HB2'.out, HV2'.out, HO2'.out] at hc
  refine hc.mono ?_
  clear hc
  rintro e w7 ⟨gva, gvc, goa, goc, mid, rfl, hov, hop, hm1, hm2, hb, hcn⟩
  clear c00 c01
  have HCg := Lib.hid hcn
  have hov := hov.more (Nat.le_refl _) hm2
  clear hcn hm1 hm2
  have HY7 := Lib.hid (HY6.out.below hb (by omega))
  have HQ7 := Lib.hid (HQ6.out.below hb (by omega))
  have hs7 := hb.size
  have HVA7 := Lib.hid (HVA6.out.below hb (by omega))
  have HOA7 := Lib.hid (HOA6.out.below hb (by omega))
  have HB7 := Lib.hid (HB6.out.trans (hb.mono (by omega)))
  have HXa7 := Lib.hid ((hb.block _ (lt_of_row HXa6.out)).trans HXa6.out)
  have HVN7 := Lib.hid (HVN6.out.below hb (by omega))
  have HON7 := Lib.hid (HON6.out.below hb (by omega))
  have HXn7 := Lib.hid ((hb.block _ (lt_of_row HXn6.out)).trans HXn6.out)
  have HXw7 := Lib.hid ((hb.block _ (lt_of_row HXw6.out)).trans HXw6.out)
  clear hb HVA6 HOA6 HB6 HXa6 HVN6 HON6 HXn6 HXw6
  clear HY6 HQ6
  have HVG7 := Lib.hid hov.ints
  have HOG7 := Lib.hid hop.ops
  clear hov hop
  go_upto_region 10 with fail
  have hb : Below w7.heap.size w7 (w7.alloc (.cells #[.slice gva vg.length gvc, .slice goa og.length goc] 27)) := (Below.refl _ _).alloc (Nat.le_refl _) _
  have HXg8 := Lib.hid (boxAt (Below.refl _ (w7.alloc (.cells #[.slice gva vg.length gvc, .slice goa og.length goc] 27))))
  generalize w7.alloc (.cells #[.slice gva vg.length gvc, .slice goa og.length goc] 27) = w8 at hb HXg8 ⊢
  have HY8 := Lib.hid (HY7.out.below hb (by omega))
  have HQ8 := Lib.hid (HQ7.out.below hb (by omega))
  have hs8 := hb.size
  have HVA8 := Lib.hid (HVA7.out.below hb (by omega))
  have HOA8 := Lib.hid (HOA7.out.below hb (by omega))
  have HB8 := Lib.hid (HB7.out.trans (hb.mono (by omega)))
  have HXa8 := Lib.hid ((hb.block _ (lt_of_row HXa7.out)).trans HXa7.out)
  have HVN8 := Lib.hid (HVN7.out.below hb (by omega))
  have HON8 := Lib.hid (HON7.out.below hb (by omega))
  have HXn8 := Lib.hid ((hb.block _ (lt_of_row HXn7.out)).trans HXn7.out)
  have HXw8 := Lib.hid ((hb.block _ (lt_of_row HXw7.out)).trans HXw7.out)
  have HVG8 := Lib.hid (HVG7.out.below hb (by omega))
  have HOG8 := Lib.hid (HOG7.out.below hb (by omega))
  clear hb HVA7 HOA7 HB7 HXa7 HVN7 HON7 HXn7 HXw7 HVG7 HOG7
  clear HY7 HQ7
  go_wp2_with fail
  obtain ⟨w9, hzw⟩ : ∃ z, w8.drew = z := ⟨_, rfl⟩
  have hb : Below w8.heap.size w8 w9 := by rw [← hzw]; exact ⟨rfl, rfl, rfl, Nat.le_refl _, fun _ _ => rfl⟩
  have HY9 := Lib.hid (HY8.out.below hb (by omega))
  have HQ9 := Lib.hid (HQ8.out.below hb (by omega))
  have hs9 := hb.size
  have HVA9 := Lib.hid (HVA8.out.below hb (by omega))
  have HOA9 := Lib.hid (HOA8.out.below hb (by omega))
  have HB9 := Lib.hid (HB8.out.trans (hb.mono (by omega)))
  have HXa9 := Lib.hid ((hb.block _ (lt_of_row HXa8.out)).trans HXa8.out)
  have HVN9 := Lib.hid (HVN8.out.below hb (by omega))
  have HON9 := Lib.hid (HON8.out.below hb (by omega))
  have HXn9 := Lib.hid ((hb.block _ (lt_of_row HXn8.out)).trans HXn8.out)
  have HXw9 := Lib.hid ((hb.block _ (lt_of_row HXw8.out)).trans HXw8.out)
  have HVG9 := Lib.hid (HVG8.out.below hb (by omega))
  have HOG9 := Lib.hid (HOG8.out.below hb (by omega))
  have HXg9 := Lib.hid ((hb.block _ (lt_of_row HXg8.out)).trans HXg8.out)
  clear hb HVA8 HOA8 HB8 HXa8 HVN8 HON8 HXn8 HXw8 HVG8 HOG8 HXg8
  clear HY8 HQ8
  have hS : w9.cell? ⟨w0.heap.size, 0, none⟩ = some (.slice ava 4 avc) ∧ w9.cell? ⟨w0.heap.size, 1, none⟩ = some (.slice aoa l.length aoc) := ⟨(pair_cells HXa9.out).1, (pair_cells HXa9.out).2⟩
  refine wp_region_held_drew (S := fun w' => w'.cell? ⟨w0.heap.size, 0, none⟩ = some (.slice ava 4 avc) ∧ w'.cell? ⟨w0.heap.size, 1, none⟩ = some (.slice aoa l.length aoc)) (by kernel_rfl) (by rw [hzw]; exact hS) (fun hHeld => ?_)
  rw [hzw]
  clear hHeld hzw
  refine wpAnyH_take (i := 0) (oi := { dst := some 65, op := Op.load 27 (Operand.tmp 3), type := 27, pos := "laws.go:1448", after := #[], guard := none }) (v := ?_) rfl (by kernel_rfl) (by kernel_rfl) (by kernel_rfl) (fun _ _ _ h => h) (Or.inl ⟨by rfl, ?_⟩) (by assumption) ?_
  rotate_left
  · intro w hSw
    (try dsimp only at hSw)
    first | (go_simp; done) | (go_simp; with_reducible rfl)
  (try simp only [Act.put, List.setIfInBounds_toArray, List.set_cons_zero, List.set_cons_succ])
  refine wpAnyH_take (i := 1) (oi := { dst := some 66, op := Op.move (Operand.tmp 4), type := 24, pos := "laws.go:1448", after := #[], guard := none }) (v := ?_) rfl (by kernel_rfl) (by kernel_rfl) (by kernel_rfl) (fun _ _ _ h => h) (Or.inl ⟨by rfl, ?_⟩) (by assumption) ?_
  rotate_left
  · intro w hSw
    (try dsimp only at hSw)
    first | (go_simp; done) | (go_simp; with_reducible rfl)
  (try simp only [Act.put, List.setIfInBounds_toArray, List.set_cons_zero, List.set_cons_succ])
  refine wpAnyH_take (i := 2) (oi := { dst := some 67, op := Op.move (Operand.tmp 5), type := 24, pos := "laws.go:1448", after := #[], guard := none }) (v := ?_) rfl (by kernel_rfl) (by kernel_rfl) (by kernel_rfl) (fun _ _ _ h => h) (Or.inl ⟨by rfl, ?_⟩) (by assumption) ?_
  rotate_left
  · intro w hSw
    (try dsimp only at hSw)
    first | (go_simp; done) | (go_simp; with_reducible rfl)
  (try simp only [Act.put, List.setIfInBounds_toArray, List.set_cons_zero, List.set_cons_succ])
  have hqa := lt_of_row HXa9.out
  have hqg := lt_of_row HXg9.out
  have hal : Below w9.heap.size w9 (w9.alloc (.cells #[.slice none 0 0, .slice none 0 0] 27)) := (Below.refl _ _).alloc (Nat.le_refl _) _
  have hSal : (w9.alloc (.cells #[.slice none 0 0, .slice none 0 0] 27)).cell? ⟨w0.heap.size, 0, none⟩ = some (.slice ava 4 avc) ∧ (w9.alloc (.cells #[.slice none 0 0, .slice none 0 0] 27)).cell? ⟨w0.heap.size, 1, none⟩ = some (.slice aoa l.length aoc) := ⟨(pair_cells ((hal.block _ (lt_of_row HXa9.out)).trans HXa9.out)).1, (pair_cells ((hal.block _ (lt_of_row HXa9.out)).trans HXa9.out)).2⟩
  refine wpAnyH_ready (rs := [3, 8]) (by kernel_rfl) (by simp) ?_
  refine AllReadyH.cons (o := { dst := some 68, op := Op.call { callee := Callee.value (Operand.func 49), args := #[Operand.tmp 66, Operand.tmp 67], argTypes := #[24, 24] }, type := 24, pos := "laws.go:1448", after := #[{ on := 1, ground := Ground.data }, { on := 2, ground := Ground.data }], guard := none }) rfl (fun K hK => ?_) (AllReadyH.cons (o := { dst := some 13, op := Op.alloc 27, type := 0, pos := "laws.go:1448", after := #[], guard := none }) rfl (fun K hK => ?_) (AllReadyH.nil))
  all_goals go_simp
  · skip
    clear hal hSal
    go_at_call 49
    refine (implMin w9 w9.heap.size bv qv nb bc nq qc ys qs (HY9.out.more (by omega)) (HQ9.out.more (by omega)) (Nat.le_refl _) (by omega) (by omega)).mono ?_
    rintro e w10 ⟨zva, zvc, rfl, hov, hb⟩
    rw [HZz.out] at hov ⊢
    have HY10 := Lib.hid (HY9.out.below hb (by omega))
    have HQ10 := Lib.hid (HQ9.out.below hb (by omega))
    have hs10 := hb.size
    have HVA10 := Lib.hid (HVA9.out.below hb (by omega))
    have HOA10 := Lib.hid (HOA9.out.below hb (by omega))
    have HB10 := Lib.hid (HB9.out.trans (hb.mono (by omega)))
    have HXa10 := Lib.hid ((hb.block _ (lt_of_row HXa9.out)).trans HXa9.out)
    have HVN10 := Lib.hid (HVN9.out.below hb (by omega))
    have HON10 := Lib.hid (HON9.out.below hb (by omega))
    have HXn10 := Lib.hid ((hb.block _ (lt_of_row HXn9.out)).trans HXn9.out)
    have HXw10 := Lib.hid ((hb.block _ (lt_of_row HXw9.out)).trans HXw9.out)
    have HVG10 := Lib.hid (HVG9.out.below hb (by omega))
    have HOG10 := Lib.hid (HOG9.out.below hb (by omega))
    have HXg10 := Lib.hid ((hb.block _ (lt_of_row HXg9.out)).trans HXg9.out)
    clear hb HVA9 HOA9 HB9 HXa9 HVN9 HON9 HXn9 HXw9 HVG9 HOG9 HXg9
    clear HY9 HQ9
    have HZ10 := Lib.hid hov.ints
    clear hov
    have hS10 : w10.cell? ⟨w0.heap.size, 0, none⟩ = some (.slice ava 4 avc) ∧ w10.cell? ⟨w0.heap.size, 1, none⟩ = some (.slice aoa l.length aoc) := ⟨(pair_cells HXa10.out).1, (pair_cells HXa10.out).2⟩
    refine hK.out _ _ hS10 (fun hHeld => ?_)
    clear hK K hHeld
    (try simp only [Act.put, List.setIfInBounds_toArray, List.set_cons_zero, List.set_cons_succ])
    have hal : Below w10.heap.size w10 (w10.alloc (.cells #[.slice none 0 0, .slice none 0 0] 27)) := (Below.refl _ _).alloc (Nat.le_refl _) _
    have hSal : (w10.alloc (.cells #[.slice none 0 0, .slice none 0 0] 27)).cell? ⟨w0.heap.size, 0, none⟩ = some (.slice ava 4 avc) ∧ (w10.alloc (.cells #[.slice none 0 0, .slice none 0 0] 27)).cell? ⟨w0.heap.size, 1, none⟩ = some (.slice aoa l.length aoc) := ⟨(pair_cells ((hal.block _ (lt_of_row HXa10.out)).trans HXa10.out)).1, (pair_cells ((hal.block _ (lt_of_row HXa10.out)).trans HXa10.out)).2⟩
    refine wpAnyH_ready (rs := [4, 8]) (by kernel_rfl) (by simp) ?_
    refine AllReadyH.cons (o := { dst := some 69, op := Op.call { callee := Callee.value (Operand.func 47), args := #[Operand.tmp 65, Operand.tmp 68], argTypes := #[27, 24] }, type := 30, pos := "laws.go:1448", after := #[{ on := 0, ground := Ground.data }, { on := 3, ground := Ground.data }, { on := 3, ground := Ground.chain }], guard := none }) rfl (fun K hK => ?_) (AllReadyH.cons (o := { dst := some 13, op := Op.alloc 27, type := 0, pos := "laws.go:1448", after := #[], guard := none }) rfl (fun K hK => ?_) (AllReadyH.nil))
    all_goals go_simp
    · skip
      clear hal hSal
      have hc := implCut w10 w10.heap.size ava aoa zva 4 avc l.length aoc zq.length zvc xs l zq (HVA10.out.more (by omega)) (HOA10.out.more (by omega)) (HZ10.out.more (by omega)) (Nat.le_refl _) (by omega) HCa.out.1 ⟨by omega, HCa.out.2.1⟩ HIa.out (by omega)
      rw [HB3'.out, HV3'.out, HO3'.out] at hc
      go_at_call 47
      refine hc.mono ?_
      clear hc
      rintro e w11 ⟨hva, hvc, hoa, hoc, mid, rfl, hov, hop, hm1, hm2, hb, hcn⟩
      have hov := hov.more (Nat.le_refl _) hm2
      have hop := hop.more hm1 (Nat.le_refl _)
      clear hm1 hm2 hcn
      have HY11 := Lib.hid (HY10.out.below hb (by omega))
      have HQ11 := Lib.hid (HQ10.out.below hb (by omega))
      have HZ11 := Lib.hid (HZ10.out.below hb (by omega))
      have hs11 := hb.size
      have HVA11 := Lib.hid (HVA10.out.below hb (by omega))
      have HOA11 := Lib.hid (HOA10.out.below hb (by omega))
      have HB11 := Lib.hid (HB10.out.trans (hb.mono (by omega)))
      have HXa11 := Lib.hid ((hb.block _ (lt_of_row HXa10.out)).trans HXa10.out)
      have HVN11 := Lib.hid (HVN10.out.below hb (by omega))
      have HON11 := Lib.hid (HON10.out.below hb (by omega))
      have HXn11 := Lib.hid ((hb.block _ (lt_of_row HXn10.out)).trans HXn10.out)
      have HXw11 := Lib.hid ((hb.block _ (lt_of_row HXw10.out)).trans HXw10.out)
      have HVG11 := Lib.hid (HVG10.out.below hb (by omega))
      have HOG11 := Lib.hid (HOG10.out.below hb (by omega))
      have HXg11 := Lib.hid ((hb.block _ (lt_of_row HXg10.out)).trans HXg10.out)
      clear hb HVA10 HOA10 HB10 HXa10 HVN10 HON10 HXn10 HXw10 HVG10 HOG10 HXg10
      clear HY10 HQ10 HZ10
      have hS11 : w11.cell? ⟨w0.heap.size, 0, none⟩ = some (.slice ava 4 avc) ∧ w11.cell? ⟨w0.heap.size, 1, none⟩ = some (.slice aoa l.length aoc) := ⟨(pair_cells HXa11.out).1, (pair_cells HXa11.out).2⟩
      refine hK.out _ _ hS11 (fun hHeld => ?_)
      clear hK K hHeld
      (try simp only [Act.put, List.setIfInBounds_toArray, List.set_cons_zero, List.set_cons_succ])
      refine wpAnyH_take (i := 5) (oi := { dst := some 64, op := Op.move (Operand.tmp 69), type := 30, pos := "laws.go:1448", after := #[{ on := 4, ground := Ground.data }], guard := none }) (v := ?_) rfl (by kernel_rfl) (by kernel_rfl) (by kernel_rfl) (fun _ _ _ h => h) (Or.inl ⟨by rfl, ?_⟩) (by assumption) ?_
      rotate_left
      · intro w hSw
        (try dsimp only at hSw)
        first | (go_simp; done) | (go_simp; with_reducible rfl)
      (try simp only [Act.put, List.setIfInBounds_toArray, List.set_cons_zero, List.set_cons_succ])
      refine wpAnyH_take (i := 6) (oi := { dst := some 70, op := Op.extract (Operand.tmp 64) 0, type := 27, pos := "laws.go:1448", after := #[{ on := 5, ground := Ground.data }], guard := none }) (v := ?_) rfl (by kernel_rfl) (by kernel_rfl) (by kernel_rfl) (fun _ _ _ h => h) (Or.inl ⟨by rfl, ?_⟩) (by assumption) ?_
      rotate_left
      · intro w hSw
        (try dsimp only at hSw)
        first | (go_simp; done) | (go_simp; with_reducible rfl)
      (try simp only [Act.put, List.setIfInBounds_toArray, List.set_cons_zero, List.set_cons_succ])
      refine wpAnyH_take (i := 7) (oi := { dst := some 71, op := Op.extract (Operand.tmp 64) 1, type := 4, pos := "laws.go:1448", after := #[{ on := 5, ground := Ground.data }, { on := 9, ground := Ground.gcOnly Departure.lateStores }], guard := none }) (v := ?_) rfl (by kernel_rfl) (by kernel_rfl) (by kernel_rfl) (fun _ _ _ h => h) (Or.inl ⟨by rfl, ?_⟩) (by assumption) ?_
      rotate_left
      · intro w hSw
        (try dsimp only at hSw)
        first | (go_simp; done) | (go_simp; with_reducible rfl)
      (try simp only [Act.put, List.setIfInBounds_toArray, List.set_cons_zero, List.set_cons_succ])
      have hal : Below w11.heap.size w11 (w11.alloc (.cells #[.slice none 0 0, .slice none 0 0] 27)) := (Below.refl _ _).alloc (Nat.le_refl _) _
      have hSal : (w11.alloc (.cells #[.slice none 0 0, .slice none 0 0] 27)).cell? ⟨w0.heap.size, 0, none⟩ = some (.slice ava 4 avc) ∧ (w11.alloc (.cells #[.slice none 0 0, .slice none 0 0] 27)).cell? ⟨w0.heap.size, 1, none⟩ = some (.slice aoa l.length aoc) := ⟨(pair_cells ((hal.block _ (lt_of_row HXa11.out)).trans HXa11.out)).1, (pair_cells ((hal.block _ (lt_of_row HXa11.out)).trans HXa11.out)).2⟩
      refine wpAnyH_ready (rs := [8]) (by kernel_rfl) (by simp) ?_
      refine AllReadyH.cons (o := { dst := some 13, op := Op.alloc 27, type := 0, pos := "laws.go:1448", after := #[], guard := none }) rfl (fun K hK => ?_) (AllReadyH.nil)
      all_goals go_simp
      have hov := hov.below hal (Nat.le_refl _)
      have hop := hop.below hal (Nat.le_refl _)
      refine hK.out _ _ hSal (fun hHeld => ?_)
      clear hK K hHeld
      (try simp only [Act.put, List.setIfInBounds_toArray, List.set_cons_zero, List.set_cons_succ])
      clear hSal
      have HXh12 := Lib.hid (boxAt (Below.refl _ (w11.alloc (.cells #[.slice none 0 0, .slice none 0 0] 27))))
      have hb := hal
      have hqh : w11.heap.size < (w11.alloc (.cells #[.slice none 0 0, .slice none 0 0] 27)).heap.size := lt_of_row HXh12.out
      clear hal
      generalize w11.alloc (.cells #[.slice none 0 0, .slice none 0 0] 27) = w12 at hb hqh HXh12 hov hop ⊢
      have HY12 := Lib.hid (HY11.out.below hb (by omega))
      have HQ12 := Lib.hid (HQ11.out.below hb (by omega))
      have HZ12 := Lib.hid (HZ11.out.below hb (by omega))
      have hs12 := hb.size
      have HVA12 := Lib.hid (HVA11.out.below hb (by omega))
      have HOA12 := Lib.hid (HOA11.out.below hb (by omega))
      have HB12 := Lib.hid (HB11.out.trans (hb.mono (by omega)))
      have HXa12 := Lib.hid ((hb.block _ (lt_of_row HXa11.out)).trans HXa11.out)
      have HVN12 := Lib.hid (HVN11.out.below hb (by omega))
      have HON12 := Lib.hid (HON11.out.below hb (by omega))
      have HXn12 := Lib.hid ((hb.block _ (lt_of_row HXn11.out)).trans HXn11.out)
      have HXw12 := Lib.hid ((hb.block _ (lt_of_row HXw11.out)).trans HXw11.out)
      have HVG12 := Lib.hid (HVG11.out.below hb (by omega))
      have HOG12 := Lib.hid (HOG11.out.below hb (by omega))
      have HXg12 := Lib.hid ((hb.block _ (lt_of_row HXg11.out)).trans HXg11.out)
      clear hb HVA11 HOA11 HB11 HXa11 HVN11 HON11 HXn11 HXw11 HVG11 HOG11 HXg11
      clear HY11 HQ11 HZ11
      obtain ⟨r0, r1⟩ := pair_cells HXh12.out
      obtain ⟨f0, f1⟩ := pair_frozen HXh12.out
      have hb : Below w11.heap.size w12 ((w12.setCell ⟨w11.heap.size, 0, none⟩ (.slice hva vg.length hvc)).setCell ⟨w11.heap.size, 1, none⟩ (.slice hoa og.length hoc)) := below_set2 w12 w11.heap.size 0 1 _ _
      have hSt : ((w12.setCell ⟨w11.heap.size, 0, none⟩ (.slice hva vg.length hvc)).setCell ⟨w11.heap.size, 1, none⟩ (.slice hoa og.length hoc)).cell? ⟨w0.heap.size, 0, none⟩ = some (.slice ava 4 avc) ∧ ((w12.setCell ⟨w11.heap.size, 0, none⟩ (.slice hva vg.length hvc)).setCell ⟨w11.heap.size, 1, none⟩ (.slice hoa og.length hoc)).cell? ⟨w0.heap.size, 1, none⟩ = some (.slice aoa l.length aoc) := ⟨(pair_cells ((hb.block _ (by omega)).trans HXa12.out)).1, (pair_cells ((hb.block _ (by omega)).trans HXa12.out)).2⟩
      refine wpAnyH_ready (rs := [9]) (by kernel_rfl) (by simp) ?_
      refine AllReadyH.cons (o := { dst := none, op := Op.store 27 (Operand.tmp 13) (Operand.tmp 70), type := 0, pos := "laws.go:1448", after := #[{ on := 8, ground := Ground.data }, { on := 6, ground := Ground.data }, { on := 4, ground := Ground.chain }, { on := 0, ground := Ground.phase }, { on := 1, ground := Ground.phase }, { on := 2, ground := Ground.phase }, { on := 3, ground := Ground.phase }, { on := 4, ground := Ground.phase }, { on := 5, ground := Ground.phase }, { on := 6, ground := Ground.phase }, { on := 7, ground := Ground.textOnly Departure.lateStores }, { on := 8, ground := Ground.phase }], guard := none }) rfl (fun K hK => ?_) AllReadyH.nil
      go_simp
      refine hK.out _ _ hSt (fun hHeld77 => ?_)
      clear hK K
      (try simp only [Act.put, List.setIfInBounds_toArray, List.set_cons_zero, List.set_cons_succ])
      refine wpAnyH_take (i := 10) (oi := { dst := some 14, op := Op.assign (Operand.tmp 71), type := 4, pos := "laws.go:1448", after := #[{ on := 7, ground := Ground.data }, { on := 9, ground := Ground.chain }, { on := 0, ground := Ground.phase }, { on := 1, ground := Ground.phase }, { on := 2, ground := Ground.phase }, { on := 3, ground := Ground.phase }, { on := 4, ground := Ground.phase }, { on := 5, ground := Ground.phase }, { on := 6, ground := Ground.phase }, { on := 7, ground := Ground.phase }, { on := 8, ground := Ground.phase }, { on := 9, ground := Ground.phase }], guard := none }) (v := ?_) rfl (by kernel_rfl) (by kernel_rfl) (by kernel_rfl) (fun _ _ _ h => h) (Or.inl ⟨by rfl, ?_⟩) (by assumption) ?_
      rotate_left
      · intro w hSw
        (try dsimp only at hSw)
        first | (go_simp; done) | (go_simp; with_reducible rfl)
      (try simp only [Act.put, List.setIfInBounds_toArray, List.set_cons_zero, List.set_cons_succ])
      refine wpAnyH_done (by kernel_rfl) ?_ _
      have HXH := Lib.hid (pair_set (.slice hva vg.length hvc) (.slice hoa og.length hoc) HXh12.out)
      have HVH13 := Lib.hid (hov.ints.below hb (by omega))
      have HOH13 := Lib.hid (hop.ops.below hb (by omega))
      clear hov hop r0 r1 f0 f1 hSt hHeld77
      generalize (w12.setCell ⟨w11.heap.size, 0, none⟩ (.slice hva vg.length hvc)).setCell ⟨w11.heap.size, 1, none⟩ (.slice hoa og.length hoc) = w13 at hb HXH HVH13 HOH13 ⊢
      have hs13 := hb.size
      have HVA13 := Lib.hid (HVA12.out.below hb (by omega))
      have HOA13 := Lib.hid (HOA12.out.below hb (by omega))
      have HB13 := Lib.hid (HB12.out.trans (hb.mono (by omega)))
      have HY13 := Lib.hid (HY12.out.below hb (by omega))
      have HXa13 := Lib.hid ((hb.block _ (by omega)).trans HXa12.out)
      have HQ13 := Lib.hid (HQ12.out.below hb (by omega))
      have HVN13 := Lib.hid (HVN12.out.below hb (by omega))
      have HON13 := Lib.hid (HON12.out.below hb (by omega))
      have HVG13 := Lib.hid (HVG12.out.below hb (by omega))
      have HOG13 := Lib.hid (HOG12.out.below hb (by omega))
      have HXg13 := Lib.hid ((hb.block _ (by omega)).trans HXg12.out)
      have HXh13 := HXH
      clear HXH hb HVA12 HOA12 HB12 HY12 HXa12 HQ12 HVN12 HON12 HXn12 HXw12 HVG12 HOG12 HXg12 HZ12 HXh12
      obtain ⟨c00, c01⟩ := pair_cells HXa13.out
      go_wp2_with fail
      have hc := implCut w13 w13.heap.size ava aoa qv 4 avc l.length aoc nq qc xs l qs (HVA13.out.more (by omega)) (HOA13.out.more (by omega)) (HQ13.out.more (by omega)) (Nat.le_refl _) (by omega) HCa.out.1 ⟨by omega, HCa.out.2.1⟩ HIa.out (by omega)
      rw [HB4'.out, HV4'.out, HO4'.out] at hc
      refine hc.mono ?_
      clear hc
      rintro e w14 ⟨mva, mvc, moa, moc, mid, rfl, hov, hop, hm1, hm2, hb, hcn⟩
      clear c00 c01
      have HCm := Lib.hid hcn
      have hov := hov.more (Nat.le_refl _) hm2
      clear hcn hm1 hm2
      have HY14 := Lib.hid (HY13.out.below hb (by omega))
      have HQ14 := Lib.hid (HQ13.out.below hb (by omega))
      have hs14 := hb.size
      have HVA14 := Lib.hid (HVA13.out.below hb (by omega))
      have HOA14 := Lib.hid (HOA13.out.below hb (by omega))
      have HB14 := Lib.hid (HB13.out.trans (hb.mono (by omega)))
      have HXa14 := Lib.hid ((hb.block _ (lt_of_row HXa13.out)).trans HXa13.out)
      have HVN14 := Lib.hid (HVN13.out.below hb (by omega))
      have HON14 := Lib.hid (HON13.out.below hb (by omega))
      have HVG14 := Lib.hid (HVG13.out.below hb (by omega))
      have HOG14 := Lib.hid (HOG13.out.below hb (by omega))
      have HXg14 := Lib.hid ((hb.block _ (lt_of_row HXg13.out)).trans HXg13.out)
      have HXh14 := Lib.hid ((hb.block _ (lt_of_row HXh13.out)).trans HXh13.out)
      have HVH14 := Lib.hid (HVH13.out.below hb (by omega))
      have HOH14 := Lib.hid (HOH13.out.below hb (by omega))
      clear hb HVA13 HOA13 HB13 HXa13 HVN13 HON13 HVG13 HOG13 HXg13 HXh13 HVH13 HOH13
      clear HY13 HQ13
      have HVM14 := Lib.hid hov.ints
      have HOM14 := Lib.hid hop.ops
      clear hov hop
      go_upto_region 12 with fail
      have hb : Below w14.heap.size w14 (w14.alloc (.cells #[.slice mva vm.length mvc, .slice moa om.length moc] 27)) := (Below.refl _ _).alloc (Nat.le_refl _) _
      have HXm15 := Lib.hid (boxAt (Below.refl _ (w14.alloc (.cells #[.slice mva vm.length mvc, .slice moa om.length moc] 27))))
      generalize w14.alloc (.cells #[.slice mva vm.length mvc, .slice moa om.length moc] 27) = w15 at hb HXm15 ⊢
      have HY15 := Lib.hid (HY14.out.below hb (by omega))
      have HQ15 := Lib.hid (HQ14.out.below hb (by omega))
      have hs15 := hb.size
      have HVA15 := Lib.hid (HVA14.out.below hb (by omega))
      have HOA15 := Lib.hid (HOA14.out.below hb (by omega))
      have HB15 := Lib.hid (HB14.out.trans (hb.mono (by omega)))
      have HXa15 := Lib.hid ((hb.block _ (lt_of_row HXa14.out)).trans HXa14.out)
      have HVN15 := Lib.hid (HVN14.out.below hb (by omega))
      have HON15 := Lib.hid (HON14.out.below hb (by omega))
      have HVG15 := Lib.hid (HVG14.out.below hb (by omega))
      have HOG15 := Lib.hid (HOG14.out.below hb (by omega))
      have HXg15 := Lib.hid ((hb.block _ (lt_of_row HXg14.out)).trans HXg14.out)
      have HXh15 := Lib.hid ((hb.block _ (lt_of_row HXh14.out)).trans HXh14.out)
      have HVH15 := Lib.hid (HVH14.out.below hb (by omega))
      have HOH15 := Lib.hid (HOH14.out.below hb (by omega))
      have HVM15 := Lib.hid (HVM14.out.below hb (by omega))
      have HOM15 := Lib.hid (HOM14.out.below hb (by omega))
      clear hb HVA14 HOA14 HB14 HXa14 HVN14 HON14 HVG14 HOG14 HXg14 HXh14 HVH14 HOH14 HVM14 HOM14
      clear HY14 HQ14
      obtain ⟨c00, c01⟩ := pair_cells HXm15.out
      go_wp2_with fail
      have hc := implCut w15 w15.heap.size mva moa bv vm.length mvc om.length moc nb bc vm om ys (HVM15.out.more (by omega)) (HOM15.out.more (by omega)) (HY15.out.more (by omega)) (Nat.le_refl _) (by omega) HCm.out.1 ⟨by omega, HCm.out.2.1⟩ HIm.out (by omega)
      rw [HB5'.out, HV5'.out, HO5'.out] at hc
      refine hc.mono ?_
      clear hc
      rintro e w16 ⟨dva, dvc, doa, doc, mid, rfl, hov, hop, hm1, hm2, hb, hcn⟩
      clear c00 c01
      have HCd := Lib.hid hcn
      have hov := hov.more (Nat.le_refl _) hm2
      clear hcn hm1 hm2
      have HY16 := Lib.hid (HY15.out.below hb (by omega))
      have HQ16 := Lib.hid (HQ15.out.below hb (by omega))
      have hs16 := hb.size
      have HVA16 := Lib.hid (HVA15.out.below hb (by omega))
      have HOA16 := Lib.hid (HOA15.out.below hb (by omega))
      have HB16 := Lib.hid (HB15.out.trans (hb.mono (by omega)))
      have HXa16 := Lib.hid ((hb.block _ (lt_of_row HXa15.out)).trans HXa15.out)
      have HVN16 := Lib.hid (HVN15.out.below hb (by omega))
      have HON16 := Lib.hid (HON15.out.below hb (by omega))
      have HVG16 := Lib.hid (HVG15.out.below hb (by omega))
      have HOG16 := Lib.hid (HOG15.out.below hb (by omega))
      have HXg16 := Lib.hid ((hb.block _ (lt_of_row HXg15.out)).trans HXg15.out)
      have HXh16 := Lib.hid ((hb.block _ (lt_of_row HXh15.out)).trans HXh15.out)
      have HVH16 := Lib.hid (HVH15.out.below hb (by omega))
      have HOH16 := Lib.hid (HOH15.out.below hb (by omega))
      have HVM16 := Lib.hid (HVM15.out.below hb (by omega))
      have HOM16 := Lib.hid (HOM15.out.below hb (by omega))
      have HXm16 := Lib.hid ((hb.block _ (lt_of_row HXm15.out)).trans HXm15.out)
      clear hb HVA15 HOA15 HB15 HXa15 HVN15 HON15 HVG15 HOG15 HXg15 HXh15 HVH15 HOH15 HVM15 HOM15 HXm15
      clear HY15 HQ15
      have HVD16 := Lib.hid hov.ints
      have HOD16 := Lib.hid hop.ops
      clear hov hop
      go_upto_region 13 with fail
      have hb : Below w16.heap.size w16 (w16.alloc (.cells #[.slice dva vg.length dvc, .slice doa og.length doc] 27)) := (Below.refl _ _).alloc (Nat.le_refl _) _
      have HXd17 := Lib.hid (boxAt (Below.refl _ (w16.alloc (.cells #[.slice dva vg.length dvc, .slice doa og.length doc] 27))))
      generalize w16.alloc (.cells #[.slice dva vg.length dvc, .slice doa og.length doc] 27) = w17 at hb HXd17 ⊢
      have HY17 := Lib.hid (HY16.out.below hb (by omega))
      have HQ17 := Lib.hid (HQ16.out.below hb (by omega))
      have hs17 := hb.size
      have HVA17 := Lib.hid (HVA16.out.below hb (by omega))
      have HOA17 := Lib.hid (HOA16.out.below hb (by omega))
      have HB17 := Lib.hid (HB16.out.trans (hb.mono (by omega)))
      have HXa17 := Lib.hid ((hb.block _ (lt_of_row HXa16.out)).trans HXa16.out)
      have HVN17 := Lib.hid (HVN16.out.below hb (by omega))
      have HON17 := Lib.hid (HON16.out.below hb (by omega))
      have HVG17 := Lib.hid (HVG16.out.below hb (by omega))
      have HOG17 := Lib.hid (HOG16.out.below hb (by omega))
      have HXg17 := Lib.hid ((hb.block _ (lt_of_row HXg16.out)).trans HXg16.out)
      have HXh17 := Lib.hid ((hb.block _ (lt_of_row HXh16.out)).trans HXh16.out)
      have HVH17 := Lib.hid (HVH16.out.below hb (by omega))
      have HOH17 := Lib.hid (HOH16.out.below hb (by omega))
      have HVM17 := Lib.hid (HVM16.out.below hb (by omega))
      have HOM17 := Lib.hid (HOM16.out.below hb (by omega))
      have HXm17 := Lib.hid ((hb.block _ (lt_of_row HXm16.out)).trans HXm16.out)
      have HVD17 := Lib.hid (HVD16.out.below hb (by omega))
      have HOD17 := Lib.hid (HOD16.out.below hb (by omega))
      clear hb HVA16 HOA16 HB16 HXa16 HVN16 HON16 HVG16 HOG16 HXg16 HXh16 HVH16 HOH16 HVM16 HOM16 HXm16 HVD16 HOD16
      clear HY16 HQ16
      obtain ⟨c00, c01⟩ := pair_cells HXg17.out
      obtain ⟨c10, c11⟩ := pair_cells HXh17.out
      go_wp2_with fail
      refine (sameCart w17 w17.heap.size gva goa hva hoa vg.length gvc og.length goc vg.length hvc og.length hoc vg og vg og (HVG17.out.more (by omega)) (HOG17.out.more (by omega)) (HVH17.out.more (by omega)) (HOH17.out.more (by omega)) (Nat.le_refl _) (by omega) (by omega) (by omega) (by omega)).mono ?_
      rintro e w18 ⟨rfl, hb⟩
      rw [decide_eq_true rfl, decide_eq_true rfl]
      clear c00 c01 c10 c11
      have HY18 := Lib.hid (HY17.out.below hb (by omega))
      have HQ18 := Lib.hid (HQ17.out.below hb (by omega))
      have hs18 := hb.size
      have HVA18 := Lib.hid (HVA17.out.below hb (by omega))
      have HOA18 := Lib.hid (HOA17.out.below hb (by omega))
      have HB18 := Lib.hid (HB17.out.trans (hb.mono (by omega)))
      have HXa18 := Lib.hid ((hb.block _ (lt_of_row HXa17.out)).trans HXa17.out)
      have HVN18 := Lib.hid (HVN17.out.below hb (by omega))
      have HON18 := Lib.hid (HON17.out.below hb (by omega))
      have HVG18 := Lib.hid (HVG17.out.below hb (by omega))
      have HOG18 := Lib.hid (HOG17.out.below hb (by omega))
      have HXg18 := Lib.hid ((hb.block _ (lt_of_row HXg17.out)).trans HXg17.out)
      have HXh18 := Lib.hid ((hb.block _ (lt_of_row HXh17.out)).trans HXh17.out)
      have HVH18 := Lib.hid (HVH17.out.below hb (by omega))
      have HOH18 := Lib.hid (HOH17.out.below hb (by omega))
      have HVM18 := Lib.hid (HVM17.out.below hb (by omega))
      have HOM18 := Lib.hid (HOM17.out.below hb (by omega))
      have HXm18 := Lib.hid ((hb.block _ (lt_of_row HXm17.out)).trans HXm17.out)
      have HVD18 := Lib.hid (HVD17.out.below hb (by omega))
      have HOD18 := Lib.hid (HOD17.out.below hb (by omega))
      have HXd18 := Lib.hid ((hb.block _ (lt_of_row HXd17.out)).trans HXd17.out)
      clear hb HVA17 HOA17 HB17 HXa17 HVN17 HON17 HVG17 HOG17 HXg17 HXh17 HVH17 HOH17 HVM17 HOM17 HXm17 HVD17 HOD17 HXd17
      clear HY17 HQ17
      obtain ⟨c00, c01⟩ := pair_cells HXd18.out
      obtain ⟨c10, c11⟩ := pair_cells HXh18.out
      go_wp2_with fail
      refine (sameCart w18 w18.heap.size dva doa hva hoa vg.length dvc og.length doc vg.length hvc og.length hoc vg og vg og (HVD18.out.more (by omega)) (HOD18.out.more (by omega)) (HVH18.out.more (by omega)) (HOH18.out.more (by omega)) (Nat.le_refl _) (by omega) (by omega) (by omega) (by omega)).mono ?_
      rintro e w19 ⟨rfl, hb⟩
      rw [decide_eq_true rfl, decide_eq_true rfl]
      clear c00 c01 c10 c11
      have HY19 := Lib.hid (HY18.out.below hb (by omega))
      have HQ19 := Lib.hid (HQ18.out.below hb (by omega))
      have hs19 := hb.size
      have HVA19 := Lib.hid (HVA18.out.below hb (by omega))
      have HOA19 := Lib.hid (HOA18.out.below hb (by omega))
      have HB19 := Lib.hid (HB18.out.trans (hb.mono (by omega)))
      have HXa19 := Lib.hid ((hb.block _ (lt_of_row HXa18.out)).trans HXa18.out)
      have HVN19 := Lib.hid (HVN18.out.below hb (by omega))
      have HON19 := Lib.hid (HON18.out.below hb (by omega))
      have HVG19 := Lib.hid (HVG18.out.below hb (by omega))
      have HOG19 := Lib.hid (HOG18.out.below hb (by omega))
      have HXg19 := Lib.hid ((hb.block _ (lt_of_row HXg18.out)).trans HXg18.out)
      have HXh19 := Lib.hid ((hb.block _ (lt_of_row HXh18.out)).trans HXh18.out)
      have HVH19 := Lib.hid (HVH18.out.below hb (by omega))
      have HOH19 := Lib.hid (HOH18.out.below hb (by omega))
      have HVM19 := Lib.hid (HVM18.out.below hb (by omega))
      have HOM19 := Lib.hid (HOM18.out.below hb (by omega))
      have HXm19 := Lib.hid ((hb.block _ (lt_of_row HXm18.out)).trans HXm18.out)
      have HVD19 := Lib.hid (HVD18.out.below hb (by omega))
      have HOD19 := Lib.hid (HOD18.out.below hb (by omega))
      have HXd19 := Lib.hid ((hb.block _ (lt_of_row HXd18.out)).trans HXd18.out)
      clear hb HVA18 HOA18 HB18 HXa18 HVN18 HON18 HVG18 HOG18 HXg18 HXh18 HVH18 HOH18 HVM18 HOM18 HXm18 HVD18 HOD18 HXd18
      clear HY18 HQ18
      go_wp2
      go_ret
      exact ⟨rfl, HB19.out⟩
    · skip
      refine hK.out _ _ hSal (fun hHeld => ?_)
      clear hK K hHeld
      (try simp only [Act.put, List.setIfInBounds_toArray, List.set_cons_zero, List.set_cons_succ])
      clear hSal
      have HXh11 := Lib.hid (boxAt (Below.refl _ (w10.alloc (.cells #[.slice none 0 0, .slice none 0 0] 27))))
      have hb := hal
      have hqh : w10.heap.size < (w10.alloc (.cells #[.slice none 0 0, .slice none 0 0] 27)).heap.size := lt_of_row HXh11.out
      clear hal
      generalize w10.alloc (.cells #[.slice none 0 0, .slice none 0 0] 27) = w11 at hb hqh HXh11 ⊢
      have HY11 := Lib.hid (HY10.out.below hb (by omega))
      have HQ11 := Lib.hid (HQ10.out.below hb (by omega))
      have HZ11 := Lib.hid (HZ10.out.below hb (by omega))
      have hs11 := hb.size
      have HVA11 := Lib.hid (HVA10.out.below hb (by omega))
      have HOA11 := Lib.hid (HOA10.out.below hb (by omega))
      have HB11 := Lib.hid (HB10.out.trans (hb.mono (by omega)))
      have HXa11 := Lib.hid ((hb.block _ (lt_of_row HXa10.out)).trans HXa10.out)
      have HVN11 := Lib.hid (HVN10.out.below hb (by omega))
      have HON11 := Lib.hid (HON10.out.below hb (by omega))
      have HXn11 := Lib.hid ((hb.block _ (lt_of_row HXn10.out)).trans HXn10.out)
      have HXw11 := Lib.hid ((hb.block _ (lt_of_row HXw10.out)).trans HXw10.out)
      have HVG11 := Lib.hid (HVG10.out.below hb (by omega))
      have HOG11 := Lib.hid (HOG10.out.below hb (by omega))
      have HXg11 := Lib.hid ((hb.block _ (lt_of_row HXg10.out)).trans HXg10.out)
      clear hb HVA10 HOA10 HB10 HXa10 HVN10 HON10 HXn10 HXw10 HVG10 HOG10 HXg10
      clear HY10 HQ10 HZ10
      refine wpAnyH_ready (rs := [4]) (by kernel_rfl) (by simp) ?_
      refine AllReadyH.cons (o := { dst := some 69, op := Op.call { callee := Callee.value (Operand.func 47), args := #[Operand.tmp 65, Operand.tmp 68], argTypes := #[27, 24] }, type := 30, pos := "laws.go:1448", after := #[{ on := 0, ground := Ground.data }, { on := 3, ground := Ground.data }, { on := 3, ground := Ground.chain }], guard := none }) rfl (fun K hK => ?_) (AllReadyH.nil)
      all_goals go_simp
      have hc := implCut w11 w11.heap.size ava aoa zva 4 avc l.length aoc zq.length zvc xs l zq (HVA11.out.more (by omega)) (HOA11.out.more (by omega)) (HZ11.out.more (by omega)) (Nat.le_refl _) (by omega) HCa.out.1 ⟨by omega, HCa.out.2.1⟩ HIa.out (by omega)
      rw [HB3'.out, HV3'.out, HO3'.out] at hc
      go_at_call 47
      refine hc.mono ?_
      clear hc
      rintro e w12 ⟨hva, hvc, hoa, hoc, mid, rfl, hov, hop, hm1, hm2, hb, hcn⟩
      have hov := hov.more (Nat.le_refl _) hm2
      have hop := hop.more hm1 (Nat.le_refl _)
      clear hm1 hm2 hcn
      have HY12 := Lib.hid (HY11.out.below hb (by omega))
      have HQ12 := Lib.hid (HQ11.out.below hb (by omega))
      have HZ12 := Lib.hid (HZ11.out.below hb (by omega))
      have hs12 := hb.size
      have HVA12 := Lib.hid (HVA11.out.below hb (by omega))
      have HOA12 := Lib.hid (HOA11.out.below hb (by omega))
      have HB12 := Lib.hid (HB11.out.trans (hb.mono (by omega)))
      have HXa12 := Lib.hid ((hb.block _ (lt_of_row HXa11.out)).trans HXa11.out)
      have HVN12 := Lib.hid (HVN11.out.below hb (by omega))
      have HON12 := Lib.hid (HON11.out.below hb (by omega))
      have HXn12 := Lib.hid ((hb.block _ (lt_of_row HXn11.out)).trans HXn11.out)
      have HXw12 := Lib.hid ((hb.block _ (lt_of_row HXw11.out)).trans HXw11.out)
      have HVG12 := Lib.hid (HVG11.out.below hb (by omega))
      have HOG12 := Lib.hid (HOG11.out.below hb (by omega))
      have HXg12 := Lib.hid ((hb.block _ (lt_of_row HXg11.out)).trans HXg11.out)
      have HXh12 := Lib.hid ((hb.block _ (lt_of_row HXh11.out)).trans HXh11.out)
      clear hb HVA11 HOA11 HB11 HXa11 HVN11 HON11 HXn11 HXw11 HVG11 HOG11 HXg11 HXh11
      clear HY11 HQ11 HZ11
      have hS12 : w12.cell? ⟨w0.heap.size, 0, none⟩ = some (.slice ava 4 avc) ∧ w12.cell? ⟨w0.heap.size, 1, none⟩ = some (.slice aoa l.length aoc) := ⟨(pair_cells HXa12.out).1, (pair_cells HXa12.out).2⟩
      refine hK.out _ _ hS12 (fun hHeld => ?_)
      clear hK K hHeld
      (try simp only [Act.put, List.setIfInBounds_toArray, List.set_cons_zero, List.set_cons_succ])
      refine wpAnyH_take (i := 5) (oi := { dst := some 64, op := Op.move (Operand.tmp 69), type := 30, pos := "laws.go:1448", after := #[{ on := 4, ground := Ground.data }], guard := none }) (v := ?_) rfl (by kernel_rfl) (by kernel_rfl) (by kernel_rfl) (fun _ _ _ h => h) (Or.inl ⟨by rfl, ?_⟩) (by assumption) ?_
      rotate_left
      · intro w hSw
        (try dsimp only at hSw)
        first | (go_simp; done) | (go_simp; with_reducible rfl)
      (try simp only [Act.put, List.setIfInBounds_toArray, List.set_cons_zero, List.set_cons_succ])
      refine wpAnyH_take (i := 6) (oi := { dst := some 70, op := Op.extract (Operand.tmp 64) 0, type := 27, pos := "laws.go:1448", after := #[{ on := 5, ground := Ground.data }], guard := none }) (v := ?_) rfl (by kernel_rfl) (by kernel_rfl) (by kernel_rfl) (fun _ _ _ h => h) (Or.inl ⟨by rfl, ?_⟩) (by assumption) ?_
      rotate_left
      · intro w hSw
        (try dsimp only at hSw)
        first | (go_simp; done) | (go_simp; with_reducible rfl)
      (try simp only [Act.put, List.setIfInBounds_toArray, List.set_cons_zero, List.set_cons_succ])
      refine wpAnyH_take (i := 7) (oi := { dst := some 71, op := Op.extract (Operand.tmp 64) 1, type := 4, pos := "laws.go:1448", after := #[{ on := 5, ground := Ground.data }, { on := 9, ground := Ground.gcOnly Departure.lateStores }], guard := none }) (v := ?_) rfl (by kernel_rfl) (by kernel_rfl) (by kernel_rfl) (fun _ _ _ h => h) (Or.inl ⟨by rfl, ?_⟩) (by assumption) ?_
      rotate_left
      · intro w hSw
        (try dsimp only at hSw)
        first | (go_simp; done) | (go_simp; with_reducible rfl)
      (try simp only [Act.put, List.setIfInBounds_toArray, List.set_cons_zero, List.set_cons_succ])
      obtain ⟨r0, r1⟩ := pair_cells HXh12.out
      obtain ⟨f0, f1⟩ := pair_frozen HXh12.out
      have hb : Below w10.heap.size w12 ((w12.setCell ⟨w10.heap.size, 0, none⟩ (.slice hva vg.length hvc)).setCell ⟨w10.heap.size, 1, none⟩ (.slice hoa og.length hoc)) := below_set2 w12 w10.heap.size 0 1 _ _
      have hSt : ((w12.setCell ⟨w10.heap.size, 0, none⟩ (.slice hva vg.length hvc)).setCell ⟨w10.heap.size, 1, none⟩ (.slice hoa og.length hoc)).cell? ⟨w0.heap.size, 0, none⟩ = some (.slice ava 4 avc) ∧ ((w12.setCell ⟨w10.heap.size, 0, none⟩ (.slice hva vg.length hvc)).setCell ⟨w10.heap.size, 1, none⟩ (.slice hoa og.length hoc)).cell? ⟨w0.heap.size, 1, none⟩ = some (.slice aoa l.length aoc) := ⟨(pair_cells ((hb.block _ (by omega)).trans HXa12.out)).1, (pair_cells ((hb.block _ (by omega)).trans HXa12.out)).2⟩
      refine wpAnyH_ready (rs := [9]) (by kernel_rfl) (by simp) ?_
      refine AllReadyH.cons (o := { dst := none, op := Op.store 27 (Operand.tmp 13) (Operand.tmp 70), type := 0, pos := "laws.go:1448", after := #[{ on := 8, ground := Ground.data }, { on := 6, ground := Ground.data }, { on := 4, ground := Ground.chain }, { on := 0, ground := Ground.phase }, { on := 1, ground := Ground.phase }, { on := 2, ground := Ground.phase }, { on := 3, ground := Ground.phase }, { on := 4, ground := Ground.phase }, { on := 5, ground := Ground.phase }, { on := 6, ground := Ground.phase }, { on := 7, ground := Ground.textOnly Departure.lateStores }, { on := 8, ground := Ground.phase }], guard := none }) rfl (fun K hK => ?_) AllReadyH.nil
      go_simp
      refine hK.out _ _ hSt (fun hHeld77 => ?_)
      clear hK K
      (try simp only [Act.put, List.setIfInBounds_toArray, List.set_cons_zero, List.set_cons_succ])
      refine wpAnyH_take (i := 10) (oi := { dst := some 14, op := Op.assign (Operand.tmp 71), type := 4, pos := "laws.go:1448", after := #[{ on := 7, ground := Ground.data }, { on := 9, ground := Ground.chain }, { on := 0, ground := Ground.phase }, { on := 1, ground := Ground.phase }, { on := 2, ground := Ground.phase }, { on := 3, ground := Ground.phase }, { on := 4, ground := Ground.phase }, { on := 5, ground := Ground.phase }, { on := 6, ground := Ground.phase }, { on := 7, ground := Ground.phase }, { on := 8, ground := Ground.phase }, { on := 9, ground := Ground.phase }], guard := none }) (v := ?_) rfl (by kernel_rfl) (by kernel_rfl) (by kernel_rfl) (fun _ _ _ h => h) (Or.inl ⟨by rfl, ?_⟩) (by assumption) ?_
      rotate_left
      · intro w hSw
        (try dsimp only at hSw)
        first | (go_simp; done) | (go_simp; with_reducible rfl)
      (try simp only [Act.put, List.setIfInBounds_toArray, List.set_cons_zero, List.set_cons_succ])
      refine wpAnyH_done (by kernel_rfl) ?_ _
      have HXH := Lib.hid (pair_set (.slice hva vg.length hvc) (.slice hoa og.length hoc) HXh12.out)
      have HVH13 := Lib.hid (hov.kept (w' := (w12.setCell ⟨w10.heap.size, 0, none⟩ (.slice hva vg.length hvc)).setCell ⟨w10.heap.size, 1, none⟩ (.slice hoa og.length hoc)) fun j h1 h2 => pair_other _ _ (by omega)).ints
      have HOH13 := Lib.hid (hop.kept (w' := (w12.setCell ⟨w10.heap.size, 0, none⟩ (.slice hva vg.length hvc)).setCell ⟨w10.heap.size, 1, none⟩ (.slice hoa og.length hoc)) fun j h1 h2 => pair_other _ _ (by omega)).ops
      clear hov hop r0 r1 f0 f1 hSt hHeld77
      generalize (w12.setCell ⟨w10.heap.size, 0, none⟩ (.slice hva vg.length hvc)).setCell ⟨w10.heap.size, 1, none⟩ (.slice hoa og.length hoc) = w13 at hb HXH HVH13 HOH13 ⊢
      have hs13 := hb.size
      have HVA13 := Lib.hid (HVA12.out.below hb (by omega))
      have HOA13 := Lib.hid (HOA12.out.below hb (by omega))
      have HB13 := Lib.hid (HB12.out.trans (hb.mono (by omega)))
      have HY13 := Lib.hid (HY12.out.below hb (by omega))
      have HXa13 := Lib.hid ((hb.block _ (by omega)).trans HXa12.out)
      have HQ13 := Lib.hid (HQ12.out.below hb (by omega))
      have HVN13 := Lib.hid (HVN12.out.below hb (by omega))
      have HON13 := Lib.hid (HON12.out.below hb (by omega))
      have HVG13 := Lib.hid (HVG12.out.below hb (by omega))
      have HOG13 := Lib.hid (HOG12.out.below hb (by omega))
      have HXg13 := Lib.hid ((hb.block _ (by omega)).trans HXg12.out)
      have HXh13 := HXH
      clear HXH hb HVA12 HOA12 HB12 HY12 HXa12 HQ12 HVN12 HON12 HXn12 HXw12 HVG12 HOG12 HXg12 HZ12 HXh12
      obtain ⟨c00, c01⟩ := pair_cells HXa13.out
      go_wp2_with fail
      have hc := implCut w13 w13.heap.size ava aoa qv 4 avc l.length aoc nq qc xs l qs (HVA13.out.more (by omega)) (HOA13.out.more (by omega)) (HQ13.out.more (by omega)) (Nat.le_refl _) (by omega) HCa.out.1 ⟨by omega, HCa.out.2.1⟩ HIa.out (by omega)
      rw [HB4'.out, HV4'.out, HO4'.out] at hc
      refine hc.mono ?_
      clear hc
      rintro e w14 ⟨mva, mvc, moa, moc, mid, rfl, hov, hop, hm1, hm2, hb, hcn⟩
      clear c00 c01
      have HCm := Lib.hid hcn
      have hov := hov.more (Nat.le_refl _) hm2
      clear hcn hm1 hm2
      have HY14 := Lib.hid (HY13.out.below hb (by omega))
      have HQ14 := Lib.hid (HQ13.out.below hb (by omega))
      have hs14 := hb.size
      have HVA14 := Lib.hid (HVA13.out.below hb (by omega))
      have HOA14 := Lib.hid (HOA13.out.below hb (by omega))
      have HB14 := Lib.hid (HB13.out.trans (hb.mono (by omega)))
      have HXa14 := Lib.hid ((hb.block _ (lt_of_row HXa13.out)).trans HXa13.out)
      have HVN14 := Lib.hid (HVN13.out.below hb (by omega))
      have HON14 := Lib.hid (HON13.out.below hb (by omega))
      have HVG14 := Lib.hid (HVG13.out.below hb (by omega))
      have HOG14 := Lib.hid (HOG13.out.below hb (by omega))
      have HXg14 := Lib.hid ((hb.block _ (lt_of_row HXg13.out)).trans HXg13.out)
      have HXh14 := Lib.hid ((hb.block _ (lt_of_row HXh13.out)).trans HXh13.out)
      have HVH14 := Lib.hid (HVH13.out.below hb (by omega))
      have HOH14 := Lib.hid (HOH13.out.below hb (by omega))
      clear hb HVA13 HOA13 HB13 HXa13 HVN13 HON13 HVG13 HOG13 HXg13 HXh13 HVH13 HOH13
      clear HY13 HQ13
      have HVM14 := Lib.hid hov.ints
      have HOM14 := Lib.hid hop.ops
      clear hov hop
      go_upto_region 12 with fail
      have hb : Below w14.heap.size w14 (w14.alloc (.cells #[.slice mva vm.length mvc, .slice moa om.length moc] 27)) := (Below.refl _ _).alloc (Nat.le_refl _) _
      have HXm15 := Lib.hid (boxAt (Below.refl _ (w14.alloc (.cells #[.slice mva vm.length mvc, .slice moa om.length moc] 27))))
      generalize w14.alloc (.cells #[.slice mva vm.length mvc, .slice moa om.length moc] 27) = w15 at hb HXm15 ⊢
      have HY15 := Lib.hid (HY14.out.below hb (by omega))
      have HQ15 := Lib.hid (HQ14.out.below hb (by omega))
      have hs15 := hb.size
      have HVA15 := Lib.hid (HVA14.out.below hb (by omega))
      have HOA15 := Lib.hid (HOA14.out.below hb (by omega))
      have HB15 := Lib.hid (HB14.out.trans (hb.mono (by omega)))
      have HXa15 := Lib.hid ((hb.block _ (lt_of_row HXa14.out)).trans HXa14.out)
      have HVN15 := Lib.hid (HVN14.out.below hb (by omega))
      have HON15 := Lib.hid (HON14.out.below hb (by omega))
      have HVG15 := Lib.hid (HVG14.out.below hb (by omega))
      have HOG15 := Lib.hid (HOG14.out.below hb (by omega))
      have HXg15 := Lib.hid ((hb.block _ (lt_of_row HXg14.out)).trans HXg14.out)
      have HXh15 := Lib.hid ((hb.block _ (lt_of_row HXh14.out)).trans HXh14.out)
      have HVH15 := Lib.hid (HVH14.out.below hb (by omega))
      have HOH15 := Lib.hid (HOH14.out.below hb (by omega))
      have HVM15 := Lib.hid (HVM14.out.below hb (by omega))
      have HOM15 := Lib.hid (HOM14.out.below hb (by omega))
      clear hb HVA14 HOA14 HB14 HXa14 HVN14 HON14 HVG14 HOG14 HXg14 HXh14 HVH14 HOH14 HVM14 HOM14
      clear HY14 HQ14
      obtain ⟨c00, c01⟩ := pair_cells HXm15.out
      go_wp2_with fail
      have hc := implCut w15 w15.heap.size mva moa bv vm.length mvc om.length moc nb bc vm om ys (HVM15.out.more (by omega)) (HOM15.out.more (by omega)) (HY15.out.more (by omega)) (Nat.le_refl _) (by omega) HCm.out.1 ⟨by omega, HCm.out.2.1⟩ HIm.out (by omega)
      rw [HB5'.out, HV5'.out, HO5'.out] at hc
      refine hc.mono ?_
      clear hc
      rintro e w16 ⟨dva, dvc, doa, doc, mid, rfl, hov, hop, hm1, hm2, hb, hcn⟩
      clear c00 c01
      have HCd := Lib.hid hcn
      have hov := hov.more (Nat.le_refl _) hm2
      clear hcn hm1 hm2
      have HY16 := Lib.hid (HY15.out.below hb (by omega))
      have HQ16 := Lib.hid (HQ15.out.below hb (by omega))
      have hs16 := hb.size
      have HVA16 := Lib.hid (HVA15.out.below hb (by omega))
      have HOA16 := Lib.hid (HOA15.out.below hb (by omega))
      have HB16 := Lib.hid (HB15.out.trans (hb.mono (by omega)))
      have HXa16 := Lib.hid ((hb.block _ (lt_of_row HXa15.out)).trans HXa15.out)
      have HVN16 := Lib.hid (HVN15.out.below hb (by omega))
      have HON16 := Lib.hid (HON15.out.below hb (by omega))
      have HVG16 := Lib.hid (HVG15.out.below hb (by omega))
      have HOG16 := Lib.hid (HOG15.out.below hb (by omega))
      have HXg16 := Lib.hid ((hb.block _ (lt_of_row HXg15.out)).trans HXg15.out)
      have HXh16 := Lib.hid ((hb.block _ (lt_of_row HXh15.out)).trans HXh15.out)
      have HVH16 := Lib.hid (HVH15.out.below hb (by omega))
      have HOH16 := Lib.hid (HOH15.out.below hb (by omega))
      have HVM16 := Lib.hid (HVM15.out.below hb (by omega))
      have HOM16 := Lib.hid (HOM15.out.below hb (by omega))
      have HXm16 := Lib.hid ((hb.block _ (lt_of_row HXm15.out)).trans HXm15.out)
      clear hb HVA15 HOA15 HB15 HXa15 HVN15 HON15 HVG15 HOG15 HXg15 HXh15 HVH15 HOH15 HVM15 HOM15 HXm15
      clear HY15 HQ15
      have HVD16 := Lib.hid hov.ints
      have HOD16 := Lib.hid hop.ops
      clear hov hop
      go_upto_region 13 with fail
      have hb : Below w16.heap.size w16 (w16.alloc (.cells #[.slice dva vg.length dvc, .slice doa og.length doc] 27)) := (Below.refl _ _).alloc (Nat.le_refl _) _
      have HXd17 := Lib.hid (boxAt (Below.refl _ (w16.alloc (.cells #[.slice dva vg.length dvc, .slice doa og.length doc] 27))))
      generalize w16.alloc (.cells #[.slice dva vg.length dvc, .slice doa og.length doc] 27) = w17 at hb HXd17 ⊢
      have HY17 := Lib.hid (HY16.out.below hb (by omega))
      have HQ17 := Lib.hid (HQ16.out.below hb (by omega))
      have hs17 := hb.size
      have HVA17 := Lib.hid (HVA16.out.below hb (by omega))
      have HOA17 := Lib.hid (HOA16.out.below hb (by omega))
      have HB17 := Lib.hid (HB16.out.trans (hb.mono (by omega)))
      have HXa17 := Lib.hid ((hb.block _ (lt_of_row HXa16.out)).trans HXa16.out)
      have HVN17 := Lib.hid (HVN16.out.below hb (by omega))
      have HON17 := Lib.hid (HON16.out.below hb (by omega))
      have HVG17 := Lib.hid (HVG16.out.below hb (by omega))
      have HOG17 := Lib.hid (HOG16.out.below hb (by omega))
      have HXg17 := Lib.hid ((hb.block _ (lt_of_row HXg16.out)).trans HXg16.out)
      have HXh17 := Lib.hid ((hb.block _ (lt_of_row HXh16.out)).trans HXh16.out)
      have HVH17 := Lib.hid (HVH16.out.below hb (by omega))
      have HOH17 := Lib.hid (HOH16.out.below hb (by omega))
      have HVM17 := Lib.hid (HVM16.out.below hb (by omega))
      have HOM17 := Lib.hid (HOM16.out.below hb (by omega))
      have HXm17 := Lib.hid ((hb.block _ (lt_of_row HXm16.out)).trans HXm16.out)
      have HVD17 := Lib.hid (HVD16.out.below hb (by omega))
      have HOD17 := Lib.hid (HOD16.out.below hb (by omega))
      clear hb HVA16 HOA16 HB16 HXa16 HVN16 HON16 HVG16 HOG16 HXg16 HXh16 HVH16 HOH16 HVM16 HOM16 HXm16 HVD16 HOD16
      clear HY16 HQ16
      obtain ⟨c00, c01⟩ := pair_cells HXg17.out
      obtain ⟨c10, c11⟩ := pair_cells HXh17.out
      go_wp2_with fail
      refine (sameCart w17 w17.heap.size gva goa hva hoa vg.length gvc og.length goc vg.length hvc og.length hoc vg og vg og (HVG17.out.more (by omega)) (HOG17.out.more (by omega)) (HVH17.out.more (by omega)) (HOH17.out.more (by omega)) (Nat.le_refl _) (by omega) (by omega) (by omega) (by omega)).mono ?_
      rintro e w18 ⟨rfl, hb⟩
      rw [decide_eq_true rfl, decide_eq_true rfl]
      clear c00 c01 c10 c11
      have HY18 := Lib.hid (HY17.out.below hb (by omega))
      have HQ18 := Lib.hid (HQ17.out.below hb (by omega))
      have hs18 := hb.size
      have HVA18 := Lib.hid (HVA17.out.below hb (by omega))
      have HOA18 := Lib.hid (HOA17.out.below hb (by omega))
      have HB18 := Lib.hid (HB17.out.trans (hb.mono (by omega)))
      have HXa18 := Lib.hid ((hb.block _ (lt_of_row HXa17.out)).trans HXa17.out)
      have HVN18 := Lib.hid (HVN17.out.below hb (by omega))
      have HON18 := Lib.hid (HON17.out.below hb (by omega))
      have HVG18 := Lib.hid (HVG17.out.below hb (by omega))
      have HOG18 := Lib.hid (HOG17.out.below hb (by omega))
      have HXg18 := Lib.hid ((hb.block _ (lt_of_row HXg17.out)).trans HXg17.out)
      have HXh18 := Lib.hid ((hb.block _ (lt_of_row HXh17.out)).trans HXh17.out)
      have HVH18 := Lib.hid (HVH17.out.below hb (by omega))
      have HOH18 := Lib.hid (HOH17.out.below hb (by omega))
      have HVM18 := Lib.hid (HVM17.out.below hb (by omega))
      have HOM18 := Lib.hid (HOM17.out.below hb (by omega))
      have HXm18 := Lib.hid ((hb.block _ (lt_of_row HXm17.out)).trans HXm17.out)
      have HVD18 := Lib.hid (HVD17.out.below hb (by omega))
      have HOD18 := Lib.hid (HOD17.out.below hb (by omega))
      have HXd18 := Lib.hid ((hb.block _ (lt_of_row HXd17.out)).trans HXd17.out)
      clear hb HVA17 HOA17 HB17 HXa17 HVN17 HON17 HVG17 HOG17 HXg17 HXh17 HVH17 HOH17 HVM17 HOM17 HXm17 HVD17 HOD17 HXd17
      clear HY17 HQ17
      obtain ⟨c00, c01⟩ := pair_cells HXd18.out
      obtain ⟨c10, c11⟩ := pair_cells HXh18.out
      go_wp2_with fail
      refine (sameCart w18 w18.heap.size dva doa hva hoa vg.length dvc og.length doc vg.length hvc og.length hoc vg og vg og (HVD18.out.more (by omega)) (HOD18.out.more (by omega)) (HVH18.out.more (by omega)) (HOH18.out.more (by omega)) (Nat.le_refl _) (by omega) (by omega) (by omega) (by omega)).mono ?_
      rintro e w19 ⟨rfl, hb⟩
      rw [decide_eq_true rfl, decide_eq_true rfl]
      clear c00 c01 c10 c11
      have HY19 := Lib.hid (HY18.out.below hb (by omega))
      have HQ19 := Lib.hid (HQ18.out.below hb (by omega))
      have hs19 := hb.size
      have HVA19 := Lib.hid (HVA18.out.below hb (by omega))
      have HOA19 := Lib.hid (HOA18.out.below hb (by omega))
      have HB19 := Lib.hid (HB18.out.trans (hb.mono (by omega)))
      have HXa19 := Lib.hid ((hb.block _ (lt_of_row HXa18.out)).trans HXa18.out)
      have HVN19 := Lib.hid (HVN18.out.below hb (by omega))
      have HON19 := Lib.hid (HON18.out.below hb (by omega))
      have HVG19 := Lib.hid (HVG18.out.below hb (by omega))
      have HOG19 := Lib.hid (HOG18.out.below hb (by omega))
      have HXg19 := Lib.hid ((hb.block _ (lt_of_row HXg18.out)).trans HXg18.out)
      have HXh19 := Lib.hid ((hb.block _ (lt_of_row HXh18.out)).trans HXh18.out)
      have HVH19 := Lib.hid (HVH18.out.below hb (by omega))
      have HOH19 := Lib.hid (HOH18.out.below hb (by omega))
      have HVM19 := Lib.hid (HVM18.out.below hb (by omega))
      have HOM19 := Lib.hid (HOM18.out.below hb (by omega))
      have HXm19 := Lib.hid ((hb.block _ (lt_of_row HXm18.out)).trans HXm18.out)
      have HVD19 := Lib.hid (HVD18.out.below hb (by omega))
      have HOD19 := Lib.hid (HOD18.out.below hb (by omega))
      have HXd19 := Lib.hid ((hb.block _ (lt_of_row HXd18.out)).trans HXd18.out)
      clear hb HVA18 HOA18 HB18 HXa18 HVN18 HON18 HVG18 HOG18 HXg18 HXh18 HVH18 HOH18 HVM18 HOM18 HXm18 HVD18 HOD18 HXd18
      clear HY18 HQ18
      go_wp2
      go_ret
      exact ⟨rfl, HB19.out⟩
  · skip
    refine hK.out _ _ hSal (fun hHeld => ?_)
    clear hK K hHeld
    (try simp only [Act.put, List.setIfInBounds_toArray, List.set_cons_zero, List.set_cons_succ])
    clear hSal
    have HXh10 := Lib.hid (boxAt (Below.refl _ (w9.alloc (.cells #[.slice none 0 0, .slice none 0 0] 27))))
    have hb := hal
    have hqh : w9.heap.size < (w9.alloc (.cells #[.slice none 0 0, .slice none 0 0] 27)).heap.size := lt_of_row HXh10.out
    clear hal
    generalize w9.alloc (.cells #[.slice none 0 0, .slice none 0 0] 27) = w10 at hb hqh HXh10 ⊢
    have HY10 := Lib.hid (HY9.out.below hb (by omega))
    have HQ10 := Lib.hid (HQ9.out.below hb (by omega))
    have hs10 := hb.size
    have HVA10 := Lib.hid (HVA9.out.below hb (by omega))
    have HOA10 := Lib.hid (HOA9.out.below hb (by omega))
    have HB10 := Lib.hid (HB9.out.trans (hb.mono (by omega)))
    have HXa10 := Lib.hid ((hb.block _ (lt_of_row HXa9.out)).trans HXa9.out)
    have HVN10 := Lib.hid (HVN9.out.below hb (by omega))
    have HON10 := Lib.hid (HON9.out.below hb (by omega))
    have HXn10 := Lib.hid ((hb.block _ (lt_of_row HXn9.out)).trans HXn9.out)
    have HXw10 := Lib.hid ((hb.block _ (lt_of_row HXw9.out)).trans HXw9.out)
    have HVG10 := Lib.hid (HVG9.out.below hb (by omega))
    have HOG10 := Lib.hid (HOG9.out.below hb (by omega))
    have HXg10 := Lib.hid ((hb.block _ (lt_of_row HXg9.out)).trans HXg9.out)
    clear hb HVA9 HOA9 HB9 HXa9 HVN9 HON9 HXn9 HXw9 HVG9 HOG9 HXg9
    clear HY9 HQ9
    refine wpAnyH_ready (rs := [3]) (by kernel_rfl) (by simp) ?_
    refine AllReadyH.cons (o := { dst := some 68, op := Op.call { callee := Callee.value (Operand.func 49), args := #[Operand.tmp 66, Operand.tmp 67], argTypes := #[24, 24] }, type := 24, pos := "laws.go:1448", after := #[{ on := 1, ground := Ground.data }, { on := 2, ground := Ground.data }], guard := none }) rfl (fun K hK => ?_) (AllReadyH.nil)
    all_goals go_simp
    go_at_call 49
    refine (implMin w10 w10.heap.size bv qv nb bc nq qc ys qs (HY10.out.more (by omega)) (HQ10.out.more (by omega)) (Nat.le_refl _) (by omega) (by omega)).mono ?_
    rintro e w11 ⟨zva, zvc, rfl, hov, hb⟩
    rw [HZz.out] at hov ⊢
    have HY11 := Lib.hid (HY10.out.below hb (by omega))
    have HQ11 := Lib.hid (HQ10.out.below hb (by omega))
    have hs11 := hb.size
    have HVA11 := Lib.hid (HVA10.out.below hb (by omega))
    have HOA11 := Lib.hid (HOA10.out.below hb (by omega))
    have HB11 := Lib.hid (HB10.out.trans (hb.mono (by omega)))
    have HXa11 := Lib.hid ((hb.block _ (lt_of_row HXa10.out)).trans HXa10.out)
    have HVN11 := Lib.hid (HVN10.out.below hb (by omega))
    have HON11 := Lib.hid (HON10.out.below hb (by omega))
    have HXn11 := Lib.hid ((hb.block _ (lt_of_row HXn10.out)).trans HXn10.out)
    have HXw11 := Lib.hid ((hb.block _ (lt_of_row HXw10.out)).trans HXw10.out)
    have HVG11 := Lib.hid (HVG10.out.below hb (by omega))
    have HOG11 := Lib.hid (HOG10.out.below hb (by omega))
    have HXg11 := Lib.hid ((hb.block _ (lt_of_row HXg10.out)).trans HXg10.out)
    have HXh11 := Lib.hid ((hb.block _ (lt_of_row HXh10.out)).trans HXh10.out)
    clear hb HVA10 HOA10 HB10 HXa10 HVN10 HON10 HXn10 HXw10 HVG10 HOG10 HXg10 HXh10
    clear HY10 HQ10
    have HZ11 := Lib.hid hov.ints
    clear hov
    have hS11 : w11.cell? ⟨w0.heap.size, 0, none⟩ = some (.slice ava 4 avc) ∧ w11.cell? ⟨w0.heap.size, 1, none⟩ = some (.slice aoa l.length aoc) := ⟨(pair_cells HXa11.out).1, (pair_cells HXa11.out).2⟩
    refine hK.out _ _ hS11 (fun hHeld => ?_)
    clear hK K hHeld
    (try simp only [Act.put, List.setIfInBounds_toArray, List.set_cons_zero, List.set_cons_succ])
    refine wpAnyH_ready (rs := [4]) (by kernel_rfl) (by simp) ?_
    refine AllReadyH.cons (o := { dst := some 69, op := Op.call { callee := Callee.value (Operand.func 47), args := #[Operand.tmp 65, Operand.tmp 68], argTypes := #[27, 24] }, type := 30, pos := "laws.go:1448", after := #[{ on := 0, ground := Ground.data }, { on := 3, ground := Ground.data }, { on := 3, ground := Ground.chain }], guard := none }) rfl (fun K hK => ?_) (AllReadyH.nil)
    all_goals go_simp
    have hc := implCut w11 w11.heap.size ava aoa zva 4 avc l.length aoc zq.length zvc xs l zq (HVA11.out.more (by omega)) (HOA11.out.more (by omega)) (HZ11.out.more (by omega)) (Nat.le_refl _) (by omega) HCa.out.1 ⟨by omega, HCa.out.2.1⟩ HIa.out (by omega)
    rw [HB3'.out, HV3'.out, HO3'.out] at hc
    go_at_call 47
    refine hc.mono ?_
    clear hc
    rintro e w12 ⟨hva, hvc, hoa, hoc, mid, rfl, hov, hop, hm1, hm2, hb, hcn⟩
    have hov := hov.more (Nat.le_refl _) hm2
    have hop := hop.more hm1 (Nat.le_refl _)
    clear hm1 hm2 hcn
    have HY12 := Lib.hid (HY11.out.below hb (by omega))
    have HQ12 := Lib.hid (HQ11.out.below hb (by omega))
    have HZ12 := Lib.hid (HZ11.out.below hb (by omega))
    have hs12 := hb.size
    have HVA12 := Lib.hid (HVA11.out.below hb (by omega))
    have HOA12 := Lib.hid (HOA11.out.below hb (by omega))
    have HB12 := Lib.hid (HB11.out.trans (hb.mono (by omega)))
    have HXa12 := Lib.hid ((hb.block _ (lt_of_row HXa11.out)).trans HXa11.out)
    have HVN12 := Lib.hid (HVN11.out.below hb (by omega))
    have HON12 := Lib.hid (HON11.out.below hb (by omega))
    have HXn12 := Lib.hid ((hb.block _ (lt_of_row HXn11.out)).trans HXn11.out)
    have HXw12 := Lib.hid ((hb.block _ (lt_of_row HXw11.out)).trans HXw11.out)
    have HVG12 := Lib.hid (HVG11.out.below hb (by omega))
    have HOG12 := Lib.hid (HOG11.out.below hb (by omega))
    have HXg12 := Lib.hid ((hb.block _ (lt_of_row HXg11.out)).trans HXg11.out)
    have HXh12 := Lib.hid ((hb.block _ (lt_of_row HXh11.out)).trans HXh11.out)
    clear hb HVA11 HOA11 HB11 HXa11 HVN11 HON11 HXn11 HXw11 HVG11 HOG11 HXg11 HXh11
    clear HY11 HQ11 HZ11
    have hS12 : w12.cell? ⟨w0.heap.size, 0, none⟩ = some (.slice ava 4 avc) ∧ w12.cell? ⟨w0.heap.size, 1, none⟩ = some (.slice aoa l.length aoc) := ⟨(pair_cells HXa12.out).1, (pair_cells HXa12.out).2⟩
    refine hK.out _ _ hS12 (fun hHeld => ?_)
    clear hK K hHeld
    (try simp only [Act.put, List.setIfInBounds_toArray, List.set_cons_zero, List.set_cons_succ])
    refine wpAnyH_take (i := 5) (oi := { dst := some 64, op := Op.move (Operand.tmp 69), type := 30, pos := "laws.go:1448", after := #[{ on := 4, ground := Ground.data }], guard := none }) (v := ?_) rfl (by kernel_rfl) (by kernel_rfl) (by kernel_rfl) (fun _ _ _ h => h) (Or.inl ⟨by rfl, ?_⟩) (by assumption) ?_
    rotate_left
    · intro w hSw
      (try dsimp only at hSw)
      first | (go_simp; done) | (go_simp; with_reducible rfl)
    (try simp only [Act.put, List.setIfInBounds_toArray, List.set_cons_zero, List.set_cons_succ])
    refine wpAnyH_take (i := 6) (oi := { dst := some 70, op := Op.extract (Operand.tmp 64) 0, type := 27, pos := "laws.go:1448", after := #[{ on := 5, ground := Ground.data }], guard := none }) (v := ?_) rfl (by kernel_rfl) (by kernel_rfl) (by kernel_rfl) (fun _ _ _ h => h) (Or.inl ⟨by rfl, ?_⟩) (by assumption) ?_
    rotate_left
    · intro w hSw
      (try dsimp only at hSw)
      first | (go_simp; done) | (go_simp; with_reducible rfl)
    (try simp only [Act.put, List.setIfInBounds_toArray, List.set_cons_zero, List.set_cons_succ])
    refine wpAnyH_take (i := 7) (oi := { dst := some 71, op := Op.extract (Operand.tmp 64) 1, type := 4, pos := "laws.go:1448", after := #[{ on := 5, ground := Ground.data }, { on := 9, ground := Ground.gcOnly Departure.lateStores }], guard := none }) (v := ?_) rfl (by kernel_rfl) (by kernel_rfl) (by kernel_rfl) (fun _ _ _ h => h) (Or.inl ⟨by rfl, ?_⟩) (by assumption) ?_
    rotate_left
    · intro w hSw
      (try dsimp only at hSw)
      first | (go_simp; done) | (go_simp; with_reducible rfl)
    (try simp only [Act.put, List.setIfInBounds_toArray, List.set_cons_zero, List.set_cons_succ])
    obtain ⟨r0, r1⟩ := pair_cells HXh12.out
    obtain ⟨f0, f1⟩ := pair_frozen HXh12.out
    have hb : Below w9.heap.size w12 ((w12.setCell ⟨w9.heap.size, 0, none⟩ (.slice hva vg.length hvc)).setCell ⟨w9.heap.size, 1, none⟩ (.slice hoa og.length hoc)) := below_set2 w12 w9.heap.size 0 1 _ _
    have hSt : ((w12.setCell ⟨w9.heap.size, 0, none⟩ (.slice hva vg.length hvc)).setCell ⟨w9.heap.size, 1, none⟩ (.slice hoa og.length hoc)).cell? ⟨w0.heap.size, 0, none⟩ = some (.slice ava 4 avc) ∧ ((w12.setCell ⟨w9.heap.size, 0, none⟩ (.slice hva vg.length hvc)).setCell ⟨w9.heap.size, 1, none⟩ (.slice hoa og.length hoc)).cell? ⟨w0.heap.size, 1, none⟩ = some (.slice aoa l.length aoc) := ⟨(pair_cells ((hb.block _ (by omega)).trans HXa12.out)).1, (pair_cells ((hb.block _ (by omega)).trans HXa12.out)).2⟩
    refine wpAnyH_ready (rs := [9]) (by kernel_rfl) (by simp) ?_
    refine AllReadyH.cons (o := { dst := none, op := Op.store 27 (Operand.tmp 13) (Operand.tmp 70), type := 0, pos := "laws.go:1448", after := #[{ on := 8, ground := Ground.data }, { on := 6, ground := Ground.data }, { on := 4, ground := Ground.chain }, { on := 0, ground := Ground.phase }, { on := 1, ground := Ground.phase }, { on := 2, ground := Ground.phase }, { on := 3, ground := Ground.phase }, { on := 4, ground := Ground.phase }, { on := 5, ground := Ground.phase }, { on := 6, ground := Ground.phase }, { on := 7, ground := Ground.textOnly Departure.lateStores }, { on := 8, ground := Ground.phase }], guard := none }) rfl (fun K hK => ?_) AllReadyH.nil
    go_simp
    refine hK.out _ _ hSt (fun hHeld77 => ?_)
    clear hK K
    (try simp only [Act.put, List.setIfInBounds_toArray, List.set_cons_zero, List.set_cons_succ])
    refine wpAnyH_take (i := 10) (oi := { dst := some 14, op := Op.assign (Operand.tmp 71), type := 4, pos := "laws.go:1448", after := #[{ on := 7, ground := Ground.data }, { on := 9, ground := Ground.chain }, { on := 0, ground := Ground.phase }, { on := 1, ground := Ground.phase }, { on := 2, ground := Ground.phase }, { on := 3, ground := Ground.phase }, { on := 4, ground := Ground.phase }, { on := 5, ground := Ground.phase }, { on := 6, ground := Ground.phase }, { on := 7, ground := Ground.phase }, { on := 8, ground := Ground.phase }, { on := 9, ground := Ground.phase }], guard := none }) (v := ?_) rfl (by kernel_rfl) (by kernel_rfl) (by kernel_rfl) (fun _ _ _ h => h) (Or.inl ⟨by rfl, ?_⟩) (by assumption) ?_
    rotate_left
    · intro w hSw
      (try dsimp only at hSw)
      first | (go_simp; done) | (go_simp; with_reducible rfl)
    (try simp only [Act.put, List.setIfInBounds_toArray, List.set_cons_zero, List.set_cons_succ])
    refine wpAnyH_done (by kernel_rfl) ?_ _
    have HXH := Lib.hid (pair_set (.slice hva vg.length hvc) (.slice hoa og.length hoc) HXh12.out)
    have HVH13 := Lib.hid (hov.kept (w' := (w12.setCell ⟨w9.heap.size, 0, none⟩ (.slice hva vg.length hvc)).setCell ⟨w9.heap.size, 1, none⟩ (.slice hoa og.length hoc)) fun j h1 h2 => pair_other _ _ (by omega)).ints
    have HOH13 := Lib.hid (hop.kept (w' := (w12.setCell ⟨w9.heap.size, 0, none⟩ (.slice hva vg.length hvc)).setCell ⟨w9.heap.size, 1, none⟩ (.slice hoa og.length hoc)) fun j h1 h2 => pair_other _ _ (by omega)).ops
    clear hov hop r0 r1 f0 f1 hSt hHeld77
    generalize (w12.setCell ⟨w9.heap.size, 0, none⟩ (.slice hva vg.length hvc)).setCell ⟨w9.heap.size, 1, none⟩ (.slice hoa og.length hoc) = w13 at hb HXH HVH13 HOH13 ⊢
    have hs13 := hb.size
    have HVA13 := Lib.hid (HVA12.out.below hb (by omega))
    have HOA13 := Lib.hid (HOA12.out.below hb (by omega))
    have HB13 := Lib.hid (HB12.out.trans (hb.mono (by omega)))
    have HY13 := Lib.hid (HY12.out.below hb (by omega))
    have HXa13 := Lib.hid ((hb.block _ (by omega)).trans HXa12.out)
    have HQ13 := Lib.hid (HQ12.out.below hb (by omega))
    have HVN13 := Lib.hid (HVN12.out.below hb (by omega))
    have HON13 := Lib.hid (HON12.out.below hb (by omega))
    have HVG13 := Lib.hid (HVG12.out.below hb (by omega))
    have HOG13 := Lib.hid (HOG12.out.below hb (by omega))
    have HXg13 := Lib.hid ((hb.block _ (by omega)).trans HXg12.out)
    have HXh13 := HXH
    clear HXH hb HVA12 HOA12 HB12 HY12 HXa12 HQ12 HVN12 HON12 HXn12 HXw12 HVG12 HOG12 HXg12 HXh12 HZ12
    obtain ⟨c00, c01⟩ := pair_cells HXa13.out
    go_wp2_with fail
    have hc := implCut w13 w13.heap.size ava aoa qv 4 avc l.length aoc nq qc xs l qs (HVA13.out.more (by omega)) (HOA13.out.more (by omega)) (HQ13.out.more (by omega)) (Nat.le_refl _) (by omega) HCa.out.1 ⟨by omega, HCa.out.2.1⟩ HIa.out (by omega)
    rw [HB4'.out, HV4'.out, HO4'.out] at hc
    refine hc.mono ?_
    clear hc
    rintro e w14 ⟨mva, mvc, moa, moc, mid, rfl, hov, hop, hm1, hm2, hb, hcn⟩
    clear c00 c01
    have HCm := Lib.hid hcn
    have hov := hov.more (Nat.le_refl _) hm2
    clear hcn hm1 hm2
    have HY14 := Lib.hid (HY13.out.below hb (by omega))
    have HQ14 := Lib.hid (HQ13.out.below hb (by omega))
    have hs14 := hb.size
    have HVA14 := Lib.hid (HVA13.out.below hb (by omega))
    have HOA14 := Lib.hid (HOA13.out.below hb (by omega))
    have HB14 := Lib.hid (HB13.out.trans (hb.mono (by omega)))
    have HXa14 := Lib.hid ((hb.block _ (lt_of_row HXa13.out)).trans HXa13.out)
    have HVN14 := Lib.hid (HVN13.out.below hb (by omega))
    have HON14 := Lib.hid (HON13.out.below hb (by omega))
    have HVG14 := Lib.hid (HVG13.out.below hb (by omega))
    have HOG14 := Lib.hid (HOG13.out.below hb (by omega))
    have HXg14 := Lib.hid ((hb.block _ (lt_of_row HXg13.out)).trans HXg13.out)
    have HXh14 := Lib.hid ((hb.block _ (lt_of_row HXh13.out)).trans HXh13.out)
    have HVH14 := Lib.hid (HVH13.out.below hb (by omega))
    have HOH14 := Lib.hid (HOH13.out.below hb (by omega))
    clear hb HVA13 HOA13 HB13 HXa13 HVN13 HON13 HVG13 HOG13 HXg13 HXh13 HVH13 HOH13
    clear HY13 HQ13
    have HVM14 := Lib.hid hov.ints
    have HOM14 := Lib.hid hop.ops
    clear hov hop
    go_upto_region 12 with fail
    have hb : Below w14.heap.size w14 (w14.alloc (.cells #[.slice mva vm.length mvc, .slice moa om.length moc] 27)) := (Below.refl _ _).alloc (Nat.le_refl _) _
    have HXm15 := Lib.hid (boxAt (Below.refl _ (w14.alloc (.cells #[.slice mva vm.length mvc, .slice moa om.length moc] 27))))
    generalize w14.alloc (.cells #[.slice mva vm.length mvc, .slice moa om.length moc] 27) = w15 at hb HXm15 ⊢
    have HY15 := Lib.hid (HY14.out.below hb (by omega))
    have HQ15 := Lib.hid (HQ14.out.below hb (by omega))
    have hs15 := hb.size
    have HVA15 := Lib.hid (HVA14.out.below hb (by omega))
    have HOA15 := Lib.hid (HOA14.out.below hb (by omega))
    have HB15 := Lib.hid (HB14.out.trans (hb.mono (by omega)))
    have HXa15 := Lib.hid ((hb.block _ (lt_of_row HXa14.out)).trans HXa14.out)
    have HVN15 := Lib.hid (HVN14.out.below hb (by omega))
    have HON15 := Lib.hid (HON14.out.below hb (by omega))
    have HVG15 := Lib.hid (HVG14.out.below hb (by omega))
    have HOG15 := Lib.hid (HOG14.out.below hb (by omega))
    have HXg15 := Lib.hid ((hb.block _ (lt_of_row HXg14.out)).trans HXg14.out)
    have HXh15 := Lib.hid ((hb.block _ (lt_of_row HXh14.out)).trans HXh14.out)
    have HVH15 := Lib.hid (HVH14.out.below hb (by omega))
    have HOH15 := Lib.hid (HOH14.out.below hb (by omega))
    have HVM15 := Lib.hid (HVM14.out.below hb (by omega))
    have HOM15 := Lib.hid (HOM14.out.below hb (by omega))
    clear hb HVA14 HOA14 HB14 HXa14 HVN14 HON14 HVG14 HOG14 HXg14 HXh14 HVH14 HOH14 HVM14 HOM14
    clear HY14 HQ14
    obtain ⟨c00, c01⟩ := pair_cells HXm15.out
    go_wp2_with fail
    have hc := implCut w15 w15.heap.size mva moa bv vm.length mvc om.length moc nb bc vm om ys (HVM15.out.more (by omega)) (HOM15.out.more (by omega)) (HY15.out.more (by omega)) (Nat.le_refl _) (by omega) HCm.out.1 ⟨by omega, HCm.out.2.1⟩ HIm.out (by omega)
    rw [HB5'.out, HV5'.out, HO5'.out] at hc
    refine hc.mono ?_
    clear hc
    rintro e w16 ⟨dva, dvc, doa, doc, mid, rfl, hov, hop, hm1, hm2, hb, hcn⟩
    clear c00 c01
    have HCd := Lib.hid hcn
    have hov := hov.more (Nat.le_refl _) hm2
    clear hcn hm1 hm2
    have HY16 := Lib.hid (HY15.out.below hb (by omega))
    have HQ16 := Lib.hid (HQ15.out.below hb (by omega))
    have hs16 := hb.size
    have HVA16 := Lib.hid (HVA15.out.below hb (by omega))
    have HOA16 := Lib.hid (HOA15.out.below hb (by omega))
    have HB16 := Lib.hid (HB15.out.trans (hb.mono (by omega)))
    have HXa16 := Lib.hid ((hb.block _ (lt_of_row HXa15.out)).trans HXa15.out)
    have HVN16 := Lib.hid (HVN15.out.below hb (by omega))
    have HON16 := Lib.hid (HON15.out.below hb (by omega))
    have HVG16 := Lib.hid (HVG15.out.below hb (by omega))
    have HOG16 := Lib.hid (HOG15.out.below hb (by omega))
    have HXg16 := Lib.hid ((hb.block _ (lt_of_row HXg15.out)).trans HXg15.out)
    have HXh16 := Lib.hid ((hb.block _ (lt_of_row HXh15.out)).trans HXh15.out)
    have HVH16 := Lib.hid (HVH15.out.below hb (by omega))
    have HOH16 := Lib.hid (HOH15.out.below hb (by omega))
    have HVM16 := Lib.hid (HVM15.out.below hb (by omega))
    have HOM16 := Lib.hid (HOM15.out.below hb (by omega))
    have HXm16 := Lib.hid ((hb.block _ (lt_of_row HXm15.out)).trans HXm15.out)
    clear hb HVA15 HOA15 HB15 HXa15 HVN15 HON15 HVG15 HOG15 HXg15 HXh15 HVH15 HOH15 HVM15 HOM15 HXm15
    clear HY15 HQ15
    have HVD16 := Lib.hid hov.ints
    have HOD16 := Lib.hid hop.ops
    clear hov hop
    go_upto_region 13 with fail
    have hb : Below w16.heap.size w16 (w16.alloc (.cells #[.slice dva vg.length dvc, .slice doa og.length doc] 27)) := (Below.refl _ _).alloc (Nat.le_refl _) _
    have HXd17 := Lib.hid (boxAt (Below.refl _ (w16.alloc (.cells #[.slice dva vg.length dvc, .slice doa og.length doc] 27))))
    generalize w16.alloc (.cells #[.slice dva vg.length dvc, .slice doa og.length doc] 27) = w17 at hb HXd17 ⊢
    have HY17 := Lib.hid (HY16.out.below hb (by omega))
    have HQ17 := Lib.hid (HQ16.out.below hb (by omega))
    have hs17 := hb.size
    have HVA17 := Lib.hid (HVA16.out.below hb (by omega))
    have HOA17 := Lib.hid (HOA16.out.below hb (by omega))
    have HB17 := Lib.hid (HB16.out.trans (hb.mono (by omega)))
    have HXa17 := Lib.hid ((hb.block _ (lt_of_row HXa16.out)).trans HXa16.out)
    have HVN17 := Lib.hid (HVN16.out.below hb (by omega))
    have HON17 := Lib.hid (HON16.out.below hb (by omega))
    have HVG17 := Lib.hid (HVG16.out.below hb (by omega))
    have HOG17 := Lib.hid (HOG16.out.below hb (by omega))
    have HXg17 := Lib.hid ((hb.block _ (lt_of_row HXg16.out)).trans HXg16.out)
    have HXh17 := Lib.hid ((hb.block _ (lt_of_row HXh16.out)).trans HXh16.out)
    have HVH17 := Lib.hid (HVH16.out.below hb (by omega))
    have HOH17 := Lib.hid (HOH16.out.below hb (by omega))
    have HVM17 := Lib.hid (HVM16.out.below hb (by omega))
    have HOM17 := Lib.hid (HOM16.out.below hb (by omega))
    have HXm17 := Lib.hid ((hb.block _ (lt_of_row HXm16.out)).trans HXm16.out)
    have HVD17 := Lib.hid (HVD16.out.below hb (by omega))
    have HOD17 := Lib.hid (HOD16.out.below hb (by omega))
    clear hb HVA16 HOA16 HB16 HXa16 HVN16 HON16 HVG16 HOG16 HXg16 HXh16 HVH16 HOH16 HVM16 HOM16 HXm16 HVD16 HOD16
    clear HY16 HQ16
    obtain ⟨c00, c01⟩ := pair_cells HXg17.out
    obtain ⟨c10, c11⟩ := pair_cells HXh17.out
    go_wp2_with fail
    refine (sameCart w17 w17.heap.size gva goa hva hoa vg.length gvc og.length goc vg.length hvc og.length hoc vg og vg og (HVG17.out.more (by omega)) (HOG17.out.more (by omega)) (HVH17.out.more (by omega)) (HOH17.out.more (by omega)) (Nat.le_refl _) (by omega) (by omega) (by omega) (by omega)).mono ?_
    rintro e w18 ⟨rfl, hb⟩
    rw [decide_eq_true rfl, decide_eq_true rfl]
    clear c00 c01 c10 c11
    have HY18 := Lib.hid (HY17.out.below hb (by omega))
    have HQ18 := Lib.hid (HQ17.out.below hb (by omega))
    have hs18 := hb.size
    have HVA18 := Lib.hid (HVA17.out.below hb (by omega))
    have HOA18 := Lib.hid (HOA17.out.below hb (by omega))
    have HB18 := Lib.hid (HB17.out.trans (hb.mono (by omega)))
    have HXa18 := Lib.hid ((hb.block _ (lt_of_row HXa17.out)).trans HXa17.out)
    have HVN18 := Lib.hid (HVN17.out.below hb (by omega))
    have HON18 := Lib.hid (HON17.out.below hb (by omega))
    have HVG18 := Lib.hid (HVG17.out.below hb (by omega))
    have HOG18 := Lib.hid (HOG17.out.below hb (by omega))
    have HXg18 := Lib.hid ((hb.block _ (lt_of_row HXg17.out)).trans HXg17.out)
    have HXh18 := Lib.hid ((hb.block _ (lt_of_row HXh17.out)).trans HXh17.out)
    have HVH18 := Lib.hid (HVH17.out.below hb (by omega))
    have HOH18 := Lib.hid (HOH17.out.below hb (by omega))
    have HVM18 := Lib.hid (HVM17.out.below hb (by omega))
    have HOM18 := Lib.hid (HOM17.out.below hb (by omega))
    have HXm18 := Lib.hid ((hb.block _ (lt_of_row HXm17.out)).trans HXm17.out)
    have HVD18 := Lib.hid (HVD17.out.below hb (by omega))
    have HOD18 := Lib.hid (HOD17.out.below hb (by omega))
    have HXd18 := Lib.hid ((hb.block _ (lt_of_row HXd17.out)).trans HXd17.out)
    clear hb HVA17 HOA17 HB17 HXa17 HVN17 HON17 HVG17 HOG17 HXg17 HXh17 HVH17 HOH17 HVM17 HOM17 HXm17 HVD17 HOD17 HXd17
    clear HY17 HQ17
    obtain ⟨c00, c01⟩ := pair_cells HXd18.out
    obtain ⟨c10, c11⟩ := pair_cells HXh18.out
    go_wp2_with fail
    refine (sameCart w18 w18.heap.size dva doa hva hoa vg.length dvc og.length doc vg.length hvc og.length hoc vg og vg og (HVD18.out.more (by omega)) (HOD18.out.more (by omega)) (HVH18.out.more (by omega)) (HOH18.out.more (by omega)) (Nat.le_refl _) (by omega) (by omega) (by omega) (by omega)).mono ?_
    rintro e w19 ⟨rfl, hb⟩
    rw [decide_eq_true rfl, decide_eq_true rfl]
    clear c00 c01 c10 c11
    have HY19 := Lib.hid (HY18.out.below hb (by omega))
    have HQ19 := Lib.hid (HQ18.out.below hb (by omega))
    have hs19 := hb.size
    have HVA19 := Lib.hid (HVA18.out.below hb (by omega))
    have HOA19 := Lib.hid (HOA18.out.below hb (by omega))
    have HB19 := Lib.hid (HB18.out.trans (hb.mono (by omega)))
    have HXa19 := Lib.hid ((hb.block _ (lt_of_row HXa18.out)).trans HXa18.out)
    have HVN19 := Lib.hid (HVN18.out.below hb (by omega))
    have HON19 := Lib.hid (HON18.out.below hb (by omega))
    have HVG19 := Lib.hid (HVG18.out.below hb (by omega))
    have HOG19 := Lib.hid (HOG18.out.below hb (by omega))
    have HXg19 := Lib.hid ((hb.block _ (lt_of_row HXg18.out)).trans HXg18.out)
    have HXh19 := Lib.hid ((hb.block _ (lt_of_row HXh18.out)).trans HXh18.out)
    have HVH19 := Lib.hid (HVH18.out.below hb (by omega))
    have HOH19 := Lib.hid (HOH18.out.below hb (by omega))
    have HVM19 := Lib.hid (HVM18.out.below hb (by omega))
    have HOM19 := Lib.hid (HOM18.out.below hb (by omega))
    have HXm19 := Lib.hid ((hb.block _ (lt_of_row HXm18.out)).trans HXm18.out)
    have HVD19 := Lib.hid (HVD18.out.below hb (by omega))
    have HOD19 := Lib.hid (HOD18.out.below hb (by omega))
    have HXd19 := Lib.hid ((hb.block _ (lt_of_row HXd18.out)).trans HXd18.out)
    clear hb HVA18 HOA18 HB18 HXa18 HVN18 HON18 HVG18 HOG18 HXg18 HXh18 HVH18 HOH18 HVM18 HOM18 HXm18 HVD18 HOD18 HXd18
    clear HY18 HQ18
    go_wp2
    go_ret
    exact ⟨rfl, HB19.out⟩
end Go.Proofs.Ythfkoplljinmmaa
