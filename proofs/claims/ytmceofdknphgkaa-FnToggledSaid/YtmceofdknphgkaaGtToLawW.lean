/- The walk of the law FnToggled. -/
import Derived.Test.YtmceofdknphgkaaGtTgdW
import Derived.Test.YtmceofdknphgkaaGtTgsM
import Derived.Test.YtmceofdknphgkaaGtTogI
import Derived.Test.YtmceofdknphgkaaGa23
import Derived.Test.YtmceofdknphgkaaGa25
import Derived.Deep.Cut
import Derived.Test.YtmceofdknphgkaaGtS
namespace Go.Proofs.Ytmceofdknphgkaa
open Go.RowKit
set_option linter.unusedVariables false
set_option linter.unusedSimpArgs false

set_option maxRecDepth 100000 in
set_option maxHeartbeats 16000000 in
theorem fnToggledWalk (a : Option Addr) (len cap : Nat) (zs : List Int) (w : World) (h : IsRow .u8 w a len cap zs) :
    Calls Try.prog 4 #[.slice a len cap] w fun e w' => e = .returned (.bool true) ∧ Below w.heap.size w w' := by
  by_cases hbig : len ≤ 1048576
  rotate_left
  · go_enter Try.func4, Try.ntmps4
    go_wp2_with fail
    refine (bigYes a len cap hbig w).mono ?_
    rintro e w' ⟨rfl, rfl⟩
    go_wp2
    go_ret
    exact ⟨rfl, Below.refl _ _⟩
  have hsrc := Lib.hid (src_of_row h hbig)
  clear h
  go_enter Try.func4, Try.ntmps4
  go_wp2_with fail
  refine (bigNo a len cap hbig w).mono ?_
  rintro e w' ⟨rfl, rfl⟩
  go_wp2_with fail
  refine (drawToggled w w.heap.size a len cap (Nat.le_refl _) hsrc.out).mono ?_
  rintro e w0 ⟨⟨ava, avc, aoa, ano, aoc⟩, ⟨bva, bvc, boa, bno, boc⟩, rfl, hx, hy, hb0⟩
  obtain ⟨xs, l, e1, a1, a2, a3, a4, a5, a6⟩ := hx
  obtain ⟨ys, m, e2, b1, b2, b3, b4, b5, b6⟩ := hy
  have e1 : ano = l.length := e1
  have e2 : bno = m.length := e2
  subst e1 e2
  have HVA0 := Lib.hid a1.ints
  have HOA0 := Lib.hid a2.ops
  have HVB0 := Lib.hid b1.ints
  have HOB0 := Lib.hid b2.ops
  have HB0 := Lib.hid hb0
  have HCa := Lib.hid a4
  have HCb := Lib.hid b4
  have HIa : Hid (∀ i, i < l.length → (atOp l i).item.size ≤ 1048576) := fun i hi => Nat.le_trans (a5 i hi) (by omega)
  have HIb : Hid (∀ i, i < m.length → (atOp m i).item.size ≤ 1048576) := fun i hi => Nat.le_trans (b5 i hi) (by omega)
  have hs0 := hb0.size
  clear a1 a2 a3 a4 a5 b1 b2 b3 b4 b5 hb0
  dsimp only
  go_upto_region 4 with fail
  have hT := Two.mk0 w0 #[.slice ava 4 avc, .slice aoa l.length aoc] #[.slice bva 4 bvc, .slice boa m.length boc] 27
  have HXa1 := Lib.hid hT.fst
  have HXb1 := Lib.hid hT.snd
  have hb := hT.bel
  clear hT
  generalize (w0.alloc (.cells #[.slice ava 4 avc, .slice aoa l.length aoc] 27)).alloc (.cells #[.slice bva 4 bvc, .slice boa m.length boc] 27) = w1 at hb HXa1 HXb1 ⊢
  have hs1 := hb.size
  have HVA1 := Lib.hid (HVA0.out.below hb (by omega))
  have HOA1 := Lib.hid (HOA0.out.below hb (by omega))
  have HVB1 := Lib.hid (HVB0.out.below hb (by omega))
  have HOB1 := Lib.hid (HOB0.out.below hb (by omega))
  have HB1 := Lib.hid (HB0.out.trans (hb.mono (by omega)))
  clear hb HVA0 HOA0 HVB0 HOB0 HB0
  have hx4 : xs.length = 4 := HVA1.out.1
  have hy4 : ys.length = 4 := HVB1.out.1
  obtain ⟨t1, ht1⟩ : ∃ t, togL xs l ys m = t := ⟨_, rfl⟩
  have HT1 := Lib.hid ht1
  have hl1 : t1.length ≤ 400 := by rw [← ht1]; exact Nat.le_trans (tog_len xs l ys m) b6
  clear ht1
  obtain ⟨c00, c01⟩ := pair_cells HXa1.out
  obtain ⟨c10, c11⟩ := pair_cells HXb1.out
  go_wp2_with fail
  have hc := implToggled w1 w1.heap.size ava aoa bva boa 4 avc l.length aoc 4 bvc m.length boc xs l ys m (HVA1.out.more (by omega)) (HOA1.out.more (by omega)) (HVB1.out.more (by omega)) (HOB1.out.more (by omega)) (Nat.le_refl _) (by omega) HCa.out.1 ⟨by omega, HCa.out.2.1⟩ (by omega) HCb.out.1 ⟨by omega, HCb.out.2.1⟩ HIb.out
  rw [HT1.out] at hc
  refine hc.mono ?_
  clear hc
  rintro e w2 ⟨pa, pc, rfl, hop, hb⟩
  clear c00 c01 c10 c11
  have hs2 := hb.size
  have HVA2 := Lib.hid (HVA1.out.below hb (by omega))
  have HOA2 := Lib.hid (HOA1.out.below hb (by omega))
  have HVB2 := Lib.hid (HVB1.out.below hb (by omega))
  have HOB2 := Lib.hid (HOB1.out.below hb (by omega))
  have HB2 := Lib.hid (HB1.out.trans (hb.mono (by omega)))
  have HXa2 := Lib.hid ((hb.block _ (lt_of_row HXa1.out)).trans HXa1.out)
  have HXb2 := Lib.hid ((hb.block _ (lt_of_row HXb1.out)).trans HXb1.out)
  clear hb HVA1 HOA1 HVB1 HOB1 HB1 HXa1 HXb1
  have HP2 := Lib.hid hop.ops
  clear hop
  obtain ⟨c00, c01⟩ := pair_cells HXa2.out
  obtain ⟨c10, c11⟩ := pair_cells HXb2.out
  go_wp2_with fail
  have hc := specToggled w2 w2.heap.size ava aoa bva boa 4 avc l.length aoc 4 bvc m.length boc xs l ys m (HVA2.out.more (by omega)) (HOA2.out.more (by omega)) (HVB2.out.more (by omega)) (HOB2.out.more (by omega)) (Nat.le_refl _) (by omega) (by omega) (by omega) (by omega) HIa.out HIb.out
  rw [HT1.out] at hc
  refine hc.mono ?_
  clear hc
  rintro e w3 ⟨qa, qc, rfl, hop, hb⟩
  clear c00 c01 c10 c11
  have HP3 := Lib.hid (HP2.out.below hb (by omega))
  have hs3 := hb.size
  have HVA3 := Lib.hid (HVA2.out.below hb (by omega))
  have HOA3 := Lib.hid (HOA2.out.below hb (by omega))
  have HVB3 := Lib.hid (HVB2.out.below hb (by omega))
  have HOB3 := Lib.hid (HOB2.out.below hb (by omega))
  have HB3 := Lib.hid (HB2.out.trans (hb.mono (by omega)))
  have HXa3 := Lib.hid ((hb.block _ (lt_of_row HXa2.out)).trans HXa2.out)
  have HXb3 := Lib.hid ((hb.block _ (lt_of_row HXb2.out)).trans HXb2.out)
  clear hb HVA2 HOA2 HVB2 HOB2 HB2 HXa2 HXb2
  clear HP2
  have HQ3 := Lib.hid hop.ops
  clear hop
  obtain ⟨c00, c01⟩ := pair_cells HXa3.out
  obtain ⟨c10, c11⟩ := pair_cells HXb3.out
  go_wp2_with fail
  refine (sameOps w3 w3.heap.size w3.heap.size pa qa t1.length pc t1.length qc t1 t1 (HP3.out.more (by omega)) (HQ3.out.more (by omega)) (Nat.le_refl _) (Nat.le_refl _) (by omega) (by omega)).mono ?_
  rintro e w4 ⟨rfl, hb⟩
  rw [decide_eq_true rfl]
  have HP4 := Lib.hid (HP3.out.below hb (by omega))
  have HQ4 := Lib.hid (HQ3.out.below hb (by omega))
  have hs4 := hb.size
  have HVA4 := Lib.hid (HVA3.out.below hb (by omega))
  have HOA4 := Lib.hid (HOA3.out.below hb (by omega))
  have HVB4 := Lib.hid (HVB3.out.below hb (by omega))
  have HOB4 := Lib.hid (HOB3.out.below hb (by omega))
  have HB4 := Lib.hid (HB3.out.trans (hb.mono (by omega)))
  have HXa4 := Lib.hid ((hb.block _ (lt_of_row HXa3.out)).trans HXa3.out)
  have HXb4 := Lib.hid ((hb.block _ (lt_of_row HXb3.out)).trans HXb3.out)
  clear hb HVA3 HOA3 HVB3 HOB3 HB3 HXa3 HXb3
  clear HP3 HQ3
  clear c00 c01 c10 c11
  clear HQ4
  obtain ⟨ca, hca⟩ : ∃ b, cartB xs l = b := ⟨_, rfl⟩
  have Hca := Lib.hid hca
  clear hca
  obtain ⟨c00, c01⟩ := pair_cells HXa4.out
  go_wp2_with fail
  have hc := specCartOk w4 w4.heap.size ava aoa 4 avc l.length aoc xs l (HVA4.out.more (by omega)) (HOA4.out.more (by omega)) (Nat.le_refl _) (by omega) (by omega) HIa.out
  rw [Hca.out] at hc
  refine hc.mono ?_
  clear hc
  rintro e w5 ⟨rfl, hb⟩
  clear c00 c01
  have HP5 := Lib.hid (HP4.out.below hb (by omega))
  have hs5 := hb.size
  have HVA5 := Lib.hid (HVA4.out.below hb (by omega))
  have HOA5 := Lib.hid (HOA4.out.below hb (by omega))
  have HVB5 := Lib.hid (HVB4.out.below hb (by omega))
  have HOB5 := Lib.hid (HOB4.out.below hb (by omega))
  have HB5 := Lib.hid (HB4.out.trans (hb.mono (by omega)))
  have HXa5 := Lib.hid ((hb.block _ (lt_of_row HXa4.out)).trans HXa4.out)
  have HXb5 := Lib.hid ((hb.block _ (lt_of_row HXb4.out)).trans HXb4.out)
  clear hb HVA4 HOA4 HVB4 HOB4 HB4 HXa4 HXb4
  clear HP4
  cases ca
  · skip
    obtain ⟨c00, c01⟩ := pair_cells HXa5.out
    obtain ⟨c10, c11⟩ := pair_cells HXb5.out
    go_wp2_with fail
    have hc := specToggled w5 w5.heap.size ava aoa bva boa 4 avc l.length aoc 4 bvc m.length boc xs l ys m (HVA5.out.more (by omega)) (HOA5.out.more (by omega)) (HVB5.out.more (by omega)) (HOB5.out.more (by omega)) (Nat.le_refl _) (by omega) (by omega) (by omega) (by omega) HIa.out HIb.out
    rw [HT1.out] at hc
    refine hc.mono ?_
    clear hc
    rintro e w6 ⟨qa, qc, rfl, hop, hb⟩
    clear c00 c01 c10 c11
    have HP6 := Lib.hid (HP5.out.below hb (by omega))
    have hs6 := hb.size
    have HVA6 := Lib.hid (HVA5.out.below hb (by omega))
    have HOA6 := Lib.hid (HOA5.out.below hb (by omega))
    have HVB6 := Lib.hid (HVB5.out.below hb (by omega))
    have HOB6 := Lib.hid (HOB5.out.below hb (by omega))
    have HB6 := Lib.hid (HB5.out.trans (hb.mono (by omega)))
    have HXa6 := Lib.hid ((hb.block _ (lt_of_row HXa5.out)).trans HXa5.out)
    have HXb6 := Lib.hid ((hb.block _ (lt_of_row HXb5.out)).trans HXb5.out)
    clear hb HVA5 HOA5 HVB5 HOB5 HB5 HXa5 HXb5
    clear HP5
    have HQ6 := Lib.hid hop.ops
    clear hop
    obtain ⟨c00, c01⟩ := pair_cells HXa6.out
    obtain ⟨c10, c11⟩ := pair_cells HXb6.out
    go_wp2_with fail
    refine (sameOps w6 w6.heap.size w6.heap.size pa qa t1.length pc t1.length qc t1 t1 (HP6.out.more (by omega)) (HQ6.out.more (by omega)) (Nat.le_refl _) (Nat.le_refl _) (by omega) (by omega)).mono ?_
    rintro e w7 ⟨rfl, hb⟩
    rw [decide_eq_true rfl]
    have HP7 := Lib.hid (HP6.out.below hb (by omega))
    have HQ7 := Lib.hid (HQ6.out.below hb (by omega))
    have hs7 := hb.size
    have HVA7 := Lib.hid (HVA6.out.below hb (by omega))
    have HOA7 := Lib.hid (HOA6.out.below hb (by omega))
    have HVB7 := Lib.hid (HVB6.out.below hb (by omega))
    have HOB7 := Lib.hid (HOB6.out.below hb (by omega))
    have HB7 := Lib.hid (HB6.out.trans (hb.mono (by omega)))
    have HXa7 := Lib.hid ((hb.block _ (lt_of_row HXa6.out)).trans HXa6.out)
    have HXb7 := Lib.hid ((hb.block _ (lt_of_row HXb6.out)).trans HXb6.out)
    clear hb HVA6 HOA6 HVB6 HOB6 HB6 HXa6 HXb6
    clear HP6 HQ6
    clear c00 c01 c10 c11
    clear HQ7
    go_wp2
    go_ret
    exact ⟨rfl, HB7.out⟩
  obtain ⟨cb, hcb⟩ : ∃ b, cartB ys m = b := ⟨_, rfl⟩
  have Hcb := Lib.hid hcb
  clear hcb
  obtain ⟨c00, c01⟩ := pair_cells HXb5.out
  go_wp2_with fail
  have hc := specCartOk w5 w5.heap.size bva boa 4 bvc m.length boc ys m (HVB5.out.more (by omega)) (HOB5.out.more (by omega)) (Nat.le_refl _) (by omega) (by omega) HIb.out
  rw [Hcb.out] at hc
  refine hc.mono ?_
  clear hc
  rintro e w6 ⟨rfl, hb⟩
  clear c00 c01
  have HP6 := Lib.hid (HP5.out.below hb (by omega))
  have hs6 := hb.size
  have HVA6 := Lib.hid (HVA5.out.below hb (by omega))
  have HOA6 := Lib.hid (HOA5.out.below hb (by omega))
  have HVB6 := Lib.hid (HVB5.out.below hb (by omega))
  have HOB6 := Lib.hid (HOB5.out.below hb (by omega))
  have HB6 := Lib.hid (HB5.out.trans (hb.mono (by omega)))
  have HXa6 := Lib.hid ((hb.block _ (lt_of_row HXa5.out)).trans HXa5.out)
  have HXb6 := Lib.hid ((hb.block _ (lt_of_row HXb5.out)).trans HXb5.out)
  clear hb HVA5 HOA5 HVB5 HOB5 HB5 HXa5 HXb5
  clear HP5
  cases cb
  · skip
    obtain ⟨c00, c01⟩ := pair_cells HXa6.out
    obtain ⟨c10, c11⟩ := pair_cells HXb6.out
    go_wp2_with fail
    have hc := specToggled w6 w6.heap.size ava aoa bva boa 4 avc l.length aoc 4 bvc m.length boc xs l ys m (HVA6.out.more (by omega)) (HOA6.out.more (by omega)) (HVB6.out.more (by omega)) (HOB6.out.more (by omega)) (Nat.le_refl _) (by omega) (by omega) (by omega) (by omega) HIa.out HIb.out
    rw [HT1.out] at hc
    refine hc.mono ?_
    clear hc
    rintro e w7 ⟨qa, qc, rfl, hop, hb⟩
    clear c00 c01 c10 c11
    have HP7 := Lib.hid (HP6.out.below hb (by omega))
    have hs7 := hb.size
    have HVA7 := Lib.hid (HVA6.out.below hb (by omega))
    have HOA7 := Lib.hid (HOA6.out.below hb (by omega))
    have HVB7 := Lib.hid (HVB6.out.below hb (by omega))
    have HOB7 := Lib.hid (HOB6.out.below hb (by omega))
    have HB7 := Lib.hid (HB6.out.trans (hb.mono (by omega)))
    have HXa7 := Lib.hid ((hb.block _ (lt_of_row HXa6.out)).trans HXa6.out)
    have HXb7 := Lib.hid ((hb.block _ (lt_of_row HXb6.out)).trans HXb6.out)
    clear hb HVA6 HOA6 HVB6 HOB6 HB6 HXa6 HXb6
    clear HP6
    have HQ7 := Lib.hid hop.ops
    clear hop
    obtain ⟨c00, c01⟩ := pair_cells HXa7.out
    obtain ⟨c10, c11⟩ := pair_cells HXb7.out
    go_wp2_with fail
    refine (sameOps w7 w7.heap.size w7.heap.size pa qa t1.length pc t1.length qc t1 t1 (HP7.out.more (by omega)) (HQ7.out.more (by omega)) (Nat.le_refl _) (Nat.le_refl _) (by omega) (by omega)).mono ?_
    rintro e w8 ⟨rfl, hb⟩
    rw [decide_eq_true rfl]
    have HP8 := Lib.hid (HP7.out.below hb (by omega))
    have HQ8 := Lib.hid (HQ7.out.below hb (by omega))
    have hs8 := hb.size
    have HVA8 := Lib.hid (HVA7.out.below hb (by omega))
    have HOA8 := Lib.hid (HOA7.out.below hb (by omega))
    have HVB8 := Lib.hid (HVB7.out.below hb (by omega))
    have HOB8 := Lib.hid (HOB7.out.below hb (by omega))
    have HB8 := Lib.hid (HB7.out.trans (hb.mono (by omega)))
    have HXa8 := Lib.hid ((hb.block _ (lt_of_row HXa7.out)).trans HXa7.out)
    have HXb8 := Lib.hid ((hb.block _ (lt_of_row HXb7.out)).trans HXb7.out)
    clear hb HVA7 HOA7 HVB7 HOB7 HB7 HXa7 HXb7
    clear HP7 HQ7
    clear c00 c01 c10 c11
    clear HQ8
    go_wp2
    go_ret
    exact ⟨rfl, HB8.out⟩
  obtain ⟨t2, ht2⟩ : ∃ t, togL ys m xs l = t := ⟨_, rfl⟩
  have HT2 := Lib.hid ht2
  have htb := tog_both Hca.out Hcb.out
  rw [HT1.out, ht2] at htb
  have HLen := Lib.hid htb.1
  have HPt := Lib.hid htb.2
  have HSelf : Hid (togL xs l xs l = []) := tog_self Hca.out
  have HOk1 : Hid (∀ i, i < t1.length → (atOp t1 i).ok = true) := fun i hi => by
    have h1 : atOp t1 i ∈ t1 := atOp_memT hi
    rw [← HT1.out, tog_yes (by rw [Hca.out, Hcb.out]; rfl)] at h1
    obtain ⟨j, hj, e⟩ := List.mem_iff_getElem.1 (List.mem_filter.1 h1).1
    have h2 := cart_ok_at Hcb.out hj
    have e2 : atOp m j = atOp t1 i := by
      rw [← HT1.out, tog_yes (by rw [Hca.out, Hcb.out]; rfl)]
      show m.getD j OpV.zero = _
      rw [List.getD_eq_getElem?_getD, List.getElem?_eq_getElem hj]
      exact e
    rw [e2] at h2
    exact h2
  have HOk2 : Hid (∀ i, i < t2.length → (atOp t2 i).ok = true) := fun i hi => by
    have h1 : atOp t2 i ∈ t2 := atOp_memT hi
    rw [← HT2.out, tog_yes (by rw [Hca.out, Hcb.out]; rfl)] at h1
    obtain ⟨j, hj, e⟩ := List.mem_iff_getElem.1 (List.mem_filter.1 h1).1
    have h2 := cart_ok_at Hca.out hj
    have e2 : atOp l j = atOp t2 i := by
      rw [← HT2.out, tog_yes (by rw [Hca.out, Hcb.out]; rfl)]
      show l.getD j OpV.zero = _
      rw [List.getD_eq_getElem?_getD, List.getElem?_eq_getElem hj]
      exact e
    rw [e2] at h2
    exact h2
  clear ht2 htb
  obtain ⟨c00, c01⟩ := pair_cells HXa6.out
  obtain ⟨c10, c11⟩ := pair_cells HXb6.out
  go_wp2_with fail
  have hc := implToggled w6 w6.heap.size bva boa ava aoa 4 bvc m.length boc 4 avc l.length aoc ys m xs l (HVB6.out.more (by omega)) (HOB6.out.more (by omega)) (HVA6.out.more (by omega)) (HOA6.out.more (by omega)) (Nat.le_refl _) (by omega) HCb.out.1 ⟨by omega, HCb.out.2.1⟩ (by omega) HCa.out.1 ⟨by omega, HCa.out.2.1⟩ HIa.out
  rw [HT2.out] at hc
  refine hc.mono ?_
  clear hc
  rintro e w7 ⟨ra, rc, rfl, hop, hb⟩
  clear c00 c01 c10 c11
  have HP7 := Lib.hid (HP6.out.below hb (by omega))
  have hs7 := hb.size
  have HVA7 := Lib.hid (HVA6.out.below hb (by omega))
  have HOA7 := Lib.hid (HOA6.out.below hb (by omega))
  have HVB7 := Lib.hid (HVB6.out.below hb (by omega))
  have HOB7 := Lib.hid (HOB6.out.below hb (by omega))
  have HB7 := Lib.hid (HB6.out.trans (hb.mono (by omega)))
  have HXa7 := Lib.hid ((hb.block _ (lt_of_row HXa6.out)).trans HXa6.out)
  have HXb7 := Lib.hid ((hb.block _ (lt_of_row HXb6.out)).trans HXb6.out)
  clear hb HVA6 HOA6 HVB6 HOB6 HB6 HXa6 HXb6
  clear HP6
  have HR7 := Lib.hid hop.ops
  clear hop
  have HR7L : Hid (Ops w7 w7.heap.size ra t1.length t2) := by
    show Ops _ _ _ _ _
    rw [HLen.out]
    exact HR7.out.more (by omega)
  rw [← HLen.out]
  clear HR7
  have HR7 := HR7L
  clear HR7L
  go_wp2
  go_loopw [7] (fun i wr => ∃ q : Nat, q ≤ t1.length ∧ i = .int .i64 (q : Int) ∧ Hid (Below w7.heap.size w7 wr)) (fun i _ => t1.length - (intOf i).toNat)
  case atStart => exact ⟨0, Nat.zero_le _, rfl, Below.refl _ _⟩
  case round =>
    obtain ⟨q, hq, rfl, HBr⟩ := hrel
    have hsr := HBr.out.size
    have hnn : ((t1.length : Int) == (t1.length : Int)) = true := beq_self_eq_true _
    by_cases hlt : q < t1.length
    rotate_left
    · have hb : Below w7.heap.size w7 wr := HBr.out
      clear HBr hsr
      obtain rfl : q = t1.length := by omega
      clear hlt hq
      obtain ⟨w8, hwr⟩ : ∃ z, z = wr := ⟨_, rfl⟩
      subst hwr
      have HP8 := Lib.hid (HP7.out.below hb (by omega))
      have HR8 := Lib.hid (HR7.out.below hb (by omega))
      have hs8 := hb.size
      have HVA8 := Lib.hid (HVA7.out.below hb (by omega))
      have HOA8 := Lib.hid (HOA7.out.below hb (by omega))
      have HVB8 := Lib.hid (HVB7.out.below hb (by omega))
      have HOB8 := Lib.hid (HOB7.out.below hb (by omega))
      have HB8 := Lib.hid (HB7.out.trans (hb.mono (by omega)))
      have HXa8 := Lib.hid ((hb.block _ (lt_of_row HXa7.out)).trans HXa7.out)
      have HXb8 := Lib.hid ((hb.block _ (lt_of_row HXb7.out)).trans HXb7.out)
      clear hb HVA7 HOA7 HVB7 HOB7 HB7 HXa7 HXb7
      clear HP7 HR7
      have hqi : ¬ ((t1.length : Int) < (t1.length : Int)) := by omega
      obtain ⟨c00, c01⟩ := pair_cells HXa8.out
      go_wp2_with fail
      have hc := implToggled w8 w8.heap.size ava aoa ava aoa 4 avc l.length aoc 4 avc l.length aoc xs l xs l (HVA8.out.more (by omega)) (HOA8.out.more (by omega)) (HVA8.out.more (by omega)) (HOA8.out.more (by omega)) (Nat.le_refl _) (by omega) HCa.out.1 ⟨by omega, HCa.out.2.1⟩ (by omega) HCa.out.1 ⟨by omega, HCa.out.2.1⟩ HIa.out
      rw [HSelf.out] at hc
      refine hc.mono ?_
      clear hc
      rintro e w9 ⟨sa, sc, rfl, hop, hb⟩
      clear c00 c01
      have HP9 := Lib.hid (HP8.out.below hb (by omega))
      have HR9 := Lib.hid (HR8.out.below hb (by omega))
      have hs9 := hb.size
      have HVA9 := Lib.hid (HVA8.out.below hb (by omega))
      have HOA9 := Lib.hid (HOA8.out.below hb (by omega))
      have HVB9 := Lib.hid (HVB8.out.below hb (by omega))
      have HOB9 := Lib.hid (HOB8.out.below hb (by omega))
      have HB9 := Lib.hid (HB8.out.trans (hb.mono (by omega)))
      have HXa9 := Lib.hid ((hb.block _ (lt_of_row HXa8.out)).trans HXa8.out)
      have HXb9 := Lib.hid ((hb.block _ (lt_of_row HXb8.out)).trans HXb8.out)
      clear hb HVA8 HOA8 HVB8 HOB8 HB8 HXa8 HXb8
      clear HP8 HR8
      have HSx9 := Lib.hid hop.ops
      clear hop
      clear hqi
      go_wp2
      go_ret
      exact ⟨rfl, HB9.out⟩
    have hqi : (q : Int) < (t1.length : Int) := by omega
    have hq0 : decide ((q : Int) < 0) = false := decide_eq_false (by omega)
    have hq00 : ¬ ((q : Int) < 0) := by omega
    have HO1 := Lib.hid (HOk1.out q hlt)
    have HO2 := Lib.hid (HOk2.out q (by rw [← HLen.out]; exact hlt))
    have HPq := Lib.hid (HPt.out q hlt)
    obtain ⟨ab, ao, rfl, hab, hao⟩ := (HP7.out.below HBr.out (by omega)).2 q hlt
    obtain ⟨db, do_, rfl, hdb, hdo⟩ := (HR7.out.below HBr.out (by omega)).2 q hlt
    have hao : OpAt wr ab (ao + q * 8) (atOp t1 q) := hao
    have hdo : OpAt wr db (do_ + q * 8) (atOp t2 q) := hdo
    have habl : ab < wr.heap.size := by omega
    have hdbl : db < wr.heap.size := by omega
    obtain ⟨x, hx⟩ : ∃ x, atOp t1 q = x := ⟨_, rfl⟩
    obtain ⟨y, hy⟩ : ∃ y, atOp t2 q = y := ⟨_, rfl⟩
    rw [hx] at hao HO1 HPq
    rw [hy] at hdo HO2 HPq
    clear hx hy
    have hne1 : (x.dev != y.dev) = false := by rw [HPq.out.1]; exact bne_self_eq_false _
    have hne2 : (x.seq != y.seq) = false := by rw [HPq.out.2.1]; exact bne_self_eq_false _
    have hne3 : decide (x.dev = y.dev) = true := decide_eq_true HPq.out.1
    have hne4 : decide (x.seq = y.seq) = true := decide_eq_true HPq.out.2.1
    have hl1v := live_of HO1.out
    have hl2v := live_of HO2.out
    have HLx := Lib.hid hl1v
    have HLy := Lib.hid hl2v
    have hlive := HPq.out.2.2
    generalize hlx : liveU x = lx at hlive HLx
    generalize hly : liveU y = ly at hlive HLy
    clear hl1v hl2v hlx hly
    go_upto_region 11 with fail
    obtain ⟨d0, d1, d2, d3, d4, d5, d6, d7⟩ := hao
    obtain ⟨e0, e1, e2, e3, e4, e5, e6, e7⟩ := hdo
    have hS : wr.drew.cell? ⟨ab, ao + q * 8, none⟩ = some (.int .i64 x.dev) ∧ wr.drew.cell? ⟨ab, ao + q * 8 + 1, none⟩ = some (.int .i64 x.seq) ∧ wr.drew.cell? ⟨ab, ao + q * 8 + 2, none⟩ = some (.int .i64 x.stamp) ∧ wr.drew.cell? ⟨ab, ao + q * 8 + 3, none⟩ = some (.int .i64 x.kind) ∧ wr.drew.cell? ⟨ab, ao + q * 8 + 4, none⟩ = some (.string x.item) ∧ wr.drew.cell? ⟨ab, ao + q * 8 + 5, none⟩ = some (.int .i64 x.qty) ∧ wr.drew.cell? ⟨ab, ao + q * 8 + 6, none⟩ = some (.int .i64 x.level) ∧ wr.drew.cell? ⟨ab, ao + q * 8 + 7, none⟩ = some (.int .i64 x.undos) ∧ wr.drew.cell? ⟨db, do_ + q * 8, none⟩ = some (.int .i64 y.dev) ∧ wr.drew.cell? ⟨db, do_ + q * 8 + 1, none⟩ = some (.int .i64 y.seq) ∧ wr.drew.cell? ⟨db, do_ + q * 8 + 2, none⟩ = some (.int .i64 y.stamp) ∧ wr.drew.cell? ⟨db, do_ + q * 8 + 3, none⟩ = some (.int .i64 y.kind) ∧ wr.drew.cell? ⟨db, do_ + q * 8 + 4, none⟩ = some (.string y.item) ∧ wr.drew.cell? ⟨db, do_ + q * 8 + 5, none⟩ = some (.int .i64 y.qty) ∧ wr.drew.cell? ⟨db, do_ + q * 8 + 6, none⟩ = some (.int .i64 y.level) ∧ wr.drew.cell? ⟨db, do_ + q * 8 + 7, none⟩ = some (.int .i64 y.undos) := ⟨d0, d1, d2, d3, d4, d5, d6, d7, e0, e1, e2, e3, e4, e5, e6, e7⟩
    go_wp2_with fail
    refine wp_region_held_drew (S := fun w' => w'.cell? ⟨ab, ao + q * 8, none⟩ = some (.int .i64 x.dev) ∧ w'.cell? ⟨ab, ao + q * 8 + 1, none⟩ = some (.int .i64 x.seq) ∧ w'.cell? ⟨ab, ao + q * 8 + 2, none⟩ = some (.int .i64 x.stamp) ∧ w'.cell? ⟨ab, ao + q * 8 + 3, none⟩ = some (.int .i64 x.kind) ∧ w'.cell? ⟨ab, ao + q * 8 + 4, none⟩ = some (.string x.item) ∧ w'.cell? ⟨ab, ao + q * 8 + 5, none⟩ = some (.int .i64 x.qty) ∧ w'.cell? ⟨ab, ao + q * 8 + 6, none⟩ = some (.int .i64 x.level) ∧ w'.cell? ⟨ab, ao + q * 8 + 7, none⟩ = some (.int .i64 x.undos) ∧ w'.cell? ⟨db, do_ + q * 8, none⟩ = some (.int .i64 y.dev) ∧ w'.cell? ⟨db, do_ + q * 8 + 1, none⟩ = some (.int .i64 y.seq) ∧ w'.cell? ⟨db, do_ + q * 8 + 2, none⟩ = some (.int .i64 y.stamp) ∧ w'.cell? ⟨db, do_ + q * 8 + 3, none⟩ = some (.int .i64 y.kind) ∧ w'.cell? ⟨db, do_ + q * 8 + 4, none⟩ = some (.string y.item) ∧ w'.cell? ⟨db, do_ + q * 8 + 5, none⟩ = some (.int .i64 y.qty) ∧ w'.cell? ⟨db, do_ + q * 8 + 6, none⟩ = some (.int .i64 y.level) ∧ w'.cell? ⟨db, do_ + q * 8 + 7, none⟩ = some (.int .i64 y.undos)) (by kernel_rfl) hS (fun hHeld => ?_)
    refine wpAnyH_take (i := 0) (oi := { dst := some 55, op := .move (.tmp 5), type := 25, pos := "laws.go:748", after := #[], guard := none }) (v := ?_) rfl (by kernel_rfl) (by kernel_rfl) (by kernel_rfl) (fun _ _ _ h => h) (Or.inl ⟨by rfl, ?_⟩) (by assumption) ?_
    rotate_left
    · intro w hSw
      (try dsimp only at hSw)
      first | (go_simp; done) | (go_simp; with_reducible rfl)
    (try simp only [Act.put, List.setIfInBounds_toArray, List.set_cons_zero, List.set_cons_succ])
    refine wpAnyH_take (i := 1) (oi := { dst := some 56, op := .move (.tmp 7), type := 3, pos := "laws.go:748", after := #[], guard := none }) (v := ?_) rfl (by kernel_rfl) (by kernel_rfl) (by kernel_rfl) (fun _ _ _ h => h) (Or.inl ⟨by rfl, ?_⟩) (by assumption) ?_
    rotate_left
    · intro w hSw
      (try dsimp only at hSw)
      first | (go_simp; done) | (go_simp; with_reducible rfl)
    (try simp only [Act.put, List.setIfInBounds_toArray, List.set_cons_zero, List.set_cons_succ])
    refine wpAnyH_take (i := 2) (oi := { dst := some 57, op := .indexAddr 25 (.tmp 55) (.tmp 56), type := 0, pos := "laws.go:748", after := #[⟨0, .data⟩, ⟨1, .data⟩], guard := none }) (v := ?_) rfl (by kernel_rfl) (by kernel_rfl) (by kernel_rfl) (fun _ _ _ h => h) (Or.inl ⟨by rfl, ?_⟩) (by assumption) ?_
    rotate_left
    · intro w hSw
      (try dsimp only at hSw)
      first | (go_simp; done) | (go_simp; with_reducible rfl)
    (try simp only [Act.put, List.setIfInBounds_toArray, List.set_cons_zero, List.set_cons_succ])
    refine wpAnyH_take (i := 3) (oi := { dst := some 58, op := .fieldAddr 34 (.tmp 57) 0, type := 0, pos := "laws.go:748", after := #[⟨2, .data⟩], guard := none }) (v := ?_) rfl (by kernel_rfl) (by kernel_rfl) (by kernel_rfl) (fun _ _ _ h => h) (Or.inl ⟨by rfl, ?_⟩) (by assumption) ?_
    rotate_left
    · intro w hSw
      (try dsimp only at hSw)
      first | (go_simp; done) | (go_simp; with_reducible rfl)
    (try simp only [Act.put, List.setIfInBounds_toArray, List.set_cons_zero, List.set_cons_succ])
    refine wpAnyH_take (i := 4) (oi := { dst := some 59, op := .load 2 (.tmp 58), type := 2, pos := "laws.go:748", after := #[⟨3, .data⟩], guard := none }) (v := ?_) rfl (by kernel_rfl) (by kernel_rfl) (by kernel_rfl) (fun _ _ _ h => h) (Or.inl ⟨by rfl, ?_⟩) (by assumption) ?_
    rotate_left
    · intro w hSw
      (try dsimp only at hSw)
      first | (go_simp; done) | (go_simp; with_reducible rfl)
    (try simp only [Act.put, List.setIfInBounds_toArray, List.set_cons_zero, List.set_cons_succ])
    refine wpAnyH_take (i := 5) (oi := { dst := some 60, op := .move (.tmp 6), type := 25, pos := "laws.go:748", after := #[], guard := none }) (v := ?_) rfl (by kernel_rfl) (by kernel_rfl) (by kernel_rfl) (fun _ _ _ h => h) (Or.inl ⟨by rfl, ?_⟩) (by assumption) ?_
    rotate_left
    · intro w hSw
      (try dsimp only at hSw)
      first | (go_simp; done) | (go_simp; with_reducible rfl)
    (try simp only [Act.put, List.setIfInBounds_toArray, List.set_cons_zero, List.set_cons_succ])
    refine wpAnyH_take (i := 6) (oi := { dst := some 61, op := .move (.tmp 7), type := 3, pos := "laws.go:748", after := #[], guard := none }) (v := ?_) rfl (by kernel_rfl) (by kernel_rfl) (by kernel_rfl) (fun _ _ _ h => h) (Or.inl ⟨by rfl, ?_⟩) (by assumption) ?_
    rotate_left
    · intro w hSw
      (try dsimp only at hSw)
      first | (go_simp; done) | (go_simp; with_reducible rfl)
    (try simp only [Act.put, List.setIfInBounds_toArray, List.set_cons_zero, List.set_cons_succ])
    refine wpAnyH_take (i := 7) (oi := { dst := some 62, op := .indexAddr 25 (.tmp 60) (.tmp 61), type := 0, pos := "laws.go:748", after := #[⟨5, .data⟩, ⟨6, .data⟩], guard := none }) (v := ?_) rfl (by kernel_rfl) (by kernel_rfl) (by kernel_rfl) (fun _ _ _ h => h) (Or.inl ⟨by rfl, ?_⟩) (by assumption) ?_
    rotate_left
    · intro w hSw
      (try dsimp only at hSw)
      first | (go_simp; done) | (go_simp; with_reducible rfl)
    (try simp only [Act.put, List.setIfInBounds_toArray, List.set_cons_zero, List.set_cons_succ])
    refine wpAnyH_take (i := 8) (oi := { dst := some 63, op := .fieldAddr 34 (.tmp 62) 0, type := 0, pos := "laws.go:748", after := #[⟨7, .data⟩], guard := none }) (v := ?_) rfl (by kernel_rfl) (by kernel_rfl) (by kernel_rfl) (fun _ _ _ h => h) (Or.inl ⟨by rfl, ?_⟩) (by assumption) ?_
    rotate_left
    · intro w hSw
      (try dsimp only at hSw)
      first | (go_simp; done) | (go_simp; with_reducible rfl)
    (try simp only [Act.put, List.setIfInBounds_toArray, List.set_cons_zero, List.set_cons_succ])
    refine wpAnyH_take (i := 9) (oi := { dst := some 64, op := .load 2 (.tmp 63), type := 2, pos := "laws.go:748", after := #[⟨8, .data⟩], guard := none }) (v := ?_) rfl (by kernel_rfl) (by kernel_rfl) (by kernel_rfl) (fun _ _ _ h => h) (Or.inl ⟨by rfl, ?_⟩) (by assumption) ?_
    rotate_left
    · intro w hSw
      (try dsimp only at hSw)
      first | (go_simp; done) | (go_simp; with_reducible rfl)
    (try simp only [Act.put, List.setIfInBounds_toArray, List.set_cons_zero, List.set_cons_succ])
    refine wpAnyH_take (i := 10) (oi := { dst := some 65, op := .binOp .neq 2 (.tmp 59) (.tmp 64) 2, type := 4, pos := "laws.go:748", after := #[⟨4, .data⟩, ⟨9, .data⟩], guard := none }) (v := ?_) rfl (by kernel_rfl) (by kernel_rfl) (by kernel_rfl) (fun _ _ _ h => h) (Or.inl ⟨by rfl, ?_⟩) (by assumption) ?_
    rotate_left
    · intro w hSw
      (try dsimp only at hSw)
      first | (go_simp; done) | (go_simp; with_reducible rfl)
    (try simp only [Act.put, List.setIfInBounds_toArray, List.set_cons_zero, List.set_cons_succ])
    refine wpAnyH_take (i := 11) (oi := { dst := some 66, op := .move (.tmp 65), type := 4, pos := "laws.go:748", after := #[⟨10, .data⟩], guard := none }) (v := ?_) rfl (by kernel_rfl) (by kernel_rfl) (by kernel_rfl) (fun _ _ _ h => h) (Or.inl ⟨by rfl, ?_⟩) (by assumption) ?_
    rotate_left
    · intro w hSw
      (try dsimp only at hSw)
      first | (go_simp; done) | (go_simp; with_reducible rfl)
    (try simp only [Act.put, List.setIfInBounds_toArray, List.set_cons_zero, List.set_cons_succ])
    refine wpAnyH_take (i := 12) (oi := { dst := some 67, op := .move (.tmp 5), type := 25, pos := "laws.go:748", after := #[⟨11, .guard⟩], guard := some (11, false) }) (v := ?_) rfl (by kernel_rfl) (by kernel_rfl) (by kernel_rfl) (fun _ _ _ h => h) (Or.inl ⟨by rfl, ?_⟩) (by assumption) ?_
    rotate_left
    · intro w hSw
      (try dsimp only at hSw)
      first | (go_simp; done) | (go_simp; with_reducible rfl)
    (try simp only [Act.put, List.setIfInBounds_toArray, List.set_cons_zero, List.set_cons_succ])
    refine wpAnyH_take (i := 13) (oi := { dst := some 68, op := .move (.tmp 7), type := 3, pos := "laws.go:748", after := #[⟨11, .guard⟩], guard := some (11, false) }) (v := ?_) rfl (by kernel_rfl) (by kernel_rfl) (by kernel_rfl) (fun _ _ _ h => h) (Or.inl ⟨by rfl, ?_⟩) (by assumption) ?_
    rotate_left
    · intro w hSw
      (try dsimp only at hSw)
      first | (go_simp; done) | (go_simp; with_reducible rfl)
    (try simp only [Act.put, List.setIfInBounds_toArray, List.set_cons_zero, List.set_cons_succ])
    refine wpAnyH_take (i := 14) (oi := { dst := some 69, op := .indexAddr 25 (.tmp 67) (.tmp 68), type := 0, pos := "laws.go:748", after := #[⟨12, .data⟩, ⟨13, .data⟩, ⟨11, .guard⟩], guard := some (11, false) }) (v := ?_) rfl (by kernel_rfl) (by kernel_rfl) (by kernel_rfl) (fun _ _ _ h => h) (Or.inl ⟨by rfl, ?_⟩) (by assumption) ?_
    rotate_left
    · intro w hSw
      (try dsimp only at hSw)
      first | (go_simp; done) | (go_simp; with_reducible rfl)
    (try simp only [Act.put, List.setIfInBounds_toArray, List.set_cons_zero, List.set_cons_succ])
    refine wpAnyH_take (i := 15) (oi := { dst := some 70, op := .fieldAddr 34 (.tmp 69) 1, type := 0, pos := "laws.go:748", after := #[⟨14, .data⟩, ⟨11, .guard⟩], guard := some (11, false) }) (v := ?_) rfl (by kernel_rfl) (by kernel_rfl) (by kernel_rfl) (fun _ _ _ h => h) (Or.inl ⟨by rfl, ?_⟩) (by assumption) ?_
    rotate_left
    · intro w hSw
      (try dsimp only at hSw)
      first | (go_simp; done) | (go_simp; with_reducible rfl)
    (try simp only [Act.put, List.setIfInBounds_toArray, List.set_cons_zero, List.set_cons_succ])
    refine wpAnyH_take (i := 16) (oi := { dst := some 71, op := .load 2 (.tmp 70), type := 2, pos := "laws.go:748", after := #[⟨15, .data⟩, ⟨11, .guard⟩], guard := some (11, false) }) (v := ?_) rfl (by kernel_rfl) (by kernel_rfl) (by kernel_rfl) (fun _ _ _ h => h) (Or.inl ⟨by rfl, ?_⟩) (by assumption) ?_
    rotate_left
    · intro w hSw
      (try dsimp only at hSw)
      first | (go_simp; done) | (go_simp; with_reducible rfl)
    (try simp only [Act.put, List.setIfInBounds_toArray, List.set_cons_zero, List.set_cons_succ])
    refine wpAnyH_take (i := 17) (oi := { dst := some 72, op := .move (.tmp 6), type := 25, pos := "laws.go:748", after := #[⟨11, .guard⟩], guard := some (11, false) }) (v := ?_) rfl (by kernel_rfl) (by kernel_rfl) (by kernel_rfl) (fun _ _ _ h => h) (Or.inl ⟨by rfl, ?_⟩) (by assumption) ?_
    rotate_left
    · intro w hSw
      (try dsimp only at hSw)
      first | (go_simp; done) | (go_simp; with_reducible rfl)
    (try simp only [Act.put, List.setIfInBounds_toArray, List.set_cons_zero, List.set_cons_succ])
    refine wpAnyH_take (i := 18) (oi := { dst := some 73, op := .move (.tmp 7), type := 3, pos := "laws.go:748", after := #[⟨11, .guard⟩], guard := some (11, false) }) (v := ?_) rfl (by kernel_rfl) (by kernel_rfl) (by kernel_rfl) (fun _ _ _ h => h) (Or.inl ⟨by rfl, ?_⟩) (by assumption) ?_
    rotate_left
    · intro w hSw
      (try dsimp only at hSw)
      first | (go_simp; done) | (go_simp; with_reducible rfl)
    (try simp only [Act.put, List.setIfInBounds_toArray, List.set_cons_zero, List.set_cons_succ])
    refine wpAnyH_take (i := 19) (oi := { dst := some 74, op := .indexAddr 25 (.tmp 72) (.tmp 73), type := 0, pos := "laws.go:748", after := #[⟨17, .data⟩, ⟨18, .data⟩, ⟨11, .guard⟩], guard := some (11, false) }) (v := ?_) rfl (by kernel_rfl) (by kernel_rfl) (by kernel_rfl) (fun _ _ _ h => h) (Or.inl ⟨by rfl, ?_⟩) (by assumption) ?_
    rotate_left
    · intro w hSw
      (try dsimp only at hSw)
      first | (go_simp; done) | (go_simp; with_reducible rfl)
    (try simp only [Act.put, List.setIfInBounds_toArray, List.set_cons_zero, List.set_cons_succ])
    refine wpAnyH_take (i := 20) (oi := { dst := some 75, op := .fieldAddr 34 (.tmp 74) 1, type := 0, pos := "laws.go:748", after := #[⟨19, .data⟩, ⟨11, .guard⟩], guard := some (11, false) }) (v := ?_) rfl (by kernel_rfl) (by kernel_rfl) (by kernel_rfl) (fun _ _ _ h => h) (Or.inl ⟨by rfl, ?_⟩) (by assumption) ?_
    rotate_left
    · intro w hSw
      (try dsimp only at hSw)
      first | (go_simp; done) | (go_simp; with_reducible rfl)
    (try simp only [Act.put, List.setIfInBounds_toArray, List.set_cons_zero, List.set_cons_succ])
    refine wpAnyH_take (i := 21) (oi := { dst := some 76, op := .load 2 (.tmp 75), type := 2, pos := "laws.go:748", after := #[⟨20, .data⟩, ⟨11, .guard⟩], guard := some (11, false) }) (v := ?_) rfl (by kernel_rfl) (by kernel_rfl) (by kernel_rfl) (fun _ _ _ h => h) (Or.inl ⟨by rfl, ?_⟩) (by assumption) ?_
    rotate_left
    · intro w hSw
      (try dsimp only at hSw)
      first | (go_simp; done) | (go_simp; with_reducible rfl)
    (try simp only [Act.put, List.setIfInBounds_toArray, List.set_cons_zero, List.set_cons_succ])
    refine wpAnyH_take (i := 22) (oi := { dst := some 77, op := .binOp .neq 2 (.tmp 71) (.tmp 76) 2, type := 4, pos := "laws.go:748", after := #[⟨16, .data⟩, ⟨21, .data⟩, ⟨11, .guard⟩], guard := some (11, false) }) (v := ?_) rfl (by kernel_rfl) (by kernel_rfl) (by kernel_rfl) (fun _ _ _ h => h) (Or.inl ⟨by rfl, ?_⟩) (by assumption) ?_
    rotate_left
    · intro w hSw
      (try dsimp only at hSw)
      first | (go_simp; done) | (go_simp; with_reducible rfl)
    (try simp only [Act.put, List.setIfInBounds_toArray, List.set_cons_zero, List.set_cons_succ])
    refine wpAnyH_take (i := 23) (oi := { dst := some 78, op := .pick (.tmp 66) (.const (Value.bool true)) (.tmp 77), type := 4, pos := "laws.go:748", after := #[⟨11, .data⟩, ⟨22, .data⟩], guard := none }) (v := ?_) rfl (by kernel_rfl) (by kernel_rfl) (by kernel_rfl) (fun _ _ _ h => h) (Or.inl ⟨by rfl, ?_⟩) (by assumption) ?_
    rotate_left
    · intro w hSw
      (try dsimp only at hSw)
      first | (go_simp; done) | (go_simp; with_reducible rfl)
    (try simp only [Act.put, List.setIfInBounds_toArray, List.set_cons_zero, List.set_cons_succ])
    refine wpAnyH_take (i := 24) (oi := { dst := some 79, op := .move (.tmp 78), type := 4, pos := "laws.go:748", after := #[⟨23, .data⟩, ⟨11, .chain⟩], guard := none }) (v := ?_) rfl (by kernel_rfl) (by kernel_rfl) (by kernel_rfl) (fun _ _ _ h => h) (Or.inl ⟨by rfl, ?_⟩) (by assumption) ?_
    rotate_left
    · intro w hSw
      (try dsimp only at hSw)
      first | (go_simp; done) | (go_simp; with_reducible rfl)
    (try simp only [Act.put, List.setIfInBounds_toArray, List.set_cons_zero, List.set_cons_succ])
    refine wpAnyH_take (i := 25) (oi := { dst := some 80, op := .move (.tmp 5), type := 25, pos := "laws.go:748", after := #[⟨24, .guard⟩], guard := some (24, false) }) (v := ?_) rfl (by kernel_rfl) (by kernel_rfl) (by kernel_rfl) (fun _ _ _ h => h) (Or.inl ⟨by rfl, ?_⟩) (by assumption) ?_
    rotate_left
    · intro w hSw
      (try dsimp only at hSw)
      first | (go_simp; done) | (go_simp; with_reducible rfl)
    (try simp only [Act.put, List.setIfInBounds_toArray, List.set_cons_zero, List.set_cons_succ])
    refine wpAnyH_take (i := 26) (oi := { dst := some 81, op := .move (.tmp 7), type := 3, pos := "laws.go:748", after := #[⟨24, .guard⟩], guard := some (24, false) }) (v := ?_) rfl (by kernel_rfl) (by kernel_rfl) (by kernel_rfl) (fun _ _ _ h => h) (Or.inl ⟨by rfl, ?_⟩) (by assumption) ?_
    rotate_left
    · intro w hSw
      (try dsimp only at hSw)
      first | (go_simp; done) | (go_simp; with_reducible rfl)
    (try simp only [Act.put, List.setIfInBounds_toArray, List.set_cons_zero, List.set_cons_succ])
    refine wpAnyH_take (i := 27) (oi := { dst := some 82, op := .indexAddr 25 (.tmp 80) (.tmp 81), type := 0, pos := "laws.go:748", after := #[⟨25, .data⟩, ⟨26, .data⟩, ⟨24, .guard⟩], guard := some (24, false) }) (v := ?_) rfl (by kernel_rfl) (by kernel_rfl) (by kernel_rfl) (fun _ _ _ h => h) (Or.inl ⟨by rfl, ?_⟩) (by assumption) ?_
    rotate_left
    · intro w hSw
      (try dsimp only at hSw)
      first | (go_simp; done) | (go_simp; with_reducible rfl)
    (try simp only [Act.put, List.setIfInBounds_toArray, List.set_cons_zero, List.set_cons_succ])
    refine wpAnyH_take (i := 28) (oi := { dst := some 83, op := .load 34 (.tmp 82), type := 34, pos := "laws.go:748", after := #[⟨27, .data⟩, ⟨24, .guard⟩], guard := some (24, false) }) (v := ?_) rfl (by kernel_rfl) (by kernel_rfl) (by kernel_rfl) (fun _ _ _ h => h) (Or.inl ⟨by rfl, ?_⟩) (by assumption) ?_
    rotate_left
    · intro w hSw
      (try dsimp only at hSw)
      first | (go_simp; done) | (go_simp; with_reducible rfl)
    (try simp only [Act.put, List.setIfInBounds_toArray, List.set_cons_zero, List.set_cons_succ])
    refine wpAnyH_take (i := 30) (oi := { dst := some 85, op := .move (.tmp 6), type := 25, pos := "laws.go:748", after := #[⟨24, .guard⟩], guard := some (24, false) }) (v := ?_) rfl (by kernel_rfl) (by kernel_rfl) (by kernel_rfl) (fun _ _ _ h => h) (Or.inl ⟨by rfl, ?_⟩) (by assumption) ?_
    rotate_left
    · intro w hSw
      (try dsimp only at hSw)
      first | (go_simp; done) | (go_simp; with_reducible rfl)
    (try simp only [Act.put, List.setIfInBounds_toArray, List.set_cons_zero, List.set_cons_succ])
    refine wpAnyH_take (i := 31) (oi := { dst := some 86, op := .move (.tmp 7), type := 3, pos := "laws.go:748", after := #[⟨24, .guard⟩], guard := some (24, false) }) (v := ?_) rfl (by kernel_rfl) (by kernel_rfl) (by kernel_rfl) (fun _ _ _ h => h) (Or.inl ⟨by rfl, ?_⟩) (by assumption) ?_
    rotate_left
    · intro w hSw
      (try dsimp only at hSw)
      first | (go_simp; done) | (go_simp; with_reducible rfl)
    (try simp only [Act.put, List.setIfInBounds_toArray, List.set_cons_zero, List.set_cons_succ])
    refine wpAnyH_take (i := 32) (oi := { dst := some 87, op := .indexAddr 25 (.tmp 85) (.tmp 86), type := 0, pos := "laws.go:748", after := #[⟨30, .data⟩, ⟨31, .data⟩, ⟨24, .guard⟩], guard := some (24, false) }) (v := ?_) rfl (by kernel_rfl) (by kernel_rfl) (by kernel_rfl) (fun _ _ _ h => h) (Or.inl ⟨by rfl, ?_⟩) (by assumption) ?_
    rotate_left
    · intro w hSw
      (try dsimp only at hSw)
      first | (go_simp; done) | (go_simp; with_reducible rfl)
    (try simp only [Act.put, List.setIfInBounds_toArray, List.set_cons_zero, List.set_cons_succ])
    refine wpAnyH_take (i := 33) (oi := { dst := some 88, op := .load 34 (.tmp 87), type := 34, pos := "laws.go:748", after := #[⟨32, .data⟩, ⟨24, .guard⟩], guard := some (24, false) }) (v := ?_) rfl (by kernel_rfl) (by kernel_rfl) (by kernel_rfl) (fun _ _ _ h => h) (Or.inl ⟨by rfl, ?_⟩) (by assumption) ?_
    rotate_left
    · intro w hSw
      (try dsimp only at hSw)
      first | (go_simp; done) | (go_simp; with_reducible rfl)
    (try simp only [Act.put, List.setIfInBounds_toArray, List.set_cons_zero, List.set_cons_succ])
    refine wpAnyH_ready (rs := [29]) (by kernel_rfl) (by simp) ?_
    refine AllReadyH.cons (o := { dst := some 84, op := .call { callee := .value (.func 27), args := #[.tmp 83], argTypes := #[34] }, type := 4, pos := "laws.go:748", after := #[⟨28, .data⟩, ⟨24, .chain⟩, ⟨24, .guard⟩], guard := some (24, false) }) rfl (fun K hK => ?_) AllReadyH.nil
    go_simp
    go_at_call 27
    refine (implLive x.dev x.seq x.stamp x.kind x.item x.qty x.level x.undos wr.drew).mono ?_
    rintro e z1 ⟨rfl, hb⟩
    rw [HLx.out]
    have hS2 : z1.cell? ⟨ab, ao + q * 8, none⟩ = some (.int .i64 x.dev) ∧ z1.cell? ⟨ab, ao + q * 8 + 1, none⟩ = some (.int .i64 x.seq) ∧ z1.cell? ⟨ab, ao + q * 8 + 2, none⟩ = some (.int .i64 x.stamp) ∧ z1.cell? ⟨ab, ao + q * 8 + 3, none⟩ = some (.int .i64 x.kind) ∧ z1.cell? ⟨ab, ao + q * 8 + 4, none⟩ = some (.string x.item) ∧ z1.cell? ⟨ab, ao + q * 8 + 5, none⟩ = some (.int .i64 x.qty) ∧ z1.cell? ⟨ab, ao + q * 8 + 6, none⟩ = some (.int .i64 x.level) ∧ z1.cell? ⟨ab, ao + q * 8 + 7, none⟩ = some (.int .i64 x.undos) ∧ z1.cell? ⟨db, do_ + q * 8, none⟩ = some (.int .i64 y.dev) ∧ z1.cell? ⟨db, do_ + q * 8 + 1, none⟩ = some (.int .i64 y.seq) ∧ z1.cell? ⟨db, do_ + q * 8 + 2, none⟩ = some (.int .i64 y.stamp) ∧ z1.cell? ⟨db, do_ + q * 8 + 3, none⟩ = some (.int .i64 y.kind) ∧ z1.cell? ⟨db, do_ + q * 8 + 4, none⟩ = some (.string y.item) ∧ z1.cell? ⟨db, do_ + q * 8 + 5, none⟩ = some (.int .i64 y.qty) ∧ z1.cell? ⟨db, do_ + q * 8 + 6, none⟩ = some (.int .i64 y.level) ∧ z1.cell? ⟨db, do_ + q * 8 + 7, none⟩ = some (.int .i64 y.undos) := ⟨(hb.cell (by show ab < _; exact Nat.lt_of_lt_of_le habl (Nat.le_refl _))).trans hS.1, (hb.cell (by show ab < _; exact Nat.lt_of_lt_of_le habl (Nat.le_refl _))).trans hS.2.1, (hb.cell (by show ab < _; exact Nat.lt_of_lt_of_le habl (Nat.le_refl _))).trans hS.2.2.1, (hb.cell (by show ab < _; exact Nat.lt_of_lt_of_le habl (Nat.le_refl _))).trans hS.2.2.2.1, (hb.cell (by show ab < _; exact Nat.lt_of_lt_of_le habl (Nat.le_refl _))).trans hS.2.2.2.2.1, (hb.cell (by show ab < _; exact Nat.lt_of_lt_of_le habl (Nat.le_refl _))).trans hS.2.2.2.2.2.1, (hb.cell (by show ab < _; exact Nat.lt_of_lt_of_le habl (Nat.le_refl _))).trans hS.2.2.2.2.2.2.1, (hb.cell (by show ab < _; exact Nat.lt_of_lt_of_le habl (Nat.le_refl _))).trans hS.2.2.2.2.2.2.2.1, (hb.cell (by show db < _; exact Nat.lt_of_lt_of_le hdbl (Nat.le_refl _))).trans hS.2.2.2.2.2.2.2.2.1, (hb.cell (by show db < _; exact Nat.lt_of_lt_of_le hdbl (Nat.le_refl _))).trans hS.2.2.2.2.2.2.2.2.2.1, (hb.cell (by show db < _; exact Nat.lt_of_lt_of_le hdbl (Nat.le_refl _))).trans hS.2.2.2.2.2.2.2.2.2.2.1, (hb.cell (by show db < _; exact Nat.lt_of_lt_of_le hdbl (Nat.le_refl _))).trans hS.2.2.2.2.2.2.2.2.2.2.2.1, (hb.cell (by show db < _; exact Nat.lt_of_lt_of_le hdbl (Nat.le_refl _))).trans hS.2.2.2.2.2.2.2.2.2.2.2.2.1, (hb.cell (by show db < _; exact Nat.lt_of_lt_of_le hdbl (Nat.le_refl _))).trans hS.2.2.2.2.2.2.2.2.2.2.2.2.2.1, (hb.cell (by show db < _; exact Nat.lt_of_lt_of_le hdbl (Nat.le_refl _))).trans hS.2.2.2.2.2.2.2.2.2.2.2.2.2.2.1, (hb.cell (by show db < _; exact Nat.lt_of_lt_of_le hdbl (Nat.le_refl _))).trans hS.2.2.2.2.2.2.2.2.2.2.2.2.2.2.2⟩
    have hzs : wr.heap.size ≤ z1.heap.size := hb.size
    have HBz : Hid (Below w7.heap.size w7 z1) := HBr.out.trans ((⟨hb.os, hb.tape, hb.output, hb.size, hb.block⟩ : Below wr.heap.size wr z1).mono hsr)
    refine hK.out _ _ hS2 (fun hHeld2 => ?_)
    clear hK K
    (try simp only [Act.put, List.setIfInBounds_toArray, List.set_cons_zero, List.set_cons_succ])
    refine wpAnyH_ready (rs := [34]) (by kernel_rfl) (by simp) ?_
    refine AllReadyH.cons (o := { dst := some 89, op := .call { callee := .value (.func 27), args := #[.tmp 88], argTypes := #[34] }, type := 4, pos := "laws.go:748", after := #[⟨33, .data⟩, ⟨29, .chain⟩, ⟨24, .guard⟩], guard := some (24, false) }) rfl (fun K hK => ?_) AllReadyH.nil
    go_simp
    go_at_call 27
    refine (implLive y.dev y.seq y.stamp y.kind y.item y.qty y.level y.undos z1).mono ?_
    rintro e z2 ⟨rfl, hb⟩
    rw [HLy.out]
    have hS3 : z2.cell? ⟨ab, ao + q * 8, none⟩ = some (.int .i64 x.dev) ∧ z2.cell? ⟨ab, ao + q * 8 + 1, none⟩ = some (.int .i64 x.seq) ∧ z2.cell? ⟨ab, ao + q * 8 + 2, none⟩ = some (.int .i64 x.stamp) ∧ z2.cell? ⟨ab, ao + q * 8 + 3, none⟩ = some (.int .i64 x.kind) ∧ z2.cell? ⟨ab, ao + q * 8 + 4, none⟩ = some (.string x.item) ∧ z2.cell? ⟨ab, ao + q * 8 + 5, none⟩ = some (.int .i64 x.qty) ∧ z2.cell? ⟨ab, ao + q * 8 + 6, none⟩ = some (.int .i64 x.level) ∧ z2.cell? ⟨ab, ao + q * 8 + 7, none⟩ = some (.int .i64 x.undos) ∧ z2.cell? ⟨db, do_ + q * 8, none⟩ = some (.int .i64 y.dev) ∧ z2.cell? ⟨db, do_ + q * 8 + 1, none⟩ = some (.int .i64 y.seq) ∧ z2.cell? ⟨db, do_ + q * 8 + 2, none⟩ = some (.int .i64 y.stamp) ∧ z2.cell? ⟨db, do_ + q * 8 + 3, none⟩ = some (.int .i64 y.kind) ∧ z2.cell? ⟨db, do_ + q * 8 + 4, none⟩ = some (.string y.item) ∧ z2.cell? ⟨db, do_ + q * 8 + 5, none⟩ = some (.int .i64 y.qty) ∧ z2.cell? ⟨db, do_ + q * 8 + 6, none⟩ = some (.int .i64 y.level) ∧ z2.cell? ⟨db, do_ + q * 8 + 7, none⟩ = some (.int .i64 y.undos) := ⟨(hb.cell (by show ab < _; exact Nat.lt_of_lt_of_le habl hzs)).trans hS2.1, (hb.cell (by show ab < _; exact Nat.lt_of_lt_of_le habl hzs)).trans hS2.2.1, (hb.cell (by show ab < _; exact Nat.lt_of_lt_of_le habl hzs)).trans hS2.2.2.1, (hb.cell (by show ab < _; exact Nat.lt_of_lt_of_le habl hzs)).trans hS2.2.2.2.1, (hb.cell (by show ab < _; exact Nat.lt_of_lt_of_le habl hzs)).trans hS2.2.2.2.2.1, (hb.cell (by show ab < _; exact Nat.lt_of_lt_of_le habl hzs)).trans hS2.2.2.2.2.2.1, (hb.cell (by show ab < _; exact Nat.lt_of_lt_of_le habl hzs)).trans hS2.2.2.2.2.2.2.1, (hb.cell (by show ab < _; exact Nat.lt_of_lt_of_le habl hzs)).trans hS2.2.2.2.2.2.2.2.1, (hb.cell (by show db < _; exact Nat.lt_of_lt_of_le hdbl hzs)).trans hS2.2.2.2.2.2.2.2.2.1, (hb.cell (by show db < _; exact Nat.lt_of_lt_of_le hdbl hzs)).trans hS2.2.2.2.2.2.2.2.2.2.1, (hb.cell (by show db < _; exact Nat.lt_of_lt_of_le hdbl hzs)).trans hS2.2.2.2.2.2.2.2.2.2.2.1, (hb.cell (by show db < _; exact Nat.lt_of_lt_of_le hdbl hzs)).trans hS2.2.2.2.2.2.2.2.2.2.2.2.1, (hb.cell (by show db < _; exact Nat.lt_of_lt_of_le hdbl hzs)).trans hS2.2.2.2.2.2.2.2.2.2.2.2.2.1, (hb.cell (by show db < _; exact Nat.lt_of_lt_of_le hdbl hzs)).trans hS2.2.2.2.2.2.2.2.2.2.2.2.2.2.1, (hb.cell (by show db < _; exact Nat.lt_of_lt_of_le hdbl hzs)).trans hS2.2.2.2.2.2.2.2.2.2.2.2.2.2.2.1, (hb.cell (by show db < _; exact Nat.lt_of_lt_of_le hdbl hzs)).trans hS2.2.2.2.2.2.2.2.2.2.2.2.2.2.2.2⟩
    have HBy : Hid (Below w7.heap.size w7 z2) := HBz.out.trans (hb.mono (Nat.le_trans hsr hzs))
    refine hK.out _ _ hS3 (fun hHeld3 => ?_)
    clear hK K
    (try simp only [Act.put, List.setIfInBounds_toArray, List.set_cons_zero, List.set_cons_succ])
    refine wpAnyH_take (i := 35) (oi := { dst := some 90, op := .binOp .eql 4 (.tmp 84) (.tmp 89) 4, type := 4, pos := "laws.go:748", after := #[⟨29, .data⟩, ⟨34, .data⟩, ⟨24, .guard⟩], guard := some (24, false) }) (v := ?_) rfl (by kernel_rfl) (by kernel_rfl) (by kernel_rfl) (fun _ _ _ h => h) (Or.inl ⟨by rfl, ?_⟩) (by assumption) ?_
    rotate_left
    · intro w hSw
      (try dsimp only at hSw)
      first | (go_simp; done) | (go_simp; with_reducible rfl)
    (try simp only [Act.put, List.setIfInBounds_toArray, List.set_cons_zero, List.set_cons_succ])
    refine wpAnyH_take (i := 36) (oi := { dst := some 91, op := .move (.tmp 90), type := 4, pos := "laws.go:748", after := #[⟨35, .data⟩, ⟨34, .chain⟩, ⟨24, .guard⟩], guard := some (24, false) }) (v := ?_) rfl (by kernel_rfl) (by kernel_rfl) (by kernel_rfl) (fun _ _ _ h => h) (Or.inl ⟨by rfl, ?_⟩) (by assumption) ?_
    rotate_left
    · intro w hSw
      (try dsimp only at hSw)
      first | (go_simp; done) | (go_simp; with_reducible rfl)
    (try simp only [Act.put, List.setIfInBounds_toArray, List.set_cons_zero, List.set_cons_succ])
    refine wpAnyH_take (i := 37) (oi := { dst := some 92, op := .move (.tmp 6), type := 25, pos := "laws.go:748", after := #[⟨36, .guard⟩], guard := some (36, true) }) (v := undef) rfl (by kernel_rfl) (by kernel_rfl) (by kernel_rfl) (fun _ _ _ h => h) (Or.inr ⟨by rfl, rfl⟩) (by assumption) ?_
    (try simp only [Act.put, List.setIfInBounds_toArray, List.set_cons_zero, List.set_cons_succ])
    refine wpAnyH_take (i := 38) (oi := { dst := some 93, op := .move (.tmp 7), type := 3, pos := "laws.go:748", after := #[⟨36, .guard⟩], guard := some (36, true) }) (v := undef) rfl (by kernel_rfl) (by kernel_rfl) (by kernel_rfl) (fun _ _ _ h => h) (Or.inr ⟨by rfl, rfl⟩) (by assumption) ?_
    (try simp only [Act.put, List.setIfInBounds_toArray, List.set_cons_zero, List.set_cons_succ])
    refine wpAnyH_take (i := 39) (oi := { dst := some 94, op := .indexAddr 25 (.tmp 92) (.tmp 93), type := 0, pos := "laws.go:748", after := #[⟨37, .data⟩, ⟨38, .data⟩, ⟨36, .guard⟩], guard := some (36, true) }) (v := undef) rfl (by kernel_rfl) (by kernel_rfl) (by kernel_rfl) (fun _ _ _ h => h) (Or.inr ⟨by rfl, rfl⟩) (by assumption) ?_
    (try simp only [Act.put, List.setIfInBounds_toArray, List.set_cons_zero, List.set_cons_succ])
    refine wpAnyH_take (i := 40) (oi := { dst := some 95, op := .load 34 (.tmp 94), type := 34, pos := "laws.go:748", after := #[⟨39, .data⟩, ⟨36, .guard⟩], guard := some (36, true) }) (v := undef) rfl (by kernel_rfl) (by kernel_rfl) (by kernel_rfl) (fun _ _ _ h => h) (Or.inr ⟨by rfl, rfl⟩) (by assumption) ?_
    (try simp only [Act.put, List.setIfInBounds_toArray, List.set_cons_zero, List.set_cons_succ])
    refine wpAnyH_take (i := 41) (oi := { dst := some 96, op := .call { callee := .value (.func 28), args := #[.tmp 95], argTypes := #[34] }, type := 4, pos := "laws.go:748", after := #[⟨40, .data⟩, ⟨36, .chain⟩, ⟨36, .guard⟩], guard := some (36, true) }) (v := undef) rfl (by kernel_rfl) (by kernel_rfl) (by kernel_rfl) (fun _ _ _ h => h) (Or.inr ⟨by rfl, rfl⟩) (by assumption) ?_
    (try simp only [Act.put, List.setIfInBounds_toArray, List.set_cons_zero, List.set_cons_succ])
    refine wpAnyH_take (i := 42) (oi := { dst := some 97, op := .pick (.tmp 91) (.tmp 96) (.const (Value.bool false)), type := 4, pos := "laws.go:748", after := #[⟨36, .data⟩, ⟨41, .data⟩, ⟨24, .guard⟩], guard := some (24, false) }) (v := ?_) rfl (by kernel_rfl) (by kernel_rfl) (by kernel_rfl) (fun _ _ _ h => h) (Or.inl ⟨by rfl, ?_⟩) (by assumption) ?_
    rotate_left
    · intro w hSw
      (try dsimp only at hSw)
      first | (go_simp; done) | (go_simp; with_reducible rfl)
    (try simp only [Act.put, List.setIfInBounds_toArray, List.set_cons_zero, List.set_cons_succ])
    refine wpAnyH_take (i := 43) (oi := { dst := some 98, op := .pick (.tmp 79) (.const (Value.bool true)) (.tmp 97), type := 4, pos := "laws.go:748", after := #[⟨24, .data⟩, ⟨42, .data⟩], guard := none }) (v := ?_) rfl (by kernel_rfl) (by kernel_rfl) (by kernel_rfl) (fun _ _ _ h => h) (Or.inl ⟨by rfl, ?_⟩) (by assumption) ?_
    rotate_left
    · intro w hSw
      (try dsimp only at hSw)
      first | (go_simp; done) | (go_simp; with_reducible rfl)
    (try simp only [Act.put, List.setIfInBounds_toArray, List.set_cons_zero, List.set_cons_succ])
    refine wpAnyH_done (by kernel_rfl) ?_ _
    clear hS hS2 hS3 hHeld d0 d1 d2 d3 d4 d5 d6 d7 e0 e1 e2 e3 e4 e5 e6 e7
    go_wp2
    go_roundw
    case rel => exact ⟨q + 1, by omega, by go_num, HBy⟩
    case measure => simp [intOf]; omega
end Go.Proofs.Ytmceofdknphgkaa
