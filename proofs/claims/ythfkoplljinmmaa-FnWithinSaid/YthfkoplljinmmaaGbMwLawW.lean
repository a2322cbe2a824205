/- The walk of the law FnWithin. -/
import Derived.Test.YthfkoplljinmmaaGbDwiW
import Derived.Test.YthfkoplljinmmaaGb23
import Derived.Test.YthfkoplljinmmaaGb26
import Derived.Deep.Cut
import Derived.Test.YthfkoplljinmmaaGbS
namespace Go.Proofs.Ythfkoplljinmmaa
open Go.RowKit
set_option linter.unusedVariables false
set_option linter.unusedSimpArgs false

theorem merged_back {xs ys : List Int} {l m : List OpV} (h : inCart xs l ys m = true) : mergedB ys m xs l = true ∧ maxV ys xs = ys ∧ mergeL (maxV ys xs) m l = m := by
  obtain ⟨h1, h2, h3⟩ := merged_in h
  refine ⟨merged_symm h1, (maxV_symm ys xs).trans h2, ?_⟩
  rw [merge_symm h1, h2]
  exact h3
theorem opsNilC (w : World) (B : Nat) : Ops w B none 0 [] := ⟨rfl, fun i hi => absurd hi (by omega)⟩
set_option maxRecDepth 100000 in
set_option maxHeartbeats 16000000 in
theorem fnWithinWalk (a : Option Addr) (len cap : Nat) (zs : List Int) (w : World) (h : IsRow .u8 w a len cap zs) :
    Calls Try.prog 5 #[.slice a len cap] w fun e w' => e = .returned (.bool true) ∧ Below w.heap.size w w' := by
  by_cases hbig : len ≤ 1048576
  rotate_left
  · go_enter Try.func5, Try.ntmps5
    go_wp2_with fail
    refine (bigYes a len cap hbig w).mono ?_
    rintro e w' ⟨rfl, rfl⟩
    go_wp2
    go_ret
    exact ⟨rfl, Below.refl _ _⟩
  have hsrc := Lib.hid (src_of_row h hbig)
  clear h
  go_enter Try.func5, Try.ntmps5
  go_wp2_with fail
  refine (bigNo a len cap hbig w).mono ?_
  rintro e w' ⟨rfl, rfl⟩
  go_wp2_with fail
  refine (drawWithin2 w w.heap.size a len cap (Nat.le_refl _) hsrc.out).mono ?_
  rintro e w0 ⟨⟨ava, avc, aoa, ano, aoc⟩, ⟨bva, bvc, boa, bno, boc⟩, rfl, hx, hy, hb0⟩
  obtain ⟨xs, l, e1, a1, a2, a3, a4, a5, a6⟩ := hx
  obtain ⟨ys, m, e2, b1, b2, b3, b4, b5, b6⟩ := hy
  have e1 : ano = l.length := e1
  have e2 : bno = m.length := e2
  subst e1 e2
  have HVA0 := Lib.hid a1.ints
  have HOA0 := Lib.hid a2.ops
  have HVB0 := Lib.hid b1.ints
  have HOB0 := Lib.hid b2.ops
  have HB0 := Lib.hid hb0
  have HCa := Lib.hid a4
  have HCb := Lib.hid b4
  have HIa : Hid (∀ i, i < l.length → (atOp l i).item.size ≤ 1048576) := fun i hi => Nat.le_trans (a5 i hi) (by omega)
  have HIb : Hid (∀ i, i < m.length → (atOp m i).item.size ≤ 1048576) := fun i hi => Nat.le_trans (b5 i hi) (by omega)
  have hs0 := hb0.size
  clear a1 a2 a3 a4 a5 b1 b2 b3 b4 b5 hb0
  dsimp only
  go_upto_region 4 with fail
  have hT := Two.mk0 w0 #[.slice ava 4 avc, .slice aoa l.length aoc] #[.slice bva 4 bvc, .slice boa m.length boc] 27
  have HXa1 := Lib.hid hT.fst
  have HXb1 := Lib.hid hT.snd
  have hb := hT.bel
  clear hT
  generalize (w0.alloc (.cells #[.slice ava 4 avc, .slice aoa l.length aoc] 27)).alloc (.cells #[.slice bva 4 bvc, .slice boa m.length boc] 27) = w1 at hb HXa1 HXb1 ⊢
  have hs1 := hb.size
  have HVA1 := Lib.hid (HVA0.out.below hb (by omega))
  have HOA1 := Lib.hid (HOA0.out.below hb (by omega))
  have HVB1 := Lib.hid (HVB0.out.below hb (by omega))
  have HOB1 := Lib.hid (HOB0.out.below hb (by omega))
  have HB1 := Lib.hid (HB0.out.trans (hb.mono (by omega)))
  clear hb HVA0 HOA0 HVB0 HOB0 HB0
  obtain ⟨RI, hRI⟩ : ∃ R, inCart xs l ys m = R := ⟨_, rfl⟩
  have HRI := Lib.hid hRI
  clear hRI
  obtain ⟨c00, c01⟩ := pair_cells HXa1.out
  obtain ⟨c10, c11⟩ := pair_cells HXb1.out
  go_wp2_with fail
  have hc := implWithinC w1 w1.heap.size ava aoa bva boa 4 avc l.length aoc 4 bvc m.length boc xs l ys m (HVA1.out.more (by omega)) (HOA1.out.more (by omega)) (HVB1.out.more (by omega)) (HOB1.out.more (by omega)) (Nat.le_refl _) (by omega) HCa.out.1 ⟨by omega, HCa.out.2.1⟩ (by omega) HCb.out.1 ⟨by omega, HCb.out.2.1⟩
  rw [HRI.out] at hc
  refine hc.mono ?_
  clear hc
  rintro e w2 ⟨rfl, hb⟩
  clear c00 c01 c10 c11
  have hs2 := hb.size
  have HVA2 := Lib.hid (HVA1.out.below hb (by omega))
  have HOA2 := Lib.hid (HOA1.out.below hb (by omega))
  have HVB2 := Lib.hid (HVB1.out.below hb (by omega))
  have HOB2 := Lib.hid (HOB1.out.below hb (by omega))
  have HB2 := Lib.hid (HB1.out.trans (hb.mono (by omega)))
  have HXa2 := Lib.hid ((hb.block _ (lt_of_row HXa1.out)).trans HXa1.out)
  have HXb2 := Lib.hid ((hb.block _ (lt_of_row HXb1.out)).trans HXb1.out)
  clear hb HVA1 HOA1 HVB1 HOB1 HB1 HXa1 HXb1
  have hrr : (RI != RI) = false := by cases RI <;> rfl
  obtain ⟨c00, c01⟩ := pair_cells HXa2.out
  obtain ⟨c10, c11⟩ := pair_cells HXb2.out
  go_wp2_with fail
  have hc := specWithinC w2 w2.heap.size ava aoa bva boa 4 avc l.length aoc 4 bvc m.length boc xs l ys m (HVA2.out.more (by omega)) (HOA2.out.more (by omega)) (HVB2.out.more (by omega)) (HOB2.out.more (by omega)) (Nat.le_refl _) (by omega) (by omega) HIa.out (by omega) (by omega) HIb.out
  rw [HRI.out] at hc
  refine hc.mono ?_
  clear hc
  rintro e w3 ⟨rfl, hb⟩
  clear c00 c01 c10 c11
  have hs3 := hb.size
  have HVA3 := Lib.hid (HVA2.out.below hb (by omega))
  have HOA3 := Lib.hid (HOA2.out.below hb (by omega))
  have HVB3 := Lib.hid (HVB2.out.below hb (by omega))
  have HOB3 := Lib.hid (HOB2.out.below hb (by omega))
  have HB3 := Lib.hid (HB2.out.trans (hb.mono (by omega)))
  have HXa3 := Lib.hid ((hb.block _ (lt_of_row HXa2.out)).trans HXa2.out)
  have HXb3 := Lib.hid ((hb.block _ (lt_of_row HXb2.out)).trans HXb2.out)
  clear hb HVA2 HOA2 HVB2 HOB2 HB2 HXa2 HXb2
  obtain ⟨ca, hca⟩ : ∃ b, cartB xs l = b := ⟨_, rfl⟩
  have Hca := Lib.hid hca
  clear hca
  obtain ⟨c00, c01⟩ := pair_cells HXa3.out
  go_wp2_with fail
  have hc := specCartOk w3 w3.heap.size ava aoa 4 avc l.length aoc xs l (HVA3.out.more (by omega)) (HOA3.out.more (by omega)) (Nat.le_refl _) (by omega) (by omega) HIa.out
  rw [Hca.out] at hc
  refine hc.mono ?_
  clear hc
  rintro e w4 ⟨rfl, hb⟩
  clear c00 c01
  have hs4 := hb.size
  have HVA4 := Lib.hid (HVA3.out.below hb (by omega))
  have HOA4 := Lib.hid (HOA3.out.below hb (by omega))
  have HVB4 := Lib.hid (HVB3.out.below hb (by omega))
  have HOB4 := Lib.hid (HOB3.out.below hb (by omega))
  have HB4 := Lib.hid (HB3.out.trans (hb.mono (by omega)))
  have HXa4 := Lib.hid ((hb.block _ (lt_of_row HXa3.out)).trans HXa3.out)
  have HXb4 := Lib.hid ((hb.block _ (lt_of_row HXb3.out)).trans HXb3.out)
  clear hb HVA3 HOA3 HVB3 HOB3 HB3 HXa3 HXb3
  cases ca
  · skip
    obtain ⟨c00, c01⟩ := pair_cells HXa4.out
    obtain ⟨c10, c11⟩ := pair_cells HXb4.out
    go_wp2_with fail
    have hc := specWithinC w4 w4.heap.size ava aoa bva boa 4 avc l.length aoc 4 bvc m.length boc xs l ys m (HVA4.out.more (by omega)) (HOA4.out.more (by omega)) (HVB4.out.more (by omega)) (HOB4.out.more (by omega)) (Nat.le_refl _) (by omega) (by omega) HIa.out (by omega) (by omega) HIb.out
    rw [HRI.out] at hc
    refine hc.mono ?_
    clear hc
    rintro e w5 ⟨rfl, hb⟩
    clear c00 c01 c10 c11
    have hs5 := hb.size
    have HVA5 := Lib.hid (HVA4.out.below hb (by omega))
    have HOA5 := Lib.hid (HOA4.out.below hb (by omega))
    have HVB5 := Lib.hid (HVB4.out.below hb (by omega))
    have HOB5 := Lib.hid (HOB4.out.below hb (by omega))
    have HB5 := Lib.hid (HB4.out.trans (hb.mono (by omega)))
    have HXa5 := Lib.hid ((hb.block _ (lt_of_row HXa4.out)).trans HXa4.out)
    have HXb5 := Lib.hid ((hb.block _ (lt_of_row HXb4.out)).trans HXb4.out)
    clear hb HVA4 HOA4 HVB4 HOB4 HB4 HXa4 HXb4
    cases RI
    · go_wp2
      go_ret
      exact ⟨rfl, HB5.out⟩
    · go_wp2
      go_ret
      exact ⟨rfl, HB5.out⟩
  obtain ⟨cb, hcb⟩ : ∃ b, cartB ys m = b := ⟨_, rfl⟩
  have Hcb := Lib.hid hcb
  clear hcb
  obtain ⟨c00, c01⟩ := pair_cells HXb4.out
  go_wp2_with fail
  have hc := specCartOk w4 w4.heap.size bva boa 4 bvc m.length boc ys m (HVB4.out.more (by omega)) (HOB4.out.more (by omega)) (Nat.le_refl _) (by omega) (by omega) HIb.out
  rw [Hcb.out] at hc
  refine hc.mono ?_
  clear hc
  rintro e w5 ⟨rfl, hb⟩
  clear c00 c01
  have hs5 := hb.size
  have HVA5 := Lib.hid (HVA4.out.below hb (by omega))
  have HOA5 := Lib.hid (HOA4.out.below hb (by omega))
  have HVB5 := Lib.hid (HVB4.out.below hb (by omega))
  have HOB5 := Lib.hid (HOB4.out.below hb (by omega))
  have HB5 := Lib.hid (HB4.out.trans (hb.mono (by omega)))
  have HXa5 := Lib.hid ((hb.block _ (lt_of_row HXa4.out)).trans HXa4.out)
  have HXb5 := Lib.hid ((hb.block _ (lt_of_row HXb4.out)).trans HXb4.out)
  clear hb HVA4 HOA4 HVB4 HOB4 HB4 HXa4 HXb4
  cases cb
  · skip
    obtain ⟨c00, c01⟩ := pair_cells HXa5.out
    obtain ⟨c10, c11⟩ := pair_cells HXb5.out
    go_wp2_with fail
    have hc := specWithinC w5 w5.heap.size ava aoa bva boa 4 avc l.length aoc 4 bvc m.length boc xs l ys m (HVA5.out.more (by omega)) (HOA5.out.more (by omega)) (HVB5.out.more (by omega)) (HOB5.out.more (by omega)) (Nat.le_refl _) (by omega) (by omega) HIa.out (by omega) (by omega) HIb.out
    rw [HRI.out] at hc
    refine hc.mono ?_
    clear hc
    rintro e w6 ⟨rfl, hb⟩
    clear c00 c01 c10 c11
    have hs6 := hb.size
    have HVA6 := Lib.hid (HVA5.out.below hb (by omega))
    have HOA6 := Lib.hid (HOA5.out.below hb (by omega))
    have HVB6 := Lib.hid (HVB5.out.below hb (by omega))
    have HOB6 := Lib.hid (HOB5.out.below hb (by omega))
    have HB6 := Lib.hid (HB5.out.trans (hb.mono (by omega)))
    have HXa6 := Lib.hid ((hb.block _ (lt_of_row HXa5.out)).trans HXa5.out)
    have HXb6 := Lib.hid ((hb.block _ (lt_of_row HXb5.out)).trans HXb5.out)
    clear hb HVA5 HOA5 HVB5 HOB5 HB5 HXa5 HXb5
    cases RI
    · go_wp2
      go_ret
      exact ⟨rfl, HB6.out⟩
    · go_wp2
      go_ret
      exact ⟨rfl, HB6.out⟩
  clear hrr
  obtain ⟨R, hR⟩ : ∃ R, mergedB xs l ys m = R := ⟨_, rfl⟩
  have HR := Lib.hid hR
  obtain ⟨vs, hvs⟩ : ∃ vs, mergedV xs ys R = vs := ⟨_, rfl⟩
  obtain ⟨os, hos⟩ : ∃ os, mergedO xs ys l m R = os := ⟨_, rfl⟩
  have HVs := Lib.hid hvs
  have HOs := Lib.hid hos
  have hlv : vs.length ≤ 4 := by rw [← hvs]; exact mergedVs_len xs ys l m R hR
  have hlo : os.length ≤ 200 := by rw [← hos]; exact mergedOs_len xs ys l m R hR
  clear hR hvs hos
  obtain ⟨c00, c01⟩ := pair_cells HXa5.out
  obtain ⟨c10, c11⟩ := pair_cells HXb5.out
  go_wp2_with fail
  have hc := implMergedK w5 w5.heap.size ava aoa bva boa 4 avc l.length aoc 4 bvc m.length boc xs l ys m (HVA5.out.more (by omega)) (HOA5.out.more (by omega)) (HVB5.out.more (by omega)) (HOB5.out.more (by omega)) (Nat.le_refl _) (by omega) HCa.out.1 ⟨by omega, HCa.out.2.1⟩ HIa.out (by omega) HCb.out.1 ⟨by omega, HCb.out.2.1⟩ HIb.out
  rw [HR.out, HVs.out, HOs.out] at hc
  refine hc.mono ?_
  clear hc
  rintro e w6 ⟨mva, mvc, moa, moc, mid, rfl, hov, hop, hm1, hm2, hb, _⟩
  clear c00 c01 c10 c11
  have hov := hov.more (Nat.le_refl _) hm2
  clear hm1 hm2
  have hs6 := hb.size
  have HVA6 := Lib.hid (HVA5.out.below hb (by omega))
  have HOA6 := Lib.hid (HOA5.out.below hb (by omega))
  have HVB6 := Lib.hid (HVB5.out.below hb (by omega))
  have HOB6 := Lib.hid (HOB5.out.below hb (by omega))
  have HB6 := Lib.hid (HB5.out.trans (hb.mono (by omega)))
  have HXa6 := Lib.hid ((hb.block _ (lt_of_row HXa5.out)).trans HXa5.out)
  have HXb6 := Lib.hid ((hb.block _ (lt_of_row HXb5.out)).trans HXb5.out)
  clear hb HVA5 HOA5 HVB5 HOB5 HB5 HXa5 HXb5
  have HVM6 := Lib.hid hov.ints
  have HOM6 := Lib.hid hop.ops
  clear hov hop
  go_upto_region 8 with fail
  have hb : Below w6.heap.size w6 (w6.alloc (.cells #[.slice mva vs.length mvc, .slice moa os.length moc] 27)) := (Below.refl _ _).alloc (Nat.le_refl _) _
  have HXm7 := Lib.hid (boxAt (Below.refl _ (w6.alloc (.cells #[.slice mva vs.length mvc, .slice moa os.length moc] 27))))
  generalize w6.alloc (.cells #[.slice mva vs.length mvc, .slice moa os.length moc] 27) = w7 at hb HXm7 ⊢
  have hs7 := hb.size
  have HVA7 := Lib.hid (HVA6.out.below hb (by omega))
  have HOA7 := Lib.hid (HOA6.out.below hb (by omega))
  have HVB7 := Lib.hid (HVB6.out.below hb (by omega))
  have HOB7 := Lib.hid (HOB6.out.below hb (by omega))
  have HB7 := Lib.hid (HB6.out.trans (hb.mono (by omega)))
  have HXa7 := Lib.hid ((hb.block _ (lt_of_row HXa6.out)).trans HXa6.out)
  have HXb7 := Lib.hid ((hb.block _ (lt_of_row HXb6.out)).trans HXb6.out)
  have HVM7 := Lib.hid (HVM6.out.below hb (by omega))
  have HOM7 := Lib.hid (HOM6.out.below hb (by omega))
  clear hb HVA6 HOA6 HVB6 HOB6 HB6 HXa6 HXb6 HVM6 HOM6
  have HSelf := Lib.hid (in_self Hca.out)
  have HZero := Lib.hid (in_zero Hca.out)
  have HEq : Hid (R = true → (decide (vs = ys) && decide (os = m)) = RI) := fun hR => by
    have h1 := HR.out
    have h2 := HVs.out
    have h3 := HOs.out
    have h4 := HRI.out
    subst hR
    have h2 : maxV xs ys = vs := h2
    have h3 : mergeL (maxV xs ys) l m = os := h3
    cases RI
    · rw [Bool.and_eq_false_iff]
      by_cases e1 : vs = ys
      · by_cases e2 : os = m
        · have := in_of_merged h1 (h2.trans e1) (h3.trans e2)
          rw [h4] at this
          cases this
        · exact .inr (decide_eq_false e2)
      · exact .inl (decide_eq_false e1)
    · obtain ⟨_, g2, g3⟩ := merged_in h4
      rw [decide_eq_true (h2.symm.trans g2), decide_eq_true (h3.symm.trans (by rw [g2]; exact g3))]
      rfl
  have HNo : Hid (R = false → RI = false) := fun hR => by
    have h4 := HRI.out
    cases RI
    · rfl
    · have := (merged_in h4).1
      rw [HR.out, hR] at this
      cases this
  cases R
  · skip
    have e := HNo.out rfl
    subst e
    obtain ⟨w8, hze⟩ : ∃ z, w7.drew = z := ⟨_, rfl⟩
    have hb : Below w7.heap.size w7 w8 := by rw [← hze]; exact ⟨rfl, rfl, rfl, Nat.le_refl _, fun _ _ => rfl⟩
    have hs8 := hb.size
    have HVA8 := Lib.hid (HVA7.out.below hb (by omega))
    have HOA8 := Lib.hid (HOA7.out.below hb (by omega))
    have HVB8 := Lib.hid (HVB7.out.below hb (by omega))
    have HOB8 := Lib.hid (HOB7.out.below hb (by omega))
    have HB8 := Lib.hid (HB7.out.trans (hb.mono (by omega)))
    have HXa8 := Lib.hid ((hb.block _ (lt_of_row HXa7.out)).trans HXa7.out)
    have HXb8 := Lib.hid ((hb.block _ (lt_of_row HXb7.out)).trans HXb7.out)
    have HVM8 := Lib.hid (HVM7.out.below hb (by omega))
    have HOM8 := Lib.hid (HOM7.out.below hb (by omega))
    have HXm8 := Lib.hid ((hb.block _ (lt_of_row HXm7.out)).trans HXm7.out)
    clear hb HVA7 HOA7 HVB7 HOB7 HB7 HXa7 HXb7 HVM7 HOM7 HXm7
    have hS : w8.cell? ⟨w0.heap.size, 0, none⟩ = some (.slice ava 4 avc) ∧ w8.cell? ⟨w0.heap.size, 1, none⟩ = some (.slice aoa l.length aoc) ∧ w8.cell? ⟨w0.heap.size + 1, 0, none⟩ = some (.slice bva 4 bvc) ∧ w8.cell? ⟨w0.heap.size + 1, 1, none⟩ = some (.slice boa m.length boc) ∧ w8.cell? ⟨w6.heap.size, 0, none⟩ = some (.slice mva vs.length mvc) ∧ w8.cell? ⟨w6.heap.size, 1, none⟩ = some (.slice moa os.length moc) := ⟨(pair_cells HXa8.out).1, (pair_cells HXa8.out).2, (pair_cells HXb8.out).1, (pair_cells HXb8.out).2, (pair_cells HXm8.out).1, (pair_cells HXm8.out).2⟩
    refine wp_region_held_drew (S := fun w' => w'.cell? ⟨w0.heap.size, 0, none⟩ = some (.slice ava 4 avc) ∧ w'.cell? ⟨w0.heap.size, 1, none⟩ = some (.slice aoa l.length aoc) ∧ w'.cell? ⟨w0.heap.size + 1, 0, none⟩ = some (.slice bva 4 bvc) ∧ w'.cell? ⟨w0.heap.size + 1, 1, none⟩ = some (.slice boa m.length boc) ∧ w'.cell? ⟨w6.heap.size, 0, none⟩ = some (.slice mva vs.length mvc) ∧ w'.cell? ⟨w6.heap.size, 1, none⟩ = some (.slice moa os.length moc)) (by kernel_rfl) (by rw [hze]; exact hS) (fun hHeld => ?_)
    rw [hze]
    clear hHeld hze
    refine wpAnyH_take (i := 0) (oi := { dst := some 44, op := Op.move (Operand.tmp 5), type := 4, pos := "laws.go:306", after := #[], guard := none }) (v := ?_) rfl (by kernel_rfl) (by kernel_rfl) (by kernel_rfl) (fun _ _ _ h => h) (Or.inl ⟨by rfl, ?_⟩) (by assumption) ?_
    rotate_left
    · intro w hSw
      (try dsimp only at hSw)
      first | (go_simp; done) | (go_simp; with_reducible rfl)
    (try simp only [Act.put, List.setIfInBounds_toArray, List.set_cons_zero, List.set_cons_succ])
    refine wpAnyH_take (i := 1) (oi := { dst := some 45, op := Op.move (Operand.tmp 7), type := 4, pos := "laws.go:306", after := #[], guard := none }) (v := ?_) rfl (by kernel_rfl) (by kernel_rfl) (by kernel_rfl) (fun _ _ _ h => h) (Or.inl ⟨by rfl, ?_⟩) (by assumption) ?_
    rotate_left
    · intro w hSw
      (try dsimp only at hSw)
      first | (go_simp; done) | (go_simp; with_reducible rfl)
    (try simp only [Act.put, List.setIfInBounds_toArray, List.set_cons_zero, List.set_cons_succ])
    refine wpAnyH_take (i := 2) (oi := { dst := some 46, op := Op.move (Operand.tmp 45), type := 4, pos := "laws.go:306", after := #[{ on := 1, ground := Ground.data }], guard := none }) (v := ?_) rfl (by kernel_rfl) (by kernel_rfl) (by kernel_rfl) (fun _ _ _ h => h) (Or.inl ⟨by rfl, ?_⟩) (by assumption) ?_
    rotate_left
    · intro w hSw
      (try dsimp only at hSw)
      first | (go_simp; done) | (go_simp; with_reducible rfl)
    (try simp only [Act.put, List.setIfInBounds_toArray, List.set_cons_zero, List.set_cons_succ])
    refine wpAnyH_take (i := 3) (oi := { dst := some 47, op := Op.load 27 (Operand.tmp 6), type := 27, pos := "laws.go:306", after := #[{ on := 2, ground := Ground.guard }], guard := some (2, true) }) (v := undef) rfl (by kernel_rfl) (by kernel_rfl) (by kernel_rfl) (fun _ _ _ h => h) (Or.inr ⟨by rfl, rfl⟩) (by assumption) ?_
    (try simp only [Act.put, List.setIfInBounds_toArray, List.set_cons_zero, List.set_cons_succ])
    refine wpAnyH_take (i := 4) (oi := { dst := some 48, op := Op.load 27 (Operand.tmp 4), type := 27, pos := "laws.go:306", after := #[{ on := 2, ground := Ground.guard }], guard := some (2, true) }) (v := undef) rfl (by kernel_rfl) (by kernel_rfl) (by kernel_rfl) (fun _ _ _ h => h) (Or.inr ⟨by rfl, rfl⟩) (by assumption) ?_
    (try simp only [Act.put, List.setIfInBounds_toArray, List.set_cons_zero, List.set_cons_succ])
    refine wpAnyH_take (i := 5) (oi := { dst := some 49, op := Op.call { callee := Callee.value (Operand.func 19), args := #[Operand.tmp 47, Operand.tmp 48], argTypes := #[27, 27] }, type := 4, pos := "laws.go:306", after := #[{ on := 3, ground := Ground.data }, { on := 4, ground := Ground.data }, { on := 2, ground := Ground.chain }, { on := 2, ground := Ground.guard }], guard := some (2, true) }) (v := undef) rfl (by kernel_rfl) (by kernel_rfl) (by kernel_rfl) (fun _ _ _ h => h) (Or.inr ⟨by rfl, rfl⟩) (by assumption) ?_
    (try simp only [Act.put, List.setIfInBounds_toArray, List.set_cons_zero, List.set_cons_succ])
    refine wpAnyH_take (i := 6) (oi := { dst := some 50, op := Op.pick (Operand.tmp 46) (Operand.tmp 49) (Operand.const (Value.bool false)), type := 4, pos := "laws.go:306", after := #[{ on := 2, ground := Ground.data }, { on := 5, ground := Ground.data }], guard := none }) (v := ?_) rfl (by kernel_rfl) (by kernel_rfl) (by kernel_rfl) (fun _ _ _ h => h) (Or.inl ⟨by rfl, ?_⟩) (by assumption) ?_
    rotate_left
    · intro w hSw
      (try dsimp only at hSw)
      first | (go_simp; done) | (go_simp; with_reducible rfl)
    (try simp only [Act.put, List.setIfInBounds_toArray, List.set_cons_zero, List.set_cons_succ])
    refine wpAnyH_take (i := 7) (oi := { dst := some 51, op := Op.binOp BinOp.eql 4 (Operand.tmp 44) (Operand.tmp 50) 4, type := 4, pos := "laws.go:306", after := #[{ on := 0, ground := Ground.data }, { on := 6, ground := Ground.data }], guard := none }) (v := ?_) rfl (by kernel_rfl) (by kernel_rfl) (by kernel_rfl) (fun _ _ _ h => h) (Or.inl ⟨by rfl, ?_⟩) (by assumption) ?_
    rotate_left
    · intro w hSw
      (try dsimp only at hSw)
      first | (go_simp; done) | (go_simp; with_reducible rfl)
    (try simp only [Act.put, List.setIfInBounds_toArray, List.set_cons_zero, List.set_cons_succ])
    refine wpAnyH_take (i := 8) (oi := { dst := some 52, op := Op.move (Operand.tmp 51), type := 4, pos := "laws.go:306", after := #[{ on := 7, ground := Ground.data }, { on := 5, ground := Ground.chain }], guard := none }) (v := ?_) rfl (by kernel_rfl) (by kernel_rfl) (by kernel_rfl) (fun _ _ _ h => h) (Or.inl ⟨by rfl, ?_⟩) (by assumption) ?_
    rotate_left
    · intro w hSw
      (try dsimp only at hSw)
      first | (go_simp; done) | (go_simp; with_reducible rfl)
    (try simp only [Act.put, List.setIfInBounds_toArray, List.set_cons_zero, List.set_cons_succ])
    refine wpAnyH_take (i := 9) (oi := { dst := some 53, op := Op.load 27 (Operand.tmp 3), type := 27, pos := "laws.go:306", after := #[{ on := 8, ground := Ground.guard }], guard := some (8, true) }) (v := ?_) rfl (by kernel_rfl) (by kernel_rfl) (by kernel_rfl) (fun _ _ _ h => h) (Or.inl ⟨by rfl, ?_⟩) (by assumption) ?_
    rotate_left
    · intro w hSw
      (try dsimp only at hSw)
      first | (go_simp; done) | (go_simp; with_reducible rfl)
    (try simp only [Act.put, List.setIfInBounds_toArray, List.set_cons_zero, List.set_cons_succ])
    refine wpAnyH_take (i := 10) (oi := { dst := some 54, op := Op.load 27 (Operand.tmp 3), type := 27, pos := "laws.go:306", after := #[{ on := 8, ground := Ground.guard }], guard := some (8, true) }) (v := ?_) rfl (by kernel_rfl) (by kernel_rfl) (by kernel_rfl) (fun _ _ _ h => h) (Or.inl ⟨by rfl, ?_⟩) (by assumption) ?_
    rotate_left
    · intro w hSw
      (try dsimp only at hSw)
      first | (go_simp; done) | (go_simp; with_reducible rfl)
    (try simp only [Act.put, List.setIfInBounds_toArray, List.set_cons_zero, List.set_cons_succ])
    refine wpAnyH_ready (rs := [11]) (by kernel_rfl) (by simp) ?_
    refine AllReadyH.cons (o := { dst := some 55, op := Op.call { callee := Callee.value (Operand.func 21), args := #[Operand.tmp 53, Operand.tmp 54], argTypes := #[27, 27] }, type := 4, pos := "laws.go:306", after := #[{ on := 9, ground := Ground.data }, { on := 10, ground := Ground.data }, { on := 8, ground := Ground.chain }, { on := 8, ground := Ground.guard }], guard := some (8, true) }) rfl (fun K hK => ?_) AllReadyH.nil
    go_simp
    go_at_call 21
    have hc := implWithinC w8 w8.heap.size ava aoa ava aoa 4 avc l.length aoc 4 avc l.length aoc xs l xs l (HVA8.out.more (by omega)) (HOA8.out.more (by omega)) (HVA8.out.more (by omega)) (HOA8.out.more (by omega)) (Nat.le_refl _) (by omega) HCa.out.1 ⟨by omega, HCa.out.2.1⟩ (by omega) HCa.out.1 ⟨by omega, HCa.out.2.1⟩
    rw [HSelf.out] at hc
    refine hc.mono ?_
    clear hc
    rintro e w9 ⟨rfl, hb⟩
    have hs9 := hb.size
    have HVA9 := Lib.hid (HVA8.out.below hb (by omega))
    have HOA9 := Lib.hid (HOA8.out.below hb (by omega))
    have HVB9 := Lib.hid (HVB8.out.below hb (by omega))
    have HOB9 := Lib.hid (HOB8.out.below hb (by omega))
    have HB9 := Lib.hid (HB8.out.trans (hb.mono (by omega)))
    have HXa9 := Lib.hid ((hb.block _ (lt_of_row HXa8.out)).trans HXa8.out)
    have HXb9 := Lib.hid ((hb.block _ (lt_of_row HXb8.out)).trans HXb8.out)
    have HVM9 := Lib.hid (HVM8.out.below hb (by omega))
    have HOM9 := Lib.hid (HOM8.out.below hb (by omega))
    have HXm9 := Lib.hid ((hb.block _ (lt_of_row HXm8.out)).trans HXm8.out)
    clear hb HVA8 HOA8 HVB8 HOB8 HB8 HXa8 HXb8 HVM8 HOM8 HXm8
    have hS9 : w9.cell? ⟨w0.heap.size, 0, none⟩ = some (.slice ava 4 avc) ∧ w9.cell? ⟨w0.heap.size, 1, none⟩ = some (.slice aoa l.length aoc) ∧ w9.cell? ⟨w0.heap.size + 1, 0, none⟩ = some (.slice bva 4 bvc) ∧ w9.cell? ⟨w0.heap.size + 1, 1, none⟩ = some (.slice boa m.length boc) ∧ w9.cell? ⟨w6.heap.size, 0, none⟩ = some (.slice mva vs.length mvc) ∧ w9.cell? ⟨w6.heap.size, 1, none⟩ = some (.slice moa os.length moc) := ⟨(pair_cells HXa9.out).1, (pair_cells HXa9.out).2, (pair_cells HXb9.out).1, (pair_cells HXb9.out).2, (pair_cells HXm9.out).1, (pair_cells HXm9.out).2⟩
    refine hK.out _ _ hS9 (fun hHeld9 => ?_)
    clear hK K hS
    have hS := hS9
    clear hS9
    (try simp only [Act.put, List.setIfInBounds_toArray, List.set_cons_zero, List.set_cons_succ])
    refine wpAnyH_take (i := 12) (oi := { dst := some 56, op := Op.pick (Operand.tmp 52) (Operand.tmp 55) (Operand.const (Value.bool false)), type := 4, pos := "laws.go:306", after := #[{ on := 8, ground := Ground.data }, { on := 11, ground := Ground.data }], guard := none }) (v := ?_) rfl (by kernel_rfl) (by kernel_rfl) (by kernel_rfl) (fun _ _ _ h => h) (Or.inl ⟨by rfl, ?_⟩) (by assumption) ?_
    rotate_left
    · intro w hSw
      (try dsimp only at hSw)
      first | (go_simp; done) | (go_simp; with_reducible rfl)
    (try simp only [Act.put, List.setIfInBounds_toArray, List.set_cons_zero, List.set_cons_succ])
    refine wpAnyH_take (i := 13) (oi := { dst := some 57, op := Op.move (Operand.tmp 56), type := 4, pos := "laws.go:306", after := #[{ on := 12, ground := Ground.data }, { on := 11, ground := Ground.chain }], guard := none }) (v := ?_) rfl (by kernel_rfl) (by kernel_rfl) (by kernel_rfl) (fun _ _ _ h => h) (Or.inl ⟨by rfl, ?_⟩) (by assumption) ?_
    rotate_left
    · intro w hSw
      (try dsimp only at hSw)
      first | (go_simp; done) | (go_simp; with_reducible rfl)
    (try simp only [Act.put, List.setIfInBounds_toArray, List.set_cons_zero, List.set_cons_succ])
    refine wpAnyH_take (i := 15) (oi := { dst := some 59, op := Op.load 27 (Operand.tmp 3), type := 27, pos := "laws.go:306", after := #[{ on := 13, ground := Ground.guard }], guard := some (13, true) }) (v := ?_) rfl (by kernel_rfl) (by kernel_rfl) (by kernel_rfl) (fun _ _ _ h => h) (Or.inl ⟨by rfl, ?_⟩) (by assumption) ?_
    rotate_left
    · intro w hSw
      (try dsimp only at hSw)
      first | (go_simp; done) | (go_simp; with_reducible rfl)
    (try simp only [Act.put, List.setIfInBounds_toArray, List.set_cons_zero, List.set_cons_succ])
    refine wpAnyH_ready (rs := [14]) (by kernel_rfl) (by simp) ?_
    refine AllReadyH.cons (o := { dst := some 58, op := Op.call { callee := Callee.value (Operand.func 22), args := #[], argTypes := #[] }, type := 27, pos := "laws.go:306", after := #[{ on := 13, ground := Ground.chain }, { on := 13, ground := Ground.guard }], guard := some (13, true) }) rfl (fun K hK => ?_) AllReadyH.nil
    go_simp
    go_at_call 22
    refine (implCartNew w9).mono ?_
    rintro e w10 ⟨nva, ncap, rfl, hown, hb⟩
    have HN := Lib.hid hown.ints
    clear hown
    have hs10 := hb.size
    have HVA10 := Lib.hid (HVA9.out.below hb (by omega))
    have HOA10 := Lib.hid (HOA9.out.below hb (by omega))
    have HVB10 := Lib.hid (HVB9.out.below hb (by omega))
    have HOB10 := Lib.hid (HOB9.out.below hb (by omega))
    have HB10 := Lib.hid (HB9.out.trans (hb.mono (by omega)))
    have HXa10 := Lib.hid ((hb.block _ (lt_of_row HXa9.out)).trans HXa9.out)
    have HXb10 := Lib.hid ((hb.block _ (lt_of_row HXb9.out)).trans HXb9.out)
    have HVM10 := Lib.hid (HVM9.out.below hb (by omega))
    have HOM10 := Lib.hid (HOM9.out.below hb (by omega))
    have HXm10 := Lib.hid ((hb.block _ (lt_of_row HXm9.out)).trans HXm9.out)
    clear hb HVA9 HOA9 HVB9 HOB9 HB9 HXa9 HXb9 HVM9 HOM9 HXm9
    have hS10 : w10.cell? ⟨w0.heap.size, 0, none⟩ = some (.slice ava 4 avc) ∧ w10.cell? ⟨w0.heap.size, 1, none⟩ = some (.slice aoa l.length aoc) ∧ w10.cell? ⟨w0.heap.size + 1, 0, none⟩ = some (.slice bva 4 bvc) ∧ w10.cell? ⟨w0.heap.size + 1, 1, none⟩ = some (.slice boa m.length boc) ∧ w10.cell? ⟨w6.heap.size, 0, none⟩ = some (.slice mva vs.length mvc) ∧ w10.cell? ⟨w6.heap.size, 1, none⟩ = some (.slice moa os.length moc) := ⟨(pair_cells HXa10.out).1, (pair_cells HXa10.out).2, (pair_cells HXb10.out).1, (pair_cells HXb10.out).2, (pair_cells HXm10.out).1, (pair_cells HXm10.out).2⟩
    refine hK.out _ _ hS10 (fun hHeld10 => ?_)
    clear hK K hS
    have hS := hS10
    clear hS10
    (try simp only [Act.put, List.setIfInBounds_toArray, List.set_cons_zero, List.set_cons_succ])
    refine wpAnyH_ready (rs := [16]) (by kernel_rfl) (by simp) ?_
    refine AllReadyH.cons (o := { dst := some 60, op := Op.call { callee := Callee.value (Operand.func 21), args := #[Operand.tmp 58, Operand.tmp 59], argTypes := #[27, 27] }, type := 4, pos := "laws.go:306", after := #[{ on := 14, ground := Ground.data }, { on := 15, ground := Ground.data }, { on := 14, ground := Ground.chain }, { on := 13, ground := Ground.guard }], guard := some (13, true) }) rfl (fun K hK => ?_) AllReadyH.nil
    go_simp
    go_at_call 21
    have hc := implWithinC w10 w10.heap.size nva none ava aoa 4 ncap 0 0 4 avc l.length aoc [0, 0, 0, 0] [] xs l HN.out (opsNilC _ _) (HVA10.out.more (by omega)) (HOA10.out.more (by omega)) (Nat.le_refl _) (by omega) (Nat.le_refl _) ⟨by omega, Nat.zero_le _⟩ (by omega) HCa.out.1 ⟨by omega, HCa.out.2.1⟩
    rw [HZero.out] at hc
    refine hc.mono ?_
    clear hc
    rintro e w11 ⟨rfl, hb⟩
    have hs11 := hb.size
    have HVA11 := Lib.hid (HVA10.out.below hb (by omega))
    have HOA11 := Lib.hid (HOA10.out.below hb (by omega))
    have HVB11 := Lib.hid (HVB10.out.below hb (by omega))
    have HOB11 := Lib.hid (HOB10.out.below hb (by omega))
    have HB11 := Lib.hid (HB10.out.trans (hb.mono (by omega)))
    have HXa11 := Lib.hid ((hb.block _ (lt_of_row HXa10.out)).trans HXa10.out)
    have HXb11 := Lib.hid ((hb.block _ (lt_of_row HXb10.out)).trans HXb10.out)
    have HVM11 := Lib.hid (HVM10.out.below hb (by omega))
    have HOM11 := Lib.hid (HOM10.out.below hb (by omega))
    have HXm11 := Lib.hid ((hb.block _ (lt_of_row HXm10.out)).trans HXm10.out)
    clear hb HVA10 HOA10 HVB10 HOB10 HB10 HXa10 HXb10 HVM10 HOM10 HXm10
    have hS11 : w11.cell? ⟨w0.heap.size, 0, none⟩ = some (.slice ava 4 avc) ∧ w11.cell? ⟨w0.heap.size, 1, none⟩ = some (.slice aoa l.length aoc) ∧ w11.cell? ⟨w0.heap.size + 1, 0, none⟩ = some (.slice bva 4 bvc) ∧ w11.cell? ⟨w0.heap.size + 1, 1, none⟩ = some (.slice boa m.length boc) ∧ w11.cell? ⟨w6.heap.size, 0, none⟩ = some (.slice mva vs.length mvc) ∧ w11.cell? ⟨w6.heap.size, 1, none⟩ = some (.slice moa os.length moc) := ⟨(pair_cells HXa11.out).1, (pair_cells HXa11.out).2, (pair_cells HXb11.out).1, (pair_cells HXb11.out).2, (pair_cells HXm11.out).1, (pair_cells HXm11.out).2⟩
    refine hK.out _ _ hS11 (fun hHeld11 => ?_)
    clear hK K hS
    have hS := hS11
    clear hS11
    (try simp only [Act.put, List.setIfInBounds_toArray, List.set_cons_zero, List.set_cons_succ])
    refine wpAnyH_take (i := 17) (oi := { dst := some 61, op := Op.pick (Operand.tmp 57) (Operand.tmp 60) (Operand.const (Value.bool false)), type := 4, pos := "laws.go:306", after := #[{ on := 13, ground := Ground.data }, { on := 16, ground := Ground.data }], guard := none }) (v := ?_) rfl (by kernel_rfl) (by kernel_rfl) (by kernel_rfl) (fun _ _ _ h => h) (Or.inl ⟨by rfl, ?_⟩) (by assumption) ?_
    rotate_left
    · intro w hSw
      (try dsimp only at hSw)
      first | (go_simp; done) | (go_simp; with_reducible rfl)
    (try simp only [Act.put, List.setIfInBounds_toArray, List.set_cons_zero, List.set_cons_succ])
    refine wpAnyH_take (i := 18) (oi := { dst := some 2, op := Op.assign (Operand.tmp 61), type := 4, pos := "laws.go:306", after := #[{ on := 17, ground := Ground.data }, { on := 16, ground := Ground.chain }, { on := 0, ground := Ground.phase }, { on := 1, ground := Ground.phase }, { on := 2, ground := Ground.phase }, { on := 3, ground := Ground.phase }, { on := 4, ground := Ground.phase }, { on := 5, ground := Ground.phase }, { on := 6, ground := Ground.phase }, { on := 7, ground := Ground.phase }, { on := 8, ground := Ground.phase }, { on := 9, ground := Ground.phase }, { on := 10, ground := Ground.phase }, { on := 11, ground := Ground.phase }, { on := 12, ground := Ground.phase }, { on := 13, ground := Ground.phase }, { on := 14, ground := Ground.phase }, { on := 15, ground := Ground.phase }, { on := 16, ground := Ground.phase }, { on := 17, ground := Ground.phase }], guard := none }) (v := ?_) rfl (by kernel_rfl) (by kernel_rfl) (by kernel_rfl) (fun _ _ _ h => h) (Or.inl ⟨by rfl, ?_⟩) (by assumption) ?_
    rotate_left
    · intro w hSw
      (try dsimp only at hSw)
      first | (go_simp; done) | (go_simp; with_reducible rfl)
    (try simp only [Act.put, List.setIfInBounds_toArray, List.set_cons_zero, List.set_cons_succ])
    refine wpAnyH_done (by kernel_rfl) ?_ _
    go_wp2
    go_ret
    exact ⟨rfl, HB11.out⟩
  cases RI
  · skip
    obtain ⟨w8, hze⟩ : ∃ z, w7.drew = z := ⟨_, rfl⟩
    have hb : Below w7.heap.size w7 w8 := by rw [← hze]; exact ⟨rfl, rfl, rfl, Nat.le_refl _, fun _ _ => rfl⟩
    have hs8 := hb.size
    have HVA8 := Lib.hid (HVA7.out.below hb (by omega))
    have HOA8 := Lib.hid (HOA7.out.below hb (by omega))
    have HVB8 := Lib.hid (HVB7.out.below hb (by omega))
    have HOB8 := Lib.hid (HOB7.out.below hb (by omega))
    have HB8 := Lib.hid (HB7.out.trans (hb.mono (by omega)))
    have HXa8 := Lib.hid ((hb.block _ (lt_of_row HXa7.out)).trans HXa7.out)
    have HXb8 := Lib.hid ((hb.block _ (lt_of_row HXb7.out)).trans HXb7.out)
    have HVM8 := Lib.hid (HVM7.out.below hb (by omega))
    have HOM8 := Lib.hid (HOM7.out.below hb (by omega))
    have HXm8 := Lib.hid ((hb.block _ (lt_of_row HXm7.out)).trans HXm7.out)
    clear hb HVA7 HOA7 HVB7 HOB7 HB7 HXa7 HXb7 HVM7 HOM7 HXm7
    have hS : w8.cell? ⟨w0.heap.size, 0, none⟩ = some (.slice ava 4 avc) ∧ w8.cell? ⟨w0.heap.size, 1, none⟩ = some (.slice aoa l.length aoc) ∧ w8.cell? ⟨w0.heap.size + 1, 0, none⟩ = some (.slice bva 4 bvc) ∧ w8.cell? ⟨w0.heap.size + 1, 1, none⟩ = some (.slice boa m.length boc) ∧ w8.cell? ⟨w6.heap.size, 0, none⟩ = some (.slice mva vs.length mvc) ∧ w8.cell? ⟨w6.heap.size, 1, none⟩ = some (.slice moa os.length moc) := ⟨(pair_cells HXa8.out).1, (pair_cells HXa8.out).2, (pair_cells HXb8.out).1, (pair_cells HXb8.out).2, (pair_cells HXm8.out).1, (pair_cells HXm8.out).2⟩
    refine wp_region_held_drew (S := fun w' => w'.cell? ⟨w0.heap.size, 0, none⟩ = some (.slice ava 4 avc) ∧ w'.cell? ⟨w0.heap.size, 1, none⟩ = some (.slice aoa l.length aoc) ∧ w'.cell? ⟨w0.heap.size + 1, 0, none⟩ = some (.slice bva 4 bvc) ∧ w'.cell? ⟨w0.heap.size + 1, 1, none⟩ = some (.slice boa m.length boc) ∧ w'.cell? ⟨w6.heap.size, 0, none⟩ = some (.slice mva vs.length mvc) ∧ w'.cell? ⟨w6.heap.size, 1, none⟩ = some (.slice moa os.length moc)) (by kernel_rfl) (by rw [hze]; exact hS) (fun hHeld => ?_)
    rw [hze]
    clear hHeld hze
    refine wpAnyH_take (i := 0) (oi := { dst := some 44, op := Op.move (Operand.tmp 5), type := 4, pos := "laws.go:306", after := #[], guard := none }) (v := ?_) rfl (by kernel_rfl) (by kernel_rfl) (by kernel_rfl) (fun _ _ _ h => h) (Or.inl ⟨by rfl, ?_⟩) (by assumption) ?_
    rotate_left
    · intro w hSw
      (try dsimp only at hSw)
      first | (go_simp; done) | (go_simp; with_reducible rfl)
    (try simp only [Act.put, List.setIfInBounds_toArray, List.set_cons_zero, List.set_cons_succ])
    refine wpAnyH_take (i := 1) (oi := { dst := some 45, op := Op.move (Operand.tmp 7), type := 4, pos := "laws.go:306", after := #[], guard := none }) (v := ?_) rfl (by kernel_rfl) (by kernel_rfl) (by kernel_rfl) (fun _ _ _ h => h) (Or.inl ⟨by rfl, ?_⟩) (by assumption) ?_
    rotate_left
    · intro w hSw
      (try dsimp only at hSw)
      first | (go_simp; done) | (go_simp; with_reducible rfl)
    (try simp only [Act.put, List.setIfInBounds_toArray, List.set_cons_zero, List.set_cons_succ])
    refine wpAnyH_take (i := 2) (oi := { dst := some 46, op := Op.move (Operand.tmp 45), type := 4, pos := "laws.go:306", after := #[{ on := 1, ground := Ground.data }], guard := none }) (v := ?_) rfl (by kernel_rfl) (by kernel_rfl) (by kernel_rfl) (fun _ _ _ h => h) (Or.inl ⟨by rfl, ?_⟩) (by assumption) ?_
    rotate_left
    · intro w hSw
      (try dsimp only at hSw)
      first | (go_simp; done) | (go_simp; with_reducible rfl)
    (try simp only [Act.put, List.setIfInBounds_toArray, List.set_cons_zero, List.set_cons_succ])
    refine wpAnyH_take (i := 3) (oi := { dst := some 47, op := Op.load 27 (Operand.tmp 6), type := 27, pos := "laws.go:306", after := #[{ on := 2, ground := Ground.guard }], guard := some (2, true) }) (v := ?_) rfl (by kernel_rfl) (by kernel_rfl) (by kernel_rfl) (fun _ _ _ h => h) (Or.inl ⟨by rfl, ?_⟩) (by assumption) ?_
    rotate_left
    · intro w hSw
      (try dsimp only at hSw)
      first | (go_simp; done) | (go_simp; with_reducible rfl)
    (try simp only [Act.put, List.setIfInBounds_toArray, List.set_cons_zero, List.set_cons_succ])
    refine wpAnyH_take (i := 4) (oi := { dst := some 48, op := Op.load 27 (Operand.tmp 4), type := 27, pos := "laws.go:306", after := #[{ on := 2, ground := Ground.guard }], guard := some (2, true) }) (v := ?_) rfl (by kernel_rfl) (by kernel_rfl) (by kernel_rfl) (fun _ _ _ h => h) (Or.inl ⟨by rfl, ?_⟩) (by assumption) ?_
    rotate_left
    · intro w hSw
      (try dsimp only at hSw)
      first | (go_simp; done) | (go_simp; with_reducible rfl)
    (try simp only [Act.put, List.setIfInBounds_toArray, List.set_cons_zero, List.set_cons_succ])
    refine wpAnyH_ready (rs := [5]) (by kernel_rfl) (by simp) ?_
    refine AllReadyH.cons (o := { dst := some 49, op := Op.call { callee := Callee.value (Operand.func 19), args := #[Operand.tmp 47, Operand.tmp 48], argTypes := #[27, 27] }, type := 4, pos := "laws.go:306", after := #[{ on := 3, ground := Ground.data }, { on := 4, ground := Ground.data }, { on := 2, ground := Ground.chain }, { on := 2, ground := Ground.guard }], guard := some (2, true) }) rfl (fun K hK => ?_) AllReadyH.nil
    go_simp
    go_at_call 19
    refine (sameCart w8 w8.heap.size mva moa bva boa vs.length mvc os.length moc 4 bvc m.length boc vs os ys m (HVM8.out.more (by omega)) (HOM8.out.more (by omega)) (HVB8.out.more (by omega)) (HOB8.out.more (by omega)) (Nat.le_refl _) (by omega) (by omega) (by omega) (by omega)).mono ?_
    rintro e w9 ⟨rfl, hb⟩
    rw [HEq.out rfl]
    have hs9 := hb.size
    have HVA9 := Lib.hid (HVA8.out.below hb (by omega))
    have HOA9 := Lib.hid (HOA8.out.below hb (by omega))
    have HVB9 := Lib.hid (HVB8.out.below hb (by omega))
    have HOB9 := Lib.hid (HOB8.out.below hb (by omega))
    have HB9 := Lib.hid (HB8.out.trans (hb.mono (by omega)))
    have HXa9 := Lib.hid ((hb.block _ (lt_of_row HXa8.out)).trans HXa8.out)
    have HXb9 := Lib.hid ((hb.block _ (lt_of_row HXb8.out)).trans HXb8.out)
    have HVM9 := Lib.hid (HVM8.out.below hb (by omega))
    have HOM9 := Lib.hid (HOM8.out.below hb (by omega))
    have HXm9 := Lib.hid ((hb.block _ (lt_of_row HXm8.out)).trans HXm8.out)
    clear hb HVA8 HOA8 HVB8 HOB8 HB8 HXa8 HXb8 HVM8 HOM8 HXm8
    have hS9 : w9.cell? ⟨w0.heap.size, 0, none⟩ = some (.slice ava 4 avc) ∧ w9.cell? ⟨w0.heap.size, 1, none⟩ = some (.slice aoa l.length aoc) ∧ w9.cell? ⟨w0.heap.size + 1, 0, none⟩ = some (.slice bva 4 bvc) ∧ w9.cell? ⟨w0.heap.size + 1, 1, none⟩ = some (.slice boa m.length boc) ∧ w9.cell? ⟨w6.heap.size, 0, none⟩ = some (.slice mva vs.length mvc) ∧ w9.cell? ⟨w6.heap.size, 1, none⟩ = some (.slice moa os.length moc) := ⟨(pair_cells HXa9.out).1, (pair_cells HXa9.out).2, (pair_cells HXb9.out).1, (pair_cells HXb9.out).2, (pair_cells HXm9.out).1, (pair_cells HXm9.out).2⟩
    refine hK.out _ _ hS9 (fun hHeld9 => ?_)
    clear hK K hS
    have hS := hS9
    clear hS9
    (try simp only [Act.put, List.setIfInBounds_toArray, List.set_cons_zero, List.set_cons_succ])
    refine wpAnyH_take (i := 6) (oi := { dst := some 50, op := Op.pick (Operand.tmp 46) (Operand.tmp 49) (Operand.const (Value.bool false)), type := 4, pos := "laws.go:306", after := #[{ on := 2, ground := Ground.data }, { on := 5, ground := Ground.data }], guard := none }) (v := ?_) rfl (by kernel_rfl) (by kernel_rfl) (by kernel_rfl) (fun _ _ _ h => h) (Or.inl ⟨by rfl, ?_⟩) (by assumption) ?_
    rotate_left
    · intro w hSw
      (try dsimp only at hSw)
      first | (go_simp; done) | (go_simp; with_reducible rfl)
    (try simp only [Act.put, List.setIfInBounds_toArray, List.set_cons_zero, List.set_cons_succ])
    refine wpAnyH_take (i := 7) (oi := { dst := some 51, op := Op.binOp BinOp.eql 4 (Operand.tmp 44) (Operand.tmp 50) 4, type := 4, pos := "laws.go:306", after := #[{ on := 0, ground := Ground.data }, { on := 6, ground := Ground.data }], guard := none }) (v := ?_) rfl (by kernel_rfl) (by kernel_rfl) (by kernel_rfl) (fun _ _ _ h => h) (Or.inl ⟨by rfl, ?_⟩) (by assumption) ?_
    rotate_left
    · intro w hSw
      (try dsimp only at hSw)
      first | (go_simp; done) | (go_simp; with_reducible rfl)
    (try simp only [Act.put, List.setIfInBounds_toArray, List.set_cons_zero, List.set_cons_succ])
    refine wpAnyH_take (i := 8) (oi := { dst := some 52, op := Op.move (Operand.tmp 51), type := 4, pos := "laws.go:306", after := #[{ on := 7, ground := Ground.data }, { on := 5, ground := Ground.chain }], guard := none }) (v := ?_) rfl (by kernel_rfl) (by kernel_rfl) (by kernel_rfl) (fun _ _ _ h => h) (Or.inl ⟨by rfl, ?_⟩) (by assumption) ?_
    rotate_left
    · intro w hSw
      (try dsimp only at hSw)
      first | (go_simp; done) | (go_simp; with_reducible rfl)
    (try simp only [Act.put, List.setIfInBounds_toArray, List.set_cons_zero, List.set_cons_succ])
    refine wpAnyH_take (i := 9) (oi := { dst := some 53, op := Op.load 27 (Operand.tmp 3), type := 27, pos := "laws.go:306", after := #[{ on := 8, ground := Ground.guard }], guard := some (8, true) }) (v := ?_) rfl (by kernel_rfl) (by kernel_rfl) (by kernel_rfl) (fun _ _ _ h => h) (Or.inl ⟨by rfl, ?_⟩) (by assumption) ?_
    rotate_left
    · intro w hSw
      (try dsimp only at hSw)
      first | (go_simp; done) | (go_simp; with_reducible rfl)
    (try simp only [Act.put, List.setIfInBounds_toArray, List.set_cons_zero, List.set_cons_succ])
    refine wpAnyH_take (i := 10) (oi := { dst := some 54, op := Op.load 27 (Operand.tmp 3), type := 27, pos := "laws.go:306", after := #[{ on := 8, ground := Ground.guard }], guard := some (8, true) }) (v := ?_) rfl (by kernel_rfl) (by kernel_rfl) (by kernel_rfl) (fun _ _ _ h => h) (Or.inl ⟨by rfl, ?_⟩) (by assumption) ?_
    rotate_left
    · intro w hSw
      (try dsimp only at hSw)
      first | (go_simp; done) | (go_simp; with_reducible rfl)
    (try simp only [Act.put, List.setIfInBounds_toArray, List.set_cons_zero, List.set_cons_succ])
    refine wpAnyH_ready (rs := [11]) (by kernel_rfl) (by simp) ?_
    refine AllReadyH.cons (o := { dst := some 55, op := Op.call { callee := Callee.value (Operand.func 21), args := #[Operand.tmp 53, Operand.tmp 54], argTypes := #[27, 27] }, type := 4, pos := "laws.go:306", after := #[{ on := 9, ground := Ground.data }, { on := 10, ground := Ground.data }, { on := 8, ground := Ground.chain }, { on := 8, ground := Ground.guard }], guard := some (8, true) }) rfl (fun K hK => ?_) AllReadyH.nil
    go_simp
    go_at_call 21
    have hc := implWithinC w9 w9.heap.size ava aoa ava aoa 4 avc l.length aoc 4 avc l.length aoc xs l xs l (HVA9.out.more (by omega)) (HOA9.out.more (by omega)) (HVA9.out.more (by omega)) (HOA9.out.more (by omega)) (Nat.le_refl _) (by omega) HCa.out.1 ⟨by omega, HCa.out.2.1⟩ (by omega) HCa.out.1 ⟨by omega, HCa.out.2.1⟩
    rw [HSelf.out] at hc
    refine hc.mono ?_
    clear hc
    rintro e w10 ⟨rfl, hb⟩
    have hs10 := hb.size
    have HVA10 := Lib.hid (HVA9.out.below hb (by omega))
    have HOA10 := Lib.hid (HOA9.out.below hb (by omega))
    have HVB10 := Lib.hid (HVB9.out.below hb (by omega))
    have HOB10 := Lib.hid (HOB9.out.below hb (by omega))
    have HB10 := Lib.hid (HB9.out.trans (hb.mono (by omega)))
    have HXa10 := Lib.hid ((hb.block _ (lt_of_row HXa9.out)).trans HXa9.out)
    have HXb10 := Lib.hid ((hb.block _ (lt_of_row HXb9.out)).trans HXb9.out)
    have HVM10 := Lib.hid (HVM9.out.below hb (by omega))
    have HOM10 := Lib.hid (HOM9.out.below hb (by omega))
    have HXm10 := Lib.hid ((hb.block _ (lt_of_row HXm9.out)).trans HXm9.out)
    clear hb HVA9 HOA9 HVB9 HOB9 HB9 HXa9 HXb9 HVM9 HOM9 HXm9
    have hS10 : w10.cell? ⟨w0.heap.size, 0, none⟩ = some (.slice ava 4 avc) ∧ w10.cell? ⟨w0.heap.size, 1, none⟩ = some (.slice aoa l.length aoc) ∧ w10.cell? ⟨w0.heap.size + 1, 0, none⟩ = some (.slice bva 4 bvc) ∧ w10.cell? ⟨w0.heap.size + 1, 1, none⟩ = some (.slice boa m.length boc) ∧ w10.cell? ⟨w6.heap.size, 0, none⟩ = some (.slice mva vs.length mvc) ∧ w10.cell? ⟨w6.heap.size, 1, none⟩ = some (.slice moa os.length moc) := ⟨(pair_cells HXa10.out).1, (pair_cells HXa10.out).2, (pair_cells HXb10.out).1, (pair_cells HXb10.out).2, (pair_cells HXm10.out).1, (pair_cells HXm10.out).2⟩
    refine hK.out _ _ hS10 (fun hHeld10 => ?_)
    clear hK K hS
    have hS := hS10
    clear hS10
    (try simp only [Act.put, List.setIfInBounds_toArray, List.set_cons_zero, List.set_cons_succ])
    refine wpAnyH_take (i := 12) (oi := { dst := some 56, op := Op.pick (Operand.tmp 52) (Operand.tmp 55) (Operand.const (Value.bool false)), type := 4, pos := "laws.go:306", after := #[{ on := 8, ground := Ground.data }, { on := 11, ground := Ground.data }], guard := none }) (v := ?_) rfl (by kernel_rfl) (by kernel_rfl) (by kernel_rfl) (fun _ _ _ h => h) (Or.inl ⟨by rfl, ?_⟩) (by assumption) ?_
    rotate_left
    · intro w hSw
      (try dsimp only at hSw)
      first | (go_simp; done) | (go_simp; with_reducible rfl)
    (try simp only [Act.put, List.setIfInBounds_toArray, List.set_cons_zero, List.set_cons_succ])
    refine wpAnyH_take (i := 13) (oi := { dst := some 57, op := Op.move (Operand.tmp 56), type := 4, pos := "laws.go:306", after := #[{ on := 12, ground := Ground.data }, { on := 11, ground := Ground.chain }], guard := none }) (v := ?_) rfl (by kernel_rfl) (by kernel_rfl) (by kernel_rfl) (fun _ _ _ h => h) (Or.inl ⟨by rfl, ?_⟩) (by assumption) ?_
    rotate_left
    · intro w hSw
      (try dsimp only at hSw)
      first | (go_simp; done) | (go_simp; with_reducible rfl)
    (try simp only [Act.put, List.setIfInBounds_toArray, List.set_cons_zero, List.set_cons_succ])
    refine wpAnyH_take (i := 15) (oi := { dst := some 59, op := Op.load 27 (Operand.tmp 3), type := 27, pos := "laws.go:306", after := #[{ on := 13, ground := Ground.guard }], guard := some (13, true) }) (v := ?_) rfl (by kernel_rfl) (by kernel_rfl) (by kernel_rfl) (fun _ _ _ h => h) (Or.inl ⟨by rfl, ?_⟩) (by assumption) ?_
    rotate_left
    · intro w hSw
      (try dsimp only at hSw)
      first | (go_simp; done) | (go_simp; with_reducible rfl)
    (try simp only [Act.put, List.setIfInBounds_toArray, List.set_cons_zero, List.set_cons_succ])
    refine wpAnyH_ready (rs := [14]) (by kernel_rfl) (by simp) ?_
    refine AllReadyH.cons (o := { dst := some 58, op := Op.call { callee := Callee.value (Operand.func 22), args := #[], argTypes := #[] }, type := 27, pos := "laws.go:306", after := #[{ on := 13, ground := Ground.chain }, { on := 13, ground := Ground.guard }], guard := some (13, true) }) rfl (fun K hK => ?_) AllReadyH.nil
    go_simp
    go_at_call 22
    refine (implCartNew w10).mono ?_
    rintro e w11 ⟨nva, ncap, rfl, hown, hb⟩
    have HN := Lib.hid hown.ints
    clear hown
    have hs11 := hb.size
    have HVA11 := Lib.hid (HVA10.out.below hb (by omega))
    have HOA11 := Lib.hid (HOA10.out.below hb (by omega))
    have HVB11 := Lib.hid (HVB10.out.below hb (by omega))
    have HOB11 := Lib.hid (HOB10.out.below hb (by omega))
    have HB11 := Lib.hid (HB10.out.trans (hb.mono (by omega)))
    have HXa11 := Lib.hid ((hb.block _ (lt_of_row HXa10.out)).trans HXa10.out)
    have HXb11 := Lib.hid ((hb.block _ (lt_of_row HXb10.out)).trans HXb10.out)
    have HVM11 := Lib.hid (HVM10.out.below hb (by omega))
    have HOM11 := Lib.hid (HOM10.out.below hb (by omega))
    have HXm11 := Lib.hid ((hb.block _ (lt_of_row HXm10.out)).trans HXm10.out)
    clear hb HVA10 HOA10 HVB10 HOB10 HB10 HXa10 HXb10 HVM10 HOM10 HXm10
    have hS11 : w11.cell? ⟨w0.heap.size, 0, none⟩ = some (.slice ava 4 avc) ∧ w11.cell? ⟨w0.heap.size, 1, none⟩ = some (.slice aoa l.length aoc) ∧ w11.cell? ⟨w0.heap.size + 1, 0, none⟩ = some (.slice bva 4 bvc) ∧ w11.cell? ⟨w0.heap.size + 1, 1, none⟩ = some (.slice boa m.length boc) ∧ w11.cell? ⟨w6.heap.size, 0, none⟩ = some (.slice mva vs.length mvc) ∧ w11.cell? ⟨w6.heap.size, 1, none⟩ = some (.slice moa os.length moc) := ⟨(pair_cells HXa11.out).1, (pair_cells HXa11.out).2, (pair_cells HXb11.out).1, (pair_cells HXb11.out).2, (pair_cells HXm11.out).1, (pair_cells HXm11.out).2⟩
    refine hK.out _ _ hS11 (fun hHeld11 => ?_)
    clear hK K hS
    have hS := hS11
    clear hS11
    (try simp only [Act.put, List.setIfInBounds_toArray, List.set_cons_zero, List.set_cons_succ])
    refine wpAnyH_ready (rs := [16]) (by kernel_rfl) (by simp) ?_
    refine AllReadyH.cons (o := { dst := some 60, op := Op.call { callee := Callee.value (Operand.func 21), args := #[Operand.tmp 58, Operand.tmp 59], argTypes := #[27, 27] }, type := 4, pos := "laws.go:306", after := #[{ on := 14, ground := Ground.data }, { on := 15, ground := Ground.data }, { on := 14, ground := Ground.chain }, { on := 13, ground := Ground.guard }], guard := some (13, true) }) rfl (fun K hK => ?_) AllReadyH.nil
    go_simp
    go_at_call 21
    have hc := implWithinC w11 w11.heap.size nva none ava aoa 4 ncap 0 0 4 avc l.length aoc [0, 0, 0, 0] [] xs l HN.out (opsNilC _ _) (HVA11.out.more (by omega)) (HOA11.out.more (by omega)) (Nat.le_refl _) (by omega) (Nat.le_refl _) ⟨by omega, Nat.zero_le _⟩ (by omega) HCa.out.1 ⟨by omega, HCa.out.2.1⟩
    rw [HZero.out] at hc
    refine hc.mono ?_
    clear hc
    rintro e w12 ⟨rfl, hb⟩
    have hs12 := hb.size
    have HVA12 := Lib.hid (HVA11.out.below hb (by omega))
    have HOA12 := Lib.hid (HOA11.out.below hb (by omega))
    have HVB12 := Lib.hid (HVB11.out.below hb (by omega))
    have HOB12 := Lib.hid (HOB11.out.below hb (by omega))
    have HB12 := Lib.hid (HB11.out.trans (hb.mono (by omega)))
    have HXa12 := Lib.hid ((hb.block _ (lt_of_row HXa11.out)).trans HXa11.out)
    have HXb12 := Lib.hid ((hb.block _ (lt_of_row HXb11.out)).trans HXb11.out)
    have HVM12 := Lib.hid (HVM11.out.below hb (by omega))
    have HOM12 := Lib.hid (HOM11.out.below hb (by omega))
    have HXm12 := Lib.hid ((hb.block _ (lt_of_row HXm11.out)).trans HXm11.out)
    clear hb HVA11 HOA11 HVB11 HOB11 HB11 HXa11 HXb11 HVM11 HOM11 HXm11
    have hS12 : w12.cell? ⟨w0.heap.size, 0, none⟩ = some (.slice ava 4 avc) ∧ w12.cell? ⟨w0.heap.size, 1, none⟩ = some (.slice aoa l.length aoc) ∧ w12.cell? ⟨w0.heap.size + 1, 0, none⟩ = some (.slice bva 4 bvc) ∧ w12.cell? ⟨w0.heap.size + 1, 1, none⟩ = some (.slice boa m.length boc) ∧ w12.cell? ⟨w6.heap.size, 0, none⟩ = some (.slice mva vs.length mvc) ∧ w12.cell? ⟨w6.heap.size, 1, none⟩ = some (.slice moa os.length moc) := ⟨(pair_cells HXa12.out).1, (pair_cells HXa12.out).2, (pair_cells HXb12.out).1, (pair_cells HXb12.out).2, (pair_cells HXm12.out).1, (pair_cells HXm12.out).2⟩
    refine hK.out _ _ hS12 (fun hHeld12 => ?_)
    clear hK K hS
    have hS := hS12
    clear hS12
    (try simp only [Act.put, List.setIfInBounds_toArray, List.set_cons_zero, List.set_cons_succ])
    refine wpAnyH_take (i := 17) (oi := { dst := some 61, op := Op.pick (Operand.tmp 57) (Operand.tmp 60) (Operand.const (Value.bool false)), type := 4, pos := "laws.go:306", after := #[{ on := 13, ground := Ground.data }, { on := 16, ground := Ground.data }], guard := none }) (v := ?_) rfl (by kernel_rfl) (by kernel_rfl) (by kernel_rfl) (fun _ _ _ h => h) (Or.inl ⟨by rfl, ?_⟩) (by assumption) ?_
    rotate_left
    · intro w hSw
      (try dsimp only at hSw)
      first | (go_simp; done) | (go_simp; with_reducible rfl)
    (try simp only [Act.put, List.setIfInBounds_toArray, List.set_cons_zero, List.set_cons_succ])
    refine wpAnyH_take (i := 18) (oi := { dst := some 2, op := Op.assign (Operand.tmp 61), type := 4, pos := "laws.go:306", after := #[{ on := 17, ground := Ground.data }, { on := 16, ground := Ground.chain }, { on := 0, ground := Ground.phase }, { on := 1, ground := Ground.phase }, { on := 2, ground := Ground.phase }, { on := 3, ground := Ground.phase }, { on := 4, ground := Ground.phase }, { on := 5, ground := Ground.phase }, { on := 6, ground := Ground.phase }, { on := 7, ground := Ground.phase }, { on := 8, ground := Ground.phase }, { on := 9, ground := Ground.phase }, { on := 10, ground := Ground.phase }, { on := 11, ground := Ground.phase }, { on := 12, ground := Ground.phase }, { on := 13, ground := Ground.phase }, { on := 14, ground := Ground.phase }, { on := 15, ground := Ground.phase }, { on := 16, ground := Ground.phase }, { on := 17, ground := Ground.phase }], guard := none }) (v := ?_) rfl (by kernel_rfl) (by kernel_rfl) (by kernel_rfl) (fun _ _ _ h => h) (Or.inl ⟨by rfl, ?_⟩) (by assumption) ?_
    rotate_left
    · intro w hSw
      (try dsimp only at hSw)
      first | (go_simp; done) | (go_simp; with_reducible rfl)
    (try simp only [Act.put, List.setIfInBounds_toArray, List.set_cons_zero, List.set_cons_succ])
    refine wpAnyH_done (by kernel_rfl) ?_ _
    go_wp2
    go_ret
    exact ⟨rfl, HB12.out⟩
  obtain ⟨w8, hze⟩ : ∃ z, w7.drew = z := ⟨_, rfl⟩
  have hb : Below w7.heap.size w7 w8 := by rw [← hze]; exact ⟨rfl, rfl, rfl, Nat.le_refl _, fun _ _ => rfl⟩
  have hs8 := hb.size
  have HVA8 := Lib.hid (HVA7.out.below hb (by omega))
  have HOA8 := Lib.hid (HOA7.out.below hb (by omega))
  have HVB8 := Lib.hid (HVB7.out.below hb (by omega))
  have HOB8 := Lib.hid (HOB7.out.below hb (by omega))
  have HB8 := Lib.hid (HB7.out.trans (hb.mono (by omega)))
  have HXa8 := Lib.hid ((hb.block _ (lt_of_row HXa7.out)).trans HXa7.out)
  have HXb8 := Lib.hid ((hb.block _ (lt_of_row HXb7.out)).trans HXb7.out)
  have HVM8 := Lib.hid (HVM7.out.below hb (by omega))
  have HOM8 := Lib.hid (HOM7.out.below hb (by omega))
  have HXm8 := Lib.hid ((hb.block _ (lt_of_row HXm7.out)).trans HXm7.out)
  clear hb HVA7 HOA7 HVB7 HOB7 HB7 HXa7 HXb7 HVM7 HOM7 HXm7
  have hS : w8.cell? ⟨w0.heap.size, 0, none⟩ = some (.slice ava 4 avc) ∧ w8.cell? ⟨w0.heap.size, 1, none⟩ = some (.slice aoa l.length aoc) ∧ w8.cell? ⟨w0.heap.size + 1, 0, none⟩ = some (.slice bva 4 bvc) ∧ w8.cell? ⟨w0.heap.size + 1, 1, none⟩ = some (.slice boa m.length boc) ∧ w8.cell? ⟨w6.heap.size, 0, none⟩ = some (.slice mva vs.length mvc) ∧ w8.cell? ⟨w6.heap.size, 1, none⟩ = some (.slice moa os.length moc) := ⟨(pair_cells HXa8.out).1, (pair_cells HXa8.out).2, (pair_cells HXb8.out).1, (pair_cells HXb8.out).2, (pair_cells HXm8.out).1, (pair_cells HXm8.out).2⟩
  refine wp_region_held_drew (S := fun w' => w'.cell? ⟨w0.heap.size, 0, none⟩ = some (.slice ava 4 avc) ∧ w'.cell? ⟨w0.heap.size, 1, none⟩ = some (.slice aoa l.length aoc) ∧ w'.cell? ⟨w0.heap.size + 1, 0, none⟩ = some (.slice bva 4 bvc) ∧ w'.cell? ⟨w0.heap.size + 1, 1, none⟩ = some (.slice boa m.length boc) ∧ w'.cell? ⟨w6.heap.size, 0, none⟩ = some (.slice mva vs.length mvc) ∧ w'.cell? ⟨w6.heap.size, 1, none⟩ = some (.slice moa os.length moc)) (by kernel_rfl) (by rw [hze]; exact hS) (fun hHeld => ?_)
  rw [hze]
  clear hHeld hze
  refine wpAnyH_take (i := 0) (oi := { dst := some 44, op := Op.move (Operand.tmp 5), type := 4, pos := "laws.go:306", after := #[], guard := none }) (v := ?_) rfl (by kernel_rfl) (by kernel_rfl) (by kernel_rfl) (fun _ _ _ h => h) (Or.inl ⟨by rfl, ?_⟩) (by assumption) ?_
  rotate_left
  · intro w hSw
    (try dsimp only at hSw)
    first | (go_simp; done) | (go_simp; with_reducible rfl)
  (try simp only [Act.put, List.setIfInBounds_toArray, List.set_cons_zero, List.set_cons_succ])
  refine wpAnyH_take (i := 1) (oi := { dst := some 45, op := Op.move (Operand.tmp 7), type := 4, pos := "laws.go:306", after := #[], guard := none }) (v := ?_) rfl (by kernel_rfl) (by kernel_rfl) (by kernel_rfl) (fun _ _ _ h => h) (Or.inl ⟨by rfl, ?_⟩) (by assumption) ?_
  rotate_left
  · intro w hSw
    (try dsimp only at hSw)
    first | (go_simp; done) | (go_simp; with_reducible rfl)
  (try simp only [Act.put, List.setIfInBounds_toArray, List.set_cons_zero, List.set_cons_succ])
  refine wpAnyH_take (i := 2) (oi := { dst := some 46, op := Op.move (Operand.tmp 45), type := 4, pos := "laws.go:306", after := #[{ on := 1, ground := Ground.data }], guard := none }) (v := ?_) rfl (by kernel_rfl) (by kernel_rfl) (by kernel_rfl) (fun _ _ _ h => h) (Or.inl ⟨by rfl, ?_⟩) (by assumption) ?_
  rotate_left
  · intro w hSw
    (try dsimp only at hSw)
    first | (go_simp; done) | (go_simp; with_reducible rfl)
  (try simp only [Act.put, List.setIfInBounds_toArray, List.set_cons_zero, List.set_cons_succ])
  refine wpAnyH_take (i := 3) (oi := { dst := some 47, op := Op.load 27 (Operand.tmp 6), type := 27, pos := "laws.go:306", after := #[{ on := 2, ground := Ground.guard }], guard := some (2, true) }) (v := ?_) rfl (by kernel_rfl) (by kernel_rfl) (by kernel_rfl) (fun _ _ _ h => h) (Or.inl ⟨by rfl, ?_⟩) (by assumption) ?_
  rotate_left
  · intro w hSw
    (try dsimp only at hSw)
    first | (go_simp; done) | (go_simp; with_reducible rfl)
  (try simp only [Act.put, List.setIfInBounds_toArray, List.set_cons_zero, List.set_cons_succ])
  refine wpAnyH_take (i := 4) (oi := { dst := some 48, op := Op.load 27 (Operand.tmp 4), type := 27, pos := "laws.go:306", after := #[{ on := 2, ground := Ground.guard }], guard := some (2, true) }) (v := ?_) rfl (by kernel_rfl) (by kernel_rfl) (by kernel_rfl) (fun _ _ _ h => h) (Or.inl ⟨by rfl, ?_⟩) (by assumption) ?_
  rotate_left
  · intro w hSw
    (try dsimp only at hSw)
    first | (go_simp; done) | (go_simp; with_reducible rfl)
  (try simp only [Act.put, List.setIfInBounds_toArray, List.set_cons_zero, List.set_cons_succ])
  refine wpAnyH_ready (rs := [5]) (by kernel_rfl) (by simp) ?_
  refine AllReadyH.cons (o := { dst := some 49, op := Op.call { callee := Callee.value (Operand.func 19), args := #[Operand.tmp 47, Operand.tmp 48], argTypes := #[27, 27] }, type := 4, pos := "laws.go:306", after := #[{ on := 3, ground := Ground.data }, { on := 4, ground := Ground.data }, { on := 2, ground := Ground.chain }, { on := 2, ground := Ground.guard }], guard := some (2, true) }) rfl (fun K hK => ?_) AllReadyH.nil
  go_simp
  go_at_call 19
  refine (sameCart w8 w8.heap.size mva moa bva boa vs.length mvc os.length moc 4 bvc m.length boc vs os ys m (HVM8.out.more (by omega)) (HOM8.out.more (by omega)) (HVB8.out.more (by omega)) (HOB8.out.more (by omega)) (Nat.le_refl _) (by omega) (by omega) (by omega) (by omega)).mono ?_
  rintro e w9 ⟨rfl, hb⟩
  rw [HEq.out rfl]
  have hs9 := hb.size
  have HVA9 := Lib.hid (HVA8.out.below hb (by omega))
  have HOA9 := Lib.hid (HOA8.out.below hb (by omega))
  have HVB9 := Lib.hid (HVB8.out.below hb (by omega))
  have HOB9 := Lib.hid (HOB8.out.below hb (by omega))
  have HB9 := Lib.hid (HB8.out.trans (hb.mono (by omega)))
  have HXa9 := Lib.hid ((hb.block _ (lt_of_row HXa8.out)).trans HXa8.out)
  have HXb9 := Lib.hid ((hb.block _ (lt_of_row HXb8.out)).trans HXb8.out)
  have HVM9 := Lib.hid (HVM8.out.below hb (by omega))
  have HOM9 := Lib.hid (HOM8.out.below hb (by omega))
  have HXm9 := Lib.hid ((hb.block _ (lt_of_row HXm8.out)).trans HXm8.out)
  clear hb HVA8 HOA8 HVB8 HOB8 HB8 HXa8 HXb8 HVM8 HOM8 HXm8
  have hS9 : w9.cell? ⟨w0.heap.size, 0, none⟩ = some (.slice ava 4 avc) ∧ w9.cell? ⟨w0.heap.size, 1, none⟩ = some (.slice aoa l.length aoc) ∧ w9.cell? ⟨w0.heap.size + 1, 0, none⟩ = some (.slice bva 4 bvc) ∧ w9.cell? ⟨w0.heap.size + 1, 1, none⟩ = some (.slice boa m.length boc) ∧ w9.cell? ⟨w6.heap.size, 0, none⟩ = some (.slice mva vs.length mvc) ∧ w9.cell? ⟨w6.heap.size, 1, none⟩ = some (.slice moa os.length moc) := ⟨(pair_cells HXa9.out).1, (pair_cells HXa9.out).2, (pair_cells HXb9.out).1, (pair_cells HXb9.out).2, (pair_cells HXm9.out).1, (pair_cells HXm9.out).2⟩
  refine hK.out _ _ hS9 (fun hHeld9 => ?_)
  clear hK K hS
  have hS := hS9
  clear hS9
  (try simp only [Act.put, List.setIfInBounds_toArray, List.set_cons_zero, List.set_cons_succ])
  refine wpAnyH_take (i := 6) (oi := { dst := some 50, op := Op.pick (Operand.tmp 46) (Operand.tmp 49) (Operand.const (Value.bool false)), type := 4, pos := "laws.go:306", after := #[{ on := 2, ground := Ground.data }, { on := 5, ground := Ground.data }], guard := none }) (v := ?_) rfl (by kernel_rfl) (by kernel_rfl) (by kernel_rfl) (fun _ _ _ h => h) (Or.inl ⟨by rfl, ?_⟩) (by assumption) ?_
  rotate_left
  · intro w hSw
    (try dsimp only at hSw)
    first | (go_simp; done) | (go_simp; with_reducible rfl)
  (try simp only [Act.put, List.setIfInBounds_toArray, List.set_cons_zero, List.set_cons_succ])
  refine wpAnyH_take (i := 7) (oi := { dst := some 51, op := Op.binOp BinOp.eql 4 (Operand.tmp 44) (Operand.tmp 50) 4, type := 4, pos := "laws.go:306", after := #[{ on := 0, ground := Ground.data }, { on := 6, ground := Ground.data }], guard := none }) (v := ?_) rfl (by kernel_rfl) (by kernel_rfl) (by kernel_rfl) (fun _ _ _ h => h) (Or.inl ⟨by rfl, ?_⟩) (by assumption) ?_
  rotate_left
  · intro w hSw
    (try dsimp only at hSw)
    first | (go_simp; done) | (go_simp; with_reducible rfl)
  (try simp only [Act.put, List.setIfInBounds_toArray, List.set_cons_zero, List.set_cons_succ])
  refine wpAnyH_take (i := 8) (oi := { dst := some 52, op := Op.move (Operand.tmp 51), type := 4, pos := "laws.go:306", after := #[{ on := 7, ground := Ground.data }, { on := 5, ground := Ground.chain }], guard := none }) (v := ?_) rfl (by kernel_rfl) (by kernel_rfl) (by kernel_rfl) (fun _ _ _ h => h) (Or.inl ⟨by rfl, ?_⟩) (by assumption) ?_
  rotate_left
  · intro w hSw
    (try dsimp only at hSw)
    first | (go_simp; done) | (go_simp; with_reducible rfl)
  (try simp only [Act.put, List.setIfInBounds_toArray, List.set_cons_zero, List.set_cons_succ])
  refine wpAnyH_take (i := 9) (oi := { dst := some 53, op := Op.load 27 (Operand.tmp 3), type := 27, pos := "laws.go:306", after := #[{ on := 8, ground := Ground.guard }], guard := some (8, true) }) (v := ?_) rfl (by kernel_rfl) (by kernel_rfl) (by kernel_rfl) (fun _ _ _ h => h) (Or.inl ⟨by rfl, ?_⟩) (by assumption) ?_
  rotate_left
  · intro w hSw
    (try dsimp only at hSw)
    first | (go_simp; done) | (go_simp; with_reducible rfl)
  (try simp only [Act.put, List.setIfInBounds_toArray, List.set_cons_zero, List.set_cons_succ])
  refine wpAnyH_take (i := 10) (oi := { dst := some 54, op := Op.load 27 (Operand.tmp 3), type := 27, pos := "laws.go:306", after := #[{ on := 8, ground := Ground.guard }], guard := some (8, true) }) (v := ?_) rfl (by kernel_rfl) (by kernel_rfl) (by kernel_rfl) (fun _ _ _ h => h) (Or.inl ⟨by rfl, ?_⟩) (by assumption) ?_
  rotate_left
  · intro w hSw
    (try dsimp only at hSw)
    first | (go_simp; done) | (go_simp; with_reducible rfl)
  (try simp only [Act.put, List.setIfInBounds_toArray, List.set_cons_zero, List.set_cons_succ])
  refine wpAnyH_ready (rs := [11]) (by kernel_rfl) (by simp) ?_
  refine AllReadyH.cons (o := { dst := some 55, op := Op.call { callee := Callee.value (Operand.func 21), args := #[Operand.tmp 53, Operand.tmp 54], argTypes := #[27, 27] }, type := 4, pos := "laws.go:306", after := #[{ on := 9, ground := Ground.data }, { on := 10, ground := Ground.data }, { on := 8, ground := Ground.chain }, { on := 8, ground := Ground.guard }], guard := some (8, true) }) rfl (fun K hK => ?_) AllReadyH.nil
  go_simp
  go_at_call 21
  have hc := implWithinC w9 w9.heap.size ava aoa ava aoa 4 avc l.length aoc 4 avc l.length aoc xs l xs l (HVA9.out.more (by omega)) (HOA9.out.more (by omega)) (HVA9.out.more (by omega)) (HOA9.out.more (by omega)) (Nat.le_refl _) (by omega) HCa.out.1 ⟨by omega, HCa.out.2.1⟩ (by omega) HCa.out.1 ⟨by omega, HCa.out.2.1⟩
  rw [HSelf.out] at hc
  refine hc.mono ?_
  clear hc
  rintro e w10 ⟨rfl, hb⟩
  have hs10 := hb.size
  have HVA10 := Lib.hid (HVA9.out.below hb (by omega))
  have HOA10 := Lib.hid (HOA9.out.below hb (by omega))
  have HVB10 := Lib.hid (HVB9.out.below hb (by omega))
  have HOB10 := Lib.hid (HOB9.out.below hb (by omega))
  have HB10 := Lib.hid (HB9.out.trans (hb.mono (by omega)))
  have HXa10 := Lib.hid ((hb.block _ (lt_of_row HXa9.out)).trans HXa9.out)
  have HXb10 := Lib.hid ((hb.block _ (lt_of_row HXb9.out)).trans HXb9.out)
  have HVM10 := Lib.hid (HVM9.out.below hb (by omega))
  have HOM10 := Lib.hid (HOM9.out.below hb (by omega))
  have HXm10 := Lib.hid ((hb.block _ (lt_of_row HXm9.out)).trans HXm9.out)
  clear hb HVA9 HOA9 HVB9 HOB9 HB9 HXa9 HXb9 HVM9 HOM9 HXm9
  have hS10 : w10.cell? ⟨w0.heap.size, 0, none⟩ = some (.slice ava 4 avc) ∧ w10.cell? ⟨w0.heap.size, 1, none⟩ = some (.slice aoa l.length aoc) ∧ w10.cell? ⟨w0.heap.size + 1, 0, none⟩ = some (.slice bva 4 bvc) ∧ w10.cell? ⟨w0.heap.size + 1, 1, none⟩ = some (.slice boa m.length boc) ∧ w10.cell? ⟨w6.heap.size, 0, none⟩ = some (.slice mva vs.length mvc) ∧ w10.cell? ⟨w6.heap.size, 1, none⟩ = some (.slice moa os.length moc) := ⟨(pair_cells HXa10.out).1, (pair_cells HXa10.out).2, (pair_cells HXb10.out).1, (pair_cells HXb10.out).2, (pair_cells HXm10.out).1, (pair_cells HXm10.out).2⟩
  refine hK.out _ _ hS10 (fun hHeld10 => ?_)
  clear hK K hS
  have hS := hS10
  clear hS10
  (try simp only [Act.put, List.setIfInBounds_toArray, List.set_cons_zero, List.set_cons_succ])
  refine wpAnyH_take (i := 12) (oi := { dst := some 56, op := Op.pick (Operand.tmp 52) (Operand.tmp 55) (Operand.const (Value.bool false)), type := 4, pos := "laws.go:306", after := #[{ on := 8, ground := Ground.data }, { on := 11, ground := Ground.data }], guard := none }) (v := ?_) rfl (by kernel_rfl) (by kernel_rfl) (by kernel_rfl) (fun _ _ _ h => h) (Or.inl ⟨by rfl, ?_⟩) (by assumption) ?_
  rotate_left
  · intro w hSw
    (try dsimp only at hSw)
    first | (go_simp; done) | (go_simp; with_reducible rfl)
  (try simp only [Act.put, List.setIfInBounds_toArray, List.set_cons_zero, List.set_cons_succ])
  refine wpAnyH_take (i := 13) (oi := { dst := some 57, op := Op.move (Operand.tmp 56), type := 4, pos := "laws.go:306", after := #[{ on := 12, ground := Ground.data }, { on := 11, ground := Ground.chain }], guard := none }) (v := ?_) rfl (by kernel_rfl) (by kernel_rfl) (by kernel_rfl) (fun _ _ _ h => h) (Or.inl ⟨by rfl, ?_⟩) (by assumption) ?_
  rotate_left
  · intro w hSw
    (try dsimp only at hSw)
    first | (go_simp; done) | (go_simp; with_reducible rfl)
  (try simp only [Act.put, List.setIfInBounds_toArray, List.set_cons_zero, List.set_cons_succ])
  refine wpAnyH_take (i := 15) (oi := { dst := some 59, op := Op.load 27 (Operand.tmp 3), type := 27, pos := "laws.go:306", after := #[{ on := 13, ground := Ground.guard }], guard := some (13, true) }) (v := ?_) rfl (by kernel_rfl) (by kernel_rfl) (by kernel_rfl) (fun _ _ _ h => h) (Or.inl ⟨by rfl, ?_⟩) (by assumption) ?_
  rotate_left
  · intro w hSw
    (try dsimp only at hSw)
    first | (go_simp; done) | (go_simp; with_reducible rfl)
  (try simp only [Act.put, List.setIfInBounds_toArray, List.set_cons_zero, List.set_cons_succ])
  refine wpAnyH_ready (rs := [14]) (by kernel_rfl) (by simp) ?_
  refine AllReadyH.cons (o := { dst := some 58, op := Op.call { callee := Callee.value (Operand.func 22), args := #[], argTypes := #[] }, type := 27, pos := "laws.go:306", after := #[{ on := 13, ground := Ground.chain }, { on := 13, ground := Ground.guard }], guard := some (13, true) }) rfl (fun K hK => ?_) AllReadyH.nil
  go_simp
  go_at_call 22
  refine (implCartNew w10).mono ?_
  rintro e w11 ⟨nva, ncap, rfl, hown, hb⟩
  have HN := Lib.hid hown.ints
  clear hown
  have hs11 := hb.size
  have HVA11 := Lib.hid (HVA10.out.below hb (by omega))
  have HOA11 := Lib.hid (HOA10.out.below hb (by omega))
  have HVB11 := Lib.hid (HVB10.out.below hb (by omega))
  have HOB11 := Lib.hid (HOB10.out.below hb (by omega))
  have HB11 := Lib.hid (HB10.out.trans (hb.mono (by omega)))
  have HXa11 := Lib.hid ((hb.block _ (lt_of_row HXa10.out)).trans HXa10.out)
  have HXb11 := Lib.hid ((hb.block _ (lt_of_row HXb10.out)).trans HXb10.out)
  have HVM11 := Lib.hid (HVM10.out.below hb (by omega))
  have HOM11 := Lib.hid (HOM10.out.below hb (by omega))
  have HXm11 := Lib.hid ((hb.block _ (lt_of_row HXm10.out)).trans HXm10.out)
  clear hb HVA10 HOA10 HVB10 HOB10 HB10 HXa10 HXb10 HVM10 HOM10 HXm10
  have hS11 : w11.cell? ⟨w0.heap.size, 0, none⟩ = some (.slice ava 4 avc) ∧ w11.cell? ⟨w0.heap.size, 1, none⟩ = some (.slice aoa l.length aoc) ∧ w11.cell? ⟨w0.heap.size + 1, 0, none⟩ = some (.slice bva 4 bvc) ∧ w11.cell? ⟨w0.heap.size + 1, 1, none⟩ = some (.slice boa m.length boc) ∧ w11.cell? ⟨w6.heap.size, 0, none⟩ = some (.slice mva vs.length mvc) ∧ w11.cell? ⟨w6.heap.size, 1, none⟩ = some (.slice moa os.length moc) := ⟨(pair_cells HXa11.out).1, (pair_cells HXa11.out).2, (pair_cells HXb11.out).1, (pair_cells HXb11.out).2, (pair_cells HXm11.out).1, (pair_cells HXm11.out).2⟩
  refine hK.out _ _ hS11 (fun hHeld11 => ?_)
  clear hK K hS
  have hS := hS11
  clear hS11
  (try simp only [Act.put, List.setIfInBounds_toArray, List.set_cons_zero, List.set_cons_succ])
  refine wpAnyH_ready (rs := [16]) (by kernel_rfl) (by simp) ?_
  refine AllReadyH.cons (o := { dst := some 60, op := Op.call { callee := Callee.value (Operand.func 21), args := #[Operand.tmp 58, Operand.tmp 59], argTypes := #[27, 27] }, type := 4, pos := "laws.go:306", after := #[{ on := 14, ground := Ground.data }, { on := 15, ground := Ground.data }, { on := 14, ground := Ground.chain }, { on := 13, ground := Ground.guard }], guard := some (13, true) }) rfl (fun K hK => ?_) AllReadyH.nil
  go_simp
  go_at_call 21
  have hc := implWithinC w11 w11.heap.size nva none ava aoa 4 ncap 0 0 4 avc l.length aoc [0, 0, 0, 0] [] xs l HN.out (opsNilC _ _) (HVA11.out.more (by omega)) (HOA11.out.more (by omega)) (Nat.le_refl _) (by omega) (Nat.le_refl _) ⟨by omega, Nat.zero_le _⟩ (by omega) HCa.out.1 ⟨by omega, HCa.out.2.1⟩
  rw [HZero.out] at hc
  refine hc.mono ?_
  clear hc
  rintro e w12 ⟨rfl, hb⟩
  have hs12 := hb.size
  have HVA12 := Lib.hid (HVA11.out.below hb (by omega))
  have HOA12 := Lib.hid (HOA11.out.below hb (by omega))
  have HVB12 := Lib.hid (HVB11.out.below hb (by omega))
  have HOB12 := Lib.hid (HOB11.out.below hb (by omega))
  have HB12 := Lib.hid (HB11.out.trans (hb.mono (by omega)))
  have HXa12 := Lib.hid ((hb.block _ (lt_of_row HXa11.out)).trans HXa11.out)
  have HXb12 := Lib.hid ((hb.block _ (lt_of_row HXb11.out)).trans HXb11.out)
  have HVM12 := Lib.hid (HVM11.out.below hb (by omega))
  have HOM12 := Lib.hid (HOM11.out.below hb (by omega))
  have HXm12 := Lib.hid ((hb.block _ (lt_of_row HXm11.out)).trans HXm11.out)
  clear hb HVA11 HOA11 HVB11 HOB11 HB11 HXa11 HXb11 HVM11 HOM11 HXm11
  have hS12 : w12.cell? ⟨w0.heap.size, 0, none⟩ = some (.slice ava 4 avc) ∧ w12.cell? ⟨w0.heap.size, 1, none⟩ = some (.slice aoa l.length aoc) ∧ w12.cell? ⟨w0.heap.size + 1, 0, none⟩ = some (.slice bva 4 bvc) ∧ w12.cell? ⟨w0.heap.size + 1, 1, none⟩ = some (.slice boa m.length boc) ∧ w12.cell? ⟨w6.heap.size, 0, none⟩ = some (.slice mva vs.length mvc) ∧ w12.cell? ⟨w6.heap.size, 1, none⟩ = some (.slice moa os.length moc) := ⟨(pair_cells HXa12.out).1, (pair_cells HXa12.out).2, (pair_cells HXb12.out).1, (pair_cells HXb12.out).2, (pair_cells HXm12.out).1, (pair_cells HXm12.out).2⟩
  refine hK.out _ _ hS12 (fun hHeld12 => ?_)
  clear hK K hS
  have hS := hS12
  clear hS12
  (try simp only [Act.put, List.setIfInBounds_toArray, List.set_cons_zero, List.set_cons_succ])
  refine wpAnyH_take (i := 17) (oi := { dst := some 61, op := Op.pick (Operand.tmp 57) (Operand.tmp 60) (Operand.const (Value.bool false)), type := 4, pos := "laws.go:306", after := #[{ on := 13, ground := Ground.data }, { on := 16, ground := Ground.data }], guard := none }) (v := ?_) rfl (by kernel_rfl) (by kernel_rfl) (by kernel_rfl) (fun _ _ _ h => h) (Or.inl ⟨by rfl, ?_⟩) (by assumption) ?_
  rotate_left
  · intro w hSw
    (try dsimp only at hSw)
    first | (go_simp; done) | (go_simp; with_reducible rfl)
  (try simp only [Act.put, List.setIfInBounds_toArray, List.set_cons_zero, List.set_cons_succ])
  refine wpAnyH_take (i := 18) (oi := { dst := some 2, op := Op.assign (Operand.tmp 61), type := 4, pos := "laws.go:306", after := #[{ on := 17, ground := Ground.data }, { on := 16, ground := Ground.chain }, { on := 0, ground := Ground.phase }, { on := 1, ground := Ground.phase }, { on := 2, ground := Ground.phase }, { on := 3, ground := Ground.phase }, { on := 4, ground := Ground.phase }, { on := 5, ground := Ground.phase }, { on := 6, ground := Ground.phase }, { on := 7, ground := Ground.phase }, { on := 8, ground := Ground.phase }, { on := 9, ground := Ground.phase }, { on := 10, ground := Ground.phase }, { on := 11, ground := Ground.phase }, { on := 12, ground := Ground.phase }, { on := 13, ground := Ground.phase }, { on := 14, ground := Ground.phase }, { on := 15, ground := Ground.phase }, { on := 16, ground := Ground.phase }, { on := 17, ground := Ground.phase }], guard := none }) (v := ?_) rfl (by kernel_rfl) (by kernel_rfl) (by kernel_rfl) (fun _ _ _ h => h) (Or.inl ⟨by rfl, ?_⟩) (by assumption) ?_
  rotate_left
  · intro w hSw
    (try dsimp only at hSw)
    first | (go_simp; done) | (go_simp; with_reducible rfl)
  (try simp only [Act.put, List.setIfInBounds_toArray, List.set_cons_zero, List.set_cons_succ])
  refine wpAnyH_done (by kernel_rfl) ?_ _
  go_wp2
  go_ret
  exact ⟨rfl, HB12.out⟩
end Go.Proofs.Ythfkoplljinmmaa
