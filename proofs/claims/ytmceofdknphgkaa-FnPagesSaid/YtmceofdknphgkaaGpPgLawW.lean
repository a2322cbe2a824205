/- The walk of the law FnPages. -/
import Derived.Test.YtmceofdknphgkaaGa34
import Derived.Test.YtmceofdknphgkaaGpPagM
import Derived.Test.YtmceofdknphgkaaGa20
import Derived.Test.YtmceofdknphgkaaGa23
import Derived.Test.YtmceofdknphgkaaGa25
import Derived.Deep.Cut
import Derived.Test.YtmceofdknphgkaaGpS
namespace Go.Proofs.Ytmceofdknphgkaa
open Go.RowKit
set_option linter.unusedVariables false
set_option linter.unusedSimpArgs false

set_option maxRecDepth 100000 in
set_option maxHeartbeats 16000000 in
theorem fnPagesWalk (a : Option Addr) (len cap : Nat) (zs : List Int) (w : World) (h : IsRow .u8 w a len cap zs) :
    Calls Try.prog 6 #[.slice a len cap] w fun e w' => e = .returned (.bool true) ∧ Below w.heap.size w w' := by
  by_cases hbig : len ≤ 1048576
  rotate_left
  · go_enter Try.func6, Try.ntmps6
    go_wp2_with fail
    refine (bigYes a len cap hbig w).mono ?_
    rintro e w' ⟨rfl, rfl⟩
    go_wp2
    go_ret
    exact ⟨rfl, Below.refl _ _⟩
  have hsrc := Lib.hid (src_of_row h hbig)
  clear h
  go_enter Try.func6, Try.ntmps6
  go_wp2_with fail
  refine (bigNo a len cap hbig w).mono ?_
  rintro e w' ⟨rfl, rfl⟩
  go_wp2_with fail
  refine (drawPage w w.heap.size a len cap (Nat.le_refl _) hsrc.out).mono ?_
  rintro e w0 ⟨⟨ava, avc, aoa, ano, aoc⟩, fr, nn, rfl, hx, hb0⟩
  obtain ⟨xs, l, e1, a1, a2, a3, a4, a5, a6⟩ := hx
  have e1 : ano = l.length := e1
  subst e1
  have HVA0 := Lib.hid a1.ints
  have HOA0 := Lib.hid a2.ops
  have HB0 := Lib.hid hb0
  have HCv := Lib.hid a3
  have HCa := Lib.hid a4
  have HIa : Hid (∀ i, i < l.length → (atOp l i).item.size ≤ 1048576) := fun i hi => Nat.le_trans (a5 i hi) (by omega)
  have hs0 := hb0.size
  clear a1 a2 a3 a4 a5 hb0
  dsimp only
  go_upto_region 4 with fail
  have hb : Below w0.heap.size w0 (w0.alloc (.cells #[.slice ava 4 avc, .slice aoa l.length aoc] 27)) := (Below.refl _ _).alloc (Nat.le_refl _) _
  have HXa1 := Lib.hid (boxAt (Below.refl _ (w0.alloc (.cells #[.slice ava 4 avc, .slice aoa l.length aoc] 27))))
  generalize w0.alloc (.cells #[.slice ava 4 avc, .slice aoa l.length aoc] 27) = w1 at hb HXa1 ⊢
  have hs1 := hb.size
  have HVA1 := Lib.hid (HVA0.out.below hb (by omega))
  have HOA1 := Lib.hid (HOA0.out.below hb (by omega))
  have HB1 := Lib.hid (HB0.out.trans (hb.mono (by omega)))
  clear hb HVA0 HOA0 HB0
  obtain ⟨pg, hpg⟩ : ∃ pg, pageL xs l fr nn = pg := ⟨_, rfl⟩
  have HPg := Lib.hid hpg
  have hlp : pg.length ≤ 400 := by rw [← hpg]; exact Nat.le_trans (page_len xs l fr nn) a6
  clear hpg
  obtain ⟨c00, c01⟩ := pair_cells HXa1.out
  go_wp2_with fail
  have hc := implPage w1 w1.heap.size ava aoa 4 avc l.length aoc xs l fr nn (HVA1.out.more (by omega)) (HOA1.out.more (by omega)) (Nat.le_refl _) (by omega) HCv.out.1 HCa.out.1 ⟨by omega, HCa.out.2.1⟩ HCa.out.2.2 HIa.out
  rw [HPg.out] at hc
  refine hc.mono ?_
  clear hc
  rintro e w2 ⟨pa, pc, rfl, hop, hb⟩
  clear c00 c01
  have hs2 := hb.size
  have HVA2 := Lib.hid (HVA1.out.below hb (by omega))
  have HOA2 := Lib.hid (HOA1.out.below hb (by omega))
  have HB2 := Lib.hid (HB1.out.trans (hb.mono (by omega)))
  have HXa2 := Lib.hid ((hb.block _ (lt_of_row HXa1.out)).trans HXa1.out)
  clear hb HVA1 HOA1 HB1 HXa1
  have HP2 := Lib.hid hop.ops
  clear hop
  obtain ⟨c00, c01⟩ := pair_cells HXa2.out
  go_wp2_with fail
  have hc := specPage w2 w2.heap.size ava aoa 4 avc l.length aoc xs l fr nn (HVA2.out.more (by omega)) (HOA2.out.more (by omega)) (Nat.le_refl _) (by omega) (by omega) HIa.out
  rw [HPg.out] at hc
  refine hc.mono ?_
  clear hc
  rintro e w3 ⟨qa, qc, rfl, hop, hb⟩
  clear c00 c01
  have HP3 := Lib.hid (HP2.out.below hb (by omega))
  have hs3 := hb.size
  have HVA3 := Lib.hid (HVA2.out.below hb (by omega))
  have HOA3 := Lib.hid (HOA2.out.below hb (by omega))
  have HB3 := Lib.hid (HB2.out.trans (hb.mono (by omega)))
  have HXa3 := Lib.hid ((hb.block _ (lt_of_row HXa2.out)).trans HXa2.out)
  clear hb HVA2 HOA2 HB2 HXa2
  clear HP2
  have HQ3 := Lib.hid hop.ops
  clear hop
  go_wp2_with fail
  refine (sameOps w3 w3.heap.size w3.heap.size pa qa pg.length pc pg.length qc pg pg (HP3.out.more (by omega)) (HQ3.out.more (by omega)) (Nat.le_refl _) (Nat.le_refl _) (by omega) (by omega)).mono ?_
  rintro e w4 ⟨rfl, hb⟩
  rw [decide_eq_true rfl]
  have HP4 := Lib.hid (HP3.out.below hb (by omega))
  have HQ4 := Lib.hid (HQ3.out.below hb (by omega))
  have hs4 := hb.size
  have HVA4 := Lib.hid (HVA3.out.below hb (by omega))
  have HOA4 := Lib.hid (HOA3.out.below hb (by omega))
  have HB4 := Lib.hid (HB3.out.trans (hb.mono (by omega)))
  have HXa4 := Lib.hid ((hb.block _ (lt_of_row HXa3.out)).trans HXa3.out)
  clear hb HVA3 HOA3 HB3 HXa3
  clear HP3 HQ3
  clear HQ4
  by_cases gfr0 : fr < 0
  · skip
    have gd : decide (fr < 0) = true := decide_eq_true gfr0
    obtain ⟨c00, c01⟩ := pair_cells HXa4.out
    go_wp2_with fail
    have hc := specPage w4 w4.heap.size ava aoa 4 avc l.length aoc xs l fr nn (HVA4.out.more (by omega)) (HOA4.out.more (by omega)) (Nat.le_refl _) (by omega) (by omega) HIa.out
    rw [HPg.out] at hc
    refine hc.mono ?_
    clear hc
    rintro e w5 ⟨qa, qc, rfl, hop, hb⟩
    clear c00 c01
    have HP5 := Lib.hid (HP4.out.below hb (by omega))
    have hs5 := hb.size
    have HVA5 := Lib.hid (HVA4.out.below hb (by omega))
    have HOA5 := Lib.hid (HOA4.out.below hb (by omega))
    have HB5 := Lib.hid (HB4.out.trans (hb.mono (by omega)))
    have HXa5 := Lib.hid ((hb.block _ (lt_of_row HXa4.out)).trans HXa4.out)
    clear hb HVA4 HOA4 HB4 HXa4
    clear HP4
    have HQ5 := Lib.hid hop.ops
    clear hop
    go_wp2_with fail
    refine (sameOps w5 w5.heap.size w5.heap.size pa qa pg.length pc pg.length qc pg pg (HP5.out.more (by omega)) (HQ5.out.more (by omega)) (Nat.le_refl _) (Nat.le_refl _) (by omega) (by omega)).mono ?_
    rintro e w6 ⟨rfl, hb⟩
    rw [decide_eq_true rfl]
    have HP6 := Lib.hid (HP5.out.below hb (by omega))
    have HQ6 := Lib.hid (HQ5.out.below hb (by omega))
    have hs6 := hb.size
    have HVA6 := Lib.hid (HVA5.out.below hb (by omega))
    have HOA6 := Lib.hid (HOA5.out.below hb (by omega))
    have HB6 := Lib.hid (HB5.out.trans (hb.mono (by omega)))
    have HXa6 := Lib.hid ((hb.block _ (lt_of_row HXa5.out)).trans HXa5.out)
    clear hb HVA5 HOA5 HB5 HXa5
    clear HP5 HQ5
    clear HQ6
    go_wp2
    go_ret
    exact ⟨rfl, HB6.out⟩
  have gfr1 : 0 ≤ fr := by omega
  have gfrd : decide (fr < 0) = false := decide_eq_false gfr0
  by_cases gfr2 : 100 < fr
  · skip
    have gd : decide (100 < fr) = true := decide_eq_true gfr2
    obtain ⟨c00, c01⟩ := pair_cells HXa4.out
    go_wp2_with fail
    have hc := specPage w4 w4.heap.size ava aoa 4 avc l.length aoc xs l fr nn (HVA4.out.more (by omega)) (HOA4.out.more (by omega)) (Nat.le_refl _) (by omega) (by omega) HIa.out
    rw [HPg.out] at hc
    refine hc.mono ?_
    clear hc
    rintro e w5 ⟨qa, qc, rfl, hop, hb⟩
    clear c00 c01
    have HP5 := Lib.hid (HP4.out.below hb (by omega))
    have hs5 := hb.size
    have HVA5 := Lib.hid (HVA4.out.below hb (by omega))
    have HOA5 := Lib.hid (HOA4.out.below hb (by omega))
    have HB5 := Lib.hid (HB4.out.trans (hb.mono (by omega)))
    have HXa5 := Lib.hid ((hb.block _ (lt_of_row HXa4.out)).trans HXa4.out)
    clear hb HVA4 HOA4 HB4 HXa4
    clear HP4
    have HQ5 := Lib.hid hop.ops
    clear hop
    go_wp2_with fail
    refine (sameOps w5 w5.heap.size w5.heap.size pa qa pg.length pc pg.length qc pg pg (HP5.out.more (by omega)) (HQ5.out.more (by omega)) (Nat.le_refl _) (Nat.le_refl _) (by omega) (by omega)).mono ?_
    rintro e w6 ⟨rfl, hb⟩
    rw [decide_eq_true rfl]
    have HP6 := Lib.hid (HP5.out.below hb (by omega))
    have HQ6 := Lib.hid (HQ5.out.below hb (by omega))
    have hs6 := hb.size
    have HVA6 := Lib.hid (HVA5.out.below hb (by omega))
    have HOA6 := Lib.hid (HOA5.out.below hb (by omega))
    have HB6 := Lib.hid (HB5.out.trans (hb.mono (by omega)))
    have HXa6 := Lib.hid ((hb.block _ (lt_of_row HXa5.out)).trans HXa5.out)
    clear hb HVA5 HOA5 HB5 HXa5
    clear HP5 HQ5
    clear HQ6
    go_wp2
    go_ret
    exact ⟨rfl, HB6.out⟩
  have gfr3 : fr ≤ 100 := by omega
  have gfre : decide (100 < fr) = false := decide_eq_false gfr2
  by_cases gnn0 : nn < 0
  · skip
    have gd : decide (nn < 0) = true := decide_eq_true gnn0
    obtain ⟨c00, c01⟩ := pair_cells HXa4.out
    go_wp2_with fail
    have hc := specPage w4 w4.heap.size ava aoa 4 avc l.length aoc xs l fr nn (HVA4.out.more (by omega)) (HOA4.out.more (by omega)) (Nat.le_refl _) (by omega) (by omega) HIa.out
    rw [HPg.out] at hc
    refine hc.mono ?_
    clear hc
    rintro e w5 ⟨qa, qc, rfl, hop, hb⟩
    clear c00 c01
    have HP5 := Lib.hid (HP4.out.below hb (by omega))
    have hs5 := hb.size
    have HVA5 := Lib.hid (HVA4.out.below hb (by omega))
    have HOA5 := Lib.hid (HOA4.out.below hb (by omega))
    have HB5 := Lib.hid (HB4.out.trans (hb.mono (by omega)))
    have HXa5 := Lib.hid ((hb.block _ (lt_of_row HXa4.out)).trans HXa4.out)
    clear hb HVA4 HOA4 HB4 HXa4
    clear HP4
    have HQ5 := Lib.hid hop.ops
    clear hop
    go_wp2_with fail
    refine (sameOps w5 w5.heap.size w5.heap.size pa qa pg.length pc pg.length qc pg pg (HP5.out.more (by omega)) (HQ5.out.more (by omega)) (Nat.le_refl _) (Nat.le_refl _) (by omega) (by omega)).mono ?_
    rintro e w6 ⟨rfl, hb⟩
    rw [decide_eq_true rfl]
    have HP6 := Lib.hid (HP5.out.below hb (by omega))
    have HQ6 := Lib.hid (HQ5.out.below hb (by omega))
    have hs6 := hb.size
    have HVA6 := Lib.hid (HVA5.out.below hb (by omega))
    have HOA6 := Lib.hid (HOA5.out.below hb (by omega))
    have HB6 := Lib.hid (HB5.out.trans (hb.mono (by omega)))
    have HXa6 := Lib.hid ((hb.block _ (lt_of_row HXa5.out)).trans HXa5.out)
    clear hb HVA5 HOA5 HB5 HXa5
    clear HP5 HQ5
    clear HQ6
    go_wp2
    go_ret
    exact ⟨rfl, HB6.out⟩
  have gnn1 : 0 ≤ nn := by omega
  have gnnd : decide (nn < 0) = false := decide_eq_false gnn0
  by_cases gnn2 : 100 < nn
  · skip
    have gd : decide (100 < nn) = true := decide_eq_true gnn2
    obtain ⟨c00, c01⟩ := pair_cells HXa4.out
    go_wp2_with fail
    have hc := specPage w4 w4.heap.size ava aoa 4 avc l.length aoc xs l fr nn (HVA4.out.more (by omega)) (HOA4.out.more (by omega)) (Nat.le_refl _) (by omega) (by omega) HIa.out
    rw [HPg.out] at hc
    refine hc.mono ?_
    clear hc
    rintro e w5 ⟨qa, qc, rfl, hop, hb⟩
    clear c00 c01
    have HP5 := Lib.hid (HP4.out.below hb (by omega))
    have hs5 := hb.size
    have HVA5 := Lib.hid (HVA4.out.below hb (by omega))
    have HOA5 := Lib.hid (HOA4.out.below hb (by omega))
    have HB5 := Lib.hid (HB4.out.trans (hb.mono (by omega)))
    have HXa5 := Lib.hid ((hb.block _ (lt_of_row HXa4.out)).trans HXa4.out)
    clear hb HVA4 HOA4 HB4 HXa4
    clear HP4
    have HQ5 := Lib.hid hop.ops
    clear hop
    go_wp2_with fail
    refine (sameOps w5 w5.heap.size w5.heap.size pa qa pg.length pc pg.length qc pg pg (HP5.out.more (by omega)) (HQ5.out.more (by omega)) (Nat.le_refl _) (Nat.le_refl _) (by omega) (by omega)).mono ?_
    rintro e w6 ⟨rfl, hb⟩
    rw [decide_eq_true rfl]
    have HP6 := Lib.hid (HP5.out.below hb (by omega))
    have HQ6 := Lib.hid (HQ5.out.below hb (by omega))
    have hs6 := hb.size
    have HVA6 := Lib.hid (HVA5.out.below hb (by omega))
    have HOA6 := Lib.hid (HOA5.out.below hb (by omega))
    have HB6 := Lib.hid (HB5.out.trans (hb.mono (by omega)))
    have HXa6 := Lib.hid ((hb.block _ (lt_of_row HXa5.out)).trans HXa5.out)
    clear hb HVA5 HOA5 HB5 HXa5
    clear HP5 HQ5
    clear HQ6
    go_wp2
    go_ret
    exact ⟨rfl, HB6.out⟩
  have gnn3 : nn ≤ 100 := by omega
  have gnne : decide (100 < nn) = false := decide_eq_false gnn2
  go_upto_region 7 with fail
  obtain ⟨F, rfl⟩ : ∃ F : Nat, fr = (F : Int) := ⟨fr.toNat, by omega⟩
  obtain ⟨N, rfl⟩ : ∃ N : Nat, nn = (N : Int) := ⟨nn.toNat, by omega⟩
  have hF : F ≤ 100 := by omega
  have hN : N ≤ 100 := by omega
  clear gfr0 gfr1 gfrd gfr2 gfr3 gfre gnn0 gnn1 gnnd gnn2 gnn3 gnne
  have hquo : Int.tdiv (N : Int) 2 = ((N / 2 : Nat) : Int) := by rw [Int.tdiv_eq_ediv_of_nonneg (by omega)]; omega
  have hquo2 : (N : Int) / 2 = ((N / 2 : Nat) : Int) := by omega
  obtain ⟨K2, hK2⟩ : ∃ K2 : Nat, N / 2 = K2 := ⟨_, rfl⟩
  rw [hK2] at hquo hquo2
  have hK2l : K2 ≤ N := by omega
  obtain ⟨P1, hP1⟩ : ∃ p, pageL xs l (F : Int) (K2 : Int) = p := ⟨_, rfl⟩
  obtain ⟨P2, hP2⟩ : ∃ p, pageL xs l ((F : Int) + (K2 : Int)) ((N : Int) - (K2 : Int)) = p := ⟨_, rfl⟩
  obtain ⟨H, hH⟩ : ∃ p, histL xs l = p := ⟨_, rfl⟩
  have HP1 := Lib.hid hP1
  have HP2 := Lib.hid hP2
  have HH := Lib.hid hH
  have hlp1 : P1.length ≤ 400 := by rw [← hP1]; exact Nat.le_trans (page_len xs l _ _) a6
  have hlp2 : P2.length ≤ 400 := by rw [← hP2]; exact Nat.le_trans (page_len xs l _ _) a6
  have hlh : H.length ≤ 400 := by rw [← hH]; exact Nat.le_trans (hist_len xs l) a6
  have HJ : Hid (P1 ++ P2 = pg) := by
    show P1 ++ P2 = pg
    rw [← hP1, ← hP2, ← HPg.out]
    have := pages_join (histL xs l) F N (by omega)
    rw [hK2] at this
    have e1 : (F : Int) + (K2 : Int) = ((F + K2 : Nat) : Int) := by omega
    have e2 : (N : Int) - (K2 : Int) = ((N - K2 : Nat) : Int) := by omega
    rw [e1, e2]
    exact this
  have hsh : pg.length ≤ N := by rw [← HPg.out]; exact page_short (histL xs l) F N (by omega)
  have HAll : Hid (pageL xs l 0 1000 = H) := by
    show pageL xs l 0 1000 = H
    rw [← hH]
    exact page_all (histL xs l) (by rw [hH]; omega)
  have hnlen : decide ((pg.length : Int) ≤ (N : Int)) = true := decide_eq_true (by omega)
  have hshI : (pg.length : Int) ≤ (N : Int) := by omega
  have hwA : IntKind.i64.wrap ((F : Int) + (K2 : Int)) = (F : Int) + (K2 : Int) := IntWalk.i64_in _ (by omega)
  have hwB : IntKind.i64.wrap ((N : Int) - (K2 : Int)) = (N : Int) - (K2 : Int) := IntWalk.i64_in _ (by omega)
  have HPL : Hid (P1.length + P2.length = pg.length) := by have := congrArg List.length HJ.out; rw [List.length_append] at this; exact this
  clear hP1 hP2 hH hK2
  go_upto_region 8 with fail
  clear hquo hquo2
  obtain ⟨c0, c1⟩ := pair_cells HXa4.out
  have hbz : Below w4.heap.size w4 w4.drew := ⟨rfl, rfl, rfl, Nat.le_refl _, fun _ _ => rfl⟩
  obtain ⟨z0, hz0⟩ : ∃ z0, z0 = w4.drew := ⟨_, rfl⟩
  rw [← hz0] at hbz
  have hS0 : z0.cell? ⟨w0.heap.size, 0, none⟩ = some (.slice ava 4 avc) ∧ z0.cell? ⟨w0.heap.size, 1, none⟩ = some (.slice aoa l.length aoc) := ⟨(hbz.cell (p := ⟨w0.heap.size, 0, none⟩) (lt_of_row HXa4.out)).trans c0, (hbz.cell (p := ⟨w0.heap.size, 1, none⟩) (lt_of_row HXa4.out)).trans c1⟩
  go_wp2_with fail
  refine wp_region_held_drew (S := fun w' => w'.cell? ⟨w0.heap.size, 0, none⟩ = some (.slice ava 4 avc) ∧ w'.cell? ⟨w0.heap.size, 1, none⟩ = some (.slice aoa l.length aoc)) (by kernel_rfl) (by rw [← hz0]; exact hS0) (fun hHeld => ?_)
  rw [← hz0]
  clear hz0 hHeld
  refine wpAnyH_take (i := 1) (oi := { dst := some 53, op := .load 27 (.tmp 3), type := 27, pos := "laws.go:790", after := #[], guard := none }) (v := ?_) rfl (by kernel_rfl) (by kernel_rfl) (by kernel_rfl) (fun _ _ _ h => h) (Or.inl ⟨by rfl, ?_⟩) (by assumption) ?_
  rotate_left
  · intro w hSw
    (try dsimp only at hSw)
    first | (go_simp; done) | (go_simp; with_reducible rfl)
  (try simp only [Act.put, List.setIfInBounds_toArray, List.set_cons_zero, List.set_cons_succ])
  refine wpAnyH_take (i := 2) (oi := { dst := some 54, op := .move (.tmp 4), type := 2, pos := "laws.go:790", after := #[], guard := none }) (v := ?_) rfl (by kernel_rfl) (by kernel_rfl) (by kernel_rfl) (fun _ _ _ h => h) (Or.inl ⟨by rfl, ?_⟩) (by assumption) ?_
  rotate_left
  · intro w hSw
    (try dsimp only at hSw)
    first | (go_simp; done) | (go_simp; with_reducible rfl)
  (try simp only [Act.put, List.setIfInBounds_toArray, List.set_cons_zero, List.set_cons_succ])
  refine wpAnyH_take (i := 3) (oi := { dst := some 55, op := .move (.tmp 7), type := 2, pos := "laws.go:790", after := #[], guard := none }) (v := ?_) rfl (by kernel_rfl) (by kernel_rfl) (by kernel_rfl) (fun _ _ _ h => h) (Or.inl ⟨by rfl, ?_⟩) (by assumption) ?_
  rotate_left
  · intro w hSw
    (try dsimp only at hSw)
    first | (go_simp; done) | (go_simp; with_reducible rfl)
  (try simp only [Act.put, List.setIfInBounds_toArray, List.set_cons_zero, List.set_cons_succ])
  refine wpAnyH_take (i := 6) (oi := { dst := some 58, op := .load 27 (.tmp 3), type := 27, pos := "laws.go:790", after := #[], guard := none }) (v := ?_) rfl (by kernel_rfl) (by kernel_rfl) (by kernel_rfl) (fun _ _ _ h => h) (Or.inl ⟨by rfl, ?_⟩) (by assumption) ?_
  rotate_left
  · intro w hSw
    (try dsimp only at hSw)
    first | (go_simp; done) | (go_simp; with_reducible rfl)
  (try simp only [Act.put, List.setIfInBounds_toArray, List.set_cons_zero, List.set_cons_succ])
  refine wpAnyH_take (i := 7) (oi := { dst := some 59, op := .move (.tmp 4), type := 2, pos := "laws.go:790", after := #[], guard := none }) (v := ?_) rfl (by kernel_rfl) (by kernel_rfl) (by kernel_rfl) (fun _ _ _ h => h) (Or.inl ⟨by rfl, ?_⟩) (by assumption) ?_
  rotate_left
  · intro w hSw
    (try dsimp only at hSw)
    first | (go_simp; done) | (go_simp; with_reducible rfl)
  (try simp only [Act.put, List.setIfInBounds_toArray, List.set_cons_zero, List.set_cons_succ])
  refine wpAnyH_take (i := 8) (oi := { dst := some 60, op := .move (.tmp 7), type := 2, pos := "laws.go:790", after := #[], guard := none }) (v := ?_) rfl (by kernel_rfl) (by kernel_rfl) (by kernel_rfl) (fun _ _ _ h => h) (Or.inl ⟨by rfl, ?_⟩) (by assumption) ?_
  rotate_left
  · intro w hSw
    (try dsimp only at hSw)
    first | (go_simp; done) | (go_simp; with_reducible rfl)
  (try simp only [Act.put, List.setIfInBounds_toArray, List.set_cons_zero, List.set_cons_succ])
  refine wpAnyH_take (i := 9) (oi := { dst := some 61, op := .binOp .add 2 (.tmp 59) (.tmp 60) 2, type := 2, pos := "laws.go:790", after := #[⟨7, .data⟩, ⟨8, .data⟩], guard := none }) (v := ?_) rfl (by kernel_rfl) (by kernel_rfl) (by kernel_rfl) (fun _ _ _ h => h) (Or.inl ⟨by rfl, ?_⟩) (by assumption) ?_
  rotate_left
  · intro w hSw
    (try dsimp only at hSw)
    first | (go_simp; done) | (go_simp; with_reducible rfl)
  (try simp only [Act.put, List.setIfInBounds_toArray, List.set_cons_zero, List.set_cons_succ])
  refine wpAnyH_take (i := 10) (oi := { dst := some 62, op := .move (.tmp 5), type := 2, pos := "laws.go:790", after := #[], guard := none }) (v := ?_) rfl (by kernel_rfl) (by kernel_rfl) (by kernel_rfl) (fun _ _ _ h => h) (Or.inl ⟨by rfl, ?_⟩) (by assumption) ?_
  rotate_left
  · intro w hSw
    (try dsimp only at hSw)
    first | (go_simp; done) | (go_simp; with_reducible rfl)
  (try simp only [Act.put, List.setIfInBounds_toArray, List.set_cons_zero, List.set_cons_succ])
  refine wpAnyH_take (i := 11) (oi := { dst := some 63, op := .move (.tmp 7), type := 2, pos := "laws.go:790", after := #[], guard := none }) (v := ?_) rfl (by kernel_rfl) (by kernel_rfl) (by kernel_rfl) (fun _ _ _ h => h) (Or.inl ⟨by rfl, ?_⟩) (by assumption) ?_
  rotate_left
  · intro w hSw
    (try dsimp only at hSw)
    first | (go_simp; done) | (go_simp; with_reducible rfl)
  (try simp only [Act.put, List.setIfInBounds_toArray, List.set_cons_zero, List.set_cons_succ])
  refine wpAnyH_take (i := 12) (oi := { dst := some 64, op := .binOp .sub 2 (.tmp 62) (.tmp 63) 2, type := 2, pos := "laws.go:790", after := #[⟨10, .data⟩, ⟨11, .data⟩], guard := none }) (v := ?_) rfl (by kernel_rfl) (by kernel_rfl) (by kernel_rfl) (fun _ _ _ h => h) (Or.inl ⟨by rfl, ?_⟩) (by assumption) ?_
  rotate_left
  · intro w hSw
    (try dsimp only at hSw)
    first | (go_simp; done) | (go_simp; with_reducible rfl)
  (try simp only [Act.put, List.setIfInBounds_toArray, List.set_cons_zero, List.set_cons_succ])
  refine wpAnyH_ready (rs := [0, 4]) (by kernel_rfl) (by simp) ?_
  refine AllReadyH.cons (o := { dst := some 52, op := .buildSlice 25 0 #[], type := 25, pos := "laws.go:790", after := #[], guard := none }) rfl (fun K hK => ?_) (AllReadyH.cons (o := { dst := some 56, op := .call { callee := .value (.func 34), args := #[.tmp 53, .tmp 54, .tmp 55], argTypes := #[27, 2, 2] }, type := 25, pos := "laws.go:790", after := #[⟨1, .data⟩, ⟨2, .data⟩, ⟨3, .data⟩], guard := none }) rfl (fun K hK => ?_) AllReadyH.nil)
  · skip
    have hb1 : Below w4.heap.size w4 (z0.alloc (.cells #[] 34)) := hbz.alloc hbz.size _
    have hR1 : (z0.alloc (.cells #[] 34)).ownsRow w4.heap.size 34 8 (.slice (some ⟨z0.heap.size, 0, none⟩) 0 0) 0 (opCells []) := World.ownsRow_made z0 #[] 0 hbz.size (by unfold maxLen; omega) rfl
    go_simp
    refine hK.out _ _ ⟨(hb1.cell (p := ⟨w0.heap.size, 0, none⟩) (lt_of_row HXa4.out)).trans c0, (hb1.cell (p := ⟨w0.heap.size, 1, none⟩) (lt_of_row HXa4.out)).trans c1⟩ (fun hHeld1 => ?_)
    clear hK K
    (try simp only [Act.put, List.setIfInBounds_toArray, List.set_cons_zero, List.set_cons_succ])
    generalize z0.alloc (.cells #[] 34) = z1 at hHeld1 hb1 hR1 ⊢
    refine wpAnyH_ready (rs := [4]) (by kernel_rfl) (by simp) ?_
    refine AllReadyH.cons (o := { dst := some 56, op := .call { callee := .value (.func 34), args := #[.tmp 53, .tmp 54, .tmp 55], argTypes := #[27, 2, 2] }, type := 25, pos := "laws.go:790", after := #[⟨1, .data⟩, ⟨2, .data⟩, ⟨3, .data⟩], guard := none }) rfl (fun K hK => ?_) AllReadyH.nil
    go_simp
    go_at_call 34
    have hc := implPage z1 z1.heap.size ava aoa 4 avc l.length aoc xs l (F : Int) (K2 : Int) ((HVA4.out.below hb1 (by omega)).more (by have := hb1.size; omega)) ((HOA4.out.below hb1 (by omega)).more (by have := hb1.size; omega)) (Nat.le_refl _) (by omega) HCv.out.1 HCa.out.1 ⟨by omega, HCa.out.2.1⟩ HCa.out.2.2 HIa.out
    rw [HP1.out] at hc
    refine hc.mono ?_
    clear hc
    rintro e z2 ⟨pa1, pc1, rfl, hop, hbn⟩
    have hq2 := hop.ops
    clear hop
    have hb2 := hb1.trans (hbn.mono hb1.size)
    have hbR : Below z1.heap.size z1 z2 := hbn
    have hRc1 := own_row_kept hR1 hbR
    clear hbn hbR
    refine hK.out _ _ ⟨(hb2.cell (p := ⟨w0.heap.size, 0, none⟩) (lt_of_row HXa4.out)).trans c0, (hb2.cell (p := ⟨w0.heap.size, 1, none⟩) (lt_of_row HXa4.out)).trans c1⟩ (fun hHeld2 => ?_)
    clear hK K
    (try simp only [Act.put, List.setIfInBounds_toArray, List.set_cons_zero, List.set_cons_succ])
    refine wpAnyH_ready (rs := [5]) (by kernel_rfl) (by simp) ?_
    obtain ⟨vA3, z3, hrun, hW, hgr⟩ := appOpsN z2 w4.heap.size _ 0 [] hRc1 _ pa1 P1.length pc1 P1 hq2 (by omega) hb2.size
    rw [Nat.zero_add, List.nil_append] at hW
    obtain ⟨va1, vc1, rfl, _⟩ := row_formA hW
    have hb3 := hb2.grown hgr hb2.size (fun j hj => (hRc1.lt j hj).1)
    refine AllReadyH.cons (o := { dst := some 57, op := .call { callee := .builtin .append, args := #[.tmp 52, .tmp 56], argTypes := #[25, 25] }, type := 25, pos := "laws.go:790", after := #[⟨0, .data⟩, ⟨4, .data⟩, ⟨4, .chain⟩], guard := none }) rfl (fun K hK => ?_) AllReadyH.nil
    rw [if_pos (by rfl)]
    refine opwpApp _ _ _ rfl _ _ rfl rfl hrun ?_
    have hR3 := hW
    refine hK.out _ _ ⟨(hb3.cell (p := ⟨w0.heap.size, 0, none⟩) (lt_of_row HXa4.out)).trans c0, (hb3.cell (p := ⟨w0.heap.size, 1, none⟩) (lt_of_row HXa4.out)).trans c1⟩ (fun hHeld3 => ?_)
    clear hK K hrun hW hgr
    (try simp only [Act.put, List.setIfInBounds_toArray, List.set_cons_zero, List.set_cons_succ])
    refine wpAnyH_ready (rs := [13]) (by kernel_rfl) (by simp) ?_
    refine AllReadyH.cons (o := { dst := some 65, op := .call { callee := .value (.func 34), args := #[.tmp 58, .tmp 61, .tmp 64], argTypes := #[27, 2, 2] }, type := 25, pos := "laws.go:790", after := #[⟨6, .data⟩, ⟨9, .data⟩, ⟨12, .data⟩, ⟨5, .chain⟩], guard := none }) rfl (fun K hK => ?_) AllReadyH.nil
    go_simp
    go_at_call 34
    have hc := implPage z3 z3.heap.size ava aoa 4 avc l.length aoc xs l ((F : Int) + (K2 : Int)) ((N : Int) - (K2 : Int)) ((HVA4.out.below hb3 (by omega)).more (by have := hb3.size; omega)) ((HOA4.out.below hb3 (by omega)).more (by have := hb3.size; omega)) (Nat.le_refl _) (by omega) HCv.out.1 HCa.out.1 ⟨by omega, HCa.out.2.1⟩ HCa.out.2.2 HIa.out
    rw [HP2.out] at hc
    refine hc.mono ?_
    clear hc
    rintro e z4 ⟨pa2, pc2, rfl, hop, hbn⟩
    have hq4 := hop.ops
    clear hop
    have hb4 := hb3.trans (hbn.mono hb3.size)
    have hbR : Below z3.heap.size z3 z4 := hbn
    have hRc := own_row_kept hR3 hbR
    clear hbn
    refine hK.out _ _ ⟨(hb4.cell (p := ⟨w0.heap.size, 0, none⟩) (lt_of_row HXa4.out)).trans c0, (hb4.cell (p := ⟨w0.heap.size, 1, none⟩) (lt_of_row HXa4.out)).trans c1⟩ (fun hHeld4 => ?_)
    clear hK K
    (try simp only [Act.put, List.setIfInBounds_toArray, List.set_cons_zero, List.set_cons_succ])
    refine wpAnyH_ready (rs := [14]) (by kernel_rfl) (by simp) ?_
    obtain ⟨vA5, z5, hrun, hW, hgr⟩ := appOpsN z4 w4.heap.size _ P1.length P1 hRc _ pa2 P2.length pc2 P2 hq4 (by omega) hb4.size
    rw [HPL.out, HJ.out] at hW
    obtain ⟨va2, vc2, rfl, _⟩ := row_formA hW
    have hb5 := hb4.grown hgr hb4.size (fun j hj => (hRc.lt j hj).1)
    refine AllReadyH.cons (o := { dst := some 66, op := .call { callee := .builtin .append, args := #[.tmp 57, .tmp 65], argTypes := #[25, 25] }, type := 25, pos := "laws.go:790", after := #[⟨5, .data⟩, ⟨13, .data⟩, ⟨13, .chain⟩], guard := none }) rfl (fun K hK => ?_) AllReadyH.nil
    rw [if_pos (by rfl)]
    refine opwpApp _ _ _ rfl _ _ rfl rfl hrun ?_
    have hR5 := hW
    refine hK.out _ _ ⟨(hb5.cell (p := ⟨w0.heap.size, 0, none⟩) (lt_of_row HXa4.out)).trans c0, (hb5.cell (p := ⟨w0.heap.size, 1, none⟩) (lt_of_row HXa4.out)).trans c1⟩ (fun hHeld5 => ?_)
    clear hK K hrun hW hgr
    (try simp only [Act.put, List.setIfInBounds_toArray, List.set_cons_zero, List.set_cons_succ])
    refine wpAnyH_take (i := 15) (oi := { dst := some 8, op := .assign (.tmp 66), type := 25, pos := "laws.go:790", after := #[⟨14, .data⟩, ⟨14, .chain⟩, ⟨0, .phase⟩, ⟨1, .phase⟩, ⟨2, .phase⟩, ⟨3, .phase⟩, ⟨4, .phase⟩, ⟨5, .phase⟩, ⟨6, .phase⟩, ⟨7, .phase⟩, ⟨8, .phase⟩, ⟨9, .phase⟩, ⟨10, .phase⟩, ⟨11, .phase⟩, ⟨12, .phase⟩, ⟨13, .phase⟩, ⟨14, .phase⟩], guard := none }) (v := ?_) rfl (by kernel_rfl) (by kernel_rfl) (by kernel_rfl) (fun _ _ _ h => h) (Or.inl ⟨by rfl, ?_⟩) (by assumption) ?_
    rotate_left
    · intro w hSw
      (try dsimp only at hSw)
      first | (go_simp; done) | (go_simp; with_reducible rfl)
    (try simp only [Act.put, List.setIfInBounds_toArray, List.set_cons_zero, List.set_cons_succ])
    refine wpAnyH_done (by kernel_rfl) ?_ _
    have HRo : Hid (Ops z5 z5.heap.size va2 pg.length pg) := (own_of_cells hR5 (Nat.le_refl _)).ops
    have hb := hb5
    obtain ⟨w5, hwe⟩ : ∃ z, z = z5 := ⟨_, rfl⟩
    subst hwe
    have HP5 := Lib.hid (HP4.out.below hb (by omega))
    have hs5 := hb.size
    have HVA5 := Lib.hid (HVA4.out.below hb (by omega))
    have HOA5 := Lib.hid (HOA4.out.below hb (by omega))
    have HB5 := Lib.hid (HB4.out.trans (hb.mono (by omega)))
    have HXa5 := Lib.hid ((hb.block _ (lt_of_row HXa4.out)).trans HXa4.out)
    clear hb HVA4 HOA4 HB4 HXa4
    clear HP4
    have HR5 := HRo
    clear HRo
    clear c0 c1
    go_wp2_with fail
    obtain ⟨w6, hzw⟩ : ∃ z, w5.drew = z := ⟨_, rfl⟩
    have hb : Below w5.heap.size w5 w6 := by rw [← hzw]; exact ⟨rfl, rfl, rfl, Nat.le_refl _, fun _ _ => rfl⟩
    have HP6 := Lib.hid (HP5.out.below hb (by omega))
    have HR6 := Lib.hid (HR5.out.below hb (by omega))
    have hs6 := hb.size
    have HVA6 := Lib.hid (HVA5.out.below hb (by omega))
    have HOA6 := Lib.hid (HOA5.out.below hb (by omega))
    have HB6 := Lib.hid (HB5.out.trans (hb.mono (by omega)))
    have HXa6 := Lib.hid ((hb.block _ (lt_of_row HXa5.out)).trans HXa5.out)
    clear hb HVA5 HOA5 HB5 HXa5
    clear HP5 HR5
    have hS : w6.cell? ⟨w0.heap.size, 0, none⟩ = some (.slice ava 4 avc) ∧ w6.cell? ⟨w0.heap.size, 1, none⟩ = some (.slice aoa l.length aoc) := ⟨(pair_cells HXa6.out).1, (pair_cells HXa6.out).2⟩
    refine wp_region_held_drew (S := fun w' => w'.cell? ⟨w0.heap.size, 0, none⟩ = some (.slice ava 4 avc) ∧ w'.cell? ⟨w0.heap.size, 1, none⟩ = some (.slice aoa l.length aoc)) (by kernel_rfl) (by rw [hzw]; exact hS) (fun hHeld => ?_)
    rw [hzw]
    clear hHeld hzw
    refine wpAnyH_take (i := 0) (oi := { dst := some 67, op := .move (.tmp 8), type := 25, pos := "laws.go:791", after := #[], guard := none }) (v := ?_) rfl (by kernel_rfl) (by kernel_rfl) (by kernel_rfl) (fun _ _ _ h => h) (Or.inl ⟨by rfl, ?_⟩) (by assumption) ?_
    rotate_left
    · intro w hSw
      (try dsimp only at hSw)
      first | (go_simp; done) | (go_simp; with_reducible rfl)
    (try simp only [Act.put, List.setIfInBounds_toArray, List.set_cons_zero, List.set_cons_succ])
    refine wpAnyH_take (i := 1) (oi := { dst := some 68, op := .move (.tmp 6), type := 25, pos := "laws.go:791", after := #[], guard := none }) (v := ?_) rfl (by kernel_rfl) (by kernel_rfl) (by kernel_rfl) (fun _ _ _ h => h) (Or.inl ⟨by rfl, ?_⟩) (by assumption) ?_
    rotate_left
    · intro w hSw
      (try dsimp only at hSw)
      first | (go_simp; done) | (go_simp; with_reducible rfl)
    (try simp only [Act.put, List.setIfInBounds_toArray, List.set_cons_zero, List.set_cons_succ])
    refine wpAnyH_ready (rs := [2]) (by kernel_rfl) (by simp) ?_
    refine AllReadyH.cons (o := { dst := some 69, op := .call { callee := .value (.func 24), args := #[.tmp 67, .tmp 68], argTypes := #[25, 25] }, type := 4, pos := "laws.go:791", after := #[⟨0, .data⟩, ⟨1, .data⟩], guard := none }) rfl (fun K hK => ?_) AllReadyH.nil
    go_simp
    go_at_call 24
    refine (sameOps w6 w6.heap.size w6.heap.size va2 pa pg.length vc2 pg.length pc pg pg (HR6.out.more (by omega)) (HP6.out.more (by omega)) (Nat.le_refl _) (Nat.le_refl _) (by omega) (by omega)).mono ?_
    rintro e w7 ⟨rfl, hb⟩
    rw [decide_eq_true rfl]
    have HP7 := Lib.hid (HP6.out.below hb (by omega))
    have HR7 := Lib.hid (HR6.out.below hb (by omega))
    have hs7 := hb.size
    have HVA7 := Lib.hid (HVA6.out.below hb (by omega))
    have HOA7 := Lib.hid (HOA6.out.below hb (by omega))
    have HB7 := Lib.hid (HB6.out.trans (hb.mono (by omega)))
    have HXa7 := Lib.hid ((hb.block _ (lt_of_row HXa6.out)).trans HXa6.out)
    clear hb HVA6 HOA6 HB6 HXa6
    clear HP6 HR6
    have hS2 : w7.cell? ⟨w0.heap.size, 0, none⟩ = some (.slice ava 4 avc) ∧ w7.cell? ⟨w0.heap.size, 1, none⟩ = some (.slice aoa l.length aoc) := ⟨(pair_cells HXa7.out).1, (pair_cells HXa7.out).2⟩
    refine hK.out _ _ hS2 (fun hHeld3 => ?_)
    clear hK K
    (try simp only [Act.put, List.setIfInBounds_toArray, List.set_cons_zero, List.set_cons_succ])
    clear hHeld3
    refine wpAnyH_take (i := 3) (oi := { dst := some 70, op := .move (.tmp 69), type := 4, pos := "laws.go:791", after := #[⟨2, .data⟩, ⟨2, .chain⟩], guard := none }) (v := ?_) rfl (by kernel_rfl) (by kernel_rfl) (by kernel_rfl) (fun _ _ _ h => h) (Or.inl ⟨by rfl, ?_⟩) (by assumption) ?_
    rotate_left
    · intro w hSw
      (try dsimp only at hSw)
      first | (go_simp; done) | (go_simp; with_reducible rfl)
    (try simp only [Act.put, List.setIfInBounds_toArray, List.set_cons_zero, List.set_cons_succ])
    refine wpAnyH_take (i := 4) (oi := { dst := some 71, op := .move (.tmp 6), type := 25, pos := "laws.go:791", after := #[⟨3, .guard⟩], guard := some (3, true) }) (v := ?_) rfl (by kernel_rfl) (by kernel_rfl) (by kernel_rfl) (fun _ _ _ h => h) (Or.inl ⟨by rfl, ?_⟩) (by assumption) ?_
    rotate_left
    · intro w hSw
      (try dsimp only at hSw)
      first | (go_simp; done) | (go_simp; with_reducible rfl)
    (try simp only [Act.put, List.setIfInBounds_toArray, List.set_cons_zero, List.set_cons_succ])
    refine wpAnyH_take (i := 5) (oi := { dst := some 72, op := .call { callee := .builtin .len, args := #[.tmp 71], argTypes := #[25] }, type := 3, pos := "laws.go:791", after := #[⟨4, .data⟩, ⟨3, .guard⟩], guard := some (3, true) }) (v := ?_) rfl (by kernel_rfl) (by kernel_rfl) (by kernel_rfl) (fun _ _ _ h => h) (Or.inl ⟨by rfl, ?_⟩) (by assumption) ?_
    rotate_left
    · intro w hSw
      (try dsimp only at hSw)
      first | (go_simp; done) | (go_simp; with_reducible rfl)
    (try simp only [Act.put, List.setIfInBounds_toArray, List.set_cons_zero, List.set_cons_succ])
    refine wpAnyH_take (i := 6) (oi := { dst := some 73, op := .move (.tmp 5), type := 2, pos := "laws.go:791", after := #[⟨3, .guard⟩], guard := some (3, true) }) (v := ?_) rfl (by kernel_rfl) (by kernel_rfl) (by kernel_rfl) (fun _ _ _ h => h) (Or.inl ⟨by rfl, ?_⟩) (by assumption) ?_
    rotate_left
    · intro w hSw
      (try dsimp only at hSw)
      first | (go_simp; done) | (go_simp; with_reducible rfl)
    (try simp only [Act.put, List.setIfInBounds_toArray, List.set_cons_zero, List.set_cons_succ])
    refine wpAnyH_take (i := 7) (oi := { dst := some 74, op := .binOp .leq 2 (.tmp 72) (.tmp 73) 2, type := 4, pos := "laws.go:791", after := #[⟨5, .data⟩, ⟨6, .data⟩, ⟨3, .guard⟩], guard := some (3, true) }) (v := ?_) rfl (by kernel_rfl) (by kernel_rfl) (by kernel_rfl) (fun _ _ _ h => h) (Or.inl ⟨by rfl, ?_⟩) (by assumption) ?_
    rotate_left
    · intro w hSw
      (try dsimp only at hSw)
      first | (go_simp; done) | (go_simp; with_reducible rfl)
    (try simp only [Act.put, List.setIfInBounds_toArray, List.set_cons_zero, List.set_cons_succ])
    refine wpAnyH_take (i := 8) (oi := { dst := some 75, op := .pick (.tmp 70) (.tmp 74) (.const (Value.bool false)), type := 4, pos := "laws.go:791", after := #[⟨3, .data⟩, ⟨7, .data⟩], guard := none }) (v := ?_) rfl (by kernel_rfl) (by kernel_rfl) (by kernel_rfl) (fun _ _ _ h => h) (Or.inl ⟨by rfl, ?_⟩) (by assumption) ?_
    rotate_left
    · intro w hSw
      (try dsimp only at hSw)
      first | (go_simp; done) | (go_simp; with_reducible rfl)
    (try simp only [Act.put, List.setIfInBounds_toArray, List.set_cons_zero, List.set_cons_succ])
    refine wpAnyH_take (i := 9) (oi := { dst := some 76, op := .move (.tmp 75), type := 4, pos := "laws.go:791", after := #[⟨8, .data⟩, ⟨3, .chain⟩], guard := none }) (v := ?_) rfl (by kernel_rfl) (by kernel_rfl) (by kernel_rfl) (fun _ _ _ h => h) (Or.inl ⟨by rfl, ?_⟩) (by assumption) ?_
    rotate_left
    · intro w hSw
      (try dsimp only at hSw)
      first | (go_simp; done) | (go_simp; with_reducible rfl)
    (try simp only [Act.put, List.setIfInBounds_toArray, List.set_cons_zero, List.set_cons_succ])
    refine wpAnyH_take (i := 10) (oi := { dst := some 77, op := .load 27 (.tmp 3), type := 27, pos := "laws.go:791", after := #[⟨9, .guard⟩], guard := some (9, true) }) (v := ?_) rfl (by kernel_rfl) (by kernel_rfl) (by kernel_rfl) (fun _ _ _ h => h) (Or.inl ⟨by rfl, ?_⟩) (by assumption) ?_
    rotate_left
    · intro w hSw
      (try dsimp only at hSw)
      first | (go_simp; done) | (go_simp; with_reducible rfl)
    (try simp only [Act.put, List.setIfInBounds_toArray, List.set_cons_zero, List.set_cons_succ])
    refine wpAnyH_take (i := 12) (oi := { dst := some 79, op := .load 27 (.tmp 3), type := 27, pos := "laws.go:791", after := #[⟨9, .guard⟩], guard := some (9, true) }) (v := ?_) rfl (by kernel_rfl) (by kernel_rfl) (by kernel_rfl) (fun _ _ _ h => h) (Or.inl ⟨by rfl, ?_⟩) (by assumption) ?_
    rotate_left
    · intro w hSw
      (try dsimp only at hSw)
      first | (go_simp; done) | (go_simp; with_reducible rfl)
    (try simp only [Act.put, List.setIfInBounds_toArray, List.set_cons_zero, List.set_cons_succ])
    refine wpAnyH_ready (rs := [11]) (by kernel_rfl) (by simp) ?_
    refine AllReadyH.cons (o := { dst := some 78, op := .call { callee := .value (.func 34), args := #[.tmp 77, .const (Value.int IntKind.i64 0), .const (Value.int IntKind.i64 1000)], argTypes := #[27, 2, 2] }, type := 25, pos := "laws.go:791", after := #[⟨10, .data⟩, ⟨9, .chain⟩, ⟨9, .guard⟩], guard := some (9, true) }) rfl (fun K hK => ?_) AllReadyH.nil
    go_simp
    go_at_call 34
    refine (implPage w7 w7.heap.size ava aoa 4 avc l.length aoc xs l 0 1000 (HVA7.out.more (by omega)) (HOA7.out.more (by omega)) (Nat.le_refl _) (by omega) HCv.out.1 HCa.out.1 ⟨by omega, HCa.out.2.1⟩ HCa.out.2.2 HIa.out).mono ?_
    rintro e w8 ⟨ra, rc, hre, hop, hb⟩
    rw [HAll.out] at hre hop
    subst hre
    have HP8 := Lib.hid (HP7.out.below hb (by omega))
    have HR8 := Lib.hid (HR7.out.below hb (by omega))
    have hs8 := hb.size
    have HVA8 := Lib.hid (HVA7.out.below hb (by omega))
    have HOA8 := Lib.hid (HOA7.out.below hb (by omega))
    have HB8 := Lib.hid (HB7.out.trans (hb.mono (by omega)))
    have HXa8 := Lib.hid ((hb.block _ (lt_of_row HXa7.out)).trans HXa7.out)
    clear hb HVA7 HOA7 HB7 HXa7
    clear HP7 HR7
    have hS4 : w8.cell? ⟨w0.heap.size, 0, none⟩ = some (.slice ava 4 avc) ∧ w8.cell? ⟨w0.heap.size, 1, none⟩ = some (.slice aoa l.length aoc) := ⟨(pair_cells HXa8.out).1, (pair_cells HXa8.out).2⟩
    refine hK.out _ _ hS4 (fun hHeld5 => ?_)
    clear hK K
    (try simp only [Act.put, List.setIfInBounds_toArray, List.set_cons_zero, List.set_cons_succ])
    clear hHeld5
    have HS8 := Lib.hid hop.ops
    clear hop
    refine wpAnyH_ready (rs := [13]) (by kernel_rfl) (by simp) ?_
    refine AllReadyH.cons (o := { dst := some 80, op := .call { callee := .value (.func 30), args := #[.tmp 79], argTypes := #[27] }, type := 25, pos := "laws.go:791", after := #[⟨12, .data⟩, ⟨11, .chain⟩, ⟨9, .guard⟩], guard := some (9, true) }) rfl (fun K hK => ?_) AllReadyH.nil
    go_simp
    go_at_call 30
    refine (implHistory w8 w8.heap.size ava aoa 4 avc l.length aoc xs l (HVA8.out.more (by omega)) (HOA8.out.more (by omega)) (Nat.le_refl _) (by omega) HCv.out.1 HCa.out.1 ⟨by omega, HCa.out.2.1⟩ HCa.out.2.2 HIa.out).mono ?_
    rintro e w9 ⟨ta, tc, hre, hop, hb⟩
    rw [HH.out] at hre hop
    subst hre
    have HP9 := Lib.hid (HP8.out.below hb (by omega))
    have HR9 := Lib.hid (HR8.out.below hb (by omega))
    have HS9 := Lib.hid (HS8.out.below hb (by omega))
    have hs9 := hb.size
    have HVA9 := Lib.hid (HVA8.out.below hb (by omega))
    have HOA9 := Lib.hid (HOA8.out.below hb (by omega))
    have HB9 := Lib.hid (HB8.out.trans (hb.mono (by omega)))
    have HXa9 := Lib.hid ((hb.block _ (lt_of_row HXa8.out)).trans HXa8.out)
    clear hb HVA8 HOA8 HB8 HXa8
    clear HP8 HR8 HS8
    have hS6 : w9.cell? ⟨w0.heap.size, 0, none⟩ = some (.slice ava 4 avc) ∧ w9.cell? ⟨w0.heap.size, 1, none⟩ = some (.slice aoa l.length aoc) := ⟨(pair_cells HXa9.out).1, (pair_cells HXa9.out).2⟩
    refine hK.out _ _ hS6 (fun hHeld7 => ?_)
    clear hK K
    (try simp only [Act.put, List.setIfInBounds_toArray, List.set_cons_zero, List.set_cons_succ])
    clear hHeld7
    have HT9 := Lib.hid hop.ops
    clear hop
    refine wpAnyH_ready (rs := [14]) (by kernel_rfl) (by simp) ?_
    refine AllReadyH.cons (o := { dst := some 81, op := .call { callee := .value (.func 24), args := #[.tmp 78, .tmp 80], argTypes := #[25, 25] }, type := 4, pos := "laws.go:791", after := #[⟨11, .data⟩, ⟨13, .data⟩, ⟨13, .chain⟩, ⟨9, .guard⟩], guard := some (9, true) }) rfl (fun K hK => ?_) AllReadyH.nil
    go_simp
    go_at_call 24
    refine (sameOps w9 w9.heap.size w9.heap.size ra ta H.length rc H.length tc H H (HS9.out.more (by omega)) (HT9.out.more (by omega)) (Nat.le_refl _) (Nat.le_refl _) (by omega) (by omega)).mono ?_
    rintro e w10 ⟨rfl, hb⟩
    rw [decide_eq_true rfl]
    have HP10 := Lib.hid (HP9.out.below hb (by omega))
    have HR10 := Lib.hid (HR9.out.below hb (by omega))
    have HS10 := Lib.hid (HS9.out.below hb (by omega))
    have HT10 := Lib.hid (HT9.out.below hb (by omega))
    have hs10 := hb.size
    have HVA10 := Lib.hid (HVA9.out.below hb (by omega))
    have HOA10 := Lib.hid (HOA9.out.below hb (by omega))
    have HB10 := Lib.hid (HB9.out.trans (hb.mono (by omega)))
    have HXa10 := Lib.hid ((hb.block _ (lt_of_row HXa9.out)).trans HXa9.out)
    clear hb HVA9 HOA9 HB9 HXa9
    clear HP9 HR9 HS9 HT9
    have hS8 : w10.cell? ⟨w0.heap.size, 0, none⟩ = some (.slice ava 4 avc) ∧ w10.cell? ⟨w0.heap.size, 1, none⟩ = some (.slice aoa l.length aoc) := ⟨(pair_cells HXa10.out).1, (pair_cells HXa10.out).2⟩
    refine hK.out _ _ hS8 (fun hHeld9 => ?_)
    clear hK K
    (try simp only [Act.put, List.setIfInBounds_toArray, List.set_cons_zero, List.set_cons_succ])
    clear hHeld9
    refine wpAnyH_take (i := 15) (oi := { dst := some 82, op := .pick (.tmp 76) (.tmp 81) (.const (Value.bool false)), type := 4, pos := "laws.go:791", after := #[⟨9, .data⟩, ⟨14, .data⟩], guard := none }) (v := ?_) rfl (by kernel_rfl) (by kernel_rfl) (by kernel_rfl) (fun _ _ _ h => h) (Or.inl ⟨by rfl, ?_⟩) (by assumption) ?_
    rotate_left
    · intro w hSw
      (try dsimp only at hSw)
      first | (go_simp; done) | (go_simp; with_reducible rfl)
    (try simp only [Act.put, List.setIfInBounds_toArray, List.set_cons_zero, List.set_cons_succ])
    refine wpAnyH_take (i := 16) (oi := { dst := some 2, op := .assign (.tmp 82), type := 4, pos := "laws.go:791", after := #[⟨15, .data⟩, ⟨14, .chain⟩, ⟨0, .phase⟩, ⟨1, .phase⟩, ⟨2, .phase⟩, ⟨3, .phase⟩, ⟨4, .phase⟩, ⟨5, .phase⟩, ⟨6, .phase⟩, ⟨7, .phase⟩, ⟨8, .phase⟩, ⟨9, .phase⟩, ⟨10, .phase⟩, ⟨11, .phase⟩, ⟨12, .phase⟩, ⟨13, .phase⟩, ⟨14, .phase⟩, ⟨15, .phase⟩], guard := none }) (v := ?_) rfl (by kernel_rfl) (by kernel_rfl) (by kernel_rfl) (fun _ _ _ h => h) (Or.inl ⟨by rfl, ?_⟩) (by assumption) ?_
    rotate_left
    · intro w hSw
      (try dsimp only at hSw)
      first | (go_simp; done) | (go_simp; with_reducible rfl)
    (try simp only [Act.put, List.setIfInBounds_toArray, List.set_cons_zero, List.set_cons_succ])
    refine wpAnyH_done (by kernel_rfl) ?_ _
    go_wp2
    go_ret
    exact ⟨rfl, HB10.out⟩
  · skip
    go_simp
    go_at_call 34
    have hc := implPage z0 z0.heap.size ava aoa 4 avc l.length aoc xs l (F : Int) (K2 : Int) ((HVA4.out.below hbz (by omega)).more (by have := hbz.size; omega)) ((HOA4.out.below hbz (by omega)).more (by have := hbz.size; omega)) (Nat.le_refl _) (by omega) HCv.out.1 HCa.out.1 ⟨by omega, HCa.out.2.1⟩ HCa.out.2.2 HIa.out
    rw [HP1.out] at hc
    refine hc.mono ?_
    clear hc
    rintro e z6 ⟨pa1, pc1, rfl, hop, hbn⟩
    have hq6 := hop.ops
    clear hop
    have hb6 := hbz.trans (hbn.mono hbz.size)
    clear hbn
    refine hK.out _ _ ⟨(hb6.cell (p := ⟨w0.heap.size, 0, none⟩) (lt_of_row HXa4.out)).trans c0, (hb6.cell (p := ⟨w0.heap.size, 1, none⟩) (lt_of_row HXa4.out)).trans c1⟩ (fun hHeld6 => ?_)
    clear hK K
    (try simp only [Act.put, List.setIfInBounds_toArray, List.set_cons_zero, List.set_cons_succ])
    refine wpAnyH_ready (rs := [0]) (by kernel_rfl) (by simp) ?_
    refine AllReadyH.cons (o := { dst := some 52, op := .buildSlice 25 0 #[], type := 25, pos := "laws.go:790", after := #[], guard := none }) rfl (fun K hK => ?_) AllReadyH.nil
    have hb7 : Below w4.heap.size w4 (z6.alloc (.cells #[] 34)) := hb6.alloc hb6.size _
    have hR7 : (z6.alloc (.cells #[] 34)).ownsRow w4.heap.size 34 8 (.slice (some ⟨z6.heap.size, 0, none⟩) 0 0) 0 (opCells []) := World.ownsRow_made z6 #[] 0 hb6.size (by unfold maxLen; omega) rfl
    have hbq : Below z6.heap.size z6 (z6.alloc (.cells #[] 34)) := (Below.refl _ _).alloc (Nat.le_refl _) _
    have hq6b := hq6.below hbq (Nat.le_refl _)
    clear hbq
    go_simp
    refine hK.out _ _ ⟨(hb7.cell (p := ⟨w0.heap.size, 0, none⟩) (lt_of_row HXa4.out)).trans c0, (hb7.cell (p := ⟨w0.heap.size, 1, none⟩) (lt_of_row HXa4.out)).trans c1⟩ (fun hHeld7 => ?_)
    clear hK K
    (try simp only [Act.put, List.setIfInBounds_toArray, List.set_cons_zero, List.set_cons_succ])
    generalize z6.alloc (.cells #[] 34) = z7 at hHeld7 hb7 hR7 hq6b ⊢
    refine wpAnyH_ready (rs := [5]) (by kernel_rfl) (by simp) ?_
    obtain ⟨vA8, z8, hrun, hW, hgr⟩ := appOpsN z7 w4.heap.size _ 0 [] hR7 _ pa1 P1.length pc1 P1 hq6b (by omega) hb7.size
    rw [Nat.zero_add, List.nil_append] at hW
    obtain ⟨va1, vc1, rfl, _⟩ := row_formA hW
    have hb8 := hb7.grown hgr hb7.size (fun j hj => (hR7.lt j hj).1)
    refine AllReadyH.cons (o := { dst := some 57, op := .call { callee := .builtin .append, args := #[.tmp 52, .tmp 56], argTypes := #[25, 25] }, type := 25, pos := "laws.go:790", after := #[⟨0, .data⟩, ⟨4, .data⟩, ⟨4, .chain⟩], guard := none }) rfl (fun K hK => ?_) AllReadyH.nil
    rw [if_pos (by rfl)]
    refine opwpApp _ _ _ rfl _ _ rfl rfl hrun ?_
    have hR8 := hW
    refine hK.out _ _ ⟨(hb8.cell (p := ⟨w0.heap.size, 0, none⟩) (lt_of_row HXa4.out)).trans c0, (hb8.cell (p := ⟨w0.heap.size, 1, none⟩) (lt_of_row HXa4.out)).trans c1⟩ (fun hHeld8 => ?_)
    clear hK K hrun hW hgr
    (try simp only [Act.put, List.setIfInBounds_toArray, List.set_cons_zero, List.set_cons_succ])
    refine wpAnyH_ready (rs := [13]) (by kernel_rfl) (by simp) ?_
    refine AllReadyH.cons (o := { dst := some 65, op := .call { callee := .value (.func 34), args := #[.tmp 58, .tmp 61, .tmp 64], argTypes := #[27, 2, 2] }, type := 25, pos := "laws.go:790", after := #[⟨6, .data⟩, ⟨9, .data⟩, ⟨12, .data⟩, ⟨5, .chain⟩], guard := none }) rfl (fun K hK => ?_) AllReadyH.nil
    go_simp
    go_at_call 34
    have hc := implPage z8 z8.heap.size ava aoa 4 avc l.length aoc xs l ((F : Int) + (K2 : Int)) ((N : Int) - (K2 : Int)) ((HVA4.out.below hb8 (by omega)).more (by have := hb8.size; omega)) ((HOA4.out.below hb8 (by omega)).more (by have := hb8.size; omega)) (Nat.le_refl _) (by omega) HCv.out.1 HCa.out.1 ⟨by omega, HCa.out.2.1⟩ HCa.out.2.2 HIa.out
    rw [HP2.out] at hc
    refine hc.mono ?_
    clear hc
    rintro e z9 ⟨pa2, pc2, rfl, hop, hbn⟩
    have hq9 := hop.ops
    clear hop
    have hb9 := hb8.trans (hbn.mono hb8.size)
    have hbR : Below z8.heap.size z8 z9 := hbn
    have hRc := own_row_kept hR8 hbR
    clear hbn
    refine hK.out _ _ ⟨(hb9.cell (p := ⟨w0.heap.size, 0, none⟩) (lt_of_row HXa4.out)).trans c0, (hb9.cell (p := ⟨w0.heap.size, 1, none⟩) (lt_of_row HXa4.out)).trans c1⟩ (fun hHeld9 => ?_)
    clear hK K
    (try simp only [Act.put, List.setIfInBounds_toArray, List.set_cons_zero, List.set_cons_succ])
    refine wpAnyH_ready (rs := [14]) (by kernel_rfl) (by simp) ?_
    obtain ⟨vA10, z10, hrun, hW, hgr⟩ := appOpsN z9 w4.heap.size _ P1.length P1 hRc _ pa2 P2.length pc2 P2 hq9 (by omega) hb9.size
    rw [HPL.out, HJ.out] at hW
    obtain ⟨va2, vc2, rfl, _⟩ := row_formA hW
    have hb10 := hb9.grown hgr hb9.size (fun j hj => (hRc.lt j hj).1)
    refine AllReadyH.cons (o := { dst := some 66, op := .call { callee := .builtin .append, args := #[.tmp 57, .tmp 65], argTypes := #[25, 25] }, type := 25, pos := "laws.go:790", after := #[⟨5, .data⟩, ⟨13, .data⟩, ⟨13, .chain⟩], guard := none }) rfl (fun K hK => ?_) AllReadyH.nil
    rw [if_pos (by rfl)]
    refine opwpApp _ _ _ rfl _ _ rfl rfl hrun ?_
    have hR10 := hW
    refine hK.out _ _ ⟨(hb10.cell (p := ⟨w0.heap.size, 0, none⟩) (lt_of_row HXa4.out)).trans c0, (hb10.cell (p := ⟨w0.heap.size, 1, none⟩) (lt_of_row HXa4.out)).trans c1⟩ (fun hHeld10 => ?_)
    clear hK K hrun hW hgr
    (try simp only [Act.put, List.setIfInBounds_toArray, List.set_cons_zero, List.set_cons_succ])
    refine wpAnyH_take (i := 15) (oi := { dst := some 8, op := .assign (.tmp 66), type := 25, pos := "laws.go:790", after := #[⟨14, .data⟩, ⟨14, .chain⟩, ⟨0, .phase⟩, ⟨1, .phase⟩, ⟨2, .phase⟩, ⟨3, .phase⟩, ⟨4, .phase⟩, ⟨5, .phase⟩, ⟨6, .phase⟩, ⟨7, .phase⟩, ⟨8, .phase⟩, ⟨9, .phase⟩, ⟨10, .phase⟩, ⟨11, .phase⟩, ⟨12, .phase⟩, ⟨13, .phase⟩, ⟨14, .phase⟩], guard := none }) (v := ?_) rfl (by kernel_rfl) (by kernel_rfl) (by kernel_rfl) (fun _ _ _ h => h) (Or.inl ⟨by rfl, ?_⟩) (by assumption) ?_
    rotate_left
    · intro w hSw
      (try dsimp only at hSw)
      first | (go_simp; done) | (go_simp; with_reducible rfl)
    (try simp only [Act.put, List.setIfInBounds_toArray, List.set_cons_zero, List.set_cons_succ])
    refine wpAnyH_done (by kernel_rfl) ?_ _
    have HRo : Hid (Ops z10 z10.heap.size va2 pg.length pg) := (own_of_cells hR10 (Nat.le_refl _)).ops
    have hb := hb10
    obtain ⟨w5, hwe⟩ : ∃ z, z = z10 := ⟨_, rfl⟩
    subst hwe
    have HP5 := Lib.hid (HP4.out.below hb (by omega))
    have hs5 := hb.size
    have HVA5 := Lib.hid (HVA4.out.below hb (by omega))
    have HOA5 := Lib.hid (HOA4.out.below hb (by omega))
    have HB5 := Lib.hid (HB4.out.trans (hb.mono (by omega)))
    have HXa5 := Lib.hid ((hb.block _ (lt_of_row HXa4.out)).trans HXa4.out)
    clear hb HVA4 HOA4 HB4 HXa4
    clear HP4
    have HR5 := HRo
    clear HRo
    clear c0 c1
    go_wp2_with fail
    obtain ⟨w6, hzw⟩ : ∃ z, w5.drew = z := ⟨_, rfl⟩
    have hb : Below w5.heap.size w5 w6 := by rw [← hzw]; exact ⟨rfl, rfl, rfl, Nat.le_refl _, fun _ _ => rfl⟩
    have HP6 := Lib.hid (HP5.out.below hb (by omega))
    have HR6 := Lib.hid (HR5.out.below hb (by omega))
    have hs6 := hb.size
    have HVA6 := Lib.hid (HVA5.out.below hb (by omega))
    have HOA6 := Lib.hid (HOA5.out.below hb (by omega))
    have HB6 := Lib.hid (HB5.out.trans (hb.mono (by omega)))
    have HXa6 := Lib.hid ((hb.block _ (lt_of_row HXa5.out)).trans HXa5.out)
    clear hb HVA5 HOA5 HB5 HXa5
    clear HP5 HR5
    have hS : w6.cell? ⟨w0.heap.size, 0, none⟩ = some (.slice ava 4 avc) ∧ w6.cell? ⟨w0.heap.size, 1, none⟩ = some (.slice aoa l.length aoc) := ⟨(pair_cells HXa6.out).1, (pair_cells HXa6.out).2⟩
    refine wp_region_held_drew (S := fun w' => w'.cell? ⟨w0.heap.size, 0, none⟩ = some (.slice ava 4 avc) ∧ w'.cell? ⟨w0.heap.size, 1, none⟩ = some (.slice aoa l.length aoc)) (by kernel_rfl) (by rw [hzw]; exact hS) (fun hHeld => ?_)
    rw [hzw]
    clear hHeld hzw
    refine wpAnyH_take (i := 0) (oi := { dst := some 67, op := .move (.tmp 8), type := 25, pos := "laws.go:791", after := #[], guard := none }) (v := ?_) rfl (by kernel_rfl) (by kernel_rfl) (by kernel_rfl) (fun _ _ _ h => h) (Or.inl ⟨by rfl, ?_⟩) (by assumption) ?_
    rotate_left
    · intro w hSw
      (try dsimp only at hSw)
      first | (go_simp; done) | (go_simp; with_reducible rfl)
    (try simp only [Act.put, List.setIfInBounds_toArray, List.set_cons_zero, List.set_cons_succ])
    refine wpAnyH_take (i := 1) (oi := { dst := some 68, op := .move (.tmp 6), type := 25, pos := "laws.go:791", after := #[], guard := none }) (v := ?_) rfl (by kernel_rfl) (by kernel_rfl) (by kernel_rfl) (fun _ _ _ h => h) (Or.inl ⟨by rfl, ?_⟩) (by assumption) ?_
    rotate_left
    · intro w hSw
      (try dsimp only at hSw)
      first | (go_simp; done) | (go_simp; with_reducible rfl)
    (try simp only [Act.put, List.setIfInBounds_toArray, List.set_cons_zero, List.set_cons_succ])
    refine wpAnyH_ready (rs := [2]) (by kernel_rfl) (by simp) ?_
    refine AllReadyH.cons (o := { dst := some 69, op := .call { callee := .value (.func 24), args := #[.tmp 67, .tmp 68], argTypes := #[25, 25] }, type := 4, pos := "laws.go:791", after := #[⟨0, .data⟩, ⟨1, .data⟩], guard := none }) rfl (fun K hK => ?_) AllReadyH.nil
    go_simp
    go_at_call 24
    refine (sameOps w6 w6.heap.size w6.heap.size va2 pa pg.length vc2 pg.length pc pg pg (HR6.out.more (by omega)) (HP6.out.more (by omega)) (Nat.le_refl _) (Nat.le_refl _) (by omega) (by omega)).mono ?_
    rintro e w7 ⟨rfl, hb⟩
    rw [decide_eq_true rfl]
    have HP7 := Lib.hid (HP6.out.below hb (by omega))
    have HR7 := Lib.hid (HR6.out.below hb (by omega))
    have hs7 := hb.size
    have HVA7 := Lib.hid (HVA6.out.below hb (by omega))
    have HOA7 := Lib.hid (HOA6.out.below hb (by omega))
    have HB7 := Lib.hid (HB6.out.trans (hb.mono (by omega)))
    have HXa7 := Lib.hid ((hb.block _ (lt_of_row HXa6.out)).trans HXa6.out)
    clear hb HVA6 HOA6 HB6 HXa6
    clear HP6 HR6
    have hS2 : w7.cell? ⟨w0.heap.size, 0, none⟩ = some (.slice ava 4 avc) ∧ w7.cell? ⟨w0.heap.size, 1, none⟩ = some (.slice aoa l.length aoc) := ⟨(pair_cells HXa7.out).1, (pair_cells HXa7.out).2⟩
    refine hK.out _ _ hS2 (fun hHeld3 => ?_)
    clear hK K
    (try simp only [Act.put, List.setIfInBounds_toArray, List.set_cons_zero, List.set_cons_succ])
    clear hHeld3
    refine wpAnyH_take (i := 3) (oi := { dst := some 70, op := .move (.tmp 69), type := 4, pos := "laws.go:791", after := #[⟨2, .data⟩, ⟨2, .chain⟩], guard := none }) (v := ?_) rfl (by kernel_rfl) (by kernel_rfl) (by kernel_rfl) (fun _ _ _ h => h) (Or.inl ⟨by rfl, ?_⟩) (by assumption) ?_
    rotate_left
    · intro w hSw
      (try dsimp only at hSw)
      first | (go_simp; done) | (go_simp; with_reducible rfl)
    (try simp only [Act.put, List.setIfInBounds_toArray, List.set_cons_zero, List.set_cons_succ])
    refine wpAnyH_take (i := 4) (oi := { dst := some 71, op := .move (.tmp 6), type := 25, pos := "laws.go:791", after := #[⟨3, .guard⟩], guard := some (3, true) }) (v := ?_) rfl (by kernel_rfl) (by kernel_rfl) (by kernel_rfl) (fun _ _ _ h => h) (Or.inl ⟨by rfl, ?_⟩) (by assumption) ?_
    rotate_left
    · intro w hSw
      (try dsimp only at hSw)
      first | (go_simp; done) | (go_simp; with_reducible rfl)
    (try simp only [Act.put, List.setIfInBounds_toArray, List.set_cons_zero, List.set_cons_succ])
    refine wpAnyH_take (i := 5) (oi := { dst := some 72, op := .call { callee := .builtin .len, args := #[.tmp 71], argTypes := #[25] }, type := 3, pos := "laws.go:791", after := #[⟨4, .data⟩, ⟨3, .guard⟩], guard := some (3, true) }) (v := ?_) rfl (by kernel_rfl) (by kernel_rfl) (by kernel_rfl) (fun _ _ _ h => h) (Or.inl ⟨by rfl, ?_⟩) (by assumption) ?_
    rotate_left
    · intro w hSw
      (try dsimp only at hSw)
      first | (go_simp; done) | (go_simp; with_reducible rfl)
    (try simp only [Act.put, List.setIfInBounds_toArray, List.set_cons_zero, List.set_cons_succ])
    refine wpAnyH_take (i := 6) (oi := { dst := some 73, op := .move (.tmp 5), type := 2, pos := "laws.go:791", after := #[⟨3, .guard⟩], guard := some (3, true) }) (v := ?_) rfl (by kernel_rfl) (by kernel_rfl) (by kernel_rfl) (fun _ _ _ h => h) (Or.inl ⟨by rfl, ?_⟩) (by assumption) ?_
    rotate_left
    · intro w hSw
      (try dsimp only at hSw)
      first | (go_simp; done) | (go_simp; with_reducible rfl)
    (try simp only [Act.put, List.setIfInBounds_toArray, List.set_cons_zero, List.set_cons_succ])
    refine wpAnyH_take (i := 7) (oi := { dst := some 74, op := .binOp .leq 2 (.tmp 72) (.tmp 73) 2, type := 4, pos := "laws.go:791", after := #[⟨5, .data⟩, ⟨6, .data⟩, ⟨3, .guard⟩], guard := some (3, true) }) (v := ?_) rfl (by kernel_rfl) (by kernel_rfl) (by kernel_rfl) (fun _ _ _ h => h) (Or.inl ⟨by rfl, ?_⟩) (by assumption) ?_
    rotate_left
    · intro w hSw
      (try dsimp only at hSw)
      first | (go_simp; done) | (go_simp; with_reducible rfl)
    (try simp only [Act.put, List.setIfInBounds_toArray, List.set_cons_zero, List.set_cons_succ])
    refine wpAnyH_take (i := 8) (oi := { dst := some 75, op := .pick (.tmp 70) (.tmp 74) (.const (Value.bool false)), type := 4, pos := "laws.go:791", after := #[⟨3, .data⟩, ⟨7, .data⟩], guard := none }) (v := ?_) rfl (by kernel_rfl) (by kernel_rfl) (by kernel_rfl) (fun _ _ _ h => h) (Or.inl ⟨by rfl, ?_⟩) (by assumption) ?_
    rotate_left
    · intro w hSw
      (try dsimp only at hSw)
      first | (go_simp; done) | (go_simp; with_reducible rfl)
    (try simp only [Act.put, List.setIfInBounds_toArray, List.set_cons_zero, List.set_cons_succ])
    refine wpAnyH_take (i := 9) (oi := { dst := some 76, op := .move (.tmp 75), type := 4, pos := "laws.go:791", after := #[⟨8, .data⟩, ⟨3, .chain⟩], guard := none }) (v := ?_) rfl (by kernel_rfl) (by kernel_rfl) (by kernel_rfl) (fun _ _ _ h => h) (Or.inl ⟨by rfl, ?_⟩) (by assumption) ?_
    rotate_left
    · intro w hSw
      (try dsimp only at hSw)
      first | (go_simp; done) | (go_simp; with_reducible rfl)
    (try simp only [Act.put, List.setIfInBounds_toArray, List.set_cons_zero, List.set_cons_succ])
    refine wpAnyH_take (i := 10) (oi := { dst := some 77, op := .load 27 (.tmp 3), type := 27, pos := "laws.go:791", after := #[⟨9, .guard⟩], guard := some (9, true) }) (v := ?_) rfl (by kernel_rfl) (by kernel_rfl) (by kernel_rfl) (fun _ _ _ h => h) (Or.inl ⟨by rfl, ?_⟩) (by assumption) ?_
    rotate_left
    · intro w hSw
      (try dsimp only at hSw)
      first | (go_simp; done) | (go_simp; with_reducible rfl)
    (try simp only [Act.put, List.setIfInBounds_toArray, List.set_cons_zero, List.set_cons_succ])
    refine wpAnyH_take (i := 12) (oi := { dst := some 79, op := .load 27 (.tmp 3), type := 27, pos := "laws.go:791", after := #[⟨9, .guard⟩], guard := some (9, true) }) (v := ?_) rfl (by kernel_rfl) (by kernel_rfl) (by kernel_rfl) (fun _ _ _ h => h) (Or.inl ⟨by rfl, ?_⟩) (by assumption) ?_
    rotate_left
    · intro w hSw
      (try dsimp only at hSw)
      first | (go_simp; done) | (go_simp; with_reducible rfl)
    (try simp only [Act.put, List.setIfInBounds_toArray, List.set_cons_zero, List.set_cons_succ])
    refine wpAnyH_ready (rs := [11]) (by kernel_rfl) (by simp) ?_
    refine AllReadyH.cons (o := { dst := some 78, op := .call { callee := .value (.func 34), args := #[.tmp 77, .const (Value.int IntKind.i64 0), .const (Value.int IntKind.i64 1000)], argTypes := #[27, 2, 2] }, type := 25, pos := "laws.go:791", after := #[⟨10, .data⟩, ⟨9, .chain⟩, ⟨9, .guard⟩], guard := some (9, true) }) rfl (fun K hK => ?_) AllReadyH.nil
    go_simp
    go_at_call 34
    refine (implPage w7 w7.heap.size ava aoa 4 avc l.length aoc xs l 0 1000 (HVA7.out.more (by omega)) (HOA7.out.more (by omega)) (Nat.le_refl _) (by omega) HCv.out.1 HCa.out.1 ⟨by omega, HCa.out.2.1⟩ HCa.out.2.2 HIa.out).mono ?_
    rintro e w8 ⟨ra, rc, hre, hop, hb⟩
    rw [HAll.out] at hre hop
    subst hre
    have HP8 := Lib.hid (HP7.out.below hb (by omega))
    have HR8 := Lib.hid (HR7.out.below hb (by omega))
    have hs8 := hb.size
    have HVA8 := Lib.hid (HVA7.out.below hb (by omega))
    have HOA8 := Lib.hid (HOA7.out.below hb (by omega))
    have HB8 := Lib.hid (HB7.out.trans (hb.mono (by omega)))
    have HXa8 := Lib.hid ((hb.block _ (lt_of_row HXa7.out)).trans HXa7.out)
    clear hb HVA7 HOA7 HB7 HXa7
    clear HP7 HR7
    have hS4 : w8.cell? ⟨w0.heap.size, 0, none⟩ = some (.slice ava 4 avc) ∧ w8.cell? ⟨w0.heap.size, 1, none⟩ = some (.slice aoa l.length aoc) := ⟨(pair_cells HXa8.out).1, (pair_cells HXa8.out).2⟩
    refine hK.out _ _ hS4 (fun hHeld5 => ?_)
    clear hK K
    (try simp only [Act.put, List.setIfInBounds_toArray, List.set_cons_zero, List.set_cons_succ])
    clear hHeld5
    have HS8 := Lib.hid hop.ops
    clear hop
    refine wpAnyH_ready (rs := [13]) (by kernel_rfl) (by simp) ?_
    refine AllReadyH.cons (o := { dst := some 80, op := .call { callee := .value (.func 30), args := #[.tmp 79], argTypes := #[27] }, type := 25, pos := "laws.go:791", after := #[⟨12, .data⟩, ⟨11, .chain⟩, ⟨9, .guard⟩], guard := some (9, true) }) rfl (fun K hK => ?_) AllReadyH.nil
    go_simp
    go_at_call 30
    refine (implHistory w8 w8.heap.size ava aoa 4 avc l.length aoc xs l (HVA8.out.more (by omega)) (HOA8.out.more (by omega)) (Nat.le_refl _) (by omega) HCv.out.1 HCa.out.1 ⟨by omega, HCa.out.2.1⟩ HCa.out.2.2 HIa.out).mono ?_
    rintro e w9 ⟨ta, tc, hre, hop, hb⟩
    rw [HH.out] at hre hop
    subst hre
    have HP9 := Lib.hid (HP8.out.below hb (by omega))
    have HR9 := Lib.hid (HR8.out.below hb (by omega))
    have HS9 := Lib.hid (HS8.out.below hb (by omega))
    have hs9 := hb.size
    have HVA9 := Lib.hid (HVA8.out.below hb (by omega))
    have HOA9 := Lib.hid (HOA8.out.below hb (by omega))
    have HB9 := Lib.hid (HB8.out.trans (hb.mono (by omega)))
    have HXa9 := Lib.hid ((hb.block _ (lt_of_row HXa8.out)).trans HXa8.out)
    clear hb HVA8 HOA8 HB8 HXa8
    clear HP8 HR8 HS8
    have hS6 : w9.cell? ⟨w0.heap.size, 0, none⟩ = some (.slice ava 4 avc) ∧ w9.cell? ⟨w0.heap.size, 1, none⟩ = some (.slice aoa l.length aoc) := ⟨(pair_cells HXa9.out).1, (pair_cells HXa9.out).2⟩
    refine hK.out _ _ hS6 (fun hHeld7 => ?_)
    clear hK K
    (try simp only [Act.put, List.setIfInBounds_toArray, List.set_cons_zero, List.set_cons_succ])
    clear hHeld7
    have HT9 := Lib.hid hop.ops
    clear hop
    refine wpAnyH_ready (rs := [14]) (by kernel_rfl) (by simp) ?_
    refine AllReadyH.cons (o := { dst := some 81, op := .call { callee := .value (.func 24), args := #[.tmp 78, .tmp 80], argTypes := #[25, 25] }, type := 4, pos := "laws.go:791", after := #[⟨11, .data⟩, ⟨13, .data⟩, ⟨13, .chain⟩, ⟨9, .guard⟩], guard := some (9, true) }) rfl (fun K hK => ?_) AllReadyH.nil
    go_simp
    go_at_call 24
    refine (sameOps w9 w9.heap.size w9.heap.size ra ta H.length rc H.length tc H H (HS9.out.more (by omega)) (HT9.out.more (by omega)) (Nat.le_refl _) (Nat.le_refl _) (by omega) (by omega)).mono ?_
    rintro e w10 ⟨rfl, hb⟩
    rw [decide_eq_true rfl]
    have HP10 := Lib.hid (HP9.out.below hb (by omega))
    have HR10 := Lib.hid (HR9.out.below hb (by omega))
    have HS10 := Lib.hid (HS9.out.below hb (by omega))
    have HT10 := Lib.hid (HT9.out.below hb (by omega))
    have hs10 := hb.size
    have HVA10 := Lib.hid (HVA9.out.below hb (by omega))
    have HOA10 := Lib.hid (HOA9.out.below hb (by omega))
    have HB10 := Lib.hid (HB9.out.trans (hb.mono (by omega)))
    have HXa10 := Lib.hid ((hb.block _ (lt_of_row HXa9.out)).trans HXa9.out)
    clear hb HVA9 HOA9 HB9 HXa9
    clear HP9 HR9 HS9 HT9
    have hS8 : w10.cell? ⟨w0.heap.size, 0, none⟩ = some (.slice ava 4 avc) ∧ w10.cell? ⟨w0.heap.size, 1, none⟩ = some (.slice aoa l.length aoc) := ⟨(pair_cells HXa10.out).1, (pair_cells HXa10.out).2⟩
    refine hK.out _ _ hS8 (fun hHeld9 => ?_)
    clear hK K
    (try simp only [Act.put, List.setIfInBounds_toArray, List.set_cons_zero, List.set_cons_succ])
    clear hHeld9
    refine wpAnyH_take (i := 15) (oi := { dst := some 82, op := .pick (.tmp 76) (.tmp 81) (.const (Value.bool false)), type := 4, pos := "laws.go:791", after := #[⟨9, .data⟩, ⟨14, .data⟩], guard := none }) (v := ?_) rfl (by kernel_rfl) (by kernel_rfl) (by kernel_rfl) (fun _ _ _ h => h) (Or.inl ⟨by rfl, ?_⟩) (by assumption) ?_
    rotate_left
    · intro w hSw
      (try dsimp only at hSw)
      first | (go_simp; done) | (go_simp; with_reducible rfl)
    (try simp only [Act.put, List.setIfInBounds_toArray, List.set_cons_zero, List.set_cons_succ])
    refine wpAnyH_take (i := 16) (oi := { dst := some 2, op := .assign (.tmp 82), type := 4, pos := "laws.go:791", after := #[⟨15, .data⟩, ⟨14, .chain⟩, ⟨0, .phase⟩, ⟨1, .phase⟩, ⟨2, .phase⟩, ⟨3, .phase⟩, ⟨4, .phase⟩, ⟨5, .phase⟩, ⟨6, .phase⟩, ⟨7, .phase⟩, ⟨8, .phase⟩, ⟨9, .phase⟩, ⟨10, .phase⟩, ⟨11, .phase⟩, ⟨12, .phase⟩, ⟨13, .phase⟩, ⟨14, .phase⟩, ⟨15, .phase⟩], guard := none }) (v := ?_) rfl (by kernel_rfl) (by kernel_rfl) (by kernel_rfl) (fun _ _ _ h => h) (Or.inl ⟨by rfl, ?_⟩) (by assumption) ?_
    rotate_left
    · intro w hSw
      (try dsimp only at hSw)
      first | (go_simp; done) | (go_simp; with_reducible rfl)
    (try simp only [Act.put, List.setIfInBounds_toArray, List.set_cons_zero, List.set_cons_succ])
    refine wpAnyH_done (by kernel_rfl) ?_ _
    go_wp2
    go_ret
    exact ⟨rfl, HB10.out⟩
end Go.Proofs.Ytmceofdknphgkaa
