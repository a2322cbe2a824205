/- The walk of the law FnExactToggled. -/
import Derived.Test.YtcebolkooohjhaaTogI
import Derived.Test.YtcebolkooohjhaaOwnB
import Derived.Test.YtcebolkooohjhaaCartOkLawW
import Derived.Deep.Cut
import Derived.Deep.RegionHeld3
namespace Go.Proofs.Ytcebolkooohjhaa
open Go.RowKit

theorem Own.beside {w w' : World} {lo hi lo' hi' : Nat} {a : Option Addr} {n : Nat} {xs : List Int} (h : Own w lo hi a n xs) (hb : Beside lo' hi' w w') (hd : hi ≤ lo' ∨ hi' ≤ lo) (hw : hi ≤ w.heap.size) : Own w' lo hi a n xs :=
  h.kept fun j h1 h2 => hb.block j (by omega) (by omega)
set_option linter.unusedSimpArgs false in
set_option maxRecDepth 100000 in
set_option maxHeartbeats 16000000 in
theorem fnExactToggledWalk (av ao : Option Addr) (nv cv no co : Nat) (xs : List Int) (l : List OpV) (bv bo : Option Addr) (mv dv mo eo : Nat) (ys : List Int) (m : List OpV) (w : World) (hx : Ints w w.heap.size av nv xs) (h : Ops w w.heap.size ao no l) (hv : nv ≤ maxLen) (hn : no ≤ maxLen) (hm : ∀ i, i < no → (l.getD i OpV.zero).item.size ≤ maxLen) (hy : Ints w w.heap.size bv mv ys) (g : Ops w w.heap.size bo mo m) (hv2 : mv ≤ maxLen) (hn2 : mo ≤ maxLen) (hm2 : ∀ i, i < mo → (m.getD i OpV.zero).item.size ≤ maxLen) : Calls Try.prog 7 #[.agg #[.slice av nv cv, .slice ao no co], .agg #[.slice bv mv dv, .slice bo mo eo]] w fun e w' => e = .returned (.bool true) ∧ Below w.heap.size w w' := by
  have hT := Two.mk0 w #[.slice av nv cv, .slice ao no co] #[.slice bv mv dv, .slice bo mo eo] 25
  have HV0 := Lib.hid (hx.below hT.bel (Nat.le_refl _))
  have HO0 := Lib.hid (h.below hT.bel (Nat.le_refl _))
  have HP0 := Lib.hid (hy.below hT.bel (Nat.le_refl _))
  have HQ0 := Lib.hid (g.below hT.bel (Nat.le_refl _))
  have HX0 := Lib.hid hT.fst
  have HR0 := Lib.hid hT.snd
  have HB0 := Lib.hid hT.bel
  have HLx := Lib.hid hx.1
  have HLo := Lib.hid h.1
  have HLy := Lib.hid hy.1
  have HLm := Lib.hid g.1
  have HM := Lib.hid hm
  have HM2 := Lib.hid hm2
  clear hx h hT hm hy g hm2
  go_enter Try.func7, Try.ntmps7
  go_wp2_with fail
  generalize (w.alloc (.cells #[.slice av nv cv, .slice ao no co] 25)).alloc (.cells #[.slice bv mv dv, .slice bo mo eo] 25) = w0 at HV0 HO0 HP0 HQ0 HX0 HR0 HB0 ⊢
  have hs0 : w.heap.size + 2 ≤ w0.heap.size := by have := (Array.getElem?_eq_some_iff.1 HR0.out).1; omega
  refine (szCart w0 w.heap.size av ao nv cv no co l HO0.out (by omega) hv hn HM.out 1048576 (Nat.le_refl _)).mono ?_
  rintro e w1 ⟨rfl, hb⟩
  have hs1 := hb.size
  have HX1 := Lib.hid ((hb.block _ (Array.getElem?_eq_some_iff.1 HX0.out).1).trans HX0.out)
  have HR1 := Lib.hid ((hb.block _ (Array.getElem?_eq_some_iff.1 HR0.out).1).trans HR0.out)
  have HV1 := Lib.hid (HV0.out.below hb (by omega))
  have HO1 := Lib.hid (HO0.out.below hb (by omega))
  have HP1 := Lib.hid (HP0.out.below hb (by omega))
  have HQ1 := Lib.hid (HQ0.out.below hb (by omega))
  have HB1 := Lib.hid (HB0.out.trans (hb.mono (by omega)))
  clear hb HX0 HR0 HV0 HO0 HP0 HQ0 HB0
  by_cases hbig : nv + opsTotal l ≤ 1048576
  rotate_left
  · rw [if_neg hbig]
    go_wp2
    go_ret
    exact ⟨rfl, HB1.out⟩
  rw [if_pos hbig]
  obtain ⟨hlo, hit⟩ := total_item (l := l) (t := 1048576) (by omega)
  have HIt := Lib.hid hit
  have hno : no ≤ 1048576 := by rw [← HLo.out]; exact hlo
  have hnv : nv ≤ 1048576 := by omega
  have hd : decide (((1048576 - (nv + opsTotal l) : Nat) : Int) < 0) = false := decide_eq_false (by omega)
  have hlf : 1048576 - (nv + opsTotal l) ≤ 1048576 := by omega
  have HTot : Hid (nv + 8 * no ≤ 8388608) := by show _ ≤ _; have : opsTotal l ≥ l.length := by unfold opsTotal; omega
                                                have := HLo.out
                                                omega
  clear hit hbig
  have hxl : xs.length ≤ 1048576 := by rw [HLx.out]; exact hnv
  generalize 1048576 - (nv + opsTotal l) = lf at hd hlf ⊢
  obtain ⟨r0, r1⟩ := pair_cells HR1.out
  go_wp2_with fail
  refine (szCart w1 w.heap.size bv bo mv dv mo eo m HQ1.out (by omega) hv2 hn2 HM2.out lf hlf).mono ?_
  rintro e w2 ⟨rfl, hb⟩
  clear r0 r1
  have hs2 := hb.size
  have HX2 := Lib.hid ((hb.block _ (Array.getElem?_eq_some_iff.1 HX1.out).1).trans HX1.out)
  have HR2 := Lib.hid ((hb.block _ (Array.getElem?_eq_some_iff.1 HR1.out).1).trans HR1.out)
  have HV2 := Lib.hid (HV1.out.below hb (by omega))
  have HO2 := Lib.hid (HO1.out.below hb (by omega))
  have HP2 := Lib.hid (HP1.out.below hb (by omega))
  have HQ2 := Lib.hid (HQ1.out.below hb (by omega))
  have HB2 := Lib.hid (HB1.out.trans (hb.mono (by omega)))
  clear hb HX1 HR1 HV1 HO1 HP1 HQ1 HB1
  by_cases hbig : mv + opsTotal m ≤ lf
  rotate_left
  · rw [if_neg hbig]
    go_wp2
    go_ret
    exact ⟨rfl, HB2.out⟩
  rw [if_pos hbig]
  obtain ⟨hlm, hit2⟩ := total_item (l := m) (t := 1048576) (by omega)
  have HIt2 := Lib.hid hit2
  have hmo : mo ≤ 1048576 := by rw [← HLm.out]; exact hlm
  have hmv : mv ≤ 1048576 := by omega
  have hd2 : decide (((lf - (mv + opsTotal m) : Nat) : Int) < 0) = false := decide_eq_false (by omega)
  clear hit2 hbig
  have hyl : ys.length ≤ 1048576 := by rw [HLy.out]; exact hmv
  generalize lf - (mv + opsTotal m) = lf2 at hd2 ⊢
  obtain ⟨Ls, hLs⟩ : ∃ L, togL xs l ys m = L := ⟨_, rfl⟩
  have HLs := Lib.hid hLs
  have hLn : Ls.length ≤ 1048576 := by rw [← hLs]; exact Nat.le_trans (tog_len xs l ys m) hlm
  clear hLs
  have hS : w2.drew.cell? ⟨w.heap.size, 0, none⟩ = some (.slice av nv cv) ∧ w2.drew.cell? ⟨w.heap.size, 1, none⟩ = some (.slice ao no co) ∧ w2.drew.cell? ⟨w.heap.size + 1, 0, none⟩ = some (.slice bv mv dv) ∧ w2.drew.cell? ⟨w.heap.size + 1, 1, none⟩ = some (.slice bo mo eo) := ⟨(pair_cells HX2.out).1, (pair_cells HX2.out).2, (pair_cells HR2.out).1, (pair_cells HR2.out).2⟩
  go_wp2_with fail
  refine wp_region_held_drew (S := fun w' => w'.cell? ⟨w.heap.size, 0, none⟩ = some (.slice av nv cv) ∧ w'.cell? ⟨w.heap.size, 1, none⟩ = some (.slice ao no co) ∧ w'.cell? ⟨w.heap.size + 1, 0, none⟩ = some (.slice bv mv dv) ∧ w'.cell? ⟨w.heap.size + 1, 1, none⟩ = some (.slice bo mo eo)) (by kernel_rfl) hS (fun hHeld => ?_)
  refine wpAnyH_take (i := 0) (oi := { dst := some 24, op := Op.load 25 (Operand.tmp 2), type := 25, pos := "exact.go:2898", after := #[], guard := none }) (v := ?_) rfl (by kernel_rfl) (by kernel_rfl) (by kernel_rfl) (fun _ _ _ h => h) (Or.inl ⟨by rfl, ?_⟩) (by assumption) ?_
  rotate_left
  · intro w hSw
    (try dsimp only at hSw)
    first | (go_simp; done) | (go_simp; with_reducible rfl)
  (try simp only [Act.put, List.setIfInBounds_toArray, List.set_cons_zero, List.set_cons_succ])
  refine wpAnyH_take (i := 2) (oi := { dst := some 26, op := Op.load 25 (Operand.tmp 3), type := 25, pos := "exact.go:2898", after := #[], guard := none }) (v := ?_) rfl (by kernel_rfl) (by kernel_rfl) (by kernel_rfl) (fun _ _ _ h => h) (Or.inl ⟨by rfl, ?_⟩) (by assumption) ?_
  rotate_left
  · intro w hSw
    (try dsimp only at hSw)
    first | (go_simp; done) | (go_simp; with_reducible rfl)
  (try simp only [Act.put, List.setIfInBounds_toArray, List.set_cons_zero, List.set_cons_succ])
  refine wpAnyH_ready (rs := [1]) (by kernel_rfl) (by simp) ?_
  refine AllReadyH.cons (o := { dst := some 25, op := Op.call { callee := Callee.value (Operand.func 10), args := #[Operand.tmp 24], argTypes := #[25] }, type := 30, pos := "exact.go:2898", after := #[{ on := 0, ground := Ground.data }], guard := none }) rfl (fun K hK => ?_) AllReadyH.nil
  go_simp
  go_at_call 10
  refine (toCart w2.drew w.heap.size av ao nv cv no co xs l (HV2.out.kept (w' := w2.drew) fun _ _ => rfl) (HO2.out.kept (w' := w2.drew) fun _ _ => rfl) (by show _ ≤ w2.heap.size; omega) hnv hno).mono ?_
  rintro e z1 ⟨va, oa, rfl, hi, ho, hbz⟩
  have hz1 : Below w2.heap.size w2 z1 := Below.mk hbz.os hbz.tape hbz.output hbz.size hbz.block
  have hS1 : z1.cell? ⟨w.heap.size, 0, none⟩ = some (.slice av nv cv) ∧ z1.cell? ⟨w.heap.size, 1, none⟩ = some (.slice ao no co) ∧ z1.cell? ⟨w.heap.size + 1, 0, none⟩ = some (.slice bv mv dv) ∧ z1.cell? ⟨w.heap.size + 1, 1, none⟩ = some (.slice bo mo eo) := ⟨(hbz.cell (block_lt_of_cell hS.1)).trans hS.1, (hbz.cell (block_lt_of_cell hS.2.1)).trans hS.2.1, (hbz.cell (block_lt_of_cell hS.2.2.1)).trans hS.2.2.1, (hbz.cell (block_lt_of_cell hS.2.2.2)).trans hS.2.2.2⟩
  refine hK.out _ _ hS1 (fun hHeld2 => ?_)
  clear hK K
  (try simp only [Act.put, List.setIfInBounds_toArray, List.set_cons_zero, List.set_cons_succ])
  refine wpAnyH_ready (rs := [3]) (by kernel_rfl) (by simp) ?_
  refine AllReadyH.cons (o := { dst := some 27, op := Op.call { callee := Callee.value (Operand.func 10), args := #[Operand.tmp 26], argTypes := #[25] }, type := 30, pos := "exact.go:2898", after := #[{ on := 2, ground := Ground.data }, { on := 1, ground := Ground.chain }], guard := none }) rfl (fun K hK => ?_) AllReadyH.nil
  go_simp
  go_at_call 10
  refine (toCart z1 w.heap.size bv bo mv dv mo eo ys m (HP2.out.below hz1 (by omega)) (HQ2.out.below hz1 (by omega)) (by have := hz1.size; omega) hmv hmo).mono ?_
  rintro e z2 ⟨vb, ob, rfl, hi2, ho2, hby⟩
  have hz2 : Below w2.heap.size w2 z2 := hz1.trans (hby.mono hz1.size)
  have hS2 : z2.cell? ⟨w.heap.size, 0, none⟩ = some (.slice av nv cv) ∧ z2.cell? ⟨w.heap.size, 1, none⟩ = some (.slice ao no co) ∧ z2.cell? ⟨w.heap.size + 1, 0, none⟩ = some (.slice bv mv dv) ∧ z2.cell? ⟨w.heap.size + 1, 1, none⟩ = some (.slice bo mo eo) := ⟨(hby.cell (block_lt_of_cell hS1.1)).trans hS1.1, (hby.cell (block_lt_of_cell hS1.2.1)).trans hS1.2.1, (hby.cell (block_lt_of_cell hS1.2.2.1)).trans hS1.2.2.1, (hby.cell (block_lt_of_cell hS1.2.2.2)).trans hS1.2.2.2⟩
  refine hK.out _ _ hS2 (fun hHeld3 => ?_)
  clear hK K
  (try simp only [Act.put, List.setIfInBounds_toArray, List.set_cons_zero, List.set_cons_succ])
  refine wpAnyH_ready (rs := [4]) (by kernel_rfl) (by simp) ?_
  refine AllReadyH.cons (o := { dst := some 28, op := Op.call { callee := Callee.value (Operand.func 23), args := #[Operand.tmp 25, Operand.tmp 27], argTypes := #[30, 30] }, type := 28, pos := "exact.go:2898", after := #[{ on := 1, ground := Ground.data }, { on := 3, ground := Ground.data }, { on := 3, ground := Ground.chain }], guard := none }) rfl (fun K hK => ?_) AllReadyH.nil
  go_simp
  go_at_call 23
  refine (specToggled z2 z2.heap.size va oa vb ob _ _ _ _ _ _ _ _ xs l ys m (hi.below hby (Nat.le_refl _) |>.more hby.size) (ho.below hby (Nat.le_refl _) |>.more hby.size) hi2 ho2 (Nat.le_refl _) hxl hlo hyl hlm HIt.out HIt2.out).mono ?_
  rintro e w3 ⟨a3, k3, rfl, how, hbw⟩
  rw [HLs.out] at how ⊢
  have hS3 : w3.cell? ⟨w.heap.size, 0, none⟩ = some (.slice av nv cv) ∧ w3.cell? ⟨w.heap.size, 1, none⟩ = some (.slice ao no co) ∧ w3.cell? ⟨w.heap.size + 1, 0, none⟩ = some (.slice bv mv dv) ∧ w3.cell? ⟨w.heap.size + 1, 1, none⟩ = some (.slice bo mo eo) := ⟨(hbw.cell (block_lt_of_cell hS2.1)).trans hS2.1, (hbw.cell (block_lt_of_cell hS2.2.1)).trans hS2.2.1, (hbw.cell (block_lt_of_cell hS2.2.2.1)).trans hS2.2.2.1, (hbw.cell (block_lt_of_cell hS2.2.2.2)).trans hS2.2.2.2⟩
  refine hK.out _ _ hS3 (fun hHeld4 => ?_)
  clear hK K
  (try simp only [Act.put, List.setIfInBounds_toArray, List.set_cons_zero, List.set_cons_succ])
  refine wpAnyH_take (i := 5) (oi := { dst := some 6, op := Op.assign (Operand.tmp 28), type := 28, pos := "exact.go:2898", after := #[{ on := 4, ground := Ground.data }, { on := 4, ground := Ground.chain }, { on := 0, ground := Ground.phase }, { on := 1, ground := Ground.phase }, { on := 2, ground := Ground.phase }, { on := 3, ground := Ground.phase }, { on := 4, ground := Ground.phase }], guard := none }) (v := ?_) rfl (by kernel_rfl) (by kernel_rfl) (by kernel_rfl) (fun _ _ _ h => h) (Or.inl ⟨by rfl, ?_⟩) (by assumption) ?_
  rotate_left
  · intro w hSw
    (try dsimp only at hSw)
    first | (go_simp; done) | (go_simp; with_reducible rfl)
  (try simp only [Act.put, List.setIfInBounds_toArray, List.set_cons_zero, List.set_cons_succ])
  refine wpAnyH_done (by kernel_rfl) ?_ _
  have hb : Below w2.heap.size w2 w3 := hz2.trans (hbw.mono hz2.size)
  have hzs : w2.heap.size ≤ z2.heap.size := hz2.size
  clear hS hS1 hS2 hS3 hHeld hHeld2 hHeld3 hHeld4 hz1 hz2 hbz hby hbw hi ho hi2 ho2
  have hs3 := hb.size
  have HX3 := Lib.hid ((hb.block _ (Array.getElem?_eq_some_iff.1 HX2.out).1).trans HX2.out)
  have HR3 := Lib.hid ((hb.block _ (Array.getElem?_eq_some_iff.1 HR2.out).1).trans HR2.out)
  have HV3 := Lib.hid (HV2.out.below hb (by omega))
  have HO3 := Lib.hid (HO2.out.below hb (by omega))
  have HP3 := Lib.hid (HP2.out.below hb (by omega))
  have HQ3 := Lib.hid (HQ2.out.below hb (by omega))
  have HB3 := Lib.hid (HB2.out.trans (hb.mono (by omega)))
  clear hb HX2 HR2 HV2 HO2 HP2 HQ2 HB2
  have HN3 := Lib.hid (how.more hzs (Nat.le_refl _))
  clear how hzs
  have HW3 := HN3
  clear HN3
  generalize hn2 : w2.heap.size = n2 at HW3 hs2 hs3
  obtain ⟨c0, c1⟩ := pair_cells HX3.out
  go_wp2_with fail
  refine (toCartO w3 w.heap.size av ao nv cv no co xs l HV3.out HO3.out (by omega) hnv hno).mono ?_
  rintro e w4 ⟨ga, gb, mid, rfl, hgA, hm1A, hm2A, hi, ho, hb⟩
  clear c0 c1
  have hs4 := hb.size
  have HX4 := Lib.hid ((hb.block _ (Array.getElem?_eq_some_iff.1 HX3.out).1).trans HX3.out)
  have HR4 := Lib.hid ((hb.block _ (Array.getElem?_eq_some_iff.1 HR3.out).1).trans HR3.out)
  have HV4 := Lib.hid (HV3.out.below hb (by omega))
  have HO4 := Lib.hid (HO3.out.below hb (by omega))
  have HP4 := Lib.hid (HP3.out.below hb (by omega))
  have HQ4 := Lib.hid (HQ3.out.below hb (by omega))
  have HB4 := Lib.hid (HB3.out.trans (hb.mono (by omega)))
  have HW4 := Lib.hid (HW3.out.below hb (by omega))
  clear hb HX3 HR3 HV3 HO3 HP3 HQ3 HB3 HW3
  have HI4 := Lib.hid hi
  have HG4 := Lib.hid ho
  clear hi ho
  generalize hn3 : w3.heap.size = n3 at HW4 HI4 hs3 hs4 hm1A
  go_upto_region 10 with fail
  have hb : Below w4.heap.size w4 (w4.alloc (.cells #[.slice ga xs.length xs.length, .slice gb l.length l.length] 30)) := (Below.refl _ _).alloc (Nat.le_refl _) _
  have HY5 := Lib.hid (boxAt (Below.refl _ (w4.alloc (.cells #[.slice ga xs.length xs.length, .slice gb l.length l.length] 30))))
  have hyA : w4.heap.size + 1 ≤ (w4.alloc (.cells #[.slice ga xs.length xs.length, .slice gb l.length l.length] 30)).heap.size := by show _ ≤ (w4.heap.push _).size; simp
  generalize w4.alloc (.cells #[.slice ga xs.length xs.length, .slice gb l.length l.length] 30) = w5 at hb HY5 hyA ⊢
  have hs5 := hb.size
  have HX5 := Lib.hid ((hb.block _ (Array.getElem?_eq_some_iff.1 HX4.out).1).trans HX4.out)
  have HR5 := Lib.hid ((hb.block _ (Array.getElem?_eq_some_iff.1 HR4.out).1).trans HR4.out)
  have HV5 := Lib.hid (HV4.out.below hb (by omega))
  have HO5 := Lib.hid (HO4.out.below hb (by omega))
  have HP5 := Lib.hid (HP4.out.below hb (by omega))
  have HQ5 := Lib.hid (HQ4.out.below hb (by omega))
  have HB5 := Lib.hid (HB4.out.trans (hb.mono (by omega)))
  have HW5 := Lib.hid (HW4.out.below hb (by omega))
  have HI5 := Lib.hid (HI4.out.below hb (by omega))
  have HG5 := Lib.hid (HG4.out.below hb (by omega))
  clear hb HX4 HR4 HV4 HO4 HP4 HQ4 HB4 HW4 HI4 HG4
  generalize hn4 : w4.heap.size = n4 at HY5 HI5 HG5 hs4 hs5 hyA hm2A ⊢
  obtain ⟨c0, c1⟩ := pair_cells HR5.out
  go_wp2_with fail
  refine (toCartO w5 w.heap.size bv bo mv dv mo eo ys m HP5.out HQ5.out (by omega) hmv hmo).mono ?_
  rintro e w6 ⟨ha, hc, mid2, rfl, hgB, hm1B, hm2B, hi, ho, hb⟩
  clear c0 c1
  have hs6 := hb.size
  have HX6 := Lib.hid ((hb.block _ (Array.getElem?_eq_some_iff.1 HX5.out).1).trans HX5.out)
  have HR6 := Lib.hid ((hb.block _ (Array.getElem?_eq_some_iff.1 HR5.out).1).trans HR5.out)
  have HV6 := Lib.hid (HV5.out.below hb (by omega))
  have HO6 := Lib.hid (HO5.out.below hb (by omega))
  have HP6 := Lib.hid (HP5.out.below hb (by omega))
  have HQ6 := Lib.hid (HQ5.out.below hb (by omega))
  have HB6 := Lib.hid (HB5.out.trans (hb.mono (by omega)))
  have HW6 := Lib.hid (HW5.out.below hb (by omega))
  have HI6 := Lib.hid (HI5.out.below hb (by omega))
  have HG6 := Lib.hid (HG5.out.below hb (by omega))
  have HY6 := Lib.hid ((hb.block _ (Array.getElem?_eq_some_iff.1 HY5.out).1).trans HY5.out)
  clear hb HX5 HR5 HV5 HO5 HP5 HQ5 HB5 HW5 HI5 HG5 HY5
  have HJ6 := Lib.hid hi
  have HK6 := Lib.hid ho
  clear hi ho
  generalize hn5 : w5.heap.size = n5 at HW6 HJ6 hs5 hs6 hm1B
  go_upto_region 11 with fail
  have hb : Below w6.heap.size w6 (w6.alloc (.cells #[.slice ha ys.length ys.length, .slice hc m.length m.length] 30)) := (Below.refl _ _).alloc (Nat.le_refl _) _
  have HZ7 := Lib.hid (boxAt (Below.refl _ (w6.alloc (.cells #[.slice ha ys.length ys.length, .slice hc m.length m.length] 30))))
  have hyB : w6.heap.size + 1 ≤ (w6.alloc (.cells #[.slice ha ys.length ys.length, .slice hc m.length m.length] 30)).heap.size := by show _ ≤ (w6.heap.push _).size; simp
  generalize w6.alloc (.cells #[.slice ha ys.length ys.length, .slice hc m.length m.length] 30) = w7 at hb HZ7 hyB ⊢
  have hs7 := hb.size
  have HX7 := Lib.hid ((hb.block _ (Array.getElem?_eq_some_iff.1 HX6.out).1).trans HX6.out)
  have HR7 := Lib.hid ((hb.block _ (Array.getElem?_eq_some_iff.1 HR6.out).1).trans HR6.out)
  have HV7 := Lib.hid (HV6.out.below hb (by omega))
  have HO7 := Lib.hid (HO6.out.below hb (by omega))
  have HP7 := Lib.hid (HP6.out.below hb (by omega))
  have HQ7 := Lib.hid (HQ6.out.below hb (by omega))
  have HB7 := Lib.hid (HB6.out.trans (hb.mono (by omega)))
  have HW7 := Lib.hid (HW6.out.below hb (by omega))
  have HI7 := Lib.hid (HI6.out.below hb (by omega))
  have HG7 := Lib.hid (HG6.out.below hb (by omega))
  have HY7 := Lib.hid ((hb.block _ (Array.getElem?_eq_some_iff.1 HY6.out).1).trans HY6.out)
  have HJ7 := Lib.hid (HJ6.out.below hb (by omega))
  have HK7 := Lib.hid (HK6.out.below hb (by omega))
  clear hb HX6 HR6 HV6 HO6 HP6 HQ6 HB6 HW6 HI6 HG6 HY6 HJ6 HK6
  generalize hn6 : w6.heap.size = n6 at HZ7 HJ7 HK7 hs6 hs7 hyB hm2B ⊢
  obtain ⟨c0, c1⟩ := pair_cells HY7.out
  obtain ⟨e0, e1⟩ := pair_cells HZ7.out
  go_wp2_with fail
  refine (implToggled w7 n6 ga gb ha hc _ _ _ _ _ _ _ _ xs l ys m (HI7.out.ints.more (by omega)) (HG7.out.ops.more (by omega)) (HJ7.out.ints.more (by omega)) HK7.out.ops (by omega) hxl (Nat.le_refl _) hlo hyl (Nat.le_refl _) hlm HIt2.out).mono ?_
  rintro e w8 ⟨a1, k1, rfl, how, hb⟩
  clear c0 c1 e0 e1
  rw [HLs.out] at how ⊢
  have hs8 := hb.size
  have HX8 := Lib.hid ((hb.block _ (Array.getElem?_eq_some_iff.1 HX7.out).1).trans HX7.out)
  have HR8 := Lib.hid ((hb.block _ (Array.getElem?_eq_some_iff.1 HR7.out).1).trans HR7.out)
  have HV8 := Lib.hid (HV7.out.below hb (by omega))
  have HO8 := Lib.hid (HO7.out.below hb (by omega))
  have HP8 := Lib.hid (HP7.out.below hb (by omega))
  have HQ8 := Lib.hid (HQ7.out.below hb (by omega))
  have HB8 := Lib.hid (HB7.out.trans (hb.mono (by omega)))
  have HW8 := Lib.hid (HW7.out.below hb (by omega))
  have HI8 := Lib.hid (HI7.out.below hb (by omega))
  have HG8 := Lib.hid (HG7.out.below hb (by omega))
  have HY8 := Lib.hid ((hb.block _ (Array.getElem?_eq_some_iff.1 HY7.out).1).trans HY7.out)
  have HJ8 := Lib.hid (HJ7.out.below hb (by omega))
  have HK8 := Lib.hid (HK7.out.below hb (by omega))
  have HZ8 := Lib.hid ((hb.block _ (Array.getElem?_eq_some_iff.1 HZ7.out).1).trans HZ7.out)
  clear hb HX7 HR7 HV7 HO7 HP7 HQ7 HB7 HW7 HI7 HG7 HY7 HJ7 HK7 HZ7
  have HU8 := Lib.hid how
  clear how
  generalize hn7 : w7.heap.size = n7 at HU8 hs7 hs8 hyB
  go_wp2_with fail
  refine (eqOpsV w8 _ _ a1 a3 _ _ _ Ls HU8.out.ops HW8.out.ops (by omega) (by omega) hLn).mono ?_
  rintro e w9 ⟨rfl, hb⟩
  have hs9 := hb.size
  have HX9 := Lib.hid ((hb.block _ (Array.getElem?_eq_some_iff.1 HX8.out).1).trans HX8.out)
  have HR9 := Lib.hid ((hb.block _ (Array.getElem?_eq_some_iff.1 HR8.out).1).trans HR8.out)
  have HV9 := Lib.hid (HV8.out.below hb (by omega))
  have HO9 := Lib.hid (HO8.out.below hb (by omega))
  have HP9 := Lib.hid (HP8.out.below hb (by omega))
  have HQ9 := Lib.hid (HQ8.out.below hb (by omega))
  have HB9 := Lib.hid (HB8.out.trans (hb.mono (by omega)))
  have HW9 := Lib.hid (HW8.out.below hb (by omega))
  have HI9 := Lib.hid (HI8.out.below hb (by omega))
  have HG9 := Lib.hid (HG8.out.below hb (by omega))
  have HY9 := Lib.hid ((hb.block _ (Array.getElem?_eq_some_iff.1 HY8.out).1).trans HY8.out)
  have HJ9 := Lib.hid (HJ8.out.below hb (by omega))
  have HK9 := Lib.hid (HK8.out.below hb (by omega))
  have HZ9 := Lib.hid ((hb.block _ (Array.getElem?_eq_some_iff.1 HZ8.out).1).trans HZ8.out)
  have HU9 := Lib.hid (HU8.out.below hb (by omega))
  clear hb HX8 HR8 HV8 HO8 HP8 HQ8 HB8 HW8 HI8 HG8 HY8 HJ8 HK8 HZ8 HU8
  generalize hn8 : w8.heap.size = n8 at HU9 hs8 hs9
  have hS : w9.drew.cell? ⟨n4, 0, none⟩ = some (.slice ga xs.length xs.length) ∧ w9.drew.cell? ⟨n4, 1, none⟩ = some (.slice gb l.length l.length) ∧ w9.drew.cell? ⟨w.heap.size, 0, none⟩ = some (.slice av nv cv) ∧ w9.drew.cell? ⟨w.heap.size, 1, none⟩ = some (.slice ao no co) := ⟨(pair_cells HY9.out).1, (pair_cells HY9.out).2, (pair_cells HX9.out).1, (pair_cells HX9.out).2⟩
  go_wp2_with fail
  refine wp_region_held_drew (S := fun w' => w'.cell? ⟨n4, 0, none⟩ = some (.slice ga xs.length xs.length) ∧ w'.cell? ⟨n4, 1, none⟩ = some (.slice gb l.length l.length) ∧ w'.cell? ⟨w.heap.size, 0, none⟩ = some (.slice av nv cv) ∧ w'.cell? ⟨w.heap.size, 1, none⟩ = some (.slice ao no co)) (by kernel_rfl) hS (fun hHeld => ?_)
  refine wpAnyH_take (i := 0) (oi := { dst := some 40, op := Op.load 30 (Operand.tmp 7), type := 30, pos := "exact.go:2905", after := #[], guard := none }) (v := ?_) rfl (by kernel_rfl) (by kernel_rfl) (by kernel_rfl) (fun _ _ _ h => h) (Or.inl ⟨by rfl, ?_⟩) (by assumption) ?_
  rotate_left
  · intro w hSw
    (try dsimp only at hSw)
    first | (go_simp; done) | (go_simp; with_reducible rfl)
  (try simp only [Act.put, List.setIfInBounds_toArray, List.set_cons_zero, List.set_cons_succ])
  refine wpAnyH_take (i := 1) (oi := { dst := some 41, op := Op.load 25 (Operand.tmp 2), type := 25, pos := "exact.go:2905", after := #[], guard := none }) (v := ?_) rfl (by kernel_rfl) (by kernel_rfl) (by kernel_rfl) (fun _ _ _ h => h) (Or.inl ⟨by rfl, ?_⟩) (by assumption) ?_
  rotate_left
  · intro w hSw
    (try dsimp only at hSw)
    first | (go_simp; done) | (go_simp; with_reducible rfl)
  (try simp only [Act.put, List.setIfInBounds_toArray, List.set_cons_zero, List.set_cons_succ])
  refine wpAnyH_ready (rs := [2]) (by kernel_rfl) (by simp) ?_
  refine AllReadyH.cons (o := { dst := some 42, op := Op.call { callee := Callee.value (Operand.func 10), args := #[Operand.tmp 41], argTypes := #[25] }, type := 30, pos := "exact.go:2905", after := #[{ on := 1, ground := Ground.data }], guard := none }) rfl (fun K hK => ?_) AllReadyH.nil
  go_simp
  go_at_call 10
  refine (toCart w9.drew w.heap.size av ao nv cv no co xs l (HV9.out.kept (w' := w9.drew) fun _ _ => rfl) (HO9.out.kept (w' := w9.drew) fun _ _ => rfl) (by show _ ≤ w9.heap.size; omega) hnv hno).mono ?_
  rintro e z1 ⟨ka, kb, rfl, hi, ho, hbz⟩
  have hz1 : Below w9.heap.size w9 z1 := Below.mk hbz.os hbz.tape hbz.output hbz.size hbz.block
  have hS1 : z1.cell? ⟨n4, 0, none⟩ = some (.slice ga xs.length xs.length) ∧ z1.cell? ⟨n4, 1, none⟩ = some (.slice gb l.length l.length) ∧ z1.cell? ⟨w.heap.size, 0, none⟩ = some (.slice av nv cv) ∧ z1.cell? ⟨w.heap.size, 1, none⟩ = some (.slice ao no co) := ⟨(hbz.cell (block_lt_of_cell hS.1)).trans hS.1, (hbz.cell (block_lt_of_cell hS.2.1)).trans hS.2.1, (hbz.cell (block_lt_of_cell hS.2.2.1)).trans hS.2.2.1, (hbz.cell (block_lt_of_cell hS.2.2.2)).trans hS.2.2.2⟩
  refine hK.out _ _ hS1 (fun hHeld2 => ?_)
  clear hK K
  (try simp only [Act.put, List.setIfInBounds_toArray, List.set_cons_zero, List.set_cons_succ])
  refine wpAnyH_ready (rs := [3]) (by kernel_rfl) (by simp) ?_
  refine AllReadyH.cons (o := { dst := some 43, op := Op.call { callee := Callee.value (Operand.func 12), args := #[Operand.tmp 40, Operand.tmp 42], argTypes := #[30, 30] }, type := 4, pos := "exact.go:2905", after := #[{ on := 0, ground := Ground.data }, { on := 2, ground := Ground.data }, { on := 2, ground := Ground.chain }], guard := none }) rfl (fun K hK => ?_) AllReadyH.nil
  go_simp
  go_at_call 12
  refine (eqCartV z1 ga ka gb kb _ _ _ _ xs l ((HI9.out.ints.below hz1 (by omega)).more (Nat.le_trans (by omega) hz1.size)) hi ((HG9.out.ops.below hz1 (by omega)).more (Nat.le_trans (by omega) hz1.size)) ho hxl hlo).mono ?_
  rintro e w10 ⟨rfl, hbw⟩
  have hS2 : w10.cell? ⟨n4, 0, none⟩ = some (.slice ga xs.length xs.length) ∧ w10.cell? ⟨n4, 1, none⟩ = some (.slice gb l.length l.length) ∧ w10.cell? ⟨w.heap.size, 0, none⟩ = some (.slice av nv cv) ∧ w10.cell? ⟨w.heap.size, 1, none⟩ = some (.slice ao no co) := ⟨(hbw.cell (block_lt_of_cell hS1.1)).trans hS1.1, (hbw.cell (block_lt_of_cell hS1.2.1)).trans hS1.2.1, (hbw.cell (block_lt_of_cell hS1.2.2.1)).trans hS1.2.2.1, (hbw.cell (block_lt_of_cell hS1.2.2.2)).trans hS1.2.2.2⟩
  refine hK.out _ _ hS2 (fun hHeld3 => ?_)
  clear hK K
  (try simp only [Act.put, List.setIfInBounds_toArray, List.set_cons_zero, List.set_cons_succ])
  refine wpAnyH_take (i := 4) (oi := { dst := some 44, op := Op.unOp UnOp.not 4 (Operand.tmp 43), type := 4, pos := "exact.go:2905", after := #[{ on := 3, ground := Ground.data }], guard := none }) (v := ?_) rfl (by kernel_rfl) (by kernel_rfl) (by kernel_rfl) (fun _ _ _ h => h) (Or.inl ⟨by rfl, ?_⟩) (by assumption) ?_
  rotate_left
  · intro w hSw
    (try dsimp only at hSw)
    first | (go_simp; done) | (go_simp; with_reducible rfl)
  (try simp only [Act.put, List.setIfInBounds_toArray, List.set_cons_zero, List.set_cons_succ])
  refine wpAnyH_done (by kernel_rfl) ?_ _
  have hb : Below w9.heap.size w9 w10 := hz1.trans (hbw.mono hz1.size)
  clear hS hS1 hS2 hHeld hHeld2 hHeld3 hz1 hbz hbw hi ho
  have hs10 := hb.size
  have HX10 := Lib.hid ((hb.block _ (Array.getElem?_eq_some_iff.1 HX9.out).1).trans HX9.out)
  have HR10 := Lib.hid ((hb.block _ (Array.getElem?_eq_some_iff.1 HR9.out).1).trans HR9.out)
  have HV10 := Lib.hid (HV9.out.below hb (by omega))
  have HO10 := Lib.hid (HO9.out.below hb (by omega))
  have HP10 := Lib.hid (HP9.out.below hb (by omega))
  have HQ10 := Lib.hid (HQ9.out.below hb (by omega))
  have HB10 := Lib.hid (HB9.out.trans (hb.mono (by omega)))
  have HW10 := Lib.hid (HW9.out.below hb (by omega))
  have HI10 := Lib.hid (HI9.out.below hb (by omega))
  have HG10 := Lib.hid (HG9.out.below hb (by omega))
  have HY10 := Lib.hid ((hb.block _ (Array.getElem?_eq_some_iff.1 HY9.out).1).trans HY9.out)
  have HJ10 := Lib.hid (HJ9.out.below hb (by omega))
  have HK10 := Lib.hid (HK9.out.below hb (by omega))
  have HZ10 := Lib.hid ((hb.block _ (Array.getElem?_eq_some_iff.1 HZ9.out).1).trans HZ9.out)
  have HU10 := Lib.hid (HU9.out.below hb (by omega))
  clear hb HX9 HR9 HV9 HO9 HP9 HQ9 HB9 HW9 HI9 HG9 HY9 HJ9 HK9 HZ9 HU9
  have hS : w10.drew.cell? ⟨n6, 0, none⟩ = some (.slice ha ys.length ys.length) ∧ w10.drew.cell? ⟨n6, 1, none⟩ = some (.slice hc m.length m.length) ∧ w10.drew.cell? ⟨w.heap.size + 1, 0, none⟩ = some (.slice bv mv dv) ∧ w10.drew.cell? ⟨w.heap.size + 1, 1, none⟩ = some (.slice bo mo eo) := ⟨(pair_cells HZ10.out).1, (pair_cells HZ10.out).2, (pair_cells HR10.out).1, (pair_cells HR10.out).2⟩
  go_wp2_with fail
  refine wp_region_held_drew (S := fun w' => w'.cell? ⟨n6, 0, none⟩ = some (.slice ha ys.length ys.length) ∧ w'.cell? ⟨n6, 1, none⟩ = some (.slice hc m.length m.length) ∧ w'.cell? ⟨w.heap.size + 1, 0, none⟩ = some (.slice bv mv dv) ∧ w'.cell? ⟨w.heap.size + 1, 1, none⟩ = some (.slice bo mo eo)) (by kernel_rfl) hS (fun hHeld => ?_)
  refine wpAnyH_take (i := 0) (oi := { dst := some 45, op := Op.load 30 (Operand.tmp 8), type := 30, pos := "exact.go:2908", after := #[], guard := none }) (v := ?_) rfl (by kernel_rfl) (by kernel_rfl) (by kernel_rfl) (fun _ _ _ h => h) (Or.inl ⟨by rfl, ?_⟩) (by assumption) ?_
  rotate_left
  · intro w hSw
    (try dsimp only at hSw)
    first | (go_simp; done) | (go_simp; with_reducible rfl)
  (try simp only [Act.put, List.setIfInBounds_toArray, List.set_cons_zero, List.set_cons_succ])
  refine wpAnyH_take (i := 1) (oi := { dst := some 46, op := Op.load 25 (Operand.tmp 3), type := 25, pos := "exact.go:2908", after := #[], guard := none }) (v := ?_) rfl (by kernel_rfl) (by kernel_rfl) (by kernel_rfl) (fun _ _ _ h => h) (Or.inl ⟨by rfl, ?_⟩) (by assumption) ?_
  rotate_left
  · intro w hSw
    (try dsimp only at hSw)
    first | (go_simp; done) | (go_simp; with_reducible rfl)
  (try simp only [Act.put, List.setIfInBounds_toArray, List.set_cons_zero, List.set_cons_succ])
  refine wpAnyH_ready (rs := [2]) (by kernel_rfl) (by simp) ?_
  refine AllReadyH.cons (o := { dst := some 47, op := Op.call { callee := Callee.value (Operand.func 10), args := #[Operand.tmp 46], argTypes := #[25] }, type := 30, pos := "exact.go:2908", after := #[{ on := 1, ground := Ground.data }], guard := none }) rfl (fun K hK => ?_) AllReadyH.nil
  go_simp
  go_at_call 10
  refine (toCart w10.drew w.heap.size bv bo mv dv mo eo ys m (HP10.out.kept (w' := w10.drew) fun _ _ => rfl) (HQ10.out.kept (w' := w10.drew) fun _ _ => rfl) (by show _ ≤ w10.heap.size; omega) hmv hmo).mono ?_
  rintro e z1 ⟨ka, kb, rfl, hi, ho, hbz⟩
  have hz1 : Below w10.heap.size w10 z1 := Below.mk hbz.os hbz.tape hbz.output hbz.size hbz.block
  have hS1 : z1.cell? ⟨n6, 0, none⟩ = some (.slice ha ys.length ys.length) ∧ z1.cell? ⟨n6, 1, none⟩ = some (.slice hc m.length m.length) ∧ z1.cell? ⟨w.heap.size + 1, 0, none⟩ = some (.slice bv mv dv) ∧ z1.cell? ⟨w.heap.size + 1, 1, none⟩ = some (.slice bo mo eo) := ⟨(hbz.cell (block_lt_of_cell hS.1)).trans hS.1, (hbz.cell (block_lt_of_cell hS.2.1)).trans hS.2.1, (hbz.cell (block_lt_of_cell hS.2.2.1)).trans hS.2.2.1, (hbz.cell (block_lt_of_cell hS.2.2.2)).trans hS.2.2.2⟩
  refine hK.out _ _ hS1 (fun hHeld2 => ?_)
  clear hK K
  (try simp only [Act.put, List.setIfInBounds_toArray, List.set_cons_zero, List.set_cons_succ])
  refine wpAnyH_ready (rs := [3]) (by kernel_rfl) (by simp) ?_
  refine AllReadyH.cons (o := { dst := some 48, op := Op.call { callee := Callee.value (Operand.func 12), args := #[Operand.tmp 45, Operand.tmp 47], argTypes := #[30, 30] }, type := 4, pos := "exact.go:2908", after := #[{ on := 0, ground := Ground.data }, { on := 2, ground := Ground.data }, { on := 2, ground := Ground.chain }], guard := none }) rfl (fun K hK => ?_) AllReadyH.nil
  go_simp
  go_at_call 12
  refine (eqCartV z1 ha ka hc kb _ _ _ _ ys m ((HJ10.out.ints.below hz1 (by omega)).more (Nat.le_trans (by omega) hz1.size)) hi ((HK10.out.ops.below hz1 (by omega)).more (Nat.le_trans (by omega) hz1.size)) ho hyl hlm).mono ?_
  rintro e w11 ⟨rfl, hbw⟩
  have hS2 : w11.cell? ⟨n6, 0, none⟩ = some (.slice ha ys.length ys.length) ∧ w11.cell? ⟨n6, 1, none⟩ = some (.slice hc m.length m.length) ∧ w11.cell? ⟨w.heap.size + 1, 0, none⟩ = some (.slice bv mv dv) ∧ w11.cell? ⟨w.heap.size + 1, 1, none⟩ = some (.slice bo mo eo) := ⟨(hbw.cell (block_lt_of_cell hS1.1)).trans hS1.1, (hbw.cell (block_lt_of_cell hS1.2.1)).trans hS1.2.1, (hbw.cell (block_lt_of_cell hS1.2.2.1)).trans hS1.2.2.1, (hbw.cell (block_lt_of_cell hS1.2.2.2)).trans hS1.2.2.2⟩
  refine hK.out _ _ hS2 (fun hHeld3 => ?_)
  clear hK K
  (try simp only [Act.put, List.setIfInBounds_toArray, List.set_cons_zero, List.set_cons_succ])
  refine wpAnyH_take (i := 4) (oi := { dst := some 49, op := Op.unOp UnOp.not 4 (Operand.tmp 48), type := 4, pos := "exact.go:2908", after := #[{ on := 3, ground := Ground.data }], guard := none }) (v := ?_) rfl (by kernel_rfl) (by kernel_rfl) (by kernel_rfl) (fun _ _ _ h => h) (Or.inl ⟨by rfl, ?_⟩) (by assumption) ?_
  rotate_left
  · intro w hSw
    (try dsimp only at hSw)
    first | (go_simp; done) | (go_simp; with_reducible rfl)
  (try simp only [Act.put, List.setIfInBounds_toArray, List.set_cons_zero, List.set_cons_succ])
  refine wpAnyH_done (by kernel_rfl) ?_ _
  have hb : Below w10.heap.size w10 w11 := hz1.trans (hbw.mono hz1.size)
  clear hS hS1 hS2 hHeld hHeld2 hHeld3 hz1 hbz hbw hi ho
  have hs11 := hb.size
  have HX11 := Lib.hid ((hb.block _ (Array.getElem?_eq_some_iff.1 HX10.out).1).trans HX10.out)
  have HR11 := Lib.hid ((hb.block _ (Array.getElem?_eq_some_iff.1 HR10.out).1).trans HR10.out)
  have HV11 := Lib.hid (HV10.out.below hb (by omega))
  have HO11 := Lib.hid (HO10.out.below hb (by omega))
  have HP11 := Lib.hid (HP10.out.below hb (by omega))
  have HQ11 := Lib.hid (HQ10.out.below hb (by omega))
  have HB11 := Lib.hid (HB10.out.trans (hb.mono (by omega)))
  have HW11 := Lib.hid (HW10.out.below hb (by omega))
  have HI11 := Lib.hid (HI10.out.below hb (by omega))
  have HG11 := Lib.hid (HG10.out.below hb (by omega))
  have HY11 := Lib.hid ((hb.block _ (Array.getElem?_eq_some_iff.1 HY10.out).1).trans HY10.out)
  have HJ11 := Lib.hid (HJ10.out.below hb (by omega))
  have HK11 := Lib.hid (HK10.out.below hb (by omega))
  have HZ11 := Lib.hid ((hb.block _ (Array.getElem?_eq_some_iff.1 HZ10.out).1).trans HZ10.out)
  have HU11 := Lib.hid (HU10.out.below hb (by omega))
  clear hb HX10 HR10 HV10 HO10 HP10 HQ10 HB10 HW10 HI10 HG10 HY10 HJ10 HK10 HZ10 HU10
  obtain ⟨c0, c1⟩ := pair_cells HY11.out
  go_wp2_with fail
  refine (markCartO w11 n3 mid n4 ga gb _ _ _ _ xs l HI11.out HG11.out hm1A hm2A (by omega) hxl hlo 1 (by omega) (by omega)).mono ?_
  rintro e w12 ⟨⟨mk, hmk, rfl⟩, hb⟩
  clear c0 c1
  have hs12 := hb.size
  have HX12 := Lib.hid ((hb.block _ (Array.getElem?_eq_some_iff.1 HX11.out).1 (by omega)).trans HX11.out)
  have HR12 := Lib.hid ((hb.block _ (Array.getElem?_eq_some_iff.1 HR11.out).1 (by omega)).trans HR11.out)
  have HV12 := Lib.hid (HV11.out.kept fun j hj => hb.block j (by omega) (.inl (by omega)))
  have HO12 := Lib.hid (HO11.out.kept fun j hj => hb.block j (by omega) (.inl (by omega)))
  have HP12 := Lib.hid (HP11.out.kept fun j hj => hb.block j (by omega) (.inl (by omega)))
  have HQ12 := Lib.hid (HQ11.out.kept fun j hj => hb.block j (by omega) (.inl (by omega)))
  have HB12 := Lib.hid (HB11.out.trans (hb.below (by omega) (by omega)))
  have HW12 := Lib.hid (HW11.out.beside hb (by omega) (by omega))
  have HY12 := Lib.hid ((hb.block _ (Array.getElem?_eq_some_iff.1 HY11.out).1 (by omega)).trans HY11.out)
  have HJ12 := Lib.hid (HJ11.out.beside hb (by omega) (by omega))
  have HK12 := Lib.hid (HK11.out.beside hb (by omega) (by omega))
  have HZ12 := Lib.hid ((hb.block _ (Array.getElem?_eq_some_iff.1 HZ11.out).1 (by omega)).trans HZ11.out)
  have HU12 := Lib.hid (HU11.out.beside hb (by omega) (by omega))
  clear hb HX11 HR11 HV11 HO11 HP11 HQ11 HB11 HW11 HI11 HG11 HY11 HJ11 HK11 HZ11 HU11
  have hmkb : 0 < mk ∧ mk ≤ 9000000 := by have := hmk.out; have := HTot.out; have := HLx.out; have := HLo.out; omega
  obtain ⟨hmk0, hmk1⟩ := hmkb
  obtain ⟨c0, c1⟩ := pair_cells HZ12.out
  go_wp2_with fail
  refine (markCartO w12 n5 mid2 n6 ha hc _ _ _ _ ys m HJ12.out HK12.out hm1B hm2B (by omega) hyl hlm mk hmk0 hmk1).mono ?_
  rintro e w13 ⟨⟨mk2, hmk2, rfl⟩, hb⟩
  clear c0 c1
  have hs13 := hb.size
  have HX13 := Lib.hid ((hb.block _ (Array.getElem?_eq_some_iff.1 HX12.out).1 (by omega)).trans HX12.out)
  have HR13 := Lib.hid ((hb.block _ (Array.getElem?_eq_some_iff.1 HR12.out).1 (by omega)).trans HR12.out)
  have HV13 := Lib.hid (HV12.out.kept fun j hj => hb.block j (by omega) (.inl (by omega)))
  have HO13 := Lib.hid (HO12.out.kept fun j hj => hb.block j (by omega) (.inl (by omega)))
  have HP13 := Lib.hid (HP12.out.kept fun j hj => hb.block j (by omega) (.inl (by omega)))
  have HQ13 := Lib.hid (HQ12.out.kept fun j hj => hb.block j (by omega) (.inl (by omega)))
  have HB13 := Lib.hid (HB12.out.trans (hb.below (by omega) (by omega)))
  have HW13 := Lib.hid (HW12.out.beside hb (by omega) (by omega))
  have HY13 := Lib.hid ((hb.block _ (Array.getElem?_eq_some_iff.1 HY12.out).1 (by omega)).trans HY12.out)
  have HZ13 := Lib.hid ((hb.block _ (Array.getElem?_eq_some_iff.1 HZ12.out).1 (by omega)).trans HZ12.out)
  have HU13 := Lib.hid (HU12.out.beside hb (by omega) (by omega))
  clear hb HX12 HR12 HV12 HO12 HP12 HQ12 HB12 HW12 HY12 HJ12 HK12 HZ12 HU12
  have hdm : decide ((mk2 : Int) < 0) = false := decide_eq_false (by omega)
  clear hmk2 hmk hmk0 hmk1
  go_wp2_with fail
  refine (eqOpsV w13 _ _ a1 a3 _ _ _ Ls HU13.out.ops HW13.out.ops (by omega) (by omega) hLn).mono ?_
  rintro e w14 ⟨rfl, hb⟩
  have hs14 := hb.size
  have HX14 := Lib.hid ((hb.block _ (Array.getElem?_eq_some_iff.1 HX13.out).1).trans HX13.out)
  have HR14 := Lib.hid ((hb.block _ (Array.getElem?_eq_some_iff.1 HR13.out).1).trans HR13.out)
  have HV14 := Lib.hid (HV13.out.below hb (by omega))
  have HO14 := Lib.hid (HO13.out.below hb (by omega))
  have HP14 := Lib.hid (HP13.out.below hb (by omega))
  have HQ14 := Lib.hid (HQ13.out.below hb (by omega))
  have HB14 := Lib.hid (HB13.out.trans (hb.mono (by omega)))
  have HW14 := Lib.hid (HW13.out.below hb (by omega))
  have HY14 := Lib.hid ((hb.block _ (Array.getElem?_eq_some_iff.1 HY13.out).1).trans HY13.out)
  have HZ14 := Lib.hid ((hb.block _ (Array.getElem?_eq_some_iff.1 HZ13.out).1).trans HZ13.out)
  have HU14 := Lib.hid (HU13.out.below hb (by omega))
  clear hb HX13 HR13 HV13 HO13 HP13 HQ13 HB13 HW13 HY13 HZ13 HU13
  go_wp2_with fail
  refine (markOps w14 n7 n8 a1 _ _ Ls HU14.out 1 (by omega) (by omega) hLn).mono ?_
  rintro e w15 ⟨⟨m1, hm1e, rfl⟩, how, hb⟩
  have hs15 := hb.size
  have HX15 := Lib.hid ((hb.block _ (Array.getElem?_eq_some_iff.1 HX14.out).1 (by omega)).trans HX14.out)
  have HR15 := Lib.hid ((hb.block _ (Array.getElem?_eq_some_iff.1 HR14.out).1 (by omega)).trans HR14.out)
  have HV15 := Lib.hid (HV14.out.kept fun j hj => hb.block j (by omega) (.inl (by omega)))
  have HO15 := Lib.hid (HO14.out.kept fun j hj => hb.block j (by omega) (.inl (by omega)))
  have HP15 := Lib.hid (HP14.out.kept fun j hj => hb.block j (by omega) (.inl (by omega)))
  have HQ15 := Lib.hid (HQ14.out.kept fun j hj => hb.block j (by omega) (.inl (by omega)))
  have HB15 := Lib.hid (HB14.out.trans (hb.below (by omega) (by omega)))
  have HW15 := Lib.hid (HW14.out.beside hb (by omega) (by omega))
  have HY15 := Lib.hid ((hb.block _ (Array.getElem?_eq_some_iff.1 HY14.out).1 (by omega)).trans HY14.out)
  have HZ15 := Lib.hid ((hb.block _ (Array.getElem?_eq_some_iff.1 HZ14.out).1 (by omega)).trans HZ14.out)
  clear hb HX14 HR14 HV14 HO14 HP14 HQ14 HB14 HW14 HY14 HZ14 HU14
  have HU15 := Lib.hid how
  clear how
  have HM1 : Hid (1 + 8 * Ls.length = m1) := hm1e.symm
  have hm1b : m1 ≤ 10000000 := by omega
  clear hm1e
  go_wp2_with fail
  refine (heldOps w15 n8 a1 _ _ 1 HU15.out.ops (by omega) (by omega) (by omega) hLn).mono ?_
  rintro e w16 ⟨rfl, hb⟩
  rw [HM1.out]
  have hs16 := hb.size
  have HX16 := Lib.hid ((hb.block _ (Array.getElem?_eq_some_iff.1 HX15.out).1).trans HX15.out)
  have HR16 := Lib.hid ((hb.block _ (Array.getElem?_eq_some_iff.1 HR15.out).1).trans HR15.out)
  have HV16 := Lib.hid (HV15.out.below hb (by omega))
  have HO16 := Lib.hid (HO15.out.below hb (by omega))
  have HP16 := Lib.hid (HP15.out.below hb (by omega))
  have HQ16 := Lib.hid (HQ15.out.below hb (by omega))
  have HB16 := Lib.hid (HB15.out.trans (hb.mono (by omega)))
  have HW16 := Lib.hid (HW15.out.below hb (by omega))
  have HY16 := Lib.hid ((hb.block _ (Array.getElem?_eq_some_iff.1 HY15.out).1).trans HY15.out)
  have HZ16 := Lib.hid ((hb.block _ (Array.getElem?_eq_some_iff.1 HZ15.out).1).trans HZ15.out)
  have HU16 := Lib.hid (HU15.out.below hb (by omega))
  clear hb HX15 HR15 HV15 HO15 HP15 HQ15 HB15 HW15 HY15 HZ15 HU15
  have hdm1 : decide ((m1 : Int) < 0) = false := decide_eq_false (by omega)
  have hbm : ((m1 : Int) != (m1 : Int)) = false := bne_self_eq_false _
  have hS : w16.drew.cell? ⟨w.heap.size, 0, none⟩ = some (.slice av nv cv) ∧ w16.drew.cell? ⟨w.heap.size, 1, none⟩ = some (.slice ao no co) ∧ w16.drew.cell? ⟨w.heap.size + 1, 0, none⟩ = some (.slice bv mv dv) ∧ w16.drew.cell? ⟨w.heap.size + 1, 1, none⟩ = some (.slice bo mo eo) := ⟨(pair_cells HX16.out).1, (pair_cells HX16.out).2, (pair_cells HR16.out).1, (pair_cells HR16.out).2⟩
  go_wp2_with fail
  refine wp_region_held_drew (S := fun w' => w'.cell? ⟨w.heap.size, 0, none⟩ = some (.slice av nv cv) ∧ w'.cell? ⟨w.heap.size, 1, none⟩ = some (.slice ao no co) ∧ w'.cell? ⟨w.heap.size + 1, 0, none⟩ = some (.slice bv mv dv) ∧ w'.cell? ⟨w.heap.size + 1, 1, none⟩ = some (.slice bo mo eo)) (by kernel_rfl) hS (fun hHeld => ?_)
  refine wpAnyH_take (i := 0) (oi := { dst := some 75, op := Op.load 25 (Operand.tmp 2), type := 25, pos := "exact.go:2927", after := #[], guard := none }) (v := ?_) rfl (by kernel_rfl) (by kernel_rfl) (by kernel_rfl) (fun _ _ _ h => h) (Or.inl ⟨by rfl, ?_⟩) (by assumption) ?_
  rotate_left
  · intro w hSw
    (try dsimp only at hSw)
    first | (go_simp; done) | (go_simp; with_reducible rfl)
  (try simp only [Act.put, List.setIfInBounds_toArray, List.set_cons_zero, List.set_cons_succ])
  refine wpAnyH_take (i := 2) (oi := { dst := some 77, op := Op.load 25 (Operand.tmp 3), type := 25, pos := "exact.go:2927", after := #[], guard := none }) (v := ?_) rfl (by kernel_rfl) (by kernel_rfl) (by kernel_rfl) (fun _ _ _ h => h) (Or.inl ⟨by rfl, ?_⟩) (by assumption) ?_
  rotate_left
  · intro w hSw
    (try dsimp only at hSw)
    first | (go_simp; done) | (go_simp; with_reducible rfl)
  (try simp only [Act.put, List.setIfInBounds_toArray, List.set_cons_zero, List.set_cons_succ])
  refine wpAnyH_ready (rs := [1]) (by kernel_rfl) (by simp) ?_
  refine AllReadyH.cons (o := { dst := some 76, op := Op.call { callee := Callee.value (Operand.func 10), args := #[Operand.tmp 75], argTypes := #[25] }, type := 30, pos := "exact.go:2927", after := #[{ on := 0, ground := Ground.data }], guard := none }) rfl (fun K hK => ?_) AllReadyH.nil
  go_simp
  go_at_call 10
  refine (toCartO w16.drew w.heap.size av ao nv cv no co xs l (HV16.out.kept (w' := w16.drew) fun _ _ => rfl) (HO16.out.kept (w' := w16.drew) fun _ _ => rfl) (by show _ ≤ w16.heap.size; omega) hnv hno).mono ?_
  rintro e z1 ⟨va, oa, midA, rfl, hga, hA1, hA2, hi, ho, hbz⟩
  have hz1 : Below w16.heap.size w16 z1 := Below.mk hbz.os hbz.tape hbz.output hbz.size hbz.block
  have hS1 : z1.cell? ⟨w.heap.size, 0, none⟩ = some (.slice av nv cv) ∧ z1.cell? ⟨w.heap.size, 1, none⟩ = some (.slice ao no co) ∧ z1.cell? ⟨w.heap.size + 1, 0, none⟩ = some (.slice bv mv dv) ∧ z1.cell? ⟨w.heap.size + 1, 1, none⟩ = some (.slice bo mo eo) := ⟨(hbz.cell (block_lt_of_cell hS.1)).trans hS.1, (hbz.cell (block_lt_of_cell hS.2.1)).trans hS.2.1, (hbz.cell (block_lt_of_cell hS.2.2.1)).trans hS.2.2.1, (hbz.cell (block_lt_of_cell hS.2.2.2)).trans hS.2.2.2⟩
  refine hK.out _ _ hS1 (fun hHeld2 => ?_)
  clear hK K
  (try simp only [Act.put, List.setIfInBounds_toArray, List.set_cons_zero, List.set_cons_succ])
  refine wpAnyH_ready (rs := [3]) (by kernel_rfl) (by simp) ?_
  refine AllReadyH.cons (o := { dst := some 78, op := Op.call { callee := Callee.value (Operand.func 10), args := #[Operand.tmp 77], argTypes := #[25] }, type := 30, pos := "exact.go:2927", after := #[{ on := 2, ground := Ground.data }, { on := 1, ground := Ground.chain }], guard := none }) rfl (fun K hK => ?_) AllReadyH.nil
  go_simp
  go_at_call 10
  refine (toCartO z1 w.heap.size bv bo mv dv mo eo ys m (HP16.out.below hz1 (by omega)) (HQ16.out.below hz1 (by omega)) (by have := hz1.size; omega) hmv hmo).mono ?_
  rintro e z2 ⟨vb, ob, midB, rfl, hgb, hB1, hB2, hi2, ho2, hby⟩
  have hz2 : Below w16.heap.size w16 z2 := hz1.trans (hby.mono hz1.size)
  have hS2 : z2.cell? ⟨w.heap.size, 0, none⟩ = some (.slice av nv cv) ∧ z2.cell? ⟨w.heap.size, 1, none⟩ = some (.slice ao no co) ∧ z2.cell? ⟨w.heap.size + 1, 0, none⟩ = some (.slice bv mv dv) ∧ z2.cell? ⟨w.heap.size + 1, 1, none⟩ = some (.slice bo mo eo) := ⟨(hby.cell (block_lt_of_cell hS1.1)).trans hS1.1, (hby.cell (block_lt_of_cell hS1.2.1)).trans hS1.2.1, (hby.cell (block_lt_of_cell hS1.2.2.1)).trans hS1.2.2.1, (hby.cell (block_lt_of_cell hS1.2.2.2)).trans hS1.2.2.2⟩
  refine hK.out _ _ hS2 (fun hHeld3 => ?_)
  clear hK K
  (try simp only [Act.put, List.setIfInBounds_toArray, List.set_cons_zero, List.set_cons_succ])
  refine wpAnyH_ready (rs := [4]) (by kernel_rfl) (by simp) ?_
  refine AllReadyH.cons (o := { dst := some 79, op := Op.call { callee := Callee.value (Operand.func 24), args := #[Operand.tmp 76, Operand.tmp 78], argTypes := #[30, 30] }, type := 28, pos := "exact.go:2927", after := #[{ on := 1, ground := Ground.data }, { on := 3, ground := Ground.data }, { on := 3, ground := Ground.chain }], guard := none }) rfl (fun K hK => ?_) AllReadyH.nil
  go_simp
  go_at_call 24
  refine (implToggled z2 z2.heap.size va oa vb ob _ _ _ _ _ _ _ _ xs l ys m ((hi.ints.below hby hA2).more (Nat.le_trans hA2 hby.size)) ((ho.ops.below hby (Nat.le_refl _)).more hby.size) (hi2.ints.more hB2) ho2.ops (Nat.le_refl _) hxl (Nat.le_refl _) hlo hyl (Nat.le_refl _) hlm HIt2.out).mono ?_
  rintro e w17 ⟨a17, k17, rfl, how, hbw⟩
  rw [HLs.out] at how ⊢
  have hS3 : w17.cell? ⟨w.heap.size, 0, none⟩ = some (.slice av nv cv) ∧ w17.cell? ⟨w.heap.size, 1, none⟩ = some (.slice ao no co) ∧ w17.cell? ⟨w.heap.size + 1, 0, none⟩ = some (.slice bv mv dv) ∧ w17.cell? ⟨w.heap.size + 1, 1, none⟩ = some (.slice bo mo eo) := ⟨(hbw.cell (block_lt_of_cell hS2.1)).trans hS2.1, (hbw.cell (block_lt_of_cell hS2.2.1)).trans hS2.2.1, (hbw.cell (block_lt_of_cell hS2.2.2.1)).trans hS2.2.2.1, (hbw.cell (block_lt_of_cell hS2.2.2.2)).trans hS2.2.2.2⟩
  refine hK.out _ _ hS3 (fun hHeld4 => ?_)
  clear hK K
  (try simp only [Act.put, List.setIfInBounds_toArray, List.set_cons_zero, List.set_cons_succ])
  refine wpAnyH_take (i := 5) (oi := { dst := some 13, op := Op.assign (Operand.tmp 79), type := 28, pos := "exact.go:2927", after := #[{ on := 4, ground := Ground.data }, { on := 4, ground := Ground.chain }, { on := 0, ground := Ground.phase }, { on := 1, ground := Ground.phase }, { on := 2, ground := Ground.phase }, { on := 3, ground := Ground.phase }, { on := 4, ground := Ground.phase }], guard := none }) (v := ?_) rfl (by kernel_rfl) (by kernel_rfl) (by kernel_rfl) (fun _ _ _ h => h) (Or.inl ⟨by rfl, ?_⟩) (by assumption) ?_
  rotate_left
  · intro w hSw
    (try dsimp only at hSw)
    first | (go_simp; done) | (go_simp; with_reducible rfl)
  (try simp only [Act.put, List.setIfInBounds_toArray, List.set_cons_zero, List.set_cons_succ])
  refine wpAnyH_done (by kernel_rfl) ?_ _
  have hb : Below w16.heap.size w16 w17 := hz2.trans (hbw.mono hz2.size)
  have hzs : w16.heap.size ≤ z2.heap.size := hz2.size
  clear hS hS1 hS2 hS3 hHeld hHeld2 hHeld3 hHeld4 hz1 hz2 hbz hby hbw hi ho hi2 ho2 hga hgb hA1 hA2 hB1 hB2
  have hs17 := hb.size
  have HX17 := Lib.hid ((hb.block _ (Array.getElem?_eq_some_iff.1 HX16.out).1).trans HX16.out)
  have HR17 := Lib.hid ((hb.block _ (Array.getElem?_eq_some_iff.1 HR16.out).1).trans HR16.out)
  have HV17 := Lib.hid (HV16.out.below hb (by omega))
  have HO17 := Lib.hid (HO16.out.below hb (by omega))
  have HP17 := Lib.hid (HP16.out.below hb (by omega))
  have HQ17 := Lib.hid (HQ16.out.below hb (by omega))
  have HB17 := Lib.hid (HB16.out.trans (hb.mono (by omega)))
  have HW17 := Lib.hid (HW16.out.below hb (by omega))
  have HY17 := Lib.hid ((hb.block _ (Array.getElem?_eq_some_iff.1 HY16.out).1).trans HY16.out)
  have HZ17 := Lib.hid ((hb.block _ (Array.getElem?_eq_some_iff.1 HZ16.out).1).trans HZ16.out)
  have HU17 := Lib.hid (HU16.out.below hb (by omega))
  clear hb HX16 HR16 HV16 HO16 HP16 HQ16 HB16 HW16 HY16 HZ16 HU16
  have HN17 := Lib.hid (how.more hzs (Nat.le_refl _))
  clear how hzs
  go_wp2_with fail
  refine (eqOpsV w17 _ _ a17 a3 _ _ _ Ls HN17.out.ops HW17.out.ops (by omega) (by omega) hLn).mono ?_
  rintro e w18 ⟨rfl, hb⟩
  clear HN17
  have hs18 := hb.size
  have HX18 := Lib.hid ((hb.block _ (Array.getElem?_eq_some_iff.1 HX17.out).1).trans HX17.out)
  have HR18 := Lib.hid ((hb.block _ (Array.getElem?_eq_some_iff.1 HR17.out).1).trans HR17.out)
  have HV18 := Lib.hid (HV17.out.below hb (by omega))
  have HO18 := Lib.hid (HO17.out.below hb (by omega))
  have HP18 := Lib.hid (HP17.out.below hb (by omega))
  have HQ18 := Lib.hid (HQ17.out.below hb (by omega))
  have HB18 := Lib.hid (HB17.out.trans (hb.mono (by omega)))
  have HW18 := Lib.hid (HW17.out.below hb (by omega))
  have HY18 := Lib.hid ((hb.block _ (Array.getElem?_eq_some_iff.1 HY17.out).1).trans HY17.out)
  have HZ18 := Lib.hid ((hb.block _ (Array.getElem?_eq_some_iff.1 HZ17.out).1).trans HZ17.out)
  have HU18 := Lib.hid (HU17.out.below hb (by omega))
  clear hb HX17 HR17 HV17 HO17 HP17 HQ17 HB17 HW17 HY17 HZ17 HU17
  go_wp2_with fail
  refine (heldOps w18 n8 a1 _ _ 1 HU18.out.ops (by omega) (by omega) (by omega) hLn).mono ?_
  rintro e w19 ⟨rfl, hb⟩
  rw [HM1.out]
  have hs19 := hb.size
  have HX19 := Lib.hid ((hb.block _ (Array.getElem?_eq_some_iff.1 HX18.out).1).trans HX18.out)
  have HR19 := Lib.hid ((hb.block _ (Array.getElem?_eq_some_iff.1 HR18.out).1).trans HR18.out)
  have HV19 := Lib.hid (HV18.out.below hb (by omega))
  have HO19 := Lib.hid (HO18.out.below hb (by omega))
  have HP19 := Lib.hid (HP18.out.below hb (by omega))
  have HQ19 := Lib.hid (HQ18.out.below hb (by omega))
  have HB19 := Lib.hid (HB18.out.trans (hb.mono (by omega)))
  have HW19 := Lib.hid (HW18.out.below hb (by omega))
  have HY19 := Lib.hid ((hb.block _ (Array.getElem?_eq_some_iff.1 HY18.out).1).trans HY18.out)
  have HZ19 := Lib.hid ((hb.block _ (Array.getElem?_eq_some_iff.1 HZ18.out).1).trans HZ18.out)
  have HU19 := Lib.hid (HU18.out.below hb (by omega))
  clear hb HX18 HR18 HV18 HO18 HP18 HQ18 HB18 HW18 HY18 HZ18 HU18
  go_wp2
  go_ret
  exact ⟨rfl, HB19.out⟩
end Go.Proofs.Ytcebolkooohjhaa
