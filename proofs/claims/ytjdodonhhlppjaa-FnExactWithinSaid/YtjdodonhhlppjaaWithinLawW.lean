/- The walk of the law FnExactWithin. -/
import Derived.Test.YtjdodonhhlppjaaWithI
import Derived.Test.YtjdodonhhlppjaaWithS
import Derived.Test.YtjdodonhhlppjaaOwnB
import Derived.Test.YtjdodonhhlppjaaCartOkLawW
import Derived.Deep.Cut
import Derived.Deep.RegionHeld3
namespace Go.Proofs.Ytjdodonhhlppjaa
open Go.RowKit

set_option linter.unusedSimpArgs false in
set_option maxRecDepth 100000 in
set_option maxHeartbeats 16000000 in
theorem fnExactWithinWalk (av ao : Option Addr) (nv cv no co : Nat) (xs : List Int) (l : List OpV) (bv bo : Option Addr) (mv dv mo eo : Nat) (ys : List Int) (m : List OpV) (w : World) (hx : Ints w w.heap.size av nv xs) (h : Ops w w.heap.size ao no l) (hv : nv ≤ maxLen) (hn : no ≤ maxLen) (hm : ∀ i, i < no → (l.getD i OpV.zero).item.size ≤ maxLen) (hy : Ints w w.heap.size bv mv ys) (g : Ops w w.heap.size bo mo m) (hv2 : mv ≤ maxLen) (hn2 : mo ≤ maxLen) (hm2 : ∀ i, i < mo → (m.getD i OpV.zero).item.size ≤ maxLen) : Calls Try.prog 6 #[.agg #[.slice av nv cv, .slice ao no co], .agg #[.slice bv mv dv, .slice bo mo eo]] w fun e w' => e = .returned (.bool true) ∧ Below w.heap.size w w' := by
  have hT := Two.mk0 w #[.slice av nv cv, .slice ao no co] #[.slice bv mv dv, .slice bo mo eo] 25
  have HV0 := Lib.hid (hx.below hT.bel (Nat.le_refl _))
  have HO0 := Lib.hid (h.below hT.bel (Nat.le_refl _))
  have HP0 := Lib.hid (hy.below hT.bel (Nat.le_refl _))
  have HQ0 := Lib.hid (g.below hT.bel (Nat.le_refl _))
  have HX0 := Lib.hid hT.fst
  have HR0 := Lib.hid hT.snd
  have HB0 := Lib.hid hT.bel
  have HLx := Lib.hid hx.1
  have HLo := Lib.hid h.1
  have HLy := Lib.hid hy.1
  have HLm := Lib.hid g.1
  have HM := Lib.hid hm
  have HM2 := Lib.hid hm2
  clear hx h hT hm hy g hm2
  go_enter Try.func6, Try.ntmps6
  go_wp2_with fail
  generalize (w.alloc (.cells #[.slice av nv cv, .slice ao no co] 25)).alloc (.cells #[.slice bv mv dv, .slice bo mo eo] 25) = w0 at HV0 HO0 HP0 HQ0 HX0 HR0 HB0 ⊢
  have hs0 : w.heap.size + 2 ≤ w0.heap.size := by have := (Array.getElem?_eq_some_iff.1 HR0.out).1; omega
  refine (szCart w0 w.heap.size av ao nv cv no co l HO0.out (by omega) hv hn HM.out 1048576 (Nat.le_refl _)).mono ?_
  rintro e w1 ⟨rfl, hb⟩
  have hs1 := hb.size
  have HX1 := Lib.hid ((hb.block _ (Array.getElem?_eq_some_iff.1 HX0.out).1).trans HX0.out)
  have HR1 := Lib.hid ((hb.block _ (Array.getElem?_eq_some_iff.1 HR0.out).1).trans HR0.out)
  have HV1 := Lib.hid (HV0.out.below hb (by omega))
  have HO1 := Lib.hid (HO0.out.below hb (by omega))
  have HP1 := Lib.hid (HP0.out.below hb (by omega))
  have HQ1 := Lib.hid (HQ0.out.below hb (by omega))
  have HB1 := Lib.hid (HB0.out.trans (hb.mono (by omega)))
  clear hb HX0 HR0 HV0 HO0 HP0 HQ0 HB0
  by_cases hbig : nv + opsTotal l ≤ 1048576
  rotate_left
  · rw [if_neg hbig]
    go_wp2
    go_ret
    exact ⟨rfl, HB1.out⟩
  rw [if_pos hbig]
  obtain ⟨hlo, hit⟩ := total_item (l := l) (t := 1048576) (by omega)
  have HIt := Lib.hid hit
  have hno : no ≤ 1048576 := by rw [← HLo.out]; exact hlo
  have hnv : nv ≤ 1048576 := by omega
  have hd : decide (((1048576 - (nv + opsTotal l) : Nat) : Int) < 0) = false := decide_eq_false (by omega)
  have hlf : 1048576 - (nv + opsTotal l) ≤ 1048576 := by omega
  have HTot : Hid (nv + 8 * no ≤ 8388608) := by show _ ≤ _; have : opsTotal l ≥ l.length := by unfold opsTotal; omega
                                                have := HLo.out
                                                omega
  clear hit hbig
  have hxl : xs.length ≤ 1048576 := by rw [HLx.out]; exact hnv
  generalize 1048576 - (nv + opsTotal l) = lf at hd hlf ⊢
  obtain ⟨r0, r1⟩ := pair_cells HR1.out
  go_wp2_with fail
  refine (szCart w1 w.heap.size bv bo mv dv mo eo m HQ1.out (by omega) hv2 hn2 HM2.out lf hlf).mono ?_
  rintro e w2 ⟨rfl, hb⟩
  clear r0 r1
  have hs2 := hb.size
  have HX2 := Lib.hid ((hb.block _ (Array.getElem?_eq_some_iff.1 HX1.out).1).trans HX1.out)
  have HR2 := Lib.hid ((hb.block _ (Array.getElem?_eq_some_iff.1 HR1.out).1).trans HR1.out)
  have HV2 := Lib.hid (HV1.out.below hb (by omega))
  have HO2 := Lib.hid (HO1.out.below hb (by omega))
  have HP2 := Lib.hid (HP1.out.below hb (by omega))
  have HQ2 := Lib.hid (HQ1.out.below hb (by omega))
  have HB2 := Lib.hid (HB1.out.trans (hb.mono (by omega)))
  clear hb HX1 HR1 HV1 HO1 HP1 HQ1 HB1
  by_cases hbig : mv + opsTotal m ≤ lf
  rotate_left
  · rw [if_neg hbig]
    go_wp2
    go_ret
    exact ⟨rfl, HB2.out⟩
  rw [if_pos hbig]
  obtain ⟨hlm, hit2⟩ := total_item (l := m) (t := 1048576) (by omega)
  have HIt2 := Lib.hid hit2
  have hmo : mo ≤ 1048576 := by rw [← HLm.out]; exact hlm
  have hmv : mv ≤ 1048576 := by omega
  have hd2 : decide (((lf - (mv + opsTotal m) : Nat) : Int) < 0) = false := decide_eq_false (by omega)
  clear hit2 hbig
  have hyl : ys.length ≤ 1048576 := by rw [HLy.out]; exact hmv
  generalize lf - (mv + opsTotal m) = lf2 at hd2 ⊢
  obtain ⟨R, hR⟩ : ∃ R, inCart xs l ys m = R := ⟨_, rfl⟩
  have HLs := Lib.hid hR
  clear hR
  have hS : w2.drew.cell? ⟨w.heap.size, 0, none⟩ = some (.slice av nv cv) ∧ w2.drew.cell? ⟨w.heap.size, 1, none⟩ = some (.slice ao no co) ∧ w2.drew.cell? ⟨w.heap.size + 1, 0, none⟩ = some (.slice bv mv dv) ∧ w2.drew.cell? ⟨w.heap.size + 1, 1, none⟩ = some (.slice bo mo eo) := ⟨(pair_cells HX2.out).1, (pair_cells HX2.out).2, (pair_cells HR2.out).1, (pair_cells HR2.out).2⟩
  go_wp2_with fail
  refine wp_region_held_drew (S := fun w' => w'.cell? ⟨w.heap.size, 0, none⟩ = some (.slice av nv cv) ∧ w'.cell? ⟨w.heap.size, 1, none⟩ = some (.slice ao no co) ∧ w'.cell? ⟨w.heap.size + 1, 0, none⟩ = some (.slice bv mv dv) ∧ w'.cell? ⟨w.heap.size + 1, 1, none⟩ = some (.slice bo mo eo)) (by kernel_rfl) hS (fun hHeld => ?_)
  refine wpAnyH_take (i := 0) (oi := { dst := some 20, op := Op.load 25 (Operand.tmp 2), type := 25, pos := "exact.go:2344", after := #[], guard := none }) (v := ?_) rfl (by kernel_rfl) (by kernel_rfl) (by kernel_rfl) (fun _ _ _ h => h) (Or.inl ⟨by rfl, ?_⟩) (by assumption) ?_
  rotate_left
  · intro w hSw
    (try dsimp only at hSw)
    first | (go_simp; done) | (go_simp; with_reducible rfl)
  (try simp only [Act.put, List.setIfInBounds_toArray, List.set_cons_zero, List.set_cons_succ])
  refine wpAnyH_take (i := 2) (oi := { dst := some 22, op := Op.load 25 (Operand.tmp 3), type := 25, pos := "exact.go:2344", after := #[], guard := none }) (v := ?_) rfl (by kernel_rfl) (by kernel_rfl) (by kernel_rfl) (fun _ _ _ h => h) (Or.inl ⟨by rfl, ?_⟩) (by assumption) ?_
  rotate_left
  · intro w hSw
    (try dsimp only at hSw)
    first | (go_simp; done) | (go_simp; with_reducible rfl)
  (try simp only [Act.put, List.setIfInBounds_toArray, List.set_cons_zero, List.set_cons_succ])
  refine wpAnyH_ready (rs := [1]) (by kernel_rfl) (by simp) ?_
  refine AllReadyH.cons (o := { dst := some 21, op := Op.call { callee := Callee.value (Operand.func 14), args := #[Operand.tmp 20], argTypes := #[25] }, type := 30, pos := "exact.go:2344", after := #[{ on := 0, ground := Ground.data }], guard := none }) rfl (fun K hK => ?_) AllReadyH.nil
  go_simp
  go_at_call 14
  refine (toCart w2.drew w.heap.size av ao nv cv no co xs l (HV2.out.kept (w' := w2.drew) fun _ _ => rfl) (HO2.out.kept (w' := w2.drew) fun _ _ => rfl) (by show _ ≤ w2.heap.size; omega) hnv hno).mono ?_
  rintro e z1 ⟨va, oa, rfl, hi, ho, hbz⟩
  have hz1 : Below w2.heap.size w2 z1 := Below.mk hbz.os hbz.tape hbz.output hbz.size hbz.block
  have hS1 : z1.cell? ⟨w.heap.size, 0, none⟩ = some (.slice av nv cv) ∧ z1.cell? ⟨w.heap.size, 1, none⟩ = some (.slice ao no co) ∧ z1.cell? ⟨w.heap.size + 1, 0, none⟩ = some (.slice bv mv dv) ∧ z1.cell? ⟨w.heap.size + 1, 1, none⟩ = some (.slice bo mo eo) := ⟨(hbz.cell (block_lt_of_cell hS.1)).trans hS.1, (hbz.cell (block_lt_of_cell hS.2.1)).trans hS.2.1, (hbz.cell (block_lt_of_cell hS.2.2.1)).trans hS.2.2.1, (hbz.cell (block_lt_of_cell hS.2.2.2)).trans hS.2.2.2⟩
  refine hK.out _ _ hS1 (fun hHeld2 => ?_)
  clear hK K
  (try simp only [Act.put, List.setIfInBounds_toArray, List.set_cons_zero, List.set_cons_succ])
  refine wpAnyH_ready (rs := [3]) (by kernel_rfl) (by simp) ?_
  refine AllReadyH.cons (o := { dst := some 23, op := Op.call { callee := Callee.value (Operand.func 14), args := #[Operand.tmp 22], argTypes := #[25] }, type := 30, pos := "exact.go:2344", after := #[{ on := 2, ground := Ground.data }, { on := 1, ground := Ground.chain }], guard := none }) rfl (fun K hK => ?_) AllReadyH.nil
  go_simp
  go_at_call 14
  refine (toCart z1 w.heap.size bv bo mv dv mo eo ys m (HP2.out.below hz1 (by omega)) (HQ2.out.below hz1 (by omega)) (by have := hz1.size; omega) hmv hmo).mono ?_
  rintro e z2 ⟨vb, ob, rfl, hi2, ho2, hby⟩
  have hz2 : Below w2.heap.size w2 z2 := hz1.trans (hby.mono hz1.size)
  have hS2 : z2.cell? ⟨w.heap.size, 0, none⟩ = some (.slice av nv cv) ∧ z2.cell? ⟨w.heap.size, 1, none⟩ = some (.slice ao no co) ∧ z2.cell? ⟨w.heap.size + 1, 0, none⟩ = some (.slice bv mv dv) ∧ z2.cell? ⟨w.heap.size + 1, 1, none⟩ = some (.slice bo mo eo) := ⟨(hby.cell (block_lt_of_cell hS1.1)).trans hS1.1, (hby.cell (block_lt_of_cell hS1.2.1)).trans hS1.2.1, (hby.cell (block_lt_of_cell hS1.2.2.1)).trans hS1.2.2.1, (hby.cell (block_lt_of_cell hS1.2.2.2)).trans hS1.2.2.2⟩
  refine hK.out _ _ hS2 (fun hHeld3 => ?_)
  clear hK K
  (try simp only [Act.put, List.setIfInBounds_toArray, List.set_cons_zero, List.set_cons_succ])
  refine wpAnyH_ready (rs := [4]) (by kernel_rfl) (by simp) ?_
  refine AllReadyH.cons (o := { dst := some 24, op := Op.call { callee := Callee.value (Operand.func 26), args := #[Operand.tmp 21, Operand.tmp 23], argTypes := #[30, 30] }, type := 4, pos := "exact.go:2344", after := #[{ on := 1, ground := Ground.data }, { on := 3, ground := Ground.data }, { on := 3, ground := Ground.chain }], guard := none }) rfl (fun K hK => ?_) AllReadyH.nil
  go_simp
  go_at_call 26
  refine (specWithinC z2 z2.heap.size va oa vb ob _ _ _ _ _ _ _ _ xs l ys m (hi.below hby (Nat.le_refl _) |>.more hby.size) (ho.below hby (Nat.le_refl _) |>.more hby.size) hi2 ho2 (Nat.le_refl _) hxl hlo HIt.out hyl hlm HIt2.out).mono ?_
  rintro e w3 ⟨rfl, hbw⟩
  rw [HLs.out]
  have hS3 : w3.cell? ⟨w.heap.size, 0, none⟩ = some (.slice av nv cv) ∧ w3.cell? ⟨w.heap.size, 1, none⟩ = some (.slice ao no co) ∧ w3.cell? ⟨w.heap.size + 1, 0, none⟩ = some (.slice bv mv dv) ∧ w3.cell? ⟨w.heap.size + 1, 1, none⟩ = some (.slice bo mo eo) := ⟨(hbw.cell (block_lt_of_cell hS2.1)).trans hS2.1, (hbw.cell (block_lt_of_cell hS2.2.1)).trans hS2.2.1, (hbw.cell (block_lt_of_cell hS2.2.2.1)).trans hS2.2.2.1, (hbw.cell (block_lt_of_cell hS2.2.2.2)).trans hS2.2.2.2⟩
  refine hK.out _ _ hS3 (fun hHeld4 => ?_)
  clear hK K
  (try simp only [Act.put, List.setIfInBounds_toArray, List.set_cons_zero, List.set_cons_succ])
  refine wpAnyH_take (i := 5) (oi := { dst := some 6, op := Op.assign (Operand.tmp 24), type := 4, pos := "exact.go:2344", after := #[{ on := 4, ground := Ground.data }, { on := 4, ground := Ground.chain }, { on := 0, ground := Ground.phase }, { on := 1, ground := Ground.phase }, { on := 2, ground := Ground.phase }, { on := 3, ground := Ground.phase }, { on := 4, ground := Ground.phase }], guard := none }) (v := ?_) rfl (by kernel_rfl) (by kernel_rfl) (by kernel_rfl) (fun _ _ _ h => h) (Or.inl ⟨by rfl, ?_⟩) (by assumption) ?_
  rotate_left
  · intro w hSw
    (try dsimp only at hSw)
    first | (go_simp; done) | (go_simp; with_reducible rfl)
  (try simp only [Act.put, List.setIfInBounds_toArray, List.set_cons_zero, List.set_cons_succ])
  refine wpAnyH_done (by kernel_rfl) ?_ _
  have hb : Below w2.heap.size w2 w3 := hz2.trans (hbw.mono hz2.size)
  have hzs : w2.heap.size ≤ z2.heap.size := hz2.size
  clear hS hS1 hS2 hS3 hHeld hHeld2 hHeld3 hHeld4 hz1 hz2 hbz hby hbw hi ho hi2 ho2
  have hs3 := hb.size
  have HX3 := Lib.hid ((hb.block _ (Array.getElem?_eq_some_iff.1 HX2.out).1).trans HX2.out)
  have HR3 := Lib.hid ((hb.block _ (Array.getElem?_eq_some_iff.1 HR2.out).1).trans HR2.out)
  have HV3 := Lib.hid (HV2.out.below hb (by omega))
  have HO3 := Lib.hid (HO2.out.below hb (by omega))
  have HP3 := Lib.hid (HP2.out.below hb (by omega))
  have HQ3 := Lib.hid (HQ2.out.below hb (by omega))
  have HB3 := Lib.hid (HB2.out.trans (hb.mono (by omega)))
  clear hb HX2 HR2 HV2 HO2 HP2 HQ2 HB2
  clear hzs
  obtain ⟨c0, c1⟩ := pair_cells HX3.out
  go_wp2_with fail
  refine (toCartO w3 w.heap.size av ao nv cv no co xs l HV3.out HO3.out (by omega) hnv hno).mono ?_
  rintro e w4 ⟨ga, gb, mid, rfl, hgA, hm1A, hm2A, hi, ho, hb⟩
  clear c0 c1
  have hs4 := hb.size
  have HX4 := Lib.hid ((hb.block _ (Array.getElem?_eq_some_iff.1 HX3.out).1).trans HX3.out)
  have HR4 := Lib.hid ((hb.block _ (Array.getElem?_eq_some_iff.1 HR3.out).1).trans HR3.out)
  have HV4 := Lib.hid (HV3.out.below hb (by omega))
  have HO4 := Lib.hid (HO3.out.below hb (by omega))
  have HP4 := Lib.hid (HP3.out.below hb (by omega))
  have HQ4 := Lib.hid (HQ3.out.below hb (by omega))
  have HB4 := Lib.hid (HB3.out.trans (hb.mono (by omega)))
  clear hb HX3 HR3 HV3 HO3 HP3 HQ3 HB3
  have HI4 := Lib.hid hi
  have HG4 := Lib.hid ho
  clear hi ho
  generalize hn3 : w3.heap.size = n3 at HI4 hs3 hs4 hm1A
  go_upto_region 10 with fail
  have hb : Below w4.heap.size w4 (w4.alloc (.cells #[.slice ga xs.length xs.length, .slice gb l.length l.length] 30)) := (Below.refl _ _).alloc (Nat.le_refl _) _
  have HY5 := Lib.hid (boxAt (Below.refl _ (w4.alloc (.cells #[.slice ga xs.length xs.length, .slice gb l.length l.length] 30))))
  have hyA : w4.heap.size + 1 ≤ (w4.alloc (.cells #[.slice ga xs.length xs.length, .slice gb l.length l.length] 30)).heap.size := by show _ ≤ (w4.heap.push _).size; simp
  generalize w4.alloc (.cells #[.slice ga xs.length xs.length, .slice gb l.length l.length] 30) = w5 at hb HY5 hyA ⊢
  have hs5 := hb.size
  have HX5 := Lib.hid ((hb.block _ (Array.getElem?_eq_some_iff.1 HX4.out).1).trans HX4.out)
  have HR5 := Lib.hid ((hb.block _ (Array.getElem?_eq_some_iff.1 HR4.out).1).trans HR4.out)
  have HV5 := Lib.hid (HV4.out.below hb (by omega))
  have HO5 := Lib.hid (HO4.out.below hb (by omega))
  have HP5 := Lib.hid (HP4.out.below hb (by omega))
  have HQ5 := Lib.hid (HQ4.out.below hb (by omega))
  have HB5 := Lib.hid (HB4.out.trans (hb.mono (by omega)))
  have HI5 := Lib.hid (HI4.out.below hb (by omega))
  have HG5 := Lib.hid (HG4.out.below hb (by omega))
  clear hb HX4 HR4 HV4 HO4 HP4 HQ4 HB4 HI4 HG4
  generalize hn4 : w4.heap.size = n4 at HY5 HI5 HG5 hs4 hs5 hyA hm2A ⊢
  obtain ⟨c0, c1⟩ := pair_cells HR5.out
  go_wp2_with fail
  refine (toCartO w5 w.heap.size bv bo mv dv mo eo ys m HP5.out HQ5.out (by omega) hmv hmo).mono ?_
  rintro e w6 ⟨ha, hc, mid2, rfl, hgB, hm1B, hm2B, hi, ho, hb⟩
  clear c0 c1
  have hs6 := hb.size
  have HX6 := Lib.hid ((hb.block _ (Array.getElem?_eq_some_iff.1 HX5.out).1).trans HX5.out)
  have HR6 := Lib.hid ((hb.block _ (Array.getElem?_eq_some_iff.1 HR5.out).1).trans HR5.out)
  have HV6 := Lib.hid (HV5.out.below hb (by omega))
  have HO6 := Lib.hid (HO5.out.below hb (by omega))
  have HP6 := Lib.hid (HP5.out.below hb (by omega))
  have HQ6 := Lib.hid (HQ5.out.below hb (by omega))
  have HB6 := Lib.hid (HB5.out.trans (hb.mono (by omega)))
  have HI6 := Lib.hid (HI5.out.below hb (by omega))
  have HG6 := Lib.hid (HG5.out.below hb (by omega))
  have HY6 := Lib.hid ((hb.block _ (Array.getElem?_eq_some_iff.1 HY5.out).1).trans HY5.out)
  clear hb HX5 HR5 HV5 HO5 HP5 HQ5 HB5 HI5 HG5 HY5
  have HJ6 := Lib.hid hi
  have HK6 := Lib.hid ho
  clear hi ho
  generalize hn5 : w5.heap.size = n5 at HJ6 hs5 hs6 hm1B
  go_upto_region 11 with fail
  have hb : Below w6.heap.size w6 (w6.alloc (.cells #[.slice ha ys.length ys.length, .slice hc m.length m.length] 30)) := (Below.refl _ _).alloc (Nat.le_refl _) _
  have HZ7 := Lib.hid (boxAt (Below.refl _ (w6.alloc (.cells #[.slice ha ys.length ys.length, .slice hc m.length m.length] 30))))
  have hyB : w6.heap.size + 1 ≤ (w6.alloc (.cells #[.slice ha ys.length ys.length, .slice hc m.length m.length] 30)).heap.size := by show _ ≤ (w6.heap.push _).size; simp
  generalize w6.alloc (.cells #[.slice ha ys.length ys.length, .slice hc m.length m.length] 30) = w7 at hb HZ7 hyB ⊢
  have hs7 := hb.size
  have HX7 := Lib.hid ((hb.block _ (Array.getElem?_eq_some_iff.1 HX6.out).1).trans HX6.out)
  have HR7 := Lib.hid ((hb.block _ (Array.getElem?_eq_some_iff.1 HR6.out).1).trans HR6.out)
  have HV7 := Lib.hid (HV6.out.below hb (by omega))
  have HO7 := Lib.hid (HO6.out.below hb (by omega))
  have HP7 := Lib.hid (HP6.out.below hb (by omega))
  have HQ7 := Lib.hid (HQ6.out.below hb (by omega))
  have HB7 := Lib.hid (HB6.out.trans (hb.mono (by omega)))
  have HI7 := Lib.hid (HI6.out.below hb (by omega))
  have HG7 := Lib.hid (HG6.out.below hb (by omega))
  have HY7 := Lib.hid ((hb.block _ (Array.getElem?_eq_some_iff.1 HY6.out).1).trans HY6.out)
  have HJ7 := Lib.hid (HJ6.out.below hb (by omega))
  have HK7 := Lib.hid (HK6.out.below hb (by omega))
  clear hb HX6 HR6 HV6 HO6 HP6 HQ6 HB6 HI6 HG6 HY6 HJ6 HK6
  generalize hn6 : w6.heap.size = n6 at HZ7 HJ7 HK7 hs6 hs7 hyB hm2B ⊢
  obtain ⟨c0, c1⟩ := pair_cells HY7.out
  obtain ⟨e0, e1⟩ := pair_cells HZ7.out
  go_wp2_with fail
  refine (implWithinC w7 n6 ga gb ha hc _ _ _ _ _ _ _ _ xs l ys m (HI7.out.ints.more (by omega)) (HG7.out.ops.more (by omega)) (HJ7.out.ints.more (by omega)) HK7.out.ops (by omega) hxl (Nat.le_refl _) hlo hyl (Nat.le_refl _) hlm).mono ?_
  rintro e w8 ⟨rfl, hb⟩
  clear c0 c1 e0 e1
  rw [HLs.out]
  have hs8 := hb.size
  have HX8 := Lib.hid ((hb.block _ (Array.getElem?_eq_some_iff.1 HX7.out).1).trans HX7.out)
  have HR8 := Lib.hid ((hb.block _ (Array.getElem?_eq_some_iff.1 HR7.out).1).trans HR7.out)
  have HV8 := Lib.hid (HV7.out.below hb (by omega))
  have HO8 := Lib.hid (HO7.out.below hb (by omega))
  have HP8 := Lib.hid (HP7.out.below hb (by omega))
  have HQ8 := Lib.hid (HQ7.out.below hb (by omega))
  have HB8 := Lib.hid (HB7.out.trans (hb.mono (by omega)))
  have HI8 := Lib.hid (HI7.out.below hb (by omega))
  have HG8 := Lib.hid (HG7.out.below hb (by omega))
  have HY8 := Lib.hid ((hb.block _ (Array.getElem?_eq_some_iff.1 HY7.out).1).trans HY7.out)
  have HJ8 := Lib.hid (HJ7.out.below hb (by omega))
  have HK8 := Lib.hid (HK7.out.below hb (by omega))
  have HZ8 := Lib.hid ((hb.block _ (Array.getElem?_eq_some_iff.1 HZ7.out).1).trans HZ7.out)
  clear hb HX7 HR7 HV7 HO7 HP7 HQ7 HB7 HI7 HG7 HY7 HJ7 HK7 HZ7
  have hS : w8.drew.cell? ⟨n4, 0, none⟩ = some (.slice ga xs.length xs.length) ∧ w8.drew.cell? ⟨n4, 1, none⟩ = some (.slice gb l.length l.length) ∧ w8.drew.cell? ⟨w.heap.size, 0, none⟩ = some (.slice av nv cv) ∧ w8.drew.cell? ⟨w.heap.size, 1, none⟩ = some (.slice ao no co) := ⟨(pair_cells HY8.out).1, (pair_cells HY8.out).2, (pair_cells HX8.out).1, (pair_cells HX8.out).2⟩
  go_wp2_with fail
  refine wp_region_held_drew (S := fun w' => w'.cell? ⟨n4, 0, none⟩ = some (.slice ga xs.length xs.length) ∧ w'.cell? ⟨n4, 1, none⟩ = some (.slice gb l.length l.length) ∧ w'.cell? ⟨w.heap.size, 0, none⟩ = some (.slice av nv cv) ∧ w'.cell? ⟨w.heap.size, 1, none⟩ = some (.slice ao no co)) (by kernel_rfl) hS (fun hHeld => ?_)
  refine wpAnyH_take (i := 0) (oi := { dst := some 35, op := Op.load 30 (Operand.tmp 7), type := 30, pos := "exact.go:2351", after := #[], guard := none }) (v := ?_) rfl (by kernel_rfl) (by kernel_rfl) (by kernel_rfl) (fun _ _ _ h => h) (Or.inl ⟨by rfl, ?_⟩) (by assumption) ?_
  rotate_left
  · intro w hSw
    (try dsimp only at hSw)
    first | (go_simp; done) | (go_simp; with_reducible rfl)
  (try simp only [Act.put, List.setIfInBounds_toArray, List.set_cons_zero, List.set_cons_succ])
  refine wpAnyH_take (i := 1) (oi := { dst := some 36, op := Op.load 25 (Operand.tmp 2), type := 25, pos := "exact.go:2351", after := #[], guard := none }) (v := ?_) rfl (by kernel_rfl) (by kernel_rfl) (by kernel_rfl) (fun _ _ _ h => h) (Or.inl ⟨by rfl, ?_⟩) (by assumption) ?_
  rotate_left
  · intro w hSw
    (try dsimp only at hSw)
    first | (go_simp; done) | (go_simp; with_reducible rfl)
  (try simp only [Act.put, List.setIfInBounds_toArray, List.set_cons_zero, List.set_cons_succ])
  refine wpAnyH_ready (rs := [2]) (by kernel_rfl) (by simp) ?_
  refine AllReadyH.cons (o := { dst := some 37, op := Op.call { callee := Callee.value (Operand.func 14), args := #[Operand.tmp 36], argTypes := #[25] }, type := 30, pos := "exact.go:2351", after := #[{ on := 1, ground := Ground.data }], guard := none }) rfl (fun K hK => ?_) AllReadyH.nil
  go_simp
  go_at_call 14
  refine (toCart w8.drew w.heap.size av ao nv cv no co xs l (HV8.out.kept (w' := w8.drew) fun _ _ => rfl) (HO8.out.kept (w' := w8.drew) fun _ _ => rfl) (by show _ ≤ w8.heap.size; omega) hnv hno).mono ?_
  rintro e z1 ⟨ka, kb, rfl, hi, ho, hbz⟩
  have hz1 : Below w8.heap.size w8 z1 := Below.mk hbz.os hbz.tape hbz.output hbz.size hbz.block
  have hS1 : z1.cell? ⟨n4, 0, none⟩ = some (.slice ga xs.length xs.length) ∧ z1.cell? ⟨n4, 1, none⟩ = some (.slice gb l.length l.length) ∧ z1.cell? ⟨w.heap.size, 0, none⟩ = some (.slice av nv cv) ∧ z1.cell? ⟨w.heap.size, 1, none⟩ = some (.slice ao no co) := ⟨(hbz.cell (block_lt_of_cell hS.1)).trans hS.1, (hbz.cell (block_lt_of_cell hS.2.1)).trans hS.2.1, (hbz.cell (block_lt_of_cell hS.2.2.1)).trans hS.2.2.1, (hbz.cell (block_lt_of_cell hS.2.2.2)).trans hS.2.2.2⟩
  refine hK.out _ _ hS1 (fun hHeld2 => ?_)
  clear hK K
  (try simp only [Act.put, List.setIfInBounds_toArray, List.set_cons_zero, List.set_cons_succ])
  refine wpAnyH_ready (rs := [3]) (by kernel_rfl) (by simp) ?_
  refine AllReadyH.cons (o := { dst := some 38, op := Op.call { callee := Callee.value (Operand.func 17), args := #[Operand.tmp 35, Operand.tmp 37], argTypes := #[30, 30] }, type := 4, pos := "exact.go:2351", after := #[{ on := 0, ground := Ground.data }, { on := 2, ground := Ground.data }, { on := 2, ground := Ground.chain }], guard := none }) rfl (fun K hK => ?_) AllReadyH.nil
  go_simp
  go_at_call 17
  refine (eqCartV z1 ga ka gb kb _ _ _ _ xs l ((HI8.out.ints.below hz1 (by omega)).more (Nat.le_trans (by omega) hz1.size)) hi ((HG8.out.ops.below hz1 (by omega)).more (Nat.le_trans (by omega) hz1.size)) ho hxl hlo).mono ?_
  rintro e w9 ⟨rfl, hbw⟩
  have hS2 : w9.cell? ⟨n4, 0, none⟩ = some (.slice ga xs.length xs.length) ∧ w9.cell? ⟨n4, 1, none⟩ = some (.slice gb l.length l.length) ∧ w9.cell? ⟨w.heap.size, 0, none⟩ = some (.slice av nv cv) ∧ w9.cell? ⟨w.heap.size, 1, none⟩ = some (.slice ao no co) := ⟨(hbw.cell (block_lt_of_cell hS1.1)).trans hS1.1, (hbw.cell (block_lt_of_cell hS1.2.1)).trans hS1.2.1, (hbw.cell (block_lt_of_cell hS1.2.2.1)).trans hS1.2.2.1, (hbw.cell (block_lt_of_cell hS1.2.2.2)).trans hS1.2.2.2⟩
  refine hK.out _ _ hS2 (fun hHeld3 => ?_)
  clear hK K
  (try simp only [Act.put, List.setIfInBounds_toArray, List.set_cons_zero, List.set_cons_succ])
  refine wpAnyH_take (i := 4) (oi := { dst := some 39, op := Op.unOp UnOp.not 4 (Operand.tmp 38), type := 4, pos := "exact.go:2351", after := #[{ on := 3, ground := Ground.data }], guard := none }) (v := ?_) rfl (by kernel_rfl) (by kernel_rfl) (by kernel_rfl) (fun _ _ _ h => h) (Or.inl ⟨by rfl, ?_⟩) (by assumption) ?_
  rotate_left
  · intro w hSw
    (try dsimp only at hSw)
    first | (go_simp; done) | (go_simp; with_reducible rfl)
  (try simp only [Act.put, List.setIfInBounds_toArray, List.set_cons_zero, List.set_cons_succ])
  refine wpAnyH_done (by kernel_rfl) ?_ _
  have hb : Below w8.heap.size w8 w9 := hz1.trans (hbw.mono hz1.size)
  clear hS hS1 hS2 hHeld hHeld2 hHeld3 hz1 hbz hbw hi ho
  have hs9 := hb.size
  have HX9 := Lib.hid ((hb.block _ (Array.getElem?_eq_some_iff.1 HX8.out).1).trans HX8.out)
  have HR9 := Lib.hid ((hb.block _ (Array.getElem?_eq_some_iff.1 HR8.out).1).trans HR8.out)
  have HV9 := Lib.hid (HV8.out.below hb (by omega))
  have HO9 := Lib.hid (HO8.out.below hb (by omega))
  have HP9 := Lib.hid (HP8.out.below hb (by omega))
  have HQ9 := Lib.hid (HQ8.out.below hb (by omega))
  have HB9 := Lib.hid (HB8.out.trans (hb.mono (by omega)))
  have HI9 := Lib.hid (HI8.out.below hb (by omega))
  have HG9 := Lib.hid (HG8.out.below hb (by omega))
  have HY9 := Lib.hid ((hb.block _ (Array.getElem?_eq_some_iff.1 HY8.out).1).trans HY8.out)
  have HJ9 := Lib.hid (HJ8.out.below hb (by omega))
  have HK9 := Lib.hid (HK8.out.below hb (by omega))
  have HZ9 := Lib.hid ((hb.block _ (Array.getElem?_eq_some_iff.1 HZ8.out).1).trans HZ8.out)
  clear hb HX8 HR8 HV8 HO8 HP8 HQ8 HB8 HI8 HG8 HY8 HJ8 HK8 HZ8
  have hS : w9.drew.cell? ⟨n6, 0, none⟩ = some (.slice ha ys.length ys.length) ∧ w9.drew.cell? ⟨n6, 1, none⟩ = some (.slice hc m.length m.length) ∧ w9.drew.cell? ⟨w.heap.size + 1, 0, none⟩ = some (.slice bv mv dv) ∧ w9.drew.cell? ⟨w.heap.size + 1, 1, none⟩ = some (.slice bo mo eo) := ⟨(pair_cells HZ9.out).1, (pair_cells HZ9.out).2, (pair_cells HR9.out).1, (pair_cells HR9.out).2⟩
  go_wp2_with fail
  refine wp_region_held_drew (S := fun w' => w'.cell? ⟨n6, 0, none⟩ = some (.slice ha ys.length ys.length) ∧ w'.cell? ⟨n6, 1, none⟩ = some (.slice hc m.length m.length) ∧ w'.cell? ⟨w.heap.size + 1, 0, none⟩ = some (.slice bv mv dv) ∧ w'.cell? ⟨w.heap.size + 1, 1, none⟩ = some (.slice bo mo eo)) (by kernel_rfl) hS (fun hHeld => ?_)
  refine wpAnyH_take (i := 0) (oi := { dst := some 40, op := Op.load 30 (Operand.tmp 8), type := 30, pos := "exact.go:2354", after := #[], guard := none }) (v := ?_) rfl (by kernel_rfl) (by kernel_rfl) (by kernel_rfl) (fun _ _ _ h => h) (Or.inl ⟨by rfl, ?_⟩) (by assumption) ?_
  rotate_left
  · intro w hSw
    (try dsimp only at hSw)
    first | (go_simp; done) | (go_simp; with_reducible rfl)
  (try simp only [Act.put, List.setIfInBounds_toArray, List.set_cons_zero, List.set_cons_succ])
  refine wpAnyH_take (i := 1) (oi := { dst := some 41, op := Op.load 25 (Operand.tmp 3), type := 25, pos := "exact.go:2354", after := #[], guard := none }) (v := ?_) rfl (by kernel_rfl) (by kernel_rfl) (by kernel_rfl) (fun _ _ _ h => h) (Or.inl ⟨by rfl, ?_⟩) (by assumption) ?_
  rotate_left
  · intro w hSw
    (try dsimp only at hSw)
    first | (go_simp; done) | (go_simp; with_reducible rfl)
  (try simp only [Act.put, List.setIfInBounds_toArray, List.set_cons_zero, List.set_cons_succ])
  refine wpAnyH_ready (rs := [2]) (by kernel_rfl) (by simp) ?_
  refine AllReadyH.cons (o := { dst := some 42, op := Op.call { callee := Callee.value (Operand.func 14), args := #[Operand.tmp 41], argTypes := #[25] }, type := 30, pos := "exact.go:2354", after := #[{ on := 1, ground := Ground.data }], guard := none }) rfl (fun K hK => ?_) AllReadyH.nil
  go_simp
  go_at_call 14
  refine (toCart w9.drew w.heap.size bv bo mv dv mo eo ys m (HP9.out.kept (w' := w9.drew) fun _ _ => rfl) (HQ9.out.kept (w' := w9.drew) fun _ _ => rfl) (by show _ ≤ w9.heap.size; omega) hmv hmo).mono ?_
  rintro e z1 ⟨ka, kb, rfl, hi, ho, hbz⟩
  have hz1 : Below w9.heap.size w9 z1 := Below.mk hbz.os hbz.tape hbz.output hbz.size hbz.block
  have hS1 : z1.cell? ⟨n6, 0, none⟩ = some (.slice ha ys.length ys.length) ∧ z1.cell? ⟨n6, 1, none⟩ = some (.slice hc m.length m.length) ∧ z1.cell? ⟨w.heap.size + 1, 0, none⟩ = some (.slice bv mv dv) ∧ z1.cell? ⟨w.heap.size + 1, 1, none⟩ = some (.slice bo mo eo) := ⟨(hbz.cell (block_lt_of_cell hS.1)).trans hS.1, (hbz.cell (block_lt_of_cell hS.2.1)).trans hS.2.1, (hbz.cell (block_lt_of_cell hS.2.2.1)).trans hS.2.2.1, (hbz.cell (block_lt_of_cell hS.2.2.2)).trans hS.2.2.2⟩
  refine hK.out _ _ hS1 (fun hHeld2 => ?_)
  clear hK K
  (try simp only [Act.put, List.setIfInBounds_toArray, List.set_cons_zero, List.set_cons_succ])
  refine wpAnyH_ready (rs := [3]) (by kernel_rfl) (by simp) ?_
  refine AllReadyH.cons (o := { dst := some 43, op := Op.call { callee := Callee.value (Operand.func 17), args := #[Operand.tmp 40, Operand.tmp 42], argTypes := #[30, 30] }, type := 4, pos := "exact.go:2354", after := #[{ on := 0, ground := Ground.data }, { on := 2, ground := Ground.data }, { on := 2, ground := Ground.chain }], guard := none }) rfl (fun K hK => ?_) AllReadyH.nil
  go_simp
  go_at_call 17
  refine (eqCartV z1 ha ka hc kb _ _ _ _ ys m ((HJ9.out.ints.below hz1 (by omega)).more (Nat.le_trans (by omega) hz1.size)) hi ((HK9.out.ops.below hz1 (by omega)).more (Nat.le_trans (by omega) hz1.size)) ho hyl hlm).mono ?_
  rintro e w10 ⟨rfl, hbw⟩
  have hS2 : w10.cell? ⟨n6, 0, none⟩ = some (.slice ha ys.length ys.length) ∧ w10.cell? ⟨n6, 1, none⟩ = some (.slice hc m.length m.length) ∧ w10.cell? ⟨w.heap.size + 1, 0, none⟩ = some (.slice bv mv dv) ∧ w10.cell? ⟨w.heap.size + 1, 1, none⟩ = some (.slice bo mo eo) := ⟨(hbw.cell (block_lt_of_cell hS1.1)).trans hS1.1, (hbw.cell (block_lt_of_cell hS1.2.1)).trans hS1.2.1, (hbw.cell (block_lt_of_cell hS1.2.2.1)).trans hS1.2.2.1, (hbw.cell (block_lt_of_cell hS1.2.2.2)).trans hS1.2.2.2⟩
  refine hK.out _ _ hS2 (fun hHeld3 => ?_)
  clear hK K
  (try simp only [Act.put, List.setIfInBounds_toArray, List.set_cons_zero, List.set_cons_succ])
  refine wpAnyH_take (i := 4) (oi := { dst := some 44, op := Op.unOp UnOp.not 4 (Operand.tmp 43), type := 4, pos := "exact.go:2354", after := #[{ on := 3, ground := Ground.data }], guard := none }) (v := ?_) rfl (by kernel_rfl) (by kernel_rfl) (by kernel_rfl) (fun _ _ _ h => h) (Or.inl ⟨by rfl, ?_⟩) (by assumption) ?_
  rotate_left
  · intro w hSw
    (try dsimp only at hSw)
    first | (go_simp; done) | (go_simp; with_reducible rfl)
  (try simp only [Act.put, List.setIfInBounds_toArray, List.set_cons_zero, List.set_cons_succ])
  refine wpAnyH_done (by kernel_rfl) ?_ _
  have hb : Below w9.heap.size w9 w10 := hz1.trans (hbw.mono hz1.size)
  clear hS hS1 hS2 hHeld hHeld2 hHeld3 hz1 hbz hbw hi ho
  have hs10 := hb.size
  have HX10 := Lib.hid ((hb.block _ (Array.getElem?_eq_some_iff.1 HX9.out).1).trans HX9.out)
  have HR10 := Lib.hid ((hb.block _ (Array.getElem?_eq_some_iff.1 HR9.out).1).trans HR9.out)
  have HV10 := Lib.hid (HV9.out.below hb (by omega))
  have HO10 := Lib.hid (HO9.out.below hb (by omega))
  have HP10 := Lib.hid (HP9.out.below hb (by omega))
  have HQ10 := Lib.hid (HQ9.out.below hb (by omega))
  have HB10 := Lib.hid (HB9.out.trans (hb.mono (by omega)))
  have HI10 := Lib.hid (HI9.out.below hb (by omega))
  have HG10 := Lib.hid (HG9.out.below hb (by omega))
  have HY10 := Lib.hid ((hb.block _ (Array.getElem?_eq_some_iff.1 HY9.out).1).trans HY9.out)
  have HJ10 := Lib.hid (HJ9.out.below hb (by omega))
  have HK10 := Lib.hid (HK9.out.below hb (by omega))
  have HZ10 := Lib.hid ((hb.block _ (Array.getElem?_eq_some_iff.1 HZ9.out).1).trans HZ9.out)
  clear hb HX9 HR9 HV9 HO9 HP9 HQ9 HB9 HI9 HG9 HY9 HJ9 HK9 HZ9
  go_wp2
  go_ret
  exact ⟨rfl, HB10.out⟩
end Go.Proofs.Ytjdodonhhlppjaa
