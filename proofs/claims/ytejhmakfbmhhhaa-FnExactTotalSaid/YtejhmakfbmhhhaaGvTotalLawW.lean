/- The walk of the law FnExactTotal. -/
import Derived.Test.YtejhmakfbmhhhaaGv34
import Derived.Test.YtejhmakfbmhhhaaGv18
import Derived.Deep.Cut
import Derived.Deep.RegionHeld3
namespace Go.Proofs.Ytejhmakfbmhhhaa
open Go.RowKit

theorem items_all {l : List OpV} {c : Nat} (h : ∀ i, i < l.length → (l.getD i OpV.zero).item.size ≤ c) : ∀ o ∈ l, o.item.size ≤ c := fun o ho => by
  obtain ⟨i, hi, e⟩ := List.mem_iff_getElem.1 ho
  have := h i hi
  rw [List.getD_eq_getElem?_getD, List.getElem?_eq_getElem hi] at this
  rw [← e]
  exact this

set_option maxRecDepth 100000 in
set_option maxHeartbeats 4000000 in
theorem fnExactTotalWalk (av ao : Option Addr) (nv cv no co : Nat) (xs : List Int) (l : List OpV)  (w : World) (hx : Ints w w.heap.size av nv xs) (h : Ops w w.heap.size ao no l) (hv : nv ≤ maxLen) (hn : no ≤ maxLen) (hm : ∀ i, i < no → (l.getD i OpV.zero).item.size ≤ maxLen) : Calls Try.prog 10 #[.agg #[.slice av nv cv, .slice ao no co]] w fun e w' => e = .returned (.bool true) ∧ Below w.heap.size w w' := by
  have hb0 : Below w.heap.size w (w.alloc (.cells #[.slice av nv cv, .slice ao no co] 43)) := (Below.refl _ w).alloc (Nat.le_refl _) _
  have HV := Lib.hid (hx.below hb0 (Nat.le_refl _))
  have HO := Lib.hid (h.below hb0 (Nat.le_refl _))
  have HB := Lib.hid hb0
  have HX := Lib.hid (boxAt (Below.refl _ (w.alloc (.cells #[.slice av nv cv, .slice ao no co] 43))))
  have HLx := Lib.hid hx.1
  have HLo := Lib.hid h.1
  have HM := Lib.hid hm
  have hsz : w.heap.size < (w.alloc (.cells #[.slice av nv cv, .slice ao no co] 43)).heap.size := by show _ < (w.heap.push _).size; simp
  clear hx h hb0 hm
  go_enter Try.func10, Try.ntmps10
  go_wp2_with fail
  generalize w.alloc (.cells #[.slice av nv cv, .slice ao no co] 43) = w0 at HV HO HB HX hsz ⊢
  refine (szCart w0 w.heap.size av ao nv cv no co l HO.out (by omega) hv hn HM.out 1048576 (Nat.le_refl _)).mono ?_
  rintro e w1 ⟨rfl, hb1⟩
  have HX1 := Lib.hid ((hb1.block _ hsz).trans HX.out)
  have HV1 := Lib.hid (HV.out.below hb1 (by omega))
  have HO1 := Lib.hid (HO.out.below hb1 (by omega))
  have HB1 := Lib.hid (HB.out.trans (hb1.mono HB.out.size))
  have hs1 := hb1.size
  clear hb1 HX HV HO HB
  by_cases hbig : nv + opsTotal l ≤ 1048576
  rotate_left
  · rw [if_neg hbig]
    go_wp2
    go_ret
    exact ⟨rfl, HB1.out⟩
  rw [if_pos hbig]
  obtain ⟨hlo, hit⟩ := total_item (l := l) (t := 1048576) (by omega)
  have HIt := Lib.hid hit
  have hno : no ≤ 1048576 := by rw [← HLo.out]; exact hlo
  have hnv : nv ≤ 1048576 := by omega
  have hd : decide (((1048576 - (nv + opsTotal l) : Nat) : Int) < 0) = false := decide_eq_false (by omega)
  clear hit hbig
  have hxl : xs.length ≤ 1048576 := by rw [HLx.out]; exact hnv
  generalize 1048576 - (nv + opsTotal l) = lf at hd ⊢
  obtain ⟨tn, htn⟩ : ∃ n, totalN xs l = n := ⟨_, rfl⟩
  have HTn := Lib.hid htn
  clear htn
  obtain ⟨c0, c1⟩ := pair_cells HX1.out
  go_wp2_with fail
  refine (toCart w1 w.heap.size av ao nv cv no co xs l HV1.out HO1.out (by omega) hnv hno).mono ?_
  rintro e w2 ⟨va, oa, rfl, hi, ho, hb⟩
  clear c0 c1
  have HX2 := Lib.hid ((hb.block _ (Array.getElem?_eq_some_iff.1 HX1.out).1).trans HX1.out)
  have HV2 := Lib.hid (HV1.out.below hb (by omega))
  have HO2 := Lib.hid (HO1.out.below hb (by omega))
  have HB2 := Lib.hid (HB1.out.trans (hb.mono HB1.out.size))
  have hs2 := hb.size
  clear HX1 HV1 HO1 HB1
  clear hb
  have HI := Lib.hid hi
  have HOo := Lib.hid ho
  clear hi ho
  go_wp2_with fail
  refine (specTotal w2 w2.heap.size va oa _ _ _ _ xs l HI.out HOo.out (Nat.le_refl _) hxl hlo HIt.out).mono ?_
  rintro e w3 ⟨rfl, hb⟩
  rw [HTn.out]
  have HX3 := Lib.hid ((hb.block _ (Array.getElem?_eq_some_iff.1 HX2.out).1).trans HX2.out)
  have HV3 := Lib.hid (HV2.out.below hb (by omega))
  have HO3 := Lib.hid (HO2.out.below hb (by omega))
  have HB3 := Lib.hid (HB2.out.trans (hb.mono HB2.out.size))
  have hs3 := hb.size
  clear HX2 HV2 HO2 HB2
  clear hb HI HOo
  obtain ⟨c0, c1⟩ := pair_cells HX3.out
  go_wp2_with fail
  refine (toCart w3 w.heap.size av ao nv cv no co xs l HV3.out HO3.out (by omega) hnv hno).mono ?_
  rintro e w4 ⟨ga, gb, rfl, hi, ho, hb⟩
  clear c0 c1
  have HX4 := Lib.hid ((hb.block _ (Array.getElem?_eq_some_iff.1 HX3.out).1).trans HX3.out)
  have HV4 := Lib.hid (HV3.out.below hb (by omega))
  have HO4 := Lib.hid (HO3.out.below hb (by omega))
  have HB4 := Lib.hid (HB3.out.trans (hb.mono HB3.out.size))
  have hs4 := hb.size
  clear HX3 HV3 HO3 HB3
  clear hb
  have HI4 := Lib.hid hi
  have HG4 := Lib.hid ho
  clear hi ho
  go_upto_region 7 with fail
  have hb : Below w4.heap.size w4 (w4.alloc (.cells #[.slice ga xs.length xs.length, .slice gb l.length l.length] 31)) := (Below.refl _ _).alloc (Nat.le_refl _) _
  have HY5 := Lib.hid (boxAt (Below.refl _ (w4.alloc (.cells #[.slice ga xs.length xs.length, .slice gb l.length l.length] 31))))
  generalize w4.alloc (.cells #[.slice ga xs.length xs.length, .slice gb l.length l.length] 31) = w5 at hb HY5 ⊢
  have HX5 := Lib.hid ((hb.block _ (Array.getElem?_eq_some_iff.1 HX4.out).1).trans HX4.out)
  have HV5 := Lib.hid (HV4.out.below hb (by omega))
  have HO5 := Lib.hid (HO4.out.below hb (by omega))
  have HB5 := Lib.hid (HB4.out.trans (hb.mono HB4.out.size))
  have hs5 := hb.size
  clear HX4 HV4 HO4 HB4
  have HI5 := Lib.hid (HI4.out.below hb (Nat.le_refl _))
  have HG5 := Lib.hid (HG4.out.below hb (Nat.le_refl _))
  generalize w4.heap.size = n4 at HY5 HI5 HG5 hs4 hs5 ⊢
  clear hb HI4 HG4
  obtain ⟨c0, c1⟩ := pair_cells HY5.out
  go_wp2_with fail
  refine (implTotal w5 n4 ga gb _ _ _ _ xs l HI5.out HG5.out (by omega) hxl (Nat.le_refl _) (fits (Nat.le_refl _) hlo) (items_all HIt.out)).mono ?_
  rintro e w6 ⟨rfl, hb⟩
  clear c0 c1
  rw [HTn.out]
  have HX6 := Lib.hid ((hb.block _ (Array.getElem?_eq_some_iff.1 HX5.out).1).trans HX5.out)
  have HV6 := Lib.hid (HV5.out.below hb (by omega))
  have HO6 := Lib.hid (HO5.out.below hb (by omega))
  have HB6 := Lib.hid (HB5.out.trans (hb.mono HB5.out.size))
  have hs6 := hb.size
  clear HX5 HV5 HO5 HB5
  have HY6 := Lib.hid ((hb.block _ (Array.getElem?_eq_some_iff.1 HY5.out).1).trans HY5.out)
  have HI6 := Lib.hid (HI5.out.below hb (by omega))
  have HG6 := Lib.hid (HG5.out.below hb (by omega))
  clear hb HY5 HI5 HG5
  have hc1 : (tn != tn) = false := bne_self_eq_false _
  go_upto_region 10 with fail
  have hn4 := (Array.getElem?_eq_some_iff.1 HY6.out).1
  have hS6 : w6.drew.cell? ⟨n4, 0, none⟩ = some (.slice ga xs.length xs.length) ∧ w6.drew.cell? ⟨n4, 1, none⟩ = some (.slice gb l.length l.length) ∧ w6.drew.cell? ⟨w.heap.size, 0, none⟩ = some (.slice av nv cv) ∧ w6.drew.cell? ⟨w.heap.size, 1, none⟩ = some (.slice ao no co) := ⟨(pair_cells HY6.out).1, (pair_cells HY6.out).2, (pair_cells HX6.out).1, (pair_cells HX6.out).2⟩
  have HTc := Lib.hid (toCart w6.drew w.heap.size av ao nv cv no co xs l (HV6.out.kept (w' := w6.drew) fun _ _ => rfl) (HO6.out.kept (w' := w6.drew) fun _ _ => rfl) (by show _ ≤ w6.heap.size; omega) hnv hno)
  have hwlt : w.heap.size < w6.heap.size := by omega
  have hn46 : n4 ≤ w6.heap.size := by omega
  go_region_held3 (fun w' => w'.cell? ⟨n4, 0, none⟩ = some (.slice ga xs.length xs.length) ∧ w'.cell? ⟨n4, 1, none⟩ = some (.slice gb l.length l.length) ∧ w'.cell? ⟨w.heap.size, 0, none⟩ = some (.slice av nv cv) ∧ w'.cell? ⟨w.heap.size, 1, none⟩ = some (.slice ao no co)) (first | with_reducible exact hS6 | with_reducible exact hS7 | with_reducible exact hS8)
    (first | (go_at_call 23; refine HTc.out.mono ?_; rintro e w7 ⟨ka, kb, rfl, hi7, ho7, hb7⟩; have hS7 : w7.cell? ⟨n4, 0, none⟩ = some (.slice ga xs.length xs.length) ∧ w7.cell? ⟨n4, 1, none⟩ = some (.slice gb l.length l.length) ∧ w7.cell? ⟨w.heap.size, 0, none⟩ = some (.slice av nv cv) ∧ w7.cell? ⟨w.heap.size, 1, none⟩ = some (.slice ao no co) := ⟨(hb7.cell (p := ⟨n4, 0, none⟩) hn4).trans hS6.1, (hb7.cell (p := ⟨n4, 1, none⟩) hn4).trans hS6.2.1, (hb7.cell (p := ⟨w.heap.size, 0, none⟩) hwlt).trans hS6.2.2.1, (hb7.cell (p := ⟨w.heap.size, 1, none⟩) hwlt).trans hS6.2.2.2⟩) | (go_at_call 25; refine (eqCartV w7 ga ka gb kb _ _ _ _ xs l ((HI6.out.below (Below.mk hb7.os hb7.tape hb7.output hb7.size hb7.block : Below w6.heap.size w6 w7) hn46).more (Nat.le_trans hn46 hb7.size)) hi7 ((HG6.out.below (Below.mk hb7.os hb7.tape hb7.output hb7.size hb7.block : Below w6.heap.size w6 w7) hn46).more (Nat.le_trans hn46 hb7.size)) ho7 hxl hlo).mono ?_; rintro e w8 ⟨rfl, hb8⟩; have hS8 : w8.cell? ⟨n4, 0, none⟩ = some (.slice ga xs.length xs.length) ∧ w8.cell? ⟨n4, 1, none⟩ = some (.slice gb l.length l.length) ∧ w8.cell? ⟨w.heap.size, 0, none⟩ = some (.slice av nv cv) ∧ w8.cell? ⟨w.heap.size, 1, none⟩ = some (.slice ao no co) := ⟨(hb8.cell (block_lt_of_cell hS7.1)).trans hS7.1, (hb8.cell (block_lt_of_cell hS7.2.1)).trans hS7.2.1, (hb8.cell (block_lt_of_cell hS7.2.2.1)).trans hS7.2.2.1, (hb8.cell (block_lt_of_cell hS7.2.2.2)).trans hS7.2.2.2⟩))
  have hB7 : Below w.heap.size w w7 := HB6.out.trans ((Below.mk hb7.os hb7.tape hb7.output hb7.size hb7.block : Below w6.heap.size w6 w7).mono HB6.out.size)
  have HB8 := Lib.hid (hB7.trans (hb8.mono hB7.size))
  clear hS6 hS7 hS8 hb7 hb8 hB7 hi7 ho7
  go_wp2
  go_ret
  exact ⟨rfl, HB8.out⟩
end Go.Proofs.Ytejhmakfbmhhhaa
