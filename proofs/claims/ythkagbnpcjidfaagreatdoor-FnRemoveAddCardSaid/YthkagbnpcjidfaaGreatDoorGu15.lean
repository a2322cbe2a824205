/- Walks and mathematics that several claims share, part 15. -/
import Derived.Test.YthkagbnpcjidfaaGreatDoorGu12
import Derived.Test.YthkagbnpcjidfaaGreatDoorGu14
import Derived.Deep.RegionHeld3
import Derived.Deep.Cut
namespace Go.Proofs.YthkagbnpcjidfaaGreatDoor
set_option maxRecDepth 100000
open Go.RowKit
set_option linter.unusedVariables false
set_option linter.unusedSimpArgs false
theorem aHk (s : ByteArray) (h : s.size ≤ 1048576) (w : World) : Calls Tryz.prog 97 #[.string s] w fun e w' => e = .returned (.string s) ∧ Below w.heap.size w w' := by
 go_enter Tryz.func97, Tryz.ntmps97
 go_wp2_with fail
 refine (Tryz.stringslite_Clone s _ (by omega)).mono ?_
 rintro e w1 ⟨rfl, aG⟩
 go_wp2
 go_ret
 exact ⟨rfl, aG⟩
def xB (s : cL) : Int := if s.level % 2 = 1 then s.counted.qty else 0
def xA (s : cL) : Bool := if s.level % 2 = 1 then decide (s.placed.kind = 4) else false
def xC (s : cL) (item : ByteArray) : ByteArray := if s.level % 2 = 1 then item else ⟨#[]⟩
theorem Tryz.sizeLine : (Tryz.prog.info? 39).map (·.size) = some 3 := by kernel_rfl
set_option maxHeartbeats 10000000 in
theorem X6 (s : cL) (item : ByteArray) (h0 : 0 ≤ s.level) (hi : item.size ≤ 1048576) (w : World) : Calls Tryz.prog 65 #[.agg s.cells, .string item] w fun e w' => e = .returned (.agg #[.string (xC s item), .int .i64 (xB s), .bool (xA s)]) ∧ Below w.heap.size w w' := by
 have hx := Below.heap_alloc (w.alloc (.cells s.cells 96)) (.cells #[.string ⟨#[]⟩, .int .i64 0, .bool false] 39) w.heap.size (by simp)
 have HX : Hid (((w.alloc (.cells s.cells 96)).alloc (.cells #[.string ⟨#[]⟩, .int .i64 0, .bool false] 39)).heap[w.heap.size]? = some (.cells s.cells 96 (0, 0))) := hx.trans (World.alloc_heap_new w _)
 have HR : Hid (((w.alloc (.cells s.cells 96)).alloc (.cells #[.string ⟨#[]⟩, .int .i64 0, .bool false] 39)).heap[w.heap.size + 1]? = some (.cells #[.string ⟨#[]⟩, .int .i64 0, .bool false] 39 (0, 0))) := by
  have e : (w.alloc (.cells s.cells 96)).heap.size = w.heap.size + 1 := by simp
  show _ = _
  rw [← e]; exact World.alloc_heap_new _ _
 have HB : Hid (Below w.heap.size w ((w.alloc (.cells s.cells 96)).alloc (.cells #[.string ⟨#[]⟩, .int .i64 0, .bool false] 39))) := ((Below.refl _ w).alloc aPq _).alloc (by simp) _
 clear hx
 have HP := aPo h0
 clear h0
 by_cases hm : s.level % 2 = 1
 rotate_left
 ·have HI : Hid (xC s item = ⟨#[]⟩ ∧ xB s = 0 ∧ xA s = false) := ⟨if_neg hm, if_neg hm, if_neg hm⟩
  have HD := aPo (decide_eq_false hm); clear hm
  go_enter Tryz.func65, Tryz.ntmps65
  go_wp2_with (refine wpList_load_row rfl 96 (.tmp 2) rfl w.heap.size rfl 96 s.cells (0, 0) _ HX.out Tryz.underlying96 rfl s.infoOf ?_)
  generalize (w.alloc (.cells s.cells 96)).alloc (.cells #[.string ⟨#[]⟩, .int .i64 0, .bool false] 39) = w0 at HX HR HB ⊢; refine (mM s HP.out w0).mono ?_
  rintro e w1 ⟨rfl, aG⟩; rw [HD.out]; have vU := aPo ((aG.block _ (aPp HX.out).1).trans HX.out); have fQ := aPo ((aG.block _ (aPp HR.out).1).trans HR.out); have cU := aPo (HB.out.trans (aG.mono HB.out.size)); clear aG HX HR HB
  go_wp2_with (refine wpList_store_row rfl 39 (.tmp 4) (.tmp 8) rfl (w.heap.size + 1) #[.string ⟨#[]⟩, .int .i64 0, .bool false] rfl rfl 39 _ fQ.out Tryz.sizeLine rfl (by simp [Value.oneCell']) ?_)
  have HF := setRow_heap w1 (w.heap.size + 1) _ #[.string ⟨#[]⟩, .int .i64 0, .bool false] 39 (0, 0) fQ.out; exact bodyPost_ret (results_cell_row rfl _ _ _ _ _ _ _ rfl HF Tryz.underlying39 rfl Tryz.sizeLine) rfl ⟨by rw [HI.out.1, HI.out.2.1, HI.out.2.2], eY cU.out (by omega) fQ.out⟩
 have HI : Hid (xC s item = item ∧ xB s = s.counted.qty ∧ xA s = decide (s.placed.kind = 4)) := ⟨if_pos hm, if_pos hm, if_pos hm⟩
 have HD := aPo (decide_eq_true hm)
 clear hm
 go_enter Tryz.func65, Tryz.ntmps65
 go_wp2_with (refine wpList_load_row rfl 96 (.tmp 2) rfl w.heap.size rfl 96 s.cells (0, 0) _ HX.out Tryz.underlying96 rfl s.infoOf ?_)
 generalize (w.alloc (.cells s.cells 96)).alloc (.cells #[.string ⟨#[]⟩, .int .i64 0, .bool false] 39) = w0 at HX HR HB ⊢
 refine (mM s HP.out w0).mono ?_
 rintro e w1 ⟨rfl, aG⟩
 rw [HD.out]
 have vU := aPo ((aG.block _ (aPp HX.out).1).trans HX.out)
 have fQ := aPo ((aG.block _ (aPp HR.out).1).trans HR.out)
 have cU := aPo (HB.out.trans (aG.mono HB.out.size))
 clear aG HX HR HB
 go_upto_region 3 with fail
 have bG : w1.drew.cell? ⟨w.heap.size, 6, none⟩ = some (.int .i64 s.counted.qty) ∧ w1.drew.cell? ⟨w.heap.size, 12, none⟩ = some (.int .i64 s.placed.kind) := ⟨(lH vU.out).2.2.2.2.2.2.1, (lH vU.out).2.2.2.2.2.2.2.2.2.2.2.2.1⟩
 have uM : w.heap.size + 1 < w1.heap.size := (aPp fQ.out).1
 by_cases hk : s.placed.kind = 4
 ·have F5 : (s.placed.kind == 4) = true := by rw [hk]; rfl
  have HK := aPo (decide_eq_true hk); clear hk
  go_region_held3 (fun w' => w'.cell? ⟨w.heap.size, 6, none⟩ = some (.int .i64 s.counted.qty) ∧ w'.cell? ⟨w.heap.size, 12, none⟩ = some (.int .i64 s.placed.kind)) (first | with_reducible exact bG | with_reducible exact eD | with_reducible exact gI _ _ _)
   (first | (go_at_call 97; refine (aHk item hi _).mono ?_; rintro e w2 ⟨rfl, aM⟩; have eD : w2.cell? ⟨w.heap.size, 6, none⟩ = some (.int .i64 s.counted.qty) ∧ w2.cell? ⟨w.heap.size, 12, none⟩ = some (.int .i64 s.placed.kind) := ⟨(aM.cell (p := ⟨w.heap.size, 6, none⟩) (by show w.heap.size < w1.heap.size; omega)).trans bG.1, (aM.cell (p := ⟨w.heap.size, 12, none⟩) (by show w.heap.size < w1.heap.size; omega)).trans bG.2⟩; have vR : w2.heap[w.heap.size + 1]? = some (.cells #[.string ⟨#[]⟩, .int .i64 0, .bool false] 39 (0, 0)) := (aM.block _ uM).trans fQ.out; have lM := aPo vR; have e0 := cell_of_row w2 (w.heap.size + 1) 0 _ _ _ vR; have e1 := cell_of_row w2 (w.heap.size + 1) 1 _ _ _ vR; have e2 := cell_of_row w2 (w.heap.size + 1) 2 _ _ _ vR; have f0 := frozen_of_row w2 (w.heap.size + 1) 0 _ _ vR; have f1 := frozen_of_row w2 (w.heap.size + 1) 1 _ _ vR; have f2 := frozen_of_row w2 (w.heap.size + 1) 2 _ _ vR; simp only [List.getElem?_toArray, List.getElem?_cons_zero, List.getElem?_cons_succ] at e0 e1 e2; have gI : ∀ v0 v1 v2 : Value, (((w2.setCell ⟨w.heap.size + 1, 0, none⟩ v0).setCell ⟨w.heap.size + 1, 1, none⟩ v1).setCell ⟨w.heap.size + 1, 2, none⟩ v2).cell? ⟨w.heap.size, 6, none⟩ = some (.int .i64 s.counted.qty) ∧ (((w2.setCell ⟨w.heap.size + 1, 0, none⟩ v0).setCell ⟨w.heap.size + 1, 1, none⟩ v1).setCell ⟨w.heap.size + 1, 2, none⟩ v2).cell? ⟨w.heap.size, 12, none⟩ = some (.int .i64 s.placed.kind) := fun v0 v1 v2 => ⟨(World.cell?_of_block (a := ⟨w.heap.size, 6, none⟩) ((heap_setCell_other _ _ _ _ (by show w.heap.size ≠ w.heap.size + 1; omega)).trans ((heap_setCell_other _ _ _ _ (by show w.heap.size ≠ w.heap.size + 1; omega)).trans (heap_setCell_other _ _ _ _ (by show w.heap.size ≠ w.heap.size + 1; omega))))).trans eD.1, (World.cell?_of_block (a := ⟨w.heap.size, 12, none⟩) ((heap_setCell_other _ _ _ _ (by show w.heap.size ≠ w.heap.size + 1; omega)).trans ((heap_setCell_other _ _ _ _ (by show w.heap.size ≠ w.heap.size + 1; omega)).trans (heap_setCell_other _ _ _ _ (by show w.heap.size ≠ w.heap.size + 1; omega))))).trans eD.2⟩))
  have HF : (((w2.setCell ⟨w.heap.size + 1, 0, none⟩ (.string item)).setCell ⟨w.heap.size + 1, 1, none⟩ (.int .i64 s.counted.qty)).setCell ⟨w.heap.size + 1, 2, none⟩ (.bool true)).heap[w.heap.size + 1]? = some (.cells #[.string item, .int .i64 s.counted.qty, .bool true] 39 (0, 0)) := heap_setCell_same _ _ _ _ _ _ (heap_setCell_same _ _ _ _ _ _ (heap_setCell_same _ _ _ _ _ _ lM.out)); have G0 : Below w.heap.size w w2 := cU.out.trans ((Below.mk aM.os aM.tape aM.output aM.size aM.block : Below w1.heap.size w1 w2).mono cU.out.size); have dX := aPo (((G0.setCell (p := ⟨w.heap.size + 1, 0, none⟩) (by show _ ≤ w.heap.size + 1; omega) (.string item)).setCell (p := ⟨w.heap.size + 1, 1, none⟩) (by show _ ≤ w.heap.size + 1; omega) (.int .i64 s.counted.qty)).setCell (p := ⟨w.heap.size + 1, 2, none⟩) (by show _ ≤ w.heap.size + 1; omega) (.bool true))
  have HF' := aPo HF; clear bG eD gI vR e0 e1 e2 f0 f1 f2 aM G0 HF; generalize (((w2.setCell ⟨w.heap.size + 1, 0, none⟩ (.string item)).setCell ⟨w.heap.size + 1, 1, none⟩ (.int .i64 s.counted.qty)).setCell ⟨w.heap.size + 1, 2, none⟩ (.bool true)) = wf at HF' dX ⊢; go_wp2
  exact bodyPost_ret (results_cell_row rfl _ _ _ _ _ _ _ rfl HF'.out Tryz.underlying39 rfl Tryz.sizeLine) rfl ⟨by rw [HI.out.1, HI.out.2.1, HI.out.2.2, HK.out], dX.out⟩
 ·have F5 : (s.placed.kind == 4) = false := by rw [beq_eq_false_iff_ne]; exact hk
  have HK := aPo (decide_eq_false hk); clear hk
  go_region_held3 (fun w' => w'.cell? ⟨w.heap.size, 6, none⟩ = some (.int .i64 s.counted.qty) ∧ w'.cell? ⟨w.heap.size, 12, none⟩ = some (.int .i64 s.placed.kind)) (first | with_reducible exact bG | with_reducible exact eD | with_reducible exact gI _ _ _)
   (first | (go_at_call 97; refine (aHk item hi _).mono ?_; rintro e w2 ⟨rfl, aM⟩; have eD : w2.cell? ⟨w.heap.size, 6, none⟩ = some (.int .i64 s.counted.qty) ∧ w2.cell? ⟨w.heap.size, 12, none⟩ = some (.int .i64 s.placed.kind) := ⟨(aM.cell (p := ⟨w.heap.size, 6, none⟩) (by show w.heap.size < w1.heap.size; omega)).trans bG.1, (aM.cell (p := ⟨w.heap.size, 12, none⟩) (by show w.heap.size < w1.heap.size; omega)).trans bG.2⟩; have vR : w2.heap[w.heap.size + 1]? = some (.cells #[.string ⟨#[]⟩, .int .i64 0, .bool false] 39 (0, 0)) := (aM.block _ uM).trans fQ.out; have lM := aPo vR; have e0 := cell_of_row w2 (w.heap.size + 1) 0 _ _ _ vR; have e1 := cell_of_row w2 (w.heap.size + 1) 1 _ _ _ vR; have e2 := cell_of_row w2 (w.heap.size + 1) 2 _ _ _ vR; have f0 := frozen_of_row w2 (w.heap.size + 1) 0 _ _ vR; have f1 := frozen_of_row w2 (w.heap.size + 1) 1 _ _ vR; have f2 := frozen_of_row w2 (w.heap.size + 1) 2 _ _ vR; simp only [List.getElem?_toArray, List.getElem?_cons_zero, List.getElem?_cons_succ] at e0 e1 e2; have gI : ∀ v0 v1 v2 : Value, (((w2.setCell ⟨w.heap.size + 1, 0, none⟩ v0).setCell ⟨w.heap.size + 1, 1, none⟩ v1).setCell ⟨w.heap.size + 1, 2, none⟩ v2).cell? ⟨w.heap.size, 6, none⟩ = some (.int .i64 s.counted.qty) ∧ (((w2.setCell ⟨w.heap.size + 1, 0, none⟩ v0).setCell ⟨w.heap.size + 1, 1, none⟩ v1).setCell ⟨w.heap.size + 1, 2, none⟩ v2).cell? ⟨w.heap.size, 12, none⟩ = some (.int .i64 s.placed.kind) := fun v0 v1 v2 => ⟨(World.cell?_of_block (a := ⟨w.heap.size, 6, none⟩) ((heap_setCell_other _ _ _ _ (by show w.heap.size ≠ w.heap.size + 1; omega)).trans ((heap_setCell_other _ _ _ _ (by show w.heap.size ≠ w.heap.size + 1; omega)).trans (heap_setCell_other _ _ _ _ (by show w.heap.size ≠ w.heap.size + 1; omega))))).trans eD.1, (World.cell?_of_block (a := ⟨w.heap.size, 12, none⟩) ((heap_setCell_other _ _ _ _ (by show w.heap.size ≠ w.heap.size + 1; omega)).trans ((heap_setCell_other _ _ _ _ (by show w.heap.size ≠ w.heap.size + 1; omega)).trans (heap_setCell_other _ _ _ _ (by show w.heap.size ≠ w.heap.size + 1; omega))))).trans eD.2⟩))
  have HF : (((w2.setCell ⟨w.heap.size + 1, 0, none⟩ (.string item)).setCell ⟨w.heap.size + 1, 1, none⟩ (.int .i64 s.counted.qty)).setCell ⟨w.heap.size + 1, 2, none⟩ (.bool false)).heap[w.heap.size + 1]? = some (.cells #[.string item, .int .i64 s.counted.qty, .bool false] 39 (0, 0)) := heap_setCell_same _ _ _ _ _ _ (heap_setCell_same _ _ _ _ _ _ (heap_setCell_same _ _ _ _ _ _ lM.out)); have G0 : Below w.heap.size w w2 := cU.out.trans ((Below.mk aM.os aM.tape aM.output aM.size aM.block : Below w1.heap.size w1 w2).mono cU.out.size); have dX := aPo (((G0.setCell (p := ⟨w.heap.size + 1, 0, none⟩) (by show _ ≤ w.heap.size + 1; omega) (.string item)).setCell (p := ⟨w.heap.size + 1, 1, none⟩) (by show _ ≤ w.heap.size + 1; omega) (.int .i64 s.counted.qty)).setCell (p := ⟨w.heap.size + 1, 2, none⟩) (by show _ ≤ w.heap.size + 1; omega) (.bool false))
  have HF' := aPo HF; clear bG eD gI vR e0 e1 e2 f0 f1 f2 aM G0 HF; generalize (((w2.setCell ⟨w.heap.size + 1, 0, none⟩ (.string item)).setCell ⟨w.heap.size + 1, 1, none⟩ (.int .i64 s.counted.qty)).setCell ⟨w.heap.size + 1, 2, none⟩ (.bool false)) = wf at HF' dX ⊢; go_wp2
  exact bodyPost_ret (results_cell_row rfl _ _ _ _ _ _ _ rfl HF'.out Tryz.underlying39 rfl Tryz.sizeLine) rfl ⟨by rw [HI.out.1, HI.out.2.1, HI.out.2.2, HK.out], dX.out⟩
end Go.Proofs.YthkagbnpcjidfaaGreatDoor
