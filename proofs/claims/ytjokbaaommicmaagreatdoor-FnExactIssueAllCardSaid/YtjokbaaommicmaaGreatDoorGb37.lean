/- Walks and mathematics that several claims share, part 37. -/
import Derived.Test.YtjokbaaommicmaaGreatDoorGb33
import Derived.Test.YtjokbaaommicmaaGreatDoorGb3
import Derived.Deep.RegionHeld3
import Derived.Deep.Cut
import Derived.Test.YtjokbaaommicmaaGreatDoorGbA
namespace Go.Proofs.YtjokbaaommicmaaGreatDoor
set_option maxRecDepth 100000
open Go.RowKit

theorem cloneW (s : ByteArray) (h : s.size ≤ 1048576) (w : World) : Calls Tryz.prog 107 #[.string s] w fun e w' => e = .returned (.string s) ∧ Below w.heap.size w w' := by
 go_enter Tryz.func107, Tryz.ntmps107
 go_wp2_with fail
 refine (Tryz.stringslite_Clone s _ (by omega)).mono ?_
 rintro e w1 ⟨rfl, hb1⟩
 go_wp2
 go_ret
 exact ⟨rfl, hb1⟩
/-- What a line of an item is. -/
def lineQ (s : StV) : Int := if s.level % 2 = 1 then s.counted.qty else 0
def lineS (s : StV) : Bool := if s.level % 2 = 1 then decide (s.placed.kind = 4) else false
def lineI (s : StV) (item : ByteArray) : ByteArray := if s.level % 2 = 1 then item else ⟨#[]⟩

theorem Tryz.sizeLine : (Tryz.prog.info? 172).map (·.size) = some 3 := by kernel_rfl
set_option maxHeartbeats 10000000 in
theorem lineW (s : StV) (item : ByteArray) (h0 : 0 ≤ s.level) (hi : item.size ≤ 1048576) (w : World) : Calls Tryz.prog 132 #[.agg s.cells, .string item] w fun e w' => e = .returned (.agg #[.string (lineI s item), .int .i64 (lineQ s), .bool (lineS s)]) ∧ Below w.heap.size w w' := by
 have hx := Below.heap_alloc (w.alloc (.cells s.cells 199)) (.cells #[.string ⟨#[]⟩, .int .i64 0, .bool false] 172) w.heap.size (by simp)
 have HX : Hid (((w.alloc (.cells s.cells 199)).alloc (.cells #[.string ⟨#[]⟩, .int .i64 0, .bool false] 172)).heap[w.heap.size]? = some (.cells s.cells 199 (0, 0))) := hx.trans (World.alloc_heap_new w _)
 have HR : Hid (((w.alloc (.cells s.cells 199)).alloc (.cells #[.string ⟨#[]⟩, .int .i64 0, .bool false] 172)).heap[w.heap.size + 1]? = some (.cells #[.string ⟨#[]⟩, .int .i64 0, .bool false] 172 (0, 0))) := by
  have e : (w.alloc (.cells s.cells 199)).heap.size = w.heap.size + 1 := by simp
  show _ = _
  rw [← e]
  exact World.alloc_heap_new _ _
 have HB : Hid (Below w.heap.size w ((w.alloc (.cells s.cells 199)).alloc (.cells #[.string ⟨#[]⟩, .int .i64 0, .bool false] 172))) := ((Below.refl _ w).alloc (Nat.le_refl _) _).alloc (by simp) _
 clear hx
 have HP := Lib.hid h0
 clear h0
 by_cases hm : s.level % 2 = 1
 rotate_left
 ·have HI : Hid (lineI s item = ⟨#[]⟩ ∧ lineQ s = 0 ∧ lineS s = false) := ⟨if_neg hm, if_neg hm, if_neg hm⟩
  have HD := Lib.hid (decide_eq_false hm)
  clear hm
  go_enter Tryz.func132, Tryz.ntmps132
  go_wp2_with (refine wpList_load_row rfl 199 (.tmp 2) rfl w.heap.size rfl 199 s.cells (0, 0) _ HX.out Tryz.underlying199 rfl s.infoOf ?_)
  generalize (w.alloc (.cells s.cells 199)).alloc (.cells #[.string ⟨#[]⟩, .int .i64 0, .bool false] 172) = w0 at HX HR HB ⊢
  refine (presentW s HP.out w0).mono ?_
  rintro e w1 ⟨rfl, hb1⟩
  rw [HD.out]
  have HX1 := Lib.hid ((hb1.block _ (Array.getElem?_eq_some_iff.1 HX.out).1).trans HX.out)
  have HR1 := Lib.hid ((hb1.block _ (Array.getElem?_eq_some_iff.1 HR.out).1).trans HR.out)
  have HB1 := Lib.hid (HB.out.trans (hb1.mono HB.out.size))
  clear hb1 HX HR HB
  go_wp2_with (refine wpList_store_row rfl 172 (.tmp 4) (.tmp 8) rfl (w.heap.size + 1) #[.string ⟨#[]⟩, .int .i64 0, .bool false] rfl rfl 172 _ HR1.out Tryz.sizeLine rfl (by simp [Value.oneCell']) ?_)
  have HF := setRow_heap w1 (w.heap.size + 1) _ #[.string ⟨#[]⟩, .int .i64 0, .bool false] 172 (0, 0) HR1.out
  exact bodyPost_ret (results_cell_row rfl _ _ _ _ _ _ _ rfl HF Tryz.underlying172 rfl Tryz.sizeLine) rfl ⟨by rw [HI.out.1, HI.out.2.1, HI.out.2.2], setRow_below HB1.out (by omega) HR1.out⟩
 have HI : Hid (lineI s item = item ∧ lineQ s = s.counted.qty ∧ lineS s = decide (s.placed.kind = 4)) := ⟨if_pos hm, if_pos hm, if_pos hm⟩
 have HD := Lib.hid (decide_eq_true hm)
 clear hm
 go_enter Tryz.func132, Tryz.ntmps132
 go_wp2_with (refine wpList_load_row rfl 199 (.tmp 2) rfl w.heap.size rfl 199 s.cells (0, 0) _ HX.out Tryz.underlying199 rfl s.infoOf ?_)
 generalize (w.alloc (.cells s.cells 199)).alloc (.cells #[.string ⟨#[]⟩, .int .i64 0, .bool false] 172) = w0 at HX HR HB ⊢
 refine (presentW s HP.out w0).mono ?_
 rintro e w1 ⟨rfl, hb1⟩
 rw [HD.out]
 have HX1 := Lib.hid ((hb1.block _ (Array.getElem?_eq_some_iff.1 HX.out).1).trans HX.out)
 have HR1 := Lib.hid ((hb1.block _ (Array.getElem?_eq_some_iff.1 HR.out).1).trans HR.out)
 have HB1 := Lib.hid (HB.out.trans (hb1.mono HB.out.size))
 clear hb1 HX HR HB
 go_upto_region 3 with fail
 have hS1 : w1.drew.cell? ⟨w.heap.size, 6, none⟩ = some (.int .i64 s.counted.qty) ∧ w1.drew.cell? ⟨w.heap.size, 12, none⟩ = some (.int .i64 s.placed.kind) := ⟨(st_at HX1.out).2.2.2.2.2.2.1, (st_at HX1.out).2.2.2.2.2.2.2.2.2.2.2.2.1⟩
 have hlt1 : w.heap.size + 1 < w1.heap.size := (Array.getElem?_eq_some_iff.1 HR1.out).1
 by_cases hk : s.placed.kind = 4
 ·have hkb : (s.placed.kind == 4) = true := by rw [hk]; rfl
  have HK := Lib.hid (decide_eq_true hk)
  clear hk
  go_region_held3 (fun w' => w'.cell? ⟨w.heap.size, 6, none⟩ = some (.int .i64 s.counted.qty) ∧ w'.cell? ⟨w.heap.size, 12, none⟩ = some (.int .i64 s.placed.kind)) (first | with_reducible exact hS1 | with_reducible exact hS2 | with_reducible exact hS3 _ _ _)
   (first | (go_at_call 107; refine (cloneW item hi _).mono ?_; rintro e w2 ⟨rfl, hb2⟩; have hS2 : w2.cell? ⟨w.heap.size, 6, none⟩ = some (.int .i64 s.counted.qty) ∧ w2.cell? ⟨w.heap.size, 12, none⟩ = some (.int .i64 s.placed.kind) := ⟨(hb2.cell (p := ⟨w.heap.size, 6, none⟩) (by show w.heap.size < w1.heap.size; omega)).trans hS1.1, (hb2.cell (p := ⟨w.heap.size, 12, none⟩) (by show w.heap.size < w1.heap.size; omega)).trans hS1.2⟩; have hR2 : w2.heap[w.heap.size + 1]? = some (.cells #[.string ⟨#[]⟩, .int .i64 0, .bool false] 172 (0, 0)) := (hb2.block _ hlt1).trans HR1.out; have HR2 := Lib.hid hR2; have e0 := cell_of_row w2 (w.heap.size + 1) 0 _ _ _ hR2; have e1 := cell_of_row w2 (w.heap.size + 1) 1 _ _ _ hR2; have e2 := cell_of_row w2 (w.heap.size + 1) 2 _ _ _ hR2; have f0 := frozen_of_row w2 (w.heap.size + 1) 0 _ _ hR2; have f1 := frozen_of_row w2 (w.heap.size + 1) 1 _ _ hR2; have f2 := frozen_of_row w2 (w.heap.size + 1) 2 _ _ hR2; simp only [List.getElem?_toArray, List.getElem?_cons_zero, List.getElem?_cons_succ] at e0 e1 e2; have hS3 : ∀ v0 v1 v2 : Value, (((w2.setCell ⟨w.heap.size + 1, 0, none⟩ v0).setCell ⟨w.heap.size + 1, 1, none⟩ v1).setCell ⟨w.heap.size + 1, 2, none⟩ v2).cell? ⟨w.heap.size, 6, none⟩ = some (.int .i64 s.counted.qty) ∧ (((w2.setCell ⟨w.heap.size + 1, 0, none⟩ v0).setCell ⟨w.heap.size + 1, 1, none⟩ v1).setCell ⟨w.heap.size + 1, 2, none⟩ v2).cell? ⟨w.heap.size, 12, none⟩ = some (.int .i64 s.placed.kind) := fun v0 v1 v2 => ⟨(World.cell?_of_block (a := ⟨w.heap.size, 6, none⟩) ((heap_setCell_other _ _ _ _ (by show w.heap.size ≠ w.heap.size + 1; omega)).trans ((heap_setCell_other _ _ _ _ (by show w.heap.size ≠ w.heap.size + 1; omega)).trans (heap_setCell_other _ _ _ _ (by show w.heap.size ≠ w.heap.size + 1; omega))))).trans hS2.1, (World.cell?_of_block (a := ⟨w.heap.size, 12, none⟩) ((heap_setCell_other _ _ _ _ (by show w.heap.size ≠ w.heap.size + 1; omega)).trans ((heap_setCell_other _ _ _ _ (by show w.heap.size ≠ w.heap.size + 1; omega)).trans (heap_setCell_other _ _ _ _ (by show w.heap.size ≠ w.heap.size + 1; omega))))).trans hS2.2⟩))
  have HF : (((w2.setCell ⟨w.heap.size + 1, 0, none⟩ (.string item)).setCell ⟨w.heap.size + 1, 1, none⟩ (.int .i64 s.counted.qty)).setCell ⟨w.heap.size + 1, 2, none⟩ (.bool true)).heap[w.heap.size + 1]? = some (.cells #[.string item, .int .i64 s.counted.qty, .bool true] 172 (0, 0)) := heap_setCell_same _ _ _ _ _ _ (heap_setCell_same _ _ _ _ _ _ (heap_setCell_same _ _ _ _ _ _ HR2.out))
  have hB2 : Below w.heap.size w w2 := HB1.out.trans ((Below.mk hb2.os hb2.tape hb2.output hb2.size hb2.block : Below w1.heap.size w1 w2).mono HB1.out.size)
  have HB3 := Lib.hid (((hB2.setCell (p := ⟨w.heap.size + 1, 0, none⟩) (by show _ ≤ w.heap.size + 1; omega) (.string item)).setCell (p := ⟨w.heap.size + 1, 1, none⟩) (by show _ ≤ w.heap.size + 1; omega) (.int .i64 s.counted.qty)).setCell (p := ⟨w.heap.size + 1, 2, none⟩) (by show _ ≤ w.heap.size + 1; omega) (.bool true))
  have HF' := Lib.hid HF
  clear hS1 hS2 hS3 hR2 e0 e1 e2 f0 f1 f2 hb2 hB2 HF
  generalize (((w2.setCell ⟨w.heap.size + 1, 0, none⟩ (.string item)).setCell ⟨w.heap.size + 1, 1, none⟩ (.int .i64 s.counted.qty)).setCell ⟨w.heap.size + 1, 2, none⟩ (.bool true)) = wf at HF' HB3 ⊢
  go_wp2
  exact bodyPost_ret (results_cell_row rfl _ _ _ _ _ _ _ rfl HF'.out Tryz.underlying172 rfl Tryz.sizeLine) rfl ⟨by rw [HI.out.1, HI.out.2.1, HI.out.2.2, HK.out], HB3.out⟩
 ·have hkb : (s.placed.kind == 4) = false := by rw [beq_eq_false_iff_ne]; exact hk
  have HK := Lib.hid (decide_eq_false hk)
  clear hk
  go_region_held3 (fun w' => w'.cell? ⟨w.heap.size, 6, none⟩ = some (.int .i64 s.counted.qty) ∧ w'.cell? ⟨w.heap.size, 12, none⟩ = some (.int .i64 s.placed.kind)) (first | with_reducible exact hS1 | with_reducible exact hS2 | with_reducible exact hS3 _ _ _)
   (first | (go_at_call 107; refine (cloneW item hi _).mono ?_; rintro e w2 ⟨rfl, hb2⟩; have hS2 : w2.cell? ⟨w.heap.size, 6, none⟩ = some (.int .i64 s.counted.qty) ∧ w2.cell? ⟨w.heap.size, 12, none⟩ = some (.int .i64 s.placed.kind) := ⟨(hb2.cell (p := ⟨w.heap.size, 6, none⟩) (by show w.heap.size < w1.heap.size; omega)).trans hS1.1, (hb2.cell (p := ⟨w.heap.size, 12, none⟩) (by show w.heap.size < w1.heap.size; omega)).trans hS1.2⟩; have hR2 : w2.heap[w.heap.size + 1]? = some (.cells #[.string ⟨#[]⟩, .int .i64 0, .bool false] 172 (0, 0)) := (hb2.block _ hlt1).trans HR1.out; have HR2 := Lib.hid hR2; have e0 := cell_of_row w2 (w.heap.size + 1) 0 _ _ _ hR2; have e1 := cell_of_row w2 (w.heap.size + 1) 1 _ _ _ hR2; have e2 := cell_of_row w2 (w.heap.size + 1) 2 _ _ _ hR2; have f0 := frozen_of_row w2 (w.heap.size + 1) 0 _ _ hR2; have f1 := frozen_of_row w2 (w.heap.size + 1) 1 _ _ hR2; have f2 := frozen_of_row w2 (w.heap.size + 1) 2 _ _ hR2; simp only [List.getElem?_toArray, List.getElem?_cons_zero, List.getElem?_cons_succ] at e0 e1 e2; have hS3 : ∀ v0 v1 v2 : Value, (((w2.setCell ⟨w.heap.size + 1, 0, none⟩ v0).setCell ⟨w.heap.size + 1, 1, none⟩ v1).setCell ⟨w.heap.size + 1, 2, none⟩ v2).cell? ⟨w.heap.size, 6, none⟩ = some (.int .i64 s.counted.qty) ∧ (((w2.setCell ⟨w.heap.size + 1, 0, none⟩ v0).setCell ⟨w.heap.size + 1, 1, none⟩ v1).setCell ⟨w.heap.size + 1, 2, none⟩ v2).cell? ⟨w.heap.size, 12, none⟩ = some (.int .i64 s.placed.kind) := fun v0 v1 v2 => ⟨(World.cell?_of_block (a := ⟨w.heap.size, 6, none⟩) ((heap_setCell_other _ _ _ _ (by show w.heap.size ≠ w.heap.size + 1; omega)).trans ((heap_setCell_other _ _ _ _ (by show w.heap.size ≠ w.heap.size + 1; omega)).trans (heap_setCell_other _ _ _ _ (by show w.heap.size ≠ w.heap.size + 1; omega))))).trans hS2.1, (World.cell?_of_block (a := ⟨w.heap.size, 12, none⟩) ((heap_setCell_other _ _ _ _ (by show w.heap.size ≠ w.heap.size + 1; omega)).trans ((heap_setCell_other _ _ _ _ (by show w.heap.size ≠ w.heap.size + 1; omega)).trans (heap_setCell_other _ _ _ _ (by show w.heap.size ≠ w.heap.size + 1; omega))))).trans hS2.2⟩))
  have HF : (((w2.setCell ⟨w.heap.size + 1, 0, none⟩ (.string item)).setCell ⟨w.heap.size + 1, 1, none⟩ (.int .i64 s.counted.qty)).setCell ⟨w.heap.size + 1, 2, none⟩ (.bool false)).heap[w.heap.size + 1]? = some (.cells #[.string item, .int .i64 s.counted.qty, .bool false] 172 (0, 0)) := heap_setCell_same _ _ _ _ _ _ (heap_setCell_same _ _ _ _ _ _ (heap_setCell_same _ _ _ _ _ _ HR2.out))
  have hB2 : Below w.heap.size w w2 := HB1.out.trans ((Below.mk hb2.os hb2.tape hb2.output hb2.size hb2.block : Below w1.heap.size w1 w2).mono HB1.out.size)
  have HB3 := Lib.hid (((hB2.setCell (p := ⟨w.heap.size + 1, 0, none⟩) (by show _ ≤ w.heap.size + 1; omega) (.string item)).setCell (p := ⟨w.heap.size + 1, 1, none⟩) (by show _ ≤ w.heap.size + 1; omega) (.int .i64 s.counted.qty)).setCell (p := ⟨w.heap.size + 1, 2, none⟩) (by show _ ≤ w.heap.size + 1; omega) (.bool false))
  have HF' := Lib.hid HF
  clear hS1 hS2 hS3 hR2 e0 e1 e2 f0 f1 f2 hb2 hB2 HF
  generalize (((w2.setCell ⟨w.heap.size + 1, 0, none⟩ (.string item)).setCell ⟨w.heap.size + 1, 1, none⟩ (.int .i64 s.counted.qty)).setCell ⟨w.heap.size + 1, 2, none⟩ (.bool false)) = wf at HF' HB3 ⊢
  go_wp2
  exact bodyPost_ret (results_cell_row rfl _ _ _ _ _ _ _ rfl HF'.out Tryz.underlying172 rfl Tryz.sizeLine) rfl ⟨by rw [HI.out.1, HI.out.2.1, HI.out.2.2, HK.out], HB3.out⟩
end Go.Proofs.YtjokbaaommicmaaGreatDoor
