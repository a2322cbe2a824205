/- Walks and mathematics that several claims share, part 18. -/
import Derived.Test.YtgagchlcafdiaaaGreatGb16
import Derived.Laws.Rows
import Derived.Laws.Tables
import Derived.OwnWalkIn
import Derived.Deep.Cut
import Derived.Lib.MinMax
import Derived.Test.YtgagchlcafdiaaaGreatGbA
namespace Go
open Go.RowKit
set_option linter.unusedVariables false
set_option linter.unusedSimpArgs false

end Go
namespace Go.Proofs.YtgagchlcafdiaaaGreat
set_option maxRecDepth 100000
open Go.RowKit

theorem StV.size (s : StV) : s.cells.size = 17 := rfl
theorem StV.one (s : StV) : s.cells.all (·.oneCell') = true := by simp [StV.cells, Value.oneCell']
def OpV.cells (o : OpV) : Array Value := #[.int .i64 o.dev, .int .i64 o.seq, .int .i64 o.stamp, .int .i64 o.kind, .string o.item, .int .i64 o.qty, .int .i64 o.level, .int .i64 o.undos]
theorem setRow_below {B g : Nat} {w0 w : World} {old cs : Array Value} {t : TypeId} (h : Below B w0 w) (hb : B ≤ g) (_hg : w.heap[g]? = some (.cells old t (0, 0))) : Below B w0 (w.setRow g cs) :=
 ⟨h.os, h.tape, h.output, by have e : (w.setRow g cs).heap.size = w.heap.size := by simp [World.setRow]
                             rw [e]; exact h.size, fun k hk => (setRow_other w g k cs (by omega)).trans (h.block k hk)⟩
theorem Tri.put {w w1 : World} {x y z : Array Value} {S T U : TypeId} (h : Tri w w1 x y z S T U) (i : Nat) (v : Value) : Tri w (w1.setCell ⟨w.heap.size, i, none⟩ v) (x.setIfInBounds i v) y z S T U :=
 ⟨heap_setCell_same _ _ _ _ _ _ h.fst, (heap_setCell_other _ _ _ _ (by show w.heap.size + 1 ≠ w.heap.size; omega)).trans h.snd, (heap_setCell_other _ _ _ _ (by show w.heap.size + 1 + 1 ≠ w.heap.size; omega)).trans h.res, h.bel.setCell (p := ⟨w.heap.size, i, none⟩) (Nat.le_refl _) v⟩
theorem op_at {w : World} {b : Nat} {o : OpV} {T : TypeId} (h : w.heap[b]? = some (.cells o.cells T (0, 0))) : w.cell? ⟨b, 0, none⟩ = some (.int .i64 o.dev) ∧ w.cell? ⟨b, 1, none⟩ = some (.int .i64 o.seq) ∧ w.cell? ⟨b, 2, none⟩ = some (.int .i64 o.stamp) ∧ w.cell? ⟨b, 3, none⟩ = some (.int .i64 o.kind) ∧ w.cell? ⟨b, 4, none⟩ = some (.string o.item) ∧ w.cell? ⟨b, 5, none⟩ = some (.int .i64 o.qty) ∧ w.cell? ⟨b, 6, none⟩ = some (.int .i64 o.level) ∧ w.cell? ⟨b, 7, none⟩ = some (.int .i64 o.undos) :=
 ⟨cell_of_row _ _ _ _ _ _ h, cell_of_row _ _ _ _ _ _ h, cell_of_row _ _ _ _ _ _ h, cell_of_row _ _ _ _ _ _ h, cell_of_row _ _ _ _ _ _ h, cell_of_row _ _ _ _ _ _ h, cell_of_row _ _ _ _ _ _ h, cell_of_row _ _ _ _ _ _ h⟩
end Go.Proofs.YtgagchlcafdiaaaGreat

namespace Go.Proofs.YtgagchlcafdiaaaGreat
set_option maxRecDepth 100000
open Go.RowKit Go.Shelf
attribute [local go_sem] Oper.semAt_some

theorem text_ext {a b : ByteArray} (h : a.toList = b.toList) : a = b := by
 rw [Lib.toList_data, Lib.toList_data] at h
 exact ByteArray.ext (Array.toList_inj.1 h)
theorem Tryz.sizeOp : (Tryz.prog.info? 84).map (·.size) = some 8 := by kernel_rfl
theorem OpV.infoOp (o : OpV) : (Tryz.prog.info? 84).map (·.size) = some o.cells.size := by show _ = some 8; exact Tryz.sizeOp

end Go.Proofs.YtgagchlcafdiaaaGreat

namespace Go.Proofs.YtgagchlcafdiaaaGreat
set_option maxRecDepth 100000
open Go.RowKit

set_option maxHeartbeats 10000000 in
theorem l5Level (w : World) (B : Nat) (av ao : Option Addr) (nv cv no co : Nat) (xs : List Int) (l : List OpV) (item : ByteArray) (h : Ops w B ao no l) (hB : B ≤ w.heap.size) (hn : no ≤ 1048576) (hc : cartB xs l = true) : Calls Tryz.prog 103 #[.agg #[.slice av nv cv, .slice ao no co], .string item] w fun e w' => e = .returned (.int .i64 (levTo item l l.length)) ∧ Below w.heap.size w w' := by
 have hb0 : Below w.heap.size w (w.alloc (.cells #[.slice av nv cv, .slice ao no co] 49)) := (Below.refl _ w).alloc (Nat.le_refl _) _
 have HO := Lib.hid (h.below hb0 hB)
 have HB := Lib.hid hb0
 have HX := Lib.hid (boxAt (Below.refl _ (w.alloc (.cells #[.slice av nv cv, .slice ao no co] 49))))
 have HL := Lib.hid h.1
 have hsz : w.heap.size < (w.alloc (.cells #[.slice av nv cv, .slice ao no co] 49)).heap.size := by show _ < (w.heap.push _).size; simp
 have HC : Hid (∀ k, k < no → 0 ≤ (l.getD k OpV.zero).undos) := fun k hk => by
  obtain ⟨_, _, _, _, _, hok, _, _⟩ := cart_atV hc (i := k) (by rw [h.1]; exact hk)
  exact (undos_of hok).1
 clear h hb0 hc
 go_enter Tryz.func103, Tryz.ntmps103
 go_wp2_with fail
 generalize w.alloc (.cells #[.slice av nv cv, .slice ao no co] 49) = w0 at HO HB HX hsz ⊢
 go_wp2
 go_loopw [5, 6] (fun n i wr => ∃ k : Nat, k ≤ no ∧ i = .int .i64 k ∧ n = .int .i64 (levTo item l k) ∧ Hid (Below w0.heap.size w0 wr)) (fun _ i _ => no - (intOf i).toNat)
 case atStart => exact ⟨0, Nat.zero_le _, rfl, rfl, Below.refl _ _⟩
 case round =>
  obtain ⟨k, hk, rfl, rfl, HBr⟩ := hrel
  obtain ⟨c0, c1⟩ := pair_cells ((HBr.out.block _ hsz).trans HX.out)
  by_cases hlt : k < no
  rotate_left
  ·obtain rfl : k = no := by omega
   go_wp2
   go_ret
   exact ⟨by rw [HL.out]; rfl, HB.out.trans (HBr.out.mono HB.out.size)⟩
  obtain ⟨b, off, rfl, hb, ho⟩ := HO.out.2 k hlt
  obtain ⟨d0, d1, d2, d3, d4, d5, d6, d7⟩ := ho.kept (HBr.out.block b (by omega))
  have hu0 := HC.out k hlt
  have HU : Hid (levTo item l (k + 1) = if (l.getD k OpV.zero).item = item ∧ (l.getD k OpV.zero).undos % 2 = 0 then max (levTo item l k) (l.getD k OpV.zero).level else levTo item l k) := rfl
  have HO1 := Lib.hid ho
  clear ho
  generalize l.getD k OpV.zero = x at HU hu0 d0 d1 d2 d3 d4 d5 d6 d7 HO1
  by_cases hd : x.item = item
  rotate_left
  ·have hbq : (x.item.toList == item.toList) = false := by rw [beq_eq_false_iff_ne]; exact fun h => hd (text_ext h)
   have HE : Hid (levTo item l (k + 1) = levTo item l k) := by show _ = _; rw [HU.out, if_neg (fun h => hd h.1)]
   clear hd HU
   go_wp2
   go_roundw
   case rel => exact ⟨k + 1, by omega, by go_num, by rw [HE.out], HBr⟩
   case measure => simp [intOf]; omega
  have hbq : (x.item.toList == item.toList) = true := by rw [hd]; exact beq_self_eq_true _
  have HD := Lib.hid hd
  clear hd
  go_wp2_with fail
  refine (l3Live x.dev x.seq x.stamp x.kind x.item x.qty x.level x.undos _ hu0).mono ?_
  rintro e w2 ⟨rfl, hb2⟩
  have HB2 := Lib.hid (HBr.out.trans (hb2.mono HBr.out.size))
  clear hb2 c0 c1 d0 d1 d2 d3 d4 d5 d6 d7
  obtain ⟨c0, c1⟩ := pair_cells ((HB2.out.block _ hsz).trans HX.out)
  obtain ⟨d0, d1, d2, d3, d4, d5, d6, d7⟩ := HO1.out.kept (HB2.out.block b (by omega))
  by_cases hu : x.undos % 2 = 0
  ·have hq : decide (x.undos % 2 = 0) = true := decide_eq_true hu
   have HE : Hid (levTo item l (k + 1) = max (levTo item l k) x.level) := by show _ = _; rw [HU.out, if_pos ⟨HD.out, hu⟩]
   rw [hq]
   clear hu hq HU
   go_wp2
   go_roundw
   case rel => exact ⟨k + 1, by omega, by go_num, by rw [HE.out], HB2⟩
   case measure => simp [intOf]; omega
  ·have hq : decide (x.undos % 2 = 0) = false := decide_eq_false hu
   have HE : Hid (levTo item l (k + 1) = levTo item l k) := by show _ = _; rw [HU.out, if_neg (fun h => hu h.2)]
   rw [hq]
   clear hu hq HU
   go_wp2
   go_roundw
   case rel => exact ⟨k + 1, by omega, by go_num, by rw [HE.out], HB2⟩
   case measure => simp [intOf]; omega

end Go.Proofs.YtgagchlcafdiaaaGreat
