/- Walks and mathematics that several claims share, part 6. -/
import Derived.Test.YthkagbnpcjidfaaGreatDoorGp2
import Derived.Test.YthkagbnpcjidfaaGreatDoorGp4
import Derived.Test.YthkagbnpcjidfaaGreatDoorGp5
import Derived.Deep.RegionHeld3
import Derived.RegionTactic
import Derived.Laws.Cover3
import Derived.Deep.AppendLies
import Derived.Lib.SliceRun
import Derived.Lib.MinMax
import Derived.Deep.Cut
namespace Go.Proofs.YthkagbnpcjidfaaGreatDoor
open Go.RowKit
set_option linter.unusedVariables false
set_option linter.unusedSimpArgs false
theorem pair_cells {w : World} {b : Nat} {v0 v1 : Value} {T : TypeId} {fr : Nat × Nat} (h : w.heap[b]? = some (.cells #[v0, v1] T fr)) : w.cell? ⟨b, 0, none⟩ = some v0 ∧ w.cell? ⟨b, 1, none⟩ = some v1 :=
 ⟨aPx h, aPx h⟩
theorem aC {w : World} {b : Nat} {cs : Array Value} {T : TypeId} (h : w.heap[b]? = some (.cells cs T (0, 0))) : w.frozen? ⟨b, 0, none⟩ = false ∧ w.frozen? ⟨b, 1, none⟩ = false :=
 ⟨aPy h, aPy h⟩
theorem cF {w : World} {b : Nat} {c0 c1 : Value} {T : TypeId} (v0 v1 : Value) (h : w.heap[b]? = some (.cells #[c0, c1] T (0, 0))) : ((w.setCell ⟨b, 0, none⟩ v0).setCell ⟨b, 1, none⟩ v1).heap[b]? = some (.cells #[v0, v1] T (0, 0)) := by
 have h0 : (w.setCell ⟨b, 0, none⟩ v0).heap[b]? = some (.cells #[v0, c1] T (0, 0)) := heap_setCell_same _ _ _ _ _ _ h
 exact heap_setCell_same _ _ _ _ _ _ h0
theorem aF {w : World} {b k : Nat} (v0 v1 : Value) (h : k ≠ b) : ((w.setCell ⟨b, 0, none⟩ v0).setCell ⟨b, 1, none⟩ v1).heap[k]? = w.heap[k]? := by
 rw [heap_setCell_other _ _ _ _ h, heap_setCell_other _ _ _ _ h]
theorem aZ (w : World) (b : Nat) (v0 v1 : Value) : ((w.setCell ⟨b, 0, none⟩ v0).setCell ⟨b, 1, none⟩ v1).heap.size = w.heap.size := by
 simp [World.setCell]
structure OpD (w w1 : World) (B g : Nat) (a : Option Addr) (len cap bo : Nat) (cs : Array Value) : Prop where
 res : w1.heap[w.heap.size]? = some (.cells #[.int .i64 0, .int .i64 0, .int .i64 0, .int .i64 0, .string ⟨#[]⟩, .int .i64 0, .int .i64 0, .int .i64 0] 50 (0, 0))
 opr : w1.heap[bo]? = some (.cells cs 50 (0, 0))
 own : w.heap.size < bo
 gr : w.grownBy w1 (some g)
 rd : Rd w1 B g a len cap
theorem OpD.next {w w1 w2 : World} {B g : Nat} {a : Option Addr} {len cap bo : Nat} {cs : Array Value} (h : OpD w w1 B g a len cap bo cs) (aK : g < w.heap.size) (hg : w1.grownBy w2 (some g)) (hr : Rd w2 B g a len cap) : OpD w w2 B g a len cap bo cs :=
 ⟨(hg.block _ (aPv h.res).1 (by simp; omega)).trans h.res, (hg.block _ (aPv h.opr).1 (by have := h.own; simp; omega)).trans h.opr, h.own, h.gr.trans hg, hr⟩
theorem OpD.put {w w1 : World} {B g : Nat} {a : Option Addr} {len cap bo : Nat} {cs : Array Value} (h : OpD w w1 B g a len cap bo cs) (hB : B ≤ w.heap.size) (aK : g < w.heap.size) (i : Nat) (v : Value) : OpD w (w1.setCell ⟨bo, i, none⟩ v) B g a len cap bo (cs.setIfInBounds i v) :=
 have aY := h.own
 ⟨(heap_setCell_other _ _ _ _ (by show w.heap.size ≠ bo; omega)).trans h.res, heap_setCell_same _ _ _ _ _ _ h.opr, h.own,
  ⟨h.gr.os, h.gr.tape, h.gr.output, Nat.le_trans h.gr.size (by simp [World.setCell]), fun k hk bJ => (heap_setCell_other _ _ _ _ (by show k ≠ bo; omega)).trans (h.gr.block k hk bJ)⟩,
  h.rd.kept fun k hk => heap_setCell_other _ _ _ _ (by show k ≠ bo; omega)⟩
theorem Res.next {w w1 w2 : World} {g : Nat} {cs : Array Value} {T : TypeId} (h : w1.heap[w.heap.size]? = some (.cells cs T (0, 0))) (hg : w1.grownBy w2 (some g)) (aK : g < w.heap.size) : w2.heap[w.heap.size]? = some (.cells cs T (0, 0)) :=
 (hg.block _ (aPv h).1 (by simp; omega)).trans h
end Go.Proofs.YthkagbnpcjidfaaGreatDoor
