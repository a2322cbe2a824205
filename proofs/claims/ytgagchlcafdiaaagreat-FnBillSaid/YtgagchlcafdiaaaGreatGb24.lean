/- Walks and mathematics that several claims share, part 24. -/
import Derived.Test.YtgagchlcafdiaaaGreatGb23
import Derived.Test.YtgagchlcafdiaaaGreatGb2
import Derived.Deep.Cut
import Derived.Test.YtgagchlcafdiaaaGreatGbA
namespace Go.Proofs.YtgagchlcafdiaaaGreat
open Go.RowKit
set_option linter.unusedVariables false
set_option linter.unusedSimpArgs false

/-- The result's block, zero so far, and the operation's, beside the reader. -/
structure OpD (w w1 : World) (B g : Nat) (a : Option Addr) (len cap bo : Nat) (cs : Array Value) : Prop where
 res : w1.heap[w.heap.size]? = some (.cells #[.int .i64 0, .int .i64 0, .int .i64 0, .int .i64 0, .string ⟨#[]⟩, .int .i64 0, .int .i64 0, .int .i64 0] 84 (0, 0))
 opr : w1.heap[bo]? = some (.cells cs 84 (0, 0))
 own : w.heap.size < bo
 gr : w.grownBy w1 (some g)
 rd : Rd w1 B g a len cap
theorem OpD.next {w w1 w2 : World} {B g : Nat} {a : Option Addr} {len cap bo : Nat} {cs : Array Value} (h : OpD w w1 B g a len cap bo cs) (hlt : g < w.heap.size) (hg : w1.grownBy w2 (some g)) (hr : Rd w2 B g a len cap) : OpD w w2 B g a len cap bo cs :=
 ⟨(hg.block _ (Array.getElem?_eq_some_iff.1 h.res).1 (by simp; omega)).trans h.res, (hg.block _ (Array.getElem?_eq_some_iff.1 h.opr).1 (by have := h.own; simp; omega)).trans h.opr, h.own, h.gr.trans hg, hr⟩
theorem OpD.put {w w1 : World} {B g : Nat} {a : Option Addr} {len cap bo : Nat} {cs : Array Value} (h : OpD w w1 B g a len cap bo cs) (hB : B ≤ w.heap.size) (hlt : g < w.heap.size) (i : Nat) (v : Value) : OpD w (w1.setCell ⟨bo, i, none⟩ v) B g a len cap bo (cs.setIfInBounds i v) :=
 have hown := h.own
 ⟨(heap_setCell_other _ _ _ _ (by show w.heap.size ≠ bo; omega)).trans h.res, heap_setCell_same _ _ _ _ _ _ h.opr, h.own,
  ⟨h.gr.os, h.gr.tape, h.gr.output, Nat.le_trans h.gr.size (by simp [World.setCell]), fun k hk hne => (heap_setCell_other _ _ _ _ (by show k ≠ bo; omega)).trans (h.gr.block k hk hne)⟩,
  h.rd.kept fun k hk => heap_setCell_other _ _ _ _ (by show k ≠ bo; omega)⟩
theorem Res.next {w w1 w2 : World} {g : Nat} {cs : Array Value} {T : TypeId} (h : w1.heap[w.heap.size]? = some (.cells cs T (0, 0))) (hg : w1.grownBy w2 (some g)) (hlt : g < w.heap.size) : w2.heap[w.heap.size]? = some (.cells cs T (0, 0)) :=
 (hg.block _ (Array.getElem?_eq_some_iff.1 h).1 (by simp; omega)).trans h

end Go.Proofs.YtgagchlcafdiaaaGreat
