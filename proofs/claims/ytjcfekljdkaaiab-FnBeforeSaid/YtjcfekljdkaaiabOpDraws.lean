/- The walks of spec.DrawOpOk and its kin: some operation is drawn, whatever the code. -/
import Derived.Test.YtjcfekljdkaaiabOpDrawW
namespace Go.Proofs.Ytjcfekljdkaaiab
open Go.RowKit

/-- Some operation is drawn. -/
def DrawsOp (w : World) (e : Ending) (w' : World) : Prop :=
  ∃ (dev seq stamp kind : Int) (item : ByteArray) (qty level undos : Int), item.size ≤ 8 ∧ e = .returned (.agg #[.int .i64 dev, .int .i64 seq, .int .i64 stamp, .int .i64 kind, .string item, .int .i64 qty, .int .i64 level, .int .i64 undos]) ∧ Below w.heap.size w w'
structure OpE (w w1 : World) (g : Nat) (a : Option Addr) (len cap bo : Nat) (cs : Array Value) : Prop where
  res : w1.heap[w.heap.size]? = some (.cells #[.int .i64 0, .int .i64 0, .int .i64 0, .int .i64 0, .string ⟨#[]⟩, .int .i64 0, .int .i64 0, .int .i64 0] 25 (0, 0))
  opr : w1.heap[bo]? = some (.cells cs 25 (0, 0))
  own : w.heap.size < g ∧ g < bo
  bel : Below w.heap.size w w1
  rd : Rd w1 w.heap.size g a len cap
theorem OpE.next {w w1 w2 : World} {g : Nat} {a : Option Addr} {len cap bo : Nat} {cs : Array Value} (h : OpE w w1 g a len cap bo cs) (hg : w1.grownBy w2 (some g)) (hr : Rd w2 w.heap.size g a len cap) : OpE w w2 g a len cap bo cs :=
  have hown := h.own
  ⟨(hg.block _ (Array.getElem?_eq_some_iff.1 h.res).1 (by simp; omega)).trans h.res, (hg.block _ (Array.getElem?_eq_some_iff.1 h.opr).1 (by simp; omega)).trans h.opr, h.own, h.bel.trans (below_of hg (by omega) h.bel.size), hr⟩
theorem OpE.put {w w1 : World} {g : Nat} {a : Option Addr} {len cap bo : Nat} {cs : Array Value} (h : OpE w w1 g a len cap bo cs) (i : Nat) (v : Value) : OpE w (w1.setCell ⟨bo, i, none⟩ v) g a len cap bo (cs.setIfInBounds i v) :=
  have hown := h.own
  ⟨(heap_setCell_other _ _ _ _ (by show w.heap.size ≠ bo; omega)).trans h.res, heap_setCell_same _ _ _ _ _ _ h.opr, h.own, h.bel.setCell (p := ⟨bo, i, none⟩) (by show _ ≤ bo; omega) v,
   h.rd.kept fun k hk => heap_setCell_other _ _ _ _ (by show k ≠ bo; omega)⟩

theorem src_wide {w : World} {B B' : Nat} {a : Option Addr} {len : Nat} (h : Src w B a len) (hB : B ≤ B') : Src w B' a len :=
  ⟨h.1, fun i hi => by obtain ⟨b, off, z, e, hb, r⟩ := h.2 i hi; exact ⟨b, off, z, e, by omega, r⟩⟩
end Go.Proofs.Ytjcfekljdkaaiab
