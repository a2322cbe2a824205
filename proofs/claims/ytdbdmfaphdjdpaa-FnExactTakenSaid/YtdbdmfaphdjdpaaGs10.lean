/- Walks and mathematics that several claims share, part 10. -/
import Derived.Test.YtdbdmfaphdjdpaaGs8
import Derived.Deep.QuietTactic
import Derived.BigQuiet
namespace Go.Proofs.Ytdbdmfaphdjdpaa
open Go.RowKit

def befB (dev1 seq1 stamp1 kind1 : Int) (item1 : ByteArray) (qty1 level1 undos1 : Int) (dev2 seq2 stamp2 kind2 : Int) (item2 : ByteArray) (qty2 level2 undos2 : Int) : Bool := opB dev1 seq1 stamp1 kind1 item1 qty1 level1 undos1 && (opB dev2 seq2 stamp2 kind2 item2 qty2 level2 undos2 && preB stamp1 dev1 seq1 stamp2 dev2 seq2)
structure Two (w w1 : World) (cs ds : Array Value) (T : TypeId) : Prop where
  fst : w1.heap[w.heap.size]? = some (.cells cs T (0, 0))
  snd : w1.heap[w.heap.size + 1]? = some (.cells ds T (0, 0))
  bel : Below w.heap.size w w1
theorem Two.mk0 (w : World) (cs ds : Array Value) (T : TypeId) : Two w ((w.alloc (.cells cs T)).alloc (.cells ds T)) cs ds T :=
  ⟨by show ((w.heap.push _).push _)[_]? = _; rw [Array.getElem?_push_lt (by simp)]; simp, by
    show ((w.heap.push _).push _)[_]? = _
    have e : w.heap.size + 1 = (w.heap.push (.cells cs T)).size := by simp
    rw [e, Array.getElem?_push_size], ((Below.refl _ w).alloc (Nat.le_refl _) _).alloc (by show _ ≤ (w.heap.push _).size; simp) _⟩
theorem Two.next {w w1 w2 : World} {cs ds : Array Value} {T : TypeId} (h : Two w w1 cs ds T) (hb : Below w1.heap.size w1 w2) : Two w w2 cs ds T :=
  ⟨(hb.block _ (lt_of_row h.fst)).trans h.fst, (hb.block _ (lt_of_row h.snd)).trans h.snd, h.bel.trans (hb.mono h.bel.size)⟩

end Go.Proofs.Ytdbdmfaphdjdpaa
