/- Walks and mathematics that several claims share, part 8. -/
import Derived.Test.YtgagchlcafdiaaaGreatGb4
import Derived.Deep.QuietTactic
import Derived.BigQuiet
import Derived.Test.YtgagchlcafdiaaaGreatGbA
namespace Go.Proofs.YtgagchlcafdiaaaGreat
set_option maxRecDepth 100000
open Go.RowKit
set_option linter.unusedVariables false
set_option linter.unusedSimpArgs false

def befB (dev1 seq1 stamp1 kind1 : Int) (item1 : ByteArray) (qty1 level1 undos1 : Int) (dev2 seq2 stamp2 kind2 : Int) (item2 : ByteArray) (qty2 level2 undos2 : Int) : Bool := opB dev1 seq1 stamp1 kind1 item1 qty1 level1 undos1 && (opB dev2 seq2 stamp2 kind2 item2 qty2 level2 undos2 && preB stamp1 dev1 seq1 stamp2 dev2 seq2)
structure Two (w w1 : World) (cs ds : Array Value) (T : TypeId) : Prop where
 fst : w1.heap[w.heap.size]? = some (.cells cs T (0, 0))
 snd : w1.heap[w.heap.size + 1]? = some (.cells ds T (0, 0))
 bel : Below w.heap.size w w1
theorem Two.mk0 (w : World) (cs ds : Array Value) (T : TypeId) : Two w ((w.alloc (.cells cs T)).alloc (.cells ds T)) cs ds T :=
 ⟨by show ((w.heap.push _).push _)[_]? = _; rw [Array.getElem?_push_lt (by simp)]; simp, by
  show ((w.heap.push _).push _)[_]? = _
  have e : w.heap.size + 1 = (w.heap.push (.cells cs T)).size := by simp
  rw [e, Array.getElem?_push_size], ((Below.refl _ w).alloc (Nat.le_refl _) _).alloc (by show _ ≤ (w.heap.push _).size; simp) _⟩
theorem Two.next {w w1 w2 : World} {cs ds : Array Value} {T : TypeId} (h : Two w w1 cs ds T) (hb : Below w1.heap.size w1 w2) : Two w w2 cs ds T :=
 ⟨(hb.block _ (lt_of_row h.fst)).trans h.fst, (hb.block _ (lt_of_row h.snd)).trans h.snd, h.bel.trans (hb.mono h.bel.size)⟩

set_option maxHeartbeats 5000000 in
theorem l3Before (dev1 seq1 stamp1 kind1 : Int) (item1 : ByteArray) (qty1 level1 undos1 : Int) (dev2 seq2 stamp2 kind2 : Int) (item2 : ByteArray) (qty2 level2 undos2 : Int) (w : World) : Calls Tryz.prog 89 #[.agg #[.int .i64 dev1, .int .i64 seq1, .int .i64 stamp1, .int .i64 kind1, .string item1, .int .i64 qty1, .int .i64 level1, .int .i64 undos1], .agg #[.int .i64 dev2, .int .i64 seq2, .int .i64 stamp2, .int .i64 kind2, .string item2, .int .i64 qty2, .int .i64 level2, .int .i64 undos2]] w fun e w' => e = .returned (.bool (preB stamp1 dev1 seq1 stamp2 dev2 seq2)) ∧ Below w.heap.size w w' := by
 have HP : Hid (preB stamp1 dev1 seq1 stamp2 dev2 seq2 = decide (stamp1 < stamp2 ∨ (stamp1 = stamp2 ∧ (dev1 < dev2 ∨ (dev1 = dev2 ∧ seq1 < seq2))))) := rfl
 by_cases h1 : stamp1 = stamp2
 ·by_cases h2 : dev1 = dev2
  ·have HQ : Hid (preB stamp1 dev1 seq1 stamp2 dev2 seq2 = decide (seq1 < seq2)) := by show preB _ _ _ _ _ _ = _; rw [HP.out, decide_eq_decide]; omega
   have z1 : (stamp1 != stamp2) = false := by rw [h1]; exact bne_self_eq_false _
   have z2 : (dev1 != dev2) = false := by rw [h2]; exact bne_self_eq_false _
   clear h1 h2
   go_enter Tryz.func89, Tryz.ntmps89
   go_wp2
   go_ret
   exact ⟨by rw [HQ.out]; rfl, (bl).alloc (by simp) _⟩
  ·have HQ : Hid (preB stamp1 dev1 seq1 stamp2 dev2 seq2 = decide (dev1 < dev2)) := by show preB _ _ _ _ _ _ = _; rw [HP.out, decide_eq_decide]; omega
   have z1 : (stamp1 != stamp2) = false := by rw [h1]; exact bne_self_eq_false _
   have z2 : (dev1 != dev2) = true := by rw [bne_iff_ne]; exact h2
   clear h1 h2
   go_enter Tryz.func89, Tryz.ntmps89
   go_wp2
   go_ret
   exact ⟨by rw [HQ.out]; rfl, (bl).alloc (by simp) _⟩
 ·have HQ : Hid (preB stamp1 dev1 seq1 stamp2 dev2 seq2 = decide (stamp1 < stamp2)) := by show preB _ _ _ _ _ _ = _; rw [HP.out, decide_eq_decide]; omega
  have z1 : (stamp1 != stamp2) = true := by rw [bne_iff_ne]; exact h1
  clear h1
  go_enter Tryz.func89, Tryz.ntmps89
  go_wp2
  go_ret
  exact ⟨by rw [HQ.out]; rfl, (bl).alloc (by simp) _⟩
end Go.Proofs.YtgagchlcafdiaaaGreat
