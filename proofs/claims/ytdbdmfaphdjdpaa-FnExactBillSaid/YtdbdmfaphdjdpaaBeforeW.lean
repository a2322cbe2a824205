/- The walks of impl.Before, spec.Before and of the law FnExactBefore. -/
import Derived.Test.YtdbdmfaphdjdpaaCmpW
import Derived.Deep.QuietTactic
import Derived.BigQuiet
namespace Go.Proofs.Ytdbdmfaphdjdpaa
open Go.RowKit

def befB (dev1 seq1 stamp1 kind1 : Int) (item1 : ByteArray) (qty1 level1 undos1 : Int) (dev2 seq2 stamp2 kind2 : Int) (item2 : ByteArray) (qty2 level2 undos2 : Int) : Bool := opB dev1 seq1 stamp1 kind1 item1 qty1 level1 undos1 && (opB dev2 seq2 stamp2 kind2 item2 qty2 level2 undos2 && preB stamp1 dev1 seq1 stamp2 dev2 seq2)
structure Two (w w1 : World) (cs ds : Array Value) (T : TypeId) : Prop where
  fst : w1.heap[w.heap.size]? = some (.cells cs T (0, 0))
  snd : w1.heap[w.heap.size + 1]? = some (.cells ds T (0, 0))
  bel : Below w.heap.size w w1
theorem Two.mk0 (w : World) (cs ds : Array Value) (T : TypeId) : Two w ((w.alloc (.cells cs T)).alloc (.cells ds T)) cs ds T :=
  ⟨by show ((w.heap.push _).push _)[_]? = _; rw [Array.getElem?_push_lt (by simp)]; simp, by
    show ((w.heap.push _).push _)[_]? = _
    have e : w.heap.size + 1 = (w.heap.push (.cells cs T)).size := by simp
    rw [e, Array.getElem?_push_size], ((Below.refl _ w).alloc (Nat.le_refl _) _).alloc (by show _ ≤ (w.heap.push _).size; simp) _⟩
theorem Two.next {w w1 w2 : World} {cs ds : Array Value} {T : TypeId} (h : Two w w1 cs ds T) (hb : Below w1.heap.size w1 w2) : Two w w2 cs ds T :=
  ⟨(hb.block _ (lt_of_row h.fst)).trans h.fst, (hb.block _ (lt_of_row h.snd)).trans h.snd, h.bel.trans (hb.mono h.bel.size)⟩

set_option maxRecDepth 100000 in
set_option maxHeartbeats 1000000 in
theorem l3Before (dev1 seq1 stamp1 kind1 : Int) (item1 : ByteArray) (qty1 level1 undos1 : Int) (dev2 seq2 stamp2 kind2 : Int) (item2 : ByteArray) (qty2 level2 undos2 : Int) (w : World) : Calls Try.prog 194 #[.agg #[.int .i64 dev1, .int .i64 seq1, .int .i64 stamp1, .int .i64 kind1, .string item1, .int .i64 qty1, .int .i64 level1, .int .i64 undos1], .agg #[.int .i64 dev2, .int .i64 seq2, .int .i64 stamp2, .int .i64 kind2, .string item2, .int .i64 qty2, .int .i64 level2, .int .i64 undos2]] w fun e w' => e = .returned (.bool (preB stamp1 dev1 seq1 stamp2 dev2 seq2)) ∧ Below w.heap.size w w' := by
  have HP : Hid (preB stamp1 dev1 seq1 stamp2 dev2 seq2 = decide (stamp1 < stamp2 ∨ (stamp1 = stamp2 ∧ (dev1 < dev2 ∨ (dev1 = dev2 ∧ seq1 < seq2))))) := rfl
  by_cases h1 : stamp1 = stamp2
  · by_cases h2 : dev1 = dev2
    · have HQ : Hid (preB stamp1 dev1 seq1 stamp2 dev2 seq2 = decide (seq1 < seq2)) := by show preB _ _ _ _ _ _ = _; rw [HP.out, decide_eq_decide]; omega
      have z1 : (stamp1 != stamp2) = false := by rw [h1]; exact bne_self_eq_false _
      have z2 : (dev1 != dev2) = false := by rw [h2]; exact bne_self_eq_false _
      clear h1 h2
      go_enter Try.func194, Try.ntmps194
      go_wp2
      go_ret
      exact ⟨by rw [HQ.out]; rfl, ((Below.refl _ _).alloc (Nat.le_refl _) _).alloc (by simp) _⟩
    · have HQ : Hid (preB stamp1 dev1 seq1 stamp2 dev2 seq2 = decide (dev1 < dev2)) := by show preB _ _ _ _ _ _ = _; rw [HP.out, decide_eq_decide]; omega
      have z1 : (stamp1 != stamp2) = false := by rw [h1]; exact bne_self_eq_false _
      have z2 : (dev1 != dev2) = true := by rw [bne_iff_ne]; exact h2
      clear h1 h2
      go_enter Try.func194, Try.ntmps194
      go_wp2
      go_ret
      exact ⟨by rw [HQ.out]; rfl, ((Below.refl _ _).alloc (Nat.le_refl _) _).alloc (by simp) _⟩
  · have HQ : Hid (preB stamp1 dev1 seq1 stamp2 dev2 seq2 = decide (stamp1 < stamp2)) := by show preB _ _ _ _ _ _ = _; rw [HP.out, decide_eq_decide]; omega
    have z1 : (stamp1 != stamp2) = true := by rw [bne_iff_ne]; exact h1
    clear h1
    go_enter Try.func194, Try.ntmps194
    go_wp2
    go_ret
    exact ⟨by rw [HQ.out]; rfl, ((Below.refl _ _).alloc (Nat.le_refl _) _).alloc (by simp) _⟩
def C16 (dev1 seq1 stamp1 kind1 : Int) (item1 : ByteArray) (qty1 level1 undos1 : Int) (dev2 seq2 stamp2 kind2 : Int) (item2 : ByteArray) (qty2 level2 undos2 : Int) (w w' : World) : Prop := w'.cell? ⟨w.heap.size, 0, none⟩ = some (.int .i64 dev1) ∧ w'.cell? ⟨w.heap.size, 1, none⟩ = some (.int .i64 seq1) ∧ w'.cell? ⟨w.heap.size, 2, none⟩ = some (.int .i64 stamp1) ∧ w'.cell? ⟨w.heap.size, 3, none⟩ = some (.int .i64 kind1) ∧ w'.cell? ⟨w.heap.size, 4, none⟩ = some (.string item1) ∧ w'.cell? ⟨w.heap.size, 5, none⟩ = some (.int .i64 qty1) ∧ w'.cell? ⟨w.heap.size, 6, none⟩ = some (.int .i64 level1) ∧ w'.cell? ⟨w.heap.size, 7, none⟩ = some (.int .i64 undos1) ∧ w'.cell? ⟨w.heap.size + 1, 0, none⟩ = some (.int .i64 dev2) ∧ w'.cell? ⟨w.heap.size + 1, 1, none⟩ = some (.int .i64 seq2) ∧ w'.cell? ⟨w.heap.size + 1, 2, none⟩ = some (.int .i64 stamp2) ∧ w'.cell? ⟨w.heap.size + 1, 3, none⟩ = some (.int .i64 kind2) ∧ w'.cell? ⟨w.heap.size + 1, 4, none⟩ = some (.string item2) ∧ w'.cell? ⟨w.heap.size + 1, 5, none⟩ = some (.int .i64 qty2) ∧ w'.cell? ⟨w.heap.size + 1, 6, none⟩ = some (.int .i64 level2) ∧ w'.cell? ⟨w.heap.size + 1, 7, none⟩ = some (.int .i64 undos2) ∧ Below w.heap.size w w'
theorem c16_next {dev1 seq1 stamp1 kind1 : Int} {item1 : ByteArray} {qty1 level1 undos1 : Int} {dev2 seq2 stamp2 kind2 : Int} {item2 : ByteArray} {qty2 level2 undos2 : Int} {w w1 w2 : World} (h : C16 dev1 seq1 stamp1 kind1 item1 qty1 level1 undos1 dev2 seq2 stamp2 kind2 item2 qty2 level2 undos2 w w1) (hb : Below w1.heap.size w1 w2) : C16 dev1 seq1 stamp1 kind1 item1 qty1 level1 undos1 dev2 seq2 stamp2 kind2 item2 qty2 level2 undos2 w w2 := by
  unfold C16 at h ⊢
  obtain ⟨h0, h1, h2, h3, h4, h5, h6, h7, h8, h9, h10, h11, h12, h13, h14, h15, hB⟩ := h
  exact ⟨(hb.cell (block_lt_of_cell h0)).trans h0, (hb.cell (block_lt_of_cell h1)).trans h1, (hb.cell (block_lt_of_cell h2)).trans h2, (hb.cell (block_lt_of_cell h3)).trans h3, (hb.cell (block_lt_of_cell h4)).trans h4, (hb.cell (block_lt_of_cell h5)).trans h5, (hb.cell (block_lt_of_cell h6)).trans h6, (hb.cell (block_lt_of_cell h7)).trans h7, (hb.cell (block_lt_of_cell h8)).trans h8, (hb.cell (block_lt_of_cell h9)).trans h9, (hb.cell (block_lt_of_cell h10)).trans h10, (hb.cell (block_lt_of_cell h11)).trans h11, (hb.cell (block_lt_of_cell h12)).trans h12, (hb.cell (block_lt_of_cell h13)).trans h13, (hb.cell (block_lt_of_cell h14)).trans h14, (hb.cell (block_lt_of_cell h15)).trans h15, hB.trans (hb.mono hB.size)⟩
theorem c16_of {dev1 seq1 stamp1 kind1 : Int} {item1 : ByteArray} {qty1 level1 undos1 : Int} {dev2 seq2 stamp2 kind2 : Int} {item2 : ByteArray} {qty2 level2 undos2 : Int} {T : TypeId} {w w1 : World} (h : Two w w1 #[.int .i64 dev1, .int .i64 seq1, .int .i64 stamp1, .int .i64 kind1, .string item1, .int .i64 qty1, .int .i64 level1, .int .i64 undos1] #[.int .i64 dev2, .int .i64 seq2, .int .i64 stamp2, .int .i64 kind2, .string item2, .int .i64 qty2, .int .i64 level2, .int .i64 undos2] T) : C16 dev1 seq1 stamp1 kind1 item1 qty1 level1 undos1 dev2 seq2 stamp2 kind2 item2 qty2 level2 undos2 w w1 := by
  exact ⟨cell_of_row _ _ _ _ _ _ h.fst, cell_of_row _ _ _ _ _ _ h.fst, cell_of_row _ _ _ _ _ _ h.fst, cell_of_row _ _ _ _ _ _ h.fst, cell_of_row _ _ _ _ _ _ h.fst, cell_of_row _ _ _ _ _ _ h.fst, cell_of_row _ _ _ _ _ _ h.fst, cell_of_row _ _ _ _ _ _ h.fst, cell_of_row _ _ _ _ _ _ h.snd, cell_of_row _ _ _ _ _ _ h.snd, cell_of_row _ _ _ _ _ _ h.snd, cell_of_row _ _ _ _ _ _ h.snd, cell_of_row _ _ _ _ _ _ h.snd, cell_of_row _ _ _ _ _ _ h.snd, cell_of_row _ _ _ _ _ _ h.snd, cell_of_row _ _ _ _ _ _ h.snd, h.bel⟩
theorem c16_drew {dev1 seq1 stamp1 kind1 : Int} {item1 : ByteArray} {qty1 level1 undos1 : Int} {dev2 seq2 stamp2 kind2 : Int} {item2 : ByteArray} {qty2 level2 undos2 : Int} {w w1 : World} (h : C16 dev1 seq1 stamp1 kind1 item1 qty1 level1 undos1 dev2 seq2 stamp2 kind2 item2 qty2 level2 undos2 w w1) : C16 dev1 seq1 stamp1 kind1 item1 qty1 level1 undos1 dev2 seq2 stamp2 kind2 item2 qty2 level2 undos2 w w1.drew := by
  exact c16_next h (Below.refl _ _).drew
end Go.Proofs.Ytdbdmfaphdjdpaa
