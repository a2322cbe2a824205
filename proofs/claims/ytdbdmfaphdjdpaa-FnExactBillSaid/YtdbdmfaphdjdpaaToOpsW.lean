/- The walk of laws.toOpS: a new slice with the same operations. -/
import Derived.Test.YtdbdmfaphdjdpaaOpsW
import Derived.Deep.Cut
namespace Go.Proofs.Ytdbdmfaphdjdpaa
open Go.RowKit

theorem Try.infoOp : (Try.prog.info? 77).map (fun i => (i.zero, i.size, i.bytes)) = some (some (.agg #[.int .i64 0, .int .i64 0, .int .i64 0, .int .i64 0, .string ⟨#[]⟩, .int .i64 0, .int .i64 0, .int .i64 0]), 8, 72) := by kernel_rfl
/-- Block g holds n operations, of which the first k are l's. -/
def PartOps (w wr : World) (g n : Nat) (l : List OpV) (k : Nat) : Prop :=
  Below w.heap.size w wr ∧ ∃ cs : Array Value, wr.heap[g]? = some (.cells cs 77 (0, 0)) ∧ cs.size = n * 8 ∧ ∀ i, i < k → cs[i * 8]? = some (.int .i64 (l.getD i OpV.zero).dev) ∧ cs[i * 8 + 1]? = some (.int .i64 (l.getD i OpV.zero).seq) ∧ cs[i * 8 + 2]? = some (.int .i64 (l.getD i OpV.zero).stamp) ∧ cs[i * 8 + 3]? = some (.int .i64 (l.getD i OpV.zero).kind) ∧ cs[i * 8 + 4]? = some (.string (l.getD i OpV.zero).item) ∧ cs[i * 8 + 5]? = some (.int .i64 (l.getD i OpV.zero).qty) ∧ cs[i * 8 + 6]? = some (.int .i64 (l.getD i OpV.zero).level) ∧ cs[i * 8 + 7]? = some (.int .i64 (l.getD i OpV.zero).undos)
theorem PartOps.next {w wr w1 : World} {g n : Nat} {l : List OpV} {k : Nat} (h : PartOps w wr g n l k) (hb : Below wr.heap.size wr w1) : PartOps w w1 g n l k := by
  obtain ⟨h1, cs, hg, hs, hc⟩ := h
  exact ⟨h1.trans (hb.mono h1.size), cs, (hb.block _ (Array.getElem?_eq_some_iff.1 hg).1).trans hg, hs, hc⟩

def setAt (w : World) (b off : Nat) (o : OpV) : World := ((((((((w.setCell ⟨b, off, none⟩ (.int .i64 o.dev)).setCell ⟨b, off + 1, none⟩ (.int .i64 o.seq)).setCell ⟨b, off + 2, none⟩ (.int .i64 o.stamp)).setCell ⟨b, off + 3, none⟩ (.int .i64 o.kind)).setCell ⟨b, off + 4, none⟩ (.string o.item)).setCell ⟨b, off + 5, none⟩ (.int .i64 o.qty)).setCell ⟨b, off + 6, none⟩ (.int .i64 o.level)).setCell ⟨b, off + 7, none⟩ (.int .i64 o.undos))
theorem setAt_same {w : World} {b off : Nat} {cs : Array Value} {T : TypeId} (o : OpV) (h : w.heap[b]? = some (.cells cs T (0, 0))) : (setAt w b off o).heap[b]? = some (.cells (putOp cs off o) T (0, 0)) := by
  have h0 : (w.setCell ⟨b, off, none⟩ (.int .i64 o.dev)).heap[b]? = some (.cells (cs.setIfInBounds (off) (.int .i64 o.dev)) T (0, 0)) := heap_setCell_same _ _ _ _ _ _ h
  have h1 : ((w.setCell ⟨b, off, none⟩ (.int .i64 o.dev)).setCell ⟨b, off + 1, none⟩ (.int .i64 o.seq)).heap[b]? = some (.cells ((cs.setIfInBounds (off) (.int .i64 o.dev)).setIfInBounds (off + 1) (.int .i64 o.seq)) T (0, 0)) := heap_setCell_same _ _ _ _ _ _ h0
  have h2 : (((w.setCell ⟨b, off, none⟩ (.int .i64 o.dev)).setCell ⟨b, off + 1, none⟩ (.int .i64 o.seq)).setCell ⟨b, off + 2, none⟩ (.int .i64 o.stamp)).heap[b]? = some (.cells (((cs.setIfInBounds (off) (.int .i64 o.dev)).setIfInBounds (off + 1) (.int .i64 o.seq)).setIfInBounds (off + 2) (.int .i64 o.stamp)) T (0, 0)) := heap_setCell_same _ _ _ _ _ _ h1
  have h3 : ((((w.setCell ⟨b, off, none⟩ (.int .i64 o.dev)).setCell ⟨b, off + 1, none⟩ (.int .i64 o.seq)).setCell ⟨b, off + 2, none⟩ (.int .i64 o.stamp)).setCell ⟨b, off + 3, none⟩ (.int .i64 o.kind)).heap[b]? = some (.cells ((((cs.setIfInBounds (off) (.int .i64 o.dev)).setIfInBounds (off + 1) (.int .i64 o.seq)).setIfInBounds (off + 2) (.int .i64 o.stamp)).setIfInBounds (off + 3) (.int .i64 o.kind)) T (0, 0)) := heap_setCell_same _ _ _ _ _ _ h2
  have h4 : (((((w.setCell ⟨b, off, none⟩ (.int .i64 o.dev)).setCell ⟨b, off + 1, none⟩ (.int .i64 o.seq)).setCell ⟨b, off + 2, none⟩ (.int .i64 o.stamp)).setCell ⟨b, off + 3, none⟩ (.int .i64 o.kind)).setCell ⟨b, off + 4, none⟩ (.string o.item)).heap[b]? = some (.cells (((((cs.setIfInBounds (off) (.int .i64 o.dev)).setIfInBounds (off + 1) (.int .i64 o.seq)).setIfInBounds (off + 2) (.int .i64 o.stamp)).setIfInBounds (off + 3) (.int .i64 o.kind)).setIfInBounds (off + 4) (.string o.item)) T (0, 0)) := heap_setCell_same _ _ _ _ _ _ h3
  have h5 : ((((((w.setCell ⟨b, off, none⟩ (.int .i64 o.dev)).setCell ⟨b, off + 1, none⟩ (.int .i64 o.seq)).setCell ⟨b, off + 2, none⟩ (.int .i64 o.stamp)).setCell ⟨b, off + 3, none⟩ (.int .i64 o.kind)).setCell ⟨b, off + 4, none⟩ (.string o.item)).setCell ⟨b, off + 5, none⟩ (.int .i64 o.qty)).heap[b]? = some (.cells ((((((cs.setIfInBounds (off) (.int .i64 o.dev)).setIfInBounds (off + 1) (.int .i64 o.seq)).setIfInBounds (off + 2) (.int .i64 o.stamp)).setIfInBounds (off + 3) (.int .i64 o.kind)).setIfInBounds (off + 4) (.string o.item)).setIfInBounds (off + 5) (.int .i64 o.qty)) T (0, 0)) := heap_setCell_same _ _ _ _ _ _ h4
  have h6 : (((((((w.setCell ⟨b, off, none⟩ (.int .i64 o.dev)).setCell ⟨b, off + 1, none⟩ (.int .i64 o.seq)).setCell ⟨b, off + 2, none⟩ (.int .i64 o.stamp)).setCell ⟨b, off + 3, none⟩ (.int .i64 o.kind)).setCell ⟨b, off + 4, none⟩ (.string o.item)).setCell ⟨b, off + 5, none⟩ (.int .i64 o.qty)).setCell ⟨b, off + 6, none⟩ (.int .i64 o.level)).heap[b]? = some (.cells (((((((cs.setIfInBounds (off) (.int .i64 o.dev)).setIfInBounds (off + 1) (.int .i64 o.seq)).setIfInBounds (off + 2) (.int .i64 o.stamp)).setIfInBounds (off + 3) (.int .i64 o.kind)).setIfInBounds (off + 4) (.string o.item)).setIfInBounds (off + 5) (.int .i64 o.qty)).setIfInBounds (off + 6) (.int .i64 o.level)) T (0, 0)) := heap_setCell_same _ _ _ _ _ _ h5
  have h7 : ((((((((w.setCell ⟨b, off, none⟩ (.int .i64 o.dev)).setCell ⟨b, off + 1, none⟩ (.int .i64 o.seq)).setCell ⟨b, off + 2, none⟩ (.int .i64 o.stamp)).setCell ⟨b, off + 3, none⟩ (.int .i64 o.kind)).setCell ⟨b, off + 4, none⟩ (.string o.item)).setCell ⟨b, off + 5, none⟩ (.int .i64 o.qty)).setCell ⟨b, off + 6, none⟩ (.int .i64 o.level)).setCell ⟨b, off + 7, none⟩ (.int .i64 o.undos)).heap[b]? = some (.cells ((((((((cs.setIfInBounds (off) (.int .i64 o.dev)).setIfInBounds (off + 1) (.int .i64 o.seq)).setIfInBounds (off + 2) (.int .i64 o.stamp)).setIfInBounds (off + 3) (.int .i64 o.kind)).setIfInBounds (off + 4) (.string o.item)).setIfInBounds (off + 5) (.int .i64 o.qty)).setIfInBounds (off + 6) (.int .i64 o.level)).setIfInBounds (off + 7) (.int .i64 o.undos)) T (0, 0)) := heap_setCell_same _ _ _ _ _ _ h6
  exact h7
theorem setAt_other {w : World} {b off k : Nat} (o : OpV) (h : k ≠ b) : (setAt w b off o).heap[k]? = w.heap[k]? := by
  unfold setAt
  rw [heap_setCell_other _ _ _ _ h, heap_setCell_other _ _ _ _ h, heap_setCell_other _ _ _ _ h, heap_setCell_other _ _ _ _ h, heap_setCell_other _ _ _ _ h, heap_setCell_other _ _ _ _ h, heap_setCell_other _ _ _ _ h, heap_setCell_other _ _ _ _ h]
theorem setAt_below {B : Nat} {w0 w : World} {b off : Nat} (o : OpV) (h : Below B w0 w) (hb : B ≤ b) : Below B w0 (setAt w b off o) :=
  ((((((((h.setCell (p := ⟨b, off, none⟩) hb _).setCell (p := ⟨b, off + 1, none⟩) hb _).setCell (p := ⟨b, off + 2, none⟩) hb _).setCell (p := ⟨b, off + 3, none⟩) hb _).setCell (p := ⟨b, off + 4, none⟩) hb _).setCell (p := ⟨b, off + 5, none⟩) hb _).setCell (p := ⟨b, off + 6, none⟩) hb _).setCell (p := ⟨b, off + 7, none⟩) hb _)
theorem PartOps.step {w wr : World} {g n : Nat} {l : List OpV} {k : Nat} (h : PartOps w wr g n l k) (hg0 : w.heap.size ≤ g) (hk : k < n) : PartOps w (setAt wr g (k * 8) (l.getD k OpV.zero)) g n l (k + 1) := by
  obtain ⟨h1, cs, hg, hs, hc⟩ := h
  refine ⟨setAt_below _ h1 hg0, putOp cs (k * 8) (l.getD k OpV.zero), setAt_same _ hg, by rw [putOp_size]; exact hs, fun i hi => ?_⟩
  rcases Nat.lt_or_ge i k with hlt | hge
  · obtain ⟨d0, d1, d2, d3, d4, d5, d6, d7⟩ := hc i hlt
    refine ⟨by rw [putOp_far _ _ _ _ (by omega)]; exact d0, by rw [putOp_far _ _ _ _ (by omega)]; exact d1, by rw [putOp_far _ _ _ _ (by omega)]; exact d2, by rw [putOp_far _ _ _ _ (by omega)]; exact d3, by rw [putOp_far _ _ _ _ (by omega)]; exact d4, by rw [putOp_far _ _ _ _ (by omega)]; exact d5, by rw [putOp_far _ _ _ _ (by omega)]; exact d6, by rw [putOp_far _ _ _ _ (by omega)]; exact d7⟩
  · obtain rfl : i = k := by omega
    exact ⟨putOp_0 _ _ _ (by omega), putOp_1 _ _ _ (by omega), putOp_2 _ _ _ (by omega), putOp_3 _ _ _ (by omega), putOp_4 _ _ _ (by omega), putOp_5 _ _ _ (by omega), putOp_6 _ _ _ (by omega), putOp_7 _ _ _ (by omega)⟩
theorem PartOps.cells {w wr : World} {g n : Nat} {l : List OpV} {k : Nat} (h : PartOps w wr g n l k) (hk : k < n) : ∃ v0 v1 v2 v3 v4 v5 v6 v7, wr.cell? ⟨g, k * 8, none⟩ = some v0 ∧ wr.cell? ⟨g, k * 8 + 1, none⟩ = some v1 ∧ wr.cell? ⟨g, k * 8 + 2, none⟩ = some v2 ∧ wr.cell? ⟨g, k * 8 + 3, none⟩ = some v3 ∧ wr.cell? ⟨g, k * 8 + 4, none⟩ = some v4 ∧ wr.cell? ⟨g, k * 8 + 5, none⟩ = some v5 ∧ wr.cell? ⟨g, k * 8 + 6, none⟩ = some v6 ∧ wr.cell? ⟨g, k * 8 + 7, none⟩ = some v7 := by
  obtain ⟨h1, cs, hg, hs, hc⟩ := h
  have e : ∀ m, m < cs.size → wr.cell? ⟨g, m, none⟩ = some (cs.getD m undef) := fun m hm => by
    rw [cell_of_row _ _ _ _ _ _ hg, Array.getElem?_eq_getElem hm]
    simp [Array.getD, hm]
  exact ⟨_, _, _, _, _, _, _, _, e _ (by omega), e _ (by omega), e _ (by omega), e _ (by omega), e _ (by omega), e _ (by omega), e _ (by omega), e _ (by omega)⟩
theorem PartOps.frozen {w wr : World} {g n : Nat} {l : List OpV} {k : Nat} (h : PartOps w wr g n l k) (m : Nat) : wr.frozen? ⟨g, m, none⟩ = false := by
  obtain ⟨h1, cs, hg, hs, hc⟩ := h
  exact frozen_of_row _ _ _ _ _ hg
theorem PartOps.done {w wr : World} {g n : Nat} {l : List OpV} (h : PartOps w wr g n l n) (hl : l.length = n) {B : Nat} (hB : g < B) : Ops wr B (some ⟨g, 0, none⟩) n l := by
  obtain ⟨h1, cs, hg, hs, hc⟩ := h
  refine ⟨hl, fun i hi => ⟨g, 0, rfl, hB, ?_⟩⟩
  obtain ⟨d0, d1, d2, d3, d4, d5, d6, d7⟩ := hc i hi
  rw [Nat.zero_add]
  exact ⟨(cell_of_row _ _ _ _ _ _ hg).trans d0, (cell_of_row _ _ _ _ _ _ hg).trans d1, (cell_of_row _ _ _ _ _ _ hg).trans d2, (cell_of_row _ _ _ _ _ _ hg).trans d3, (cell_of_row _ _ _ _ _ _ hg).trans d4, (cell_of_row _ _ _ _ _ _ hg).trans d5, (cell_of_row _ _ _ _ _ _ hg).trans d6, (cell_of_row _ _ _ _ _ _ hg).trans d7⟩

/-- What a call leaves that hands back a new slice of operations: its block is new. -/
def FreshOps (l : List OpV) (w : World) (e : Ending) (w' : World) : Prop :=
  e = .returned (.slice (some ⟨w.heap.size, 0, none⟩) l.length l.length) ∧ Ops w' w'.heap.size (some ⟨w.heap.size, 0, none⟩) l.length l ∧ w.heap.size < w'.heap.size ∧ Below w.heap.size w w'
set_option maxRecDepth 100000 in
set_option maxHeartbeats 1000000 in
theorem toOps (w : World) (B : Nat) (a : Option Addr) (n cap : Nat) (l : List OpV) (h : Ops w B a n l) (hB : B ≤ w.heap.size) (hl : n ≤ 1048576) :
    Calls Try.prog 48 #[.slice a n cap] w (FreshOps l w) := by
  obtain ⟨i0, hi, hz0, hz1, hz2⟩ := info_parts Try.infoOp
  obtain ⟨M, hM⟩ : ∃ M, M = madeCells (Value.agg #[.int .i64 0, .int .i64 0, .int .i64 0, .int .i64 0, .string ⟨#[]⟩, .int .i64 0, .int .i64 0, .int .i64 0]).cells (((n : Nat) : Int).toNat * i0.size) := ⟨_, rfl⟩
  have hMs : M.size = n * 8 := by rw [hM, size_madeCells, hz1]; simp
  have hmk : ∀ W : World, (Instr.makeSlice 27 (.int .i64 (n : Int)) (.int .i64 (n : Int))).run Try.prog W = .ok (.slice (some ⟨W.heap.size, 0, none⟩) n n) (W.alloc (.cells M 77)) := fun W => by
    have h := run_make (P := Try.prog) W 27 77 i0 (.agg #[.int .i64 0, .int .i64 0, .int .i64 0, .int .i64 0, .string ⟨#[]⟩, .int .i64 0, .int .i64 0, .int .i64 0]) Try.underlying27 hi hz0 .i64 .i64 (n : Int) (n : Int) (by omega) (by omega) (by rw [hz2]; omega) (by omega)
    rw [← hM] at h
    simpa using h
  have hL := Lib.hid h.1
  have H := Lib.hid h
  have HM := Lib.hid hMs
  clear hM h hMs hi hz0 hz1 hz2
  go_enter Try.func48, Try.ntmps48
  go_wp2
  go_loopw [4] (fun i wr => ∃ k : Nat, k ≤ n ∧ i = .int .i64 k ∧ Hid (PartOps w wr w.heap.size n l k) ∧ Hid (w.heap.size < wr.heap.size)) (fun i _ => n - (intOf i).toNat)
  case atStart => exact ⟨0, Nat.zero_le _, rfl, ⟨(Below.refl _ _).alloc (Nat.le_refl _) _, M, heap_alloc_new _ _, HM.out, fun j hj => by omega⟩, (by show _ < (w.heap.push _).size; simp)⟩
  case round =>
    obtain ⟨k, hk, rfl, HP, HW⟩ := hrel
    by_cases hlt : k < n
    · obtain ⟨b, off, rfl, hb, ho⟩ := H.out.2 k hlt
      obtain ⟨c0, c1, c2, c3, c4, c5, c6, c7⟩ := ho.kept (HP.out.1.block b (by omega))
      clear ho
      generalize ho' : l.getD k OpV.zero = x at c0 c1 c2 c3 c4 c5 c6 c7
      have HXo := Lib.hid ho'
      clear ho'
      go_wp2_with fail
      refine (toOp x.dev x.seq x.stamp x.kind x.item x.qty x.level x.undos _).mono ?_
      rintro e w1 ⟨rfl, hb1⟩
      clear c0 c1 c2 c3 c4 c5 c6 c7
      have HP1 := Lib.hid (HP.out.next hb1)
      have hw1 : w.heap.size < w1.heap.size := by have := HW.out; have := hb1.size; omega
      have HS : Hid (PartOps w (setAt w1 w.heap.size (k * 8) x) w.heap.size n l (k + 1)) := by have := HP1.out.step (Nat.le_refl _) hlt; rw [HXo.out] at this; exact this
      obtain ⟨v0, v1, v2, v3, v4, v5, v6, v7, d0, d1, d2, d3, d4, d5, d6, d7⟩ := HP1.out.cells hlt
      have f0 := HP1.out.frozen (k * 8)
      have f1 := HP1.out.frozen (k * 8 + 1)
      have f2 := HP1.out.frozen (k * 8 + 2)
      have f3 := HP1.out.frozen (k * 8 + 3)
      have f4 := HP1.out.frozen (k * 8 + 4)
      have f5 := HP1.out.frozen (k * 8 + 5)
      have f6 := HP1.out.frozen (k * 8 + 6)
      have f7 := HP1.out.frozen (k * 8 + 7)
      have hsz : (setAt w1 w.heap.size (k * 8) x).heap.size = w1.heap.size := by unfold setAt; simp [World.setCell]
      clear hb1 HP HP1 HW
      go_wp2
      go_roundw
      case rel => exact ⟨k + 1, by omega, by go_num, HS, (by show _ < (setAt w1 w.heap.size (k * 8) x).heap.size; rw [hsz]; exact hw1)⟩
      case measure => simp [intOf]; omega
    · obtain rfl : k = n := by omega
      have HD := Lib.hid (HP.out.done hL.out HW.out)
      go_wp2
      go_ret
      exact ⟨by rw [hL.out]; rfl, by rw [hL.out]; exact HD.out, HW.out, HP.out.1⟩
end Go.Proofs.Ytdbdmfaphdjdpaa
