/- Walks and mathematics that several claims share, part 7. -/
import Derived.Test.YtgagchlcafdiaaaGreatGb3
import Derived.Test.YtgagchlcafdiaaaGreatGb6
import Derived.Deep.Cut
import Derived.Test.YtgagchlcafdiaaaGreatGbA
namespace Go.Proofs.YtgagchlcafdiaaaGreat
open Go.RowKit
set_option linter.unusedVariables false
set_option linter.unusedSimpArgs false

structure OpV where
 dev : Int
 seq : Int
 stamp : Int
 kind : Int
 item : ByteArray
 qty : Int
 level : Int
 undos : Int
def OpV.zero : OpV := ⟨0, 0, 0, 0, ⟨#[]⟩, 0, 0, 0⟩
def OpV.ok (o : OpV) : Bool := opB o.dev o.seq o.stamp o.kind o.item o.qty o.level o.undos
/-- At address ⟨b, off⟩ stands the operation o. -/
def OpAt (w : World) (b off : Nat) (o : OpV) : Prop := w.cell? ⟨b, off, none⟩ = some (.int .i64 o.dev) ∧ w.cell? ⟨b, off + 1, none⟩ = some (.int .i64 o.seq) ∧ w.cell? ⟨b, off + 2, none⟩ = some (.int .i64 o.stamp) ∧ w.cell? ⟨b, off + 3, none⟩ = some (.int .i64 o.kind) ∧ w.cell? ⟨b, off + 4, none⟩ = some (.string o.item) ∧ w.cell? ⟨b, off + 5, none⟩ = some (.int .i64 o.qty) ∧ w.cell? ⟨b, off + 6, none⟩ = some (.int .i64 o.level) ∧ w.cell? ⟨b, off + 7, none⟩ = some (.int .i64 o.undos)
theorem OpAt.kept {w w' : World} {b off : Nat} {o : OpV} (h : OpAt w b off o) (hb : w'.heap[b]? = w.heap[b]?) : OpAt w' b off o := by
 obtain ⟨h0, h1, h2, h3, h4, h5, h6, h7⟩ := h
 exact ⟨(World.cell?_of_block (a := ⟨b, off, none⟩) hb).trans h0, (World.cell?_of_block (a := ⟨b, off + 1, none⟩) hb).trans h1, (World.cell?_of_block (a := ⟨b, off + 2, none⟩) hb).trans h2, (World.cell?_of_block (a := ⟨b, off + 3, none⟩) hb).trans h3, (World.cell?_of_block (a := ⟨b, off + 4, none⟩) hb).trans h4, (World.cell?_of_block (a := ⟨b, off + 5, none⟩) hb).trans h5, (World.cell?_of_block (a := ⟨b, off + 6, none⟩) hb).trans h6, (World.cell?_of_block (a := ⟨b, off + 7, none⟩) hb).trans h7⟩
/-- A slice of n operations that reads as l; its row lies below block B. -/
def Ops (w : World) (B : Nat) (a : Option Addr) (n : Nat) (l : List OpV) : Prop :=
 l.length = n ∧ ∀ i, i < n → ∃ b off, a = some ⟨b, off, none⟩ ∧ b < B ∧ OpAt w b (off + i * 8) (l.getD i OpV.zero)
theorem Ops.kept {w w' : World} {B : Nat} {a : Option Addr} {n : Nat} {l : List OpV} (h : Ops w B a n l) (hk : ∀ k, k < B → w'.heap[k]? = w.heap[k]?) : Ops w' B a n l :=
 ⟨h.1, fun i hi => by obtain ⟨b, off, e, hb, ho⟩ := h.2 i hi; exact ⟨b, off, e, hb, ho.kept (hk b hb)⟩⟩
theorem Ops.below {w w' : World} {B B' : Nat} {a : Option Addr} {n : Nat} {l : List OpV} (h : Ops w B a n l) (hb : Below B' w w') (hB : B ≤ B') : Ops w' B a n l :=
 h.kept fun k hk => hb.block k (by omega)
theorem Ops.more {w : World} {B B' : Nat} {a : Option Addr} {n : Nat} {l : List OpV} (h : Ops w B a n l) (hB : B ≤ B') : Ops w B' a n l :=
 ⟨h.1, fun i hi => by obtain ⟨b, off, e, hb, ho⟩ := h.2 i hi; exact ⟨b, off, e, by omega, ho⟩⟩
def putOp (cs : Array Value) (off : Nat) (o : OpV) : Array Value := ((((((((cs.setIfInBounds (off) (.int .i64 o.dev)).setIfInBounds (off + 1) (.int .i64 o.seq)).setIfInBounds (off + 2) (.int .i64 o.stamp)).setIfInBounds (off + 3) (.int .i64 o.kind)).setIfInBounds (off + 4) (.string o.item)).setIfInBounds (off + 5) (.int .i64 o.qty)).setIfInBounds (off + 6) (.int .i64 o.level)).setIfInBounds (off + 7) (.int .i64 o.undos))
theorem putOp_size (cs : Array Value) (off : Nat) (o : OpV) : (putOp cs off o).size = cs.size := by
 unfold putOp
 simp only [Array.size_setIfInBounds]
theorem putOp_far (cs : Array Value) (off m : Nat) (o : OpV) (h : m < off ∨ off + 8 ≤ m) : (putOp cs off o)[m]? = cs[m]? := by
 unfold putOp
 rw [Array.getElem?_setIfInBounds_ne (by omega), Array.getElem?_setIfInBounds_ne (by omega), Array.getElem?_setIfInBounds_ne (by omega), Array.getElem?_setIfInBounds_ne (by omega), Array.getElem?_setIfInBounds_ne (by omega), Array.getElem?_setIfInBounds_ne (by omega), Array.getElem?_setIfInBounds_ne (by omega), Array.getElem?_setIfInBounds_ne (by omega)]

theorem putOp_0 (cs : Array Value) (off : Nat) (o : OpV) (h : off + 8 ≤ cs.size) : (putOp cs off o)[off]? = some (.int .i64 o.dev) := by
 unfold putOp
 rw [Array.getElem?_setIfInBounds_ne (by omega), Array.getElem?_setIfInBounds_ne (by omega), Array.getElem?_setIfInBounds_ne (by omega), Array.getElem?_setIfInBounds_ne (by omega), Array.getElem?_setIfInBounds_ne (by omega), Array.getElem?_setIfInBounds_ne (by omega), Array.getElem?_setIfInBounds_ne (by omega), Array.getElem?_setIfInBounds_self_of_lt (by (try simp only [Array.size_setIfInBounds]); omega)]
theorem putOp_1 (cs : Array Value) (off : Nat) (o : OpV) (h : off + 8 ≤ cs.size) : (putOp cs off o)[off + 1]? = some (.int .i64 o.seq) := by
 unfold putOp
 rw [Array.getElem?_setIfInBounds_ne (by omega), Array.getElem?_setIfInBounds_ne (by omega), Array.getElem?_setIfInBounds_ne (by omega), Array.getElem?_setIfInBounds_ne (by omega), Array.getElem?_setIfInBounds_ne (by omega), Array.getElem?_setIfInBounds_ne (by omega), Array.getElem?_setIfInBounds_self_of_lt (by (try simp only [Array.size_setIfInBounds]); omega)]
theorem putOp_2 (cs : Array Value) (off : Nat) (o : OpV) (h : off + 8 ≤ cs.size) : (putOp cs off o)[off + 2]? = some (.int .i64 o.stamp) := by
 unfold putOp
 rw [Array.getElem?_setIfInBounds_ne (by omega), Array.getElem?_setIfInBounds_ne (by omega), Array.getElem?_setIfInBounds_ne (by omega), Array.getElem?_setIfInBounds_ne (by omega), Array.getElem?_setIfInBounds_ne (by omega), Array.getElem?_setIfInBounds_self_of_lt (by (try simp only [Array.size_setIfInBounds]); omega)]
theorem putOp_3 (cs : Array Value) (off : Nat) (o : OpV) (h : off + 8 ≤ cs.size) : (putOp cs off o)[off + 3]? = some (.int .i64 o.kind) := by
 unfold putOp
 rw [Array.getElem?_setIfInBounds_ne (by omega), Array.getElem?_setIfInBounds_ne (by omega), Array.getElem?_setIfInBounds_ne (by omega), Array.getElem?_setIfInBounds_ne (by omega), Array.getElem?_setIfInBounds_self_of_lt (by (try simp only [Array.size_setIfInBounds]); omega)]
theorem putOp_4 (cs : Array Value) (off : Nat) (o : OpV) (h : off + 8 ≤ cs.size) : (putOp cs off o)[off + 4]? = some (.string o.item) := by
 unfold putOp
 rw [Array.getElem?_setIfInBounds_ne (by omega), Array.getElem?_setIfInBounds_ne (by omega), Array.getElem?_setIfInBounds_ne (by omega), Array.getElem?_setIfInBounds_self_of_lt (by (try simp only [Array.size_setIfInBounds]); omega)]
theorem putOp_5 (cs : Array Value) (off : Nat) (o : OpV) (h : off + 8 ≤ cs.size) : (putOp cs off o)[off + 5]? = some (.int .i64 o.qty) := by
 unfold putOp
 rw [Array.getElem?_setIfInBounds_ne (by omega), Array.getElem?_setIfInBounds_ne (by omega), Array.getElem?_setIfInBounds_self_of_lt (by (try simp only [Array.size_setIfInBounds]); omega)]
theorem putOp_6 (cs : Array Value) (off : Nat) (o : OpV) (h : off + 8 ≤ cs.size) : (putOp cs off o)[off + 6]? = some (.int .i64 o.level) := by
 unfold putOp
 rw [Array.getElem?_setIfInBounds_ne (by omega), Array.getElem?_setIfInBounds_self_of_lt (by (try simp only [Array.size_setIfInBounds]); omega)]
theorem putOp_7 (cs : Array Value) (off : Nat) (o : OpV) (h : off + 8 ≤ cs.size) : (putOp cs off o)[off + 7]? = some (.int .i64 o.undos) := by
 unfold putOp
 rw [Array.getElem?_setIfInBounds_self_of_lt (by (try simp only [Array.size_setIfInBounds]); omega)]
theorem Tryz.infoOp : (Tryz.prog.info? 84).map (fun i => (i.zero, i.size, i.bytes)) = some (some (.agg #[.int .i64 0, .int .i64 0, .int .i64 0, .int .i64 0, .string ⟨#[]⟩, .int .i64 0, .int .i64 0, .int .i64 0]), 8, 72) := by kernel_rfl
/-- Block g holds n operations, of which the first k are l's. -/
def PartOps (w wr : World) (g n : Nat) (l : List OpV) (k : Nat) : Prop :=
 Below w.heap.size w wr ∧ ∃ cs : Array Value, wr.heap[g]? = some (.cells cs 84 (0, 0)) ∧ cs.size = n * 8 ∧ ∀ i, i < k → cs[i * 8]? = some (.int .i64 (l.getD i OpV.zero).dev) ∧ cs[i * 8 + 1]? = some (.int .i64 (l.getD i OpV.zero).seq) ∧ cs[i * 8 + 2]? = some (.int .i64 (l.getD i OpV.zero).stamp) ∧ cs[i * 8 + 3]? = some (.int .i64 (l.getD i OpV.zero).kind) ∧ cs[i * 8 + 4]? = some (.string (l.getD i OpV.zero).item) ∧ cs[i * 8 + 5]? = some (.int .i64 (l.getD i OpV.zero).qty) ∧ cs[i * 8 + 6]? = some (.int .i64 (l.getD i OpV.zero).level) ∧ cs[i * 8 + 7]? = some (.int .i64 (l.getD i OpV.zero).undos)
theorem PartOps.next {w wr w1 : World} {g n : Nat} {l : List OpV} {k : Nat} (h : PartOps w wr g n l k) (hb : Below wr.heap.size wr w1) : PartOps w w1 g n l k := by
 obtain ⟨h1, cs, hg, hs, hc⟩ := h
 exact ⟨h1.trans (hb.mono h1.size), cs, (hb.block _ (Array.getElem?_eq_some_iff.1 hg).1).trans hg, hs, hc⟩

def setAt (w : World) (b off : Nat) (o : OpV) : World := ((((((((w.setCell ⟨b, off, none⟩ (.int .i64 o.dev)).setCell ⟨b, off + 1, none⟩ (.int .i64 o.seq)).setCell ⟨b, off + 2, none⟩ (.int .i64 o.stamp)).setCell ⟨b, off + 3, none⟩ (.int .i64 o.kind)).setCell ⟨b, off + 4, none⟩ (.string o.item)).setCell ⟨b, off + 5, none⟩ (.int .i64 o.qty)).setCell ⟨b, off + 6, none⟩ (.int .i64 o.level)).setCell ⟨b, off + 7, none⟩ (.int .i64 o.undos))
theorem setAt_same {w : World} {b off : Nat} {cs : Array Value} {T : TypeId} (o : OpV) (h : w.heap[b]? = some (.cells cs T (0, 0))) : (setAt w b off o).heap[b]? = some (.cells (putOp cs off o) T (0, 0)) := by
 have h0 : (w.setCell ⟨b, off, none⟩ (.int .i64 o.dev)).heap[b]? = some (.cells (cs.setIfInBounds (off) (.int .i64 o.dev)) T (0, 0)) := heap_setCell_same _ _ _ _ _ _ h
 have h1 : ((w.setCell ⟨b, off, none⟩ (.int .i64 o.dev)).setCell ⟨b, off + 1, none⟩ (.int .i64 o.seq)).heap[b]? = some (.cells ((cs.setIfInBounds (off) (.int .i64 o.dev)).setIfInBounds (off + 1) (.int .i64 o.seq)) T (0, 0)) := heap_setCell_same _ _ _ _ _ _ h0
 have h2 : (((w.setCell ⟨b, off, none⟩ (.int .i64 o.dev)).setCell ⟨b, off + 1, none⟩ (.int .i64 o.seq)).setCell ⟨b, off + 2, none⟩ (.int .i64 o.stamp)).heap[b]? = some (.cells (((cs.setIfInBounds (off) (.int .i64 o.dev)).setIfInBounds (off + 1) (.int .i64 o.seq)).setIfInBounds (off + 2) (.int .i64 o.stamp)) T (0, 0)) := heap_setCell_same _ _ _ _ _ _ h1
 have h3 : ((((w.setCell ⟨b, off, none⟩ (.int .i64 o.dev)).setCell ⟨b, off + 1, none⟩ (.int .i64 o.seq)).setCell ⟨b, off + 2, none⟩ (.int .i64 o.stamp)).setCell ⟨b, off + 3, none⟩ (.int .i64 o.kind)).heap[b]? = some (.cells ((((cs.setIfInBounds (off) (.int .i64 o.dev)).setIfInBounds (off + 1) (.int .i64 o.seq)).setIfInBounds (off + 2) (.int .i64 o.stamp)).setIfInBounds (off + 3) (.int .i64 o.kind)) T (0, 0)) := heap_setCell_same _ _ _ _ _ _ h2
 have h4 : (((((w.setCell ⟨b, off, none⟩ (.int .i64 o.dev)).setCell ⟨b, off + 1, none⟩ (.int .i64 o.seq)).setCell ⟨b, off + 2, none⟩ (.int .i64 o.stamp)).setCell ⟨b, off + 3, none⟩ (.int .i64 o.kind)).setCell ⟨b, off + 4, none⟩ (.string o.item)).heap[b]? = some (.cells (((((cs.setIfInBounds (off) (.int .i64 o.dev)).setIfInBounds (off + 1) (.int .i64 o.seq)).setIfInBounds (off + 2) (.int .i64 o.stamp)).setIfInBounds (off + 3) (.int .i64 o.kind)).setIfInBounds (off + 4) (.string o.item)) T (0, 0)) := heap_setCell_same _ _ _ _ _ _ h3
 have h5 : ((((((w.setCell ⟨b, off, none⟩ (.int .i64 o.dev)).setCell ⟨b, off + 1, none⟩ (.int .i64 o.seq)).setCell ⟨b, off + 2, none⟩ (.int .i64 o.stamp)).setCell ⟨b, off + 3, none⟩ (.int .i64 o.kind)).setCell ⟨b, off + 4, none⟩ (.string o.item)).setCell ⟨b, off + 5, none⟩ (.int .i64 o.qty)).heap[b]? = some (.cells ((((((cs.setIfInBounds (off) (.int .i64 o.dev)).setIfInBounds (off + 1) (.int .i64 o.seq)).setIfInBounds (off + 2) (.int .i64 o.stamp)).setIfInBounds (off + 3) (.int .i64 o.kind)).setIfInBounds (off + 4) (.string o.item)).setIfInBounds (off + 5) (.int .i64 o.qty)) T (0, 0)) := heap_setCell_same _ _ _ _ _ _ h4
 have h6 : (((((((w.setCell ⟨b, off, none⟩ (.int .i64 o.dev)).setCell ⟨b, off + 1, none⟩ (.int .i64 o.seq)).setCell ⟨b, off + 2, none⟩ (.int .i64 o.stamp)).setCell ⟨b, off + 3, none⟩ (.int .i64 o.kind)).setCell ⟨b, off + 4, none⟩ (.string o.item)).setCell ⟨b, off + 5, none⟩ (.int .i64 o.qty)).setCell ⟨b, off + 6, none⟩ (.int .i64 o.level)).heap[b]? = some (.cells (((((((cs.setIfInBounds (off) (.int .i64 o.dev)).setIfInBounds (off + 1) (.int .i64 o.seq)).setIfInBounds (off + 2) (.int .i64 o.stamp)).setIfInBounds (off + 3) (.int .i64 o.kind)).setIfInBounds (off + 4) (.string o.item)).setIfInBounds (off + 5) (.int .i64 o.qty)).setIfInBounds (off + 6) (.int .i64 o.level)) T (0, 0)) := heap_setCell_same _ _ _ _ _ _ h5
 have h7 : ((((((((w.setCell ⟨b, off, none⟩ (.int .i64 o.dev)).setCell ⟨b, off + 1, none⟩ (.int .i64 o.seq)).setCell ⟨b, off + 2, none⟩ (.int .i64 o.stamp)).setCell ⟨b, off + 3, none⟩ (.int .i64 o.kind)).setCell ⟨b, off + 4, none⟩ (.string o.item)).setCell ⟨b, off + 5, none⟩ (.int .i64 o.qty)).setCell ⟨b, off + 6, none⟩ (.int .i64 o.level)).setCell ⟨b, off + 7, none⟩ (.int .i64 o.undos)).heap[b]? = some (.cells ((((((((cs.setIfInBounds (off) (.int .i64 o.dev)).setIfInBounds (off + 1) (.int .i64 o.seq)).setIfInBounds (off + 2) (.int .i64 o.stamp)).setIfInBounds (off + 3) (.int .i64 o.kind)).setIfInBounds (off + 4) (.string o.item)).setIfInBounds (off + 5) (.int .i64 o.qty)).setIfInBounds (off + 6) (.int .i64 o.level)).setIfInBounds (off + 7) (.int .i64 o.undos)) T (0, 0)) := heap_setCell_same _ _ _ _ _ _ h6
 exact h7
theorem setAt_below {B : Nat} {w0 w : World} {b off : Nat} (o : OpV) (h : Below B w0 w) (hb : B ≤ b) : Below B w0 (setAt w b off o) :=
 ((((((((h.setCell (p := ⟨b, off, none⟩) hb _).setCell (p := ⟨b, off + 1, none⟩) hb _).setCell (p := ⟨b, off + 2, none⟩) hb _).setCell (p := ⟨b, off + 3, none⟩) hb _).setCell (p := ⟨b, off + 4, none⟩) hb _).setCell (p := ⟨b, off + 5, none⟩) hb _).setCell (p := ⟨b, off + 6, none⟩) hb _).setCell (p := ⟨b, off + 7, none⟩) hb _)
theorem PartOps.step {w wr : World} {g n : Nat} {l : List OpV} {k : Nat} (h : PartOps w wr g n l k) (hg0 : w.heap.size ≤ g) (hk : k < n) : PartOps w (setAt wr g (k * 8) (l.getD k OpV.zero)) g n l (k + 1) := by
 obtain ⟨h1, cs, hg, hs, hc⟩ := h
 refine ⟨setAt_below _ h1 hg0, putOp cs (k * 8) (l.getD k OpV.zero), setAt_same _ hg, by rw [putOp_size]; exact hs, fun i hi => ?_⟩
 rcases Nat.lt_or_ge i k with hlt | hge
 ·obtain ⟨d0, d1, d2, d3, d4, d5, d6, d7⟩ := hc i hlt
  refine ⟨by rw [putOp_far _ _ _ _ (by omega)]; exact d0, by rw [putOp_far _ _ _ _ (by omega)]; exact d1, by rw [putOp_far _ _ _ _ (by omega)]; exact d2, by rw [putOp_far _ _ _ _ (by omega)]; exact d3, by rw [putOp_far _ _ _ _ (by omega)]; exact d4, by rw [putOp_far _ _ _ _ (by omega)]; exact d5, by rw [putOp_far _ _ _ _ (by omega)]; exact d6, by rw [putOp_far _ _ _ _ (by omega)]; exact d7⟩
 ·obtain rfl : i = k := by omega
  exact ⟨putOp_0 _ _ _ (by omega), putOp_1 _ _ _ (by omega), putOp_2 _ _ _ (by omega), putOp_3 _ _ _ (by omega), putOp_4 _ _ _ (by omega), putOp_5 _ _ _ (by omega), putOp_6 _ _ _ (by omega), putOp_7 _ _ _ (by omega)⟩
theorem PartOps.cells {w wr : World} {g n : Nat} {l : List OpV} {k : Nat} (h : PartOps w wr g n l k) (hk : k < n) : ∃ v0 v1 v2 v3 v4 v5 v6 v7, wr.cell? ⟨g, k * 8, none⟩ = some v0 ∧ wr.cell? ⟨g, k * 8 + 1, none⟩ = some v1 ∧ wr.cell? ⟨g, k * 8 + 2, none⟩ = some v2 ∧ wr.cell? ⟨g, k * 8 + 3, none⟩ = some v3 ∧ wr.cell? ⟨g, k * 8 + 4, none⟩ = some v4 ∧ wr.cell? ⟨g, k * 8 + 5, none⟩ = some v5 ∧ wr.cell? ⟨g, k * 8 + 6, none⟩ = some v6 ∧ wr.cell? ⟨g, k * 8 + 7, none⟩ = some v7 := by
 obtain ⟨h1, cs, hg, hs, hc⟩ := h
 have e : ∀ m, m < cs.size → wr.cell? ⟨g, m, none⟩ = some (cs.getD m undef) := fun m hm => by
  rw [cell_of_row _ _ _ _ _ _ hg, Array.getElem?_eq_getElem hm]
  simp [Array.getD, hm]
 exact ⟨_, _, _, _, _, _, _, _, e _ (by omega), e _ (by omega), e _ (by omega), e _ (by omega), e _ (by omega), e _ (by omega), e _ (by omega), e _ (by omega)⟩
theorem PartOps.frozen {w wr : World} {g n : Nat} {l : List OpV} {k : Nat} (h : PartOps w wr g n l k) (m : Nat) : wr.frozen? ⟨g, m, none⟩ = false := by
 obtain ⟨h1, cs, hg, hs, hc⟩ := h
 exact frozen_of_row _ _ _ _ _ hg
theorem PartOps.done {w wr : World} {g n : Nat} {l : List OpV} (h : PartOps w wr g n l n) (hl : l.length = n) {B : Nat} (hB : g < B) : Ops wr B (some ⟨g, 0, none⟩) n l := by
 obtain ⟨h1, cs, hg, hs, hc⟩ := h
 refine ⟨hl, fun i hi => ⟨g, 0, rfl, hB, ?_⟩⟩
 obtain ⟨d0, d1, d2, d3, d4, d5, d6, d7⟩ := hc i hi
 rw [Nat.zero_add]
 exact ⟨(cell_of_row _ _ _ _ _ _ hg).trans d0, (cell_of_row _ _ _ _ _ _ hg).trans d1, (cell_of_row _ _ _ _ _ _ hg).trans d2, (cell_of_row _ _ _ _ _ _ hg).trans d3, (cell_of_row _ _ _ _ _ _ hg).trans d4, (cell_of_row _ _ _ _ _ _ hg).trans d5, (cell_of_row _ _ _ _ _ _ hg).trans d6, (cell_of_row _ _ _ _ _ _ hg).trans d7⟩

def atOp (l : List OpV) (i : Nat) : OpV := l.getD i OpV.zero
def prevStamp (l : List OpV) (st i : Nat) : Int := if i = 0 then 0 else (atOp l (st + i - 1)).stamp
def fitB (l : List OpV) (dev st i : Nat) : Bool := (atOp l (st + i)).ok && (decide ((atOp l (st + i)).dev = (dev : Int)) && (decide ((atOp l (st + i)).seq = (i : Int) + 1) && decide (prevStamp l st i < (atOp l (st + i)).stamp)))
theorem fit_ok {l : List OpV} {dev st i : Nat} (h : (atOp l (st + i)).ok = false) : fitB l dev st i = false := by unfold fitB; rw [h]; rfl
theorem fit_dev {l : List OpV} {dev st i : Nat} (h : ¬ (atOp l (st + i)).dev = (dev : Int)) : fitB l dev st i = false := by unfold fitB; rw [decide_eq_false h]; simp
theorem fit_seq {l : List OpV} {dev st i : Nat} (h : ¬ (atOp l (st + i)).seq = (i : Int) + 1) : fitB l dev st i = false := by unfold fitB; rw [decide_eq_false h]; simp
theorem fit_stamp {l : List OpV} {dev st i : Nat} (h : ¬ prevStamp l st i < (atOp l (st + i)).stamp) : fitB l dev st i = false := by unfold fitB; rw [decide_eq_false h]; simp
theorem fit_yes {l : List OpV} {dev st i : Nat} (h1 : (atOp l (st + i)).ok = true) (h2 : (atOp l (st + i)).dev = (dev : Int)) (h3 : (atOp l (st + i)).seq = (i : Int) + 1) (h4 : prevStamp l st i < (atOp l (st + i)).stamp) : fitB l dev st i = true := by
 unfold fitB
 rw [h1, decide_eq_true h2, decide_eq_true h3, decide_eq_true h4]
 rfl
/-- The first c operations from place st on are those of a device, in order. -/
def runB (l : List OpV) (dev st c : Nat) : Bool := (List.range c).all (fitB l dev st)
theorem run_step {l : List OpV} {dev st k : Nat} (h : runB l dev st k = true) (hk : fitB l dev st k = true) : runB l dev st (k + 1) = true := by
 unfold runB at *
 rw [List.range_succ, List.all_append, h]
 simp [hk]
theorem run_stop {l : List OpV} {dev st k c : Nat} (hk : k < c) (h : fitB l dev st k = false) : runB l dev st c = false := by
 unfold runB
 rw [List.all_eq_false]
 exact ⟨k, by simpa using hk, by simp [h]⟩
theorem prev_step (l : List OpV) (st k : Nat) : prevStamp l st (k + 1) = (atOp l (st + k)).stamp := by
 unfold prevStamp
 rw [if_neg (by omega)]
 rfl

end Go.Proofs.YtgagchlcafdiaaaGreat
