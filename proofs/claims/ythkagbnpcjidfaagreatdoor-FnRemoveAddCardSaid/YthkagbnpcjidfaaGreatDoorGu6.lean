/- Walks and mathematics that several claims share, part 6. -/
import Derived.Test.YthkagbnpcjidfaaGreatDoorGu3
import Derived.Test.YthkagbnpcjidfaaGreatDoorGu5
import Derived.Deep.Cut
namespace Go.Proofs.YthkagbnpcjidfaaGreatDoor
set_option maxRecDepth 100000
open Go.RowKit
set_option linter.unusedVariables false
set_option linter.unusedSimpArgs false
structure aA where
 dev : Int
 seq : Int
 stamp : Int
 kind : Int
 item : ByteArray
 qty : Int
 level : Int
 undos : Int
def aA.zero : aA := ⟨0, 0, 0, 0, ⟨#[]⟩, 0, 0, 0⟩
def aA.ok (o : aA) : Bool := dM o.dev o.seq o.stamp o.kind o.item o.qty o.level o.undos
def wJ (w : World) (b off : Nat) (o : aA) : Prop := w.cell? ⟨b, off, none⟩ = some (.int .i64 o.dev) ∧ w.cell? ⟨b, off + 1, none⟩ = some (.int .i64 o.seq) ∧ w.cell? ⟨b, off + 2, none⟩ = some (.int .i64 o.stamp) ∧ w.cell? ⟨b, off + 3, none⟩ = some (.int .i64 o.kind) ∧ w.cell? ⟨b, off + 4, none⟩ = some (.string o.item) ∧ w.cell? ⟨b, off + 5, none⟩ = some (.int .i64 o.qty) ∧ w.cell? ⟨b, off + 6, none⟩ = some (.int .i64 o.level) ∧ w.cell? ⟨b, off + 7, none⟩ = some (.int .i64 o.undos)
theorem wJ.kept {w w' : World} {b off : Nat} {o : aA} (h : wJ w b off o) (hb : w'.heap[b]? = w.heap[b]?) : wJ w' b off o := by
 obtain ⟨h0, h1, h2, h3, h4, h5, h6, h7⟩ := h
 exact ⟨(World.cell?_of_block (a := ⟨b, off, none⟩) hb).trans h0, (World.cell?_of_block (a := ⟨b, off + 1, none⟩) hb).trans h1, (World.cell?_of_block (a := ⟨b, off + 2, none⟩) hb).trans h2, (World.cell?_of_block (a := ⟨b, off + 3, none⟩) hb).trans h3, (World.cell?_of_block (a := ⟨b, off + 4, none⟩) hb).trans h4, (World.cell?_of_block (a := ⟨b, off + 5, none⟩) hb).trans h5, (World.cell?_of_block (a := ⟨b, off + 6, none⟩) hb).trans h6, (World.cell?_of_block (a := ⟨b, off + 7, none⟩) hb).trans h7⟩
def bP (w : World) (B : Nat) (a : Option Addr) (n : Nat) (l : List aA) : Prop :=
 l.length = n ∧ ∀ i, i < n → ∃ b off, a = some ⟨b, off, none⟩ ∧ b < B ∧ wJ w b (off + i * 8) (l.getD i aA.zero)
theorem bP.kept {w w' : World} {B : Nat} {a : Option Addr} {n : Nat} {l : List aA} (h : bP w B a n l) (hk : ∀ k, k < B → w'.heap[k]? = w.heap[k]?) : bP w' B a n l :=
 ⟨h.1, fun i hi => by obtain ⟨b, off, e, hb, ho⟩ := h.2 i hi; exact ⟨b, off, e, hb, ho.kept (hk b hb)⟩⟩
theorem bP.below {w w' : World} {B B' : Nat} {a : Option Addr} {n : Nat} {l : List aA} (h : bP w B a n l) (hb : Below B' w w') (hB : B ≤ B') : bP w' B a n l :=
 h.kept fun k hk => hb.block k (by omega)
theorem bP.more {w : World} {B B' : Nat} {a : Option Addr} {n : Nat} {l : List aA} (h : bP w B a n l) (hB : B ≤ B') : bP w B' a n l :=
 ⟨h.1, fun i hi => by obtain ⟨b, off, e, hb, ho⟩ := h.2 i hi; exact ⟨b, off, e, by omega, ho⟩⟩
def gC (cs : Array Value) (off : Nat) (o : aA) : Array Value := ((((((((cs.setIfInBounds (off) (.int .i64 o.dev)).setIfInBounds (off + 1) (.int .i64 o.seq)).setIfInBounds (off + 2) (.int .i64 o.stamp)).setIfInBounds (off + 3) (.int .i64 o.kind)).setIfInBounds (off + 4) (.string o.item)).setIfInBounds (off + 5) (.int .i64 o.qty)).setIfInBounds (off + 6) (.int .i64 o.level)).setIfInBounds (off + 7) (.int .i64 o.undos))
theorem aE7 (cs : Array Value) (off : Nat) (o : aA) : (gC cs off o).size = cs.size := by
 unfold gC
 simp only [Array.size_setIfInBounds]
theorem nO (cs : Array Value) (off m : Nat) (o : aA) (h : m < off ∨ off + 8 ≤ m) : (gC cs off o)[m]? = cs[m]? := by
 unfold gC
 rw [Array.getElem?_setIfInBounds_ne (by omega), Array.getElem?_setIfInBounds_ne (by omega), Array.getElem?_setIfInBounds_ne (by omega), Array.getElem?_setIfInBounds_ne (by omega), Array.getElem?_setIfInBounds_ne (by omega), Array.getElem?_setIfInBounds_ne (by omega), Array.getElem?_setIfInBounds_ne (by omega), Array.getElem?_setIfInBounds_ne (by omega)]
theorem aJ3 (cs : Array Value) (off : Nat) (o : aA) (h : off + 8 ≤ cs.size) : (gC cs off o)[off]? = some (.int .i64 o.dev) := by
 unfold gC
 rw [Array.getElem?_setIfInBounds_ne (by omega), Array.getElem?_setIfInBounds_ne (by omega), Array.getElem?_setIfInBounds_ne (by omega), Array.getElem?_setIfInBounds_ne (by omega), Array.getElem?_setIfInBounds_ne (by omega), Array.getElem?_setIfInBounds_ne (by omega), Array.getElem?_setIfInBounds_ne (by omega), Array.getElem?_setIfInBounds_self_of_lt (by (try simp only [Array.size_setIfInBounds]); omega)]
theorem aJ2 (cs : Array Value) (off : Nat) (o : aA) (h : off + 8 ≤ cs.size) : (gC cs off o)[off + 1]? = some (.int .i64 o.seq) := by
 unfold gC
 rw [Array.getElem?_setIfInBounds_ne (by omega), Array.getElem?_setIfInBounds_ne (by omega), Array.getElem?_setIfInBounds_ne (by omega), Array.getElem?_setIfInBounds_ne (by omega), Array.getElem?_setIfInBounds_ne (by omega), Array.getElem?_setIfInBounds_ne (by omega), Array.getElem?_setIfInBounds_self_of_lt (by (try simp only [Array.size_setIfInBounds]); omega)]
theorem aJ1 (cs : Array Value) (off : Nat) (o : aA) (h : off + 8 ≤ cs.size) : (gC cs off o)[off + 2]? = some (.int .i64 o.stamp) := by
 unfold gC
 rw [Array.getElem?_setIfInBounds_ne (by omega), Array.getElem?_setIfInBounds_ne (by omega), Array.getElem?_setIfInBounds_ne (by omega), Array.getElem?_setIfInBounds_ne (by omega), Array.getElem?_setIfInBounds_ne (by omega), Array.getElem?_setIfInBounds_self_of_lt (by (try simp only [Array.size_setIfInBounds]); omega)]
theorem aJ0 (cs : Array Value) (off : Nat) (o : aA) (h : off + 8 ≤ cs.size) : (gC cs off o)[off + 3]? = some (.int .i64 o.kind) := by
 unfold gC
 rw [Array.getElem?_setIfInBounds_ne (by omega), Array.getElem?_setIfInBounds_ne (by omega), Array.getElem?_setIfInBounds_ne (by omega), Array.getElem?_setIfInBounds_ne (by omega), Array.getElem?_setIfInBounds_self_of_lt (by (try simp only [Array.size_setIfInBounds]); omega)]
theorem aJZ (cs : Array Value) (off : Nat) (o : aA) (h : off + 8 ≤ cs.size) : (gC cs off o)[off + 4]? = some (.string o.item) := by
 unfold gC
 rw [Array.getElem?_setIfInBounds_ne (by omega), Array.getElem?_setIfInBounds_ne (by omega), Array.getElem?_setIfInBounds_ne (by omega), Array.getElem?_setIfInBounds_self_of_lt (by (try simp only [Array.size_setIfInBounds]); omega)]
theorem aJY (cs : Array Value) (off : Nat) (o : aA) (h : off + 8 ≤ cs.size) : (gC cs off o)[off + 5]? = some (.int .i64 o.qty) := by
 unfold gC
 rw [Array.getElem?_setIfInBounds_ne (by omega), Array.getElem?_setIfInBounds_ne (by omega), Array.getElem?_setIfInBounds_self_of_lt (by (try simp only [Array.size_setIfInBounds]); omega)]
theorem aJX (cs : Array Value) (off : Nat) (o : aA) (h : off + 8 ≤ cs.size) : (gC cs off o)[off + 6]? = some (.int .i64 o.level) := by
 unfold gC
 rw [Array.getElem?_setIfInBounds_ne (by omega), Array.getElem?_setIfInBounds_self_of_lt (by (try simp only [Array.size_setIfInBounds]); omega)]
theorem aJW (cs : Array Value) (off : Nat) (o : aA) (h : off + 8 ≤ cs.size) : (gC cs off o)[off + 7]? = some (.int .i64 o.undos) := by
 unfold gC
 rw [Array.getElem?_setIfInBounds_self_of_lt (by (try simp only [Array.size_setIfInBounds]); omega)]
theorem Tryz.infoOp : (Tryz.prog.info? 50).map (fun i => (i.zero, i.size, i.bytes)) = some (some (.agg #[.int .i64 0, .int .i64 0, .int .i64 0, .int .i64 0, .string ⟨#[]⟩, .int .i64 0, .int .i64 0, .int .i64 0]), 8, 72) := by kernel_rfl
def jX (w wr : World) (g n : Nat) (l : List aA) (k : Nat) : Prop :=
 Below w.heap.size w wr ∧ ∃ cs : Array Value, wr.heap[g]? = some (.cells cs 50 (0, 0)) ∧ cs.size = n * 8 ∧ ∀ i, i < k → cs[i * 8]? = some (.int .i64 (l.getD i aA.zero).dev) ∧ cs[i * 8 + 1]? = some (.int .i64 (l.getD i aA.zero).seq) ∧ cs[i * 8 + 2]? = some (.int .i64 (l.getD i aA.zero).stamp) ∧ cs[i * 8 + 3]? = some (.int .i64 (l.getD i aA.zero).kind) ∧ cs[i * 8 + 4]? = some (.string (l.getD i aA.zero).item) ∧ cs[i * 8 + 5]? = some (.int .i64 (l.getD i aA.zero).qty) ∧ cs[i * 8 + 6]? = some (.int .i64 (l.getD i aA.zero).level) ∧ cs[i * 8 + 7]? = some (.int .i64 (l.getD i aA.zero).undos)
theorem jX.next {w wr w1 : World} {g n : Nat} {l : List aA} {k : Nat} (h : jX w wr g n l k) (hb : Below wr.heap.size wr w1) : jX w w1 g n l k := by
 obtain ⟨h1, cs, hg, hs, hc⟩ := h
 exact ⟨h1.trans (hb.mono h1.size), cs, (hb.block _ (aPp hg).1).trans hg, hs, hc⟩
def X2 (w : World) (b off : Nat) (o : aA) : World := ((((((((w.setCell ⟨b, off, none⟩ (.int .i64 o.dev)).setCell ⟨b, off + 1, none⟩ (.int .i64 o.seq)).setCell ⟨b, off + 2, none⟩ (.int .i64 o.stamp)).setCell ⟨b, off + 3, none⟩ (.int .i64 o.kind)).setCell ⟨b, off + 4, none⟩ (.string o.item)).setCell ⟨b, off + 5, none⟩ (.int .i64 o.qty)).setCell ⟨b, off + 6, none⟩ (.int .i64 o.level)).setCell ⟨b, off + 7, none⟩ (.int .i64 o.undos))
theorem aAe {w : World} {b off : Nat} {cs : Array Value} {T : TypeId} (o : aA) (h : w.heap[b]? = some (.cells cs T (0, 0))) : (X2 w b off o).heap[b]? = some (.cells (gC cs off o) T (0, 0)) := by
 have h0 : (w.setCell ⟨b, off, none⟩ (.int .i64 o.dev)).heap[b]? = some (.cells (cs.setIfInBounds (off) (.int .i64 o.dev)) T (0, 0)) := heap_setCell_same _ _ _ _ _ _ h
 have h1 : ((w.setCell ⟨b, off, none⟩ (.int .i64 o.dev)).setCell ⟨b, off + 1, none⟩ (.int .i64 o.seq)).heap[b]? = some (.cells ((cs.setIfInBounds (off) (.int .i64 o.dev)).setIfInBounds (off + 1) (.int .i64 o.seq)) T (0, 0)) := heap_setCell_same _ _ _ _ _ _ h0
 have h2 : (((w.setCell ⟨b, off, none⟩ (.int .i64 o.dev)).setCell ⟨b, off + 1, none⟩ (.int .i64 o.seq)).setCell ⟨b, off + 2, none⟩ (.int .i64 o.stamp)).heap[b]? = some (.cells (((cs.setIfInBounds (off) (.int .i64 o.dev)).setIfInBounds (off + 1) (.int .i64 o.seq)).setIfInBounds (off + 2) (.int .i64 o.stamp)) T (0, 0)) := heap_setCell_same _ _ _ _ _ _ h1
 have h3 : ((((w.setCell ⟨b, off, none⟩ (.int .i64 o.dev)).setCell ⟨b, off + 1, none⟩ (.int .i64 o.seq)).setCell ⟨b, off + 2, none⟩ (.int .i64 o.stamp)).setCell ⟨b, off + 3, none⟩ (.int .i64 o.kind)).heap[b]? = some (.cells ((((cs.setIfInBounds (off) (.int .i64 o.dev)).setIfInBounds (off + 1) (.int .i64 o.seq)).setIfInBounds (off + 2) (.int .i64 o.stamp)).setIfInBounds (off + 3) (.int .i64 o.kind)) T (0, 0)) := heap_setCell_same _ _ _ _ _ _ h2
 have h4 : (((((w.setCell ⟨b, off, none⟩ (.int .i64 o.dev)).setCell ⟨b, off + 1, none⟩ (.int .i64 o.seq)).setCell ⟨b, off + 2, none⟩ (.int .i64 o.stamp)).setCell ⟨b, off + 3, none⟩ (.int .i64 o.kind)).setCell ⟨b, off + 4, none⟩ (.string o.item)).heap[b]? = some (.cells (((((cs.setIfInBounds (off) (.int .i64 o.dev)).setIfInBounds (off + 1) (.int .i64 o.seq)).setIfInBounds (off + 2) (.int .i64 o.stamp)).setIfInBounds (off + 3) (.int .i64 o.kind)).setIfInBounds (off + 4) (.string o.item)) T (0, 0)) := heap_setCell_same _ _ _ _ _ _ h3
 have h5 : ((((((w.setCell ⟨b, off, none⟩ (.int .i64 o.dev)).setCell ⟨b, off + 1, none⟩ (.int .i64 o.seq)).setCell ⟨b, off + 2, none⟩ (.int .i64 o.stamp)).setCell ⟨b, off + 3, none⟩ (.int .i64 o.kind)).setCell ⟨b, off + 4, none⟩ (.string o.item)).setCell ⟨b, off + 5, none⟩ (.int .i64 o.qty)).heap[b]? = some (.cells ((((((cs.setIfInBounds (off) (.int .i64 o.dev)).setIfInBounds (off + 1) (.int .i64 o.seq)).setIfInBounds (off + 2) (.int .i64 o.stamp)).setIfInBounds (off + 3) (.int .i64 o.kind)).setIfInBounds (off + 4) (.string o.item)).setIfInBounds (off + 5) (.int .i64 o.qty)) T (0, 0)) := heap_setCell_same _ _ _ _ _ _ h4
 have h6 : (((((((w.setCell ⟨b, off, none⟩ (.int .i64 o.dev)).setCell ⟨b, off + 1, none⟩ (.int .i64 o.seq)).setCell ⟨b, off + 2, none⟩ (.int .i64 o.stamp)).setCell ⟨b, off + 3, none⟩ (.int .i64 o.kind)).setCell ⟨b, off + 4, none⟩ (.string o.item)).setCell ⟨b, off + 5, none⟩ (.int .i64 o.qty)).setCell ⟨b, off + 6, none⟩ (.int .i64 o.level)).heap[b]? = some (.cells (((((((cs.setIfInBounds (off) (.int .i64 o.dev)).setIfInBounds (off + 1) (.int .i64 o.seq)).setIfInBounds (off + 2) (.int .i64 o.stamp)).setIfInBounds (off + 3) (.int .i64 o.kind)).setIfInBounds (off + 4) (.string o.item)).setIfInBounds (off + 5) (.int .i64 o.qty)).setIfInBounds (off + 6) (.int .i64 o.level)) T (0, 0)) := heap_setCell_same _ _ _ _ _ _ h5
 have h7 : ((((((((w.setCell ⟨b, off, none⟩ (.int .i64 o.dev)).setCell ⟨b, off + 1, none⟩ (.int .i64 o.seq)).setCell ⟨b, off + 2, none⟩ (.int .i64 o.stamp)).setCell ⟨b, off + 3, none⟩ (.int .i64 o.kind)).setCell ⟨b, off + 4, none⟩ (.string o.item)).setCell ⟨b, off + 5, none⟩ (.int .i64 o.qty)).setCell ⟨b, off + 6, none⟩ (.int .i64 o.level)).setCell ⟨b, off + 7, none⟩ (.int .i64 o.undos)).heap[b]? = some (.cells ((((((((cs.setIfInBounds (off) (.int .i64 o.dev)).setIfInBounds (off + 1) (.int .i64 o.seq)).setIfInBounds (off + 2) (.int .i64 o.stamp)).setIfInBounds (off + 3) (.int .i64 o.kind)).setIfInBounds (off + 4) (.string o.item)).setIfInBounds (off + 5) (.int .i64 o.qty)).setIfInBounds (off + 6) (.int .i64 o.level)).setIfInBounds (off + 7) (.int .i64 o.undos)) T (0, 0)) := heap_setCell_same _ _ _ _ _ _ h6
 exact h7
theorem Y7 {w : World} {b off k : Nat} (o : aA) (h : k ≠ b) : (X2 w b off o).heap[k]? = w.heap[k]? := by
 unfold X2
 rw [heap_setCell_other _ _ _ _ h, heap_setCell_other _ _ _ _ h, heap_setCell_other _ _ _ _ h, heap_setCell_other _ _ _ _ h, heap_setCell_other _ _ _ _ h, heap_setCell_other _ _ _ _ h, heap_setCell_other _ _ _ _ h, heap_setCell_other _ _ _ _ h]
theorem Y8 {B : Nat} {w0 w : World} {b off : Nat} (o : aA) (h : Below B w0 w) (hb : B ≤ b) : Below B w0 (X2 w b off o) :=
 ((((((((h.setCell (p := ⟨b, off, none⟩) hb _).setCell (p := ⟨b, off + 1, none⟩) hb _).setCell (p := ⟨b, off + 2, none⟩) hb _).setCell (p := ⟨b, off + 3, none⟩) hb _).setCell (p := ⟨b, off + 4, none⟩) hb _).setCell (p := ⟨b, off + 5, none⟩) hb _).setCell (p := ⟨b, off + 6, none⟩) hb _).setCell (p := ⟨b, off + 7, none⟩) hb _)
theorem jX.step {w wr : World} {g n : Nat} {l : List aA} {k : Nat} (h : jX w wr g n l k) (hg0 : w.heap.size ≤ g) (hk : k < n) : jX w (X2 wr g (k * 8) (l.getD k aA.zero)) g n l (k + 1) := by
 obtain ⟨h1, cs, hg, hs, hc⟩ := h
 refine ⟨Y8 _ h1 hg0, gC cs (k * 8) (l.getD k aA.zero), aAe _ hg, by rw [aE7]; exact hs, fun i hi => ?_⟩
 rcases Nat.lt_or_ge i k with aJ | hge
 ·obtain ⟨d0, d1, d2, d3, d4, d5, d6, d7⟩ := hc i aJ
  refine ⟨by rw [nO _ _ _ _ (by omega)]; exact d0, by rw [nO _ _ _ _ (by omega)]; exact d1, by rw [nO _ _ _ _ (by omega)]; exact d2, by rw [nO _ _ _ _ (by omega)]; exact d3, by rw [nO _ _ _ _ (by omega)]; exact d4, by rw [nO _ _ _ _ (by omega)]; exact d5, by rw [nO _ _ _ _ (by omega)]; exact d6, by rw [nO _ _ _ _ (by omega)]; exact d7⟩
 ·obtain rfl : i = k := by omega
  exact ⟨aJ3 _ _ _ (by omega), aJ2 _ _ _ (by omega), aJ1 _ _ _ (by omega), aJ0 _ _ _ (by omega), aJZ _ _ _ (by omega), aJY _ _ _ (by omega), aJX _ _ _ (by omega), aJW _ _ _ (by omega)⟩
theorem jX.cells {w wr : World} {g n : Nat} {l : List aA} {k : Nat} (h : jX w wr g n l k) (hk : k < n) : ∃ v0 v1 v2 v3 v4 v5 v6 v7, wr.cell? ⟨g, k * 8, none⟩ = some v0 ∧ wr.cell? ⟨g, k * 8 + 1, none⟩ = some v1 ∧ wr.cell? ⟨g, k * 8 + 2, none⟩ = some v2 ∧ wr.cell? ⟨g, k * 8 + 3, none⟩ = some v3 ∧ wr.cell? ⟨g, k * 8 + 4, none⟩ = some v4 ∧ wr.cell? ⟨g, k * 8 + 5, none⟩ = some v5 ∧ wr.cell? ⟨g, k * 8 + 6, none⟩ = some v6 ∧ wr.cell? ⟨g, k * 8 + 7, none⟩ = some v7 := by
 obtain ⟨h1, cs, hg, hs, hc⟩ := h
 have e : ∀ m, m < cs.size → wr.cell? ⟨g, m, none⟩ = some (cs.getD m undef) := fun m hm => by
  rw [aPr hg, Array.getElem?_eq_getElem hm]; simp [Array.getD, hm]
 exact ⟨_, _, _, _, _, _, _, _, e _ (by omega), e _ (by omega), e _ (by omega), e _ (by omega), e _ (by omega), e _ (by omega), e _ (by omega), e _ (by omega)⟩
theorem jX.frozen {w wr : World} {g n : Nat} {l : List aA} {k : Nat} (h : jX w wr g n l k) (m : Nat) : wr.frozen? ⟨g, m, none⟩ = false := by
 obtain ⟨h1, cs, hg, hs, hc⟩ := h
 exact aPs hg
theorem jX.done {w wr : World} {g n : Nat} {l : List aA} (h : jX w wr g n l n) (hl : l.length = n) {B : Nat} (hB : g < B) : bP wr B (some ⟨g, 0, none⟩) n l := by
 obtain ⟨h1, cs, hg, hs, hc⟩ := h
 refine ⟨hl, fun i hi => ⟨g, 0, rfl, hB, ?_⟩⟩
 obtain ⟨d0, d1, d2, d3, d4, d5, d6, d7⟩ := hc i hi
 rw [Nat.zero_add]
 exact ⟨(aPr hg).trans d0, (aPr hg).trans d1, (aPr hg).trans d2, (aPr hg).trans d3, (aPr hg).trans d4, (aPr hg).trans d5, (aPr hg).trans d6, (aPr hg).trans d7⟩
def aC (l : List aA) (i : Nat) : aA := l.getD i aA.zero
def dO (l : List aA) (st i : Nat) : Int := if i = 0 then 0 else (aC l (st + i - 1)).stamp
def kD (l : List aA) (dev st i : Nat) : Bool := (aC l (st + i)).ok && (decide ((aC l (st + i)).dev = (dev : Int)) && (decide ((aC l (st + i)).seq = (i : Int) + 1) && decide (dO l st i < (aC l (st + i)).stamp)))
theorem aG9 {l : List aA} {dev st i : Nat} (h : (aC l (st + i)).ok = false) : kD l dev st i = false := by unfold kD; rw [h]; rfl
theorem aEM {l : List aA} {dev st i : Nat} (h : ¬ (aC l (st + i)).dev = (dev : Int)) : kD l dev st i = false := by unfold kD; rw [decide_eq_false h]; simp
theorem aEL {l : List aA} {dev st i : Nat} (h : ¬ (aC l (st + i)).seq = (i : Int) + 1) : kD l dev st i = false := by unfold kD; rw [decide_eq_false h]; simp
theorem aBT {l : List aA} {dev st i : Nat} (h : ¬ dO l st i < (aC l (st + i)).stamp) : kD l dev st i = false := by unfold kD; rw [decide_eq_false h]; simp
theorem rY {l : List aA} {dev st i : Nat} (h1 : (aC l (st + i)).ok = true) (h2 : (aC l (st + i)).dev = (dev : Int)) (h3 : (aC l (st + i)).seq = (i : Int) + 1) (h4 : dO l st i < (aC l (st + i)).stamp) : kD l dev st i = true := by
 unfold kD
 rw [h1, decide_eq_true h2, decide_eq_true h3, decide_eq_true h4]
 rfl
def lP (l : List aA) (dev st c : Nat) : Bool := (List.range c).all (kD l dev st)
theorem aCr {l : List aA} {dev st k : Nat} (h : lP l dev st k = true) (hk : kD l dev st k = true) : lP l dev st (k + 1) = true := by
 unfold lP at *
 rw [List.range_succ, List.all_append, h]
 simp [hk]
theorem xZ {l : List aA} {dev st k c : Nat} (hk : k < c) (h : kD l dev st k = false) : lP l dev st c = false := by
 unfold lP
 rw [List.all_eq_false]
 exact ⟨k, by simpa using hk, by simp [h]⟩
theorem vI (l : List aA) (st k : Nat) : dO l st (k + 1) = (aC l (st + k)).stamp := by
 unfold dO
 rw [if_neg (by omega)]
 rfl
set_option maxHeartbeats 10000000 in
theorem aIJ (w : World) (B : Nat) (a : Option Addr) (n cap dev : Nat) (l : List aA) (h : bP w B a n l) (hB : B ≤ w.heap.size) (hn : n ≤ 1048576) :
  Calls Tryz.prog 57 #[.slice a n cap, .int .i64 (dev : Int)] w fun e w' => e = .returned (.bool (lP l dev 0 n)) ∧ Below w.heap.size w w' := by
 have H := aPo h
 clear h
 go_enter Tryz.func57, Tryz.ntmps57
 go_wp2
 go_loopw [5, 10] (fun s i wr => ∃ k : Nat, k ≤ n ∧ i = .int .i64 k ∧ s = .int .i64 (dO l 0 k) ∧ Hid (lP l dev 0 k = true) ∧ Hid (Below w.heap.size w wr)) (fun _ i _ => n - (intOf i).toNat)
 case atStart => exact ⟨0, Nat.zero_le _, rfl, rfl, rfl, Below.refl _ _⟩
 case round =>
  obtain ⟨k, hk, rfl, rfl, HK, HB⟩ := hrel
  by_cases aJ : k < n
  rotate_left
  ·obtain rfl : k = n := by omega
   go_wp2
   go_ret
   exact ⟨by rw [HK.out]; rfl, HB.out⟩
  obtain ⟨b, off, rfl, hb, ho⟩ := H.out.2 k aJ; obtain ⟨c0, c1, c2, c3, c4, c5, c6, c7⟩ := ho.kept (HB.out.block b (by omega))
  clear ho; have HA : Hid (l.getD k aA.zero = aC l (0 + k)) := by show _ = _; rw [Nat.zero_add]; rfl
  have HPs := aPo (vI l 0 k); have HY := aPo (@rY l dev 0 k); have H1 := aPo (fun h => xZ (c := n) aJ (@aG9 l dev 0 k h))
  have H2 := aPo (fun h => xZ (c := n) aJ (@aEM l dev 0 k h))
  have H3 := aPo (fun h => xZ (c := n) aJ (@aEL l dev 0 k h))
  have H4 := aPo (fun h => xZ (c := n) aJ (@aBT l dev 0 k h))
  have HN := aPo (fun h => aCr (dev := dev) HK.out h)
  rw [HA.out] at c0 c1 c2 c3 c4 c5 c6 c7; clear HA; generalize aC l (0 + k) = x at HPs HY H1 H2 H3 H4 c0 c1 c2 c3 c4 c5 c6 c7; generalize dO l 0 k = ps at HY H4 ⊢
  go_upto_region 5 with fail
  have HX := aPo (bX (Below.refl _ (wr.alloc (.cells #[.int .i64 x.dev, .int .i64 x.seq, .int .i64 x.stamp, .int .i64 x.kind, .string x.item, .int .i64 x.qty, .int .i64 x.level, .int .i64 x.undos] 50)))); have cU := aPo (HB.out.alloc HB.out.size (.cells #[.int .i64 x.dev, .int .i64 x.seq, .int .i64 x.stamp, .int .i64 x.kind, .string x.item, .int .i64 x.qty, .int .i64 x.level, .int .i64 x.undos] 50)); generalize wr.alloc (.cells #[.int .i64 x.dev, .int .i64 x.seq, .int .i64 x.stamp, .int .i64 x.kind, .string x.item, .int .i64 x.qty, .int .i64 x.level, .int .i64 x.undos] 50) = w1 at HX cU ⊢; generalize wr.heap.size = bo at HX ⊢; clear c0 c1 c2 c3 c4 c5 c6 c7 HB; have ⟨d0, d1, d2, d3, d4, d5, d6, d7⟩ : wJ w1 bo 0 x := ⟨aPr HX.out, aPr HX.out, aPr HX.out, aPr HX.out, aPr HX.out, aPr HX.out, aPr HX.out, aPr HX.out⟩; simp only [Nat.zero_add] at d0 d1 d2 d3 d4 d5 d6 d7
  go_wp2_with fail
  refine (kY x.dev x.seq x.stamp x.kind x.item x.qty x.level x.undos _).mono ?_
  rintro e w2 ⟨rfl, aM⟩; have pU := aPo ((aM.block _ (aPp HX.out).1).trans HX.out); have bT := aPo (cU.out.trans (aM.mono cU.out.size)); clear aM HX cU d0 d1 d2 d3 d4 d5 d6 d7; have ⟨d0, d1, d2, d3, d4, d5, d6, d7⟩ : wJ w2 bo 0 x := ⟨aPr pU.out, aPr pU.out, aPr pU.out, aPr pU.out, aPr pU.out, aPr pU.out, aPr pU.out, aPr pU.out⟩; simp only [Nat.zero_add] at d0 d1 d2 d3 d4 d5 d6 d7
  rcases hok : dM x.dev x.seq x.stamp x.kind x.item x.qty x.level x.undos with _ | _
  ·have HF := aPo (H1.out hok)
   clear hok; go_wp2
   go_ret
   exact ⟨by rw [HF.out]; rfl, bT.out⟩
  by_cases e1 : x.dev = (dev : Int)
  rotate_left
  ·have HF := aPo (H2.out e1)
   have b1 : (x.dev != (dev : Int)) = true := by rw [bne_iff_ne]; exact e1
   clear hok e1; go_wp2
   go_ret
   exact ⟨by rw [HF.out]; rfl, bT.out⟩
  have b1 : (x.dev != (dev : Int)) = false := by rw [e1]; exact bne_self_eq_false _
  by_cases e2 : x.seq = (k : Int) + 1
  rotate_left
  ·have HF := aPo (H3.out e2)
   have b2 : (x.seq != (k : Int) + 1) = true := by rw [bne_iff_ne]; exact e2
   clear hok e1 e2; go_wp2
   go_ret
   exact ⟨by rw [HF.out]; rfl, bT.out⟩
  have b2 : (x.seq != (k : Int) + 1) = false := by rw [e2]; exact bne_self_eq_false _
  by_cases e3 : ps < x.stamp
  rotate_left
  ·have HF := aPo (H4.out (by first | exact e3 | exact Int.not_lt.1 e3))
   have b3 : decide (x.stamp ≤ ps) = true := decide_eq_true (by omega)
   clear hok e1 e2 e3; go_wp2
   go_ret
   exact ⟨by rw [HF.out]; rfl, bT.out⟩
  have b3 : decide (x.stamp ≤ ps) = false := decide_eq_false (by omega)
  have HF := aPo (HN.out (HY.out hok e1 e2 e3)); clear hok e1 e2 e3; go_wp2
  go_roundw
  case rel => exact ⟨k + 1, by omega, by go_num, by rw [HPs.out], HF, bT⟩
  case measure => simp [intOf]; omega
end Go.Proofs.YthkagbnpcjidfaaGreatDoor
