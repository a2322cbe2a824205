/- Walks and mathematics that several claims share, part 7. -/
import Derived.Test.YthkagbnpcjidfaaGreatDoorGp3
import Derived.Test.YthkagbnpcjidfaaGreatDoorGp6
import Derived.Deep.Cut
namespace Go.Proofs.YthkagbnpcjidfaaGreatDoor
set_option maxRecDepth 100000
open Go.RowKit
set_option linter.unusedVariables false
set_option linter.unusedSimpArgs false
structure aA where
 dev : Int
 seq : Int
 stamp : Int
 kind : Int
 item : ByteArray
 qty : Int
 level : Int
 undos : Int
def aA.zero : aA := ⟨0, 0, 0, 0, ⟨#[]⟩, 0, 0, 0⟩
def aA.ok (o : aA) : Bool := dK o.dev o.seq o.stamp o.kind o.item o.qty o.level o.undos
def nI (w : World) (b off : Nat) (o : aA) : Prop := w.cell? ⟨b, off, none⟩ = some (.int .i64 o.dev) ∧ w.cell? ⟨b, off + 1, none⟩ = some (.int .i64 o.seq) ∧ w.cell? ⟨b, off + 2, none⟩ = some (.int .i64 o.stamp) ∧ w.cell? ⟨b, off + 3, none⟩ = some (.int .i64 o.kind) ∧ w.cell? ⟨b, off + 4, none⟩ = some (.string o.item) ∧ w.cell? ⟨b, off + 5, none⟩ = some (.int .i64 o.qty) ∧ w.cell? ⟨b, off + 6, none⟩ = some (.int .i64 o.level) ∧ w.cell? ⟨b, off + 7, none⟩ = some (.int .i64 o.undos)
theorem nI.kept {w w' : World} {b off : Nat} {o : aA} (h : nI w b off o) (hb : w'.heap[b]? = w.heap[b]?) : nI w' b off o := by
 obtain ⟨h0, h1, h2, h3, h4, h5, h6, h7⟩ := h
 exact ⟨(World.cell?_of_block (a := ⟨b, off, none⟩) hb).trans h0, (World.cell?_of_block (a := ⟨b, off + 1, none⟩) hb).trans h1, (World.cell?_of_block (a := ⟨b, off + 2, none⟩) hb).trans h2, (World.cell?_of_block (a := ⟨b, off + 3, none⟩) hb).trans h3, (World.cell?_of_block (a := ⟨b, off + 4, none⟩) hb).trans h4, (World.cell?_of_block (a := ⟨b, off + 5, none⟩) hb).trans h5, (World.cell?_of_block (a := ⟨b, off + 6, none⟩) hb).trans h6, (World.cell?_of_block (a := ⟨b, off + 7, none⟩) hb).trans h7⟩
def bK (w : World) (B : Nat) (a : Option Addr) (n : Nat) (l : List aA) : Prop :=
 l.length = n ∧ ∀ i, i < n → ∃ b off, a = some ⟨b, off, none⟩ ∧ b < B ∧ nI w b (off + i * 8) (l.getD i aA.zero)
theorem bK.kept {w w' : World} {B : Nat} {a : Option Addr} {n : Nat} {l : List aA} (h : bK w B a n l) (hk : ∀ k, k < B → w'.heap[k]? = w.heap[k]?) : bK w' B a n l :=
 ⟨h.1, fun i hi => by obtain ⟨b, off, e, hb, ho⟩ := h.2 i hi; exact ⟨b, off, e, hb, ho.kept (hk b hb)⟩⟩
theorem bK.below {w w' : World} {B B' : Nat} {a : Option Addr} {n : Nat} {l : List aA} (h : bK w B a n l) (hb : Below B' w w') (hB : B ≤ B') : bK w' B a n l :=
 h.kept fun k hk => hb.block k (by omega)
theorem bK.more {w : World} {B B' : Nat} {a : Option Addr} {n : Nat} {l : List aA} (h : bK w B a n l) (hB : B ≤ B') : bK w B' a n l :=
 ⟨h.1, fun i hi => by obtain ⟨b, off, e, hb, ho⟩ := h.2 i hi; exact ⟨b, off, e, by omega, ho⟩⟩
def gD (cs : Array Value) (off : Nat) (o : aA) : Array Value := ((((((((cs.setIfInBounds (off) (.int .i64 o.dev)).setIfInBounds (off + 1) (.int .i64 o.seq)).setIfInBounds (off + 2) (.int .i64 o.stamp)).setIfInBounds (off + 3) (.int .i64 o.kind)).setIfInBounds (off + 4) (.string o.item)).setIfInBounds (off + 5) (.int .i64 o.qty)).setIfInBounds (off + 6) (.int .i64 o.level)).setIfInBounds (off + 7) (.int .i64 o.undos))
theorem aEM (cs : Array Value) (off : Nat) (o : aA) : (gD cs off o).size = cs.size := by
 unfold gD
 simp only [Array.size_setIfInBounds]
theorem nN (cs : Array Value) (off m : Nat) (o : aA) (h : m < off ∨ off + 8 ≤ m) : (gD cs off o)[m]? = cs[m]? := by
 unfold gD
 rw [Array.getElem?_setIfInBounds_ne (by omega), Array.getElem?_setIfInBounds_ne (by omega), Array.getElem?_setIfInBounds_ne (by omega), Array.getElem?_setIfInBounds_ne (by omega), Array.getElem?_setIfInBounds_ne (by omega), Array.getElem?_setIfInBounds_ne (by omega), Array.getElem?_setIfInBounds_ne (by omega), Array.getElem?_setIfInBounds_ne (by omega)]
theorem aJV (cs : Array Value) (off : Nat) (o : aA) (h : off + 8 ≤ cs.size) : (gD cs off o)[off]? = some (.int .i64 o.dev) := by
 unfold gD
 rw [Array.getElem?_setIfInBounds_ne (by omega), Array.getElem?_setIfInBounds_ne (by omega), Array.getElem?_setIfInBounds_ne (by omega), Array.getElem?_setIfInBounds_ne (by omega), Array.getElem?_setIfInBounds_ne (by omega), Array.getElem?_setIfInBounds_ne (by omega), Array.getElem?_setIfInBounds_ne (by omega), Array.getElem?_setIfInBounds_self_of_lt (by (try simp only [Array.size_setIfInBounds]); omega)]
theorem aJU (cs : Array Value) (off : Nat) (o : aA) (h : off + 8 ≤ cs.size) : (gD cs off o)[off + 1]? = some (.int .i64 o.seq) := by
 unfold gD
 rw [Array.getElem?_setIfInBounds_ne (by omega), Array.getElem?_setIfInBounds_ne (by omega), Array.getElem?_setIfInBounds_ne (by omega), Array.getElem?_setIfInBounds_ne (by omega), Array.getElem?_setIfInBounds_ne (by omega), Array.getElem?_setIfInBounds_ne (by omega), Array.getElem?_setIfInBounds_self_of_lt (by (try simp only [Array.size_setIfInBounds]); omega)]
theorem aJT (cs : Array Value) (off : Nat) (o : aA) (h : off + 8 ≤ cs.size) : (gD cs off o)[off + 2]? = some (.int .i64 o.stamp) := by
 unfold gD
 rw [Array.getElem?_setIfInBounds_ne (by omega), Array.getElem?_setIfInBounds_ne (by omega), Array.getElem?_setIfInBounds_ne (by omega), Array.getElem?_setIfInBounds_ne (by omega), Array.getElem?_setIfInBounds_ne (by omega), Array.getElem?_setIfInBounds_self_of_lt (by (try simp only [Array.size_setIfInBounds]); omega)]
theorem aJS (cs : Array Value) (off : Nat) (o : aA) (h : off + 8 ≤ cs.size) : (gD cs off o)[off + 3]? = some (.int .i64 o.kind) := by
 unfold gD
 rw [Array.getElem?_setIfInBounds_ne (by omega), Array.getElem?_setIfInBounds_ne (by omega), Array.getElem?_setIfInBounds_ne (by omega), Array.getElem?_setIfInBounds_ne (by omega), Array.getElem?_setIfInBounds_self_of_lt (by (try simp only [Array.size_setIfInBounds]); omega)]
theorem aJR (cs : Array Value) (off : Nat) (o : aA) (h : off + 8 ≤ cs.size) : (gD cs off o)[off + 4]? = some (.string o.item) := by
 unfold gD
 rw [Array.getElem?_setIfInBounds_ne (by omega), Array.getElem?_setIfInBounds_ne (by omega), Array.getElem?_setIfInBounds_ne (by omega), Array.getElem?_setIfInBounds_self_of_lt (by (try simp only [Array.size_setIfInBounds]); omega)]
theorem aJQ (cs : Array Value) (off : Nat) (o : aA) (h : off + 8 ≤ cs.size) : (gD cs off o)[off + 5]? = some (.int .i64 o.qty) := by
 unfold gD
 rw [Array.getElem?_setIfInBounds_ne (by omega), Array.getElem?_setIfInBounds_ne (by omega), Array.getElem?_setIfInBounds_self_of_lt (by (try simp only [Array.size_setIfInBounds]); omega)]
theorem aJP (cs : Array Value) (off : Nat) (o : aA) (h : off + 8 ≤ cs.size) : (gD cs off o)[off + 6]? = some (.int .i64 o.level) := by
 unfold gD
 rw [Array.getElem?_setIfInBounds_ne (by omega), Array.getElem?_setIfInBounds_self_of_lt (by (try simp only [Array.size_setIfInBounds]); omega)]
theorem aJO (cs : Array Value) (off : Nat) (o : aA) (h : off + 8 ≤ cs.size) : (gD cs off o)[off + 7]? = some (.int .i64 o.undos) := by
 unfold gD
 rw [Array.getElem?_setIfInBounds_self_of_lt (by (try simp only [Array.size_setIfInBounds]); omega)]
theorem Tryz.infoOp : (Tryz.prog.info? 50).map (fun i => (i.zero, i.size, i.bytes)) = some (some (.agg #[.int .i64 0, .int .i64 0, .int .i64 0, .int .i64 0, .string ⟨#[]⟩, .int .i64 0, .int .i64 0, .int .i64 0]), 8, 72) := by kernel_rfl
def jV (w wr : World) (g n : Nat) (l : List aA) (k : Nat) : Prop :=
 Below w.heap.size w wr ∧ ∃ cs : Array Value, wr.heap[g]? = some (.cells cs 50 (0, 0)) ∧ cs.size = n * 8 ∧ ∀ i, i < k → cs[i * 8]? = some (.int .i64 (l.getD i aA.zero).dev) ∧ cs[i * 8 + 1]? = some (.int .i64 (l.getD i aA.zero).seq) ∧ cs[i * 8 + 2]? = some (.int .i64 (l.getD i aA.zero).stamp) ∧ cs[i * 8 + 3]? = some (.int .i64 (l.getD i aA.zero).kind) ∧ cs[i * 8 + 4]? = some (.string (l.getD i aA.zero).item) ∧ cs[i * 8 + 5]? = some (.int .i64 (l.getD i aA.zero).qty) ∧ cs[i * 8 + 6]? = some (.int .i64 (l.getD i aA.zero).level) ∧ cs[i * 8 + 7]? = some (.int .i64 (l.getD i aA.zero).undos)
theorem jV.next {w wr w1 : World} {g n : Nat} {l : List aA} {k : Nat} (h : jV w wr g n l k) (hb : Below wr.heap.size wr w1) : jV w w1 g n l k := by
 obtain ⟨h1, cs, hg, hs, hc⟩ := h
 exact ⟨h1.trans (hb.mono h1.size), cs, (hb.block _ (aPv hg).1).trans hg, hs, hc⟩
def X6 (w : World) (b off : Nat) (o : aA) : World := ((((((((w.setCell ⟨b, off, none⟩ (.int .i64 o.dev)).setCell ⟨b, off + 1, none⟩ (.int .i64 o.seq)).setCell ⟨b, off + 2, none⟩ (.int .i64 o.stamp)).setCell ⟨b, off + 3, none⟩ (.int .i64 o.kind)).setCell ⟨b, off + 4, none⟩ (.string o.item)).setCell ⟨b, off + 5, none⟩ (.int .i64 o.qty)).setCell ⟨b, off + 6, none⟩ (.int .i64 o.level)).setCell ⟨b, off + 7, none⟩ (.int .i64 o.undos))
theorem aAg {w : World} {b off : Nat} {cs : Array Value} {T : TypeId} (o : aA) (h : w.heap[b]? = some (.cells cs T (0, 0))) : (X6 w b off o).heap[b]? = some (.cells (gD cs off o) T (0, 0)) := by
 have h0 : (w.setCell ⟨b, off, none⟩ (.int .i64 o.dev)).heap[b]? = some (.cells (cs.setIfInBounds (off) (.int .i64 o.dev)) T (0, 0)) := heap_setCell_same _ _ _ _ _ _ h
 have h1 : ((w.setCell ⟨b, off, none⟩ (.int .i64 o.dev)).setCell ⟨b, off + 1, none⟩ (.int .i64 o.seq)).heap[b]? = some (.cells ((cs.setIfInBounds (off) (.int .i64 o.dev)).setIfInBounds (off + 1) (.int .i64 o.seq)) T (0, 0)) := heap_setCell_same _ _ _ _ _ _ h0
 have h2 : (((w.setCell ⟨b, off, none⟩ (.int .i64 o.dev)).setCell ⟨b, off + 1, none⟩ (.int .i64 o.seq)).setCell ⟨b, off + 2, none⟩ (.int .i64 o.stamp)).heap[b]? = some (.cells (((cs.setIfInBounds (off) (.int .i64 o.dev)).setIfInBounds (off + 1) (.int .i64 o.seq)).setIfInBounds (off + 2) (.int .i64 o.stamp)) T (0, 0)) := heap_setCell_same _ _ _ _ _ _ h1
 have h3 : ((((w.setCell ⟨b, off, none⟩ (.int .i64 o.dev)).setCell ⟨b, off + 1, none⟩ (.int .i64 o.seq)).setCell ⟨b, off + 2, none⟩ (.int .i64 o.stamp)).setCell ⟨b, off + 3, none⟩ (.int .i64 o.kind)).heap[b]? = some (.cells ((((cs.setIfInBounds (off) (.int .i64 o.dev)).setIfInBounds (off + 1) (.int .i64 o.seq)).setIfInBounds (off + 2) (.int .i64 o.stamp)).setIfInBounds (off + 3) (.int .i64 o.kind)) T (0, 0)) := heap_setCell_same _ _ _ _ _ _ h2
 have h4 : (((((w.setCell ⟨b, off, none⟩ (.int .i64 o.dev)).setCell ⟨b, off + 1, none⟩ (.int .i64 o.seq)).setCell ⟨b, off + 2, none⟩ (.int .i64 o.stamp)).setCell ⟨b, off + 3, none⟩ (.int .i64 o.kind)).setCell ⟨b, off + 4, none⟩ (.string o.item)).heap[b]? = some (.cells (((((cs.setIfInBounds (off) (.int .i64 o.dev)).setIfInBounds (off + 1) (.int .i64 o.seq)).setIfInBounds (off + 2) (.int .i64 o.stamp)).setIfInBounds (off + 3) (.int .i64 o.kind)).setIfInBounds (off + 4) (.string o.item)) T (0, 0)) := heap_setCell_same _ _ _ _ _ _ h3
 have h5 : ((((((w.setCell ⟨b, off, none⟩ (.int .i64 o.dev)).setCell ⟨b, off + 1, none⟩ (.int .i64 o.seq)).setCell ⟨b, off + 2, none⟩ (.int .i64 o.stamp)).setCell ⟨b, off + 3, none⟩ (.int .i64 o.kind)).setCell ⟨b, off + 4, none⟩ (.string o.item)).setCell ⟨b, off + 5, none⟩ (.int .i64 o.qty)).heap[b]? = some (.cells ((((((cs.setIfInBounds (off) (.int .i64 o.dev)).setIfInBounds (off + 1) (.int .i64 o.seq)).setIfInBounds (off + 2) (.int .i64 o.stamp)).setIfInBounds (off + 3) (.int .i64 o.kind)).setIfInBounds (off + 4) (.string o.item)).setIfInBounds (off + 5) (.int .i64 o.qty)) T (0, 0)) := heap_setCell_same _ _ _ _ _ _ h4
 have h6 : (((((((w.setCell ⟨b, off, none⟩ (.int .i64 o.dev)).setCell ⟨b, off + 1, none⟩ (.int .i64 o.seq)).setCell ⟨b, off + 2, none⟩ (.int .i64 o.stamp)).setCell ⟨b, off + 3, none⟩ (.int .i64 o.kind)).setCell ⟨b, off + 4, none⟩ (.string o.item)).setCell ⟨b, off + 5, none⟩ (.int .i64 o.qty)).setCell ⟨b, off + 6, none⟩ (.int .i64 o.level)).heap[b]? = some (.cells (((((((cs.setIfInBounds (off) (.int .i64 o.dev)).setIfInBounds (off + 1) (.int .i64 o.seq)).setIfInBounds (off + 2) (.int .i64 o.stamp)).setIfInBounds (off + 3) (.int .i64 o.kind)).setIfInBounds (off + 4) (.string o.item)).setIfInBounds (off + 5) (.int .i64 o.qty)).setIfInBounds (off + 6) (.int .i64 o.level)) T (0, 0)) := heap_setCell_same _ _ _ _ _ _ h5
 have h7 : ((((((((w.setCell ⟨b, off, none⟩ (.int .i64 o.dev)).setCell ⟨b, off + 1, none⟩ (.int .i64 o.seq)).setCell ⟨b, off + 2, none⟩ (.int .i64 o.stamp)).setCell ⟨b, off + 3, none⟩ (.int .i64 o.kind)).setCell ⟨b, off + 4, none⟩ (.string o.item)).setCell ⟨b, off + 5, none⟩ (.int .i64 o.qty)).setCell ⟨b, off + 6, none⟩ (.int .i64 o.level)).setCell ⟨b, off + 7, none⟩ (.int .i64 o.undos)).heap[b]? = some (.cells ((((((((cs.setIfInBounds (off) (.int .i64 o.dev)).setIfInBounds (off + 1) (.int .i64 o.seq)).setIfInBounds (off + 2) (.int .i64 o.stamp)).setIfInBounds (off + 3) (.int .i64 o.kind)).setIfInBounds (off + 4) (.string o.item)).setIfInBounds (off + 5) (.int .i64 o.qty)).setIfInBounds (off + 6) (.int .i64 o.level)).setIfInBounds (off + 7) (.int .i64 o.undos)) T (0, 0)) := heap_setCell_same _ _ _ _ _ _ h6
 exact h7
theorem Y5 {w : World} {b off k : Nat} (o : aA) (h : k ≠ b) : (X6 w b off o).heap[k]? = w.heap[k]? := by
 unfold X6
 rw [heap_setCell_other _ _ _ _ h, heap_setCell_other _ _ _ _ h, heap_setCell_other _ _ _ _ h, heap_setCell_other _ _ _ _ h, heap_setCell_other _ _ _ _ h, heap_setCell_other _ _ _ _ h, heap_setCell_other _ _ _ _ h, heap_setCell_other _ _ _ _ h]
theorem Y6 {B : Nat} {w0 w : World} {b off : Nat} (o : aA) (h : Below B w0 w) (hb : B ≤ b) : Below B w0 (X6 w b off o) :=
 ((((((((h.setCell (p := ⟨b, off, none⟩) hb _).setCell (p := ⟨b, off + 1, none⟩) hb _).setCell (p := ⟨b, off + 2, none⟩) hb _).setCell (p := ⟨b, off + 3, none⟩) hb _).setCell (p := ⟨b, off + 4, none⟩) hb _).setCell (p := ⟨b, off + 5, none⟩) hb _).setCell (p := ⟨b, off + 6, none⟩) hb _).setCell (p := ⟨b, off + 7, none⟩) hb _)
theorem jV.step {w wr : World} {g n : Nat} {l : List aA} {k : Nat} (h : jV w wr g n l k) (hg0 : w.heap.size ≤ g) (hk : k < n) : jV w (X6 wr g (k * 8) (l.getD k aA.zero)) g n l (k + 1) := by
 obtain ⟨h1, cs, hg, hs, hc⟩ := h
 refine ⟨Y6 _ h1 hg0, gD cs (k * 8) (l.getD k aA.zero), aAg _ hg, by rw [aEM]; exact hs, fun i hi => ?_⟩
 rcases Nat.lt_or_ge i k with aK | hge
 ·obtain ⟨d0, d1, d2, d3, d4, d5, d6, d7⟩ := hc i aK
  refine ⟨by rw [nN _ _ _ _ (by omega)]; exact d0, by rw [nN _ _ _ _ (by omega)]; exact d1, by rw [nN _ _ _ _ (by omega)]; exact d2, by rw [nN _ _ _ _ (by omega)]; exact d3, by rw [nN _ _ _ _ (by omega)]; exact d4, by rw [nN _ _ _ _ (by omega)]; exact d5, by rw [nN _ _ _ _ (by omega)]; exact d6, by rw [nN _ _ _ _ (by omega)]; exact d7⟩
 ·obtain rfl : i = k := by omega
  exact ⟨aJV _ _ _ (by omega), aJU _ _ _ (by omega), aJT _ _ _ (by omega), aJS _ _ _ (by omega), aJR _ _ _ (by omega), aJQ _ _ _ (by omega), aJP _ _ _ (by omega), aJO _ _ _ (by omega)⟩
theorem jV.cells {w wr : World} {g n : Nat} {l : List aA} {k : Nat} (h : jV w wr g n l k) (hk : k < n) : ∃ v0 v1 v2 v3 v4 v5 v6 v7, wr.cell? ⟨g, k * 8, none⟩ = some v0 ∧ wr.cell? ⟨g, k * 8 + 1, none⟩ = some v1 ∧ wr.cell? ⟨g, k * 8 + 2, none⟩ = some v2 ∧ wr.cell? ⟨g, k * 8 + 3, none⟩ = some v3 ∧ wr.cell? ⟨g, k * 8 + 4, none⟩ = some v4 ∧ wr.cell? ⟨g, k * 8 + 5, none⟩ = some v5 ∧ wr.cell? ⟨g, k * 8 + 6, none⟩ = some v6 ∧ wr.cell? ⟨g, k * 8 + 7, none⟩ = some v7 := by
 obtain ⟨h1, cs, hg, hs, hc⟩ := h
 have e : ∀ m, m < cs.size → wr.cell? ⟨g, m, none⟩ = some (cs.getD m undef) := fun m hm => by
  rw [aPx hg, Array.getElem?_eq_getElem hm]; simp [Array.getD, hm]
 exact ⟨_, _, _, _, _, _, _, _, e _ (by omega), e _ (by omega), e _ (by omega), e _ (by omega), e _ (by omega), e _ (by omega), e _ (by omega), e _ (by omega)⟩
theorem jV.frozen {w wr : World} {g n : Nat} {l : List aA} {k : Nat} (h : jV w wr g n l k) (m : Nat) : wr.frozen? ⟨g, m, none⟩ = false := by
 obtain ⟨h1, cs, hg, hs, hc⟩ := h
 exact aPy hg
theorem jV.done {w wr : World} {g n : Nat} {l : List aA} (h : jV w wr g n l n) (hl : l.length = n) {B : Nat} (hB : g < B) : bK wr B (some ⟨g, 0, none⟩) n l := by
 obtain ⟨h1, cs, hg, hs, hc⟩ := h
 refine ⟨hl, fun i hi => ⟨g, 0, rfl, hB, ?_⟩⟩
 obtain ⟨d0, d1, d2, d3, d4, d5, d6, d7⟩ := hc i hi
 rw [Nat.zero_add]
 exact ⟨(aPx hg).trans d0, (aPx hg).trans d1, (aPx hg).trans d2, (aPx hg).trans d3, (aPx hg).trans d4, (aPx hg).trans d5, (aPx hg).trans d6, (aPx hg).trans d7⟩
def aB (l : List aA) (i : Nat) : aA := l.getD i aA.zero
def dJ (l : List aA) (st i : Nat) : Int := if i = 0 then 0 else (aB l (st + i - 1)).stamp
def jT (l : List aA) (dev st i : Nat) : Bool := (aB l (st + i)).ok && (decide ((aB l (st + i)).dev = (dev : Int)) && (decide ((aB l (st + i)).seq = (i : Int) + 1) && decide (dJ l st i < (aB l (st + i)).stamp)))
theorem aGV {l : List aA} {dev st i : Nat} (h : (aB l (st + i)).ok = false) : jT l dev st i = false := by unfold jT; rw [h]; rfl
theorem aEw {l : List aA} {dev st i : Nat} (h : ¬ (aB l (st + i)).dev = (dev : Int)) : jT l dev st i = false := by unfold jT; rw [decide_eq_false h]; simp
theorem aEv {l : List aA} {dev st i : Nat} (h : ¬ (aB l (st + i)).seq = (i : Int) + 1) : jT l dev st i = false := by unfold jT; rw [decide_eq_false h]; simp
theorem aBO {l : List aA} {dev st i : Nat} (h : ¬ dJ l st i < (aB l (st + i)).stamp) : jT l dev st i = false := by unfold jT; rw [decide_eq_false h]; simp
theorem sE {l : List aA} {dev st i : Nat} (h1 : (aB l (st + i)).ok = true) (h2 : (aB l (st + i)).dev = (dev : Int)) (h3 : (aB l (st + i)).seq = (i : Int) + 1) (h4 : dJ l st i < (aB l (st + i)).stamp) : jT l dev st i = true := by
 unfold jT
 rw [h1, decide_eq_true h2, decide_eq_true h3, decide_eq_true h4]
 rfl
def kR (l : List aA) (dev st c : Nat) : Bool := (List.range c).all (jT l dev st)
theorem aCp {l : List aA} {dev st k : Nat} (h : kR l dev st k = true) (hk : jT l dev st k = true) : kR l dev st (k + 1) = true := by
 unfold kR at *
 rw [List.range_succ, List.all_append, h]
 simp [hk]
theorem xW {l : List aA} {dev st k c : Nat} (hk : k < c) (h : jT l dev st k = false) : kR l dev st c = false := by
 unfold kR
 rw [List.all_eq_false]
 exact ⟨k, by simpa using hk, by simp [h]⟩
theorem vF (l : List aA) (st k : Nat) : dJ l st (k + 1) = (aB l (st + k)).stamp := by
 unfold dJ
 rw [if_neg (by omega)]
 rfl
set_option maxHeartbeats 10000000 in
theorem aIw (w : World) (B : Nat) (a : Option Addr) (n cap dev : Nat) (l : List aA) (h : bK w B a n l) (hB : B ≤ w.heap.size) (hn : n ≤ 1048576) :
  Calls Tryz.prog 57 #[.slice a n cap, .int .i64 (dev : Int)] w fun e w' => e = .returned (.bool (kR l dev 0 n)) ∧ Below w.heap.size w w' := by
 have H := aPu h
 clear h
 go_enter Tryz.func57, Tryz.ntmps57
 go_wp2
 go_loopw [5, 10] (fun s i wr => ∃ k : Nat, k ≤ n ∧ i = .int .i64 k ∧ s = .int .i64 (dJ l 0 k) ∧ Hid (kR l dev 0 k = true) ∧ Hid (Below w.heap.size w wr)) (fun _ i _ => n - (intOf i).toNat)
 case atStart => exact ⟨0, Nat.zero_le _, rfl, rfl, rfl, Below.refl _ _⟩
 case round =>
  obtain ⟨k, hk, rfl, rfl, HK, HB⟩ := hrel
  by_cases aK : k < n
  rotate_left
  ·obtain rfl : k = n := by omega
   go_wp2
   go_ret
   exact ⟨by rw [HK.out]; rfl, HB.out⟩
  obtain ⟨b, off, rfl, hb, ho⟩ := H.out.2 k aK; obtain ⟨c0, c1, c2, c3, c4, c5, c6, c7⟩ := ho.kept (HB.out.block b (by omega))
  clear ho; have HA : Hid (l.getD k aA.zero = aB l (0 + k)) := by show _ = _; rw [Nat.zero_add]; rfl
  have HPs := aPu (vF l 0 k); have HY := aPu (@sE l dev 0 k); have H1 := aPu (fun h => xW (c := n) aK (@aGV l dev 0 k h))
  have H2 := aPu (fun h => xW (c := n) aK (@aEw l dev 0 k h))
  have H3 := aPu (fun h => xW (c := n) aK (@aEv l dev 0 k h))
  have H4 := aPu (fun h => xW (c := n) aK (@aBO l dev 0 k h))
  have HN := aPu (fun h => aCp (dev := dev) HK.out h)
  rw [HA.out] at c0 c1 c2 c3 c4 c5 c6 c7; clear HA; generalize aB l (0 + k) = x at HPs HY H1 H2 H3 H4 c0 c1 c2 c3 c4 c5 c6 c7; generalize dJ l 0 k = ps at HY H4 ⊢
  go_upto_region 5 with fail
  have HX := aPu (bE (Below.refl _ (wr.alloc (.cells #[.int .i64 x.dev, .int .i64 x.seq, .int .i64 x.stamp, .int .i64 x.kind, .string x.item, .int .i64 x.qty, .int .i64 x.level, .int .i64 x.undos] 50)))); have cX := aPu (HB.out.alloc HB.out.size (.cells #[.int .i64 x.dev, .int .i64 x.seq, .int .i64 x.stamp, .int .i64 x.kind, .string x.item, .int .i64 x.qty, .int .i64 x.level, .int .i64 x.undos] 50)); generalize wr.alloc (.cells #[.int .i64 x.dev, .int .i64 x.seq, .int .i64 x.stamp, .int .i64 x.kind, .string x.item, .int .i64 x.qty, .int .i64 x.level, .int .i64 x.undos] 50) = w1 at HX cX ⊢; generalize wr.heap.size = bo at HX ⊢; clear c0 c1 c2 c3 c4 c5 c6 c7 HB; have ⟨d0, d1, d2, d3, d4, d5, d6, d7⟩ : nI w1 bo 0 x := ⟨aPx HX.out, aPx HX.out, aPx HX.out, aPx HX.out, aPx HX.out, aPx HX.out, aPx HX.out, aPx HX.out⟩; simp only [Nat.zero_add] at d0 d1 d2 d3 d4 d5 d6 d7
  go_wp2_with fail
  refine (kS x.dev x.seq x.stamp x.kind x.item x.qty x.level x.undos _).mono ?_
  rintro e w2 ⟨rfl, aG⟩; have nT := aPu ((aG.block _ (aPv HX.out).1).trans HX.out); have bP := aPu (cX.out.trans (aG.mono cX.out.size)); clear aG HX cX d0 d1 d2 d3 d4 d5 d6 d7; have ⟨d0, d1, d2, d3, d4, d5, d6, d7⟩ : nI w2 bo 0 x := ⟨aPx nT.out, aPx nT.out, aPx nT.out, aPx nT.out, aPx nT.out, aPx nT.out, aPx nT.out, aPx nT.out⟩; simp only [Nat.zero_add] at d0 d1 d2 d3 d4 d5 d6 d7
  rcases hok : dK x.dev x.seq x.stamp x.kind x.item x.qty x.level x.undos with _ | _
  ·have HF := aPu (H1.out hok)
   clear hok; go_wp2
   go_ret
   exact ⟨by rw [HF.out]; rfl, bP.out⟩
  by_cases e1 : x.dev = (dev : Int)
  rotate_left
  ·have HF := aPu (H2.out e1)
   have b1 : (x.dev != (dev : Int)) = true := by rw [bne_iff_ne]; exact e1
   clear hok e1; go_wp2
   go_ret
   exact ⟨by rw [HF.out]; rfl, bP.out⟩
  have b1 : (x.dev != (dev : Int)) = false := by rw [e1]; exact bne_self_eq_false _
  by_cases e2 : x.seq = (k : Int) + 1
  rotate_left
  ·have HF := aPu (H3.out e2)
   have b2 : (x.seq != (k : Int) + 1) = true := by rw [bne_iff_ne]; exact e2
   clear hok e1 e2; go_wp2
   go_ret
   exact ⟨by rw [HF.out]; rfl, bP.out⟩
  have b2 : (x.seq != (k : Int) + 1) = false := by rw [e2]; exact bne_self_eq_false _
  by_cases e3 : ps < x.stamp
  rotate_left
  ·have HF := aPu (H4.out (by first | exact e3 | exact Int.not_lt.1 e3))
   have b3 : decide (x.stamp ≤ ps) = true := decide_eq_true (by omega)
   clear hok e1 e2 e3; go_wp2
   go_ret
   exact ⟨by rw [HF.out]; rfl, bP.out⟩
  have b3 : decide (x.stamp ≤ ps) = false := decide_eq_false (by omega)
  have HF := aPu (HN.out (HY.out hok e1 e2 e3)); clear hok e1 e2 e3; go_wp2
  go_roundw
  case rel => exact ⟨k + 1, by omega, by go_num, by rw [HPs.out], HF, bP⟩
  case measure => simp [intOf]; omega
end Go.Proofs.YthkagbnpcjidfaaGreatDoor
