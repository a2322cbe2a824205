/- Walks and mathematics that several claims share, part 10. -/
import Derived.Test.YtgagchlcafdiaaaGreatGb5
import Derived.Deep.Cut
import Derived.Deep.RegionHeld3
import Derived.RegionTactic
import Derived.Handy
import Derived.Below
import Derived.Test.YtgagchlcafdiaaaGreatGbA
namespace Go.Proofs.YtgagchlcafdiaaaGreat
set_option maxRecDepth 100000
open Go.RowKit
set_option linter.unusedVariables false
set_option linter.unusedSimpArgs false
set_option linter.unusedVariables false

structure LnV where
 item : ByteArray
 qty : Int
 saved : Bool
def LnV.zero : LnV := ⟨⟨#[]⟩, 0, false⟩
def LnAt (w : World) (b off : Nat) (o : LnV) : Prop := w.cell? ⟨b, off, none⟩ = some (.string o.item) ∧ w.cell? ⟨b, off + 1, none⟩ = some (.int .i64 o.qty) ∧ w.cell? ⟨b, off + 2, none⟩ = some (.bool o.saved)
theorem LnAt.kept {w w' : World} {b off : Nat} {o : LnV} (h : LnAt w b off o) (hb : w'.heap[b]? = w.heap[b]?) : LnAt w' b off o := by
 obtain ⟨h0, h1, h2⟩ := h
 exact ⟨(World.cell?_of_block (a := ⟨b, off, none⟩) hb).trans h0, (World.cell?_of_block (a := ⟨b, off + 1, none⟩) hb).trans h1, (World.cell?_of_block (a := ⟨b, off + 2, none⟩) hb).trans h2⟩
/-- A slice of n offers that reads as l; its row lies below block B. -/
def Lns (w : World) (B : Nat) (a : Option Addr) (n : Nat) (l : List LnV) : Prop :=
 l.length = n ∧ ∀ i, i < n → ∃ b off, a = some ⟨b, off, none⟩ ∧ b < B ∧ LnAt w b (off + i * 3) (l.getD i LnV.zero)
theorem Lns.kept {w w' : World} {B : Nat} {a : Option Addr} {n : Nat} {l : List LnV} (h : Lns w B a n l) (hk : ∀ k, k < B → w'.heap[k]? = w.heap[k]?) : Lns w' B a n l :=
 ⟨h.1, fun i hi => by obtain ⟨b, off, e, hb, ho⟩ := h.2 i hi; exact ⟨b, off, e, hb, ho.kept (hk b hb)⟩⟩
theorem Lns.below {w w' : World} {B B' : Nat} {a : Option Addr} {n : Nat} {l : List LnV} (h : Lns w B a n l) (hb : Below B' w w') (hB : B ≤ B') : Lns w' B a n l :=
 h.kept fun k hk => hb.block k (by omega)
theorem Lns.more {w : World} {B B' : Nat} {a : Option Addr} {n : Nat} {l : List LnV} (h : Lns w B a n l) (hB : B ≤ B') : Lns w B' a n l :=
 ⟨h.1, fun i hi => by obtain ⟨b, off, e, hb, ho⟩ := h.2 i hi; exact ⟨b, off, e, by omega, ho⟩⟩
set_option linter.unusedVariables false

structure OfV where
 item : ByteArray
 buy : Int
 free : Int
def OfV.zero : OfV := ⟨⟨#[]⟩, 0, 0⟩
def OfAt (w : World) (b off : Nat) (o : OfV) : Prop := w.cell? ⟨b, off, none⟩ = some (.string o.item) ∧ w.cell? ⟨b, off + 1, none⟩ = some (.int .i64 o.buy) ∧ w.cell? ⟨b, off + 2, none⟩ = some (.int .i64 o.free)
theorem OfAt.kept {w w' : World} {b off : Nat} {o : OfV} (h : OfAt w b off o) (hb : w'.heap[b]? = w.heap[b]?) : OfAt w' b off o := by
 obtain ⟨h0, h1, h2⟩ := h
 exact ⟨(World.cell?_of_block (a := ⟨b, off, none⟩) hb).trans h0, (World.cell?_of_block (a := ⟨b, off + 1, none⟩) hb).trans h1, (World.cell?_of_block (a := ⟨b, off + 2, none⟩) hb).trans h2⟩
/-- A slice of n offers that reads as l; its row lies below block B. -/
def Ofs (w : World) (B : Nat) (a : Option Addr) (n : Nat) (l : List OfV) : Prop :=
 l.length = n ∧ ∀ i, i < n → ∃ b off, a = some ⟨b, off, none⟩ ∧ b < B ∧ OfAt w b (off + i * 3) (l.getD i OfV.zero)
theorem Ofs.kept {w w' : World} {B : Nat} {a : Option Addr} {n : Nat} {l : List OfV} (h : Ofs w B a n l) (hk : ∀ k, k < B → w'.heap[k]? = w.heap[k]?) : Ofs w' B a n l :=
 ⟨h.1, fun i hi => by obtain ⟨b, off, e, hb, ho⟩ := h.2 i hi; exact ⟨b, off, e, hb, ho.kept (hk b hb)⟩⟩
theorem Ofs.below {w w' : World} {B B' : Nat} {a : Option Addr} {n : Nat} {l : List OfV} (h : Ofs w B a n l) (hb : Below B' w w') (hB : B ≤ B') : Ofs w' B a n l :=
 h.kept fun k hk => hb.block k (by omega)
theorem Ofs.more {w : World} {B B' : Nat} {a : Option Addr} {n : Nat} {l : List OfV} (h : Ofs w B a n l) (hB : B ≤ B') : Ofs w B' a n l :=
 ⟨h.1, fun i hi => by obtain ⟨b, off, e, hb, ho⟩ := h.2 i hi; exact ⟨b, off, e, by omega, ho⟩⟩
def Ofput (cs : Array Value) (off : Nat) (o : OfV) : Array Value := (((cs.setIfInBounds (off) (.string o.item)).setIfInBounds (off + 1) (.int .i64 o.buy)).setIfInBounds (off + 2) (.int .i64 o.free))
theorem Ofput_size (cs : Array Value) (off : Nat) (o : OfV) : (Ofput cs off o).size = cs.size := by
 unfold Ofput
 simp only [Array.size_setIfInBounds]
theorem Ofput_far (cs : Array Value) (off m : Nat) (o : OfV) (h : m < off ∨ off + 3 ≤ m) : (Ofput cs off o)[m]? = cs[m]? := by
 unfold Ofput
 rw [Array.getElem?_setIfInBounds_ne (by omega), Array.getElem?_setIfInBounds_ne (by omega), Array.getElem?_setIfInBounds_ne (by omega)]

theorem Ofput_0 (cs : Array Value) (off : Nat) (o : OfV) (h : off + 3 ≤ cs.size) : (Ofput cs off o)[off]? = some (.string o.item) := by
 unfold Ofput
 rw [Array.getElem?_setIfInBounds_ne (by omega), Array.getElem?_setIfInBounds_ne (by omega), Array.getElem?_setIfInBounds_self_of_lt (by (try simp only [Array.size_setIfInBounds]); omega)]
theorem Ofput_1 (cs : Array Value) (off : Nat) (o : OfV) (h : off + 3 ≤ cs.size) : (Ofput cs off o)[off + 1]? = some (.int .i64 o.buy) := by
 unfold Ofput
 rw [Array.getElem?_setIfInBounds_ne (by omega), Array.getElem?_setIfInBounds_self_of_lt (by (try simp only [Array.size_setIfInBounds]); omega)]
theorem Ofput_2 (cs : Array Value) (off : Nat) (o : OfV) (h : off + 3 ≤ cs.size) : (Ofput cs off o)[off + 2]? = some (.int .i64 o.free) := by
 unfold Ofput
 rw [Array.getElem?_setIfInBounds_self_of_lt (by (try simp only [Array.size_setIfInBounds]); omega)]
/-- Block g holds n elements, of which the first k are l's. -/
def PartOf (w wr : World) (g n : Nat) (l : List OfV) (k : Nat) : Prop :=
 Below w.heap.size w wr ∧ ∃ cs : Array Value, wr.heap[g]? = some (.cells cs 59 (0, 0)) ∧ cs.size = n * 3 ∧ ∀ i, i < k → cs[i * 3]? = some (.string (l.getD i OfV.zero).item) ∧ cs[i * 3 + 1]? = some (.int .i64 (l.getD i OfV.zero).buy) ∧ cs[i * 3 + 2]? = some (.int .i64 (l.getD i OfV.zero).free)
theorem PartOf.next {w wr w1 : World} {g n : Nat} {l : List OfV} {k : Nat} (h : PartOf w wr g n l k) (hb : Below wr.heap.size wr w1) : PartOf w w1 g n l k := by
 obtain ⟨h1, cs, hg, hs, hc⟩ := h
 exact ⟨h1.trans (hb.mono h1.size), cs, (hb.block _ (Array.getElem?_eq_some_iff.1 hg).1).trans hg, hs, hc⟩

def OfsetAt (w : World) (b off : Nat) (o : OfV) : World := (((w.setCell ⟨b, off, none⟩ (.string o.item)).setCell ⟨b, off + 1, none⟩ (.int .i64 o.buy)).setCell ⟨b, off + 2, none⟩ (.int .i64 o.free))
theorem OfsetAt_same {w : World} {b off : Nat} {cs : Array Value} {T : TypeId} (o : OfV) (h : w.heap[b]? = some (.cells cs T (0, 0))) : (OfsetAt w b off o).heap[b]? = some (.cells (Ofput cs off o) T (0, 0)) := by
 have h0 : (w.setCell ⟨b, off, none⟩ (.string o.item)).heap[b]? = some (.cells (cs.setIfInBounds (off) (.string o.item)) T (0, 0)) := heap_setCell_same _ _ _ _ _ _ h
 have h1 : ((w.setCell ⟨b, off, none⟩ (.string o.item)).setCell ⟨b, off + 1, none⟩ (.int .i64 o.buy)).heap[b]? = some (.cells ((cs.setIfInBounds (off) (.string o.item)).setIfInBounds (off + 1) (.int .i64 o.buy)) T (0, 0)) := heap_setCell_same _ _ _ _ _ _ h0
 have h2 : (((w.setCell ⟨b, off, none⟩ (.string o.item)).setCell ⟨b, off + 1, none⟩ (.int .i64 o.buy)).setCell ⟨b, off + 2, none⟩ (.int .i64 o.free)).heap[b]? = some (.cells (((cs.setIfInBounds (off) (.string o.item)).setIfInBounds (off + 1) (.int .i64 o.buy)).setIfInBounds (off + 2) (.int .i64 o.free)) T (0, 0)) := heap_setCell_same _ _ _ _ _ _ h1
 exact h2
theorem OfsetAt_below {B : Nat} {w0 w : World} {b off : Nat} (o : OfV) (h : Below B w0 w) (hb : B ≤ b) : Below B w0 (OfsetAt w b off o) :=
 (((h.setCell (p := ⟨b, off, none⟩) hb _).setCell (p := ⟨b, off + 1, none⟩) hb _).setCell (p := ⟨b, off + 2, none⟩) hb _)
theorem PartOf.step {w wr : World} {g n : Nat} {l : List OfV} {k : Nat} (h : PartOf w wr g n l k) (hg0 : w.heap.size ≤ g) (hk : k < n) : PartOf w (OfsetAt wr g (k * 3) (l.getD k OfV.zero)) g n l (k + 1) := by
 obtain ⟨h1, cs, hg, hs, hc⟩ := h
 refine ⟨OfsetAt_below _ h1 hg0, Ofput cs (k * 3) (l.getD k OfV.zero), OfsetAt_same _ hg, by rw [Ofput_size]; exact hs, fun i hi => ?_⟩
 rcases Nat.lt_or_ge i k with hlt | hge
 ·obtain ⟨d0, d1, d2⟩ := hc i hlt
  refine ⟨by rw [Ofput_far _ _ _ _ (by omega)]; exact d0, by rw [Ofput_far _ _ _ _ (by omega)]; exact d1, by rw [Ofput_far _ _ _ _ (by omega)]; exact d2⟩
 ·obtain rfl : i = k := by omega
  exact ⟨Ofput_0 _ _ _ (by omega), Ofput_1 _ _ _ (by omega), Ofput_2 _ _ _ (by omega)⟩
theorem PartOf.cells {w wr : World} {g n : Nat} {l : List OfV} {k : Nat} (h : PartOf w wr g n l k) (hk : k < n) : ∃ v0 v1 v2, wr.cell? ⟨g, k * 3, none⟩ = some v0 ∧ wr.cell? ⟨g, k * 3 + 1, none⟩ = some v1 ∧ wr.cell? ⟨g, k * 3 + 2, none⟩ = some v2 := by
 obtain ⟨h1, cs, hg, hs, hc⟩ := h
 have e : ∀ m, m < cs.size → wr.cell? ⟨g, m, none⟩ = some (cs.getD m undef) := fun m hm => by
  rw [cell_of_row _ _ _ _ _ _ hg, Array.getElem?_eq_getElem hm]
  simp [Array.getD, hm]
 exact ⟨_, _, _, e _ (by omega), e _ (by omega), e _ (by omega)⟩
theorem PartOf.done {w wr : World} {g n : Nat} {l : List OfV} (h : PartOf w wr g n l n) (hl : l.length = n) {B : Nat} (hB : g < B) : Ofs wr B (some ⟨g, 0, none⟩) n l := by
 obtain ⟨h1, cs, hg, hs, hc⟩ := h
 refine ⟨hl, fun i hi => ⟨g, 0, rfl, hB, ?_⟩⟩
 obtain ⟨d0, d1, d2⟩ := hc i hi
 rw [Nat.zero_add]
 exact ⟨(cell_of_row _ _ _ _ _ _ hg).trans d0, (cell_of_row _ _ _ _ _ _ hg).trans d1, (cell_of_row _ _ _ _ _ _ hg).trans d2⟩

set_option linter.unusedVariables false

structure PrV where
 item : ByteArray
 cents : Int
def PrV.zero : PrV := ⟨⟨#[]⟩, 0⟩
def PrAt (w : World) (b off : Nat) (o : PrV) : Prop := w.cell? ⟨b, off, none⟩ = some (.string o.item) ∧ w.cell? ⟨b, off + 1, none⟩ = some (.int .i64 o.cents)
theorem PrAt.kept {w w' : World} {b off : Nat} {o : PrV} (h : PrAt w b off o) (hb : w'.heap[b]? = w.heap[b]?) : PrAt w' b off o := by
 obtain ⟨h0, h1⟩ := h
 exact ⟨(World.cell?_of_block (a := ⟨b, off, none⟩) hb).trans h0, (World.cell?_of_block (a := ⟨b, off + 1, none⟩) hb).trans h1⟩
/-- A slice of n prices that reads as l; its row lies below block B. -/
def Prs (w : World) (B : Nat) (a : Option Addr) (n : Nat) (l : List PrV) : Prop :=
 l.length = n ∧ ∀ i, i < n → ∃ b off, a = some ⟨b, off, none⟩ ∧ b < B ∧ PrAt w b (off + i * 2) (l.getD i PrV.zero)
theorem Prs.kept {w w' : World} {B : Nat} {a : Option Addr} {n : Nat} {l : List PrV} (h : Prs w B a n l) (hk : ∀ k, k < B → w'.heap[k]? = w.heap[k]?) : Prs w' B a n l :=
 ⟨h.1, fun i hi => by obtain ⟨b, off, e, hb, ho⟩ := h.2 i hi; exact ⟨b, off, e, hb, ho.kept (hk b hb)⟩⟩
theorem Prs.below {w w' : World} {B B' : Nat} {a : Option Addr} {n : Nat} {l : List PrV} (h : Prs w B a n l) (hb : Below B' w w') (hB : B ≤ B') : Prs w' B a n l :=
 h.kept fun k hk => hb.block k (by omega)
theorem Prs.more {w : World} {B B' : Nat} {a : Option Addr} {n : Nat} {l : List PrV} (h : Prs w B a n l) (hB : B ≤ B') : Prs w B' a n l :=
 ⟨h.1, fun i hi => by obtain ⟨b, off, e, hb, ho⟩ := h.2 i hi; exact ⟨b, off, e, by omega, ho⟩⟩
/-- Block g holds n elements, of which the first k are l's. -/
def PartPr (w wr : World) (g n : Nat) (l : List PrV) (k : Nat) : Prop :=
 Below w.heap.size w wr ∧ ∃ cs : Array Value, wr.heap[g]? = some (.cells cs 63 (0, 0)) ∧ cs.size = n * 2 ∧ ∀ i, i < k → cs[i * 2]? = some (.string (l.getD i PrV.zero).item) ∧ cs[i * 2 + 1]? = some (.int .i64 (l.getD i PrV.zero).cents)
theorem PartPr.next {w wr w1 : World} {g n : Nat} {l : List PrV} {k : Nat} (h : PartPr w wr g n l k) (hb : Below wr.heap.size wr w1) : PartPr w w1 g n l k := by
 obtain ⟨h1, cs, hg, hs, hc⟩ := h
 exact ⟨h1.trans (hb.mono h1.size), cs, (hb.block _ (Array.getElem?_eq_some_iff.1 hg).1).trans hg, hs, hc⟩

theorem PartPr.cells {w wr : World} {g n : Nat} {l : List PrV} {k : Nat} (h : PartPr w wr g n l k) (hk : k < n) : ∃ v0 v1, wr.cell? ⟨g, k * 2, none⟩ = some v0 ∧ wr.cell? ⟨g, k * 2 + 1, none⟩ = some v1 := by
 obtain ⟨h1, cs, hg, hs, hc⟩ := h
 have e : ∀ m, m < cs.size → wr.cell? ⟨g, m, none⟩ = some (cs.getD m undef) := fun m hm => by
  rw [cell_of_row _ _ _ _ _ _ hg, Array.getElem?_eq_getElem hm]
  simp [Array.getD, hm]
 exact ⟨_, _, e _ (by omega), e _ (by omega)⟩
theorem PartPr.done {w wr : World} {g n : Nat} {l : List PrV} (h : PartPr w wr g n l n) (hl : l.length = n) {B : Nat} (hB : g < B) : Prs wr B (some ⟨g, 0, none⟩) n l := by
 obtain ⟨h1, cs, hg, hs, hc⟩ := h
 refine ⟨hl, fun i hi => ⟨g, 0, rfl, hB, ?_⟩⟩
 obtain ⟨d0, d1⟩ := hc i hi
 rw [Nat.zero_add]
 exact ⟨(cell_of_row _ _ _ _ _ _ hg).trans d0, (cell_of_row _ _ _ _ _ _ hg).trans d1⟩

set_option linter.unusedVariables false

structure RwV where
 item : ByteArray
 qty : Int
 cents : Int
def RwV.zero : RwV := ⟨⟨#[]⟩, 0, 0⟩
def RwAt (w : World) (b off : Nat) (o : RwV) : Prop := w.cell? ⟨b, off, none⟩ = some (.string o.item) ∧ w.cell? ⟨b, off + 1, none⟩ = some (.int .i64 o.qty) ∧ w.cell? ⟨b, off + 2, none⟩ = some (.int .i64 o.cents)
theorem RwAt.kept {w w' : World} {b off : Nat} {o : RwV} (h : RwAt w b off o) (hb : w'.heap[b]? = w.heap[b]?) : RwAt w' b off o := by
 obtain ⟨h0, h1, h2⟩ := h
 exact ⟨(World.cell?_of_block (a := ⟨b, off, none⟩) hb).trans h0, (World.cell?_of_block (a := ⟨b, off + 1, none⟩) hb).trans h1, (World.cell?_of_block (a := ⟨b, off + 2, none⟩) hb).trans h2⟩
/-- A slice of n offers that reads as l; its row lies below block B. -/
def Rws (w : World) (B : Nat) (a : Option Addr) (n : Nat) (l : List RwV) : Prop :=
 l.length = n ∧ ∀ i, i < n → ∃ b off, a = some ⟨b, off, none⟩ ∧ b < B ∧ RwAt w b (off + i * 3) (l.getD i RwV.zero)
theorem Rws.kept {w w' : World} {B : Nat} {a : Option Addr} {n : Nat} {l : List RwV} (h : Rws w B a n l) (hk : ∀ k, k < B → w'.heap[k]? = w.heap[k]?) : Rws w' B a n l :=
 ⟨h.1, fun i hi => by obtain ⟨b, off, e, hb, ho⟩ := h.2 i hi; exact ⟨b, off, e, hb, ho.kept (hk b hb)⟩⟩
theorem Rws.below {w w' : World} {B B' : Nat} {a : Option Addr} {n : Nat} {l : List RwV} (h : Rws w B a n l) (hb : Below B' w w') (hB : B ≤ B') : Rws w' B a n l :=
 h.kept fun k hk => hb.block k (by omega)
theorem Rws.more {w : World} {B B' : Nat} {a : Option Addr} {n : Nat} {l : List RwV} (h : Rws w B a n l) (hB : B ≤ B') : Rws w B' a n l :=
 ⟨h.1, fun i hi => by obtain ⟨b, off, e, hb, ho⟩ := h.2 i hi; exact ⟨b, off, e, by omega, ho⟩⟩
set_option linter.unusedVariables false
set_option linter.unusedSimpArgs false

set_option maxHeartbeats 20000000 in
theorem sameRowsY (w : World) (B B' : Nat) (a a' : Option Addr) (n cap cap' : Nat) (l : List RwV) (h : Rws w B a n l) (h' : Rws w B' a' n l) (hB : B ≤ w.heap.size) (hB' : B' ≤ w.heap.size) (hn : n ≤ 1048576) :
  Calls Tryz.prog 13 #[.slice a n cap, .slice a' n cap'] w fun e w' => e = .returned (.bool true) ∧ Below w.heap.size w w' := by
 have H := Lib.hid h
 have H' := Lib.hid h'
 clear h h'
 go_enter Tryz.func13, Tryz.ntmps13
 go_wp2
 go_loopw [5] (fun i wr => ∃ k : Nat, k ≤ n ∧ i = .int .i64 k ∧ Hid (Below w.heap.size w wr)) (fun i _ => n - (intOf i).toNat)
 case atStart => exact ⟨0, Nat.zero_le _, rfl, Below.refl _ _⟩
 case round =>
  obtain ⟨k, hk, rfl, HB⟩ := hrel
  by_cases hlt : k < n
  ·obtain ⟨b, off, rfl, hb, hc⟩ := (H.out.below HB.out hB).2 k hlt
   obtain ⟨b', off', rfl, hb', hc'⟩ := (H'.out.below HB.out hB').2 k hlt
   have hx : RwAt wr b (off + k * 3) (l.getD k RwV.zero) := hc
   have hy : RwAt wr b' (off' + k * 3) (l.getD k RwV.zero) := hc'
   clear hc hc'
   generalize l.getD k RwV.zero = x at hx hy
   obtain ⟨d0, d1, d2⟩ := hx
   obtain ⟨e0, e1, e2⟩ := hy
   have hki : (k : Int) < (n : Int) := by omega
   have hk0 : (0 : Int) ≤ (k : Int) := by omega
   go_wp2
   go_region
   go_wp2
   go_roundw
   case rel => exact ⟨k + 1, by omega, by go_num, HB.out.drew⟩
   case measure => simp [intOf]; omega
  ·have hki : ¬ (k : Int) < (n : Int) := by omega
   go_wp2
   go_ret
   exact ⟨rfl, HB.out⟩
end Go.Proofs.YtgagchlcafdiaaaGreat
