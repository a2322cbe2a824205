/- Walks and mathematics that several claims share, part 11. -/
import Derived.Test.YtgagchlcafdiaaaGreatGb9
import Derived.Test.YtgagchlcafdiaaaGreatGb10
import Derived.Deep.AppendLies
import Derived.Lib.SliceRun
import Derived.Laws.BytesArg
import Derived.Deep.RegionHeld3
import Derived.Deep.Cut
import Derived.Test.YtgagchlcafdiaaaGreatGbA
namespace Go.Proofs.YtgagchlcafdiaaaGreat
open Go.RowKit
set_option linter.unusedVariables false
set_option linter.unusedSimpArgs false

/-- The cells of an operation in a row. -/
def OpIn (cs : Array Value) (off : Nat) (o : OpV) : Prop := cs[off]? = some (.int .i64 o.dev) ∧ cs[off + 1]? = some (.int .i64 o.seq) ∧ cs[off + 2]? = some (.int .i64 o.stamp) ∧ cs[off + 3]? = some (.int .i64 o.kind) ∧ cs[off + 4]? = some (.string o.item) ∧ cs[off + 5]? = some (.int .i64 o.qty) ∧ cs[off + 6]? = some (.int .i64 o.level) ∧ cs[off + 7]? = some (.int .i64 o.undos)
theorem OpIn.at {w : World} {g off : Nat} {T : TypeId} {cs : Array Value} {o : OpV} (hg : w.heap[g]? = some (.cells cs T (0, 0))) (h : OpIn cs off o) : OpAt w g off o := by
 obtain ⟨h0, h1, h2, h3, h4, h5, h6, h7⟩ := h
 exact ⟨(cell_of_row _ _ _ _ _ _ hg).trans h0, (cell_of_row _ _ _ _ _ _ hg).trans h1, (cell_of_row _ _ _ _ _ _ hg).trans h2, (cell_of_row _ _ _ _ _ _ hg).trans h3, (cell_of_row _ _ _ _ _ _ hg).trans h4, (cell_of_row _ _ _ _ _ _ hg).trans h5, (cell_of_row _ _ _ _ _ _ hg).trans h6, (cell_of_row _ _ _ _ _ _ hg).trans h7⟩
/-- A slice of operations whose row, if it has elements, is a block between lo and hi. -/
def OwnOps (w : World) (lo hi : Nat) (a : Option Addr) (n : Nat) (l : List OpV) : Prop :=
 l.length = n ∧ (0 < n → ∃ g off cs, a = some ⟨g, off, none⟩ ∧ lo ≤ g ∧ g < hi ∧ w.heap[g]? = some (.cells cs 84 (0, 0)) ∧ off + n * 8 ≤ cs.size ∧ ∀ i, i < n → OpIn cs (off + i * 8) (l.getD i OpV.zero))
theorem OwnOps.ops {w : World} {lo hi : Nat} {a : Option Addr} {n : Nat} {l : List OpV} (h : OwnOps w lo hi a n l) : Ops w hi a n l :=
 ⟨h.1, fun i hi' => by
  obtain ⟨g, off, cs, e, _, h2, hg, _, hc⟩ := h.2 (by omega)
  exact ⟨g, off, e, h2, (hc i hi').at hg⟩⟩
theorem OwnOps.kept {w w' : World} {lo hi : Nat} {a : Option Addr} {n : Nat} {l : List OpV} (h : OwnOps w lo hi a n l) (hk : ∀ j, lo ≤ j → j < hi → w'.heap[j]? = w.heap[j]?) : OwnOps w' lo hi a n l :=
 ⟨h.1, fun hn => by
  obtain ⟨g, off, cs, e, h1, h2, hg, hs, hc⟩ := h.2 hn
  exact ⟨g, off, cs, e, h1, h2, (hk g h1 h2).trans hg, hs, hc⟩⟩
theorem OwnOps.below {w w' : World} {lo hi B : Nat} {a : Option Addr} {n : Nat} {l : List OpV} (h : OwnOps w lo hi a n l) (hb : Below B w w') (hB : hi ≤ B) : OwnOps w' lo hi a n l :=
 h.kept fun j _ h2 => hb.block j (by omega)
theorem OwnOps.more {w : World} {lo hi lo' hi' : Nat} {a : Option Addr} {n : Nat} {l : List OpV} (h : OwnOps w lo hi a n l) (h1 : lo' ≤ lo) (h2 : hi ≤ hi') : OwnOps w lo' hi' a n l :=
 ⟨h.1, fun hn => by
  obtain ⟨g, off, cs, e, a1, a2, r⟩ := h.2 hn
  exact ⟨g, off, cs, e, by omega, by omega, r⟩⟩
theorem own_none (w : World) (lo hi : Nat) (a : Option Addr) : OwnOps w lo hi a 0 [] := ⟨rfl, fun h => absurd h (by omega)⟩
/-- Of the blocks that were there none has turned but those from lo up to hi. -/
structure Beside (lo hi : Nat) (w w' : World) : Prop where
 os : w'.os = w.os
 tape : w'.tape = w.tape
 output : w'.output = w.output
 size : w.heap.size ≤ w'.heap.size
 block : ∀ j, j < w.heap.size → (j < lo ∨ hi ≤ j) → w'.heap[j]? = w.heap[j]?
theorem Beside.refl (lo hi : Nat) (w : World) : Beside lo hi w w := ⟨rfl, rfl, rfl, Nat.le_refl _, fun _ _ _ => rfl⟩
theorem Beside.step {lo hi : Nat} {w w1 w2 : World} (h : Beside lo hi w w1) (hb : Below w1.heap.size w1 w2) : Beside lo hi w w2 :=
 ⟨hb.os.trans h.os, hb.tape.trans h.tape, hb.output.trans h.output, Nat.le_trans h.size hb.size, fun j h1 h2 => (hb.block j (by have := h.size; omega)).trans (h.block j h1 h2)⟩
theorem Beside.put {w wr : World} {g i : Nat} {v : Value} (h : Beside g (g + 1) w wr) : Beside g (g + 1) w (wr.setCell ⟨g, i, none⟩ v) :=
 ⟨h.os, h.tape, h.output, by simpa [World.setCell] using h.size, fun j h1 h2 => (heap_setCell_other _ _ _ _ (by show j ≠ g; omega)).trans (h.block j h1 h2)⟩
theorem Beside.wide {lo hi lo' hi' : Nat} {w w' : World} (h : Beside lo hi w w') (h1 : lo' ≤ lo) (h2 : hi ≤ hi') : Beside lo' hi' w w' :=
 ⟨h.os, h.tape, h.output, h.size, fun j a b => h.block j a (by omega)⟩
theorem Beside.below {lo hi B : Nat} {w w' : World} (h : Beside lo hi w w') (hB : B ≤ lo) (hw : B ≤ w.heap.size) : Below B w w' := ⟨h.os, h.tape, h.output, h.size, fun k hk => h.block k (by omega) (.inl (by omega))⟩
theorem OwnOps.beside {w w' : World} {lo hi lo' hi' : Nat} {a : Option Addr} {n : Nat} {l : List OpV} (h : OwnOps w lo hi a n l) (hb : Beside lo' hi' w w') (hd : hi ≤ lo' ∨ hi' ≤ lo) (hw : hi ≤ w.heap.size) : OwnOps w' lo hi a n l :=
 h.kept fun j h1 h2 => hb.block j (by omega) (by omega)
theorem Ops.beside {w w' : World} {lo hi B : Nat} {a : Option Addr} {n : Nat} {l : List OpV} (h : Ops w B a n l) (hb : Beside lo hi w w') (hd : B ≤ lo) (hw : B ≤ w.heap.size) : Ops w' B a n l :=
 h.kept fun j h1 => hb.block j (by omega) (.inl (by omega))

/-- The text of a mark: the letter m and the digits of a number. -/
def digs : Nat → Nat → ByteArray → ByteArray
 | 0, _, out => out
 | f + 1, k, out => if k = 0 then out else digs f (k / 10) (strOfNums [48 + (k : Int) % 10] ++ out)
def mkT (m : Nat) : ByteArray := ⟨#[109]⟩ ++ digs m m ⟨#[]⟩
/-- What markOpS leaves in an operation. -/
def markOp (K : Nat) : OpV := ⟨((K : Nat) : Int), ((K + 1 : Nat) : Int), ((K + 2 : Nat) : Int), ((K + 3 : Nat) : Int), mkT (K + 4), ((K + 5 : Nat) : Int), ((K + 6 : Nat) : Int), ((K + 7 : Nat) : Int)⟩
def mval (K u : Nat) : Value := if u = 4 then .string (mkT (K + 4)) else .int .i64 ((K + u : Nat) : Int)
theorem opIn_of_mvals {cs : Array Value} {off K : Nat} (h : ∀ u, u < 8 → cs[off + u]? = some (mval K u)) : OpIn cs off (markOp K) :=
 ⟨h 0 (by omega), h 1 (by omega), h 2 (by omega), h 3 (by omega), h 4 (by omega), h 5 (by omega), h 6 (by omega), h 7 (by omega)⟩
/-- How far markOpS has come: j operations are marked, and f fields of the next one. -/
structure MS (g off n k j f : Nat) (w wr : World) : Prop where
 bes : Beside g (g + 1) w wr
 row : ∃ cs : Array Value, wr.heap[g]? = some (.cells cs 84 (0, 0)) ∧ off + n * 8 ≤ cs.size ∧ (∀ t, t < j → OpIn cs (off + t * 8) (markOp (k + 8 * t))) ∧ ∀ u, u < f → cs[off + j * 8 + u]? = some (mval (k + 8 * j) u)
theorem MS.step {g off n k j f : Nat} {w w1 w2 : World} (h : MS g off n k j f w w1) (hb : Below w1.heap.size w1 w2) : MS g off n k j f w w2 := by
 obtain ⟨hbs, cs, hg, r⟩ := h
 exact ⟨hbs.step hb, cs, (hb.block _ (Array.getElem?_eq_some_iff.1 hg).1).trans hg, r⟩
theorem MS.cell {g off n k j f : Nat} {w wr : World} (h : MS g off n k j f w wr) (hj : j < n) (u : Nat) (hu : u < 8) : (∃ v, wr.cell? ⟨g, off + j * 8 + u, none⟩ = some v) ∧ wr.frozen? ⟨g, off + j * 8 + u, none⟩ = false := by
 obtain ⟨_, cs, hg, hs, _⟩ := h
 exact ⟨⟨cs[off + j * 8 + u]'(by omega), (cell_of_row _ _ _ _ _ _ hg).trans (Array.getElem?_eq_getElem (by omega))⟩, frozen_of_row _ _ _ _ _ hg⟩
theorem opIn_far {cs : Array Value} {off m : Nat} {o : OpV} {v : Value} (h : OpIn cs off o) (hm : m < off ∨ off + 8 ≤ m) : OpIn (cs.setIfInBounds m v) off o := by
 obtain ⟨h0, h1, h2, h3, h4, h5, h6, h7⟩ := h
 exact ⟨(Array.getElem?_setIfInBounds_ne (by omega)).trans h0, (Array.getElem?_setIfInBounds_ne (by omega)).trans h1, (Array.getElem?_setIfInBounds_ne (by omega)).trans h2, (Array.getElem?_setIfInBounds_ne (by omega)).trans h3, (Array.getElem?_setIfInBounds_ne (by omega)).trans h4, (Array.getElem?_setIfInBounds_ne (by omega)).trans h5, (Array.getElem?_setIfInBounds_ne (by omega)).trans h6, (Array.getElem?_setIfInBounds_ne (by omega)).trans h7⟩
theorem MS.put {g off n k j f : Nat} {w wr : World} (h : MS g off n k j f w wr) (hj : j < n) (hf : f < 8) {v : Value} (hv : v = mval (k + 8 * j) f) : MS g off n k j (f + 1) w (wr.setCell ⟨g, off + j * 8 + f, none⟩ v) := by
 obtain ⟨hbs, cs, hg, hs, ho, hu⟩ := h
 refine ⟨hbs.put, cs.setIfInBounds (off + j * 8 + f) v, heap_setCell_same _ _ _ _ _ _ hg, by simpa using hs, fun t ht => opIn_far (ho t ht) (by omega), fun u hu' => ?_⟩
 rw [Array.getElem?_setIfInBounds]
 by_cases e : f = u
 ·subst e
  rw [if_pos rfl, if_pos (by omega), hv]
 ·rw [if_neg (by omega)]
  exact hu u (by omega)
theorem MS.next {g off n k j : Nat} {w wr : World} (h : MS g off n k j 8 w wr) : MS g off n k (j + 1) 0 w wr := by
 obtain ⟨hbs, cs, hg, hs, ho, hu⟩ := h
 refine ⟨hbs, cs, hg, hs, fun t ht => ?_, fun u hu' => absurd hu' (by omega)⟩
 rcases Nat.lt_or_ge t j with h1 | h1
 ·exact ho t h1
 ·obtain rfl : t = j := by omega
  exact opIn_of_mvals hu
set_option linter.unusedVariables false
/-- The cells of an element in a row. -/
def LnIn (cs : Array Value) (off : Nat) (o : LnV) : Prop := cs[off]? = some (.string o.item) ∧ cs[off + 1]? = some (.int .i64 o.qty) ∧ cs[off + 2]? = some (.bool o.saved)
theorem LnIn.at {w : World} {g off : Nat} {T : TypeId} {cs : Array Value} {o : LnV} (hg : w.heap[g]? = some (.cells cs T (0, 0))) (h : LnIn cs off o) : LnAt w g off o := by
 obtain ⟨h0, h1, h2⟩ := h
 exact ⟨(cell_of_row _ _ _ _ _ _ hg).trans h0, (cell_of_row _ _ _ _ _ _ hg).trans h1, (cell_of_row _ _ _ _ _ _ hg).trans h2⟩
/-- A slice of them whose row, if it has elements, is a block between lo and hi. -/
def OwnLns (w : World) (lo hi : Nat) (a : Option Addr) (n : Nat) (l : List LnV) : Prop :=
 l.length = n ∧ (0 < n → ∃ g off cs, a = some ⟨g, off, none⟩ ∧ lo ≤ g ∧ g < hi ∧ w.heap[g]? = some (.cells cs 40 (0, 0)) ∧ off + n * 3 ≤ cs.size ∧ ∀ i, i < n → LnIn cs (off + i * 3) (l.getD i LnV.zero))
theorem OwnLns.rows {w : World} {lo hi : Nat} {a : Option Addr} {n : Nat} {l : List LnV} (h : OwnLns w lo hi a n l) : Lns w hi a n l :=
 ⟨h.1, fun i hi' => by
  obtain ⟨g, off, cs, e, _, h2, hg, _, hc⟩ := h.2 (by omega)
  exact ⟨g, off, e, h2, (hc i hi').at hg⟩⟩
theorem OwnLns.kept {w w' : World} {lo hi : Nat} {a : Option Addr} {n : Nat} {l : List LnV} (h : OwnLns w lo hi a n l) (hk : ∀ j, lo ≤ j → j < hi → w'.heap[j]? = w.heap[j]?) : OwnLns w' lo hi a n l :=
 ⟨h.1, fun hn => by
  obtain ⟨g, off, cs, e, h1, h2, hg, hs, hc⟩ := h.2 hn
  exact ⟨g, off, cs, e, h1, h2, (hk g h1 h2).trans hg, hs, hc⟩⟩
theorem OwnLns.below {w w' : World} {lo hi B : Nat} {a : Option Addr} {n : Nat} {l : List LnV} (h : OwnLns w lo hi a n l) (hb : Below B w w') (hB : hi ≤ B) : OwnLns w' lo hi a n l :=
 h.kept fun j _ h2 => hb.block j (by omega)
theorem OwnLns.more {w : World} {lo hi lo' hi' : Nat} {a : Option Addr} {n : Nat} {l : List LnV} (h : OwnLns w lo hi a n l) (h1 : lo' ≤ lo) (h2 : hi ≤ hi') : OwnLns w lo' hi' a n l :=
 ⟨h.1, fun hn => by
  obtain ⟨g, off, cs, e, a1, a2, r⟩ := h.2 hn
  exact ⟨g, off, cs, e, by omega, by omega, r⟩⟩
/-- What markLineS leaves in an element. -/
def markLnV (K : Nat) : LnV := ⟨mkT K, ((K + 1 : Nat) : Int), decide (((K + 2 : Nat) : Int) % 3 = 0)⟩
def mvalLn (K u : Nat) : Value := if u = 0 then .string (mkT K) else if u = 1 then .int .i64 ((K + 1 : Nat) : Int) else .bool (decide (((K + 2 : Nat) : Int) % 3 = 0))
theorem LnIn_of_mvals {cs : Array Value} {off K : Nat} (h : ∀ u, u < 3 → cs[off + u]? = some (mvalLn K u)) : LnIn cs off (markLnV K) := ⟨h 0 (by omega), h 1 (by omega), h 2 (by omega)⟩
/-- How far the marking has come: j elements, and f fields of the next one. -/
structure MLn (g off n k j f : Nat) (w wr : World) : Prop where
 bes : Beside g (g + 1) w wr
 row : ∃ cs : Array Value, wr.heap[g]? = some (.cells cs 40 (0, 0)) ∧ off + n * 3 ≤ cs.size ∧ (∀ t, t < j → LnIn cs (off + t * 3) (markLnV (k + 3 * t))) ∧ ∀ u, u < f → cs[off + j * 3 + u]? = some (mvalLn (k + 3 * j) u)
theorem MLn.step {g off n k j f : Nat} {w w1 w2 : World} (h : MLn g off n k j f w w1) (hb : Below w1.heap.size w1 w2) : MLn g off n k j f w w2 := by
 obtain ⟨hbs, cs, hg, r⟩ := h
 exact ⟨hbs.step hb, cs, (hb.block _ (Array.getElem?_eq_some_iff.1 hg).1).trans hg, r⟩
theorem MLn.cell {g off n k j f : Nat} {w wr : World} (h : MLn g off n k j f w wr) (hj : j < n) (u : Nat) (hu : u < 3) : (∃ v, wr.cell? ⟨g, off + j * 3 + u, none⟩ = some v) ∧ wr.frozen? ⟨g, off + j * 3 + u, none⟩ = false := by
 obtain ⟨_, cs, hg, hs, _⟩ := h
 exact ⟨⟨cs[off + j * 3 + u]'(by omega), (cell_of_row _ _ _ _ _ _ hg).trans (Array.getElem?_eq_getElem (by omega))⟩, frozen_of_row _ _ _ _ _ hg⟩
theorem LnIn_far {cs : Array Value} {off m : Nat} {o : LnV} {v : Value} (h : LnIn cs off o) (hm : m < off ∨ off + 3 ≤ m) : LnIn (cs.setIfInBounds m v) off o := by
 obtain ⟨h0, h1, h2⟩ := h
 exact ⟨(Array.getElem?_setIfInBounds_ne (by omega)).trans h0, (Array.getElem?_setIfInBounds_ne (by omega)).trans h1, (Array.getElem?_setIfInBounds_ne (by omega)).trans h2⟩
theorem MLn.put {g off n k j f : Nat} {w wr : World} (h : MLn g off n k j f w wr) (hj : j < n) (hf : f < 3) {v : Value} (hv : v = mvalLn (k + 3 * j) f) : MLn g off n k j (f + 1) w (wr.setCell ⟨g, off + j * 3 + f, none⟩ v) := by
 obtain ⟨hbs, cs, hg, hs, ho, hu⟩ := h
 refine ⟨hbs.put, cs.setIfInBounds (off + j * 3 + f) v, heap_setCell_same _ _ _ _ _ _ hg, by simpa using hs, fun t ht => LnIn_far (ho t ht) (by omega), fun u hu' => ?_⟩
 rw [Array.getElem?_setIfInBounds]
 by_cases e : f = u
 ·subst e
  rw [if_pos rfl, if_pos (by omega), hv]
 ·rw [if_neg (by omega)]
  exact hu u (by omega)
theorem MLn.next {g off n k j : Nat} {w wr : World} (h : MLn g off n k j 3 w wr) : MLn g off n k (j + 1) 0 w wr := by
 obtain ⟨hbs, cs, hg, hs, ho, hu⟩ := h
 refine ⟨hbs, cs, hg, hs, fun t ht => ?_, fun u hu' => absurd hu' (by omega)⟩
 rcases Nat.lt_or_ge t j with h1 | h1
 ·exact ho t h1
 ·obtain rfl : t = j := by omega
  exact LnIn_of_mvals hu
set_option linter.unusedVariables false
/-- The cells of an element in a row. -/
def RwIn (cs : Array Value) (off : Nat) (o : RwV) : Prop := cs[off]? = some (.string o.item) ∧ cs[off + 1]? = some (.int .i64 o.qty) ∧ cs[off + 2]? = some (.int .i64 o.cents)
theorem RwIn.at {w : World} {g off : Nat} {T : TypeId} {cs : Array Value} {o : RwV} (hg : w.heap[g]? = some (.cells cs T (0, 0))) (h : RwIn cs off o) : RwAt w g off o := by
 obtain ⟨h0, h1, h2⟩ := h
 exact ⟨(cell_of_row _ _ _ _ _ _ hg).trans h0, (cell_of_row _ _ _ _ _ _ hg).trans h1, (cell_of_row _ _ _ _ _ _ hg).trans h2⟩
/-- A slice of them whose row, if it has elements, is a block between lo and hi. -/
def OwnRws (w : World) (lo hi : Nat) (a : Option Addr) (n : Nat) (l : List RwV) : Prop :=
 l.length = n ∧ (0 < n → ∃ g off cs, a = some ⟨g, off, none⟩ ∧ lo ≤ g ∧ g < hi ∧ w.heap[g]? = some (.cells cs 42 (0, 0)) ∧ off + n * 3 ≤ cs.size ∧ ∀ i, i < n → RwIn cs (off + i * 3) (l.getD i RwV.zero))
theorem OwnRws.rows {w : World} {lo hi : Nat} {a : Option Addr} {n : Nat} {l : List RwV} (h : OwnRws w lo hi a n l) : Rws w hi a n l :=
 ⟨h.1, fun i hi' => by
  obtain ⟨g, off, cs, e, _, h2, hg, _, hc⟩ := h.2 (by omega)
  exact ⟨g, off, e, h2, (hc i hi').at hg⟩⟩
theorem OwnRws.kept {w w' : World} {lo hi : Nat} {a : Option Addr} {n : Nat} {l : List RwV} (h : OwnRws w lo hi a n l) (hk : ∀ j, lo ≤ j → j < hi → w'.heap[j]? = w.heap[j]?) : OwnRws w' lo hi a n l :=
 ⟨h.1, fun hn => by
  obtain ⟨g, off, cs, e, h1, h2, hg, hs, hc⟩ := h.2 hn
  exact ⟨g, off, cs, e, h1, h2, (hk g h1 h2).trans hg, hs, hc⟩⟩
theorem OwnRws.below {w w' : World} {lo hi B : Nat} {a : Option Addr} {n : Nat} {l : List RwV} (h : OwnRws w lo hi a n l) (hb : Below B w w') (hB : hi ≤ B) : OwnRws w' lo hi a n l :=
 h.kept fun j _ h2 => hb.block j (by omega)
theorem OwnRws.more {w : World} {lo hi lo' hi' : Nat} {a : Option Addr} {n : Nat} {l : List RwV} (h : OwnRws w lo hi a n l) (h1 : lo' ≤ lo) (h2 : hi ≤ hi') : OwnRws w lo' hi' a n l :=
 ⟨h.1, fun hn => by
  obtain ⟨g, off, cs, e, a1, a2, r⟩ := h.2 hn
  exact ⟨g, off, cs, e, by omega, by omega, r⟩⟩
theorem own_noRw (w : World) (lo hi : Nat) (a : Option Addr) : OwnRws w lo hi a 0 [] := ⟨rfl, fun h => absurd h (by omega)⟩
/-- What markRowS leaves in an element. -/
def markRwV (K : Nat) : RwV := ⟨mkT K, ((K + 1 : Nat) : Int), ((K + 2 : Nat) : Int)⟩
def mvalRw (K u : Nat) : Value := if u = 0 then .string (mkT K) else if u = 1 then .int .i64 ((K + 1 : Nat) : Int) else .int .i64 ((K + 2 : Nat) : Int)
/-- How far the marking has come: j elements, and f fields of the next one. -/
structure MRw (g off n k j f : Nat) (w wr : World) : Prop where
 bes : Beside g (g + 1) w wr
 row : ∃ cs : Array Value, wr.heap[g]? = some (.cells cs 42 (0, 0)) ∧ off + n * 3 ≤ cs.size ∧ (∀ t, t < j → RwIn cs (off + t * 3) (markRwV (k + 3 * t))) ∧ ∀ u, u < f → cs[off + j * 3 + u]? = some (mvalRw (k + 3 * j) u)
theorem MRw.cell {g off n k j f : Nat} {w wr : World} (h : MRw g off n k j f w wr) (hj : j < n) (u : Nat) (hu : u < 3) : (∃ v, wr.cell? ⟨g, off + j * 3 + u, none⟩ = some v) ∧ wr.frozen? ⟨g, off + j * 3 + u, none⟩ = false := by
 obtain ⟨_, cs, hg, hs, _⟩ := h
 exact ⟨⟨cs[off + j * 3 + u]'(by omega), (cell_of_row _ _ _ _ _ _ hg).trans (Array.getElem?_eq_getElem (by omega))⟩, frozen_of_row _ _ _ _ _ hg⟩
theorem RwIn_far {cs : Array Value} {off m : Nat} {o : RwV} {v : Value} (h : RwIn cs off o) (hm : m < off ∨ off + 3 ≤ m) : RwIn (cs.setIfInBounds m v) off o := by
 obtain ⟨h0, h1, h2⟩ := h
 exact ⟨(Array.getElem?_setIfInBounds_ne (by omega)).trans h0, (Array.getElem?_setIfInBounds_ne (by omega)).trans h1, (Array.getElem?_setIfInBounds_ne (by omega)).trans h2⟩
theorem MRw.put {g off n k j f : Nat} {w wr : World} (h : MRw g off n k j f w wr) (hj : j < n) (hf : f < 3) {v : Value} (hv : v = mvalRw (k + 3 * j) f) : MRw g off n k j (f + 1) w (wr.setCell ⟨g, off + j * 3 + f, none⟩ v) := by
 obtain ⟨hbs, cs, hg, hs, ho, hu⟩ := h
 refine ⟨hbs.put, cs.setIfInBounds (off + j * 3 + f) v, heap_setCell_same _ _ _ _ _ _ hg, by simpa using hs, fun t ht => RwIn_far (ho t ht) (by omega), fun u hu' => ?_⟩
 rw [Array.getElem?_setIfInBounds]
 by_cases e : f = u
 ·subst e
  rw [if_pos rfl, if_pos (by omega), hv]
 ·rw [if_neg (by omega)]
  exact hu u (by omega)
end Go.Proofs.YtgagchlcafdiaaaGreat
