/- Walks and mathematics that several claims share, part 16. -/
import Derived.Test.YthkagbnpcjidfaaGreatDoorGu10
import Derived.Test.YthkagbnpcjidfaaGreatDoorGu13
import Derived.Test.YthkagbnpcjidfaaGreatDoorGu15
import Derived.Deep.AppendLies
import Derived.Lib.SliceRun
import Derived.Laws.BytesArg
import Derived.Deep.RegionHeld3
import Derived.Deep.Cut
import Derived.RegionTactic
import Derived.Handy
import Derived.Below
import Derived.Laws.EntriesVeiled
import Derived.Laws.Cover3
namespace Go.Proofs.YthkagbnpcjidfaaGreatDoor
open Go.RowKit
set_option linter.unusedVariables false
set_option linter.unusedSimpArgs false
def U1 (cs : Array Value) (off : Nat) (o : aA) : Prop := cs[off]? = some (.int .i64 o.dev) ∧ cs[off + 1]? = some (.int .i64 o.seq) ∧ cs[off + 2]? = some (.int .i64 o.stamp) ∧ cs[off + 3]? = some (.int .i64 o.kind) ∧ cs[off + 4]? = some (.string o.item) ∧ cs[off + 5]? = some (.int .i64 o.qty) ∧ cs[off + 6]? = some (.int .i64 o.level) ∧ cs[off + 7]? = some (.int .i64 o.undos)
theorem U1.at {w : World} {g off : Nat} {T : TypeId} {cs : Array Value} {o : aA} (hg : w.heap[g]? = some (.cells cs T (0, 0))) (h : U1 cs off o) : wJ w g off o := by
 obtain ⟨h0, h1, h2, h3, h4, h5, h6, h7⟩ := h
 exact ⟨(aPr hg).trans h0, (aPr hg).trans h1, (aPr hg).trans h2, (aPr hg).trans h3, (aPr hg).trans h4, (aPr hg).trans h5, (aPr hg).trans h6, (aPr hg).trans h7⟩
def bB (w : World) (lo hi : Nat) (a : Option Addr) (n : Nat) (l : List aA) : Prop :=
 l.length = n ∧ (0 < n → ∃ g off cs, a = some ⟨g, off, none⟩ ∧ lo ≤ g ∧ g < hi ∧ w.heap[g]? = some (.cells cs 50 (0, 0)) ∧ off + n * 8 ≤ cs.size ∧ ∀ i, i < n → U1 cs (off + i * 8) (l.getD i aA.zero))
theorem bB.ops {w : World} {lo hi : Nat} {a : Option Addr} {n : Nat} {l : List aA} (h : bB w lo hi a n l) : bP w hi a n l :=
 ⟨h.1, fun i hi' => by
  obtain ⟨g, off, cs, e, _, h2, hg, _, hc⟩ := h.2 (by omega)
  exact ⟨g, off, e, h2, (hc i hi').at hg⟩⟩
theorem bB.kept {w w' : World} {lo hi : Nat} {a : Option Addr} {n : Nat} {l : List aA} (h : bB w lo hi a n l) (hk : ∀ j, lo ≤ j → j < hi → w'.heap[j]? = w.heap[j]?) : bB w' lo hi a n l :=
 ⟨h.1, fun hn => by
  obtain ⟨g, off, cs, e, h1, h2, hg, hs, hc⟩ := h.2 hn; exact ⟨g, off, cs, e, h1, h2, (hk g h1 h2).trans hg, hs, hc⟩⟩
theorem bB.below {w w' : World} {lo hi B : Nat} {a : Option Addr} {n : Nat} {l : List aA} (h : bB w lo hi a n l) (hb : Below B w w') (hB : hi ≤ B) : bB w' lo hi a n l :=
 h.kept fun j _ h2 => hb.block j (by omega)
theorem bB.more {w : World} {lo hi lo' hi' : Nat} {a : Option Addr} {n : Nat} {l : List aA} (h : bB w lo hi a n l) (h1 : lo' ≤ lo) (h2 : hi ≤ hi') : bB w lo' hi' a n l :=
 ⟨h.1, fun hn => by
  obtain ⟨g, off, cs, e, a1, a2, r⟩ := h.2 hn; exact ⟨g, off, cs, e, by omega, by omega, r⟩⟩
theorem fH (w : World) (lo hi : Nat) (a : Option Addr) : bB w lo hi a 0 [] := ⟨rfl, fun h => absurd h (by omega)⟩
def Y4 (l : List aA) (w : World) (e : Ending) (w' : World) : Prop := ∃ a c, e = .returned (.slice a l.length c) ∧ bB w' w.heap.size w'.heap.size a l.length l ∧ Below w.heap.size w w'
structure fN (lo hi : Nat) (w w' : World) : Prop where
 os : w'.os = w.os
 tape : w'.tape = w.tape
 output : w'.output = w.output
 size : w.heap.size ≤ w'.heap.size
 block : ∀ j, j < w.heap.size → (j < lo ∨ hi ≤ j) → w'.heap[j]? = w.heap[j]?
theorem fN.refl (lo hi : Nat) (w : World) : fN lo hi w w := ⟨rfl, rfl, rfl, Nat.le_refl _, fun _ _ _ => rfl⟩
theorem fN.step {lo hi : Nat} {w w1 w2 : World} (h : fN lo hi w w1) (hb : Below w1.heap.size w1 w2) : fN lo hi w w2 :=
 ⟨hb.os.trans h.os, hb.tape.trans h.tape, hb.output.trans h.output, Nat.le_trans h.size hb.size, fun j h1 h2 => (hb.block j (by have := h.size; omega)).trans (h.block j h1 h2)⟩
theorem fN.put {w wr : World} {g i : Nat} {v : Value} (h : fN g (g + 1) w wr) : fN g (g + 1) w (wr.setCell ⟨g, i, none⟩ v) :=
 ⟨h.os, h.tape, h.output, by simpa [World.setCell] using h.size, fun j h1 h2 => (heap_setCell_other _ _ _ _ (by show j ≠ g; omega)).trans (h.block j h1 h2)⟩
theorem fN.wide {lo hi lo' hi' : Nat} {w w' : World} (h : fN lo hi w w') (h1 : lo' ≤ lo) (h2 : hi ≤ hi') : fN lo' hi' w w' :=
 ⟨h.os, h.tape, h.output, h.size, fun j a b => h.block j a (by omega)⟩
theorem fN.below {lo hi B : Nat} {w w' : World} (h : fN lo hi w w') (hB : B ≤ lo) (hw : B ≤ w.heap.size) : Below B w w' := ⟨h.os, h.tape, h.output, h.size, fun k hk => h.block k (by omega) (.inl (by omega))⟩
theorem bB.beside {w w' : World} {lo hi lo' hi' : Nat} {a : Option Addr} {n : Nat} {l : List aA} (h : bB w lo hi a n l) (hb : fN lo' hi' w w') (hd : hi ≤ lo' ∨ hi' ≤ lo) (hw : hi ≤ w.heap.size) : bB w' lo hi a n l :=
 h.kept fun j h1 h2 => hb.block j (by omega) (by omega)
theorem bP.beside {w w' : World} {lo hi B : Nat} {a : Option Addr} {n : Nat} {l : List aA} (h : bP w B a n l) (hb : fN lo hi w w') (hd : B ≤ lo) (hw : B ≤ w.heap.size) : bP w' B a n l :=
 h.kept fun j h1 => hb.block j (by omega) (.inl (by omega))
def aLT : Nat → Nat → ByteArray → ByteArray
 | 0, _, out => out
 | f + 1, k, out => if k = 0 then out else aLT f (k / 10) (strOfNums [48 + (k : Int) % 10] ++ out)
def mkT (m : Nat) : ByteArray := ⟨#[109]⟩ ++ aLT m m ⟨#[]⟩
def aGF (K : Nat) : aA := ⟨((K : Nat) : Int), ((K + 1 : Nat) : Int), ((K + 2 : Nat) : Int), ((K + 3 : Nat) : Int), mkT (K + 4), ((K + 5 : Nat) : Int), ((K + 6 : Nat) : Int), ((K + 7 : Nat) : Int)⟩
def aHY (K u : Nat) : Value := if u = 4 then .string (mkT (K + 4)) else .int .i64 ((K + u : Nat) : Int)
theorem aB5 {cs : Array Value} {off K : Nat} (h : ∀ u, u < 8 → cs[off + u]? = some (aHY K u)) : U1 cs off (aGF K) :=
 ⟨h 0 (by omega), h 1 (by omega), h 2 (by omega), h 3 (by omega), h 4 (by omega), h 5 (by omega), h 6 (by omega), h 7 (by omega)⟩
structure MS (g off n k j f : Nat) (w wr : World) : Prop where
 bes : fN g (g + 1) w wr
 row : ∃ cs : Array Value, wr.heap[g]? = some (.cells cs 50 (0, 0)) ∧ off + n * 8 ≤ cs.size ∧ (∀ t, t < j → U1 cs (off + t * 8) (aGF (k + 8 * t))) ∧ ∀ u, u < f → cs[off + j * 8 + u]? = some (aHY (k + 8 * j) u)
theorem MS.step {g off n k j f : Nat} {w w1 w2 : World} (h : MS g off n k j f w w1) (hb : Below w1.heap.size w1 w2) : MS g off n k j f w w2 := by
 obtain ⟨tU, cs, hg, r⟩ := h
 exact ⟨tU.step hb, cs, (hb.block _ (aPp hg).1).trans hg, r⟩
theorem MS.cell {g off n k j f : Nat} {w wr : World} (h : MS g off n k j f w wr) (hj : j < n) (u : Nat) (hu : u < 8) : (∃ v, wr.cell? ⟨g, off + j * 8 + u, none⟩ = some v) ∧ wr.frozen? ⟨g, off + j * 8 + u, none⟩ = false := by
 obtain ⟨_, cs, hg, hs, _⟩ := h
 exact ⟨⟨cs[off + j * 8 + u]'(by omega), (aPr hg).trans (Array.getElem?_eq_getElem (by omega))⟩, aPs hg⟩
theorem aCw {cs : Array Value} {off m : Nat} {o : aA} {v : Value} (h : U1 cs off o) (hm : m < off ∨ off + 8 ≤ m) : U1 (cs.setIfInBounds m v) off o := by
 obtain ⟨h0, h1, h2, h3, h4, h5, h6, h7⟩ := h
 exact ⟨(Array.getElem?_setIfInBounds_ne (by omega)).trans h0, (Array.getElem?_setIfInBounds_ne (by omega)).trans h1, (Array.getElem?_setIfInBounds_ne (by omega)).trans h2, (Array.getElem?_setIfInBounds_ne (by omega)).trans h3, (Array.getElem?_setIfInBounds_ne (by omega)).trans h4, (Array.getElem?_setIfInBounds_ne (by omega)).trans h5, (Array.getElem?_setIfInBounds_ne (by omega)).trans h6, (Array.getElem?_setIfInBounds_ne (by omega)).trans h7⟩
theorem MS.put {g off n k j f : Nat} {w wr : World} (h : MS g off n k j f w wr) (hj : j < n) (hf : f < 8) {v : Value} (hv : v = aHY (k + 8 * j) f) : MS g off n k j (f + 1) w (wr.setCell ⟨g, off + j * 8 + f, none⟩ v) := by
 obtain ⟨tU, cs, hg, hs, ho, hu⟩ := h
 refine ⟨tU.put, cs.setIfInBounds (off + j * 8 + f) v, heap_setCell_same _ _ _ _ _ _ hg, by simpa using hs, fun t ht => aCw (ho t ht) (by omega), fun u hu' => ?_⟩
 rw [Array.getElem?_setIfInBounds]
 by_cases e : f = u
 ·subst e
  rw [if_pos rfl, if_pos (by omega), hv]
 ·rw [if_neg (by omega)]
  exact hu u (by omega)
theorem MS.next {g off n k j : Nat} {w wr : World} (h : MS g off n k j 8 w wr) : MS g off n k (j + 1) 0 w wr := by
 obtain ⟨tU, cs, hg, hs, ho, hu⟩ := h
 refine ⟨tU, cs, hg, hs, fun t ht => ?_, fun u hu' => absurd hu' (by omega)⟩
 rcases Nat.lt_or_ge t j with h1 | h1
 ·exact ho t h1
 ·obtain rfl : t = j := by omega
  exact aB5 hu
structure aS where
 item : ByteArray
 qty : Int
 saved : Bool
def aS.zero : aS := ⟨⟨#[]⟩, 0, false⟩
def aBw (w : World) (b off : Nat) (o : aS) : Prop := w.cell? ⟨b, off, none⟩ = some (.string o.item) ∧ w.cell? ⟨b, off + 1, none⟩ = some (.int .i64 o.qty) ∧ w.cell? ⟨b, off + 2, none⟩ = some (.bool o.saved)
theorem aBw.kept {w w' : World} {b off : Nat} {o : aS} (h : aBw w b off o) (hb : w'.heap[b]? = w.heap[b]?) : aBw w' b off o := by
 obtain ⟨h0, h1, h2⟩ := h
 exact ⟨(World.cell?_of_block (a := ⟨b, off, none⟩) hb).trans h0, (World.cell?_of_block (a := ⟨b, off + 1, none⟩) hb).trans h1, (World.cell?_of_block (a := ⟨b, off + 2, none⟩) hb).trans h2⟩
def zD (w : World) (B : Nat) (a : Option Addr) (n : Nat) (l : List aS) : Prop :=
 l.length = n ∧ ∀ i, i < n → ∃ b off, a = some ⟨b, off, none⟩ ∧ b < B ∧ aBw w b (off + i * 3) (l.getD i aS.zero)
theorem zD.kept {w w' : World} {B : Nat} {a : Option Addr} {n : Nat} {l : List aS} (h : zD w B a n l) (hk : ∀ k, k < B → w'.heap[k]? = w.heap[k]?) : zD w' B a n l :=
 ⟨h.1, fun i hi => by obtain ⟨b, off, e, hb, ho⟩ := h.2 i hi; exact ⟨b, off, e, hb, ho.kept (hk b hb)⟩⟩
theorem zD.below {w w' : World} {B B' : Nat} {a : Option Addr} {n : Nat} {l : List aS} (h : zD w B a n l) (hb : Below B' w w') (hB : B ≤ B') : zD w' B a n l :=
 h.kept fun k hk => hb.block k (by omega)
theorem zD.more {w : World} {B B' : Nat} {a : Option Addr} {n : Nat} {l : List aS} (h : zD w B a n l) (hB : B ≤ B') : zD w B' a n l :=
 ⟨h.1, fun i hi => by obtain ⟨b, off, e, hb, ho⟩ := h.2 i hi; exact ⟨b, off, e, by omega, ho⟩⟩
def numB (d q d' q' : Int) : Bool := decide (d < d' ∨ (d = d' ∧ q < q'))
def aCc (l : List aA) (i : Nat) : Bool := decide (i = 0) || numB (aC l (i - 1)).dev (aC l (i - 1)).seq (aC l i).dev (aC l i).seq
def R5 (l : List aA) : Bool := (List.range l.length).all (aCc l)
theorem aKp {l : List aA} (h : ∀ i, i < l.length → aCc l i = true) : R5 l = true := by
 unfold R5
 rw [List.all_eq_true]
 intro d hm
 exact h d (by simpa using hm)
theorem four {xs : List Int} (h : cJ xs = true) : ∃ x0 x1 x2 x3, xs = [x0, x1, x2, x3] := by
 have h4 : xs.length = 4 := by unfold cJ at h; simp only [Bool.and_eq_true, decide_eq_true_eq] at h; exact h.2
 match xs, h4 with
 | [x0, x1, x2, x3], _ => exact ⟨x0, x1, x2, x3, rfl⟩
def tE (cs : Array Value) (off : Nat) (o : aS) : Prop := cs[off]? = some (.string o.item) ∧ cs[off + 1]? = some (.int .i64 o.qty) ∧ cs[off + 2]? = some (.bool o.saved)
theorem tE.at {w : World} {g off : Nat} {T : TypeId} {cs : Array Value} {o : aS} (hg : w.heap[g]? = some (.cells cs T (0, 0))) (h : tE cs off o) : aBw w g off o := by
 obtain ⟨h0, h1, h2⟩ := h
 exact ⟨(aPr hg).trans h0, (aPr hg).trans h1, (aPr hg).trans h2⟩
def kI (w : World) (lo hi : Nat) (a : Option Addr) (n : Nat) (l : List aS) : Prop :=
 l.length = n ∧ (0 < n → ∃ g off cs, a = some ⟨g, off, none⟩ ∧ lo ≤ g ∧ g < hi ∧ w.heap[g]? = some (.cells cs 39 (0, 0)) ∧ off + n * 3 ≤ cs.size ∧ ∀ i, i < n → tE cs (off + i * 3) (l.getD i aS.zero))
theorem kI.rows {w : World} {lo hi : Nat} {a : Option Addr} {n : Nat} {l : List aS} (h : kI w lo hi a n l) : zD w hi a n l :=
 ⟨h.1, fun i hi' => by
  obtain ⟨g, off, cs, e, _, h2, hg, _, hc⟩ := h.2 (by omega)
  exact ⟨g, off, e, h2, (hc i hi').at hg⟩⟩
theorem kI.kept {w w' : World} {lo hi : Nat} {a : Option Addr} {n : Nat} {l : List aS} (h : kI w lo hi a n l) (hk : ∀ j, lo ≤ j → j < hi → w'.heap[j]? = w.heap[j]?) : kI w' lo hi a n l :=
 ⟨h.1, fun hn => by
  obtain ⟨g, off, cs, e, h1, h2, hg, hs, hc⟩ := h.2 hn; exact ⟨g, off, cs, e, h1, h2, (hk g h1 h2).trans hg, hs, hc⟩⟩
theorem kI.below {w w' : World} {lo hi B : Nat} {a : Option Addr} {n : Nat} {l : List aS} (h : kI w lo hi a n l) (hb : Below B w w') (hB : hi ≤ B) : kI w' lo hi a n l :=
 h.kept fun j _ h2 => hb.block j (by omega)
theorem kI.more {w : World} {lo hi lo' hi' : Nat} {a : Option Addr} {n : Nat} {l : List aS} (h : kI w lo hi a n l) (h1 : lo' ≤ lo) (h2 : hi ≤ hi') : kI w lo' hi' a n l :=
 ⟨h.1, fun hn => by
  obtain ⟨g, off, cs, e, a1, a2, r⟩ := h.2 hn; exact ⟨g, off, cs, e, by omega, by omega, r⟩⟩
def aHu (l : List aS) (w : World) (e : Ending) (w' : World) : Prop := ∃ a c, e = .returned (.slice a l.length c) ∧ kI w' w.heap.size w'.heap.size a l.length l ∧ Below w.heap.size w w'
theorem kI.beside {w w' : World} {lo hi lo' hi' : Nat} {a : Option Addr} {n : Nat} {l : List aS} (h : kI w lo hi a n l) (hb : fN lo' hi' w w') (hd : hi ≤ lo' ∨ hi' ≤ lo) (hw : hi ≤ w.heap.size) : kI w' lo hi a n l :=
 h.kept fun j h1 h2 => hb.block j (by omega) (by omega)
def aEA (K : Nat) : aS := ⟨mkT K, ((K + 1 : Nat) : Int), decide (((K + 2 : Nat) : Int) % 3 = 0)⟩
def aCA (K u : Nat) : Value := if u = 0 then .string (mkT K) else if u = 1 then .int .i64 ((K + 1 : Nat) : Int) else .bool (decide (((K + 2 : Nat) : Int) % 3 = 0))
theorem aCa {cs : Array Value} {off K : Nat} (h : ∀ u, u < 3 → cs[off + u]? = some (aCA K u)) : tE cs off (aEA K) := ⟨h 0 (by omega), h 1 (by omega), h 2 (by omega)⟩
structure U3 (g off n k j f : Nat) (w wr : World) : Prop where
 bes : fN g (g + 1) w wr
 row : ∃ cs : Array Value, wr.heap[g]? = some (.cells cs 39 (0, 0)) ∧ off + n * 3 ≤ cs.size ∧ (∀ t, t < j → tE cs (off + t * 3) (aEA (k + 3 * t))) ∧ ∀ u, u < f → cs[off + j * 3 + u]? = some (aCA (k + 3 * j) u)
theorem U3.step {g off n k j f : Nat} {w w1 w2 : World} (h : U3 g off n k j f w w1) (hb : Below w1.heap.size w1 w2) : U3 g off n k j f w w2 := by
 obtain ⟨tU, cs, hg, r⟩ := h
 exact ⟨tU.step hb, cs, (hb.block _ (aPp hg).1).trans hg, r⟩
theorem U3.cell {g off n k j f : Nat} {w wr : World} (h : U3 g off n k j f w wr) (hj : j < n) (u : Nat) (hu : u < 3) : (∃ v, wr.cell? ⟨g, off + j * 3 + u, none⟩ = some v) ∧ wr.frozen? ⟨g, off + j * 3 + u, none⟩ = false := by
 obtain ⟨_, cs, hg, hs, _⟩ := h
 exact ⟨⟨cs[off + j * 3 + u]'(by omega), (aPr hg).trans (Array.getElem?_eq_getElem (by omega))⟩, aPs hg⟩
theorem aIZ {cs : Array Value} {off m : Nat} {o : aS} {v : Value} (h : tE cs off o) (hm : m < off ∨ off + 3 ≤ m) : tE (cs.setIfInBounds m v) off o := by
 obtain ⟨h0, h1, h2⟩ := h
 exact ⟨(Array.getElem?_setIfInBounds_ne (by omega)).trans h0, (Array.getElem?_setIfInBounds_ne (by omega)).trans h1, (Array.getElem?_setIfInBounds_ne (by omega)).trans h2⟩
theorem U3.put {g off n k j f : Nat} {w wr : World} (h : U3 g off n k j f w wr) (hj : j < n) (hf : f < 3) {v : Value} (hv : v = aCA (k + 3 * j) f) : U3 g off n k j (f + 1) w (wr.setCell ⟨g, off + j * 3 + f, none⟩ v) := by
 obtain ⟨tU, cs, hg, hs, ho, hu⟩ := h
 refine ⟨tU.put, cs.setIfInBounds (off + j * 3 + f) v, heap_setCell_same _ _ _ _ _ _ hg, by simpa using hs, fun t ht => aIZ (ho t ht) (by omega), fun u hu' => ?_⟩
 rw [Array.getElem?_setIfInBounds]
 by_cases e : f = u
 ·subst e
  rw [if_pos rfl, if_pos (by omega), hv]
 ·rw [if_neg (by omega)]
  exact hu u (by omega)
theorem U3.next {g off n k j : Nat} {w wr : World} (h : U3 g off n k j 3 w wr) : U3 g off n k (j + 1) 0 w wr := by
 obtain ⟨tU, cs, hg, hs, ho, hu⟩ := h
 refine ⟨tU, cs, hg, hs, fun t ht => ?_, fun u hu' => absurd hu' (by omega)⟩
 rcases Nat.lt_or_ge t j with h1 | h1
 ·exact ho t h1
 ·obtain rfl : t = j := by omega
  exact aCa hu
structure OpD (w w1 : World) (B g : Nat) (a : Option Addr) (len cap bo : Nat) (cs : Array Value) : Prop where
 res : w1.heap[w.heap.size]? = some (.cells #[.int .i64 0, .int .i64 0, .int .i64 0, .int .i64 0, .string ⟨#[]⟩, .int .i64 0, .int .i64 0, .int .i64 0] 50 (0, 0))
 opr : w1.heap[bo]? = some (.cells cs 50 (0, 0))
 own : w.heap.size < bo
 gr : w.grownBy w1 (some g)
 rd : Rd w1 B g a len cap
theorem OpD.next {w w1 w2 : World} {B g : Nat} {a : Option Addr} {len cap bo : Nat} {cs : Array Value} (h : OpD w w1 B g a len cap bo cs) (aJ : g < w.heap.size) (hg : w1.grownBy w2 (some g)) (hr : Rd w2 B g a len cap) : OpD w w2 B g a len cap bo cs :=
 ⟨(hg.block _ (aPp h.res).1 (by simp; omega)).trans h.res, (hg.block _ (aPp h.opr).1 (by have := h.own; simp; omega)).trans h.opr, h.own, h.gr.trans hg, hr⟩
theorem OpD.put {w w1 : World} {B g : Nat} {a : Option Addr} {len cap bo : Nat} {cs : Array Value} (h : OpD w w1 B g a len cap bo cs) (hB : B ≤ w.heap.size) (aJ : g < w.heap.size) (i : Nat) (v : Value) : OpD w (w1.setCell ⟨bo, i, none⟩ v) B g a len cap bo (cs.setIfInBounds i v) :=
 have aU := h.own
 ⟨(heap_setCell_other _ _ _ _ (by show w.heap.size ≠ bo; omega)).trans h.res, heap_setCell_same _ _ _ _ _ _ h.opr, h.own,
  ⟨h.gr.os, h.gr.tape, h.gr.output, Nat.le_trans h.gr.size (by simp [World.setCell]), fun k hk bO => (heap_setCell_other _ _ _ _ (by show k ≠ bo; omega)).trans (h.gr.block k hk bO)⟩,
  h.rd.kept fun k hk => heap_setCell_other _ _ _ _ (by show k ≠ bo; omega)⟩
theorem Res.next {w w1 w2 : World} {g : Nat} {cs : Array Value} {T : TypeId} (h : w1.heap[w.heap.size]? = some (.cells cs T (0, 0))) (hg : w1.grownBy w2 (some g)) (aJ : g < w.heap.size) : w2.heap[w.heap.size]? = some (.cells cs T (0, 0)) :=
 (hg.block _ (aPp h).1 (by simp; omega)).trans h
end Go.Proofs.YthkagbnpcjidfaaGreatDoor
