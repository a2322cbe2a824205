/- Walks and mathematics that several claims share, part 16. -/
import Derived.Test.YthkagbnpcjidfaaGreatDoorGp13
import Derived.Test.YthkagbnpcjidfaaGreatDoorGp15
import Derived.Deep.AppendLies
import Derived.Lib.SliceRun
import Derived.Laws.BytesArg
import Derived.Deep.RegionHeld3
import Derived.Deep.Cut
import Derived.RegionTactic
import Derived.Handy
import Derived.Below
import Derived.Laws.Cover3
namespace Go.Proofs.YthkagbnpcjidfaaGreatDoor
open Go.RowKit
set_option linter.unusedVariables false
set_option linter.unusedSimpArgs false
def U0 (cs : Array Value) (off : Nat) (o : aA) : Prop := cs[off]? = some (.int .i64 o.dev) ∧ cs[off + 1]? = some (.int .i64 o.seq) ∧ cs[off + 2]? = some (.int .i64 o.stamp) ∧ cs[off + 3]? = some (.int .i64 o.kind) ∧ cs[off + 4]? = some (.string o.item) ∧ cs[off + 5]? = some (.int .i64 o.qty) ∧ cs[off + 6]? = some (.int .i64 o.level) ∧ cs[off + 7]? = some (.int .i64 o.undos)
theorem U0.at {w : World} {g off : Nat} {T : TypeId} {cs : Array Value} {o : aA} (hg : w.heap[g]? = some (.cells cs T (0, 0))) (h : U0 cs off o) : nI w g off o := by
 obtain ⟨h0, h1, h2, h3, h4, h5, h6, h7⟩ := h
 exact ⟨(aPx hg).trans h0, (aPx hg).trans h1, (aPx hg).trans h2, (aPx hg).trans h3, (aPx hg).trans h4, (aPx hg).trans h5, (aPx hg).trans h6, (aPx hg).trans h7⟩
def bB (w : World) (lo hi : Nat) (a : Option Addr) (n : Nat) (l : List aA) : Prop :=
 l.length = n ∧ (0 < n → ∃ g off cs, a = some ⟨g, off, none⟩ ∧ lo ≤ g ∧ g < hi ∧ w.heap[g]? = some (.cells cs 50 (0, 0)) ∧ off + n * 8 ≤ cs.size ∧ ∀ i, i < n → U0 cs (off + i * 8) (l.getD i aA.zero))
theorem bB.ops {w : World} {lo hi : Nat} {a : Option Addr} {n : Nat} {l : List aA} (h : bB w lo hi a n l) : bK w hi a n l :=
 ⟨h.1, fun i hi' => by
  obtain ⟨g, off, cs, e, _, h2, hg, _, hc⟩ := h.2 (by omega)
  exact ⟨g, off, e, h2, (hc i hi').at hg⟩⟩
theorem bB.kept {w w' : World} {lo hi : Nat} {a : Option Addr} {n : Nat} {l : List aA} (h : bB w lo hi a n l) (hk : ∀ j, lo ≤ j → j < hi → w'.heap[j]? = w.heap[j]?) : bB w' lo hi a n l :=
 ⟨h.1, fun hn => by
  obtain ⟨g, off, cs, e, h1, h2, hg, hs, hc⟩ := h.2 hn; exact ⟨g, off, cs, e, h1, h2, (hk g h1 h2).trans hg, hs, hc⟩⟩
theorem bB.below {w w' : World} {lo hi B : Nat} {a : Option Addr} {n : Nat} {l : List aA} (h : bB w lo hi a n l) (hb : Below B w w') (hB : hi ≤ B) : bB w' lo hi a n l :=
 h.kept fun j _ h2 => hb.block j (by omega)
theorem bB.more {w : World} {lo hi lo' hi' : Nat} {a : Option Addr} {n : Nat} {l : List aA} (h : bB w lo hi a n l) (h1 : lo' ≤ lo) (h2 : hi ≤ hi') : bB w lo' hi' a n l :=
 ⟨h.1, fun hn => by
  obtain ⟨g, off, cs, e, a1, a2, r⟩ := h.2 hn; exact ⟨g, off, cs, e, by omega, by omega, r⟩⟩
theorem dV (w : World) (lo hi : Nat) (a : Option Addr) : bB w lo hi a 0 [] := ⟨rfl, fun h => absurd h (by omega)⟩
def xR (l : List aA) (w : World) (e : Ending) (w' : World) : Prop := ∃ a c, e = .returned (.slice a l.length c) ∧ bB w' w.heap.size w'.heap.size a l.length l ∧ Below w.heap.size w w'
structure fM (lo hi : Nat) (w w' : World) : Prop where
 os : w'.os = w.os
 tape : w'.tape = w.tape
 output : w'.output = w.output
 size : w.heap.size ≤ w'.heap.size
 block : ∀ j, j < w.heap.size → (j < lo ∨ hi ≤ j) → w'.heap[j]? = w.heap[j]?
theorem fM.refl (lo hi : Nat) (w : World) : fM lo hi w w := ⟨rfl, rfl, rfl, Nat.le_refl _, fun _ _ _ => rfl⟩
theorem fM.step {lo hi : Nat} {w w1 w2 : World} (h : fM lo hi w w1) (hb : Below w1.heap.size w1 w2) : fM lo hi w w2 :=
 ⟨hb.os.trans h.os, hb.tape.trans h.tape, hb.output.trans h.output, Nat.le_trans h.size hb.size, fun j h1 h2 => (hb.block j (by have := h.size; omega)).trans (h.block j h1 h2)⟩
theorem fM.put {w wr : World} {g i : Nat} {v : Value} (h : fM g (g + 1) w wr) : fM g (g + 1) w (wr.setCell ⟨g, i, none⟩ v) :=
 ⟨h.os, h.tape, h.output, by simpa [World.setCell] using h.size, fun j h1 h2 => (heap_setCell_other _ _ _ _ (by show j ≠ g; omega)).trans (h.block j h1 h2)⟩
theorem fM.wide {lo hi lo' hi' : Nat} {w w' : World} (h : fM lo hi w w') (h1 : lo' ≤ lo) (h2 : hi ≤ hi') : fM lo' hi' w w' :=
 ⟨h.os, h.tape, h.output, h.size, fun j a b => h.block j a (by omega)⟩
theorem fM.below {lo hi B : Nat} {w w' : World} (h : fM lo hi w w') (hB : B ≤ lo) (hw : B ≤ w.heap.size) : Below B w w' := ⟨h.os, h.tape, h.output, h.size, fun k hk => h.block k (by omega) (.inl (by omega))⟩
theorem bB.beside {w w' : World} {lo hi lo' hi' : Nat} {a : Option Addr} {n : Nat} {l : List aA} (h : bB w lo hi a n l) (hb : fM lo' hi' w w') (hd : hi ≤ lo' ∨ hi' ≤ lo) (hw : hi ≤ w.heap.size) : bB w' lo hi a n l :=
 h.kept fun j h1 h2 => hb.block j (by omega) (by omega)
theorem bK.beside {w w' : World} {lo hi B : Nat} {a : Option Addr} {n : Nat} {l : List aA} (h : bK w B a n l) (hb : fM lo hi w w') (hd : B ≤ lo) (hw : B ≤ w.heap.size) : bK w' B a n l :=
 h.kept fun j h1 => hb.block j (by omega) (.inl (by omega))
def aLO : Nat → Nat → ByteArray → ByteArray
 | 0, _, out => out
 | f + 1, k, out => if k = 0 then out else aLO f (k / 10) (strOfNums [48 + (k : Int) % 10] ++ out)
def mkT (m : Nat) : ByteArray := ⟨#[109]⟩ ++ aLO m m ⟨#[]⟩
def aGr (K : Nat) : aA := ⟨((K : Nat) : Int), ((K + 1 : Nat) : Int), ((K + 2 : Nat) : Int), ((K + 3 : Nat) : Int), mkT (K + 4), ((K + 5 : Nat) : Int), ((K + 6 : Nat) : Int), ((K + 7 : Nat) : Int)⟩
def aHK (K u : Nat) : Value := if u = 4 then .string (mkT (K + 4)) else .int .i64 ((K + u : Nat) : Int)
theorem aB4 {cs : Array Value} {off K : Nat} (h : ∀ u, u < 8 → cs[off + u]? = some (aHK K u)) : U0 cs off (aGr K) :=
 ⟨h 0 (by omega), h 1 (by omega), h 2 (by omega), h 3 (by omega), h 4 (by omega), h 5 (by omega), h 6 (by omega), h 7 (by omega)⟩
structure MS (g off n k j f : Nat) (w wr : World) : Prop where
 bes : fM g (g + 1) w wr
 row : ∃ cs : Array Value, wr.heap[g]? = some (.cells cs 50 (0, 0)) ∧ off + n * 8 ≤ cs.size ∧ (∀ t, t < j → U0 cs (off + t * 8) (aGr (k + 8 * t))) ∧ ∀ u, u < f → cs[off + j * 8 + u]? = some (aHK (k + 8 * j) u)
theorem MS.step {g off n k j f : Nat} {w w1 w2 : World} (h : MS g off n k j f w w1) (hb : Below w1.heap.size w1 w2) : MS g off n k j f w w2 := by
 obtain ⟨uG, cs, hg, r⟩ := h
 exact ⟨uG.step hb, cs, (hb.block _ (aPv hg).1).trans hg, r⟩
theorem MS.cell {g off n k j f : Nat} {w wr : World} (h : MS g off n k j f w wr) (hj : j < n) (u : Nat) (hu : u < 8) : (∃ v, wr.cell? ⟨g, off + j * 8 + u, none⟩ = some v) ∧ wr.frozen? ⟨g, off + j * 8 + u, none⟩ = false := by
 obtain ⟨_, cs, hg, hs, _⟩ := h
 exact ⟨⟨cs[off + j * 8 + u]'(by omega), (aPx hg).trans (Array.getElem?_eq_getElem (by omega))⟩, aPy hg⟩
theorem aCu {cs : Array Value} {off m : Nat} {o : aA} {v : Value} (h : U0 cs off o) (hm : m < off ∨ off + 8 ≤ m) : U0 (cs.setIfInBounds m v) off o := by
 obtain ⟨h0, h1, h2, h3, h4, h5, h6, h7⟩ := h
 exact ⟨(Array.getElem?_setIfInBounds_ne (by omega)).trans h0, (Array.getElem?_setIfInBounds_ne (by omega)).trans h1, (Array.getElem?_setIfInBounds_ne (by omega)).trans h2, (Array.getElem?_setIfInBounds_ne (by omega)).trans h3, (Array.getElem?_setIfInBounds_ne (by omega)).trans h4, (Array.getElem?_setIfInBounds_ne (by omega)).trans h5, (Array.getElem?_setIfInBounds_ne (by omega)).trans h6, (Array.getElem?_setIfInBounds_ne (by omega)).trans h7⟩
theorem MS.put {g off n k j f : Nat} {w wr : World} (h : MS g off n k j f w wr) (hj : j < n) (hf : f < 8) {v : Value} (hv : v = aHK (k + 8 * j) f) : MS g off n k j (f + 1) w (wr.setCell ⟨g, off + j * 8 + f, none⟩ v) := by
 obtain ⟨uG, cs, hg, hs, ho, hu⟩ := h
 refine ⟨uG.put, cs.setIfInBounds (off + j * 8 + f) v, heap_setCell_same _ _ _ _ _ _ hg, by simpa using hs, fun t ht => aCu (ho t ht) (by omega), fun u hu' => ?_⟩
 rw [Array.getElem?_setIfInBounds]
 by_cases e : f = u
 ·subst e
  rw [if_pos rfl, if_pos (by omega), hv]
 ·rw [if_neg (by omega)]
  exact hu u (by omega)
theorem MS.next {g off n k j : Nat} {w wr : World} (h : MS g off n k j 8 w wr) : MS g off n k (j + 1) 0 w wr := by
 obtain ⟨uG, cs, hg, hs, ho, hu⟩ := h
 refine ⟨uG, cs, hg, hs, fun t ht => ?_, fun u hu' => absurd hu' (by omega)⟩
 rcases Nat.lt_or_ge t j with h1 | h1
 ·exact ho t h1
 ·obtain rfl : t = j := by omega
  exact aB4 hu
structure bO where
 item : ByteArray
 qty : Int
 saved : Bool
def bO.zero : bO := ⟨⟨#[]⟩, 0, false⟩
def aA6 (w : World) (b off : Nat) (o : bO) : Prop := w.cell? ⟨b, off, none⟩ = some (.string o.item) ∧ w.cell? ⟨b, off + 1, none⟩ = some (.int .i64 o.qty) ∧ w.cell? ⟨b, off + 2, none⟩ = some (.bool o.saved)
theorem aA6.kept {w w' : World} {b off : Nat} {o : bO} (h : aA6 w b off o) (hb : w'.heap[b]? = w.heap[b]?) : aA6 w' b off o := by
 obtain ⟨h0, h1, h2⟩ := h
 exact ⟨(World.cell?_of_block (a := ⟨b, off, none⟩) hb).trans h0, (World.cell?_of_block (a := ⟨b, off + 1, none⟩) hb).trans h1, (World.cell?_of_block (a := ⟨b, off + 2, none⟩) hb).trans h2⟩
def G1 (w : World) (B : Nat) (a : Option Addr) (n : Nat) (l : List bO) : Prop :=
 l.length = n ∧ ∀ i, i < n → ∃ b off, a = some ⟨b, off, none⟩ ∧ b < B ∧ aA6 w b (off + i * 3) (l.getD i bO.zero)
theorem G1.kept {w w' : World} {B : Nat} {a : Option Addr} {n : Nat} {l : List bO} (h : G1 w B a n l) (hk : ∀ k, k < B → w'.heap[k]? = w.heap[k]?) : G1 w' B a n l :=
 ⟨h.1, fun i hi => by obtain ⟨b, off, e, hb, ho⟩ := h.2 i hi; exact ⟨b, off, e, hb, ho.kept (hk b hb)⟩⟩
theorem G1.below {w w' : World} {B B' : Nat} {a : Option Addr} {n : Nat} {l : List bO} (h : G1 w B a n l) (hb : Below B' w w') (hB : B ≤ B') : G1 w' B a n l :=
 h.kept fun k hk => hb.block k (by omega)
theorem G1.more {w : World} {B B' : Nat} {a : Option Addr} {n : Nat} {l : List bO} (h : G1 w B a n l) (hB : B ≤ B') : G1 w B' a n l :=
 ⟨h.1, fun i hi => by obtain ⟨b, off, e, hb, ho⟩ := h.2 i hi; exact ⟨b, off, e, by omega, ho⟩⟩
theorem four {xs : List Int} (h : cG xs = true) : ∃ x0 x1 x2 x3, xs = [x0, x1, x2, x3] := by
 have h4 : xs.length = 4 := by unfold cG at h; simp only [Bool.and_eq_true, decide_eq_true_eq] at h; exact h.2
 match xs, h4 with
 | [x0, x1, x2, x3], _ => exact ⟨x0, x1, x2, x3, rfl⟩
def tS (cs : Array Value) (off : Nat) (o : bO) : Prop := cs[off]? = some (.string o.item) ∧ cs[off + 1]? = some (.int .i64 o.qty) ∧ cs[off + 2]? = some (.bool o.saved)
theorem tS.at {w : World} {g off : Nat} {T : TypeId} {cs : Array Value} {o : bO} (hg : w.heap[g]? = some (.cells cs T (0, 0))) (h : tS cs off o) : aA6 w g off o := by
 obtain ⟨h0, h1, h2⟩ := h
 exact ⟨(aPx hg).trans h0, (aPx hg).trans h1, (aPx hg).trans h2⟩
def kZ (w : World) (lo hi : Nat) (a : Option Addr) (n : Nat) (l : List bO) : Prop :=
 l.length = n ∧ (0 < n → ∃ g off cs, a = some ⟨g, off, none⟩ ∧ lo ≤ g ∧ g < hi ∧ w.heap[g]? = some (.cells cs 39 (0, 0)) ∧ off + n * 3 ≤ cs.size ∧ ∀ i, i < n → tS cs (off + i * 3) (l.getD i bO.zero))
theorem kZ.rows {w : World} {lo hi : Nat} {a : Option Addr} {n : Nat} {l : List bO} (h : kZ w lo hi a n l) : G1 w hi a n l :=
 ⟨h.1, fun i hi' => by
  obtain ⟨g, off, cs, e, _, h2, hg, _, hc⟩ := h.2 (by omega)
  exact ⟨g, off, e, h2, (hc i hi').at hg⟩⟩
theorem kZ.kept {w w' : World} {lo hi : Nat} {a : Option Addr} {n : Nat} {l : List bO} (h : kZ w lo hi a n l) (hk : ∀ j, lo ≤ j → j < hi → w'.heap[j]? = w.heap[j]?) : kZ w' lo hi a n l :=
 ⟨h.1, fun hn => by
  obtain ⟨g, off, cs, e, h1, h2, hg, hs, hc⟩ := h.2 hn; exact ⟨g, off, cs, e, h1, h2, (hk g h1 h2).trans hg, hs, hc⟩⟩
theorem kZ.below {w w' : World} {lo hi B : Nat} {a : Option Addr} {n : Nat} {l : List bO} (h : kZ w lo hi a n l) (hb : Below B w w') (hB : hi ≤ B) : kZ w' lo hi a n l :=
 h.kept fun j _ h2 => hb.block j (by omega)
theorem kZ.more {w : World} {lo hi lo' hi' : Nat} {a : Option Addr} {n : Nat} {l : List bO} (h : kZ w lo hi a n l) (h1 : lo' ≤ lo) (h2 : hi ≤ hi') : kZ w lo' hi' a n l :=
 ⟨h.1, fun hn => by
  obtain ⟨g, off, cs, e, a1, a2, r⟩ := h.2 hn; exact ⟨g, off, cs, e, by omega, by omega, r⟩⟩
theorem kZ.beside {w w' : World} {lo hi lo' hi' : Nat} {a : Option Addr} {n : Nat} {l : List bO} (h : kZ w lo hi a n l) (hb : fM lo' hi' w w') (hd : hi ≤ lo' ∨ hi' ≤ lo) (hw : hi ≤ w.heap.size) : kZ w' lo hi a n l :=
 h.kept fun j h1 h2 => hb.block j (by omega) (by omega)
def aEk (K : Nat) : bO := ⟨mkT K, ((K + 1 : Nat) : Int), decide (((K + 2 : Nat) : Int) % 3 = 0)⟩
def aCA (K u : Nat) : Value := if u = 0 then .string (mkT K) else if u = 1 then .int .i64 ((K + 1 : Nat) : Int) else .bool (decide (((K + 2 : Nat) : Int) % 3 = 0))
theorem aB9 {cs : Array Value} {off K : Nat} (h : ∀ u, u < 3 → cs[off + u]? = some (aCA K u)) : tS cs off (aEk K) := ⟨h 0 (by omega), h 1 (by omega), h 2 (by omega)⟩
structure U2 (g off n k j f : Nat) (w wr : World) : Prop where
 bes : fM g (g + 1) w wr
 row : ∃ cs : Array Value, wr.heap[g]? = some (.cells cs 39 (0, 0)) ∧ off + n * 3 ≤ cs.size ∧ (∀ t, t < j → tS cs (off + t * 3) (aEk (k + 3 * t))) ∧ ∀ u, u < f → cs[off + j * 3 + u]? = some (aCA (k + 3 * j) u)
theorem U2.step {g off n k j f : Nat} {w w1 w2 : World} (h : U2 g off n k j f w w1) (hb : Below w1.heap.size w1 w2) : U2 g off n k j f w w2 := by
 obtain ⟨uG, cs, hg, r⟩ := h
 exact ⟨uG.step hb, cs, (hb.block _ (aPv hg).1).trans hg, r⟩
theorem U2.cell {g off n k j f : Nat} {w wr : World} (h : U2 g off n k j f w wr) (hj : j < n) (u : Nat) (hu : u < 3) : (∃ v, wr.cell? ⟨g, off + j * 3 + u, none⟩ = some v) ∧ wr.frozen? ⟨g, off + j * 3 + u, none⟩ = false := by
 obtain ⟨_, cs, hg, hs, _⟩ := h
 exact ⟨⟨cs[off + j * 3 + u]'(by omega), (aPx hg).trans (Array.getElem?_eq_getElem (by omega))⟩, aPy hg⟩
theorem aIL {cs : Array Value} {off m : Nat} {o : bO} {v : Value} (h : tS cs off o) (hm : m < off ∨ off + 3 ≤ m) : tS (cs.setIfInBounds m v) off o := by
 obtain ⟨h0, h1, h2⟩ := h
 exact ⟨(Array.getElem?_setIfInBounds_ne (by omega)).trans h0, (Array.getElem?_setIfInBounds_ne (by omega)).trans h1, (Array.getElem?_setIfInBounds_ne (by omega)).trans h2⟩
theorem U2.put {g off n k j f : Nat} {w wr : World} (h : U2 g off n k j f w wr) (hj : j < n) (hf : f < 3) {v : Value} (hv : v = aCA (k + 3 * j) f) : U2 g off n k j (f + 1) w (wr.setCell ⟨g, off + j * 3 + f, none⟩ v) := by
 obtain ⟨uG, cs, hg, hs, ho, hu⟩ := h
 refine ⟨uG.put, cs.setIfInBounds (off + j * 3 + f) v, heap_setCell_same _ _ _ _ _ _ hg, by simpa using hs, fun t ht => aIL (ho t ht) (by omega), fun u hu' => ?_⟩
 rw [Array.getElem?_setIfInBounds]
 by_cases e : f = u
 ·subst e
  rw [if_pos rfl, if_pos (by omega), hv]
 ·rw [if_neg (by omega)]
  exact hu u (by omega)
theorem U2.next {g off n k j : Nat} {w wr : World} (h : U2 g off n k j 3 w wr) : U2 g off n k (j + 1) 0 w wr := by
 obtain ⟨uG, cs, hg, hs, ho, hu⟩ := h
 refine ⟨uG, cs, hg, hs, fun t ht => ?_, fun u hu' => absurd hu' (by omega)⟩
 rcases Nat.lt_or_ge t j with h1 | h1
 ·exact ho t h1
 ·obtain rfl : t = j := by omega
  exact aB9 hu
end Go.Proofs.YthkagbnpcjidfaaGreatDoor
