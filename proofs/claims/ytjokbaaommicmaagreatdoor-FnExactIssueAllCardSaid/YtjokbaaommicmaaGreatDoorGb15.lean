/- Walks and mathematics that several claims share, part 15. -/
import Derived.Test.YtjokbaaommicmaaGreatDoorGb0
import Derived.Test.YtjokbaaommicmaaGreatDoorRows
import Derived.WalkKit
import Derived.WalkLawsBesides
import Derived.Lib.Hide
import Derived.Deep.QuietTactic
import Derived.BigQuiet
import Derived.Laws.Rows
import Derived.WalkSpells
import Derived.OwnWalk
import Derived.Below
import Derived.Laws.BytesArg
import Derived.Lib.Strings
import Derived.Deep.RegionHeld3
import Derived.Deep.Draws
import Derived.Test.YtjokbaaommicmaaGreatDoorGbA
namespace Go.Proofs.YtjokbaaommicmaaGreatDoor
open Go.RowKit
set_option linter.unusedVariables false

/-- A slice of strings that reads as the list l; its cells lie below block B. -/
def Strs (w : World) (B : Nat) (a : Option Addr) (n : Nat) (l : List ByteArray) : Prop :=
 l.length = n ∧ ∀ i, i < n → ∃ b off, a = some ⟨b, off, none⟩ ∧ b < B ∧ w.cell? ⟨b, off + i, none⟩ = some (.string (l.getD i ⟨#[]⟩))
theorem Strs.kept {w w' : World} {B : Nat} {a : Option Addr} {n : Nat} {l : List ByteArray} (h : Strs w B a n l) (hk : ∀ k, k < B → w'.heap[k]? = w.heap[k]?) : Strs w' B a n l :=
 ⟨h.1, fun i hi => by
  obtain ⟨b, off, e, hb, hc⟩ := h.2 i hi
  exact ⟨b, off, e, hb, (World.cell?_of_block (hk b hb)).trans hc⟩⟩
theorem Strs.below {w w' : World} {B B' : Nat} {a : Option Addr} {n : Nat} {l : List ByteArray} (h : Strs w B a n l) (hb : Below B' w w') (hB : B ≤ B') : Strs w' B a n l :=
 h.kept fun k hk => hb.block k (by omega)
theorem Strs.more {w : World} {B B' : Nat} {a : Option Addr} {n : Nat} {l : List ByteArray} (h : Strs w B a n l) (hB : B ≤ B') : Strs w B' a n l :=
 ⟨h.1, fun i hi => by
  obtain ⟨b, off, e, hb, hc⟩ := h.2 i hi
  exact ⟨b, off, e, by omega, hc⟩⟩
/-- A slice of strings whose row, if it has elements, is a block between lo and hi. -/
def OwnStrs (w : World) (lo hi : Nat) (a : Option Addr) (n : Nat) (l : List ByteArray) : Prop :=
 l.length = n ∧ (0 < n → ∃ g off cs, a = some ⟨g, off, none⟩ ∧ lo ≤ g ∧ g < hi ∧ w.heap[g]? = some (.cells cs 9 (0, 0)) ∧ off + n ≤ cs.size ∧ ∀ i, i < n → cs[off + i]? = some (.string (l.getD i ⟨#[]⟩)))
theorem OwnStrs.strs {w : World} {lo hi : Nat} {a : Option Addr} {n : Nat} {l : List ByteArray} (h : OwnStrs w lo hi a n l) : Strs w hi a n l :=
 ⟨h.1, fun i hi' => by
  obtain ⟨g, off, cs, e, _, h2, hg, _, hc⟩ := h.2 (by omega)
  exact ⟨g, off, e, h2, (cell_of_row _ _ _ _ _ _ hg).trans (hc i hi')⟩⟩
theorem OwnStrs.kept {w w' : World} {lo hi : Nat} {a : Option Addr} {n : Nat} {l : List ByteArray} (h : OwnStrs w lo hi a n l) (hk : ∀ j, lo ≤ j → j < hi → w'.heap[j]? = w.heap[j]?) : OwnStrs w' lo hi a n l :=
 ⟨h.1, fun hn => by
  obtain ⟨g, off, cs, e, h1, h2, hg, hs, hc⟩ := h.2 hn
  exact ⟨g, off, cs, e, h1, h2, (hk g h1 h2).trans hg, hs, hc⟩⟩
theorem OwnStrs.below {w w' : World} {lo hi B : Nat} {a : Option Addr} {n : Nat} {l : List ByteArray} (h : OwnStrs w lo hi a n l) (hb : Below B w w') (hB : hi ≤ B) : OwnStrs w' lo hi a n l :=
 h.kept fun j _ h2 => hb.block j (by omega)
theorem OwnStrs.more {w : World} {lo hi lo' hi' : Nat} {a : Option Addr} {n : Nat} {l : List ByteArray} (h : OwnStrs w lo hi a n l) (h1 : lo' ≤ lo) (h2 : hi ≤ hi') : OwnStrs w lo' hi' a n l :=
 ⟨h.1, fun hn => by
  obtain ⟨g, off, cs, e, a1, a2, r⟩ := h.2 hn
  exact ⟨g, off, cs, e, by omega, by omega, r⟩⟩
/-- A row that a call has appended to, read as such a slice. -/
theorem ownStrs_of_row {w : World} {base : Nat} {v : Value} {n : Nat} {l : List ByteArray} (h : w.ownsRow base 9 1 v n (l.map Value.string)) :
  ∃ a c, v = .slice a n c ∧ OwnStrs w base w.heap.size a n l := by
 have hl : l.length = n := by have := h.1; simpa using this
 rcases h.2 with ⟨e, e2⟩ | ⟨g, c, cur, e, hb, hg, hnc, _, hcs, ht⟩
 ·have hn0 : n = 0 := by simpa using e2
  subst hn0
  exact ⟨none, 0, e, hl, fun h => absurd h (by omega)⟩
 ·refine ⟨_, c, e, hl, fun hn => ⟨g, 0, cur, rfl, hb, (Array.getElem?_eq_some_iff.1 hg).1, hg, by omega, fun i hi' => ?_⟩⟩
  have h2 : (cur.toList.take (n * 1))[i]? = (l.map Value.string)[i]? := by rw [ht]
  rw [Nat.mul_one, List.getElem?_take_of_lt hi', List.getElem?_map, List.getElem?_eq_getElem (by omega : i < l.length)] at h2
  rw [Nat.zero_add, ← Array.getElem?_toList, h2, List.getD_eq_getElem?_getD, List.getElem?_eq_getElem (by omega)]
  rfl

/-- Of the blocks that were there none has turned but those from lo up to hi. -/
structure BesideS (lo hi : Nat) (w w' : World) : Prop where
 os : w'.os = w.os
 tape : w'.tape = w.tape
 output : w'.output = w.output
 size : w.heap.size ≤ w'.heap.size
 block : ∀ j, j < w.heap.size → j < lo ∨ hi ≤ j → w'.heap[j]? = w.heap[j]?
theorem BesideS.refl (lo hi : Nat) (w : World) : BesideS lo hi w w := ⟨rfl, rfl, rfl, Nat.le_refl _, fun _ _ _ => rfl⟩
theorem BesideS.step {lo hi : Nat} {w w1 w2 : World} (h : BesideS lo hi w w1) (hb : Below w1.heap.size w1 w2) : BesideS lo hi w w2 :=
 ⟨hb.os.trans h.os, hb.tape.trans h.tape, hb.output.trans h.output, Nat.le_trans h.size hb.size, fun j h1 h2 => (hb.block j (by have := h.size; omega)).trans (h.block j h1 h2)⟩
theorem BesideS.put {w wr : World} {g i : Nat} {v : Value} (h : BesideS g (g + 1) w wr) : BesideS g (g + 1) w (wr.setCell ⟨g, i, none⟩ v) :=
 ⟨h.os, h.tape, h.output, by simpa [World.setCell] using h.size, fun j h1 h2 => (heap_setCell_other _ _ _ _ (by show j ≠ g; omega)).trans (h.block j h1 h2)⟩
theorem BesideS.below {lo hi B : Nat} {w w' : World} (h : BesideS lo hi w w') (hB : B ≤ lo) (hw : B ≤ w.heap.size) : Below B w w' := ⟨h.os, h.tape, h.output, h.size, fun k hk => h.block k (by omega) (.inl (by omega))⟩
theorem BesideS.wide {lo hi lo' hi' : Nat} {w w' : World} (h : BesideS lo hi w w') (h1 : lo' ≤ lo) (h2 : hi ≤ hi') : BesideS lo' hi' w w' :=
 ⟨h.os, h.tape, h.output, h.size, fun j a b => h.block j a (by omega)⟩
theorem OwnStrs.beside {w w' : World} {lo hi lo' hi' : Nat} {a : Option Addr} {n : Nat} {l : List ByteArray} (h : OwnStrs w lo hi a n l) (hb : BesideS lo' hi' w w') (hd : hi ≤ lo' ∨ hi' ≤ lo) (hw : hi ≤ w.heap.size) : OwnStrs w' lo hi a n l :=
 h.kept fun j h1 h2 => hb.block j (by omega) (by omega)
end Go.Proofs.YtjokbaaommicmaaGreatDoor
