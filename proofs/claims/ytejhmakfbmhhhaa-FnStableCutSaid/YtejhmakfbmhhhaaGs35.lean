/- Walks and mathematics that several claims share, part 35. -/
import Derived.Test.YtejhmakfbmhhhaaGs19
import Derived.Test.YtejhmakfbmhhhaaGs34
import Derived.Test.YtejhmakfbmhhhaaGs33
import Derived.Test.YtejhmakfbmhhhaaGs24
import Derived.Test.YtejhmakfbmhhhaaGs28
import Derived.Deep.Cut
namespace Go.Proofs.Ytejhmakfbmhhhaa
open Go.RowKit
set_option linter.unusedVariables false
set_option linter.unusedSimpArgs false

/-- What the reader's acks keep from step to step: the table of block X, whose blocks lie between lo and hi. -/
structure DInv (w wr : World) (B g : Nat) (a : Option Addr) (len cap X lo hi q c : Nat) (f : Nat → Nat) (l : List (List Int)) : Prop where
  box : wr.heap[X]? = some (.cells #[.slice (some ⟨q, 0, none⟩) 4 c] 26 (0, 0))
  tab : RowsAt wr lo hi q 4 f (rowOf l)
  ok : ackOk l = true
  res : wr.heap[w.heap.size]? = some (.cells #[.slice none 0 0] 26 (0, 0))
  low : w.heap.size < lo
  high : hi ≤ wr.heap.size
  off : hi ≤ X ∨ X < lo
  lox : w.heap.size < X
  grown : w.grownBy wr (some g)
  rd : Rd wr B g a len cap
  glt : g < w.heap.size
theorem DInv.step {w wr w1 : World} {B g : Nat} {a : Option Addr} {len cap X lo hi q c : Nat} {f : Nat → Nat} {l : List (List Int)} (h : DInv w wr B g a len cap X lo hi q c f l) (hg : wr.grownBy w1 (some g)) (hr : Rd w1 B g a len cap) : DInv w w1 B g a len cap X lo hi q c f l := by
  have hgl := h.glt
  have hk : ∀ j, j < wr.heap.size → j ≠ g → w1.heap[j]? = wr.heap[j]? := fun j h1 h2 => hg.block j h1 (by intro e; injection e with e; exact h2 e)
  have hx := lt_of_block h.box
  have hA := lt_of_block h.res
  have hlo := h.low
  have hhi := h.high
  have hlx := h.lox
  exact ⟨(hk X hx (by omega)).trans h.box, h.tab.kept fun j h1 h2 => hk j (by omega) (by omega), h.ok, (hk _ hA (by omega)).trans h.res, hlo, by have := hg.size; omega, h.off, hlx, h.grown.trans hg, hr, hgl⟩
theorem DInv.below {w wr w1 : World} {B g : Nat} {a : Option Addr} {len cap X lo hi q c : Nat} {f : Nat → Nat} {l : List (List Int)} (h : DInv w wr B g a len cap X lo hi q c f l) (hb : Below wr.heap.size wr w1) : DInv w w1 B g a len cap X lo hi q c f l :=
  h.step (grown_of hb) (h.rd.grown (grown_no hb) fun k hk => by cases hk)
theorem DInv.put {w z : World} {B g y : Nat} {a : Option Addr} {len cap X lo hi q c : Nat} {f : Nat → Nat} {l : List (List Int)} (h : DInv w z B g a len cap X lo hi q c f l) (v : Value) (h1 : w.heap.size < y) (h2 : y ≠ X) (h3 : y < lo ∨ hi ≤ y) : DInv w (z.setCell ⟨y, 0, none⟩ v) B g a len cap X lo hi q c f l := by
  have hgl := h.glt
  have hB := h.rd.own
  have hk : ∀ j, j ≠ y → (z.setCell ⟨y, 0, none⟩ v).heap[j]? = z.heap[j]? := fun j hj => heap_setCell_other _ _ _ _ hj
  have hs : (z.setCell ⟨y, 0, none⟩ v).heap.size = z.heap.size := by simp [World.setCell]
  have hgw := h.grown
  exact ⟨(hk X (by omega)).trans h.box, h.tab.kept fun j a1 a2 => hk j (by omega), h.ok, (hk _ (by omega)).trans h.res, h.low, by rw [hs]; exact h.high, h.off, h.lox, ⟨hgw.os, hgw.tape, hgw.output, by rw [hs]; exact hgw.size, fun k a1 a2 => (hk k (by omega)).trans (hgw.block k a1 a2)⟩, h.rd.kept fun k hk' => hk k (by omega), hgl⟩
theorem DInv.turn {w z : World} {B g : Nat} {a : Option Addr} {len cap X lo hi q c lo' hi' q' c' : Nat} {f f' : Nat → Nat} {l l' : List (List Int)} (h : DInv w z B g a len cap X lo hi q c f l) (ht : RowsAt z lo' hi' q' 4 f' (rowOf l')) (hok : ackOk l' = true) (h1 : w.heap.size < lo') (h2 : hi' ≤ z.heap.size) (h3 : X < lo') : DInv w (z.setCell ⟨X, 0, none⟩ (.slice (some ⟨q', 0, none⟩) 4 c')) B g a len cap X lo' hi' q' c' f' l' := by
  have hgl := h.glt
  have hB := h.rd.own
  have hlx := h.lox
  have hk : ∀ j, j ≠ X → (z.setCell ⟨X, 0, none⟩ (.slice (some ⟨q', 0, none⟩) 4 c')).heap[j]? = z.heap[j]? := fun j hj => heap_setCell_other _ _ _ _ hj
  have hs : (z.setCell ⟨X, 0, none⟩ (.slice (some ⟨q', 0, none⟩) 4 c')).heap.size = z.heap.size := by simp [World.setCell]
  have hgw := h.grown
  exact ⟨by have := heap_setCell_same _ _ 0 _ _ (.slice (some ⟨q', 0, none⟩) 4 c') h.box; simpa using this, ht.kept fun j a1 a2 => hk j (by omega), hok, (hk _ (by omega)).trans h.res, h1, by rw [hs]; exact h2, .inr h3, hlx, ⟨hgw.os, hgw.tape, hgw.output, by rw [hs]; exact hgw.size, fun k a1 a2 => (hk k (by omega)).trans (hgw.block k a1 a2)⟩, h.rd.kept fun k hk' => hk k (by omega), hgl⟩
theorem heard_ackOk {l : List (List Int)} {d : Nat} {ys : List Int} (h : ackOk l = true) (hd : d < 4) (hy : vecOk ys = true) : ackOk (heardRows l d ys) = true := by
  have hl : (heardRows l d ys).length = 4 := by rw [heard_len, (ack_row h hd).2]
  unfold ackOk
  rw [hl]
  simp only [decide_true, Bool.and_true, List.all_eq_true]
  intro x hx
  obtain ⟨i, hi, e⟩ := List.mem_iff_getElem.1 hx
  have := heard_ok h hd hy (i := i) (by omega)
  rw [← e]
  unfold rowOf at this
  rw [List.getD_eq_getElem?_getD, List.getElem?_eq_getElem hi] at this
  exact this
/-- A slice of rows, none of whose blocks is X or lies below lo. -/
def RowsIn (w : World) (lo X : Nat) (a : Option Addr) (n : Nat) (l : List (List Int)) : Prop :=
  l.length = n ∧ ∀ i, i < n → ∃ b off ai ci, a = some ⟨b, off, none⟩ ∧ (lo ≤ b ∧ b ≠ X) ∧ w.cell? ⟨b, off + i, none⟩ = some (.slice ai (rowOf l i).length ci) ∧ Ints w w.heap.size ai (rowOf l i).length (rowOf l i) ∧ (∀ b' off', 0 < (rowOf l i).length → ai = some ⟨b', off', none⟩ → lo ≤ b' ∧ b' ≠ X) ∧ (rowOf l i).length ≤ 4
theorem RowsIn.irows {w : World} {lo X : Nat} {a : Option Addr} {n : Nat} {l : List (List Int)} (h : RowsIn w lo X a n l) : IRows w w.heap.size a n l :=
  ⟨h.1, fun i hi => by
    obtain ⟨b, off, ai, ci, e, hb, hc, hx, _, _⟩ := h.2 i hi
    exact ⟨b, off, ai, ci, e, block_lt_of_cell hc, hc, hx⟩⟩
theorem RowsIn.short {w : World} {lo X : Nat} {a : Option Addr} {n : Nat} {l : List (List Int)} (h : RowsIn w lo X a n l) : ∀ i, i < n → (rowOf l i).length ≤ 4 := fun i hi => by
  obtain ⟨b, off, ai, ci, e, hb, hc, hx, _, h4⟩ := h.2 i hi
  exact h4
theorem RowsIn.kept {w w' : World} {lo X : Nat} {a : Option Addr} {n : Nat} {l : List (List Int)} (h : RowsIn w lo X a n l) (hs : w.heap.size ≤ w'.heap.size) (hk : ∀ j, j < w.heap.size → lo ≤ j → j ≠ X → w'.heap[j]? = w.heap[j]?) : RowsIn w' lo X a n l :=
  ⟨h.1, fun i hi => by
    obtain ⟨b, off, ai, ci, e, hb, hc, hx, hbb, h4⟩ := h.2 i hi
    refine ⟨b, off, ai, ci, e, hb, (World.cell?_of_block (a := ⟨b, off + i, none⟩) (hk b (block_lt_of_cell hc) hb.1 hb.2)).trans hc, ⟨hx.1, fun j hj => ?_⟩, hbb, h4⟩
    obtain ⟨b', off', e', hb', hc'⟩ := hx.2 j hj
    have := hbb b' off' (by omega) e'
    exact ⟨b', off', e', by omega, (World.cell?_of_block (a := ⟨b', off' + j, none⟩) (hk b' hb' this.1 this.2)).trans hc'⟩⟩
theorem RowsAt.rowsIn {w : World} {lo lo' hi q X : Nat} {f : Nat → Nat} {l : List (List Int)} (h : RowsAt w lo hi q 4 f (rowOf l)) (hok : ackOk l = true) (h1 : lo' ≤ lo) (h2 : hi ≤ w.heap.size) (h3 : hi ≤ X ∨ X < lo) : RowsIn w lo' X (some ⟨q, 0, none⟩) 4 l := by
  obtain ⟨⟨a1, a2, cs, hg, hc⟩, hf, hd⟩ := h
  refine ⟨(ack_row hok (i := 0) (by omega)).2, fun i hi' => ?_⟩
  obtain ⟨ai, ci, e, ho⟩ := hc i hi'
  have hl := vec_len (ack_row hok hi').1
  have hfi := hf i hi'
  refine ⟨q, 0, ai, ci, rfl, ⟨by omega, by omega⟩, by rw [Nat.zero_add]; exact (cell_of_row _ _ _ _ _ _ hg).trans e, ho.ints.more (by omega), fun b' off' hn e' => ?_, by omega⟩
  obtain ⟨g', cur, e2, q1, q2, _⟩ := ho.2 hn
  rw [e2] at e'
  injection e' with e'
  injection e' with e3 _
  omega
theorem RowsIn.first {w : World} {lo X q nv cv : Nat} {av : Option Addr} {ys : List Int} {x : List Int} {l : List (List Int)} {cs : Array Value} (h : RowsIn w lo X (some ⟨q, 0, none⟩) 4 (x :: l)) (hq : w.heap[q]? = some (.cells cs 28 (0, 0))) (hy : Ints w w.heap.size av nv ys) (hyb : ∀ b' off', 0 < nv → av = some ⟨b', off', none⟩ → lo ≤ b' ∧ b' ≠ X ∧ b' ≠ q) (hn : nv ≤ 4)
    (hne : ∀ i, i < 4 → ∀ ai ci b' off', w.cell? ⟨q, i, none⟩ = some (.slice ai (rowOf (x :: l) i).length ci) → 0 < (rowOf (x :: l) i).length → ai = some ⟨b', off', none⟩ → b' ≠ q) : RowsIn (w.setCell ⟨q, 0, none⟩ (.slice av nv cv)) lo X (some ⟨q, 0, none⟩) 4 (ys :: l) := by
  have hs : (w.setCell ⟨q, 0, none⟩ (.slice av nv cv)).heap.size = w.heap.size := by simp [World.setCell]
  have hk : ∀ j, j ≠ q → (w.setCell ⟨q, 0, none⟩ (.slice av nv cv)).heap[j]? = w.heap[j]? := fun j hj => heap_setCell_other _ _ _ _ hj
  have hq2 := heap_setCell_same _ _ 0 _ _ (.slice av nv cv) hq
  have hy1 := hy.1
  refine ⟨by have := h.1; simpa using this, fun i hi => ?_⟩
  match i, hi with
  | 0, _ =>
    obtain ⟨b, off, ai, ci, e, hb, hc, _, _, _⟩ := h.2 0 (by omega)
    injection e with e
    injection e with e1 e2
    subst e1 e2
    have hcs : 0 < cs.size := by
      rw [cell_of_row _ _ _ _ _ _ hq] at hc
      exact (Array.getElem?_eq_some_iff.1 hc).1
    refine ⟨q, 0, av, cv, rfl, hb, ?_, ?_, ?_, ?_⟩
    · show _ = some (Value.slice av ys.length cv)
      rw [hy1]
      refine (cell_of_row _ _ _ _ _ _ hq2).trans ?_
      rw [Array.getElem?_setIfInBounds, if_pos rfl, if_pos hcs]
    · show Ints _ _ av ys.length ys
      refine ⟨rfl, fun j hj => ?_⟩
      obtain ⟨b', off', e', hb', hc'⟩ := hy.2 j (by rw [← hy1]; exact hj)
      have := hyb b' off' (by omega) e'
      exact ⟨b', off', e', by omega, (World.cell?_of_block (a := ⟨b', off' + j, none⟩) (hk b' this.2.2)).trans hc'⟩
    · intro b' off' hn' e'
      have := hyb b' off' (by rw [← hy1]; exact hn') e'
      exact ⟨this.1, this.2.1⟩
    · show ys.length ≤ 4
      omega
  | i + 1, hi =>
    obtain ⟨b, off, ai, ci, e, hb, hc, hx, hbb, h4⟩ := h.2 (i + 1) (by omega)
    injection e with e
    injection e with e1 e2
    subst e1 e2
    have hc2 : (w.setCell ⟨q, 0, none⟩ (.slice av nv cv)).cell? ⟨q, 0 + (i + 1), none⟩ = some (.slice ai (rowOf (x :: l) (i + 1)).length ci) := by
      rw [cell_of_row _ _ _ _ _ _ hq] at hc
      refine (cell_of_row _ _ _ _ _ _ hq2).trans ?_
      rw [Array.getElem?_setIfInBounds, if_neg (by omega)]
      exact hc
    refine ⟨q, 0, ai, ci, rfl, hb, hc2, ⟨rfl, fun j hj => ?_⟩, hbb, h4⟩
    obtain ⟨b', off', e', hb', hc'⟩ := hx.2 j hj
    have hnq := hne (i + 1) (by omega) ai ci b' off' (by rw [Nat.zero_add] at hc; exact hc) (Nat.lt_of_le_of_lt (Nat.zero_le j) hj) e'
    exact ⟨b', off', e', by omega, (World.cell?_of_block (a := ⟨b', off' + j, none⟩) (hk b' hnq)).trans hc'⟩
theorem RowsIn.tail {w : World} {lo X q : Nat} {x : List Int} {l : List (List Int)} (h : RowsIn w lo X (some ⟨q, 0, none⟩) 4 (x :: l)) : RowsIn w lo X (some ⟨q, 1, none⟩) 3 l := by
  refine ⟨by have := h.1; simpa using this, fun i hi => ?_⟩
  obtain ⟨b, off, ai, ci, e, hb, hc, hx, hbb, h4⟩ := h.2 (i + 1) (by omega)
  injection e with e
  injection e with e1 e2
  subst e1 e2
  exact ⟨q, 1, ai, ci, rfl, hb, by rw [show 0 + (i + 1) = 1 + i by omega] at hc; exact hc, hx, hbb, h4⟩
/-- The table of block X, when its loop is done. -/
structure EInv (w wr : World) (B g : Nat) (a : Option Addr) (len cap X q c : Nat) (l : List (List Int)) : Prop where
  box : wr.heap[X]? = some (.cells #[.slice (some ⟨q, 0, none⟩) 4 c] 26 (0, 0))
  rows : RowsIn wr (w.heap.size + 1) X (some ⟨q, 0, none⟩) 4 l
  res : wr.heap[w.heap.size]? = some (.cells #[.slice none 0 0] 26 (0, 0))
  lox : w.heap.size < X
  grown : w.grownBy wr (some g)
  rd : Rd wr B g a len cap
  glt : g < w.heap.size
theorem DInv.e {w wr : World} {B g : Nat} {a : Option Addr} {len cap X lo hi q c : Nat} {f : Nat → Nat} {l : List (List Int)} (h : DInv w wr B g a len cap X lo hi q c f l) : EInv w wr B g a len cap X q c l :=
  ⟨h.box, h.tab.rowsIn h.ok h.low h.high h.off, h.res, h.lox, h.grown, h.rd, h.glt⟩
theorem EInv.step {w wr w1 : World} {B g : Nat} {a : Option Addr} {len cap X q c : Nat} {l : List (List Int)} (h : EInv w wr B g a len cap X q c l) (hg : wr.grownBy w1 (some g)) (hr : Rd w1 B g a len cap) : EInv w w1 B g a len cap X q c l := by
  have hgl := h.glt
  have hlx := h.lox
  have hk : ∀ j, j < wr.heap.size → j ≠ g → w1.heap[j]? = wr.heap[j]? := fun j h1 h2 => hg.block j h1 (by intro e; injection e with e; exact h2 e)
  exact ⟨(hk X (lt_of_block h.box) (by omega)).trans h.box, h.rows.kept hg.size fun j h1 h2 _ => hk j h1 (by omega), (hk _ (lt_of_block h.res) (by omega)).trans h.res, hlx, h.grown.trans hg, hr, hgl⟩
theorem DInv.first {w z : World} {B g : Nat} {a : Option Addr} {len cap X lo hi q c nv : Nat} {f : Nat → Nat} {x ys : List Int} {l : List (List Int)} {av : Option Addr} (cv : Nat) (h : DInv w z B g a len cap X lo hi q c f (x :: l)) (hy : Ints z z.heap.size av nv ys) (hyb : ∀ b' off', 0 < nv → av = some ⟨b', off', none⟩ → hi ≤ b' ∧ X < b') (hn : nv ≤ 4) :
    EInv w (z.setCell ⟨q, 0, none⟩ (.slice av nv cv)) B g a len cap X q c (ys :: l) ∧ (∃ v, z.cell? ⟨q, 0, none⟩ = some v) ∧ z.frozen? ⟨q, 0, none⟩ = false ∧ (z.setCell ⟨q, 0, none⟩ (.slice av nv cv)).cell? ⟨X, 0, none⟩ = some (.slice (some ⟨q, 0, none⟩) 4 c) := by
  have hr := h.e.rows
  have hlow := h.low
  have hhi := h.high
  have hoff := h.off
  have hlx := h.lox
  have hgl := h.glt
  have hB := h.rd.own
  obtain ⟨⟨a1, a2, cs, hq, hc⟩, hf, hd⟩ := h.tab
  obtain ⟨ai0, ci0, e0, _⟩ := hc 0 (by omega)
  have hk : ∀ j, j ≠ q → (z.setCell ⟨q, 0, none⟩ (.slice av nv cv)).heap[j]? = z.heap[j]? := fun j hj => heap_setCell_other _ _ _ _ hj
  have hs : (z.setCell ⟨q, 0, none⟩ (.slice av nv cv)).heap.size = z.heap.size := by simp [World.setCell]
  have hgw := h.grown
  have hbx := (hk X (by omega)).trans h.box
  refine ⟨⟨hbx, hr.first (cv := cv) hq hy (fun b' off' h1 h2 => by have := hyb b' off' h1 h2; omega) hn (fun i hi' ai ci b' off' hce hpos e => ?_), (hk _ (by omega)).trans h.res, hlx, ⟨hgw.os, hgw.tape, hgw.output, by rw [hs]; exact hgw.size, fun k b1 b2 => (hk k (by omega)).trans (hgw.block k b1 b2)⟩, h.rd.kept fun k hk' => hk k (by omega), hgl⟩, ⟨_, (cell_of_row _ _ _ _ _ _ hq).trans e0⟩, frozen_of_row _ _ _ _ _ hq, one_cell hbx⟩
  obtain ⟨ai', ci', e', ho⟩ := hc i hi'
  rw [cell_of_row _ _ _ _ _ _ hq, e'] at hce
  injection hce with hce
  injection hce with e1 e2 e3
  subst e1
  obtain ⟨g', cur, e4, q1, q2, _⟩ := ho.2 hpos
  rw [e4] at e
  injection e with e
  injection e with e5 _
  have := (hf i hi').2.2
  omega
/-- What the reader's acks leave. -/
def YieldsAcks (w : World) (B g : Nat) (a : Option Addr) (len cap : Nat) (e : Ending) (w' : World) : Prop :=
  ∃ (aa : Option Addr) (n c X : Nat) (l : List (List Int)), n ≤ 4 ∧ e = .returned (.agg #[.slice aa n c]) ∧ RowsIn w' (w.heap.size + 1) X aa n l ∧ X < w'.heap.size ∧ w.heap.size < X ∧ w.grownBy w' (some g) ∧ Rd w' B g a len cap

theorem EInv.fin {w z : World} {B g : Nat} {a : Option Addr} {len cap X q c : Nat} {l l' : List (List Int)} (h : EInv w z B g a len cap X q c l) (aa : Option Addr) (n cc : Nat) (v : Value) (hn : n ≤ 4) (hne : RowsIn z (w.heap.size + 1) X aa n l') : YieldsAcks w B g a len cap (.returned (.agg #[.slice aa n cc])) (z.setCell ⟨w.heap.size, 0, none⟩ v) := by
  have hgl := h.glt
  have hlx := h.lox
  have hB := h.rd.own
  have hk : ∀ j, j ≠ w.heap.size → (z.setCell ⟨w.heap.size, 0, none⟩ v).heap[j]? = z.heap[j]? := fun j hj => heap_setCell_other _ _ _ _ hj
  have hs : (z.setCell ⟨w.heap.size, 0, none⟩ v).heap.size = z.heap.size := by simp [World.setCell]
  have hgw := h.grown
  exact ⟨aa, n, cc, X, l', hn, rfl, hne.kept (Nat.le_of_eq hs.symm) fun j h1 h2 h3 => hk j (by omega), by rw [hs]; exact lt_of_block h.box, hlx, ⟨hgw.os, hgw.tape, hgw.output, by rw [hs]; exact hgw.size, fun k b1 b2 => (hk k (by omega)).trans (hgw.block k b1 b2)⟩, h.rd.kept fun k hk' => hk k (by omega)⟩
theorem RowsIn.front {w : World} {lo X q : Nat} {l : List (List Int)} (h : RowsIn w lo X (some ⟨q, 0, none⟩) 4 l) : RowsIn w lo X (some ⟨q, 0, none⟩) 3 (l.take 3) := by
  refine ⟨by rw [List.length_take, h.1]; rfl, fun i hi => ?_⟩
  have e : rowOf (l.take 3) i = rowOf l i := by
    unfold rowOf
    rw [List.getD_eq_getElem?_getD, List.getD_eq_getElem?_getD, List.getElem?_take_of_lt hi]
  rw [e]
  exact h.2 i (by omega)
theorem EInv.fin2 {w z : World} {B g : Nat} {a : Option Addr} {len cap X q c : Nat} {l l' : List (List Int)} (h : EInv w z B g a len cap X q c l) (aa : Option Addr) (n cc : Nat) (v1 v2 : Value) (hn : n ≤ 4) (hne : RowsIn z (w.heap.size + 1) X aa n l') : YieldsAcks w B g a len cap (.returned (.agg #[.slice aa n cc])) ((z.setCell ⟨X, 0, none⟩ v1).setCell ⟨w.heap.size, 0, none⟩ v2) := by
  have hgl := h.glt
  have hlx := h.lox
  have hB := h.rd.own
  have hk : ∀ j, j ≠ w.heap.size → j ≠ X → ((z.setCell ⟨X, 0, none⟩ v1).setCell ⟨w.heap.size, 0, none⟩ v2).heap[j]? = z.heap[j]? := fun j hj h2 => (heap_setCell_other _ _ _ _ hj).trans (heap_setCell_other _ _ _ _ h2)
  have hs : ((z.setCell ⟨X, 0, none⟩ v1).setCell ⟨w.heap.size, 0, none⟩ v2).heap.size = z.heap.size := by simp [World.setCell]
  have hgw := h.grown
  exact ⟨aa, n, cc, X, l', hn, rfl, hne.kept (Nat.le_of_eq hs.symm) fun j h1 h2 h3 => hk j (by omega) h3, by rw [hs]; exact lt_of_block h.box, hlx, ⟨hgw.os, hgw.tape, hgw.output, by rw [hs]; exact hgw.size, fun k b1 b2 => (hk k (by omega) (by omega)).trans (hgw.block k b1 b2)⟩, h.rd.kept fun k hk' => hk k (by omega) (by omega)⟩
set_option maxRecDepth 100000 in
set_option maxHeartbeats 40000000 in
theorem acksD (w : World) (B g : Nat) (a : Option Addr) (len cap : Nat) (h : Rd w B g a len cap) :
    Calls Try.prog 105 #[.pointer (some ⟨g, 0, none⟩)] w (YieldsAcks w B g a len cap) := by
  have hb0 : Below w.heap.size w (w.alloc (.cells #[.slice none 0 0] 26)) := (Below.refl _ w).alloc (Nat.le_refl _) _
  have HR0 := Lib.hid (heap_alloc_new w (.cells #[.slice none 0 0] 26))
  have HB0 := Lib.hid hb0
  have HRd0 := Lib.hid (h.grown (grown_no hb0) fun k hk => by cases hk)
  have hgl := h.lt
  have hz0 : (w.alloc (.cells #[.slice none 0 0] 26)).heap.size = w.heap.size + 1 := by show (w.heap.push _).size = _; simp
  clear h hb0
  go_enter Try.func105, Try.ntmps105
  go_wp2_with fail
  generalize w.alloc (.cells #[.slice none 0 0] 26) = w0 at HR0 HB0 HRd0 hz0 ⊢
  refine (specAcksNew w0).mono ?_
  rintro e w1 ⟨q, c, rfl, ⟨f, hr⟩, hb1⟩
  have hl4 : newAcks.length = 4 := rfl
  rw [hl4] at hr ⊢
  have hs1 := hb1.size
  have hz1 := lt_of_block hr.1.2.2.choose_spec.1
  have hb2 : Below w1.heap.size w1 (w1.alloc (.cells #[.slice (some ⟨q, 0, none⟩) 4 c] 26)) := (Below.refl _ _).alloc (Nat.le_refl _) _
  have hI : DInv w (w1.alloc (.cells #[.slice (some ⟨q, 0, none⟩) 4 c] 26)) B g a len cap w1.heap.size w0.heap.size w1.heap.size q c f newAcks := by
    have hr2 := hr.below hb2 (Nat.le_refl _)
    have hB2 := HB0.out.trans (hb1.mono HB0.out.size)
    refine ⟨heap_alloc_new _ _, hr2, rfl, ((hb2.block _ (by omega)).trans (hb1.block _ (by omega))).trans HR0.out, by omega, hb2.size, .inl (Nat.le_refl _), by omega, grown_of (hB2.trans (hb2.mono hB2.size)), (HRd0.out.grown (grown_no hb1) fun k hk => by cases hk).grown (grown_no hb2) (fun k hk => by cases hk), hgl⟩
  have HI0 := Lib.hid hI
  clear hr hb1 hb2 hI HR0 HB0 HRd0
  go_upto_region 2 with fail
  generalize w1.alloc (.cells #[.slice (some ⟨q, 0, none⟩) 4 c] 26) = w2 at HI0 ⊢
  obtain ⟨X, hX⟩ : ∃ x, w1.heap.size = x := ⟨_, rfl⟩
  rw [hX] at HI0 ⊢
  obtain ⟨lo0, hlo0⟩ : ∃ x, w0.heap.size = x := ⟨_, rfl⟩
  rw [hlo0] at HI0
  clear hX hlo0 hz0 hs1 hz1
  go_wp2_with fail
  refine (belowI w2 B g a len cap HI0.out.rd 8 (by omega) (by omega)).mono ?_
  rintro e w3 ⟨i0, hi0, rfl, hg3, hr3⟩
  have HI3 := Lib.hid (HI0.out.step hg3 hr3)
  have hi8 : i0 < 8 := hi0
  clear hg3 hr3 HI0 hi0
  go_wp2
  go_loopw [4] (fun i wr => ∃ (j lo hi q c : Nat) (f : Nat → Nat) (l : List (List Int)), j < 8 ∧ i = .int .i64 (j : Int) ∧ Hid (DInv w wr B g a len cap X lo hi q c f l)) (fun i _ => (intOf i).toNat)
  case atStart => exact ⟨i0, _, _, q, c, f, newAcks, hi8, rfl, HI3⟩
  case round =>
    clear HI3 hi8 hl4
    obtain ⟨j, lo, hi, q, c, f, l, hj, rfl, HI⟩ := hrel
    by_cases h0 : 0 < j
    · have hji : (0 : Int) < (j : Int) := by omega
      go_upto_region 5 with fail
      rename_i KR hKR
      obtain ⟨z0, hz0e⟩ : ∃ z0, wr.drew = z0 := ⟨_, rfl⟩
      have HIz0 : Hid (DInv w z0 B g a len cap X lo hi q c f l) := by rw [← hz0e]; exact HI.out.below ⟨rfl, rfl, rfl, Nat.le_refl _, fun _ _ => rfl⟩
      have hSz0 : z0.cell? ⟨X, 0, none⟩ = some (.slice (some ⟨q, 0, none⟩) 4 c) := one_cell HIz0.out.box
      clear HI
      refine wp_region_held_drew (S := fun w' => w'.cell? ⟨X, 0, none⟩ = some (.slice (some ⟨q, 0, none⟩) 4 c)) (by kernel_rfl) (by rw [hz0e]; exact hSz0) (fun hHeld => ?_)
      rw [hz0e]
      clear hHeld hz0e
      refine wpAnyH_take (i := 0) (oi := { dst := some 15, op := .load 26 (.tmp 3), type := 26, pos := "l13_stable.go:64", after := #[], guard := none }) (v := ?_) rfl (by kernel_rfl) (by kernel_rfl) (by kernel_rfl) (fun _ _ _ h => h) (Or.inl ⟨by rfl, ?_⟩) (by assumption) ?_
      rotate_left
      · intro w hSw
        (try dsimp only at hSw)
        first | (go_simp; done) | (go_simp; with_reducible rfl)
      (try simp only [Act.put, List.setIfInBounds_toArray, List.set_cons_zero, List.set_cons_succ])
      refine wpAnyH_take (i := 1) (oi := { dst := some 16, op := .move (.tmp 0), type := 65, pos := "l13_stable.go:64", after := #[], guard := none }) (v := ?_) rfl (by kernel_rfl) (by kernel_rfl) (by kernel_rfl) (fun _ _ _ h => h) (Or.inl ⟨by rfl, ?_⟩) (by assumption) ?_
      rotate_left
      · intro w hSw
        (try dsimp only at hSw)
        first | (go_simp; done) | (go_simp; with_reducible rfl)
      (try simp only [Act.put, List.setIfInBounds_toArray, List.set_cons_zero, List.set_cons_succ])
      refine wpAnyH_take (i := 3) (oi := { dst := some 18, op := .move (.tmp 0), type := 65, pos := "l13_stable.go:64", after := #[], guard := none }) (v := ?_) rfl (by kernel_rfl) (by kernel_rfl) (by kernel_rfl) (fun _ _ _ h => h) (Or.inl ⟨by rfl, ?_⟩) (by assumption) ?_
      rotate_left
      · intro w hSw
        (try dsimp only at hSw)
        first | (go_simp; done) | (go_simp; with_reducible rfl)
      (try simp only [Act.put, List.setIfInBounds_toArray, List.set_cons_zero, List.set_cons_succ])
      refine wpAnyH_ready (rs := [2, 9]) (by kernel_rfl) (by simp) ?_
      refine (AllReadyH.cons (o := { dst := some 17, op := .call { callee := .value (.func 84), args := #[.tmp 16, .const (Value.int IntKind.i64 4)], argTypes := #[65, 3] }, type := 3, pos := "l13_stable.go:64", after := #[⟨1, .data⟩], guard := none }) rfl (fun K hK => ?_) (AllReadyH.cons (o := { dst := some 5, op := .alloc 26, type := 0, pos := "l13_stable.go:64", after := #[], guard := none }) rfl (fun K hK => ?_) AllReadyH.nil))
      ·
        go_simp
        go_at_call 84
        refine (belowI _ B g a len cap HIz0.out.rd 4 (by omega) (by omega)).mono ?_
        rintro e z1 ⟨d1, hd1, rfl, hg, hr⟩
        have HIz1 := Lib.hid (HIz0.out.step hg hr)
        have hd4 : d1 < 4 := hd1
        have hgl2 := hgl
        have hSz1 : z1.cell? ⟨X, 0, none⟩ = some (.slice (some ⟨q, 0, none⟩) 4 c) := one_cell HIz1.out.box
        have hzsz1 := hg.size
        clear hg hr hd1
        refine hK.out _ _ hSz1 (fun hHeldC => ?_)
        clear hK K hHeldC
        (try simp only [Act.put, List.setIfInBounds_toArray, List.set_cons_zero, List.set_cons_succ])
        refine wpAnyH_ready (rs := [4, 9]) (by kernel_rfl) (by simp) ?_
        refine (AllReadyH.cons (o := { dst := some 19, op := .call { callee := .value (.func 57), args := #[.tmp 18], argTypes := #[65] }, type := 28, pos := "l13_stable.go:64", after := #[⟨3, .data⟩, ⟨2, .chain⟩], guard := none }) rfl (fun K hK => ?_) (AllReadyH.cons (o := { dst := some 5, op := .alloc 26, type := 0, pos := "l13_stable.go:64", after := #[], guard := none }) rfl (fun K hK => ?_) AllReadyH.nil))
        ·
          go_simp
          go_at_call 57
          refine (vec _ B g a len cap HIz1.out.rd).mono ?_
          rintro e z2 ⟨av, nv, cv, ys, hnv, rfl, hIn, hg, hr⟩
          have HIz2 := Lib.hid (HIz1.out.step hg hr)
          have HYz2 := Lib.hid hIn.1
          have hSz2 : z2.cell? ⟨X, 0, none⟩ = some (.slice (some ⟨q, 0, none⟩) 4 c) := one_cell HIz2.out.box
          have hzsz2 := hg.size
          clear hg hr hIn
          refine hK.out _ _ hSz2 (fun hHeldC => ?_)
          clear hK K hHeldC
          (try simp only [Act.put, List.setIfInBounds_toArray, List.set_cons_zero, List.set_cons_succ])
          refine wpAnyH_ready (rs := [5, 9]) (by kernel_rfl) (by simp) ?_
          refine (AllReadyH.cons (o := { dst := some 20, op := .call { callee := .value (.func 141), args := #[.tmp 15, .tmp 17, .tmp 19], argTypes := #[26, 2, 28] }, type := 163, pos := "l13_stable.go:64", after := #[⟨0, .data⟩, ⟨2, .data⟩, ⟨4, .data⟩, ⟨4, .chain⟩], guard := none }) rfl (fun K hK => ?_) (AllReadyH.cons (o := { dst := some 5, op := .alloc 26, type := 0, pos := "l13_stable.go:64", after := #[], guard := none }) rfl (fun K hK => ?_) AllReadyH.nil))
          ·
            go_simp
            go_at_call 141
            refine (specHeard z2 z2.heap.size _ av 4 c nv cv (d1 : Int) l ys ((HIz2.out.tab.irows (ack_row HIz2.out.ok (i := 0) (by omega)).2).more HIz2.out.high) HYz2.out (Nat.le_refl _) (by omega) (by omega) (fun i hi => by rw [vec_len (ack_row HIz2.out.ok hi).1]; omega)).mono ?_
            rintro e z3 ⟨hcase, hb⟩
            have HIz3 := Lib.hid (HIz2.out.below hb)
            have hzsz3 := hb.size
            have hSz3 : z3.cell? ⟨X, 0, none⟩ = some (.slice (some ⟨q, 0, none⟩) 4 c) := one_cell HIz3.out.box
            have hXz : X < z2.heap.size := lt_of_block HIz2.out.box
            have hwz : w.heap.size < z2.heap.size := by have := HIz2.out.lox; omega
            clear hb
            rcases hcase with ⟨hhb, d2, gw, cw, fw, hd2, hdd, rfl, hrw⟩ | ⟨hhb, rfl⟩
            ·
              obtain rfl : d2 = d1 := by omega
              have HTz3 := Lib.hid hrw
              have HOK := Lib.hid (heard_ackOk HIz2.out.ok hd2 (by unfold heardB at hhb; simp at hhb; exact hhb.2.2))
              obtain ⟨nl, hnl⟩ : ∃ x, z2.heap.size = x := ⟨_, rfl⟩
              obtain ⟨nh, hnh⟩ : ∃ x, z3.heap.size = x := ⟨_, rfl⟩
              have hnhz : nh ≤ z3.heap.size := Nat.le_of_eq hnh.symm
              rw [hnl, hnh] at HTz3
              clear hrw hhb hnh
              refine hK.out _ _ hSz3 (fun hHeldC => ?_)
              clear hK K hHeldC
              (try simp only [Act.put, List.setIfInBounds_toArray, List.set_cons_zero, List.set_cons_succ])
              refine wpAnyH_take (i := 6) (oi := { dst := some 14, op := .move (.tmp 20), type := 163, pos := "l13_stable.go:64", after := #[⟨5, .data⟩], guard := none }) (v := ?_) rfl (by kernel_rfl) (by kernel_rfl) (by kernel_rfl) (fun _ _ _ h => h) (Or.inl ⟨by rfl, ?_⟩) (by assumption) ?_
              rotate_left
              · intro w hSw
                (try dsimp only at hSw)
                first | (go_simp; done) | (go_simp; with_reducible rfl)
              (try simp only [Act.put, List.setIfInBounds_toArray, List.set_cons_zero, List.set_cons_succ])
              refine wpAnyH_take (i := 7) (oi := { dst := some 21, op := .extract (.tmp 14) 0, type := 26, pos := "l13_stable.go:64", after := #[⟨6, .data⟩], guard := none }) (v := ?_) rfl (by kernel_rfl) (by kernel_rfl) (by kernel_rfl) (fun _ _ _ h => h) (Or.inl ⟨by rfl, ?_⟩) (by assumption) ?_
              rotate_left
              · intro w hSw
                (try dsimp only at hSw)
                first | (go_simp; done) | (go_simp; with_reducible rfl)
              (try simp only [Act.put, List.setIfInBounds_toArray, List.set_cons_zero, List.set_cons_succ])
              refine wpAnyH_take (i := 8) (oi := { dst := some 22, op := .extract (.tmp 14) 1, type := 4, pos := "l13_stable.go:64", after := #[⟨6, .data⟩, { on := 10, ground := Ground.gcOnly Departure.lateStores }], guard := none }) (v := ?_) rfl (by kernel_rfl) (by kernel_rfl) (by kernel_rfl) (fun _ _ _ h => h) (Or.inl ⟨by rfl, ?_⟩) (by assumption) ?_
              rotate_left
              · intro w hSw
                (try dsimp only at hSw)
                first | (go_simp; done) | (go_simp; with_reducible rfl)
              (try simp only [Act.put, List.setIfInBounds_toArray, List.set_cons_zero, List.set_cons_succ])
              refine wpAnyH_ready (rs := [9]) (by kernel_rfl) (by simp) ?_
              refine (AllReadyH.cons (o := { dst := some 5, op := .alloc 26, type := 0, pos := "l13_stable.go:64", after := #[], guard := none }) rfl (fun K hK => ?_) AllReadyH.nil)
              obtain ⟨yb, hyb⟩ : ∃ x, z3.heap.size = x := ⟨_, rfl⟩
              obtain ⟨z4, hze⟩ : ∃ x, x = z3.alloc (.cells #[.slice none 0 0] 26) := ⟨_, rfl⟩
              have hba : Below z3.heap.size z3 z4 := by rw [hze]; exact (Below.refl _ _).alloc (Nat.le_refl _) _
              have HIz4 := Lib.hid (HIz3.out.below hba)
              have HXz4 : Hid (z4.heap[yb]? = some (.cells #[.slice none 0 0] 26 (0, 0))) := by rw [hze, ← hyb]; exact heap_alloc_new _ _
              have hyz3 : z3.heap.size ≤ yb := Nat.le_of_eq hyb
              have hXy : X < yb := by rw [← hyb]; exact lt_of_block HIz3.out.box
              have hHy : hi ≤ yb := by rw [← hyb]; exact HIz3.out.high
              have hwy : w.heap.size < yb := by have := HIz3.out.lox; omega
              have hylz4 : yb < z4.heap.size := lt_of_block HXz4.out
              have HTz4 := Lib.hid (HTz3.out.below hba (by omega))
              have hSz4 : z4.cell? ⟨X, 0, none⟩ = some (.slice (some ⟨q, 0, none⟩) 4 c) := one_cell HIz4.out.box
              have hzl : z3.alloc (.cells #[.slice none 0 0] 26) = z4 := hze.symm
              clear hze
              go_simp
              (try rw [hzl])
              (try rw [hyb])
              refine hK.out _ _ hSz4 (fun hHeldB => ?_)
              clear hK K hHeldB hzl hyb hba HIz3
              (try simp only [Act.put, List.setIfInBounds_toArray, List.set_cons_zero, List.set_cons_succ])
              have c9 := one_cell HXz4.out
              have f9 : z4.frozen? ⟨yb, 0, none⟩ = false := frozen_of_row _ _ _ _ _ HXz4.out
              have HJ := Lib.hid (HIz4.out.put (.slice (some ⟨gw, 0, none⟩) 4 cw) hwy (by omega) (.inr hHy))
              have hS9 : (z4.setCell ⟨yb, 0, none⟩ (.slice (some ⟨gw, 0, none⟩) 4 cw)).cell? ⟨X, 0, none⟩ = some (.slice (some ⟨q, 0, none⟩) 4 c) := one_cell HJ.out.box
              have HD := Lib.hid (cell_set1 (.slice (some ⟨gw, 0, none⟩) 4 cw) HXz4.out)
              have HTj : Hid (RowsAt (z4.setCell ⟨yb, 0, none⟩ (.slice (some ⟨gw, 0, none⟩) 4 cw)) nl nh gw 4 fw (rowOf (heardRows l d2 ys))) := HTz4.out.kept fun j a1 a2 => heap_setCell_other _ _ _ _ (by show j ≠ yb; omega)
              have hszj : (z4.setCell ⟨yb, 0, none⟩ (.slice (some ⟨gw, 0, none⟩) 4 cw)).heap.size = z4.heap.size := by simp [World.setCell]
              refine wpAnyH_ready (rs := [10]) (by kernel_rfl) (by simp) ?_
              refine AllReadyH.cons (o := { dst := none, op := .store 26 (.tmp 5) (.tmp 21), type := 0, pos := "l13_stable.go:64", after := #[⟨9, .data⟩, ⟨7, .data⟩, ⟨5, .chain⟩, ⟨0, .phase⟩, ⟨1, .phase⟩, ⟨2, .phase⟩, ⟨3, .phase⟩, ⟨4, .phase⟩, ⟨5, .phase⟩, ⟨6, .phase⟩, ⟨7, .phase⟩, ⟨8, .textOnly .lateStores⟩, ⟨9, .phase⟩], guard := none }) rfl (fun K hK => ?_) AllReadyH.nil
              go_simp
              refine hK.out _ _ hS9 (fun hHeld9 => ?_)
              clear hK K
              (try simp only [Act.put, List.setIfInBounds_toArray, List.set_cons_zero, List.set_cons_succ])
              refine wpAnyH_take (i := 11) (oi := { dst := some 6, op := .assign (.tmp 22), type := 4, pos := "l13_stable.go:64", after := #[⟨8, .data⟩, ⟨10, .chain⟩, ⟨0, .phase⟩, ⟨1, .phase⟩, ⟨2, .phase⟩, ⟨3, .phase⟩, ⟨4, .phase⟩, ⟨5, .phase⟩, ⟨6, .phase⟩, ⟨7, .phase⟩, ⟨8, .phase⟩, ⟨9, .phase⟩, ⟨10, .phase⟩], guard := none }) (v := ?_) rfl (by kernel_rfl) (by kernel_rfl) (by kernel_rfl) (fun _ _ _ h => h) (Or.inl ⟨by rfl, ?_⟩) (by assumption) ?_
              rotate_left
              · intro w hSw
                (try dsimp only at hSw)
                first | (go_simp; done) | (go_simp; with_reducible rfl)
              (try simp only [Act.put, List.setIfInBounds_toArray, List.set_cons_zero, List.set_cons_succ])
              refine wpAnyH_done (by kernel_rfl) ?_ _
              refine hKR _ _ ?_
              have e9 := HD.out
              have HK := Lib.hid (HJ.out.turn (c' := cw) HTj.out HOK.out (by omega) (by rw [hszj]; omega) (by omega))
              have x0 := one_cell HJ.out.box
              have x1 := frozen_of_row _ _ 0 _ _ HJ.out.box
              generalize (z4.setCell ⟨yb, 0, none⟩ (.slice (some ⟨gw, 0, none⟩) 4 cw)) = z9 at HJ HTj HK e9 x0 x1 ⊢
              clear HTj hszj hS9 c9 f9 hHeld9 HD
              go_wp2
              generalize z9.setCell ⟨X, 0, none⟩ (.slice (some ⟨gw, 0, none⟩) 4 cw) = zf at HK ⊢
              go_roundw
              case rel => exact ⟨j - 1, _, _, gw, cw, fw, _, by omega, by go_num, HK⟩
              case measure => simp [intOf]; omega
            ·
              refine hK.out _ _ hSz3 (fun hHeldC => ?_)
              clear hK K hHeldC
              (try simp only [Act.put, List.setIfInBounds_toArray, List.set_cons_zero, List.set_cons_succ])
              refine wpAnyH_take (i := 6) (oi := { dst := some 14, op := .move (.tmp 20), type := 163, pos := "l13_stable.go:64", after := #[⟨5, .data⟩], guard := none }) (v := ?_) rfl (by kernel_rfl) (by kernel_rfl) (by kernel_rfl) (fun _ _ _ h => h) (Or.inl ⟨by rfl, ?_⟩) (by assumption) ?_
              rotate_left
              · intro w hSw
                (try dsimp only at hSw)
                first | (go_simp; done) | (go_simp; with_reducible rfl)
              (try simp only [Act.put, List.setIfInBounds_toArray, List.set_cons_zero, List.set_cons_succ])
              refine wpAnyH_take (i := 7) (oi := { dst := some 21, op := .extract (.tmp 14) 0, type := 26, pos := "l13_stable.go:64", after := #[⟨6, .data⟩], guard := none }) (v := ?_) rfl (by kernel_rfl) (by kernel_rfl) (by kernel_rfl) (fun _ _ _ h => h) (Or.inl ⟨by rfl, ?_⟩) (by assumption) ?_
              rotate_left
              · intro w hSw
                (try dsimp only at hSw)
                first | (go_simp; done) | (go_simp; with_reducible rfl)
              (try simp only [Act.put, List.setIfInBounds_toArray, List.set_cons_zero, List.set_cons_succ])
              refine wpAnyH_take (i := 8) (oi := { dst := some 22, op := .extract (.tmp 14) 1, type := 4, pos := "l13_stable.go:64", after := #[⟨6, .data⟩, { on := 10, ground := Ground.gcOnly Departure.lateStores }], guard := none }) (v := ?_) rfl (by kernel_rfl) (by kernel_rfl) (by kernel_rfl) (fun _ _ _ h => h) (Or.inl ⟨by rfl, ?_⟩) (by assumption) ?_
              rotate_left
              · intro w hSw
                (try dsimp only at hSw)
                first | (go_simp; done) | (go_simp; with_reducible rfl)
              (try simp only [Act.put, List.setIfInBounds_toArray, List.set_cons_zero, List.set_cons_succ])
              refine wpAnyH_ready (rs := [9]) (by kernel_rfl) (by simp) ?_
              refine (AllReadyH.cons (o := { dst := some 5, op := .alloc 26, type := 0, pos := "l13_stable.go:64", after := #[], guard := none }) rfl (fun K hK => ?_) AllReadyH.nil)
              obtain ⟨yb, hyb⟩ : ∃ x, z3.heap.size = x := ⟨_, rfl⟩
              obtain ⟨z5, hze⟩ : ∃ x, x = z3.alloc (.cells #[.slice none 0 0] 26) := ⟨_, rfl⟩
              have hba : Below z3.heap.size z3 z5 := by rw [hze]; exact (Below.refl _ _).alloc (Nat.le_refl _) _
              have HIz5 := Lib.hid (HIz3.out.below hba)
              have HXz5 : Hid (z5.heap[yb]? = some (.cells #[.slice none 0 0] 26 (0, 0))) := by rw [hze, ← hyb]; exact heap_alloc_new _ _
              have hyz3 : z3.heap.size ≤ yb := Nat.le_of_eq hyb
              have hXy : X < yb := by rw [← hyb]; exact lt_of_block HIz3.out.box
              have hHy : hi ≤ yb := by rw [← hyb]; exact HIz3.out.high
              have hwy : w.heap.size < yb := by have := HIz3.out.lox; omega
              have hylz5 : yb < z5.heap.size := lt_of_block HXz5.out
              have hSz5 : z5.cell? ⟨X, 0, none⟩ = some (.slice (some ⟨q, 0, none⟩) 4 c) := one_cell HIz5.out.box
              have hzl : z3.alloc (.cells #[.slice none 0 0] 26) = z5 := hze.symm
              clear hze
              go_simp
              (try rw [hzl])
              (try rw [hyb])
              refine hK.out _ _ hSz5 (fun hHeldB => ?_)
              clear hK K hHeldB hzl hyb hba HIz3
              (try simp only [Act.put, List.setIfInBounds_toArray, List.set_cons_zero, List.set_cons_succ])
              have c9 := one_cell HXz5.out
              have f9 : z5.frozen? ⟨yb, 0, none⟩ = false := frozen_of_row _ _ _ _ _ HXz5.out
              have HJ := Lib.hid (HIz5.out.put (.slice none 0 0) hwy (by omega) (.inr hHy))
              have hS9 : (z5.setCell ⟨yb, 0, none⟩ (.slice none 0 0)).cell? ⟨X, 0, none⟩ = some (.slice (some ⟨q, 0, none⟩) 4 c) := one_cell HJ.out.box
              have HD := Lib.hid (cell_set1 (.slice none 0 0) HXz5.out)
              refine wpAnyH_ready (rs := [10]) (by kernel_rfl) (by simp) ?_
              refine AllReadyH.cons (o := { dst := none, op := .store 26 (.tmp 5) (.tmp 21), type := 0, pos := "l13_stable.go:64", after := #[⟨9, .data⟩, ⟨7, .data⟩, ⟨5, .chain⟩, ⟨0, .phase⟩, ⟨1, .phase⟩, ⟨2, .phase⟩, ⟨3, .phase⟩, ⟨4, .phase⟩, ⟨5, .phase⟩, ⟨6, .phase⟩, ⟨7, .phase⟩, ⟨8, .textOnly .lateStores⟩, ⟨9, .phase⟩], guard := none }) rfl (fun K hK => ?_) AllReadyH.nil
              go_simp
              refine hK.out _ _ hS9 (fun hHeld9 => ?_)
              clear hK K
              (try simp only [Act.put, List.setIfInBounds_toArray, List.set_cons_zero, List.set_cons_succ])
              refine wpAnyH_take (i := 11) (oi := { dst := some 6, op := .assign (.tmp 22), type := 4, pos := "l13_stable.go:64", after := #[⟨8, .data⟩, ⟨10, .chain⟩, ⟨0, .phase⟩, ⟨1, .phase⟩, ⟨2, .phase⟩, ⟨3, .phase⟩, ⟨4, .phase⟩, ⟨5, .phase⟩, ⟨6, .phase⟩, ⟨7, .phase⟩, ⟨8, .phase⟩, ⟨9, .phase⟩, ⟨10, .phase⟩], guard := none }) (v := ?_) rfl (by kernel_rfl) (by kernel_rfl) (by kernel_rfl) (fun _ _ _ h => h) (Or.inl ⟨by rfl, ?_⟩) (by assumption) ?_
              rotate_left
              · intro w hSw
                (try dsimp only at hSw)
                first | (go_simp; done) | (go_simp; with_reducible rfl)
              (try simp only [Act.put, List.setIfInBounds_toArray, List.set_cons_zero, List.set_cons_succ])
              refine wpAnyH_done (by kernel_rfl) ?_ _
              refine hKR _ _ ?_
              generalize (z5.setCell ⟨yb, 0, none⟩ (.slice none 0 0)) = z9 at HJ ⊢
              go_wp2
              go_roundw
              case rel => exact ⟨j - 1, _, _, q, c, f, l, by omega, by go_num, HJ⟩
              case measure => simp [intOf]; omega
          ·
            obtain ⟨yb, hyb⟩ : ∃ x, z2.heap.size = x := ⟨_, rfl⟩
            obtain ⟨z6, hze⟩ : ∃ x, x = z2.alloc (.cells #[.slice none 0 0] 26) := ⟨_, rfl⟩
            have hba : Below z2.heap.size z2 z6 := by rw [hze]; exact (Below.refl _ _).alloc (Nat.le_refl _) _
            have HIz6 := Lib.hid (HIz2.out.below hba)
            have HXz6 : Hid (z6.heap[yb]? = some (.cells #[.slice none 0 0] 26 (0, 0))) := by rw [hze, ← hyb]; exact heap_alloc_new _ _
            have hyz2 : z2.heap.size ≤ yb := Nat.le_of_eq hyb
            have hXy : X < yb := by rw [← hyb]; exact lt_of_block HIz2.out.box
            have hHy : hi ≤ yb := by rw [← hyb]; exact HIz2.out.high
            have hwy : w.heap.size < yb := by have := HIz2.out.lox; omega
            have hylz6 : yb < z6.heap.size := lt_of_block HXz6.out
            have HYz6 := Lib.hid ((HYz2.out.below hba (Nat.le_refl _)).more hba.size)
            have hSz6 : z6.cell? ⟨X, 0, none⟩ = some (.slice (some ⟨q, 0, none⟩) 4 c) := one_cell HIz6.out.box
            have hzl : z2.alloc (.cells #[.slice none 0 0] 26) = z6 := hze.symm
            clear hze
            go_simp
            (try rw [hzl])
            (try rw [hyb])
            refine hK.out _ _ hSz6 (fun hHeldB => ?_)
            clear hK K hHeldB hzl hyb hba HIz2
            (try simp only [Act.put, List.setIfInBounds_toArray, List.set_cons_zero, List.set_cons_succ])
            refine wpAnyH_ready (rs := [5]) (by kernel_rfl) (by simp) ?_
            refine (AllReadyH.cons (o := { dst := some 20, op := .call { callee := .value (.func 141), args := #[.tmp 15, .tmp 17, .tmp 19], argTypes := #[26, 2, 28] }, type := 163, pos := "l13_stable.go:64", after := #[⟨0, .data⟩, ⟨2, .data⟩, ⟨4, .data⟩, ⟨4, .chain⟩], guard := none }) rfl (fun K hK => ?_) AllReadyH.nil)
            go_simp
            go_at_call 141
            refine (specHeard z6 z6.heap.size _ av 4 c nv cv (d1 : Int) l ys ((HIz6.out.tab.irows (ack_row HIz6.out.ok (i := 0) (by omega)).2).more HIz6.out.high) HYz6.out (Nat.le_refl _) (by omega) (by omega) (fun i hi => by rw [vec_len (ack_row HIz6.out.ok hi).1]; omega)).mono ?_
            rintro e z7 ⟨hcase, hb⟩
            have HIz7 := Lib.hid (HIz6.out.below hb)
            have hzsz7 := hb.size
            have HXz7 := Lib.hid ((hb.block _ (lt_of_block HXz6.out)).trans HXz6.out)
            have hyl2 := lt_of_block HXz6.out
            have hSz7 : z7.cell? ⟨X, 0, none⟩ = some (.slice (some ⟨q, 0, none⟩) 4 c) := one_cell HIz7.out.box
            have hXz : X < z6.heap.size := lt_of_block HIz6.out.box
            have hwz : w.heap.size < z6.heap.size := by have := HIz6.out.lox; omega
            clear hb
            rcases hcase with ⟨hhb, d2, gw, cw, fw, hd2, hdd, rfl, hrw⟩ | ⟨hhb, rfl⟩
            ·
              obtain rfl : d2 = d1 := by omega
              have HTz7 := Lib.hid hrw
              have HOK := Lib.hid (heard_ackOk HIz6.out.ok hd2 (by unfold heardB at hhb; simp at hhb; exact hhb.2.2))
              obtain ⟨nl, hnl⟩ : ∃ x, z6.heap.size = x := ⟨_, rfl⟩
              obtain ⟨nh, hnh⟩ : ∃ x, z7.heap.size = x := ⟨_, rfl⟩
              have hnhz : nh ≤ z7.heap.size := Nat.le_of_eq hnh.symm
              rw [hnl, hnh] at HTz7
              clear hrw hhb hnh
              refine hK.out _ _ hSz7 (fun hHeldC => ?_)
              clear hK K hHeldC
              (try simp only [Act.put, List.setIfInBounds_toArray, List.set_cons_zero, List.set_cons_succ])
              refine wpAnyH_take (i := 6) (oi := { dst := some 14, op := .move (.tmp 20), type := 163, pos := "l13_stable.go:64", after := #[⟨5, .data⟩], guard := none }) (v := ?_) rfl (by kernel_rfl) (by kernel_rfl) (by kernel_rfl) (fun _ _ _ h => h) (Or.inl ⟨by rfl, ?_⟩) (by assumption) ?_
              rotate_left
              · intro w hSw
                (try dsimp only at hSw)
                first | (go_simp; done) | (go_simp; with_reducible rfl)
              (try simp only [Act.put, List.setIfInBounds_toArray, List.set_cons_zero, List.set_cons_succ])
              refine wpAnyH_take (i := 7) (oi := { dst := some 21, op := .extract (.tmp 14) 0, type := 26, pos := "l13_stable.go:64", after := #[⟨6, .data⟩], guard := none }) (v := ?_) rfl (by kernel_rfl) (by kernel_rfl) (by kernel_rfl) (fun _ _ _ h => h) (Or.inl ⟨by rfl, ?_⟩) (by assumption) ?_
              rotate_left
              · intro w hSw
                (try dsimp only at hSw)
                first | (go_simp; done) | (go_simp; with_reducible rfl)
              (try simp only [Act.put, List.setIfInBounds_toArray, List.set_cons_zero, List.set_cons_succ])
              refine wpAnyH_take (i := 8) (oi := { dst := some 22, op := .extract (.tmp 14) 1, type := 4, pos := "l13_stable.go:64", after := #[⟨6, .data⟩, { on := 10, ground := Ground.gcOnly Departure.lateStores }], guard := none }) (v := ?_) rfl (by kernel_rfl) (by kernel_rfl) (by kernel_rfl) (fun _ _ _ h => h) (Or.inl ⟨by rfl, ?_⟩) (by assumption) ?_
              rotate_left
              · intro w hSw
                (try dsimp only at hSw)
                first | (go_simp; done) | (go_simp; with_reducible rfl)
              (try simp only [Act.put, List.setIfInBounds_toArray, List.set_cons_zero, List.set_cons_succ])
              have c9 := one_cell HXz7.out
              have f9 : z7.frozen? ⟨yb, 0, none⟩ = false := frozen_of_row _ _ _ _ _ HXz7.out
              have HJ := Lib.hid (HIz7.out.put (.slice (some ⟨gw, 0, none⟩) 4 cw) hwy (by omega) (.inr hHy))
              have hS9 : (z7.setCell ⟨yb, 0, none⟩ (.slice (some ⟨gw, 0, none⟩) 4 cw)).cell? ⟨X, 0, none⟩ = some (.slice (some ⟨q, 0, none⟩) 4 c) := one_cell HJ.out.box
              have HD := Lib.hid (cell_set1 (.slice (some ⟨gw, 0, none⟩) 4 cw) HXz7.out)
              have HTj : Hid (RowsAt (z7.setCell ⟨yb, 0, none⟩ (.slice (some ⟨gw, 0, none⟩) 4 cw)) nl nh gw 4 fw (rowOf (heardRows l d2 ys))) := HTz7.out.kept fun j a1 a2 => heap_setCell_other _ _ _ _ (by show j ≠ yb; omega)
              have hszj : (z7.setCell ⟨yb, 0, none⟩ (.slice (some ⟨gw, 0, none⟩) 4 cw)).heap.size = z7.heap.size := by simp [World.setCell]
              refine wpAnyH_ready (rs := [10]) (by kernel_rfl) (by simp) ?_
              refine AllReadyH.cons (o := { dst := none, op := .store 26 (.tmp 5) (.tmp 21), type := 0, pos := "l13_stable.go:64", after := #[⟨9, .data⟩, ⟨7, .data⟩, ⟨5, .chain⟩, ⟨0, .phase⟩, ⟨1, .phase⟩, ⟨2, .phase⟩, ⟨3, .phase⟩, ⟨4, .phase⟩, ⟨5, .phase⟩, ⟨6, .phase⟩, ⟨7, .phase⟩, ⟨8, .textOnly .lateStores⟩, ⟨9, .phase⟩], guard := none }) rfl (fun K hK => ?_) AllReadyH.nil
              go_simp
              refine hK.out _ _ hS9 (fun hHeld9 => ?_)
              clear hK K
              (try simp only [Act.put, List.setIfInBounds_toArray, List.set_cons_zero, List.set_cons_succ])
              refine wpAnyH_take (i := 11) (oi := { dst := some 6, op := .assign (.tmp 22), type := 4, pos := "l13_stable.go:64", after := #[⟨8, .data⟩, ⟨10, .chain⟩, ⟨0, .phase⟩, ⟨1, .phase⟩, ⟨2, .phase⟩, ⟨3, .phase⟩, ⟨4, .phase⟩, ⟨5, .phase⟩, ⟨6, .phase⟩, ⟨7, .phase⟩, ⟨8, .phase⟩, ⟨9, .phase⟩, ⟨10, .phase⟩], guard := none }) (v := ?_) rfl (by kernel_rfl) (by kernel_rfl) (by kernel_rfl) (fun _ _ _ h => h) (Or.inl ⟨by rfl, ?_⟩) (by assumption) ?_
              rotate_left
              · intro w hSw
                (try dsimp only at hSw)
                first | (go_simp; done) | (go_simp; with_reducible rfl)
              (try simp only [Act.put, List.setIfInBounds_toArray, List.set_cons_zero, List.set_cons_succ])
              refine wpAnyH_done (by kernel_rfl) ?_ _
              refine hKR _ _ ?_
              have e9 := HD.out
              have HK := Lib.hid (HJ.out.turn (c' := cw) HTj.out HOK.out (by omega) (by rw [hszj]; omega) (by omega))
              have x0 := one_cell HJ.out.box
              have x1 := frozen_of_row _ _ 0 _ _ HJ.out.box
              generalize (z7.setCell ⟨yb, 0, none⟩ (.slice (some ⟨gw, 0, none⟩) 4 cw)) = z9 at HJ HTj HK e9 x0 x1 ⊢
              clear HTj hszj hS9 c9 f9 hHeld9 HD
              go_wp2
              generalize z9.setCell ⟨X, 0, none⟩ (.slice (some ⟨gw, 0, none⟩) 4 cw) = zf at HK ⊢
              go_roundw
              case rel => exact ⟨j - 1, _, _, gw, cw, fw, _, by omega, by go_num, HK⟩
              case measure => simp [intOf]; omega
            ·
              refine hK.out _ _ hSz7 (fun hHeldC => ?_)
              clear hK K hHeldC
              (try simp only [Act.put, List.setIfInBounds_toArray, List.set_cons_zero, List.set_cons_succ])
              refine wpAnyH_take (i := 6) (oi := { dst := some 14, op := .move (.tmp 20), type := 163, pos := "l13_stable.go:64", after := #[⟨5, .data⟩], guard := none }) (v := ?_) rfl (by kernel_rfl) (by kernel_rfl) (by kernel_rfl) (fun _ _ _ h => h) (Or.inl ⟨by rfl, ?_⟩) (by assumption) ?_
              rotate_left
              · intro w hSw
                (try dsimp only at hSw)
                first | (go_simp; done) | (go_simp; with_reducible rfl)
              (try simp only [Act.put, List.setIfInBounds_toArray, List.set_cons_zero, List.set_cons_succ])
              refine wpAnyH_take (i := 7) (oi := { dst := some 21, op := .extract (.tmp 14) 0, type := 26, pos := "l13_stable.go:64", after := #[⟨6, .data⟩], guard := none }) (v := ?_) rfl (by kernel_rfl) (by kernel_rfl) (by kernel_rfl) (fun _ _ _ h => h) (Or.inl ⟨by rfl, ?_⟩) (by assumption) ?_
              rotate_left
              · intro w hSw
                (try dsimp only at hSw)
                first | (go_simp; done) | (go_simp; with_reducible rfl)
              (try simp only [Act.put, List.setIfInBounds_toArray, List.set_cons_zero, List.set_cons_succ])
              refine wpAnyH_take (i := 8) (oi := { dst := some 22, op := .extract (.tmp 14) 1, type := 4, pos := "l13_stable.go:64", after := #[⟨6, .data⟩, { on := 10, ground := Ground.gcOnly Departure.lateStores }], guard := none }) (v := ?_) rfl (by kernel_rfl) (by kernel_rfl) (by kernel_rfl) (fun _ _ _ h => h) (Or.inl ⟨by rfl, ?_⟩) (by assumption) ?_
              rotate_left
              · intro w hSw
                (try dsimp only at hSw)
                first | (go_simp; done) | (go_simp; with_reducible rfl)
              (try simp only [Act.put, List.setIfInBounds_toArray, List.set_cons_zero, List.set_cons_succ])
              have c9 := one_cell HXz7.out
              have f9 : z7.frozen? ⟨yb, 0, none⟩ = false := frozen_of_row _ _ _ _ _ HXz7.out
              have HJ := Lib.hid (HIz7.out.put (.slice none 0 0) hwy (by omega) (.inr hHy))
              have hS9 : (z7.setCell ⟨yb, 0, none⟩ (.slice none 0 0)).cell? ⟨X, 0, none⟩ = some (.slice (some ⟨q, 0, none⟩) 4 c) := one_cell HJ.out.box
              have HD := Lib.hid (cell_set1 (.slice none 0 0) HXz7.out)
              refine wpAnyH_ready (rs := [10]) (by kernel_rfl) (by simp) ?_
              refine AllReadyH.cons (o := { dst := none, op := .store 26 (.tmp 5) (.tmp 21), type := 0, pos := "l13_stable.go:64", after := #[⟨9, .data⟩, ⟨7, .data⟩, ⟨5, .chain⟩, ⟨0, .phase⟩, ⟨1, .phase⟩, ⟨2, .phase⟩, ⟨3, .phase⟩, ⟨4, .phase⟩, ⟨5, .phase⟩, ⟨6, .phase⟩, ⟨7, .phase⟩, ⟨8, .textOnly .lateStores⟩, ⟨9, .phase⟩], guard := none }) rfl (fun K hK => ?_) AllReadyH.nil
              go_simp
              refine hK.out _ _ hS9 (fun hHeld9 => ?_)
              clear hK K
              (try simp only [Act.put, List.setIfInBounds_toArray, List.set_cons_zero, List.set_cons_succ])
              refine wpAnyH_take (i := 11) (oi := { dst := some 6, op := .assign (.tmp 22), type := 4, pos := "l13_stable.go:64", after := #[⟨8, .data⟩, ⟨10, .chain⟩, ⟨0, .phase⟩, ⟨1, .phase⟩, ⟨2, .phase⟩, ⟨3, .phase⟩, ⟨4, .phase⟩, ⟨5, .phase⟩, ⟨6, .phase⟩, ⟨7, .phase⟩, ⟨8, .phase⟩, ⟨9, .phase⟩, ⟨10, .phase⟩], guard := none }) (v := ?_) rfl (by kernel_rfl) (by kernel_rfl) (by kernel_rfl) (fun _ _ _ h => h) (Or.inl ⟨by rfl, ?_⟩) (by assumption) ?_
              rotate_left
              · intro w hSw
                (try dsimp only at hSw)
                first | (go_simp; done) | (go_simp; with_reducible rfl)
              (try simp only [Act.put, List.setIfInBounds_toArray, List.set_cons_zero, List.set_cons_succ])
              refine wpAnyH_done (by kernel_rfl) ?_ _
              refine hKR _ _ ?_
              generalize (z7.setCell ⟨yb, 0, none⟩ (.slice none 0 0)) = z9 at HJ ⊢
              go_wp2
              go_roundw
              case rel => exact ⟨j - 1, _, _, q, c, f, l, by omega, by go_num, HJ⟩
              case measure => simp [intOf]; omega
        ·
          obtain ⟨yb, hyb⟩ : ∃ x, z1.heap.size = x := ⟨_, rfl⟩
          obtain ⟨z8, hze⟩ : ∃ x, x = z1.alloc (.cells #[.slice none 0 0] 26) := ⟨_, rfl⟩
          have hba : Below z1.heap.size z1 z8 := by rw [hze]; exact (Below.refl _ _).alloc (Nat.le_refl _) _
          have HIz8 := Lib.hid (HIz1.out.below hba)
          have HXz8 : Hid (z8.heap[yb]? = some (.cells #[.slice none 0 0] 26 (0, 0))) := by rw [hze, ← hyb]; exact heap_alloc_new _ _
          have hyz1 : z1.heap.size ≤ yb := Nat.le_of_eq hyb
          have hXy : X < yb := by rw [← hyb]; exact lt_of_block HIz1.out.box
          have hHy : hi ≤ yb := by rw [← hyb]; exact HIz1.out.high
          have hwy : w.heap.size < yb := by have := HIz1.out.lox; omega
          have hylz8 : yb < z8.heap.size := lt_of_block HXz8.out
          have hSz8 : z8.cell? ⟨X, 0, none⟩ = some (.slice (some ⟨q, 0, none⟩) 4 c) := one_cell HIz8.out.box
          have hzl : z1.alloc (.cells #[.slice none 0 0] 26) = z8 := hze.symm
          clear hze
          go_simp
          (try rw [hzl])
          (try rw [hyb])
          refine hK.out _ _ hSz8 (fun hHeldB => ?_)
          clear hK K hHeldB hzl hyb hba HIz1
          (try simp only [Act.put, List.setIfInBounds_toArray, List.set_cons_zero, List.set_cons_succ])
          refine wpAnyH_ready (rs := [4]) (by kernel_rfl) (by simp) ?_
          refine (AllReadyH.cons (o := { dst := some 19, op := .call { callee := .value (.func 57), args := #[.tmp 18], argTypes := #[65] }, type := 28, pos := "l13_stable.go:64", after := #[⟨3, .data⟩, ⟨2, .chain⟩], guard := none }) rfl (fun K hK => ?_) AllReadyH.nil)
          go_simp
          go_at_call 57
          refine (vec _ B g a len cap HIz8.out.rd).mono ?_
          rintro e z9 ⟨av, nv, cv, ys, hnv, rfl, hIn, hg, hr⟩
          have HIz9 := Lib.hid (HIz8.out.step hg hr)
          have HYz9 := Lib.hid hIn.1
          have HXz9 := Lib.hid ((hg.block _ (lt_of_block HXz8.out) (by intro e; injection e with e; omega)).trans HXz8.out)
          have hSz9 : z9.cell? ⟨X, 0, none⟩ = some (.slice (some ⟨q, 0, none⟩) 4 c) := one_cell HIz9.out.box
          have hzsz9 := hg.size
          clear hg hr hIn
          refine hK.out _ _ hSz9 (fun hHeldC => ?_)
          clear hK K hHeldC
          (try simp only [Act.put, List.setIfInBounds_toArray, List.set_cons_zero, List.set_cons_succ])
          refine wpAnyH_ready (rs := [5]) (by kernel_rfl) (by simp) ?_
          refine (AllReadyH.cons (o := { dst := some 20, op := .call { callee := .value (.func 141), args := #[.tmp 15, .tmp 17, .tmp 19], argTypes := #[26, 2, 28] }, type := 163, pos := "l13_stable.go:64", after := #[⟨0, .data⟩, ⟨2, .data⟩, ⟨4, .data⟩, ⟨4, .chain⟩], guard := none }) rfl (fun K hK => ?_) AllReadyH.nil)
          go_simp
          go_at_call 141
          refine (specHeard z9 z9.heap.size _ av 4 c nv cv (d1 : Int) l ys ((HIz9.out.tab.irows (ack_row HIz9.out.ok (i := 0) (by omega)).2).more HIz9.out.high) HYz9.out (Nat.le_refl _) (by omega) (by omega) (fun i hi => by rw [vec_len (ack_row HIz9.out.ok hi).1]; omega)).mono ?_
          rintro e z10 ⟨hcase, hb⟩
          have HIz10 := Lib.hid (HIz9.out.below hb)
          have hzsz10 := hb.size
          have HXz10 := Lib.hid ((hb.block _ (lt_of_block HXz9.out)).trans HXz9.out)
          have hyl2 := lt_of_block HXz9.out
          have hSz10 : z10.cell? ⟨X, 0, none⟩ = some (.slice (some ⟨q, 0, none⟩) 4 c) := one_cell HIz10.out.box
          have hXz : X < z9.heap.size := lt_of_block HIz9.out.box
          have hwz : w.heap.size < z9.heap.size := by have := HIz9.out.lox; omega
          clear hb
          rcases hcase with ⟨hhb, d2, gw, cw, fw, hd2, hdd, rfl, hrw⟩ | ⟨hhb, rfl⟩
          ·
            obtain rfl : d2 = d1 := by omega
            have HTz10 := Lib.hid hrw
            have HOK := Lib.hid (heard_ackOk HIz9.out.ok hd2 (by unfold heardB at hhb; simp at hhb; exact hhb.2.2))
            obtain ⟨nl, hnl⟩ : ∃ x, z9.heap.size = x := ⟨_, rfl⟩
            obtain ⟨nh, hnh⟩ : ∃ x, z10.heap.size = x := ⟨_, rfl⟩
            have hnhz : nh ≤ z10.heap.size := Nat.le_of_eq hnh.symm
            rw [hnl, hnh] at HTz10
            clear hrw hhb hnh
            refine hK.out _ _ hSz10 (fun hHeldC => ?_)
            clear hK K hHeldC
            (try simp only [Act.put, List.setIfInBounds_toArray, List.set_cons_zero, List.set_cons_succ])
            refine wpAnyH_take (i := 6) (oi := { dst := some 14, op := .move (.tmp 20), type := 163, pos := "l13_stable.go:64", after := #[⟨5, .data⟩], guard := none }) (v := ?_) rfl (by kernel_rfl) (by kernel_rfl) (by kernel_rfl) (fun _ _ _ h => h) (Or.inl ⟨by rfl, ?_⟩) (by assumption) ?_
            rotate_left
            · intro w hSw
              (try dsimp only at hSw)
              first | (go_simp; done) | (go_simp; with_reducible rfl)
            (try simp only [Act.put, List.setIfInBounds_toArray, List.set_cons_zero, List.set_cons_succ])
            refine wpAnyH_take (i := 7) (oi := { dst := some 21, op := .extract (.tmp 14) 0, type := 26, pos := "l13_stable.go:64", after := #[⟨6, .data⟩], guard := none }) (v := ?_) rfl (by kernel_rfl) (by kernel_rfl) (by kernel_rfl) (fun _ _ _ h => h) (Or.inl ⟨by rfl, ?_⟩) (by assumption) ?_
            rotate_left
            · intro w hSw
              (try dsimp only at hSw)
              first | (go_simp; done) | (go_simp; with_reducible rfl)
            (try simp only [Act.put, List.setIfInBounds_toArray, List.set_cons_zero, List.set_cons_succ])
            refine wpAnyH_take (i := 8) (oi := { dst := some 22, op := .extract (.tmp 14) 1, type := 4, pos := "l13_stable.go:64", after := #[⟨6, .data⟩, { on := 10, ground := Ground.gcOnly Departure.lateStores }], guard := none }) (v := ?_) rfl (by kernel_rfl) (by kernel_rfl) (by kernel_rfl) (fun _ _ _ h => h) (Or.inl ⟨by rfl, ?_⟩) (by assumption) ?_
            rotate_left
            · intro w hSw
              (try dsimp only at hSw)
              first | (go_simp; done) | (go_simp; with_reducible rfl)
            (try simp only [Act.put, List.setIfInBounds_toArray, List.set_cons_zero, List.set_cons_succ])
            have c9 := one_cell HXz10.out
            have f9 : z10.frozen? ⟨yb, 0, none⟩ = false := frozen_of_row _ _ _ _ _ HXz10.out
            have HJ := Lib.hid (HIz10.out.put (.slice (some ⟨gw, 0, none⟩) 4 cw) hwy (by omega) (.inr hHy))
            have hS9 : (z10.setCell ⟨yb, 0, none⟩ (.slice (some ⟨gw, 0, none⟩) 4 cw)).cell? ⟨X, 0, none⟩ = some (.slice (some ⟨q, 0, none⟩) 4 c) := one_cell HJ.out.box
            have HD := Lib.hid (cell_set1 (.slice (some ⟨gw, 0, none⟩) 4 cw) HXz10.out)
            have HTj : Hid (RowsAt (z10.setCell ⟨yb, 0, none⟩ (.slice (some ⟨gw, 0, none⟩) 4 cw)) nl nh gw 4 fw (rowOf (heardRows l d2 ys))) := HTz10.out.kept fun j a1 a2 => heap_setCell_other _ _ _ _ (by show j ≠ yb; omega)
            have hszj : (z10.setCell ⟨yb, 0, none⟩ (.slice (some ⟨gw, 0, none⟩) 4 cw)).heap.size = z10.heap.size := by simp [World.setCell]
            refine wpAnyH_ready (rs := [10]) (by kernel_rfl) (by simp) ?_
            refine AllReadyH.cons (o := { dst := none, op := .store 26 (.tmp 5) (.tmp 21), type := 0, pos := "l13_stable.go:64", after := #[⟨9, .data⟩, ⟨7, .data⟩, ⟨5, .chain⟩, ⟨0, .phase⟩, ⟨1, .phase⟩, ⟨2, .phase⟩, ⟨3, .phase⟩, ⟨4, .phase⟩, ⟨5, .phase⟩, ⟨6, .phase⟩, ⟨7, .phase⟩, ⟨8, .textOnly .lateStores⟩, ⟨9, .phase⟩], guard := none }) rfl (fun K hK => ?_) AllReadyH.nil
            go_simp
            refine hK.out _ _ hS9 (fun hHeld9 => ?_)
            clear hK K
            (try simp only [Act.put, List.setIfInBounds_toArray, List.set_cons_zero, List.set_cons_succ])
            refine wpAnyH_take (i := 11) (oi := { dst := some 6, op := .assign (.tmp 22), type := 4, pos := "l13_stable.go:64", after := #[⟨8, .data⟩, ⟨10, .chain⟩, ⟨0, .phase⟩, ⟨1, .phase⟩, ⟨2, .phase⟩, ⟨3, .phase⟩, ⟨4, .phase⟩, ⟨5, .phase⟩, ⟨6, .phase⟩, ⟨7, .phase⟩, ⟨8, .phase⟩, ⟨9, .phase⟩, ⟨10, .phase⟩], guard := none }) (v := ?_) rfl (by kernel_rfl) (by kernel_rfl) (by kernel_rfl) (fun _ _ _ h => h) (Or.inl ⟨by rfl, ?_⟩) (by assumption) ?_
            rotate_left
            · intro w hSw
              (try dsimp only at hSw)
              first | (go_simp; done) | (go_simp; with_reducible rfl)
            (try simp only [Act.put, List.setIfInBounds_toArray, List.set_cons_zero, List.set_cons_succ])
            refine wpAnyH_done (by kernel_rfl) ?_ _
            refine hKR _ _ ?_
            have e9 := HD.out
            have HK := Lib.hid (HJ.out.turn (c' := cw) HTj.out HOK.out (by omega) (by rw [hszj]; omega) (by omega))
            have x0 := one_cell HJ.out.box
            have x1 := frozen_of_row _ _ 0 _ _ HJ.out.box
            generalize (z10.setCell ⟨yb, 0, none⟩ (.slice (some ⟨gw, 0, none⟩) 4 cw)) = z9 at HJ HTj HK e9 x0 x1 ⊢
            clear HTj hszj hS9 c9 f9 hHeld9 HD
            go_wp2
            generalize z9.setCell ⟨X, 0, none⟩ (.slice (some ⟨gw, 0, none⟩) 4 cw) = zf at HK ⊢
            go_roundw
            case rel => exact ⟨j - 1, _, _, gw, cw, fw, _, by omega, by go_num, HK⟩
            case measure => simp [intOf]; omega
          ·
            refine hK.out _ _ hSz10 (fun hHeldC => ?_)
            clear hK K hHeldC
            (try simp only [Act.put, List.setIfInBounds_toArray, List.set_cons_zero, List.set_cons_succ])
            refine wpAnyH_take (i := 6) (oi := { dst := some 14, op := .move (.tmp 20), type := 163, pos := "l13_stable.go:64", after := #[⟨5, .data⟩], guard := none }) (v := ?_) rfl (by kernel_rfl) (by kernel_rfl) (by kernel_rfl) (fun _ _ _ h => h) (Or.inl ⟨by rfl, ?_⟩) (by assumption) ?_
            rotate_left
            · intro w hSw
              (try dsimp only at hSw)
              first | (go_simp; done) | (go_simp; with_reducible rfl)
            (try simp only [Act.put, List.setIfInBounds_toArray, List.set_cons_zero, List.set_cons_succ])
            refine wpAnyH_take (i := 7) (oi := { dst := some 21, op := .extract (.tmp 14) 0, type := 26, pos := "l13_stable.go:64", after := #[⟨6, .data⟩], guard := none }) (v := ?_) rfl (by kernel_rfl) (by kernel_rfl) (by kernel_rfl) (fun _ _ _ h => h) (Or.inl ⟨by rfl, ?_⟩) (by assumption) ?_
            rotate_left
            · intro w hSw
              (try dsimp only at hSw)
              first | (go_simp; done) | (go_simp; with_reducible rfl)
            (try simp only [Act.put, List.setIfInBounds_toArray, List.set_cons_zero, List.set_cons_succ])
            refine wpAnyH_take (i := 8) (oi := { dst := some 22, op := .extract (.tmp 14) 1, type := 4, pos := "l13_stable.go:64", after := #[⟨6, .data⟩, { on := 10, ground := Ground.gcOnly Departure.lateStores }], guard := none }) (v := ?_) rfl (by kernel_rfl) (by kernel_rfl) (by kernel_rfl) (fun _ _ _ h => h) (Or.inl ⟨by rfl, ?_⟩) (by assumption) ?_
            rotate_left
            · intro w hSw
              (try dsimp only at hSw)
              first | (go_simp; done) | (go_simp; with_reducible rfl)
            (try simp only [Act.put, List.setIfInBounds_toArray, List.set_cons_zero, List.set_cons_succ])
            have c9 := one_cell HXz10.out
            have f9 : z10.frozen? ⟨yb, 0, none⟩ = false := frozen_of_row _ _ _ _ _ HXz10.out
            have HJ := Lib.hid (HIz10.out.put (.slice none 0 0) hwy (by omega) (.inr hHy))
            have hS9 : (z10.setCell ⟨yb, 0, none⟩ (.slice none 0 0)).cell? ⟨X, 0, none⟩ = some (.slice (some ⟨q, 0, none⟩) 4 c) := one_cell HJ.out.box
            have HD := Lib.hid (cell_set1 (.slice none 0 0) HXz10.out)
            refine wpAnyH_ready (rs := [10]) (by kernel_rfl) (by simp) ?_
            refine AllReadyH.cons (o := { dst := none, op := .store 26 (.tmp 5) (.tmp 21), type := 0, pos := "l13_stable.go:64", after := #[⟨9, .data⟩, ⟨7, .data⟩, ⟨5, .chain⟩, ⟨0, .phase⟩, ⟨1, .phase⟩, ⟨2, .phase⟩, ⟨3, .phase⟩, ⟨4, .phase⟩, ⟨5, .phase⟩, ⟨6, .phase⟩, ⟨7, .phase⟩, ⟨8, .textOnly .lateStores⟩, ⟨9, .phase⟩], guard := none }) rfl (fun K hK => ?_) AllReadyH.nil
            go_simp
            refine hK.out _ _ hS9 (fun hHeld9 => ?_)
            clear hK K
            (try simp only [Act.put, List.setIfInBounds_toArray, List.set_cons_zero, List.set_cons_succ])
            refine wpAnyH_take (i := 11) (oi := { dst := some 6, op := .assign (.tmp 22), type := 4, pos := "l13_stable.go:64", after := #[⟨8, .data⟩, ⟨10, .chain⟩, ⟨0, .phase⟩, ⟨1, .phase⟩, ⟨2, .phase⟩, ⟨3, .phase⟩, ⟨4, .phase⟩, ⟨5, .phase⟩, ⟨6, .phase⟩, ⟨7, .phase⟩, ⟨8, .phase⟩, ⟨9, .phase⟩, ⟨10, .phase⟩], guard := none }) (v := ?_) rfl (by kernel_rfl) (by kernel_rfl) (by kernel_rfl) (fun _ _ _ h => h) (Or.inl ⟨by rfl, ?_⟩) (by assumption) ?_
            rotate_left
            · intro w hSw
              (try dsimp only at hSw)
              first | (go_simp; done) | (go_simp; with_reducible rfl)
            (try simp only [Act.put, List.setIfInBounds_toArray, List.set_cons_zero, List.set_cons_succ])
            refine wpAnyH_done (by kernel_rfl) ?_ _
            refine hKR _ _ ?_
            generalize (z10.setCell ⟨yb, 0, none⟩ (.slice none 0 0)) = z9 at HJ ⊢
            go_wp2
            go_roundw
            case rel => exact ⟨j - 1, _, _, q, c, f, l, by omega, by go_num, HJ⟩
            case measure => simp [intOf]; omega
      ·
        obtain ⟨yb, hyb⟩ : ∃ x, z0.heap.size = x := ⟨_, rfl⟩
        obtain ⟨z11, hze⟩ : ∃ x, x = z0.alloc (.cells #[.slice none 0 0] 26) := ⟨_, rfl⟩
        have hba : Below z0.heap.size z0 z11 := by rw [hze]; exact (Below.refl _ _).alloc (Nat.le_refl _) _
        have HIz11 := Lib.hid (HIz0.out.below hba)
        have HXz11 : Hid (z11.heap[yb]? = some (.cells #[.slice none 0 0] 26 (0, 0))) := by rw [hze, ← hyb]; exact heap_alloc_new _ _
        have hyz0 : z0.heap.size ≤ yb := Nat.le_of_eq hyb
        have hXy : X < yb := by rw [← hyb]; exact lt_of_block HIz0.out.box
        have hHy : hi ≤ yb := by rw [← hyb]; exact HIz0.out.high
        have hwy : w.heap.size < yb := by have := HIz0.out.lox; omega
        have hylz11 : yb < z11.heap.size := lt_of_block HXz11.out
        have hSz11 : z11.cell? ⟨X, 0, none⟩ = some (.slice (some ⟨q, 0, none⟩) 4 c) := one_cell HIz11.out.box
        have hzl : z0.alloc (.cells #[.slice none 0 0] 26) = z11 := hze.symm
        clear hze
        go_simp
        (try rw [hzl])
        (try rw [hyb])
        refine hK.out _ _ hSz11 (fun hHeldB => ?_)
        clear hK K hHeldB hzl hyb hba HIz0
        (try simp only [Act.put, List.setIfInBounds_toArray, List.set_cons_zero, List.set_cons_succ])
        refine wpAnyH_ready (rs := [2]) (by kernel_rfl) (by simp) ?_
        refine (AllReadyH.cons (o := { dst := some 17, op := .call { callee := .value (.func 84), args := #[.tmp 16, .const (Value.int IntKind.i64 4)], argTypes := #[65, 3] }, type := 3, pos := "l13_stable.go:64", after := #[⟨1, .data⟩], guard := none }) rfl (fun K hK => ?_) AllReadyH.nil)
        go_simp
        go_at_call 84
        refine (belowI _ B g a len cap HIz11.out.rd 4 (by omega) (by omega)).mono ?_
        rintro e z12 ⟨d1, hd1, rfl, hg, hr⟩
        have HIz12 := Lib.hid (HIz11.out.step hg hr)
        have hd4 : d1 < 4 := hd1
        have hgl2 := hgl
        have HXz12 := Lib.hid ((hg.block _ (lt_of_block HXz11.out) (by intro e; injection e with e; omega)).trans HXz11.out)
        have hSz12 : z12.cell? ⟨X, 0, none⟩ = some (.slice (some ⟨q, 0, none⟩) 4 c) := one_cell HIz12.out.box
        have hzsz12 := hg.size
        clear hg hr hd1
        refine hK.out _ _ hSz12 (fun hHeldC => ?_)
        clear hK K hHeldC
        (try simp only [Act.put, List.setIfInBounds_toArray, List.set_cons_zero, List.set_cons_succ])
        refine wpAnyH_ready (rs := [4]) (by kernel_rfl) (by simp) ?_
        refine (AllReadyH.cons (o := { dst := some 19, op := .call { callee := .value (.func 57), args := #[.tmp 18], argTypes := #[65] }, type := 28, pos := "l13_stable.go:64", after := #[⟨3, .data⟩, ⟨2, .chain⟩], guard := none }) rfl (fun K hK => ?_) AllReadyH.nil)
        go_simp
        go_at_call 57
        refine (vec _ B g a len cap HIz12.out.rd).mono ?_
        rintro e z13 ⟨av, nv, cv, ys, hnv, rfl, hIn, hg, hr⟩
        have HIz13 := Lib.hid (HIz12.out.step hg hr)
        have HYz13 := Lib.hid hIn.1
        have HXz13 := Lib.hid ((hg.block _ (lt_of_block HXz12.out) (by intro e; injection e with e; omega)).trans HXz12.out)
        have hSz13 : z13.cell? ⟨X, 0, none⟩ = some (.slice (some ⟨q, 0, none⟩) 4 c) := one_cell HIz13.out.box
        have hzsz13 := hg.size
        clear hg hr hIn
        refine hK.out _ _ hSz13 (fun hHeldC => ?_)
        clear hK K hHeldC
        (try simp only [Act.put, List.setIfInBounds_toArray, List.set_cons_zero, List.set_cons_succ])
        refine wpAnyH_ready (rs := [5]) (by kernel_rfl) (by simp) ?_
        refine (AllReadyH.cons (o := { dst := some 20, op := .call { callee := .value (.func 141), args := #[.tmp 15, .tmp 17, .tmp 19], argTypes := #[26, 2, 28] }, type := 163, pos := "l13_stable.go:64", after := #[⟨0, .data⟩, ⟨2, .data⟩, ⟨4, .data⟩, ⟨4, .chain⟩], guard := none }) rfl (fun K hK => ?_) AllReadyH.nil)
        go_simp
        go_at_call 141
        refine (specHeard z13 z13.heap.size _ av 4 c nv cv (d1 : Int) l ys ((HIz13.out.tab.irows (ack_row HIz13.out.ok (i := 0) (by omega)).2).more HIz13.out.high) HYz13.out (Nat.le_refl _) (by omega) (by omega) (fun i hi => by rw [vec_len (ack_row HIz13.out.ok hi).1]; omega)).mono ?_
        rintro e z14 ⟨hcase, hb⟩
        have HIz14 := Lib.hid (HIz13.out.below hb)
        have hzsz14 := hb.size
        have HXz14 := Lib.hid ((hb.block _ (lt_of_block HXz13.out)).trans HXz13.out)
        have hyl2 := lt_of_block HXz13.out
        have hSz14 : z14.cell? ⟨X, 0, none⟩ = some (.slice (some ⟨q, 0, none⟩) 4 c) := one_cell HIz14.out.box
        have hXz : X < z13.heap.size := lt_of_block HIz13.out.box
        have hwz : w.heap.size < z13.heap.size := by have := HIz13.out.lox; omega
        clear hb
        rcases hcase with ⟨hhb, d2, gw, cw, fw, hd2, hdd, rfl, hrw⟩ | ⟨hhb, rfl⟩
        ·
          obtain rfl : d2 = d1 := by omega
          have HTz14 := Lib.hid hrw
          have HOK := Lib.hid (heard_ackOk HIz13.out.ok hd2 (by unfold heardB at hhb; simp at hhb; exact hhb.2.2))
          obtain ⟨nl, hnl⟩ : ∃ x, z13.heap.size = x := ⟨_, rfl⟩
          obtain ⟨nh, hnh⟩ : ∃ x, z14.heap.size = x := ⟨_, rfl⟩
          have hnhz : nh ≤ z14.heap.size := Nat.le_of_eq hnh.symm
          rw [hnl, hnh] at HTz14
          clear hrw hhb hnh
          refine hK.out _ _ hSz14 (fun hHeldC => ?_)
          clear hK K hHeldC
          (try simp only [Act.put, List.setIfInBounds_toArray, List.set_cons_zero, List.set_cons_succ])
          refine wpAnyH_take (i := 6) (oi := { dst := some 14, op := .move (.tmp 20), type := 163, pos := "l13_stable.go:64", after := #[⟨5, .data⟩], guard := none }) (v := ?_) rfl (by kernel_rfl) (by kernel_rfl) (by kernel_rfl) (fun _ _ _ h => h) (Or.inl ⟨by rfl, ?_⟩) (by assumption) ?_
          rotate_left
          · intro w hSw
            (try dsimp only at hSw)
            first | (go_simp; done) | (go_simp; with_reducible rfl)
          (try simp only [Act.put, List.setIfInBounds_toArray, List.set_cons_zero, List.set_cons_succ])
          refine wpAnyH_take (i := 7) (oi := { dst := some 21, op := .extract (.tmp 14) 0, type := 26, pos := "l13_stable.go:64", after := #[⟨6, .data⟩], guard := none }) (v := ?_) rfl (by kernel_rfl) (by kernel_rfl) (by kernel_rfl) (fun _ _ _ h => h) (Or.inl ⟨by rfl, ?_⟩) (by assumption) ?_
          rotate_left
          · intro w hSw
            (try dsimp only at hSw)
            first | (go_simp; done) | (go_simp; with_reducible rfl)
          (try simp only [Act.put, List.setIfInBounds_toArray, List.set_cons_zero, List.set_cons_succ])
          refine wpAnyH_take (i := 8) (oi := { dst := some 22, op := .extract (.tmp 14) 1, type := 4, pos := "l13_stable.go:64", after := #[⟨6, .data⟩, { on := 10, ground := Ground.gcOnly Departure.lateStores }], guard := none }) (v := ?_) rfl (by kernel_rfl) (by kernel_rfl) (by kernel_rfl) (fun _ _ _ h => h) (Or.inl ⟨by rfl, ?_⟩) (by assumption) ?_
          rotate_left
          · intro w hSw
            (try dsimp only at hSw)
            first | (go_simp; done) | (go_simp; with_reducible rfl)
          (try simp only [Act.put, List.setIfInBounds_toArray, List.set_cons_zero, List.set_cons_succ])
          have c9 := one_cell HXz14.out
          have f9 : z14.frozen? ⟨yb, 0, none⟩ = false := frozen_of_row _ _ _ _ _ HXz14.out
          have HJ := Lib.hid (HIz14.out.put (.slice (some ⟨gw, 0, none⟩) 4 cw) hwy (by omega) (.inr hHy))
          have hS9 : (z14.setCell ⟨yb, 0, none⟩ (.slice (some ⟨gw, 0, none⟩) 4 cw)).cell? ⟨X, 0, none⟩ = some (.slice (some ⟨q, 0, none⟩) 4 c) := one_cell HJ.out.box
          have HD := Lib.hid (cell_set1 (.slice (some ⟨gw, 0, none⟩) 4 cw) HXz14.out)
          have HTj : Hid (RowsAt (z14.setCell ⟨yb, 0, none⟩ (.slice (some ⟨gw, 0, none⟩) 4 cw)) nl nh gw 4 fw (rowOf (heardRows l d2 ys))) := HTz14.out.kept fun j a1 a2 => heap_setCell_other _ _ _ _ (by show j ≠ yb; omega)
          have hszj : (z14.setCell ⟨yb, 0, none⟩ (.slice (some ⟨gw, 0, none⟩) 4 cw)).heap.size = z14.heap.size := by simp [World.setCell]
          refine wpAnyH_ready (rs := [10]) (by kernel_rfl) (by simp) ?_
          refine AllReadyH.cons (o := { dst := none, op := .store 26 (.tmp 5) (.tmp 21), type := 0, pos := "l13_stable.go:64", after := #[⟨9, .data⟩, ⟨7, .data⟩, ⟨5, .chain⟩, ⟨0, .phase⟩, ⟨1, .phase⟩, ⟨2, .phase⟩, ⟨3, .phase⟩, ⟨4, .phase⟩, ⟨5, .phase⟩, ⟨6, .phase⟩, ⟨7, .phase⟩, ⟨8, .textOnly .lateStores⟩, ⟨9, .phase⟩], guard := none }) rfl (fun K hK => ?_) AllReadyH.nil
          go_simp
          refine hK.out _ _ hS9 (fun hHeld9 => ?_)
          clear hK K
          (try simp only [Act.put, List.setIfInBounds_toArray, List.set_cons_zero, List.set_cons_succ])
          refine wpAnyH_take (i := 11) (oi := { dst := some 6, op := .assign (.tmp 22), type := 4, pos := "l13_stable.go:64", after := #[⟨8, .data⟩, ⟨10, .chain⟩, ⟨0, .phase⟩, ⟨1, .phase⟩, ⟨2, .phase⟩, ⟨3, .phase⟩, ⟨4, .phase⟩, ⟨5, .phase⟩, ⟨6, .phase⟩, ⟨7, .phase⟩, ⟨8, .phase⟩, ⟨9, .phase⟩, ⟨10, .phase⟩], guard := none }) (v := ?_) rfl (by kernel_rfl) (by kernel_rfl) (by kernel_rfl) (fun _ _ _ h => h) (Or.inl ⟨by rfl, ?_⟩) (by assumption) ?_
          rotate_left
          · intro w hSw
            (try dsimp only at hSw)
            first | (go_simp; done) | (go_simp; with_reducible rfl)
          (try simp only [Act.put, List.setIfInBounds_toArray, List.set_cons_zero, List.set_cons_succ])
          refine wpAnyH_done (by kernel_rfl) ?_ _
          refine hKR _ _ ?_
          have e9 := HD.out
          have HK := Lib.hid (HJ.out.turn (c' := cw) HTj.out HOK.out (by omega) (by rw [hszj]; omega) (by omega))
          have x0 := one_cell HJ.out.box
          have x1 := frozen_of_row _ _ 0 _ _ HJ.out.box
          generalize (z14.setCell ⟨yb, 0, none⟩ (.slice (some ⟨gw, 0, none⟩) 4 cw)) = z9 at HJ HTj HK e9 x0 x1 ⊢
          clear HTj hszj hS9 c9 f9 hHeld9 HD
          go_wp2
          generalize z9.setCell ⟨X, 0, none⟩ (.slice (some ⟨gw, 0, none⟩) 4 cw) = zf at HK ⊢
          go_roundw
          case rel => exact ⟨j - 1, _, _, gw, cw, fw, _, by omega, by go_num, HK⟩
          case measure => simp [intOf]; omega
        ·
          refine hK.out _ _ hSz14 (fun hHeldC => ?_)
          clear hK K hHeldC
          (try simp only [Act.put, List.setIfInBounds_toArray, List.set_cons_zero, List.set_cons_succ])
          refine wpAnyH_take (i := 6) (oi := { dst := some 14, op := .move (.tmp 20), type := 163, pos := "l13_stable.go:64", after := #[⟨5, .data⟩], guard := none }) (v := ?_) rfl (by kernel_rfl) (by kernel_rfl) (by kernel_rfl) (fun _ _ _ h => h) (Or.inl ⟨by rfl, ?_⟩) (by assumption) ?_
          rotate_left
          · intro w hSw
            (try dsimp only at hSw)
            first | (go_simp; done) | (go_simp; with_reducible rfl)
          (try simp only [Act.put, List.setIfInBounds_toArray, List.set_cons_zero, List.set_cons_succ])
          refine wpAnyH_take (i := 7) (oi := { dst := some 21, op := .extract (.tmp 14) 0, type := 26, pos := "l13_stable.go:64", after := #[⟨6, .data⟩], guard := none }) (v := ?_) rfl (by kernel_rfl) (by kernel_rfl) (by kernel_rfl) (fun _ _ _ h => h) (Or.inl ⟨by rfl, ?_⟩) (by assumption) ?_
          rotate_left
          · intro w hSw
            (try dsimp only at hSw)
            first | (go_simp; done) | (go_simp; with_reducible rfl)
          (try simp only [Act.put, List.setIfInBounds_toArray, List.set_cons_zero, List.set_cons_succ])
          refine wpAnyH_take (i := 8) (oi := { dst := some 22, op := .extract (.tmp 14) 1, type := 4, pos := "l13_stable.go:64", after := #[⟨6, .data⟩, { on := 10, ground := Ground.gcOnly Departure.lateStores }], guard := none }) (v := ?_) rfl (by kernel_rfl) (by kernel_rfl) (by kernel_rfl) (fun _ _ _ h => h) (Or.inl ⟨by rfl, ?_⟩) (by assumption) ?_
          rotate_left
          · intro w hSw
            (try dsimp only at hSw)
            first | (go_simp; done) | (go_simp; with_reducible rfl)
          (try simp only [Act.put, List.setIfInBounds_toArray, List.set_cons_zero, List.set_cons_succ])
          have c9 := one_cell HXz14.out
          have f9 : z14.frozen? ⟨yb, 0, none⟩ = false := frozen_of_row _ _ _ _ _ HXz14.out
          have HJ := Lib.hid (HIz14.out.put (.slice none 0 0) hwy (by omega) (.inr hHy))
          have hS9 : (z14.setCell ⟨yb, 0, none⟩ (.slice none 0 0)).cell? ⟨X, 0, none⟩ = some (.slice (some ⟨q, 0, none⟩) 4 c) := one_cell HJ.out.box
          have HD := Lib.hid (cell_set1 (.slice none 0 0) HXz14.out)
          refine wpAnyH_ready (rs := [10]) (by kernel_rfl) (by simp) ?_
          refine AllReadyH.cons (o := { dst := none, op := .store 26 (.tmp 5) (.tmp 21), type := 0, pos := "l13_stable.go:64", after := #[⟨9, .data⟩, ⟨7, .data⟩, ⟨5, .chain⟩, ⟨0, .phase⟩, ⟨1, .phase⟩, ⟨2, .phase⟩, ⟨3, .phase⟩, ⟨4, .phase⟩, ⟨5, .phase⟩, ⟨6, .phase⟩, ⟨7, .phase⟩, ⟨8, .textOnly .lateStores⟩, ⟨9, .phase⟩], guard := none }) rfl (fun K hK => ?_) AllReadyH.nil
          go_simp
          refine hK.out _ _ hS9 (fun hHeld9 => ?_)
          clear hK K
          (try simp only [Act.put, List.setIfInBounds_toArray, List.set_cons_zero, List.set_cons_succ])
          refine wpAnyH_take (i := 11) (oi := { dst := some 6, op := .assign (.tmp 22), type := 4, pos := "l13_stable.go:64", after := #[⟨8, .data⟩, ⟨10, .chain⟩, ⟨0, .phase⟩, ⟨1, .phase⟩, ⟨2, .phase⟩, ⟨3, .phase⟩, ⟨4, .phase⟩, ⟨5, .phase⟩, ⟨6, .phase⟩, ⟨7, .phase⟩, ⟨8, .phase⟩, ⟨9, .phase⟩, ⟨10, .phase⟩], guard := none }) (v := ?_) rfl (by kernel_rfl) (by kernel_rfl) (by kernel_rfl) (fun _ _ _ h => h) (Or.inl ⟨by rfl, ?_⟩) (by assumption) ?_
          rotate_left
          · intro w hSw
            (try dsimp only at hSw)
            first | (go_simp; done) | (go_simp; with_reducible rfl)
          (try simp only [Act.put, List.setIfInBounds_toArray, List.set_cons_zero, List.set_cons_succ])
          refine wpAnyH_done (by kernel_rfl) ?_ _
          refine hKR _ _ ?_
          generalize (z14.setCell ⟨yb, 0, none⟩ (.slice none 0 0)) = z9 at HJ ⊢
          go_wp2
          go_roundw
          case rel => exact ⟨j - 1, _, _, q, c, f, l, by omega, by go_num, HJ⟩
          case measure => simp [intOf]; omega
    · obtain rfl : j = 0 := by omega
      go_wp2_with fail
      refine (once wr B g a len cap HI.out.rd 20 (by omega) (by omega)).mono ?_
      rintro e w5 ⟨o1, rfl, hg5, hr5⟩
      have HI5 := Lib.hid (HI.out.step hg5 hr5)
      clear hg5 hr5 HI
      rcases o1 with _ | _
      · obtain ⟨x, l', rfl⟩ : ∃ x l', l = x :: l' := by
          cases l with
          | nil => have := (ack_row HI5.out.ok (i := 0) (by omega)).2; simp at this
          | cons x l' => exact ⟨x, l', rfl⟩
        have HE := Lib.hid HI5.out.e
        go_wp2_with fail
        refine (once w5 B g a len cap HE.out.rd 40 (by omega) (by omega)).mono ?_
        rintro e w8 ⟨o2, rfl, hg8, hr8⟩
        have HE8 := Lib.hid (HE.out.step hg8 hr8)
        clear hg8 hr8 HE
        have x0 := one_cell HE8.out.box
        have xf : w8.frozen? ⟨X, 0, none⟩ = false := frozen_of_row _ _ _ _ _ HE8.out.box
        have r0 := one_cell HE8.out.res
        have rf : w8.frozen? ⟨w.heap.size, 0, none⟩ = false := frozen_of_row _ _ _ _ _ HE8.out.res
        have hwX := HE8.out.lox
        rcases o2 with _ | _
        · have HD := Lib.hid (cell_set1 (.slice (some ⟨q, 0, none⟩) 4 c) HE8.out.res)
          have HY : Hid (YieldsAcks w B g a len cap (.returned (.agg #[.slice (some ⟨q, 0, none⟩) 4 c])) (w8.setCell ⟨w.heap.size, 0, none⟩ (.slice (some ⟨q, 0, none⟩) 4 c))) := Lib.hid (HE8.out.fin (some ⟨q, 0, none⟩) 4 c _ (by omega) HE8.out.rows)
          go_wp2
          have d0 := HD.out
          generalize w8.setCell ⟨w.heap.size, 0, none⟩ (.slice (some ⟨q, 0, none⟩) 4 c) = wf at d0 HY ⊢
          exact bodyPost_ret (v := .agg #[.slice (some ⟨q, 0, none⟩) 4 c]) (by simp [results, Try.results105, go_sem, d0]) rfl HY.out
        by_cases hc1 : c = 1
        · subst hc1
          have HD := Lib.hid (cell_set1 (w := w8.setCell ⟨X, 0, none⟩ (.slice (some ⟨q, 0, none⟩) 3 0)) (.slice (some ⟨q, 0, none⟩) 3 0) ((heap_setCell_other _ _ _ _ (by show w.heap.size ≠ X; omega)).trans HE8.out.res))
          have HY := Lib.hid (HE8.out.fin2 (some ⟨q, 0, none⟩) 3 0 (.slice (some ⟨q, 0, none⟩) 3 0) (.slice (some ⟨q, 0, none⟩) 3 0) (by omega) HE8.out.rows.front)
          go_wp2
          have d0 := HD.out
          generalize (w8.setCell ⟨X, 0, none⟩ (.slice (some ⟨q, 0, none⟩) 3 0)).setCell ⟨w.heap.size, 0, none⟩ (.slice (some ⟨q, 0, none⟩) 3 0) = wf at d0 HY ⊢
          exact bodyPost_ret (v := .agg #[.slice (some ⟨q, 0, none⟩) 3 0]) (by simp [results, Try.results105, go_sem, d0]) rfl HY.out
        have HD := Lib.hid (cell_set1 (w := w8.setCell ⟨X, 0, none⟩ (.slice (some ⟨q, 1, none⟩) 3 (c - 1))) (.slice (some ⟨q, 1, none⟩) 3 (c - 1)) ((heap_setCell_other _ _ _ _ (by show w.heap.size ≠ X; omega)).trans HE8.out.res))
        have HY := Lib.hid (HE8.out.fin2 (some ⟨q, 1, none⟩) 3 (c - 1) (.slice (some ⟨q, 1, none⟩) 3 (c - 1)) (.slice (some ⟨q, 1, none⟩) 3 (c - 1)) (by omega) HE8.out.rows.tail)
        go_wp2
        have d0 := HD.out
        generalize (w8.setCell ⟨X, 0, none⟩ (.slice (some ⟨q, 1, none⟩) 3 (c - 1))).setCell ⟨w.heap.size, 0, none⟩ (.slice (some ⟨q, 1, none⟩) 3 (c - 1)) = wf at d0 HY ⊢
        exact bodyPost_ret (v := .agg #[.slice (some ⟨q, 1, none⟩) 3 (c - 1)]) (by simp [results, Try.results105, go_sem, d0]) rfl HY.out
      obtain ⟨x, l', rfl⟩ : ∃ x l', l = x :: l' := by
        cases l with
        | nil => have := (ack_row HI5.out.ok (i := 0) (by omega)).2; simp at this
        | cons x l' => exact ⟨x, l', rfl⟩
      go_upto_region 9 with fail
      rename_i KR hKR
      obtain ⟨z0, hz0e⟩ : ∃ z0, w5.drew = z0 := ⟨_, rfl⟩
      have HIz : Hid (DInv w z0 B g a len cap X lo hi q c f (x :: l')) := by rw [← hz0e]; exact HI5.out.below ⟨rfl, rfl, rfl, Nat.le_refl _, fun _ _ => rfl⟩
      have hSz : z0.cell? ⟨X, 0, none⟩ = some (.slice (some ⟨q, 0, none⟩) 4 c) := one_cell HIz.out.box
      clear HI5
      refine wp_region_held_drew (S := fun w' => w'.cell? ⟨X, 0, none⟩ = some (.slice (some ⟨q, 0, none⟩) 4 c)) (by kernel_rfl) (by rw [hz0e]; exact hSz) (fun hHeld => ?_)
      rw [hz0e]
      clear hHeld hz0e
      refine wpAnyH_take (i := 0) (oi := { dst := some 27, op := .fieldAddr 26 (.tmp 3) 0, type := 0, pos := "l13_stable.go:70", after := #[], guard := none }) (v := ?_) rfl (by kernel_rfl) (by kernel_rfl) (by kernel_rfl) (fun _ _ _ h => h) (Or.inl ⟨by rfl, ?_⟩) (by assumption) ?_
      rotate_left
      · intro w hSw
        (try dsimp only at hSw)
        first | (go_simp; done) | (go_simp; with_reducible rfl)
      (try simp only [Act.put, List.setIfInBounds_toArray, List.set_cons_zero, List.set_cons_succ])
      refine wpAnyH_take (i := 1) (oi := { dst := some 28, op := .load 24 (.tmp 27), type := 24, pos := "l13_stable.go:70", after := #[⟨0, .data⟩], guard := none }) (v := ?_) rfl (by kernel_rfl) (by kernel_rfl) (by kernel_rfl) (fun _ _ _ h => h) (Or.inl ⟨by rfl, ?_⟩) (by assumption) ?_
      rotate_left
      · intro w hSw
        (try dsimp only at hSw)
        first | (go_simp; done) | (go_simp; with_reducible rfl)
      (try simp only [Act.put, List.setIfInBounds_toArray, List.set_cons_zero, List.set_cons_succ])
      refine wpAnyH_take (i := 2) (oi := { dst := some 29, op := .move (.tmp 0), type := 65, pos := "l13_stable.go:70", after := #[], guard := none }) (v := ?_) rfl (by kernel_rfl) (by kernel_rfl) (by kernel_rfl) (fun _ _ _ h => h) (Or.inl ⟨by rfl, ?_⟩) (by assumption) ?_
      rotate_left
      · intro w hSw
        (try dsimp only at hSw)
        first | (go_simp; done) | (go_simp; with_reducible rfl)
      (try simp only [Act.put, List.setIfInBounds_toArray, List.set_cons_zero, List.set_cons_succ])
      refine wpAnyH_ready (rs := [3]) (by kernel_rfl) (by simp) ?_
      refine AllReadyH.cons (o := { dst := some 30, op := .call { callee := .value (.func 57), args := #[.tmp 29], argTypes := #[65] }, type := 28, pos := "l13_stable.go:70", after := #[⟨2, .data⟩], guard := none }) rfl (fun K hK => ?_) AllReadyH.nil
      go_simp
      go_at_call 57
      refine (vec _ B g a len cap HIz.out.rd).mono ?_
      rintro e w6 ⟨av, nv, cv, ys, hnv, rfl, hIn, hg, hr⟩
      have HI6 := Lib.hid (HIz.out.step hg hr)
      have hXz := lt_of_block HIz.out.box
      have hhz := HIz.out.high
      obtain ⟨hE, ⟨v0, c0⟩, f0, hS7⟩ := HI6.out.first cv hIn.1 (fun b' off' h1 h2 => by have := hIn.2 b' off' h1 h2; omega) hnv
      have HE := Lib.hid hE
      have hS6 : w6.cell? ⟨X, 0, none⟩ = some (.slice (some ⟨q, 0, none⟩) 4 c) := one_cell HI6.out.box
      clear hg hr hIn hE
      refine hK.out _ _ hS6 (fun hHeld2 => ?_)
      clear hK K
      (try simp only [Act.put, List.setIfInBounds_toArray, List.set_cons_zero, List.set_cons_succ])
      refine wpAnyH_take (i := 4) (oi := { dst := some 31, op := .indexAddr 24 (.tmp 28) (.const (Value.int IntKind.i64 0)), type := 0, pos := "l13_stable.go:70", after := #[⟨1, .data⟩, ⟨0, .phase⟩, ⟨1, .phase⟩, ⟨2, .phase⟩, ⟨3, .phase⟩], guard := none }) (v := ?_) rfl (by kernel_rfl) (by kernel_rfl) (by kernel_rfl) (fun _ _ _ h => h) (Or.inl ⟨by rfl, ?_⟩) (by assumption) ?_
      rotate_left
      · intro w hSw
        (try dsimp only at hSw)
        first | (go_simp; done) | (go_simp; with_reducible rfl)
      (try simp only [Act.put, List.setIfInBounds_toArray, List.set_cons_zero, List.set_cons_succ])
      refine wpAnyH_ready (rs := [5]) (by kernel_rfl) (by simp) ?_
      refine AllReadyH.cons (o := { dst := none, op := .store 28 (.tmp 31) (.tmp 30), type := 0, pos := "l13_stable.go:70", after := #[⟨4, .data⟩, ⟨3, .data⟩, ⟨3, .chain⟩, ⟨0, .phase⟩, ⟨1, .phase⟩, ⟨2, .phase⟩, ⟨3, .phase⟩], guard := none }) rfl (fun K hK => ?_) AllReadyH.nil
      go_simp
      refine hK.out _ _ hS7 (fun hHeld3 => ?_)
      clear hK K
      (try simp only [Act.put, List.setIfInBounds_toArray, List.set_cons_zero, List.set_cons_succ])
      refine wpAnyH_done (by kernel_rfl) ?_ _
      refine hKR _ _ ?_
      generalize w6.setCell ⟨q, 0, none⟩ (.slice av nv cv) = w7 at HE ⊢
      clear hS7 hS6 hHeld2 hHeld3 c0 f0
      go_wp2_with fail
      refine (once w7 B g a len cap HE.out.rd 40 (by omega) (by omega)).mono ?_
      rintro e w8 ⟨o2, rfl, hg8, hr8⟩
      have HE8 := Lib.hid (HE.out.step hg8 hr8)
      clear hg8 hr8 HE
      have x0 := one_cell HE8.out.box
      have xf : w8.frozen? ⟨X, 0, none⟩ = false := frozen_of_row _ _ _ _ _ HE8.out.box
      have r0 := one_cell HE8.out.res
      have rf : w8.frozen? ⟨w.heap.size, 0, none⟩ = false := frozen_of_row _ _ _ _ _ HE8.out.res
      have hwX := HE8.out.lox
      rcases o2 with _ | _
      · have HD := Lib.hid (cell_set1 (.slice (some ⟨q, 0, none⟩) 4 c) HE8.out.res)
        have HY : Hid (YieldsAcks w B g a len cap (.returned (.agg #[.slice (some ⟨q, 0, none⟩) 4 c])) (w8.setCell ⟨w.heap.size, 0, none⟩ (.slice (some ⟨q, 0, none⟩) 4 c))) := Lib.hid (HE8.out.fin (some ⟨q, 0, none⟩) 4 c _ (by omega) HE8.out.rows)
        go_wp2
        have d0 := HD.out
        generalize w8.setCell ⟨w.heap.size, 0, none⟩ (.slice (some ⟨q, 0, none⟩) 4 c) = wf at d0 HY ⊢
        exact bodyPost_ret (v := .agg #[.slice (some ⟨q, 0, none⟩) 4 c]) (by simp [results, Try.results105, go_sem, d0]) rfl HY.out
      by_cases hc1 : c = 1
      · subst hc1
        have HD := Lib.hid (cell_set1 (w := w8.setCell ⟨X, 0, none⟩ (.slice (some ⟨q, 0, none⟩) 3 0)) (.slice (some ⟨q, 0, none⟩) 3 0) ((heap_setCell_other _ _ _ _ (by show w.heap.size ≠ X; omega)).trans HE8.out.res))
        have HY := Lib.hid (HE8.out.fin2 (some ⟨q, 0, none⟩) 3 0 (.slice (some ⟨q, 0, none⟩) 3 0) (.slice (some ⟨q, 0, none⟩) 3 0) (by omega) HE8.out.rows.front)
        go_wp2
        have d0 := HD.out
        generalize (w8.setCell ⟨X, 0, none⟩ (.slice (some ⟨q, 0, none⟩) 3 0)).setCell ⟨w.heap.size, 0, none⟩ (.slice (some ⟨q, 0, none⟩) 3 0) = wf at d0 HY ⊢
        exact bodyPost_ret (v := .agg #[.slice (some ⟨q, 0, none⟩) 3 0]) (by simp [results, Try.results105, go_sem, d0]) rfl HY.out
      have HD := Lib.hid (cell_set1 (w := w8.setCell ⟨X, 0, none⟩ (.slice (some ⟨q, 1, none⟩) 3 (c - 1))) (.slice (some ⟨q, 1, none⟩) 3 (c - 1)) ((heap_setCell_other _ _ _ _ (by show w.heap.size ≠ X; omega)).trans HE8.out.res))
      have HY := Lib.hid (HE8.out.fin2 (some ⟨q, 1, none⟩) 3 (c - 1) (.slice (some ⟨q, 1, none⟩) 3 (c - 1)) (.slice (some ⟨q, 1, none⟩) 3 (c - 1)) (by omega) HE8.out.rows.tail)
      go_wp2
      have d0 := HD.out
      generalize (w8.setCell ⟨X, 0, none⟩ (.slice (some ⟨q, 1, none⟩) 3 (c - 1))).setCell ⟨w.heap.size, 0, none⟩ (.slice (some ⟨q, 1, none⟩) 3 (c - 1)) = wf at d0 HY ⊢
      exact bodyPost_ret (v := .agg #[.slice (some ⟨q, 1, none⟩) 3 (c - 1)]) (by simp [results, Try.results105, go_sem, d0]) rfl HY.out
end Go.Proofs.Ytejhmakfbmhhhaa

namespace Go.Proofs.Ytejhmakfbmhhhaa
open Go.RowKit
set_option linter.unusedVariables false
set_option linter.unusedSimpArgs false

/-- What DrawAcksOk answers. -/
def DrawsAcks (w : World) (e : Ending) (w' : World) : Prop :=
  ∃ (aa : Option Addr) (n c X : Nat) (l : List (List Int)), n ≤ 4 ∧ e = .returned (.agg #[.slice aa n c]) ∧ RowsIn w' (w.heap.size + 1) X aa n l ∧ Below w.heap.size w w'
theorem RowsIn.less {w : World} {lo lo' X : Nat} {a : Option Addr} {n : Nat} {l : List (List Int)} (h : RowsIn w lo X a n l) (hl : lo' ≤ lo) : RowsIn w lo' X a n l :=
  ⟨h.1, fun i hi => by
    obtain ⟨b, off, ai, ci, e, hb, hc, hx, hbb, h4⟩ := h.2 i hi
    exact ⟨b, off, ai, ci, e, ⟨by omega, hb.2⟩, hc, hx, fun b' off' h1 h2 => by have := hbb b' off' h1 h2; exact ⟨by omega, this.2⟩, h4⟩⟩
set_option maxRecDepth 100000 in
set_option maxHeartbeats 10000000 in
theorem drawAcksOk (w : World) (B : Nat) (a : Option Addr) (len cap : Nat) (hB : B ≤ w.heap.size) (h : Src w B a len) :
    Calls Try.prog 54 #[.slice a len cap] w (DrawsAcks w) := by
  have hb0 : Below w.heap.size w (w.alloc (.cells #[.slice none 0 0] 26)) := (Below.refl _ w).alloc (Nat.le_refl _) _
  have HS0 := Lib.hid (h.kept (w' := w.alloc (.cells #[.slice none 0 0] 26)) fun k hk => hb0.block k (by omega))
  have HR0 := Lib.hid (heap_alloc_new w (.cells #[.slice none 0 0] 26))
  have HB0 := Lib.hid hb0
  have hz0 : Hid ((w.alloc (.cells #[.slice none 0 0] 26)).heap.size = w.heap.size + 1) := by show (w.heap.push _).size = _; simp
  clear h hb0
  go_enter Try.func54, Try.ntmps54
  go_wp2_with fail
  generalize w.alloc (.cells #[.slice none 0 0] 26) = w0 at HS0 HR0 HB0 hz0 ⊢
  refine (l1Open w0 B a len cap (by have := hz0.out; omega) HS0.out).mono ?_
  rintro e w1 ⟨rfl, hg1, hr1⟩
  have HR1 := Lib.hid ((hg1.block _ (by have := hz0.out; omega) (by intro e; cases e)).trans HR0.out)
  have HB1 := Lib.hid (HB0.out.grown hg1 (by have := hz0.out; omega) (fun k hk => by cases hk))
  have hs1 := hg1.size
  have hgl := hr1.lt
  have HRd1 := Lib.hid hr1
  clear hg1 hr1
  go_wp2_with fail
  refine (acksD w1 B w0.heap.size a len cap HRd1.out).mono ?_
  rintro e w2 ⟨aa, n, c, X, l, hn, rfl, hrows, hX, hwX, hg2, hr2⟩
  have hR2 := (hg2.block w.heap.size (by have := hz0.out; omega) (by intro e; injection e with e; have := hz0.out; omega)).trans HR1.out
  have HB2 := Lib.hid (HB1.out.grown hg2 HB1.out.size (fun k hk => by cases hk; have := hz0.out; omega))
  have r0 := one_cell hR2
  have rf : w2.frozen? ⟨w.heap.size, 0, none⟩ = false := frozen_of_row _ _ _ _ _ hR2
  have HD := Lib.hid (cell_set1 (.slice aa n c) hR2)
  have hs2 : (w2.setCell ⟨w.heap.size, 0, none⟩ (.slice aa n c)).heap.size = w2.heap.size := by simp [World.setCell]
  have hk : RowsIn (w2.setCell ⟨w.heap.size, 0, none⟩ (.slice aa n c)) (w1.heap.size + 1) X aa n l := hrows.kept (Nat.le_of_eq hs2.symm) fun j h1 h2 h3 => heap_setCell_other _ _ _ _ (by show j ≠ w.heap.size; have := hz0.out; omega)
  have HK := Lib.hid hk
  have HB3 := Lib.hid (HB2.out.setCell (p := ⟨w.heap.size, 0, none⟩) (Nat.le_refl _) (.slice aa n c))
  clear hR2 hg2 hr2 hrows hk hs2
  go_wp2
  have d0 := HD.out
  generalize w2.setCell ⟨w.heap.size, 0, none⟩ (.slice aa n c) = wf at d0 HK HB3 ⊢
  exact bodyPost_ret (v := .agg #[.slice aa n c]) (by simp [results, Try.results54, go_sem, d0]) rfl ⟨aa, n, c, X, l, hn, rfl, HK.out.less (by have := hz0.out; omega), HB3.out⟩
set_option maxRecDepth 100000 in
set_option maxHeartbeats 10000000 in
theorem drawStable (w : World) (B : Nat) (a : Option Addr) (len cap : Nat) (hB : B ≤ w.heap.size) (h : Src w B a len) :
    Calls Try.prog 12 #[.slice a len cap] w (DrawsAcks w) := by
  have hb0 : Below w.heap.size w (w.alloc (.cells #[.slice none 0 0] 26)) := (Below.refl _ w).alloc (Nat.le_refl _) _
  have HS0 := Lib.hid (h.kept (w' := w.alloc (.cells #[.slice none 0 0] 26)) fun k hk => hb0.block k (by omega))
  have HR0 := Lib.hid (heap_alloc_new w (.cells #[.slice none 0 0] 26))
  have HB0 := Lib.hid hb0
  have hz0 : Hid ((w.alloc (.cells #[.slice none 0 0] 26)).heap.size = w.heap.size + 1) := by show (w.heap.push _).size = _; simp
  clear h hb0
  go_enter Try.func12, Try.ntmps12
  go_wp2_with fail
  generalize w.alloc (.cells #[.slice none 0 0] 26) = w0 at HS0 HR0 HB0 hz0 ⊢
  refine (drawAcksOk w0 B a len cap (by have := hz0.out; omega) HS0.out).mono ?_
  rintro e w1 ⟨aa, n, c, X, l, hn, rfl, hrows, hb1⟩
  have hR1 := (hb1.block w.heap.size (by have := hz0.out; omega)).trans HR0.out
  have r0 := one_cell hR1
  have rf : w1.frozen? ⟨w.heap.size, 0, none⟩ = false := frozen_of_row _ _ _ _ _ hR1
  have HD := Lib.hid (cell_set1 (.slice aa n c) hR1)
  have hs2 : (w1.setCell ⟨w.heap.size, 0, none⟩ (.slice aa n c)).heap.size = w1.heap.size := by simp [World.setCell]
  have hk : RowsIn (w1.setCell ⟨w.heap.size, 0, none⟩ (.slice aa n c)) (w0.heap.size + 1) X aa n l := hrows.kept (Nat.le_of_eq hs2.symm) fun j h1 h2 h3 => heap_setCell_other _ _ _ _ (by show j ≠ w.heap.size; have := hz0.out; omega)
  have HK := Lib.hid hk
  have HB3 := Lib.hid ((HB0.out.trans (hb1.mono (by have := hz0.out; omega))).setCell (p := ⟨w.heap.size, 0, none⟩) (Nat.le_refl _) (.slice aa n c))
  clear hR1 hrows hk hs2 hb1
  go_wp2
  have d0 := HD.out
  generalize w1.setCell ⟨w.heap.size, 0, none⟩ (.slice aa n c) = wf at d0 HK HB3 ⊢
  exact bodyPost_ret (v := .agg #[.slice aa n c]) (by simp [results, Try.results12, go_sem, d0]) rfl ⟨aa, n, c, X, l, hn, rfl, HK.out.less (by have := hz0.out; omega), HB3.out⟩
end Go.Proofs.Ytejhmakfbmhhhaa

namespace Go.Proofs.Ytejhmakfbmhhhaa
open Go.RowKit
set_option linter.unusedVariables false
set_option linter.unusedSimpArgs false

theorem within4 (x0 x1 x2 x3 y0 y1 y2 y3 : Int) (hx : vecOk [x0, x1, x2, x3] = true) (hy : vecOk [y0, y1, y2, y3] = true) : withinB [x0, x1, x2, x3] [y0, y1, y2, y3] = true ↔ x0 ≤ y0 ∧ x1 ≤ y1 ∧ x2 ≤ y2 ∧ x3 ≤ y3 := by
  unfold withinB leAll
  rw [hx, hy]
  simp [List.range_succ]
theorem stable_parts {l : List (List Int)} (h : ackOk l = true) : ∃ a0 a1 a2 a3 b0 b1 b2 b3 c0 c1 c2 c3 d0 d1 d2 d3 : Int, rowOf l 0 = [a0, a1, a2, a3] ∧ rowOf l 1 = [b0, b1, b2, b3] ∧ rowOf l 2 = [c0, c1, c2, c3] ∧ rowOf l 3 = [d0, d1, d2, d3] ∧ stableL l = [min (min (min a0 b0) c0) d0, min (min (min a1 b1) c1) d1, min (min (min a2 b2) c2) d2, min (min (min a3 b3) c3) d3] := by
  obtain ⟨a0, a1, a2, a3, e0⟩ := four (ack_row h (i := 0) (by omega)).1
  obtain ⟨b0, b1, b2, b3, e1⟩ := four (ack_row h (i := 1) (by omega)).1
  obtain ⟨c0, c1, c2, c3, e2⟩ := four (ack_row h (i := 2) (by omega)).1
  obtain ⟨d0, d1, d2, d3, e3⟩ := four (ack_row h (i := 3) (by omega)).1
  refine ⟨a0, a1, a2, a3, b0, b1, b2, b3, c0, c1, c2, c3, d0, d1, d2, d3, e0, e1, e2, e3, ?_⟩
  rw [stable_yes h]
  show zipI min (zipI min (zipI min (rowOf l 0) (rowOf l 1)) (rowOf l 2)) (rowOf l 3) = _
  rw [e0, e1, e2, e3]
  rfl
theorem stable_vec {l : List (List Int)} (h : ackOk l = true) : vecOk (stableL l) = true := by
  rw [stable_yes h]
  exact minTo_ok h (by omega)
/-- What is stable is within each row. -/
theorem stable_in {l : List (List Int)} (h : ackOk l = true) {i : Nat} (hi : i < 4) : withinB (stableL l) (rowOf l i) = true := by
  have hv := stable_vec h
  have h0 := (ack_row h (i := 0) (by omega)).1
  have h1 := (ack_row h (i := 1) (by omega)).1
  have h2 := (ack_row h (i := 2) (by omega)).1
  have h3 := (ack_row h (i := 3) (by omega)).1
  obtain ⟨a0, a1, a2, a3, b0, b1, b2, b3, c0, c1, c2, c3, d0, d1, d2, d3, e0, e1, e2, e3, es⟩ := stable_parts h
  rw [e0] at h0
  rw [e1] at h1
  rw [e2] at h2
  rw [e3] at h3
  rw [es] at hv ⊢
  match i, hi with
  | 0, _ => rw [e0, within4 _ _ _ _ _ _ _ _ hv h0]; omega
  | 1, _ => rw [e1, within4 _ _ _ _ _ _ _ _ hv h1]; omega
  | 2, _ => rw [e2, within4 _ _ _ _ _ _ _ _ hv h2]; omega
  | 3, _ => rw [e3, within4 _ _ _ _ _ _ _ _ hv h3]; omega
end Go.Proofs.Ytejhmakfbmhhhaa

namespace Go.Proofs.Ytejhmakfbmhhhaa
open Go.RowKit

theorem within_vecs {xs ys : List Int} (h : withinB xs ys = true) : vecOk xs = true ∧ vecOk ys = true := by
  unfold withinB at h
  rw [Bool.and_eq_true, Bool.and_eq_true] at h
  exact h.1
theorem within_le {xs ys : List Int} (h : withinB xs ys = true) (d : Nat) : xs.getD d 0 ≤ ys.getD d 0 := by
  obtain ⟨hx, hy⟩ := within_vecs h
  obtain ⟨a0, a1, a2, a3, rfl⟩ := four hx
  obtain ⟨b0, b1, b2, b3, rfl⟩ := four hy
  obtain ⟨h0, h1, h2, h3⟩ := (within4 _ _ _ _ _ _ _ _ hx hy).1 h
  match d with
  | 0 => exact h0
  | 1 => exact h1
  | 2 => exact h2
  | 3 => exact h3
  | k + 4 => exact Int.le_refl _
theorem cut_less {s r : List Int} (h : withinB s r = true) (m : List OpV) : (m.filter (cutP r)).filter (cutP s) = m.filter (cutP s) := by
  rw [List.filter_filter]
  congr 1
  funext o
  have hd := within_le h o.dev.toNat
  unfold cutP
  by_cases hs : o.seq ≤ s.getD o.dev.toNat 0
  · rw [decide_eq_true hs, decide_eq_true (Int.le_trans hs hd)]; rfl
  · rw [decide_eq_false hs]; rfl
theorem zip_less {xs s r : List Int} (hx : vecOk xs = true) (h : withinB s r = true) : zipI min (zipI min xs r) s = zipI min xs s := by
  obtain ⟨hs, hr⟩ := within_vecs h
  obtain ⟨x0, x1, x2, x3, rfl⟩ := four hx
  obtain ⟨a0, a1, a2, a3, rfl⟩ := four hs
  obtain ⟨b0, b1, b2, b3, rfl⟩ := four hr
  obtain ⟨h0, h1, h2, h3⟩ := (within4 _ _ _ _ _ _ _ _ hs hr).1 h
  show [min (min x0 b0) a0, min (min x1 b1) a1, min (min x2 b2) a2, min (min x3 b3) a3] = [min x0 a0, min x1 a1, min x2 a2, min x3 a3]
  rw [show min (min x0 b0) a0 = min x0 a0 by omega, show min (min x1 b1) a1 = min x1 a1 by omega, show min (min x2 b2) a2 = min x2 a2 by omega, show min (min x3 b3) a3 = min x3 a3 by omega]
theorem stable_cut {l : List (List Int)} {xs : List Int} {m : List OpV} (h : ackOk l = true) (hc : cartB xs m = true) {i : Nat} (hi : i < 4) : inCart (zipI min xs (stableL l)) (m.filter (cutP (stableL l))) (zipI min xs (rowOf l i)) (m.filter (cutP (rowOf l i))) = true := by
  have hw := stable_in h hi
  have hk := in_cut (cart_cut hc (within_vecs hw).2) (within_vecs hw).1
  rw [zip_less (cart_true hc).1 hw, cut_less hw] at hk
  exact hk
end Go.Proofs.Ytejhmakfbmhhhaa
