/- Nets: a row of carts without operations. -/
import Derived.Test.YtdmhibdhnejiiabNetB
namespace Go.Proofs.Ytdmhibdhnejiiab
open Go.RowKit

def zeros4 : List Int := [0, 0, 0, 0]
def cAt (l : List (Nat × Nat)) (i : Nat) : Nat × Nat := l.getD i (0, 0)
def cartV (g c : Nat) : Value := .agg #[.slice (some ⟨g, 0, none⟩) 4 c, .slice none 0 0]
def cRow (g c : Nat) : List Value := [.slice (some ⟨g, 0, none⟩) 4 c, .slice none 0 0]
def flatC : List (Nat × Nat) → List Value
  | [] => []
  | p :: l => cRow p.1 p.2 ++ flatC l
theorem flatC_snoc (p : Nat × Nat) : ∀ l, flatC (l ++ [p]) = flatC l ++ cRow p.1 p.2
  | [] => rfl
  | q :: l => by show cRow q.1 q.2 ++ flatC (l ++ [p]) = (cRow q.1 q.2 ++ flatC l) ++ cRow p.1 p.2; rw [flatC_snoc p l, List.append_assoc]
theorem flatC_at : ∀ (l : List (Nat × Nat)) (i : Nat), i < l.length → (flatC l)[i * 2]? = some (.slice (some ⟨(cAt l i).1, 0, none⟩) 4 (cAt l i).2) ∧ (flatC l)[i * 2 + 1]? = some (.slice none 0 0)
  | p :: l, 0, _ => ⟨rfl, rfl⟩
  | p :: l, i + 1, h => by
    have := flatC_at l i (by simpa using h)
    have e : (i + 1) * 2 = i * 2 + 2 := by omega
    rw [e]
    exact this
theorem cAt_old {l : List (Nat × Nat)} {p : Nat × Nat} {i : Nat} (h : i < l.length) : cAt (l ++ [p]) i = cAt l i := by
  unfold cAt; rw [List.getD_eq_getElem?_getD, List.getD_eq_getElem?_getD, List.getElem?_append_left h]
theorem cAt_new (l : List (Nat × Nat)) (p : Nat × Nat) : cAt (l ++ [p]) l.length = p := by
  unfold cAt; simp
theorem Own.exact {w : World} {lo hi : Nat} {a : Option Addr} {xs : List Int} (h : Own w lo hi a 4 xs) : ∃ g, a = some ⟨g, 0, none⟩ ∧ lo ≤ g ∧ g < hi ∧ g < w.heap.size ∧ Own w g (g + 1) (some ⟨g, 0, none⟩) 4 xs := by
  obtain ⟨g, cur, e, h1, h2, hg, hc⟩ := h.2 (by omega)
  exact ⟨g, e, h1, h2, (Array.getElem?_eq_some_iff.1 hg).1, h.1, fun _ => ⟨g, cur, rfl, Nat.le_refl _, by omega, hg, hc⟩⟩
theorem Own.row {w : World} {g : Nat} {xs : List Int} (h : Own w g (g + 1) (some ⟨g, 0, none⟩) 4 xs) : ∃ cur, w.heap[g]? = some (.cells cur 2 (0, 0)) := by
  obtain ⟨q, cur, e, h1, h2, hg, hc⟩ := h.2 (by omega)
  have : q = g := by omega
  subst this
  exact ⟨cur, hg⟩
/-- The lists of the carts. -/
def Stock (w : World) (lo : Nat) (l : List (Nat × Nat)) (V : Nat → List Int) : Prop :=
  (∀ i, i < l.length → lo ≤ (cAt l i).1 ∧ (cAt l i).1 < w.heap.size ∧ Own w (cAt l i).1 ((cAt l i).1 + 1) (some ⟨(cAt l i).1, 0, none⟩) 4 (V i)) ∧ ∀ i j, i < j → j < l.length → (cAt l i).1 < (cAt l j).1
theorem Stock.kept {w w' : World} {lo : Nat} {l : List (Nat × Nat)} {V : Nat → List Int} (h : Stock w lo l V) (hs : w.heap.size ≤ w'.heap.size) (hk : ∀ i, i < l.length → w'.heap[(cAt l i).1]? = w.heap[(cAt l i).1]?) : Stock w' lo l V :=
  ⟨fun i hi => by
    obtain ⟨a, b, c⟩ := h.1 i hi
    exact ⟨a, by omega, c.kept fun j h1 h2 => by have : j = (cAt l i).1 := by omega
                                                 rw [this]; exact hk i hi⟩, h.2⟩
theorem Stock.below {w w' : World} {lo : Nat} {l : List (Nat × Nat)} {V : Nat → List Int} (h : Stock w lo l V) (hb : Below w.heap.size w w') : Stock w' lo l V :=
  h.kept hb.size fun i hi => hb.block _ (h.1 i hi).2.1
theorem Stock.push {w : World} {lo : Nat} {l : List (Nat × Nat)} {V : Nat → List Int} {g c : Nat} (h : Stock w lo l V) (hg : lo ≤ g) (hs : g < w.heap.size) (ho : Own w g (g + 1) (some ⟨g, 0, none⟩) 4 (V l.length)) (hn : ∀ i, i < l.length → (cAt l i).1 < g) : Stock w lo (l ++ [(g, c)]) V := by
  refine ⟨fun i hi => ?_, fun i j hij hj => ?_⟩
  · by_cases e : i = l.length
    · subst e
      rw [cAt_new]
      exact ⟨hg, hs, ho⟩
    · rw [cAt_old (by simp at hi; omega)]
      exact h.1 i (by simp at hi; omega)
  · have hi : i < l.length := by simp at hj; omega
    rw [cAt_old hi]
    by_cases e : j = l.length
    · subst e
      rw [cAt_new]
      exact hn i hi
    · have hj' : j < l.length := by simp at hj; omega
      rw [cAt_old hj']
      exact h.2 i j hij hj'

theorem infoCartN : (Try.prog.info? 51).map (fun i => (i.zero, i.size, i.bytes)) = some (some (.agg #[.slice none 0 0, .slice none 0 0]), 2, 48) := by kernel_rfl
/-- A loop that gathers carts in a net's block N: k of them are there. -/
structure NInv (w wr : World) (N base : Nat) (v : Value) (l : List (Nat × Nat)) : Prop where
  box : wr.heap[N]? = some (.cells #[v, .slice none 0 0] 35 (0, 0))
  row : wr.ownsRow base 51 2 v l.length (flatC l)
  stock : Stock wr base l (fun _ => zeros4)
  bel : Below w.heap.size w wr
  lo : w.heap.size ≤ N
  mid : N < base
  hi : base ≤ wr.heap.size
theorem NInv.first (w wr : World) (N base : Nat) (hb : wr.heap[N]? = some (.cells #[.slice none 0 0, .slice none 0 0] 35 (0, 0))) (h : Below w.heap.size w wr) (h1 : w.heap.size ≤ N) (h2 : N < base) (h3 : base ≤ wr.heap.size) : NInv w wr N base (.slice none 0 0) [] :=
  ⟨hb, World.ownsRow_nil _ _ _ _, ⟨fun i hi => absurd hi (by simp), fun i j _ hj => absurd hj (by simp)⟩, h, h1, h2, h3⟩
theorem NInv.drew {w wr : World} {N base : Nat} {v : Value} {l : List (Nat × Nat)} (h : NInv w wr N base v l) : NInv w wr.drew N base v l :=
  ⟨h.box, h.row, h.stock, h.bel.trans ⟨rfl, rfl, rfl, Nat.le_refl _, fun _ _ => rfl⟩, h.lo, h.mid, h.hi⟩
theorem NInv.push {w z0 z1 : World} {N base c : Nat} {v : Value} {l : List (Nat × Nat)} {a : Option Addr} (h : NInv w z0 N base v l) (hb : Below z0.heap.size z0 z1) (ho : Own z1 z0.heap.size z1.heap.size a 4 zeros4) (hl : l.length ≤ 100) :
    ∃ g va vc z3, a = some ⟨g, 0, none⟩ ∧ (Builtin.append_ #[32, 32] 32 #[v, .slice (some ⟨z1.heap.size, 0, none⟩) 1 1]).run Try.prog (z1.alloc (.cells #[.slice a 4 c, .slice none 0 0] 51)) = .ok (.slice va (l.length + 1) vc) z3 ∧
      z0.cell? ⟨N, 0, none⟩ = some v ∧ z1.cell? ⟨N, 0, none⟩ = some v ∧ (z1.alloc (.cells #[.slice a 4 c, .slice none 0 0] 51)).cell? ⟨N, 0, none⟩ = some v ∧ z3.cell? ⟨N, 0, none⟩ = some v ∧ z3.frozen? ⟨N, 0, none⟩ = false ∧
      NInv w (z3.setCell ⟨N, 0, none⟩ (.slice va (l.length + 1) vc)) N base (.slice va (l.length + 1) vc) (l ++ [(g, c)]) ∧
      (∀ j, j < base → z1.heap[j]? = z0.heap[j]? ∧ (z1.alloc (.cells #[.slice a 4 c, .slice none 0 0] 51)).heap[j]? = z0.heap[j]? ∧ z3.heap[j]? = z0.heap[j]? ∧ (j ≠ N → (z3.setCell ⟨N, 0, none⟩ (.slice va (l.length + 1) vc)).heap[j]? = z0.heap[j]?)) := by
  obtain ⟨i0, hi, hz0, hz1, hz2⟩ := info_parts infoCartN
  obtain ⟨g, rfl, hg1, hg2, hg3, hog⟩ := ho.exact
  have hsz := hb.size
  have hmid := h.mid
  have hhi := h.hi
  have row1 : z1.ownsRow base 51 2 v l.length (flatC l) := h.row.kept (row := none) ⟨hb.os, hb.tape, hb.output, hb.size, fun j hj _ => hb.block j hj⟩ (by rcases v.ownBlock with _ | q; exact .inl rfl; exact .inr (fun e => by cases e))
  have row2 := row1.alloc (.cells #[.slice (some ⟨g, 0, none⟩) 4 c, .slice none 0 0] 51)
  obtain ⟨v', z3, hrun, hown, hgr, _⟩ := run_append_own (P := Try.prog) (z1.alloc (.cells #[.slice (some ⟨g, 0, none⟩) 4 c, .slice none 0 0] 51)) base 32 32 51 i0 (.agg #[.slice none 0 0, .slice none 0 0]) 2 48 Try.underlying32 hi hz0 hz1 hz2 rfl (by decide) v l.length (flatC l) row2 ⟨z1.heap.size, 0, none⟩ 1 1 (cRow g c) rfl
    (by
      intro j u hj
      have hn := heap_alloc_new z1 (.cells #[.slice (some ⟨g, 0, none⟩) 4 c, .slice none 0 0] 51)
      obtain ⟨p0, p1⟩ := pair_cells hn
      match j, hj with
      | 0, hj => simp [cRow] at hj; subst hj; simp only [Addr.add]; exact p0
      | 1, hj => simp [cRow] at hj; subst hj; simp only [Addr.add]; exact p1)
    (by intro u hu; simp [cRow] at hu; rcases hu with rfl | rfl <;> rfl) (by unfold maxLen; omega) (by omega) (by show _ ≤ (z1.heap.push _).size; simp; omega)
  obtain ⟨va, vc, rfl⟩ : ∃ va vc, v' = .slice va (l.length + 1) vc := by
    rcases hown.2 with ⟨_, e2⟩ | ⟨_, c2, _, e2, _⟩
    · omega
    · exact ⟨_, c2, e2⟩
  have kb : ∀ j, j < z1.heap.size → (z1.alloc (.cells #[.slice (some ⟨g, 0, none⟩) 4 c, .slice none 0 0] 51)).heap[j]? = z1.heap[j]? := fun j hj => Below.heap_alloc _ _ _ hj
  have hsa : z1.heap.size < (z1.alloc (.cells #[.slice (some ⟨g, 0, none⟩) 4 c, .slice none 0 0] 51)).heap.size := by show _ < (z1.heap.push _).size; simp
  have hrl : ∀ j, v.ownBlock = some j → base ≤ j := fun j hj => (row2.lt j hj).1
  have k3 : ∀ j, j < z1.heap.size → v.ownBlock ≠ some j → z3.heap[j]? = z1.heap[j]? := fun j hj hne => (hgr.block j (by omega) (fun e => hne e.symm)).trans (kb j hj)
  have k1 : ∀ j, j < base → z1.heap[j]? = z0.heap[j]? := fun j hj => hb.block j (by omega)
  have k3' : ∀ j, j < base → z3.heap[j]? = z0.heap[j]? := fun j hj => (k3 j (by omega) (fun e => by have := hrl j e; omega)).trans (k1 j hj)
  have ka : ∀ j, j < base → (z1.alloc (.cells #[.slice (some ⟨g, 0, none⟩) 4 c, .slice none 0 0] 51)).heap[j]? = z0.heap[j]? := fun j hj => (kb j (by omega)).trans (k1 j hj)
  have hint : ∀ j cur, z1.heap[j]? = some (.cells cur 2 (0, 0)) → v.ownBlock ≠ some j := by
    intro j cur hj e
    rcases row1.2 with ⟨e2, _⟩ | ⟨q, cap, cu, e2, _, hq, _⟩
    · rw [e2] at e; simp [Value.ownBlock] at e
    · rw [e2] at e
      have e3 : q = j := by simpa [Value.ownBlock] using e
      rw [e3, hj] at hq
      injection hq with hq
      injection hq with _ hq
      exact absurd hq (by decide)
  have st1 : Stock z1 base l (fun _ => zeros4) := h.stock.below hb
  have st3 : Stock z3 base l (fun _ => zeros4) := st1.kept (Nat.le_trans (Nat.le_of_lt hsa) hgr.size) fun i hi' => by
    obtain ⟨a1, a2, a3⟩ := st1.1 i hi'
    obtain ⟨cur, hcur⟩ := a3.row
    exact k3 _ a2 (hint _ cur hcur)
  have og3 : Own z3 g (g + 1) (some ⟨g, 0, none⟩) 4 zeros4 := hog.kept fun j h1 h2 => by
    have : j = g := by omega
    subst this
    obtain ⟨cur, hcur⟩ := hog.row
    exact k3 _ hg3 (hint _ cur hcur)
  have st4 : Stock z3 base (l ++ [(g, c)]) (fun _ => zeros4) := st3.push (c := c) (by omega) (by have := hgr.size; omega) og3 fun i hi' => by
    have := (h.stock.1 i hi').2.1
    omega
  have hN3 := (k3' N hmid).trans h.box
  refine ⟨g, va, vc, z3, rfl, hrun, cell_of_row _ _ _ _ _ _ h.box, cell_of_row _ _ _ _ _ _ ((k1 N hmid).trans h.box), cell_of_row _ _ _ _ _ _ ((ka N hmid).trans h.box), cell_of_row _ _ _ _ _ _ hN3, frozen_of_row _ _ _ _ _ hN3, ?_, fun j hj => ⟨k1 j hj, ka j hj, k3' j hj, fun hne => (heap_setCell_other _ _ _ _ hne).trans (k3' j hj)⟩⟩
  have hz4 : (z3.setCell ⟨N, 0, none⟩ (.slice va (l.length + 1) vc)).heap.size = z3.heap.size := by simp [World.setCell]
  have b3 : Below w.heap.size w z3 := ((h.bel.trans (hb.mono h.bel.size)).alloc (by have := h.bel.size; omega) _).grown hgr (by have := h.bel.size; omega) fun q hq => by have := hrl q hq; have := h.lo; omega
  refine ⟨heap_setCell_same _ _ _ _ _ _ hN3, ?_, ?_, b3.setCell h.lo _, h.lo, h.mid, by rw [hz4]; have := hgr.size; omega⟩
  · rw [flatC_snoc, List.length_append]
    exact hown.kept (row := some N) ⟨rfl, rfl, rfl, by simp [World.setCell], fun j _ hne => heap_setCell_other _ _ _ _ (fun e => hne (by rw [e]))⟩ (by
      rcases hv : (Value.slice va (l.length + 1) vc).ownBlock with _ | q
      · exact .inl rfl
      · exact .inr (fun e => by have := (hown.lt q hv).1; have : q = N := by simpa using e
                                omega))
  · exact st4.kept (by rw [hz4]; exact Nat.le_refl _) fun i hi' => heap_setCell_other _ _ _ _ (by have := (st4.1 i hi').1; show (cAt (l ++ [(g, c)]) i).1 ≠ N; omega)
/-- A net of carts without operations, made between lo and hi. -/
def NetAt (w : World) (lo g : Nat) (l : List (Nat × Nat)) (V : Nat → List Int) : Prop :=
  (lo ≤ g ∧ g < w.heap.size ∧ ∃ cs, w.heap[g]? = some (.cells cs 51 (0, 0)) ∧ ∀ i, i < l.length → cs[i * 2]? = some (.slice (some ⟨(cAt l i).1, 0, none⟩) 4 (cAt l i).2) ∧ cs[i * 2 + 1]? = some (.slice none 0 0)) ∧ Stock w lo l V
theorem NInv.net {w wr : World} {N base : Nat} {v : Value} {l : List (Nat × Nat)} (h : NInv w wr N base v l) (h0 : 0 < l.length) : ∃ g c, v = .slice (some ⟨g, 0, none⟩) l.length c ∧ NetAt wr base g l (fun _ => zeros4) := by
  rcases h.row.2 with ⟨_, e⟩ | ⟨g, c, cs, e, hb, hg, hn, _, hs, ht⟩
  · omega
  · refine ⟨g, c, e, ⟨hb, (Array.getElem?_eq_some_iff.1 hg).1, cs, hg, fun i hi => ?_⟩, h.stock⟩
    obtain ⟨f1, f2⟩ := flatC_at l i hi
    rw [← ht] at f1 f2
    rw [List.getElem?_take_of_lt (by omega)] at f1 f2
    rw [← Array.getElem?_toList, ← Array.getElem?_toList]
    exact ⟨f1, f2⟩
theorem NetAt.kept {w w' : World} {lo g : Nat} {l : List (Nat × Nat)} {V : Nat → List Int} (h : NetAt w lo g l V) (hb : Below w.heap.size w w') : NetAt w' lo g l V := by
  obtain ⟨⟨h1, h2, cs, hg, hc⟩, hs⟩ := h
  exact ⟨⟨h1, by have := hb.size; omega, cs, (hb.block g h2).trans hg, hc⟩, hs.below hb⟩
theorem NetAt.cells {w : World} {lo g : Nat} {l : List (Nat × Nat)} {V : Nat → List Int} (h : NetAt w lo g l V) {i : Nat} (hi : i < l.length) : w.cell? ⟨g, i * 2, none⟩ = some (.slice (some ⟨(cAt l i).1, 0, none⟩) 4 (cAt l i).2) ∧ w.cell? ⟨g, i * 2 + 1, none⟩ = some (.slice none 0 0) := by
  obtain ⟨⟨h1, h2, cs, hg, hc⟩, hs⟩ := h
  rw [cell_of_row _ _ _ _ _ _ hg, cell_of_row _ _ _ _ _ _ hg]
  exact hc i hi
end Go.Proofs.Ytdmhibdhnejiiab
