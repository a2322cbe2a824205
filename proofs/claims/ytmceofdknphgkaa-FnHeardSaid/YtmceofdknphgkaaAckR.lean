/- Tables of rows: a loop that gathers rows of numbers one by one. -/
import Derived.Test.YtmceofdknphgkaaAckT
import Derived.Test.YtmceofdknphgkaaRaiseW
import Derived.Laws.AppendOwn
namespace Go.Proofs.Ytmceofdknphgkaa
open Go.RowKit
set_option linter.unusedVariables false

theorem own_exact4 {w : World} {lo hi : Nat} {a : Option Addr} {xs : List Int} (h : Own w lo hi a 4 xs) : ∃ g, a = some ⟨g, 0, none⟩ ∧ lo ≤ g ∧ g < hi ∧ g < w.heap.size ∧ Own w g (g + 1) (some ⟨g, 0, none⟩) 4 xs := by
  obtain ⟨g, cur, e, h1, h2, hg, hc⟩ := h.2 (by omega)
  exact ⟨g, e, h1, h2, (Array.getElem?_eq_some_iff.1 hg).1, h.1, fun _ => ⟨g, cur, rfl, Nat.le_refl _, by omega, hg, hc⟩⟩
theorem own_row4 {w : World} {g : Nat} {a : Option Addr} {xs : List Int} (h : Own w g (g + 1) a 4 xs) : ∃ cur, w.heap[g]? = some (.cells cur 2 (0, 0)) := by
  obtain ⟨q, cur, e, h1, h2, hg, hc⟩ := h.2 (by omega)
  have : q = g := by omega
  subst this
  exact ⟨cur, hg⟩
/-- A loop that gathers rows of four numbers in a table's block N: k of them are there. -/
structure AInv (w wr : World) (N base k : Nat) (v : Value) (f : Nat → Nat) (V : Nat → List Int) : Prop where
  box : wr.heap[N]? = some (.cells #[v] 66 (0, 0))
  row : ∃ ls, ls.length = k ∧ wr.ownsRow base 24 1 v k ls ∧ ∀ i, i < k → ∃ ai ci, ls[i]? = some (.slice ai 4 ci) ∧ Own wr (f i) (f i + 1) ai 4 (V i)
  stock : ∀ i, i < k → base ≤ f i ∧ f i < wr.heap.size
  inc : ∀ i j, i < j → j < k → f i < f j
  bel : Below w.heap.size w wr
  lo : w.heap.size ≤ N
  mid : N < base
  hi : base ≤ wr.heap.size
theorem AInv.first (w wr : World) (N base : Nat) (V : Nat → List Int) (hb : wr.heap[N]? = some (.cells #[.slice none 0 0] 66 (0, 0))) (h : Below w.heap.size w wr) (h1 : w.heap.size ≤ N) (h2 : N < base) (h3 : base ≤ wr.heap.size) : AInv w wr N base 0 (.slice none 0 0) (fun _ => 0) V :=
  ⟨hb, ⟨[], rfl, World.ownsRow_nil _ _ _ _, fun i hi => absurd hi (by omega)⟩, fun i hi => absurd hi (by omega), fun i j _ hj => absurd hj (by omega), h, h1, h2, h3⟩
theorem AInv.drew {w wr : World} {N base k : Nat} {v : Value} {f : Nat → Nat} {V : Nat → List Int} (h : AInv w wr N base k v f V) : AInv w wr.drew N base k v f V :=
  ⟨h.box, h.row, h.stock, h.inc, h.bel.trans ⟨rfl, rfl, rfl, Nat.le_refl _, fun _ _ => rfl⟩, h.lo, h.mid, h.hi⟩
theorem AInv.next {w z0 z1 : World} {N base k : Nat} {v : Value} {f : Nat → Nat} {V : Nat → List Int} (h : AInv w z0 N base k v f V) (hb : Below z0.heap.size z0 z1) : AInv w z1 N base k v f V := by
  obtain ⟨ls, hl, hr, hs⟩ := h.row
  have hmid := h.mid
  have hhi := h.hi
  have hsz := hb.size
  refine ⟨(hb.block N (by omega)).trans h.box, ⟨ls, hl, hr.kept (row := none) ⟨hb.os, hb.tape, hb.output, hb.size, fun j hj _ => hb.block j hj⟩ (by rcases v.ownBlock with _ | q; exact .inl rfl; exact .inr (fun e => by cases e)), fun i hi => ?_⟩, fun i hi => by have := h.stock i hi; omega, h.inc, h.bel.trans (hb.mono h.bel.size), h.lo, h.mid, by omega⟩
  obtain ⟨ai, ci, e, ho⟩ := hs i hi
  exact ⟨ai, ci, e, ho.kept fun j h1 h2 => hb.block j (by have := h.stock i hi; omega)⟩
theorem AInv.push {w z1 : World} {N base k c lo : Nat} {v : Value} {f : Nat → Nat} {V : Nat → List Int} {a : Option Addr} (h : AInv w z1 N base k v f V) (ho : Own z1 lo z1.heap.size a 4 (V k)) (hb : base ≤ lo) (hlo : ∀ i, i < k → f i < lo) (hl : k ≤ 100) :
    ∃ f' va vc z3, (Builtin.append_ #[64, 64] 64 #[v, .slice (some ⟨z1.heap.size, 0, none⟩) 1 1]).run Try.prog (z1.alloc (.cells #[.slice a 4 c] 24)) = .ok (.slice va (k + 1) vc) z3 ∧
      z1.cell? ⟨N, 0, none⟩ = some v ∧ (z1.alloc (.cells #[.slice a 4 c] 24)).cell? ⟨N, 0, none⟩ = some v ∧ z3.cell? ⟨N, 0, none⟩ = some v ∧ z3.frozen? ⟨N, 0, none⟩ = false ∧
      AInv w (z3.setCell ⟨N, 0, none⟩ (.slice va (k + 1) vc)) N base (k + 1) (.slice va (k + 1) vc) f' V ∧
      (∀ j, j < base → (z1.alloc (.cells #[.slice a 4 c] 24)).heap[j]? = z1.heap[j]? ∧ z3.heap[j]? = z1.heap[j]? ∧ (j ≠ N → (z3.setCell ⟨N, 0, none⟩ (.slice va (k + 1) vc)).heap[j]? = z1.heap[j]?)) := by
  obtain ⟨i0, hi, hz0, hz1, hz2⟩ := info_parts Try.infoRow
  obtain ⟨g, rfl, hg1, hg2, hg3, hog⟩ := own_exact4 ho
  have hmid := h.mid
  have hhi := h.hi
  obtain ⟨ls, hls, row1, hst⟩ := h.row
  have row2 := row1.alloc (.cells #[.slice (some ⟨g, 0, none⟩) 4 c] 24)
  obtain ⟨v', z3, hrun, hown, hgr, _⟩ := run_append_own (P := Try.prog) (z1.alloc (.cells #[.slice (some ⟨g, 0, none⟩) 4 c] 24)) base 64 64 24 i0 (.slice none 0 0) 1 24 Try.underlying64 hi hz0 hz1 hz2 rfl (by decide) v k ls row2 ⟨z1.heap.size, 0, none⟩ 1 1 [.slice (some ⟨g, 0, none⟩) 4 c] rfl
    (by
      intro j u hj
      match j, hj with
      | 0, hj => simp at hj; subst hj; exact one_cell (heap_alloc_new z1 _))
    (by intro u hu; simp at hu; subst hu; rfl) (by unfold maxLen; omega) (by omega) (by show _ ≤ (z1.heap.push _).size; simp; omega)
  obtain ⟨va, vc, rfl⟩ : ∃ va vc, v' = .slice va (k + 1) vc := by
    rcases hown.2 with ⟨_, e2⟩ | ⟨_, c2, _, e2, _⟩
    · omega
    · exact ⟨_, c2, e2⟩
  have kb : ∀ j, j < z1.heap.size → (z1.alloc (.cells #[.slice (some ⟨g, 0, none⟩) 4 c] 24)).heap[j]? = z1.heap[j]? := fun j hj => Below.heap_alloc _ _ _ hj
  have hsa : z1.heap.size < (z1.alloc (.cells #[.slice (some ⟨g, 0, none⟩) 4 c] 24)).heap.size := by show _ < (z1.heap.push _).size; simp
  have hrl : ∀ j, v.ownBlock = some j → base ≤ j := fun j hj => (row2.lt j hj).1
  have k3 : ∀ j, j < z1.heap.size → v.ownBlock ≠ some j → z3.heap[j]? = z1.heap[j]? := fun j hj hne => (hgr.block j (by omega) (fun e => hne e.symm)).trans (kb j hj)
  have k3' : ∀ j, j < base → z3.heap[j]? = z1.heap[j]? := fun j hj => k3 j (by omega) (fun e => by have := hrl j e; omega)
  have hint : ∀ j cur, z1.heap[j]? = some (.cells cur 2 (0, 0)) → v.ownBlock ≠ some j := by
    intro j cur hj e
    rcases row1.2 with ⟨e2, _⟩ | ⟨q, cap, cu, e2, _, hq, _⟩
    · rw [e2] at e; simp [Value.ownBlock] at e
    · rw [e2] at e
      have e3 : q = j := by simpa [Value.ownBlock] using e
      rw [e3, hj] at hq
      injection hq with hq
      injection hq with _ hq
      exact absurd hq (by decide)
  have own3 : ∀ {q : Nat} {x : Option Addr} {xs : List Int}, q < z1.heap.size → Own z1 q (q + 1) x 4 xs → Own z3 q (q + 1) x 4 xs := fun {q} {x} {xs} hq ho => ho.kept fun j h1 h2 => by
    have e : j = q := by omega
    subst e
    obtain ⟨cur, hcur⟩ := own_row4 ho
    exact k3 _ hq (hint _ cur hcur)
  have hN3 := (k3' N hmid).trans h.box
  have hz4 : (z3.setCell ⟨N, 0, none⟩ (.slice va (k + 1) vc)).heap.size = z3.heap.size := by simp [World.setCell]
  have hs3 := hgr.size
  refine ⟨fun i => if i = k then g else f i, va, vc, z3, hrun, one_cell h.box, one_cell ((kb N (by omega)).trans h.box), one_cell hN3, frozen_of_row _ _ _ _ _ hN3, ?_, fun j hj => ⟨kb j (by omega), k3' j hj, fun hne => (heap_setCell_other _ _ _ _ hne).trans (k3' j hj)⟩⟩
  have b3 : Below w.heap.size w z3 := (h.bel.alloc (by have := h.bel.size; omega) _).grown hgr (by have := h.bel.size; omega) fun q hq => by have := hrl q hq; have := h.lo; omega
  refine ⟨by have := heap_setCell_same _ _ 0 _ _ (.slice va (k + 1) vc) hN3; simpa using this, ⟨ls ++ [.slice (some ⟨g, 0, none⟩) 4 c], by simp [hls], ?_, fun i hi' => ?_⟩, fun i hi' => ?_, fun i j hij hj => ?_, b3.setCell h.lo _, h.lo, h.mid, by rw [hz4]; omega⟩
  · exact hown.kept (row := some N) ⟨rfl, rfl, rfl, by simp [World.setCell], fun j _ hne => heap_setCell_other _ _ _ _ (fun e => hne (by rw [e]))⟩ (by
      rcases hv : (Value.slice va (k + 1) vc).ownBlock with _ | q
      · exact .inl rfl
      · exact .inr (fun e => by have := (hown.lt q hv).1; have : q = N := by simpa using e
                                omega))
  · by_cases e : i = k
    · subst e
      simp only [if_pos]
      refine ⟨_, c, by rw [List.getElem?_append_right (by omega)]; simp [hls], (own3 hg3 hog).kept fun j h1 h2 => heap_setCell_other _ _ _ _ (by show j ≠ N; omega)⟩
    · simp only [if_neg e]
      have hik : i < k := by omega
      obtain ⟨ai, ci, q, ho⟩ := hst i hik
      have hs := h.stock i hik
      exact ⟨ai, ci, by rw [List.getElem?_append_left (by omega)]; exact q, (own3 hs.2 ho).kept fun j h1 h2 => heap_setCell_other _ _ _ _ (by show j ≠ N; omega)⟩
  · by_cases e : i = k
    · simp only [if_pos e]
      rw [hz4]
      omega
    · simp only [if_neg e]
      rw [hz4]
      have := h.stock i (by omega)
      omega
  · have hi : i ≠ k := by omega
    simp only [if_neg hi]
    by_cases e : j = k
    · rw [if_pos e]
      have := hlo i (by omega)
      omega
    · rw [if_neg e]
      exact h.inc i j hij (by omega)
theorem AInv.rows {w wr : World} {N base k : Nat} {v : Value} {f : Nat → Nat} {V : Nat → List Int} (h : AInv w wr N base k v f V) (h0 : 0 < k) (hV : ∀ i, i < k → (V i).length = 4) : ∃ g c, v = .slice (some ⟨g, 0, none⟩) k c ∧ RowsAt wr base wr.heap.size g k f V := by
  obtain ⟨ls, hls, hr, hs⟩ := h.row
  rcases hr.2 with ⟨_, e⟩ | ⟨g, c, cs, e, hb, hg, hn, _, hsz, ht⟩
  · omega
  · refine ⟨g, c, e, ⟨hb, (Array.getElem?_eq_some_iff.1 hg).1, cs, hg, fun i hi => ?_⟩, fun i hi => ⟨(h.stock i hi).1, (h.stock i hi).2, fun q => ?_⟩, fun i j hij hj => Nat.ne_of_lt (h.inc i j hij hj)⟩
    · obtain ⟨ai, ci, q, ho⟩ := hs i hi
      rw [hV i hi]
      refine ⟨ai, ci, ?_, ho⟩
      rw [← ht, List.getElem?_take_of_lt (by omega)] at q
      rw [← Array.getElem?_toList]
      exact q
    · obtain ⟨ai, ci, _, ho⟩ := hs i hi
      obtain ⟨cur, hcur⟩ := own_row4 ho
      rw [q, hg] at hcur
      injection hcur with hcur
      injection hcur with _ hcur
      exact absurd hcur (by decide)
theorem opwpR {P : Program} {o : Oper} {a : Act} {w : World} {K : Act → World → Prop} {Q : Exit → Act → World → Prop} (x y : Operand) (ts : Array TypeId) (hop : o.op = Op.call { callee := Callee.builtin Builtin.append, args := #[x, y], argTypes := ts }) (v1 v2 : Value) {v' : Value} {w' : World} (h1 : a.eval x = v1) (h2 : a.eval y = v2)
    (hrun : (Builtin.append_ ts o.type #[v1, v2]).run P w = .ok v' w') (hK : K (a.put o.dst v') w') : Oper.wp P o a w K Q := by
  unfold Oper.wp
  simp [execOp, hop, resolve, invoke, builtin, h1, h2, hrun, Result.andThen]
  exact hK
/-- What answers a table of rows leaves. -/
def AckPost (l : List (List Int)) (w : World) (e : Ending) (w' : World) : Prop :=
  ∃ g c, e = .returned (.agg #[.slice (some ⟨g, 0, none⟩) l.length c]) ∧ (∃ f, RowsAt w' w.heap.size w'.heap.size g l.length f (rowOf l)) ∧ Below w.heap.size w w'
end Go.Proofs.Ytmceofdknphgkaa
