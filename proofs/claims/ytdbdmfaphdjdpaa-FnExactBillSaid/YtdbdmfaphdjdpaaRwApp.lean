/- Rows of a bill's rows that a call appends to. -/
import Derived.Test.YtdbdmfaphdjdpaaRwMk
import Derived.Test.YtdbdmfaphdjdpaaMarkW
import Derived.Test.YtdbdmfaphdjdpaaAppW
import Derived.Laws.AppendOwn
namespace Go.Proofs.Ytdbdmfaphdjdpaa
open Go.RowKit

def rwRow (o : RwV) : List Value := [.string o.item, .int .i64 o.qty, .int .i64 o.cents]
def rwCells : List RwV → List Value
  | [] => []
  | x :: l => rwRow x ++ rwCells l
theorem rwCells_len : ∀ l : List RwV, (rwCells l).length = l.length * 3
  | [] => rfl
  | x :: l => by
    show (rwRow x ++ rwCells l).length = _
    rw [List.length_append, rwCells_len l, List.length_cons]
    show 3 + _ = _
    omega
theorem rwCells_snoc (x : RwV) : ∀ l : List RwV, rwCells (l ++ [x]) = rwCells l ++ rwRow x
  | [] => by show rwRow x ++ [] = [] ++ rwRow x; rw [List.append_nil, List.nil_append]
  | y :: l => by
    show rwRow y ++ rwCells (l ++ [x]) = (rwRow y ++ rwCells l) ++ rwRow x
    rw [rwCells_snoc x l, List.append_assoc]
theorem rwCells_at : ∀ (l : List RwV) (i u : Nat), i < l.length → u < 3 → (rwCells l)[i * 3 + u]? = (rwRow (l.getD i RwV.zero))[u]?
  | x :: l, 0, u, _, hu => by
    show (rwRow x ++ rwCells l)[0 * 3 + u]? = (rwRow x)[u]?
    rw [Nat.zero_mul, Nat.zero_add, List.getElem?_append_left (by show u < 3; exact hu)]
  | x :: l, i + 1, u, hi, hu => by
    show (rwRow x ++ rwCells l)[(i + 1) * 3 + u]? = (rwRow (l.getD i RwV.zero))[u]?
    rw [List.getElem?_append_right (by show 3 ≤ _; omega)]
    have e : (i + 1) * 3 + u - (rwRow x).length = i * 3 + u := by show _ - 3 = _; omega
    rw [e]
    exact rwCells_at l i u (by simpa using hi) hu
theorem ownRws_of_cells {w : World} {base hi : Nat} {v : Value} {n : Nat} {l : List RwV} (h : w.ownsRow base 123 3 v n (rwCells l)) (hh : w.heap.size ≤ hi) : ∃ a c, v = .slice a n c ∧ OwnRws w base hi a n l := by
  have hl : l.length = n := by have := h.1; rw [rwCells_len] at this; omega
  rcases h.2 with ⟨e, e2⟩ | ⟨g, c, cur, e, hb, hg, hnc, _, hs, ht⟩
  · have hn0 : n = 0 := by simpa using e2
    subst hn0
    exact ⟨none, 0, e, hl, fun h => absurd h (by omega)⟩
  · have key : ∀ i u, i < n → u < 3 → cur[0 + i * 3 + u]? = (rwRow (l.getD i RwV.zero))[u]? := fun i u hi' hu => by
      have h2 : (cur.toList.take (n * 3))[i * 3 + u]? = (rwCells l)[i * 3 + u]? := by rw [ht]
      rw [List.getElem?_take_of_lt (by omega), rwCells_at l i u (by omega) hu] at h2
      rw [Nat.zero_add, ← Array.getElem?_toList, h2]
    refine ⟨_, c, e, hl, fun hn => ⟨g, 0, cur, rfl, hb, Nat.lt_of_lt_of_le (Array.getElem?_eq_some_iff.1 hg).1 hh, hg, by rw [hs]; omega, fun i hi' => ?_⟩⟩
    exact ⟨key i 0 hi' (by omega), key i 1 hi' (by omega), key i 2 hi' (by omega)⟩
theorem Try.zeroRw : (Try.prog.info? 123).map (fun i => (i.zero, i.size, i.bytes)) = some (some (.agg #[.string ⟨#[]⟩, .int .i64 0, .int .i64 0]), 3, 32) := by kernel_rfl
/-- append of one element that a literal has made. -/
theorem appRw (w : World) (base : Nat) (v : Value) (n : Nat) (l : List RwV) (hown : w.ownsRow base 123 3 v n (rwCells l)) (o : RwV) (hn : n + 1 ≤ 4194304) (hbase : base ≤ w.heap.size) :
    ∃ v' w', (Builtin.append_ #[48, 48] 48 #[v, .slice (some ⟨w.heap.size, 0, none⟩) 1 1]).run Try.prog (w.alloc (.cells #[.string o.item, .int .i64 o.qty, .int .i64 o.cents] 123)) = .ok v' w' ∧ w'.ownsRow base 123 3 v' (n + 1) (rwCells (l ++ [o])) ∧ Below base w w' ∧ (w.alloc (.cells #[.string o.item, .int .i64 o.qty, .int .i64 o.cents] 123)).grownBy w' v.ownBlock := by
  obtain ⟨i0, hi, hz0, hz1, hz2⟩ := info_parts Try.zeroRw
  have hb0 : Below base w (w.alloc (.cells #[.string o.item, .int .i64 o.qty, .int .i64 o.cents] 123)) := (Below.refl _ _).alloc hbase _
  have hA := hown.alloc (.cells #[.string o.item, .int .i64 o.qty, .int .i64 o.cents] 123)
  have hcells : ∀ j u, (rwRow o)[j]? = some u → (w.alloc (.cells #[.string o.item, .int .i64 o.qty, .int .i64 o.cents] 123)).cell? ((⟨w.heap.size, 0, none⟩ : Addr).add j) = some u := by
    intro j u hu
    have hj : j < 3 := by
      rcases Nat.lt_or_ge j 3 with g | g
      · exact g
      · rw [List.getElem?_eq_none (by show 3 ≤ j; exact g)] at hu; cases hu
    rw [add_at, cell_of_row _ _ _ _ _ _ (heap_alloc_new w _), Nat.zero_add]
    rw [← hu]
    match j, hj with
    | 0, _ => rfl
    | 1, _ => rfl
    | 2, _ => rfl
  obtain ⟨v', w', h1, h2, h3, _⟩ := run_append_own (P := Try.prog) _ base 48 48 123 i0 (.agg #[.string ⟨#[]⟩, .int .i64 0, .int .i64 0]) 3 32 Try.underlying48 hi hz0 hz1 hz2 rfl (by decide) v n _ hA ⟨w.heap.size, 0, none⟩ 1 1 (rwRow o) rfl hcells (by intro u hu; simp only [rwRow, List.mem_cons, List.not_mem_nil, or_false] at hu; rcases hu with rfl | rfl | rfl <;> rfl) (by unfold maxLen; omega) (by omega) (Nat.le_trans hbase hb0.size)
  exact ⟨v', w', h1, by rw [rwCells_snoc]; exact h2, hb0.grown h3 (Nat.le_trans hbase hb0.size) (fun j hj => (hA.lt j hj).1), h3⟩
theorem ownRw_none (w : World) (base : Nat) : w.ownsRow base 123 3 (.slice none 0 0) 0 (rwCells []) := ⟨rfl, .inl ⟨rfl, rfl⟩⟩
end Go.Proofs.Ytdbdmfaphdjdpaa
