/- Walks and mathematics that several claims share, part 22. -/
import Derived.Test.YtejhmakfbmhhhaaGv21
import Derived.Test.YtejhmakfbmhhhaaGv1
import Derived.Test.YtejhmakfbmhhhaaGv19
import Derived.Test.YtejhmakfbmhhhaaGv18
import Derived.Test.YtejhmakfbmhhhaaGv8
import Derived.Laws.OwnMore
import Derived.OwnWalk
import Derived.Laws.AppendOwn
import Derived.Deep.Cut
import Derived.Lib.MinMax
namespace Go.Proofs.Ytejhmakfbmhhhaa
open Go.RowKit
set_option linter.unusedVariables false

theorem opwpApp {P : Program} {o : Oper} {a : Act} {w : World} {K : Act → World → Prop} {Q : Exit → Act → World → Prop} (x y : Operand) (ts : Array TypeId) (hop : o.op = Op.call { callee := Callee.builtin Builtin.append, args := #[x, y], argTypes := ts }) (v1 v2 : Value) {v' : Value} {w' : World} (h1 : a.eval x = v1) (h2 : a.eval y = v2)
    (hrun : (Builtin.append_ ts o.type #[v1, v2]).run P w = .ok v' w') (hK : K (a.put o.dst v') w') : Oper.wp P o a w K Q := by
  unfold Oper.wp
  simp [execOp, hop, resolve, invoke, builtin, h1, h2, hrun, Result.andThen]
  exact hK
theorem wpListApp {P : Program} {w : World} {ops : Array Oper} {rest : List Oper} {o : Oper} {a : Act} {Q : Exit → Act → World → Prop} (hgd : o.guard = none) (x y : Operand) (ts : Array TypeId) (hop : o.op = Op.call { callee := Callee.builtin Builtin.append, args := #[x, y], argTypes := ts }) (v1 v2 : Value) {v' : Value} {w' : World} (h1 : a.eval x = v1) (h2 : a.eval y = v2)
    (hrun : (Builtin.append_ ts o.type #[v1, v2]).run P w = .ok v' w') (h : wpList P ops Q rest (a.put o.dst v') w') : wpList P ops Q (o :: rest) a w :=
  wpList_plain hgd fun _ hK => opwpApp x y ts hop v1 v2 h1 h2 hrun (hK _ _ h)
end Go.Proofs.Ytejhmakfbmhhhaa

namespace Go.Proofs.Ytejhmakfbmhhhaa
open Go.RowKit

def lnRow (o : LnV) : List Value := [.string o.item, .int .i64 o.qty, .bool o.saved]
def lnCells : List LnV → List Value
  | [] => []
  | x :: l => lnRow x ++ lnCells l
theorem lnCells_len : ∀ l : List LnV, (lnCells l).length = l.length * 3
  | [] => rfl
  | x :: l => by
    show (lnRow x ++ lnCells l).length = _
    rw [List.length_append, lnCells_len l, List.length_cons]
    show 3 + _ = _
    omega
theorem lnCells_snoc (x : LnV) : ∀ l : List LnV, lnCells (l ++ [x]) = lnCells l ++ lnRow x
  | [] => by show lnRow x ++ [] = [] ++ lnRow x; rw [List.append_nil, List.nil_append]
  | y :: l => by
    show lnRow y ++ lnCells (l ++ [x]) = (lnRow y ++ lnCells l) ++ lnRow x
    rw [lnCells_snoc x l, List.append_assoc]
theorem lnCells_at : ∀ (l : List LnV) (i u : Nat), i < l.length → u < 3 → (lnCells l)[i * 3 + u]? = (lnRow (l.getD i LnV.zero))[u]?
  | x :: l, 0, u, _, hu => by
    show (lnRow x ++ lnCells l)[0 * 3 + u]? = (lnRow x)[u]?
    rw [Nat.zero_mul, Nat.zero_add, List.getElem?_append_left (by show u < 3; exact hu)]
  | x :: l, i + 1, u, hi, hu => by
    show (lnRow x ++ lnCells l)[(i + 1) * 3 + u]? = (lnRow (l.getD i LnV.zero))[u]?
    rw [List.getElem?_append_right (by show 3 ≤ _; omega)]
    have e : (i + 1) * 3 + u - (lnRow x).length = i * 3 + u := by show _ - 3 = _; omega
    rw [e]
    exact lnCells_at l i u (by simpa using hi) hu
theorem ownLns_of_cells {w : World} {base hi : Nat} {v : Value} {n : Nat} {l : List LnV} (h : w.ownsRow base 114 3 v n (lnCells l)) (hh : w.heap.size ≤ hi) : ∃ a c, v = .slice a n c ∧ OwnLns w base hi a n l := by
  have hl : l.length = n := by have := h.1; rw [lnCells_len] at this; omega
  rcases h.2 with ⟨e, e2⟩ | ⟨g, c, cur, e, hb, hg, hnc, _, hs, ht⟩
  · have hn0 : n = 0 := by simpa using e2
    subst hn0
    exact ⟨none, 0, e, hl, fun h => absurd h (by omega)⟩
  · have key : ∀ i u, i < n → u < 3 → cur[0 + i * 3 + u]? = (lnRow (l.getD i LnV.zero))[u]? := fun i u hi' hu => by
      have h2 : (cur.toList.take (n * 3))[i * 3 + u]? = (lnCells l)[i * 3 + u]? := by rw [ht]
      rw [List.getElem?_take_of_lt (by omega), lnCells_at l i u (by omega) hu] at h2
      rw [Nat.zero_add, ← Array.getElem?_toList, h2]
    refine ⟨_, c, e, hl, fun hn => ⟨g, 0, cur, rfl, hb, Nat.lt_of_lt_of_le (Array.getElem?_eq_some_iff.1 hg).1 hh, hg, by rw [hs]; omega, fun i hi' => ?_⟩⟩
    exact ⟨key i 0 hi' (by omega), key i 1 hi' (by omega), key i 2 hi' (by omega)⟩
theorem Try.zeroLn : (Try.prog.info? 114).map (fun i => (i.zero, i.size, i.bytes)) = some (some (.agg #[.string ⟨#[]⟩, .int .i64 0, .bool false]), 3, 32) := by kernel_rfl
/-- append of one element that a literal has made. -/
theorem appLn (w : World) (base : Nat) (v : Value) (n : Nat) (l : List LnV) (hown : w.ownsRow base 114 3 v n (lnCells l)) (o : LnV) (hn : n + 1 ≤ 4194304) (hbase : base ≤ w.heap.size) :
    ∃ v' w', (Builtin.append_ #[55, 55] 55 #[v, .slice (some ⟨w.heap.size, 0, none⟩) 1 1]).run Try.prog (w.alloc (.cells #[.string o.item, .int .i64 o.qty, .bool o.saved] 114)) = .ok v' w' ∧ w'.ownsRow base 114 3 v' (n + 1) (lnCells (l ++ [o])) ∧ Below base w w' ∧ (w.alloc (.cells #[.string o.item, .int .i64 o.qty, .bool o.saved] 114)).grownBy w' v.ownBlock := by
  obtain ⟨i0, hi, hz0, hz1, hz2⟩ := info_parts Try.zeroLn
  have hb0 : Below base w (w.alloc (.cells #[.string o.item, .int .i64 o.qty, .bool o.saved] 114)) := (Below.refl _ _).alloc hbase _
  have hA := hown.alloc (.cells #[.string o.item, .int .i64 o.qty, .bool o.saved] 114)
  have hcells : ∀ j u, (lnRow o)[j]? = some u → (w.alloc (.cells #[.string o.item, .int .i64 o.qty, .bool o.saved] 114)).cell? ((⟨w.heap.size, 0, none⟩ : Addr).add j) = some u := by
    intro j u hu
    have hj : j < 3 := by
      rcases Nat.lt_or_ge j 3 with g | g
      · exact g
      · rw [List.getElem?_eq_none (by show 3 ≤ j; exact g)] at hu; cases hu
    rw [add_at, cell_of_row _ _ _ _ _ _ (heap_alloc_new w _), Nat.zero_add]
    rw [← hu]
    match j, hj with
    | 0, _ => rfl
    | 1, _ => rfl
    | 2, _ => rfl
  obtain ⟨v', w', h1, h2, h3, _⟩ := run_append_own (P := Try.prog) _ base 55 55 114 i0 (.agg #[.string ⟨#[]⟩, .int .i64 0, .bool false]) 3 32 Try.underlying55 hi hz0 hz1 hz2 rfl (by decide) v n _ hA ⟨w.heap.size, 0, none⟩ 1 1 (lnRow o) rfl hcells (by intro u hu; simp only [lnRow, List.mem_cons, List.not_mem_nil, or_false] at hu; rcases hu with rfl | rfl | rfl <;> rfl) (by unfold maxLen; omega) (by omega) (Nat.le_trans hbase hb0.size)
  exact ⟨v', w', h1, by rw [lnCells_snoc]; exact h2, hb0.grown h3 (Nat.le_trans hbase hb0.size) (fun j hj => (hA.lt j hj).1), h3⟩
theorem ownLn_none (w : World) (base : Nat) : w.ownsRow base 114 3 (.slice none 0 0) 0 (lnCells []) := ⟨rfl, .inl ⟨rfl, rfl⟩⟩
end Go.Proofs.Ytejhmakfbmhhhaa

namespace Go.Proofs.Ytejhmakfbmhhhaa
open Go.RowKit
set_option linter.unusedVariables false

end Go.Proofs.Ytejhmakfbmhhhaa

namespace Go.Proofs.Ytejhmakfbmhhhaa
open Go.RowKit
set_option linter.unusedVariables false

end Go.Proofs.Ytejhmakfbmhhhaa

namespace Go.Proofs.Ytejhmakfbmhhhaa
open Go.RowKit
set_option linter.unusedVariables false

/-- Three blocks that a call has laid first: a cart, an operation and a result. -/
structure PutF (w w1 : World) (x y z : Array Value) : Prop where
  fst : w1.heap[w.heap.size]? = some (.cells x 31 (0, 0))
  snd : w1.heap[w.heap.size + 1]? = some (.cells y 80 (0, 0))
  res : w1.heap[w.heap.size + 1 + 1]? = some (.cells z 31 (0, 0))
  bel : Below w.heap.size w w1
theorem PutF.put {w w1 : World} {x y z : Array Value} (h : PutF w w1 x y z) (i : Nat) (v : Value) : PutF w (w1.setCell ⟨w.heap.size + 1, i, none⟩ v) x (y.setIfInBounds i v) z :=
  ⟨(heap_setCell_other _ _ _ _ (by show w.heap.size ≠ w.heap.size + 1; omega)).trans h.fst, heap_setCell_same _ _ _ _ _ _ h.snd, (heap_setCell_other _ _ _ _ (by show w.heap.size + 1 + 1 ≠ w.heap.size + 1; omega)).trans h.res, h.bel.setCell (p := ⟨w.heap.size + 1, i, none⟩) (by show _ ≤ w.heap.size + 1; omega) v⟩
theorem PutF.lt {w w1 : World} {x y z : Array Value} (h : PutF w w1 x y z) : w.heap.size + 1 + 1 < w1.heap.size := (Array.getElem?_eq_some_iff.1 h.res).1
end Go.Proofs.Ytejhmakfbmhhhaa
