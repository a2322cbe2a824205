/- append onto a row of the call's own, of a slice of numbers and of a slice of operations, nil or not. -/
import Derived.Test.YtdbdmfaphdjdpaaOwnB
import Derived.Test.YtdbdmfaphdjdpaaCapB
import Derived.Laws.OwnMore
import Derived.OwnWalk
namespace Go.Proofs.Ytdbdmfaphdjdpaa
open Go.RowKit
set_option linter.unusedVariables false

theorem infoI64' : (Try.prog.info? 2).map (fun i => (i.zero, i.size, i.bytes)) = some (some (.int .i64 0), 1, 8) := Try.infoI64
theorem ints_cells {w : World} {B b off n : Nat} {xs : List Int} (h : Ints w B (some ⟨b, off, none⟩) n xs) : ∀ j u, (xs.map (Value.int .i64))[j]? = some u → w.cell? ((⟨b, off, none⟩ : Addr).add j) = some u := fun j u hu => by
  have hj : j < xs.length := by
    rcases Nat.lt_or_ge j xs.length with g | g
    · exact g
    · rw [List.getElem?_eq_none (by simpa using g)] at hu; cases hu
  obtain ⟨b', off', e, _, hc⟩ := h.2 j (by rw [← h.1]; exact hj)
  injection e with e
  injection e with e1 e2
  subst e1 e2
  rw [add_at, hc]
  rw [List.getElem?_map, List.getElem?_eq_getElem hj] at hu
  rw [← hu, List.getD_eq_getElem?_getD, List.getElem?_eq_getElem hj]
  rfl
set_option maxRecDepth 100000 in
theorem appInts (w : World) (base : Nat) (v : Value) (n : Nat) (xs : List Int) (hown : w.ownsRow base 2 1 v n (xs.map (Value.int .i64))) (B : Nat) (a : Option Addr) (m c : Nat) (ys : List Int) (h : Ints w B a m ys) (hc : a = none → c = 0) (hn : n + m ≤ 4194304) (hbase : base ≤ w.heap.size) :
    ∃ v' w', (Builtin.append_ #[22, 22] 22 #[v, .slice a m c]).run Try.prog w = .ok v' w' ∧ w'.ownsRow base 2 1 v' (n + m) ((xs ++ ys).map (Value.int .i64)) ∧ w.grownBy w' v.ownBlock := by
  obtain ⟨i0, hi, hz0, hz1, hz2⟩ := info_parts Try.infoI64
  have hl : ys.length = m := h.1
  rcases a with _ | x
  · have hm : m = 0 := by
      rcases Nat.eq_zero_or_pos m with g | g
      · exact g
      · obtain ⟨_, _, e, _⟩ := h.2 0 g; cases e
    subst hm
    have : ys = [] := List.eq_nil_of_length_eq_zero hl
    subst this
    rw [hc rfl]
    exact ⟨v, w, run_append_owned_none (P := Try.prog) w base 22 22 2 i0 1 Try.underlying22 hi v n _ hown, by simpa using hown, World.grownBy.refl _ _⟩
  · have hcells : ∀ j u, (ys.map (Value.int .i64))[j]? = some u → w.cell? (x.add j) = some u := by
      rcases Nat.eq_zero_or_pos m with g | g
      · subst g
        have : ys = [] := List.eq_nil_of_length_eq_zero hl
        subst this
        intro j u hu
        simp at hu
      · obtain ⟨b, off, e, _⟩ := h.2 0 g
        injection e with e
        subst e
        exact ints_cells h
    obtain ⟨v', w', h1, h2, h3, _⟩ := run_append_own (P := Try.prog) w base 22 22 2 i0 (.int .i64 0) 1 8 Try.underlying22 hi hz0 hz1 hz2 rfl (by decide) v n _ hown x m c (ys.map (Value.int .i64)) (by rw [List.length_map, hl]; omega) hcells (by intro u hu; rw [List.mem_map] at hu; obtain ⟨z, _, rfl⟩ := hu; rfl) (by unfold maxLen; omega) (by omega) hbase
    exact ⟨v', w', h1, by rw [List.map_append]; exact h2, h3⟩
set_option maxRecDepth 100000 in
theorem appOps (w : World) (base : Nat) (v : Value) (n : Nat) (l : List OpV) (hown : w.ownsRow base 77 8 v n (opCells l)) (B : Nat) (a : Option Addr) (m c : Nat) (k : List OpV) (h : Ops w B a m k) (hc : a = none → c = 0) (hn : n + m ≤ 4194304) (hbase : base ≤ w.heap.size) :
    ∃ v' w', (Builtin.append_ #[27, 27] 27 #[v, .slice a m c]).run Try.prog w = .ok v' w' ∧ w'.ownsRow base 77 8 v' (n + m) (opCells (l ++ k)) ∧ w.grownBy w' v.ownBlock := by
  obtain ⟨i0, hi, hz0, hz1, hz2⟩ := info_parts Try.infoOp
  have hl : k.length = m := h.1
  have happ : opCells (l ++ k) = opCells l ++ opCells k := by
    clear h hl hown hn
    induction l with
    | nil => rfl
    | cons x l ih => show opRow x ++ opCells (l ++ k) = (opRow x ++ opCells l) ++ opCells k; rw [ih, List.append_assoc]
  rcases a with _ | x
  · have hm : m = 0 := by
      rcases Nat.eq_zero_or_pos m with g | g
      · exact g
      · obtain ⟨_, _, e, _⟩ := h.2 0 g; cases e
    subst hm
    have : k = [] := List.eq_nil_of_length_eq_zero hl
    subst this
    rw [hc rfl]
    exact ⟨v, w, run_append_owned_none (P := Try.prog) w base 27 27 77 i0 8 Try.underlying27 hi v n _ hown, by rw [List.append_nil]; exact hown, World.grownBy.refl _ _⟩
  · have hcells : ∀ j u, (opCells k)[j]? = some u → w.cell? (x.add j) = some u := by
      rcases Nat.eq_zero_or_pos m with g | g
      · subst g
        have : k = [] := List.eq_nil_of_length_eq_zero hl
        subst this
        intro j u hu
        simp [opCells] at hu
      · obtain ⟨b, off, e, _⟩ := h.2 0 g
        injection e with e
        subst e
        exact cells_of_ops h
    obtain ⟨v', w', h1, h2, h3, _⟩ := run_append_own (P := Try.prog) w base 27 27 77 i0 _ 8 72 Try.underlying27 hi hz0 hz1 hz2 rfl (by decide) v n _ hown x m c (opCells k) (by rw [opCells_len, hl]) hcells (fun u hu => opCells_one k u hu) (by unfold maxLen; omega) (by omega) hbase
    exact ⟨v', w', h1, by rw [happ]; exact h2, h3⟩
theorem opwpApp {P : Program} {o : Oper} {a : Act} {w : World} {K : Act → World → Prop} {Q : Exit → Act → World → Prop} (x y : Operand) (ts : Array TypeId) (hop : o.op = Op.call { callee := Callee.builtin Builtin.append, args := #[x, y], argTypes := ts }) (v1 v2 : Value) {v' : Value} {w' : World} (h1 : a.eval x = v1) (h2 : a.eval y = v2)
    (hrun : (Builtin.append_ ts o.type #[v1, v2]).run P w = .ok v' w') (hK : K (a.put o.dst v') w') : Oper.wp P o a w K Q := by
  unfold Oper.wp
  simp [execOp, hop, resolve, invoke, builtin, h1, h2, hrun, Result.andThen]
  exact hK
theorem wpListApp {P : Program} {w : World} {ops : Array Oper} {rest : List Oper} {o : Oper} {a : Act} {Q : Exit → Act → World → Prop} (hgd : o.guard = none) (x y : Operand) (ts : Array TypeId) (hop : o.op = Op.call { callee := Callee.builtin Builtin.append, args := #[x, y], argTypes := ts }) (v1 v2 : Value) {v' : Value} {w' : World} (h1 : a.eval x = v1) (h2 : a.eval y = v2)
    (hrun : (Builtin.append_ ts o.type #[v1, v2]).run P w = .ok v' w') (h : wpList P ops Q rest (a.put o.dst v') w') : wpList P ops Q (o :: rest) a w :=
  wpList_plain hgd fun _ hK => opwpApp x y ts hop v1 v2 h1 h2 hrun (hK _ _ h)
/-- A slice that owns a row, its parts. -/
theorem row_formA {w : World} {base size n : Nat} {e : TypeId} {v : Value} {xs : List Value} (h : w.ownsRow base e size v n xs) : ∃ a c, v = .slice a n c ∧ Caps a n c := by
  rcases h.2 with ⟨e1, e2⟩ | ⟨g, cap, cur, e1, _⟩
  · subst e1
    have e3 := h
    have hn : n = 0 := e2
    subst hn
    exact ⟨none, 0, rfl, caps_nil⟩
  · subst e1
    exact ⟨_, _, rfl, caps_of_row h⟩
end Go.Proofs.Ytdbdmfaphdjdpaa
