/- Walks and mathematics that several claims share, part 31. -/
import Derived.Test.YtjokbaaommicmaaGreatDoorGb29
import Derived.Test.YtjokbaaommicmaaGreatDoorGb23
import Derived.Laws.CopyRow
import Derived.Laws.IdiomCopy
import Derived.Test.YtjokbaaommicmaaGreatDoorGbA
namespace Go.Proofs.YtjokbaaommicmaaGreatDoor
open Go.RowKit
set_option linter.unusedVariables false

theorem opCells_app : ∀ a b : List OpV, opCells (a ++ b) = opCells a ++ opCells b
 | [], b => rfl
 | x :: a, b => by
  show opRow x ++ opCells (a ++ b) = (opRow x ++ opCells a) ++ opCells b
  rw [opCells_app a b, List.append_assoc]
theorem opCells_one1 (o : OpV) : opCells [o] = opRow o := by show opRow o ++ [] = _; rw [List.append_nil]
theorem opRow_len (o : OpV) : (opRow o).length = 8 := rfl
/-- Where there is room: the rest is moved up by one, then the element is written. -/
theorem ins_shift {cur A B R O : List Value} {p q : Nat} (hc : cur = A ++ B ++ R) (hA : A.length = p) (hB : B.length = q) (hO : O.length = 8) (hR : 8 ≤ R.length) :
  ((cur.take (p + 8) ++ B ++ cur.drop (p + 8 + B.length)).take p ++ O ++ (cur.take (p + 8) ++ B ++ cur.drop (p + 8 + B.length)).drop (p + O.length)).take (p + 8 + q) = A ++ O ++ B ∧
  (cur.take (p + 8) ++ B ++ cur.drop (p + 8 + B.length)).length = cur.length ∧
  ((cur.take (p + 8) ++ B ++ cur.drop (p + 8 + B.length)).take p ++ O ++ (cur.take (p + 8) ++ B ++ cur.drop (p + 8 + B.length)).drop (p + O.length)).length = cur.length := by
 have hl : cur.length = p + q + R.length := by rw [hc, List.length_append, List.length_append, hA, hB]
 have ht : (cur.take (p + 8)).length = p + 8 := by rw [List.length_take]; omega
 have e1 : (cur.take (p + 8) ++ B ++ cur.drop (p + 8 + B.length)).take p = A := by
  rw [List.append_assoc, List.take_append_of_le_length (by omega), List.take_take, Nat.min_eq_left (by omega), hc, List.append_assoc, List.take_append_of_le_length (by omega), ← hA, List.take_length]
 have e2 : (cur.take (p + 8) ++ B ++ cur.drop (p + 8 + B.length)).drop (p + O.length) = B ++ cur.drop (p + 8 + B.length) := by
  rw [hO, List.append_assoc]; exact List.drop_left' ht
 rw [e1, e2]
 refine ⟨?_, ?_, ?_⟩
 ·rw [← List.append_assoc, List.take_append_of_le_length (by simp only [List.length_append]; omega)]
  exact List.take_of_length_le (by simp only [List.length_append]; omega)
 ·simp only [List.length_append, List.length_drop, ht]; omega
 ·simp only [List.length_append, List.length_drop]; omega
/-- In a new row: the element, then the rest. -/
theorem ins_grow {row A B Z O : List Value} {p q : Nat} (hc : row = A ++ Z) (hA : A.length = p) (hB : B.length = q) (hO : O.length = 8) (hZ : 8 + q ≤ Z.length) :
  ((row.take p ++ O ++ row.drop (p + O.length)).take (p + 8) ++ B ++ (row.take p ++ O ++ row.drop (p + O.length)).drop (p + 8 + B.length)).take (p + 8 + q) = A ++ O ++ B ∧
  (row.take p ++ O ++ row.drop (p + O.length)).length = row.length ∧
  ((row.take p ++ O ++ row.drop (p + O.length)).take (p + 8) ++ B ++ (row.take p ++ O ++ row.drop (p + O.length)).drop (p + 8 + B.length)).length = row.length := by
 have hl : row.length = p + Z.length := by rw [hc, List.length_append, hA]
 have e0 : row.take p = A := by rw [hc, List.take_append_of_le_length (by omega), ← hA, List.take_length]
 have e1 : (row.take p ++ O ++ row.drop (p + O.length)).take (p + 8) = A ++ O := by
  rw [e0, List.take_append_of_le_length (by simp only [List.length_append]; omega)]
  exact List.take_of_length_le (by simp only [List.length_append]; omega)
 have hl2 : (row.take p ++ O ++ row.drop (p + O.length)).length = row.length := by
  simp only [List.length_append, List.length_take, List.length_drop]; omega
 refine ⟨?_, hl2, ?_⟩
 ·rw [e1, List.take_append_of_le_length (by simp only [List.length_append]; omega)]
  exact List.take_of_length_le (by simp only [List.length_append]; omega)
 ·rw [e1]
  simp only [List.length_append, List.length_drop, hl2]
  omega
section
variable {P : Program}
/-- The built-in copy, over rows of elements of any size. -/
theorem run_copy_rows (w : World) (dT sT ty elem : TypeId) (g o dLen dCap : Nat) (a : Addr) (sLen sCap : Nat) (cur : Array Value) (t : TypeId) (cs : List Value) (k : Nat)
  (hu : P.underlying dT = some (.slice elem)) (hs : (P.info? elem).map (·.size) = some k)
  (hg : w.heap[g]? = some (.cells cur t (0, 0))) (hn : cs.length = Nat.min sLen dLen * k)
  (hsrc : ∀ j v, cs[j]? = some v → w.cell? (a.add j) = some v) (hfit : o + cs.length ≤ cur.size) (h1 : ∀ v ∈ cs, v.oneCell' = true) :
  (Builtin.copy_ #[dT, sT] ty #[.slice (some ⟨g, o, none⟩) dLen dCap, .slice (some a) sLen sCap]).run P w =
   .ok (goInt (Nat.min sLen dLen)) (w.setRow g (cur.toList.take o ++ cs ++ cur.toList.drop (o + cs.length)).toArray) := by
 have hl := run_loadCells_list (P := P) w a cs hsrc
 have hst := run_storeCells_at P g o t cs 0 cur w hg (by simpa using hfit) h1
 cases hq : P.info? elem with
 | none => simp [hq] at hs
 | some i =>
  have hi : i.size = k := by simpa [hq] using hs
  simp [Builtin.copy_, run_underlying hu, Builtin.lenOf, Builtin.firstCells, sizeOf, typeInfo, hq, hi, ← hn, hl, hst]
theorem opwpCopy {o : Oper} {a : Act} {w : World} {K : Act → World → Prop} {Q : Exit → Act → World → Prop} (x y : Operand) (ts : Array TypeId) (hop : o.op = Op.call { callee := Callee.builtin Builtin.copy, args := #[x, y], argTypes := ts }) (v1 v2 : Value) {v' : Value} {w' : World} (h1 : a.eval x = v1) (h2 : a.eval y = v2)
  (hrun : (Builtin.copy_ ts o.type #[v1, v2]).run P w = .ok v' w') (hK : K (a.put o.dst v') w') : Oper.wp P o a w K Q := by
 unfold Oper.wp
 simp [execOp, hop, resolve, invoke, builtin, h1, h2, hrun, Result.andThen]
 exact hK
theorem wpListCopy {w : World} {ops : Array Oper} {rest : List Oper} {o : Oper} {a : Act} {Q : Exit → Act → World → Prop} (hgd : o.guard = none) (x y : Operand) (ts : Array TypeId) (hop : o.op = Op.call { callee := Callee.builtin Builtin.copy, args := #[x, y], argTypes := ts }) (v1 v2 : Value) {v' : Value} {w' : World} (h1 : a.eval x = v1) (h2 : a.eval y = v2)
  (hrun : (Builtin.copy_ ts o.type #[v1, v2]).run P w = .ok v' w') (h : wpList P ops Q rest (a.put o.dst v') w') : wpList P ops Q (o :: rest) a w :=
 wpList_plain hgd fun _ hK => opwpCopy x y ts hop v1 v2 h1 h2 hrun (hK _ _ h)
end
end Go.Proofs.YtjokbaaommicmaaGreatDoor
