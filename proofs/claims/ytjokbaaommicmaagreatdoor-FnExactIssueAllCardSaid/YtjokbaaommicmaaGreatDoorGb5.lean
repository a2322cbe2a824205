/- Walks and mathematics that several claims share, part 5. -/
import Derived.Test.YtjokbaaommicmaaGreatDoorRows
import Derived.WalkKit
import Derived.ProofKit
import Derived.OpenShut
import Derived.ShutString
import Derived.ChangeOld
import Derived.Below
import Derived.Test.YtjokbaaommicmaaGreatDoorGbA
namespace Go.Proofs.YtjokbaaommicmaaGreatDoor
open Go.ChangeShapes Go.WideShapes Go.ChangeAt Go.RowKit

theorem cells_op : Tryz.prog.cellsOf 100 = 8 := by kernel_rfl
theorem cells_i64 : Tryz.prog.cellsOf 2 = 1 := by kernel_rfl
theorem cells_str : Tryz.prog.cellsOf 9 = 1 := by kernel_rfl
theorem one_int {H : Type} {enc : TypeId × Value → H} {W : World} {base : Nat} {spare : Nat → Bool} {held : Bool} {n j : Nat} {l : List Value} {c : Value} {y : Option (DataW H × List MemPlace)} {z : DataW H × List MemPlace} (hj : l[j]? = some c)
  (h : DataW.trod enc Tryz.prog W base spare held n 2 ((l.drop j).take (Tryz.prog.cellsOf 2)) = y) (hy : y = some z) : ∃ a : Int, c = .int .i64 a ∧ (Lit.int .i64 a).wf = true := by
 rw [hy, cells_i64] at h
 obtain ⟨a, ha, _, hw⟩ := DataW.trod_int Tryz.underlying2 h
 refine ⟨a, ?_, hw⟩
 have hl : j < l.length := (List.getElem?_eq_some_iff.1 hj).1
 rw [List.drop_eq_getElem_cons hl] at ha
 rw [List.take_succ_cons, List.take_zero] at ha
 injection ha with ha
 rw [List.getElem?_eq_getElem hl] at hj
 injection hj with hj
 rw [← hj, ha]
theorem one_str {H : Type} {enc : TypeId × Value → H} {W : World} {base : Nat} {spare : Nat → Bool} {held : Bool} {n j : Nat} {l : List Value} {c : Value} {y : Option (DataW H × List MemPlace)} {z : DataW H × List MemPlace} (hj : l[j]? = some c)
  (h : DataW.trod enc Tryz.prog W base spare held n 9 ((l.drop j).take (Tryz.prog.cellsOf 9)) = y) (hy : y = some z) : ∃ s : ByteArray, c = .string s ∧ s.size ≤ maxLen := by
 rw [hy, cells_str] at h
 obtain ⟨a, ha, _, hw⟩ := DataW.trod_string Tryz.underlying9 h
 refine ⟨a, ?_, hw⟩
 have hl : j < l.length := (List.getElem?_eq_some_iff.1 hj).1
 rw [List.drop_eq_getElem_cons hl] at ha
 rw [List.take_succ_cons, List.take_zero] at ha
 injection ha with ha
 rw [List.getElem?_eq_getElem hl] at hj
 injection hj with hj
 rw [← hj, ha]
end Go.Proofs.YtjokbaaommicmaaGreatDoor

namespace Go.Proofs.YtjokbaaommicmaaGreatDoor
open Go.ChangeShapes Go.WideShapes Go.ChangeAt Go.RowKit

theorem cells_cmd : Tryz.prog.cellsOf 27 = 5 := by kernel_rfl
end Go.Proofs.YtjokbaaommicmaaGreatDoor
