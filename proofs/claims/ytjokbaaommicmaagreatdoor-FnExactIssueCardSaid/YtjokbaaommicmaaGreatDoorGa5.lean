/- Walks and mathematics that several claims share, part 5. -/
import Derived.Test.YtjokbaaommicmaaGreatDoorRows
import Derived.WalkKit
import Derived.ProofKit
import Derived.OpenShut
import Derived.ShutString
import Derived.ChangeOld
import Derived.Below
import Derived.Test.YtjokbaaommicmaaGreatDoorGaA
namespace Go.Proofs.YtjokbaaommicmaaGreatDoor
set_option maxRecDepth 100000
open Go.ChangeShapes Go.WideShapes Go.ChangeAt Go.RowKit

theorem cells_op : Tryz.prog.cellsOf 100 = 8 := by kernel_rfl
theorem cells_i64 : Tryz.prog.cellsOf 2 = 1 := by kernel_rfl
theorem cells_str : Tryz.prog.cellsOf 9 = 1 := by kernel_rfl
theorem one_int {H : Type} {enc : TypeId × Value → H} {W : World} {base : Nat} {spare : Nat → Bool} {held : Bool} {n j : Nat} {l : List Value} {c : Value} {y : Option (DataW H × List MemPlace)} {z : DataW H × List MemPlace} (hj : l[j]? = some c)
  (h : DataW.trod enc Tryz.prog W base spare held n 2 ((l.drop j).take (Tryz.prog.cellsOf 2)) = y) (hy : y = some z) : ∃ a : Int, c = .int .i64 a ∧ (Lit.int .i64 a).wf = true := by
 rw [hy, cells_i64] at h
 obtain ⟨a, ha, _, hw⟩ := DataW.trod_int Tryz.underlying2 h
 refine ⟨a, ?_, hw⟩
 have hl : j < l.length := (List.getElem?_eq_some_iff.1 hj).1
 rw [List.drop_eq_getElem_cons hl] at ha
 rw [List.take_succ_cons, List.take_zero] at ha
 injection ha with ha
 rw [List.getElem?_eq_getElem hl] at hj
 injection hj with hj
 rw [← hj, ha]
theorem one_str {H : Type} {enc : TypeId × Value → H} {W : World} {base : Nat} {spare : Nat → Bool} {held : Bool} {n j : Nat} {l : List Value} {c : Value} {y : Option (DataW H × List MemPlace)} {z : DataW H × List MemPlace} (hj : l[j]? = some c)
  (h : DataW.trod enc Tryz.prog W base spare held n 9 ((l.drop j).take (Tryz.prog.cellsOf 9)) = y) (hy : y = some z) : ∃ s : ByteArray, c = .string s ∧ s.size ≤ maxLen := by
 rw [hy, cells_str] at h
 obtain ⟨a, ha, _, hw⟩ := DataW.trod_string Tryz.underlying9 h
 refine ⟨a, ?_, hw⟩
 have hl : j < l.length := (List.getElem?_eq_some_iff.1 hj).1
 rw [List.drop_eq_getElem_cons hl] at ha
 rw [List.take_succ_cons, List.take_zero] at ha
 injection ha with ha
 rw [List.getElem?_eq_getElem hl] at hj
 injection hj with hj
 rw [← hj, ha]
end Go.Proofs.YtjokbaaommicmaaGreatDoor

namespace Go.Proofs.YtjokbaaommicmaaGreatDoor
set_option maxRecDepth 100000
open Go.ChangeShapes Go.WideShapes Go.ChangeAt Go.RowKit

theorem cells_cmd : Tryz.prog.cellsOf 27 = 5 := by kernel_rfl
theorem open_cmd {H : Type} {enc : TypeId × Value → H} {W : World} {r : Reach} {b0 base : Nat} {spare : Nat → Bool} {held : Bool} {v : Value} {d : DataW H} {p : List MemPlace} (hv : Value.okWide Tryz.prog W r b0 27 v) (h : DataW.Trod enc Tryz.prog W base spare held 27 v d p) :
  ∃ (kind : Int) (item : ByteArray) (qty dev seq : Int), v = .agg #[.int .i64 kind, .string item, .int .i64 qty, .int .i64 dev, .int .i64 seq] ∧ item.size ≤ maxLen := by
 obtain ⟨cs, rfl, hsz⟩ := okWide_struct Tryz.underlying27 hv
 rw [cells_cmd] at hsz
 obtain ⟨l⟩ := cs
 match l, hsz with
 | [c0, c1, c2, c3, c4], _ =>
  obtain ⟨fuel, hf⟩ := h
  obtain ⟨xs, n, _, hx, _, hlen, hg⟩ := DataW.trod_struct Tryz.underlying27 hf
  match xs, hlen with
  | [y0, y1, y2, y3, y4], _ =>
   obtain ⟨a0, rfl, _⟩ := one_int (l := [c0, c1, c2, c3, c4]) (j := 0) rfl (hg 0 _ rfl) rfl
   obtain ⟨s, rfl, hs⟩ := one_str (l := [_, c1, c2, c3, c4]) (j := 1) rfl (hg 1 _ rfl) rfl
   obtain ⟨a2, rfl, _⟩ := one_int (l := [_, _, c2, c3, c4]) (j := 2) rfl (hg 2 _ rfl) rfl
   obtain ⟨a3, rfl, _⟩ := one_int (l := [_, _, _, c3, c4]) (j := 3) rfl (hg 3 _ rfl) rfl
   obtain ⟨a4, rfl, _⟩ := one_int (l := [_, _, _, _, c4]) (j := 4) rfl (hg 4 _ rfl) rfl
   exact ⟨a0, s, a2, a3, a4, rfl, hs⟩
end Go.Proofs.YtjokbaaommicmaaGreatDoor
