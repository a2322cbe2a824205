/- Arguments that are prices and offers of the laws' own types, opened. -/
import Derived.Test.YtjmilgijdfibbaaRows
import Derived.WalkKit
import Derived.ProofKit
import Derived.OpenShut
import Derived.ShutString
import Derived.ChangeOld
import Derived.Below
namespace Go.Proofs.Ytjmilgijdfibbaa
open Go.ChangeShapes Go.WideShapes Go.ChangeAt Go.RowKit

theorem cells_off : Try.prog.cellsOf 23 = 3 := by kernel_rfl
theorem cells_price : Try.prog.cellsOf 78 = 2 := by kernel_rfl
theorem cells_i64 : Try.prog.cellsOf 2 = 1 := by kernel_rfl
theorem cells_str : Try.prog.cellsOf 9 = 1 := by kernel_rfl
theorem one_int {H : Type} {enc : TypeId × Value → H} {W : World} {base : Nat} {spare : Nat → Bool} {held : Bool} {n j : Nat} {l : List Value} {c : Value} {y : Option (DataW H × List MemPlace)} {z : DataW H × List MemPlace} (hj : l[j]? = some c)
    (h : DataW.trod enc Try.prog W base spare held n 2 ((l.drop j).take (Try.prog.cellsOf 2)) = y) (hy : y = some z) : ∃ a : Int, c = .int .i64 a ∧ (Lit.int .i64 a).wf = true := by
  rw [hy, cells_i64] at h
  obtain ⟨a, ha, _, hw⟩ := DataW.trod_int Try.underlying2 h
  refine ⟨a, ?_, hw⟩
  have hl : j < l.length := (List.getElem?_eq_some_iff.1 hj).1
  rw [List.drop_eq_getElem_cons hl] at ha
  rw [List.take_succ_cons, List.take_zero] at ha
  injection ha with ha
  rw [List.getElem?_eq_getElem hl] at hj
  injection hj with hj
  rw [← hj, ha]
theorem one_str {H : Type} {enc : TypeId × Value → H} {W : World} {base : Nat} {spare : Nat → Bool} {held : Bool} {n j : Nat} {l : List Value} {c : Value} {y : Option (DataW H × List MemPlace)} {z : DataW H × List MemPlace} (hj : l[j]? = some c)
    (h : DataW.trod enc Try.prog W base spare held n 9 ((l.drop j).take (Try.prog.cellsOf 9)) = y) (hy : y = some z) : ∃ s : ByteArray, c = .string s ∧ s.size ≤ maxLen := by
  rw [hy, cells_str] at h
  obtain ⟨a, ha, _, hw⟩ := DataW.trod_string Try.underlying9 h
  refine ⟨a, ?_, hw⟩
  have hl : j < l.length := (List.getElem?_eq_some_iff.1 hj).1
  rw [List.drop_eq_getElem_cons hl] at ha
  rw [List.take_succ_cons, List.take_zero] at ha
  injection ha with ha
  rw [List.getElem?_eq_getElem hl] at hj
  injection hj with hj
  rw [← hj, ha]
set_option maxRecDepth 100000 in
theorem open_offer {H : Type} {enc : TypeId × Value → H} {W : World} {r : Reach} {b0 base : Nat} {spare : Nat → Bool} {held : Bool} {v : Value} {d : DataW H} {p : List MemPlace} (hv : Value.okWide Try.prog W r b0 23 v) (h : DataW.Trod enc Try.prog W base spare held 23 v d p) :
    ∃ (item : ByteArray) (buy free : Int), v = .agg #[.string item, .int .i64 buy, .int .i64 free] ∧ item.size ≤ maxLen := by
  obtain ⟨cs, rfl, hsz⟩ := okWide_struct Try.underlying23 hv
  rw [cells_off] at hsz
  obtain ⟨l⟩ := cs
  match l, hsz with
  | [c0, c1, c2], _ =>
    obtain ⟨fuel, hf⟩ := h
    obtain ⟨xs, n, _, hx, _, hlen, hg⟩ := DataW.trod_struct Try.underlying23 hf
    match xs, hlen with
    | [y0, y1, y2], _ =>
      obtain ⟨s, rfl, hs⟩ := one_str (l := [c0, c1, c2]) (j := 0) rfl (hg 0 _ rfl) rfl
      obtain ⟨a1, rfl, _⟩ := one_int (l := [_, c1, c2]) (j := 1) rfl (hg 1 _ rfl) rfl
      obtain ⟨a2, rfl, _⟩ := one_int (l := [_, _, c2]) (j := 2) rfl (hg 2 _ rfl) rfl
      exact ⟨s, a1, a2, rfl, hs⟩
end Go.Proofs.Ytjmilgijdfibbaa
