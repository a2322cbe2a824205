/- An argument that is a command of the laws' own type, opened: four numbers and a text. -/
import Derived.Test.YtideaompdbdbhaaOpArg
namespace Go.Proofs.Ytideaompdbdbhaa
open Go.ChangeShapes Go.WideShapes Go.ChangeAt Go.RowKit

theorem cells_cmd : Try.prog.cellsOf 23 = 5 := by kernel_rfl
set_option maxRecDepth 100000 in
theorem open_cmd {H : Type} {enc : TypeId × Value → H} {W : World} {r : Reach} {b0 base : Nat} {spare : Nat → Bool} {held : Bool} {v : Value} {d : DataW H} {p : List MemPlace} (hv : Value.okWide Try.prog W r b0 23 v) (h : DataW.Trod enc Try.prog W base spare held 23 v d p) :
    ∃ (kind : Int) (item : ByteArray) (qty dev seq : Int), v = .agg #[.int .i64 kind, .string item, .int .i64 qty, .int .i64 dev, .int .i64 seq] ∧ item.size ≤ maxLen := by
  obtain ⟨cs, rfl, hsz⟩ := okWide_struct Try.underlying23 hv
  rw [cells_cmd] at hsz
  obtain ⟨l⟩ := cs
  match l, hsz with
  | [c0, c1, c2, c3, c4], _ =>
    obtain ⟨fuel, hf⟩ := h
    obtain ⟨xs, n, _, hx, _, hlen, hg⟩ := DataW.trod_struct Try.underlying23 hf
    match xs, hlen with
    | [y0, y1, y2, y3, y4], _ =>
      obtain ⟨a0, rfl, _⟩ := one_int (l := [c0, c1, c2, c3, c4]) (j := 0) rfl (hg 0 _ rfl) rfl
      obtain ⟨s, rfl, hs⟩ := one_str (l := [_, c1, c2, c3, c4]) (j := 1) rfl (hg 1 _ rfl) rfl
      obtain ⟨a2, rfl, _⟩ := one_int (l := [_, _, c2, c3, c4]) (j := 2) rfl (hg 2 _ rfl) rfl
      obtain ⟨a3, rfl, _⟩ := one_int (l := [_, _, _, c3, c4]) (j := 3) rfl (hg 3 _ rfl) rfl
      obtain ⟨a4, rfl, _⟩ := one_int (l := [_, _, _, _, c4]) (j := 4) rfl (hg 4 _ rfl) rfl
      exact ⟨a0, s, a2, a3, a4, rfl, hs⟩
end Go.Proofs.Ytideaompdbdbhaa
