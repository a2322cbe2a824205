/- Walks and mathematics that several claims share, part 26. -/
import Derived.Test.YtjokbaaommicmaaGreatDoorGb5
import Derived.Test.YtjokbaaommicmaaGreatDoorGb21
import Derived.Test.YtjokbaaommicmaaGreatDoorGb12
import Derived.DataReads
import Derived.Test.YtjokbaaommicmaaGreatDoorGbA
namespace Go.Proofs.YtjokbaaommicmaaGreatDoor
set_option maxRecDepth 100000
open Go.ChangeShapes Go.WideShapes Go.ChangeAt Go.RowKit

theorem cells_cart : Tryz.prog.cellsOf 25 = 2 := by kernel_rfl
theorem cells_sl : Tryz.prog.cellsOf 22 = 1 := by kernel_rfl
theorem cells_so : Tryz.prog.cellsOf 23 = 1 := by kernel_rfl
theorem pick_list {P : Nat → OpV → Prop} : ∀ n, (∀ i, i < n → ∃ o, P i o) → ∃ l : List OpV, l.length = n ∧ ∀ i, i < n → P i (l.getD i OpV.zero)
 | 0, _ => ⟨[], rfl, fun i hi => by omega⟩
 | n + 1, h => by
  obtain ⟨l, hl, hp⟩ := pick_list n (fun i hi => h i (by omega))
  obtain ⟨o, ho⟩ := h n (by omega)
  refine ⟨l ++ [o], by simp [hl], fun i hi => ?_⟩
  rcases Nat.lt_or_ge i n with h1 | h1
  ·rw [List.getD_eq_getElem?_getD, List.getElem?_append_left (by omega), ← List.getD_eq_getElem?_getD]
   exact hp i h1
  ·obtain rfl : i = n := by omega
   rw [List.getD_eq_getElem?_getD, List.getElem?_append_right (by omega)]
   simpa [hl] using ho
theorem op_cells8 {H : Type} {enc : TypeId × Value → H} {W : World} {base : Nat} {spare : Nat → Bool} {held : Bool} {fuel : Nat} {cs : List Value} {y : DataW H × List MemPlace} (h : DataW.trod enc Tryz.prog W base spare held fuel 100 cs = some y) :
  ∃ o : OpV, cs = [.int .i64 o.dev, .int .i64 o.seq, .int .i64 o.stamp, .int .i64 o.kind, .string o.item, .int .i64 o.qty, .int .i64 o.level, .int .i64 o.undos] ∧ o.item.size ≤ maxLen := by
 obtain ⟨xs, n, _, hx, hlc, hlen, hg⟩ := DataW.trod_struct Tryz.underlying100 h
 rw [cells_op] at hlc
 match cs, hlc with
 | [c0, c1, c2, c3, c4, c5, c6, c7], _ =>
  match xs, hlen with
  | [y0, y1, y2, y3, y4, y5, y6, y7], _ =>
   obtain ⟨a0, rfl, _⟩ := one_int (l := [c0, c1, c2, c3, c4, c5, c6, c7]) (j := 0) rfl (hg 0 _ rfl) rfl
   obtain ⟨a1, rfl, _⟩ := one_int (l := [_, c1, c2, c3, c4, c5, c6, c7]) (j := 1) rfl (hg 1 _ rfl) rfl
   obtain ⟨a2, rfl, _⟩ := one_int (l := [_, _, c2, c3, c4, c5, c6, c7]) (j := 2) rfl (hg 2 _ rfl) rfl
   obtain ⟨a3, rfl, _⟩ := one_int (l := [_, _, _, c3, c4, c5, c6, c7]) (j := 3) rfl (hg 3 _ rfl) rfl
   obtain ⟨s, rfl, hs⟩ := one_str (l := [_, _, _, _, c4, c5, c6, c7]) (j := 4) rfl (hg 4 _ rfl) rfl
   obtain ⟨a5, rfl, _⟩ := one_int (l := [_, _, _, _, _, c5, c6, c7]) (j := 5) rfl (hg 5 _ rfl) rfl
   obtain ⟨a6, rfl, _⟩ := one_int (l := [_, _, _, _, _, _, c6, c7]) (j := 6) rfl (hg 6 _ rfl) rfl
   obtain ⟨a7, rfl, _⟩ := one_int (l := [_, _, _, _, _, _, _, c7]) (j := 7) rfl (hg 7 _ rfl) rfl
   exact ⟨⟨a0, a1, a2, a3, s, a5, a6, a7⟩, rfl, hs⟩
theorem open_ops {H : Type} {enc : TypeId × Value → H} {W : World} {spare : Nat → Bool} {held : Bool} {fuel : Nat} {c : Value} {y : DataW H × List MemPlace} (h : DataW.trod enc Tryz.prog W 0 spare held fuel 23 [c] = some y) :
  ∃ (ao : Option Addr) (no co : Nat) (l : List OpV), c = .slice ao no co ∧ Ops W W.heap.size ao no l ∧ no ≤ maxLen ∧ ∀ i, i < no → (l.getD i OpV.zero).item.size ≤ maxLen := by
 rcases DataW.trod_slice Tryz.underlying23 h with ⟨hc, _⟩ | ⟨a, len, cap, elems, rest, n, _, hc, _, _, hl, hm, hlen, hel, _, _⟩
 ·injection hc with hc
  subst hc
  exact ⟨none, 0, 0, [], rfl, ⟨rfl, fun i hi => by omega⟩, Nat.zero_le _, fun i hi => by omega⟩
 ·injection hc with hc
  subst hc
  have raw : ∀ i, i < len → ∃ o : OpV, (∀ j v, j < 8 → ([.int .i64 o.dev, .int .i64 o.seq, .int .i64 o.stamp, .int .i64 o.kind, .string o.item, .int .i64 o.qty, .int .i64 o.level, .int .i64 o.undos] : List Value)[j]? = some v → W.cell? ((a.add (i * 8)).add j) = some v) ∧ o.item.size ≤ maxLen := fun i hi => by
   have h1 := hel i hi
   rw [List.getElem?_eq_getElem (by omega), Option.bind_eq_some_iff] at h1
   obtain ⟨cs, hcs, ht⟩ := h1
   rw [cells_op] at hcs
   obtain ⟨o, rfl, hs⟩ := op_cells8 ht
   obtain ⟨_, _, hat⟩ := World.cells?_some hcs
   exact ⟨o, fun j v hj e => (hat j hj).trans e, hs⟩
  have key : ∀ i, i < len → ∃ o : OpV, (∃ b off, some a = some (⟨b, off, none⟩ : Addr) ∧ b < W.heap.size ∧ OpAt W b (off + i * 8) o) ∧ o.item.size ≤ maxLen := fun i hi => by
   obtain ⟨o0, q0, _⟩ := raw 0 (by omega)
   obtain ⟨o, q, hs⟩ := raw i hi
   obtain ⟨b, off, spot⟩ := a
   have hsp := World.cell?_spot (q0 0 _ (by omega) rfl)
   have hspot : spot = none := by simpa [Addr.add] using hsp
   subst hspot
   refine ⟨o, ⟨b, off, rfl, ?_, ?_⟩, hs⟩
   ·have := block_lt_of_cell (q 0 _ (by omega) rfl)
    rw [add_at, add_at] at this
    exact this
   ·simp only [add_at] at q
    exact ⟨q 0 _ (by omega) rfl, q 1 _ (by omega) rfl, q 2 _ (by omega) rfl, q 3 _ (by omega) rfl, q 4 _ (by omega) rfl, q 5 _ (by omega) rfl, q 6 _ (by omega) rfl, q 7 _ (by omega) rfl⟩
  obtain ⟨l, hll, hp⟩ := pick_list len key
  exact ⟨some a, len, cap, l, rfl, ⟨hll, fun i hi => (hp i hi).1⟩, by omega, fun i hi => (hp i hi).2⟩
theorem open_cart {H : Type} {enc : TypeId × Value → H} {W : World} {r : Reach} {b0 : Nat} {v : Value} {d : DataW H} {p : List MemPlace} (hv : Value.okWide Tryz.prog W r b0 25 v) (h : DataW.Trod enc Tryz.prog W 0 (fun _ => true) true 25 v d p) :
  ∃ (av ao : Option Addr) (nv cv no co : Nat) (xs : List Int) (l : List OpV), v = .agg #[.slice av nv cv, .slice ao no co] ∧ Ints W W.heap.size av nv xs ∧ Ops W W.heap.size ao no l ∧ nv ≤ maxLen ∧ no ≤ maxLen ∧ ∀ i, i < no → (l.getD i OpV.zero).item.size ≤ maxLen := by
 obtain ⟨cs, rfl, hsz⟩ := okWide_struct Tryz.underlying25 hv
 rw [cells_cart] at hsz
 obtain ⟨l⟩ := cs
 match l, hsz with
 | [c0, c1], _ =>
  obtain ⟨fuel, hf⟩ := h
  obtain ⟨xs, n, _, hx, _, hlen, hg⟩ := DataW.trod_struct Tryz.underlying25 hf
  match xs, hlen with
  | [y0, y1], _ =>
   have g0 : DataW.trod enc Tryz.prog W 0 (fun _ => true) true n 22 [c0] = some y0 := by
    have e := hg 0 _ rfl
    have e2 : (([c0, c1] : List Value).drop 0).take (Tryz.prog.cellsOf 22) = [c0] := by rw [cells_sl]; rfl
    exact (congrArg _ e2.symm).trans e
   have g1 : DataW.trod enc Tryz.prog W 0 (fun _ => true) true n 23 [c1] = some y1 := by
    have e := hg 1 _ rfl
    have e2 : (([c0, c1] : List Value).drop 1).take (Tryz.prog.cellsOf 23) = [c1] := by rw [cells_so]; rfl
    exact (congrArg _ e2.symm).trans e
   obtain ⟨ao, no, co, l, rfl, hO, hno, hit⟩ := open_ops g1
   rcases open_ints Tryz.underlying22 Tryz.underlying2 (by kernel_rfl) g0 with ⟨hcs, _⟩ | ⟨x, len, cap, zs, hcs, _, hl, hm, hz, _, hcell, hwz⟩
   ·injection hcs with hcs
    subst hcs
    exact ⟨none, ao, 0, 0, no, co, [], l, rfl, ⟨rfl, fun i hi => by omega⟩, hO, Nat.zero_le _, hno, hit⟩
   ·injection hcs with hcs
    subst hcs
    have hR : IsRow .i64 W (some x) len cap zs := .inr ⟨x, rfl, hl, hm, by simpa using hz, hcell, hwz⟩
    exact ⟨some x, ao, len, cap, no, co, zs.take len, l, rfl, ints_of_row hR, hO, by omega, hno, hit⟩

end Go.Proofs.YtjokbaaommicmaaGreatDoor
