/- An argument that is a row of prices of the laws' own type, opened. -/
import Derived.Test.YtjmilgijdfibbaaOffArg
import Derived.Test.YtjmilgijdfibbaaRowPr
import Derived.DataReads
namespace Go.Proofs.Ytjmilgijdfibbaa
open Go.ChangeShapes Go.WideShapes Go.ChangeAt Go.RowKit

theorem Prpick {P : Nat → PrV → Prop} : ∀ n, (∀ i, i < n → ∃ o, P i o) → ∃ l : List PrV, l.length = n ∧ ∀ i, i < n → P i (l.getD i PrV.zero)
  | 0, _ => ⟨[], rfl, fun i hi => by omega⟩
  | n + 1, h => by
    obtain ⟨l, hl, hp⟩ := Prpick n (fun i hi => h i (by omega))
    obtain ⟨o, ho⟩ := h n (by omega)
    refine ⟨l ++ [o], by simp [hl], fun i hi => ?_⟩
    rcases Nat.lt_or_ge i n with h1 | h1
    · rw [List.getD_eq_getElem?_getD, List.getElem?_append_left (by omega), ← List.getD_eq_getElem?_getD]
      exact hp i h1
    · obtain rfl : i = n := by omega
      rw [List.getD_eq_getElem?_getD, List.getElem?_append_right (by omega)]
      simpa [hl] using ho
set_option maxRecDepth 100000 in
theorem Prcells {H : Type} {enc : TypeId × Value → H} {W : World} {base : Nat} {spare : Nat → Bool} {held : Bool} {fuel : Nat} {cs : List Value} {y : DataW H × List MemPlace} (h : DataW.trod enc Try.prog W base spare held fuel 78 cs = some y) :
    ∃ o : PrV, cs = [.string o.item, .int .i64 o.cents] ∧ o.item.size ≤ maxLen := by
  obtain ⟨xs, n, _, hx, hlc, hlen, hg⟩ := DataW.trod_struct Try.underlying78 h
  rw [cells_price] at hlc
  match cs, hlc with
  | [c0, c1], _ =>
    match xs, hlen with
    | [y0, y1], _ =>
      obtain ⟨a0, rfl, hs⟩ := one_str (l := [c0, c1]) (j := 0) rfl (hg 0 _ rfl) rfl
      obtain ⟨a1, rfl, _⟩ := one_int (l := [_, c1]) (j := 1) rfl (hg 1 _ rfl) rfl
      exact ⟨⟨a0, a1⟩, rfl, hs⟩
set_option maxRecDepth 100000 in
theorem open_prices {H : Type} {enc : TypeId × Value → H} {W : World} {r : Reach} {b0 : Nat} {v : Value} {d : DataW H} {p : List MemPlace} (hv : Value.okWide Try.prog W r b0 29 v) (h0 : DataW.Trod enc Try.prog W 0 (fun _ => true) true 29 v d p) :
    ∃ (ao : Option Addr) (no co : Nat) (l : List PrV), v = .slice ao no co ∧ Prs W W.heap.size ao no l ∧ no ≤ maxLen ∧ ∀ i, i < no → (l.getD i PrV.zero).item.size ≤ maxLen := by
  obtain ⟨a0, len0, cap0, rfl⟩ := okWide_slice Try.underlying29 hv
  obtain ⟨fuel, h⟩ := h0
  have e1 : (Value.slice a0 len0 cap0).cells.toList = [.slice a0 len0 cap0] := by simp [Value.cells]
  rw [e1] at h
  rcases DataW.trod_slice Try.underlying29 h with ⟨hc, _⟩ | ⟨a, len, cap, elems, rest, n, _, hc, _, _, hl, hm, hlen, hel, _, _⟩
  · injection hc with hc
    rw [hc]
    exact ⟨none, 0, 0, [], rfl, ⟨rfl, fun i hi => by omega⟩, Nat.zero_le _, fun i hi => by omega⟩
  · injection hc with hc
    rw [hc]
    have raw : ∀ i, i < len → ∃ o : PrV, (∀ j v, j < 2 → ([.string o.item, .int .i64 o.cents] : List Value)[j]? = some v → W.cell? ((a.add (i * 2)).add j) = some v) ∧ o.item.size ≤ maxLen := fun i hi => by
      have h1 := hel i hi
      rw [List.getElem?_eq_getElem (by omega), Option.bind_eq_some_iff] at h1
      obtain ⟨cs, hcs, ht⟩ := h1
      rw [cells_price] at hcs
      obtain ⟨o, rfl, hs⟩ := Prcells ht
      obtain ⟨_, _, hat⟩ := World.cells?_some hcs
      exact ⟨o, fun j v hj e => (hat j hj).trans e, hs⟩
    have key : ∀ i, i < len → ∃ o : PrV, (∃ b off, some a = some (⟨b, off, none⟩ : Addr) ∧ b < W.heap.size ∧ PrAt W b (off + i * 2) o) ∧ o.item.size ≤ maxLen := fun i hi => by
      obtain ⟨o0, q0, _⟩ := raw 0 (by omega)
      obtain ⟨o, q, hs⟩ := raw i hi
      obtain ⟨b, off, spot⟩ := a
      have hsp := World.cell?_spot (q0 0 _ (by omega) rfl)
      have hspot : spot = none := by simpa [Addr.add] using hsp
      subst hspot
      refine ⟨o, ⟨b, off, rfl, ?_, ?_⟩, hs⟩
      · have := block_lt_of_cell (q 0 _ (by omega) rfl)
        rw [add_at, add_at] at this
        exact this
      · simp only [add_at] at q
        exact ⟨q 0 _ (by omega) rfl, q 1 _ (by omega) rfl⟩
    obtain ⟨l, hll, hp⟩ := Prpick len key
    exact ⟨some a, len, cap, l, rfl, ⟨hll, fun i hi => (hp i hi).1⟩, by omega, fun i hi => (hp i hi).2⟩
end Go.Proofs.Ytjmilgijdfibbaa
