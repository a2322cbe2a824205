/- An argument that is a table of rows of numbers of the laws' own type, opened. -/
import Derived.Test.YtjmilgijdfibbaaOffArg
import Derived.Test.YtjmilgijdfibbaaRowsI
import Derived.DataReads
namespace Go.Proofs.Ytjmilgijdfibbaa
open Go.ChangeShapes Go.WideShapes Go.ChangeAt Go.RowKit

theorem cells_acks : Try.prog.cellsOf 58 = 1 := by kernel_rfl
theorem cells_sli : Try.prog.cellsOf 63 = 1 := by kernel_rfl
theorem cells_slr : Try.prog.cellsOf 51 = 1 := by kernel_rfl
theorem row_pick {P : Nat → List Int → Prop} : ∀ n, (∀ i, i < n → ∃ o, P i o) → ∃ l : List (List Int), l.length = n ∧ ∀ i, i < n → P i (rowOf l i)
  | 0, _ => ⟨[], rfl, fun i hi => by omega⟩
  | n + 1, h => by
    obtain ⟨l, hl, hp⟩ := row_pick n (fun i hi => h i (by omega))
    obtain ⟨o, ho⟩ := h n (by omega)
    refine ⟨l ++ [o], by simp [hl], fun i hi => ?_⟩
    unfold rowOf at hp ⊢
    rcases Nat.lt_or_ge i n with h1 | h1
    · rw [List.getD_eq_getElem?_getD, List.getElem?_append_left (show i < l.length by omega), ← List.getD_eq_getElem?_getD]
      exact hp i h1
    · obtain rfl : i = n := by omega
      rw [List.getD_eq_getElem?_getD, List.getElem?_append_right (show l.length ≤ _ by omega)]
      simpa [hl] using ho
set_option maxRecDepth 100000 in
theorem open_row {H : Type} {enc : TypeId × Value → H} {W : World} {held : Bool} {fuel : Nat} {c : Value} {y : DataW H × List MemPlace} (h : DataW.trod enc Try.prog W 0 (fun _ => true) held fuel 63 [c] = some y) :
    ∃ (a : Option Addr) (cp : Nat) (xs : List Int), c = .slice a xs.length cp ∧ Ints W W.heap.size a xs.length xs ∧ xs.length ≤ maxLen := by
  rcases open_ints Try.underlying63 Try.underlying2 (by kernel_rfl) h with ⟨hcs, _⟩ | ⟨x, len, cap, zs, hcs, _, hl, hm, hz, _, hcell, hwz⟩
  · injection hcs with hcs
    subst hcs
    exact ⟨none, 0, [], rfl, ⟨rfl, fun i hi => absurd hi (by simp)⟩, Nat.zero_le _⟩
  · injection hcs with hcs
    subst hcs
    have hR : IsRow .i64 W (some x) len cap zs := .inr ⟨x, rfl, hl, hm, by simpa using hz, hcell, hwz⟩
    have hI := ints_of_row hR
    have e := hI.1
    generalize zs.take len = xs at hI e
    subst e
    exact ⟨some x, cap, xs, rfl, hI, by omega⟩
set_option maxRecDepth 100000 in
theorem open_acks {H : Type} {enc : TypeId × Value → H} {W : World} {r : Reach} {b0 : Nat} {v : Value} {d : DataW H} {p : List MemPlace} (hv : Value.okWide Try.prog W r b0 58 v) (h : DataW.Trod enc Try.prog W 0 (fun _ => true) true 58 v d p) :
    ∃ (ao : Option Addr) (no co : Nat) (l : List (List Int)), v = .agg #[.slice ao no co] ∧ IRows W W.heap.size ao no l ∧ no ≤ maxLen ∧ ∀ i, i < no → (rowOf l i).length ≤ maxLen := by
  obtain ⟨cs, rfl, hsz⟩ := okWide_struct Try.underlying58 hv
  rw [cells_acks] at hsz
  obtain ⟨l⟩ := cs
  match l, hsz with
  | [c0], _ =>
    obtain ⟨fuel, hf⟩ := h
    obtain ⟨xs, n, _, hx, _, hlen, hg⟩ := DataW.trod_struct Try.underlying58 hf
    match xs, hlen with
    | [y0], _ =>
      have g0 : DataW.trod enc Try.prog W 0 (fun _ => true) true n 51 [c0] = some y0 := by
        have e := hg 0 _ rfl
        have e2 : (([c0] : List Value).drop 0).take (Try.prog.cellsOf 51) = [c0] := by rw [cells_slr]; rfl
        exact (congrArg _ e2.symm).trans e
      rcases DataW.trod_slice Try.underlying51 g0 with ⟨hc, _⟩ | ⟨a, len, cap, elems, rest, m, _, hc, _, _, hl, hm, hlen, hel, _, _⟩
      · injection hc with hc
        subst hc
        exact ⟨none, 0, 0, [], rfl, irows_nil _ _ _, Nat.zero_le _, fun i hi => by omega⟩
      · injection hc with hc
        subst hc
        have raw : ∀ i, i < len → ∃ (xs : List Int) (ai : Option Addr) (ci : Nat), W.cell? (a.add (i * 1)) = some (.slice ai xs.length ci) ∧ Ints W W.heap.size ai xs.length xs ∧ xs.length ≤ maxLen := fun i hi => by
          have h1 := hel i hi
          rw [List.getElem?_eq_getElem (by omega), Option.bind_eq_some_iff] at h1
          obtain ⟨cs, hcs, ht⟩ := h1
          rw [cells_sli] at hcs
          obtain ⟨_, hln, hat⟩ := World.cells?_some hcs
          match cs, hln with
          | [c], _ =>
            obtain ⟨ai, ci, xs, rfl, hI, hle⟩ := open_row ht
            refine ⟨xs, ai, ci, ?_, hI, hle⟩
            have := hat 0 (by omega)
            simpa [Addr.add] using this
        have key : ∀ i, i < len → ∃ xs : List Int, (∃ b off ai ci, some a = some (⟨b, off, none⟩ : Addr) ∧ b < W.heap.size ∧ W.cell? ⟨b, off + i, none⟩ = some (.slice ai xs.length ci) ∧ Ints W W.heap.size ai xs.length xs) ∧ xs.length ≤ maxLen := fun i hi => by
          obtain ⟨xs, ai, ci, q, hI, hle⟩ := raw i hi
          obtain ⟨b, off, spot⟩ := a
          obtain ⟨_, _, _, q0, _, _⟩ := raw 0 (by omega)
          have hsp := World.cell?_spot q0
          have hspot : spot = none := by simpa [Addr.add] using hsp
          subst hspot
          rw [add_at, Nat.mul_one] at q
          exact ⟨xs, ⟨b, off, ai, ci, rfl, block_lt_of_cell q, q, hI⟩, hle⟩
        obtain ⟨l, hll, hp⟩ := row_pick len key
        exact ⟨some a, len, cap, l, rfl, ⟨hll, fun i hi => (hp i hi).1⟩, by omega, fun i hi => (hp i hi).2⟩
end Go.Proofs.Ytjmilgijdfibbaa
