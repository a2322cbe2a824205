/- Made of XOffArg, XRowPrArg, XRowOfArg, XLnOpen. -/
import Derived.Test.YtdbdmfaphdjdpaaRows
import Derived.WalkKit
import Derived.ProofKit
import Derived.OpenShut
import Derived.ShutString
import Derived.ChangeOld
import Derived.Below
import Derived.Test.YtdbdmfaphdjdpaaRowPr
import Derived.DataReads
import Derived.Test.YtdbdmfaphdjdpaaRowOf
import Derived.Test.YtdbdmfaphdjdpaaLnRow
namespace Go.Proofs.Ytdbdmfaphdjdpaa
open Go.ChangeShapes Go.WideShapes Go.ChangeAt Go.RowKit

theorem cells_off : Try.prog.cellsOf 113 = 3 := by kernel_rfl
theorem cells_price : Try.prog.cellsOf 110 = 2 := by kernel_rfl
theorem cells_i64 : Try.prog.cellsOf 2 = 1 := by kernel_rfl
theorem cells_str : Try.prog.cellsOf 9 = 1 := by kernel_rfl
theorem one_int {H : Type} {enc : TypeId × Value → H} {W : World} {base : Nat} {spare : Nat → Bool} {held : Bool} {n j : Nat} {l : List Value} {c : Value} {y : Option (DataW H × List MemPlace)} {z : DataW H × List MemPlace} (hj : l[j]? = some c)
    (h : DataW.trod enc Try.prog W base spare held n 2 ((l.drop j).take (Try.prog.cellsOf 2)) = y) (hy : y = some z) : ∃ a : Int, c = .int .i64 a ∧ (Lit.int .i64 a).wf = true := by
  rw [hy, cells_i64] at h
  obtain ⟨a, ha, _, hw⟩ := DataW.trod_int Try.underlying2 h
  refine ⟨a, ?_, hw⟩
  have hl : j < l.length := (List.getElem?_eq_some_iff.1 hj).1
  rw [List.drop_eq_getElem_cons hl] at ha
  rw [List.take_succ_cons, List.take_zero] at ha
  injection ha with ha
  rw [List.getElem?_eq_getElem hl] at hj
  injection hj with hj
  rw [← hj, ha]
theorem one_str {H : Type} {enc : TypeId × Value → H} {W : World} {base : Nat} {spare : Nat → Bool} {held : Bool} {n j : Nat} {l : List Value} {c : Value} {y : Option (DataW H × List MemPlace)} {z : DataW H × List MemPlace} (hj : l[j]? = some c)
    (h : DataW.trod enc Try.prog W base spare held n 9 ((l.drop j).take (Try.prog.cellsOf 9)) = y) (hy : y = some z) : ∃ s : ByteArray, c = .string s ∧ s.size ≤ maxLen := by
  rw [hy, cells_str] at h
  obtain ⟨a, ha, _, hw⟩ := DataW.trod_string Try.underlying9 h
  refine ⟨a, ?_, hw⟩
  have hl : j < l.length := (List.getElem?_eq_some_iff.1 hj).1
  rw [List.drop_eq_getElem_cons hl] at ha
  rw [List.take_succ_cons, List.take_zero] at ha
  injection ha with ha
  rw [List.getElem?_eq_getElem hl] at hj
  injection hj with hj
  rw [← hj, ha]
set_option maxRecDepth 100000 in
theorem open_offer {H : Type} {enc : TypeId × Value → H} {W : World} {r : Reach} {b0 base : Nat} {spare : Nat → Bool} {held : Bool} {v : Value} {d : DataW H} {p : List MemPlace} (hv : Value.okWide Try.prog W r b0 113 v) (h : DataW.Trod enc Try.prog W base spare held 113 v d p) :
    ∃ (item : ByteArray) (buy free : Int), v = .agg #[.string item, .int .i64 buy, .int .i64 free] ∧ item.size ≤ maxLen := by
  obtain ⟨cs, rfl, hsz⟩ := okWide_struct Try.underlying113 hv
  rw [cells_off] at hsz
  obtain ⟨l⟩ := cs
  match l, hsz with
  | [c0, c1, c2], _ =>
    obtain ⟨fuel, hf⟩ := h
    obtain ⟨xs, n, _, hx, _, hlen, hg⟩ := DataW.trod_struct Try.underlying113 hf
    match xs, hlen with
    | [y0, y1, y2], _ =>
      obtain ⟨s, rfl, hs⟩ := one_str (l := [c0, c1, c2]) (j := 0) rfl (hg 0 _ rfl) rfl
      obtain ⟨a1, rfl, _⟩ := one_int (l := [_, c1, c2]) (j := 1) rfl (hg 1 _ rfl) rfl
      obtain ⟨a2, rfl, _⟩ := one_int (l := [_, _, c2]) (j := 2) rfl (hg 2 _ rfl) rfl
      exact ⟨s, a1, a2, rfl, hs⟩
end Go.Proofs.Ytdbdmfaphdjdpaa
namespace Go.Proofs.Ytdbdmfaphdjdpaa
open Go.ChangeShapes Go.WideShapes Go.ChangeAt Go.RowKit

theorem Prpick {P : Nat → PrV → Prop} : ∀ n, (∀ i, i < n → ∃ o, P i o) → ∃ l : List PrV, l.length = n ∧ ∀ i, i < n → P i (l.getD i PrV.zero)
  | 0, _ => ⟨[], rfl, fun i hi => by omega⟩
  | n + 1, h => by
    obtain ⟨l, hl, hp⟩ := Prpick n (fun i hi => h i (by omega))
    obtain ⟨o, ho⟩ := h n (by omega)
    refine ⟨l ++ [o], by simp [hl], fun i hi => ?_⟩
    rcases Nat.lt_or_ge i n with h1 | h1
    · rw [List.getD_eq_getElem?_getD, List.getElem?_append_left (by omega), ← List.getD_eq_getElem?_getD]
      exact hp i h1
    · obtain rfl : i = n := by omega
      rw [List.getD_eq_getElem?_getD, List.getElem?_append_right (by omega)]
      simpa [hl] using ho
set_option maxRecDepth 100000 in
theorem Prcells {H : Type} {enc : TypeId × Value → H} {W : World} {base : Nat} {spare : Nat → Bool} {held : Bool} {fuel : Nat} {cs : List Value} {y : DataW H × List MemPlace} (h : DataW.trod enc Try.prog W base spare held fuel 110 cs = some y) :
    ∃ o : PrV, cs = [.string o.item, .int .i64 o.cents] ∧ o.item.size ≤ maxLen := by
  obtain ⟨xs, n, _, hx, hlc, hlen, hg⟩ := DataW.trod_struct Try.underlying110 h
  rw [cells_price] at hlc
  match cs, hlc with
  | [c0, c1], _ =>
    match xs, hlen with
    | [y0, y1], _ =>
      obtain ⟨a0, rfl, hs⟩ := one_str (l := [c0, c1]) (j := 0) rfl (hg 0 _ rfl) rfl
      obtain ⟨a1, rfl, _⟩ := one_int (l := [_, c1]) (j := 1) rfl (hg 1 _ rfl) rfl
      exact ⟨⟨a0, a1⟩, rfl, hs⟩
set_option maxRecDepth 100000 in
theorem open_prices {H : Type} {enc : TypeId × Value → H} {W : World} {r : Reach} {b0 : Nat} {v : Value} {d : DataW H} {p : List MemPlace} (hv : Value.okWide Try.prog W r b0 43 v) (h0 : DataW.Trod enc Try.prog W 0 (fun _ => true) true 43 v d p) :
    ∃ (ao : Option Addr) (no co : Nat) (l : List PrV), v = .slice ao no co ∧ Prs W W.heap.size ao no l ∧ no ≤ maxLen ∧ ∀ i, i < no → (l.getD i PrV.zero).item.size ≤ maxLen := by
  obtain ⟨a0, len0, cap0, rfl⟩ := okWide_slice Try.underlying43 hv
  obtain ⟨fuel, h⟩ := h0
  have e1 : (Value.slice a0 len0 cap0).cells.toList = [.slice a0 len0 cap0] := by simp [Value.cells]
  rw [e1] at h
  rcases DataW.trod_slice Try.underlying43 h with ⟨hc, _⟩ | ⟨a, len, cap, elems, rest, n, _, hc, _, _, hl, hm, hlen, hel, _, _⟩
  · injection hc with hc
    rw [hc]
    exact ⟨none, 0, 0, [], rfl, ⟨rfl, fun i hi => by omega⟩, Nat.zero_le _, fun i hi => by omega⟩
  · injection hc with hc
    rw [hc]
    have raw : ∀ i, i < len → ∃ o : PrV, (∀ j v, j < 2 → ([.string o.item, .int .i64 o.cents] : List Value)[j]? = some v → W.cell? ((a.add (i * 2)).add j) = some v) ∧ o.item.size ≤ maxLen := fun i hi => by
      have h1 := hel i hi
      rw [List.getElem?_eq_getElem (by omega), Option.bind_eq_some_iff] at h1
      obtain ⟨cs, hcs, ht⟩ := h1
      rw [cells_price] at hcs
      obtain ⟨o, rfl, hs⟩ := Prcells ht
      obtain ⟨_, _, hat⟩ := World.cells?_some hcs
      exact ⟨o, fun j v hj e => (hat j hj).trans e, hs⟩
    have key : ∀ i, i < len → ∃ o : PrV, (∃ b off, some a = some (⟨b, off, none⟩ : Addr) ∧ b < W.heap.size ∧ PrAt W b (off + i * 2) o) ∧ o.item.size ≤ maxLen := fun i hi => by
      obtain ⟨o0, q0, _⟩ := raw 0 (by omega)
      obtain ⟨o, q, hs⟩ := raw i hi
      obtain ⟨b, off, spot⟩ := a
      have hsp := World.cell?_spot (q0 0 _ (by omega) rfl)
      have hspot : spot = none := by simpa [Addr.add] using hsp
      subst hspot
      refine ⟨o, ⟨b, off, rfl, ?_, ?_⟩, hs⟩
      · have := block_lt_of_cell (q 0 _ (by omega) rfl)
        rw [add_at, add_at] at this
        exact this
      · simp only [add_at] at q
        exact ⟨q 0 _ (by omega) rfl, q 1 _ (by omega) rfl⟩
    obtain ⟨l, hll, hp⟩ := Prpick len key
    exact ⟨some a, len, cap, l, rfl, ⟨hll, fun i hi => (hp i hi).1⟩, by omega, fun i hi => (hp i hi).2⟩
end Go.Proofs.Ytdbdmfaphdjdpaa
namespace Go.Proofs.Ytdbdmfaphdjdpaa
open Go.ChangeShapes Go.WideShapes Go.ChangeAt Go.RowKit

theorem Ofpick {P : Nat → OfV → Prop} : ∀ n, (∀ i, i < n → ∃ o, P i o) → ∃ l : List OfV, l.length = n ∧ ∀ i, i < n → P i (l.getD i OfV.zero)
  | 0, _ => ⟨[], rfl, fun i hi => by omega⟩
  | n + 1, h => by
    obtain ⟨l, hl, hp⟩ := Ofpick n (fun i hi => h i (by omega))
    obtain ⟨o, ho⟩ := h n (by omega)
    refine ⟨l ++ [o], by simp [hl], fun i hi => ?_⟩
    rcases Nat.lt_or_ge i n with h1 | h1
    · rw [List.getD_eq_getElem?_getD, List.getElem?_append_left (by omega), ← List.getD_eq_getElem?_getD]
      exact hp i h1
    · obtain rfl : i = n := by omega
      rw [List.getD_eq_getElem?_getD, List.getElem?_append_right (by omega)]
      simpa [hl] using ho
set_option maxRecDepth 100000 in
theorem Ofcells {H : Type} {enc : TypeId × Value → H} {W : World} {base : Nat} {spare : Nat → Bool} {held : Bool} {fuel : Nat} {cs : List Value} {y : DataW H × List MemPlace} (h : DataW.trod enc Try.prog W base spare held fuel 113 cs = some y) :
    ∃ o : OfV, cs = [.string o.item, .int .i64 o.buy, .int .i64 o.free] ∧ o.item.size ≤ maxLen := by
  obtain ⟨xs, n, _, hx, hlc, hlen, hg⟩ := DataW.trod_struct Try.underlying113 h
  rw [cells_off] at hlc
  match cs, hlc with
  | [c0, c1, c2], _ =>
    match xs, hlen with
    | [y0, y1, y2], _ =>
      obtain ⟨a0, rfl, hs⟩ := one_str (l := [c0, c1, c2]) (j := 0) rfl (hg 0 _ rfl) rfl
      obtain ⟨a1, rfl, _⟩ := one_int (l := [_, c1, c2]) (j := 1) rfl (hg 1 _ rfl) rfl
      obtain ⟨a2, rfl, _⟩ := one_int (l := [_, _, c2]) (j := 2) rfl (hg 2 _ rfl) rfl
      exact ⟨⟨a0, a1, a2⟩, rfl, hs⟩
set_option maxRecDepth 100000 in
theorem open_offers {H : Type} {enc : TypeId × Value → H} {W : World} {r : Reach} {b0 : Nat} {v : Value} {d : DataW H} {p : List MemPlace} (hv : Value.okWide Try.prog W r b0 44 v) (h0 : DataW.Trod enc Try.prog W 0 (fun _ => true) true 44 v d p) :
    ∃ (ao : Option Addr) (no co : Nat) (l : List OfV), v = .slice ao no co ∧ Ofs W W.heap.size ao no l ∧ no ≤ maxLen ∧ ∀ i, i < no → (l.getD i OfV.zero).item.size ≤ maxLen := by
  obtain ⟨a0, len0, cap0, rfl⟩ := okWide_slice Try.underlying44 hv
  obtain ⟨fuel, h⟩ := h0
  have e1 : (Value.slice a0 len0 cap0).cells.toList = [.slice a0 len0 cap0] := by simp [Value.cells]
  rw [e1] at h
  rcases DataW.trod_slice Try.underlying44 h with ⟨hc, _⟩ | ⟨a, len, cap, elems, rest, n, _, hc, _, _, hl, hm, hlen, hel, _, _⟩
  · injection hc with hc
    rw [hc]
    exact ⟨none, 0, 0, [], rfl, ⟨rfl, fun i hi => by omega⟩, Nat.zero_le _, fun i hi => by omega⟩
  · injection hc with hc
    rw [hc]
    have raw : ∀ i, i < len → ∃ o : OfV, (∀ j v, j < 3 → ([.string o.item, .int .i64 o.buy, .int .i64 o.free] : List Value)[j]? = some v → W.cell? ((a.add (i * 3)).add j) = some v) ∧ o.item.size ≤ maxLen := fun i hi => by
      have h1 := hel i hi
      rw [List.getElem?_eq_getElem (by omega), Option.bind_eq_some_iff] at h1
      obtain ⟨cs, hcs, ht⟩ := h1
      rw [cells_off] at hcs
      obtain ⟨o, rfl, hs⟩ := Ofcells ht
      obtain ⟨_, _, hat⟩ := World.cells?_some hcs
      exact ⟨o, fun j v hj e => (hat j hj).trans e, hs⟩
    have key : ∀ i, i < len → ∃ o : OfV, (∃ b off, some a = some (⟨b, off, none⟩ : Addr) ∧ b < W.heap.size ∧ OfAt W b (off + i * 3) o) ∧ o.item.size ≤ maxLen := fun i hi => by
      obtain ⟨o0, q0, _⟩ := raw 0 (by omega)
      obtain ⟨o, q, hs⟩ := raw i hi
      obtain ⟨b, off, spot⟩ := a
      have hsp := World.cell?_spot (q0 0 _ (by omega) rfl)
      have hspot : spot = none := by simpa [Addr.add] using hsp
      subst hspot
      refine ⟨o, ⟨b, off, rfl, ?_, ?_⟩, hs⟩
      · have := block_lt_of_cell (q 0 _ (by omega) rfl)
        rw [add_at, add_at] at this
        exact this
      · simp only [add_at] at q
        exact ⟨q 0 _ (by omega) rfl, q 1 _ (by omega) rfl, q 2 _ (by omega) rfl⟩
    obtain ⟨l, hll, hp⟩ := Ofpick len key
    exact ⟨some a, len, cap, l, rfl, ⟨hll, fun i hi => (hp i hi).1⟩, by omega, fun i hi => (hp i hi).2⟩
end Go.Proofs.Ytdbdmfaphdjdpaa
namespace Go.Proofs.Ytdbdmfaphdjdpaa
open Go.ChangeShapes Go.WideShapes Go.ChangeAt Go.RowKit

theorem cells_line : Try.prog.cellsOf 107 = 3 := by kernel_rfl
theorem cells_boolT : Try.prog.cellsOf 4 = 1 := by kernel_rfl
theorem one_bool {H : Type} {enc : TypeId × Value → H} {W : World} {base : Nat} {spare : Nat → Bool} {held : Bool} {n j : Nat} {l : List Value} {c : Value} {y : Option (DataW H × List MemPlace)} {z : DataW H × List MemPlace} (hj : l[j]? = some c)
    (h : DataW.trod enc Try.prog W base spare held n 4 ((l.drop j).take (Try.prog.cellsOf 4)) = y) (hy : y = some z) : ∃ b : Bool, c = .bool b := by
  rw [hy, cells_boolT] at h
  obtain ⟨a, ha, _⟩ := DataW.trod_bool Try.underlying4 h
  refine ⟨a, ?_⟩
  have hl : j < l.length := (List.getElem?_eq_some_iff.1 hj).1
  rw [List.drop_eq_getElem_cons hl] at ha
  rw [List.take_succ_cons, List.take_zero] at ha
  injection ha with ha
  rw [List.getElem?_eq_getElem hl] at hj
  injection hj with hj
  rw [← hj, ha]
theorem Lnpick {P : Nat → LnV → Prop} : ∀ n, (∀ i, i < n → ∃ o, P i o) → ∃ l : List LnV, l.length = n ∧ ∀ i, i < n → P i (l.getD i LnV.zero)
  | 0, _ => ⟨[], rfl, fun i hi => by omega⟩
  | n + 1, h => by
    obtain ⟨l, hl, hp⟩ := Lnpick n (fun i hi => h i (by omega))
    obtain ⟨o, ho⟩ := h n (by omega)
    refine ⟨l ++ [o], by simp [hl], fun i hi => ?_⟩
    rcases Nat.lt_or_ge i n with h1 | h1
    · rw [List.getD_eq_getElem?_getD, List.getElem?_append_left (by omega), ← List.getD_eq_getElem?_getD]
      exact hp i h1
    · obtain rfl : i = n := by omega
      rw [List.getD_eq_getElem?_getD, List.getElem?_append_right (by omega)]
      simpa [hl] using ho
set_option maxRecDepth 100000 in
theorem Lncells {H : Type} {enc : TypeId × Value → H} {W : World} {base : Nat} {spare : Nat → Bool} {held : Bool} {fuel : Nat} {cs : List Value} {y : DataW H × List MemPlace} (h : DataW.trod enc Try.prog W base spare held fuel 107 cs = some y) :
    ∃ o : LnV, cs = [.string o.item, .int .i64 o.qty, .bool o.saved] ∧ o.item.size ≤ maxLen := by
  obtain ⟨xs, n, _, hx, hlc, hlen, hg⟩ := DataW.trod_struct Try.underlying107 h
  rw [cells_line] at hlc
  match cs, hlc with
  | [c0, c1, c2], _ =>
    match xs, hlen with
    | [y0, y1, y2], _ =>
      obtain ⟨a0, rfl, hs⟩ := one_str (l := [c0, c1, c2]) (j := 0) rfl (hg 0 _ rfl) rfl
      obtain ⟨a1, rfl, _⟩ := one_int (l := [_, c1, c2]) (j := 1) rfl (hg 1 _ rfl) rfl
      obtain ⟨a2, rfl⟩ := one_bool (l := [_, _, c2]) (j := 2) rfl (hg 2 _ rfl) rfl
      exact ⟨⟨a0, a1, a2⟩, rfl, hs⟩
set_option maxRecDepth 100000 in
theorem open_lines {H : Type} {enc : TypeId × Value → H} {W : World} {r : Reach} {b0 : Nat} {v : Value} {d : DataW H} {p : List MemPlace} (hv : Value.okWide Try.prog W r b0 42 v) (h0 : DataW.Trod enc Try.prog W 0 (fun _ => true) true 42 v d p) :
    ∃ (ao : Option Addr) (no co : Nat) (l : List LnV), v = .slice ao no co ∧ Lns W W.heap.size ao no l ∧ no ≤ maxLen ∧ ∀ i, i < no → (l.getD i LnV.zero).item.size ≤ maxLen := by
  obtain ⟨a0, len0, cap0, rfl⟩ := okWide_slice Try.underlying42 hv
  obtain ⟨fuel, h⟩ := h0
  have e1 : (Value.slice a0 len0 cap0).cells.toList = [.slice a0 len0 cap0] := by simp [Value.cells]
  rw [e1] at h
  rcases DataW.trod_slice Try.underlying42 h with ⟨hc, _⟩ | ⟨a, len, cap, elems, rest, n, _, hc, _, _, hl, hm, hlen, hel, _, _⟩
  · injection hc with hc
    rw [hc]
    exact ⟨none, 0, 0, [], rfl, ⟨rfl, fun i hi => by omega⟩, Nat.zero_le _, fun i hi => by omega⟩
  · injection hc with hc
    rw [hc]
    have raw : ∀ i, i < len → ∃ o : LnV, (∀ j v, j < 3 → ([.string o.item, .int .i64 o.qty, .bool o.saved] : List Value)[j]? = some v → W.cell? ((a.add (i * 3)).add j) = some v) ∧ o.item.size ≤ maxLen := fun i hi => by
      have h1 := hel i hi
      rw [List.getElem?_eq_getElem (by omega), Option.bind_eq_some_iff] at h1
      obtain ⟨cs, hcs, ht⟩ := h1
      rw [cells_line] at hcs
      obtain ⟨o, rfl, hs⟩ := Lncells ht
      obtain ⟨_, _, hat⟩ := World.cells?_some hcs
      exact ⟨o, fun j v hj e => (hat j hj).trans e, hs⟩
    have key : ∀ i, i < len → ∃ o : LnV, (∃ b off, some a = some (⟨b, off, none⟩ : Addr) ∧ b < W.heap.size ∧ LnAt W b (off + i * 3) o) ∧ o.item.size ≤ maxLen := fun i hi => by
      obtain ⟨o0, q0, _⟩ := raw 0 (by omega)
      obtain ⟨o, q, hs⟩ := raw i hi
      obtain ⟨b, off, spot⟩ := a
      have hsp := World.cell?_spot (q0 0 _ (by omega) rfl)
      have hspot : spot = none := by simpa [Addr.add] using hsp
      subst hspot
      refine ⟨o, ⟨b, off, rfl, ?_, ?_⟩, hs⟩
      · have := block_lt_of_cell (q 0 _ (by omega) rfl)
        rw [add_at, add_at] at this
        exact this
      · simp only [add_at] at q
        exact ⟨q 0 _ (by omega) rfl, q 1 _ (by omega) rfl, q 2 _ (by omega) rfl⟩
    obtain ⟨l, hll, hp⟩ := Lnpick len key
    exact ⟨some a, len, cap, l, rfl, ⟨hll, fun i hi => (hp i hi).1⟩, by omega, fun i hi => (hp i hi).2⟩
end Go.Proofs.Ytdbdmfaphdjdpaa
