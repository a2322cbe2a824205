/- Walks and mathematics that several claims share, part 35. -/
import Derived.Test.YtgagchlcafdiaaaGreatGb28
import Derived.Test.YtgagchlcafdiaaaGreatGb14
import Derived.Test.YtgagchlcafdiaaaGreatGb34
import Derived.ScopeJumps
import Derived.Deep.Cut
import Derived.Test.YtgagchlcafdiaaaGreatGbA
namespace Go.Proofs.YtgagchlcafdiaaaGreat
open Go.RowKit
set_option linter.unusedVariables false
set_option linter.unusedSimpArgs false

theorem atLn_get {l : List LnV} {i : Nat} (h : i < l.length) : atLn l i = l[i] := by
 unfold atLn
 rw [List.getD_eq_getElem?_getD, List.getElem?_eq_getElem h]
 rfl
theorem bill_yes {l : List LnV} {ps : List PrV} {os : List OfV} (h : billB l ps os = true) : LnsB l = true ∧ PrsB ps = true ∧ OfsB os = true ∧ ∀ x, x ∈ openL l → hasP ps x = true := by
 unfold billB at h
 simp only [Bool.and_eq_true, List.all_eq_true] at h
 exact ⟨h.1, h.2.1, h.2.2.1, h.2.2.2⟩
/-- The bill without offers. -/
theorem bill_plain {l : List LnV} {ps : List PrV} {os : List OfV} (h : billB l ps os = true) : billB l ps [] = true := by
 obtain ⟨h1, h2, _, h4⟩ := bill_yes h
 unfold billB
 simp only [Bool.and_eq_true, List.all_eq_true]
 exact ⟨h1, h2, rfl, h4⟩
theorem qty_le {os : List OfV} (h : OfsB os = true) {x : LnV} (hx : x.ok = true) : qtyPaid os x ≤ x.qty := by
 obtain ⟨_, h1, h2⟩ := ln_ok hx
 unfold qtyPaid
 cases hf : findO os x.item with
 | none => exact Int.le_refl _
 | some o =>
  obtain ⟨k1, k2, k3, k4⟩ := of_ok (findO_ok h hf)
  obtain ⟨p1, p2, p3⟩ := paid_bounds (q := x.qty) (b := o.buy) (f := o.free) (by omega) k1 k3
  show paidZ x.qty o.buy o.free ≤ x.qty
  unfold paidZ
  omega
theorem row_less {ps : List PrV} {os : List OfV} (h : PrsB ps = true) (h2 : OfsB os = true) {x : LnV} (hx : x.ok = true) : (rowV ps os x).cents ≤ (rowV ps [] x).cents := by
 obtain ⟨a1, _⟩ := cents_le h x.item
 show centsOf ps x.item * qtyPaid os x ≤ centsOf ps x.item * x.qty
 exact Int.mul_le_mul_of_nonneg_left (qty_le h2 hx) a1
theorem open_at {l : List LnV} {i : Nat} (hi : i < l.length) (hs : (atLn l i).saved = false) : (openL (l.take i)).length < (openL l).length ∧ (openL l).getD (openL (l.take i)).length LnV.zero = atLn l i := by
 have e : openL l = openL (l.take (i + 1)) ++ openL (l.drop (i + 1)) := by
  have : openL (l.take (i + 1) ++ l.drop (i + 1)) = openL (l.take (i + 1)) ++ openL (l.drop (i + 1)) := List.filter_append ..
  rwa [List.take_append_drop] at this
 rw [openL_snoc hi, if_neg (by rw [hs]; decide)] at e
 rw [e]
 refine ⟨by simp only [List.length_append, List.length_cons, List.length_nil]; omega, ?_⟩
 rw [List.append_assoc, List.getD_eq_getElem?_getD, List.getElem?_append_right (Nat.le_refl _), Nat.sub_self]
 rfl
theorem rowsV_at {ps : List PrV} {os : List OfV} {l : List LnV} {k : Nat} (hk : k < (openL l).length) : (rowsV ps os l).getD k RwV.zero = rowV ps os ((openL l).getD k LnV.zero) := by
 unfold rowsV
 rw [List.getD_eq_getElem?_getD, List.getD_eq_getElem?_getD, List.getElem?_map, List.getElem?_eq_getElem hk]
 rfl
theorem open_take_le {l : List LnV} {i : Nat} : (openL (l.take i)).length ≤ (openL l).length := by
 have e : openL l = openL (l.take i) ++ openL (l.drop i) := by
  have : openL (l.take i ++ l.drop i) = openL (l.take i) ++ openL (l.drop i) := List.filter_append ..
  rwa [List.take_append_drop] at this
 rw [e, List.length_append]
 omega
/-- What a price is asked for tells, with one value. -/
def priceC (l : List PrV) (s : ByteArray) : Int := if PrsB l = true then centsOf l s else 0
def priceF (l : List PrV) (s : ByteArray) : Bool := PrsB l && (findP l s).isSome
theorem priceP_val {l : List PrV} {s : ByteArray} {w w' : World} {e : Ending} (h : PriceP l s w e w') : e = .returned (.tuple #[.int .i64 (priceC l s), .bool (priceF l s)]) ∧ Below w.heap.size w w' := by
 obtain ⟨h1, h2⟩ := h
 refine ⟨?_, h2⟩
 unfold priceC priceF
 rcases h1 with ⟨hb, o, b, rfl, hi⟩ | ⟨hb, rfl⟩
 ·obtain ⟨e1, e2⟩ := price_val (prs_parts hb).2.1 hi
  rw [if_pos hb, hb, e1, e2]
  rfl
 ·rw [if_neg (by rw [hb]; decide), hb]
  rfl
theorem rows_sum_at {ps : List PrV} {os : List OfV} {l : List LnV} {i : Nat} (hi : i < l.length) (hs : (atLn l i).saved = false) : sumR (rowsV ps os (l.take (i + 1))) = sumR (rowsV ps os (l.take i)) + (rowV ps os (atLn l i)).cents := by
 rw [rowsV_snoc hi, if_neg (by rw [hs]; decide), sumR_snoc]
theorem rows_sum_le {ps : List PrV} {os : List OfV} {l : List LnV} (h1 : LnsB l = true) (h2 : PrsB ps = true) (h3 : OfsB os = true) (i : Nat) : 0 ≤ sumR (rowsV ps os (l.take i)) ∧ sumR (rowsV ps os (l.take i)) ≤ 200000000000 := by
 obtain ⟨k1, k2⟩ := lns_parts h1
 have hm : ∀ x, x ∈ openL (l.take i) → x.ok = true := fun x hx => by
  have hx2 : x ∈ l := List.mem_of_mem_take (List.mem_filter.1 hx).1
  obtain ⟨j, hj, e⟩ := List.mem_iff_getElem.1 hx2
  have := k1 j hj
  rw [atLn_get hj, e] at this
  exact this
 obtain ⟨a1, a2⟩ := sum_le (ps := ps) (os := os) h2 h3 (openL (l.take i)) hm
 have hle := open_take_le (l := l) (i := i)
 have hl2 := openL_len l
 refine ⟨a1, Int.le_trans a2 ?_⟩
 omega
end Go.Proofs.YtgagchlcafdiaaaGreat
