/- What a bill is. Mathematics for chapter 12. -/
import Derived.Test.YtdbdmfaphdjdpaaFindOf
import Derived.Test.YtdbdmfaphdjdpaaSortLn
import Derived.Test.YtdbdmfaphdjdpaaRwRow
namespace Go.Proofs.Ytdbdmfaphdjdpaa
open Go.RowKit

theorem text_beq {s t : ByteArray} : (s.toList == t.toList) = true ↔ s = t := ⟨fun h => text_eqP (by simpa using h), fun h => by rw [h]; simp⟩
def findO (l : List OfV) (s : ByteArray) : Option OfV := l.find? fun o => o.item.toList == s.toList
def findP (l : List PrV) (s : ByteArray) : Option PrV := l.find? fun o => o.item.toList == s.toList
theorem atOf_mem {l : List OfV} {x : OfV} (h : x ∈ l) : ∃ i, i < l.length ∧ atOf l i = x := by
  obtain ⟨i, hi, e⟩ := List.mem_iff_getElem.1 h
  refine ⟨i, hi, ?_⟩
  unfold atOf
  rw [List.getD_eq_getElem?_getD, List.getElem?_eq_getElem hi]
  exact e
theorem atPr_mem {l : List PrV} {x : PrV} (h : x ∈ l) : ∃ i, i < l.length ∧ atPr l i = x := by
  obtain ⟨i, hi, e⟩ := List.mem_iff_getElem.1 h
  refine ⟨i, hi, ?_⟩
  unfold atPr
  rw [List.getD_eq_getElem?_getD, List.getElem?_eq_getElem hi]
  exact e
theorem mem_atOf {l : List OfV} {i : Nat} (h : i < l.length) : atOf l i ∈ l := by
  unfold atOf
  rw [List.getD_eq_getElem?_getD, List.getElem?_eq_getElem h]
  exact List.getElem_mem h
theorem mem_atPr {l : List PrV} {i : Nat} (h : i < l.length) : atPr l i ∈ l := by
  unfold atPr
  rw [List.getD_eq_getElem?_getD, List.getElem?_eq_getElem h]
  exact List.getElem_mem h
theorem offer_is (l : List OfV) (s : ByteArray) : OfferIs l s ((findO l s).getD OfV.zero) (findO l s).isSome := by
  unfold findO
  cases h : l.find? fun o => o.item.toList == s.toList with
  | none =>
    refine .inr ⟨rfl, rfl, fun i hi e => ?_⟩
    have := List.find?_eq_none.1 h _ (mem_atOf hi)
    exact this (text_beq.2 e)
  | some o =>
    obtain ⟨i, hi, e⟩ := atOf_mem (List.mem_of_find?_eq_some h)
    have hp := List.find?_some h
    exact .inl ⟨rfl, i, hi, by rw [e]; exact text_beq.1 hp, e.symm⟩
theorem price_is (l : List PrV) (s : ByteArray) : PriceIs l s ((findP l s).getD PrV.zero) (findP l s).isSome := by
  unfold findP
  cases h : l.find? fun o => o.item.toList == s.toList with
  | none =>
    refine .inr ⟨rfl, rfl, fun i hi e => ?_⟩
    have := List.find?_eq_none.1 h _ (mem_atPr hi)
    exact this (text_beq.2 e)
  | some o =>
    obtain ⟨i, hi, e⟩ := atPr_mem (List.mem_of_find?_eq_some h)
    have hp := List.find?_some h
    exact .inl ⟨rfl, i, hi, by rw [e]; exact text_beq.1 hp, e.symm⟩
theorem offer_val {l : List OfV} {s : ByteArray} {o : OfV} {b : Bool} (hi : IncOf l) (h : OfferIs l s o b) : o = (findO l s).getD OfV.zero ∧ b = (findO l s).isSome := offerIs_one hi h (offer_is l s)
theorem price_val {l : List PrV} {s : ByteArray} {o : PrV} {b : Bool} (hi : IncP l) (h : PriceIs l s o b) : o = (findP l s).getD PrV.zero ∧ b = (findP l s).isSome := priceIs_one hi h (price_is l s)
/-- How many of a line are paid. -/
def qtyPaid (os : List OfV) (x : LnV) : Int := match findO os x.item with
  | none => x.qty
  | some o => paidZ x.qty o.buy o.free
def centsOf (ps : List PrV) (s : ByteArray) : Int := ((findP ps s).getD PrV.zero).cents
def rowV (ps : List PrV) (os : List OfV) (x : LnV) : RwV := ⟨x.item, x.qty, centsOf ps x.item * qtyPaid os x⟩
def openL (l : List LnV) : List LnV := l.filter fun x => !x.saved
def hasP (ps : List PrV) (x : LnV) : Bool := (findP ps x.item).isSome
def rowsV (ps : List PrV) (os : List OfV) (l : List LnV) : List RwV := (openL l).map (rowV ps os)
def sumR (r : List RwV) : Int := (r.map RwV.cents).sum
def billB (l : List LnV) (ps : List PrV) (os : List OfV) : Bool := LnsB l && (PrsB ps && (OfsB os && (openL l).all (hasP ps)))
def billRs (l : List LnV) (ps : List PrV) (os : List OfV) (R : Bool) : List RwV := if R = true then rowsV ps os l else []
def billSum (l : List LnV) (ps : List PrV) (os : List OfV) (R : Bool) : Int := if R = true then sumR (rowsV ps os l) else 0
theorem prs_parts {l : List PrV} (h : PrsB l = true) : (∀ i, i < l.length → (atPr l i).ok = true) ∧ IncP l ∧ l.length ≤ 50 := by
  refine ⟨fun i hi => ?_, incP_of h, ?_⟩
  · unfold PrsB sortB at h
    simp only [Bool.and_eq_true, List.all_eq_true, List.mem_range] at h
    exact h.1 i hi
  · unfold PrsB sortB at h
    simp only [Bool.and_eq_true, decide_eq_true_eq] at h
    exact h.2.2
theorem ofs_parts {l : List OfV} (h : OfsB l = true) : (∀ i, i < l.length → (atOf l i).ok = true) ∧ IncOf l ∧ l.length ≤ 50 := by
  refine ⟨fun i hi => ?_, incOf_of h, ?_⟩
  · unfold OfsB sortB at h
    simp only [Bool.and_eq_true, List.all_eq_true, List.mem_range] at h
    exact h.1 i hi
  · unfold OfsB sortB at h
    simp only [Bool.and_eq_true, decide_eq_true_eq] at h
    exact h.2.2
theorem lns_parts {l : List LnV} (h : LnsB l = true) : (∀ i, i < l.length → (atLn l i).ok = true) ∧ l.length ≤ 200 := by
  refine ⟨fun i hi => ?_, ?_⟩
  · unfold LnsB sort2 at h
    simp only [Bool.and_eq_true, List.all_eq_true, List.mem_range] at h
    exact h.1 i hi
  · unfold LnsB sort2 at h
    simp only [Bool.and_eq_true, decide_eq_true_eq] at h
    exact h.2.2
theorem ln_ok {o : LnV} (h : o.ok = true) : itemB o.item = true ∧ 1 ≤ o.qty ∧ o.qty ≤ 999 := by
  unfold LnV.ok at h
  rw [Bool.and_eq_true] at h
  have := inB_iff.1 h.2
  exact ⟨h.1, this.1, this.2⟩
theorem of_ok {o : OfV} (h : o.ok = true) : 1 ≤ o.buy ∧ o.buy ≤ 99 ∧ 1 ≤ o.free ∧ o.free ≤ 99 := by
  unfold OfV.ok offB at h
  simp only [Bool.and_eq_true] at h
  have h1 := inB_iff.1 h.2.1
  have h2 := inB_iff.1 h.2.2
  exact ⟨h1.1, h1.2, h2.1, h2.2⟩
theorem pr_ok {o : PrV} (h : o.ok = true) : 1 ≤ o.cents ∧ o.cents ≤ 1000000 := by
  unfold PrV.ok at h
  rw [Bool.and_eq_true] at h
  exact inB_iff.1 h.2
theorem findO_ok {l : List OfV} (h : OfsB l = true) {s : ByteArray} {o : OfV} (hf : findO l s = some o) : o.ok = true := by
  obtain ⟨i, hi, e⟩ := atOf_mem (List.mem_of_find?_eq_some hf)
  rw [← e]
  exact (ofs_parts h).1 i hi
theorem qtyPaid_le {os : List OfV} (h : OfsB os = true) {x : LnV} (hx : x.ok = true) : 0 ≤ qtyPaid os x ∧ qtyPaid os x ≤ 999 := by
  obtain ⟨_, h1, h2⟩ := ln_ok hx
  unfold qtyPaid
  cases hf : findO os x.item with
  | none => show 0 ≤ x.qty ∧ x.qty ≤ 999; omega
  | some o =>
    obtain ⟨k1, k2, k3, k4⟩ := of_ok (findO_ok h hf)
    obtain ⟨p1, p2, p3⟩ := paid_bounds (q := x.qty) (b := o.buy) (f := o.free) (by omega) k1 k3
    show 0 ≤ paidZ x.qty o.buy o.free ∧ paidZ x.qty o.buy o.free ≤ 999
    unfold paidZ
    omega
theorem cents_le {ps : List PrV} (h : PrsB ps = true) (s : ByteArray) : 0 ≤ centsOf ps s ∧ centsOf ps s ≤ 1000000 := by
  unfold centsOf
  cases hf : findP ps s with
  | none => exact ⟨by decide, by decide⟩
  | some o =>
    obtain ⟨i, hi, e⟩ := atPr_mem (List.mem_of_find?_eq_some hf)
    have := pr_ok ((prs_parts h).1 i hi)
    rw [e] at this
    show 0 ≤ o.cents ∧ o.cents ≤ 1000000
    omega
theorem row_le {ps : List PrV} {os : List OfV} (h : PrsB ps = true) (h2 : OfsB os = true) {x : LnV} (hx : x.ok = true) : 0 ≤ (rowV ps os x).cents ∧ (rowV ps os x).cents ≤ 999000000 := by
  obtain ⟨a1, a2⟩ := cents_le h x.item
  obtain ⟨b1, b2⟩ := qtyPaid_le h2 hx
  show 0 ≤ centsOf ps x.item * qtyPaid os x ∧ centsOf ps x.item * qtyPaid os x ≤ 999000000
  refine ⟨Int.mul_nonneg a1 b1, ?_⟩
  have := Int.mul_le_mul a2 b2 b1 (by omega)
  omega
theorem openL_snoc {l : List LnV} {k : Nat} (hk : k < l.length) : openL (l.take (k + 1)) = if (atLn l k).saved = true then openL (l.take k) else openL (l.take k) ++ [atLn l k] := by
  have e : l.take (k + 1) = l.take k ++ [atLn l k] := by
    unfold atLn
    rw [List.take_add_one, List.getD_eq_getElem?_getD, List.getElem?_eq_getElem hk]
    rfl
  unfold openL
  rw [e, List.filter_append]
  cases hs : (atLn l k).saved <;> simp [hs]
theorem rowsV_snoc {ps : List PrV} {os : List OfV} {l : List LnV} {k : Nat} (hk : k < l.length) : rowsV ps os (l.take (k + 1)) = if (atLn l k).saved = true then rowsV ps os (l.take k) else rowsV ps os (l.take k) ++ [rowV ps os (atLn l k)] := by
  unfold rowsV
  rw [openL_snoc hk]
  split
  · rfl
  · rw [List.map_append]; rfl
theorem sumR_snoc (r : List RwV) (x : RwV) : sumR (r ++ [x]) = sumR r + x.cents := by
  unfold sumR
  rw [List.map_append, List.sum_append]
  simp
theorem openL_len (l : List LnV) : (openL l).length ≤ l.length := List.length_filter_le _ _
theorem sum_le {ps : List PrV} {os : List OfV} (h : PrsB ps = true) (h2 : OfsB os = true) : ∀ (l : List LnV), (∀ x, x ∈ l → x.ok = true) → 0 ≤ sumR (l.map (rowV ps os)) ∧ sumR (l.map (rowV ps os)) ≤ 999000000 * (l.length : Int)
  | [], _ => by unfold sumR; simp
  | x :: r, hx => by
    obtain ⟨a1, a2⟩ := sum_le h h2 r fun y hy => hx y (by simp [hy])
    obtain ⟨b1, b2⟩ := row_le h h2 (hx x (by simp))
    have e : sumR ((x :: r).map (rowV ps os)) = (rowV ps os x).cents + sumR (r.map (rowV ps os)) := by unfold sumR; simp
    rw [e, List.length_cons]
    omega
end Go.Proofs.Ytdbdmfaphdjdpaa
