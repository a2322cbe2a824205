/- What a delta holds, counted along a cart's operations; operations that are toggled, seen from both carts: mathematics. -/
import Derived.Test.YtmceofdknphgkaaGdDelA
import Derived.Test.YtmceofdknphgkaaGa25
import Derived.Test.YtmceofdknphgkaaGdp8
import Derived.Test.YtmceofdknphgkaaGdp9
import Derived.Test.YtmceofdknphgkaaGa23
import Derived.Test.YtmceofdknphgkaaGdp5
import Derived.Test.YtmceofdknphgkaaGdp4
import Derived.Test.YtmceofdknphgkaaGdp0
namespace Go.Proofs.Ytmceofdknphgkaa
open Go.RowKit

/-- How many of the first i operations satisfy q. -/
def cntP (q : OpV → Bool) (l : List OpV) (i : Nat) : Nat := ((l.take i).filter q).length
theorem cnt_zero (q : OpV → Bool) (l : List OpV) : cntP q l 0 = 0 := by
  unfold cntP
  rw [List.take_zero]
  rfl
theorem cnt_step {q : OpV → Bool} {l : List OpV} {i : Nat} (hi : i < l.length) : cntP q l (i + 1) = if q (atOp l i) = true then cntP q l i + 1 else cntP q l i := by
  unfold cntP
  rw [filt_step hi]
  split
  · rw [List.length_append]; rfl
  · rfl
theorem cnt_all (q : OpV → Bool) (l : List OpV) : cntP q l l.length = (l.filter q).length := by
  unfold cntP
  rw [List.take_length]
theorem cnt_split (q : OpV → Bool) (l : List OpV) (i : Nat) : l.filter q = (l.take i).filter q ++ (l.drop i).filter q := by
  rw [← List.filter_append, List.take_append_drop]
theorem cntP_le (q : OpV → Bool) (l : List OpV) (i : Nat) : cntP q l i ≤ (l.filter q).length := by
  rw [cnt_split q l i, List.length_append]
  unfold cntP
  omega
theorem atOp_mem {l : List OpV} {i : Nat} (h : i < l.length) : atOp l i ∈ l := by
  unfold atOp
  rw [List.getD_eq_getElem?_getD, List.getElem?_eq_getElem h]
  exact List.getElem_mem h
theorem filt_sat {q : OpV → Bool} {l : List OpV} {k : Nat} (hk : k < (l.filter q).length) : q (atOp (l.filter q) k) = true :=
  (List.mem_filter.1 (atOp_mem hk)).2
theorem cnt_at {q : OpV → Bool} {l : List OpV} {i : Nat} (hi : i < l.length) (h : q (atOp l i) = true) : atOp (l.filter q) (cntP q l i) = atOp l i := by
  have hd : l.drop i = atOp l i :: l.drop (i + 1) := by
    unfold atOp
    rw [List.getD_eq_getElem?_getD, List.getElem?_eq_getElem hi]
    exact (List.getElem_cons_drop hi).symm
  have e : l.filter q = (l.take i).filter q ++ (atOp l i :: (l.drop (i + 1)).filter q) := by
    rw [cnt_split q l i, hd, List.filter_cons_of_pos h]
  unfold cntP
  have : atOp (l.filter q) ((l.take i).filter q).length = ((l.take i).filter q ++ (atOp l i :: (l.drop (i + 1)).filter q)).getD ((l.take i).filter q).length OpV.zero := by
    unfold atOp at e ⊢
    rw [e]
  rw [this, List.getD_eq_getElem?_getD, List.getElem?_append_right (Nat.le_refl _), Nat.sub_self]
  rfl
theorem cnt_eq {q : OpV → Bool} {l : List OpV} {i : Nat} (hi : i < l.length) (hk : cntP q l i < (l.filter q).length) : decide (atOp l i = atOp (l.filter q) (cntP q l i)) = q (atOp l i) := by
  by_cases h : q (atOp l i) = true
  · rw [cnt_at hi h, h]
    exact decide_eq_true rfl
  · have hf : q (atOp l i) = false := by cases hq : q (atOp l i) <;> simp_all
    rw [hf]
    exact decide_eq_false fun e => h (by rw [e]; exact filt_sat hk)
/-- The next count, by the comparison that the law makes. -/
theorem cnt_next {q : OpV → Bool} {l : List OpV} {i : Nat} (hi : i < l.length) (hk : cntP q l i < (l.filter q).length) : cntP q l (i + 1) = if decide (atOp l i = atOp (l.filter q) (cntP q l i)) = true then cntP q l i + 1 else cntP q l i := by
  rw [cnt_eq hi hk, cnt_step hi]
theorem getO_name {m : List OpV} {d s : Int} {y : OpV} (h : getO m d s = some y) : ∃ i, i < m.length ∧ eqN m i d s ∧ atOp m i = y := setF_some _ h
theorem del_okW {xs ys : List Int} {l m : List OpV} (h : mergedB xs l ys m = true) {i : Nat} (hi : i < l.length) : delB m (atOp l i) = !okW m (atOp l i) := by
  obtain ⟨hl, hm, _⟩ := mergedB_parts h
  cases hg : getO m (atOp l i).dev (atOp l i).seq with
  | none =>
    have hg' : setF m m.length (atOp l i).dev (atOp l i).seq = none := hg
    rw [okW_none hg']
    refine delB_none fun j hj e => ?_
    have := setF_hit (cart_inc hm) m.length (Nat.le_refl _) j hj
    unfold eqN at e
    rw [e.1, e.2, hg'] at this
    cases this
  | some y =>
    have hg' : setF m m.length (atOp l i).dev (atOp l i).seq = some y := hg
    rw [okW_some hg']
    obtain ⟨j, hj, e, ey⟩ := getO_name hg
    rw [delB_at (cart_inc hm) hj e, ey]
    obtain ⟨d, hd, a1, a2, _, e1, e2⟩ := cart_at hl hi
    have hga : getO l (d : Int) (((i - stOf xs d : Nat) : Int) + 1) = some (atOp l i) := by
      have := setF_hit (cart_inc hl) l.length (Nat.le_refl _) i hi
      rw [e1, e2] at this
      exact this
    have hgb : getO m (d : Int) (((i - stOf xs d : Nat) : Int) + 1) = some y := by
      rw [e1, e2] at hg
      exact hg
    have hs : sameB (atOp l i) y = true := by
      rw [fit_same h hd hga hgb]
      exact same_with _ _
    rw [hs, Bool.true_and]
    by_cases hu : (atOp l i).undos ≤ y.undos
    · rw [decide_eq_true hu, decide_eq_false (by omega)]; rfl
    · rw [decide_eq_false hu, decide_eq_true (by omega)]; rfl
theorem del_empty {xs ys : List Int} {l m : List OpV} (h : mergedB xs l ys m = true) : decide ((l.filter (delB m)).length = 0) = inCart xs l ys m := by
  obtain ⟨hl, hm, _⟩ := mergedB_parts h
  rw [inCart_3 hl hm]
  cases hw : allW m l with
  | true =>
    refine decide_eq_true ?_
    rw [List.length_eq_zero_iff, List.filter_eq_nil_iff]
    intro o ho
    obtain ⟨i, hi, e⟩ := List.mem_iff_getElem.1 ho
    have eo : atOp l i = o := by
      unfold atOp
      rw [List.getD_eq_getElem?_getD, List.getElem?_eq_getElem hi]
      exact e
    unfold allW at hw
    rw [List.all_eq_true] at hw
    have := hw i (by simpa using hi)
    rw [← eo, del_okW h hi, this]
    decide
  | false =>
    refine decide_eq_false fun e => ?_
    rw [List.length_eq_zero_iff, List.filter_eq_nil_iff] at e
    have : allW m l = true := allW_end fun i hi => by
      have h1 := e _ (atOp_mem hi)
      rw [del_okW h hi] at h1
      cases hk : okW m (atOp l i)
      · rw [hk] at h1; exact absurd rfl h1
      · rfl
    rw [this] at hw
    cases hw
end Go.Proofs.Ytmceofdknphgkaa
