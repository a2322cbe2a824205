/- What a valid cart's operations are, by place; the live ones; levels, the last ones. Mathematics for chapters 5 and 6. -/
import Derived.Test.YtmceofdknphgkaaGa16
import Derived.Test.YtmceofdknphgkaaGrpOpLawsW
import Derived.Test.YtmceofdknphgkaaGrpRow
namespace Go.Proofs.Ytmceofdknphgkaa
open Go.RowKit

theorem take_at {l : List OpV} {k : Nat} (h : k < l.length) : l.take (k + 1) = l.take k ++ [l.getD k OpV.zero] := by
  rw [List.take_succ_eq_append_getElem h, List.getD_eq_getElem?_getD, List.getElem?_eq_getElem h]
  rfl
theorem liveTo_yes {l : List OpV} {k : Nat} (hk : k < l.length) (h : (l.getD k OpV.zero).live = true) : liveTo l (k + 1) = liveTo l k ++ [l.getD k OpV.zero] := by
  unfold liveTo
  rw [take_at hk, List.filter_append, List.filter_cons, if_pos h, List.filter_nil]
theorem liveTo_no {l : List OpV} {k : Nat} (hk : k < l.length) (h : (l.getD k OpV.zero).live = false) : liveTo l (k + 1) = liveTo l k := by
  unfold liveTo
  rw [take_at hk, List.filter_append, List.filter_cons, if_neg (by rw [h]; exact Bool.false_ne_true), List.filter_nil, List.append_nil]
theorem liveTo_len (l : List OpV) (k : Nat) : (liveTo l k).length ≤ k := by
  unfold liveTo
  exact Nat.le_trans (List.length_filter_le _ _) (List.length_take_le _ _)
theorem live_ok {o : OpV} (h : o.ok = true) : o.live = decide (o.undos % 2 = 0) := by
  unfold OpV.live liveB
  unfold OpV.ok at h
  rw [h]
  rfl

/-- The greatest number of a device's operation among some. -/
def lastOf (dev : Int) (pre : List OpV) : Int := pre.foldl (fun n o => if o.dev = dev then max n o.seq else n) 0
theorem lastOf_snoc (dev : Int) (pre : List OpV) (o : OpV) : lastOf dev (pre ++ [o]) = if o.dev = dev then max (lastOf dev pre) o.seq else lastOf dev pre := by
  unfold lastOf
  rw [List.foldl_append]
  rfl
theorem cart_mono {xs : List Int} {l : List OpV} (h : cartB xs l = true) {i j : Nat} (hij : i < j) (hj : j < l.length) (hd : (atOp l i).dev = (atOp l j).dev) : (atOp l i).seq < (atOp l j).seq := by
  obtain ⟨d, k, _, _, hi, _, h1, h2⟩ := cart_atV h (i := i) (by omega)
  obtain ⟨e, m, _, _, hj', _, g1, g2⟩ := cart_atV h hj
  obtain rfl : d = e := by have := h1.symm.trans (hd.trans g1); omega
  rw [h2, g2]
  omega
theorem undo_last {xs : List Int} {l : List OpV} (hc : cartB xs l = true) (dev : Int) : ∀ k, k ≤ l.length → lastOf dev (liveTo l k) = undoTo dev l k
  | 0, _ => rfl
  | k + 1, hk => by
    have hk' : k < l.length := hk
    have ih := undo_last hc dev k (by omega)
    obtain ⟨d, m, _, _, _, hok, hdv, hsq⟩ := cart_atV hc hk'
    have hl := live_ok hok
    have e : atOp l k = l.getD k OpV.zero := rfl
    rw [e] at hl hdv hsq
    by_cases hu : (l.getD k OpV.zero).undos % 2 = 0
    · rw [liveTo_yes hk' (by rw [hl, decide_eq_true hu]), lastOf_snoc, ih, undoTo]
      by_cases hd : (l.getD k OpV.zero).dev = dev
      · rw [if_pos hd, if_pos ⟨hd, hu⟩]
        rcases undo_from dev l k with h | ⟨i, hi, h1, h2⟩
        · rw [h]; omega
        · have := cart_mono hc hi hk' (h1.trans hd.symm)
          rw [e] at this
          rw [h2]; omega
      · rw [if_neg hd, if_neg (fun h => hd h.1)]
    · rw [liveTo_no hk' (by rw [hl, decide_eq_false hu]), ih, undoTo, if_neg (fun h => hu h.2)]
theorem undo_nobody {xs : List Int} {l : List OpV} (hc : cartB xs l = true) {dev : Int} (hd : ¬ (0 ≤ dev ∧ dev ≤ 3)) : ∀ k, k ≤ l.length → undoTo dev l k = 0
  | 0, _ => rfl
  | k + 1, hk => by
    obtain ⟨d, m, h4, _, _, _, hdv, _⟩ := cart_atV hc (i := k) hk
    have e : atOp l k = l.getD k OpV.zero := rfl
    rw [e] at hdv
    rw [undoTo, if_neg (fun h => hd (by rw [← h.1, hdv]; omega)), undo_nobody hc hd k (by omega)]
end Go.Proofs.Ytmceofdknphgkaa
