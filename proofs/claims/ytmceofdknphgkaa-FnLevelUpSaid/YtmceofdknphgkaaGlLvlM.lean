/- A cart without its last operation: mathematics. -/
import Derived.Test.YtmceofdknphgkaaGa27
import Derived.Test.YtmceofdknphgkaaGlp8
import Derived.Test.YtmceofdknphgkaaGlCutL
import Derived.Test.YtmceofdknphgkaaGa16
import Derived.Test.YtmceofdknphgkaaGlp2
import Derived.Test.YtmceofdknphgkaaGlp6
namespace Go.Proofs.Ytmceofdknphgkaa
open Go.RowKit

def lessV (xs : List Int) (d : Nat) : List Int := xs.set d (xs.getD d 0 - 1)
theorem less_at {xs : List Int} {d e : Nat} (h : xs.length = 4) (hd : d < 4) : (lessV xs d).getD e 0 = if e = d then xs.getD d 0 - 1 else xs.getD e 0 := by
  unfold lessV
  rw [List.getD_eq_getElem?_getD (l := xs.set _ _), List.getElem?_set]
  by_cases he : e = d
  · subst he
    rw [if_pos rfl, if_pos rfl, if_pos (by omega)]
    rfl
  · rw [if_neg (fun h => he h.symm), if_neg he, ← List.getD_eq_getElem?_getD]
theorem less_len (xs : List Int) (d : Nat) : (lessV xs d).length = xs.length := by unfold lessV; rw [List.length_set]
theorem last_cut {xs : List Int} {l : List OpV} {m : Nat} (h : cartB xs l = true) (hn : l.length = m + 1) : ∃ d : Nat, d < 4 ∧ (atOp l m).dev = (d : Int) ∧ 1 ≤ xs.getD d 0 ∧ xs.getD d 0 ≤ 40 ∧ cartB (lessV xs d) (l.take m) = true := by
  obtain ⟨d, hd, a1, a2, _, e1, e2⟩ := cart_at h (i := m) (by omega)
  have es : stOf xs (d + 1) = stOf xs d + (xs.getD d 0).toNat := rfl
  have hm4 := stOf_mono xs (d + 1) 4 (by omega)
  rw [(cart_true h).2.2] at hm4
  have hv := vec_at (cart_true h).1 hd
  have hx4 := (cart_vecs h).1
  have hb := (cart_vecs h).2
  have hbd := hb d hd
  have hvo : vecOk (lessV xs d) = true := vec_of (by rw [less_len, hx4]) fun e he => by
    rw [less_at hx4 hd]
    split
    · omega
    · exact hb e he
  have hc := cart_cut h hvo
  have hz : zipI min xs (lessV xs d) = lessV xs d := vec_ext (zip_len (cart_true h).1 hvo) (by rw [less_len, hx4]) fun e he => by
    rw [zip_at (cart_true h).1 hvo he, less_at hx4 hd]
    split
    · rename_i h1
      subst h1
      omega
    · omega
  have hf : l.filter (cutP (lessV xs d)) = l.take m := by
    have e0 : l = l.take m ++ [atOp l m] := by
      have hlt : m < l.length := by omega
      have hd1 : l.drop m = [atOp l m] := by
        rw [← List.getElem_cons_drop hlt, List.drop_eq_nil_of_le (by omega)]
        unfold atOp
        rw [List.getD_eq_getElem?_getD, List.getElem?_eq_getElem hlt]
        rfl
      rw [← hd1, List.take_append_drop]
    have hlast : cutP (lessV xs d) (atOp l m) = false := by
      unfold cutP
      rw [e1, Int.toNat_natCast, less_at hx4 hd, if_pos rfl, e2]
      exact decide_eq_false (by omega)
    have hfirst : (l.take m).filter (cutP (lessV xs d)) = l.take m := by
      rw [List.filter_eq_self]
      intro o ho
      obtain ⟨i, hi, ei⟩ := List.mem_iff_getElem.1 ho
      rw [List.length_take] at hi
      have hil : i < l.length := by omega
      have eo : atOp l i = o := by
        rw [← ei, List.getElem_take]
        unfold atOp
        rw [List.getD_eq_getElem?_getD, List.getElem?_eq_getElem hil]
        rfl
      obtain ⟨d', hd', b1, b2, _, f1, f2⟩ := cart_at h hil
      have es' : stOf xs (d' + 1) = stOf xs d' + (xs.getD d' 0).toNat := rfl
      have hv' := vec_at (cart_true h).1 hd'
      unfold cutP
      rw [← eo, f1, Int.toNat_natCast, less_at hx4 hd, f2]
      refine decide_eq_true ?_
      split
      · rename_i hdd
        subst hdd
        omega
      · omega
    conv => lhs; rw [e0]
    rw [List.filter_append, hfirst, List.filter_cons_of_neg (by rw [hlast]; decide), List.filter_nil, List.append_nil]
  rw [hz, hf] at hc
  exact ⟨d, hd, e1, by omega, by omega, hc⟩
theorem lev_take (item : ByteArray) (l : List OpV) (m : Nat) : ∀ k, k ≤ m → levTo item (l.take m) k = levTo item l k
  | 0, _ => rfl
  | k + 1, hk => by
    have e : (l.take m).getD k OpV.zero = l.getD k OpV.zero := by
      rw [List.getD_eq_getElem?_getD, List.getElem?_take, if_pos (by omega), ← List.getD_eq_getElem?_getD]
    rw [levTo, levTo, e, lev_take item l m k (by omega)]
theorem lev_mono (item : ByteArray) (l : List OpV) (k : Nat) : levTo item l k ≤ levTo item l (k + 1) := by
  rw [levTo]
  split
  · omega
  · exact Int.le_refl _
theorem level_less {xs ys : List Int} {l : List OpV} {m : Nat} (h : cartB xs l = true) (hn : l.length = m + 1) (h2 : cartB ys (l.take m) = true) (item : ByteArray) : levelN ys (l.take m) item ≤ levelN xs l item := by
  unfold levelN
  rw [if_pos h, if_pos h2]
  have hl : (l.take m).length = m := by rw [List.length_take]; omega
  rw [hl, lev_take item l m m (Nat.le_refl _), hn]
  exact lev_mono item l m
theorem ops_take {w : World} {B : Nat} {a : Option Addr} {n m : Nat} {l : List OpV} (h : Ops w B a n l) (hm : m ≤ n) : Ops w B a m (l.take m) := by
  have hl := h.1
  refine ⟨by rw [List.length_take]; omega, fun i hi => ?_⟩
  have e : (l.take m).getD i OpV.zero = l.getD i OpV.zero := by
    rw [List.getD_eq_getElem?_getD, List.getElem?_take, if_pos hi, ← List.getD_eq_getElem?_getD]
  rw [e]
  exact h.2 i (by omega)
theorem own_minus {w : World} {lo hi d : Nat} {va : Option Addr} {s : List Int} (h : Own w lo hi va 4 s) (hd : d < 4) : ∃ g, va = some ⟨g, 0, none⟩ ∧ lo ≤ g ∧ g < hi ∧ w.cell? ⟨g, d, none⟩ = some (.int .i64 (s.getD d 0)) ∧ w.frozen? ⟨g, d, none⟩ = false ∧ Own (w.setCell ⟨g, d, none⟩ (.int .i64 (s.getD d 0 - 1))) lo hi va 4 (lessV s d) := by
  have hl := h.1
  obtain ⟨g, cur, e, h1, h2, hg, hc⟩ := h.2 (by omega)
  refine ⟨g, e, h1, h2, ?_, frozen_of_row _ _ _ _ _ hg, ?_, fun _ => ⟨g, cur.setIfInBounds d (.int .i64 (s.getD d 0 - 1)), e, h1, h2, heap_setCell_same _ _ _ _ _ _ hg, fun i hi => ?_⟩⟩
  · rw [cell_of_row _ _ _ _ _ _ hg]
    exact hc d hd
  · unfold lessV
    rw [List.length_set]
    exact hl
  · rw [Array.getElem?_setIfInBounds]
    have hsz := (Array.getElem?_eq_some_iff.1 (hc d hd)).1
    unfold lessV
    by_cases e2 : d = i
    · subst e2
      rw [if_pos rfl, if_pos hsz, List.getD_eq_getElem?_getD (l := s.set _ _), List.getElem?_set_self (by omega)]
      rfl
    · rw [if_neg e2, hc i hi, List.getD_eq_getElem?_getD (l := s.set _ _), List.getElem?_set_ne e2, ← List.getD_eq_getElem?_getD]
theorem row_not {w : World} {base size n q : Nat} {e T : TypeId} {v : Value} {xs : List Value} {cs : Array Value} {fr : Nat × Nat} (h : w.ownsRow base e size v n xs) (hq : w.heap[q]? = some (.cells cs T fr)) (he : e ≠ T) : v.ownBlock = none ∨ v.ownBlock ≠ some q := by
  rcases h.2 with ⟨rfl, _⟩ | ⟨g, c, cur, rfl, _, hg, _⟩
  · exact .inl rfl
  · right
    intro h2
    have : g = q := by simpa [Value.ownBlock] using h2
    subst this
    rw [hq] at hg
    injection hg with hg
    injection hg with _ ht
    exact he ht.symm
theorem row_box {w w' : World} {base size n q : Nat} {e T : TypeId} {v : Value} {xs : List Value} {cs : Array Value} {fr : Nat × Nat} (h : w.ownsRow base e size v n xs) (hq : w.heap[q]? = some (.cells cs T fr)) (he : e ≠ T) (hg : w.grownBy w' v.ownBlock) : w'.heap[q]? = some (.cells cs T fr) :=
  (hg.block q (Array.getElem?_eq_some_iff.1 hq).1 (fun e2 => by rcases row_not h hq he with h1 | h1; · rw [h1] at e2; cases e2
                                                                · exact h1 e2.symm)).trans hq
end Go.Proofs.Ytmceofdknphgkaa
