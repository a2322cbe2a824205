/- Operations that are toggled, seen from both carts: mathematics. -/
import Derived.Test.YtmceofdknphgkaaGa21
import Derived.Test.YtmceofdknphgkaaGa25
import Derived.Test.YtmceofdknphgkaaGtS
namespace Go.Proofs.Ytmceofdknphgkaa
open Go.RowKit

theorem atOp_memT {l : List OpV} {i : Nat} (h : i < l.length) : atOp l i ∈ l := by
  unfold atOp
  rw [List.getD_eq_getElem?_getD, List.getElem?_eq_getElem h]
  exact List.getElem_mem h
def nameN (o : OpV) : Int × Int := (o.dev, o.seq)
def ltN (a b : OpV) : Prop := numB a.dev a.seq b.dev b.seq = true
theorem ltN_irr {a b : OpV} (h : ltN a b) (e : nameN b = nameN a) : False := by
  unfold nameN at e
  unfold ltN at h
  rw [Prod.mk.injEq] at e
  rw [e.1, e.2] at h
  exact num_irr h
theorem inc_pair {l : List OpV} (h : incB l = true) : l.Pairwise ltN := by
  rw [List.pairwise_iff_getElem]
  intro i j hi hj hij
  have := inc_lt h j i hij hj
  unfold atOp at this
  rw [List.getD_eq_getElem?_getD, List.getElem?_eq_getElem hi, List.getD_eq_getElem?_getD, List.getElem?_eq_getElem hj] at this
  exact this
theorem names_eq : ∀ {A B : List OpV}, A.Pairwise ltN → B.Pairwise ltN → (∀ n : Int × Int, n ∈ A.map nameN ↔ n ∈ B.map nameN) → A.map nameN = B.map nameN
  | [], [], _, _, _ => rfl
  | [], b :: B, _, _, h => absurd ((h (nameN b)).2 (by simp)) (by simp)
  | a :: A, [], _, _, h => absurd ((h (nameN a)).1 (by simp)) (by simp)
  | a :: A, b :: B, hA, hB, h => by
    rw [List.pairwise_cons] at hA hB
    have e : nameN a = nameN b := by
      have h1 := (h (nameN a)).1 (by simp)
      have h2 := (h (nameN b)).2 (by simp)
      rw [List.map_cons, List.mem_cons] at h1 h2
      rcases h1 with h1 | h1
      · exact h1
      rcases h2 with h2 | h2
      · exact h2.symm
      rw [List.mem_map] at h1 h2
      obtain ⟨b', hb', e1⟩ := h1
      obtain ⟨a', ha', e2⟩ := h2
      have l1 := hB.1 b' hb'
      have l2 := hA.1 a' ha'
      unfold ltN at l1 l2
      unfold nameN at e1 e2
      rw [Prod.mk.injEq] at e1 e2
      rw [e1.1, e1.2] at l1
      rw [e2.1, e2.2] at l2
      exact (num_irr (num_trans l1 l2)).elim
    rw [List.map_cons, List.map_cons, e]
    congr 1
    refine names_eq hA.2 hB.2 fun n => ?_
    have hn := h n
    rw [List.map_cons, List.map_cons, List.mem_cons, List.mem_cons, e] at hn
    constructor
    · intro hm
      rcases hn.1 (.inr hm) with q | q
      · rw [List.mem_map] at hm
        obtain ⟨a', ha', e2⟩ := hm
        exact (ltN_irr (hA.1 a' ha') (by rw [e2, q, e])).elim
      · exact q
    · intro hm
      rcases hn.2 (.inr hm) with q | q
      · rw [List.mem_map] at hm
        obtain ⟨b', hb', e2⟩ := hm
        exact (ltN_irr (hB.1 b' hb') (by rw [e2, q])).elim
      · exact q
theorem togB_iff {l : List OpV} {o : OpV} : togB l o = true ↔ ∃ x, x ∈ l ∧ nameN x = nameN o ∧ (liveU x != liveU o) = true := by
  unfold togB nameN
  rw [List.any_eq_true]
  constructor
  · rintro ⟨j, hj, hp⟩
    rw [List.mem_range] at hj
    simp only [Bool.and_eq_true, decide_eq_true_eq] at hp
    exact ⟨_, atOp_memT hj, by rw [hp.1, hp.2.1], hp.2.2⟩
  · rintro ⟨x, hx, e, hu⟩
    obtain ⟨j, hj, ej⟩ := List.mem_iff_getElem.1 hx
    have ea : atOp l j = x := by
      unfold atOp
      rw [List.getD_eq_getElem?_getD, List.getElem?_eq_getElem hj]
      exact ej
    rw [Prod.mk.injEq] at e
    refine ⟨j, by rw [List.mem_range]; exact hj, ?_⟩
    rw [ea, decide_eq_true e.1, decide_eq_true e.2, hu]
    rfl
theorem tog_mem {l m : List OpV} (n : Int × Int) (h : n ∈ (m.filter (togB l)).map nameN) : n ∈ (l.filter (togB m)).map nameN := by
  rw [List.mem_map] at h ⊢
  obtain ⟨o, ho, e⟩ := h
  rw [List.mem_filter] at ho
  obtain ⟨x, hx, en, hu⟩ := togB_iff.1 ho.2
  refine ⟨x, ?_, by rw [en, e]⟩
  rw [List.mem_filter]
  refine ⟨hx, togB_iff.2 ⟨o, ho.1, en.symm, ?_⟩⟩
  rw [bne_comm]
  exact hu
theorem tog_names {xs ys : List Int} {l m : List OpV} (h : cartB xs l = true) (h2 : cartB ys m = true) : (m.filter (togB l)).map nameN = (l.filter (togB m)).map nameN :=
  names_eq ((inc_pair (cart_inc h2)).filter _) ((inc_pair (cart_inc h)).filter _) fun n => ⟨tog_mem n, tog_mem n⟩
theorem tog_both {xs ys : List Int} {l m : List OpV} (h : cartB xs l = true) (h2 : cartB ys m = true) : (togL xs l ys m).length = (togL ys m xs l).length ∧ ∀ i, i < (togL xs l ys m).length → (atOp (togL xs l ys m) i).dev = (atOp (togL ys m xs l) i).dev ∧ (atOp (togL xs l ys m) i).seq = (atOp (togL ys m xs l) i).seq ∧ (liveU (atOp (togL xs l ys m) i) == liveU (atOp (togL ys m xs l) i)) = false := by
  rw [tog_yes (by rw [h, h2]; rfl), tog_yes (by rw [h, h2]; rfl)]
  have hn := tog_names h h2
  have hl : (m.filter (togB l)).length = (l.filter (togB m)).length := by
    have := congrArg List.length hn
    rw [List.length_map, List.length_map] at this
    exact this
  refine ⟨hl, fun i hi => ?_⟩
  have hi2 : i < (l.filter (togB m)).length := by omega
  have he : nameN (atOp (m.filter (togB l)) i) = nameN (atOp (l.filter (togB m)) i) := by
    unfold atOp
    rw [List.getD_eq_getElem?_getD, List.getElem?_eq_getElem hi, List.getD_eq_getElem?_getD, List.getElem?_eq_getElem hi2]
    have h3 : ((m.filter (togB l)).map nameN)[i]? = ((l.filter (togB m)).map nameN)[i]? := by rw [hn]
    rw [List.getElem?_map, List.getElem?_map, List.getElem?_eq_getElem hi, List.getElem?_eq_getElem hi2] at h3
    simpa using h3
  have hm1 := List.mem_filter.1 (atOp_memT hi)
  have hm2 := List.mem_filter.1 (atOp_memT hi2)
  obtain ⟨x, hx, en, hu⟩ := togB_iff.1 hm1.2
  have ex : x = atOp (l.filter (togB m)) i := by
    obtain ⟨j, hj, ej⟩ := List.mem_iff_getElem.1 hx
    obtain ⟨k, hk, ek⟩ := List.mem_iff_getElem.1 hm2.1
    have ea : atOp l j = x := by
      unfold atOp
      rw [List.getD_eq_getElem?_getD, List.getElem?_eq_getElem hj]
      exact ej
    have eb : atOp l k = atOp (l.filter (togB m)) i := by
      rw [← ek]
      show l.getD k OpV.zero = _
      rw [List.getD_eq_getElem?_getD, List.getElem?_eq_getElem hk]
      rfl
    rw [he] at en
    unfold nameN at en
    rw [Prod.mk.injEq] at en
    have : j = k := inc_uniq (cart_inc h) hj hk (dev := x.dev) (seq := x.seq) ⟨by rw [ea], by rw [ea]⟩ ⟨by rw [eb, en.1], by rw [eb, en.2]⟩
    subst this
    rw [← ea, eb]
  unfold nameN at he
  rw [Prod.mk.injEq] at he
  refine ⟨he.1, he.2, ?_⟩
  rw [← ex]
  revert hu
  cases liveU x <;> cases liveU (atOp (m.filter (togB l)) i) <;> decide
theorem tog_self {xs : List Int} {l : List OpV} (h : cartB xs l = true) : togL xs l xs l = [] := by
  rw [tog_yes (by rw [h]; rfl), List.filter_eq_nil_iff]
  intro o ho hc
  obtain ⟨x, hx, en, hu⟩ := togB_iff.1 hc
  obtain ⟨j, hj, ej⟩ := List.mem_iff_getElem.1 hx
  obtain ⟨k, hk, ek⟩ := List.mem_iff_getElem.1 ho
  have ea : atOp l j = x := by
    unfold atOp
    rw [List.getD_eq_getElem?_getD, List.getElem?_eq_getElem hj]
    exact ej
  have eb : atOp l k = o := by
    unfold atOp
    rw [List.getD_eq_getElem?_getD, List.getElem?_eq_getElem hk]
    exact ek
  unfold nameN at en
  rw [Prod.mk.injEq] at en
  have : j = k := inc_uniq (cart_inc h) hj hk (dev := x.dev) (seq := x.seq) ⟨by rw [ea], by rw [ea]⟩ ⟨by rw [eb, en.1], by rw [eb, en.2]⟩
  subst this
  rw [← ea, ← eb, bne_self_eq_false] at hu
  cases hu
end Go.Proofs.Ytmceofdknphgkaa
