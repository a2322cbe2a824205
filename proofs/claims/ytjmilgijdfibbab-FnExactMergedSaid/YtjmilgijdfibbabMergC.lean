/- The merge of two valid carts that fit is a valid cart. -/
import Derived.Test.YtjmilgijdfibbabMergM
namespace Go.Proofs.Ytjmilgijdfibbab
open Go.RowKit

theorem ok_with {a : OpV} (h : a.ok = true) {u : Int} (h0 : 0 ≤ u) (h1 : u ≤ 50) : (a.with u).ok = true := by
  have h' : opB a.dev a.seq a.stamp a.kind a.item a.qty a.level a.undos = true := h
  show opB a.dev a.seq a.stamp a.kind a.item a.qty a.level u = true
  unfold opB headB at h' ⊢
  simp only [Bool.and_eq_true, inB_iff] at h' ⊢
  obtain ⟨⟨a1, a2, a3, a4, _⟩, a6⟩ := h'
  exact ⟨⟨a1, a2, a3, a4, h0, h1⟩, a6⟩
theorem cart_fitB {xs : List Int} {l : List OpV} (h : cartB xs l = true) {d : Nat} (hd : d < 4) {s : Nat} (hs : (s : Int) < xs.getD d 0) : fitB l d (stOf xs d) s = true := by
  have hD := (cart_true h).2.1 d hd
  unfold devB at hD
  rw [Bool.and_eq_true] at hD
  have hR := hD.2
  unfold runB at hR
  rw [List.all_eq_true] at hR
  exact hR s (List.mem_range.2 (by omega))
theorem fit_parts {l : List OpV} {d st s : Nat} (h : fitB l d st s = true) : (atOp l (st + s)).ok = true ∧ (atOp l (st + s)).dev = (d : Int) ∧ (atOp l (st + s)).seq = (s : Int) + 1 ∧ prevStamp l st s < (atOp l (st + s)).stamp := by
  unfold fitB at h
  simpa only [Bool.and_eq_true, decide_eq_true_eq] using h
theorem merge_at {xs : List Int} {l : List OpV} {ys : List Int} {m : List OpV} (h : cartB xs l = true) (h2 : cartB ys m = true) (ho : okM l m = true) {d : Nat} (hd : d < 4) {s : Nat} (hs : (s : Int) < max (xs.getD d 0) (ys.getD d 0)) :
    (mergeF l m d s).ok = true ∧ (mergeF l m d s).dev = (d : Int) ∧ (mergeF l m d s).seq = (s : Int) + 1 ∧ ((s : Int) < xs.getD d 0 → (mergeF l m d s).stamp = (atOp l (stOf xs d + s)).stamp) ∧ ((s : Int) < ys.getD d 0 → (mergeF l m d s).stamp = (atOp m (stOf ys d + s)).stamp) := by
  show (joinAt l m _ _).ok = true ∧ (joinAt l m _ _).dev = _ ∧ (joinAt l m _ _).seq = _ ∧ (_ → (joinAt l m _ _).stamp = _) ∧ (_ → (joinAt l m _ _).stamp = _)
  unfold joinAt
  by_cases hx : (s : Int) < xs.getD d 0
  · have e1 : getO l (d : Int) ((s : Int) + 1) = some (atOp l (stOf xs d + s)) := get_has h hd hx
    obtain ⟨a1, a2, a3, _⟩ := fit_parts (cart_fitB h hd hx)
    rw [e1]
    by_cases hy : (s : Int) < ys.getD d 0
    · have e2 : getO m (d : Int) ((s : Int) + 1) = some (atOp m (stOf ys d + s)) := get_has h2 hd hy
      obtain ⟨b1, b2, b3, _⟩ := fit_parts (cart_fitB h2 hd hy)
      obtain ⟨h5, h6⟩ := cart_has h2 hd hy
      have hj := okM_at ho h5
      rw [okJ_some (by rw [h6.1, h6.2]; exact e1)] at hj
      have ha := same_yes hj
      have u1 := op_fit a1
      have u2 := op_fit b1
      rw [e2]
      refine ⟨ok_with a1 (by omega) (by omega), a2, a3, fun _ => rfl, fun _ => ?_⟩
      show (atOp l (stOf xs d + s)).stamp = _
      rw [ha]
      rfl
    · have e2 : getO m (d : Int) ((s : Int) + 1) = none := get_none h2 (by omega)
      rw [e2]
      exact ⟨a1, a2, a3, fun _ => rfl, fun h => absurd h hy⟩
  · have hy : (s : Int) < ys.getD d 0 := by omega
    have e1 : getO l (d : Int) ((s : Int) + 1) = none := get_none h (by omega)
    have e2 : getO m (d : Int) ((s : Int) + 1) = some (atOp m (stOf ys d + s)) := get_has h2 hd hy
    obtain ⟨b1, b2, b3, _⟩ := fit_parts (cart_fitB h2 hd hy)
    rw [e1, e2]
    exact ⟨b1, b2, b3, fun h => absurd h hx, fun _ => rfl⟩
def maxV (xs ys : List Int) : List Int := List.zipWith max xs ys
theorem maxV_at {xs ys : List Int} (h : xs.length = 4) (h2 : ys.length = 4) {d : Nat} (hd : d < 4) : (maxV xs ys).getD d 0 = max (xs.getD d 0) (ys.getD d 0) := by
  unfold maxV
  rw [List.getD_eq_getElem?_getD, List.getD_eq_getElem?_getD, List.getD_eq_getElem?_getD, List.getElem?_zipWith, List.getElem?_eq_getElem (by omega), List.getElem?_eq_getElem (by omega)]
  rfl
theorem maxV_ok {xs ys : List Int} (h : vecOk xs = true) (h2 : vecOk ys = true) : vecOk (maxV xs ys) = true := by
  have l1 := (vec_at h (d := 0) (by omega)).2.2
  have l2 := (vec_at h2 (d := 0) (by omega)).2.2
  have l3 : (maxV xs ys).length = 4 := by unfold maxV; rw [List.length_zipWith]; omega
  unfold vecOk
  rw [Bool.and_eq_true]
  refine ⟨?_, decide_eq_true l3⟩
  rw [List.all_eq_true]
  intro x hx
  obtain ⟨i, hi, e⟩ := List.mem_iff_getElem.1 hx
  have hi4 : i < 4 := by omega
  have e2 : (maxV xs ys).getD i 0 = x := by rw [List.getD_eq_getElem?_getD, List.getElem?_eq_getElem hi]; exact e
  rw [maxV_at l1 l2 hi4] at e2
  have g1 := vec_at h hi4
  have g2 := vec_at h2 hi4
  rw [← e2]
  unfold inV
  rw [Bool.and_eq_true]
  exact ⟨decide_eq_true (by omega), decide_eq_true (by omega)⟩
theorem cart_merged {xs : List Int} {l : List OpV} {ys : List Int} {m : List OpV} (h : cartB xs l = true) (h2 : cartB ys m = true) (ho : okM l m = true) : cartB (maxV xs ys) (mergeL (maxV xs ys) l m) = true := by
  have v1 := (cart_true h).1
  have v2 := (cart_true h2).1
  have l1 := (vec_at v1 (d := 0) (by omega)).2.2
  have l2 := (vec_at v2 (d := 0) (by omega)).2.2
  have hlen : (mergeL (maxV xs ys) l m).length = stOf (maxV xs ys) 4 := listP_len _ _ 4 0
  rw [cart_end (maxV_ok v1 v2) fun d hd => ?_]
  · exact decide_eq_true hlen.symm
  · have hm := stOf_mono (maxV xs ys) (d + 1) 4 (by omega)
    unfold devB
    rw [Bool.and_eq_true]
    refine ⟨decide_eq_true (by omega), ?_⟩
    unfold runB
    rw [List.all_eq_true]
    intro s hs
    have hs := List.mem_range.1 hs
    have hz := maxV_at l1 l2 hd
    have hsi : (s : Int) < max (xs.getD d 0) (ys.getD d 0) := by rw [← hz]; omega
    have ea : atOp (mergeL (maxV xs ys) l m) (stOf (maxV xs ys) d + s) = mergeF l m d s := listP_at _ _ hd hs
    obtain ⟨m1, m2, m3, m4, m5⟩ := merge_at h h2 ho hd hsi
    refine fit_yes (by rw [ea]; exact m1) (by rw [ea]; exact m2) (by rw [ea]; exact m3) ?_
    rw [ea]
    cases s with
    | zero =>
      have e0 : ∀ L st, prevStamp L st 0 = 0 := fun _ _ => rfl
      rw [e0]
      by_cases hx : ((0 : Nat) : Int) < xs.getD d 0
      · rw [m4 hx]
        have := (fit_parts (cart_fitB h hd hx)).2.2.2
        rw [e0] at this
        exact this
      · have hy : ((0 : Nat) : Int) < ys.getD d 0 := by omega
        rw [m5 hy]
        have := (fit_parts (cart_fitB h2 hd hy)).2.2.2
        rw [e0] at this
        exact this
    | succ t =>
      rw [prev_step]
      have eb : atOp (mergeL (maxV xs ys) l m) (stOf (maxV xs ys) d + t) = mergeF l m d t := listP_at _ _ hd (by omega)
      rw [eb]
      obtain ⟨_, _, _, n4, n5⟩ := merge_at h h2 ho hd (s := t) (by omega)
      by_cases hx : ((t + 1 : Nat) : Int) < xs.getD d 0
      · rw [m4 hx, n4 (by omega)]
        have := (fit_parts (cart_fitB h hd hx)).2.2.2
        rw [prev_step] at this
        exact this
      · have hy : ((t + 1 : Nat) : Int) < ys.getD d 0 := by omega
        rw [m5 hy, n5 (by omega)]
        have := (fit_parts (cart_fitB h2 hd hy)).2.2.2
        rw [prev_step] at this
        exact this
theorem merge_items {l m : List OpV} {N : Nat} (hl : ∀ i, i < l.length → (atOp l i).item.size ≤ N) (hm : ∀ i, i < m.length → (atOp m i).item.size ≤ N) (d s : Nat) : (mergeF l m d s).item.size ≤ N := by
  show (joinAt l m _ _).item.size ≤ N
  unfold joinAt
  rcases e1 : getO l (d : Int) ((s : Int) + 1) with _ | a
  · rcases e2 : getO m (d : Int) ((s : Int) + 1) with _ | b
    · exact Nat.zero_le _
    · obtain ⟨i, hi, _, e⟩ := setF_some _ e2
      show b.item.size ≤ N
      rw [← e]
      exact hm i hi
  · obtain ⟨i, hi, _, e⟩ := setF_some _ e1
    rcases e2 : getO m (d : Int) ((s : Int) + 1) with _ | b
    · show a.item.size ≤ N
      rw [← e]
      exact hl i hi
    · show a.item.size ≤ N
      rw [← e]
      exact hl i hi
end Go.Proofs.Ytjmilgijdfibbab
