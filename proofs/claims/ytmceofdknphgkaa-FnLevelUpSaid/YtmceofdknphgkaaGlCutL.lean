/- What cutting does, as mathematics: what is cut is a right cart within the cart; cutting twice; cutting and merging. -/
import Derived.Test.YtmceofdknphgkaaGlCutM
import Derived.Test.YtmceofdknphgkaaGa25
import Derived.Test.YtmceofdknphgkaaGlp2
import Derived.Test.YtmceofdknphgkaaGlp4
import Derived.Test.YtmceofdknphgkaaGlp5
import Derived.Test.YtmceofdknphgkaaGlp1
namespace Go.Proofs.Ytmceofdknphgkaa
open Go.RowKit
set_option linter.unusedVariables false

theorem zip_at {xs v : List Int} (h : vecOk xs = true) (h2 : vecOk v = true) {d : Nat} (hd : d < 4) : (zipI min xs v).getD d 0 = min (xs.getD d 0) (v.getD d 0) := by
  obtain ⟨x0, x1, x2, x3, rfl⟩ := four h
  obtain ⟨y0, y1, y2, y3, rfl⟩ := four h2
  match d, hd with
  | 0, _ => rfl
  | 1, _ => rfl
  | 2, _ => rfl
  | 3, _ => rfl
theorem zip_len {xs v : List Int} (h : vecOk xs = true) (h2 : vecOk v = true) : (zipI min xs v).length = 4 := by
  obtain ⟨x0, x1, x2, x3, rfl⟩ := four h
  obtain ⟨y0, y1, y2, y3, rfl⟩ := four h2
  rfl
theorem vec_of {xs : List Int} (hl : xs.length = 4) (h : ∀ d, d < 4 → 0 ≤ xs.getD d 0 ∧ xs.getD d 0 ≤ 40) : vecOk xs = true := by
  unfold vecOk
  rw [Bool.and_eq_true, List.all_eq_true]
  refine ⟨fun x hx => ?_, decide_eq_true hl⟩
  obtain ⟨i, hi, rfl⟩ := List.mem_iff_getElem.1 hx
  have := h i (by omega)
  rw [List.getD_eq_getElem?_getD, List.getElem?_eq_getElem hi] at this
  unfold inV
  simp only [Option.getD_some] at this
  rw [Bool.and_eq_true, decide_eq_true_eq, decide_eq_true_eq]
  exact this
theorem zip_ok {xs v : List Int} (h : vecOk xs = true) (h2 : vecOk v = true) : vecOk (zipI min xs v) = true := by
  refine vec_of (zip_len h h2) fun d hd => ?_
  rw [zip_at h h2 hd]
  have a := vec_at h hd
  have b := vec_at h2 hd
  omega
theorem vec_ext {xs ys : List Int} (h : xs.length = 4) (h2 : ys.length = 4) (he : ∀ d, d < 4 → xs.getD d 0 = ys.getD d 0) : xs = ys := by
  refine List.ext_getElem (by omega) fun i h3 h4 => ?_
  have := he i (by omega)
  rw [List.getD_eq_getElem?_getD, List.getD_eq_getElem?_getD, List.getElem?_eq_getElem h3, List.getElem?_eq_getElem h4] at this
  exact this
def cutF (xs : List Int) (l : List OpV) : Nat → Nat → OpV := fun d s => atOp l (stOf xs d + s)
theorem cutF_fit {xs : List Int} {l : List OpV} (h : cartB xs l = true) {d : Nat} (hd : d < 4) {s : Nat} (hs : (s : Int) < xs.getD d 0) : (cutF xs l d s).ok = true ∧ (cutF xs l d s).dev = (d : Int) ∧ (cutF xs l d s).seq = (s : Int) + 1 := by
  obtain ⟨a, b, c, _⟩ := fit_parts (cart_fitB h hd hs)
  exact ⟨a, b, c⟩
theorem cutP_at {xs v : List Int} {l : List OpV} (h : cartB xs l = true) {d : Nat} (hd : d < 4) {s : Nat} (hs : (s : Int) < xs.getD d 0) : cutP v (cutF xs l d s) = decide ((s : Int) + 1 ≤ v.getD d 0) := by
  obtain ⟨_, b, c⟩ := cutF_fit h hd hs
  unfold cutP
  rw [b, c]
  rfl
theorem cut_run {xs v : List Int} {l : List OpV} (h : cartB xs l = true) (hv : vecOk v = true) {d : Nat} (hd : d < 4) (h0 : (listP xs (cutF xs l) d 0).filter (cutP v) = listP (zipI min xs v) (cutF xs l) d 0) : ∀ s : Nat, (s : Int) ≤ xs.getD d 0 → (listP xs (cutF xs l) d s).filter (cutP v) = listP (zipI min xs v) (cutF xs l) d (min s (v.getD d 0).toNat)
  | 0, _ => by rw [Nat.zero_min]; exact h0
  | s + 1, hs => by
    rw [listP_step, List.filter_append, cut_run h hv hd h0 s (by omega)]
    have e := cutP_at (v := v) h hd (s := s) (by omega)
    by_cases hc : (s : Int) + 1 ≤ v.getD d 0
    · rw [decide_eq_true hc] at e
      rw [List.filter_cons_of_pos (by exact e), List.filter_nil, Nat.min_eq_left (by omega), Nat.min_eq_left (by omega), listP_step]
    · rw [decide_eq_false hc] at e
      rw [List.filter_cons_of_neg (by rw [e]; exact Bool.false_ne_true), List.filter_nil, List.append_nil, Nat.min_eq_right (by omega), Nat.min_eq_right (by omega)]
theorem cut_list4 {xs v : List Int} {l : List OpV} (h : cartB xs l = true) (hv : vecOk v = true) : ∀ d : Nat, d ≤ 4 → (listP xs (cutF xs l) d 0).filter (cutP v) = listP (zipI min xs v) (cutF xs l) d 0
  | 0, _ => rfl
  | d + 1, hd => by
    have hx := vec_at (cart_true h).1 (d := d) (by omega)
    have hy := vec_at hv (d := d) (by omega)
    rw [listP_next, listP_next, cut_run h hv (by omega) (cut_list4 h hv d (by omega)) _ (by omega), zip_at (cart_true h).1 hv (by omega)]
    congr 1
    omega
theorem cut_list {xs v : List Int} {l : List OpV} (h : cartB xs l = true) (hv : vecOk v = true) : l.filter (cutP v) = listP (zipI min xs v) (cutF xs l) 4 0 := by
  have := cut_list4 h hv 4 (Nat.le_refl _)
  rw [listP_self h (F := cutF xs l) fun d s _ _ => rfl] at this
  exact this
theorem cut_le {xs v : List Int} (h : vecOk xs = true) (h2 : vecOk v = true) {d s : Nat} (hd : d < 4) (hs : (s : Int) < (zipI min xs v).getD d 0) : (s : Int) < xs.getD d 0 ∧ (s : Int) < v.getD d 0 := by
  rw [zip_at h h2 hd] at hs
  omega
/-- What is cut is a right cart. -/
theorem cart_cut {xs v : List Int} {l : List OpV} (h : cartB xs l = true) (hv : vecOk v = true) : cartB (zipI min xs v) (l.filter (cutP v)) = true := by
  have vx := (cart_true h).1
  have hlen : (listP (zipI min xs v) (cutF xs l) 4 0).length = stOf (zipI min xs v) 4 := listP_len _ _ 4 0
  rw [cut_list h hv]
  rw [cart_end (zip_ok vx hv) fun d hd => ?_]
  · exact decide_eq_true hlen.symm
  · have hm := stOf_mono (zipI min xs v) (d + 1) 4 (by omega)
    unfold devB
    rw [Bool.and_eq_true]
    refine ⟨decide_eq_true (by omega), ?_⟩
    unfold runB
    rw [List.all_eq_true]
    intro s hs
    have hs := List.mem_range.1 hs
    have hsi := (cut_le vx hv hd (s := s) (by omega)).1
    have ea : atOp (listP (zipI min xs v) (cutF xs l) 4 0) (stOf (zipI min xs v) d + s) = cutF xs l d s := listP_at _ _ hd hs
    obtain ⟨m1, m2, m3⟩ := cutF_fit h hd hsi
    refine fit_yes (by rw [ea]; exact m1) (by rw [ea]; exact m2) (by rw [ea]; exact m3) ?_
    rw [ea]
    have hp := (fit_parts (cart_fitB h hd hsi)).2.2.2
    cases s with
    | zero => exact hp
    | succ t =>
      rw [prev_step] at hp ⊢
      have eb : atOp (listP (zipI min xs v) (cutF xs l) 4 0) (stOf (zipI min xs v) d + t) = cutF xs l d t := listP_at _ _ hd (by omega)
      rw [eb]
      exact hp
theorem cut_at {xs v : List Int} {l : List OpV} (h : cartB xs l = true) (hv : vecOk v = true) {d s : Nat} (hd : d < 4) (hs : (s : Int) < (zipI min xs v).getD d 0) : atOp (l.filter (cutP v)) (stOf (zipI min xs v) d + s) = atOp l (stOf xs d + s) := by
  rw [cut_list h hv]
  exact listP_at _ _ hd (by omega)
/-- Below the vector a cut cart has what the cart has; from it on, nothing. -/
theorem get_cut {xs v : List Int} {l : List OpV} (h : cartB xs l = true) (hv : vecOk v = true) {d s : Nat} (hd : d < 4) (hs : (s : Int) < v.getD d 0) : getO (l.filter (cutP v)) (d : Int) ((s : Int) + 1) = getO l (d : Int) ((s : Int) + 1) := by
  have hz := zip_at (cart_true h).1 hv hd
  rcases get_cases (cart_cut h hv) hd s with ⟨h1, h2⟩ | ⟨h1, h2⟩
  · rw [h2, cut_at h hv hd h1]
    exact (get_has h hd (cut_le (cart_true h).1 hv hd h1).1).symm
  · rw [h2]
    exact (get_none h (by omega)).symm
theorem in_cut {xs v : List Int} {l : List OpV} (h : cartB xs l = true) (hv : vecOk v = true) : inCart (zipI min xs v) (l.filter (cutP v)) xs l = true := by
  have hc := cart_cut h hv
  rw [inCart_3 hc h]
  refine allW_end fun i hi => ?_
  obtain ⟨d, hd, h1, h2, _, a3, a4⟩ := cart_at hc hi
  have e : stOf (zipI min xs v) (d + 1) = stOf (zipI min xs v) d + ((zipI min xs v).getD d 0).toNat := rfl
  obtain ⟨s, rfl⟩ : ∃ s, i = stOf (zipI min xs v) d + s := ⟨i - stOf (zipI min xs v) d, by omega⟩
  have hs : (s : Int) < (zipI min xs v).getD d 0 := by omega
  have hg : setF l l.length (d : Int) ((s : Int) + 1) = some (atOp l (stOf xs d + s)) := get_has h hd (cut_le (cart_true h).1 hv hd hs).1
  have e2 : ((stOf (zipI min xs v) d + s - stOf (zipI min xs v) d : Nat) : Int) + 1 = (s : Int) + 1 := by omega
  rw [e2] at a4
  rw [← cut_at h hv hd hs] at hg
  rw [okW_some (by rw [a3, a4]; exact hg), Bool.and_eq_true]
  exact ⟨same_refl _, decide_eq_true (Int.le_refl _)⟩
theorem cut_cut (v : List Int) (l : List OpV) : (l.filter (cutP v)).filter (cutP v) = l.filter (cutP v) := by
  rw [List.filter_filter]
  congr 1
  funext a
  exact Bool.and_self _
theorem cut_cutV {xs v : List Int} (h : vecOk xs = true) (hv : vecOk v = true) : zipI min (zipI min xs v) v = zipI min xs v :=
  vec_ext (zip_len (zip_ok h hv) hv) (zip_len h hv) fun d hd => by
    rw [zip_at (zip_ok h hv) hv hd, zip_at h hv hd]
    omega
theorem cut_own {xs : List Int} {l : List OpV} (h : cartB xs l = true) : l.filter (cutP xs) = l := by
  rw [cut_list h (cart_true h).1]
  have e : zipI min xs xs = xs := vec_ext (zip_len (cart_true h).1 (cart_true h).1) (vec_at (cart_true h).1 (d := 0) (by omega)).2.2 fun d hd => by
    rw [zip_at (cart_true h).1 (cart_true h).1 hd]
    omega
  rw [e]
  exact listP_self h fun d s _ _ => rfl
theorem cut_ownV {xs : List Int} (h : vecOk xs = true) : zipI min xs xs = xs := vec_ext (zip_len h h) (vec_at h (d := 0) (by omega)).2.2 fun d hd => by
  rw [zip_at h h hd]
  omega
/-- Cut at two vectors, in either order, is cut at the lesser of both. -/
theorem cut_two {xs v w : List Int} {l : List OpV} (h : cartB xs l = true) (hv : vecOk v = true) (hw : vecOk w = true) : (l.filter (cutP v)).filter (cutP w) = l.filter (cutP (zipI min v w)) := by
  rw [List.filter_filter]
  refine List.filter_congr fun o ho => ?_
  obtain ⟨i, hi, rfl⟩ := List.mem_iff_getElem.1 ho
  obtain ⟨d, hd, _, _, _, a3, _⟩ := cart_at h hi
  have eo : l[i] = atOp l i := by unfold atOp; rw [List.getD_eq_getElem?_getD, List.getElem?_eq_getElem hi]; rfl
  rw [eo]
  unfold cutP
  rw [a3]
  have e : ((d : Int)).toNat = d := rfl
  rw [e, zip_at hv hw hd, ← Bool.decide_and, decide_eq_decide]
  omega
theorem cut_twoV {xs v w : List Int} (h : vecOk xs = true) (hv : vecOk v = true) (hw : vecOk w = true) : zipI min (zipI min xs v) w = zipI min xs (zipI min v w) :=
  vec_ext (zip_len (zip_ok h hv) hw) (zip_len h (zip_ok hv hw)) fun d hd => by
    rw [zip_at (zip_ok h hv) hw hd, zip_at h hv hd, zip_at h (zip_ok hv hw) hd, zip_at hv hw hd]
    omega
theorem zip_comm {v w : List Int} (hv : vecOk v = true) (hw : vecOk w = true) : zipI min v w = zipI min w v :=
  vec_ext (zip_len hv hw) (zip_len hw hv) fun d hd => by
    rw [zip_at hv hw hd, zip_at hw hv hd]
    omega
/-- What is merged and cut is what is cut and merged. -/
theorem cut_merged {xs ys v : List Int} {l m : List OpV} (h : mergedB xs l ys m = true) (hv : vecOk v = true) :
    mergedB (zipI min xs v) (l.filter (cutP v)) (zipI min ys v) (m.filter (cutP v)) = true ∧ maxV (zipI min xs v) (zipI min ys v) = zipI min (maxV xs ys) v ∧ mergeL (maxV (zipI min xs v) (zipI min ys v)) (l.filter (cutP v)) (m.filter (cutP v)) = (mergeL (maxV xs ys) l m).filter (cutP v) := by
  obtain ⟨h1, h2, h3⟩ := mergedB_parts h
  have c1 := cart_cut h1 hv
  have c2 := cart_cut h2 hv
  have v1 := (cart_true h1).1
  have v2 := (cart_true h2).1
  have l1 := (vec_at v1 (d := 0) (by omega)).2.2
  have l2 := (vec_at v2 (d := 0) (by omega)).2.2
  have hM := cart_merged h1 h2 h3
  have vM := (cart_true hM).1
  have ev : maxV (zipI min xs v) (zipI min ys v) = zipI min (maxV xs ys) v := by
    refine vec_ext (vec_at (maxV_ok (cart_true c1).1 (cart_true c2).1) (d := 0) (by omega)).2.2 (zip_len vM hv) fun d hd => ?_
    rw [maxV_at (zip_len v1 hv) (zip_len v2 hv) hd, zip_at v1 hv hd, zip_at v2 hv hd, zip_at vM hv hd, maxV_at l1 l2 hd]
    omega
  have hok : okM (l.filter (cutP v)) (m.filter (cutP v)) = true := okM_end fun j hj => by
    obtain ⟨d, hd, p1, p2, _, a3, a4⟩ := cart_at c2 hj
    have e : stOf (zipI min ys v) (d + 1) = stOf (zipI min ys v) d + ((zipI min ys v).getD d 0).toNat := rfl
    obtain ⟨s, rfl⟩ : ∃ s, j = stOf (zipI min ys v) d + s := ⟨j - stOf (zipI min ys v) d, by omega⟩
    have hs : (s : Int) < (zipI min ys v).getD d 0 := by omega
    have e2 : ((stOf (zipI min ys v) d + s - stOf (zipI min ys v) d : Nat) : Int) + 1 = (s : Int) + 1 := by omega
    rw [e2] at a4
    have hle := cut_le v2 hv hd hs
    have hg := get_cut h1 hv hd hle.2
    have hmm := cart_has h2 hd hle.1
    have hj2 := okM_at h3 hmm.1
    have ea := cut_at h2 hv hd hs
    rw [ea] at a3 a4 ⊢
    unfold okJ at hj2 ⊢
    rw [a3, a4] at hj2 ⊢
    rw [hg]
    exact hj2
  have hB : mergedB (zipI min xs v) (l.filter (cutP v)) (zipI min ys v) (m.filter (cutP v)) = true := by rw [mergedB_3 c1 c2]; exact hok
  refine ⟨hB, ev, ?_⟩
  rw [ev, cut_list hM hv]
  refine listP_congr (fun d s hd hs => ?_) 4 0 (Nat.le_refl _) (fun e => absurd e (by omega)) (fun _ => rfl)
  have hle := cut_le vM hv hd hs
  show joinAt _ _ _ _ = atOp (mergeL (maxV xs ys) l m) (stOf (maxV xs ys) d + s)
  have e3 : atOp (mergeL (maxV xs ys) l m) (stOf (maxV xs ys) d + s) = mergeF l m d s := listP_at _ _ hd (by omega)
  rw [e3]
  show joinAt _ _ _ _ = joinAt _ _ _ _
  unfold joinAt
  rw [get_cut h1 hv hd hle.2, get_cut h2 hv hd hle.2]
end Go.Proofs.Ytmceofdknphgkaa
