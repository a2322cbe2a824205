/- Plain mathematics of promise 2: vectors with VecMax, VecMin and VecWithin. -/
import Derived.Test.YtjmilgijdfibbabVecDrawW
namespace Go.Proofs.Ytjmilgijdfibbab

theorem ok4 {x0 x1 x2 x3 : Int} : vecOk [x0, x1, x2, x3] = true ↔ ((0 ≤ x0 ∧ x0 ≤ 40) ∧ (0 ≤ x1 ∧ x1 ≤ 40) ∧ (0 ≤ x2 ∧ x2 ≤ 40) ∧ (0 ≤ x3 ∧ x3 ≤ 40)) := by
  simp [vecOk, inV, and_assoc]
theorem le4 (x0 x1 x2 x3 y0 y1 y2 y3 : Int) : leAll [x0, x1, x2, x3] [y0, y1, y2, y3] = true ↔ (x0 ≤ y0 ∧ x1 ≤ y1 ∧ x2 ≤ y2 ∧ x3 ≤ y3) := by
  simp [leAll, List.range_succ]
theorem zip4 (f : Int → Int → Int) (x0 x1 x2 x3 y0 y1 y2 y3 : Int) : zipI f [x0, x1, x2, x3] [y0, y1, y2, y3] = [f x0 y0, f x1 y1, f x2 y2, f x3 y3] := rfl
theorem zip_ok {xs ys : List Int} (f : Int → Int → Int) (hf : ∀ x y, f x y = x ∨ f x y = y) (h : vecOk xs = true) (h' : vecOk ys = true) : vecOk (vecZip f xs ys) = true := by
  rw [vecZip_yes (by rw [h, h']; rfl)]
  obtain ⟨x0, x1, x2, x3, rfl⟩ := four h
  obtain ⟨y0, y1, y2, y3, rfl⟩ := four h'
  rw [zip4]
  rw [ok4] at h h' ⊢
  have a0 := hf x0 y0
  have a1 := hf x1 y1
  have a2 := hf x2 y2
  have a3 := hf x3 y3
  refine ⟨?_, ?_, ?_, ?_⟩
  · rcases a0 with e | e <;> rw [e] <;> omega
  · rcases a1 with e | e <;> rw [e] <;> omega
  · rcases a2 with e | e <;> rw [e] <;> omega
  · rcases a3 with e | e <;> rw [e] <;> omega
theorem maxOr (x y : Int) : max x y = x ∨ max x y = y := by omega
theorem minOr (x y : Int) : min x y = x ∨ min x y = y := by omega
theorem both {xs ys : List Int} (h : vecOk xs = true) (h' : vecOk ys = true) : (vecOk xs && vecOk ys) = true := by rw [h, h']; rfl
theorem within_iff {xs ys : List Int} (h : vecOk xs = true) (h' : vecOk ys = true) : withinB xs ys = leAll xs ys := by unfold withinB; rw [h, h']; rfl

theorem w_refl {xs : List Int} (h : vecOk xs = true) : withinB xs xs = true := by
  rw [within_iff h h]
  obtain ⟨x0, x1, x2, x3, rfl⟩ := four h
  rw [le4]; omega
theorem w_max {xs ys : List Int} (h : vecOk xs = true) (h' : vecOk ys = true) : withinB xs ys = decide (vecZip max xs ys = ys) := by
  rw [within_iff h h', vecZip_yes (both h h'), Bool.eq_iff_iff, decide_eq_true_eq]
  obtain ⟨x0, x1, x2, x3, rfl⟩ := four h
  obtain ⟨y0, y1, y2, y3, rfl⟩ := four h'
  rw [le4, zip4]
  simp only [List.cons.injEq, and_true]
  omega
theorem w_anti {xs ys : List Int} (h : vecOk xs = true) (h' : vecOk ys = true) : (withinB xs ys && withinB ys xs) = decide (xs = ys) := by
  rw [within_iff h h', within_iff h' h, Bool.eq_iff_iff, decide_eq_true_eq, Bool.and_eq_true]
  obtain ⟨x0, x1, x2, x3, rfl⟩ := four h
  obtain ⟨y0, y1, y2, y3, rfl⟩ := four h'
  rw [le4, le4]
  simp only [List.cons.injEq, and_true]
  omega
theorem w_up {xs ys : List Int} (h : vecOk xs = true) (h' : vecOk ys = true) : withinB xs (vecZip max xs ys) = true ∧ withinB ys (vecZip max xs ys) = true := by
  rw [within_iff h (zip_ok max maxOr h h'), within_iff h' (zip_ok max maxOr h h'), vecZip_yes (both h h')]
  obtain ⟨x0, x1, x2, x3, rfl⟩ := four h
  obtain ⟨y0, y1, y2, y3, rfl⟩ := four h'
  rw [zip4, le4, le4]
  omega
theorem w_down {xs ys : List Int} (h : vecOk xs = true) (h' : vecOk ys = true) : withinB (vecZip min xs ys) xs = true ∧ withinB (vecZip min xs ys) ys = true := by
  rw [within_iff (zip_ok min minOr h h') h, within_iff (zip_ok min minOr h h') h', vecZip_yes (both h h')]
  obtain ⟨x0, x1, x2, x3, rfl⟩ := four h
  obtain ⟨y0, y1, y2, y3, rfl⟩ := four h'
  rw [zip4, le4, le4]
  omega
theorem z_comm {xs ys : List Int} (h : vecOk xs = true) (h' : vecOk ys = true) : vecZip max ys xs = vecZip max xs ys ∧ vecZip min ys xs = vecZip min xs ys := by
  rw [vecZip_yes (both h h'), vecZip_yes (both h h'), vecZip_yes (both h' h), vecZip_yes (both h' h)]
  obtain ⟨x0, x1, x2, x3, rfl⟩ := four h
  obtain ⟨y0, y1, y2, y3, rfl⟩ := four h'
  simp only [zip4, List.cons.injEq, and_true]
  omega
theorem z_absorb {xs ys : List Int} (h : vecOk xs = true) (h' : vecOk ys = true) : vecZip max xs (vecZip min xs ys) = xs ∧ vecZip min xs (vecZip max xs ys) = xs := by
  rw [vecZip_yes (both h (zip_ok min minOr h h')), vecZip_yes (both h (zip_ok max maxOr h h')), vecZip_yes (both h h'), vecZip_yes (both h h')]
  obtain ⟨x0, x1, x2, x3, rfl⟩ := four h
  obtain ⟨y0, y1, y2, y3, rfl⟩ := four h'
  simp only [zip4, List.cons.injEq, and_true]
  omega
theorem z_assoc {xs ys zs : List Int} (h : vecOk xs = true) (h' : vecOk ys = true) (h'' : vecOk zs = true) :
    vecZip max (vecZip max xs ys) zs = vecZip max xs (vecZip max ys zs) ∧ vecZip min (vecZip min xs ys) zs = vecZip min xs (vecZip min ys zs) ∧
    vecZip min (vecZip max xs ys) zs = vecZip max (vecZip min xs zs) (vecZip min ys zs) := by
  rw [vecZip_yes (both (zip_ok max maxOr h h') h''), vecZip_yes (both h (zip_ok max maxOr h' h'')), vecZip_yes (both (zip_ok min minOr h h') h''), vecZip_yes (both h (zip_ok min minOr h' h'')),
    vecZip_yes (both (zip_ok max maxOr h h') h''), vecZip_yes (both (zip_ok min minOr h h'') (zip_ok min minOr h' h'')), vecZip_yes (both h h'), vecZip_yes (both h' h''), vecZip_yes (both h h'), vecZip_yes (both h' h''), vecZip_yes (both h h'')]
  obtain ⟨x0, x1, x2, x3, rfl⟩ := four h
  obtain ⟨y0, y1, y2, y3, rfl⟩ := four h'
  obtain ⟨z0, z1, z2, z3, rfl⟩ := four h''
  simp only [zip4, List.cons.injEq, and_true]
  omega
theorem zip_ne {xs ys : List Int} {f : Int → Int → Int} (h : (vecZip f xs ys).length ≠ 0) : vecOk xs = true ∧ vecOk ys = true := by
  cases hk : vecOk xs && vecOk ys
  · rw [vecZip_no hk] at h; exact absurd rfl h
  · rwa [Bool.and_eq_true] at hk
theorem rev_ok {xs : List Int} (h : vecOk xs = true) : vecOk xs.reverse = true := by
  obtain ⟨x0, x1, x2, x3, rfl⟩ := four h
  show vecOk [x3, x2, x1, x0] = true
  rw [ok4] at h ⊢
  omega
theorem rev_take {xs : List Int} {m : Nat} (h : xs.length = 4) (hm : m < 4) : xs.reverse.take (4 - m) = xs.reverse.take (4 - (m + 1)) ++ [xs.getD m 0] := by
  match xs, h with
  | [x0, x1, x2, x3], _ =>
    match m, hm with
    | 0, _ => rfl
    | 1, _ => rfl
    | 2, _ => rfl
    | 3, _ => rfl
end Go.Proofs.Ytjmilgijdfibbab
