/- What a set made of a cart's operations holds; carts within carts. -/
import Derived.Test.YtjmilgijdfibbabSetW
import Derived.Test.YtjmilgijdfibbabTogS
import Derived.Test.YtjmilgijdfibbabWithinW
namespace Go.Proofs.Ytjmilgijdfibbab
open Go.RowKit

theorem setF_hit {m : List OpV} (h : incB m = true) : ∀ k, k ≤ m.length → ∀ i, i < k → setF m k (atOp m i).dev (atOp m i).seq = some (atOp m i)
  | 0, _, i, hi => absurd hi (Nat.not_lt_zero _)
  | k + 1, hk, i, hi => by
    show putF (setF m k) (atOp m k) _ _ = _
    unfold putF
    by_cases e : (atOp m i).dev = (atOp m k).dev ∧ (atOp m i).seq = (atOp m k).seq
    · rw [if_pos e]
      have := inc_uniq h (i := i) (j := k) (by omega) (by omega) (dev := (atOp m k).dev) (seq := (atOp m k).seq) e ⟨rfl, rfl⟩
      rw [this]
    · rw [if_neg e]
      have hik : i ≠ k := fun e2 => e (by rw [e2]; exact ⟨rfl, rfl⟩)
      exact setF_hit h k (by omega) i (by omega)
theorem setF_miss {m : List OpV} {d s : Int} : ∀ k, (∀ j, j < k → ¬ eqN m j d s) → setF m k d s = none
  | 0, _ => rfl
  | k + 1, h => by
    show putF (setF m k) (atOp m k) _ _ = _
    unfold putF
    rw [if_neg (fun e => h k (by omega) ⟨e.1.symm, e.2.symm⟩)]
    exact setF_miss k fun j hj => h j (by omega)
theorem setF_some {m : List OpV} {d s : Int} {x : OpV} : ∀ k, setF m k d s = some x → ∃ i, i < k ∧ eqN m i d s ∧ atOp m i = x
  | 0, h => by cases h
  | k + 1, h => by
    have h' : putF (setF m k) (atOp m k) d s = some x := h
    unfold putF at h'
    by_cases e : d = (atOp m k).dev ∧ s = (atOp m k).seq
    · rw [if_pos e] at h'
      injection h' with h'
      exact ⟨k, by omega, ⟨e.1.symm, e.2.symm⟩, h'⟩
    · rw [if_neg e] at h'
      obtain ⟨i, hi, r⟩ := setF_some k h'
      exact ⟨i, by omega, r⟩
theorem setF_name {m : List OpV} {d s : Int} {x : OpV} {k : Nat} (h : setF m k d s = some x) : x.dev = d ∧ x.seq = s := by
  obtain ⟨i, _, e, rfl⟩ := setF_some k h
  exact e
/-- What the operation is in the list m, by device and number. -/
def okW (m : List OpV) (x : OpV) : Bool := match setF m m.length x.dev x.seq with
  | none => false
  | some y => sameB x y && decide (x.undos ≤ y.undos)
theorem okW_none {m : List OpV} {x : OpV} (h : setF m m.length x.dev x.seq = none) : okW m x = false := by unfold okW; rw [h]
theorem okW_some {m : List OpV} {x y : OpV} (h : setF m m.length x.dev x.seq = some y) : okW m x = (sameB x y && decide (x.undos ≤ y.undos)) := by unfold okW; rw [h]
def allW (m l : List OpV) : Bool := (List.range l.length).all fun i => okW m (atOp l i)
def inCart (xs : List Int) (l : List OpV) (ys : List Int) (m : List OpV) : Bool := cartB xs l && (cartB ys m && allW m l)
theorem inCart_1 {xs : List Int} {l : List OpV} {ys : List Int} {m : List OpV} (h : cartB xs l = false) : inCart xs l ys m = false := by unfold inCart; rw [h]; rfl
theorem inCart_2 {xs : List Int} {l : List OpV} {ys : List Int} {m : List OpV} (h : cartB ys m = false) : inCart xs l ys m = false := by unfold inCart; rw [h]; simp
theorem inCart_3 {xs : List Int} {l : List OpV} {ys : List Int} {m : List OpV} (h : cartB xs l = true) (h2 : cartB ys m = true) : inCart xs l ys m = allW m l := by unfold inCart; rw [h, h2]; rfl
theorem allW_stop {m l : List OpV} {k : Nat} (hk : k < l.length) (h : okW m (atOp l k) = false) : allW m l = false := by
  unfold allW
  rw [List.all_eq_false]
  exact ⟨k, by simpa using hk, by rw [h]; simp⟩
theorem allW_end {m l : List OpV} (h : ∀ i, i < l.length → okW m (atOp l i) = true) : allW m l = true := by
  unfold allW
  rw [List.all_eq_true]
  exact fun i hi => h i (by simpa using hi)
theorem op_fit {o : OpV} (h : o.ok = true) : 0 ≤ o.dev ∧ o.dev ≤ 3 ∧ 0 ≤ o.seq ∧ o.seq ≤ 40 ∧ 0 ≤ o.undos ∧ o.undos ≤ 50 := by
  have h' : opB o.dev o.seq o.stamp o.kind o.item o.qty o.level o.undos = true := h
  unfold opB headB at h'
  simp only [Bool.and_eq_true, inB_iff] at h'
  obtain ⟨⟨h1, h2, _, _, h5⟩, _⟩ := h'
  omega
theorem cart_fit {xs : List Int} {l : List OpV} (h : cartB xs l = true) {i : Nat} (hi : i < l.length) : Fit2 (atOp l i).dev (atOp l i).seq := by
  obtain ⟨h1, h2, h3, h4, _⟩ := op_fit (cart_ok_at h hi)
  exact fit2 h1 (by omega) h3 (by omega)
theorem cart_has {ys : List Int} {m : List OpV} (h : cartB ys m = true) {d : Nat} (hd : d < 4) {s : Nat} (hs : (s : Int) < ys.getD d 0) : stOf ys d + s < m.length ∧ eqN m (stOf ys d + s) (d : Int) ((s : Int) + 1) := by
  obtain ⟨_, hdv, h4⟩ := cart_true h
  have hD := hdv d hd
  unfold devB at hD
  rw [Bool.and_eq_true] at hD
  have hR := hD.2
  unfold runB at hR
  rw [List.all_eq_true] at hR
  have hF := hR s (List.mem_range.2 (by omega))
  unfold fitB at hF
  simp only [Bool.and_eq_true, decide_eq_true_eq] at hF
  have hm := stOf_mono ys (d + 1) 4 (by omega)
  have e : stOf ys (d + 1) = stOf ys d + (ys.getD d 0).toNat := rfl
  exact ⟨by omega, hF.2.1, hF.2.2.1⟩
theorem cart_seq {ys : List Int} {m : List OpV} (h : cartB ys m = true) {j : Nat} (hj : j < m.length) {d : Nat} (e : (atOp m j).dev = (d : Int)) : 1 ≤ (atOp m j).seq ∧ (atOp m j).seq ≤ ys.getD d 0 := by
  obtain ⟨d', _, h1, h2, _, h3, h4⟩ := cart_at h hj
  have hdd : d' = d := by omega
  subst hdd
  have e : stOf ys (d' + 1) = stOf ys d' + (ys.getD d' 0).toNat := rfl
  omega
theorem get_has {ys : List Int} {m : List OpV} (h : cartB ys m = true) {d : Nat} (hd : d < 4) {s : Nat} (hs : (s : Int) < ys.getD d 0) : setF m m.length (d : Int) ((s : Int) + 1) = some (atOp m (stOf ys d + s)) := by
  obtain ⟨h1, h2, h3⟩ := cart_has h hd hs
  have := setF_hit (cart_inc h) m.length (Nat.le_refl _) _ h1
  rw [h2, h3] at this
  exact this
theorem get_none {ys : List Int} {m : List OpV} (h : cartB ys m = true) {d : Nat} {s : Int} (hs : ys.getD d 0 < s) : setF m m.length (d : Int) s = none :=
  setF_miss _ fun j hj e => by
    have := cart_seq h hj e.1
    have := e.2
    omega
theorem with_no {xs : List Int} {l : List OpV} {ys : List Int} {m : List OpV} (h : cartB xs l = true) (h2 : cartB ys m = true) (hw : withinB xs ys = false) : allW m l = false := by
  have hv := (cart_true h).1
  have hv2 := (cart_true h2).1
  unfold withinB at hw
  rw [hv, hv2] at hw
  have hl : leAll xs ys = false := by simpa using hw
  unfold leAll at hl
  rw [List.all_eq_false] at hl
  obtain ⟨d, hd, hx⟩ := hl
  have h4 := (vec_at hv (d := 0) (by omega)).2.2
  have hd4 : d < 4 := by rw [h4] at hd; simpa using hd
  have hlt : ys.getD d 0 < xs.getD d 0 := by simpa using hx
  have hy0 := (vec_at hv2 hd4).1
  obtain ⟨s, hs⟩ : ∃ s : Nat, (s : Int) + 1 = xs.getD d 0 := ⟨(xs.getD d 0 - 1).toNat, by omega⟩
  obtain ⟨h5, h6⟩ := cart_has h hd4 (s := s) (by omega)
  refine allW_stop h5 (okW_none ?_)
  rw [h6.1, h6.2]
  exact get_none h2 (by omega)
theorem with_has {xs : List Int} {l : List OpV} {ys : List Int} {m : List OpV} (h : cartB xs l = true) (h2 : cartB ys m = true) (hw : withinB xs ys = true) {i : Nat} (hi : i < l.length) : ∃ j, j < m.length ∧ eqN m j (atOp l i).dev (atOp l i).seq := by
  unfold withinB at hw
  have hl : leAll xs ys = true := by rw [Bool.and_eq_true] at hw; exact hw.2
  unfold leAll at hl
  rw [List.all_eq_true] at hl
  obtain ⟨d, hd, _, _, _, h3, _⟩ := cart_at h hi
  have hq := cart_seq h hi h3
  have h4 := (vec_at (cart_true h).1 (d := 0) (by omega)).2.2
  have hle := hl d (by rw [h4]; simpa using hd)
  have hle : xs.getD d 0 ≤ ys.getD d 0 := by simpa using hle
  obtain ⟨s, hs⟩ : ∃ s : Nat, (s : Int) + 1 = (atOp l i).seq := ⟨((atOp l i).seq - 1).toNat, by omega⟩
  obtain ⟨h5, h6⟩ := cart_has h2 hd (s := s) (by omega)
  exact ⟨_, h5, by rw [h3, ← hs]; exact h6⟩

end Go.Proofs.Ytjmilgijdfibbab
