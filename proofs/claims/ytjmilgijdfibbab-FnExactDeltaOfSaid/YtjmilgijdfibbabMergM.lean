/- The mathematics of merging two carts. -/
import Derived.Test.YtjmilgijdfibbabWithM
import Derived.Test.YtjmilgijdfibbabCloneC
namespace Go.Proofs.Ytjmilgijdfibbab
open Go.RowKit

def getO (l : List OpV) (d s : Int) : Option OpV := setF l l.length d s
def joinAt (l m : List OpV) (d s : Int) : OpV := match getO l d s, getO m d s with
  | some a, some b => a.with (max a.undos b.undos)
  | some a, none => a
  | none, some b => b
  | none, none => OpV.zero
/-- What is listed up to number s of device d, by a vector. -/
def listP (zs : List Int) (F : Nat → Nat → OpV) (d s : Nat) : List OpV := ((List.range d).flatMap fun e => (List.range (zs.getD e 0).toNat).map fun i => F e i) ++ (List.range s).map fun i => F d i
theorem listP_zero (zs : List Int) (F : Nat → Nat → OpV) : listP zs F 0 0 = [] := rfl
theorem listP_step (zs : List Int) (F : Nat → Nat → OpV) (d s : Nat) : listP zs F d (s + 1) = listP zs F d s ++ [F d s] := by
  unfold listP
  rw [List.range_succ, List.map_append, ← List.append_assoc]
  rfl
theorem listP_next (zs : List Int) (F : Nat → Nat → OpV) (d : Nat) : listP zs F (d + 1) 0 = listP zs F d (zs.getD d 0).toNat := by
  unfold listP
  rw [List.range_succ, List.flatMap_append]
  simp
theorem listP_len (zs : List Int) (F : Nat → Nat → OpV) : ∀ d s, (listP zs F d s).length = stOf zs d + s
  | 0, s => by simp [listP, stOf]
  | d + 1, 0 => by
    rw [listP_next, listP_len zs F d]
    rfl
  | d + 1, s + 1 => by
    rw [listP_step, List.length_append, listP_len zs F (d + 1) s]
    rfl
theorem listP_pre (zs : List Int) (F : Nat → Nat → OpV) (d : Nat) : ∀ k s, s ≤ s + k → ∃ r, listP zs F d (s + k) = listP zs F d s ++ r
  | 0, s, _ => ⟨[], by simp⟩
  | k + 1, s, _ => by
    obtain ⟨r, h⟩ := listP_pre zs F d k s (by omega)
    exact ⟨r ++ [F d (s + k)], by rw [← Nat.add_assoc, listP_step, h, List.append_assoc]⟩
theorem listP_far (zs : List Int) (F : Nat → Nat → OpV) (d : Nat) : ∀ k, ∃ r, listP zs F (d + k) 0 = listP zs F d 0 ++ r
  | 0 => ⟨[], by simp⟩
  | k + 1 => by
    obtain ⟨r, h⟩ := listP_far zs F d k
    obtain ⟨r2, h2⟩ := listP_pre zs F (d + k) (zs.getD (d + k) 0).toNat 0 (by omega)
    refine ⟨r ++ r2, ?_⟩
    rw [← Nat.add_assoc, listP_next, ← List.append_assoc, ← h]
    simpa using h2
theorem listP_at (zs : List Int) (F : Nat → Nat → OpV) {d s : Nat} (hd : d < 4) (hs : s < (zs.getD d 0).toNat) : atOp (listP zs F 4 0) (stOf zs d + s) = F d s := by
  obtain ⟨r, h⟩ := listP_far zs F (d + 1) (3 - d)
  have e4 : d + 1 + (3 - d) = 4 := by omega
  rw [e4, listP_next zs F d] at h
  obtain ⟨r2, h2⟩ := listP_pre zs F d ((zs.getD d 0).toNat - (s + 1)) (s + 1) (by omega)
  have e5 : s + 1 + ((zs.getD d 0).toNat - (s + 1)) = (zs.getD d 0).toNat := by omega
  rw [e5, listP_step zs F d s] at h2
  rw [h2] at h
  have hl := listP_len zs F d s
  unfold atOp
  rw [h, List.getD_eq_getElem?_getD, List.append_assoc, List.append_assoc, List.getElem?_append_right (by omega), hl]
  simp
def mergeF (l m : List OpV) : Nat → Nat → OpV := fun d s => joinAt l m (d : Int) ((s : Int) + 1)
def mergeL (zs : List Int) (l m : List OpV) : List OpV := listP zs (mergeF l m) 4 0
/-- Does the operation fit what the list has under its name? -/
def okJ (l : List OpV) (x : OpV) : Bool := match getO l x.dev x.seq with
  | none => true
  | some y => sameB x y
def okM (l m : List OpV) : Bool := (List.range m.length).all fun i => okJ l (atOp m i)
theorem okM_stop {l m : List OpV} {k : Nat} (hk : k < m.length) (h : okJ l (atOp m k) = false) : okM l m = false := by
  unfold okM
  rw [List.all_eq_false]
  exact ⟨k, List.mem_range.2 hk, by rw [h]; simp⟩
theorem okM_at {l m : List OpV} (h : okM l m = true) {k : Nat} (hk : k < m.length) : okJ l (atOp m k) = true := by
  unfold okM at h
  rw [List.all_eq_true] at h
  exact h k (List.mem_range.2 hk)
theorem okM_end {l m : List OpV} (h : ∀ i, i < m.length → okJ l (atOp m i) = true) : okM l m = true := by
  unfold okM
  rw [List.all_eq_true]
  exact fun i hi => h i (List.mem_range.1 hi)
theorem okJ_none {l : List OpV} {x : OpV} (h : getO l x.dev x.seq = none) : okJ l x = true := by unfold okJ; rw [h]
theorem okJ_some {l : List OpV} {x y : OpV} (h : getO l x.dev x.seq = some y) : okJ l x = sameB x y := by unfold okJ; rw [h]
def mergedB (xs : List Int) (l : List OpV) (ys : List Int) (m : List OpV) : Bool := cartB xs l && (cartB ys m && okM l m)
theorem mergedB_1 {xs : List Int} {l : List OpV} {ys : List Int} {m : List OpV} (h : cartB xs l = false) : mergedB xs l ys m = false := by unfold mergedB; rw [h]; rfl
theorem mergedB_2 {xs : List Int} {l : List OpV} {ys : List Int} {m : List OpV} (h : cartB ys m = false) : mergedB xs l ys m = false := by unfold mergedB; rw [h]; simp
theorem mergedB_3 {xs : List Int} {l : List OpV} {ys : List Int} {m : List OpV} (h : cartB xs l = true) (h2 : cartB ys m = true) : mergedB xs l ys m = okM l m := by unfold mergedB; rw [h, h2]; rfl
/-- What impl.Merged lays for an operation of the second cart. -/
def jn (l : List OpV) (x : OpV) : OpV := match getO l x.dev x.seq with
  | none => x
  | some y => x.with (max x.undos y.undos)
theorem jn_name (l : List OpV) (x : OpV) : (jn l x).dev = x.dev ∧ (jn l x).seq = x.seq := by
  unfold jn
  split <;> exact ⟨rfl, rfl⟩
theorem jn_none {l : List OpV} {x : OpV} (h : getO l x.dev x.seq = none) : jn l x = x := by unfold jn; rw [h]
theorem jn_some {l : List OpV} {x y : OpV} (h : getO l x.dev x.seq = some y) : jn l x = x.with (max x.undos y.undos) := by unfold jn; rw [h]
def mixF (l m : List OpV) : Nat → Int → Int → Option OpV
  | 0 => getO l
  | k + 1 => putF (mixF l m k) (jn l (atOp m k))
theorem mixF_miss {l m : List OpV} {d s : Int} : ∀ k, (∀ j, j < k → ¬ eqN m j d s) → mixF l m k d s = getO l d s
  | 0, _ => rfl
  | k + 1, h => by
    show putF (mixF l m k) (jn l (atOp m k)) d s = _
    unfold putF
    rw [(jn_name l (atOp m k)).1, (jn_name l (atOp m k)).2, if_neg (fun e => h k (by omega) ⟨e.1.symm, e.2.symm⟩)]
    exact mixF_miss k fun j hj => h j (by omega)
theorem mixF_hit {l m : List OpV} (hm : incB m = true) : ∀ k, k ≤ m.length → ∀ i, i < k → mixF l m k (atOp m i).dev (atOp m i).seq = some (jn l (atOp m i))
  | 0, _, i, hi => absurd hi (Nat.not_lt_zero _)
  | k + 1, hk, i, hi => by
    show putF (mixF l m k) (jn l (atOp m k)) _ _ = _
    unfold putF
    rw [(jn_name l (atOp m k)).1, (jn_name l (atOp m k)).2]
    by_cases e : (atOp m i).dev = (atOp m k).dev ∧ (atOp m i).seq = (atOp m k).seq
    · rw [if_pos e]
      have := inc_uniq hm (i := i) (j := k) (by omega) (by omega) (dev := (atOp m k).dev) (seq := (atOp m k).seq) e ⟨rfl, rfl⟩
      rw [this]
    · rw [if_neg e]
      have hik : i ≠ k := fun e2 => e (by rw [e2]; exact ⟨rfl, rfl⟩)
      exact mixF_hit hm k (by omega) i (by omega)
theorem mixF_next {l m : List OpV} (hm : incB m = true) {k : Nat} (hk : k < m.length) : mixF l m k (atOp m k).dev (atOp m k).seq = getO l (atOp m k).dev (atOp m k).seq :=
  mixF_miss k fun j hj e => by
    have := inc_uniq hm (i := j) (j := k) (by omega) hk (dev := (atOp m k).dev) (seq := (atOp m k).seq) e ⟨rfl, rfl⟩
    omega
theorem with_with (a : OpV) (u v : Int) : (a.with u).with v = a.with v := rfl
/-- Of two valid carts that fit the set has what is to be listed. -/
theorem mix_join {xs : List Int} {l : List OpV} {ys : List Int} {m : List OpV} (h : cartB xs l = true) (h2 : cartB ys m = true) (ho : okM l m = true) {d : Nat} (hd : d < 4) {s : Nat} (hs : (s : Int) < max (xs.getD d 0) (ys.getD d 0)) :
    mixF l m m.length (d : Int) ((s : Int) + 1) = some (joinAt l m (d : Int) ((s : Int) + 1)) := by
  by_cases hy : (s : Int) < ys.getD d 0
  · obtain ⟨h5, h6⟩ := cart_has h2 hd hy
    have e1 := mixF_hit (l := l) (cart_inc h2) m.length (Nat.le_refl _) _ h5
    have e2 : getO m (d : Int) ((s : Int) + 1) = some (atOp m (stOf ys d + s)) := get_has h2 hd hy
    have hj := okM_at ho h5
    rw [h6.1, h6.2] at e1
    rw [e1]
    unfold joinAt
    rw [e2]
    rcases hg : getO l (d : Int) ((s : Int) + 1) with _ | a
    · rw [jn_none (by rw [h6.1, h6.2]; exact hg)]
    · have hg' : getO l (atOp m (stOf ys d + s)).dev (atOp m (stOf ys d + s)).seq = some a := by rw [h6.1, h6.2]; exact hg
      rw [jn_some hg']
      rw [okJ_some hg'] at hj
      have ha := same_yes hj
      show some _ = some (a.with (max a.undos (atOp m (stOf ys d + s)).undos))
      rw [Int.max_comm a.undos]
      generalize max (atOp m (stOf ys d + s)).undos a.undos = u
      rw [ha]
      rfl
  · have hx : (s : Int) < xs.getD d 0 := by omega
    have e2 : getO m (d : Int) ((s : Int) + 1) = none := get_none h2 (by omega)
    have e3 : getO l (d : Int) ((s : Int) + 1) = some (atOp l (stOf xs d + s)) := get_has h hd hx
    rw [mixF_miss _ fun j hj e => by
      have := cart_seq h2 hj e.1
      have := e.2
      omega, e3]
    unfold joinAt
    rw [e2, e3]
end Go.Proofs.Ytjmilgijdfibbab
