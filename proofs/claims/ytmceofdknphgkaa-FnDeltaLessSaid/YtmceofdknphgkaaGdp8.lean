/- More of what several claims share. -/
import Derived.Test.YtmceofdknphgkaaGa23
import Derived.Test.YtmceofdknphgkaaGdp5
import Derived.Test.YtmceofdknphgkaaGdp4
import Derived.Test.YtmceofdknphgkaaGdp7
import Derived.Test.YtmceofdknphgkaaGa19
namespace Go.Proofs.Ytmceofdknphgkaa
open Go.RowKit

/-- What impl.Merged lays for an operation of the second cart. -/
def jn (l : List OpV) (x : OpV) : OpV := match getO l x.dev x.seq with
  | none => x
  | some y => x.with (max x.undos y.undos)
theorem jn_name (l : List OpV) (x : OpV) : (jn l x).dev = x.dev ∧ (jn l x).seq = x.seq := by
  unfold jn
  split <;> exact ⟨rfl, rfl⟩
theorem jn_none {l : List OpV} {x : OpV} (h : getO l x.dev x.seq = none) : jn l x = x := by unfold jn; rw [h]
theorem jn_some {l : List OpV} {x y : OpV} (h : getO l x.dev x.seq = some y) : jn l x = x.with (max x.undos y.undos) := by unfold jn; rw [h]
def mixF (l m : List OpV) : Nat → Int → Int → Option OpV
  | 0 => getO l
  | k + 1 => putF (mixF l m k) (jn l (atOp m k))
theorem mixF_miss {l m : List OpV} {d s : Int} : ∀ k, (∀ j, j < k → ¬ eqN m j d s) → mixF l m k d s = getO l d s
  | 0, _ => rfl
  | k + 1, h => by
    show putF (mixF l m k) (jn l (atOp m k)) d s = _
    unfold putF
    rw [(jn_name l (atOp m k)).1, (jn_name l (atOp m k)).2, if_neg (fun e => h k (by omega) ⟨e.1.symm, e.2.symm⟩)]
    exact mixF_miss k fun j hj => h j (by omega)
theorem mixF_hit {l m : List OpV} (hm : incB m = true) : ∀ k, k ≤ m.length → ∀ i, i < k → mixF l m k (atOp m i).dev (atOp m i).seq = some (jn l (atOp m i))
  | 0, _, i, hi => absurd hi (Nat.not_lt_zero _)
  | k + 1, hk, i, hi => by
    show putF (mixF l m k) (jn l (atOp m k)) _ _ = _
    unfold putF
    rw [(jn_name l (atOp m k)).1, (jn_name l (atOp m k)).2]
    by_cases e : (atOp m i).dev = (atOp m k).dev ∧ (atOp m i).seq = (atOp m k).seq
    · rw [if_pos e]
      have := inc_uniq hm (i := i) (j := k) (by omega) (by omega) (dev := (atOp m k).dev) (seq := (atOp m k).seq) e ⟨rfl, rfl⟩
      rw [this]
    · rw [if_neg e]
      have hik : i ≠ k := fun e2 => e (by rw [e2]; exact ⟨rfl, rfl⟩)
      exact mixF_hit hm k (by omega) i (by omega)
theorem mixF_next {l m : List OpV} (hm : incB m = true) {k : Nat} (hk : k < m.length) : mixF l m k (atOp m k).dev (atOp m k).seq = getO l (atOp m k).dev (atOp m k).seq :=
  mixF_miss k fun j hj e => by
    have := inc_uniq hm (i := j) (j := k) (by omega) hk (dev := (atOp m k).dev) (seq := (atOp m k).seq) e ⟨rfl, rfl⟩
    omega
/-- Of two valid carts that fit the set has what is to be listed. -/
theorem mix_join {xs : List Int} {l : List OpV} {ys : List Int} {m : List OpV} (h : cartB xs l = true) (h2 : cartB ys m = true) (ho : okM l m = true) {d : Nat} (hd : d < 4) {s : Nat} (hs : (s : Int) < max (xs.getD d 0) (ys.getD d 0)) :
    mixF l m m.length (d : Int) ((s : Int) + 1) = some (joinAt l m (d : Int) ((s : Int) + 1)) := by
  by_cases hy : (s : Int) < ys.getD d 0
  · obtain ⟨h5, h6⟩ := cart_has h2 hd hy
    have e1 := mixF_hit (l := l) (cart_inc h2) m.length (Nat.le_refl _) _ h5
    have e2 : getO m (d : Int) ((s : Int) + 1) = some (atOp m (stOf ys d + s)) := get_has h2 hd hy
    have hj := okM_at ho h5
    rw [h6.1, h6.2] at e1
    rw [e1]
    unfold joinAt
    rw [e2]
    rcases hg : getO l (d : Int) ((s : Int) + 1) with _ | a
    · rw [jn_none (by rw [h6.1, h6.2]; exact hg)]
    · have hg' : getO l (atOp m (stOf ys d + s)).dev (atOp m (stOf ys d + s)).seq = some a := by rw [h6.1, h6.2]; exact hg
      rw [jn_some hg']
      rw [okJ_some hg'] at hj
      have ha := same_yes hj
      show some _ = some (a.with (max a.undos (atOp m (stOf ys d + s)).undos))
      rw [Int.max_comm a.undos]
      generalize max (atOp m (stOf ys d + s)).undos a.undos = u
      rw [ha]
      rfl
  · have hx : (s : Int) < xs.getD d 0 := by omega
    have e2 : getO m (d : Int) ((s : Int) + 1) = none := get_none h2 (by omega)
    have e3 : getO l (d : Int) ((s : Int) + 1) = some (atOp l (stOf xs d + s)) := get_has h hd hx
    rw [mixF_miss _ fun j hj e => by
      have := cart_seq h2 hj e.1
      have := e.2
      omega, e3]
    unfold joinAt
    rw [e2, e3]
end Go.Proofs.Ytmceofdknphgkaa
