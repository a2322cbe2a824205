/- Walks and mathematics that several claims share, part 29. -/
import Derived.Test.YtdbdmfaphdjdpaaGt27
import Derived.Test.YtdbdmfaphdjdpaaGt28
import Derived.Test.YtdbdmfaphdjdpaaGt26
import Derived.Test.YtdbdmfaphdjdpaaGtA
namespace Go.Proofs.Ytdbdmfaphdjdpaa
open Go.RowKit

theorem cart_part {xs : List Int} {l : List OpV} (h : cartB xs l = true) : partB xs l = true := by
 refine (part_all (cart_split h).1 fun i hi => ?_).trans (cart_inc h)
 obtain ⟨d, k, h1, h2, _, h3, h4, h5⟩ := cart_atV h hi
 unfold okAt
 rw [Bool.and_eq_true]
 refine ⟨h3, decide_eq_true ?_⟩
 rw [h4, h5, Int.toNat_natCast]
 omega
theorem tak_get {zs : List Int} {l m U : List OpV} (hc : cartB zs U = true) (hU : UO l m U) {d s : Nat} (hd : d < 4) (hs : (s : Int) < zs.getD d 0) : getO U (d : Int) ((s : Int) + 1) = some (joinAt l m (d : Int) ((s : Int) + 1)) := by
 have h1 : getO U (d : Int) ((s : Int) + 1) = some (atOp U (stOf zs d + s)) := get_has hc hd hs
 obtain ⟨h2, h3, h4⟩ := getO_mem (l := U) h1
 have h5 := (hU.val _ h2).1
 rw [h3, h4] at h5
 rw [h1, h5]
theorem tak_facts {xs ys : List Int} {l m : List OpV} (h : takB xs l ys m = true) : ∃ U, takOs l m true = U ∧ UO l m U ∧ cartB xs l = true ∧ partB ys m = true ∧ cartB (maxV xs ys) U = true := by
 obtain ⟨h1, h2, U, h3, h4⟩ := tak_parts h
 refine ⟨U, ?_, union_some (cart_inc h1) (part_split h2).2.2 h3, h1, h2, h4⟩
 unfold takOs
 rw [if_pos rfl, h3]
 rfl
theorem in_taken {xs ys : List Int} {l m U : List OpV} (h1 : cartB xs l = true) (hy : vecOk ys = true) (hc : cartB (maxV xs ys) U = true) (hU : UO l m U) : inCart xs l (maxV xs ys) U = true := by
 have l1 := (vec_at (cart_true h1).1 (d := 0) (by omega)).2.2
 have l2 := (vec_at hy (d := 0) (by omega)).2.2
 rw [inCart_3 h1 hc]
 refine allW_end fun i hi => ?_
 obtain ⟨d, hd, a1, a2, _, a3, a4⟩ := cart_at h1 hi
 have e : stOf xs (d + 1) = stOf xs d + (xs.getD d 0).toNat := rfl
 have hs : ((i - stOf xs d : Nat) : Int) < xs.getD d 0 := by omega
 have hg : getO l (d : Int) (((i - stOf xs d : Nat) : Int) + 1) = some (atOp l i) := by
  have := get_has h1 hd hs
  rw [show stOf xs d + (i - stOf xs d) = i by omega] at this
  exact this
 have hm := tak_get hc hU hd (s := i - stOf xs d) (by rw [maxV_at l1 l2 hd]; omega)
 have hx : setF U U.length (atOp l i).dev (atOp l i).seq = some (joinAt l m (d : Int) (((i - stOf xs d : Nat) : Int) + 1)) := by rw [a3, a4]; exact hm
 rw [okW_some hx]
 rcases hq : getO m (d : Int) (((i - stOf xs d : Nat) : Int) + 1) with _ | b
 ·rw [joinAt_l hg hq, same_refl, decide_eq_true (Int.le_refl _)]
  rfl
 ·rw [joinAt_b hg hq]
  show (sameB (atOp l i) ((atOp l i).with (max (atOp l i).undos b.undos)) && decide ((atOp l i).undos ≤ max (atOp l i).undos b.undos)) = true
  rw [same_with, decide_eq_true (by omega)]
  rfl
theorem with_own (a : OpV) : a.with a.undos = a := rfl
/-- A part that is taken again changes nothing. -/
theorem tak_again {xs ys : List Int} {l m U : List OpV} (h1 : cartB xs l = true) (h2 : partB ys m = true) (hc : cartB (maxV xs ys) U = true) (hU : UO l m U) : maxV (maxV xs ys) ys = maxV xs ys ∧ takB (maxV xs ys) U ys m = true ∧ takOs U m true = U := by
 have vy := (part_split h2).1
 have vx := (cart_true h1).1
 have vz := maxV_ok vx vy
 have l1 := (vec_at vx (d := 0) (by omega)).2.2
 have l2 := (vec_at vy (d := 0) (by omega)).2.2
 have e : maxV (maxV xs ys) ys = maxV xs ys := by
  rw [maxV_symm (maxV xs ys) ys]
  refine maxV_eq vy vz fun d hd => ?_
  rw [maxV_at l1 l2 hd]
  omega
 have hget : ∀ d s : Nat, d < 4 → (s : Int) < (maxV xs ys).getD d 0 → getO U (d : Int) ((s : Int) + 1) = some (joinAt l m (d : Int) ((s : Int) + 1)) := fun d s hd hs => tak_get hc hU hd hs
 have hal := tak_all (xs := maxV xs ys) (ys := ys) (l := U) (m := m) (by
  intro d s hd hs
  rw [e] at hs
  rw [hget d s hd hs]
  exact .inl rfl) (by
  intro d s hd hs a b ha hb
  rw [e] at hs
  rw [hget d s hd hs] at ha
  injection ha with ha
  cases hl : getO l (d : Int) ((s : Int) + 1) with
  | none =>
   rw [joinAt_m hl hb] at ha
   rw [← ha]
   exact same_refl b
  | some c =>
   rw [joinAt_b hl hb] at ha
   rw [← ha, same_yes (hU.agr _ _ _ _ hl hb)]
   exact same_with (c.with _) _) hc h2
 have hself : mergeL (maxV xs ys) U m = U := by
  refine listP_self hc fun d s hd hs => ?_
  have g1 : getO U (d : Int) ((s : Int) + 1) = some (atOp U (stOf (maxV xs ys) d + s)) := get_has hc hd hs
  have g2 := hget d s hd hs
  rw [g1] at g2
  injection g2 with g2
  show joinAt U m _ _ = _
  generalize atOp U (stOf (maxV xs ys) d + s) = x at g1 g2 ⊢
  cases hb : getO m (d : Int) ((s : Int) + 1) with
  | none => rw [joinAt_l g1 hb]
  | some b =>
   rw [joinAt_b g1 hb]
   have hle : b.undos ≤ x.undos := by
    cases hl : getO l (d : Int) ((s : Int) + 1) with
    | none => rw [joinAt_m hl hb] at g2; rw [g2]; omega
    | some c =>
     rw [joinAt_b hl hb] at g2
     rw [g2]
     show b.undos ≤ max c.undos b.undos
     omega
   rw [Int.max_eq_left hle, with_own]
 rw [e, hself] at hal
 exact ⟨e, hal.1.trans hc, hal.2⟩
/-- A cart that has all of another one, taken as a part. -/
theorem tak_whole {xs zs : List Int} {l U : List OpV} (h : inCart xs l zs U = true) : mergedB xs l zs U = true ∧ maxV xs zs = zs ∧ mergeL zs l U = U ∧ takB xs l zs U = true ∧ takOs l U true = U := by
 obtain ⟨m1, m2, m3⟩ := merged_in h
 obtain ⟨h1, h2, _⟩ := inCart_parts h
 have hal := tak_all (xs := xs) (ys := zs) (l := l) (m := U) (by
  intro d s hd hs
  rw [m2] at hs
  have g1 : getO U (d : Int) ((s : Int) + 1) = some (atOp U (stOf zs d + s)) := get_has h2 hd hs
  rw [g1]
  exact .inr rfl) (by
  intro d s hd hs a b ha hb
  rw [fit_same m1 hd ha hb]
  exact same_with a _) h1 (cart_part h2)
 rw [m2, m3] at hal
 exact ⟨m1, m2, m3, hal.1.trans h2, hal.2⟩
theorem taken_law {xs ys : List Int} {l m : List OpV} (h : takB xs l ys m = true) {vs : List Int} {os : List OpV} (hv : takVs xs ys true = vs) (ho : takOs l m true = os) :
  cartB xs l = true ∧ partB ys m = true ∧ cartB vs os = true ∧ inCart xs l vs os = true ∧ takB vs os ys m = true ∧ takVs vs ys true = vs ∧ takOs os m true = os ∧ takB xs l vs os = true ∧ takVs xs vs true = vs ∧ takOs l os true = os ∧ mergedB xs l vs os = true ∧ mergedV xs vs true = vs ∧ mergedO xs vs l os true = os := by
 obtain ⟨U, hU0, hU, h1, h2, h3⟩ := tak_facts h
 have ev : maxV xs ys = vs := hv
 have eU : U = os := hU0.symm.trans ho
 subst eU
 have vy := (part_split h2).1
 have hin := in_taken h1 vy h3 hU
 obtain ⟨a1, a2, a3⟩ := tak_again h1 h2 h3 hU
 rw [ev] at h3 hin a1 a2
 obtain ⟨b1, b2, b3, b4, b5⟩ := tak_whole hin
 refine ⟨h1, h2, h3, hin, a2, a1, a3, b4, b2, b5, b1, b2, ?_⟩
 show mergeL (maxV xs vs) l U = U
 rw [b2, b3]
end Go.Proofs.Ytdbdmfaphdjdpaa
