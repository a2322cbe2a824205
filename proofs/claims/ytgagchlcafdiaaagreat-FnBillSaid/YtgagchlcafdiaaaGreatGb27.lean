/- Walks and mathematics that several claims share, part 27. -/
import Derived.Test.YtgagchlcafdiaaaGreatGb26
import Derived.Test.YtgagchlcafdiaaaGreatGb14
import Derived.Test.YtgagchlcafdiaaaGreatGb13
import Derived.Maps.OwnSet
import Derived.DeepKeys4
import Derived.Lib.MinMax
import Derived.Deep.Cut
import Derived.Deep.RegionHeld3
import Derived.Test.YtgagchlcafdiaaaGreatGbA
namespace Go.Proofs.YtgagchlcafdiaaaGreat
set_option maxRecDepth 100000
open Go.RowKit
set_option linter.unusedVariables false
set_option linter.unusedSimpArgs false
open Go.Maps (Keyed)

def putF (f : Int → Int → Option OpV) (x : OpV) : Int → Int → Option OpV := fun d s => if d = x.dev ∧ s = x.seq then some x else f d s
def OpV.with (o : OpV) (u : Int) : OpV := ⟨o.dev, o.seq, o.stamp, o.kind, o.item, o.qty, o.level, u⟩
/-- The same but for how often they were undone. -/
def sameB (a b : OpV) : Bool := a.dev == b.dev && (a.seq == b.seq && (a.stamp == b.stamp && (a.kind == b.kind && (a.item.toList == b.item.toList && (a.qty == b.qty && a.level == b.level)))))
theorem text_same {a b : ByteArray} (h : a.toList = b.toList) : a = b := by
 rw [Lib.toList_data, Lib.toList_data] at h
 exact ByteArray.ext (Array.toList_inj.1 h)
theorem same_yes {a b : OpV} (h : sameB a b = true) : b = a.with b.undos := by
 obtain ⟨a0, a1, a2, a3, a4, a5, a6, a7⟩ := a
 obtain ⟨b0, b1, b2, b3, b4, b5, b6, b7⟩ := b
 unfold sameB at h
 simp only [Bool.and_eq_true, beq_iff_eq] at h
 obtain ⟨h0, h1, h2, h3, h4, h5, h6⟩ := h
 have h4 := text_same h4
 subst h0 h1 h2 h3 h4 h5 h6
 rfl
theorem same_with (a : OpV) (u : Int) : sameB a (a.with u) = true := by
 unfold sameB OpV.with
 simp
set_option linter.unusedSimpArgs false in
set_option maxHeartbeats 20000000 in
theorem l4Same (a b : OpV) (w : World) : Calls Tryz.prog 106 #[.agg #[.int .i64 a.dev, .int .i64 a.seq, .int .i64 a.stamp, .int .i64 a.kind, .string a.item, .int .i64 a.qty, .int .i64 a.level, .int .i64 a.undos], .agg #[.int .i64 b.dev, .int .i64 b.seq, .int .i64 b.stamp, .int .i64 b.kind, .string b.item, .int .i64 b.qty, .int .i64 b.level, .int .i64 b.undos]] w fun e w' => e = .returned (.bool (sameB a b)) ∧ Below w.heap.size w w' := by
 have HS : Hid (sameB a b = (a.dev == b.dev && (a.seq == b.seq && (a.stamp == b.stamp && (a.kind == b.kind && (a.item.toList == b.item.toList && (a.qty == b.qty && a.level == b.level))))))) := rfl
 go_enter Tryz.func106, Tryz.ntmps106
 go_wp2
 all_goals
  go_ret
  refine ⟨?_, ((Below.refl _ w).alloc (Nat.le_refl _) _).alloc (by simp) _⟩
  rw [HS.out]
  simp_all
theorem cell_of_block {w w' : World} {b i : Nat} (h : w'.heap[b]? = w.heap[b]?) : w'.cell? ⟨b, i, none⟩ = w.cell? ⟨b, i, none⟩ := by unfold World.cell?; rw [h]
/-- What the first k operations of a list lay under each name. -/
def setF (l : List OpV) : Nat → Int → Int → Option OpV
 | 0 => fun _ _ => none
 | k + 1 => putF (setF l k) (atOp l k)

theorem setF_hit {m : List OpV} (h : incB m = true) : ∀ k, k ≤ m.length → ∀ i, i < k → setF m k (atOp m i).dev (atOp m i).seq = some (atOp m i)
 | 0, _, i, hi => absurd hi (Nat.not_lt_zero _)
 | k + 1, hk, i, hi => by
  show putF (setF m k) (atOp m k) _ _ = _
  unfold putF
  by_cases e : (atOp m i).dev = (atOp m k).dev ∧ (atOp m i).seq = (atOp m k).seq
  ·rw [if_pos e]
   have := inc_uniq h (i := i) (j := k) (by omega) (by omega) (dev := (atOp m k).dev) (seq := (atOp m k).seq) e ⟨rfl, rfl⟩
   rw [this]
  ·rw [if_neg e]
   have hik : i ≠ k := fun e2 => e (by rw [e2]; exact ⟨rfl, rfl⟩)
   exact setF_hit h k (by omega) i (by omega)
theorem setF_miss {m : List OpV} {d s : Int} : ∀ k, (∀ j, j < k → ¬ eqN m j d s) → setF m k d s = none
 | 0, _ => rfl
 | k + 1, h => by
  show putF (setF m k) (atOp m k) _ _ = _
  unfold putF
  rw [if_neg (fun e => h k (by omega) ⟨e.1.symm, e.2.symm⟩)]
  exact setF_miss k fun j hj => h j (by omega)
theorem setF_some {m : List OpV} {d s : Int} {x : OpV} : ∀ k, setF m k d s = some x → ∃ i, i < k ∧ eqN m i d s ∧ atOp m i = x
 | 0, h => by cases h
 | k + 1, h => by
  have h' : putF (setF m k) (atOp m k) d s = some x := h
  unfold putF at h'
  by_cases e : d = (atOp m k).dev ∧ s = (atOp m k).seq
  ·rw [if_pos e] at h'
   injection h' with h'
   exact ⟨k, by omega, ⟨e.1.symm, e.2.symm⟩, h'⟩
  ·rw [if_neg e] at h'
   obtain ⟨i, hi, r⟩ := setF_some k h'
   exact ⟨i, by omega, r⟩
theorem op_fit {o : OpV} (h : o.ok = true) : 0 ≤ o.dev ∧ o.dev ≤ 3 ∧ 0 ≤ o.seq ∧ o.seq ≤ 40 ∧ 0 ≤ o.undos ∧ o.undos ≤ 50 := by
 have h' : opB o.dev o.seq o.stamp o.kind o.item o.qty o.level o.undos = true := h
 unfold opB headB at h'
 simp only [Bool.and_eq_true, inB_iff] at h'
 obtain ⟨⟨h1, h2, _, _, h5⟩, _⟩ := h'
 omega
theorem cart_has {ys : List Int} {m : List OpV} (h : cartB ys m = true) {d : Nat} (hd : d < 4) {s : Nat} (hs : (s : Int) < ys.getD d 0) : stOf ys d + s < m.length ∧ eqN m (stOf ys d + s) (d : Int) ((s : Int) + 1) := by
 obtain ⟨_, hdv, h4⟩ := cart_true h
 have hD := hdv d hd
 unfold devB at hD
 rw [Bool.and_eq_true] at hD
 have hR := hD.2
 unfold runB at hR
 rw [List.all_eq_true] at hR
 have hF := hR s (List.mem_range.2 (by omega))
 unfold fitB at hF
 simp only [Bool.and_eq_true, decide_eq_true_eq] at hF
 have hm := stOf_mono ys (d + 1) 4 (by omega)
 have e : stOf ys (d + 1) = stOf ys d + (ys.getD d 0).toNat := rfl
 exact ⟨by omega, hF.2.1, hF.2.2.1⟩
theorem cart_seq {ys : List Int} {m : List OpV} (h : cartB ys m = true) {j : Nat} (hj : j < m.length) {d : Nat} (e : (atOp m j).dev = (d : Int)) : 1 ≤ (atOp m j).seq ∧ (atOp m j).seq ≤ ys.getD d 0 := by
 obtain ⟨d', _, h1, h2, _, h3, h4⟩ := cart_at h hj
 have hdd : d' = d := by omega
 subst hdd
 have e : stOf ys (d' + 1) = stOf ys d' + (ys.getD d' 0).toNat := rfl
 omega
theorem get_has {ys : List Int} {m : List OpV} (h : cartB ys m = true) {d : Nat} (hd : d < 4) {s : Nat} (hs : (s : Int) < ys.getD d 0) : setF m m.length (d : Int) ((s : Int) + 1) = some (atOp m (stOf ys d + s)) := by
 obtain ⟨h1, h2, h3⟩ := cart_has h hd hs
 have := setF_hit (cart_inc h) m.length (Nat.le_refl _) _ h1
 rw [h2, h3] at this
 exact this
theorem get_none {ys : List Int} {m : List OpV} (h : cartB ys m = true) {d : Nat} {s : Int} (hs : ys.getD d 0 < s) : setF m m.length (d : Int) s = none :=
 setF_miss _ fun j hj e => by
  have := cart_seq h hj e.1
  have := e.2
  omega
def getO (l : List OpV) (d s : Int) : Option OpV := setF l l.length d s
def joinAt (l m : List OpV) (d s : Int) : OpV := match getO l d s, getO m d s with
 | some a, some b => a.with (max a.undos b.undos)
 | some a, none => a
 | none, some b => b
 | none, none => OpV.zero
/-- What is listed up to number s of device d, by a vector. -/
def listP (zs : List Int) (F : Nat → Nat → OpV) (d s : Nat) : List OpV := ((List.range d).flatMap fun e => (List.range (zs.getD e 0).toNat).map fun i => F e i) ++ (List.range s).map fun i => F d i
theorem listP_step (zs : List Int) (F : Nat → Nat → OpV) (d s : Nat) : listP zs F d (s + 1) = listP zs F d s ++ [F d s] := by
 unfold listP
 rw [List.range_succ, List.map_append, ← List.append_assoc]
 rfl
theorem listP_next (zs : List Int) (F : Nat → Nat → OpV) (d : Nat) : listP zs F (d + 1) 0 = listP zs F d (zs.getD d 0).toNat := by
 unfold listP
 rw [List.range_succ, List.flatMap_append]
 simp
theorem listP_len (zs : List Int) (F : Nat → Nat → OpV) : ∀ d s, (listP zs F d s).length = stOf zs d + s
 | 0, s => by simp [listP, stOf]
 | d + 1, 0 => by
  rw [listP_next, listP_len zs F d]
  rfl
 | d + 1, s + 1 => by
  rw [listP_step, List.length_append, listP_len zs F (d + 1) s]
  rfl
theorem listP_pre (zs : List Int) (F : Nat → Nat → OpV) (d : Nat) : ∀ k s, s ≤ s + k → ∃ r, listP zs F d (s + k) = listP zs F d s ++ r
 | 0, s, _ => ⟨[], by simp⟩
 | k + 1, s, _ => by
  obtain ⟨r, h⟩ := listP_pre zs F d k s (by omega)
  exact ⟨r ++ [F d (s + k)], by rw [← Nat.add_assoc, listP_step, h, List.append_assoc]⟩
theorem listP_far (zs : List Int) (F : Nat → Nat → OpV) (d : Nat) : ∀ k, ∃ r, listP zs F (d + k) 0 = listP zs F d 0 ++ r
 | 0 => ⟨[], by simp⟩
 | k + 1 => by
  obtain ⟨r, h⟩ := listP_far zs F d k
  obtain ⟨r2, h2⟩ := listP_pre zs F (d + k) (zs.getD (d + k) 0).toNat 0 (by omega)
  refine ⟨r ++ r2, ?_⟩
  rw [← Nat.add_assoc, listP_next, ← List.append_assoc, ← h]
  simpa using h2
theorem listP_at (zs : List Int) (F : Nat → Nat → OpV) {d s : Nat} (hd : d < 4) (hs : s < (zs.getD d 0).toNat) : atOp (listP zs F 4 0) (stOf zs d + s) = F d s := by
 obtain ⟨r, h⟩ := listP_far zs F (d + 1) (3 - d)
 have e4 : d + 1 + (3 - d) = 4 := by omega
 rw [e4, listP_next zs F d] at h
 obtain ⟨r2, h2⟩ := listP_pre zs F d ((zs.getD d 0).toNat - (s + 1)) (s + 1) (by omega)
 have e5 : s + 1 + ((zs.getD d 0).toNat - (s + 1)) = (zs.getD d 0).toNat := by omega
 rw [e5, listP_step zs F d s] at h2
 rw [h2] at h
 have hl := listP_len zs F d s
 unfold atOp
 rw [h, List.getD_eq_getElem?_getD, List.append_assoc, List.append_assoc, List.getElem?_append_right (by omega), hl]
 simp
def mergeF (l m : List OpV) : Nat → Nat → OpV := fun d s => joinAt l m (d : Int) ((s : Int) + 1)
def mergeL (zs : List Int) (l m : List OpV) : List OpV := listP zs (mergeF l m) 4 0
/-- Does the operation fit what the list has under its name? -/
def okJ (l : List OpV) (x : OpV) : Bool := match getO l x.dev x.seq with
 | none => true
 | some y => sameB x y
def okM (l m : List OpV) : Bool := (List.range m.length).all fun i => okJ l (atOp m i)
theorem okM_stop {l m : List OpV} {k : Nat} (hk : k < m.length) (h : okJ l (atOp m k) = false) : okM l m = false := by
 unfold okM
 rw [List.all_eq_false]
 exact ⟨k, List.mem_range.2 hk, by rw [h]; simp⟩
theorem okM_at {l m : List OpV} (h : okM l m = true) {k : Nat} (hk : k < m.length) : okJ l (atOp m k) = true := by
 unfold okM at h
 rw [List.all_eq_true] at h
 exact h k (List.mem_range.2 hk)
theorem okM_end {l m : List OpV} (h : ∀ i, i < m.length → okJ l (atOp m i) = true) : okM l m = true := by
 unfold okM
 rw [List.all_eq_true]
 exact fun i hi => h i (List.mem_range.1 hi)
theorem okJ_none {l : List OpV} {x : OpV} (h : getO l x.dev x.seq = none) : okJ l x = true := by unfold okJ; rw [h]
theorem okJ_some {l : List OpV} {x y : OpV} (h : getO l x.dev x.seq = some y) : okJ l x = sameB x y := by unfold okJ; rw [h]
def mergedB (xs : List Int) (l : List OpV) (ys : List Int) (m : List OpV) : Bool := cartB xs l && (cartB ys m && okM l m)
theorem mergedB_1 {xs : List Int} {l : List OpV} {ys : List Int} {m : List OpV} (h : cartB xs l = false) : mergedB xs l ys m = false := by unfold mergedB; rw [h]; rfl
theorem mergedB_2 {xs : List Int} {l : List OpV} {ys : List Int} {m : List OpV} (h : cartB ys m = false) : mergedB xs l ys m = false := by unfold mergedB; rw [h]; simp
theorem mergedB_3 {xs : List Int} {l : List OpV} {ys : List Int} {m : List OpV} (h : cartB xs l = true) (h2 : cartB ys m = true) : mergedB xs l ys m = okM l m := by unfold mergedB; rw [h, h2]; rfl
theorem ok_with {a : OpV} (h : a.ok = true) {u : Int} (h0 : 0 ≤ u) (h1 : u ≤ 50) : (a.with u).ok = true := by
 have h' : opB a.dev a.seq a.stamp a.kind a.item a.qty a.level a.undos = true := h
 show opB a.dev a.seq a.stamp a.kind a.item a.qty a.level u = true
 unfold opB headB at h' ⊢
 simp only [Bool.and_eq_true, inB_iff] at h' ⊢
 obtain ⟨⟨a1, a2, a3, a4, _⟩, a6⟩ := h'
 exact ⟨⟨a1, a2, a3, a4, h0, h1⟩, a6⟩
theorem cart_fitB {xs : List Int} {l : List OpV} (h : cartB xs l = true) {d : Nat} (hd : d < 4) {s : Nat} (hs : (s : Int) < xs.getD d 0) : fitB l d (stOf xs d) s = true := by
 have hD := (cart_true h).2.1 d hd
 unfold devB at hD
 rw [Bool.and_eq_true] at hD
 have hR := hD.2
 unfold runB at hR
 rw [List.all_eq_true] at hR
 exact hR s (List.mem_range.2 (by omega))
theorem fit_parts {l : List OpV} {d st s : Nat} (h : fitB l d st s = true) : (atOp l (st + s)).ok = true ∧ (atOp l (st + s)).dev = (d : Int) ∧ (atOp l (st + s)).seq = (s : Int) + 1 ∧ prevStamp l st s < (atOp l (st + s)).stamp := by
 unfold fitB at h
 simpa only [Bool.and_eq_true, decide_eq_true_eq] using h
theorem merge_at {xs : List Int} {l : List OpV} {ys : List Int} {m : List OpV} (h : cartB xs l = true) (h2 : cartB ys m = true) (ho : okM l m = true) {d : Nat} (hd : d < 4) {s : Nat} (hs : (s : Int) < max (xs.getD d 0) (ys.getD d 0)) :
  (mergeF l m d s).ok = true ∧ (mergeF l m d s).dev = (d : Int) ∧ (mergeF l m d s).seq = (s : Int) + 1 ∧ ((s : Int) < xs.getD d 0 → (mergeF l m d s).stamp = (atOp l (stOf xs d + s)).stamp) ∧ ((s : Int) < ys.getD d 0 → (mergeF l m d s).stamp = (atOp m (stOf ys d + s)).stamp) := by
 show (joinAt l m _ _).ok = true ∧ (joinAt l m _ _).dev = _ ∧ (joinAt l m _ _).seq = _ ∧ (_ → (joinAt l m _ _).stamp = _) ∧ (_ → (joinAt l m _ _).stamp = _)
 unfold joinAt
 by_cases hx : (s : Int) < xs.getD d 0
 ·have e1 : getO l (d : Int) ((s : Int) + 1) = some (atOp l (stOf xs d + s)) := get_has h hd hx
  obtain ⟨a1, a2, a3, _⟩ := fit_parts (cart_fitB h hd hx)
  rw [e1]
  by_cases hy : (s : Int) < ys.getD d 0
  ·have e2 : getO m (d : Int) ((s : Int) + 1) = some (atOp m (stOf ys d + s)) := get_has h2 hd hy
   obtain ⟨b1, b2, b3, _⟩ := fit_parts (cart_fitB h2 hd hy)
   obtain ⟨h5, h6⟩ := cart_has h2 hd hy
   have hj := okM_at ho h5
   rw [okJ_some (by rw [h6.1, h6.2]; exact e1)] at hj
   have ha := same_yes hj
   have u1 := op_fit a1
   have u2 := op_fit b1
   rw [e2]
   refine ⟨ok_with a1 (by omega) (by omega), a2, a3, fun _ => rfl, fun _ => ?_⟩
   show (atOp l (stOf xs d + s)).stamp = _
   rw [ha]
   rfl
  ·have e2 : getO m (d : Int) ((s : Int) + 1) = none := get_none h2 (by omega)
   rw [e2]
   exact ⟨a1, a2, a3, fun _ => rfl, fun h => absurd h hy⟩
 ·have hy : (s : Int) < ys.getD d 0 := by omega
  have e1 : getO l (d : Int) ((s : Int) + 1) = none := get_none h (by omega)
  have e2 : getO m (d : Int) ((s : Int) + 1) = some (atOp m (stOf ys d + s)) := get_has h2 hd hy
  obtain ⟨b1, b2, b3, _⟩ := fit_parts (cart_fitB h2 hd hy)
  rw [e1, e2]
  exact ⟨b1, b2, b3, fun h => absurd h hx, fun _ => rfl⟩
def maxV (xs ys : List Int) : List Int := List.zipWith max xs ys
theorem maxV_at {xs ys : List Int} (h : xs.length = 4) (h2 : ys.length = 4) {d : Nat} (hd : d < 4) : (maxV xs ys).getD d 0 = max (xs.getD d 0) (ys.getD d 0) := by
 unfold maxV
 rw [List.getD_eq_getElem?_getD, List.getD_eq_getElem?_getD, List.getD_eq_getElem?_getD, List.getElem?_zipWith, List.getElem?_eq_getElem (by omega), List.getElem?_eq_getElem (by omega)]
 rfl
theorem maxV_ok {xs ys : List Int} (h : vecOk xs = true) (h2 : vecOk ys = true) : vecOk (maxV xs ys) = true := by
 have l1 := (vec_at h (d := 0) (by omega)).2.2
 have l2 := (vec_at h2 (d := 0) (by omega)).2.2
 have l3 : (maxV xs ys).length = 4 := by unfold maxV; rw [List.length_zipWith]; omega
 unfold vecOk
 rw [Bool.and_eq_true]
 refine ⟨?_, decide_eq_true l3⟩
 rw [List.all_eq_true]
 intro x hx
 obtain ⟨i, hi, e⟩ := List.mem_iff_getElem.1 hx
 have hi4 : i < 4 := by omega
 have e2 : (maxV xs ys).getD i 0 = x := by rw [List.getD_eq_getElem?_getD, List.getElem?_eq_getElem hi]; exact e
 rw [maxV_at l1 l2 hi4] at e2
 have g1 := vec_at h hi4
 have g2 := vec_at h2 hi4
 rw [← e2]
 unfold inV
 rw [Bool.and_eq_true]
 exact ⟨decide_eq_true (by omega), decide_eq_true (by omega)⟩
theorem cart_merged {xs : List Int} {l : List OpV} {ys : List Int} {m : List OpV} (h : cartB xs l = true) (h2 : cartB ys m = true) (ho : okM l m = true) : cartB (maxV xs ys) (mergeL (maxV xs ys) l m) = true := by
 have v1 := (cart_true h).1
 have v2 := (cart_true h2).1
 have l1 := (vec_at v1 (d := 0) (by omega)).2.2
 have l2 := (vec_at v2 (d := 0) (by omega)).2.2
 have hlen : (mergeL (maxV xs ys) l m).length = stOf (maxV xs ys) 4 := listP_len _ _ 4 0
 rw [cart_end (maxV_ok v1 v2) fun d hd => ?_]
 ·exact decide_eq_true hlen.symm
 ·have hm := stOf_mono (maxV xs ys) (d + 1) 4 (by omega)
  unfold devB
  rw [Bool.and_eq_true]
  refine ⟨decide_eq_true (by omega), ?_⟩
  unfold runB
  rw [List.all_eq_true]
  intro s hs
  have hs := List.mem_range.1 hs
  have hz := maxV_at l1 l2 hd
  have hsi : (s : Int) < max (xs.getD d 0) (ys.getD d 0) := by rw [← hz]; omega
  have ea : atOp (mergeL (maxV xs ys) l m) (stOf (maxV xs ys) d + s) = mergeF l m d s := listP_at _ _ hd hs
  obtain ⟨m1, m2, m3, m4, m5⟩ := merge_at h h2 ho hd hsi
  refine fit_yes (by rw [ea]; exact m1) (by rw [ea]; exact m2) (by rw [ea]; exact m3) ?_
  rw [ea]
  cases s with
  | zero =>
   have e0 : ∀ L st, prevStamp L st 0 = 0 := fun _ _ => rfl
   rw [e0]
   by_cases hx : ((0 : Nat) : Int) < xs.getD d 0
   ·rw [m4 hx]
    have := (fit_parts (cart_fitB h hd hx)).2.2.2
    rw [e0] at this
    exact this
   ·have hy : ((0 : Nat) : Int) < ys.getD d 0 := by omega
    rw [m5 hy]
    have := (fit_parts (cart_fitB h2 hd hy)).2.2.2
    rw [e0] at this
    exact this
  | succ t =>
   rw [prev_step]
   have eb : atOp (mergeL (maxV xs ys) l m) (stOf (maxV xs ys) d + t) = mergeF l m d t := listP_at _ _ hd (by omega)
   rw [eb]
   obtain ⟨_, _, _, n4, n5⟩ := merge_at h h2 ho hd (s := t) (by omega)
   by_cases hx : ((t + 1 : Nat) : Int) < xs.getD d 0
   ·rw [m4 hx, n4 (by omega)]
    have := (fit_parts (cart_fitB h hd hx)).2.2.2
    rw [prev_step] at this
    exact this
   ·have hy : ((t + 1 : Nat) : Int) < ys.getD d 0 := by omega
    rw [m5 hy, n5 (by omega)]
    have := (fit_parts (cart_fitB h2 hd hy)).2.2.2
    rw [prev_step] at this
    exact this
theorem merge_items {l m : List OpV} {N : Nat} (hl : ∀ i, i < l.length → (atOp l i).item.size ≤ N) (hm : ∀ i, i < m.length → (atOp m i).item.size ≤ N) (d s : Nat) : (mergeF l m d s).item.size ≤ N := by
 show (joinAt l m _ _).item.size ≤ N
 unfold joinAt
 rcases e1 : getO l (d : Int) ((s : Int) + 1) with _ | a
 ·rcases e2 : getO m (d : Int) ((s : Int) + 1) with _ | b
  ·exact Nat.zero_le _
  ·obtain ⟨i, hi, _, e⟩ := setF_some _ e2
   show b.item.size ≤ N
   rw [← e]
   exact hm i hi
 ·obtain ⟨i, hi, _, e⟩ := setF_some _ e1
  rcases e2 : getO m (d : Int) ((s : Int) + 1) with _ | b
  ·show a.item.size ≤ N
   rw [← e]
   exact hl i hi
  ·show a.item.size ≤ N
   rw [← e]
   exact hl i hi
end Go.Proofs.YtgagchlcafdiaaaGreat
