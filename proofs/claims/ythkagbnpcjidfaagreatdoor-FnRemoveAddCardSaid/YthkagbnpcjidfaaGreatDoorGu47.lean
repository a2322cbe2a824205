/- Walks and mathematics that several claims share, part 47. -/
import Derived.Test.YthkagbnpcjidfaaGreatDoorGu41
namespace Go.Proofs.YthkagbnpcjidfaaGreatDoor
open Go.RowKit
set_option linter.unusedVariables false
set_option linter.unusedSimpArgs false
theorem aGO {xs : List Int} {l : List aA} {dev kind : Int} {item : ByteArray} {qty : Int} (hc : aE xs l = true) (hd : 0 ≤ dev ∧ dev ≤ 3) (hm : eB kind item qty 0 0 = true) (hk : kind ≤ 5) : dI xs l dev kind item qty 0 0 = if (dL xs l dev.toNat kind item qty).1 = 0 then dL xs l dev.toNat kind item qty else ((dL xs l dev.toNat kind item qty).1, xs, l) := by
 have := T8 hm
 unfold dI
 rw [if_pos ⟨hc, xU hd.1 hd.2, hm⟩]
 have h2 : jE xs l dev.toNat kind item qty 0 0 = dL xs l dev.toNat kind item qty := by
  unfold jE; rw [if_neg (by omega), if_neg (by omega), if_neg (by omega), if_neg (by omega)]
 rw [h2]
theorem A1 {xs : List Int} {l : List aA} {dev kind : Int} {item : ByteArray} {qty : Int} (hc : aE xs l = true) (hd : 0 ≤ dev ∧ dev ≤ 3) (hm : eB kind item qty 0 0 = true) (hk : kind ≤ 5) (ho : (oneOf (aI item l l.length) (bN l item) kind item qty).2 = 0) :
  ((dI xs l dev kind item qty 0 0).1 = 4 ∨ (dI xs l dev kind item qty 0 0).1 = 0) := by
 rw [aGO hc hd hm hk]
 unfold dL
 dsimp only
 rw [if_pos ho]
 by_cases h : (aQ xs l dev.toNat (oneOf (aI item l l.length) (bN l item) kind item qty).1).ok = true
 ·rw [if_pos h, if_pos rfl]
  exact .inr rfl
 ·rw [if_neg h, if_neg (by decide)]
  exact .inl rfl
theorem xF {xs : List Int} {l : List aA} (hc : aE xs l = true) {x : ByteArray} (h : aI x l l.length % 2 = 1) : fJ x = true := by
 obtain ⟨i, hi, e, _⟩ := xD x l l.length (by intro e; rw [e] at h; exact absurd h (by decide))
 have hok : dM (l.getD i aA.zero).dev (l.getD i aA.zero).seq (l.getD i aA.zero).stamp (l.getD i aA.zero).kind (l.getD i aA.zero).item (l.getD i aA.zero).qty (l.getD i aA.zero).level (l.getD i aA.zero).undos = true := eU hc hi
 rw [e] at hok
 unfold dM rA at hok
 simp only [Bool.and_eq_true] at hok
 exact hok.1.2.2.2.1
theorem aGi {xs : List Int} {l : List aA} (hc : aE xs l = true) {dev : Int} (hd : 0 ≤ dev ∧ dev ≤ 3) {x : ByteArray} (hx : aI x l l.length % 2 = 1) (hs : (cG l x).saved = false) {a b : Int × List Int × List aA} (ha : dI xs l dev 4 x 0 0 0 = a) (hb : dI a.2.1 a.2.2 dev 5 x 0 0 0 = b) :
  (a.1 = 4 ∨ a.1 = 0) ∧ (a.1 = 0 → aE a.2.1 a.2.2 = true ∧ (b.1 = 4 ∨ b.1 = 0) ∧ (b.1 = 0 → aZ b.2.1 b.2.2 = aZ xs l) ∧ cF a.2.1 a.2.2 = cF xs l ∧ (∀ y, x ≠ y → cG a.2.2 y = cG l y) ∧ cG a.2.2 x = ⟨x, (cG l x).qty, true⟩) := by
 have hi := xF hc hx
 have hm4 : eB 4 x 0 0 0 = true := by unfold eB; rw [hi]; rfl
 have hm5 : eB 5 x 0 0 0 = true := by unfold eB; rw [hi]; rfl
 have eC : bN l x = false := hs
 have h4 := A1 (qty := 0) hc hd hm4 (by omega) (by rw [eC]; unfold oneOf; rw [if_neg (by decide), if_pos hx]; rfl)
 rw [ha] at h4
 refine ⟨h4, fun h0 => ?_⟩
 obtain ⟨_, _, _, _, ht⟩ := xH (by rw [ha]; exact h0) (show (4 : Int) ≤ 5 by omega)
 rw [ha] at ht
 have hca := ht.cart hc (by omega)
 obtain ⟨g1, g2, g3, g4⟩ := ht.item.2.2.2.1 rfl
 have gO : bN a.2.2 x = true := congrArg aS.saved g4
 have h5 := A1 (qty := 0) hca hd hm5 (by omega) (by rw [gO]; unfold oneOf; rw [if_neg (by decide), if_pos g2]; rfl)
 rw [hb] at h5
 have lJ := fun y (hy : x ≠ y) => ht.others hy
 refine ⟨hca, h5, fun h6 => ?_, ?_, fun y hy => (lJ y hy).2, g4⟩
 ·obtain ⟨_, _, _, _, hu⟩ := xH (by rw [hb]; exact h6) (show (5 : Int) ≤ 5 by omega)
  rw [hb] at hu; have hcb := hu.cart hca (by omega)
  obtain ⟨k1, k2, k3, k4⟩ := hu.item.2.2.2.2 rfl; refine aGH hc hcb (fun y => ?_) fun y hy => ?_
  ·by_cases e : x = y
   ·subst e
    exact ⟨fun _ => hx, fun _ => k2⟩
   ·rw [(hu.others e).1, (lJ y e).1]
  ·by_cases e : x = y
   ·subst e
    rw [k4, g4]
    show (⟨x, (cG l x).qty, false⟩ : aS) = cG l x
    rw [← hs]
    rfl
   ·rw [(hu.others e).2, (lJ y e).2]
 ·refine asc_one (pK _ _) (pK _ _) fun y => ?_
  rw [jF hca, jF hc]
  by_cases e : x = y
  ·subst e
   exact ⟨fun _ => hx, fun _ => g2⟩
  ·rw [(lJ y e).1]
def yB (o : aS) : Int := if o.saved = true then 0 else o.qty
theorem aA6 (L : List aS) : ∀ k, k ≤ L.length → lS L k = ((L.take k).map yB).sum
 | 0, _ => rfl
 | k + 1, h => by
  rw [lS, aA6 L k (by omega), List.take_succ_eq_append_getElem (by omega), List.map_append, List.sum_append]
  have e : L.getD k aS.zero = L[k] := by rw [List.getD_eq_getElem?_getD, List.getElem?_eq_getElem (by omega)]; rfl
  rw [e]; unfold yB; simp only [List.map_cons, List.map_nil, List.sum_cons, List.sum_nil]
  split <;> omega
theorem aEq {x : ByteArray} {f g : ByteArray → Int} (hfg : ∀ y, x ≠ y → f y = g y) : ∀ I : List ByteArray, I.Nodup → ((I.map f).sum = (I.map g).sum ∨ x ∈ I) ∧ (x ∈ I → (I.map f).sum = (I.map g).sum - g x + f x)
 | [], _ => ⟨.inl rfl, fun h => by cases h⟩
 | y :: I, h => by
  obtain ⟨h1, h2⟩ := List.nodup_cons.1 h; obtain ⟨i1, i2⟩ := aEq hfg I h2; rw [List.map_cons, List.map_cons, List.sum_cons, List.sum_cons]
  by_cases e : x = y
  ·subst e
   refine ⟨.inr (List.mem_cons_self ..), fun _ => ?_⟩
   have := i1.resolve_right h1; omega
  ·have hy := hfg y e
   refine ⟨?_, fun hm => ?_⟩
   ·rcases i1 with q | q
    ·exact .inl (by omega)
    ·exact .inr (List.mem_cons_of_mem _ q)
   ·have := i2 ((List.mem_cons.1 hm).resolve_left e)
    omega
theorem aHr {I : List ByteArray} (h : Asc I) : I.Nodup := by
 unfold Asc at h
 exact h.imp fun {a b} hab e => by
  subst e; rw [yH] at hab; cases hab
theorem aE1 {xs ys : List Int} {l m : List aA} {x : ByteArray} (he : cF ys m = cF xs l) (hx : x ∈ cF xs l) (ho : ∀ y, x ≠ y → cG m y = cG l y) (hm : cG m x = ⟨x, (cG l x).qty, true⟩) (hs : (cG l x).saved = false) : xX ys m = xX xs l - (cG l x).qty := by
 unfold xX
 rw [aA6 _ _ aPq, aA6 _ _ aPq, List.take_length, List.take_length]
 unfold aZ
 rw [he, List.map_map, List.map_map]
 have h := (aEq (x := x) (f := yB ∘ cG m) (g := yB ∘ cG l) (fun y hy => by show yB _ = yB _; rw [ho y hy]) (cF xs l) (aHr (pK xs l))).2 hx
 rw [h]
 have e1 : (yB ∘ cG m) x = 0 := by show yB (cG m x) = 0; rw [hm]; rfl
 have e2 : (yB ∘ cG l) x = (cG l x).qty := by show yB (cG l x) = _; unfold yB; rw [hs]; rfl
 rw [e1, e2]
 omega
theorem aE4 {xs : List Int} {l : List aA} (hc : aE xs l = true) {dev : Int} (hd : 0 ≤ dev ∧ dev ≤ 3) {x : ByteArray} (hx : aI x l l.length % 2 = 1) {q : Int} (hq : 1 ≤ q ∧ q ≤ 999) {a b : Int × List Int × List aA} (ha : dI xs l dev 3 x 0 0 0 = a) (hb : dI a.2.1 a.2.2 dev 1 x q 0 0 = b) :
  (a.1 = 4 ∨ a.1 = 0) ∧ (a.1 = 0 → (b.1 = 4 ∨ b.1 = 0) ∧ (b.1 = 0 → aE b.2.1 b.2.2 = true ∧ aI x b.2.2 b.2.2.length % 2 = 1 ∧ cG b.2.2 x = ⟨x, q, false⟩)) := by
 have hi := xF hc hx
 have hm3 : eB 3 x 0 0 0 = true := by unfold eB; rw [hi]; rfl
 have nQ : eB 1 x q 0 0 = true := by unfold eB; rw [hi, xU hq.1 hq.2]; rfl
 have h4 := A1 (qty := 0) hc hd hm3 (by omega) (by unfold oneOf; rw [if_neg (by decide), if_pos hx]; rfl)
 rw [ha] at h4
 refine ⟨h4, fun h0 => ?_⟩
 obtain ⟨_, _, _, _, ht⟩ := xH (by rw [ha]; exact h0) (show (3 : Int) ≤ 5 by omega)
 rw [ha] at ht
 have hca := ht.cart hc (by omega)
 obtain ⟨g1, g2⟩ := ht.item.2.2.1 rfl
 have h5 := A1 (qty := q) hca hd nQ (by omega) (by unfold oneOf; rw [if_pos rfl, if_neg g2])
 rw [hb] at h5
 refine ⟨h5, fun h6 => ?_⟩
 obtain ⟨_, _, _, _, hu⟩ := xH (by rw [hb]; exact h6) (show (1 : Int) ≤ 5 by omega)
 rw [hb] at hu
 obtain ⟨k1, k2, k3⟩ := hu.item.1 rfl
 exact ⟨hu.cart hca (by omega), k2, k3⟩
end Go.Proofs.YthkagbnpcjidfaaGreatDoor
