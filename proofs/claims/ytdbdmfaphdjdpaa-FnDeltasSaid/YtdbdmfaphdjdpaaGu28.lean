/- Walks and mathematics that several claims share, part 28. -/
import Derived.Test.YtdbdmfaphdjdpaaGu23
import Derived.Test.YtdbdmfaphdjdpaaGu26
import Derived.Test.YtdbdmfaphdjdpaaGu18
import Derived.Test.YtdbdmfaphdjdpaaGu16
import Derived.Test.YtdbdmfaphdjdpaaGu21
import Derived.Test.YtdbdmfaphdjdpaaGu25
import Derived.Test.YtdbdmfaphdjdpaaGu27
import Derived.Deep.Cut
import Derived.Deep.RegionHeld3
import Derived.Test.YtdbdmfaphdjdpaaGuA
namespace Go.Proofs.Ytdbdmfaphdjdpaa
set_option maxRecDepth 100000
open Go.RowKit

/-- One operation is ahead of another by device and number. -/
def ltO (x y : OpV) : Prop := numB x.dev x.seq y.dev y.seq = true
def sameN (x y : OpV) : Prop := x.dev = y.dev ∧ x.seq = y.seq
instance (x y : OpV) : Decidable (sameN x y) := inferInstanceAs (Decidable (_ ∧ _))
theorem ltO_trans {x y z : OpV} (h1 : ltO x y) (h2 : ltO y z) : ltO x z := num_trans h1 h2
theorem ltO_not {x y : OpV} (h : ltO x y) : ¬ sameN x y := fun ⟨e1, e2⟩ => by
 unfold ltO at h
 rw [e1, e2] at h
 exact num_irr h
theorem ltO_name {x x' y y' : OpV} (h : ltO x y) (e1 : sameN x x') (e2 : sameN y y') : ltO x' y' := by
 unfold ltO at h ⊢
 rw [← e1.1, ← e1.2, ← e2.1, ← e2.2]
 exact h
theorem ltO_tri {x y : OpV} (h : numB x.dev x.seq y.dev y.seq = false) (hn : ¬ sameN x y) : ltO y x := by
 unfold ltO
 unfold numB at h ⊢
 have := of_decide_eq_false h
 refine decide_eq_true ?_
 by_cases hd : x.dev = y.dev
 ·have : x.seq ≠ y.seq := fun e => hn ⟨hd, e⟩
  omega
 ·omega
def SrtO (l : List OpV) : Prop := l.Pairwise ltO
theorem srt_of_inc {l : List OpV} (h : incB l = true) : SrtO l := by
 refine List.pairwise_iff_getElem.2 fun i j hi hj hij => ?_
 have := inc_lt h j i hij hj
 unfold atOp at this
 rw [List.getD_eq_getElem?_getD, List.getD_eq_getElem?_getD, List.getElem?_eq_getElem hi, List.getElem?_eq_getElem hj] at this
 exact this
theorem inc_of_srt {l : List OpV} (h : SrtO l) : incB l = true := inc_yes fun i hi => by
 unfold incAt
 by_cases h0 : i = 0
 ·rw [decide_eq_true h0]; rfl
 ·rw [decide_eq_false h0, Bool.false_or]
  have := List.pairwise_iff_getElem.1 h (i - 1) i (by omega) hi (by omega)
  unfold atOp
  rw [List.getD_eq_getElem?_getD, List.getD_eq_getElem?_getD, List.getElem?_eq_getElem hi, List.getElem?_eq_getElem (by omega : i - 1 < l.length)]
  exact this
theorem atU_mem {l : List OpV} {i : Nat} (h : i < l.length) : atOp l i ∈ l := by
 unfold atOp
 rw [List.getD_eq_getElem?_getD, List.getElem?_eq_getElem h]
 exact List.getElem_mem h
theorem mem_atU {l : List OpV} {x : OpV} (h : x ∈ l) : ∃ i, i < l.length ∧ atOp l i = x := by
 obtain ⟨i, hi, e⟩ := List.mem_iff_getElem.1 h
 refine ⟨i, hi, ?_⟩
 unfold atOp
 rw [List.getD_eq_getElem?_getD, List.getElem?_eq_getElem hi]
 exact e
theorem getO_of {l : List OpV} (h : incB l = true) {x : OpV} (hx : x ∈ l) : getO l x.dev x.seq = some x := by
 obtain ⟨i, hi, rfl⟩ := mem_atU hx
 exact setF_hit h l.length (Nat.le_refl _) i hi
theorem getO_mem {l : List OpV} {d s : Int} {x : OpV} (h : getO l d s = some x) : x ∈ l ∧ x.dev = d ∧ x.seq = s := by
 obtain ⟨i, hi, he, e⟩ := setF_some _ h
 exact ⟨by rw [← e]; exact atU_mem hi, by rw [← e]; exact he.1, by rw [← e]; exact he.2⟩
theorem getO_no {l : List OpV} {d s : Int} (h : ∀ x ∈ l, ¬ (x.dev = d ∧ x.seq = s)) : getO l d s = none :=
 setF_miss l.length fun _ hj he => h _ (atU_mem hj) he
/-- How many of a list's operations are ahead of one. -/
def plc (e : OpV) (R : List OpV) : Nat := (R.takeWhile fun x => numB x.dev x.seq e.dev e.seq).length
theorem plc_le (e : OpV) (R : List OpV) : plc e R ≤ R.length := by
 unfold plc
 exact (List.takeWhile_sublist _).length_le
theorem plc_low (e : OpV) : ∀ (R : List OpV) (x : OpV), x ∈ R.take (plc e R) → ltO x e
 | [], x, h => by simp at h
 | y :: r, x, h => by
  unfold plc at h
  rw [List.takeWhile_cons] at h
  split at h
  ·rename_i hy
   rw [List.length_cons, List.take_succ_cons] at h
   rcases List.mem_cons.1 h with rfl | h
   ·exact hy
   ·exact plc_low e r x h
  ·simp at h
theorem plc_stop (e : OpV) : ∀ (R : List OpV), plc e R < R.length → numB (atOp R (plc e R)).dev (atOp R (plc e R)).seq e.dev e.seq = false
 | [], h => by simp [plc] at h
 | y :: r, h => by
  unfold plc at h ⊢
  rw [List.takeWhile_cons] at h ⊢
  cases hy : numB y.dev y.seq e.dev e.seq
  ·rw [if_neg (by simp)]
   exact hy
  ·rw [hy, if_pos rfl, List.length_cons, List.length_cons] at h
   rw [if_pos rfl, List.length_cons]
   exact plc_stop e r (by unfold plc; omega)
/-- One operation of the first list is put in. -/
def uniS (e : OpV) (s : List OpV × List OpV) : Option (List OpV × List OpV) :=
 if plc e s.2 < s.2.length ∧ sameN (atOp s.2 (plc e s.2)) e then
  if sameB e (atOp s.2 (plc e s.2)) = true then some (s.1 ++ s.2.take (plc e s.2) ++ [e.with (max e.undos (atOp s.2 (plc e s.2)).undos)], s.2.drop (plc e s.2 + 1)) else none
 else some (s.1 ++ s.2.take (plc e s.2) ++ [e], s.2.drop (plc e s.2))
def uniTo (l m : List OpV) : Nat → Option (List OpV × List OpV)
 | 0 => some ([], m)
 | k + 1 => (uniTo l m k).bind (uniS (atOp l k))
/-- What is known when k operations of the first list are put in. -/
structure UI (l m : List OpV) (k : Nat) (A R : List OpV) : Prop where
 suf : ∃ j, j ≤ m.length ∧ R = m.drop j ∧ ∀ i, i < j → ∃ x, x ∈ A ∧ sameN x (atOp m i)
 srt : SrtO (A ++ R)
 low : ∀ x, x ∈ A → ∀ i, k ≤ i → i < l.length → ltO x (atOp l i)
 val : ∀ x, x ∈ A → joinAt l m x.dev x.seq = x ∧ ((getO l x.dev x.seq).isSome = true ∨ (getO m x.dev x.seq).isSome = true)
 cov : ∀ i, i < k → ∃ x, x ∈ A ∧ sameN x (atOp l i)
 agr : ∀ i, i < k → ∀ y, getO m (atOp l i).dev (atOp l i).seq = some y → sameB (atOp l i) y = true
theorem ui_start {l m : List OpV} (hm : incB m = true) : UI l m 0 [] m :=
 ⟨⟨0, Nat.zero_le _, by simp, fun i hi => absurd hi (by omega)⟩, by rw [List.nil_append]; exact srt_of_inc hm, fun x hx => (by cases hx), fun x hx => (by cases hx), fun i hi => absurd hi (by omega), fun i hi => absurd hi (by omega)⟩
theorem joinAt_l {l m : List OpV} {d s : Int} {x : OpV} (h1 : getO l d s = some x) (h2 : getO m d s = none) : joinAt l m d s = x := by unfold joinAt; rw [h1, h2]
theorem joinAt_m {l m : List OpV} {d s : Int} {x : OpV} (h1 : getO l d s = none) (h2 : getO m d s = some x) : joinAt l m d s = x := by unfold joinAt; rw [h1, h2]
theorem joinAt_b {l m : List OpV} {d s : Int} {x y : OpV} (h1 : getO l d s = some x) (h2 : getO m d s = some y) : joinAt l m d s = x.with (max x.undos y.undos) := by unfold joinAt; rw [h1, h2]
theorem drop_at {m : List OpV} {j i : Nat} : atOp (m.drop j) i = atOp m (j + i) := by
 unfold atOp
 rw [List.getD_eq_getElem?_getD, List.getD_eq_getElem?_getD, List.getElem?_drop]
/-- What is left of the second list has no namesake in the first, so far. -/
theorem ui_rest {l m : List OpV} {k : Nat} {A R : List OpV} (h : UI l m k A R) {x : OpV} (hx : x ∈ R) : ∀ i, i < k → ¬ sameN (atOp l i) x := fun i hi hs => by
 obtain ⟨y, hy, hn⟩ := h.cov i hi
 have := (List.pairwise_append.1 h.srt).2.2 y hy x hx
 exact ltO_not this ⟨hn.1.trans hs.1, hn.2.trans hs.2⟩
theorem drop_cons {R : List OpV} {p : Nat} (h : p < R.length) : R.drop p = atOp R p :: R.drop (p + 1) := by
 rw [List.drop_eq_getElem_cons h]
 unfold atOp
 rw [List.getD_eq_getElem?_getD, List.getElem?_eq_getElem h]
 rfl
/-- Nothing of a sorted list's part behind a place is at or ahead of it. -/
theorem srt_parts {R : List OpV} (h : SrtO R) (p : Nat) : SrtO (R.take p) ∧ SrtO (R.drop p) ∧ ∀ x, x ∈ R.take p → ∀ y, y ∈ R.drop p → ltO x y := by
 rw [← List.take_append_drop p R] at h
 obtain ⟨h1, h2, h3⟩ := List.pairwise_append.1 h
 exact ⟨h1, h2, h3⟩
theorem ui_suf {l m : List OpV} {k : Nat} {A R : List OpV} (h : UI l m k A R) : (∀ x, x ∈ R → x ∈ m) ∧ SrtO R := by
 obtain ⟨j, _, e, _⟩ := h.suf
 exact ⟨fun x hx => by rw [e] at hx; exact List.mem_of_mem_drop hx, (List.pairwise_append.1 h.srt).2.1⟩
/-- An operation of the second list that is ahead of the next one of the first has no namesake there. -/
theorem ui_low {l m : List OpV} (hl : incB l = true) (hm : incB m = true) {k : Nat} (hk : k < l.length) {A R : List OpV} (h : UI l m k A R) {x : OpV} (hx : x ∈ R) (hlt : ltO x (atOp l k)) :
  (∀ i, k ≤ i → i < l.length → ltO x (atOp l i)) ∧ joinAt l m x.dev x.seq = x ∧ (getO m x.dev x.seq).isSome = true := by
 have h1 : ∀ i, k ≤ i → i < l.length → ltO x (atOp l i) := fun i hi hil => by
  by_cases e : i = k
  ·subst e; exact hlt
  ·exact ltO_trans hlt (inc_lt hl i k (by omega) hil)
 have h2 : getO l x.dev x.seq = none := getO_no fun y hy he => by
  obtain ⟨i, hi, rfl⟩ := mem_atU hy
  rcases Nat.lt_or_ge i k with g | g
  ·exact ui_rest h hx i g he
  ·exact ltO_not (h1 i g hi) ⟨he.1.symm, he.2.symm⟩
 have h3 := getO_of hm ((ui_suf h).1 x hx)
 exact ⟨h1, joinAt_m h2 h3, by rw [h3]; rfl⟩
theorem ui_found {l m : List OpV} (hl : incB l = true) (hm : incB m = true) {k : Nat} (hk : k < l.length) {A R : List OpV} (h : UI l m k A R) {p : Nat} (hp : p < R.length) (hlow : ∀ x, x ∈ R.take p → ltO x (atOp l k)) (hn : sameN (atOp R p) (atOp l k)) (hs : sameB (atOp l k) (atOp R p) = true) :
  UI l m (k + 1) (A ++ R.take p ++ [(atOp l k).with (max (atOp l k).undos (atOp R p).undos)]) (R.drop (p + 1)) := by
 obtain ⟨hRm, hRs⟩ := ui_suf h
 obtain ⟨s1, s2, s3⟩ := srt_parts hRs p
 have hy : atOp R p ∈ R := atU_mem hp
 have hgl : getO l (atOp l k).dev (atOp l k).seq = some (atOp l k) := getO_of hl (atU_mem hk)
 have hgm : getO m (atOp l k).dev (atOp l k).seq = some (atOp R p) := by
  have := getO_of hm (hRm _ hy)
  rw [hn.1, hn.2] at this
  exact this
 have hAP := List.pairwise_append.1 h.srt
 rw [drop_cons hp] at s2 s3
 obtain ⟨s4, s5⟩ := List.pairwise_cons.1 s2
 generalize he : atOp l k = e at hlow hn hs hgl hgm
 generalize hyv : atOp R p = y at hn hs hgm hy s3 s4
 have hj : sameN (e.with (max e.undos y.undos)) e := ⟨rfl, rfl⟩
 have hjy : sameN y (e.with (max e.undos y.undos)) := hn
 refine ⟨?_, ?_, ?_, ?_, ?_, ?_⟩
 ·obtain ⟨j, hj1, e1, hj2⟩ := h.suf
  have hRl : R.length = m.length - j := by rw [e1, List.length_drop]
  refine ⟨j + p + 1, by omega, by rw [e1, List.drop_drop]; congr 1, fun i hi => ?_⟩
  rcases Nat.lt_or_ge i j with g | g
  ·obtain ⟨x, hx, hxn⟩ := hj2 i g
   exact ⟨x, by simp [hx], hxn⟩
  ·have hat : atOp m i = atOp R (i - j) := by rw [e1, drop_at]; congr 1; omega
   by_cases g2 : i = j + p
   ·refine ⟨e.with (max e.undos y.undos), by simp, ?_⟩
    rw [hat, g2, Nat.add_sub_cancel_left, hyv]
    exact ⟨hn.1.symm, hn.2.symm⟩
   ·have hm2 : atOp R (i - j) ∈ R.take p := by
     have : atOp (R.take p) (i - j) = atOp R (i - j) := by
      unfold atOp
      rw [List.getD_eq_getElem?_getD, List.getD_eq_getElem?_getD, List.getElem?_take_of_lt (by omega)]
     rw [← this]
     exact atU_mem (by rw [List.length_take]; omega)
    exact ⟨atOp R (i - j), by simp [hm2], by rw [hat]; exact ⟨rfl, rfl⟩⟩
 ·refine List.pairwise_append.2 ⟨List.pairwise_append.2 ⟨List.pairwise_append.2 ⟨hAP.1, s1, fun x hx z hz => hAP.2.2 x hx z (List.mem_of_mem_take hz)⟩, List.pairwise_singleton _ _, fun x hx z hz => ?_⟩, s5, fun x hx z hz => ?_⟩
  ·obtain rfl : z = e.with (max e.undos y.undos) := by simpa using hz
   rcases List.mem_append.1 hx with hx | hx
   ·have := h.low x hx k (Nat.le_refl _) hk
    rw [he] at this
    exact ltO_name this ⟨rfl, rfl⟩ ⟨rfl, rfl⟩
   ·exact ltO_name (hlow x hx) ⟨rfl, rfl⟩ ⟨rfl, rfl⟩
  ·have hzR : z ∈ R := List.mem_of_mem_drop hz
   rcases List.mem_append.1 hx with hx | hx
   ·rcases List.mem_append.1 hx with hx | hx
    ·exact hAP.2.2 x hx z hzR
    ·exact s3 x hx z (List.mem_cons_of_mem _ hz)
   ·obtain rfl : x = e.with (max e.undos y.undos) := by simpa using hx
    exact ltO_name (s4 z hz) hjy ⟨rfl, rfl⟩
 ·intro x hx i hi hil
  rcases List.mem_append.1 hx with hx | hx
  ·rcases List.mem_append.1 hx with hx | hx
   ·exact h.low x hx i (by omega) hil
   ·exact (ui_low hl hm hk h (List.mem_of_mem_take hx) (by rw [he]; exact hlow x hx)).1 i (by omega) hil
  ·obtain rfl : x = e.with (max e.undos y.undos) := by simpa using hx
   have := inc_lt hl i k (by omega) hil
   rw [he] at this
   exact ltO_name (x := e) this ⟨rfl, rfl⟩ ⟨rfl, rfl⟩
 ·intro x hx
  rcases List.mem_append.1 hx with hx | hx
  ·rcases List.mem_append.1 hx with hx | hx
   ·exact h.val x hx
   ·have := ui_low hl hm hk h (List.mem_of_mem_take hx) (by rw [he]; exact hlow x hx)
    exact ⟨this.2.1, .inr this.2.2⟩
  ·obtain rfl : x = e.with (max e.undos y.undos) := by simpa using hx
   exact ⟨joinAt_b hgl hgm, .inl (by show (getO l e.dev e.seq).isSome = true; rw [hgl]; rfl)⟩
 ·intro i hi
  by_cases g : i = k
  ·exact ⟨e.with (max e.undos y.undos), by simp, by rw [g, he]; exact ⟨rfl, rfl⟩⟩
  ·obtain ⟨x, hx, hxn⟩ := h.cov i (by omega)
   exact ⟨x, by simp [hx], hxn⟩
 ·intro i hi z hz
  by_cases g : i = k
  ·rw [g, he] at hz ⊢
   rw [hgm] at hz
   obtain rfl : y = z := by simpa using hz
   exact hs
  ·exact h.agr i (by omega) z hz
theorem ui_miss {l m : List OpV} (hl : incB l = true) (hm : incB m = true) {k : Nat} (hk : k < l.length) {A R : List OpV} (h : UI l m k A R) {p : Nat} (hp : p ≤ R.length) (hlow : ∀ x, x ∈ R.take p → ltO x (atOp l k)) (hup : ∀ x, x ∈ R.drop p → ltO (atOp l k) x) :
  UI l m (k + 1) (A ++ R.take p ++ [atOp l k]) (R.drop p) := by
 obtain ⟨hRm, hRs⟩ := ui_suf h
 obtain ⟨s1, s2, s3⟩ := srt_parts hRs p
 have hgl : getO l (atOp l k).dev (atOp l k).seq = some (atOp l k) := getO_of hl (atU_mem hk)
 have hAP := List.pairwise_append.1 h.srt
 have hgm : getO m (atOp l k).dev (atOp l k).seq = none := getO_no fun y hy hyn => by
  obtain ⟨i, hi, rfl⟩ := mem_atU hy
  obtain ⟨j, hj1, e1, hj2⟩ := h.suf
  rcases Nat.lt_or_ge i j with g | g
  ·obtain ⟨x, hx, hxn⟩ := hj2 i g
   exact ltO_not (h.low x hx k (Nat.le_refl _) hk) ⟨hxn.1.trans hyn.1, hxn.2.trans hyn.2⟩
  ·have hR : atOp m i ∈ R := by
    have hat : atOp m i = atOp R (i - j) := by rw [e1, drop_at]; congr 1; omega
    rw [hat]
    exact atU_mem (by rw [e1, List.length_drop]; omega)
   rw [← List.take_append_drop p R] at hR
   rcases List.mem_append.1 hR with g2 | g2
   ·exact ltO_not (hlow _ g2) hyn
   ·exact ltO_not (hup _ g2) ⟨hyn.1.symm, hyn.2.symm⟩
 generalize he : atOp l k = e at hlow hup hgl hgm
 refine ⟨?_, ?_, ?_, ?_, ?_, ?_⟩
 ·obtain ⟨j, hj1, e1, hj2⟩ := h.suf
  have hRl : R.length = m.length - j := by rw [e1, List.length_drop]
  refine ⟨j + p, by omega, by rw [e1, List.drop_drop], fun i hi => ?_⟩
  rcases Nat.lt_or_ge i j with g | g
  ·obtain ⟨x, hx, hxn⟩ := hj2 i g
   exact ⟨x, by simp [hx], hxn⟩
  ·have hat : atOp m i = atOp R (i - j) := by rw [e1, drop_at]; congr 1; omega
   have hm2 : atOp R (i - j) ∈ R.take p := by
    have : atOp (R.take p) (i - j) = atOp R (i - j) := by
     unfold atOp
     rw [List.getD_eq_getElem?_getD, List.getD_eq_getElem?_getD, List.getElem?_take_of_lt (by omega)]
    rw [← this]
    exact atU_mem (by rw [List.length_take]; omega)
   exact ⟨atOp R (i - j), by simp [hm2], by rw [hat]; exact ⟨rfl, rfl⟩⟩
 ·refine List.pairwise_append.2 ⟨List.pairwise_append.2 ⟨List.pairwise_append.2 ⟨hAP.1, s1, fun x hx z hz => hAP.2.2 x hx z (List.mem_of_mem_take hz)⟩, List.pairwise_singleton _ _, fun x hx z hz => ?_⟩, s2, fun x hx z hz => ?_⟩
  ·obtain rfl : z = e := by simpa using hz
   rcases List.mem_append.1 hx with hx | hx
   ·have := h.low x hx k (Nat.le_refl _) hk
    rw [he] at this
    exact this
   ·exact hlow x hx
  ·rcases List.mem_append.1 hx with hx | hx
   ·rcases List.mem_append.1 hx with hx | hx
    ·exact hAP.2.2 x hx z (List.mem_of_mem_drop hz)
    ·exact s3 x hx z hz
   ·obtain rfl : x = e := by simpa using hx
    exact hup z hz
 ·intro x hx i hi hil
  rcases List.mem_append.1 hx with hx | hx
  ·rcases List.mem_append.1 hx with hx | hx
   ·exact h.low x hx i (by omega) hil
   ·exact (ui_low hl hm hk h (List.mem_of_mem_take hx) (by rw [he]; exact hlow x hx)).1 i (by omega) hil
  ·obtain rfl : x = e := by simpa using hx
   have := inc_lt hl i k (by omega) hil
   rw [he] at this
   exact this
 ·intro x hx
  rcases List.mem_append.1 hx with hx | hx
  ·rcases List.mem_append.1 hx with hx | hx
   ·exact h.val x hx
   ·have := ui_low hl hm hk h (List.mem_of_mem_take hx) (by rw [he]; exact hlow x hx)
    exact ⟨this.2.1, .inr this.2.2⟩
  ·obtain rfl : x = e := by simpa using hx
   exact ⟨joinAt_l hgl hgm, .inl (by rw [hgl]; rfl)⟩
 ·intro i hi
  by_cases g : i = k
  ·exact ⟨e, by simp, by rw [g, he]; exact ⟨rfl, rfl⟩⟩
  ·obtain ⟨x, hx, hxn⟩ := h.cov i (by omega)
   exact ⟨x, by simp [hx], hxn⟩
 ·intro i hi z hz
  by_cases g : i = k
  ·rw [g, he, hgm] at hz
   cases hz
  ·exact h.agr i (by omega) z hz
/-- What stands behind the place, where the place is no namesake's. -/
theorem plc_up {e : OpV} {R : List OpV} (h : SrtO R) (hn : ¬ (plc e R < R.length ∧ sameN (atOp R (plc e R)) e)) : ∀ x, x ∈ R.drop (plc e R) → ltO e x := by
 intro x hx
 rcases Nat.lt_or_ge (plc e R) R.length with g | g
 ·rw [drop_cons g] at hx
  have h0 : ltO e (atOp R (plc e R)) := ltO_tri (plc_stop e R g) (fun hs => hn ⟨g, hs⟩)
  rcases List.mem_cons.1 hx with rfl | hx
  ·exact h0
  ·have := (srt_parts h (plc e R)).2.1
   rw [drop_cons g] at this
   exact ltO_trans h0 ((List.pairwise_cons.1 this).1 x hx)
 ·rw [List.drop_eq_nil_of_le g] at hx
  cases hx
theorem uni_some {l m : List OpV} (hl : incB l = true) (hm : incB m = true) : ∀ k, k ≤ l.length → ∀ A R, uniTo l m k = some (A, R) → UI l m k A R
 | 0, _, A, R, h => by
  have : ([] : List OpV) = A ∧ m = R := by simpa [uniTo] using h
  rw [← this.1, ← this.2]
  exact ui_start hm
 | k + 1, hk, A, R, h => by
  rw [uniTo] at h
  cases hu : uniTo l m k with
  | none => rw [hu] at h; cases h
  | some s =>
   obtain ⟨A0, R0⟩ := s
   have ih := uni_some hl hm k (by omega) A0 R0 hu
   rw [hu] at h
   have h : uniS (atOp l k) (A0, R0) = some (A, R) := h
   unfold uniS at h
   simp only at h
   split at h
   ·rename_i hc
    split at h
    ·rename_i hs
     have e : (A0 ++ R0.take (plc (atOp l k) R0) ++ [(atOp l k).with (max (atOp l k).undos (atOp R0 (plc (atOp l k) R0)).undos)]) = A ∧ R0.drop (plc (atOp l k) R0 + 1) = R := by simpa using h
     rw [← e.1, ← e.2]
     exact ui_found hl hm hk ih hc.1 (plc_low _ _) hc.2 hs
    ·cases h
   ·rename_i hc
    have e : (A0 ++ R0.take (plc (atOp l k) R0) ++ [atOp l k]) = A ∧ R0.drop (plc (atOp l k) R0) = R := by simpa using h
    rw [← e.1, ← e.2]
    exact ui_miss hl hm hk ih (plc_le _ _) (plc_low _ _) (plc_up (ui_suf ih).2 hc)
theorem uni_none {l m : List OpV} (hl : incB l = true) (hm : incB m = true) : ∀ k, k ≤ l.length → uniTo l m k = none → ∃ i, i < k ∧ ∃ y, getO m (atOp l i).dev (atOp l i).seq = some y ∧ sameB (atOp l i) y = false
 | 0, _, h => by cases h
 | k + 1, hk, h => by
  rw [uniTo] at h
  cases hu : uniTo l m k with
  | none =>
   obtain ⟨i, hi, r⟩ := uni_none hl hm k (by omega) hu
   exact ⟨i, by omega, r⟩
  | some s =>
   obtain ⟨A0, R0⟩ := s
   have ih := uni_some hl hm k (by omega) A0 R0 hu
   rw [hu] at h
   have h : uniS (atOp l k) (A0, R0) = none := h
   unfold uniS at h
   simp only at h
   split at h
   ·rename_i hc
    split at h
    ·cases h
    ·rename_i hs
     refine ⟨k, by omega, atOp R0 (plc (atOp l k) R0), ?_, by simpa using hs⟩
     have := getO_of hm ((ui_suf ih).1 _ (atU_mem hc.1))
     rw [hc.2.1, hc.2.2] at this
     exact this
   ·cases h
/-- Two lists joined; none: two operations of one name differ. -/
def unionO (l m : List OpV) : Option (List OpV) := (uniTo l m l.length).map fun s => s.1 ++ s.2
def takB (xs : List Int) (l : List OpV) (ys : List Int) (m : List OpV) : Bool := cartB xs l && (partB ys m && (match unionO l m with | some U => cartB (maxV xs ys) U | none => false))
def takVs (xs ys : List Int) (ok : Bool) : List Int := if ok = true then maxV xs ys else []
def takOs (l m : List OpV) (ok : Bool) : List OpV := if ok = true then (unionO l m).getD [] else []
theorem vec_lenT {xs : List Int} (h : vecOk xs = true) : xs.length = 4 := by
 unfold vecOk at h
 rw [Bool.and_eq_true] at h
 exact of_decide_eq_true h.2
theorem part_split {ys : List Int} {m : List OpV} (h : partB ys m = true) : vecOk ys = true ∧ (∀ i, i < m.length → (atOp m i).ok = true ∧ (atOp m i).seq ≤ ys.getD (atOp m i).dev.toNat 0) ∧ incB m = true := by
 unfold partB at h
 rw [Bool.and_eq_true, Bool.and_eq_true] at h
 refine ⟨h.1, fun i hi => ?_, h.2.2⟩
 have := List.all_eq_true.1 h.2.1 i (by simpa using hi)
 unfold okAt at this
 rw [Bool.and_eq_true] at this
 exact ⟨this.1, of_decide_eq_true this.2⟩
theorem op_devT {o : OpV} (h : o.ok = true) : 0 ≤ o.dev ∧ o.dev ≤ 3 ∧ 1 ≤ o.seq := by
 have h' : opB o.dev o.seq o.stamp o.kind o.item o.qty o.level o.undos = true := h
 unfold opB headB at h'
 simp only [Bool.and_eq_true] at h'
 obtain ⟨⟨hd, hs, _⟩, _⟩ := h'
 have h1 := inB_iff.1 hd
 have h2 := inB_iff.1 hs
 exact ⟨h1.1, h1.2, h2.1⟩
/-- What is known of two joined lists. -/
structure UO (l m U : List OpV) : Prop where
 srt : SrtO U
 val : ∀ x, x ∈ U → joinAt l m x.dev x.seq = x ∧ ((getO l x.dev x.seq).isSome = true ∨ (getO m x.dev x.seq).isSome = true)
 covl : ∀ x, x ∈ l → ∃ y, y ∈ U ∧ sameN y x
 covm : ∀ x, x ∈ m → ∃ y, y ∈ U ∧ sameN y x
 agr : ∀ d s a b, getO l d s = some a → getO m d s = some b → sameB a b = true
theorem union_some {l m U : List OpV} (hl : incB l = true) (hm : incB m = true) (h : unionO l m = some U) : UO l m U := by
 unfold unionO at h
 cases hu : uniTo l m l.length with
 | none => rw [hu] at h; cases h
 | some s =>
  obtain ⟨A, R⟩ := s
  rw [hu] at h
  have e : A ++ R = U := by simpa using h
  have hI := uni_some hl hm l.length (Nat.le_refl _) A R hu
  obtain ⟨hRm, hRs⟩ := ui_suf hI
  subst e
  refine ⟨hI.srt, fun x hx => ?_, fun x hx => ?_, fun x hx => ?_, fun d s a b ha hb => ?_⟩
  ·rcases List.mem_append.1 hx with hx | hx
   ·exact hI.val x hx
   ·have h2 : getO l x.dev x.seq = none := getO_no fun y hy he => by
     obtain ⟨i, hi, rfl⟩ := mem_atU hy
     exact ui_rest hI hx i hi he
    have h3 := getO_of hm (hRm x hx)
    exact ⟨joinAt_m h2 h3, .inr (by rw [h3]; rfl)⟩
  ·obtain ⟨i, hi, rfl⟩ := mem_atU hx
   obtain ⟨y, hy, hn⟩ := hI.cov i hi
   exact ⟨y, by simp [hy], hn⟩
  ·obtain ⟨i, hi, rfl⟩ := mem_atU hx
   obtain ⟨j, hj1, e1, hj2⟩ := hI.suf
   rcases Nat.lt_or_ge i j with g | g
   ·obtain ⟨y, hy, hn⟩ := hj2 i g
    exact ⟨y, by simp [hy], hn⟩
   ·have hR : atOp m i ∈ R := by
     have hat : atOp m i = atOp R (i - j) := by rw [e1, drop_at]; congr 1; omega
     rw [hat]
     exact atU_mem (by rw [e1, List.length_drop]; omega)
    exact ⟨atOp m i, by simp [hR], ⟨rfl, rfl⟩⟩
  ·obtain ⟨ham, h1, h2⟩ := getO_mem ha
   obtain ⟨i, hi, rfl⟩ := mem_atU ham
   rw [← h1, ← h2] at hb
   exact hI.agr i hi b hb
theorem union_none {l m : List OpV} (hl : incB l = true) (hm : incB m = true) (h : unionO l m = none) : ∃ d s a b, getO l d s = some a ∧ getO m d s = some b ∧ sameB a b = false := by
 unfold unionO at h
 cases hu : uniTo l m l.length with
 | some s => rw [hu] at h; cases h
 | none =>
  obtain ⟨i, hi, y, hy, hs⟩ := uni_none hl hm l.length (Nat.le_refl _) hu
  exact ⟨_, _, _, y, getO_of hl (atU_mem hi), hy, hs⟩
theorem joinAt_name {l m : List OpV} {d s : Int} (h : (getO l d s).isSome = true ∨ (getO m d s).isSome = true) : (joinAt l m d s).dev = d ∧ (joinAt l m d s).seq = s := by
 cases ha : getO l d s with
 | some a =>
  obtain ⟨_, h1, h2⟩ := getO_mem ha
  cases hb : getO m d s with
  | some b => rw [joinAt_b ha hb]; exact ⟨h1, h2⟩
  | none => rw [joinAt_l ha hb]; exact ⟨h1, h2⟩
 | none =>
  cases hb : getO m d s with
  | some b =>
   obtain ⟨_, h1, h2⟩ := getO_mem hb
   rw [joinAt_m ha hb]; exact ⟨h1, h2⟩
  | none => rw [ha, hb] at h; simp at h
/-- Every name up to a vector is there, in one of the two lists. -/
def Full (zs : List Int) (l m : List OpV) : Prop := ∀ d s : Nat, d < 4 → (s : Int) < zs.getD d 0 → (getO l (d : Int) ((s : Int) + 1)).isSome = true ∨ (getO m (d : Int) ((s : Int) + 1)).isSome = true
theorem srt_one {a b : List OpV} (ha : SrtO a) (hb : SrtO b) (h : ∀ x, x ∈ a ↔ x ∈ b) : a = b := by
 induction a generalizing b with
 | nil =>
  cases b with
  | nil => rfl
  | cons y r => exact absurd ((h y).2 (by simp)) (by simp)
 | cons x s ih =>
  obtain ⟨h1, h2⟩ := List.pairwise_cons.1 ha
  cases b with
  | nil => exact absurd ((h x).1 (by simp)) (by simp)
  | cons y r =>
   obtain ⟨g1, g2⟩ := List.pairwise_cons.1 hb
   have hxy : x = y := by
    rcases List.mem_cons.1 ((h x).1 (by simp)) with e | hx
    ·exact e
    rcases List.mem_cons.1 ((h y).2 (by simp)) with e | hy
    ·exact e.symm
    exact absurd ⟨rfl, rfl⟩ (ltO_not (ltO_trans (g1 x hx) (h1 y hy)))
   subst hxy
   rw [ih h2 g2 fun z => ?_]
   constructor
   ·intro hz
    rcases List.mem_cons.1 ((h z).1 (by simp [hz])) with rfl | hr
    ·exact absurd ⟨rfl, rfl⟩ (ltO_not (h1 z hz))
    ·exact hr
   ·intro hz
    rcases List.mem_cons.1 ((h z).2 (by simp [hz])) with rfl | hr
    ·exact absurd ⟨rfl, rfl⟩ (ltO_not (g1 z hz))
    ·exact hr
theorem st_order {zs : List Int} {d s e t : Nat} (_hs : s < (zs.getD d 0).toNat) (_ht : t < (zs.getD e 0).toNat) (h : stOf zs d + s < stOf zs e + t) : d < e ∨ d = e ∧ s < t := by
 rcases Nat.lt_trichotomy d e with g | g | g
 ·exact .inl g
 ·subst g; exact .inr ⟨rfl, by omega⟩
 ·have h1 := st_mono zs (d := e + 1) (e := d) g
  rw [stOf] at h1
  omega
theorem srt_full {zs : List Int} {l m : List OpV} (h : Full zs l m) : SrtO (mergeL zs l m) := by
 have hml : (mergeL zs l m).length = stOf zs 4 := by unfold mergeL; rw [listP_len]; rfl
 have hat : ∀ i (hi : i < (mergeL zs l m).length), (mergeL zs l m)[i] = atOp (mergeL zs l m) i := fun i hi => by
  unfold atOp
  rw [List.getD_eq_getElem?_getD, List.getElem?_eq_getElem hi]
  rfl
 refine List.pairwise_iff_getElem.2 fun i j hi hj hij => ?_
 rw [hat i hi, hat j hj]
 obtain ⟨d, s, hd, hs, rfl⟩ := st_find (xs := zs) 4 (by rw [← hml]; exact hi)
 obtain ⟨e, t, he, ht, rfl⟩ := st_find (xs := zs) 4 (by rw [← hml]; exact hj)
 have ho := st_order hs ht hij
 unfold mergeL
 rw [listP_at zs _ hd hs, listP_at zs _ he ht]
 have n1 := joinAt_name (h d s hd (by omega))
 have n2 := joinAt_name (h e t he (by omega))
 unfold ltO mergeF numB
 rw [n1.1, n1.2, n2.1, n2.2]
 refine decide_eq_true ?_
 omega
theorem full_union {xs ys : List Int} {l m U : List OpV} (hc : cartB xs l = true) (hp : partB ys m = true) (hU : UO l m U) (h : Full (maxV xs ys) l m) : U = mergeL (maxV xs ys) l m := by
 obtain ⟨hv, hok, hinc⟩ := part_split hp
 obtain ⟨hvx, _, _⟩ := cart_split hc
 have hxl : xs.length = 4 := (vec_lenT hvx)
 have hyl : ys.length = 4 := (vec_lenT hv)
 refine srt_one hU.srt (srt_full h) fun x => ?_
 constructor
 ·intro hx
  obtain ⟨hj, hpr⟩ := hU.val x hx
  have hname : ∃ d s : Nat, d < 4 ∧ (s : Int) < (maxV xs ys).getD d 0 ∧ x.dev = (d : Int) ∧ x.seq = (s : Int) + 1 := by
   rcases hpr with g | g
   ·obtain ⟨a, ha⟩ := Option.isSome_iff_exists.1 g
    obtain ⟨ham, h1, h2⟩ := getO_mem ha
    obtain ⟨i, hi, rfl⟩ := mem_atU ham
    obtain ⟨d, s, hd, hs, _, _, e1, e2⟩ := cart_atV hc hi
    refine ⟨d, s, hd, ?_, by rw [← h1, e1], by rw [← h2, e2]⟩
    rw [maxV_at hxl hyl hd]
    omega
   ·obtain ⟨a, ha⟩ := Option.isSome_iff_exists.1 g
    obtain ⟨ham, h1, h2⟩ := getO_mem ha
    obtain ⟨i, hi, rfl⟩ := mem_atU ham
    obtain ⟨o1, o2⟩ := hok i hi
    obtain ⟨q1, q2, q3⟩ := op_devT o1
    refine ⟨(atOp m i).dev.toNat, ((atOp m i).seq - 1).toNat, by omega, ?_, by rw [← h1]; omega, by rw [← h2]; omega⟩
    rw [maxV_at hxl hyl (by omega)]
    omega
  obtain ⟨d, s, hd, hs, e1, e2⟩ := hname
  have hs' : s < ((maxV xs ys).getD d 0).toNat := by omega
  have : atOp (mergeL (maxV xs ys) l m) (stOf (maxV xs ys) d + s) = x := by
   unfold mergeL
   rw [listP_at _ _ hd hs']
   show joinAt l m (d : Int) ((s : Int) + 1) = x
   rw [← e1, ← e2]
   exact hj
  rw [← this]
  refine atU_mem ?_
  have hml : (mergeL (maxV xs ys) l m).length = stOf (maxV xs ys) 4 := by unfold mergeL; rw [listP_len]; rfl
  have := st_mono (maxV xs ys) (d := d + 1) (e := 4) hd
  rw [stOf] at this
  omega
 ·intro hx
  obtain ⟨i, hi, rfl⟩ := mem_atU hx
  have hml : (mergeL (maxV xs ys) l m).length = stOf (maxV xs ys) 4 := by unfold mergeL; rw [listP_len]; rfl
  obtain ⟨d, s, hd, hs, rfl⟩ := st_find (xs := maxV xs ys) 4 (by rw [← hml]; exact hi)
  have hf := h d s hd (by omega)
  have e : atOp (mergeL (maxV xs ys) l m) (stOf (maxV xs ys) d + s) = joinAt l m (d : Int) ((s : Int) + 1) := by
   unfold mergeL
   rw [listP_at _ _ hd hs]
   rfl
  have hex : ∃ y, y ∈ U ∧ y.dev = (d : Int) ∧ y.seq = (s : Int) + 1 := by
   rcases hf with g | g
   ·obtain ⟨a, ha⟩ := Option.isSome_iff_exists.1 g
    obtain ⟨ham, h1, h2⟩ := getO_mem ha
    obtain ⟨y, hy, hn⟩ := hU.covl a ham
    exact ⟨y, hy, hn.1.trans h1, hn.2.trans h2⟩
   ·obtain ⟨a, ha⟩ := Option.isSome_iff_exists.1 g
    obtain ⟨ham, h1, h2⟩ := getO_mem ha
    obtain ⟨y, hy, hn⟩ := hU.covm a ham
    exact ⟨y, hy, hn.1.trans h1, hn.2.trans h2⟩
  obtain ⟨y, hy, h1, h2⟩ := hex
  rw [e, ← h1, ← h2, (hU.val y hy).1]
  exact hy
theorem tak_all {xs ys : List Int} {l m : List OpV} (hf : Full (maxV xs ys) l m) (ha : ∀ d s : Nat, d < 4 → (s : Int) < (maxV xs ys).getD d 0 → ∀ a b, getO l (d : Int) ((s : Int) + 1) = some a → getO m (d : Int) ((s : Int) + 1) = some b → sameB a b = true) (hc : cartB xs l = true) (hp : partB ys m = true) :
  takB xs l ys m = cartB (maxV xs ys) (mergeL (maxV xs ys) l m) ∧ takOs l m true = mergeL (maxV xs ys) l m := by
 obtain ⟨hv, hok, hinc⟩ := part_split hp
 obtain ⟨hvx, _, _⟩ := cart_split hc
 have hxl : xs.length = 4 := (vec_lenT hvx)
 have hyl : ys.length = 4 := (vec_lenT hv)
 unfold takB takOs
 rw [hc, hp, if_pos rfl]
 cases hu : unionO l m with
 | none =>
  obtain ⟨d, s, a, b, h1, h2, h3⟩ := union_none (cart_inc hc) hinc hu
  obtain ⟨ham, e1, e2⟩ := getO_mem h1
  obtain ⟨i, hi, rfl⟩ := mem_atU ham
  obtain ⟨d', s', hd', hs', _, _, q1, q2⟩ := cart_atV hc hi
  rw [← e1, q1, ← e2, q2] at h1 h2
  have := ha d' s' hd' (by rw [maxV_at hxl hyl hd']; omega) _ b h1 h2
  rw [h3] at this
  cases this
 | some U =>
  have hU := full_union hc hp (union_some (cart_inc hc) hinc hu) hf
  rw [← hU]
  exact ⟨rfl, rfl⟩
set_option linter.unusedSimpArgs false
set_option linter.unusedVariables false

theorem plc_eq {l : List OpV} {x : OpV} {k : Nat} (hk : k ≤ l.length) (h1 : ∀ j, j < k → cmpAt l x j < 0) (h2 : k < l.length → 0 ≤ cmpAt l x k) : plc x l = k := by
 rcases Nat.lt_trichotomy (plc x l) k with g | g | g
 ·have h3 := plc_stop x l (by omega)
  have h4 := numI_neg.1 (h1 _ g)
  rw [h3] at h4
  cases h4
 ·exact g
 ·have hp := plc_le x l
  have hkl : k < l.length := by omega
  have hm : atOp l k ∈ l.take (plc x l) := by
   refine List.mem_take_iff_getElem.2 ⟨k, by omega, ?_⟩
   unfold atOp
   rw [List.getD_eq_getElem?_getD, List.getElem?_eq_getElem hkl]
   rfl
  have h3 := plc_low x l _ hm
  have h4 : cmpAt l x k < 0 := numI_neg.2 h3
  have := h2 hkl
  omega
def FoundP (l : List OpV) (x : OpV) (i : Nat) (b : Bool) : Prop := i = plc x l ∧ b = decide (plc x l < l.length ∧ sameN (atOp l (plc x l)) x)
theorem foundP_end {l : List OpV} {x : OpV} (h : incB l = true) (h1 : ∀ j, j < l.length → cmpAt l x j < 0) : FoundP l x l.length false := by
 have e := plc_eq (Nat.le_refl _) h1 (fun h => absurd h (by omega))
 unfold FoundP
 rw [e]
 exact ⟨rfl, (decide_eq_false fun h => absurd h.1 (by omega)).symm⟩
theorem foundP_mid {l : List OpV} {x : OpV} (h : incB l = true) {k : Nat} (hk : k < l.length) (h1 : ∀ j, j < k → cmpAt l x j < 0) (h2 : 0 ≤ cmpAt l x k) : FoundP l x k (decide (cmpAt l x k = 0)) := by
 have e := plc_eq (Nat.le_of_lt hk) h1 (fun _ => h2)
 unfold FoundP
 rw [e]
 refine ⟨rfl, ?_⟩
 rw [decide_eq_decide]
 exact ⟨fun h => ⟨hk, numI_zero.1 h⟩, fun h => numI_zero.2 h.2⟩

set_option maxHeartbeats 20000000 in
theorem binSearchP (w : World) (B : Nat) (a : Option Addr) (n c : Nat) (l : List OpV) (x : OpV) (h : Ops w B a n l) (hB : B ≤ w.heap.size) (hn : n ≤ 1048576) (hinc : incB l = true) :
  Calls Try.prog 106 #[.slice a n c, .agg #[.int .i64 x.dev, .int .i64 x.seq, .int .i64 x.stamp, .int .i64 x.kind, .string x.item, .int .i64 x.qty, .int .i64 x.level, .int .i64 x.undos], .func (.func 105) #[] #[]] w fun e w' => (∃ (i : Nat) (b : Bool), e = .returned (.tuple #[.int .i64 (i : Int), .bool b]) ∧ FoundP l x i b) ∧ Below w.heap.size w w' := by
 have hb0 : Below w.heap.size w (w.alloc (.cells #[.int .i64 x.dev, .int .i64 x.seq, .int .i64 x.stamp, .int .i64 x.kind, .string x.item, .int .i64 x.qty, .int .i64 x.level, .int .i64 x.undos] 77)) := (Below.refl _ w).alloc (Nat.le_refl _) _
 have HO := Lib.hid (h.below hb0 hB)
 have HB := Lib.hid hb0
 have HX := Lib.hid (boxAt (Below.refl _ (w.alloc (.cells #[.int .i64 x.dev, .int .i64 x.seq, .int .i64 x.stamp, .int .i64 x.kind, .string x.item, .int .i64 x.qty, .int .i64 x.level, .int .i64 x.undos] 77))))
 have HL := Lib.hid h.1
 have HInc := Lib.hid hinc
 have hsz : w.heap.size < (w.alloc (.cells #[.int .i64 x.dev, .int .i64 x.seq, .int .i64 x.stamp, .int .i64 x.kind, .string x.item, .int .i64 x.qty, .int .i64 x.level, .int .i64 x.undos] 77)).heap.size := by show _ < (w.heap.push _).size; simp
 clear h hb0 hinc
 go_enter Try.func106, Try.ntmps106
 go_upto_region 1 with fail
 generalize w.alloc (.cells #[.int .i64 x.dev, .int .i64 x.seq, .int .i64 x.stamp, .int .i64 x.kind, .string x.item, .int .i64 x.qty, .int .i64 x.level, .int .i64 x.undos] 77) = w0 at HO HB HX hsz ⊢
 go_wp2
 go_loopw [9, 10] (fun s t wr => ∃ lo hi : Nat, lo ≤ hi ∧ hi ≤ n ∧ s = .int .i64 (lo : Int) ∧ t = .int .i64 (hi : Int) ∧ Hid ((∀ j, j < lo → cmpAt l x j < 0) ∧ ∀ j, hi ≤ j → j < n → 0 ≤ cmpAt l x j) ∧ Hid (Below w0.heap.size w0 wr)) (fun s t _ => (intOf t - intOf s).toNat)
 case atStart => exact ⟨0, n, by omega, by omega, rfl, rfl, ⟨fun j hj => absurd hj (by omega), fun j h1 h2 => absurd h1 (by omega)⟩, Below.refl _ _⟩
 case round =>
  obtain ⟨lo, hi, hlh, hhn, rfl, rfl, HR, HBr⟩ := hrel
  obtain ⟨e0, e1, e2, e3, e4, e5, e6, e7⟩ := op_cells9 ((HBr.out.block _ (by omega)).trans HX.out)
  by_cases hlt : lo < hi
  ·have hli : (lo : Int) < (hi : Int) := by omega
   obtain ⟨m, hm⟩ : ∃ m, m = (lo + hi) / 2 := ⟨_, rfl⟩
   have hmi : ((lo : Int) + (hi : Int)) / 2 = (m : Int) := by omega
   have hmn : m < n := by omega
   have hml : lo ≤ m ∧ m < hi := by omega
   obtain ⟨hml1, hml2⟩ := hml
   clear hm
   go_upto_region 5 with fail
   have hmn' : (m : Int) < (n : Int) := by omega
   obtain ⟨b, off, rfl, hb, ho⟩ := HO.out.2 m hmn
   have HOk : Hid (OpAt w0 b (off + m * 8) (atOp l m)) := ho
   clear ho
   have HC : Hid (cmpAt l x m = numI (atOp l m).dev (atOp l m).seq x.dev x.seq) := rfl
   generalize atOp l m = y at HOk HC
   obtain ⟨d0, d1, d2, d3, d4, d5, d6, d7⟩ := HOk.out.kept (HBr.out.block b (by omega))
   have hS : wr.drew.cell? ⟨b, off + m * 8, none⟩ = some (.int .i64 y.dev) ∧ wr.drew.cell? ⟨b, off + m * 8 + 1, none⟩ = some (.int .i64 y.seq) ∧ wr.drew.cell? ⟨b, off + m * 8 + 2, none⟩ = some (.int .i64 y.stamp) ∧ wr.drew.cell? ⟨b, off + m * 8 + 3, none⟩ = some (.int .i64 y.kind) ∧ wr.drew.cell? ⟨b, off + m * 8 + 4, none⟩ = some (.string y.item) ∧ wr.drew.cell? ⟨b, off + m * 8 + 5, none⟩ = some (.int .i64 y.qty) ∧ wr.drew.cell? ⟨b, off + m * 8 + 6, none⟩ = some (.int .i64 y.level) ∧ wr.drew.cell? ⟨b, off + m * 8 + 7, none⟩ = some (.int .i64 y.undos) ∧ wr.drew.cell? ⟨w.heap.size, 0, none⟩ = some (.int .i64 x.dev) ∧ wr.drew.cell? ⟨w.heap.size, 1, none⟩ = some (.int .i64 x.seq) ∧ wr.drew.cell? ⟨w.heap.size, 2, none⟩ = some (.int .i64 x.stamp) ∧ wr.drew.cell? ⟨w.heap.size, 3, none⟩ = some (.int .i64 x.kind) ∧ wr.drew.cell? ⟨w.heap.size, 4, none⟩ = some (.string x.item) ∧ wr.drew.cell? ⟨w.heap.size, 5, none⟩ = some (.int .i64 x.qty) ∧ wr.drew.cell? ⟨w.heap.size, 6, none⟩ = some (.int .i64 x.level) ∧ wr.drew.cell? ⟨w.heap.size, 7, none⟩ = some (.int .i64 x.undos) := ⟨d0, d1, d2, d3, d4, d5, d6, d7, e0, e1, e2, e3, e4, e5, e6, e7⟩
   go_wp2_with fail
   go_region_held3 (fun w' => w'.cell? ⟨b, off + m * 8, none⟩ = some (.int .i64 y.dev) ∧ w'.cell? ⟨b, off + m * 8 + 1, none⟩ = some (.int .i64 y.seq) ∧ w'.cell? ⟨b, off + m * 8 + 2, none⟩ = some (.int .i64 y.stamp) ∧ w'.cell? ⟨b, off + m * 8 + 3, none⟩ = some (.int .i64 y.kind) ∧ w'.cell? ⟨b, off + m * 8 + 4, none⟩ = some (.string y.item) ∧ w'.cell? ⟨b, off + m * 8 + 5, none⟩ = some (.int .i64 y.qty) ∧ w'.cell? ⟨b, off + m * 8 + 6, none⟩ = some (.int .i64 y.level) ∧ w'.cell? ⟨b, off + m * 8 + 7, none⟩ = some (.int .i64 y.undos) ∧ w'.cell? ⟨w.heap.size, 0, none⟩ = some (.int .i64 x.dev) ∧ w'.cell? ⟨w.heap.size, 1, none⟩ = some (.int .i64 x.seq) ∧ w'.cell? ⟨w.heap.size, 2, none⟩ = some (.int .i64 x.stamp) ∧ w'.cell? ⟨w.heap.size, 3, none⟩ = some (.int .i64 x.kind) ∧ w'.cell? ⟨w.heap.size, 4, none⟩ = some (.string x.item) ∧ w'.cell? ⟨w.heap.size, 5, none⟩ = some (.int .i64 x.qty) ∧ w'.cell? ⟨w.heap.size, 6, none⟩ = some (.int .i64 x.level) ∧ w'.cell? ⟨w.heap.size, 7, none⟩ = some (.int .i64 x.undos)) (first | with_reducible exact hS | with_reducible exact hS2)
    (first | (go_at_call 105; refine (byNumber y.dev y.seq y.stamp y.kind y.item y.qty y.level y.undos x.dev x.seq x.stamp x.kind x.item x.qty x.level x.undos _).mono ?_; rintro e w2 ⟨rfl, hb2⟩; have ⟨q0, q1, q2, q3, q4, q5, q6, q7, q8, q9, q10, q11, q12, q13, q14, q15⟩ := hS; have hS2 : w2.cell? ⟨b, off + m * 8, none⟩ = some (.int .i64 y.dev) ∧ w2.cell? ⟨b, off + m * 8 + 1, none⟩ = some (.int .i64 y.seq) ∧ w2.cell? ⟨b, off + m * 8 + 2, none⟩ = some (.int .i64 y.stamp) ∧ w2.cell? ⟨b, off + m * 8 + 3, none⟩ = some (.int .i64 y.kind) ∧ w2.cell? ⟨b, off + m * 8 + 4, none⟩ = some (.string y.item) ∧ w2.cell? ⟨b, off + m * 8 + 5, none⟩ = some (.int .i64 y.qty) ∧ w2.cell? ⟨b, off + m * 8 + 6, none⟩ = some (.int .i64 y.level) ∧ w2.cell? ⟨b, off + m * 8 + 7, none⟩ = some (.int .i64 y.undos) ∧ w2.cell? ⟨w.heap.size, 0, none⟩ = some (.int .i64 x.dev) ∧ w2.cell? ⟨w.heap.size, 1, none⟩ = some (.int .i64 x.seq) ∧ w2.cell? ⟨w.heap.size, 2, none⟩ = some (.int .i64 x.stamp) ∧ w2.cell? ⟨w.heap.size, 3, none⟩ = some (.int .i64 x.kind) ∧ w2.cell? ⟨w.heap.size, 4, none⟩ = some (.string x.item) ∧ w2.cell? ⟨w.heap.size, 5, none⟩ = some (.int .i64 x.qty) ∧ w2.cell? ⟨w.heap.size, 6, none⟩ = some (.int .i64 x.level) ∧ w2.cell? ⟨w.heap.size, 7, none⟩ = some (.int .i64 x.undos) := ⟨(hb2.cell (block_lt_of_cell q0)).trans q0, (hb2.cell (block_lt_of_cell q1)).trans q1, (hb2.cell (block_lt_of_cell q2)).trans q2, (hb2.cell (block_lt_of_cell q3)).trans q3, (hb2.cell (block_lt_of_cell q4)).trans q4, (hb2.cell (block_lt_of_cell q5)).trans q5, (hb2.cell (block_lt_of_cell q6)).trans q6, (hb2.cell (block_lt_of_cell q7)).trans q7, (hb2.cell (block_lt_of_cell q8)).trans q8, (hb2.cell (block_lt_of_cell q9)).trans q9, (hb2.cell (block_lt_of_cell q10)).trans q10, (hb2.cell (block_lt_of_cell q11)).trans q11, (hb2.cell (block_lt_of_cell q12)).trans q12, (hb2.cell (block_lt_of_cell q13)).trans q13, (hb2.cell (block_lt_of_cell q14)).trans q14, (hb2.cell (block_lt_of_cell q15)).trans q15⟩; clear q0 q1 q2 q3 q4 q5 q6 q7 q8 q9 q10 q11 q12 q13 q14 q15))
   have HB2 := Lib.hid (HBr.out.trans ((Below.mk hb2.os hb2.tape hb2.output hb2.size hb2.block : Below wr.heap.size wr w2).mono HBr.out.size))
   clear hS hS2 hb2 d0 d1 d2 d3 d4 d5 d6 d7 e0 e1 e2 e3 e4 e5 e6 e7
   have HDn := Lib.hid (fun hc => cmp_down (x := x) HInc.out (m := m) (by rw [HL.out]; exact hmn) hc)
   have HUp := Lib.hid (fun hc => cmp_up (x := x) HInc.out (m := m) hc)
   rw [← HC.out]
   generalize cmpAt l x m = cm at HDn HUp ⊢
   by_cases hc : cm < 0
   ·have HRn : Hid ((∀ j, j < m + 1 → cmpAt l x j < 0) ∧ ∀ j, hi ≤ j → j < n → 0 ≤ cmpAt l x j) := ⟨HDn.out hc, HR.out.2⟩
    go_wp2
    go_roundw
    case rel => exact ⟨m + 1, hi, by omega, by omega, by go_num, rfl, HRn, HB2⟩
    case measure => simp [intOf]; omega
   ·have HRn : Hid ((∀ j, j < lo → cmpAt l x j < 0) ∧ ∀ j, m ≤ j → j < n → 0 ≤ cmpAt l x j) := ⟨HR.out.1, fun j h1 h2 => HUp.out (by omega) j h1 (by rw [HL.out]; exact h2)⟩
    go_wp2
    go_roundw
    case rel => exact ⟨lo, m, by omega, by omega, rfl, by go_num, HRn, HB2⟩
    case measure => simp [intOf]; omega
  obtain rfl : lo = hi := by omega
  have hll : ¬ (lo : Int) < (lo : Int) := by omega
  clear hlt
  by_cases hend : lo < n
  ·have hei : (lo : Int) < (n : Int) := by omega
   have HFo := Lib.hid (foundP_mid (x := x) HInc.out (k := lo) (by rw [HL.out]; exact hend) HR.out.1 (HR.out.2 lo (Nat.le_refl _) hend))
   obtain ⟨b, off, rfl, hb, ho⟩ := HO.out.2 lo hend
   have HOk : Hid (OpAt w0 b (off + lo * 8) (atOp l lo)) := ho
   clear ho
   have HC : Hid (cmpAt l x lo = numI (atOp l lo).dev (atOp l lo).seq x.dev x.seq) := rfl
   generalize atOp l lo = y at HOk HC
   obtain ⟨d0, d1, d2, d3, d4, d5, d6, d7⟩ := HOk.out.kept (HBr.out.block b (by omega))
   have hS : wr.drew.cell? ⟨b, off + lo * 8, none⟩ = some (.int .i64 y.dev) ∧ wr.drew.cell? ⟨b, off + lo * 8 + 1, none⟩ = some (.int .i64 y.seq) ∧ wr.drew.cell? ⟨b, off + lo * 8 + 2, none⟩ = some (.int .i64 y.stamp) ∧ wr.drew.cell? ⟨b, off + lo * 8 + 3, none⟩ = some (.int .i64 y.kind) ∧ wr.drew.cell? ⟨b, off + lo * 8 + 4, none⟩ = some (.string y.item) ∧ wr.drew.cell? ⟨b, off + lo * 8 + 5, none⟩ = some (.int .i64 y.qty) ∧ wr.drew.cell? ⟨b, off + lo * 8 + 6, none⟩ = some (.int .i64 y.level) ∧ wr.drew.cell? ⟨b, off + lo * 8 + 7, none⟩ = some (.int .i64 y.undos) ∧ wr.drew.cell? ⟨w.heap.size, 0, none⟩ = some (.int .i64 x.dev) ∧ wr.drew.cell? ⟨w.heap.size, 1, none⟩ = some (.int .i64 x.seq) ∧ wr.drew.cell? ⟨w.heap.size, 2, none⟩ = some (.int .i64 x.stamp) ∧ wr.drew.cell? ⟨w.heap.size, 3, none⟩ = some (.int .i64 x.kind) ∧ wr.drew.cell? ⟨w.heap.size, 4, none⟩ = some (.string x.item) ∧ wr.drew.cell? ⟨w.heap.size, 5, none⟩ = some (.int .i64 x.qty) ∧ wr.drew.cell? ⟨w.heap.size, 6, none⟩ = some (.int .i64 x.level) ∧ wr.drew.cell? ⟨w.heap.size, 7, none⟩ = some (.int .i64 x.undos) := ⟨d0, d1, d2, d3, d4, d5, d6, d7, e0, e1, e2, e3, e4, e5, e6, e7⟩
   go_wp2_with fail
   refine wp_region_held_drew (S := fun w' => w'.cell? ⟨b, off + lo * 8, none⟩ = some (.int .i64 y.dev) ∧ w'.cell? ⟨b, off + lo * 8 + 1, none⟩ = some (.int .i64 y.seq) ∧ w'.cell? ⟨b, off + lo * 8 + 2, none⟩ = some (.int .i64 y.stamp) ∧ w'.cell? ⟨b, off + lo * 8 + 3, none⟩ = some (.int .i64 y.kind) ∧ w'.cell? ⟨b, off + lo * 8 + 4, none⟩ = some (.string y.item) ∧ w'.cell? ⟨b, off + lo * 8 + 5, none⟩ = some (.int .i64 y.qty) ∧ w'.cell? ⟨b, off + lo * 8 + 6, none⟩ = some (.int .i64 y.level) ∧ w'.cell? ⟨b, off + lo * 8 + 7, none⟩ = some (.int .i64 y.undos) ∧ w'.cell? ⟨w.heap.size, 0, none⟩ = some (.int .i64 x.dev) ∧ w'.cell? ⟨w.heap.size, 1, none⟩ = some (.int .i64 x.seq) ∧ w'.cell? ⟨w.heap.size, 2, none⟩ = some (.int .i64 x.stamp) ∧ w'.cell? ⟨w.heap.size, 3, none⟩ = some (.int .i64 x.kind) ∧ w'.cell? ⟨w.heap.size, 4, none⟩ = some (.string x.item) ∧ w'.cell? ⟨w.heap.size, 5, none⟩ = some (.int .i64 x.qty) ∧ w'.cell? ⟨w.heap.size, 6, none⟩ = some (.int .i64 x.level) ∧ w'.cell? ⟨w.heap.size, 7, none⟩ = some (.int .i64 x.undos)) (by kernel_rfl) hS (fun hHeld => ?_)
   refine tk 0 ⟨some 35, .move (.tmp 9), 3, "sort.go:167", #[], none⟩ ?_
   (try simp only [Act.put, u1, u2, u3])
   refine tk 1 ⟨some 36, .move (.tmp 9), 3, "sort.go:167", #[], none⟩ ?_
   (try simp only [Act.put, u1, u2, u3])
   refine tk 2 ⟨some 37, .move (.tmp 8), 3, "sort.go:167", #[], none⟩ ?_
   (try simp only [Act.put, u1, u2, u3])
   refine tk 3 ⟨some 38, .binOp .lss 3 (.tmp 36) (.tmp 37) 3, 4, "sort.go:167", #[⟨1, .data⟩, ⟨2, .data⟩], none⟩ ?_
   (try simp only [Act.put, u1, u2, u3])
   refine tk 4 ⟨some 39, .move (.tmp 38), 4, "sort.go:167", #[⟨3, .data⟩], none⟩ ?_
   (try simp only [Act.put, u1, u2, u3])
   refine tk 5 ⟨some 40, .move (.tmp 2), 70, "sort.go:167", #[⟨4, .guard⟩], some (4, true)⟩ ?_
   (try simp only [Act.put, u1, u2, u3])
   refine tk 6 ⟨some 41, .move (.tmp 0), 27, "sort.go:167", #[⟨4, .guard⟩], some (4, true)⟩ ?_
   (try simp only [Act.put, u1, u2, u3])
   refine tk 7 ⟨some 42, .move (.tmp 9), 3, "sort.go:167", #[⟨4, .guard⟩], some (4, true)⟩ ?_
   (try simp only [Act.put, u1, u2, u3])
   refine tk 8 ⟨some 43, .indexAddr 27 (.tmp 41) (.tmp 42), 0, "sort.go:167", #[⟨6, .data⟩, ⟨7, .data⟩, ⟨4, .guard⟩], some (4, true)⟩ ?_
   (try simp only [Act.put, u1, u2, u3])
   refine tk 9 ⟨some 44, .load 77 (.tmp 43), 77, "sort.go:167", #[⟨8, .data⟩, ⟨4, .guard⟩], some (4, true)⟩ ?_
   (try simp only [Act.put, u1, u2, u3])
   refine tk 10 ⟨some 45, .load 77 (.tmp 4), 77, "sort.go:167", #[⟨4, .guard⟩], some (4, true)⟩ ?_
   (try simp only [Act.put, u1, u2, u3])
   refine rk 11 rfl (fun K hK => ?_)
   go_simp
   go_at_call 105
   refine (byNumber y.dev y.seq y.stamp y.kind y.item y.qty y.level y.undos x.dev x.seq x.stamp x.kind x.item x.qty x.level x.undos _).mono ?_
   rintro e w2 ⟨rfl, hb2⟩
   rw [← HC.out]
   have hS2 : w2.cell? ⟨b, off + lo * 8, none⟩ = some (.int .i64 y.dev) ∧ w2.cell? ⟨b, off + lo * 8 + 1, none⟩ = some (.int .i64 y.seq) ∧ w2.cell? ⟨b, off + lo * 8 + 2, none⟩ = some (.int .i64 y.stamp) ∧ w2.cell? ⟨b, off + lo * 8 + 3, none⟩ = some (.int .i64 y.kind) ∧ w2.cell? ⟨b, off + lo * 8 + 4, none⟩ = some (.string y.item) ∧ w2.cell? ⟨b, off + lo * 8 + 5, none⟩ = some (.int .i64 y.qty) ∧ w2.cell? ⟨b, off + lo * 8 + 6, none⟩ = some (.int .i64 y.level) ∧ w2.cell? ⟨b, off + lo * 8 + 7, none⟩ = some (.int .i64 y.undos) ∧ w2.cell? ⟨w.heap.size, 0, none⟩ = some (.int .i64 x.dev) ∧ w2.cell? ⟨w.heap.size, 1, none⟩ = some (.int .i64 x.seq) ∧ w2.cell? ⟨w.heap.size, 2, none⟩ = some (.int .i64 x.stamp) ∧ w2.cell? ⟨w.heap.size, 3, none⟩ = some (.int .i64 x.kind) ∧ w2.cell? ⟨w.heap.size, 4, none⟩ = some (.string x.item) ∧ w2.cell? ⟨w.heap.size, 5, none⟩ = some (.int .i64 x.qty) ∧ w2.cell? ⟨w.heap.size, 6, none⟩ = some (.int .i64 x.level) ∧ w2.cell? ⟨w.heap.size, 7, none⟩ = some (.int .i64 x.undos) := by
     obtain ⟨q0, q1, q2, q3, q4, q5, q6, q7, q8, q9, q10, q11, q12, q13, q14, q15⟩ := hS
     exact ⟨(hb2.cell (block_lt_of_cell q0)).trans q0, (hb2.cell (block_lt_of_cell q1)).trans q1, (hb2.cell (block_lt_of_cell q2)).trans q2, (hb2.cell (block_lt_of_cell q3)).trans q3, (hb2.cell (block_lt_of_cell q4)).trans q4, (hb2.cell (block_lt_of_cell q5)).trans q5, (hb2.cell (block_lt_of_cell q6)).trans q6, (hb2.cell (block_lt_of_cell q7)).trans q7, (hb2.cell (block_lt_of_cell q8)).trans q8, (hb2.cell (block_lt_of_cell q9)).trans q9, (hb2.cell (block_lt_of_cell q10)).trans q10, (hb2.cell (block_lt_of_cell q11)).trans q11, (hb2.cell (block_lt_of_cell q12)).trans q12, (hb2.cell (block_lt_of_cell q13)).trans q13, (hb2.cell (block_lt_of_cell q14)).trans q14, (hb2.cell (block_lt_of_cell q15)).trans q15⟩
   refine hK.out _ _ hS2 (fun hHeld2 => ?_)
   clear hK K
   (try simp only [Act.put, u1, u2, u3])
   have HB2 := Lib.hid (HBr.out.trans ((Below.mk hb2.os hb2.tape hb2.output hb2.size hb2.block : Below wr.heap.size wr w2).mono HBr.out.size))
   generalize cmpAt l x lo = cm at HFo HC ⊢
   have hcz : (cm == 0) = decide (cm = 0) := by by_cases h : cm = 0 <;> simp [h]
   refine tk 12 ⟨some 47, .binOp .eql 3 (.tmp 46) (.const (Value.int IntKind.i64 0)) 3, 4, "sort.go:167", #[⟨11, .data⟩, ⟨4, .guard⟩, { on := 14, ground := Ground.gcOnly Departure.lateStores }], some (4, true)⟩ ?_
   (try simp only [Act.put, u1, u2, u3])
   refine tk 13 ⟨some 48, .pick (.tmp 39) (.tmp 47) (.const (Value.bool false)), 4, "sort.go:167", #[⟨4, .data⟩, ⟨12, .data⟩, { on := 14, ground := Ground.gcOnly Departure.lateStores }], none⟩ ?_
   (try simp only [Act.put, u1, u2, u3])
   refine tk 14 ⟨some 6, .assign (.tmp 35), 3, "sort.go:167", #[⟨0, .data⟩, ⟨11, .chain⟩, ⟨0, .phase⟩, ⟨1, .textOnly .lateStores⟩, ⟨2, .textOnly .lateStores⟩, ⟨3, .textOnly .lateStores⟩, ⟨4, .textOnly .lateStores⟩, ⟨5, .textOnly .lateStores⟩, ⟨6, .textOnly .lateStores⟩, ⟨7, .textOnly .lateStores⟩, ⟨8, .textOnly .lateStores⟩, ⟨9, .textOnly .lateStores⟩, ⟨10, .textOnly .lateStores⟩, ⟨11, .textOnly .lateStoresUnsure⟩, ⟨12, .textOnly .lateStores⟩, ⟨13, .textOnly .lateStores⟩], none⟩ ?_
   (try simp only [Act.put, u1, u2, u3])
   refine tk 15 ⟨some 7, .assign (.tmp 48), 4, "sort.go:167", #[⟨13, .data⟩, ⟨14, .chain⟩, ⟨0, .phase⟩, ⟨1, .phase⟩, ⟨2, .phase⟩, ⟨3, .phase⟩, ⟨4, .phase⟩, ⟨5, .phase⟩, ⟨6, .phase⟩, ⟨7, .phase⟩, ⟨8, .phase⟩, ⟨9, .phase⟩, ⟨10, .phase⟩, ⟨11, .phase⟩, ⟨12, .phase⟩, ⟨13, .phase⟩, ⟨14, .phase⟩], none⟩ ?_
   (try simp only [Act.put, u1, u2, u3])
   refine wpAnyH_done (by kernel_rfl) ?_ _
   clear hS hS2 hb2 hHeld hHeld2 d0 d1 d2 d3 d4 d5 d6 d7 e0 e1 e2 e3 e4 e5 e6 e7 hcz
   go_wp2
   go_ret2
   exact ⟨⟨lo, _, rfl, HFo.out⟩, HB.out.trans (HB2.out.mono HB.out.size)⟩
  ·obtain rfl : lo = n := by omega
   have hei : decide ((lo : Int) < (lo : Int)) = false := decide_eq_false (by omega)
   have HFo : Hid (FoundP l x lo false) := by have := foundP_end (x := x) HInc.out (fun j hj => HR.out.1 j (by rw [← HL.out]; exact hj)); rw [HL.out] at this; exact this
   have hS : wr.drew.cell? ⟨w.heap.size, 0, none⟩ = some (.int .i64 x.dev) ∧ wr.drew.cell? ⟨w.heap.size, 1, none⟩ = some (.int .i64 x.seq) ∧ wr.drew.cell? ⟨w.heap.size, 2, none⟩ = some (.int .i64 x.stamp) ∧ wr.drew.cell? ⟨w.heap.size, 3, none⟩ = some (.int .i64 x.kind) ∧ wr.drew.cell? ⟨w.heap.size, 4, none⟩ = some (.string x.item) ∧ wr.drew.cell? ⟨w.heap.size, 5, none⟩ = some (.int .i64 x.qty) ∧ wr.drew.cell? ⟨w.heap.size, 6, none⟩ = some (.int .i64 x.level) ∧ wr.drew.cell? ⟨w.heap.size, 7, none⟩ = some (.int .i64 x.undos) := ⟨e0, e1, e2, e3, e4, e5, e6, e7⟩
   go_wp2_with fail
   refine wp_region_held_drew (S := fun w' => w'.cell? ⟨w.heap.size, 0, none⟩ = some (.int .i64 x.dev) ∧ w'.cell? ⟨w.heap.size, 1, none⟩ = some (.int .i64 x.seq) ∧ w'.cell? ⟨w.heap.size, 2, none⟩ = some (.int .i64 x.stamp) ∧ w'.cell? ⟨w.heap.size, 3, none⟩ = some (.int .i64 x.kind) ∧ w'.cell? ⟨w.heap.size, 4, none⟩ = some (.string x.item) ∧ w'.cell? ⟨w.heap.size, 5, none⟩ = some (.int .i64 x.qty) ∧ w'.cell? ⟨w.heap.size, 6, none⟩ = some (.int .i64 x.level) ∧ w'.cell? ⟨w.heap.size, 7, none⟩ = some (.int .i64 x.undos)) (by kernel_rfl) hS (fun hHeld => ?_)
   refine tk 0 ⟨some 35, .move (.tmp 9), 3, "sort.go:167", #[], none⟩ ?_
   (try simp only [Act.put, u1, u2, u3])
   refine tk 1 ⟨some 36, .move (.tmp 9), 3, "sort.go:167", #[], none⟩ ?_
   (try simp only [Act.put, u1, u2, u3])
   refine tk 2 ⟨some 37, .move (.tmp 8), 3, "sort.go:167", #[], none⟩ ?_
   (try simp only [Act.put, u1, u2, u3])
   refine tk 3 ⟨some 38, .binOp .lss 3 (.tmp 36) (.tmp 37) 3, 4, "sort.go:167", #[⟨1, .data⟩, ⟨2, .data⟩], none⟩ ?_
   (try simp only [Act.put, u1, u2, u3])
   refine tk 4 ⟨some 39, .move (.tmp 38), 4, "sort.go:167", #[⟨3, .data⟩], none⟩ ?_
   (try simp only [Act.put, u1, u2, u3])
   refine sk 5 ⟨some 40, .move (.tmp 2), 70, "sort.go:167", #[⟨4, .guard⟩], some (4, true)⟩ ?_
   (try simp only [Act.put, u1, u2, u3])
   refine sk 6 ⟨some 41, .move (.tmp 0), 27, "sort.go:167", #[⟨4, .guard⟩], some (4, true)⟩ ?_
   (try simp only [Act.put, u1, u2, u3])
   refine sk 7 ⟨some 42, .move (.tmp 9), 3, "sort.go:167", #[⟨4, .guard⟩], some (4, true)⟩ ?_
   (try simp only [Act.put, u1, u2, u3])
   refine sk 8 ⟨some 43, .indexAddr 27 (.tmp 41) (.tmp 42), 0, "sort.go:167", #[⟨6, .data⟩, ⟨7, .data⟩, ⟨4, .guard⟩], some (4, true)⟩ ?_
   (try simp only [Act.put, u1, u2, u3])
   refine sk 9 ⟨some 44, .load 77 (.tmp 43), 77, "sort.go:167", #[⟨8, .data⟩, ⟨4, .guard⟩], some (4, true)⟩ ?_
   (try simp only [Act.put, u1, u2, u3])
   refine sk 10 ⟨some 45, .load 77 (.tmp 4), 77, "sort.go:167", #[⟨4, .guard⟩], some (4, true)⟩ ?_
   (try simp only [Act.put, u1, u2, u3])
   refine sk 11 ⟨some 46, .call ⟨.value (.tmp 40), #[.tmp 44, .tmp 45], #[77, 77]⟩, 3, "sort.go:167", #[⟨5, .data⟩, ⟨9, .data⟩, ⟨10, .data⟩, ⟨4, .chain⟩, ⟨4, .guard⟩], some (4, true)⟩ ?_
   (try simp only [Act.put, u1, u2, u3])
   refine sk 12 ⟨some 47, .binOp .eql 3 (.tmp 46) (.const (Value.int IntKind.i64 0)) 3, 4, "sort.go:167", #[⟨11, .data⟩, ⟨4, .guard⟩, { on := 14, ground := Ground.gcOnly Departure.lateStores }], some (4, true)⟩ ?_
   (try simp only [Act.put, u1, u2, u3])
   refine tk 13 ⟨some 48, .pick (.tmp 39) (.tmp 47) (.const (Value.bool false)), 4, "sort.go:167", #[⟨4, .data⟩, ⟨12, .data⟩, { on := 14, ground := Ground.gcOnly Departure.lateStores }], none⟩ ?_
   (try simp only [Act.put, u1, u2, u3])
   refine tk 14 ⟨some 6, .assign (.tmp 35), 3, "sort.go:167", #[⟨0, .data⟩, ⟨11, .chain⟩, ⟨0, .phase⟩, ⟨1, .textOnly .lateStores⟩, ⟨2, .textOnly .lateStores⟩, ⟨3, .textOnly .lateStores⟩, ⟨4, .textOnly .lateStores⟩, ⟨5, .textOnly .lateStores⟩, ⟨6, .textOnly .lateStores⟩, ⟨7, .textOnly .lateStores⟩, ⟨8, .textOnly .lateStores⟩, ⟨9, .textOnly .lateStores⟩, ⟨10, .textOnly .lateStores⟩, ⟨11, .textOnly .lateStoresUnsure⟩, ⟨12, .textOnly .lateStores⟩, ⟨13, .textOnly .lateStores⟩], none⟩ ?_
   (try simp only [Act.put, u1, u2, u3])
   refine tk 15 ⟨some 7, .assign (.tmp 48), 4, "sort.go:167", #[⟨13, .data⟩, ⟨14, .chain⟩, ⟨0, .phase⟩, ⟨1, .phase⟩, ⟨2, .phase⟩, ⟨3, .phase⟩, ⟨4, .phase⟩, ⟨5, .phase⟩, ⟨6, .phase⟩, ⟨7, .phase⟩, ⟨8, .phase⟩, ⟨9, .phase⟩, ⟨10, .phase⟩, ⟨11, .phase⟩, ⟨12, .phase⟩, ⟨13, .phase⟩, ⟨14, .phase⟩], none⟩ ?_
   (try simp only [Act.put, u1, u2, u3])
   refine wpAnyH_done (by kernel_rfl) ?_ _
   clear hS hHeld e0 e1 e2 e3 e4 e5 e6 e7
   go_wp2
   go_ret2
   exact ⟨⟨lo, false, rfl, HFo.out⟩, HB.out.trans ((Below.mk HBr.out.os HBr.out.tape HBr.out.output HBr.out.size HBr.out.block : Below w0.heap.size w0 wr.drew).mono HB.out.size)⟩
theorem ops_tail {w : World} {B b off n : Nat} {R : List OpV} (h : Ops w B (some ⟨b, off, none⟩) n R) {p : Nat} (hp : p ≤ n) : Ops w B (some ⟨b, off + p * 8, none⟩) (n - p) (R.drop p) := by
 refine ⟨by rw [List.length_drop, h.1], fun i hi => ?_⟩
 obtain ⟨b', off', e, hb, ho⟩ := h.2 (p + i) (by omega)
 injection e with e
 injection e with e1 e2
 subst e1 e2
 refine ⟨b, off + p * 8, rfl, hb, ?_⟩
 have e2 : (R.drop p).getD i OpV.zero = R.getD (p + i) OpV.zero := by
  rw [List.getD_eq_getElem?_getD, List.getD_eq_getElem?_getD, List.getElem?_drop]
 rw [e2]
 have e3 : off + p * 8 + i * 8 = off + (p + i) * 8 := by omega
 rw [e3]
 exact ho
theorem uni_step {l m : List OpV} {k : Nat} {A R : List OpV} (h : uniTo l m k = some (A, R)) : uniTo l m (k + 1) = uniS (atOp l k) (A, R) := by
 rw [uniTo, h]
 rfl
theorem uniS_no {e : OpV} {A R : List OpV} (h : ¬ (plc e R < R.length ∧ sameN (atOp R (plc e R)) e)) : uniS e (A, R) = some (A ++ R.take (plc e R) ++ [e], R.drop (plc e R)) := by
 unfold uniS
 rw [if_neg h]
theorem uniS_yes {e : OpV} {A R : List OpV} (h : plc e R < R.length ∧ sameN (atOp R (plc e R)) e) (hs : sameB e (atOp R (plc e R)) = true) : uniS e (A, R) = some (A ++ R.take (plc e R) ++ [e.with (max e.undos (atOp R (plc e R)).undos)], R.drop (plc e R + 1)) := by
 unfold uniS
 rw [if_pos h, if_pos hs]
theorem uniS_bad {e : OpV} {A R : List OpV} (h : plc e R < R.length ∧ sameN (atOp R (plc e R)) e) (hs : sameB e (atOp R (plc e R)) = false) : uniS e (A, R) = none := by
 unfold uniS
 rw [if_pos h, if_neg (by rw [hs]; simp)]
/-- Once it is none it stays none. -/
theorem uni_stays {l m : List OpV} {k : Nat} (h : uniTo l m k = none) : ∀ n, k ≤ n → uniTo l m n = none
 | 0, hk => by
  obtain rfl : k = 0 := by omega
  exact h
 | n + 1, hk => by
  rcases Nat.eq_or_lt_of_le hk with e | e
  ·rw [← e]; exact h
  ·rw [uniTo, uni_stays h n (by omega)]
   rfl
theorem union_stop {l m : List OpV} {k : Nat} (hk : k ≤ l.length) (h : uniTo l m k = none) : unionO l m = none := by
 unfold unionO
 rw [uni_stays h l.length hk]
 rfl
theorem union_end {l m A R : List OpV} (h : uniTo l m l.length = some (A, R)) : unionO l m = some (A ++ R) := by
 unfold unionO
 rw [h]
 rfl
/-- How long they are. -/
theorem uni_long {l m : List OpV} : ∀ k A R, uniTo l m k = some (A, R) → A.length + R.length ≤ k + m.length
 | 0, A, R, h => by
  rw [uniTo] at h
  injection h with h
  injection h with h1 h2
  subst h1 h2
  simp
 | k + 1, A, R, h => by
  rw [uniTo] at h
  cases hu : uniTo l m k with
  | none => rw [hu] at h; cases h
  | some s =>
   obtain ⟨A', R'⟩ := s
   have ih := uni_long k A' R' hu
   rw [hu] at h
   have hp := plc_le (atOp l k) R'
   have h : uniS (atOp l k) (A', R') = some (A, R) := h
   unfold uniS at h
   split at h
   ·split at h
    ·injection h with h
     injection h with h1 h2
     subst h1 h2
     simp only [List.length_append, List.length_take, List.length_drop, List.length_cons, List.length_nil] at *
     omega
    ·cases h
   ·injection h with h
    injection h with h1 h2
    subst h1 h2
    simp only [List.length_append, List.length_take, List.length_drop, List.length_cons, List.length_nil] at *
    omega
/-- What is left of the second list stays in order. -/
theorem uni_inc {l m : List OpV} (hl : incB l = true) (hm : incB m = true) {k : Nat} (hk : k ≤ l.length) {A R : List OpV} (h : uniTo l m k = some (A, R)) : incB R = true :=
 inc_of_srt (ui_suf (uni_some hl hm k hk A R h)).2
theorem uo_from {l m U : List OpV} (hU : UO l m U) {x : OpV} (hx : x ∈ U) : ∃ y, (y ∈ l ∨ y ∈ m) ∧ y.dev = x.dev ∧ y.seq = x.seq ∧ y.item = x.item := by
 obtain ⟨hj, hp⟩ := hU.val x hx
 cases ha : getO l x.dev x.seq with
 | some a =>
  obtain ⟨h1, h2, h3⟩ := getO_mem ha
  refine ⟨a, .inl h1, h2, h3, ?_⟩
  cases hb : getO m x.dev x.seq with
  | some b => rw [joinAt_b ha hb] at hj; rw [← hj]; rfl
  | none => rw [joinAt_l ha hb] at hj; rw [← hj]
 | none =>
  cases hb : getO m x.dev x.seq with
  | some b =>
   obtain ⟨h1, h2, h3⟩ := getO_mem hb
   rw [joinAt_m ha hb] at hj
   exact ⟨b, .inr h1, h2, h3, by rw [← hj]⟩
  | none => rw [ha, hb] at hp; simp at hp
theorem union_items {l m U : List OpV} (hU : UO l m U) {N : Nat} (h1 : ∀ i, i < l.length → (atOp l i).item.size ≤ N) (h2 : ∀ i, i < m.length → (atOp m i).item.size ≤ N) : ∀ i, i < U.length → (atOp U i).item.size ≤ N := fun i hi => by
 obtain ⟨y, hy, _, _, e⟩ := uo_from hU (atU_mem hi)
 rw [← e]
 rcases hy with hy | hy
 ·obtain ⟨j, hj, rfl⟩ := mem_atU hy
  exact h1 j hj
 ·obtain ⟨j, hj, rfl⟩ := mem_atU hy
  exact h2 j hj
theorem srt_count : ∀ {U : List OpV} (lo : Int), SrtO U → lo ≤ 160 → (∀ x, x ∈ U → lo < x.dev * 40 + x.seq ∧ x.dev ≤ 3 ∧ 1 ≤ x.seq ∧ x.seq ≤ 40) → (U.length : Int) ≤ 160 - lo
 | [], lo, _, hl, _ => by show ((0 : Nat) : Int) ≤ _; omega
 | x :: r, lo, hs, hl, h => by
  obtain ⟨h1, h2⟩ := List.pairwise_cons.1 hs
  obtain ⟨g1, g2, g3, g4⟩ := h x (by simp)
  have := srt_count (x.dev * 40 + x.seq) h2 (by omega) (fun y hy => by
   obtain ⟨k1, k2, k3, k4⟩ := h y (by simp [hy])
   have hlt := h1 y hy
   unfold ltO numB at hlt
   have := of_decide_eq_true hlt
   refine ⟨?_, k2, k3, k4⟩
   omega)
  rw [List.length_cons]
  omega
theorem op_num {o : OpV} (h : o.ok = true) : 0 ≤ o.dev ∧ o.dev ≤ 3 ∧ 1 ≤ o.seq ∧ o.seq ≤ 40 := by
 have h' : opB o.dev o.seq o.stamp o.kind o.item o.qty o.level o.undos = true := h
 unfold opB headB at h'
 simp only [Bool.and_eq_true] at h'
 obtain ⟨⟨hd, hs, _⟩, _⟩ := h'
 have h1 := inB_iff.1 hd
 have h2 := inB_iff.1 hs
 exact ⟨h1.1, h1.2, h2.1, h2.2⟩
theorem union_long {xs ys : List Int} {l m U : List OpV} (hc : cartB xs l = true) (hp : partB ys m = true) (hU : UO l m U) : U.length ≤ 160 := by
 have := srt_count (U := U) 0 hU.srt (by omega) (fun x hx => by
  obtain ⟨y, hy, e1, e2, _⟩ := uo_from hU hx
  have hk : y.ok = true := by
   rcases hy with hy | hy
   ·obtain ⟨j, hj, rfl⟩ := mem_atU hy
    obtain ⟨_, _, _, _, _, e, _⟩ := cart_atV hc hj
    exact e
   ·obtain ⟨j, hj, rfl⟩ := mem_atU hy
    exact ((part_split hp).2.1 j hj).1
  obtain ⟨q1, q2, q3, q4⟩ := op_num hk
  rw [← e1, ← e2]
  refine ⟨?_, q2, q3, q4⟩
  omega)
 omega
theorem tak_no1 {xs ys : List Int} {l m : List OpV} (h : cartB xs l = false) : takB xs l ys m = false := by unfold takB; rw [h]; rfl
theorem tak_no2 {xs ys : List Int} {l m : List OpV} (h : partB ys m = false) : takB xs l ys m = false := by unfold takB; rw [h, Bool.false_and, Bool.and_false]
theorem tak_no3 {xs ys : List Int} {l m : List OpV} (h : unionO l m = none) : takB xs l ys m = false := by unfold takB; rw [h, Bool.and_false, Bool.and_false]
theorem tak_is {xs ys : List Int} {l m U : List OpV} (h1 : cartB xs l = true) (h2 : partB ys m = true) (h3 : unionO l m = some U) : takB xs l ys m = cartB (maxV xs ys) U := by unfold takB; rw [h1, h2, h3, Bool.true_and, Bool.true_and]
set_option linter.unusedVariables false
set_option linter.unusedSimpArgs false
set_option linter.unusedSimpArgs false
set_option linter.unusedVariables false

theorem atOp_mem {l : List OpV} {i : Nat} (h : i < l.length) : atOp l i ∈ l := by
 unfold atOp
 rw [List.getD_eq_getElem?_getD, List.getElem?_eq_getElem h]
 exact List.getElem_mem h
theorem getO_name {m : List OpV} {d s : Int} {y : OpV} (h : getO m d s = some y) : ∃ i, i < m.length ∧ eqN m i d s ∧ atOp m i = y := setF_some _ h
theorem del_okW {xs ys : List Int} {l m : List OpV} (h : mergedB xs l ys m = true) {i : Nat} (hi : i < l.length) : delB m (atOp l i) = !okW m (atOp l i) := by
 obtain ⟨hl, hm, _⟩ := mergedB_parts h
 cases hg : getO m (atOp l i).dev (atOp l i).seq with
 | none =>
  have hg' : setF m m.length (atOp l i).dev (atOp l i).seq = none := hg
  rw [okW_none hg']
  refine delB_none fun j hj e => ?_
  have := setF_hit (cart_inc hm) m.length (Nat.le_refl _) j hj
  unfold eqN at e
  rw [e.1, e.2, hg'] at this
  cases this
 | some y =>
  have hg' : setF m m.length (atOp l i).dev (atOp l i).seq = some y := hg
  rw [okW_some hg']
  obtain ⟨j, hj, e, ey⟩ := getO_name hg
  rw [delB_at (cart_inc hm) hj e, ey]
  obtain ⟨d, hd, a1, a2, _, e1, e2⟩ := cart_at hl hi
  have hga : getO l (d : Int) (((i - stOf xs d : Nat) : Int) + 1) = some (atOp l i) := by
   have := setF_hit (cart_inc hl) l.length (Nat.le_refl _) i hi
   rw [e1, e2] at this
   exact this
  have hgb : getO m (d : Int) (((i - stOf xs d : Nat) : Int) + 1) = some y := by
   rw [e1, e2] at hg
   exact hg
  have hs : sameB (atOp l i) y = true := by
   rw [fit_same h hd hga hgb]
   exact same_with _ _
  rw [hs, Bool.true_and]
  by_cases hu : (atOp l i).undos ≤ y.undos
  ·rw [decide_eq_true hu, decide_eq_false (by omega)]; rfl
  ·rw [decide_eq_false hu, decide_eq_true (by omega)]; rfl
theorem del_empty {xs ys : List Int} {l m : List OpV} (h : mergedB xs l ys m = true) : decide ((l.filter (delB m)).length = 0) = inCart xs l ys m := by
 obtain ⟨hl, hm, _⟩ := mergedB_parts h
 rw [inCart_3 hl hm]
 cases hw : allW m l with
 | true =>
  refine decide_eq_true ?_
  rw [List.length_eq_zero_iff, List.filter_eq_nil_iff]
  intro o ho
  obtain ⟨i, hi, e⟩ := List.mem_iff_getElem.1 ho
  have eo : atOp l i = o := by
   unfold atOp
   rw [List.getD_eq_getElem?_getD, List.getElem?_eq_getElem hi]
   exact e
  unfold allW at hw
  rw [List.all_eq_true] at hw
  have := hw i (by simpa using hi)
  rw [← eo, del_okW h hi, this]
  decide
 | false =>
  refine decide_eq_false fun e => ?_
  rw [List.length_eq_zero_iff, List.filter_eq_nil_iff] at e
  have : allW m l = true := allW_end fun i hi => by
   have h1 := e _ (atOp_mem hi)
   rw [del_okW h hi] at h1
   cases hk : okW m (atOp l i)
   ·rw [hk] at h1; exact absurd rfl h1
   ·rfl
  rw [this] at hw
  cases hw
theorem cart_part {xs : List Int} {l : List OpV} (h : cartB xs l = true) : partB xs l = true := by
 refine (part_all (cart_split h).1 fun i hi => ?_).trans (cart_inc h)
 obtain ⟨d, k, h1, h2, _, h3, h4, h5⟩ := cart_atV h hi
 unfold okAt
 rw [Bool.and_eq_true]
 refine ⟨h3, decide_eq_true ?_⟩
 rw [h4, h5, Int.toNat_natCast]
 omega
/-- What a delta has under a name. -/
theorem del_get {xs : List Int} {l m : List OpV} (h : cartB xs l = true) (d s : Int) : (getO l d s = none → getO (l.filter (delB m)) d s = none) ∧ (∀ a, getO l d s = some a → delB m a = true → getO (l.filter (delB m)) d s = some a) ∧ (∀ a, getO l d s = some a → delB m a = false → getO (l.filter (delB m)) d s = none) := by
 have hinc := cart_inc h
 have hD : incB (l.filter (delB m)) = true := inc_of_srt ((srt_of_inc hinc).filter _)
 refine ⟨fun hn => getO_no fun x hx he => ?_, fun a ha hd => ?_, fun a ha hd => getO_no fun x hx he => ?_⟩
 ·have := getO_of hinc (List.mem_filter.1 hx).1
  rw [he.1, he.2, hn] at this
  cases this
 ·obtain ⟨h1, h2, h3⟩ := getO_mem ha
  have := getO_of hD (List.mem_filter.2 ⟨h1, hd⟩)
  rw [h2, h3] at this
  exact this
 ·have := getO_of hinc (List.mem_filter.1 hx).1
  rw [he.1, he.2, ha] at this
  injection this with this
  rw [this, (List.mem_filter.1 hx).2] at hd
  cases hd
theorem part_del {xs : List Int} {l m : List OpV} (h : cartB xs l = true) : partB xs (l.filter (delB m)) = true := by
 have hp := part_split (cart_part h)
 refine (part_all hp.1 fun i hi => ?_).trans (inc_of_srt ((srt_of_inc (cart_inc h)).filter _))
 obtain ⟨j, hj, e⟩ := mem_atU (List.mem_filter.1 (atU_mem hi)).1
 have := hp.2.1 j hj
 rw [e] at this
 unfold okAt
 rw [Bool.and_eq_true]
 exact ⟨this.1, decide_eq_true this.2⟩
theorem deltas_law {xs ys : List Int} {l m : List OpV} (h : mergedB xs l ys m = true) :
  partB xs (l.filter (delB m)) = true ∧ takB ys m xs (l.filter (delB m)) = true ∧ maxV ys xs = maxV xs ys ∧ takOs m (l.filter (delB m)) true = mergeL (maxV xs ys) l m ∧ mergedB xs l xs l = true ∧ l.filter (delB l) = [] := by
 obtain ⟨h1, h2, h3⟩ := mergedB_parts h
 have hs := merged_in (in_self h1)
 have hp := part_del (m := m) h1
 have hmax := maxV_symm ys xs
 have l1 := (vec_at (cart_true h1).1 (d := 0) (by omega)).2.2
 have l2 := (vec_at (cart_true h2).1 (d := 0) (by omega)).2.2
 have hnone : ∀ a, a ∈ l → getO m a.dev a.seq = none → delB m a = true := fun a ha hn => by
  obtain ⟨i, hi, rfl⟩ := mem_atU ha
  rw [del_okW h hi, okW_none hn]
  rfl
 have hsome : ∀ a b, a ∈ l → getO m a.dev a.seq = some b → delB m a = !(sameB a b && decide (a.undos ≤ b.undos)) := fun a b ha hn => by
  obtain ⟨i, hi, rfl⟩ := mem_atU ha
  rw [del_okW h hi, okW_some hn]
 have hg := fun d s => del_get (m := m) h1 d s
 have hmem : ∀ d s a, getO l d s = some a → a ∈ l ∧ a.dev = d ∧ a.seq = s := fun d s a ha => getO_mem ha
 have hjoin : mergeL (maxV xs ys) m (l.filter (delB m)) = mergeL (maxV xs ys) l m := by
  refine mergeL_congr fun d s hd hs => ?_
  show joinAt m _ _ _ = joinAt l m _ _
  cases hl : getO l (d : Int) ((s : Int) + 1) with
  | none =>
   have hD := (hg _ _).1 hl
   cases hm : getO m (d : Int) ((s : Int) + 1) with
   | none => unfold joinAt; rw [hD, hm, hl]
   | some b => rw [joinAt_l hm hD, joinAt_m hl hm]
  | some a =>
   obtain ⟨q1, q2, q3⟩ := hmem _ _ _ hl
   cases hm : getO m (d : Int) ((s : Int) + 1) with
   | none =>
    have hD := (hg _ _).2.1 a hl (hnone a q1 (by rw [q2, q3]; exact hm))
    rw [joinAt_m hm hD, joinAt_l hl hm]
   | some b =>
    have hd1 := hsome a b q1 (by rw [q2, q3]; exact hm)
    have hb := fit_same h hd hl hm
    have hsb : sameB a b = true := by rw [hb]; exact same_with a _
    rw [hsb, Bool.true_and] at hd1
    by_cases hle : a.undos ≤ b.undos
    ·rw [decide_eq_true hle] at hd1
     have hD := (hg _ _).2.2 a hl hd1
     rw [joinAt_l hm hD, joinAt_b hl hm, Int.max_eq_right hle]
     exact hb
    ·rw [decide_eq_false hle] at hd1
     have hD := (hg _ _).2.1 a hl hd1
     rw [joinAt_b hm hD, joinAt_b hl hm, Int.max_comm b.undos]
     generalize max a.undos b.undos = u
     rw [hb]
     rfl
 have hal := tak_all (xs := ys) (ys := xs) (l := m) (m := l.filter (delB m)) (by
  intro d s hd hs
  rw [maxV_at l2 l1 hd] at hs
  rcases get_cases h2 hd s with ⟨_, g⟩ | ⟨g0, g⟩
  ·rw [g]; exact .inl rfl
  ·rcases get_cases h1 hd s with ⟨_, k⟩ | ⟨k0, _⟩
   ·obtain ⟨q1, q2, q3⟩ := hmem _ _ _ k
    rw [(hg _ _).2.1 _ k (hnone _ q1 (by rw [q2, q3]; exact g))]
    exact .inr rfl
   ·omega) (by
  intro d s hd hs b a hb ha
  have hl : getO l (d : Int) ((s : Int) + 1) = some a := by
   cases hl : getO l (d : Int) ((s : Int) + 1) with
   | none => rw [(hg _ _).1 hl] at ha; cases ha
   | some c =>
    cases hc : delB m c with
    | false => rw [(hg _ _).2.2 c hl hc] at ha; cases ha
    | true => rw [(hg _ _).2.1 c hl hc] at ha; exact ha
  refine sameB_symm ?_
  rw [fit_same h hd hl hb]
  exact same_with a _) h2 hp
 rw [hmax, hjoin] at hal
 refine ⟨hp, hal.1.trans (cart_merged h1 h2 h3), hmax, hal.2, hs.1, ?_⟩
 have he := del_empty hs.1
 rw [in_self h1] at he
 exact List.eq_nil_of_length_eq_zero (of_decide_eq_true he)
end Go.Proofs.Ytdbdmfaphdjdpaa
