/- Walks and mathematics that several claims share, part 35. -/
import Derived.Test.YtjokbaaommicmaaGreatDoorGb34
import Derived.Test.YtjokbaaommicmaaGreatDoorGb7
import Derived.Test.YtjokbaaommicmaaGreatDoorGb18
import Derived.Test.YtjokbaaommicmaaGreatDoorGbA
namespace Go.Proofs.YtjokbaaommicmaaGreatDoor
open Go.RowKit

/-- An item put among others, where it belongs, if it is not there. -/
def insT (x : ByteArray) : List ByteArray → List ByteArray
 | [] => [x]
 | y :: r => if ltT y x = true then y :: insT x r else if y = x then y :: r else x :: y :: r
theorem mem_insT (x z : ByteArray) : ∀ l : List ByteArray, z ∈ insT x l ↔ z = x ∨ z ∈ l
 | [] => by simp [insT]
 | y :: r => by
  unfold insT
  split
  ·rw [List.mem_cons, mem_insT x z r, List.mem_cons]
   constructor
   ·rintro (h | h | h) <;> simp [h]
   ·rintro (h | h | h) <;> simp [h]
  ·split
   ·rename_i h
    rw [List.mem_cons]
    constructor
    ·exact fun h' => .inr h'
    ·rintro (h' | h')
     ·exact .inl (h'.trans h.symm)
     ·exact h'
   ·simp
theorem insT_asc (x : ByteArray) : ∀ l : List ByteArray, Asc l → Asc (insT x l)
 | [], _ => by simp [insT, Asc]
 | y :: r, h => by
  obtain ⟨h1, h2⟩ := List.pairwise_cons.1 h
  unfold insT
  split
  ·rename_i hl
   refine List.pairwise_cons.2 ⟨fun z hz => ?_, insT_asc x r h2⟩
   rcases (mem_insT x z r).1 hz with rfl | hz
   ·exact hl
   ·exact h1 z hz
  ·split
   ·exact h
   ·rename_i hl hne
    have hxy : ltT x y = true := ltT_flip (by cases hq : ltT y x <;> simp_all) hne
    refine List.pairwise_cons.2 ⟨fun z hz => ?_, h⟩
    rcases List.mem_cons.1 hz with rfl | hz
    ·exact hxy
    ·exact ltT_trans hxy (h1 z hz)
theorem insT_len (x : ByteArray) : ∀ l : List ByteArray, (insT x l).length ≤ l.length + 1
 | [] => by simp [insT]
 | y :: r => by
  unfold insT
  split
  ·have := insT_len x r
   simp only [List.length_cons]; omega
  ·split <;> simp
/-- Where the item belongs: behind those that are less. -/
theorem insT_at (x : ByteArray) : ∀ (l : List ByteArray) (at_ : Nat), at_ ≤ l.length → (∀ j, j < at_ → ltT (l.getD j ⟨#[]⟩) x = true) → (at_ < l.length → ltT (l.getD at_ ⟨#[]⟩) x = false) →
  insT x l = if at_ < l.length ∧ l.getD at_ ⟨#[]⟩ = x then l else l.take at_ ++ x :: l.drop at_
 | [], at_, h, _, _ => by
  obtain rfl : at_ = 0 := by simpa using h
  simp [insT]
 | y :: r, 0, _, _, h2 => by
  have h3 : ltT y x = false := h2 (by simp)
  unfold insT
  rw [h3]
  by_cases hy : y = x
  ·simp [hy]
  ·simp [hy]
 | y :: r, k + 1, h, h1, h2 => by
  have h3 : ltT y x = true := h1 0 (by omega)
  have ih := insT_at x r k (by simpa using h) (fun j hj => by have := h1 (j + 1) (by omega); simpa using this) (fun hk => by have := h2 (by simpa using hk); simpa using this)
  unfold insT
  rw [if_pos h3, ih]
  by_cases hc : k < r.length ∧ r.getD k ⟨#[]⟩ = x
  ·rw [if_pos hc, if_pos (by simpa using hc)]
  ·rw [if_neg hc, if_neg (by simpa using hc)]
   simp
theorem asc_one {a b : List ByteArray} (ha : Asc a) (hb : Asc b) (h : ∀ x, x ∈ a ↔ x ∈ b) : a = b := by
 induction a generalizing b with
 | nil =>
  cases b with
  | nil => rfl
  | cons y r => exact absurd ((h y).2 (by simp)) (by simp)
 | cons x s ih =>
  obtain ⟨h1, h2⟩ := List.pairwise_cons.1 ha
  cases b with
  | nil => exact absurd ((h x).1 (by simp)) (by simp)
  | cons y r =>
   obtain ⟨g1, g2⟩ := List.pairwise_cons.1 hb
   have hxy : x = y := by
    rcases List.mem_cons.1 ((h x).1 (by simp)) with e | hx
    ·exact e
    rcases List.mem_cons.1 ((h y).2 (by simp)) with e | hy
    ·exact e.symm
    have := ltT_trans (g1 x hx) (h1 y hy)
    rw [ltT_self] at this
    cases this
   subst hxy
   rw [ih h2 g2 fun z => ?_]
   constructor
   ·intro hz
    rcases List.mem_cons.1 ((h z).1 (by simp [hz])) with rfl | hr
    ·have := h1 z hz
     rw [ltT_self] at this
     cases this
    ·exact hr
   ·intro hz
    rcases List.mem_cons.1 ((h z).2 (by simp [hz])) with rfl | hr
    ·have := g1 z hz
     rw [ltT_self] at this
     cases this
    ·exact hr
/-- What is there after the first k operations were looked at. -/
def namesTo (l : List OpV) : Nat → List ByteArray
 | 0 => []
 | k + 1 => if levTo (l.getD k OpV.zero).item l l.length % 2 = 1 then insT (l.getD k OpV.zero).item (namesTo l k) else namesTo l k
theorem namesTo_asc (l : List OpV) : ∀ k, Asc (namesTo l k)
 | 0 => List.Pairwise.nil
 | k + 1 => by
  rw [namesTo]
  split
  ·exact insT_asc _ _ (namesTo_asc l k)
  ·exact namesTo_asc l k
theorem namesTo_mem (l : List OpV) (x : ByteArray) : ∀ k, x ∈ namesTo l k ↔ levTo x l l.length % 2 = 1 ∧ ∃ i, i < k ∧ (l.getD i OpV.zero).item = x
 | 0 => by simp [namesTo]
 | k + 1 => by
  have ih := namesTo_mem l x k
  rw [namesTo]
  split
  ·rename_i h
   rw [mem_insT, ih]
   constructor
   ·rintro (rfl | ⟨h1, i, hi, h2⟩)
    ·exact ⟨h, k, by omega, rfl⟩
    ·exact ⟨h1, i, by omega, h2⟩
   ·rintro ⟨h1, i, hi, h2⟩
    by_cases hk : i = k
    ·subst hk
     exact .inl h2.symm
    ·exact .inr ⟨h1, i, by omega, h2⟩
  ·rename_i h
   rw [ih]
   constructor
   ·rintro ⟨h1, i, hi, h2⟩
    exact ⟨h1, i, by omega, h2⟩
   ·rintro ⟨h1, i, hi, h2⟩
    by_cases hk : i = k
    ·subst hk
     exact absurd (h2 ▸ h1) h
    ·exact ⟨h1, i, by omega, h2⟩
theorem namesTo_len (l : List OpV) : ∀ k, (namesTo l k).length ≤ k
 | 0 => Nat.le_refl _
 | k + 1 => by
  have ih := namesTo_len l k
  rw [namesTo]
  split
  ·have := insT_len (l.getD k OpV.zero).item (namesTo l k)
   omega
  ·omega
theorem namesTo_size {l : List OpV} {c : Nat} (hc : ∀ i, i < l.length → (l.getD i OpV.zero).item.size ≤ c) {x : ByteArray} {k : Nat} (hk : k ≤ l.length) (h : x ∈ namesTo l k) : x.size ≤ c := by
 obtain ⟨_, i, hi, rfl⟩ := (namesTo_mem l x k).1 h
 exact hc i (by omega)
/-- A level above none comes of a live operation. -/
theorem levTo_live (x : ByteArray) (l : List OpV) : ∀ k, levTo x l k ≠ 0 → ∃ i, i < k ∧ (l.getD i OpV.zero).item = x ∧ (l.getD i OpV.zero).undos % 2 = 0
 | 0, h => absurd rfl h
 | k + 1, h => by
  rw [levTo] at h
  split at h
  ·rename_i hc
   exact ⟨k, by omega, hc.1, hc.2⟩
  ·obtain ⟨i, hi, r⟩ := levTo_live x l k h
   exact ⟨i, by omega, r⟩
theorem countedTo_mem {l : List OpV} {o : OpV} {k : Nat} (hk : k ≤ l.length) : o ∈ liveTo l k ↔ (∃ i, i < k ∧ l.getD i OpV.zero = o) ∧ o.live = true := by
 unfold liveTo
 rw [List.mem_filter]
 refine and_congr_left fun _ => ?_
 rw [List.mem_take_iff_getElem]
 constructor
 ·rintro ⟨i, hi, e⟩
  exact ⟨i, by omega, by rw [List.getD_eq_getElem?_getD, List.getElem?_eq_getElem (by omega)]; exact e⟩
 ·rintro ⟨i, hi, e⟩
  refine ⟨i, by omega, ?_⟩
  rw [List.getD_eq_getElem?_getD, List.getElem?_eq_getElem (by omega)] at e
  exact e
/-- The items that a cart shows. -/
def itemsN (xs : List Int) (l : List OpV) : List ByteArray := if cartB xs l = true then namesTo l l.length else []
def lineV (l : List OpV) (x : ByteArray) : LnV := ⟨x, (bestTo cntB x l l.length).qty, decide ((bestTo plcB x l l.length).kind = 4)⟩
def linesN (xs : List Int) (l : List OpV) : List LnV := (itemsN xs l).map (lineV l)
/-- The items of some operations, in their order. -/
def KeysAsc (pre : List OpV) (ks : List ByteArray) : Prop := Asc ks ∧ ∀ x, x ∈ ks ↔ ∃ o, o ∈ pre ∧ o.item = x
theorem items_keys {xs : List Int} {l : List OpV} {ks : List ByteArray} (h : KeysAsc (if cartB xs l = true then liveTo l l.length else []) ks) :
  ks.filter (fun x => decide ((stateV x (if cartB xs l = true then liveTo l l.length else [])).level % 2 = 1)) = itemsN xs l := by
 unfold itemsN
 rcases hc : cartB xs l with _ | _
 ·rw [hc] at h
  have : ks = [] := by
   cases ks with
   | nil => rfl
   | cons y r =>
    obtain ⟨o, ho, _⟩ := (h.2 y).1 (by simp)
    exact absurd ho (by simp)
  rw [this]
  rfl
 ·rw [hc] at h
  rw [if_pos rfl, if_pos rfl]
  rw [if_pos rfl] at h
  refine asc_one (List.Pairwise.filter _ h.1) (namesTo_asc l _) fun x => ?_
  rw [List.mem_filter, h.2 x, namesTo_mem, decide_eq_true_eq, state_to hc x l.length (Nat.le_refl _)]
  show (_ ∧ levTo x l l.length % 2 = 1) ↔ _
  constructor
  ·rintro ⟨⟨o, ho, hx⟩, hl⟩
   obtain ⟨⟨i, hi, e⟩, _⟩ := (countedTo_mem (Nat.le_refl _)).1 ho
   exact ⟨hl, i, hi, by rw [e]; exact hx⟩
  ·rintro ⟨hl, _⟩
   obtain ⟨i, hi, e, hu⟩ := levTo_live x l l.length (by intro h0; rw [h0] at hl; cases hl)
   refine ⟨⟨l.getD i OpV.zero, (countedTo_mem (Nat.le_refl _)).2 ⟨⟨i, hi, rfl⟩, ?_⟩, e⟩, hl⟩
   obtain ⟨_, _, _, _, _, hok, _, _⟩ := cart_atV hc hi
   have := live_ok hok
   have ea : atOp l i = l.getD i OpV.zero := rfl
   rw [ea] at this
   rw [this, decide_eq_true hu]
end Go.Proofs.YtjokbaaommicmaaGreatDoor
