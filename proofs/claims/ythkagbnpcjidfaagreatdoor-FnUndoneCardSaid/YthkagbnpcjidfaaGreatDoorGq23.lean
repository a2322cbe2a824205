/- Walks and mathematics that several claims share, part 23. -/
import Derived.Test.YthkagbnpcjidfaaGreatDoorGq20
import Derived.Test.YthkagbnpcjidfaaGreatDoorGq21
import Derived.Test.YthkagbnpcjidfaaGreatDoorGq22
namespace Go.Proofs.YthkagbnpcjidfaaGreatDoor
open Go.RowKit
set_option linter.unusedVariables false
set_option linter.unusedSimpArgs false
def sC (x : ByteArray) : List ByteArray → List ByteArray
 | [] => [x]
 | y :: r => if qE y x = true then y :: sC x r else if y = x then y :: r else x :: y :: r
theorem aA4 (x z : ByteArray) : ∀ l : List ByteArray, z ∈ sC x l ↔ z = x ∨ z ∈ l
 | [] => by simp [sC]
 | y :: r => by
  unfold sC
  split
  ·rw [List.mem_cons, aA4 x z r, List.mem_cons]
   constructor
   ·rintro (h | h | h) <;> simp [h]
   ·rintro (h | h | h) <;> simp [h]
  ·split
   ·rename_i h
    rw [List.mem_cons]
    constructor
    ·exact fun h' => .inr h'
    ·rintro (h' | h')
     ·exact .inl (h'.trans h.symm)
     ·exact h'
   ·simp
theorem aEx (x : ByteArray) : ∀ l : List ByteArray, Asc l → Asc (sC x l)
 | [], _ => by simp [sC, Asc]
 | y :: r, h => by
  obtain ⟨h1, h2⟩ := List.pairwise_cons.1 h; unfold sC
  split
  ·rename_i hl
   refine List.pairwise_cons.2 ⟨fun z hz => ?_, aEx x r h2⟩
   rcases (aA4 x z r).1 hz with rfl | hz
   ·exact hl
   ·exact h1 z hz
  ·split
   ·exact h
   ·rename_i hl bI
    have hxy : qE x y = true := aJw (by cases hq : qE y x <;> simp_all) bI
    refine List.pairwise_cons.2 ⟨fun z hz => ?_, h⟩
    rcases List.mem_cons.1 hz with rfl | hz
    ·exact hxy
    ·exact aC5 hxy (h1 z hz)
theorem aEw (x : ByteArray) : ∀ l : List ByteArray, (sC x l).length ≤ l.length + 1
 | [] => by simp [sC]
 | y :: r => by
  unfold sC
  split
  ·have := aEw x r
   simp only [List.length_cons]; omega
  ·split <;> simp
theorem aGn (x : ByteArray) : ∀ (l : List ByteArray) (at_ : Nat), at_ ≤ l.length → (∀ j, j < at_ → qE (l.getD j ⟨#[]⟩) x = true) → (at_ < l.length → qE (l.getD at_ ⟨#[]⟩) x = false) →
  sC x l = if at_ < l.length ∧ l.getD at_ ⟨#[]⟩ = x then l else l.take at_ ++ x :: l.drop at_
 | [], at_, h, _, _ => by
  obtain rfl : at_ = 0 := by simpa using h
  simp [sC]
 | y :: r, 0, _, _, h2 => by
  have h3 : qE y x = false := h2 (by simp)
  unfold sC; rw [h3]
  by_cases hy : y = x
  ·simp [hy]
  ·simp [hy]
 | y :: r, k + 1, h, h1, h2 => by
  have h3 : qE y x = true := h1 0 (by omega)
  have ih := aGn x r k (by simpa using h) (fun j hj => by have := h1 (j + 1) (by omega); simpa using this) (fun hk => by have := h2 (by simpa using hk); simpa using this)
  unfold sC; rw [if_pos h3, ih]
  by_cases hc : k < r.length ∧ r.getD k ⟨#[]⟩ = x
  ·rw [if_pos hc, if_pos (by simpa using hc)]
  ·rw [if_neg hc, if_neg (by simpa using hc)]
   simp
theorem asc_one {a b : List ByteArray} (ha : Asc a) (hb : Asc b) (h : ∀ x, x ∈ a ↔ x ∈ b) : a = b := by
 induction a generalizing b with
 | nil =>
  cases b with
  | nil => rfl
  | cons y r => exact absurd ((h y).2 (by simp)) (by simp)
 | cons x s ih =>
  obtain ⟨h1, h2⟩ := List.pairwise_cons.1 ha; cases b with
  | nil => exact absurd ((h x).1 (by simp)) (by simp)
  | cons y r =>
   obtain ⟨g1, g2⟩ := List.pairwise_cons.1 hb; have hxy : x = y := by
    rcases List.mem_cons.1 ((h x).1 (by simp)) with e | hx
    ·exact e
    rcases List.mem_cons.1 ((h y).2 (by simp)) with e | hy
    ·exact e.symm
    have := aC5 (g1 x hx) (h1 y hy); rw [P6] at this; cases this
   subst hxy; rw [ih h2 g2 fun z => ?_]
   constructor
   ·intro hz
    rcases List.mem_cons.1 ((h z).1 (by simp [hz])) with rfl | hr
    ·have := h1 z hz
     rw [P6] at this; cases this
    ·exact hr
   ·intro hz
    rcases List.mem_cons.1 ((h z).2 (by simp [hz])) with rfl | hr
    ·have := g1 z hz
     rw [P6] at this; cases this
    ·exact hr
def bV (l : List aA) : Nat → List ByteArray
 | 0 => []
 | k + 1 => if aL (l.getD k aA.zero).item l l.length % 2 = 1 then sC (l.getD k aA.zero).item (bV l k) else bV l k
theorem rG (l : List aA) : ∀ k, Asc (bV l k)
 | 0 => List.Pairwise.nil
 | k + 1 => by
  rw [bV]
  split
  ·exact aEx _ _ (rG l k)
  ·exact rG l k
theorem pJ (l : List aA) (x : ByteArray) : ∀ k, x ∈ bV l k ↔ aL x l l.length % 2 = 1 ∧ ∃ i, i < k ∧ (l.getD i aA.zero).item = x
 | 0 => by simp [bV]
 | k + 1 => by
  have ih := pJ l x k; rw [bV]
  split
  ·rename_i h
   rw [aA4, ih]
   constructor
   ·rintro (rfl | ⟨h1, i, hi, h2⟩)
    ·exact ⟨h, k, by omega, rfl⟩
    ·exact ⟨h1, i, by omega, h2⟩
   ·rintro ⟨h1, i, hi, h2⟩
    by_cases hk : i = k
    ·subst hk
     exact .inl h2.symm
    ·exact .inr ⟨h1, i, by omega, h2⟩
  ·rename_i h
   rw [ih]
   constructor
   ·rintro ⟨h1, i, hi, h2⟩
    exact ⟨h1, i, by omega, h2⟩
   ·rintro ⟨h1, i, hi, h2⟩
    by_cases hk : i = k
    ·subst hk
     exact absurd (h2 ▸ h1) h
    ·exact ⟨h1, i, by omega, h2⟩
theorem wM (l : List aA) : ∀ k, (bV l k).length ≤ k
 | 0 => Nat.le_refl _
 | k + 1 => by
  have ih := wM l k; rw [bV]
  split
  ·have := aEw (l.getD k aA.zero).item (bV l k)
   omega
  ·omega
theorem aEe {l : List aA} {c : Nat} (hc : ∀ i, i < l.length → (l.getD i aA.zero).item.size ≤ c) {x : ByteArray} {k : Nat} (hk : k ≤ l.length) (h : x ∈ bV l k) : x.size ≤ c := by
 obtain ⟨_, i, hi, rfl⟩ := (pJ l x k).1 h
 exact hc i (by omega)
theorem Q0 (x : ByteArray) (l : List aA) : ∀ k, aL x l k ≠ 0 → ∃ i, i < k ∧ (l.getD i aA.zero).item = x ∧ (l.getD i aA.zero).undos % 2 = 0
 | 0, h => absurd rfl h
 | k + 1, h => by
  rw [aL] at h
  split at h
  ·rename_i hc
   exact ⟨k, by omega, hc.1, hc.2⟩
  ·obtain ⟨i, hi, r⟩ := Q0 x l k h
   exact ⟨i, by omega, r⟩
theorem X8 {l : List aA} {o : aA} {k : Nat} (hk : k ≤ l.length) : o ∈ iC l k ↔ (∃ i, i < k ∧ l.getD i aA.zero = o) ∧ o.live = true := by
 unfold iC
 rw [List.mem_filter]
 refine and_congr_left fun _ => ?_
 rw [List.mem_take_iff_getElem]
 constructor
 ·rintro ⟨i, hi, e⟩
  exact ⟨i, by omega, by rw [List.getD_eq_getElem?_getD, List.getElem?_eq_getElem (by omega)]; exact e⟩
 ·rintro ⟨i, hi, e⟩
  refine ⟨i, by omega, ?_⟩
  rw [List.getD_eq_getElem?_getD, List.getElem?_eq_getElem (by omega)] at e
  exact e
def jM (xs : List Int) (l : List aA) : List ByteArray := if aD xs l = true then bV l l.length else []
def fM (l : List aA) (x : ByteArray) : bP := ⟨x, (bA xX x l l.length).qty, decide ((bA gN x l l.length).kind = 4)⟩
def dC (xs : List Int) (l : List aA) : List bP := (jM xs l).map (fM l)
def aCO (bN : List aA) (ks : List ByteArray) : Prop := Asc ks ∧ ∀ x, x ∈ ks ↔ ∃ o, o ∈ bN ∧ o.item = x
theorem aGN {xs : List Int} {l : List aA} {ks : List ByteArray} (h : aCO (if aD xs l = true then iC l l.length else []) ks) :
  ks.filter (fun x => decide ((cE x (if aD xs l = true then iC l l.length else [])).level % 2 = 1)) = jM xs l := by
 unfold jM
 rcases hc : aD xs l with _ | _
 ·rw [hc] at h
  have : ks = [] := by
   cases ks with
   | nil => rfl
   | cons y r =>
    obtain ⟨o, ho, _⟩ := (h.2 y).1 (by simp)
    exact absurd ho (by simp)
  rw [this]
  rfl
 ·rw [hc] at h
  rw [if_pos rfl, if_pos rfl]; rw [if_pos rfl] at h; refine asc_one (List.Pairwise.filter _ h.1) (rG l _) fun x => ?_
  rw [List.mem_filter, h.2 x, pJ, decide_eq_true_eq, A0 hc x l.length aRr]
  show (_ ∧ aL x l l.length % 2 = 1) ↔ _
  constructor
  ·rintro ⟨⟨o, ho, hx⟩, hl⟩
   obtain ⟨⟨i, hi, e⟩, _⟩ := (X8 aRr).1 ho; exact ⟨hl, i, hi, by rw [e]; exact hx⟩
  ·rintro ⟨hl, _⟩
   obtain ⟨i, hi, e, hu⟩ := Q0 x l l.length (by intro h0; rw [h0] at hl; cases hl)
   refine ⟨⟨l.getD i aA.zero, (X8 aRr).2 ⟨⟨i, hi, rfl⟩, ?_⟩, e⟩, hl⟩
   obtain ⟨_, _, _, _, _, hok, _, _⟩ := fU hc hi; have := aCy hok; have ea : aB l i = l.getD i aA.zero := rfl; rw [ea] at this; rw [this, decide_eq_true hu]
def bW (l : List aA) (s : ByteArray) : Bool := decide ((bA gN s l l.length).kind = 4)
def kM (l : List aA) (s : ByteArray) : aA := ⟨0, 0, 0, 3, s, 0, aL s l l.length + 1, 0⟩
def eS (l : List aA) (d : Nat) (s : ByteArray) (q : List Int × List aA × Int) : Option (List Int × List aA × Int) :=
 if bW l s = true then some q
 else if (aK q.1 q.2.1 d (kM l s)).ok = true then some (dH q.1 d, bH q.2.1 d (aK q.1 q.2.1 d (kM l s)), 0) else none
def iG (xs : List Int) (l : List aA) (d : Nat) (L : List ByteArray) : Nat → Option (List Int × List aA × Int)
 | 0 => some (xs, l, 2)
 | k + 1 => (iG xs l d L k).bind (eS l d (L.getD k ⟨#[]⟩))
theorem aBZ {xs : List Int} {l : List aA} {d : Nat} {L : List ByteArray} {k : Nat} (h : iG xs l d L k = none) : ∀ j, iG xs l d L (k + j) = none
 | 0 => h
 | j + 1 => by
  show (iG xs l d L (k + j)).bind _ = none
  rw [aBZ h j]
  rfl
def oW (xs : List Int) (l : List aA) (d : Nat) : Int × List Int × List aA :=
 match iG xs l d (bV l l.length) (bV l l.length).length with
 | none => (4, [], [])
 | some q => if q.2.2 = 0 then (0, q.1, q.2.1) else (2, [], [])
def nameAt (l : List aA) (dev seq : Int) : Nat := l.findIdx fun x => decide (x.dev = dev ∧ x.seq = seq)
def gE (xs : List Int) (l : List aA) (dev seq : Int) : Int × List Int × List aA :=
 if nameAt l dev seq < l.length then (if (aB l (nameAt l dev seq)).undos = 50 then (4, [], []) else (0, xs, dX l (nameAt l dev seq))) else (2, [], [])
def dM (xs : List Int) (l : List aA) (d : Nat) (kind : Int) (item : ByteArray) (qty : Int) : Int × List Int × List aA :=
 let o := oneOf (aL item l l.length) (bW l item) kind item qty
 if o.2 = 0 then (if (aK xs l d o.1).ok = true then (0, dH xs d, bH l d (aK xs l d o.1)) else (4, [], [])) else (o.2, [], [])
def iM (xs : List Int) (l : List aA) (d : Nat) (kind : Int) (item : ByteArray) (qty dv sq : Int) : Int × List Int × List aA :=
 if kind = 6 then oW xs l d
 else if kind = 7 then gE xs l (d : Int) (cO (d : Int) l l.length)
 else if kind = 8 then gE xs l (d : Int) (pB xs d l)
 else if kind = 9 then gE xs l dv sq
 else dM xs l d kind item qty
def cD (xs : List Int) (l : List aA) (dev kind : Int) (item : ByteArray) (qty dv sq : Int) : Int × List Int × List aA :=
 if aD xs l = true ∧ cS dev 0 3 = true ∧ fT kind item qty dv sq = true then
  (if (iM xs l dev.toNat kind item qty dv sq).1 = 0 then iM xs l dev.toNat kind item qty dv sq else ((iM xs l dev.toNat kind item qty dv sq).1, xs, l))
 else (1, [], [])
theorem aAr {xs : List Int} {l : List aA} (hc : aD xs l = true) {i : Nat} (hi : i < l.length) {dev seq : Int} (h1 : (aB l i).dev = dev) (h2 : (aB l i).seq = seq) : nameAt l dev seq = i := by
 have aM : nameAt l dev seq < l.length := List.findIdx_lt_length_of_exists ⟨l[i], List.getElem_mem hi, by
  have e : aB l i = l[i] := by unfold aB; rw [List.getD_eq_getElem?_getD, List.getElem?_eq_getElem hi]; rfl
  rw [e] at h1 h2; exact decide_eq_true ⟨h1, h2⟩⟩
 have hp := List.findIdx_getElem (w := aM)
 have e : aB l (nameAt l dev seq) = l[nameAt l dev seq] := by unfold aB; rw [List.getD_eq_getElem?_getD, List.getElem?_eq_getElem aM]; rfl
 have hp2 := of_decide_eq_true hp
 have hq : (aB l (nameAt l dev seq)).dev = dev ∧ (aB l (nameAt l dev seq)).seq = seq := by rw [e]; exact hp2
 exact aEy (sD hc) aM hi (dev := dev) (seq := seq) hq ⟨h1, h2⟩
theorem aC2 {l : List aA} {dev seq : Int} (h : ∀ j, j < l.length → ¬ ((aB l j).dev = dev ∧ (aB l j).seq = seq)) : ¬ nameAt l dev seq < l.length := fun aM => by
 have hp := of_decide_eq_true (List.findIdx_getElem (w := aM))
 have e : aB l (nameAt l dev seq) = l[nameAt l dev seq] := by unfold aB; rw [List.getD_eq_getElem?_getD, List.getElem?_eq_getElem aM]; rfl
 exact h _ aM (by rw [e]; exact hp)
def aHe (r : Int × List Int × List aA) (w : World) (e : Ending) (w' : World) : Prop :=
 ∃ va nv vc oa no oc, e = .returned (.tuple #[.agg #[.slice va nv vc, .slice oa no oc], .int .i64 r.1]) ∧ Below w.heap.size w w' ∧ (r.1 = 0 → nv = r.2.1.length ∧ no = r.2.2.length ∧ Own w' w.heap.size w'.heap.size va nv r.2.1 ∧ bE w' w.heap.size w'.heap.size oa no r.2.2 ∧ bY va nv vc ∧ bY oa no oc)
theorem wC.toX {code : Int} {zs : List Int} {L : List aA} {w w' : World} {e : Ending} (h : wC code zs L w e w') : aHe (code, zs, L) w e w' := by
 obtain ⟨va, vc, oa, oc, e1, h1, h2, h3, h4, h5⟩ := h
 exact ⟨va, _, vc, oa, _, oc, e1, h3, fun _ => ⟨rfl, rfl, h1, h2, h4, h5⟩⟩
theorem aE4.toX {xs : List Int} {l : List aA} {dev seq : Int} {w w' : World} {e : Ending} (h : aE4 xs l dev seq w e w') (hc : aD xs l = true) : aHe (gE xs l dev seq) w e w' := by
 unfold gE
 rcases h with ⟨h0, h⟩ | ⟨i, hi, ⟨h1, h2⟩, ⟨hu, h⟩ | ⟨hu, h⟩⟩
 ·rw [if_neg (aC2 h0)]
  exact h.toX
 ·rw [aAr hc hi h1 h2, if_pos hi, if_pos hu]
  exact h.toX
 ·rw [aAr hc hi h1 h2, if_pos hi, if_neg hu]
  exact h.toX
end Go.Proofs.YthkagbnpcjidfaaGreatDoor
