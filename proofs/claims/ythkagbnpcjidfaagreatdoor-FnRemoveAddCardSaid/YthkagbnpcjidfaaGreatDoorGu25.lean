/- Walks and mathematics that several claims share, part 25. -/
import Derived.Test.YthkagbnpcjidfaaGreatDoorGu23
import Derived.Test.YthkagbnpcjidfaaGreatDoorGu20
import Derived.Test.YthkagbnpcjidfaaGreatDoorGu21
import Derived.Test.YthkagbnpcjidfaaGreatDoorGu24
namespace Go.Proofs.YthkagbnpcjidfaaGreatDoor
open Go.RowKit
set_option linter.unusedVariables false
set_option linter.unusedSimpArgs false
def rG (x : ByteArray) : List ByteArray → List ByteArray
 | [] => [x]
 | y :: r => if pI y x = true then y :: rG x r else if y = x then y :: r else x :: y :: r
theorem m6 (x z : ByteArray) : ∀ l : List ByteArray, z ∈ rG x l ↔ z = x ∨ z ∈ l
 | [] => by simp [rG]
 | y :: r => by
  unfold rG
  split
  ·rw [List.mem_cons, m6 x z r, List.mem_cons]
   constructor
   ·rintro (h | h | h) <;> simp [h]
   ·rintro (h | h | h) <;> simp [h]
  ·split
   ·rename_i h
    rw [List.mem_cons]
    constructor
    ·exact fun h' => .inr h'
    ·rintro (h' | h')
     ·exact .inl (h'.trans h.symm)
     ·exact h'
   ·simp
theorem aCU (x : ByteArray) : ∀ l : List ByteArray, Asc l → Asc (rG x l)
 | [], _ => by simp [rG, Asc]
 | y :: r, h => by
  obtain ⟨h1, h2⟩ := List.pairwise_cons.1 h; unfold rG
  split
  ·rename_i hl
   refine List.pairwise_cons.2 ⟨fun z hz => ?_, aCU x r h2⟩
   rcases (m6 x z r).1 hz with rfl | hz
   ·exact hl
   ·exact h1 z hz
  ·split
   ·exact h
   ·rename_i hl bO
    have hxy : pI x y = true := aHZ (by cases hq : pI y x <;> simp_all) bO
    refine List.pairwise_cons.2 ⟨fun z hz => ?_, h⟩
    rcases List.mem_cons.1 hz with rfl | hz
    ·exact hxy
    ·exact aBL hxy (h1 z hz)
theorem aCT (x : ByteArray) : ∀ l : List ByteArray, (rG x l).length ≤ l.length + 1
 | [] => by simp [rG]
 | y :: r => by
  unfold rG
  split
  ·have := aCT x r
   simp only [List.length_cons]; omega
  ·split <;> simp
theorem aEI (x : ByteArray) : ∀ (l : List ByteArray) (g8 : Nat), g8 ≤ l.length → (∀ j, j < g8 → pI (l.getD j ⟨#[]⟩) x = true) → (g8 < l.length → pI (l.getD g8 ⟨#[]⟩) x = false) →
  rG x l = if g8 < l.length ∧ l.getD g8 ⟨#[]⟩ = x then l else l.take g8 ++ x :: l.drop g8
 | [], g8, h, _, _ => by
  obtain rfl : g8 = 0 := by simpa using h
  simp [rG]
 | y :: r, 0, _, _, h2 => by
  have h3 : pI y x = false := h2 (by simp)
  unfold rG; rw [h3]
  by_cases hy : y = x
  ·simp [hy]
  ·simp [hy]
 | y :: r, k + 1, h, h1, h2 => by
  have h3 : pI y x = true := h1 0 (by omega)
  have ih := aEI x r k (by simpa using h) (fun j hj => by have := h1 (j + 1) (by omega); simpa using this) (fun hk => by have := h2 (by simpa using hk); simpa using this)
  unfold rG; rw [if_pos h3, ih]
  by_cases hc : k < r.length ∧ r.getD k ⟨#[]⟩ = x
  ·rw [if_pos hc, if_pos (by simpa using hc)]
  ·rw [if_neg hc, if_neg (by simpa using hc)]
   simp
theorem asc_one {a b : List ByteArray} (ha : Asc a) (hb : Asc b) (h : ∀ x, x ∈ a ↔ x ∈ b) : a = b := by
 induction a generalizing b with
 | nil =>
  cases b with
  | nil => rfl
  | cons y r => exact absurd ((h y).2 (by simp)) (by simp)
 | cons x s ih =>
  obtain ⟨h1, h2⟩ := List.pairwise_cons.1 ha; cases b with
  | nil => exact absurd ((h x).1 (by simp)) (by simp)
  | cons y r =>
   obtain ⟨g1, g2⟩ := List.pairwise_cons.1 hb; have hxy : x = y := by
    rcases List.mem_cons.1 ((h x).1 (by simp)) with e | hx
    ·exact e
    rcases List.mem_cons.1 ((h y).2 (by simp)) with e | hy
    ·exact e.symm
    have := aBL (g1 x hx) (h1 y hy); rw [yH] at this; cases this
   subst hxy; rw [ih h2 g2 fun z => ?_]
   constructor
   ·intro hz
    rcases List.mem_cons.1 ((h z).1 (by simp [hz])) with rfl | hr
    ·have := h1 z hz
     rw [yH] at this; cases this
    ·exact hr
   ·intro hz
    rcases List.mem_cons.1 ((h z).2 (by simp [hz])) with rfl | hr
    ·have := g1 z hz
     rw [yH] at this; cases this
    ·exact hr
def bU (l : List aA) : Nat → List ByteArray
 | 0 => []
 | k + 1 => if aI (l.getD k aA.zero).item l l.length % 2 = 1 then rG (l.getD k aA.zero).item (bU l k) else bU l k
theorem qP (l : List aA) : ∀ k, Asc (bU l k)
 | 0 => List.Pairwise.nil
 | k + 1 => by
  rw [bU]
  split
  ·exact aCU _ _ (qP l k)
  ·exact qP l k
theorem mP (l : List aA) (x : ByteArray) : ∀ k, x ∈ bU l k ↔ aI x l l.length % 2 = 1 ∧ ∃ i, i < k ∧ (l.getD i aA.zero).item = x
 | 0 => by simp [bU]
 | k + 1 => by
  have ih := mP l x k; rw [bU]
  split
  ·rename_i h
   rw [m6, ih]
   constructor
   ·rintro (rfl | ⟨h1, i, hi, h2⟩)
    ·exact ⟨h, k, by omega, rfl⟩
    ·exact ⟨h1, i, by omega, h2⟩
   ·rintro ⟨h1, i, hi, h2⟩
    by_cases hk : i = k
    ·subst hk
     exact .inl h2.symm
    ·exact .inr ⟨h1, i, by omega, h2⟩
  ·rename_i h
   rw [ih]
   constructor
   ·rintro ⟨h1, i, hi, h2⟩
    exact ⟨h1, i, by omega, h2⟩
   ·rintro ⟨h1, i, hi, h2⟩
    by_cases hk : i = k
    ·subst hk
     exact absurd (h2 ▸ h1) h
    ·exact ⟨h1, i, by omega, h2⟩
theorem vB (l : List aA) : ∀ k, (bU l k).length ≤ k
 | 0 => Nat.le_refl _
 | k + 1 => by
  have ih := vB l k; rw [bU]
  split
  ·have := aCT (l.getD k aA.zero).item (bU l k)
   omega
  ·omega
theorem aCz {l : List aA} {c : Nat} (hc : ∀ i, i < l.length → (l.getD i aA.zero).item.size ≤ c) {x : ByteArray} {k : Nat} (hk : k ≤ l.length) (h : x ∈ bU l k) : x.size ≤ c := by
 obtain ⟨_, i, hi, rfl⟩ := (mP l x k).1 h
 exact hc i (by omega)
theorem xD (x : ByteArray) (l : List aA) : ∀ k, aI x l k ≠ 0 → ∃ i, i < k ∧ (l.getD i aA.zero).item = x ∧ (l.getD i aA.zero).undos % 2 = 0
 | 0, h => absurd rfl h
 | k + 1, h => by
  rw [aI] at h
  split at h
  ·rename_i hc
   exact ⟨k, by omega, hc.1, hc.2⟩
  ·obtain ⟨i, hi, r⟩ := xD x l k h
   exact ⟨i, by omega, r⟩
theorem N9 {l : List aA} {o : aA} {k : Nat} (hk : k ≤ l.length) : o ∈ gV l k ↔ (∃ i, i < k ∧ l.getD i aA.zero = o) ∧ o.live = true := by
 unfold gV
 rw [List.mem_filter]
 refine and_congr_left fun _ => ?_
 rw [List.mem_take_iff_getElem]
 constructor
 ·rintro ⟨i, hi, e⟩
  exact ⟨i, by omega, by rw [List.getD_eq_getElem?_getD, List.getElem?_eq_getElem (by omega)]; exact e⟩
 ·rintro ⟨i, hi, e⟩
  refine ⟨i, by omega, ?_⟩
  rw [List.getD_eq_getElem?_getD, List.getElem?_eq_getElem (by omega)] at e
  exact e
def cF (xs : List Int) (l : List aA) : List ByteArray := if aE xs l = true then bU l l.length else []
def cG (l : List aA) (x : ByteArray) : aS := ⟨x, (bE tB x l l.length).qty, decide ((bE gT x l l.length).kind = 4)⟩
def aZ (xs : List Int) (l : List aA) : List aS := (cF xs l).map (cG l)
def aBx (bJ : List aA) (ks : List ByteArray) : Prop := Asc ks ∧ ∀ x, x ∈ ks ↔ ∃ o, o ∈ bJ ∧ o.item = x
theorem aFe {xs : List Int} {l : List aA} {ks : List ByteArray} (h : aBx (if aE xs l = true then gV l l.length else []) ks) :
  ks.filter (fun x => decide ((cA x (if aE xs l = true then gV l l.length else [])).level % 2 = 1)) = cF xs l := by
 unfold cF
 rcases hc : aE xs l with _ | _
 ·rw [hc] at h
  have : ks = [] := by
   cases ks with
   | nil => rfl
   | cons y r =>
    obtain ⟨o, ho, _⟩ := (h.2 y).1 (by simp)
    exact absurd ho (by simp)
  rw [this]
  rfl
 ·rw [hc] at h
  rw [if_pos rfl, if_pos rfl]; rw [if_pos rfl] at h; refine asc_one (List.Pairwise.filter _ h.1) (qP l _) fun x => ?_
  rw [List.mem_filter, h.2 x, mP, decide_eq_true_eq, xY hc x l.length aPq]
  show (_ ∧ aI x l l.length % 2 = 1) ↔ _
  constructor
  ·rintro ⟨⟨o, ho, hx⟩, hl⟩
   obtain ⟨⟨i, hi, e⟩, _⟩ := (N9 aPq).1 ho; exact ⟨hl, i, hi, by rw [e]; exact hx⟩
  ·rintro ⟨hl, _⟩
   obtain ⟨i, hi, e, hu⟩ := xD x l l.length (by intro h0; rw [h0] at hl; cases hl)
   refine ⟨⟨l.getD i aA.zero, (N9 aPq).2 ⟨⟨i, hi, rfl⟩, ?_⟩, e⟩, hl⟩
   obtain ⟨_, _, _, _, _, hok, _, _⟩ := gE hc hi; have := aBl hok; have ea : aC l i = l.getD i aA.zero := rfl; rw [ea] at this; rw [this, decide_eq_true hu]
def bN (l : List aA) (s : ByteArray) : Bool := decide ((bE gT s l l.length).kind = 4)
def kJ (l : List aA) (s : ByteArray) : aA := ⟨0, 0, 0, 3, s, 0, aI s l l.length + 1, 0⟩
def eT (l : List aA) (d : Nat) (s : ByteArray) (q : List Int × List aA × Int) : Option (List Int × List aA × Int) :=
 if bN l s = true then some q
 else if (aQ q.1 q.2.1 d (kJ l s)).ok = true then some (eE q.1 d, cI q.2.1 d (aQ q.1 q.2.1 d (kJ l s)), 0) else none
def gY (xs : List Int) (l : List aA) (d : Nat) (L : List ByteArray) : Nat → Option (List Int × List aA × Int)
 | 0 => some (xs, l, 2)
 | k + 1 => (gY xs l d L k).bind (eT l d (L.getD k ⟨#[]⟩))
theorem aAx {xs : List Int} {l : List aA} {d : Nat} {L : List ByteArray} {k : Nat} (h : gY xs l d L k = none) : ∀ j, gY xs l d L (k + j) = none
 | 0 => h
 | j + 1 => by
  show (gY xs l d L (k + j)).bind _ = none
  rw [aAx h j]
  rfl
def qK (xs : List Int) (l : List aA) (d : Nat) : Int × List Int × List aA :=
 match gY xs l d (bU l l.length) (bU l l.length).length with
 | none => (4, [], [])
 | some q => if q.2.2 = 0 then (0, q.1, q.2.1) else (2, [], [])
def nameAt (l : List aA) (dev seq : Int) : Nat := l.findIdx fun x => decide (x.dev = dev ∧ x.seq = seq)
def kW (xs : List Int) (l : List aA) (dev seq : Int) : Int × List Int × List aA :=
 if nameAt l dev seq < l.length then (if (aC l (nameAt l dev seq)).undos = 50 then (4, [], []) else (0, xs, lO l (nameAt l dev seq))) else (2, [], [])
def dL (xs : List Int) (l : List aA) (d : Nat) (kind : Int) (item : ByteArray) (qty : Int) : Int × List Int × List aA :=
 let o := oneOf (aI item l l.length) (bN l item) kind item qty
 if o.2 = 0 then (if (aQ xs l d o.1).ok = true then (0, eE xs d, cI l d (aQ xs l d o.1)) else (4, [], [])) else (o.2, [], [])
def jE (xs : List Int) (l : List aA) (d : Nat) (kind : Int) (item : ByteArray) (qty dv sq : Int) : Int × List Int × List aA :=
 if kind = 6 then qK xs l d
 else if kind = 7 then kW xs l (d : Int) (dE (d : Int) l l.length)
 else if kind = 8 then kW xs l (d : Int) (qM xs d l)
 else if kind = 9 then kW xs l dv sq
 else dL xs l d kind item qty
def dI (xs : List Int) (l : List aA) (dev kind : Int) (item : ByteArray) (qty dv sq : Int) : Int × List Int × List aA :=
 if aE xs l = true ∧ cV dev 0 3 = true ∧ eB kind item qty dv sq = true then
  (if (jE xs l dev.toNat kind item qty dv sq).1 = 0 then jE xs l dev.toNat kind item qty dv sq else ((jE xs l dev.toNat kind item qty dv sq).1, xs, l))
 else (1, [], [])
theorem aBh {xs : List Int} {l : List aA} (hc : aE xs l = true) {i : Nat} (hi : i < l.length) {dev seq : Int} (h1 : (aC l i).dev = dev) (h2 : (aC l i).seq = seq) : nameAt l dev seq = i := by
 have aJ : nameAt l dev seq < l.length := List.findIdx_lt_length_of_exists ⟨l[i], List.getElem_mem hi, by
  have e : aC l i = l[i] := by unfold aC; rw [List.getD_eq_getElem?_getD, List.getElem?_eq_getElem hi]; rfl
  rw [e] at h1 h2; exact decide_eq_true ⟨h1, h2⟩⟩
 have hp := List.findIdx_getElem (w := aJ)
 have e : aC l (nameAt l dev seq) = l[nameAt l dev seq] := by unfold aC; rw [List.getD_eq_getElem?_getD, List.getElem?_eq_getElem aJ]; rfl
 have hp2 := of_decide_eq_true hp
 have hq : (aC l (nameAt l dev seq)).dev = dev ∧ (aC l (nameAt l dev seq)).seq = seq := by rw [e]; exact hp2
 exact aCV (uO hc) aJ hi (dev := dev) (seq := seq) hq ⟨h1, h2⟩
theorem aBI {l : List aA} {dev seq : Int} (h : ∀ j, j < l.length → ¬ ((aC l j).dev = dev ∧ (aC l j).seq = seq)) : ¬ nameAt l dev seq < l.length := fun aJ => by
 have hp := of_decide_eq_true (List.findIdx_getElem (w := aJ))
 have e : aC l (nameAt l dev seq) = l[nameAt l dev seq] := by unfold aC; rw [List.getD_eq_getElem?_getD, List.getElem?_eq_getElem aJ]; rfl
 exact h _ aJ (by rw [e]; exact hp)
def aFE (r : Int × List Int × List aA) (w : World) (e : Ending) (w' : World) : Prop :=
 ∃ va nv vc oa no oc, e = .returned (.tuple #[.agg #[.slice va nv vc, .slice oa no oc], .int .i64 r.1]) ∧ Below w.heap.size w w' ∧ (r.1 = 0 → nv = r.2.1.length ∧ no = r.2.2.length ∧ Own w' w.heap.size w'.heap.size va nv r.2.1 ∧ bB w' w.heap.size w'.heap.size oa no r.2.2 ∧ bM va nv vc ∧ bM oa no oc)
theorem L2.toX {code : Int} {zs : List Int} {L : List aA} {w w' : World} {e : Ending} (h : L2 code zs L w e w') : aFE (code, zs, L) w e w' := by
 obtain ⟨va, vc, oa, oc, e1, h1, h2, h3, h4, h5⟩ := h
 exact ⟨va, _, vc, oa, _, oc, e1, h3, fun _ => ⟨rfl, rfl, h1, h2, h4, h5⟩⟩
theorem aDo.toX {xs : List Int} {l : List aA} {dev seq : Int} {w w' : World} {e : Ending} (h : aDo xs l dev seq w e w') (hc : aE xs l = true) : aFE (kW xs l dev seq) w e w' := by
 unfold kW
 rcases h with ⟨h0, h⟩ | ⟨i, hi, ⟨h1, h2⟩, ⟨hu, h⟩ | ⟨hu, h⟩⟩
 ·rw [if_neg (aBI h0)]
  exact h.toX
 ·rw [aBh hc hi h1 h2, if_pos hi, if_pos hu]
  exact h.toX
 ·rw [aBh hc hi h1 h2, if_pos hi, if_neg hu]
  exact h.toX
end Go.Proofs.YthkagbnpcjidfaaGreatDoor
