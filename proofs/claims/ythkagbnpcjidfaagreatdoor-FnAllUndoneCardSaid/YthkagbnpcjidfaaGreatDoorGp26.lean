/- Walks and mathematics that several claims share, part 26. -/
import Derived.Test.YthkagbnpcjidfaaGreatDoorGp23
import Derived.Test.YthkagbnpcjidfaaGreatDoorGp20
import Derived.Test.YthkagbnpcjidfaaGreatDoorGp21
import Derived.Test.YthkagbnpcjidfaaGreatDoorGp25
namespace Go.Proofs.YthkagbnpcjidfaaGreatDoor
open Go.RowKit
set_option linter.unusedVariables false
set_option linter.unusedSimpArgs false
def rM (x : ByteArray) : List ByteArray → List ByteArray
 | [] => [x]
 | y :: r => if pH y x = true then y :: rM x r else if y = x then y :: r else x :: y :: r
theorem m9 (x z : ByteArray) : ∀ l : List ByteArray, z ∈ rM x l ↔ z = x ∨ z ∈ l
 | [] => by simp [rM]
 | y :: r => by
  unfold rM
  split
  ·rw [List.mem_cons, m9 x z r, List.mem_cons]
   constructor
   ·rintro (h | h | h) <;> simp [h]
   ·rintro (h | h | h) <;> simp [h]
  ·split
   ·rename_i h
    rw [List.mem_cons]
    constructor
    ·exact fun h' => .inr h'
    ·rintro (h' | h')
     ·exact .inl (h'.trans h.symm)
     ·exact h'
   ·simp
theorem aCR (x : ByteArray) : ∀ l : List ByteArray, Asc l → Asc (rM x l)
 | [], _ => by simp [rM, Asc]
 | y :: r, h => by
  obtain ⟨h1, h2⟩ := List.pairwise_cons.1 h; unfold rM
  split
  ·rename_i hl
   refine List.pairwise_cons.2 ⟨fun z hz => ?_, aCR x r h2⟩
   rcases (m9 x z r).1 hz with rfl | hz
   ·exact hl
   ·exact h1 z hz
  ·split
   ·exact h
   ·rename_i hl bJ
    have hxy : pH x y = true := aHL (by cases hq : pH y x <;> simp_all) bJ
    refine List.pairwise_cons.2 ⟨fun z hz => ?_, h⟩
    rcases List.mem_cons.1 hz with rfl | hz
    ·exact hxy
    ·exact aBD hxy (h1 z hz)
theorem aCQ (x : ByteArray) : ∀ l : List ByteArray, (rM x l).length ≤ l.length + 1
 | [] => by simp [rM]
 | y :: r => by
  unfold rM
  split
  ·have := aCQ x r
   simp only [List.length_cons]; omega
  ·split <;> simp
theorem aEs (x : ByteArray) : ∀ (l : List ByteArray) (j1 : Nat), j1 ≤ l.length → (∀ j, j < j1 → pH (l.getD j ⟨#[]⟩) x = true) → (j1 < l.length → pH (l.getD j1 ⟨#[]⟩) x = false) →
  rM x l = if j1 < l.length ∧ l.getD j1 ⟨#[]⟩ = x then l else l.take j1 ++ x :: l.drop j1
 | [], j1, h, _, _ => by
  obtain rfl : j1 = 0 := by simpa using h
  simp [rM]
 | y :: r, 0, _, _, h2 => by
  have h3 : pH y x = false := h2 (by simp)
  unfold rM; rw [h3]
  by_cases hy : y = x
  ·simp [hy]
  ·simp [hy]
 | y :: r, k + 1, h, h1, h2 => by
  have h3 : pH y x = true := h1 0 (by omega)
  have ih := aEs x r k (by simpa using h) (fun j hj => by have := h1 (j + 1) (by omega); simpa using this) (fun hk => by have := h2 (by simpa using hk); simpa using this)
  unfold rM; rw [if_pos h3, ih]
  by_cases hc : k < r.length ∧ r.getD k ⟨#[]⟩ = x
  ·rw [if_pos hc, if_pos (by simpa using hc)]
  ·rw [if_neg hc, if_neg (by simpa using hc)]
   simp
theorem asc_one {a b : List ByteArray} (ha : Asc a) (hb : Asc b) (h : ∀ x, x ∈ a ↔ x ∈ b) : a = b := by
 induction a generalizing b with
 | nil =>
  cases b with
  | nil => rfl
  | cons y r => exact absurd ((h y).2 (by simp)) (by simp)
 | cons x s ih =>
  obtain ⟨h1, h2⟩ := List.pairwise_cons.1 ha; cases b with
  | nil => exact absurd ((h x).1 (by simp)) (by simp)
  | cons y r =>
   obtain ⟨g1, g2⟩ := List.pairwise_cons.1 hb; have hxy : x = y := by
    rcases List.mem_cons.1 ((h x).1 (by simp)) with e | hx
    ·exact e
    rcases List.mem_cons.1 ((h y).2 (by simp)) with e | hy
    ·exact e.symm
    have := aBD (g1 x hx) (h1 y hy); rw [H9] at this; cases this
   subst hxy; rw [ih h2 g2 fun z => ?_]
   constructor
   ·intro hz
    rcases List.mem_cons.1 ((h z).1 (by simp [hz])) with rfl | hr
    ·have := h1 z hz
     rw [H9] at this; cases this
    ·exact hr
   ·intro hz
    rcases List.mem_cons.1 ((h z).2 (by simp [hz])) with rfl | hr
    ·have := g1 z hz
     rw [H9] at this; cases this
    ·exact hr
def bU (l : List aA) : Nat → List ByteArray
 | 0 => []
 | k + 1 => if aO (l.getD k aA.zero).item l l.length % 2 = 1 then rM (l.getD k aA.zero).item (bU l k) else bU l k
theorem qQ (l : List aA) : ∀ k, Asc (bU l k)
 | 0 => List.Pairwise.nil
 | k + 1 => by
  rw [bU]
  split
  ·exact aCR _ _ (qQ l k)
  ·exact qQ l k
theorem oS (l : List aA) (x : ByteArray) : ∀ k, x ∈ bU l k ↔ aO x l l.length % 2 = 1 ∧ ∃ i, i < k ∧ (l.getD i aA.zero).item = x
 | 0 => by simp [bU]
 | k + 1 => by
  have ih := oS l x k; rw [bU]
  split
  ·rename_i h
   rw [m9, ih]
   constructor
   ·rintro (rfl | ⟨h1, i, hi, h2⟩)
    ·exact ⟨h, k, by omega, rfl⟩
    ·exact ⟨h1, i, by omega, h2⟩
   ·rintro ⟨h1, i, hi, h2⟩
    by_cases hk : i = k
    ·subst hk
     exact .inl h2.symm
    ·exact .inr ⟨h1, i, by omega, h2⟩
  ·rename_i h
   rw [ih]
   constructor
   ·rintro ⟨h1, i, hi, h2⟩
    exact ⟨h1, i, by omega, h2⟩
   ·rintro ⟨h1, i, hi, h2⟩
    by_cases hk : i = k
    ·subst hk
     exact absurd (h2 ▸ h1) h
    ·exact ⟨h1, i, by omega, h2⟩
theorem C5 (l : List aA) : ∀ k, (bU l k).length ≤ k
 | 0 => Nat.le_refl _
 | k + 1 => by
  have ih := C5 l k; rw [bU]
  split
  ·have := aCQ (l.getD k aA.zero).item (bU l k)
   omega
  ·omega
theorem aCy {l : List aA} {c : Nat} (hc : ∀ i, i < l.length → (l.getD i aA.zero).item.size ≤ c) {x : ByteArray} {k : Nat} (hk : k ≤ l.length) (h : x ∈ bU l k) : x.size ≤ c := by
 obtain ⟨_, i, hi, rfl⟩ := (oS l x k).1 h
 exact hc i (by omega)
theorem I3 (x : ByteArray) (l : List aA) : ∀ k, aO x l k ≠ 0 → ∃ i, i < k ∧ (l.getD i aA.zero).item = x ∧ (l.getD i aA.zero).undos % 2 = 0
 | 0, h => absurd rfl h
 | k + 1, h => by
  rw [aO] at h
  split at h
  ·rename_i hc
   exact ⟨k, by omega, hc.1, hc.2⟩
  ·obtain ⟨i, hi, r⟩ := I3 x l k h
   exact ⟨i, by omega, r⟩
theorem N0 {l : List aA} {o : aA} {k : Nat} (hk : k ≤ l.length) : o ∈ hM l k ↔ (∃ i, i < k ∧ l.getD i aA.zero = o) ∧ o.live = true := by
 unfold hM
 rw [List.mem_filter]
 refine and_congr_left fun _ => ?_
 rw [List.mem_take_iff_getElem]
 constructor
 ·rintro ⟨i, hi, e⟩
  exact ⟨i, by omega, by rw [List.getD_eq_getElem?_getD, List.getElem?_eq_getElem (by omega)]; exact e⟩
 ·rintro ⟨i, hi, e⟩
  refine ⟨i, by omega, ?_⟩
  rw [List.getD_eq_getElem?_getD, List.getElem?_eq_getElem (by omega)] at e
  exact e
def oJ (xs : List Int) (l : List aA) : List ByteArray := if aD xs l = true then bU l l.length else []
def iX (l : List aA) (x : ByteArray) : bO := ⟨x, (bA wD x l l.length).qty, decide ((bA gR x l l.length).kind = 4)⟩
def gH (xs : List Int) (l : List aA) : List bO := (oJ xs l).map (iX l)
def aA7 (bI : List aA) (ks : List ByteArray) : Prop := Asc ks ∧ ∀ x, x ∈ ks ↔ ∃ o, o ∈ bI ∧ o.item = x
theorem aEV {xs : List Int} {l : List aA} {ks : List ByteArray} (h : aA7 (if aD xs l = true then hM l l.length else []) ks) :
  ks.filter (fun x => decide ((cA x (if aD xs l = true then hM l l.length else [])).level % 2 = 1)) = oJ xs l := by
 unfold oJ
 rcases hc : aD xs l with _ | _
 ·rw [hc] at h
  have : ks = [] := by
   cases ks with
   | nil => rfl
   | cons y r =>
    obtain ⟨o, ho, _⟩ := (h.2 y).1 (by simp)
    exact absurd ho (by simp)
  rw [this]
  rfl
 ·rw [hc] at h
  rw [if_pos rfl, if_pos rfl]; rw [if_pos rfl] at h; refine asc_one (List.Pairwise.filter _ h.1) (qQ l _) fun x => ?_
  rw [List.mem_filter, h.2 x, oS, decide_eq_true_eq, xV hc x l.length aPw]
  show (_ ∧ aO x l l.length % 2 = 1) ↔ _
  constructor
  ·rintro ⟨⟨o, ho, hx⟩, hl⟩
   obtain ⟨⟨i, hi, e⟩, _⟩ := (N0 aPw).1 ho; exact ⟨hl, i, hi, by rw [e]; exact hx⟩
  ·rintro ⟨hl, _⟩
   obtain ⟨i, hi, e, hu⟩ := I3 x l l.length (by intro h0; rw [h0] at hl; cases hl)
   refine ⟨⟨l.getD i aA.zero, (N0 aPw).2 ⟨⟨i, hi, rfl⟩, ?_⟩, e⟩, hl⟩
   obtain ⟨_, _, _, _, _, hok, _, _⟩ := fG hc hi; have := E5 hok; have ea : aB l i = l.getD i aA.zero := rfl; rw [ea] at this; rw [this, decide_eq_true hu]
def bW (l : List aA) (s : ByteArray) : Bool := decide ((bA gR s l l.length).kind = 4)
def kE (l : List aA) (s : ByteArray) : aA := ⟨0, 0, 0, 3, s, 0, aO s l l.length + 1, 0⟩
def eS (l : List aA) (d : Nat) (s : ByteArray) (q : List Int × List aA × Int) : Option (List Int × List aA × Int) :=
 if bW l s = true then some q
 else if (aN q.1 q.2.1 d (kE l s)).ok = true then some (dF q.1 d, bN q.2.1 d (aN q.1 q.2.1 d (kE l s)), 0) else none
def iC (xs : List Int) (l : List aA) (d : Nat) (L : List ByteArray) : Nat → Option (List Int × List aA × Int)
 | 0 => some (xs, l, 2)
 | k + 1 => (iC xs l d L k).bind (eS l d (L.getD k ⟨#[]⟩))
theorem aAy {xs : List Int} {l : List aA} {d : Nat} {L : List ByteArray} {k : Nat} (h : iC xs l d L k = none) : ∀ j, iC xs l d L (k + j) = none
 | 0 => h
 | j + 1 => by
  show (iC xs l d L (k + j)).bind _ = none
  rw [aAy h j]
  rfl
def qI (xs : List Int) (l : List aA) (d : Nat) : Int × List Int × List aA :=
 match iC xs l d (bU l l.length) (bU l l.length).length with
 | none => (4, [], [])
 | some q => if q.2.2 = 0 then (0, q.1, q.2.1) else (2, [], [])
def nameAt (l : List aA) (dev seq : Int) : Nat := l.findIdx fun x => decide (x.dev = dev ∧ x.seq = seq)
def eF (xs : List Int) (l : List aA) (dev seq : Int) : Int × List Int × List aA :=
 if nameAt l dev seq < l.length then (if (aB l (nameAt l dev seq)).undos = 50 then (4, [], []) else (0, xs, dI l (nameAt l dev seq))) else (2, [], [])
def dW (xs : List Int) (l : List aA) (d : Nat) (kind : Int) (item : ByteArray) (qty : Int) : Int × List Int × List aA :=
 let o := oneOf (aO item l l.length) (bW l item) kind item qty
 if o.2 = 0 then (if (aN xs l d o.1).ok = true then (0, dF xs d, bN l d (aN xs l d o.1)) else (4, [], [])) else (o.2, [], [])
def jJ (xs : List Int) (l : List aA) (d : Nat) (kind : Int) (item : ByteArray) (qty dv sq : Int) : Int × List Int × List aA :=
 if kind = 6 then qI xs l d
 else if kind = 7 then eF xs l (d : Int) (bV (d : Int) l l.length)
 else if kind = 8 then eF xs l (d : Int) (jH xs d l)
 else if kind = 9 then eF xs l dv sq
 else dW xs l d kind item qty
def cH (xs : List Int) (l : List aA) (dev kind : Int) (item : ByteArray) (qty dv sq : Int) : Int × List Int × List aA :=
 if aD xs l = true ∧ cO dev 0 3 = true ∧ fW kind item qty dv sq = true then
  (if (jJ xs l dev.toNat kind item qty dv sq).1 = 0 then jJ xs l dev.toNat kind item qty dv sq else ((jJ xs l dev.toNat kind item qty dv sq).1, xs, l))
 else (1, [], [])
theorem E4 {xs : List Int} {l : List aA} (hc : aD xs l = true) {i : Nat} (hi : i < l.length) {dev seq : Int} (h1 : (aB l i).dev = dev) (h2 : (aB l i).seq = seq) : nameAt l dev seq = i := by
 have aK : nameAt l dev seq < l.length := List.findIdx_lt_length_of_exists ⟨l[i], List.getElem_mem hi, by
  have e : aB l i = l[i] := by unfold aB; rw [List.getD_eq_getElem?_getD, List.getElem?_eq_getElem hi]; rfl
  rw [e] at h1 h2; exact decide_eq_true ⟨h1, h2⟩⟩
 have hp := List.findIdx_getElem (w := aK)
 have e : aB l (nameAt l dev seq) = l[nameAt l dev seq] := by unfold aB; rw [List.getD_eq_getElem?_getD, List.getElem?_eq_getElem aK]; rfl
 have S6 := of_decide_eq_true hp
 have hq : (aB l (nameAt l dev seq)).dev = dev ∧ (aB l (nameAt l dev seq)).seq = seq := by rw [e]; exact S6
 exact I7 (pP hc) aK hi (dev := dev) (seq := seq) hq ⟨h1, h2⟩
theorem aBA {l : List aA} {dev seq : Int} (h : ∀ j, j < l.length → ¬ ((aB l j).dev = dev ∧ (aB l j).seq = seq)) : ¬ nameAt l dev seq < l.length := fun aK => by
 have hp := of_decide_eq_true (List.findIdx_getElem (w := aK))
 have e : aB l (nameAt l dev seq) = l[nameAt l dev seq] := by unfold aB; rw [List.getD_eq_getElem?_getD, List.getElem?_eq_getElem aK]; rfl
 exact h _ aK (by rw [e]; exact hp)
def aFq (r : Int × List Int × List aA) (w : World) (e : Ending) (w' : World) : Prop :=
 ∃ va nv vc oa no oc, e = .returned (.tuple #[.agg #[.slice va nv vc, .slice oa no oc], .int .i64 r.1]) ∧ Below w.heap.size w w' ∧ (r.1 = 0 → nv = r.2.1.length ∧ no = r.2.2.length ∧ Own w' w.heap.size w'.heap.size va nv r.2.1 ∧ bB w' w.heap.size w'.heap.size oa no r.2.2 ∧ bQ va nv vc ∧ bQ oa no oc)
theorem uT.toX {code : Int} {zs : List Int} {L : List aA} {w w' : World} {e : Ending} (h : uT code zs L w e w') : aFq (code, zs, L) w e w' := by
 obtain ⟨va, vc, oa, oc, e1, h1, h2, h3, h4, h5⟩ := h
 exact ⟨va, _, vc, oa, _, oc, e1, h3, fun _ => ⟨rfl, rfl, h1, h2, h4, h5⟩⟩
theorem aDm.toX {xs : List Int} {l : List aA} {dev seq : Int} {w w' : World} {e : Ending} (h : aDm xs l dev seq w e w') (hc : aD xs l = true) : aFq (eF xs l dev seq) w e w' := by
 unfold eF
 rcases h with ⟨h0, h⟩ | ⟨i, hi, ⟨h1, h2⟩, ⟨hu, h⟩ | ⟨hu, h⟩⟩
 ·rw [if_neg (aBA h0)]
  exact h.toX
 ·rw [E4 hc hi h1 h2, if_pos hi, if_pos hu]
  exact h.toX
 ·rw [E4 hc hi h1 h2, if_pos hi, if_neg hu]
  exact h.toX
end Go.Proofs.YthkagbnpcjidfaaGreatDoor
