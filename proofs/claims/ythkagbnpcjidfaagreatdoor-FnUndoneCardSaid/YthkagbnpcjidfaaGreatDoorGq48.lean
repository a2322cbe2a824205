/- Walks and mathematics that several claims share, part 48. -/
import Derived.Test.YthkagbnpcjidfaaGreatDoorGq40
import Derived.Deep.Cut
namespace Go.Proofs.YthkagbnpcjidfaaGreatDoor
open Go.RowKit
set_option linter.unusedVariables false
set_option linter.unusedSimpArgs false
theorem G0 (xs : List Int) (l : List aA) : Asc (jM xs l) := by
 unfold jM
 split
 ·exact rG l _
 ·exact List.Pairwise.nil
theorem xA {xs : List Int} {l : List aA} (hc : aD xs l = true) (x : ByteArray) : x ∈ jM xs l ↔ aL x l l.length % 2 = 1 := by
 unfold jM
 rw [if_pos hc, pJ]
 refine ⟨fun h => h.1, fun h => ⟨h, ?_⟩⟩
 obtain ⟨i, hi, e, _⟩ := Q0 x l l.length (by intro e; rw [e] at h; exact absurd h (by decide))
 exact ⟨i, hi, e⟩
theorem aC8 {xs ys : List Int} {l m : List aA} (hc : aD xs l = true) (hd : aD ys m = true) (h1 : ∀ x, aL x m m.length % 2 = 1 ↔ aL x l l.length % 2 = 1) (h2 : ∀ x, aL x l l.length % 2 = 1 → fM m x = fM l x) : dC ys m = dC xs l := by
 have e : jM ys m = jM xs l := asc_one (G0 ys m) (G0 xs l) fun x => by rw [xA hd, xA hc]; exact h1 x
 unfold dC
 rw [e]
 exact List.map_congr_left fun x hx => h2 x ((xA hc x).1 hx)
def A8 (x : ByteArray) (a : Int) (o : aA) : Int := if o.item = x ∧ o.undos % 2 = 0 then max a o.level else a
theorem aEn (x : ByteArray) (t : Int) : ∀ (l : List aA) (a : Int), l.foldl (A8 x) (max a t) = max (l.foldl (A8 x) a) t
 | [], _ => rfl
 | o :: l, a => by
  rw [List.foldl_cons, List.foldl_cons]; have e : A8 x (max a t) o = max (A8 x a o) t := by unfold A8; split <;> omega
  rw [e]; exact aEn x t l _
theorem F7 (l : List aA) (d : Nat) (o : aA) : ∃ A B, l = A ++ B ∧ bH l d o = A ++ (o :: B) := by
 refine ⟨l.take (putAt (d : Int) l), l.drop (putAt (d : Int) l), (List.take_append_drop _ _).symm, ?_⟩
 unfold bH
 rw [List.append_assoc]
 rfl
theorem aM8 {x : ByteArray} {l : List aA} {d : Nat} {o : aA} (h : o.item = x) (hu : o.undos % 2 = 0) : aL x (bH l d o) (bH l d o).length = max (aL x l l.length) o.level := by
 rw [zW, zW]
 obtain ⟨A, B, e1, e2⟩ := F7 l d o
 rw [e2]
 subst e1
 show List.foldl (A8 x) 0 (A ++ (o :: B)) = max (List.foldl (A8 x) 0 (A ++ B)) o.level
 rw [List.foldl_append, List.foldl_append, List.foldl_cons, ← aEn]
 congr 1
 unfold A8
 rw [if_pos ⟨h, hu⟩]
theorem aMe {x : ByteArray} {l : List aA} {d : Nat} {o : aA} (h : ¬ (o.item = x ∧ o.undos % 2 = 0)) : aL x (bH l d o) (bH l d o).length = aL x l l.length := by
 rw [zW, zW]
 obtain ⟨A, B, e1, e2⟩ := F7 l d o
 rw [e2]
 subst e1
 show List.foldl (A8 x) 0 (A ++ (o :: B)) = List.foldl (A8 x) 0 (A ++ B)
 rw [List.foldl_append, List.foldl_append, List.foldl_cons]
 congr 1
 unfold A8
 rw [if_neg h]
def oX (P : Int → Bool) (x : ByteArray) (b o : aA) : aA := if (P o.kind = true ∧ o.item = x ∧ o.undos % 2 = 0) ∧ (b.kind = 0 ∨ mZ b o = true) then o else b
theorem aB4 (P : Int → Bool) (x : ByteArray) : ∀ (l : List aA) (b : aA), l.foldl (oX P x) b = b ∨ l.foldl (oX P x) b ∈ l
 | [], b => .inl rfl
 | o :: l, b => by
  rw [List.foldl_cons]; rcases aB4 P x l (oX P x b o) with h | h
  ·rw [h]
   unfold oX
   split
   ·exact .inr (List.mem_cons_self ..)
   ·exact .inl rfl
  ·exact .inr (List.mem_cons_of_mem _ h)
theorem aB3 {P : Int → Bool} {x : ByteArray} {o : aA} (hk : o.kind ≠ 0) : ∀ l : List aA, (∀ y, y ∈ l → mZ o y = false) → l.foldl (oX P x) o = o
 | [], _ => rfl
 | y :: l, h => by
  rw [List.foldl_cons]; have e : oX P x o y = o := by
   unfold oX; rw [if_neg]; rintro ⟨_, h1 | h1⟩
   ·exact hk h1
   ·rw [h y (List.mem_cons_self ..)] at h1
    cases h1
  rw [e]; exact aB3 hk l fun z hz => h z (List.mem_cons_of_mem _ hz)
theorem aMr {P : Int → Bool} {x : ByteArray} {l : List aA} {d : Nat} {o : aA} (hP : P o.kind = true) (hi : o.item = x) (hu : o.undos % 2 = 0) (hk : o.kind ≠ 0) (h : ∀ y, y ∈ l → mZ y o = true ∧ mZ o y = false) : bA P x (bH l d o) (bH l d o).length = o := by
 rw [C8]
 obtain ⟨A, B, e1, e2⟩ := F7 l d o
 rw [e2]
 subst e1
 show List.foldl (oX P x) aA.zero (A ++ (o :: B)) = o
 rw [List.foldl_append, List.foldl_cons]
 have e : oX P x (List.foldl (oX P x) aA.zero A) o = o := by
  have hb := aB4 P x A aA.zero; generalize List.foldl (oX P x) aA.zero A = b at hb; unfold oX; rw [if_pos]; refine ⟨⟨hP, hi, hu⟩, ?_⟩
  rcases hb with rfl | hb
  ·exact .inl rfl
  ·exact .inr (h b (List.mem_append_left _ hb)).1
 rw [e]
 exact aB3 hk B fun y hy => (h y (List.mem_append_right _ hy)).2
theorem aBi {P : Int → Bool} {x : ByteArray} {l : List aA} {d : Nat} {o : aA} (h : ¬ (P o.kind = true ∧ o.item = x ∧ o.undos % 2 = 0)) : bA P x (bH l d o) (bH l d o).length = bA P x l l.length := by
 rw [C8, C8]
 obtain ⟨A, B, e1, e2⟩ := F7 l d o
 rw [e2]
 subst e1
 show List.foldl (oX P x) aA.zero (A ++ (o :: B)) = List.foldl (oX P x) aA.zero (A ++ B)
 rw [List.foldl_append, List.foldl_append, List.foldl_cons]
 congr 1
 unfold oX
 rw [if_neg fun q => h q.1]
theorem aIa {xs : List Int} {l : List aA} {d : Nat} {o : aA} : ∀ y, y ∈ l → mZ y (aK xs l d o) = true ∧ mZ (aK xs l d o) y = false := fun y hy => by
 obtain ⟨i, hi, e⟩ := List.mem_iff_getElem.1 hy
 have e2 : aB l i = y := by unfold aB; rw [List.getD_eq_getElem?_getD, List.getElem?_eq_getElem hi]; exact e
 have := P2 l l.length i hi
 rw [e2] at this
 have hs : (aK xs l d o).stamp = cX l l.length + 1 := rfl
 unfold mZ preB
 rw [hs]
 exact ⟨decide_eq_true (.inl (by omega)), decide_eq_false (by omega)⟩
def Alike (a b : aA) : Prop := a.dev = b.dev ∧ a.seq = b.seq ∧ a.stamp = b.stamp ∧ a.kind = b.kind ∧ a.item = b.item ∧ a.qty = b.qty ∧ a.level = b.level ∧ a.undos % 2 = b.undos % 2
theorem Alike.refl (a : aA) : Alike a a := ⟨rfl, rfl, rfl, rfl, rfl, rfl, rfl, rfl⟩
theorem aC9 {l m : List aA} (h : ∀ i, Alike (l.getD i aA.zero) (m.getD i aA.zero)) (x : ByteArray) : ∀ k, aL x l k = aL x m k
 | 0 => rfl
 | k + 1 => by
  obtain ⟨_, _, _, _, h5, _, h7, h8⟩ := h k; rw [aL, aL, aC9 h x k, h5, h7, h8]
theorem R4 {l m : List aA} (h : ∀ i, Alike (l.getD i aA.zero) (m.getD i aA.zero)) (P : Int → Bool) (x : ByteArray) : ∀ k, Alike (bA P x l k) (bA P x m k)
 | 0 => Alike.refl _
 | k + 1 => by
  have ih := R4 h P x k; have hk := h k; rw [bA, bA]; generalize bA P x l k = a at ih; generalize bA P x m k = b at ih; generalize l.getD k aA.zero = p at hk; generalize m.getD k aA.zero = q at hk; obtain ⟨a1, a2, a3, a4, a5, a6, a7, a8⟩ := id ih; obtain ⟨b1, b2, b3, b4, b5, b6, b7, b8⟩ := id hk; have e : mZ a p = mZ b q := by unfold mZ; rw [a1, a2, a3, b1, b2, b3]
  rw [e, a4, b4, b5, b8]
  split
  ·exact hk
  ·exact ih
theorem aGK {l m : List aA} (hl : l.length = m.length) (h : ∀ i, Alike (l.getD i aA.zero) (m.getD i aA.zero)) (x : ByteArray) : fM l x = fM m x := by
 unfold fM
 rw [hl, (R4 h xX x m.length).2.2.2.2.2.1, (R4 h gN x m.length).2.2.2.1]
theorem aFP {xs ys : List Int} {l m : List aA} (hc : aD xs l = true) (hd : aD ys m = true) (hl : l.length = m.length) (h : ∀ i, Alike (l.getD i aA.zero) (m.getD i aA.zero)) : dC ys m = dC xs l :=
 aC8 hc hd (fun x => by rw [aC9 h x, hl]) fun x _ => (aGK hl h x).symm
theorem aHL {l : List aA} {i : Nat} (hi : i < l.length) (j : Nat) : Alike (l.getD j aA.zero) ((dX (dX l i) i).getD j aA.zero) := by
 have h1 : ∀ k, (dX l i).getD k aA.zero = if i = k then iL (aB l i) else l.getD k aA.zero := fun k => by unfold dX; exact gF hi
 have hi2 : i < (dX l i).length := by rw [kC]; exact hi
 have h2 : (dX (dX l i) i).getD j aA.zero = if i = j then iL (aB (dX l i) i) else (dX l i).getD j aA.zero := by
  show ((dX l i).set i (iL (aB (dX l i) i))).getD j aA.zero = _
  exact gF hi2
 rw [h2]
 split
 ·rename_i e
  subst e; have h3 : aB (dX l i) i = iL (aB l i) := (h1 i).trans (if_pos rfl); rw [h3]; refine ⟨rfl, rfl, rfl, rfl, rfl, rfl, rfl, ?_⟩
  show (aB l i).undos % 2 = ((aB l i).undos + 1 + 1) % 2
  omega
 ·rename_i e
  rw [h1, if_neg e]; exact Alike.refl _
theorem aF8 {l : List aA} {d : Nat} {o : aA} : dX (bH l d o) (putAt (d : Int) l) = bH l d (iL o) := by
 have e : aB (bH l d o) (putAt (d : Int) l) = o := put_eq l d o
 have yS := mX (d : Int) l
 unfold dX
 rw [e]
 unfold bH
 rw [List.append_assoc, List.append_assoc, List.set_append_right _ _ (by rw [List.length_take]; omega), List.length_take, Nat.min_eq_left yS, Nat.sub_self]
 rfl
theorem aF9 {l : List aA} {d : Nat} {o : aA} : putAt (d : Int) l < (bH l d o).length := by
 have := mX (d : Int) l
 rw [mW]
 omega
structure K9 (xs : List Int) (l : List aA) (d : Nat) (kind : Int) (item : ByteArray) (qty : Int) (r : Int × List Int × List aA) : Prop where
 ok : (aK xs l d (oneOf (aL item l l.length) (bW l item) kind item qty).1).ok = true
 code : (oneOf (aL item l l.length) (bW l item) kind item qty).2 = 0
 eq : r = (0, dH xs d, bH l d (aK xs l d (oneOf (aL item l l.length) (bW l item) kind item qty).1))
theorem aJi {xs : List Int} {l : List aA} {d : Nat} {kind : Int} {item : ByteArray} {qty : Int} (h : (dM xs l d kind item qty).1 = 0) : K9 xs l d kind item qty (dM xs l d kind item qty) := by
 unfold dM at h ⊢
 dsimp only at h ⊢
 split at h
 ·rename_i h1
  rw [if_pos h1]
  split at h
  ·rename_i h2
   rw [if_pos h2]; exact ⟨h2, h1, rfl⟩
  ·cases h
 ·rename_i h1
  exact absurd h h1
def aQx (l : List aA) (x : ByteArray) (t : Bool) (q : Int) (s : Bool) : Prop := (aL x l l.length % 2 = 1 ↔ t = true) ∧ (t = true → (fM l x).qty = q ∧ (fM l x).saved = s)
theorem aGz {xs : List Int} {l : List aA} {d : Nat} {o : aA} {x : ByteArray} (h : o.item ≠ x) : aL x (bH l d (aK xs l d o)) (bH l d (aK xs l d o)).length = aL x l l.length ∧ fM (bH l d (aK xs l d o)) x = fM l x := by
 have hi : (aK xs l d o).item ≠ x := h
 refine ⟨aGg hi, ?_⟩
 unfold fM
 rw [aEZ hi, aEZ hi]
theorem aA1 {yK : Int} {sv : Bool} {kind : Int} {item : ByteArray} {qty : Int} (h : (oneOf yK sv kind item qty).2 = 0) : (oneOf yK sv kind item qty).1.item = item ∧ (oneOf yK sv kind item qty).1.undos = 0 ∧ (oneOf yK sv kind item qty).1.kind = kind ∧ 1 ≤ kind ∧ kind ≤ 5 := by
 unfold oneOf at h ⊢
 repeat' split at h
 all_goals first | (exact absurd h (by decide)) | (simp_all)
theorem K9.others {xs : List Int} {l : List aA} {d : Nat} {kind : Int} {item : ByteArray} {qty : Int} {r : Int × List Int × List aA} (h : K9 xs l d kind item qty r) {x : ByteArray} (hx : item ≠ x) : aL x r.2.2 r.2.2.length = aL x l l.length ∧ fM r.2.2 x = fM l x := by
 rw [h.eq]
 exact aGz (by rw [(aA1 h.code).1]; exact hx)
theorem K9.item {xs : List Int} {l : List aA} {d : Nat} {kind : Int} {item : ByteArray} {qty : Int} {r : Int × List Int × List aA} (h : K9 xs l d kind item qty r) :
  (kind = 1 → ¬ aL item l l.length % 2 = 1 ∧ aL item r.2.2 r.2.2.length % 2 = 1 ∧ fM r.2.2 item = ⟨item, qty, false⟩) ∧
  (kind = 2 → aL item l l.length % 2 = 1 ∧ aL item r.2.2 r.2.2.length % 2 = 1 ∧ fM r.2.2 item = ⟨item, qty, (fM l item).saved⟩) ∧
  (kind = 3 → aL item l l.length % 2 = 1 ∧ ¬ aL item r.2.2 r.2.2.length % 2 = 1) ∧
  (kind = 4 → aL item l l.length % 2 = 1 ∧ aL item r.2.2 r.2.2.length % 2 = 1 ∧ (fM l item).saved = false ∧ fM r.2.2 item = ⟨item, (fM l item).qty, true⟩) ∧
  (kind = 5 → aL item l l.length % 2 = 1 ∧ aL item r.2.2 r.2.2.length % 2 = 1 ∧ (fM l item).saved = true ∧ fM r.2.2 item = ⟨item, (fM l item).qty, false⟩) := by
 obtain ⟨hok, cM, he⟩ := h
 obtain ⟨hi, hu, hk, _, _⟩ := aA1 cM
 have aK4 := aIa (xs := xs) (l := l) (d := d) (o := (oneOf (aL item l l.length) (bW l item) kind item qty).1)
 have aQ1 := sO item l l.length
 have hsv : (fM l item).saved = bW l item := rfl
 have hr : r.2.2 = bH l d (aK xs l d (oneOf (aL item l l.length) (bW l item) kind item qty).1) := by rw [he]
 rw [hr, hsv]
 clear he hr hsv
 have L1 := aM8 (x := item) (l := l) (d := d) (o := aK xs l d (oneOf (aL item l l.length) (bW l item) kind item qty).1) hi (by show (oneOf _ _ _ _ _).1.undos % 2 = 0; rw [hu]; rfl)
 have B1 := fun (P : Int → Bool) (hP : P kind = true) => aMr (P := P) (x := item) (l := l) (d := d) (o := aK xs l d (oneOf (aL item l l.length) (bW l item) kind item qty).1) (by show P (oneOf _ _ _ _ _).1.kind = true; rw [hk]; exact hP) hi (by show (oneOf _ _ _ _ _).1.undos % 2 = 0; rw [hu]; rfl) (by show (oneOf _ _ _ _ _).1.kind ≠ 0; rw [hk]; omega) aK4
 have B0 := fun (P : Int → Bool) (hP : P kind = false) => aBi (P := P) (x := item) (l := l) (d := d) (o := aK xs l d (oneOf (aL item l l.length) (bW l item) kind item qty).1) (by intro q; have q1 : P (oneOf _ _ _ _ _).1.kind = true := q.1; rw [hk, hP] at q1; cases q1)
 rw [L1]
 have lv : (aK xs l d (oneOf (aL item l l.length) (bW l item) kind item qty).1).level = (oneOf (aL item l l.length) (bW l item) kind item qty).1.level := rfl
 have hq : (aK xs l d (oneOf (aL item l l.length) (bW l item) kind item qty).1).qty = (oneOf (aL item l l.length) (bW l item) kind item qty).1.qty := rfl
 have hkd : (aK xs l d (oneOf (aL item l l.length) (bW l item) kind item qty).1).kind = kind := hk
 rw [lv]
 unfold fM
 generalize aK xs l d (oneOf (aL item l l.length) (bW l item) kind item qty).1 = o at B1 B0 hq hkd
 refine ⟨?_, ?_, ?_, ?_, ?_⟩
 all_goals
  rintro rfl
 ·rw [B1 xX rfl, B1 gN rfl, hq, hkd]
  unfold oneOf at cM ⊢; rw [if_pos rfl] at cM ⊢
  split at cM
  ·exact absurd cM (by decide)
  ·rename_i h1
   rw [if_neg h1]; refine ⟨h1, ?_, rfl⟩
   show max (aL item l l.length) (aL item l l.length + 1) % 2 = 1
   omega
 ·rw [B1 xX rfl, B0 gN rfl, hq]
  unfold oneOf at cM ⊢; rw [if_neg (by decide)] at cM ⊢
  split at cM
  ·rename_i h1
   rw [if_pos h1, if_pos rfl]; refine ⟨h1, ?_, rfl⟩
   show max (aL item l l.length) 0 % 2 = 1
   omega
  ·exact absurd cM (by decide)
 ·unfold oneOf at cM ⊢
  rw [if_neg (by decide)] at cM ⊢
  split at cM
  ·rename_i h1
   rw [if_pos h1, if_neg (by decide), if_pos rfl]
   refine ⟨h1, ?_⟩
   show ¬ max (aL item l l.length) (aL item l l.length + 1) % 2 = 1
   omega
  ·exact absurd cM (by decide)
 ·rw [B0 xX rfl, B1 gN rfl, hkd]
  unfold oneOf at cM ⊢; rw [if_neg (by decide)] at cM ⊢
  split at cM
  ·rename_i h1
   rw [if_pos h1, if_neg (by decide), if_neg (by decide), if_pos rfl]
   rw [if_neg (by decide), if_neg (by decide), if_pos rfl] at cM
   split at cM
   ·exact absurd cM (by decide)
   ·rename_i h2
    rw [if_neg h2]; refine ⟨h1, ?_, ?_, rfl⟩
    ·show max (aL item l l.length) 0 % 2 = 1
     omega
    ·cases hs : bW l item
     ·rfl
     ·exact absurd hs h2
  ·exact absurd cM (by decide)
 ·rw [B0 xX rfl, B1 gN rfl, hkd]
  unfold oneOf at cM ⊢; rw [if_neg (by decide)] at cM ⊢
  split at cM
  ·rename_i h1
   rw [if_pos h1, if_neg (by decide), if_neg (by decide), if_neg (by decide), if_pos rfl]
   rw [if_neg (by decide), if_neg (by decide), if_neg (by decide), if_pos rfl] at cM
   split at cM
   ·rename_i h2
    rw [if_pos h2]; refine ⟨h1, ?_, h2, rfl⟩
    show max (aL item l l.length) 0 % 2 = 1
    omega
   ·exact absurd cM (by decide)
  ·exact absurd cM (by decide)
theorem aM4 {o : aA} (h : o.ok = true) : 1 ≤ o.seq ∧ o.seq ≤ 40 := by
 have h' : dP o.dev o.seq o.stamp o.kind o.item o.qty o.level o.undos = true := h
 unfold dP rT at h'
 simp only [Bool.and_eq_true, gM] at h'
 omega
theorem aCT {xs : List Int} {l : List aA} (hc : aD xs l = true) (dev : Int) : ∀ k, k ≤ l.length → (∀ i, i < k → (aB l i).dev = dev → (aB l i).undos % 2 = 0 → (aB l i).seq ≤ cO dev l k) ∧ (∀ i, i < k → (aB l i).dev = dev → (aB l i).seq = cO dev l k → (aB l i).undos % 2 = 0)
 | 0, _ => ⟨fun i hi => absurd hi (Nat.not_lt_zero _), fun i hi => absurd hi (Nat.not_lt_zero _)⟩
 | k + 1, hk => by
  obtain ⟨h1, h2⟩ := aCT hc dev k (by omega)
  have e : aB l k = l.getD k aA.zero := rfl; have nX : k < l.length := hk; rw [cO, ← e]
  by_cases hq : (aB l k).dev = dev ∧ (aB l k).undos % 2 = 0
  ·rw [if_pos hq]
   refine ⟨fun i hi hd hu => ?_, fun i hi hd hs => ?_⟩
   ·rcases Nat.lt_or_ge i k with h | h
    ·exact Int.le_of_lt (H8 hc h nX (hd.trans hq.1.symm))
    ·obtain rfl : i = k := by omega
     exact Int.le_refl _
   ·rcases Nat.lt_or_ge i k with h | h
    ·have := H8 hc h nX (hd.trans hq.1.symm)
     omega
    ·obtain rfl : i = k := by omega
     exact hq.2
  ·rw [if_neg hq]
   refine ⟨fun i hi hd hu => ?_, fun i hi hd hs => ?_⟩
   ·rcases Nat.lt_or_ge i k with h | h
    ·exact h1 i h hd hu
    ·obtain rfl : i = k := by omega
     exact absurd ⟨hd, hu⟩ hq
   ·rcases Nat.lt_or_ge i k with h | h
    ·exact h2 i h hd hs
    ·obtain rfl : i = k := by omega
     obtain ⟨_, _, _, _, _, hok, _⟩ := fU hc nX; have hp := (aM4 hok).1; rcases wU dev l i with h0 | ⟨j, hj, hdj, hsj⟩
     ·omega
     ·have := H8 hc hj nX (hdj.trans hd.symm)
      omega
theorem aDi {kind : Int} {item : ByteArray} {qty dv sq : Int} (h : fT kind item qty dv sq = true) : 1 ≤ kind ∧ kind ≤ 9 := by
 unfold fT at h
 repeat' split at h
 all_goals first | omega | cases h
theorem aMo {kind : Int} {item : ByteArray} {qty dv sq : Int} (h : fT kind item qty dv sq = true) (hk : kind ≤ 5) : gK item = true := by
 have := aDi h
 unfold fT at h
 split at h
 ·rw [Bool.and_eq_true] at h; exact h.1
 ·split at h
  ·rw [Bool.and_eq_true] at h; exact h.1
  ·rename_i h1 h2
   omega
theorem aBQ {xs : List Int} {l : List aA} {dev kind : Int} {item : ByteArray} {qty dv sq : Int} (h0 : (cD xs l dev kind item qty dv sq).1 = 0) (hk : kind ≤ 5) : aD xs l = true ∧ (0 ≤ dev ∧ dev ≤ 3) ∧ 1 ≤ kind ∧ gK item = true ∧ K9 xs l dev.toNat kind item qty (cD xs l dev kind item qty dv sq) := by
 unfold cD at h0 ⊢
 split at h0
 ·rename_i hok
  rw [if_pos hok]
  split at h0
  ·rename_i h1
   rw [if_pos h1]; have h2 : iM xs l dev.toNat kind item qty dv sq = dM xs l dev.toNat kind item qty := by
    unfold iM; rw [if_neg (by omega), if_neg (by omega), if_neg (by omega), if_neg (by omega)]
   rw [h2] at h1 ⊢; exact ⟨hok.1, gM.1 hok.2.1, (aDi hok.2.2).1, aMo hok.2.2 hk, aJi h1⟩
  ·rename_i h1
   exact absurd h0 h1
 ·cases h0
theorem K9.cart {xs : List Int} {l : List aA} {d : Nat} {kind : Int} {item : ByteArray} {qty : Int} {r : Int × List Int × List aA} (h : K9 xs l d kind item qty r) (hc : aD xs l = true) (hd : d < 4) : aD r.2.1 r.2.2 = true := by
 rw [h.eq]
 exact R2 hc hd h.ok
theorem K9.lines {xs : List Int} {l : List aA} {d : Nat} {kind : Int} {item : ByteArray} {qty : Int} {r : Int × List Int × List aA} (h : K9 xs l d kind item qty r) (hc : aD xs l = true) (hd : d < 4) :
  (dC r.2.1 r.2.2).filter (fun n => decide (n.item ≠ item)) = (dC xs l).filter (fun n => decide (n.item ≠ item)) := by
 have hr := h.cart hc hd
 have e : ∀ (ys : List Int) (m : List aA), (dC ys m).filter (fun n => decide (n.item ≠ item)) = ((jM ys m).filter (fun x => decide (x ≠ item))).map (fM m) := fun ys m => by
  unfold dC; rw [List.filter_map]
  rfl
 rw [e, e]
 have e2 : (jM r.2.1 r.2.2).filter (fun x => decide (x ≠ item)) = (jM xs l).filter (fun x => decide (x ≠ item)) := by
  refine asc_one ((G0 _ _).filter _) ((G0 _ _).filter _) fun x => ?_
  rw [List.mem_filter, List.mem_filter, xA hr, xA hc]
  by_cases hx : item = x
  ·subst hx
   simp
  ·rw [(h.others hx).1]
 rw [e2]
 refine List.map_congr_left fun x hx => ?_
 rw [List.mem_filter] at hx
 exact (h.others (fun e => (of_decide_eq_true hx.2) e.symm)).2
theorem aKo {xs : List Int} {l : List aA} (hc : aD xs l = true) {i : Nat} (hi : i < l.length) {d : Nat} (hd : (aB l i).dev = (d : Int)) : (aB l i).seq ≤ xs.getD d 0 := by
 obtain ⟨e, he, h1, h2, _, h3, h4⟩ := qT hc hi
 have : e = d := by omega
 subst this
 have h5 : aP xs (e + 1) = aP xs e + (xs.getD e 0).toNat := rfl
 omega
theorem aFG {xs : List Int} {l : List aA} (hc : aD xs l = true) {d : Nat} (hd : d < 4) {o : aA} (hok : (aK xs l d o).ok = true) (hu : o.undos = 0) : cO (d : Int) (bH l d (aK xs l d o)) (bH l d (aK xs l d o)).length = xs.getD d 0 + 1 := by
 have cY := R2 hc hd hok
 have ha := put_eq l d (aK xs l d o)
 have hp := aF9 (l := l) (d := d) (o := aK xs l d o)
 have hv := M3 (xs := xs) (d := d) (e := d) (eP hc).1 hd
 rw [if_pos rfl] at hv
 have h1 := (aCT cY (d : Int) _ aRr).1 _ hp (by rw [ha]; rfl) (by rw [ha]; show o.undos % 2 = 0; rw [hu]; rfl)
 rw [ha] at h1
 have h1 : xs.getD d 0 + 1 ≤ cO (d : Int) (bH l d (aK xs l d o)) (bH l d (aK xs l d o)).length := h1
 rcases wU (d : Int) (bH l d (aK xs l d o)) (bH l d (aK xs l d o)).length with h2 | ⟨j, hj, h3, h4⟩
 ·have := ((eP hc).2 d hd).1
  omega
 ·have := aKo cY hj h3
  omega
theorem aDc {xs : List Int} {l : List aA} {d : Nat} (hc : aD xs l = true) (hd : d < 4) {kind s : Int} (hs : (kind = 7 ∧ s = cO (d : Int) l l.length) ∨ (kind = 8 ∧ s = pB xs d l)) : cD xs l (d : Int) kind ⟨#[]⟩ 0 0 0 = if (gE xs l (d : Int) s).1 = 0 then gE xs l (d : Int) s else ((gE xs l (d : Int) s).1, xs, l) := by
 have hk : kind = 7 ∨ kind = 8 := by omega
 unfold cD
 rw [if_pos ⟨hc, zX (by omega) (by omega), by rcases hk with rfl | rfl <;> rfl⟩]
 have e : iM xs l (d : Int).toNat kind ⟨#[]⟩ 0 0 0 = gE xs l (d : Int) s := by
  unfold iM; rcases hs with ⟨rfl, rfl⟩ | ⟨rfl, rfl⟩
  ·rw [if_neg (by decide), if_pos rfl]
   rfl
  ·rw [if_neg (by decide), if_neg (by decide), if_pos rfl]
   rfl
 rw [e]
theorem aHM {xs : List Int} {l : List aA} (hc : aD xs l = true) {i : Nat} (hi : i < l.length) {dev s : Int} (h1 : (aB l i).dev = dev) (h2 : (aB l i).seq = s) (hu : (aB l i).undos ≠ 50) : gE xs l dev s = (0, xs, dX l i) := by
 unfold gE
 rw [aAr hc hi h1 h2, if_pos hi, if_neg hu]
theorem aMO {xs : List Int} {l : List aA} {dev kind : Int} {item : ByteArray} {qty dv sq : Int} (h0 : (cD xs l dev kind item qty dv sq).1 = 0) (hk : kind ≤ 5) {n u r : Int × List Int × List aA}
  (hn : cD xs l dev kind item qty dv sq = n) (hu : cD n.2.1 n.2.2 dev 7 ⟨#[]⟩ 0 0 0 = u) (hr : cD u.2.1 u.2.2 dev 8 ⟨#[]⟩ 0 0 0 = r) :
  (0 ≤ dev ∧ dev ≤ 3) ∧ aD n.2.1 n.2.2 = true ∧ u.1 = 0 ∧ aD u.2.1 u.2.2 = true ∧ dC u.2.1 u.2.2 = dC xs l ∧ (pO u.2.1 u.2.2 dev = n.2.1.getD dev.toNat 0 → r.1 = 0 ∧ dC r.2.1 r.2.2 = dC n.2.1 n.2.2) := by
 obtain ⟨hc, iO, _, _, ht⟩ := aBQ h0 hk
 rw [hn] at ht
 obtain ⟨d, rfl⟩ : ∃ d : Nat, dev = (d : Int) := ⟨dev.toNat, by omega⟩
 have hd : d < 4 := by omega
 have cY : aD n.2.1 n.2.2 = true := ht.cart hc hd
 obtain ⟨hok, cM, he⟩ := ht
 have hi := aA1 cM
 generalize hO : (oneOf (aL item l l.length) (bW l item) kind item qty).1 = o at hok he hi
 change (aK xs l d o).ok = true at hok
 change n = (0, dH xs d, bH l d (aK xs l d o)) at he
 have hun := aFG hc hd hok hi.2.1
 have ha := put_eq l d (aK xs l d o)
 have hp := aF9 (l := l) (d := d) (o := aK xs l d o)
 have hv := M3 (xs := xs) (d := d) (e := d) (eP hc).1 hd
 rw [if_pos rfl] at hv
 rw [he] at hu cY ⊢
 change cD (dH xs d) (bH l d (aK xs l d o)) (d : Int) 7 ⟨#[]⟩ 0 0 0 = u at hu
 change aD (dH xs d) (bH l d (aK xs l d o)) = true at cY
 have hz : (aK xs l d o).undos = 0 := hi.2.1
 rw [aDc cY hd (.inl ⟨rfl, hun.symm⟩), aHM cY hp (by rw [ha]; rfl) (by rw [ha]; rfl) (by rw [ha, hz]; decide), if_pos rfl] at hu
 have p5 := aBg cY hp (by rw [ha, hz]; decide)
 have htt := fun j => aHL hp j
 have X2 : aB (dX (bH l d (aK xs l d o)) (putAt (d : Int) l)) (putAt (d : Int) l) = iL (aK xs l d o) := by rw [aF8]; exact put_eq l d _
 have hp2 : putAt (d : Int) l < (dX (bH l d (aK xs l d o)) (putAt (d : Int) l)).length := by rw [kC]; exact hp
 have hzo : (iL (aK xs l d o)).undos = 1 := by show (aK xs l d o).undos + 1 = 1; rw [hz]; rfl
 subst hu
 refine ⟨iO, cY, rfl, p5, ?_, ?_⟩
 ·show dC (dH xs d) (dX (bH l d (aK xs l d o)) (putAt (d : Int) l)) = dC xs l
  have aNv := p5; rw [aF8] at aNv ⊢; have bI : ¬ (iL (aK xs l d o)).undos % 2 = 0 := by rw [hzo]; decide
  refine aC8 hc aNv (fun x => by rw [aMe fun q => bI q.2]) fun x _ => ?_
  unfold fM; rw [aBi fun q => bI q.2.2, aBi fun q => bI q.2.2]
 ·intro hrd
  change pO (dH xs d) (dX (bH l d (aK xs l d o)) (putAt (d : Int) l)) (d : Int) = (dH xs d).getD d 0 at hrd
  unfold pO at hrd; rw [if_pos ⟨p5, zX iO.1 iO.2⟩] at hrd
  change pB (dH xs d) d _ = _ at hrd
  change cD (dH xs d) (dX (bH l d (aK xs l d o)) (putAt (d : Int) l)) (d : Int) 8 ⟨#[]⟩ 0 0 0 = r at hr
  rw [aDc p5 hd (.inr ⟨rfl, hrd.symm⟩), aHM p5 hp2 (by rw [X2]; rfl) (by rw [X2, hv]; rfl) (by rw [X2, hzo]; decide), if_pos rfl] at hr
  subst hr; have jP := aBg p5 hp2 (by rw [X2, hzo]; decide)
  exact ⟨rfl, aFP cY jP (by rw [kC, kC]) htt⟩
end Go.Proofs.YthkagbnpcjidfaaGreatDoor
