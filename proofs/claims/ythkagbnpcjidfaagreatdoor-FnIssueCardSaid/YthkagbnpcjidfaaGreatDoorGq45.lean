/- Walks and mathematics that several claims share, part 45. -/
import Derived.Test.YthkagbnpcjidfaaGreatDoorGq40
namespace Go.Proofs.YthkagbnpcjidfaaGreatDoor
open Go.RowKit
set_option linter.unusedVariables false
set_option linter.unusedSimpArgs false
def wJ (a b : aA) : Prop := a.dev = b.dev ∧ a.seq = b.seq ∧ a.stamp = b.stamp ∧ a.kind = b.kind ∧ a.item = b.item ∧ a.qty = b.qty ∧ a.level = b.level ∧ a.undos ≤ b.undos
theorem wJ.refl (a : aA) : wJ a a := ⟨rfl, rfl, rfl, rfl, rfl, rfl, rfl, Int.le_refl _⟩
theorem wJ.trans {a b c : aA} (h : wJ a b) (g : wJ b c) : wJ a c := by
 obtain ⟨h1, h2, h3, h4, h5, h6, h7, h8⟩ := h
 obtain ⟨g1, g2, g3, g4, g5, g6, g7, g8⟩ := g
 exact ⟨h1.trans g1, h2.trans g2, h3.trans g3, h4.trans g4, h5.trans g5, h6.trans g6, h7.trans g7, Int.le_trans h8 g8⟩
theorem wJ.same {a b : aA} (h : wJ a b) : (eW a b && decide (a.undos ≤ b.undos)) = true := by
 obtain ⟨h1, h2, h3, h4, h5, h6, h7, h8⟩ := h
 unfold eW
 rw [h1, h2, h3, h4, h5, h6, h7]
 simp [h8]
def rC (l m : List aA) : Prop := ∀ i, i < l.length → ∃ j, j < m.length ∧ wJ (aB l i) (aB m j)
theorem rC.refl (l : List aA) : rC l l := fun i hi => ⟨i, hi, wJ.refl _⟩
theorem rC.trans {l m n : List aA} (h : rC l m) (g : rC m n) : rC l n := fun i hi => by
 obtain ⟨j, hj, h1⟩ := h i hi
 obtain ⟨k, hk, h2⟩ := g j hj
 exact ⟨k, hk, h1.trans h2⟩
theorem rC.all {l ys m} (h : rC l m) (hc : aD ys m = true) : aBk m l = true := by
 refine aE2 fun i hi => ?_
 obtain ⟨j, hj, hg⟩ := h i hi
 have h1 := sA (sD hc) m.length aRr j hj
 rw [← hg.1, ← hg.2.1] at h1
 rw [aEd h1]
 exact hg.same
theorem aLJ (l : List aA) (d : Nat) (o : aA) : rC l (bH l d o) := fun i hi => by
 have hp := mX (d : Int) l
 rcases Nat.lt_or_ge i (putAt (d : Int) l) with h1 | h1
 ·refine ⟨i, by rw [mW]; omega, ?_⟩
  have e : aB (bH l d o) i = aB l i := by
   unfold aB bH; rw [List.getD_eq_getElem?_getD, List.getD_eq_getElem?_getD, List.append_assoc, List.getElem?_append_left (by simp; omega), List.getElem?_take_of_lt h1]
  rw [e]; exact wJ.refl _
 ·refine ⟨i + 1, by rw [mW]; omega, ?_⟩
  have e : aB (bH l d o) (i + 1) = aB l i := by
   unfold aB bH; rw [List.getD_eq_getElem?_getD, List.getD_eq_getElem?_getD, List.getElem?_append_right (by simp; omega), List.getElem?_drop]
   congr 2
   simp
   omega
  rw [e]; exact wJ.refl _
theorem aLI (l : List aA) (j : Nat) (hj : j < l.length) : rC l (dX l j) := fun i hi => by
 refine ⟨i, by rw [kC]; exact hi, ?_⟩
 have e : aB (dX l j) i = if j = i then iL (aB l j) else aB l i := gF hj
 rw [e]
 split
 ·rename_i h
  subst h; exact ⟨rfl, rfl, rfl, rfl, rfl, rfl, rfl, by show _ ≤ (aB l j).undos + 1; omega⟩
 ·exact wJ.refl _
theorem aMQ (l : List aA) (j : Nat) (hj : j < l.length) : dX l j ≠ l := fun h => by
 have e : aB (dX l j) j = if j = j then iL (aB l j) else aB l j := gF hj
 rw [if_pos rfl, h] at e
 have e2 : (aB l j).undos = (aB l j).undos + 1 := congrArg aA.undos e
 omega
theorem aEc {xs : List Int} {l : List aA} {d : Nat} {kind : Int} {item : ByteArray} {qty : Int} (h0 : (dM xs l d kind item qty).1 = 0) : rC l (dM xs l d kind item qty).2.2 ∧ (dM xs l d kind item qty).2.2.length = l.length + 1 := by
 unfold dM at h0 ⊢
 simp only at h0 ⊢
 split at h0
 ·rename_i h1
  rw [if_pos h1]
  split at h0
  ·rename_i h2
   rw [if_pos h2]; exact ⟨aLJ _ _ _, mW _ _ _⟩
  ·cases h0
 ·rename_i h1
  exact absurd h0 h1
theorem aES {d : Nat} : ∀ (U : List ByteArray) (zs : List Int) (m : List aA), (oV d U zs m).1 = 0 → rC m (oV d U zs m).2.2 ∧ (oV d U zs m).2.2.length = m.length + U.length
 | [], zs, m, _ => ⟨rC.refl _, rfl⟩
 | s :: U, zs, m, h0 => by
  unfold oV at h0 ⊢
  split at h0
  ·rename_i h1
   rw [if_pos h1]; obtain ⟨a1, a2⟩ := aEc h1; obtain ⟨b1, b2⟩ := aES U _ _ h0; exact ⟨a1.trans b1, by rw [b2, a2, List.length_cons]; omega⟩
  ·rename_i h1
   exact absurd h0 h1
theorem aAV {xs : List Int} {l : List aA} {dev s : Int} (h0 : (gE xs l dev s).1 = 0) : rC l (gE xs l dev s).2.2 ∧ (gE xs l dev s).2.2 ≠ l := by
 unfold gE at h0 ⊢
 split at h0
 ·rename_i h1
  rw [if_pos h1]
  split at h0
  ·cases h0
  ·rename_i h2
   rw [if_neg h2]; exact ⟨aLI _ _ h1, aMQ _ _ h1⟩
 ·cases h0
theorem aKk {xs : List Int} {l : List aA} (h : aD xs l = true) {d : Nat} (hd : d < 4) (h0 : (oW xs l d).1 = 0) : rC l (oW xs l d).2.2 ∧ (oW xs l d).2.2 ≠ l := by
 rw [R1 h hd] at h0 ⊢
 split at h0
 ·cases h0
 ·rename_i h1
  rw [if_neg h1]; obtain ⟨a, b⟩ := aES _ _ _ h0; refine ⟨a, fun e => ?_⟩
  have e2 := congrArg List.length e; rw [b] at e2; exact h1 (List.eq_nil_of_length_eq_zero (by omega))
theorem aMg {xs : List Int} {l : List aA} (h : aD xs l = true) {d : Nat} (hd : d < 4) {kind : Int} {item : ByteArray} {qty dv sq : Int} (h0 : (iM xs l d kind item qty dv sq).1 = 0) : rC l (iM xs l d kind item qty dv sq).2.2 ∧ (iM xs l d kind item qty dv sq).2.2 ≠ l := by
 unfold iM at h0 ⊢
 split at h0
 ·rename_i h1
  rw [if_pos h1]; exact aKk h hd h0
 ·rename_i h1
  rw [if_neg h1]
  split at h0
  ·rename_i h1
   rw [if_pos h1]; exact aAV h0
  ·rename_i h1
   rw [if_neg h1]
   split at h0
   ·rename_i h1
    rw [if_pos h1]; exact aAV h0
   ·rename_i h1
    rw [if_neg h1]
    split at h0
    ·rename_i h1
     rw [if_pos h1]; exact aAV h0
    ·rename_i h1
     rw [if_neg h1]; obtain ⟨a, b⟩ := aEc h0; exact ⟨a, fun e => by rw [e] at b; omega⟩
theorem aEu {xs : List Int} {l : List aA} {dev kind : Int} {item : ByteArray} {qty dv sq : Int} (h0 : (cD xs l dev kind item qty dv sq).1 = 0) : xB xs l (cD xs l dev kind item qty dv sq).2.1 (cD xs l dev kind item qty dv sq).2.2 = true ∧ (cD xs l dev kind item qty dv sq).2.2 ≠ l := by
 have hc := K5 xs l dev kind item qty dv sq
 unfold cD at h0 hc ⊢
 split at h0
 ·rename_i hok
  rw [if_pos hok] at hc ⊢
  split at h0
  ·rename_i h1
   rw [if_pos h1] at hc ⊢; rcases hc with hc | hc
   ·rw [hc] at h1
    cases h1
   ·have iO := hok.2.1
    unfold cS at iO; have hd := of_decide_eq_true iO; obtain ⟨a, b⟩ := aMg hok.1 (by omega) h1
    exact ⟨by rw [aEB hok.1 hc]; exact a.all hc, b⟩
  ·rename_i h1
   exact absurd h0 h1
 ·cases h0
theorem aFR {xs : List Int} {l : List aA} {dev kind : Int} {item : ByteArray} {qty dv sq : Int} (h0 : (cD xs l dev kind item qty dv sq).1 ≠ 0) (h1 : (cD xs l dev kind item qty dv sq).1 ≠ 1) : (cD xs l dev kind item qty dv sq).2 = (xs, l) := by
 unfold cD at h0 h1 ⊢
 split at h0
 ·rename_i hok
  rw [if_pos hok] at h1 ⊢
  split at h0
  ·rename_i h2
   exact absurd h2 h0
  ·rename_i h2
   rw [if_neg h2]
 ·rename_i hok
  rw [if_neg hok] at h1; exact absurd rfl h1
end Go.Proofs.YthkagbnpcjidfaaGreatDoor
