/- Walks and mathematics that several claims share, part 4. -/
import Derived.Test.YthkagbnpcjidfaaGreatDoorGu0
import Derived.Test.YthkagbnpcjidfaaGreatDoorRows
import Derived.WalkKit
import Derived.WalkLawsBesides
import Derived.Lib.Hide
import Derived.OpenShut
import Derived.Deep.QuietTactic
import Derived.BigQuiet
import Derived.Laws.Rows
import Derived.WalkSpells
import Derived.Laws.MakeOwn
import Derived.OwnWalk
namespace Go.Proofs.YthkagbnpcjidfaaGreatDoor
set_option maxRecDepth 100000
open Go.RowKit
set_option linter.unusedVariables false
set_option linter.unusedSimpArgs false
def Ints (w : World) (B : Nat) (a : Option Addr) (len : Nat) (xs : List Int) : Prop :=
 xs.length = len ∧ ∀ i, i < len → ∃ b off, a = some ⟨b, off, none⟩ ∧ b < B ∧ w.cell? ⟨b, off + i, none⟩ = some (.int .i64 (xs.getD i 0))
theorem Ints.kept {w w' : World} {B : Nat} {a : Option Addr} {len : Nat} {xs : List Int} (h : Ints w B a len xs) (hk : ∀ k, k < B → w'.heap[k]? = w.heap[k]?) : Ints w' B a len xs :=
 ⟨h.1, fun i hi => by
  obtain ⟨b, off, e, hb, hc⟩ := h.2 i hi; exact ⟨b, off, e, hb, (World.cell?_of_block (hk b hb)).trans hc⟩⟩
theorem Ints.below {w w' : World} {B B' : Nat} {a : Option Addr} {len : Nat} {xs : List Int} (h : Ints w B a len xs) (hb : Below B' w w') (hB : B ≤ B') : Ints w' B a len xs :=
 h.kept fun k hk => hb.block k (by omega)
theorem Ints.more {w : World} {B B' : Nat} {a : Option Addr} {len : Nat} {xs : List Int} (h : Ints w B a len xs) (hB : B ≤ B') : Ints w B' a len xs :=
 ⟨h.1, fun i hi => by
  obtain ⟨b, off, e, hb, hc⟩ := h.2 i hi; exact ⟨b, off, e, by omega, hc⟩⟩
theorem M6 {w : World} {B g c : Nat} {t : TypeId} {xs : List Int} (hg : w.heap[g]? = some (.cells (xs.map (Value.int .i64)).toArray t (0, 0))) (hB : g < B) (hc : xs.length = c) : Ints w B (some ⟨g, 0, none⟩) c xs :=
 ⟨hc, fun i hi => ⟨g, 0, rfl, hB, by
  rw [aPr hg]; simp [List.getElem?_eq_getElem (show i < xs.length by omega)]⟩⟩
def Same (w w' : World) : Prop := ∃ n, w' = w.drewN n
theorem Same.refl (w : World) : Same w w := ⟨0, rfl⟩
theorem Same.below {w w' : World} (h : Same w w') (B : Nat) : Below B w w' := by obtain ⟨n, rfl⟩ := h; exact ⟨rfl, rfl, rfl, Nat.le_refl _, fun _ _ => rfl⟩
theorem Same.block {w w' : World} (h : Same w w') (k : Nat) : w'.heap[k]? = w.heap[k]? := by obtain ⟨n, rfl⟩ := h; rfl
theorem Same.size {w w' : World} (h : Same w w') : w'.heap.size = w.heap.size := by obtain ⟨n, rfl⟩ := h; rfl
def sR (x : Int) : Bool := decide (0 ≤ x) && decide (x ≤ 40)
theorem J5 {x : Int} (h : sR x = true) : 0 ≤ x ∧ x ≤ 40 := by unfold sR at h; simpa using h
theorem aBQ {x : Int} (h : sR x = false) : ¬ (0 ≤ x ∧ x ≤ 40) := by unfold sR at h; simpa using h
def cJ (xs : List Int) : Bool := xs.all sR && decide (xs.length = 4)
theorem aF8 (xs : List Int) (k : Nat) (h : k < xs.length) : xs.take (k + 1) = xs.take k ++ [xs.getD k 0] := by
 rw [List.take_succ_eq_append_getElem h, List.getD_eq_getElem?_getD, List.getElem?_eq_getElem h]; rfl
theorem aDm {xs : List Int} {k : Nat} (hk : k < xs.length) (h : (xs.take k).all sR = true) (hx : sR (xs.getD k 0) = true) : (xs.take (k + 1)).all sR = true := by
 rw [aF8 xs k hk, List.all_append, h, List.all_cons, hx]
 rfl
theorem aDl {xs : List Int} {k : Nat} (hk : k < xs.length) (hx : sR (xs.getD k 0) = false) : cJ xs = false := by
 unfold cJ
 have : xs.all sR = false := by
  rw [← Bool.not_eq_true]
  intro h
  rw [List.all_eq_true] at h; have := h (xs.getD k 0) (by rw [List.getD_eq_getElem?_getD, List.getElem?_eq_getElem hk]; simp)
  rw [hx] at this; cases this
 rw [this]
 rfl
theorem aEQ {xs : List Int} {k : Nat} (hk : ¬ k < xs.length) (h : (xs.take k).all sR = true) : cJ xs = decide (xs.length = 4) := by
 rw [List.take_of_length_le (by omega)] at h
 unfold cJ
 rw [h]
 rfl
theorem aK9 {xs : List Int} (h : xs.length ≠ 4) : cJ xs = false := by unfold cJ; rw [decide_eq_false h, Bool.and_false]
theorem rD {a b : Bool} (h : a = b) : Ending.returned (.bool a) = .returned (.bool b) := by rw [h]
theorem pB (w : World) (B : Nat) (a : Option Addr) (len cap : Nat) (xs : List Int) (h : Ints w B a len xs) (hl : len ≤ 1048576) :
  Calls Tryz.prog 73 #[.slice a len cap] w fun e w' => e = .returned (.bool (cJ xs)) ∧ w = w' := by
 have hL := aPo h.1
 have H := aPo h
 clear h
 go_enter Tryz.func73, Tryz.ntmps73
 go_wp2
 go_loop [3] (fun i => ∃ k : Nat, k ≤ len ∧ i = .int .i64 k ∧ Hid ((xs.take k).all sR = true)) (fun i => len - (intOf i).toNat)
 case atStart => exact ⟨0, Nat.zero_le _, rfl, rfl⟩
 case round =>
  obtain ⟨k, hk, rfl, HA⟩ := hrel
  by_cases aJ : k < len
  ·obtain ⟨b, off, rfl, hb, hc⟩ := H.out.2 k aJ
   obtain ⟨x, hx⟩ : ∃ x, x = xs.getD k 0 := ⟨_, rfl⟩; rw [← hx] at hc; have HX := aPo hx; clear hx; cases hin : sR x
   ·have hM := aBQ hin
    have HV : Hid (cJ xs = false) := aDl (by rw [hL.out]; exact aJ) (by rw [← HX.out]; exact hin)
    clear hin
    by_cases h0 : 0 ≤ x
    ·have h1 : ¬ x ≤ 40 := fun e => hM ⟨h0, e⟩
     clear hM; go_wp2
     go_ret
     exact ⟨rD HV.out.symm, rfl⟩
    ·clear hM
     go_wp2
     go_ret
     exact ⟨rD HV.out.symm, rfl⟩
   ·obtain ⟨h0, h1⟩ := J5 hin
    have HA2 : Hid ((xs.take (k + 1)).all sR = true) := aDm (by rw [hL.out]; exact aJ) HA.out (by rw [← HX.out]; exact hin)
    clear hin; go_wp2
    go_round
    case rel => exact ⟨k + 1, by omega, by go_num, HA2⟩
    case measure => simp [intOf]; omega
  ·have HV : Hid (cJ xs = decide (xs.length = 4)) := aEQ (by rw [hL.out]; exact aJ) HA.out
   go_wp2
   go_ret
   refine ⟨rD ?_, rfl⟩
   rw [HV.out, hL.out]; rw [Bool.eq_iff_iff]; simp
   omega
theorem aBR (w : World) (B : Nat) (a : Option Addr) (len cap : Nat) (xs : List Int) (h : Ints w B a len xs) (hl : len ≤ 1048576) :
  Calls Tryz.prog 56 #[.slice a len cap] w fun e w' => e = .returned (.bool (cJ xs)) ∧ w = w' := by
 have hL := aPo h.1
 have H := aPo h
 clear h
 by_cases h4 : len = 4
 ·subst h4
  go_enter Tryz.func56, Tryz.ntmps56
  go_wp2
  go_loop [4, 10] (fun _ i => ∃ k : Nat, k ≤ 4 ∧ i = .int .i64 k ∧ Hid ((xs.take k).all sR = true)) (fun _ i => 4 - (intOf i).toNat)
  case atStart => exact ⟨0, Nat.zero_le _, rfl, rfl⟩
  case round =>
   obtain ⟨k, hk, rfl, HA⟩ := hrel
   by_cases aJ : k < 4
   ·obtain ⟨b, off, rfl, hb, hc⟩ := H.out.2 k aJ
    obtain ⟨x, hx⟩ : ∃ x, x = xs.getD k 0 := ⟨_, rfl⟩; rw [← hx] at hc; have HX := aPo hx; clear hx; cases hin : sR x
    ·have hM := aBQ hin
     have HV : Hid (cJ xs = false) := aDl (by rw [hL.out]; exact aJ) (by rw [← HX.out]; exact hin)
     clear hin
     by_cases h0 : 0 ≤ x
     ·have h1 : ¬ x ≤ 40 := fun e => hM ⟨h0, e⟩
      clear hM; go_wp2
      go_ret
      exact ⟨rD HV.out.symm, rfl⟩
     ·clear hM
      go_wp2
      go_ret
      exact ⟨rD HV.out.symm, rfl⟩
    ·obtain ⟨h0, h1⟩ := J5 hin
     have HA2 : Hid ((xs.take (k + 1)).all sR = true) := aDm (by rw [hL.out]; exact aJ) HA.out (by rw [← HX.out]; exact hin)
     clear hin; go_wp2
     go_round
     case rel => exact ⟨k + 1, by omega, by go_num, HA2⟩
     case measure => simp [intOf]; omega
   ·have HV : Hid (cJ xs = true) := (aEQ (by rw [hL.out]; exact aJ) HA.out).trans (decide_eq_true hL.out)
    go_wp2
    go_ret
    exact ⟨rD HV.out.symm, rfl⟩
 ·have HV : Hid (cJ xs = false) := aK9 (by rw [hL.out]; exact h4)
  have h4' : ((len : Int) != 4) = true := by simp; omega
  go_enter Tryz.func56, Tryz.ntmps56
  go_wp2
  go_ret
  exact ⟨rD HV.out.symm, rfl⟩
theorem Tryz.infoI64 : (Tryz.prog.info? 2).map (fun i => (i.zero, i.size, i.bytes)) = some (some (.int .i64 0), 1, 8) := by kernel_rfl
def Part (w wr : World) (len : Nat) (xs : List Int) (k : Nat) : Prop :=
 Below w.heap.size w wr ∧ ∃ cs : Array Value, wr.heap[w.heap.size]? = some (.cells cs 2 (0, 0)) ∧ cs.size = len ∧ ∀ j, j < k → cs[j]? = some (.int .i64 (xs.getD j 0))
theorem Part.step {w wr : World} {len : Nat} {xs : List Int} {k : Nat} (h : Part w wr len xs k) (hk : k < len) : Part w (wr.setCell ⟨w.heap.size, k, none⟩ (.int .i64 (xs.getD k 0))) len xs (k + 1) := by
 obtain ⟨hb, cs, hg, hs, hc⟩ := h
 refine ⟨hb.setCell aPq _, cs.setIfInBounds k (.int .i64 (xs.getD k 0)), heap_setCell_same _ _ _ _ _ _ hg, by simpa using hs, fun j hj => ?_⟩
 rw [Array.getElem?_setIfInBounds]
 by_cases e : k = j
 ·subst e
  rw [if_pos rfl, if_pos (by omega)]
 ·rw [if_neg e]
  exact hc j (by omega)
theorem Part.done {w wr : World} {len : Nat} {xs : List Int} {k : Nat} (h : Part w wr len xs k) (hx : xs.length = len) (hk : ¬ k < len) : wr.heap[w.heap.size]? = some (.cells (xs.map (Value.int .i64)).toArray 2 (0, 0)) := by
 obtain ⟨hb, cs, hg, hs, hc⟩ := h
 rw [hg]
 congr 2
 apply Array.ext_getElem?
 intro i
 by_cases hi : i < len
 ·rw [hc i (by omega), List.getElem?_toArray, List.getElem?_map, List.getElem?_eq_getElem (by omega), List.getD_eq_getElem?_getD, List.getElem?_eq_getElem (by omega)]
  rfl
 ·rw [Array.getElem?_eq_none (by omega), Array.getElem?_eq_none (by simp; omega)]
end Go.Proofs.YthkagbnpcjidfaaGreatDoor
