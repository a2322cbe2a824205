/- Walks and mathematics that several claims share, part 4. -/
import Derived.Test.YthkagbnpcjidfaaGreatDoorGp0
import Derived.Test.YthkagbnpcjidfaaGreatDoorRows
import Derived.WalkKit
import Derived.WalkLawsBesides
import Derived.Lib.Hide
import Derived.OpenShut
import Derived.Deep.QuietTactic
import Derived.BigQuiet
import Derived.Laws.Rows
import Derived.WalkSpells
import Derived.Laws.MakeOwn
import Derived.OwnWalk
namespace Go.Proofs.YthkagbnpcjidfaaGreatDoor
set_option maxRecDepth 100000
open Go.RowKit
set_option linter.unusedVariables false
set_option linter.unusedSimpArgs false
def Ints (w : World) (B : Nat) (a : Option Addr) (len : Nat) (xs : List Int) : Prop :=
 xs.length = len ∧ ∀ i, i < len → ∃ b off, a = some ⟨b, off, none⟩ ∧ b < B ∧ w.cell? ⟨b, off + i, none⟩ = some (.int .i64 (xs.getD i 0))
theorem Ints.kept {w w' : World} {B : Nat} {a : Option Addr} {len : Nat} {xs : List Int} (h : Ints w B a len xs) (hk : ∀ k, k < B → w'.heap[k]? = w.heap[k]?) : Ints w' B a len xs :=
 ⟨h.1, fun i hi => by
  obtain ⟨b, off, e, hb, hc⟩ := h.2 i hi; exact ⟨b, off, e, hb, (World.cell?_of_block (hk b hb)).trans hc⟩⟩
theorem Ints.below {w w' : World} {B B' : Nat} {a : Option Addr} {len : Nat} {xs : List Int} (h : Ints w B a len xs) (hb : Below B' w w') (hB : B ≤ B') : Ints w' B a len xs :=
 h.kept fun k hk => hb.block k (by omega)
theorem Ints.more {w : World} {B B' : Nat} {a : Option Addr} {len : Nat} {xs : List Int} (h : Ints w B a len xs) (hB : B ≤ B') : Ints w B' a len xs :=
 ⟨h.1, fun i hi => by
  obtain ⟨b, off, e, hb, hc⟩ := h.2 i hi; exact ⟨b, off, e, by omega, hc⟩⟩
theorem M2 {w : World} {B g c : Nat} {t : TypeId} {xs : List Int} (hg : w.heap[g]? = some (.cells (xs.map (Value.int .i64)).toArray t (0, 0))) (hB : g < B) (hc : xs.length = c) : Ints w B (some ⟨g, 0, none⟩) c xs :=
 ⟨hc, fun i hi => ⟨g, 0, rfl, hB, by
  rw [aPx hg]; simp [List.getElem?_eq_getElem (show i < xs.length by omega)]⟩⟩
def Same (w w' : World) : Prop := ∃ n, w' = w.drewN n
theorem Same.refl (w : World) : Same w w := ⟨0, rfl⟩
theorem Same.below {w w' : World} (h : Same w w') (B : Nat) : Below B w w' := by obtain ⟨n, rfl⟩ := h; exact ⟨rfl, rfl, rfl, Nat.le_refl _, fun _ _ => rfl⟩
theorem Same.block {w w' : World} (h : Same w w') (k : Nat) : w'.heap[k]? = w.heap[k]? := by obtain ⟨n, rfl⟩ := h; rfl
theorem Same.size {w w' : World} (h : Same w w') : w'.heap.size = w.heap.size := by obtain ⟨n, rfl⟩ := h; rfl
def sZ (x : Int) : Bool := decide (0 ≤ x) && decide (x ≤ 40)
theorem I8 {x : Int} (h : sZ x = true) : 0 ≤ x ∧ x ≤ 40 := by unfold sZ at h; simpa using h
theorem aBM {x : Int} (h : sZ x = false) : ¬ (0 ≤ x ∧ x ≤ 40) := by unfold sZ at h; simpa using h
def cG (xs : List Int) : Bool := xs.all sZ && decide (xs.length = 4)
theorem O9 (xs : List Int) (k : Nat) (h : k < xs.length) : xs.take (k + 1) = xs.take k ++ [xs.getD k 0] := by
 rw [List.take_succ_eq_append_getElem h, List.getD_eq_getElem?_getD, List.getElem?_eq_getElem h]; rfl
theorem aDk {xs : List Int} {k : Nat} (hk : k < xs.length) (h : (xs.take k).all sZ = true) (hx : sZ (xs.getD k 0) = true) : (xs.take (k + 1)).all sZ = true := by
 rw [O9 xs k hk, List.all_append, h, List.all_cons, hx]
 rfl
theorem aDj {xs : List Int} {k : Nat} (hk : k < xs.length) (hx : sZ (xs.getD k 0) = false) : cG xs = false := by
 unfold cG
 have : xs.all sZ = false := by
  rw [← Bool.not_eq_true]
  intro h
  rw [List.all_eq_true] at h; have := h (xs.getD k 0) (by rw [List.getD_eq_getElem?_getD, List.getElem?_eq_getElem hk]; simp)
  rw [hx] at this; cases this
 rw [this]
 rfl
theorem aEA {xs : List Int} {k : Nat} (hk : ¬ k < xs.length) (h : (xs.take k).all sZ = true) : cG xs = decide (xs.length = 4) := by
 rw [List.take_of_length_le (by omega)] at h
 unfold cG
 rw [h]
 rfl
theorem aK3 {xs : List Int} (h : xs.length ≠ 4) : cG xs = false := by unfold cG; rw [decide_eq_false h, Bool.and_false]
theorem jC {a b : Bool} (h : a = b) : Ending.returned (.bool a) = .returned (.bool b) := by rw [h]
theorem pC (w : World) (B : Nat) (a : Option Addr) (len cap : Nat) (xs : List Int) (h : Ints w B a len xs) (hl : len ≤ 1048576) :
  Calls Tryz.prog 73 #[.slice a len cap] w fun e w' => e = .returned (.bool (cG xs)) ∧ w = w' := by
 have hL := aPu h.1
 have H := aPu h
 clear h
 go_enter Tryz.func73, Tryz.ntmps73
 go_wp2
 go_loop [3] (fun i => ∃ k : Nat, k ≤ len ∧ i = .int .i64 k ∧ Hid ((xs.take k).all sZ = true)) (fun i => len - (intOf i).toNat)
 case atStart => exact ⟨0, Nat.zero_le _, rfl, rfl⟩
 case round =>
  obtain ⟨k, hk, rfl, HA⟩ := hrel
  by_cases aK : k < len
  ·obtain ⟨b, off, rfl, hb, hc⟩ := H.out.2 k aK
   obtain ⟨x, hx⟩ : ∃ x, x = xs.getD k 0 := ⟨_, rfl⟩; rw [← hx] at hc; have HX := aPu hx; clear hx; cases hin : sZ x
   ·have iP := aBM hin
    have HV : Hid (cG xs = false) := aDj (by rw [hL.out]; exact aK) (by rw [← HX.out]; exact hin)
    clear hin
    by_cases h0 : 0 ≤ x
    ·have h1 : ¬ x ≤ 40 := fun e => iP ⟨h0, e⟩
     clear iP; go_wp2
     go_ret
     exact ⟨jC HV.out.symm, rfl⟩
    ·clear iP
     go_wp2
     go_ret
     exact ⟨jC HV.out.symm, rfl⟩
   ·obtain ⟨h0, h1⟩ := I8 hin
    have HA2 : Hid ((xs.take (k + 1)).all sZ = true) := aDk (by rw [hL.out]; exact aK) HA.out (by rw [← HX.out]; exact hin)
    clear hin; go_wp2
    go_round
    case rel => exact ⟨k + 1, by omega, by go_num, HA2⟩
    case measure => simp [intOf]; omega
  ·have HV : Hid (cG xs = decide (xs.length = 4)) := aEA (by rw [hL.out]; exact aK) HA.out
   go_wp2
   go_ret
   refine ⟨jC ?_, rfl⟩
   rw [HV.out, hL.out]; rw [Bool.eq_iff_iff]; simp
   omega
theorem aBN (w : World) (B : Nat) (a : Option Addr) (len cap : Nat) (xs : List Int) (h : Ints w B a len xs) (hl : len ≤ 1048576) :
  Calls Tryz.prog 56 #[.slice a len cap] w fun e w' => e = .returned (.bool (cG xs)) ∧ w = w' := by
 have hL := aPu h.1
 have H := aPu h
 clear h
 by_cases h4 : len = 4
 ·subst h4
  go_enter Tryz.func56, Tryz.ntmps56
  go_wp2
  go_loop [4, 10] (fun _ i => ∃ k : Nat, k ≤ 4 ∧ i = .int .i64 k ∧ Hid ((xs.take k).all sZ = true)) (fun _ i => 4 - (intOf i).toNat)
  case atStart => exact ⟨0, Nat.zero_le _, rfl, rfl⟩
  case round =>
   obtain ⟨k, hk, rfl, HA⟩ := hrel
   by_cases aK : k < 4
   ·obtain ⟨b, off, rfl, hb, hc⟩ := H.out.2 k aK
    obtain ⟨x, hx⟩ : ∃ x, x = xs.getD k 0 := ⟨_, rfl⟩; rw [← hx] at hc; have HX := aPu hx; clear hx; cases hin : sZ x
    ·have iP := aBM hin
     have HV : Hid (cG xs = false) := aDj (by rw [hL.out]; exact aK) (by rw [← HX.out]; exact hin)
     clear hin
     by_cases h0 : 0 ≤ x
     ·have h1 : ¬ x ≤ 40 := fun e => iP ⟨h0, e⟩
      clear iP; go_wp2
      go_ret
      exact ⟨jC HV.out.symm, rfl⟩
     ·clear iP
      go_wp2
      go_ret
      exact ⟨jC HV.out.symm, rfl⟩
    ·obtain ⟨h0, h1⟩ := I8 hin
     have HA2 : Hid ((xs.take (k + 1)).all sZ = true) := aDk (by rw [hL.out]; exact aK) HA.out (by rw [← HX.out]; exact hin)
     clear hin; go_wp2
     go_round
     case rel => exact ⟨k + 1, by omega, by go_num, HA2⟩
     case measure => simp [intOf]; omega
   ·have HV : Hid (cG xs = true) := (aEA (by rw [hL.out]; exact aK) HA.out).trans (decide_eq_true hL.out)
    go_wp2
    go_ret
    exact ⟨jC HV.out.symm, rfl⟩
 ·have HV : Hid (cG xs = false) := aK3 (by rw [hL.out]; exact h4)
  have h4' : ((len : Int) != 4) = true := by simp; omega
  go_enter Tryz.func56, Tryz.ntmps56
  go_wp2
  go_ret
  exact ⟨jC HV.out.symm, rfl⟩
theorem Tryz.infoI64 : (Tryz.prog.info? 2).map (fun i => (i.zero, i.size, i.bytes)) = some (some (.int .i64 0), 1, 8) := by kernel_rfl
def Part (w wr : World) (len : Nat) (xs : List Int) (k : Nat) : Prop :=
 Below w.heap.size w wr ∧ ∃ cs : Array Value, wr.heap[w.heap.size]? = some (.cells cs 2 (0, 0)) ∧ cs.size = len ∧ ∀ j, j < k → cs[j]? = some (.int .i64 (xs.getD j 0))
theorem Part.step {w wr : World} {len : Nat} {xs : List Int} {k : Nat} (h : Part w wr len xs k) (hk : k < len) : Part w (wr.setCell ⟨w.heap.size, k, none⟩ (.int .i64 (xs.getD k 0))) len xs (k + 1) := by
 obtain ⟨hb, cs, hg, hs, hc⟩ := h
 refine ⟨hb.setCell aPw _, cs.setIfInBounds k (.int .i64 (xs.getD k 0)), heap_setCell_same _ _ _ _ _ _ hg, by simpa using hs, fun j hj => ?_⟩
 rw [Array.getElem?_setIfInBounds]
 by_cases e : k = j
 ·subst e
  rw [if_pos rfl, if_pos (by omega)]
 ·rw [if_neg e]
  exact hc j (by omega)
theorem Part.done {w wr : World} {len : Nat} {xs : List Int} {k : Nat} (h : Part w wr len xs k) (hx : xs.length = len) (hk : ¬ k < len) : wr.heap[w.heap.size]? = some (.cells (xs.map (Value.int .i64)).toArray 2 (0, 0)) := by
 obtain ⟨hb, cs, hg, hs, hc⟩ := h
 rw [hg]
 congr 2
 apply Array.ext_getElem?
 intro i
 by_cases hi : i < len
 ·rw [hc i (by omega), List.getElem?_toArray, List.getElem?_map, List.getElem?_eq_getElem (by omega), List.getD_eq_getElem?_getD, List.getElem?_eq_getElem (by omega)]
  rfl
 ·rw [Array.getElem?_eq_none (by omega), Array.getElem?_eq_none (by simp; omega)]
theorem aCE {xs ys : List Int} {k : Nat} (hx : k < xs.length) (hy : k < ys.length) (h : xs.take k = ys.take k) (e : xs.getD k 0 = ys.getD k 0) : xs.take (k + 1) = ys.take (k + 1) := by
 rw [O9 xs k hx, O9 ys k hy, h, e]
theorem aKb {xs ys : List Int} {k : Nat} (e : xs.getD k 0 ≠ ys.getD k 0) : xs ≠ ys := fun h => e (by rw [h])
def aMW (xs ys : List Int) (w : World) (e : Ending) (w' : World) : Prop := e = .returned (.bool (decide (xs = ys))) ∧ Same w w'
end Go.Proofs.YthkagbnpcjidfaaGreatDoor
