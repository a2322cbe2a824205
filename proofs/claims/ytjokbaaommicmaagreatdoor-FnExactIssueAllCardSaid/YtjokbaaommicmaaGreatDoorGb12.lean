/- Walks and mathematics that several claims share, part 12. -/
import Derived.Test.YtjokbaaommicmaaGreatDoorGb0
import Derived.Test.YtjokbaaommicmaaGreatDoorRows
import Derived.WalkKit
import Derived.WalkLawsBesides
import Derived.Lib.Hide
import Derived.OpenShut
import Derived.Deep.QuietTactic
import Derived.BigQuiet
import Derived.Laws.Rows
import Derived.WalkSpells
import Derived.Laws.MakeOwn
import Derived.OwnWalk
import Derived.Test.YtjokbaaommicmaaGreatDoorGbA
namespace Go.Proofs.YtjokbaaommicmaaGreatDoor
set_option maxRecDepth 100000
open Go.RowKit

/-- A slice that reads as the list xs; its cells lie below block B. -/
def Ints (w : World) (B : Nat) (a : Option Addr) (len : Nat) (xs : List Int) : Prop :=
 xs.length = len ∧ ∀ i, i < len → ∃ b off, a = some ⟨b, off, none⟩ ∧ b < B ∧ w.cell? ⟨b, off + i, none⟩ = some (.int .i64 (xs.getD i 0))
theorem Ints.kept {w w' : World} {B : Nat} {a : Option Addr} {len : Nat} {xs : List Int} (h : Ints w B a len xs) (hk : ∀ k, k < B → w'.heap[k]? = w.heap[k]?) : Ints w' B a len xs :=
 ⟨h.1, fun i hi => by
  obtain ⟨b, off, e, hb, hc⟩ := h.2 i hi
  exact ⟨b, off, e, hb, (World.cell?_of_block (hk b hb)).trans hc⟩⟩
theorem Ints.below {w w' : World} {B B' : Nat} {a : Option Addr} {len : Nat} {xs : List Int} (h : Ints w B a len xs) (hb : Below B' w w') (hB : B ≤ B') : Ints w' B a len xs :=
 h.kept fun k hk => hb.block k (by omega)
theorem Ints.more {w : World} {B B' : Nat} {a : Option Addr} {len : Nat} {xs : List Int} (h : Ints w B a len xs) (hB : B ≤ B') : Ints w B' a len xs :=
 ⟨h.1, fun i hi => by
  obtain ⟨b, off, e, hb, hc⟩ := h.2 i hi
  exact ⟨b, off, e, by omega, hc⟩⟩
theorem ints_of_row {w : World} {a : Option Addr} {len cap : Nat} {zs : List Int} (h : IsRow .i64 w a len cap zs) : Ints w w.heap.size a len (zs.take len) := by
 rcases h with ⟨_, rfl, _, rfl⟩ | ⟨x, rfl, hlc, _, hz, hc, _⟩
 ·exact ⟨rfl, fun i hi => by omega⟩
 ·refine ⟨by rw [List.length_take]; omega, fun i hi => ?_⟩
  have hci := hc i (by omega)
  obtain ⟨b, off, rfl⟩ := add_plain (hc 0 (by omega))
  rw [add_at b off i] at hci
  refine ⟨b, off, rfl, block_lt_of_cell hci, ?_⟩
  rw [hci]
  congr 2
  rw [List.getD_eq_getElem?_getD, List.getD_eq_getElem?_getD, List.getElem?_take_of_lt hi]
/-- A block that is known whole reads so. -/
theorem ints_of_block {w : World} {B g c : Nat} {t : TypeId} {xs : List Int} (hg : w.heap[g]? = some (.cells (xs.map (Value.int .i64)).toArray t (0, 0))) (hB : g < B) (hc : xs.length = c) : Ints w B (some ⟨g, 0, none⟩) c xs :=
 ⟨hc, fun i hi => ⟨g, 0, rfl, hB, by
  rw [cell_of_row _ _ _ _ _ _ hg]
  simp [List.getElem?_eq_getElem (show i < xs.length by omega)]⟩⟩

/-- Same world, but for draws. -/
def Same (w w' : World) : Prop := ∃ n, w' = w.drewN n
theorem Same.refl (w : World) : Same w w := ⟨0, rfl⟩
theorem Same.below {w w' : World} (h : Same w w') (B : Nat) : Below B w w' := by obtain ⟨n, rfl⟩ := h; exact ⟨rfl, rfl, rfl, Nat.le_refl _, fun _ _ => rfl⟩
theorem Same.block {w w' : World} (h : Same w w') (k : Nat) : w'.heap[k]? = w.heap[k]? := by obtain ⟨n, rfl⟩ := h; rfl
theorem Same.size {w w' : World} (h : Same w w') : w'.heap.size = w.heap.size := by obtain ⟨n, rfl⟩ := h; rfl

def inV (x : Int) : Bool := decide (0 ≤ x) && decide (x ≤ 40)
theorem inV_true {x : Int} (h : inV x = true) : 0 ≤ x ∧ x ≤ 40 := by unfold inV at h; simpa using h
theorem inV_false {x : Int} (h : inV x = false) : ¬ (0 ≤ x ∧ x ≤ 40) := by unfold inV at h; simpa using h
/-- Is a list a vector? -/
def vecOk (xs : List Int) : Bool := xs.all inV && decide (xs.length = 4)
theorem take_getD (xs : List Int) (k : Nat) (h : k < xs.length) : xs.take (k + 1) = xs.take k ++ [xs.getD k 0] := by
 rw [List.take_succ_eq_append_getElem h, List.getD_eq_getElem?_getD, List.getElem?_eq_getElem h]; rfl
theorem all_step {xs : List Int} {k : Nat} (hk : k < xs.length) (h : (xs.take k).all inV = true) (hx : inV (xs.getD k 0) = true) : (xs.take (k + 1)).all inV = true := by
 rw [take_getD xs k hk, List.all_append, h, List.all_cons, hx]
 rfl
theorem all_stop {xs : List Int} {k : Nat} (hk : k < xs.length) (hx : inV (xs.getD k 0) = false) : vecOk xs = false := by
 unfold vecOk
 have : xs.all inV = false := by
  rw [← Bool.not_eq_true]
  intro h
  rw [List.all_eq_true] at h
  have := h (xs.getD k 0) (by rw [List.getD_eq_getElem?_getD, List.getElem?_eq_getElem hk]; simp)
  rw [hx] at this
  cases this
 rw [this]
 rfl
theorem all_end {xs : List Int} {k : Nat} (hk : ¬ k < xs.length) (h : (xs.take k).all inV = true) : vecOk xs = decide (xs.length = 4) := by
 rw [List.take_of_length_le (by omega)] at h
 unfold vecOk
 rw [h]
 rfl
theorem ok_len {xs : List Int} (h : xs.length ≠ 4) : vecOk xs = false := by unfold vecOk; rw [decide_eq_false h, Bool.and_false]
theorem ret_bool {a b : Bool} (h : a = b) : Ending.returned (.bool a) = .returned (.bool b) := by rw [h]

theorem specVecOk (w : World) (B : Nat) (a : Option Addr) (len cap : Nat) (xs : List Int) (h : Ints w B a len xs) (hl : len ≤ 1048576) :
  Calls Tryz.prog 68 #[.slice a len cap] w fun e w' => e = .returned (.bool (vecOk xs)) ∧ w = w' := by
 have hL := Lib.hid h.1
 have H := Lib.hid h
 clear h
 go_enter Tryz.func68, Tryz.ntmps68
 go_wp2
 go_loop [3] (fun i => ∃ k : Nat, k ≤ len ∧ i = .int .i64 k ∧ Hid ((xs.take k).all inV = true)) (fun i => len - (intOf i).toNat)
 case atStart => exact ⟨0, Nat.zero_le _, rfl, rfl⟩
 case round =>
  obtain ⟨k, hk, rfl, HA⟩ := hrel
  by_cases hlt : k < len
  ·obtain ⟨b, off, rfl, hb, hc⟩ := H.out.2 k hlt
   obtain ⟨x, hx⟩ : ∃ x, x = xs.getD k 0 := ⟨_, rfl⟩
   rw [← hx] at hc
   have HX := Lib.hid hx
   clear hx
   cases hin : inV x
   ·have hno := inV_false hin
    have HV : Hid (vecOk xs = false) := all_stop (by rw [hL.out]; exact hlt) (by rw [← HX.out]; exact hin)
    clear hin
    by_cases h0 : 0 ≤ x
    ·have h1 : ¬ x ≤ 40 := fun e => hno ⟨h0, e⟩
     clear hno
     go_wp2
     go_ret
     exact ⟨ret_bool HV.out.symm, rfl⟩
    ·clear hno
     go_wp2
     go_ret
     exact ⟨ret_bool HV.out.symm, rfl⟩
   ·obtain ⟨h0, h1⟩ := inV_true hin
    have HA2 : Hid ((xs.take (k + 1)).all inV = true) := all_step (by rw [hL.out]; exact hlt) HA.out (by rw [← HX.out]; exact hin)
    clear hin
    go_wp2
    go_round
    case rel => exact ⟨k + 1, by omega, by go_num, HA2⟩
    case measure => simp [intOf]; omega
  ·have HV : Hid (vecOk xs = decide (xs.length = 4)) := all_end (by rw [hL.out]; exact hlt) HA.out
   go_wp2
   go_ret
   refine ⟨ret_bool ?_, rfl⟩
   rw [HV.out, hL.out]
   rw [Bool.eq_iff_iff]
   simp
   omega

theorem implVecOk (w : World) (B : Nat) (a : Option Addr) (len cap : Nat) (xs : List Int) (h : Ints w B a len xs) (hl : len ≤ 1048576) :
  Calls Tryz.prog 62 #[.slice a len cap] w fun e w' => e = .returned (.bool (vecOk xs)) ∧ w = w' := by
 have hL := Lib.hid h.1
 have H := Lib.hid h
 clear h
 by_cases h4 : len = 4
 ·subst h4
  go_enter Tryz.func62, Tryz.ntmps62
  go_wp2
  go_loop [4, 10] (fun _ i => ∃ k : Nat, k ≤ 4 ∧ i = .int .i64 k ∧ Hid ((xs.take k).all inV = true)) (fun _ i => 4 - (intOf i).toNat)
  case atStart => exact ⟨0, Nat.zero_le _, rfl, rfl⟩
  case round =>
   obtain ⟨k, hk, rfl, HA⟩ := hrel
   by_cases hlt : k < 4
   ·obtain ⟨b, off, rfl, hb, hc⟩ := H.out.2 k hlt
    obtain ⟨x, hx⟩ : ∃ x, x = xs.getD k 0 := ⟨_, rfl⟩
    rw [← hx] at hc
    have HX := Lib.hid hx
    clear hx
    cases hin : inV x
    ·have hno := inV_false hin
     have HV : Hid (vecOk xs = false) := all_stop (by rw [hL.out]; exact hlt) (by rw [← HX.out]; exact hin)
     clear hin
     by_cases h0 : 0 ≤ x
     ·have h1 : ¬ x ≤ 40 := fun e => hno ⟨h0, e⟩
      clear hno
      go_wp2
      go_ret
      exact ⟨ret_bool HV.out.symm, rfl⟩
     ·clear hno
      go_wp2
      go_ret
      exact ⟨ret_bool HV.out.symm, rfl⟩
    ·obtain ⟨h0, h1⟩ := inV_true hin
     have HA2 : Hid ((xs.take (k + 1)).all inV = true) := all_step (by rw [hL.out]; exact hlt) HA.out (by rw [← HX.out]; exact hin)
     clear hin
     go_wp2
     go_round
     case rel => exact ⟨k + 1, by omega, by go_num, HA2⟩
     case measure => simp [intOf]; omega
   ·have HV : Hid (vecOk xs = true) := (all_end (by rw [hL.out]; exact hlt) HA.out).trans (decide_eq_true hL.out)
    go_wp2
    go_ret
    exact ⟨ret_bool HV.out.symm, rfl⟩
 ·have HV : Hid (vecOk xs = false) := ok_len (by rw [hL.out]; exact h4)
  have h4' : ((len : Int) != 4) = true := by simp; omega
  go_enter Tryz.func62, Tryz.ntmps62
  go_wp2
  go_ret
  exact ⟨ret_bool HV.out.symm, rfl⟩

theorem Tryz.infoI64 : (Tryz.prog.info? 2).map (fun i => (i.zero, i.size, i.bytes)) = some (some (.int .i64 0), 1, 8) := by kernel_rfl
/-- What a call leaves that hands back a new slice with the numbers xs: its block is the last one. -/
def Fresh (xs : List Int) (w : World) (e : Ending) (w' : World) : Prop :=
 e = .returned (.slice (some ⟨w.heap.size, 0, none⟩) xs.length xs.length) ∧ w'.heap[w.heap.size]? = some (.cells (xs.map (Value.int .i64)).toArray 2 (0, 0)) ∧ Below w.heap.size w w'
/-- The row of toInt64S when k of its cells are written. -/
def Part (w wr : World) (len : Nat) (xs : List Int) (k : Nat) : Prop :=
 Below w.heap.size w wr ∧ ∃ cs : Array Value, wr.heap[w.heap.size]? = some (.cells cs 2 (0, 0)) ∧ cs.size = len ∧ ∀ j, j < k → cs[j]? = some (.int .i64 (xs.getD j 0))
theorem Part.step {w wr : World} {len : Nat} {xs : List Int} {k : Nat} (h : Part w wr len xs k) (hk : k < len) : Part w (wr.setCell ⟨w.heap.size, k, none⟩ (.int .i64 (xs.getD k 0))) len xs (k + 1) := by
 obtain ⟨hb, cs, hg, hs, hc⟩ := h
 refine ⟨hb.setCell (Nat.le_refl _) _, cs.setIfInBounds k (.int .i64 (xs.getD k 0)), heap_setCell_same _ _ _ _ _ _ hg, by simpa using hs, fun j hj => ?_⟩
 rw [Array.getElem?_setIfInBounds]
 by_cases e : k = j
 ·subst e
  rw [if_pos rfl, if_pos (by omega)]
 ·rw [if_neg e]
  exact hc j (by omega)
theorem Part.done {w wr : World} {len : Nat} {xs : List Int} {k : Nat} (h : Part w wr len xs k) (hx : xs.length = len) (hk : ¬ k < len) : wr.heap[w.heap.size]? = some (.cells (xs.map (Value.int .i64)).toArray 2 (0, 0)) := by
 obtain ⟨hb, cs, hg, hs, hc⟩ := h
 rw [hg]
 congr 2
 apply Array.ext_getElem?
 intro i
 by_cases hi : i < len
 ·rw [hc i (by omega), List.getElem?_toArray, List.getElem?_map, List.getElem?_eq_getElem (by omega), List.getD_eq_getElem?_getD, List.getElem?_eq_getElem (by omega)]
  rfl
 ·rw [Array.getElem?_eq_none (by omega), Array.getElem?_eq_none (by simp; omega)]

theorem toInts (w : World) (B : Nat) (a : Option Addr) (len cap : Nat) (xs : List Int) (h : Ints w B a len xs) (hB : B ≤ w.heap.size) (hl : len ≤ 1048576) :
  Calls Tryz.prog 38 #[.slice a len cap] w (Fresh xs w) := by
 obtain ⟨i0, hi, hz0, hz1, hz2⟩ := info_parts Tryz.infoI64
 obtain ⟨M, hM⟩ : ∃ M, M = madeCells (Value.int .i64 0).cells (((len : Nat) : Int).toNat * i0.size) := ⟨_, rfl⟩
 have hMs : M.size = len := by rw [hM, size_madeCells, hz1]; simp
 have hmk : ∀ W : World, (Instr.makeSlice 22 (.int .i64 (len : Int)) (.int .i64 (len : Int))).run Tryz.prog W = .ok (.slice (some ⟨W.heap.size, 0, none⟩) len len) (W.alloc (.cells M 2)) := fun W => by
  have h := run_make (P := Tryz.prog) W 22 2 i0 (.int .i64 0) Tryz.underlying22 hi hz0 .i64 .i64 (len : Int) (len : Int) (by omega) (by omega) (by rw [hz2]; omega) (by omega)
  rw [← hM] at h
  simpa using h
 have hL := Lib.hid h.1
 have H := Lib.hid h
 have HM := Lib.hid hMs
 clear hM h hMs hi hz0 hz1 hz2
 go_enter Tryz.func38, Tryz.ntmps38
 go_wp2
 go_loopw [4] (fun i wr => ∃ k : Nat, k ≤ len ∧ i = .int .i64 k ∧ Part w wr len xs k) (fun i _ => len - (intOf i).toNat)
 case atStart => exact ⟨0, Nat.zero_le _, rfl, bl, M, heap_alloc_new _ _, HM.out, fun j hj => by omega⟩
 case round =>
  obtain ⟨k, hk, rfl, hP⟩ := hrel
  by_cases hlt : k < len
  ·obtain ⟨b, off, rfl, hb, hc0⟩ := H.out.2 k hlt
   have hc : wr.cell? ⟨b, off + k, none⟩ = some (.int .i64 (xs.getD k 0)) := (hP.1.cell (by show b < w.heap.size; omega)).trans hc0
   obtain ⟨v, hv⟩ : ∃ v, wr.cell? ⟨w.heap.size, k, none⟩ = some v := by
    obtain ⟨_, cs, hg, hs, _⟩ := hP
    exact ⟨cs[k], by rw [cell_of_row _ _ _ _ _ _ hg, Array.getElem?_eq_getElem (by omega)]⟩
   have hf : wr.frozen? ⟨w.heap.size, k, none⟩ = false := by
    obtain ⟨_, cs, hg, hs, _⟩ := hP
    exact frozen_of_row _ _ _ _ _ hg
   obtain ⟨x, hx⟩ : ∃ x, x = xs.getD k 0 := ⟨_, rfl⟩
   have HP := Lib.hid (hP.step hlt)
   rw [← hx] at hc HP
   clear hx hP hc0
   go_wp2
   go_roundw
   case rel => exact ⟨k + 1, by omega, by go_num, HP.out⟩
   case measure => simp [intOf]; omega
  ·have HD := Lib.hid (hP.done hL.out hlt)
   go_wp2
   go_ret
   exact ⟨by rw [hL.out]; rfl, HD.out, hP.1⟩

theorem fresh_ints {xs : List Int} {w w' : World} {B : Nat} (hg : w'.heap[w.heap.size]? = some (.cells (xs.map (Value.int .i64)).toArray 2 (0, 0))) (hB : w.heap.size < B) : Ints w' B (some ⟨w.heap.size, 0, none⟩) xs.length xs := ints_of_block hg hB rfl
theorem lt_of_block {w' : World} {g : Nat} {o : Obj} (h : w'.heap[g]? = some o) : g < w'.heap.size := (Array.getElem?_eq_some_iff.1 h).1

theorem list_eq_step {xs ys : List Int} {k : Nat} (hx : k < xs.length) (hy : k < ys.length) (h : xs.take k = ys.take k) (e : xs.getD k 0 = ys.getD k 0) : xs.take (k + 1) = ys.take (k + 1) := by
 rw [take_getD xs k hx, take_getD ys k hy, h, e]
theorem list_ne {xs ys : List Int} {k : Nat} (e : xs.getD k 0 ≠ ys.getD k 0) : xs ≠ ys := fun h => e (by rw [h])

def EqPost (xs ys : List Int) (w : World) (e : Ending) (w' : World) : Prop := e = .returned (.bool (decide (xs = ys))) ∧ Same w w'
theorem eqInts (w : World) (B B' : Nat) (a a' : Option Addr) (len cap len' cap' : Nat) (xs ys : List Int) (h : Ints w B a len xs) (h' : Ints w B' a' len' ys) (hl : len ≤ 1048576) (hl' : len' ≤ 1048576) :
  Calls Tryz.prog 19 #[.slice a len cap, .slice a' len' cap'] w (EqPost xs ys w) := by
 have hL := Lib.hid h.1
 have hL' := Lib.hid h'.1
 have H := Lib.hid h
 have H' := Lib.hid h'
 clear h h'
 by_cases hn : len = len'
 ·subst hn
  go_enter Tryz.func19, Tryz.ntmps19
  go_wp2
  go_loopw [5] (fun i wr => ∃ k n : Nat, k ≤ len ∧ i = .int .i64 k ∧ wr = w.drewN n ∧ Hid (xs.take k = ys.take k)) (fun i _ => len - (intOf i).toNat)
  case atStart => exact ⟨0, 0, Nat.zero_le _, rfl, rfl, rfl⟩
  case round =>
   obtain ⟨k, n, hk, rfl, rfl, HA⟩ := hrel
   by_cases hlt : k < len
   ·obtain ⟨b, off, rfl, hb, hc⟩ := H.out.2 k hlt
    obtain ⟨b', off', rfl, hb', hc'⟩ := H'.out.2 k hlt
    obtain ⟨x, hx⟩ : ∃ x, x = xs.getD k 0 := ⟨_, rfl⟩
    obtain ⟨y, hy⟩ : ∃ y, y = ys.getD k 0 := ⟨_, rfl⟩
    rw [← hx] at hc
    rw [← hy] at hc'
    have HX := Lib.hid hx
    have HY := Lib.hid hy
    have hki : (k : Int) < (len : Int) := by omega
    clear hx hy
    by_cases e : x = y
    ·subst e
     have HS : Hid (xs.take (k + 1) = ys.take (k + 1)) := list_eq_step (by rw [hL.out]; exact hlt) (by rw [hL'.out]; exact hlt) HA.out (by rw [← HX.out, ← HY.out])
     go_wp2
     go_quiet (fail)
     go_wp2
     go_roundw
     case rel => exact ⟨k + 1, n + nq, by omega, by go_num, rfl, HS⟩
     case measure => simp [intOf]; omega
    ·have hne : (x != y) = true := by simpa using e
     have HV : Hid (decide (xs = ys) = false) := decide_eq_false (list_ne (k := k) (by rw [← HX.out, ← HY.out]; exact e))
     clear e
     go_wp2
     go_quiet (fail)
     go_wp2
     go_ret
     exact ⟨ret_bool HV.out.symm, n + nq, World.drewN_drewN ..⟩
   ·have HV : Hid (decide (xs = ys) = true) := decide_eq_true (by
     have := HA.out
     rwa [List.take_of_length_le (by have := hL.out; omega), List.take_of_length_le (by have := hL'.out; omega)] at this)
    go_wp2
    go_ret
    exact ⟨ret_bool HV.out.symm, n, rfl⟩
 ·have hne : ((len : Int) != (len' : Int)) = true := by simp; omega
  have HV : Hid (decide (xs = ys) = false) := decide_eq_false (fun e => hn (by rw [← hL.out, ← hL'.out, e]))
  go_enter Tryz.func19, Tryz.ntmps19
  go_wp2
  go_ret
  exact ⟨ret_bool HV.out.symm, 0, rfl⟩
end Go.Proofs.YtjokbaaommicmaaGreatDoor
