/- The walks of (*impl.vector).raise and (*impl.vector).lower. -/
import Derived.Test.YtmceofdknphgkaaOwnW
namespace Go.Proofs.Ytmceofdknphgkaa
open Go.RowKit
set_option linter.unusedVariables false

/-- The row of x while raise (lower) goes: k of its cells are written. -/
def MixO (f : Int → Int → Int) (w wr : World) (gx gy : Nat) (xs ys : List Int) (k : Nat) : Prop :=
  Outside gx (gx + 1) w wr ∧ wr.heap[gy]? = some (.cells (ys.map (Value.int .i64)).toArray 142 (0, 0)) ∧
    ∃ cur : Array Value, wr.heap[gx]? = some (.cells cur 142 (0, 0)) ∧ cur.size = 4 ∧ ∀ i, i < 4 → cur[i]? = some (.int .i64 (if i < k then f (xs.getD i 0) (ys.getD i 0) else xs.getD i 0))
theorem MixO.step {f : Int → Int → Int} {w wr : World} {gx gy : Nat} {xs ys : List Int} {k : Nat} (h : MixO f w wr gx gy xs ys k) (hne : gy ≠ gx) (hk : k < 4) (n m : Nat) : MixO f w (((wr.drewN m).setCell ⟨gx, k, none⟩ (.int .i64 (f (xs.getD k 0) (ys.getD k 0)))).drewN n) gx gy xs ys (k + 1) := by
  obtain ⟨hb, hy, cur, hg, hs, hc⟩ := h
  refine ⟨⟨hb.os, hb.tape, hb.output, by simpa [World.setCell] using hb.size, fun i hi => (heap_setCell_other _ _ _ _ (by show i ≠ gx; omega)).trans (hb.block i hi)⟩, (heap_setCell_other _ _ _ _ (by show gy ≠ gx; exact hne)).trans hy, cur.setIfInBounds k (.int .i64 (f (xs.getD k 0) (ys.getD k 0))), heap_setCell_same _ _ _ _ _ _ hg, by simpa using hs, fun i hi => ?_⟩
  rw [Array.getElem?_setIfInBounds]
  by_cases e : k = i
  · subst e
    rw [if_pos rfl, if_pos (by omega), if_pos (by omega)]
  · rw [if_neg e, hc i hi]
    by_cases h2 : i < k
    · rw [if_pos h2, if_pos (by omega)]
    · rw [if_neg h2, if_neg (by omega)]
theorem MixO.done {f : Int → Int → Int} {w wr : World} {gx gy : Nat} {x0 x1 x2 x3 y0 y1 y2 y3 : Int} (h : MixO f w wr gx gy [x0, x1, x2, x3] [y0, y1, y2, y3] 4) : Outside gx (gx + 1) w wr ∧ wr.heap[gx]? = some (.cells (arr4 (f x0 y0) (f x1 y1) (f x2 y2) (f x3 y3)) 142 (0, 0)) := by
  obtain ⟨hb, _, cur, hg, hs, hc⟩ := h
  refine ⟨hb, ?_⟩
  rw [hg]
  congr 2
  apply Array.ext_getElem?
  intro i
  match i with
  | 0 => exact hc 0 (by omega)
  | 1 => exact hc 1 (by omega)
  | 2 => exact hc 2 (by omega)
  | 3 => exact hc 3 (by omega)
  | i + 4 => rw [Array.getElem?_eq_none (by omega), Array.getElem?_eq_none (by show 4 ≤ i + 4; omega)]

set_option maxRecDepth 100000 in
set_option maxHeartbeats 1000000 in
theorem implRaise (w : World) (gx gy : Nat) (x0 x1 x2 x3 y0 y1 y2 y3 : Int) (hx : w.heap[gx]? = some (.cells (arr4 x0 x1 x2 x3) 142 (0, 0))) (hy : w.heap[gy]? = some (.cells (arr4 y0 y1 y2 y3) 142 (0, 0))) (hne : gy ≠ gx) :
    Calls Try.prog 136 #[.pointer (some ⟨gx, 0, none⟩), .pointer (some ⟨gy, 0, none⟩)] w fun e w' => e = .returned (.tuple #[]) ∧ Outside gx (gx + 1) w w' ∧ w'.heap[gx]? = some (.cells (arr4 (max x0 y0) (max x1 y1) (max x2 y2) (max x3 y3)) 142 (0, 0)) := by
  have HM : Hid (MixO max w w gx gy [x0, x1, x2, x3] [y0, y1, y2, y3] 0) := by
    refine ⟨⟨rfl, rfl, rfl, rfl, fun _ _ => rfl⟩, hy, arr4 x0 x1 x2 x3, hx, rfl, fun i hi => ?_⟩
    rw [if_neg (by omega)]; exact arr4_at hi
  clear hx hy
  go_enter Try.func136, Try.ntmps136
  go_wp2
  go_loopw [4, 5, 7] (fun _ _ i wr => ∃ k : Nat, k ≤ 4 ∧ i = .int .i64 k ∧ Hid (MixO max w wr gx gy [x0, x1, x2, x3] [y0, y1, y2, y3] k)) (fun _ _ i _ => 4 - (intOf i).toNat)
  case atStart => exact ⟨0, by omega, rfl, HM⟩
  case round =>
    obtain ⟨k, hk, rfl, HP⟩ := hrel
    by_cases hlt : k < 4
    · have hki : (k : Int) < 4 := by omega
      have hk0 : (0 : Int) ≤ (k : Int) := by omega
      obtain ⟨x, hx⟩ : ∃ x, x = [x0, x1, x2, x3].getD k 0 := ⟨_, rfl⟩
      obtain ⟨y, hy⟩ : ∃ y, y = [y0, y1, y2, y3].getD k 0 := ⟨_, rfl⟩
      have HS : Hid (∀ n m, MixO max w (((wr.drewN m).setCell ⟨gx, k, none⟩ (.int .i64 (max x y))).drewN n) gx gy [x0, x1, x2, x3] [y0, y1, y2, y3] (k + 1)) := by rw [hx, hy]; exact fun n m => HP.out.step hne hlt n m
      obtain ⟨_, hyb, cur, hg, hcs, hc⟩ := HP.out
      have c1 : wr.cell? ⟨gx, k, none⟩ = some (.int .i64 x) := by rw [cell_of_row _ _ _ _ _ _ hg, hc k hlt, if_neg (by omega), hx]
      have c2 : wr.cell? ⟨gy, k, none⟩ = some (.int .i64 y) := by
        rw [cell_of_row _ _ _ _ _ _ hyb, hy]
        exact arr4_at hlt
      have hf : wr.frozen? ⟨gx, k, none⟩ = false := frozen_of_row _ _ _ _ _ hg
      clear hx hy hyb hg hcs hc HM
      go_wp2
      go_region
      go_wp2
      go_region
      go_wp2
      go_roundw
      case rel => exact ⟨k + 1, by omega, by go_num, HS.out 1 1⟩
      case measure => simp [intOf]; omega
    · obtain rfl : k = 4 := by omega
      have HE := Lib.hid HP.out.done
      go_wp2
      exact bodyPost_end (v := .tuple #[]) (by simp [results, Try.results136, go_sem]) rfl ⟨rfl, HE.out.1, HE.out.2⟩

set_option maxRecDepth 100000 in
set_option maxHeartbeats 1000000 in
theorem implLower (w : World) (gx gy : Nat) (x0 x1 x2 x3 y0 y1 y2 y3 : Int) (hx : w.heap[gx]? = some (.cells (arr4 x0 x1 x2 x3) 142 (0, 0))) (hy : w.heap[gy]? = some (.cells (arr4 y0 y1 y2 y3) 142 (0, 0))) (hne : gy ≠ gx) :
    Calls Try.prog 132 #[.pointer (some ⟨gx, 0, none⟩), .pointer (some ⟨gy, 0, none⟩)] w fun e w' => e = .returned (.tuple #[]) ∧ Outside gx (gx + 1) w w' ∧ w'.heap[gx]? = some (.cells (arr4 (min x0 y0) (min x1 y1) (min x2 y2) (min x3 y3)) 142 (0, 0)) := by
  have HM : Hid (MixO min w w gx gy [x0, x1, x2, x3] [y0, y1, y2, y3] 0) := by
    refine ⟨⟨rfl, rfl, rfl, rfl, fun _ _ => rfl⟩, hy, arr4 x0 x1 x2 x3, hx, rfl, fun i hi => ?_⟩
    rw [if_neg (by omega)]; exact arr4_at hi
  clear hx hy
  go_enter Try.func132, Try.ntmps132
  go_wp2
  go_loopw [4, 5, 7] (fun _ _ i wr => ∃ k : Nat, k ≤ 4 ∧ i = .int .i64 k ∧ Hid (MixO min w wr gx gy [x0, x1, x2, x3] [y0, y1, y2, y3] k)) (fun _ _ i _ => 4 - (intOf i).toNat)
  case atStart => exact ⟨0, by omega, rfl, HM⟩
  case round =>
    obtain ⟨k, hk, rfl, HP⟩ := hrel
    by_cases hlt : k < 4
    · have hki : (k : Int) < 4 := by omega
      have hk0 : (0 : Int) ≤ (k : Int) := by omega
      obtain ⟨x, hx⟩ : ∃ x, x = [x0, x1, x2, x3].getD k 0 := ⟨_, rfl⟩
      obtain ⟨y, hy⟩ : ∃ y, y = [y0, y1, y2, y3].getD k 0 := ⟨_, rfl⟩
      have HS : Hid (∀ n m, MixO min w (((wr.drewN m).setCell ⟨gx, k, none⟩ (.int .i64 (min x y))).drewN n) gx gy [x0, x1, x2, x3] [y0, y1, y2, y3] (k + 1)) := by rw [hx, hy]; exact fun n m => HP.out.step hne hlt n m
      obtain ⟨_, hyb, cur, hg, hcs, hc⟩ := HP.out
      have c1 : wr.cell? ⟨gx, k, none⟩ = some (.int .i64 x) := by rw [cell_of_row _ _ _ _ _ _ hg, hc k hlt, if_neg (by omega), hx]
      have c2 : wr.cell? ⟨gy, k, none⟩ = some (.int .i64 y) := by
        rw [cell_of_row _ _ _ _ _ _ hyb, hy]
        exact arr4_at hlt
      have hf : wr.frozen? ⟨gx, k, none⟩ = false := frozen_of_row _ _ _ _ _ hg
      clear hx hy hyb hg hcs hc HM
      go_wp2
      go_region
      go_wp2
      go_region
      go_wp2
      go_roundw
      case rel => exact ⟨k + 1, by omega, by go_num, HS.out 1 1⟩
      case measure => simp [intOf]; omega
    · obtain rfl : k = 4 := by omega
      have HE := Lib.hid HP.out.done
      go_wp2
      exact bodyPost_end (v := .tuple #[]) (by simp [results, Try.results132, go_sem]) rfl ⟨rfl, HE.out.1, HE.out.2⟩

end Go.Proofs.Ytmceofdknphgkaa
