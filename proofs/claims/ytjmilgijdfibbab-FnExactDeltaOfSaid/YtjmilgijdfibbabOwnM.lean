/- Lists of integers of the call's own: slices.Clone at int64, (impl.vector).list, two vectors taken together. -/
import Derived.Test.YtjmilgijdfibbabOwnB
import Derived.Test.YtjmilgijdfibbabWithinW
import Derived.Deep.AppendLies
import Derived.Lib.SliceRun
import Derived.Lib.MinMax
namespace Go.Proofs.Ytjmilgijdfibbab
open Go.RowKit

def OwnPost (xs : List Int) (w : World) (e : Ending) (w' : World) : Prop :=
  ∃ a cap, e = .returned (.slice a xs.length cap) ∧ Own w' w.heap.size w'.heap.size a xs.length xs ∧ Below w.heap.size w w'
def OwnPostC (xs : List Int) (w : World) (e : Ending) (w' : World) : Prop :=
  ∃ a cap, e = .returned (.slice a xs.length cap) ∧ Own w' w.heap.size w'.heap.size a xs.length xs ∧ Below w.heap.size w w' ∧ Caps a xs.length cap

set_option maxRecDepth 100000 in
theorem cloneInts (w : World) (B g n cap : Nat) (xs : List Int) (h : Ints w B (some ⟨g, 0, none⟩) n xs) (hn : 0 < n) (hl : n ≤ 1048576) :
    Calls Try.prog 74 #[.slice (some ⟨g, 0, none⟩) n cap] w (OwnPost xs w) := by
  obtain ⟨i0, hi, hz0, hz1, hz2⟩ := info_parts Try.infoI64
  have hnil := fun w => Lib.run_eql_slice_nil (P := Try.prog) w 22 2 (some ⟨g, 0, none⟩) n cap 0 0 Try.underlying22
  have hown : (w.alloc (.cells #[] 2)).ownsRow w.heap.size 2 1 (.slice (some ⟨w.heap.size, 0, none⟩) 0 0) 0 [] := World.ownsRow_made w #[] 0 (Nat.le_refl _) (by unfold maxLen; omega) rfl
  have hL := Lib.hid h.1
  have H := Lib.hid h
  clear h
  go_enter Try.func74, Try.ntmps74
  go_wp2_with (at_builtin; refine wpList_append_own _ rfl _ _ 22 rfl w.heap.size 2 i0 (.int .i64 0) 1 8 Try.underlying22 hi hz0 hz1 hz2 rfl (by decide) _ _ _ rfl hown ⟨g, 0, none⟩ n cap (xs.map (Value.int .i64)) rfl ?c0 ?c1 ?c2 ?c3 ?c4 ?c5 ?_)
  case c0 => rw [List.length_map, hL.out, Nat.mul_one]
  case c1 =>
    intro j u hj
    have hjl : j < xs.length := by
      rcases Nat.lt_or_ge j xs.length with h' | h'
      · exact h'
      · rw [List.getElem?_eq_none (by simpa using h')] at hj; cases hj
    obtain ⟨b, off, e, hb, hc⟩ := H.out.2 j (by rw [← hL.out]; exact hjl)
    cases e
    have hlt := block_lt_of_cell hc
    rw [List.getElem?_map, List.getElem?_eq_getElem hjl] at hj
    cases hj
    rw [add_at, World.cell?_alloc_lt w _ _ hlt, hc, List.getD_eq_getElem?_getD, List.getElem?_eq_getElem hjl]
    rfl
  case c2 => exact ints_oneCell _ _
  case c3 => unfold maxLen; omega
  case c4 => omega
  case c5 => simp
  intro v' w1 hown' hgrow _
  have hb1 := ((Below.refl w.heap.size w).alloc (Nat.le_refl _) _).grown hgrow (by simp) (fun j hj => (hown.lt j hj).1)
  obtain ⟨g', cap', hv, _, _⟩ := hown'.form (by omega)
  subst hv
  have HO := Lib.hid (own_of_row (hi := w1.heap.size) (by simpa using hown') (Nat.le_refl _))
  clear hown' hgrow hown
  go_wp2
  go_ret
  exact ⟨some ⟨g', 0, none⟩, cap', by rw [hL.out]; rfl, by rw [hL.out]; exact HO.out, hb1⟩

set_option maxRecDepth 100000 in
theorem vlist (w : World) (x0 x1 x2 x3 : Int) :
    Calls Try.prog 45 #[.agg #[.int .i64 x0, .int .i64 x1, .int .i64 x2, .int .i64 x3]] w (OwnPost [x0, x1, x2, x3] w) := by
  go_enter Try.func45, Try.ntmps45
  go_wp2_with fail
  refine (cloneInts _ (w.heap.size + 1) w.heap.size 4 4 [x0, x1, x2, x3] (ints_of_block (t := 49) (heap_alloc_new _ _) (by omega) rfl) (by omega) (by omega)).mono ?_
  rintro e w1 ⟨a, cap, rfl, ho, hb⟩
  go_wp2
  go_ret
  refine ⟨a, cap, rfl, ho.more (by simp) (Nat.le_refl _), ((Below.refl _ w).alloc (Nat.le_refl _) _).trans (hb.mono (by simp))⟩

def zipI (f : Int → Int → Int) (xs ys : List Int) : List Int := List.zipWith f xs ys
theorem zipI_take (f : Int → Int → Int) (xs ys : List Int) (k : Nat) (h1 : k < xs.length) (h2 : k < ys.length) : (zipI f xs ys).take (k + 1) = (zipI f xs ys).take k ++ [f (xs.getD k 0) (ys.getD k 0)] := by
  have hk : k < (zipI f xs ys).length := by unfold zipI; rw [List.length_zipWith]; omega
  have e : (zipI f xs ys)[k] = f (xs.getD k 0) (ys.getD k 0) := by
    have := List.getElem_zipWith (f := f) (l := xs) (l' := ys) (i := k) (h := hk)
    rw [List.getD_eq_getElem?_getD, List.getD_eq_getElem?_getD, List.getElem?_eq_getElem h1, List.getElem?_eq_getElem h2]
    exact this
  rw [List.take_succ_eq_append_getElem hk, e]

theorem keep_cell {wr w1 : World} {o : Obj} {row : Option Nat} {b i : Nat} {v : Value} (hg : (wr.alloc o).drew.grownBy w1 row) (hb : b < wr.heap.size) (hne : some b ≠ row) (h : wr.cell? ⟨b, i, none⟩ = some v) : w1.cell? ⟨b, i, none⟩ = some v :=
  (World.cell?_of_block (a := ⟨b, i, none⟩) ((hg.block b (by show b < (wr.heap.push o).size; simp; omega) hne).trans (Below.heap_alloc wr o b hb))).trans h

/-- What VecMax and VecMin answer, plainly. -/
def vecZip (f : Int → Int → Int) (xs ys : List Int) : List Int := if (vecOk xs && vecOk ys) = true then zipI f xs ys else []
theorem vecZip_no {f : Int → Int → Int} {xs ys : List Int} (h : (vecOk xs && vecOk ys) = false) : vecZip f xs ys = [] := by unfold vecZip; rw [h]; rfl
theorem vecZip_yes {f : Int → Int → Int} {xs ys : List Int} (h : (vecOk xs && vecOk ys) = true) : vecZip f xs ys = zipI f xs ys := by unfold vecZip; rw [if_pos h]

/-- The row of impl.VecMax (VecMin) when k of its cells are written. -/
def Mix (f : Int → Int → Int) (w wr : World) (g : Nat) (xs ys : List Int) (k : Nat) : Prop :=
  Below w.heap.size w wr ∧ w.heap.size ≤ g ∧ wr.heap[g + 1]? = some (.cells (ys.map (Value.int .i64)).toArray 49 (0, 0)) ∧
    ∃ cur : Array Value, wr.heap[g]? = some (.cells cur 49 (0, 0)) ∧ cur.size = 4 ∧ ∀ i, i < 4 → cur[i]? = some (.int .i64 (if i < k then f (xs.getD i 0) (ys.getD i 0) else xs.getD i 0))
theorem Mix.step {f : Int → Int → Int} {w wr : World} {g : Nat} {xs ys : List Int} {k : Nat} (h : Mix f w wr g xs ys k) (hk : k < 4) (n : Nat) : Mix f w ((wr.setCell ⟨g, k, none⟩ (.int .i64 (f (xs.getD k 0) (ys.getD k 0)))).drewN n) g xs ys (k + 1) := by
  obtain ⟨hb, hg0, hy, cur, hg, hs, hc⟩ := h
  refine ⟨(hb.setCell hg0 _).trans ⟨rfl, rfl, rfl, Nat.le_refl _, fun _ _ => rfl⟩, hg0, (heap_setCell_other _ _ _ _ (by show g + 1 ≠ g; omega)).trans hy, cur.setIfInBounds k (.int .i64 (f (xs.getD k 0) (ys.getD k 0))), heap_setCell_same _ _ _ _ _ _ hg, by simpa using hs, fun i hi => ?_⟩
  rw [Array.getElem?_setIfInBounds]
  by_cases e : k = i
  · subst e
    rw [if_pos rfl, if_pos (by omega), if_pos (by omega)]
  · rw [if_neg e, hc i hi]
    by_cases h2 : i < k
    · rw [if_pos h2, if_pos (by omega)]
    · rw [if_neg h2, if_neg (by omega)]


def IntPost (m : Nat) (w : World) (e : Ending) (w' : World) : Prop := e = .returned (.int .i64 (m : Int)) ∧ w = w'
set_option maxRecDepth 100000 in
theorem held (w : World) (B : Nat) (a : Option Addr) (n cap k : Nat) (h : Ints w B a n (marks k n)) (hk : k ≤ 4000000) (hn : n ≤ 1048576) :
    Calls Try.prog 17 #[.slice a n cap, .int .i64 (k : Int)] w (IntPost (k + n) w) := by
  have H := Lib.hid h
  clear h
  go_enter Try.func17, Try.ntmps17
  go_wp2
  go_loop [1, 5] (fun m i => ∃ j q : Nat, j ≤ n ∧ i = .int .i64 j ∧ m = .int .i64 q ∧ Hid (q = k + j)) (fun _ i => n - (intOf i).toNat)
  case atStart => exact ⟨0, k, by omega, rfl, rfl, rfl⟩
  case round =>
    obtain ⟨j, q, hj, rfl, rfl, HQ⟩ := hrel
    have hq : q ≤ 6000000 := by have := HQ.out; omega
    by_cases hlt : j < n
    · obtain ⟨b, off, rfl, hb, hc⟩ := H.out.2 j hlt
      rw [marks_at hlt, ← HQ.out] at hc
      go_wp2
      go_round
      case rel => exact ⟨j + 1, q + 1, by omega, by go_num, by go_num, (by have := HQ.out; show q + 1 = k + (j + 1); omega)⟩
      case measure => simp [intOf]; omega
    · have HE : Hid (q = k + n) := by have := HQ.out; show q = k + n; omega
      go_wp2
      go_ret
      rw [← HE.out]
      exact ⟨rfl, rfl⟩

end Go.Proofs.Ytjmilgijdfibbab
