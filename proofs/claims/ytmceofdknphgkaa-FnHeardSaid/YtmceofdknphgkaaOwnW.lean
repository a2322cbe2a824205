/- Lists of the call's own; the walks of slices.Clone at int64, (impl.vector).list, laws.markInt64S, laws.heldInt64S. -/
import Derived.Test.YtmceofdknphgkaaWithinW
import Derived.Deep.AppendLies
import Derived.Lib.SliceRun
import Derived.Lib.MinMax
namespace Go.Proofs.Ytmceofdknphgkaa
open Go.RowKit

/-- A slice whose row, if it has elements, is a block of its own between lo and hi, and holds xs. -/
def Own (w : World) (lo hi : Nat) (a : Option Addr) (n : Nat) (xs : List Int) : Prop :=
  xs.length = n ∧ (0 < n → ∃ g cur, a = some ⟨g, 0, none⟩ ∧ lo ≤ g ∧ g < hi ∧ w.heap[g]? = some (.cells cur 2 (0, 0)) ∧ ∀ i, i < n → cur[i]? = some (.int .i64 (xs.getD i 0)))
theorem Own.ints {w : World} {lo hi : Nat} {a : Option Addr} {n : Nat} {xs : List Int} (h : Own w lo hi a n xs) : Ints w hi a n xs :=
  ⟨h.1, fun i hi' => by
    obtain ⟨g, cur, e, _, hg2, hg, hc⟩ := h.2 (by omega)
    exact ⟨g, 0, e, hg2, by rw [cell_of_row _ _ _ _ _ _ hg, Nat.zero_add]; exact hc i hi'⟩⟩
theorem Own.kept {w w' : World} {lo hi : Nat} {a : Option Addr} {n : Nat} {xs : List Int} (h : Own w lo hi a n xs) (hk : ∀ j, lo ≤ j → j < hi → w'.heap[j]? = w.heap[j]?) : Own w' lo hi a n xs :=
  ⟨h.1, fun hn => by
    obtain ⟨g, cur, e, h1, h2, hg, hc⟩ := h.2 hn
    exact ⟨g, cur, e, h1, h2, (hk g h1 h2).trans hg, hc⟩⟩
theorem Own.below {w w' : World} {lo hi B : Nat} {a : Option Addr} {n : Nat} {xs : List Int} (h : Own w lo hi a n xs) (hb : Below B w w') (hB : hi ≤ B) : Own w' lo hi a n xs :=
  h.kept fun j _ h2 => hb.block j (by omega)
theorem Own.more {w : World} {lo hi lo' hi' : Nat} {a : Option Addr} {n : Nat} {xs : List Int} (h : Own w lo hi a n xs) (h1 : lo' ≤ lo) (h2 : hi ≤ hi') : Own w lo' hi' a n xs :=
  ⟨h.1, fun hn => by
    obtain ⟨g, cur, e, a1, a2, r⟩ := h.2 hn
    exact ⟨g, cur, e, by omega, by omega, r⟩⟩
theorem own_fresh {w w' : World} {xs : List Int} {hi : Nat} (hg : w'.heap[w.heap.size]? = some (.cells (xs.map (Value.int .i64)).toArray 2 (0, 0))) (hh : w.heap.size < hi) : Own w' w.heap.size hi (some ⟨w.heap.size, 0, none⟩) xs.length xs :=
  ⟨rfl, fun _ => ⟨_, _, rfl, Nat.le_refl _, hh, hg, fun i hi' => by simp [List.getElem?_eq_getElem hi']⟩⟩
theorem own_of_row {w : World} {base hi : Nat} {a : Option Addr} {n cap : Nat} {xs : List Int} (h : w.ownsRow base 2 1 (.slice a n cap) n (xs.map (Value.int .i64))) (hh : w.heap.size ≤ hi) : Own w base hi a n xs := by
  refine ⟨by have := h.1; simpa using this, fun hn => ?_⟩
  have hl : xs.length = n := by have := h.1; simpa using this
  rcases h.2 with ⟨e, _⟩ | ⟨g, c, cur, e, hb, hg, _, _, _, ht⟩
  · cases e; omega
  · injection e with e1 e2 e3
    refine ⟨g, cur, e1, hb, by have := (Array.getElem?_eq_some_iff.1 hg).1; omega, hg, fun i hi' => ?_⟩
    have h2 : (cur.toList.take (n * 1))[i]? = (xs.map (Value.int .i64))[i]? := by rw [ht]
    rw [Nat.mul_one, List.getElem?_take_of_lt hi', List.getElem?_map, List.getElem?_eq_getElem (by omega : i < xs.length)] at h2
    rw [← Array.getElem?_toList, h2, List.getD_eq_getElem?_getD, List.getElem?_eq_getElem (by omega)]
    rfl

def OwnPost (xs : List Int) (w : World) (e : Ending) (w' : World) : Prop :=
  ∃ a cap, e = .returned (.slice a xs.length cap) ∧ Own w' w.heap.size w'.heap.size a xs.length xs ∧ Below w.heap.size w w'

set_option maxRecDepth 100000 in
theorem cloneInts (w : World) (B g n cap : Nat) (xs : List Int) (h : Ints w B (some ⟨g, 0, none⟩) n xs) (hn : 0 < n) (hl : n ≤ 1048576) :
    Calls Try.prog 148 #[.slice (some ⟨g, 0, none⟩) n cap] w (OwnPost xs w) := by
  obtain ⟨i0, hi, hz0, hz1, hz2⟩ := info_parts Try.infoI64
  have hnil := fun w => Lib.run_eql_slice_nil (P := Try.prog) w 24 2 (some ⟨g, 0, none⟩) n cap 0 0 Try.underlying24
  have hown : (w.alloc (.cells #[] 2)).ownsRow w.heap.size 2 1 (.slice (some ⟨w.heap.size, 0, none⟩) 0 0) 0 [] := World.ownsRow_made w #[] 0 (Nat.le_refl _) (by unfold maxLen; omega) rfl
  have hL := Lib.hid h.1
  have H := Lib.hid h
  clear h
  go_enter Try.func148, Try.ntmps148
  go_wp2_with (at_builtin; refine wpList_append_own _ rfl _ _ 24 rfl w.heap.size 2 i0 (.int .i64 0) 1 8 Try.underlying24 hi hz0 hz1 hz2 rfl (by decide) _ _ _ rfl hown ⟨g, 0, none⟩ n cap (xs.map (Value.int .i64)) rfl ?c0 ?c1 ?c2 ?c3 ?c4 ?c5 ?_)
  case c0 => rw [List.length_map, hL.out, Nat.mul_one]
  case c1 =>
    intro j u hj
    have hjl : j < xs.length := by
      rcases Nat.lt_or_ge j xs.length with h' | h'
      · exact h'
      · rw [List.getElem?_eq_none (by simpa using h')] at hj; cases hj
    obtain ⟨b, off, e, hb, hc⟩ := H.out.2 j (by rw [← hL.out]; exact hjl)
    cases e
    have hlt := block_lt_of_cell hc
    rw [List.getElem?_map, List.getElem?_eq_getElem hjl] at hj
    cases hj
    rw [add_at, World.cell?_alloc_lt w _ _ hlt, hc, List.getD_eq_getElem?_getD, List.getElem?_eq_getElem hjl]
    rfl
  case c2 => exact ints_oneCell _ _
  case c3 => unfold maxLen; omega
  case c4 => omega
  case c5 => simp
  intro v' w1 hown' hgrow _
  have hb1 := ((Below.refl w.heap.size w).alloc (Nat.le_refl _) _).grown hgrow (by simp) (fun j hj => (hown.lt j hj).1)
  obtain ⟨g', cap', hv, _, _⟩ := hown'.form (by omega)
  subst hv
  have HO := Lib.hid (own_of_row (hi := w1.heap.size) (by simpa using hown') (Nat.le_refl _))
  clear hown' hgrow hown
  go_wp2
  go_ret
  exact ⟨some ⟨g', 0, none⟩, cap', by rw [hL.out]; rfl, by rw [hL.out]; exact HO.out, hb1⟩

set_option maxRecDepth 100000 in
theorem vlist (w : World) (x0 x1 x2 x3 : Int) :
    Calls Try.prog 133 #[.agg #[.int .i64 x0, .int .i64 x1, .int .i64 x2, .int .i64 x3]] w (OwnPost [x0, x1, x2, x3] w) := by
  go_enter Try.func133, Try.ntmps133
  go_wp2_with fail
  refine (cloneInts _ (w.heap.size + 1) w.heap.size 4 4 [x0, x1, x2, x3] (ints_of_block (t := 142) (heap_alloc_new _ _) (by omega) rfl) (by omega) (by omega)).mono ?_
  rintro e w1 ⟨a, cap, rfl, ho, hb⟩
  go_wp2
  go_ret
  refine ⟨a, cap, rfl, ho.more (by simp) (Nat.le_refl _), ((Below.refl _ w).alloc (Nat.le_refl _) _).trans (hb.mono (by simp))⟩

def zipI (f : Int → Int → Int) (xs ys : List Int) : List Int := List.zipWith f xs ys
theorem zipI_take (f : Int → Int → Int) (xs ys : List Int) (k : Nat) (h1 : k < xs.length) (h2 : k < ys.length) : (zipI f xs ys).take (k + 1) = (zipI f xs ys).take k ++ [f (xs.getD k 0) (ys.getD k 0)] := by
  have hk : k < (zipI f xs ys).length := by unfold zipI; rw [List.length_zipWith]; omega
  have e : (zipI f xs ys)[k] = f (xs.getD k 0) (ys.getD k 0) := by
    have := List.getElem_zipWith (f := f) (l := xs) (l' := ys) (i := k) (h := hk)
    rw [List.getD_eq_getElem?_getD, List.getD_eq_getElem?_getD, List.getElem?_eq_getElem h1, List.getElem?_eq_getElem h2]
    exact this
  rw [List.take_succ_eq_append_getElem hk, e]

theorem keep_cell {wr w1 : World} {o : Obj} {row : Option Nat} {b i : Nat} {v : Value} (hg : (wr.alloc o).drew.grownBy w1 row) (hb : b < wr.heap.size) (hne : some b ≠ row) (h : wr.cell? ⟨b, i, none⟩ = some v) : w1.cell? ⟨b, i, none⟩ = some v :=
  (World.cell?_of_block (a := ⟨b, i, none⟩) ((hg.block b (by show b < (wr.heap.push o).size; simp; omega) hne).trans (Below.heap_alloc wr o b hb))).trans h

/-- What VecMax and VecMin answer, plainly. -/
def vecZip (f : Int → Int → Int) (xs ys : List Int) : List Int := if (vecOk xs && vecOk ys) = true then zipI f xs ys else []
theorem vecZip_no {f : Int → Int → Int} {xs ys : List Int} (h : (vecOk xs && vecOk ys) = false) : vecZip f xs ys = [] := by unfold vecZip; rw [h]; rfl
theorem vecZip_yes {f : Int → Int → Int} {xs ys : List Int} (h : (vecOk xs && vecOk ys) = true) : vecZip f xs ys = zipI f xs ys := by unfold vecZip; rw [if_pos h]

/-- The row of impl.VecMax (VecMin) when k of its cells are written. -/
def Mix (f : Int → Int → Int) (w wr : World) (g : Nat) (xs ys : List Int) (k : Nat) : Prop :=
  Below w.heap.size w wr ∧ w.heap.size ≤ g ∧ wr.heap[g + 1]? = some (.cells (ys.map (Value.int .i64)).toArray 142 (0, 0)) ∧
    ∃ cur : Array Value, wr.heap[g]? = some (.cells cur 142 (0, 0)) ∧ cur.size = 4 ∧ ∀ i, i < 4 → cur[i]? = some (.int .i64 (if i < k then f (xs.getD i 0) (ys.getD i 0) else xs.getD i 0))
theorem Mix.step {f : Int → Int → Int} {w wr : World} {g : Nat} {xs ys : List Int} {k : Nat} (h : Mix f w wr g xs ys k) (hk : k < 4) (n : Nat) : Mix f w ((wr.setCell ⟨g, k, none⟩ (.int .i64 (f (xs.getD k 0) (ys.getD k 0)))).drewN n) g xs ys (k + 1) := by
  obtain ⟨hb, hg0, hy, cur, hg, hs, hc⟩ := h
  refine ⟨(hb.setCell hg0 _).trans ⟨rfl, rfl, rfl, Nat.le_refl _, fun _ _ => rfl⟩, hg0, (heap_setCell_other _ _ _ _ (by show g + 1 ≠ g; omega)).trans hy, cur.setIfInBounds k (.int .i64 (f (xs.getD k 0) (ys.getD k 0))), heap_setCell_same _ _ _ _ _ _ hg, by simpa using hs, fun i hi => ?_⟩
  rw [Array.getElem?_setIfInBounds]
  by_cases e : k = i
  · subst e
    rw [if_pos rfl, if_pos (by omega), if_pos (by omega)]
  · rw [if_neg e, hc i hi]
    by_cases h2 : i < k
    · rw [if_pos h2, if_pos (by omega)]
    · rw [if_neg h2, if_neg (by omega)]


/-- Nothing has turned but blocks from lo up to hi. -/
structure Outside (lo hi : Nat) (w w' : World) : Prop where
  os : w'.os = w.os
  tape : w'.tape = w.tape
  output : w'.output = w.output
  size : w'.heap.size = w.heap.size
  block : ∀ j, j < lo ∨ hi ≤ j → w'.heap[j]? = w.heap[j]?
theorem Outside.below {lo hi : Nat} {w w' : World} (h : Outside lo hi w w') {B : Nat} (hB : B ≤ lo) : Below B w w' := ⟨h.os, h.tape, h.output, Nat.le_of_eq h.size.symm, fun k hk => h.block k (.inl (by omega))⟩
theorem Own.outside {w w' : World} {lo hi lo' hi' : Nat} {a : Option Addr} {n : Nat} {xs : List Int} (h : Own w lo hi a n xs) (ho : Outside lo' hi' w w') (hd : hi ≤ lo' ∨ hi' ≤ lo) : Own w' lo hi a n xs :=
  h.kept fun j h1 h2 => ho.block j (by omega)

def marks (k n : Nat) : List Int := (List.range n).map fun j => ((k + j : Nat) : Int)
theorem marks_len (k n : Nat) : (marks k n).length = n := by simp [marks]
theorem marks_at {k n i : Nat} (h : i < n) : (marks k n).getD i 0 = ((k + i : Nat) : Int) := by
  rw [List.getD_eq_getElem?_getD]
  simp [marks, h]

def MarkPost (k n lo hi : Nat) (a : Option Addr) (w : World) (e : Ending) (w' : World) : Prop :=
  (∃ m : Nat, m = k + n ∧ e = .returned (.int .i64 (m : Int))) ∧ Own w' lo hi a n (marks k n) ∧ Outside lo hi w w'

set_option maxRecDepth 100000 in
set_option maxHeartbeats 400000 in
theorem mark (w : World) (lo hi : Nat) (a : Option Addr) (n cap : Nat) (xs : List Int) (h : Own w lo hi a n xs) (k : Nat) (hk : k ≤ 4000000) (hn : n ≤ 1048576) :
    Calls Try.prog 55 #[.slice a n cap, .int .i64 (k : Int)] w (MarkPost k n lo hi a w) := by
  by_cases h0 : 0 < n
  · obtain ⟨g, cur, rfl, hlo, hhi, hg, hc⟩ := h.2 h0
    have HG := Lib.hid hg
    have HC := Lib.hid hc
    clear h hg hc
    go_enter Try.func55, Try.ntmps55
    go_wp2
    go_loopw [1, 5] (fun m i wr => ∃ j q : Nat, j ≤ n ∧ i = .int .i64 j ∧ m = .int .i64 q ∧ Hid (q = k + j) ∧ Hid (Outside g (g + 1) w wr ∧ ∃ cs : Array Value, wr.heap[g]? = some (.cells cs 2 (0, 0)) ∧ n ≤ cs.size ∧ ∀ t, t < j → cs[t]? = some (.int .i64 ((k + t : Nat) : Int)))) (fun _ i _ => n - (intOf i).toNat)
    case atStart =>
      refine ⟨0, k, by omega, rfl, rfl, rfl, ⟨rfl, rfl, rfl, rfl, fun _ _ => rfl⟩, cur, HG.out, ?_, fun t ht => by omega⟩
      have := HC.out (n - 1) (by omega)
      have := (Array.getElem?_eq_some_iff.1 this).1
      omega
    case round =>
      obtain ⟨j, q, hj, rfl, rfl, HQ, HP⟩ := hrel
      have hq : q ≤ 6000000 := by have := HQ.out; omega
      by_cases hlt : j < n
      · obtain ⟨hout, cs, hgs, hsz, hct⟩ := HP.out
        have c1 : wr.cell? ⟨g, j, none⟩ = some cs[j] := (cell_of_row _ _ _ _ _ _ hgs).trans (Array.getElem?_eq_getElem (by omega))
        have f1 : wr.frozen? ⟨g, j, none⟩ = false := frozen_of_row _ _ _ _ _ hgs
        generalize cs[j] = v at c1
        have HP' : Hid (Outside g (g + 1) w (wr.setCell ⟨g, j, none⟩ (.int .i64 (q : Int))) ∧ ∃ cs : Array Value, (wr.setCell ⟨g, j, none⟩ (.int .i64 (q : Int))).heap[g]? = some (.cells cs 2 (0, 0)) ∧ n ≤ cs.size ∧ ∀ t, t < j + 1 → cs[t]? = some (.int .i64 ((k + t : Nat) : Int))) := by
          refine ⟨⟨hout.os, hout.tape, hout.output, by simpa [World.setCell] using hout.size, fun i hi => (heap_setCell_other _ _ _ _ (by show i ≠ g; omega)).trans (hout.block i hi)⟩, cs.setIfInBounds j (.int .i64 (q : Int)), heap_setCell_same _ _ _ _ _ _ hgs, by simpa using hsz, fun t ht => ?_⟩
          rw [Array.getElem?_setIfInBounds]
          by_cases e : j = t
          · subst e
            rw [if_pos rfl, if_pos (by omega), HQ.out]
          · rw [if_neg e]
            exact hct t (by omega)
        clear hout hgs hsz hct HP
        go_wp2
        go_roundw
        case rel => exact ⟨j + 1, q + 1, by omega, by go_num, by go_num, (by have := HQ.out; show q + 1 = k + (j + 1); omega), HP'⟩
        case measure => simp [intOf]; omega
      · obtain rfl : j = n := by omega
        obtain ⟨hout, cs, hgs, hsz, hct⟩ := HP.out
        have HO : Hid (MarkPost k j lo hi (some ⟨g, 0, none⟩) w (.returned (.int .i64 (q : Int))) wr) := by
          refine ⟨⟨q, HQ.out, rfl⟩, ⟨marks_len _ _, fun _ => ⟨g, cs, rfl, hlo, hhi, hgs, fun i hi => by rw [marks_at hi]; exact hct i hi⟩⟩, ⟨hout.os, hout.tape, hout.output, hout.size, fun i hi => hout.block i (by omega)⟩⟩
        clear hout hgs hsz hct HP
        go_wp2
        go_ret
        exact HO.out
  · obtain rfl : n = 0 := by omega
    clear h
    go_enter Try.func55, Try.ntmps55
    go_wp2
    refine wp_loop_rounds 1 ?_
    rw [rounds_succ]
    go_wp2
    go_ret
    exact ⟨⟨k, rfl, rfl⟩, ⟨rfl, fun hn => absurd hn (by omega)⟩, ⟨rfl, rfl, rfl, rfl, fun _ _ => rfl⟩⟩

def IntPost (m : Nat) (w : World) (e : Ending) (w' : World) : Prop := e = .returned (.int .i64 (m : Int)) ∧ w = w'
set_option maxRecDepth 100000 in
theorem held (w : World) (B : Nat) (a : Option Addr) (n cap k : Nat) (h : Ints w B a n (marks k n)) (hk : k ≤ 4000000) (hn : n ≤ 1048576) :
    Calls Try.prog 128 #[.slice a n cap, .int .i64 (k : Int)] w (IntPost (k + n) w) := by
  have H := Lib.hid h
  clear h
  go_enter Try.func128, Try.ntmps128
  go_wp2
  go_loop [1, 5] (fun m i => ∃ j q : Nat, j ≤ n ∧ i = .int .i64 j ∧ m = .int .i64 q ∧ Hid (q = k + j)) (fun _ i => n - (intOf i).toNat)
  case atStart => exact ⟨0, k, by omega, rfl, rfl, rfl⟩
  case round =>
    obtain ⟨j, q, hj, rfl, rfl, HQ⟩ := hrel
    have hq : q ≤ 6000000 := by have := HQ.out; omega
    by_cases hlt : j < n
    · obtain ⟨b, off, rfl, hb, hc⟩ := H.out.2 j hlt
      rw [marks_at hlt, ← HQ.out] at hc
      go_wp2
      go_round
      case rel => exact ⟨j + 1, q + 1, by omega, by go_num, by go_num, (by have := HQ.out; show q + 1 = k + (j + 1); omega)⟩
      case measure => simp [intOf]; omega
    · have HE : Hid (q = k + n) := by have := HQ.out; show q = k + n; omega
      go_wp2
      go_ret
      rw [← HE.out]
      exact ⟨rfl, rfl⟩
end Go.Proofs.Ytmceofdknphgkaa
