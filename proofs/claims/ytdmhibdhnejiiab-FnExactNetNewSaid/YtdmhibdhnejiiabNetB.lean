/- The base of the walks of nets: lists of the call's own, carts without operations. -/
import Derived.Test.YtdmhibdhnejiiabIntsW
import Derived.Deep.RegionHeld3
import Derived.RegionTactic
import Derived.Laws.Cover3
import Derived.Deep.AppendLies
import Derived.Lib.SliceRun
import Derived.Deep.Cut
import Derived.Below
import Derived.OwnWalk
namespace Go.Proofs.Ytdmhibdhnejiiab
open Go.RowKit

theorem boxAt {w w1 : World} {cs : Array Value} {T : TypeId} (hb : Below (w.alloc (.cells cs T)).heap.size (w.alloc (.cells cs T)) w1) : w1.heap[w.heap.size]? = some (.cells cs T (0, 0)) :=
  (hb.block _ (by show _ < (w.heap.push _).size; simp)).trans (by show (w.heap.push _)[_]? = _; simp)
theorem box_below {w w1 : World} {o : Obj} (hb : Below (w.alloc o).heap.size (w.alloc o) w1) : Below w.heap.size w w1 :=
  ((Below.refl _ w).alloc (Nat.le_refl _) o).trans (hb.mono (by show _ ≤ (w.heap.push _).size; simp))
theorem lt_of_row {w : World} {g : Nat} {cs : Array Value} {T : TypeId} {fr : Nat × Nat} (h : w.heap[g]? = some (.cells cs T fr)) : g < w.heap.size := (Array.getElem?_eq_some_iff.1 h).1
theorem pair_cells {w : World} {b : Nat} {v0 v1 : Value} {T : TypeId} {fr : Nat × Nat} (h : w.heap[b]? = some (.cells #[v0, v1] T fr)) : w.cell? ⟨b, 0, none⟩ = some v0 ∧ w.cell? ⟨b, 1, none⟩ = some v1 :=
  ⟨cell_of_row _ _ _ _ _ _ h, cell_of_row _ _ _ _ _ _ h⟩
theorem pair_frozen {w : World} {b : Nat} {cs : Array Value} {T : TypeId} (h : w.heap[b]? = some (.cells cs T (0, 0))) : w.frozen? ⟨b, 0, none⟩ = false ∧ w.frozen? ⟨b, 1, none⟩ = false :=
  ⟨frozen_of_row _ _ _ _ _ h, frozen_of_row _ _ _ _ _ h⟩
theorem pair_set {w : World} {b : Nat} {c0 c1 : Value} {T : TypeId} (v0 v1 : Value) (h : w.heap[b]? = some (.cells #[c0, c1] T (0, 0))) : ((w.setCell ⟨b, 0, none⟩ v0).setCell ⟨b, 1, none⟩ v1).heap[b]? = some (.cells #[v0, v1] T (0, 0)) := by
  have h0 : (w.setCell ⟨b, 0, none⟩ v0).heap[b]? = some (.cells #[v0, c1] T (0, 0)) := heap_setCell_same _ _ _ _ _ _ h
  exact heap_setCell_same _ _ _ _ _ _ h0
theorem pair_other {w : World} {b k : Nat} (v0 v1 : Value) (h : k ≠ b) : ((w.setCell ⟨b, 0, none⟩ v0).setCell ⟨b, 1, none⟩ v1).heap[k]? = w.heap[k]? := by
  rw [heap_setCell_other _ _ _ _ h, heap_setCell_other _ _ _ _ h]
theorem pair_size (w : World) (b : Nat) (v0 v1 : Value) : ((w.setCell ⟨b, 0, none⟩ v0).setCell ⟨b, 1, none⟩ v1).heap.size = w.heap.size := by
  simp [World.setCell]
/-- A slice whose row, if it has elements, is a block of its own between lo and hi, and holds xs. -/
def Own (w : World) (lo hi : Nat) (a : Option Addr) (n : Nat) (xs : List Int) : Prop :=
  xs.length = n ∧ (0 < n → ∃ g cur, a = some ⟨g, 0, none⟩ ∧ lo ≤ g ∧ g < hi ∧ w.heap[g]? = some (.cells cur 2 (0, 0)) ∧ ∀ i, i < n → cur[i]? = some (.int .i64 (xs.getD i 0)))
theorem Own.ints {w : World} {lo hi : Nat} {a : Option Addr} {n : Nat} {xs : List Int} (h : Own w lo hi a n xs) : Ints w hi a n xs :=
  ⟨h.1, fun i hi' => by
    obtain ⟨g, cur, e, _, hg2, hg, hc⟩ := h.2 (by omega)
    exact ⟨g, 0, e, hg2, by rw [cell_of_row _ _ _ _ _ _ hg, Nat.zero_add]; exact hc i hi'⟩⟩
theorem Own.kept {w w' : World} {lo hi : Nat} {a : Option Addr} {n : Nat} {xs : List Int} (h : Own w lo hi a n xs) (hk : ∀ j, lo ≤ j → j < hi → w'.heap[j]? = w.heap[j]?) : Own w' lo hi a n xs :=
  ⟨h.1, fun hn => by
    obtain ⟨g, cur, e, h1, h2, hg, hc⟩ := h.2 hn
    exact ⟨g, cur, e, h1, h2, (hk g h1 h2).trans hg, hc⟩⟩
theorem Own.below {w w' : World} {lo hi B : Nat} {a : Option Addr} {n : Nat} {xs : List Int} (h : Own w lo hi a n xs) (hb : Below B w w') (hB : hi ≤ B) : Own w' lo hi a n xs :=
  h.kept fun j _ h2 => hb.block j (by omega)
theorem Own.more {w : World} {lo hi lo' hi' : Nat} {a : Option Addr} {n : Nat} {xs : List Int} (h : Own w lo hi a n xs) (h1 : lo' ≤ lo) (h2 : hi ≤ hi') : Own w lo' hi' a n xs :=
  ⟨h.1, fun hn => by
    obtain ⟨g, cur, e, a1, a2, r⟩ := h.2 hn
    exact ⟨g, cur, e, by omega, by omega, r⟩⟩
theorem own_fresh {w w' : World} {xs : List Int} {hi : Nat} (hg : w'.heap[w.heap.size]? = some (.cells (xs.map (Value.int .i64)).toArray 2 (0, 0))) (hh : w.heap.size < hi) : Own w' w.heap.size hi (some ⟨w.heap.size, 0, none⟩) xs.length xs :=
  ⟨rfl, fun _ => ⟨_, _, rfl, Nat.le_refl _, hh, hg, fun i hi' => by simp [List.getElem?_eq_getElem hi']⟩⟩
theorem own_of_row {w : World} {base hi : Nat} {a : Option Addr} {n cap : Nat} {xs : List Int} (h : w.ownsRow base 2 1 (.slice a n cap) n (xs.map (Value.int .i64))) (hh : w.heap.size ≤ hi) : Own w base hi a n xs := by
  refine ⟨by have := h.1; simpa using this, fun hn => ?_⟩
  have hl : xs.length = n := by have := h.1; simpa using this
  rcases h.2 with ⟨e, _⟩ | ⟨g, c, cur, e, hb, hg, _, _, _, ht⟩
  · cases e; omega
  · injection e with e1 e2 e3
    refine ⟨g, cur, e1, hb, by have := (Array.getElem?_eq_some_iff.1 hg).1; omega, hg, fun i hi' => ?_⟩
    have h2 : (cur.toList.take (n * 1))[i]? = (xs.map (Value.int .i64))[i]? := by rw [ht]
    rw [Nat.mul_one, List.getElem?_take_of_lt hi', List.getElem?_map, List.getElem?_eq_getElem (by omega : i < xs.length)] at h2
    rw [← Array.getElem?_toList, h2, List.getD_eq_getElem?_getD, List.getElem?_eq_getElem (by omega)]
    rfl

def OwnPost (xs : List Int) (w : World) (e : Ending) (w' : World) : Prop :=
  ∃ a cap, e = .returned (.slice a xs.length cap) ∧ Own w' w.heap.size w'.heap.size a xs.length xs ∧ Below w.heap.size w w'

set_option maxRecDepth 100000 in
theorem cloneInts (w : World) (B g n cap : Nat) (xs : List Int) (h : Ints w B (some ⟨g, 0, none⟩) n xs) (hn : 0 < n) (hl : n ≤ 1048576) :
    Calls Try.prog 55 #[.slice (some ⟨g, 0, none⟩) n cap] w (OwnPost xs w) := by
  obtain ⟨i0, hi, hz0, hz1, hz2⟩ := info_parts Try.infoI64
  have hnil := fun w => Lib.run_eql_slice_nil (P := Try.prog) w 48 2 (some ⟨g, 0, none⟩) n cap 0 0 Try.underlying48
  have hown : (w.alloc (.cells #[] 2)).ownsRow w.heap.size 2 1 (.slice (some ⟨w.heap.size, 0, none⟩) 0 0) 0 [] := World.ownsRow_made w #[] 0 (Nat.le_refl _) (by unfold maxLen; omega) rfl
  have hL := Lib.hid h.1
  have H := Lib.hid h
  clear h
  go_enter Try.func55, Try.ntmps55
  go_wp2_with (at_builtin; refine wpList_append_own _ rfl _ _ 48 rfl w.heap.size 2 i0 (.int .i64 0) 1 8 Try.underlying48 hi hz0 hz1 hz2 rfl (by decide) _ _ _ rfl hown ⟨g, 0, none⟩ n cap (xs.map (Value.int .i64)) rfl ?c0 ?c1 ?c2 ?c3 ?c4 ?c5 ?_)
  case c0 => rw [List.length_map, hL.out, Nat.mul_one]
  case c1 =>
    intro j u hj
    have hjl : j < xs.length := by
      rcases Nat.lt_or_ge j xs.length with h' | h'
      · exact h'
      · rw [List.getElem?_eq_none (by simpa using h')] at hj; cases hj
    obtain ⟨b, off, e, hb, hc⟩ := H.out.2 j (by rw [← hL.out]; exact hjl)
    cases e
    have hlt := block_lt_of_cell hc
    rw [List.getElem?_map, List.getElem?_eq_getElem hjl] at hj
    cases hj
    rw [add_at, World.cell?_alloc_lt w _ _ hlt, hc, List.getD_eq_getElem?_getD, List.getElem?_eq_getElem hjl]
    rfl
  case c2 => exact ints_oneCell _ _
  case c3 => unfold maxLen; omega
  case c4 => omega
  case c5 => simp
  intro v' w1 hown' hgrow _
  have hb1 := ((Below.refl w.heap.size w).alloc (Nat.le_refl _) _).grown hgrow (by simp) (fun j hj => (hown.lt j hj).1)
  obtain ⟨g', cap', hv, _, _⟩ := hown'.form (by omega)
  subst hv
  have HO := Lib.hid (own_of_row (hi := w1.heap.size) (by simpa using hown') (Nat.le_refl _))
  clear hown' hgrow hown
  go_wp2
  go_ret
  exact ⟨some ⟨g', 0, none⟩, cap', by rw [hL.out]; rfl, by rw [hL.out]; exact HO.out, hb1⟩

set_option maxRecDepth 100000 in
theorem vlist (w : World) (x0 x1 x2 x3 : Int) :
    Calls Try.prog 47 #[.agg #[.int .i64 x0, .int .i64 x1, .int .i64 x2, .int .i64 x3]] w (OwnPost [x0, x1, x2, x3] w) := by
  go_enter Try.func47, Try.ntmps47
  go_wp2_with fail
  refine (cloneInts _ (w.heap.size + 1) w.heap.size 4 4 [x0, x1, x2, x3] (ints_of_block (t := 66) (heap_alloc_new _ _) (by omega) rfl) (by omega) (by omega)).mono ?_
  rintro e w1 ⟨a, cap, rfl, ho, hb⟩
  go_wp2
  go_ret
  refine ⟨a, cap, rfl, ho.more (by simp) (Nat.le_refl _), ((Below.refl _ w).alloc (Nat.le_refl _) _).trans (hb.mono (by simp))⟩

theorem keep_cell {wr w1 : World} {o : Obj} {row : Option Nat} {b i : Nat} {v : Value} (hg : (wr.alloc o).drew.grownBy w1 row) (hb : b < wr.heap.size) (hne : some b ≠ row) (h : wr.cell? ⟨b, i, none⟩ = some v) : w1.cell? ⟨b, i, none⟩ = some v :=
  (World.cell?_of_block (a := ⟨b, i, none⟩) ((hg.block b (by show b < (wr.heap.push o).size; simp; omega) hne).trans (Below.heap_alloc wr o b hb))).trans h

/-- Nothing has turned but blocks from lo up to hi. -/
structure Outside (lo hi : Nat) (w w' : World) : Prop where
  os : w'.os = w.os
  tape : w'.tape = w.tape
  output : w'.output = w.output
  size : w'.heap.size = w.heap.size
  block : ∀ j, j < lo ∨ hi ≤ j → w'.heap[j]? = w.heap[j]?
theorem Outside.below {lo hi : Nat} {w w' : World} (h : Outside lo hi w w') {B : Nat} (hB : B ≤ lo) : Below B w w' := ⟨h.os, h.tape, h.output, Nat.le_of_eq h.size.symm, fun k hk => h.block k (.inl (by omega))⟩
theorem Own.outside {w w' : World} {lo hi lo' hi' : Nat} {a : Option Addr} {n : Nat} {xs : List Int} (h : Own w lo hi a n xs) (ho : Outside lo' hi' w w') (hd : hi ≤ lo' ∨ hi' ≤ lo) : Own w' lo hi a n xs :=
  h.kept fun j h1 h2 => ho.block j (by omega)

def marks (k n : Nat) : List Int := (List.range n).map fun j => ((k + j : Nat) : Int)
theorem marks_len (k n : Nat) : (marks k n).length = n := by simp [marks]
theorem marks_at {k n i : Nat} (h : i < n) : (marks k n).getD i 0 = ((k + i : Nat) : Int) := by
  rw [List.getD_eq_getElem?_getD]
  simp [marks, h]

def MarkPost (k n lo hi : Nat) (a : Option Addr) (w : World) (e : Ending) (w' : World) : Prop :=
  (∃ m : Nat, m = k + n ∧ e = .returned (.int .i64 (m : Int))) ∧ Own w' lo hi a n (marks k n) ∧ Outside lo hi w w'

set_option maxRecDepth 100000 in
set_option maxHeartbeats 400000 in
theorem mark (w : World) (lo hi : Nat) (a : Option Addr) (n cap : Nat) (xs : List Int) (h : Own w lo hi a n xs) (k : Nat) (hk : k ≤ 4000000) (hn : n ≤ 1048576) :
    Calls Try.prog 50 #[.slice a n cap, .int .i64 (k : Int)] w (MarkPost k n lo hi a w) := by
  by_cases h0 : 0 < n
  · obtain ⟨g, cur, rfl, hlo, hhi, hg, hc⟩ := h.2 h0
    have HG := Lib.hid hg
    have HC := Lib.hid hc
    clear h hg hc
    go_enter Try.func50, Try.ntmps50
    go_wp2
    go_loopw [1, 5] (fun m i wr => ∃ j q : Nat, j ≤ n ∧ i = .int .i64 j ∧ m = .int .i64 q ∧ Hid (q = k + j) ∧ Hid (Outside g (g + 1) w wr ∧ ∃ cs : Array Value, wr.heap[g]? = some (.cells cs 2 (0, 0)) ∧ n ≤ cs.size ∧ ∀ t, t < j → cs[t]? = some (.int .i64 ((k + t : Nat) : Int)))) (fun _ i _ => n - (intOf i).toNat)
    case atStart =>
      refine ⟨0, k, by omega, rfl, rfl, rfl, ⟨rfl, rfl, rfl, rfl, fun _ _ => rfl⟩, cur, HG.out, ?_, fun t ht => by omega⟩
      have := HC.out (n - 1) (by omega)
      have := (Array.getElem?_eq_some_iff.1 this).1
      omega
    case round =>
      obtain ⟨j, q, hj, rfl, rfl, HQ, HP⟩ := hrel
      have hq : q ≤ 6000000 := by have := HQ.out; omega
      by_cases hlt : j < n
      · obtain ⟨hout, cs, hgs, hsz, hct⟩ := HP.out
        have c1 : wr.cell? ⟨g, j, none⟩ = some cs[j] := (cell_of_row _ _ _ _ _ _ hgs).trans (Array.getElem?_eq_getElem (by omega))
        have f1 : wr.frozen? ⟨g, j, none⟩ = false := frozen_of_row _ _ _ _ _ hgs
        generalize cs[j] = v at c1
        have HP' : Hid (Outside g (g + 1) w (wr.setCell ⟨g, j, none⟩ (.int .i64 (q : Int))) ∧ ∃ cs : Array Value, (wr.setCell ⟨g, j, none⟩ (.int .i64 (q : Int))).heap[g]? = some (.cells cs 2 (0, 0)) ∧ n ≤ cs.size ∧ ∀ t, t < j + 1 → cs[t]? = some (.int .i64 ((k + t : Nat) : Int))) := by
          refine ⟨⟨hout.os, hout.tape, hout.output, by simpa [World.setCell] using hout.size, fun i hi => (heap_setCell_other _ _ _ _ (by show i ≠ g; omega)).trans (hout.block i hi)⟩, cs.setIfInBounds j (.int .i64 (q : Int)), heap_setCell_same _ _ _ _ _ _ hgs, by simpa using hsz, fun t ht => ?_⟩
          rw [Array.getElem?_setIfInBounds]
          by_cases e : j = t
          · subst e
            rw [if_pos rfl, if_pos (by omega), HQ.out]
          · rw [if_neg e]
            exact hct t (by omega)
        clear hout hgs hsz hct HP
        go_wp2
        go_roundw
        case rel => exact ⟨j + 1, q + 1, by omega, by go_num, by go_num, (by have := HQ.out; show q + 1 = k + (j + 1); omega), HP'⟩
        case measure => simp [intOf]; omega
      · obtain rfl : j = n := by omega
        obtain ⟨hout, cs, hgs, hsz, hct⟩ := HP.out
        have HO : Hid (MarkPost k j lo hi (some ⟨g, 0, none⟩) w (.returned (.int .i64 (q : Int))) wr) := by
          refine ⟨⟨q, HQ.out, rfl⟩, ⟨marks_len _ _, fun _ => ⟨g, cs, rfl, hlo, hhi, hgs, fun i hi => by rw [marks_at hi]; exact hct i hi⟩⟩, ⟨hout.os, hout.tape, hout.output, hout.size, fun i hi => hout.block i (by omega)⟩⟩
        clear hout hgs hsz hct HP
        go_wp2
        go_ret
        exact HO.out
  · obtain rfl : n = 0 := by omega
    clear h
    go_enter Try.func50, Try.ntmps50
    go_wp2
    refine wp_loop_rounds 1 ?_
    rw [rounds_succ]
    go_wp2
    go_ret
    exact ⟨⟨k, rfl, rfl⟩, ⟨rfl, fun hn => absurd hn (by omega)⟩, ⟨rfl, rfl, rfl, rfl, fun _ _ => rfl⟩⟩

def IntPost (m : Nat) (w : World) (e : Ending) (w' : World) : Prop := e = .returned (.int .i64 (m : Int)) ∧ w = w'
set_option maxRecDepth 100000 in
theorem held (w : World) (B : Nat) (a : Option Addr) (n cap k : Nat) (h : Ints w B a n (marks k n)) (hk : k ≤ 4000000) (hn : n ≤ 1048576) :
    Calls Try.prog 52 #[.slice a n cap, .int .i64 (k : Int)] w (IntPost (k + n) w) := by
  have H := Lib.hid h
  clear h
  go_enter Try.func52, Try.ntmps52
  go_wp2
  go_loop [1, 5] (fun m i => ∃ j q : Nat, j ≤ n ∧ i = .int .i64 j ∧ m = .int .i64 q ∧ Hid (q = k + j)) (fun _ i => n - (intOf i).toNat)
  case atStart => exact ⟨0, k, by omega, rfl, rfl, rfl⟩
  case round =>
    obtain ⟨j, q, hj, rfl, rfl, HQ⟩ := hrel
    have hq : q ≤ 6000000 := by have := HQ.out; omega
    by_cases hlt : j < n
    · obtain ⟨b, off, rfl, hb, hc⟩ := H.out.2 j hlt
      rw [marks_at hlt, ← HQ.out] at hc
      go_wp2
      go_round
      case rel => exact ⟨j + 1, q + 1, by omega, by go_num, by go_num, (by have := HQ.out; show q + 1 = k + (j + 1); omega)⟩
      case measure => simp [intOf]; omega
    · have HE : Hid (q = k + n) := by have := HQ.out; show q = k + n; omega
      go_wp2
      go_ret
      rw [← HE.out]
      exact ⟨rfl, rfl⟩
def CartNewPost (w : World) (e : Ending) (w' : World) : Prop :=
  ∃ a cap, e = .returned (.agg #[.slice a 4 cap, .slice none 0 0]) ∧ Own w' w.heap.size w'.heap.size a 4 [0, 0, 0, 0] ∧ Below w.heap.size w w'
theorem zero_made (W : World) : (Instr.makeSlice 48 (.int .i64 4) (.int .i64 4)).run Try.prog W = .ok (.slice (some ⟨W.heap.size, 0, none⟩) 4 4) (W.alloc (.cells #[.int .i64 0, .int .i64 0, .int .i64 0, .int .i64 0] 2)) := by
  obtain ⟨i0, hi, hz0, hz1, hz2⟩ := info_parts Try.infoI64
  have h := run_make (P := Try.prog) W 48 2 i0 (.int .i64 0) Try.underlying48 hi hz0 .i64 .i64 4 4 (by omega) (by omega) (by rw [hz2]; omega) (by omega)
  rw [hz1] at h
  have e : madeCells (Value.int .i64 0).cells (Int.toNat 4 * 1) = #[.int .i64 0, .int .i64 0, .int .i64 0, .int .i64 0] := by kernel_rfl
  rw [e] at h
  exact h

set_option maxRecDepth 100000 in
theorem implCartNew (w : World) : Calls Try.prog 35 #[] w (CartNewPost w) := by
  go_enter Try.func35, Try.ntmps35
  go_wp2_with fail
  refine (vlist _ 0 0 0 0).mono ?_
  rintro e w1 ⟨a, cap, rfl, ho, hb⟩
  have hx := boxAt hb
  have HB := Lib.hid (box_below hb)
  obtain ⟨c0, c1⟩ := pair_cells hx
  obtain ⟨f0, f1⟩ := pair_frozen hx
  have HX := Lib.hid (pair_set (.slice a 4 cap) (.slice none 0 0) hx)
  have HO : Hid (Own ((w1.setCell ⟨w.heap.size, 0, none⟩ (.slice a 4 cap)).setCell ⟨w.heap.size, 1, none⟩ (.slice none 0 0)) w.heap.size w1.heap.size a 4 [0, 0, 0, 0]) := (Own.kept ho fun j h1 h2 => pair_other _ _ (by have : w.heap.size < (w.alloc (.cells #[.slice none 0 0, .slice none 0 0] 51)).heap.size := by { show _ < (w.heap.push _).size; simp }; omega)).more (by show _ ≤ (w.heap.push _).size; simp) (Nat.le_refl _)
  have HBf := Lib.hid ((HB.out.setCell (p := ⟨w.heap.size, 0, none⟩) (Nat.le_refl _) (.slice a 4 cap)).setCell (p := ⟨w.heap.size, 1, none⟩) (Nat.le_refl _) (.slice none 0 0))
  have hsz := pair_size w1 w.heap.size (.slice a 4 cap) (.slice none 0 0)
  clear hx hb ho
  go_wp2
  generalize (w1.setCell ⟨w.heap.size, 0, none⟩ (.slice a 4 cap)).setCell ⟨w.heap.size, 1, none⟩ (.slice none 0 0) = wf at HX HO HBf hsz ⊢
  obtain ⟨d0, d1⟩ := pair_cells HX.out
  exact bodyPost_ret (v := .agg #[.slice a 4 cap, .slice none 0 0]) (by simp [results, Try.results35, go_sem, d0, d1]) rfl ⟨a, cap, rfl, HO.out.more (Nat.le_refl _) (Nat.le_of_eq hsz.symm), HBf.out⟩
theorem l2Zero (w : World) : Calls Try.prog 45 #[] w fun e w' => ∃ a cap, e = .returned (.slice a 4 cap) ∧ Own w' w.heap.size w'.heap.size a 4 [0, 0, 0, 0] ∧ Below w.heap.size w w' := by
  have hm := zero_made
  go_enter Try.func45, Try.ntmps45
  go_wp2
  go_ret
  refine ⟨_, _, rfl, own_fresh (xs := [0, 0, 0, 0]) (heap_alloc_new _ _) (by show _ < (w.heap.push _).size; simp), (Below.refl _ _).alloc (Nat.le_refl _) _⟩
set_option maxRecDepth 100000 in
theorem specCartNew (w : World) : Calls Try.prog 33 #[] w (CartNewPost w) := by
  go_enter Try.func33, Try.ntmps33
  go_wp2_with fail
  refine (l2Zero _).mono ?_
  rintro e w1 ⟨a, cap, rfl, ho, hb⟩
  have hx := boxAt hb
  have HB := Lib.hid (box_below hb)
  obtain ⟨c0, c1⟩ := pair_cells hx
  obtain ⟨f0, f1⟩ := pair_frozen hx
  have HX := Lib.hid (pair_set (.slice a 4 cap) (.slice none 0 0) hx)
  have HO : Hid (Own ((w1.setCell ⟨w.heap.size, 0, none⟩ (.slice a 4 cap)).setCell ⟨w.heap.size, 1, none⟩ (.slice none 0 0)) w.heap.size w1.heap.size a 4 [0, 0, 0, 0]) := (Own.kept ho fun j h1 h2 => pair_other _ _ (by have : w.heap.size < (w.alloc (.cells #[.slice none 0 0, .slice none 0 0] 51)).heap.size := by { show _ < (w.heap.push _).size; simp }; omega)).more (by show _ ≤ (w.heap.push _).size; simp) (Nat.le_refl _)
  have HBf := Lib.hid ((HB.out.setCell (p := ⟨w.heap.size, 0, none⟩) (Nat.le_refl _) (.slice a 4 cap)).setCell (p := ⟨w.heap.size, 1, none⟩) (Nat.le_refl _) (.slice none 0 0))
  have hsz := pair_size w1 w.heap.size (.slice a 4 cap) (.slice none 0 0)
  clear hx hb ho
  go_wp2
  generalize (w1.setCell ⟨w.heap.size, 0, none⟩ (.slice a 4 cap)).setCell ⟨w.heap.size, 1, none⟩ (.slice none 0 0) = wf at HX HO HBf hsz ⊢
  obtain ⟨d0, d1⟩ := pair_cells HX.out
  exact bodyPost_ret (v := .agg #[.slice a 4 cap, .slice none 0 0]) (by simp [results, Try.results33, go_sem, d0, d1]) rfl ⟨a, cap, rfl, HO.out.more (Nat.le_refl _) (Nat.le_of_eq hsz.symm), HBf.out⟩
theorem eqNil (w : World) : Calls Try.prog 58 #[.slice none 0 0, .slice none 0 0] w fun e w' => e = .returned (.bool true) ∧ w = w' := by
  go_enter Try.func58, Try.ntmps58
  go_wp2
  go_loop [5] (fun i => i = .int .i64 0) (fun _ => 0)
  case atStart => rfl
  case round =>
    subst hrel
    go_wp2
    go_ret
    exact ⟨rfl, rfl⟩
theorem markNil (k : Int) (w : World) : Calls Try.prog 51 #[.slice none 0 0, .int .i64 k] w fun e w' => e = .returned (.int .i64 k) ∧ w = w' := by
  go_enter Try.func51, Try.ntmps51
  go_wp2
  go_loop [5, 1] (fun i m => i = .int .i64 0 ∧ m = .int .i64 k) (fun _ _ => 0)
  case atStart => exact ⟨rfl, rfl⟩
  case round =>
    obtain ⟨rfl, rfl⟩ := hrel
    go_wp2
    go_ret
    exact ⟨rfl, rfl⟩
theorem heldNil (k : Int) (w : World) : Calls Try.prog 53 #[.slice none 0 0, .int .i64 k] w fun e w' => e = .returned (.int .i64 k) ∧ w = w' := by
  go_enter Try.func53, Try.ntmps53
  go_wp2
  go_loop [5, 1] (fun i m => i = .int .i64 0 ∧ m = .int .i64 k) (fun _ _ => 0)
  case atStart => exact ⟨rfl, rfl⟩
  case round =>
    obtain ⟨rfl, rfl⟩ := hrel
    go_wp2
    go_ret
    exact ⟨rfl, rfl⟩
set_option maxRecDepth 100000 in
theorem eqCartNil (w : World) (B B' : Nat) (a a' : Option Addr) (cap cap' : Nat) (xs : List Int) (h : Ints w B a 4 xs) (h' : Ints w B' a' 4 xs) (hB : B ≤ w.heap.size) (hB' : B' ≤ w.heap.size) : Calls Try.prog 48 #[.agg #[.slice a 4 cap, .slice none 0 0], .agg #[.slice a' 4 cap', .slice none 0 0]] w fun e w' => e = .returned (.bool true) ∧ Below w.heap.size w w' := by
  have hb2 : Below w.heap.size w ((w.alloc (.cells #[.slice a 4 cap, .slice none 0 0] 51)).alloc (.cells #[.slice a' 4 cap', .slice none 0 0] 51)) := ((Below.refl _ w).alloc (Nat.le_refl _) _).alloc (by show _ ≤ (w.heap.push _).size; simp) _
  have H := Lib.hid (h.below hb2 hB)
  have H' := Lib.hid (h'.below hb2 hB')
  have HB := Lib.hid hb2
  clear h h' hb2
  go_enter Try.func48, Try.ntmps48
  go_wp2_with fail
  refine (eqInts _ _ _ _ _ _ _ _ _ xs xs H.out H'.out (by omega) (by omega)).mono ?_
  rintro e w1 ⟨rfl, n, rfl⟩
  rw [decide_eq_true rfl]
  go_wp2_with fail
  refine (eqNil _).mono ?_
  rintro e w' ⟨rfl, rfl⟩
  go_wp2
  go_ret
  exact ⟨rfl, ⟨HB.out.os, HB.out.tape, HB.out.output, HB.out.size, HB.out.block⟩⟩
set_option maxRecDepth 100000 in
theorem cloneNil (w : World) : Calls Try.prog 59 #[.slice none 0 0] w fun e w' => e = .returned (.slice none 0 0) ∧ w = w' := by
  have hnil := fun w => Lib.run_eql_slice_nil (P := Try.prog) w 49 81 none 0 0 0 0 Try.underlying49
  go_enter Try.func59, Try.ntmps59
  go_wp2
  go_ret
  exact ⟨rfl, rfl⟩
structure Two (w w1 : World) (cs ds : Array Value) (T : TypeId) : Prop where
  fst : w1.heap[w.heap.size]? = some (.cells cs T (0, 0))
  snd : w1.heap[w.heap.size + 1]? = some (.cells ds T (0, 0))
  bel : Below w.heap.size w w1
theorem Two.mk0 (w : World) (cs ds : Array Value) (T : TypeId) : Two w ((w.alloc (.cells cs T)).alloc (.cells ds T)) cs ds T :=
  ⟨by show ((w.heap.push _).push _)[_]? = _; rw [Array.getElem?_push_lt (by simp)]; simp, by
    show ((w.heap.push _).push _)[_]? = _
    have e : w.heap.size + 1 = (w.heap.push (.cells cs T)).size := by simp
    rw [e, Array.getElem?_push_size], ((Below.refl _ w).alloc (Nat.le_refl _) _).alloc (by show _ ≤ (w.heap.push _).size; simp) _⟩
theorem Two.next {w w1 w2 : World} {cs ds : Array Value} {T : TypeId} (h : Two w w1 cs ds T) (hb : Below w1.heap.size w1 w2) : Two w w2 cs ds T :=
  ⟨(hb.block _ (lt_of_row h.fst)).trans h.fst, (hb.block _ (lt_of_row h.snd)).trans h.snd, h.bel.trans (hb.mono h.bel.size)⟩

end Go.Proofs.Ytdmhibdhnejiiab
