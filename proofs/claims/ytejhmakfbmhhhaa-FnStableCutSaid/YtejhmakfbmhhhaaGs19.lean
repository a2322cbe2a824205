/- Walks and mathematics that several claims share, part 19. -/
import Derived.Test.YtejhmakfbmhhhaaGs17
import Derived.Test.YtejhmakfbmhhhaaGs2
import Derived.Test.YtejhmakfbmhhhaaGs10
import Derived.Test.YtejhmakfbmhhhaaGs16
import Derived.Test.YtejhmakfbmhhhaaGs3
import Derived.Deep.Cut
import Derived.Deep.AppendLies
import Derived.Lib.SliceRun
import Derived.Lib.MinMax
import Derived.Deep.RegionHeld3
import Derived.RegionTactic
import Derived.Handy
import Derived.Below
import Derived.Laws.AppendOwn
namespace Go.Proofs.Ytejhmakfbmhhhaa
open Go.RowKit

def opRow (o : OpV) : List Value := [.int .i64 o.dev, .int .i64 o.seq, .int .i64 o.stamp, .int .i64 o.kind, .string o.item, .int .i64 o.qty, .int .i64 o.level, .int .i64 o.undos]
def opCells : List OpV → List Value
  | [] => []
  | x :: l => opRow x ++ opCells l
theorem opCells_len : ∀ l : List OpV, (opCells l).length = l.length * 8
  | [] => rfl
  | x :: l => by
    show (opRow x ++ opCells l).length = _
    rw [List.length_append, opCells_len l, List.length_cons]
    show 8 + _ = _
    omega
theorem opCells_snoc (x : OpV) : ∀ l : List OpV, opCells (l ++ [x]) = opCells l ++ opRow x
  | [] => by show opRow x ++ [] = [] ++ opRow x; rw [List.append_nil, List.nil_append]
  | y :: l => by
    show opRow y ++ opCells (l ++ [x]) = (opRow y ++ opCells l) ++ opRow x
    rw [opCells_snoc x l, List.append_assoc]
theorem opCells_at : ∀ (l : List OpV) (i u : Nat), i < l.length → u < 8 → (opCells l)[i * 8 + u]? = (opRow (l.getD i OpV.zero))[u]?
  | x :: l, 0, u, _, hu => by
    show (opRow x ++ opCells l)[0 * 8 + u]? = (opRow x)[u]?
    rw [Nat.zero_mul, Nat.zero_add, List.getElem?_append_left (by show u < 8; exact hu)]
  | x :: l, i + 1, u, hi, hu => by
    show (opRow x ++ opCells l)[(i + 1) * 8 + u]? = (opRow (l.getD i OpV.zero))[u]?
    rw [List.getElem?_append_right (by show 8 ≤ _; omega)]
    have e : (i + 1) * 8 + u - (opRow x).length = i * 8 + u := by show _ - 8 = _; omega
    rw [e, opCells_at l i u (by simpa using hi) hu]
theorem opCells_one : ∀ l : List OpV, ∀ u ∈ opCells l, u.oneCell' = true
  | [], u, h => by cases h
  | x :: l, u, h => by
    rcases List.mem_append.1 h with h1 | h1
    · simp only [opRow, List.mem_cons, List.not_mem_nil, or_false] at h1
      rcases h1 with rfl | rfl | rfl | rfl | rfl | rfl | rfl | rfl <;> rfl
    · exact opCells_one l u h1
theorem own_of_cells {w : World} {base hi : Nat} {a : Option Addr} {n cap : Nat} {l : List OpV} (h : w.ownsRow base 80 8 (.slice a n cap) n (opCells l)) (hh : w.heap.size ≤ hi) : OwnOps w base hi a n l := by
  have hl : l.length = n := by have := h.1; rw [opCells_len] at this; omega
  refine ⟨hl, fun hn => ?_⟩
  rcases h.2 with ⟨e, _⟩ | ⟨g, c, cur, e, hb, hg, hnc, _, hs, ht⟩
  · cases e; omega
  · injection e with e1 e2 e3
    have key : ∀ i u, i < n → u < 8 → cur[0 + i * 8 + u]? = (opRow (l.getD i OpV.zero))[u]? := fun i u hi' hu => by
      have h2 : (cur.toList.take (n * 8))[i * 8 + u]? = (opCells l)[i * 8 + u]? := by rw [ht]
      rw [List.getElem?_take_of_lt (by omega), opCells_at l i u (by omega) hu] at h2
      rw [Nat.zero_add, ← Array.getElem?_toList, h2]
    refine ⟨g, 0, cur, e1, hb, by have := (Array.getElem?_eq_some_iff.1 hg).1; omega, hg, by rw [hs]; have : n * 8 ≤ c * 8 := by omega
                                                                                             omega, fun i hi' => ?_⟩
    exact ⟨key i 0 hi' (by omega), key i 1 hi' (by omega), key i 2 hi' (by omega), key i 3 hi' (by omega), key i 4 hi' (by omega), key i 5 hi' (by omega), key i 6 hi' (by omega), key i 7 hi' (by omega)⟩
/-- What stands in a slice of operations, cell by cell, as 'append' asks. -/
theorem cells_of_ops {w : World} {B b off n : Nat} {l : List OpV} (h : Ops w B (some ⟨b, off, none⟩) n l) : ∀ j u, (opCells l)[j]? = some u → w.cell? ((⟨b, off, none⟩ : Addr).add j) = some u := by
  intro j u hj
  have hjl : j < l.length * 8 := by
    rcases Nat.lt_or_ge j (l.length * 8) with h' | h'
    · exact h'
    · rw [List.getElem?_eq_none (by rw [opCells_len]; exact h')] at hj; cases hj
  have hd : j = (j / 8) * 8 + j % 8 := by omega
  have hi : j / 8 < l.length := by omega
  obtain ⟨b', off', e, _, ho⟩ := h.2 (j / 8) (by rw [← h.1]; exact hi)
  injection e with e
  injection e with e1 e2
  subst e1 e2
  rw [hd, opCells_at l _ _ hi (by omega)] at hj
  rw [add_at]
  have hm : j % 8 < 8 := by omega
  obtain ⟨h0, h1, h2, h3, h4, h5, h6, h7⟩ := ho
  have hj8 : off + j = off + j / 8 * 8 + j % 8 := by omega
  rw [hj8]
  generalize j % 8 = m at hj hm ⊢
  obtain rfl | rfl | rfl | rfl | rfl | rfl | rfl | rfl : m = 0 ∨ m = 1 ∨ m = 2 ∨ m = 3 ∨ m = 4 ∨ m = 5 ∨ m = 6 ∨ m = 7 := by omega
  · cases hj
    exact h0
  · cases hj
    exact h1
  · cases hj
    exact h2
  · cases hj
    exact h3
  · cases hj
    exact h4
  · cases hj
    exact h5
  · cases hj
    exact h6
  · cases hj
    exact h7
set_option maxRecDepth 100000 in
theorem cloneNil (w : World) : Calls Try.prog 112 #[.slice none 0 0] w fun e w' => e = .returned (.slice none 0 0) ∧ w = w' := by
  have hnil := fun w => Lib.run_eql_slice_nil (P := Try.prog) w 29 80 none 0 0 0 0 Try.underlying29
  go_enter Try.func112, Try.ntmps112
  go_wp2
  go_ret
  exact ⟨rfl, rfl⟩
theorem strClone (s : ByteArray) (h : s.size ≤ 1048576) (w : World) : Calls Try.prog 113 #[.string s] w fun e w' => e = .returned (.string s) ∧ Below w.heap.size w w' := by
  go_enter Try.func113, Try.ntmps113
  go_wp2_with fail
  refine (Try.stringslite_Clone s _ (by omega)).mono ?_
  rintro e w1 ⟨rfl, hb1⟩
  go_wp2
  go_ret
  exact ⟨rfl, hb1⟩
/-- A block of the call's own that holds n operations. -/
def CS (g off n : Nat) (l : List OpV) (w wr : World) : Prop := Below w.heap.size w wr ∧ ∃ cs : Array Value, wr.heap[g]? = some (.cells cs 80 (0, 0)) ∧ off + n * 8 ≤ cs.size ∧ ∀ i, i < n → OpIn cs (off + i * 8) (l.getD i OpV.zero)
theorem CS.step {g off n : Nat} {l : List OpV} {w wr w1 : World} (h : CS g off n l w wr) (hb : Below wr.heap.size wr w1) : CS g off n l w w1 := by
  obtain ⟨h1, cs, hg, r⟩ := h
  exact ⟨h1.trans (hb.mono h1.size), cs, (hb.block _ (Array.getElem?_eq_some_iff.1 hg).1).trans hg, r⟩
theorem CS.put {g off n k : Nat} {l : List OpV} {w wr : World} (h : CS g off n l w wr) (hg0 : w.heap.size ≤ g) (hk : k < n) : CS g off n l w (wr.setCell ⟨g, off + k * 8 + 4, none⟩ (.string (l.getD k OpV.zero).item)) := by
  obtain ⟨h1, cs, hg, hs, hc⟩ := h
  refine ⟨h1.setCell (p := ⟨g, off + k * 8 + 4, none⟩) hg0 _, cs.setIfInBounds (off + k * 8 + 4) (.string (l.getD k OpV.zero).item), heap_setCell_same _ _ _ _ _ _ hg, by simpa using hs, fun i hi => ?_⟩
  by_cases e : i = k
  · subst e
    obtain ⟨h0, h1, h2, h3, h4, h5, h6, h7⟩ := hc i hi
    exact ⟨(Array.getElem?_setIfInBounds_ne (by omega)).trans h0, (Array.getElem?_setIfInBounds_ne (by omega)).trans h1, (Array.getElem?_setIfInBounds_ne (by omega)).trans h2, (Array.getElem?_setIfInBounds_ne (by omega)).trans h3, Array.getElem?_setIfInBounds_self_of_lt (by omega), (Array.getElem?_setIfInBounds_ne (by omega)).trans h5, (Array.getElem?_setIfInBounds_ne (by omega)).trans h6, (Array.getElem?_setIfInBounds_ne (by omega)).trans h7⟩
  · exact opIn_far (hc i hi) (by omega)
end Go.Proofs.Ytejhmakfbmhhhaa

namespace Go.Proofs.Ytejhmakfbmhhhaa
open Go.RowKit

/-- A slice whose row, if it has elements, is a block of its own between lo and hi, and holds xs. -/
def Own (w : World) (lo hi : Nat) (a : Option Addr) (n : Nat) (xs : List Int) : Prop :=
  xs.length = n ∧ (0 < n → ∃ g cur, a = some ⟨g, 0, none⟩ ∧ lo ≤ g ∧ g < hi ∧ w.heap[g]? = some (.cells cur 2 (0, 0)) ∧ ∀ i, i < n → cur[i]? = some (.int .i64 (xs.getD i 0)))
theorem Own.ints {w : World} {lo hi : Nat} {a : Option Addr} {n : Nat} {xs : List Int} (h : Own w lo hi a n xs) : Ints w hi a n xs :=
  ⟨h.1, fun i hi' => by
    obtain ⟨g, cur, e, _, hg2, hg, hc⟩ := h.2 (by omega)
    exact ⟨g, 0, e, hg2, by rw [cell_of_row _ _ _ _ _ _ hg, Nat.zero_add]; exact hc i hi'⟩⟩
theorem Own.kept {w w' : World} {lo hi : Nat} {a : Option Addr} {n : Nat} {xs : List Int} (h : Own w lo hi a n xs) (hk : ∀ j, lo ≤ j → j < hi → w'.heap[j]? = w.heap[j]?) : Own w' lo hi a n xs :=
  ⟨h.1, fun hn => by
    obtain ⟨g, cur, e, h1, h2, hg, hc⟩ := h.2 hn
    exact ⟨g, cur, e, h1, h2, (hk g h1 h2).trans hg, hc⟩⟩
theorem Own.below {w w' : World} {lo hi B : Nat} {a : Option Addr} {n : Nat} {xs : List Int} (h : Own w lo hi a n xs) (hb : Below B w w') (hB : hi ≤ B) : Own w' lo hi a n xs :=
  h.kept fun j _ h2 => hb.block j (by omega)
theorem Own.more {w : World} {lo hi lo' hi' : Nat} {a : Option Addr} {n : Nat} {xs : List Int} (h : Own w lo hi a n xs) (h1 : lo' ≤ lo) (h2 : hi ≤ hi') : Own w lo' hi' a n xs :=
  ⟨h.1, fun hn => by
    obtain ⟨g, cur, e, a1, a2, r⟩ := h.2 hn
    exact ⟨g, cur, e, by omega, by omega, r⟩⟩
theorem own_fresh {w w' : World} {xs : List Int} {hi : Nat} (hg : w'.heap[w.heap.size]? = some (.cells (xs.map (Value.int .i64)).toArray 2 (0, 0))) (hh : w.heap.size < hi) : Own w' w.heap.size hi (some ⟨w.heap.size, 0, none⟩) xs.length xs :=
  ⟨rfl, fun _ => ⟨_, _, rfl, Nat.le_refl _, hh, hg, fun i hi' => by simp [List.getElem?_eq_getElem hi']⟩⟩
theorem own_of_row {w : World} {base hi : Nat} {a : Option Addr} {n cap : Nat} {xs : List Int} (h : w.ownsRow base 2 1 (.slice a n cap) n (xs.map (Value.int .i64))) (hh : w.heap.size ≤ hi) : Own w base hi a n xs := by
  refine ⟨by have := h.1; simpa using this, fun hn => ?_⟩
  have hl : xs.length = n := by have := h.1; simpa using this
  rcases h.2 with ⟨e, _⟩ | ⟨g, c, cur, e, hb, hg, _, _, _, ht⟩
  · cases e; omega
  · injection e with e1 e2 e3
    refine ⟨g, cur, e1, hb, by have := (Array.getElem?_eq_some_iff.1 hg).1; omega, hg, fun i hi' => ?_⟩
    have h2 : (cur.toList.take (n * 1))[i]? = (xs.map (Value.int .i64))[i]? := by rw [ht]
    rw [Nat.mul_one, List.getElem?_take_of_lt hi', List.getElem?_map, List.getElem?_eq_getElem (by omega : i < xs.length)] at h2
    rw [← Array.getElem?_toList, h2, List.getD_eq_getElem?_getD, List.getElem?_eq_getElem (by omega)]
    rfl


/-- Nothing has turned but blocks from lo up to hi. -/
structure Outside (lo hi : Nat) (w w' : World) : Prop where
  os : w'.os = w.os
  tape : w'.tape = w.tape
  output : w'.output = w.output
  size : w'.heap.size = w.heap.size
  block : ∀ j, j < lo ∨ hi ≤ j → w'.heap[j]? = w.heap[j]?
theorem Outside.below {lo hi : Nat} {w w' : World} (h : Outside lo hi w w') {B : Nat} (hB : B ≤ lo) : Below B w w' := ⟨h.os, h.tape, h.output, Nat.le_of_eq h.size.symm, fun k hk => h.block k (.inl (by omega))⟩
theorem PartOps.own {w wr : World} {g n : Nat} {l : List OpV} (h : PartOps w wr g n l n) (hl : l.length = n) : OwnOps wr g (g + 1) (some ⟨g, 0, none⟩) n l := by
  obtain ⟨h1, cs, hg, hs, hc⟩ := h
  refine ⟨hl, fun _ => ⟨g, 0, cs, rfl, Nat.le_refl _, Nat.lt_succ_self _, hg, by omega, fun i hi => ?_⟩⟩
  rw [Nat.zero_add]
  exact hc i hi
theorem Outside.beside {lo hi : Nat} {w w' : World} (h : Outside lo hi w w') : Beside lo hi w w' := ⟨h.os, h.tape, h.output, Nat.le_of_eq h.size.symm, fun j _ hj => h.block j hj⟩
theorem Beside.trans {lo hi : Nat} {w w1 w2 : World} (h : Beside lo hi w w1) (h2 : Beside lo hi w1 w2) : Beside lo hi w w2 :=
  ⟨h2.os.trans h.os, h2.tape.trans h.tape, h2.output.trans h.output, Nat.le_trans h.size h2.size, fun j hj hd => (h2.block j (by have := h.size; omega) hd).trans (h.block j hj hd)⟩
theorem Below.beside {lo hi : Nat} {w w' : World} (h : Below w.heap.size w w') : Beside lo hi w w' := ⟨h.os, h.tape, h.output, h.size, fun j hj _ => h.block j hj⟩
end Go.Proofs.Ytejhmakfbmhhhaa

namespace Go.Proofs.Ytejhmakfbmhhhaa
open Go.RowKit

def OwnPost (xs : List Int) (w : World) (e : Ending) (w' : World) : Prop :=
  ∃ a cap, e = .returned (.slice a xs.length cap) ∧ Own w' w.heap.size w'.heap.size a xs.length xs ∧ Below w.heap.size w w'
def OwnPostC (xs : List Int) (w : World) (e : Ending) (w' : World) : Prop :=
  ∃ a cap, e = .returned (.slice a xs.length cap) ∧ Own w' w.heap.size w'.heap.size a xs.length xs ∧ Below w.heap.size w w' ∧ Caps a xs.length cap

set_option maxRecDepth 100000 in
theorem cloneInts (w : World) (B g n cap : Nat) (xs : List Int) (h : Ints w B (some ⟨g, 0, none⟩) n xs) (hn : 0 < n) (hl : n ≤ 1048576) :
    Calls Try.prog 107 #[.slice (some ⟨g, 0, none⟩) n cap] w (OwnPost xs w) := by
  obtain ⟨i0, hi, hz0, hz1, hz2⟩ := info_parts Try.infoI64
  have hnil := fun w => Lib.run_eql_slice_nil (P := Try.prog) w 28 2 (some ⟨g, 0, none⟩) n cap 0 0 Try.underlying28
  have hown : (w.alloc (.cells #[] 2)).ownsRow w.heap.size 2 1 (.slice (some ⟨w.heap.size, 0, none⟩) 0 0) 0 [] := World.ownsRow_made w #[] 0 (Nat.le_refl _) (by unfold maxLen; omega) rfl
  have hL := Lib.hid h.1
  have H := Lib.hid h
  clear h
  go_enter Try.func107, Try.ntmps107
  go_wp2_with (at_builtin; refine wpList_append_own _ rfl _ _ 28 rfl w.heap.size 2 i0 (.int .i64 0) 1 8 Try.underlying28 hi hz0 hz1 hz2 rfl (by decide) _ _ _ rfl hown ⟨g, 0, none⟩ n cap (xs.map (Value.int .i64)) rfl ?c0 ?c1 ?c2 ?c3 ?c4 ?c5 ?_)
  case c0 => rw [List.length_map, hL.out, Nat.mul_one]
  case c1 =>
    intro j u hj
    have hjl : j < xs.length := by
      rcases Nat.lt_or_ge j xs.length with h' | h'
      · exact h'
      · rw [List.getElem?_eq_none (by simpa using h')] at hj; cases hj
    obtain ⟨b, off, e, hb, hc⟩ := H.out.2 j (by rw [← hL.out]; exact hjl)
    cases e
    have hlt := block_lt_of_cell hc
    rw [List.getElem?_map, List.getElem?_eq_getElem hjl] at hj
    cases hj
    rw [add_at, World.cell?_alloc_lt w _ _ hlt, hc, List.getD_eq_getElem?_getD, List.getElem?_eq_getElem hjl]
    rfl
  case c2 => exact ints_oneCell _ _
  case c3 => unfold maxLen; omega
  case c4 => omega
  case c5 => simp
  intro v' w1 hown' hgrow _
  have hb1 := ((Below.refl w.heap.size w).alloc (Nat.le_refl _) _).grown hgrow (by simp) (fun j hj => (hown.lt j hj).1)
  obtain ⟨g', cap', hv, _, _⟩ := hown'.form (by omega)
  subst hv
  have HO := Lib.hid (own_of_row (hi := w1.heap.size) (by simpa using hown') (Nat.le_refl _))
  clear hown' hgrow hown
  go_wp2
  go_ret
  exact ⟨some ⟨g', 0, none⟩, cap', by rw [hL.out]; rfl, by rw [hL.out]; exact HO.out, hb1⟩

set_option maxRecDepth 100000 in
theorem vlist (w : World) (x0 x1 x2 x3 : Int) :
    Calls Try.prog 60 #[.agg #[.int .i64 x0, .int .i64 x1, .int .i64 x2, .int .i64 x3]] w (OwnPost [x0, x1, x2, x3] w) := by
  go_enter Try.func60, Try.ntmps60
  go_wp2_with fail
  refine (cloneInts _ (w.heap.size + 1) w.heap.size 4 4 [x0, x1, x2, x3] (ints_of_block (t := 130) (heap_alloc_new _ _) (by omega) rfl) (by omega) (by omega)).mono ?_
  rintro e w1 ⟨a, cap, rfl, ho, hb⟩
  go_wp2
  go_ret
  refine ⟨a, cap, rfl, ho.more (by simp) (Nat.le_refl _), ((Below.refl _ w).alloc (Nat.le_refl _) _).trans (hb.mono (by simp))⟩

def zipI (f : Int → Int → Int) (xs ys : List Int) : List Int := List.zipWith f xs ys
theorem zipI_take (f : Int → Int → Int) (xs ys : List Int) (k : Nat) (h1 : k < xs.length) (h2 : k < ys.length) : (zipI f xs ys).take (k + 1) = (zipI f xs ys).take k ++ [f (xs.getD k 0) (ys.getD k 0)] := by
  have hk : k < (zipI f xs ys).length := by unfold zipI; rw [List.length_zipWith]; omega
  have e : (zipI f xs ys)[k] = f (xs.getD k 0) (ys.getD k 0) := by
    have := List.getElem_zipWith (f := f) (l := xs) (l' := ys) (i := k) (h := hk)
    rw [List.getD_eq_getElem?_getD, List.getD_eq_getElem?_getD, List.getElem?_eq_getElem h1, List.getElem?_eq_getElem h2]
    exact this
  rw [List.take_succ_eq_append_getElem hk, e]

theorem keep_cell {wr w1 : World} {o : Obj} {row : Option Nat} {b i : Nat} {v : Value} (hg : (wr.alloc o).drew.grownBy w1 row) (hb : b < wr.heap.size) (hne : some b ≠ row) (h : wr.cell? ⟨b, i, none⟩ = some v) : w1.cell? ⟨b, i, none⟩ = some v :=
  (World.cell?_of_block (a := ⟨b, i, none⟩) ((hg.block b (by show b < (wr.heap.push o).size; simp; omega) hne).trans (Below.heap_alloc wr o b hb))).trans h

/-- What VecMax and VecMin answer, plainly. -/
def vecZip (f : Int → Int → Int) (xs ys : List Int) : List Int := if (vecOk xs && vecOk ys) = true then zipI f xs ys else []
theorem vecZip_no {f : Int → Int → Int} {xs ys : List Int} (h : (vecOk xs && vecOk ys) = false) : vecZip f xs ys = [] := by unfold vecZip; rw [h]; rfl
theorem vecZip_yes {f : Int → Int → Int} {xs ys : List Int} (h : (vecOk xs && vecOk ys) = true) : vecZip f xs ys = zipI f xs ys := by unfold vecZip; rw [if_pos h]

/-- The row of impl.VecMax (VecMin) when k of its cells are written. -/
def Mix (f : Int → Int → Int) (w wr : World) (g : Nat) (xs ys : List Int) (k : Nat) : Prop :=
  Below w.heap.size w wr ∧ w.heap.size ≤ g ∧ wr.heap[g + 1]? = some (.cells (ys.map (Value.int .i64)).toArray 130 (0, 0)) ∧
    ∃ cur : Array Value, wr.heap[g]? = some (.cells cur 130 (0, 0)) ∧ cur.size = 4 ∧ ∀ i, i < 4 → cur[i]? = some (.int .i64 (if i < k then f (xs.getD i 0) (ys.getD i 0) else xs.getD i 0))
theorem Mix.step {f : Int → Int → Int} {w wr : World} {g : Nat} {xs ys : List Int} {k : Nat} (h : Mix f w wr g xs ys k) (hk : k < 4) (n : Nat) : Mix f w ((wr.setCell ⟨g, k, none⟩ (.int .i64 (f (xs.getD k 0) (ys.getD k 0)))).drewN n) g xs ys (k + 1) := by
  obtain ⟨hb, hg0, hy, cur, hg, hs, hc⟩ := h
  refine ⟨(hb.setCell hg0 _).trans ⟨rfl, rfl, rfl, Nat.le_refl _, fun _ _ => rfl⟩, hg0, (heap_setCell_other _ _ _ _ (by show g + 1 ≠ g; omega)).trans hy, cur.setIfInBounds k (.int .i64 (f (xs.getD k 0) (ys.getD k 0))), heap_setCell_same _ _ _ _ _ _ hg, by simpa using hs, fun i hi => ?_⟩
  rw [Array.getElem?_setIfInBounds]
  by_cases e : k = i
  · subst e
    rw [if_pos rfl, if_pos (by omega), if_pos (by omega)]
  · rw [if_neg e, hc i hi]
    by_cases h2 : i < k
    · rw [if_pos h2, if_pos (by omega)]
    · rw [if_neg h2, if_neg (by omega)]


end Go.Proofs.Ytejhmakfbmhhhaa

namespace Go.Proofs.Ytejhmakfbmhhhaa
open Go.RowKit
set_option linter.unusedVariables false

/-- The row of x while raise (lower) goes: k of its cells are written. -/
def MixO (f : Int → Int → Int) (w wr : World) (gx gy : Nat) (xs ys : List Int) (k : Nat) : Prop :=
  Outside gx (gx + 1) w wr ∧ wr.heap[gy]? = some (.cells (ys.map (Value.int .i64)).toArray 130 (0, 0)) ∧
    ∃ cur : Array Value, wr.heap[gx]? = some (.cells cur 130 (0, 0)) ∧ cur.size = 4 ∧ ∀ i, i < 4 → cur[i]? = some (.int .i64 (if i < k then f (xs.getD i 0) (ys.getD i 0) else xs.getD i 0))
theorem MixO.step {f : Int → Int → Int} {w wr : World} {gx gy : Nat} {xs ys : List Int} {k : Nat} (h : MixO f w wr gx gy xs ys k) (hne : gy ≠ gx) (hk : k < 4) (n m : Nat) : MixO f w (((wr.drewN m).setCell ⟨gx, k, none⟩ (.int .i64 (f (xs.getD k 0) (ys.getD k 0)))).drewN n) gx gy xs ys (k + 1) := by
  obtain ⟨hb, hy, cur, hg, hs, hc⟩ := h
  refine ⟨⟨hb.os, hb.tape, hb.output, by simpa [World.setCell] using hb.size, fun i hi => (heap_setCell_other _ _ _ _ (by show i ≠ gx; omega)).trans (hb.block i hi)⟩, (heap_setCell_other _ _ _ _ (by show gy ≠ gx; exact hne)).trans hy, cur.setIfInBounds k (.int .i64 (f (xs.getD k 0) (ys.getD k 0))), heap_setCell_same _ _ _ _ _ _ hg, by simpa using hs, fun i hi => ?_⟩
  rw [Array.getElem?_setIfInBounds]
  by_cases e : k = i
  · subst e
    rw [if_pos rfl, if_pos (by omega), if_pos (by omega)]
  · rw [if_neg e, hc i hi]
    by_cases h2 : i < k
    · rw [if_pos h2, if_pos (by omega)]
    · rw [if_neg h2, if_neg (by omega)]
theorem MixO.done {f : Int → Int → Int} {w wr : World} {gx gy : Nat} {x0 x1 x2 x3 y0 y1 y2 y3 : Int} (h : MixO f w wr gx gy [x0, x1, x2, x3] [y0, y1, y2, y3] 4) : Outside gx (gx + 1) w wr ∧ wr.heap[gx]? = some (.cells (arr4 (f x0 y0) (f x1 y1) (f x2 y2) (f x3 y3)) 130 (0, 0)) := by
  obtain ⟨hb, _, cur, hg, hs, hc⟩ := h
  refine ⟨hb, ?_⟩
  rw [hg]
  congr 2
  apply Array.ext_getElem?
  intro i
  match i with
  | 0 => exact hc 0 (by omega)
  | 1 => exact hc 1 (by omega)
  | 2 => exact hc 2 (by omega)
  | 3 => exact hc 3 (by omega)
  | i + 4 => rw [Array.getElem?_eq_none (by omega), Array.getElem?_eq_none (by show 4 ≤ i + 4; omega)]

set_option maxRecDepth 100000 in
set_option maxHeartbeats 5000000 in
theorem implLower (w : World) (gx gy : Nat) (x0 x1 x2 x3 y0 y1 y2 y3 : Int) (hx : w.heap[gx]? = some (.cells (arr4 x0 x1 x2 x3) 130 (0, 0))) (hy : w.heap[gy]? = some (.cells (arr4 y0 y1 y2 y3) 130 (0, 0))) (hne : gy ≠ gx) :
    Calls Try.prog 59 #[.pointer (some ⟨gx, 0, none⟩), .pointer (some ⟨gy, 0, none⟩)] w fun e w' => e = .returned (.tuple #[]) ∧ Outside gx (gx + 1) w w' ∧ w'.heap[gx]? = some (.cells (arr4 (min x0 y0) (min x1 y1) (min x2 y2) (min x3 y3)) 130 (0, 0)) := by
  have HM : Hid (MixO min w w gx gy [x0, x1, x2, x3] [y0, y1, y2, y3] 0) := by
    refine ⟨⟨rfl, rfl, rfl, rfl, fun _ _ => rfl⟩, hy, arr4 x0 x1 x2 x3, hx, rfl, fun i hi => ?_⟩
    rw [if_neg (by omega)]; exact arr4_at hi
  clear hx hy
  go_enter Try.func59, Try.ntmps59
  go_wp2
  go_loopw [4, 5, 7] (fun _ _ i wr => ∃ k : Nat, k ≤ 4 ∧ i = .int .i64 k ∧ Hid (MixO min w wr gx gy [x0, x1, x2, x3] [y0, y1, y2, y3] k)) (fun _ _ i _ => 4 - (intOf i).toNat)
  case atStart => exact ⟨0, by omega, rfl, HM⟩
  case round =>
    obtain ⟨k, hk, rfl, HP⟩ := hrel
    by_cases hlt : k < 4
    · have hki : (k : Int) < 4 := by omega
      have hk0 : (0 : Int) ≤ (k : Int) := by omega
      obtain ⟨x, hx⟩ : ∃ x, x = [x0, x1, x2, x3].getD k 0 := ⟨_, rfl⟩
      obtain ⟨y, hy⟩ : ∃ y, y = [y0, y1, y2, y3].getD k 0 := ⟨_, rfl⟩
      have HS : Hid (∀ n m, MixO min w (((wr.drewN m).setCell ⟨gx, k, none⟩ (.int .i64 (min x y))).drewN n) gx gy [x0, x1, x2, x3] [y0, y1, y2, y3] (k + 1)) := by rw [hx, hy]; exact fun n m => HP.out.step hne hlt n m
      obtain ⟨_, hyb, cur, hg, hcs, hc⟩ := HP.out
      have c1 : wr.cell? ⟨gx, k, none⟩ = some (.int .i64 x) := by rw [cell_of_row _ _ _ _ _ _ hg, hc k hlt, if_neg (by omega), hx]
      have c2 : wr.cell? ⟨gy, k, none⟩ = some (.int .i64 y) := by
        rw [cell_of_row _ _ _ _ _ _ hyb, hy]
        exact arr4_at hlt
      have hf : wr.frozen? ⟨gx, k, none⟩ = false := frozen_of_row _ _ _ _ _ hg
      clear hx hy hyb hg hcs hc HM
      go_wp2
      go_region
      go_wp2
      go_region
      go_wp2
      go_roundw
      case rel => exact ⟨k + 1, by omega, by go_num, HS.out 1 1⟩
      case measure => simp [intOf]; omega
    · obtain rfl : k = 4 := by omega
      have HE := Lib.hid HP.out.done
      go_wp2
      exact bodyPost_end (v := .tuple #[]) (by simp [results, Try.results59, go_sem]) rfl ⟨rfl, HE.out.1, HE.out.2⟩


set_option maxRecDepth 100000 in
set_option maxHeartbeats 5000000 in
theorem specMaxYes (w : World) (B B' : Nat) (a a' : Option Addr) (cap cap' : Nat) (xs ys : List Int) (h : Ints w B a 4 xs) (h' : Ints w B' a' 4 ys) (hB : B ≤ w.heap.size) (hB' : B' ≤ w.heap.size) (hk : vecOk xs = true) (hk' : vecOk ys = true) :
    Calls Try.prog 117 #[.slice a 4 cap, .slice a' 4 cap'] w (OwnPostC (zipI max xs ys) w) := by
  obtain ⟨i0, hi, hz0, hz1, hz2⟩ := info_parts Try.infoI64
  have hbA : Below w.heap.size w (w.alloc (.cells #[] 2)) := (Below.refl _ w).alloc (Nat.le_refl _) _
  have H := Lib.hid h
  have H' := Lib.hid h'
  have HA := Lib.hid (h.below hbA hB)
  have HA' := Lib.hid (h'.below hbA hB')
  have HK := Lib.hid hk
  have HK' := Lib.hid hk'
  have hown := Lib.hid (World.ownsRow_made (e := 2) (size := 1) w #[] 0 (Nat.le_refl w.heap.size) (by unfold maxLen; omega) rfl)
  have HbA := Lib.hid hbA
  clear h h' hk hk' hbA
  go_enter Try.func117, Try.ntmps117
  go_wp2_with fail
  refine (specVecOk _ B a 4 cap xs (by exact HA.out) (by omega)).mono ?_
  rintro e w1 ⟨rfl, rfl⟩
  rw [HK.out]
  go_wp2_with fail
  refine (specVecOk _ B' a' 4 cap' ys (by exact HA'.out) (by omega)).mono ?_
  rintro e w1 ⟨rfl, rfl⟩
  rw [HK'.out]
  go_wp2
  go_loopw [5, 6] (fun v i wr => ∃ k : Nat, k ≤ 4 ∧ i = .int .i64 k ∧ Hid (wr.ownsRow w.heap.size 2 1 v k (((zipI max xs ys).take k).map (Value.int .i64))) ∧ Below w.heap.size w wr) (fun _ i _ => 4 - (intOf i).toNat)
  case atStart => exact ⟨0, by omega, rfl, hown.out, HbA.out⟩
  case round =>
    obtain ⟨k, hk, rfl, HO, hbr⟩ := hrel
    have hs := hbr.size
    by_cases hlt : k < 4
    · obtain ⟨b, off, rfl, hb, c1⟩ := H.out.2 k hlt
      obtain ⟨b', off', rfl, hb', c2⟩ := H'.out.2 k hlt
      have c1' := (hbr.cell (p := ⟨b, off + k, none⟩) (by show b < w.heap.size; omega)).trans c1
      have c2' := (hbr.cell (p := ⟨b', off' + k, none⟩) (by show b' < w.heap.size; omega)).trans c2
      obtain ⟨x, hx⟩ : ∃ x, x = xs.getD k 0 := ⟨_, rfl⟩
      obtain ⟨y, hy⟩ : ∃ y, y = ys.getD k 0 := ⟨_, rfl⟩
      rw [← hx] at c1'
      rw [← hy] at c2'
      have HZ : Hid ((zipI max xs ys).take (k + 1) = (zipI max xs ys).take k ++ [max x y]) := by rw [hx, hy]; exact zipI_take _ _ _ _ (by rw [H.out.1]; exact hlt) (by rw [H'.out.1]; exact hlt)
      have hki : (k : Int) < 4 := by omega
      have hk0 : (0 : Int) ≤ (k : Int) := by omega
      clear hx hy c1 c2
      go_wp2_with fail
      have hne1 : ∀ v : Value, wr.ownsRow w.heap.size 2 1 v k (((zipI max xs ys).take k).map (Value.int .i64)) → some b ≠ v.ownBlock := fun v hv e => by have := (hv.lt b e.symm).1; omega
      have hne2 : ∀ v : Value, wr.ownsRow w.heap.size 2 1 v k (((zipI max xs ys).take k).map (Value.int .i64)) → some b' ≠ v.ownBlock := fun v hv e => by have := (hv.lt b' e.symm).1; omega
      have HN1 := Lib.hid (hne1 _ HO.out)
      have HN2 := Lib.hid (hne2 _ HO.out)
      have hbw : b < wr.heap.size := by omega
      have hbw' : b' < wr.heap.size := by omega
      clear hne1 hne2
      go_region_held3 (fun w' => w'.cell? ⟨b, off + k, none⟩ = some (.int .i64 x) ∧ w'.cell? ⟨b', off' + k, none⟩ = some (.int .i64 y)) (first | go_keep | exact ⟨keep_cell hgrow hbw HN1.out c1', keep_cell hgrow hbw' HN2.out c2'⟩)
        ((refine step_append_lies _ (by rfl) _ _ _ (by rfl) w.heap.size 2 i0 _ 1 8 Try.underlying28 hi hz0 hz1 hz2 rfl (by omega) _ k _ (by rfl) ((HO.out.alloc _).drew) ⟨wr.heap.size, 0, none⟩ 1 1 [.int .i64 (max x y)] (by rfl) (by rfl) (World.news_of_block (cs := #[.int .i64 (max x y)]) (t := 2) (fr := (0, 0)) (heap_alloc_new wr _)) (by simp [Value.oneCell']) (by omega) (by unfold maxLen; omega) (by omega) (by simp; omega) (wr.heap.size + 1) (by simp) ?_; intro gg cap1 w1 hown1 hgrow hat hlt1))
      have HO1 := Lib.hid (p := w1.ownsRow w.heap.size 2 1 (.slice (some ⟨gg, 0, none⟩) (k + 1) cap1) (k + 1) (((zipI max xs ys).take (k + 1)).map (Value.int .i64))) (by rw [HZ.out]; simpa using hown1)
      have hb1 := (hbr.alloc hs (.cells #[.int .i64 (max x y)] 2)).drew.grown hgrow (by simp; omega) (fun j hj => (HO.out.lt j hj).1)
      clear hown1 hgrow hat
      go_wp2
      go_roundw
      case rel => exact ⟨k + 1, by omega, by go_num, HO1, hb1⟩
      case measure => simp [intOf]; omega
    · obtain rfl : k = 4 := by omega
      have hzl : (zipI max xs ys).length = 4 := by unfold zipI; rw [List.length_zipWith, H.out.1, H'.out.1]; rfl
      have ho := HO.out
      rw [List.take_of_length_le (by omega)] at ho
      obtain ⟨g, c, hv, _, _⟩ := ho.form (by omega)
      subst hv
      have HP := Lib.hid (own_of_row (hi := wr.heap.size) ho (Nat.le_refl _))
      have HL := Lib.hid hzl
      have HCp := Lib.hid (caps_of_row ho)
      clear ho hzl
      go_wp2
      go_ret
      exact ⟨some ⟨g, 0, none⟩, c, by rw [HL.out]; rfl, by rw [HL.out]; exact HP.out, hbr, by rw [HL.out]; exact HCp.out⟩

set_option maxRecDepth 100000 in
theorem specMaxNo (w : World) (B B' : Nat) (a a' : Option Addr) (len cap len' cap' : Nat) (xs ys : List Int) (h : Ints w B a len xs) (h' : Ints w B' a' len' ys) (hB : B ≤ w.heap.size) (hB' : B' ≤ w.heap.size) (hl : len ≤ 1048576) (hl' : len' ≤ 1048576)
    (ok ok' : Bool) (hk : vecOk xs = ok) (hk' : vecOk ys = ok') (hno : (ok && ok') = false) :
    Calls Try.prog 117 #[.slice a len cap, .slice a' len' cap'] w (OwnPostC [] w) := by
  have hbA : Below w.heap.size w (w.alloc (.cells #[] 2)) := (Below.refl _ w).alloc (Nat.le_refl _) _
  have HA := Lib.hid (h.below hbA hB)
  have HA' := Lib.hid (h'.below hbA hB')
  have HK := Lib.hid hk
  have HK' := Lib.hid hk'
  have HbA := Lib.hid hbA
  clear h h' hk hk' hbA
  cases ok
  · clear hno
    go_enter Try.func117, Try.ntmps117
    go_wp2_with fail
    refine (specVecOk _ B a len cap xs (by exact HA.out) hl).mono ?_
    rintro e w1 ⟨rfl, rfl⟩
    rw [HK.out]
    go_wp2
    go_ret
    exact ⟨some ⟨w.heap.size, 0, none⟩, 0, rfl, ⟨rfl, fun hn => absurd hn (by simp)⟩, HbA.out, caps_zero _⟩
  · cases ok'
    · clear hno
      go_enter Try.func117, Try.ntmps117
      go_wp2_with fail
      refine (specVecOk _ B a len cap xs (by exact HA.out) hl).mono ?_
      rintro e w1 ⟨rfl, rfl⟩
      rw [HK.out]
      go_wp2_with fail
      refine (specVecOk _ B' a' len' cap' ys (by exact HA'.out) hl').mono ?_
      rintro e w1 ⟨rfl, rfl⟩
      rw [HK'.out]
      go_wp2
      go_ret
      exact ⟨some ⟨w.heap.size, 0, none⟩, 0, rfl, ⟨rfl, fun hn => absurd hn (by simp)⟩, HbA.out, caps_zero _⟩
    · cases hno

theorem specMaxC (w : World) (B B' : Nat) (a a' : Option Addr) (len cap len' cap' : Nat) (xs ys : List Int) (h : Ints w B a len xs) (h' : Ints w B' a' len' ys) (hB : B ≤ w.heap.size) (hB' : B' ≤ w.heap.size) (hl : len ≤ 1048576) (hl' : len' ≤ 1048576) :
    Calls Try.prog 117 #[.slice a len cap, .slice a' len' cap'] w (OwnPostC (vecZip max xs ys) w) := by
  cases hk : vecOk xs && vecOk ys
  · rw [vecZip_no hk]
    exact specMaxNo w B B' a a' len cap len' cap' xs ys h h' hB hB' hl hl' _ _ rfl rfl hk
  · rw [vecZip_yes hk]
    rw [Bool.and_eq_true] at hk
    obtain ⟨x0, x1, x2, x3, hx⟩ := four hk.1
    obtain ⟨y0, y1, y2, y3, hy⟩ := four hk.2
    obtain rfl : len = 4 := h.1.symm.trans (by rw [hx]; rfl)
    obtain rfl : len' = 4 := h'.1.symm.trans (by rw [hy]; rfl)
    exact specMaxYes w B B' a a' cap cap' xs ys h h' hB hB' hk.1 hk.2
theorem specMax (w : World) (B B' : Nat) (a a' : Option Addr) (len cap len' cap' : Nat) (xs ys : List Int) (h : Ints w B a len xs) (h' : Ints w B' a' len' ys) (hB : B ≤ w.heap.size) (hB' : B' ≤ w.heap.size) (hl : len ≤ 1048576) (hl' : len' ≤ 1048576) :
    Calls Try.prog 117 #[.slice a len cap, .slice a' len' cap'] w (OwnPost (vecZip max xs ys) w) :=
  (specMaxC w B B' a a' len cap len' cap' xs ys h h' hB hB' hl hl').mono fun _ _ ⟨a, c, h1, h2, h3, _⟩ => ⟨a, c, h1, h2, h3⟩
end Go.Proofs.Ytejhmakfbmhhhaa

namespace Go.Proofs.Ytejhmakfbmhhhaa
open Go.RowKit

theorem cart_true {xs : List Int} {l : List OpV} (h : cartB xs l = true) : vecOk xs = true ∧ (∀ d, d < 4 → devB xs l d = true) ∧ stOf xs 4 = l.length := by
  unfold cartB at h
  simp only [Bool.and_eq_true, List.all_eq_true, decide_eq_true_eq] at h
  exact ⟨h.1, fun d hd => h.2.1 d (by simpa using hd), h.2.2⟩
theorem stOf_le {xs : List Int} (h : vecOk xs = true) : ∀ d, d ≤ 4 → stOf xs d ≤ 40 * d
  | 0, _ => Nat.le_refl _
  | d + 1, hd => by
    have h1 := stOf_le h d (by omega)
    have h2 := vec_at h (d := d) (by omega)
    show stOf xs d + (xs.getD d 0).toNat ≤ _
    omega
theorem stOf_mono (xs : List Int) : ∀ d e, d ≤ e → stOf xs d ≤ stOf xs e
  | d, 0, h => by obtain rfl : d = 0 := by omega
                  exact Nat.le_refl _
  | d, e + 1, h => by
    rcases Nat.lt_or_ge d (e + 1) with h1 | h1
    · exact Nat.le_trans (stOf_mono xs d e (by omega)) (Nat.le_add_right _ _)
    · obtain rfl : d = e + 1 := by omega
      exact Nat.le_refl _


theorem filt_step {q : OpV → Bool} {l : List OpV} {k : Nat} (hk : k < l.length) : (l.take (k + 1)).filter q = if q (atOp l k) = true then (l.take k).filter q ++ [atOp l k] else (l.take k).filter q := by
  have e : l[k] = atOp l k := by unfold atOp; rw [List.getD_eq_getElem?_getD, List.getElem?_eq_getElem hk]; rfl
  rw [List.take_succ_eq_append_getElem hk, List.filter_append, e]
  by_cases h : q (atOp l k) = true
  · rw [if_pos h, List.filter_cons_of_pos h]; rfl
  · rw [if_neg h, List.filter_cons_of_neg h]; simp
end Go.Proofs.Ytejhmakfbmhhhaa

namespace Go.Proofs.Ytejhmakfbmhhhaa
open Go.RowKit

end Go.Proofs.Ytejhmakfbmhhhaa

namespace Go.Proofs.Ytejhmakfbmhhhaa
open Go.RowKit

end Go.Proofs.Ytejhmakfbmhhhaa

namespace Go.Proofs.Ytejhmakfbmhhhaa
open Go.RowKit

set_option maxRecDepth 100000 in
set_option maxHeartbeats 5000000 in
theorem specMinYes (w : World) (B B' : Nat) (a a' : Option Addr) (cap cap' : Nat) (xs ys : List Int) (h : Ints w B a 4 xs) (h' : Ints w B' a' 4 ys) (hB : B ≤ w.heap.size) (hB' : B' ≤ w.heap.size) (hk : vecOk xs = true) (hk' : vecOk ys = true) :
    Calls Try.prog 61 #[.slice a 4 cap, .slice a' 4 cap'] w (OwnPost (zipI min xs ys) w) := by
  obtain ⟨i0, hi, hz0, hz1, hz2⟩ := info_parts Try.infoI64
  have hbA : Below w.heap.size w (w.alloc (.cells #[] 2)) := (Below.refl _ w).alloc (Nat.le_refl _) _
  have H := Lib.hid h
  have H' := Lib.hid h'
  have HA := Lib.hid (h.below hbA hB)
  have HA' := Lib.hid (h'.below hbA hB')
  have HK := Lib.hid hk
  have HK' := Lib.hid hk'
  have hown := Lib.hid (World.ownsRow_made (e := 2) (size := 1) w #[] 0 (Nat.le_refl w.heap.size) (by unfold maxLen; omega) rfl)
  have HbA := Lib.hid hbA
  clear h h' hk hk' hbA
  go_enter Try.func61, Try.ntmps61
  go_wp2_with fail
  refine (specVecOk _ B a 4 cap xs (by exact HA.out) (by omega)).mono ?_
  rintro e w1 ⟨rfl, rfl⟩
  rw [HK.out]
  go_wp2_with fail
  refine (specVecOk _ B' a' 4 cap' ys (by exact HA'.out) (by omega)).mono ?_
  rintro e w1 ⟨rfl, rfl⟩
  rw [HK'.out]
  go_wp2
  go_loopw [5, 6] (fun v i wr => ∃ k : Nat, k ≤ 4 ∧ i = .int .i64 k ∧ Hid (wr.ownsRow w.heap.size 2 1 v k (((zipI min xs ys).take k).map (Value.int .i64))) ∧ Below w.heap.size w wr) (fun _ i _ => 4 - (intOf i).toNat)
  case atStart => exact ⟨0, by omega, rfl, hown.out, HbA.out⟩
  case round =>
    obtain ⟨k, hk, rfl, HO, hbr⟩ := hrel
    have hs := hbr.size
    by_cases hlt : k < 4
    · obtain ⟨b, off, rfl, hb, c1⟩ := H.out.2 k hlt
      obtain ⟨b', off', rfl, hb', c2⟩ := H'.out.2 k hlt
      have c1' := (hbr.cell (p := ⟨b, off + k, none⟩) (by show b < w.heap.size; omega)).trans c1
      have c2' := (hbr.cell (p := ⟨b', off' + k, none⟩) (by show b' < w.heap.size; omega)).trans c2
      obtain ⟨x, hx⟩ : ∃ x, x = xs.getD k 0 := ⟨_, rfl⟩
      obtain ⟨y, hy⟩ : ∃ y, y = ys.getD k 0 := ⟨_, rfl⟩
      rw [← hx] at c1'
      rw [← hy] at c2'
      have HZ : Hid ((zipI min xs ys).take (k + 1) = (zipI min xs ys).take k ++ [min x y]) := by rw [hx, hy]; exact zipI_take _ _ _ _ (by rw [H.out.1]; exact hlt) (by rw [H'.out.1]; exact hlt)
      have hki : (k : Int) < 4 := by omega
      have hk0 : (0 : Int) ≤ (k : Int) := by omega
      clear hx hy c1 c2
      go_wp2_with fail
      have hne1 : ∀ v : Value, wr.ownsRow w.heap.size 2 1 v k (((zipI min xs ys).take k).map (Value.int .i64)) → some b ≠ v.ownBlock := fun v hv e => by have := (hv.lt b e.symm).1; omega
      have hne2 : ∀ v : Value, wr.ownsRow w.heap.size 2 1 v k (((zipI min xs ys).take k).map (Value.int .i64)) → some b' ≠ v.ownBlock := fun v hv e => by have := (hv.lt b' e.symm).1; omega
      have HN1 := Lib.hid (hne1 _ HO.out)
      have HN2 := Lib.hid (hne2 _ HO.out)
      have hbw : b < wr.heap.size := by omega
      have hbw' : b' < wr.heap.size := by omega
      clear hne1 hne2
      go_region_held3 (fun w' => w'.cell? ⟨b, off + k, none⟩ = some (.int .i64 x) ∧ w'.cell? ⟨b', off' + k, none⟩ = some (.int .i64 y)) (first | go_keep | exact ⟨keep_cell hgrow hbw HN1.out c1', keep_cell hgrow hbw' HN2.out c2'⟩)
        ((refine step_append_lies _ (by rfl) _ _ _ (by rfl) w.heap.size 2 i0 _ 1 8 Try.underlying28 hi hz0 hz1 hz2 rfl (by omega) _ k _ (by rfl) ((HO.out.alloc _).drew) ⟨wr.heap.size, 0, none⟩ 1 1 [.int .i64 (min x y)] (by rfl) (by rfl) (World.news_of_block (cs := #[.int .i64 (min x y)]) (t := 2) (fr := (0, 0)) (heap_alloc_new wr _)) (by simp [Value.oneCell']) (by omega) (by unfold maxLen; omega) (by omega) (by simp; omega) (wr.heap.size + 1) (by simp) ?_; intro gg cap1 w1 hown1 hgrow hat hlt1))
      have HO1 := Lib.hid (p := w1.ownsRow w.heap.size 2 1 (.slice (some ⟨gg, 0, none⟩) (k + 1) cap1) (k + 1) (((zipI min xs ys).take (k + 1)).map (Value.int .i64))) (by rw [HZ.out]; simpa using hown1)
      have hb1 := (hbr.alloc hs (.cells #[.int .i64 (min x y)] 2)).drew.grown hgrow (by simp; omega) (fun j hj => (HO.out.lt j hj).1)
      clear hown1 hgrow hat
      go_wp2
      go_roundw
      case rel => exact ⟨k + 1, by omega, by go_num, HO1, hb1⟩
      case measure => simp [intOf]; omega
    · obtain rfl : k = 4 := by omega
      have hzl : (zipI min xs ys).length = 4 := by unfold zipI; rw [List.length_zipWith, H.out.1, H'.out.1]; rfl
      have ho := HO.out
      rw [List.take_of_length_le (by omega)] at ho
      obtain ⟨g, c, hv, _, _⟩ := ho.form (by omega)
      subst hv
      have HP := Lib.hid (own_of_row (hi := wr.heap.size) ho (Nat.le_refl _))
      have HL := Lib.hid hzl
      clear ho hzl
      go_wp2
      go_ret
      exact ⟨some ⟨g, 0, none⟩, c, by rw [HL.out]; rfl, by rw [HL.out]; exact HP.out, hbr⟩

set_option maxRecDepth 100000 in
theorem specMinNo (w : World) (B B' : Nat) (a a' : Option Addr) (len cap len' cap' : Nat) (xs ys : List Int) (h : Ints w B a len xs) (h' : Ints w B' a' len' ys) (hB : B ≤ w.heap.size) (hB' : B' ≤ w.heap.size) (hl : len ≤ 1048576) (hl' : len' ≤ 1048576)
    (ok ok' : Bool) (hk : vecOk xs = ok) (hk' : vecOk ys = ok') (hno : (ok && ok') = false) :
    Calls Try.prog 61 #[.slice a len cap, .slice a' len' cap'] w (OwnPost [] w) := by
  have hbA : Below w.heap.size w (w.alloc (.cells #[] 2)) := (Below.refl _ w).alloc (Nat.le_refl _) _
  have HA := Lib.hid (h.below hbA hB)
  have HA' := Lib.hid (h'.below hbA hB')
  have HK := Lib.hid hk
  have HK' := Lib.hid hk'
  have HbA := Lib.hid hbA
  clear h h' hk hk' hbA
  cases ok
  · clear hno
    go_enter Try.func61, Try.ntmps61
    go_wp2_with fail
    refine (specVecOk _ B a len cap xs (by exact HA.out) hl).mono ?_
    rintro e w1 ⟨rfl, rfl⟩
    rw [HK.out]
    go_wp2
    go_ret
    exact ⟨some ⟨w.heap.size, 0, none⟩, 0, rfl, ⟨rfl, fun hn => absurd hn (by simp)⟩, HbA.out⟩
  · cases ok'
    · clear hno
      go_enter Try.func61, Try.ntmps61
      go_wp2_with fail
      refine (specVecOk _ B a len cap xs (by exact HA.out) hl).mono ?_
      rintro e w1 ⟨rfl, rfl⟩
      rw [HK.out]
      go_wp2_with fail
      refine (specVecOk _ B' a' len' cap' ys (by exact HA'.out) hl').mono ?_
      rintro e w1 ⟨rfl, rfl⟩
      rw [HK'.out]
      go_wp2
      go_ret
      exact ⟨some ⟨w.heap.size, 0, none⟩, 0, rfl, ⟨rfl, fun hn => absurd hn (by simp)⟩, HbA.out⟩
    · cases hno

theorem specMin (w : World) (B B' : Nat) (a a' : Option Addr) (len cap len' cap' : Nat) (xs ys : List Int) (h : Ints w B a len xs) (h' : Ints w B' a' len' ys) (hB : B ≤ w.heap.size) (hB' : B' ≤ w.heap.size) (hl : len ≤ 1048576) (hl' : len' ≤ 1048576) :
    Calls Try.prog 61 #[.slice a len cap, .slice a' len' cap'] w (OwnPost (vecZip min xs ys) w) := by
  cases hk : vecOk xs && vecOk ys
  · rw [vecZip_no hk]
    exact specMinNo w B B' a a' len cap len' cap' xs ys h h' hB hB' hl hl' _ _ rfl rfl hk
  · rw [vecZip_yes hk]
    rw [Bool.and_eq_true] at hk
    obtain ⟨x0, x1, x2, x3, hx⟩ := four hk.1
    obtain ⟨y0, y1, y2, y3, hy⟩ := four hk.2
    obtain rfl : len = 4 := h.1.symm.trans (by rw [hx]; rfl)
    obtain rfl : len' = 4 := h'.1.symm.trans (by rw [hy]; rfl)
    exact specMinYes w B B' a a' cap cap' xs ys h h' hB hB' hk.1 hk.2

set_option maxRecDepth 100000 in
set_option maxHeartbeats 5000000 in
theorem implMinYes (w : World) (B : Nat) (a a' : Option Addr) (cap cap' : Nat) (x0 x1 x2 x3 y0 y1 y2 y3 : Int) (h : Ints w B a 4 [x0, x1, x2, x3]) (h' : Ints w B a' 4 [y0, y1, y2, y3]) (hB : B ≤ w.heap.size)
    (hok : vecOk [x0, x1, x2, x3] = true) (hok' : vecOk [y0, y1, y2, y3] = true) :
    Calls Try.prog 65 #[.slice a 4 cap, .slice a' 4 cap'] w (OwnPost (zipI min [x0, x1, x2, x3] [y0, y1, y2, y3]) w) := by
  go_enter Try.func65, Try.ntmps65
  go_wp2_with fail
  refine (vectorsOfYes w B a a' cap cap' x0 x1 x2 x3 y0 y1 y2 y3 h h' hB hok hok').mono ?_
  rintro e w1 ⟨rfl, hb1⟩
  have hs1 := hb1.size
  clear h h' hok hok'
  go_wp2_with fail
  refine (implLower _ w1.heap.size (w1.heap.size + 1) x0 x1 x2 x3 y0 y1 y2 y3 (heap_alloc2_old _ _ _) (heap_alloc2_new _ _ _) (by omega)).mono ?_
  rintro e w3 ⟨rfl, hO, hx⟩
  have hb3 : Below w1.heap.size w1 w3 := (((Below.refl _ w1).alloc (Nat.le_refl _) _).alloc (by simp) _).trans (hO.below (Nat.le_refl _))
  have hbr : Below w.heap.size w w3 := hb1.trans (hb3.mono hs1)
  obtain ⟨⟨d0, d1, d2, d3⟩, _⟩ := cells4 hx
  have hs := hbr.size
  have hs3 := hb3.size
  clear hx hO hb1
  go_wp2_with fail
  refine (vlist w3 (min x0 y0) (min x1 y1) (min x2 y2) (min x3 y3)).mono ?_
  rintro e w2 ⟨ao, co, rfl, ho, hb2⟩
  clear d0 d1 d2 d3
  go_wp2
  go_ret
  exact ⟨ao, co, rfl, ho.more hs (Nat.le_refl _), hbr.trans (hb2.mono hs)⟩


set_option maxRecDepth 100000 in
theorem implMinNo (w : World) (B : Nat) (a a' : Option Addr) (len cap len' cap' : Nat) (xs ys : List Int) (h : Ints w B a len xs) (h' : Ints w B a' len' ys) (hB : B ≤ w.heap.size) (hl : len ≤ 1048576) (hl' : len' ≤ 1048576)
    (hno : (vecOk xs && vecOk ys) = false) :
    Calls Try.prog 65 #[.slice a len cap, .slice a' len' cap'] w (OwnPost [] w) := by
  go_enter Try.func65, Try.ntmps65
  go_wp2_with fail
  refine (vectorsOfNo w B a a' len cap len' cap' xs ys h h' hB hl hl' _ _ rfl rfl hno).mono ?_
  rintro e w1 ⟨rfl, hb1⟩
  have hs1 := hb1.size
  clear h h' hno
  go_wp2
  go_ret
  exact ⟨none, 0, rfl, ⟨rfl, fun hn => absurd hn (by simp)⟩, (hb1.alloc hs1 _).alloc (by simp; omega) _⟩

theorem implMin (w : World) (B : Nat) (a a' : Option Addr) (len cap len' cap' : Nat) (xs ys : List Int) (h : Ints w B a len xs) (h' : Ints w B a' len' ys) (hB : B ≤ w.heap.size) (hl : len ≤ 1048576) (hl' : len' ≤ 1048576) :
    Calls Try.prog 65 #[.slice a len cap, .slice a' len' cap'] w (OwnPost (vecZip min xs ys) w) := by
  cases hk : vecOk xs && vecOk ys
  · rw [vecZip_no hk]
    exact implMinNo w B a a' len cap len' cap' xs ys h h' hB hl hl' hk
  · rw [vecZip_yes hk]
    rw [Bool.and_eq_true] at hk
    obtain ⟨x0, x1, x2, x3, rfl⟩ := four hk.1
    obtain ⟨y0, y1, y2, y3, rfl⟩ := four hk.2
    obtain rfl : len = 4 := h.1.symm
    obtain rfl : len' = 4 := h'.1.symm
    exact implMinYes w B a a' cap cap' x0 x1 x2 x3 y0 y1 y2 y3 h h' hB hk.1 hk.2
end Go.Proofs.Ytejhmakfbmhhhaa

namespace Go.Proofs.Ytejhmakfbmhhhaa
open Go.RowKit
set_option linter.unusedVariables false

def rowOf (l : List (List Int)) (i : Nat) : List Int := l.getD i []
/-- A slice of slices of int64 that reads as the list l; all its cells lie below block B. -/
def IRows (w : World) (B : Nat) (a : Option Addr) (n : Nat) (l : List (List Int)) : Prop :=
  l.length = n ∧ ∀ i, i < n → ∃ b off ai ci, a = some ⟨b, off, none⟩ ∧ b < B ∧ w.cell? ⟨b, off + i, none⟩ = some (.slice ai (rowOf l i).length ci) ∧ Ints w B ai (rowOf l i).length (rowOf l i)
theorem IRows.kept {w w' : World} {B : Nat} {a : Option Addr} {n : Nat} {l : List (List Int)} (h : IRows w B a n l) (hk : ∀ k, k < B → w'.heap[k]? = w.heap[k]?) : IRows w' B a n l :=
  ⟨h.1, fun i hi => by
    obtain ⟨b, off, ai, ci, e, hb, hc, hx⟩ := h.2 i hi
    exact ⟨b, off, ai, ci, e, hb, (World.cell?_of_block (hk b hb)).trans hc, hx.kept hk⟩⟩
theorem IRows.below {w w' : World} {B B' : Nat} {a : Option Addr} {n : Nat} {l : List (List Int)} (h : IRows w B a n l) (hb : Below B' w w') (hB : B ≤ B') : IRows w' B a n l :=
  h.kept fun k hk => hb.block k (by omega)
theorem IRows.more {w : World} {B B' : Nat} {a : Option Addr} {n : Nat} {l : List (List Int)} (h : IRows w B a n l) (hB : B ≤ B') : IRows w B' a n l :=
  ⟨h.1, fun i hi => by
    obtain ⟨b, off, ai, ci, e, hb, hc, hx⟩ := h.2 i hi
    exact ⟨b, off, ai, ci, e, by omega, hc, hx.more hB⟩⟩
/-- A slice of slices whose row and whose rows' rows, if they have elements, are blocks between lo and hi. -/
def ORows (w : World) (lo hi : Nat) (a : Option Addr) (n : Nat) (l : List (List Int)) : Prop :=
  l.length = n ∧ (0 < n → ∃ g cs, a = some ⟨g, 0, none⟩ ∧ lo ≤ g ∧ g < hi ∧ w.heap[g]? = some (.cells cs 28 (0, 0)) ∧ n ≤ cs.size ∧ ∀ i, i < n → ∃ ai ci, cs[i]? = some (.slice ai (rowOf l i).length ci) ∧ Own w lo hi ai (rowOf l i).length (rowOf l i))
theorem ORows.irows {w : World} {lo hi : Nat} {a : Option Addr} {n : Nat} {l : List (List Int)} (h : ORows w lo hi a n l) : IRows w hi a n l :=
  ⟨h.1, fun i hi' => by
    obtain ⟨g, cs, e, _, h2, hg, _, hc⟩ := h.2 (by omega)
    obtain ⟨ai, ci, hci, ho⟩ := hc i hi'
    exact ⟨g, 0, ai, ci, e, h2, by rw [Nat.zero_add]; exact (cell_of_row _ _ _ _ _ _ hg).trans hci, ho.ints⟩⟩
theorem ORows.kept {w w' : World} {lo hi : Nat} {a : Option Addr} {n : Nat} {l : List (List Int)} (h : ORows w lo hi a n l) (hk : ∀ j, lo ≤ j → j < hi → w'.heap[j]? = w.heap[j]?) : ORows w' lo hi a n l :=
  ⟨h.1, fun hn => by
    obtain ⟨g, cs, e, h1, h2, hg, hs, hc⟩ := h.2 hn
    refine ⟨g, cs, e, h1, h2, (hk g h1 h2).trans hg, hs, fun i hi' => ?_⟩
    obtain ⟨ai, ci, hci, ho⟩ := hc i hi'
    exact ⟨ai, ci, hci, ho.kept hk⟩⟩
theorem ORows.below {w w' : World} {lo hi B : Nat} {a : Option Addr} {n : Nat} {l : List (List Int)} (h : ORows w lo hi a n l) (hb : Below B w w') (hB : hi ≤ B) : ORows w' lo hi a n l :=
  h.kept fun j _ h2 => hb.block j (by omega)

theorem take_row (l : List (List Int)) (k : Nat) (h : k < l.length) : l.take (k + 1) = l.take k ++ [rowOf l k] := by
  rw [List.take_succ_eq_append_getElem h]
  unfold rowOf
  rw [List.getD_eq_getElem?_getD, List.getElem?_eq_getElem h]; rfl
theorem row_mem {l : List (List Int)} {k : Nat} (h : k < l.length) : rowOf l k ∈ l := by
  unfold rowOf
  rw [List.getD_eq_getElem?_getD, List.getElem?_eq_getElem h]
  exact List.getElem_mem h

/-- Are these rows of a table of what each device has seen? -/
def ackOk (l : List (List Int)) : Bool := l.all vecOk && decide (l.length = 4)
theorem ack_len {l : List (List Int)} (h : l.length ≠ 4) : ackOk l = false := by unfold ackOk; rw [decide_eq_false h, Bool.and_false]
theorem ack_stop {l : List (List Int)} {k : Nat} (hk : k < l.length) (h : vecOk (rowOf l k) = false) : ackOk l = false := by
  unfold ackOk
  have : l.all vecOk = false := by
    rw [← Bool.not_eq_true]
    intro e
    rw [List.all_eq_true] at e
    rw [e _ (row_mem hk)] at h
    cases h
  rw [this]
  rfl
theorem ack_step {l : List (List Int)} {k : Nat} (hk : k < l.length) (h : (l.take k).all vecOk = true) (hx : vecOk (rowOf l k) = true) : (l.take (k + 1)).all vecOk = true := by
  rw [take_row l k hk, List.all_append, h, List.all_cons, hx]
  rfl
theorem ack_end {l : List (List Int)} {k : Nat} (hk : ¬ k < l.length) (h : (l.take k).all vecOk = true) : ackOk l = decide (l.length = 4) := by
  rw [List.take_of_length_le (by omega)] at h
  unfold ackOk
  rw [h]
  rfl
theorem ack_row {l : List (List Int)} (h : ackOk l = true) {i : Nat} (hi : i < 4) : vecOk (rowOf l i) = true ∧ l.length = 4 := by
  unfold ackOk at h
  simp only [Bool.and_eq_true, decide_eq_true_eq] at h
  refine ⟨?_, h.2⟩
  have := h.1
  rw [List.all_eq_true] at this
  exact this _ (row_mem (by omega))
theorem vec_len {xs : List Int} (h : vecOk xs = true) : xs.length = 4 := by
  obtain ⟨_, _, _, _, rfl⟩ := four h
  rfl
end Go.Proofs.Ytejhmakfbmhhhaa

namespace Go.Proofs.Ytejhmakfbmhhhaa
open Go.RowKit
set_option linter.unusedVariables false

/-- A row of rows: block g holds n slices, the cells of the i-th, if it has any, lie in block f i; no two of these blocks are one. -/
def RowsAt (w : World) (lo hi g n : Nat) (f : Nat → Nat) (V : Nat → List Int) : Prop :=
  (lo ≤ g ∧ g < hi ∧ ∃ cs, w.heap[g]? = some (.cells cs 28 (0, 0)) ∧ ∀ i, i < n → ∃ ai ci, cs[i]? = some (.slice ai (V i).length ci) ∧ Own w (f i) (f i + 1) ai (V i).length (V i)) ∧ (∀ i, i < n → lo ≤ f i ∧ f i < hi ∧ f i ≠ g) ∧ ∀ i j, i < j → j < n → f i ≠ f j
theorem RowsAt.kept {w w' : World} {lo hi g n : Nat} {f : Nat → Nat} {V : Nat → List Int} (h : RowsAt w lo hi g n f V) (hk : ∀ j, lo ≤ j → j < hi → w'.heap[j]? = w.heap[j]?) : RowsAt w' lo hi g n f V := by
  obtain ⟨⟨h1, h2, cs, hg, hc⟩, hf, hd⟩ := h
  refine ⟨⟨h1, h2, cs, (hk g h1 h2).trans hg, fun i hi' => ?_⟩, hf, hd⟩
  obtain ⟨ai, ci, e, ho⟩ := hc i hi'
  exact ⟨ai, ci, e, ho.kept fun j q1 q2 => by have := hf i hi'; exact hk j (by omega) (by omega)⟩
theorem RowsAt.below {w w' : World} {lo hi g n B : Nat} {f : Nat → Nat} {V : Nat → List Int} (h : RowsAt w lo hi g n f V) (hb : Below B w w') (hB : hi ≤ B) : RowsAt w' lo hi g n f V :=
  h.kept fun j _ h2 => hb.block j (by omega)
theorem RowsAt.more {w : World} {lo hi lo' hi' g n : Nat} {f : Nat → Nat} {V : Nat → List Int} (h : RowsAt w lo hi g n f V) (h1 : lo' ≤ lo) (h2 : hi ≤ hi') : RowsAt w lo' hi' g n f V := by
  obtain ⟨⟨a1, a2, cs⟩, hf, hd⟩ := h
  exact ⟨⟨by omega, by omega, cs⟩, fun i hi' => by have := hf i hi'; omega, hd⟩
theorem RowsAt.irows {w : World} {lo hi g n : Nat} {f : Nat → Nat} {l : List (List Int)} (h : RowsAt w lo hi g n f (rowOf l)) (hl : l.length = n) : IRows w hi (some ⟨g, 0, none⟩) n l := by
  obtain ⟨⟨h1, h2, cs, hg, hc⟩, hf, hd⟩ := h
  refine ⟨hl, fun i hi' => ?_⟩
  obtain ⟨ai, ci, e, ho⟩ := hc i hi'
  refine ⟨g, 0, ai, ci, rfl, h2, ?_, (ho.ints).more (by have := hf i hi'; omega)⟩
  rw [Nat.zero_add]
  exact (cell_of_row _ _ _ _ _ _ hg).trans e

theorem Try.infoRow : (Try.prog.info? 28).map (fun i => (i.zero, i.size, i.bytes)) = some (some (.slice none 0 0), 1, 24) := by kernel_rfl
/-- The row of toInt64SS when k of its rows are made. -/
def PartRows (w wr : World) (n : Nat) (l : List (List Int)) (k : Nat) : Prop :=
  Below w.heap.size w wr ∧ w.heap.size < wr.heap.size ∧ ∃ (f : Nat → Nat) (cs : Array Value), wr.heap[w.heap.size]? = some (.cells cs 28 (0, 0)) ∧ cs.size = n ∧ (∀ i, i < k → (∃ ai ci, cs[i]? = some (.slice ai (rowOf l i).length ci) ∧ Own wr (f i) (f i + 1) ai (rowOf l i).length (rowOf l i)) ∧ w.heap.size < f i ∧ f i < wr.heap.size) ∧ ∀ i j, i < j → j < k → f i < f j
theorem PartRows.step {w wr w1 : World} {n : Nat} {l : List (List Int)} {k : Nat} (h : PartRows w wr n l k) (hk : k < n) (hg : w1.heap[wr.heap.size]? = some (.cells ((rowOf l k).map (Value.int .i64)).toArray 2 (0, 0))) (hb : Below wr.heap.size wr w1) :
    PartRows w (w1.setCell ⟨w.heap.size, k, none⟩ (.slice (some ⟨wr.heap.size, 0, none⟩) (rowOf l k).length (rowOf l k).length)) n l (k + 1) ∧ (∃ v, w1.cell? ⟨w.heap.size, k, none⟩ = some v) ∧ w1.frozen? ⟨w.heap.size, k, none⟩ = false := by
  obtain ⟨h1, h2, f, cs, h3, h4, h5, h6⟩ := h
  have hg1 : w1.heap[w.heap.size]? = some (.cells cs 28 (0, 0)) := (hb.block _ h2).trans h3
  have hlt := lt_of_block hg
  have hsz : (w1.setCell ⟨w.heap.size, k, none⟩ (.slice (some ⟨wr.heap.size, 0, none⟩) (rowOf l k).length (rowOf l k).length)).heap.size = w1.heap.size := by simp [World.setCell]
  refine ⟨⟨(h1.trans (hb.mono h1.size)).setCell (Nat.le_refl _) _, by omega, fun i => if i = k then wr.heap.size else f i, cs.setIfInBounds k (.slice (some ⟨wr.heap.size, 0, none⟩) (rowOf l k).length (rowOf l k).length), heap_setCell_same _ _ _ _ _ _ hg1, by simpa using h4, fun i hi => ?_, fun i j hij hj => ?_⟩, ⟨cs[k], (cell_of_row _ _ _ _ _ _ hg1).trans (Array.getElem?_eq_getElem (by omega))⟩, frozen_of_row _ _ _ _ _ hg1⟩
  · by_cases e : i = k
    · subst e
      simp only [if_pos]
      refine ⟨⟨_, _, by rw [Array.getElem?_setIfInBounds, if_pos rfl, if_pos (by omega)], ?_⟩, h2, by omega⟩
      exact (own_fresh hg (Nat.lt_succ_self _)).kept fun j q1 q2 => heap_setCell_other _ _ _ _ (by show j ≠ w.heap.size; omega)
    · simp only [if_neg e]
      obtain ⟨⟨ai, ci, q, ho⟩, q1, q2⟩ := h5 i (by omega)
      refine ⟨⟨ai, ci, by rw [Array.getElem?_setIfInBounds, if_neg (fun q => e q.symm)]; exact q, ho.kept fun j r1 r2 => (heap_setCell_other _ _ _ _ (by show j ≠ w.heap.size; omega)).trans (hb.block j (by omega))⟩, q1, by omega⟩
  · have hi : i ≠ k := by omega
    simp only [if_neg hi]
    by_cases e : j = k
    · rw [if_pos e]
      exact (h5 i (by omega)).2.2
    · rw [if_neg e]
      exact h6 i j hij (by omega)
theorem PartRows.done {w wr : World} {n : Nat} {l : List (List Int)} (h : PartRows w wr n l n) : ∃ f, RowsAt wr w.heap.size wr.heap.size w.heap.size n f (rowOf l) := by
  obtain ⟨h1, h2, f, cs, h3, h4, h5, h6⟩ := h
  exact ⟨f, ⟨Nat.le_refl _, h2, cs, h3, fun i hi => (h5 i hi).1⟩, fun i hi => by have := (h5 i hi).2; omega, fun i j hij hj => by have := h6 i j hij hj; omega⟩
end Go.Proofs.Ytejhmakfbmhhhaa

namespace Go.Proofs.Ytejhmakfbmhhhaa
open Go.RowKit


theorem one_cell {w : World} {g : Nat} {v : Value} {T : TypeId} (h : w.heap[g]? = some (.cells #[v] T (0, 0))) : w.cell? ⟨g, 0, none⟩ = some v := (cell_of_row _ _ 0 _ _ _ h).trans (by simp)
theorem cell_set1 {w : World} {g : Nat} {u : Value} {T : TypeId} (v : Value) (h : w.heap[g]? = some (.cells #[u] T (0, 0))) : (w.setCell ⟨g, 0, none⟩ v).cell? ⟨g, 0, none⟩ = some v := by
  have := heap_setCell_same _ _ 0 _ _ v h
  exact one_cell (by simpa using this)
theorem RowsAt.open {w : World} {lo hi g n : Nat} {f : Nat → Nat} {V : Nat → List Int} (h : RowsAt w lo hi g n f V) {i : Nat} (hi' : i < n) :
    ∃ ai ci, w.cell? ⟨g, i, none⟩ = some (.slice ai (V i).length ci) ∧ Own w (f i) (f i + 1) ai (V i).length (V i) ∧ lo ≤ f i ∧ f i < hi ∧
      ∀ (w' : World) (xs : List Int), xs.length = (V i).length → Outside (f i) (f i + 1) w w' → Own w' (f i) (f i + 1) ai (V i).length xs → RowsAt w' lo hi g n f (fun j => if j = i then xs else V j) := by
  obtain ⟨⟨h1, h2, cs, hg, hc⟩, hf, hd⟩ := h
  obtain ⟨ai, ci, e, ho⟩ := hc i hi'
  refine ⟨ai, ci, (cell_of_row _ _ _ _ _ _ hg).trans e, ho, (hf i hi').1, (hf i hi').2.1, fun w' xs hxl hO hx => ⟨⟨h1, h2, cs, (hO.block g (by have := (hf i hi').2.2; omega)).trans hg, fun j hj => ?_⟩, hf, hd⟩⟩
  by_cases q : j = i
  · subst q
    simp only [if_pos]
    exact ⟨ai, ci, by rw [hxl]; exact e, by rw [hxl]; exact hx⟩
  · simp only [if_neg q]
    obtain ⟨aj, cj, ej, hoj⟩ := hc j hj
    have hne : f j ≠ f i := by
      rcases Nat.lt_or_gt_of_ne q with r | r
      · exact hd j i r hi'
      · exact fun s => hd i j r hj s.symm
    exact ⟨aj, cj, ej, hoj.kept fun q h1 h2 => hO.block q (by omega)⟩
/-- Of the blocks that were there none has turned but those from lo up to hi. -/
structure BesideA (lo hi : Nat) (w w' : World) : Prop where
  os : w'.os = w.os
  tape : w'.tape = w.tape
  output : w'.output = w.output
  size : w.heap.size ≤ w'.heap.size
  block : ∀ j, j < w.heap.size → j < lo ∨ hi ≤ j → w'.heap[j]? = w.heap[j]?
theorem BesideA.below {lo hi B : Nat} {w w' : World} (h : BesideA lo hi w w') (hB : B ≤ lo) (hw : B ≤ w.heap.size) : Below B w w' := ⟨h.os, h.tape, h.output, h.size, fun k hk => h.block k (by omega) (.inl (by omega))⟩
set_option maxRecDepth 100000 in
set_option maxHeartbeats 5000000 in
theorem specAcksOk (w : World) (B : Nat) (a : Option Addr) (n cap : Nat) (l : List (List Int)) (h : IRows w B a n l) (hB : B ≤ w.heap.size) (hn : n ≤ 1048576) (hr : ∀ i, i < n → (rowOf l i).length ≤ 1048576) :
    Calls Try.prog 17 #[.agg #[.slice a n cap]] w fun e w' => e = .returned (.bool (ackOk l)) ∧ Below w.heap.size w w' := by
  have hb0 : Below w.heap.size w (w.alloc (.cells #[.slice a n cap] 26)) := (Below.refl _ w).alloc (Nat.le_refl _) _
  have H := Lib.hid (h.below hb0 hB)
  have HB := Lib.hid hb0
  have HR := Lib.hid hr
  have HL := Lib.hid h.1
  have cb := one_cell (heap_alloc_new w (.cells #[.slice a n cap] 26))
  clear h hb0 hr
  go_enter Try.func17, Try.ntmps17
  go_wp2
  generalize w.alloc (.cells #[.slice a n cap] 26) = w0 at H HB cb ⊢
  go_loop [3] (fun i => ∃ k : Nat, k ≤ n ∧ i = .int .i64 (k : Int) ∧ Hid ((l.take k).all vecOk = true)) (fun i => n - (intOf i).toNat)
  case atStart => exact ⟨0, Nat.zero_le _, rfl, rfl⟩
  case round =>
    obtain ⟨k, hk, rfl, HA⟩ := hrel
    by_cases hlt : k < n
    · obtain ⟨b, off, ai, ci, rfl, hb, hc, hx⟩ := H.out.2 k hlt
      have hro := HR.out k hlt
      have hkl : k < l.length := by rw [HL.out]; exact hlt
      have HS := Lib.hid (fun h => ack_step hkl HA.out h)
      have HT := Lib.hid (fun h => ack_stop (l := l) hkl h)
      clear hkl
      generalize rowOf l k = xs at hc hx hro HS HT
      go_wp2_with fail
      refine (specVecOk w0 B ai _ ci xs hx hro).mono ?_
      rintro e w1 ⟨rfl, rfl⟩
      rcases hv : vecOk xs with _ | _
      · have HF := Lib.hid (HT.out hv)
        clear hv
        go_wp2
        go_ret
        exact ⟨ret_bool HF.out.symm, HB.out⟩
      · have HF := Lib.hid (HS.out hv)
        clear hv
        go_wp2
        go_round
        case rel => exact ⟨k + 1, by omega, by go_num, HF⟩
        case measure => simp [intOf]; omega
    · have HV : Hid (ackOk l = decide (l.length = 4)) := ack_end (by rw [HL.out]; exact hlt) HA.out
      go_wp2
      go_ret
      refine ⟨ret_bool ?_, HB.out⟩
      rw [HV.out, HL.out, Bool.eq_iff_iff]
      simp
      omega
end Go.Proofs.Ytejhmakfbmhhhaa

namespace Go.Proofs.Ytejhmakfbmhhhaa
open Go.RowKit
set_option linter.unusedVariables false

theorem own_exact4 {w : World} {lo hi : Nat} {a : Option Addr} {xs : List Int} (h : Own w lo hi a 4 xs) : ∃ g, a = some ⟨g, 0, none⟩ ∧ lo ≤ g ∧ g < hi ∧ g < w.heap.size ∧ Own w g (g + 1) (some ⟨g, 0, none⟩) 4 xs := by
  obtain ⟨g, cur, e, h1, h2, hg, hc⟩ := h.2 (by omega)
  exact ⟨g, e, h1, h2, (Array.getElem?_eq_some_iff.1 hg).1, h.1, fun _ => ⟨g, cur, rfl, Nat.le_refl _, by omega, hg, hc⟩⟩
theorem own_row4 {w : World} {g : Nat} {a : Option Addr} {xs : List Int} (h : Own w g (g + 1) a 4 xs) : ∃ cur, w.heap[g]? = some (.cells cur 2 (0, 0)) := by
  obtain ⟨q, cur, e, h1, h2, hg, hc⟩ := h.2 (by omega)
  have : q = g := by omega
  subst this
  exact ⟨cur, hg⟩
/-- A loop that gathers rows of four numbers in a table's block N: k of them are there. -/
structure AInv (w wr : World) (N base k : Nat) (v : Value) (f : Nat → Nat) (V : Nat → List Int) : Prop where
  box : wr.heap[N]? = some (.cells #[v] 26 (0, 0))
  row : ∃ ls, ls.length = k ∧ wr.ownsRow base 28 1 v k ls ∧ ∀ i, i < k → ∃ ai ci, ls[i]? = some (.slice ai 4 ci) ∧ Own wr (f i) (f i + 1) ai 4 (V i)
  stock : ∀ i, i < k → base ≤ f i ∧ f i < wr.heap.size
  inc : ∀ i j, i < j → j < k → f i < f j
  bel : Below w.heap.size w wr
  lo : w.heap.size ≤ N
  mid : N < base
  hi : base ≤ wr.heap.size
theorem AInv.first (w wr : World) (N base : Nat) (V : Nat → List Int) (hb : wr.heap[N]? = some (.cells #[.slice none 0 0] 26 (0, 0))) (h : Below w.heap.size w wr) (h1 : w.heap.size ≤ N) (h2 : N < base) (h3 : base ≤ wr.heap.size) : AInv w wr N base 0 (.slice none 0 0) (fun _ => 0) V :=
  ⟨hb, ⟨[], rfl, World.ownsRow_nil _ _ _ _, fun i hi => absurd hi (by omega)⟩, fun i hi => absurd hi (by omega), fun i j _ hj => absurd hj (by omega), h, h1, h2, h3⟩
theorem AInv.drew {w wr : World} {N base k : Nat} {v : Value} {f : Nat → Nat} {V : Nat → List Int} (h : AInv w wr N base k v f V) : AInv w wr.drew N base k v f V :=
  ⟨h.box, h.row, h.stock, h.inc, h.bel.trans ⟨rfl, rfl, rfl, Nat.le_refl _, fun _ _ => rfl⟩, h.lo, h.mid, h.hi⟩
theorem AInv.next {w z0 z1 : World} {N base k : Nat} {v : Value} {f : Nat → Nat} {V : Nat → List Int} (h : AInv w z0 N base k v f V) (hb : Below z0.heap.size z0 z1) : AInv w z1 N base k v f V := by
  obtain ⟨ls, hl, hr, hs⟩ := h.row
  have hmid := h.mid
  have hhi := h.hi
  have hsz := hb.size
  refine ⟨(hb.block N (by omega)).trans h.box, ⟨ls, hl, hr.kept (row := none) ⟨hb.os, hb.tape, hb.output, hb.size, fun j hj _ => hb.block j hj⟩ (by rcases v.ownBlock with _ | q; exact .inl rfl; exact .inr (fun e => by cases e)), fun i hi => ?_⟩, fun i hi => by have := h.stock i hi; omega, h.inc, h.bel.trans (hb.mono h.bel.size), h.lo, h.mid, by omega⟩
  obtain ⟨ai, ci, e, ho⟩ := hs i hi
  exact ⟨ai, ci, e, ho.kept fun j h1 h2 => hb.block j (by have := h.stock i hi; omega)⟩
theorem AInv.push {w z1 : World} {N base k c lo : Nat} {v : Value} {f : Nat → Nat} {V : Nat → List Int} {a : Option Addr} (h : AInv w z1 N base k v f V) (ho : Own z1 lo z1.heap.size a 4 (V k)) (hb : base ≤ lo) (hlo : ∀ i, i < k → f i < lo) (hl : k ≤ 100) :
    ∃ f' va vc z3, (Builtin.append_ #[24, 24] 24 #[v, .slice (some ⟨z1.heap.size, 0, none⟩) 1 1]).run Try.prog (z1.alloc (.cells #[.slice a 4 c] 28)) = .ok (.slice va (k + 1) vc) z3 ∧
      z1.cell? ⟨N, 0, none⟩ = some v ∧ (z1.alloc (.cells #[.slice a 4 c] 28)).cell? ⟨N, 0, none⟩ = some v ∧ z3.cell? ⟨N, 0, none⟩ = some v ∧ z3.frozen? ⟨N, 0, none⟩ = false ∧
      AInv w (z3.setCell ⟨N, 0, none⟩ (.slice va (k + 1) vc)) N base (k + 1) (.slice va (k + 1) vc) f' V ∧
      (∀ j, j < base → (z1.alloc (.cells #[.slice a 4 c] 28)).heap[j]? = z1.heap[j]? ∧ z3.heap[j]? = z1.heap[j]? ∧ (j ≠ N → (z3.setCell ⟨N, 0, none⟩ (.slice va (k + 1) vc)).heap[j]? = z1.heap[j]?)) := by
  obtain ⟨i0, hi, hz0, hz1, hz2⟩ := info_parts Try.infoRow
  obtain ⟨g, rfl, hg1, hg2, hg3, hog⟩ := own_exact4 ho
  have hmid := h.mid
  have hhi := h.hi
  obtain ⟨ls, hls, row1, hst⟩ := h.row
  have row2 := row1.alloc (.cells #[.slice (some ⟨g, 0, none⟩) 4 c] 28)
  obtain ⟨v', z3, hrun, hown, hgr, _⟩ := run_append_own (P := Try.prog) (z1.alloc (.cells #[.slice (some ⟨g, 0, none⟩) 4 c] 28)) base 24 24 28 i0 (.slice none 0 0) 1 24 Try.underlying24 hi hz0 hz1 hz2 rfl (by decide) v k ls row2 ⟨z1.heap.size, 0, none⟩ 1 1 [.slice (some ⟨g, 0, none⟩) 4 c] rfl
    (by
      intro j u hj
      match j, hj with
      | 0, hj => simp at hj; subst hj; exact one_cell (heap_alloc_new z1 _))
    (by intro u hu; simp at hu; subst hu; rfl) (by unfold maxLen; omega) (by omega) (by show _ ≤ (z1.heap.push _).size; simp; omega)
  obtain ⟨va, vc, rfl⟩ : ∃ va vc, v' = .slice va (k + 1) vc := by
    rcases hown.2 with ⟨_, e2⟩ | ⟨_, c2, _, e2, _⟩
    · omega
    · exact ⟨_, c2, e2⟩
  have kb : ∀ j, j < z1.heap.size → (z1.alloc (.cells #[.slice (some ⟨g, 0, none⟩) 4 c] 28)).heap[j]? = z1.heap[j]? := fun j hj => Below.heap_alloc _ _ _ hj
  have hsa : z1.heap.size < (z1.alloc (.cells #[.slice (some ⟨g, 0, none⟩) 4 c] 28)).heap.size := by show _ < (z1.heap.push _).size; simp
  have hrl : ∀ j, v.ownBlock = some j → base ≤ j := fun j hj => (row2.lt j hj).1
  have k3 : ∀ j, j < z1.heap.size → v.ownBlock ≠ some j → z3.heap[j]? = z1.heap[j]? := fun j hj hne => (hgr.block j (by omega) (fun e => hne e.symm)).trans (kb j hj)
  have k3' : ∀ j, j < base → z3.heap[j]? = z1.heap[j]? := fun j hj => k3 j (by omega) (fun e => by have := hrl j e; omega)
  have hint : ∀ j cur, z1.heap[j]? = some (.cells cur 2 (0, 0)) → v.ownBlock ≠ some j := by
    intro j cur hj e
    rcases row1.2 with ⟨e2, _⟩ | ⟨q, cap, cu, e2, _, hq, _⟩
    · rw [e2] at e; simp [Value.ownBlock] at e
    · rw [e2] at e
      have e3 : q = j := by simpa [Value.ownBlock] using e
      rw [e3, hj] at hq
      injection hq with hq
      injection hq with _ hq
      exact absurd hq (by decide)
  have own3 : ∀ {q : Nat} {x : Option Addr} {xs : List Int}, q < z1.heap.size → Own z1 q (q + 1) x 4 xs → Own z3 q (q + 1) x 4 xs := fun {q} {x} {xs} hq ho => ho.kept fun j h1 h2 => by
    have e : j = q := by omega
    subst e
    obtain ⟨cur, hcur⟩ := own_row4 ho
    exact k3 _ hq (hint _ cur hcur)
  have hN3 := (k3' N hmid).trans h.box
  have hz4 : (z3.setCell ⟨N, 0, none⟩ (.slice va (k + 1) vc)).heap.size = z3.heap.size := by simp [World.setCell]
  have hs3 := hgr.size
  refine ⟨fun i => if i = k then g else f i, va, vc, z3, hrun, one_cell h.box, one_cell ((kb N (by omega)).trans h.box), one_cell hN3, frozen_of_row _ _ _ _ _ hN3, ?_, fun j hj => ⟨kb j (by omega), k3' j hj, fun hne => (heap_setCell_other _ _ _ _ hne).trans (k3' j hj)⟩⟩
  have b3 : Below w.heap.size w z3 := (h.bel.alloc (by have := h.bel.size; omega) _).grown hgr (by have := h.bel.size; omega) fun q hq => by have := hrl q hq; have := h.lo; omega
  refine ⟨by have := heap_setCell_same _ _ 0 _ _ (.slice va (k + 1) vc) hN3; simpa using this, ⟨ls ++ [.slice (some ⟨g, 0, none⟩) 4 c], by simp [hls], ?_, fun i hi' => ?_⟩, fun i hi' => ?_, fun i j hij hj => ?_, b3.setCell h.lo _, h.lo, h.mid, by rw [hz4]; omega⟩
  · exact hown.kept (row := some N) ⟨rfl, rfl, rfl, by simp [World.setCell], fun j _ hne => heap_setCell_other _ _ _ _ (fun e => hne (by rw [e]))⟩ (by
      rcases hv : (Value.slice va (k + 1) vc).ownBlock with _ | q
      · exact .inl rfl
      · exact .inr (fun e => by have := (hown.lt q hv).1; have : q = N := by simpa using e
                                omega))
  · by_cases e : i = k
    · subst e
      simp only [if_pos]
      refine ⟨_, c, by rw [List.getElem?_append_right (by omega)]; simp [hls], (own3 hg3 hog).kept fun j h1 h2 => heap_setCell_other _ _ _ _ (by show j ≠ N; omega)⟩
    · simp only [if_neg e]
      have hik : i < k := by omega
      obtain ⟨ai, ci, q, ho⟩ := hst i hik
      have hs := h.stock i hik
      exact ⟨ai, ci, by rw [List.getElem?_append_left (by omega)]; exact q, (own3 hs.2 ho).kept fun j h1 h2 => heap_setCell_other _ _ _ _ (by show j ≠ N; omega)⟩
  · by_cases e : i = k
    · simp only [if_pos e]
      rw [hz4]
      omega
    · simp only [if_neg e]
      rw [hz4]
      have := h.stock i (by omega)
      omega
  · have hi : i ≠ k := by omega
    simp only [if_neg hi]
    by_cases e : j = k
    · rw [if_pos e]
      have := hlo i (by omega)
      omega
    · rw [if_neg e]
      exact h.inc i j hij (by omega)
theorem AInv.rows {w wr : World} {N base k : Nat} {v : Value} {f : Nat → Nat} {V : Nat → List Int} (h : AInv w wr N base k v f V) (h0 : 0 < k) (hV : ∀ i, i < k → (V i).length = 4) : ∃ g c, v = .slice (some ⟨g, 0, none⟩) k c ∧ RowsAt wr base wr.heap.size g k f V := by
  obtain ⟨ls, hls, hr, hs⟩ := h.row
  rcases hr.2 with ⟨_, e⟩ | ⟨g, c, cs, e, hb, hg, hn, _, hsz, ht⟩
  · omega
  · refine ⟨g, c, e, ⟨hb, (Array.getElem?_eq_some_iff.1 hg).1, cs, hg, fun i hi => ?_⟩, fun i hi => ⟨(h.stock i hi).1, (h.stock i hi).2, fun q => ?_⟩, fun i j hij hj => Nat.ne_of_lt (h.inc i j hij hj)⟩
    · obtain ⟨ai, ci, q, ho⟩ := hs i hi
      rw [hV i hi]
      refine ⟨ai, ci, ?_, ho⟩
      rw [← ht, List.getElem?_take_of_lt (by omega)] at q
      rw [← Array.getElem?_toList]
      exact q
    · obtain ⟨ai, ci, _, ho⟩ := hs i hi
      obtain ⟨cur, hcur⟩ := own_row4 ho
      rw [q, hg] at hcur
      injection hcur with hcur
      injection hcur with _ hcur
      exact absurd hcur (by decide)
theorem opwpR {P : Program} {o : Oper} {a : Act} {w : World} {K : Act → World → Prop} {Q : Exit → Act → World → Prop} (x y : Operand) (ts : Array TypeId) (hop : o.op = Op.call { callee := Callee.builtin Builtin.append, args := #[x, y], argTypes := ts }) (v1 v2 : Value) {v' : Value} {w' : World} (h1 : a.eval x = v1) (h2 : a.eval y = v2)
    (hrun : (Builtin.append_ ts o.type #[v1, v2]).run P w = .ok v' w') (hK : K (a.put o.dst v') w') : Oper.wp P o a w K Q := by
  unfold Oper.wp
  simp [execOp, hop, resolve, invoke, builtin, h1, h2, hrun, Result.andThen]
  exact hK
/-- What answers a table of rows leaves. -/
def AckPost (l : List (List Int)) (w : World) (e : Ending) (w' : World) : Prop :=
  ∃ g c, e = .returned (.agg #[.slice (some ⟨g, 0, none⟩) l.length c]) ∧ (∃ f, RowsAt w' w.heap.size w'.heap.size g l.length f (rowOf l)) ∧ Below w.heap.size w w'
end Go.Proofs.Ytejhmakfbmhhhaa

namespace Go.Proofs.Ytejhmakfbmhhhaa
open Go.RowKit
set_option linter.unusedVariables false
set_option linter.unusedSimpArgs false

def zeros4 : List Int := [0, 0, 0, 0]
theorem zero_made4 : ∀ W : World, (Instr.makeSlice 28 (.int .i64 4) (.int .i64 4)).run Try.prog W = .ok (.slice (some ⟨W.heap.size, 0, none⟩) 4 4) (W.alloc (.cells #[.int .i64 0, .int .i64 0, .int .i64 0, .int .i64 0] 2)) := by
  obtain ⟨i0, hi, hz0, hz1, hz2⟩ := info_parts Try.infoI64
  intro W
  have h := run_make (P := Try.prog) W 28 2 i0 (.int .i64 0) Try.underlying28 hi hz0 .i64 .i64 4 4 (by omega) (by omega) (by rw [hz2]; omega) (by omega)
  rw [hz1] at h
  have e : madeCells (Value.int .i64 0).cells (Int.toNat 4 * 1) = #[.int .i64 0, .int .i64 0, .int .i64 0, .int .i64 0] := by kernel_rfl
  rw [e] at h
  exact h
theorem l2ZeroA (w : World) : Calls Try.prog 145 #[] w fun e w' => ∃ a cap, e = .returned (.slice a 4 cap) ∧ Own w' w.heap.size w'.heap.size a 4 zeros4 ∧ Below w.heap.size w w' := by
  have hm := zero_made4
  go_enter Try.func145, Try.ntmps145
  go_wp2
  go_ret
  refine ⟨_, _, rfl, own_fresh (xs := zeros4) (heap_alloc_new _ _) (by show _ < (w.heap.push _).size; simp), (Below.refl _ _).alloc (Nat.le_refl _) _⟩
theorem vlist4 (w : World) (x0 x1 x2 x3 : Int) : Calls Try.prog 60 #[.agg #[.int .i64 x0, .int .i64 x1, .int .i64 x2, .int .i64 x3]] w fun e w' => ∃ a cap, e = .returned (.slice a 4 cap) ∧ Own w' w.heap.size w'.heap.size a 4 [x0, x1, x2, x3] ∧ Below w.heap.size w w' := vlist w x0 x1 x2 x3
theorem alloc3 (w : World) (o1 o2 o3 : Obj) : Below w.heap.size w (((w.alloc o1).alloc o2).alloc o3) ∧ (((w.alloc o1).alloc o2).alloc o3).heap[w.heap.size]? = some o1 ∧ (((w.alloc o1).alloc o2).alloc o3).heap[w.heap.size + 1]? = some o2 ∧ (((w.alloc o1).alloc o2).alloc o3).heap[w.heap.size + 1 + 1]? = some o3 ∧ (((w.alloc o1).alloc o2).alloc o3).heap.size = w.heap.size + 3 := by
  have hz1 : (w.alloc o1).heap.size = w.heap.size + 1 := by show (w.heap.push _).size = _; simp
  have hz2 : ((w.alloc o1).alloc o2).heap.size = w.heap.size + 1 + 1 := by show ((w.heap.push _).push _).size = _; simp
  refine ⟨(((Below.refl _ w).alloc (Nat.le_refl _) _).alloc (by omega) _).alloc (by omega) _, ?_, ?_, ?_, by show (((w.heap.push _).push _).push _).size = _; simp⟩
  · exact (Below.heap_alloc _ _ _ (by omega)).trans ((Below.heap_alloc _ _ _ (by omega)).trans (heap_alloc_new _ _))
  · have := heap_alloc_new (w.alloc o1) o2
    rw [hz1] at this
    exact (Below.heap_alloc _ _ _ (by omega)).trans this
  · have := heap_alloc_new ((w.alloc o1).alloc o2) o3
    rw [hz2] at this
    exact this
theorem alloc2 (w : World) (o1 o2 : Obj) : Below w.heap.size w ((w.alloc o1).alloc o2) ∧ ((w.alloc o1).alloc o2).heap[w.heap.size]? = some o1 ∧ ((w.alloc o1).alloc o2).heap[w.heap.size + 1]? = some o2 ∧ ((w.alloc o1).alloc o2).heap.size = w.heap.size + 2 := by
  have hz1 : (w.alloc o1).heap.size = w.heap.size + 1 := by show (w.heap.push _).size = _; simp
  refine ⟨((Below.refl _ w).alloc (Nat.le_refl _) _).alloc (by omega) _, ?_, ?_, by show ((w.heap.push _).push _).size = _; simp⟩
  · exact (Below.heap_alloc _ _ _ (by omega)).trans (heap_alloc_new _ _)
  · have := heap_alloc_new (w.alloc o1) o2
    rw [hz1] at this
    exact this
def newAcks : List (List Int) := [zeros4, zeros4, zeros4, zeros4]
theorem newAcks_row {i : Nat} (h : i < 4) : rowOf newAcks i = zeros4 := by
  obtain rfl | rfl | rfl | rfl : i = 0 ∨ i = 1 ∨ i = 2 ∨ i = 3 := by omega
  all_goals rfl
set_option maxRecDepth 100000 in
set_option maxHeartbeats 20000000 in
theorem specAcksNew (w : World) : Calls Try.prog 140 #[] w (AckPost newAcks w) := by
  go_enter Try.func140, Try.ntmps140
  go_wp2
  obtain ⟨hB0, h2, h3, hz0⟩ := alloc2 w (.cells #[.slice none 0 0] 26) (.cells #[.slice none 0 0] 26)
  generalize (w.alloc (.cells #[.slice none 0 0] 26)).alloc (.cells #[.slice none 0 0] 26) = w0 at hB0 h2 h3 hz0 ⊢
  have HB0 := Lib.hid hB0
  have TR := Lib.hid h2
  have TN := Lib.hid h3
  clear hB0 h2 h3
  go_loopw [2] (fun i wr => ∃ (k : Nat) (v : Value) (f : Nat → Nat), k ≤ 4 ∧ i = .int .i64 (k : Int) ∧ Hid (AInv w wr (w.heap.size + 1) (w.heap.size + 2) k v f (rowOf newAcks)) ∧ Hid (∀ j, j < w.heap.size + 2 → j ≠ w.heap.size + 1 → wr.heap[j]? = w0.heap[j]?)) (fun i _ => 4 - (intOf i).toNat)
  case atStart => exact ⟨0, _, _, by omega, rfl, AInv.first _ _ _ _ _ TN.out HB0.out (by omega) (by omega) (by omega), fun _ _ _ => rfl⟩
  case round =>
    obtain ⟨k, v, f, hk, rfl, HI, HF⟩ := hrel
    by_cases hlt : k < 4
    · have hki : (k : Int) < 4 := by omega
      skip
      go_upto_region 5 with fail
      rename_i KR hKR
      obtain ⟨z0, hz0e⟩ : ∃ z0, wr.drew = z0 := ⟨_, rfl⟩
      have HIz : Hid (AInv w z0 (w.heap.size + 1) (w.heap.size + 2) k v f (rowOf newAcks)) := by rw [← hz0e]; exact HI.out.drew
      have HFz : Hid (∀ j, j < w.heap.size + 2 → j ≠ w.heap.size + 1 → z0.heap[j]? = w0.heap[j]?) := by rw [← hz0e]; exact HF.out
      have n0 : z0.cell? ⟨w.heap.size + 1, 0, none⟩ = some v := one_cell HIz.out.box
      have hS0 : True := trivial
      clear HI HF
      refine wp_region_held_drew (S := fun w' => True) (by kernel_rfl) (by (try rw [hz0e]); exact hS0) (fun hHeld => ?_)
      rw [hz0e]
      clear hHeld
      refine wpAnyH_take (i := 0) (oi := { dst := some 8, op := .fieldAddr 26 (.tmp 1) 0, type := 0, pos := "l13_stable.go:8", after := #[], guard := none }) (v := ?_) rfl (by kernel_rfl) (by kernel_rfl) (by kernel_rfl) (fun _ _ _ h => h) (Or.inl ⟨by rfl, ?_⟩) (by assumption) ?_
      rotate_left
      · intro w hSw
        (try dsimp only at hSw)
        first | (go_simp; done) | (go_simp; with_reducible rfl)
      (try simp only [Act.put, List.setIfInBounds_toArray, List.set_cons_zero, List.set_cons_succ])
      refine wpAnyH_ready (rs := [1, 2]) (by kernel_rfl) (by simp) ?_
      refine (AllReadyH.cons (o := { dst := some 9, op := .load 24 (.tmp 8), type := 24, pos := "l13_stable.go:8", after := #[⟨0, .data⟩], guard := none }) rfl (fun K hK => ?_) (AllReadyH.cons (o := { dst := some 10, op := .call { callee := .value (.func 145), args := #[], argTypes := #[] }, type := 28, pos := "l13_stable.go:8", after := #[], guard := none }) rfl (fun K hK => ?_) AllReadyH.nil))
      ·
        go_simp
        refine hK.out _ _ hS0 (fun hHeldL => ?_)
        clear hK K hHeldL
        (try simp only [Act.put, List.setIfInBounds_toArray, List.set_cons_zero, List.set_cons_succ])
        refine wpAnyH_ready (rs := [2]) (by kernel_rfl) (by simp) ?_
        refine (AllReadyH.cons (o := { dst := some 10, op := .call { callee := .value (.func 145), args := #[], argTypes := #[] }, type := 28, pos := "l13_stable.go:8", after := #[], guard := none }) rfl (fun K hK => ?_) AllReadyH.nil)
        go_simp
        go_at_call 145
        refine (l2ZeroA z0).mono ?_
        rintro e z1 ⟨a, c, rfl, ho, hb1⟩
        have HI1 := HIz.out.next hb1
        rw [← newAcks_row hlt] at ho
        obtain ⟨f', va, vc, z3, hrun, n1, nA, n3, f3, hI4, hK5⟩ := HI1.push (c := c) ho HIz.out.hi (fun i hi => (HIz.out.stock i hi).2) (by omega)
        have HF1 : Hid (∀ j, j < w.heap.size + 2 → j ≠ w.heap.size + 1 → z1.heap[j]? = w0.heap[j]?) := fun j h1 h2 => (hb1.block j (by have := HIz.out.hi; omega)).trans (HFz.out j h1 h2)
        have HFA : Hid (∀ j, j < w.heap.size + 2 → j ≠ w.heap.size + 1 → (z1.alloc (.cells #[.slice a 4 c] 28)).heap[j]? = w0.heap[j]?) := fun j h1 h2 => (hK5 j h1).1.trans (HF1.out j h1 h2)
        have HF3 : Hid (∀ j, j < w.heap.size + 2 → j ≠ w.heap.size + 1 → z3.heap[j]? = w0.heap[j]?) := fun j h1 h2 => (hK5 j h1).2.1.trans (HF1.out j h1 h2)
        have HF4 : Hid (∀ j, j < w.heap.size + 2 → j ≠ w.heap.size + 1 → (z3.setCell ⟨w.heap.size + 1, 0, none⟩ (.slice va (k + 1) vc)).heap[j]? = w0.heap[j]?) := fun j h1 h2 => ((hK5 j h1).2.2 h2).trans (HF1.out j h1 h2)
        have hS1 : True := trivial
        have hSA : True := trivial
        have hS3 : True := trivial
        have hS4 : True := trivial
        have HI4 := Lib.hid hI4
        clear ho hb1 hI4 hK5 HI1 HF1 HFA HF3
        refine hK.out _ _ hS1 (fun hHeldC => ?_)
        clear hK K hHeldC
        (try simp only [Act.put, List.setIfInBounds_toArray, List.set_cons_zero, List.set_cons_succ])
        refine wpAnyH_ready (rs := [3]) (by kernel_rfl) (by simp) ?_
        refine (AllReadyH.cons (o := { dst := some 11, op := .buildSlice 24 1 #[(0, .tmp 10)], type := 24, pos := "l13_stable.go:8", after := #[⟨2, .data⟩], guard := none }) rfl (fun K hK => ?_) AllReadyH.nil)
        go_simp
        refine hK.out _ _ hSA (fun hHeldB => ?_)
        clear hK K hHeldB
        (try simp only [Act.put, List.setIfInBounds_toArray, List.set_cons_zero, List.set_cons_succ])
        refine wpAnyH_ready (rs := [4]) (by kernel_rfl) (by simp) ?_
        refine (AllReadyH.cons (o := { dst := some 12, op := .call { callee := .builtin .append, args := #[.tmp 9, .tmp 11], argTypes := #[24, 24] }, type := 24, pos := "l13_stable.go:8", after := #[⟨1, .data⟩, ⟨3, .data⟩, ⟨2, .chain⟩], guard := none }) rfl (fun K hK => ?_) AllReadyH.nil)
        rw [if_pos (by rfl)]
        refine opwpR _ _ _ rfl _ _ rfl rfl hrun ?_
        refine hK.out _ _ hS3 (fun hHeldA => ?_)
        clear hK K hHeldA
        (try simp only [Act.put, List.setIfInBounds_toArray, List.set_cons_zero, List.set_cons_succ])
        refine wpAnyH_take (i := 5) (oi := { dst := some 13, op := .fieldAddr 26 (.tmp 1) 0, type := 0, pos := "l13_stable.go:8", after := #[⟨0, .phase⟩, ⟨1, .phase⟩, ⟨2, .phase⟩, ⟨3, .phase⟩, ⟨4, .phase⟩], guard := none }) (v := ?_) rfl (by kernel_rfl) (by kernel_rfl) (by kernel_rfl) (fun _ _ _ h => h) (Or.inl ⟨by rfl, ?_⟩) (by assumption) ?_
        rotate_left
        · intro w hSw
          (try dsimp only at hSw)
          first | (go_simp; done) | (go_simp; with_reducible rfl)
        (try simp only [Act.put, List.setIfInBounds_toArray, List.set_cons_zero, List.set_cons_succ])
        refine wpAnyH_ready (rs := [6]) (by kernel_rfl) (by simp) ?_
        refine (AllReadyH.cons (o := { dst := none, op := .store 24 (.tmp 13) (.tmp 12), type := 0, pos := "l13_stable.go:8", after := #[⟨5, .data⟩, ⟨4, .data⟩, ⟨4, .chain⟩, ⟨0, .phase⟩, ⟨1, .phase⟩, ⟨2, .phase⟩, ⟨3, .phase⟩, ⟨4, .phase⟩], guard := none }) rfl (fun K hK => ?_) AllReadyH.nil)
        go_simp
        refine hK.out _ _ hS4 (fun hHeldS => ?_)
        clear hK K hHeldS
        (try simp only [Act.put, List.setIfInBounds_toArray, List.set_cons_zero, List.set_cons_succ])
        refine wpAnyH_done (by kernel_rfl) ?_ _
        refine hKR _ _ ?_
        generalize z3.setCell ⟨w.heap.size + 1, 0, none⟩ (.slice va (k + 1) vc) = z4 at HI4 HF4 ⊢
        go_wp2
        go_roundw
        case rel => exact ⟨k + 1, _, f', by omega, by go_num, HI4, HF4⟩
        case measure => simp [intOf]; omega
      ·
        go_simp
        go_at_call 145
        refine (l2ZeroA z0).mono ?_
        rintro e z1 ⟨a, c, rfl, ho, hb1⟩
        have HI1 := HIz.out.next hb1
        rw [← newAcks_row hlt] at ho
        obtain ⟨f', va, vc, z3, hrun, n1, nA, n3, f3, hI4, hK5⟩ := HI1.push (c := c) ho HIz.out.hi (fun i hi => (HIz.out.stock i hi).2) (by omega)
        have HF1 : Hid (∀ j, j < w.heap.size + 2 → j ≠ w.heap.size + 1 → z1.heap[j]? = w0.heap[j]?) := fun j h1 h2 => (hb1.block j (by have := HIz.out.hi; omega)).trans (HFz.out j h1 h2)
        have HFA : Hid (∀ j, j < w.heap.size + 2 → j ≠ w.heap.size + 1 → (z1.alloc (.cells #[.slice a 4 c] 28)).heap[j]? = w0.heap[j]?) := fun j h1 h2 => (hK5 j h1).1.trans (HF1.out j h1 h2)
        have HF3 : Hid (∀ j, j < w.heap.size + 2 → j ≠ w.heap.size + 1 → z3.heap[j]? = w0.heap[j]?) := fun j h1 h2 => (hK5 j h1).2.1.trans (HF1.out j h1 h2)
        have HF4 : Hid (∀ j, j < w.heap.size + 2 → j ≠ w.heap.size + 1 → (z3.setCell ⟨w.heap.size + 1, 0, none⟩ (.slice va (k + 1) vc)).heap[j]? = w0.heap[j]?) := fun j h1 h2 => ((hK5 j h1).2.2 h2).trans (HF1.out j h1 h2)
        have hS1 : True := trivial
        have hSA : True := trivial
        have hS3 : True := trivial
        have hS4 : True := trivial
        have HI4 := Lib.hid hI4
        clear ho hb1 hI4 hK5 HI1 HF1 HFA HF3
        refine hK.out _ _ hS1 (fun hHeldC => ?_)
        clear hK K hHeldC
        (try simp only [Act.put, List.setIfInBounds_toArray, List.set_cons_zero, List.set_cons_succ])
        refine wpAnyH_ready (rs := [1, 3]) (by kernel_rfl) (by simp) ?_
        refine (AllReadyH.cons (o := { dst := some 9, op := .load 24 (.tmp 8), type := 24, pos := "l13_stable.go:8", after := #[⟨0, .data⟩], guard := none }) rfl (fun K hK => ?_) (AllReadyH.cons (o := { dst := some 11, op := .buildSlice 24 1 #[(0, .tmp 10)], type := 24, pos := "l13_stable.go:8", after := #[⟨2, .data⟩], guard := none }) rfl (fun K hK => ?_) AllReadyH.nil))
        ·
          go_simp
          refine hK.out _ _ hS1 (fun hHeldL => ?_)
          clear hK K hHeldL
          (try simp only [Act.put, List.setIfInBounds_toArray, List.set_cons_zero, List.set_cons_succ])
          refine wpAnyH_ready (rs := [3]) (by kernel_rfl) (by simp) ?_
          refine (AllReadyH.cons (o := { dst := some 11, op := .buildSlice 24 1 #[(0, .tmp 10)], type := 24, pos := "l13_stable.go:8", after := #[⟨2, .data⟩], guard := none }) rfl (fun K hK => ?_) AllReadyH.nil)
          go_simp
          refine hK.out _ _ hSA (fun hHeldB => ?_)
          clear hK K hHeldB
          (try simp only [Act.put, List.setIfInBounds_toArray, List.set_cons_zero, List.set_cons_succ])
          refine wpAnyH_ready (rs := [4]) (by kernel_rfl) (by simp) ?_
          refine (AllReadyH.cons (o := { dst := some 12, op := .call { callee := .builtin .append, args := #[.tmp 9, .tmp 11], argTypes := #[24, 24] }, type := 24, pos := "l13_stable.go:8", after := #[⟨1, .data⟩, ⟨3, .data⟩, ⟨2, .chain⟩], guard := none }) rfl (fun K hK => ?_) AllReadyH.nil)
          rw [if_pos (by rfl)]
          refine opwpR _ _ _ rfl _ _ rfl rfl hrun ?_
          refine hK.out _ _ hS3 (fun hHeldA => ?_)
          clear hK K hHeldA
          (try simp only [Act.put, List.setIfInBounds_toArray, List.set_cons_zero, List.set_cons_succ])
          refine wpAnyH_take (i := 5) (oi := { dst := some 13, op := .fieldAddr 26 (.tmp 1) 0, type := 0, pos := "l13_stable.go:8", after := #[⟨0, .phase⟩, ⟨1, .phase⟩, ⟨2, .phase⟩, ⟨3, .phase⟩, ⟨4, .phase⟩], guard := none }) (v := ?_) rfl (by kernel_rfl) (by kernel_rfl) (by kernel_rfl) (fun _ _ _ h => h) (Or.inl ⟨by rfl, ?_⟩) (by assumption) ?_
          rotate_left
          · intro w hSw
            (try dsimp only at hSw)
            first | (go_simp; done) | (go_simp; with_reducible rfl)
          (try simp only [Act.put, List.setIfInBounds_toArray, List.set_cons_zero, List.set_cons_succ])
          refine wpAnyH_ready (rs := [6]) (by kernel_rfl) (by simp) ?_
          refine (AllReadyH.cons (o := { dst := none, op := .store 24 (.tmp 13) (.tmp 12), type := 0, pos := "l13_stable.go:8", after := #[⟨5, .data⟩, ⟨4, .data⟩, ⟨4, .chain⟩, ⟨0, .phase⟩, ⟨1, .phase⟩, ⟨2, .phase⟩, ⟨3, .phase⟩, ⟨4, .phase⟩], guard := none }) rfl (fun K hK => ?_) AllReadyH.nil)
          go_simp
          refine hK.out _ _ hS4 (fun hHeldS => ?_)
          clear hK K hHeldS
          (try simp only [Act.put, List.setIfInBounds_toArray, List.set_cons_zero, List.set_cons_succ])
          refine wpAnyH_done (by kernel_rfl) ?_ _
          refine hKR _ _ ?_
          generalize z3.setCell ⟨w.heap.size + 1, 0, none⟩ (.slice va (k + 1) vc) = z4 at HI4 HF4 ⊢
          go_wp2
          go_roundw
          case rel => exact ⟨k + 1, _, f', by omega, by go_num, HI4, HF4⟩
          case measure => simp [intOf]; omega
        ·
          go_simp
          refine hK.out _ _ hSA (fun hHeldB => ?_)
          clear hK K hHeldB
          (try simp only [Act.put, List.setIfInBounds_toArray, List.set_cons_zero, List.set_cons_succ])
          refine wpAnyH_ready (rs := [1]) (by kernel_rfl) (by simp) ?_
          refine (AllReadyH.cons (o := { dst := some 9, op := .load 24 (.tmp 8), type := 24, pos := "l13_stable.go:8", after := #[⟨0, .data⟩], guard := none }) rfl (fun K hK => ?_) AllReadyH.nil)
          go_simp
          refine hK.out _ _ hSA (fun hHeldL => ?_)
          clear hK K hHeldL
          (try simp only [Act.put, List.setIfInBounds_toArray, List.set_cons_zero, List.set_cons_succ])
          refine wpAnyH_ready (rs := [4]) (by kernel_rfl) (by simp) ?_
          refine (AllReadyH.cons (o := { dst := some 12, op := .call { callee := .builtin .append, args := #[.tmp 9, .tmp 11], argTypes := #[24, 24] }, type := 24, pos := "l13_stable.go:8", after := #[⟨1, .data⟩, ⟨3, .data⟩, ⟨2, .chain⟩], guard := none }) rfl (fun K hK => ?_) AllReadyH.nil)
          rw [if_pos (by rfl)]
          refine opwpR _ _ _ rfl _ _ rfl rfl hrun ?_
          refine hK.out _ _ hS3 (fun hHeldA => ?_)
          clear hK K hHeldA
          (try simp only [Act.put, List.setIfInBounds_toArray, List.set_cons_zero, List.set_cons_succ])
          refine wpAnyH_take (i := 5) (oi := { dst := some 13, op := .fieldAddr 26 (.tmp 1) 0, type := 0, pos := "l13_stable.go:8", after := #[⟨0, .phase⟩, ⟨1, .phase⟩, ⟨2, .phase⟩, ⟨3, .phase⟩, ⟨4, .phase⟩], guard := none }) (v := ?_) rfl (by kernel_rfl) (by kernel_rfl) (by kernel_rfl) (fun _ _ _ h => h) (Or.inl ⟨by rfl, ?_⟩) (by assumption) ?_
          rotate_left
          · intro w hSw
            (try dsimp only at hSw)
            first | (go_simp; done) | (go_simp; with_reducible rfl)
          (try simp only [Act.put, List.setIfInBounds_toArray, List.set_cons_zero, List.set_cons_succ])
          refine wpAnyH_ready (rs := [6]) (by kernel_rfl) (by simp) ?_
          refine (AllReadyH.cons (o := { dst := none, op := .store 24 (.tmp 13) (.tmp 12), type := 0, pos := "l13_stable.go:8", after := #[⟨5, .data⟩, ⟨4, .data⟩, ⟨4, .chain⟩, ⟨0, .phase⟩, ⟨1, .phase⟩, ⟨2, .phase⟩, ⟨3, .phase⟩, ⟨4, .phase⟩], guard := none }) rfl (fun K hK => ?_) AllReadyH.nil)
          go_simp
          refine hK.out _ _ hS4 (fun hHeldS => ?_)
          clear hK K hHeldS
          (try simp only [Act.put, List.setIfInBounds_toArray, List.set_cons_zero, List.set_cons_succ])
          refine wpAnyH_done (by kernel_rfl) ?_ _
          refine hKR _ _ ?_
          generalize z3.setCell ⟨w.heap.size + 1, 0, none⟩ (.slice va (k + 1) vc) = z4 at HI4 HF4 ⊢
          go_wp2
          go_roundw
          case rel => exact ⟨k + 1, _, f', by omega, by go_num, HI4, HF4⟩
          case measure => simp [intOf]; omega
    · obtain rfl : k = 4 := by omega
      obtain ⟨g, c, rfl, hrows⟩ := HI.out.rows (by omega) (fun i hi => by rw [newAcks_row hi]; rfl)
      have HNt := Lib.hid hrows
      have n0 := one_cell HI.out.box
      have hR := (HF.out (w.heap.size) (by omega) (by omega)).trans TR.out
      have r0 := one_cell hR
      have q0 : wr.frozen? ⟨w.heap.size, 0, none⟩ = false := frozen_of_row _ _ _ _ _ hR
      have d0 : (wr.setCell ⟨w.heap.size, 0, none⟩ (.slice (some ⟨g, 0, none⟩) 4 c)).cell? ⟨w.heap.size, 0, none⟩ = some (.slice (some ⟨g, 0, none⟩) 4 c) := cell_set1 _ hR
      have hsz4 : (wr.setCell ⟨w.heap.size, 0, none⟩ (.slice (some ⟨g, 0, none⟩) 4 c)).heap.size = wr.heap.size := by simp [World.setCell]
      have HN4 : Hid (RowsAt (wr.setCell ⟨w.heap.size, 0, none⟩ (.slice (some ⟨g, 0, none⟩) 4 c)) w.heap.size (wr.setCell ⟨w.heap.size, 0, none⟩ (.slice (some ⟨g, 0, none⟩) 4 c)).heap.size g 4 f (rowOf newAcks)) := by rw [hsz4]; exact (HNt.out.kept fun j h1 h2 => heap_setCell_other _ _ _ _ (by show j ≠ w.heap.size; omega)).more (by omega) (Nat.le_refl _)
      have HB4 : Hid (Below w.heap.size w (wr.setCell ⟨w.heap.size, 0, none⟩ (.slice (some ⟨g, 0, none⟩) 4 c))) := HI.out.bel.setCell (by show _ ≤ w.heap.size; omega) _
      have HD := Lib.hid d0
      clear hR hrows d0 hsz4
      go_wp2
      have d0 := HD.out
      generalize (wr.setCell ⟨w.heap.size, 0, none⟩ (.slice (some ⟨g, 0, none⟩) 4 c)) = wf at d0 HN4 HB4 ⊢
      exact bodyPost_ret (v := .agg #[.slice (some ⟨g, 0, none⟩) 4 c]) (by simp [results, Try.results140, go_sem, d0]) rfl ⟨g, c, rfl, ⟨f, HN4.out⟩, HB4.out⟩
end Go.Proofs.Ytejhmakfbmhhhaa

namespace Go.Proofs.Ytejhmakfbmhhhaa
open Go.RowKit
set_option linter.unusedVariables false
set_option linter.unusedSimpArgs false

theorem quad {w : World} {g : Nat} {T : TypeId} {a b c d : Value} (h : w.heap[g]? = some (.cells #[a, b, c, d] T (0, 0))) :
    (w.cell? ⟨g, 0, none⟩ = some a ∧ w.cell? ⟨g, 1, none⟩ = some b ∧ w.cell? ⟨g, 2, none⟩ = some c ∧ w.cell? ⟨g, 3, none⟩ = some d) ∧ ∀ i, w.frozen? ⟨g, i, none⟩ = false :=
  ⟨⟨(cell_of_row _ _ _ _ _ _ h).trans rfl, (cell_of_row _ _ _ _ _ _ h).trans rfl, (cell_of_row _ _ _ _ _ _ h).trans rfl, (cell_of_row _ _ _ _ _ _ h).trans rfl⟩, fun i => frozen_of_row _ _ _ _ _ h⟩
def quadSet (w : World) (g : Nat) (a b c d : Value) : World := (((w.setCell ⟨g, 0, none⟩ a).setCell ⟨g, 1, none⟩ b).setCell ⟨g, 2, none⟩ c).setCell ⟨g, 3, none⟩ d
theorem quadSet_same {w : World} {g : Nat} {T : TypeId} {a b c d : Value} (x y z u : Value) (h : w.heap[g]? = some (.cells #[a, b, c, d] T (0, 0))) : (quadSet w g x y z u).heap[g]? = some (.cells #[x, y, z, u] T (0, 0)) := by
  have h0 := heap_setCell_same _ _ 0 _ _ x h
  have h1 := heap_setCell_same _ _ 1 _ _ y h0
  have h2 := heap_setCell_same _ _ 2 _ _ z h1
  have h3 := heap_setCell_same _ _ 3 _ _ u h2
  exact h3
theorem quadSet_other {w : World} {g k : Nat} (x y z u : Value) (h : k ≠ g) : (quadSet w g x y z u).heap[k]? = w.heap[k]? :=
  (heap_setCell_other _ _ _ _ h).trans ((heap_setCell_other _ _ _ _ h).trans ((heap_setCell_other _ _ _ _ h).trans (heap_setCell_other _ _ _ _ h)))
theorem quadSet_size (w : World) (g : Nat) (x y z u : Value) : (quadSet w g x y z u).heap.size = w.heap.size := by simp [quadSet, World.setCell]
theorem quadSet_below {B : Nat} {w0 w : World} {g : Nat} (x y z u : Value) (h : Below B w0 w) (hg : B ≤ g) : Below B w0 (quadSet w g x y z u) :=
  (((h.setCell (p := ⟨g, 0, none⟩) hg _).setCell (p := ⟨g, 1, none⟩) hg _).setCell (p := ⟨g, 2, none⟩) hg _).setCell (p := ⟨g, 3, none⟩) hg _

def pv (f : Nat → Nat) (k i : Nat) : Value := if i < k then .pointer (some ⟨f i, 0, none⟩) else .pointer none
def ptrCells (f : Nat → Nat) (k : Nat) : Array Value := #[pv f k 0, pv f k 1, pv f k 2, pv f k 3]
theorem ptrCells_full (f : Nat → Nat) : ptrCells f 4 = #[.pointer (some ⟨f 0, 0, none⟩), .pointer (some ⟨f 1, 0, none⟩), .pointer (some ⟨f 2, 0, none⟩), .pointer (some ⟨f 3, 0, none⟩)] := rfl
theorem ptrCells_put (f : Nat → Nat) (k x : Nat) (hk : k < 4) : (ptrCells f k).setIfInBounds k (.pointer (some ⟨x, 0, none⟩)) = ptrCells (fun i => if i = k then x else f i) (k + 1) := by
  obtain rfl | rfl | rfl | rfl : k = 0 ∨ k = 1 ∨ k = 2 ∨ k = 3 := by omega
  all_goals simp [ptrCells, pv]
/-- Four pointers in block P, of which the first k lead to rows. -/
structure PInv (w wr : World) (P k : Nat) (f : Nat → Nat) (V : Nat → List Int) : Prop where
  bel : Below w.heap.size w wr
  lo : w.heap.size ≤ P
  arr : wr.heap[P]? = some (.cells (ptrCells f k) 71 (0, 0))
  vec : ∀ i, i < k → P < f i ∧ f i < wr.heap.size ∧ wr.heap[f i]? = some (.cells ((V i).map (Value.int .i64)).toArray 130 (0, 0))
  inc : ∀ i j, i < j → j < k → f i < f j
theorem PInv.next {w wr w1 : World} {P k : Nat} {f : Nat → Nat} {V : Nat → List Int} (h : PInv w wr P k f V) (hb : Below wr.heap.size wr w1) : PInv w w1 P k f V := by
  have hs := hb.size
  exact ⟨h.bel.trans (hb.mono h.bel.size), h.lo, (hb.block P (lt_of_block h.arr)).trans h.arr, fun i hi => by
    obtain ⟨a, b, c⟩ := h.vec i hi
    exact ⟨a, by omega, (hb.block _ b).trans c⟩, h.inc⟩
theorem PInv.put {w wr w1 : World} {P k x : Nat} {f : Nat → Nat} {V : Nat → List Int} (h : PInv w wr P k f V) (hk : k < 4) (hb : Below wr.heap.size wr w1) (hx : wr.heap.size ≤ x) (hg : w1.heap[x]? = some (.cells ((V k).map (Value.int .i64)).toArray 130 (0, 0))) :
    PInv w (w1.setCell ⟨P, k, none⟩ (.pointer (some ⟨x, 0, none⟩))) P (k + 1) (fun i => if i = k then x else f i) V ∧ (∃ v, w1.cell? ⟨P, k, none⟩ = some v) ∧ w1.frozen? ⟨P, k, none⟩ = false := by
  have h1 := h.next hb
  have hP := lt_of_block h.arr
  have hxl := lt_of_block hg
  have hsz : (w1.setCell ⟨P, k, none⟩ (.pointer (some ⟨x, 0, none⟩))).heap.size = w1.heap.size := by simp [World.setCell]
  have hps : (ptrCells f k).size = 4 := rfl
  refine ⟨⟨h1.bel.setCell h.lo _, h.lo, ?_, fun i hi => ?_, fun i j hij hj => ?_⟩, ⟨(ptrCells f k)[k], (cell_of_row _ _ _ _ _ _ h1.arr).trans (Array.getElem?_eq_getElem (by omega))⟩, frozen_of_row _ _ _ _ _ h1.arr⟩
  · rw [heap_setCell_same _ _ _ _ _ _ h1.arr, ptrCells_put f k x hk]
  · by_cases e : i = k
    · subst e
      simp only [if_pos]
      exact ⟨by omega, by omega, (heap_setCell_other _ _ _ _ (by show x ≠ P; omega)).trans hg⟩
    · simp only [if_neg e]
      obtain ⟨a, b, c⟩ := h1.vec i (by omega)
      exact ⟨a, by omega, (heap_setCell_other _ _ _ _ (by show f i ≠ P; omega)).trans c⟩
  · have hi : i ≠ k := by omega
    simp only [if_neg hi]
    by_cases e : j = k
    · rw [if_pos e]
      have := (h.vec i (by omega)).2.1
      omega
    · rw [if_neg e]
      exact h.inc i j hij (by omega)
/-- What a table's pointers are, and whether it is one. -/
def PtrsPost (l : List (List Int)) (w : World) (e : Ending) (w' : World) : Prop :=
  ((ackOk l = true ∧ ∃ f : Nat → Nat, e = .returned (.tuple #[.agg #[.pointer (some ⟨f 0, 0, none⟩), .pointer (some ⟨f 1, 0, none⟩), .pointer (some ⟨f 2, 0, none⟩), .pointer (some ⟨f 3, 0, none⟩)], .bool true]) ∧ (∀ i, i < 4 → w.heap.size ≤ f i ∧ f i < w'.heap.size ∧ w'.heap[f i]? = some (.cells ((rowOf l i).map (Value.int .i64)).toArray 130 (0, 0))) ∧ ∀ i j, i < j → j < 4 → f i < f j) ∨
    (ackOk l = false ∧ e = .returned (.tuple #[.agg #[.pointer none, .pointer none, .pointer none, .pointer none], .bool false]))) ∧ Below w.heap.size w w'
set_option maxRecDepth 100000 in
set_option maxHeartbeats 20000000 in
theorem ackRowsOf (w : World) (B : Nat) (a : Option Addr) (n cap : Nat) (l : List (List Int)) (h : IRows w B a n l) (hB : B ≤ w.heap.size) (hr : ∀ i, i < n → (rowOf l i).length ≤ 1048576) :
    Calls Try.prog 58 #[.agg #[.slice a n cap]] w (PtrsPost l w) := by
  obtain ⟨hB0, h1, h2, h3, hz0⟩ := alloc3 w (.cells #[.slice a n cap] 26) (.cells #[.pointer none, .pointer none, .pointer none, .pointer none] 71) (.cells #[.pointer none, .pointer none, .pointer none, .pointer none] 71)
  have HB0 := Lib.hid hB0
  have HRs := Lib.hid h2
  have HP0 := Lib.hid h3
  have HL := Lib.hid h.1
  have H := Lib.hid h
  have HRl := Lib.hid hr
  clear h hr hB0 h1 h2 h3 hz0
  by_cases h4 : n = 4
  rotate_left
  · have h4' : ((n : Int) != 4) = true := by simp; omega
    have HV : Hid (ackOk l = false) := ack_len (by rw [HL.out]; exact h4)
    clear h4
    go_enter Try.func58, Try.ntmps58
    go_wp2
    generalize ((w.alloc (.cells #[.slice a n cap] 26)).alloc (.cells #[.pointer none, .pointer none, .pointer none, .pointer none] 71)).alloc (.cells #[.pointer none, .pointer none, .pointer none, .pointer none] 71) = w0 at HB0 HRs HP0 ⊢
    obtain ⟨⟨c0, c1, c2, c3⟩, _⟩ := quad HRs.out
    exact bodyPost_ret (v := .tuple #[.agg #[.pointer none, .pointer none, .pointer none, .pointer none], .bool false]) (by simp [results, Try.results58, go_sem, c0, c1, c2, c3]) rfl ⟨.inr ⟨HV.out, rfl⟩, HB0.out⟩
  subst h4
  go_enter Try.func58, Try.ntmps58
  go_wp2
  generalize ((w.alloc (.cells #[.slice a 4 cap] 26)).alloc (.cells #[.pointer none, .pointer none, .pointer none, .pointer none] 71)).alloc (.cells #[.pointer none, .pointer none, .pointer none, .pointer none] 71) = w0 at HB0 HRs HP0 ⊢
  go_loopw [17] (fun i wr => ∃ (k : Nat) (f : Nat → Nat), k ≤ 4 ∧ i = .int .i64 (k : Int) ∧ Hid ((l.take k).all vecOk = true) ∧ Hid (PInv w wr (w.heap.size + 1 + 1) k f (rowOf l)) ∧ Hid (wr.heap[w.heap.size + 1]? = some (.cells #[.pointer none, .pointer none, .pointer none, .pointer none] 71 (0, 0)))) (fun i _ => 4 - (intOf i).toNat)
  case atStart => exact ⟨0, fun _ => 0, by omega, rfl, rfl, ⟨HB0.out, by omega, HP0.out, fun i hi => absurd hi (by omega), fun i j _ hj => absurd hj (by omega)⟩, HRs.out⟩
  case round =>
    obtain ⟨k, f, hk, rfl, HA, HI, HR⟩ := hrel
    by_cases hlt : k < 4
    · have hki : (k : Int) < 4 := by omega
      obtain ⟨b, off, ai, ci, rfl, hb, hc, hx⟩ := H.out.2 k hlt
      have hro := HRl.out k hlt
      have hkl : k < l.length := by rw [HL.out]; exact hlt
      have HBr := Lib.hid HI.out.bel
      have c0 : wr.cell? ⟨b, off + k, none⟩ = some (.slice ai (rowOf l k).length ci) := (World.cell?_of_block (a := ⟨b, off + k, none⟩) (HBr.out.block b (by omega))).trans hc
      have hI := hx.below HBr.out hB
      have hBw : B ≤ wr.heap.size := Nat.le_trans hB HBr.out.size
      clear hc hx
      rcases hok : vecOk (rowOf l k) with _ | _
      · have HF := Lib.hid (ack_stop (l := l) hkl hok)
        generalize rowOf l k = xs at c0 hI hro hok
        go_wp2_with fail
        refine (vectorOfNo wr B ai _ ci xs hI hBw hro hok).mono ?_
        rintro e w1 ⟨rfl, hb1⟩
        have hb2 : Below wr.heap.size wr (w1.alloc (.cells #[.int .i64 0, .int .i64 0, .int .i64 0, .int .i64 0] 130)) := hb1.alloc hb1.size _
        have hR := (hb2.block _ (lt_of_block HR.out)).trans HR.out
        obtain ⟨⟨d0, d1, d2, d3⟩, hfz⟩ := quad hR
        have f0 := hfz 0
        have f1 := hfz 1
        have f2 := hfz 2
        have f3 := hfz 3
        have HBf := Lib.hid (quadSet_below (g := w.heap.size + 1) (.pointer none) (.pointer none) (.pointer none) (.pointer none) (HBr.out.trans (hb2.mono HBr.out.size)) (by omega))
        have HRf := Lib.hid (quadSet_same (.pointer none) (.pointer none) (.pointer none) (.pointer none) hR)
        clear hb1 hb2 hR hfz c0
        unfold quadSet at HBf HRf
        go_wp2
        generalize ((((w1.alloc (.cells #[.int .i64 0, .int .i64 0, .int .i64 0, .int .i64 0] 130)).setCell ⟨w.heap.size + 1, 0, none⟩ (.pointer none)).setCell ⟨w.heap.size + 1, 1, none⟩ (.pointer none)).setCell ⟨w.heap.size + 1, 2, none⟩ (.pointer none)).setCell ⟨w.heap.size + 1, 3, none⟩ (.pointer none) = wf at HBf HRf ⊢
        clear d0 d1 d2 d3 f0 f1 f2 f3
        obtain ⟨⟨c0, c1, c2, c3⟩, _⟩ := quad HRf.out
        exact bodyPost_ret (v := .tuple #[.agg #[.pointer none, .pointer none, .pointer none, .pointer none], .bool false]) (by simp [results, Try.results58, go_sem, c0, c1, c2, c3]) rfl ⟨.inr ⟨HF.out, rfl⟩, HBf.out⟩
      · have HA1 := Lib.hid (ack_step hkl HA.out hok)
        obtain ⟨x0, x1, x2, x3, hx⟩ := four hok
        have HX := Lib.hid hx
        rw [hx] at c0 hI hok
        clear hx hro
        have hl4 : ([x0, x1, x2, x3] : List Int).length = 4 := rfl
        rw [hl4] at c0 hI
        go_wp2_with fail
        refine (vectorOfYes wr B ai ci x0 x1 x2 x3 hI hBw hok).mono ?_
        rintro e w1 ⟨rfl, hb1⟩
        have hb2 : Below wr.heap.size wr (w1.alloc (.cells #[.int .i64 x0, .int .i64 x1, .int .i64 x2, .int .i64 x3] 130)) := hb1.alloc hb1.size _
        obtain ⟨hP, ⟨v, e0⟩, f0⟩ := HI.out.put hlt hb2 hb1.size (by rw [HX.out]; exact heap_alloc_new _ _)
        have HP := Lib.hid hP
        have HR1 : Hid (((w1.alloc (.cells #[.int .i64 x0, .int .i64 x1, .int .i64 x2, .int .i64 x3] 130)).setCell ⟨w.heap.size + 1 + 1, k, none⟩ (.pointer (some ⟨w1.heap.size, 0, none⟩))).heap[w.heap.size + 1]? = some (.cells #[.pointer none, .pointer none, .pointer none, .pointer none] 71 (0, 0))) := (heap_setCell_other _ _ _ _ (by show w.heap.size + 1 ≠ w.heap.size + 1 + 1; omega)).trans ((hb2.block _ (lt_of_block HR.out)).trans HR.out)
        clear hP hb1 hb2 c0
        go_wp2
        go_roundw
        case rel => exact ⟨k + 1, _, by omega, by go_num, HA1, HP, HR1⟩
        case measure => simp [intOf]; omega
    · obtain rfl : k = 4 := by omega
      have HV : Hid (ackOk l = true) := (ack_end (by rw [HL.out]; omega) HA.out).trans (decide_eq_true HL.out)
      have ha := HI.out.arr
      rw [ptrCells_full] at ha
      obtain ⟨⟨c0, c1, c2, c3⟩, _⟩ := quad ha
      obtain ⟨⟨d0, d1, d2, d3⟩, hfz⟩ := quad HR.out
      have f0 := hfz 0
      have f1 := hfz 1
      have f2 := hfz 2
      have f3 := hfz 3
      have HBf := Lib.hid (quadSet_below (g := w.heap.size + 1) (.pointer (some ⟨f 0, 0, none⟩)) (.pointer (some ⟨f 1, 0, none⟩)) (.pointer (some ⟨f 2, 0, none⟩)) (.pointer (some ⟨f 3, 0, none⟩)) HI.out.bel (by omega))
      have HRf := Lib.hid (quadSet_same (.pointer (some ⟨f 0, 0, none⟩)) (.pointer (some ⟨f 1, 0, none⟩)) (.pointer (some ⟨f 2, 0, none⟩)) (.pointer (some ⟨f 3, 0, none⟩)) HR.out)
      have HVf : Hid (∀ i, i < 4 → w.heap.size ≤ f i ∧ f i < (quadSet wr (w.heap.size + 1) (.pointer (some ⟨f 0, 0, none⟩)) (.pointer (some ⟨f 1, 0, none⟩)) (.pointer (some ⟨f 2, 0, none⟩)) (.pointer (some ⟨f 3, 0, none⟩))).heap.size ∧ (quadSet wr (w.heap.size + 1) (.pointer (some ⟨f 0, 0, none⟩)) (.pointer (some ⟨f 1, 0, none⟩)) (.pointer (some ⟨f 2, 0, none⟩)) (.pointer (some ⟨f 3, 0, none⟩))).heap[f i]? = some (.cells ((rowOf l i).map (Value.int .i64)).toArray 130 (0, 0))) := fun i hi => by
        obtain ⟨q1, q2, q3⟩ := HI.out.vec i hi
        exact ⟨by omega, by rw [quadSet_size]; exact q2, (quadSet_other _ _ _ _ (by omega)).trans q3⟩
      have HInc := Lib.hid HI.out.inc
      clear ha hfz
      unfold quadSet at HBf HRf HVf
      go_wp2
      generalize (((wr.setCell ⟨w.heap.size + 1, 0, none⟩ (.pointer (some ⟨f 0, 0, none⟩))).setCell ⟨w.heap.size + 1, 1, none⟩ (.pointer (some ⟨f 1, 0, none⟩))).setCell ⟨w.heap.size + 1, 2, none⟩ (.pointer (some ⟨f 2, 0, none⟩))).setCell ⟨w.heap.size + 1, 3, none⟩ (.pointer (some ⟨f 3, 0, none⟩)) = wf at HBf HRf HVf ⊢
      clear c0 c1 c2 c3 d0 d1 d2 d3 f0 f1 f2 f3
      obtain ⟨⟨c0, c1, c2, c3⟩, _⟩ := quad HRf.out
      exact bodyPost_ret (v := .tuple #[.agg #[.pointer (some ⟨f 0, 0, none⟩), .pointer (some ⟨f 1, 0, none⟩), .pointer (some ⟨f 2, 0, none⟩), .pointer (some ⟨f 3, 0, none⟩)], .bool true]) (by simp [results, Try.results58, go_sem, c0, c1, c2, c3]) rfl ⟨.inl ⟨HV.out, f, rfl, HVf.out, HInc.out⟩, HBf.out⟩
end Go.Proofs.Ytejhmakfbmhhhaa

namespace Go.Proofs.Ytejhmakfbmhhhaa
open Go.RowKit
set_option linter.unusedVariables false
set_option linter.unusedSimpArgs false

theorem zipB4 (f : Int → Int → Int) (x0 x1 x2 x3 y0 y1 y2 y3 : Int) : zipI f [x0, x1, x2, x3] [y0, y1, y2, y3] = [f x0 y0, f x1 y1, f x2 y2, f x3 y3] := rfl
theorem vecOk4 (x0 x1 x2 x3 : Int) : vecOk [x0, x1, x2, x3] = true ↔ (0 ≤ x0 ∧ x0 ≤ 40) ∧ (0 ≤ x1 ∧ x1 ≤ 40) ∧ (0 ≤ x2 ∧ x2 ≤ 40) ∧ (0 ≤ x3 ∧ x3 ≤ 40) := by
  simp [vecOk, inV]
theorem vec_min {xs ys : List Int} (hx : vecOk xs = true) (hy : vecOk ys = true) : vecOk (zipI min xs ys) = true := by
  obtain ⟨x0, x1, x2, x3, rfl⟩ := four hx
  obtain ⟨y0, y1, y2, y3, rfl⟩ := four hy
  rw [vecOk4] at hx hy
  rw [zipB4, vecOk4]
  omega
theorem vec_max {xs ys : List Int} (hx : vecOk xs = true) (hy : vecOk ys = true) : vecOk (zipI max xs ys) = true := by
  obtain ⟨x0, x1, x2, x3, rfl⟩ := four hx
  obtain ⟨y0, y1, y2, y3, rfl⟩ := four hy
  rw [vecOk4] at hx hy
  rw [zipB4, vecOk4]
  omega
/-- The least of the first rows. -/
def minTo (l : List (List Int)) : Nat → List Int
  | 0 => rowOf l 0
  | k + 1 => zipI min (minTo l k) (rowOf l (k + 1))
theorem minTo_ok {l : List (List Int)} (h : ackOk l = true) : ∀ {k : Nat}, k < 4 → vecOk (minTo l k) = true
  | 0, _ => (ack_row h (by omega)).1
  | k + 1, hk => vec_min (minTo_ok h (by omega)) (ack_row h hk).1
def stableL (l : List (List Int)) : List Int := if ackOk l = true then minTo l 3 else []
theorem stable_yes {l : List (List Int)} (h : ackOk l = true) : stableL l = minTo l 3 := by unfold stableL; rw [if_pos h]
theorem stable_no {l : List (List Int)} (h : ackOk l = false) : stableL l = [] := by unfold stableL; rw [h]; rfl

theorem wpListR {P : Program} {w : World} {ops : Array Oper} {rest : List Oper} {o : Oper} {a : Act} {Q : Exit → Act → World → Prop} (hgd : o.guard = none) (x y : Operand) (ts : Array TypeId) (hop : o.op = Op.call { callee := Callee.builtin Builtin.append, args := #[x, y], argTypes := ts }) (v1 v2 : Value) {v' : Value} {w' : World} (h1 : a.eval x = v1) (h2 : a.eval y = v2)
    (hrun : (Builtin.append_ ts o.type #[v1, v2]).run P w = .ok v' w') (h : wpList P ops Q rest (a.put o.dst v') w') : wpList P ops Q (o :: rest) a w :=
  wpList_plain hgd fun _ hK => opwpR x y ts hop v1 v2 h1 h2 hrun (hK _ _ h)
/-- A copy of four numbers: append onto an empty slice. -/
theorem copy4 (W : World) (B : Nat) (a : Option Addr) (c : Nat) (xs : List Int) (h : Ints W B a 4 xs) (hB : B ≤ W.heap.size) :
    ∃ va vc W', (Builtin.append_ #[28, 28] 28 #[.slice (some ⟨W.heap.size, 0, none⟩) 0 0, .slice a 4 c]).run Try.prog (W.alloc (.cells #[] 2)) = .ok (.slice va 4 vc) W' ∧ Own W' W.heap.size W'.heap.size va 4 xs ∧ Below W.heap.size W W' := by
  obtain ⟨i0, hi, hz0, hz1, hz2⟩ := info_parts Try.infoI64
  have hown : (W.alloc (.cells #[] 2)).ownsRow W.heap.size 2 1 (.slice (some ⟨W.heap.size, 0, none⟩) 0 0) 0 [] := World.ownsRow_made W #[] 0 (Nat.le_refl _) (by unfold maxLen; omega) rfl
  have hL := h.1
  obtain ⟨b, off, rfl, hb, hc⟩ := h.2 0 (by omega)
  obtain ⟨v', w', hrun, hown', hgr, _⟩ := run_append_own (P := Try.prog) (W.alloc (.cells #[] 2)) W.heap.size 28 28 2 i0 (.int .i64 0) 1 8 Try.underlying28 hi hz0 hz1 hz2 rfl (by decide) _ 0 [] hown ⟨b, off, none⟩ 4 c (xs.map (Value.int .i64)) (by rw [List.length_map, hL])
    (by
      intro j u hj
      have hjl : j < xs.length := by
        rcases Nat.lt_or_ge j xs.length with h' | h'
        · exact h'
        · rw [List.getElem?_eq_none (by simpa using h')] at hj; cases hj
      obtain ⟨b', off', e, hb', hc'⟩ := h.2 j (by omega)
      cases e
      have hlt := block_lt_of_cell hc'
      rw [List.getElem?_map, List.getElem?_eq_getElem hjl] at hj
      cases hj
      rw [add_at, World.cell?_alloc_lt W _ _ hlt, hc', List.getD_eq_getElem?_getD, List.getElem?_eq_getElem hjl]
      rfl)
    (ints_oneCell _ _) (by unfold maxLen; omega) (by omega) (by show _ ≤ (W.heap.push _).size; simp)
  have hb1 := ((Below.refl W.heap.size W).alloc (Nat.le_refl _) _).grown hgr (by simp) (fun j hj => (hown.lt j hj).1)
  obtain ⟨g', cap', hv, _, _⟩ := hown'.form (by omega)
  subst hv
  exact ⟨some ⟨g', 0, none⟩, cap', w', hrun, own_of_row (hi := w'.heap.size) (by simpa using hown') (Nat.le_refl _), hb1⟩
set_option maxRecDepth 100000 in
set_option maxHeartbeats 10000000 in
theorem specStable (w : World) (B : Nat) (a : Option Addr) (n cap : Nat) (l : List (List Int)) (h : IRows w B a n l) (hB : B ≤ w.heap.size) (hn : n ≤ 1048576) (hr : ∀ i, i < n → (rowOf l i).length ≤ 1048576) :
    Calls Try.prog 16 #[.agg #[.slice a n cap]] w (OwnPost (stableL l) w) := by
  have hb0 : Below w.heap.size w (w.alloc (.cells #[.slice a n cap] 26)) := (Below.refl _ w).alloc (Nat.le_refl _) _
  have H := Lib.hid (h.below hb0 hB)
  have HB := Lib.hid hb0
  have HR := Lib.hid hr
  have HL := Lib.hid h.1
  have HX := Lib.hid (heap_alloc_new w (.cells #[.slice a n cap] 26))
  have hsz : w.heap.size < (w.alloc (.cells #[.slice a n cap] 26)).heap.size := by show _ < (w.heap.push _).size; simp
  clear h hb0 hr
  go_enter Try.func16, Try.ntmps16
  go_wp2_with fail
  generalize w.alloc (.cells #[.slice a n cap] 26) = w0 at H HB HX hsz ⊢
  refine (specAcksOk w0 B a n cap l H.out (by omega) hn HR.out).mono ?_
  rintro e w1 ⟨rfl, hb1⟩
  have HB1 := Lib.hid (HB.out.trans (hb1.mono HB.out.size))
  have HX1 := Lib.hid ((hb1.block _ hsz).trans HX.out)
  have H1 := Lib.hid (H.out.below hb1 (by omega))
  have hs1 := hb1.size
  clear hb1 HB HX H
  rcases hok : ackOk l with _ | _
  · have HS := Lib.hid (stable_no hok)
    clear hok
    have HBf := Lib.hid (HB1.out.alloc HB1.out.size (.cells #[] 2))
    go_wp2
    go_ret
    exact ⟨some ⟨w1.heap.size, 0, none⟩, 0, by rw [HS.out]; rfl, by rw [HS.out]; exact ⟨rfl, fun h => absurd h (by simp)⟩, HBf.out⟩
  have HK := Lib.hid hok
  clear hok
  obtain rfl : n = 4 := by have := (ack_row HK.out (i := 0) (by omega)).2; have := HL.out; omega
  have hl0 := vec_len (ack_row HK.out (i := 0) (by omega)).1
  obtain ⟨b, off, ai, ci, rfl, hb, hc, hx⟩ := H1.out.2 0 (by omega)
  rw [hl0] at hc hx
  rw [Nat.add_zero] at hc
  obtain ⟨va, vc, w2, hrun, ho, hb2⟩ := copy4 w1 B ai ci _ hx (by omega)
  have HO := Lib.hid ho
  have hcA : (w1.alloc (.cells #[] 2)).cell? ⟨b, off, none⟩ = some (.slice ai 4 ci) := (World.cell?_alloc_lt w1 _ _ (by show b < w1.heap.size; omega)).trans hc
  have y0 := one_cell HX1.out
  have yA : (w1.alloc (.cells #[] 2)).cell? ⟨w.heap.size, 0, none⟩ = some (.slice (some ⟨b, off, none⟩) 4 cap) := (World.cell?_alloc_lt w1 _ _ (by show w.heap.size < w1.heap.size; omega)).trans y0
  have HB2 := Lib.hid (HB1.out.trans (hb2.mono HB1.out.size))
  have HX2 := Lib.hid ((hb2.block _ (by omega)).trans HX1.out)
  have H2 := Lib.hid (H1.out.below hb2 (by omega))
  have hs2 := hb2.size
  clear ho hx hb2
  go_wp2_with (at_builtin; refine wpListR rfl _ _ _ rfl _ _ rfl rfl hrun ?_)
  clear hcA hc y0 yA hrun HB1 HX1 H1
  go_loopw [3, 4] (fun v i wr => ∃ (k : Nat) (va : Option Addr) (vc : Nat), k < 4 ∧ v = .slice va 4 vc ∧ i = .int .i64 ((k + 1 : Nat) : Int) ∧ Hid (Own wr w.heap.size wr.heap.size va 4 (minTo l k)) ∧ Hid (Below w2.heap.size w2 wr)) (fun _ i _ => 4 - (intOf i).toNat)
  case atStart => exact ⟨0, va, vc, by omega, rfl, rfl, HO.out.more (by omega) (Nat.le_refl _), Below.refl _ _⟩
  case round =>
    obtain ⟨k, xa, xc, hk, rfl, rfl, HV, HBr⟩ := hrel
    have y0 := one_cell ((HBr.out.block _ (by omega)).trans HX2.out)
    have hBs := HBr.out.size
    by_cases hlt : k + 1 < 4
    · have hki : ((k + 1 : Nat) : Int) < 4 := by omega
      obtain ⟨b', off', ai', ci', e, hb', hc', hx'⟩ := (H2.out.below HBr.out (by omega)).2 (k + 1) hlt
      injection e with e
      injection e with e1 e2
      subst e1 e2
      have hrow := ack_row HK.out (i := k + 1) hlt
      rw [vec_len hrow.1] at hc' hx'
      have hz : vecZip min (minTo l k) (rowOf l (k + 1)) = minTo l (k + 1) := vecZip_yes (by rw [minTo_ok HK.out hk, hrow.1]; rfl)
      have hlz := vec_len (minTo_ok HK.out hlt)
      have hsp := specMin wr wr.heap.size B xa ai' 4 xc 4 ci' (minTo l k) (rowOf l (k + 1)) HV.out.ints hx' (Nat.le_refl _) (by omega) (by omega) (by omega)
      rw [hz] at hsp
      have HSp := Lib.hid hsp
      have HLz := Lib.hid hlz
      clear hx' hz hsp hlz
      go_wp2_with fail
      refine HSp.out.mono ?_
      rintro e w3 ⟨za, zc, rfl, ho, hb3⟩
      rw [HLz.out] at ho ⊢
      have HV3 : Hid (Own w3 w.heap.size w3.heap.size za 4 (minTo l (k + 1))) := ho.more (by have := HB2.out.size; omega) (Nat.le_refl _)
      have HB3 := Lib.hid (HBr.out.trans (hb3.mono HBr.out.size))
      clear ho hb3 hc' y0
      go_wp2
      go_roundw
      case rel => exact ⟨k + 1, za, zc, hlt, rfl, by go_num, HV3, HB3⟩
      case measure => simp [intOf]; omega
    · obtain rfl : k = 3 := by omega
      have HS := Lib.hid (stable_yes HK.out)
      have HLz := Lib.hid (vec_len (minTo_ok HK.out hk))
      have HBf := Lib.hid (HB2.out.trans (HBr.out.mono HB2.out.size))
      go_wp2
      go_ret
      exact ⟨xa, xc, by rw [HS.out, HLz.out]; rfl, by rw [HS.out, HLz.out]; exact HV.out, HBf.out⟩
end Go.Proofs.Ytejhmakfbmhhhaa

namespace Go.Proofs.Ytejhmakfbmhhhaa
open Go.RowKit
set_option linter.unusedVariables false
set_option linter.unusedSimpArgs false

theorem vec_list {xs : List Int} {w : World} {g : Nat} {x0 x1 x2 x3 : Int} (hx : xs = [x0, x1, x2, x3]) (h : w.heap[g]? = some (.cells (xs.map (Value.int .i64)).toArray 130 (0, 0))) : w.heap[g]? = some (.cells (arr4 x0 x1 x2 x3) 130 (0, 0)) := by
  rw [hx] at h
  exact h
theorem vec_back {xs : List Int} {w : World} {g : Nat} {x0 x1 x2 x3 : Int} (hx : xs = [x0, x1, x2, x3]) (h : w.heap[g]? = some (.cells (arr4 x0 x1 x2 x3) 130 (0, 0))) : w.heap[g]? = some (.cells (xs.map (Value.int .i64)).toArray 130 (0, 0)) := by
  rw [hx]
  exact h
theorem ptr_at {w : World} {P : Nat} {f : Nat → Nat} (h : w.heap[P]? = some (.cells #[.pointer (some ⟨f 0, 0, none⟩), .pointer (some ⟨f 1, 0, none⟩), .pointer (some ⟨f 2, 0, none⟩), .pointer (some ⟨f 3, 0, none⟩)] 71 (0, 0))) {k : Nat} (hk : k < 4) : w.cell? ⟨P, k, none⟩ = some (.pointer (some ⟨f k, 0, none⟩)) := by
  obtain ⟨⟨c0, c1, c2, c3⟩, _⟩ := quad h
  obtain rfl | rfl | rfl | rfl : k = 0 ∨ k = 1 ∨ k = 2 ∨ k = 3 := by omega
  · exact c0
  · exact c1
  · exact c2
  · exact c3
set_option maxRecDepth 100000 in
set_option maxHeartbeats 10000000 in
theorem implStable (w : World) (B : Nat) (a : Option Addr) (n cap : Nat) (l : List (List Int)) (h : IRows w B a n l) (hB : B ≤ w.heap.size) (hr : ∀ i, i < n → (rowOf l i).length ≤ 1048576) :
    Calls Try.prog 14 #[.agg #[.slice a n cap]] w (fun e w' => ∃ a cap, e = .returned (.slice a (stableL l).length cap) ∧ Own w' w.heap.size w'.heap.size a (stableL l).length (stableL l) ∧ Below w.heap.size w w') := by
  have hb0 : Below w.heap.size w (w.alloc (.cells #[.slice a n cap] 26)) := (Below.refl _ w).alloc (Nat.le_refl _) _
  have H := Lib.hid (h.below hb0 hB)
  have HB := Lib.hid hb0
  have HR := Lib.hid hr
  have hsz : w.heap.size ≤ (w.alloc (.cells #[.slice a n cap] 26)).heap.size := hb0.size
  clear h hb0 hr
  go_enter Try.func14, Try.ntmps14
  go_wp2_with fail
  generalize w.alloc (.cells #[.slice a n cap] 26) = w0 at H HB hsz ⊢
  refine (ackRowsOf w0 B a n cap l H.out (by omega) HR.out).mono ?_
  rintro e w1 ⟨hcase, hb1⟩
  have HB1 := Lib.hid (HB.out.trans (hb1.mono HB.out.size))
  have hs1 : w.heap.size ≤ w1.heap.size := HB1.out.size
  clear hb1
  rcases hcase with ⟨hok, f, rfl, hvec, hinc⟩ | ⟨hok, rfl⟩
  rotate_left
  · have HS := Lib.hid (stable_no hok)
    clear hok
    have HBa := Lib.hid (HB1.out.alloc hs1 (.cells #[.pointer none, .pointer none, .pointer none, .pointer none] 71))
    go_wp2
    go_ret
    exact ⟨none, 0, by rw [HS.out]; rfl, by rw [HS.out]; exact ⟨rfl, fun h => absurd h (by simp)⟩, HBa.out⟩
  have HK := Lib.hid hok
  clear hok
  have hba : Below w1.heap.size w1 (w1.alloc (.cells #[.pointer (some ⟨f 0, 0, none⟩), .pointer (some ⟨f 1, 0, none⟩), .pointer (some ⟨f 2, 0, none⟩), .pointer (some ⟨f 3, 0, none⟩)] 71)) := (Below.refl _ _).alloc (Nat.le_refl _) _
  have HP := Lib.hid (heap_alloc_new w1 (.cells #[.pointer (some ⟨f 0, 0, none⟩), .pointer (some ⟨f 1, 0, none⟩), .pointer (some ⟨f 2, 0, none⟩), .pointer (some ⟨f 3, 0, none⟩)] 71))
  have HV := Lib.hid (fun i hi => (⟨(hvec i hi).1, (hvec i hi).2.1, (hba.block _ (hvec i hi).2.1).trans (hvec i hi).2.2⟩ : w0.heap.size ≤ f i ∧ f i < w1.heap.size ∧ (w1.alloc (.cells #[.pointer (some ⟨f 0, 0, none⟩), .pointer (some ⟨f 1, 0, none⟩), .pointer (some ⟨f 2, 0, none⟩), .pointer (some ⟨f 3, 0, none⟩)] 71)).heap[f i]? = some (.cells ((rowOf l i).map (Value.int .i64)).toArray 130 (0, 0))))
  have HB2 := Lib.hid (HB1.out.trans (hba.mono hs1))
  have HInc := Lib.hid hinc
  clear hvec hinc hba
  go_upto_region 2 with fail
  generalize w1.alloc (.cells #[.pointer (some ⟨f 0, 0, none⟩), .pointer (some ⟨f 1, 0, none⟩), .pointer (some ⟨f 2, 0, none⟩), .pointer (some ⟨f 3, 0, none⟩)] 71) = w2 at HP HV HB2 ⊢
  have y0 := ptr_at (k := 0) HP.out (by omega)
  go_wp2
  clear y0
  go_loopw [19] (fun i wr => ∃ (k : Nat), k < 4 ∧ i = .int .i64 (k : Int) ∧ Hid (wr.heap[f 0]? = some (.cells ((minTo l k).map (Value.int .i64)).toArray 130 (0, 0))) ∧ Hid (Outside (f 0) (f 0 + 1) w2 wr)) (fun i _ => 3 - (intOf i).toNat)
  case atStart => exact ⟨0, by omega, rfl, (HV.out 0 (by omega)).2.2, ⟨rfl, rfl, rfl, rfl, fun _ _ => rfl⟩⟩
  case round =>
    obtain ⟨k, hk, rfl, HM, HO⟩ := hrel
    have hf0 := (HV.out 0 (by omega)).2.1
    by_cases hlt : k < 3
    · have hki : (k : Int) < 3 := by omega
      have hne : f 0 < f (k + 1) := HInc.out 0 (k + 1) (by omega) (by omega)
      have hrow := ack_row HK.out (i := k + 1) (by omega)
      obtain ⟨x0, x1, x2, x3, hx⟩ := four (minTo_ok HK.out hk)
      obtain ⟨y0, y1, y2, y3, hy⟩ := four hrow.1
      have hgx := vec_list hx HM.out
      have hgy := vec_list hy ((HO.out.block (f (k + 1)) (by omega)).trans (HV.out (k + 1) (by omega)).2.2)
      have hmn : minTo l (k + 1) = [min x0 y0, min x1 y1, min x2 y2, min x3 y3] := by show zipI min (minTo l k) (rowOf l (k + 1)) = _; rw [hx, hy]; rfl
      have HMn := Lib.hid hmn
      have c0 := ptr_at (k := k + 1) ((HO.out.block w1.heap.size (by omega)).trans HP.out) (by omega)
      rw [Nat.add_comm k 1] at c0
      generalize hfk : f (k + 1) = fk at hne hgy
      have hfk2 : f (1 + k) = fk := by rw [Nat.add_comm 1 k]; exact hfk
      rw [hfk2] at c0
      have hLw := Lib.hid (implLower wr (f 0) fk x0 x1 x2 x3 y0 y1 y2 y3 hgx hgy (by omega))
      clear hx hy hgx hgy hmn hrow hfk hfk2
      go_wp2_with fail
      refine hLw.out.mono ?_
      rintro e w3 ⟨rfl, ho, hg⟩
      have HM3 := Lib.hid (vec_back HMn.out hg)
      have HO3 : Hid (Outside (f 0) (f 0 + 1) w2 w3) := ⟨ho.os.trans HO.out.os, ho.tape.trans HO.out.tape, ho.output.trans HO.out.output, ho.size.trans HO.out.size, fun j hj => (ho.block j hj).trans (HO.out.block j hj)⟩
      clear ho hg c0
      go_wp2
      go_roundw
      case rel => exact ⟨k + 1, by omega, by go_num, HM3, HO3⟩
      case measure => simp [intOf]; omega
    · obtain rfl : k = 3 := by omega
      have HS := Lib.hid (stable_yes HK.out)
      obtain ⟨x0, x1, x2, x3, hx⟩ := four (minTo_ok HK.out hk)
      have hgx := vec_list hx HM.out
      obtain ⟨⟨c0, c1, c2, c3⟩, _⟩ := cells4 hgx
      have HX := Lib.hid hx
      have HBr := Lib.hid (HB2.out.trans (HO.out.below (B := w.heap.size) (by have := (HV.out 0 (by omega)).1; omega)))
      clear hgx hx
      go_wp2_with fail
      refine (vlist4 wr x0 x1 x2 x3).mono ?_
      rintro e w3 ⟨va, vc, rfl, ho, hb3⟩
      have HOw : Hid (Own w3 w.heap.size w3.heap.size va 4 [x0, x1, x2, x3]) := ho.more HBr.out.size (Nat.le_refl _)
      have HBf := Lib.hid (HBr.out.trans (hb3.mono HBr.out.size))
      clear ho hb3 c0 c1 c2 c3
      go_wp2
      go_ret
      exact ⟨va, vc, by rw [HS.out, HX.out]; rfl, by rw [HS.out, HX.out]; exact HOw.out, HBf.out⟩
end Go.Proofs.Ytejhmakfbmhhhaa

namespace Go.Proofs.Ytejhmakfbmhhhaa
open Go.RowKit

def heardB (l : List (List Int)) (dev : Int) (ys : List Int) : Bool := ackOk l && (inB dev 0 3 && vecOk ys)
theorem heard_ack {l : List (List Int)} {dev : Int} {ys : List Int} (h : ackOk l = false) : heardB l dev ys = false := by unfold heardB; rw [h]; rfl
theorem heard_dev {l : List (List Int)} {dev : Int} {ys : List Int} (h : inB dev 0 3 = false) : heardB l dev ys = false := by unfold heardB; rw [h]; simp
theorem heard_vec {l : List (List Int)} {dev : Int} {ys : List Int} (h : vecOk ys = false) : heardB l dev ys = false := by unfold heardB; rw [h]; simp
theorem heard_yes {l : List (List Int)} {dev : Int} {ys : List Int} (h : ackOk l = true) (h2 : inB dev 0 3 = true) (h3 : vecOk ys = true) : heardB l dev ys = true := by unfold heardB; rw [h, h2, h3]; rfl
def heardRows (l : List (List Int)) (d : Nat) (ys : List Int) : List (List Int) := l.set d (zipI max (rowOf l d) ys)
theorem heard_len (l : List (List Int)) (d : Nat) (ys : List Int) : (heardRows l d ys).length = l.length := by unfold heardRows; rw [List.length_set]
theorem heard_at {l : List (List Int)} {d i : Nat} (ys : List Int) (hd : d < l.length) : rowOf (heardRows l d ys) i = if i = d then zipI max (rowOf l d) ys else rowOf l i := by
  by_cases e : i = d
  · subst e
    rw [if_pos rfl]
    show (heardRows l i ys).getD i [] = _
    unfold heardRows
    rw [List.getD_eq_getElem?_getD, List.getElem?_set_self (by exact hd)]
    rfl
  · rw [if_neg e]
    show (heardRows l d ys).getD i [] = l.getD i []
    unfold heardRows
    rw [List.getD_eq_getElem?_getD, List.getD_eq_getElem?_getD, List.getElem?_set_ne (fun h => e h.symm)]
theorem heard_ok {l : List (List Int)} {d : Nat} {ys : List Int} (h : ackOk l = true) (hd : d < 4) (hy : vecOk ys = true) {i : Nat} (hi : i < 4) : vecOk (rowOf (heardRows l d ys) i) = true := by
  rw [heard_at ys (by rw [(ack_row h hd).2]; exact hd)]
  by_cases e : i = d
  · rw [if_pos e]; exact vec_max (ack_row h hd).1 hy
  · rw [if_neg e]; exact (ack_row h hi).1
theorem dev_nat {dev : Int} (h : inB dev 0 3 = true) : ∃ d : Nat, d < 4 ∧ dev = (d : Int) := by
  unfold inB at h
  simp at h
  exact ⟨dev.toNat, by omega, by omega⟩
/-- What Heard answers. -/
def HeardPost (l : List (List Int)) (dev : Int) (ys : List Int) (w : World) (e : Ending) (w' : World) : Prop :=
  ((heardB l dev ys = true ∧ ∃ (d g c : Nat) (f : Nat → Nat), d < 4 ∧ dev = (d : Int) ∧ e = .returned (.tuple #[.agg #[.slice (some ⟨g, 0, none⟩) 4 c], .bool true]) ∧ RowsAt w' w.heap.size w'.heap.size g 4 f (rowOf (heardRows l d ys))) ∨
    (heardB l dev ys = false ∧ e = .returned (.tuple #[.agg #[.slice none 0 0], .bool false]))) ∧ Below w.heap.size w w'

set_option maxRecDepth 100000 in
set_option maxHeartbeats 20000000 in
theorem specHeard (w : World) (B : Nat) (a av : Option Addr) (n cap nv cv : Nat) (dev : Int) (l : List (List Int)) (ys : List Int) (h : IRows w B a n l) (hy : Ints w B av nv ys) (hB : B ≤ w.heap.size) (hn : n ≤ 1048576) (hnv : nv ≤ 1048576) (hr : ∀ i, i < n → (rowOf l i).length ≤ 1048576) :
    Calls Try.prog 141 #[.agg #[.slice a n cap], .int .i64 dev, .slice av nv cv] w (HeardPost l dev ys w) := by
  obtain ⟨hB0, h1, h2, hz0⟩ := alloc2 w (.cells #[.slice a n cap] 26) (.cells #[.slice none 0 0] 26)
  have HA := Lib.hid h1
  have HRs := Lib.hid h2
  have HB := Lib.hid hB0
  have H := Lib.hid (h.below hB0 hB)
  have HY := Lib.hid (hy.below hB0 hB)
  have HL := Lib.hid h.1
  have HR := Lib.hid hr
  clear h hy hr hB0 h1 h2
  go_enter Try.func141, Try.ntmps141
  go_wp2_with fail
  generalize (w.alloc (.cells #[.slice a n cap] 26)).alloc (.cells #[.slice none 0 0] 26) = w0 at HA HRs HB H HY hz0 ⊢
  refine (specAcksOk w0 B a n cap l H.out (by omega) hn HR.out).mono ?_
  rintro e w1 ⟨rfl, hb1⟩
  have HA1 := Lib.hid ((hb1.block _ (by omega)).trans HA.out)
  have HR1 := Lib.hid ((hb1.block _ (by omega)).trans HRs.out)
  have HB1 := Lib.hid (HB.out.trans (hb1.mono HB.out.size))
  have H1 := Lib.hid (H.out.below hb1 (by omega))
  have HY1 := Lib.hid (HY.out.below hb1 (by omega))
  have hs1 := hb1.size
  clear hb1 HA HRs HB H HY
  rcases hok : ackOk l with _ | _
  · have HF := Lib.hid (heard_ack (dev := dev) (ys := ys) hok)
    clear hok
    have rF := HR1.out
    have r0 := one_cell rF
    have q0 : w1.frozen? ⟨w.heap.size + 1, 0, none⟩ = false := frozen_of_row _ _ _ _ _ rF
    have HD := Lib.hid (cell_set1 (.slice none 0 0) rF)
    have HBf := Lib.hid (HB1.out.setCell (p := ⟨w.heap.size + 1, 0, none⟩) (by show w.heap.size ≤ w.heap.size + 1; omega) (.slice none 0 0))
    clear rF
    go_wp2
    have d0 := HD.out
    generalize w1.setCell ⟨w.heap.size + 1, 0, none⟩ (.slice none 0 0) = wf at d0 HBf ⊢
    exact bodyPost_ret (v := .tuple #[.agg #[.slice none 0 0], .bool false]) (by simp [results, Try.results141, go_sem, d0]) rfl ⟨.inr ⟨HF.out, rfl⟩, HBf.out⟩
  have HK := Lib.hid hok
  clear hok
  go_wp2_with fail
  refine (l3Dev dev w1).mono ?_
  rintro e w2 ⟨rfl, rfl⟩
  rcases hdv : inB dev 0 3 with _ | _
  · have HF := Lib.hid (heard_dev (l := l) (ys := ys) hdv)
    clear hdv
    have rF := HR1.out
    have r0 := one_cell rF
    have q0 : w1.frozen? ⟨w.heap.size + 1, 0, none⟩ = false := frozen_of_row _ _ _ _ _ rF
    have HD := Lib.hid (cell_set1 (.slice none 0 0) rF)
    have HBf := Lib.hid (HB1.out.setCell (p := ⟨w.heap.size + 1, 0, none⟩) (by show w.heap.size ≤ w.heap.size + 1; omega) (.slice none 0 0))
    clear rF
    go_wp2
    have d0 := HD.out
    generalize w1.setCell ⟨w.heap.size + 1, 0, none⟩ (.slice none 0 0) = wf at d0 HBf ⊢
    exact bodyPost_ret (v := .tuple #[.agg #[.slice none 0 0], .bool false]) (by simp [results, Try.results141, go_sem, d0]) rfl ⟨.inr ⟨HF.out, rfl⟩, HBf.out⟩
  obtain ⟨d, hd4, hdd⟩ := dev_nat hdv
  have HDv := Lib.hid hdv
  clear hdv
  go_wp2_with fail
  refine (specVecOk w1 B av nv cv ys HY1.out hnv).mono ?_
  rintro e w2 ⟨rfl, rfl⟩
  rcases hvk : vecOk ys with _ | _
  · have HF := Lib.hid (heard_vec (l := l) (dev := dev) hvk)
    clear hvk
    have rF := HR1.out
    have r0 := one_cell rF
    have q0 : w1.frozen? ⟨w.heap.size + 1, 0, none⟩ = false := frozen_of_row _ _ _ _ _ rF
    have HD := Lib.hid (cell_set1 (.slice none 0 0) rF)
    have HBf := Lib.hid (HB1.out.setCell (p := ⟨w.heap.size + 1, 0, none⟩) (by show w.heap.size ≤ w.heap.size + 1; omega) (.slice none 0 0))
    clear rF
    go_wp2
    have d0 := HD.out
    generalize w1.setCell ⟨w.heap.size + 1, 0, none⟩ (.slice none 0 0) = wf at d0 HBf ⊢
    exact bodyPost_ret (v := .tuple #[.agg #[.slice none 0 0], .bool false]) (by simp [results, Try.results141, go_sem, d0]) rfl ⟨.inr ⟨HF.out, rfl⟩, HBf.out⟩
  have HYk := Lib.hid hvk
  have HHB := Lib.hid (heard_yes HK.out HDv.out hvk)
  clear hvk
  subst hdd
  obtain rfl : n = 4 := by have := (ack_row HK.out (i := 0) (by omega)).2; have := HL.out; omega
  have hba : Below w1.heap.size w1 (w1.alloc (.cells #[.slice none 0 0] 26)) := (Below.refl _ _).alloc (Nat.le_refl _) _
  have HN2 := Lib.hid (heap_alloc_new w1 (.cells #[.slice none 0 0] 26))
  have hz2 : (w1.alloc (.cells #[.slice none 0 0] 26)).heap.size = w1.heap.size + 1 := by show (w1.heap.push _).size = _; simp
  have HBa := Lib.hid hba
  clear hba
  go_wp2
  generalize w1.alloc (.cells #[.slice none 0 0] 26) = w2 at HN2 hz2 HBa ⊢
  go_loopw [9] (fun i wr => ∃ (k : Nat) (v : Value) (f : Nat → Nat), k ≤ 4 ∧ i = .int .i64 (k : Int) ∧ Hid (AInv w1 wr w1.heap.size (w1.heap.size + 1) k v f (rowOf (heardRows l d ys)))) (fun i _ => 4 - (intOf i).toNat)
  case atStart => exact ⟨0, _, _, by omega, rfl, AInv.first _ _ _ _ _ HN2.out HBa.out (Nat.le_refl _) (by omega) (by omega)⟩
  case round =>
    obtain ⟨k, v, f, hk, rfl, HI⟩ := hrel
    have hbs := HI.out.bel.size
    have y0 := one_cell ((HI.out.bel.block _ (by omega)).trans HA1.out)
    by_cases hlt : k < 4
    · have hki : (k : Int) < 4 := by omega
      obtain ⟨b, off, ai, ci, rfl, hb, hc, hx⟩ := (H1.out.below HI.out.bel (by omega)).2 k hlt
      have hrow := ack_row HK.out hlt
      rw [vec_len hrow.1] at hc hx
      obtain ⟨va, vc, z1, hrun, ho, hb1⟩ := copy4 wr B ai ci _ hx (by omega)
      have HO := Lib.hid ho
      have hcA : (wr.alloc (.cells #[] 2)).cell? ⟨b, off + k, none⟩ = some (.slice ai 4 ci) := (World.cell?_alloc_lt wr _ _ (by show b < wr.heap.size; omega)).trans hc
      have yA : (wr.alloc (.cells #[] 2)).cell? ⟨w.heap.size, 0, none⟩ = some (.slice (some ⟨b, off, none⟩) 4 cap) := (World.cell?_alloc_lt wr _ _ (by show w.heap.size < wr.heap.size; omega)).trans y0
      have hI1 := HI.out.next hb1
      have HI1 := Lib.hid hI1
      have HYz := Lib.hid (HY1.out.below hI1.bel (by omega))
      have HSt := Lib.hid (fun i hi => (HI.out.stock i hi).2)
      have hs1z := hb1.size
      have HRow := Lib.hid hrow.1
      have hhi := HI.out.hi
      clear ho hx hb1 hI1 hrow HI
      by_cases hdk : (k : Int) = (d : Int)
      · obtain rfl : k = d := by omega
        have hz : vecZip max (rowOf l k) ys = rowOf (heardRows l k ys) k := by
          rw [vecZip_yes (by rw [HRow.out, HYk.out]; rfl), heard_at ys (by rw [(ack_row HK.out hlt).2]; exact hlt), if_pos rfl]
        have hsp := specMax z1 z1.heap.size B va av 4 vc nv cv (rowOf l k) ys HO.out.ints HYz.out (Nat.le_refl _) (by omega) (by omega) hnv
        rw [hz] at hsp
        have HSp := Lib.hid hsp
        have HLz := Lib.hid (vec_len (heard_ok HK.out hlt HYk.out hlt))
        clear hsp hz
        go_wp2_with (at_builtin; refine wpListR rfl _ _ _ rfl _ _ rfl rfl hrun ?_)
        clear hcA hc y0 yA hrun
        refine HSp.out.mono ?_
        rintro e z2 ⟨xa, xc, rfl, ho2, hb2⟩
        rw [HLz.out] at ho2 ⊢
        have HO2 := Lib.hid ho2
        have HI2 := Lib.hid (HI1.out.next hb2)
        clear ho2 hb2
        obtain ⟨f', ua, uc, z3, hrun2, n1, nA, n3, f3, hI4, _⟩ := HI2.out.push (c := xc) HO2.out (by omega) (fun i hi => by have := HSt.out i hi; omega) (by omega)
        have HI4 := Lib.hid hI4
        clear hI4
        go_wp2_with (at_builtin; refine wpListR rfl _ _ _ rfl _ _ rfl rfl hrun2 ?_)
        try go_wp2
        clear n1 nA n3 f3 hrun2
        generalize z3.setCell ⟨w1.heap.size, 0, none⟩ (.slice ua (k + 1) uc) = z4 at HI4 ⊢
        go_roundw
        case rel => exact ⟨k + 1, _, f', by omega, by go_num, HI4⟩
        case measure => simp [intOf]; omega
      · have hz : rowOf (heardRows l d ys) k = rowOf l k := by
          rw [heard_at ys (by rw [(ack_row HK.out hd4).2]; exact hd4), if_neg (by omega)]
        have HO2 : Hid (Own z1 wr.heap.size z1.heap.size va 4 (rowOf (heardRows l d ys) k)) := by
          show Own _ _ _ _ _ _
          rw [hz]
          exact HO.out
        clear hz
        obtain ⟨f', ua, uc, z3, hrun2, n1, nA, n3, f3, hI4, _⟩ := HI1.out.push (c := vc) HO2.out (by omega) (fun i hi => HSt.out i hi) (by omega)
        have HI4 := Lib.hid hI4
        clear hI4
        go_wp2_with (at_builtin; first | refine wpListR rfl _ _ _ rfl _ _ rfl rfl hrun ?_ | refine wpListR rfl _ _ _ rfl _ _ rfl rfl hrun2 ?_)
        try go_wp2
        clear n1 nA n3 f3 hrun2
        generalize z3.setCell ⟨w1.heap.size, 0, none⟩ (.slice ua (k + 1) uc) = z4 at HI4 ⊢
        go_roundw
        case rel => exact ⟨k + 1, _, f', by omega, by go_num, HI4⟩
        case measure => simp [intOf]; omega
    · obtain rfl : k = 4 := by omega
      obtain ⟨g, c, rfl, hrows⟩ := HI.out.rows (by omega) (fun i hi => vec_len (heard_ok HK.out hd4 HYk.out hi))
      have HNt := Lib.hid hrows
      have n0 := one_cell HI.out.box
      have hR := (HI.out.bel.block (w.heap.size + 1) (by omega)).trans HR1.out
      have r0 := one_cell hR
      have q0 : wr.frozen? ⟨w.heap.size + 1, 0, none⟩ = false := frozen_of_row _ _ _ _ _ hR
      have HD := Lib.hid (cell_set1 (.slice (some ⟨g, 0, none⟩) 4 c) hR)
      have HN4 : Hid (RowsAt (wr.setCell ⟨w.heap.size + 1, 0, none⟩ (.slice (some ⟨g, 0, none⟩) 4 c)) w.heap.size (wr.setCell ⟨w.heap.size + 1, 0, none⟩ (.slice (some ⟨g, 0, none⟩) 4 c)).heap.size g 4 f (rowOf (heardRows l d ys))) := by
        rw [show (wr.setCell ⟨w.heap.size + 1, 0, none⟩ (.slice (some ⟨g, 0, none⟩) 4 c)).heap.size = wr.heap.size by simp [World.setCell]]
        exact (HNt.out.kept fun j h1 h2 => heap_setCell_other _ _ _ _ (by show j ≠ w.heap.size + 1; omega)).more (by omega) (Nat.le_refl _)
      have HB4 : Hid (Below w.heap.size w (wr.setCell ⟨w.heap.size + 1, 0, none⟩ (.slice (some ⟨g, 0, none⟩) 4 c))) := (HB1.out.trans (HI.out.bel.mono HB1.out.size)).setCell (by show _ ≤ w.heap.size + 1; omega) _
      clear hR hrows
      go_wp2
      have d0 := HD.out
      generalize wr.setCell ⟨w.heap.size + 1, 0, none⟩ (.slice (some ⟨g, 0, none⟩) 4 c) = wf at d0 HN4 HB4 ⊢
      exact bodyPost_ret (v := .tuple #[.agg #[.slice (some ⟨g, 0, none⟩) 4 c], .bool true]) (by simp [results, Try.results141, go_sem, d0]) rfl ⟨.inl ⟨HHB.out, d, g, c, f, hd4, rfl, rfl, HN4.out⟩, HB4.out⟩
end Go.Proofs.Ytejhmakfbmhhhaa
