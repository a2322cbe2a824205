/- Walks and mathematics that several claims share, part 25. -/
import Derived.Test.YtejhmakfbmhhhaaGreatGx23
import Derived.Test.YtejhmakfbmhhhaaGreatGx2
import Derived.Test.YtejhmakfbmhhhaaGreatGx13
import Derived.Test.YtejhmakfbmhhhaaGreatGx22
import Derived.Deep.Cut
import Derived.Deep.AppendLies
import Derived.Lib.SliceRun
import Derived.Lib.MinMax
import Derived.Deep.RegionHeld3
import Derived.Test.YtejhmakfbmhhhaaGreatGxA
namespace Go.Proofs.YtejhmakfbmhhhaaGreat
set_option maxRecDepth 100000
open Go.RowKit

def opRow (o : OpV) : List Value := [.int .i64 o.dev, .int .i64 o.seq, .int .i64 o.stamp, .int .i64 o.kind, .string o.item, .int .i64 o.qty, .int .i64 o.level, .int .i64 o.undos]
def opCells : List OpV → List Value
 | [] => []
 | x :: l => opRow x ++ opCells l
theorem opCells_len : ∀ l : List OpV, (opCells l).length = l.length * 8
 | [] => rfl
 | x :: l => by
  show (opRow x ++ opCells l).length = _
  rw [List.length_append, opCells_len l, List.length_cons]
  show 8 + _ = _
  omega
theorem opCells_snoc (x : OpV) : ∀ l : List OpV, opCells (l ++ [x]) = opCells l ++ opRow x
 | [] => by show opRow x ++ [] = [] ++ opRow x; rw [List.append_nil, List.nil_append]
 | y :: l => by
  show opRow y ++ opCells (l ++ [x]) = (opRow y ++ opCells l) ++ opRow x
  rw [opCells_snoc x l, List.append_assoc]
theorem opCells_at : ∀ (l : List OpV) (i u : Nat), i < l.length → u < 8 → (opCells l)[i * 8 + u]? = (opRow (l.getD i OpV.zero))[u]?
 | x :: l, 0, u, _, hu => by
  show (opRow x ++ opCells l)[0 * 8 + u]? = (opRow x)[u]?
  rw [Nat.zero_mul, Nat.zero_add, List.getElem?_append_left (by show u < 8; exact hu)]
 | x :: l, i + 1, u, hi, hu => by
  show (opRow x ++ opCells l)[(i + 1) * 8 + u]? = (opRow (l.getD i OpV.zero))[u]?
  rw [List.getElem?_append_right (by show 8 ≤ _; omega)]
  have e : (i + 1) * 8 + u - (opRow x).length = i * 8 + u := by show _ - 8 = _; omega
  rw [e, opCells_at l i u (by simpa using hi) hu]
theorem opCells_one : ∀ l : List OpV, ∀ u ∈ opCells l, u.oneCell' = true
 | [], u, h => by cases h
 | x :: l, u, h => by
  rcases List.mem_append.1 h with h1 | h1
  ·simp only [opRow, List.mem_cons, List.not_mem_nil, or_false] at h1
   rcases h1 with rfl | rfl | rfl | rfl | rfl | rfl | rfl | rfl <;> rfl
  ·exact opCells_one l u h1
theorem own_of_cells {w : World} {base hi : Nat} {a : Option Addr} {n cap : Nat} {l : List OpV} (h : w.ownsRow base 39 8 (.slice a n cap) n (opCells l)) (hh : w.heap.size ≤ hi) : OwnOps w base hi a n l := by
 have hl : l.length = n := by have := h.1; rw [opCells_len] at this; omega
 refine ⟨hl, fun hn => ?_⟩
 rcases h.2 with ⟨e, _⟩ | ⟨g, c, cur, e, hb, hg, hnc, _, hs, ht⟩
 ·cases e; omega
 ·injection e with e1 e2 e3
  have key : ∀ i u, i < n → u < 8 → cur[0 + i * 8 + u]? = (opRow (l.getD i OpV.zero))[u]? := fun i u hi' hu => by
   have h2 : (cur.toList.take (n * 8))[i * 8 + u]? = (opCells l)[i * 8 + u]? := by rw [ht]
   rw [List.getElem?_take_of_lt (by omega), opCells_at l i u (by omega) hu] at h2
   rw [Nat.zero_add, ← Array.getElem?_toList, h2]
  refine ⟨g, 0, cur, e1, hb, by have := (Array.getElem?_eq_some_iff.1 hg).1; omega, hg, by rw [hs]; have : n * 8 ≤ c * 8 := by omega
                                                                                           omega, fun i hi' => ?_⟩
  exact ⟨key i 0 hi' (by omega), key i 1 hi' (by omega), key i 2 hi' (by omega), key i 3 hi' (by omega), key i 4 hi' (by omega), key i 5 hi' (by omega), key i 6 hi' (by omega), key i 7 hi' (by omega)⟩
/-- What stands in a slice of operations, cell by cell, as 'append' asks. -/
theorem cells_of_ops {w : World} {B b off n : Nat} {l : List OpV} (h : Ops w B (some ⟨b, off, none⟩) n l) : ∀ j u, (opCells l)[j]? = some u → w.cell? ((⟨b, off, none⟩ : Addr).add j) = some u := by
 intro j u hj
 have hjl : j < l.length * 8 := by
  rcases Nat.lt_or_ge j (l.length * 8) with h' | h'
  ·exact h'
  ·rw [List.getElem?_eq_none (by rw [opCells_len]; exact h')] at hj; cases hj
 have hd : j = (j / 8) * 8 + j % 8 := by omega
 have hi : j / 8 < l.length := by omega
 obtain ⟨b', off', e, _, ho⟩ := h.2 (j / 8) (by rw [← h.1]; exact hi)
 injection e with e
 injection e with e1 e2
 subst e1 e2
 rw [hd, opCells_at l _ _ hi (by omega)] at hj
 rw [add_at]
 have hm : j % 8 < 8 := by omega
 obtain ⟨h0, h1, h2, h3, h4, h5, h6, h7⟩ := ho
 have hj8 : off + j = off + j / 8 * 8 + j % 8 := by omega
 rw [hj8]
 generalize j % 8 = m at hj hm ⊢
 obtain rfl | rfl | rfl | rfl | rfl | rfl | rfl | rfl : m = 0 ∨ m = 1 ∨ m = 2 ∨ m = 3 ∨ m = 4 ∨ m = 5 ∨ m = 6 ∨ m = 7 := by omega
 ·cases hj
  exact h0
 ·cases hj
  exact h1
 ·cases hj
  exact h2
 ·cases hj
  exact h3
 ·cases hj
  exact h4
 ·cases hj
  exact h5
 ·cases hj
  exact h6
 ·cases hj
  exact h7
set_option maxHeartbeats 5000000 in
theorem cloneZero (w : World) (ad : Addr) (cap : Nat) : Calls Tryz.prog 111 #[.slice (some ad) 0 cap] w (OpsPost [] w) := by
 obtain ⟨i0, hi, hz0, hz1, hz2⟩ := info_parts Tryz.infoOp
 have hnil := fun w => Lib.run_eql_slice_nil (P := Tryz.prog) w 25 39 (some ad) 0 cap 0 0 Tryz.underlying25
 have hown : (w.alloc (.cells #[] 39)).ownsRow w.heap.size 39 8 (.slice (some ⟨w.heap.size, 0, none⟩) 0 0) 0 [] := World.ownsRow_made w #[] 0 (Nat.le_refl _) (by unfold maxLen; omega) rfl
 go_enter Tryz.func111, Tryz.ntmps111
 go_wp2_with (at_builtin; refine wpList_append_own _ rfl _ _ 25 rfl w.heap.size 39 i0 (.agg #[.int .i64 0, .int .i64 0, .int .i64 0, .int .i64 0, .string ⟨#[]⟩, .int .i64 0, .int .i64 0, .int .i64 0]) 8 72 Tryz.underlying25 hi hz0 hz1 hz2 rfl (by decide) _ _ _ rfl hown ad 0 cap [] rfl ?c0 ?c1 ?c2 ?c3 ?c4 ?c5 ?_)
 case c0 => rfl
 case c1 => intro j u hj; cases hj
 case c2 => intro u hu; cases hu
 case c3 => unfold maxLen; omega
 case c4 => omega
 case c5 => simp
 intro v' w1 hown' hgrow hnn
 have hb1 := ((Below.refl w.heap.size w).alloc (Nat.le_refl _) _).grown hgrow (by simp) (fun j hj => (hown.lt j hj).1)
 obtain ⟨a', cap', hv⟩ : ∃ a' cap', v' = .slice a' 0 cap' := by
  rcases hown'.2 with ⟨e, _⟩ | ⟨g, c, cur, e, _⟩
  ·exact ⟨none, 0, e⟩
  ·exact ⟨_, _, e⟩
 subst hv
 clear hown' hgrow hown hnn
 go_wp2
 go_ret
 exact ⟨a', cap', rfl, own_none _ _ _ _, hb1⟩
theorem cloneNil (w : World) : Calls Tryz.prog 111 #[.slice none 0 0] w fun e w' => e = .returned (.slice none 0 0) ∧ w = w' := by
 have hnil := fun w => Lib.run_eql_slice_nil (P := Tryz.prog) w 25 39 none 0 0 0 0 Tryz.underlying25
 go_enter Tryz.func111, Tryz.ntmps111
 go_wp2
 go_ret
 exact ⟨rfl, rfl⟩
theorem strClone (s : ByteArray) (h : s.size ≤ 1048576) (w : World) : Calls Tryz.prog 68 #[.string s] w fun e w' => e = .returned (.string s) ∧ Below w.heap.size w w' := by
 go_enter Tryz.func68, Tryz.ntmps68
 go_wp2_with fail
 refine (Tryz.stringslite_Clone s _ (by omega)).mono ?_
 rintro e w1 ⟨rfl, hb1⟩
 go_wp2
 go_ret
 exact ⟨rfl, hb1⟩
/-- A block of the call's own that holds n operations. -/
def CS (g off n : Nat) (l : List OpV) (w wr : World) : Prop := Below w.heap.size w wr ∧ ∃ cs : Array Value, wr.heap[g]? = some (.cells cs 39 (0, 0)) ∧ off + n * 8 ≤ cs.size ∧ ∀ i, i < n → OpIn cs (off + i * 8) (l.getD i OpV.zero)
theorem CS.step {g off n : Nat} {l : List OpV} {w wr w1 : World} (h : CS g off n l w wr) (hb : Below wr.heap.size wr w1) : CS g off n l w w1 := by
 obtain ⟨h1, cs, hg, r⟩ := h
 exact ⟨h1.trans (hb.mono h1.size), cs, (hb.block _ (Array.getElem?_eq_some_iff.1 hg).1).trans hg, r⟩
theorem CS.put {g off n k : Nat} {l : List OpV} {w wr : World} (h : CS g off n l w wr) (hg0 : w.heap.size ≤ g) (hk : k < n) : CS g off n l w (wr.setCell ⟨g, off + k * 8 + 4, none⟩ (.string (l.getD k OpV.zero).item)) := by
 obtain ⟨h1, cs, hg, hs, hc⟩ := h
 refine ⟨h1.setCell (p := ⟨g, off + k * 8 + 4, none⟩) hg0 _, cs.setIfInBounds (off + k * 8 + 4) (.string (l.getD k OpV.zero).item), heap_setCell_same _ _ _ _ _ _ hg, by simpa using hs, fun i hi => ?_⟩
 by_cases e : i = k
 ·subst e
  obtain ⟨h0, h1, h2, h3, h4, h5, h6, h7⟩ := hc i hi
  exact ⟨(Array.getElem?_setIfInBounds_ne (by omega)).trans h0, (Array.getElem?_setIfInBounds_ne (by omega)).trans h1, (Array.getElem?_setIfInBounds_ne (by omega)).trans h2, (Array.getElem?_setIfInBounds_ne (by omega)).trans h3, Array.getElem?_setIfInBounds_self_of_lt (by omega), (Array.getElem?_setIfInBounds_ne (by omega)).trans h5, (Array.getElem?_setIfInBounds_ne (by omega)).trans h6, (Array.getElem?_setIfInBounds_ne (by omega)).trans h7⟩
 ·exact opIn_far (hc i hi) (by omega)
end Go.Proofs.YtejhmakfbmhhhaaGreat

namespace Go.Proofs.YtejhmakfbmhhhaaGreat
set_option maxRecDepth 100000
open Go.RowKit

/-- A slice whose row, if it has elements, is a block of its own between lo and hi, and holds xs. -/
def Own (w : World) (lo hi : Nat) (a : Option Addr) (n : Nat) (xs : List Int) : Prop :=
 xs.length = n ∧ (0 < n → ∃ g cur, a = some ⟨g, 0, none⟩ ∧ lo ≤ g ∧ g < hi ∧ w.heap[g]? = some (.cells cur 2 (0, 0)) ∧ ∀ i, i < n → cur[i]? = some (.int .i64 (xs.getD i 0)))
theorem Own.ints {w : World} {lo hi : Nat} {a : Option Addr} {n : Nat} {xs : List Int} (h : Own w lo hi a n xs) : Ints w hi a n xs :=
 ⟨h.1, fun i hi' => by
  obtain ⟨g, cur, e, _, hg2, hg, hc⟩ := h.2 (by omega)
  exact ⟨g, 0, e, hg2, by rw [cell_of_row _ _ _ _ _ _ hg, Nat.zero_add]; exact hc i hi'⟩⟩
theorem Own.kept {w w' : World} {lo hi : Nat} {a : Option Addr} {n : Nat} {xs : List Int} (h : Own w lo hi a n xs) (hk : ∀ j, lo ≤ j → j < hi → w'.heap[j]? = w.heap[j]?) : Own w' lo hi a n xs :=
 ⟨h.1, fun hn => by
  obtain ⟨g, cur, e, h1, h2, hg, hc⟩ := h.2 hn
  exact ⟨g, cur, e, h1, h2, (hk g h1 h2).trans hg, hc⟩⟩
theorem Own.below {w w' : World} {lo hi B : Nat} {a : Option Addr} {n : Nat} {xs : List Int} (h : Own w lo hi a n xs) (hb : Below B w w') (hB : hi ≤ B) : Own w' lo hi a n xs :=
 h.kept fun j _ h2 => hb.block j (by omega)
theorem Own.more {w : World} {lo hi lo' hi' : Nat} {a : Option Addr} {n : Nat} {xs : List Int} (h : Own w lo hi a n xs) (h1 : lo' ≤ lo) (h2 : hi ≤ hi') : Own w lo' hi' a n xs :=
 ⟨h.1, fun hn => by
  obtain ⟨g, cur, e, a1, a2, r⟩ := h.2 hn
  exact ⟨g, cur, e, by omega, by omega, r⟩⟩
theorem own_fresh {w w' : World} {xs : List Int} {hi : Nat} (hg : w'.heap[w.heap.size]? = some (.cells (xs.map (Value.int .i64)).toArray 2 (0, 0))) (hh : w.heap.size < hi) : Own w' w.heap.size hi (some ⟨w.heap.size, 0, none⟩) xs.length xs :=
 ⟨rfl, fun _ => ⟨_, _, rfl, Nat.le_refl _, hh, hg, fun i hi' => by simp [List.getElem?_eq_getElem hi']⟩⟩
theorem own_of_row {w : World} {base hi : Nat} {a : Option Addr} {n cap : Nat} {xs : List Int} (h : w.ownsRow base 2 1 (.slice a n cap) n (xs.map (Value.int .i64))) (hh : w.heap.size ≤ hi) : Own w base hi a n xs := by
 refine ⟨by have := h.1; simpa using this, fun hn => ?_⟩
 have hl : xs.length = n := by have := h.1; simpa using this
 rcases h.2 with ⟨e, _⟩ | ⟨g, c, cur, e, hb, hg, _, _, _, ht⟩
 ·cases e; omega
 ·injection e with e1 e2 e3
  refine ⟨g, cur, e1, hb, by have := (Array.getElem?_eq_some_iff.1 hg).1; omega, hg, fun i hi' => ?_⟩
  have h2 : (cur.toList.take (n * 1))[i]? = (xs.map (Value.int .i64))[i]? := by rw [ht]
  rw [Nat.mul_one, List.getElem?_take_of_lt hi', List.getElem?_map, List.getElem?_eq_getElem (by omega : i < xs.length)] at h2
  rw [← Array.getElem?_toList, h2, List.getD_eq_getElem?_getD, List.getElem?_eq_getElem (by omega)]
  rfl


/-- Nothing has turned but blocks from lo up to hi. -/
structure Outside (lo hi : Nat) (w w' : World) : Prop where
 os : w'.os = w.os
 tape : w'.tape = w.tape
 output : w'.output = w.output
 size : w'.heap.size = w.heap.size
 block : ∀ j, j < lo ∨ hi ≤ j → w'.heap[j]? = w.heap[j]?
theorem Outside.below {lo hi : Nat} {w w' : World} (h : Outside lo hi w w') {B : Nat} (hB : B ≤ lo) : Below B w w' := ⟨h.os, h.tape, h.output, Nat.le_of_eq h.size.symm, fun k hk => h.block k (.inl (by omega))⟩
theorem Own.outside {w w' : World} {lo hi lo' hi' : Nat} {a : Option Addr} {n : Nat} {xs : List Int} (h : Own w lo hi a n xs) (ho : Outside lo' hi' w w') (hd : hi ≤ lo' ∨ hi' ≤ lo) : Own w' lo hi a n xs :=
 h.kept fun j h1 h2 => ho.block j (by omega)

theorem PartOps.own {w wr : World} {g n : Nat} {l : List OpV} (h : PartOps w wr g n l n) (hl : l.length = n) : OwnOps wr g (g + 1) (some ⟨g, 0, none⟩) n l := by
 obtain ⟨h1, cs, hg, hs, hc⟩ := h
 refine ⟨hl, fun _ => ⟨g, 0, cs, rfl, Nat.le_refl _, Nat.lt_succ_self _, hg, by omega, fun i hi => ?_⟩⟩
 rw [Nat.zero_add]
 exact hc i hi
theorem Outside.beside {lo hi : Nat} {w w' : World} (h : Outside lo hi w w') : Beside lo hi w w' := ⟨h.os, h.tape, h.output, Nat.le_of_eq h.size.symm, fun j _ hj => h.block j hj⟩
theorem Beside.trans {lo hi : Nat} {w w1 w2 : World} (h : Beside lo hi w w1) (h2 : Beside lo hi w1 w2) : Beside lo hi w w2 :=
 ⟨h2.os.trans h.os, h2.tape.trans h.tape, h2.output.trans h.output, Nat.le_trans h.size h2.size, fun j hj hd => (h2.block j (by have := h.size; omega) hd).trans (h.block j hj hd)⟩
theorem Below.beside {lo hi : Nat} {w w' : World} (h : Below w.heap.size w w') : Beside lo hi w w' := ⟨h.os, h.tape, h.output, h.size, fun j hj _ => h.block j hj⟩
end Go.Proofs.YtejhmakfbmhhhaaGreat

namespace Go.Proofs.YtejhmakfbmhhhaaGreat
set_option maxRecDepth 100000
open Go.RowKit

def OwnPost (xs : List Int) (w : World) (e : Ending) (w' : World) : Prop :=
 ∃ a cap, e = .returned (.slice a xs.length cap) ∧ Own w' w.heap.size w'.heap.size a xs.length xs ∧ Below w.heap.size w w'
def OwnPostC (xs : List Int) (w : World) (e : Ending) (w' : World) : Prop :=
 ∃ a cap, e = .returned (.slice a xs.length cap) ∧ Own w' w.heap.size w'.heap.size a xs.length xs ∧ Below w.heap.size w w' ∧ Caps a xs.length cap

theorem cloneInts (w : World) (B g n cap : Nat) (xs : List Int) (h : Ints w B (some ⟨g, 0, none⟩) n xs) (hn : 0 < n) (hl : n ≤ 1048576) :
  Calls Tryz.prog 78 #[.slice (some ⟨g, 0, none⟩) n cap] w (OwnPost xs w) := by
 obtain ⟨i0, hi, hz0, hz1, hz2⟩ := info_parts Tryz.infoI64
 have hnil := fun w => Lib.run_eql_slice_nil (P := Tryz.prog) w 24 2 (some ⟨g, 0, none⟩) n cap 0 0 Tryz.underlying24
 have hown : (w.alloc (.cells #[] 2)).ownsRow w.heap.size 2 1 (.slice (some ⟨w.heap.size, 0, none⟩) 0 0) 0 [] := World.ownsRow_made w #[] 0 (Nat.le_refl _) (by unfold maxLen; omega) rfl
 have hL := Lib.hid h.1
 have H := Lib.hid h
 clear h
 go_enter Tryz.func78, Tryz.ntmps78
 go_wp2_with (at_builtin; refine wpList_append_own _ rfl _ _ 24 rfl w.heap.size 2 i0 (.int .i64 0) 1 8 Tryz.underlying24 hi hz0 hz1 hz2 rfl (by decide) _ _ _ rfl hown ⟨g, 0, none⟩ n cap (xs.map (Value.int .i64)) rfl ?c0 ?c1 ?c2 ?c3 ?c4 ?c5 ?_)
 case c0 => rw [List.length_map, hL.out, Nat.mul_one]
 case c1 =>
  intro j u hj
  have hjl : j < xs.length := by
   rcases Nat.lt_or_ge j xs.length with h' | h'
   ·exact h'
   ·rw [List.getElem?_eq_none (by simpa using h')] at hj; cases hj
  obtain ⟨b, off, e, hb, hc⟩ := H.out.2 j (by rw [← hL.out]; exact hjl)
  cases e
  have hlt := block_lt_of_cell hc
  rw [List.getElem?_map, List.getElem?_eq_getElem hjl] at hj
  cases hj
  rw [add_at, World.cell?_alloc_lt w _ _ hlt, hc, List.getD_eq_getElem?_getD, List.getElem?_eq_getElem hjl]
  rfl
 case c2 => exact ints_oneCell _ _
 case c3 => unfold maxLen; omega
 case c4 => omega
 case c5 => simp
 intro v' w1 hown' hgrow _
 have hb1 := ((Below.refl w.heap.size w).alloc (Nat.le_refl _) _).grown hgrow (by simp) (fun j hj => (hown.lt j hj).1)
 obtain ⟨g', cap', hv, _, _⟩ := hown'.form (by omega)
 subst hv
 have HO := Lib.hid (own_of_row (hi := w1.heap.size) (by simpa using hown') (Nat.le_refl _))
 clear hown' hgrow hown
 go_wp2
 go_ret
 exact ⟨some ⟨g', 0, none⟩, cap', by rw [hL.out]; rfl, by rw [hL.out]; exact HO.out, hb1⟩

theorem vlist (w : World) (x0 x1 x2 x3 : Int) :
  Calls Tryz.prog 51 #[.agg #[.int .i64 x0, .int .i64 x1, .int .i64 x2, .int .i64 x3]] w (OwnPost [x0, x1, x2, x3] w) := by
 go_enter Tryz.func51, Tryz.ntmps51
 go_wp2_with fail
 refine (cloneInts _ (w.heap.size + 1) w.heap.size 4 4 [x0, x1, x2, x3] (ints_of_block (t := 67) (heap_alloc_new _ _) (by omega) rfl) (by omega) (by omega)).mono ?_
 rintro e w1 ⟨a, cap, rfl, ho, hb⟩
 go_wp2
 go_ret
 refine ⟨a, cap, rfl, ho.more (by simp) (Nat.le_refl _), ((Below.refl _ w).alloc (Nat.le_refl _) _).trans (hb.mono (by simp))⟩

def zipI (f : Int → Int → Int) (xs ys : List Int) : List Int := List.zipWith f xs ys
theorem zipI_take (f : Int → Int → Int) (xs ys : List Int) (k : Nat) (h1 : k < xs.length) (h2 : k < ys.length) : (zipI f xs ys).take (k + 1) = (zipI f xs ys).take k ++ [f (xs.getD k 0) (ys.getD k 0)] := by
 have hk : k < (zipI f xs ys).length := by unfold zipI; rw [List.length_zipWith]; omega
 have e : (zipI f xs ys)[k] = f (xs.getD k 0) (ys.getD k 0) := by
  have := List.getElem_zipWith (f := f) (l := xs) (l' := ys) (i := k) (h := hk)
  rw [List.getD_eq_getElem?_getD, List.getD_eq_getElem?_getD, List.getElem?_eq_getElem h1, List.getElem?_eq_getElem h2]
  exact this
 rw [List.take_succ_eq_append_getElem hk, e]

theorem keep_cell {wr w1 : World} {o : Obj} {row : Option Nat} {b i : Nat} {v : Value} (hg : (wr.alloc o).drew.grownBy w1 row) (hb : b < wr.heap.size) (hne : some b ≠ row) (h : wr.cell? ⟨b, i, none⟩ = some v) : w1.cell? ⟨b, i, none⟩ = some v :=
 (World.cell?_of_block (a := ⟨b, i, none⟩) ((hg.block b (by show b < (wr.heap.push o).size; simp; omega) hne).trans (Below.heap_alloc wr o b hb))).trans h

/-- What VecMax and VecMin answer, plainly. -/
def vecZip (f : Int → Int → Int) (xs ys : List Int) : List Int := if (vecOk xs && vecOk ys) = true then zipI f xs ys else []
theorem vecZip_no {f : Int → Int → Int} {xs ys : List Int} (h : (vecOk xs && vecOk ys) = false) : vecZip f xs ys = [] := by unfold vecZip; rw [h]; rfl
theorem vecZip_yes {f : Int → Int → Int} {xs ys : List Int} (h : (vecOk xs && vecOk ys) = true) : vecZip f xs ys = zipI f xs ys := by unfold vecZip; rw [if_pos h]

/-- The row of impl.VecMax (VecMin) when k of its cells are written. -/
def Mix (f : Int → Int → Int) (w wr : World) (g : Nat) (xs ys : List Int) (k : Nat) : Prop :=
 Below w.heap.size w wr ∧ w.heap.size ≤ g ∧ wr.heap[g + 1]? = some (.cells (ys.map (Value.int .i64)).toArray 67 (0, 0)) ∧
  ∃ cur : Array Value, wr.heap[g]? = some (.cells cur 67 (0, 0)) ∧ cur.size = 4 ∧ ∀ i, i < 4 → cur[i]? = some (.int .i64 (if i < k then f (xs.getD i 0) (ys.getD i 0) else xs.getD i 0))
theorem Mix.step {f : Int → Int → Int} {w wr : World} {g : Nat} {xs ys : List Int} {k : Nat} (h : Mix f w wr g xs ys k) (hk : k < 4) (n : Nat) : Mix f w ((wr.setCell ⟨g, k, none⟩ (.int .i64 (f (xs.getD k 0) (ys.getD k 0)))).drewN n) g xs ys (k + 1) := by
 obtain ⟨hb, hg0, hy, cur, hg, hs, hc⟩ := h
 refine ⟨(hb.setCell hg0 _).trans ⟨rfl, rfl, rfl, Nat.le_refl _, fun _ _ => rfl⟩, hg0, (heap_setCell_other _ _ _ _ (by show g + 1 ≠ g; omega)).trans hy, cur.setIfInBounds k (.int .i64 (f (xs.getD k 0) (ys.getD k 0))), heap_setCell_same _ _ _ _ _ _ hg, by simpa using hs, fun i hi => ?_⟩
 rw [Array.getElem?_setIfInBounds]
 by_cases e : k = i
 ·subst e
  rw [if_pos rfl, if_pos (by omega), if_pos (by omega)]
 ·rw [if_neg e, hc i hi]
  by_cases h2 : i < k
  ·rw [if_pos h2, if_pos (by omega)]
  ·rw [if_neg h2, if_neg (by omega)]


end Go.Proofs.YtejhmakfbmhhhaaGreat

namespace Go.Proofs.YtejhmakfbmhhhaaGreat
set_option maxRecDepth 100000
open Go.RowKit
set_option linter.unusedVariables false

/-- The row of x while raise (lower) goes: k of its cells are written. -/
def MixO (f : Int → Int → Int) (w wr : World) (gx gy : Nat) (xs ys : List Int) (k : Nat) : Prop :=
 Outside gx (gx + 1) w wr ∧ wr.heap[gy]? = some (.cells (ys.map (Value.int .i64)).toArray 67 (0, 0)) ∧
  ∃ cur : Array Value, wr.heap[gx]? = some (.cells cur 67 (0, 0)) ∧ cur.size = 4 ∧ ∀ i, i < 4 → cur[i]? = some (.int .i64 (if i < k then f (xs.getD i 0) (ys.getD i 0) else xs.getD i 0))
theorem MixO.step {f : Int → Int → Int} {w wr : World} {gx gy : Nat} {xs ys : List Int} {k : Nat} (h : MixO f w wr gx gy xs ys k) (hne : gy ≠ gx) (hk : k < 4) (n m : Nat) : MixO f w (((wr.drewN m).setCell ⟨gx, k, none⟩ (.int .i64 (f (xs.getD k 0) (ys.getD k 0)))).drewN n) gx gy xs ys (k + 1) := by
 obtain ⟨hb, hy, cur, hg, hs, hc⟩ := h
 refine ⟨⟨hb.os, hb.tape, hb.output, by simpa [World.setCell] using hb.size, fun i hi => (heap_setCell_other _ _ _ _ (by show i ≠ gx; omega)).trans (hb.block i hi)⟩, (heap_setCell_other _ _ _ _ (by show gy ≠ gx; exact hne)).trans hy, cur.setIfInBounds k (.int .i64 (f (xs.getD k 0) (ys.getD k 0))), heap_setCell_same _ _ _ _ _ _ hg, by simpa using hs, fun i hi => ?_⟩
 rw [Array.getElem?_setIfInBounds]
 by_cases e : k = i
 ·subst e
  rw [if_pos rfl, if_pos (by omega), if_pos (by omega)]
 ·rw [if_neg e, hc i hi]
  by_cases h2 : i < k
  ·rw [if_pos h2, if_pos (by omega)]
  ·rw [if_neg h2, if_neg (by omega)]
theorem MixO.done {f : Int → Int → Int} {w wr : World} {gx gy : Nat} {x0 x1 x2 x3 y0 y1 y2 y3 : Int} (h : MixO f w wr gx gy [x0, x1, x2, x3] [y0, y1, y2, y3] 4) : Outside gx (gx + 1) w wr ∧ wr.heap[gx]? = some (.cells (arr4 (f x0 y0) (f x1 y1) (f x2 y2) (f x3 y3)) 67 (0, 0)) := by
 obtain ⟨hb, _, cur, hg, hs, hc⟩ := h
 refine ⟨hb, ?_⟩
 rw [hg]
 congr 2
 apply Array.ext_getElem?
 intro i
 match i with
 | 0 => exact hc 0 (by omega)
 | 1 => exact hc 1 (by omega)
 | 2 => exact hc 2 (by omega)
 | 3 => exact hc 3 (by omega)
 | i + 4 => rw [Array.getElem?_eq_none (by omega), Array.getElem?_eq_none (by show 4 ≤ i + 4; omega)]

set_option maxHeartbeats 5000000 in
theorem implRaise (w : World) (gx gy : Nat) (x0 x1 x2 x3 y0 y1 y2 y3 : Int) (hx : w.heap[gx]? = some (.cells (arr4 x0 x1 x2 x3) 67 (0, 0))) (hy : w.heap[gy]? = some (.cells (arr4 y0 y1 y2 y3) 67 (0, 0))) (hne : gy ≠ gx) :
  Calls Tryz.prog 108 #[.pointer (some ⟨gx, 0, none⟩), .pointer (some ⟨gy, 0, none⟩)] w fun e w' => e = .returned (.tuple #[]) ∧ Outside gx (gx + 1) w w' ∧ w'.heap[gx]? = some (.cells (arr4 (max x0 y0) (max x1 y1) (max x2 y2) (max x3 y3)) 67 (0, 0)) := by
 have HM : Hid (MixO max w w gx gy [x0, x1, x2, x3] [y0, y1, y2, y3] 0) := by
  refine ⟨⟨rfl, rfl, rfl, rfl, fun _ _ => rfl⟩, hy, arr4 x0 x1 x2 x3, hx, rfl, fun i hi => ?_⟩
  rw [if_neg (by omega)]; exact arr4_at hi
 clear hx hy
 go_enter Tryz.func108, Tryz.ntmps108
 go_wp2
 go_loopw [4, 5, 7] (fun _ _ i wr => ∃ k : Nat, k ≤ 4 ∧ i = .int .i64 k ∧ Hid (MixO max w wr gx gy [x0, x1, x2, x3] [y0, y1, y2, y3] k)) (fun _ _ i _ => 4 - (intOf i).toNat)
 case atStart => exact ⟨0, by omega, rfl, HM⟩
 case round =>
  obtain ⟨k, hk, rfl, HP⟩ := hrel
  by_cases hlt : k < 4
  ·have hki : (k : Int) < 4 := by omega
   have hk0 : (0 : Int) ≤ (k : Int) := by omega
   obtain ⟨x, hx⟩ : ∃ x, x = [x0, x1, x2, x3].getD k 0 := ⟨_, rfl⟩
   obtain ⟨y, hy⟩ : ∃ y, y = [y0, y1, y2, y3].getD k 0 := ⟨_, rfl⟩
   have HS : Hid (∀ n m, MixO max w (((wr.drewN m).setCell ⟨gx, k, none⟩ (.int .i64 (max x y))).drewN n) gx gy [x0, x1, x2, x3] [y0, y1, y2, y3] (k + 1)) := by rw [hx, hy]; exact fun n m => HP.out.step hne hlt n m
   obtain ⟨_, hyb, cur, hg, hcs, hc⟩ := HP.out
   have c1 : wr.cell? ⟨gx, k, none⟩ = some (.int .i64 x) := by rw [cell_of_row _ _ _ _ _ _ hg, hc k hlt, if_neg (by omega), hx]
   have c2 : wr.cell? ⟨gy, k, none⟩ = some (.int .i64 y) := by
    rw [cell_of_row _ _ _ _ _ _ hyb, hy]
    exact arr4_at hlt
   have hf : wr.frozen? ⟨gx, k, none⟩ = false := frozen_of_row _ _ _ _ _ hg
   clear hx hy hyb hg hcs hc HM
   go_wp2
   go_region
   go_wp2
   go_region
   go_wp2
   go_roundw
   case rel => exact ⟨k + 1, by omega, by go_num, HS.out 1 1⟩
   case measure => simp [intOf]; omega
  ·obtain rfl : k = 4 := by omega
   have HE := Lib.hid HP.out.done
   go_wp2
   exact bodyPost_end (v := .tuple #[]) (by simp [results, Tryz.results108, go_sem]) rfl ⟨rfl, HE.out.1, HE.out.2⟩



set_option maxHeartbeats 5000000 in
theorem specMaxYes (w : World) (B B' : Nat) (a a' : Option Addr) (cap cap' : Nat) (xs ys : List Int) (h : Ints w B a 4 xs) (h' : Ints w B' a' 4 ys) (hB : B ≤ w.heap.size) (hB' : B' ≤ w.heap.size) (hk : vecOk xs = true) (hk' : vecOk ys = true) :
  Calls Tryz.prog 112 #[.slice a 4 cap, .slice a' 4 cap'] w (OwnPostC (zipI max xs ys) w) := by
 obtain ⟨i0, hi, hz0, hz1, hz2⟩ := info_parts Tryz.infoI64
 have hbA : Below w.heap.size w (w.alloc (.cells #[] 2)) := (Below.refl _ w).alloc (Nat.le_refl _) _
 have H := Lib.hid h
 have H' := Lib.hid h'
 have HA := Lib.hid (h.below hbA hB)
 have HA' := Lib.hid (h'.below hbA hB')
 have HK := Lib.hid hk
 have HK' := Lib.hid hk'
 have hown := Lib.hid (World.ownsRow_made (e := 2) (size := 1) w #[] 0 (Nat.le_refl w.heap.size) (by unfold maxLen; omega) rfl)
 have HbA := Lib.hid hbA
 clear h h' hk hk' hbA
 go_enter Tryz.func112, Tryz.ntmps112
 go_wp2_with fail
 refine (specVecOk _ B a 4 cap xs (by exact HA.out) (by omega)).mono ?_
 rintro e w1 ⟨rfl, rfl⟩
 rw [HK.out]
 go_wp2_with fail
 refine (specVecOk _ B' a' 4 cap' ys (by exact HA'.out) (by omega)).mono ?_
 rintro e w1 ⟨rfl, rfl⟩
 rw [HK'.out]
 go_wp2
 go_loopw [5, 6] (fun v i wr => ∃ k : Nat, k ≤ 4 ∧ i = .int .i64 k ∧ Hid (wr.ownsRow w.heap.size 2 1 v k (((zipI max xs ys).take k).map (Value.int .i64))) ∧ Below w.heap.size w wr) (fun _ i _ => 4 - (intOf i).toNat)
 case atStart => exact ⟨0, by omega, rfl, hown.out, HbA.out⟩
 case round =>
  obtain ⟨k, hk, rfl, HO, hbr⟩ := hrel
  have hs := hbr.size
  by_cases hlt : k < 4
  ·obtain ⟨b, off, rfl, hb, c1⟩ := H.out.2 k hlt
   obtain ⟨b', off', rfl, hb', c2⟩ := H'.out.2 k hlt
   have c1' := (hbr.cell (p := ⟨b, off + k, none⟩) (by show b < w.heap.size; omega)).trans c1
   have c2' := (hbr.cell (p := ⟨b', off' + k, none⟩) (by show b' < w.heap.size; omega)).trans c2
   obtain ⟨x, hx⟩ : ∃ x, x = xs.getD k 0 := ⟨_, rfl⟩
   obtain ⟨y, hy⟩ : ∃ y, y = ys.getD k 0 := ⟨_, rfl⟩
   rw [← hx] at c1'
   rw [← hy] at c2'
   have HZ : Hid ((zipI max xs ys).take (k + 1) = (zipI max xs ys).take k ++ [max x y]) := by rw [hx, hy]; exact zipI_take _ _ _ _ (by rw [H.out.1]; exact hlt) (by rw [H'.out.1]; exact hlt)
   have hki : (k : Int) < 4 := by omega
   have hk0 : (0 : Int) ≤ (k : Int) := by omega
   clear hx hy c1 c2
   go_wp2_with fail
   have hne1 : ∀ v : Value, wr.ownsRow w.heap.size 2 1 v k (((zipI max xs ys).take k).map (Value.int .i64)) → some b ≠ v.ownBlock := fun v hv e => by have := (hv.lt b e.symm).1; omega
   have hne2 : ∀ v : Value, wr.ownsRow w.heap.size 2 1 v k (((zipI max xs ys).take k).map (Value.int .i64)) → some b' ≠ v.ownBlock := fun v hv e => by have := (hv.lt b' e.symm).1; omega
   have HN1 := Lib.hid (hne1 _ HO.out)
   have HN2 := Lib.hid (hne2 _ HO.out)
   have hbw : b < wr.heap.size := by omega
   have hbw' : b' < wr.heap.size := by omega
   clear hne1 hne2
   go_region_held3 (fun w' => w'.cell? ⟨b, off + k, none⟩ = some (.int .i64 x) ∧ w'.cell? ⟨b', off' + k, none⟩ = some (.int .i64 y)) (first | go_keep | exact ⟨keep_cell hgrow hbw HN1.out c1', keep_cell hgrow hbw' HN2.out c2'⟩)
    ((refine step_append_lies _ (by rfl) _ _ _ (by rfl) w.heap.size 2 i0 _ 1 8 Tryz.underlying24 hi hz0 hz1 hz2 rfl (by omega) _ k _ (by rfl) ((HO.out.alloc _).drew) ⟨wr.heap.size, 0, none⟩ 1 1 [.int .i64 (max x y)] (by rfl) (by rfl) (World.news_of_block (cs := #[.int .i64 (max x y)]) (t := 2) (fr := (0, 0)) (heap_alloc_new wr _)) (by simp [Value.oneCell']) (by omega) (by unfold maxLen; omega) (by omega) (by simp; omega) (wr.heap.size + 1) (by simp) ?_; intro gg cap1 w1 hown1 hgrow hat hlt1))
   have HO1 := Lib.hid (p := w1.ownsRow w.heap.size 2 1 (.slice (some ⟨gg, 0, none⟩) (k + 1) cap1) (k + 1) (((zipI max xs ys).take (k + 1)).map (Value.int .i64))) (by rw [HZ.out]; simpa using hown1)
   have hb1 := (hbr.alloc hs (.cells #[.int .i64 (max x y)] 2)).drew.grown hgrow (by simp; omega) (fun j hj => (HO.out.lt j hj).1)
   clear hown1 hgrow hat
   go_wp2
   go_roundw
   case rel => exact ⟨k + 1, by omega, by go_num, HO1, hb1⟩
   case measure => simp [intOf]; omega
  ·obtain rfl : k = 4 := by omega
   have hzl : (zipI max xs ys).length = 4 := by unfold zipI; rw [List.length_zipWith, H.out.1, H'.out.1]; rfl
   have ho := HO.out
   rw [List.take_of_length_le (by omega)] at ho
   obtain ⟨g, c, hv, _, _⟩ := ho.form (by omega)
   subst hv
   have HP := Lib.hid (own_of_row (hi := wr.heap.size) ho (Nat.le_refl _))
   have HL := Lib.hid hzl
   have HCp := Lib.hid (caps_of_row ho)
   clear ho hzl
   go_wp2
   go_ret
   exact ⟨some ⟨g, 0, none⟩, c, by rw [HL.out]; rfl, by rw [HL.out]; exact HP.out, hbr, by rw [HL.out]; exact HCp.out⟩

theorem specMaxNo (w : World) (B B' : Nat) (a a' : Option Addr) (len cap len' cap' : Nat) (xs ys : List Int) (h : Ints w B a len xs) (h' : Ints w B' a' len' ys) (hB : B ≤ w.heap.size) (hB' : B' ≤ w.heap.size) (hl : len ≤ 1048576) (hl' : len' ≤ 1048576)
  (ok ok' : Bool) (hk : vecOk xs = ok) (hk' : vecOk ys = ok') (hno : (ok && ok') = false) :
  Calls Tryz.prog 112 #[.slice a len cap, .slice a' len' cap'] w (OwnPostC [] w) := by
 have hbA : Below w.heap.size w (w.alloc (.cells #[] 2)) := (Below.refl _ w).alloc (Nat.le_refl _) _
 have HA := Lib.hid (h.below hbA hB)
 have HA' := Lib.hid (h'.below hbA hB')
 have HK := Lib.hid hk
 have HK' := Lib.hid hk'
 have HbA := Lib.hid hbA
 clear h h' hk hk' hbA
 cases ok
 ·clear hno
  go_enter Tryz.func112, Tryz.ntmps112
  go_wp2_with fail
  refine (specVecOk _ B a len cap xs (by exact HA.out) hl).mono ?_
  rintro e w1 ⟨rfl, rfl⟩
  rw [HK.out]
  go_wp2
  go_ret
  exact ⟨some ⟨w.heap.size, 0, none⟩, 0, rfl, ⟨rfl, fun hn => absurd hn (by simp)⟩, HbA.out, caps_zero _⟩
 ·cases ok'
  ·clear hno
   go_enter Tryz.func112, Tryz.ntmps112
   go_wp2_with fail
   refine (specVecOk _ B a len cap xs (by exact HA.out) hl).mono ?_
   rintro e w1 ⟨rfl, rfl⟩
   rw [HK.out]
   go_wp2_with fail
   refine (specVecOk _ B' a' len' cap' ys (by exact HA'.out) hl').mono ?_
   rintro e w1 ⟨rfl, rfl⟩
   rw [HK'.out]
   go_wp2
   go_ret
   exact ⟨some ⟨w.heap.size, 0, none⟩, 0, rfl, ⟨rfl, fun hn => absurd hn (by simp)⟩, HbA.out, caps_zero _⟩
  ·cases hno

theorem specMaxC (w : World) (B B' : Nat) (a a' : Option Addr) (len cap len' cap' : Nat) (xs ys : List Int) (h : Ints w B a len xs) (h' : Ints w B' a' len' ys) (hB : B ≤ w.heap.size) (hB' : B' ≤ w.heap.size) (hl : len ≤ 1048576) (hl' : len' ≤ 1048576) :
  Calls Tryz.prog 112 #[.slice a len cap, .slice a' len' cap'] w (OwnPostC (vecZip max xs ys) w) := by
 cases hk : vecOk xs && vecOk ys
 ·rw [vecZip_no hk]
  exact specMaxNo w B B' a a' len cap len' cap' xs ys h h' hB hB' hl hl' _ _ rfl rfl hk
 ·rw [vecZip_yes hk]
  rw [Bool.and_eq_true] at hk
  obtain ⟨x0, x1, x2, x3, hx⟩ := four hk.1
  obtain ⟨y0, y1, y2, y3, hy⟩ := four hk.2
  obtain rfl : len = 4 := h.1.symm.trans (by rw [hx]; rfl)
  obtain rfl : len' = 4 := h'.1.symm.trans (by rw [hy]; rfl)
  exact specMaxYes w B B' a a' cap cap' xs ys h h' hB hB' hk.1 hk.2
set_option maxHeartbeats 5000000 in
theorem implMaxYes (w : World) (B : Nat) (a a' : Option Addr) (cap cap' : Nat) (x0 x1 x2 x3 y0 y1 y2 y3 : Int) (h : Ints w B a 4 [x0, x1, x2, x3]) (h' : Ints w B a' 4 [y0, y1, y2, y3]) (hB : B ≤ w.heap.size)
  (hok : vecOk [x0, x1, x2, x3] = true) (hok' : vecOk [y0, y1, y2, y3] = true) :
  Calls Tryz.prog 83 #[.slice a 4 cap, .slice a' 4 cap'] w (OwnPost (zipI max [x0, x1, x2, x3] [y0, y1, y2, y3]) w) := by
 go_enter Tryz.func83, Tryz.ntmps83
 go_wp2_with fail
 refine (vectorsOfYes w B a a' cap cap' x0 x1 x2 x3 y0 y1 y2 y3 h h' hB hok hok').mono ?_
 rintro e w1 ⟨rfl, hb1⟩
 have hs1 := hb1.size
 clear h h' hok hok'
 go_wp2_with fail
 refine (implRaise _ w1.heap.size (w1.heap.size + 1) x0 x1 x2 x3 y0 y1 y2 y3 (heap_alloc2_old _ _ _) (heap_alloc2_new _ _ _) (by omega)).mono ?_
 rintro e w3 ⟨rfl, hO, hx⟩
 have hb3 : Below w1.heap.size w1 w3 := (((Below.refl _ w1).alloc (Nat.le_refl _) _).alloc (by simp) _).trans (hO.below (Nat.le_refl _))
 have hbr : Below w.heap.size w w3 := hb1.trans (hb3.mono hs1)
 obtain ⟨⟨d0, d1, d2, d3⟩, _⟩ := cells4 hx
 have hs := hbr.size
 have hs3 := hb3.size
 clear hx hO hb1
 go_wp2_with fail
 refine (vlist w3 (max x0 y0) (max x1 y1) (max x2 y2) (max x3 y3)).mono ?_
 rintro e w2 ⟨ao, co, rfl, ho, hb2⟩
 clear d0 d1 d2 d3
 go_wp2
 go_ret
 exact ⟨ao, co, rfl, ho.more hs (Nat.le_refl _), hbr.trans (hb2.mono hs)⟩


theorem implMaxNo (w : World) (B : Nat) (a a' : Option Addr) (len cap len' cap' : Nat) (xs ys : List Int) (h : Ints w B a len xs) (h' : Ints w B a' len' ys) (hB : B ≤ w.heap.size) (hl : len ≤ 1048576) (hl' : len' ≤ 1048576)
  (hno : (vecOk xs && vecOk ys) = false) :
  Calls Tryz.prog 83 #[.slice a len cap, .slice a' len' cap'] w (OwnPost [] w) := by
 go_enter Tryz.func83, Tryz.ntmps83
 go_wp2_with fail
 refine (vectorsOfNo w B a a' len cap len' cap' xs ys h h' hB hl hl' _ _ rfl rfl hno).mono ?_
 rintro e w1 ⟨rfl, hb1⟩
 have hs1 := hb1.size
 clear h h' hno
 go_wp2
 go_ret
 exact ⟨none, 0, rfl, ⟨rfl, fun hn => absurd hn (by simp)⟩, (hb1.alloc hs1 _).alloc (by simp; omega) _⟩

theorem implMax (w : World) (B : Nat) (a a' : Option Addr) (len cap len' cap' : Nat) (xs ys : List Int) (h : Ints w B a len xs) (h' : Ints w B a' len' ys) (hB : B ≤ w.heap.size) (hl : len ≤ 1048576) (hl' : len' ≤ 1048576) :
  Calls Tryz.prog 83 #[.slice a len cap, .slice a' len' cap'] w (OwnPost (vecZip max xs ys) w) := by
 cases hk : vecOk xs && vecOk ys
 ·rw [vecZip_no hk]
  exact implMaxNo w B a a' len cap len' cap' xs ys h h' hB hl hl' hk
 ·rw [vecZip_yes hk]
  rw [Bool.and_eq_true] at hk
  obtain ⟨x0, x1, x2, x3, rfl⟩ := four hk.1
  obtain ⟨y0, y1, y2, y3, rfl⟩ := four hk.2
  obtain rfl : len = 4 := h.1.symm
  obtain rfl : len' = 4 := h'.1.symm
  exact implMaxYes w B a a' cap cap' x0 x1 x2 x3 y0 y1 y2 y3 h h' hB hk.1 hk.2
end Go.Proofs.YtejhmakfbmhhhaaGreat

namespace Go.Proofs.YtejhmakfbmhhhaaGreat
set_option maxRecDepth 100000
open Go.RowKit

/-- What Named answers. -/
def ofDev (dev : Int) (o : OpV) : Bool := decide (o.dev = dev)
def namedL (xs : List Int) (l : List OpV) (dev : Int) : List OpV := if cartB xs l = true then l.filter (ofDev dev) else []
theorem named_no {xs : List Int} {l : List OpV} {dev : Int} (h : cartB xs l = false) : namedL xs l dev = [] := by unfold namedL; rw [h]; rfl
theorem named_yes {xs : List Int} {l : List OpV} {dev : Int} (h : cartB xs l = true) : namedL xs l dev = l.filter (ofDev dev) := by unfold namedL; rw [if_pos h]
theorem named_len (xs : List Int) (l : List OpV) (dev : Int) : (namedL xs l dev).length ≤ l.length := by
 unfold namedL
 split
 ·exact List.length_filter_le _ _
 ·exact Nat.zero_le _
theorem cart_true {xs : List Int} {l : List OpV} (h : cartB xs l = true) : vecOk xs = true ∧ (∀ d, d < 4 → devB xs l d = true) ∧ stOf xs 4 = l.length := by
 unfold cartB at h
 simp only [Bool.and_eq_true, List.all_eq_true, decide_eq_true_eq] at h
 exact ⟨h.1, fun d hd => h.2.1 d (by simpa using hd), h.2.2⟩
def segOf (xs : List Int) (l : List OpV) (d : Nat) : List OpV := (l.drop (stOf xs d)).take (xs.getD d 0).toNat
theorem seg_dev {xs : List Int} {l : List OpV} {d : Nat} (h : devB xs l d = true) : ∀ o ∈ segOf xs l d, o.ok = true ∧ o.dev = (d : Int) := by
 unfold devB at h
 rw [Bool.and_eq_true] at h
 have hr := h.2
 unfold runB at hr
 rw [List.all_eq_true] at hr
 intro o ho
 obtain ⟨i, hi, e⟩ := List.mem_iff_getElem.1 ho
 have hic : i < (xs.getD d 0).toNat := by unfold segOf at hi; rw [List.length_take] at hi; omega
 have hf := hr i (by simpa using hic)
 have ea : atOp l (stOf xs d + i) = o := by
  rw [← at_cut (st := stOf xs d) hic]
  unfold atOp
  rw [List.getD_eq_getElem?_getD, ← e]
  show ((segOf xs l d)[i]?).getD OpV.zero = _
  rw [List.getElem?_eq_getElem hi]
  rfl
 unfold fitB at hf
 rw [ea] at hf
 simp only [Bool.and_eq_true, decide_eq_true_eq] at hf
 exact ⟨hf.1, hf.2.1⟩
theorem drop_seg {xs : List Int} {l : List OpV} (d : Nat) : l.drop (stOf xs d) = segOf xs l d ++ l.drop (stOf xs (d + 1)) := by
 have e : l.drop (stOf xs (d + 1)) = (l.drop (stOf xs d)).drop (xs.getD d 0).toNat := by rw [List.drop_drop]; rfl
 rw [e]
 exact (List.take_append_drop _ _).symm
theorem list_segs {xs : List Int} {l : List OpV} (h : stOf xs 4 = l.length) : l = segOf xs l 0 ++ (segOf xs l 1 ++ (segOf xs l 2 ++ segOf xs l 3)) := by
 have h0 := drop_seg (xs := xs) (l := l) 0
 have h1 := drop_seg (xs := xs) (l := l) 1
 have h2 := drop_seg (xs := xs) (l := l) 2
 have h3 := drop_seg (xs := xs) (l := l) 3
 have e4 : l.drop (stOf xs 4) = [] := by rw [h]; exact List.drop_length
 rw [e4, List.append_nil] at h3
 rw [h3] at h2
 rw [h2] at h1
 rw [h1] at h0
 have z : l.drop (stOf xs 0) = l := List.drop_zero
 rw [z] at h0
 exact h0
theorem filter_seg {xs : List Int} {l : List OpV} {d : Nat} (h : devB xs l d = true) (dev : Int) : (segOf xs l d).filter (ofDev dev) = if dev = (d : Int) then segOf xs l d else [] := by
 by_cases e : dev = (d : Int)
 ·rw [if_pos e]
  refine List.filter_eq_self.2 fun o ho => ?_
  unfold ofDev
  exact decide_eq_true ((seg_dev h o ho).2.trans e.symm)
 ·rw [if_neg e]
  refine List.filter_eq_nil_iff.2 fun o ho => ?_
  unfold ofDev
  rw [decide_eq_true_eq]
  intro e2
  exact e (e2.symm.trans (seg_dev h o ho).2)
theorem named_seg {xs : List Int} {l : List OpV} (h : cartB xs l = true) {d : Nat} (hd : d < 4) : l.filter (ofDev (d : Int)) = segOf xs l d := by
 obtain ⟨_, h1, h2⟩ := cart_true h
 have e := congrArg (List.filter (ofDev (d : Int))) (list_segs (xs := xs) h2)
 rw [List.filter_append, List.filter_append, List.filter_append, filter_seg (h1 0 (by omega)), filter_seg (h1 1 (by omega)), filter_seg (h1 2 (by omega)), filter_seg (h1 3 (by omega))] at e
 rw [e]
 obtain rfl | rfl | rfl | rfl : d = 0 ∨ d = 1 ∨ d = 2 ∨ d = 3 := by omega
 ·simp
 ·simp
 ·simp
 ·simp
theorem named_none {xs : List Int} {l : List OpV} {dev : Int} (h : inB dev 0 3 = false) : namedL xs l dev = [] := by
 by_cases hc : cartB xs l = true
 ·rw [named_yes hc]
  refine List.filter_eq_nil_iff.2 fun o ho => ?_
  obtain ⟨_, h1, h2⟩ := cart_true hc
  rw [list_segs (xs := xs) h2] at ho
  have hn : ¬ (0 ≤ dev ∧ dev ≤ 3) := fun hh => by rw [inB_iff.2 hh] at h; cases h
  unfold ofDev
  rw [decide_eq_true_eq]
  intro e
  have : ∃ d : Nat, d < 4 ∧ o.dev = (d : Int) := by
   rcases List.mem_append.1 ho with h | h
   ·exact ⟨0, by omega, (seg_dev (h1 0 (by omega)) o h).2⟩
   rcases List.mem_append.1 h with h | h
   ·exact ⟨1, by omega, (seg_dev (h1 1 (by omega)) o h).2⟩
   rcases List.mem_append.1 h with h | h
   ·exact ⟨2, by omega, (seg_dev (h1 2 (by omega)) o h).2⟩
   ·exact ⟨3, by omega, (seg_dev (h1 3 (by omega)) o h).2⟩
  obtain ⟨d, hd, e2⟩ := this
  omega
 ·exact named_no (by simpa using hc)
theorem stOf_le {xs : List Int} (h : vecOk xs = true) : ∀ d, d ≤ 4 → stOf xs d ≤ 40 * d
 | 0, _ => Nat.le_refl _
 | d + 1, hd => by
  have h1 := stOf_le h d (by omega)
  have h2 := vec_at h (d := d) (by omega)
  show stOf xs d + (xs.getD d 0).toNat ≤ _
  omega
theorem stOf_mono (xs : List Int) : ∀ d e, d ≤ e → stOf xs d ≤ stOf xs e
 | d, 0, h => by obtain rfl : d = 0 := by omega
                 exact Nat.le_refl _
 | d, e + 1, h => by
  rcases Nat.lt_or_ge d (e + 1) with h1 | h1
  ·exact Nat.le_trans (stOf_mono xs d e (by omega)) (Nat.le_add_right _ _)
  ·obtain rfl : d = e + 1 := by omega
   exact Nat.le_refl _

theorem deviceOkN (dev : Int) (w : World) : Calls Tryz.prog 90 #[.int .i64 dev] w fun e w' => e = .returned (.bool (inB dev 0 3)) ∧ w = w' := by
 go_enter Tryz.func90, Tryz.ntmps90
 go_wp2_with fail
 refine (inRange _ _ _ _).mono ?_
 rintro e w' ⟨rfl, rfl⟩
 go_wp2
 go_ret
 exact ⟨rfl, rfl⟩

set_option maxHeartbeats 5000000 in
theorem placeOf1 (w : World) (B : Nat) (av ao : Option Addr) (cv no co : Nat) (xs : List Int) (hx : Ints w B av 4 xs) (hB : B ≤ w.heap.size) (hcv : 4 ≤ cv) (hv : vecOk xs = true) (d : Nat) (hd : d < 4) : Calls Tryz.prog 91 #[.agg #[.slice av 4 cv, .slice ao no co], .int .i64 (d : Int), .int .i64 1] w fun e w' => e = .returned (.int .i64 (stOf xs d : Int)) ∧ Below w.heap.size w w' := by
 have hb0 : Below w.heap.size w (w.alloc (.cells #[.slice av 4 cv, .slice ao no co] 27)) := (Below.refl _ w).alloc (Nat.le_refl _) _
 have HV := Lib.hid (hx.below hb0 hB)
 have HB := Lib.hid hb0
 have HX := Lib.hid (boxAt (Below.refl _ (w.alloc (.cells #[.slice av 4 cv, .slice ao no co] 27))))
 have HAt := Lib.hid (fun d (hd : d < 4) => vec_at hv hd)
 have HLe := Lib.hid (fun k (hk : k ≤ 4) => stOf_le hv k hk)
 have hdi : (d : Int) ≤ (cv : Int) := by omega
 clear hx hb0 hv
 go_enter Tryz.func91, Tryz.ntmps91
 go_wp2_with fail
 generalize w.alloc (.cells #[.slice av 4 cv, .slice ao no co] 27) = w0 at HV HB HX ⊢
 obtain ⟨c0, c1⟩ := pair_cells HX.out
 go_wp2
 go_loop [7, 17] (fun q i => ∃ k m : Nat, k ≤ d ∧ i = .int .i64 (k : Int) ∧ q = .int .i64 (m : Int) ∧ m ≤ 160 ∧ Hid (m = stOf xs k)) (fun _ i => d - (intOf i).toNat)
 case atStart => exact ⟨0, 0, by omega, rfl, rfl, by omega, rfl⟩
 case round =>
  obtain ⟨k, m, hk, rfl, rfl, hm, HM⟩ := hrel
  by_cases hlt : k < d
  ·obtain ⟨bv, ov, rfl, hbv, hcv'⟩ := HV.out.2 k (by omega)
   obtain ⟨g1, g2, g3⟩ := HAt.out k (by omega)
   have hle := HLe.out (k + 1) (by omega)
   obtain ⟨c, hcx⟩ := Int.eq_ofNat_of_zero_le g1
   have HSt : Hid (m + c = stOf xs (k + 1)) := by show _ = stOf xs k + (xs.getD k 0).toNat; rw [hcx, HM.out]; rfl
   have hmc : m + c ≤ 160 := by rw [HSt.out]; omega
   rw [hcx] at hcv'
   clear hcx g1 g2 g3 hle
   go_wp2
   go_round
   case rel => exact ⟨k + 1, m + c, by omega, by go_num, by go_num, hmc, HSt⟩
   case measure => simp [intOf]; omega
  ·obtain rfl : k = d := by omega
   go_wp2
   go_ret
   exact ⟨by rw [HM.out]; rfl, HB.out⟩
theorem filt_step {q : OpV → Bool} {l : List OpV} {k : Nat} (hk : k < l.length) : (l.take (k + 1)).filter q = if q (atOp l k) = true then (l.take k).filter q ++ [atOp l k] else (l.take k).filter q := by
 have e : l[k] = atOp l k := by unfold atOp; rw [List.getD_eq_getElem?_getD, List.getElem?_eq_getElem hk]; rfl
 rw [List.take_succ_eq_append_getElem hk, List.filter_append, e]
 by_cases h : q (atOp l k) = true
 ·rw [if_pos h, List.filter_cons_of_pos h]; rfl
 ·rw [if_neg h, List.filter_cons_of_neg h]; simp
end Go.Proofs.YtejhmakfbmhhhaaGreat

namespace Go.Proofs.YtejhmakfbmhhhaaGreat
set_option maxRecDepth 100000
open Go.RowKit

/-- As OpsPost; and the answer's length is at most its capacity. -/
def OpsPostC (l : List OpV) (w : World) (e : Ending) (w' : World) : Prop := ∃ a c, e = .returned (.slice a l.length c) ∧ l.length ≤ c ∧ OwnOps w' w.heap.size w'.heap.size a l.length l ∧ Below w.heap.size w w'

set_option maxHeartbeats 5000000 in
theorem cloneOpsC (w : World) (B b off n cap : Nat) (l : List OpV) (h : Ops w B (some ⟨b, off, none⟩) n l) (hB : B ≤ w.heap.size) (hl : n ≤ 1048576) : Calls Tryz.prog 111 #[.slice (some ⟨b, off, none⟩) n cap] w (OpsPostC l w) := by
 obtain ⟨i0, hi, hz0, hz1, hz2⟩ := info_parts Tryz.infoOp
 have hnil := fun w => Lib.run_eql_slice_nil (P := Tryz.prog) w 25 39 (some ⟨b, off, none⟩) n cap 0 0 Tryz.underlying25
 have hown : (w.alloc (.cells #[] 39)).ownsRow w.heap.size 39 8 (.slice (some ⟨w.heap.size, 0, none⟩) 0 0) 0 [] := World.ownsRow_made w #[] 0 (Nat.le_refl _) (by unfold maxLen; omega) rfl
 have hL := Lib.hid h.1
 have H := Lib.hid h
 clear h
 go_enter Tryz.func111, Tryz.ntmps111
 go_wp2_with (at_builtin; refine wpList_append_own _ rfl _ _ 25 rfl w.heap.size 39 i0 (.agg #[.int .i64 0, .int .i64 0, .int .i64 0, .int .i64 0, .string ⟨#[]⟩, .int .i64 0, .int .i64 0, .int .i64 0]) 8 72 Tryz.underlying25 hi hz0 hz1 hz2 rfl (by decide) _ _ _ rfl hown ⟨b, off, none⟩ n cap (opCells l) rfl ?c0 ?c1 ?c2 ?c3 ?c4 ?c5 ?_)
 case c0 => rw [opCells_len, hL.out]
 case c1 => exact cells_of_ops (H.out.below ((Below.refl w.heap.size w).alloc (Nat.le_refl _) _) hB)
 case c2 => exact opCells_one l
 case c3 => unfold maxLen; omega
 case c4 => omega
 case c5 => simp
 intro v' w1 hown' hgrow hnn
 have hb1 := ((Below.refl w.heap.size w).alloc (Nat.le_refl _) _).grown hgrow (by simp) (fun j hj => (hown.lt j hj).1)
 have hown2 : w1.ownsRow w.heap.size 39 8 v' n (opCells l) := by simpa using hown'
 obtain ⟨a', cap', hv, hvc⟩ : ∃ a' cap', v' = .slice a' n cap' ∧ n ≤ cap' := by
  rcases hown2.2 with ⟨e, e2⟩ | ⟨g, c, cur, e, _, _, hnc, _⟩
  ·exact ⟨none, 0, by rw [e, e2], by omega⟩
  ·exact ⟨_, _, e, hnc⟩
 subst hv
 have HO := Lib.hid (own_of_cells (hi := w1.heap.size) hown2 (Nat.le_refl _))
 clear hown' hown2 hgrow hown hnn
 go_wp2
 go_ret
 exact ⟨a', cap', by rw [hL.out]; rfl, by rw [hL.out]; exact hvc, by rw [hL.out]; exact HO.out, hb1⟩

set_option maxHeartbeats 10000000 in
theorem copiedOpsC (w : World) (B : Nat) (a : Option Addr) (n cap : Nat) (l : List OpV) (h : Ops w B a n l) (hB : B ≤ w.heap.size) (hn : n ≤ 1048576) (hcap : a = none → cap = 0) (hm : ∀ i, i < n → (l.getD i OpV.zero).item.size ≤ 1048576) : Calls Tryz.prog 87 #[.slice a n cap] w (OpsPostC l w) := by
 by_cases h0 : 0 < n
 ·obtain ⟨b, off, rfl, hb, _⟩ := h.2 0 h0
  have HL := Lib.hid h.1
  have HM := Lib.hid hm
  clear hm hcap
  go_enter Tryz.func87, Tryz.ntmps87
  go_wp2_with fail
  refine (cloneOpsC w B b off n cap l h hB hn).mono ?_
  rintro e w1 ⟨a1, c1, rfl, hcc, ho, hb1⟩
  rw [h.1] at hcc
  have HC1 : Hid (∃ g o1, a1 = some ⟨g, o1, none⟩ ∧ w.heap.size ≤ g ∧ CS g o1 n l w w1) := by
   rw [h.1] at ho
   obtain ⟨g, o1, cs, e1, h1, h2, hg, hs, hc⟩ := ho.2 h0
   exact ⟨g, o1, e1, h1, hb1, cs, hg, hs, hc⟩
  clear ho hb1 h
  obtain ⟨g, o1, rfl, hg0, hcs⟩ := HC1.out
  have HC := Lib.hid hcs
  clear hcs HC1
  rw [HL.out]
  go_wp2
  go_loopw [4, 9] (fun _ i wr => ∃ k : Nat, k ≤ n ∧ i = .int .i64 (k : Int) ∧ Hid (CS g o1 n l w wr)) (fun _ i _ => n - (intOf i).toNat)
  case atStart => exact ⟨0, by omega, rfl, HC⟩
  case round =>
   obtain ⟨k, hk, rfl, HR⟩ := hrel
   by_cases hlt : k < n
   rotate_left
   ·obtain rfl : k = n := by omega
    have HP : Hid (OpsPostC l w (.returned (.slice (some ⟨g, o1, none⟩) k c1)) wr) := by
     obtain ⟨h1, cs, hg, hs, hc⟩ := HR.out
     exact ⟨some ⟨g, o1, none⟩, c1, by rw [HL.out], by rw [HL.out]; exact hcc, ⟨rfl, fun _ => ⟨g, o1, cs, rfl, hg0, (Array.getElem?_eq_some_iff.1 hg).1, hg, by rw [HL.out]; exact hs, by rw [HL.out]; exact hc⟩⟩, h1⟩
    go_wp2
    go_ret
    exact HP.out
   have hit := HM.out k hlt
   have hput := fun w2 (h : CS g o1 n l w w2) => h.put hg0 hlt
   have HPut := Lib.hid hput
   clear hput
   have HCell : Hid (∀ w2, CS g o1 n l w w2 → w2.cell? ⟨g, o1 + k * 8 + 4, none⟩ = some (.string (l.getD k OpV.zero).item) ∧ w2.frozen? ⟨g, o1 + k * 8 + 4, none⟩ = false) := fun w2 h => by
    obtain ⟨_, cs, hg, _, hc⟩ := h
    exact ⟨((hc k hlt).at hg).2.2.2.2.1, frozen_of_row _ _ _ _ _ hg⟩
   generalize (l.getD k OpV.zero).item = s at hit HPut HCell
   have c4 := (HCell.out wr HR.out).1
   go_wp2_with fail
   refine (strClone s hit _).mono ?_
   rintro e w2 ⟨rfl, hb2⟩
   have HR2 := Lib.hid (HR.out.step hb2)
   clear c4 hb2 HR
   have c4 := (HCell.out w2 HR2.out).1
   have f4 := (HCell.out w2 HR2.out).2
   have HR3 := Lib.hid (HPut.out w2 HR2.out)
   go_wp2
   go_roundw
   case rel => exact ⟨k + 1, by omega, by go_num, HR3⟩
   case measure => simp [intOf]; omega
 ·obtain rfl : n = 0 := by omega
  have hl : l = [] := List.eq_nil_of_length_eq_zero h.1
  subst hl
  clear h0 hm
  rcases a with _ | ad
  ·obtain rfl := hcap rfl
   go_enter Tryz.func87, Tryz.ntmps87
   go_wp2_with fail
   refine (cloneNil w).mono ?_
   rintro e w1 ⟨rfl, rfl⟩
   go_wp2
   refine wp_loop_rounds 1 ?_
   rw [rounds_succ]
   go_wp2
   go_ret
   exact ⟨none, 0, rfl, Nat.le_refl _, own_none _ _ _ _, Below.refl _ _⟩
  ·clear hcap h
   go_enter Tryz.func87, Tryz.ntmps87
   go_wp2_with fail
   refine (cloneZero w ad cap).mono ?_
   rintro e w1 ⟨a1, c1, rfl, ho, hb1⟩
   have HB := Lib.hid hb1
   clear ho hb1
   go_wp2
   refine wp_loop_rounds 1 ?_
   rw [rounds_succ]
   go_wp2
   go_ret
   exact ⟨a1, c1, rfl, Nat.zero_le _, own_none _ _ _ _, HB.out⟩

end Go.Proofs.YtejhmakfbmhhhaaGreat

namespace Go.Proofs.YtejhmakfbmhhhaaGreat
set_option maxRecDepth 100000
open Go.RowKit

set_option linter.unusedSimpArgs false in
set_option maxHeartbeats 20000000 in
theorem implNamedC (w : World) (B : Nat) (av ao : Option Addr) (nv cv no co : Nat) (xs : List Int) (l : List OpV) (dev : Int) (hx : Ints w B av nv xs) (h : Ops w B ao no l) (hB : B ≤ w.heap.size) (hv : nv ≤ 1048576) (hvc : nv ≤ cv) (hc : no ≤ co) (hc2 : Fits no co) (hnil : ao = none → co = 0) (hm : ∀ i, i < no → (atOp l i).item.size ≤ 1048576) :
  Calls Tryz.prog 61 #[.agg #[.slice av nv cv, .slice ao no co], .int .i64 dev] w (OpsPostC (namedL xs l dev) w) := by
 have hn1048 : no ≤ 1048576 := hc2.1
 have hb0 : Below w.heap.size w (w.alloc (.cells #[.slice av nv cv, .slice ao no co] 27)) := (Below.refl _ w).alloc (Nat.le_refl _) _
 have HV := Lib.hid (hx.below hb0 hB)
 have HO := Lib.hid (h.below hb0 hB)
 have HB := Lib.hid hb0
 have HX := Lib.hid (boxAt (Below.refl _ (w.alloc (.cells #[.slice av nv cv, .slice ao no co] 27))))
 have HL := Lib.hid h.1
 have HM := Lib.hid hm
 have HNil := Lib.hid hnil
 have hsz : w.heap.size + 1 ≤ (w.alloc (.cells #[.slice av nv cv, .slice ao no co] 27)).heap.size := by show _ ≤ (w.heap.push _).size; simp
 clear hx h hb0 hm hnil
 rcases hcb : cartB xs l with _ | _
 ·have HF := Lib.hid (named_no (dev := dev) hcb)
  have HK := Lib.hid hcb
  clear hcb
  go_enter Tryz.func61, Tryz.ntmps61
  go_wp2_with fail
  generalize w.alloc (.cells #[.slice av nv cv, .slice ao no co] 27) = w0 at HV HO HB HX hsz ⊢
  refine (implCartOk w0 B av ao nv cv no co xs l HV.out HO.out (by omega) (by omega) hc hc2).mono ?_
  rintro e w1 ⟨rfl, hb1⟩
  rw [HK.out]
  have HB1 := Lib.hid (HB.out.trans (hb1.mono (by omega)))
  have HV1 := Lib.hid (HV.out.below hb1 (by omega))
  have HO1 := Lib.hid (HO.out.below hb1 (by omega))
  have HX1 := Lib.hid ((hb1.block _ (Array.getElem?_eq_some_iff.1 HX.out).1).trans HX.out)
  have hs1 := hb1.size
  clear hb1 HV HO HB HX
  go_wp2
  go_ret
  exact ⟨none, 0, by rw [HF.out]; rfl, by rw [HF.out]; exact Nat.le_refl _, by rw [HF.out]; exact own_none _ _ _ _, HB1.out⟩
 have HK := Lib.hid hcb
 obtain ⟨hvk, hdv, hst4⟩ := cart_true hcb
 have h4 : nv = 4 := HV.out.1.symm.trans (vec_at hvk (d := 0) (by omega)).2.2
 subst h4
 rcases hdb : inB dev 0 3 with _ | _
 ·have HF := Lib.hid (named_none (xs := xs) (l := l) hdb)
  have HD := Lib.hid hdb
  clear hcb hdb hdv hst4
  go_enter Tryz.func61, Tryz.ntmps61
  go_wp2_with fail
  generalize w.alloc (.cells #[.slice av 4 cv, .slice ao no co] 27) = w0 at HV HO HB HX hsz ⊢
  refine (implCartOk w0 B av ao 4 cv no co xs l HV.out HO.out (by omega) (by omega) hc hc2).mono ?_
  rintro e w1 ⟨rfl, hb1⟩
  rw [HK.out]
  have HB1 := Lib.hid (HB.out.trans (hb1.mono (by omega)))
  have HV1 := Lib.hid (HV.out.below hb1 (by omega))
  have HO1 := Lib.hid (HO.out.below hb1 (by omega))
  have HX1 := Lib.hid ((hb1.block _ (Array.getElem?_eq_some_iff.1 HX.out).1).trans HX.out)
  have hs1 := hb1.size
  clear hb1 HV HO HB HX
  go_wp2_with fail
  refine (deviceOkN _ _).mono ?_
  rintro e w2 ⟨rfl, rfl⟩
  rw [HD.out]
  go_wp2
  go_ret
  exact ⟨none, 0, by rw [HF.out]; rfl, by rw [HF.out]; exact Nat.le_refl _, by rw [HF.out]; exact own_none _ _ _ _, HB1.out⟩
 have HD := Lib.hid hdb
 have hd03 := inB_iff.1 hdb
 obtain ⟨d, rfl⟩ := Int.eq_ofNat_of_zero_le hd03.1
 have hd4 : d < 4 := by omega
 have HN : Hid (namedL xs l (d : Int) = segOf xs l d) := by show _ = _; rw [named_yes hcb, named_seg hcb hd4]
 have hle := stOf_mono xs (d + 1) 4 (by omega)
 obtain ⟨g1, g2, _⟩ := vec_at hvk hd4
 obtain ⟨c, hcx⟩ := Int.eq_ofNat_of_zero_le g1
 have HSeg : Hid (segOf xs l d = (l.drop (stOf xs d)).take c) := by show _ = _; unfold segOf; rw [hcx]; rfl
 have hsc : stOf xs d + c ≤ no := by
  have e : stOf xs (d + 1) = stOf xs d + c := by show stOf xs d + (xs.getD d 0).toNat = _; rw [hcx]; rfl
  rw [← HL.out, ← hst4, ← e]
  exact hle
 have HVk := Lib.hid hvk
 clear hcb hdb hdv hst4 hd03 hle g1 g2 hvk
 go_enter Tryz.func61, Tryz.ntmps61
 go_wp2_with fail
 generalize w.alloc (.cells #[.slice av 4 cv, .slice ao no co] 27) = w0 at HV HO HB HX hsz ⊢
 refine (implCartOk w0 B av ao 4 cv no co xs l HV.out HO.out (by omega) (by omega) hc hc2).mono ?_
 rintro e w1 ⟨rfl, hb1⟩
 rw [HK.out]
 have HB1 := Lib.hid (HB.out.trans (hb1.mono (by omega)))
 have HV1 := Lib.hid (HV.out.below hb1 (by omega))
 have HO1 := Lib.hid (HO.out.below hb1 (by omega))
 have HX1 := Lib.hid ((hb1.block _ (Array.getElem?_eq_some_iff.1 HX.out).1).trans HX.out)
 have hs1 := hb1.size
 clear hb1 HV HO HB HX
 go_wp2_with fail
 refine (deviceOkN _ _).mono ?_
 rintro e w2 ⟨rfl, rfl⟩
 rw [HD.out]
 obtain ⟨c0, c1⟩ := pair_cells HX1.out
 go_wp2_with fail
 refine (placeOf1 _ B av ao cv no co xs HV1.out (by omega) hvc HVk.out d hd4).mono ?_
 rintro e w2 ⟨rfl, hb2⟩
 have HB2 := Lib.hid (HB1.out.trans (hb2.mono (by omega)))
 have HV2 := Lib.hid (HV1.out.below hb2 (by omega))
 have HO2 := Lib.hid (HO1.out.below hb2 (by omega))
 have HX2 := Lib.hid ((hb2.block _ (Array.getElem?_eq_some_iff.1 HX1.out).1).trans HX1.out)
 have hs2 := hb2.size
 clear hb2 HB1 HV1 HO1 HX1 c0 c1
 obtain ⟨c0, c1⟩ := pair_cells HX2.out
 obtain ⟨bv, ov, rfl, hbv, cv0⟩ := HV2.out.2 d hd4
 rw [hcx] at cv0
 clear hcx
 generalize hst : stOf xs d = st at HSeg hsc ⊢
 have HSt := Lib.hid hst
 clear hst
 have i0 : (0 : Int) ≤ (st : Int) := by omega
 have i1 : (st : Int) ≤ (st : Int) + (c : Int) := by omega
 have i2 : (st : Int) + (c : Int) ≤ (co : Int) := by omega
 have i3 : (d : Int) < 4 := by omega
 have iw : IntKind.i64.wrap ((st : Int) + (c : Int)) = (st : Int) + (c : Int) := IntWalk.i64_in _ (by omega)
 have hlt2 := (Array.getElem?_eq_some_iff.1 HX2.out).1
 have hS : w2.drew.cell? ⟨w.heap.size, 0, none⟩ = some (.slice (some ⟨bv, ov, none⟩) 4 cv) ∧ w2.drew.cell? ⟨w.heap.size, 1, none⟩ = some (.slice ao no co) ∧ w2.drew.cell? ⟨bv, ov + d, none⟩ = some (.int .i64 (c : Int)) := ⟨c0, c1, cv0⟩
 have hcn : ((st : Int) + (c : Int)).toNat - st = c := by omega
 obtain ⟨xa, hxa⟩ : ∃ xa, (if co = st then ao else Option.map (fun x => x.add (st * 8)) ao) = xa := ⟨_, rfl⟩
 have HXa : Hid (Ops w2 B xa c ((l.drop st).take c) ∧ (xa = none → co - st = 0)) := by
  rw [← hxa]
  by_cases e : co = st
  ·rw [if_pos e]
   have hc0 : c = 0 := by omega
   subst hc0
   exact ⟨ops_empty (by simp), fun _ => by omega⟩
  ·rw [if_neg e]
   refine ⟨(HO2.out.dropMap (c := st) (by omega)).take (by omega), fun h => ?_⟩
   have : ao = none := by cases ao with | none => rfl | some x => cases h
   have := HNil.out this
   omega
 have HLc : Hid (((l.drop st).take c).length = c) := by show List.length _ = c; rw [List.length_take, List.length_drop, HL.out]; omega
 have HItm : Hid (∀ i, i < c → ((((l.drop st).take c).getD i OpV.zero).item.size ≤ 1048576)) := fun i hi => by
  have e : ((l.drop st).take c).getD i OpV.zero = atOp l (st + i) := at_cut hi
  rw [e]
  exact HM.out (st + i) (by omega)
 go_wp2_with fail
 refine wp_region_held_drew (S := fun w' => w'.cell? ⟨w.heap.size, 0, none⟩ = some (.slice (some ⟨bv, ov, none⟩) 4 cv) ∧ w'.cell? ⟨w.heap.size, 1, none⟩ = some (.slice ao no co) ∧ w'.cell? ⟨bv, ov + d, none⟩ = some (.int .i64 (c : Int))) (by kernel_rfl) hS (fun hHeld => ?_)
 refine tk 0 { dst := some 17, op := .fieldAddr 27 (.tmp 2) 1, type := 0, pos := "l08_pages.go:66", after := #[], guard := none } ?_
 (try simp only [Act.put, u1, u2, u3])
 refine tk 1 { dst := some 18, op := .load 25 (.tmp 17), type := 25, pos := "l08_pages.go:66", after := #[⟨0, .data⟩], guard := none } ?_
 (try simp only [Act.put, u1, u2, u3])
 refine tk 2 { dst := some 19, op := .move (.tmp 5), type := 3, pos := "l08_pages.go:66", after := #[], guard := none } ?_
 (try simp only [Act.put, u1, u2, u3])
 refine tk 3 { dst := some 20, op := .move (.tmp 5), type := 3, pos := "l08_pages.go:66", after := #[], guard := none } ?_
 (try simp only [Act.put, u1, u2, u3])
 refine tk 4 { dst := some 21, op := .fieldAddr 27 (.tmp 2) 0, type := 0, pos := "l08_pages.go:66", after := #[], guard := none } ?_
 (try simp only [Act.put, u1, u2, u3])
 refine tk 5 { dst := some 22, op := .load 24 (.tmp 21), type := 24, pos := "l08_pages.go:66", after := #[⟨4, .data⟩], guard := none } ?_
 (try simp only [Act.put, u1, u2, u3])
 refine tk 6 { dst := some 23, op := .move (.tmp 1), type := 2, pos := "l08_pages.go:66", after := #[], guard := none } ?_
 (try simp only [Act.put, u1, u2, u3])
 refine tk 7 { dst := some 24, op := .indexAddr 24 (.tmp 22) (.tmp 23), type := 0, pos := "l08_pages.go:66", after := #[⟨5, .data⟩, ⟨6, .data⟩], guard := none } ?_
 (try simp only [Act.put, u1, u2, u3])
 refine tk 8 { dst := some 25, op := .load 2 (.tmp 24), type := 2, pos := "l08_pages.go:66", after := #[⟨7, .data⟩], guard := none } ?_
 (try simp only [Act.put, u1, u2, u3])
 refine tk 9 { dst := some 26, op := .binOp .add 3 (.tmp 20) (.tmp 25) 3, type := 3, pos := "l08_pages.go:66", after := #[⟨3, .data⟩, ⟨8, .data⟩], guard := none } ?_
 (try simp only [Act.put, u1, u2, u3])
 refine tk 10 { dst := some 27, op := .slice 25 (.tmp 18) (some (.tmp 19)) (some (.tmp 26)) none, type := 25, pos := "l08_pages.go:66", after := #[⟨1, .data⟩, ⟨2, .data⟩, ⟨9, .data⟩], guard := none } ?_
 (try simp only [Act.put, u1, u2, u3])
 refine wpAnyH_ready (rs := [11]) (by kernel_rfl) (by simp) ?_
 refine AllReadyH.cons (o := { dst := some 28, op := .call { callee := .value (.func 87), args := #[.tmp 27], argTypes := #[25] }, type := 25, pos := "l08_pages.go:66", after := #[⟨10, .data⟩], guard := none }) rfl (fun K hK => ?_) AllReadyH.nil
 go_simp
 go_at_call 87
 refine (copiedOpsC w2.drew B xa c (co - st) _ (HXa.out.1.kept fun _ _ => rfl) (by show B ≤ w2.heap.size; omega) (by omega) HXa.out.2 HItm.out).mono ?_
 rintro e w3 ⟨ra, rc, rfl, hcc, ho3, hb3⟩
 rw [HLc.out] at hcc ⊢
 have hS3 : w3.cell? ⟨w.heap.size, 0, none⟩ = some (.slice (some ⟨bv, ov, none⟩) 4 cv) ∧ w3.cell? ⟨w.heap.size, 1, none⟩ = some (.slice ao no co) ∧ w3.cell? ⟨bv, ov + d, none⟩ = some (.int .i64 (c : Int)) := ⟨(hb3.cell (block_lt_of_cell hS.1)).trans hS.1, (hb3.cell (block_lt_of_cell hS.2.1)).trans hS.2.1, (hb3.cell (block_lt_of_cell hS.2.2)).trans hS.2.2⟩
 refine hK.out _ _ hS3 (fun hHeld2 => ?_)
 clear hK K
 (try simp only [Act.put, u1, u2, u3])
 refine tk 12 { dst := some 4, op := .assign (.tmp 28), type := 25, pos := "l08_pages.go:66", after := #[⟨11, .data⟩, ⟨11, .chain⟩, ⟨0, .phase⟩, ⟨1, .phase⟩, ⟨2, .phase⟩, ⟨3, .phase⟩, ⟨4, .phase⟩, ⟨5, .phase⟩, ⟨6, .phase⟩, ⟨7, .phase⟩, ⟨8, .phase⟩, ⟨9, .phase⟩, ⟨10, .phase⟩, ⟨11, .phase⟩], guard := none } ?_
 (try simp only [Act.put, u1, u2, u3])
 refine wpAnyH_done (by kernel_rfl) ?_ _
 have hbb : Below w2.heap.size w2 w3 := Below.mk hb3.os hb3.tape hb3.output hb3.size hb3.block
 have HB3 := Lib.hid (HB2.out.trans (hbb.mono HB2.out.size))
 have HO3 := Lib.hid (ho3.more (lo' := w.heap.size) (by show w.heap.size ≤ w2.heap.size; omega) (Nat.le_refl _))
 clear hb3 hbb ho3 hS hS3 hHeld hHeld2
 rw [← HSeg.out, ← HN.out] at HO3
 go_wp2
 go_ret
 exact ⟨ra, rc, by rw [HN.out, HSeg.out, HLc.out]; rfl, by rw [HN.out, HSeg.out, HLc.out]; exact hcc, HO3.out, HB3.out⟩
end Go.Proofs.YtejhmakfbmhhhaaGreat

namespace Go.Proofs.YtejhmakfbmhhhaaGreat
set_option maxRecDepth 100000
open Go.RowKit







end Go.Proofs.YtejhmakfbmhhhaaGreat
