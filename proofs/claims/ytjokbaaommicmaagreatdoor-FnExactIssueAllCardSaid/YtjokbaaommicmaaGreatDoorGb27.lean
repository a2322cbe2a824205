/- Walks and mathematics that several claims share, part 27. -/
import Derived.Test.YtjokbaaommicmaaGreatDoorGb24
import Derived.Test.YtjokbaaommicmaaGreatDoorGb3
import Derived.Test.YtjokbaaommicmaaGreatDoorGb23
import Derived.Test.YtjokbaaommicmaaGreatDoorGb16
import Derived.Deep.Cut
import Derived.Deep.AppendLies
import Derived.Lib.SliceRun
import Derived.Lib.MinMax
import Derived.Test.YtjokbaaommicmaaGreatDoorGbA
namespace Go.Proofs.YtjokbaaommicmaaGreatDoor
set_option maxRecDepth 100000
open Go.RowKit

def opRow (o : OpV) : List Value := [.int .i64 o.dev, .int .i64 o.seq, .int .i64 o.stamp, .int .i64 o.kind, .string o.item, .int .i64 o.qty, .int .i64 o.level, .int .i64 o.undos]
def opCells : List OpV → List Value
 | [] => []
 | x :: l => opRow x ++ opCells l
theorem opCells_len : ∀ l : List OpV, (opCells l).length = l.length * 8
 | [] => rfl
 | x :: l => by
  show (opRow x ++ opCells l).length = _
  rw [List.length_append, opCells_len l, List.length_cons]
  show 8 + _ = _
  omega
theorem opCells_snoc (x : OpV) : ∀ l : List OpV, opCells (l ++ [x]) = opCells l ++ opRow x
 | [] => by show opRow x ++ [] = [] ++ opRow x; rw [List.append_nil, List.nil_append]
 | y :: l => by
  show opRow y ++ opCells (l ++ [x]) = (opRow y ++ opCells l) ++ opRow x
  rw [opCells_snoc x l, List.append_assoc]
theorem opCells_at : ∀ (l : List OpV) (i u : Nat), i < l.length → u < 8 → (opCells l)[i * 8 + u]? = (opRow (l.getD i OpV.zero))[u]?
 | x :: l, 0, u, _, hu => by
  show (opRow x ++ opCells l)[0 * 8 + u]? = (opRow x)[u]?
  rw [Nat.zero_mul, Nat.zero_add, List.getElem?_append_left (by show u < 8; exact hu)]
 | x :: l, i + 1, u, hi, hu => by
  show (opRow x ++ opCells l)[(i + 1) * 8 + u]? = (opRow (l.getD i OpV.zero))[u]?
  rw [List.getElem?_append_right (by show 8 ≤ _; omega)]
  have e : (i + 1) * 8 + u - (opRow x).length = i * 8 + u := by show _ - 8 = _; omega
  rw [e, opCells_at l i u (by simpa using hi) hu]
theorem opCells_one : ∀ l : List OpV, ∀ u ∈ opCells l, u.oneCell' = true
 | [], u, h => by cases h
 | x :: l, u, h => by
  rcases List.mem_append.1 h with h1 | h1
  ·simp only [opRow, List.mem_cons, List.not_mem_nil, or_false] at h1
   rcases h1 with rfl | rfl | rfl | rfl | rfl | rfl | rfl | rfl <;> rfl
  ·exact opCells_one l u h1
theorem own_of_cells {w : World} {base hi : Nat} {a : Option Addr} {n cap : Nat} {l : List OpV} (h : w.ownsRow base 93 8 (.slice a n cap) n (opCells l)) (hh : w.heap.size ≤ hi) : OwnOps w base hi a n l := by
 have hl : l.length = n := by have := h.1; rw [opCells_len] at this; omega
 refine ⟨hl, fun hn => ?_⟩
 rcases h.2 with ⟨e, _⟩ | ⟨g, c, cur, e, hb, hg, hnc, _, hs, ht⟩
 ·cases e; omega
 ·injection e with e1 e2 e3
  have key : ∀ i u, i < n → u < 8 → cur[0 + i * 8 + u]? = (opRow (l.getD i OpV.zero))[u]? := fun i u hi' hu => by
   have h2 : (cur.toList.take (n * 8))[i * 8 + u]? = (opCells l)[i * 8 + u]? := by rw [ht]
   rw [List.getElem?_take_of_lt (by omega), opCells_at l i u (by omega) hu] at h2
   rw [Nat.zero_add, ← Array.getElem?_toList, h2]
  refine ⟨g, 0, cur, e1, hb, by have := (Array.getElem?_eq_some_iff.1 hg).1; omega, hg, by rw [hs]; have : n * 8 ≤ c * 8 := by omega
                                                                                           omega, fun i hi' => ?_⟩
  exact ⟨key i 0 hi' (by omega), key i 1 hi' (by omega), key i 2 hi' (by omega), key i 3 hi' (by omega), key i 4 hi' (by omega), key i 5 hi' (by omega), key i 6 hi' (by omega), key i 7 hi' (by omega)⟩
/-- What stands in a slice of operations, cell by cell, as 'append' asks. -/
theorem cells_of_ops {w : World} {B b off n : Nat} {l : List OpV} (h : Ops w B (some ⟨b, off, none⟩) n l) : ∀ j u, (opCells l)[j]? = some u → w.cell? ((⟨b, off, none⟩ : Addr).add j) = some u := by
 intro j u hj
 have hjl : j < l.length * 8 := by
  rcases Nat.lt_or_ge j (l.length * 8) with h' | h'
  ·exact h'
  ·rw [List.getElem?_eq_none (by rw [opCells_len]; exact h')] at hj; cases hj
 have hd : j = (j / 8) * 8 + j % 8 := by omega
 have hi : j / 8 < l.length := by omega
 obtain ⟨b', off', e, _, ho⟩ := h.2 (j / 8) (by rw [← h.1]; exact hi)
 injection e with e
 injection e with e1 e2
 subst e1 e2
 rw [hd, opCells_at l _ _ hi (by omega)] at hj
 rw [add_at]
 have hm : j % 8 < 8 := by omega
 obtain ⟨h0, h1, h2, h3, h4, h5, h6, h7⟩ := ho
 have hj8 : off + j = off + j / 8 * 8 + j % 8 := by omega
 rw [hj8]
 generalize j % 8 = m at hj hm ⊢
 obtain rfl | rfl | rfl | rfl | rfl | rfl | rfl | rfl : m = 0 ∨ m = 1 ∨ m = 2 ∨ m = 3 ∨ m = 4 ∨ m = 5 ∨ m = 6 ∨ m = 7 := by omega
 ·cases hj
  exact h0
 ·cases hj
  exact h1
 ·cases hj
  exact h2
 ·cases hj
  exact h3
 ·cases hj
  exact h4
 ·cases hj
  exact h5
 ·cases hj
  exact h6
 ·cases hj
  exact h7
set_option maxHeartbeats 5000000 in
theorem cloneOps (w : World) (B b off n cap : Nat) (l : List OpV) (h : Ops w B (some ⟨b, off, none⟩) n l) (hB : B ≤ w.heap.size) (hl : n ≤ 1048576) : Calls Tryz.prog 106 #[.slice (some ⟨b, off, none⟩) n cap] w (OpsPost l w) := by
 obtain ⟨i0, hi, hz0, hz1, hz2⟩ := info_parts Tryz.infoOp
 have hnil := fun w => Lib.run_eql_slice_nil (P := Tryz.prog) w 30 93 (some ⟨b, off, none⟩) n cap 0 0 Tryz.underlying30
 have hown : (w.alloc (.cells #[] 93)).ownsRow w.heap.size 93 8 (.slice (some ⟨w.heap.size, 0, none⟩) 0 0) 0 [] := World.ownsRow_made w #[] 0 (Nat.le_refl _) (by unfold maxLen; omega) rfl
 have hL := Lib.hid h.1
 have H := Lib.hid h
 clear h
 go_enter Tryz.func106, Tryz.ntmps106
 go_wp2_with (at_builtin; refine wpList_append_own _ rfl _ _ 30 rfl w.heap.size 93 i0 (.agg #[.int .i64 0, .int .i64 0, .int .i64 0, .int .i64 0, .string ⟨#[]⟩, .int .i64 0, .int .i64 0, .int .i64 0]) 8 72 Tryz.underlying30 hi hz0 hz1 hz2 rfl (by decide) _ _ _ rfl hown ⟨b, off, none⟩ n cap (opCells l) rfl ?c0 ?c1 ?c2 ?c3 ?c4 ?c5 ?_)
 case c0 => rw [opCells_len, hL.out]
 case c1 => exact cells_of_ops (H.out.below ((Below.refl w.heap.size w).alloc (Nat.le_refl _) _) hB)
 case c2 => exact opCells_one l
 case c3 => unfold maxLen; omega
 case c4 => omega
 case c5 => simp
 intro v' w1 hown' hgrow hnn
 have hb1 := ((Below.refl w.heap.size w).alloc (Nat.le_refl _) _).grown hgrow (by simp) (fun j hj => (hown.lt j hj).1)
 have hown2 : w1.ownsRow w.heap.size 93 8 v' n (opCells l) := by simpa using hown'
 obtain ⟨a', cap', hv⟩ : ∃ a' cap', v' = .slice a' n cap' := by
  rcases hown2.2 with ⟨e, e2⟩ | ⟨g, c, cur, e, _⟩
  ·exact ⟨none, 0, by rw [e, e2]⟩
  ·exact ⟨_, _, e⟩
 subst hv
 have HO := Lib.hid (own_of_cells (hi := w1.heap.size) hown2 (Nat.le_refl _))
 clear hown' hown2 hgrow hown hnn
 go_wp2
 go_ret
 exact ⟨a', cap', by rw [hL.out]; rfl, by rw [hL.out]; exact HO.out, hb1⟩
set_option maxHeartbeats 5000000 in
theorem cloneZero (w : World) (ad : Addr) (cap : Nat) : Calls Tryz.prog 106 #[.slice (some ad) 0 cap] w (OpsPost [] w) := by
 obtain ⟨i0, hi, hz0, hz1, hz2⟩ := info_parts Tryz.infoOp
 have hnil := fun w => Lib.run_eql_slice_nil (P := Tryz.prog) w 30 93 (some ad) 0 cap 0 0 Tryz.underlying30
 have hown : (w.alloc (.cells #[] 93)).ownsRow w.heap.size 93 8 (.slice (some ⟨w.heap.size, 0, none⟩) 0 0) 0 [] := World.ownsRow_made w #[] 0 (Nat.le_refl _) (by unfold maxLen; omega) rfl
 go_enter Tryz.func106, Tryz.ntmps106
 go_wp2_with (at_builtin; refine wpList_append_own _ rfl _ _ 30 rfl w.heap.size 93 i0 (.agg #[.int .i64 0, .int .i64 0, .int .i64 0, .int .i64 0, .string ⟨#[]⟩, .int .i64 0, .int .i64 0, .int .i64 0]) 8 72 Tryz.underlying30 hi hz0 hz1 hz2 rfl (by decide) _ _ _ rfl hown ad 0 cap [] rfl ?c0 ?c1 ?c2 ?c3 ?c4 ?c5 ?_)
 case c0 => rfl
 case c1 => intro j u hj; cases hj
 case c2 => intro u hu; cases hu
 case c3 => unfold maxLen; omega
 case c4 => omega
 case c5 => simp
 intro v' w1 hown' hgrow hnn
 have hb1 := ((Below.refl w.heap.size w).alloc (Nat.le_refl _) _).grown hgrow (by simp) (fun j hj => (hown.lt j hj).1)
 obtain ⟨a', cap', hv⟩ : ∃ a' cap', v' = .slice a' 0 cap' := by
  rcases hown'.2 with ⟨e, _⟩ | ⟨g, c, cur, e, _⟩
  ·exact ⟨none, 0, e⟩
  ·exact ⟨_, _, e⟩
 subst hv
 clear hown' hgrow hown hnn
 go_wp2
 go_ret
 exact ⟨a', cap', rfl, own_none _ _ _ _, hb1⟩
theorem cloneNil (w : World) : Calls Tryz.prog 106 #[.slice none 0 0] w fun e w' => e = .returned (.slice none 0 0) ∧ w = w' := by
 have hnil := fun w => Lib.run_eql_slice_nil (P := Tryz.prog) w 30 93 none 0 0 0 0 Tryz.underlying30
 go_enter Tryz.func106, Tryz.ntmps106
 go_wp2
 go_ret
 exact ⟨rfl, rfl⟩
theorem strClone (s : ByteArray) (h : s.size ≤ 1048576) (w : World) : Calls Tryz.prog 107 #[.string s] w fun e w' => e = .returned (.string s) ∧ Below w.heap.size w w' := by
 go_enter Tryz.func107, Tryz.ntmps107
 go_wp2_with fail
 refine (Tryz.stringslite_Clone s _ (by omega)).mono ?_
 rintro e w1 ⟨rfl, hb1⟩
 go_wp2
 go_ret
 exact ⟨rfl, hb1⟩
/-- A block of the call's own that holds n operations. -/
def CS (g off n : Nat) (l : List OpV) (w wr : World) : Prop := Below w.heap.size w wr ∧ ∃ cs : Array Value, wr.heap[g]? = some (.cells cs 93 (0, 0)) ∧ off + n * 8 ≤ cs.size ∧ ∀ i, i < n → OpIn cs (off + i * 8) (l.getD i OpV.zero)
theorem CS.step {g off n : Nat} {l : List OpV} {w wr w1 : World} (h : CS g off n l w wr) (hb : Below wr.heap.size wr w1) : CS g off n l w w1 := by
 obtain ⟨h1, cs, hg, r⟩ := h
 exact ⟨h1.trans (hb.mono h1.size), cs, (hb.block _ (Array.getElem?_eq_some_iff.1 hg).1).trans hg, r⟩
theorem CS.put {g off n k : Nat} {l : List OpV} {w wr : World} (h : CS g off n l w wr) (hg0 : w.heap.size ≤ g) (hk : k < n) : CS g off n l w (wr.setCell ⟨g, off + k * 8 + 4, none⟩ (.string (l.getD k OpV.zero).item)) := by
 obtain ⟨h1, cs, hg, hs, hc⟩ := h
 refine ⟨h1.setCell (p := ⟨g, off + k * 8 + 4, none⟩) hg0 _, cs.setIfInBounds (off + k * 8 + 4) (.string (l.getD k OpV.zero).item), heap_setCell_same _ _ _ _ _ _ hg, by simpa using hs, fun i hi => ?_⟩
 by_cases e : i = k
 ·subst e
  obtain ⟨h0, h1, h2, h3, h4, h5, h6, h7⟩ := hc i hi
  exact ⟨(Array.getElem?_setIfInBounds_ne (by omega)).trans h0, (Array.getElem?_setIfInBounds_ne (by omega)).trans h1, (Array.getElem?_setIfInBounds_ne (by omega)).trans h2, (Array.getElem?_setIfInBounds_ne (by omega)).trans h3, Array.getElem?_setIfInBounds_self_of_lt (by omega), (Array.getElem?_setIfInBounds_ne (by omega)).trans h5, (Array.getElem?_setIfInBounds_ne (by omega)).trans h6, (Array.getElem?_setIfInBounds_ne (by omega)).trans h7⟩
 ·exact opIn_far (hc i hi) (by omega)
set_option maxHeartbeats 10000000 in
theorem copiedOps (w : World) (B : Nat) (a : Option Addr) (n cap : Nat) (l : List OpV) (h : Ops w B a n l) (hB : B ≤ w.heap.size) (hn : n ≤ 1048576) (hcap : a = none → cap = 0) (hm : ∀ i, i < n → (l.getD i OpV.zero).item.size ≤ 1048576) : Calls Tryz.prog 85 #[.slice a n cap] w (OpsPost l w) := by
 by_cases h0 : 0 < n
 ·obtain ⟨b, off, rfl, hb, _⟩ := h.2 0 h0
  have HL := Lib.hid h.1
  have HM := Lib.hid hm
  clear hm hcap
  go_enter Tryz.func85, Tryz.ntmps85
  go_wp2_with fail
  refine (cloneOps w B b off n cap l h hB hn).mono ?_
  rintro e w1 ⟨a1, c1, rfl, ho, hb1⟩
  have HC1 : Hid (∃ g o1, a1 = some ⟨g, o1, none⟩ ∧ w.heap.size ≤ g ∧ CS g o1 n l w w1) := by
   rw [h.1] at ho
   obtain ⟨g, o1, cs, e1, h1, h2, hg, hs, hc⟩ := ho.2 h0
   exact ⟨g, o1, e1, h1, hb1, cs, hg, hs, hc⟩
  clear ho hb1 h
  obtain ⟨g, o1, rfl, hg0, hcs⟩ := HC1.out
  have HC := Lib.hid hcs
  clear hcs HC1
  rw [HL.out]
  go_wp2
  go_loopw [4, 9] (fun _ i wr => ∃ k : Nat, k ≤ n ∧ i = .int .i64 (k : Int) ∧ Hid (CS g o1 n l w wr)) (fun _ i _ => n - (intOf i).toNat)
  case atStart => exact ⟨0, by omega, rfl, HC⟩
  case round =>
   obtain ⟨k, hk, rfl, HR⟩ := hrel
   by_cases hlt : k < n
   rotate_left
   ·obtain rfl : k = n := by omega
    have HP : Hid (OpsPost l w (.returned (.slice (some ⟨g, o1, none⟩) k c1)) wr) := by
     obtain ⟨h1, cs, hg, hs, hc⟩ := HR.out
     exact ⟨some ⟨g, o1, none⟩, c1, by rw [HL.out], ⟨rfl, fun _ => ⟨g, o1, cs, rfl, hg0, (Array.getElem?_eq_some_iff.1 hg).1, hg, by rw [HL.out]; exact hs, by rw [HL.out]; exact hc⟩⟩, h1⟩
    go_wp2
    go_ret
    exact HP.out
   have hit := HM.out k hlt
   have hput := fun w2 (h : CS g o1 n l w w2) => h.put hg0 hlt
   have HPut := Lib.hid hput
   clear hput
   have HCell : Hid (∀ w2, CS g o1 n l w w2 → w2.cell? ⟨g, o1 + k * 8 + 4, none⟩ = some (.string (l.getD k OpV.zero).item) ∧ w2.frozen? ⟨g, o1 + k * 8 + 4, none⟩ = false) := fun w2 h => by
    obtain ⟨_, cs, hg, _, hc⟩ := h
    exact ⟨((hc k hlt).at hg).2.2.2.2.1, frozen_of_row _ _ _ _ _ hg⟩
   generalize (l.getD k OpV.zero).item = s at hit HPut HCell
   have c4 := (HCell.out wr HR.out).1
   go_wp2_with fail
   refine (strClone s hit _).mono ?_
   rintro e w2 ⟨rfl, hb2⟩
   have HR2 := Lib.hid (HR.out.step hb2)
   clear c4 hb2 HR
   have c4 := (HCell.out w2 HR2.out).1
   have f4 := (HCell.out w2 HR2.out).2
   have HR3 := Lib.hid (HPut.out w2 HR2.out)
   go_wp2
   go_roundw
   case rel => exact ⟨k + 1, by omega, by go_num, HR3⟩
   case measure => simp [intOf]; omega
 ·obtain rfl : n = 0 := by omega
  have hl : l = [] := List.eq_nil_of_length_eq_zero h.1
  subst hl
  clear h0 hm
  rcases a with _ | ad
  ·obtain rfl := hcap rfl
   go_enter Tryz.func85, Tryz.ntmps85
   go_wp2_with fail
   refine (cloneNil w).mono ?_
   rintro e w1 ⟨rfl, rfl⟩
   go_wp2
   refine wp_loop_rounds 1 ?_
   rw [rounds_succ]
   go_wp2
   go_ret
   exact ⟨none, 0, rfl, own_none _ _ _ _, Below.refl _ _⟩
  ·clear hcap h
   go_enter Tryz.func85, Tryz.ntmps85
   go_wp2_with fail
   refine (cloneZero w ad cap).mono ?_
   rintro e w1 ⟨a1, c1, rfl, ho, hb1⟩
   have HB := Lib.hid hb1
   clear ho hb1
   go_wp2
   refine wp_loop_rounds 1 ?_
   rw [rounds_succ]
   go_wp2
   go_ret
   exact ⟨a1, c1, rfl, own_none _ _ _ _, HB.out⟩
/-- A slice whose row, if it has elements, is a block of its own between lo and hi, and holds xs. -/
def Own (w : World) (lo hi : Nat) (a : Option Addr) (n : Nat) (xs : List Int) : Prop :=
 xs.length = n ∧ (0 < n → ∃ g cur, a = some ⟨g, 0, none⟩ ∧ lo ≤ g ∧ g < hi ∧ w.heap[g]? = some (.cells cur 2 (0, 0)) ∧ ∀ i, i < n → cur[i]? = some (.int .i64 (xs.getD i 0)))
theorem Own.ints {w : World} {lo hi : Nat} {a : Option Addr} {n : Nat} {xs : List Int} (h : Own w lo hi a n xs) : Ints w hi a n xs :=
 ⟨h.1, fun i hi' => by
  obtain ⟨g, cur, e, _, hg2, hg, hc⟩ := h.2 (by omega)
  exact ⟨g, 0, e, hg2, by rw [cell_of_row _ _ _ _ _ _ hg, Nat.zero_add]; exact hc i hi'⟩⟩
theorem Own.kept {w w' : World} {lo hi : Nat} {a : Option Addr} {n : Nat} {xs : List Int} (h : Own w lo hi a n xs) (hk : ∀ j, lo ≤ j → j < hi → w'.heap[j]? = w.heap[j]?) : Own w' lo hi a n xs :=
 ⟨h.1, fun hn => by
  obtain ⟨g, cur, e, h1, h2, hg, hc⟩ := h.2 hn
  exact ⟨g, cur, e, h1, h2, (hk g h1 h2).trans hg, hc⟩⟩
theorem Own.below {w w' : World} {lo hi B : Nat} {a : Option Addr} {n : Nat} {xs : List Int} (h : Own w lo hi a n xs) (hb : Below B w w') (hB : hi ≤ B) : Own w' lo hi a n xs :=
 h.kept fun j _ h2 => hb.block j (by omega)
theorem Own.more {w : World} {lo hi lo' hi' : Nat} {a : Option Addr} {n : Nat} {xs : List Int} (h : Own w lo hi a n xs) (h1 : lo' ≤ lo) (h2 : hi ≤ hi') : Own w lo' hi' a n xs :=
 ⟨h.1, fun hn => by
  obtain ⟨g, cur, e, a1, a2, r⟩ := h.2 hn
  exact ⟨g, cur, e, by omega, by omega, r⟩⟩
theorem own_fresh {w w' : World} {xs : List Int} {hi : Nat} (hg : w'.heap[w.heap.size]? = some (.cells (xs.map (Value.int .i64)).toArray 2 (0, 0))) (hh : w.heap.size < hi) : Own w' w.heap.size hi (some ⟨w.heap.size, 0, none⟩) xs.length xs :=
 ⟨rfl, fun _ => ⟨_, _, rfl, Nat.le_refl _, hh, hg, fun i hi' => by simp [List.getElem?_eq_getElem hi']⟩⟩
theorem own_of_row {w : World} {base hi : Nat} {a : Option Addr} {n cap : Nat} {xs : List Int} (h : w.ownsRow base 2 1 (.slice a n cap) n (xs.map (Value.int .i64))) (hh : w.heap.size ≤ hi) : Own w base hi a n xs := by
 refine ⟨by have := h.1; simpa using this, fun hn => ?_⟩
 have hl : xs.length = n := by have := h.1; simpa using this
 rcases h.2 with ⟨e, _⟩ | ⟨g, c, cur, e, hb, hg, _, _, _, ht⟩
 ·cases e; omega
 ·injection e with e1 e2 e3
  refine ⟨g, cur, e1, hb, by have := (Array.getElem?_eq_some_iff.1 hg).1; omega, hg, fun i hi' => ?_⟩
  have h2 : (cur.toList.take (n * 1))[i]? = (xs.map (Value.int .i64))[i]? := by rw [ht]
  rw [Nat.mul_one, List.getElem?_take_of_lt hi', List.getElem?_map, List.getElem?_eq_getElem (by omega : i < xs.length)] at h2
  rw [← Array.getElem?_toList, h2, List.getD_eq_getElem?_getD, List.getElem?_eq_getElem (by omega)]
  rfl


/-- Nothing has turned but blocks from lo up to hi. -/
structure Outside (lo hi : Nat) (w w' : World) : Prop where
 os : w'.os = w.os
 tape : w'.tape = w.tape
 output : w'.output = w.output
 size : w'.heap.size = w.heap.size
 block : ∀ j, j < lo ∨ hi ≤ j → w'.heap[j]? = w.heap[j]?
theorem Outside.below {lo hi : Nat} {w w' : World} (h : Outside lo hi w w') {B : Nat} (hB : B ≤ lo) : Below B w w' := ⟨h.os, h.tape, h.output, Nat.le_of_eq h.size.symm, fun k hk => h.block k (.inl (by omega))⟩
theorem Own.outside {w w' : World} {lo hi lo' hi' : Nat} {a : Option Addr} {n : Nat} {xs : List Int} (h : Own w lo hi a n xs) (ho : Outside lo' hi' w w') (hd : hi ≤ lo' ∨ hi' ≤ lo) : Own w' lo hi a n xs :=
 h.kept fun j h1 h2 => ho.block j (by omega)

def marks (k n : Nat) : List Int := (List.range n).map fun j => ((k + j : Nat) : Int)
theorem marks_len (k n : Nat) : (marks k n).length = n := by simp [marks]
theorem marks_at {k n i : Nat} (h : i < n) : (marks k n).getD i 0 = ((k + i : Nat) : Int) := by
 rw [List.getD_eq_getElem?_getD]
 simp [marks, h]

def MarkPost (k n lo hi : Nat) (a : Option Addr) (w : World) (e : Ending) (w' : World) : Prop :=
 (∃ m : Nat, m = k + n ∧ e = .returned (.int .i64 (m : Int))) ∧ Own w' lo hi a n (marks k n) ∧ Outside lo hi w w'

set_option maxHeartbeats 2000000 in
theorem mark (w : World) (lo hi : Nat) (a : Option Addr) (n cap : Nat) (xs : List Int) (h : Own w lo hi a n xs) (k : Nat) (hk : k ≤ 20000000) (hn : n ≤ 1048576) :
  Calls Tryz.prog 22 #[.slice a n cap, .int .i64 (k : Int)] w (MarkPost k n lo hi a w) := by
 by_cases h0 : 0 < n
 ·obtain ⟨g, cur, rfl, hlo, hhi, hg, hc⟩ := h.2 h0
  have HG := Lib.hid hg
  have HC := Lib.hid hc
  clear h hg hc
  go_enter Tryz.func22, Tryz.ntmps22
  go_wp2
  go_loopw [1, 5] (fun m i wr => ∃ j q : Nat, j ≤ n ∧ i = .int .i64 j ∧ m = .int .i64 q ∧ Hid (q = k + j) ∧ Hid (Outside g (g + 1) w wr ∧ ∃ cs : Array Value, wr.heap[g]? = some (.cells cs 2 (0, 0)) ∧ n ≤ cs.size ∧ ∀ t, t < j → cs[t]? = some (.int .i64 ((k + t : Nat) : Int)))) (fun _ i _ => n - (intOf i).toNat)
  case atStart =>
   refine ⟨0, k, by omega, rfl, rfl, rfl, ⟨rfl, rfl, rfl, rfl, fun _ _ => rfl⟩, cur, HG.out, ?_, fun t ht => by omega⟩
   have := HC.out (n - 1) (by omega)
   have := (Array.getElem?_eq_some_iff.1 this).1
   omega
  case round =>
   obtain ⟨j, q, hj, rfl, rfl, HQ, HP⟩ := hrel
   have hq : q ≤ 22000000 := by have := HQ.out; omega
   by_cases hlt : j < n
   ·obtain ⟨hout, cs, hgs, hsz, hct⟩ := HP.out
    have c1 : wr.cell? ⟨g, j, none⟩ = some cs[j] := (cell_of_row _ _ _ _ _ _ hgs).trans (Array.getElem?_eq_getElem (by omega))
    have f1 : wr.frozen? ⟨g, j, none⟩ = false := frozen_of_row _ _ _ _ _ hgs
    generalize cs[j] = v at c1
    have HP' : Hid (Outside g (g + 1) w (wr.setCell ⟨g, j, none⟩ (.int .i64 (q : Int))) ∧ ∃ cs : Array Value, (wr.setCell ⟨g, j, none⟩ (.int .i64 (q : Int))).heap[g]? = some (.cells cs 2 (0, 0)) ∧ n ≤ cs.size ∧ ∀ t, t < j + 1 → cs[t]? = some (.int .i64 ((k + t : Nat) : Int))) := by
     refine ⟨⟨hout.os, hout.tape, hout.output, by simpa [World.setCell] using hout.size, fun i hi => (heap_setCell_other _ _ _ _ (by show i ≠ g; omega)).trans (hout.block i hi)⟩, cs.setIfInBounds j (.int .i64 (q : Int)), heap_setCell_same _ _ _ _ _ _ hgs, by simpa using hsz, fun t ht => ?_⟩
     rw [Array.getElem?_setIfInBounds]
     by_cases e : j = t
     ·subst e
      rw [if_pos rfl, if_pos (by omega), HQ.out]
     ·rw [if_neg e]
      exact hct t (by omega)
    clear hout hgs hsz hct HP
    go_wp2
    go_roundw
    case rel => exact ⟨j + 1, q + 1, by omega, by go_num, by go_num, (by have := HQ.out; show q + 1 = k + (j + 1); omega), HP'⟩
    case measure => simp [intOf]; omega
   ·obtain rfl : j = n := by omega
    obtain ⟨hout, cs, hgs, hsz, hct⟩ := HP.out
    have HO : Hid (MarkPost k j lo hi (some ⟨g, 0, none⟩) w (.returned (.int .i64 (q : Int))) wr) := by
     refine ⟨⟨q, HQ.out, rfl⟩, ⟨marks_len _ _, fun _ => ⟨g, cs, rfl, hlo, hhi, hgs, fun i hi => by rw [marks_at hi]; exact hct i hi⟩⟩, ⟨hout.os, hout.tape, hout.output, hout.size, fun i hi => hout.block i (by omega)⟩⟩
    clear hout hgs hsz hct HP
    go_wp2
    go_ret
    exact HO.out
 ·obtain rfl : n = 0 := by omega
  clear h
  go_enter Tryz.func22, Tryz.ntmps22
  go_wp2
  refine wp_loop_rounds 1 ?_
  rw [rounds_succ]
  go_wp2
  go_ret
  exact ⟨⟨k, rfl, rfl⟩, ⟨rfl, fun hn => absurd hn (by omega)⟩, ⟨rfl, rfl, rfl, rfl, fun _ _ => rfl⟩⟩


theorem PartOps.own {w wr : World} {g n : Nat} {l : List OpV} (h : PartOps w wr g n l n) (hl : l.length = n) : OwnOps wr g (g + 1) (some ⟨g, 0, none⟩) n l := by
 obtain ⟨h1, cs, hg, hs, hc⟩ := h
 refine ⟨hl, fun _ => ⟨g, 0, cs, rfl, Nat.le_refl _, Nat.lt_succ_self _, hg, by omega, fun i hi => ?_⟩⟩
 rw [Nat.zero_add]
 exact hc i hi
def FreshOwn (l : List OpV) (w : World) (e : Ending) (w' : World) : Prop :=
 e = .returned (.slice (some ⟨w.heap.size, 0, none⟩) l.length l.length) ∧ OwnOps w' w.heap.size (w.heap.size + 1) (some ⟨w.heap.size, 0, none⟩) l.length l ∧ w.heap.size < w'.heap.size ∧ Below w.heap.size w w'
set_option maxHeartbeats 5000000 in
theorem toOpsO (w : World) (B : Nat) (a : Option Addr) (n cap : Nat) (l : List OpV) (h : Ops w B a n l) (hB : B ≤ w.heap.size) (hl : n ≤ 1048576) :
  Calls Tryz.prog 39 #[.slice a n cap] w (FreshOwn l w) := by
 obtain ⟨i0, hi, hz0, hz1, hz2⟩ := info_parts Tryz.infoOp
 obtain ⟨M, hM⟩ : ∃ M, M = madeCells (Value.agg #[.int .i64 0, .int .i64 0, .int .i64 0, .int .i64 0, .string ⟨#[]⟩, .int .i64 0, .int .i64 0, .int .i64 0]).cells (((n : Nat) : Int).toNat * i0.size) := ⟨_, rfl⟩
 have hMs : M.size = n * 8 := by rw [hM, size_madeCells, hz1]; simp
 have hmk : ∀ W : World, (Instr.makeSlice 30 (.int .i64 (n : Int)) (.int .i64 (n : Int))).run Tryz.prog W = .ok (.slice (some ⟨W.heap.size, 0, none⟩) n n) (W.alloc (.cells M 93)) := fun W => by
  have h := run_make (P := Tryz.prog) W 30 93 i0 (.agg #[.int .i64 0, .int .i64 0, .int .i64 0, .int .i64 0, .string ⟨#[]⟩, .int .i64 0, .int .i64 0, .int .i64 0]) Tryz.underlying30 hi hz0 .i64 .i64 (n : Int) (n : Int) (by omega) (by omega) (by rw [hz2]; omega) (by omega)
  rw [← hM] at h
  simpa using h
 have hL := Lib.hid h.1
 have H := Lib.hid h
 have HM := Lib.hid hMs
 clear hM h hMs hi hz0 hz1 hz2
 go_enter Tryz.func39, Tryz.ntmps39
 go_wp2
 go_loopw [4] (fun i wr => ∃ k : Nat, k ≤ n ∧ i = .int .i64 k ∧ Hid (PartOps w wr w.heap.size n l k) ∧ Hid (w.heap.size < wr.heap.size)) (fun i _ => n - (intOf i).toNat)
 case atStart => exact ⟨0, Nat.zero_le _, rfl, ⟨bl, M, heap_alloc_new _ _, HM.out, fun j hj => by omega⟩, (by show _ < (w.heap.push _).size; simp)⟩
 case round =>
  obtain ⟨k, hk, rfl, HP, HW⟩ := hrel
  by_cases hlt : k < n
  ·obtain ⟨b, off, rfl, hb, ho⟩ := H.out.2 k hlt
   obtain ⟨c0, c1, c2, c3, c4, c5, c6, c7⟩ := ho.kept (HP.out.1.block b (by omega))
   clear ho
   generalize ho' : l.getD k OpV.zero = x at c0 c1 c2 c3 c4 c5 c6 c7
   have HXo := Lib.hid ho'
   clear ho'
   go_wp2_with fail
   refine (toOp x.dev x.seq x.stamp x.kind x.item x.qty x.level x.undos _).mono ?_
   rintro e w1 ⟨rfl, hb1⟩
   clear c0 c1 c2 c3 c4 c5 c6 c7
   have HP1 := Lib.hid (HP.out.next hb1)
   have hw1 : w.heap.size < w1.heap.size := by have := HW.out; have := hb1.size; omega
   have HS : Hid (PartOps w (setAt w1 w.heap.size (k * 8) x) w.heap.size n l (k + 1)) := by have := HP1.out.step (Nat.le_refl _) hlt; rw [HXo.out] at this; exact this
   obtain ⟨v0, v1, v2, v3, v4, v5, v6, v7, d0, d1, d2, d3, d4, d5, d6, d7⟩ := HP1.out.cells hlt
   have f0 := HP1.out.frozen (k * 8)
   have f1 := HP1.out.frozen (k * 8 + 1)
   have f2 := HP1.out.frozen (k * 8 + 2)
   have f3 := HP1.out.frozen (k * 8 + 3)
   have f4 := HP1.out.frozen (k * 8 + 4)
   have f5 := HP1.out.frozen (k * 8 + 5)
   have f6 := HP1.out.frozen (k * 8 + 6)
   have f7 := HP1.out.frozen (k * 8 + 7)
   have hsz : (setAt w1 w.heap.size (k * 8) x).heap.size = w1.heap.size := by unfold setAt; simp [World.setCell]
   clear hb1 HP HP1 HW
   go_wp2
   go_roundw
   case rel => exact ⟨k + 1, by omega, by go_num, HS, (by show _ < (setAt w1 w.heap.size (k * 8) x).heap.size; rw [hsz]; exact hw1)⟩
   case measure => simp [intOf]; omega
  ·obtain rfl : k = n := by omega
   have HD := Lib.hid (HP.out.own hL.out)
   go_wp2
   go_ret
   exact ⟨by rw [hL.out]; rfl, by rw [hL.out]; exact HD.out, HW.out, HP.out.1⟩

/-- A new cart of the call's own with the same vector and operations is handed back. -/
def OwnCart (xs : List Int) (l : List OpV) (w : World) (e : Ending) (w' : World) : Prop :=
 ∃ av ao mid, e = .returned (.agg #[.slice av xs.length xs.length, .slice ao l.length l.length]) ∧ ao ≠ none ∧ w.heap.size ≤ mid ∧ mid ≤ w'.heap.size ∧ Own w' w.heap.size mid av xs.length xs ∧ OwnOps w' mid w'.heap.size ao l.length l ∧ Below w.heap.size w w'
set_option maxHeartbeats 10000000 in
theorem toCartO (w : World) (B : Nat) (av ao : Option Addr) (nv cv no co : Nat) (xs : List Int) (l : List OpV) (hx : Ints w B av nv xs) (h : Ops w B ao no l) (hB : B ≤ w.heap.size) (hv : nv ≤ 1048576) (hn : no ≤ 1048576) :
  Calls Tryz.prog 9 #[.agg #[.slice av nv cv, .slice ao no co]] w (OwnCart xs l w) := by
 have H3 := Lib.hid (three0 w #[.slice av nv cv, .slice ao no co] #[.slice none 0 0, .slice none 0 0])
 have HX := Lib.hid (hx.below H3.out.bel hB)
 have HO := Lib.hid (h.below H3.out.bel hB)
 have hL : no = l.length := h.1.symm
 have hLx : nv = xs.length := hx.1.symm
 have HL := Lib.hid hL
 have HLx := Lib.hid hLx
 clear hx h hL hLx
 go_enter Tryz.func9, Tryz.ntmps9
 go_upto_region 2 with fail
 generalize ((w.alloc (.cells #[.slice av nv cv, .slice ao no co] 25)).alloc (.cells #[.slice none 0 0, .slice none 0 0] 32)).alloc (.cells #[.slice none 0 0, .slice none 0 0] 32) = w0 at H3 HX HO ⊢
 obtain ⟨c0, c1⟩ := pair_cells H3.out.arg
 have hsz0 := H3.out.bel.size
 have hlt0 : w.heap.size + 2 < w0.heap.size := (Array.getElem?_eq_some_iff.1 H3.out.out).1
 go_wp2_with fail
 refine (toInts w0 B av nv cv xs HX.out (by omega) hv).mono ?_
 rintro e w1 ⟨rfl, hg1, hb1⟩
 have hI1 : Own w1 w0.heap.size w1.heap.size (some ⟨w0.heap.size, 0, none⟩) xs.length xs := own_fresh hg1 (lt_of_block hg1)
 have H31 := Lib.hid (H3.out.next hb1)
 have HO1 := Lib.hid (HO.out.below hb1 (by omega))
 have hs1 := hb1.size
 have hlt1 := lt_of_block hg1
 clear c0 c1 hg1 hb1 HO HX H3
 obtain ⟨d0, d1⟩ := pair_cells H31.out.out
 obtain ⟨f0, f1⟩ := pair_frozen H31.out.out
 have H32 : Hid (Three w (w1.setCell ⟨w.heap.size + 2, 0, none⟩ (.slice (some ⟨w0.heap.size, 0, none⟩) xs.length xs.length)) #[.slice av nv cv, .slice ao no co] #[.slice (some ⟨w0.heap.size, 0, none⟩) xs.length xs.length, .slice none 0 0]) := H31.out.put 0 _
 have HO2 : Hid (Ops (w1.setCell ⟨w.heap.size + 2, 0, none⟩ (.slice (some ⟨w0.heap.size, 0, none⟩) xs.length xs.length)) B ao no l) := HO1.out.kept fun k hk => heap_setCell_other _ _ _ _ (by show k ≠ w.heap.size + 2; omega)
 have HI2 : Hid (Own (w1.setCell ⟨w.heap.size + 2, 0, none⟩ (.slice (some ⟨w0.heap.size, 0, none⟩) xs.length xs.length)) w0.heap.size w1.heap.size (some ⟨w0.heap.size, 0, none⟩) xs.length xs) := hI1.kept fun j h1 h2 => heap_setCell_other _ _ _ _ (by show j ≠ w.heap.size + 2; omega)
 have hsz2 : (w1.setCell ⟨w.heap.size + 2, 0, none⟩ (.slice (some ⟨w0.heap.size, 0, none⟩) xs.length xs.length)).heap.size = w1.heap.size := by simp [World.setCell]
 go_upto_region 3 with fail
 generalize w1.setCell ⟨w.heap.size + 2, 0, none⟩ (.slice (some ⟨w0.heap.size, 0, none⟩) xs.length xs.length) = w2 at H32 HO2 HI2 hsz2 ⊢
 generalize w0.heap.size = g0 at H32 HI2 hsz0 hlt0 hs1 hlt1 ⊢
 clear d0 d1 f0 f1 H31 HO1 hI1
 obtain ⟨c0, c1⟩ := pair_cells H32.out.arg
 have hs2 : w1.heap.size ≤ w2.heap.size := Nat.le_of_eq hsz2.symm
 clear hsz2
 go_wp2_with fail
 refine (toOpsO w2 B ao no co l HO2.out (by omega) hn).mono ?_
 rintro e w3 ⟨rfl, ho3, hlt3, hb3⟩
 have H33 := Lib.hid (H32.out.next hb3)
 have HI3 := Lib.hid (HI2.out.below hb3 (by omega))
 have HO3 := Lib.hid ho3
 have hs3 := hb3.size
 clear c0 c1 hb3 ho3 H32 HI2 HO2
 obtain ⟨d0, d1⟩ := pair_cells H33.out.out
 obtain ⟨f0, f1⟩ := pair_frozen H33.out.out
 have H34 : Hid (Three w (w3.setCell ⟨w.heap.size + 2, 1, none⟩ (.slice (some ⟨w2.heap.size, 0, none⟩) l.length l.length)) #[.slice av nv cv, .slice ao no co] #[.slice (some ⟨g0, 0, none⟩) xs.length xs.length, .slice (some ⟨w2.heap.size, 0, none⟩) l.length l.length]) := H33.out.put 1 _
 have HI4 : Hid (Own (w3.setCell ⟨w.heap.size + 2, 1, none⟩ (.slice (some ⟨w2.heap.size, 0, none⟩) l.length l.length)) g0 w1.heap.size (some ⟨g0, 0, none⟩) xs.length xs) := HI3.out.kept fun j h1 h2 => heap_setCell_other _ _ _ _ (by show j ≠ w.heap.size + 2; omega)
 have HO4 : Hid (OwnOps (w3.setCell ⟨w.heap.size + 2, 1, none⟩ (.slice (some ⟨w2.heap.size, 0, none⟩) l.length l.length)) w2.heap.size (w2.heap.size + 1) (some ⟨w2.heap.size, 0, none⟩) l.length l) := HO3.out.kept fun j h1 h2 => heap_setCell_other _ _ _ _ (by show j ≠ w.heap.size + 2; omega)
 have HNn : Hid (some (⟨w2.heap.size, 0, none⟩ : Addr) ≠ none) := by show some _ ≠ none; intro h; cases h
 have hsz4 : (w3.setCell ⟨w.heap.size + 2, 1, none⟩ (.slice (some ⟨w2.heap.size, 0, none⟩) l.length l.length)).heap.size = w3.heap.size := by simp [World.setCell]
 have HIk : Hid (∀ v0 v1 : Value, Own (((w3.setCell ⟨w.heap.size + 2, 1, none⟩ (.slice (some ⟨w2.heap.size, 0, none⟩) l.length l.length)).setCell ⟨w.heap.size + 1, 0, none⟩ v0).setCell ⟨w.heap.size + 1, 1, none⟩ v1) g0 w1.heap.size (some ⟨g0, 0, none⟩) xs.length xs) := fun v0 v1 => HI4.out.kept fun j h1 h2 => (heap_setCell_other _ _ _ _ (by show j ≠ w.heap.size + 1; omega)).trans (heap_setCell_other _ _ _ _ (by show j ≠ w.heap.size + 1; omega))
 have HOk : Hid (∀ v0 v1 : Value, OwnOps (((w3.setCell ⟨w.heap.size + 2, 1, none⟩ (.slice (some ⟨w2.heap.size, 0, none⟩) l.length l.length)).setCell ⟨w.heap.size + 1, 0, none⟩ v0).setCell ⟨w.heap.size + 1, 1, none⟩ v1) w2.heap.size (w2.heap.size + 1) (some ⟨w2.heap.size, 0, none⟩) l.length l) := fun v0 v1 => HO4.out.kept fun j h1 h2 => (heap_setCell_other _ _ _ _ (by show j ≠ w.heap.size + 1; omega)).trans (heap_setCell_other _ _ _ _ (by show j ≠ w.heap.size + 1; omega))
 have hlo : w.heap.size ≤ g0 ∧ w.heap.size ≤ w2.heap.size ∧ w1.heap.size ≤ w3.heap.size ∧ w2.heap.size + 1 ≤ w3.heap.size := by omega
 go_upto_region 4 with fail
 generalize w3.setCell ⟨w.heap.size + 2, 1, none⟩ (.slice (some ⟨w2.heap.size, 0, none⟩) l.length l.length) = w4 at H34 HI4 HO4 hsz4 HIk HOk ⊢
 generalize some (⟨w2.heap.size, 0, none⟩ : Addr) = oa at H34 HO4 HOk HNn ⊢
 generalize some (⟨g0, 0, none⟩ : Addr) = va at H34 HI4 HIk ⊢
 clear d0 d1 f0 f1 H33 HI3 HO3
 obtain ⟨d0, d1⟩ := pair_cells H34.out.out
 obtain ⟨e0, e1⟩ := pair_cells H34.out.res
 obtain ⟨f0, f1⟩ := pair_frozen H34.out.res
 have HX := Lib.hid (pair_set (.slice va xs.length xs.length) (.slice oa l.length l.length) H34.out.res)
 have HBf := Lib.hid ((H34.out.bel.setCell (p := ⟨w.heap.size + 1, 0, none⟩) (by show _ ≤ w.heap.size + 1; omega) (.slice va xs.length xs.length)).setCell (p := ⟨w.heap.size + 1, 1, none⟩) (by show _ ≤ w.heap.size + 1; omega) (.slice oa l.length l.length))
 have hszf := pair_size w4 (w.heap.size + 1) (.slice va xs.length xs.length) (.slice oa l.length l.length)
 have HIf : Hid (Own ((w4.setCell ⟨w.heap.size + 1, 0, none⟩ (.slice va xs.length xs.length)).setCell ⟨w.heap.size + 1, 1, none⟩ (.slice oa l.length l.length)) g0 w1.heap.size va xs.length xs) := HIk.out _ _
 have HOf : Hid (OwnOps ((w4.setCell ⟨w.heap.size + 1, 0, none⟩ (.slice va xs.length xs.length)).setCell ⟨w.heap.size + 1, 1, none⟩ (.slice oa l.length l.length)) w2.heap.size (w2.heap.size + 1) oa l.length l) := HOk.out _ _
 clear HIk HOk H34 HI4 HO4
 go_wp2
 generalize (w4.setCell ⟨w.heap.size + 1, 0, none⟩ (.slice va xs.length xs.length)).setCell ⟨w.heap.size + 1, 1, none⟩ (.slice oa l.length l.length) = wf at HX HBf hszf HIf HOf ⊢
 clear d0 d1 e0 e1 f0 f1
 obtain ⟨d0, d1⟩ := pair_cells HX.out
 exact bodyPost_ret (v := .agg #[.slice va xs.length xs.length, .slice oa l.length l.length]) (by simp [results, Tryz.results9, go_sem, d0, d1]) rfl ⟨va, oa, w1.heap.size, rfl, HNn.out, by omega, by omega, HIf.out.more (by omega) (Nat.le_refl _), HOf.out.more (by omega) (by omega), HBf.out⟩

theorem Outside.beside {lo hi : Nat} {w w' : World} (h : Outside lo hi w w') : Beside lo hi w w' := ⟨h.os, h.tape, h.output, Nat.le_of_eq h.size.symm, fun j _ hj => h.block j hj⟩
theorem Beside.trans {lo hi : Nat} {w w1 w2 : World} (h : Beside lo hi w w1) (h2 : Beside lo hi w1 w2) : Beside lo hi w w2 :=
 ⟨h2.os.trans h.os, h2.tape.trans h.tape, h2.output.trans h.output, Nat.le_trans h.size h2.size, fun j hj hd => (h2.block j (by have := h.size; omega) hd).trans (h.block j hj hd)⟩
theorem Below.beside {lo hi : Nat} {w w' : World} (h : Below w.heap.size w w') : Beside lo hi w w' := ⟨h.os, h.tape, h.output, h.size, fun j hj _ => h.block j hj⟩
theorem cart_true {xs : List Int} {l : List OpV} (h : cartB xs l = true) : vecOk xs = true ∧ (∀ d, d < 4 → devB xs l d = true) ∧ stOf xs 4 = l.length := by
 unfold cartB at h
 simp only [Bool.and_eq_true, List.all_eq_true, decide_eq_true_eq] at h
 exact ⟨h.1, fun d hd => h.2.1 d (by simpa using hd), h.2.2⟩
theorem stOf_le {xs : List Int} (h : vecOk xs = true) : ∀ d, d ≤ 4 → stOf xs d ≤ 40 * d
 | 0, _ => Nat.le_refl _
 | d + 1, hd => by
  have h1 := stOf_le h d (by omega)
  have h2 := vec_at h (d := d) (by omega)
  show stOf xs d + (xs.getD d 0).toNat ≤ _
  omega
theorem stOf_mono (xs : List Int) : ∀ d e, d ≤ e → stOf xs d ≤ stOf xs e
 | d, 0, h => by obtain rfl : d = 0 := by omega
                 exact Nat.le_refl _
 | d, e + 1, h => by
  rcases Nat.lt_or_ge d (e + 1) with h1 | h1
  ·exact Nat.le_trans (stOf_mono xs d e (by omega)) (Nat.le_add_right _ _)
  ·obtain rfl : d = e + 1 := by omega
   exact Nat.le_refl _

theorem deviceOkN (dev : Int) (w : World) : Calls Tryz.prog 46 #[.int .i64 dev] w fun e w' => e = .returned (.bool (inB dev 0 3)) ∧ w = w' := by
 go_enter Tryz.func46, Tryz.ntmps46
 go_wp2_with fail
 refine (inRange _ _ _ _).mono ?_
 rintro e w' ⟨rfl, rfl⟩
 go_wp2
 go_ret
 exact ⟨rfl, rfl⟩

def OwnPostC (xs : List Int) (w : World) (e : Ending) (w' : World) : Prop :=
 ∃ a cap, e = .returned (.slice a xs.length cap) ∧ Own w' w.heap.size w'.heap.size a xs.length xs ∧ Below w.heap.size w w' ∧ Caps a xs.length cap

def IntPost (m : Nat) (w : World) (e : Ending) (w' : World) : Prop := e = .returned (.int .i64 (m : Int)) ∧ w = w'
theorem held (w : World) (B : Nat) (a : Option Addr) (n cap k : Nat) (h : Ints w B a n (marks k n)) (hk : k ≤ 4000000) (hn : n ≤ 1048576) :
  Calls Tryz.prog 23 #[.slice a n cap, .int .i64 (k : Int)] w (IntPost (k + n) w) := by
 have H := Lib.hid h
 clear h
 go_enter Tryz.func23, Tryz.ntmps23
 go_wp2
 go_loop [1, 5] (fun m i => ∃ j q : Nat, j ≤ n ∧ i = .int .i64 j ∧ m = .int .i64 q ∧ Hid (q = k + j)) (fun _ i => n - (intOf i).toNat)
 case atStart => exact ⟨0, k, by omega, rfl, rfl, rfl⟩
 case round =>
  obtain ⟨j, q, hj, rfl, rfl, HQ⟩ := hrel
  have hq : q ≤ 6000000 := by have := HQ.out; omega
  by_cases hlt : j < n
  ·obtain ⟨b, off, rfl, hb, hc⟩ := H.out.2 j hlt
   rw [marks_at hlt, ← HQ.out] at hc
   go_wp2
   go_round
   case rel => exact ⟨j + 1, q + 1, by omega, by go_num, by go_num, (by have := HQ.out; show q + 1 = k + (j + 1); omega)⟩
   case measure => simp [intOf]; omega
  ·have HE : Hid (q = k + n) := by have := HQ.out; show q = k + n; omega
   go_wp2
   go_ret
   rw [← HE.out]
   exact ⟨rfl, rfl⟩

end Go.Proofs.YtjokbaaommicmaaGreatDoor
