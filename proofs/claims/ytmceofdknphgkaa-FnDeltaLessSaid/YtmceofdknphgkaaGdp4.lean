/- More of what several claims share. -/
import Derived.Test.YtmceofdknphgkaaGa19
import Derived.Test.YtmceofdknphgkaaGa17
import Derived.Test.YtmceofdknphgkaaGdp3
import Derived.Test.YtmceofdknphgkaaGa2
import Derived.Deep.Cut
import Derived.Test.YtmceofdknphgkaaGa16
import Derived.Test.YtmceofdknphgkaaGdp0
import Derived.Test.YtmceofdknphgkaaGa10
import Derived.Test.YtmceofdknphgkaaGdp7
import Derived.Deep.AppendLies
import Derived.Lib.SliceRun
import Derived.Lib.MinMax
namespace Go.Proofs.Ytmceofdknphgkaa
open Go.RowKit

set_option maxRecDepth 100000 in
set_option maxHeartbeats 5000000 in
theorem cloneZero (w : World) (ad : Addr) (cap : Nat) : Calls Try.prog 155 #[.slice (some ad) 0 cap] w (OpsPost [] w) := by
  obtain ⟨i0, hi, hz0, hz1, hz2⟩ := info_parts Try.infoOp
  have hnil := fun w => Lib.run_eql_slice_nil (P := Try.prog) w 25 34 (some ad) 0 cap 0 0 Try.underlying25
  have hown : (w.alloc (.cells #[] 34)).ownsRow w.heap.size 34 8 (.slice (some ⟨w.heap.size, 0, none⟩) 0 0) 0 [] := World.ownsRow_made w #[] 0 (Nat.le_refl _) (by unfold maxLen; omega) rfl
  go_enter Try.func155, Try.ntmps155
  go_wp2_with (at_builtin; refine wpList_append_own _ rfl _ _ 25 rfl w.heap.size 34 i0 (.agg #[.int .i64 0, .int .i64 0, .int .i64 0, .int .i64 0, .string ⟨#[]⟩, .int .i64 0, .int .i64 0, .int .i64 0]) 8 72 Try.underlying25 hi hz0 hz1 hz2 rfl (by decide) _ _ _ rfl hown ad 0 cap [] rfl ?c0 ?c1 ?c2 ?c3 ?c4 ?c5 ?_)
  case c0 => rfl
  case c1 => intro j u hj; cases hj
  case c2 => intro u hu; cases hu
  case c3 => unfold maxLen; omega
  case c4 => omega
  case c5 => simp
  intro v' w1 hown' hgrow hnn
  have hb1 := ((Below.refl w.heap.size w).alloc (Nat.le_refl _) _).grown hgrow (by simp) (fun j hj => (hown.lt j hj).1)
  obtain ⟨a', cap', hv⟩ : ∃ a' cap', v' = .slice a' 0 cap' := by
    rcases hown'.2 with ⟨e, _⟩ | ⟨g, c, cur, e, _⟩
    · exact ⟨none, 0, e⟩
    · exact ⟨_, _, e⟩
  subst hv
  clear hown' hgrow hown hnn
  go_wp2
  go_ret
  exact ⟨a', cap', rfl, own_none _ _ _ _, hb1⟩
set_option maxRecDepth 100000 in
theorem cloneNil (w : World) : Calls Try.prog 155 #[.slice none 0 0] w fun e w' => e = .returned (.slice none 0 0) ∧ w = w' := by
  have hnil := fun w => Lib.run_eql_slice_nil (P := Try.prog) w 25 34 none 0 0 0 0 Try.underlying25
  go_enter Try.func155, Try.ntmps155
  go_wp2
  go_ret
  exact ⟨rfl, rfl⟩
theorem strClone (s : ByteArray) (h : s.size ≤ 1048576) (w : World) : Calls Try.prog 156 #[.string s] w fun e w' => e = .returned (.string s) ∧ Below w.heap.size w w' := by
  go_enter Try.func156, Try.ntmps156
  go_wp2_with fail
  refine (Try.stringslite_Clone s _ (by omega)).mono ?_
  rintro e w1 ⟨rfl, hb1⟩
  go_wp2
  go_ret
  exact ⟨rfl, hb1⟩
end Go.Proofs.Ytmceofdknphgkaa
namespace Go.Proofs.Ytmceofdknphgkaa
open Go.RowKit

theorem filt_step {q : OpV → Bool} {l : List OpV} {k : Nat} (hk : k < l.length) : (l.take (k + 1)).filter q = if q (atOp l k) = true then (l.take k).filter q ++ [atOp l k] else (l.take k).filter q := by
  have e : l[k] = atOp l k := by unfold atOp; rw [List.getD_eq_getElem?_getD, List.getElem?_eq_getElem hk]; rfl
  rw [List.take_succ_eq_append_getElem hk, List.filter_append, e]
  by_cases h : q (atOp l k) = true
  · rw [if_pos h, List.filter_cons_of_pos h]; rfl
  · rw [if_neg h, List.filter_cons_of_neg h]; simp
end Go.Proofs.Ytmceofdknphgkaa
namespace Go.Proofs.Ytmceofdknphgkaa
open Go.RowKit

/-- As OpsPost; and the answer's length is at most its capacity. -/
def OpsPostC (l : List OpV) (w : World) (e : Ending) (w' : World) : Prop := ∃ a c, e = .returned (.slice a l.length c) ∧ l.length ≤ c ∧ OwnOps w' w.heap.size w'.heap.size a l.length l ∧ Below w.heap.size w w'

set_option maxRecDepth 100000 in
set_option maxHeartbeats 5000000 in
theorem cloneOpsC (w : World) (B b off n cap : Nat) (l : List OpV) (h : Ops w B (some ⟨b, off, none⟩) n l) (hB : B ≤ w.heap.size) (hl : n ≤ 1048576) : Calls Try.prog 155 #[.slice (some ⟨b, off, none⟩) n cap] w (OpsPostC l w) := by
  obtain ⟨i0, hi, hz0, hz1, hz2⟩ := info_parts Try.infoOp
  have hnil := fun w => Lib.run_eql_slice_nil (P := Try.prog) w 25 34 (some ⟨b, off, none⟩) n cap 0 0 Try.underlying25
  have hown : (w.alloc (.cells #[] 34)).ownsRow w.heap.size 34 8 (.slice (some ⟨w.heap.size, 0, none⟩) 0 0) 0 [] := World.ownsRow_made w #[] 0 (Nat.le_refl _) (by unfold maxLen; omega) rfl
  have hL := Lib.hid h.1
  have H := Lib.hid h
  clear h
  go_enter Try.func155, Try.ntmps155
  go_wp2_with (at_builtin; refine wpList_append_own _ rfl _ _ 25 rfl w.heap.size 34 i0 (.agg #[.int .i64 0, .int .i64 0, .int .i64 0, .int .i64 0, .string ⟨#[]⟩, .int .i64 0, .int .i64 0, .int .i64 0]) 8 72 Try.underlying25 hi hz0 hz1 hz2 rfl (by decide) _ _ _ rfl hown ⟨b, off, none⟩ n cap (opCells l) rfl ?c0 ?c1 ?c2 ?c3 ?c4 ?c5 ?_)
  case c0 => rw [opCells_len, hL.out]
  case c1 => exact cells_of_ops (H.out.below ((Below.refl w.heap.size w).alloc (Nat.le_refl _) _) hB)
  case c2 => exact opCells_one l
  case c3 => unfold maxLen; omega
  case c4 => omega
  case c5 => simp
  intro v' w1 hown' hgrow hnn
  have hb1 := ((Below.refl w.heap.size w).alloc (Nat.le_refl _) _).grown hgrow (by simp) (fun j hj => (hown.lt j hj).1)
  have hown2 : w1.ownsRow w.heap.size 34 8 v' n (opCells l) := by simpa using hown'
  obtain ⟨a', cap', hv, hvc⟩ : ∃ a' cap', v' = .slice a' n cap' ∧ n ≤ cap' := by
    rcases hown2.2 with ⟨e, e2⟩ | ⟨g, c, cur, e, _, _, hnc, _⟩
    · exact ⟨none, 0, by rw [e, e2], by omega⟩
    · exact ⟨_, _, e, hnc⟩
  subst hv
  have HO := Lib.hid (own_of_cells (hi := w1.heap.size) hown2 (Nat.le_refl _))
  clear hown' hown2 hgrow hown hnn
  go_wp2
  go_ret
  exact ⟨a', cap', by rw [hL.out]; rfl, by rw [hL.out]; exact hvc, by rw [hL.out]; exact HO.out, hb1⟩

set_option maxRecDepth 100000 in
set_option maxHeartbeats 10000000 in
theorem copiedOpsC (w : World) (B : Nat) (a : Option Addr) (n cap : Nat) (l : List OpV) (h : Ops w B a n l) (hB : B ≤ w.heap.size) (hn : n ≤ 1048576) (hcap : a = none → cap = 0) (hm : ∀ i, i < n → (l.getD i OpV.zero).item.size ≤ 1048576) : Calls Try.prog 93 #[.slice a n cap] w (OpsPostC l w) := by
  by_cases h0 : 0 < n
  · obtain ⟨b, off, rfl, hb, _⟩ := h.2 0 h0
    have HL := Lib.hid h.1
    have HM := Lib.hid hm
    clear hm hcap
    go_enter Try.func93, Try.ntmps93
    go_wp2_with fail
    refine (cloneOpsC w B b off n cap l h hB hn).mono ?_
    rintro e w1 ⟨a1, c1, rfl, hcc, ho, hb1⟩
    rw [h.1] at hcc
    have HC1 : Hid (∃ g o1, a1 = some ⟨g, o1, none⟩ ∧ w.heap.size ≤ g ∧ CS g o1 n l w w1) := by
      rw [h.1] at ho
      obtain ⟨g, o1, cs, e1, h1, h2, hg, hs, hc⟩ := ho.2 h0
      exact ⟨g, o1, e1, h1, hb1, cs, hg, hs, hc⟩
    clear ho hb1 h
    obtain ⟨g, o1, rfl, hg0, hcs⟩ := HC1.out
    have HC := Lib.hid hcs
    clear hcs HC1
    rw [HL.out]
    go_wp2
    go_loopw [4, 9] (fun _ i wr => ∃ k : Nat, k ≤ n ∧ i = .int .i64 (k : Int) ∧ Hid (CS g o1 n l w wr)) (fun _ i _ => n - (intOf i).toNat)
    case atStart => exact ⟨0, by omega, rfl, HC⟩
    case round =>
      obtain ⟨k, hk, rfl, HR⟩ := hrel
      by_cases hlt : k < n
      rotate_left
      · obtain rfl : k = n := by omega
        have HP : Hid (OpsPostC l w (.returned (.slice (some ⟨g, o1, none⟩) k c1)) wr) := by
          obtain ⟨h1, cs, hg, hs, hc⟩ := HR.out
          exact ⟨some ⟨g, o1, none⟩, c1, by rw [HL.out], by rw [HL.out]; exact hcc, ⟨rfl, fun _ => ⟨g, o1, cs, rfl, hg0, (Array.getElem?_eq_some_iff.1 hg).1, hg, by rw [HL.out]; exact hs, by rw [HL.out]; exact hc⟩⟩, h1⟩
        go_wp2
        go_ret
        exact HP.out
      have hit := HM.out k hlt
      have hput := fun w2 (h : CS g o1 n l w w2) => h.put hg0 hlt
      have HPut := Lib.hid hput
      clear hput
      have HCell : Hid (∀ w2, CS g o1 n l w w2 → w2.cell? ⟨g, o1 + k * 8 + 4, none⟩ = some (.string (l.getD k OpV.zero).item) ∧ w2.frozen? ⟨g, o1 + k * 8 + 4, none⟩ = false) := fun w2 h => by
        obtain ⟨_, cs, hg, _, hc⟩ := h
        exact ⟨((hc k hlt).at hg).2.2.2.2.1, frozen_of_row _ _ _ _ _ hg⟩
      generalize (l.getD k OpV.zero).item = s at hit HPut HCell
      have c4 := (HCell.out wr HR.out).1
      go_wp2_with fail
      refine (strClone s hit _).mono ?_
      rintro e w2 ⟨rfl, hb2⟩
      have HR2 := Lib.hid (HR.out.step hb2)
      clear c4 hb2 HR
      have c4 := (HCell.out w2 HR2.out).1
      have f4 := (HCell.out w2 HR2.out).2
      have HR3 := Lib.hid (HPut.out w2 HR2.out)
      go_wp2
      go_roundw
      case rel => exact ⟨k + 1, by omega, by go_num, HR3⟩
      case measure => simp [intOf]; omega
  · obtain rfl : n = 0 := by omega
    have hl : l = [] := List.eq_nil_of_length_eq_zero h.1
    subst hl
    clear h0 hm
    rcases a with _ | ad
    · obtain rfl := hcap rfl
      go_enter Try.func93, Try.ntmps93
      go_wp2_with fail
      refine (cloneNil w).mono ?_
      rintro e w1 ⟨rfl, rfl⟩
      go_wp2
      refine wp_loop_rounds 1 ?_
      rw [rounds_succ]
      go_wp2
      go_ret
      exact ⟨none, 0, rfl, Nat.le_refl _, own_none _ _ _ _, Below.refl _ _⟩
    · clear hcap h
      go_enter Try.func93, Try.ntmps93
      go_wp2_with fail
      refine (cloneZero w ad cap).mono ?_
      rintro e w1 ⟨a1, c1, rfl, ho, hb1⟩
      have HB := Lib.hid hb1
      clear ho hb1
      go_wp2
      refine wp_loop_rounds 1 ?_
      rw [rounds_succ]
      go_wp2
      go_ret
      exact ⟨a1, c1, rfl, Nat.zero_le _, own_none _ _ _ _, HB.out⟩

end Go.Proofs.Ytmceofdknphgkaa
namespace Go.Proofs.Ytmceofdknphgkaa
open Go.RowKit

def OwnPost (xs : List Int) (w : World) (e : Ending) (w' : World) : Prop :=
  ∃ a cap, e = .returned (.slice a xs.length cap) ∧ Own w' w.heap.size w'.heap.size a xs.length xs ∧ Below w.heap.size w w'
set_option maxRecDepth 100000 in
theorem cloneInts (w : World) (B g n cap : Nat) (xs : List Int) (h : Ints w B (some ⟨g, 0, none⟩) n xs) (hn : 0 < n) (hl : n ≤ 1048576) :
    Calls Try.prog 148 #[.slice (some ⟨g, 0, none⟩) n cap] w (OwnPost xs w) := by
  obtain ⟨i0, hi, hz0, hz1, hz2⟩ := info_parts Try.infoI64
  have hnil := fun w => Lib.run_eql_slice_nil (P := Try.prog) w 24 2 (some ⟨g, 0, none⟩) n cap 0 0 Try.underlying24
  have hown : (w.alloc (.cells #[] 2)).ownsRow w.heap.size 2 1 (.slice (some ⟨w.heap.size, 0, none⟩) 0 0) 0 [] := World.ownsRow_made w #[] 0 (Nat.le_refl _) (by unfold maxLen; omega) rfl
  have hL := Lib.hid h.1
  have H := Lib.hid h
  clear h
  go_enter Try.func148, Try.ntmps148
  go_wp2_with (at_builtin; refine wpList_append_own _ rfl _ _ 24 rfl w.heap.size 2 i0 (.int .i64 0) 1 8 Try.underlying24 hi hz0 hz1 hz2 rfl (by decide) _ _ _ rfl hown ⟨g, 0, none⟩ n cap (xs.map (Value.int .i64)) rfl ?c0 ?c1 ?c2 ?c3 ?c4 ?c5 ?_)
  case c0 => rw [List.length_map, hL.out, Nat.mul_one]
  case c1 =>
    intro j u hj
    have hjl : j < xs.length := by
      rcases Nat.lt_or_ge j xs.length with h' | h'
      · exact h'
      · rw [List.getElem?_eq_none (by simpa using h')] at hj; cases hj
    obtain ⟨b, off, e, hb, hc⟩ := H.out.2 j (by rw [← hL.out]; exact hjl)
    cases e
    have hlt := block_lt_of_cell hc
    rw [List.getElem?_map, List.getElem?_eq_getElem hjl] at hj
    cases hj
    rw [add_at, World.cell?_alloc_lt w _ _ hlt, hc, List.getD_eq_getElem?_getD, List.getElem?_eq_getElem hjl]
    rfl
  case c2 => exact ints_oneCell _ _
  case c3 => unfold maxLen; omega
  case c4 => omega
  case c5 => simp
  intro v' w1 hown' hgrow _
  have hb1 := ((Below.refl w.heap.size w).alloc (Nat.le_refl _) _).grown hgrow (by simp) (fun j hj => (hown.lt j hj).1)
  obtain ⟨g', cap', hv, _, _⟩ := hown'.form (by omega)
  subst hv
  have HO := Lib.hid (own_of_row (hi := w1.heap.size) (by simpa using hown') (Nat.le_refl _))
  clear hown' hgrow hown
  go_wp2
  go_ret
  exact ⟨some ⟨g', 0, none⟩, cap', by rw [hL.out]; rfl, by rw [hL.out]; exact HO.out, hb1⟩

set_option maxRecDepth 100000 in
theorem vlist (w : World) (x0 x1 x2 x3 : Int) :
    Calls Try.prog 133 #[.agg #[.int .i64 x0, .int .i64 x1, .int .i64 x2, .int .i64 x3]] w (OwnPost [x0, x1, x2, x3] w) := by
  go_enter Try.func133, Try.ntmps133
  go_wp2_with fail
  refine (cloneInts _ (w.heap.size + 1) w.heap.size 4 4 [x0, x1, x2, x3] (ints_of_block (t := 142) (heap_alloc_new _ _) (by omega) rfl) (by omega) (by omega)).mono ?_
  rintro e w1 ⟨a, cap, rfl, ho, hb⟩
  go_wp2
  go_ret
  refine ⟨a, cap, rfl, ho.more (by simp) (Nat.le_refl _), ((Below.refl _ w).alloc (Nat.le_refl _) _).trans (hb.mono (by simp))⟩

end Go.Proofs.Ytmceofdknphgkaa
namespace Go.Proofs.Ytmceofdknphgkaa
open Go.RowKit
set_option linter.unusedVariables false

set_option maxRecDepth 100000 in
set_option maxHeartbeats 5000000 in
theorem implRaise (w : World) (gx gy : Nat) (x0 x1 x2 x3 y0 y1 y2 y3 : Int) (hx : w.heap[gx]? = some (.cells (arr4 x0 x1 x2 x3) 142 (0, 0))) (hy : w.heap[gy]? = some (.cells (arr4 y0 y1 y2 y3) 142 (0, 0))) (hne : gy ≠ gx) :
    Calls Try.prog 136 #[.pointer (some ⟨gx, 0, none⟩), .pointer (some ⟨gy, 0, none⟩)] w fun e w' => e = .returned (.tuple #[]) ∧ Outside gx (gx + 1) w w' ∧ w'.heap[gx]? = some (.cells (arr4 (max x0 y0) (max x1 y1) (max x2 y2) (max x3 y3)) 142 (0, 0)) := by
  have HM : Hid (MixO max w w gx gy [x0, x1, x2, x3] [y0, y1, y2, y3] 0) := by
    refine ⟨⟨rfl, rfl, rfl, rfl, fun _ _ => rfl⟩, hy, arr4 x0 x1 x2 x3, hx, rfl, fun i hi => ?_⟩
    rw [if_neg (by omega)]; exact arr4_at hi
  clear hx hy
  go_enter Try.func136, Try.ntmps136
  go_wp2
  go_loopw [4, 5, 7] (fun _ _ i wr => ∃ k : Nat, k ≤ 4 ∧ i = .int .i64 k ∧ Hid (MixO max w wr gx gy [x0, x1, x2, x3] [y0, y1, y2, y3] k)) (fun _ _ i _ => 4 - (intOf i).toNat)
  case atStart => exact ⟨0, by omega, rfl, HM⟩
  case round =>
    obtain ⟨k, hk, rfl, HP⟩ := hrel
    by_cases hlt : k < 4
    · have hki : (k : Int) < 4 := by omega
      have hk0 : (0 : Int) ≤ (k : Int) := by omega
      obtain ⟨x, hx⟩ : ∃ x, x = [x0, x1, x2, x3].getD k 0 := ⟨_, rfl⟩
      obtain ⟨y, hy⟩ : ∃ y, y = [y0, y1, y2, y3].getD k 0 := ⟨_, rfl⟩
      have HS : Hid (∀ n m, MixO max w (((wr.drewN m).setCell ⟨gx, k, none⟩ (.int .i64 (max x y))).drewN n) gx gy [x0, x1, x2, x3] [y0, y1, y2, y3] (k + 1)) := by rw [hx, hy]; exact fun n m => HP.out.step hne hlt n m
      obtain ⟨_, hyb, cur, hg, hcs, hc⟩ := HP.out
      have c1 : wr.cell? ⟨gx, k, none⟩ = some (.int .i64 x) := by rw [cell_of_row _ _ _ _ _ _ hg, hc k hlt, if_neg (by omega), hx]
      have c2 : wr.cell? ⟨gy, k, none⟩ = some (.int .i64 y) := by
        rw [cell_of_row _ _ _ _ _ _ hyb, hy]
        exact arr4_at hlt
      have hf : wr.frozen? ⟨gx, k, none⟩ = false := frozen_of_row _ _ _ _ _ hg
      clear hx hy hyb hg hcs hc HM
      go_wp2
      go_region
      go_wp2
      go_region
      go_wp2
      go_roundw
      case rel => exact ⟨k + 1, by omega, by go_num, HS.out 1 1⟩
      case measure => simp [intOf]; omega
    · obtain rfl : k = 4 := by omega
      have HE := Lib.hid HP.out.done
      go_wp2
      exact bodyPost_end (v := .tuple #[]) (by simp [results, Try.results136, go_sem]) rfl ⟨rfl, HE.out.1, HE.out.2⟩

set_option maxRecDepth 100000 in
set_option maxHeartbeats 5000000 in
theorem implMaxYes (w : World) (B : Nat) (a a' : Option Addr) (cap cap' : Nat) (x0 x1 x2 x3 y0 y1 y2 y3 : Int) (h : Ints w B a 4 [x0, x1, x2, x3]) (h' : Ints w B a' 4 [y0, y1, y2, y3]) (hB : B ≤ w.heap.size)
    (hok : vecOk [x0, x1, x2, x3] = true) (hok' : vecOk [y0, y1, y2, y3] = true) :
    Calls Try.prog 143 #[.slice a 4 cap, .slice a' 4 cap'] w (OwnPost (zipI max [x0, x1, x2, x3] [y0, y1, y2, y3]) w) := by
  go_enter Try.func143, Try.ntmps143
  go_wp2_with fail
  refine (vectorsOfYes w B a a' cap cap' x0 x1 x2 x3 y0 y1 y2 y3 h h' hB hok hok').mono ?_
  rintro e w1 ⟨rfl, hb1⟩
  have hs1 := hb1.size
  clear h h' hok hok'
  go_wp2_with fail
  refine (implRaise _ w1.heap.size (w1.heap.size + 1) x0 x1 x2 x3 y0 y1 y2 y3 (heap_alloc2_old _ _ _) (heap_alloc2_new _ _ _) (by omega)).mono ?_
  rintro e w3 ⟨rfl, hO, hx⟩
  have hb3 : Below w1.heap.size w1 w3 := (((Below.refl _ w1).alloc (Nat.le_refl _) _).alloc (by simp) _).trans (hO.below (Nat.le_refl _))
  have hbr : Below w.heap.size w w3 := hb1.trans (hb3.mono hs1)
  obtain ⟨⟨d0, d1, d2, d3⟩, _⟩ := cells4 hx
  have hs := hbr.size
  have hs3 := hb3.size
  clear hx hO hb1
  go_wp2_with fail
  refine (vlist w3 (max x0 y0) (max x1 y1) (max x2 y2) (max x3 y3)).mono ?_
  rintro e w2 ⟨ao, co, rfl, ho, hb2⟩
  clear d0 d1 d2 d3
  go_wp2
  go_ret
  exact ⟨ao, co, rfl, ho.more hs (Nat.le_refl _), hbr.trans (hb2.mono hs)⟩


set_option maxRecDepth 100000 in
theorem implMaxNo (w : World) (B : Nat) (a a' : Option Addr) (len cap len' cap' : Nat) (xs ys : List Int) (h : Ints w B a len xs) (h' : Ints w B a' len' ys) (hB : B ≤ w.heap.size) (hl : len ≤ 1048576) (hl' : len' ≤ 1048576)
    (hno : (vecOk xs && vecOk ys) = false) :
    Calls Try.prog 143 #[.slice a len cap, .slice a' len' cap'] w (OwnPost [] w) := by
  go_enter Try.func143, Try.ntmps143
  go_wp2_with fail
  refine (vectorsOfNo w B a a' len cap len' cap' xs ys h h' hB hl hl' _ _ rfl rfl hno).mono ?_
  rintro e w1 ⟨rfl, hb1⟩
  have hs1 := hb1.size
  clear h h' hno
  go_wp2
  go_ret
  exact ⟨none, 0, rfl, ⟨rfl, fun hn => absurd hn (by simp)⟩, (hb1.alloc hs1 _).alloc (by simp; omega) _⟩

theorem implMax (w : World) (B : Nat) (a a' : Option Addr) (len cap len' cap' : Nat) (xs ys : List Int) (h : Ints w B a len xs) (h' : Ints w B a' len' ys) (hB : B ≤ w.heap.size) (hl : len ≤ 1048576) (hl' : len' ≤ 1048576) :
    Calls Try.prog 143 #[.slice a len cap, .slice a' len' cap'] w (OwnPost (vecZip max xs ys) w) := by
  cases hk : vecOk xs && vecOk ys
  · rw [vecZip_no hk]
    exact implMaxNo w B a a' len cap len' cap' xs ys h h' hB hl hl' hk
  · rw [vecZip_yes hk]
    rw [Bool.and_eq_true] at hk
    obtain ⟨x0, x1, x2, x3, rfl⟩ := four hk.1
    obtain ⟨y0, y1, y2, y3, rfl⟩ := four hk.2
    obtain rfl : len = 4 := h.1.symm
    obtain rfl : len' = 4 := h'.1.symm
    exact implMaxYes w B a a' cap cap' x0 x1 x2 x3 y0 y1 y2 y3 h h' hB hk.1 hk.2
end Go.Proofs.Ytmceofdknphgkaa
