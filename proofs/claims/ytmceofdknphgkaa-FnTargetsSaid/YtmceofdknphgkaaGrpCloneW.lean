/- The walks of slices.Clone at operations and of impl.copiedOps: a list of the call's own with the same operations. -/
import Derived.Test.YtmceofdknphgkaaGa19
import Derived.Test.YtmceofdknphgkaaGa17
import Derived.Test.YtmceofdknphgkaaGrpMarkW
import Derived.Test.YtmceofdknphgkaaGa2
import Derived.Deep.Cut
namespace Go.Proofs.Ytmceofdknphgkaa
open Go.RowKit

set_option maxRecDepth 100000 in
set_option maxHeartbeats 5000000 in
theorem cloneOps (w : World) (B b off n cap : Nat) (l : List OpV) (h : Ops w B (some ⟨b, off, none⟩) n l) (hB : B ≤ w.heap.size) (hl : n ≤ 1048576) : Calls Try.prog 155 #[.slice (some ⟨b, off, none⟩) n cap] w (OpsPost l w) := by
  obtain ⟨i0, hi, hz0, hz1, hz2⟩ := info_parts Try.infoOp
  have hnil := fun w => Lib.run_eql_slice_nil (P := Try.prog) w 25 34 (some ⟨b, off, none⟩) n cap 0 0 Try.underlying25
  have hown : (w.alloc (.cells #[] 34)).ownsRow w.heap.size 34 8 (.slice (some ⟨w.heap.size, 0, none⟩) 0 0) 0 [] := World.ownsRow_made w #[] 0 (Nat.le_refl _) (by unfold maxLen; omega) rfl
  have hL := Lib.hid h.1
  have H := Lib.hid h
  clear h
  go_enter Try.func155, Try.ntmps155
  go_wp2_with (at_builtin; refine wpList_append_own _ rfl _ _ 25 rfl w.heap.size 34 i0 (.agg #[.int .i64 0, .int .i64 0, .int .i64 0, .int .i64 0, .string ⟨#[]⟩, .int .i64 0, .int .i64 0, .int .i64 0]) 8 72 Try.underlying25 hi hz0 hz1 hz2 rfl (by decide) _ _ _ rfl hown ⟨b, off, none⟩ n cap (opCells l) rfl ?c0 ?c1 ?c2 ?c3 ?c4 ?c5 ?_)
  case c0 => rw [opCells_len, hL.out]
  case c1 => exact cells_of_ops (H.out.below ((Below.refl w.heap.size w).alloc (Nat.le_refl _) _) hB)
  case c2 => exact opCells_one l
  case c3 => unfold maxLen; omega
  case c4 => omega
  case c5 => simp
  intro v' w1 hown' hgrow hnn
  have hb1 := ((Below.refl w.heap.size w).alloc (Nat.le_refl _) _).grown hgrow (by simp) (fun j hj => (hown.lt j hj).1)
  have hown2 : w1.ownsRow w.heap.size 34 8 v' n (opCells l) := by simpa using hown'
  obtain ⟨a', cap', hv⟩ : ∃ a' cap', v' = .slice a' n cap' := by
    rcases hown2.2 with ⟨e, e2⟩ | ⟨g, c, cur, e, _⟩
    · exact ⟨none, 0, by rw [e, e2]⟩
    · exact ⟨_, _, e⟩
  subst hv
  have HO := Lib.hid (own_of_cells (hi := w1.heap.size) hown2 (Nat.le_refl _))
  clear hown' hown2 hgrow hown hnn
  go_wp2
  go_ret
  exact ⟨a', cap', by rw [hL.out]; rfl, by rw [hL.out]; exact HO.out, hb1⟩
set_option maxRecDepth 100000 in
set_option maxHeartbeats 5000000 in
theorem cloneZero (w : World) (ad : Addr) (cap : Nat) : Calls Try.prog 155 #[.slice (some ad) 0 cap] w (OpsPost [] w) := by
  obtain ⟨i0, hi, hz0, hz1, hz2⟩ := info_parts Try.infoOp
  have hnil := fun w => Lib.run_eql_slice_nil (P := Try.prog) w 25 34 (some ad) 0 cap 0 0 Try.underlying25
  have hown : (w.alloc (.cells #[] 34)).ownsRow w.heap.size 34 8 (.slice (some ⟨w.heap.size, 0, none⟩) 0 0) 0 [] := World.ownsRow_made w #[] 0 (Nat.le_refl _) (by unfold maxLen; omega) rfl
  go_enter Try.func155, Try.ntmps155
  go_wp2_with (at_builtin; refine wpList_append_own _ rfl _ _ 25 rfl w.heap.size 34 i0 (.agg #[.int .i64 0, .int .i64 0, .int .i64 0, .int .i64 0, .string ⟨#[]⟩, .int .i64 0, .int .i64 0, .int .i64 0]) 8 72 Try.underlying25 hi hz0 hz1 hz2 rfl (by decide) _ _ _ rfl hown ad 0 cap [] rfl ?c0 ?c1 ?c2 ?c3 ?c4 ?c5 ?_)
  case c0 => rfl
  case c1 => intro j u hj; cases hj
  case c2 => intro u hu; cases hu
  case c3 => unfold maxLen; omega
  case c4 => omega
  case c5 => simp
  intro v' w1 hown' hgrow hnn
  have hb1 := ((Below.refl w.heap.size w).alloc (Nat.le_refl _) _).grown hgrow (by simp) (fun j hj => (hown.lt j hj).1)
  obtain ⟨a', cap', hv⟩ : ∃ a' cap', v' = .slice a' 0 cap' := by
    rcases hown'.2 with ⟨e, _⟩ | ⟨g, c, cur, e, _⟩
    · exact ⟨none, 0, e⟩
    · exact ⟨_, _, e⟩
  subst hv
  clear hown' hgrow hown hnn
  go_wp2
  go_ret
  exact ⟨a', cap', rfl, own_none _ _ _ _, hb1⟩
set_option maxRecDepth 100000 in
theorem cloneNil (w : World) : Calls Try.prog 155 #[.slice none 0 0] w fun e w' => e = .returned (.slice none 0 0) ∧ w = w' := by
  have hnil := fun w => Lib.run_eql_slice_nil (P := Try.prog) w 25 34 none 0 0 0 0 Try.underlying25
  go_enter Try.func155, Try.ntmps155
  go_wp2
  go_ret
  exact ⟨rfl, rfl⟩
theorem strClone (s : ByteArray) (h : s.size ≤ 1048576) (w : World) : Calls Try.prog 156 #[.string s] w fun e w' => e = .returned (.string s) ∧ Below w.heap.size w w' := by
  go_enter Try.func156, Try.ntmps156
  go_wp2_with fail
  refine (Try.stringslite_Clone s _ (by omega)).mono ?_
  rintro e w1 ⟨rfl, hb1⟩
  go_wp2
  go_ret
  exact ⟨rfl, hb1⟩
set_option maxRecDepth 100000 in
set_option maxHeartbeats 10000000 in
theorem copiedOps (w : World) (B : Nat) (a : Option Addr) (n cap : Nat) (l : List OpV) (h : Ops w B a n l) (hB : B ≤ w.heap.size) (hn : n ≤ 1048576) (hcap : a = none → cap = 0) (hm : ∀ i, i < n → (l.getD i OpV.zero).item.size ≤ 1048576) : Calls Try.prog 93 #[.slice a n cap] w (OpsPost l w) := by
  by_cases h0 : 0 < n
  · obtain ⟨b, off, rfl, hb, _⟩ := h.2 0 h0
    have HL := Lib.hid h.1
    have HM := Lib.hid hm
    clear hm hcap
    go_enter Try.func93, Try.ntmps93
    go_wp2_with fail
    refine (cloneOps w B b off n cap l h hB hn).mono ?_
    rintro e w1 ⟨a1, c1, rfl, ho, hb1⟩
    have HC1 : Hid (∃ g o1, a1 = some ⟨g, o1, none⟩ ∧ w.heap.size ≤ g ∧ CS g o1 n l w w1) := by
      rw [h.1] at ho
      obtain ⟨g, o1, cs, e1, h1, h2, hg, hs, hc⟩ := ho.2 h0
      exact ⟨g, o1, e1, h1, hb1, cs, hg, hs, hc⟩
    clear ho hb1 h
    obtain ⟨g, o1, rfl, hg0, hcs⟩ := HC1.out
    have HC := Lib.hid hcs
    clear hcs HC1
    rw [HL.out]
    go_wp2
    go_loopw [4, 9] (fun _ i wr => ∃ k : Nat, k ≤ n ∧ i = .int .i64 (k : Int) ∧ Hid (CS g o1 n l w wr)) (fun _ i _ => n - (intOf i).toNat)
    case atStart => exact ⟨0, by omega, rfl, HC⟩
    case round =>
      obtain ⟨k, hk, rfl, HR⟩ := hrel
      by_cases hlt : k < n
      rotate_left
      · obtain rfl : k = n := by omega
        have HP : Hid (OpsPost l w (.returned (.slice (some ⟨g, o1, none⟩) k c1)) wr) := by
          obtain ⟨h1, cs, hg, hs, hc⟩ := HR.out
          exact ⟨some ⟨g, o1, none⟩, c1, by rw [HL.out], ⟨rfl, fun _ => ⟨g, o1, cs, rfl, hg0, (Array.getElem?_eq_some_iff.1 hg).1, hg, by rw [HL.out]; exact hs, by rw [HL.out]; exact hc⟩⟩, h1⟩
        go_wp2
        go_ret
        exact HP.out
      have hit := HM.out k hlt
      have hput := fun w2 (h : CS g o1 n l w w2) => h.put hg0 hlt
      have HPut := Lib.hid hput
      clear hput
      have HCell : Hid (∀ w2, CS g o1 n l w w2 → w2.cell? ⟨g, o1 + k * 8 + 4, none⟩ = some (.string (l.getD k OpV.zero).item) ∧ w2.frozen? ⟨g, o1 + k * 8 + 4, none⟩ = false) := fun w2 h => by
        obtain ⟨_, cs, hg, _, hc⟩ := h
        exact ⟨((hc k hlt).at hg).2.2.2.2.1, frozen_of_row _ _ _ _ _ hg⟩
      generalize (l.getD k OpV.zero).item = s at hit HPut HCell
      have c4 := (HCell.out wr HR.out).1
      go_wp2_with fail
      refine (strClone s hit _).mono ?_
      rintro e w2 ⟨rfl, hb2⟩
      have HR2 := Lib.hid (HR.out.step hb2)
      clear c4 hb2 HR
      have c4 := (HCell.out w2 HR2.out).1
      have f4 := (HCell.out w2 HR2.out).2
      have HR3 := Lib.hid (HPut.out w2 HR2.out)
      go_wp2
      go_roundw
      case rel => exact ⟨k + 1, by omega, by go_num, HR3⟩
      case measure => simp [intOf]; omega
  · obtain rfl : n = 0 := by omega
    have hl : l = [] := List.eq_nil_of_length_eq_zero h.1
    subst hl
    clear h0 hm
    rcases a with _ | ad
    · obtain rfl := hcap rfl
      go_enter Try.func93, Try.ntmps93
      go_wp2_with fail
      refine (cloneNil w).mono ?_
      rintro e w1 ⟨rfl, rfl⟩
      go_wp2
      refine wp_loop_rounds 1 ?_
      rw [rounds_succ]
      go_wp2
      go_ret
      exact ⟨none, 0, rfl, own_none _ _ _ _, Below.refl _ _⟩
    · clear hcap h
      go_enter Try.func93, Try.ntmps93
      go_wp2_with fail
      refine (cloneZero w ad cap).mono ?_
      rintro e w1 ⟨a1, c1, rfl, ho, hb1⟩
      have HB := Lib.hid hb1
      clear ho hb1
      go_wp2
      refine wp_loop_rounds 1 ?_
      rw [rounds_succ]
      go_wp2
      go_ret
      exact ⟨a1, c1, rfl, own_none _ _ _ _, HB.out⟩
end Go.Proofs.Ytmceofdknphgkaa
