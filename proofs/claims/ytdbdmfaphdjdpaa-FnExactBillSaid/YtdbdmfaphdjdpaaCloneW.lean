/- The walks of slices.Clone at operations and of impl.copiedOps: a list of the call's own with the same operations. -/
import Derived.Test.YtdbdmfaphdjdpaaMarkW
import Derived.Test.YtdbdmfaphdjdpaaShelf
import Derived.Deep.Cut
namespace Go.Proofs.Ytdbdmfaphdjdpaa
open Go.RowKit

def opRow (o : OpV) : List Value := [.int .i64 o.dev, .int .i64 o.seq, .int .i64 o.stamp, .int .i64 o.kind, .string o.item, .int .i64 o.qty, .int .i64 o.level, .int .i64 o.undos]
def opCells : List OpV → List Value
  | [] => []
  | x :: l => opRow x ++ opCells l
theorem opCells_len : ∀ l : List OpV, (opCells l).length = l.length * 8
  | [] => rfl
  | x :: l => by
    show (opRow x ++ opCells l).length = _
    rw [List.length_append, opCells_len l, List.length_cons]
    show 8 + _ = _
    omega
theorem opCells_snoc (x : OpV) : ∀ l : List OpV, opCells (l ++ [x]) = opCells l ++ opRow x
  | [] => by show opRow x ++ [] = [] ++ opRow x; rw [List.append_nil, List.nil_append]
  | y :: l => by
    show opRow y ++ opCells (l ++ [x]) = (opRow y ++ opCells l) ++ opRow x
    rw [opCells_snoc x l, List.append_assoc]
theorem opCells_at : ∀ (l : List OpV) (i u : Nat), i < l.length → u < 8 → (opCells l)[i * 8 + u]? = (opRow (l.getD i OpV.zero))[u]?
  | x :: l, 0, u, _, hu => by
    show (opRow x ++ opCells l)[0 * 8 + u]? = (opRow x)[u]?
    rw [Nat.zero_mul, Nat.zero_add, List.getElem?_append_left (by show u < 8; exact hu)]
  | x :: l, i + 1, u, hi, hu => by
    show (opRow x ++ opCells l)[(i + 1) * 8 + u]? = (opRow (l.getD i OpV.zero))[u]?
    rw [List.getElem?_append_right (by show 8 ≤ _; omega)]
    have e : (i + 1) * 8 + u - (opRow x).length = i * 8 + u := by show _ - 8 = _; omega
    rw [e, opCells_at l i u (by simpa using hi) hu]
theorem opCells_one : ∀ l : List OpV, ∀ u ∈ opCells l, u.oneCell' = true
  | [], u, h => by cases h
  | x :: l, u, h => by
    rcases List.mem_append.1 h with h1 | h1
    · simp only [opRow, List.mem_cons, List.not_mem_nil, or_false] at h1
      rcases h1 with rfl | rfl | rfl | rfl | rfl | rfl | rfl | rfl <;> rfl
    · exact opCells_one l u h1
theorem own_of_cells {w : World} {base hi : Nat} {a : Option Addr} {n cap : Nat} {l : List OpV} (h : w.ownsRow base 77 8 (.slice a n cap) n (opCells l)) (hh : w.heap.size ≤ hi) : OwnOps w base hi a n l := by
  have hl : l.length = n := by have := h.1; rw [opCells_len] at this; omega
  refine ⟨hl, fun hn => ?_⟩
  rcases h.2 with ⟨e, _⟩ | ⟨g, c, cur, e, hb, hg, hnc, _, hs, ht⟩
  · cases e; omega
  · injection e with e1 e2 e3
    have key : ∀ i u, i < n → u < 8 → cur[0 + i * 8 + u]? = (opRow (l.getD i OpV.zero))[u]? := fun i u hi' hu => by
      have h2 : (cur.toList.take (n * 8))[i * 8 + u]? = (opCells l)[i * 8 + u]? := by rw [ht]
      rw [List.getElem?_take_of_lt (by omega), opCells_at l i u (by omega) hu] at h2
      rw [Nat.zero_add, ← Array.getElem?_toList, h2]
    refine ⟨g, 0, cur, e1, hb, by have := (Array.getElem?_eq_some_iff.1 hg).1; omega, hg, by rw [hs]; have : n * 8 ≤ c * 8 := by omega
                                                                                             omega, fun i hi' => ?_⟩
    exact ⟨key i 0 hi' (by omega), key i 1 hi' (by omega), key i 2 hi' (by omega), key i 3 hi' (by omega), key i 4 hi' (by omega), key i 5 hi' (by omega), key i 6 hi' (by omega), key i 7 hi' (by omega)⟩
/-- What stands in a slice of operations, cell by cell, as 'append' asks. -/
theorem cells_of_ops {w : World} {B b off n : Nat} {l : List OpV} (h : Ops w B (some ⟨b, off, none⟩) n l) : ∀ j u, (opCells l)[j]? = some u → w.cell? ((⟨b, off, none⟩ : Addr).add j) = some u := by
  intro j u hj
  have hjl : j < l.length * 8 := by
    rcases Nat.lt_or_ge j (l.length * 8) with h' | h'
    · exact h'
    · rw [List.getElem?_eq_none (by rw [opCells_len]; exact h')] at hj; cases hj
  have hd : j = (j / 8) * 8 + j % 8 := by omega
  have hi : j / 8 < l.length := by omega
  obtain ⟨b', off', e, _, ho⟩ := h.2 (j / 8) (by rw [← h.1]; exact hi)
  injection e with e
  injection e with e1 e2
  subst e1 e2
  rw [hd, opCells_at l _ _ hi (by omega)] at hj
  rw [add_at]
  have hm : j % 8 < 8 := by omega
  obtain ⟨h0, h1, h2, h3, h4, h5, h6, h7⟩ := ho
  have hj8 : off + j = off + j / 8 * 8 + j % 8 := by omega
  rw [hj8]
  generalize j % 8 = m at hj hm ⊢
  obtain rfl | rfl | rfl | rfl | rfl | rfl | rfl | rfl : m = 0 ∨ m = 1 ∨ m = 2 ∨ m = 3 ∨ m = 4 ∨ m = 5 ∨ m = 6 ∨ m = 7 := by omega
  · cases hj
    exact h0
  · cases hj
    exact h1
  · cases hj
    exact h2
  · cases hj
    exact h3
  · cases hj
    exact h4
  · cases hj
    exact h5
  · cases hj
    exact h6
  · cases hj
    exact h7
set_option maxRecDepth 100000 in
set_option maxHeartbeats 1000000 in
theorem cloneOps (w : World) (B b off n cap : Nat) (l : List OpV) (h : Ops w B (some ⟨b, off, none⟩) n l) (hB : B ≤ w.heap.size) (hl : n ≤ 1048576) : Calls Try.prog 144 #[.slice (some ⟨b, off, none⟩) n cap] w (OpsPost l w) := by
  obtain ⟨i0, hi, hz0, hz1, hz2⟩ := info_parts Try.infoOp
  have hnil := fun w => Lib.run_eql_slice_nil (P := Try.prog) w 27 77 (some ⟨b, off, none⟩) n cap 0 0 Try.underlying27
  have hown : (w.alloc (.cells #[] 77)).ownsRow w.heap.size 77 8 (.slice (some ⟨w.heap.size, 0, none⟩) 0 0) 0 [] := World.ownsRow_made w #[] 0 (Nat.le_refl _) (by unfold maxLen; omega) rfl
  have hL := Lib.hid h.1
  have H := Lib.hid h
  clear h
  go_enter Try.func144, Try.ntmps144
  go_wp2_with (at_builtin; refine wpList_append_own _ rfl _ _ 27 rfl w.heap.size 77 i0 (.agg #[.int .i64 0, .int .i64 0, .int .i64 0, .int .i64 0, .string ⟨#[]⟩, .int .i64 0, .int .i64 0, .int .i64 0]) 8 72 Try.underlying27 hi hz0 hz1 hz2 rfl (by decide) _ _ _ rfl hown ⟨b, off, none⟩ n cap (opCells l) rfl ?c0 ?c1 ?c2 ?c3 ?c4 ?c5 ?_)
  case c0 => rw [opCells_len, hL.out]
  case c1 => exact cells_of_ops (H.out.below ((Below.refl w.heap.size w).alloc (Nat.le_refl _) _) hB)
  case c2 => exact opCells_one l
  case c3 => unfold maxLen; omega
  case c4 => omega
  case c5 => simp
  intro v' w1 hown' hgrow hnn
  have hb1 := ((Below.refl w.heap.size w).alloc (Nat.le_refl _) _).grown hgrow (by simp) (fun j hj => (hown.lt j hj).1)
  have hown2 : w1.ownsRow w.heap.size 77 8 v' n (opCells l) := by simpa using hown'
  obtain ⟨a', cap', hv⟩ : ∃ a' cap', v' = .slice a' n cap' := by
    rcases hown2.2 with ⟨e, e2⟩ | ⟨g, c, cur, e, _⟩
    · exact ⟨none, 0, by rw [e, e2]⟩
    · exact ⟨_, _, e⟩
  subst hv
  have HO := Lib.hid (own_of_cells (hi := w1.heap.size) hown2 (Nat.le_refl _))
  clear hown' hown2 hgrow hown hnn
  go_wp2
  go_ret
  exact ⟨a', cap', by rw [hL.out]; rfl, by rw [hL.out]; exact HO.out, hb1⟩
set_option maxRecDepth 100000 in
set_option maxHeartbeats 1000000 in
theorem cloneZero (w : World) (ad : Addr) (cap : Nat) : Calls Try.prog 144 #[.slice (some ad) 0 cap] w (OpsPost [] w) := by
  obtain ⟨i0, hi, hz0, hz1, hz2⟩ := info_parts Try.infoOp
  have hnil := fun w => Lib.run_eql_slice_nil (P := Try.prog) w 27 77 (some ad) 0 cap 0 0 Try.underlying27
  have hown : (w.alloc (.cells #[] 77)).ownsRow w.heap.size 77 8 (.slice (some ⟨w.heap.size, 0, none⟩) 0 0) 0 [] := World.ownsRow_made w #[] 0 (Nat.le_refl _) (by unfold maxLen; omega) rfl
  go_enter Try.func144, Try.ntmps144
  go_wp2_with (at_builtin; refine wpList_append_own _ rfl _ _ 27 rfl w.heap.size 77 i0 (.agg #[.int .i64 0, .int .i64 0, .int .i64 0, .int .i64 0, .string ⟨#[]⟩, .int .i64 0, .int .i64 0, .int .i64 0]) 8 72 Try.underlying27 hi hz0 hz1 hz2 rfl (by decide) _ _ _ rfl hown ad 0 cap [] rfl ?c0 ?c1 ?c2 ?c3 ?c4 ?c5 ?_)
  case c0 => rfl
  case c1 => intro j u hj; cases hj
  case c2 => intro u hu; cases hu
  case c3 => unfold maxLen; omega
  case c4 => omega
  case c5 => simp
  intro v' w1 hown' hgrow hnn
  have hb1 := ((Below.refl w.heap.size w).alloc (Nat.le_refl _) _).grown hgrow (by simp) (fun j hj => (hown.lt j hj).1)
  obtain ⟨a', cap', hv⟩ : ∃ a' cap', v' = .slice a' 0 cap' := by
    rcases hown'.2 with ⟨e, _⟩ | ⟨g, c, cur, e, _⟩
    · exact ⟨none, 0, e⟩
    · exact ⟨_, _, e⟩
  subst hv
  clear hown' hgrow hown hnn
  go_wp2
  go_ret
  exact ⟨a', cap', rfl, own_none _ _ _ _, hb1⟩
set_option maxRecDepth 100000 in
theorem cloneNil (w : World) : Calls Try.prog 144 #[.slice none 0 0] w fun e w' => e = .returned (.slice none 0 0) ∧ w = w' := by
  have hnil := fun w => Lib.run_eql_slice_nil (P := Try.prog) w 27 77 none 0 0 0 0 Try.underlying27
  go_enter Try.func144, Try.ntmps144
  go_wp2
  go_ret
  exact ⟨rfl, rfl⟩
theorem strClone (s : ByteArray) (h : s.size ≤ 1048576) (w : World) : Calls Try.prog 117 #[.string s] w fun e w' => e = .returned (.string s) ∧ Below w.heap.size w w' := by
  go_enter Try.func117, Try.ntmps117
  go_wp2_with fail
  refine (Try.stringslite_Clone s _ (by omega)).mono ?_
  rintro e w1 ⟨rfl, hb1⟩
  go_wp2
  go_ret
  exact ⟨rfl, hb1⟩
/-- A block of the call's own that holds n operations. -/
def CS (g off n : Nat) (l : List OpV) (w wr : World) : Prop := Below w.heap.size w wr ∧ ∃ cs : Array Value, wr.heap[g]? = some (.cells cs 77 (0, 0)) ∧ off + n * 8 ≤ cs.size ∧ ∀ i, i < n → OpIn cs (off + i * 8) (l.getD i OpV.zero)
theorem CS.step {g off n : Nat} {l : List OpV} {w wr w1 : World} (h : CS g off n l w wr) (hb : Below wr.heap.size wr w1) : CS g off n l w w1 := by
  obtain ⟨h1, cs, hg, r⟩ := h
  exact ⟨h1.trans (hb.mono h1.size), cs, (hb.block _ (Array.getElem?_eq_some_iff.1 hg).1).trans hg, r⟩
theorem CS.put {g off n k : Nat} {l : List OpV} {w wr : World} (h : CS g off n l w wr) (hg0 : w.heap.size ≤ g) (hk : k < n) : CS g off n l w (wr.setCell ⟨g, off + k * 8 + 4, none⟩ (.string (l.getD k OpV.zero).item)) := by
  obtain ⟨h1, cs, hg, hs, hc⟩ := h
  refine ⟨h1.setCell (p := ⟨g, off + k * 8 + 4, none⟩) hg0 _, cs.setIfInBounds (off + k * 8 + 4) (.string (l.getD k OpV.zero).item), heap_setCell_same _ _ _ _ _ _ hg, by simpa using hs, fun i hi => ?_⟩
  by_cases e : i = k
  · subst e
    obtain ⟨h0, h1, h2, h3, h4, h5, h6, h7⟩ := hc i hi
    exact ⟨(Array.getElem?_setIfInBounds_ne (by omega)).trans h0, (Array.getElem?_setIfInBounds_ne (by omega)).trans h1, (Array.getElem?_setIfInBounds_ne (by omega)).trans h2, (Array.getElem?_setIfInBounds_ne (by omega)).trans h3, Array.getElem?_setIfInBounds_self_of_lt (by omega), (Array.getElem?_setIfInBounds_ne (by omega)).trans h5, (Array.getElem?_setIfInBounds_ne (by omega)).trans h6, (Array.getElem?_setIfInBounds_ne (by omega)).trans h7⟩
  · exact opIn_far (hc i hi) (by omega)
set_option maxRecDepth 100000 in
set_option maxHeartbeats 2000000 in
theorem copiedOps (w : World) (B : Nat) (a : Option Addr) (n cap : Nat) (l : List OpV) (h : Ops w B a n l) (hB : B ≤ w.heap.size) (hn : n ≤ 1048576) (hcap : a = none → cap = 0) (hm : ∀ i, i < n → (l.getD i OpV.zero).item.size ≤ 1048576) : Calls Try.prog 111 #[.slice a n cap] w (OpsPost l w) := by
  by_cases h0 : 0 < n
  · obtain ⟨b, off, rfl, hb, _⟩ := h.2 0 h0
    have HL := Lib.hid h.1
    have HM := Lib.hid hm
    clear hm hcap
    go_enter Try.func111, Try.ntmps111
    go_wp2_with fail
    refine (cloneOps w B b off n cap l h hB hn).mono ?_
    rintro e w1 ⟨a1, c1, rfl, ho, hb1⟩
    have HC1 : Hid (∃ g o1, a1 = some ⟨g, o1, none⟩ ∧ w.heap.size ≤ g ∧ CS g o1 n l w w1) := by
      rw [h.1] at ho
      obtain ⟨g, o1, cs, e1, h1, h2, hg, hs, hc⟩ := ho.2 h0
      exact ⟨g, o1, e1, h1, hb1, cs, hg, hs, hc⟩
    clear ho hb1 h
    obtain ⟨g, o1, rfl, hg0, hcs⟩ := HC1.out
    have HC := Lib.hid hcs
    clear hcs HC1
    rw [HL.out]
    go_wp2
    go_loopw [4, 9] (fun _ i wr => ∃ k : Nat, k ≤ n ∧ i = .int .i64 (k : Int) ∧ Hid (CS g o1 n l w wr)) (fun _ i _ => n - (intOf i).toNat)
    case atStart => exact ⟨0, by omega, rfl, HC⟩
    case round =>
      obtain ⟨k, hk, rfl, HR⟩ := hrel
      by_cases hlt : k < n
      rotate_left
      · obtain rfl : k = n := by omega
        have HP : Hid (OpsPost l w (.returned (.slice (some ⟨g, o1, none⟩) k c1)) wr) := by
          obtain ⟨h1, cs, hg, hs, hc⟩ := HR.out
          exact ⟨some ⟨g, o1, none⟩, c1, by rw [HL.out], ⟨rfl, fun _ => ⟨g, o1, cs, rfl, hg0, (Array.getElem?_eq_some_iff.1 hg).1, hg, by rw [HL.out]; exact hs, by rw [HL.out]; exact hc⟩⟩, h1⟩
        go_wp2
        go_ret
        exact HP.out
      have hit := HM.out k hlt
      have hput := fun w2 (h : CS g o1 n l w w2) => h.put hg0 hlt
      have HPut := Lib.hid hput
      clear hput
      have HCell : Hid (∀ w2, CS g o1 n l w w2 → w2.cell? ⟨g, o1 + k * 8 + 4, none⟩ = some (.string (l.getD k OpV.zero).item) ∧ w2.frozen? ⟨g, o1 + k * 8 + 4, none⟩ = false) := fun w2 h => by
        obtain ⟨_, cs, hg, _, hc⟩ := h
        exact ⟨((hc k hlt).at hg).2.2.2.2.1, frozen_of_row _ _ _ _ _ hg⟩
      generalize (l.getD k OpV.zero).item = s at hit HPut HCell
      have c4 := (HCell.out wr HR.out).1
      go_wp2_with fail
      refine (strClone s hit _).mono ?_
      rintro e w2 ⟨rfl, hb2⟩
      have HR2 := Lib.hid (HR.out.step hb2)
      clear c4 hb2 HR
      have c4 := (HCell.out w2 HR2.out).1
      have f4 := (HCell.out w2 HR2.out).2
      have HR3 := Lib.hid (HPut.out w2 HR2.out)
      go_wp2
      go_roundw
      case rel => exact ⟨k + 1, by omega, by go_num, HR3⟩
      case measure => simp [intOf]; omega
  · obtain rfl : n = 0 := by omega
    have hl : l = [] := List.eq_nil_of_length_eq_zero h.1
    subst hl
    clear h0 hm
    rcases a with _ | ad
    · obtain rfl := hcap rfl
      go_enter Try.func111, Try.ntmps111
      go_wp2_with fail
      refine (cloneNil w).mono ?_
      rintro e w1 ⟨rfl, rfl⟩
      go_wp2
      refine wp_loop_rounds 1 ?_
      rw [rounds_succ]
      go_wp2
      go_ret
      exact ⟨none, 0, rfl, own_none _ _ _ _, Below.refl _ _⟩
    · clear hcap h
      go_enter Try.func111, Try.ntmps111
      go_wp2_with fail
      refine (cloneZero w ad cap).mono ?_
      rintro e w1 ⟨a1, c1, rfl, ho, hb1⟩
      have HB := Lib.hid hb1
      clear ho hb1
      go_wp2
      refine wp_loop_rounds 1 ?_
      rw [rounds_succ]
      go_wp2
      go_ret
      exact ⟨a1, c1, rfl, own_none _ _ _ _, HB.out⟩
end Go.Proofs.Ytdbdmfaphdjdpaa
