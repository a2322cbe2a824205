/- The laws' tools on nets of carts without operations. -/
import Derived.Test.YtdmhibdhnejiiabNetW
namespace Go.Proofs.Ytdmhibdhnejiiab
open Go.RowKit

theorem eqMsgNil (w : World) : Calls Try.prog 37 #[.slice none 0 0, .slice none 0 0] w fun e w' => e = .returned (.bool true) ∧ w = w' := by
  go_enter Try.func37, Try.ntmps37
  go_wp2
  go_loop [5] (fun i => i = .int .i64 0) (fun _ => 0)
  case atStart => rfl
  case round =>
    subst hrel
    go_wp2
    go_ret
    exact ⟨rfl, rfl⟩
theorem markMsgNil (k : Int) (w : World) : Calls Try.prog 39 #[.slice none 0 0, .int .i64 k] w fun e w' => e = .returned (.int .i64 k) ∧ w = w' := by
  go_enter Try.func39, Try.ntmps39
  go_wp2
  go_loop [5, 1] (fun i m => i = .int .i64 0 ∧ m = .int .i64 k) (fun _ _ => 0)
  case atStart => exact ⟨rfl, rfl⟩
  case round =>
    obtain ⟨rfl, rfl⟩ := hrel
    go_wp2
    go_ret
    exact ⟨rfl, rfl⟩
theorem heldMsgNil (k : Int) (w : World) : Calls Try.prog 41 #[.slice none 0 0, .int .i64 k] w fun e w' => e = .returned (.int .i64 k) ∧ w = w' := by
  go_enter Try.func41, Try.ntmps41
  go_wp2
  go_loop [5, 1] (fun i m => i = .int .i64 0 ∧ m = .int .i64 k) (fun _ _ => 0)
  case atStart => exact ⟨rfl, rfl⟩
  case round =>
    obtain ⟨rfl, rfl⟩ := hrel
    go_wp2
    go_ret
    exact ⟨rfl, rfl⟩
theorem NetAt.own {w : World} {lo g : Nat} {l : List (Nat × Nat)} {V : Nat → List Int} (h : NetAt w lo g l V) {i : Nat} (hi : i < l.length) : (cAt l i).1 < w.heap.size ∧ lo ≤ (cAt l i).1 ∧ Own w (cAt l i).1 ((cAt l i).1 + 1) (some ⟨(cAt l i).1, 0, none⟩) 4 (V i) :=
  ⟨(h.2.1 i hi).2.1, (h.2.1 i hi).1, (h.2.1 i hi).2.2⟩
theorem NetAt.ne {w : World} {lo g : Nat} {l : List (Nat × Nat)} {V : Nat → List Int} (h : NetAt w lo g l V) {i : Nat} (hi : i < l.length) : g ≠ (cAt l i).1 := by
  obtain ⟨⟨_, _, cs, hg, _⟩, hs⟩ := h
  obtain ⟨_, _, ho⟩ := hs.1 i hi
  obtain ⟨cur, hc⟩ := ho.row
  intro e
  rw [← e, hg] at hc
  injection hc with hc
  injection hc with _ hc
  exact absurd hc (by decide)
theorem NetAt.put {w w' : World} {lo g : Nat} {l : List (Nat × Nat)} {V : Nat → List Int} (h : NetAt w lo g l V) {i : Nat} (hi : i < l.length) (xs : List Int) (ho : Outside (cAt l i).1 ((cAt l i).1 + 1) w w') (hx : Own w' (cAt l i).1 ((cAt l i).1 + 1) (some ⟨(cAt l i).1, 0, none⟩) 4 xs) : NetAt w' lo g l (fun j => if j = i then xs else V j) := by
  have hne := h.ne hi
  obtain ⟨⟨h1, h2, cs, hg, hc⟩, hs⟩ := h
  have hsz := ho.size
  refine ⟨⟨h1, by omega, cs, (ho.block g (by omega)).trans hg, hc⟩, fun j hj => ?_, hs.2⟩
  obtain ⟨a, b, c⟩ := hs.1 j hj
  refine ⟨a, by omega, ?_⟩
  by_cases e : j = i
  · subst e
    show Own _ _ _ _ _ (if j = j then xs else V j)
    rw [if_pos rfl]
    exact hx
  · show Own _ _ _ _ _ (if j = i then xs else V j)
    rw [if_neg e]
    have hd : (cAt l j).1 ≠ (cAt l i).1 := by
      rcases Nat.lt_or_gt_of_ne e with h | h
      · have := hs.2 j i h hi; omega
      · have := hs.2 i j h hj; omega
    exact c.kept fun q h1 h2 => ho.block q (by omega)
def netMarks (q k : Nat) (i : Nat) : List Int := if i < k then marks (q + 4 * i) 4 else zeros4
theorem netMarks_zero (q : Nat) : netMarks q 0 = fun _ => zeros4 := by funext i; unfold netMarks; rw [if_neg (by omega)]
theorem netMarks_step (q k : Nat) : (fun j => if j = k then marks (q + 4 * k) 4 else netMarks q k j) = netMarks q (k + 1) := by
  funext j
  unfold netMarks
  by_cases e : j = k
  · subst e; rw [if_pos rfl, if_pos (by omega)]
  · rw [if_neg e]
    by_cases h : j < k
    · rw [if_pos h, if_pos (by omega)]
    · rw [if_neg h, if_neg (by omega)]

/-- Nothing has turned but the carts' lists. -/
def Rest (l : List (Nat × Nat)) (w w' : World) : Prop := w'.heap.size = w.heap.size ∧ ∀ j, (∀ i, i < l.length → j ≠ (cAt l i).1) → w'.heap[j]? = w.heap[j]?
set_option maxRecDepth 100000 in
set_option maxHeartbeats 2000000 in
theorem markCarts (w : World) (lo g c : Nat) (l : List (Nat × Nat)) (hl : l.length = 4) (h : NetAt w lo g l (fun _ => zeros4)) :
    Calls Try.prog 38 #[.slice (some ⟨g, 0, none⟩) 4 c, .int .i64 1] w fun e w' => e = .returned (.int .i64 17) ∧ NetAt w' lo g l (netMarks 1 4) ∧ Below lo w w' ∧ Rest l w w' := by
  have H := Lib.hid h
  clear h
  go_enter Try.func38, Try.ntmps38
  go_wp2
  go_loopw [5, 1] (fun i m wr => ∃ k q : Nat, k ≤ 4 ∧ i = .int .i64 (k : Int) ∧ m = .int .i64 (q : Int) ∧ Hid (q = 1 + 4 * k) ∧ Hid (NetAt wr lo g l (netMarks 1 k)) ∧ Hid (Below lo w wr) ∧ Hid (Rest l w wr)) (fun i _ _ => 4 - (intOf i).toNat)
  case atStart => exact ⟨0, 1, by omega, rfl, rfl, rfl, by rw [netMarks_zero]; exact H.out, Below.refl _ _, ⟨rfl, fun _ _ => rfl⟩⟩
  case round =>
    obtain ⟨k, q, hk, rfl, rfl, HQ, HN, HB, HR⟩ := hrel
    have hq : q ≤ 100 := by have := HQ.out; omega
    by_cases hlt : k < 4
    · have hki : (k : Int) < 4 := by omega
      have hkl : k < l.length := by omega
      obtain ⟨c0, c1⟩ := HN.out.cells hkl
      obtain ⟨hv1, hv2, ho⟩ := HN.out.own hkl
      have HNE := Lib.hid (HN.out.ne hkl)
      go_wp2_with fail
      refine (mark wr _ _ _ 4 _ _ ho q (by omega) (by omega)).mono ?_
      rintro e w1 ⟨⟨m, hm, rfl⟩, ho1, hO⟩
      have HM := Lib.hid hm
      have hN1 := HN.out.put hkl _ hO ho1
      rw [HQ.out, netMarks_step] at hN1
      have HN1 := Lib.hid hN1
      have HB1 : Hid (Below lo w w1) := HB.out.trans (hO.below hv2)
      have HR1 : Hid (Rest l w w1) := ⟨hO.size.trans HR.out.1, fun j hj => (hO.block j (by have := hj k hkl; omega)).trans (HR.out.2 j hj)⟩
      obtain ⟨_, d1⟩ := HN1.out.cells hkl
      clear c0 c1 ho ho1 hO hN1 hm
      go_wp2_with fail
      refine (markNil _ _).mono ?_
      rintro e w2 ⟨rfl, rfl⟩
      go_wp2
      go_roundw
      case rel => exact ⟨k + 1, m, by omega, by go_num, rfl, (by have := HQ.out; have := HM.out; show m = 1 + 4 * (k + 1); omega), HN1, HB1, HR1⟩
      case measure => simp [intOf]; omega
    · obtain rfl : k = 4 := by omega
      obtain rfl : q = 17 := by have := HQ.out; omega
      go_wp2
      go_ret
      exact ⟨rfl, HN.out, HB.out, HR.out⟩
set_option maxRecDepth 100000 in
set_option maxHeartbeats 2000000 in
theorem heldCarts (w : World) (lo g c : Nat) (l : List (Nat × Nat)) (hl : l.length = 4) (h : NetAt w lo g l (netMarks 1 4)) :
    Calls Try.prog 40 #[.slice (some ⟨g, 0, none⟩) 4 c, .int .i64 1] w fun e w' => e = .returned (.int .i64 17) ∧ w = w' := by
  have H := Lib.hid h
  clear h
  go_enter Try.func40, Try.ntmps40
  go_wp2
  go_loop [5, 1] (fun i m => ∃ k q : Nat, k ≤ 4 ∧ i = .int .i64 (k : Int) ∧ m = .int .i64 (q : Int) ∧ Hid (q = 1 + 4 * k)) (fun i _ => 4 - (intOf i).toNat)
  case atStart => exact ⟨0, 1, by omega, rfl, rfl, rfl⟩
  case round =>
    obtain ⟨k, q, hk, rfl, rfl, HQ⟩ := hrel
    have hq : q ≤ 100 := by have := HQ.out; omega
    by_cases hlt : k < 4
    · have hki : (k : Int) < 4 := by omega
      have hkl : k < l.length := by omega
      obtain ⟨c0, c1⟩ := H.out.cells hkl
      obtain ⟨hv1, hv2, ho⟩ := H.out.own hkl
      have hm : netMarks 1 4 k = marks q 4 := by unfold netMarks; rw [if_pos hlt, HQ.out]
      rw [hm] at ho
      go_wp2_with fail
      refine (held w _ _ 4 _ q ho.ints (by omega) (by omega)).mono ?_
      rintro e w1 ⟨rfl, rfl⟩
      go_wp2_with fail
      refine (heldNil _ _).mono ?_
      rintro e w2 ⟨rfl, rfl⟩
      go_wp2
      go_round
      case rel => exact ⟨k + 1, q + 4, by omega, by go_num, rfl, (by have := HQ.out; show q + 4 = 1 + 4 * (k + 1); omega)⟩
      case measure => simp [intOf]; omega
    · obtain rfl : k = 4 := by omega
      obtain rfl : q = 17 := by have := HQ.out; omega
      go_wp2
      go_ret
      exact ⟨rfl, rfl⟩
end Go.Proofs.Ytdmhibdhnejiiab
