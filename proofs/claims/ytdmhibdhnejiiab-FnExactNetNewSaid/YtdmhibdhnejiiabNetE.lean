/- The laws' tools on nets: eqCartS, eqNet, markNet, heldNet. -/
import Derived.Test.YtdmhibdhnejiiabNetT
namespace Go.Proofs.Ytdmhibdhnejiiab
open Go.RowKit

set_option maxRecDepth 100000 in
set_option maxHeartbeats 2000000 in
theorem eqCarts (w : World) (lo lo' g g' c c' : Nat) (l l' : List (Nat × Nat)) (hl : l.length = 4) (hl' : l'.length = 4) (h : NetAt w lo g l (fun _ => zeros4)) (h' : NetAt w lo' g' l' (fun _ => zeros4)) :
    Calls Try.prog 36 #[.slice (some ⟨g, 0, none⟩) 4 c, .slice (some ⟨g', 0, none⟩) 4 c'] w fun e w' => e = .returned (.bool true) ∧ Below w.heap.size w w' := by
  have H := Lib.hid h
  have H' := Lib.hid h'
  clear h h'
  go_enter Try.func36, Try.ntmps36
  go_wp2
  go_loopw [5] (fun i wr => ∃ k : Nat, k ≤ 4 ∧ i = .int .i64 (k : Int) ∧ Hid (Below w.heap.size w wr)) (fun i _ => 4 - (intOf i).toNat)
  case atStart => exact ⟨0, Nat.zero_le _, rfl, Below.refl _ _⟩
  case round =>
    obtain ⟨k, hk, rfl, HB⟩ := hrel
    by_cases hlt : k < 4
    · have q1 := H.out.kept HB.out
      have q2 := H'.out.kept HB.out
      have q1 : NetAt wr.drew lo g l (fun _ => zeros4) := q1.other rfl fun _ _ => rfl
      have q2 : NetAt wr.drew lo' g' l' (fun _ => zeros4) := q2.other rfl fun _ _ => rfl
      have hkl : k < l.length := by omega
      have hkl' : k < l'.length := by omega
      have Q1 := Lib.hid q1
      have Q2 := Lib.hid q2
      clear q1 q2
      obtain ⟨a0, a1⟩ := Q1.out.cells hkl
      obtain ⟨b0, b1⟩ := Q2.out.cells hkl'
      have hS0 : wr.drew.cell? ⟨g, k * 2, none⟩ = some (.slice (some ⟨(cAt l k).1, 0, none⟩) 4 (cAt l k).2) ∧ wr.drew.cell? ⟨g, k * 2 + 1, none⟩ = some (.slice none 0 0) ∧ wr.drew.cell? ⟨g', k * 2, none⟩ = some (.slice (some ⟨(cAt l' k).1, 0, none⟩) 4 (cAt l' k).2) ∧ wr.drew.cell? ⟨g', k * 2 + 1, none⟩ = some (.slice none 0 0) := ⟨a0, a1, b0, b1⟩
      clear a0 a1 b0 b1
      have hk0 : (0 : Int) ≤ (k : Int) := by omega
      have hk1 : (k : Int) < 4 := by omega
      go_wp2_with fail
      go_region_held3 (fun w' => w'.cell? ⟨g, k * 2, none⟩ = some (.slice (some ⟨(cAt l k).1, 0, none⟩) 4 (cAt l k).2) ∧ w'.cell? ⟨g, k * 2 + 1, none⟩ = some (.slice none 0 0) ∧ w'.cell? ⟨g', k * 2, none⟩ = some (.slice (some ⟨(cAt l' k).1, 0, none⟩) 4 (cAt l' k).2) ∧ w'.cell? ⟨g', k * 2 + 1, none⟩ = some (.slice none 0 0)) (first | with_reducible exact hS0 | with_reducible exact hS1)
        (first | (go_at_call 48; refine (eqCartNil wr.drew _ _ _ _ _ _ zeros4 (Q1.out.own hkl).2.2.ints (Q2.out.own hkl').2.2.ints (Q1.out.own hkl).1 (Q2.out.own hkl').1).mono ?_; rintro e w1 ⟨rfl, hb1⟩; have q3 := Q1.out.kept hb1; have q4 := Q2.out.kept hb1; obtain ⟨a0, a1⟩ := q3.cells hkl; obtain ⟨b0, b1⟩ := q4.cells hkl'; have hS1 : w1.cell? ⟨g, k * 2, none⟩ = some (.slice (some ⟨(cAt l k).1, 0, none⟩) 4 (cAt l k).2) ∧ w1.cell? ⟨g, k * 2 + 1, none⟩ = some (.slice none 0 0) ∧ w1.cell? ⟨g', k * 2, none⟩ = some (.slice (some ⟨(cAt l' k).1, 0, none⟩) 4 (cAt l' k).2) ∧ w1.cell? ⟨g', k * 2 + 1, none⟩ = some (.slice none 0 0) := ⟨a0, a1, b0, b1⟩; clear a0 a1 b0 b1 q3 q4))
      have HB1 := Lib.hid (HB.out.trans ((Below.mk hb1.os hb1.tape hb1.output hb1.size hb1.block : Below wr.heap.size wr w1).mono HB.out.size))
      clear hS0 hS1 hb1
      go_wp2
      go_roundw
      case rel => exact ⟨k + 1, by omega, by go_num, HB1⟩
      case measure => simp [intOf]; omega
    · go_wp2
      go_ret
      exact ⟨rfl, HB.out⟩
def netV (g c : Nat) : Value := .agg #[.slice (some ⟨g, 0, none⟩) 4 c, .slice none 0 0]
set_option maxRecDepth 100000 in
theorem eqNets (w : World) (lo lo' g g' c c' : Nat) (l l' : List (Nat × Nat)) (hl : l.length = 4) (hl' : l'.length = 4) (h : NetAt w lo g l (fun _ => zeros4)) (h' : NetAt w lo' g' l' (fun _ => zeros4)) :
    Calls Try.prog 20 #[.agg #[.slice (some ⟨g, 0, none⟩) 4 c, .slice none 0 0], .agg #[.slice (some ⟨g', 0, none⟩) 4 c', .slice none 0 0]] w fun e w' => e = .returned (.bool true) ∧ Below w.heap.size w w' := by
  have hb2 : Below w.heap.size w ((w.alloc (.cells #[.slice (some ⟨g, 0, none⟩) 4 c, .slice none 0 0] 35)).alloc (.cells #[.slice (some ⟨g', 0, none⟩) 4 c', .slice none 0 0] 35)) := ((Below.refl _ w).alloc (Nat.le_refl _) _).alloc (by show _ ≤ (w.heap.push _).size; simp) _
  have hT := Two.mk0 w #[.slice (some ⟨g, 0, none⟩) 4 c, .slice none 0 0] #[.slice (some ⟨g', 0, none⟩) 4 c', .slice none 0 0] 35
  have HT := Lib.hid hT
  have H := Lib.hid (h.kept hb2)
  have H' := Lib.hid (h'.kept hb2)
  have HB := Lib.hid hb2
  clear h h' hb2 hT
  go_enter Try.func20, Try.ntmps20
  go_wp2_with fail
  refine (eqCarts _ _ _ _ _ _ _ _ _ hl hl' H.out H'.out).mono ?_
  rintro e w1 ⟨rfl, hb1⟩
  have HT1 := Lib.hid (HT.out.next hb1)
  have HB1 := Lib.hid (HB.out.trans (hb1.mono HB.out.size))
  obtain ⟨_, d1⟩ := pair_cells HT1.out.fst
  obtain ⟨_, d2⟩ := pair_cells HT1.out.snd
  clear hb1
  go_wp2_with fail
  refine (eqMsgNil _).mono ?_
  rintro e w' ⟨rfl, rfl⟩
  go_wp2
  go_ret
  exact ⟨rfl, HB1.out⟩
set_option maxRecDepth 100000 in
theorem markNets (w : World) (lo g c : Nat) (l : List (Nat × Nat)) (hl : l.length = 4) (h : NetAt w lo g l (fun _ => zeros4)) (hlo : lo ≤ w.heap.size) :
    Calls Try.prog 21 #[.agg #[.slice (some ⟨g, 0, none⟩) 4 c, .slice none 0 0], .int .i64 1] w fun e w' => e = .returned (.int .i64 17) ∧ NetAt w' lo g l (netMarks 1 4) ∧ Below lo w w' ∧ ∀ j, j < w.heap.size → (∀ i, i < l.length → j ≠ (cAt l i).1) → w'.heap[j]? = w.heap[j]? := by
  have hb2 : Below w.heap.size w (w.alloc (.cells #[.slice (some ⟨g, 0, none⟩) 4 c, .slice none 0 0] 35)) := (Below.refl _ w).alloc (Nat.le_refl _) _
  have H := Lib.hid (h.kept hb2)
  have H0 := Lib.hid h
  have HB := Lib.hid hb2
  have HX := Lib.hid (heap_alloc_new w (.cells #[.slice (some ⟨g, 0, none⟩) 4 c, .slice none 0 0] 35))
  clear h hb2
  go_enter Try.func21, Try.ntmps21
  go_wp2_with fail
  refine (markCarts _ _ _ _ _ hl H.out).mono ?_
  rintro e w1 ⟨rfl, hn, hb1, hr⟩
  have HN := Lib.hid hn
  have HB1 := Lib.hid ((HB.out.mono hlo).trans hb1)
  have HR := Lib.hid hr
  obtain ⟨_, d1⟩ := pair_cells ((hr.2 w.heap.size (fun i hi => by have := (H0.out.own hi).1; omega)).trans HX.out)
  clear hn hb1 hr
  go_wp2_with fail
  refine (markMsgNil _ _).mono ?_
  rintro e w' ⟨rfl, rfl⟩
  go_wp2
  go_ret
  exact ⟨rfl, HN.out, HB1.out, fun j hj hi => (HR.out.2 j hi).trans (HB.out.block j hj)⟩
set_option maxRecDepth 100000 in
theorem heldNets (w : World) (lo g c : Nat) (l : List (Nat × Nat)) (hl : l.length = 4) (h : NetAt w lo g l (netMarks 1 4)) :
    Calls Try.prog 22 #[.agg #[.slice (some ⟨g, 0, none⟩) 4 c, .slice none 0 0], .int .i64 1] w fun e w' => e = .returned (.int .i64 17) ∧ Below w.heap.size w w' := by
  have hb2 : Below w.heap.size w (w.alloc (.cells #[.slice (some ⟨g, 0, none⟩) 4 c, .slice none 0 0] 35)) := (Below.refl _ w).alloc (Nat.le_refl _) _
  have H := Lib.hid (h.kept hb2)
  have HB := Lib.hid hb2
  obtain ⟨_, d1⟩ := pair_cells (heap_alloc_new w (.cells #[.slice (some ⟨g, 0, none⟩) 4 c, .slice none 0 0] 35))
  clear h hb2
  go_enter Try.func22, Try.ntmps22
  go_wp2_with fail
  refine (heldCarts _ _ _ _ _ hl H.out).mono ?_
  rintro e w1 ⟨rfl, rfl⟩
  go_wp2_with fail
  refine (heldMsgNil _ _).mono ?_
  rintro e w' ⟨rfl, rfl⟩
  go_wp2
  go_ret
  exact ⟨rfl, HB.out⟩
end Go.Proofs.Ytdmhibdhnejiiab
