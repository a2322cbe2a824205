/- Walks and mathematics that several claims share, part 17. -/
import Derived.Test.YtjokbaaommicmaaGreatDoorGb14
import Derived.Deep.QuietTactic
import Derived.BigQuiet
import Derived.Test.YtjokbaaommicmaaGreatDoorGbA
namespace Go.Proofs.YtjokbaaommicmaaGreatDoor
set_option maxRecDepth 100000
open Go.RowKit

def befB (dev1 seq1 stamp1 kind1 : Int) (item1 : ByteArray) (qty1 level1 undos1 : Int) (dev2 seq2 stamp2 kind2 : Int) (item2 : ByteArray) (qty2 level2 undos2 : Int) : Bool := opB dev1 seq1 stamp1 kind1 item1 qty1 level1 undos1 && (opB dev2 seq2 stamp2 kind2 item2 qty2 level2 undos2 && preB stamp1 dev1 seq1 stamp2 dev2 seq2)
structure Two (w w1 : World) (cs ds : Array Value) (T : TypeId) : Prop where
 fst : w1.heap[w.heap.size]? = some (.cells cs T (0, 0))
 snd : w1.heap[w.heap.size + 1]? = some (.cells ds T (0, 0))
 bel : Below w.heap.size w w1
theorem Two.mk0 (w : World) (cs ds : Array Value) (T : TypeId) : Two w ((w.alloc (.cells cs T)).alloc (.cells ds T)) cs ds T :=
 ⟨by show ((w.heap.push _).push _)[_]? = _; rw [Array.getElem?_push_lt (by simp)]; simp, by
  show ((w.heap.push _).push _)[_]? = _
  have e : w.heap.size + 1 = (w.heap.push (.cells cs T)).size := by simp
  rw [e, Array.getElem?_push_size], ((Below.refl _ w).alloc (Nat.le_refl _) _).alloc (by show _ ≤ (w.heap.push _).size; simp) _⟩
theorem Two.next {w w1 w2 : World} {cs ds : Array Value} {T : TypeId} (h : Two w w1 cs ds T) (hb : Below w1.heap.size w1 w2) : Two w w2 cs ds T :=
 ⟨(hb.block _ (lt_of_row h.fst)).trans h.fst, (hb.block _ (lt_of_row h.snd)).trans h.snd, h.bel.trans (hb.mono h.bel.size)⟩

set_option maxHeartbeats 5000000 in
theorem l3Before (dev1 seq1 stamp1 kind1 : Int) (item1 : ByteArray) (qty1 level1 undos1 : Int) (dev2 seq2 stamp2 kind2 : Int) (item2 : ByteArray) (qty2 level2 undos2 : Int) (w : World) : Calls Tryz.prog 126 #[.agg #[.int .i64 dev1, .int .i64 seq1, .int .i64 stamp1, .int .i64 kind1, .string item1, .int .i64 qty1, .int .i64 level1, .int .i64 undos1], .agg #[.int .i64 dev2, .int .i64 seq2, .int .i64 stamp2, .int .i64 kind2, .string item2, .int .i64 qty2, .int .i64 level2, .int .i64 undos2]] w fun e w' => e = .returned (.bool (preB stamp1 dev1 seq1 stamp2 dev2 seq2)) ∧ Below w.heap.size w w' := by
 have HP : Hid (preB stamp1 dev1 seq1 stamp2 dev2 seq2 = decide (stamp1 < stamp2 ∨ (stamp1 = stamp2 ∧ (dev1 < dev2 ∨ (dev1 = dev2 ∧ seq1 < seq2))))) := rfl
 by_cases h1 : stamp1 = stamp2
 ·by_cases h2 : dev1 = dev2
  ·have HQ : Hid (preB stamp1 dev1 seq1 stamp2 dev2 seq2 = decide (seq1 < seq2)) := by show preB _ _ _ _ _ _ = _; rw [HP.out, decide_eq_decide]; omega
   have z1 : (stamp1 != stamp2) = false := by rw [h1]; exact bne_self_eq_false _
   have z2 : (dev1 != dev2) = false := by rw [h2]; exact bne_self_eq_false _
   clear h1 h2
   go_enter Tryz.func126, Tryz.ntmps126
   go_wp2
   go_ret
   exact ⟨by rw [HQ.out]; rfl, (bl).alloc (by simp) _⟩
  ·have HQ : Hid (preB stamp1 dev1 seq1 stamp2 dev2 seq2 = decide (dev1 < dev2)) := by show preB _ _ _ _ _ _ = _; rw [HP.out, decide_eq_decide]; omega
   have z1 : (stamp1 != stamp2) = false := by rw [h1]; exact bne_self_eq_false _
   have z2 : (dev1 != dev2) = true := by rw [bne_iff_ne]; exact h2
   clear h1 h2
   go_enter Tryz.func126, Tryz.ntmps126
   go_wp2
   go_ret
   exact ⟨by rw [HQ.out]; rfl, (bl).alloc (by simp) _⟩
 ·have HQ : Hid (preB stamp1 dev1 seq1 stamp2 dev2 seq2 = decide (stamp1 < stamp2)) := by show preB _ _ _ _ _ _ = _; rw [HP.out, decide_eq_decide]; omega
  have z1 : (stamp1 != stamp2) = true := by rw [bne_iff_ne]; exact h1
  clear h1
  go_enter Tryz.func126, Tryz.ntmps126
  go_wp2
  go_ret
  exact ⟨by rw [HQ.out]; rfl, (bl).alloc (by simp) _⟩
set_option maxHeartbeats 10000000 in
theorem implBefore (dev1 seq1 stamp1 kind1 : Int) (item1 : ByteArray) (qty1 level1 undos1 : Int) (dev2 seq2 stamp2 kind2 : Int) (item2 : ByteArray) (qty2 level2 undos2 : Int) (w : World) : Calls Tryz.prog 152 #[.agg #[.int .i64 dev1, .int .i64 seq1, .int .i64 stamp1, .int .i64 kind1, .string item1, .int .i64 qty1, .int .i64 level1, .int .i64 undos1], .agg #[.int .i64 dev2, .int .i64 seq2, .int .i64 stamp2, .int .i64 kind2, .string item2, .int .i64 qty2, .int .i64 level2, .int .i64 undos2]] w fun e w' => e = .returned (.bool (befB dev1 seq1 stamp1 kind1 item1 qty1 level1 undos1 dev2 seq2 stamp2 kind2 item2 qty2 level2 undos2)) ∧ Below w.heap.size w w' := by
 have HL : Hid (befB dev1 seq1 stamp1 kind1 item1 qty1 level1 undos1 dev2 seq2 stamp2 kind2 item2 qty2 level2 undos2 = (opB dev1 seq1 stamp1 kind1 item1 qty1 level1 undos1 && (opB dev2 seq2 stamp2 kind2 item2 qty2 level2 undos2 && preB stamp1 dev1 seq1 stamp2 dev2 seq2))) := rfl
 rcases ho1 : opB dev1 seq1 stamp1 kind1 item1 qty1 level1 undos1 with _ | _
 ·have HO1 := Lib.hid ho1
  clear ho1
  have hT0 := Two.mk0 w #[.int .i64 dev1, .int .i64 seq1, .int .i64 stamp1, .int .i64 kind1, .string item1, .int .i64 qty1, .int .i64 level1, .int .i64 undos1] #[.int .i64 dev2, .int .i64 seq2, .int .i64 stamp2, .int .i64 kind2, .string item2, .int .i64 qty2, .int .i64 level2, .int .i64 undos2] 93
  go_enter Tryz.func152, Tryz.ntmps152
  go_wp2_with fail
  refine (implOpOk dev1 seq1 stamp1 kind1 item1 qty1 level1 undos1 _).mono ?_
  rintro e w1 ⟨rfl, hb1⟩
  rw [HO1.out]
  have hT := hT0.next hb1
  clear hT0 hb1
  go_wp2
  go_ret
  exact ⟨by rw [HL.out, HO1.out]; rfl, hT.bel⟩
 have HO1 := Lib.hid ho1
 clear ho1
 rcases ho2 : opB dev2 seq2 stamp2 kind2 item2 qty2 level2 undos2 with _ | _
 ·have HO2 := Lib.hid ho2
  clear ho2
  have hT0 := Two.mk0 w #[.int .i64 dev1, .int .i64 seq1, .int .i64 stamp1, .int .i64 kind1, .string item1, .int .i64 qty1, .int .i64 level1, .int .i64 undos1] #[.int .i64 dev2, .int .i64 seq2, .int .i64 stamp2, .int .i64 kind2, .string item2, .int .i64 qty2, .int .i64 level2, .int .i64 undos2] 93
  go_enter Tryz.func152, Tryz.ntmps152
  go_wp2_with fail
  refine (implOpOk dev1 seq1 stamp1 kind1 item1 qty1 level1 undos1 _).mono ?_
  rintro e w1 ⟨rfl, hb1⟩
  rw [HO1.out]
  have hT := hT0.next hb1
  clear hT0 hb1
  have c10 := cell_of_row _ _ 0 _ _ _ hT.fst
  have c11 := cell_of_row _ _ 1 _ _ _ hT.fst
  have c12 := cell_of_row _ _ 2 _ _ _ hT.fst
  have c13 := cell_of_row _ _ 3 _ _ _ hT.fst
  have c14 := cell_of_row _ _ 4 _ _ _ hT.fst
  have c15 := cell_of_row _ _ 5 _ _ _ hT.fst
  have c16 := cell_of_row _ _ 6 _ _ _ hT.fst
  have c17 := cell_of_row _ _ 7 _ _ _ hT.fst
  have c20 := cell_of_row _ _ 0 _ _ _ hT.snd
  have c21 := cell_of_row _ _ 1 _ _ _ hT.snd
  have c22 := cell_of_row _ _ 2 _ _ _ hT.snd
  have c23 := cell_of_row _ _ 3 _ _ _ hT.snd
  have c24 := cell_of_row _ _ 4 _ _ _ hT.snd
  have c25 := cell_of_row _ _ 5 _ _ _ hT.snd
  have c26 := cell_of_row _ _ 6 _ _ _ hT.snd
  have c27 := cell_of_row _ _ 7 _ _ _ hT.snd
  simp only [List.getElem?_toArray, List.getElem?_cons_zero, List.getElem?_cons_succ] at c10 c11 c12 c13 c14 c15 c16 c17 c20 c21 c22 c23 c24 c25 c26 c27
  go_wp2_with fail
  refine (implOpOk dev2 seq2 stamp2 kind2 item2 qty2 level2 undos2 _).mono ?_
  rintro e w2 ⟨rfl, hb2⟩
  rw [HO2.out]
  have hT2 := hT.next hb2
  clear hT hb2
  clear c10 c11 c12 c13 c14 c15 c16 c17 c20 c21 c22 c23 c24 c25 c26 c27
  go_wp2
  go_ret
  exact ⟨by rw [HL.out, HO1.out, HO2.out]; rfl, hT2.bel⟩
 have HO2 := Lib.hid ho2
 clear ho2
 have hT0 := Two.mk0 w #[.int .i64 dev1, .int .i64 seq1, .int .i64 stamp1, .int .i64 kind1, .string item1, .int .i64 qty1, .int .i64 level1, .int .i64 undos1] #[.int .i64 dev2, .int .i64 seq2, .int .i64 stamp2, .int .i64 kind2, .string item2, .int .i64 qty2, .int .i64 level2, .int .i64 undos2] 93
 go_enter Tryz.func152, Tryz.ntmps152
 go_wp2_with fail
 refine (implOpOk dev1 seq1 stamp1 kind1 item1 qty1 level1 undos1 _).mono ?_
 rintro e w1 ⟨rfl, hb1⟩
 rw [HO1.out]
 have hT := hT0.next hb1
 clear hT0 hb1
 have c10 := cell_of_row _ _ 0 _ _ _ hT.fst
 have c11 := cell_of_row _ _ 1 _ _ _ hT.fst
 have c12 := cell_of_row _ _ 2 _ _ _ hT.fst
 have c13 := cell_of_row _ _ 3 _ _ _ hT.fst
 have c14 := cell_of_row _ _ 4 _ _ _ hT.fst
 have c15 := cell_of_row _ _ 5 _ _ _ hT.fst
 have c16 := cell_of_row _ _ 6 _ _ _ hT.fst
 have c17 := cell_of_row _ _ 7 _ _ _ hT.fst
 have c20 := cell_of_row _ _ 0 _ _ _ hT.snd
 have c21 := cell_of_row _ _ 1 _ _ _ hT.snd
 have c22 := cell_of_row _ _ 2 _ _ _ hT.snd
 have c23 := cell_of_row _ _ 3 _ _ _ hT.snd
 have c24 := cell_of_row _ _ 4 _ _ _ hT.snd
 have c25 := cell_of_row _ _ 5 _ _ _ hT.snd
 have c26 := cell_of_row _ _ 6 _ _ _ hT.snd
 have c27 := cell_of_row _ _ 7 _ _ _ hT.snd
 simp only [List.getElem?_toArray, List.getElem?_cons_zero, List.getElem?_cons_succ] at c10 c11 c12 c13 c14 c15 c16 c17 c20 c21 c22 c23 c24 c25 c26 c27
 go_wp2_with fail
 refine (implOpOk dev2 seq2 stamp2 kind2 item2 qty2 level2 undos2 _).mono ?_
 rintro e w2 ⟨rfl, hb2⟩
 rw [HO2.out]
 have hT2 := hT.next hb2
 clear hT hb2
 clear c10 c11 c12 c13 c14 c15 c16 c17 c20 c21 c22 c23 c24 c25 c26 c27
 have c10 := cell_of_row _ _ 0 _ _ _ hT2.fst
 have c11 := cell_of_row _ _ 1 _ _ _ hT2.fst
 have c12 := cell_of_row _ _ 2 _ _ _ hT2.fst
 have c13 := cell_of_row _ _ 3 _ _ _ hT2.fst
 have c14 := cell_of_row _ _ 4 _ _ _ hT2.fst
 have c15 := cell_of_row _ _ 5 _ _ _ hT2.fst
 have c16 := cell_of_row _ _ 6 _ _ _ hT2.fst
 have c17 := cell_of_row _ _ 7 _ _ _ hT2.fst
 have c20 := cell_of_row _ _ 0 _ _ _ hT2.snd
 have c21 := cell_of_row _ _ 1 _ _ _ hT2.snd
 have c22 := cell_of_row _ _ 2 _ _ _ hT2.snd
 have c23 := cell_of_row _ _ 3 _ _ _ hT2.snd
 have c24 := cell_of_row _ _ 4 _ _ _ hT2.snd
 have c25 := cell_of_row _ _ 5 _ _ _ hT2.snd
 have c26 := cell_of_row _ _ 6 _ _ _ hT2.snd
 have c27 := cell_of_row _ _ 7 _ _ _ hT2.snd
 simp only [List.getElem?_toArray, List.getElem?_cons_zero, List.getElem?_cons_succ] at c10 c11 c12 c13 c14 c15 c16 c17 c20 c21 c22 c23 c24 c25 c26 c27
 clear c13 c14 c15 c16 c17 c23 c24 c25 c26 c27
 have HT := Lib.hid hT2
 clear hT2
 have HR := Lib.hid (or_pre stamp1 dev1 seq1 stamp2 dev2 seq2)
 have hlt1 := lt_of_row HT.out.fst
 have hlt2 := lt_of_row HT.out.snd
 go_wp2_with fail
 go_region_held3 (fun w' => w'.cell? ⟨w.heap.size, 2, none⟩ = some (.int .i64 stamp1) ∧ w'.cell? ⟨w.heap.size + 1, 2, none⟩ = some (.int .i64 stamp2) ∧ w'.cell? ⟨w.heap.size, 0, none⟩ = some (.int .i64 dev1) ∧ w'.cell? ⟨w.heap.size + 1, 0, none⟩ = some (.int .i64 dev2) ∧ w'.cell? ⟨w.heap.size, 1, none⟩ = some (.int .i64 seq1) ∧ w'.cell? ⟨w.heap.size + 1, 1, none⟩ = some (.int .i64 seq2)) (first | exact ⟨c12, c22, c10, c20, c11, c21⟩ | go_keep)
  (first | (go_at_call 166; refine (compare _ _ _).mono ?_; rintro e w' ⟨rfl, rfl⟩) | (go_at_call 165; refine (cmpOr (cmpI stamp1 stamp2) (cmpI dev1 dev2) (cmpI seq1 seq2) _ _ ?_ ?_ ?_).mono ?_; (simp); (simp); (simp); rintro e w' ⟨rfl, rfl⟩))
 go_wp2
 go_ret
 exact ⟨by rw [HL.out, HO1.out, HO2.out, ← HR.out]; rfl, HT.out.bel.trans (((Below.refl _ w2).alloc (Nat.le_refl _) _).drew.mono HT.out.bel.size)⟩
end Go.Proofs.YtjokbaaommicmaaGreatDoor
