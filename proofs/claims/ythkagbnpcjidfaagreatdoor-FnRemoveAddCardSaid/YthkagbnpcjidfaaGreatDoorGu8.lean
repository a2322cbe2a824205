/- Walks and mathematics that several claims share, part 8. -/
import Derived.Test.YthkagbnpcjidfaaGreatDoorGu7
import Derived.Deep.QuietTactic
import Derived.BigQuiet
namespace Go.Proofs.YthkagbnpcjidfaaGreatDoor
set_option maxRecDepth 100000
open Go.RowKit
set_option linter.unusedVariables false
set_option linter.unusedSimpArgs false
def K6 (gU iO dN nY : Int) (nZ : ByteArray) (rE kX kU : Int) (hC jC dS oS : Int) (oT : ByteArray) (sI lU lR : Int) : Bool := dM gU iO dN nY nZ rE kX kU && (dM hC jC dS oS oT sI lU lR && preB dN gU iO dS hC jC)
structure tV (w w1 : World) (cs ds : Array Value) (T : TypeId) : Prop where
 fst : w1.heap[w.heap.size]? = some (.cells cs T (0, 0))
 snd : w1.heap[w.heap.size + 1]? = some (.cells ds T (0, 0))
 bel : Below w.heap.size w w1
theorem tV.mk0 (w : World) (cs ds : Array Value) (T : TypeId) : tV w ((w.alloc (.cells cs T)).alloc (.cells ds T)) cs ds T :=
 ⟨by show ((w.heap.push _).push _)[_]? = _; rw [Array.getElem?_push_lt (by simp)]; simp, by
  show ((w.heap.push _).push _)[_]? = _
  have e : w.heap.size + 1 = (w.heap.push (.cells cs T)).size := by simp
  rw [e, Array.getElem?_push_size], ((Below.refl _ w).alloc aPq _).alloc (by show _ ≤ (w.heap.push _).size; simp) _⟩
theorem tV.next {w w1 w2 : World} {cs ds : Array Value} {T : TypeId} (h : tV w w1 cs ds T) (hb : Below w1.heap.size w1 w2) : tV w w2 cs ds T :=
 ⟨(hb.block _ (bF h.fst)).trans h.fst, (hb.block _ (bF h.snd)).trans h.snd, h.bel.trans (hb.mono h.bel.size)⟩
set_option maxHeartbeats 5000000 in
theorem aH9 (gU iO dN nY : Int) (nZ : ByteArray) (rE kX kU : Int) (hC jC dS oS : Int) (oT : ByteArray) (sI lU lR : Int) (w : World) : Calls Tryz.prog 156 #[.agg #[.int .i64 gU, .int .i64 iO, .int .i64 dN, .int .i64 nY, .string nZ, .int .i64 rE, .int .i64 kX, .int .i64 kU], .agg #[.int .i64 hC, .int .i64 jC, .int .i64 dS, .int .i64 oS, .string oT, .int .i64 sI, .int .i64 lU, .int .i64 lR]] w fun e w' => e = .returned (.bool (preB dN gU iO dS hC jC)) ∧ Below w.heap.size w w' := by
 have HP : Hid (preB dN gU iO dS hC jC = decide (dN < dS ∨ (dN = dS ∧ (gU < hC ∨ (gU = hC ∧ iO < jC))))) := rfl
 by_cases h1 : dN = dS
 ·by_cases h2 : gU = hC
  ·have HQ : Hid (preB dN gU iO dS hC jC = decide (iO < jC)) := by show preB _ _ _ _ _ _ = _; rw [HP.out, decide_eq_decide]; omega
   have z1 : (dN != dS) = false := by rw [h1]; exact bne_self_eq_false _
   have z2 : (gU != hC) = false := by rw [h2]; exact bne_self_eq_false _
   clear h1 h2
   go_enter Tryz.func156, Tryz.ntmps156
   go_wp2
   go_ret
   exact ⟨by rw [HQ.out]; rfl, (bl).alloc (by simp) _⟩
  ·have HQ : Hid (preB dN gU iO dS hC jC = decide (gU < hC)) := by show preB _ _ _ _ _ _ = _; rw [HP.out, decide_eq_decide]; omega
   have z1 : (dN != dS) = false := by rw [h1]; exact bne_self_eq_false _
   have z2 : (gU != hC) = true := by rw [bne_iff_ne]; exact h2
   clear h1 h2
   go_enter Tryz.func156, Tryz.ntmps156
   go_wp2
   go_ret
   exact ⟨by rw [HQ.out]; rfl, (bl).alloc (by simp) _⟩
 ·have HQ : Hid (preB dN gU iO dS hC jC = decide (dN < dS)) := by show preB _ _ _ _ _ _ = _; rw [HP.out, decide_eq_decide]; omega
  have z1 : (dN != dS) = true := by rw [bne_iff_ne]; exact h1
  clear h1
  go_enter Tryz.func156, Tryz.ntmps156
  go_wp2
  go_ret
  exact ⟨by rw [HQ.out]; rfl, (bl).alloc (by simp) _⟩
set_option maxHeartbeats 10000000 in
theorem aAs (gU iO dN nY : Int) (nZ : ByteArray) (rE kX kU : Int) (hC jC dS oS : Int) (oT : ByteArray) (sI lU lR : Int) (w : World) : Calls Tryz.prog 103 #[.agg #[.int .i64 gU, .int .i64 iO, .int .i64 dN, .int .i64 nY, .string nZ, .int .i64 rE, .int .i64 kX, .int .i64 kU], .agg #[.int .i64 hC, .int .i64 jC, .int .i64 dS, .int .i64 oS, .string oT, .int .i64 sI, .int .i64 lU, .int .i64 lR]] w fun e w' => e = .returned (.bool (K6 gU iO dN nY nZ rE kX kU hC jC dS oS oT sI lU lR)) ∧ Below w.heap.size w w' := by
 have HL : Hid (K6 gU iO dN nY nZ rE kX kU hC jC dS oS oT sI lU lR = (dM gU iO dN nY nZ rE kX kU && (dM hC jC dS oS oT sI lU lR && preB dN gU iO dS hC jC))) := rfl
 rcases ho1 : dM gU iO dN nY nZ rE kX kU with _ | _
 ·have dD := aPo ho1
  clear ho1; have qS := tV.mk0 w #[.int .i64 gU, .int .i64 iO, .int .i64 dN, .int .i64 nY, .string nZ, .int .i64 rE, .int .i64 kX, .int .i64 kU] #[.int .i64 hC, .int .i64 jC, .int .i64 dS, .int .i64 oS, .string oT, .int .i64 sI, .int .i64 lU, .int .i64 lR] 50
  go_enter Tryz.func103, Tryz.ntmps103
  go_wp2_with fail
  refine (kY gU iO dN nY nZ rE kX kU _).mono ?_
  rintro e w1 ⟨rfl, aG⟩; rw [dD.out]; have hT := qS.next aG; clear qS aG; go_wp2
  go_ret
  exact ⟨by rw [HL.out, dD.out]; rfl, hT.bel⟩
 have dD := aPo ho1
 clear ho1
 rcases ho2 : dM hC jC dS oS oT sI lU lR with _ | _
 ·have gR := aPo ho2
  clear ho2; have qS := tV.mk0 w #[.int .i64 gU, .int .i64 iO, .int .i64 dN, .int .i64 nY, .string nZ, .int .i64 rE, .int .i64 kX, .int .i64 kU] #[.int .i64 hC, .int .i64 jC, .int .i64 dS, .int .i64 oS, .string oT, .int .i64 sI, .int .i64 lU, .int .i64 lR] 50
  go_enter Tryz.func103, Tryz.ntmps103
  go_wp2_with fail
  refine (kY gU iO dN nY nZ rE kX kU _).mono ?_
  rintro e w1 ⟨rfl, aG⟩; rw [dD.out]; have hT := qS.next aG; clear qS aG; have c10 := cell_of_row _ _ 0 _ _ _ hT.fst; have c11 := cell_of_row _ _ 1 _ _ _ hT.fst; have c12 := cell_of_row _ _ 2 _ _ _ hT.fst; have c13 := cell_of_row _ _ 3 _ _ _ hT.fst; have c14 := cell_of_row _ _ 4 _ _ _ hT.fst; have c15 := cell_of_row _ _ 5 _ _ _ hT.fst; have c16 := cell_of_row _ _ 6 _ _ _ hT.fst; have c17 := cell_of_row _ _ 7 _ _ _ hT.fst; have c20 := cell_of_row _ _ 0 _ _ _ hT.snd; have c21 := cell_of_row _ _ 1 _ _ _ hT.snd; have c22 := cell_of_row _ _ 2 _ _ _ hT.snd; have c23 := cell_of_row _ _ 3 _ _ _ hT.snd; have c24 := cell_of_row _ _ 4 _ _ _ hT.snd; have c25 := cell_of_row _ _ 5 _ _ _ hT.snd; have c26 := cell_of_row _ _ 6 _ _ _ hT.snd; have c27 := cell_of_row _ _ 7 _ _ _ hT.snd; simp only [List.getElem?_toArray, List.getElem?_cons_zero, List.getElem?_cons_succ] at c10 c11 c12 c13 c14 c15 c16 c17 c20 c21 c22 c23 c24 c25 c26 c27
  go_wp2_with fail
  refine (kY hC jC dS oS oT sI lU lR _).mono ?_
  rintro e w2 ⟨rfl, aM⟩; rw [gR.out]; have nR := hT.next aM; clear hT aM; clear c10 c11 c12 c13 c14 c15 c16 c17 c20 c21 c22 c23 c24 c25 c26 c27; go_wp2
  go_ret
  exact ⟨by rw [HL.out, dD.out, gR.out]; rfl, nR.bel⟩
 have gR := aPo ho2
 clear ho2
 have qS := tV.mk0 w #[.int .i64 gU, .int .i64 iO, .int .i64 dN, .int .i64 nY, .string nZ, .int .i64 rE, .int .i64 kX, .int .i64 kU] #[.int .i64 hC, .int .i64 jC, .int .i64 dS, .int .i64 oS, .string oT, .int .i64 sI, .int .i64 lU, .int .i64 lR] 50
 go_enter Tryz.func103, Tryz.ntmps103
 go_wp2_with fail
 refine (kY gU iO dN nY nZ rE kX kU _).mono ?_
 rintro e w1 ⟨rfl, aG⟩
 rw [dD.out]
 have hT := qS.next aG
 clear qS aG
 have c10 := cell_of_row _ _ 0 _ _ _ hT.fst
 have c11 := cell_of_row _ _ 1 _ _ _ hT.fst
 have c12 := cell_of_row _ _ 2 _ _ _ hT.fst
 have c13 := cell_of_row _ _ 3 _ _ _ hT.fst
 have c14 := cell_of_row _ _ 4 _ _ _ hT.fst
 have c15 := cell_of_row _ _ 5 _ _ _ hT.fst
 have c16 := cell_of_row _ _ 6 _ _ _ hT.fst
 have c17 := cell_of_row _ _ 7 _ _ _ hT.fst
 have c20 := cell_of_row _ _ 0 _ _ _ hT.snd
 have c21 := cell_of_row _ _ 1 _ _ _ hT.snd
 have c22 := cell_of_row _ _ 2 _ _ _ hT.snd
 have c23 := cell_of_row _ _ 3 _ _ _ hT.snd
 have c24 := cell_of_row _ _ 4 _ _ _ hT.snd
 have c25 := cell_of_row _ _ 5 _ _ _ hT.snd
 have c26 := cell_of_row _ _ 6 _ _ _ hT.snd
 have c27 := cell_of_row _ _ 7 _ _ _ hT.snd
 simp only [List.getElem?_toArray, List.getElem?_cons_zero, List.getElem?_cons_succ] at c10 c11 c12 c13 c14 c15 c16 c17 c20 c21 c22 c23 c24 c25 c26 c27
 go_wp2_with fail
 refine (kY hC jC dS oS oT sI lU lR _).mono ?_
 rintro e w2 ⟨rfl, aM⟩
 rw [gR.out]
 have nR := hT.next aM
 clear hT aM
 clear c10 c11 c12 c13 c14 c15 c16 c17 c20 c21 c22 c23 c24 c25 c26 c27
 have c10 := cell_of_row _ _ 0 _ _ _ nR.fst
 have c11 := cell_of_row _ _ 1 _ _ _ nR.fst
 have c12 := cell_of_row _ _ 2 _ _ _ nR.fst
 have c13 := cell_of_row _ _ 3 _ _ _ nR.fst
 have c14 := cell_of_row _ _ 4 _ _ _ nR.fst
 have c15 := cell_of_row _ _ 5 _ _ _ nR.fst
 have c16 := cell_of_row _ _ 6 _ _ _ nR.fst
 have c17 := cell_of_row _ _ 7 _ _ _ nR.fst
 have c20 := cell_of_row _ _ 0 _ _ _ nR.snd
 have c21 := cell_of_row _ _ 1 _ _ _ nR.snd
 have c22 := cell_of_row _ _ 2 _ _ _ nR.snd
 have c23 := cell_of_row _ _ 3 _ _ _ nR.snd
 have c24 := cell_of_row _ _ 4 _ _ _ nR.snd
 have c25 := cell_of_row _ _ 5 _ _ _ nR.snd
 have c26 := cell_of_row _ _ 6 _ _ _ nR.snd
 have c27 := cell_of_row _ _ 7 _ _ _ nR.snd
 simp only [List.getElem?_toArray, List.getElem?_cons_zero, List.getElem?_cons_succ] at c10 c11 c12 c13 c14 c15 c16 c17 c20 c21 c22 c23 c24 c25 c26 c27
 clear c13 c14 c15 c16 c17 c23 c24 c25 c26 c27
 have HT := aPo nR
 clear nR
 have HR := aPo (aK6 dN gU iO dS hC jC)
 have uM := bF HT.out.fst
 have aNO := bF HT.out.snd
 go_wp2_with fail
 go_region_held3 (fun w' => w'.cell? ⟨w.heap.size, 2, none⟩ = some (.int .i64 dN) ∧ w'.cell? ⟨w.heap.size + 1, 2, none⟩ = some (.int .i64 dS) ∧ w'.cell? ⟨w.heap.size, 0, none⟩ = some (.int .i64 gU) ∧ w'.cell? ⟨w.heap.size + 1, 0, none⟩ = some (.int .i64 hC) ∧ w'.cell? ⟨w.heap.size, 1, none⟩ = some (.int .i64 iO) ∧ w'.cell? ⟨w.heap.size + 1, 1, none⟩ = some (.int .i64 jC)) (first | exact ⟨c12, c22, c10, c20, c11, c21⟩ | go_keep)
  (first | (go_at_call 129; refine (compare _ _ _).mono ?_; rintro e w' ⟨rfl, rfl⟩) | (go_at_call 128; refine (aMX (wH dN dS) (wH gU hC) (wH iO jC) _ _ ?_ ?_ ?_).mono ?_; (simp); (simp); (simp); rintro e w' ⟨rfl, rfl⟩))
 go_wp2
 go_ret
 exact ⟨by rw [HL.out, dD.out, gR.out, ← HR.out]; rfl, HT.out.bel.trans (((Below.refl _ w2).alloc aPq _).drew.mono HT.out.bel.size)⟩
end Go.Proofs.YthkagbnpcjidfaaGreatDoor
