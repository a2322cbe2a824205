/- Walks and mathematics that several claims share, part 10. -/
import Derived.Test.YthkagbnpcjidfaaGreatDoorGq9
import Derived.Deep.QuietTactic
import Derived.BigQuiet
namespace Go.Proofs.YthkagbnpcjidfaaGreatDoor
set_option maxRecDepth 100000
open Go.RowKit
set_option linter.unusedVariables false
set_option linter.unusedSimpArgs false
def R6 (iB jA dN oS : Int) (oT : ByteArray) (sB kZ kY : Int) (iJ jJ dS pP : Int) (pQ : ByteArray) (tI mC lZ : Int) : Bool := dP iB jA dN oS oT sB kZ kY && (dP iJ jJ dS pP pQ tI mC lZ && preB dN iB jA dS iJ jJ)
structure sW (w w1 : World) (cs ds : Array Value) (T : TypeId) : Prop where
 fst : w1.heap[w.heap.size]? = some (.cells cs T (0, 0))
 snd : w1.heap[w.heap.size + 1]? = some (.cells ds T (0, 0))
 bel : Below w.heap.size w w1
theorem sW.mk0 (w : World) (cs ds : Array Value) (T : TypeId) : sW w ((w.alloc (.cells cs T)).alloc (.cells ds T)) cs ds T :=
 ⟨by show ((w.heap.push _).push _)[_]? = _; rw [Array.getElem?_push_lt (by simp)]; simp, by
  show ((w.heap.push _).push _)[_]? = _
  have e : w.heap.size + 1 = (w.heap.push (.cells cs T)).size := by simp
  rw [e, Array.getElem?_push_size], ((Below.refl _ w).alloc aRr _).alloc (by show _ ≤ (w.heap.push _).size; simp) _⟩
theorem sW.next {w w1 w2 : World} {cs ds : Array Value} {T : TypeId} (h : sW w w1 cs ds T) (hb : Below w1.heap.size w1 w2) : sW w w2 cs ds T :=
 ⟨(hb.block _ (bT h.fst)).trans h.fst, (hb.block _ (bT h.snd)).trans h.snd, h.bel.trans (hb.mono h.bel.size)⟩
set_option maxHeartbeats 5000000 in
theorem aJG (iB jA dN oS : Int) (oT : ByteArray) (sB kZ kY : Int) (iJ jJ dS pP : Int) (pQ : ByteArray) (tI mC lZ : Int) (w : World) : Calls Tryz.prog 156 #[.agg #[.int .i64 iB, .int .i64 jA, .int .i64 dN, .int .i64 oS, .string oT, .int .i64 sB, .int .i64 kZ, .int .i64 kY], .agg #[.int .i64 iJ, .int .i64 jJ, .int .i64 dS, .int .i64 pP, .string pQ, .int .i64 tI, .int .i64 mC, .int .i64 lZ]] w fun e w' => e = .returned (.bool (preB dN iB jA dS iJ jJ)) ∧ Below w.heap.size w w' := by
 have HP : Hid (preB dN iB jA dS iJ jJ = decide (dN < dS ∨ (dN = dS ∧ (iB < iJ ∨ (iB = iJ ∧ jA < jJ))))) := rfl
 by_cases h1 : dN = dS
 ·by_cases h2 : iB = iJ
  ·have HQ : Hid (preB dN iB jA dS iJ jJ = decide (jA < jJ)) := by show preB _ _ _ _ _ _ = _; rw [HP.out, decide_eq_decide]; omega
   have z1 : (dN != dS) = false := by rw [h1]; exact bne_self_eq_false _
   have z2 : (iB != iJ) = false := by rw [h2]; exact bne_self_eq_false _
   clear h1 h2
   go_enter Tryz.func156, Tryz.ntmps156
   go_wp2
   go_ret
   exact ⟨by rw [HQ.out]; rfl, (bl).alloc (by simp) _⟩
  ·have HQ : Hid (preB dN iB jA dS iJ jJ = decide (iB < iJ)) := by show preB _ _ _ _ _ _ = _; rw [HP.out, decide_eq_decide]; omega
   have z1 : (dN != dS) = false := by rw [h1]; exact bne_self_eq_false _
   have z2 : (iB != iJ) = true := by rw [bne_iff_ne]; exact h2
   clear h1 h2
   go_enter Tryz.func156, Tryz.ntmps156
   go_wp2
   go_ret
   exact ⟨by rw [HQ.out]; rfl, (bl).alloc (by simp) _⟩
 ·have HQ : Hid (preB dN iB jA dS iJ jJ = decide (dN < dS)) := by show preB _ _ _ _ _ _ = _; rw [HP.out, decide_eq_decide]; omega
  have z1 : (dN != dS) = true := by rw [bne_iff_ne]; exact h1
  clear h1
  go_enter Tryz.func156, Tryz.ntmps156
  go_wp2
  go_ret
  exact ⟨by rw [HQ.out]; rfl, (bl).alloc (by simp) _⟩
set_option maxHeartbeats 10000000 in
theorem aBU (iB jA dN oS : Int) (oT : ByteArray) (sB kZ kY : Int) (iJ jJ dS pP : Int) (pQ : ByteArray) (tI mC lZ : Int) (w : World) : Calls Tryz.prog 103 #[.agg #[.int .i64 iB, .int .i64 jA, .int .i64 dN, .int .i64 oS, .string oT, .int .i64 sB, .int .i64 kZ, .int .i64 kY], .agg #[.int .i64 iJ, .int .i64 jJ, .int .i64 dS, .int .i64 pP, .string pQ, .int .i64 tI, .int .i64 mC, .int .i64 lZ]] w fun e w' => e = .returned (.bool (R6 iB jA dN oS oT sB kZ kY iJ jJ dS pP pQ tI mC lZ)) ∧ Below w.heap.size w w' := by
 have HL : Hid (R6 iB jA dN oS oT sB kZ kY iJ jJ dS pP pQ tI mC lZ = (dP iB jA dN oS oT sB kZ kY && (dP iJ jJ dS pP pQ tI mC lZ && preB dN iB jA dS iJ jJ))) := rfl
 rcases ho1 : dP iB jA dN oS oT sB kZ kY with _ | _
 ·have cV := aRp ho1
  clear ho1; have pR := sW.mk0 w #[.int .i64 iB, .int .i64 jA, .int .i64 dN, .int .i64 oS, .string oT, .int .i64 sB, .int .i64 kZ, .int .i64 kY] #[.int .i64 iJ, .int .i64 jJ, .int .i64 dS, .int .i64 pP, .string pQ, .int .i64 tI, .int .i64 mC, .int .i64 lZ] 50
  go_enter Tryz.func103, Tryz.ntmps103
  go_wp2_with fail
  refine (lA iB jA dN oS oT sB kZ kY _).mono ?_
  rintro e w1 ⟨rfl, aF⟩; rw [cV.out]; have hT := pR.next aF; clear pR aF; go_wp2
  go_ret
  exact ⟨by rw [HL.out, cV.out]; rfl, hT.bel⟩
 have cV := aRp ho1
 clear ho1
 rcases ho2 : dP iJ jJ dS pP pQ tI mC lZ with _ | _
 ·have fJ := aRp ho2
  clear ho2; have pR := sW.mk0 w #[.int .i64 iB, .int .i64 jA, .int .i64 dN, .int .i64 oS, .string oT, .int .i64 sB, .int .i64 kZ, .int .i64 kY] #[.int .i64 iJ, .int .i64 jJ, .int .i64 dS, .int .i64 pP, .string pQ, .int .i64 tI, .int .i64 mC, .int .i64 lZ] 50
  go_enter Tryz.func103, Tryz.ntmps103
  go_wp2_with fail
  refine (lA iB jA dN oS oT sB kZ kY _).mono ?_
  rintro e w1 ⟨rfl, aF⟩; rw [cV.out]; have hT := pR.next aF; clear pR aF; have pT := cell_of_row _ _ 0 _ _ _ hT.fst; have pS := cell_of_row _ _ 1 _ _ _ hT.fst; have c12 := cell_of_row _ _ 2 _ _ _ hT.fst; have c13 := cell_of_row _ _ 3 _ _ _ hT.fst; have c14 := cell_of_row _ _ 4 _ _ _ hT.fst; have c15 := cell_of_row _ _ 5 _ _ _ hT.fst; have c16 := cell_of_row _ _ 6 _ _ _ hT.fst; have c17 := cell_of_row _ _ 7 _ _ _ hT.fst; have c20 := cell_of_row _ _ 0 _ _ _ hT.snd; have c21 := cell_of_row _ _ 1 _ _ _ hT.snd; have c22 := cell_of_row _ _ 2 _ _ _ hT.snd; have c23 := cell_of_row _ _ 3 _ _ _ hT.snd; have c24 := cell_of_row _ _ 4 _ _ _ hT.snd; have c25 := cell_of_row _ _ 5 _ _ _ hT.snd; have c26 := cell_of_row _ _ 6 _ _ _ hT.snd; have c27 := cell_of_row _ _ 7 _ _ _ hT.snd; simp only [List.getElem?_toArray, List.getElem?_cons_zero, List.getElem?_cons_succ] at pT pS c12 c13 c14 c15 c16 c17 c20 c21 c22 c23 c24 c25 c26 c27
  go_wp2_with fail
  refine (lA iJ jJ dS pP pQ tI mC lZ _).mono ?_
  rintro e w2 ⟨rfl, aI⟩; rw [fJ.out]; have oM := hT.next aI; clear hT aI; clear pT pS c12 c13 c14 c15 c16 c17 c20 c21 c22 c23 c24 c25 c26 c27; go_wp2
  go_ret
  exact ⟨by rw [HL.out, cV.out, fJ.out]; rfl, oM.bel⟩
 have fJ := aRp ho2
 clear ho2
 have pR := sW.mk0 w #[.int .i64 iB, .int .i64 jA, .int .i64 dN, .int .i64 oS, .string oT, .int .i64 sB, .int .i64 kZ, .int .i64 kY] #[.int .i64 iJ, .int .i64 jJ, .int .i64 dS, .int .i64 pP, .string pQ, .int .i64 tI, .int .i64 mC, .int .i64 lZ] 50
 go_enter Tryz.func103, Tryz.ntmps103
 go_wp2_with fail
 refine (lA iB jA dN oS oT sB kZ kY _).mono ?_
 rintro e w1 ⟨rfl, aF⟩
 rw [cV.out]
 have hT := pR.next aF
 clear pR aF
 have pT := cell_of_row _ _ 0 _ _ _ hT.fst
 have pS := cell_of_row _ _ 1 _ _ _ hT.fst
 have c12 := cell_of_row _ _ 2 _ _ _ hT.fst
 have c13 := cell_of_row _ _ 3 _ _ _ hT.fst
 have c14 := cell_of_row _ _ 4 _ _ _ hT.fst
 have c15 := cell_of_row _ _ 5 _ _ _ hT.fst
 have c16 := cell_of_row _ _ 6 _ _ _ hT.fst
 have c17 := cell_of_row _ _ 7 _ _ _ hT.fst
 have c20 := cell_of_row _ _ 0 _ _ _ hT.snd
 have c21 := cell_of_row _ _ 1 _ _ _ hT.snd
 have c22 := cell_of_row _ _ 2 _ _ _ hT.snd
 have c23 := cell_of_row _ _ 3 _ _ _ hT.snd
 have c24 := cell_of_row _ _ 4 _ _ _ hT.snd
 have c25 := cell_of_row _ _ 5 _ _ _ hT.snd
 have c26 := cell_of_row _ _ 6 _ _ _ hT.snd
 have c27 := cell_of_row _ _ 7 _ _ _ hT.snd
 simp only [List.getElem?_toArray, List.getElem?_cons_zero, List.getElem?_cons_succ] at pT pS c12 c13 c14 c15 c16 c17 c20 c21 c22 c23 c24 c25 c26 c27
 go_wp2_with fail
 refine (lA iJ jJ dS pP pQ tI mC lZ _).mono ?_
 rintro e w2 ⟨rfl, aI⟩
 rw [fJ.out]
 have oM := hT.next aI
 clear hT aI
 clear pT pS c12 c13 c14 c15 c16 c17 c20 c21 c22 c23 c24 c25 c26 c27
 have pT := cell_of_row _ _ 0 _ _ _ oM.fst
 have pS := cell_of_row _ _ 1 _ _ _ oM.fst
 have c12 := cell_of_row _ _ 2 _ _ _ oM.fst
 have c13 := cell_of_row _ _ 3 _ _ _ oM.fst
 have c14 := cell_of_row _ _ 4 _ _ _ oM.fst
 have c15 := cell_of_row _ _ 5 _ _ _ oM.fst
 have c16 := cell_of_row _ _ 6 _ _ _ oM.fst
 have c17 := cell_of_row _ _ 7 _ _ _ oM.fst
 have c20 := cell_of_row _ _ 0 _ _ _ oM.snd
 have c21 := cell_of_row _ _ 1 _ _ _ oM.snd
 have c22 := cell_of_row _ _ 2 _ _ _ oM.snd
 have c23 := cell_of_row _ _ 3 _ _ _ oM.snd
 have c24 := cell_of_row _ _ 4 _ _ _ oM.snd
 have c25 := cell_of_row _ _ 5 _ _ _ oM.snd
 have c26 := cell_of_row _ _ 6 _ _ _ oM.snd
 have c27 := cell_of_row _ _ 7 _ _ _ oM.snd
 simp only [List.getElem?_toArray, List.getElem?_cons_zero, List.getElem?_cons_succ] at pT pS c12 c13 c14 c15 c16 c17 c20 c21 c22 c23 c24 c25 c26 c27
 clear c13 c14 c15 c16 c17 c23 c24 c25 c26 c27
 have HT := aRp oM
 clear oM
 have HR := aRp (aM0 dN iB jA dS iJ jJ)
 have vX := bT HT.out.fst
 have aPQ := bT HT.out.snd
 go_wp2_with fail
 go_region_held3 (fun w' => w'.cell? ⟨w.heap.size, 2, none⟩ = some (.int .i64 dN) ∧ w'.cell? ⟨w.heap.size + 1, 2, none⟩ = some (.int .i64 dS) ∧ w'.cell? ⟨w.heap.size, 0, none⟩ = some (.int .i64 iB) ∧ w'.cell? ⟨w.heap.size + 1, 0, none⟩ = some (.int .i64 iJ) ∧ w'.cell? ⟨w.heap.size, 1, none⟩ = some (.int .i64 jA) ∧ w'.cell? ⟨w.heap.size + 1, 1, none⟩ = some (.int .i64 jJ)) (first | exact ⟨c12, c22, pT, c20, pS, c21⟩ | go_keep)
  (first | (go_at_call 129; refine (compare _ _ _).mono ?_; rintro e w' ⟨rfl, rfl⟩) | (go_at_call 128; refine (aO1 (xY dN dS) (xY iB iJ) (xY jA jJ) _ _ ?_ ?_ ?_).mono ?_; (simp); (simp); (simp); rintro e w' ⟨rfl, rfl⟩))
 go_wp2
 go_ret
 exact ⟨by rw [HL.out, cV.out, fJ.out, ← HR.out]; rfl, HT.out.bel.trans (((Below.refl _ w2).alloc aRr _).drew.mono HT.out.bel.size)⟩
end Go.Proofs.YthkagbnpcjidfaaGreatDoor
