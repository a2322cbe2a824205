/- Walks and mathematics that several claims share, part 7. -/
import Derived.Test.YthkagbnpcjidfaaGreatDoorGy6
import Derived.Deep.QuietTactic
import Derived.BigQuiet
import Derived.Test.YthkagbnpcjidfaaGreatDoorGyA
namespace Go.Proofs.YthkagbnpcjidfaaGreatDoor
set_option maxHeartbeats 10000000
set_option maxRecDepth 100000
open Go.RowKit
set_option linter.unusedVariables false
set_option linter.unusedSimpArgs false

def V8 (jB kJ eD qR : Int) (qS : ByteArray) (uS nI nG : Int) (jH lE eI rU : Int) (rV : ByteArray) (wG oL oI : Int) : Bool := dP jB kJ eD qR qS uS nI nG && (dP jH lE eI rU rV wG oL oI && preB eD jB kJ eI jH lE)
structure xB (w w1 : World) (cs ds : Array Value) (T : TypeId) : Prop where
 fst : w1.heap[w.heap.size]? = some (.cells cs T (0, 0))
 snd : w1.heap[w.heap.size + 1]? = some (.cells ds T (0, 0))
 bel : Below w.heap.size w w1
theorem xB.mk0 (w : World) (cs ds : Array Value) (T : TypeId) : xB w ((w.alloc (.cells cs T)).alloc (.cells ds T)) cs ds T :=
 ⟨by show ((w.heap.push _).push _)[_]? = _; rw [Array.getElem?_push_lt (by simp)]; simp, by
  show ((w.heap.push _).push _)[_]? = _
  have e : w.heap.size + 1 = (w.heap.push (.cells cs T)).size := by simp
  rw [e, Array.getElem?_push_size], ((Below.refl _ w).alloc aRC _).alloc (by show _ ≤ (w.heap.push _).size; simp) _⟩
theorem xB.next {w w1 w2 : World} {cs ds : Array Value} {T : TypeId} (h : xB w w1 cs ds T) (hb : Below w1.heap.size w1 w2) : xB w w2 cs ds T :=
 ⟨(hb.block _ (aB h.fst)).trans h.fst, (hb.block _ (aB h.snd)).trans h.snd, h.bel.trans (hb.mono h.bel.size)⟩

theorem aJy (jB kJ eD qR : Int) (qS : ByteArray) (uS nI nG : Int) (jH lE eI rU : Int) (rV : ByteArray) (wG oL oI : Int) (w : World) : Calls Tryz.prog 156 #[.agg #[.int .i64 jB, .int .i64 kJ, .int .i64 eD, .int .i64 qR, .string qS, .int .i64 uS, .int .i64 nI, .int .i64 nG], .agg #[.int .i64 jH, .int .i64 lE, .int .i64 eI, .int .i64 rU, .string rV, .int .i64 wG, .int .i64 oL, .int .i64 oI]] w fun e w' => e = .returned (.bool (preB eD jB kJ eI jH lE)) ∧ Below w.heap.size w w' := by
 have HP : Hid (preB eD jB kJ eI jH lE = decide (eD < eI ∨ (eD = eI ∧ (jB < jH ∨ (jB = jH ∧ kJ < lE))))) := rfl
 by_cases h1 : eD = eI
 ·by_cases h2 : jB = jH
  ·have HQ : Hid (preB eD jB kJ eI jH lE = decide (kJ < lE)) := by show preB _ _ _ _ _ _ = _; rw [HP.out, decide_eq_decide]; omega
   have z1 : (eD != eI) = false := by rw [h1]; exact bne_self_eq_false _
   have z2 : (jB != jH) = false := by rw [h2]; exact bne_self_eq_false _
   clear h1 h2
   go_enter Tryz.func156, Tryz.ntmps156
   go_wp2
   go_ret
   exact ⟨by rw [HQ.out]; rfl, (bl).alloc (by simp) _⟩
  ·have HQ : Hid (preB eD jB kJ eI jH lE = decide (jB < jH)) := by show preB _ _ _ _ _ _ = _; rw [HP.out, decide_eq_decide]; omega
   have z1 : (eD != eI) = false := by rw [h1]; exact bne_self_eq_false _
   have z2 : (jB != jH) = true := by rw [bne_iff_ne]; exact h2
   clear h1 h2
   go_enter Tryz.func156, Tryz.ntmps156
   go_wp2
   go_ret
   exact ⟨by rw [HQ.out]; rfl, (bl).alloc (by simp) _⟩
 ·have HQ : Hid (preB eD jB kJ eI jH lE = decide (eD < eI)) := by show preB _ _ _ _ _ _ = _; rw [HP.out, decide_eq_decide]; omega
  have z1 : (eD != eI) = true := by rw [bne_iff_ne]; exact h1
  clear h1
  go_enter Tryz.func156, Tryz.ntmps156
  go_wp2
  go_ret
  exact ⟨by rw [HQ.out]; rfl, (bl).alloc (by simp) _⟩
theorem aBH (jB kJ eD qR : Int) (qS : ByteArray) (uS nI nG : Int) (jH lE eI rU : Int) (rV : ByteArray) (wG oL oI : Int) (w : World) : Calls Tryz.prog 103 #[.agg #[.int .i64 jB, .int .i64 kJ, .int .i64 eD, .int .i64 qR, .string qS, .int .i64 uS, .int .i64 nI, .int .i64 nG], .agg #[.int .i64 jH, .int .i64 lE, .int .i64 eI, .int .i64 rU, .string rV, .int .i64 wG, .int .i64 oL, .int .i64 oI]] w fun e w' => e = .returned (.bool (V8 jB kJ eD qR qS uS nI nG jH lE eI rU rV wG oL oI)) ∧ Below w.heap.size w w' := by
 have HL : Hid (V8 jB kJ eD qR qS uS nI nG jH lE eI rU rV wG oL oI = (dP jB kJ eD qR qS uS nI nG && (dP jH lE eI rU rV wG oL oI && preB eD jB kJ eI jH lE))) := rfl
 rcases ho1 : dP jB kJ eD qR qS uS nI nG with _ | _
 ·have dL := aRA ho1
  clear ho1; have uD := xB.mk0 w #[.int .i64 jB, .int .i64 kJ, .int .i64 eD, .int .i64 qR, .string qS, .int .i64 uS, .int .i64 nI, .int .i64 nG] #[.int .i64 jH, .int .i64 lE, .int .i64 eI, .int .i64 rU, .string rV, .int .i64 wG, .int .i64 oL, .int .i64 oI] 50
  go_enter Tryz.func103, Tryz.ntmps103
  go_wp2_with fail
  refine (nJ jB kJ eD qR qS uS nI nG _).mono ?_
  rintro e w1 ⟨rfl, aI⟩; rw [dL.out]; have hT := uD.next aI; clear uD aI; go_wp2
  go_ret
  exact ⟨by rw [HL.out, dL.out]; rfl, hT.bel⟩
 have dL := aRA ho1
 clear ho1
 rcases ho2 : dP jH lE eI rU rV wG oL oI with _ | _
 ·have iZ := aRA ho2
  clear ho2; have uD := xB.mk0 w #[.int .i64 jB, .int .i64 kJ, .int .i64 eD, .int .i64 qR, .string qS, .int .i64 uS, .int .i64 nI, .int .i64 nG] #[.int .i64 jH, .int .i64 lE, .int .i64 eI, .int .i64 rU, .string rV, .int .i64 wG, .int .i64 oL, .int .i64 oI] 50
  go_enter Tryz.func103, Tryz.ntmps103
  go_wp2_with fail
  refine (nJ jB kJ eD qR qS uS nI nG _).mono ?_
  rintro e w1 ⟨rfl, aI⟩; rw [dL.out]; have hT := uD.next aI; clear uD aI; have fQ := cell_of_row _ _ 0 _ _ _ hT.fst; have fP := cell_of_row _ _ 1 _ _ _ hT.fst; have c12 := cell_of_row _ _ 2 _ _ _ hT.fst; have c13 := cell_of_row _ _ 3 _ _ _ hT.fst; have c14 := cell_of_row _ _ 4 _ _ _ hT.fst; have c15 := cell_of_row _ _ 5 _ _ _ hT.fst; have c16 := cell_of_row _ _ 6 _ _ _ hT.fst; have c17 := cell_of_row _ _ 7 _ _ _ hT.fst; have c20 := cell_of_row _ _ 0 _ _ _ hT.snd; have c21 := cell_of_row _ _ 1 _ _ _ hT.snd; have c22 := cell_of_row _ _ 2 _ _ _ hT.snd; have c23 := cell_of_row _ _ 3 _ _ _ hT.snd; have c24 := cell_of_row _ _ 4 _ _ _ hT.snd; have c25 := cell_of_row _ _ 5 _ _ _ hT.snd; have c26 := cell_of_row _ _ 6 _ _ _ hT.snd; have c27 := cell_of_row _ _ 7 _ _ _ hT.snd; simp only [List.getElem?_toArray, List.getElem?_cons_zero, List.getElem?_cons_succ] at fQ fP c12 c13 c14 c15 c16 c17 c20 c21 c22 c23 c24 c25 c26 c27
  go_wp2_with fail
  refine (nJ jH lE eI rU rV wG oL oI _).mono ?_
  rintro e w2 ⟨rfl, aN⟩; rw [iZ.out]; have qK := hT.next aN; clear hT aN; clear fQ fP c12 c13 c14 c15 c16 c17 c20 c21 c22 c23 c24 c25 c26 c27; go_wp2
  go_ret
  exact ⟨by rw [HL.out, dL.out, iZ.out]; rfl, qK.bel⟩
 have iZ := aRA ho2
 clear ho2
 have uD := xB.mk0 w #[.int .i64 jB, .int .i64 kJ, .int .i64 eD, .int .i64 qR, .string qS, .int .i64 uS, .int .i64 nI, .int .i64 nG] #[.int .i64 jH, .int .i64 lE, .int .i64 eI, .int .i64 rU, .string rV, .int .i64 wG, .int .i64 oL, .int .i64 oI] 50
 go_enter Tryz.func103, Tryz.ntmps103
 go_wp2_with fail
 refine (nJ jB kJ eD qR qS uS nI nG _).mono ?_
 rintro e w1 ⟨rfl, aI⟩
 rw [dL.out]
 have hT := uD.next aI
 clear uD aI
 have fQ := cell_of_row _ _ 0 _ _ _ hT.fst
 have fP := cell_of_row _ _ 1 _ _ _ hT.fst
 have c12 := cell_of_row _ _ 2 _ _ _ hT.fst
 have c13 := cell_of_row _ _ 3 _ _ _ hT.fst
 have c14 := cell_of_row _ _ 4 _ _ _ hT.fst
 have c15 := cell_of_row _ _ 5 _ _ _ hT.fst
 have c16 := cell_of_row _ _ 6 _ _ _ hT.fst
 have c17 := cell_of_row _ _ 7 _ _ _ hT.fst
 have c20 := cell_of_row _ _ 0 _ _ _ hT.snd
 have c21 := cell_of_row _ _ 1 _ _ _ hT.snd
 have c22 := cell_of_row _ _ 2 _ _ _ hT.snd
 have c23 := cell_of_row _ _ 3 _ _ _ hT.snd
 have c24 := cell_of_row _ _ 4 _ _ _ hT.snd
 have c25 := cell_of_row _ _ 5 _ _ _ hT.snd
 have c26 := cell_of_row _ _ 6 _ _ _ hT.snd
 have c27 := cell_of_row _ _ 7 _ _ _ hT.snd
 simp only [List.getElem?_toArray, List.getElem?_cons_zero, List.getElem?_cons_succ] at fQ fP c12 c13 c14 c15 c16 c17 c20 c21 c22 c23 c24 c25 c26 c27
 go_wp2_with fail
 refine (nJ jH lE eI rU rV wG oL oI _).mono ?_
 rintro e w2 ⟨rfl, aN⟩
 rw [iZ.out]
 have qK := hT.next aN
 clear hT aN
 clear fQ fP c12 c13 c14 c15 c16 c17 c20 c21 c22 c23 c24 c25 c26 c27
 have fQ := cell_of_row _ _ 0 _ _ _ qK.fst
 have fP := cell_of_row _ _ 1 _ _ _ qK.fst
 have c12 := cell_of_row _ _ 2 _ _ _ qK.fst
 have c13 := cell_of_row _ _ 3 _ _ _ qK.fst
 have c14 := cell_of_row _ _ 4 _ _ _ qK.fst
 have c15 := cell_of_row _ _ 5 _ _ _ qK.fst
 have c16 := cell_of_row _ _ 6 _ _ _ qK.fst
 have c17 := cell_of_row _ _ 7 _ _ _ qK.fst
 have c20 := cell_of_row _ _ 0 _ _ _ qK.snd
 have c21 := cell_of_row _ _ 1 _ _ _ qK.snd
 have c22 := cell_of_row _ _ 2 _ _ _ qK.snd
 have c23 := cell_of_row _ _ 3 _ _ _ qK.snd
 have c24 := cell_of_row _ _ 4 _ _ _ qK.snd
 have c25 := cell_of_row _ _ 5 _ _ _ qK.snd
 have c26 := cell_of_row _ _ 6 _ _ _ qK.snd
 have c27 := cell_of_row _ _ 7 _ _ _ qK.snd
 simp only [List.getElem?_toArray, List.getElem?_cons_zero, List.getElem?_cons_succ] at fQ fP c12 c13 c14 c15 c16 c17 c20 c21 c22 c23 c24 c25 c26 c27
 clear c13 c14 c15 c16 c17 c23 c24 c25 c26 c27
 have HT := aRA qK
 clear qK
 have HR := aRA (aMQ eD jB kJ eI jH lE)
 have yV := aB HT.out.fst
 have aPR := aB HT.out.snd
 go_wp2_with fail
 go_region_held3 (fun w' => w'.cell? ⟨w.heap.size, 2, none⟩ = some (.int .i64 eD) ∧ w'.cell? ⟨w.heap.size + 1, 2, none⟩ = some (.int .i64 eI) ∧ w'.cell? ⟨w.heap.size, 0, none⟩ = some (.int .i64 jB) ∧ w'.cell? ⟨w.heap.size + 1, 0, none⟩ = some (.int .i64 jH) ∧ w'.cell? ⟨w.heap.size, 1, none⟩ = some (.int .i64 kJ) ∧ w'.cell? ⟨w.heap.size + 1, 1, none⟩ = some (.int .i64 lE)) (first | exact ⟨c12, c22, fQ, c20, fP, c21⟩ | go_keep)
  (first | (go_at_call 129; refine (compare _ _ _).mono ?_; rintro e w' ⟨rfl, rfl⟩) | (go_at_call 128; refine (aOV (C4 eD eI) (C4 jB jH) (C4 kJ lE) _ _ ?_ ?_ ?_).mono ?_; (simp); (simp); (simp); rintro e w' ⟨rfl, rfl⟩))
 go_wp2
 go_ret
 exact ⟨by rw [HL.out, dL.out, iZ.out, ← HR.out]; rfl, HT.out.bel.trans (((Below.refl _ w2).alloc aRC _).drew.mono HT.out.bel.size)⟩
end Go.Proofs.YthkagbnpcjidfaaGreatDoor
