/- Walks and mathematics that several claims share, part 9. -/
import Derived.Test.YthkagbnpcjidfaaGreatDoorGp8
import Derived.Deep.QuietTactic
import Derived.BigQuiet
namespace Go.Proofs.YthkagbnpcjidfaaGreatDoor
set_option maxRecDepth 100000
open Go.RowKit
set_option linter.unusedVariables false
set_option linter.unusedSimpArgs false
def K3 (fC gC cZ kG : Int) (kH : ByteArray) (oD iL iH : Int) (fF gL dC lF : Int) (lG : ByteArray) (oV iZ iY : Int) : Bool := dK fC gC cZ kG kH oD iL iH && (dK fF gL dC lF lG oV iZ iY && preB cZ fC gC dC fF gL)
structure qZ (w w1 : World) (cs ds : Array Value) (T : TypeId) : Prop where
 fst : w1.heap[w.heap.size]? = some (.cells cs T (0, 0))
 snd : w1.heap[w.heap.size + 1]? = some (.cells ds T (0, 0))
 bel : Below w.heap.size w w1
theorem qZ.mk0 (w : World) (cs ds : Array Value) (T : TypeId) : qZ w ((w.alloc (.cells cs T)).alloc (.cells ds T)) cs ds T :=
 ⟨by show ((w.heap.push _).push _)[_]? = _; rw [Array.getElem?_push_lt (by simp)]; simp, by
  show ((w.heap.push _).push _)[_]? = _
  have e : w.heap.size + 1 = (w.heap.push (.cells cs T)).size := by simp
  rw [e, Array.getElem?_push_size], ((Below.refl _ w).alloc aPw _).alloc (by show _ ≤ (w.heap.push _).size; simp) _⟩
theorem qZ.next {w w1 w2 : World} {cs ds : Array Value} {T : TypeId} (h : qZ w w1 cs ds T) (hb : Below w1.heap.size w1 w2) : qZ w w2 cs ds T :=
 ⟨(hb.block _ (bS h.fst)).trans h.fst, (hb.block _ (bS h.snd)).trans h.snd, h.bel.trans (hb.mono h.bel.size)⟩
set_option maxHeartbeats 5000000 in
theorem aHW (fC gC cZ kG : Int) (kH : ByteArray) (oD iL iH : Int) (fF gL dC lF : Int) (lG : ByteArray) (oV iZ iY : Int) (w : World) : Calls Tryz.prog 156 #[.agg #[.int .i64 fC, .int .i64 gC, .int .i64 cZ, .int .i64 kG, .string kH, .int .i64 oD, .int .i64 iL, .int .i64 iH], .agg #[.int .i64 fF, .int .i64 gL, .int .i64 dC, .int .i64 lF, .string lG, .int .i64 oV, .int .i64 iZ, .int .i64 iY]] w fun e w' => e = .returned (.bool (preB cZ fC gC dC fF gL)) ∧ Below w.heap.size w w' := by
 have HP : Hid (preB cZ fC gC dC fF gL = decide (cZ < dC ∨ (cZ = dC ∧ (fC < fF ∨ (fC = fF ∧ gC < gL))))) := rfl
 by_cases h1 : cZ = dC
 ·by_cases h2 : fC = fF
  ·have HQ : Hid (preB cZ fC gC dC fF gL = decide (gC < gL)) := by show preB _ _ _ _ _ _ = _; rw [HP.out, decide_eq_decide]; omega
   have z1 : (cZ != dC) = false := by rw [h1]; exact bne_self_eq_false _
   have z2 : (fC != fF) = false := by rw [h2]; exact bne_self_eq_false _
   clear h1 h2
   go_enter Tryz.func156, Tryz.ntmps156
   go_wp2
   go_ret
   exact ⟨by rw [HQ.out]; rfl, (bl).alloc (by simp) _⟩
  ·have HQ : Hid (preB cZ fC gC dC fF gL = decide (fC < fF)) := by show preB _ _ _ _ _ _ = _; rw [HP.out, decide_eq_decide]; omega
   have z1 : (cZ != dC) = false := by rw [h1]; exact bne_self_eq_false _
   have z2 : (fC != fF) = true := by rw [bne_iff_ne]; exact h2
   clear h1 h2
   go_enter Tryz.func156, Tryz.ntmps156
   go_wp2
   go_ret
   exact ⟨by rw [HQ.out]; rfl, (bl).alloc (by simp) _⟩
 ·have HQ : Hid (preB cZ fC gC dC fF gL = decide (cZ < dC)) := by show preB _ _ _ _ _ _ = _; rw [HP.out, decide_eq_decide]; omega
  have z1 : (cZ != dC) = true := by rw [bne_iff_ne]; exact h1
  clear h1
  go_enter Tryz.func156, Tryz.ntmps156
  go_wp2
  go_ret
  exact ⟨by rw [HQ.out]; rfl, (bl).alloc (by simp) _⟩
set_option maxHeartbeats 10000000 in
theorem aAv (fC gC cZ kG : Int) (kH : ByteArray) (oD iL iH : Int) (fF gL dC lF : Int) (lG : ByteArray) (oV iZ iY : Int) (w : World) : Calls Tryz.prog 103 #[.agg #[.int .i64 fC, .int .i64 gC, .int .i64 cZ, .int .i64 kG, .string kH, .int .i64 oD, .int .i64 iL, .int .i64 iH], .agg #[.int .i64 fF, .int .i64 gL, .int .i64 dC, .int .i64 lF, .string lG, .int .i64 oV, .int .i64 iZ, .int .i64 iY]] w fun e w' => e = .returned (.bool (K3 fC gC cZ kG kH oD iL iH fF gL dC lF lG oV iZ iY)) ∧ Below w.heap.size w w' := by
 have HL : Hid (K3 fC gC cZ kG kH oD iL iH fF gL dC lF lG oV iZ iY = (dK fC gC cZ kG kH oD iL iH && (dK fF gL dC lF lG oV iZ iY && preB cZ fC gC dC fF gL))) := rfl
 rcases ho1 : dK fC gC cZ kG kH oD iL iH with _ | _
 ·have cI := aPu ho1
  clear ho1; have qU := qZ.mk0 w #[.int .i64 fC, .int .i64 gC, .int .i64 cZ, .int .i64 kG, .string kH, .int .i64 oD, .int .i64 iL, .int .i64 iH] #[.int .i64 fF, .int .i64 gL, .int .i64 dC, .int .i64 lF, .string lG, .int .i64 oV, .int .i64 iZ, .int .i64 iY] 50
  go_enter Tryz.func103, Tryz.ntmps103
  go_wp2_with fail
  refine (kS fC gC cZ kG kH oD iL iH _).mono ?_
  rintro e w1 ⟨rfl, aE⟩; rw [cI.out]; have hT := qU.next aE; clear qU aE; go_wp2
  go_ret
  exact ⟨by rw [HL.out, cI.out]; rfl, hT.bel⟩
 have cI := aPu ho1
 clear ho1
 rcases ho2 : dK fF gL dC lF lG oV iZ iY with _ | _
 ·have fZ := aPu ho2
  clear ho2; have qU := qZ.mk0 w #[.int .i64 fC, .int .i64 gC, .int .i64 cZ, .int .i64 kG, .string kH, .int .i64 oD, .int .i64 iL, .int .i64 iH] #[.int .i64 fF, .int .i64 gL, .int .i64 dC, .int .i64 lF, .string lG, .int .i64 oV, .int .i64 iZ, .int .i64 iY] 50
  go_enter Tryz.func103, Tryz.ntmps103
  go_wp2_with fail
  refine (kS fC gC cZ kG kH oD iL iH _).mono ?_
  rintro e w1 ⟨rfl, aE⟩; rw [cI.out]; have hT := qU.next aE; clear qU aE; have nH := cell_of_row _ _ 0 _ _ _ hT.fst; have nG := cell_of_row _ _ 1 _ _ _ hT.fst; have c12 := cell_of_row _ _ 2 _ _ _ hT.fst; have c13 := cell_of_row _ _ 3 _ _ _ hT.fst; have c14 := cell_of_row _ _ 4 _ _ _ hT.fst; have c15 := cell_of_row _ _ 5 _ _ _ hT.fst; have c16 := cell_of_row _ _ 6 _ _ _ hT.fst; have c17 := cell_of_row _ _ 7 _ _ _ hT.fst; have T7 := cell_of_row _ _ 0 _ _ _ hT.snd; have T6 := cell_of_row _ _ 1 _ _ _ hT.snd; have c22 := cell_of_row _ _ 2 _ _ _ hT.snd; have c23 := cell_of_row _ _ 3 _ _ _ hT.snd; have c24 := cell_of_row _ _ 4 _ _ _ hT.snd; have c25 := cell_of_row _ _ 5 _ _ _ hT.snd; have c26 := cell_of_row _ _ 6 _ _ _ hT.snd; have c27 := cell_of_row _ _ 7 _ _ _ hT.snd; simp only [List.getElem?_toArray, List.getElem?_cons_zero, List.getElem?_cons_succ] at nH nG c12 c13 c14 c15 c16 c17 T7 T6 c22 c23 c24 c25 c26 c27
  go_wp2_with fail
  refine (kS fF gL dC lF lG oV iZ iY _).mono ?_
  rintro e w2 ⟨rfl, aG⟩; rw [fZ.out]; have nR := hT.next aG; clear hT aG; clear nH nG c12 c13 c14 c15 c16 c17 T7 T6 c22 c23 c24 c25 c26 c27; go_wp2
  go_ret
  exact ⟨by rw [HL.out, cI.out, fZ.out]; rfl, nR.bel⟩
 have fZ := aPu ho2
 clear ho2
 have qU := qZ.mk0 w #[.int .i64 fC, .int .i64 gC, .int .i64 cZ, .int .i64 kG, .string kH, .int .i64 oD, .int .i64 iL, .int .i64 iH] #[.int .i64 fF, .int .i64 gL, .int .i64 dC, .int .i64 lF, .string lG, .int .i64 oV, .int .i64 iZ, .int .i64 iY] 50
 go_enter Tryz.func103, Tryz.ntmps103
 go_wp2_with fail
 refine (kS fC gC cZ kG kH oD iL iH _).mono ?_
 rintro e w1 ⟨rfl, aE⟩
 rw [cI.out]
 have hT := qU.next aE
 clear qU aE
 have nH := cell_of_row _ _ 0 _ _ _ hT.fst
 have nG := cell_of_row _ _ 1 _ _ _ hT.fst
 have c12 := cell_of_row _ _ 2 _ _ _ hT.fst
 have c13 := cell_of_row _ _ 3 _ _ _ hT.fst
 have c14 := cell_of_row _ _ 4 _ _ _ hT.fst
 have c15 := cell_of_row _ _ 5 _ _ _ hT.fst
 have c16 := cell_of_row _ _ 6 _ _ _ hT.fst
 have c17 := cell_of_row _ _ 7 _ _ _ hT.fst
 have T7 := cell_of_row _ _ 0 _ _ _ hT.snd
 have T6 := cell_of_row _ _ 1 _ _ _ hT.snd
 have c22 := cell_of_row _ _ 2 _ _ _ hT.snd
 have c23 := cell_of_row _ _ 3 _ _ _ hT.snd
 have c24 := cell_of_row _ _ 4 _ _ _ hT.snd
 have c25 := cell_of_row _ _ 5 _ _ _ hT.snd
 have c26 := cell_of_row _ _ 6 _ _ _ hT.snd
 have c27 := cell_of_row _ _ 7 _ _ _ hT.snd
 simp only [List.getElem?_toArray, List.getElem?_cons_zero, List.getElem?_cons_succ] at nH nG c12 c13 c14 c15 c16 c17 T7 T6 c22 c23 c24 c25 c26 c27
 go_wp2_with fail
 refine (kS fF gL dC lF lG oV iZ iY _).mono ?_
 rintro e w2 ⟨rfl, aG⟩
 rw [fZ.out]
 have nR := hT.next aG
 clear hT aG
 clear nH nG c12 c13 c14 c15 c16 c17 T7 T6 c22 c23 c24 c25 c26 c27
 have nH := cell_of_row _ _ 0 _ _ _ nR.fst
 have nG := cell_of_row _ _ 1 _ _ _ nR.fst
 have c12 := cell_of_row _ _ 2 _ _ _ nR.fst
 have c13 := cell_of_row _ _ 3 _ _ _ nR.fst
 have c14 := cell_of_row _ _ 4 _ _ _ nR.fst
 have c15 := cell_of_row _ _ 5 _ _ _ nR.fst
 have c16 := cell_of_row _ _ 6 _ _ _ nR.fst
 have c17 := cell_of_row _ _ 7 _ _ _ nR.fst
 have T7 := cell_of_row _ _ 0 _ _ _ nR.snd
 have T6 := cell_of_row _ _ 1 _ _ _ nR.snd
 have c22 := cell_of_row _ _ 2 _ _ _ nR.snd
 have c23 := cell_of_row _ _ 3 _ _ _ nR.snd
 have c24 := cell_of_row _ _ 4 _ _ _ nR.snd
 have c25 := cell_of_row _ _ 5 _ _ _ nR.snd
 have c26 := cell_of_row _ _ 6 _ _ _ nR.snd
 have c27 := cell_of_row _ _ 7 _ _ _ nR.snd
 simp only [List.getElem?_toArray, List.getElem?_cons_zero, List.getElem?_cons_succ] at nH nG c12 c13 c14 c15 c16 c17 T7 T6 c22 c23 c24 c25 c26 c27
 clear c13 c14 c15 c16 c17 c23 c24 c25 c26 c27
 have HT := aPu nR
 clear nR
 have HR := aPu (aKZ cZ fC gC dC fF gL)
 have tG := bS HT.out.fst
 have aIe := bS HT.out.snd
 go_wp2_with fail
 go_region_held3 (fun w' => w'.cell? ⟨w.heap.size, 2, none⟩ = some (.int .i64 cZ) ∧ w'.cell? ⟨w.heap.size + 1, 2, none⟩ = some (.int .i64 dC) ∧ w'.cell? ⟨w.heap.size, 0, none⟩ = some (.int .i64 fC) ∧ w'.cell? ⟨w.heap.size + 1, 0, none⟩ = some (.int .i64 fF) ∧ w'.cell? ⟨w.heap.size, 1, none⟩ = some (.int .i64 gC) ∧ w'.cell? ⟨w.heap.size + 1, 1, none⟩ = some (.int .i64 gL)) (first | exact ⟨c12, c22, nH, T7, nG, T6⟩ | go_keep)
  (first | (go_at_call 129; refine (compare _ _ _).mono ?_; rintro e w' ⟨rfl, rfl⟩) | (go_at_call 128; refine (aNa (qH cZ dC) (qH fC fF) (qH gC gL) _ _ ?_ ?_ ?_).mono ?_; (simp); (simp); (simp); rintro e w' ⟨rfl, rfl⟩))
 go_wp2
 go_ret
 exact ⟨by rw [HL.out, cI.out, fZ.out, ← HR.out]; rfl, HT.out.bel.trans (((Below.refl _ w2).alloc aPw _).drew.mono HT.out.bel.size)⟩
end Go.Proofs.YthkagbnpcjidfaaGreatDoor
