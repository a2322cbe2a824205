/- Walks and mathematics that several claims share, part 24. -/
import Derived.Test.YthkagbnpcjidfaaGreatDoorGp10
import Derived.Deep.Cut
import Derived.Laws.EntriesVeiled
import Derived.Deep.RegionHeld3
namespace Go.Proofs.YthkagbnpcjidfaaGreatDoor
set_option maxRecDepth 100000
open Go.RowKit
set_option linter.unusedVariables false
set_option linter.unusedSimpArgs false
def P5 (x y : Int) : Int := if x ≠ 0 then x else y
def H8 (d q d' q' : Int) : Int := P5 (qH d d') (qH q q')
def numB (d q d' q' : Int) : Bool := decide (d < d' ∨ (d = d' ∧ q < q'))
theorem aK5 (d q d' q' : Int) : numB d q d' q' = decide (H8 d q d' q' < 0) := by
 unfold numB
 rw [decide_eq_decide]
 unfold H8 P5
 rcases Int.lt_trichotomy d d' with g | g | g
 ·rw [vP g, if_pos (by decide)]; omega
 ·rw [cmp_eq g, if_neg (by decide)]
  rcases Int.lt_trichotomy q q' with k | k | k
  ·rw [vP k]; omega
  ·rw [cmp_eq k]; omega
  ·rw [vQ k]; omega
 ·rw [vQ g, if_pos (by decide)]; omega
set_option maxHeartbeats 5000000 in
theorem aLQ (x y : Int) (b : Nat) (w : World) (h0 : w.cell? ⟨b, 0, none⟩ = some (.int .i64 x)) (h1 : w.cell? ⟨b, 1, none⟩ = some (.int .i64 y)) : Calls Tryz.prog 128 #[.slice (some ⟨b, 0, none⟩) 2 2] w fun e w' => e = .returned (.int .i64 (P5 x y)) ∧ w = w' := by
 by_cases hx : x = 0
 ·have z0 : (x != 0) = false := by rw [hx]; rfl
  have HI : Hid (P5 x y = y) := if_neg (fun h => h hx)
  clear hx
  by_cases hy : y = 0
  ·have z1 : (y != 0) = false := by rw [hy]; rfl
   have HV : Hid (P5 x y = 0) := HI.out.trans hy; clear hy
   go_enter Tryz.func128, Tryz.ntmps128
   go_wp2
   go_loop [8] (fun i => ∃ k : Nat, k ≤ 2 ∧ i = .int .i64 k) (fun i => 2 - (intOf i).toNat)
   case atStart => exact ⟨0, by omega, rfl⟩
   case round =>
    obtain ⟨k, hk, rfl⟩ := hrel; obtain rfl | rfl | rfl : k = 0 ∨ k = 1 ∨ k = 2 := by omega
    ·go_wp2
     go_round
     case rel => exact ⟨1, by omega, by go_num⟩
     case measure => simp [intOf]
    ·go_wp2
     go_round
     case rel => exact ⟨2, by omega, by go_num⟩
     case measure => simp [intOf]
    ·go_wp2
     go_ret
     exact ⟨by rw [HV.out]; rfl, rfl⟩
  ·have z1 : (y != 0) = true := by rw [bne_iff_ne]; exact hy
   have HV : Hid (P5 x y = y) := HI.out; clear hy
   go_enter Tryz.func128, Tryz.ntmps128
   go_wp2
   go_loop [8] (fun i => ∃ k : Nat, k ≤ 1 ∧ i = .int .i64 k) (fun i => 2 - (intOf i).toNat)
   case atStart => exact ⟨0, by omega, rfl⟩
   case round =>
    obtain ⟨k, hk, rfl⟩ := hrel; obtain rfl | rfl : k = 0 ∨ k = 1 := by omega
    ·go_wp2
     go_round
     case rel => exact ⟨1, by omega, by go_num⟩
     case measure => simp [intOf]
    ·go_wp2
     go_ret
     exact ⟨by rw [HV.out]; rfl, rfl⟩
 ·have z0 : (x != 0) = true := by rw [bne_iff_ne]; exact hx
  have HV : Hid (P5 x y = x) := if_pos hx; clear hx
  go_enter Tryz.func128, Tryz.ntmps128
  go_wp2
  go_loop [8] (fun i => ∃ k : Nat, k ≤ 0 ∧ i = .int .i64 k) (fun i => 2 - (intOf i).toNat)
  case atStart => exact ⟨0, by omega, rfl⟩
  case round =>
   obtain ⟨k, hk, rfl⟩ := hrel; obtain rfl : k = 0 := by omega
   go_wp2
   go_ret
   exact ⟨by rw [HV.out]; rfl, rfl⟩
set_option maxHeartbeats 5000000 in
theorem aDi (fC gC cZ kG : Int) (kH : ByteArray) (oD iL iH : Int) (fF gL dC lF : Int) (lG : ByteArray) (oV iZ iY : Int) (w : World) : Calls Tryz.prog 98 #[.agg #[.int .i64 fC, .int .i64 gC, .int .i64 cZ, .int .i64 kG, .string kH, .int .i64 oD, .int .i64 iL, .int .i64 iH], .agg #[.int .i64 fF, .int .i64 gL, .int .i64 dC, .int .i64 lF, .string lG, .int .i64 oV, .int .i64 iZ, .int .i64 iY]] w fun e w' => e = .returned (.int .i64 (H8 fC gC fF gL)) ∧ Below w.heap.size w w' := by
 have hT := qZ.mk0 w #[.int .i64 fC, .int .i64 gC, .int .i64 cZ, .int .i64 kG, .string kH, .int .i64 oD, .int .i64 iL, .int .i64 iH] #[.int .i64 fF, .int .i64 gL, .int .i64 dC, .int .i64 lF, .string lG, .int .i64 oV, .int .i64 iZ, .int .i64 iY] 50
 have HT := aPu hT
 go_enter Tryz.func98, Tryz.ntmps98
 go_wp2_with fail
 generalize (w.alloc (.cells #[.int .i64 fC, .int .i64 gC, .int .i64 cZ, .int .i64 kG, .string kH, .int .i64 oD, .int .i64 iL, .int .i64 iH] 50)).alloc (.cells #[.int .i64 fF, .int .i64 gL, .int .i64 dC, .int .i64 lF, .string lG, .int .i64 oV, .int .i64 iZ, .int .i64 iY] 50) = w2 at hT HT ⊢
 have nH := cell_of_row _ _ 0 _ _ _ hT.fst
 have nG := cell_of_row _ _ 1 _ _ _ hT.fst
 have T7 := cell_of_row _ _ 0 _ _ _ hT.snd
 have T6 := cell_of_row _ _ 1 _ _ _ hT.snd
 simp only [List.getElem?_toArray, List.getElem?_cons_zero, List.getElem?_cons_succ] at nH nG T7 T6
 have tG := bS HT.out.fst
 have aIe := bS HT.out.snd
 clear hT
 go_region_held3 (fun w' => w'.cell? ⟨w.heap.size, 0, none⟩ = some (.int .i64 fC) ∧ w'.cell? ⟨w.heap.size + 1, 0, none⟩ = some (.int .i64 fF) ∧ w'.cell? ⟨w.heap.size, 1, none⟩ = some (.int .i64 gC) ∧ w'.cell? ⟨w.heap.size + 1, 1, none⟩ = some (.int .i64 gL)) (first | exact ⟨nH, T7, nG, T6⟩ | go_keep)
  (first | (go_at_call 129; refine (compare _ _ _).mono ?_; rintro e w' ⟨rfl, rfl⟩) | (go_at_call 128; refine (aLQ (qH fC fF) (qH gC gL) _ _ ?_ ?_).mono ?_; (simp); (simp); rintro e w' ⟨rfl, rfl⟩))
 go_wp2
 go_ret
 exact ⟨rfl, HT.out.bel.trans (((Below.refl _ w2).alloc aPw _).drew.mono HT.out.bel.size)⟩
def aCc (l : List aA) (i : Nat) : Bool := decide (i = 0) || numB (aB l (i - 1)).dev (aB l (i - 1)).seq (aB l i).dev (aB l i).seq
def qF (l : List aA) : Bool := (List.range l.length).all (aCc l)
theorem aKi {l : List aA} (h : ∀ i, i < l.length → aCc l i = true) : qF l = true := by
 unfold qF
 rw [List.all_eq_true]
 intro d hm
 exact h d (by simpa using hm)
theorem aHC (w : World) (a : Option Addr) (n c : Nat) : Calls Tryz.prog 67 #[.slice a n c] w fun e w' => e = .returned (.agg #[.slice a n c, .func (.func 98) #[] #[]]) ∧ Below w.heap.size w w' := by
 go_enter Tryz.func67, Tryz.ntmps67
 go_wp2
 refine bodyPost_ret (v := .agg #[.slice a n c, .func (.func 98) #[] #[]]) (by simp [results, Tryz.results67, go_sem]) rfl ⟨rfl, ?_⟩
 go_grown
end Go.Proofs.YthkagbnpcjidfaaGreatDoor
