/- Walks and mathematics that several claims share, part 24. -/
import Derived.Test.YtejhmakfbmhhhaaGreatGx22
import Derived.Test.YtejhmakfbmhhhaaGreatGx15
import Derived.Deep.Cut
import Derived.Laws.EntriesVeiled
import Derived.Deep.RegionHeld3
import Derived.Test.YtejhmakfbmhhhaaGreatGxA
namespace Go.Proofs.YtejhmakfbmhhhaaGreat
set_option maxRecDepth 100000
open Go.RowKit

/-- The order of operations by device and number, as a number below, at or above 0. -/
def orI2 (x y : Int) : Int := if x ≠ 0 then x else y
def numI (d q d' q' : Int) : Int := orI2 (cmpI d d') (cmpI q q')
def numB (d q d' q' : Int) : Bool := decide (d < d' ∨ (d = d' ∧ q < q'))
theorem num_lt (d q d' q' : Int) : numB d q d' q' = decide (numI d q d' q' < 0) := by
 unfold numB
 rw [decide_eq_decide]
 unfold numI orI2
 rcases Int.lt_trichotomy d d' with g | g | g
 ·rw [cmp_lt g, if_pos (by decide)]; omega
 ·rw [cmp_eq g, if_neg (by decide)]
  rcases Int.lt_trichotomy q q' with k | k | k
  ·rw [cmp_lt k]; omega
  ·rw [cmp_eq k]; omega
  ·rw [cmp_gt k]; omega
 ·rw [cmp_gt g, if_pos (by decide)]; omega

set_option maxHeartbeats 5000000 in
theorem cmpOr2 (x y : Int) (b : Nat) (w : World) (h0 : w.cell? ⟨b, 0, none⟩ = some (.int .i64 x)) (h1 : w.cell? ⟨b, 1, none⟩ = some (.int .i64 y)) : Calls Tryz.prog 109 #[.slice (some ⟨b, 0, none⟩) 2 2] w fun e w' => e = .returned (.int .i64 (orI2 x y)) ∧ w = w' := by
 by_cases hx : x = 0
 ·have z0 : (x != 0) = false := by rw [hx]; rfl
  have HI : Hid (orI2 x y = y) := if_neg (fun h => h hx)
  clear hx
  by_cases hy : y = 0
  ·have z1 : (y != 0) = false := by rw [hy]; rfl
   have HV : Hid (orI2 x y = 0) := HI.out.trans hy
   clear hy
   go_enter Tryz.func109, Tryz.ntmps109
   go_wp2
   go_loop [8] (fun i => ∃ k : Nat, k ≤ 2 ∧ i = .int .i64 k) (fun i => 2 - (intOf i).toNat)
   case atStart => exact ⟨0, by omega, rfl⟩
   case round =>
    obtain ⟨k, hk, rfl⟩ := hrel
    obtain rfl | rfl | rfl : k = 0 ∨ k = 1 ∨ k = 2 := by omega
    ·go_wp2
     go_round
     case rel => exact ⟨1, by omega, by go_num⟩
     case measure => simp [intOf]
    ·go_wp2
     go_round
     case rel => exact ⟨2, by omega, by go_num⟩
     case measure => simp [intOf]
    ·go_wp2
     go_ret
     exact ⟨by rw [HV.out]; rfl, rfl⟩
  ·have z1 : (y != 0) = true := by rw [bne_iff_ne]; exact hy
   have HV : Hid (orI2 x y = y) := HI.out
   clear hy
   go_enter Tryz.func109, Tryz.ntmps109
   go_wp2
   go_loop [8] (fun i => ∃ k : Nat, k ≤ 1 ∧ i = .int .i64 k) (fun i => 2 - (intOf i).toNat)
   case atStart => exact ⟨0, by omega, rfl⟩
   case round =>
    obtain ⟨k, hk, rfl⟩ := hrel
    obtain rfl | rfl : k = 0 ∨ k = 1 := by omega
    ·go_wp2
     go_round
     case rel => exact ⟨1, by omega, by go_num⟩
     case measure => simp [intOf]
    ·go_wp2
     go_ret
     exact ⟨by rw [HV.out]; rfl, rfl⟩
 ·have z0 : (x != 0) = true := by rw [bne_iff_ne]; exact hx
  have HV : Hid (orI2 x y = x) := if_pos hx
  clear hx
  go_enter Tryz.func109, Tryz.ntmps109
  go_wp2
  go_loop [8] (fun i => ∃ k : Nat, k ≤ 0 ∧ i = .int .i64 k) (fun i => 2 - (intOf i).toNat)
  case atStart => exact ⟨0, by omega, rfl⟩
  case round =>
   obtain ⟨k, hk, rfl⟩ := hrel
   obtain rfl : k = 0 := by omega
   go_wp2
   go_ret
   exact ⟨by rw [HV.out]; rfl, rfl⟩
set_option maxHeartbeats 5000000 in
theorem byNumber (dev1 seq1 stamp1 kind1 : Int) (item1 : ByteArray) (qty1 level1 undos1 : Int) (dev2 seq2 stamp2 kind2 : Int) (item2 : ByteArray) (qty2 level2 undos2 : Int) (w : World) : Calls Tryz.prog 85 #[.agg #[.int .i64 dev1, .int .i64 seq1, .int .i64 stamp1, .int .i64 kind1, .string item1, .int .i64 qty1, .int .i64 level1, .int .i64 undos1], .agg #[.int .i64 dev2, .int .i64 seq2, .int .i64 stamp2, .int .i64 kind2, .string item2, .int .i64 qty2, .int .i64 level2, .int .i64 undos2]] w fun e w' => e = .returned (.int .i64 (numI dev1 seq1 dev2 seq2)) ∧ Below w.heap.size w w' := by
 have hT := Two.mk0 w #[.int .i64 dev1, .int .i64 seq1, .int .i64 stamp1, .int .i64 kind1, .string item1, .int .i64 qty1, .int .i64 level1, .int .i64 undos1] #[.int .i64 dev2, .int .i64 seq2, .int .i64 stamp2, .int .i64 kind2, .string item2, .int .i64 qty2, .int .i64 level2, .int .i64 undos2] 39
 have HT := Lib.hid hT
 go_enter Tryz.func85, Tryz.ntmps85
 go_wp2_with fail
 generalize (w.alloc (.cells #[.int .i64 dev1, .int .i64 seq1, .int .i64 stamp1, .int .i64 kind1, .string item1, .int .i64 qty1, .int .i64 level1, .int .i64 undos1] 39)).alloc (.cells #[.int .i64 dev2, .int .i64 seq2, .int .i64 stamp2, .int .i64 kind2, .string item2, .int .i64 qty2, .int .i64 level2, .int .i64 undos2] 39) = w2 at hT HT ⊢
 have c10 := cell_of_row _ _ 0 _ _ _ hT.fst
 have c11 := cell_of_row _ _ 1 _ _ _ hT.fst
 have c20 := cell_of_row _ _ 0 _ _ _ hT.snd
 have c21 := cell_of_row _ _ 1 _ _ _ hT.snd
 simp only [List.getElem?_toArray, List.getElem?_cons_zero, List.getElem?_cons_succ] at c10 c11 c20 c21
 have hlt1 := lt_of_row HT.out.fst
 have hlt2 := lt_of_row HT.out.snd
 clear hT
 go_region_held3 (fun w' => w'.cell? ⟨w.heap.size, 0, none⟩ = some (.int .i64 dev1) ∧ w'.cell? ⟨w.heap.size + 1, 0, none⟩ = some (.int .i64 dev2) ∧ w'.cell? ⟨w.heap.size, 1, none⟩ = some (.int .i64 seq1) ∧ w'.cell? ⟨w.heap.size + 1, 1, none⟩ = some (.int .i64 seq2)) (first | exact ⟨c10, c20, c11, c21⟩ | go_keep)
  (first | (go_at_call 110; refine (compare _ _ _).mono ?_; rintro e w' ⟨rfl, rfl⟩) | (go_at_call 109; refine (cmpOr2 (cmpI dev1 dev2) (cmpI seq1 seq2) _ _ ?_ ?_).mono ?_; (simp); (simp); rintro e w' ⟨rfl, rfl⟩))
 go_wp2
 go_ret
 exact ⟨rfl, HT.out.bel.trans (((Below.refl _ w2).alloc (Nat.le_refl _) _).drew.mono HT.out.bel.size)⟩

def incAt (l : List OpV) (i : Nat) : Bool := decide (i = 0) || numB (atOp l (i - 1)).dev (atOp l (i - 1)).seq (atOp l i).dev (atOp l i).seq
def incB (l : List OpV) : Bool := (List.range l.length).all (incAt l)
theorem inc_yes {l : List OpV} (h : ∀ i, i < l.length → incAt l i = true) : incB l = true := by
 unfold incB
 rw [List.all_eq_true]
 intro d hm
 exact h d (by simpa using hm)
theorem numbered (w : World) (a : Option Addr) (n c : Nat) : Calls Tryz.prog 53 #[.slice a n c] w fun e w' => e = .returned (.agg #[.slice a n c, .func (.func 85) #[] #[]]) ∧ Below w.heap.size w w' := by
 go_enter Tryz.func53, Tryz.ntmps53
 go_wp2
 refine bodyPost_ret (v := .agg #[.slice a n c, .func (.func 85) #[] #[]]) (by simp [results, Tryz.results53, go_sem]) rfl ⟨rfl, ?_⟩
 go_grown
end Go.Proofs.YtejhmakfbmhhhaaGreat
