/- More of what several claims share. -/
import Derived.Test.YtmceofdknphgkaaGa18
import Derived.Test.YtmceofdknphgkaaGa16
import Derived.Test.YtmceofdknphgkaaGdp0
import Derived.Test.YtmceofdknphgkaaGa11
import Derived.Test.YtmceofdknphgkaaGdp1
import Derived.Deep.Cut
import Derived.Laws.EntriesVeiled
import Derived.Deep.RegionHeld3
namespace Go.Proofs.Ytmceofdknphgkaa
open Go.RowKit

/-- The order of operations by device and number, as a number below, at or above 0. -/
def orI2 (x y : Int) : Int := if x ≠ 0 then x else y
def numI (d q d' q' : Int) : Int := orI2 (cmpI d d') (cmpI q q')
theorem num_lt (d q d' q' : Int) : numB d q d' q' = decide (numI d q d' q' < 0) := by
  unfold numB
  rw [decide_eq_decide]
  unfold numI orI2
  rcases Int.lt_trichotomy d d' with g | g | g
  · rw [cmp_lt g, if_pos (by decide)]; omega
  · rw [cmp_eq g, if_neg (by decide)]
    rcases Int.lt_trichotomy q q' with k | k | k
    · rw [cmp_lt k]; omega
    · rw [cmp_eq k]; omega
    · rw [cmp_gt k]; omega
  · rw [cmp_gt g, if_pos (by decide)]; omega

set_option maxRecDepth 100000 in
set_option maxHeartbeats 5000000 in
theorem cmpOr2 (x y : Int) (b : Nat) (w : World) (h0 : w.cell? ⟨b, 0, none⟩ = some (.int .i64 x)) (h1 : w.cell? ⟨b, 1, none⟩ = some (.int .i64 y)) : Calls Try.prog 105 #[.slice (some ⟨b, 0, none⟩) 2 2] w fun e w' => e = .returned (.int .i64 (orI2 x y)) ∧ w = w' := by
  by_cases hx : x = 0
  · have z0 : (x != 0) = false := by rw [hx]; rfl
    have HI : Hid (orI2 x y = y) := if_neg (fun h => h hx)
    clear hx
    by_cases hy : y = 0
    · have z1 : (y != 0) = false := by rw [hy]; rfl
      have HV : Hid (orI2 x y = 0) := HI.out.trans hy
      clear hy
      go_enter Try.func105, Try.ntmps105
      go_wp2
      go_loop [8] (fun i => ∃ k : Nat, k ≤ 2 ∧ i = .int .i64 k) (fun i => 2 - (intOf i).toNat)
      case atStart => exact ⟨0, by omega, rfl⟩
      case round =>
        obtain ⟨k, hk, rfl⟩ := hrel
        obtain rfl | rfl | rfl : k = 0 ∨ k = 1 ∨ k = 2 := by omega
        · go_wp2
          go_round
          case rel => exact ⟨1, by omega, by go_num⟩
          case measure => simp [intOf]
        · go_wp2
          go_round
          case rel => exact ⟨2, by omega, by go_num⟩
          case measure => simp [intOf]
        · go_wp2
          go_ret
          exact ⟨by rw [HV.out]; rfl, rfl⟩
    · have z1 : (y != 0) = true := by rw [bne_iff_ne]; exact hy
      have HV : Hid (orI2 x y = y) := HI.out
      clear hy
      go_enter Try.func105, Try.ntmps105
      go_wp2
      go_loop [8] (fun i => ∃ k : Nat, k ≤ 1 ∧ i = .int .i64 k) (fun i => 2 - (intOf i).toNat)
      case atStart => exact ⟨0, by omega, rfl⟩
      case round =>
        obtain ⟨k, hk, rfl⟩ := hrel
        obtain rfl | rfl : k = 0 ∨ k = 1 := by omega
        · go_wp2
          go_round
          case rel => exact ⟨1, by omega, by go_num⟩
          case measure => simp [intOf]
        · go_wp2
          go_ret
          exact ⟨by rw [HV.out]; rfl, rfl⟩
  · have z0 : (x != 0) = true := by rw [bne_iff_ne]; exact hx
    have HV : Hid (orI2 x y = x) := if_pos hx
    clear hx
    go_enter Try.func105, Try.ntmps105
    go_wp2
    go_loop [8] (fun i => ∃ k : Nat, k ≤ 0 ∧ i = .int .i64 k) (fun i => 2 - (intOf i).toNat)
    case atStart => exact ⟨0, by omega, rfl⟩
    case round =>
      obtain ⟨k, hk, rfl⟩ := hrel
      obtain rfl : k = 0 := by omega
      go_wp2
      go_ret
      exact ⟨by rw [HV.out]; rfl, rfl⟩
set_option maxRecDepth 100000 in
set_option maxHeartbeats 5000000 in
theorem byNumber (dev1 seq1 stamp1 kind1 : Int) (item1 : ByteArray) (qty1 level1 undos1 : Int) (dev2 seq2 stamp2 kind2 : Int) (item2 : ByteArray) (qty2 level2 undos2 : Int) (w : World) : Calls Try.prog 146 #[.agg #[.int .i64 dev1, .int .i64 seq1, .int .i64 stamp1, .int .i64 kind1, .string item1, .int .i64 qty1, .int .i64 level1, .int .i64 undos1], .agg #[.int .i64 dev2, .int .i64 seq2, .int .i64 stamp2, .int .i64 kind2, .string item2, .int .i64 qty2, .int .i64 level2, .int .i64 undos2]] w fun e w' => e = .returned (.int .i64 (numI dev1 seq1 dev2 seq2)) ∧ Below w.heap.size w w' := by
  have hT := Two.mk0 w #[.int .i64 dev1, .int .i64 seq1, .int .i64 stamp1, .int .i64 kind1, .string item1, .int .i64 qty1, .int .i64 level1, .int .i64 undos1] #[.int .i64 dev2, .int .i64 seq2, .int .i64 stamp2, .int .i64 kind2, .string item2, .int .i64 qty2, .int .i64 level2, .int .i64 undos2] 34
  have HT := Lib.hid hT
  go_enter Try.func146, Try.ntmps146
  go_wp2_with fail
  generalize (w.alloc (.cells #[.int .i64 dev1, .int .i64 seq1, .int .i64 stamp1, .int .i64 kind1, .string item1, .int .i64 qty1, .int .i64 level1, .int .i64 undos1] 34)).alloc (.cells #[.int .i64 dev2, .int .i64 seq2, .int .i64 stamp2, .int .i64 kind2, .string item2, .int .i64 qty2, .int .i64 level2, .int .i64 undos2] 34) = w2 at hT HT ⊢
  have c10 := cell_of_row _ _ 0 _ _ _ hT.fst
  have c11 := cell_of_row _ _ 1 _ _ _ hT.fst
  have c20 := cell_of_row _ _ 0 _ _ _ hT.snd
  have c21 := cell_of_row _ _ 1 _ _ _ hT.snd
  simp only [List.getElem?_toArray, List.getElem?_cons_zero, List.getElem?_cons_succ] at c10 c11 c20 c21
  have hlt1 := lt_of_row HT.out.fst
  have hlt2 := lt_of_row HT.out.snd
  clear hT
  go_region_held3 (fun w' => w'.cell? ⟨w.heap.size, 0, none⟩ = some (.int .i64 dev1) ∧ w'.cell? ⟨w.heap.size + 1, 0, none⟩ = some (.int .i64 dev2) ∧ w'.cell? ⟨w.heap.size, 1, none⟩ = some (.int .i64 seq1) ∧ w'.cell? ⟨w.heap.size + 1, 1, none⟩ = some (.int .i64 seq2)) (first | exact ⟨c10, c20, c11, c21⟩ | go_keep)
    (first | (go_at_call 106; refine (compare _ _ _).mono ?_; rintro e w' ⟨rfl, rfl⟩) | (go_at_call 105; refine (cmpOr2 (cmpI dev1 dev2) (cmpI seq1 seq2) _ _ ?_ ?_).mono ?_; (simp); (simp); rintro e w' ⟨rfl, rfl⟩))
  go_wp2
  go_ret
  exact ⟨rfl, HT.out.bel.trans (((Below.refl _ w2).alloc (Nat.le_refl _) _).drew.mono HT.out.bel.size)⟩

set_option maxRecDepth 100000 in
theorem numbered (w : World) (a : Option Addr) (n c : Nat) : Calls Try.prog 79 #[.slice a n c] w fun e w' => e = .returned (.agg #[.slice a n c, .func (.func 146) #[] #[]]) ∧ Below w.heap.size w w' := by
  go_enter Try.func79, Try.ntmps79
  go_wp2
  refine bodyPost_ret (v := .agg #[.slice a n c, .func (.func 146) #[] #[]]) (by simp [results, Try.results79, go_sem]) rfl ⟨rfl, ?_⟩
  go_grown
end Go.Proofs.Ytmceofdknphgkaa
