/- Walks and mathematics that several claims share, part 18. -/
import Derived.Test.YtdbdmfaphdjdpaaGu16
import Derived.Test.YtdbdmfaphdjdpaaGu11
import Derived.Deep.Cut
import Derived.Laws.EntriesVeiled
import Derived.Deep.RegionHeld3
namespace Go.Proofs.Ytdbdmfaphdjdpaa
open Go.RowKit

/-- The order of operations by device and number, as a number below, at or above 0. -/
def orI2 (x y : Int) : Int := if x ≠ 0 then x else y
def numI (d q d' q' : Int) : Int := orI2 (cmpI d d') (cmpI q q')
def numB (d q d' q' : Int) : Bool := decide (d < d' ∨ (d = d' ∧ q < q'))
theorem num_lt (d q d' q' : Int) : numB d q d' q' = decide (numI d q d' q' < 0) := by
 unfold numB
 rw [decide_eq_decide]
 unfold numI orI2
 rcases Int.lt_trichotomy d d' with g | g | g
 ·rw [cmp_lt g, if_pos (by decide)]; omega
 ·rw [cmp_eq g, if_neg (by decide)]
  rcases Int.lt_trichotomy q q' with k | k | k
  ·rw [cmp_lt k]; omega
  ·rw [cmp_eq k]; omega
  ·rw [cmp_gt k]; omega
 ·rw [cmp_gt g, if_pos (by decide)]; omega

set_option maxRecDepth 100000 in
set_option maxHeartbeats 5000000 in
theorem cmpOr2 (x y : Int) (b : Nat) (w : World) (h0 : w.cell? ⟨b, 0, none⟩ = some (.int .i64 x)) (h1 : w.cell? ⟨b, 1, none⟩ = some (.int .i64 y)) : Calls Try.prog 141 #[.slice (some ⟨b, 0, none⟩) 2 2] w fun e w' => e = .returned (.int .i64 (orI2 x y)) ∧ w = w' := by
 by_cases hx : x = 0
 ·have z0 : (x != 0) = false := by rw [hx]; rfl
  have HI : Hid (orI2 x y = y) := if_neg (fun h => h hx)
  clear hx
  by_cases hy : y = 0
  ·have z1 : (y != 0) = false := by rw [hy]; rfl
   have HV : Hid (orI2 x y = 0) := HI.out.trans hy
   clear hy
   go_enter Try.func141, Try.ntmps141
   go_wp2
   go_loop [8] (fun i => ∃ k : Nat, k ≤ 2 ∧ i = .int .i64 k) (fun i => 2 - (intOf i).toNat)
   case atStart => exact ⟨0, by omega, rfl⟩
   case round =>
    obtain ⟨k, hk, rfl⟩ := hrel
    obtain rfl | rfl | rfl : k = 0 ∨ k = 1 ∨ k = 2 := by omega
    ·go_wp2
     go_round
     case rel => exact ⟨1, by omega, by go_num⟩
     case measure => simp [intOf]
    ·go_wp2
     go_round
     case rel => exact ⟨2, by omega, by go_num⟩
     case measure => simp [intOf]
    ·go_wp2
     go_ret
     exact ⟨by rw [HV.out]; rfl, rfl⟩
  ·have z1 : (y != 0) = true := by rw [bne_iff_ne]; exact hy
   have HV : Hid (orI2 x y = y) := HI.out
   clear hy
   go_enter Try.func141, Try.ntmps141
   go_wp2
   go_loop [8] (fun i => ∃ k : Nat, k ≤ 1 ∧ i = .int .i64 k) (fun i => 2 - (intOf i).toNat)
   case atStart => exact ⟨0, by omega, rfl⟩
   case round =>
    obtain ⟨k, hk, rfl⟩ := hrel
    obtain rfl | rfl : k = 0 ∨ k = 1 := by omega
    ·go_wp2
     go_round
     case rel => exact ⟨1, by omega, by go_num⟩
     case measure => simp [intOf]
    ·go_wp2
     go_ret
     exact ⟨by rw [HV.out]; rfl, rfl⟩
 ·have z0 : (x != 0) = true := by rw [bne_iff_ne]; exact hx
  have HV : Hid (orI2 x y = x) := if_pos hx
  clear hx
  go_enter Try.func141, Try.ntmps141
  go_wp2
  go_loop [8] (fun i => ∃ k : Nat, k ≤ 0 ∧ i = .int .i64 k) (fun i => 2 - (intOf i).toNat)
  case atStart => exact ⟨0, by omega, rfl⟩
  case round =>
   obtain ⟨k, hk, rfl⟩ := hrel
   obtain rfl : k = 0 := by omega
   go_wp2
   go_ret
   exact ⟨by rw [HV.out]; rfl, rfl⟩
set_option maxRecDepth 100000 in
set_option maxHeartbeats 5000000 in
theorem byNumber (dev1 seq1 stamp1 kind1 : Int) (item1 : ByteArray) (qty1 level1 undos1 : Int) (dev2 seq2 stamp2 kind2 : Int) (item2 : ByteArray) (qty2 level2 undos2 : Int) (w : World) : Calls Try.prog 105 #[.agg #[.int .i64 dev1, .int .i64 seq1, .int .i64 stamp1, .int .i64 kind1, .string item1, .int .i64 qty1, .int .i64 level1, .int .i64 undos1], .agg #[.int .i64 dev2, .int .i64 seq2, .int .i64 stamp2, .int .i64 kind2, .string item2, .int .i64 qty2, .int .i64 level2, .int .i64 undos2]] w fun e w' => e = .returned (.int .i64 (numI dev1 seq1 dev2 seq2)) ∧ Below w.heap.size w w' := by
 have hT := Two.mk0 w #[.int .i64 dev1, .int .i64 seq1, .int .i64 stamp1, .int .i64 kind1, .string item1, .int .i64 qty1, .int .i64 level1, .int .i64 undos1] #[.int .i64 dev2, .int .i64 seq2, .int .i64 stamp2, .int .i64 kind2, .string item2, .int .i64 qty2, .int .i64 level2, .int .i64 undos2] 77
 have HT := Lib.hid hT
 go_enter Try.func105, Try.ntmps105
 go_wp2_with fail
 generalize (w.alloc (.cells #[.int .i64 dev1, .int .i64 seq1, .int .i64 stamp1, .int .i64 kind1, .string item1, .int .i64 qty1, .int .i64 level1, .int .i64 undos1] 77)).alloc (.cells #[.int .i64 dev2, .int .i64 seq2, .int .i64 stamp2, .int .i64 kind2, .string item2, .int .i64 qty2, .int .i64 level2, .int .i64 undos2] 77) = w2 at hT HT ⊢
 have c10 := cell_of_row _ _ 0 _ _ _ hT.fst
 have c11 := cell_of_row _ _ 1 _ _ _ hT.fst
 have c20 := cell_of_row _ _ 0 _ _ _ hT.snd
 have c21 := cell_of_row _ _ 1 _ _ _ hT.snd
 simp only [List.getElem?_toArray, List.getElem?_cons_zero, List.getElem?_cons_succ] at c10 c11 c20 c21
 have hlt1 := lt_of_row HT.out.fst
 have hlt2 := lt_of_row HT.out.snd
 clear hT
 go_region_held3 (fun w' => w'.cell? ⟨w.heap.size, 0, none⟩ = some (.int .i64 dev1) ∧ w'.cell? ⟨w.heap.size + 1, 0, none⟩ = some (.int .i64 dev2) ∧ w'.cell? ⟨w.heap.size, 1, none⟩ = some (.int .i64 seq1) ∧ w'.cell? ⟨w.heap.size + 1, 1, none⟩ = some (.int .i64 seq2)) (first | exact ⟨c10, c20, c11, c21⟩ | go_keep)
  (first | (go_at_call 142; refine (compare _ _ _).mono ?_; rintro e w' ⟨rfl, rfl⟩) | (go_at_call 141; refine (cmpOr2 (cmpI dev1 dev2) (cmpI seq1 seq2) _ _ ?_ ?_).mono ?_; (simp); (simp); rintro e w' ⟨rfl, rfl⟩))
 go_wp2
 go_ret
 exact ⟨rfl, HT.out.bel.trans (((Below.refl _ w2).alloc (Nat.le_refl _) _).drew.mono HT.out.bel.size)⟩

def incAt (l : List OpV) (i : Nat) : Bool := decide (i = 0) || numB (atOp l (i - 1)).dev (atOp l (i - 1)).seq (atOp l i).dev (atOp l i).seq
def incB (l : List OpV) : Bool := (List.range l.length).all (incAt l)
theorem inc_first (l : List OpV) : ∀ i, i < 0 + 1 → incAt l i = true := fun i hi => by
 obtain rfl : i = 0 := by omega
 rfl
theorem inc_no {l : List OpV} {i : Nat} (hi : i < l.length) (h : incAt l i = false) : incB l = false := by
 unfold incB
 rw [List.all_eq_false]
 exact ⟨i, by simpa using hi, by simp [h]⟩
theorem inc_yes {l : List OpV} (h : ∀ i, i < l.length → incAt l i = true) : incB l = true := by
 unfold incB
 rw [List.all_eq_true]
 intro d hm
 exact h d (by simpa using hm)
theorem allp_step {p : Nat → Bool} {k : Nat} (h : ∀ i, i < k → p i = true) (hk : p k = true) : ∀ i, i < k + 1 → p i = true := fun i hi => by
 rcases Nat.lt_or_ge i k with h1 | h1
 ·exact h i h1
 ·obtain rfl : i = k := by omega
  exact hk
theorem num_no {d q d' q' : Int} (h : 0 ≤ numI d q d' q') : numB d q d' q' = false := by rw [num_lt]; exact decide_eq_false (by omega)
theorem num_yes {d q d' q' : Int} (h : numI d q d' q' < 0) : numB d q d' q' = true := by rw [num_lt]; exact decide_eq_true h
set_option maxRecDepth 100000 in
theorem numbered (w : World) (a : Option Addr) (n c : Nat) : Calls Try.prog 49 #[.slice a n c] w fun e w' => e = .returned (.agg #[.slice a n c, .func (.func 105) #[] #[]]) ∧ Below w.heap.size w w' := by
 go_enter Try.func49, Try.ntmps49
 go_wp2
 refine bodyPost_ret (v := .agg #[.slice a n c, .func (.func 105) #[] #[]]) (by simp [results, Try.results49, go_sem]) rfl ⟨rfl, ?_⟩
 go_grown
set_option maxRecDepth 100000 in
set_option maxHeartbeats 10000000 in
theorem increases (w : World) (B : Nat) (a : Option Addr) (n c : Nat) (l : List OpV) (h : Ops w B a n l) (hB : B ≤ w.heap.size) (hn : n ≤ 1048576) : Calls Try.prog 77 #[.agg #[.slice a n c, .func (.func 105) #[] #[]]] w fun e w' => e = .returned (.bool (incB l)) ∧ Below w.heap.size w w' := by
 have hb0 : Below w.heap.size w (w.alloc (.cells #[.slice a n c, .func (.func 105) #[] #[]] 72)) := (Below.refl _ w).alloc (Nat.le_refl _) _
 have HO := Lib.hid (h.below hb0 hB)
 have HB := Lib.hid hb0
 have HX := Lib.hid (boxAt (Below.refl _ (w.alloc (.cells #[.slice a n c, .func (.func 105) #[] #[]] 72))))
 have HL := Lib.hid h.1
 have hsz : w.heap.size < (w.alloc (.cells #[.slice a n c, .func (.func 105) #[] #[]] 72)).heap.size := by show _ < (w.heap.push _).size; simp
 clear h hb0
 go_enter Try.func77, Try.ntmps77
 go_wp2_with fail
 generalize w.alloc (.cells #[.slice a n c, .func (.func 105) #[] #[]] 72) = w0 at HO HB HX hsz ⊢
 go_loopw [3] (fun i wr => ∃ m : Nat, (m ≤ n ∨ m = 1) ∧ 1 ≤ m ∧ i = .int .i64 (m : Int) ∧ Hid (∀ i, i < m → incAt l i = true) ∧ Hid (Below w0.heap.size w0 wr)) (fun i _ => n + 1 - (intOf i).toNat)
 case atStart => exact ⟨1, .inr rfl, Nat.le_refl _, rfl, inc_first l, Below.refl _ _⟩
 case round =>
  obtain ⟨m, hk, h1, rfl, HR, HBr⟩ := hrel
  obtain ⟨c0, c1⟩ := pair_cells ((HBr.out.block _ (by omega)).trans HX.out)
  by_cases hlt : m < n
  rotate_left
  ·have HF := Lib.hid (inc_yes (l := l) (fun i hi => HR.out i (by have := HL.out; omega)))
   have hge : ¬ ((m : Int) < (n : Int)) := by omega
   go_wp2
   go_ret
   exact ⟨by rw [HF.out]; rfl, HB.out.trans (HBr.out.mono HB.out.size)⟩
  obtain ⟨k, hkm⟩ : ∃ k, m = k + 1 := ⟨m - 1, by omega⟩
  obtain ⟨b, off, hao, hb, ho⟩ := HO.out.2 m hlt
  have HAo := Lib.hid hao
  subst hao
  obtain ⟨b', off', hao', hb', ho'⟩ := HO.out.2 k (by omega)
  have e := HAo.out.symm.trans hao'
  injection e with e
  injection e with e1 e2
  subst e1 e2
  clear hao' hb'
  have HOk : Hid (OpAt w0 b (off + m * 8) (atOp l m)) := ho
  have HOj : Hid (OpAt w0 b (off + k * 8) (atOp l k)) := ho'
  clear ho ho'
  have HIk : Hid (incAt l m = numB (atOp l k).dev (atOp l k).seq (atOp l m).dev (atOp l m).seq) := by subst hkm; rfl
  have HN := Lib.hid (fun h => inc_no (l := l) (i := m) (by have := HL.out; omega) h)
  generalize atOp l m = x at HOk HIk
  generalize atOp l k = z at HOj HIk
  obtain ⟨d0, d1, d2, d3, d4, d5, d6, d7⟩ := HOk.out.kept (HBr.out.block b (by omega))
  obtain ⟨e0, e1, e2, e3, e4, e5, e6, e7⟩ := HOj.out.kept (HBr.out.block b (by omega))
  have im : IntKind.i64.wrap ((m : Int) - 1) = (k : Int) := (IntWalk.i64_in _ (by omega)).trans (by omega)
  have i1 : (k : Int) < (n : Int) := by omega
  have i2 : (m : Int) < (n : Int) := by omega
  clear hkm
  have hS : wr.drew.cell? ⟨b, off + m * 8, none⟩ = some (.int .i64 x.dev) ∧ wr.drew.cell? ⟨b, off + m * 8 + 1, none⟩ = some (.int .i64 x.seq) ∧ wr.drew.cell? ⟨b, off + m * 8 + 2, none⟩ = some (.int .i64 x.stamp) ∧ wr.drew.cell? ⟨b, off + m * 8 + 3, none⟩ = some (.int .i64 x.kind) ∧ wr.drew.cell? ⟨b, off + m * 8 + 4, none⟩ = some (.string x.item) ∧ wr.drew.cell? ⟨b, off + m * 8 + 5, none⟩ = some (.int .i64 x.qty) ∧ wr.drew.cell? ⟨b, off + m * 8 + 6, none⟩ = some (.int .i64 x.level) ∧ wr.drew.cell? ⟨b, off + m * 8 + 7, none⟩ = some (.int .i64 x.undos) ∧ wr.drew.cell? ⟨b, off + k * 8, none⟩ = some (.int .i64 z.dev) ∧ wr.drew.cell? ⟨b, off + k * 8 + 1, none⟩ = some (.int .i64 z.seq) ∧ wr.drew.cell? ⟨b, off + k * 8 + 2, none⟩ = some (.int .i64 z.stamp) ∧ wr.drew.cell? ⟨b, off + k * 8 + 3, none⟩ = some (.int .i64 z.kind) ∧ wr.drew.cell? ⟨b, off + k * 8 + 4, none⟩ = some (.string z.item) ∧ wr.drew.cell? ⟨b, off + k * 8 + 5, none⟩ = some (.int .i64 z.qty) ∧ wr.drew.cell? ⟨b, off + k * 8 + 6, none⟩ = some (.int .i64 z.level) ∧ wr.drew.cell? ⟨b, off + k * 8 + 7, none⟩ = some (.int .i64 z.undos) ∧ wr.drew.cell? ⟨w.heap.size, 0, none⟩ = some (.slice (some ⟨b, off, none⟩) n c) ∧ wr.drew.cell? ⟨w.heap.size, 1, none⟩ = some (.func (.func 105) #[] #[]) := ⟨d0, d1, d2, d3, d4, d5, d6, d7, e0, e1, e2, e3, e4, e5, e6, e7, c0, c1⟩
  have hblt := block_lt_of_cell d0
  have hbx := block_lt_of_cell c0
  go_wp2_with fail
  go_region_held3 (fun w' => w'.cell? ⟨b, off + m * 8, none⟩ = some (.int .i64 x.dev) ∧ w'.cell? ⟨b, off + m * 8 + 1, none⟩ = some (.int .i64 x.seq) ∧ w'.cell? ⟨b, off + m * 8 + 2, none⟩ = some (.int .i64 x.stamp) ∧ w'.cell? ⟨b, off + m * 8 + 3, none⟩ = some (.int .i64 x.kind) ∧ w'.cell? ⟨b, off + m * 8 + 4, none⟩ = some (.string x.item) ∧ w'.cell? ⟨b, off + m * 8 + 5, none⟩ = some (.int .i64 x.qty) ∧ w'.cell? ⟨b, off + m * 8 + 6, none⟩ = some (.int .i64 x.level) ∧ w'.cell? ⟨b, off + m * 8 + 7, none⟩ = some (.int .i64 x.undos) ∧ w'.cell? ⟨b, off + k * 8, none⟩ = some (.int .i64 z.dev) ∧ w'.cell? ⟨b, off + k * 8 + 1, none⟩ = some (.int .i64 z.seq) ∧ w'.cell? ⟨b, off + k * 8 + 2, none⟩ = some (.int .i64 z.stamp) ∧ w'.cell? ⟨b, off + k * 8 + 3, none⟩ = some (.int .i64 z.kind) ∧ w'.cell? ⟨b, off + k * 8 + 4, none⟩ = some (.string z.item) ∧ w'.cell? ⟨b, off + k * 8 + 5, none⟩ = some (.int .i64 z.qty) ∧ w'.cell? ⟨b, off + k * 8 + 6, none⟩ = some (.int .i64 z.level) ∧ w'.cell? ⟨b, off + k * 8 + 7, none⟩ = some (.int .i64 z.undos) ∧ w'.cell? ⟨w.heap.size, 0, none⟩ = some (.slice (some ⟨b, off, none⟩) n c) ∧ w'.cell? ⟨w.heap.size, 1, none⟩ = some (.func (.func 105) #[] #[])) (first | with_reducible exact hS | with_reducible exact hS2)
   (first | (go_at_call 105; refine (byNumber z.dev z.seq z.stamp z.kind z.item z.qty z.level z.undos x.dev x.seq x.stamp x.kind x.item x.qty x.level x.undos _).mono ?_; rintro e w2 ⟨rfl, hb2⟩; have ⟨q0, q1, q2, q3, q4, q5, q6, q7, q8, q9, q10, q11, q12, q13, q14, q15, q16, q17⟩ := hS; have hS2 : w2.cell? ⟨b, off + m * 8, none⟩ = some (.int .i64 x.dev) ∧ w2.cell? ⟨b, off + m * 8 + 1, none⟩ = some (.int .i64 x.seq) ∧ w2.cell? ⟨b, off + m * 8 + 2, none⟩ = some (.int .i64 x.stamp) ∧ w2.cell? ⟨b, off + m * 8 + 3, none⟩ = some (.int .i64 x.kind) ∧ w2.cell? ⟨b, off + m * 8 + 4, none⟩ = some (.string x.item) ∧ w2.cell? ⟨b, off + m * 8 + 5, none⟩ = some (.int .i64 x.qty) ∧ w2.cell? ⟨b, off + m * 8 + 6, none⟩ = some (.int .i64 x.level) ∧ w2.cell? ⟨b, off + m * 8 + 7, none⟩ = some (.int .i64 x.undos) ∧ w2.cell? ⟨b, off + k * 8, none⟩ = some (.int .i64 z.dev) ∧ w2.cell? ⟨b, off + k * 8 + 1, none⟩ = some (.int .i64 z.seq) ∧ w2.cell? ⟨b, off + k * 8 + 2, none⟩ = some (.int .i64 z.stamp) ∧ w2.cell? ⟨b, off + k * 8 + 3, none⟩ = some (.int .i64 z.kind) ∧ w2.cell? ⟨b, off + k * 8 + 4, none⟩ = some (.string z.item) ∧ w2.cell? ⟨b, off + k * 8 + 5, none⟩ = some (.int .i64 z.qty) ∧ w2.cell? ⟨b, off + k * 8 + 6, none⟩ = some (.int .i64 z.level) ∧ w2.cell? ⟨b, off + k * 8 + 7, none⟩ = some (.int .i64 z.undos) ∧ w2.cell? ⟨w.heap.size, 0, none⟩ = some (.slice (some ⟨b, off, none⟩) n c) ∧ w2.cell? ⟨w.heap.size, 1, none⟩ = some (.func (.func 105) #[] #[]) := ⟨(hb2.cell (block_lt_of_cell q0)).trans q0, (hb2.cell (block_lt_of_cell q1)).trans q1, (hb2.cell (block_lt_of_cell q2)).trans q2, (hb2.cell (block_lt_of_cell q3)).trans q3, (hb2.cell (block_lt_of_cell q4)).trans q4, (hb2.cell (block_lt_of_cell q5)).trans q5, (hb2.cell (block_lt_of_cell q6)).trans q6, (hb2.cell (block_lt_of_cell q7)).trans q7, (hb2.cell (block_lt_of_cell q8)).trans q8, (hb2.cell (block_lt_of_cell q9)).trans q9, (hb2.cell (block_lt_of_cell q10)).trans q10, (hb2.cell (block_lt_of_cell q11)).trans q11, (hb2.cell (block_lt_of_cell q12)).trans q12, (hb2.cell (block_lt_of_cell q13)).trans q13, (hb2.cell (block_lt_of_cell q14)).trans q14, (hb2.cell (block_lt_of_cell q15)).trans q15, (hb2.cell (block_lt_of_cell q16)).trans q16, (hb2.cell (block_lt_of_cell q17)).trans q17⟩; clear q0 q1 q2 q3 q4 q5 q6 q7 q8 q9 q10 q11 q12 q13 q14 q15 q16 q17))
  clear hS hS2
  have HB2 := Lib.hid (HBr.out.trans ((Below.mk hb2.os hb2.tape hb2.output hb2.size hb2.block : Below wr.heap.size wr w2).mono HBr.out.size))
  clear hb2 d0 d1 d2 d3 d4 d5 d6 d7 e0 e1 e2 e3 e4 e5 e6 e7 c0 c1
  have HYn := Lib.hid (@num_yes z.dev z.seq x.dev x.seq)
  have HNn := Lib.hid (@num_no z.dev z.seq x.dev x.seq)
  generalize numI z.dev z.seq x.dev x.seq = cm at HYn HNn ⊢
  by_cases hm : 0 ≤ cm
  ·have HF := Lib.hid (HN.out (HIk.out.trans (HNn.out hm)))
   go_wp2
   go_ret
   exact ⟨by rw [HF.out]; rfl, HB.out.trans (HB2.out.mono HB.out.size)⟩
  have HF := Lib.hid (allp_step HR.out (HIk.out.trans (HYn.out (by omega))))
  go_wp2
  go_roundw
  case rel => exact ⟨m + 1, .inl (by omega), by omega, by go_num, HF, HB2⟩
  case measure => simp [intOf]; omega
def okAt (xs : List Int) (l : List OpV) (i : Nat) : Bool := (atOp l i).ok && decide ((atOp l i).seq ≤ xs.getD (atOp l i).dev.toNat 0)
def partB (xs : List Int) (l : List OpV) : Bool := vecOk xs && ((List.range l.length).all (okAt xs l) && incB l)
theorem part_vec {xs : List Int} {l : List OpV} (h : vecOk xs = false) : partB xs l = false := by unfold partB; rw [h]; rfl
theorem part_ok_no {xs : List Int} {l : List OpV} {i : Nat} (hi : i < l.length) (h : okAt xs l i = false) : partB xs l = false := by
 have e : (List.range l.length).all (okAt xs l) = false := by
  rw [List.all_eq_false]
  exact ⟨i, by simpa using hi, by simp [h]⟩
 unfold partB
 rw [e]
 simp
theorem part_inc_no {xs : List Int} {l : List OpV} {i : Nat} (hi : i < l.length) (h : incAt l i = false) : partB xs l = false := by
 unfold partB
 rw [inc_no hi h]
 simp
theorem part_all {xs : List Int} {l : List OpV} (h : vecOk xs = true) (h1 : ∀ i, i < l.length → okAt xs l i = true) : partB xs l = incB l := by
 have e1 : (List.range l.length).all (okAt xs l) = true := by
  rw [List.all_eq_true]
  intro d hm
  exact h1 d (by simpa using hm)
 unfold partB
 rw [h, e1]
 rfl
theorem part_yes {xs : List Int} {l : List OpV} (h : vecOk xs = true) (h1 : ∀ i, i < l.length → okAt xs l i = true) (h2 : ∀ i, i < l.length → incAt l i = true) : partB xs l = true := (part_all h h1).trans (inc_yes h2)
theorem okAt_bad {xs : List Int} {l : List OpV} {i : Nat} (h : (atOp l i).ok = false) : okAt xs l i = false := by unfold okAt; rw [h]; rfl
theorem okAt_far {xs : List Int} {l : List OpV} {i : Nat} (h : xs.getD (atOp l i).dev.toNat 0 < (atOp l i).seq) : okAt xs l i = false := by
 unfold okAt; rw [decide_eq_false (by omega)]; simp
theorem okAt_yes {xs : List Int} {l : List OpV} {i : Nat} (h : (atOp l i).ok = true) (h2 : (atOp l i).seq ≤ xs.getD (atOp l i).dev.toNat 0) : okAt xs l i = true := by
 unfold okAt; rw [h, decide_eq_true h2]; rfl
theorem op_dev {o : OpV} (h : o.ok = true) : 0 ≤ o.dev ∧ o.dev ≤ 3 := by
 unfold OpV.ok opB headB at h
 simp only [Bool.and_eq_true] at h
 exact inB_iff.1 h.1.1

set_option linter.unusedSimpArgs false in
set_option maxRecDepth 100000 in
set_option maxHeartbeats 20000000 in
theorem specPartOk (w : World) (B : Nat) (av ao : Option Addr) (nv cv no co : Nat) (xs : List Int) (l : List OpV) (hx : Ints w B av nv xs) (h : Ops w B ao no l) (hB : B ≤ w.heap.size) (hv : nv ≤ 1048576) (hn : no ≤ 1048576) (hm : ∀ i, i < no → (atOp l i).item.size ≤ 1048576) :
  Calls Try.prog 25 #[.agg #[.slice av nv cv, .slice ao no co]] w fun e w' => e = .returned (.bool (partB xs l)) ∧ Below w.heap.size w w' := by
 have hb0 : Below w.heap.size w (w.alloc (.cells #[.slice av nv cv, .slice ao no co] 29)) := (Below.refl _ w).alloc (Nat.le_refl _) _
 have HV := Lib.hid (hx.below hb0 hB)
 have HO := Lib.hid (h.below hb0 hB)
 have HB := Lib.hid hb0
 have HX := Lib.hid (boxAt (Below.refl _ (w.alloc (.cells #[.slice av nv cv, .slice ao no co] 29))))
 have HL := Lib.hid h.1
 have hsz : w.heap.size < (w.alloc (.cells #[.slice av nv cv, .slice ao no co] 29)).heap.size := by show _ < (w.heap.push _).size; simp
 have HM := Lib.hid hm
 clear hm
 clear hx h hb0
 rcases hvk : vecOk xs with _ | _
 ·have HF := Lib.hid (part_vec (l := l) hvk)
  have HK := Lib.hid hvk
  clear hvk
  go_enter Try.func25, Try.ntmps25
  go_wp2_with fail
  refine (specVecOk _ B av nv cv xs HV.out hv).mono ?_
  rintro e w1 ⟨rfl, rfl⟩
  rw [HK.out]
  go_wp2
  go_ret
  exact ⟨by rw [HF.out]; rfl, HB.out⟩
 have HK := Lib.hid hvk
 have h4 : nv = 4 := HV.out.1.symm.trans (vec_at hvk (d := 0) (by omega)).2.2
 subst h4
 have HY := Lib.hid (part_yes (l := l) hvk)
 have HNo := Lib.hid (fun i (hi : i < no) => part_ok_no (xs := xs) (l := l) (i := i) (by rw [HL.out]; exact hi))
 have HNi := Lib.hid (fun i (hi : i < no) => part_inc_no (xs := xs) (l := l) (i := i) (by rw [HL.out]; exact hi))
 clear hvk
 go_enter Try.func25, Try.ntmps25
 go_wp2_with fail
 generalize w.alloc (.cells #[.slice av 4 cv, .slice ao no co] 29) = w0 at HV HO HB HX hsz ⊢
 refine (specVecOk _ B av 4 cv xs HV.out hv).mono ?_
 rintro e w1 ⟨rfl, rfl⟩
 rw [HK.out]
 obtain ⟨c0, c1⟩ := pair_cells HX.out
 go_wp2
 go_loopw [3] (fun i wr => ∃ k : Nat, k ≤ no ∧ i = .int .i64 k ∧ Hid ((∀ i, i < k → okAt xs l i = true) ∧ ∀ i, i < k → incAt l i = true) ∧ Hid (Below w0.heap.size w0 wr)) (fun i _ => no - (intOf i).toNat)
 case atStart => exact ⟨0, Nat.zero_le _, rfl, ⟨fun i hi => by omega, fun i hi => by omega⟩, Below.refl _ _⟩
 case round =>
  obtain ⟨k, hk, rfl, HR, HBr⟩ := hrel
  clear c0 c1
  obtain ⟨c0, c1⟩ := pair_cells ((HBr.out.block _ (by omega)).trans HX.out)
  by_cases hlt : k < no
  rotate_left
  ·obtain rfl : k = no := by omega
   have HF := Lib.hid (HY.out (by rw [HL.out]; exact HR.out.1) (by rw [HL.out]; exact HR.out.2))
   go_wp2
   go_ret
   exact ⟨by rw [HF.out]; rfl, HB.out.trans (HBr.out.mono HB.out.size)⟩
  obtain ⟨b, off, hao, hb, ho⟩ := HO.out.2 k hlt
  have HJ : Hid (∀ j, j < no → OpAt w0 b (off + j * 8) (atOp l j)) := fun j hj => by
   obtain ⟨b', off', e, _, h⟩ := HO.out.2 j hj
   rw [hao] at e
   injection e with e
   injection e with e1 e2
   subst e1 e2
   exact h
  subst hao
  have HOk : Hid (OpAt w0 b (off + k * 8) (atOp l k)) := ho
  clear ho
  have HIt := Lib.hid (HM.out k hlt)
  have H1 := Lib.hid (fun h => HNo.out k hlt (okAt_bad (xs := xs) h))
  have H2 := Lib.hid (fun h => HNo.out k hlt (okAt_far (xs := xs) h))
  have H3 := Lib.hid (fun h => okAt_yes (xs := xs) (l := l) (i := k) h)
  have HIn : Hid (incAt l k = (decide (k = 0) || numB (atOp l (k - 1)).dev (atOp l (k - 1)).seq (atOp l k).dev (atOp l k).seq)) := rfl
  obtain ⟨x, hx⟩ : ∃ x, atOp l k = x := ⟨_, rfl⟩
  rw [hx] at HOk HIt H1 H2 H3 HIn
  have HXx := Lib.hid hx
  clear hx
  obtain ⟨e0, e1, e2, e3, e4, e5, e6, e7⟩ := HOk.out.kept (HBr.out.block b (by omega))
  go_upto_region 7 with fail
  have HX1 := Lib.hid (boxAt (Below.refl _ (wr.alloc (.cells #[.int .i64 x.dev, .int .i64 x.seq, .int .i64 x.stamp, .int .i64 x.kind, .string x.item, .int .i64 x.qty, .int .i64 x.level, .int .i64 x.undos] 77))))
  have HB1 := Lib.hid (HBr.out.alloc HBr.out.size (.cells #[.int .i64 x.dev, .int .i64 x.seq, .int .i64 x.stamp, .int .i64 x.kind, .string x.item, .int .i64 x.qty, .int .i64 x.level, .int .i64 x.undos] 77))
  generalize wr.alloc (.cells #[.int .i64 x.dev, .int .i64 x.seq, .int .i64 x.stamp, .int .i64 x.kind, .string x.item, .int .i64 x.qty, .int .i64 x.level, .int .i64 x.undos] 77) = w1 at HX1 HB1 ⊢
  generalize wr.heap.size = bo at HX1 ⊢
  clear e0 e1 e2 e3 e4 e5 e6 e7 HBr c0 c1
  have ⟨d0, d1, d2, d3, d4, d5, d6, d7⟩ : OpAt w1 bo 0 x := ⟨cell_of_row _ _ _ _ _ _ HX1.out, cell_of_row _ _ _ _ _ _ HX1.out, cell_of_row _ _ _ _ _ _ HX1.out, cell_of_row _ _ _ _ _ _ HX1.out, cell_of_row _ _ _ _ _ _ HX1.out, cell_of_row _ _ _ _ _ _ HX1.out, cell_of_row _ _ _ _ _ _ HX1.out, cell_of_row _ _ _ _ _ _ HX1.out⟩
  simp only [Nat.zero_add] at d0 d1 d2 d3 d4 d5 d6 d7
  have HCt : Hid (∀ W, Calls Try.prog 79 #[.agg #[.int .i64 x.dev, .int .i64 x.seq, .int .i64 x.stamp, .int .i64 x.kind, .string x.item, .int .i64 x.qty, .int .i64 x.level, .int .i64 x.undos]] W fun e w' => e = .returned (.bool (opB x.dev x.seq x.stamp x.kind x.item x.qty x.level x.undos)) ∧ Below W.heap.size W w') := fun W => specOpOk x.dev x.seq x.stamp x.kind x.item x.qty x.level x.undos W HIt.out
  rcases hok : opB x.dev x.seq x.stamp x.kind x.item x.qty x.level x.undos with _ | _
  ·have HF := Lib.hid (H1.out hok)
   rw [hok] at HCt
   clear hok
   have hS : w1.drew.cell? ⟨bo, 0, none⟩ = some (.int .i64 x.dev) ∧ w1.drew.cell? ⟨bo, 1, none⟩ = some (.int .i64 x.seq) ∧ w1.drew.cell? ⟨bo, 2, none⟩ = some (.int .i64 x.stamp) ∧ w1.drew.cell? ⟨bo, 3, none⟩ = some (.int .i64 x.kind) ∧ w1.drew.cell? ⟨bo, 4, none⟩ = some (.string x.item) ∧ w1.drew.cell? ⟨bo, 5, none⟩ = some (.int .i64 x.qty) ∧ w1.drew.cell? ⟨bo, 6, none⟩ = some (.int .i64 x.level) ∧ w1.drew.cell? ⟨bo, 7, none⟩ = some (.int .i64 x.undos) := ⟨d0, d1, d2, d3, d4, d5, d6, d7⟩
   go_wp2_with fail
   refine wp_region_held_drew (S := fun w' => w'.cell? ⟨bo, 0, none⟩ = some (.int .i64 x.dev) ∧ w'.cell? ⟨bo, 1, none⟩ = some (.int .i64 x.seq) ∧ w'.cell? ⟨bo, 2, none⟩ = some (.int .i64 x.stamp) ∧ w'.cell? ⟨bo, 3, none⟩ = some (.int .i64 x.kind) ∧ w'.cell? ⟨bo, 4, none⟩ = some (.string x.item) ∧ w'.cell? ⟨bo, 5, none⟩ = some (.int .i64 x.qty) ∧ w'.cell? ⟨bo, 6, none⟩ = some (.int .i64 x.level) ∧ w'.cell? ⟨bo, 7, none⟩ = some (.int .i64 x.undos)) (by kernel_rfl) hS (fun hHeld => ?_)
   refine wpAnyH_take (i := 0) (oi := ⟨some 21, .load 77 (.tmp 4), 77, "l07_deltas.go:11", #[], none⟩) (v := ?_) rfl (by kernel_rfl) (by kernel_rfl) (by kernel_rfl) (fun _ _ _ h => h) (Or.inl ⟨by rfl, ?_⟩) (by assumption) ?_
   rotate_left
   ·intro w hSw
    (try dsimp only at hSw)
    first | (go_simp; done) | (go_simp; with_reducible rfl)
   (try simp only [Act.put, List.setIfInBounds_toArray, List.set_cons_zero, List.set_cons_succ])
   refine rk 1 rfl (fun K hK => ?_)
   go_simp
   go_at_call 79
   refine (HCt.out _).mono ?_
   rintro e w2 ⟨rfl, hb2⟩
   obtain ⟨q0, q1, q2, q3, q4, q5, q6, q7⟩ := hS
   refine hK.out _ _ ⟨(hb2.cell (block_lt_of_cell q0)).trans q0, (hb2.cell (block_lt_of_cell q1)).trans q1, (hb2.cell (block_lt_of_cell q2)).trans q2, (hb2.cell (block_lt_of_cell q3)).trans q3, (hb2.cell (block_lt_of_cell q4)).trans q4, (hb2.cell (block_lt_of_cell q5)).trans q5, (hb2.cell (block_lt_of_cell q6)).trans q6, (hb2.cell (block_lt_of_cell q7)).trans q7⟩ (fun hHeld2 => ?_)
   clear hK K
   (try simp only [Act.put, List.setIfInBounds_toArray, List.set_cons_zero, List.set_cons_succ])
   clear q0 q1 q2 q3 q4 q5 q6 q7
   refine wpAnyH_take (i := 2) (oi := ⟨some 23, .unOp .not 4 (.tmp 22), 4, "l07_deltas.go:11", #[⟨1, .data⟩], none⟩) (v := ?_) rfl (by kernel_rfl) (by kernel_rfl) (by kernel_rfl) (fun _ _ _ h => h) (Or.inl ⟨by rfl, ?_⟩) (by assumption) ?_
   rotate_left
   ·intro w hSw
    (try dsimp only at hSw)
    first | (go_simp; done) | (go_simp; with_reducible rfl)
   (try simp only [Act.put, List.setIfInBounds_toArray, List.set_cons_zero, List.set_cons_succ])
   refine wpAnyH_take (i := 3) (oi := ⟨some 24, .move (.tmp 23), 4, "l07_deltas.go:11", #[⟨2, .data⟩, ⟨1, .chain⟩], none⟩) (v := ?_) rfl (by kernel_rfl) (by kernel_rfl) (by kernel_rfl) (fun _ _ _ h => h) (Or.inl ⟨by rfl, ?_⟩) (by assumption) ?_
   rotate_left
   ·intro w hSw
    (try dsimp only at hSw)
    first | (go_simp; done) | (go_simp; with_reducible rfl)
   (try simp only [Act.put, List.setIfInBounds_toArray, List.set_cons_zero, List.set_cons_succ])
   refine wpAnyH_take (i := 4) (oi := ⟨some 25, .fieldAddr 77 (.tmp 4) 1, 0, "l07_deltas.go:11", #[⟨3, .guard⟩], some (3, false)⟩) (v := undef) rfl (by kernel_rfl) (by kernel_rfl) (by kernel_rfl) (fun _ _ _ h => h) (Or.inr ⟨by rfl, rfl⟩) (by assumption) ?_
   (try simp only [Act.put, List.setIfInBounds_toArray, List.set_cons_zero, List.set_cons_succ])
   refine wpAnyH_take (i := 5) (oi := ⟨some 26, .load 2 (.tmp 25), 2, "l07_deltas.go:11", #[⟨4, .data⟩, ⟨3, .guard⟩], some (3, false)⟩) (v := undef) rfl (by kernel_rfl) (by kernel_rfl) (by kernel_rfl) (fun _ _ _ h => h) (Or.inr ⟨by rfl, rfl⟩) (by assumption) ?_
   (try simp only [Act.put, List.setIfInBounds_toArray, List.set_cons_zero, List.set_cons_succ])
   refine wpAnyH_take (i := 6) (oi := ⟨some 27, .fieldAddr 29 (.tmp 1) 0, 0, "l07_deltas.go:11", #[⟨3, .guard⟩], some (3, false)⟩) (v := undef) rfl (by kernel_rfl) (by kernel_rfl) (by kernel_rfl) (fun _ _ _ h => h) (Or.inr ⟨by rfl, rfl⟩) (by assumption) ?_
   (try simp only [Act.put, List.setIfInBounds_toArray, List.set_cons_zero, List.set_cons_succ])
   refine wpAnyH_take (i := 7) (oi := ⟨some 28, .load 22 (.tmp 27), 22, "l07_deltas.go:11", #[⟨6, .data⟩, ⟨3, .guard⟩], some (3, false)⟩) (v := undef) rfl (by kernel_rfl) (by kernel_rfl) (by kernel_rfl) (fun _ _ _ h => h) (Or.inr ⟨by rfl, rfl⟩) (by assumption) ?_
   (try simp only [Act.put, List.setIfInBounds_toArray, List.set_cons_zero, List.set_cons_succ])
   refine wpAnyH_take (i := 8) (oi := ⟨some 29, .fieldAddr 77 (.tmp 4) 0, 0, "l07_deltas.go:11", #[⟨3, .guard⟩], some (3, false)⟩) (v := undef) rfl (by kernel_rfl) (by kernel_rfl) (by kernel_rfl) (fun _ _ _ h => h) (Or.inr ⟨by rfl, rfl⟩) (by assumption) ?_
   (try simp only [Act.put, List.setIfInBounds_toArray, List.set_cons_zero, List.set_cons_succ])
   refine wpAnyH_take (i := 9) (oi := ⟨some 30, .load 2 (.tmp 29), 2, "l07_deltas.go:11", #[⟨8, .data⟩, ⟨3, .guard⟩], some (3, false)⟩) (v := undef) rfl (by kernel_rfl) (by kernel_rfl) (by kernel_rfl) (fun _ _ _ h => h) (Or.inr ⟨by rfl, rfl⟩) (by assumption) ?_
   (try simp only [Act.put, List.setIfInBounds_toArray, List.set_cons_zero, List.set_cons_succ])
   refine wpAnyH_take (i := 10) (oi := ⟨some 31, .indexAddr 22 (.tmp 28) (.tmp 30), 0, "l07_deltas.go:11", #[⟨7, .data⟩, ⟨9, .data⟩, ⟨3, .guard⟩], some (3, false)⟩) (v := undef) rfl (by kernel_rfl) (by kernel_rfl) (by kernel_rfl) (fun _ _ _ h => h) (Or.inr ⟨by rfl, rfl⟩) (by assumption) ?_
   (try simp only [Act.put, List.setIfInBounds_toArray, List.set_cons_zero, List.set_cons_succ])
   refine wpAnyH_take (i := 11) (oi := ⟨some 32, .load 2 (.tmp 31), 2, "l07_deltas.go:11", #[⟨10, .data⟩, ⟨3, .guard⟩], some (3, false)⟩) (v := undef) rfl (by kernel_rfl) (by kernel_rfl) (by kernel_rfl) (fun _ _ _ h => h) (Or.inr ⟨by rfl, rfl⟩) (by assumption) ?_
   (try simp only [Act.put, List.setIfInBounds_toArray, List.set_cons_zero, List.set_cons_succ])
   refine wpAnyH_take (i := 12) (oi := ⟨some 33, .binOp .gtr 2 (.tmp 26) (.tmp 32) 2, 4, "l07_deltas.go:11", #[⟨5, .data⟩, ⟨11, .data⟩, ⟨3, .guard⟩], some (3, false)⟩) (v := undef) rfl (by kernel_rfl) (by kernel_rfl) (by kernel_rfl) (fun _ _ _ h => h) (Or.inr ⟨by rfl, rfl⟩) (by assumption) ?_
   (try simp only [Act.put, List.setIfInBounds_toArray, List.set_cons_zero, List.set_cons_succ])
   refine wpAnyH_take (i := 13) (oi := ⟨some 34, .pick (.tmp 24) (.const (Value.bool true)) (.tmp 33), 4, "l07_deltas.go:11", #[⟨3, .data⟩, ⟨12, .data⟩], none⟩) (v := ?_) rfl (by kernel_rfl) (by kernel_rfl) (by kernel_rfl) (fun _ _ _ h => h) (Or.inl ⟨by rfl, ?_⟩) (by assumption) ?_
   rotate_left
   ·intro w hSw
    (try dsimp only at hSw)
    first | (go_simp; done) | (go_simp; with_reducible rfl)
   (try simp only [Act.put, List.setIfInBounds_toArray, List.set_cons_zero, List.set_cons_succ])
   refine wpAnyH_done (by kernel_rfl) ?_ _
   have HB2 := Lib.hid (HB1.out.trans ((Below.mk hb2.os hb2.tape hb2.output hb2.size hb2.block : Below w1.heap.size w1 w2).mono HB1.out.size))
   clear hb2 hHeld hHeld2 d0 d1 d2 d3 d4 d5 d6 d7
   go_wp2
   go_ret
   exact ⟨by rw [HF.out]; rfl, HB.out.trans (HB2.out.mono HB.out.size)⟩
  obtain ⟨g1, g2⟩ := op_dev (o := x) hok
  obtain ⟨d, hd⟩ := Int.eq_ofNat_of_zero_le g1
  have hd4 : d < 4 := by omega
  have hdi : (d : Int) < 4 := by omega
  obtain ⟨bv, ov, rfl, hbv, hcv⟩ := HV.out.2 d hd4
  have cv0 := (HB1.out.cell (p := ⟨bv, ov + d, none⟩) (by show bv < w0.heap.size; omega)).trans hcv
  have hdn : x.dev.toNat = d := by omega
  obtain ⟨c0, c1⟩ := pair_cells ((HB1.out.block _ (by omega)).trans HX.out)
  rw [hdn] at H2 H3
  rw [hok] at HCt
  rw [hd] at d0 HCt
  have H3' := Lib.hid (H3.out hok)
  clear hok hcv g1 g2
  have HCv : Hid (∀ w2, Below w1.heap.size w1 w2 → w2.cell? ⟨bv, ov + d, none⟩ = w1.cell? ⟨bv, ov + d, none⟩) := fun w2 h => h.cell (block_lt_of_cell cv0)
  generalize hy : xs.getD d 0 = y at H2 H3' cv0
  clear hy H3
  have hS : w1.drew.cell? ⟨bo, 0, none⟩ = some (.int .i64 (d : Int)) ∧ w1.drew.cell? ⟨bo, 1, none⟩ = some (.int .i64 x.seq) ∧ w1.drew.cell? ⟨bo, 2, none⟩ = some (.int .i64 x.stamp) ∧ w1.drew.cell? ⟨bo, 3, none⟩ = some (.int .i64 x.kind) ∧ w1.drew.cell? ⟨bo, 4, none⟩ = some (.string x.item) ∧ w1.drew.cell? ⟨bo, 5, none⟩ = some (.int .i64 x.qty) ∧ w1.drew.cell? ⟨bo, 6, none⟩ = some (.int .i64 x.level) ∧ w1.drew.cell? ⟨bo, 7, none⟩ = some (.int .i64 x.undos) ∧ w1.drew.cell? ⟨w.heap.size, 0, none⟩ = some (.slice (some ⟨bv, ov, none⟩) 4 cv) ∧ w1.drew.cell? ⟨w.heap.size, 1, none⟩ = some (.slice (some ⟨b, off, none⟩) no co) ∧ w1.drew.cell? ⟨bv, ov + d, none⟩ = some (.int .i64 y) := ⟨d0, d1, d2, d3, d4, d5, d6, d7, c0, c1, cv0⟩
  rcases hle : decide (y < x.seq) with _ | _
  rotate_left
  ·have HF := Lib.hid (H2.out (of_decide_eq_true hle))
   go_wp2_with fail
   go_region_held3 (fun w' => w'.cell? ⟨bo, 0, none⟩ = some (.int .i64 (d : Int)) ∧ w'.cell? ⟨bo, 1, none⟩ = some (.int .i64 x.seq) ∧ w'.cell? ⟨bo, 2, none⟩ = some (.int .i64 x.stamp) ∧ w'.cell? ⟨bo, 3, none⟩ = some (.int .i64 x.kind) ∧ w'.cell? ⟨bo, 4, none⟩ = some (.string x.item) ∧ w'.cell? ⟨bo, 5, none⟩ = some (.int .i64 x.qty) ∧ w'.cell? ⟨bo, 6, none⟩ = some (.int .i64 x.level) ∧ w'.cell? ⟨bo, 7, none⟩ = some (.int .i64 x.undos) ∧ w'.cell? ⟨w.heap.size, 0, none⟩ = some (.slice (some ⟨bv, ov, none⟩) 4 cv) ∧ w'.cell? ⟨w.heap.size, 1, none⟩ = some (.slice (some ⟨b, off, none⟩) no co) ∧ w'.cell? ⟨bv, ov + d, none⟩ = some (.int .i64 y)) (first | with_reducible exact hS | with_reducible exact hS2)
    (first | (go_at_call 79; refine (HCt.out _).mono ?_; rintro e w2 ⟨rfl, hb2⟩; have ⟨q0, q1, q2, q3, q4, q5, q6, q7, q8, q9, q10⟩ := hS; have hS2 : w2.cell? ⟨bo, 0, none⟩ = some (.int .i64 (d : Int)) ∧ w2.cell? ⟨bo, 1, none⟩ = some (.int .i64 x.seq) ∧ w2.cell? ⟨bo, 2, none⟩ = some (.int .i64 x.stamp) ∧ w2.cell? ⟨bo, 3, none⟩ = some (.int .i64 x.kind) ∧ w2.cell? ⟨bo, 4, none⟩ = some (.string x.item) ∧ w2.cell? ⟨bo, 5, none⟩ = some (.int .i64 x.qty) ∧ w2.cell? ⟨bo, 6, none⟩ = some (.int .i64 x.level) ∧ w2.cell? ⟨bo, 7, none⟩ = some (.int .i64 x.undos) ∧ w2.cell? ⟨w.heap.size, 0, none⟩ = some (.slice (some ⟨bv, ov, none⟩) 4 cv) ∧ w2.cell? ⟨w.heap.size, 1, none⟩ = some (.slice (some ⟨b, off, none⟩) no co) ∧ w2.cell? ⟨bv, ov + d, none⟩ = some (.int .i64 y) := ⟨(hb2.cell (block_lt_of_cell q0)).trans q0, (hb2.cell (block_lt_of_cell q1)).trans q1, (hb2.cell (block_lt_of_cell q2)).trans q2, (hb2.cell (block_lt_of_cell q3)).trans q3, (hb2.cell (block_lt_of_cell q4)).trans q4, (hb2.cell (block_lt_of_cell q5)).trans q5, (hb2.cell (block_lt_of_cell q6)).trans q6, (hb2.cell (block_lt_of_cell q7)).trans q7, (hb2.cell (block_lt_of_cell q8)).trans q8, (hb2.cell (block_lt_of_cell q9)).trans q9, (hb2.cell (block_lt_of_cell q10)).trans q10⟩; clear q0 q1 q2 q3 q4 q5 q6 q7 q8 q9 q10))
   have HB2 := Lib.hid (HB1.out.trans ((Below.mk hb2.os hb2.tape hb2.output hb2.size hb2.block : Below w1.heap.size w1 w2).mono HB1.out.size))
   have HX2 := Lib.hid ((hb2.block _ (Array.getElem?_eq_some_iff.1 HX1.out).1).trans HX1.out)
   clear hb2 hS
   go_wp2
   go_ret
   exact ⟨by rw [HF.out]; rfl, HB.out.trans (HB2.out.mono HB.out.size)⟩
  have hle' : ¬ y < x.seq := of_decide_eq_false hle
  have HOK := Lib.hid (H3'.out (by omega))
  clear hle'
  go_wp2_with fail
  go_region_held3 (fun w' => w'.cell? ⟨bo, 0, none⟩ = some (.int .i64 (d : Int)) ∧ w'.cell? ⟨bo, 1, none⟩ = some (.int .i64 x.seq) ∧ w'.cell? ⟨bo, 2, none⟩ = some (.int .i64 x.stamp) ∧ w'.cell? ⟨bo, 3, none⟩ = some (.int .i64 x.kind) ∧ w'.cell? ⟨bo, 4, none⟩ = some (.string x.item) ∧ w'.cell? ⟨bo, 5, none⟩ = some (.int .i64 x.qty) ∧ w'.cell? ⟨bo, 6, none⟩ = some (.int .i64 x.level) ∧ w'.cell? ⟨bo, 7, none⟩ = some (.int .i64 x.undos) ∧ w'.cell? ⟨w.heap.size, 0, none⟩ = some (.slice (some ⟨bv, ov, none⟩) 4 cv) ∧ w'.cell? ⟨w.heap.size, 1, none⟩ = some (.slice (some ⟨b, off, none⟩) no co) ∧ w'.cell? ⟨bv, ov + d, none⟩ = some (.int .i64 y)) (first | with_reducible exact hS | with_reducible exact hS2)
   (first | (go_at_call 79; refine (HCt.out _).mono ?_; rintro e w2 ⟨rfl, hb2⟩; have ⟨q0, q1, q2, q3, q4, q5, q6, q7, q8, q9, q10⟩ := hS; have hS2 : w2.cell? ⟨bo, 0, none⟩ = some (.int .i64 (d : Int)) ∧ w2.cell? ⟨bo, 1, none⟩ = some (.int .i64 x.seq) ∧ w2.cell? ⟨bo, 2, none⟩ = some (.int .i64 x.stamp) ∧ w2.cell? ⟨bo, 3, none⟩ = some (.int .i64 x.kind) ∧ w2.cell? ⟨bo, 4, none⟩ = some (.string x.item) ∧ w2.cell? ⟨bo, 5, none⟩ = some (.int .i64 x.qty) ∧ w2.cell? ⟨bo, 6, none⟩ = some (.int .i64 x.level) ∧ w2.cell? ⟨bo, 7, none⟩ = some (.int .i64 x.undos) ∧ w2.cell? ⟨w.heap.size, 0, none⟩ = some (.slice (some ⟨bv, ov, none⟩) 4 cv) ∧ w2.cell? ⟨w.heap.size, 1, none⟩ = some (.slice (some ⟨b, off, none⟩) no co) ∧ w2.cell? ⟨bv, ov + d, none⟩ = some (.int .i64 y) := ⟨(hb2.cell (block_lt_of_cell q0)).trans q0, (hb2.cell (block_lt_of_cell q1)).trans q1, (hb2.cell (block_lt_of_cell q2)).trans q2, (hb2.cell (block_lt_of_cell q3)).trans q3, (hb2.cell (block_lt_of_cell q4)).trans q4, (hb2.cell (block_lt_of_cell q5)).trans q5, (hb2.cell (block_lt_of_cell q6)).trans q6, (hb2.cell (block_lt_of_cell q7)).trans q7, (hb2.cell (block_lt_of_cell q8)).trans q8, (hb2.cell (block_lt_of_cell q9)).trans q9, (hb2.cell (block_lt_of_cell q10)).trans q10⟩; clear q0 q1 q2 q3 q4 q5 q6 q7 q8 q9 q10))
  have HB2 := Lib.hid (HB1.out.trans ((Below.mk hb2.os hb2.tape hb2.output hb2.size hb2.block : Below w1.heap.size w1 w2).mono HB1.out.size))
  have HX2 := Lib.hid ((hb2.block _ (Array.getElem?_eq_some_iff.1 HX1.out).1).trans HX1.out)
  clear hb2 hS
  obtain ⟨q0, q1, q2, q3, q4, q5, q6, q7, q8, q9, q10⟩ := hS2
  clear d0 d1 d2 d3 d4 d5 d6 d7 c0 c1 cv0 HX1 HB1
  have d0 := q0
  have d1 := q1
  have c0 := q8
  have c1 := q9
  clear q0 q1 q2 q3 q4 q5 q6 q7 q8 q9 q10 hle
  by_cases hk0 : k = 0
  ·have HIk : Hid (incAt l k = true) := by show _ = _; rw [HIn.out, decide_eq_true hk0]; rfl
   have hz : decide ((0 : Int) < (k : Int)) = false := decide_eq_false (by omega)
   have hzn : decide (0 < k) = false := decide_eq_false (by omega)
   clear hk0
   have HRn : Hid ((∀ i, i < k + 1 → okAt xs l i = true) ∧ ∀ i, i < k + 1 → incAt l i = true) := ⟨allp_step HR.out.1 HOK.out, allp_step HR.out.2 HIk.out⟩
   go_wp2_with fail
   go_quiet (fail)
   go_wp2
   go_roundw
   case rel => exact ⟨k + 1, by omega, by go_num, HRn, ⟨HB2.out.os, HB2.out.tape, HB2.out.output, HB2.out.size, HB2.out.block⟩⟩
   case measure => simp [intOf]; omega
  have hz : (0 : Int) < (k : Int) := by omega
  have hzn : 0 < k := by omega
  obtain ⟨j, hj⟩ : ∃ j, k = j + 1 := ⟨k - 1, by omega⟩
  have im : IntKind.i64.wrap ((k : Int) - 1) = (j : Int) := (IntWalk.i64_in _ (by omega)).trans (by omega)
  have i1 : (j : Int) < (no : Int) := by omega
  have HOj := Lib.hid (HJ.out j (by omega))
  have hkj : k - 1 = j := by omega
  have HIj : Hid (incAt l k = numB (atOp l j).dev (atOp l j).seq x.dev x.seq) := by show _ = _; rw [HIn.out, decide_eq_false (by omega), hkj]; rfl
  clear hj hkj
  clear HIn
  obtain ⟨z, hzz⟩ : ∃ z, atOp l j = z := ⟨_, rfl⟩
  rw [hzz] at HOj HIj
  clear hzz
  obtain ⟨e0, e1, e2, e3, e4, e5, e6, e7⟩ := HOj.out.kept (HB2.out.block b (by omega))
  have HNn := Lib.hid (fun h => HNi.out k hlt h)
  rw [hd] at HIj
  by_cases q1 : (d : Int) < z.dev
  ·have HF := Lib.hid (HNn.out (by rw [HIj.out]; exact decide_eq_false (by omega)))
   go_wp2_with fail
   go_quiet (fail)
   go_wp2
   go_ret
   refine ⟨by rw [HF.out]; rfl, HB.out.trans (Below.mono (B := w0.heap.size) ?_ HB.out.size)⟩
   exact ⟨HB2.out.os, HB2.out.tape, HB2.out.output, HB2.out.size, HB2.out.block⟩
  have q1' : decide ((d : Int) < z.dev) = false := decide_eq_false (by omega)
  by_cases q2 : z.dev = (d : Int)
  rotate_left
  ·have b2 : (z.dev == (d : Int)) = false := by rw [beq_eq_false_iff_ne]; exact q2
   have HIk : Hid (incAt l k = true) := by show _ = _; rw [HIj.out]; exact decide_eq_true (by omega)
   clear q2 q1
   have HRn : Hid ((∀ i, i < k + 1 → okAt xs l i = true) ∧ ∀ i, i < k + 1 → incAt l i = true) := ⟨allp_step HR.out.1 HOK.out, allp_step HR.out.2 HIk.out⟩
   go_wp2_with fail
   go_quiet (fail)
   go_wp2
   go_roundw
   case rel => exact ⟨k + 1, by omega, by go_num, HRn, ⟨HB2.out.os, HB2.out.tape, HB2.out.output, HB2.out.size, HB2.out.block⟩⟩
   case measure => simp [intOf]; omega
  have b2 : (z.dev == (d : Int)) = true := by rw [q2]; exact beq_self_eq_true _
  by_cases q3 : x.seq ≤ z.seq
  ·have HF := Lib.hid (HNn.out (by rw [HIj.out]; exact decide_eq_false (by omega)))
   clear q2 q1
   go_wp2_with fail
   go_quiet (fail)
   go_wp2
   go_ret
   refine ⟨by rw [HF.out]; rfl, HB.out.trans (Below.mono (B := w0.heap.size) ?_ HB.out.size)⟩
   exact ⟨HB2.out.os, HB2.out.tape, HB2.out.output, HB2.out.size, HB2.out.block⟩
  have HIk : Hid (incAt l k = true) := by show _ = _; rw [HIj.out]; exact decide_eq_true (by omega)
  clear q2 q1
  have HRn : Hid ((∀ i, i < k + 1 → okAt xs l i = true) ∧ ∀ i, i < k + 1 → incAt l i = true) := ⟨allp_step HR.out.1 HOK.out, allp_step HR.out.2 HIk.out⟩
  go_wp2_with fail
  go_quiet (fail)
  go_wp2
  go_roundw
  case rel => exact ⟨k + 1, by omega, by go_num, HRn, ⟨HB2.out.os, HB2.out.tape, HB2.out.output, HB2.out.size, HB2.out.block⟩⟩
  case measure => simp [intOf]; omega
set_option linter.unusedSimpArgs false in
set_option maxRecDepth 100000 in
set_option maxHeartbeats 20000000 in
theorem implPartOk (w : World) (B : Nat) (av ao : Option Addr) (nv cv no co : Nat) (xs : List Int) (l : List OpV) (hx : Ints w B av nv xs) (h : Ops w B ao no l) (hB : B ≤ w.heap.size) (hv : nv ≤ 1048576) (hn : no ≤ 1048576) :
  Calls Try.prog 24 #[.agg #[.slice av nv cv, .slice ao no co]] w fun e w' => e = .returned (.bool (partB xs l)) ∧ Below w.heap.size w w' := by
 have hb0 : Below w.heap.size w (w.alloc (.cells #[.slice av nv cv, .slice ao no co] 29)) := (Below.refl _ w).alloc (Nat.le_refl _) _
 have HV := Lib.hid (hx.below hb0 hB)
 have HO := Lib.hid (h.below hb0 hB)
 have HB := Lib.hid hb0
 have HX := Lib.hid (boxAt (Below.refl _ (w.alloc (.cells #[.slice av nv cv, .slice ao no co] 29))))
 have HL := Lib.hid h.1
 have hsz : w.heap.size < (w.alloc (.cells #[.slice av nv cv, .slice ao no co] 29)).heap.size := by show _ < (w.heap.push _).size; simp
 clear hx h hb0
 rcases hvk : vecOk xs with _ | _
 ·have HF := Lib.hid (part_vec (l := l) hvk)
  have HK := Lib.hid hvk
  clear hvk
  go_enter Try.func24, Try.ntmps24
  go_wp2_with fail
  refine (implVecOk _ B av nv cv xs HV.out hv).mono ?_
  rintro e w1 ⟨rfl, rfl⟩
  rw [HK.out]
  go_wp2
  go_ret
  exact ⟨by rw [HF.out]; rfl, HB.out⟩
 have HK := Lib.hid hvk
 have h4 : nv = 4 := HV.out.1.symm.trans (vec_at hvk (d := 0) (by omega)).2.2
 subst h4
 have HY := Lib.hid (part_yes (l := l) hvk)
 have HNo := Lib.hid (fun i (hi : i < no) => part_ok_no (xs := xs) (l := l) (i := i) (by rw [HL.out]; exact hi))
 have HNi := Lib.hid (fun i (hi : i < no) => part_inc_no (xs := xs) (l := l) (i := i) (by rw [HL.out]; exact hi))
 clear hvk
 go_enter Try.func24, Try.ntmps24
 go_wp2_with fail
 generalize w.alloc (.cells #[.slice av 4 cv, .slice ao no co] 29) = w0 at HV HO HB HX hsz ⊢
 refine (implVecOk _ B av 4 cv xs HV.out hv).mono ?_
 rintro e w1 ⟨rfl, rfl⟩
 rw [HK.out]
 obtain ⟨c0, c1⟩ := pair_cells HX.out
 go_wp2
 go_loopw [12] (fun i wr => ∃ k : Nat, k ≤ no ∧ i = .int .i64 k ∧ Hid (∀ i, i < k → okAt xs l i = true) ∧ Hid (Below w0.heap.size w0 wr)) (fun i _ => no - (intOf i).toNat)
 case atStart => exact ⟨0, Nat.zero_le _, rfl, fun i hi => by omega, Below.refl _ _⟩
 case round =>
  obtain ⟨k, hk, rfl, HR, HBr⟩ := hrel
  clear c0 c1
  obtain ⟨c0, c1⟩ := pair_cells ((HBr.out.block _ (by omega)).trans HX.out)
  by_cases hlt : k < no
  rotate_left
  ·obtain rfl : k = no := by omega
   have HF := Lib.hid (part_all HK.out (l := l) (by rw [HL.out]; exact HR.out))
   have HOr := Lib.hid (HO.out.below HBr.out (by omega))
   go_wp2_with fail
   refine (numbered _ _ _ _).mono ?_
   rintro e w2 ⟨rfl, hb2⟩
   have HO2 := Lib.hid (HOr.out.below hb2 (by have := HBr.out.size; omega))
   have HB2 := Lib.hid (HBr.out.trans (hb2.mono HBr.out.size))
   have hs2 := hb2.size
   clear hb2 c0 c1
   go_wp2_with fail
   refine (increases w2 B ao k co l HO2.out (by have := HBr.out.size; omega) hn).mono ?_
   rintro e w3 ⟨rfl, hb3⟩
   have HB3 := Lib.hid (HB2.out.trans (hb3.mono HB2.out.size))
   clear hb3
   go_wp2
   go_ret
   exact ⟨by rw [HF.out]; rfl, HB.out.trans (HB3.out.mono HB.out.size)⟩
  obtain ⟨b, off, hao, hb, ho⟩ := HO.out.2 k hlt
  have HJ : Hid (∀ j, j < no → OpAt w0 b (off + j * 8) (atOp l j)) := fun j hj => by
   obtain ⟨b', off', e, _, h⟩ := HO.out.2 j hj
   rw [hao] at e
   injection e with e
   injection e with e1 e2
   subst e1 e2
   exact h
  subst hao
  have HOk : Hid (OpAt w0 b (off + k * 8) (atOp l k)) := ho
  clear ho
  have H1 := Lib.hid (fun h => HNo.out k hlt (okAt_bad (xs := xs) h))
  have H2 := Lib.hid (fun h => HNo.out k hlt (okAt_far (xs := xs) h))
  have H3 := Lib.hid (fun h => okAt_yes (xs := xs) (l := l) (i := k) h)
  have HIn : Hid (incAt l k = (decide (k = 0) || numB (atOp l (k - 1)).dev (atOp l (k - 1)).seq (atOp l k).dev (atOp l k).seq)) := rfl
  clear HIn
  obtain ⟨x, hx⟩ : ∃ x, atOp l k = x := ⟨_, rfl⟩
  rw [hx] at HOk H1 H2 H3
  clear hx
  obtain ⟨e0, e1, e2, e3, e4, e5, e6, e7⟩ := HOk.out.kept (HBr.out.block b (by omega))
  go_upto_region 6 with fail
  have HX1 := Lib.hid (boxAt (Below.refl _ (wr.alloc (.cells #[.int .i64 x.dev, .int .i64 x.seq, .int .i64 x.stamp, .int .i64 x.kind, .string x.item, .int .i64 x.qty, .int .i64 x.level, .int .i64 x.undos] 77))))
  have HB1 := Lib.hid (HBr.out.alloc HBr.out.size (.cells #[.int .i64 x.dev, .int .i64 x.seq, .int .i64 x.stamp, .int .i64 x.kind, .string x.item, .int .i64 x.qty, .int .i64 x.level, .int .i64 x.undos] 77))
  generalize wr.alloc (.cells #[.int .i64 x.dev, .int .i64 x.seq, .int .i64 x.stamp, .int .i64 x.kind, .string x.item, .int .i64 x.qty, .int .i64 x.level, .int .i64 x.undos] 77) = w1 at HX1 HB1 ⊢
  generalize wr.heap.size = bo at HX1 ⊢
  clear e0 e1 e2 e3 e4 e5 e6 e7 HBr c0 c1
  have ⟨d0, d1, d2, d3, d4, d5, d6, d7⟩ : OpAt w1 bo 0 x := ⟨cell_of_row _ _ _ _ _ _ HX1.out, cell_of_row _ _ _ _ _ _ HX1.out, cell_of_row _ _ _ _ _ _ HX1.out, cell_of_row _ _ _ _ _ _ HX1.out, cell_of_row _ _ _ _ _ _ HX1.out, cell_of_row _ _ _ _ _ _ HX1.out, cell_of_row _ _ _ _ _ _ HX1.out, cell_of_row _ _ _ _ _ _ HX1.out⟩
  simp only [Nat.zero_add] at d0 d1 d2 d3 d4 d5 d6 d7
  have HCt : Hid (∀ W, Calls Try.prog 76 #[.agg #[.int .i64 x.dev, .int .i64 x.seq, .int .i64 x.stamp, .int .i64 x.kind, .string x.item, .int .i64 x.qty, .int .i64 x.level, .int .i64 x.undos]] W fun e w' => e = .returned (.bool (opB x.dev x.seq x.stamp x.kind x.item x.qty x.level x.undos)) ∧ Below W.heap.size W w') := fun W => implOpOk x.dev x.seq x.stamp x.kind x.item x.qty x.level x.undos W
  rcases hok : opB x.dev x.seq x.stamp x.kind x.item x.qty x.level x.undos with _ | _
  ·have HF := Lib.hid (H1.out hok)
   rw [hok] at HCt
   clear hok
   have hS : w1.drew.cell? ⟨bo, 0, none⟩ = some (.int .i64 x.dev) ∧ w1.drew.cell? ⟨bo, 1, none⟩ = some (.int .i64 x.seq) ∧ w1.drew.cell? ⟨bo, 2, none⟩ = some (.int .i64 x.stamp) ∧ w1.drew.cell? ⟨bo, 3, none⟩ = some (.int .i64 x.kind) ∧ w1.drew.cell? ⟨bo, 4, none⟩ = some (.string x.item) ∧ w1.drew.cell? ⟨bo, 5, none⟩ = some (.int .i64 x.qty) ∧ w1.drew.cell? ⟨bo, 6, none⟩ = some (.int .i64 x.level) ∧ w1.drew.cell? ⟨bo, 7, none⟩ = some (.int .i64 x.undos) := ⟨d0, d1, d2, d3, d4, d5, d6, d7⟩
   go_wp2_with fail
   refine wp_region_held_drew (S := fun w' => w'.cell? ⟨bo, 0, none⟩ = some (.int .i64 x.dev) ∧ w'.cell? ⟨bo, 1, none⟩ = some (.int .i64 x.seq) ∧ w'.cell? ⟨bo, 2, none⟩ = some (.int .i64 x.stamp) ∧ w'.cell? ⟨bo, 3, none⟩ = some (.int .i64 x.kind) ∧ w'.cell? ⟨bo, 4, none⟩ = some (.string x.item) ∧ w'.cell? ⟨bo, 5, none⟩ = some (.int .i64 x.qty) ∧ w'.cell? ⟨bo, 6, none⟩ = some (.int .i64 x.level) ∧ w'.cell? ⟨bo, 7, none⟩ = some (.int .i64 x.undos)) (by kernel_rfl) hS (fun hHeld => ?_)
   refine wpAnyH_take (i := 0) (oi := ⟨some 16, .load 77 (.tmp 4), 77, "l07_deltas.go:68", #[], none⟩) (v := ?_) rfl (by kernel_rfl) (by kernel_rfl) (by kernel_rfl) (fun _ _ _ h => h) (Or.inl ⟨by rfl, ?_⟩) (by assumption) ?_
   rotate_left
   ·intro w hSw
    (try dsimp only at hSw)
    first | (go_simp; done) | (go_simp; with_reducible rfl)
   (try simp only [Act.put, List.setIfInBounds_toArray, List.set_cons_zero, List.set_cons_succ])
   refine rk 1 rfl (fun K hK => ?_)
   go_simp
   go_at_call 76
   refine (HCt.out _).mono ?_
   rintro e w2 ⟨rfl, hb2⟩
   obtain ⟨q0, q1, q2, q3, q4, q5, q6, q7⟩ := hS
   refine hK.out _ _ ⟨(hb2.cell (block_lt_of_cell q0)).trans q0, (hb2.cell (block_lt_of_cell q1)).trans q1, (hb2.cell (block_lt_of_cell q2)).trans q2, (hb2.cell (block_lt_of_cell q3)).trans q3, (hb2.cell (block_lt_of_cell q4)).trans q4, (hb2.cell (block_lt_of_cell q5)).trans q5, (hb2.cell (block_lt_of_cell q6)).trans q6, (hb2.cell (block_lt_of_cell q7)).trans q7⟩ (fun hHeld2 => ?_)
   clear hK K
   (try simp only [Act.put, List.setIfInBounds_toArray, List.set_cons_zero, List.set_cons_succ])
   clear q0 q1 q2 q3 q4 q5 q6 q7
   refine wpAnyH_take (i := 2) (oi := ⟨some 18, .unOp .not 4 (.tmp 17), 4, "l07_deltas.go:68", #[⟨1, .data⟩], none⟩) (v := ?_) rfl (by kernel_rfl) (by kernel_rfl) (by kernel_rfl) (fun _ _ _ h => h) (Or.inl ⟨by rfl, ?_⟩) (by assumption) ?_
   rotate_left
   ·intro w hSw
    (try dsimp only at hSw)
    first | (go_simp; done) | (go_simp; with_reducible rfl)
   (try simp only [Act.put, List.setIfInBounds_toArray, List.set_cons_zero, List.set_cons_succ])
   refine wpAnyH_take (i := 3) (oi := ⟨some 19, .move (.tmp 18), 4, "l07_deltas.go:68", #[⟨2, .data⟩, ⟨1, .chain⟩], none⟩) (v := ?_) rfl (by kernel_rfl) (by kernel_rfl) (by kernel_rfl) (fun _ _ _ h => h) (Or.inl ⟨by rfl, ?_⟩) (by assumption) ?_
   rotate_left
   ·intro w hSw
    (try dsimp only at hSw)
    first | (go_simp; done) | (go_simp; with_reducible rfl)
   (try simp only [Act.put, List.setIfInBounds_toArray, List.set_cons_zero, List.set_cons_succ])
   refine wpAnyH_take (i := 4) (oi := ⟨some 20, .fieldAddr 77 (.tmp 4) 1, 0, "l07_deltas.go:68", #[⟨3, .guard⟩], some (3, false)⟩) (v := undef) rfl (by kernel_rfl) (by kernel_rfl) (by kernel_rfl) (fun _ _ _ h => h) (Or.inr ⟨by rfl, rfl⟩) (by assumption) ?_
   (try simp only [Act.put, List.setIfInBounds_toArray, List.set_cons_zero, List.set_cons_succ])
   refine wpAnyH_take (i := 5) (oi := ⟨some 21, .load 2 (.tmp 20), 2, "l07_deltas.go:68", #[⟨4, .data⟩, ⟨3, .guard⟩], some (3, false)⟩) (v := undef) rfl (by kernel_rfl) (by kernel_rfl) (by kernel_rfl) (fun _ _ _ h => h) (Or.inr ⟨by rfl, rfl⟩) (by assumption) ?_
   (try simp only [Act.put, List.setIfInBounds_toArray, List.set_cons_zero, List.set_cons_succ])
   refine wpAnyH_take (i := 6) (oi := ⟨some 22, .fieldAddr 29 (.tmp 1) 0, 0, "l07_deltas.go:68", #[⟨3, .guard⟩], some (3, false)⟩) (v := undef) rfl (by kernel_rfl) (by kernel_rfl) (by kernel_rfl) (fun _ _ _ h => h) (Or.inr ⟨by rfl, rfl⟩) (by assumption) ?_
   (try simp only [Act.put, List.setIfInBounds_toArray, List.set_cons_zero, List.set_cons_succ])
   refine wpAnyH_take (i := 7) (oi := ⟨some 23, .load 22 (.tmp 22), 22, "l07_deltas.go:68", #[⟨6, .data⟩, ⟨3, .guard⟩], some (3, false)⟩) (v := undef) rfl (by kernel_rfl) (by kernel_rfl) (by kernel_rfl) (fun _ _ _ h => h) (Or.inr ⟨by rfl, rfl⟩) (by assumption) ?_
   (try simp only [Act.put, List.setIfInBounds_toArray, List.set_cons_zero, List.set_cons_succ])
   refine wpAnyH_take (i := 8) (oi := ⟨some 24, .fieldAddr 77 (.tmp 4) 0, 0, "l07_deltas.go:68", #[⟨3, .guard⟩], some (3, false)⟩) (v := undef) rfl (by kernel_rfl) (by kernel_rfl) (by kernel_rfl) (fun _ _ _ h => h) (Or.inr ⟨by rfl, rfl⟩) (by assumption) ?_
   (try simp only [Act.put, List.setIfInBounds_toArray, List.set_cons_zero, List.set_cons_succ])
   refine wpAnyH_take (i := 9) (oi := ⟨some 25, .load 2 (.tmp 24), 2, "l07_deltas.go:68", #[⟨8, .data⟩, ⟨3, .guard⟩], some (3, false)⟩) (v := undef) rfl (by kernel_rfl) (by kernel_rfl) (by kernel_rfl) (fun _ _ _ h => h) (Or.inr ⟨by rfl, rfl⟩) (by assumption) ?_
   (try simp only [Act.put, List.setIfInBounds_toArray, List.set_cons_zero, List.set_cons_succ])
   refine wpAnyH_take (i := 10) (oi := ⟨some 26, .indexAddr 22 (.tmp 23) (.tmp 25), 0, "l07_deltas.go:68", #[⟨7, .data⟩, ⟨9, .data⟩, ⟨3, .guard⟩], some (3, false)⟩) (v := undef) rfl (by kernel_rfl) (by kernel_rfl) (by kernel_rfl) (fun _ _ _ h => h) (Or.inr ⟨by rfl, rfl⟩) (by assumption) ?_
   (try simp only [Act.put, List.setIfInBounds_toArray, List.set_cons_zero, List.set_cons_succ])
   refine wpAnyH_take (i := 11) (oi := ⟨some 27, .load 2 (.tmp 26), 2, "l07_deltas.go:68", #[⟨10, .data⟩, ⟨3, .guard⟩], some (3, false)⟩) (v := undef) rfl (by kernel_rfl) (by kernel_rfl) (by kernel_rfl) (fun _ _ _ h => h) (Or.inr ⟨by rfl, rfl⟩) (by assumption) ?_
   (try simp only [Act.put, List.setIfInBounds_toArray, List.set_cons_zero, List.set_cons_succ])
   refine wpAnyH_take (i := 12) (oi := ⟨some 28, .binOp .gtr 2 (.tmp 21) (.tmp 27) 2, 4, "l07_deltas.go:68", #[⟨5, .data⟩, ⟨11, .data⟩, ⟨3, .guard⟩], some (3, false)⟩) (v := undef) rfl (by kernel_rfl) (by kernel_rfl) (by kernel_rfl) (fun _ _ _ h => h) (Or.inr ⟨by rfl, rfl⟩) (by assumption) ?_
   (try simp only [Act.put, List.setIfInBounds_toArray, List.set_cons_zero, List.set_cons_succ])
   refine wpAnyH_take (i := 13) (oi := ⟨some 29, .pick (.tmp 19) (.const (Value.bool true)) (.tmp 28), 4, "l07_deltas.go:68", #[⟨3, .data⟩, ⟨12, .data⟩], none⟩) (v := ?_) rfl (by kernel_rfl) (by kernel_rfl) (by kernel_rfl) (fun _ _ _ h => h) (Or.inl ⟨by rfl, ?_⟩) (by assumption) ?_
   rotate_left
   ·intro w hSw
    (try dsimp only at hSw)
    first | (go_simp; done) | (go_simp; with_reducible rfl)
   (try simp only [Act.put, List.setIfInBounds_toArray, List.set_cons_zero, List.set_cons_succ])
   refine wpAnyH_done (by kernel_rfl) ?_ _
   have HB2 := Lib.hid (HB1.out.trans ((Below.mk hb2.os hb2.tape hb2.output hb2.size hb2.block : Below w1.heap.size w1 w2).mono HB1.out.size))
   clear hb2 hHeld hHeld2 d0 d1 d2 d3 d4 d5 d6 d7
   go_wp2
   go_ret
   exact ⟨by rw [HF.out]; rfl, HB.out.trans (HB2.out.mono HB.out.size)⟩
  obtain ⟨g1, g2⟩ := op_dev (o := x) hok
  obtain ⟨d, hd⟩ := Int.eq_ofNat_of_zero_le g1
  have hd4 : d < 4 := by omega
  have hdi : (d : Int) < 4 := by omega
  obtain ⟨bv, ov, rfl, hbv, hcv⟩ := HV.out.2 d hd4
  have cv0 := (HB1.out.cell (p := ⟨bv, ov + d, none⟩) (by show bv < w0.heap.size; omega)).trans hcv
  have hdn : x.dev.toNat = d := by omega
  obtain ⟨c0, c1⟩ := pair_cells ((HB1.out.block _ (by omega)).trans HX.out)
  rw [hdn] at H2 H3
  rw [hok] at HCt
  rw [hd] at d0 HCt
  have H3' := Lib.hid (H3.out hok)
  clear hok hcv g1 g2
  have HCv : Hid (∀ w2, Below w1.heap.size w1 w2 → w2.cell? ⟨bv, ov + d, none⟩ = w1.cell? ⟨bv, ov + d, none⟩) := fun w2 h => h.cell (block_lt_of_cell cv0)
  generalize hy : xs.getD d 0 = y at H2 H3' cv0
  clear hy H3
  have hS : w1.drew.cell? ⟨bo, 0, none⟩ = some (.int .i64 (d : Int)) ∧ w1.drew.cell? ⟨bo, 1, none⟩ = some (.int .i64 x.seq) ∧ w1.drew.cell? ⟨bo, 2, none⟩ = some (.int .i64 x.stamp) ∧ w1.drew.cell? ⟨bo, 3, none⟩ = some (.int .i64 x.kind) ∧ w1.drew.cell? ⟨bo, 4, none⟩ = some (.string x.item) ∧ w1.drew.cell? ⟨bo, 5, none⟩ = some (.int .i64 x.qty) ∧ w1.drew.cell? ⟨bo, 6, none⟩ = some (.int .i64 x.level) ∧ w1.drew.cell? ⟨bo, 7, none⟩ = some (.int .i64 x.undos) ∧ w1.drew.cell? ⟨w.heap.size, 0, none⟩ = some (.slice (some ⟨bv, ov, none⟩) 4 cv) ∧ w1.drew.cell? ⟨w.heap.size, 1, none⟩ = some (.slice (some ⟨b, off, none⟩) no co) ∧ w1.drew.cell? ⟨bv, ov + d, none⟩ = some (.int .i64 y) := ⟨d0, d1, d2, d3, d4, d5, d6, d7, c0, c1, cv0⟩
  rcases hle : decide (y < x.seq) with _ | _
  rotate_left
  ·have HF := Lib.hid (H2.out (of_decide_eq_true hle))
   go_wp2_with fail
   go_region_held3 (fun w' => w'.cell? ⟨bo, 0, none⟩ = some (.int .i64 (d : Int)) ∧ w'.cell? ⟨bo, 1, none⟩ = some (.int .i64 x.seq) ∧ w'.cell? ⟨bo, 2, none⟩ = some (.int .i64 x.stamp) ∧ w'.cell? ⟨bo, 3, none⟩ = some (.int .i64 x.kind) ∧ w'.cell? ⟨bo, 4, none⟩ = some (.string x.item) ∧ w'.cell? ⟨bo, 5, none⟩ = some (.int .i64 x.qty) ∧ w'.cell? ⟨bo, 6, none⟩ = some (.int .i64 x.level) ∧ w'.cell? ⟨bo, 7, none⟩ = some (.int .i64 x.undos) ∧ w'.cell? ⟨w.heap.size, 0, none⟩ = some (.slice (some ⟨bv, ov, none⟩) 4 cv) ∧ w'.cell? ⟨w.heap.size, 1, none⟩ = some (.slice (some ⟨b, off, none⟩) no co) ∧ w'.cell? ⟨bv, ov + d, none⟩ = some (.int .i64 y)) (first | with_reducible exact hS | with_reducible exact hS2)
    (first | (go_at_call 76; refine (HCt.out _).mono ?_; rintro e w2 ⟨rfl, hb2⟩; have ⟨q0, q1, q2, q3, q4, q5, q6, q7, q8, q9, q10⟩ := hS; have hS2 : w2.cell? ⟨bo, 0, none⟩ = some (.int .i64 (d : Int)) ∧ w2.cell? ⟨bo, 1, none⟩ = some (.int .i64 x.seq) ∧ w2.cell? ⟨bo, 2, none⟩ = some (.int .i64 x.stamp) ∧ w2.cell? ⟨bo, 3, none⟩ = some (.int .i64 x.kind) ∧ w2.cell? ⟨bo, 4, none⟩ = some (.string x.item) ∧ w2.cell? ⟨bo, 5, none⟩ = some (.int .i64 x.qty) ∧ w2.cell? ⟨bo, 6, none⟩ = some (.int .i64 x.level) ∧ w2.cell? ⟨bo, 7, none⟩ = some (.int .i64 x.undos) ∧ w2.cell? ⟨w.heap.size, 0, none⟩ = some (.slice (some ⟨bv, ov, none⟩) 4 cv) ∧ w2.cell? ⟨w.heap.size, 1, none⟩ = some (.slice (some ⟨b, off, none⟩) no co) ∧ w2.cell? ⟨bv, ov + d, none⟩ = some (.int .i64 y) := ⟨(hb2.cell (block_lt_of_cell q0)).trans q0, (hb2.cell (block_lt_of_cell q1)).trans q1, (hb2.cell (block_lt_of_cell q2)).trans q2, (hb2.cell (block_lt_of_cell q3)).trans q3, (hb2.cell (block_lt_of_cell q4)).trans q4, (hb2.cell (block_lt_of_cell q5)).trans q5, (hb2.cell (block_lt_of_cell q6)).trans q6, (hb2.cell (block_lt_of_cell q7)).trans q7, (hb2.cell (block_lt_of_cell q8)).trans q8, (hb2.cell (block_lt_of_cell q9)).trans q9, (hb2.cell (block_lt_of_cell q10)).trans q10⟩; clear q0 q1 q2 q3 q4 q5 q6 q7 q8 q9 q10))
   have HB2 := Lib.hid (HB1.out.trans ((Below.mk hb2.os hb2.tape hb2.output hb2.size hb2.block : Below w1.heap.size w1 w2).mono HB1.out.size))
   have HX2 := Lib.hid ((hb2.block _ (Array.getElem?_eq_some_iff.1 HX1.out).1).trans HX1.out)
   clear hb2 hS
   go_wp2
   go_ret
   exact ⟨by rw [HF.out]; rfl, HB.out.trans (HB2.out.mono HB.out.size)⟩
  have hle' : ¬ y < x.seq := of_decide_eq_false hle
  have HOK := Lib.hid (H3'.out (by omega))
  clear hle'
  go_wp2_with fail
  go_region_held3 (fun w' => w'.cell? ⟨bo, 0, none⟩ = some (.int .i64 (d : Int)) ∧ w'.cell? ⟨bo, 1, none⟩ = some (.int .i64 x.seq) ∧ w'.cell? ⟨bo, 2, none⟩ = some (.int .i64 x.stamp) ∧ w'.cell? ⟨bo, 3, none⟩ = some (.int .i64 x.kind) ∧ w'.cell? ⟨bo, 4, none⟩ = some (.string x.item) ∧ w'.cell? ⟨bo, 5, none⟩ = some (.int .i64 x.qty) ∧ w'.cell? ⟨bo, 6, none⟩ = some (.int .i64 x.level) ∧ w'.cell? ⟨bo, 7, none⟩ = some (.int .i64 x.undos) ∧ w'.cell? ⟨w.heap.size, 0, none⟩ = some (.slice (some ⟨bv, ov, none⟩) 4 cv) ∧ w'.cell? ⟨w.heap.size, 1, none⟩ = some (.slice (some ⟨b, off, none⟩) no co) ∧ w'.cell? ⟨bv, ov + d, none⟩ = some (.int .i64 y)) (first | with_reducible exact hS | with_reducible exact hS2)
   (first | (go_at_call 76; refine (HCt.out _).mono ?_; rintro e w2 ⟨rfl, hb2⟩; have ⟨q0, q1, q2, q3, q4, q5, q6, q7, q8, q9, q10⟩ := hS; have hS2 : w2.cell? ⟨bo, 0, none⟩ = some (.int .i64 (d : Int)) ∧ w2.cell? ⟨bo, 1, none⟩ = some (.int .i64 x.seq) ∧ w2.cell? ⟨bo, 2, none⟩ = some (.int .i64 x.stamp) ∧ w2.cell? ⟨bo, 3, none⟩ = some (.int .i64 x.kind) ∧ w2.cell? ⟨bo, 4, none⟩ = some (.string x.item) ∧ w2.cell? ⟨bo, 5, none⟩ = some (.int .i64 x.qty) ∧ w2.cell? ⟨bo, 6, none⟩ = some (.int .i64 x.level) ∧ w2.cell? ⟨bo, 7, none⟩ = some (.int .i64 x.undos) ∧ w2.cell? ⟨w.heap.size, 0, none⟩ = some (.slice (some ⟨bv, ov, none⟩) 4 cv) ∧ w2.cell? ⟨w.heap.size, 1, none⟩ = some (.slice (some ⟨b, off, none⟩) no co) ∧ w2.cell? ⟨bv, ov + d, none⟩ = some (.int .i64 y) := ⟨(hb2.cell (block_lt_of_cell q0)).trans q0, (hb2.cell (block_lt_of_cell q1)).trans q1, (hb2.cell (block_lt_of_cell q2)).trans q2, (hb2.cell (block_lt_of_cell q3)).trans q3, (hb2.cell (block_lt_of_cell q4)).trans q4, (hb2.cell (block_lt_of_cell q5)).trans q5, (hb2.cell (block_lt_of_cell q6)).trans q6, (hb2.cell (block_lt_of_cell q7)).trans q7, (hb2.cell (block_lt_of_cell q8)).trans q8, (hb2.cell (block_lt_of_cell q9)).trans q9, (hb2.cell (block_lt_of_cell q10)).trans q10⟩; clear q0 q1 q2 q3 q4 q5 q6 q7 q8 q9 q10))
  have HB2 := Lib.hid (HB1.out.trans ((Below.mk hb2.os hb2.tape hb2.output hb2.size hb2.block : Below w1.heap.size w1 w2).mono HB1.out.size))
  have HX2 := Lib.hid ((hb2.block _ (Array.getElem?_eq_some_iff.1 HX1.out).1).trans HX1.out)
  clear hb2 hS
  have HRn := Lib.hid (allp_step HR.out HOK.out)
  go_wp2
  go_roundw
  case rel => exact ⟨k + 1, by omega, by go_num, HRn, HB2⟩
  case measure => simp [intOf]; omega
end Go.Proofs.Ytdbdmfaphdjdpaa
