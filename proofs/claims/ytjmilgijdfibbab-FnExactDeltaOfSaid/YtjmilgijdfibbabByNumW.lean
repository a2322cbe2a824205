/- What a valid part is; the walks of impl.byNumber, of impl.PartOk and of spec.PartOk. -/
import Derived.Test.YtjmilgijdfibbabCartSpecW
import Derived.Test.YtjmilgijdfibbabBeforeW
import Derived.Deep.Cut
import Derived.Laws.EntriesVeiled
import Derived.Deep.RegionHeld3
namespace Go.Proofs.Ytjmilgijdfibbab
open Go.RowKit

/-- The order of operations by device and number, as a number below, at or above 0. -/
def orI2 (x y : Int) : Int := if x ≠ 0 then x else y
def numI (d q d' q' : Int) : Int := orI2 (cmpI d d') (cmpI q q')
def numB (d q d' q' : Int) : Bool := decide (d < d' ∨ (d = d' ∧ q < q'))
theorem num_lt (d q d' q' : Int) : numB d q d' q' = decide (numI d q d' q' < 0) := by
  unfold numB
  rw [decide_eq_decide]
  unfold numI orI2
  rcases Int.lt_trichotomy d d' with g | g | g
  · rw [cmp_lt g, if_pos (by decide)]; omega
  · rw [cmp_eq g, if_neg (by decide)]
    rcases Int.lt_trichotomy q q' with k | k | k
    · rw [cmp_lt k]; omega
    · rw [cmp_eq k]; omega
    · rw [cmp_gt k]; omega
  · rw [cmp_gt g, if_pos (by decide)]; omega

set_option maxRecDepth 100000 in
set_option maxHeartbeats 1000000 in
theorem cmpOr2 (x y : Int) (b : Nat) (w : World) (h0 : w.cell? ⟨b, 0, none⟩ = some (.int .i64 x)) (h1 : w.cell? ⟨b, 1, none⟩ = some (.int .i64 y)) : Calls Try.prog 96 #[.slice (some ⟨b, 0, none⟩) 2 2] w fun e w' => e = .returned (.int .i64 (orI2 x y)) ∧ w = w' := by
  by_cases hx : x = 0
  · have z0 : (x != 0) = false := by rw [hx]; rfl
    have HI : Hid (orI2 x y = y) := if_neg (fun h => h hx)
    clear hx
    by_cases hy : y = 0
    · have z1 : (y != 0) = false := by rw [hy]; rfl
      have HV : Hid (orI2 x y = 0) := HI.out.trans hy
      clear hy
      go_enter Try.func96, Try.ntmps96
      go_wp2
      go_loop [8] (fun i => ∃ k : Nat, k ≤ 2 ∧ i = .int .i64 k) (fun i => 2 - (intOf i).toNat)
      case atStart => exact ⟨0, by omega, rfl⟩
      case round =>
        obtain ⟨k, hk, rfl⟩ := hrel
        obtain rfl | rfl | rfl : k = 0 ∨ k = 1 ∨ k = 2 := by omega
        · go_wp2
          go_round
          case rel => exact ⟨1, by omega, by go_num⟩
          case measure => simp [intOf]
        · go_wp2
          go_round
          case rel => exact ⟨2, by omega, by go_num⟩
          case measure => simp [intOf]
        · go_wp2
          go_ret
          exact ⟨by rw [HV.out]; rfl, rfl⟩
    · have z1 : (y != 0) = true := by rw [bne_iff_ne]; exact hy
      have HV : Hid (orI2 x y = y) := HI.out
      clear hy
      go_enter Try.func96, Try.ntmps96
      go_wp2
      go_loop [8] (fun i => ∃ k : Nat, k ≤ 1 ∧ i = .int .i64 k) (fun i => 2 - (intOf i).toNat)
      case atStart => exact ⟨0, by omega, rfl⟩
      case round =>
        obtain ⟨k, hk, rfl⟩ := hrel
        obtain rfl | rfl : k = 0 ∨ k = 1 := by omega
        · go_wp2
          go_round
          case rel => exact ⟨1, by omega, by go_num⟩
          case measure => simp [intOf]
        · go_wp2
          go_ret
          exact ⟨by rw [HV.out]; rfl, rfl⟩
  · have z0 : (x != 0) = true := by rw [bne_iff_ne]; exact hx
    have HV : Hid (orI2 x y = x) := if_pos hx
    clear hx
    go_enter Try.func96, Try.ntmps96
    go_wp2
    go_loop [8] (fun i => ∃ k : Nat, k ≤ 0 ∧ i = .int .i64 k) (fun i => 2 - (intOf i).toNat)
    case atStart => exact ⟨0, by omega, rfl⟩
    case round =>
      obtain ⟨k, hk, rfl⟩ := hrel
      obtain rfl : k = 0 := by omega
      go_wp2
      go_ret
      exact ⟨by rw [HV.out]; rfl, rfl⟩
set_option maxRecDepth 100000 in
set_option maxHeartbeats 1000000 in
theorem byNumber (dev1 seq1 stamp1 kind1 : Int) (item1 : ByteArray) (qty1 level1 undos1 : Int) (dev2 seq2 stamp2 kind2 : Int) (item2 : ByteArray) (qty2 level2 undos2 : Int) (w : World) : Calls Try.prog 86 #[.agg #[.int .i64 dev1, .int .i64 seq1, .int .i64 stamp1, .int .i64 kind1, .string item1, .int .i64 qty1, .int .i64 level1, .int .i64 undos1], .agg #[.int .i64 dev2, .int .i64 seq2, .int .i64 stamp2, .int .i64 kind2, .string item2, .int .i64 qty2, .int .i64 level2, .int .i64 undos2]] w fun e w' => e = .returned (.int .i64 (numI dev1 seq1 dev2 seq2)) ∧ Below w.heap.size w w' := by
  have hT := Two.mk0 w #[.int .i64 dev1, .int .i64 seq1, .int .i64 stamp1, .int .i64 kind1, .string item1, .int .i64 qty1, .int .i64 level1, .int .i64 undos1] #[.int .i64 dev2, .int .i64 seq2, .int .i64 stamp2, .int .i64 kind2, .string item2, .int .i64 qty2, .int .i64 level2, .int .i64 undos2] 66
  have HT := Lib.hid hT
  go_enter Try.func86, Try.ntmps86
  go_wp2_with fail
  generalize (w.alloc (.cells #[.int .i64 dev1, .int .i64 seq1, .int .i64 stamp1, .int .i64 kind1, .string item1, .int .i64 qty1, .int .i64 level1, .int .i64 undos1] 66)).alloc (.cells #[.int .i64 dev2, .int .i64 seq2, .int .i64 stamp2, .int .i64 kind2, .string item2, .int .i64 qty2, .int .i64 level2, .int .i64 undos2] 66) = w2 at hT HT ⊢
  have c10 := cell_of_row _ _ 0 _ _ _ hT.fst
  have c11 := cell_of_row _ _ 1 _ _ _ hT.fst
  have c20 := cell_of_row _ _ 0 _ _ _ hT.snd
  have c21 := cell_of_row _ _ 1 _ _ _ hT.snd
  simp only [List.getElem?_toArray, List.getElem?_cons_zero, List.getElem?_cons_succ] at c10 c11 c20 c21
  have hlt1 := lt_of_row HT.out.fst
  have hlt2 := lt_of_row HT.out.snd
  clear hT
  go_region_held3 (fun w' => w'.cell? ⟨w.heap.size, 0, none⟩ = some (.int .i64 dev1) ∧ w'.cell? ⟨w.heap.size + 1, 0, none⟩ = some (.int .i64 dev2) ∧ w'.cell? ⟨w.heap.size, 1, none⟩ = some (.int .i64 seq1) ∧ w'.cell? ⟨w.heap.size + 1, 1, none⟩ = some (.int .i64 seq2)) (first | exact ⟨c10, c20, c11, c21⟩ | go_keep)
    (first | (go_at_call 97; refine (compare _ _ _).mono ?_; rintro e w' ⟨rfl, rfl⟩) | (go_at_call 96; refine (cmpOr2 (cmpI dev1 dev2) (cmpI seq1 seq2) _ _ ?_ ?_).mono ?_; (simp); (simp); rintro e w' ⟨rfl, rfl⟩))
  go_wp2
  go_ret
  exact ⟨rfl, HT.out.bel.trans (((Below.refl _ w2).alloc (Nat.le_refl _) _).drew.mono HT.out.bel.size)⟩

def incAt (l : List OpV) (i : Nat) : Bool := decide (i = 0) || numB (atOp l (i - 1)).dev (atOp l (i - 1)).seq (atOp l i).dev (atOp l i).seq
def incB (l : List OpV) : Bool := (List.range l.length).all (incAt l)
theorem inc_first (l : List OpV) : ∀ i, i < 0 + 1 → incAt l i = true := fun i hi => by
  obtain rfl : i = 0 := by omega
  rfl
theorem inc_no {l : List OpV} {i : Nat} (hi : i < l.length) (h : incAt l i = false) : incB l = false := by
  unfold incB
  rw [List.all_eq_false]
  exact ⟨i, by simpa using hi, by simp [h]⟩
theorem inc_yes {l : List OpV} (h : ∀ i, i < l.length → incAt l i = true) : incB l = true := by
  unfold incB
  rw [List.all_eq_true]
  intro d hm
  exact h d (by simpa using hm)
theorem allp_step {p : Nat → Bool} {k : Nat} (h : ∀ i, i < k → p i = true) (hk : p k = true) : ∀ i, i < k + 1 → p i = true := fun i hi => by
  rcases Nat.lt_or_ge i k with h1 | h1
  · exact h i h1
  · obtain rfl : i = k := by omega
    exact hk
theorem num_no {d q d' q' : Int} (h : 0 ≤ numI d q d' q') : numB d q d' q' = false := by rw [num_lt]; exact decide_eq_false (by omega)
theorem num_yes {d q d' q' : Int} (h : numI d q d' q' < 0) : numB d q d' q' = true := by rw [num_lt]; exact decide_eq_true h
/-- The operations' list by device and number, as a value. -/
def byNumV (a : Option Addr) (n c : Nat) : Value := .agg #[.slice a n c, .func (.func 86) #[] #[]]

set_option maxRecDepth 100000 in
theorem numbered (w : World) (a : Option Addr) (n c : Nat) : Calls Try.prog 65 #[.slice a n c] w fun e w' => e = .returned (.agg #[.slice a n c, .func (.func 86) #[] #[]]) ∧ Below w.heap.size w w' := by
  go_enter Try.func65, Try.ntmps65
  go_wp2
  refine bodyPost_ret (v := .agg #[.slice a n c, .func (.func 86) #[] #[]]) (by simp [results, Try.results65, go_sem]) rfl ⟨rfl, ?_⟩
  go_grown
set_option maxRecDepth 100000 in
set_option maxHeartbeats 2000000 in
theorem increases (w : World) (B : Nat) (a : Option Addr) (n c : Nat) (l : List OpV) (h : Ops w B a n l) (hB : B ≤ w.heap.size) (hn : n ≤ 1048576) : Calls Try.prog 89 #[.agg #[.slice a n c, .func (.func 86) #[] #[]]] w fun e w' => e = .returned (.bool (incB l)) ∧ Below w.heap.size w w' := by
  have hb0 : Below w.heap.size w (w.alloc (.cells #[.slice a n c, .func (.func 86) #[] #[]] 78)) := (Below.refl _ w).alloc (Nat.le_refl _) _
  have HO := Lib.hid (h.below hb0 hB)
  have HB := Lib.hid hb0
  have HX := Lib.hid (boxAt (Below.refl _ (w.alloc (.cells #[.slice a n c, .func (.func 86) #[] #[]] 78))))
  have HL := Lib.hid h.1
  have hsz : w.heap.size < (w.alloc (.cells #[.slice a n c, .func (.func 86) #[] #[]] 78)).heap.size := by show _ < (w.heap.push _).size; simp
  clear h hb0
  go_enter Try.func89, Try.ntmps89
  go_wp2_with fail
  generalize w.alloc (.cells #[.slice a n c, .func (.func 86) #[] #[]] 78) = w0 at HO HB HX hsz ⊢
  go_loopw [3] (fun i wr => ∃ m : Nat, (m ≤ n ∨ m = 1) ∧ 1 ≤ m ∧ i = .int .i64 (m : Int) ∧ Hid (∀ i, i < m → incAt l i = true) ∧ Hid (Below w0.heap.size w0 wr)) (fun i _ => n + 1 - (intOf i).toNat)
  case atStart => exact ⟨1, .inr rfl, Nat.le_refl _, rfl, inc_first l, Below.refl _ _⟩
  case round =>
    obtain ⟨m, hk, h1, rfl, HR, HBr⟩ := hrel
    obtain ⟨c0, c1⟩ := pair_cells ((HBr.out.block _ (by omega)).trans HX.out)
    by_cases hlt : m < n
    rotate_left
    · have HF := Lib.hid (inc_yes (l := l) (fun i hi => HR.out i (by have := HL.out; omega)))
      have hge : ¬ ((m : Int) < (n : Int)) := by omega
      go_wp2
      go_ret
      exact ⟨by rw [HF.out]; rfl, HB.out.trans (HBr.out.mono HB.out.size)⟩
    obtain ⟨k, hkm⟩ : ∃ k, m = k + 1 := ⟨m - 1, by omega⟩
    obtain ⟨b, off, hao, hb, ho⟩ := HO.out.2 m hlt
    have HAo := Lib.hid hao
    subst hao
    obtain ⟨b', off', hao', hb', ho'⟩ := HO.out.2 k (by omega)
    have e := HAo.out.symm.trans hao'
    injection e with e
    injection e with e1 e2
    subst e1 e2
    clear hao' hb'
    have HOk : Hid (OpAt w0 b (off + m * 8) (atOp l m)) := ho
    have HOj : Hid (OpAt w0 b (off + k * 8) (atOp l k)) := ho'
    clear ho ho'
    have HIk : Hid (incAt l m = numB (atOp l k).dev (atOp l k).seq (atOp l m).dev (atOp l m).seq) := by subst hkm; rfl
    have HN := Lib.hid (fun h => inc_no (l := l) (i := m) (by have := HL.out; omega) h)
    generalize atOp l m = x at HOk HIk
    generalize atOp l k = z at HOj HIk
    obtain ⟨d0, d1, d2, d3, d4, d5, d6, d7⟩ := HOk.out.kept (HBr.out.block b (by omega))
    obtain ⟨e0, e1, e2, e3, e4, e5, e6, e7⟩ := HOj.out.kept (HBr.out.block b (by omega))
    have im : IntKind.i64.wrap ((m : Int) - 1) = (k : Int) := (IntWalk.i64_in _ (by omega)).trans (by omega)
    have i1 : (k : Int) < (n : Int) := by omega
    have i2 : (m : Int) < (n : Int) := by omega
    clear hkm
    have hS : wr.drew.cell? ⟨b, off + m * 8, none⟩ = some (.int .i64 x.dev) ∧ wr.drew.cell? ⟨b, off + m * 8 + 1, none⟩ = some (.int .i64 x.seq) ∧ wr.drew.cell? ⟨b, off + m * 8 + 2, none⟩ = some (.int .i64 x.stamp) ∧ wr.drew.cell? ⟨b, off + m * 8 + 3, none⟩ = some (.int .i64 x.kind) ∧ wr.drew.cell? ⟨b, off + m * 8 + 4, none⟩ = some (.string x.item) ∧ wr.drew.cell? ⟨b, off + m * 8 + 5, none⟩ = some (.int .i64 x.qty) ∧ wr.drew.cell? ⟨b, off + m * 8 + 6, none⟩ = some (.int .i64 x.level) ∧ wr.drew.cell? ⟨b, off + m * 8 + 7, none⟩ = some (.int .i64 x.undos) ∧ wr.drew.cell? ⟨b, off + k * 8, none⟩ = some (.int .i64 z.dev) ∧ wr.drew.cell? ⟨b, off + k * 8 + 1, none⟩ = some (.int .i64 z.seq) ∧ wr.drew.cell? ⟨b, off + k * 8 + 2, none⟩ = some (.int .i64 z.stamp) ∧ wr.drew.cell? ⟨b, off + k * 8 + 3, none⟩ = some (.int .i64 z.kind) ∧ wr.drew.cell? ⟨b, off + k * 8 + 4, none⟩ = some (.string z.item) ∧ wr.drew.cell? ⟨b, off + k * 8 + 5, none⟩ = some (.int .i64 z.qty) ∧ wr.drew.cell? ⟨b, off + k * 8 + 6, none⟩ = some (.int .i64 z.level) ∧ wr.drew.cell? ⟨b, off + k * 8 + 7, none⟩ = some (.int .i64 z.undos) ∧ wr.drew.cell? ⟨w.heap.size, 0, none⟩ = some (.slice (some ⟨b, off, none⟩) n c) ∧ wr.drew.cell? ⟨w.heap.size, 1, none⟩ = some (.func (.func 86) #[] #[]) := ⟨d0, d1, d2, d3, d4, d5, d6, d7, e0, e1, e2, e3, e4, e5, e6, e7, c0, c1⟩
    have hblt := block_lt_of_cell d0
    have hbx := block_lt_of_cell c0
    go_wp2_with fail
    go_region_held3 (fun w' => w'.cell? ⟨b, off + m * 8, none⟩ = some (.int .i64 x.dev) ∧ w'.cell? ⟨b, off + m * 8 + 1, none⟩ = some (.int .i64 x.seq) ∧ w'.cell? ⟨b, off + m * 8 + 2, none⟩ = some (.int .i64 x.stamp) ∧ w'.cell? ⟨b, off + m * 8 + 3, none⟩ = some (.int .i64 x.kind) ∧ w'.cell? ⟨b, off + m * 8 + 4, none⟩ = some (.string x.item) ∧ w'.cell? ⟨b, off + m * 8 + 5, none⟩ = some (.int .i64 x.qty) ∧ w'.cell? ⟨b, off + m * 8 + 6, none⟩ = some (.int .i64 x.level) ∧ w'.cell? ⟨b, off + m * 8 + 7, none⟩ = some (.int .i64 x.undos) ∧ w'.cell? ⟨b, off + k * 8, none⟩ = some (.int .i64 z.dev) ∧ w'.cell? ⟨b, off + k * 8 + 1, none⟩ = some (.int .i64 z.seq) ∧ w'.cell? ⟨b, off + k * 8 + 2, none⟩ = some (.int .i64 z.stamp) ∧ w'.cell? ⟨b, off + k * 8 + 3, none⟩ = some (.int .i64 z.kind) ∧ w'.cell? ⟨b, off + k * 8 + 4, none⟩ = some (.string z.item) ∧ w'.cell? ⟨b, off + k * 8 + 5, none⟩ = some (.int .i64 z.qty) ∧ w'.cell? ⟨b, off + k * 8 + 6, none⟩ = some (.int .i64 z.level) ∧ w'.cell? ⟨b, off + k * 8 + 7, none⟩ = some (.int .i64 z.undos) ∧ w'.cell? ⟨w.heap.size, 0, none⟩ = some (.slice (some ⟨b, off, none⟩) n c) ∧ w'.cell? ⟨w.heap.size, 1, none⟩ = some (.func (.func 86) #[] #[])) (first | with_reducible exact hS | with_reducible exact hS2)
      (first | (go_at_call 86; refine (byNumber z.dev z.seq z.stamp z.kind z.item z.qty z.level z.undos x.dev x.seq x.stamp x.kind x.item x.qty x.level x.undos _).mono ?_; rintro e w2 ⟨rfl, hb2⟩; have ⟨q0, q1, q2, q3, q4, q5, q6, q7, q8, q9, q10, q11, q12, q13, q14, q15, q16, q17⟩ := hS; have hS2 : w2.cell? ⟨b, off + m * 8, none⟩ = some (.int .i64 x.dev) ∧ w2.cell? ⟨b, off + m * 8 + 1, none⟩ = some (.int .i64 x.seq) ∧ w2.cell? ⟨b, off + m * 8 + 2, none⟩ = some (.int .i64 x.stamp) ∧ w2.cell? ⟨b, off + m * 8 + 3, none⟩ = some (.int .i64 x.kind) ∧ w2.cell? ⟨b, off + m * 8 + 4, none⟩ = some (.string x.item) ∧ w2.cell? ⟨b, off + m * 8 + 5, none⟩ = some (.int .i64 x.qty) ∧ w2.cell? ⟨b, off + m * 8 + 6, none⟩ = some (.int .i64 x.level) ∧ w2.cell? ⟨b, off + m * 8 + 7, none⟩ = some (.int .i64 x.undos) ∧ w2.cell? ⟨b, off + k * 8, none⟩ = some (.int .i64 z.dev) ∧ w2.cell? ⟨b, off + k * 8 + 1, none⟩ = some (.int .i64 z.seq) ∧ w2.cell? ⟨b, off + k * 8 + 2, none⟩ = some (.int .i64 z.stamp) ∧ w2.cell? ⟨b, off + k * 8 + 3, none⟩ = some (.int .i64 z.kind) ∧ w2.cell? ⟨b, off + k * 8 + 4, none⟩ = some (.string z.item) ∧ w2.cell? ⟨b, off + k * 8 + 5, none⟩ = some (.int .i64 z.qty) ∧ w2.cell? ⟨b, off + k * 8 + 6, none⟩ = some (.int .i64 z.level) ∧ w2.cell? ⟨b, off + k * 8 + 7, none⟩ = some (.int .i64 z.undos) ∧ w2.cell? ⟨w.heap.size, 0, none⟩ = some (.slice (some ⟨b, off, none⟩) n c) ∧ w2.cell? ⟨w.heap.size, 1, none⟩ = some (.func (.func 86) #[] #[]) := ⟨(hb2.cell (block_lt_of_cell q0)).trans q0, (hb2.cell (block_lt_of_cell q1)).trans q1, (hb2.cell (block_lt_of_cell q2)).trans q2, (hb2.cell (block_lt_of_cell q3)).trans q3, (hb2.cell (block_lt_of_cell q4)).trans q4, (hb2.cell (block_lt_of_cell q5)).trans q5, (hb2.cell (block_lt_of_cell q6)).trans q6, (hb2.cell (block_lt_of_cell q7)).trans q7, (hb2.cell (block_lt_of_cell q8)).trans q8, (hb2.cell (block_lt_of_cell q9)).trans q9, (hb2.cell (block_lt_of_cell q10)).trans q10, (hb2.cell (block_lt_of_cell q11)).trans q11, (hb2.cell (block_lt_of_cell q12)).trans q12, (hb2.cell (block_lt_of_cell q13)).trans q13, (hb2.cell (block_lt_of_cell q14)).trans q14, (hb2.cell (block_lt_of_cell q15)).trans q15, (hb2.cell (block_lt_of_cell q16)).trans q16, (hb2.cell (block_lt_of_cell q17)).trans q17⟩; clear q0 q1 q2 q3 q4 q5 q6 q7 q8 q9 q10 q11 q12 q13 q14 q15 q16 q17))
    clear hS hS2
    have HB2 := Lib.hid (HBr.out.trans ((Below.mk hb2.os hb2.tape hb2.output hb2.size hb2.block : Below wr.heap.size wr w2).mono HBr.out.size))
    clear hb2 d0 d1 d2 d3 d4 d5 d6 d7 e0 e1 e2 e3 e4 e5 e6 e7 c0 c1
    have HYn := Lib.hid (@num_yes z.dev z.seq x.dev x.seq)
    have HNn := Lib.hid (@num_no z.dev z.seq x.dev x.seq)
    generalize numI z.dev z.seq x.dev x.seq = cm at HYn HNn ⊢
    by_cases hm : 0 ≤ cm
    · have HF := Lib.hid (HN.out (HIk.out.trans (HNn.out hm)))
      go_wp2
      go_ret
      exact ⟨by rw [HF.out]; rfl, HB.out.trans (HB2.out.mono HB.out.size)⟩
    have HF := Lib.hid (allp_step HR.out (HIk.out.trans (HYn.out (by omega))))
    go_wp2
    go_roundw
    case rel => exact ⟨m + 1, .inl (by omega), by omega, by go_num, HF, HB2⟩
    case measure => simp [intOf]; omega
end Go.Proofs.Ytjmilgijdfibbab
