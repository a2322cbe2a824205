/- More mathematics that several claims share. -/
import Derived.Test.YtmceofdknphgkaaGa0
import Derived.Test.YtmceofdknphgkaaGa1
import Derived.Test.YtmceofdknphgkaaGa2
import Derived.Test.YtmceofdknphgkaaGa3
import Derived.Test.YtmceofdknphgkaaGa4
import Derived.Test.YtmceofdknphgkaaGa5
import Derived.Test.YtmceofdknphgkaaGa6
import Derived.Test.YtmceofdknphgkaaGa7
import Derived.Test.YtmceofdknphgkaaGa8
import Derived.Test.YtmceofdknphgkaaGa9
import Derived.Test.YtmceofdknphgkaaGa10
import Derived.Test.YtmceofdknphgkaaGa11
import Derived.Test.YtmceofdknphgkaaGa12
import Derived.Test.YtmceofdknphgkaaGa13
import Derived.Test.YtmceofdknphgkaaGa14
import Derived.Test.YtmceofdknphgkaaGa15
import Derived.Test.YtmceofdknphgkaaGa16
import Derived.Test.YtmceofdknphgkaaGa17
import Derived.Test.YtmceofdknphgkaaGa18
import Derived.Test.YtmceofdknphgkaaGa19
import Derived.Test.YtmceofdknphgkaaGa20
import Derived.Test.YtmceofdknphgkaaGa21
import Derived.Test.YtmceofdknphgkaaGa22
import Derived.Test.YtmceofdknphgkaaGa23
import Derived.Test.YtmceofdknphgkaaGa24
import Derived.Test.YtmceofdknphgkaaGa25
import Derived.Test.YtmceofdknphgkaaGa26
import Derived.Test.YtmceofdknphgkaaGa27
import Derived.Test.YtmceofdknphgkaaGa28
import Derived.Test.YtmceofdknphgkaaGa29
import Derived.Test.YtmceofdknphgkaaGa30
import Derived.Test.YtmceofdknphgkaaGa31
import Derived.Test.YtmceofdknphgkaaGa32
import Derived.Test.YtmceofdknphgkaaGa33
import Derived.Test.YtmceofdknphgkaaGa34
import Derived.WalkKit
import Derived.Laws.AppendOwn
import Derived.Shelf.LaysM
import Derived.Shelf.Strconv.Clone
import Derived.WalkLawsBesides
import Derived.Lib.Hide
import Derived.Lib.Strings
import Derived.WalkSpells
import Derived.IntWalk
import Derived.Below
import Derived.Laws.Rows
import Derived.OpenShut
import Derived.Handy
import Derived.Deep.QuietTactic
import Derived.BigQuiet
import Derived.Laws.MakeOwn
import Derived.OwnWalk
import Derived.Deep.Cut
import Derived.Deep.RegionHeld3
import Derived.RegionTactic
import Derived.Maps.AppendAt
import Derived.Laws.Cover3
import Derived.Deep.CutRange
import Derived.Deep.CutBlock
import Derived.Deep.AppendLies
import Derived.Lib.SliceRun
import Derived.Lib.MinMax
import Derived.Laws.BytesArg
import Derived.Laws.EntriesVeiled
import Derived.Laws.OwnMore
import Derived.Deep.Onto
import Derived.Maps.OwnSet
import Derived.DeepKeys4
import Derived.ScopeJumps
import Derived.RangeFuncNested
import Derived.RangeFuncBound
import Derived.RangeFuncCalls
import Derived.RangeFuncLeaves
import Derived.Shelf.Abstract
import Derived.Shelf.RegionOpen
import Derived.OwnWalkIn
import Derived.TacticsInMore
import Derived.LoopNIn
import Derived.LoopIn
import Derived.Laws.Tables
import Derived.Great.BuildSlice
namespace Go.Proofs.Ytmceofdknphgkaa
open Go.RowKit
/-- It is nil; or it leads to a row of 'cap' cells, the numbers 'zs' (the first 'len' are its elements), each fitting its kind. -/
def IsRow (k : IntKind) (w : World) (a : Option Addr) (len cap : Nat) (zs : List Int) : Prop :=
  (a = none ∧ len = 0 ∧ cap = 0 ∧ zs = []) ∨
  ∃ x, a = some x ∧ len ≤ cap ∧ cap ≤ maxLen ∧ zs.length = cap ∧ (∀ i, i < zs.length → w.cell? (x.add i) = some (.int k (zs.getD i 0))) ∧ ∀ n ∈ zs, (Lit.int k n).wf = true
theorem add_plain {x : Addr} {w : World} {v : Value} (h : w.cell? (x.add 0) = some v) : ∃ b off, x = ⟨b, off, none⟩ := by
  obtain ⟨b, off, spot⟩ := x
  have hs := World.cell?_spot h
  have e0 : (⟨b, off, spot⟩ : Addr).add 0 = ⟨b, off, spot⟩ := by simp [Addr.add]
  rw [e0] at hs
  have : spot = none := hs
  subst this
  exact ⟨b, off, rfl⟩
theorem setOp_other {w : World} {b k : Nat} (v0 v1 v2 v3 v4 v5 v6 v7 : Value) (h : k ≠ b) : (setOp w b v0 v1 v2 v3 v4 v5 v6 v7).heap[k]? = w.heap[k]? := by
  unfold setOp
  rw [heap_setCell_other _ _ _ _ h, heap_setCell_other _ _ _ _ h, heap_setCell_other _ _ _ _ h, heap_setCell_other _ _ _ _ h, heap_setCell_other _ _ _ _ h, heap_setCell_other _ _ _ _ h, heap_setCell_other _ _ _ _ h, heap_setCell_other _ _ _ _ h]
set_option maxRecDepth 100000 in
theorem implLive (dev seq stamp kind : Int) (item : ByteArray) (qty level undos : Int) (w : World) : Calls Try.prog 27 #[.agg #[.int .i64 dev, .int .i64 seq, .int .i64 stamp, .int .i64 kind, .string item, .int .i64 qty, .int .i64 level, .int .i64 undos]] w fun e w' => e = .returned (.bool (liveB dev seq stamp kind item qty level undos)) ∧ Below w.heap.size w w' := by
  have HL : Hid (liveB dev seq stamp kind item qty level undos = (opB dev seq stamp kind item qty level undos && decide (undos % 2 = 0))) := rfl
  rcases ho : opB dev seq stamp kind item qty level undos with _ | _
  · have HO := Lib.hid ho
    clear ho
    go_enter Try.func27, Try.ntmps27
    go_wp2_with fail
    refine (implOpOk dev seq stamp kind item qty level undos _).mono ?_
    rintro e w1 ⟨rfl, hb1⟩
    rw [HO.out]
    have hB1 := Lib.hid (box_below hb1)
    clear hb1
    go_wp2
    go_ret
    exact ⟨by rw [HL.out, HO.out]; rfl, hB1.out⟩
  · have HO := Lib.hid ho
    have h0 := (undos_of ho).1
    clear ho
    by_cases hm : undos % 2 = 0
    · have hm' : (undos % 2 == 0) = true := by rw [hm]; rfl
      have HD := Lib.hid (decide_eq_true hm)
      clear hm
      go_enter Try.func27, Try.ntmps27
      go_wp2_with fail
      refine (implOpOk dev seq stamp kind item qty level undos _).mono ?_
      rintro e w1 ⟨rfl, hb1⟩
      rw [HO.out]
      have hx := boxAt hb1
      have hB1 := Lib.hid (box_below hb1)
      clear hb1
      have c0 := cell_of_row _ _ 0 _ _ _ hx
      have c1 := cell_of_row _ _ 1 _ _ _ hx
      have c2 := cell_of_row _ _ 2 _ _ _ hx
      have c3 := cell_of_row _ _ 3 _ _ _ hx
      have c4 := cell_of_row _ _ 4 _ _ _ hx
      have c5 := cell_of_row _ _ 5 _ _ _ hx
      have c6 := cell_of_row _ _ 6 _ _ _ hx
      have c7 := cell_of_row _ _ 7 _ _ _ hx
      simp only [List.getElem?_toArray, List.getElem?_cons_zero, List.getElem?_cons_succ] at c0 c1 c2 c3 c4 c5 c6 c7
      go_wp2
      go_ret
      exact ⟨by rw [HL.out, HO.out, HD.out]; rfl, hB1.out⟩
    · have hm' : (undos % 2 == 0) = false := by rw [beq_eq_false_iff_ne]; exact hm
      have HD := Lib.hid (decide_eq_false hm)
      clear hm
      go_enter Try.func27, Try.ntmps27
      go_wp2_with fail
      refine (implOpOk dev seq stamp kind item qty level undos _).mono ?_
      rintro e w1 ⟨rfl, hb1⟩
      rw [HO.out]
      have hx := boxAt hb1
      have hB1 := Lib.hid (box_below hb1)
      clear hb1
      have c0 := cell_of_row _ _ 0 _ _ _ hx
      have c1 := cell_of_row _ _ 1 _ _ _ hx
      have c2 := cell_of_row _ _ 2 _ _ _ hx
      have c3 := cell_of_row _ _ 3 _ _ _ hx
      have c4 := cell_of_row _ _ 4 _ _ _ hx
      have c5 := cell_of_row _ _ 5 _ _ _ hx
      have c6 := cell_of_row _ _ 6 _ _ _ hx
      have c7 := cell_of_row _ _ 7 _ _ _ hx
      simp only [List.getElem?_toArray, List.getElem?_cons_zero, List.getElem?_cons_succ] at c0 c1 c2 c3 c4 c5 c6 c7
      go_wp2
      go_ret
      exact ⟨by rw [HL.out, HO.out, HD.out]; rfl, hB1.out⟩
theorem src_of_row {w : World} {a : Option Addr} {len cap : Nat} {zs : List Int} (h : IsRow .u8 w a len cap zs) (hl : len ≤ 1048576) : Src w w.heap.size a len := by
  refine ⟨hl, fun i hi => ?_⟩
  rcases h with ⟨_, rfl, _⟩ | ⟨x, rfl, hlc, _, hz, hc, hw⟩
  · omega
  · have hci := hc i (by omega)
    obtain ⟨b, off, rfl⟩ := add_plain (hc 0 (by omega))
    have ea := add_at b off i
    have hb := bounds_u8 (hw (zs.getD i 0) (by rw [List.getD_eq_getElem?_getD, List.getElem?_eq_getElem (by omega)]; simp))
    rw [ea] at hci
    refine ⟨b, off, (zs.getD i 0).toNat, rfl, block_lt_of_cell hci, by omega, ?_⟩
    rw [hci, Int.toNat_of_nonneg hb.1]

theorem bigNo (a : Option Addr) (len cap : Nat) (h : len ≤ 1048576) (w : World) :
    Calls Try.prog 15 #[.slice a len cap] w fun e w' => e = .returned (.bool false) ∧ w = w' := by
  have hd : decide ((1048576 : Int) < (len : Int)) = false := decide_eq_false (by omega)
  go_enter Try.func15, Try.ntmps15
  go_wp2
  go_ret
  exact ⟨rfl, rfl⟩
theorem bigYes (a : Option Addr) (len cap : Nat) (h : ¬ len ≤ 1048576) (w : World) :
    Calls Try.prog 15 #[.slice a len cap] w fun e w' => e = .returned (.bool true) ∧ w = w' := by
  have hd : decide ((1048576 : Int) < (len : Int)) = true := decide_eq_true (by omega)
  go_enter Try.func15, Try.ntmps15
  go_wp2
  go_ret
  exact ⟨rfl, rfl⟩

def cmpI (x y : Int) : Int := if x < y then -1 else if y < x then 1 else 0
theorem cmp_lt {x y : Int} (h : x < y) : cmpI x y = -1 := if_pos h
theorem cmp_gt {x y : Int} (h : y < x) : cmpI x y = 1 := by unfold cmpI; rw [if_neg (by omega), if_pos h]
theorem cmp_eq {x y : Int} (h : x = y) : cmpI x y = 0 := by unfold cmpI; rw [if_neg (by omega), if_neg (by omega)]
theorem isNaN (x : Int) (w : World) : Calls Try.prog 160 #[.int .i64 x] w fun e w' => e = .returned (.bool false) ∧ w = w' := by
  go_enter Try.func160, Try.ntmps160
  go_wp2
  go_ret
  exact ⟨rfl, rfl⟩
theorem compare (x y : Int) (w : World) : Calls Try.prog 106 #[.int .i64 x, .int .i64 y] w fun e w' => e = .returned (.int .i64 (cmpI x y)) ∧ w = w' := by
  rcases Int.lt_trichotomy x y with h | h | h
  · have H := Lib.hid (cmp_lt h)
    go_enter Try.func106, Try.ntmps106
    go_wp2_with fail
    refine (isNaN _ _).mono ?_
    rintro e w' ⟨rfl, rfl⟩
    go_wp2_with fail
    refine (isNaN _ _).mono ?_
    rintro e w' ⟨rfl, rfl⟩
    go_wp2
    go_ret
    exact ⟨by rw [H.out]; rfl, rfl⟩
  · have H := Lib.hid (cmp_eq h)
    subst h
    go_enter Try.func106, Try.ntmps106
    go_wp2_with fail
    refine (isNaN _ _).mono ?_
    rintro e w' ⟨rfl, rfl⟩
    go_wp2_with fail
    refine (isNaN _ _).mono ?_
    rintro e w' ⟨rfl, rfl⟩
    go_wp2
    go_ret
    exact ⟨by rw [H.out]; rfl, rfl⟩
  · have H := Lib.hid (cmp_gt h)
    have h' : ¬ x < y := by omega
    go_enter Try.func106, Try.ntmps106
    go_wp2_with fail
    refine (isNaN _ _).mono ?_
    rintro e w' ⟨rfl, rfl⟩
    go_wp2_with fail
    refine (isNaN _ _).mono ?_
    rintro e w' ⟨rfl, rfl⟩
    go_wp2
    go_ret
    exact ⟨by rw [H.out]; rfl, rfl⟩
/-- What a call answers that hands back a list of operations of its own. -/
def OpsPost (l : List OpV) (w : World) (e : Ending) (w' : World) : Prop := ∃ a c, e = .returned (.slice a l.length c) ∧ OwnOps w' w.heap.size w'.heap.size a l.length l ∧ Below w.heap.size w w'

/-- The order of operations by device and number, as a number below, at or above 0. -/
def orI2 (x y : Int) : Int := if x ≠ 0 then x else y
def numI (d q d' q' : Int) : Int := orI2 (cmpI d d') (cmpI q q')
theorem num_lt (d q d' q' : Int) : numB d q d' q' = decide (numI d q d' q' < 0) := by
  unfold numB
  rw [decide_eq_decide]
  unfold numI orI2
  rcases Int.lt_trichotomy d d' with g | g | g
  · rw [cmp_lt g, if_pos (by decide)]; omega
  · rw [cmp_eq g, if_neg (by decide)]
    rcases Int.lt_trichotomy q q' with k | k | k
    · rw [cmp_lt k]; omega
    · rw [cmp_eq k]; omega
    · rw [cmp_gt k]; omega
  · rw [cmp_gt g, if_pos (by decide)]; omega

set_option maxRecDepth 100000 in
set_option maxHeartbeats 1000000 in
theorem cmpOr2 (x y : Int) (b : Nat) (w : World) (h0 : w.cell? ⟨b, 0, none⟩ = some (.int .i64 x)) (h1 : w.cell? ⟨b, 1, none⟩ = some (.int .i64 y)) : Calls Try.prog 105 #[.slice (some ⟨b, 0, none⟩) 2 2] w fun e w' => e = .returned (.int .i64 (orI2 x y)) ∧ w = w' := by
  by_cases hx : x = 0
  · have z0 : (x != 0) = false := by rw [hx]; rfl
    have HI : Hid (orI2 x y = y) := if_neg (fun h => h hx)
    clear hx
    by_cases hy : y = 0
    · have z1 : (y != 0) = false := by rw [hy]; rfl
      have HV : Hid (orI2 x y = 0) := HI.out.trans hy
      clear hy
      go_enter Try.func105, Try.ntmps105
      go_wp2
      go_loop [8] (fun i => ∃ k : Nat, k ≤ 2 ∧ i = .int .i64 k) (fun i => 2 - (intOf i).toNat)
      case atStart => exact ⟨0, by omega, rfl⟩
      case round =>
        obtain ⟨k, hk, rfl⟩ := hrel
        obtain rfl | rfl | rfl : k = 0 ∨ k = 1 ∨ k = 2 := by omega
        · go_wp2
          go_round
          case rel => exact ⟨1, by omega, by go_num⟩
          case measure => simp [intOf]
        · go_wp2
          go_round
          case rel => exact ⟨2, by omega, by go_num⟩
          case measure => simp [intOf]
        · go_wp2
          go_ret
          exact ⟨by rw [HV.out]; rfl, rfl⟩
    · have z1 : (y != 0) = true := by rw [bne_iff_ne]; exact hy
      have HV : Hid (orI2 x y = y) := HI.out
      clear hy
      go_enter Try.func105, Try.ntmps105
      go_wp2
      go_loop [8] (fun i => ∃ k : Nat, k ≤ 1 ∧ i = .int .i64 k) (fun i => 2 - (intOf i).toNat)
      case atStart => exact ⟨0, by omega, rfl⟩
      case round =>
        obtain ⟨k, hk, rfl⟩ := hrel
        obtain rfl | rfl : k = 0 ∨ k = 1 := by omega
        · go_wp2
          go_round
          case rel => exact ⟨1, by omega, by go_num⟩
          case measure => simp [intOf]
        · go_wp2
          go_ret
          exact ⟨by rw [HV.out]; rfl, rfl⟩
  · have z0 : (x != 0) = true := by rw [bne_iff_ne]; exact hx
    have HV : Hid (orI2 x y = x) := if_pos hx
    clear hx
    go_enter Try.func105, Try.ntmps105
    go_wp2
    go_loop [8] (fun i => ∃ k : Nat, k ≤ 0 ∧ i = .int .i64 k) (fun i => 2 - (intOf i).toNat)
    case atStart => exact ⟨0, by omega, rfl⟩
    case round =>
      obtain ⟨k, hk, rfl⟩ := hrel
      obtain rfl : k = 0 := by omega
      go_wp2
      go_ret
      exact ⟨by rw [HV.out]; rfl, rfl⟩
set_option maxRecDepth 100000 in
set_option maxHeartbeats 1000000 in
theorem byNumber (dev1 seq1 stamp1 kind1 : Int) (item1 : ByteArray) (qty1 level1 undos1 : Int) (dev2 seq2 stamp2 kind2 : Int) (item2 : ByteArray) (qty2 level2 undos2 : Int) (w : World) : Calls Try.prog 146 #[.agg #[.int .i64 dev1, .int .i64 seq1, .int .i64 stamp1, .int .i64 kind1, .string item1, .int .i64 qty1, .int .i64 level1, .int .i64 undos1], .agg #[.int .i64 dev2, .int .i64 seq2, .int .i64 stamp2, .int .i64 kind2, .string item2, .int .i64 qty2, .int .i64 level2, .int .i64 undos2]] w fun e w' => e = .returned (.int .i64 (numI dev1 seq1 dev2 seq2)) ∧ Below w.heap.size w w' := by
  have hT := Two.mk0 w #[.int .i64 dev1, .int .i64 seq1, .int .i64 stamp1, .int .i64 kind1, .string item1, .int .i64 qty1, .int .i64 level1, .int .i64 undos1] #[.int .i64 dev2, .int .i64 seq2, .int .i64 stamp2, .int .i64 kind2, .string item2, .int .i64 qty2, .int .i64 level2, .int .i64 undos2] 34
  have HT := Lib.hid hT
  go_enter Try.func146, Try.ntmps146
  go_wp2_with fail
  generalize (w.alloc (.cells #[.int .i64 dev1, .int .i64 seq1, .int .i64 stamp1, .int .i64 kind1, .string item1, .int .i64 qty1, .int .i64 level1, .int .i64 undos1] 34)).alloc (.cells #[.int .i64 dev2, .int .i64 seq2, .int .i64 stamp2, .int .i64 kind2, .string item2, .int .i64 qty2, .int .i64 level2, .int .i64 undos2] 34) = w2 at hT HT ⊢
  have c10 := cell_of_row _ _ 0 _ _ _ hT.fst
  have c11 := cell_of_row _ _ 1 _ _ _ hT.fst
  have c20 := cell_of_row _ _ 0 _ _ _ hT.snd
  have c21 := cell_of_row _ _ 1 _ _ _ hT.snd
  simp only [List.getElem?_toArray, List.getElem?_cons_zero, List.getElem?_cons_succ] at c10 c11 c20 c21
  have hlt1 := lt_of_row HT.out.fst
  have hlt2 := lt_of_row HT.out.snd
  clear hT
  go_region_held3 (fun w' => w'.cell? ⟨w.heap.size, 0, none⟩ = some (.int .i64 dev1) ∧ w'.cell? ⟨w.heap.size + 1, 0, none⟩ = some (.int .i64 dev2) ∧ w'.cell? ⟨w.heap.size, 1, none⟩ = some (.int .i64 seq1) ∧ w'.cell? ⟨w.heap.size + 1, 1, none⟩ = some (.int .i64 seq2)) (first | exact ⟨c10, c20, c11, c21⟩ | go_keep)
    (first | (go_at_call 106; refine (compare _ _ _).mono ?_; rintro e w' ⟨rfl, rfl⟩) | (go_at_call 105; refine (cmpOr2 (cmpI dev1 dev2) (cmpI seq1 seq2) _ _ ?_ ?_).mono ?_; (simp); (simp); rintro e w' ⟨rfl, rfl⟩))
  go_wp2
  go_ret
  exact ⟨rfl, HT.out.bel.trans (((Below.refl _ w2).alloc (Nat.le_refl _) _).drew.mono HT.out.bel.size)⟩

set_option maxRecDepth 100000 in
theorem numbered (w : World) (a : Option Addr) (n c : Nat) : Calls Try.prog 79 #[.slice a n c] w fun e w' => e = .returned (.agg #[.slice a n c, .func (.func 146) #[] #[]]) ∧ Below w.heap.size w w' := by
  go_enter Try.func79, Try.ntmps79
  go_wp2
  refine bodyPost_ret (v := .agg #[.slice a n c, .func (.func 146) #[] #[]]) (by simp [results, Try.results79, go_sem]) rfl ⟨rfl, ?_⟩
  go_grown
set_option maxRecDepth 100000 in
set_option maxHeartbeats 1000000 in
theorem cloneOps (w : World) (B b off n cap : Nat) (l : List OpV) (h : Ops w B (some ⟨b, off, none⟩) n l) (hB : B ≤ w.heap.size) (hl : n ≤ 1048576) : Calls Try.prog 155 #[.slice (some ⟨b, off, none⟩) n cap] w (OpsPost l w) := by
  obtain ⟨i0, hi, hz0, hz1, hz2⟩ := info_parts Try.infoOp
  have hnil := fun w => Lib.run_eql_slice_nil (P := Try.prog) w 25 34 (some ⟨b, off, none⟩) n cap 0 0 Try.underlying25
  have hown : (w.alloc (.cells #[] 34)).ownsRow w.heap.size 34 8 (.slice (some ⟨w.heap.size, 0, none⟩) 0 0) 0 [] := World.ownsRow_made w #[] 0 (Nat.le_refl _) (by unfold maxLen; omega) rfl
  have hL := Lib.hid h.1
  have H := Lib.hid h
  clear h
  go_enter Try.func155, Try.ntmps155
  go_wp2_with (at_builtin; refine wpList_append_own _ rfl _ _ 25 rfl w.heap.size 34 i0 (.agg #[.int .i64 0, .int .i64 0, .int .i64 0, .int .i64 0, .string ⟨#[]⟩, .int .i64 0, .int .i64 0, .int .i64 0]) 8 72 Try.underlying25 hi hz0 hz1 hz2 rfl (by decide) _ _ _ rfl hown ⟨b, off, none⟩ n cap (opCells l) rfl ?c0 ?c1 ?c2 ?c3 ?c4 ?c5 ?_)
  case c0 => rw [opCells_len, hL.out]
  case c1 => exact cells_of_ops (H.out.below ((Below.refl w.heap.size w).alloc (Nat.le_refl _) _) hB)
  case c2 => exact opCells_one l
  case c3 => unfold maxLen; omega
  case c4 => omega
  case c5 => simp
  intro v' w1 hown' hgrow hnn
  have hb1 := ((Below.refl w.heap.size w).alloc (Nat.le_refl _) _).grown hgrow (by simp) (fun j hj => (hown.lt j hj).1)
  have hown2 : w1.ownsRow w.heap.size 34 8 v' n (opCells l) := by simpa using hown'
  obtain ⟨a', cap', hv⟩ : ∃ a' cap', v' = .slice a' n cap' := by
    rcases hown2.2 with ⟨e, e2⟩ | ⟨g, c, cur, e, _⟩
    · exact ⟨none, 0, by rw [e, e2]⟩
    · exact ⟨_, _, e⟩
  subst hv
  have HO := Lib.hid (own_of_cells (hi := w1.heap.size) hown2 (Nat.le_refl _))
  clear hown' hown2 hgrow hown hnn
  go_wp2
  go_ret
  exact ⟨a', cap', by rw [hL.out]; rfl, by rw [hL.out]; exact HO.out, hb1⟩
set_option maxRecDepth 100000 in
set_option maxHeartbeats 1000000 in
theorem cloneZero (w : World) (ad : Addr) (cap : Nat) : Calls Try.prog 155 #[.slice (some ad) 0 cap] w (OpsPost [] w) := by
  obtain ⟨i0, hi, hz0, hz1, hz2⟩ := info_parts Try.infoOp
  have hnil := fun w => Lib.run_eql_slice_nil (P := Try.prog) w 25 34 (some ad) 0 cap 0 0 Try.underlying25
  have hown : (w.alloc (.cells #[] 34)).ownsRow w.heap.size 34 8 (.slice (some ⟨w.heap.size, 0, none⟩) 0 0) 0 [] := World.ownsRow_made w #[] 0 (Nat.le_refl _) (by unfold maxLen; omega) rfl
  go_enter Try.func155, Try.ntmps155
  go_wp2_with (at_builtin; refine wpList_append_own _ rfl _ _ 25 rfl w.heap.size 34 i0 (.agg #[.int .i64 0, .int .i64 0, .int .i64 0, .int .i64 0, .string ⟨#[]⟩, .int .i64 0, .int .i64 0, .int .i64 0]) 8 72 Try.underlying25 hi hz0 hz1 hz2 rfl (by decide) _ _ _ rfl hown ad 0 cap [] rfl ?c0 ?c1 ?c2 ?c3 ?c4 ?c5 ?_)
  case c0 => rfl
  case c1 => intro j u hj; cases hj
  case c2 => intro u hu; cases hu
  case c3 => unfold maxLen; omega
  case c4 => omega
  case c5 => simp
  intro v' w1 hown' hgrow hnn
  have hb1 := ((Below.refl w.heap.size w).alloc (Nat.le_refl _) _).grown hgrow (by simp) (fun j hj => (hown.lt j hj).1)
  obtain ⟨a', cap', hv⟩ : ∃ a' cap', v' = .slice a' 0 cap' := by
    rcases hown'.2 with ⟨e, _⟩ | ⟨g, c, cur, e, _⟩
    · exact ⟨none, 0, e⟩
    · exact ⟨_, _, e⟩
  subst hv
  clear hown' hgrow hown hnn
  go_wp2
  go_ret
  exact ⟨a', cap', rfl, own_none _ _ _ _, hb1⟩
set_option maxRecDepth 100000 in
theorem cloneNil (w : World) : Calls Try.prog 155 #[.slice none 0 0] w fun e w' => e = .returned (.slice none 0 0) ∧ w = w' := by
  have hnil := fun w => Lib.run_eql_slice_nil (P := Try.prog) w 25 34 none 0 0 0 0 Try.underlying25
  go_enter Try.func155, Try.ntmps155
  go_wp2
  go_ret
  exact ⟨rfl, rfl⟩
theorem strClone (s : ByteArray) (h : s.size ≤ 1048576) (w : World) : Calls Try.prog 156 #[.string s] w fun e w' => e = .returned (.string s) ∧ Below w.heap.size w w' := by
  go_enter Try.func156, Try.ntmps156
  go_wp2_with fail
  refine (Try.stringslite_Clone s _ (by omega)).mono ?_
  rintro e w1 ⟨rfl, hb1⟩
  go_wp2
  go_ret
  exact ⟨rfl, hb1⟩
set_option maxRecDepth 100000 in
set_option maxHeartbeats 2000000 in
theorem copiedOps (w : World) (B : Nat) (a : Option Addr) (n cap : Nat) (l : List OpV) (h : Ops w B a n l) (hB : B ≤ w.heap.size) (hn : n ≤ 1048576) (hcap : a = none → cap = 0) (hm : ∀ i, i < n → (l.getD i OpV.zero).item.size ≤ 1048576) : Calls Try.prog 93 #[.slice a n cap] w (OpsPost l w) := by
  by_cases h0 : 0 < n
  · obtain ⟨b, off, rfl, hb, _⟩ := h.2 0 h0
    have HL := Lib.hid h.1
    have HM := Lib.hid hm
    clear hm hcap
    go_enter Try.func93, Try.ntmps93
    go_wp2_with fail
    refine (cloneOps w B b off n cap l h hB hn).mono ?_
    rintro e w1 ⟨a1, c1, rfl, ho, hb1⟩
    have HC1 : Hid (∃ g o1, a1 = some ⟨g, o1, none⟩ ∧ w.heap.size ≤ g ∧ CS g o1 n l w w1) := by
      rw [h.1] at ho
      obtain ⟨g, o1, cs, e1, h1, h2, hg, hs, hc⟩ := ho.2 h0
      exact ⟨g, o1, e1, h1, hb1, cs, hg, hs, hc⟩
    clear ho hb1 h
    obtain ⟨g, o1, rfl, hg0, hcs⟩ := HC1.out
    have HC := Lib.hid hcs
    clear hcs HC1
    rw [HL.out]
    go_wp2
    go_loopw [4, 9] (fun _ i wr => ∃ k : Nat, k ≤ n ∧ i = .int .i64 (k : Int) ∧ Hid (CS g o1 n l w wr)) (fun _ i _ => n - (intOf i).toNat)
    case atStart => exact ⟨0, by omega, rfl, HC⟩
    case round =>
      obtain ⟨k, hk, rfl, HR⟩ := hrel
      by_cases hlt : k < n
      rotate_left
      · obtain rfl : k = n := by omega
        have HP : Hid (OpsPost l w (.returned (.slice (some ⟨g, o1, none⟩) k c1)) wr) := by
          obtain ⟨h1, cs, hg, hs, hc⟩ := HR.out
          exact ⟨some ⟨g, o1, none⟩, c1, by rw [HL.out], ⟨rfl, fun _ => ⟨g, o1, cs, rfl, hg0, (Array.getElem?_eq_some_iff.1 hg).1, hg, by rw [HL.out]; exact hs, by rw [HL.out]; exact hc⟩⟩, h1⟩
        go_wp2
        go_ret
        exact HP.out
      have hit := HM.out k hlt
      have hput := fun w2 (h : CS g o1 n l w w2) => h.put hg0 hlt
      have HPut := Lib.hid hput
      clear hput
      have HCell : Hid (∀ w2, CS g o1 n l w w2 → w2.cell? ⟨g, o1 + k * 8 + 4, none⟩ = some (.string (l.getD k OpV.zero).item) ∧ w2.frozen? ⟨g, o1 + k * 8 + 4, none⟩ = false) := fun w2 h => by
        obtain ⟨_, cs, hg, _, hc⟩ := h
        exact ⟨((hc k hlt).at hg).2.2.2.2.1, frozen_of_row _ _ _ _ _ hg⟩
      generalize (l.getD k OpV.zero).item = s at hit HPut HCell
      have c4 := (HCell.out wr HR.out).1
      go_wp2_with fail
      refine (strClone s hit _).mono ?_
      rintro e w2 ⟨rfl, hb2⟩
      have HR2 := Lib.hid (HR.out.step hb2)
      clear c4 hb2 HR
      have c4 := (HCell.out w2 HR2.out).1
      have f4 := (HCell.out w2 HR2.out).2
      have HR3 := Lib.hid (HPut.out w2 HR2.out)
      go_wp2
      go_roundw
      case rel => exact ⟨k + 1, by omega, by go_num, HR3⟩
      case measure => simp [intOf]; omega
  · obtain rfl : n = 0 := by omega
    have hl : l = [] := List.eq_nil_of_length_eq_zero h.1
    subst hl
    clear h0 hm
    rcases a with _ | ad
    · obtain rfl := hcap rfl
      go_enter Try.func93, Try.ntmps93
      go_wp2_with fail
      refine (cloneNil w).mono ?_
      rintro e w1 ⟨rfl, rfl⟩
      go_wp2
      refine wp_loop_rounds 1 ?_
      rw [rounds_succ]
      go_wp2
      go_ret
      exact ⟨none, 0, rfl, own_none _ _ _ _, Below.refl _ _⟩
    · clear hcap h
      go_enter Try.func93, Try.ntmps93
      go_wp2_with fail
      refine (cloneZero w ad cap).mono ?_
      rintro e w1 ⟨a1, c1, rfl, ho, hb1⟩
      have HB := Lib.hid hb1
      clear ho hb1
      go_wp2
      refine wp_loop_rounds 1 ?_
      rw [rounds_succ]
      go_wp2
      go_ret
      exact ⟨a1, c1, rfl, own_none _ _ _ _, HB.out⟩
theorem filt_step {q : OpV → Bool} {l : List OpV} {k : Nat} (hk : k < l.length) : (l.take (k + 1)).filter q = if q (atOp l k) = true then (l.take k).filter q ++ [atOp l k] else (l.take k).filter q := by
  have e : l[k] = atOp l k := by unfold atOp; rw [List.getD_eq_getElem?_getD, List.getElem?_eq_getElem hk]; rfl
  rw [List.take_succ_eq_append_getElem hk, List.filter_append, e]
  by_cases h : q (atOp l k) = true
  · rw [if_pos h, List.filter_cons_of_pos h]; rfl
  · rw [if_neg h, List.filter_cons_of_neg h]; simp
theorem op_cells9 {w : World} {b : Nat} {v0 v1 v2 v3 v4 v5 v6 v7 : Value} {T : TypeId} {fr : Nat × Nat} (h : w.heap[b]? = some (.cells #[v0, v1, v2, v3, v4, v5, v6, v7] T fr)) : w.cell? ⟨b, 0, none⟩ = some v0 ∧ w.cell? ⟨b, 1, none⟩ = some v1 ∧ w.cell? ⟨b, 2, none⟩ = some v2 ∧ w.cell? ⟨b, 3, none⟩ = some v3 ∧ w.cell? ⟨b, 4, none⟩ = some v4 ∧ w.cell? ⟨b, 5, none⟩ = some v5 ∧ w.cell? ⟨b, 6, none⟩ = some v6 ∧ w.cell? ⟨b, 7, none⟩ = some v7 :=
  ⟨cell_of_row _ _ _ _ _ _ h, cell_of_row _ _ _ _ _ _ h, cell_of_row _ _ _ _ _ _ h, cell_of_row _ _ _ _ _ _ h, cell_of_row _ _ _ _ _ _ h, cell_of_row _ _ _ _ _ _ h, cell_of_row _ _ _ _ _ _ h, cell_of_row _ _ _ _ _ _ h⟩
theorem numI_neg {d q d' q' : Int} : numI d q d' q' < 0 ↔ numB d q d' q' = true := by rw [num_lt]; exact decide_eq_true_iff.symm
theorem numI_zero {d q d' q' : Int} : numI d q d' q' = 0 ↔ d = d' ∧ q = q' := by
  unfold numI orI2
  rcases Int.lt_trichotomy d d' with g | g | g
  · rw [cmp_lt g, if_pos (by decide)]; omega
  · rw [cmp_eq g, if_neg (by decide)]
    rcases Int.lt_trichotomy q q' with k | k | k
    · rw [cmp_lt k]; omega
    · rw [cmp_eq k]; omega
    · rw [cmp_gt k]; omega
  · rw [cmp_gt g, if_pos (by decide)]; omega
/-- How an operation of a list compares with x. -/
def cmpAt (l : List OpV) (x : OpV) (j : Nat) : Int := numI (atOp l j).dev (atOp l j).seq x.dev x.seq
theorem cmp_down {l : List OpV} {x : OpV} (h : incB l = true) {m : Nat} (hm : m < l.length) (hc : cmpAt l x m < 0) : ∀ j, j < m + 1 → cmpAt l x j < 0 := fun j hj => by
  rcases Nat.lt_or_ge j m with h1 | h1
  · exact numI_neg.2 (num_trans (inc_lt h m j h1 hm) (numI_neg.1 hc))
  · obtain rfl : j = m := by omega
    exact hc
theorem cmp_up {l : List OpV} {x : OpV} (h : incB l = true) {m : Nat} (hc : 0 ≤ cmpAt l x m) : ∀ j, m ≤ j → j < l.length → 0 ≤ cmpAt l x j := fun j hj hl => by
  rcases Nat.lt_or_ge m j with h1 | h1
  · refine Int.not_lt.1 fun hn => ?_
    have : cmpAt l x m < 0 := numI_neg.2 (num_trans (inc_lt h j m h1 hl) (numI_neg.1 hn))
    omega
  · obtain rfl : j = m := by omega
    exact hc
theorem none_of {l : List OpV} {x : OpV} (h : incB l = true) {k : Nat} (h1 : ∀ j, j < k → cmpAt l x j < 0) (h2 : k < l.length → 0 ≤ cmpAt l x k ∧ cmpAt l x k ≠ 0) : ∀ j, j < l.length → ¬ eqN l j x.dev x.seq := fun j hj e => by
  have ez : cmpAt l x j = 0 := numI_zero.2 e
  rcases Nat.lt_trichotomy j k with g | g | g
  · have := h1 j g; omega
  · subst g
    exact (h2 hj).2 ez
  · have hlt := inc_lt h j k g hj
    unfold eqN at e
    rw [e.1, e.2] at hlt
    have a1 := (h2 (by omega)).1
    have a2 : cmpAt l x k < 0 := numI_neg.2 hlt
    omega
def Found (l : List OpV) (x : OpV) (i : Nat) (b : Bool) : Prop := i ≤ l.length ∧ (b = true → i < l.length ∧ eqN l i x.dev x.seq) ∧ (b = false → ∀ j, j < l.length → ¬ eqN l j x.dev x.seq)
theorem found_end {l : List OpV} {x : OpV} (h : incB l = true) (h1 : ∀ j, j < l.length → cmpAt l x j < 0) : Found l x l.length false :=
  ⟨Nat.le_refl _, fun h => (by cases h), fun _ => none_of h h1 (fun h => absurd h (by omega))⟩
theorem found_mid {l : List OpV} {x : OpV} (h : incB l = true) {k : Nat} (hk : k < l.length) (h1 : ∀ j, j < k → cmpAt l x j < 0) (h2 : 0 ≤ cmpAt l x k) : Found l x k (decide (cmpAt l x k = 0)) :=
  ⟨by omega, fun e => ⟨hk, numI_zero.1 (of_decide_eq_true e)⟩, fun e => none_of h h1 fun _ => ⟨h2, of_decide_eq_false e⟩⟩

set_option linter.unusedSimpArgs false in
set_option maxRecDepth 100000 in
set_option maxHeartbeats 4000000 in
theorem binSearch (w : World) (B : Nat) (a : Option Addr) (n c : Nat) (l : List OpV) (x : OpV) (h : Ops w B a n l) (hB : B ≤ w.heap.size) (hn : n ≤ 1048576) (hinc : incB l = true) :
    Calls Try.prog 147 #[.slice a n c, .agg #[.int .i64 x.dev, .int .i64 x.seq, .int .i64 x.stamp, .int .i64 x.kind, .string x.item, .int .i64 x.qty, .int .i64 x.level, .int .i64 x.undos], .func (.func 146) #[] #[]] w fun e w' => (∃ (i : Nat) (b : Bool), e = .returned (.tuple #[.int .i64 (i : Int), .bool b]) ∧ Found l x i b) ∧ Below w.heap.size w w' := by
  have hb0 : Below w.heap.size w (w.alloc (.cells #[.int .i64 x.dev, .int .i64 x.seq, .int .i64 x.stamp, .int .i64 x.kind, .string x.item, .int .i64 x.qty, .int .i64 x.level, .int .i64 x.undos] 34)) := (Below.refl _ w).alloc (Nat.le_refl _) _
  have HO := Lib.hid (h.below hb0 hB)
  have HB := Lib.hid hb0
  have HX := Lib.hid (boxAt (Below.refl _ (w.alloc (.cells #[.int .i64 x.dev, .int .i64 x.seq, .int .i64 x.stamp, .int .i64 x.kind, .string x.item, .int .i64 x.qty, .int .i64 x.level, .int .i64 x.undos] 34))))
  have HL := Lib.hid h.1
  have HInc := Lib.hid hinc
  have hsz : w.heap.size < (w.alloc (.cells #[.int .i64 x.dev, .int .i64 x.seq, .int .i64 x.stamp, .int .i64 x.kind, .string x.item, .int .i64 x.qty, .int .i64 x.level, .int .i64 x.undos] 34)).heap.size := by show _ < (w.heap.push _).size; simp
  clear h hb0 hinc
  go_enter Try.func147, Try.ntmps147
  go_upto_region 1 with fail
  generalize w.alloc (.cells #[.int .i64 x.dev, .int .i64 x.seq, .int .i64 x.stamp, .int .i64 x.kind, .string x.item, .int .i64 x.qty, .int .i64 x.level, .int .i64 x.undos] 34) = w0 at HO HB HX hsz ⊢
  go_wp2
  go_loopw [9, 10] (fun s t wr => ∃ lo hi : Nat, lo ≤ hi ∧ hi ≤ n ∧ s = .int .i64 (lo : Int) ∧ t = .int .i64 (hi : Int) ∧ Hid ((∀ j, j < lo → cmpAt l x j < 0) ∧ ∀ j, hi ≤ j → j < n → 0 ≤ cmpAt l x j) ∧ Hid (Below w0.heap.size w0 wr)) (fun s t _ => (intOf t - intOf s).toNat)
  case atStart => exact ⟨0, n, by omega, by omega, rfl, rfl, ⟨fun j hj => absurd hj (by omega), fun j h1 h2 => absurd h1 (by omega)⟩, Below.refl _ _⟩
  case round =>
    obtain ⟨lo, hi, hlh, hhn, rfl, rfl, HR, HBr⟩ := hrel
    obtain ⟨e0, e1, e2, e3, e4, e5, e6, e7⟩ := op_cells9 ((HBr.out.block _ (by omega)).trans HX.out)
    by_cases hlt : lo < hi
    · have hli : (lo : Int) < (hi : Int) := by omega
      obtain ⟨m, hm⟩ : ∃ m, m = (lo + hi) / 2 := ⟨_, rfl⟩
      have hmi : ((lo : Int) + (hi : Int)) / 2 = (m : Int) := by omega
      have hmn : m < n := by omega
      have hml : lo ≤ m ∧ m < hi := by omega
      obtain ⟨hml1, hml2⟩ := hml
      clear hm
      go_upto_region 5 with fail
      have hmn' : (m : Int) < (n : Int) := by omega
      obtain ⟨b, off, rfl, hb, ho⟩ := HO.out.2 m hmn
      have HOk : Hid (OpAt w0 b (off + m * 8) (atOp l m)) := ho
      clear ho
      have HC : Hid (cmpAt l x m = numI (atOp l m).dev (atOp l m).seq x.dev x.seq) := rfl
      generalize atOp l m = y at HOk HC
      obtain ⟨d0, d1, d2, d3, d4, d5, d6, d7⟩ := HOk.out.kept (HBr.out.block b (by omega))
      have hS : wr.drew.cell? ⟨b, off + m * 8, none⟩ = some (.int .i64 y.dev) ∧ wr.drew.cell? ⟨b, off + m * 8 + 1, none⟩ = some (.int .i64 y.seq) ∧ wr.drew.cell? ⟨b, off + m * 8 + 2, none⟩ = some (.int .i64 y.stamp) ∧ wr.drew.cell? ⟨b, off + m * 8 + 3, none⟩ = some (.int .i64 y.kind) ∧ wr.drew.cell? ⟨b, off + m * 8 + 4, none⟩ = some (.string y.item) ∧ wr.drew.cell? ⟨b, off + m * 8 + 5, none⟩ = some (.int .i64 y.qty) ∧ wr.drew.cell? ⟨b, off + m * 8 + 6, none⟩ = some (.int .i64 y.level) ∧ wr.drew.cell? ⟨b, off + m * 8 + 7, none⟩ = some (.int .i64 y.undos) ∧ wr.drew.cell? ⟨w.heap.size, 0, none⟩ = some (.int .i64 x.dev) ∧ wr.drew.cell? ⟨w.heap.size, 1, none⟩ = some (.int .i64 x.seq) ∧ wr.drew.cell? ⟨w.heap.size, 2, none⟩ = some (.int .i64 x.stamp) ∧ wr.drew.cell? ⟨w.heap.size, 3, none⟩ = some (.int .i64 x.kind) ∧ wr.drew.cell? ⟨w.heap.size, 4, none⟩ = some (.string x.item) ∧ wr.drew.cell? ⟨w.heap.size, 5, none⟩ = some (.int .i64 x.qty) ∧ wr.drew.cell? ⟨w.heap.size, 6, none⟩ = some (.int .i64 x.level) ∧ wr.drew.cell? ⟨w.heap.size, 7, none⟩ = some (.int .i64 x.undos) := ⟨d0, d1, d2, d3, d4, d5, d6, d7, e0, e1, e2, e3, e4, e5, e6, e7⟩
      go_wp2_with fail
      go_region_held3 (fun w' => w'.cell? ⟨b, off + m * 8, none⟩ = some (.int .i64 y.dev) ∧ w'.cell? ⟨b, off + m * 8 + 1, none⟩ = some (.int .i64 y.seq) ∧ w'.cell? ⟨b, off + m * 8 + 2, none⟩ = some (.int .i64 y.stamp) ∧ w'.cell? ⟨b, off + m * 8 + 3, none⟩ = some (.int .i64 y.kind) ∧ w'.cell? ⟨b, off + m * 8 + 4, none⟩ = some (.string y.item) ∧ w'.cell? ⟨b, off + m * 8 + 5, none⟩ = some (.int .i64 y.qty) ∧ w'.cell? ⟨b, off + m * 8 + 6, none⟩ = some (.int .i64 y.level) ∧ w'.cell? ⟨b, off + m * 8 + 7, none⟩ = some (.int .i64 y.undos) ∧ w'.cell? ⟨w.heap.size, 0, none⟩ = some (.int .i64 x.dev) ∧ w'.cell? ⟨w.heap.size, 1, none⟩ = some (.int .i64 x.seq) ∧ w'.cell? ⟨w.heap.size, 2, none⟩ = some (.int .i64 x.stamp) ∧ w'.cell? ⟨w.heap.size, 3, none⟩ = some (.int .i64 x.kind) ∧ w'.cell? ⟨w.heap.size, 4, none⟩ = some (.string x.item) ∧ w'.cell? ⟨w.heap.size, 5, none⟩ = some (.int .i64 x.qty) ∧ w'.cell? ⟨w.heap.size, 6, none⟩ = some (.int .i64 x.level) ∧ w'.cell? ⟨w.heap.size, 7, none⟩ = some (.int .i64 x.undos)) (first | with_reducible exact hS | with_reducible exact hS2)
        (first | (go_at_call 146; refine (byNumber y.dev y.seq y.stamp y.kind y.item y.qty y.level y.undos x.dev x.seq x.stamp x.kind x.item x.qty x.level x.undos _).mono ?_; rintro e w2 ⟨rfl, hb2⟩; have ⟨q0, q1, q2, q3, q4, q5, q6, q7, q8, q9, q10, q11, q12, q13, q14, q15⟩ := hS; have hS2 : w2.cell? ⟨b, off + m * 8, none⟩ = some (.int .i64 y.dev) ∧ w2.cell? ⟨b, off + m * 8 + 1, none⟩ = some (.int .i64 y.seq) ∧ w2.cell? ⟨b, off + m * 8 + 2, none⟩ = some (.int .i64 y.stamp) ∧ w2.cell? ⟨b, off + m * 8 + 3, none⟩ = some (.int .i64 y.kind) ∧ w2.cell? ⟨b, off + m * 8 + 4, none⟩ = some (.string y.item) ∧ w2.cell? ⟨b, off + m * 8 + 5, none⟩ = some (.int .i64 y.qty) ∧ w2.cell? ⟨b, off + m * 8 + 6, none⟩ = some (.int .i64 y.level) ∧ w2.cell? ⟨b, off + m * 8 + 7, none⟩ = some (.int .i64 y.undos) ∧ w2.cell? ⟨w.heap.size, 0, none⟩ = some (.int .i64 x.dev) ∧ w2.cell? ⟨w.heap.size, 1, none⟩ = some (.int .i64 x.seq) ∧ w2.cell? ⟨w.heap.size, 2, none⟩ = some (.int .i64 x.stamp) ∧ w2.cell? ⟨w.heap.size, 3, none⟩ = some (.int .i64 x.kind) ∧ w2.cell? ⟨w.heap.size, 4, none⟩ = some (.string x.item) ∧ w2.cell? ⟨w.heap.size, 5, none⟩ = some (.int .i64 x.qty) ∧ w2.cell? ⟨w.heap.size, 6, none⟩ = some (.int .i64 x.level) ∧ w2.cell? ⟨w.heap.size, 7, none⟩ = some (.int .i64 x.undos) := ⟨(hb2.cell (block_lt_of_cell q0)).trans q0, (hb2.cell (block_lt_of_cell q1)).trans q1, (hb2.cell (block_lt_of_cell q2)).trans q2, (hb2.cell (block_lt_of_cell q3)).trans q3, (hb2.cell (block_lt_of_cell q4)).trans q4, (hb2.cell (block_lt_of_cell q5)).trans q5, (hb2.cell (block_lt_of_cell q6)).trans q6, (hb2.cell (block_lt_of_cell q7)).trans q7, (hb2.cell (block_lt_of_cell q8)).trans q8, (hb2.cell (block_lt_of_cell q9)).trans q9, (hb2.cell (block_lt_of_cell q10)).trans q10, (hb2.cell (block_lt_of_cell q11)).trans q11, (hb2.cell (block_lt_of_cell q12)).trans q12, (hb2.cell (block_lt_of_cell q13)).trans q13, (hb2.cell (block_lt_of_cell q14)).trans q14, (hb2.cell (block_lt_of_cell q15)).trans q15⟩; clear q0 q1 q2 q3 q4 q5 q6 q7 q8 q9 q10 q11 q12 q13 q14 q15))
      have HB2 := Lib.hid (HBr.out.trans ((Below.mk hb2.os hb2.tape hb2.output hb2.size hb2.block : Below wr.heap.size wr w2).mono HBr.out.size))
      clear hS hS2 hb2 d0 d1 d2 d3 d4 d5 d6 d7 e0 e1 e2 e3 e4 e5 e6 e7
      have HDn := Lib.hid (fun hc => cmp_down (x := x) HInc.out (m := m) (by rw [HL.out]; exact hmn) hc)
      have HUp := Lib.hid (fun hc => cmp_up (x := x) HInc.out (m := m) hc)
      rw [← HC.out]
      generalize cmpAt l x m = cm at HDn HUp ⊢
      by_cases hc : cm < 0
      · have HRn : Hid ((∀ j, j < m + 1 → cmpAt l x j < 0) ∧ ∀ j, hi ≤ j → j < n → 0 ≤ cmpAt l x j) := ⟨HDn.out hc, HR.out.2⟩
        go_wp2
        go_roundw
        case rel => exact ⟨m + 1, hi, by omega, by omega, by go_num, rfl, HRn, HB2⟩
        case measure => simp [intOf]; omega
      · have HRn : Hid ((∀ j, j < lo → cmpAt l x j < 0) ∧ ∀ j, m ≤ j → j < n → 0 ≤ cmpAt l x j) := ⟨HR.out.1, fun j h1 h2 => HUp.out (by omega) j h1 (by rw [HL.out]; exact h2)⟩
        go_wp2
        go_roundw
        case rel => exact ⟨lo, m, by omega, by omega, rfl, by go_num, HRn, HB2⟩
        case measure => simp [intOf]; omega
    obtain rfl : lo = hi := by omega
    have hll : ¬ (lo : Int) < (lo : Int) := by omega
    clear hlt
    by_cases hend : lo < n
    · have hei : (lo : Int) < (n : Int) := by omega
      have HFo := Lib.hid (found_mid (x := x) HInc.out (k := lo) (by rw [HL.out]; exact hend) HR.out.1 (HR.out.2 lo (Nat.le_refl _) hend))
      obtain ⟨b, off, rfl, hb, ho⟩ := HO.out.2 lo hend
      have HOk : Hid (OpAt w0 b (off + lo * 8) (atOp l lo)) := ho
      clear ho
      have HC : Hid (cmpAt l x lo = numI (atOp l lo).dev (atOp l lo).seq x.dev x.seq) := rfl
      generalize atOp l lo = y at HOk HC
      obtain ⟨d0, d1, d2, d3, d4, d5, d6, d7⟩ := HOk.out.kept (HBr.out.block b (by omega))
      have hS : wr.drew.cell? ⟨b, off + lo * 8, none⟩ = some (.int .i64 y.dev) ∧ wr.drew.cell? ⟨b, off + lo * 8 + 1, none⟩ = some (.int .i64 y.seq) ∧ wr.drew.cell? ⟨b, off + lo * 8 + 2, none⟩ = some (.int .i64 y.stamp) ∧ wr.drew.cell? ⟨b, off + lo * 8 + 3, none⟩ = some (.int .i64 y.kind) ∧ wr.drew.cell? ⟨b, off + lo * 8 + 4, none⟩ = some (.string y.item) ∧ wr.drew.cell? ⟨b, off + lo * 8 + 5, none⟩ = some (.int .i64 y.qty) ∧ wr.drew.cell? ⟨b, off + lo * 8 + 6, none⟩ = some (.int .i64 y.level) ∧ wr.drew.cell? ⟨b, off + lo * 8 + 7, none⟩ = some (.int .i64 y.undos) ∧ wr.drew.cell? ⟨w.heap.size, 0, none⟩ = some (.int .i64 x.dev) ∧ wr.drew.cell? ⟨w.heap.size, 1, none⟩ = some (.int .i64 x.seq) ∧ wr.drew.cell? ⟨w.heap.size, 2, none⟩ = some (.int .i64 x.stamp) ∧ wr.drew.cell? ⟨w.heap.size, 3, none⟩ = some (.int .i64 x.kind) ∧ wr.drew.cell? ⟨w.heap.size, 4, none⟩ = some (.string x.item) ∧ wr.drew.cell? ⟨w.heap.size, 5, none⟩ = some (.int .i64 x.qty) ∧ wr.drew.cell? ⟨w.heap.size, 6, none⟩ = some (.int .i64 x.level) ∧ wr.drew.cell? ⟨w.heap.size, 7, none⟩ = some (.int .i64 x.undos) := ⟨d0, d1, d2, d3, d4, d5, d6, d7, e0, e1, e2, e3, e4, e5, e6, e7⟩
      go_wp2_with fail
      refine wp_region_held_drew (S := fun w' => w'.cell? ⟨b, off + lo * 8, none⟩ = some (.int .i64 y.dev) ∧ w'.cell? ⟨b, off + lo * 8 + 1, none⟩ = some (.int .i64 y.seq) ∧ w'.cell? ⟨b, off + lo * 8 + 2, none⟩ = some (.int .i64 y.stamp) ∧ w'.cell? ⟨b, off + lo * 8 + 3, none⟩ = some (.int .i64 y.kind) ∧ w'.cell? ⟨b, off + lo * 8 + 4, none⟩ = some (.string y.item) ∧ w'.cell? ⟨b, off + lo * 8 + 5, none⟩ = some (.int .i64 y.qty) ∧ w'.cell? ⟨b, off + lo * 8 + 6, none⟩ = some (.int .i64 y.level) ∧ w'.cell? ⟨b, off + lo * 8 + 7, none⟩ = some (.int .i64 y.undos) ∧ w'.cell? ⟨w.heap.size, 0, none⟩ = some (.int .i64 x.dev) ∧ w'.cell? ⟨w.heap.size, 1, none⟩ = some (.int .i64 x.seq) ∧ w'.cell? ⟨w.heap.size, 2, none⟩ = some (.int .i64 x.stamp) ∧ w'.cell? ⟨w.heap.size, 3, none⟩ = some (.int .i64 x.kind) ∧ w'.cell? ⟨w.heap.size, 4, none⟩ = some (.string x.item) ∧ w'.cell? ⟨w.heap.size, 5, none⟩ = some (.int .i64 x.qty) ∧ w'.cell? ⟨w.heap.size, 6, none⟩ = some (.int .i64 x.level) ∧ w'.cell? ⟨w.heap.size, 7, none⟩ = some (.int .i64 x.undos)) (by kernel_rfl) hS (fun hHeld => ?_)
      refine wpAnyH_take (i := 0) (oi := { dst := some 35, op := .move (.tmp 9), type := 3, pos := "sort.go:167", after := #[], guard := none }) (v := ?_) rfl (by kernel_rfl) (by kernel_rfl) (by kernel_rfl) (fun _ _ _ h => h) (Or.inl ⟨by rfl, ?_⟩) (by assumption) ?_
      rotate_left
      · intro w hSw
        (try dsimp only at hSw)
        first | (go_simp; done) | (go_simp; with_reducible rfl)
      (try simp only [Act.put, List.setIfInBounds_toArray, List.set_cons_zero, List.set_cons_succ])
      refine wpAnyH_take (i := 1) (oi := { dst := some 36, op := .move (.tmp 9), type := 3, pos := "sort.go:167", after := #[], guard := none }) (v := ?_) rfl (by kernel_rfl) (by kernel_rfl) (by kernel_rfl) (fun _ _ _ h => h) (Or.inl ⟨by rfl, ?_⟩) (by assumption) ?_
      rotate_left
      · intro w hSw
        (try dsimp only at hSw)
        first | (go_simp; done) | (go_simp; with_reducible rfl)
      (try simp only [Act.put, List.setIfInBounds_toArray, List.set_cons_zero, List.set_cons_succ])
      refine wpAnyH_take (i := 2) (oi := { dst := some 37, op := .move (.tmp 8), type := 3, pos := "sort.go:167", after := #[], guard := none }) (v := ?_) rfl (by kernel_rfl) (by kernel_rfl) (by kernel_rfl) (fun _ _ _ h => h) (Or.inl ⟨by rfl, ?_⟩) (by assumption) ?_
      rotate_left
      · intro w hSw
        (try dsimp only at hSw)
        first | (go_simp; done) | (go_simp; with_reducible rfl)
      (try simp only [Act.put, List.setIfInBounds_toArray, List.set_cons_zero, List.set_cons_succ])
      refine wpAnyH_take (i := 3) (oi := { dst := some 38, op := .binOp .lss 3 (.tmp 36) (.tmp 37) 3, type := 4, pos := "sort.go:167", after := #[⟨1, .data⟩, ⟨2, .data⟩], guard := none }) (v := ?_) rfl (by kernel_rfl) (by kernel_rfl) (by kernel_rfl) (fun _ _ _ h => h) (Or.inl ⟨by rfl, ?_⟩) (by assumption) ?_
      rotate_left
      · intro w hSw
        (try dsimp only at hSw)
        first | (go_simp; done) | (go_simp; with_reducible rfl)
      (try simp only [Act.put, List.setIfInBounds_toArray, List.set_cons_zero, List.set_cons_succ])
      refine wpAnyH_take (i := 4) (oi := { dst := some 39, op := .move (.tmp 38), type := 4, pos := "sort.go:167", after := #[⟨3, .data⟩], guard := none }) (v := ?_) rfl (by kernel_rfl) (by kernel_rfl) (by kernel_rfl) (fun _ _ _ h => h) (Or.inl ⟨by rfl, ?_⟩) (by assumption) ?_
      rotate_left
      · intro w hSw
        (try dsimp only at hSw)
        first | (go_simp; done) | (go_simp; with_reducible rfl)
      (try simp only [Act.put, List.setIfInBounds_toArray, List.set_cons_zero, List.set_cons_succ])
      refine wpAnyH_take (i := 5) (oi := { dst := some 40, op := .move (.tmp 2), type := 79, pos := "sort.go:167", after := #[⟨4, .guard⟩], guard := some (4, true) }) (v := ?_) rfl (by kernel_rfl) (by kernel_rfl) (by kernel_rfl) (fun _ _ _ h => h) (Or.inl ⟨by rfl, ?_⟩) (by assumption) ?_
      rotate_left
      · intro w hSw
        (try dsimp only at hSw)
        first | (go_simp; done) | (go_simp; with_reducible rfl)
      (try simp only [Act.put, List.setIfInBounds_toArray, List.set_cons_zero, List.set_cons_succ])
      refine wpAnyH_take (i := 6) (oi := { dst := some 41, op := .move (.tmp 0), type := 25, pos := "sort.go:167", after := #[⟨4, .guard⟩], guard := some (4, true) }) (v := ?_) rfl (by kernel_rfl) (by kernel_rfl) (by kernel_rfl) (fun _ _ _ h => h) (Or.inl ⟨by rfl, ?_⟩) (by assumption) ?_
      rotate_left
      · intro w hSw
        (try dsimp only at hSw)
        first | (go_simp; done) | (go_simp; with_reducible rfl)
      (try simp only [Act.put, List.setIfInBounds_toArray, List.set_cons_zero, List.set_cons_succ])
      refine wpAnyH_take (i := 7) (oi := { dst := some 42, op := .move (.tmp 9), type := 3, pos := "sort.go:167", after := #[⟨4, .guard⟩], guard := some (4, true) }) (v := ?_) rfl (by kernel_rfl) (by kernel_rfl) (by kernel_rfl) (fun _ _ _ h => h) (Or.inl ⟨by rfl, ?_⟩) (by assumption) ?_
      rotate_left
      · intro w hSw
        (try dsimp only at hSw)
        first | (go_simp; done) | (go_simp; with_reducible rfl)
      (try simp only [Act.put, List.setIfInBounds_toArray, List.set_cons_zero, List.set_cons_succ])
      refine wpAnyH_take (i := 8) (oi := { dst := some 43, op := .indexAddr 25 (.tmp 41) (.tmp 42), type := 0, pos := "sort.go:167", after := #[⟨6, .data⟩, ⟨7, .data⟩, ⟨4, .guard⟩], guard := some (4, true) }) (v := ?_) rfl (by kernel_rfl) (by kernel_rfl) (by kernel_rfl) (fun _ _ _ h => h) (Or.inl ⟨by rfl, ?_⟩) (by assumption) ?_
      rotate_left
      · intro w hSw
        (try dsimp only at hSw)
        first | (go_simp; done) | (go_simp; with_reducible rfl)
      (try simp only [Act.put, List.setIfInBounds_toArray, List.set_cons_zero, List.set_cons_succ])
      refine wpAnyH_take (i := 9) (oi := { dst := some 44, op := .load 34 (.tmp 43), type := 34, pos := "sort.go:167", after := #[⟨8, .data⟩, ⟨4, .guard⟩], guard := some (4, true) }) (v := ?_) rfl (by kernel_rfl) (by kernel_rfl) (by kernel_rfl) (fun _ _ _ h => h) (Or.inl ⟨by rfl, ?_⟩) (by assumption) ?_
      rotate_left
      · intro w hSw
        (try dsimp only at hSw)
        first | (go_simp; done) | (go_simp; with_reducible rfl)
      (try simp only [Act.put, List.setIfInBounds_toArray, List.set_cons_zero, List.set_cons_succ])
      refine wpAnyH_take (i := 10) (oi := { dst := some 45, op := .load 34 (.tmp 4), type := 34, pos := "sort.go:167", after := #[⟨4, .guard⟩], guard := some (4, true) }) (v := ?_) rfl (by kernel_rfl) (by kernel_rfl) (by kernel_rfl) (fun _ _ _ h => h) (Or.inl ⟨by rfl, ?_⟩) (by assumption) ?_
      rotate_left
      · intro w hSw
        (try dsimp only at hSw)
        first | (go_simp; done) | (go_simp; with_reducible rfl)
      (try simp only [Act.put, List.setIfInBounds_toArray, List.set_cons_zero, List.set_cons_succ])
      refine wpAnyH_ready (rs := [11]) (by kernel_rfl) (by simp) ?_
      refine AllReadyH.cons (o := { dst := some 46, op := .call { callee := .value (.tmp 40), args := #[.tmp 44, .tmp 45], argTypes := #[34, 34] }, type := 3, pos := "sort.go:167", after := #[⟨5, .data⟩, ⟨9, .data⟩, ⟨10, .data⟩, ⟨4, .chain⟩, ⟨4, .guard⟩], guard := some (4, true) }) rfl (fun K hK => ?_) AllReadyH.nil
      go_simp
      go_at_call 146
      refine (byNumber y.dev y.seq y.stamp y.kind y.item y.qty y.level y.undos x.dev x.seq x.stamp x.kind x.item x.qty x.level x.undos _).mono ?_
      rintro e w2 ⟨rfl, hb2⟩
      rw [← HC.out]
      have hS2 : w2.cell? ⟨b, off + lo * 8, none⟩ = some (.int .i64 y.dev) ∧ w2.cell? ⟨b, off + lo * 8 + 1, none⟩ = some (.int .i64 y.seq) ∧ w2.cell? ⟨b, off + lo * 8 + 2, none⟩ = some (.int .i64 y.stamp) ∧ w2.cell? ⟨b, off + lo * 8 + 3, none⟩ = some (.int .i64 y.kind) ∧ w2.cell? ⟨b, off + lo * 8 + 4, none⟩ = some (.string y.item) ∧ w2.cell? ⟨b, off + lo * 8 + 5, none⟩ = some (.int .i64 y.qty) ∧ w2.cell? ⟨b, off + lo * 8 + 6, none⟩ = some (.int .i64 y.level) ∧ w2.cell? ⟨b, off + lo * 8 + 7, none⟩ = some (.int .i64 y.undos) ∧ w2.cell? ⟨w.heap.size, 0, none⟩ = some (.int .i64 x.dev) ∧ w2.cell? ⟨w.heap.size, 1, none⟩ = some (.int .i64 x.seq) ∧ w2.cell? ⟨w.heap.size, 2, none⟩ = some (.int .i64 x.stamp) ∧ w2.cell? ⟨w.heap.size, 3, none⟩ = some (.int .i64 x.kind) ∧ w2.cell? ⟨w.heap.size, 4, none⟩ = some (.string x.item) ∧ w2.cell? ⟨w.heap.size, 5, none⟩ = some (.int .i64 x.qty) ∧ w2.cell? ⟨w.heap.size, 6, none⟩ = some (.int .i64 x.level) ∧ w2.cell? ⟨w.heap.size, 7, none⟩ = some (.int .i64 x.undos) := by
          obtain ⟨q0, q1, q2, q3, q4, q5, q6, q7, q8, q9, q10, q11, q12, q13, q14, q15⟩ := hS
          exact ⟨(hb2.cell (block_lt_of_cell q0)).trans q0, (hb2.cell (block_lt_of_cell q1)).trans q1, (hb2.cell (block_lt_of_cell q2)).trans q2, (hb2.cell (block_lt_of_cell q3)).trans q3, (hb2.cell (block_lt_of_cell q4)).trans q4, (hb2.cell (block_lt_of_cell q5)).trans q5, (hb2.cell (block_lt_of_cell q6)).trans q6, (hb2.cell (block_lt_of_cell q7)).trans q7, (hb2.cell (block_lt_of_cell q8)).trans q8, (hb2.cell (block_lt_of_cell q9)).trans q9, (hb2.cell (block_lt_of_cell q10)).trans q10, (hb2.cell (block_lt_of_cell q11)).trans q11, (hb2.cell (block_lt_of_cell q12)).trans q12, (hb2.cell (block_lt_of_cell q13)).trans q13, (hb2.cell (block_lt_of_cell q14)).trans q14, (hb2.cell (block_lt_of_cell q15)).trans q15⟩
      refine hK.out _ _ hS2 (fun hHeld2 => ?_)
      clear hK K
      (try simp only [Act.put, List.setIfInBounds_toArray, List.set_cons_zero, List.set_cons_succ])
      have HB2 := Lib.hid (HBr.out.trans ((Below.mk hb2.os hb2.tape hb2.output hb2.size hb2.block : Below wr.heap.size wr w2).mono HBr.out.size))
      generalize cmpAt l x lo = cm at HFo HC ⊢
      have hcz : (cm == 0) = decide (cm = 0) := by by_cases h : cm = 0 <;> simp [h]
      refine wpAnyH_take (i := 12) (oi := { dst := some 47, op := .binOp .eql 3 (.tmp 46) (.const (Value.int IntKind.i64 0)) 3, type := 4, pos := "sort.go:167", after := #[⟨11, .data⟩, ⟨4, .guard⟩, { on := 14, ground := Ground.gcOnly Departure.lateStores }], guard := some (4, true) }) (v := ?_) rfl (by kernel_rfl) (by kernel_rfl) (by kernel_rfl) (fun _ _ _ h => h) (Or.inl ⟨by rfl, ?_⟩) (by assumption) ?_
      rotate_left
      · intro w hSw
        (try dsimp only at hSw)
        first | (go_simp; done) | (go_simp; with_reducible rfl)
      (try simp only [Act.put, List.setIfInBounds_toArray, List.set_cons_zero, List.set_cons_succ])
      refine wpAnyH_take (i := 13) (oi := { dst := some 48, op := .pick (.tmp 39) (.tmp 47) (.const (Value.bool false)), type := 4, pos := "sort.go:167", after := #[⟨4, .data⟩, ⟨12, .data⟩, { on := 14, ground := Ground.gcOnly Departure.lateStores }], guard := none }) (v := ?_) rfl (by kernel_rfl) (by kernel_rfl) (by kernel_rfl) (fun _ _ _ h => h) (Or.inl ⟨by rfl, ?_⟩) (by assumption) ?_
      rotate_left
      · intro w hSw
        (try dsimp only at hSw)
        first | (go_simp; done) | (go_simp; with_reducible rfl)
      (try simp only [Act.put, List.setIfInBounds_toArray, List.set_cons_zero, List.set_cons_succ])
      refine wpAnyH_take (i := 14) (oi := { dst := some 6, op := .assign (.tmp 35), type := 3, pos := "sort.go:167", after := #[⟨0, .data⟩, ⟨11, .chain⟩, ⟨0, .phase⟩, ⟨1, .textOnly .lateStores⟩, ⟨2, .textOnly .lateStores⟩, ⟨3, .textOnly .lateStores⟩, ⟨4, .textOnly .lateStores⟩, ⟨5, .textOnly .lateStores⟩, ⟨6, .textOnly .lateStores⟩, ⟨7, .textOnly .lateStores⟩, ⟨8, .textOnly .lateStores⟩, ⟨9, .textOnly .lateStores⟩, ⟨10, .textOnly .lateStores⟩, ⟨11, .textOnly .lateStoresUnsure⟩, ⟨12, .textOnly .lateStores⟩, ⟨13, .textOnly .lateStores⟩], guard := none }) (v := ?_) rfl (by kernel_rfl) (by kernel_rfl) (by kernel_rfl) (fun _ _ _ h => h) (Or.inl ⟨by rfl, ?_⟩) (by assumption) ?_
      rotate_left
      · intro w hSw
        (try dsimp only at hSw)
        first | (go_simp; done) | (go_simp; with_reducible rfl)
      (try simp only [Act.put, List.setIfInBounds_toArray, List.set_cons_zero, List.set_cons_succ])
      refine wpAnyH_take (i := 15) (oi := { dst := some 7, op := .assign (.tmp 48), type := 4, pos := "sort.go:167", after := #[⟨13, .data⟩, ⟨14, .chain⟩, ⟨0, .phase⟩, ⟨1, .phase⟩, ⟨2, .phase⟩, ⟨3, .phase⟩, ⟨4, .phase⟩, ⟨5, .phase⟩, ⟨6, .phase⟩, ⟨7, .phase⟩, ⟨8, .phase⟩, ⟨9, .phase⟩, ⟨10, .phase⟩, ⟨11, .phase⟩, ⟨12, .phase⟩, ⟨13, .phase⟩, ⟨14, .phase⟩], guard := none }) (v := ?_) rfl (by kernel_rfl) (by kernel_rfl) (by kernel_rfl) (fun _ _ _ h => h) (Or.inl ⟨by rfl, ?_⟩) (by assumption) ?_
      rotate_left
      · intro w hSw
        (try dsimp only at hSw)
        first | (go_simp; done) | (go_simp; with_reducible rfl)
      (try simp only [Act.put, List.setIfInBounds_toArray, List.set_cons_zero, List.set_cons_succ])
      refine wpAnyH_done (by kernel_rfl) ?_ _
      clear hS hS2 hb2 hHeld hHeld2 d0 d1 d2 d3 d4 d5 d6 d7 e0 e1 e2 e3 e4 e5 e6 e7 hcz
      go_wp2
      go_ret2
      exact ⟨⟨lo, _, rfl, HFo.out⟩, HB.out.trans (HB2.out.mono HB.out.size)⟩
    · obtain rfl : lo = n := by omega
      have hei : decide ((lo : Int) < (lo : Int)) = false := decide_eq_false (by omega)
      have HFo : Hid (Found l x lo false) := by have := found_end (x := x) HInc.out (fun j hj => HR.out.1 j (by rw [← HL.out]; exact hj)); rw [HL.out] at this; exact this
      have hS : wr.drew.cell? ⟨w.heap.size, 0, none⟩ = some (.int .i64 x.dev) ∧ wr.drew.cell? ⟨w.heap.size, 1, none⟩ = some (.int .i64 x.seq) ∧ wr.drew.cell? ⟨w.heap.size, 2, none⟩ = some (.int .i64 x.stamp) ∧ wr.drew.cell? ⟨w.heap.size, 3, none⟩ = some (.int .i64 x.kind) ∧ wr.drew.cell? ⟨w.heap.size, 4, none⟩ = some (.string x.item) ∧ wr.drew.cell? ⟨w.heap.size, 5, none⟩ = some (.int .i64 x.qty) ∧ wr.drew.cell? ⟨w.heap.size, 6, none⟩ = some (.int .i64 x.level) ∧ wr.drew.cell? ⟨w.heap.size, 7, none⟩ = some (.int .i64 x.undos) := ⟨e0, e1, e2, e3, e4, e5, e6, e7⟩
      go_wp2_with fail
      refine wp_region_held_drew (S := fun w' => w'.cell? ⟨w.heap.size, 0, none⟩ = some (.int .i64 x.dev) ∧ w'.cell? ⟨w.heap.size, 1, none⟩ = some (.int .i64 x.seq) ∧ w'.cell? ⟨w.heap.size, 2, none⟩ = some (.int .i64 x.stamp) ∧ w'.cell? ⟨w.heap.size, 3, none⟩ = some (.int .i64 x.kind) ∧ w'.cell? ⟨w.heap.size, 4, none⟩ = some (.string x.item) ∧ w'.cell? ⟨w.heap.size, 5, none⟩ = some (.int .i64 x.qty) ∧ w'.cell? ⟨w.heap.size, 6, none⟩ = some (.int .i64 x.level) ∧ w'.cell? ⟨w.heap.size, 7, none⟩ = some (.int .i64 x.undos)) (by kernel_rfl) hS (fun hHeld => ?_)
      refine wpAnyH_take (i := 0) (oi := { dst := some 35, op := .move (.tmp 9), type := 3, pos := "sort.go:167", after := #[], guard := none }) (v := ?_) rfl (by kernel_rfl) (by kernel_rfl) (by kernel_rfl) (fun _ _ _ h => h) (Or.inl ⟨by rfl, ?_⟩) (by assumption) ?_
      rotate_left
      · intro w hSw
        (try dsimp only at hSw)
        first | (go_simp; done) | (go_simp; with_reducible rfl)
      (try simp only [Act.put, List.setIfInBounds_toArray, List.set_cons_zero, List.set_cons_succ])
      refine wpAnyH_take (i := 1) (oi := { dst := some 36, op := .move (.tmp 9), type := 3, pos := "sort.go:167", after := #[], guard := none }) (v := ?_) rfl (by kernel_rfl) (by kernel_rfl) (by kernel_rfl) (fun _ _ _ h => h) (Or.inl ⟨by rfl, ?_⟩) (by assumption) ?_
      rotate_left
      · intro w hSw
        (try dsimp only at hSw)
        first | (go_simp; done) | (go_simp; with_reducible rfl)
      (try simp only [Act.put, List.setIfInBounds_toArray, List.set_cons_zero, List.set_cons_succ])
      refine wpAnyH_take (i := 2) (oi := { dst := some 37, op := .move (.tmp 8), type := 3, pos := "sort.go:167", after := #[], guard := none }) (v := ?_) rfl (by kernel_rfl) (by kernel_rfl) (by kernel_rfl) (fun _ _ _ h => h) (Or.inl ⟨by rfl, ?_⟩) (by assumption) ?_
      rotate_left
      · intro w hSw
        (try dsimp only at hSw)
        first | (go_simp; done) | (go_simp; with_reducible rfl)
      (try simp only [Act.put, List.setIfInBounds_toArray, List.set_cons_zero, List.set_cons_succ])
      refine wpAnyH_take (i := 3) (oi := { dst := some 38, op := .binOp .lss 3 (.tmp 36) (.tmp 37) 3, type := 4, pos := "sort.go:167", after := #[⟨1, .data⟩, ⟨2, .data⟩], guard := none }) (v := ?_) rfl (by kernel_rfl) (by kernel_rfl) (by kernel_rfl) (fun _ _ _ h => h) (Or.inl ⟨by rfl, ?_⟩) (by assumption) ?_
      rotate_left
      · intro w hSw
        (try dsimp only at hSw)
        first | (go_simp; done) | (go_simp; with_reducible rfl)
      (try simp only [Act.put, List.setIfInBounds_toArray, List.set_cons_zero, List.set_cons_succ])
      refine wpAnyH_take (i := 4) (oi := { dst := some 39, op := .move (.tmp 38), type := 4, pos := "sort.go:167", after := #[⟨3, .data⟩], guard := none }) (v := ?_) rfl (by kernel_rfl) (by kernel_rfl) (by kernel_rfl) (fun _ _ _ h => h) (Or.inl ⟨by rfl, ?_⟩) (by assumption) ?_
      rotate_left
      · intro w hSw
        (try dsimp only at hSw)
        first | (go_simp; done) | (go_simp; with_reducible rfl)
      (try simp only [Act.put, List.setIfInBounds_toArray, List.set_cons_zero, List.set_cons_succ])
      refine wpAnyH_take (i := 5) (oi := { dst := some 40, op := .move (.tmp 2), type := 79, pos := "sort.go:167", after := #[⟨4, .guard⟩], guard := some (4, true) }) (v := undef) rfl (by kernel_rfl) (by kernel_rfl) (by kernel_rfl) (fun _ _ _ h => h) (Or.inr ⟨by rfl, rfl⟩) (by assumption) ?_
      (try simp only [Act.put, List.setIfInBounds_toArray, List.set_cons_zero, List.set_cons_succ])
      refine wpAnyH_take (i := 6) (oi := { dst := some 41, op := .move (.tmp 0), type := 25, pos := "sort.go:167", after := #[⟨4, .guard⟩], guard := some (4, true) }) (v := undef) rfl (by kernel_rfl) (by kernel_rfl) (by kernel_rfl) (fun _ _ _ h => h) (Or.inr ⟨by rfl, rfl⟩) (by assumption) ?_
      (try simp only [Act.put, List.setIfInBounds_toArray, List.set_cons_zero, List.set_cons_succ])
      refine wpAnyH_take (i := 7) (oi := { dst := some 42, op := .move (.tmp 9), type := 3, pos := "sort.go:167", after := #[⟨4, .guard⟩], guard := some (4, true) }) (v := undef) rfl (by kernel_rfl) (by kernel_rfl) (by kernel_rfl) (fun _ _ _ h => h) (Or.inr ⟨by rfl, rfl⟩) (by assumption) ?_
      (try simp only [Act.put, List.setIfInBounds_toArray, List.set_cons_zero, List.set_cons_succ])
      refine wpAnyH_take (i := 8) (oi := { dst := some 43, op := .indexAddr 25 (.tmp 41) (.tmp 42), type := 0, pos := "sort.go:167", after := #[⟨6, .data⟩, ⟨7, .data⟩, ⟨4, .guard⟩], guard := some (4, true) }) (v := undef) rfl (by kernel_rfl) (by kernel_rfl) (by kernel_rfl) (fun _ _ _ h => h) (Or.inr ⟨by rfl, rfl⟩) (by assumption) ?_
      (try simp only [Act.put, List.setIfInBounds_toArray, List.set_cons_zero, List.set_cons_succ])
      refine wpAnyH_take (i := 9) (oi := { dst := some 44, op := .load 34 (.tmp 43), type := 34, pos := "sort.go:167", after := #[⟨8, .data⟩, ⟨4, .guard⟩], guard := some (4, true) }) (v := undef) rfl (by kernel_rfl) (by kernel_rfl) (by kernel_rfl) (fun _ _ _ h => h) (Or.inr ⟨by rfl, rfl⟩) (by assumption) ?_
      (try simp only [Act.put, List.setIfInBounds_toArray, List.set_cons_zero, List.set_cons_succ])
      refine wpAnyH_take (i := 10) (oi := { dst := some 45, op := .load 34 (.tmp 4), type := 34, pos := "sort.go:167", after := #[⟨4, .guard⟩], guard := some (4, true) }) (v := undef) rfl (by kernel_rfl) (by kernel_rfl) (by kernel_rfl) (fun _ _ _ h => h) (Or.inr ⟨by rfl, rfl⟩) (by assumption) ?_
      (try simp only [Act.put, List.setIfInBounds_toArray, List.set_cons_zero, List.set_cons_succ])
      refine wpAnyH_take (i := 11) (oi := { dst := some 46, op := .call { callee := .value (.tmp 40), args := #[.tmp 44, .tmp 45], argTypes := #[34, 34] }, type := 3, pos := "sort.go:167", after := #[⟨5, .data⟩, ⟨9, .data⟩, ⟨10, .data⟩, ⟨4, .chain⟩, ⟨4, .guard⟩], guard := some (4, true) }) (v := undef) rfl (by kernel_rfl) (by kernel_rfl) (by kernel_rfl) (fun _ _ _ h => h) (Or.inr ⟨by rfl, rfl⟩) (by assumption) ?_
      (try simp only [Act.put, List.setIfInBounds_toArray, List.set_cons_zero, List.set_cons_succ])
      refine wpAnyH_take (i := 12) (oi := { dst := some 47, op := .binOp .eql 3 (.tmp 46) (.const (Value.int IntKind.i64 0)) 3, type := 4, pos := "sort.go:167", after := #[⟨11, .data⟩, ⟨4, .guard⟩, { on := 14, ground := Ground.gcOnly Departure.lateStores }], guard := some (4, true) }) (v := undef) rfl (by kernel_rfl) (by kernel_rfl) (by kernel_rfl) (fun _ _ _ h => h) (Or.inr ⟨by rfl, rfl⟩) (by assumption) ?_
      (try simp only [Act.put, List.setIfInBounds_toArray, List.set_cons_zero, List.set_cons_succ])
      refine wpAnyH_take (i := 13) (oi := { dst := some 48, op := .pick (.tmp 39) (.tmp 47) (.const (Value.bool false)), type := 4, pos := "sort.go:167", after := #[⟨4, .data⟩, ⟨12, .data⟩, { on := 14, ground := Ground.gcOnly Departure.lateStores }], guard := none }) (v := ?_) rfl (by kernel_rfl) (by kernel_rfl) (by kernel_rfl) (fun _ _ _ h => h) (Or.inl ⟨by rfl, ?_⟩) (by assumption) ?_
      rotate_left
      · intro w hSw
        (try dsimp only at hSw)
        first | (go_simp; done) | (go_simp; with_reducible rfl)
      (try simp only [Act.put, List.setIfInBounds_toArray, List.set_cons_zero, List.set_cons_succ])
      refine wpAnyH_take (i := 14) (oi := { dst := some 6, op := .assign (.tmp 35), type := 3, pos := "sort.go:167", after := #[⟨0, .data⟩, ⟨11, .chain⟩, ⟨0, .phase⟩, ⟨1, .textOnly .lateStores⟩, ⟨2, .textOnly .lateStores⟩, ⟨3, .textOnly .lateStores⟩, ⟨4, .textOnly .lateStores⟩, ⟨5, .textOnly .lateStores⟩, ⟨6, .textOnly .lateStores⟩, ⟨7, .textOnly .lateStores⟩, ⟨8, .textOnly .lateStores⟩, ⟨9, .textOnly .lateStores⟩, ⟨10, .textOnly .lateStores⟩, ⟨11, .textOnly .lateStoresUnsure⟩, ⟨12, .textOnly .lateStores⟩, ⟨13, .textOnly .lateStores⟩], guard := none }) (v := ?_) rfl (by kernel_rfl) (by kernel_rfl) (by kernel_rfl) (fun _ _ _ h => h) (Or.inl ⟨by rfl, ?_⟩) (by assumption) ?_
      rotate_left
      · intro w hSw
        (try dsimp only at hSw)
        first | (go_simp; done) | (go_simp; with_reducible rfl)
      (try simp only [Act.put, List.setIfInBounds_toArray, List.set_cons_zero, List.set_cons_succ])
      refine wpAnyH_take (i := 15) (oi := { dst := some 7, op := .assign (.tmp 48), type := 4, pos := "sort.go:167", after := #[⟨13, .data⟩, ⟨14, .chain⟩, ⟨0, .phase⟩, ⟨1, .phase⟩, ⟨2, .phase⟩, ⟨3, .phase⟩, ⟨4, .phase⟩, ⟨5, .phase⟩, ⟨6, .phase⟩, ⟨7, .phase⟩, ⟨8, .phase⟩, ⟨9, .phase⟩, ⟨10, .phase⟩, ⟨11, .phase⟩, ⟨12, .phase⟩, ⟨13, .phase⟩, ⟨14, .phase⟩], guard := none }) (v := ?_) rfl (by kernel_rfl) (by kernel_rfl) (by kernel_rfl) (fun _ _ _ h => h) (Or.inl ⟨by rfl, ?_⟩) (by assumption) ?_
      rotate_left
      · intro w hSw
        (try dsimp only at hSw)
        first | (go_simp; done) | (go_simp; with_reducible rfl)
      (try simp only [Act.put, List.setIfInBounds_toArray, List.set_cons_zero, List.set_cons_succ])
      refine wpAnyH_done (by kernel_rfl) ?_ _
      clear hS hHeld e0 e1 e2 e3 e4 e5 e6 e7
      go_wp2
      go_ret2
      exact ⟨⟨lo, false, rfl, HFo.out⟩, HB.out.trans ((Below.mk HBr.out.os HBr.out.tape HBr.out.output HBr.out.size HBr.out.block : Below w0.heap.size w0 wr.drew).mono HB.out.size)⟩
def Looked (l : List OpV) (x : OpV) (v : Value) : Prop := (∃ i, i < l.length ∧ eqN l i x.dev x.seq ∧ v = .tuple #[opVal (atOp l i), .bool true]) ∨ ((∀ j, j < l.length → ¬ eqN l j x.dev x.seq) ∧ v = .tuple #[.agg #[.int .i64 0, .int .i64 0, .int .i64 0, .int .i64 0, .string ⟨#[]⟩, .int .i64 0, .int .i64 0, .int .i64 0], .bool false])
set_option maxRecDepth 100000 in
set_option maxHeartbeats 4000000 in
theorem counterpart (w : World) (B : Nat) (a : Option Addr) (n c : Nat) (l : List OpV) (x : OpV) (h : Ops w B a n l) (hB : B ≤ w.heap.size) (hn : n ≤ 1048576) (hinc : incB l = true) :
    Calls Try.prog 80 #[.agg #[.slice a n c, .func (.func 146) #[] #[]], .agg #[.int .i64 x.dev, .int .i64 x.seq, .int .i64 x.stamp, .int .i64 x.kind, .string x.item, .int .i64 x.qty, .int .i64 x.level, .int .i64 x.undos]] w fun e w' => (∃ v, e = .returned v ∧ Looked l x v) ∧ Below w.heap.size w w' := by
  have HT := Lib.hid (TriF.mk0 w #[.slice a n c, .func (.func 146) #[] #[]] #[.int .i64 x.dev, .int .i64 x.seq, .int .i64 x.stamp, .int .i64 x.kind, .string x.item, .int .i64 x.qty, .int .i64 x.level, .int .i64 x.undos] #[.int .i64 0, .int .i64 0, .int .i64 0, .int .i64 0, .string ⟨#[]⟩, .int .i64 0, .int .i64 0, .int .i64 0] 81 34 34)
  have HO := Lib.hid (h.below HT.out.bel hB)
  have HL := Lib.hid h.1
  have HInc := Lib.hid hinc
  clear hinc h
  go_enter Try.func80, Try.ntmps80
  go_wp2_with fail
  generalize ((w.alloc (.cells #[.slice a n c, .func (.func 146) #[] #[]] 81)).alloc (.cells #[.int .i64 x.dev, .int .i64 x.seq, .int .i64 x.stamp, .int .i64 x.kind, .string x.item, .int .i64 x.qty, .int .i64 x.level, .int .i64 x.undos] 34)).alloc (.cells #[.int .i64 0, .int .i64 0, .int .i64 0, .int .i64 0, .string ⟨#[]⟩, .int .i64 0, .int .i64 0, .int .i64 0] 34) = w0 at HT HO ⊢
  have hs0 := HT.out.bel.size
  have hlt0 := (Array.getElem?_eq_some_iff.1 HT.out.res).1
  refine (binSearch w0 B a n c l x HO.out (by omega) hn HInc.out).mono ?_
  rintro e w1 ⟨⟨i, b, rfl, hfo⟩, hb1⟩
  have HF := Lib.hid hfo
  have HT1 := Lib.hid (HT.out.next hb1)
  have HO1 := Lib.hid (HO.out.below hb1 (by omega))
  have hs1 := hb1.size
  clear hfo hb1 HT HO
  cases b
  · have HNo := Lib.hid (HF.out.2.2 rfl)
    go_upto_region 4 with fail
    have hb2 : Below w1.heap.size w1 (w1.alloc (.cells #[.int .i64 0, .int .i64 0, .int .i64 0, .int .i64 0, .string ⟨#[]⟩, .int .i64 0, .int .i64 0, .int .i64 0] 34)) := (Below.refl _ _).alloc (Nat.le_refl _) _
    have HZ := Lib.hid (boxAt (Below.refl _ (w1.alloc (.cells #[.int .i64 0, .int .i64 0, .int .i64 0, .int .i64 0, .string ⟨#[]⟩, .int .i64 0, .int .i64 0, .int .i64 0] 34))))
    have HT2 := Lib.hid (HT1.out.next hb2)
    generalize w1.alloc (.cells #[.int .i64 0, .int .i64 0, .int .i64 0, .int .i64 0, .string ⟨#[]⟩, .int .i64 0, .int .i64 0, .int .i64 0] 34) = w2 at hb2 HZ HT2 ⊢
    generalize w1.heap.size = nz at HZ ⊢
    clear hb2 HT1 HO1
    obtain ⟨c0, c1, c2, c3, c4, c5, c6, c7⟩ := op_cells HZ.out
    obtain ⟨e0, e1, e2, e3, e4, e5, e6, e7⟩ := op_cells HT2.out.res
    obtain ⟨f0, f1, f2, f3, f4, f5, f6, f7⟩ := op_frozen HT2.out.res
    go_wp2
    have HX := Lib.hid (setOp_same (.int .i64 0) (.int .i64 0) (.int .i64 0) (.int .i64 0) (.string ⟨#[]⟩) (.int .i64 0) (.int .i64 0) (.int .i64 0) HT2.out.res)
    have HB := Lib.hid (setOp_below (.int .i64 0) (.int .i64 0) (.int .i64 0) (.int .i64 0) (.string ⟨#[]⟩) (.int .i64 0) (.int .i64 0) (.int .i64 0) HT2.out.bel (by show _ ≤ w.heap.size + 1 + 1; omega))
    clear c0 c1 c2 c3 c4 c5 c6 c7 e0 e1 e2 e3 e4 e5 e6 e7 f0 f1 f2 f3 f4 f5 f6 f7
    change bodyPost _ _ _ _ _ (setOp w2 (w.heap.size + 1 + 1) (.int .i64 0) (.int .i64 0) (.int .i64 0) (.int .i64 0) (.string ⟨#[]⟩) (.int .i64 0) (.int .i64 0) (.int .i64 0))
    generalize setOp w2 (w.heap.size + 1 + 1) (.int .i64 0) (.int .i64 0) (.int .i64 0) (.int .i64 0) (.string ⟨#[]⟩) (.int .i64 0) (.int .i64 0) (.int .i64 0) = wf at HX HB ⊢
    obtain ⟨d0, d1, d2, d3, d4, d5, d6, d7⟩ := op_cells HX.out
    exact bodyPost_ret (v := .tuple #[.agg #[.int .i64 0, .int .i64 0, .int .i64 0, .int .i64 0, .string ⟨#[]⟩, .int .i64 0, .int .i64 0, .int .i64 0], .bool false]) (by simp [results, Try.results80, go_sem, d0, d1, d2, d3, d4, d5, d6, d7]) rfl ⟨⟨_, rfl, .inr ⟨HNo.out, rfl⟩⟩, HB.out⟩
  · have HYes := Lib.hid (HF.out.2.1 rfl)
    have hin : i < n := by rw [← HL.out]; exact HYes.out.1
    have hini : (i : Int) < (n : Int) := by omega
    obtain ⟨b, off, rfl, hb, ho⟩ := HO1.out.2 i hin
    have HOk : Hid (OpAt w1 b (off + i * 8) (atOp l i)) := ho
    clear ho HF
    have HYe : Hid (∃ j, j < l.length ∧ eqN l j x.dev x.seq ∧ atOp l j = atOp l i) := ⟨i, HYes.out.1, HYes.out.2, rfl⟩
    have HRet : Hid (Looked l x (.tuple #[opVal (atOp l i), .bool true])) := .inl ⟨i, HYes.out.1, HYes.out.2, rfl⟩
    clear HYe HYes
    generalize atOp l i = y at HOk HRet
    obtain ⟨a0, a1⟩ := pair_cells HT1.out.fst
    obtain ⟨c0, c1, c2, c3, c4, c5, c6, c7⟩ := HOk.out
    obtain ⟨e0, e1, e2, e3, e4, e5, e6, e7⟩ := op_cells HT1.out.res
    obtain ⟨f0, f1, f2, f3, f4, f5, f6, f7⟩ := op_frozen HT1.out.res
    go_wp2
    have HX := Lib.hid (setOp_same (.int .i64 y.dev) (.int .i64 y.seq) (.int .i64 y.stamp) (.int .i64 y.kind) (.string y.item) (.int .i64 y.qty) (.int .i64 y.level) (.int .i64 y.undos) HT1.out.res)
    have HB := Lib.hid (setOp_below (.int .i64 y.dev) (.int .i64 y.seq) (.int .i64 y.stamp) (.int .i64 y.kind) (.string y.item) (.int .i64 y.qty) (.int .i64 y.level) (.int .i64 y.undos) HT1.out.bel (by show _ ≤ w.heap.size + 1 + 1; omega))
    clear a0 a1 c0 c1 c2 c3 c4 c5 c6 c7 e0 e1 e2 e3 e4 e5 e6 e7 f0 f1 f2 f3 f4 f5 f6 f7
    change bodyPost _ _ _ _ _ (setOp w1 (w.heap.size + 1 + 1) (.int .i64 y.dev) (.int .i64 y.seq) (.int .i64 y.stamp) (.int .i64 y.kind) (.string y.item) (.int .i64 y.qty) (.int .i64 y.level) (.int .i64 y.undos))
    generalize setOp w1 (w.heap.size + 1 + 1) (.int .i64 y.dev) (.int .i64 y.seq) (.int .i64 y.stamp) (.int .i64 y.kind) (.string y.item) (.int .i64 y.qty) (.int .i64 y.level) (.int .i64 y.undos) = wf at HX HB ⊢
    obtain ⟨d0, d1, d2, d3, d4, d5, d6, d7⟩ := op_cells HX.out
    exact bodyPost_ret (v := .tuple #[.agg #[.int .i64 y.dev, .int .i64 y.seq, .int .i64 y.stamp, .int .i64 y.kind, .string y.item, .int .i64 y.qty, .int .i64 y.level, .int .i64 y.undos], .bool true]) (by simp [results, Try.results80, go_sem, d0, d1, d2, d3, d4, d5, d6, d7]) rfl ⟨⟨_, rfl, HRet.out⟩, HB.out⟩

def liveU (o : OpV) : Bool := decide (o.undos % 2 = 0)
/-- Has the list another state of an operation's undos? -/
def togB (l : List OpV) (o : OpV) : Bool := (List.range l.length).any fun i => decide ((atOp l i).dev = o.dev) && (decide ((atOp l i).seq = o.seq) && (liveU (atOp l i) != liveU o))
def togL (xs : List Int) (l : List OpV) (ys : List Int) (m : List OpV) : List OpV := if (cartB xs l && cartB ys m) = true then m.filter (togB l) else []
theorem tog_no {xs : List Int} {l : List OpV} {ys : List Int} {m : List OpV} (h : (cartB xs l && cartB ys m) = false) : togL xs l ys m = [] := by unfold togL; rw [h]; rfl
theorem tog_yes {xs : List Int} {l : List OpV} {ys : List Int} {m : List OpV} (h : (cartB xs l && cartB ys m) = true) : togL xs l ys m = m.filter (togB l) := by unfold togL; rw [if_pos h]
theorem tog_len (xs : List Int) (l : List OpV) (ys : List Int) (m : List OpV) : (togL xs l ys m).length ≤ m.length := by
  unfold togL
  split
  · exact List.length_filter_le _ _
  · exact Nat.zero_le _
theorem togB_at {l : List OpV} (h : incB l = true) {o : OpV} {i : Nat} (hi : i < l.length) (e : eqN l i o.dev o.seq) : togB l o = (liveU (atOp l i) != liveU o) := by
  rw [Bool.eq_iff_iff]
  unfold togB
  rw [List.any_eq_true]
  constructor
  · rintro ⟨j, hj, hp⟩
    rw [List.mem_range] at hj
    simp only [Bool.and_eq_true, decide_eq_true_eq] at hp
    have : j = i := inc_uniq h hj hi ⟨hp.1, hp.2.1⟩ e
    subst this
    exact hp.2.2
  · intro hp
    refine ⟨i, by rw [List.mem_range]; exact hi, ?_⟩
    unfold eqN at e
    rw [decide_eq_true e.1, decide_eq_true e.2, hp]
    rfl
theorem togB_none {l : List OpV} {o : OpV} (h : ∀ j, j < l.length → ¬ eqN l j o.dev o.seq) : togB l o = false := by
  unfold togB
  rw [List.any_eq_false]
  intro j hj
  rw [List.mem_range] at hj
  have := h j hj
  unfold eqN at this
  simp only [Bool.and_eq_true, decide_eq_true_eq, not_and]
  intro a b
  exact absurd ⟨a, b⟩ this
theorem undos_pos {o : OpV} (h : o.ok = true) : 0 ≤ o.undos := by
  unfold OpV.ok opB headB at h
  simp only [Bool.and_eq_true] at h
  exact (inB_iff.1 h.1.2.2.2.2).1
set_option linter.unusedSimpArgs false in
set_option maxRecDepth 100000 in
set_option maxHeartbeats 8000000 in
theorem specToggled (w : World) (B : Nat) (av ao bv bo : Option Addr) (nv cv no co mv dv mo eo : Nat) (xs : List Int) (l : List OpV) (ys : List Int) (m : List OpV) (hx : Ints w B av nv xs) (h : Ops w B ao no l) (hy : Ints w B bv mv ys) (g : Ops w B bo mo m) (hB : B ≤ w.heap.size) (hv : nv ≤ 1048576) (hn : no ≤ 1048576) (hv2 : mv ≤ 1048576) (hn2 : mo ≤ 1048576) (hm : ∀ i, i < no → (atOp l i).item.size ≤ 1048576) (hm2 : ∀ i, i < mo → (atOp m i).item.size ≤ 1048576) :
    Calls Try.prog 25 #[.agg #[.slice av nv cv, .slice ao no co], .agg #[.slice bv mv dv, .slice bo mo eo]] w (OpsPost (togL xs l ys m) w) := by
  obtain ⟨i0, hi0', hz0, hz1, hz2⟩ := info_parts Try.infoOp
  have hT := Two.mk0 w #[.slice av nv cv, .slice ao no co] #[.slice bv mv dv, .slice bo mo eo] 27
  have HV := Lib.hid (hx.below hT.bel hB)
  have HO := Lib.hid (h.below hT.bel hB)
  have HY := Lib.hid (hy.below hT.bel hB)
  have HG := Lib.hid (g.below hT.bel hB)
  have HT := Lib.hid hT
  have HL := Lib.hid h.1
  have HLm := Lib.hid g.1
  have HM := Lib.hid hm
  have HM2 := Lib.hid hm2
  have hBw := hB
  clear hx h hy g hT hm hm2 hB
  go_enter Try.func25, Try.ntmps25
  go_upto_region 1 with fail
  generalize (w.alloc (.cells #[.slice av nv cv, .slice ao no co] 27)).alloc (.cells #[.slice bv mv dv, .slice bo mo eo] 27) = w0 at HV HO HY HG HT ⊢
  have hsz0 := HT.out.bel.size
  have hsz1 := lt_of_row HT.out.snd
  have hown0 : (w0.alloc (.cells #[] 34)).ownsRow (w.heap.size + 2) 34 8 (.slice (some ⟨w0.heap.size, 0, none⟩) 0 0) 0 [] := World.ownsRow_made w0 #[] 0 (by omega) (by unfold maxLen; omega) rfl
  have hb0 : Below w0.heap.size w0 (w0.alloc (.cells #[] 34)) := (Below.refl _ w0).alloc (Nat.le_refl _) _
  go_upto_region 2 with fail
  have HOw := Lib.hid hown0
  have HVa := Lib.hid (HV.out.below hb0 (by omega))
  have HOa := Lib.hid (HO.out.below hb0 (by omega))
  have HYa := Lib.hid (HY.out.below hb0 (by omega))
  have HGa := Lib.hid (HG.out.below hb0 (by omega))
  have HTa := Lib.hid (HT.out.next hb0)
  have hsa := hb0.size
  have HB0 : Hid (Below (w.heap.size + 2) w0 (w0.alloc (.cells #[] 34))) := hb0.mono (by omega)
  clear hown0 hb0 HV HO HY HG HT
  generalize w0.alloc (.cells #[] 34) = wa at HOw HVa HOa HYa HGa HTa hsa HB0 ⊢
  generalize w0.heap.size = og at HOw hsz0 hsz1 hsa ⊢
  obtain ⟨a0, a1⟩ := pair_cells HTa.out.fst
  obtain ⟨b0, b1⟩ := pair_cells HTa.out.snd
  go_wp2_with fail
  refine (specCartOk wa B av ao nv cv no co xs l HVa.out HOa.out (by omega) hv hn HM.out).mono ?_
  rintro e w1 ⟨rfl, hb1⟩
  have HOw1 := Lib.hid (own_row_kept HOw.out hb1)
  have HO1 := Lib.hid (HOa.out.below hb1 (by omega))
  have HY1 := Lib.hid (HYa.out.below hb1 (by omega))
  have HG1 := Lib.hid (HGa.out.below hb1 (by omega))
  have HT1 := Lib.hid (HTa.out.next hb1)
  have HB1 := Lib.hid (HB0.out.trans (hb1.mono (by omega)))
  have hs1 := hb1.size
  clear hb1 HOw HVa HOa HYa HGa HTa HB0 a0 a1 b0 b1
  rcases hca : cartB xs l with _ | _
  · have HF := Lib.hid (tog_no (xs := xs) (l := l) (ys := ys) (m := m) (by rw [hca]; rfl))
    clear hca
    have HP : Hid (OwnOps w1 w.heap.size w1.heap.size (some ⟨og, 0, none⟩) 0 []) := own_none _ _ _ _
    go_wp2
    go_ret
    exact ⟨_, 0, by rw [HF.out]; rfl, by rw [HF.out]; exact HP.out, HT1.out.bel⟩
  have HCa := Lib.hid hca
  obtain ⟨a0, a1⟩ := pair_cells HT1.out.fst
  obtain ⟨b0, b1⟩ := pair_cells HT1.out.snd
  go_wp2_with fail
  refine (specCartOk w1 B bv bo mv dv mo eo ys m HY1.out HG1.out (by omega) hv2 hn2 HM2.out).mono ?_
  rintro e w2 ⟨rfl, hb2⟩
  have HOw2 := Lib.hid (own_row_kept HOw1.out hb2)
  have HO2 := Lib.hid (HO1.out.below hb2 (by omega))
  have HG2 := Lib.hid (HG1.out.below hb2 (by omega))
  have HT2 := Lib.hid (HT1.out.next hb2)
  have HB2 := Lib.hid (HB1.out.trans (hb2.mono (by omega)))
  have hs2 := hb2.size
  clear hb2 HOw1 HO1 HY1 HG1 HT1 HB1 a0 a1 b0 b1
  rcases hcb : cartB ys m with _ | _
  · have HF := Lib.hid (tog_no (xs := xs) (l := l) (ys := ys) (m := m) (by rw [hca, hcb]; rfl))
    clear hca hcb
    have HP : Hid (OwnOps w2 w.heap.size w2.heap.size (some ⟨og, 0, none⟩) 0 []) := own_none _ _ _ _
    go_wp2
    go_ret
    exact ⟨_, 0, by rw [HF.out]; rfl, by rw [HF.out]; exact HP.out, HT2.out.bel⟩
  have HF := Lib.hid (tog_yes (xs := xs) (l := l) (ys := ys) (m := m) (by rw [hca, hcb]; rfl))
  have HInc := Lib.hid (cart_inc hca)
  have HOka := Lib.hid (fun i (hi : i < l.length) => cart_ok_at hca hi)
  have HOkb := Lib.hid (fun i (hi : i < m.length) => cart_ok_at hcb hi)
  clear hca hcb HCa
  go_wp2
  go_loopw [5, 6] (fun v i wr => ∃ (k : Nat) (vv : Value), k ≤ mo ∧ vv = v ∧ i = .int .i64 (k : Int) ∧ Hid (wr.ownsRow (w.heap.size + 2) 34 8 v ((m.take k).filter (togB l)).length (opCells ((m.take k).filter (togB l)))) ∧ Hid (Below (w.heap.size + 2) w2 wr)) (fun _ i _ => mo - (intOf i).toNat)
  case atStart => exact ⟨0, _, Nat.zero_le _, rfl, rfl, HOw2, Below.refl _ _⟩
  case round =>
    obtain ⟨k, vv, hk, hvv, rfl, HR, HBr⟩ := hrel
    subst hvv
    have hsr := HBr.out.size
    have hlt1 := (Array.getElem?_eq_some_iff.1 HT2.out.snd).1
    obtain ⟨a0, a1⟩ := pair_cells ((HBr.out.block _ (by omega)).trans HT2.out.fst)
    obtain ⟨b0, b1⟩ := pair_cells ((HBr.out.block _ (by omega)).trans HT2.out.snd)
    by_cases hlt : k < mo
    rotate_left
    · obtain rfl : k = mo := by omega
      have HTk : Hid (m.take k = m) := by show _ = _; rw [← HLm.out]; exact List.take_length
      rw [HTk.out] at HR
      have HP : Hid (∃ a c, vv = .slice a (m.filter (togB l)).length c ∧ OwnOps wr w.heap.size wr.heap.size a (m.filter (togB l)).length (m.filter (togB l))) := by
        have hr := HR.out
        rcases hr.2 with ⟨e, e2⟩ | ⟨g, c, cur, e, r⟩
        · subst e
          rw [e2] at hr ⊢
          exact ⟨none, 0, rfl, (own_of_cells hr (Nat.le_refl _)).more (by omega) (Nat.le_refl _)⟩
        · subst e
          exact ⟨_, c, rfl, (own_of_cells hr (Nat.le_refl _)).more (by omega) (Nat.le_refl _)⟩
      obtain ⟨ra, rc, rfl, hown⟩ := HP.out
      have HOo := Lib.hid hown
      clear hown HP HR
      generalize m.filter (togB l) = L at HF HOo ⊢
      go_wp2
      go_ret
      exact ⟨ra, rc, by rw [HF.out]; rfl, by rw [HF.out]; exact HOo.out, HT2.out.bel.trans (HBr.out.mono (by omega))⟩
    have HSt := Lib.hid (filt_step (q := togB l) (l := m) (k := k) (by rw [HLm.out]; exact hlt))
    have HOr := Lib.hid (HO2.out.below HBr.out (by omega))
    have HGr := Lib.hid (HG2.out.below HBr.out (by omega))
    obtain ⟨b, off, rfl, hb, ho⟩ := HGr.out.2 k hlt
    have HOk : Hid (OpAt wr b (off + k * 8) (atOp m k)) := ho
    have hlen : ((m.take k).filter (togB l)).length ≤ 1048576 := by
      have := List.length_filter_le (togB l) (m.take k)
      have := List.length_take_le k m
      omega
    have HUx := Lib.hid (undos_pos (HOkb.out k (by rw [HLm.out]; exact hlt)))
    have HTn : Hid ((∀ j, j < l.length → ¬ eqN l j (atOp m k).dev (atOp m k).seq) → togB l (atOp m k) = false) := fun h => togB_none h
    have HTy : Hid (∀ i, i < l.length → eqN l i (atOp m k).dev (atOp m k).seq → togB l (atOp m k) = (liveU (atOp l i) != liveU (atOp m k))) := fun i hi e => togB_at HInc.out hi e
    clear ho
    generalize (m.take k).filter (togB l) = L at HR HSt hlen
    generalize atOp m k = x at HOk HSt HUx HTn HTy
    have hux := HUx.out
    obtain ⟨d0, d1, d2, d3, d4, d5, d6, d7⟩ := HOk.out
    have hki : (k : Int) < (mo : Int) := by omega
    have hS : wr.drew.cell? ⟨w.heap.size, 1, none⟩ = some (.slice ao no co) ∧ wr.drew.cell? ⟨w.heap.size + 1, 1, none⟩ = some (.slice (some ⟨b, off, none⟩) mo eo) ∧ wr.drew.cell? ⟨b, off + k * 8, none⟩ = some (.int .i64 x.dev) ∧ wr.drew.cell? ⟨b, off + k * 8 + 1, none⟩ = some (.int .i64 x.seq) := ⟨a1, b1, d0, d1⟩
    go_wp2_with fail
    refine wp_region_held_drew (S := fun w' => w'.cell? ⟨w.heap.size, 1, none⟩ = some (.slice ao no co) ∧ w'.cell? ⟨w.heap.size + 1, 1, none⟩ = some (.slice (some ⟨b, off, none⟩) mo eo) ∧ w'.cell? ⟨b, off + k * 8, none⟩ = some (.int .i64 x.dev) ∧ w'.cell? ⟨b, off + k * 8 + 1, none⟩ = some (.int .i64 x.seq)) (by kernel_rfl) hS (fun hHeld => ?_)
    refine wpAnyH_take (i := 0) (oi := { dst := some 25, op := .fieldAddr 27 (.tmp 2) 1, type := 0, pos := "l07_deltas.go:84", after := #[], guard := none }) (v := ?_) rfl (by kernel_rfl) (by kernel_rfl) (by kernel_rfl) (fun _ _ _ h => h) (Or.inl ⟨by rfl, ?_⟩) (by assumption) ?_
    rotate_left
    · intro w hSw
      (try dsimp only at hSw)
      first | (go_simp; done) | (go_simp; with_reducible rfl)
    (try simp only [Act.put, List.setIfInBounds_toArray, List.set_cons_zero, List.set_cons_succ])
    refine wpAnyH_take (i := 1) (oi := { dst := some 26, op := .load 25 (.tmp 25), type := 25, pos := "l07_deltas.go:84", after := #[⟨0, .data⟩], guard := none }) (v := ?_) rfl (by kernel_rfl) (by kernel_rfl) (by kernel_rfl) (fun _ _ _ h => h) (Or.inl ⟨by rfl, ?_⟩) (by assumption) ?_
    rotate_left
    · intro w hSw
      (try dsimp only at hSw)
      first | (go_simp; done) | (go_simp; with_reducible rfl)
    (try simp only [Act.put, List.setIfInBounds_toArray, List.set_cons_zero, List.set_cons_succ])
    refine wpAnyH_take (i := 2) (oi := { dst := some 27, op := .fieldAddr 27 (.tmp 3) 1, type := 0, pos := "l07_deltas.go:84", after := #[], guard := none }) (v := ?_) rfl (by kernel_rfl) (by kernel_rfl) (by kernel_rfl) (fun _ _ _ h => h) (Or.inl ⟨by rfl, ?_⟩) (by assumption) ?_
    rotate_left
    · intro w hSw
      (try dsimp only at hSw)
      first | (go_simp; done) | (go_simp; with_reducible rfl)
    (try simp only [Act.put, List.setIfInBounds_toArray, List.set_cons_zero, List.set_cons_succ])
    refine wpAnyH_take (i := 3) (oi := { dst := some 28, op := .load 25 (.tmp 27), type := 25, pos := "l07_deltas.go:84", after := #[⟨2, .data⟩], guard := none }) (v := ?_) rfl (by kernel_rfl) (by kernel_rfl) (by kernel_rfl) (fun _ _ _ h => h) (Or.inl ⟨by rfl, ?_⟩) (by assumption) ?_
    rotate_left
    · intro w hSw
      (try dsimp only at hSw)
      first | (go_simp; done) | (go_simp; with_reducible rfl)
    (try simp only [Act.put, List.setIfInBounds_toArray, List.set_cons_zero, List.set_cons_succ])
    refine wpAnyH_take (i := 4) (oi := { dst := some 29, op := .move (.tmp 6), type := 3, pos := "l07_deltas.go:84", after := #[], guard := none }) (v := ?_) rfl (by kernel_rfl) (by kernel_rfl) (by kernel_rfl) (fun _ _ _ h => h) (Or.inl ⟨by rfl, ?_⟩) (by assumption) ?_
    rotate_left
    · intro w hSw
      (try dsimp only at hSw)
      first | (go_simp; done) | (go_simp; with_reducible rfl)
    (try simp only [Act.put, List.setIfInBounds_toArray, List.set_cons_zero, List.set_cons_succ])
    refine wpAnyH_take (i := 5) (oi := { dst := some 30, op := .indexAddr 25 (.tmp 28) (.tmp 29), type := 0, pos := "l07_deltas.go:84", after := #[⟨3, .data⟩, ⟨4, .data⟩], guard := none }) (v := ?_) rfl (by kernel_rfl) (by kernel_rfl) (by kernel_rfl) (fun _ _ _ h => h) (Or.inl ⟨by rfl, ?_⟩) (by assumption) ?_
    rotate_left
    · intro w hSw
      (try dsimp only at hSw)
      first | (go_simp; done) | (go_simp; with_reducible rfl)
    (try simp only [Act.put, List.setIfInBounds_toArray, List.set_cons_zero, List.set_cons_succ])
    refine wpAnyH_take (i := 6) (oi := { dst := some 31, op := .fieldAddr 34 (.tmp 30) 0, type := 0, pos := "l07_deltas.go:84", after := #[⟨5, .data⟩], guard := none }) (v := ?_) rfl (by kernel_rfl) (by kernel_rfl) (by kernel_rfl) (fun _ _ _ h => h) (Or.inl ⟨by rfl, ?_⟩) (by assumption) ?_
    rotate_left
    · intro w hSw
      (try dsimp only at hSw)
      first | (go_simp; done) | (go_simp; with_reducible rfl)
    (try simp only [Act.put, List.setIfInBounds_toArray, List.set_cons_zero, List.set_cons_succ])
    refine wpAnyH_take (i := 7) (oi := { dst := some 32, op := .load 2 (.tmp 31), type := 2, pos := "l07_deltas.go:84", after := #[⟨6, .data⟩], guard := none }) (v := ?_) rfl (by kernel_rfl) (by kernel_rfl) (by kernel_rfl) (fun _ _ _ h => h) (Or.inl ⟨by rfl, ?_⟩) (by assumption) ?_
    rotate_left
    · intro w hSw
      (try dsimp only at hSw)
      first | (go_simp; done) | (go_simp; with_reducible rfl)
    (try simp only [Act.put, List.setIfInBounds_toArray, List.set_cons_zero, List.set_cons_succ])
    refine wpAnyH_take (i := 8) (oi := { dst := some 33, op := .fieldAddr 27 (.tmp 3) 1, type := 0, pos := "l07_deltas.go:84", after := #[], guard := none }) (v := ?_) rfl (by kernel_rfl) (by kernel_rfl) (by kernel_rfl) (fun _ _ _ h => h) (Or.inl ⟨by rfl, ?_⟩) (by assumption) ?_
    rotate_left
    · intro w hSw
      (try dsimp only at hSw)
      first | (go_simp; done) | (go_simp; with_reducible rfl)
    (try simp only [Act.put, List.setIfInBounds_toArray, List.set_cons_zero, List.set_cons_succ])
    refine wpAnyH_take (i := 9) (oi := { dst := some 34, op := .load 25 (.tmp 33), type := 25, pos := "l07_deltas.go:84", after := #[⟨8, .data⟩], guard := none }) (v := ?_) rfl (by kernel_rfl) (by kernel_rfl) (by kernel_rfl) (fun _ _ _ h => h) (Or.inl ⟨by rfl, ?_⟩) (by assumption) ?_
    rotate_left
    · intro w hSw
      (try dsimp only at hSw)
      first | (go_simp; done) | (go_simp; with_reducible rfl)
    (try simp only [Act.put, List.setIfInBounds_toArray, List.set_cons_zero, List.set_cons_succ])
    refine wpAnyH_take (i := 10) (oi := { dst := some 35, op := .move (.tmp 6), type := 3, pos := "l07_deltas.go:84", after := #[], guard := none }) (v := ?_) rfl (by kernel_rfl) (by kernel_rfl) (by kernel_rfl) (fun _ _ _ h => h) (Or.inl ⟨by rfl, ?_⟩) (by assumption) ?_
    rotate_left
    · intro w hSw
      (try dsimp only at hSw)
      first | (go_simp; done) | (go_simp; with_reducible rfl)
    (try simp only [Act.put, List.setIfInBounds_toArray, List.set_cons_zero, List.set_cons_succ])
    refine wpAnyH_take (i := 11) (oi := { dst := some 36, op := .indexAddr 25 (.tmp 34) (.tmp 35), type := 0, pos := "l07_deltas.go:84", after := #[⟨9, .data⟩, ⟨10, .data⟩], guard := none }) (v := ?_) rfl (by kernel_rfl) (by kernel_rfl) (by kernel_rfl) (fun _ _ _ h => h) (Or.inl ⟨by rfl, ?_⟩) (by assumption) ?_
    rotate_left
    · intro w hSw
      (try dsimp only at hSw)
      first | (go_simp; done) | (go_simp; with_reducible rfl)
    (try simp only [Act.put, List.setIfInBounds_toArray, List.set_cons_zero, List.set_cons_succ])
    refine wpAnyH_take (i := 12) (oi := { dst := some 37, op := .fieldAddr 34 (.tmp 36) 1, type := 0, pos := "l07_deltas.go:84", after := #[⟨11, .data⟩], guard := none }) (v := ?_) rfl (by kernel_rfl) (by kernel_rfl) (by kernel_rfl) (fun _ _ _ h => h) (Or.inl ⟨by rfl, ?_⟩) (by assumption) ?_
    rotate_left
    · intro w hSw
      (try dsimp only at hSw)
      first | (go_simp; done) | (go_simp; with_reducible rfl)
    (try simp only [Act.put, List.setIfInBounds_toArray, List.set_cons_zero, List.set_cons_succ])
    refine wpAnyH_take (i := 13) (oi := { dst := some 38, op := .load 2 (.tmp 37), type := 2, pos := "l07_deltas.go:84", after := #[⟨12, .data⟩], guard := none }) (v := ?_) rfl (by kernel_rfl) (by kernel_rfl) (by kernel_rfl) (fun _ _ _ h => h) (Or.inl ⟨by rfl, ?_⟩) (by assumption) ?_
    rotate_left
    · intro w hSw
      (try dsimp only at hSw)
      first | (go_simp; done) | (go_simp; with_reducible rfl)
    (try simp only [Act.put, List.setIfInBounds_toArray, List.set_cons_zero, List.set_cons_succ])
    refine wpAnyH_ready (rs := [14]) (by kernel_rfl) (by simp) ?_
    refine AllReadyH.cons (o := { dst := some 39, op := .call { callee := .value (.func 94), args := #[.tmp 26, .tmp 32, .tmp 38], argTypes := #[25, 2, 2] }, type := 3, pos := "l07_deltas.go:84", after := #[⟨1, .data⟩, ⟨7, .data⟩, ⟨13, .data⟩], guard := none }) rfl (fun K hK => ?_) AllReadyH.nil
    go_simp
    go_at_call 94
    refine (l4At wr.drew B ao no co l x.dev x.seq (HOr.out.kept fun _ _ => rfl) hn).mono ?_
    rintro e w3 ⟨hres, rfl⟩
    obtain ⟨kk, HK, rfl⟩ : ∃ kk : Int, Hid ((∃ i : Nat, i < no ∧ eqN l i x.dev x.seq ∧ kk = (i : Int)) ∨ ((∀ j, j < no → ¬ eqN l j x.dev x.seq) ∧ kk = -1)) ∧ e = .returned (.int .i64 kk) := by
      rcases hres with ⟨i, q1, q2, rfl⟩ | ⟨q1, rfl⟩
      · exact ⟨_, .inl ⟨i, q1, q2, rfl⟩, rfl⟩
      · exact ⟨_, .inr ⟨q1, rfl⟩, rfl⟩
    refine hK.out _ _ hS (fun hHeld2 => ?_)
    clear hK K
    (try simp only [Act.put, List.setIfInBounds_toArray, List.set_cons_zero, List.set_cons_succ])
    refine wpAnyH_take (i := 15) (oi := { dst := some 7, op := .assign (.tmp 39), type := 3, pos := "l07_deltas.go:84", after := #[⟨14, .data⟩, ⟨14, .chain⟩, ⟨0, .phase⟩, ⟨1, .phase⟩, ⟨2, .phase⟩, ⟨3, .phase⟩, ⟨4, .phase⟩, ⟨5, .phase⟩, ⟨6, .phase⟩, ⟨7, .phase⟩, ⟨8, .phase⟩, ⟨9, .phase⟩, ⟨10, .phase⟩, ⟨11, .phase⟩, ⟨12, .phase⟩, ⟨13, .phase⟩, ⟨14, .phase⟩], guard := none }) (v := ?_) rfl (by kernel_rfl) (by kernel_rfl) (by kernel_rfl) (fun _ _ _ h => h) (Or.inl ⟨by rfl, ?_⟩) (by assumption) ?_
    rotate_left
    · intro w hSw
      (try dsimp only at hSw)
      first | (go_simp; done) | (go_simp; with_reducible rfl)
    (try simp only [Act.put, List.setIfInBounds_toArray, List.set_cons_zero, List.set_cons_succ])
    refine wpAnyH_done (by kernel_rfl) ?_ _
    clear hHeld hHeld2 hres
    have HBd : Hid (Below (w.heap.size + 2) w2 wr.drew) := ⟨HBr.out.os, HBr.out.tape, HBr.out.output, HBr.out.size, HBr.out.block⟩
    have HRd : Hid (wr.drew.ownsRow (w.heap.size + 2) 34 8 vv L.length (opCells L)) := HR.out.drew
    have hsd : wr.drew.heap.size = wr.heap.size := rfl
    have HOd : Hid (Ops wr.drew B ao no l) := HOr.out.kept fun _ _ => rfl
    have HOkd : Hid (OpAt wr.drew b (off + k * 8) x) := HOk.out
    have HTd1 : Hid (wr.drew.cell? ⟨w.heap.size, 1, none⟩ = some (.slice ao no co) ∧ wr.drew.cell? ⟨w.heap.size + 1, 1, none⟩ = some (.slice (some ⟨b, off, none⟩) mo eo)) := ⟨a1, b1⟩
    have hsd2 : w2.heap.size ≤ wr.drew.heap.size := hsr
    clear hS d0 d1 d2 d3 d4 d5 d6 d7 a0 a1 b0 b1 HBr HR HOr HOk HGr hsd
    generalize wr.drew = y0 at HBd HRd HOd HOkd HTd1 hsd2 ⊢
    obtain ⟨a1, b1⟩ := HTd1.out
    obtain ⟨d0, d1, d2, d3, d4, d5, d6, d7⟩ := HOkd.out
    rcases HK.out with ⟨i, hi, he, rfl⟩ | ⟨hnone, rfl⟩
    rotate_left
    · have HE : Hid ((m.take (k + 1)).filter (togB l) = L) := by show _ = _; rw [HSt.out, HTn.out (by rw [HL.out]; exact hnone)]; rfl
      clear hnone HK
      have hS : y0.drew.cell? ⟨w.heap.size, 1, none⟩ = some (.slice ao no co) ∧ y0.drew.cell? ⟨w.heap.size + 1, 1, none⟩ = some (.slice (some ⟨b, off, none⟩) mo eo) ∧ y0.drew.cell? ⟨b, off + k * 8, none⟩ = some (.int .i64 x.dev) ∧ y0.drew.cell? ⟨b, off + k * 8 + 1, none⟩ = some (.int .i64 x.seq) := ⟨a1, b1, d0, d1⟩
      go_wp2_with fail
      refine wp_region_held_drew (S := fun w' => w'.cell? ⟨w.heap.size, 1, none⟩ = some (.slice ao no co) ∧ w'.cell? ⟨w.heap.size + 1, 1, none⟩ = some (.slice (some ⟨b, off, none⟩) mo eo) ∧ w'.cell? ⟨b, off + k * 8, none⟩ = some (.int .i64 x.dev) ∧ w'.cell? ⟨b, off + k * 8 + 1, none⟩ = some (.int .i64 x.seq)) (by kernel_rfl) hS (fun hHeld => ?_)
      refine wpAnyH_take (i := 0) (oi := { dst := some 40, op := .move (.tmp 7), type := 3, pos := "l07_deltas.go:85", after := #[], guard := none }) (v := ?_) rfl (by kernel_rfl) (by kernel_rfl) (by kernel_rfl) (fun _ _ _ h => h) (Or.inl ⟨by rfl, ?_⟩) (by assumption) ?_
      rotate_left
      · intro w hSw
        (try dsimp only at hSw)
        first | (go_simp; done) | (go_simp; with_reducible rfl)
      (try simp only [Act.put, List.setIfInBounds_toArray, List.set_cons_zero, List.set_cons_succ])
      refine wpAnyH_take (i := 1) (oi := { dst := some 41, op := .binOp .geq 3 (.tmp 40) (.const (Value.int IntKind.i64 0)) 3, type := 4, pos := "l07_deltas.go:85", after := #[⟨0, .data⟩], guard := none }) (v := ?_) rfl (by kernel_rfl) (by kernel_rfl) (by kernel_rfl) (fun _ _ _ h => h) (Or.inl ⟨by rfl, ?_⟩) (by assumption) ?_
      rotate_left
      · intro w hSw
        (try dsimp only at hSw)
        first | (go_simp; done) | (go_simp; with_reducible rfl)
      (try simp only [Act.put, List.setIfInBounds_toArray, List.set_cons_zero, List.set_cons_succ])
      refine wpAnyH_take (i := 2) (oi := { dst := some 42, op := .move (.tmp 41), type := 4, pos := "l07_deltas.go:85", after := #[⟨1, .data⟩], guard := none }) (v := ?_) rfl (by kernel_rfl) (by kernel_rfl) (by kernel_rfl) (fun _ _ _ h => h) (Or.inl ⟨by rfl, ?_⟩) (by assumption) ?_
      rotate_left
      · intro w hSw
        (try dsimp only at hSw)
        first | (go_simp; done) | (go_simp; with_reducible rfl)
      (try simp only [Act.put, List.setIfInBounds_toArray, List.set_cons_zero, List.set_cons_succ])
      refine wpAnyH_take (i := 3) (oi := { dst := some 43, op := .fieldAddr 27 (.tmp 2) 1, type := 0, pos := "l07_deltas.go:85", after := #[⟨2, .guard⟩], guard := some (2, true) }) (v := undef) rfl (by kernel_rfl) (by kernel_rfl) (by kernel_rfl) (fun _ _ _ h => h) (Or.inr ⟨by rfl, rfl⟩) (by assumption) ?_
      (try simp only [Act.put, List.setIfInBounds_toArray, List.set_cons_zero, List.set_cons_succ])
      refine wpAnyH_take (i := 4) (oi := { dst := some 44, op := .load 25 (.tmp 43), type := 25, pos := "l07_deltas.go:85", after := #[⟨3, .data⟩, ⟨2, .guard⟩], guard := some (2, true) }) (v := undef) rfl (by kernel_rfl) (by kernel_rfl) (by kernel_rfl) (fun _ _ _ h => h) (Or.inr ⟨by rfl, rfl⟩) (by assumption) ?_
      (try simp only [Act.put, List.setIfInBounds_toArray, List.set_cons_zero, List.set_cons_succ])
      refine wpAnyH_take (i := 5) (oi := { dst := some 45, op := .move (.tmp 7), type := 3, pos := "l07_deltas.go:85", after := #[⟨2, .guard⟩], guard := some (2, true) }) (v := undef) rfl (by kernel_rfl) (by kernel_rfl) (by kernel_rfl) (fun _ _ _ h => h) (Or.inr ⟨by rfl, rfl⟩) (by assumption) ?_
      (try simp only [Act.put, List.setIfInBounds_toArray, List.set_cons_zero, List.set_cons_succ])
      refine wpAnyH_take (i := 6) (oi := { dst := some 46, op := .indexAddr 25 (.tmp 44) (.tmp 45), type := 0, pos := "l07_deltas.go:85", after := #[⟨4, .data⟩, ⟨5, .data⟩, ⟨2, .guard⟩], guard := some (2, true) }) (v := undef) rfl (by kernel_rfl) (by kernel_rfl) (by kernel_rfl) (fun _ _ _ h => h) (Or.inr ⟨by rfl, rfl⟩) (by assumption) ?_
      (try simp only [Act.put, List.setIfInBounds_toArray, List.set_cons_zero, List.set_cons_succ])
      refine wpAnyH_take (i := 7) (oi := { dst := some 47, op := .load 34 (.tmp 46), type := 34, pos := "l07_deltas.go:85", after := #[⟨6, .data⟩, ⟨2, .guard⟩], guard := some (2, true) }) (v := undef) rfl (by kernel_rfl) (by kernel_rfl) (by kernel_rfl) (fun _ _ _ h => h) (Or.inr ⟨by rfl, rfl⟩) (by assumption) ?_
      (try simp only [Act.put, List.setIfInBounds_toArray, List.set_cons_zero, List.set_cons_succ])
      refine wpAnyH_take (i := 8) (oi := { dst := some 48, op := .call { callee := .value (.func 95), args := #[.tmp 47], argTypes := #[34] }, type := 4, pos := "l07_deltas.go:85", after := #[⟨7, .data⟩, ⟨2, .chain⟩, ⟨2, .guard⟩], guard := some (2, true) }) (v := undef) rfl (by kernel_rfl) (by kernel_rfl) (by kernel_rfl) (fun _ _ _ h => h) (Or.inr ⟨by rfl, rfl⟩) (by assumption) ?_
      (try simp only [Act.put, List.setIfInBounds_toArray, List.set_cons_zero, List.set_cons_succ])
      refine wpAnyH_take (i := 9) (oi := { dst := some 49, op := .fieldAddr 27 (.tmp 3) 1, type := 0, pos := "l07_deltas.go:85", after := #[⟨2, .guard⟩], guard := some (2, true) }) (v := undef) rfl (by kernel_rfl) (by kernel_rfl) (by kernel_rfl) (fun _ _ _ h => h) (Or.inr ⟨by rfl, rfl⟩) (by assumption) ?_
      (try simp only [Act.put, List.setIfInBounds_toArray, List.set_cons_zero, List.set_cons_succ])
      refine wpAnyH_take (i := 10) (oi := { dst := some 50, op := .load 25 (.tmp 49), type := 25, pos := "l07_deltas.go:85", after := #[⟨9, .data⟩, ⟨2, .guard⟩], guard := some (2, true) }) (v := undef) rfl (by kernel_rfl) (by kernel_rfl) (by kernel_rfl) (fun _ _ _ h => h) (Or.inr ⟨by rfl, rfl⟩) (by assumption) ?_
      (try simp only [Act.put, List.setIfInBounds_toArray, List.set_cons_zero, List.set_cons_succ])
      refine wpAnyH_take (i := 11) (oi := { dst := some 51, op := .move (.tmp 6), type := 3, pos := "l07_deltas.go:85", after := #[⟨2, .guard⟩], guard := some (2, true) }) (v := undef) rfl (by kernel_rfl) (by kernel_rfl) (by kernel_rfl) (fun _ _ _ h => h) (Or.inr ⟨by rfl, rfl⟩) (by assumption) ?_
      (try simp only [Act.put, List.setIfInBounds_toArray, List.set_cons_zero, List.set_cons_succ])
      refine wpAnyH_take (i := 12) (oi := { dst := some 52, op := .indexAddr 25 (.tmp 50) (.tmp 51), type := 0, pos := "l07_deltas.go:85", after := #[⟨10, .data⟩, ⟨11, .data⟩, ⟨2, .guard⟩], guard := some (2, true) }) (v := undef) rfl (by kernel_rfl) (by kernel_rfl) (by kernel_rfl) (fun _ _ _ h => h) (Or.inr ⟨by rfl, rfl⟩) (by assumption) ?_
      (try simp only [Act.put, List.setIfInBounds_toArray, List.set_cons_zero, List.set_cons_succ])
      refine wpAnyH_take (i := 13) (oi := { dst := some 53, op := .load 34 (.tmp 52), type := 34, pos := "l07_deltas.go:85", after := #[⟨12, .data⟩, ⟨2, .guard⟩], guard := some (2, true) }) (v := undef) rfl (by kernel_rfl) (by kernel_rfl) (by kernel_rfl) (fun _ _ _ h => h) (Or.inr ⟨by rfl, rfl⟩) (by assumption) ?_
      (try simp only [Act.put, List.setIfInBounds_toArray, List.set_cons_zero, List.set_cons_succ])
      refine wpAnyH_take (i := 14) (oi := { dst := some 54, op := .call { callee := .value (.func 95), args := #[.tmp 53], argTypes := #[34] }, type := 4, pos := "l07_deltas.go:85", after := #[⟨13, .data⟩, ⟨8, .chain⟩, ⟨2, .guard⟩], guard := some (2, true) }) (v := undef) rfl (by kernel_rfl) (by kernel_rfl) (by kernel_rfl) (fun _ _ _ h => h) (Or.inr ⟨by rfl, rfl⟩) (by assumption) ?_
      (try simp only [Act.put, List.setIfInBounds_toArray, List.set_cons_zero, List.set_cons_succ])
      refine wpAnyH_take (i := 15) (oi := { dst := some 55, op := .binOp .neq 4 (.tmp 48) (.tmp 54) 4, type := 4, pos := "l07_deltas.go:85", after := #[⟨8, .data⟩, ⟨14, .data⟩, ⟨2, .guard⟩], guard := some (2, true) }) (v := undef) rfl (by kernel_rfl) (by kernel_rfl) (by kernel_rfl) (fun _ _ _ h => h) (Or.inr ⟨by rfl, rfl⟩) (by assumption) ?_
      (try simp only [Act.put, List.setIfInBounds_toArray, List.set_cons_zero, List.set_cons_succ])
      refine wpAnyH_take (i := 16) (oi := { dst := some 56, op := .pick (.tmp 42) (.tmp 55) (.const (Value.bool false)), type := 4, pos := "l07_deltas.go:85", after := #[⟨2, .data⟩, ⟨15, .data⟩], guard := none }) (v := ?_) rfl (by kernel_rfl) (by kernel_rfl) (by kernel_rfl) (fun _ _ _ h => h) (Or.inl ⟨by rfl, ?_⟩) (by assumption) ?_
      rotate_left
      · intro w hSw
        (try dsimp only at hSw)
        first | (go_simp; done) | (go_simp; with_reducible rfl)
      (try simp only [Act.put, List.setIfInBounds_toArray, List.set_cons_zero, List.set_cons_succ])
      refine wpAnyH_done (by kernel_rfl) ?_ _
      have HBe : Hid (Below (w.heap.size + 2) w2 y0.drew) := ⟨HBd.out.os, HBd.out.tape, HBd.out.output, HBd.out.size, HBd.out.block⟩
      have HRe : Hid (y0.drew.ownsRow (w.heap.size + 2) 34 8 vv L.length (opCells L)) := HRd.out.drew
      rw [← HE.out] at HRe
      clear hS hHeld d0 d1 d2 d3 d4 d5 d6 d7 a1 b1
      go_wp2
      go_roundw
      case rel => exact ⟨k + 1, _, by omega, rfl, by go_num, HRe, HBe⟩
      case measure => simp [intOf]; omega
    have HTg := Lib.hid (HTy.out i (by rw [HL.out]; exact hi) he)
    have HUy := Lib.hid (undos_pos (HOka.out i (by rw [HL.out]; exact hi)))
    clear he HK
    obtain ⟨b2, off2, rfl, hb2, ho2⟩ := HOd.out.2 i hi
    have HOy : Hid (OpAt y0 b2 (off2 + i * 8) (atOp l i)) := ho2
    clear ho2
    generalize atOp l i = y at HTg HUy HOy
    have huy := HUy.out
    obtain ⟨e0, e1, e2, e3, e4, e5, e6, e7⟩ := HOy.out
    obtain ⟨ly, hly⟩ : ∃ b, liveU y = b := ⟨_, rfl⟩
    obtain ⟨lx, hlx⟩ : ∃ b, liveU x = b := ⟨_, rfl⟩
    have HLy : Hid (decide (y.undos % 2 = 0) = ly) := hly
    have HLx : Hid (decide (x.undos % 2 = 0) = lx) := hlx
    rw [hly, hlx] at HTg
    clear hly hlx
    obtain ⟨tb, hbq⟩ : ∃ b, (ly != lx) = b := ⟨_, rfl⟩
    rw [hbq] at HTg
    have hbx : (ly == lx) = !tb := by rw [← hbq]; cases ly <;> cases lx <;> rfl
    have hii : (i : Int) < (no : Int) := by omega
    have hi0 : decide ((0 : Int) ≤ (i : Int)) = true := decide_eq_true (by omega)
    have hS : y0.drew.cell? ⟨w.heap.size, 1, none⟩ = some (.slice (some ⟨b2, off2, none⟩) no co) ∧ y0.drew.cell? ⟨w.heap.size + 1, 1, none⟩ = some (.slice (some ⟨b, off, none⟩) mo eo) ∧ y0.drew.cell? ⟨b, off + k * 8, none⟩ = some (.int .i64 x.dev) ∧ y0.drew.cell? ⟨b, off + k * 8 + 1, none⟩ = some (.int .i64 x.seq) ∧ y0.drew.cell? ⟨b, off + k * 8 + 2, none⟩ = some (.int .i64 x.stamp) ∧ y0.drew.cell? ⟨b, off + k * 8 + 3, none⟩ = some (.int .i64 x.kind) ∧ y0.drew.cell? ⟨b, off + k * 8 + 4, none⟩ = some (.string x.item) ∧ y0.drew.cell? ⟨b, off + k * 8 + 5, none⟩ = some (.int .i64 x.qty) ∧ y0.drew.cell? ⟨b, off + k * 8 + 6, none⟩ = some (.int .i64 x.level) ∧ y0.drew.cell? ⟨b, off + k * 8 + 7, none⟩ = some (.int .i64 x.undos) ∧ y0.drew.cell? ⟨b2, off2 + i * 8, none⟩ = some (.int .i64 y.dev) ∧ y0.drew.cell? ⟨b2, off2 + i * 8 + 1, none⟩ = some (.int .i64 y.seq) ∧ y0.drew.cell? ⟨b2, off2 + i * 8 + 2, none⟩ = some (.int .i64 y.stamp) ∧ y0.drew.cell? ⟨b2, off2 + i * 8 + 3, none⟩ = some (.int .i64 y.kind) ∧ y0.drew.cell? ⟨b2, off2 + i * 8 + 4, none⟩ = some (.string y.item) ∧ y0.drew.cell? ⟨b2, off2 + i * 8 + 5, none⟩ = some (.int .i64 y.qty) ∧ y0.drew.cell? ⟨b2, off2 + i * 8 + 6, none⟩ = some (.int .i64 y.level) ∧ y0.drew.cell? ⟨b2, off2 + i * 8 + 7, none⟩ = some (.int .i64 y.undos) := ⟨a1, b1, d0, d1, d2, d3, d4, d5, d6, d7, e0, e1, e2, e3, e4, e5, e6, e7⟩
    go_wp2_with fail
    refine wp_region_held_drew (S := fun w' => w'.cell? ⟨w.heap.size, 1, none⟩ = some (.slice (some ⟨b2, off2, none⟩) no co) ∧ w'.cell? ⟨w.heap.size + 1, 1, none⟩ = some (.slice (some ⟨b, off, none⟩) mo eo) ∧ w'.cell? ⟨b, off + k * 8, none⟩ = some (.int .i64 x.dev) ∧ w'.cell? ⟨b, off + k * 8 + 1, none⟩ = some (.int .i64 x.seq) ∧ w'.cell? ⟨b, off + k * 8 + 2, none⟩ = some (.int .i64 x.stamp) ∧ w'.cell? ⟨b, off + k * 8 + 3, none⟩ = some (.int .i64 x.kind) ∧ w'.cell? ⟨b, off + k * 8 + 4, none⟩ = some (.string x.item) ∧ w'.cell? ⟨b, off + k * 8 + 5, none⟩ = some (.int .i64 x.qty) ∧ w'.cell? ⟨b, off + k * 8 + 6, none⟩ = some (.int .i64 x.level) ∧ w'.cell? ⟨b, off + k * 8 + 7, none⟩ = some (.int .i64 x.undos) ∧ w'.cell? ⟨b2, off2 + i * 8, none⟩ = some (.int .i64 y.dev) ∧ w'.cell? ⟨b2, off2 + i * 8 + 1, none⟩ = some (.int .i64 y.seq) ∧ w'.cell? ⟨b2, off2 + i * 8 + 2, none⟩ = some (.int .i64 y.stamp) ∧ w'.cell? ⟨b2, off2 + i * 8 + 3, none⟩ = some (.int .i64 y.kind) ∧ w'.cell? ⟨b2, off2 + i * 8 + 4, none⟩ = some (.string y.item) ∧ w'.cell? ⟨b2, off2 + i * 8 + 5, none⟩ = some (.int .i64 y.qty) ∧ w'.cell? ⟨b2, off2 + i * 8 + 6, none⟩ = some (.int .i64 y.level) ∧ w'.cell? ⟨b2, off2 + i * 8 + 7, none⟩ = some (.int .i64 y.undos)) (by kernel_rfl) hS (fun hHeld => ?_)
    refine wpAnyH_take (i := 0) (oi := { dst := some 40, op := .move (.tmp 7), type := 3, pos := "l07_deltas.go:85", after := #[], guard := none }) (v := ?_) rfl (by kernel_rfl) (by kernel_rfl) (by kernel_rfl) (fun _ _ _ h => h) (Or.inl ⟨by rfl, ?_⟩) (by assumption) ?_
    rotate_left
    · intro w hSw
      (try dsimp only at hSw)
      first | (go_simp; done) | (go_simp; with_reducible rfl)
    (try simp only [Act.put, List.setIfInBounds_toArray, List.set_cons_zero, List.set_cons_succ])
    refine wpAnyH_take (i := 1) (oi := { dst := some 41, op := .binOp .geq 3 (.tmp 40) (.const (Value.int IntKind.i64 0)) 3, type := 4, pos := "l07_deltas.go:85", after := #[⟨0, .data⟩], guard := none }) (v := ?_) rfl (by kernel_rfl) (by kernel_rfl) (by kernel_rfl) (fun _ _ _ h => h) (Or.inl ⟨by rfl, ?_⟩) (by assumption) ?_
    rotate_left
    · intro w hSw
      (try dsimp only at hSw)
      first | (go_simp; done) | (go_simp; with_reducible rfl)
    (try simp only [Act.put, List.setIfInBounds_toArray, List.set_cons_zero, List.set_cons_succ])
    refine wpAnyH_take (i := 2) (oi := { dst := some 42, op := .move (.tmp 41), type := 4, pos := "l07_deltas.go:85", after := #[⟨1, .data⟩], guard := none }) (v := ?_) rfl (by kernel_rfl) (by kernel_rfl) (by kernel_rfl) (fun _ _ _ h => h) (Or.inl ⟨by rfl, ?_⟩) (by assumption) ?_
    rotate_left
    · intro w hSw
      (try dsimp only at hSw)
      first | (go_simp; done) | (go_simp; with_reducible rfl)
    (try simp only [Act.put, List.setIfInBounds_toArray, List.set_cons_zero, List.set_cons_succ])
    refine wpAnyH_take (i := 3) (oi := { dst := some 43, op := .fieldAddr 27 (.tmp 2) 1, type := 0, pos := "l07_deltas.go:85", after := #[⟨2, .guard⟩], guard := some (2, true) }) (v := ?_) rfl (by kernel_rfl) (by kernel_rfl) (by kernel_rfl) (fun _ _ _ h => h) (Or.inl ⟨by rfl, ?_⟩) (by assumption) ?_
    rotate_left
    · intro w hSw
      (try dsimp only at hSw)
      first | (go_simp; done) | (go_simp; with_reducible rfl)
    (try simp only [Act.put, List.setIfInBounds_toArray, List.set_cons_zero, List.set_cons_succ])
    refine wpAnyH_take (i := 4) (oi := { dst := some 44, op := .load 25 (.tmp 43), type := 25, pos := "l07_deltas.go:85", after := #[⟨3, .data⟩, ⟨2, .guard⟩], guard := some (2, true) }) (v := ?_) rfl (by kernel_rfl) (by kernel_rfl) (by kernel_rfl) (fun _ _ _ h => h) (Or.inl ⟨by rfl, ?_⟩) (by assumption) ?_
    rotate_left
    · intro w hSw
      (try dsimp only at hSw)
      first | (go_simp; done) | (go_simp; with_reducible rfl)
    (try simp only [Act.put, List.setIfInBounds_toArray, List.set_cons_zero, List.set_cons_succ])
    refine wpAnyH_take (i := 5) (oi := { dst := some 45, op := .move (.tmp 7), type := 3, pos := "l07_deltas.go:85", after := #[⟨2, .guard⟩], guard := some (2, true) }) (v := ?_) rfl (by kernel_rfl) (by kernel_rfl) (by kernel_rfl) (fun _ _ _ h => h) (Or.inl ⟨by rfl, ?_⟩) (by assumption) ?_
    rotate_left
    · intro w hSw
      (try dsimp only at hSw)
      first | (go_simp; done) | (go_simp; with_reducible rfl)
    (try simp only [Act.put, List.setIfInBounds_toArray, List.set_cons_zero, List.set_cons_succ])
    refine wpAnyH_take (i := 6) (oi := { dst := some 46, op := .indexAddr 25 (.tmp 44) (.tmp 45), type := 0, pos := "l07_deltas.go:85", after := #[⟨4, .data⟩, ⟨5, .data⟩, ⟨2, .guard⟩], guard := some (2, true) }) (v := ?_) rfl (by kernel_rfl) (by kernel_rfl) (by kernel_rfl) (fun _ _ _ h => h) (Or.inl ⟨by rfl, ?_⟩) (by assumption) ?_
    rotate_left
    · intro w hSw
      (try dsimp only at hSw)
      first | (go_simp; done) | (go_simp; with_reducible rfl)
    (try simp only [Act.put, List.setIfInBounds_toArray, List.set_cons_zero, List.set_cons_succ])
    refine wpAnyH_take (i := 7) (oi := { dst := some 47, op := .load 34 (.tmp 46), type := 34, pos := "l07_deltas.go:85", after := #[⟨6, .data⟩, ⟨2, .guard⟩], guard := some (2, true) }) (v := ?_) rfl (by kernel_rfl) (by kernel_rfl) (by kernel_rfl) (fun _ _ _ h => h) (Or.inl ⟨by rfl, ?_⟩) (by assumption) ?_
    rotate_left
    · intro w hSw
      (try dsimp only at hSw)
      first | (go_simp; done) | (go_simp; with_reducible rfl)
    (try simp only [Act.put, List.setIfInBounds_toArray, List.set_cons_zero, List.set_cons_succ])
    refine wpAnyH_take (i := 9) (oi := { dst := some 49, op := .fieldAddr 27 (.tmp 3) 1, type := 0, pos := "l07_deltas.go:85", after := #[⟨2, .guard⟩], guard := some (2, true) }) (v := ?_) rfl (by kernel_rfl) (by kernel_rfl) (by kernel_rfl) (fun _ _ _ h => h) (Or.inl ⟨by rfl, ?_⟩) (by assumption) ?_
    rotate_left
    · intro w hSw
      (try dsimp only at hSw)
      first | (go_simp; done) | (go_simp; with_reducible rfl)
    (try simp only [Act.put, List.setIfInBounds_toArray, List.set_cons_zero, List.set_cons_succ])
    refine wpAnyH_take (i := 10) (oi := { dst := some 50, op := .load 25 (.tmp 49), type := 25, pos := "l07_deltas.go:85", after := #[⟨9, .data⟩, ⟨2, .guard⟩], guard := some (2, true) }) (v := ?_) rfl (by kernel_rfl) (by kernel_rfl) (by kernel_rfl) (fun _ _ _ h => h) (Or.inl ⟨by rfl, ?_⟩) (by assumption) ?_
    rotate_left
    · intro w hSw
      (try dsimp only at hSw)
      first | (go_simp; done) | (go_simp; with_reducible rfl)
    (try simp only [Act.put, List.setIfInBounds_toArray, List.set_cons_zero, List.set_cons_succ])
    refine wpAnyH_take (i := 11) (oi := { dst := some 51, op := .move (.tmp 6), type := 3, pos := "l07_deltas.go:85", after := #[⟨2, .guard⟩], guard := some (2, true) }) (v := ?_) rfl (by kernel_rfl) (by kernel_rfl) (by kernel_rfl) (fun _ _ _ h => h) (Or.inl ⟨by rfl, ?_⟩) (by assumption) ?_
    rotate_left
    · intro w hSw
      (try dsimp only at hSw)
      first | (go_simp; done) | (go_simp; with_reducible rfl)
    (try simp only [Act.put, List.setIfInBounds_toArray, List.set_cons_zero, List.set_cons_succ])
    refine wpAnyH_take (i := 12) (oi := { dst := some 52, op := .indexAddr 25 (.tmp 50) (.tmp 51), type := 0, pos := "l07_deltas.go:85", after := #[⟨10, .data⟩, ⟨11, .data⟩, ⟨2, .guard⟩], guard := some (2, true) }) (v := ?_) rfl (by kernel_rfl) (by kernel_rfl) (by kernel_rfl) (fun _ _ _ h => h) (Or.inl ⟨by rfl, ?_⟩) (by assumption) ?_
    rotate_left
    · intro w hSw
      (try dsimp only at hSw)
      first | (go_simp; done) | (go_simp; with_reducible rfl)
    (try simp only [Act.put, List.setIfInBounds_toArray, List.set_cons_zero, List.set_cons_succ])
    refine wpAnyH_take (i := 13) (oi := { dst := some 53, op := .load 34 (.tmp 52), type := 34, pos := "l07_deltas.go:85", after := #[⟨12, .data⟩, ⟨2, .guard⟩], guard := some (2, true) }) (v := ?_) rfl (by kernel_rfl) (by kernel_rfl) (by kernel_rfl) (fun _ _ _ h => h) (Or.inl ⟨by rfl, ?_⟩) (by assumption) ?_
    rotate_left
    · intro w hSw
      (try dsimp only at hSw)
      first | (go_simp; done) | (go_simp; with_reducible rfl)
    (try simp only [Act.put, List.setIfInBounds_toArray, List.set_cons_zero, List.set_cons_succ])
    refine wpAnyH_ready (rs := [8]) (by kernel_rfl) (by simp) ?_
    refine AllReadyH.cons (o := { dst := some 48, op := .call { callee := .value (.func 95), args := #[.tmp 47], argTypes := #[34] }, type := 4, pos := "l07_deltas.go:85", after := #[⟨7, .data⟩, ⟨2, .chain⟩, ⟨2, .guard⟩], guard := some (2, true) }) rfl (fun K hK => ?_) AllReadyH.nil
    go_simp
    go_at_call 95
    refine (l3Live y.dev y.seq y.stamp y.kind y.item y.qty y.level y.undos _ huy).mono ?_
    rintro e y1 ⟨rfl, hby1⟩
    rw [HLy.out]
    have hSy1 : y1.cell? ⟨w.heap.size, 1, none⟩ = some (.slice (some ⟨b2, off2, none⟩) no co) ∧ y1.cell? ⟨w.heap.size + 1, 1, none⟩ = some (.slice (some ⟨b, off, none⟩) mo eo) ∧ y1.cell? ⟨b, off + k * 8, none⟩ = some (.int .i64 x.dev) ∧ y1.cell? ⟨b, off + k * 8 + 1, none⟩ = some (.int .i64 x.seq) ∧ y1.cell? ⟨b, off + k * 8 + 2, none⟩ = some (.int .i64 x.stamp) ∧ y1.cell? ⟨b, off + k * 8 + 3, none⟩ = some (.int .i64 x.kind) ∧ y1.cell? ⟨b, off + k * 8 + 4, none⟩ = some (.string x.item) ∧ y1.cell? ⟨b, off + k * 8 + 5, none⟩ = some (.int .i64 x.qty) ∧ y1.cell? ⟨b, off + k * 8 + 6, none⟩ = some (.int .i64 x.level) ∧ y1.cell? ⟨b, off + k * 8 + 7, none⟩ = some (.int .i64 x.undos) ∧ y1.cell? ⟨b2, off2 + i * 8, none⟩ = some (.int .i64 y.dev) ∧ y1.cell? ⟨b2, off2 + i * 8 + 1, none⟩ = some (.int .i64 y.seq) ∧ y1.cell? ⟨b2, off2 + i * 8 + 2, none⟩ = some (.int .i64 y.stamp) ∧ y1.cell? ⟨b2, off2 + i * 8 + 3, none⟩ = some (.int .i64 y.kind) ∧ y1.cell? ⟨b2, off2 + i * 8 + 4, none⟩ = some (.string y.item) ∧ y1.cell? ⟨b2, off2 + i * 8 + 5, none⟩ = some (.int .i64 y.qty) ∧ y1.cell? ⟨b2, off2 + i * 8 + 6, none⟩ = some (.int .i64 y.level) ∧ y1.cell? ⟨b2, off2 + i * 8 + 7, none⟩ = some (.int .i64 y.undos) := by
      obtain ⟨q0, q1, q2, q3, q4, q5, q6, q7, q8, q9, q10, q11, q12, q13, q14, q15, q16, q17⟩ := hS
      exact ⟨(hby1.cell (block_lt_of_cell q0)).trans q0, (hby1.cell (block_lt_of_cell q1)).trans q1, (hby1.cell (block_lt_of_cell q2)).trans q2, (hby1.cell (block_lt_of_cell q3)).trans q3, (hby1.cell (block_lt_of_cell q4)).trans q4, (hby1.cell (block_lt_of_cell q5)).trans q5, (hby1.cell (block_lt_of_cell q6)).trans q6, (hby1.cell (block_lt_of_cell q7)).trans q7, (hby1.cell (block_lt_of_cell q8)).trans q8, (hby1.cell (block_lt_of_cell q9)).trans q9, (hby1.cell (block_lt_of_cell q10)).trans q10, (hby1.cell (block_lt_of_cell q11)).trans q11, (hby1.cell (block_lt_of_cell q12)).trans q12, (hby1.cell (block_lt_of_cell q13)).trans q13, (hby1.cell (block_lt_of_cell q14)).trans q14, (hby1.cell (block_lt_of_cell q15)).trans q15, (hby1.cell (block_lt_of_cell q16)).trans q16, (hby1.cell (block_lt_of_cell q17)).trans q17⟩
    refine hK.out _ _ hSy1 (fun hHeld2 => ?_)
    clear hK K
    (try simp only [Act.put, List.setIfInBounds_toArray, List.set_cons_zero, List.set_cons_succ])
    refine wpAnyH_ready (rs := [14]) (by kernel_rfl) (by simp) ?_
    refine AllReadyH.cons (o := { dst := some 54, op := .call { callee := .value (.func 95), args := #[.tmp 53], argTypes := #[34] }, type := 4, pos := "l07_deltas.go:85", after := #[⟨13, .data⟩, ⟨8, .chain⟩, ⟨2, .guard⟩], guard := some (2, true) }) rfl (fun K hK => ?_) AllReadyH.nil
    go_simp
    go_at_call 95
    refine (l3Live x.dev x.seq x.stamp x.kind x.item x.qty x.level x.undos _ hux).mono ?_
    rintro e y2 ⟨rfl, hby2⟩
    rw [HLx.out]
    have hSy2 : y2.cell? ⟨w.heap.size, 1, none⟩ = some (.slice (some ⟨b2, off2, none⟩) no co) ∧ y2.cell? ⟨w.heap.size + 1, 1, none⟩ = some (.slice (some ⟨b, off, none⟩) mo eo) ∧ y2.cell? ⟨b, off + k * 8, none⟩ = some (.int .i64 x.dev) ∧ y2.cell? ⟨b, off + k * 8 + 1, none⟩ = some (.int .i64 x.seq) ∧ y2.cell? ⟨b, off + k * 8 + 2, none⟩ = some (.int .i64 x.stamp) ∧ y2.cell? ⟨b, off + k * 8 + 3, none⟩ = some (.int .i64 x.kind) ∧ y2.cell? ⟨b, off + k * 8 + 4, none⟩ = some (.string x.item) ∧ y2.cell? ⟨b, off + k * 8 + 5, none⟩ = some (.int .i64 x.qty) ∧ y2.cell? ⟨b, off + k * 8 + 6, none⟩ = some (.int .i64 x.level) ∧ y2.cell? ⟨b, off + k * 8 + 7, none⟩ = some (.int .i64 x.undos) ∧ y2.cell? ⟨b2, off2 + i * 8, none⟩ = some (.int .i64 y.dev) ∧ y2.cell? ⟨b2, off2 + i * 8 + 1, none⟩ = some (.int .i64 y.seq) ∧ y2.cell? ⟨b2, off2 + i * 8 + 2, none⟩ = some (.int .i64 y.stamp) ∧ y2.cell? ⟨b2, off2 + i * 8 + 3, none⟩ = some (.int .i64 y.kind) ∧ y2.cell? ⟨b2, off2 + i * 8 + 4, none⟩ = some (.string y.item) ∧ y2.cell? ⟨b2, off2 + i * 8 + 5, none⟩ = some (.int .i64 y.qty) ∧ y2.cell? ⟨b2, off2 + i * 8 + 6, none⟩ = some (.int .i64 y.level) ∧ y2.cell? ⟨b2, off2 + i * 8 + 7, none⟩ = some (.int .i64 y.undos) := by
      obtain ⟨q0, q1, q2, q3, q4, q5, q6, q7, q8, q9, q10, q11, q12, q13, q14, q15, q16, q17⟩ := hSy1
      exact ⟨(hby2.cell (block_lt_of_cell q0)).trans q0, (hby2.cell (block_lt_of_cell q1)).trans q1, (hby2.cell (block_lt_of_cell q2)).trans q2, (hby2.cell (block_lt_of_cell q3)).trans q3, (hby2.cell (block_lt_of_cell q4)).trans q4, (hby2.cell (block_lt_of_cell q5)).trans q5, (hby2.cell (block_lt_of_cell q6)).trans q6, (hby2.cell (block_lt_of_cell q7)).trans q7, (hby2.cell (block_lt_of_cell q8)).trans q8, (hby2.cell (block_lt_of_cell q9)).trans q9, (hby2.cell (block_lt_of_cell q10)).trans q10, (hby2.cell (block_lt_of_cell q11)).trans q11, (hby2.cell (block_lt_of_cell q12)).trans q12, (hby2.cell (block_lt_of_cell q13)).trans q13, (hby2.cell (block_lt_of_cell q14)).trans q14, (hby2.cell (block_lt_of_cell q15)).trans q15, (hby2.cell (block_lt_of_cell q16)).trans q16, (hby2.cell (block_lt_of_cell q17)).trans q17⟩
    refine hK.out _ _ hSy2 (fun hHeld3 => ?_)
    clear hK K
    (try simp only [Act.put, List.setIfInBounds_toArray, List.set_cons_zero, List.set_cons_succ])
    refine wpAnyH_take (i := 15) (oi := { dst := some 55, op := .binOp .neq 4 (.tmp 48) (.tmp 54) 4, type := 4, pos := "l07_deltas.go:85", after := #[⟨8, .data⟩, ⟨14, .data⟩, ⟨2, .guard⟩], guard := some (2, true) }) (v := ?_) rfl (by kernel_rfl) (by kernel_rfl) (by kernel_rfl) (fun _ _ _ h => h) (Or.inl ⟨by rfl, ?_⟩) (by assumption) ?_
    rotate_left
    · intro w hSw
      (try dsimp only at hSw)
      first | (go_simp; done) | (go_simp; with_reducible rfl)
    (try simp only [Act.put, List.setIfInBounds_toArray, List.set_cons_zero, List.set_cons_succ])
    refine wpAnyH_take (i := 16) (oi := { dst := some 56, op := .pick (.tmp 42) (.tmp 55) (.const (Value.bool false)), type := 4, pos := "l07_deltas.go:85", after := #[⟨2, .data⟩, ⟨15, .data⟩], guard := none }) (v := ?_) rfl (by kernel_rfl) (by kernel_rfl) (by kernel_rfl) (fun _ _ _ h => h) (Or.inl ⟨by rfl, ?_⟩) (by assumption) ?_
    rotate_left
    · intro w hSw
      (try dsimp only at hSw)
      first | (go_simp; done) | (go_simp; with_reducible rfl)
    (try simp only [Act.put, List.setIfInBounds_toArray, List.set_cons_zero, List.set_cons_succ])
    refine wpAnyH_done (by kernel_rfl) ?_ _
    have hc1 : Below y0.heap.size y0 y1 := Below.mk hby1.os hby1.tape hby1.output hby1.size hby1.block
    have hc2 : Below y0.heap.size y0 y2 := hc1.trans (hby2.mono hc1.size)
    have HBe := Lib.hid (HBd.out.trans (hc2.mono (by omega)))
    have HRe := Lib.hid (own_row_kept HRd.out hc2)
    obtain ⟨q0, q1, q2, q3, q4, q5, q6, q7, q8, q9, q10, q11, q12, q13, q14, q15, q16, q17⟩ := hSy2
    have hsy : w2.heap.size ≤ y2.heap.size := by have := hc2.size; omega
    clear hS hSy1 hHeld hHeld2 hHeld3 hby1 hby2 hc1 hc2 d0 d1 d2 d3 d4 d5 d6 d7 e0 e1 e2 e3 e4 e5 e6 e7 a1 b1 hbq
    cases tb
    · have HE : Hid ((m.take (k + 1)).filter (togB l) = L) := by show _ = _; rw [HSt.out, HTg.out]; rfl
      rw [← HE.out] at HRe
      clear q0 q1 q2 q3 q4 q5 q6 q7 q8 q9 q10 q11 q12 q13 q14 q15 q16 q17
      go_wp2
      go_roundw
      case rel => exact ⟨k + 1, _, by omega, rfl, by go_num, HRe, HBe⟩
      case measure => simp [intOf]; omega
    have HE : Hid ((m.take (k + 1)).filter (togB l) = L ++ [x]) := by show _ = _; rw [HSt.out, HTg.out]; rfl
    have hown1 := HRe.out.alloc (.cells #[.int .i64 x.dev, .int .i64 x.seq, .int .i64 x.stamp, .int .i64 x.kind, .string x.item, .int .i64 x.qty, .int .i64 x.level, .int .i64 x.undos] 34)
    go_wp2_with (at_builtin; refine wpList_append_own _ rfl _ _ 25 rfl (w.heap.size + 2) 34 i0 (.agg #[.int .i64 0, .int .i64 0, .int .i64 0, .int .i64 0, .string ⟨#[]⟩, .int .i64 0, .int .i64 0, .int .i64 0]) 8 72 Try.underlying25 hi0' hz0 hz1 hz2 rfl (by decide) _ _ _ rfl hown1 ⟨y2.heap.size, 0, none⟩ 1 1 (opRow x) rfl ?c0 ?c1 ?c2 ?c3 ?c4 ?c5 ?_)
    case c0 => rfl
    case c1 => exact opRow_new y2 x
    case c2 =>
      intro u hu
      exact opCells_one [x] u (by show u ∈ opRow x ++ []; rw [List.append_nil]; exact hu)
    case c3 => unfold maxLen; omega
    case c4 => omega
    case c5 => simp; omega
    intro v' z2 hown2 hgrow _
    have HB2 := Lib.hid ((HBe.out.alloc (by omega) (.cells #[.int .i64 x.dev, .int .i64 x.seq, .int .i64 x.stamp, .int .i64 x.kind, .string x.item, .int .i64 x.qty, .int .i64 x.level, .int .i64 x.undos] 34)).grown hgrow (by simp; omega) (fun j hj => (hown1.lt j hj).1))
    have HR2 : Hid (z2.ownsRow (w.heap.size + 2) 34 8 v' ((m.take (k + 1)).filter (togB l)).length (opCells ((m.take (k + 1)).filter (togB l)))) := by
      show World.ownsRow _ _ _ _ _ _ _
      rw [HE.out, opCells_snoc, List.length_append]
      exact hown2
    clear hown2 hgrow hown1 HRe q0 q1 q2 q3 q4 q5 q6 q7 q8 q9 q10 q11 q12 q13 q14 q15 q16 q17
    go_wp2
    go_roundw
    case rel => exact ⟨k + 1, _, by omega, rfl, by go_num, HR2, HB2⟩
    case measure => simp [intOf]; omega
end Go.Proofs.Ytmceofdknphgkaa
