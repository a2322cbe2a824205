/- More mathematics that several claims share. -/
import Derived.Test.YtmceofdknphgkaaGa0
import Derived.Test.YtmceofdknphgkaaGa1
import Derived.Test.YtmceofdknphgkaaGa2
import Derived.Test.YtmceofdknphgkaaGa3
import Derived.Test.YtmceofdknphgkaaGa4
import Derived.Test.YtmceofdknphgkaaGa5
import Derived.Test.YtmceofdknphgkaaGa6
import Derived.Test.YtmceofdknphgkaaGa7
import Derived.Test.YtmceofdknphgkaaGa8
import Derived.Test.YtmceofdknphgkaaGa9
import Derived.Test.YtmceofdknphgkaaGa10
import Derived.Test.YtmceofdknphgkaaGa11
import Derived.Test.YtmceofdknphgkaaGa12
import Derived.Test.YtmceofdknphgkaaGa13
import Derived.Test.YtmceofdknphgkaaGa14
import Derived.Test.YtmceofdknphgkaaGa15
import Derived.Test.YtmceofdknphgkaaGa16
import Derived.Test.YtmceofdknphgkaaGa17
import Derived.Test.YtmceofdknphgkaaGa18
import Derived.Test.YtmceofdknphgkaaGa19
import Derived.Test.YtmceofdknphgkaaGa20
import Derived.Test.YtmceofdknphgkaaGa21
import Derived.Test.YtmceofdknphgkaaGa22
import Derived.Test.YtmceofdknphgkaaGa23
import Derived.Test.YtmceofdknphgkaaGa24
import Derived.Test.YtmceofdknphgkaaGa25
import Derived.Test.YtmceofdknphgkaaGa26
import Derived.Test.YtmceofdknphgkaaGa27
import Derived.Test.YtmceofdknphgkaaGa28
import Derived.Test.YtmceofdknphgkaaGa29
import Derived.Test.YtmceofdknphgkaaGa30
import Derived.Test.YtmceofdknphgkaaGa31
import Derived.Test.YtmceofdknphgkaaGa32
import Derived.Test.YtmceofdknphgkaaGa33
import Derived.Test.YtmceofdknphgkaaGa34
import Derived.WalkKit
import Derived.Laws.AppendOwn
import Derived.Shelf.LaysM
import Derived.Shelf.Strconv.Clone
import Derived.WalkLawsBesides
import Derived.Lib.Hide
import Derived.Lib.Strings
import Derived.WalkSpells
import Derived.IntWalk
import Derived.Below
import Derived.Laws.Rows
import Derived.OpenShut
import Derived.Handy
import Derived.Deep.QuietTactic
import Derived.BigQuiet
import Derived.Laws.MakeOwn
import Derived.OwnWalk
import Derived.Deep.Cut
import Derived.Deep.RegionHeld3
import Derived.RegionTactic
import Derived.Maps.AppendAt
import Derived.Laws.Cover3
import Derived.Deep.CutRange
import Derived.Deep.CutBlock
import Derived.Deep.AppendLies
import Derived.Lib.SliceRun
import Derived.Lib.MinMax
import Derived.Laws.BytesArg
import Derived.Laws.EntriesVeiled
import Derived.Laws.OwnMore
import Derived.Deep.Onto
import Derived.Maps.OwnSet
import Derived.DeepKeys4
import Derived.ScopeJumps
import Derived.RangeFuncNested
import Derived.RangeFuncBound
import Derived.RangeFuncCalls
import Derived.RangeFuncLeaves
import Derived.Shelf.Abstract
import Derived.Shelf.RegionOpen
import Derived.OwnWalkIn
import Derived.TacticsInMore
import Derived.LoopNIn
import Derived.LoopIn
import Derived.Laws.Tables
import Derived.Great.BuildSlice
namespace Go.Proofs.Ytmceofdknphgkaa
open Go.RowKit
/-- It is nil; or it leads to a row of 'cap' cells, the numbers 'zs' (the first 'len' are its elements), each fitting its kind. -/
def IsRow (k : IntKind) (w : World) (a : Option Addr) (len cap : Nat) (zs : List Int) : Prop :=
  (a = none ∧ len = 0 ∧ cap = 0 ∧ zs = []) ∨
  ∃ x, a = some x ∧ len ≤ cap ∧ cap ≤ maxLen ∧ zs.length = cap ∧ (∀ i, i < zs.length → w.cell? (x.add i) = some (.int k (zs.getD i 0))) ∧ ∀ n ∈ zs, (Lit.int k n).wf = true
theorem add_plain {x : Addr} {w : World} {v : Value} (h : w.cell? (x.add 0) = some v) : ∃ b off, x = ⟨b, off, none⟩ := by
  obtain ⟨b, off, spot⟩ := x
  have hs := World.cell?_spot h
  have e0 : (⟨b, off, spot⟩ : Addr).add 0 = ⟨b, off, spot⟩ := by simp [Addr.add]
  rw [e0] at hs
  have : spot = none := hs
  subst this
  exact ⟨b, off, rfl⟩
theorem src_of_row {w : World} {a : Option Addr} {len cap : Nat} {zs : List Int} (h : IsRow .u8 w a len cap zs) (hl : len ≤ 1048576) : Src w w.heap.size a len := by
  refine ⟨hl, fun i hi => ?_⟩
  rcases h with ⟨_, rfl, _⟩ | ⟨x, rfl, hlc, _, hz, hc, hw⟩
  · omega
  · have hci := hc i (by omega)
    obtain ⟨b, off, rfl⟩ := add_plain (hc 0 (by omega))
    have ea := add_at b off i
    have hb := bounds_u8 (hw (zs.getD i 0) (by rw [List.getD_eq_getElem?_getD, List.getElem?_eq_getElem (by omega)]; simp))
    rw [ea] at hci
    refine ⟨b, off, (zs.getD i 0).toNat, rfl, block_lt_of_cell hci, by omega, ?_⟩
    rw [hci, Int.toNat_of_nonneg hb.1]

theorem bigNo (a : Option Addr) (len cap : Nat) (h : len ≤ 1048576) (w : World) :
    Calls Try.prog 15 #[.slice a len cap] w fun e w' => e = .returned (.bool false) ∧ w = w' := by
  have hd : decide ((1048576 : Int) < (len : Int)) = false := decide_eq_false (by omega)
  go_enter Try.func15, Try.ntmps15
  go_wp2
  go_ret
  exact ⟨rfl, rfl⟩
theorem bigYes (a : Option Addr) (len cap : Nat) (h : ¬ len ≤ 1048576) (w : World) :
    Calls Try.prog 15 #[.slice a len cap] w fun e w' => e = .returned (.bool true) ∧ w = w' := by
  have hd : decide ((1048576 : Int) < (len : Int)) = true := decide_eq_true (by omega)
  go_enter Try.func15, Try.ntmps15
  go_wp2
  go_ret
  exact ⟨rfl, rfl⟩

def cmpI (x y : Int) : Int := if x < y then -1 else if y < x then 1 else 0
theorem cmp_lt {x y : Int} (h : x < y) : cmpI x y = -1 := if_pos h
theorem cmp_gt {x y : Int} (h : y < x) : cmpI x y = 1 := by unfold cmpI; rw [if_neg (by omega), if_pos h]
theorem cmp_eq {x y : Int} (h : x = y) : cmpI x y = 0 := by unfold cmpI; rw [if_neg (by omega), if_neg (by omega)]
def orI (x y z : Int) : Int := if x ≠ 0 then x else if y ≠ 0 then y else z
theorem or_pre (s d q s' d' q' : Int) : decide (orI (cmpI s s') (cmpI d d') (cmpI q q') < 0) = preB s d q s' d' q' := by
  unfold preB
  rw [decide_eq_decide]
  unfold orI
  rcases Int.lt_trichotomy s s' with h | h | h
  · rw [cmp_lt h, if_pos (by decide)]; omega
  · rw [cmp_eq h, if_neg (by decide)]
    rcases Int.lt_trichotomy d d' with g | g | g
    · rw [cmp_lt g, if_pos (by decide)]; omega
    · rw [cmp_eq g, if_neg (by decide)]
      rcases Int.lt_trichotomy q q' with k | k | k
      · rw [cmp_lt k]; omega
      · rw [cmp_eq k]; omega
      · rw [cmp_gt k]; omega
    · rw [cmp_gt g, if_pos (by decide)]; omega
  · rw [cmp_gt h, if_pos (by decide)]; omega

theorem isNaN (x : Int) (w : World) : Calls Try.prog 160 #[.int .i64 x] w fun e w' => e = .returned (.bool false) ∧ w = w' := by
  go_enter Try.func160, Try.ntmps160
  go_wp2
  go_ret
  exact ⟨rfl, rfl⟩
theorem compare (x y : Int) (w : World) : Calls Try.prog 106 #[.int .i64 x, .int .i64 y] w fun e w' => e = .returned (.int .i64 (cmpI x y)) ∧ w = w' := by
  rcases Int.lt_trichotomy x y with h | h | h
  · have H := Lib.hid (cmp_lt h)
    go_enter Try.func106, Try.ntmps106
    go_wp2_with fail
    refine (isNaN _ _).mono ?_
    rintro e w' ⟨rfl, rfl⟩
    go_wp2_with fail
    refine (isNaN _ _).mono ?_
    rintro e w' ⟨rfl, rfl⟩
    go_wp2
    go_ret
    exact ⟨by rw [H.out]; rfl, rfl⟩
  · have H := Lib.hid (cmp_eq h)
    subst h
    go_enter Try.func106, Try.ntmps106
    go_wp2_with fail
    refine (isNaN _ _).mono ?_
    rintro e w' ⟨rfl, rfl⟩
    go_wp2_with fail
    refine (isNaN _ _).mono ?_
    rintro e w' ⟨rfl, rfl⟩
    go_wp2
    go_ret
    exact ⟨by rw [H.out]; rfl, rfl⟩
  · have H := Lib.hid (cmp_gt h)
    have h' : ¬ x < y := by omega
    go_enter Try.func106, Try.ntmps106
    go_wp2_with fail
    refine (isNaN _ _).mono ?_
    rintro e w' ⟨rfl, rfl⟩
    go_wp2_with fail
    refine (isNaN _ _).mono ?_
    rintro e w' ⟨rfl, rfl⟩
    go_wp2
    go_ret
    exact ⟨by rw [H.out]; rfl, rfl⟩
set_option maxRecDepth 100000 in
theorem cmpOr (x y z : Int) (b : Nat) (w : World) (h0 : w.cell? ⟨b, 0, none⟩ = some (.int .i64 x)) (h1 : w.cell? ⟨b, 1, none⟩ = some (.int .i64 y)) (h2 : w.cell? ⟨b, 2, none⟩ = some (.int .i64 z)) :
    Calls Try.prog 105 #[.slice (some ⟨b, 0, none⟩) 3 3] w fun e w' => e = .returned (.int .i64 (orI x y z)) ∧ w = w' := by
  by_cases hx : x = 0
  · by_cases hy : y = 0
    · by_cases hz : z = 0
      · have z0 : (x != 0) = false := by rw [hx]; rfl
        have z1 : (y != 0) = false := by rw [hy]; rfl
        have z2 : (z != 0) = false := by rw [hz]; rfl
        have HV : Hid (orI x y z = 0) := by show orI x y z = 0; unfold orI; rw [if_neg (fun h => h hx)]; rw [if_neg (fun h => h hy)]; exact hz
        clear hx hy hz
        go_enter Try.func105, Try.ntmps105
        go_wp2
        go_loop [8] (fun i => ∃ k : Nat, k ≤ 3 ∧ i = .int .i64 k) (fun i => 3 - (intOf i).toNat)
        case atStart => exact ⟨0, by omega, rfl⟩
        case round =>
          obtain ⟨k, hk, rfl⟩ := hrel
          obtain rfl | rfl | rfl | rfl : k = 0 ∨ k = 1 ∨ k = 2 ∨ k = 3 := by omega
          · go_wp2
            go_round
            case rel => exact ⟨1, by omega, by go_num⟩
            case measure => simp [intOf]
          · go_wp2
            go_round
            case rel => exact ⟨2, by omega, by go_num⟩
            case measure => simp [intOf]
          · go_wp2
            go_round
            case rel => exact ⟨3, by omega, by go_num⟩
            case measure => simp [intOf]
          · go_wp2
            go_ret
            exact ⟨by rw [HV.out]; rfl, rfl⟩
      · have z0 : (x != 0) = false := by rw [hx]; rfl
        have z1 : (y != 0) = false := by rw [hy]; rfl
        have z2 : (z != 0) = true := by rw [bne_iff_ne]; exact hz
        have HV : Hid (orI x y z = z) := by show orI x y z = z; unfold orI; rw [if_neg (fun h => h hx)]; rw [if_neg (fun h => h hy)]
        clear hx hy hz
        go_enter Try.func105, Try.ntmps105
        go_wp2
        go_loop [8] (fun i => ∃ k : Nat, k ≤ 2 ∧ i = .int .i64 k) (fun i => 3 - (intOf i).toNat)
        case atStart => exact ⟨0, by omega, rfl⟩
        case round =>
          obtain ⟨k, hk, rfl⟩ := hrel
          obtain rfl | rfl | rfl : k = 0 ∨ k = 1 ∨ k = 2 := by omega
          · go_wp2
            go_round
            case rel => exact ⟨1, by omega, by go_num⟩
            case measure => simp [intOf]
          · go_wp2
            go_round
            case rel => exact ⟨2, by omega, by go_num⟩
            case measure => simp [intOf]
          · go_wp2
            go_ret
            exact ⟨by rw [HV.out]; rfl, rfl⟩
    · have z0 : (x != 0) = false := by rw [hx]; rfl
      have z1 : (y != 0) = true := by rw [bne_iff_ne]; exact hy
      have HV : Hid (orI x y z = y) := by show orI x y z = y; unfold orI; rw [if_neg (fun h => h hx)]; rw [if_pos hy]
      clear hx hy
      go_enter Try.func105, Try.ntmps105
      go_wp2
      go_loop [8] (fun i => ∃ k : Nat, k ≤ 1 ∧ i = .int .i64 k) (fun i => 3 - (intOf i).toNat)
      case atStart => exact ⟨0, by omega, rfl⟩
      case round =>
        obtain ⟨k, hk, rfl⟩ := hrel
        obtain rfl | rfl : k = 0 ∨ k = 1 := by omega
        · go_wp2
          go_round
          case rel => exact ⟨1, by omega, by go_num⟩
          case measure => simp [intOf]
        · go_wp2
          go_ret
          exact ⟨by rw [HV.out]; rfl, rfl⟩
  · have z0 : (x != 0) = true := by rw [bne_iff_ne]; exact hx
    have HV : Hid (orI x y z = x) := by show orI x y z = x; unfold orI; rw [if_pos hx]
    clear hx
    go_enter Try.func105, Try.ntmps105
    go_wp2
    go_loop [8] (fun i => ∃ k : Nat, k ≤ 0 ∧ i = .int .i64 k) (fun i => 3 - (intOf i).toNat)
    case atStart => exact ⟨0, by omega, rfl⟩
    case round =>
      obtain ⟨k, hk, rfl⟩ := hrel
      obtain rfl : k = 0 := by omega
      go_wp2
      go_ret
      exact ⟨by rw [HV.out]; rfl, rfl⟩
set_option maxRecDepth 100000 in
set_option maxHeartbeats 16000000 in
theorem implBefore (dev1 seq1 stamp1 kind1 : Int) (item1 : ByteArray) (qty1 level1 undos1 : Int) (dev2 seq2 stamp2 kind2 : Int) (item2 : ByteArray) (qty2 level2 undos2 : Int) (w : World) : Calls Try.prog 32 #[.agg #[.int .i64 dev1, .int .i64 seq1, .int .i64 stamp1, .int .i64 kind1, .string item1, .int .i64 qty1, .int .i64 level1, .int .i64 undos1], .agg #[.int .i64 dev2, .int .i64 seq2, .int .i64 stamp2, .int .i64 kind2, .string item2, .int .i64 qty2, .int .i64 level2, .int .i64 undos2]] w fun e w' => e = .returned (.bool (befB dev1 seq1 stamp1 kind1 item1 qty1 level1 undos1 dev2 seq2 stamp2 kind2 item2 qty2 level2 undos2)) ∧ Below w.heap.size w w' := by
  have HL : Hid (befB dev1 seq1 stamp1 kind1 item1 qty1 level1 undos1 dev2 seq2 stamp2 kind2 item2 qty2 level2 undos2 = (opB dev1 seq1 stamp1 kind1 item1 qty1 level1 undos1 && (opB dev2 seq2 stamp2 kind2 item2 qty2 level2 undos2 && preB stamp1 dev1 seq1 stamp2 dev2 seq2))) := rfl
  rcases ho1 : opB dev1 seq1 stamp1 kind1 item1 qty1 level1 undos1 with _ | _
  · have HO1 := Lib.hid ho1
    clear ho1
    have hT0 := Two.mk0 w #[.int .i64 dev1, .int .i64 seq1, .int .i64 stamp1, .int .i64 kind1, .string item1, .int .i64 qty1, .int .i64 level1, .int .i64 undos1] #[.int .i64 dev2, .int .i64 seq2, .int .i64 stamp2, .int .i64 kind2, .string item2, .int .i64 qty2, .int .i64 level2, .int .i64 undos2] 34
    go_enter Try.func32, Try.ntmps32
    go_wp2_with fail
    refine (implOpOk dev1 seq1 stamp1 kind1 item1 qty1 level1 undos1 _).mono ?_
    rintro e w1 ⟨rfl, hb1⟩
    rw [HO1.out]
    have hT := hT0.next hb1
    clear hT0 hb1
    go_wp2
    go_ret
    exact ⟨by rw [HL.out, HO1.out]; rfl, hT.bel⟩
  have HO1 := Lib.hid ho1
  clear ho1
  rcases ho2 : opB dev2 seq2 stamp2 kind2 item2 qty2 level2 undos2 with _ | _
  · have HO2 := Lib.hid ho2
    clear ho2
    have hT0 := Two.mk0 w #[.int .i64 dev1, .int .i64 seq1, .int .i64 stamp1, .int .i64 kind1, .string item1, .int .i64 qty1, .int .i64 level1, .int .i64 undos1] #[.int .i64 dev2, .int .i64 seq2, .int .i64 stamp2, .int .i64 kind2, .string item2, .int .i64 qty2, .int .i64 level2, .int .i64 undos2] 34
    go_enter Try.func32, Try.ntmps32
    go_wp2_with fail
    refine (implOpOk dev1 seq1 stamp1 kind1 item1 qty1 level1 undos1 _).mono ?_
    rintro e w1 ⟨rfl, hb1⟩
    rw [HO1.out]
    have hT := hT0.next hb1
    clear hT0 hb1
    have c10 := cell_of_row _ _ 0 _ _ _ hT.fst
    have c11 := cell_of_row _ _ 1 _ _ _ hT.fst
    have c12 := cell_of_row _ _ 2 _ _ _ hT.fst
    have c13 := cell_of_row _ _ 3 _ _ _ hT.fst
    have c14 := cell_of_row _ _ 4 _ _ _ hT.fst
    have c15 := cell_of_row _ _ 5 _ _ _ hT.fst
    have c16 := cell_of_row _ _ 6 _ _ _ hT.fst
    have c17 := cell_of_row _ _ 7 _ _ _ hT.fst
    have c20 := cell_of_row _ _ 0 _ _ _ hT.snd
    have c21 := cell_of_row _ _ 1 _ _ _ hT.snd
    have c22 := cell_of_row _ _ 2 _ _ _ hT.snd
    have c23 := cell_of_row _ _ 3 _ _ _ hT.snd
    have c24 := cell_of_row _ _ 4 _ _ _ hT.snd
    have c25 := cell_of_row _ _ 5 _ _ _ hT.snd
    have c26 := cell_of_row _ _ 6 _ _ _ hT.snd
    have c27 := cell_of_row _ _ 7 _ _ _ hT.snd
    simp only [List.getElem?_toArray, List.getElem?_cons_zero, List.getElem?_cons_succ] at c10 c11 c12 c13 c14 c15 c16 c17 c20 c21 c22 c23 c24 c25 c26 c27
    go_wp2_with fail
    refine (implOpOk dev2 seq2 stamp2 kind2 item2 qty2 level2 undos2 _).mono ?_
    rintro e w2 ⟨rfl, hb2⟩
    rw [HO2.out]
    have hT2 := hT.next hb2
    clear hT hb2
    clear c10 c11 c12 c13 c14 c15 c16 c17 c20 c21 c22 c23 c24 c25 c26 c27
    go_wp2
    go_ret
    exact ⟨by rw [HL.out, HO1.out, HO2.out]; rfl, hT2.bel⟩
  have HO2 := Lib.hid ho2
  clear ho2
  have hT0 := Two.mk0 w #[.int .i64 dev1, .int .i64 seq1, .int .i64 stamp1, .int .i64 kind1, .string item1, .int .i64 qty1, .int .i64 level1, .int .i64 undos1] #[.int .i64 dev2, .int .i64 seq2, .int .i64 stamp2, .int .i64 kind2, .string item2, .int .i64 qty2, .int .i64 level2, .int .i64 undos2] 34
  go_enter Try.func32, Try.ntmps32
  go_wp2_with fail
  refine (implOpOk dev1 seq1 stamp1 kind1 item1 qty1 level1 undos1 _).mono ?_
  rintro e w1 ⟨rfl, hb1⟩
  rw [HO1.out]
  have hT := hT0.next hb1
  clear hT0 hb1
  have c10 := cell_of_row _ _ 0 _ _ _ hT.fst
  have c11 := cell_of_row _ _ 1 _ _ _ hT.fst
  have c12 := cell_of_row _ _ 2 _ _ _ hT.fst
  have c13 := cell_of_row _ _ 3 _ _ _ hT.fst
  have c14 := cell_of_row _ _ 4 _ _ _ hT.fst
  have c15 := cell_of_row _ _ 5 _ _ _ hT.fst
  have c16 := cell_of_row _ _ 6 _ _ _ hT.fst
  have c17 := cell_of_row _ _ 7 _ _ _ hT.fst
  have c20 := cell_of_row _ _ 0 _ _ _ hT.snd
  have c21 := cell_of_row _ _ 1 _ _ _ hT.snd
  have c22 := cell_of_row _ _ 2 _ _ _ hT.snd
  have c23 := cell_of_row _ _ 3 _ _ _ hT.snd
  have c24 := cell_of_row _ _ 4 _ _ _ hT.snd
  have c25 := cell_of_row _ _ 5 _ _ _ hT.snd
  have c26 := cell_of_row _ _ 6 _ _ _ hT.snd
  have c27 := cell_of_row _ _ 7 _ _ _ hT.snd
  simp only [List.getElem?_toArray, List.getElem?_cons_zero, List.getElem?_cons_succ] at c10 c11 c12 c13 c14 c15 c16 c17 c20 c21 c22 c23 c24 c25 c26 c27
  go_wp2_with fail
  refine (implOpOk dev2 seq2 stamp2 kind2 item2 qty2 level2 undos2 _).mono ?_
  rintro e w2 ⟨rfl, hb2⟩
  rw [HO2.out]
  have hT2 := hT.next hb2
  clear hT hb2
  clear c10 c11 c12 c13 c14 c15 c16 c17 c20 c21 c22 c23 c24 c25 c26 c27
  have c10 := cell_of_row _ _ 0 _ _ _ hT2.fst
  have c11 := cell_of_row _ _ 1 _ _ _ hT2.fst
  have c12 := cell_of_row _ _ 2 _ _ _ hT2.fst
  have c13 := cell_of_row _ _ 3 _ _ _ hT2.fst
  have c14 := cell_of_row _ _ 4 _ _ _ hT2.fst
  have c15 := cell_of_row _ _ 5 _ _ _ hT2.fst
  have c16 := cell_of_row _ _ 6 _ _ _ hT2.fst
  have c17 := cell_of_row _ _ 7 _ _ _ hT2.fst
  have c20 := cell_of_row _ _ 0 _ _ _ hT2.snd
  have c21 := cell_of_row _ _ 1 _ _ _ hT2.snd
  have c22 := cell_of_row _ _ 2 _ _ _ hT2.snd
  have c23 := cell_of_row _ _ 3 _ _ _ hT2.snd
  have c24 := cell_of_row _ _ 4 _ _ _ hT2.snd
  have c25 := cell_of_row _ _ 5 _ _ _ hT2.snd
  have c26 := cell_of_row _ _ 6 _ _ _ hT2.snd
  have c27 := cell_of_row _ _ 7 _ _ _ hT2.snd
  simp only [List.getElem?_toArray, List.getElem?_cons_zero, List.getElem?_cons_succ] at c10 c11 c12 c13 c14 c15 c16 c17 c20 c21 c22 c23 c24 c25 c26 c27
  clear c13 c14 c15 c16 c17 c23 c24 c25 c26 c27
  have HT := Lib.hid hT2
  clear hT2
  have HR := Lib.hid (or_pre stamp1 dev1 seq1 stamp2 dev2 seq2)
  have hlt1 := lt_of_row HT.out.fst
  have hlt2 := lt_of_row HT.out.snd
  go_wp2_with fail
  go_region_held3 (fun w' => w'.cell? ⟨w.heap.size, 2, none⟩ = some (.int .i64 stamp1) ∧ w'.cell? ⟨w.heap.size + 1, 2, none⟩ = some (.int .i64 stamp2) ∧ w'.cell? ⟨w.heap.size, 0, none⟩ = some (.int .i64 dev1) ∧ w'.cell? ⟨w.heap.size + 1, 0, none⟩ = some (.int .i64 dev2) ∧ w'.cell? ⟨w.heap.size, 1, none⟩ = some (.int .i64 seq1) ∧ w'.cell? ⟨w.heap.size + 1, 1, none⟩ = some (.int .i64 seq2)) (first | exact ⟨c12, c22, c10, c20, c11, c21⟩ | go_keep)
    (first | (go_at_call 106; refine (compare _ _ _).mono ?_; rintro e w' ⟨rfl, rfl⟩) | (go_at_call 105; refine (cmpOr (cmpI stamp1 stamp2) (cmpI dev1 dev2) (cmpI seq1 seq2) _ _ ?_ ?_ ?_).mono ?_; (simp); (simp); (simp); rintro e w' ⟨rfl, rfl⟩))
  go_wp2
  go_ret
  exact ⟨by rw [HL.out, HO1.out, HO2.out, ← HR.out]; rfl, HT.out.bel.trans (((Below.refl _ w2).alloc (Nat.le_refl _) _).drew.mono HT.out.bel.size)⟩
/-- What a call answers that hands back a list of operations of its own. -/
def OpsPost (l : List OpV) (w : World) (e : Ending) (w' : World) : Prop := ∃ a c, e = .returned (.slice a l.length c) ∧ OwnOps w' w.heap.size w'.heap.size a l.length l ∧ Below w.heap.size w w'

set_option maxRecDepth 100000 in
set_option maxHeartbeats 8000000 in
theorem cloneZero (w : World) (ad : Addr) (cap : Nat) : Calls Try.prog 155 #[.slice (some ad) 0 cap] w (OpsPost [] w) := by
  obtain ⟨i0, hi, hz0, hz1, hz2⟩ := info_parts Try.infoOp
  have hnil := fun w => Lib.run_eql_slice_nil (P := Try.prog) w 25 34 (some ad) 0 cap 0 0 Try.underlying25
  have hown : (w.alloc (.cells #[] 34)).ownsRow w.heap.size 34 8 (.slice (some ⟨w.heap.size, 0, none⟩) 0 0) 0 [] := World.ownsRow_made w #[] 0 (Nat.le_refl _) (by unfold maxLen; omega) rfl
  go_enter Try.func155, Try.ntmps155
  go_wp2_with (at_builtin; refine wpList_append_own _ rfl _ _ 25 rfl w.heap.size 34 i0 (.agg #[.int .i64 0, .int .i64 0, .int .i64 0, .int .i64 0, .string ⟨#[]⟩, .int .i64 0, .int .i64 0, .int .i64 0]) 8 72 Try.underlying25 hi hz0 hz1 hz2 rfl (by decide) _ _ _ rfl hown ad 0 cap [] rfl ?c0 ?c1 ?c2 ?c3 ?c4 ?c5 ?_)
  case c0 => rfl
  case c1 => intro j u hj; cases hj
  case c2 => intro u hu; cases hu
  case c3 => unfold maxLen; omega
  case c4 => omega
  case c5 => simp
  intro v' w1 hown' hgrow hnn
  have hb1 := ((Below.refl w.heap.size w).alloc (Nat.le_refl _) _).grown hgrow (by simp) (fun j hj => (hown.lt j hj).1)
  obtain ⟨a', cap', hv⟩ : ∃ a' cap', v' = .slice a' 0 cap' := by
    rcases hown'.2 with ⟨e, _⟩ | ⟨g, c, cur, e, _⟩
    · exact ⟨none, 0, e⟩
    · exact ⟨_, _, e⟩
  subst hv
  clear hown' hgrow hown hnn
  go_wp2
  go_ret
  exact ⟨a', cap', rfl, own_none _ _ _ _, hb1⟩
set_option maxRecDepth 100000 in
theorem cloneNil (w : World) : Calls Try.prog 155 #[.slice none 0 0] w fun e w' => e = .returned (.slice none 0 0) ∧ w = w' := by
  have hnil := fun w => Lib.run_eql_slice_nil (P := Try.prog) w 25 34 none 0 0 0 0 Try.underlying25
  go_enter Try.func155, Try.ntmps155
  go_wp2
  go_ret
  exact ⟨rfl, rfl⟩
theorem strClone (s : ByteArray) (h : s.size ≤ 1048576) (w : World) : Calls Try.prog 156 #[.string s] w fun e w' => e = .returned (.string s) ∧ Below w.heap.size w w' := by
  go_enter Try.func156, Try.ntmps156
  go_wp2_with fail
  refine (Try.stringslite_Clone s _ (by omega)).mono ?_
  rintro e w1 ⟨rfl, hb1⟩
  go_wp2
  go_ret
  exact ⟨rfl, hb1⟩
/-- What Named answers. -/
def ofDev (dev : Int) (o : OpV) : Bool := decide (o.dev = dev)
def namedL (xs : List Int) (l : List OpV) (dev : Int) : List OpV := if cartB xs l = true then l.filter (ofDev dev) else []
theorem named_no {xs : List Int} {l : List OpV} {dev : Int} (h : cartB xs l = false) : namedL xs l dev = [] := by unfold namedL; rw [h]; rfl
theorem named_yes {xs : List Int} {l : List OpV} {dev : Int} (h : cartB xs l = true) : namedL xs l dev = l.filter (ofDev dev) := by unfold namedL; rw [if_pos h]
theorem named_len (xs : List Int) (l : List OpV) (dev : Int) : (namedL xs l dev).length ≤ l.length := by
  unfold namedL
  split
  · exact List.length_filter_le _ _
  · exact Nat.zero_le _
def segOf (xs : List Int) (l : List OpV) (d : Nat) : List OpV := (l.drop (stOf xs d)).take (xs.getD d 0).toNat
theorem seg_dev {xs : List Int} {l : List OpV} {d : Nat} (h : devB xs l d = true) : ∀ o ∈ segOf xs l d, o.ok = true ∧ o.dev = (d : Int) := by
  unfold devB at h
  rw [Bool.and_eq_true] at h
  have hr := h.2
  unfold runB at hr
  rw [List.all_eq_true] at hr
  intro o ho
  obtain ⟨i, hi, e⟩ := List.mem_iff_getElem.1 ho
  have hic : i < (xs.getD d 0).toNat := by unfold segOf at hi; rw [List.length_take] at hi; omega
  have hf := hr i (by simpa using hic)
  have ea : atOp l (stOf xs d + i) = o := by
    rw [← at_cut (st := stOf xs d) hic]
    unfold atOp
    rw [List.getD_eq_getElem?_getD, ← e]
    show ((segOf xs l d)[i]?).getD OpV.zero = _
    rw [List.getElem?_eq_getElem hi]
    rfl
  unfold fitB at hf
  rw [ea] at hf
  simp only [Bool.and_eq_true, decide_eq_true_eq] at hf
  exact ⟨hf.1, hf.2.1⟩
theorem drop_seg {xs : List Int} {l : List OpV} (d : Nat) : l.drop (stOf xs d) = segOf xs l d ++ l.drop (stOf xs (d + 1)) := by
  have e : l.drop (stOf xs (d + 1)) = (l.drop (stOf xs d)).drop (xs.getD d 0).toNat := by rw [List.drop_drop]; rfl
  rw [e]
  exact (List.take_append_drop _ _).symm
theorem list_segs {xs : List Int} {l : List OpV} (h : stOf xs 4 = l.length) : l = segOf xs l 0 ++ (segOf xs l 1 ++ (segOf xs l 2 ++ segOf xs l 3)) := by
  have h0 := drop_seg (xs := xs) (l := l) 0
  have h1 := drop_seg (xs := xs) (l := l) 1
  have h2 := drop_seg (xs := xs) (l := l) 2
  have h3 := drop_seg (xs := xs) (l := l) 3
  have e4 : l.drop (stOf xs 4) = [] := by rw [h]; exact List.drop_length
  rw [e4, List.append_nil] at h3
  rw [h3] at h2
  rw [h2] at h1
  rw [h1] at h0
  have z : l.drop (stOf xs 0) = l := List.drop_zero
  rw [z] at h0
  exact h0
theorem filter_seg {xs : List Int} {l : List OpV} {d : Nat} (h : devB xs l d = true) (dev : Int) : (segOf xs l d).filter (ofDev dev) = if dev = (d : Int) then segOf xs l d else [] := by
  by_cases e : dev = (d : Int)
  · rw [if_pos e]
    refine List.filter_eq_self.2 fun o ho => ?_
    unfold ofDev
    exact decide_eq_true ((seg_dev h o ho).2.trans e.symm)
  · rw [if_neg e]
    refine List.filter_eq_nil_iff.2 fun o ho => ?_
    unfold ofDev
    rw [decide_eq_true_eq]
    intro e2
    exact e (e2.symm.trans (seg_dev h o ho).2)
theorem named_seg {xs : List Int} {l : List OpV} (h : cartB xs l = true) {d : Nat} (hd : d < 4) : l.filter (ofDev (d : Int)) = segOf xs l d := by
  obtain ⟨_, h1, h2⟩ := cart_true h
  have e := congrArg (List.filter (ofDev (d : Int))) (list_segs (xs := xs) h2)
  rw [List.filter_append, List.filter_append, List.filter_append, filter_seg (h1 0 (by omega)), filter_seg (h1 1 (by omega)), filter_seg (h1 2 (by omega)), filter_seg (h1 3 (by omega))] at e
  rw [e]
  obtain rfl | rfl | rfl | rfl : d = 0 ∨ d = 1 ∨ d = 2 ∨ d = 3 := by omega
  · simp
  · simp
  · simp
  · simp
theorem named_none {xs : List Int} {l : List OpV} {dev : Int} (h : inB dev 0 3 = false) : namedL xs l dev = [] := by
  by_cases hc : cartB xs l = true
  · rw [named_yes hc]
    refine List.filter_eq_nil_iff.2 fun o ho => ?_
    obtain ⟨_, h1, h2⟩ := cart_true hc
    rw [list_segs (xs := xs) h2] at ho
    have hn : ¬ (0 ≤ dev ∧ dev ≤ 3) := fun hh => by rw [inB_iff.2 hh] at h; cases h
    unfold ofDev
    rw [decide_eq_true_eq]
    intro e
    have : ∃ d : Nat, d < 4 ∧ o.dev = (d : Int) := by
      rcases List.mem_append.1 ho with h | h
      · exact ⟨0, by omega, (seg_dev (h1 0 (by omega)) o h).2⟩
      rcases List.mem_append.1 h with h | h
      · exact ⟨1, by omega, (seg_dev (h1 1 (by omega)) o h).2⟩
      rcases List.mem_append.1 h with h | h
      · exact ⟨2, by omega, (seg_dev (h1 2 (by omega)) o h).2⟩
      · exact ⟨3, by omega, (seg_dev (h1 3 (by omega)) o h).2⟩
    obtain ⟨d, hd, e2⟩ := this
    omega
  · exact named_no (by simpa using hc)
theorem deviceOkN (dev : Int) (w : World) : Calls Try.prog 118 #[.int .i64 dev] w fun e w' => e = .returned (.bool (inB dev 0 3)) ∧ w = w' := by
  go_enter Try.func118, Try.ntmps118
  go_wp2_with fail
  refine (inRange _ _ _ _).mono ?_
  rintro e w' ⟨rfl, rfl⟩
  go_wp2
  go_ret
  exact ⟨rfl, rfl⟩

set_option maxRecDepth 100000 in
set_option maxHeartbeats 8000000 in
theorem placeOf1 (w : World) (B : Nat) (av ao : Option Addr) (cv no co : Nat) (xs : List Int) (hx : Ints w B av 4 xs) (hB : B ≤ w.heap.size) (hcv : 4 ≤ cv) (hv : vecOk xs = true) (d : Nat) (hd : d < 4) : Calls Try.prog 120 #[.agg #[.slice av 4 cv, .slice ao no co], .int .i64 (d : Int), .int .i64 1] w fun e w' => e = .returned (.int .i64 (stOf xs d : Int)) ∧ Below w.heap.size w w' := by
  have hb0 : Below w.heap.size w (w.alloc (.cells #[.slice av 4 cv, .slice ao no co] 27)) := (Below.refl _ w).alloc (Nat.le_refl _) _
  have HV := Lib.hid (hx.below hb0 hB)
  have HB := Lib.hid hb0
  have HX := Lib.hid (boxAt (Below.refl _ (w.alloc (.cells #[.slice av 4 cv, .slice ao no co] 27))))
  have HAt := Lib.hid (fun d (hd : d < 4) => vec_at hv hd)
  have HLe := Lib.hid (fun k (hk : k ≤ 4) => stOf_le hv k hk)
  have hdi : (d : Int) ≤ (cv : Int) := by omega
  clear hx hb0 hv
  go_enter Try.func120, Try.ntmps120
  go_wp2_with fail
  generalize w.alloc (.cells #[.slice av 4 cv, .slice ao no co] 27) = w0 at HV HB HX ⊢
  obtain ⟨c0, c1⟩ := pair_cells HX.out
  go_wp2
  go_loop [7, 17] (fun q i => ∃ k m : Nat, k ≤ d ∧ i = .int .i64 (k : Int) ∧ q = .int .i64 (m : Int) ∧ m ≤ 160 ∧ Hid (m = stOf xs k)) (fun _ i => d - (intOf i).toNat)
  case atStart => exact ⟨0, 0, by omega, rfl, rfl, by omega, rfl⟩
  case round =>
    obtain ⟨k, m, hk, rfl, rfl, hm, HM⟩ := hrel
    by_cases hlt : k < d
    · obtain ⟨bv, ov, rfl, hbv, hcv'⟩ := HV.out.2 k (by omega)
      obtain ⟨g1, g2, g3⟩ := HAt.out k (by omega)
      have hle := HLe.out (k + 1) (by omega)
      obtain ⟨c, hcx⟩ := Int.eq_ofNat_of_zero_le g1
      have HSt : Hid (m + c = stOf xs (k + 1)) := by show _ = stOf xs k + (xs.getD k 0).toNat; rw [hcx, HM.out]; rfl
      have hmc : m + c ≤ 160 := by rw [HSt.out]; omega
      rw [hcx] at hcv'
      clear hcx g1 g2 g3 hle
      go_wp2
      go_round
      case rel => exact ⟨k + 1, m + c, by omega, by go_num, by go_num, hmc, HSt⟩
      case measure => simp [intOf]; omega
    · obtain rfl : k = d := by omega
      go_wp2
      go_ret
      exact ⟨by rw [HM.out]; rfl, HB.out⟩
/-- As OpsPost; and the answer's length is at most its capacity. -/
def OpsPostC (l : List OpV) (w : World) (e : Ending) (w' : World) : Prop := ∃ a c, e = .returned (.slice a l.length c) ∧ l.length ≤ c ∧ OwnOps w' w.heap.size w'.heap.size a l.length l ∧ Below w.heap.size w w'

set_option maxRecDepth 100000 in
set_option maxHeartbeats 8000000 in
theorem cloneOpsC (w : World) (B b off n cap : Nat) (l : List OpV) (h : Ops w B (some ⟨b, off, none⟩) n l) (hB : B ≤ w.heap.size) (hl : n ≤ 1048576) : Calls Try.prog 155 #[.slice (some ⟨b, off, none⟩) n cap] w (OpsPostC l w) := by
  obtain ⟨i0, hi, hz0, hz1, hz2⟩ := info_parts Try.infoOp
  have hnil := fun w => Lib.run_eql_slice_nil (P := Try.prog) w 25 34 (some ⟨b, off, none⟩) n cap 0 0 Try.underlying25
  have hown : (w.alloc (.cells #[] 34)).ownsRow w.heap.size 34 8 (.slice (some ⟨w.heap.size, 0, none⟩) 0 0) 0 [] := World.ownsRow_made w #[] 0 (Nat.le_refl _) (by unfold maxLen; omega) rfl
  have hL := Lib.hid h.1
  have H := Lib.hid h
  clear h
  go_enter Try.func155, Try.ntmps155
  go_wp2_with (at_builtin; refine wpList_append_own _ rfl _ _ 25 rfl w.heap.size 34 i0 (.agg #[.int .i64 0, .int .i64 0, .int .i64 0, .int .i64 0, .string ⟨#[]⟩, .int .i64 0, .int .i64 0, .int .i64 0]) 8 72 Try.underlying25 hi hz0 hz1 hz2 rfl (by decide) _ _ _ rfl hown ⟨b, off, none⟩ n cap (opCells l) rfl ?c0 ?c1 ?c2 ?c3 ?c4 ?c5 ?_)
  case c0 => rw [opCells_len, hL.out]
  case c1 => exact cells_of_ops (H.out.below ((Below.refl w.heap.size w).alloc (Nat.le_refl _) _) hB)
  case c2 => exact opCells_one l
  case c3 => unfold maxLen; omega
  case c4 => omega
  case c5 => simp
  intro v' w1 hown' hgrow hnn
  have hb1 := ((Below.refl w.heap.size w).alloc (Nat.le_refl _) _).grown hgrow (by simp) (fun j hj => (hown.lt j hj).1)
  have hown2 : w1.ownsRow w.heap.size 34 8 v' n (opCells l) := by simpa using hown'
  obtain ⟨a', cap', hv, hvc⟩ : ∃ a' cap', v' = .slice a' n cap' ∧ n ≤ cap' := by
    rcases hown2.2 with ⟨e, e2⟩ | ⟨g, c, cur, e, _, _, hnc, _⟩
    · exact ⟨none, 0, by rw [e, e2], by omega⟩
    · exact ⟨_, _, e, hnc⟩
  subst hv
  have HO := Lib.hid (own_of_cells (hi := w1.heap.size) hown2 (Nat.le_refl _))
  clear hown' hown2 hgrow hown hnn
  go_wp2
  go_ret
  exact ⟨a', cap', by rw [hL.out]; rfl, by rw [hL.out]; exact hvc, by rw [hL.out]; exact HO.out, hb1⟩

set_option maxRecDepth 100000 in
set_option maxHeartbeats 16000000 in
theorem copiedOpsC (w : World) (B : Nat) (a : Option Addr) (n cap : Nat) (l : List OpV) (h : Ops w B a n l) (hB : B ≤ w.heap.size) (hn : n ≤ 1048576) (hcap : a = none → cap = 0) (hm : ∀ i, i < n → (l.getD i OpV.zero).item.size ≤ 1048576) : Calls Try.prog 93 #[.slice a n cap] w (OpsPostC l w) := by
  by_cases h0 : 0 < n
  · obtain ⟨b, off, rfl, hb, _⟩ := h.2 0 h0
    have HL := Lib.hid h.1
    have HM := Lib.hid hm
    clear hm hcap
    go_enter Try.func93, Try.ntmps93
    go_wp2_with fail
    refine (cloneOpsC w B b off n cap l h hB hn).mono ?_
    rintro e w1 ⟨a1, c1, rfl, hcc, ho, hb1⟩
    rw [h.1] at hcc
    have HC1 : Hid (∃ g o1, a1 = some ⟨g, o1, none⟩ ∧ w.heap.size ≤ g ∧ CS g o1 n l w w1) := by
      rw [h.1] at ho
      obtain ⟨g, o1, cs, e1, h1, h2, hg, hs, hc⟩ := ho.2 h0
      exact ⟨g, o1, e1, h1, hb1, cs, hg, hs, hc⟩
    clear ho hb1 h
    obtain ⟨g, o1, rfl, hg0, hcs⟩ := HC1.out
    have HC := Lib.hid hcs
    clear hcs HC1
    rw [HL.out]
    go_wp2
    go_loopw [4, 9] (fun _ i wr => ∃ k : Nat, k ≤ n ∧ i = .int .i64 (k : Int) ∧ Hid (CS g o1 n l w wr)) (fun _ i _ => n - (intOf i).toNat)
    case atStart => exact ⟨0, by omega, rfl, HC⟩
    case round =>
      obtain ⟨k, hk, rfl, HR⟩ := hrel
      by_cases hlt : k < n
      rotate_left
      · obtain rfl : k = n := by omega
        have HP : Hid (OpsPostC l w (.returned (.slice (some ⟨g, o1, none⟩) k c1)) wr) := by
          obtain ⟨h1, cs, hg, hs, hc⟩ := HR.out
          exact ⟨some ⟨g, o1, none⟩, c1, by rw [HL.out], by rw [HL.out]; exact hcc, ⟨rfl, fun _ => ⟨g, o1, cs, rfl, hg0, (Array.getElem?_eq_some_iff.1 hg).1, hg, by rw [HL.out]; exact hs, by rw [HL.out]; exact hc⟩⟩, h1⟩
        go_wp2
        go_ret
        exact HP.out
      have hit := HM.out k hlt
      have hput := fun w2 (h : CS g o1 n l w w2) => h.put hg0 hlt
      have HPut := Lib.hid hput
      clear hput
      have HCell : Hid (∀ w2, CS g o1 n l w w2 → w2.cell? ⟨g, o1 + k * 8 + 4, none⟩ = some (.string (l.getD k OpV.zero).item) ∧ w2.frozen? ⟨g, o1 + k * 8 + 4, none⟩ = false) := fun w2 h => by
        obtain ⟨_, cs, hg, _, hc⟩ := h
        exact ⟨((hc k hlt).at hg).2.2.2.2.1, frozen_of_row _ _ _ _ _ hg⟩
      generalize (l.getD k OpV.zero).item = s at hit HPut HCell
      have c4 := (HCell.out wr HR.out).1
      go_wp2_with fail
      refine (strClone s hit _).mono ?_
      rintro e w2 ⟨rfl, hb2⟩
      have HR2 := Lib.hid (HR.out.step hb2)
      clear c4 hb2 HR
      have c4 := (HCell.out w2 HR2.out).1
      have f4 := (HCell.out w2 HR2.out).2
      have HR3 := Lib.hid (HPut.out w2 HR2.out)
      go_wp2
      go_roundw
      case rel => exact ⟨k + 1, by omega, by go_num, HR3⟩
      case measure => simp [intOf]; omega
  · obtain rfl : n = 0 := by omega
    have hl : l = [] := List.eq_nil_of_length_eq_zero h.1
    subst hl
    clear h0 hm
    rcases a with _ | ad
    · obtain rfl := hcap rfl
      go_enter Try.func93, Try.ntmps93
      go_wp2_with fail
      refine (cloneNil w).mono ?_
      rintro e w1 ⟨rfl, rfl⟩
      go_wp2
      refine wp_loop_rounds 1 ?_
      rw [rounds_succ]
      go_wp2
      go_ret
      exact ⟨none, 0, rfl, Nat.le_refl _, own_none _ _ _ _, Below.refl _ _⟩
    · clear hcap h
      go_enter Try.func93, Try.ntmps93
      go_wp2_with fail
      refine (cloneZero w ad cap).mono ?_
      rintro e w1 ⟨a1, c1, rfl, ho, hb1⟩
      have HB := Lib.hid hb1
      clear ho hb1
      go_wp2
      refine wp_loop_rounds 1 ?_
      rw [rounds_succ]
      go_wp2
      go_ret
      exact ⟨a1, c1, rfl, Nat.zero_le _, own_none _ _ _ _, HB.out⟩

set_option linter.unusedSimpArgs false in
set_option maxRecDepth 100000 in
set_option maxHeartbeats 32000000 in
theorem implNamedC (w : World) (B : Nat) (av ao : Option Addr) (nv cv no co : Nat) (xs : List Int) (l : List OpV) (dev : Int) (hx : Ints w B av nv xs) (h : Ops w B ao no l) (hB : B ≤ w.heap.size) (hv : nv ≤ 1048576) (hvc : nv ≤ cv) (hc : no ≤ co) (hc2 : Fits no co) (hnil : ao = none → co = 0) (hm : ∀ i, i < no → (atOp l i).item.size ≤ 1048576) :
    Calls Try.prog 46 #[.agg #[.slice av nv cv, .slice ao no co], .int .i64 dev] w (OpsPostC (namedL xs l dev) w) := by
  have hn1048 : no ≤ 1048576 := hc2.1
  have hb0 : Below w.heap.size w (w.alloc (.cells #[.slice av nv cv, .slice ao no co] 27)) := (Below.refl _ w).alloc (Nat.le_refl _) _
  have HV := Lib.hid (hx.below hb0 hB)
  have HO := Lib.hid (h.below hb0 hB)
  have HB := Lib.hid hb0
  have HX := Lib.hid (boxAt (Below.refl _ (w.alloc (.cells #[.slice av nv cv, .slice ao no co] 27))))
  have HL := Lib.hid h.1
  have HM := Lib.hid hm
  have HNil := Lib.hid hnil
  have hsz : w.heap.size + 1 ≤ (w.alloc (.cells #[.slice av nv cv, .slice ao no co] 27)).heap.size := by show _ ≤ (w.heap.push _).size; simp
  clear hx h hb0 hm hnil
  rcases hcb : cartB xs l with _ | _
  · have HF := Lib.hid (named_no (dev := dev) hcb)
    have HK := Lib.hid hcb
    clear hcb
    go_enter Try.func46, Try.ntmps46
    go_wp2_with fail
    generalize w.alloc (.cells #[.slice av nv cv, .slice ao no co] 27) = w0 at HV HO HB HX hsz ⊢
    refine (implCartOk w0 B av ao nv cv no co xs l HV.out HO.out (by omega) (by omega) hc hc2).mono ?_
    rintro e w1 ⟨rfl, hb1⟩
    rw [HK.out]
    have HB1 := Lib.hid (HB.out.trans (hb1.mono (by omega)))
    have HV1 := Lib.hid (HV.out.below hb1 (by omega))
    have HO1 := Lib.hid (HO.out.below hb1 (by omega))
    have HX1 := Lib.hid ((hb1.block _ (Array.getElem?_eq_some_iff.1 HX.out).1).trans HX.out)
    have hs1 := hb1.size
    clear hb1 HV HO HB HX
    go_wp2
    go_ret
    exact ⟨none, 0, by rw [HF.out]; rfl, by rw [HF.out]; exact Nat.le_refl _, by rw [HF.out]; exact own_none _ _ _ _, HB1.out⟩
  have HK := Lib.hid hcb
  obtain ⟨hvk, hdv, hst4⟩ := cart_true hcb
  have h4 : nv = 4 := HV.out.1.symm.trans (vec_at hvk (d := 0) (by omega)).2.2
  subst h4
  rcases hdb : inB dev 0 3 with _ | _
  · have HF := Lib.hid (named_none (xs := xs) (l := l) hdb)
    have HD := Lib.hid hdb
    clear hcb hdb hdv hst4
    go_enter Try.func46, Try.ntmps46
    go_wp2_with fail
    generalize w.alloc (.cells #[.slice av 4 cv, .slice ao no co] 27) = w0 at HV HO HB HX hsz ⊢
    refine (implCartOk w0 B av ao 4 cv no co xs l HV.out HO.out (by omega) (by omega) hc hc2).mono ?_
    rintro e w1 ⟨rfl, hb1⟩
    rw [HK.out]
    have HB1 := Lib.hid (HB.out.trans (hb1.mono (by omega)))
    have HV1 := Lib.hid (HV.out.below hb1 (by omega))
    have HO1 := Lib.hid (HO.out.below hb1 (by omega))
    have HX1 := Lib.hid ((hb1.block _ (Array.getElem?_eq_some_iff.1 HX.out).1).trans HX.out)
    have hs1 := hb1.size
    clear hb1 HV HO HB HX
    go_wp2_with fail
    refine (deviceOkN _ _).mono ?_
    rintro e w2 ⟨rfl, rfl⟩
    rw [HD.out]
    go_wp2
    go_ret
    exact ⟨none, 0, by rw [HF.out]; rfl, by rw [HF.out]; exact Nat.le_refl _, by rw [HF.out]; exact own_none _ _ _ _, HB1.out⟩
  have HD := Lib.hid hdb
  have hd03 := inB_iff.1 hdb
  obtain ⟨d, rfl⟩ := Int.eq_ofNat_of_zero_le hd03.1
  have hd4 : d < 4 := by omega
  have HN : Hid (namedL xs l (d : Int) = segOf xs l d) := by show _ = _; rw [named_yes hcb, named_seg hcb hd4]
  have hle := stOf_mono xs (d + 1) 4 (by omega)
  obtain ⟨g1, g2, _⟩ := vec_at hvk hd4
  obtain ⟨c, hcx⟩ := Int.eq_ofNat_of_zero_le g1
  have HSeg : Hid (segOf xs l d = (l.drop (stOf xs d)).take c) := by show _ = _; unfold segOf; rw [hcx]; rfl
  have hsc : stOf xs d + c ≤ no := by
    have e : stOf xs (d + 1) = stOf xs d + c := by show stOf xs d + (xs.getD d 0).toNat = _; rw [hcx]; rfl
    rw [← HL.out, ← hst4, ← e]
    exact hle
  have HVk := Lib.hid hvk
  clear hcb hdb hdv hst4 hd03 hle g1 g2 hvk
  go_enter Try.func46, Try.ntmps46
  go_wp2_with fail
  generalize w.alloc (.cells #[.slice av 4 cv, .slice ao no co] 27) = w0 at HV HO HB HX hsz ⊢
  refine (implCartOk w0 B av ao 4 cv no co xs l HV.out HO.out (by omega) (by omega) hc hc2).mono ?_
  rintro e w1 ⟨rfl, hb1⟩
  rw [HK.out]
  have HB1 := Lib.hid (HB.out.trans (hb1.mono (by omega)))
  have HV1 := Lib.hid (HV.out.below hb1 (by omega))
  have HO1 := Lib.hid (HO.out.below hb1 (by omega))
  have HX1 := Lib.hid ((hb1.block _ (Array.getElem?_eq_some_iff.1 HX.out).1).trans HX.out)
  have hs1 := hb1.size
  clear hb1 HV HO HB HX
  go_wp2_with fail
  refine (deviceOkN _ _).mono ?_
  rintro e w2 ⟨rfl, rfl⟩
  rw [HD.out]
  obtain ⟨c0, c1⟩ := pair_cells HX1.out
  go_wp2_with fail
  refine (placeOf1 _ B av ao cv no co xs HV1.out (by omega) hvc HVk.out d hd4).mono ?_
  rintro e w2 ⟨rfl, hb2⟩
  have HB2 := Lib.hid (HB1.out.trans (hb2.mono (by omega)))
  have HV2 := Lib.hid (HV1.out.below hb2 (by omega))
  have HO2 := Lib.hid (HO1.out.below hb2 (by omega))
  have HX2 := Lib.hid ((hb2.block _ (Array.getElem?_eq_some_iff.1 HX1.out).1).trans HX1.out)
  have hs2 := hb2.size
  clear hb2 HB1 HV1 HO1 HX1 c0 c1
  obtain ⟨c0, c1⟩ := pair_cells HX2.out
  obtain ⟨bv, ov, rfl, hbv, cv0⟩ := HV2.out.2 d hd4
  rw [hcx] at cv0
  clear hcx
  generalize hst : stOf xs d = st at HSeg hsc ⊢
  have HSt := Lib.hid hst
  clear hst
  have i0 : (0 : Int) ≤ (st : Int) := by omega
  have i1 : (st : Int) ≤ (st : Int) + (c : Int) := by omega
  have i2 : (st : Int) + (c : Int) ≤ (co : Int) := by omega
  have i3 : (d : Int) < 4 := by omega
  have iw : IntKind.i64.wrap ((st : Int) + (c : Int)) = (st : Int) + (c : Int) := IntWalk.i64_in _ (by omega)
  have hlt2 := (Array.getElem?_eq_some_iff.1 HX2.out).1
  have hS : w2.drew.cell? ⟨w.heap.size, 0, none⟩ = some (.slice (some ⟨bv, ov, none⟩) 4 cv) ∧ w2.drew.cell? ⟨w.heap.size, 1, none⟩ = some (.slice ao no co) ∧ w2.drew.cell? ⟨bv, ov + d, none⟩ = some (.int .i64 (c : Int)) := ⟨c0, c1, cv0⟩
  have hcn : ((st : Int) + (c : Int)).toNat - st = c := by omega
  obtain ⟨xa, hxa⟩ : ∃ xa, (if co = st then ao else Option.map (fun x => x.add (st * 8)) ao) = xa := ⟨_, rfl⟩
  have HXa : Hid (Ops w2 B xa c ((l.drop st).take c) ∧ (xa = none → co - st = 0)) := by
    rw [← hxa]
    by_cases e : co = st
    · rw [if_pos e]
      have hc0 : c = 0 := by omega
      subst hc0
      exact ⟨ops_empty (by simp), fun _ => by omega⟩
    · rw [if_neg e]
      refine ⟨(HO2.out.dropMap (c := st) (by omega)).take (by omega), fun h => ?_⟩
      have : ao = none := by cases ao with | none => rfl | some x => cases h
      have := HNil.out this
      omega
  have HLc : Hid (((l.drop st).take c).length = c) := by show List.length _ = c; rw [List.length_take, List.length_drop, HL.out]; omega
  have HItm : Hid (∀ i, i < c → ((((l.drop st).take c).getD i OpV.zero).item.size ≤ 1048576)) := fun i hi => by
    have e : ((l.drop st).take c).getD i OpV.zero = atOp l (st + i) := at_cut hi
    rw [e]
    exact HM.out (st + i) (by omega)
  go_wp2_with fail
  refine wp_region_held_drew (S := fun w' => w'.cell? ⟨w.heap.size, 0, none⟩ = some (.slice (some ⟨bv, ov, none⟩) 4 cv) ∧ w'.cell? ⟨w.heap.size, 1, none⟩ = some (.slice ao no co) ∧ w'.cell? ⟨bv, ov + d, none⟩ = some (.int .i64 (c : Int))) (by kernel_rfl) hS (fun hHeld => ?_)
  refine wpAnyH_take (i := 0) (oi := { dst := some 17, op := .fieldAddr 27 (.tmp 2) 1, type := 0, pos := "l08_pages.go:66", after := #[], guard := none }) (v := ?_) rfl (by kernel_rfl) (by kernel_rfl) (by kernel_rfl) (fun _ _ _ h => h) (Or.inl ⟨by rfl, ?_⟩) (by assumption) ?_
  rotate_left
  · intro w hSw
    (try dsimp only at hSw)
    first | (go_simp; done) | (go_simp; with_reducible rfl)
  (try simp only [Act.put, List.setIfInBounds_toArray, List.set_cons_zero, List.set_cons_succ])
  refine wpAnyH_take (i := 1) (oi := { dst := some 18, op := .load 25 (.tmp 17), type := 25, pos := "l08_pages.go:66", after := #[⟨0, .data⟩], guard := none }) (v := ?_) rfl (by kernel_rfl) (by kernel_rfl) (by kernel_rfl) (fun _ _ _ h => h) (Or.inl ⟨by rfl, ?_⟩) (by assumption) ?_
  rotate_left
  · intro w hSw
    (try dsimp only at hSw)
    first | (go_simp; done) | (go_simp; with_reducible rfl)
  (try simp only [Act.put, List.setIfInBounds_toArray, List.set_cons_zero, List.set_cons_succ])
  refine wpAnyH_take (i := 2) (oi := { dst := some 19, op := .move (.tmp 5), type := 3, pos := "l08_pages.go:66", after := #[], guard := none }) (v := ?_) rfl (by kernel_rfl) (by kernel_rfl) (by kernel_rfl) (fun _ _ _ h => h) (Or.inl ⟨by rfl, ?_⟩) (by assumption) ?_
  rotate_left
  · intro w hSw
    (try dsimp only at hSw)
    first | (go_simp; done) | (go_simp; with_reducible rfl)
  (try simp only [Act.put, List.setIfInBounds_toArray, List.set_cons_zero, List.set_cons_succ])
  refine wpAnyH_take (i := 3) (oi := { dst := some 20, op := .move (.tmp 5), type := 3, pos := "l08_pages.go:66", after := #[], guard := none }) (v := ?_) rfl (by kernel_rfl) (by kernel_rfl) (by kernel_rfl) (fun _ _ _ h => h) (Or.inl ⟨by rfl, ?_⟩) (by assumption) ?_
  rotate_left
  · intro w hSw
    (try dsimp only at hSw)
    first | (go_simp; done) | (go_simp; with_reducible rfl)
  (try simp only [Act.put, List.setIfInBounds_toArray, List.set_cons_zero, List.set_cons_succ])
  refine wpAnyH_take (i := 4) (oi := { dst := some 21, op := .fieldAddr 27 (.tmp 2) 0, type := 0, pos := "l08_pages.go:66", after := #[], guard := none }) (v := ?_) rfl (by kernel_rfl) (by kernel_rfl) (by kernel_rfl) (fun _ _ _ h => h) (Or.inl ⟨by rfl, ?_⟩) (by assumption) ?_
  rotate_left
  · intro w hSw
    (try dsimp only at hSw)
    first | (go_simp; done) | (go_simp; with_reducible rfl)
  (try simp only [Act.put, List.setIfInBounds_toArray, List.set_cons_zero, List.set_cons_succ])
  refine wpAnyH_take (i := 5) (oi := { dst := some 22, op := .load 24 (.tmp 21), type := 24, pos := "l08_pages.go:66", after := #[⟨4, .data⟩], guard := none }) (v := ?_) rfl (by kernel_rfl) (by kernel_rfl) (by kernel_rfl) (fun _ _ _ h => h) (Or.inl ⟨by rfl, ?_⟩) (by assumption) ?_
  rotate_left
  · intro w hSw
    (try dsimp only at hSw)
    first | (go_simp; done) | (go_simp; with_reducible rfl)
  (try simp only [Act.put, List.setIfInBounds_toArray, List.set_cons_zero, List.set_cons_succ])
  refine wpAnyH_take (i := 6) (oi := { dst := some 23, op := .move (.tmp 1), type := 2, pos := "l08_pages.go:66", after := #[], guard := none }) (v := ?_) rfl (by kernel_rfl) (by kernel_rfl) (by kernel_rfl) (fun _ _ _ h => h) (Or.inl ⟨by rfl, ?_⟩) (by assumption) ?_
  rotate_left
  · intro w hSw
    (try dsimp only at hSw)
    first | (go_simp; done) | (go_simp; with_reducible rfl)
  (try simp only [Act.put, List.setIfInBounds_toArray, List.set_cons_zero, List.set_cons_succ])
  refine wpAnyH_take (i := 7) (oi := { dst := some 24, op := .indexAddr 24 (.tmp 22) (.tmp 23), type := 0, pos := "l08_pages.go:66", after := #[⟨5, .data⟩, ⟨6, .data⟩], guard := none }) (v := ?_) rfl (by kernel_rfl) (by kernel_rfl) (by kernel_rfl) (fun _ _ _ h => h) (Or.inl ⟨by rfl, ?_⟩) (by assumption) ?_
  rotate_left
  · intro w hSw
    (try dsimp only at hSw)
    first | (go_simp; done) | (go_simp; with_reducible rfl)
  (try simp only [Act.put, List.setIfInBounds_toArray, List.set_cons_zero, List.set_cons_succ])
  refine wpAnyH_take (i := 8) (oi := { dst := some 25, op := .load 2 (.tmp 24), type := 2, pos := "l08_pages.go:66", after := #[⟨7, .data⟩], guard := none }) (v := ?_) rfl (by kernel_rfl) (by kernel_rfl) (by kernel_rfl) (fun _ _ _ h => h) (Or.inl ⟨by rfl, ?_⟩) (by assumption) ?_
  rotate_left
  · intro w hSw
    (try dsimp only at hSw)
    first | (go_simp; done) | (go_simp; with_reducible rfl)
  (try simp only [Act.put, List.setIfInBounds_toArray, List.set_cons_zero, List.set_cons_succ])
  refine wpAnyH_take (i := 9) (oi := { dst := some 26, op := .binOp .add 3 (.tmp 20) (.tmp 25) 3, type := 3, pos := "l08_pages.go:66", after := #[⟨3, .data⟩, ⟨8, .data⟩], guard := none }) (v := ?_) rfl (by kernel_rfl) (by kernel_rfl) (by kernel_rfl) (fun _ _ _ h => h) (Or.inl ⟨by rfl, ?_⟩) (by assumption) ?_
  rotate_left
  · intro w hSw
    (try dsimp only at hSw)
    first | (go_simp; done) | (go_simp; with_reducible rfl)
  (try simp only [Act.put, List.setIfInBounds_toArray, List.set_cons_zero, List.set_cons_succ])
  refine wpAnyH_take (i := 10) (oi := { dst := some 27, op := .slice 25 (.tmp 18) (some (.tmp 19)) (some (.tmp 26)) none, type := 25, pos := "l08_pages.go:66", after := #[⟨1, .data⟩, ⟨2, .data⟩, ⟨9, .data⟩], guard := none }) (v := ?_) rfl (by kernel_rfl) (by kernel_rfl) (by kernel_rfl) (fun _ _ _ h => h) (Or.inl ⟨by rfl, ?_⟩) (by assumption) ?_
  rotate_left
  · intro w hSw
    (try dsimp only at hSw)
    first | (go_simp; done) | (go_simp; with_reducible rfl)
  (try simp only [Act.put, List.setIfInBounds_toArray, List.set_cons_zero, List.set_cons_succ])
  refine wpAnyH_ready (rs := [11]) (by kernel_rfl) (by simp) ?_
  refine AllReadyH.cons (o := { dst := some 28, op := .call { callee := .value (.func 93), args := #[.tmp 27], argTypes := #[25] }, type := 25, pos := "l08_pages.go:66", after := #[⟨10, .data⟩], guard := none }) rfl (fun K hK => ?_) AllReadyH.nil
  go_simp
  go_at_call 93
  refine (copiedOpsC w2.drew B xa c (co - st) _ (HXa.out.1.kept fun _ _ => rfl) (by show B ≤ w2.heap.size; omega) (by omega) HXa.out.2 HItm.out).mono ?_
  rintro e w3 ⟨ra, rc, rfl, hcc, ho3, hb3⟩
  rw [HLc.out] at hcc ⊢
  have hS3 : w3.cell? ⟨w.heap.size, 0, none⟩ = some (.slice (some ⟨bv, ov, none⟩) 4 cv) ∧ w3.cell? ⟨w.heap.size, 1, none⟩ = some (.slice ao no co) ∧ w3.cell? ⟨bv, ov + d, none⟩ = some (.int .i64 (c : Int)) := ⟨(hb3.cell (block_lt_of_cell hS.1)).trans hS.1, (hb3.cell (block_lt_of_cell hS.2.1)).trans hS.2.1, (hb3.cell (block_lt_of_cell hS.2.2)).trans hS.2.2⟩
  refine hK.out _ _ hS3 (fun hHeld2 => ?_)
  clear hK K
  (try simp only [Act.put, List.setIfInBounds_toArray, List.set_cons_zero, List.set_cons_succ])
  refine wpAnyH_take (i := 12) (oi := { dst := some 4, op := .assign (.tmp 28), type := 25, pos := "l08_pages.go:66", after := #[⟨11, .data⟩, ⟨11, .chain⟩, ⟨0, .phase⟩, ⟨1, .phase⟩, ⟨2, .phase⟩, ⟨3, .phase⟩, ⟨4, .phase⟩, ⟨5, .phase⟩, ⟨6, .phase⟩, ⟨7, .phase⟩, ⟨8, .phase⟩, ⟨9, .phase⟩, ⟨10, .phase⟩, ⟨11, .phase⟩], guard := none }) (v := ?_) rfl (by kernel_rfl) (by kernel_rfl) (by kernel_rfl) (fun _ _ _ h => h) (Or.inl ⟨by rfl, ?_⟩) (by assumption) ?_
  rotate_left
  · intro w hSw
    (try dsimp only at hSw)
    first | (go_simp; done) | (go_simp; with_reducible rfl)
  (try simp only [Act.put, List.setIfInBounds_toArray, List.set_cons_zero, List.set_cons_succ])
  refine wpAnyH_done (by kernel_rfl) ?_ _
  have hbb : Below w2.heap.size w2 w3 := Below.mk hb3.os hb3.tape hb3.output hb3.size hb3.block
  have HB3 := Lib.hid (HB2.out.trans (hbb.mono HB2.out.size))
  have HO3 := Lib.hid (ho3.more (lo' := w.heap.size) (by show w.heap.size ≤ w2.heap.size; omega) (Nat.le_refl _))
  clear hb3 hbb ho3 hS hS3 hHeld hHeld2
  rw [← HSeg.out, ← HN.out] at HO3
  go_wp2
  go_ret
  exact ⟨ra, rc, by rw [HN.out, HSeg.out, HLc.out]; rfl, by rw [HN.out, HSeg.out, HLc.out]; exact hcc, HO3.out, HB3.out⟩
def cntO (L : List OpV) (x : OpV) : Nat := (L.takeWhile fun y => befO y x).length
def insO (L : List OpV) (x : OpV) : List OpV := (L.take (cntO L x) ++ [x]) ++ L.drop (cntO L x)
def sortTo (l : List OpV) (k : Nat) : List OpV := (l.take k).foldl insO []
theorem cnt_le (L : List OpV) (x : OpV) : cntO L x ≤ L.length := by
  have := (List.takeWhile_sublist (fun y => befO y x) (l := L)).length_le
  exact this
theorem cnt_end : ∀ {L : List OpV} {x : OpV} {t : Nat}, (∀ j, j < t → befO (atOp L j) x = true) → (t < L.length → befO (atOp L t) x = false) → t ≤ L.length → cntO L x = t
  | [], x, t, _, _, h3 => by obtain rfl : t = 0 := by simpa using h3
                             rfl
  | y :: L, x, 0, _, h2, _ => by
    have : befO y x = false := h2 (by simp)
    unfold cntO
    rw [List.takeWhile_cons_of_neg (by simp [this])]
    rfl
  | y :: L, x, t + 1, h1, h2, h3 => by
    have hy : befO y x = true := h1 0 (by omega)
    unfold cntO
    rw [List.takeWhile_cons_of_pos (by simpa using hy)]
    have := cnt_end (L := L) (x := x) (t := t) (fun j hj => h1 (j + 1) (by omega)) (fun h => h2 (by simpa using h)) (by simpa using h3)
    unfold cntO at this
    rw [List.length_cons, this]
theorem sort_step {l : List OpV} {k : Nat} (hk : k < l.length) : sortTo l (k + 1) = insO (sortTo l k) (atOp l k) := by
  have e : l[k] = atOp l k := by unfold atOp; rw [List.getD_eq_getElem?_getD, List.getElem?_eq_getElem hk]; rfl
  unfold sortTo
  rw [List.take_succ_eq_append_getElem hk, List.foldl_append, e]
  rfl
theorem ins_len (L : List OpV) (x : OpV) : (insO L x).length = L.length + 1 := by
  have := cnt_le L x
  unfold insO
  rw [List.length_append, List.length_append, List.length_take, List.length_drop, List.length_singleton]
  omega
theorem sort_len : ∀ (l : List OpV) (k : Nat), k ≤ l.length → (sortTo l k).length = k
  | _, 0, _ => by rw [sortTo, List.take_zero]; rfl
  | l, k + 1, h => by rw [sort_step (by omega), ins_len, sort_len l k (by omega)]
theorem opCells_app : ∀ (a b : List OpV), opCells (a ++ b) = opCells a ++ opCells b
  | [], b => rfl
  | x :: a, b => by
    show opRow x ++ opCells (a ++ b) = (opRow x ++ opCells a) ++ opCells b
    rw [opCells_app a b, List.append_assoc]
/-- What a part of a row of the call's own holds, as 'append' asks. -/
theorem row_part {w : World} {base n cap g : Nat} {L : List OpV} (h : w.ownsRow base 34 8 (.slice (some ⟨g, 0, none⟩) n cap) n (opCells L)) (t c : Nat) (htc : t + c ≤ n) : ∀ j u, (opCells ((L.drop t).take c))[j]? = some u → w.cell? ((⟨g, 0 + t * 8, none⟩ : Addr).add j) = some u := by
  intro j u hj
  have hLn : L.length = n := by have := h.1; rw [opCells_len] at this; omega
  have hl : ((L.drop t).take c).length = c := by rw [List.length_take, List.length_drop, hLn]; omega
  have hjl : j < c * 8 := by
    rcases Nat.lt_or_ge j (c * 8) with h' | h'
    · exact h'
    · rw [List.getElem?_eq_none (by rw [opCells_len, hl]; exact h')] at hj; cases hj
  have hc := h.cells (g := g) rfl (t * 8 + j) u (by
    have hd : j = (j / 8) * 8 + j % 8 := by omega
    have e1 : t * 8 + j = (t + j / 8) * 8 + j % 8 := by omega
    rw [hd, opCells_at _ _ _ (by rw [hl]; omega) (by omega)] at hj
    rw [e1, opCells_at _ _ _ (by rw [hLn]; omega) (by omega)]
    have e2 : ((L.drop t).take c).getD (j / 8) OpV.zero = L.getD (t + j / 8) OpV.zero := at_cut (by omega)
    rw [e2] at hj
    exact hj)
  rw [add_at] at hc ⊢
  have e3 : 0 + t * 8 + j = 0 + (t * 8 + j) := by omega
  rw [e3]
  exact hc

theorem row_form {w : World} {base n : Nat} {v : Value} {xs : List Value} (h : w.ownsRow base 34 8 v n xs) (hne : v ≠ .slice none 0 0) : ∃ g cap, v = .slice (some ⟨g, 0, none⟩) n cap ∧ base ≤ g ∧ g < w.heap.size ∧ n ≤ cap ∧ cap ≤ maxLen := by
  rcases h.2 with ⟨e, _⟩ | ⟨g, c, cur, e, hb, hg, hnc, hm, _⟩
  · exact absurd e hne
  · exact ⟨g, c, e, hb, (Array.getElem?_eq_some_iff.1 hg).1, hnc, hm⟩
theorem row_op {w : World} {base n cap g : Nat} {L : List OpV} (h : w.ownsRow base 34 8 (.slice (some ⟨g, 0, none⟩) n cap) n (opCells L)) {t : Nat} (ht : t < n) : OpAt w g (t * 8) (atOp L t) := by
  obtain ⟨b, off, e, _, ho⟩ := (own_of_cells h (Nat.le_refl _)).ops.2 t ht
  injection e with e
  injection e with e1 e2
  subst e1 e2
  rw [Nat.zero_add] at ho
  exact ho
theorem row_kept_grown {w w' : World} {base n cap g base2 n2 : Nat} {v2 : Value} {xs ys : List Value} (h : w.ownsRow base 34 8 (.slice (some ⟨g, 0, none⟩) n cap) n xs) (h2 : w.ownsRow base2 34 8 v2 n2 ys) (hg : w.grownBy w' v2.ownBlock) (hlt : g < base2) : w'.ownsRow base 34 8 (.slice (some ⟨g, 0, none⟩) n cap) n xs :=
  h.kept hg (.inr (fun e => by
    have := (h2.lt g e.symm).1
    omega))

set_option linter.unusedSimpArgs false in
set_option maxRecDepth 100000 in
set_option maxHeartbeats 128000000 in
theorem l8Sort (w : World) (B : Nat) (a : Option Addr) (n cap : Nat) (l : List OpV) (h : Ops w B a n l) (hB : B ≤ w.heap.size) (hn : n ≤ 1048576) :
    Calls Try.prog 104 #[.slice a n cap] w (OpsPost (sortTo l n) w) := by
  obtain ⟨i0, hi, hz0, hz1, hz2⟩ := info_parts Try.infoOp
  have H := Lib.hid h
  have HL := Lib.hid h.1
  have hown0 : (w.alloc (.cells #[] 34)).ownsRow w.heap.size 34 8 (.slice (some ⟨w.heap.size, 0, none⟩) 0 0) 0 [] := World.ownsRow_made w #[] 0 (Nat.le_refl _) (by unfold maxLen; omega) rfl
  have HOw := Lib.hid hown0
  have HB0 : Hid (Below w.heap.size w (w.alloc (.cells #[] 34))) := (Below.refl _ w).alloc (Nat.le_refl _) _
  clear h hown0
  go_enter Try.func104, Try.ntmps104
  go_upto_region 2 with fail
  generalize w.alloc (.cells #[] 34) = w0 at HOw HB0 ⊢
  go_wp2
  go_loopw [3, 4] (fun v i wr => ∃ (k : Nat) (vv : Value), k ≤ n ∧ vv = v ∧ i = .int .i64 (k : Int) ∧ Hid (v ≠ .slice none 0 0) ∧ Hid (wr.ownsRow w.heap.size 34 8 v k (opCells (sortTo l k))) ∧ Hid (Below w.heap.size w wr)) (fun _ i _ => n - (intOf i).toNat)
  case atStart => exact ⟨0, _, Nat.zero_le _, rfl, rfl, (fun e => by cases e), HOw, HB0⟩
  case round =>
    obtain ⟨k, vv, hk, hvv, rfl, HNe, HR, HBr⟩ := hrel
    subst hvv
    obtain ⟨g, oc, rfl, hg, hgw, hoc, hoc2⟩ := row_form HR.out HNe.out
    clear HNe HOw HB0
    by_cases hlt : k < n
    rotate_left
    · obtain rfl : k = n := by omega
      have HLs := Lib.hid (sort_len l k (by rw [HL.out]; exact Nat.le_refl _))
      have HP := Lib.hid (own_of_cells HR.out (Nat.le_refl _))
      go_wp2
      go_ret
      exact ⟨some ⟨g, 0, none⟩, oc, by rw [HLs.out]; rfl, by rw [HLs.out]; exact HP.out, HBr.out⟩
    have HLs := Lib.hid (sort_len l k (by rw [HL.out]; omega))
    have HSt := Lib.hid (sort_step (l := l) (k := k) (by rw [HL.out]; exact hlt))
    generalize sortTo l k = L at HLs HR HSt
    have hsr := HBr.out.size
    obtain ⟨b, off, rfl, hb, ho⟩ := H.out.2 k hlt
    have HOk : Hid (∀ W, Below w.heap.size w W → OpAt W b (off + k * 8) (atOp l k)) := fun W hW => (show OpAt w b (off + k * 8) (atOp l k) from ho).kept (hW.block b (by omega))
    clear ho
    generalize atOp l k = x at HOk HSt
    have hki : (k : Int) < (n : Int) := by omega
    go_wp2
    go_loopw [5] (fun i wi => ∃ t : Nat, t ≤ k ∧ i = .int .i64 (t : Int) ∧ Hid (∀ j, j < t → befO (atOp L j) x = true) ∧ Hid (wi.ownsRow w.heap.size 34 8 (.slice (some ⟨g, 0, none⟩) k oc) k (opCells L)) ∧ Hid (Below w.heap.size w wi)) (fun i _ => k - (intOf i).toNat)
    case atStart => exact ⟨0, Nat.zero_le _, rfl, fun j hj => absurd hj (by omega), HR, HBr⟩
    case round =>
      obtain ⟨t, htk, rfl, HT, HRi, HBi⟩ := hrel
      clear HR HBr
      obtain ⟨d0, d1, d2, d3, d4, d5, d6, d7⟩ := HOk.out wr HBi.out
      by_cases hend : t < k
      rotate_left
      · have htke : t = k := by omega
        have HCt := Lib.hid (cnt_end (L := L) (x := x) (t := t) HT.out (fun h => absurd h (by rw [HLs.out]; omega)) (by rw [HLs.out]; omega))
        have hdl : decide (t < k) = false := decide_eq_false (by omega)
        have hdl2 : decide ((t : Int) < (k : Int)) = false := decide_eq_false (by omega)
        have hS : wr.drew.cell? ⟨b, off + k * 8, none⟩ = some (.int .i64 x.dev) ∧ wr.drew.cell? ⟨b, off + k * 8 + 1, none⟩ = some (.int .i64 x.seq) ∧ wr.drew.cell? ⟨b, off + k * 8 + 2, none⟩ = some (.int .i64 x.stamp) ∧ wr.drew.cell? ⟨b, off + k * 8 + 3, none⟩ = some (.int .i64 x.kind) ∧ wr.drew.cell? ⟨b, off + k * 8 + 4, none⟩ = some (.string x.item) ∧ wr.drew.cell? ⟨b, off + k * 8 + 5, none⟩ = some (.int .i64 x.qty) ∧ wr.drew.cell? ⟨b, off + k * 8 + 6, none⟩ = some (.int .i64 x.level) ∧ wr.drew.cell? ⟨b, off + k * 8 + 7, none⟩ = some (.int .i64 x.undos) := ⟨d0, d1, d2, d3, d4, d5, d6, d7⟩
        go_wp2_with fail
        refine wp_region_held_drew (S := fun w' => w'.cell? ⟨b, off + k * 8, none⟩ = some (.int .i64 x.dev) ∧ w'.cell? ⟨b, off + k * 8 + 1, none⟩ = some (.int .i64 x.seq) ∧ w'.cell? ⟨b, off + k * 8 + 2, none⟩ = some (.int .i64 x.stamp) ∧ w'.cell? ⟨b, off + k * 8 + 3, none⟩ = some (.int .i64 x.kind) ∧ w'.cell? ⟨b, off + k * 8 + 4, none⟩ = some (.string x.item) ∧ w'.cell? ⟨b, off + k * 8 + 5, none⟩ = some (.int .i64 x.qty) ∧ w'.cell? ⟨b, off + k * 8 + 6, none⟩ = some (.int .i64 x.level) ∧ w'.cell? ⟨b, off + k * 8 + 7, none⟩ = some (.int .i64 x.undos)) (by kernel_rfl) hS (fun hHeld => ?_)
        refine wpAnyH_take (i := 0) (oi := { dst := some 14, op := .move (.tmp 5), type := 3, pos := "l08_pages.go:10", after := #[], guard := none }) (v := ?_) rfl (by kernel_rfl) (by kernel_rfl) (by kernel_rfl) (fun _ _ _ h => h) (Or.inl ⟨by rfl, ?_⟩) (by assumption) ?_
        rotate_left
        · intro w hSw
          (try dsimp only at hSw)
          first | (go_simp; done) | (go_simp; with_reducible rfl)
        (try simp only [Act.put, List.setIfInBounds_toArray, List.set_cons_zero, List.set_cons_succ])
        refine wpAnyH_take (i := 1) (oi := { dst := some 15, op := .move (.tmp 3), type := 25, pos := "l08_pages.go:10", after := #[], guard := none }) (v := ?_) rfl (by kernel_rfl) (by kernel_rfl) (by kernel_rfl) (fun _ _ _ h => h) (Or.inl ⟨by rfl, ?_⟩) (by assumption) ?_
        rotate_left
        · intro w hSw
          (try dsimp only at hSw)
          first | (go_simp; done) | (go_simp; with_reducible rfl)
        (try simp only [Act.put, List.setIfInBounds_toArray, List.set_cons_zero, List.set_cons_succ])
        refine wpAnyH_take (i := 2) (oi := { dst := some 16, op := .call { callee := .builtin .len, args := #[.tmp 15], argTypes := #[25] }, type := 3, pos := "l08_pages.go:10", after := #[⟨1, .data⟩], guard := none }) (v := ?_) rfl (by kernel_rfl) (by kernel_rfl) (by kernel_rfl) (fun _ _ _ h => h) (Or.inl ⟨by rfl, ?_⟩) (by assumption) ?_
        rotate_left
        · intro w hSw
          (try dsimp only at hSw)
          first | (go_simp; done) | (go_simp; with_reducible rfl)
        (try simp only [Act.put, List.setIfInBounds_toArray, List.set_cons_zero, List.set_cons_succ])
        refine wpAnyH_take (i := 3) (oi := { dst := some 17, op := .binOp .lss 3 (.tmp 14) (.tmp 16) 3, type := 4, pos := "l08_pages.go:10", after := #[⟨0, .data⟩, ⟨2, .data⟩], guard := none }) (v := ?_) rfl (by kernel_rfl) (by kernel_rfl) (by kernel_rfl) (fun _ _ _ h => h) (Or.inl ⟨by rfl, ?_⟩) (by assumption) ?_
        rotate_left
        · intro w hSw
          (try dsimp only at hSw)
          first | (go_simp; done) | (go_simp; with_reducible rfl)
        (try simp only [Act.put, List.setIfInBounds_toArray, List.set_cons_zero, List.set_cons_succ])
        refine wpAnyH_take (i := 4) (oi := { dst := some 18, op := .move (.tmp 17), type := 4, pos := "l08_pages.go:10", after := #[⟨3, .data⟩], guard := none }) (v := ?_) rfl (by kernel_rfl) (by kernel_rfl) (by kernel_rfl) (fun _ _ _ h => h) (Or.inl ⟨by rfl, ?_⟩) (by assumption) ?_
        rotate_left
        · intro w hSw
          (try dsimp only at hSw)
          first | (go_simp; done) | (go_simp; with_reducible rfl)
        (try simp only [Act.put, List.setIfInBounds_toArray, List.set_cons_zero, List.set_cons_succ])
        refine wpAnyH_take (i := 5) (oi := { dst := some 19, op := .move (.tmp 3), type := 25, pos := "l08_pages.go:10", after := #[⟨4, .guard⟩], guard := some (4, true) }) (v := undef) rfl (by kernel_rfl) (by kernel_rfl) (by kernel_rfl) (fun _ _ _ h => h) (Or.inr ⟨by rfl, rfl⟩) (by assumption) ?_
        (try simp only [Act.put, List.setIfInBounds_toArray, List.set_cons_zero, List.set_cons_succ])
        refine wpAnyH_take (i := 6) (oi := { dst := some 20, op := .move (.tmp 5), type := 3, pos := "l08_pages.go:10", after := #[⟨4, .guard⟩], guard := some (4, true) }) (v := undef) rfl (by kernel_rfl) (by kernel_rfl) (by kernel_rfl) (fun _ _ _ h => h) (Or.inr ⟨by rfl, rfl⟩) (by assumption) ?_
        (try simp only [Act.put, List.setIfInBounds_toArray, List.set_cons_zero, List.set_cons_succ])
        refine wpAnyH_take (i := 7) (oi := { dst := some 21, op := .indexAddr 25 (.tmp 19) (.tmp 20), type := 0, pos := "l08_pages.go:10", after := #[⟨5, .data⟩, ⟨6, .data⟩, ⟨4, .guard⟩], guard := some (4, true) }) (v := undef) rfl (by kernel_rfl) (by kernel_rfl) (by kernel_rfl) (fun _ _ _ h => h) (Or.inr ⟨by rfl, rfl⟩) (by assumption) ?_
        (try simp only [Act.put, List.setIfInBounds_toArray, List.set_cons_zero, List.set_cons_succ])
        refine wpAnyH_take (i := 8) (oi := { dst := some 22, op := .load 34 (.tmp 21), type := 34, pos := "l08_pages.go:10", after := #[⟨7, .data⟩, ⟨4, .guard⟩], guard := some (4, true) }) (v := undef) rfl (by kernel_rfl) (by kernel_rfl) (by kernel_rfl) (fun _ _ _ h => h) (Or.inr ⟨by rfl, rfl⟩) (by assumption) ?_
        (try simp only [Act.put, List.setIfInBounds_toArray, List.set_cons_zero, List.set_cons_succ])
        refine wpAnyH_take (i := 9) (oi := { dst := some 23, op := .move (.tmp 0), type := 25, pos := "l08_pages.go:10", after := #[⟨4, .guard⟩], guard := some (4, true) }) (v := undef) rfl (by kernel_rfl) (by kernel_rfl) (by kernel_rfl) (fun _ _ _ h => h) (Or.inr ⟨by rfl, rfl⟩) (by assumption) ?_
        (try simp only [Act.put, List.setIfInBounds_toArray, List.set_cons_zero, List.set_cons_succ])
        refine wpAnyH_take (i := 10) (oi := { dst := some 24, op := .move (.tmp 4), type := 3, pos := "l08_pages.go:10", after := #[⟨4, .guard⟩], guard := some (4, true) }) (v := undef) rfl (by kernel_rfl) (by kernel_rfl) (by kernel_rfl) (fun _ _ _ h => h) (Or.inr ⟨by rfl, rfl⟩) (by assumption) ?_
        (try simp only [Act.put, List.setIfInBounds_toArray, List.set_cons_zero, List.set_cons_succ])
        refine wpAnyH_take (i := 11) (oi := { dst := some 25, op := .indexAddr 25 (.tmp 23) (.tmp 24), type := 0, pos := "l08_pages.go:10", after := #[⟨9, .data⟩, ⟨10, .data⟩, ⟨4, .guard⟩], guard := some (4, true) }) (v := undef) rfl (by kernel_rfl) (by kernel_rfl) (by kernel_rfl) (fun _ _ _ h => h) (Or.inr ⟨by rfl, rfl⟩) (by assumption) ?_
        (try simp only [Act.put, List.setIfInBounds_toArray, List.set_cons_zero, List.set_cons_succ])
        refine wpAnyH_take (i := 12) (oi := { dst := some 26, op := .load 34 (.tmp 25), type := 34, pos := "l08_pages.go:10", after := #[⟨11, .data⟩, ⟨4, .guard⟩], guard := some (4, true) }) (v := undef) rfl (by kernel_rfl) (by kernel_rfl) (by kernel_rfl) (fun _ _ _ h => h) (Or.inr ⟨by rfl, rfl⟩) (by assumption) ?_
        (try simp only [Act.put, List.setIfInBounds_toArray, List.set_cons_zero, List.set_cons_succ])
        refine wpAnyH_take (i := 13) (oi := { dst := some 27, op := .call { callee := .value (.func 159), args := #[.tmp 22, .tmp 26], argTypes := #[34, 34] }, type := 4, pos := "l08_pages.go:10", after := #[⟨8, .data⟩, ⟨12, .data⟩, ⟨4, .chain⟩, ⟨4, .guard⟩], guard := some (4, true) }) (v := undef) rfl (by kernel_rfl) (by kernel_rfl) (by kernel_rfl) (fun _ _ _ h => h) (Or.inr ⟨by rfl, rfl⟩) (by assumption) ?_
        (try simp only [Act.put, List.setIfInBounds_toArray, List.set_cons_zero, List.set_cons_succ])
        refine wpAnyH_take (i := 14) (oi := { dst := some 28, op := .pick (.tmp 18) (.tmp 27) (.const (Value.bool false)), type := 4, pos := "l08_pages.go:10", after := #[⟨4, .data⟩, ⟨13, .data⟩], guard := none }) (v := ?_) rfl (by kernel_rfl) (by kernel_rfl) (by kernel_rfl) (fun _ _ _ h => h) (Or.inl ⟨by rfl, ?_⟩) (by assumption) ?_
        rotate_left
        · intro w hSw
          (try dsimp only at hSw)
          first | (go_simp; done) | (go_simp; with_reducible rfl)
        (try simp only [Act.put, List.setIfInBounds_toArray, List.set_cons_zero, List.set_cons_succ])
        refine wpAnyH_done (by kernel_rfl) ?_ _
        have HRd : Hid (wr.drew.ownsRow w.heap.size 34 8 (.slice (some ⟨g, 0, none⟩) k oc) k (opCells L)) := HRi.out.drew
        have HBd : Hid (Below w.heap.size w wr.drew) := ⟨HBi.out.os, HBi.out.tape, HBi.out.output, HBi.out.size, HBi.out.block⟩
        clear hS hHeld d0 d1 d2 d3 d4 d5 d6 d7 HRi HBi
        generalize wr.drew = y0 at HRd HBd ⊢
        clear htke hdl hdl2
        have hgW : g < y0.heap.size := by have := (HRd.out.lt g rfl).2; exact this
        have hwW : w.heap.size ≤ y0.heap.size := HBd.out.size
        have hti : (0 : Int) ≤ (t : Int) := by omega
        have hto : (t : Int) ≤ (oc : Int) := by omega
        have htk' : (t : Int) ≤ (k : Int) := by omega
        have hE : (y0.alloc (.cells #[] 34)).ownsRow y0.heap.size 34 8 (.slice (some ⟨y0.heap.size, 0, none⟩) 0 0) 0 [] := World.ownsRow_made y0 #[] 0 (Nat.le_refl _) (by unfold maxLen; omega) rfl
        have hRa := HRd.out.alloc (.cells #[] 34)
        go_wp2_with (at_builtin; refine wpList_append_own _ rfl _ _ 25 rfl y0.heap.size 34 i0 (.agg #[.int .i64 0, .int .i64 0, .int .i64 0, .int .i64 0, .string ⟨#[]⟩, .int .i64 0, .int .i64 0, .int .i64 0]) 8 72 Try.underlying25 hi hz0 hz1 hz2 rfl (by decide) _ _ _ rfl hE ⟨g, 0, none⟩ t oc (opCells (L.take t)) rfl ?c0 ?c1 ?c2 ?c3 ?c4 ?c5 ?_)
        case c0 => rw [opCells_len, List.length_take, HLs.out, Nat.min_eq_left htk]
        case c1 => exact row_part hRa 0 t (by omega)
        case c2 => exact opCells_one _
        case c3 => unfold maxLen; omega
        case c4 => omega
        case c5 => simp
        intro v1 y1 hown1 hgrow1 hnn1
        have hR1 := row_kept_grown hRa hE hgrow1 hgW
        have HB1 := Lib.hid ((HBd.out.alloc hwW (.cells #[] 34)).grown hgrow1 (by simp; omega) (fun j hj => by have := (hE.lt j hj).1; omega))
        have hne1 : v1 ≠ .slice none 0 0 := fun e => by first | exact hnn1 e | exact absurd (hnn1.1 e).1 (by intro h; cases h)
        have hown1' : y1.ownsRow y0.heap.size 34 8 v1 t (opCells (L.take t)) := by simpa using hown1
        have hs1 : y0.heap.size ≤ y1.heap.size := by obtain ⟨_, _, _, q, q2, _⟩ := row_form hown1' hne1; omega
        have hx := HOk.out y1 HB1.out
        obtain ⟨d0, d1, d2, d3, d4, d5, d6, d7⟩ := hx
        have HR1 := Lib.hid hR1
        have hX1 := hown1'.alloc (.cells #[.int .i64 x.dev, .int .i64 x.seq, .int .i64 x.stamp, .int .i64 x.kind, .string x.item, .int .i64 x.qty, .int .i64 x.level, .int .i64 x.undos] 34)
        have hRb := hR1.alloc (.cells #[.int .i64 x.dev, .int .i64 x.seq, .int .i64 x.stamp, .int .i64 x.kind, .string x.item, .int .i64 x.qty, .int .i64 x.level, .int .i64 x.undos] 34)
        clear hown1 hgrow1 hnn1 hE hRa hR1 HRd HBd
        generalize y0.heap.size = bw at hown1' hX1 hgW hwW hs1
        go_wp2_with (at_builtin; refine wpList_append_own _ rfl _ _ 25 rfl bw 34 i0 (.agg #[.int .i64 0, .int .i64 0, .int .i64 0, .int .i64 0, .string ⟨#[]⟩, .int .i64 0, .int .i64 0, .int .i64 0]) 8 72 Try.underlying25 hi hz0 hz1 hz2 rfl (by decide) _ _ _ rfl hX1 ⟨y1.heap.size, 0, none⟩ 1 1 (opRow x) rfl ?c0 ?c1 ?c2 ?c3 ?c4 ?c5 ?_)
        case c0 => rfl
        case c1 => exact opRow_new y1 x
        case c2 =>
          intro u hu
          exact opCells_one [x] u (by show u ∈ opRow x ++ []; rw [List.append_nil]; exact hu)
        case c3 => unfold maxLen; omega
        case c4 => omega
        case c5 => simp; omega
        intro v2 y2 hown2 hgrow2 hnn2
        have hR2 := row_kept_grown hRb hX1 hgrow2 hgW
        have HB2 := Lib.hid ((HB1.out.alloc (by omega) (.cells #[.int .i64 x.dev, .int .i64 x.seq, .int .i64 x.stamp, .int .i64 x.kind, .string x.item, .int .i64 x.qty, .int .i64 x.level, .int .i64 x.undos] 34)).grown hgrow2 (by simp; omega) (fun j hj => by have := (hX1.lt j hj).1; omega))
        have hne2 : v2 ≠ .slice none 0 0 := fun e => by first | exact hnn2 e | exact hne1 (hnn2.1 e).1
        have hown2' : y2.ownsRow bw 34 8 v2 (t + 1) (opCells (L.take t ++ [x])) := by rw [opCells_snoc]; exact hown2
        have hs2 : bw ≤ y2.heap.size := by obtain ⟨_, _, _, q, q2, _⟩ := row_form hown2' hne2; omega
        clear hown2 hgrow2 hnn2 hX1 hRb HR1 HB1 d0 d1 d2 d3 d4 d5 d6 d7 hown1'
        have HIn : Hid (sortTo l (k + 1) = (L.take t ++ [x]) ++ L.drop t) := by show _ = _; rw [HSt.out]; unfold insO; rw [HCt.out]
        by_cases hct : oc = t
        · have hkt0 : k = t := by omega
          have hLd : L.drop t = [] := by rw [← hkt0, ← HLs.out]; exact List.drop_length
          have HLd := Lib.hid hLd
          clear hkt0 hLd
          go_wp2_with (at_builtin; refine wpList_append_own _ rfl _ _ 25 rfl bw 34 i0 (.agg #[.int .i64 0, .int .i64 0, .int .i64 0, .int .i64 0, .string ⟨#[]⟩, .int .i64 0, .int .i64 0, .int .i64 0]) 8 72 Try.underlying25 hi hz0 hz1 hz2 rfl (by decide) _ _ _ rfl hown2' ⟨g, 0, none⟩ (k - t) _ (opCells (L.drop t)) rfl ?c0 ?c1 ?c2 ?c3 ?c4 ?c5 ?_)
          case c0 => rw [opCells_len, List.length_drop, HLs.out]
          case c1 => intro j u hj; rw [HLd.out] at hj; cases hj
          case c2 => exact opCells_one _
          case c3 => unfold maxLen; omega
          case c4 => omega
          case c5 => omega
          intro v3 y3 hown3 hgrow3 hnn3
          have HB3 := Lib.hid (HB2.out.grown hgrow3 (by omega) (fun j hj => by have := (hown2'.lt j hj).1; omega))
          have hkt : t + 1 + (k - t) = k + 1 := by omega
          have HR3 : Hid (y3.ownsRow w.heap.size 34 8 v3 (k + 1) (opCells (sortTo l (k + 1)))) := by
            show World.ownsRow _ _ _ _ _ _ _
            rw [HIn.out, opCells_app]
            rw [hkt] at hown3
            exact hown3.mono hwW
          have hn3 : v3 ≠ .slice none 0 0 := fun e => by first | exact hnn3 e | exact hne2 (hnn3.1 e).1
          have HN3 := Lib.hid hn3
          clear hn3
          clear hown3 hgrow3 hnn3 hown2' hR2 hkt
          go_wp2
          go_roundw
          case rel => exact ⟨k + 1, _, by omega, rfl, by go_num, HN3, HR3, HB3⟩
          case measure => simp [intOf]; omega
        · have hct2 : ¬ (oc : Int) = (t : Int) := by omega
          go_wp2_with (at_builtin; refine wpList_append_own _ rfl _ _ 25 rfl bw 34 i0 (.agg #[.int .i64 0, .int .i64 0, .int .i64 0, .int .i64 0, .string ⟨#[]⟩, .int .i64 0, .int .i64 0, .int .i64 0]) 8 72 Try.underlying25 hi hz0 hz1 hz2 rfl (by decide) _ _ _ rfl hown2' ⟨g, t * 8, none⟩ (k - t) _ (opCells (L.drop t)) rfl ?c0 ?c1 ?c2 ?c3 ?c4 ?c5 ?_)
          case c0 => rw [opCells_len, List.length_drop, HLs.out]
          case c1 => have := row_part hR2 t (k - t) (by omega); rw [Nat.zero_add] at this; have e : (L.drop t).take (k - t) = L.drop t := List.take_of_length_le (by rw [List.length_drop, HLs.out]; exact Nat.le_refl _); rw [e] at this; exact this
          case c2 => exact opCells_one _
          case c3 => unfold maxLen; omega
          case c4 => omega
          case c5 => omega
          intro v3 y3 hown3 hgrow3 hnn3
          have HB3 := Lib.hid (HB2.out.grown hgrow3 (by omega) (fun j hj => by have := (hown2'.lt j hj).1; omega))
          have hkt : t + 1 + (k - t) = k + 1 := by omega
          have HR3 : Hid (y3.ownsRow w.heap.size 34 8 v3 (k + 1) (opCells (sortTo l (k + 1)))) := by
            show World.ownsRow _ _ _ _ _ _ _
            rw [HIn.out, opCells_app]
            rw [hkt] at hown3
            exact hown3.mono hwW
          have hn3 : v3 ≠ .slice none 0 0 := fun e => by first | exact hnn3 e | exact hne2 (hnn3.1 e).1
          have HN3 := Lib.hid hn3
          clear hn3
          clear hown3 hgrow3 hnn3 hown2' hR2 hkt
          go_wp2
          go_roundw
          case rel => exact ⟨k + 1, _, by omega, rfl, by go_num, HN3, HR3, HB3⟩
          case measure => simp [intOf]; omega
      have hei : (t : Int) < (k : Int) := by omega
      have HOy := Lib.hid (row_op HRi.out hend)
      have HTs : Hid (befO (atOp L t) x = true → ∀ j, j < t + 1 → befO (atOp L j) x = true) := fun h j hj => by
        rcases Nat.lt_or_ge j t with h1 | h1
        · exact HT.out j h1
        · obtain rfl : j = t := by omega
          exact h
      have HCf : Hid (befO (atOp L t) x = false → cntO L x = t) := fun h => cnt_end HT.out (fun _ => h) (by rw [HLs.out]; omega)
      have HBy : Hid (befO (atOp L t) x = preB (atOp L t).stamp (atOp L t).dev (atOp L t).seq x.stamp x.dev x.seq) := rfl
      generalize atOp L t = y at HOy HTs HCf HBy
      obtain ⟨e0, e1, e2, e3, e4, e5, e6, e7⟩ := HOy.out
      have hS : wr.drew.cell? ⟨b, off + k * 8, none⟩ = some (.int .i64 x.dev) ∧ wr.drew.cell? ⟨b, off + k * 8 + 1, none⟩ = some (.int .i64 x.seq) ∧ wr.drew.cell? ⟨b, off + k * 8 + 2, none⟩ = some (.int .i64 x.stamp) ∧ wr.drew.cell? ⟨b, off + k * 8 + 3, none⟩ = some (.int .i64 x.kind) ∧ wr.drew.cell? ⟨b, off + k * 8 + 4, none⟩ = some (.string x.item) ∧ wr.drew.cell? ⟨b, off + k * 8 + 5, none⟩ = some (.int .i64 x.qty) ∧ wr.drew.cell? ⟨b, off + k * 8 + 6, none⟩ = some (.int .i64 x.level) ∧ wr.drew.cell? ⟨b, off + k * 8 + 7, none⟩ = some (.int .i64 x.undos) ∧ wr.drew.cell? ⟨g, t * 8, none⟩ = some (.int .i64 y.dev) ∧ wr.drew.cell? ⟨g, t * 8 + 1, none⟩ = some (.int .i64 y.seq) ∧ wr.drew.cell? ⟨g, t * 8 + 2, none⟩ = some (.int .i64 y.stamp) ∧ wr.drew.cell? ⟨g, t * 8 + 3, none⟩ = some (.int .i64 y.kind) ∧ wr.drew.cell? ⟨g, t * 8 + 4, none⟩ = some (.string y.item) ∧ wr.drew.cell? ⟨g, t * 8 + 5, none⟩ = some (.int .i64 y.qty) ∧ wr.drew.cell? ⟨g, t * 8 + 6, none⟩ = some (.int .i64 y.level) ∧ wr.drew.cell? ⟨g, t * 8 + 7, none⟩ = some (.int .i64 y.undos) := ⟨d0, d1, d2, d3, d4, d5, d6, d7, e0, e1, e2, e3, e4, e5, e6, e7⟩
      go_wp2_with fail
      refine wp_region_held_drew (S := fun w' => w'.cell? ⟨b, off + k * 8, none⟩ = some (.int .i64 x.dev) ∧ w'.cell? ⟨b, off + k * 8 + 1, none⟩ = some (.int .i64 x.seq) ∧ w'.cell? ⟨b, off + k * 8 + 2, none⟩ = some (.int .i64 x.stamp) ∧ w'.cell? ⟨b, off + k * 8 + 3, none⟩ = some (.int .i64 x.kind) ∧ w'.cell? ⟨b, off + k * 8 + 4, none⟩ = some (.string x.item) ∧ w'.cell? ⟨b, off + k * 8 + 5, none⟩ = some (.int .i64 x.qty) ∧ w'.cell? ⟨b, off + k * 8 + 6, none⟩ = some (.int .i64 x.level) ∧ w'.cell? ⟨b, off + k * 8 + 7, none⟩ = some (.int .i64 x.undos) ∧ w'.cell? ⟨g, t * 8, none⟩ = some (.int .i64 y.dev) ∧ w'.cell? ⟨g, t * 8 + 1, none⟩ = some (.int .i64 y.seq) ∧ w'.cell? ⟨g, t * 8 + 2, none⟩ = some (.int .i64 y.stamp) ∧ w'.cell? ⟨g, t * 8 + 3, none⟩ = some (.int .i64 y.kind) ∧ w'.cell? ⟨g, t * 8 + 4, none⟩ = some (.string y.item) ∧ w'.cell? ⟨g, t * 8 + 5, none⟩ = some (.int .i64 y.qty) ∧ w'.cell? ⟨g, t * 8 + 6, none⟩ = some (.int .i64 y.level) ∧ w'.cell? ⟨g, t * 8 + 7, none⟩ = some (.int .i64 y.undos)) (by kernel_rfl) hS (fun hHeld => ?_)
      refine wpAnyH_take (i := 0) (oi := { dst := some 14, op := .move (.tmp 5), type := 3, pos := "l08_pages.go:10", after := #[], guard := none }) (v := ?_) rfl (by kernel_rfl) (by kernel_rfl) (by kernel_rfl) (fun _ _ _ h => h) (Or.inl ⟨by rfl, ?_⟩) (by assumption) ?_
      rotate_left
      · intro w hSw
        (try dsimp only at hSw)
        first | (go_simp; done) | (go_simp; with_reducible rfl)
      (try simp only [Act.put, List.setIfInBounds_toArray, List.set_cons_zero, List.set_cons_succ])
      refine wpAnyH_take (i := 1) (oi := { dst := some 15, op := .move (.tmp 3), type := 25, pos := "l08_pages.go:10", after := #[], guard := none }) (v := ?_) rfl (by kernel_rfl) (by kernel_rfl) (by kernel_rfl) (fun _ _ _ h => h) (Or.inl ⟨by rfl, ?_⟩) (by assumption) ?_
      rotate_left
      · intro w hSw
        (try dsimp only at hSw)
        first | (go_simp; done) | (go_simp; with_reducible rfl)
      (try simp only [Act.put, List.setIfInBounds_toArray, List.set_cons_zero, List.set_cons_succ])
      refine wpAnyH_take (i := 2) (oi := { dst := some 16, op := .call { callee := .builtin .len, args := #[.tmp 15], argTypes := #[25] }, type := 3, pos := "l08_pages.go:10", after := #[⟨1, .data⟩], guard := none }) (v := ?_) rfl (by kernel_rfl) (by kernel_rfl) (by kernel_rfl) (fun _ _ _ h => h) (Or.inl ⟨by rfl, ?_⟩) (by assumption) ?_
      rotate_left
      · intro w hSw
        (try dsimp only at hSw)
        first | (go_simp; done) | (go_simp; with_reducible rfl)
      (try simp only [Act.put, List.setIfInBounds_toArray, List.set_cons_zero, List.set_cons_succ])
      refine wpAnyH_take (i := 3) (oi := { dst := some 17, op := .binOp .lss 3 (.tmp 14) (.tmp 16) 3, type := 4, pos := "l08_pages.go:10", after := #[⟨0, .data⟩, ⟨2, .data⟩], guard := none }) (v := ?_) rfl (by kernel_rfl) (by kernel_rfl) (by kernel_rfl) (fun _ _ _ h => h) (Or.inl ⟨by rfl, ?_⟩) (by assumption) ?_
      rotate_left
      · intro w hSw
        (try dsimp only at hSw)
        first | (go_simp; done) | (go_simp; with_reducible rfl)
      (try simp only [Act.put, List.setIfInBounds_toArray, List.set_cons_zero, List.set_cons_succ])
      refine wpAnyH_take (i := 4) (oi := { dst := some 18, op := .move (.tmp 17), type := 4, pos := "l08_pages.go:10", after := #[⟨3, .data⟩], guard := none }) (v := ?_) rfl (by kernel_rfl) (by kernel_rfl) (by kernel_rfl) (fun _ _ _ h => h) (Or.inl ⟨by rfl, ?_⟩) (by assumption) ?_
      rotate_left
      · intro w hSw
        (try dsimp only at hSw)
        first | (go_simp; done) | (go_simp; with_reducible rfl)
      (try simp only [Act.put, List.setIfInBounds_toArray, List.set_cons_zero, List.set_cons_succ])
      refine wpAnyH_take (i := 5) (oi := { dst := some 19, op := .move (.tmp 3), type := 25, pos := "l08_pages.go:10", after := #[⟨4, .guard⟩], guard := some (4, true) }) (v := ?_) rfl (by kernel_rfl) (by kernel_rfl) (by kernel_rfl) (fun _ _ _ h => h) (Or.inl ⟨by rfl, ?_⟩) (by assumption) ?_
      rotate_left
      · intro w hSw
        (try dsimp only at hSw)
        first | (go_simp; done) | (go_simp; with_reducible rfl)
      (try simp only [Act.put, List.setIfInBounds_toArray, List.set_cons_zero, List.set_cons_succ])
      refine wpAnyH_take (i := 6) (oi := { dst := some 20, op := .move (.tmp 5), type := 3, pos := "l08_pages.go:10", after := #[⟨4, .guard⟩], guard := some (4, true) }) (v := ?_) rfl (by kernel_rfl) (by kernel_rfl) (by kernel_rfl) (fun _ _ _ h => h) (Or.inl ⟨by rfl, ?_⟩) (by assumption) ?_
      rotate_left
      · intro w hSw
        (try dsimp only at hSw)
        first | (go_simp; done) | (go_simp; with_reducible rfl)
      (try simp only [Act.put, List.setIfInBounds_toArray, List.set_cons_zero, List.set_cons_succ])
      refine wpAnyH_take (i := 7) (oi := { dst := some 21, op := .indexAddr 25 (.tmp 19) (.tmp 20), type := 0, pos := "l08_pages.go:10", after := #[⟨5, .data⟩, ⟨6, .data⟩, ⟨4, .guard⟩], guard := some (4, true) }) (v := ?_) rfl (by kernel_rfl) (by kernel_rfl) (by kernel_rfl) (fun _ _ _ h => h) (Or.inl ⟨by rfl, ?_⟩) (by assumption) ?_
      rotate_left
      · intro w hSw
        (try dsimp only at hSw)
        first | (go_simp; done) | (go_simp; with_reducible rfl)
      (try simp only [Act.put, List.setIfInBounds_toArray, List.set_cons_zero, List.set_cons_succ])
      refine wpAnyH_take (i := 8) (oi := { dst := some 22, op := .load 34 (.tmp 21), type := 34, pos := "l08_pages.go:10", after := #[⟨7, .data⟩, ⟨4, .guard⟩], guard := some (4, true) }) (v := ?_) rfl (by kernel_rfl) (by kernel_rfl) (by kernel_rfl) (fun _ _ _ h => h) (Or.inl ⟨by rfl, ?_⟩) (by assumption) ?_
      rotate_left
      · intro w hSw
        (try dsimp only at hSw)
        first | (go_simp; done) | (go_simp; with_reducible rfl)
      (try simp only [Act.put, List.setIfInBounds_toArray, List.set_cons_zero, List.set_cons_succ])
      refine wpAnyH_take (i := 9) (oi := { dst := some 23, op := .move (.tmp 0), type := 25, pos := "l08_pages.go:10", after := #[⟨4, .guard⟩], guard := some (4, true) }) (v := ?_) rfl (by kernel_rfl) (by kernel_rfl) (by kernel_rfl) (fun _ _ _ h => h) (Or.inl ⟨by rfl, ?_⟩) (by assumption) ?_
      rotate_left
      · intro w hSw
        (try dsimp only at hSw)
        first | (go_simp; done) | (go_simp; with_reducible rfl)
      (try simp only [Act.put, List.setIfInBounds_toArray, List.set_cons_zero, List.set_cons_succ])
      refine wpAnyH_take (i := 10) (oi := { dst := some 24, op := .move (.tmp 4), type := 3, pos := "l08_pages.go:10", after := #[⟨4, .guard⟩], guard := some (4, true) }) (v := ?_) rfl (by kernel_rfl) (by kernel_rfl) (by kernel_rfl) (fun _ _ _ h => h) (Or.inl ⟨by rfl, ?_⟩) (by assumption) ?_
      rotate_left
      · intro w hSw
        (try dsimp only at hSw)
        first | (go_simp; done) | (go_simp; with_reducible rfl)
      (try simp only [Act.put, List.setIfInBounds_toArray, List.set_cons_zero, List.set_cons_succ])
      refine wpAnyH_take (i := 11) (oi := { dst := some 25, op := .indexAddr 25 (.tmp 23) (.tmp 24), type := 0, pos := "l08_pages.go:10", after := #[⟨9, .data⟩, ⟨10, .data⟩, ⟨4, .guard⟩], guard := some (4, true) }) (v := ?_) rfl (by kernel_rfl) (by kernel_rfl) (by kernel_rfl) (fun _ _ _ h => h) (Or.inl ⟨by rfl, ?_⟩) (by assumption) ?_
      rotate_left
      · intro w hSw
        (try dsimp only at hSw)
        first | (go_simp; done) | (go_simp; with_reducible rfl)
      (try simp only [Act.put, List.setIfInBounds_toArray, List.set_cons_zero, List.set_cons_succ])
      refine wpAnyH_take (i := 12) (oi := { dst := some 26, op := .load 34 (.tmp 25), type := 34, pos := "l08_pages.go:10", after := #[⟨11, .data⟩, ⟨4, .guard⟩], guard := some (4, true) }) (v := ?_) rfl (by kernel_rfl) (by kernel_rfl) (by kernel_rfl) (fun _ _ _ h => h) (Or.inl ⟨by rfl, ?_⟩) (by assumption) ?_
      rotate_left
      · intro w hSw
        (try dsimp only at hSw)
        first | (go_simp; done) | (go_simp; with_reducible rfl)
      (try simp only [Act.put, List.setIfInBounds_toArray, List.set_cons_zero, List.set_cons_succ])
      refine wpAnyH_ready (rs := [13]) (by kernel_rfl) (by simp) ?_
      refine AllReadyH.cons (o := { dst := some 27, op := .call { callee := .value (.func 159), args := #[.tmp 22, .tmp 26], argTypes := #[34, 34] }, type := 4, pos := "l08_pages.go:10", after := #[⟨8, .data⟩, ⟨12, .data⟩, ⟨4, .chain⟩, ⟨4, .guard⟩], guard := some (4, true) }) rfl (fun K hK => ?_) AllReadyH.nil
      go_simp
      go_at_call 159
      refine (l3Before y.dev y.seq y.stamp y.kind y.item y.qty y.level y.undos x.dev x.seq x.stamp x.kind x.item x.qty x.level x.undos _).mono ?_
      rintro e z1 ⟨rfl, hbz1⟩
      rw [← HBy.out]
      have hS1 : z1.cell? ⟨b, off + k * 8, none⟩ = some (.int .i64 x.dev) ∧ z1.cell? ⟨b, off + k * 8 + 1, none⟩ = some (.int .i64 x.seq) ∧ z1.cell? ⟨b, off + k * 8 + 2, none⟩ = some (.int .i64 x.stamp) ∧ z1.cell? ⟨b, off + k * 8 + 3, none⟩ = some (.int .i64 x.kind) ∧ z1.cell? ⟨b, off + k * 8 + 4, none⟩ = some (.string x.item) ∧ z1.cell? ⟨b, off + k * 8 + 5, none⟩ = some (.int .i64 x.qty) ∧ z1.cell? ⟨b, off + k * 8 + 6, none⟩ = some (.int .i64 x.level) ∧ z1.cell? ⟨b, off + k * 8 + 7, none⟩ = some (.int .i64 x.undos) ∧ z1.cell? ⟨g, t * 8, none⟩ = some (.int .i64 y.dev) ∧ z1.cell? ⟨g, t * 8 + 1, none⟩ = some (.int .i64 y.seq) ∧ z1.cell? ⟨g, t * 8 + 2, none⟩ = some (.int .i64 y.stamp) ∧ z1.cell? ⟨g, t * 8 + 3, none⟩ = some (.int .i64 y.kind) ∧ z1.cell? ⟨g, t * 8 + 4, none⟩ = some (.string y.item) ∧ z1.cell? ⟨g, t * 8 + 5, none⟩ = some (.int .i64 y.qty) ∧ z1.cell? ⟨g, t * 8 + 6, none⟩ = some (.int .i64 y.level) ∧ z1.cell? ⟨g, t * 8 + 7, none⟩ = some (.int .i64 y.undos) := by
        obtain ⟨q0, q1, q2, q3, q4, q5, q6, q7, q8, q9, q10, q11, q12, q13, q14, q15⟩ := hS
        exact ⟨(hbz1.cell (block_lt_of_cell q0)).trans q0, (hbz1.cell (block_lt_of_cell q1)).trans q1, (hbz1.cell (block_lt_of_cell q2)).trans q2, (hbz1.cell (block_lt_of_cell q3)).trans q3, (hbz1.cell (block_lt_of_cell q4)).trans q4, (hbz1.cell (block_lt_of_cell q5)).trans q5, (hbz1.cell (block_lt_of_cell q6)).trans q6, (hbz1.cell (block_lt_of_cell q7)).trans q7, (hbz1.cell (block_lt_of_cell q8)).trans q8, (hbz1.cell (block_lt_of_cell q9)).trans q9, (hbz1.cell (block_lt_of_cell q10)).trans q10, (hbz1.cell (block_lt_of_cell q11)).trans q11, (hbz1.cell (block_lt_of_cell q12)).trans q12, (hbz1.cell (block_lt_of_cell q13)).trans q13, (hbz1.cell (block_lt_of_cell q14)).trans q14, (hbz1.cell (block_lt_of_cell q15)).trans q15⟩
      refine hK.out _ _ hS1 (fun hHeld2 => ?_)
      clear hK K
      (try simp only [Act.put, List.setIfInBounds_toArray, List.set_cons_zero, List.set_cons_succ])
      refine wpAnyH_take (i := 14) (oi := { dst := some 28, op := .pick (.tmp 18) (.tmp 27) (.const (Value.bool false)), type := 4, pos := "l08_pages.go:10", after := #[⟨4, .data⟩, ⟨13, .data⟩], guard := none }) (v := ?_) rfl (by kernel_rfl) (by kernel_rfl) (by kernel_rfl) (fun _ _ _ h => h) (Or.inl ⟨by rfl, ?_⟩) (by assumption) ?_
      rotate_left
      · intro w hSw
        (try dsimp only at hSw)
        first | (go_simp; done) | (go_simp; with_reducible rfl)
      (try simp only [Act.put, List.setIfInBounds_toArray, List.set_cons_zero, List.set_cons_succ])
      refine wpAnyH_done (by kernel_rfl) ?_ _
      have hc1 : Below wr.heap.size wr z1 := Below.mk hbz1.os hbz1.tape hbz1.output hbz1.size hbz1.block
      have HBz := Lib.hid (HBi.out.trans (hc1.mono HBi.out.size))
      have HRz := Lib.hid (own_row_kept HRi.out hc1)
      clear hS hS1 hHeld hHeld2 hbz1 hc1 d0 d1 d2 d3 d4 d5 d6 d7 e0 e1 e2 e3 e4 e5 e6 e7 HRi HBi
      rcases hbf : befO y x with _ | _
      rotate_left
      · have HTn := Lib.hid (HTs.out hbf)
        go_wp2
        go_roundw
        case rel => exact ⟨t + 1, by omega, by go_num, HTn, HRz, HBz⟩
        case measure => simp [intOf]; omega
      have HCt := Lib.hid (HCf.out hbf)
      clear hbf
      have hgW : g < z1.heap.size := by have := (HRz.out.lt g rfl).2; exact this
      have hwW : w.heap.size ≤ z1.heap.size := HBz.out.size
      have hti : (0 : Int) ≤ (t : Int) := by omega
      have hto : (t : Int) ≤ (oc : Int) := by omega
      have htk' : (t : Int) ≤ (k : Int) := by omega
      have hE : (z1.alloc (.cells #[] 34)).ownsRow z1.heap.size 34 8 (.slice (some ⟨z1.heap.size, 0, none⟩) 0 0) 0 [] := World.ownsRow_made z1 #[] 0 (Nat.le_refl _) (by unfold maxLen; omega) rfl
      have hRa := HRz.out.alloc (.cells #[] 34)
      go_wp2_with (at_builtin; refine wpList_append_own _ rfl _ _ 25 rfl z1.heap.size 34 i0 (.agg #[.int .i64 0, .int .i64 0, .int .i64 0, .int .i64 0, .string ⟨#[]⟩, .int .i64 0, .int .i64 0, .int .i64 0]) 8 72 Try.underlying25 hi hz0 hz1 hz2 rfl (by decide) _ _ _ rfl hE ⟨g, 0, none⟩ t oc (opCells (L.take t)) rfl ?c0 ?c1 ?c2 ?c3 ?c4 ?c5 ?_)
      case c0 => rw [opCells_len, List.length_take, HLs.out, Nat.min_eq_left htk]
      case c1 => exact row_part hRa 0 t (by omega)
      case c2 => exact opCells_one _
      case c3 => unfold maxLen; omega
      case c4 => omega
      case c5 => simp
      intro v1 y1 hown1 hgrow1 hnn1
      have hR1 := row_kept_grown hRa hE hgrow1 hgW
      have HB1 := Lib.hid ((HBz.out.alloc hwW (.cells #[] 34)).grown hgrow1 (by simp; omega) (fun j hj => by have := (hE.lt j hj).1; omega))
      have hne1 : v1 ≠ .slice none 0 0 := fun e => by first | exact hnn1 e | exact absurd (hnn1.1 e).1 (by intro h; cases h)
      have hown1' : y1.ownsRow z1.heap.size 34 8 v1 t (opCells (L.take t)) := by simpa using hown1
      have hs1 : z1.heap.size ≤ y1.heap.size := by obtain ⟨_, _, _, q, q2, _⟩ := row_form hown1' hne1; omega
      have hx := HOk.out y1 HB1.out
      obtain ⟨d0, d1, d2, d3, d4, d5, d6, d7⟩ := hx
      have HR1 := Lib.hid hR1
      have hX1 := hown1'.alloc (.cells #[.int .i64 x.dev, .int .i64 x.seq, .int .i64 x.stamp, .int .i64 x.kind, .string x.item, .int .i64 x.qty, .int .i64 x.level, .int .i64 x.undos] 34)
      have hRb := hR1.alloc (.cells #[.int .i64 x.dev, .int .i64 x.seq, .int .i64 x.stamp, .int .i64 x.kind, .string x.item, .int .i64 x.qty, .int .i64 x.level, .int .i64 x.undos] 34)
      clear hown1 hgrow1 hnn1 hE hRa hR1 HRz HBz
      generalize z1.heap.size = bw at hown1' hX1 hgW hwW hs1
      go_wp2_with (at_builtin; refine wpList_append_own _ rfl _ _ 25 rfl bw 34 i0 (.agg #[.int .i64 0, .int .i64 0, .int .i64 0, .int .i64 0, .string ⟨#[]⟩, .int .i64 0, .int .i64 0, .int .i64 0]) 8 72 Try.underlying25 hi hz0 hz1 hz2 rfl (by decide) _ _ _ rfl hX1 ⟨y1.heap.size, 0, none⟩ 1 1 (opRow x) rfl ?c0 ?c1 ?c2 ?c3 ?c4 ?c5 ?_)
      case c0 => rfl
      case c1 => exact opRow_new y1 x
      case c2 =>
        intro u hu
        exact opCells_one [x] u (by show u ∈ opRow x ++ []; rw [List.append_nil]; exact hu)
      case c3 => unfold maxLen; omega
      case c4 => omega
      case c5 => simp; omega
      intro v2 y2 hown2 hgrow2 hnn2
      have hR2 := row_kept_grown hRb hX1 hgrow2 hgW
      have HB2 := Lib.hid ((HB1.out.alloc (by omega) (.cells #[.int .i64 x.dev, .int .i64 x.seq, .int .i64 x.stamp, .int .i64 x.kind, .string x.item, .int .i64 x.qty, .int .i64 x.level, .int .i64 x.undos] 34)).grown hgrow2 (by simp; omega) (fun j hj => by have := (hX1.lt j hj).1; omega))
      have hne2 : v2 ≠ .slice none 0 0 := fun e => by first | exact hnn2 e | exact hne1 (hnn2.1 e).1
      have hown2' : y2.ownsRow bw 34 8 v2 (t + 1) (opCells (L.take t ++ [x])) := by rw [opCells_snoc]; exact hown2
      have hs2 : bw ≤ y2.heap.size := by obtain ⟨_, _, _, q, q2, _⟩ := row_form hown2' hne2; omega
      clear hown2 hgrow2 hnn2 hX1 hRb HR1 HB1 d0 d1 d2 d3 d4 d5 d6 d7 hown1'
      have HIn : Hid (sortTo l (k + 1) = (L.take t ++ [x]) ++ L.drop t) := by show _ = _; rw [HSt.out]; unfold insO; rw [HCt.out]
      by_cases hct : oc = t
      · have hkt0 : k = t := by omega
        have hLd : L.drop t = [] := by rw [← hkt0, ← HLs.out]; exact List.drop_length
        have HLd := Lib.hid hLd
        clear hkt0 hLd
        go_wp2_with (at_builtin; refine wpList_append_own _ rfl _ _ 25 rfl bw 34 i0 (.agg #[.int .i64 0, .int .i64 0, .int .i64 0, .int .i64 0, .string ⟨#[]⟩, .int .i64 0, .int .i64 0, .int .i64 0]) 8 72 Try.underlying25 hi hz0 hz1 hz2 rfl (by decide) _ _ _ rfl hown2' ⟨g, 0, none⟩ (k - t) _ (opCells (L.drop t)) rfl ?c0 ?c1 ?c2 ?c3 ?c4 ?c5 ?_)
        case c0 => rw [opCells_len, List.length_drop, HLs.out]
        case c1 => intro j u hj; rw [HLd.out] at hj; cases hj
        case c2 => exact opCells_one _
        case c3 => unfold maxLen; omega
        case c4 => omega
        case c5 => omega
        intro v3 y3 hown3 hgrow3 hnn3
        have HB3 := Lib.hid (HB2.out.grown hgrow3 (by omega) (fun j hj => by have := (hown2'.lt j hj).1; omega))
        have hkt : t + 1 + (k - t) = k + 1 := by omega
        have HR3 : Hid (y3.ownsRow w.heap.size 34 8 v3 (k + 1) (opCells (sortTo l (k + 1)))) := by
          show World.ownsRow _ _ _ _ _ _ _
          rw [HIn.out, opCells_app]
          rw [hkt] at hown3
          exact hown3.mono hwW
        have hn3 : v3 ≠ .slice none 0 0 := fun e => by first | exact hnn3 e | exact hne2 (hnn3.1 e).1
        have HN3 := Lib.hid hn3
        clear hn3
        clear hown3 hgrow3 hnn3 hown2' hR2 hkt
        go_wp2
        go_roundw
        case rel => exact ⟨k + 1, _, by omega, rfl, by go_num, HN3, HR3, HB3⟩
        case measure => simp [intOf]; omega
      · have hct2 : ¬ (oc : Int) = (t : Int) := by omega
        go_wp2_with (at_builtin; refine wpList_append_own _ rfl _ _ 25 rfl bw 34 i0 (.agg #[.int .i64 0, .int .i64 0, .int .i64 0, .int .i64 0, .string ⟨#[]⟩, .int .i64 0, .int .i64 0, .int .i64 0]) 8 72 Try.underlying25 hi hz0 hz1 hz2 rfl (by decide) _ _ _ rfl hown2' ⟨g, t * 8, none⟩ (k - t) _ (opCells (L.drop t)) rfl ?c0 ?c1 ?c2 ?c3 ?c4 ?c5 ?_)
        case c0 => rw [opCells_len, List.length_drop, HLs.out]
        case c1 => have := row_part hR2 t (k - t) (by omega); rw [Nat.zero_add] at this; have e : (L.drop t).take (k - t) = L.drop t := List.take_of_length_le (by rw [List.length_drop, HLs.out]; exact Nat.le_refl _); rw [e] at this; exact this
        case c2 => exact opCells_one _
        case c3 => unfold maxLen; omega
        case c4 => omega
        case c5 => omega
        intro v3 y3 hown3 hgrow3 hnn3
        have HB3 := Lib.hid (HB2.out.grown hgrow3 (by omega) (fun j hj => by have := (hown2'.lt j hj).1; omega))
        have hkt : t + 1 + (k - t) = k + 1 := by omega
        have HR3 : Hid (y3.ownsRow w.heap.size 34 8 v3 (k + 1) (opCells (sortTo l (k + 1)))) := by
          show World.ownsRow _ _ _ _ _ _ _
          rw [HIn.out, opCells_app]
          rw [hkt] at hown3
          exact hown3.mono hwW
        have hn3 : v3 ≠ .slice none 0 0 := fun e => by first | exact hnn3 e | exact hne2 (hnn3.1 e).1
        have HN3 := Lib.hid hn3
        clear hn3
        clear hown3 hgrow3 hnn3 hown2' hR2 hkt
        go_wp2
        go_roundw
        case rel => exact ⟨k + 1, _, by omega, rfl, by go_num, HN3, HR3, HB3⟩
        case measure => simp [intOf]; omega
theorem prec_no {R : Nat → List OpV} {x : OpV} {e : Nat} (he : e < 4) (h : headOk (R e) x = false) : precB R x = false := by
  unfold precB
  rw [List.all_eq_false]
  exact ⟨e, by simpa using he, by simp [h]⟩
theorem prec_yes {R : Nat → List OpV} {x : OpV} (h : ∀ e, e < 4 → headOk (R e) x = true) : precB R x = true := by
  unfold precB
  rw [List.all_eq_true]
  intro e he
  exact h e (by simpa using he)
theorem headOk_nil {L : List OpV} {x : OpV} (h : L.length = 0) : headOk L x = true := by unfold headOk; rw [decide_eq_true h]; rfl
set_option linter.unusedSimpArgs false in
set_option maxRecDepth 100000 in
set_option maxHeartbeats 128000000 in
theorem precedesNext (w : World) (B : Nat) (A : Nat → Option Addr) (N C : Nat → Nat) (R : Nat → List OpV) (x : OpV) (h : ∀ e, e < 4 → Ops w B (A e) (N e) (R e)) (hB : B ≤ w.heap.size) (hn : ∀ e, e < 4 → N e ≤ 1048576) :
    Calls Try.prog 103 #[.agg #[.int .i64 x.dev, .int .i64 x.seq, .int .i64 x.stamp, .int .i64 x.kind, .string x.item, .int .i64 x.qty, .int .i64 x.level, .int .i64 x.undos], .agg #[.slice (A 0) (N 0) (C 0), .slice (A 1) (N 1) (C 1), .slice (A 2) (N 2) (C 2), .slice (A 3) (N 3) (C 3)]] w fun e w' => e = .returned (.bool (precB R x)) ∧ Below w.heap.size w w' := by
  have hb0 : Below w.heap.size w ((w.alloc (.cells #[.int .i64 x.dev, .int .i64 x.seq, .int .i64 x.stamp, .int .i64 x.kind, .string x.item, .int .i64 x.qty, .int .i64 x.level, .int .i64 x.undos] 34)).alloc (.cells #[.slice (A 0) (N 0) (C 0), .slice (A 1) (N 1) (C 1), .slice (A 2) (N 2) (C 2), .slice (A 3) (N 3) (C 3)] 115)) := ((Below.refl _ w).alloc (Nat.le_refl _) _).alloc (by simp) _
  have HX : Hid (((w.alloc (.cells #[.int .i64 x.dev, .int .i64 x.seq, .int .i64 x.stamp, .int .i64 x.kind, .string x.item, .int .i64 x.qty, .int .i64 x.level, .int .i64 x.undos] 34)).alloc (.cells #[.slice (A 0) (N 0) (C 0), .slice (A 1) (N 1) (C 1), .slice (A 2) (N 2) (C 2), .slice (A 3) (N 3) (C 3)] 115)).heap[w.heap.size]? = some (.cells #[.int .i64 x.dev, .int .i64 x.seq, .int .i64 x.stamp, .int .i64 x.kind, .string x.item, .int .i64 x.qty, .int .i64 x.level, .int .i64 x.undos] 34 (0, 0))) := Lib.hid ((Below.heap_alloc _ _ _ (by simp)).trans (heap_alloc_new w _))
  have HR : Hid (((w.alloc (.cells #[.int .i64 x.dev, .int .i64 x.seq, .int .i64 x.stamp, .int .i64 x.kind, .string x.item, .int .i64 x.qty, .int .i64 x.level, .int .i64 x.undos] 34)).alloc (.cells #[.slice (A 0) (N 0) (C 0), .slice (A 1) (N 1) (C 1), .slice (A 2) (N 2) (C 2), .slice (A 3) (N 3) (C 3)] 115)).heap[w.heap.size + 1]? = some (.cells #[.slice (A 0) (N 0) (C 0), .slice (A 1) (N 1) (C 1), .slice (A 2) (N 2) (C 2), .slice (A 3) (N 3) (C 3)] 115 (0, 0))) := Lib.hid (by
    have e1 : (w.alloc (.cells #[.int .i64 x.dev, .int .i64 x.seq, .int .i64 x.stamp, .int .i64 x.kind, .string x.item, .int .i64 x.qty, .int .i64 x.level, .int .i64 x.undos] 34)).heap.size = w.heap.size + 1 := by simp
    rw [← e1]
    exact heap_alloc_new _ _)
  have HO := Lib.hid (fun e (he : e < 4) => (h e he).below hb0 hB)
  have HB := Lib.hid hb0
  have HN := Lib.hid hn
  clear h hb0 hn
  go_enter Try.func103, Try.ntmps103
  go_wp2_with fail
  generalize (w.alloc (.cells #[.int .i64 x.dev, .int .i64 x.seq, .int .i64 x.stamp, .int .i64 x.kind, .string x.item, .int .i64 x.qty, .int .i64 x.level, .int .i64 x.undos] 34)).alloc (.cells #[.slice (A 0) (N 0) (C 0), .slice (A 1) (N 1) (C 1), .slice (A 2) (N 2) (C 2), .slice (A 3) (N 3) (C 3)] 115) = w0 at HX HR HO HB ⊢
  have hlt1 := (Array.getElem?_eq_some_iff.1 HR.out).1
  have r0 := cell_of_row _ _ 0 _ _ _ HR.out
  have r1 := cell_of_row _ _ 1 _ _ _ HR.out
  have r2 := cell_of_row _ _ 2 _ _ _ HR.out
  have r3 := cell_of_row _ _ 3 _ _ _ HR.out
  simp only [List.getElem?_toArray, List.getElem?_cons_zero, List.getElem?_cons_succ] at r0 r1 r2 r3
  go_wp2
  have ix0 : ∀ (a0 a1 a2 a3 : Option Addr) (w : World), (Instr.index 115 (.agg #[.slice a0 (N 0) (C 0), .slice a1 (N 1) (C 1), .slice a2 (N 2) (C 2), .slice a3 (N 3) (C 3)]) (.int .i64 0)).run Try.prog w = .ok (.slice a0 (N 0) (C 0)) w := fun _ _ _ _ _ => by kernel_rfl
  have ix1 : ∀ (a0 a1 a2 a3 : Option Addr) (w : World), (Instr.index 115 (.agg #[.slice a0 (N 0) (C 0), .slice a1 (N 1) (C 1), .slice a2 (N 2) (C 2), .slice a3 (N 3) (C 3)]) (.int .i64 1)).run Try.prog w = .ok (.slice a1 (N 1) (C 1)) w := fun _ _ _ _ _ => by kernel_rfl
  have ix2 : ∀ (a0 a1 a2 a3 : Option Addr) (w : World), (Instr.index 115 (.agg #[.slice a0 (N 0) (C 0), .slice a1 (N 1) (C 1), .slice a2 (N 2) (C 2), .slice a3 (N 3) (C 3)]) (.int .i64 2)).run Try.prog w = .ok (.slice a2 (N 2) (C 2)) w := fun _ _ _ _ _ => by kernel_rfl
  have ix3 : ∀ (a0 a1 a2 a3 : Option Addr) (w : World), (Instr.index 115 (.agg #[.slice a0 (N 0) (C 0), .slice a1 (N 1) (C 1), .slice a2 (N 2) (C 2), .slice a3 (N 3) (C 3)]) (.int .i64 3)).run Try.prog w = .ok (.slice a3 (N 3) (C 3)) w := fun _ _ _ _ _ => by kernel_rfl
  go_loopw [8] (fun i wr => ∃ k : Nat, k ≤ 4 ∧ i = .int .i64 (k : Int) ∧ Hid (∀ e, e < k → headOk (R e) x = true) ∧ Hid (Below w0.heap.size w0 wr)) (fun i _ => 4 - (intOf i).toNat)
  case atStart => exact ⟨0, by omega, rfl, fun e he => absurd he (by omega), Below.refl _ _⟩
  case round =>
    obtain ⟨k, hk, rfl, HK, HBr⟩ := hrel
    clear r0 r1 r2 r3
    have hsr := HBr.out.size
    have hs0 := HB.out.size
    by_cases hlt : k < 4
    rotate_left
    · obtain rfl : k = 4 := by omega
      have HF := Lib.hid (prec_yes (R := R) (x := x) HK.out)
      go_wp2
      go_ret
      exact ⟨by rw [HF.out]; rfl, HB.out.trans (HBr.out.mono HB.out.size)⟩
    obtain ⟨e0, e1, e2, e3, e4, e5, e6, e7⟩ := op_cells ((HBr.out.block _ (by omega)).trans HX.out)
    obtain rfl | rfl | rfl | rfl : k = 0 ∨ k = 1 ∨ k = 2 ∨ k = 3 := by omega
    · have HOe := Lib.hid (HO.out 0 (by omega))
      have HNe := Lib.hid (HN.out 0 (by omega))
      have HNo := Lib.hid (fun h => prec_no (R := R) (x := x) (e := 0) (by omega) h)
      have hLe : (R 0).length = N 0 := HOe.out.1
      have HLe := Lib.hid hLe
      clear hLe
      have HS1 : Hid (headOk (R 0) x = true → ∀ e, e < 1 → headOk (R e) x = true) := fun h e he => by
        rcases Nat.lt_or_ge e 0 with h1 | h1
        · exact HK.out e h1
        · obtain rfl : e = 0 := by omega
          exact h
      by_cases hz : N 0 = 0
      · have HK2 := Lib.hid (HS1.out (headOk_nil (by rw [HLe.out]; exact hz)))
        have hzi : decide (0 < N 0) = false := decide_eq_false (by omega)
        have hS : wr.drew.cell? ⟨w.heap.size, 0, none⟩ = some (.int .i64 x.dev) ∧ wr.drew.cell? ⟨w.heap.size, 1, none⟩ = some (.int .i64 x.seq) ∧ wr.drew.cell? ⟨w.heap.size, 2, none⟩ = some (.int .i64 x.stamp) ∧ wr.drew.cell? ⟨w.heap.size, 3, none⟩ = some (.int .i64 x.kind) ∧ wr.drew.cell? ⟨w.heap.size, 4, none⟩ = some (.string x.item) ∧ wr.drew.cell? ⟨w.heap.size, 5, none⟩ = some (.int .i64 x.qty) ∧ wr.drew.cell? ⟨w.heap.size, 6, none⟩ = some (.int .i64 x.level) ∧ wr.drew.cell? ⟨w.heap.size, 7, none⟩ = some (.int .i64 x.undos) := ⟨e0, e1, e2, e3, e4, e5, e6, e7⟩
        clear hz
        go_wp2_with fail
        refine wp_region_held_drew (S := fun w' => w'.cell? ⟨w.heap.size, 0, none⟩ = some (.int .i64 x.dev) ∧ w'.cell? ⟨w.heap.size, 1, none⟩ = some (.int .i64 x.seq) ∧ w'.cell? ⟨w.heap.size, 2, none⟩ = some (.int .i64 x.stamp) ∧ w'.cell? ⟨w.heap.size, 3, none⟩ = some (.int .i64 x.kind) ∧ w'.cell? ⟨w.heap.size, 4, none⟩ = some (.string x.item) ∧ w'.cell? ⟨w.heap.size, 5, none⟩ = some (.int .i64 x.qty) ∧ w'.cell? ⟨w.heap.size, 6, none⟩ = some (.int .i64 x.level) ∧ w'.cell? ⟨w.heap.size, 7, none⟩ = some (.int .i64 x.undos)) (by kernel_rfl) hS (fun hHeld => ?_)
        refine wpAnyH_take (i := 0) (oi := { dst := some 11, op := .move (.tmp 6), type := 25, pos := "l08_pages.go:12", after := #[], guard := none }) (v := ?_) rfl (by kernel_rfl) (by kernel_rfl) (by kernel_rfl) (fun _ _ _ h => h) (Or.inl ⟨by rfl, ?_⟩) (by assumption) ?_
        rotate_left
        · intro w hSw
          (try dsimp only at hSw)
          first | (go_simp; done) | (go_simp; with_reducible rfl)
        (try simp only [Act.put, List.setIfInBounds_toArray, List.set_cons_zero, List.set_cons_succ])
        refine wpAnyH_take (i := 1) (oi := { dst := some 12, op := .call { callee := .builtin .len, args := #[.tmp 11], argTypes := #[25] }, type := 3, pos := "l08_pages.go:12", after := #[⟨0, .data⟩], guard := none }) (v := ?_) rfl (by kernel_rfl) (by kernel_rfl) (by kernel_rfl) (fun _ _ _ h => h) (Or.inl ⟨by rfl, ?_⟩) (by assumption) ?_
        rotate_left
        · intro w hSw
          (try dsimp only at hSw)
          first | (go_simp; done) | (go_simp; with_reducible rfl)
        (try simp only [Act.put, List.setIfInBounds_toArray, List.set_cons_zero, List.set_cons_succ])
        refine wpAnyH_take (i := 2) (oi := { dst := some 13, op := .binOp .gtr 3 (.tmp 12) (.const (Value.int IntKind.i64 0)) 3, type := 4, pos := "l08_pages.go:12", after := #[⟨1, .data⟩], guard := none }) (v := ?_) rfl (by kernel_rfl) (by kernel_rfl) (by kernel_rfl) (fun _ _ _ h => h) (Or.inl ⟨by rfl, ?_⟩) (by assumption) ?_
        rotate_left
        · intro w hSw
          (try dsimp only at hSw)
          first | (go_simp; done) | (go_simp; with_reducible rfl)
        (try simp only [Act.put, List.setIfInBounds_toArray, List.set_cons_zero, List.set_cons_succ])
        refine wpAnyH_take (i := 3) (oi := { dst := some 14, op := .move (.tmp 13), type := 4, pos := "l08_pages.go:12", after := #[⟨2, .data⟩], guard := none }) (v := ?_) rfl (by kernel_rfl) (by kernel_rfl) (by kernel_rfl) (fun _ _ _ h => h) (Or.inl ⟨by rfl, ?_⟩) (by assumption) ?_
        rotate_left
        · intro w hSw
          (try dsimp only at hSw)
          first | (go_simp; done) | (go_simp; with_reducible rfl)
        (try simp only [Act.put, List.setIfInBounds_toArray, List.set_cons_zero, List.set_cons_succ])
        refine wpAnyH_take (i := 4) (oi := { dst := some 15, op := .move (.tmp 6), type := 25, pos := "l08_pages.go:12", after := #[⟨3, .guard⟩], guard := some (3, true) }) (v := undef) rfl (by kernel_rfl) (by kernel_rfl) (by kernel_rfl) (fun _ _ _ h => h) (Or.inr ⟨by rfl, rfl⟩) (by assumption) ?_
        (try simp only [Act.put, List.setIfInBounds_toArray, List.set_cons_zero, List.set_cons_succ])
        refine wpAnyH_take (i := 5) (oi := { dst := some 16, op := .indexAddr 25 (.tmp 15) (.const (Value.int IntKind.i64 0)), type := 0, pos := "l08_pages.go:12", after := #[⟨4, .data⟩, ⟨3, .guard⟩], guard := some (3, true) }) (v := undef) rfl (by kernel_rfl) (by kernel_rfl) (by kernel_rfl) (fun _ _ _ h => h) (Or.inr ⟨by rfl, rfl⟩) (by assumption) ?_
        (try simp only [Act.put, List.setIfInBounds_toArray, List.set_cons_zero, List.set_cons_succ])
        refine wpAnyH_take (i := 6) (oi := { dst := some 17, op := .load 34 (.tmp 16), type := 34, pos := "l08_pages.go:12", after := #[⟨5, .data⟩, ⟨3, .guard⟩], guard := some (3, true) }) (v := undef) rfl (by kernel_rfl) (by kernel_rfl) (by kernel_rfl) (fun _ _ _ h => h) (Or.inr ⟨by rfl, rfl⟩) (by assumption) ?_
        (try simp only [Act.put, List.setIfInBounds_toArray, List.set_cons_zero, List.set_cons_succ])
        refine wpAnyH_take (i := 7) (oi := { dst := some 18, op := .load 34 (.tmp 2), type := 34, pos := "l08_pages.go:12", after := #[⟨3, .guard⟩], guard := some (3, true) }) (v := undef) rfl (by kernel_rfl) (by kernel_rfl) (by kernel_rfl) (fun _ _ _ h => h) (Or.inr ⟨by rfl, rfl⟩) (by assumption) ?_
        (try simp only [Act.put, List.setIfInBounds_toArray, List.set_cons_zero, List.set_cons_succ])
        refine wpAnyH_take (i := 8) (oi := { dst := some 19, op := .call { callee := .value (.func 32), args := #[.tmp 17, .tmp 18], argTypes := #[34, 34] }, type := 4, pos := "l08_pages.go:12", after := #[⟨6, .data⟩, ⟨7, .data⟩, ⟨3, .chain⟩, ⟨3, .guard⟩], guard := some (3, true) }) (v := undef) rfl (by kernel_rfl) (by kernel_rfl) (by kernel_rfl) (fun _ _ _ h => h) (Or.inr ⟨by rfl, rfl⟩) (by assumption) ?_
        (try simp only [Act.put, List.setIfInBounds_toArray, List.set_cons_zero, List.set_cons_succ])
        refine wpAnyH_take (i := 9) (oi := { dst := some 20, op := .pick (.tmp 14) (.tmp 19) (.const (Value.bool false)), type := 4, pos := "l08_pages.go:12", after := #[⟨3, .data⟩, ⟨8, .data⟩], guard := none }) (v := ?_) rfl (by kernel_rfl) (by kernel_rfl) (by kernel_rfl) (fun _ _ _ h => h) (Or.inl ⟨by rfl, ?_⟩) (by assumption) ?_
        rotate_left
        · intro w hSw
          (try dsimp only at hSw)
          first | (go_simp; done) | (go_simp; with_reducible rfl)
        (try simp only [Act.put, List.setIfInBounds_toArray, List.set_cons_zero, List.set_cons_succ])
        refine wpAnyH_done (by kernel_rfl) ?_ _
        have HBd : Hid (Below w0.heap.size w0 wr.drew) := ⟨HBr.out.os, HBr.out.tape, HBr.out.output, HBr.out.size, HBr.out.block⟩
        clear hS hHeld e0 e1 e2 e3 e4 e5 e6 e7
        go_wp2
        go_roundw
        case rel => exact ⟨1, by omega, by go_num, HK2, HBd⟩
        case measure => simp [intOf]
      have hzi : 0 < N 0 := by omega
      have hzi2 : (0 : Int) < (N 0 : Int) := by omega
      obtain ⟨b, off, hA, hb, ho⟩ := HOe.out.2 0 hzi
      have HOk : Hid (OpAt w0 b off (atOp (R 0) 0)) := by have := ho; rw [Nat.zero_mul, Nat.add_zero] at this; exact this
      clear ho hz
      have HHd := Lib.hid (headOk_at (L := R 0) (x := x) (by rw [HLe.out]; exact hzi))
      have HBv : Hid (befV (atOp (R 0) 0) x = befB (atOp (R 0) 0).dev (atOp (R 0) 0).seq (atOp (R 0) 0).stamp (atOp (R 0) 0).kind (atOp (R 0) 0).item (atOp (R 0) 0).qty (atOp (R 0) 0).level (atOp (R 0) 0).undos x.dev x.seq x.stamp x.kind x.item x.qty x.level x.undos) := rfl
      generalize atOp (R 0) 0 = y at HOk HHd HBv
      obtain ⟨d0, d1, d2, d3, d4, d5, d6, d7⟩ := HOk.out.kept (HBr.out.block b (by omega))
      have hS : wr.drew.cell? ⟨w.heap.size, 0, none⟩ = some (.int .i64 x.dev) ∧ wr.drew.cell? ⟨w.heap.size, 1, none⟩ = some (.int .i64 x.seq) ∧ wr.drew.cell? ⟨w.heap.size, 2, none⟩ = some (.int .i64 x.stamp) ∧ wr.drew.cell? ⟨w.heap.size, 3, none⟩ = some (.int .i64 x.kind) ∧ wr.drew.cell? ⟨w.heap.size, 4, none⟩ = some (.string x.item) ∧ wr.drew.cell? ⟨w.heap.size, 5, none⟩ = some (.int .i64 x.qty) ∧ wr.drew.cell? ⟨w.heap.size, 6, none⟩ = some (.int .i64 x.level) ∧ wr.drew.cell? ⟨w.heap.size, 7, none⟩ = some (.int .i64 x.undos) ∧ wr.drew.cell? ⟨b, off, none⟩ = some (.int .i64 y.dev) ∧ wr.drew.cell? ⟨b, off + 1, none⟩ = some (.int .i64 y.seq) ∧ wr.drew.cell? ⟨b, off + 2, none⟩ = some (.int .i64 y.stamp) ∧ wr.drew.cell? ⟨b, off + 3, none⟩ = some (.int .i64 y.kind) ∧ wr.drew.cell? ⟨b, off + 4, none⟩ = some (.string y.item) ∧ wr.drew.cell? ⟨b, off + 5, none⟩ = some (.int .i64 y.qty) ∧ wr.drew.cell? ⟨b, off + 6, none⟩ = some (.int .i64 y.level) ∧ wr.drew.cell? ⟨b, off + 7, none⟩ = some (.int .i64 y.undos) := ⟨e0, e1, e2, e3, e4, e5, e6, e7, d0, d1, d2, d3, d4, d5, d6, d7⟩
      go_wp2_with fail
      refine wp_region_held_drew (S := fun w' => w'.cell? ⟨w.heap.size, 0, none⟩ = some (.int .i64 x.dev) ∧ w'.cell? ⟨w.heap.size, 1, none⟩ = some (.int .i64 x.seq) ∧ w'.cell? ⟨w.heap.size, 2, none⟩ = some (.int .i64 x.stamp) ∧ w'.cell? ⟨w.heap.size, 3, none⟩ = some (.int .i64 x.kind) ∧ w'.cell? ⟨w.heap.size, 4, none⟩ = some (.string x.item) ∧ w'.cell? ⟨w.heap.size, 5, none⟩ = some (.int .i64 x.qty) ∧ w'.cell? ⟨w.heap.size, 6, none⟩ = some (.int .i64 x.level) ∧ w'.cell? ⟨w.heap.size, 7, none⟩ = some (.int .i64 x.undos) ∧ w'.cell? ⟨b, off, none⟩ = some (.int .i64 y.dev) ∧ w'.cell? ⟨b, off + 1, none⟩ = some (.int .i64 y.seq) ∧ w'.cell? ⟨b, off + 2, none⟩ = some (.int .i64 y.stamp) ∧ w'.cell? ⟨b, off + 3, none⟩ = some (.int .i64 y.kind) ∧ w'.cell? ⟨b, off + 4, none⟩ = some (.string y.item) ∧ w'.cell? ⟨b, off + 5, none⟩ = some (.int .i64 y.qty) ∧ w'.cell? ⟨b, off + 6, none⟩ = some (.int .i64 y.level) ∧ w'.cell? ⟨b, off + 7, none⟩ = some (.int .i64 y.undos)) (by kernel_rfl) hS (fun hHeld => ?_)
      refine wpAnyH_take (i := 0) (oi := { dst := some 11, op := .move (.tmp 6), type := 25, pos := "l08_pages.go:12", after := #[], guard := none }) (v := ?_) rfl (by kernel_rfl) (by kernel_rfl) (by kernel_rfl) (fun _ _ _ h => h) (Or.inl ⟨by rfl, ?_⟩) (by assumption) ?_
      rotate_left
      · intro w hSw
        (try dsimp only at hSw)
        first | (go_simp; done) | (go_simp; with_reducible rfl)
      (try simp only [Act.put, List.setIfInBounds_toArray, List.set_cons_zero, List.set_cons_succ])
      refine wpAnyH_take (i := 1) (oi := { dst := some 12, op := .call { callee := .builtin .len, args := #[.tmp 11], argTypes := #[25] }, type := 3, pos := "l08_pages.go:12", after := #[⟨0, .data⟩], guard := none }) (v := ?_) rfl (by kernel_rfl) (by kernel_rfl) (by kernel_rfl) (fun _ _ _ h => h) (Or.inl ⟨by rfl, ?_⟩) (by assumption) ?_
      rotate_left
      · intro w hSw
        (try dsimp only at hSw)
        first | (go_simp; done) | (go_simp; with_reducible rfl)
      (try simp only [Act.put, List.setIfInBounds_toArray, List.set_cons_zero, List.set_cons_succ])
      refine wpAnyH_take (i := 2) (oi := { dst := some 13, op := .binOp .gtr 3 (.tmp 12) (.const (Value.int IntKind.i64 0)) 3, type := 4, pos := "l08_pages.go:12", after := #[⟨1, .data⟩], guard := none }) (v := ?_) rfl (by kernel_rfl) (by kernel_rfl) (by kernel_rfl) (fun _ _ _ h => h) (Or.inl ⟨by rfl, ?_⟩) (by assumption) ?_
      rotate_left
      · intro w hSw
        (try dsimp only at hSw)
        first | (go_simp; done) | (go_simp; with_reducible rfl)
      (try simp only [Act.put, List.setIfInBounds_toArray, List.set_cons_zero, List.set_cons_succ])
      refine wpAnyH_take (i := 3) (oi := { dst := some 14, op := .move (.tmp 13), type := 4, pos := "l08_pages.go:12", after := #[⟨2, .data⟩], guard := none }) (v := ?_) rfl (by kernel_rfl) (by kernel_rfl) (by kernel_rfl) (fun _ _ _ h => h) (Or.inl ⟨by rfl, ?_⟩) (by assumption) ?_
      rotate_left
      · intro w hSw
        (try dsimp only at hSw)
        first | (go_simp; done) | (go_simp; with_reducible rfl)
      (try simp only [Act.put, List.setIfInBounds_toArray, List.set_cons_zero, List.set_cons_succ])
      refine wpAnyH_take (i := 4) (oi := { dst := some 15, op := .move (.tmp 6), type := 25, pos := "l08_pages.go:12", after := #[⟨3, .guard⟩], guard := some (3, true) }) (v := ?_) rfl (by kernel_rfl) (by kernel_rfl) (by kernel_rfl) (fun _ _ _ h => h) (Or.inl ⟨by rfl, ?_⟩) (by assumption) ?_
      rotate_left
      · intro w hSw
        (try dsimp only at hSw)
        first | (go_simp; done) | (go_simp; with_reducible rfl)
      (try simp only [Act.put, List.setIfInBounds_toArray, List.set_cons_zero, List.set_cons_succ])
      refine wpAnyH_take (i := 5) (oi := { dst := some 16, op := .indexAddr 25 (.tmp 15) (.const (Value.int IntKind.i64 0)), type := 0, pos := "l08_pages.go:12", after := #[⟨4, .data⟩, ⟨3, .guard⟩], guard := some (3, true) }) (v := ?_) rfl (by kernel_rfl) (by kernel_rfl) (by kernel_rfl) (fun _ _ _ h => h) (Or.inl ⟨by rfl, ?_⟩) (by assumption) ?_
      rotate_left
      · intro w hSw
        (try dsimp only at hSw)
        first | (go_simp; done) | (go_simp; with_reducible rfl)
      (try simp only [Act.put, List.setIfInBounds_toArray, List.set_cons_zero, List.set_cons_succ])
      refine wpAnyH_take (i := 6) (oi := { dst := some 17, op := .load 34 (.tmp 16), type := 34, pos := "l08_pages.go:12", after := #[⟨5, .data⟩, ⟨3, .guard⟩], guard := some (3, true) }) (v := ?_) rfl (by kernel_rfl) (by kernel_rfl) (by kernel_rfl) (fun _ _ _ h => h) (Or.inl ⟨by rfl, ?_⟩) (by assumption) ?_
      rotate_left
      · intro w hSw
        (try dsimp only at hSw)
        first | (go_simp; done) | (go_simp; with_reducible rfl)
      (try simp only [Act.put, List.setIfInBounds_toArray, List.set_cons_zero, List.set_cons_succ])
      refine wpAnyH_take (i := 7) (oi := { dst := some 18, op := .load 34 (.tmp 2), type := 34, pos := "l08_pages.go:12", after := #[⟨3, .guard⟩], guard := some (3, true) }) (v := ?_) rfl (by kernel_rfl) (by kernel_rfl) (by kernel_rfl) (fun _ _ _ h => h) (Or.inl ⟨by rfl, ?_⟩) (by assumption) ?_
      rotate_left
      · intro w hSw
        (try dsimp only at hSw)
        first | (go_simp; done) | (go_simp; with_reducible rfl)
      (try simp only [Act.put, List.setIfInBounds_toArray, List.set_cons_zero, List.set_cons_succ])
      refine wpAnyH_ready (rs := [8]) (by kernel_rfl) (by simp) ?_
      refine AllReadyH.cons (o := { dst := some 19, op := .call { callee := .value (.func 32), args := #[.tmp 17, .tmp 18], argTypes := #[34, 34] }, type := 4, pos := "l08_pages.go:12", after := #[⟨6, .data⟩, ⟨7, .data⟩, ⟨3, .chain⟩, ⟨3, .guard⟩], guard := some (3, true) }) rfl (fun K hK => ?_) AllReadyH.nil
      go_simp
      go_at_call 32
      refine (implBefore y.dev y.seq y.stamp y.kind y.item y.qty y.level y.undos x.dev x.seq x.stamp x.kind x.item x.qty x.level x.undos _).mono ?_
      rintro e z1 ⟨rfl, hbz1⟩
      rw [← HBv.out]
      have hS1 : z1.cell? ⟨w.heap.size, 0, none⟩ = some (.int .i64 x.dev) ∧ z1.cell? ⟨w.heap.size, 1, none⟩ = some (.int .i64 x.seq) ∧ z1.cell? ⟨w.heap.size, 2, none⟩ = some (.int .i64 x.stamp) ∧ z1.cell? ⟨w.heap.size, 3, none⟩ = some (.int .i64 x.kind) ∧ z1.cell? ⟨w.heap.size, 4, none⟩ = some (.string x.item) ∧ z1.cell? ⟨w.heap.size, 5, none⟩ = some (.int .i64 x.qty) ∧ z1.cell? ⟨w.heap.size, 6, none⟩ = some (.int .i64 x.level) ∧ z1.cell? ⟨w.heap.size, 7, none⟩ = some (.int .i64 x.undos) ∧ z1.cell? ⟨b, off, none⟩ = some (.int .i64 y.dev) ∧ z1.cell? ⟨b, off + 1, none⟩ = some (.int .i64 y.seq) ∧ z1.cell? ⟨b, off + 2, none⟩ = some (.int .i64 y.stamp) ∧ z1.cell? ⟨b, off + 3, none⟩ = some (.int .i64 y.kind) ∧ z1.cell? ⟨b, off + 4, none⟩ = some (.string y.item) ∧ z1.cell? ⟨b, off + 5, none⟩ = some (.int .i64 y.qty) ∧ z1.cell? ⟨b, off + 6, none⟩ = some (.int .i64 y.level) ∧ z1.cell? ⟨b, off + 7, none⟩ = some (.int .i64 y.undos) := by
        obtain ⟨q0, q1, q2, q3, q4, q5, q6, q7, q8, q9, q10, q11, q12, q13, q14, q15⟩ := hS
        exact ⟨(hbz1.cell (block_lt_of_cell q0)).trans q0, (hbz1.cell (block_lt_of_cell q1)).trans q1, (hbz1.cell (block_lt_of_cell q2)).trans q2, (hbz1.cell (block_lt_of_cell q3)).trans q3, (hbz1.cell (block_lt_of_cell q4)).trans q4, (hbz1.cell (block_lt_of_cell q5)).trans q5, (hbz1.cell (block_lt_of_cell q6)).trans q6, (hbz1.cell (block_lt_of_cell q7)).trans q7, (hbz1.cell (block_lt_of_cell q8)).trans q8, (hbz1.cell (block_lt_of_cell q9)).trans q9, (hbz1.cell (block_lt_of_cell q10)).trans q10, (hbz1.cell (block_lt_of_cell q11)).trans q11, (hbz1.cell (block_lt_of_cell q12)).trans q12, (hbz1.cell (block_lt_of_cell q13)).trans q13, (hbz1.cell (block_lt_of_cell q14)).trans q14, (hbz1.cell (block_lt_of_cell q15)).trans q15⟩
      refine hK.out _ _ hS1 (fun hHeld2 => ?_)
      clear hK K
      (try simp only [Act.put, List.setIfInBounds_toArray, List.set_cons_zero, List.set_cons_succ])
      refine wpAnyH_take (i := 9) (oi := { dst := some 20, op := .pick (.tmp 14) (.tmp 19) (.const (Value.bool false)), type := 4, pos := "l08_pages.go:12", after := #[⟨3, .data⟩, ⟨8, .data⟩], guard := none }) (v := ?_) rfl (by kernel_rfl) (by kernel_rfl) (by kernel_rfl) (fun _ _ _ h => h) (Or.inl ⟨by rfl, ?_⟩) (by assumption) ?_
      rotate_left
      · intro w hSw
        (try dsimp only at hSw)
        first | (go_simp; done) | (go_simp; with_reducible rfl)
      (try simp only [Act.put, List.setIfInBounds_toArray, List.set_cons_zero, List.set_cons_succ])
      refine wpAnyH_done (by kernel_rfl) ?_ _
      have hc1 : Below wr.heap.size wr z1 := Below.mk hbz1.os hbz1.tape hbz1.output hbz1.size hbz1.block
      have HBz := Lib.hid (HBr.out.trans (hc1.mono HBr.out.size))
      clear hS hS1 hHeld hHeld2 hbz1 hc1 d0 d1 d2 d3 d4 d5 d6 d7 e0 e1 e2 e3 e4 e5 e6 e7
      rcases hbf : befV y x with _ | _
      · have HK2 := Lib.hid (HS1.out (by rw [HHd.out, hbf]; rfl))
        clear hbf
        go_wp2
        simp only [← hA]
        clear hA
        go_roundw
        case rel => exact ⟨1, by omega, by go_num, HK2, HBz⟩
        case measure => simp [intOf]
      · have HF := Lib.hid (HNo.out (by rw [HHd.out, hbf]; rfl))
        clear hbf
        go_wp2
        go_ret
        exact ⟨by rw [HF.out]; rfl, HB.out.trans (HBz.out.mono HB.out.size)⟩
    · have HOe := Lib.hid (HO.out 1 (by omega))
      have HNe := Lib.hid (HN.out 1 (by omega))
      have HNo := Lib.hid (fun h => prec_no (R := R) (x := x) (e := 1) (by omega) h)
      have hLe : (R 1).length = N 1 := HOe.out.1
      have HLe := Lib.hid hLe
      clear hLe
      have HS1 : Hid (headOk (R 1) x = true → ∀ e, e < 2 → headOk (R e) x = true) := fun h e he => by
        rcases Nat.lt_or_ge e 1 with h1 | h1
        · exact HK.out e h1
        · obtain rfl : e = 1 := by omega
          exact h
      by_cases hz : N 1 = 0
      · have HK2 := Lib.hid (HS1.out (headOk_nil (by rw [HLe.out]; exact hz)))
        have hzi : decide (0 < N 1) = false := decide_eq_false (by omega)
        have hS : wr.drew.cell? ⟨w.heap.size, 0, none⟩ = some (.int .i64 x.dev) ∧ wr.drew.cell? ⟨w.heap.size, 1, none⟩ = some (.int .i64 x.seq) ∧ wr.drew.cell? ⟨w.heap.size, 2, none⟩ = some (.int .i64 x.stamp) ∧ wr.drew.cell? ⟨w.heap.size, 3, none⟩ = some (.int .i64 x.kind) ∧ wr.drew.cell? ⟨w.heap.size, 4, none⟩ = some (.string x.item) ∧ wr.drew.cell? ⟨w.heap.size, 5, none⟩ = some (.int .i64 x.qty) ∧ wr.drew.cell? ⟨w.heap.size, 6, none⟩ = some (.int .i64 x.level) ∧ wr.drew.cell? ⟨w.heap.size, 7, none⟩ = some (.int .i64 x.undos) := ⟨e0, e1, e2, e3, e4, e5, e6, e7⟩
        clear hz
        go_wp2_with fail
        refine wp_region_held_drew (S := fun w' => w'.cell? ⟨w.heap.size, 0, none⟩ = some (.int .i64 x.dev) ∧ w'.cell? ⟨w.heap.size, 1, none⟩ = some (.int .i64 x.seq) ∧ w'.cell? ⟨w.heap.size, 2, none⟩ = some (.int .i64 x.stamp) ∧ w'.cell? ⟨w.heap.size, 3, none⟩ = some (.int .i64 x.kind) ∧ w'.cell? ⟨w.heap.size, 4, none⟩ = some (.string x.item) ∧ w'.cell? ⟨w.heap.size, 5, none⟩ = some (.int .i64 x.qty) ∧ w'.cell? ⟨w.heap.size, 6, none⟩ = some (.int .i64 x.level) ∧ w'.cell? ⟨w.heap.size, 7, none⟩ = some (.int .i64 x.undos)) (by kernel_rfl) hS (fun hHeld => ?_)
        refine wpAnyH_take (i := 0) (oi := { dst := some 11, op := .move (.tmp 6), type := 25, pos := "l08_pages.go:12", after := #[], guard := none }) (v := ?_) rfl (by kernel_rfl) (by kernel_rfl) (by kernel_rfl) (fun _ _ _ h => h) (Or.inl ⟨by rfl, ?_⟩) (by assumption) ?_
        rotate_left
        · intro w hSw
          (try dsimp only at hSw)
          first | (go_simp; done) | (go_simp; with_reducible rfl)
        (try simp only [Act.put, List.setIfInBounds_toArray, List.set_cons_zero, List.set_cons_succ])
        refine wpAnyH_take (i := 1) (oi := { dst := some 12, op := .call { callee := .builtin .len, args := #[.tmp 11], argTypes := #[25] }, type := 3, pos := "l08_pages.go:12", after := #[⟨0, .data⟩], guard := none }) (v := ?_) rfl (by kernel_rfl) (by kernel_rfl) (by kernel_rfl) (fun _ _ _ h => h) (Or.inl ⟨by rfl, ?_⟩) (by assumption) ?_
        rotate_left
        · intro w hSw
          (try dsimp only at hSw)
          first | (go_simp; done) | (go_simp; with_reducible rfl)
        (try simp only [Act.put, List.setIfInBounds_toArray, List.set_cons_zero, List.set_cons_succ])
        refine wpAnyH_take (i := 2) (oi := { dst := some 13, op := .binOp .gtr 3 (.tmp 12) (.const (Value.int IntKind.i64 0)) 3, type := 4, pos := "l08_pages.go:12", after := #[⟨1, .data⟩], guard := none }) (v := ?_) rfl (by kernel_rfl) (by kernel_rfl) (by kernel_rfl) (fun _ _ _ h => h) (Or.inl ⟨by rfl, ?_⟩) (by assumption) ?_
        rotate_left
        · intro w hSw
          (try dsimp only at hSw)
          first | (go_simp; done) | (go_simp; with_reducible rfl)
        (try simp only [Act.put, List.setIfInBounds_toArray, List.set_cons_zero, List.set_cons_succ])
        refine wpAnyH_take (i := 3) (oi := { dst := some 14, op := .move (.tmp 13), type := 4, pos := "l08_pages.go:12", after := #[⟨2, .data⟩], guard := none }) (v := ?_) rfl (by kernel_rfl) (by kernel_rfl) (by kernel_rfl) (fun _ _ _ h => h) (Or.inl ⟨by rfl, ?_⟩) (by assumption) ?_
        rotate_left
        · intro w hSw
          (try dsimp only at hSw)
          first | (go_simp; done) | (go_simp; with_reducible rfl)
        (try simp only [Act.put, List.setIfInBounds_toArray, List.set_cons_zero, List.set_cons_succ])
        refine wpAnyH_take (i := 4) (oi := { dst := some 15, op := .move (.tmp 6), type := 25, pos := "l08_pages.go:12", after := #[⟨3, .guard⟩], guard := some (3, true) }) (v := undef) rfl (by kernel_rfl) (by kernel_rfl) (by kernel_rfl) (fun _ _ _ h => h) (Or.inr ⟨by rfl, rfl⟩) (by assumption) ?_
        (try simp only [Act.put, List.setIfInBounds_toArray, List.set_cons_zero, List.set_cons_succ])
        refine wpAnyH_take (i := 5) (oi := { dst := some 16, op := .indexAddr 25 (.tmp 15) (.const (Value.int IntKind.i64 0)), type := 0, pos := "l08_pages.go:12", after := #[⟨4, .data⟩, ⟨3, .guard⟩], guard := some (3, true) }) (v := undef) rfl (by kernel_rfl) (by kernel_rfl) (by kernel_rfl) (fun _ _ _ h => h) (Or.inr ⟨by rfl, rfl⟩) (by assumption) ?_
        (try simp only [Act.put, List.setIfInBounds_toArray, List.set_cons_zero, List.set_cons_succ])
        refine wpAnyH_take (i := 6) (oi := { dst := some 17, op := .load 34 (.tmp 16), type := 34, pos := "l08_pages.go:12", after := #[⟨5, .data⟩, ⟨3, .guard⟩], guard := some (3, true) }) (v := undef) rfl (by kernel_rfl) (by kernel_rfl) (by kernel_rfl) (fun _ _ _ h => h) (Or.inr ⟨by rfl, rfl⟩) (by assumption) ?_
        (try simp only [Act.put, List.setIfInBounds_toArray, List.set_cons_zero, List.set_cons_succ])
        refine wpAnyH_take (i := 7) (oi := { dst := some 18, op := .load 34 (.tmp 2), type := 34, pos := "l08_pages.go:12", after := #[⟨3, .guard⟩], guard := some (3, true) }) (v := undef) rfl (by kernel_rfl) (by kernel_rfl) (by kernel_rfl) (fun _ _ _ h => h) (Or.inr ⟨by rfl, rfl⟩) (by assumption) ?_
        (try simp only [Act.put, List.setIfInBounds_toArray, List.set_cons_zero, List.set_cons_succ])
        refine wpAnyH_take (i := 8) (oi := { dst := some 19, op := .call { callee := .value (.func 32), args := #[.tmp 17, .tmp 18], argTypes := #[34, 34] }, type := 4, pos := "l08_pages.go:12", after := #[⟨6, .data⟩, ⟨7, .data⟩, ⟨3, .chain⟩, ⟨3, .guard⟩], guard := some (3, true) }) (v := undef) rfl (by kernel_rfl) (by kernel_rfl) (by kernel_rfl) (fun _ _ _ h => h) (Or.inr ⟨by rfl, rfl⟩) (by assumption) ?_
        (try simp only [Act.put, List.setIfInBounds_toArray, List.set_cons_zero, List.set_cons_succ])
        refine wpAnyH_take (i := 9) (oi := { dst := some 20, op := .pick (.tmp 14) (.tmp 19) (.const (Value.bool false)), type := 4, pos := "l08_pages.go:12", after := #[⟨3, .data⟩, ⟨8, .data⟩], guard := none }) (v := ?_) rfl (by kernel_rfl) (by kernel_rfl) (by kernel_rfl) (fun _ _ _ h => h) (Or.inl ⟨by rfl, ?_⟩) (by assumption) ?_
        rotate_left
        · intro w hSw
          (try dsimp only at hSw)
          first | (go_simp; done) | (go_simp; with_reducible rfl)
        (try simp only [Act.put, List.setIfInBounds_toArray, List.set_cons_zero, List.set_cons_succ])
        refine wpAnyH_done (by kernel_rfl) ?_ _
        have HBd : Hid (Below w0.heap.size w0 wr.drew) := ⟨HBr.out.os, HBr.out.tape, HBr.out.output, HBr.out.size, HBr.out.block⟩
        clear hS hHeld e0 e1 e2 e3 e4 e5 e6 e7
        go_wp2
        go_roundw
        case rel => exact ⟨2, by omega, by go_num, HK2, HBd⟩
        case measure => simp [intOf]
      have hzi : 0 < N 1 := by omega
      have hzi2 : (0 : Int) < (N 1 : Int) := by omega
      obtain ⟨b, off, hA, hb, ho⟩ := HOe.out.2 0 hzi
      have HOk : Hid (OpAt w0 b off (atOp (R 1) 0)) := by have := ho; rw [Nat.zero_mul, Nat.add_zero] at this; exact this
      clear ho hz
      have HHd := Lib.hid (headOk_at (L := R 1) (x := x) (by rw [HLe.out]; exact hzi))
      have HBv : Hid (befV (atOp (R 1) 0) x = befB (atOp (R 1) 0).dev (atOp (R 1) 0).seq (atOp (R 1) 0).stamp (atOp (R 1) 0).kind (atOp (R 1) 0).item (atOp (R 1) 0).qty (atOp (R 1) 0).level (atOp (R 1) 0).undos x.dev x.seq x.stamp x.kind x.item x.qty x.level x.undos) := rfl
      generalize atOp (R 1) 0 = y at HOk HHd HBv
      obtain ⟨d0, d1, d2, d3, d4, d5, d6, d7⟩ := HOk.out.kept (HBr.out.block b (by omega))
      have hS : wr.drew.cell? ⟨w.heap.size, 0, none⟩ = some (.int .i64 x.dev) ∧ wr.drew.cell? ⟨w.heap.size, 1, none⟩ = some (.int .i64 x.seq) ∧ wr.drew.cell? ⟨w.heap.size, 2, none⟩ = some (.int .i64 x.stamp) ∧ wr.drew.cell? ⟨w.heap.size, 3, none⟩ = some (.int .i64 x.kind) ∧ wr.drew.cell? ⟨w.heap.size, 4, none⟩ = some (.string x.item) ∧ wr.drew.cell? ⟨w.heap.size, 5, none⟩ = some (.int .i64 x.qty) ∧ wr.drew.cell? ⟨w.heap.size, 6, none⟩ = some (.int .i64 x.level) ∧ wr.drew.cell? ⟨w.heap.size, 7, none⟩ = some (.int .i64 x.undos) ∧ wr.drew.cell? ⟨b, off, none⟩ = some (.int .i64 y.dev) ∧ wr.drew.cell? ⟨b, off + 1, none⟩ = some (.int .i64 y.seq) ∧ wr.drew.cell? ⟨b, off + 2, none⟩ = some (.int .i64 y.stamp) ∧ wr.drew.cell? ⟨b, off + 3, none⟩ = some (.int .i64 y.kind) ∧ wr.drew.cell? ⟨b, off + 4, none⟩ = some (.string y.item) ∧ wr.drew.cell? ⟨b, off + 5, none⟩ = some (.int .i64 y.qty) ∧ wr.drew.cell? ⟨b, off + 6, none⟩ = some (.int .i64 y.level) ∧ wr.drew.cell? ⟨b, off + 7, none⟩ = some (.int .i64 y.undos) := ⟨e0, e1, e2, e3, e4, e5, e6, e7, d0, d1, d2, d3, d4, d5, d6, d7⟩
      go_wp2_with fail
      refine wp_region_held_drew (S := fun w' => w'.cell? ⟨w.heap.size, 0, none⟩ = some (.int .i64 x.dev) ∧ w'.cell? ⟨w.heap.size, 1, none⟩ = some (.int .i64 x.seq) ∧ w'.cell? ⟨w.heap.size, 2, none⟩ = some (.int .i64 x.stamp) ∧ w'.cell? ⟨w.heap.size, 3, none⟩ = some (.int .i64 x.kind) ∧ w'.cell? ⟨w.heap.size, 4, none⟩ = some (.string x.item) ∧ w'.cell? ⟨w.heap.size, 5, none⟩ = some (.int .i64 x.qty) ∧ w'.cell? ⟨w.heap.size, 6, none⟩ = some (.int .i64 x.level) ∧ w'.cell? ⟨w.heap.size, 7, none⟩ = some (.int .i64 x.undos) ∧ w'.cell? ⟨b, off, none⟩ = some (.int .i64 y.dev) ∧ w'.cell? ⟨b, off + 1, none⟩ = some (.int .i64 y.seq) ∧ w'.cell? ⟨b, off + 2, none⟩ = some (.int .i64 y.stamp) ∧ w'.cell? ⟨b, off + 3, none⟩ = some (.int .i64 y.kind) ∧ w'.cell? ⟨b, off + 4, none⟩ = some (.string y.item) ∧ w'.cell? ⟨b, off + 5, none⟩ = some (.int .i64 y.qty) ∧ w'.cell? ⟨b, off + 6, none⟩ = some (.int .i64 y.level) ∧ w'.cell? ⟨b, off + 7, none⟩ = some (.int .i64 y.undos)) (by kernel_rfl) hS (fun hHeld => ?_)
      refine wpAnyH_take (i := 0) (oi := { dst := some 11, op := .move (.tmp 6), type := 25, pos := "l08_pages.go:12", after := #[], guard := none }) (v := ?_) rfl (by kernel_rfl) (by kernel_rfl) (by kernel_rfl) (fun _ _ _ h => h) (Or.inl ⟨by rfl, ?_⟩) (by assumption) ?_
      rotate_left
      · intro w hSw
        (try dsimp only at hSw)
        first | (go_simp; done) | (go_simp; with_reducible rfl)
      (try simp only [Act.put, List.setIfInBounds_toArray, List.set_cons_zero, List.set_cons_succ])
      refine wpAnyH_take (i := 1) (oi := { dst := some 12, op := .call { callee := .builtin .len, args := #[.tmp 11], argTypes := #[25] }, type := 3, pos := "l08_pages.go:12", after := #[⟨0, .data⟩], guard := none }) (v := ?_) rfl (by kernel_rfl) (by kernel_rfl) (by kernel_rfl) (fun _ _ _ h => h) (Or.inl ⟨by rfl, ?_⟩) (by assumption) ?_
      rotate_left
      · intro w hSw
        (try dsimp only at hSw)
        first | (go_simp; done) | (go_simp; with_reducible rfl)
      (try simp only [Act.put, List.setIfInBounds_toArray, List.set_cons_zero, List.set_cons_succ])
      refine wpAnyH_take (i := 2) (oi := { dst := some 13, op := .binOp .gtr 3 (.tmp 12) (.const (Value.int IntKind.i64 0)) 3, type := 4, pos := "l08_pages.go:12", after := #[⟨1, .data⟩], guard := none }) (v := ?_) rfl (by kernel_rfl) (by kernel_rfl) (by kernel_rfl) (fun _ _ _ h => h) (Or.inl ⟨by rfl, ?_⟩) (by assumption) ?_
      rotate_left
      · intro w hSw
        (try dsimp only at hSw)
        first | (go_simp; done) | (go_simp; with_reducible rfl)
      (try simp only [Act.put, List.setIfInBounds_toArray, List.set_cons_zero, List.set_cons_succ])
      refine wpAnyH_take (i := 3) (oi := { dst := some 14, op := .move (.tmp 13), type := 4, pos := "l08_pages.go:12", after := #[⟨2, .data⟩], guard := none }) (v := ?_) rfl (by kernel_rfl) (by kernel_rfl) (by kernel_rfl) (fun _ _ _ h => h) (Or.inl ⟨by rfl, ?_⟩) (by assumption) ?_
      rotate_left
      · intro w hSw
        (try dsimp only at hSw)
        first | (go_simp; done) | (go_simp; with_reducible rfl)
      (try simp only [Act.put, List.setIfInBounds_toArray, List.set_cons_zero, List.set_cons_succ])
      refine wpAnyH_take (i := 4) (oi := { dst := some 15, op := .move (.tmp 6), type := 25, pos := "l08_pages.go:12", after := #[⟨3, .guard⟩], guard := some (3, true) }) (v := ?_) rfl (by kernel_rfl) (by kernel_rfl) (by kernel_rfl) (fun _ _ _ h => h) (Or.inl ⟨by rfl, ?_⟩) (by assumption) ?_
      rotate_left
      · intro w hSw
        (try dsimp only at hSw)
        first | (go_simp; done) | (go_simp; with_reducible rfl)
      (try simp only [Act.put, List.setIfInBounds_toArray, List.set_cons_zero, List.set_cons_succ])
      refine wpAnyH_take (i := 5) (oi := { dst := some 16, op := .indexAddr 25 (.tmp 15) (.const (Value.int IntKind.i64 0)), type := 0, pos := "l08_pages.go:12", after := #[⟨4, .data⟩, ⟨3, .guard⟩], guard := some (3, true) }) (v := ?_) rfl (by kernel_rfl) (by kernel_rfl) (by kernel_rfl) (fun _ _ _ h => h) (Or.inl ⟨by rfl, ?_⟩) (by assumption) ?_
      rotate_left
      · intro w hSw
        (try dsimp only at hSw)
        first | (go_simp; done) | (go_simp; with_reducible rfl)
      (try simp only [Act.put, List.setIfInBounds_toArray, List.set_cons_zero, List.set_cons_succ])
      refine wpAnyH_take (i := 6) (oi := { dst := some 17, op := .load 34 (.tmp 16), type := 34, pos := "l08_pages.go:12", after := #[⟨5, .data⟩, ⟨3, .guard⟩], guard := some (3, true) }) (v := ?_) rfl (by kernel_rfl) (by kernel_rfl) (by kernel_rfl) (fun _ _ _ h => h) (Or.inl ⟨by rfl, ?_⟩) (by assumption) ?_
      rotate_left
      · intro w hSw
        (try dsimp only at hSw)
        first | (go_simp; done) | (go_simp; with_reducible rfl)
      (try simp only [Act.put, List.setIfInBounds_toArray, List.set_cons_zero, List.set_cons_succ])
      refine wpAnyH_take (i := 7) (oi := { dst := some 18, op := .load 34 (.tmp 2), type := 34, pos := "l08_pages.go:12", after := #[⟨3, .guard⟩], guard := some (3, true) }) (v := ?_) rfl (by kernel_rfl) (by kernel_rfl) (by kernel_rfl) (fun _ _ _ h => h) (Or.inl ⟨by rfl, ?_⟩) (by assumption) ?_
      rotate_left
      · intro w hSw
        (try dsimp only at hSw)
        first | (go_simp; done) | (go_simp; with_reducible rfl)
      (try simp only [Act.put, List.setIfInBounds_toArray, List.set_cons_zero, List.set_cons_succ])
      refine wpAnyH_ready (rs := [8]) (by kernel_rfl) (by simp) ?_
      refine AllReadyH.cons (o := { dst := some 19, op := .call { callee := .value (.func 32), args := #[.tmp 17, .tmp 18], argTypes := #[34, 34] }, type := 4, pos := "l08_pages.go:12", after := #[⟨6, .data⟩, ⟨7, .data⟩, ⟨3, .chain⟩, ⟨3, .guard⟩], guard := some (3, true) }) rfl (fun K hK => ?_) AllReadyH.nil
      go_simp
      go_at_call 32
      refine (implBefore y.dev y.seq y.stamp y.kind y.item y.qty y.level y.undos x.dev x.seq x.stamp x.kind x.item x.qty x.level x.undos _).mono ?_
      rintro e z1 ⟨rfl, hbz1⟩
      rw [← HBv.out]
      have hS1 : z1.cell? ⟨w.heap.size, 0, none⟩ = some (.int .i64 x.dev) ∧ z1.cell? ⟨w.heap.size, 1, none⟩ = some (.int .i64 x.seq) ∧ z1.cell? ⟨w.heap.size, 2, none⟩ = some (.int .i64 x.stamp) ∧ z1.cell? ⟨w.heap.size, 3, none⟩ = some (.int .i64 x.kind) ∧ z1.cell? ⟨w.heap.size, 4, none⟩ = some (.string x.item) ∧ z1.cell? ⟨w.heap.size, 5, none⟩ = some (.int .i64 x.qty) ∧ z1.cell? ⟨w.heap.size, 6, none⟩ = some (.int .i64 x.level) ∧ z1.cell? ⟨w.heap.size, 7, none⟩ = some (.int .i64 x.undos) ∧ z1.cell? ⟨b, off, none⟩ = some (.int .i64 y.dev) ∧ z1.cell? ⟨b, off + 1, none⟩ = some (.int .i64 y.seq) ∧ z1.cell? ⟨b, off + 2, none⟩ = some (.int .i64 y.stamp) ∧ z1.cell? ⟨b, off + 3, none⟩ = some (.int .i64 y.kind) ∧ z1.cell? ⟨b, off + 4, none⟩ = some (.string y.item) ∧ z1.cell? ⟨b, off + 5, none⟩ = some (.int .i64 y.qty) ∧ z1.cell? ⟨b, off + 6, none⟩ = some (.int .i64 y.level) ∧ z1.cell? ⟨b, off + 7, none⟩ = some (.int .i64 y.undos) := by
        obtain ⟨q0, q1, q2, q3, q4, q5, q6, q7, q8, q9, q10, q11, q12, q13, q14, q15⟩ := hS
        exact ⟨(hbz1.cell (block_lt_of_cell q0)).trans q0, (hbz1.cell (block_lt_of_cell q1)).trans q1, (hbz1.cell (block_lt_of_cell q2)).trans q2, (hbz1.cell (block_lt_of_cell q3)).trans q3, (hbz1.cell (block_lt_of_cell q4)).trans q4, (hbz1.cell (block_lt_of_cell q5)).trans q5, (hbz1.cell (block_lt_of_cell q6)).trans q6, (hbz1.cell (block_lt_of_cell q7)).trans q7, (hbz1.cell (block_lt_of_cell q8)).trans q8, (hbz1.cell (block_lt_of_cell q9)).trans q9, (hbz1.cell (block_lt_of_cell q10)).trans q10, (hbz1.cell (block_lt_of_cell q11)).trans q11, (hbz1.cell (block_lt_of_cell q12)).trans q12, (hbz1.cell (block_lt_of_cell q13)).trans q13, (hbz1.cell (block_lt_of_cell q14)).trans q14, (hbz1.cell (block_lt_of_cell q15)).trans q15⟩
      refine hK.out _ _ hS1 (fun hHeld2 => ?_)
      clear hK K
      (try simp only [Act.put, List.setIfInBounds_toArray, List.set_cons_zero, List.set_cons_succ])
      refine wpAnyH_take (i := 9) (oi := { dst := some 20, op := .pick (.tmp 14) (.tmp 19) (.const (Value.bool false)), type := 4, pos := "l08_pages.go:12", after := #[⟨3, .data⟩, ⟨8, .data⟩], guard := none }) (v := ?_) rfl (by kernel_rfl) (by kernel_rfl) (by kernel_rfl) (fun _ _ _ h => h) (Or.inl ⟨by rfl, ?_⟩) (by assumption) ?_
      rotate_left
      · intro w hSw
        (try dsimp only at hSw)
        first | (go_simp; done) | (go_simp; with_reducible rfl)
      (try simp only [Act.put, List.setIfInBounds_toArray, List.set_cons_zero, List.set_cons_succ])
      refine wpAnyH_done (by kernel_rfl) ?_ _
      have hc1 : Below wr.heap.size wr z1 := Below.mk hbz1.os hbz1.tape hbz1.output hbz1.size hbz1.block
      have HBz := Lib.hid (HBr.out.trans (hc1.mono HBr.out.size))
      clear hS hS1 hHeld hHeld2 hbz1 hc1 d0 d1 d2 d3 d4 d5 d6 d7 e0 e1 e2 e3 e4 e5 e6 e7
      rcases hbf : befV y x with _ | _
      · have HK2 := Lib.hid (HS1.out (by rw [HHd.out, hbf]; rfl))
        clear hbf
        go_wp2
        simp only [← hA]
        clear hA
        go_roundw
        case rel => exact ⟨2, by omega, by go_num, HK2, HBz⟩
        case measure => simp [intOf]
      · have HF := Lib.hid (HNo.out (by rw [HHd.out, hbf]; rfl))
        clear hbf
        go_wp2
        go_ret
        exact ⟨by rw [HF.out]; rfl, HB.out.trans (HBz.out.mono HB.out.size)⟩
    · have HOe := Lib.hid (HO.out 2 (by omega))
      have HNe := Lib.hid (HN.out 2 (by omega))
      have HNo := Lib.hid (fun h => prec_no (R := R) (x := x) (e := 2) (by omega) h)
      have hLe : (R 2).length = N 2 := HOe.out.1
      have HLe := Lib.hid hLe
      clear hLe
      have HS1 : Hid (headOk (R 2) x = true → ∀ e, e < 3 → headOk (R e) x = true) := fun h e he => by
        rcases Nat.lt_or_ge e 2 with h1 | h1
        · exact HK.out e h1
        · obtain rfl : e = 2 := by omega
          exact h
      by_cases hz : N 2 = 0
      · have HK2 := Lib.hid (HS1.out (headOk_nil (by rw [HLe.out]; exact hz)))
        have hzi : decide (0 < N 2) = false := decide_eq_false (by omega)
        have hS : wr.drew.cell? ⟨w.heap.size, 0, none⟩ = some (.int .i64 x.dev) ∧ wr.drew.cell? ⟨w.heap.size, 1, none⟩ = some (.int .i64 x.seq) ∧ wr.drew.cell? ⟨w.heap.size, 2, none⟩ = some (.int .i64 x.stamp) ∧ wr.drew.cell? ⟨w.heap.size, 3, none⟩ = some (.int .i64 x.kind) ∧ wr.drew.cell? ⟨w.heap.size, 4, none⟩ = some (.string x.item) ∧ wr.drew.cell? ⟨w.heap.size, 5, none⟩ = some (.int .i64 x.qty) ∧ wr.drew.cell? ⟨w.heap.size, 6, none⟩ = some (.int .i64 x.level) ∧ wr.drew.cell? ⟨w.heap.size, 7, none⟩ = some (.int .i64 x.undos) := ⟨e0, e1, e2, e3, e4, e5, e6, e7⟩
        clear hz
        go_wp2_with fail
        refine wp_region_held_drew (S := fun w' => w'.cell? ⟨w.heap.size, 0, none⟩ = some (.int .i64 x.dev) ∧ w'.cell? ⟨w.heap.size, 1, none⟩ = some (.int .i64 x.seq) ∧ w'.cell? ⟨w.heap.size, 2, none⟩ = some (.int .i64 x.stamp) ∧ w'.cell? ⟨w.heap.size, 3, none⟩ = some (.int .i64 x.kind) ∧ w'.cell? ⟨w.heap.size, 4, none⟩ = some (.string x.item) ∧ w'.cell? ⟨w.heap.size, 5, none⟩ = some (.int .i64 x.qty) ∧ w'.cell? ⟨w.heap.size, 6, none⟩ = some (.int .i64 x.level) ∧ w'.cell? ⟨w.heap.size, 7, none⟩ = some (.int .i64 x.undos)) (by kernel_rfl) hS (fun hHeld => ?_)
        refine wpAnyH_take (i := 0) (oi := { dst := some 11, op := .move (.tmp 6), type := 25, pos := "l08_pages.go:12", after := #[], guard := none }) (v := ?_) rfl (by kernel_rfl) (by kernel_rfl) (by kernel_rfl) (fun _ _ _ h => h) (Or.inl ⟨by rfl, ?_⟩) (by assumption) ?_
        rotate_left
        · intro w hSw
          (try dsimp only at hSw)
          first | (go_simp; done) | (go_simp; with_reducible rfl)
        (try simp only [Act.put, List.setIfInBounds_toArray, List.set_cons_zero, List.set_cons_succ])
        refine wpAnyH_take (i := 1) (oi := { dst := some 12, op := .call { callee := .builtin .len, args := #[.tmp 11], argTypes := #[25] }, type := 3, pos := "l08_pages.go:12", after := #[⟨0, .data⟩], guard := none }) (v := ?_) rfl (by kernel_rfl) (by kernel_rfl) (by kernel_rfl) (fun _ _ _ h => h) (Or.inl ⟨by rfl, ?_⟩) (by assumption) ?_
        rotate_left
        · intro w hSw
          (try dsimp only at hSw)
          first | (go_simp; done) | (go_simp; with_reducible rfl)
        (try simp only [Act.put, List.setIfInBounds_toArray, List.set_cons_zero, List.set_cons_succ])
        refine wpAnyH_take (i := 2) (oi := { dst := some 13, op := .binOp .gtr 3 (.tmp 12) (.const (Value.int IntKind.i64 0)) 3, type := 4, pos := "l08_pages.go:12", after := #[⟨1, .data⟩], guard := none }) (v := ?_) rfl (by kernel_rfl) (by kernel_rfl) (by kernel_rfl) (fun _ _ _ h => h) (Or.inl ⟨by rfl, ?_⟩) (by assumption) ?_
        rotate_left
        · intro w hSw
          (try dsimp only at hSw)
          first | (go_simp; done) | (go_simp; with_reducible rfl)
        (try simp only [Act.put, List.setIfInBounds_toArray, List.set_cons_zero, List.set_cons_succ])
        refine wpAnyH_take (i := 3) (oi := { dst := some 14, op := .move (.tmp 13), type := 4, pos := "l08_pages.go:12", after := #[⟨2, .data⟩], guard := none }) (v := ?_) rfl (by kernel_rfl) (by kernel_rfl) (by kernel_rfl) (fun _ _ _ h => h) (Or.inl ⟨by rfl, ?_⟩) (by assumption) ?_
        rotate_left
        · intro w hSw
          (try dsimp only at hSw)
          first | (go_simp; done) | (go_simp; with_reducible rfl)
        (try simp only [Act.put, List.setIfInBounds_toArray, List.set_cons_zero, List.set_cons_succ])
        refine wpAnyH_take (i := 4) (oi := { dst := some 15, op := .move (.tmp 6), type := 25, pos := "l08_pages.go:12", after := #[⟨3, .guard⟩], guard := some (3, true) }) (v := undef) rfl (by kernel_rfl) (by kernel_rfl) (by kernel_rfl) (fun _ _ _ h => h) (Or.inr ⟨by rfl, rfl⟩) (by assumption) ?_
        (try simp only [Act.put, List.setIfInBounds_toArray, List.set_cons_zero, List.set_cons_succ])
        refine wpAnyH_take (i := 5) (oi := { dst := some 16, op := .indexAddr 25 (.tmp 15) (.const (Value.int IntKind.i64 0)), type := 0, pos := "l08_pages.go:12", after := #[⟨4, .data⟩, ⟨3, .guard⟩], guard := some (3, true) }) (v := undef) rfl (by kernel_rfl) (by kernel_rfl) (by kernel_rfl) (fun _ _ _ h => h) (Or.inr ⟨by rfl, rfl⟩) (by assumption) ?_
        (try simp only [Act.put, List.setIfInBounds_toArray, List.set_cons_zero, List.set_cons_succ])
        refine wpAnyH_take (i := 6) (oi := { dst := some 17, op := .load 34 (.tmp 16), type := 34, pos := "l08_pages.go:12", after := #[⟨5, .data⟩, ⟨3, .guard⟩], guard := some (3, true) }) (v := undef) rfl (by kernel_rfl) (by kernel_rfl) (by kernel_rfl) (fun _ _ _ h => h) (Or.inr ⟨by rfl, rfl⟩) (by assumption) ?_
        (try simp only [Act.put, List.setIfInBounds_toArray, List.set_cons_zero, List.set_cons_succ])
        refine wpAnyH_take (i := 7) (oi := { dst := some 18, op := .load 34 (.tmp 2), type := 34, pos := "l08_pages.go:12", after := #[⟨3, .guard⟩], guard := some (3, true) }) (v := undef) rfl (by kernel_rfl) (by kernel_rfl) (by kernel_rfl) (fun _ _ _ h => h) (Or.inr ⟨by rfl, rfl⟩) (by assumption) ?_
        (try simp only [Act.put, List.setIfInBounds_toArray, List.set_cons_zero, List.set_cons_succ])
        refine wpAnyH_take (i := 8) (oi := { dst := some 19, op := .call { callee := .value (.func 32), args := #[.tmp 17, .tmp 18], argTypes := #[34, 34] }, type := 4, pos := "l08_pages.go:12", after := #[⟨6, .data⟩, ⟨7, .data⟩, ⟨3, .chain⟩, ⟨3, .guard⟩], guard := some (3, true) }) (v := undef) rfl (by kernel_rfl) (by kernel_rfl) (by kernel_rfl) (fun _ _ _ h => h) (Or.inr ⟨by rfl, rfl⟩) (by assumption) ?_
        (try simp only [Act.put, List.setIfInBounds_toArray, List.set_cons_zero, List.set_cons_succ])
        refine wpAnyH_take (i := 9) (oi := { dst := some 20, op := .pick (.tmp 14) (.tmp 19) (.const (Value.bool false)), type := 4, pos := "l08_pages.go:12", after := #[⟨3, .data⟩, ⟨8, .data⟩], guard := none }) (v := ?_) rfl (by kernel_rfl) (by kernel_rfl) (by kernel_rfl) (fun _ _ _ h => h) (Or.inl ⟨by rfl, ?_⟩) (by assumption) ?_
        rotate_left
        · intro w hSw
          (try dsimp only at hSw)
          first | (go_simp; done) | (go_simp; with_reducible rfl)
        (try simp only [Act.put, List.setIfInBounds_toArray, List.set_cons_zero, List.set_cons_succ])
        refine wpAnyH_done (by kernel_rfl) ?_ _
        have HBd : Hid (Below w0.heap.size w0 wr.drew) := ⟨HBr.out.os, HBr.out.tape, HBr.out.output, HBr.out.size, HBr.out.block⟩
        clear hS hHeld e0 e1 e2 e3 e4 e5 e6 e7
        go_wp2
        go_roundw
        case rel => exact ⟨3, by omega, by go_num, HK2, HBd⟩
        case measure => simp [intOf]
      have hzi : 0 < N 2 := by omega
      have hzi2 : (0 : Int) < (N 2 : Int) := by omega
      obtain ⟨b, off, hA, hb, ho⟩ := HOe.out.2 0 hzi
      have HOk : Hid (OpAt w0 b off (atOp (R 2) 0)) := by have := ho; rw [Nat.zero_mul, Nat.add_zero] at this; exact this
      clear ho hz
      have HHd := Lib.hid (headOk_at (L := R 2) (x := x) (by rw [HLe.out]; exact hzi))
      have HBv : Hid (befV (atOp (R 2) 0) x = befB (atOp (R 2) 0).dev (atOp (R 2) 0).seq (atOp (R 2) 0).stamp (atOp (R 2) 0).kind (atOp (R 2) 0).item (atOp (R 2) 0).qty (atOp (R 2) 0).level (atOp (R 2) 0).undos x.dev x.seq x.stamp x.kind x.item x.qty x.level x.undos) := rfl
      generalize atOp (R 2) 0 = y at HOk HHd HBv
      obtain ⟨d0, d1, d2, d3, d4, d5, d6, d7⟩ := HOk.out.kept (HBr.out.block b (by omega))
      have hS : wr.drew.cell? ⟨w.heap.size, 0, none⟩ = some (.int .i64 x.dev) ∧ wr.drew.cell? ⟨w.heap.size, 1, none⟩ = some (.int .i64 x.seq) ∧ wr.drew.cell? ⟨w.heap.size, 2, none⟩ = some (.int .i64 x.stamp) ∧ wr.drew.cell? ⟨w.heap.size, 3, none⟩ = some (.int .i64 x.kind) ∧ wr.drew.cell? ⟨w.heap.size, 4, none⟩ = some (.string x.item) ∧ wr.drew.cell? ⟨w.heap.size, 5, none⟩ = some (.int .i64 x.qty) ∧ wr.drew.cell? ⟨w.heap.size, 6, none⟩ = some (.int .i64 x.level) ∧ wr.drew.cell? ⟨w.heap.size, 7, none⟩ = some (.int .i64 x.undos) ∧ wr.drew.cell? ⟨b, off, none⟩ = some (.int .i64 y.dev) ∧ wr.drew.cell? ⟨b, off + 1, none⟩ = some (.int .i64 y.seq) ∧ wr.drew.cell? ⟨b, off + 2, none⟩ = some (.int .i64 y.stamp) ∧ wr.drew.cell? ⟨b, off + 3, none⟩ = some (.int .i64 y.kind) ∧ wr.drew.cell? ⟨b, off + 4, none⟩ = some (.string y.item) ∧ wr.drew.cell? ⟨b, off + 5, none⟩ = some (.int .i64 y.qty) ∧ wr.drew.cell? ⟨b, off + 6, none⟩ = some (.int .i64 y.level) ∧ wr.drew.cell? ⟨b, off + 7, none⟩ = some (.int .i64 y.undos) := ⟨e0, e1, e2, e3, e4, e5, e6, e7, d0, d1, d2, d3, d4, d5, d6, d7⟩
      go_wp2_with fail
      refine wp_region_held_drew (S := fun w' => w'.cell? ⟨w.heap.size, 0, none⟩ = some (.int .i64 x.dev) ∧ w'.cell? ⟨w.heap.size, 1, none⟩ = some (.int .i64 x.seq) ∧ w'.cell? ⟨w.heap.size, 2, none⟩ = some (.int .i64 x.stamp) ∧ w'.cell? ⟨w.heap.size, 3, none⟩ = some (.int .i64 x.kind) ∧ w'.cell? ⟨w.heap.size, 4, none⟩ = some (.string x.item) ∧ w'.cell? ⟨w.heap.size, 5, none⟩ = some (.int .i64 x.qty) ∧ w'.cell? ⟨w.heap.size, 6, none⟩ = some (.int .i64 x.level) ∧ w'.cell? ⟨w.heap.size, 7, none⟩ = some (.int .i64 x.undos) ∧ w'.cell? ⟨b, off, none⟩ = some (.int .i64 y.dev) ∧ w'.cell? ⟨b, off + 1, none⟩ = some (.int .i64 y.seq) ∧ w'.cell? ⟨b, off + 2, none⟩ = some (.int .i64 y.stamp) ∧ w'.cell? ⟨b, off + 3, none⟩ = some (.int .i64 y.kind) ∧ w'.cell? ⟨b, off + 4, none⟩ = some (.string y.item) ∧ w'.cell? ⟨b, off + 5, none⟩ = some (.int .i64 y.qty) ∧ w'.cell? ⟨b, off + 6, none⟩ = some (.int .i64 y.level) ∧ w'.cell? ⟨b, off + 7, none⟩ = some (.int .i64 y.undos)) (by kernel_rfl) hS (fun hHeld => ?_)
      refine wpAnyH_take (i := 0) (oi := { dst := some 11, op := .move (.tmp 6), type := 25, pos := "l08_pages.go:12", after := #[], guard := none }) (v := ?_) rfl (by kernel_rfl) (by kernel_rfl) (by kernel_rfl) (fun _ _ _ h => h) (Or.inl ⟨by rfl, ?_⟩) (by assumption) ?_
      rotate_left
      · intro w hSw
        (try dsimp only at hSw)
        first | (go_simp; done) | (go_simp; with_reducible rfl)
      (try simp only [Act.put, List.setIfInBounds_toArray, List.set_cons_zero, List.set_cons_succ])
      refine wpAnyH_take (i := 1) (oi := { dst := some 12, op := .call { callee := .builtin .len, args := #[.tmp 11], argTypes := #[25] }, type := 3, pos := "l08_pages.go:12", after := #[⟨0, .data⟩], guard := none }) (v := ?_) rfl (by kernel_rfl) (by kernel_rfl) (by kernel_rfl) (fun _ _ _ h => h) (Or.inl ⟨by rfl, ?_⟩) (by assumption) ?_
      rotate_left
      · intro w hSw
        (try dsimp only at hSw)
        first | (go_simp; done) | (go_simp; with_reducible rfl)
      (try simp only [Act.put, List.setIfInBounds_toArray, List.set_cons_zero, List.set_cons_succ])
      refine wpAnyH_take (i := 2) (oi := { dst := some 13, op := .binOp .gtr 3 (.tmp 12) (.const (Value.int IntKind.i64 0)) 3, type := 4, pos := "l08_pages.go:12", after := #[⟨1, .data⟩], guard := none }) (v := ?_) rfl (by kernel_rfl) (by kernel_rfl) (by kernel_rfl) (fun _ _ _ h => h) (Or.inl ⟨by rfl, ?_⟩) (by assumption) ?_
      rotate_left
      · intro w hSw
        (try dsimp only at hSw)
        first | (go_simp; done) | (go_simp; with_reducible rfl)
      (try simp only [Act.put, List.setIfInBounds_toArray, List.set_cons_zero, List.set_cons_succ])
      refine wpAnyH_take (i := 3) (oi := { dst := some 14, op := .move (.tmp 13), type := 4, pos := "l08_pages.go:12", after := #[⟨2, .data⟩], guard := none }) (v := ?_) rfl (by kernel_rfl) (by kernel_rfl) (by kernel_rfl) (fun _ _ _ h => h) (Or.inl ⟨by rfl, ?_⟩) (by assumption) ?_
      rotate_left
      · intro w hSw
        (try dsimp only at hSw)
        first | (go_simp; done) | (go_simp; with_reducible rfl)
      (try simp only [Act.put, List.setIfInBounds_toArray, List.set_cons_zero, List.set_cons_succ])
      refine wpAnyH_take (i := 4) (oi := { dst := some 15, op := .move (.tmp 6), type := 25, pos := "l08_pages.go:12", after := #[⟨3, .guard⟩], guard := some (3, true) }) (v := ?_) rfl (by kernel_rfl) (by kernel_rfl) (by kernel_rfl) (fun _ _ _ h => h) (Or.inl ⟨by rfl, ?_⟩) (by assumption) ?_
      rotate_left
      · intro w hSw
        (try dsimp only at hSw)
        first | (go_simp; done) | (go_simp; with_reducible rfl)
      (try simp only [Act.put, List.setIfInBounds_toArray, List.set_cons_zero, List.set_cons_succ])
      refine wpAnyH_take (i := 5) (oi := { dst := some 16, op := .indexAddr 25 (.tmp 15) (.const (Value.int IntKind.i64 0)), type := 0, pos := "l08_pages.go:12", after := #[⟨4, .data⟩, ⟨3, .guard⟩], guard := some (3, true) }) (v := ?_) rfl (by kernel_rfl) (by kernel_rfl) (by kernel_rfl) (fun _ _ _ h => h) (Or.inl ⟨by rfl, ?_⟩) (by assumption) ?_
      rotate_left
      · intro w hSw
        (try dsimp only at hSw)
        first | (go_simp; done) | (go_simp; with_reducible rfl)
      (try simp only [Act.put, List.setIfInBounds_toArray, List.set_cons_zero, List.set_cons_succ])
      refine wpAnyH_take (i := 6) (oi := { dst := some 17, op := .load 34 (.tmp 16), type := 34, pos := "l08_pages.go:12", after := #[⟨5, .data⟩, ⟨3, .guard⟩], guard := some (3, true) }) (v := ?_) rfl (by kernel_rfl) (by kernel_rfl) (by kernel_rfl) (fun _ _ _ h => h) (Or.inl ⟨by rfl, ?_⟩) (by assumption) ?_
      rotate_left
      · intro w hSw
        (try dsimp only at hSw)
        first | (go_simp; done) | (go_simp; with_reducible rfl)
      (try simp only [Act.put, List.setIfInBounds_toArray, List.set_cons_zero, List.set_cons_succ])
      refine wpAnyH_take (i := 7) (oi := { dst := some 18, op := .load 34 (.tmp 2), type := 34, pos := "l08_pages.go:12", after := #[⟨3, .guard⟩], guard := some (3, true) }) (v := ?_) rfl (by kernel_rfl) (by kernel_rfl) (by kernel_rfl) (fun _ _ _ h => h) (Or.inl ⟨by rfl, ?_⟩) (by assumption) ?_
      rotate_left
      · intro w hSw
        (try dsimp only at hSw)
        first | (go_simp; done) | (go_simp; with_reducible rfl)
      (try simp only [Act.put, List.setIfInBounds_toArray, List.set_cons_zero, List.set_cons_succ])
      refine wpAnyH_ready (rs := [8]) (by kernel_rfl) (by simp) ?_
      refine AllReadyH.cons (o := { dst := some 19, op := .call { callee := .value (.func 32), args := #[.tmp 17, .tmp 18], argTypes := #[34, 34] }, type := 4, pos := "l08_pages.go:12", after := #[⟨6, .data⟩, ⟨7, .data⟩, ⟨3, .chain⟩, ⟨3, .guard⟩], guard := some (3, true) }) rfl (fun K hK => ?_) AllReadyH.nil
      go_simp
      go_at_call 32
      refine (implBefore y.dev y.seq y.stamp y.kind y.item y.qty y.level y.undos x.dev x.seq x.stamp x.kind x.item x.qty x.level x.undos _).mono ?_
      rintro e z1 ⟨rfl, hbz1⟩
      rw [← HBv.out]
      have hS1 : z1.cell? ⟨w.heap.size, 0, none⟩ = some (.int .i64 x.dev) ∧ z1.cell? ⟨w.heap.size, 1, none⟩ = some (.int .i64 x.seq) ∧ z1.cell? ⟨w.heap.size, 2, none⟩ = some (.int .i64 x.stamp) ∧ z1.cell? ⟨w.heap.size, 3, none⟩ = some (.int .i64 x.kind) ∧ z1.cell? ⟨w.heap.size, 4, none⟩ = some (.string x.item) ∧ z1.cell? ⟨w.heap.size, 5, none⟩ = some (.int .i64 x.qty) ∧ z1.cell? ⟨w.heap.size, 6, none⟩ = some (.int .i64 x.level) ∧ z1.cell? ⟨w.heap.size, 7, none⟩ = some (.int .i64 x.undos) ∧ z1.cell? ⟨b, off, none⟩ = some (.int .i64 y.dev) ∧ z1.cell? ⟨b, off + 1, none⟩ = some (.int .i64 y.seq) ∧ z1.cell? ⟨b, off + 2, none⟩ = some (.int .i64 y.stamp) ∧ z1.cell? ⟨b, off + 3, none⟩ = some (.int .i64 y.kind) ∧ z1.cell? ⟨b, off + 4, none⟩ = some (.string y.item) ∧ z1.cell? ⟨b, off + 5, none⟩ = some (.int .i64 y.qty) ∧ z1.cell? ⟨b, off + 6, none⟩ = some (.int .i64 y.level) ∧ z1.cell? ⟨b, off + 7, none⟩ = some (.int .i64 y.undos) := by
        obtain ⟨q0, q1, q2, q3, q4, q5, q6, q7, q8, q9, q10, q11, q12, q13, q14, q15⟩ := hS
        exact ⟨(hbz1.cell (block_lt_of_cell q0)).trans q0, (hbz1.cell (block_lt_of_cell q1)).trans q1, (hbz1.cell (block_lt_of_cell q2)).trans q2, (hbz1.cell (block_lt_of_cell q3)).trans q3, (hbz1.cell (block_lt_of_cell q4)).trans q4, (hbz1.cell (block_lt_of_cell q5)).trans q5, (hbz1.cell (block_lt_of_cell q6)).trans q6, (hbz1.cell (block_lt_of_cell q7)).trans q7, (hbz1.cell (block_lt_of_cell q8)).trans q8, (hbz1.cell (block_lt_of_cell q9)).trans q9, (hbz1.cell (block_lt_of_cell q10)).trans q10, (hbz1.cell (block_lt_of_cell q11)).trans q11, (hbz1.cell (block_lt_of_cell q12)).trans q12, (hbz1.cell (block_lt_of_cell q13)).trans q13, (hbz1.cell (block_lt_of_cell q14)).trans q14, (hbz1.cell (block_lt_of_cell q15)).trans q15⟩
      refine hK.out _ _ hS1 (fun hHeld2 => ?_)
      clear hK K
      (try simp only [Act.put, List.setIfInBounds_toArray, List.set_cons_zero, List.set_cons_succ])
      refine wpAnyH_take (i := 9) (oi := { dst := some 20, op := .pick (.tmp 14) (.tmp 19) (.const (Value.bool false)), type := 4, pos := "l08_pages.go:12", after := #[⟨3, .data⟩, ⟨8, .data⟩], guard := none }) (v := ?_) rfl (by kernel_rfl) (by kernel_rfl) (by kernel_rfl) (fun _ _ _ h => h) (Or.inl ⟨by rfl, ?_⟩) (by assumption) ?_
      rotate_left
      · intro w hSw
        (try dsimp only at hSw)
        first | (go_simp; done) | (go_simp; with_reducible rfl)
      (try simp only [Act.put, List.setIfInBounds_toArray, List.set_cons_zero, List.set_cons_succ])
      refine wpAnyH_done (by kernel_rfl) ?_ _
      have hc1 : Below wr.heap.size wr z1 := Below.mk hbz1.os hbz1.tape hbz1.output hbz1.size hbz1.block
      have HBz := Lib.hid (HBr.out.trans (hc1.mono HBr.out.size))
      clear hS hS1 hHeld hHeld2 hbz1 hc1 d0 d1 d2 d3 d4 d5 d6 d7 e0 e1 e2 e3 e4 e5 e6 e7
      rcases hbf : befV y x with _ | _
      · have HK2 := Lib.hid (HS1.out (by rw [HHd.out, hbf]; rfl))
        clear hbf
        go_wp2
        simp only [← hA]
        clear hA
        go_roundw
        case rel => exact ⟨3, by omega, by go_num, HK2, HBz⟩
        case measure => simp [intOf]
      · have HF := Lib.hid (HNo.out (by rw [HHd.out, hbf]; rfl))
        clear hbf
        go_wp2
        go_ret
        exact ⟨by rw [HF.out]; rfl, HB.out.trans (HBz.out.mono HB.out.size)⟩
    · have HOe := Lib.hid (HO.out 3 (by omega))
      have HNe := Lib.hid (HN.out 3 (by omega))
      have HNo := Lib.hid (fun h => prec_no (R := R) (x := x) (e := 3) (by omega) h)
      have hLe : (R 3).length = N 3 := HOe.out.1
      have HLe := Lib.hid hLe
      clear hLe
      have HS1 : Hid (headOk (R 3) x = true → ∀ e, e < 4 → headOk (R e) x = true) := fun h e he => by
        rcases Nat.lt_or_ge e 3 with h1 | h1
        · exact HK.out e h1
        · obtain rfl : e = 3 := by omega
          exact h
      by_cases hz : N 3 = 0
      · have HK2 := Lib.hid (HS1.out (headOk_nil (by rw [HLe.out]; exact hz)))
        have hzi : decide (0 < N 3) = false := decide_eq_false (by omega)
        have hS : wr.drew.cell? ⟨w.heap.size, 0, none⟩ = some (.int .i64 x.dev) ∧ wr.drew.cell? ⟨w.heap.size, 1, none⟩ = some (.int .i64 x.seq) ∧ wr.drew.cell? ⟨w.heap.size, 2, none⟩ = some (.int .i64 x.stamp) ∧ wr.drew.cell? ⟨w.heap.size, 3, none⟩ = some (.int .i64 x.kind) ∧ wr.drew.cell? ⟨w.heap.size, 4, none⟩ = some (.string x.item) ∧ wr.drew.cell? ⟨w.heap.size, 5, none⟩ = some (.int .i64 x.qty) ∧ wr.drew.cell? ⟨w.heap.size, 6, none⟩ = some (.int .i64 x.level) ∧ wr.drew.cell? ⟨w.heap.size, 7, none⟩ = some (.int .i64 x.undos) := ⟨e0, e1, e2, e3, e4, e5, e6, e7⟩
        clear hz
        go_wp2_with fail
        refine wp_region_held_drew (S := fun w' => w'.cell? ⟨w.heap.size, 0, none⟩ = some (.int .i64 x.dev) ∧ w'.cell? ⟨w.heap.size, 1, none⟩ = some (.int .i64 x.seq) ∧ w'.cell? ⟨w.heap.size, 2, none⟩ = some (.int .i64 x.stamp) ∧ w'.cell? ⟨w.heap.size, 3, none⟩ = some (.int .i64 x.kind) ∧ w'.cell? ⟨w.heap.size, 4, none⟩ = some (.string x.item) ∧ w'.cell? ⟨w.heap.size, 5, none⟩ = some (.int .i64 x.qty) ∧ w'.cell? ⟨w.heap.size, 6, none⟩ = some (.int .i64 x.level) ∧ w'.cell? ⟨w.heap.size, 7, none⟩ = some (.int .i64 x.undos)) (by kernel_rfl) hS (fun hHeld => ?_)
        refine wpAnyH_take (i := 0) (oi := { dst := some 11, op := .move (.tmp 6), type := 25, pos := "l08_pages.go:12", after := #[], guard := none }) (v := ?_) rfl (by kernel_rfl) (by kernel_rfl) (by kernel_rfl) (fun _ _ _ h => h) (Or.inl ⟨by rfl, ?_⟩) (by assumption) ?_
        rotate_left
        · intro w hSw
          (try dsimp only at hSw)
          first | (go_simp; done) | (go_simp; with_reducible rfl)
        (try simp only [Act.put, List.setIfInBounds_toArray, List.set_cons_zero, List.set_cons_succ])
        refine wpAnyH_take (i := 1) (oi := { dst := some 12, op := .call { callee := .builtin .len, args := #[.tmp 11], argTypes := #[25] }, type := 3, pos := "l08_pages.go:12", after := #[⟨0, .data⟩], guard := none }) (v := ?_) rfl (by kernel_rfl) (by kernel_rfl) (by kernel_rfl) (fun _ _ _ h => h) (Or.inl ⟨by rfl, ?_⟩) (by assumption) ?_
        rotate_left
        · intro w hSw
          (try dsimp only at hSw)
          first | (go_simp; done) | (go_simp; with_reducible rfl)
        (try simp only [Act.put, List.setIfInBounds_toArray, List.set_cons_zero, List.set_cons_succ])
        refine wpAnyH_take (i := 2) (oi := { dst := some 13, op := .binOp .gtr 3 (.tmp 12) (.const (Value.int IntKind.i64 0)) 3, type := 4, pos := "l08_pages.go:12", after := #[⟨1, .data⟩], guard := none }) (v := ?_) rfl (by kernel_rfl) (by kernel_rfl) (by kernel_rfl) (fun _ _ _ h => h) (Or.inl ⟨by rfl, ?_⟩) (by assumption) ?_
        rotate_left
        · intro w hSw
          (try dsimp only at hSw)
          first | (go_simp; done) | (go_simp; with_reducible rfl)
        (try simp only [Act.put, List.setIfInBounds_toArray, List.set_cons_zero, List.set_cons_succ])
        refine wpAnyH_take (i := 3) (oi := { dst := some 14, op := .move (.tmp 13), type := 4, pos := "l08_pages.go:12", after := #[⟨2, .data⟩], guard := none }) (v := ?_) rfl (by kernel_rfl) (by kernel_rfl) (by kernel_rfl) (fun _ _ _ h => h) (Or.inl ⟨by rfl, ?_⟩) (by assumption) ?_
        rotate_left
        · intro w hSw
          (try dsimp only at hSw)
          first | (go_simp; done) | (go_simp; with_reducible rfl)
        (try simp only [Act.put, List.setIfInBounds_toArray, List.set_cons_zero, List.set_cons_succ])
        refine wpAnyH_take (i := 4) (oi := { dst := some 15, op := .move (.tmp 6), type := 25, pos := "l08_pages.go:12", after := #[⟨3, .guard⟩], guard := some (3, true) }) (v := undef) rfl (by kernel_rfl) (by kernel_rfl) (by kernel_rfl) (fun _ _ _ h => h) (Or.inr ⟨by rfl, rfl⟩) (by assumption) ?_
        (try simp only [Act.put, List.setIfInBounds_toArray, List.set_cons_zero, List.set_cons_succ])
        refine wpAnyH_take (i := 5) (oi := { dst := some 16, op := .indexAddr 25 (.tmp 15) (.const (Value.int IntKind.i64 0)), type := 0, pos := "l08_pages.go:12", after := #[⟨4, .data⟩, ⟨3, .guard⟩], guard := some (3, true) }) (v := undef) rfl (by kernel_rfl) (by kernel_rfl) (by kernel_rfl) (fun _ _ _ h => h) (Or.inr ⟨by rfl, rfl⟩) (by assumption) ?_
        (try simp only [Act.put, List.setIfInBounds_toArray, List.set_cons_zero, List.set_cons_succ])
        refine wpAnyH_take (i := 6) (oi := { dst := some 17, op := .load 34 (.tmp 16), type := 34, pos := "l08_pages.go:12", after := #[⟨5, .data⟩, ⟨3, .guard⟩], guard := some (3, true) }) (v := undef) rfl (by kernel_rfl) (by kernel_rfl) (by kernel_rfl) (fun _ _ _ h => h) (Or.inr ⟨by rfl, rfl⟩) (by assumption) ?_
        (try simp only [Act.put, List.setIfInBounds_toArray, List.set_cons_zero, List.set_cons_succ])
        refine wpAnyH_take (i := 7) (oi := { dst := some 18, op := .load 34 (.tmp 2), type := 34, pos := "l08_pages.go:12", after := #[⟨3, .guard⟩], guard := some (3, true) }) (v := undef) rfl (by kernel_rfl) (by kernel_rfl) (by kernel_rfl) (fun _ _ _ h => h) (Or.inr ⟨by rfl, rfl⟩) (by assumption) ?_
        (try simp only [Act.put, List.setIfInBounds_toArray, List.set_cons_zero, List.set_cons_succ])
        refine wpAnyH_take (i := 8) (oi := { dst := some 19, op := .call { callee := .value (.func 32), args := #[.tmp 17, .tmp 18], argTypes := #[34, 34] }, type := 4, pos := "l08_pages.go:12", after := #[⟨6, .data⟩, ⟨7, .data⟩, ⟨3, .chain⟩, ⟨3, .guard⟩], guard := some (3, true) }) (v := undef) rfl (by kernel_rfl) (by kernel_rfl) (by kernel_rfl) (fun _ _ _ h => h) (Or.inr ⟨by rfl, rfl⟩) (by assumption) ?_
        (try simp only [Act.put, List.setIfInBounds_toArray, List.set_cons_zero, List.set_cons_succ])
        refine wpAnyH_take (i := 9) (oi := { dst := some 20, op := .pick (.tmp 14) (.tmp 19) (.const (Value.bool false)), type := 4, pos := "l08_pages.go:12", after := #[⟨3, .data⟩, ⟨8, .data⟩], guard := none }) (v := ?_) rfl (by kernel_rfl) (by kernel_rfl) (by kernel_rfl) (fun _ _ _ h => h) (Or.inl ⟨by rfl, ?_⟩) (by assumption) ?_
        rotate_left
        · intro w hSw
          (try dsimp only at hSw)
          first | (go_simp; done) | (go_simp; with_reducible rfl)
        (try simp only [Act.put, List.setIfInBounds_toArray, List.set_cons_zero, List.set_cons_succ])
        refine wpAnyH_done (by kernel_rfl) ?_ _
        have HBd : Hid (Below w0.heap.size w0 wr.drew) := ⟨HBr.out.os, HBr.out.tape, HBr.out.output, HBr.out.size, HBr.out.block⟩
        clear hS hHeld e0 e1 e2 e3 e4 e5 e6 e7
        go_wp2
        go_roundw
        case rel => exact ⟨4, by omega, by go_num, HK2, HBd⟩
        case measure => simp [intOf]
      have hzi : 0 < N 3 := by omega
      have hzi2 : (0 : Int) < (N 3 : Int) := by omega
      obtain ⟨b, off, hA, hb, ho⟩ := HOe.out.2 0 hzi
      have HOk : Hid (OpAt w0 b off (atOp (R 3) 0)) := by have := ho; rw [Nat.zero_mul, Nat.add_zero] at this; exact this
      clear ho hz
      have HHd := Lib.hid (headOk_at (L := R 3) (x := x) (by rw [HLe.out]; exact hzi))
      have HBv : Hid (befV (atOp (R 3) 0) x = befB (atOp (R 3) 0).dev (atOp (R 3) 0).seq (atOp (R 3) 0).stamp (atOp (R 3) 0).kind (atOp (R 3) 0).item (atOp (R 3) 0).qty (atOp (R 3) 0).level (atOp (R 3) 0).undos x.dev x.seq x.stamp x.kind x.item x.qty x.level x.undos) := rfl
      generalize atOp (R 3) 0 = y at HOk HHd HBv
      obtain ⟨d0, d1, d2, d3, d4, d5, d6, d7⟩ := HOk.out.kept (HBr.out.block b (by omega))
      have hS : wr.drew.cell? ⟨w.heap.size, 0, none⟩ = some (.int .i64 x.dev) ∧ wr.drew.cell? ⟨w.heap.size, 1, none⟩ = some (.int .i64 x.seq) ∧ wr.drew.cell? ⟨w.heap.size, 2, none⟩ = some (.int .i64 x.stamp) ∧ wr.drew.cell? ⟨w.heap.size, 3, none⟩ = some (.int .i64 x.kind) ∧ wr.drew.cell? ⟨w.heap.size, 4, none⟩ = some (.string x.item) ∧ wr.drew.cell? ⟨w.heap.size, 5, none⟩ = some (.int .i64 x.qty) ∧ wr.drew.cell? ⟨w.heap.size, 6, none⟩ = some (.int .i64 x.level) ∧ wr.drew.cell? ⟨w.heap.size, 7, none⟩ = some (.int .i64 x.undos) ∧ wr.drew.cell? ⟨b, off, none⟩ = some (.int .i64 y.dev) ∧ wr.drew.cell? ⟨b, off + 1, none⟩ = some (.int .i64 y.seq) ∧ wr.drew.cell? ⟨b, off + 2, none⟩ = some (.int .i64 y.stamp) ∧ wr.drew.cell? ⟨b, off + 3, none⟩ = some (.int .i64 y.kind) ∧ wr.drew.cell? ⟨b, off + 4, none⟩ = some (.string y.item) ∧ wr.drew.cell? ⟨b, off + 5, none⟩ = some (.int .i64 y.qty) ∧ wr.drew.cell? ⟨b, off + 6, none⟩ = some (.int .i64 y.level) ∧ wr.drew.cell? ⟨b, off + 7, none⟩ = some (.int .i64 y.undos) := ⟨e0, e1, e2, e3, e4, e5, e6, e7, d0, d1, d2, d3, d4, d5, d6, d7⟩
      go_wp2_with fail
      refine wp_region_held_drew (S := fun w' => w'.cell? ⟨w.heap.size, 0, none⟩ = some (.int .i64 x.dev) ∧ w'.cell? ⟨w.heap.size, 1, none⟩ = some (.int .i64 x.seq) ∧ w'.cell? ⟨w.heap.size, 2, none⟩ = some (.int .i64 x.stamp) ∧ w'.cell? ⟨w.heap.size, 3, none⟩ = some (.int .i64 x.kind) ∧ w'.cell? ⟨w.heap.size, 4, none⟩ = some (.string x.item) ∧ w'.cell? ⟨w.heap.size, 5, none⟩ = some (.int .i64 x.qty) ∧ w'.cell? ⟨w.heap.size, 6, none⟩ = some (.int .i64 x.level) ∧ w'.cell? ⟨w.heap.size, 7, none⟩ = some (.int .i64 x.undos) ∧ w'.cell? ⟨b, off, none⟩ = some (.int .i64 y.dev) ∧ w'.cell? ⟨b, off + 1, none⟩ = some (.int .i64 y.seq) ∧ w'.cell? ⟨b, off + 2, none⟩ = some (.int .i64 y.stamp) ∧ w'.cell? ⟨b, off + 3, none⟩ = some (.int .i64 y.kind) ∧ w'.cell? ⟨b, off + 4, none⟩ = some (.string y.item) ∧ w'.cell? ⟨b, off + 5, none⟩ = some (.int .i64 y.qty) ∧ w'.cell? ⟨b, off + 6, none⟩ = some (.int .i64 y.level) ∧ w'.cell? ⟨b, off + 7, none⟩ = some (.int .i64 y.undos)) (by kernel_rfl) hS (fun hHeld => ?_)
      refine wpAnyH_take (i := 0) (oi := { dst := some 11, op := .move (.tmp 6), type := 25, pos := "l08_pages.go:12", after := #[], guard := none }) (v := ?_) rfl (by kernel_rfl) (by kernel_rfl) (by kernel_rfl) (fun _ _ _ h => h) (Or.inl ⟨by rfl, ?_⟩) (by assumption) ?_
      rotate_left
      · intro w hSw
        (try dsimp only at hSw)
        first | (go_simp; done) | (go_simp; with_reducible rfl)
      (try simp only [Act.put, List.setIfInBounds_toArray, List.set_cons_zero, List.set_cons_succ])
      refine wpAnyH_take (i := 1) (oi := { dst := some 12, op := .call { callee := .builtin .len, args := #[.tmp 11], argTypes := #[25] }, type := 3, pos := "l08_pages.go:12", after := #[⟨0, .data⟩], guard := none }) (v := ?_) rfl (by kernel_rfl) (by kernel_rfl) (by kernel_rfl) (fun _ _ _ h => h) (Or.inl ⟨by rfl, ?_⟩) (by assumption) ?_
      rotate_left
      · intro w hSw
        (try dsimp only at hSw)
        first | (go_simp; done) | (go_simp; with_reducible rfl)
      (try simp only [Act.put, List.setIfInBounds_toArray, List.set_cons_zero, List.set_cons_succ])
      refine wpAnyH_take (i := 2) (oi := { dst := some 13, op := .binOp .gtr 3 (.tmp 12) (.const (Value.int IntKind.i64 0)) 3, type := 4, pos := "l08_pages.go:12", after := #[⟨1, .data⟩], guard := none }) (v := ?_) rfl (by kernel_rfl) (by kernel_rfl) (by kernel_rfl) (fun _ _ _ h => h) (Or.inl ⟨by rfl, ?_⟩) (by assumption) ?_
      rotate_left
      · intro w hSw
        (try dsimp only at hSw)
        first | (go_simp; done) | (go_simp; with_reducible rfl)
      (try simp only [Act.put, List.setIfInBounds_toArray, List.set_cons_zero, List.set_cons_succ])
      refine wpAnyH_take (i := 3) (oi := { dst := some 14, op := .move (.tmp 13), type := 4, pos := "l08_pages.go:12", after := #[⟨2, .data⟩], guard := none }) (v := ?_) rfl (by kernel_rfl) (by kernel_rfl) (by kernel_rfl) (fun _ _ _ h => h) (Or.inl ⟨by rfl, ?_⟩) (by assumption) ?_
      rotate_left
      · intro w hSw
        (try dsimp only at hSw)
        first | (go_simp; done) | (go_simp; with_reducible rfl)
      (try simp only [Act.put, List.setIfInBounds_toArray, List.set_cons_zero, List.set_cons_succ])
      refine wpAnyH_take (i := 4) (oi := { dst := some 15, op := .move (.tmp 6), type := 25, pos := "l08_pages.go:12", after := #[⟨3, .guard⟩], guard := some (3, true) }) (v := ?_) rfl (by kernel_rfl) (by kernel_rfl) (by kernel_rfl) (fun _ _ _ h => h) (Or.inl ⟨by rfl, ?_⟩) (by assumption) ?_
      rotate_left
      · intro w hSw
        (try dsimp only at hSw)
        first | (go_simp; done) | (go_simp; with_reducible rfl)
      (try simp only [Act.put, List.setIfInBounds_toArray, List.set_cons_zero, List.set_cons_succ])
      refine wpAnyH_take (i := 5) (oi := { dst := some 16, op := .indexAddr 25 (.tmp 15) (.const (Value.int IntKind.i64 0)), type := 0, pos := "l08_pages.go:12", after := #[⟨4, .data⟩, ⟨3, .guard⟩], guard := some (3, true) }) (v := ?_) rfl (by kernel_rfl) (by kernel_rfl) (by kernel_rfl) (fun _ _ _ h => h) (Or.inl ⟨by rfl, ?_⟩) (by assumption) ?_
      rotate_left
      · intro w hSw
        (try dsimp only at hSw)
        first | (go_simp; done) | (go_simp; with_reducible rfl)
      (try simp only [Act.put, List.setIfInBounds_toArray, List.set_cons_zero, List.set_cons_succ])
      refine wpAnyH_take (i := 6) (oi := { dst := some 17, op := .load 34 (.tmp 16), type := 34, pos := "l08_pages.go:12", after := #[⟨5, .data⟩, ⟨3, .guard⟩], guard := some (3, true) }) (v := ?_) rfl (by kernel_rfl) (by kernel_rfl) (by kernel_rfl) (fun _ _ _ h => h) (Or.inl ⟨by rfl, ?_⟩) (by assumption) ?_
      rotate_left
      · intro w hSw
        (try dsimp only at hSw)
        first | (go_simp; done) | (go_simp; with_reducible rfl)
      (try simp only [Act.put, List.setIfInBounds_toArray, List.set_cons_zero, List.set_cons_succ])
      refine wpAnyH_take (i := 7) (oi := { dst := some 18, op := .load 34 (.tmp 2), type := 34, pos := "l08_pages.go:12", after := #[⟨3, .guard⟩], guard := some (3, true) }) (v := ?_) rfl (by kernel_rfl) (by kernel_rfl) (by kernel_rfl) (fun _ _ _ h => h) (Or.inl ⟨by rfl, ?_⟩) (by assumption) ?_
      rotate_left
      · intro w hSw
        (try dsimp only at hSw)
        first | (go_simp; done) | (go_simp; with_reducible rfl)
      (try simp only [Act.put, List.setIfInBounds_toArray, List.set_cons_zero, List.set_cons_succ])
      refine wpAnyH_ready (rs := [8]) (by kernel_rfl) (by simp) ?_
      refine AllReadyH.cons (o := { dst := some 19, op := .call { callee := .value (.func 32), args := #[.tmp 17, .tmp 18], argTypes := #[34, 34] }, type := 4, pos := "l08_pages.go:12", after := #[⟨6, .data⟩, ⟨7, .data⟩, ⟨3, .chain⟩, ⟨3, .guard⟩], guard := some (3, true) }) rfl (fun K hK => ?_) AllReadyH.nil
      go_simp
      go_at_call 32
      refine (implBefore y.dev y.seq y.stamp y.kind y.item y.qty y.level y.undos x.dev x.seq x.stamp x.kind x.item x.qty x.level x.undos _).mono ?_
      rintro e z1 ⟨rfl, hbz1⟩
      rw [← HBv.out]
      have hS1 : z1.cell? ⟨w.heap.size, 0, none⟩ = some (.int .i64 x.dev) ∧ z1.cell? ⟨w.heap.size, 1, none⟩ = some (.int .i64 x.seq) ∧ z1.cell? ⟨w.heap.size, 2, none⟩ = some (.int .i64 x.stamp) ∧ z1.cell? ⟨w.heap.size, 3, none⟩ = some (.int .i64 x.kind) ∧ z1.cell? ⟨w.heap.size, 4, none⟩ = some (.string x.item) ∧ z1.cell? ⟨w.heap.size, 5, none⟩ = some (.int .i64 x.qty) ∧ z1.cell? ⟨w.heap.size, 6, none⟩ = some (.int .i64 x.level) ∧ z1.cell? ⟨w.heap.size, 7, none⟩ = some (.int .i64 x.undos) ∧ z1.cell? ⟨b, off, none⟩ = some (.int .i64 y.dev) ∧ z1.cell? ⟨b, off + 1, none⟩ = some (.int .i64 y.seq) ∧ z1.cell? ⟨b, off + 2, none⟩ = some (.int .i64 y.stamp) ∧ z1.cell? ⟨b, off + 3, none⟩ = some (.int .i64 y.kind) ∧ z1.cell? ⟨b, off + 4, none⟩ = some (.string y.item) ∧ z1.cell? ⟨b, off + 5, none⟩ = some (.int .i64 y.qty) ∧ z1.cell? ⟨b, off + 6, none⟩ = some (.int .i64 y.level) ∧ z1.cell? ⟨b, off + 7, none⟩ = some (.int .i64 y.undos) := by
        obtain ⟨q0, q1, q2, q3, q4, q5, q6, q7, q8, q9, q10, q11, q12, q13, q14, q15⟩ := hS
        exact ⟨(hbz1.cell (block_lt_of_cell q0)).trans q0, (hbz1.cell (block_lt_of_cell q1)).trans q1, (hbz1.cell (block_lt_of_cell q2)).trans q2, (hbz1.cell (block_lt_of_cell q3)).trans q3, (hbz1.cell (block_lt_of_cell q4)).trans q4, (hbz1.cell (block_lt_of_cell q5)).trans q5, (hbz1.cell (block_lt_of_cell q6)).trans q6, (hbz1.cell (block_lt_of_cell q7)).trans q7, (hbz1.cell (block_lt_of_cell q8)).trans q8, (hbz1.cell (block_lt_of_cell q9)).trans q9, (hbz1.cell (block_lt_of_cell q10)).trans q10, (hbz1.cell (block_lt_of_cell q11)).trans q11, (hbz1.cell (block_lt_of_cell q12)).trans q12, (hbz1.cell (block_lt_of_cell q13)).trans q13, (hbz1.cell (block_lt_of_cell q14)).trans q14, (hbz1.cell (block_lt_of_cell q15)).trans q15⟩
      refine hK.out _ _ hS1 (fun hHeld2 => ?_)
      clear hK K
      (try simp only [Act.put, List.setIfInBounds_toArray, List.set_cons_zero, List.set_cons_succ])
      refine wpAnyH_take (i := 9) (oi := { dst := some 20, op := .pick (.tmp 14) (.tmp 19) (.const (Value.bool false)), type := 4, pos := "l08_pages.go:12", after := #[⟨3, .data⟩, ⟨8, .data⟩], guard := none }) (v := ?_) rfl (by kernel_rfl) (by kernel_rfl) (by kernel_rfl) (fun _ _ _ h => h) (Or.inl ⟨by rfl, ?_⟩) (by assumption) ?_
      rotate_left
      · intro w hSw
        (try dsimp only at hSw)
        first | (go_simp; done) | (go_simp; with_reducible rfl)
      (try simp only [Act.put, List.setIfInBounds_toArray, List.set_cons_zero, List.set_cons_succ])
      refine wpAnyH_done (by kernel_rfl) ?_ _
      have hc1 : Below wr.heap.size wr z1 := Below.mk hbz1.os hbz1.tape hbz1.output hbz1.size hbz1.block
      have HBz := Lib.hid (HBr.out.trans (hc1.mono HBr.out.size))
      clear hS hS1 hHeld hHeld2 hbz1 hc1 d0 d1 d2 d3 d4 d5 d6 d7 e0 e1 e2 e3 e4 e5 e6 e7
      rcases hbf : befV y x with _ | _
      · have HK2 := Lib.hid (HS1.out (by rw [HHd.out, hbf]; rfl))
        clear hbf
        go_wp2
        simp only [← hA]
        clear hA
        go_roundw
        case rel => exact ⟨4, by omega, by go_num, HK2, HBz⟩
        case measure => simp [intOf]
      · have HF := Lib.hid (HNo.out (by rw [HHd.out, hbf]; rfl))
        clear hbf
        go_wp2
        go_ret
        exact ⟨by rw [HF.out]; rfl, HB.out.trans (HBz.out.mono HB.out.size)⟩
theorem bef_total (a b : OpV) : befO a b = true ∨ befO b a = true ∨ (a.dev = b.dev ∧ a.seq = b.seq) := by rw [bef_iff, bef_iff]; omega
theorem ins_nil (x : OpV) : insO [] x = [x] := rfl
theorem ins_pos {y : OpV} {L : List OpV} {x : OpV} (h : befO y x = true) : insO (y :: L) x = y :: insO L x := by
  have e : cntO (y :: L) x = cntO L x + 1 := by
    unfold cntO
    rw [List.takeWhile_cons_of_pos (by simpa using h)]
    rfl
  unfold insO
  rw [e]
  rfl
theorem ins_neg {y : OpV} {L : List OpV} {x : OpV} (h : befO y x = false) : insO (y :: L) x = x :: y :: L := by
  have e : cntO (y :: L) x = 0 := by
    unfold cntO
    rw [List.takeWhile_cons_of_neg (by simp [h])]
    rfl
  unfold insO
  rw [e]
  rfl
theorem ins_mem (L : List OpV) (x y : OpV) : y ∈ insO L x ↔ y ∈ L ∨ y = x := by
  have e := List.take_append_drop (cntO L x) L
  unfold insO
  constructor
  · intro h
    rcases List.mem_append.1 h with h | h
    · rcases List.mem_append.1 h with h | h
      · exact Or.inl (List.mem_of_mem_take h)
      · exact Or.inr (List.mem_singleton.1 h)
    · exact Or.inl (List.mem_of_mem_drop h)
  · rintro (h | rfl)
    · rw [← e] at h
      rcases List.mem_append.1 h with h | h
      · exact List.mem_append.2 (Or.inl (List.mem_append.2 (Or.inl h)))
      · exact List.mem_append.2 (Or.inr h)
    · exact List.mem_append.2 (Or.inl (List.mem_append.2 (Or.inr (List.mem_singleton.2 rfl))))
theorem ins_sorted : ∀ {L : List OpV} {x : OpV}, SortedO L → (∀ y ∈ L, befO y x = true ∨ befO x y = true) → SortedO (insO L x)
  | [], x, _, _ => by rw [ins_nil]; exact List.pairwise_singleton _ _
  | y :: L, x, h, ht => by
    have hc := List.pairwise_cons.1 h
    rcases hb : befO y x with _ | _
    · rw [ins_neg hb]
      have hxy : befO x y = true := (ht y (List.mem_cons_self)).resolve_left (by rw [hb]; simp)
      refine List.pairwise_cons.2 ⟨fun z hz => ?_, h⟩
      rcases List.mem_cons.1 hz with rfl | hz
      · exact hxy
      · exact bef_trans hxy (hc.1 z hz)
    · rw [ins_pos hb]
      refine List.pairwise_cons.2 ⟨fun z hz => ?_, ins_sorted hc.2 fun z hz => ht z (List.mem_cons_of_mem _ hz)⟩
      rcases (ins_mem L x z).1 hz with hz | rfl
      · exact hc.1 z hz
      · exact hb
theorem sort_mem (l : List OpV) : ∀ k, k ≤ l.length → ∀ y, y ∈ sortTo l k ↔ ∃ j, j < k ∧ atOp l j = y
  | 0, _, y => by
    have : sortTo l 0 = [] := by rw [sortTo, List.take_zero]; rfl
    rw [this]
    simp
  | k + 1, h, y => by
    rw [sort_step (by omega), ins_mem, sort_mem l k (by omega)]
    constructor
    · rintro (⟨j, hj, e⟩ | rfl)
      · exact ⟨j, by omega, e⟩
      · exact ⟨k, by omega, rfl⟩
    · rintro ⟨j, hj, e⟩
      rcases Nat.lt_or_ge j k with h1 | h1
      · exact Or.inl ⟨j, h1, e⟩
      · obtain rfl : j = k := by omega
        exact Or.inr e.symm
theorem sort_sorted {l : List OpV} (h : incB l = true) : ∀ k, k ≤ l.length → SortedO (sortTo l k)
  | 0, _ => by
    have : sortTo l 0 = [] := by rw [sortTo, List.take_zero]; rfl
    rw [this]
    exact List.Pairwise.nil
  | k + 1, hk => by
    rw [sort_step (by omega)]
    refine ins_sorted (sort_sorted h k (by omega)) fun y hy => ?_
    obtain ⟨j, hj, rfl⟩ := (sort_mem l k (by omega) y).1 hy
    rcases bef_total (atOp l j) (atOp l k) with h1 | h1 | h1
    · exact Or.inl h1
    · exact Or.inr h1
    · have := inc_uniq h (i := j) (j := k) (by omega) (by omega) (dev := (atOp l k).dev) (seq := (atOp l k).seq) h1 ⟨rfl, rfl⟩
      omega
theorem run_sorted {l : List OpV} {dev st c : Nat} (h : runB l dev st c = true) : ∀ i j, i < j → j < c → (atOp l (st + i)).stamp < (atOp l (st + j)).stamp := by
  intro i j hij hj
  induction j with
  | zero => omega
  | succ j ih =>
    have hf : fitB l dev st (j + 1) = true := by
      unfold runB at h
      rw [List.all_eq_true] at h
      exact h _ (by simpa using hj)
    unfold fitB at hf
    simp only [Bool.and_eq_true, decide_eq_true_eq] at hf
    rw [prev_step] at hf
    have hl := hf.2.2.2
    rcases Nat.lt_or_ge i j with h1 | h1
    · exact Int.lt_trans (ih h1 (by omega)) hl
    · obtain rfl : i = j := by omega
      exact hl
theorem seg_sorted {xs : List Int} {l : List OpV} {d : Nat} (h : devB xs l d = true) : SortedO (segOf xs l d) := by
  unfold devB at h
  rw [Bool.and_eq_true] at h
  refine List.pairwise_iff_getElem.2 fun i j hi hj hij => ?_
  have hjc : j < (xs.getD d 0).toNat := by unfold segOf at hj; rw [List.length_take] at hj; omega
  have e : ∀ i (hi : i < (segOf xs l d).length), (segOf xs l d)[i] = atOp (segOf xs l d) i := fun i hi => by
    unfold atOp; rw [List.getD_eq_getElem?_getD, List.getElem?_eq_getElem hi]; rfl
  rw [e i hi, e j hj]
  unfold segOf
  rw [at_cut (by omega), at_cut hjc, bef_iff]
  exact Or.inl (run_sorted h.2 i j hij hjc)
theorem Merge.stuck {T : List OpV} {R : Nat → List OpV} (h : Merge T R) (hp : ∀ d, d < 4 → ∀ x rest, R d = x :: rest → precB R x = false) : T = [] := by
  cases T with
  | nil => rfl
  | cons t T' =>
    exfalso
    have hc := List.pairwise_cons.1 h.srt
    obtain ⟨d, hd, htd⟩ := (h.mem t).1 List.mem_cons_self
    have hmin : ∀ e, e < 4 → ∀ y ∈ R e, befO y t = true → False := fun e he y hy hb => by
      rcases List.mem_cons.1 ((h.mem y).2 ⟨e, he, hy⟩) with rfl | h2
      · exact bef_irr hb
      · exact bef_irr (bef_trans hb (hc.1 y h2))
    have htok := h.ok d hd t htd
    cases hRd : R d with
    | nil => rw [hRd] at htd; cases htd
    | cons y r =>
      have hyt : y = t := by
        have htd' := htd
        rw [hRd] at htd'
        rcases List.mem_cons.1 htd' with e | h2
        · exact e.symm
        · have hs := h.run d hd
          rw [hRd] at hs
          exact (hmin d hd y (by rw [hRd]; exact List.mem_cons_self) ((List.pairwise_cons.1 hs).1 t h2)).elim
      subst hyt
      have h1 := hp d hd y r hRd
      have h2 : precB R y = true := prec_yes fun e he => by
        cases hRe : R e with
        | nil => exact headOk_nil rfl
        | cons z r2 =>
          have hz : z ∈ R e := by rw [hRe]; exact List.mem_cons_self
          rw [headOk_at (by simp)]
          have e1 : atOp (z :: r2) 0 = z := rfl
          rw [e1, befV_ok (h.ok e he z hz) htok]
          rcases hb : befO z y with _ | _
          · rfl
          · exact (hmin e he z hz hb).elim
      rw [h1] at h2
      cases h2
theorem Merge.start {xs : List Int} {l : List OpV} (h : cartB xs l = true) : Merge (sortTo l l.length) (fun e => segOf xs l e) := by
  obtain ⟨_, h1, h2⟩ := cart_true h
  refine ⟨sort_sorted (cart_inc h) _ (Nat.le_refl _), fun y => ?_, fun e he => seg_sorted (h1 e he), fun e he y hy => (seg_dev (h1 e he) y hy).2, fun e he y hy => (seg_dev (h1 e he) y hy).1⟩
  have hm : y ∈ sortTo l l.length ↔ y ∈ l := by
    rw [sort_mem l _ (Nat.le_refl _)]
    constructor
    · rintro ⟨j, hj, rfl⟩
      unfold atOp
      rw [List.getD_eq_getElem?_getD, List.getElem?_eq_getElem hj]
      exact List.getElem_mem _
    · intro hy
      obtain ⟨j, hj, e⟩ := List.mem_iff_getElem.1 hy
      exact ⟨j, hj, by unfold atOp; rw [List.getD_eq_getElem?_getD, List.getElem?_eq_getElem hj]; exact e⟩
  rw [hm]
  constructor
  · intro hy
    rw [list_segs (xs := xs) h2] at hy
    rcases List.mem_append.1 hy with h | h
    · exact ⟨0, by omega, h⟩
    rcases List.mem_append.1 h with h | h
    · exact ⟨1, by omega, h⟩
    rcases List.mem_append.1 h with h | h
    · exact ⟨2, by omega, h⟩
    · exact ⟨3, by omega, h⟩
  · rintro ⟨e, he, hy⟩
    exact List.mem_of_mem_drop (List.mem_of_mem_take hy)
def histL (xs : List Int) (l : List OpV) : List OpV := if cartB xs l = true then sortTo l l.length else []
theorem hist_no {xs : List Int} {l : List OpV} (h : cartB xs l = false) : histL xs l = [] := by unfold histL; rw [h]; rfl
theorem hist_yes {xs : List Int} {l : List OpV} (h : cartB xs l = true) : histL xs l = sortTo l l.length := by unfold histL; rw [if_pos h]
theorem hist_len (xs : List Int) (l : List OpV) : (histL xs l).length ≤ l.length := by
  rcases h : cartB xs l with _ | _
  · rw [hist_no h]; exact Nat.zero_le _
  · rw [hist_yes h, sort_len l l.length (Nat.le_refl _)]; exact Nat.le_refl _

theorem scope_jumps {P : Program} {a : Act} {w : World} {Q : Exit → Act → World → Prop} {c rest : Code} (l : Nat) (J : Act → World → Prop) (mu : Act → World → Nat) (hf : findLabel c l = some (.seq .skip rest))
    (pass : ∀ a w, J a w → rest.wp P (Exit.jump l (fun a' w' => J a' w' ∧ mu a' w' < mu a w) Q) a w)
    (first : (∀ a w, J a w → rest.wp P (Exit.jump l J Q) a w) → c.wp P (Exit.jump l J Q) a w) : (Code.scope c).wp P Q a w :=
  wp_scope_jumps l J mu hf (first fun a w h => wp_mono (pass a w h) (fun e a' w' hq => by
    cases e with
    | goto l' => exact ⟨hq.1, hq.2.1⟩
    | normal => exact hq
    | exit i => exact hq
    | ret => exact hq
    | panic c => exact hq
    | outgrown => exact hq)) fun a w h => wp_seq (wp_skip (pass a w h))
theorem merge_named (xs : List Int) (l : List OpV) : Merge (histL xs l) (fun e => namedL xs l (e : Int)) := by
  rcases h : cartB xs l with _ | _
  · rw [hist_no h]
    exact ⟨List.Pairwise.nil, fun y => ⟨fun hy => (by cases hy), fun ⟨e, _, hy⟩ => (by rw [named_no h] at hy; cases hy)⟩, fun e _ => (by rw [named_no h]; exact List.Pairwise.nil), fun e _ y hy => (by rw [named_no h] at hy; cases hy), fun e _ y hy => (by rw [named_no h] at hy; cases hy)⟩
  · rw [hist_yes h]
    exact (Merge.start h).congr fun e he => by rw [named_yes h, named_seg h he]
def lenOf : Value → Nat
  | .slice _ n _ => n
  | _ => 0
theorem own_cap {w : World} {base : Nat} {a : Option Addr} {n c : Nat} {xs : List Value} (h : w.ownsRow base 34 8 (.slice a n c) n xs) : n ≤ c := by
  rcases h.2 with ⟨e, e2⟩ | ⟨g, c', cur, e, _, _, hnc, _⟩
  · omega
  · cases e; exact hnc
end Go.Proofs.Ytmceofdknphgkaa
