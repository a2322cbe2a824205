/- More mathematics that several claims share. -/
import Derived.Test.YtmceofdknphgkaaGa0
import Derived.Test.YtmceofdknphgkaaGa1
import Derived.Test.YtmceofdknphgkaaGa2
import Derived.Test.YtmceofdknphgkaaGa3
import Derived.Test.YtmceofdknphgkaaGa4
import Derived.Test.YtmceofdknphgkaaGa5
import Derived.Test.YtmceofdknphgkaaGa6
import Derived.Test.YtmceofdknphgkaaGa7
import Derived.Test.YtmceofdknphgkaaGa8
import Derived.Test.YtmceofdknphgkaaGa9
import Derived.Test.YtmceofdknphgkaaGa10
import Derived.Test.YtmceofdknphgkaaGa11
import Derived.Test.YtmceofdknphgkaaGa12
import Derived.Test.YtmceofdknphgkaaGa13
import Derived.Test.YtmceofdknphgkaaGa14
import Derived.Test.YtmceofdknphgkaaGa15
import Derived.Test.YtmceofdknphgkaaGa16
import Derived.Test.YtmceofdknphgkaaGa17
import Derived.Test.YtmceofdknphgkaaGa18
import Derived.Test.YtmceofdknphgkaaGa19
import Derived.Test.YtmceofdknphgkaaGa20
import Derived.Test.YtmceofdknphgkaaGa21
import Derived.Test.YtmceofdknphgkaaGa22
import Derived.Test.YtmceofdknphgkaaGa23
import Derived.Test.YtmceofdknphgkaaGa24
import Derived.Test.YtmceofdknphgkaaGa25
import Derived.Test.YtmceofdknphgkaaGa26
import Derived.Test.YtmceofdknphgkaaGa27
import Derived.Test.YtmceofdknphgkaaGa28
import Derived.Test.YtmceofdknphgkaaGa29
import Derived.Test.YtmceofdknphgkaaGa30
import Derived.Test.YtmceofdknphgkaaGa31
import Derived.Test.YtmceofdknphgkaaGa32
import Derived.Test.YtmceofdknphgkaaGa33
import Derived.Test.YtmceofdknphgkaaGa34
import Derived.WalkKit
import Derived.Laws.AppendOwn
import Derived.Shelf.LaysM
import Derived.Shelf.Strconv.Clone
import Derived.WalkLawsBesides
import Derived.Lib.Hide
import Derived.Lib.Strings
import Derived.WalkSpells
import Derived.IntWalk
import Derived.Below
import Derived.Laws.Rows
import Derived.OpenShut
import Derived.Handy
import Derived.Deep.QuietTactic
import Derived.BigQuiet
import Derived.Laws.MakeOwn
import Derived.OwnWalk
import Derived.Deep.Cut
import Derived.Deep.RegionHeld3
import Derived.RegionTactic
import Derived.Maps.AppendAt
import Derived.Laws.Cover3
import Derived.Deep.CutRange
import Derived.Deep.CutBlock
import Derived.Deep.AppendLies
import Derived.Lib.SliceRun
import Derived.Lib.MinMax
import Derived.Laws.BytesArg
import Derived.Laws.EntriesVeiled
import Derived.Laws.OwnMore
import Derived.Deep.Onto
import Derived.Maps.OwnSet
import Derived.DeepKeys4
import Derived.ScopeJumps
import Derived.RangeFuncNested
import Derived.RangeFuncBound
import Derived.RangeFuncCalls
import Derived.RangeFuncLeaves
import Derived.Shelf.Abstract
import Derived.Shelf.RegionOpen
import Derived.OwnWalkIn
import Derived.TacticsInMore
import Derived.LoopNIn
import Derived.LoopIn
import Derived.Laws.Tables
import Derived.Great.BuildSlice
namespace Go.Proofs.Ytmceofdknphgkaa
open Go.RowKit
/-- It is nil; or it leads to a row of 'cap' cells, the numbers 'zs' (the first 'len' are its elements), each fitting its kind. -/
def IsRow (k : IntKind) (w : World) (a : Option Addr) (len cap : Nat) (zs : List Int) : Prop :=
  (a = none ∧ len = 0 ∧ cap = 0 ∧ zs = []) ∨
  ∃ x, a = some x ∧ len ≤ cap ∧ cap ≤ maxLen ∧ zs.length = cap ∧ (∀ i, i < zs.length → w.cell? (x.add i) = some (.int k (zs.getD i 0))) ∧ ∀ n ∈ zs, (Lit.int k n).wf = true
theorem add_plain {x : Addr} {w : World} {v : Value} (h : w.cell? (x.add 0) = some v) : ∃ b off, x = ⟨b, off, none⟩ := by
  obtain ⟨b, off, spot⟩ := x
  have hs := World.cell?_spot h
  have e0 : (⟨b, off, spot⟩ : Addr).add 0 = ⟨b, off, spot⟩ := by simp [Addr.add]
  rw [e0] at hs
  have : spot = none := hs
  subst this
  exact ⟨b, off, rfl⟩
theorem setOp_other {w : World} {b k : Nat} (v0 v1 v2 v3 v4 v5 v6 v7 : Value) (h : k ≠ b) : (setOp w b v0 v1 v2 v3 v4 v5 v6 v7).heap[k]? = w.heap[k]? := by
  unfold setOp
  rw [heap_setCell_other _ _ _ _ h, heap_setCell_other _ _ _ _ h, heap_setCell_other _ _ _ _ h, heap_setCell_other _ _ _ _ h, heap_setCell_other _ _ _ _ h, heap_setCell_other _ _ _ _ h, heap_setCell_other _ _ _ _ h, heap_setCell_other _ _ _ _ h]
theorem src_of_row {w : World} {a : Option Addr} {len cap : Nat} {zs : List Int} (h : IsRow .u8 w a len cap zs) (hl : len ≤ 1048576) : Src w w.heap.size a len := by
  refine ⟨hl, fun i hi => ?_⟩
  rcases h with ⟨_, rfl, _⟩ | ⟨x, rfl, hlc, _, hz, hc, hw⟩
  · omega
  · have hci := hc i (by omega)
    obtain ⟨b, off, rfl⟩ := add_plain (hc 0 (by omega))
    have ea := add_at b off i
    have hb := bounds_u8 (hw (zs.getD i 0) (by rw [List.getD_eq_getElem?_getD, List.getElem?_eq_getElem (by omega)]; simp))
    rw [ea] at hci
    refine ⟨b, off, (zs.getD i 0).toNat, rfl, block_lt_of_cell hci, by omega, ?_⟩
    rw [hci, Int.toNat_of_nonneg hb.1]

theorem bigNo (a : Option Addr) (len cap : Nat) (h : len ≤ 1048576) (w : World) :
    Calls Try.prog 15 #[.slice a len cap] w fun e w' => e = .returned (.bool false) ∧ w = w' := by
  have hd : decide ((1048576 : Int) < (len : Int)) = false := decide_eq_false (by omega)
  go_enter Try.func15, Try.ntmps15
  go_wp2
  go_ret
  exact ⟨rfl, rfl⟩
theorem bigYes (a : Option Addr) (len cap : Nat) (h : ¬ len ≤ 1048576) (w : World) :
    Calls Try.prog 15 #[.slice a len cap] w fun e w' => e = .returned (.bool true) ∧ w = w' := by
  have hd : decide ((1048576 : Int) < (len : Int)) = true := decide_eq_true (by omega)
  go_enter Try.func15, Try.ntmps15
  go_wp2
  go_ret
  exact ⟨rfl, rfl⟩

def cmpI (x y : Int) : Int := if x < y then -1 else if y < x then 1 else 0
theorem cmp_lt {x y : Int} (h : x < y) : cmpI x y = -1 := if_pos h
theorem cmp_gt {x y : Int} (h : y < x) : cmpI x y = 1 := by unfold cmpI; rw [if_neg (by omega), if_pos h]
theorem cmp_eq {x y : Int} (h : x = y) : cmpI x y = 0 := by unfold cmpI; rw [if_neg (by omega), if_neg (by omega)]
theorem isNaN (x : Int) (w : World) : Calls Try.prog 160 #[.int .i64 x] w fun e w' => e = .returned (.bool false) ∧ w = w' := by
  go_enter Try.func160, Try.ntmps160
  go_wp2
  go_ret
  exact ⟨rfl, rfl⟩
theorem compare (x y : Int) (w : World) : Calls Try.prog 106 #[.int .i64 x, .int .i64 y] w fun e w' => e = .returned (.int .i64 (cmpI x y)) ∧ w = w' := by
  rcases Int.lt_trichotomy x y with h | h | h
  · have H := Lib.hid (cmp_lt h)
    go_enter Try.func106, Try.ntmps106
    go_wp2_with fail
    refine (isNaN _ _).mono ?_
    rintro e w' ⟨rfl, rfl⟩
    go_wp2_with fail
    refine (isNaN _ _).mono ?_
    rintro e w' ⟨rfl, rfl⟩
    go_wp2
    go_ret
    exact ⟨by rw [H.out]; rfl, rfl⟩
  · have H := Lib.hid (cmp_eq h)
    subst h
    go_enter Try.func106, Try.ntmps106
    go_wp2_with fail
    refine (isNaN _ _).mono ?_
    rintro e w' ⟨rfl, rfl⟩
    go_wp2_with fail
    refine (isNaN _ _).mono ?_
    rintro e w' ⟨rfl, rfl⟩
    go_wp2
    go_ret
    exact ⟨by rw [H.out]; rfl, rfl⟩
  · have H := Lib.hid (cmp_gt h)
    have h' : ¬ x < y := by omega
    go_enter Try.func106, Try.ntmps106
    go_wp2_with fail
    refine (isNaN _ _).mono ?_
    rintro e w' ⟨rfl, rfl⟩
    go_wp2_with fail
    refine (isNaN _ _).mono ?_
    rintro e w' ⟨rfl, rfl⟩
    go_wp2
    go_ret
    exact ⟨by rw [H.out]; rfl, rfl⟩
set_option maxRecDepth 100000 in
theorem vectorOfYes (w : World) (B : Nat) (a : Option Addr) (cap : Nat) (x0 x1 x2 x3 : Int) (h : Ints w B a 4 [x0, x1, x2, x3]) (hB : B ≤ w.heap.size) (hok : vecOk [x0, x1, x2, x3] = true) :
    Calls Try.prog 135 #[.slice a 4 cap] w fun e w' => e = .returned (.tuple #[.agg #[.int .i64 x0, .int .i64 x1, .int .i64 x2, .int .i64 x3], .bool true]) ∧ Below w.heap.size w w' := by
  obtain ⟨b, off, rfl, hb, hc0⟩ := h.2 0 (by omega)
  obtain ⟨b', off', e, _, hc1⟩ := h.2 1 (by omega)
  cases e
  obtain ⟨b', off', e, _, hc2⟩ := h.2 2 (by omega)
  cases e
  obtain ⟨b', off', e, _, hc3⟩ := h.2 3 (by omega)
  cases e
  have hbw : b < w.heap.size := by omega
  have hA := Lib.hid (h.below (B' := w.heap.size) ((Below.refl _ w).alloc (Nat.le_refl _) (.cells #[.int .i64 0, .int .i64 0, .int .i64 0, .int .i64 0] 142)) hB)
  have HK := Lib.hid hok
  have hat : ∀ w, (Instr.arrayAt 142 (.slice (some ⟨b, off, none⟩) 4 cap)).run Try.prog w = .ok (.pointer (some ⟨b, off, none⟩)) w := fun w => run_arrayAt w 142 _ 4 _ 4 cap Try.underlying142 (Nat.le_refl _)
  simp only [Nat.add_zero, List.getD_cons_zero, List.getD_cons_succ] at hc0 hc1 hc2 hc3
  clear h hok
  go_enter Try.func135, Try.ntmps135
  go_wp2_with fail
  refine (implVecOk _ B _ 4 cap [x0, x1, x2, x3] (by exact hA.out) (by omega)).mono ?_
  rintro e w1 ⟨rfl, rfl⟩
  rw [HK.out]
  go_wp2
  exact bodyPost_ret (v := .tuple #[.agg #[.int .i64 x0, .int .i64 x1, .int .i64 x2, .int .i64 x3], .bool true]) (by simp [results, Try.results135, go_sem]) rfl ⟨rfl, (Below.refl _ _).alloc (Nat.le_refl _) _⟩

set_option maxRecDepth 100000 in
theorem vectorOfNo (w : World) (B : Nat) (a : Option Addr) (len cap : Nat) (xs : List Int) (h : Ints w B a len xs) (hB : B ≤ w.heap.size) (hl : len ≤ 1048576) (hok : vecOk xs = false) :
    Calls Try.prog 135 #[.slice a len cap] w fun e w' => e = .returned (.tuple #[.agg #[.int .i64 0, .int .i64 0, .int .i64 0, .int .i64 0], .bool false]) ∧ Below w.heap.size w w' := by
  have hA := Lib.hid (h.below (B' := w.heap.size) ((Below.refl _ w).alloc (Nat.le_refl _) (.cells #[.int .i64 0, .int .i64 0, .int .i64 0, .int .i64 0] 142)) hB)
  have HK := Lib.hid hok
  clear h hok
  go_enter Try.func135, Try.ntmps135
  go_wp2_with fail
  refine (implVecOk _ B _ len cap xs (by exact hA.out) hl).mono ?_
  rintro e w1 ⟨rfl, rfl⟩
  rw [HK.out]
  go_wp2
  exact bodyPost_ret (v := .tuple #[.agg #[.int .i64 0, .int .i64 0, .int .i64 0, .int .i64 0], .bool false]) (by simp [results, Try.results135, go_sem]) rfl ⟨rfl, (Below.refl _ _).alloc (Nat.le_refl _) _⟩

theorem cells4 {w : World} {g : Nat} {t : TypeId} {y0 y1 y2 y3 : Int} (h : w.heap[g]? = some (.cells (arr4 y0 y1 y2 y3) t (0, 0))) :
    (w.cell? ⟨g, 0, none⟩ = some (.int .i64 y0) ∧ w.cell? ⟨g, 1, none⟩ = some (.int .i64 y1) ∧ w.cell? ⟨g, 2, none⟩ = some (.int .i64 y2) ∧ w.cell? ⟨g, 3, none⟩ = some (.int .i64 y3)) ∧
    (w.frozen? ⟨g, 0, none⟩ = false ∧ w.frozen? ⟨g, 1, none⟩ = false ∧ w.frozen? ⟨g, 2, none⟩ = false ∧ w.frozen? ⟨g, 3, none⟩ = false) :=
  ⟨⟨cell_of_row _ _ _ _ _ _ h, cell_of_row _ _ _ _ _ _ h, cell_of_row _ _ _ _ _ _ h, cell_of_row _ _ _ _ _ _ h⟩, ⟨frozen_of_row _ _ _ _ _ h, frozen_of_row _ _ _ _ _ h, frozen_of_row _ _ _ _ _ h, frozen_of_row _ _ _ _ _ h⟩⟩

theorem set4_same {W : World} {g : Nat} {t : TypeId} {a0 a1 a2 a3 : Int} (x0 x1 x2 x3 : Int) (h : W.heap[g]? = some (.cells (arr4 a0 a1 a2 a3) t (0, 0))) :
    ((((W.setCell ⟨g, 0, none⟩ (.int .i64 x0)).setCell ⟨g, 1, none⟩ (.int .i64 x1)).setCell ⟨g, 2, none⟩ (.int .i64 x2)).setCell ⟨g, 3, none⟩ (.int .i64 x3)).heap[g]? = some (.cells (arr4 x0 x1 x2 x3) t (0, 0)) :=
  heap_setCell_same _ _ _ _ _ _ (heap_setCell_same _ _ _ _ _ _ (heap_setCell_same _ _ _ _ _ _ (heap_setCell_same _ _ _ _ _ _ h)))
theorem set4_other {W : World} {g k : Nat} (x0 x1 x2 x3 : Int) (h : k ≠ g) :
    ((((W.setCell ⟨g, 0, none⟩ (.int .i64 x0)).setCell ⟨g, 1, none⟩ (.int .i64 x1)).setCell ⟨g, 2, none⟩ (.int .i64 x2)).setCell ⟨g, 3, none⟩ (.int .i64 x3)).heap[k]? = W.heap[k]? := by
  rw [heap_setCell_other _ _ _ _ h, heap_setCell_other _ _ _ _ h, heap_setCell_other _ _ _ _ h, heap_setCell_other _ _ _ _ h]
theorem set4_below {B : Nat} {w W : World} {g : Nat} (x0 x1 x2 x3 : Int) (h : Below B w W) (hg : B ≤ g) :
    Below B w ((((W.setCell ⟨g, 0, none⟩ (.int .i64 x0)).setCell ⟨g, 1, none⟩ (.int .i64 x1)).setCell ⟨g, 2, none⟩ (.int .i64 x2)).setCell ⟨g, 3, none⟩ (.int .i64 x3)) :=
  (((h.setCell hg _).setCell hg _).setCell hg _).setCell hg _
theorem vectors_end0 {w W : World} {N : Nat} {t : TypeId} {a0 a1 a2 a3 b0 b1 b2 b3 x0 x1 x2 x3 y0 y1 y2 y3 : Int} (h1 : W.heap[N]? = some (.cells (arr4 a0 a1 a2 a3) t (0, 0))) (h2 : W.heap[N + 1]? = some (.cells (arr4 b0 b1 b2 b3) t (0, 0))) (hb : Below N w W) :
    ((((((((W.setCell ⟨N, 0, none⟩ (.int .i64 x0)).setCell ⟨N, 1, none⟩ (.int .i64 x1)).setCell ⟨N, 2, none⟩ (.int .i64 x2)).setCell ⟨N, 3, none⟩ (.int .i64 x3)).setCell ⟨N + 1, 0, none⟩ (.int .i64 y0)).setCell ⟨N + 1, 1, none⟩ (.int .i64 y1)).setCell ⟨N + 1, 2, none⟩ (.int .i64 y2)).setCell ⟨N + 1, 3, none⟩ (.int .i64 y3)).heap[N]? = some (.cells (arr4 x0 x1 x2 x3) t (0, 0)) ∧
    ((((((((W.setCell ⟨N, 0, none⟩ (.int .i64 x0)).setCell ⟨N, 1, none⟩ (.int .i64 x1)).setCell ⟨N, 2, none⟩ (.int .i64 x2)).setCell ⟨N, 3, none⟩ (.int .i64 x3)).setCell ⟨N + 1, 0, none⟩ (.int .i64 y0)).setCell ⟨N + 1, 1, none⟩ (.int .i64 y1)).setCell ⟨N + 1, 2, none⟩ (.int .i64 y2)).setCell ⟨N + 1, 3, none⟩ (.int .i64 y3)).heap[N + 1]? = some (.cells (arr4 y0 y1 y2 y3) t (0, 0)) ∧
    Below N w ((((((((W.setCell ⟨N, 0, none⟩ (.int .i64 x0)).setCell ⟨N, 1, none⟩ (.int .i64 x1)).setCell ⟨N, 2, none⟩ (.int .i64 x2)).setCell ⟨N, 3, none⟩ (.int .i64 x3)).setCell ⟨N + 1, 0, none⟩ (.int .i64 y0)).setCell ⟨N + 1, 1, none⟩ (.int .i64 y1)).setCell ⟨N + 1, 2, none⟩ (.int .i64 y2)).setCell ⟨N + 1, 3, none⟩ (.int .i64 y3)) := by
  refine ⟨?_, ?_, (set4_below y0 y1 y2 y3 (set4_below x0 x1 x2 x3 hb (Nat.le_refl _)) (by omega))⟩
  · rw [set4_other y0 y1 y2 y3 (by omega), set4_same x0 x1 x2 x3 h1]
  · exact set4_same y0 y1 y2 y3 ((set4_other x0 x1 x2 x3 (by omega)).trans h2)
theorem vectors_end {w W : World} {N : Nat} {t : TypeId} {a0 a1 a2 a3 b0 b1 b2 b3 x0 x1 x2 x3 y0 y1 y2 y3 : Int} (h1 : W.heap[N]? = some (.cells (arr4 a0 a1 a2 a3) t (0, 0))) (h2 : W.heap[N + 1]? = some (.cells (arr4 b0 b1 b2 b3) t (0, 0))) (hb : Below N w W) :
    ((((((((W.setCell ⟨N, 0, none⟩ (.int .i64 x0)).setCell ⟨N, 1, none⟩ (.int .i64 x1)).setCell ⟨N, 2, none⟩ (.int .i64 x2)).setCell ⟨N, 3, none⟩ (.int .i64 x3)).setCell ⟨N + 1, 0, none⟩ (.int .i64 y0)).setCell ⟨N + 1, 1, none⟩ (.int .i64 y1)).setCell ⟨N + 1, 2, none⟩ (.int .i64 y2)).setCell ⟨N + 1, 3, none⟩ (.int .i64 y3)).drew.heap[N]? = some (.cells (arr4 x0 x1 x2 x3) t (0, 0)) ∧
    ((((((((W.setCell ⟨N, 0, none⟩ (.int .i64 x0)).setCell ⟨N, 1, none⟩ (.int .i64 x1)).setCell ⟨N, 2, none⟩ (.int .i64 x2)).setCell ⟨N, 3, none⟩ (.int .i64 x3)).setCell ⟨N + 1, 0, none⟩ (.int .i64 y0)).setCell ⟨N + 1, 1, none⟩ (.int .i64 y1)).setCell ⟨N + 1, 2, none⟩ (.int .i64 y2)).setCell ⟨N + 1, 3, none⟩ (.int .i64 y3)).drew.heap[N + 1]? = some (.cells (arr4 y0 y1 y2 y3) t (0, 0)) ∧
    Below N w ((((((((W.setCell ⟨N, 0, none⟩ (.int .i64 x0)).setCell ⟨N, 1, none⟩ (.int .i64 x1)).setCell ⟨N, 2, none⟩ (.int .i64 x2)).setCell ⟨N, 3, none⟩ (.int .i64 x3)).setCell ⟨N + 1, 0, none⟩ (.int .i64 y0)).setCell ⟨N + 1, 1, none⟩ (.int .i64 y1)).setCell ⟨N + 1, 2, none⟩ (.int .i64 y2)).setCell ⟨N + 1, 3, none⟩ (.int .i64 y3)).drew := by
  refine ⟨?_, ?_, (set4_below y0 y1 y2 y3 (set4_below x0 x1 x2 x3 hb (Nat.le_refl _)) (by omega)).drew⟩
  · rw [heap_drew, set4_other y0 y1 y2 y3 (by omega), set4_same x0 x1 x2 x3 h1]
  · rw [heap_drew]
    exact set4_same y0 y1 y2 y3 ((set4_other x0 x1 x2 x3 (by omega)).trans h2)
theorem vectors_ret {W : World} {N : Nat} {tm : Array Value} {b : Bool} {x0 x1 x2 x3 y0 y1 y2 y3 : Int} (h1 : W.heap[N]? = some (.cells (arr4 x0 x1 x2 x3) 142 (0, 0))) (h2 : W.heap[N + 1]? = some (.cells (arr4 y0 y1 y2 y3) 142 (0, 0)))
    (p4 : tm.getD 4 undef = .pointer (some ⟨N, 0, none⟩)) (p5 : tm.getD 5 undef = .pointer (some ⟨N + 1, 0, none⟩)) (p6 : tm.getD 6 undef = .bool b) :
    (results Try.f140 tm).run Try.prog W = .ok (.tuple #[.agg #[.int .i64 x0, .int .i64 x1, .int .i64 x2, .int .i64 x3], .agg #[.int .i64 y0, .int .i64 y1, .int .i64 y2, .int .i64 y3], .bool b]) W := by
  obtain ⟨⟨c0, c1, c2, c3⟩, _⟩ := cells4 h1
  obtain ⟨⟨d0, d1, d2, d3⟩, _⟩ := cells4 h2
  rw [Array.getD_eq_getD_getElem?] at p4 p5 p6
  simp [results, Try.results140, go_sem, p4, p5, p6, c0, c1, c2, c3, d0, d1, d2, d3]

set_option maxRecDepth 100000 in
set_option maxHeartbeats 400000 in
theorem vectorsOfYes (w : World) (B : Nat) (a a' : Option Addr) (cap cap' : Nat) (x0 x1 x2 x3 y0 y1 y2 y3 : Int) (h : Ints w B a 4 [x0, x1, x2, x3]) (h' : Ints w B a' 4 [y0, y1, y2, y3]) (hB : B ≤ w.heap.size)
    (hok : vecOk [x0, x1, x2, x3] = true) (hok' : vecOk [y0, y1, y2, y3] = true) :
    Calls Try.prog 140 #[.slice a 4 cap, .slice a' 4 cap'] w fun e w' => e = .returned (.tuple #[.agg #[.int .i64 x0, .int .i64 x1, .int .i64 x2, .int .i64 x3], .agg #[.int .i64 y0, .int .i64 y1, .int .i64 y2, .int .i64 y3], .bool true]) ∧ Below w.heap.size w w' := by
  have HI := Lib.hid h
  have HI' := Lib.hid h'
  have hbA : Below w.heap.size w ((w.alloc (.cells (arr4 0 0 0 0) 142)).alloc (.cells (arr4 0 0 0 0) 142)) := ((Below.refl _ w).alloc (Nat.le_refl _) _).alloc (by simp) _
  have HA := Lib.hid (h.below hbA hB)
  have HA' := Lib.hid (h'.below hbA hB)
  have HbA := Lib.hid hbA
  clear h h' hbA
  go_enter Try.func140, Try.ntmps140
  go_wp2_with fail
  refine (vectorOfYes _ B a cap x0 x1 x2 x3 (by exact HA.out) (by simp; omega) hok).mono ?_
  rintro e w1 ⟨rfl, hb1⟩
  have hsz : w.heap.size + 2 ≤ w1.heap.size := by simpa using hb1.size
  have hN1 : w1.heap[w.heap.size]? = some (.cells (arr4 0 0 0 0) 142 (0, 0)) := (hb1.block _ (by simp; omega)).trans (heap_alloc2_old _ _ _)
  have hN2 : w1.heap[w.heap.size + 1]? = some (.cells (arr4 0 0 0 0) 142 (0, 0)) := (hb1.block _ (by simp)).trans (heap_alloc2_new _ _ _)
  have hbB : Below w.heap.size w w1 := HbA.out.trans (hb1.mono (by simp; omega))
  have HA1 := Lib.hid (HI'.out.below hbB hB)
  have HBb := Lib.hid hbB
  have HN1 := Lib.hid hN1
  have HN2 := Lib.hid hN2
  clear hb1 hbB hN1 hN2
  go_wp2_with fail
  refine (vectorOfYes _ B a' cap' y0 y1 y2 y3 (by exact HA1.out.below (B' := w1.heap.size) ((Below.refl _ w1).alloc (Nat.le_refl _) _) (by omega)) (by simp; omega) hok').mono ?_
  rintro e w2 ⟨rfl, hb2⟩
  have hsz2 : w1.heap.size + 1 ≤ w2.heap.size := by simpa using hb2.size
  have hM : w2.heap[w1.heap.size]? = some (.cells (arr4 x0 x1 x2 x3) 142 (0, 0)) := (hb2.block _ (by simp)).trans (heap_alloc_new _ _)
  have hM1 : w2.heap[w.heap.size]? = some (.cells (arr4 0 0 0 0) 142 (0, 0)) := ((hb2.block _ (by simp; omega)).trans (Below.heap_alloc _ _ _ (by omega))).trans HN1.out
  have hM2 : w2.heap[w.heap.size + 1]? = some (.cells (arr4 0 0 0 0) 142 (0, 0)) := ((hb2.block _ (by simp; omega)).trans (Below.heap_alloc _ _ _ (by omega))).trans HN2.out
  have hbC : Below w.heap.size w w2 := (HBb.out.alloc (by omega) _).trans (hb2.mono (by simp; omega))
  have HM := Lib.hid hM
  have HM1 := Lib.hid hM1
  have HM2 := Lib.hid hM2
  have HC := Lib.hid hbC
  clear hb2 hM hM1 hM2 hbC
  go_wp2_with fail
  generalize hW3 : w2.alloc _ = W3
  obtain ⟨⟨c0, c1, c2, c3⟩, _⟩ := cells4 (w := W3) (g := w1.heap.size) (by rw [← hW3, Below.heap_alloc _ _ _ (by omega)]; exact HM.out)
  obtain ⟨⟨d0, d1, d2, d3⟩, ⟨f0, f1, f2, f3⟩⟩ := cells4 (w := W3) (g := w.heap.size) (by rw [← hW3, Below.heap_alloc _ _ _ (by omega)]; exact HM1.out)
  obtain ⟨⟨e0, e1, e2, e3⟩, ⟨g0, g1, g2, g3⟩⟩ := cells4 (w := W3) (g := w.heap.size + 1) (by rw [← hW3, Below.heap_alloc _ _ _ (by omega)]; exact HM2.out)
  obtain ⟨⟨k0, k1, k2, k3⟩, _⟩ := cells4 (w := W3) (g := w2.heap.size) (by rw [← hW3]; exact heap_alloc_new _ _)
  have HE1 : Hid (W3.heap[w.heap.size]? = some (.cells (arr4 0 0 0 0) 142 (0, 0))) := by rw [← hW3, Below.heap_alloc _ _ _ (by omega)]; exact HM1.out
  have HE2 : Hid (W3.heap[w.heap.size + 1]? = some (.cells (arr4 0 0 0 0) 142 (0, 0))) := by rw [← hW3, Below.heap_alloc _ _ _ (by omega)]; exact HM2.out
  have HD : Hid (Below w.heap.size w W3) := by rw [← hW3]; exact HC.out.alloc (by omega) _
  clear hW3
  go_region
  go_wp2
  obtain ⟨r1, r2, r3⟩ := vectors_end (x0 := x0) (x1 := x1) (x2 := x2) (x3 := x3) (y0 := y0) (y1 := y1) (y2 := y2) (y3 := y3) HE1.out HE2.out HD.out
  generalize World.drew _ = W4 at r1 r2 r3 ⊢
  exact bodyPost_ret (vectors_ret r1 r2 rfl rfl rfl) rfl ⟨rfl, r3⟩
def VecPost (ok : Bool) (w : World) (e : Ending) (w' : World) : Prop :=
  ∃ a0 a1 a2 a3 : Int, e = .returned (.tuple #[.agg #[.int .i64 a0, .int .i64 a1, .int .i64 a2, .int .i64 a3], .bool ok]) ∧ Below w.heap.size w w'
theorem vectorOfAny (w : World) (B : Nat) (a : Option Addr) (len cap : Nat) (xs : List Int) (h : Ints w B a len xs) (hB : B ≤ w.heap.size) (hl : len ≤ 1048576) (ok : Bool) (hok : vecOk xs = ok) :
    Calls Try.prog 135 #[.slice a len cap] w (VecPost ok w) := by
  cases ok
  · refine (vectorOfNo w B a len cap xs h hB hl hok).mono ?_
    rintro e w' ⟨rfl, hb⟩
    exact ⟨0, 0, 0, 0, rfl, hb⟩
  · obtain ⟨x0, x1, x2, x3, rfl⟩ := four hok
    obtain rfl : len = 4 := h.1.symm
    refine (vectorOfYes w B a cap x0 x1 x2 x3 h hB hok).mono ?_
    rintro e w' ⟨rfl, hb⟩
    exact ⟨x0, x1, x2, x3, rfl, hb⟩

set_option maxRecDepth 100000 in
set_option maxHeartbeats 400000 in
theorem vectorsOfNo (w : World) (B : Nat) (a a' : Option Addr) (len cap len' cap' : Nat) (xs ys : List Int) (h : Ints w B a len xs) (h' : Ints w B a' len' ys) (hB : B ≤ w.heap.size) (hl : len ≤ 1048576) (hl' : len' ≤ 1048576)
    (ok ok' : Bool) (hok : vecOk xs = ok) (hok' : vecOk ys = ok') (hno : (ok && ok') = false) :
    Calls Try.prog 140 #[.slice a len cap, .slice a' len' cap'] w fun e w' => e = .returned (.tuple #[.agg #[.int .i64 0, .int .i64 0, .int .i64 0, .int .i64 0], .agg #[.int .i64 0, .int .i64 0, .int .i64 0, .int .i64 0], .bool false]) ∧ Below w.heap.size w w' := by
  have HI := Lib.hid h
  have HI' := Lib.hid h'
  have hbA : Below w.heap.size w ((w.alloc (.cells (arr4 0 0 0 0) 142)).alloc (.cells (arr4 0 0 0 0) 142)) := ((Below.refl _ w).alloc (Nat.le_refl _) _).alloc (by simp) _
  have HA := Lib.hid (h.below hbA hB)
  have HbA := Lib.hid hbA
  have HK := Lib.hid hok
  have HK' := Lib.hid hok'
  have HNO := Lib.hid hno
  clear h h' hbA hok hok' hno
  go_enter Try.func140, Try.ntmps140
  go_wp2_with fail
  refine (vectorOfAny _ B a len cap xs (by exact HA.out) (by simp; omega) hl ok HK.out).mono ?_
  rintro e w1 ⟨x0, x1, x2, x3, rfl, hb1⟩
  have hsz : w.heap.size + 2 ≤ w1.heap.size := by simpa using hb1.size
  have hN1 : w1.heap[w.heap.size]? = some (.cells (arr4 0 0 0 0) 142 (0, 0)) := (hb1.block _ (by simp; omega)).trans (heap_alloc2_old _ _ _)
  have hN2 : w1.heap[w.heap.size + 1]? = some (.cells (arr4 0 0 0 0) 142 (0, 0)) := (hb1.block _ (by simp)).trans (heap_alloc2_new _ _ _)
  have hbB : Below w.heap.size w w1 := HbA.out.trans (hb1.mono (by simp; omega))
  have HA1 := Lib.hid (HI'.out.below hbB hB)
  have HBb := Lib.hid hbB
  have HN1 := Lib.hid hN1
  have HN2 := Lib.hid hN2
  clear hb1 hbB hN1 hN2
  go_wp2_with fail
  refine (vectorOfAny _ B a' len' cap' ys (by exact HA1.out.below (B' := w1.heap.size) ((Below.refl _ w1).alloc (Nat.le_refl _) _) (by omega)) (by simp; omega) hl' ok' HK'.out).mono ?_
  rintro e w2 ⟨y0, y1, y2, y3, rfl, hb2⟩
  have hsz2 : w1.heap.size + 1 ≤ w2.heap.size := by simpa using hb2.size
  have hM1 : w2.heap[w.heap.size]? = some (.cells (arr4 0 0 0 0) 142 (0, 0)) := ((hb2.block _ (by simp; omega)).trans (Below.heap_alloc _ _ _ (by omega))).trans HN1.out
  have hM2 : w2.heap[w.heap.size + 1]? = some (.cells (arr4 0 0 0 0) 142 (0, 0)) := ((hb2.block _ (by simp; omega)).trans (Below.heap_alloc _ _ _ (by omega))).trans HN2.out
  have hbC : Below w.heap.size w w2 := (HBb.out.alloc (by omega) _).trans (hb2.mono (by simp; omega))
  have HM1 := Lib.hid hM1
  have HM2 := Lib.hid hM2
  have HC := Lib.hid hbC
  clear hb2 hM1 hM2 hbC
  obtain ⟨⟨d0, d1, d2, d3⟩, ⟨f0, f1, f2, f3⟩⟩ := cells4 HM1.out
  obtain ⟨⟨e0, e1, e2, e3⟩, ⟨g0, g1, g2, g3⟩⟩ := cells4 HM2.out
  have l1 : w.heap.size < w2.heap.size := by omega
  have l2 : w.heap.size + 1 < w2.heap.size := by omega
  have hno := HNO.out
  cases ok <;> cases ok'
  case true.true => cases hno
  all_goals
    clear hno
    go_wp2
    obtain ⟨r1, r2, r3⟩ := vectors_end0 (x0 := 0) (x1 := 0) (x2 := 0) (x3 := 0) (y0 := 0) (y1 := 0) (y2 := 0) (y3 := 0) HM1.out HM2.out HC.out
    generalize World.setCell _ ⟨w.heap.size + 1, 3, none⟩ _ = W4 at r1 r2 r3 ⊢
    have k1 := lt_of_block r1
    have k2 := lt_of_block r2
    exact bodyPost_ret (vectors_ret ((Below.heap_alloc _ _ _ k1).trans r1) ((Below.heap_alloc _ _ _ k2).trans r2) rfl rfl rfl) rfl ⟨rfl, r3.alloc (by omega) _⟩

theorem arr4_at {x0 x1 x2 x3 : Int} {k : Nat} (hk : k < 4) : (arr4 x0 x1 x2 x3)[k]? = some (.int .i64 ([x0, x1, x2, x3].getD k 0)) := by
  match k, hk with
  | 0, _ => rfl
  | 1, _ => rfl
  | 2, _ => rfl
  | 3, _ => rfl

/-- What a call answers that hands back a list of operations of its own. -/
def OpsPost (l : List OpV) (w : World) (e : Ending) (w' : World) : Prop := ∃ a c, e = .returned (.slice a l.length c) ∧ OwnOps w' w.heap.size w'.heap.size a l.length l ∧ Below w.heap.size w w'

/-- The order of operations by device and number, as a number below, at or above 0. -/
def orI2 (x y : Int) : Int := if x ≠ 0 then x else y
def numI (d q d' q' : Int) : Int := orI2 (cmpI d d') (cmpI q q')
theorem num_lt (d q d' q' : Int) : numB d q d' q' = decide (numI d q d' q' < 0) := by
  unfold numB
  rw [decide_eq_decide]
  unfold numI orI2
  rcases Int.lt_trichotomy d d' with g | g | g
  · rw [cmp_lt g, if_pos (by decide)]; omega
  · rw [cmp_eq g, if_neg (by decide)]
    rcases Int.lt_trichotomy q q' with k | k | k
    · rw [cmp_lt k]; omega
    · rw [cmp_eq k]; omega
    · rw [cmp_gt k]; omega
  · rw [cmp_gt g, if_pos (by decide)]; omega

set_option maxRecDepth 100000 in
set_option maxHeartbeats 1000000 in
theorem cmpOr2 (x y : Int) (b : Nat) (w : World) (h0 : w.cell? ⟨b, 0, none⟩ = some (.int .i64 x)) (h1 : w.cell? ⟨b, 1, none⟩ = some (.int .i64 y)) : Calls Try.prog 105 #[.slice (some ⟨b, 0, none⟩) 2 2] w fun e w' => e = .returned (.int .i64 (orI2 x y)) ∧ w = w' := by
  by_cases hx : x = 0
  · have z0 : (x != 0) = false := by rw [hx]; rfl
    have HI : Hid (orI2 x y = y) := if_neg (fun h => h hx)
    clear hx
    by_cases hy : y = 0
    · have z1 : (y != 0) = false := by rw [hy]; rfl
      have HV : Hid (orI2 x y = 0) := HI.out.trans hy
      clear hy
      go_enter Try.func105, Try.ntmps105
      go_wp2
      go_loop [8] (fun i => ∃ k : Nat, k ≤ 2 ∧ i = .int .i64 k) (fun i => 2 - (intOf i).toNat)
      case atStart => exact ⟨0, by omega, rfl⟩
      case round =>
        obtain ⟨k, hk, rfl⟩ := hrel
        obtain rfl | rfl | rfl : k = 0 ∨ k = 1 ∨ k = 2 := by omega
        · go_wp2
          go_round
          case rel => exact ⟨1, by omega, by go_num⟩
          case measure => simp [intOf]
        · go_wp2
          go_round
          case rel => exact ⟨2, by omega, by go_num⟩
          case measure => simp [intOf]
        · go_wp2
          go_ret
          exact ⟨by rw [HV.out]; rfl, rfl⟩
    · have z1 : (y != 0) = true := by rw [bne_iff_ne]; exact hy
      have HV : Hid (orI2 x y = y) := HI.out
      clear hy
      go_enter Try.func105, Try.ntmps105
      go_wp2
      go_loop [8] (fun i => ∃ k : Nat, k ≤ 1 ∧ i = .int .i64 k) (fun i => 2 - (intOf i).toNat)
      case atStart => exact ⟨0, by omega, rfl⟩
      case round =>
        obtain ⟨k, hk, rfl⟩ := hrel
        obtain rfl | rfl : k = 0 ∨ k = 1 := by omega
        · go_wp2
          go_round
          case rel => exact ⟨1, by omega, by go_num⟩
          case measure => simp [intOf]
        · go_wp2
          go_ret
          exact ⟨by rw [HV.out]; rfl, rfl⟩
  · have z0 : (x != 0) = true := by rw [bne_iff_ne]; exact hx
    have HV : Hid (orI2 x y = x) := if_pos hx
    clear hx
    go_enter Try.func105, Try.ntmps105
    go_wp2
    go_loop [8] (fun i => ∃ k : Nat, k ≤ 0 ∧ i = .int .i64 k) (fun i => 2 - (intOf i).toNat)
    case atStart => exact ⟨0, by omega, rfl⟩
    case round =>
      obtain ⟨k, hk, rfl⟩ := hrel
      obtain rfl : k = 0 := by omega
      go_wp2
      go_ret
      exact ⟨by rw [HV.out]; rfl, rfl⟩
set_option maxRecDepth 100000 in
set_option maxHeartbeats 1000000 in
theorem byNumber (dev1 seq1 stamp1 kind1 : Int) (item1 : ByteArray) (qty1 level1 undos1 : Int) (dev2 seq2 stamp2 kind2 : Int) (item2 : ByteArray) (qty2 level2 undos2 : Int) (w : World) : Calls Try.prog 146 #[.agg #[.int .i64 dev1, .int .i64 seq1, .int .i64 stamp1, .int .i64 kind1, .string item1, .int .i64 qty1, .int .i64 level1, .int .i64 undos1], .agg #[.int .i64 dev2, .int .i64 seq2, .int .i64 stamp2, .int .i64 kind2, .string item2, .int .i64 qty2, .int .i64 level2, .int .i64 undos2]] w fun e w' => e = .returned (.int .i64 (numI dev1 seq1 dev2 seq2)) ∧ Below w.heap.size w w' := by
  have hT := Two.mk0 w #[.int .i64 dev1, .int .i64 seq1, .int .i64 stamp1, .int .i64 kind1, .string item1, .int .i64 qty1, .int .i64 level1, .int .i64 undos1] #[.int .i64 dev2, .int .i64 seq2, .int .i64 stamp2, .int .i64 kind2, .string item2, .int .i64 qty2, .int .i64 level2, .int .i64 undos2] 34
  have HT := Lib.hid hT
  go_enter Try.func146, Try.ntmps146
  go_wp2_with fail
  generalize (w.alloc (.cells #[.int .i64 dev1, .int .i64 seq1, .int .i64 stamp1, .int .i64 kind1, .string item1, .int .i64 qty1, .int .i64 level1, .int .i64 undos1] 34)).alloc (.cells #[.int .i64 dev2, .int .i64 seq2, .int .i64 stamp2, .int .i64 kind2, .string item2, .int .i64 qty2, .int .i64 level2, .int .i64 undos2] 34) = w2 at hT HT ⊢
  have c10 := cell_of_row _ _ 0 _ _ _ hT.fst
  have c11 := cell_of_row _ _ 1 _ _ _ hT.fst
  have c20 := cell_of_row _ _ 0 _ _ _ hT.snd
  have c21 := cell_of_row _ _ 1 _ _ _ hT.snd
  simp only [List.getElem?_toArray, List.getElem?_cons_zero, List.getElem?_cons_succ] at c10 c11 c20 c21
  have hlt1 := lt_of_row HT.out.fst
  have hlt2 := lt_of_row HT.out.snd
  clear hT
  go_region_held3 (fun w' => w'.cell? ⟨w.heap.size, 0, none⟩ = some (.int .i64 dev1) ∧ w'.cell? ⟨w.heap.size + 1, 0, none⟩ = some (.int .i64 dev2) ∧ w'.cell? ⟨w.heap.size, 1, none⟩ = some (.int .i64 seq1) ∧ w'.cell? ⟨w.heap.size + 1, 1, none⟩ = some (.int .i64 seq2)) (first | exact ⟨c10, c20, c11, c21⟩ | go_keep)
    (first | (go_at_call 106; refine (compare _ _ _).mono ?_; rintro e w' ⟨rfl, rfl⟩) | (go_at_call 105; refine (cmpOr2 (cmpI dev1 dev2) (cmpI seq1 seq2) _ _ ?_ ?_).mono ?_; (simp); (simp); rintro e w' ⟨rfl, rfl⟩))
  go_wp2
  go_ret
  exact ⟨rfl, HT.out.bel.trans (((Below.refl _ w2).alloc (Nat.le_refl _) _).drew.mono HT.out.bel.size)⟩

set_option maxRecDepth 100000 in
theorem numbered (w : World) (a : Option Addr) (n c : Nat) : Calls Try.prog 79 #[.slice a n c] w fun e w' => e = .returned (.agg #[.slice a n c, .func (.func 146) #[] #[]]) ∧ Below w.heap.size w w' := by
  go_enter Try.func79, Try.ntmps79
  go_wp2
  refine bodyPost_ret (v := .agg #[.slice a n c, .func (.func 146) #[] #[]]) (by simp [results, Try.results79, go_sem]) rfl ⟨rfl, ?_⟩
  go_grown
set_option maxRecDepth 100000 in
set_option maxHeartbeats 1000000 in
theorem cloneZero (w : World) (ad : Addr) (cap : Nat) : Calls Try.prog 155 #[.slice (some ad) 0 cap] w (OpsPost [] w) := by
  obtain ⟨i0, hi, hz0, hz1, hz2⟩ := info_parts Try.infoOp
  have hnil := fun w => Lib.run_eql_slice_nil (P := Try.prog) w 25 34 (some ad) 0 cap 0 0 Try.underlying25
  have hown : (w.alloc (.cells #[] 34)).ownsRow w.heap.size 34 8 (.slice (some ⟨w.heap.size, 0, none⟩) 0 0) 0 [] := World.ownsRow_made w #[] 0 (Nat.le_refl _) (by unfold maxLen; omega) rfl
  go_enter Try.func155, Try.ntmps155
  go_wp2_with (at_builtin; refine wpList_append_own _ rfl _ _ 25 rfl w.heap.size 34 i0 (.agg #[.int .i64 0, .int .i64 0, .int .i64 0, .int .i64 0, .string ⟨#[]⟩, .int .i64 0, .int .i64 0, .int .i64 0]) 8 72 Try.underlying25 hi hz0 hz1 hz2 rfl (by decide) _ _ _ rfl hown ad 0 cap [] rfl ?c0 ?c1 ?c2 ?c3 ?c4 ?c5 ?_)
  case c0 => rfl
  case c1 => intro j u hj; cases hj
  case c2 => intro u hu; cases hu
  case c3 => unfold maxLen; omega
  case c4 => omega
  case c5 => simp
  intro v' w1 hown' hgrow hnn
  have hb1 := ((Below.refl w.heap.size w).alloc (Nat.le_refl _) _).grown hgrow (by simp) (fun j hj => (hown.lt j hj).1)
  obtain ⟨a', cap', hv⟩ : ∃ a' cap', v' = .slice a' 0 cap' := by
    rcases hown'.2 with ⟨e, _⟩ | ⟨g, c, cur, e, _⟩
    · exact ⟨none, 0, e⟩
    · exact ⟨_, _, e⟩
  subst hv
  clear hown' hgrow hown hnn
  go_wp2
  go_ret
  exact ⟨a', cap', rfl, own_none _ _ _ _, hb1⟩
set_option maxRecDepth 100000 in
theorem cloneNil (w : World) : Calls Try.prog 155 #[.slice none 0 0] w fun e w' => e = .returned (.slice none 0 0) ∧ w = w' := by
  have hnil := fun w => Lib.run_eql_slice_nil (P := Try.prog) w 25 34 none 0 0 0 0 Try.underlying25
  go_enter Try.func155, Try.ntmps155
  go_wp2
  go_ret
  exact ⟨rfl, rfl⟩
theorem strClone (s : ByteArray) (h : s.size ≤ 1048576) (w : World) : Calls Try.prog 156 #[.string s] w fun e w' => e = .returned (.string s) ∧ Below w.heap.size w w' := by
  go_enter Try.func156, Try.ntmps156
  go_wp2_with fail
  refine (Try.stringslite_Clone s _ (by omega)).mono ?_
  rintro e w1 ⟨rfl, hb1⟩
  go_wp2
  go_ret
  exact ⟨rfl, hb1⟩
def OwnPost (xs : List Int) (w : World) (e : Ending) (w' : World) : Prop :=
  ∃ a cap, e = .returned (.slice a xs.length cap) ∧ Own w' w.heap.size w'.heap.size a xs.length xs ∧ Below w.heap.size w w'
set_option maxRecDepth 100000 in
theorem cloneInts (w : World) (B g n cap : Nat) (xs : List Int) (h : Ints w B (some ⟨g, 0, none⟩) n xs) (hn : 0 < n) (hl : n ≤ 1048576) :
    Calls Try.prog 148 #[.slice (some ⟨g, 0, none⟩) n cap] w (OwnPost xs w) := by
  obtain ⟨i0, hi, hz0, hz1, hz2⟩ := info_parts Try.infoI64
  have hnil := fun w => Lib.run_eql_slice_nil (P := Try.prog) w 24 2 (some ⟨g, 0, none⟩) n cap 0 0 Try.underlying24
  have hown : (w.alloc (.cells #[] 2)).ownsRow w.heap.size 2 1 (.slice (some ⟨w.heap.size, 0, none⟩) 0 0) 0 [] := World.ownsRow_made w #[] 0 (Nat.le_refl _) (by unfold maxLen; omega) rfl
  have hL := Lib.hid h.1
  have H := Lib.hid h
  clear h
  go_enter Try.func148, Try.ntmps148
  go_wp2_with (at_builtin; refine wpList_append_own _ rfl _ _ 24 rfl w.heap.size 2 i0 (.int .i64 0) 1 8 Try.underlying24 hi hz0 hz1 hz2 rfl (by decide) _ _ _ rfl hown ⟨g, 0, none⟩ n cap (xs.map (Value.int .i64)) rfl ?c0 ?c1 ?c2 ?c3 ?c4 ?c5 ?_)
  case c0 => rw [List.length_map, hL.out, Nat.mul_one]
  case c1 =>
    intro j u hj
    have hjl : j < xs.length := by
      rcases Nat.lt_or_ge j xs.length with h' | h'
      · exact h'
      · rw [List.getElem?_eq_none (by simpa using h')] at hj; cases hj
    obtain ⟨b, off, e, hb, hc⟩ := H.out.2 j (by rw [← hL.out]; exact hjl)
    cases e
    have hlt := block_lt_of_cell hc
    rw [List.getElem?_map, List.getElem?_eq_getElem hjl] at hj
    cases hj
    rw [add_at, World.cell?_alloc_lt w _ _ hlt, hc, List.getD_eq_getElem?_getD, List.getElem?_eq_getElem hjl]
    rfl
  case c2 => exact ints_oneCell _ _
  case c3 => unfold maxLen; omega
  case c4 => omega
  case c5 => simp
  intro v' w1 hown' hgrow _
  have hb1 := ((Below.refl w.heap.size w).alloc (Nat.le_refl _) _).grown hgrow (by simp) (fun j hj => (hown.lt j hj).1)
  obtain ⟨g', cap', hv, _, _⟩ := hown'.form (by omega)
  subst hv
  have HO := Lib.hid (own_of_row (hi := w1.heap.size) (by simpa using hown') (Nat.le_refl _))
  clear hown' hgrow hown
  go_wp2
  go_ret
  exact ⟨some ⟨g', 0, none⟩, cap', by rw [hL.out]; rfl, by rw [hL.out]; exact HO.out, hb1⟩

set_option maxRecDepth 100000 in
theorem vlist (w : World) (x0 x1 x2 x3 : Int) :
    Calls Try.prog 133 #[.agg #[.int .i64 x0, .int .i64 x1, .int .i64 x2, .int .i64 x3]] w (OwnPost [x0, x1, x2, x3] w) := by
  go_enter Try.func133, Try.ntmps133
  go_wp2_with fail
  refine (cloneInts _ (w.heap.size + 1) w.heap.size 4 4 [x0, x1, x2, x3] (ints_of_block (t := 142) (heap_alloc_new _ _) (by omega) rfl) (by omega) (by omega)).mono ?_
  rintro e w1 ⟨a, cap, rfl, ho, hb⟩
  go_wp2
  go_ret
  refine ⟨a, cap, rfl, ho.more (by simp) (Nat.le_refl _), ((Below.refl _ w).alloc (Nat.le_refl _) _).trans (hb.mono (by simp))⟩

set_option maxRecDepth 100000 in
set_option maxHeartbeats 1000000 in
theorem implRaise (w : World) (gx gy : Nat) (x0 x1 x2 x3 y0 y1 y2 y3 : Int) (hx : w.heap[gx]? = some (.cells (arr4 x0 x1 x2 x3) 142 (0, 0))) (hy : w.heap[gy]? = some (.cells (arr4 y0 y1 y2 y3) 142 (0, 0))) (hne : gy ≠ gx) :
    Calls Try.prog 136 #[.pointer (some ⟨gx, 0, none⟩), .pointer (some ⟨gy, 0, none⟩)] w fun e w' => e = .returned (.tuple #[]) ∧ Outside gx (gx + 1) w w' ∧ w'.heap[gx]? = some (.cells (arr4 (max x0 y0) (max x1 y1) (max x2 y2) (max x3 y3)) 142 (0, 0)) := by
  have HM : Hid (MixO max w w gx gy [x0, x1, x2, x3] [y0, y1, y2, y3] 0) := by
    refine ⟨⟨rfl, rfl, rfl, rfl, fun _ _ => rfl⟩, hy, arr4 x0 x1 x2 x3, hx, rfl, fun i hi => ?_⟩
    rw [if_neg (by omega)]; exact arr4_at hi
  clear hx hy
  go_enter Try.func136, Try.ntmps136
  go_wp2
  go_loopw [4, 5, 7] (fun _ _ i wr => ∃ k : Nat, k ≤ 4 ∧ i = .int .i64 k ∧ Hid (MixO max w wr gx gy [x0, x1, x2, x3] [y0, y1, y2, y3] k)) (fun _ _ i _ => 4 - (intOf i).toNat)
  case atStart => exact ⟨0, by omega, rfl, HM⟩
  case round =>
    obtain ⟨k, hk, rfl, HP⟩ := hrel
    by_cases hlt : k < 4
    · have hki : (k : Int) < 4 := by omega
      have hk0 : (0 : Int) ≤ (k : Int) := by omega
      obtain ⟨x, hx⟩ : ∃ x, x = [x0, x1, x2, x3].getD k 0 := ⟨_, rfl⟩
      obtain ⟨y, hy⟩ : ∃ y, y = [y0, y1, y2, y3].getD k 0 := ⟨_, rfl⟩
      have HS : Hid (∀ n m, MixO max w (((wr.drewN m).setCell ⟨gx, k, none⟩ (.int .i64 (max x y))).drewN n) gx gy [x0, x1, x2, x3] [y0, y1, y2, y3] (k + 1)) := by rw [hx, hy]; exact fun n m => HP.out.step hne hlt n m
      obtain ⟨_, hyb, cur, hg, hcs, hc⟩ := HP.out
      have c1 : wr.cell? ⟨gx, k, none⟩ = some (.int .i64 x) := by rw [cell_of_row _ _ _ _ _ _ hg, hc k hlt, if_neg (by omega), hx]
      have c2 : wr.cell? ⟨gy, k, none⟩ = some (.int .i64 y) := by
        rw [cell_of_row _ _ _ _ _ _ hyb, hy]
        exact arr4_at hlt
      have hf : wr.frozen? ⟨gx, k, none⟩ = false := frozen_of_row _ _ _ _ _ hg
      clear hx hy hyb hg hcs hc HM
      go_wp2
      go_region
      go_wp2
      go_region
      go_wp2
      go_roundw
      case rel => exact ⟨k + 1, by omega, by go_num, HS.out 1 1⟩
      case measure => simp [intOf]; omega
    · obtain rfl : k = 4 := by omega
      have HE := Lib.hid HP.out.done
      go_wp2
      exact bodyPost_end (v := .tuple #[]) (by simp [results, Try.results136, go_sem]) rfl ⟨rfl, HE.out.1, HE.out.2⟩

set_option maxRecDepth 100000 in
set_option maxHeartbeats 1000000 in
theorem implMaxYes (w : World) (B : Nat) (a a' : Option Addr) (cap cap' : Nat) (x0 x1 x2 x3 y0 y1 y2 y3 : Int) (h : Ints w B a 4 [x0, x1, x2, x3]) (h' : Ints w B a' 4 [y0, y1, y2, y3]) (hB : B ≤ w.heap.size)
    (hok : vecOk [x0, x1, x2, x3] = true) (hok' : vecOk [y0, y1, y2, y3] = true) :
    Calls Try.prog 143 #[.slice a 4 cap, .slice a' 4 cap'] w (OwnPost (zipI max [x0, x1, x2, x3] [y0, y1, y2, y3]) w) := by
  go_enter Try.func143, Try.ntmps143
  go_wp2_with fail
  refine (vectorsOfYes w B a a' cap cap' x0 x1 x2 x3 y0 y1 y2 y3 h h' hB hok hok').mono ?_
  rintro e w1 ⟨rfl, hb1⟩
  have hs1 := hb1.size
  clear h h' hok hok'
  go_wp2_with fail
  refine (implRaise _ w1.heap.size (w1.heap.size + 1) x0 x1 x2 x3 y0 y1 y2 y3 (heap_alloc2_old _ _ _) (heap_alloc2_new _ _ _) (by omega)).mono ?_
  rintro e w3 ⟨rfl, hO, hx⟩
  have hb3 : Below w1.heap.size w1 w3 := (((Below.refl _ w1).alloc (Nat.le_refl _) _).alloc (by simp) _).trans (hO.below (Nat.le_refl _))
  have hbr : Below w.heap.size w w3 := hb1.trans (hb3.mono hs1)
  obtain ⟨⟨d0, d1, d2, d3⟩, _⟩ := cells4 hx
  have hs := hbr.size
  have hs3 := hb3.size
  clear hx hO hb1
  go_wp2_with fail
  refine (vlist w3 (max x0 y0) (max x1 y1) (max x2 y2) (max x3 y3)).mono ?_
  rintro e w2 ⟨ao, co, rfl, ho, hb2⟩
  clear d0 d1 d2 d3
  go_wp2
  go_ret
  exact ⟨ao, co, rfl, ho.more hs (Nat.le_refl _), hbr.trans (hb2.mono hs)⟩


set_option maxRecDepth 100000 in
theorem implMaxNo (w : World) (B : Nat) (a a' : Option Addr) (len cap len' cap' : Nat) (xs ys : List Int) (h : Ints w B a len xs) (h' : Ints w B a' len' ys) (hB : B ≤ w.heap.size) (hl : len ≤ 1048576) (hl' : len' ≤ 1048576)
    (hno : (vecOk xs && vecOk ys) = false) :
    Calls Try.prog 143 #[.slice a len cap, .slice a' len' cap'] w (OwnPost [] w) := by
  go_enter Try.func143, Try.ntmps143
  go_wp2_with fail
  refine (vectorsOfNo w B a a' len cap len' cap' xs ys h h' hB hl hl' _ _ rfl rfl hno).mono ?_
  rintro e w1 ⟨rfl, hb1⟩
  have hs1 := hb1.size
  clear h h' hno
  go_wp2
  go_ret
  exact ⟨none, 0, rfl, ⟨rfl, fun hn => absurd hn (by simp)⟩, (hb1.alloc hs1 _).alloc (by simp; omega) _⟩

theorem implMax (w : World) (B : Nat) (a a' : Option Addr) (len cap len' cap' : Nat) (xs ys : List Int) (h : Ints w B a len xs) (h' : Ints w B a' len' ys) (hB : B ≤ w.heap.size) (hl : len ≤ 1048576) (hl' : len' ≤ 1048576) :
    Calls Try.prog 143 #[.slice a len cap, .slice a' len' cap'] w (OwnPost (vecZip max xs ys) w) := by
  cases hk : vecOk xs && vecOk ys
  · rw [vecZip_no hk]
    exact implMaxNo w B a a' len cap len' cap' xs ys h h' hB hl hl' hk
  · rw [vecZip_yes hk]
    rw [Bool.and_eq_true] at hk
    obtain ⟨x0, x1, x2, x3, rfl⟩ := four hk.1
    obtain ⟨y0, y1, y2, y3, rfl⟩ := four hk.2
    obtain rfl : len = 4 := h.1.symm
    obtain rfl : len' = 4 := h'.1.symm
    exact implMaxYes w B a a' cap cap' x0 x1 x2 x3 y0 y1 y2 y3 h h' hB hk.1 hk.2
theorem filt_step {q : OpV → Bool} {l : List OpV} {k : Nat} (hk : k < l.length) : (l.take (k + 1)).filter q = if q (atOp l k) = true then (l.take k).filter q ++ [atOp l k] else (l.take k).filter q := by
  have e : l[k] = atOp l k := by unfold atOp; rw [List.getD_eq_getElem?_getD, List.getElem?_eq_getElem hk]; rfl
  rw [List.take_succ_eq_append_getElem hk, List.filter_append, e]
  by_cases h : q (atOp l k) = true
  · rw [if_pos h, List.filter_cons_of_pos h]; rfl
  · rw [if_neg h, List.filter_cons_of_neg h]; simp
/-- As OpsPost; and the answer's length is at most its capacity. -/
def OpsPostC (l : List OpV) (w : World) (e : Ending) (w' : World) : Prop := ∃ a c, e = .returned (.slice a l.length c) ∧ l.length ≤ c ∧ OwnOps w' w.heap.size w'.heap.size a l.length l ∧ Below w.heap.size w w'

set_option maxRecDepth 100000 in
set_option maxHeartbeats 1000000 in
theorem cloneOpsC (w : World) (B b off n cap : Nat) (l : List OpV) (h : Ops w B (some ⟨b, off, none⟩) n l) (hB : B ≤ w.heap.size) (hl : n ≤ 1048576) : Calls Try.prog 155 #[.slice (some ⟨b, off, none⟩) n cap] w (OpsPostC l w) := by
  obtain ⟨i0, hi, hz0, hz1, hz2⟩ := info_parts Try.infoOp
  have hnil := fun w => Lib.run_eql_slice_nil (P := Try.prog) w 25 34 (some ⟨b, off, none⟩) n cap 0 0 Try.underlying25
  have hown : (w.alloc (.cells #[] 34)).ownsRow w.heap.size 34 8 (.slice (some ⟨w.heap.size, 0, none⟩) 0 0) 0 [] := World.ownsRow_made w #[] 0 (Nat.le_refl _) (by unfold maxLen; omega) rfl
  have hL := Lib.hid h.1
  have H := Lib.hid h
  clear h
  go_enter Try.func155, Try.ntmps155
  go_wp2_with (at_builtin; refine wpList_append_own _ rfl _ _ 25 rfl w.heap.size 34 i0 (.agg #[.int .i64 0, .int .i64 0, .int .i64 0, .int .i64 0, .string ⟨#[]⟩, .int .i64 0, .int .i64 0, .int .i64 0]) 8 72 Try.underlying25 hi hz0 hz1 hz2 rfl (by decide) _ _ _ rfl hown ⟨b, off, none⟩ n cap (opCells l) rfl ?c0 ?c1 ?c2 ?c3 ?c4 ?c5 ?_)
  case c0 => rw [opCells_len, hL.out]
  case c1 => exact cells_of_ops (H.out.below ((Below.refl w.heap.size w).alloc (Nat.le_refl _) _) hB)
  case c2 => exact opCells_one l
  case c3 => unfold maxLen; omega
  case c4 => omega
  case c5 => simp
  intro v' w1 hown' hgrow hnn
  have hb1 := ((Below.refl w.heap.size w).alloc (Nat.le_refl _) _).grown hgrow (by simp) (fun j hj => (hown.lt j hj).1)
  have hown2 : w1.ownsRow w.heap.size 34 8 v' n (opCells l) := by simpa using hown'
  obtain ⟨a', cap', hv, hvc⟩ : ∃ a' cap', v' = .slice a' n cap' ∧ n ≤ cap' := by
    rcases hown2.2 with ⟨e, e2⟩ | ⟨g, c, cur, e, _, _, hnc, _⟩
    · exact ⟨none, 0, by rw [e, e2], by omega⟩
    · exact ⟨_, _, e, hnc⟩
  subst hv
  have HO := Lib.hid (own_of_cells (hi := w1.heap.size) hown2 (Nat.le_refl _))
  clear hown' hown2 hgrow hown hnn
  go_wp2
  go_ret
  exact ⟨a', cap', by rw [hL.out]; rfl, by rw [hL.out]; exact hvc, by rw [hL.out]; exact HO.out, hb1⟩

set_option maxRecDepth 100000 in
set_option maxHeartbeats 2000000 in
theorem copiedOpsC (w : World) (B : Nat) (a : Option Addr) (n cap : Nat) (l : List OpV) (h : Ops w B a n l) (hB : B ≤ w.heap.size) (hn : n ≤ 1048576) (hcap : a = none → cap = 0) (hm : ∀ i, i < n → (l.getD i OpV.zero).item.size ≤ 1048576) : Calls Try.prog 93 #[.slice a n cap] w (OpsPostC l w) := by
  by_cases h0 : 0 < n
  · obtain ⟨b, off, rfl, hb, _⟩ := h.2 0 h0
    have HL := Lib.hid h.1
    have HM := Lib.hid hm
    clear hm hcap
    go_enter Try.func93, Try.ntmps93
    go_wp2_with fail
    refine (cloneOpsC w B b off n cap l h hB hn).mono ?_
    rintro e w1 ⟨a1, c1, rfl, hcc, ho, hb1⟩
    rw [h.1] at hcc
    have HC1 : Hid (∃ g o1, a1 = some ⟨g, o1, none⟩ ∧ w.heap.size ≤ g ∧ CS g o1 n l w w1) := by
      rw [h.1] at ho
      obtain ⟨g, o1, cs, e1, h1, h2, hg, hs, hc⟩ := ho.2 h0
      exact ⟨g, o1, e1, h1, hb1, cs, hg, hs, hc⟩
    clear ho hb1 h
    obtain ⟨g, o1, rfl, hg0, hcs⟩ := HC1.out
    have HC := Lib.hid hcs
    clear hcs HC1
    rw [HL.out]
    go_wp2
    go_loopw [4, 9] (fun _ i wr => ∃ k : Nat, k ≤ n ∧ i = .int .i64 (k : Int) ∧ Hid (CS g o1 n l w wr)) (fun _ i _ => n - (intOf i).toNat)
    case atStart => exact ⟨0, by omega, rfl, HC⟩
    case round =>
      obtain ⟨k, hk, rfl, HR⟩ := hrel
      by_cases hlt : k < n
      rotate_left
      · obtain rfl : k = n := by omega
        have HP : Hid (OpsPostC l w (.returned (.slice (some ⟨g, o1, none⟩) k c1)) wr) := by
          obtain ⟨h1, cs, hg, hs, hc⟩ := HR.out
          exact ⟨some ⟨g, o1, none⟩, c1, by rw [HL.out], by rw [HL.out]; exact hcc, ⟨rfl, fun _ => ⟨g, o1, cs, rfl, hg0, (Array.getElem?_eq_some_iff.1 hg).1, hg, by rw [HL.out]; exact hs, by rw [HL.out]; exact hc⟩⟩, h1⟩
        go_wp2
        go_ret
        exact HP.out
      have hit := HM.out k hlt
      have hput := fun w2 (h : CS g o1 n l w w2) => h.put hg0 hlt
      have HPut := Lib.hid hput
      clear hput
      have HCell : Hid (∀ w2, CS g o1 n l w w2 → w2.cell? ⟨g, o1 + k * 8 + 4, none⟩ = some (.string (l.getD k OpV.zero).item) ∧ w2.frozen? ⟨g, o1 + k * 8 + 4, none⟩ = false) := fun w2 h => by
        obtain ⟨_, cs, hg, _, hc⟩ := h
        exact ⟨((hc k hlt).at hg).2.2.2.2.1, frozen_of_row _ _ _ _ _ hg⟩
      generalize (l.getD k OpV.zero).item = s at hit HPut HCell
      have c4 := (HCell.out wr HR.out).1
      go_wp2_with fail
      refine (strClone s hit _).mono ?_
      rintro e w2 ⟨rfl, hb2⟩
      have HR2 := Lib.hid (HR.out.step hb2)
      clear c4 hb2 HR
      have c4 := (HCell.out w2 HR2.out).1
      have f4 := (HCell.out w2 HR2.out).2
      have HR3 := Lib.hid (HPut.out w2 HR2.out)
      go_wp2
      go_roundw
      case rel => exact ⟨k + 1, by omega, by go_num, HR3⟩
      case measure => simp [intOf]; omega
  · obtain rfl : n = 0 := by omega
    have hl : l = [] := List.eq_nil_of_length_eq_zero h.1
    subst hl
    clear h0 hm
    rcases a with _ | ad
    · obtain rfl := hcap rfl
      go_enter Try.func93, Try.ntmps93
      go_wp2_with fail
      refine (cloneNil w).mono ?_
      rintro e w1 ⟨rfl, rfl⟩
      go_wp2
      refine wp_loop_rounds 1 ?_
      rw [rounds_succ]
      go_wp2
      go_ret
      exact ⟨none, 0, rfl, Nat.le_refl _, own_none _ _ _ _, Below.refl _ _⟩
    · clear hcap h
      go_enter Try.func93, Try.ntmps93
      go_wp2_with fail
      refine (cloneZero w ad cap).mono ?_
      rintro e w1 ⟨a1, c1, rfl, ho, hb1⟩
      have HB := Lib.hid hb1
      clear ho hb1
      go_wp2
      refine wp_loop_rounds 1 ?_
      rw [rounds_succ]
      go_wp2
      go_ret
      exact ⟨a1, c1, rfl, Nat.zero_le _, own_none _ _ _ _, HB.out⟩

theorem op_cells9 {w : World} {b : Nat} {v0 v1 v2 v3 v4 v5 v6 v7 : Value} {T : TypeId} {fr : Nat × Nat} (h : w.heap[b]? = some (.cells #[v0, v1, v2, v3, v4, v5, v6, v7] T fr)) : w.cell? ⟨b, 0, none⟩ = some v0 ∧ w.cell? ⟨b, 1, none⟩ = some v1 ∧ w.cell? ⟨b, 2, none⟩ = some v2 ∧ w.cell? ⟨b, 3, none⟩ = some v3 ∧ w.cell? ⟨b, 4, none⟩ = some v4 ∧ w.cell? ⟨b, 5, none⟩ = some v5 ∧ w.cell? ⟨b, 6, none⟩ = some v6 ∧ w.cell? ⟨b, 7, none⟩ = some v7 :=
  ⟨cell_of_row _ _ _ _ _ _ h, cell_of_row _ _ _ _ _ _ h, cell_of_row _ _ _ _ _ _ h, cell_of_row _ _ _ _ _ _ h, cell_of_row _ _ _ _ _ _ h, cell_of_row _ _ _ _ _ _ h, cell_of_row _ _ _ _ _ _ h, cell_of_row _ _ _ _ _ _ h⟩
theorem numI_neg {d q d' q' : Int} : numI d q d' q' < 0 ↔ numB d q d' q' = true := by rw [num_lt]; exact decide_eq_true_iff.symm
theorem numI_zero {d q d' q' : Int} : numI d q d' q' = 0 ↔ d = d' ∧ q = q' := by
  unfold numI orI2
  rcases Int.lt_trichotomy d d' with g | g | g
  · rw [cmp_lt g, if_pos (by decide)]; omega
  · rw [cmp_eq g, if_neg (by decide)]
    rcases Int.lt_trichotomy q q' with k | k | k
    · rw [cmp_lt k]; omega
    · rw [cmp_eq k]; omega
    · rw [cmp_gt k]; omega
  · rw [cmp_gt g, if_pos (by decide)]; omega
/-- How an operation of a list compares with x. -/
def cmpAt (l : List OpV) (x : OpV) (j : Nat) : Int := numI (atOp l j).dev (atOp l j).seq x.dev x.seq
theorem cmp_down {l : List OpV} {x : OpV} (h : incB l = true) {m : Nat} (hm : m < l.length) (hc : cmpAt l x m < 0) : ∀ j, j < m + 1 → cmpAt l x j < 0 := fun j hj => by
  rcases Nat.lt_or_ge j m with h1 | h1
  · exact numI_neg.2 (num_trans (inc_lt h m j h1 hm) (numI_neg.1 hc))
  · obtain rfl : j = m := by omega
    exact hc
theorem cmp_up {l : List OpV} {x : OpV} (h : incB l = true) {m : Nat} (hc : 0 ≤ cmpAt l x m) : ∀ j, m ≤ j → j < l.length → 0 ≤ cmpAt l x j := fun j hj hl => by
  rcases Nat.lt_or_ge m j with h1 | h1
  · refine Int.not_lt.1 fun hn => ?_
    have : cmpAt l x m < 0 := numI_neg.2 (num_trans (inc_lt h j m h1 hl) (numI_neg.1 hn))
    omega
  · obtain rfl : j = m := by omega
    exact hc
theorem none_of {l : List OpV} {x : OpV} (h : incB l = true) {k : Nat} (h1 : ∀ j, j < k → cmpAt l x j < 0) (h2 : k < l.length → 0 ≤ cmpAt l x k ∧ cmpAt l x k ≠ 0) : ∀ j, j < l.length → ¬ eqN l j x.dev x.seq := fun j hj e => by
  have ez : cmpAt l x j = 0 := numI_zero.2 e
  rcases Nat.lt_trichotomy j k with g | g | g
  · have := h1 j g; omega
  · subst g
    exact (h2 hj).2 ez
  · have hlt := inc_lt h j k g hj
    unfold eqN at e
    rw [e.1, e.2] at hlt
    have a1 := (h2 (by omega)).1
    have a2 : cmpAt l x k < 0 := numI_neg.2 hlt
    omega
def Found (l : List OpV) (x : OpV) (i : Nat) (b : Bool) : Prop := i ≤ l.length ∧ (b = true → i < l.length ∧ eqN l i x.dev x.seq) ∧ (b = false → ∀ j, j < l.length → ¬ eqN l j x.dev x.seq)
theorem found_end {l : List OpV} {x : OpV} (h : incB l = true) (h1 : ∀ j, j < l.length → cmpAt l x j < 0) : Found l x l.length false :=
  ⟨Nat.le_refl _, fun h => (by cases h), fun _ => none_of h h1 (fun h => absurd h (by omega))⟩
theorem found_mid {l : List OpV} {x : OpV} (h : incB l = true) {k : Nat} (hk : k < l.length) (h1 : ∀ j, j < k → cmpAt l x j < 0) (h2 : 0 ≤ cmpAt l x k) : Found l x k (decide (cmpAt l x k = 0)) :=
  ⟨by omega, fun e => ⟨hk, numI_zero.1 (of_decide_eq_true e)⟩, fun e => none_of h h1 fun _ => ⟨h2, of_decide_eq_false e⟩⟩

set_option linter.unusedSimpArgs false in
set_option maxRecDepth 100000 in
set_option maxHeartbeats 4000000 in
theorem binSearch (w : World) (B : Nat) (a : Option Addr) (n c : Nat) (l : List OpV) (x : OpV) (h : Ops w B a n l) (hB : B ≤ w.heap.size) (hn : n ≤ 1048576) (hinc : incB l = true) :
    Calls Try.prog 147 #[.slice a n c, .agg #[.int .i64 x.dev, .int .i64 x.seq, .int .i64 x.stamp, .int .i64 x.kind, .string x.item, .int .i64 x.qty, .int .i64 x.level, .int .i64 x.undos], .func (.func 146) #[] #[]] w fun e w' => (∃ (i : Nat) (b : Bool), e = .returned (.tuple #[.int .i64 (i : Int), .bool b]) ∧ Found l x i b) ∧ Below w.heap.size w w' := by
  have hb0 : Below w.heap.size w (w.alloc (.cells #[.int .i64 x.dev, .int .i64 x.seq, .int .i64 x.stamp, .int .i64 x.kind, .string x.item, .int .i64 x.qty, .int .i64 x.level, .int .i64 x.undos] 34)) := (Below.refl _ w).alloc (Nat.le_refl _) _
  have HO := Lib.hid (h.below hb0 hB)
  have HB := Lib.hid hb0
  have HX := Lib.hid (boxAt (Below.refl _ (w.alloc (.cells #[.int .i64 x.dev, .int .i64 x.seq, .int .i64 x.stamp, .int .i64 x.kind, .string x.item, .int .i64 x.qty, .int .i64 x.level, .int .i64 x.undos] 34))))
  have HL := Lib.hid h.1
  have HInc := Lib.hid hinc
  have hsz : w.heap.size < (w.alloc (.cells #[.int .i64 x.dev, .int .i64 x.seq, .int .i64 x.stamp, .int .i64 x.kind, .string x.item, .int .i64 x.qty, .int .i64 x.level, .int .i64 x.undos] 34)).heap.size := by show _ < (w.heap.push _).size; simp
  clear h hb0 hinc
  go_enter Try.func147, Try.ntmps147
  go_upto_region 1 with fail
  generalize w.alloc (.cells #[.int .i64 x.dev, .int .i64 x.seq, .int .i64 x.stamp, .int .i64 x.kind, .string x.item, .int .i64 x.qty, .int .i64 x.level, .int .i64 x.undos] 34) = w0 at HO HB HX hsz ⊢
  go_wp2
  go_loopw [9, 10] (fun s t wr => ∃ lo hi : Nat, lo ≤ hi ∧ hi ≤ n ∧ s = .int .i64 (lo : Int) ∧ t = .int .i64 (hi : Int) ∧ Hid ((∀ j, j < lo → cmpAt l x j < 0) ∧ ∀ j, hi ≤ j → j < n → 0 ≤ cmpAt l x j) ∧ Hid (Below w0.heap.size w0 wr)) (fun s t _ => (intOf t - intOf s).toNat)
  case atStart => exact ⟨0, n, by omega, by omega, rfl, rfl, ⟨fun j hj => absurd hj (by omega), fun j h1 h2 => absurd h1 (by omega)⟩, Below.refl _ _⟩
  case round =>
    obtain ⟨lo, hi, hlh, hhn, rfl, rfl, HR, HBr⟩ := hrel
    obtain ⟨e0, e1, e2, e3, e4, e5, e6, e7⟩ := op_cells9 ((HBr.out.block _ (by omega)).trans HX.out)
    by_cases hlt : lo < hi
    · have hli : (lo : Int) < (hi : Int) := by omega
      obtain ⟨m, hm⟩ : ∃ m, m = (lo + hi) / 2 := ⟨_, rfl⟩
      have hmi : ((lo : Int) + (hi : Int)) / 2 = (m : Int) := by omega
      have hmn : m < n := by omega
      have hml : lo ≤ m ∧ m < hi := by omega
      obtain ⟨hml1, hml2⟩ := hml
      clear hm
      go_upto_region 5 with fail
      have hmn' : (m : Int) < (n : Int) := by omega
      obtain ⟨b, off, rfl, hb, ho⟩ := HO.out.2 m hmn
      have HOk : Hid (OpAt w0 b (off + m * 8) (atOp l m)) := ho
      clear ho
      have HC : Hid (cmpAt l x m = numI (atOp l m).dev (atOp l m).seq x.dev x.seq) := rfl
      generalize atOp l m = y at HOk HC
      obtain ⟨d0, d1, d2, d3, d4, d5, d6, d7⟩ := HOk.out.kept (HBr.out.block b (by omega))
      have hS : wr.drew.cell? ⟨b, off + m * 8, none⟩ = some (.int .i64 y.dev) ∧ wr.drew.cell? ⟨b, off + m * 8 + 1, none⟩ = some (.int .i64 y.seq) ∧ wr.drew.cell? ⟨b, off + m * 8 + 2, none⟩ = some (.int .i64 y.stamp) ∧ wr.drew.cell? ⟨b, off + m * 8 + 3, none⟩ = some (.int .i64 y.kind) ∧ wr.drew.cell? ⟨b, off + m * 8 + 4, none⟩ = some (.string y.item) ∧ wr.drew.cell? ⟨b, off + m * 8 + 5, none⟩ = some (.int .i64 y.qty) ∧ wr.drew.cell? ⟨b, off + m * 8 + 6, none⟩ = some (.int .i64 y.level) ∧ wr.drew.cell? ⟨b, off + m * 8 + 7, none⟩ = some (.int .i64 y.undos) ∧ wr.drew.cell? ⟨w.heap.size, 0, none⟩ = some (.int .i64 x.dev) ∧ wr.drew.cell? ⟨w.heap.size, 1, none⟩ = some (.int .i64 x.seq) ∧ wr.drew.cell? ⟨w.heap.size, 2, none⟩ = some (.int .i64 x.stamp) ∧ wr.drew.cell? ⟨w.heap.size, 3, none⟩ = some (.int .i64 x.kind) ∧ wr.drew.cell? ⟨w.heap.size, 4, none⟩ = some (.string x.item) ∧ wr.drew.cell? ⟨w.heap.size, 5, none⟩ = some (.int .i64 x.qty) ∧ wr.drew.cell? ⟨w.heap.size, 6, none⟩ = some (.int .i64 x.level) ∧ wr.drew.cell? ⟨w.heap.size, 7, none⟩ = some (.int .i64 x.undos) := ⟨d0, d1, d2, d3, d4, d5, d6, d7, e0, e1, e2, e3, e4, e5, e6, e7⟩
      go_wp2_with fail
      go_region_held3 (fun w' => w'.cell? ⟨b, off + m * 8, none⟩ = some (.int .i64 y.dev) ∧ w'.cell? ⟨b, off + m * 8 + 1, none⟩ = some (.int .i64 y.seq) ∧ w'.cell? ⟨b, off + m * 8 + 2, none⟩ = some (.int .i64 y.stamp) ∧ w'.cell? ⟨b, off + m * 8 + 3, none⟩ = some (.int .i64 y.kind) ∧ w'.cell? ⟨b, off + m * 8 + 4, none⟩ = some (.string y.item) ∧ w'.cell? ⟨b, off + m * 8 + 5, none⟩ = some (.int .i64 y.qty) ∧ w'.cell? ⟨b, off + m * 8 + 6, none⟩ = some (.int .i64 y.level) ∧ w'.cell? ⟨b, off + m * 8 + 7, none⟩ = some (.int .i64 y.undos) ∧ w'.cell? ⟨w.heap.size, 0, none⟩ = some (.int .i64 x.dev) ∧ w'.cell? ⟨w.heap.size, 1, none⟩ = some (.int .i64 x.seq) ∧ w'.cell? ⟨w.heap.size, 2, none⟩ = some (.int .i64 x.stamp) ∧ w'.cell? ⟨w.heap.size, 3, none⟩ = some (.int .i64 x.kind) ∧ w'.cell? ⟨w.heap.size, 4, none⟩ = some (.string x.item) ∧ w'.cell? ⟨w.heap.size, 5, none⟩ = some (.int .i64 x.qty) ∧ w'.cell? ⟨w.heap.size, 6, none⟩ = some (.int .i64 x.level) ∧ w'.cell? ⟨w.heap.size, 7, none⟩ = some (.int .i64 x.undos)) (first | with_reducible exact hS | with_reducible exact hS2)
        (first | (go_at_call 146; refine (byNumber y.dev y.seq y.stamp y.kind y.item y.qty y.level y.undos x.dev x.seq x.stamp x.kind x.item x.qty x.level x.undos _).mono ?_; rintro e w2 ⟨rfl, hb2⟩; have ⟨q0, q1, q2, q3, q4, q5, q6, q7, q8, q9, q10, q11, q12, q13, q14, q15⟩ := hS; have hS2 : w2.cell? ⟨b, off + m * 8, none⟩ = some (.int .i64 y.dev) ∧ w2.cell? ⟨b, off + m * 8 + 1, none⟩ = some (.int .i64 y.seq) ∧ w2.cell? ⟨b, off + m * 8 + 2, none⟩ = some (.int .i64 y.stamp) ∧ w2.cell? ⟨b, off + m * 8 + 3, none⟩ = some (.int .i64 y.kind) ∧ w2.cell? ⟨b, off + m * 8 + 4, none⟩ = some (.string y.item) ∧ w2.cell? ⟨b, off + m * 8 + 5, none⟩ = some (.int .i64 y.qty) ∧ w2.cell? ⟨b, off + m * 8 + 6, none⟩ = some (.int .i64 y.level) ∧ w2.cell? ⟨b, off + m * 8 + 7, none⟩ = some (.int .i64 y.undos) ∧ w2.cell? ⟨w.heap.size, 0, none⟩ = some (.int .i64 x.dev) ∧ w2.cell? ⟨w.heap.size, 1, none⟩ = some (.int .i64 x.seq) ∧ w2.cell? ⟨w.heap.size, 2, none⟩ = some (.int .i64 x.stamp) ∧ w2.cell? ⟨w.heap.size, 3, none⟩ = some (.int .i64 x.kind) ∧ w2.cell? ⟨w.heap.size, 4, none⟩ = some (.string x.item) ∧ w2.cell? ⟨w.heap.size, 5, none⟩ = some (.int .i64 x.qty) ∧ w2.cell? ⟨w.heap.size, 6, none⟩ = some (.int .i64 x.level) ∧ w2.cell? ⟨w.heap.size, 7, none⟩ = some (.int .i64 x.undos) := ⟨(hb2.cell (block_lt_of_cell q0)).trans q0, (hb2.cell (block_lt_of_cell q1)).trans q1, (hb2.cell (block_lt_of_cell q2)).trans q2, (hb2.cell (block_lt_of_cell q3)).trans q3, (hb2.cell (block_lt_of_cell q4)).trans q4, (hb2.cell (block_lt_of_cell q5)).trans q5, (hb2.cell (block_lt_of_cell q6)).trans q6, (hb2.cell (block_lt_of_cell q7)).trans q7, (hb2.cell (block_lt_of_cell q8)).trans q8, (hb2.cell (block_lt_of_cell q9)).trans q9, (hb2.cell (block_lt_of_cell q10)).trans q10, (hb2.cell (block_lt_of_cell q11)).trans q11, (hb2.cell (block_lt_of_cell q12)).trans q12, (hb2.cell (block_lt_of_cell q13)).trans q13, (hb2.cell (block_lt_of_cell q14)).trans q14, (hb2.cell (block_lt_of_cell q15)).trans q15⟩; clear q0 q1 q2 q3 q4 q5 q6 q7 q8 q9 q10 q11 q12 q13 q14 q15))
      have HB2 := Lib.hid (HBr.out.trans ((Below.mk hb2.os hb2.tape hb2.output hb2.size hb2.block : Below wr.heap.size wr w2).mono HBr.out.size))
      clear hS hS2 hb2 d0 d1 d2 d3 d4 d5 d6 d7 e0 e1 e2 e3 e4 e5 e6 e7
      have HDn := Lib.hid (fun hc => cmp_down (x := x) HInc.out (m := m) (by rw [HL.out]; exact hmn) hc)
      have HUp := Lib.hid (fun hc => cmp_up (x := x) HInc.out (m := m) hc)
      rw [← HC.out]
      generalize cmpAt l x m = cm at HDn HUp ⊢
      by_cases hc : cm < 0
      · have HRn : Hid ((∀ j, j < m + 1 → cmpAt l x j < 0) ∧ ∀ j, hi ≤ j → j < n → 0 ≤ cmpAt l x j) := ⟨HDn.out hc, HR.out.2⟩
        go_wp2
        go_roundw
        case rel => exact ⟨m + 1, hi, by omega, by omega, by go_num, rfl, HRn, HB2⟩
        case measure => simp [intOf]; omega
      · have HRn : Hid ((∀ j, j < lo → cmpAt l x j < 0) ∧ ∀ j, m ≤ j → j < n → 0 ≤ cmpAt l x j) := ⟨HR.out.1, fun j h1 h2 => HUp.out (by omega) j h1 (by rw [HL.out]; exact h2)⟩
        go_wp2
        go_roundw
        case rel => exact ⟨lo, m, by omega, by omega, rfl, by go_num, HRn, HB2⟩
        case measure => simp [intOf]; omega
    obtain rfl : lo = hi := by omega
    have hll : ¬ (lo : Int) < (lo : Int) := by omega
    clear hlt
    by_cases hend : lo < n
    · have hei : (lo : Int) < (n : Int) := by omega
      have HFo := Lib.hid (found_mid (x := x) HInc.out (k := lo) (by rw [HL.out]; exact hend) HR.out.1 (HR.out.2 lo (Nat.le_refl _) hend))
      obtain ⟨b, off, rfl, hb, ho⟩ := HO.out.2 lo hend
      have HOk : Hid (OpAt w0 b (off + lo * 8) (atOp l lo)) := ho
      clear ho
      have HC : Hid (cmpAt l x lo = numI (atOp l lo).dev (atOp l lo).seq x.dev x.seq) := rfl
      generalize atOp l lo = y at HOk HC
      obtain ⟨d0, d1, d2, d3, d4, d5, d6, d7⟩ := HOk.out.kept (HBr.out.block b (by omega))
      have hS : wr.drew.cell? ⟨b, off + lo * 8, none⟩ = some (.int .i64 y.dev) ∧ wr.drew.cell? ⟨b, off + lo * 8 + 1, none⟩ = some (.int .i64 y.seq) ∧ wr.drew.cell? ⟨b, off + lo * 8 + 2, none⟩ = some (.int .i64 y.stamp) ∧ wr.drew.cell? ⟨b, off + lo * 8 + 3, none⟩ = some (.int .i64 y.kind) ∧ wr.drew.cell? ⟨b, off + lo * 8 + 4, none⟩ = some (.string y.item) ∧ wr.drew.cell? ⟨b, off + lo * 8 + 5, none⟩ = some (.int .i64 y.qty) ∧ wr.drew.cell? ⟨b, off + lo * 8 + 6, none⟩ = some (.int .i64 y.level) ∧ wr.drew.cell? ⟨b, off + lo * 8 + 7, none⟩ = some (.int .i64 y.undos) ∧ wr.drew.cell? ⟨w.heap.size, 0, none⟩ = some (.int .i64 x.dev) ∧ wr.drew.cell? ⟨w.heap.size, 1, none⟩ = some (.int .i64 x.seq) ∧ wr.drew.cell? ⟨w.heap.size, 2, none⟩ = some (.int .i64 x.stamp) ∧ wr.drew.cell? ⟨w.heap.size, 3, none⟩ = some (.int .i64 x.kind) ∧ wr.drew.cell? ⟨w.heap.size, 4, none⟩ = some (.string x.item) ∧ wr.drew.cell? ⟨w.heap.size, 5, none⟩ = some (.int .i64 x.qty) ∧ wr.drew.cell? ⟨w.heap.size, 6, none⟩ = some (.int .i64 x.level) ∧ wr.drew.cell? ⟨w.heap.size, 7, none⟩ = some (.int .i64 x.undos) := ⟨d0, d1, d2, d3, d4, d5, d6, d7, e0, e1, e2, e3, e4, e5, e6, e7⟩
      go_wp2_with fail
      refine wp_region_held_drew (S := fun w' => w'.cell? ⟨b, off + lo * 8, none⟩ = some (.int .i64 y.dev) ∧ w'.cell? ⟨b, off + lo * 8 + 1, none⟩ = some (.int .i64 y.seq) ∧ w'.cell? ⟨b, off + lo * 8 + 2, none⟩ = some (.int .i64 y.stamp) ∧ w'.cell? ⟨b, off + lo * 8 + 3, none⟩ = some (.int .i64 y.kind) ∧ w'.cell? ⟨b, off + lo * 8 + 4, none⟩ = some (.string y.item) ∧ w'.cell? ⟨b, off + lo * 8 + 5, none⟩ = some (.int .i64 y.qty) ∧ w'.cell? ⟨b, off + lo * 8 + 6, none⟩ = some (.int .i64 y.level) ∧ w'.cell? ⟨b, off + lo * 8 + 7, none⟩ = some (.int .i64 y.undos) ∧ w'.cell? ⟨w.heap.size, 0, none⟩ = some (.int .i64 x.dev) ∧ w'.cell? ⟨w.heap.size, 1, none⟩ = some (.int .i64 x.seq) ∧ w'.cell? ⟨w.heap.size, 2, none⟩ = some (.int .i64 x.stamp) ∧ w'.cell? ⟨w.heap.size, 3, none⟩ = some (.int .i64 x.kind) ∧ w'.cell? ⟨w.heap.size, 4, none⟩ = some (.string x.item) ∧ w'.cell? ⟨w.heap.size, 5, none⟩ = some (.int .i64 x.qty) ∧ w'.cell? ⟨w.heap.size, 6, none⟩ = some (.int .i64 x.level) ∧ w'.cell? ⟨w.heap.size, 7, none⟩ = some (.int .i64 x.undos)) (by kernel_rfl) hS (fun hHeld => ?_)
      refine wpAnyH_take (i := 0) (oi := { dst := some 35, op := .move (.tmp 9), type := 3, pos := "sort.go:167", after := #[], guard := none }) (v := ?_) rfl (by kernel_rfl) (by kernel_rfl) (by kernel_rfl) (fun _ _ _ h => h) (Or.inl ⟨by rfl, ?_⟩) (by assumption) ?_
      rotate_left
      · intro w hSw
        (try dsimp only at hSw)
        first | (go_simp; done) | (go_simp; with_reducible rfl)
      (try simp only [Act.put, List.setIfInBounds_toArray, List.set_cons_zero, List.set_cons_succ])
      refine wpAnyH_take (i := 1) (oi := { dst := some 36, op := .move (.tmp 9), type := 3, pos := "sort.go:167", after := #[], guard := none }) (v := ?_) rfl (by kernel_rfl) (by kernel_rfl) (by kernel_rfl) (fun _ _ _ h => h) (Or.inl ⟨by rfl, ?_⟩) (by assumption) ?_
      rotate_left
      · intro w hSw
        (try dsimp only at hSw)
        first | (go_simp; done) | (go_simp; with_reducible rfl)
      (try simp only [Act.put, List.setIfInBounds_toArray, List.set_cons_zero, List.set_cons_succ])
      refine wpAnyH_take (i := 2) (oi := { dst := some 37, op := .move (.tmp 8), type := 3, pos := "sort.go:167", after := #[], guard := none }) (v := ?_) rfl (by kernel_rfl) (by kernel_rfl) (by kernel_rfl) (fun _ _ _ h => h) (Or.inl ⟨by rfl, ?_⟩) (by assumption) ?_
      rotate_left
      · intro w hSw
        (try dsimp only at hSw)
        first | (go_simp; done) | (go_simp; with_reducible rfl)
      (try simp only [Act.put, List.setIfInBounds_toArray, List.set_cons_zero, List.set_cons_succ])
      refine wpAnyH_take (i := 3) (oi := { dst := some 38, op := .binOp .lss 3 (.tmp 36) (.tmp 37) 3, type := 4, pos := "sort.go:167", after := #[⟨1, .data⟩, ⟨2, .data⟩], guard := none }) (v := ?_) rfl (by kernel_rfl) (by kernel_rfl) (by kernel_rfl) (fun _ _ _ h => h) (Or.inl ⟨by rfl, ?_⟩) (by assumption) ?_
      rotate_left
      · intro w hSw
        (try dsimp only at hSw)
        first | (go_simp; done) | (go_simp; with_reducible rfl)
      (try simp only [Act.put, List.setIfInBounds_toArray, List.set_cons_zero, List.set_cons_succ])
      refine wpAnyH_take (i := 4) (oi := { dst := some 39, op := .move (.tmp 38), type := 4, pos := "sort.go:167", after := #[⟨3, .data⟩], guard := none }) (v := ?_) rfl (by kernel_rfl) (by kernel_rfl) (by kernel_rfl) (fun _ _ _ h => h) (Or.inl ⟨by rfl, ?_⟩) (by assumption) ?_
      rotate_left
      · intro w hSw
        (try dsimp only at hSw)
        first | (go_simp; done) | (go_simp; with_reducible rfl)
      (try simp only [Act.put, List.setIfInBounds_toArray, List.set_cons_zero, List.set_cons_succ])
      refine wpAnyH_take (i := 5) (oi := { dst := some 40, op := .move (.tmp 2), type := 79, pos := "sort.go:167", after := #[⟨4, .guard⟩], guard := some (4, true) }) (v := ?_) rfl (by kernel_rfl) (by kernel_rfl) (by kernel_rfl) (fun _ _ _ h => h) (Or.inl ⟨by rfl, ?_⟩) (by assumption) ?_
      rotate_left
      · intro w hSw
        (try dsimp only at hSw)
        first | (go_simp; done) | (go_simp; with_reducible rfl)
      (try simp only [Act.put, List.setIfInBounds_toArray, List.set_cons_zero, List.set_cons_succ])
      refine wpAnyH_take (i := 6) (oi := { dst := some 41, op := .move (.tmp 0), type := 25, pos := "sort.go:167", after := #[⟨4, .guard⟩], guard := some (4, true) }) (v := ?_) rfl (by kernel_rfl) (by kernel_rfl) (by kernel_rfl) (fun _ _ _ h => h) (Or.inl ⟨by rfl, ?_⟩) (by assumption) ?_
      rotate_left
      · intro w hSw
        (try dsimp only at hSw)
        first | (go_simp; done) | (go_simp; with_reducible rfl)
      (try simp only [Act.put, List.setIfInBounds_toArray, List.set_cons_zero, List.set_cons_succ])
      refine wpAnyH_take (i := 7) (oi := { dst := some 42, op := .move (.tmp 9), type := 3, pos := "sort.go:167", after := #[⟨4, .guard⟩], guard := some (4, true) }) (v := ?_) rfl (by kernel_rfl) (by kernel_rfl) (by kernel_rfl) (fun _ _ _ h => h) (Or.inl ⟨by rfl, ?_⟩) (by assumption) ?_
      rotate_left
      · intro w hSw
        (try dsimp only at hSw)
        first | (go_simp; done) | (go_simp; with_reducible rfl)
      (try simp only [Act.put, List.setIfInBounds_toArray, List.set_cons_zero, List.set_cons_succ])
      refine wpAnyH_take (i := 8) (oi := { dst := some 43, op := .indexAddr 25 (.tmp 41) (.tmp 42), type := 0, pos := "sort.go:167", after := #[⟨6, .data⟩, ⟨7, .data⟩, ⟨4, .guard⟩], guard := some (4, true) }) (v := ?_) rfl (by kernel_rfl) (by kernel_rfl) (by kernel_rfl) (fun _ _ _ h => h) (Or.inl ⟨by rfl, ?_⟩) (by assumption) ?_
      rotate_left
      · intro w hSw
        (try dsimp only at hSw)
        first | (go_simp; done) | (go_simp; with_reducible rfl)
      (try simp only [Act.put, List.setIfInBounds_toArray, List.set_cons_zero, List.set_cons_succ])
      refine wpAnyH_take (i := 9) (oi := { dst := some 44, op := .load 34 (.tmp 43), type := 34, pos := "sort.go:167", after := #[⟨8, .data⟩, ⟨4, .guard⟩], guard := some (4, true) }) (v := ?_) rfl (by kernel_rfl) (by kernel_rfl) (by kernel_rfl) (fun _ _ _ h => h) (Or.inl ⟨by rfl, ?_⟩) (by assumption) ?_
      rotate_left
      · intro w hSw
        (try dsimp only at hSw)
        first | (go_simp; done) | (go_simp; with_reducible rfl)
      (try simp only [Act.put, List.setIfInBounds_toArray, List.set_cons_zero, List.set_cons_succ])
      refine wpAnyH_take (i := 10) (oi := { dst := some 45, op := .load 34 (.tmp 4), type := 34, pos := "sort.go:167", after := #[⟨4, .guard⟩], guard := some (4, true) }) (v := ?_) rfl (by kernel_rfl) (by kernel_rfl) (by kernel_rfl) (fun _ _ _ h => h) (Or.inl ⟨by rfl, ?_⟩) (by assumption) ?_
      rotate_left
      · intro w hSw
        (try dsimp only at hSw)
        first | (go_simp; done) | (go_simp; with_reducible rfl)
      (try simp only [Act.put, List.setIfInBounds_toArray, List.set_cons_zero, List.set_cons_succ])
      refine wpAnyH_ready (rs := [11]) (by kernel_rfl) (by simp) ?_
      refine AllReadyH.cons (o := { dst := some 46, op := .call { callee := .value (.tmp 40), args := #[.tmp 44, .tmp 45], argTypes := #[34, 34] }, type := 3, pos := "sort.go:167", after := #[⟨5, .data⟩, ⟨9, .data⟩, ⟨10, .data⟩, ⟨4, .chain⟩, ⟨4, .guard⟩], guard := some (4, true) }) rfl (fun K hK => ?_) AllReadyH.nil
      go_simp
      go_at_call 146
      refine (byNumber y.dev y.seq y.stamp y.kind y.item y.qty y.level y.undos x.dev x.seq x.stamp x.kind x.item x.qty x.level x.undos _).mono ?_
      rintro e w2 ⟨rfl, hb2⟩
      rw [← HC.out]
      have hS2 : w2.cell? ⟨b, off + lo * 8, none⟩ = some (.int .i64 y.dev) ∧ w2.cell? ⟨b, off + lo * 8 + 1, none⟩ = some (.int .i64 y.seq) ∧ w2.cell? ⟨b, off + lo * 8 + 2, none⟩ = some (.int .i64 y.stamp) ∧ w2.cell? ⟨b, off + lo * 8 + 3, none⟩ = some (.int .i64 y.kind) ∧ w2.cell? ⟨b, off + lo * 8 + 4, none⟩ = some (.string y.item) ∧ w2.cell? ⟨b, off + lo * 8 + 5, none⟩ = some (.int .i64 y.qty) ∧ w2.cell? ⟨b, off + lo * 8 + 6, none⟩ = some (.int .i64 y.level) ∧ w2.cell? ⟨b, off + lo * 8 + 7, none⟩ = some (.int .i64 y.undos) ∧ w2.cell? ⟨w.heap.size, 0, none⟩ = some (.int .i64 x.dev) ∧ w2.cell? ⟨w.heap.size, 1, none⟩ = some (.int .i64 x.seq) ∧ w2.cell? ⟨w.heap.size, 2, none⟩ = some (.int .i64 x.stamp) ∧ w2.cell? ⟨w.heap.size, 3, none⟩ = some (.int .i64 x.kind) ∧ w2.cell? ⟨w.heap.size, 4, none⟩ = some (.string x.item) ∧ w2.cell? ⟨w.heap.size, 5, none⟩ = some (.int .i64 x.qty) ∧ w2.cell? ⟨w.heap.size, 6, none⟩ = some (.int .i64 x.level) ∧ w2.cell? ⟨w.heap.size, 7, none⟩ = some (.int .i64 x.undos) := by
          obtain ⟨q0, q1, q2, q3, q4, q5, q6, q7, q8, q9, q10, q11, q12, q13, q14, q15⟩ := hS
          exact ⟨(hb2.cell (block_lt_of_cell q0)).trans q0, (hb2.cell (block_lt_of_cell q1)).trans q1, (hb2.cell (block_lt_of_cell q2)).trans q2, (hb2.cell (block_lt_of_cell q3)).trans q3, (hb2.cell (block_lt_of_cell q4)).trans q4, (hb2.cell (block_lt_of_cell q5)).trans q5, (hb2.cell (block_lt_of_cell q6)).trans q6, (hb2.cell (block_lt_of_cell q7)).trans q7, (hb2.cell (block_lt_of_cell q8)).trans q8, (hb2.cell (block_lt_of_cell q9)).trans q9, (hb2.cell (block_lt_of_cell q10)).trans q10, (hb2.cell (block_lt_of_cell q11)).trans q11, (hb2.cell (block_lt_of_cell q12)).trans q12, (hb2.cell (block_lt_of_cell q13)).trans q13, (hb2.cell (block_lt_of_cell q14)).trans q14, (hb2.cell (block_lt_of_cell q15)).trans q15⟩
      refine hK.out _ _ hS2 (fun hHeld2 => ?_)
      clear hK K
      (try simp only [Act.put, List.setIfInBounds_toArray, List.set_cons_zero, List.set_cons_succ])
      have HB2 := Lib.hid (HBr.out.trans ((Below.mk hb2.os hb2.tape hb2.output hb2.size hb2.block : Below wr.heap.size wr w2).mono HBr.out.size))
      generalize cmpAt l x lo = cm at HFo HC ⊢
      have hcz : (cm == 0) = decide (cm = 0) := by by_cases h : cm = 0 <;> simp [h]
      refine wpAnyH_take (i := 12) (oi := { dst := some 47, op := .binOp .eql 3 (.tmp 46) (.const (Value.int IntKind.i64 0)) 3, type := 4, pos := "sort.go:167", after := #[⟨11, .data⟩, ⟨4, .guard⟩, { on := 14, ground := Ground.gcOnly Departure.lateStores }], guard := some (4, true) }) (v := ?_) rfl (by kernel_rfl) (by kernel_rfl) (by kernel_rfl) (fun _ _ _ h => h) (Or.inl ⟨by rfl, ?_⟩) (by assumption) ?_
      rotate_left
      · intro w hSw
        (try dsimp only at hSw)
        first | (go_simp; done) | (go_simp; with_reducible rfl)
      (try simp only [Act.put, List.setIfInBounds_toArray, List.set_cons_zero, List.set_cons_succ])
      refine wpAnyH_take (i := 13) (oi := { dst := some 48, op := .pick (.tmp 39) (.tmp 47) (.const (Value.bool false)), type := 4, pos := "sort.go:167", after := #[⟨4, .data⟩, ⟨12, .data⟩, { on := 14, ground := Ground.gcOnly Departure.lateStores }], guard := none }) (v := ?_) rfl (by kernel_rfl) (by kernel_rfl) (by kernel_rfl) (fun _ _ _ h => h) (Or.inl ⟨by rfl, ?_⟩) (by assumption) ?_
      rotate_left
      · intro w hSw
        (try dsimp only at hSw)
        first | (go_simp; done) | (go_simp; with_reducible rfl)
      (try simp only [Act.put, List.setIfInBounds_toArray, List.set_cons_zero, List.set_cons_succ])
      refine wpAnyH_take (i := 14) (oi := { dst := some 6, op := .assign (.tmp 35), type := 3, pos := "sort.go:167", after := #[⟨0, .data⟩, ⟨11, .chain⟩, ⟨0, .phase⟩, ⟨1, .textOnly .lateStores⟩, ⟨2, .textOnly .lateStores⟩, ⟨3, .textOnly .lateStores⟩, ⟨4, .textOnly .lateStores⟩, ⟨5, .textOnly .lateStores⟩, ⟨6, .textOnly .lateStores⟩, ⟨7, .textOnly .lateStores⟩, ⟨8, .textOnly .lateStores⟩, ⟨9, .textOnly .lateStores⟩, ⟨10, .textOnly .lateStores⟩, ⟨11, .textOnly .lateStoresUnsure⟩, ⟨12, .textOnly .lateStores⟩, ⟨13, .textOnly .lateStores⟩], guard := none }) (v := ?_) rfl (by kernel_rfl) (by kernel_rfl) (by kernel_rfl) (fun _ _ _ h => h) (Or.inl ⟨by rfl, ?_⟩) (by assumption) ?_
      rotate_left
      · intro w hSw
        (try dsimp only at hSw)
        first | (go_simp; done) | (go_simp; with_reducible rfl)
      (try simp only [Act.put, List.setIfInBounds_toArray, List.set_cons_zero, List.set_cons_succ])
      refine wpAnyH_take (i := 15) (oi := { dst := some 7, op := .assign (.tmp 48), type := 4, pos := "sort.go:167", after := #[⟨13, .data⟩, ⟨14, .chain⟩, ⟨0, .phase⟩, ⟨1, .phase⟩, ⟨2, .phase⟩, ⟨3, .phase⟩, ⟨4, .phase⟩, ⟨5, .phase⟩, ⟨6, .phase⟩, ⟨7, .phase⟩, ⟨8, .phase⟩, ⟨9, .phase⟩, ⟨10, .phase⟩, ⟨11, .phase⟩, ⟨12, .phase⟩, ⟨13, .phase⟩, ⟨14, .phase⟩], guard := none }) (v := ?_) rfl (by kernel_rfl) (by kernel_rfl) (by kernel_rfl) (fun _ _ _ h => h) (Or.inl ⟨by rfl, ?_⟩) (by assumption) ?_
      rotate_left
      · intro w hSw
        (try dsimp only at hSw)
        first | (go_simp; done) | (go_simp; with_reducible rfl)
      (try simp only [Act.put, List.setIfInBounds_toArray, List.set_cons_zero, List.set_cons_succ])
      refine wpAnyH_done (by kernel_rfl) ?_ _
      clear hS hS2 hb2 hHeld hHeld2 d0 d1 d2 d3 d4 d5 d6 d7 e0 e1 e2 e3 e4 e5 e6 e7 hcz
      go_wp2
      go_ret2
      exact ⟨⟨lo, _, rfl, HFo.out⟩, HB.out.trans (HB2.out.mono HB.out.size)⟩
    · obtain rfl : lo = n := by omega
      have hei : decide ((lo : Int) < (lo : Int)) = false := decide_eq_false (by omega)
      have HFo : Hid (Found l x lo false) := by have := found_end (x := x) HInc.out (fun j hj => HR.out.1 j (by rw [← HL.out]; exact hj)); rw [HL.out] at this; exact this
      have hS : wr.drew.cell? ⟨w.heap.size, 0, none⟩ = some (.int .i64 x.dev) ∧ wr.drew.cell? ⟨w.heap.size, 1, none⟩ = some (.int .i64 x.seq) ∧ wr.drew.cell? ⟨w.heap.size, 2, none⟩ = some (.int .i64 x.stamp) ∧ wr.drew.cell? ⟨w.heap.size, 3, none⟩ = some (.int .i64 x.kind) ∧ wr.drew.cell? ⟨w.heap.size, 4, none⟩ = some (.string x.item) ∧ wr.drew.cell? ⟨w.heap.size, 5, none⟩ = some (.int .i64 x.qty) ∧ wr.drew.cell? ⟨w.heap.size, 6, none⟩ = some (.int .i64 x.level) ∧ wr.drew.cell? ⟨w.heap.size, 7, none⟩ = some (.int .i64 x.undos) := ⟨e0, e1, e2, e3, e4, e5, e6, e7⟩
      go_wp2_with fail
      refine wp_region_held_drew (S := fun w' => w'.cell? ⟨w.heap.size, 0, none⟩ = some (.int .i64 x.dev) ∧ w'.cell? ⟨w.heap.size, 1, none⟩ = some (.int .i64 x.seq) ∧ w'.cell? ⟨w.heap.size, 2, none⟩ = some (.int .i64 x.stamp) ∧ w'.cell? ⟨w.heap.size, 3, none⟩ = some (.int .i64 x.kind) ∧ w'.cell? ⟨w.heap.size, 4, none⟩ = some (.string x.item) ∧ w'.cell? ⟨w.heap.size, 5, none⟩ = some (.int .i64 x.qty) ∧ w'.cell? ⟨w.heap.size, 6, none⟩ = some (.int .i64 x.level) ∧ w'.cell? ⟨w.heap.size, 7, none⟩ = some (.int .i64 x.undos)) (by kernel_rfl) hS (fun hHeld => ?_)
      refine wpAnyH_take (i := 0) (oi := { dst := some 35, op := .move (.tmp 9), type := 3, pos := "sort.go:167", after := #[], guard := none }) (v := ?_) rfl (by kernel_rfl) (by kernel_rfl) (by kernel_rfl) (fun _ _ _ h => h) (Or.inl ⟨by rfl, ?_⟩) (by assumption) ?_
      rotate_left
      · intro w hSw
        (try dsimp only at hSw)
        first | (go_simp; done) | (go_simp; with_reducible rfl)
      (try simp only [Act.put, List.setIfInBounds_toArray, List.set_cons_zero, List.set_cons_succ])
      refine wpAnyH_take (i := 1) (oi := { dst := some 36, op := .move (.tmp 9), type := 3, pos := "sort.go:167", after := #[], guard := none }) (v := ?_) rfl (by kernel_rfl) (by kernel_rfl) (by kernel_rfl) (fun _ _ _ h => h) (Or.inl ⟨by rfl, ?_⟩) (by assumption) ?_
      rotate_left
      · intro w hSw
        (try dsimp only at hSw)
        first | (go_simp; done) | (go_simp; with_reducible rfl)
      (try simp only [Act.put, List.setIfInBounds_toArray, List.set_cons_zero, List.set_cons_succ])
      refine wpAnyH_take (i := 2) (oi := { dst := some 37, op := .move (.tmp 8), type := 3, pos := "sort.go:167", after := #[], guard := none }) (v := ?_) rfl (by kernel_rfl) (by kernel_rfl) (by kernel_rfl) (fun _ _ _ h => h) (Or.inl ⟨by rfl, ?_⟩) (by assumption) ?_
      rotate_left
      · intro w hSw
        (try dsimp only at hSw)
        first | (go_simp; done) | (go_simp; with_reducible rfl)
      (try simp only [Act.put, List.setIfInBounds_toArray, List.set_cons_zero, List.set_cons_succ])
      refine wpAnyH_take (i := 3) (oi := { dst := some 38, op := .binOp .lss 3 (.tmp 36) (.tmp 37) 3, type := 4, pos := "sort.go:167", after := #[⟨1, .data⟩, ⟨2, .data⟩], guard := none }) (v := ?_) rfl (by kernel_rfl) (by kernel_rfl) (by kernel_rfl) (fun _ _ _ h => h) (Or.inl ⟨by rfl, ?_⟩) (by assumption) ?_
      rotate_left
      · intro w hSw
        (try dsimp only at hSw)
        first | (go_simp; done) | (go_simp; with_reducible rfl)
      (try simp only [Act.put, List.setIfInBounds_toArray, List.set_cons_zero, List.set_cons_succ])
      refine wpAnyH_take (i := 4) (oi := { dst := some 39, op := .move (.tmp 38), type := 4, pos := "sort.go:167", after := #[⟨3, .data⟩], guard := none }) (v := ?_) rfl (by kernel_rfl) (by kernel_rfl) (by kernel_rfl) (fun _ _ _ h => h) (Or.inl ⟨by rfl, ?_⟩) (by assumption) ?_
      rotate_left
      · intro w hSw
        (try dsimp only at hSw)
        first | (go_simp; done) | (go_simp; with_reducible rfl)
      (try simp only [Act.put, List.setIfInBounds_toArray, List.set_cons_zero, List.set_cons_succ])
      refine wpAnyH_take (i := 5) (oi := { dst := some 40, op := .move (.tmp 2), type := 79, pos := "sort.go:167", after := #[⟨4, .guard⟩], guard := some (4, true) }) (v := undef) rfl (by kernel_rfl) (by kernel_rfl) (by kernel_rfl) (fun _ _ _ h => h) (Or.inr ⟨by rfl, rfl⟩) (by assumption) ?_
      (try simp only [Act.put, List.setIfInBounds_toArray, List.set_cons_zero, List.set_cons_succ])
      refine wpAnyH_take (i := 6) (oi := { dst := some 41, op := .move (.tmp 0), type := 25, pos := "sort.go:167", after := #[⟨4, .guard⟩], guard := some (4, true) }) (v := undef) rfl (by kernel_rfl) (by kernel_rfl) (by kernel_rfl) (fun _ _ _ h => h) (Or.inr ⟨by rfl, rfl⟩) (by assumption) ?_
      (try simp only [Act.put, List.setIfInBounds_toArray, List.set_cons_zero, List.set_cons_succ])
      refine wpAnyH_take (i := 7) (oi := { dst := some 42, op := .move (.tmp 9), type := 3, pos := "sort.go:167", after := #[⟨4, .guard⟩], guard := some (4, true) }) (v := undef) rfl (by kernel_rfl) (by kernel_rfl) (by kernel_rfl) (fun _ _ _ h => h) (Or.inr ⟨by rfl, rfl⟩) (by assumption) ?_
      (try simp only [Act.put, List.setIfInBounds_toArray, List.set_cons_zero, List.set_cons_succ])
      refine wpAnyH_take (i := 8) (oi := { dst := some 43, op := .indexAddr 25 (.tmp 41) (.tmp 42), type := 0, pos := "sort.go:167", after := #[⟨6, .data⟩, ⟨7, .data⟩, ⟨4, .guard⟩], guard := some (4, true) }) (v := undef) rfl (by kernel_rfl) (by kernel_rfl) (by kernel_rfl) (fun _ _ _ h => h) (Or.inr ⟨by rfl, rfl⟩) (by assumption) ?_
      (try simp only [Act.put, List.setIfInBounds_toArray, List.set_cons_zero, List.set_cons_succ])
      refine wpAnyH_take (i := 9) (oi := { dst := some 44, op := .load 34 (.tmp 43), type := 34, pos := "sort.go:167", after := #[⟨8, .data⟩, ⟨4, .guard⟩], guard := some (4, true) }) (v := undef) rfl (by kernel_rfl) (by kernel_rfl) (by kernel_rfl) (fun _ _ _ h => h) (Or.inr ⟨by rfl, rfl⟩) (by assumption) ?_
      (try simp only [Act.put, List.setIfInBounds_toArray, List.set_cons_zero, List.set_cons_succ])
      refine wpAnyH_take (i := 10) (oi := { dst := some 45, op := .load 34 (.tmp 4), type := 34, pos := "sort.go:167", after := #[⟨4, .guard⟩], guard := some (4, true) }) (v := undef) rfl (by kernel_rfl) (by kernel_rfl) (by kernel_rfl) (fun _ _ _ h => h) (Or.inr ⟨by rfl, rfl⟩) (by assumption) ?_
      (try simp only [Act.put, List.setIfInBounds_toArray, List.set_cons_zero, List.set_cons_succ])
      refine wpAnyH_take (i := 11) (oi := { dst := some 46, op := .call { callee := .value (.tmp 40), args := #[.tmp 44, .tmp 45], argTypes := #[34, 34] }, type := 3, pos := "sort.go:167", after := #[⟨5, .data⟩, ⟨9, .data⟩, ⟨10, .data⟩, ⟨4, .chain⟩, ⟨4, .guard⟩], guard := some (4, true) }) (v := undef) rfl (by kernel_rfl) (by kernel_rfl) (by kernel_rfl) (fun _ _ _ h => h) (Or.inr ⟨by rfl, rfl⟩) (by assumption) ?_
      (try simp only [Act.put, List.setIfInBounds_toArray, List.set_cons_zero, List.set_cons_succ])
      refine wpAnyH_take (i := 12) (oi := { dst := some 47, op := .binOp .eql 3 (.tmp 46) (.const (Value.int IntKind.i64 0)) 3, type := 4, pos := "sort.go:167", after := #[⟨11, .data⟩, ⟨4, .guard⟩, { on := 14, ground := Ground.gcOnly Departure.lateStores }], guard := some (4, true) }) (v := undef) rfl (by kernel_rfl) (by kernel_rfl) (by kernel_rfl) (fun _ _ _ h => h) (Or.inr ⟨by rfl, rfl⟩) (by assumption) ?_
      (try simp only [Act.put, List.setIfInBounds_toArray, List.set_cons_zero, List.set_cons_succ])
      refine wpAnyH_take (i := 13) (oi := { dst := some 48, op := .pick (.tmp 39) (.tmp 47) (.const (Value.bool false)), type := 4, pos := "sort.go:167", after := #[⟨4, .data⟩, ⟨12, .data⟩, { on := 14, ground := Ground.gcOnly Departure.lateStores }], guard := none }) (v := ?_) rfl (by kernel_rfl) (by kernel_rfl) (by kernel_rfl) (fun _ _ _ h => h) (Or.inl ⟨by rfl, ?_⟩) (by assumption) ?_
      rotate_left
      · intro w hSw
        (try dsimp only at hSw)
        first | (go_simp; done) | (go_simp; with_reducible rfl)
      (try simp only [Act.put, List.setIfInBounds_toArray, List.set_cons_zero, List.set_cons_succ])
      refine wpAnyH_take (i := 14) (oi := { dst := some 6, op := .assign (.tmp 35), type := 3, pos := "sort.go:167", after := #[⟨0, .data⟩, ⟨11, .chain⟩, ⟨0, .phase⟩, ⟨1, .textOnly .lateStores⟩, ⟨2, .textOnly .lateStores⟩, ⟨3, .textOnly .lateStores⟩, ⟨4, .textOnly .lateStores⟩, ⟨5, .textOnly .lateStores⟩, ⟨6, .textOnly .lateStores⟩, ⟨7, .textOnly .lateStores⟩, ⟨8, .textOnly .lateStores⟩, ⟨9, .textOnly .lateStores⟩, ⟨10, .textOnly .lateStores⟩, ⟨11, .textOnly .lateStoresUnsure⟩, ⟨12, .textOnly .lateStores⟩, ⟨13, .textOnly .lateStores⟩], guard := none }) (v := ?_) rfl (by kernel_rfl) (by kernel_rfl) (by kernel_rfl) (fun _ _ _ h => h) (Or.inl ⟨by rfl, ?_⟩) (by assumption) ?_
      rotate_left
      · intro w hSw
        (try dsimp only at hSw)
        first | (go_simp; done) | (go_simp; with_reducible rfl)
      (try simp only [Act.put, List.setIfInBounds_toArray, List.set_cons_zero, List.set_cons_succ])
      refine wpAnyH_take (i := 15) (oi := { dst := some 7, op := .assign (.tmp 48), type := 4, pos := "sort.go:167", after := #[⟨13, .data⟩, ⟨14, .chain⟩, ⟨0, .phase⟩, ⟨1, .phase⟩, ⟨2, .phase⟩, ⟨3, .phase⟩, ⟨4, .phase⟩, ⟨5, .phase⟩, ⟨6, .phase⟩, ⟨7, .phase⟩, ⟨8, .phase⟩, ⟨9, .phase⟩, ⟨10, .phase⟩, ⟨11, .phase⟩, ⟨12, .phase⟩, ⟨13, .phase⟩, ⟨14, .phase⟩], guard := none }) (v := ?_) rfl (by kernel_rfl) (by kernel_rfl) (by kernel_rfl) (fun _ _ _ h => h) (Or.inl ⟨by rfl, ?_⟩) (by assumption) ?_
      rotate_left
      · intro w hSw
        (try dsimp only at hSw)
        first | (go_simp; done) | (go_simp; with_reducible rfl)
      (try simp only [Act.put, List.setIfInBounds_toArray, List.set_cons_zero, List.set_cons_succ])
      refine wpAnyH_done (by kernel_rfl) ?_ _
      clear hS hHeld e0 e1 e2 e3 e4 e5 e6 e7
      go_wp2
      go_ret2
      exact ⟨⟨lo, false, rfl, HFo.out⟩, HB.out.trans ((Below.mk HBr.out.os HBr.out.tape HBr.out.output HBr.out.size HBr.out.block : Below w0.heap.size w0 wr.drew).mono HB.out.size)⟩
def Looked (l : List OpV) (x : OpV) (v : Value) : Prop := (∃ i, i < l.length ∧ eqN l i x.dev x.seq ∧ v = .tuple #[opVal (atOp l i), .bool true]) ∨ ((∀ j, j < l.length → ¬ eqN l j x.dev x.seq) ∧ v = .tuple #[.agg #[.int .i64 0, .int .i64 0, .int .i64 0, .int .i64 0, .string ⟨#[]⟩, .int .i64 0, .int .i64 0, .int .i64 0], .bool false])
set_option maxRecDepth 100000 in
set_option maxHeartbeats 4000000 in
theorem counterpart (w : World) (B : Nat) (a : Option Addr) (n c : Nat) (l : List OpV) (x : OpV) (h : Ops w B a n l) (hB : B ≤ w.heap.size) (hn : n ≤ 1048576) (hinc : incB l = true) :
    Calls Try.prog 80 #[.agg #[.slice a n c, .func (.func 146) #[] #[]], .agg #[.int .i64 x.dev, .int .i64 x.seq, .int .i64 x.stamp, .int .i64 x.kind, .string x.item, .int .i64 x.qty, .int .i64 x.level, .int .i64 x.undos]] w fun e w' => (∃ v, e = .returned v ∧ Looked l x v) ∧ Below w.heap.size w w' := by
  have HT := Lib.hid (TriF.mk0 w #[.slice a n c, .func (.func 146) #[] #[]] #[.int .i64 x.dev, .int .i64 x.seq, .int .i64 x.stamp, .int .i64 x.kind, .string x.item, .int .i64 x.qty, .int .i64 x.level, .int .i64 x.undos] #[.int .i64 0, .int .i64 0, .int .i64 0, .int .i64 0, .string ⟨#[]⟩, .int .i64 0, .int .i64 0, .int .i64 0] 81 34 34)
  have HO := Lib.hid (h.below HT.out.bel hB)
  have HL := Lib.hid h.1
  have HInc := Lib.hid hinc
  clear hinc h
  go_enter Try.func80, Try.ntmps80
  go_wp2_with fail
  generalize ((w.alloc (.cells #[.slice a n c, .func (.func 146) #[] #[]] 81)).alloc (.cells #[.int .i64 x.dev, .int .i64 x.seq, .int .i64 x.stamp, .int .i64 x.kind, .string x.item, .int .i64 x.qty, .int .i64 x.level, .int .i64 x.undos] 34)).alloc (.cells #[.int .i64 0, .int .i64 0, .int .i64 0, .int .i64 0, .string ⟨#[]⟩, .int .i64 0, .int .i64 0, .int .i64 0] 34) = w0 at HT HO ⊢
  have hs0 := HT.out.bel.size
  have hlt0 := (Array.getElem?_eq_some_iff.1 HT.out.res).1
  refine (binSearch w0 B a n c l x HO.out (by omega) hn HInc.out).mono ?_
  rintro e w1 ⟨⟨i, b, rfl, hfo⟩, hb1⟩
  have HF := Lib.hid hfo
  have HT1 := Lib.hid (HT.out.next hb1)
  have HO1 := Lib.hid (HO.out.below hb1 (by omega))
  have hs1 := hb1.size
  clear hfo hb1 HT HO
  cases b
  · have HNo := Lib.hid (HF.out.2.2 rfl)
    go_upto_region 4 with fail
    have hb2 : Below w1.heap.size w1 (w1.alloc (.cells #[.int .i64 0, .int .i64 0, .int .i64 0, .int .i64 0, .string ⟨#[]⟩, .int .i64 0, .int .i64 0, .int .i64 0] 34)) := (Below.refl _ _).alloc (Nat.le_refl _) _
    have HZ := Lib.hid (boxAt (Below.refl _ (w1.alloc (.cells #[.int .i64 0, .int .i64 0, .int .i64 0, .int .i64 0, .string ⟨#[]⟩, .int .i64 0, .int .i64 0, .int .i64 0] 34))))
    have HT2 := Lib.hid (HT1.out.next hb2)
    generalize w1.alloc (.cells #[.int .i64 0, .int .i64 0, .int .i64 0, .int .i64 0, .string ⟨#[]⟩, .int .i64 0, .int .i64 0, .int .i64 0] 34) = w2 at hb2 HZ HT2 ⊢
    generalize w1.heap.size = nz at HZ ⊢
    clear hb2 HT1 HO1
    obtain ⟨c0, c1, c2, c3, c4, c5, c6, c7⟩ := op_cells HZ.out
    obtain ⟨e0, e1, e2, e3, e4, e5, e6, e7⟩ := op_cells HT2.out.res
    obtain ⟨f0, f1, f2, f3, f4, f5, f6, f7⟩ := op_frozen HT2.out.res
    go_wp2
    have HX := Lib.hid (setOp_same (.int .i64 0) (.int .i64 0) (.int .i64 0) (.int .i64 0) (.string ⟨#[]⟩) (.int .i64 0) (.int .i64 0) (.int .i64 0) HT2.out.res)
    have HB := Lib.hid (setOp_below (.int .i64 0) (.int .i64 0) (.int .i64 0) (.int .i64 0) (.string ⟨#[]⟩) (.int .i64 0) (.int .i64 0) (.int .i64 0) HT2.out.bel (by show _ ≤ w.heap.size + 1 + 1; omega))
    clear c0 c1 c2 c3 c4 c5 c6 c7 e0 e1 e2 e3 e4 e5 e6 e7 f0 f1 f2 f3 f4 f5 f6 f7
    change bodyPost _ _ _ _ _ (setOp w2 (w.heap.size + 1 + 1) (.int .i64 0) (.int .i64 0) (.int .i64 0) (.int .i64 0) (.string ⟨#[]⟩) (.int .i64 0) (.int .i64 0) (.int .i64 0))
    generalize setOp w2 (w.heap.size + 1 + 1) (.int .i64 0) (.int .i64 0) (.int .i64 0) (.int .i64 0) (.string ⟨#[]⟩) (.int .i64 0) (.int .i64 0) (.int .i64 0) = wf at HX HB ⊢
    obtain ⟨d0, d1, d2, d3, d4, d5, d6, d7⟩ := op_cells HX.out
    exact bodyPost_ret (v := .tuple #[.agg #[.int .i64 0, .int .i64 0, .int .i64 0, .int .i64 0, .string ⟨#[]⟩, .int .i64 0, .int .i64 0, .int .i64 0], .bool false]) (by simp [results, Try.results80, go_sem, d0, d1, d2, d3, d4, d5, d6, d7]) rfl ⟨⟨_, rfl, .inr ⟨HNo.out, rfl⟩⟩, HB.out⟩
  · have HYes := Lib.hid (HF.out.2.1 rfl)
    have hin : i < n := by rw [← HL.out]; exact HYes.out.1
    have hini : (i : Int) < (n : Int) := by omega
    obtain ⟨b, off, rfl, hb, ho⟩ := HO1.out.2 i hin
    have HOk : Hid (OpAt w1 b (off + i * 8) (atOp l i)) := ho
    clear ho HF
    have HYe : Hid (∃ j, j < l.length ∧ eqN l j x.dev x.seq ∧ atOp l j = atOp l i) := ⟨i, HYes.out.1, HYes.out.2, rfl⟩
    have HRet : Hid (Looked l x (.tuple #[opVal (atOp l i), .bool true])) := .inl ⟨i, HYes.out.1, HYes.out.2, rfl⟩
    clear HYe HYes
    generalize atOp l i = y at HOk HRet
    obtain ⟨a0, a1⟩ := pair_cells HT1.out.fst
    obtain ⟨c0, c1, c2, c3, c4, c5, c6, c7⟩ := HOk.out
    obtain ⟨e0, e1, e2, e3, e4, e5, e6, e7⟩ := op_cells HT1.out.res
    obtain ⟨f0, f1, f2, f3, f4, f5, f6, f7⟩ := op_frozen HT1.out.res
    go_wp2
    have HX := Lib.hid (setOp_same (.int .i64 y.dev) (.int .i64 y.seq) (.int .i64 y.stamp) (.int .i64 y.kind) (.string y.item) (.int .i64 y.qty) (.int .i64 y.level) (.int .i64 y.undos) HT1.out.res)
    have HB := Lib.hid (setOp_below (.int .i64 y.dev) (.int .i64 y.seq) (.int .i64 y.stamp) (.int .i64 y.kind) (.string y.item) (.int .i64 y.qty) (.int .i64 y.level) (.int .i64 y.undos) HT1.out.bel (by show _ ≤ w.heap.size + 1 + 1; omega))
    clear a0 a1 c0 c1 c2 c3 c4 c5 c6 c7 e0 e1 e2 e3 e4 e5 e6 e7 f0 f1 f2 f3 f4 f5 f6 f7
    change bodyPost _ _ _ _ _ (setOp w1 (w.heap.size + 1 + 1) (.int .i64 y.dev) (.int .i64 y.seq) (.int .i64 y.stamp) (.int .i64 y.kind) (.string y.item) (.int .i64 y.qty) (.int .i64 y.level) (.int .i64 y.undos))
    generalize setOp w1 (w.heap.size + 1 + 1) (.int .i64 y.dev) (.int .i64 y.seq) (.int .i64 y.stamp) (.int .i64 y.kind) (.string y.item) (.int .i64 y.qty) (.int .i64 y.level) (.int .i64 y.undos) = wf at HX HB ⊢
    obtain ⟨d0, d1, d2, d3, d4, d5, d6, d7⟩ := op_cells HX.out
    exact bodyPost_ret (v := .tuple #[.agg #[.int .i64 y.dev, .int .i64 y.seq, .int .i64 y.stamp, .int .i64 y.kind, .string y.item, .int .i64 y.qty, .int .i64 y.level, .int .i64 y.undos], .bool true]) (by simp [results, Try.results80, go_sem, d0, d1, d2, d3, d4, d5, d6, d7]) rfl ⟨⟨_, rfl, HRet.out⟩, HB.out⟩

/-- What impl.Merged lays for an operation of the second cart. -/
def jn (l : List OpV) (x : OpV) : OpV := match getO l x.dev x.seq with
  | none => x
  | some y => x.with (max x.undos y.undos)
theorem jn_name (l : List OpV) (x : OpV) : (jn l x).dev = x.dev ∧ (jn l x).seq = x.seq := by
  unfold jn
  split <;> exact ⟨rfl, rfl⟩
theorem jn_none {l : List OpV} {x : OpV} (h : getO l x.dev x.seq = none) : jn l x = x := by unfold jn; rw [h]
theorem jn_some {l : List OpV} {x y : OpV} (h : getO l x.dev x.seq = some y) : jn l x = x.with (max x.undos y.undos) := by unfold jn; rw [h]
def mixF (l m : List OpV) : Nat → Int → Int → Option OpV
  | 0 => getO l
  | k + 1 => putF (mixF l m k) (jn l (atOp m k))
theorem mixF_miss {l m : List OpV} {d s : Int} : ∀ k, (∀ j, j < k → ¬ eqN m j d s) → mixF l m k d s = getO l d s
  | 0, _ => rfl
  | k + 1, h => by
    show putF (mixF l m k) (jn l (atOp m k)) d s = _
    unfold putF
    rw [(jn_name l (atOp m k)).1, (jn_name l (atOp m k)).2, if_neg (fun e => h k (by omega) ⟨e.1.symm, e.2.symm⟩)]
    exact mixF_miss k fun j hj => h j (by omega)
theorem mixF_hit {l m : List OpV} (hm : incB m = true) : ∀ k, k ≤ m.length → ∀ i, i < k → mixF l m k (atOp m i).dev (atOp m i).seq = some (jn l (atOp m i))
  | 0, _, i, hi => absurd hi (Nat.not_lt_zero _)
  | k + 1, hk, i, hi => by
    show putF (mixF l m k) (jn l (atOp m k)) _ _ = _
    unfold putF
    rw [(jn_name l (atOp m k)).1, (jn_name l (atOp m k)).2]
    by_cases e : (atOp m i).dev = (atOp m k).dev ∧ (atOp m i).seq = (atOp m k).seq
    · rw [if_pos e]
      have := inc_uniq hm (i := i) (j := k) (by omega) (by omega) (dev := (atOp m k).dev) (seq := (atOp m k).seq) e ⟨rfl, rfl⟩
      rw [this]
    · rw [if_neg e]
      have hik : i ≠ k := fun e2 => e (by rw [e2]; exact ⟨rfl, rfl⟩)
      exact mixF_hit hm k (by omega) i (by omega)
theorem mixF_next {l m : List OpV} (hm : incB m = true) {k : Nat} (hk : k < m.length) : mixF l m k (atOp m k).dev (atOp m k).seq = getO l (atOp m k).dev (atOp m k).seq :=
  mixF_miss k fun j hj e => by
    have := inc_uniq hm (i := j) (j := k) (by omega) hk (dev := (atOp m k).dev) (seq := (atOp m k).seq) e ⟨rfl, rfl⟩
    omega
/-- Of two valid carts that fit the set has what is to be listed. -/
theorem mix_join {xs : List Int} {l : List OpV} {ys : List Int} {m : List OpV} (h : cartB xs l = true) (h2 : cartB ys m = true) (ho : okM l m = true) {d : Nat} (hd : d < 4) {s : Nat} (hs : (s : Int) < max (xs.getD d 0) (ys.getD d 0)) :
    mixF l m m.length (d : Int) ((s : Int) + 1) = some (joinAt l m (d : Int) ((s : Int) + 1)) := by
  by_cases hy : (s : Int) < ys.getD d 0
  · obtain ⟨h5, h6⟩ := cart_has h2 hd hy
    have e1 := mixF_hit (l := l) (cart_inc h2) m.length (Nat.le_refl _) _ h5
    have e2 : getO m (d : Int) ((s : Int) + 1) = some (atOp m (stOf ys d + s)) := get_has h2 hd hy
    have hj := okM_at ho h5
    rw [h6.1, h6.2] at e1
    rw [e1]
    unfold joinAt
    rw [e2]
    rcases hg : getO l (d : Int) ((s : Int) + 1) with _ | a
    · rw [jn_none (by rw [h6.1, h6.2]; exact hg)]
    · have hg' : getO l (atOp m (stOf ys d + s)).dev (atOp m (stOf ys d + s)).seq = some a := by rw [h6.1, h6.2]; exact hg
      rw [jn_some hg']
      rw [okJ_some hg'] at hj
      have ha := same_yes hj
      show some _ = some (a.with (max a.undos (atOp m (stOf ys d + s)).undos))
      rw [Int.max_comm a.undos]
      generalize max (atOp m (stOf ys d + s)).undos a.undos = u
      rw [ha]
      rfl
  · have hx : (s : Int) < xs.getD d 0 := by omega
    have e2 : getO m (d : Int) ((s : Int) + 1) = none := get_none h2 (by omega)
    have e3 : getO l (d : Int) ((s : Int) + 1) = some (atOp l (stOf xs d + s)) := get_has h hd hx
    rw [mixF_miss _ fun j hj e => by
      have := cart_seq h2 hj e.1
      have := e.2
      omega, e3]
    unfold joinAt
    rw [e2, e3]
/-- A list of the call's own, and what is known of its capacity. -/
def OpsPostK (l : List OpV) (w : World) (e : Ending) (w' : World) : Prop := ∃ a c, e = .returned (.slice a l.length c) ∧ Caps a l.length c ∧ OwnOps w' w.heap.size w'.heap.size a l.length l ∧ Below w.heap.size w w'
set_option linter.unusedSimpArgs false in
set_option maxRecDepth 100000 in
set_option maxHeartbeats 8000000 in
theorem listed (w : World) (B : Nat) (av : Option Addr) (cv : Nat) (zs : List Int) (hx : Ints w B av 4 zs) (hB : B ≤ w.heap.size) (hv : vecOk zs = true) (b n : Nat) (G : Int → Int → Option OpV) (hs : SetIs w b n G) (hn : n ≤ 4194304)
    (F : Nat → Nat → OpV) (hG : ∀ d, d < 4 → ∀ s : Nat, (s : Int) < zs.getD d 0 → G (d : Int) ((s : Int) + 1) = some (F d s)) (hit : ∀ d s, (F d s).item.size ≤ 1048576) :
    Calls Try.prog 144 #[.map (some b), .slice av 4 cv] w (OpsPostK (listP zs F 4 0) w) := by
  obtain ⟨i0, hi, hz0, hz1, hz2⟩ := info_parts Try.infoOp
  obtain ⟨c, hc, hlen⟩ := hs.len
  obtain ⟨w1, hmk, hown0, hgr0⟩ := run_make_own (P := Try.prog) w w.heap.size 25 34 i0 (.agg #[.int .i64 0, .int .i64 0, .int .i64 0, .int .i64 0, .string ⟨#[]⟩, .int .i64 0, .int .i64 0, .int .i64 0]) 8 Try.underlying25 hi hz0 hz1 .i64 .i64 c (by rw [hz2]; omega) (by unfold maxLen; omega) (Nat.le_refl _)
  have HB1 : Hid (Below w.heap.size w w1) := ⟨hgr0.os, hgr0.tape, hgr0.output, hgr0.size, fun j hj => hgr0.block j hj (by simp)⟩
  have HV := Lib.hid (hx.below HB1.out hB)
  have HS := Lib.hid (hs.below HB1.out)
  have HOw := Lib.hid hown0
  have HG := Lib.hid hG
  have HIt := Lib.hid hit
  have HVk := Lib.hid (fun d (hd : d < 4) => vec_at hv hd)
  have hbw := hs.lt
  have HLen : Hid ((listP zs F 4 0).length ≤ 160) := by
    show _ ≤ _
    rw [listP_len]
    exact stOf_le hv 4 (by omega)
  clear hx hs hown0 hgr0 hG hit hc hv
  go_enter Try.func144, Try.ntmps144
  go_upto_region 2 with fail
  clear hmk hlen
  go_wp2
  go_loopw [5, 15] (fun v i wr => ∃ (d : Nat) (vv : Value), d ≤ 4 ∧ vv = v ∧ i = .int .i64 (d : Int) ∧ Hid (wr.ownsRow w.heap.size 34 8 v (listP zs F d 0).length (opCells (listP zs F d 0))) ∧ Hid (Below w.heap.size w1 wr)) (fun _ i _ => 4 - (intOf i).toNat)
  case atStart => exact ⟨0, _, by omega, rfl, rfl, HOw, Lib.hid (Below.refl _ _)⟩
  case round =>
    obtain ⟨d, vv, hd, hvv, rfl, HR, HBr⟩ := hrel
    subst hvv
    clear HOw
    have hs1 := HB1.out.size
    have hsr := HBr.out.size
    by_cases hlt : d < 4
    rotate_left
    · obtain rfl : d = 4 := by omega
      obtain ⟨L, hLe⟩ : ∃ L, listP zs F 4 0 = L := ⟨_, rfl⟩
      have HLe := Lib.hid hLe
      rw [hLe] at HR HLen
      clear hLe
      have HP : Hid (∃ a c, vv = .slice a L.length c ∧ Caps a L.length c ∧ OwnOps wr w.heap.size wr.heap.size a L.length L) := by
        have hr := HR.out
        rcases hr.2 with ⟨e, e2⟩ | ⟨g, c, cur, e, r⟩
        · subst e
          rw [e2] at hr ⊢
          exact ⟨none, 0, rfl, caps_nil, own_of_cells hr (Nat.le_refl _)⟩
        · subst e
          exact ⟨_, c, rfl, caps_of_row hr, own_of_cells hr (Nat.le_refl _)⟩
      obtain ⟨ra, rc, rfl, hcc, hown⟩ := HP.out
      have HOo := Lib.hid hown
      clear hown HP HR
      go_wp2
      go_ret
      rw [HLe.out]
      exact ⟨ra, rc, rfl, hcc, HOo.out, HB1.out.trans HBr.out⟩
    have HVr := Lib.hid (HV.out.below HBr.out (by omega))
    obtain ⟨vb, vo, rfl, hvb, c0⟩ := HVr.out.2 d hlt
    obtain ⟨g1, g2, _⟩ := HVk.out d hlt
    obtain ⟨q, hq⟩ := Int.eq_ofNat_of_zero_le g1
    have HNx : Hid (listP zs F (d + 1) 0 = listP zs F d q) := by show _ = _; rw [listP_next, hq]; rfl
    have HGd : Hid (∀ s : Nat, s < q → G (d : Int) ((s : Int) + 1) = some (F d s)) := fun s hs => HG.out d hlt s (by rw [hq]; omega)
    have hq40 : q ≤ 40 := by omega
    have hpl : ∀ s, s ≤ q → (listP zs F d s).length ≤ 200 := fun s hs => by
      rw [listP_len]
      have := stOf_mono zs d 4 (by omega)
      have h4 : (listP zs F 4 0).length = stOf zs 4 + 0 := listP_len zs F 4 0
      have := HLen.out
      omega
    have HPl := Lib.hid hpl
    rw [hq] at c0
    have hdi : (d : Int) < 4 := by omega
    clear hpl hq g1 g2
    go_wp2
    go_loopw [5, 8] (fun v sq wr => ∃ (s : Nat) (vv : Value), s ≤ q ∧ vv = v ∧ sq = .int .i64 ((s : Int) + 1) ∧ Hid (wr.ownsRow w.heap.size 34 8 v (listP zs F d s).length (opCells (listP zs F d s))) ∧ Hid (Below w.heap.size w1 wr)) (fun _ sq _ => q + 1 - (intOf sq).toNat)
    case atStart => exact ⟨0, _, Nat.zero_le _, rfl, rfl, HR, HBr⟩
    case round =>
      obtain ⟨s, vv, hsq, hvv, rfl, HR2, HBq⟩ := hrel
      subst hvv
      clear HR HBr c0
      have hsq2 := HBq.out.size
      by_cases hls : s < q
      rotate_left
      · obtain rfl : s = q := by omega
        have hcnd : ¬ ((s : Int) + 1 ≤ (s : Int)) := by omega
        rw [← HNx.out] at HR2
        go_wp2
        go_roundw
        case rel => exact ⟨d + 1, _, by omega, rfl, by go_num, HR2, HBq⟩
        case measure => simp [intOf]; omega
      have hcnd : (s : Int) + 1 ≤ (q : Int) := by omega
      have HSt := Lib.hid (listP_step zs F d s)
      have hlen := HPl.out s (by omega)
      have HLt : Hid (∀ g, vv.ownBlock = some g → g < wr.heap.size) := fun g hg => (HR2.out.lt g hg).2
      have HSq := Lib.hid (HS.out.kept (HBq.out.block b (by omega)))
      have hlk := (HSq.out.look (d := (d : Int)) (s := (s : Int) + 1) (fit2 (by omega) (by omega) (by omega) (by omega))).2
      rw [HGd.out s hls] at hlk
      have hitm := HIt.out d s
      generalize listP zs F d s = L at HR2 HSt hlen
      generalize F d s = x at HSt hlk hitm
      have hlk2 : (Instr.lookup 88 (.map (some b)) (.agg #[.int .i64 (d : Int), .int .i64 ((s : Int) + 1)]) false).run Try.prog wr = .ok (.agg #[.int .i64 x.dev, .int .i64 x.seq, .int .i64 x.stamp, .int .i64 x.kind, .string x.item, .int .i64 x.qty, .int .i64 x.level, .int .i64 x.undos]) wr := hlk
      clear hlk
      go_upto_region 9 with fail
      have hb3 : Below wr.heap.size wr (wr.alloc (.cells #[.int .i64 x.dev, .int .i64 x.seq, .int .i64 x.stamp, .int .i64 x.kind, .string x.item, .int .i64 x.qty, .int .i64 x.level, .int .i64 x.undos] 34)) := (Below.refl _ _).alloc (Nat.le_refl _) _
      have HX3 := Lib.hid (boxAt (Below.refl _ (wr.alloc (.cells #[.int .i64 x.dev, .int .i64 x.seq, .int .i64 x.stamp, .int .i64 x.kind, .string x.item, .int .i64 x.qty, .int .i64 x.level, .int .i64 x.undos] 34))))
      have HR3 := Lib.hid (own_row_kept HR2.out hb3)
      have HB3 := Lib.hid (HBq.out.trans (hb3.mono (by omega)))
      clear hlk2 HSq
      generalize wr.alloc (.cells #[.int .i64 x.dev, .int .i64 x.seq, .int .i64 x.stamp, .int .i64 x.kind, .string x.item, .int .i64 x.qty, .int .i64 x.level, .int .i64 x.undos] 34) = w3 at hb3 HX3 HR3 HB3 ⊢
      have hs3 := hb3.size
      have hx3 := lt_of_row HX3.out
      generalize wr.heap.size = nb at HX3 hs3 hsq2 hx3 HLt ⊢
      clear hb3 HR2 HBq
      obtain ⟨e0, e1, e2, e3, e4, e5, e6, e7⟩ := op_cells HX3.out
      go_wp2_with fail
      refine (strClone x.item hitm w3).mono ?_
      rintro e w4 ⟨rfl, hb4⟩
      have HX4 := Lib.hid ((hb4.block _ hx3).trans HX3.out)
      have HR4 := Lib.hid (own_row_kept HR3.out hb4)
      have HB4 := Lib.hid (HB3.out.trans (hb4.mono (by omega)))
      have hs4 := hb4.size
      clear hb4 HX3 HR3 HB3 e0 e1 e2 e3 e4 e5 e6 e7
      obtain ⟨e0, e1, e2, e3, e4, e5, e6, e7⟩ := op_cells HX4.out
      obtain ⟨f0, f1, f2, f3, f4, f5, f6, f7⟩ := op_frozen HX4.out
      have HX5 : Hid ((w4.setCell ⟨nb, 4, none⟩ (.string x.item)).heap[nb]? = some (.cells #[.int .i64 x.dev, .int .i64 x.seq, .int .i64 x.stamp, .int .i64 x.kind, .string x.item, .int .i64 x.qty, .int .i64 x.level, .int .i64 x.undos] 34 (0, 0))) := heap_setCell_same _ _ _ _ _ _ HX4.out
      have HB5 : Hid (Below w.heap.size w1 (w4.setCell ⟨nb, 4, none⟩ (.string x.item))) := HB4.out.setCell (by show w.heap.size ≤ nb; omega) _
      have HR5 : Hid ((w4.setCell ⟨nb, 4, none⟩ (.string x.item)).ownsRow w.heap.size 34 8 vv L.length (opCells L)) := row_put HR4.out fun g hg => by have := HLt.out g hg; omega
      go_upto_region 10 with fail
      clear e0 e1 e2 e3 e4 e5 e6 e7 f0 f1 f2 f3 f4 f5 f6 f7 HX4 HR4 HB4
      generalize w4.setCell ⟨nb, 4, none⟩ (.string x.item) = w5 at HX5 HB5 HR5 ⊢
      obtain ⟨e0, e1, e2, e3, e4, e5, e6, e7⟩ := op_cells HX5.out
      have hown1 := HR5.out.alloc (.cells #[.int .i64 x.dev, .int .i64 x.seq, .int .i64 x.stamp, .int .i64 x.kind, .string x.item, .int .i64 x.qty, .int .i64 x.level, .int .i64 x.undos] 34)
      go_wp2_with (at_builtin; refine wpList_append_own _ rfl _ _ 25 rfl w.heap.size 34 i0 (.agg #[.int .i64 0, .int .i64 0, .int .i64 0, .int .i64 0, .string ⟨#[]⟩, .int .i64 0, .int .i64 0, .int .i64 0]) 8 72 Try.underlying25 hi hz0 hz1 hz2 rfl (by decide) _ _ _ rfl hown1 ⟨w5.heap.size, 0, none⟩ 1 1 (opRow x) rfl ?c0 ?c1 ?c2 ?c3 ?c4 ?c5 ?_)
      case c0 => rfl
      case c1 => exact opRow_new w5 x
      case c2 =>
        intro u hu
        exact opCells_one [x] u (by show u ∈ opRow x ++ []; rw [List.append_nil]; exact hu)
      case c3 => unfold maxLen; omega
      case c4 => omega
      case c5 => simp; have := HB5.out.size; omega
      intro v' w6 hown2 hgrow _
      have HB6 := Lib.hid ((HB5.out.alloc (by have := HB5.out.size; omega) (.cells #[.int .i64 x.dev, .int .i64 x.seq, .int .i64 x.stamp, .int .i64 x.kind, .string x.item, .int .i64 x.qty, .int .i64 x.level, .int .i64 x.undos] 34)).grown hgrow (by simp; have := HB5.out.size; omega) (fun j hj => (hown1.lt j hj).1))
      have HR6 : Hid (w6.ownsRow w.heap.size 34 8 v' (listP zs F d (s + 1)).length (opCells (listP zs F d (s + 1)))) := by
        show World.ownsRow _ _ _ _ _ _ _
        rw [HSt.out, opCells_snoc, List.length_append]
        exact hown2
      clear hown2 hgrow hown1 HR5 HB5 HX5 e0 e1 e2 e3 e4 e5 e6 e7
      go_wp2
      go_roundw
      case rel => exact ⟨s + 1, _, by omega, rfl, by go_num, HR6, HB6⟩
      case measure => simp [intOf]; omega
/-- A cart that the call hands back, as it is read, and a flag. -/
def ReadPost (ok : Bool) (zs : List Int) (L : List OpV) (w : World) (e : Ending) (w' : World) : Prop := ∃ va vc oa oc, e = .returned (.tuple #[.agg #[.slice va zs.length vc, .slice oa L.length oc], .bool ok]) ∧ Own w' w.heap.size w'.heap.size va zs.length zs ∧ OwnOps w' w.heap.size w'.heap.size oa L.length L ∧ Below w.heap.size w w'
theorem ReadPostC.read {ok : Bool} {zs : List Int} {L : List OpV} {w : World} (e : Ending) (w' : World) (h : ReadPostC ok zs L w e w') : ReadPost ok zs L w e w' := by
  obtain ⟨va, vc, oa, oc, h1, h2, h3, h4, _⟩ := h
  exact ⟨va, vc, oa, oc, h1, h2, h3, h4⟩
theorem merged_carts {xs : List Int} {l : List OpV} {ys : List Int} {m : List OpV} (h : mergedB xs l ys m = true) : cartB xs l = true ∧ cartB ys m = true ∧ okM l m = true := by
  unfold mergedB at h
  simpa only [Bool.and_eq_true] using h
theorem specMerged (w : World) (B : Nat) (av ao bv bo : Option Addr) (nv cv no co mv dv mo eo : Nat) (xs : List Int) (l : List OpV) (ys : List Int) (m : List OpV) (hx : Ints w B av nv xs) (h : Ops w B ao no l) (hy : Ints w B bv mv ys) (g : Ops w B bo mo m) (hB : B ≤ w.heap.size) (hv : nv ≤ 1048576) (hn : no ≤ 1048576) (hm : ∀ i, i < no → (atOp l i).item.size ≤ 1048576) (hv2 : mv ≤ 1048576) (hn2 : mo ≤ 1048576) (hm2 : ∀ i, i < mo → (atOp m i).item.size ≤ 1048576) :
    Calls Try.prog 82 #[.agg #[.slice av nv cv, .slice ao no co], .agg #[.slice bv mv dv, .slice bo mo eo]] w (ReadPost (mergedB xs l ys m) (mergedVs xs ys (mergedB xs l ys m)) (mergedOs xs ys l m (mergedB xs l ys m)) w) :=
  (specMergedC w B av ao bv bo nv cv no co mv dv mo eo xs l ys m hx h hy g hB hv hn hm hv2 hn2 hm2).mono ReadPostC.read
theorem own_nil (w : World) (lo hi : Nat) (a : Option Addr) : Own w lo hi a 0 [] := ⟨rfl, fun h => absurd h (by omega)⟩
theorem TriF.set2 {w w1 : World} {x y : Array Value} {z0 z1 : Value} {S T U : TypeId} (h : TriF w w1 x y #[z0, z1] S T U) (u v : Value) :
    ((w1.setCell ⟨w.heap.size + 1 + 1, 0, none⟩ u).setCell ⟨w.heap.size + 1 + 1, 1, none⟩ v).heap[w.heap.size + 1 + 1]? = some (.cells #[u, v] U (0, 0)) ∧ Below w.heap.size w ((w1.setCell ⟨w.heap.size + 1 + 1, 0, none⟩ u).setCell ⟨w.heap.size + 1 + 1, 1, none⟩ v) :=
  ⟨pair_set _ _ h.res, (h.bel.setCell (by show _ ≤ w.heap.size + 1 + 1; omega) _).setCell (by show _ ≤ w.heap.size + 1 + 1; omega) _⟩
theorem nameOfL (x : OpV) (w : World) : Calls Try.prog 85 #[.agg #[.int .i64 x.dev, .int .i64 x.seq, .int .i64 x.stamp, .int .i64 x.kind, .string x.item, .int .i64 x.qty, .int .i64 x.level, .int .i64 x.undos]] w fun e w' => e = .returned (.agg #[.int .i64 x.dev, .int .i64 x.seq]) ∧ Below w.heap.size w w' := nameOf x w
def mergedV (xs ys : List Int) (ok : Bool) : List Int := if ok = true then maxV xs ys else []
def mergedO (xs ys : List Int) (l m : List OpV) (ok : Bool) : List OpV := if ok = true then mergeL (maxV xs ys) l m else []

set_option linter.unusedSimpArgs false in
set_option maxRecDepth 100000 in
set_option maxHeartbeats 16000000 in
theorem implMergedK (w : World) (B : Nat) (av ao bv bo : Option Addr) (nv cv no co mv dv mo eo : Nat) (xs : List Int) (l : List OpV) (ys : List Int) (m : List OpV) (hx : Ints w B av nv xs) (h : Ops w B ao no l) (hy : Ints w B bv mv ys) (g : Ops w B bo mo m) (hB : B ≤ w.heap.size) (hv : nv ≤ 1048576) (hc : no ≤ co) (hc2 : Fits no co) (hm : ∀ i, i < no → (atOp l i).item.size ≤ 1048576) (hv2 : mv ≤ 1048576) (he : mo ≤ eo) (he2 : Fits mo eo) (hm2 : ∀ i, i < mo → (atOp m i).item.size ≤ 1048576) :
    Calls Try.prog 75 #[.agg #[.slice av nv cv, .slice ao no co], .agg #[.slice bv mv dv, .slice bo mo eo]] w (CartPostK (mergedB xs l ys m) (mergedV xs ys (mergedB xs l ys m)) (mergedO xs ys l m (mergedB xs l ys m)) w) := by
  have hn1048 : no ≤ 1048576 := hc2.1
  have he1048 : mo ≤ 1048576 := he2.1
  have hT := TriF.mk0 w #[.slice av nv cv, .slice ao no co] #[.slice bv mv dv, .slice bo mo eo] #[.slice none 0 0, .slice none 0 0] 27 27 27
  have HV := Lib.hid (hx.below hT.bel hB)
  have HO := Lib.hid (h.below hT.bel hB)
  have HY := Lib.hid (hy.below hT.bel hB)
  have HG := Lib.hid (g.below hT.bel hB)
  have HT := Lib.hid hT
  have HL := Lib.hid h.1
  have HLm := Lib.hid g.1
  have HM := Lib.hid hm
  have HM2 := Lib.hid hm2
  have hBw := hB
  clear hx h hy g hT hB hm hm2
  go_enter Try.func75, Try.ntmps75
  go_wp2_with fail
  generalize ((w.alloc (.cells #[.slice av nv cv, .slice ao no co] 27)).alloc (.cells #[.slice bv mv dv, .slice bo mo eo] 27)).alloc (.cells #[.slice none 0 0, .slice none 0 0] 27) = w0 at HV HO HY HG HT ⊢
  have hsz0 := HT.out.bel.size
  have hsz1 := lt_of_row HT.out.res
  refine (implCartOk w0 B av ao nv cv no co xs l HV.out HO.out (by omega) hv hc hc2).mono ?_
  rintro e w1 ⟨rfl, hb1⟩
  have HV1 := Lib.hid (HV.out.below hb1 (by omega))
  have HO1 := Lib.hid (HO.out.below hb1 (by omega))
  have HY1 := Lib.hid (HY.out.below hb1 (by omega))
  have HG1 := Lib.hid (HG.out.below hb1 (by omega))
  have HT1 := Lib.hid (HT.out.next hb1)
  have hs1 := hb1.size
  clear hb1 HV HO HY HG HT
  rcases hca : cartB xs l with _ | _
  · have HF := Lib.hid (mergedB_1 (ys := ys) (m := m) hca)
    clear hca
    obtain ⟨r0, r1⟩ := pair_cells HT1.out.res
    obtain ⟨fz0, fz1⟩ := pair_frozen HT1.out.res
    have HXr := Lib.hid (HT1.out.set2 (.slice none 0 0) (.slice none 0 0)).1
    have HBr2 := Lib.hid (HT1.out.set2 (.slice none 0 0) (.slice none 0 0)).2
    go_wp2
    change bodyPost _ _ _ _ _ ((w1.setCell ⟨w.heap.size + 1 + 1, 0, none⟩ (.slice none 0 0)).setCell ⟨w.heap.size + 1 + 1, 1, none⟩ (.slice none 0 0))
    generalize (w1.setCell ⟨w.heap.size + 1 + 1, 0, none⟩ (.slice none 0 0)).setCell ⟨w.heap.size + 1 + 1, 1, none⟩ (.slice none 0 0) = wf at HXr HBr2 ⊢
    obtain ⟨q0, q1⟩ := pair_cells HXr.out
    have hsf := HBr2.out.size
    exact bodyPost_ret (v := .tuple #[.agg #[.slice none 0 0, .slice none 0 0], .bool false]) (by simp [results, Try.results75, go_sem, q0, q1]) rfl ⟨none, 0, none, 0, w.heap.size, by rw [HF.out]; rfl, by rw [HF.out]; exact own_nil _ _ _ _, by rw [HF.out]; exact own_none _ _ _ _, Nat.le_refl _, hsf, HBr2.out, by rw [HF.out]; exact caps_nil⟩
  obtain ⟨b0, b1⟩ := pair_cells HT1.out.snd
  go_wp2_with fail
  refine (implCartOk w1 B bv bo mv dv mo eo ys m HY1.out HG1.out (by omega) hv2 he he2).mono ?_
  rintro e w2 ⟨rfl, hb2⟩
  have HV2 := Lib.hid (HV1.out.below hb2 (by omega))
  have HO2 := Lib.hid (HO1.out.below hb2 (by omega))
  have HY2 := Lib.hid (HY1.out.below hb2 (by omega))
  have HG2 := Lib.hid (HG1.out.below hb2 (by omega))
  have HT2 := Lib.hid (HT1.out.next hb2)
  have hs2 := hb2.size
  clear hb2 HV1 HO1 HY1 HG1 HT1 b0 b1
  rcases hcb : cartB ys m with _ | _
  · have HF := Lib.hid (mergedB_2 (xs := xs) (l := l) hcb)
    clear hca hcb
    obtain ⟨r0, r1⟩ := pair_cells HT2.out.res
    obtain ⟨fz0, fz1⟩ := pair_frozen HT2.out.res
    have HXr := Lib.hid (HT2.out.set2 (.slice none 0 0) (.slice none 0 0)).1
    have HBr2 := Lib.hid (HT2.out.set2 (.slice none 0 0) (.slice none 0 0)).2
    go_wp2
    change bodyPost _ _ _ _ _ ((w2.setCell ⟨w.heap.size + 1 + 1, 0, none⟩ (.slice none 0 0)).setCell ⟨w.heap.size + 1 + 1, 1, none⟩ (.slice none 0 0))
    generalize (w2.setCell ⟨w.heap.size + 1 + 1, 0, none⟩ (.slice none 0 0)).setCell ⟨w.heap.size + 1 + 1, 1, none⟩ (.slice none 0 0) = wf at HXr HBr2 ⊢
    obtain ⟨q0, q1⟩ := pair_cells HXr.out
    have hsf := HBr2.out.size
    exact bodyPost_ret (v := .tuple #[.agg #[.slice none 0 0, .slice none 0 0], .bool false]) (by simp [results, Try.results75, go_sem, q0, q1]) rfl ⟨none, 0, none, 0, w.heap.size, by rw [HF.out]; rfl, by rw [HF.out]; exact own_nil _ _ _ _, by rw [HF.out]; exact own_none _ _ _ _, Nat.le_refl _, hsf, HBr2.out, by rw [HF.out]; exact caps_nil⟩
  have HF := Lib.hid (mergedB_3 hca hcb)
  have HInc := Lib.hid (cart_inc hcb)
  have hfl : ∀ i, i < no → Fit2 (atOp l i).dev (atOp l i).seq := fun i hi => cart_fit hca (by rw [HL.out]; exact hi)
  have HFm := Lib.hid (fun i (hi : i < m.length) => cart_fit hcb hi)
  have HCa := Lib.hid hca
  have HCb := Lib.hid hcb
  clear hca hcb
  obtain ⟨a0, a1⟩ := pair_cells HT2.out.fst
  have hnol : no ≤ 1048576 := by omega
  go_wp2_with fail
  refine (opSetOf w2 B ao no co l HO2.out (by omega) hnol hfl).mono ?_
  rintro e w3 ⟨sb, rfl, hsb, hset, hb3⟩
  have HS3 : Hid (SetIs w3 sb (no + 0) (mixF l m 0)) := by have := hset; rw [← HL.out] at this ⊢; exact this
  have HB3 := Lib.hid hb3
  have HT3 := Lib.hid (HT2.out.next hb3)
  have hs3 := hb3.size
  clear hb3 hset hfl a0 a1
  obtain ⟨b0, b1⟩ := pair_cells HT3.out.snd
  go_wp2
  go_loopw [30] (fun i wr => ∃ k : Nat, k ≤ mo ∧ i = .int .i64 (k : Int) ∧ Hid (SetIs wr sb (no + k) (mixF l m k)) ∧ Hid (∀ j, j < k → okJ l (atOp m j) = true) ∧ Hid (Below w2.heap.size w2 wr)) (fun i _ => mo - (intOf i).toNat)
  case atStart => exact ⟨0, by omega, rfl, HS3, Lib.hid (fun j hj => absurd hj (by omega)), HB3⟩
  case round =>
    obtain ⟨k, hk, rfl, HSr, HK, HBr⟩ := hrel
    clear HS3 HB3 b0 b1
    have hsr := HBr.out.size
    have HTr := Lib.hid (HT2.out.next HBr.out)
    by_cases hlt : k < mo
    rotate_left
    · obtain rfl : k = mo := by omega
      have hok := okM_end (l := l) (m := m) (fun i hi => HK.out i (by rw [← HLm.out]; exact hi))
      have HE : Hid (mergedB xs l ys m = true) := by show _ = _; rw [HF.out, hok]
      have hvA := (cart_true HCa.out).1
      have hvB := (cart_true HCb.out).1
      have hv4 := (vec_at hvA (d := 0) (by omega)).2.2
      have hv4b := (vec_at hvB (d := 0) (by omega)).2.2
      have HVm := Lib.hid (maxV_ok hvA hvB)
      have HZv : Hid (vecZip max xs ys = maxV xs ys) := by show _ = _; rw [vecZip_yes (by rw [hvA, hvB]; rfl)]; rfl
      have hz4 : (maxV xs ys).length = 4 := (vec_at HVm.out (d := 0) (by omega)).2.2
      have HGl : Hid (∀ d, d < 4 → ∀ s : Nat, (s : Int) < (maxV xs ys).getD d 0 → mixF l m k (d : Int) ((s : Int) + 1) = some (mergeF l m d s)) := fun d hd s hs => by
        rw [maxV_at hv4 hv4b hd] at hs
        have := mix_join HCa.out HCb.out hok hd hs
        rw [HLm.out] at this
        exact this
      have HIt : Hid (∀ d s, (mergeF l m d s).item.size ≤ 1048576) := fun d s => merge_items (N := 1048576) (fun i hi => HM.out i (by rw [← HL.out]; exact hi)) (fun i hi => HM2.out i (by rw [← HLm.out]; exact hi)) d s
      have HLs : Hid (mergeL (maxV xs ys) l m = listP (maxV xs ys) (mergeF l m) 4 0) := rfl
      have HMv : Hid (mergedV xs ys (mergedB xs l ys m) = maxV xs ys) := by show _ = _; rw [HE.out]; rfl
      have HMo : Hid (mergedO xs ys l m (mergedB xs l ys m) = mergeL (maxV xs ys) l m) := by show _ = _; rw [HE.out]; rfl
      have HVr := Lib.hid (HV2.out.below HBr.out (by omega))
      have HYr := Lib.hid (HY2.out.below HBr.out (by omega))
      clear hok hvA hvB hv4 hv4b HK HF HCa HCb HFm HInc
      obtain ⟨a0, a1⟩ := pair_cells HTr.out.fst
      obtain ⟨b0, b1⟩ := pair_cells HTr.out.snd
      go_wp2_with fail
      refine (implMax wr B av bv nv cv mv dv xs ys HVr.out HYr.out (by omega) hv hv2).mono ?_
      rintro e w5 ⟨va, vc, rfl, hown, hb5⟩
      rw [HZv.out, hz4] at hown ⊢
      have HS5 := Lib.hid (HSr.out.below hb5)
      have HT5 := Lib.hid (HTr.out.next hb5)
      have HOw := Lib.hid hown
      have hs5 := hb5.size
      clear hown hb5 HVr HYr HTr HSr a0 a1 b0 b1 HZv
      go_wp2_with fail
      refine (listed w5 w5.heap.size va vc (maxV xs ys) HOw.out.ints (Nat.le_refl _) HVm.out sb (no + k) (mixF l m k) HS5.out (by omega) (mergeF l m) HGl.out HIt.out).mono ?_
      rintro e w6 ⟨oa, oc, rfl, hcc, hop, hb6⟩
      have HT6 := Lib.hid (HT5.out.next hb6)
      have HOw6 := Lib.hid (HOw.out.below hb6 (Nat.le_refl _))
      have HOp := Lib.hid hop
      have HCc := Lib.hid hcc
      have hs6 := hb6.size
      rw [← HLs.out] at HOp HCc ⊢
      clear hop hb6 hcc HT5 HOw HS5 HGl HIt HVm HLs
      generalize mergeL (maxV xs ys) l m = L at HOp HMo HCc ⊢
      obtain ⟨r0, r1⟩ := pair_cells HT6.out.res
      obtain ⟨fz0, fz1⟩ := pair_frozen HT6.out.res
      have hlt6 := lt_of_row HT2.out.res
      have HXr := Lib.hid (HT6.out.set2 (.slice va 4 vc) (.slice oa L.length oc)).1
      have HBr2 := Lib.hid (HT6.out.set2 (.slice va 4 vc) (.slice oa L.length oc)).2
      have HOv7 : Hid (Own ((w6.setCell ⟨w.heap.size + 1 + 1, 0, none⟩ (.slice va 4 vc)).setCell ⟨w.heap.size + 1 + 1, 1, none⟩ (.slice oa L.length oc)) wr.heap.size w5.heap.size va 4 (maxV xs ys)) := HOw6.out.kept fun q h1 h2 => pair_other _ _ (by omega)
      have HOp7 : Hid (OwnOps ((w6.setCell ⟨w.heap.size + 1 + 1, 0, none⟩ (.slice va 4 vc)).setCell ⟨w.heap.size + 1 + 1, 1, none⟩ (.slice oa L.length oc)) w5.heap.size w6.heap.size oa L.length L) := HOp.out.kept fun q h1 h2 => pair_other _ _ (by omega)
      have hsz7 : ((w6.setCell ⟨w.heap.size + 1 + 1, 0, none⟩ (.slice va 4 vc)).setCell ⟨w.heap.size + 1 + 1, 1, none⟩ (.slice oa L.length oc)).heap.size = w6.heap.size := pair_size _ _ _ _
      go_wp2
      change bodyPost _ _ _ _ _ ((w6.setCell ⟨w.heap.size + 1 + 1, 0, none⟩ (.slice va 4 vc)).setCell ⟨w.heap.size + 1 + 1, 1, none⟩ (.slice oa L.length oc))
      generalize (w6.setCell ⟨w.heap.size + 1 + 1, 0, none⟩ (.slice va 4 vc)).setCell ⟨w.heap.size + 1 + 1, 1, none⟩ (.slice oa L.length oc) = wf at HXr HBr2 HOv7 HOp7 hsz7 ⊢
      obtain ⟨q0, q1⟩ := pair_cells HXr.out
      exact bodyPost_ret (v := .tuple #[.agg #[.slice va 4 vc, .slice oa L.length oc], .bool true]) (by simp [results, Try.results75, go_sem, q0, q1]) rfl ⟨va, vc, oa, oc, w5.heap.size, by rw [HMv.out, HMo.out, HE.out, hz4], by rw [HMv.out, hz4]; exact HOv7.out.more (by omega) (Nat.le_refl _), by rw [HMo.out]; exact HOp7.out.more (Nat.le_refl _) (by omega), by omega, by omega, HBr2.out, by rw [HMo.out]; exact HCc.out⟩
    have hkm : k < m.length := by rw [HLm.out]; exact hlt
    have HStop : Hid (okJ l (atOp m k) = false → mergedB xs l ys m = false) := fun h => by rw [HF.out]; exact okM_stop hkm h
    have HFk := Lib.hid (HFm.out k hkm)
    have HKs : Hid (okJ l (atOp m k) = true → ∀ j, j < k + 1 → okJ l (atOp m j) = true) := fun h j hj => by
      rcases Nat.lt_or_ge j k with h1 | h1
      · exact HK.out j h1
      · obtain rfl : j = k := by omega
        exact h
    have HS6s : Hid (sb < wr.heap.size) := HSr.out.lt
    have HNx := Lib.hid (mixF_next (l := l) HInc.out hkm)
    have HSt : Hid (mixF l m (k + 1) = putF (mixF l m k) (jn l (atOp m k))) := rfl
    have HGr := Lib.hid (HG2.out.below HBr.out (by omega))
    obtain ⟨b, off, rfl, hb, ho⟩ := HGr.out.2 k hlt
    have HOk : Hid (OpAt wr b (off + k * 8) (atOp m k)) := ho
    have HN : Hid (getO l (atOp m k).dev (atOp m k).seq = none → okJ l (atOp m k) = true ∧ jn l (atOp m k) = atOp m k) := fun h => ⟨okJ_none h, jn_none h⟩
    have HY : Hid (∀ y, getO l (atOp m k).dev (atOp m k).seq = some y → okJ l (atOp m k) = sameB (atOp m k) y ∧ jn l (atOp m k) = (atOp m k).with (max (atOp m k).undos y.undos)) := fun y h => ⟨okJ_some h, jn_some h⟩
    clear ho HK HGr
    generalize atOp m k = x at HOk HFk HKs HStop HNx HSt HN HY
    obtain ⟨d0, d1, d2, d3, d4, d5, d6, d7⟩ := HOk.out
    go_upto_region 7 with fail
    have hb4 : Below wr.heap.size wr (wr.alloc (.cells #[.int .i64 x.dev, .int .i64 x.seq, .int .i64 x.stamp, .int .i64 x.kind, .string x.item, .int .i64 x.qty, .int .i64 x.level, .int .i64 x.undos] 34)) := (Below.refl _ _).alloc (Nat.le_refl _) _
    have HX4 := Lib.hid (boxAt (Below.refl _ (wr.alloc (.cells #[.int .i64 x.dev, .int .i64 x.seq, .int .i64 x.stamp, .int .i64 x.kind, .string x.item, .int .i64 x.qty, .int .i64 x.level, .int .i64 x.undos] 34))))
    have HS4 := Lib.hid (HSr.out.below hb4)
    have HB4 := Lib.hid (HBr.out.trans (hb4.mono (by omega)))
    clear d0 d1 d2 d3 d4 d5 d6 d7 HOk HSr
    generalize wr.alloc (.cells #[.int .i64 x.dev, .int .i64 x.seq, .int .i64 x.stamp, .int .i64 x.kind, .string x.item, .int .i64 x.qty, .int .i64 x.level, .int .i64 x.undos] 34) = w4 at hb4 HX4 HS4 HB4 ⊢
    have hs4 := hb4.size
    have hx4 := lt_of_row HX4.out
    generalize wr.heap.size = nb at HX4 hs4 hsr hx4 HS6s ⊢
    clear hb4 HTr HBr
    obtain ⟨e0, e1, e2, e3, e4, e5, e6, e7⟩ := op_cells HX4.out
    go_wp2_with fail
    refine (nameOfL x w4).mono ?_
    rintro e w5 ⟨rfl, hb5⟩
    have HX5 := Lib.hid ((hb5.block _ hx4).trans HX4.out)
    have HS5 := Lib.hid (HS4.out.below hb5)
    have HB5 := Lib.hid (HB4.out.trans (hb5.mono (by omega)))
    have hs5 := hb5.size
    clear hb5 HX4 HS4 HB4 e0 e1 e2 e3 e4 e5 e6 e7
    go_upto_region 8 with fail
    have hb6 : Below w5.heap.size w5 (w5.alloc (.cells #[.int .i64 x.dev, .int .i64 x.seq] 91)) := (Below.refl _ _).alloc (Nat.le_refl _) _
    have HN6 := Lib.hid (boxAt (Below.refl _ (w5.alloc (.cells #[.int .i64 x.dev, .int .i64 x.seq] 91))))
    have HX6 := Lib.hid ((hb6.block _ (by omega)).trans HX5.out)
    have HS6 := Lib.hid (HS5.out.below hb6)
    have HB6 := Lib.hid (HB5.out.trans (hb6.mono (by omega)))
    generalize w5.alloc (.cells #[.int .i64 x.dev, .int .i64 x.seq] 91) = w6 at hb6 HN6 HX6 HS6 HB6 ⊢
    have hs6 := hb6.size
    have hn6 := lt_of_row HN6.out
    generalize w5.heap.size = nn at HN6 hs6 hn6 hs5 ⊢
    clear hb6 HX5 HS5 HB5
    have hlk := (HS6.out.look HFk.out).1
    rw [HNx.out] at hlk
    obtain ⟨n0, n1⟩ := pair_cells HN6.out
    rcases hg : getO l x.dev x.seq with _ | y
    · rw [hg] at hlk
      obtain ⟨hok, hjn⟩ := HN.out hg
      have HE := Lib.hid (HKs.out hok)
      rw [hjn] at HSt
      have hlk2 : (Instr.lookup 88 (.map (some sb)) (.agg #[.int .i64 x.dev, .int .i64 x.seq]) true).run Try.prog w6 = .ok (.tuple #[.agg #[.int .i64 0, .int .i64 0, .int .i64 0, .int .i64 0, .string ⟨#[]⟩, .int .i64 0, .int .i64 0, .int .i64 0], .bool false]) w6 := hlk
      clear hlk hg hok hjn
      go_upto_region 14 with fail
      have hb7 : Below w6.heap.size w6 (w6.alloc (.cells #[.int .i64 0, .int .i64 0, .int .i64 0, .int .i64 0, .string ⟨#[]⟩, .int .i64 0, .int .i64 0, .int .i64 0] 34)) := (Below.refl _ _).alloc (Nat.le_refl _) _
      have HZ7 := Lib.hid (boxAt (Below.refl _ (w6.alloc (.cells #[.int .i64 0, .int .i64 0, .int .i64 0, .int .i64 0, .string ⟨#[]⟩, .int .i64 0, .int .i64 0, .int .i64 0] 34))))
      have HX7 := Lib.hid ((hb7.block _ (by omega)).trans HX6.out)
      have HN7 := Lib.hid ((hb7.block _ (by omega)).trans HN6.out)
      have HS7 := Lib.hid (HS6.out.below hb7)
      have HB7 := Lib.hid (HB6.out.trans (hb7.mono (by omega)))
      generalize w6.alloc (.cells #[.int .i64 0, .int .i64 0, .int .i64 0, .int .i64 0, .string ⟨#[]⟩, .int .i64 0, .int .i64 0, .int .i64 0] 34) = w7 at hb7 HZ7 HX7 HN7 HS7 HB7 ⊢
      have hnz := hb7.size
      have hnzx := lt_of_row HZ7.out
      generalize w6.heap.size = nz at HZ7 hnz hnzx hs6 ⊢
      clear hb7 HX6 HN6 HS6 HB6 hlk2 n0 n1
      obtain ⟨e0, e1, e2, e3, e4, e5, e6, e7⟩ := op_cells HX7.out
      obtain ⟨n0, n1⟩ := pair_cells HN7.out
      obtain ⟨w9, hrun0, hset, hgr⟩ := HS7.out.put (by unfold maxLen; omega) (x) (by exact HFk.out)
      have hrun : (Instr.mapUpdate 88 (.map (some sb)) (.agg #[.int .i64 x.dev, .int .i64 x.seq]) (.agg #[.int .i64 x.dev, .int .i64 x.seq, .int .i64 x.stamp, .int .i64 x.kind, .string x.item, .int .i64 x.qty, .int .i64 x.level, .int .i64 x.undos])).run Try.prog w7 = .ok () w9 := hrun0
      have HB9 : Hid (Below w2.heap.size w2 w9) := HB7.out.grown hgr HB7.out.size (fun j hj => by cases hj; exact hsb)
      have HSet : Hid (SetIs w9 sb (no + (k + 1)) (mixF l m (k + 1))) := by show SetIs _ _ _ _; rw [HSt.out]; exact hset
      clear hrun0 hset hgr
      go_wp2
      go_roundw
      case rel => exact ⟨k + 1, by omega, by go_num, HSet, HE, HB9⟩
      case measure => simp [intOf]; omega
    obtain ⟨hoy, hjy⟩ := HY.out y hg
    have HOy := Lib.hid hoy
    have HJy := Lib.hid hjy
    rw [hg] at hlk
    clear hg hoy hjy
    rcases hsm : sameB x y with _ | _
    · have HF2 := Lib.hid (HStop.out (by rw [HOy.out, hsm]))
      have HSm := Lib.hid hsm
      have hlk2 : (Instr.lookup 88 (.map (some sb)) (.agg #[.int .i64 x.dev, .int .i64 x.seq]) true).run Try.prog w6 = .ok (.tuple #[.agg #[.int .i64 y.dev, .int .i64 y.seq, .int .i64 y.stamp, .int .i64 y.kind, .string y.item, .int .i64 y.qty, .int .i64 y.level, .int .i64 y.undos], .bool true]) w6 := hlk
      clear hlk hsm HF HCa HCb HFm HInc
      have HF := HF2
      go_upto_region 9 with fail
      have hb7 : Below w6.heap.size w6 (w6.alloc (.cells #[.int .i64 y.dev, .int .i64 y.seq, .int .i64 y.stamp, .int .i64 y.kind, .string y.item, .int .i64 y.qty, .int .i64 y.level, .int .i64 y.undos] 34)) := (Below.refl _ _).alloc (Nat.le_refl _) _
      have HZ7 := Lib.hid (boxAt (Below.refl _ (w6.alloc (.cells #[.int .i64 y.dev, .int .i64 y.seq, .int .i64 y.stamp, .int .i64 y.kind, .string y.item, .int .i64 y.qty, .int .i64 y.level, .int .i64 y.undos] 34))))
      have HX7 := Lib.hid ((hb7.block _ (by omega)).trans HX6.out)
      have HN7 := Lib.hid ((hb7.block _ (by omega)).trans HN6.out)
      have HS7 := Lib.hid (HS6.out.below hb7)
      have HB7 := Lib.hid (HB6.out.trans (hb7.mono (by omega)))
      generalize w6.alloc (.cells #[.int .i64 y.dev, .int .i64 y.seq, .int .i64 y.stamp, .int .i64 y.kind, .string y.item, .int .i64 y.qty, .int .i64 y.level, .int .i64 y.undos] 34) = w7 at hb7 HZ7 HX7 HN7 HS7 HB7 ⊢
      have hnz := hb7.size
      have hnzx := lt_of_row HZ7.out
      generalize w6.heap.size = nz at HZ7 hnz hnzx hs6 ⊢
      clear hb7 HX6 HN6 HS6 HB6 hlk2 n0 n1
      obtain ⟨e0, e1, e2, e3, e4, e5, e6, e7⟩ := op_cells HX7.out
      obtain ⟨g0, g1, g2, g3, g4, g5, g6, g7⟩ := op_cells HZ7.out
      go_wp2_with fail
      refine (joinedNo x y HSm.out w7).mono ?_
      rintro e w8 ⟨rfl, hb8⟩
      have HB8 := Lib.hid (HB7.out.trans (hb8.mono (by omega)))
      have hs8 := hb8.size
      clear hb8 e0 e1 e2 e3 e4 e5 e6 e7 g0 g1 g2 g3 g4 g5 g6 g7 HX7 HZ7 HS7 HN7 HB7
      go_upto_region 11 with fail
      have hb9 : Below w8.heap.size w8 (w8.alloc (.cells #[.int .i64 0, .int .i64 0, .int .i64 0, .int .i64 0, .string ⟨#[]⟩, .int .i64 0, .int .i64 0, .int .i64 0] 34)) := (Below.refl _ _).alloc (Nat.le_refl _) _
      have HB9 := Lib.hid (HB8.out.trans (hb9.mono (by omega)))
      generalize w8.alloc (.cells #[.int .i64 0, .int .i64 0, .int .i64 0, .int .i64 0, .string ⟨#[]⟩, .int .i64 0, .int .i64 0, .int .i64 0] 34) = w9 at hb9 HB9 ⊢
      have HT9 := Lib.hid (HT2.out.next HB9.out)
      clear hb9
      obtain ⟨r0, r1⟩ := pair_cells HT9.out.res
      obtain ⟨fz0, fz1⟩ := pair_frozen HT9.out.res
      have HXr := Lib.hid (HT9.out.set2 (.slice none 0 0) (.slice none 0 0)).1
      have HBr2 := Lib.hid (HT9.out.set2 (.slice none 0 0) (.slice none 0 0)).2
      go_wp2
      change bodyPost _ _ _ _ _ ((w9.setCell ⟨w.heap.size + 1 + 1, 0, none⟩ (.slice none 0 0)).setCell ⟨w.heap.size + 1 + 1, 1, none⟩ (.slice none 0 0))
      generalize (w9.setCell ⟨w.heap.size + 1 + 1, 0, none⟩ (.slice none 0 0)).setCell ⟨w.heap.size + 1 + 1, 1, none⟩ (.slice none 0 0) = wf at HXr HBr2 ⊢
      obtain ⟨q0, q1⟩ := pair_cells HXr.out
      have hsf := HBr2.out.size
      exact bodyPost_ret (v := .tuple #[.agg #[.slice none 0 0, .slice none 0 0], .bool false]) (by simp [results, Try.results75, go_sem, q0, q1]) rfl ⟨none, 0, none, 0, w.heap.size, by rw [HF.out]; rfl, by rw [HF.out]; exact own_nil _ _ _ _, by rw [HF.out]; exact own_none _ _ _ _, Nat.le_refl _, hsf, HBr2.out, by rw [HF.out]; exact caps_nil⟩
    obtain ⟨u, rfl⟩ : ∃ u, y = x.with u := ⟨_, same_yes hsm⟩
    have hlk2 : (Instr.lookup 88 (.map (some sb)) (.agg #[.int .i64 x.dev, .int .i64 x.seq]) true).run Try.prog w6 = .ok (.tuple #[.agg #[.int .i64 x.dev, .int .i64 x.seq, .int .i64 x.stamp, .int .i64 x.kind, .string x.item, .int .i64 x.qty, .int .i64 x.level, .int .i64 u], .bool true]) w6 := hlk
    have HE := Lib.hid (HKs.out (by rw [HOy.out, hsm]))
    clear hlk hsm HOy
    have HS6lt : Hid (sb < nb) := by show sb < nb; have := HS6s.out; omega
    go_upto_region 9 with fail
    have hb7 : Below w6.heap.size w6 (w6.alloc (.cells #[.int .i64 x.dev, .int .i64 x.seq, .int .i64 x.stamp, .int .i64 x.kind, .string x.item, .int .i64 x.qty, .int .i64 x.level, .int .i64 u] 34)) := (Below.refl _ _).alloc (Nat.le_refl _) _
    have HZ7 := Lib.hid (boxAt (Below.refl _ (w6.alloc (.cells #[.int .i64 x.dev, .int .i64 x.seq, .int .i64 x.stamp, .int .i64 x.kind, .string x.item, .int .i64 x.qty, .int .i64 x.level, .int .i64 u] 34))))
    have HX7 := Lib.hid ((hb7.block _ (by omega)).trans HX6.out)
    have HN7 := Lib.hid ((hb7.block _ (by omega)).trans HN6.out)
    have HS7 := Lib.hid (HS6.out.below hb7)
    have HB7 := Lib.hid (HB6.out.trans (hb7.mono (by omega)))
    generalize w6.alloc (.cells #[.int .i64 x.dev, .int .i64 x.seq, .int .i64 x.stamp, .int .i64 x.kind, .string x.item, .int .i64 x.qty, .int .i64 x.level, .int .i64 u] 34) = w7 at hb7 HZ7 HX7 HN7 HS7 HB7 ⊢
    have hnz := hb7.size
    have hnzx := lt_of_row HZ7.out
    generalize w6.heap.size = nz at HZ7 hnz hnzx hs6 ⊢
    clear hb7 HX6 HN6 HS6 HB6 hlk2 n0 n1
    obtain ⟨e0, e1, e2, e3, e4, e5, e6, e7⟩ := op_cells HX7.out
    obtain ⟨g0, g1, g2, g3, g4, g5, g6, g7⟩ := op_cells HZ7.out
    go_wp2_with fail
    refine (joinedYes x u w7).mono ?_
    rintro e w8 ⟨rfl, hb8⟩
    have HX8 := Lib.hid ((hb8.block _ (by omega)).trans HX7.out)
    have HN8 := Lib.hid ((hb8.block _ (by omega)).trans HN7.out)
    have HS8 := Lib.hid (HS7.out.below hb8)
    have HB8 := Lib.hid (HB7.out.trans (hb8.mono (by omega)))
    have hs8 := hb8.size
    clear hb8 e0 e1 e2 e3 e4 e5 e6 e7 g0 g1 g2 g3 g4 g5 g6 g7 HX7 HZ7 HS7 HN7 HB7
    have HJx : Hid (putF (mixF l m k) (x.with (max x.undos u)) = mixF l m (k + 1)) := by show _ = _; rw [HSt.out, HJy.out]; rfl
    generalize max x.undos u = mx at HJx ⊢
    go_upto_region 11 with fail
    have hb9 : Below w8.heap.size w8 (w8.alloc (.cells #[.int .i64 x.dev, .int .i64 x.seq, .int .i64 x.stamp, .int .i64 x.kind, .string x.item, .int .i64 x.qty, .int .i64 x.level, .int .i64 mx] 34)) := (Below.refl _ _).alloc (Nat.le_refl _) _
    have HW9 := Lib.hid (boxAt (Below.refl _ (w8.alloc (.cells #[.int .i64 x.dev, .int .i64 x.seq, .int .i64 x.stamp, .int .i64 x.kind, .string x.item, .int .i64 x.qty, .int .i64 x.level, .int .i64 mx] 34))))
    have HX9 := Lib.hid ((hb9.block _ (by omega)).trans HX8.out)
    have HN9 := Lib.hid ((hb9.block _ (by omega)).trans HN8.out)
    have HS9 := Lib.hid (HS8.out.below hb9)
    have HB9 := Lib.hid (HB8.out.trans (hb9.mono (by omega)))
    generalize w8.alloc (.cells #[.int .i64 x.dev, .int .i64 x.seq, .int .i64 x.stamp, .int .i64 x.kind, .string x.item, .int .i64 x.qty, .int .i64 x.level, .int .i64 mx] 34) = w10 at hb9 HW9 HX9 HN9 HS9 HB9 ⊢
    clear hb9 HX8 HN8 HS8 HB8
    have hsbn : sb ≠ nb := by have := HS6lt.out; omega
    obtain ⟨e0, e1, e2, e3, e4, e5, e6, e7⟩ := op_cells HX9.out
    obtain ⟨g0, g1, g2, g3, g4, g5, g6, g7⟩ := op_cells HW9.out
    obtain ⟨f0, f1, f2, f3, f4, f5, f6, f7⟩ := op_frozen HX9.out
    have HXs := Lib.hid (setOp_same (.int .i64 x.dev) (.int .i64 x.seq) (.int .i64 x.stamp) (.int .i64 x.kind) (.string x.item) (.int .i64 x.qty) (.int .i64 x.level) (.int .i64 mx) HX9.out)
    have HNs : Hid ((setOp w10 nb (.int .i64 x.dev) (.int .i64 x.seq) (.int .i64 x.stamp) (.int .i64 x.kind) (.string x.item) (.int .i64 x.qty) (.int .i64 x.level) (.int .i64 mx)).heap[nn]? = some (.cells #[.int .i64 x.dev, .int .i64 x.seq] 91 (0, 0))) := (setOp_other _ _ _ _ _ _ _ _ (by omega)).trans HN9.out
    have HSs : Hid (SetIs (setOp w10 nb (.int .i64 x.dev) (.int .i64 x.seq) (.int .i64 x.stamp) (.int .i64 x.kind) (.string x.item) (.int .i64 x.qty) (.int .i64 x.level) (.int .i64 mx)) sb (no + k) (mixF l m k)) := HS9.out.kept (setOp_other _ _ _ _ _ _ _ _ hsbn)
    have HBs : Hid (Below w2.heap.size w2 (setOp w10 nb (.int .i64 x.dev) (.int .i64 x.seq) (.int .i64 x.stamp) (.int .i64 x.kind) (.string x.item) (.int .i64 x.qty) (.int .i64 x.level) (.int .i64 mx))) := setOp_below _ _ _ _ _ _ _ _ HB9.out (by omega)
    go_upto_region 14 with fail
    clear e0 e1 e2 e3 e4 e5 e6 e7 g0 g1 g2 g3 g4 g5 g6 g7 f0 f1 f2 f3 f4 f5 f6 f7 HX9 HN9 HS9 HB9 HW9
    change Code.wp _ _ _ _ (setOp w10 nb (.int .i64 x.dev) (.int .i64 x.seq) (.int .i64 x.stamp) (.int .i64 x.kind) (.string x.item) (.int .i64 x.qty) (.int .i64 x.level) (.int .i64 mx))
    generalize setOp w10 nb (.int .i64 x.dev) (.int .i64 x.seq) (.int .i64 x.stamp) (.int .i64 x.kind) (.string x.item) (.int .i64 x.qty) (.int .i64 x.level) (.int .i64 mx) = w11 at HXs HNs HSs HBs ⊢
    obtain ⟨e0, e1, e2, e3, e4, e5, e6, e7⟩ := op_cells HXs.out
    obtain ⟨n0, n1⟩ := pair_cells HNs.out
    obtain ⟨w9, hrun0, hset, hgr⟩ := HSs.out.put (by unfold maxLen; omega) (x.with mx) (by exact HFk.out)
    have hrun : (Instr.mapUpdate 88 (.map (some sb)) (.agg #[.int .i64 x.dev, .int .i64 x.seq]) (.agg #[.int .i64 x.dev, .int .i64 x.seq, .int .i64 x.stamp, .int .i64 x.kind, .string x.item, .int .i64 x.qty, .int .i64 x.level, .int .i64 mx])).run Try.prog w11 = .ok () w9 := hrun0
    have HB9 : Hid (Below w2.heap.size w2 w9) := HBs.out.grown hgr HBs.out.size (fun j hj => by cases hj; exact hsb)
    have HSet : Hid (SetIs w9 sb (no + (k + 1)) (mixF l m (k + 1))) := by show SetIs _ _ _ _; rw [← HJx.out]; exact hset
    clear hrun0 hset hgr
    go_wp2
    go_roundw
    case rel => exact ⟨k + 1, by omega, by go_num, HSet, HE, HB9⟩
    case measure => simp [intOf]; omega
theorem implMerged (w : World) (B : Nat) (av ao bv bo : Option Addr) (nv cv no co mv dv mo eo : Nat) (xs : List Int) (l : List OpV) (ys : List Int) (m : List OpV) (hx : Ints w B av nv xs) (h : Ops w B ao no l) (hy : Ints w B bv mv ys) (g : Ops w B bo mo m) (hB : B ≤ w.heap.size) (hv : nv ≤ 1048576) (hc : no ≤ co) (hc2 : Fits no co) (hm : ∀ i, i < no → (atOp l i).item.size ≤ 1048576) (hv2 : mv ≤ 1048576) (he : mo ≤ eo) (he2 : Fits mo eo) (hm2 : ∀ i, i < mo → (atOp m i).item.size ≤ 1048576) :
    Calls Try.prog 75 #[.agg #[.slice av nv cv, .slice ao no co], .agg #[.slice bv mv dv, .slice bo mo eo]] w (CartPost (mergedB xs l ys m) (mergedV xs ys (mergedB xs l ys m)) (mergedO xs ys l m (mergedB xs l ys m)) w) :=
  (implMergedK w B av ao bv bo nv cv no co mv dv mo eo xs l ys m hx h hy g hB hv hc hc2 hm hv2 he he2 hm2).mono fun _ _ h => h.cart
theorem IntsIn.set2 {z : World} {lo hi b n : Nat} {a : Option Addr} {xs : List Int} {u v : Value} (h : IntsIn z lo hi a n xs) (hb : b < lo) : IntsIn ((z.setCell ⟨b, 0, none⟩ u).setCell ⟨b, 1, none⟩ v) lo hi a n xs :=
  ⟨⟨h.1.1, fun i hi' => by
    obtain ⟨bb, o, e, hbb, hc⟩ := h.1.2 i hi'
    have hlo := h.2 bb o (by omega) e
    exact ⟨bb, o, e, hbb, (World.cell?_of_block (a := ⟨bb, o + i, none⟩) (pair_other (k := bb) _ _ (by omega))).trans hc⟩⟩, h.2⟩
end Go.Proofs.Ytmceofdknphgkaa
