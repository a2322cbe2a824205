/- Walks and mathematics that several claims share, part 10. -/
import Derived.Test.YtdbdmfaphdjdpaaGu6
import Derived.Deep.RegionHeld3
import Derived.RegionTactic
import Derived.Laws.Cover3
import Derived.Test.YtdbdmfaphdjdpaaGuA
namespace Go.Proofs.Ytdbdmfaphdjdpaa
set_option maxRecDepth 100000
open Go.RowKit

def arr4 (x0 x1 x2 x3 : Int) : Array Value := #[.int .i64 x0, .int .i64 x1, .int .i64 x2, .int .i64 x3]
theorem four {xs : List Int} (h : vecOk xs = true) : ∃ x0 x1 x2 x3, xs = [x0, x1, x2, x3] := by
 have h4 : xs.length = 4 := by unfold vecOk at h; simp only [Bool.and_eq_true, decide_eq_true_eq] at h; exact h.2
 match xs, h4 with
 | [x0, x1, x2, x3], _ => exact ⟨x0, x1, x2, x3, rfl⟩

theorem vectorOfYes (w : World) (B : Nat) (a : Option Addr) (cap : Nat) (x0 x1 x2 x3 : Int) (h : Ints w B a 4 [x0, x1, x2, x3]) (hB : B ≤ w.heap.size) (hok : vecOk [x0, x1, x2, x3] = true) :
  Calls Try.prog 143 #[.slice a 4 cap] w fun e w' => e = .returned (.tuple #[.agg #[.int .i64 x0, .int .i64 x1, .int .i64 x2, .int .i64 x3], .bool true]) ∧ Below w.heap.size w w' := by
 obtain ⟨b, off, rfl, hb, hc0⟩ := h.2 0 (by omega)
 obtain ⟨b', off', e, _, hc1⟩ := h.2 1 (by omega)
 cases e
 obtain ⟨b', off', e, _, hc2⟩ := h.2 2 (by omega)
 cases e
 obtain ⟨b', off', e, _, hc3⟩ := h.2 3 (by omega)
 cases e
 have hbw : b < w.heap.size := by omega
 have hA := Lib.hid (h.below (B' := w.heap.size) ((Below.refl _ w).alloc (Nat.le_refl _) (.cells #[.int .i64 0, .int .i64 0, .int .i64 0, .int .i64 0] 144)) hB)
 have HK := Lib.hid hok
 have hat : ∀ w, (Instr.arrayAt 144 (.slice (some ⟨b, off, none⟩) 4 cap)).run Try.prog w = .ok (.pointer (some ⟨b, off, none⟩)) w := fun w => run_arrayAt w 144 _ 4 _ 4 cap Try.underlying144 (Nat.le_refl _)
 simp only [Nat.add_zero, List.getD_cons_zero, List.getD_cons_succ] at hc0 hc1 hc2 hc3
 clear h hok
 go_enter Try.func143, Try.ntmps143
 go_wp2_with fail
 refine (implVecOk _ B _ 4 cap [x0, x1, x2, x3] (by exact hA.out) (by omega)).mono ?_
 rintro e w1 ⟨rfl, rfl⟩
 rw [HK.out]
 go_wp2
 exact bodyPost_ret (v := .tuple #[.agg #[.int .i64 x0, .int .i64 x1, .int .i64 x2, .int .i64 x3], .bool true]) (by simp [results, Try.results143, go_sem]) rfl ⟨rfl, bl⟩

theorem vectorOfNo (w : World) (B : Nat) (a : Option Addr) (len cap : Nat) (xs : List Int) (h : Ints w B a len xs) (hB : B ≤ w.heap.size) (hl : len ≤ 1048576) (hok : vecOk xs = false) :
  Calls Try.prog 143 #[.slice a len cap] w fun e w' => e = .returned (.tuple #[.agg #[.int .i64 0, .int .i64 0, .int .i64 0, .int .i64 0], .bool false]) ∧ Below w.heap.size w w' := by
 have hA := Lib.hid (h.below (B' := w.heap.size) ((Below.refl _ w).alloc (Nat.le_refl _) (.cells #[.int .i64 0, .int .i64 0, .int .i64 0, .int .i64 0] 144)) hB)
 have HK := Lib.hid hok
 clear h hok
 go_enter Try.func143, Try.ntmps143
 go_wp2_with fail
 refine (implVecOk _ B _ len cap xs (by exact hA.out) hl).mono ?_
 rintro e w1 ⟨rfl, rfl⟩
 rw [HK.out]
 go_wp2
 exact bodyPost_ret (v := .tuple #[.agg #[.int .i64 0, .int .i64 0, .int .i64 0, .int .i64 0], .bool false]) (by simp [results, Try.results143, go_sem]) rfl ⟨rfl, bl⟩

theorem cells4 {w : World} {g : Nat} {t : TypeId} {y0 y1 y2 y3 : Int} (h : w.heap[g]? = some (.cells (arr4 y0 y1 y2 y3) t (0, 0))) :
  (w.cell? ⟨g, 0, none⟩ = some (.int .i64 y0) ∧ w.cell? ⟨g, 1, none⟩ = some (.int .i64 y1) ∧ w.cell? ⟨g, 2, none⟩ = some (.int .i64 y2) ∧ w.cell? ⟨g, 3, none⟩ = some (.int .i64 y3)) ∧
  (w.frozen? ⟨g, 0, none⟩ = false ∧ w.frozen? ⟨g, 1, none⟩ = false ∧ w.frozen? ⟨g, 2, none⟩ = false ∧ w.frozen? ⟨g, 3, none⟩ = false) :=
 ⟨⟨cell_of_row _ _ _ _ _ _ h, cell_of_row _ _ _ _ _ _ h, cell_of_row _ _ _ _ _ _ h, cell_of_row _ _ _ _ _ _ h⟩, ⟨frozen_of_row _ _ _ _ _ h, frozen_of_row _ _ _ _ _ h, frozen_of_row _ _ _ _ _ h, frozen_of_row _ _ _ _ _ h⟩⟩

theorem set4_same {W : World} {g : Nat} {t : TypeId} {a0 a1 a2 a3 : Int} (x0 x1 x2 x3 : Int) (h : W.heap[g]? = some (.cells (arr4 a0 a1 a2 a3) t (0, 0))) :
  ((((W.setCell ⟨g, 0, none⟩ (.int .i64 x0)).setCell ⟨g, 1, none⟩ (.int .i64 x1)).setCell ⟨g, 2, none⟩ (.int .i64 x2)).setCell ⟨g, 3, none⟩ (.int .i64 x3)).heap[g]? = some (.cells (arr4 x0 x1 x2 x3) t (0, 0)) :=
 heap_setCell_same _ _ _ _ _ _ (heap_setCell_same _ _ _ _ _ _ (heap_setCell_same _ _ _ _ _ _ (heap_setCell_same _ _ _ _ _ _ h)))
theorem set4_other {W : World} {g k : Nat} (x0 x1 x2 x3 : Int) (h : k ≠ g) :
  ((((W.setCell ⟨g, 0, none⟩ (.int .i64 x0)).setCell ⟨g, 1, none⟩ (.int .i64 x1)).setCell ⟨g, 2, none⟩ (.int .i64 x2)).setCell ⟨g, 3, none⟩ (.int .i64 x3)).heap[k]? = W.heap[k]? := by
 rw [heap_setCell_other _ _ _ _ h, heap_setCell_other _ _ _ _ h, heap_setCell_other _ _ _ _ h, heap_setCell_other _ _ _ _ h]
theorem set4_below {B : Nat} {w W : World} {g : Nat} (x0 x1 x2 x3 : Int) (h : Below B w W) (hg : B ≤ g) :
  Below B w ((((W.setCell ⟨g, 0, none⟩ (.int .i64 x0)).setCell ⟨g, 1, none⟩ (.int .i64 x1)).setCell ⟨g, 2, none⟩ (.int .i64 x2)).setCell ⟨g, 3, none⟩ (.int .i64 x3)) :=
 (((h.setCell hg _).setCell hg _).setCell hg _).setCell hg _
theorem vectors_end0 {w W : World} {N : Nat} {t : TypeId} {a0 a1 a2 a3 b0 b1 b2 b3 x0 x1 x2 x3 y0 y1 y2 y3 : Int} (h1 : W.heap[N]? = some (.cells (arr4 a0 a1 a2 a3) t (0, 0))) (h2 : W.heap[N + 1]? = some (.cells (arr4 b0 b1 b2 b3) t (0, 0))) (hb : Below N w W) :
  ((((((((W.setCell ⟨N, 0, none⟩ (.int .i64 x0)).setCell ⟨N, 1, none⟩ (.int .i64 x1)).setCell ⟨N, 2, none⟩ (.int .i64 x2)).setCell ⟨N, 3, none⟩ (.int .i64 x3)).setCell ⟨N + 1, 0, none⟩ (.int .i64 y0)).setCell ⟨N + 1, 1, none⟩ (.int .i64 y1)).setCell ⟨N + 1, 2, none⟩ (.int .i64 y2)).setCell ⟨N + 1, 3, none⟩ (.int .i64 y3)).heap[N]? = some (.cells (arr4 x0 x1 x2 x3) t (0, 0)) ∧
  ((((((((W.setCell ⟨N, 0, none⟩ (.int .i64 x0)).setCell ⟨N, 1, none⟩ (.int .i64 x1)).setCell ⟨N, 2, none⟩ (.int .i64 x2)).setCell ⟨N, 3, none⟩ (.int .i64 x3)).setCell ⟨N + 1, 0, none⟩ (.int .i64 y0)).setCell ⟨N + 1, 1, none⟩ (.int .i64 y1)).setCell ⟨N + 1, 2, none⟩ (.int .i64 y2)).setCell ⟨N + 1, 3, none⟩ (.int .i64 y3)).heap[N + 1]? = some (.cells (arr4 y0 y1 y2 y3) t (0, 0)) ∧
  Below N w ((((((((W.setCell ⟨N, 0, none⟩ (.int .i64 x0)).setCell ⟨N, 1, none⟩ (.int .i64 x1)).setCell ⟨N, 2, none⟩ (.int .i64 x2)).setCell ⟨N, 3, none⟩ (.int .i64 x3)).setCell ⟨N + 1, 0, none⟩ (.int .i64 y0)).setCell ⟨N + 1, 1, none⟩ (.int .i64 y1)).setCell ⟨N + 1, 2, none⟩ (.int .i64 y2)).setCell ⟨N + 1, 3, none⟩ (.int .i64 y3)) := by
 refine ⟨?_, ?_, (set4_below y0 y1 y2 y3 (set4_below x0 x1 x2 x3 hb (Nat.le_refl _)) (by omega))⟩
 ·rw [set4_other y0 y1 y2 y3 (by omega), set4_same x0 x1 x2 x3 h1]
 ·exact set4_same y0 y1 y2 y3 ((set4_other x0 x1 x2 x3 (by omega)).trans h2)
theorem vectors_end {w W : World} {N : Nat} {t : TypeId} {a0 a1 a2 a3 b0 b1 b2 b3 x0 x1 x2 x3 y0 y1 y2 y3 : Int} (h1 : W.heap[N]? = some (.cells (arr4 a0 a1 a2 a3) t (0, 0))) (h2 : W.heap[N + 1]? = some (.cells (arr4 b0 b1 b2 b3) t (0, 0))) (hb : Below N w W) :
  ((((((((W.setCell ⟨N, 0, none⟩ (.int .i64 x0)).setCell ⟨N, 1, none⟩ (.int .i64 x1)).setCell ⟨N, 2, none⟩ (.int .i64 x2)).setCell ⟨N, 3, none⟩ (.int .i64 x3)).setCell ⟨N + 1, 0, none⟩ (.int .i64 y0)).setCell ⟨N + 1, 1, none⟩ (.int .i64 y1)).setCell ⟨N + 1, 2, none⟩ (.int .i64 y2)).setCell ⟨N + 1, 3, none⟩ (.int .i64 y3)).drew.heap[N]? = some (.cells (arr4 x0 x1 x2 x3) t (0, 0)) ∧
  ((((((((W.setCell ⟨N, 0, none⟩ (.int .i64 x0)).setCell ⟨N, 1, none⟩ (.int .i64 x1)).setCell ⟨N, 2, none⟩ (.int .i64 x2)).setCell ⟨N, 3, none⟩ (.int .i64 x3)).setCell ⟨N + 1, 0, none⟩ (.int .i64 y0)).setCell ⟨N + 1, 1, none⟩ (.int .i64 y1)).setCell ⟨N + 1, 2, none⟩ (.int .i64 y2)).setCell ⟨N + 1, 3, none⟩ (.int .i64 y3)).drew.heap[N + 1]? = some (.cells (arr4 y0 y1 y2 y3) t (0, 0)) ∧
  Below N w ((((((((W.setCell ⟨N, 0, none⟩ (.int .i64 x0)).setCell ⟨N, 1, none⟩ (.int .i64 x1)).setCell ⟨N, 2, none⟩ (.int .i64 x2)).setCell ⟨N, 3, none⟩ (.int .i64 x3)).setCell ⟨N + 1, 0, none⟩ (.int .i64 y0)).setCell ⟨N + 1, 1, none⟩ (.int .i64 y1)).setCell ⟨N + 1, 2, none⟩ (.int .i64 y2)).setCell ⟨N + 1, 3, none⟩ (.int .i64 y3)).drew := by
 refine ⟨?_, ?_, (set4_below y0 y1 y2 y3 (set4_below x0 x1 x2 x3 hb (Nat.le_refl _)) (by omega)).drew⟩
 ·rw [heap_drew, set4_other y0 y1 y2 y3 (by omega), set4_same x0 x1 x2 x3 h1]
 ·rw [heap_drew]
  exact set4_same y0 y1 y2 y3 ((set4_other x0 x1 x2 x3 (by omega)).trans h2)
theorem vectors_ret {W : World} {N : Nat} {tm : Array Value} {b : Bool} {x0 x1 x2 x3 y0 y1 y2 y3 : Int} (h1 : W.heap[N]? = some (.cells (arr4 x0 x1 x2 x3) 144 (0, 0))) (h2 : W.heap[N + 1]? = some (.cells (arr4 y0 y1 y2 y3) 144 (0, 0)))
  (p4 : tm.getD 4 undef = .pointer (some ⟨N, 0, none⟩)) (p5 : tm.getD 5 undef = .pointer (some ⟨N + 1, 0, none⟩)) (p6 : tm.getD 6 undef = .bool b) :
  (results Try.f107 tm).run Try.prog W = .ok (.tuple #[.agg #[.int .i64 x0, .int .i64 x1, .int .i64 x2, .int .i64 x3], .agg #[.int .i64 y0, .int .i64 y1, .int .i64 y2, .int .i64 y3], .bool b]) W := by
 obtain ⟨⟨c0, c1, c2, c3⟩, _⟩ := cells4 h1
 obtain ⟨⟨d0, d1, d2, d3⟩, _⟩ := cells4 h2
 rw [Array.getD_eq_getD_getElem?] at p4 p5 p6
 simp [results, Try.results107, go_sem, p4, p5, p6, c0, c1, c2, c3, d0, d1, d2, d3]

set_option maxHeartbeats 2000000 in
theorem vectorsOfYes (w : World) (B : Nat) (a a' : Option Addr) (cap cap' : Nat) (x0 x1 x2 x3 y0 y1 y2 y3 : Int) (h : Ints w B a 4 [x0, x1, x2, x3]) (h' : Ints w B a' 4 [y0, y1, y2, y3]) (hB : B ≤ w.heap.size)
  (hok : vecOk [x0, x1, x2, x3] = true) (hok' : vecOk [y0, y1, y2, y3] = true) :
  Calls Try.prog 107 #[.slice a 4 cap, .slice a' 4 cap'] w fun e w' => e = .returned (.tuple #[.agg #[.int .i64 x0, .int .i64 x1, .int .i64 x2, .int .i64 x3], .agg #[.int .i64 y0, .int .i64 y1, .int .i64 y2, .int .i64 y3], .bool true]) ∧ Below w.heap.size w w' := by
 have HI := Lib.hid h
 have HI' := Lib.hid h'
 have hbA : Below w.heap.size w ((w.alloc (.cells (arr4 0 0 0 0) 144)).alloc (.cells (arr4 0 0 0 0) 144)) := ((Below.refl _ w).alloc (Nat.le_refl _) _).alloc (by simp) _
 have HA := Lib.hid (h.below hbA hB)
 have HA' := Lib.hid (h'.below hbA hB)
 have HbA := Lib.hid hbA
 clear h h' hbA
 go_enter Try.func107, Try.ntmps107
 go_wp2_with fail
 refine (vectorOfYes _ B a cap x0 x1 x2 x3 (by exact HA.out) (by simp; omega) hok).mono ?_
 rintro e w1 ⟨rfl, hb1⟩
 have hsz : w.heap.size + 2 ≤ w1.heap.size := by simpa using hb1.size
 have hN1 : w1.heap[w.heap.size]? = some (.cells (arr4 0 0 0 0) 144 (0, 0)) := (hb1.block _ (by simp; omega)).trans (heap_alloc2_old _ _ _)
 have hN2 : w1.heap[w.heap.size + 1]? = some (.cells (arr4 0 0 0 0) 144 (0, 0)) := (hb1.block _ (by simp)).trans (heap_alloc2_new _ _ _)
 have hbB : Below w.heap.size w w1 := HbA.out.trans (hb1.mono (by simp; omega))
 have HA1 := Lib.hid (HI'.out.below hbB hB)
 have HBb := Lib.hid hbB
 have HN1 := Lib.hid hN1
 have HN2 := Lib.hid hN2
 clear hb1 hbB hN1 hN2
 go_wp2_with fail
 refine (vectorOfYes _ B a' cap' y0 y1 y2 y3 (by exact HA1.out.below (B' := w1.heap.size) ((Below.refl _ w1).alloc (Nat.le_refl _) _) (by omega)) (by simp; omega) hok').mono ?_
 rintro e w2 ⟨rfl, hb2⟩
 have hsz2 : w1.heap.size + 1 ≤ w2.heap.size := by simpa using hb2.size
 have hM : w2.heap[w1.heap.size]? = some (.cells (arr4 x0 x1 x2 x3) 144 (0, 0)) := (hb2.block _ (by simp)).trans (heap_alloc_new _ _)
 have hM1 : w2.heap[w.heap.size]? = some (.cells (arr4 0 0 0 0) 144 (0, 0)) := ((hb2.block _ (by simp; omega)).trans (Below.heap_alloc _ _ _ (by omega))).trans HN1.out
 have hM2 : w2.heap[w.heap.size + 1]? = some (.cells (arr4 0 0 0 0) 144 (0, 0)) := ((hb2.block _ (by simp; omega)).trans (Below.heap_alloc _ _ _ (by omega))).trans HN2.out
 have hbC : Below w.heap.size w w2 := (HBb.out.alloc (by omega) _).trans (hb2.mono (by simp; omega))
 have HM := Lib.hid hM
 have HM1 := Lib.hid hM1
 have HM2 := Lib.hid hM2
 have HC := Lib.hid hbC
 clear hb2 hM hM1 hM2 hbC
 go_wp2_with fail
 generalize hW3 : w2.alloc _ = W3
 obtain ⟨⟨c0, c1, c2, c3⟩, _⟩ := cells4 (w := W3) (g := w1.heap.size) (by rw [← hW3, Below.heap_alloc _ _ _ (by omega)]; exact HM.out)
 obtain ⟨⟨d0, d1, d2, d3⟩, ⟨f0, f1, f2, f3⟩⟩ := cells4 (w := W3) (g := w.heap.size) (by rw [← hW3, Below.heap_alloc _ _ _ (by omega)]; exact HM1.out)
 obtain ⟨⟨e0, e1, e2, e3⟩, ⟨g0, g1, g2, g3⟩⟩ := cells4 (w := W3) (g := w.heap.size + 1) (by rw [← hW3, Below.heap_alloc _ _ _ (by omega)]; exact HM2.out)
 obtain ⟨⟨k0, k1, k2, k3⟩, _⟩ := cells4 (w := W3) (g := w2.heap.size) (by rw [← hW3]; exact heap_alloc_new _ _)
 have HE1 : Hid (W3.heap[w.heap.size]? = some (.cells (arr4 0 0 0 0) 144 (0, 0))) := by rw [← hW3, Below.heap_alloc _ _ _ (by omega)]; exact HM1.out
 have HE2 : Hid (W3.heap[w.heap.size + 1]? = some (.cells (arr4 0 0 0 0) 144 (0, 0))) := by rw [← hW3, Below.heap_alloc _ _ _ (by omega)]; exact HM2.out
 have HD : Hid (Below w.heap.size w W3) := by rw [← hW3]; exact HC.out.alloc (by omega) _
 clear hW3
 go_region
 go_wp2
 obtain ⟨r1, r2, r3⟩ := vectors_end (x0 := x0) (x1 := x1) (x2 := x2) (x3 := x3) (y0 := y0) (y1 := y1) (y2 := y2) (y3 := y3) HE1.out HE2.out HD.out
 generalize World.drew _ = W4 at r1 r2 r3 ⊢
 exact bodyPost_ret (vectors_ret r1 r2 rfl rfl rfl) rfl ⟨rfl, r3⟩
def VecPost (ok : Bool) (w : World) (e : Ending) (w' : World) : Prop :=
 ∃ a0 a1 a2 a3 : Int, e = .returned (.tuple #[.agg #[.int .i64 a0, .int .i64 a1, .int .i64 a2, .int .i64 a3], .bool ok]) ∧ Below w.heap.size w w'
theorem vectorOfAny (w : World) (B : Nat) (a : Option Addr) (len cap : Nat) (xs : List Int) (h : Ints w B a len xs) (hB : B ≤ w.heap.size) (hl : len ≤ 1048576) (ok : Bool) (hok : vecOk xs = ok) :
  Calls Try.prog 143 #[.slice a len cap] w (VecPost ok w) := by
 cases ok
 ·refine (vectorOfNo w B a len cap xs h hB hl hok).mono ?_
  rintro e w' ⟨rfl, hb⟩
  exact ⟨0, 0, 0, 0, rfl, hb⟩
 ·obtain ⟨x0, x1, x2, x3, rfl⟩ := four hok
  obtain rfl : len = 4 := h.1.symm
  refine (vectorOfYes w B a cap x0 x1 x2 x3 h hB hok).mono ?_
  rintro e w' ⟨rfl, hb⟩
  exact ⟨x0, x1, x2, x3, rfl, hb⟩

set_option maxHeartbeats 2000000 in
theorem vectorsOfNo (w : World) (B : Nat) (a a' : Option Addr) (len cap len' cap' : Nat) (xs ys : List Int) (h : Ints w B a len xs) (h' : Ints w B a' len' ys) (hB : B ≤ w.heap.size) (hl : len ≤ 1048576) (hl' : len' ≤ 1048576)
  (ok ok' : Bool) (hok : vecOk xs = ok) (hok' : vecOk ys = ok') (hno : (ok && ok') = false) :
  Calls Try.prog 107 #[.slice a len cap, .slice a' len' cap'] w fun e w' => e = .returned (.tuple #[.agg #[.int .i64 0, .int .i64 0, .int .i64 0, .int .i64 0], .agg #[.int .i64 0, .int .i64 0, .int .i64 0, .int .i64 0], .bool false]) ∧ Below w.heap.size w w' := by
 have HI := Lib.hid h
 have HI' := Lib.hid h'
 have hbA : Below w.heap.size w ((w.alloc (.cells (arr4 0 0 0 0) 144)).alloc (.cells (arr4 0 0 0 0) 144)) := ((Below.refl _ w).alloc (Nat.le_refl _) _).alloc (by simp) _
 have HA := Lib.hid (h.below hbA hB)
 have HbA := Lib.hid hbA
 have HK := Lib.hid hok
 have HK' := Lib.hid hok'
 have HNO := Lib.hid hno
 clear h h' hbA hok hok' hno
 go_enter Try.func107, Try.ntmps107
 go_wp2_with fail
 refine (vectorOfAny _ B a len cap xs (by exact HA.out) (by simp; omega) hl ok HK.out).mono ?_
 rintro e w1 ⟨x0, x1, x2, x3, rfl, hb1⟩
 have hsz : w.heap.size + 2 ≤ w1.heap.size := by simpa using hb1.size
 have hN1 : w1.heap[w.heap.size]? = some (.cells (arr4 0 0 0 0) 144 (0, 0)) := (hb1.block _ (by simp; omega)).trans (heap_alloc2_old _ _ _)
 have hN2 : w1.heap[w.heap.size + 1]? = some (.cells (arr4 0 0 0 0) 144 (0, 0)) := (hb1.block _ (by simp)).trans (heap_alloc2_new _ _ _)
 have hbB : Below w.heap.size w w1 := HbA.out.trans (hb1.mono (by simp; omega))
 have HA1 := Lib.hid (HI'.out.below hbB hB)
 have HBb := Lib.hid hbB
 have HN1 := Lib.hid hN1
 have HN2 := Lib.hid hN2
 clear hb1 hbB hN1 hN2
 go_wp2_with fail
 refine (vectorOfAny _ B a' len' cap' ys (by exact HA1.out.below (B' := w1.heap.size) ((Below.refl _ w1).alloc (Nat.le_refl _) _) (by omega)) (by simp; omega) hl' ok' HK'.out).mono ?_
 rintro e w2 ⟨y0, y1, y2, y3, rfl, hb2⟩
 have hsz2 : w1.heap.size + 1 ≤ w2.heap.size := by simpa using hb2.size
 have hM1 : w2.heap[w.heap.size]? = some (.cells (arr4 0 0 0 0) 144 (0, 0)) := ((hb2.block _ (by simp; omega)).trans (Below.heap_alloc _ _ _ (by omega))).trans HN1.out
 have hM2 : w2.heap[w.heap.size + 1]? = some (.cells (arr4 0 0 0 0) 144 (0, 0)) := ((hb2.block _ (by simp; omega)).trans (Below.heap_alloc _ _ _ (by omega))).trans HN2.out
 have hbC : Below w.heap.size w w2 := (HBb.out.alloc (by omega) _).trans (hb2.mono (by simp; omega))
 have HM1 := Lib.hid hM1
 have HM2 := Lib.hid hM2
 have HC := Lib.hid hbC
 clear hb2 hM1 hM2 hbC
 obtain ⟨⟨d0, d1, d2, d3⟩, ⟨f0, f1, f2, f3⟩⟩ := cells4 HM1.out
 obtain ⟨⟨e0, e1, e2, e3⟩, ⟨g0, g1, g2, g3⟩⟩ := cells4 HM2.out
 have l1 : w.heap.size < w2.heap.size := by omega
 have l2 : w.heap.size + 1 < w2.heap.size := by omega
 have hno := HNO.out
 cases ok <;> cases ok'
 case true.true => cases hno
 all_goals
  clear hno
  go_wp2
  obtain ⟨r1, r2, r3⟩ := vectors_end0 (x0 := 0) (x1 := 0) (x2 := 0) (x3 := 0) (y0 := 0) (y1 := 0) (y2 := 0) (y3 := 0) HM1.out HM2.out HC.out
  generalize World.setCell _ ⟨w.heap.size + 1, 3, none⟩ _ = W4 at r1 r2 r3 ⊢
  have k1 := lt_of_block r1
  have k2 := lt_of_block r2
  exact bodyPost_ret (vectors_ret ((Below.heap_alloc _ _ _ k1).trans r1) ((Below.heap_alloc _ _ _ k2).trans r2) rfl rfl rfl) rfl ⟨rfl, r3.alloc (by omega) _⟩

theorem arr4_at {x0 x1 x2 x3 : Int} {k : Nat} (hk : k < 4) : (arr4 x0 x1 x2 x3)[k]? = some (.int .i64 ([x0, x1, x2, x3].getD k 0)) := by
 match k, hk with
 | 0, _ => rfl
 | 1, _ => rfl
 | 2, _ => rfl
 | 3, _ => rfl

end Go.Proofs.Ytdbdmfaphdjdpaa
