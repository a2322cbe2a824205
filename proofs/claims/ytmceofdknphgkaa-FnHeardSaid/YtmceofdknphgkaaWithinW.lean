/- The walks of impl.vectorsOf where a list is no vector, of impl.VecWithin and spec.VecWithin; the law FnExactVecWithin. -/
import Derived.Test.YtmceofdknphgkaaVecW
namespace Go.Proofs.Ytmceofdknphgkaa
open Go.RowKit

def VecPost (ok : Bool) (w : World) (e : Ending) (w' : World) : Prop :=
  ∃ a0 a1 a2 a3 : Int, e = .returned (.tuple #[.agg #[.int .i64 a0, .int .i64 a1, .int .i64 a2, .int .i64 a3], .bool ok]) ∧ Below w.heap.size w w'
theorem vectorOfAny (w : World) (B : Nat) (a : Option Addr) (len cap : Nat) (xs : List Int) (h : Ints w B a len xs) (hB : B ≤ w.heap.size) (hl : len ≤ 1048576) (ok : Bool) (hok : vecOk xs = ok) :
    Calls Try.prog 135 #[.slice a len cap] w (VecPost ok w) := by
  cases ok
  · refine (vectorOfNo w B a len cap xs h hB hl hok).mono ?_
    rintro e w' ⟨rfl, hb⟩
    exact ⟨0, 0, 0, 0, rfl, hb⟩
  · obtain ⟨x0, x1, x2, x3, rfl⟩ := four hok
    obtain rfl : len = 4 := h.1.symm
    refine (vectorOfYes w B a cap x0 x1 x2 x3 h hB hok).mono ?_
    rintro e w' ⟨rfl, hb⟩
    exact ⟨x0, x1, x2, x3, rfl, hb⟩

set_option maxRecDepth 100000 in
set_option maxHeartbeats 400000 in
theorem vectorsOfNo (w : World) (B : Nat) (a a' : Option Addr) (len cap len' cap' : Nat) (xs ys : List Int) (h : Ints w B a len xs) (h' : Ints w B a' len' ys) (hB : B ≤ w.heap.size) (hl : len ≤ 1048576) (hl' : len' ≤ 1048576)
    (ok ok' : Bool) (hok : vecOk xs = ok) (hok' : vecOk ys = ok') (hno : (ok && ok') = false) :
    Calls Try.prog 140 #[.slice a len cap, .slice a' len' cap'] w fun e w' => e = .returned (.tuple #[.agg #[.int .i64 0, .int .i64 0, .int .i64 0, .int .i64 0], .agg #[.int .i64 0, .int .i64 0, .int .i64 0, .int .i64 0], .bool false]) ∧ Below w.heap.size w w' := by
  have HI := Lib.hid h
  have HI' := Lib.hid h'
  have hbA : Below w.heap.size w ((w.alloc (.cells (arr4 0 0 0 0) 142)).alloc (.cells (arr4 0 0 0 0) 142)) := ((Below.refl _ w).alloc (Nat.le_refl _) _).alloc (by simp) _
  have HA := Lib.hid (h.below hbA hB)
  have HbA := Lib.hid hbA
  have HK := Lib.hid hok
  have HK' := Lib.hid hok'
  have HNO := Lib.hid hno
  clear h h' hbA hok hok' hno
  go_enter Try.func140, Try.ntmps140
  go_wp2_with fail
  refine (vectorOfAny _ B a len cap xs (by exact HA.out) (by simp; omega) hl ok HK.out).mono ?_
  rintro e w1 ⟨x0, x1, x2, x3, rfl, hb1⟩
  have hsz : w.heap.size + 2 ≤ w1.heap.size := by simpa using hb1.size
  have hN1 : w1.heap[w.heap.size]? = some (.cells (arr4 0 0 0 0) 142 (0, 0)) := (hb1.block _ (by simp; omega)).trans (heap_alloc2_old _ _ _)
  have hN2 : w1.heap[w.heap.size + 1]? = some (.cells (arr4 0 0 0 0) 142 (0, 0)) := (hb1.block _ (by simp)).trans (heap_alloc2_new _ _ _)
  have hbB : Below w.heap.size w w1 := HbA.out.trans (hb1.mono (by simp; omega))
  have HA1 := Lib.hid (HI'.out.below hbB hB)
  have HBb := Lib.hid hbB
  have HN1 := Lib.hid hN1
  have HN2 := Lib.hid hN2
  clear hb1 hbB hN1 hN2
  go_wp2_with fail
  refine (vectorOfAny _ B a' len' cap' ys (by exact HA1.out.below (B' := w1.heap.size) ((Below.refl _ w1).alloc (Nat.le_refl _) _) (by omega)) (by simp; omega) hl' ok' HK'.out).mono ?_
  rintro e w2 ⟨y0, y1, y2, y3, rfl, hb2⟩
  have hsz2 : w1.heap.size + 1 ≤ w2.heap.size := by simpa using hb2.size
  have hM1 : w2.heap[w.heap.size]? = some (.cells (arr4 0 0 0 0) 142 (0, 0)) := ((hb2.block _ (by simp; omega)).trans (Below.heap_alloc _ _ _ (by omega))).trans HN1.out
  have hM2 : w2.heap[w.heap.size + 1]? = some (.cells (arr4 0 0 0 0) 142 (0, 0)) := ((hb2.block _ (by simp; omega)).trans (Below.heap_alloc _ _ _ (by omega))).trans HN2.out
  have hbC : Below w.heap.size w w2 := (HBb.out.alloc (by omega) _).trans (hb2.mono (by simp; omega))
  have HM1 := Lib.hid hM1
  have HM2 := Lib.hid hM2
  have HC := Lib.hid hbC
  clear hb2 hM1 hM2 hbC
  obtain ⟨⟨d0, d1, d2, d3⟩, ⟨f0, f1, f2, f3⟩⟩ := cells4 HM1.out
  obtain ⟨⟨e0, e1, e2, e3⟩, ⟨g0, g1, g2, g3⟩⟩ := cells4 HM2.out
  have l1 : w.heap.size < w2.heap.size := by omega
  have l2 : w.heap.size + 1 < w2.heap.size := by omega
  have hno := HNO.out
  cases ok <;> cases ok'
  case true.true => cases hno
  all_goals
    clear hno
    go_wp2
    obtain ⟨r1, r2, r3⟩ := vectors_end0 (x0 := 0) (x1 := 0) (x2 := 0) (x3 := 0) (y0 := 0) (y1 := 0) (y2 := 0) (y3 := 0) HM1.out HM2.out HC.out
    generalize World.setCell _ ⟨w.heap.size + 1, 3, none⟩ _ = W4 at r1 r2 r3 ⊢
    have k1 := lt_of_block r1
    have k2 := lt_of_block r2
    exact bodyPost_ret (vectors_ret ((Below.heap_alloc _ _ _ k1).trans r1) ((Below.heap_alloc _ _ _ k2).trans r2) rfl rfl rfl) rfl ⟨rfl, r3.alloc (by omega) _⟩

/-- No element of the first list is greater. -/
def leAll (xs ys : List Int) : Bool := (List.range xs.length).all fun i => decide (xs.getD i 0 ≤ ys.getD i 0)
def withinB (xs ys : List Int) : Bool := vecOk xs && vecOk ys && leAll xs ys
theorem leAll_stop {xs ys : List Int} {k : Nat} (hk : k < xs.length) (h : ys.getD k 0 < xs.getD k 0) : leAll xs ys = false := by
  unfold leAll
  rw [← Bool.not_eq_true]
  intro e
  rw [List.all_eq_true] at e
  have := e k (List.mem_range.2 hk)
  rw [decide_eq_true_eq] at this
  omega
theorem leAll_end {xs ys : List Int} {k : Nat} (hk : ¬ k < xs.length) (h : ∀ j, j < k → xs.getD j 0 ≤ ys.getD j 0) : leAll xs ys = true := by
  unfold leAll
  rw [List.all_eq_true]
  intro i hi
  rw [List.mem_range] at hi
  exact decide_eq_true (h i (by omega))
theorem le_step {xs ys : List Int} {k : Nat} (h : ∀ j, j < k → xs.getD j 0 ≤ ys.getD j 0) (hk : xs.getD k 0 ≤ ys.getD k 0) : ∀ j, j < k + 1 → xs.getD j 0 ≤ ys.getD j 0 := fun j hj => by
  rcases Nat.lt_or_ge j k with h1 | h1
  · exact h j h1
  · obtain rfl : j = k := by omega
    exact hk
theorem arr4_at {x0 x1 x2 x3 : Int} {k : Nat} (hk : k < 4) : (arr4 x0 x1 x2 x3)[k]? = some (.int .i64 ([x0, x1, x2, x3].getD k 0)) := by
  match k, hk with
  | 0, _ => rfl
  | 1, _ => rfl
  | 2, _ => rfl
  | 3, _ => rfl

def BoolPost (b : Bool) (w : World) (e : Ending) (w' : World) : Prop := e = .returned (.bool b) ∧ Below w.heap.size w w'

set_option maxRecDepth 100000 in
set_option maxHeartbeats 400000 in
theorem implWithinYes (w : World) (B : Nat) (a a' : Option Addr) (cap cap' : Nat) (x0 x1 x2 x3 y0 y1 y2 y3 : Int) (h : Ints w B a 4 [x0, x1, x2, x3]) (h' : Ints w B a' 4 [y0, y1, y2, y3]) (hB : B ≤ w.heap.size)
    (hok : vecOk [x0, x1, x2, x3] = true) (hok' : vecOk [y0, y1, y2, y3] = true) :
    Calls Try.prog 70 #[.slice a 4 cap, .slice a' 4 cap'] w (BoolPost (leAll [x0, x1, x2, x3] [y0, y1, y2, y3]) w) := by
  go_enter Try.func70, Try.ntmps70
  go_wp2_with fail
  refine (vectorsOfYes w B a a' cap cap' x0 x1 x2 x3 y0 y1 y2 y3 h h' hB hok hok').mono ?_
  rintro e w1 ⟨rfl, hb1⟩
  have hs1 := hb1.size
  clear h h' hok hok'
  go_wp2
  generalize hW2 : World.alloc _ _ = W2
  have t1 : W2.heap[w1.heap.size]? = some (.cells (arr4 x0 x1 x2 x3) 142 (0, 0)) := by rw [← hW2]; exact heap_alloc2_old _ _ _
  have t2 : W2.heap[w1.heap.size + 1]? = some (.cells (arr4 y0 y1 y2 y3) 142 (0, 0)) := by rw [← hW2]; exact heap_alloc2_new _ _ _
  have HW : Hid (Below w.heap.size w W2) := by rw [← hW2]; exact (hb1.alloc hs1 _).alloc (by simp; omega) _
  have HT1 := Lib.hid t1
  have HT2 := Lib.hid t2
  clear t1 t2 hW2
  go_loopw [8, 18] (fun _ i wr => ∃ k n : Nat, k ≤ 4 ∧ i = .int .i64 k ∧ wr = W2.drewN n ∧ Hid (∀ j, j < k → [x0, x1, x2, x3].getD j 0 ≤ [y0, y1, y2, y3].getD j 0)) (fun _ i _ => 4 - (intOf i).toNat)
  case atStart => exact ⟨0, 0, by omega, rfl, rfl, fun j hj => by omega⟩
  case round =>
    obtain ⟨k, n, hk, rfl, rfl, HA⟩ := hrel
    by_cases hlt : k < 4
    · have c1 := (cell_of_row _ _ k _ _ _ HT1.out).trans (arr4_at hlt)
      have c2 := (cell_of_row _ _ k _ _ _ HT2.out).trans (arr4_at hlt)
      obtain ⟨x, hx⟩ : ∃ x, x = [x0, x1, x2, x3].getD k 0 := ⟨_, rfl⟩
      obtain ⟨y, hy⟩ : ∃ y, y = [y0, y1, y2, y3].getD k 0 := ⟨_, rfl⟩
      rw [← hx] at c1
      rw [← hy] at c2
      have HX := Lib.hid hx
      have HY := Lib.hid hy
      have hki : (k : Int) < 4 := by omega
      clear hx hy
      by_cases hle : x ≤ y
      · have hd : decide (y < x) = false := decide_eq_false (by omega)
        have HS : Hid (∀ j, j < k + 1 → [x0, x1, x2, x3].getD j 0 ≤ [y0, y1, y2, y3].getD j 0) := le_step HA.out (by rw [← HX.out, ← HY.out]; exact hle)
        go_wp2
        go_quiet (fail)
        go_wp2
        go_roundw
        case rel => exact ⟨k + 1, n + nq, by omega, by go_num, rfl, HS⟩
        case measure => simp [intOf]; omega
      · have hd : y < x := by omega
        have HV : Hid (leAll [x0, x1, x2, x3] [y0, y1, y2, y3] = false) := leAll_stop (k := k) hlt (by rw [← HX.out, ← HY.out]; exact hd)
        go_wp2
        go_quiet (fail)
        go_wp2
        go_ret
        exact ⟨ret_bool HV.out.symm, HW.out.trans ⟨rfl, rfl, rfl, Nat.le_refl _, fun _ _ => rfl⟩⟩
    · have HV : Hid (leAll [x0, x1, x2, x3] [y0, y1, y2, y3] = true) := leAll_end (k := k) hlt HA.out
      go_wp2
      go_ret
      exact ⟨ret_bool HV.out.symm, HW.out.trans ⟨rfl, rfl, rfl, Nat.le_refl _, fun _ _ => rfl⟩⟩

set_option maxRecDepth 100000 in
theorem implWithinNo (w : World) (B : Nat) (a a' : Option Addr) (len cap len' cap' : Nat) (xs ys : List Int) (h : Ints w B a len xs) (h' : Ints w B a' len' ys) (hB : B ≤ w.heap.size) (hl : len ≤ 1048576) (hl' : len' ≤ 1048576)
    (hno : (vecOk xs && vecOk ys) = false) :
    Calls Try.prog 70 #[.slice a len cap, .slice a' len' cap'] w (BoolPost false w) := by
  go_enter Try.func70, Try.ntmps70
  go_wp2_with fail
  refine (vectorsOfNo w B a a' len cap len' cap' xs ys h h' hB hl hl' _ _ rfl rfl hno).mono ?_
  rintro e w1 ⟨rfl, hb1⟩
  have hs1 := hb1.size
  clear h h' hno
  go_wp2
  go_ret
  exact ⟨rfl, (hb1.alloc hs1 _).alloc (by simp; omega) _⟩

theorem implWithin (w : World) (B : Nat) (a a' : Option Addr) (len cap len' cap' : Nat) (xs ys : List Int) (h : Ints w B a len xs) (h' : Ints w B a' len' ys) (hB : B ≤ w.heap.size) (hl : len ≤ 1048576) (hl' : len' ≤ 1048576) :
    Calls Try.prog 70 #[.slice a len cap, .slice a' len' cap'] w (BoolPost (withinB xs ys) w) := by
  cases hk : vecOk xs && vecOk ys
  · refine (implWithinNo w B a a' len cap len' cap' xs ys h h' hB hl hl' hk).mono ?_
    rintro e w' ⟨rfl, hb⟩
    exact ⟨ret_bool (by unfold withinB; rw [hk]; rfl), hb⟩
  · have hk2 := hk
    rw [Bool.and_eq_true] at hk2
    obtain ⟨x0, x1, x2, x3, rfl⟩ := four hk2.1
    obtain ⟨y0, y1, y2, y3, rfl⟩ := four hk2.2
    obtain rfl : len = 4 := h.1.symm
    obtain rfl : len' = 4 := h'.1.symm
    refine (implWithinYes w B a a' cap cap' x0 x1 x2 x3 y0 y1 y2 y3 h h' hB hk2.1 hk2.2).mono ?_
    rintro e w' ⟨rfl, hb⟩
    exact ⟨ret_bool (by unfold withinB; rw [hk, Bool.true_and]), hb⟩


end Go.Proofs.Ytmceofdknphgkaa
