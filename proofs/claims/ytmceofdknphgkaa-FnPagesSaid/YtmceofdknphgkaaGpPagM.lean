/- Adjacent pages; append of an empty slice, whatever its capacity: mathematics and one law. -/
import Derived.Test.YtmceofdknphgkaaGpPageW
import Derived.Test.YtmceofdknphgkaaGa20
import Derived.Test.YtmceofdknphgkaaGpS
namespace Go.Proofs.Ytmceofdknphgkaa
open Go.RowKit

theorem take_min {α : Type} (A : List α) (f m n : Nat) (h : A.length = m - f) (hf : f ≤ m) : A.take (min m (f + n) - f) = A.take n := by
  rcases Nat.le_total n (m - f) with g | g
  · have : min m (f + n) - f = n := by omega
    rw [this]
  · rw [List.take_of_length_le (by omega), List.take_of_length_le (by omega)]
theorem cut_nat (L : List OpV) (f n : Nat) (hn : n ≤ 1000) : cutL L (f : Int) (n : Int) = (L.drop f).take n := by
  have e1 : pAt L.length (f : Int) = min L.length f := by unfold pAt; rw [Int.toNat_natCast]
  have e2 : pEnd L.length (f : Int) (n : Int) = min L.length (min L.length f + n) := by
    unfold pEnd
    rw [e1, Int.toNat_natCast, Nat.min_eq_left hn]
  unfold cutL
  rw [e1, e2]
  rcases Nat.le_total f L.length with g | g
  · rw [Nat.min_eq_right g]
    exact take_min _ _ _ _ (by rw [List.length_drop]) g
  · rw [Nat.min_eq_left g, List.drop_eq_nil_of_le (Nat.le_refl _), List.drop_eq_nil_of_le g, List.take_nil, List.take_nil]
theorem pages_join (L : List OpV) (f n : Nat) (hn : n ≤ 1000) : cutL L (f : Int) ((n / 2 : Nat) : Int) ++ cutL L ((f + n / 2 : Nat) : Int) ((n - n / 2 : Nat) : Int) = cutL L (f : Int) (n : Int) := by
  rw [cut_nat L f (n / 2) (by omega), cut_nat L (f + n / 2) (n - n / 2) (by omega), cut_nat L f n hn]
  have e : n = n / 2 + (n - n / 2) := by omega
  conv => rhs; rw [e, List.take_add, List.drop_drop]
theorem page_short (L : List OpV) (f n : Nat) (hn : n ≤ 1000) : (cutL L (f : Int) (n : Int)).length ≤ n := by
  rw [cut_nat L f n hn, List.length_take]
  omega
theorem page_all (L : List OpV) (h : L.length ≤ 1000) : cutL L 0 1000 = L := by
  have := cut_nat L 0 1000 (Nat.le_refl _)
  rw [List.drop_zero, List.take_of_length_le h] at this
  exact this
theorem run_append_none {P : Program} {w : World} (base : Nat) (t ty e : TypeId) (i : TypeInfo) (size : Nat) (ht : P.underlying t = some (.slice e)) (hi : P.info? e = some i) (v : Value) (n c : Nat) (xs : List Value) (hown : w.ownsRow base e size v n xs) :
    (Builtin.append_ #[t, t] ty #[v, .slice none 0 c]).run P w = .ok v w := by
  rcases hown.2 with ⟨rfl, rfl⟩ | ⟨g, cap, cur, rfl, _, _, hnc, _⟩
  · simp [Builtin.append_, run_underlying ht, sizeOf, typeInfo, hi, Builtin.lenOf, Builtin.firstCells]
  · simp [Builtin.append_, run_underlying ht, sizeOf, typeInfo, hi, Builtin.lenOf, Builtin.firstCells, hnc, storeCells]
set_option maxRecDepth 100000 in
theorem appOpsN (w : World) (base : Nat) (v : Value) (n : Nat) (l : List OpV) (hown : w.ownsRow base 34 8 v n (opCells l)) (B : Nat) (a : Option Addr) (m c : Nat) (k : List OpV) (h : Ops w B a m k) (hn : n + m ≤ 4194304) (hbase : base ≤ w.heap.size) :
    ∃ v' w', (Builtin.append_ #[25, 25] 25 #[v, .slice a m c]).run Try.prog w = .ok v' w' ∧ w'.ownsRow base 34 8 v' (n + m) (opCells (l ++ k)) ∧ w.grownBy w' v.ownBlock := by
  rcases a with _ | x
  · have hm : m = 0 := by
      rcases Nat.eq_zero_or_pos m with g | g
      · exact g
      · obtain ⟨_, _, e, _⟩ := h.2 0 g; cases e
    subst hm
    have hl : k.length = 0 := h.1
    have : k = [] := List.eq_nil_of_length_eq_zero hl
    subst this
    obtain ⟨i0, hi, hz0, hz1, hz2⟩ := info_parts Try.infoOp
    exact ⟨v, w, run_append_none (P := Try.prog) base 25 25 34 i0 8 Try.underlying25 hi v n c _ hown, by rw [List.append_nil]; exact hown, World.grownBy.refl _ _⟩
  · exact appOps w base v n l hown B (some x) m c k h (fun e => by cases e) hn hbase
end Go.Proofs.Ytmceofdknphgkaa
