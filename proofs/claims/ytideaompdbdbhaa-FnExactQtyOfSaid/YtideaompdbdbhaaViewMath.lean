/- Levels and the last operations on an item, as the program and as the document's model reckon them. Mathematics for chapter 5. -/
import Derived.Test.YtideaompdbdbhaaLiveMath
import Derived.Test.YtideaompdbdbhaaBeforeW
namespace Go.Proofs.Ytideaompdbdbhaa
open Go.RowKit

def befV (a b : OpV) : Bool := befB a.dev a.seq a.stamp a.kind a.item a.qty a.level a.undos b.dev b.seq b.stamp b.kind b.item b.qty b.level b.undos
def preV (a b : OpV) : Bool := preB a.stamp a.dev a.seq b.stamp b.dev b.seq
def laterV (a b : OpV) : OpV := if befV b a = true then a else b
structure StV where
  level : Int
  counted : OpV
  placed : OpV
def StV.zero : StV := ⟨0, OpV.zero, OpV.zero⟩
def cntB (kind : Int) : Bool := decide (kind = 1 ∨ kind = 2)
def plcB (kind : Int) : Bool := decide (kind = 1 ∨ kind = 4 ∨ kind = 5)
def withV (s : StV) (o : OpV) : StV := ⟨max s.level o.level, if cntB o.kind = true then laterV s.counted o else s.counted, if plcB o.kind = true then laterV s.placed o else s.placed⟩
def stateV (item : ByteArray) (pre : List OpV) : StV := pre.foldl (fun s o => if o.item = item then withV s o else s) StV.zero
theorem stateV_snoc (item : ByteArray) (pre : List OpV) (o : OpV) : stateV item (pre ++ [o]) = if o.item = item then withV (stateV item pre) o else stateV item pre := by
  unfold stateV
  rw [List.foldl_append]
  rfl
theorem stateV_level (item : ByteArray) (pre : List OpV) : 0 ≤ (stateV item pre).level := by
  unfold stateV
  have : ∀ (l : List OpV) (s : StV), 0 ≤ s.level → 0 ≤ (l.foldl (fun s o => if o.item = item then withV s o else s) s).level := by
    intro l
    induction l with
    | nil => intro s h; exact h
    | cons o l ih =>
      intro s h
      rw [List.foldl_cons]
      refine ih _ ?_
      split
      · show 0 ≤ max _ _; omega
      · exact h
  exact this pre StV.zero (Int.le_refl _)
/-- The model's level after the first k operations. -/
def levTo (item : ByteArray) (l : List OpV) : Nat → Int
  | 0 => 0
  | k + 1 => if (l.getD k OpV.zero).item = item ∧ (l.getD k OpV.zero).undos % 2 = 0 then max (levTo item l k) (l.getD k OpV.zero).level else levTo item l k
/-- The model's last operation of some kinds after the first k. -/
def bestTo (P : Int → Bool) (item : ByteArray) (l : List OpV) : Nat → OpV
  | 0 => OpV.zero
  | k + 1 => if (P (l.getD k OpV.zero).kind = true ∧ (l.getD k OpV.zero).item = item ∧ (l.getD k OpV.zero).undos % 2 = 0) ∧ ((bestTo P item l k).kind = 0 ∨ preV (bestTo P item l k) (l.getD k OpV.zero) = true) then l.getD k OpV.zero else bestTo P item l k
theorem bestTo_from (P : Int → Bool) (item : ByteArray) (l : List OpV) : ∀ k, bestTo P item l k = OpV.zero ∨ ∃ i, i < k ∧ bestTo P item l k = atOp l i
  | 0 => .inl rfl
  | k + 1 => by
    rw [bestTo]
    split
    · exact .inr ⟨k, by omega, rfl⟩
    · rcases bestTo_from P item l k with h | ⟨i, hi, h⟩
      · exact .inl h
      · exact .inr ⟨i, by omega, h⟩
theorem ok_kind {o : OpV} (h : o.ok = true) : 1 ≤ o.kind ∧ o.kind ≤ 5 := by
  unfold OpV.ok opB tailB at h
  simp only [Bool.and_eq_true] at h
  have := inB_iff.1 h.2.1
  exact this
theorem zero_bad : OpV.zero.ok = false := by
  rcases h : OpV.zero.ok with _ | _
  · rfl
  · have := ok_kind h
    have e : OpV.zero.kind = 0 := rfl
    omega
theorem bef_ok {a b : OpV} (ha : a.ok = true) (hb : b.ok = true) : befV a b = preV a b := by
  unfold befV befB
  unfold OpV.ok at ha hb
  rw [ha, hb]
  rfl
theorem bef_bad {a b : OpV} (hb : b.ok = false) : befV a b = false := by
  unfold befV befB
  unfold OpV.ok at hb
  rw [hb]
  simp
/-- Of two operations that are not one place, one precedes the other, and not both. -/
theorem pre_flip {a b : OpV} (h : a.dev ≠ b.dev ∨ a.seq ≠ b.seq) : preV a b = !preV b a := by
  unfold preV preB
  rcases Int.lt_trichotomy a.stamp b.stamp with h1 | h1 | h1 <;> rcases Int.lt_trichotomy a.dev b.dev with h2 | h2 | h2 <;> rcases Int.lt_trichotomy a.seq b.seq with h3 | h3 | h3 <;> (rw [Bool.eq_iff_iff]; simp; omega)
theorem later_best {xs : List Int} {l : List OpV} (hc : cartB xs l = true) (P : Int → Bool) (item : ByteArray) {k : Nat} (hk : k < l.length) :
    laterV (bestTo P item l k) (l.getD k OpV.zero) = if (bestTo P item l k).kind = 0 ∨ preV (bestTo P item l k) (l.getD k OpV.zero) = true then l.getD k OpV.zero else bestTo P item l k := by
  obtain ⟨_, _, _, _, _, hok, _, _⟩ := cart_at hc hk
  unfold laterV
  rcases bestTo_from P item l k with h | ⟨i, hi, h⟩
  · rw [h, bef_bad zero_bad, if_neg (by simp), if_pos (.inl rfl)]
  · obtain ⟨_, _, _, _, _, hoki, _, _⟩ := cart_at hc (i := i) (by omega)
    rw [h]
    have hn : (atOp l i).kind ≠ 0 := by have := ok_kind hoki; omega
    have hne : (atOp l i).dev ≠ (l.getD k OpV.zero).dev ∨ (atOp l i).seq ≠ (l.getD k OpV.zero).seq := by
      rcases Classical.em ((atOp l i).dev = (l.getD k OpV.zero).dev) with h1 | h1
      · right; intro h2
        have := cart_one hc (i := i) (j := k) (by omega) hk h1 h2
        omega
      · exact .inl h1
    have hb : befV (l.getD k OpV.zero) (atOp l i) = preV (l.getD k OpV.zero) (atOp l i) := bef_ok hok hoki
    rw [hb, pre_flip hne]
    cases preV (l.getD k OpV.zero) (atOp l i)
    · rw [if_neg (by simp), if_pos (.inr rfl)]
    · rw [if_pos rfl, if_neg (by simp [hn])]
theorem state_to {xs : List Int} {l : List OpV} (hc : cartB xs l = true) (item : ByteArray) : ∀ k, k ≤ l.length → stateV item (liveTo l k) = ⟨levTo item l k, bestTo cntB item l k, bestTo plcB item l k⟩
  | 0, _ => rfl
  | k + 1, hk => by
    have hk' : k < l.length := hk
    have ih := state_to hc item k (by omega)
    obtain ⟨_, _, _, _, _, hok, _, _⟩ := cart_at hc hk'
    have hl := live_ok hok
    have e : atOp l k = l.getD k OpV.zero := rfl
    rw [e] at hl
    by_cases hu : (l.getD k OpV.zero).undos % 2 = 0
    · rw [liveTo_yes hk' (by rw [hl, decide_eq_true hu]), stateV_snoc]
      by_cases hi : (l.getD k OpV.zero).item = item
      · rw [if_pos hi, ih, levTo, if_pos ⟨hi, hu⟩, bestTo, bestTo]
        unfold withV
        simp only []
        congr 1
        · cases hP : cntB (l.getD k OpV.zero).kind
          · rw [if_neg (by simp), if_neg (by simp)]
          · rw [if_pos rfl, later_best hc cntB item hk']
            simp only [hi, hu, true_and, and_self]
        · cases hP : plcB (l.getD k OpV.zero).kind
          · rw [if_neg (by simp), if_neg (by simp)]
          · rw [if_pos rfl, later_best hc plcB item hk']
            simp only [hi, hu, true_and, and_self]
      · rw [if_neg hi, ih, levTo, if_neg (fun h => hi h.1), bestTo, if_neg (fun h => hi h.1.2.1), bestTo, if_neg (fun h => hi h.1.2.1)]
    · rw [liveTo_no hk' (by rw [hl, decide_eq_false hu]), ih, levTo, if_neg (fun h => hu h.2), bestTo, if_neg (fun h => hu h.1.2.2), bestTo, if_neg (fun h => hu h.1.2.2)]
end Go.Proofs.Ytideaompdbdbhaa
