/- More of what several claims share. -/
import Derived.Test.YtmceofdknphgkaaGa16
import Derived.Test.YtmceofdknphgkaaGlp2
import Derived.Test.YtmceofdknphgkaaGa11
import Derived.Test.YtmceofdknphgkaaGlp4
namespace Go.Proofs.Ytmceofdknphgkaa
open Go.RowKit

theorem take_at {l : List OpV} {k : Nat} (h : k < l.length) : l.take (k + 1) = l.take k ++ [l.getD k OpV.zero] := by
  rw [List.take_succ_eq_append_getElem h, List.getD_eq_getElem?_getD, List.getElem?_eq_getElem h]
  rfl
theorem liveTo_yes {l : List OpV} {k : Nat} (hk : k < l.length) (h : (l.getD k OpV.zero).live = true) : liveTo l (k + 1) = liveTo l k ++ [l.getD k OpV.zero] := by
  unfold liveTo
  rw [take_at hk, List.filter_append, List.filter_cons, if_pos h, List.filter_nil]
theorem liveTo_no {l : List OpV} {k : Nat} (hk : k < l.length) (h : (l.getD k OpV.zero).live = false) : liveTo l (k + 1) = liveTo l k := by
  unfold liveTo
  rw [take_at hk, List.filter_append, List.filter_cons, if_neg (by rw [h]; exact Bool.false_ne_true), List.filter_nil, List.append_nil]
theorem liveTo_len (l : List OpV) (k : Nat) : (liveTo l k).length ≤ k := by
  unfold liveTo
  exact Nat.le_trans (List.length_filter_le _ _) (List.length_take_le _ _)
/-- Two places with one device and number are one place. -/
theorem cart_one {xs : List Int} {l : List OpV} (h : cartB xs l = true) {i j : Nat} (hi : i < l.length) (hj : j < l.length) (hd : (atOp l i).dev = (atOp l j).dev) (hs : (atOp l i).seq = (atOp l j).seq) : i = j := by
  obtain ⟨d, k, _, _, rfl, _, h1, h2⟩ := cart_atV h hi
  obtain ⟨e, m, _, _, rfl, _, g1, g2⟩ := cart_atV h hj
  obtain rfl : d = e := by have := h1.symm.trans (hd.trans g1); omega
  have := h2.symm.trans (hs.trans g2)
  omega
theorem live_ok {o : OpV} (h : o.ok = true) : o.live = decide (o.undos % 2 = 0) := by
  unfold OpV.live liveB
  unfold OpV.ok at h
  rw [h]
  rfl

end Go.Proofs.Ytmceofdknphgkaa
namespace Go.Proofs.Ytmceofdknphgkaa
open Go.RowKit

def befW (a b : OpV) : Bool := befB a.dev a.seq a.stamp a.kind a.item a.qty a.level a.undos b.dev b.seq b.stamp b.kind b.item b.qty b.level b.undos
def laterV (a b : OpV) : OpV := if befW b a = true then a else b
def cntB (kind : Int) : Bool := decide (kind = 1 ∨ kind = 2)
def withV (s : StV) (o : OpV) : StV := ⟨max s.level o.level, if cntB o.kind = true then laterV s.counted o else s.counted, if plcB o.kind = true then laterV s.placed o else s.placed⟩
def stateV (item : ByteArray) (pre : List OpV) : StV := pre.foldl (fun s o => if o.item = item then withV s o else s) StV.zero
theorem stateV_snoc (item : ByteArray) (pre : List OpV) (o : OpV) : stateV item (pre ++ [o]) = if o.item = item then withV (stateV item pre) o else stateV item pre := by
  unfold stateV
  rw [List.foldl_append]
  rfl
theorem bestTo_from (P : Int → Bool) (item : ByteArray) (l : List OpV) : ∀ k, bestTo P item l k = OpV.zero ∨ ∃ i, i < k ∧ bestTo P item l k = atOp l i
  | 0 => .inl rfl
  | k + 1 => by
    rw [bestTo]
    split
    · exact .inr ⟨k, by omega, rfl⟩
    · rcases bestTo_from P item l k with h | ⟨i, hi, h⟩
      · exact .inl h
      · exact .inr ⟨i, by omega, h⟩
theorem ok_kind {o : OpV} (h : o.ok = true) : 1 ≤ o.kind ∧ o.kind ≤ 5 := by
  unfold OpV.ok opB tailB at h
  simp only [Bool.and_eq_true] at h
  have := inB_iff.1 h.2.1
  exact this
theorem zero_bad : OpV.zero.ok = false := by
  rcases h : OpV.zero.ok with _ | _
  · rfl
  · have := ok_kind h
    have e : OpV.zero.kind = 0 := rfl
    omega
theorem bef_ok {a b : OpV} (ha : a.ok = true) (hb : b.ok = true) : befW a b = preV a b := by
  unfold befW befB
  unfold OpV.ok at ha hb
  rw [ha, hb]
  rfl
theorem bef_bad {a b : OpV} (hb : b.ok = false) : befW a b = false := by
  unfold befW befB
  unfold OpV.ok at hb
  rw [hb]
  simp
/-- Of two operations that are not one place, one precedes the other, and not both. -/
theorem pre_flip {a b : OpV} (h : a.dev ≠ b.dev ∨ a.seq ≠ b.seq) : preV a b = !preV b a := by
  unfold preV preB
  rcases Int.lt_trichotomy a.stamp b.stamp with h1 | h1 | h1 <;> rcases Int.lt_trichotomy a.dev b.dev with h2 | h2 | h2 <;> rcases Int.lt_trichotomy a.seq b.seq with h3 | h3 | h3 <;> (rw [Bool.eq_iff_iff]; simp; omega)
theorem later_best {xs : List Int} {l : List OpV} (hc : cartB xs l = true) (P : Int → Bool) (item : ByteArray) {k : Nat} (hk : k < l.length) :
    laterV (bestTo P item l k) (l.getD k OpV.zero) = if (bestTo P item l k).kind = 0 ∨ preV (bestTo P item l k) (l.getD k OpV.zero) = true then l.getD k OpV.zero else bestTo P item l k := by
  obtain ⟨_, _, _, _, _, hok, _, _⟩ := cart_atV hc hk
  unfold laterV
  rcases bestTo_from P item l k with h | ⟨i, hi, h⟩
  · rw [h, bef_bad zero_bad, if_neg (by simp), if_pos (.inl rfl)]
  · obtain ⟨_, _, _, _, _, hoki, _, _⟩ := cart_atV hc (i := i) (by omega)
    rw [h]
    have hn : (atOp l i).kind ≠ 0 := by have := ok_kind hoki; omega
    have hne : (atOp l i).dev ≠ (l.getD k OpV.zero).dev ∨ (atOp l i).seq ≠ (l.getD k OpV.zero).seq := by
      rcases Classical.em ((atOp l i).dev = (l.getD k OpV.zero).dev) with h1 | h1
      · right; intro h2
        have := cart_one hc (i := i) (j := k) (by omega) hk h1 h2
        omega
      · exact .inl h1
    have hb : befW (l.getD k OpV.zero) (atOp l i) = preV (l.getD k OpV.zero) (atOp l i) := bef_ok hok hoki
    rw [hb, pre_flip hne]
    cases preV (l.getD k OpV.zero) (atOp l i)
    · rw [if_neg (by simp), if_pos (.inr rfl)]
    · rw [if_pos rfl, if_neg (by simp [hn])]
theorem state_to {xs : List Int} {l : List OpV} (hc : cartB xs l = true) (item : ByteArray) : ∀ k, k ≤ l.length → stateV item (liveTo l k) = ⟨levTo item l k, bestTo cntB item l k, bestTo plcB item l k⟩
  | 0, _ => rfl
  | k + 1, hk => by
    have hk' : k < l.length := hk
    have ih := state_to hc item k (by omega)
    obtain ⟨_, _, _, _, _, hok, _, _⟩ := cart_atV hc hk'
    have hl := live_ok hok
    have e : atOp l k = l.getD k OpV.zero := rfl
    rw [e] at hl
    by_cases hu : (l.getD k OpV.zero).undos % 2 = 0
    · rw [liveTo_yes hk' (by rw [hl, decide_eq_true hu]), stateV_snoc]
      by_cases hi : (l.getD k OpV.zero).item = item
      · rw [if_pos hi, ih, levTo, if_pos ⟨hi, hu⟩, bestTo, bestTo]
        unfold withV
        simp only []
        congr 1
        · cases hP : cntB (l.getD k OpV.zero).kind
          · rw [if_neg (by simp), if_neg (by simp)]
          · rw [if_pos rfl, later_best hc cntB item hk']
            simp only [hi, hu, true_and, and_self]
        · cases hP : plcB (l.getD k OpV.zero).kind
          · rw [if_neg (by simp), if_neg (by simp)]
          · rw [if_pos rfl, later_best hc plcB item hk']
            simp only [hi, hu, true_and, and_self]
      · rw [if_neg hi, ih, levTo, if_neg (fun h => hi h.1), bestTo, if_neg (fun h => hi h.1.2.1), bestTo, if_neg (fun h => hi h.1.2.1)]
    · rw [liveTo_no hk' (by rw [hl, decide_eq_false hu]), ih, levTo, if_neg (fun h => hu h.2), bestTo, if_neg (fun h => hu h.1.2.2), bestTo, if_neg (fun h => hu h.1.2.2)]
end Go.Proofs.Ytmceofdknphgkaa
