/- What a valid cart's operations are, by place; the live ones; levels, the last ones. Mathematics for chapters 5 and 6. -/
import Derived.Test.YtdbdmfaphdjdpaaCartOkW
namespace Go.Proofs.Ytdbdmfaphdjdpaa
open Go.RowKit

def OpV.val (o : OpV) : Value := .agg #[.int .i64 o.dev, .int .i64 o.seq, .int .i64 o.stamp, .int .i64 o.kind, .string o.item, .int .i64 o.qty, .int .i64 o.level, .int .i64 o.undos]
def OpV.live (o : OpV) : Bool := liveB o.dev o.seq o.stamp o.kind o.item o.qty o.level o.undos
def liveTo (l : List OpV) (k : Nat) : List OpV := (l.take k).filter OpV.live
theorem take_at {l : List OpV} {k : Nat} (h : k < l.length) : l.take (k + 1) = l.take k ++ [l.getD k OpV.zero] := by
  rw [List.take_succ_eq_append_getElem h, List.getD_eq_getElem?_getD, List.getElem?_eq_getElem h]
  rfl
theorem liveTo_yes {l : List OpV} {k : Nat} (hk : k < l.length) (h : (l.getD k OpV.zero).live = true) : liveTo l (k + 1) = liveTo l k ++ [l.getD k OpV.zero] := by
  unfold liveTo
  rw [take_at hk, List.filter_append, List.filter_cons, if_pos h, List.filter_nil]
theorem liveTo_no {l : List OpV} {k : Nat} (hk : k < l.length) (h : (l.getD k OpV.zero).live = false) : liveTo l (k + 1) = liveTo l k := by
  unfold liveTo
  rw [take_at hk, List.filter_append, List.filter_cons, if_neg (by rw [h]; exact Bool.false_ne_true), List.filter_nil, List.append_nil]
theorem liveTo_len (l : List OpV) (k : Nat) : (liveTo l k).length ≤ k := by
  unfold liveTo
  exact Nat.le_trans (List.length_filter_le _ _) (List.length_take_le _ _)
theorem liveTo_all (l : List OpV) : liveTo l l.length = l.filter OpV.live := by
  unfold liveTo
  rw [List.take_length]

/-- In a valid cart each place has the operation of its device and number. -/
theorem cart_split {xs : List Int} {l : List OpV} (h : cartB xs l = true) : vecOk xs = true ∧ (∀ d, d < 4 → devB xs l d = true) ∧ stOf xs 4 = l.length := by
  unfold cartB at h
  simp only [Bool.and_eq_true, decide_eq_true_eq, List.all_eq_true] at h
  exact ⟨h.1, fun d hd => h.2.1 d (by simpa using hd), h.2.2⟩
theorem st_find {xs : List Int} {i : Nat} : ∀ d, i < stOf xs d → ∃ e k, e < d ∧ k < (xs.getD e 0).toNat ∧ i = stOf xs e + k
  | 0, h => by simp [stOf] at h
  | d + 1, h => by
    rcases Nat.lt_or_ge i (stOf xs d) with h1 | h1
    · obtain ⟨e, k, he, hk, hi⟩ := st_find d h1
      exact ⟨e, k, by omega, hk, hi⟩
    · rw [stOf] at h
      exact ⟨d, i - stOf xs d, by omega, by omega, by omega⟩
theorem cart_atV {xs : List Int} {l : List OpV} (h : cartB xs l = true) {i : Nat} (hi : i < l.length) :
    ∃ d k, d < 4 ∧ k < (xs.getD d 0).toNat ∧ i = stOf xs d + k ∧ (atOp l i).ok = true ∧ (atOp l i).dev = (d : Int) ∧ (atOp l i).seq = (k : Int) + 1 := by
  obtain ⟨_, hd, hs⟩ := cart_split h
  obtain ⟨d, k, h1, h2, rfl⟩ := st_find (xs := xs) 4 (by rw [hs]; exact hi)
  have hb := hd d h1
  unfold devB at hb
  simp only [Bool.and_eq_true, decide_eq_true_eq] at hb
  have hr := hb.2
  unfold runB at hr
  rw [List.all_eq_true] at hr
  have hf := hr k (by simpa using h2)
  unfold fitB at hf
  simp only [Bool.and_eq_true, decide_eq_true_eq] at hf
  exact ⟨d, k, h1, h2, rfl, hf.1, hf.2.1, hf.2.2.1⟩
/-- Two places with one device and number are one place. -/
theorem cart_one {xs : List Int} {l : List OpV} (h : cartB xs l = true) {i j : Nat} (hi : i < l.length) (hj : j < l.length) (hd : (atOp l i).dev = (atOp l j).dev) (hs : (atOp l i).seq = (atOp l j).seq) : i = j := by
  obtain ⟨d, k, _, _, rfl, _, h1, h2⟩ := cart_atV h hi
  obtain ⟨e, m, _, _, rfl, _, g1, g2⟩ := cart_atV h hj
  obtain rfl : d = e := by have := h1.symm.trans (hd.trans g1); omega
  have := h2.symm.trans (hs.trans g2)
  omega
theorem live_ok {o : OpV} (h : o.ok = true) : o.live = decide (o.undos % 2 = 0) := by
  unfold OpV.live liveB
  unfold OpV.ok at h
  rw [h]
  rfl

/-- The greatest number of a device's operation among some. -/
def lastOf (dev : Int) (pre : List OpV) : Int := pre.foldl (fun n o => if o.dev = dev then max n o.seq else n) 0
theorem lastOf_snoc (dev : Int) (pre : List OpV) (o : OpV) : lastOf dev (pre ++ [o]) = if o.dev = dev then max (lastOf dev pre) o.seq else lastOf dev pre := by
  unfold lastOf
  rw [List.foldl_append]
  rfl
theorem lastOf_pos (dev : Int) (pre : List OpV) : 0 ≤ lastOf dev pre := by
  unfold lastOf
  have : ∀ (l : List OpV) (n : Int), 0 ≤ n → 0 ≤ l.foldl (fun n o => if o.dev = dev then max n o.seq else n) n := by
    intro l
    induction l with
    | nil => intro n h; exact h
    | cons o l ih =>
      intro n h
      rw [List.foldl_cons]
      refine ih _ ?_
      split
      · omega
      · exact h
  exact this pre 0 (by omega)
theorem cart_mono {xs : List Int} {l : List OpV} (h : cartB xs l = true) {i j : Nat} (hij : i < j) (hj : j < l.length) (hd : (atOp l i).dev = (atOp l j).dev) : (atOp l i).seq < (atOp l j).seq := by
  obtain ⟨d, k, _, _, hi, _, h1, h2⟩ := cart_atV h (i := i) (by omega)
  obtain ⟨e, m, _, _, hj', _, g1, g2⟩ := cart_atV h hj
  obtain rfl : d = e := by have := h1.symm.trans (hd.trans g1); omega
  rw [h2, g2]
  omega
/-- The model's last live operation of a device, among the first k. -/
def undoTo (dev : Int) (l : List OpV) : Nat → Int
  | 0 => 0
  | k + 1 => if (l.getD k OpV.zero).dev = dev ∧ (l.getD k OpV.zero).undos % 2 = 0 then (l.getD k OpV.zero).seq else undoTo dev l k
theorem undo_from (dev : Int) (l : List OpV) : ∀ k, undoTo dev l k = 0 ∨ ∃ i, i < k ∧ (atOp l i).dev = dev ∧ undoTo dev l k = (atOp l i).seq
  | 0 => .inl rfl
  | k + 1 => by
    rw [undoTo]
    split
    · rename_i h
      exact .inr ⟨k, by omega, h.1, rfl⟩
    · rcases undo_from dev l k with h | ⟨i, hi, h⟩
      · exact .inl h
      · exact .inr ⟨i, by omega, h⟩
theorem undo_last {xs : List Int} {l : List OpV} (hc : cartB xs l = true) (dev : Int) : ∀ k, k ≤ l.length → lastOf dev (liveTo l k) = undoTo dev l k
  | 0, _ => rfl
  | k + 1, hk => by
    have hk' : k < l.length := hk
    have ih := undo_last hc dev k (by omega)
    obtain ⟨d, m, _, _, _, hok, hdv, hsq⟩ := cart_atV hc hk'
    have hl := live_ok hok
    have e : atOp l k = l.getD k OpV.zero := rfl
    rw [e] at hl hdv hsq
    by_cases hu : (l.getD k OpV.zero).undos % 2 = 0
    · rw [liveTo_yes hk' (by rw [hl, decide_eq_true hu]), lastOf_snoc, ih, undoTo]
      by_cases hd : (l.getD k OpV.zero).dev = dev
      · rw [if_pos hd, if_pos ⟨hd, hu⟩]
        rcases undo_from dev l k with h | ⟨i, hi, h1, h2⟩
        · rw [h]; omega
        · have := cart_mono hc hi hk' (h1.trans hd.symm)
          rw [e] at this
          rw [h2]; omega
      · rw [if_neg hd, if_neg (fun h => hd h.1)]
    · rw [liveTo_no hk' (by rw [hl, decide_eq_false hu]), ih, undoTo, if_neg (fun h => hu h.2)]
theorem undo_nobody {xs : List Int} {l : List OpV} (hc : cartB xs l = true) {dev : Int} (hd : ¬ (0 ≤ dev ∧ dev ≤ 3)) : ∀ k, k ≤ l.length → undoTo dev l k = 0
  | 0, _ => rfl
  | k + 1, hk => by
    obtain ⟨d, m, h4, _, _, _, hdv, _⟩ := cart_atV hc (i := k) hk
    have e : atOp l k = l.getD k OpV.zero := rfl
    rw [e] at hdv
    rw [undoTo, if_neg (fun h => hd (by rw [← h.1, hdv]; omega)), undo_nobody hc hd k (by omega)]
theorem undo_le {xs : List Int} {l : List OpV} (hc : cartB xs l = true) (d : Nat) (k : Nat) (hk : k ≤ l.length) : 0 ≤ undoTo (d : Int) l k ∧ undoTo (d : Int) l k ≤ 40 := by
  rcases undo_from (d : Int) l k with h | ⟨i, hi, h1, h2⟩
  · rw [h]; omega
  · obtain ⟨e, m, he, hm, _, _, hdv, hsq⟩ := cart_atV hc (i := i) (by omega)
    have := (vec_at (cart_split hc).1 he).2.1
    rw [h2, hsq]
    omega
theorem st_mono (xs : List Int) : ∀ {d e : Nat}, d ≤ e → stOf xs d ≤ stOf xs e
  | d, 0, h => by obtain rfl : d = 0 := by omega
                  exact Nat.le_refl _
  | d, e + 1, h => by
    rcases Nat.lt_or_ge d (e + 1) with h1 | h1
    · have := st_mono xs (d := d) (e := e) (by omega)
      rw [stOf]
      omega
    · obtain rfl : d = e + 1 := by omega
      exact Nat.le_refl _
/-- A device's n-th operation is there just where its element of the vector says so. -/
theorem cart_hasV {xs : List Int} {l : List OpV} (hc : cartB xs l = true) {d : Nat} (hd : d < 4) {n : Int} (hn : 1 ≤ n) : n ≤ xs.getD d 0 ↔ ∃ i, i < l.length ∧ (atOp l i).dev = (d : Int) ∧ (atOp l i).seq = n := by
  obtain ⟨hv, hdv, hs⟩ := cart_split hc
  constructor
  · intro h
    have hb := hdv d hd
    unfold devB at hb
    simp only [Bool.and_eq_true, decide_eq_true_eq] at hb
    have hx := vec_at hv hd
    have hi : stOf xs d + (n.toNat - 1) < l.length := by have := hb.1; rw [stOf] at this; omega
    refine ⟨stOf xs d + (n.toNat - 1), hi, ?_⟩
    have hr := hb.2
    unfold runB at hr
    rw [List.all_eq_true] at hr
    have hf := hr (n.toNat - 1) (by rw [List.mem_range]; omega)
    unfold fitB at hf
    simp only [Bool.and_eq_true, decide_eq_true_eq] at hf
    exact ⟨hf.2.1, by rw [hf.2.2.1]; omega⟩
  · rintro ⟨i, hi, h1, h2⟩
    obtain ⟨e, m, he, hm, _, _, g1, g2⟩ := cart_atV hc hi
    obtain rfl : e = d := by have := g1.symm.trans h1; omega
    rw [← h2, g2]
    omega
end Go.Proofs.Ytdbdmfaphdjdpaa
