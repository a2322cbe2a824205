/- Looking an operation up by device and number, in a list in that order: the walks of slices.BinarySearchFunc, of counterpart and of spec.l4At. -/
import Derived.Test.YtjmilgijdfibbabByNumW
import Derived.Test.YtjmilgijdfibbabNamedW
import Derived.Deep.Cut
import Derived.Deep.RegionHeld3
namespace Go.Proofs.Ytjmilgijdfibbab
open Go.RowKit

theorem op_cells9 {w : World} {b : Nat} {v0 v1 v2 v3 v4 v5 v6 v7 : Value} {T : TypeId} {fr : Nat × Nat} (h : w.heap[b]? = some (.cells #[v0, v1, v2, v3, v4, v5, v6, v7] T fr)) : w.cell? ⟨b, 0, none⟩ = some v0 ∧ w.cell? ⟨b, 1, none⟩ = some v1 ∧ w.cell? ⟨b, 2, none⟩ = some v2 ∧ w.cell? ⟨b, 3, none⟩ = some v3 ∧ w.cell? ⟨b, 4, none⟩ = some v4 ∧ w.cell? ⟨b, 5, none⟩ = some v5 ∧ w.cell? ⟨b, 6, none⟩ = some v6 ∧ w.cell? ⟨b, 7, none⟩ = some v7 :=
  ⟨cell_of_row _ _ _ _ _ _ h, cell_of_row _ _ _ _ _ _ h, cell_of_row _ _ _ _ _ _ h, cell_of_row _ _ _ _ _ _ h, cell_of_row _ _ _ _ _ _ h, cell_of_row _ _ _ _ _ _ h, cell_of_row _ _ _ _ _ _ h, cell_of_row _ _ _ _ _ _ h⟩
def eqN (l : List OpV) (i : Nat) (dev seq : Int) : Prop := (atOp l i).dev = dev ∧ (atOp l i).seq = seq
theorem cart_at {xs : List Int} {l : List OpV} (h : cartB xs l = true) {i : Nat} (hi : i < l.length) : ∃ d : Nat, d < 4 ∧ stOf xs d ≤ i ∧ i < stOf xs (d + 1) ∧ (atOp l i).ok = true ∧ (atOp l i).dev = (d : Int) ∧ (atOp l i).seq = ((i - stOf xs d : Nat) : Int) + 1 := by
  obtain ⟨_, h1, h2⟩ := cart_true h
  have hd : ∃ d : Nat, d < 4 ∧ stOf xs d ≤ i ∧ i < stOf xs (d + 1) := by
    by_cases a1 : i < stOf xs 1
    · exact ⟨0, by omega, Nat.zero_le _, a1⟩
    by_cases a2 : i < stOf xs 2
    · exact ⟨1, by omega, by omega, a2⟩
    by_cases a3 : i < stOf xs 3
    · exact ⟨2, by omega, by omega, a3⟩
    · exact ⟨3, by omega, by omega, by rw [h2]; exact hi⟩
  obtain ⟨d, hd4, hlo, hhi⟩ := hd
  have hb := h1 d hd4
  unfold devB at hb
  rw [Bool.and_eq_true] at hb
  have hr := hb.2
  unfold runB at hr
  rw [List.all_eq_true] at hr
  have es : stOf xs (d + 1) = stOf xs d + (xs.getD d 0).toNat := rfl
  have hf := hr (i - stOf xs d) (by rw [List.mem_range]; omega)
  have e : stOf xs d + (i - stOf xs d) = i := by omega
  unfold fitB at hf
  rw [e] at hf
  simp only [Bool.and_eq_true, decide_eq_true_eq] at hf
  exact ⟨d, hd4, hlo, hhi, hf.1, hf.2.1, hf.2.2.1⟩
theorem cart_inc {xs : List Int} {l : List OpV} (h : cartB xs l = true) : incB l = true := inc_yes fun i hi => by
  unfold incAt
  by_cases h0 : i = 0
  · rw [decide_eq_true h0]; rfl
  obtain ⟨d, hd, a1, a2, _, e1, e2⟩ := cart_at h hi
  obtain ⟨d', hd', b1, b2, _, f1, f2⟩ := cart_at h (i := i - 1) (by omega)
  rw [decide_eq_false h0, Bool.false_or, e1, e2, f1, f2]
  unfold numB
  refine decide_eq_true ?_
  rcases Nat.lt_trichotomy d' d with g | g | g
  · exact .inl (by omega)
  · subst g
    exact .inr ⟨rfl, by omega⟩
  · have := stOf_mono xs (d + 1) d' (by omega)
    omega
theorem num_trans {a b c d e f : Int} (h1 : numB a b c d = true) (h2 : numB c d e f = true) : numB a b e f = true := by
  unfold numB at *
  have h1 := of_decide_eq_true h1
  have h2 := of_decide_eq_true h2
  exact decide_eq_true (by omega)
theorem num_irr {a b : Int} (h : numB a b a b = true) : False := by
  unfold numB at h
  have := of_decide_eq_true h
  omega
theorem inc_at {l : List OpV} (h : incB l = true) {i : Nat} (hi : i + 1 < l.length) : numB (atOp l i).dev (atOp l i).seq (atOp l (i + 1)).dev (atOp l (i + 1)).seq = true := by
  unfold incB at h
  rw [List.all_eq_true] at h
  have := h (i + 1) (by simpa using hi)
  unfold incAt at this
  rw [decide_eq_false (by omega), Bool.false_or] at this
  exact this
theorem inc_lt {l : List OpV} (h : incB l = true) : ∀ j i, i < j → j < l.length → numB (atOp l i).dev (atOp l i).seq (atOp l j).dev (atOp l j).seq = true
  | 0, i, hij, _ => by omega
  | j + 1, i, hij, hj => by
    rcases Nat.lt_or_ge i j with h1 | h1
    · exact num_trans (inc_lt h j i h1 (by omega)) (inc_at h hj)
    · obtain rfl : i = j := by omega
      exact inc_at h hj
theorem inc_uniq {l : List OpV} (h : incB l = true) {i j : Nat} {dev seq : Int} (hi : i < l.length) (hj : j < l.length) (e1 : eqN l i dev seq) (e2 : eqN l j dev seq) : i = j := by
  unfold eqN at e1 e2
  rcases Nat.lt_trichotomy i j with g | g | g
  · have := inc_lt h j i g hj
    rw [e1.1, e1.2, e2.1, e2.2] at this
    exact (num_irr this).elim
  · exact g
  · have := inc_lt h i j g hi
    rw [e1.1, e1.2, e2.1, e2.2] at this
    exact (num_irr this).elim
theorem numI_neg {d q d' q' : Int} : numI d q d' q' < 0 ↔ numB d q d' q' = true := by rw [num_lt]; exact decide_eq_true_iff.symm
theorem numI_zero {d q d' q' : Int} : numI d q d' q' = 0 ↔ d = d' ∧ q = q' := by
  unfold numI orI2
  rcases Int.lt_trichotomy d d' with g | g | g
  · rw [cmp_lt g, if_pos (by decide)]; omega
  · rw [cmp_eq g, if_neg (by decide)]
    rcases Int.lt_trichotomy q q' with k | k | k
    · rw [cmp_lt k]; omega
    · rw [cmp_eq k]; omega
    · rw [cmp_gt k]; omega
  · rw [cmp_gt g, if_pos (by decide)]; omega
/-- How an operation of a list compares with x. -/
def cmpAt (l : List OpV) (x : OpV) (j : Nat) : Int := numI (atOp l j).dev (atOp l j).seq x.dev x.seq
theorem cmp_down {l : List OpV} {x : OpV} (h : incB l = true) {m : Nat} (hm : m < l.length) (hc : cmpAt l x m < 0) : ∀ j, j < m + 1 → cmpAt l x j < 0 := fun j hj => by
  rcases Nat.lt_or_ge j m with h1 | h1
  · exact numI_neg.2 (num_trans (inc_lt h m j h1 hm) (numI_neg.1 hc))
  · obtain rfl : j = m := by omega
    exact hc
theorem cmp_up {l : List OpV} {x : OpV} (h : incB l = true) {m : Nat} (hc : 0 ≤ cmpAt l x m) : ∀ j, m ≤ j → j < l.length → 0 ≤ cmpAt l x j := fun j hj hl => by
  rcases Nat.lt_or_ge m j with h1 | h1
  · refine Int.not_lt.1 fun hn => ?_
    have : cmpAt l x m < 0 := numI_neg.2 (num_trans (inc_lt h j m h1 hl) (numI_neg.1 hn))
    omega
  · obtain rfl : j = m := by omega
    exact hc
theorem none_of {l : List OpV} {x : OpV} (h : incB l = true) {k : Nat} (h1 : ∀ j, j < k → cmpAt l x j < 0) (h2 : k < l.length → 0 ≤ cmpAt l x k ∧ cmpAt l x k ≠ 0) : ∀ j, j < l.length → ¬ eqN l j x.dev x.seq := fun j hj e => by
  have ez : cmpAt l x j = 0 := numI_zero.2 e
  rcases Nat.lt_trichotomy j k with g | g | g
  · have := h1 j g; omega
  · subst g
    exact (h2 hj).2 ez
  · have hlt := inc_lt h j k g hj
    unfold eqN at e
    rw [e.1, e.2] at hlt
    have a1 := (h2 (by omega)).1
    have a2 : cmpAt l x k < 0 := numI_neg.2 hlt
    omega
def Found (l : List OpV) (x : OpV) (i : Nat) (b : Bool) : Prop := i ≤ l.length ∧ (b = true → i < l.length ∧ eqN l i x.dev x.seq) ∧ (b = false → ∀ j, j < l.length → ¬ eqN l j x.dev x.seq)
theorem found_end {l : List OpV} {x : OpV} (h : incB l = true) (h1 : ∀ j, j < l.length → cmpAt l x j < 0) : Found l x l.length false :=
  ⟨Nat.le_refl _, fun h => (by cases h), fun _ => none_of h h1 (fun h => absurd h (by omega))⟩
theorem found_mid {l : List OpV} {x : OpV} (h : incB l = true) {k : Nat} (hk : k < l.length) (h1 : ∀ j, j < k → cmpAt l x j < 0) (h2 : 0 ≤ cmpAt l x k) : Found l x k (decide (cmpAt l x k = 0)) :=
  ⟨by omega, fun e => ⟨hk, numI_zero.1 (of_decide_eq_true e)⟩, fun e => none_of h h1 fun _ => ⟨h2, of_decide_eq_false e⟩⟩

set_option linter.unusedSimpArgs false in
set_option maxRecDepth 100000 in
set_option maxHeartbeats 4000000 in
theorem binSearch (w : World) (B : Nat) (a : Option Addr) (n c : Nat) (l : List OpV) (x : OpV) (h : Ops w B a n l) (hB : B ≤ w.heap.size) (hn : n ≤ 1048576) (hinc : incB l = true) :
    Calls Try.prog 87 #[.slice a n c, .agg #[.int .i64 x.dev, .int .i64 x.seq, .int .i64 x.stamp, .int .i64 x.kind, .string x.item, .int .i64 x.qty, .int .i64 x.level, .int .i64 x.undos], .func (.func 86) #[] #[]] w fun e w' => (∃ (i : Nat) (b : Bool), e = .returned (.tuple #[.int .i64 (i : Int), .bool b]) ∧ Found l x i b) ∧ Below w.heap.size w w' := by
  have hb0 : Below w.heap.size w (w.alloc (.cells #[.int .i64 x.dev, .int .i64 x.seq, .int .i64 x.stamp, .int .i64 x.kind, .string x.item, .int .i64 x.qty, .int .i64 x.level, .int .i64 x.undos] 66)) := (Below.refl _ w).alloc (Nat.le_refl _) _
  have HO := Lib.hid (h.below hb0 hB)
  have HB := Lib.hid hb0
  have HX := Lib.hid (boxAt (Below.refl _ (w.alloc (.cells #[.int .i64 x.dev, .int .i64 x.seq, .int .i64 x.stamp, .int .i64 x.kind, .string x.item, .int .i64 x.qty, .int .i64 x.level, .int .i64 x.undos] 66))))
  have HL := Lib.hid h.1
  have HInc := Lib.hid hinc
  have hsz : w.heap.size < (w.alloc (.cells #[.int .i64 x.dev, .int .i64 x.seq, .int .i64 x.stamp, .int .i64 x.kind, .string x.item, .int .i64 x.qty, .int .i64 x.level, .int .i64 x.undos] 66)).heap.size := by show _ < (w.heap.push _).size; simp
  clear h hb0 hinc
  go_enter Try.func87, Try.ntmps87
  go_upto_region 1 with fail
  generalize w.alloc (.cells #[.int .i64 x.dev, .int .i64 x.seq, .int .i64 x.stamp, .int .i64 x.kind, .string x.item, .int .i64 x.qty, .int .i64 x.level, .int .i64 x.undos] 66) = w0 at HO HB HX hsz ⊢
  go_wp2
  go_loopw [9, 10] (fun s t wr => ∃ lo hi : Nat, lo ≤ hi ∧ hi ≤ n ∧ s = .int .i64 (lo : Int) ∧ t = .int .i64 (hi : Int) ∧ Hid ((∀ j, j < lo → cmpAt l x j < 0) ∧ ∀ j, hi ≤ j → j < n → 0 ≤ cmpAt l x j) ∧ Hid (Below w0.heap.size w0 wr)) (fun s t _ => (intOf t - intOf s).toNat)
  case atStart => exact ⟨0, n, by omega, by omega, rfl, rfl, ⟨fun j hj => absurd hj (by omega), fun j h1 h2 => absurd h1 (by omega)⟩, Below.refl _ _⟩
  case round =>
    obtain ⟨lo, hi, hlh, hhn, rfl, rfl, HR, HBr⟩ := hrel
    obtain ⟨e0, e1, e2, e3, e4, e5, e6, e7⟩ := op_cells9 ((HBr.out.block _ (by omega)).trans HX.out)
    by_cases hlt : lo < hi
    · have hli : (lo : Int) < (hi : Int) := by omega
      obtain ⟨m, hm⟩ : ∃ m, m = (lo + hi) / 2 := ⟨_, rfl⟩
      have hmi : ((lo : Int) + (hi : Int)) / 2 = (m : Int) := by omega
      have hmn : m < n := by omega
      have hml : lo ≤ m ∧ m < hi := by omega
      obtain ⟨hml1, hml2⟩ := hml
      clear hm
      go_upto_region 5 with fail
      have hmn' : (m : Int) < (n : Int) := by omega
      obtain ⟨b, off, rfl, hb, ho⟩ := HO.out.2 m hmn
      have HOk : Hid (OpAt w0 b (off + m * 8) (atOp l m)) := ho
      clear ho
      have HC : Hid (cmpAt l x m = numI (atOp l m).dev (atOp l m).seq x.dev x.seq) := rfl
      generalize atOp l m = y at HOk HC
      obtain ⟨d0, d1, d2, d3, d4, d5, d6, d7⟩ := HOk.out.kept (HBr.out.block b (by omega))
      have hS : wr.drew.cell? ⟨b, off + m * 8, none⟩ = some (.int .i64 y.dev) ∧ wr.drew.cell? ⟨b, off + m * 8 + 1, none⟩ = some (.int .i64 y.seq) ∧ wr.drew.cell? ⟨b, off + m * 8 + 2, none⟩ = some (.int .i64 y.stamp) ∧ wr.drew.cell? ⟨b, off + m * 8 + 3, none⟩ = some (.int .i64 y.kind) ∧ wr.drew.cell? ⟨b, off + m * 8 + 4, none⟩ = some (.string y.item) ∧ wr.drew.cell? ⟨b, off + m * 8 + 5, none⟩ = some (.int .i64 y.qty) ∧ wr.drew.cell? ⟨b, off + m * 8 + 6, none⟩ = some (.int .i64 y.level) ∧ wr.drew.cell? ⟨b, off + m * 8 + 7, none⟩ = some (.int .i64 y.undos) ∧ wr.drew.cell? ⟨w.heap.size, 0, none⟩ = some (.int .i64 x.dev) ∧ wr.drew.cell? ⟨w.heap.size, 1, none⟩ = some (.int .i64 x.seq) ∧ wr.drew.cell? ⟨w.heap.size, 2, none⟩ = some (.int .i64 x.stamp) ∧ wr.drew.cell? ⟨w.heap.size, 3, none⟩ = some (.int .i64 x.kind) ∧ wr.drew.cell? ⟨w.heap.size, 4, none⟩ = some (.string x.item) ∧ wr.drew.cell? ⟨w.heap.size, 5, none⟩ = some (.int .i64 x.qty) ∧ wr.drew.cell? ⟨w.heap.size, 6, none⟩ = some (.int .i64 x.level) ∧ wr.drew.cell? ⟨w.heap.size, 7, none⟩ = some (.int .i64 x.undos) := ⟨d0, d1, d2, d3, d4, d5, d6, d7, e0, e1, e2, e3, e4, e5, e6, e7⟩
      go_wp2_with fail
      go_region_held3 (fun w' => w'.cell? ⟨b, off + m * 8, none⟩ = some (.int .i64 y.dev) ∧ w'.cell? ⟨b, off + m * 8 + 1, none⟩ = some (.int .i64 y.seq) ∧ w'.cell? ⟨b, off + m * 8 + 2, none⟩ = some (.int .i64 y.stamp) ∧ w'.cell? ⟨b, off + m * 8 + 3, none⟩ = some (.int .i64 y.kind) ∧ w'.cell? ⟨b, off + m * 8 + 4, none⟩ = some (.string y.item) ∧ w'.cell? ⟨b, off + m * 8 + 5, none⟩ = some (.int .i64 y.qty) ∧ w'.cell? ⟨b, off + m * 8 + 6, none⟩ = some (.int .i64 y.level) ∧ w'.cell? ⟨b, off + m * 8 + 7, none⟩ = some (.int .i64 y.undos) ∧ w'.cell? ⟨w.heap.size, 0, none⟩ = some (.int .i64 x.dev) ∧ w'.cell? ⟨w.heap.size, 1, none⟩ = some (.int .i64 x.seq) ∧ w'.cell? ⟨w.heap.size, 2, none⟩ = some (.int .i64 x.stamp) ∧ w'.cell? ⟨w.heap.size, 3, none⟩ = some (.int .i64 x.kind) ∧ w'.cell? ⟨w.heap.size, 4, none⟩ = some (.string x.item) ∧ w'.cell? ⟨w.heap.size, 5, none⟩ = some (.int .i64 x.qty) ∧ w'.cell? ⟨w.heap.size, 6, none⟩ = some (.int .i64 x.level) ∧ w'.cell? ⟨w.heap.size, 7, none⟩ = some (.int .i64 x.undos)) (first | with_reducible exact hS | with_reducible exact hS2)
        (first | (go_at_call 86; refine (byNumber y.dev y.seq y.stamp y.kind y.item y.qty y.level y.undos x.dev x.seq x.stamp x.kind x.item x.qty x.level x.undos _).mono ?_; rintro e w2 ⟨rfl, hb2⟩; have ⟨q0, q1, q2, q3, q4, q5, q6, q7, q8, q9, q10, q11, q12, q13, q14, q15⟩ := hS; have hS2 : w2.cell? ⟨b, off + m * 8, none⟩ = some (.int .i64 y.dev) ∧ w2.cell? ⟨b, off + m * 8 + 1, none⟩ = some (.int .i64 y.seq) ∧ w2.cell? ⟨b, off + m * 8 + 2, none⟩ = some (.int .i64 y.stamp) ∧ w2.cell? ⟨b, off + m * 8 + 3, none⟩ = some (.int .i64 y.kind) ∧ w2.cell? ⟨b, off + m * 8 + 4, none⟩ = some (.string y.item) ∧ w2.cell? ⟨b, off + m * 8 + 5, none⟩ = some (.int .i64 y.qty) ∧ w2.cell? ⟨b, off + m * 8 + 6, none⟩ = some (.int .i64 y.level) ∧ w2.cell? ⟨b, off + m * 8 + 7, none⟩ = some (.int .i64 y.undos) ∧ w2.cell? ⟨w.heap.size, 0, none⟩ = some (.int .i64 x.dev) ∧ w2.cell? ⟨w.heap.size, 1, none⟩ = some (.int .i64 x.seq) ∧ w2.cell? ⟨w.heap.size, 2, none⟩ = some (.int .i64 x.stamp) ∧ w2.cell? ⟨w.heap.size, 3, none⟩ = some (.int .i64 x.kind) ∧ w2.cell? ⟨w.heap.size, 4, none⟩ = some (.string x.item) ∧ w2.cell? ⟨w.heap.size, 5, none⟩ = some (.int .i64 x.qty) ∧ w2.cell? ⟨w.heap.size, 6, none⟩ = some (.int .i64 x.level) ∧ w2.cell? ⟨w.heap.size, 7, none⟩ = some (.int .i64 x.undos) := ⟨(hb2.cell (block_lt_of_cell q0)).trans q0, (hb2.cell (block_lt_of_cell q1)).trans q1, (hb2.cell (block_lt_of_cell q2)).trans q2, (hb2.cell (block_lt_of_cell q3)).trans q3, (hb2.cell (block_lt_of_cell q4)).trans q4, (hb2.cell (block_lt_of_cell q5)).trans q5, (hb2.cell (block_lt_of_cell q6)).trans q6, (hb2.cell (block_lt_of_cell q7)).trans q7, (hb2.cell (block_lt_of_cell q8)).trans q8, (hb2.cell (block_lt_of_cell q9)).trans q9, (hb2.cell (block_lt_of_cell q10)).trans q10, (hb2.cell (block_lt_of_cell q11)).trans q11, (hb2.cell (block_lt_of_cell q12)).trans q12, (hb2.cell (block_lt_of_cell q13)).trans q13, (hb2.cell (block_lt_of_cell q14)).trans q14, (hb2.cell (block_lt_of_cell q15)).trans q15⟩; clear q0 q1 q2 q3 q4 q5 q6 q7 q8 q9 q10 q11 q12 q13 q14 q15))
      have HB2 := Lib.hid (HBr.out.trans ((Below.mk hb2.os hb2.tape hb2.output hb2.size hb2.block : Below wr.heap.size wr w2).mono HBr.out.size))
      clear hS hS2 hb2 d0 d1 d2 d3 d4 d5 d6 d7 e0 e1 e2 e3 e4 e5 e6 e7
      have HDn := Lib.hid (fun hc => cmp_down (x := x) HInc.out (m := m) (by rw [HL.out]; exact hmn) hc)
      have HUp := Lib.hid (fun hc => cmp_up (x := x) HInc.out (m := m) hc)
      rw [← HC.out]
      generalize cmpAt l x m = cm at HDn HUp ⊢
      by_cases hc : cm < 0
      · have HRn : Hid ((∀ j, j < m + 1 → cmpAt l x j < 0) ∧ ∀ j, hi ≤ j → j < n → 0 ≤ cmpAt l x j) := ⟨HDn.out hc, HR.out.2⟩
        go_wp2
        go_roundw
        case rel => exact ⟨m + 1, hi, by omega, by omega, by go_num, rfl, HRn, HB2⟩
        case measure => simp [intOf]; omega
      · have HRn : Hid ((∀ j, j < lo → cmpAt l x j < 0) ∧ ∀ j, m ≤ j → j < n → 0 ≤ cmpAt l x j) := ⟨HR.out.1, fun j h1 h2 => HUp.out (by omega) j h1 (by rw [HL.out]; exact h2)⟩
        go_wp2
        go_roundw
        case rel => exact ⟨lo, m, by omega, by omega, rfl, by go_num, HRn, HB2⟩
        case measure => simp [intOf]; omega
    obtain rfl : lo = hi := by omega
    have hll : ¬ (lo : Int) < (lo : Int) := by omega
    clear hlt
    by_cases hend : lo < n
    · have hei : (lo : Int) < (n : Int) := by omega
      have HFo := Lib.hid (found_mid (x := x) HInc.out (k := lo) (by rw [HL.out]; exact hend) HR.out.1 (HR.out.2 lo (Nat.le_refl _) hend))
      obtain ⟨b, off, rfl, hb, ho⟩ := HO.out.2 lo hend
      have HOk : Hid (OpAt w0 b (off + lo * 8) (atOp l lo)) := ho
      clear ho
      have HC : Hid (cmpAt l x lo = numI (atOp l lo).dev (atOp l lo).seq x.dev x.seq) := rfl
      generalize atOp l lo = y at HOk HC
      obtain ⟨d0, d1, d2, d3, d4, d5, d6, d7⟩ := HOk.out.kept (HBr.out.block b (by omega))
      have hS : wr.drew.cell? ⟨b, off + lo * 8, none⟩ = some (.int .i64 y.dev) ∧ wr.drew.cell? ⟨b, off + lo * 8 + 1, none⟩ = some (.int .i64 y.seq) ∧ wr.drew.cell? ⟨b, off + lo * 8 + 2, none⟩ = some (.int .i64 y.stamp) ∧ wr.drew.cell? ⟨b, off + lo * 8 + 3, none⟩ = some (.int .i64 y.kind) ∧ wr.drew.cell? ⟨b, off + lo * 8 + 4, none⟩ = some (.string y.item) ∧ wr.drew.cell? ⟨b, off + lo * 8 + 5, none⟩ = some (.int .i64 y.qty) ∧ wr.drew.cell? ⟨b, off + lo * 8 + 6, none⟩ = some (.int .i64 y.level) ∧ wr.drew.cell? ⟨b, off + lo * 8 + 7, none⟩ = some (.int .i64 y.undos) ∧ wr.drew.cell? ⟨w.heap.size, 0, none⟩ = some (.int .i64 x.dev) ∧ wr.drew.cell? ⟨w.heap.size, 1, none⟩ = some (.int .i64 x.seq) ∧ wr.drew.cell? ⟨w.heap.size, 2, none⟩ = some (.int .i64 x.stamp) ∧ wr.drew.cell? ⟨w.heap.size, 3, none⟩ = some (.int .i64 x.kind) ∧ wr.drew.cell? ⟨w.heap.size, 4, none⟩ = some (.string x.item) ∧ wr.drew.cell? ⟨w.heap.size, 5, none⟩ = some (.int .i64 x.qty) ∧ wr.drew.cell? ⟨w.heap.size, 6, none⟩ = some (.int .i64 x.level) ∧ wr.drew.cell? ⟨w.heap.size, 7, none⟩ = some (.int .i64 x.undos) := ⟨d0, d1, d2, d3, d4, d5, d6, d7, e0, e1, e2, e3, e4, e5, e6, e7⟩
      go_wp2_with fail
      refine wp_region_held_drew (S := fun w' => w'.cell? ⟨b, off + lo * 8, none⟩ = some (.int .i64 y.dev) ∧ w'.cell? ⟨b, off + lo * 8 + 1, none⟩ = some (.int .i64 y.seq) ∧ w'.cell? ⟨b, off + lo * 8 + 2, none⟩ = some (.int .i64 y.stamp) ∧ w'.cell? ⟨b, off + lo * 8 + 3, none⟩ = some (.int .i64 y.kind) ∧ w'.cell? ⟨b, off + lo * 8 + 4, none⟩ = some (.string y.item) ∧ w'.cell? ⟨b, off + lo * 8 + 5, none⟩ = some (.int .i64 y.qty) ∧ w'.cell? ⟨b, off + lo * 8 + 6, none⟩ = some (.int .i64 y.level) ∧ w'.cell? ⟨b, off + lo * 8 + 7, none⟩ = some (.int .i64 y.undos) ∧ w'.cell? ⟨w.heap.size, 0, none⟩ = some (.int .i64 x.dev) ∧ w'.cell? ⟨w.heap.size, 1, none⟩ = some (.int .i64 x.seq) ∧ w'.cell? ⟨w.heap.size, 2, none⟩ = some (.int .i64 x.stamp) ∧ w'.cell? ⟨w.heap.size, 3, none⟩ = some (.int .i64 x.kind) ∧ w'.cell? ⟨w.heap.size, 4, none⟩ = some (.string x.item) ∧ w'.cell? ⟨w.heap.size, 5, none⟩ = some (.int .i64 x.qty) ∧ w'.cell? ⟨w.heap.size, 6, none⟩ = some (.int .i64 x.level) ∧ w'.cell? ⟨w.heap.size, 7, none⟩ = some (.int .i64 x.undos)) (by kernel_rfl) hS (fun hHeld => ?_)
      refine wpAnyH_take (i := 0) (oi := { dst := some 35, op := Op.move (Operand.tmp 9), type := 3, pos := "sort.go:167", after := #[], guard := none }) (v := ?_) rfl (by kernel_rfl) (by kernel_rfl) (by kernel_rfl) (fun _ _ _ h => h) (Or.inl ⟨by rfl, ?_⟩) (by assumption) ?_
      rotate_left
      · intro w hSw
        (try dsimp only at hSw)
        first | (go_simp; done) | (go_simp; with_reducible rfl)
      (try simp only [Act.put, List.setIfInBounds_toArray, List.set_cons_zero, List.set_cons_succ])
      refine wpAnyH_take (i := 1) (oi := { dst := some 36, op := Op.move (Operand.tmp 9), type := 3, pos := "sort.go:167", after := #[], guard := none }) (v := ?_) rfl (by kernel_rfl) (by kernel_rfl) (by kernel_rfl) (fun _ _ _ h => h) (Or.inl ⟨by rfl, ?_⟩) (by assumption) ?_
      rotate_left
      · intro w hSw
        (try dsimp only at hSw)
        first | (go_simp; done) | (go_simp; with_reducible rfl)
      (try simp only [Act.put, List.setIfInBounds_toArray, List.set_cons_zero, List.set_cons_succ])
      refine wpAnyH_take (i := 2) (oi := { dst := some 37, op := Op.move (Operand.tmp 8), type := 3, pos := "sort.go:167", after := #[], guard := none }) (v := ?_) rfl (by kernel_rfl) (by kernel_rfl) (by kernel_rfl) (fun _ _ _ h => h) (Or.inl ⟨by rfl, ?_⟩) (by assumption) ?_
      rotate_left
      · intro w hSw
        (try dsimp only at hSw)
        first | (go_simp; done) | (go_simp; with_reducible rfl)
      (try simp only [Act.put, List.setIfInBounds_toArray, List.set_cons_zero, List.set_cons_succ])
      refine wpAnyH_take (i := 3) (oi := { dst := some 38, op := Op.binOp BinOp.lss 3 (Operand.tmp 36) (Operand.tmp 37) 3, type := 4, pos := "sort.go:167", after := #[{ on := 1, ground := Ground.data }, { on := 2, ground := Ground.data }], guard := none }) (v := ?_) rfl (by kernel_rfl) (by kernel_rfl) (by kernel_rfl) (fun _ _ _ h => h) (Or.inl ⟨by rfl, ?_⟩) (by assumption) ?_
      rotate_left
      · intro w hSw
        (try dsimp only at hSw)
        first | (go_simp; done) | (go_simp; with_reducible rfl)
      (try simp only [Act.put, List.setIfInBounds_toArray, List.set_cons_zero, List.set_cons_succ])
      refine wpAnyH_take (i := 4) (oi := { dst := some 39, op := Op.move (Operand.tmp 38), type := 4, pos := "sort.go:167", after := #[{ on := 3, ground := Ground.data }], guard := none }) (v := ?_) rfl (by kernel_rfl) (by kernel_rfl) (by kernel_rfl) (fun _ _ _ h => h) (Or.inl ⟨by rfl, ?_⟩) (by assumption) ?_
      rotate_left
      · intro w hSw
        (try dsimp only at hSw)
        first | (go_simp; done) | (go_simp; with_reducible rfl)
      (try simp only [Act.put, List.setIfInBounds_toArray, List.set_cons_zero, List.set_cons_succ])
      refine wpAnyH_take (i := 5) (oi := { dst := some 40, op := Op.move (Operand.tmp 2), type := 76, pos := "sort.go:167", after := #[{ on := 4, ground := Ground.guard }], guard := some (4, true) }) (v := ?_) rfl (by kernel_rfl) (by kernel_rfl) (by kernel_rfl) (fun _ _ _ h => h) (Or.inl ⟨by rfl, ?_⟩) (by assumption) ?_
      rotate_left
      · intro w hSw
        (try dsimp only at hSw)
        first | (go_simp; done) | (go_simp; with_reducible rfl)
      (try simp only [Act.put, List.setIfInBounds_toArray, List.set_cons_zero, List.set_cons_succ])
      refine wpAnyH_take (i := 6) (oi := { dst := some 41, op := Op.move (Operand.tmp 0), type := 37, pos := "sort.go:167", after := #[{ on := 4, ground := Ground.guard }], guard := some (4, true) }) (v := ?_) rfl (by kernel_rfl) (by kernel_rfl) (by kernel_rfl) (fun _ _ _ h => h) (Or.inl ⟨by rfl, ?_⟩) (by assumption) ?_
      rotate_left
      · intro w hSw
        (try dsimp only at hSw)
        first | (go_simp; done) | (go_simp; with_reducible rfl)
      (try simp only [Act.put, List.setIfInBounds_toArray, List.set_cons_zero, List.set_cons_succ])
      refine wpAnyH_take (i := 7) (oi := { dst := some 42, op := Op.move (Operand.tmp 9), type := 3, pos := "sort.go:167", after := #[{ on := 4, ground := Ground.guard }], guard := some (4, true) }) (v := ?_) rfl (by kernel_rfl) (by kernel_rfl) (by kernel_rfl) (fun _ _ _ h => h) (Or.inl ⟨by rfl, ?_⟩) (by assumption) ?_
      rotate_left
      · intro w hSw
        (try dsimp only at hSw)
        first | (go_simp; done) | (go_simp; with_reducible rfl)
      (try simp only [Act.put, List.setIfInBounds_toArray, List.set_cons_zero, List.set_cons_succ])
      refine wpAnyH_take (i := 8) (oi := { dst := some 43, op := Op.indexAddr 37 (Operand.tmp 41) (Operand.tmp 42), type := 0, pos := "sort.go:167", after := #[{ on := 6, ground := Ground.data }, { on := 7, ground := Ground.data }, { on := 4, ground := Ground.guard }], guard := some (4, true) }) (v := ?_) rfl (by kernel_rfl) (by kernel_rfl) (by kernel_rfl) (fun _ _ _ h => h) (Or.inl ⟨by rfl, ?_⟩) (by assumption) ?_
      rotate_left
      · intro w hSw
        (try dsimp only at hSw)
        first | (go_simp; done) | (go_simp; with_reducible rfl)
      (try simp only [Act.put, List.setIfInBounds_toArray, List.set_cons_zero, List.set_cons_succ])
      refine wpAnyH_take (i := 9) (oi := { dst := some 44, op := Op.load 66 (Operand.tmp 43), type := 66, pos := "sort.go:167", after := #[{ on := 8, ground := Ground.data }, { on := 4, ground := Ground.guard }], guard := some (4, true) }) (v := ?_) rfl (by kernel_rfl) (by kernel_rfl) (by kernel_rfl) (fun _ _ _ h => h) (Or.inl ⟨by rfl, ?_⟩) (by assumption) ?_
      rotate_left
      · intro w hSw
        (try dsimp only at hSw)
        first | (go_simp; done) | (go_simp; with_reducible rfl)
      (try simp only [Act.put, List.setIfInBounds_toArray, List.set_cons_zero, List.set_cons_succ])
      refine wpAnyH_take (i := 10) (oi := { dst := some 45, op := Op.load 66 (Operand.tmp 4), type := 66, pos := "sort.go:167", after := #[{ on := 4, ground := Ground.guard }], guard := some (4, true) }) (v := ?_) rfl (by kernel_rfl) (by kernel_rfl) (by kernel_rfl) (fun _ _ _ h => h) (Or.inl ⟨by rfl, ?_⟩) (by assumption) ?_
      rotate_left
      · intro w hSw
        (try dsimp only at hSw)
        first | (go_simp; done) | (go_simp; with_reducible rfl)
      (try simp only [Act.put, List.setIfInBounds_toArray, List.set_cons_zero, List.set_cons_succ])
      refine wpAnyH_ready (rs := [11]) (by kernel_rfl) (by simp) ?_
      refine AllReadyH.cons (o := { dst := some 46, op := Op.call { callee := Callee.value (Operand.tmp 40), args := #[Operand.tmp 44, Operand.tmp 45], argTypes := #[66, 66] }, type := 3, pos := "sort.go:167", after := #[{ on := 5, ground := Ground.data }, { on := 9, ground := Ground.data }, { on := 10, ground := Ground.data }, { on := 4, ground := Ground.chain }, { on := 4, ground := Ground.guard }], guard := some (4, true) }) rfl (fun K hK => ?_) AllReadyH.nil
      go_simp
      go_at_call 86
      refine (byNumber y.dev y.seq y.stamp y.kind y.item y.qty y.level y.undos x.dev x.seq x.stamp x.kind x.item x.qty x.level x.undos _).mono ?_
      rintro e w2 ⟨rfl, hb2⟩
      rw [← HC.out]
      have hS2 : w2.cell? ⟨b, off + lo * 8, none⟩ = some (.int .i64 y.dev) ∧ w2.cell? ⟨b, off + lo * 8 + 1, none⟩ = some (.int .i64 y.seq) ∧ w2.cell? ⟨b, off + lo * 8 + 2, none⟩ = some (.int .i64 y.stamp) ∧ w2.cell? ⟨b, off + lo * 8 + 3, none⟩ = some (.int .i64 y.kind) ∧ w2.cell? ⟨b, off + lo * 8 + 4, none⟩ = some (.string y.item) ∧ w2.cell? ⟨b, off + lo * 8 + 5, none⟩ = some (.int .i64 y.qty) ∧ w2.cell? ⟨b, off + lo * 8 + 6, none⟩ = some (.int .i64 y.level) ∧ w2.cell? ⟨b, off + lo * 8 + 7, none⟩ = some (.int .i64 y.undos) ∧ w2.cell? ⟨w.heap.size, 0, none⟩ = some (.int .i64 x.dev) ∧ w2.cell? ⟨w.heap.size, 1, none⟩ = some (.int .i64 x.seq) ∧ w2.cell? ⟨w.heap.size, 2, none⟩ = some (.int .i64 x.stamp) ∧ w2.cell? ⟨w.heap.size, 3, none⟩ = some (.int .i64 x.kind) ∧ w2.cell? ⟨w.heap.size, 4, none⟩ = some (.string x.item) ∧ w2.cell? ⟨w.heap.size, 5, none⟩ = some (.int .i64 x.qty) ∧ w2.cell? ⟨w.heap.size, 6, none⟩ = some (.int .i64 x.level) ∧ w2.cell? ⟨w.heap.size, 7, none⟩ = some (.int .i64 x.undos) := by
          obtain ⟨q0, q1, q2, q3, q4, q5, q6, q7, q8, q9, q10, q11, q12, q13, q14, q15⟩ := hS
          exact ⟨(hb2.cell (block_lt_of_cell q0)).trans q0, (hb2.cell (block_lt_of_cell q1)).trans q1, (hb2.cell (block_lt_of_cell q2)).trans q2, (hb2.cell (block_lt_of_cell q3)).trans q3, (hb2.cell (block_lt_of_cell q4)).trans q4, (hb2.cell (block_lt_of_cell q5)).trans q5, (hb2.cell (block_lt_of_cell q6)).trans q6, (hb2.cell (block_lt_of_cell q7)).trans q7, (hb2.cell (block_lt_of_cell q8)).trans q8, (hb2.cell (block_lt_of_cell q9)).trans q9, (hb2.cell (block_lt_of_cell q10)).trans q10, (hb2.cell (block_lt_of_cell q11)).trans q11, (hb2.cell (block_lt_of_cell q12)).trans q12, (hb2.cell (block_lt_of_cell q13)).trans q13, (hb2.cell (block_lt_of_cell q14)).trans q14, (hb2.cell (block_lt_of_cell q15)).trans q15⟩
      refine hK.out _ _ hS2 (fun hHeld2 => ?_)
      clear hK K
      (try simp only [Act.put, List.setIfInBounds_toArray, List.set_cons_zero, List.set_cons_succ])
      have HB2 := Lib.hid (HBr.out.trans ((Below.mk hb2.os hb2.tape hb2.output hb2.size hb2.block : Below wr.heap.size wr w2).mono HBr.out.size))
      generalize cmpAt l x lo = cm at HFo HC ⊢
      have hcz : (cm == 0) = decide (cm = 0) := by by_cases h : cm = 0 <;> simp [h]
      refine wpAnyH_take (i := 12) (oi := { dst := some 47, op := Op.binOp BinOp.eql 3 (Operand.tmp 46) (Operand.const (Value.int IntKind.i64 0)) 3, type := 4, pos := "sort.go:167", after := #[{ on := 11, ground := Ground.data }, { on := 4, ground := Ground.guard }, { on := 14, ground := Ground.gcOnly Departure.lateStores }], guard := some (4, true) }) (v := ?_) rfl (by kernel_rfl) (by kernel_rfl) (by kernel_rfl) (fun _ _ _ h => h) (Or.inl ⟨by rfl, ?_⟩) (by assumption) ?_
      rotate_left
      · intro w hSw
        (try dsimp only at hSw)
        first | (go_simp; done) | (go_simp; with_reducible rfl)
      (try simp only [Act.put, List.setIfInBounds_toArray, List.set_cons_zero, List.set_cons_succ])
      refine wpAnyH_take (i := 13) (oi := { dst := some 48, op := Op.pick (Operand.tmp 39) (Operand.tmp 47) (Operand.const (Value.bool false)), type := 4, pos := "sort.go:167", after := #[{ on := 4, ground := Ground.data }, { on := 12, ground := Ground.data }, { on := 14, ground := Ground.gcOnly Departure.lateStores }], guard := none }) (v := ?_) rfl (by kernel_rfl) (by kernel_rfl) (by kernel_rfl) (fun _ _ _ h => h) (Or.inl ⟨by rfl, ?_⟩) (by assumption) ?_
      rotate_left
      · intro w hSw
        (try dsimp only at hSw)
        first | (go_simp; done) | (go_simp; with_reducible rfl)
      (try simp only [Act.put, List.setIfInBounds_toArray, List.set_cons_zero, List.set_cons_succ])
      refine wpAnyH_take (i := 14) (oi := { dst := some 6, op := Op.assign (Operand.tmp 35), type := 3, pos := "sort.go:167", after := #[{ on := 0, ground := Ground.data }, { on := 11, ground := Ground.chain }, { on := 0, ground := Ground.phase }, { on := 1, ground := Ground.textOnly Departure.lateStores }, { on := 2, ground := Ground.textOnly Departure.lateStores }, { on := 3, ground := Ground.textOnly Departure.lateStores }, { on := 4, ground := Ground.textOnly Departure.lateStores }, { on := 5, ground := Ground.textOnly Departure.lateStores }, { on := 6, ground := Ground.textOnly Departure.lateStores }, { on := 7, ground := Ground.textOnly Departure.lateStores }, { on := 8, ground := Ground.textOnly Departure.lateStores }, { on := 9, ground := Ground.textOnly Departure.lateStores }, { on := 10, ground := Ground.textOnly Departure.lateStores }, { on := 11, ground := Ground.textOnly Departure.lateStoresUnsure }, { on := 12, ground := Ground.textOnly Departure.lateStores }, { on := 13, ground := Ground.textOnly Departure.lateStores }], guard := none }) (v := ?_) rfl (by kernel_rfl) (by kernel_rfl) (by kernel_rfl) (fun _ _ _ h => h) (Or.inl ⟨by rfl, ?_⟩) (by assumption) ?_
      rotate_left
      · intro w hSw
        (try dsimp only at hSw)
        first | (go_simp; done) | (go_simp; with_reducible rfl)
      (try simp only [Act.put, List.setIfInBounds_toArray, List.set_cons_zero, List.set_cons_succ])
      refine wpAnyH_take (i := 15) (oi := { dst := some 7, op := Op.assign (Operand.tmp 48), type := 4, pos := "sort.go:167", after := #[{ on := 13, ground := Ground.data }, { on := 14, ground := Ground.chain }, { on := 0, ground := Ground.phase }, { on := 1, ground := Ground.phase }, { on := 2, ground := Ground.phase }, { on := 3, ground := Ground.phase }, { on := 4, ground := Ground.phase }, { on := 5, ground := Ground.phase }, { on := 6, ground := Ground.phase }, { on := 7, ground := Ground.phase }, { on := 8, ground := Ground.phase }, { on := 9, ground := Ground.phase }, { on := 10, ground := Ground.phase }, { on := 11, ground := Ground.phase }, { on := 12, ground := Ground.phase }, { on := 13, ground := Ground.phase }, { on := 14, ground := Ground.phase }], guard := none }) (v := ?_) rfl (by kernel_rfl) (by kernel_rfl) (by kernel_rfl) (fun _ _ _ h => h) (Or.inl ⟨by rfl, ?_⟩) (by assumption) ?_
      rotate_left
      · intro w hSw
        (try dsimp only at hSw)
        first | (go_simp; done) | (go_simp; with_reducible rfl)
      (try simp only [Act.put, List.setIfInBounds_toArray, List.set_cons_zero, List.set_cons_succ])
      refine wpAnyH_done (by kernel_rfl) ?_ _
      clear hS hS2 hb2 hHeld hHeld2 d0 d1 d2 d3 d4 d5 d6 d7 e0 e1 e2 e3 e4 e5 e6 e7 hcz
      go_wp2
      go_ret2
      exact ⟨⟨lo, _, rfl, HFo.out⟩, HB.out.trans (HB2.out.mono HB.out.size)⟩
    · obtain rfl : lo = n := by omega
      have hei : decide ((lo : Int) < (lo : Int)) = false := decide_eq_false (by omega)
      have HFo : Hid (Found l x lo false) := by have := found_end (x := x) HInc.out (fun j hj => HR.out.1 j (by rw [← HL.out]; exact hj)); rw [HL.out] at this; exact this
      have hS : wr.drew.cell? ⟨w.heap.size, 0, none⟩ = some (.int .i64 x.dev) ∧ wr.drew.cell? ⟨w.heap.size, 1, none⟩ = some (.int .i64 x.seq) ∧ wr.drew.cell? ⟨w.heap.size, 2, none⟩ = some (.int .i64 x.stamp) ∧ wr.drew.cell? ⟨w.heap.size, 3, none⟩ = some (.int .i64 x.kind) ∧ wr.drew.cell? ⟨w.heap.size, 4, none⟩ = some (.string x.item) ∧ wr.drew.cell? ⟨w.heap.size, 5, none⟩ = some (.int .i64 x.qty) ∧ wr.drew.cell? ⟨w.heap.size, 6, none⟩ = some (.int .i64 x.level) ∧ wr.drew.cell? ⟨w.heap.size, 7, none⟩ = some (.int .i64 x.undos) := ⟨e0, e1, e2, e3, e4, e5, e6, e7⟩
      go_wp2_with fail
      refine wp_region_held_drew (S := fun w' => w'.cell? ⟨w.heap.size, 0, none⟩ = some (.int .i64 x.dev) ∧ w'.cell? ⟨w.heap.size, 1, none⟩ = some (.int .i64 x.seq) ∧ w'.cell? ⟨w.heap.size, 2, none⟩ = some (.int .i64 x.stamp) ∧ w'.cell? ⟨w.heap.size, 3, none⟩ = some (.int .i64 x.kind) ∧ w'.cell? ⟨w.heap.size, 4, none⟩ = some (.string x.item) ∧ w'.cell? ⟨w.heap.size, 5, none⟩ = some (.int .i64 x.qty) ∧ w'.cell? ⟨w.heap.size, 6, none⟩ = some (.int .i64 x.level) ∧ w'.cell? ⟨w.heap.size, 7, none⟩ = some (.int .i64 x.undos)) (by kernel_rfl) hS (fun hHeld => ?_)
      refine wpAnyH_take (i := 0) (oi := { dst := some 35, op := Op.move (Operand.tmp 9), type := 3, pos := "sort.go:167", after := #[], guard := none }) (v := ?_) rfl (by kernel_rfl) (by kernel_rfl) (by kernel_rfl) (fun _ _ _ h => h) (Or.inl ⟨by rfl, ?_⟩) (by assumption) ?_
      rotate_left
      · intro w hSw
        (try dsimp only at hSw)
        first | (go_simp; done) | (go_simp; with_reducible rfl)
      (try simp only [Act.put, List.setIfInBounds_toArray, List.set_cons_zero, List.set_cons_succ])
      refine wpAnyH_take (i := 1) (oi := { dst := some 36, op := Op.move (Operand.tmp 9), type := 3, pos := "sort.go:167", after := #[], guard := none }) (v := ?_) rfl (by kernel_rfl) (by kernel_rfl) (by kernel_rfl) (fun _ _ _ h => h) (Or.inl ⟨by rfl, ?_⟩) (by assumption) ?_
      rotate_left
      · intro w hSw
        (try dsimp only at hSw)
        first | (go_simp; done) | (go_simp; with_reducible rfl)
      (try simp only [Act.put, List.setIfInBounds_toArray, List.set_cons_zero, List.set_cons_succ])
      refine wpAnyH_take (i := 2) (oi := { dst := some 37, op := Op.move (Operand.tmp 8), type := 3, pos := "sort.go:167", after := #[], guard := none }) (v := ?_) rfl (by kernel_rfl) (by kernel_rfl) (by kernel_rfl) (fun _ _ _ h => h) (Or.inl ⟨by rfl, ?_⟩) (by assumption) ?_
      rotate_left
      · intro w hSw
        (try dsimp only at hSw)
        first | (go_simp; done) | (go_simp; with_reducible rfl)
      (try simp only [Act.put, List.setIfInBounds_toArray, List.set_cons_zero, List.set_cons_succ])
      refine wpAnyH_take (i := 3) (oi := { dst := some 38, op := Op.binOp BinOp.lss 3 (Operand.tmp 36) (Operand.tmp 37) 3, type := 4, pos := "sort.go:167", after := #[{ on := 1, ground := Ground.data }, { on := 2, ground := Ground.data }], guard := none }) (v := ?_) rfl (by kernel_rfl) (by kernel_rfl) (by kernel_rfl) (fun _ _ _ h => h) (Or.inl ⟨by rfl, ?_⟩) (by assumption) ?_
      rotate_left
      · intro w hSw
        (try dsimp only at hSw)
        first | (go_simp; done) | (go_simp; with_reducible rfl)
      (try simp only [Act.put, List.setIfInBounds_toArray, List.set_cons_zero, List.set_cons_succ])
      refine wpAnyH_take (i := 4) (oi := { dst := some 39, op := Op.move (Operand.tmp 38), type := 4, pos := "sort.go:167", after := #[{ on := 3, ground := Ground.data }], guard := none }) (v := ?_) rfl (by kernel_rfl) (by kernel_rfl) (by kernel_rfl) (fun _ _ _ h => h) (Or.inl ⟨by rfl, ?_⟩) (by assumption) ?_
      rotate_left
      · intro w hSw
        (try dsimp only at hSw)
        first | (go_simp; done) | (go_simp; with_reducible rfl)
      (try simp only [Act.put, List.setIfInBounds_toArray, List.set_cons_zero, List.set_cons_succ])
      refine wpAnyH_take (i := 5) (oi := { dst := some 40, op := Op.move (Operand.tmp 2), type := 76, pos := "sort.go:167", after := #[{ on := 4, ground := Ground.guard }], guard := some (4, true) }) (v := undef) rfl (by kernel_rfl) (by kernel_rfl) (by kernel_rfl) (fun _ _ _ h => h) (Or.inr ⟨by rfl, rfl⟩) (by assumption) ?_
      (try simp only [Act.put, List.setIfInBounds_toArray, List.set_cons_zero, List.set_cons_succ])
      refine wpAnyH_take (i := 6) (oi := { dst := some 41, op := Op.move (Operand.tmp 0), type := 37, pos := "sort.go:167", after := #[{ on := 4, ground := Ground.guard }], guard := some (4, true) }) (v := undef) rfl (by kernel_rfl) (by kernel_rfl) (by kernel_rfl) (fun _ _ _ h => h) (Or.inr ⟨by rfl, rfl⟩) (by assumption) ?_
      (try simp only [Act.put, List.setIfInBounds_toArray, List.set_cons_zero, List.set_cons_succ])
      refine wpAnyH_take (i := 7) (oi := { dst := some 42, op := Op.move (Operand.tmp 9), type := 3, pos := "sort.go:167", after := #[{ on := 4, ground := Ground.guard }], guard := some (4, true) }) (v := undef) rfl (by kernel_rfl) (by kernel_rfl) (by kernel_rfl) (fun _ _ _ h => h) (Or.inr ⟨by rfl, rfl⟩) (by assumption) ?_
      (try simp only [Act.put, List.setIfInBounds_toArray, List.set_cons_zero, List.set_cons_succ])
      refine wpAnyH_take (i := 8) (oi := { dst := some 43, op := Op.indexAddr 37 (Operand.tmp 41) (Operand.tmp 42), type := 0, pos := "sort.go:167", after := #[{ on := 6, ground := Ground.data }, { on := 7, ground := Ground.data }, { on := 4, ground := Ground.guard }], guard := some (4, true) }) (v := undef) rfl (by kernel_rfl) (by kernel_rfl) (by kernel_rfl) (fun _ _ _ h => h) (Or.inr ⟨by rfl, rfl⟩) (by assumption) ?_
      (try simp only [Act.put, List.setIfInBounds_toArray, List.set_cons_zero, List.set_cons_succ])
      refine wpAnyH_take (i := 9) (oi := { dst := some 44, op := Op.load 66 (Operand.tmp 43), type := 66, pos := "sort.go:167", after := #[{ on := 8, ground := Ground.data }, { on := 4, ground := Ground.guard }], guard := some (4, true) }) (v := undef) rfl (by kernel_rfl) (by kernel_rfl) (by kernel_rfl) (fun _ _ _ h => h) (Or.inr ⟨by rfl, rfl⟩) (by assumption) ?_
      (try simp only [Act.put, List.setIfInBounds_toArray, List.set_cons_zero, List.set_cons_succ])
      refine wpAnyH_take (i := 10) (oi := { dst := some 45, op := Op.load 66 (Operand.tmp 4), type := 66, pos := "sort.go:167", after := #[{ on := 4, ground := Ground.guard }], guard := some (4, true) }) (v := undef) rfl (by kernel_rfl) (by kernel_rfl) (by kernel_rfl) (fun _ _ _ h => h) (Or.inr ⟨by rfl, rfl⟩) (by assumption) ?_
      (try simp only [Act.put, List.setIfInBounds_toArray, List.set_cons_zero, List.set_cons_succ])
      refine wpAnyH_take (i := 11) (oi := { dst := some 46, op := Op.call { callee := Callee.value (Operand.tmp 40), args := #[Operand.tmp 44, Operand.tmp 45], argTypes := #[66, 66] }, type := 3, pos := "sort.go:167", after := #[{ on := 5, ground := Ground.data }, { on := 9, ground := Ground.data }, { on := 10, ground := Ground.data }, { on := 4, ground := Ground.chain }, { on := 4, ground := Ground.guard }], guard := some (4, true) }) (v := undef) rfl (by kernel_rfl) (by kernel_rfl) (by kernel_rfl) (fun _ _ _ h => h) (Or.inr ⟨by rfl, rfl⟩) (by assumption) ?_
      (try simp only [Act.put, List.setIfInBounds_toArray, List.set_cons_zero, List.set_cons_succ])
      refine wpAnyH_take (i := 12) (oi := { dst := some 47, op := Op.binOp BinOp.eql 3 (Operand.tmp 46) (Operand.const (Value.int IntKind.i64 0)) 3, type := 4, pos := "sort.go:167", after := #[{ on := 11, ground := Ground.data }, { on := 4, ground := Ground.guard }, { on := 14, ground := Ground.gcOnly Departure.lateStores }], guard := some (4, true) }) (v := undef) rfl (by kernel_rfl) (by kernel_rfl) (by kernel_rfl) (fun _ _ _ h => h) (Or.inr ⟨by rfl, rfl⟩) (by assumption) ?_
      (try simp only [Act.put, List.setIfInBounds_toArray, List.set_cons_zero, List.set_cons_succ])
      refine wpAnyH_take (i := 13) (oi := { dst := some 48, op := Op.pick (Operand.tmp 39) (Operand.tmp 47) (Operand.const (Value.bool false)), type := 4, pos := "sort.go:167", after := #[{ on := 4, ground := Ground.data }, { on := 12, ground := Ground.data }, { on := 14, ground := Ground.gcOnly Departure.lateStores }], guard := none }) (v := ?_) rfl (by kernel_rfl) (by kernel_rfl) (by kernel_rfl) (fun _ _ _ h => h) (Or.inl ⟨by rfl, ?_⟩) (by assumption) ?_
      rotate_left
      · intro w hSw
        (try dsimp only at hSw)
        first | (go_simp; done) | (go_simp; with_reducible rfl)
      (try simp only [Act.put, List.setIfInBounds_toArray, List.set_cons_zero, List.set_cons_succ])
      refine wpAnyH_take (i := 14) (oi := { dst := some 6, op := Op.assign (Operand.tmp 35), type := 3, pos := "sort.go:167", after := #[{ on := 0, ground := Ground.data }, { on := 11, ground := Ground.chain }, { on := 0, ground := Ground.phase }, { on := 1, ground := Ground.textOnly Departure.lateStores }, { on := 2, ground := Ground.textOnly Departure.lateStores }, { on := 3, ground := Ground.textOnly Departure.lateStores }, { on := 4, ground := Ground.textOnly Departure.lateStores }, { on := 5, ground := Ground.textOnly Departure.lateStores }, { on := 6, ground := Ground.textOnly Departure.lateStores }, { on := 7, ground := Ground.textOnly Departure.lateStores }, { on := 8, ground := Ground.textOnly Departure.lateStores }, { on := 9, ground := Ground.textOnly Departure.lateStores }, { on := 10, ground := Ground.textOnly Departure.lateStores }, { on := 11, ground := Ground.textOnly Departure.lateStoresUnsure }, { on := 12, ground := Ground.textOnly Departure.lateStores }, { on := 13, ground := Ground.textOnly Departure.lateStores }], guard := none }) (v := ?_) rfl (by kernel_rfl) (by kernel_rfl) (by kernel_rfl) (fun _ _ _ h => h) (Or.inl ⟨by rfl, ?_⟩) (by assumption) ?_
      rotate_left
      · intro w hSw
        (try dsimp only at hSw)
        first | (go_simp; done) | (go_simp; with_reducible rfl)
      (try simp only [Act.put, List.setIfInBounds_toArray, List.set_cons_zero, List.set_cons_succ])
      refine wpAnyH_take (i := 15) (oi := { dst := some 7, op := Op.assign (Operand.tmp 48), type := 4, pos := "sort.go:167", after := #[{ on := 13, ground := Ground.data }, { on := 14, ground := Ground.chain }, { on := 0, ground := Ground.phase }, { on := 1, ground := Ground.phase }, { on := 2, ground := Ground.phase }, { on := 3, ground := Ground.phase }, { on := 4, ground := Ground.phase }, { on := 5, ground := Ground.phase }, { on := 6, ground := Ground.phase }, { on := 7, ground := Ground.phase }, { on := 8, ground := Ground.phase }, { on := 9, ground := Ground.phase }, { on := 10, ground := Ground.phase }, { on := 11, ground := Ground.phase }, { on := 12, ground := Ground.phase }, { on := 13, ground := Ground.phase }, { on := 14, ground := Ground.phase }], guard := none }) (v := ?_) rfl (by kernel_rfl) (by kernel_rfl) (by kernel_rfl) (fun _ _ _ h => h) (Or.inl ⟨by rfl, ?_⟩) (by assumption) ?_
      rotate_left
      · intro w hSw
        (try dsimp only at hSw)
        first | (go_simp; done) | (go_simp; with_reducible rfl)
      (try simp only [Act.put, List.setIfInBounds_toArray, List.set_cons_zero, List.set_cons_succ])
      refine wpAnyH_done (by kernel_rfl) ?_ _
      clear hS hHeld e0 e1 e2 e3 e4 e5 e6 e7
      go_wp2
      go_ret2
      exact ⟨⟨lo, false, rfl, HFo.out⟩, HB.out.trans ((Below.mk HBr.out.os HBr.out.tape HBr.out.output HBr.out.size HBr.out.block : Below w0.heap.size w0 wr.drew).mono HB.out.size)⟩
end Go.Proofs.Ytjmilgijdfibbab
