/- Walks and mathematics that several claims share, part 21. -/
import Derived.Test.YtdbdmfaphdjdpaaGu18
import Derived.Test.YtdbdmfaphdjdpaaGu19
import Derived.Test.YtdbdmfaphdjdpaaGu4
import Derived.Deep.Cut
import Derived.Deep.RegionHeld3
import Derived.Test.YtdbdmfaphdjdpaaGuA
namespace Go.Proofs.Ytdbdmfaphdjdpaa
set_option maxRecDepth 100000
open Go.RowKit

theorem op_cells9 {w : World} {b : Nat} {v0 v1 v2 v3 v4 v5 v6 v7 : Value} {T : TypeId} {fr : Nat × Nat} (h : w.heap[b]? = some (.cells #[v0, v1, v2, v3, v4, v5, v6, v7] T fr)) : w.cell? ⟨b, 0, none⟩ = some v0 ∧ w.cell? ⟨b, 1, none⟩ = some v1 ∧ w.cell? ⟨b, 2, none⟩ = some v2 ∧ w.cell? ⟨b, 3, none⟩ = some v3 ∧ w.cell? ⟨b, 4, none⟩ = some v4 ∧ w.cell? ⟨b, 5, none⟩ = some v5 ∧ w.cell? ⟨b, 6, none⟩ = some v6 ∧ w.cell? ⟨b, 7, none⟩ = some v7 :=
 ⟨cell_of_row _ _ _ _ _ _ h, cell_of_row _ _ _ _ _ _ h, cell_of_row _ _ _ _ _ _ h, cell_of_row _ _ _ _ _ _ h, cell_of_row _ _ _ _ _ _ h, cell_of_row _ _ _ _ _ _ h, cell_of_row _ _ _ _ _ _ h, cell_of_row _ _ _ _ _ _ h⟩
def eqN (l : List OpV) (i : Nat) (dev seq : Int) : Prop := (atOp l i).dev = dev ∧ (atOp l i).seq = seq
theorem cart_at {xs : List Int} {l : List OpV} (h : cartB xs l = true) {i : Nat} (hi : i < l.length) : ∃ d : Nat, d < 4 ∧ stOf xs d ≤ i ∧ i < stOf xs (d + 1) ∧ (atOp l i).ok = true ∧ (atOp l i).dev = (d : Int) ∧ (atOp l i).seq = ((i - stOf xs d : Nat) : Int) + 1 := by
 obtain ⟨_, h1, h2⟩ := cart_true h
 have hd : ∃ d : Nat, d < 4 ∧ stOf xs d ≤ i ∧ i < stOf xs (d + 1) := by
  by_cases a1 : i < stOf xs 1
  ·exact ⟨0, by omega, Nat.zero_le _, a1⟩
  by_cases a2 : i < stOf xs 2
  ·exact ⟨1, by omega, by omega, a2⟩
  by_cases a3 : i < stOf xs 3
  ·exact ⟨2, by omega, by omega, a3⟩
  ·exact ⟨3, by omega, by omega, by rw [h2]; exact hi⟩
 obtain ⟨d, hd4, hlo, hhi⟩ := hd
 have hb := h1 d hd4
 unfold devB at hb
 rw [Bool.and_eq_true] at hb
 have hr := hb.2
 unfold runB at hr
 rw [List.all_eq_true] at hr
 have es : stOf xs (d + 1) = stOf xs d + (xs.getD d 0).toNat := rfl
 have hf := hr (i - stOf xs d) (by rw [List.mem_range]; omega)
 have e : stOf xs d + (i - stOf xs d) = i := by omega
 unfold fitB at hf
 rw [e] at hf
 simp only [Bool.and_eq_true, decide_eq_true_eq] at hf
 exact ⟨d, hd4, hlo, hhi, hf.1, hf.2.1, hf.2.2.1⟩
theorem cart_inc {xs : List Int} {l : List OpV} (h : cartB xs l = true) : incB l = true := inc_yes fun i hi => by
 unfold incAt
 by_cases h0 : i = 0
 ·rw [decide_eq_true h0]; rfl
 obtain ⟨d, hd, a1, a2, _, e1, e2⟩ := cart_at h hi
 obtain ⟨d', hd', b1, b2, _, f1, f2⟩ := cart_at h (i := i - 1) (by omega)
 rw [decide_eq_false h0, Bool.false_or, e1, e2, f1, f2]
 unfold numB
 refine decide_eq_true ?_
 rcases Nat.lt_trichotomy d' d with g | g | g
 ·exact .inl (by omega)
 ·subst g
  exact .inr ⟨rfl, by omega⟩
 ·have := stOf_mono xs (d + 1) d' (by omega)
  omega
theorem num_trans {a b c d e f : Int} (h1 : numB a b c d = true) (h2 : numB c d e f = true) : numB a b e f = true := by
 unfold numB at *
 have h1 := of_decide_eq_true h1
 have h2 := of_decide_eq_true h2
 exact decide_eq_true (by omega)
theorem num_irr {a b : Int} (h : numB a b a b = true) : False := by
 unfold numB at h
 have := of_decide_eq_true h
 omega
theorem inc_at {l : List OpV} (h : incB l = true) {i : Nat} (hi : i + 1 < l.length) : numB (atOp l i).dev (atOp l i).seq (atOp l (i + 1)).dev (atOp l (i + 1)).seq = true := by
 unfold incB at h
 rw [List.all_eq_true] at h
 have := h (i + 1) (by simpa using hi)
 unfold incAt at this
 rw [decide_eq_false (by omega), Bool.false_or] at this
 exact this
theorem inc_lt {l : List OpV} (h : incB l = true) : ∀ j i, i < j → j < l.length → numB (atOp l i).dev (atOp l i).seq (atOp l j).dev (atOp l j).seq = true
 | 0, i, hij, _ => by omega
 | j + 1, i, hij, hj => by
  rcases Nat.lt_or_ge i j with h1 | h1
  ·exact num_trans (inc_lt h j i h1 (by omega)) (inc_at h hj)
  ·obtain rfl : i = j := by omega
   exact inc_at h hj
theorem inc_uniq {l : List OpV} (h : incB l = true) {i j : Nat} {dev seq : Int} (hi : i < l.length) (hj : j < l.length) (e1 : eqN l i dev seq) (e2 : eqN l j dev seq) : i = j := by
 unfold eqN at e1 e2
 rcases Nat.lt_trichotomy i j with g | g | g
 ·have := inc_lt h j i g hj
  rw [e1.1, e1.2, e2.1, e2.2] at this
  exact (num_irr this).elim
 ·exact g
 ·have := inc_lt h i j g hi
  rw [e1.1, e1.2, e2.1, e2.2] at this
  exact (num_irr this).elim
theorem numI_neg {d q d' q' : Int} : numI d q d' q' < 0 ↔ numB d q d' q' = true := by rw [num_lt]; exact decide_eq_true_iff.symm
theorem numI_zero {d q d' q' : Int} : numI d q d' q' = 0 ↔ d = d' ∧ q = q' := by
 unfold numI orI2
 rcases Int.lt_trichotomy d d' with g | g | g
 ·rw [cmp_lt g, if_pos (by decide)]; omega
 ·rw [cmp_eq g, if_neg (by decide)]
  rcases Int.lt_trichotomy q q' with k | k | k
  ·rw [cmp_lt k]; omega
  ·rw [cmp_eq k]; omega
  ·rw [cmp_gt k]; omega
 ·rw [cmp_gt g, if_pos (by decide)]; omega
/-- How an operation of a list compares with x. -/
def cmpAt (l : List OpV) (x : OpV) (j : Nat) : Int := numI (atOp l j).dev (atOp l j).seq x.dev x.seq
theorem cmp_down {l : List OpV} {x : OpV} (h : incB l = true) {m : Nat} (hm : m < l.length) (hc : cmpAt l x m < 0) : ∀ j, j < m + 1 → cmpAt l x j < 0 := fun j hj => by
 rcases Nat.lt_or_ge j m with h1 | h1
 ·exact numI_neg.2 (num_trans (inc_lt h m j h1 hm) (numI_neg.1 hc))
 ·obtain rfl : j = m := by omega
  exact hc
theorem cmp_up {l : List OpV} {x : OpV} (h : incB l = true) {m : Nat} (hc : 0 ≤ cmpAt l x m) : ∀ j, m ≤ j → j < l.length → 0 ≤ cmpAt l x j := fun j hj hl => by
 rcases Nat.lt_or_ge m j with h1 | h1
 ·refine Int.not_lt.1 fun hn => ?_
  have : cmpAt l x m < 0 := numI_neg.2 (num_trans (inc_lt h j m h1 hl) (numI_neg.1 hn))
  omega
 ·obtain rfl : j = m := by omega
  exact hc
theorem none_of {l : List OpV} {x : OpV} (h : incB l = true) {k : Nat} (h1 : ∀ j, j < k → cmpAt l x j < 0) (h2 : k < l.length → 0 ≤ cmpAt l x k ∧ cmpAt l x k ≠ 0) : ∀ j, j < l.length → ¬ eqN l j x.dev x.seq := fun j hj e => by
 have ez : cmpAt l x j = 0 := numI_zero.2 e
 rcases Nat.lt_trichotomy j k with g | g | g
 ·have := h1 j g; omega
 ·subst g
  exact (h2 hj).2 ez
 ·have hlt := inc_lt h j k g hj
  unfold eqN at e
  rw [e.1, e.2] at hlt
  have a1 := (h2 (by omega)).1
  have a2 : cmpAt l x k < 0 := numI_neg.2 hlt
  omega
def Found (l : List OpV) (x : OpV) (i : Nat) (b : Bool) : Prop := i ≤ l.length ∧ (b = true → i < l.length ∧ eqN l i x.dev x.seq) ∧ (b = false → ∀ j, j < l.length → ¬ eqN l j x.dev x.seq)
theorem found_end {l : List OpV} {x : OpV} (h : incB l = true) (h1 : ∀ j, j < l.length → cmpAt l x j < 0) : Found l x l.length false :=
 ⟨Nat.le_refl _, fun h => (by cases h), fun _ => none_of h h1 (fun h => absurd h (by omega))⟩
theorem found_mid {l : List OpV} {x : OpV} (h : incB l = true) {k : Nat} (hk : k < l.length) (h1 : ∀ j, j < k → cmpAt l x j < 0) (h2 : 0 ≤ cmpAt l x k) : Found l x k (decide (cmpAt l x k = 0)) :=
 ⟨by omega, fun e => ⟨hk, numI_zero.1 (of_decide_eq_true e)⟩, fun e => none_of h h1 fun _ => ⟨h2, of_decide_eq_false e⟩⟩

set_option linter.unusedSimpArgs false in
set_option maxHeartbeats 20000000 in
theorem binSearch (w : World) (B : Nat) (a : Option Addr) (n c : Nat) (l : List OpV) (x : OpV) (h : Ops w B a n l) (hB : B ≤ w.heap.size) (hn : n ≤ 1048576) (hinc : incB l = true) :
  Calls Try.prog 106 #[.slice a n c, .agg #[.int .i64 x.dev, .int .i64 x.seq, .int .i64 x.stamp, .int .i64 x.kind, .string x.item, .int .i64 x.qty, .int .i64 x.level, .int .i64 x.undos], .func (.func 105) #[] #[]] w fun e w' => (∃ (i : Nat) (b : Bool), e = .returned (.tuple #[.int .i64 (i : Int), .bool b]) ∧ Found l x i b) ∧ Below w.heap.size w w' := by
 have hb0 : Below w.heap.size w (w.alloc (.cells #[.int .i64 x.dev, .int .i64 x.seq, .int .i64 x.stamp, .int .i64 x.kind, .string x.item, .int .i64 x.qty, .int .i64 x.level, .int .i64 x.undos] 77)) := (Below.refl _ w).alloc (Nat.le_refl _) _
 have HO := Lib.hid (h.below hb0 hB)
 have HB := Lib.hid hb0
 have HX := Lib.hid (boxAt (Below.refl _ (w.alloc (.cells #[.int .i64 x.dev, .int .i64 x.seq, .int .i64 x.stamp, .int .i64 x.kind, .string x.item, .int .i64 x.qty, .int .i64 x.level, .int .i64 x.undos] 77))))
 have HL := Lib.hid h.1
 have HInc := Lib.hid hinc
 have hsz : w.heap.size < (w.alloc (.cells #[.int .i64 x.dev, .int .i64 x.seq, .int .i64 x.stamp, .int .i64 x.kind, .string x.item, .int .i64 x.qty, .int .i64 x.level, .int .i64 x.undos] 77)).heap.size := by show _ < (w.heap.push _).size; simp
 clear h hb0 hinc
 go_enter Try.func106, Try.ntmps106
 go_upto_region 1 with fail
 generalize w.alloc (.cells #[.int .i64 x.dev, .int .i64 x.seq, .int .i64 x.stamp, .int .i64 x.kind, .string x.item, .int .i64 x.qty, .int .i64 x.level, .int .i64 x.undos] 77) = w0 at HO HB HX hsz ⊢
 go_wp2
 go_loopw [9, 10] (fun s t wr => ∃ lo hi : Nat, lo ≤ hi ∧ hi ≤ n ∧ s = .int .i64 (lo : Int) ∧ t = .int .i64 (hi : Int) ∧ Hid ((∀ j, j < lo → cmpAt l x j < 0) ∧ ∀ j, hi ≤ j → j < n → 0 ≤ cmpAt l x j) ∧ Hid (Below w0.heap.size w0 wr)) (fun s t _ => (intOf t - intOf s).toNat)
 case atStart => exact ⟨0, n, by omega, by omega, rfl, rfl, ⟨fun j hj => absurd hj (by omega), fun j h1 h2 => absurd h1 (by omega)⟩, Below.refl _ _⟩
 case round =>
  obtain ⟨lo, hi, hlh, hhn, rfl, rfl, HR, HBr⟩ := hrel
  obtain ⟨e0, e1, e2, e3, e4, e5, e6, e7⟩ := op_cells9 ((HBr.out.block _ (by omega)).trans HX.out)
  by_cases hlt : lo < hi
  ·have hli : (lo : Int) < (hi : Int) := by omega
   obtain ⟨m, hm⟩ : ∃ m, m = (lo + hi) / 2 := ⟨_, rfl⟩
   have hmi : ((lo : Int) + (hi : Int)) / 2 = (m : Int) := by omega
   have hmn : m < n := by omega
   have hml : lo ≤ m ∧ m < hi := by omega
   obtain ⟨hml1, hml2⟩ := hml
   clear hm
   go_upto_region 5 with fail
   have hmn' : (m : Int) < (n : Int) := by omega
   obtain ⟨b, off, rfl, hb, ho⟩ := HO.out.2 m hmn
   have HOk : Hid (OpAt w0 b (off + m * 8) (atOp l m)) := ho
   clear ho
   have HC : Hid (cmpAt l x m = numI (atOp l m).dev (atOp l m).seq x.dev x.seq) := rfl
   generalize atOp l m = y at HOk HC
   obtain ⟨d0, d1, d2, d3, d4, d5, d6, d7⟩ := HOk.out.kept (HBr.out.block b (by omega))
   have hS : wr.drew.cell? ⟨b, off + m * 8, none⟩ = some (.int .i64 y.dev) ∧ wr.drew.cell? ⟨b, off + m * 8 + 1, none⟩ = some (.int .i64 y.seq) ∧ wr.drew.cell? ⟨b, off + m * 8 + 2, none⟩ = some (.int .i64 y.stamp) ∧ wr.drew.cell? ⟨b, off + m * 8 + 3, none⟩ = some (.int .i64 y.kind) ∧ wr.drew.cell? ⟨b, off + m * 8 + 4, none⟩ = some (.string y.item) ∧ wr.drew.cell? ⟨b, off + m * 8 + 5, none⟩ = some (.int .i64 y.qty) ∧ wr.drew.cell? ⟨b, off + m * 8 + 6, none⟩ = some (.int .i64 y.level) ∧ wr.drew.cell? ⟨b, off + m * 8 + 7, none⟩ = some (.int .i64 y.undos) ∧ wr.drew.cell? ⟨w.heap.size, 0, none⟩ = some (.int .i64 x.dev) ∧ wr.drew.cell? ⟨w.heap.size, 1, none⟩ = some (.int .i64 x.seq) ∧ wr.drew.cell? ⟨w.heap.size, 2, none⟩ = some (.int .i64 x.stamp) ∧ wr.drew.cell? ⟨w.heap.size, 3, none⟩ = some (.int .i64 x.kind) ∧ wr.drew.cell? ⟨w.heap.size, 4, none⟩ = some (.string x.item) ∧ wr.drew.cell? ⟨w.heap.size, 5, none⟩ = some (.int .i64 x.qty) ∧ wr.drew.cell? ⟨w.heap.size, 6, none⟩ = some (.int .i64 x.level) ∧ wr.drew.cell? ⟨w.heap.size, 7, none⟩ = some (.int .i64 x.undos) := ⟨d0, d1, d2, d3, d4, d5, d6, d7, e0, e1, e2, e3, e4, e5, e6, e7⟩
   go_wp2_with fail
   go_region_held3 (fun w' => w'.cell? ⟨b, off + m * 8, none⟩ = some (.int .i64 y.dev) ∧ w'.cell? ⟨b, off + m * 8 + 1, none⟩ = some (.int .i64 y.seq) ∧ w'.cell? ⟨b, off + m * 8 + 2, none⟩ = some (.int .i64 y.stamp) ∧ w'.cell? ⟨b, off + m * 8 + 3, none⟩ = some (.int .i64 y.kind) ∧ w'.cell? ⟨b, off + m * 8 + 4, none⟩ = some (.string y.item) ∧ w'.cell? ⟨b, off + m * 8 + 5, none⟩ = some (.int .i64 y.qty) ∧ w'.cell? ⟨b, off + m * 8 + 6, none⟩ = some (.int .i64 y.level) ∧ w'.cell? ⟨b, off + m * 8 + 7, none⟩ = some (.int .i64 y.undos) ∧ w'.cell? ⟨w.heap.size, 0, none⟩ = some (.int .i64 x.dev) ∧ w'.cell? ⟨w.heap.size, 1, none⟩ = some (.int .i64 x.seq) ∧ w'.cell? ⟨w.heap.size, 2, none⟩ = some (.int .i64 x.stamp) ∧ w'.cell? ⟨w.heap.size, 3, none⟩ = some (.int .i64 x.kind) ∧ w'.cell? ⟨w.heap.size, 4, none⟩ = some (.string x.item) ∧ w'.cell? ⟨w.heap.size, 5, none⟩ = some (.int .i64 x.qty) ∧ w'.cell? ⟨w.heap.size, 6, none⟩ = some (.int .i64 x.level) ∧ w'.cell? ⟨w.heap.size, 7, none⟩ = some (.int .i64 x.undos)) (first | with_reducible exact hS | with_reducible exact hS2)
    (first | (go_at_call 105; refine (byNumber y.dev y.seq y.stamp y.kind y.item y.qty y.level y.undos x.dev x.seq x.stamp x.kind x.item x.qty x.level x.undos _).mono ?_; rintro e w2 ⟨rfl, hb2⟩; have ⟨q0, q1, q2, q3, q4, q5, q6, q7, q8, q9, q10, q11, q12, q13, q14, q15⟩ := hS; have hS2 : w2.cell? ⟨b, off + m * 8, none⟩ = some (.int .i64 y.dev) ∧ w2.cell? ⟨b, off + m * 8 + 1, none⟩ = some (.int .i64 y.seq) ∧ w2.cell? ⟨b, off + m * 8 + 2, none⟩ = some (.int .i64 y.stamp) ∧ w2.cell? ⟨b, off + m * 8 + 3, none⟩ = some (.int .i64 y.kind) ∧ w2.cell? ⟨b, off + m * 8 + 4, none⟩ = some (.string y.item) ∧ w2.cell? ⟨b, off + m * 8 + 5, none⟩ = some (.int .i64 y.qty) ∧ w2.cell? ⟨b, off + m * 8 + 6, none⟩ = some (.int .i64 y.level) ∧ w2.cell? ⟨b, off + m * 8 + 7, none⟩ = some (.int .i64 y.undos) ∧ w2.cell? ⟨w.heap.size, 0, none⟩ = some (.int .i64 x.dev) ∧ w2.cell? ⟨w.heap.size, 1, none⟩ = some (.int .i64 x.seq) ∧ w2.cell? ⟨w.heap.size, 2, none⟩ = some (.int .i64 x.stamp) ∧ w2.cell? ⟨w.heap.size, 3, none⟩ = some (.int .i64 x.kind) ∧ w2.cell? ⟨w.heap.size, 4, none⟩ = some (.string x.item) ∧ w2.cell? ⟨w.heap.size, 5, none⟩ = some (.int .i64 x.qty) ∧ w2.cell? ⟨w.heap.size, 6, none⟩ = some (.int .i64 x.level) ∧ w2.cell? ⟨w.heap.size, 7, none⟩ = some (.int .i64 x.undos) := ⟨(hb2.cell (block_lt_of_cell q0)).trans q0, (hb2.cell (block_lt_of_cell q1)).trans q1, (hb2.cell (block_lt_of_cell q2)).trans q2, (hb2.cell (block_lt_of_cell q3)).trans q3, (hb2.cell (block_lt_of_cell q4)).trans q4, (hb2.cell (block_lt_of_cell q5)).trans q5, (hb2.cell (block_lt_of_cell q6)).trans q6, (hb2.cell (block_lt_of_cell q7)).trans q7, (hb2.cell (block_lt_of_cell q8)).trans q8, (hb2.cell (block_lt_of_cell q9)).trans q9, (hb2.cell (block_lt_of_cell q10)).trans q10, (hb2.cell (block_lt_of_cell q11)).trans q11, (hb2.cell (block_lt_of_cell q12)).trans q12, (hb2.cell (block_lt_of_cell q13)).trans q13, (hb2.cell (block_lt_of_cell q14)).trans q14, (hb2.cell (block_lt_of_cell q15)).trans q15⟩; clear q0 q1 q2 q3 q4 q5 q6 q7 q8 q9 q10 q11 q12 q13 q14 q15))
   have HB2 := Lib.hid (HBr.out.trans ((Below.mk hb2.os hb2.tape hb2.output hb2.size hb2.block : Below wr.heap.size wr w2).mono HBr.out.size))
   clear hS hS2 hb2 d0 d1 d2 d3 d4 d5 d6 d7 e0 e1 e2 e3 e4 e5 e6 e7
   have HDn := Lib.hid (fun hc => cmp_down (x := x) HInc.out (m := m) (by rw [HL.out]; exact hmn) hc)
   have HUp := Lib.hid (fun hc => cmp_up (x := x) HInc.out (m := m) hc)
   rw [← HC.out]
   generalize cmpAt l x m = cm at HDn HUp ⊢
   by_cases hc : cm < 0
   ·have HRn : Hid ((∀ j, j < m + 1 → cmpAt l x j < 0) ∧ ∀ j, hi ≤ j → j < n → 0 ≤ cmpAt l x j) := ⟨HDn.out hc, HR.out.2⟩
    go_wp2
    go_roundw
    case rel => exact ⟨m + 1, hi, by omega, by omega, by go_num, rfl, HRn, HB2⟩
    case measure => simp [intOf]; omega
   ·have HRn : Hid ((∀ j, j < lo → cmpAt l x j < 0) ∧ ∀ j, m ≤ j → j < n → 0 ≤ cmpAt l x j) := ⟨HR.out.1, fun j h1 h2 => HUp.out (by omega) j h1 (by rw [HL.out]; exact h2)⟩
    go_wp2
    go_roundw
    case rel => exact ⟨lo, m, by omega, by omega, rfl, by go_num, HRn, HB2⟩
    case measure => simp [intOf]; omega
  obtain rfl : lo = hi := by omega
  have hll : ¬ (lo : Int) < (lo : Int) := by omega
  clear hlt
  by_cases hend : lo < n
  ·have hei : (lo : Int) < (n : Int) := by omega
   have HFo := Lib.hid (found_mid (x := x) HInc.out (k := lo) (by rw [HL.out]; exact hend) HR.out.1 (HR.out.2 lo (Nat.le_refl _) hend))
   obtain ⟨b, off, rfl, hb, ho⟩ := HO.out.2 lo hend
   have HOk : Hid (OpAt w0 b (off + lo * 8) (atOp l lo)) := ho
   clear ho
   have HC : Hid (cmpAt l x lo = numI (atOp l lo).dev (atOp l lo).seq x.dev x.seq) := rfl
   generalize atOp l lo = y at HOk HC
   obtain ⟨d0, d1, d2, d3, d4, d5, d6, d7⟩ := HOk.out.kept (HBr.out.block b (by omega))
   have hS : wr.drew.cell? ⟨b, off + lo * 8, none⟩ = some (.int .i64 y.dev) ∧ wr.drew.cell? ⟨b, off + lo * 8 + 1, none⟩ = some (.int .i64 y.seq) ∧ wr.drew.cell? ⟨b, off + lo * 8 + 2, none⟩ = some (.int .i64 y.stamp) ∧ wr.drew.cell? ⟨b, off + lo * 8 + 3, none⟩ = some (.int .i64 y.kind) ∧ wr.drew.cell? ⟨b, off + lo * 8 + 4, none⟩ = some (.string y.item) ∧ wr.drew.cell? ⟨b, off + lo * 8 + 5, none⟩ = some (.int .i64 y.qty) ∧ wr.drew.cell? ⟨b, off + lo * 8 + 6, none⟩ = some (.int .i64 y.level) ∧ wr.drew.cell? ⟨b, off + lo * 8 + 7, none⟩ = some (.int .i64 y.undos) ∧ wr.drew.cell? ⟨w.heap.size, 0, none⟩ = some (.int .i64 x.dev) ∧ wr.drew.cell? ⟨w.heap.size, 1, none⟩ = some (.int .i64 x.seq) ∧ wr.drew.cell? ⟨w.heap.size, 2, none⟩ = some (.int .i64 x.stamp) ∧ wr.drew.cell? ⟨w.heap.size, 3, none⟩ = some (.int .i64 x.kind) ∧ wr.drew.cell? ⟨w.heap.size, 4, none⟩ = some (.string x.item) ∧ wr.drew.cell? ⟨w.heap.size, 5, none⟩ = some (.int .i64 x.qty) ∧ wr.drew.cell? ⟨w.heap.size, 6, none⟩ = some (.int .i64 x.level) ∧ wr.drew.cell? ⟨w.heap.size, 7, none⟩ = some (.int .i64 x.undos) := ⟨d0, d1, d2, d3, d4, d5, d6, d7, e0, e1, e2, e3, e4, e5, e6, e7⟩
   go_wp2_with fail
   refine wp_region_held_drew (S := fun w' => w'.cell? ⟨b, off + lo * 8, none⟩ = some (.int .i64 y.dev) ∧ w'.cell? ⟨b, off + lo * 8 + 1, none⟩ = some (.int .i64 y.seq) ∧ w'.cell? ⟨b, off + lo * 8 + 2, none⟩ = some (.int .i64 y.stamp) ∧ w'.cell? ⟨b, off + lo * 8 + 3, none⟩ = some (.int .i64 y.kind) ∧ w'.cell? ⟨b, off + lo * 8 + 4, none⟩ = some (.string y.item) ∧ w'.cell? ⟨b, off + lo * 8 + 5, none⟩ = some (.int .i64 y.qty) ∧ w'.cell? ⟨b, off + lo * 8 + 6, none⟩ = some (.int .i64 y.level) ∧ w'.cell? ⟨b, off + lo * 8 + 7, none⟩ = some (.int .i64 y.undos) ∧ w'.cell? ⟨w.heap.size, 0, none⟩ = some (.int .i64 x.dev) ∧ w'.cell? ⟨w.heap.size, 1, none⟩ = some (.int .i64 x.seq) ∧ w'.cell? ⟨w.heap.size, 2, none⟩ = some (.int .i64 x.stamp) ∧ w'.cell? ⟨w.heap.size, 3, none⟩ = some (.int .i64 x.kind) ∧ w'.cell? ⟨w.heap.size, 4, none⟩ = some (.string x.item) ∧ w'.cell? ⟨w.heap.size, 5, none⟩ = some (.int .i64 x.qty) ∧ w'.cell? ⟨w.heap.size, 6, none⟩ = some (.int .i64 x.level) ∧ w'.cell? ⟨w.heap.size, 7, none⟩ = some (.int .i64 x.undos)) (by kernel_rfl) hS (fun hHeld => ?_)
   refine tk 0 ⟨some 35, .move (.tmp 9), 3, "sort.go:167", #[], none⟩ ?_
   (try simp only [Act.put, u1, u2, u3])
   refine tk 1 ⟨some 36, .move (.tmp 9), 3, "sort.go:167", #[], none⟩ ?_
   (try simp only [Act.put, u1, u2, u3])
   refine tk 2 ⟨some 37, .move (.tmp 8), 3, "sort.go:167", #[], none⟩ ?_
   (try simp only [Act.put, u1, u2, u3])
   refine tk 3 ⟨some 38, .binOp .lss 3 (.tmp 36) (.tmp 37) 3, 4, "sort.go:167", #[⟨1, .data⟩, ⟨2, .data⟩], none⟩ ?_
   (try simp only [Act.put, u1, u2, u3])
   refine tk 4 ⟨some 39, .move (.tmp 38), 4, "sort.go:167", #[⟨3, .data⟩], none⟩ ?_
   (try simp only [Act.put, u1, u2, u3])
   refine tk 5 ⟨some 40, .move (.tmp 2), 70, "sort.go:167", #[⟨4, .guard⟩], some (4, true)⟩ ?_
   (try simp only [Act.put, u1, u2, u3])
   refine tk 6 ⟨some 41, .move (.tmp 0), 27, "sort.go:167", #[⟨4, .guard⟩], some (4, true)⟩ ?_
   (try simp only [Act.put, u1, u2, u3])
   refine tk 7 ⟨some 42, .move (.tmp 9), 3, "sort.go:167", #[⟨4, .guard⟩], some (4, true)⟩ ?_
   (try simp only [Act.put, u1, u2, u3])
   refine tk 8 ⟨some 43, .indexAddr 27 (.tmp 41) (.tmp 42), 0, "sort.go:167", #[⟨6, .data⟩, ⟨7, .data⟩, ⟨4, .guard⟩], some (4, true)⟩ ?_
   (try simp only [Act.put, u1, u2, u3])
   refine tk 9 ⟨some 44, .load 77 (.tmp 43), 77, "sort.go:167", #[⟨8, .data⟩, ⟨4, .guard⟩], some (4, true)⟩ ?_
   (try simp only [Act.put, u1, u2, u3])
   refine tk 10 ⟨some 45, .load 77 (.tmp 4), 77, "sort.go:167", #[⟨4, .guard⟩], some (4, true)⟩ ?_
   (try simp only [Act.put, u1, u2, u3])
   refine rk 11 rfl (fun K hK => ?_)
   go_simp
   go_at_call 105
   refine (byNumber y.dev y.seq y.stamp y.kind y.item y.qty y.level y.undos x.dev x.seq x.stamp x.kind x.item x.qty x.level x.undos _).mono ?_
   rintro e w2 ⟨rfl, hb2⟩
   rw [← HC.out]
   have hS2 : w2.cell? ⟨b, off + lo * 8, none⟩ = some (.int .i64 y.dev) ∧ w2.cell? ⟨b, off + lo * 8 + 1, none⟩ = some (.int .i64 y.seq) ∧ w2.cell? ⟨b, off + lo * 8 + 2, none⟩ = some (.int .i64 y.stamp) ∧ w2.cell? ⟨b, off + lo * 8 + 3, none⟩ = some (.int .i64 y.kind) ∧ w2.cell? ⟨b, off + lo * 8 + 4, none⟩ = some (.string y.item) ∧ w2.cell? ⟨b, off + lo * 8 + 5, none⟩ = some (.int .i64 y.qty) ∧ w2.cell? ⟨b, off + lo * 8 + 6, none⟩ = some (.int .i64 y.level) ∧ w2.cell? ⟨b, off + lo * 8 + 7, none⟩ = some (.int .i64 y.undos) ∧ w2.cell? ⟨w.heap.size, 0, none⟩ = some (.int .i64 x.dev) ∧ w2.cell? ⟨w.heap.size, 1, none⟩ = some (.int .i64 x.seq) ∧ w2.cell? ⟨w.heap.size, 2, none⟩ = some (.int .i64 x.stamp) ∧ w2.cell? ⟨w.heap.size, 3, none⟩ = some (.int .i64 x.kind) ∧ w2.cell? ⟨w.heap.size, 4, none⟩ = some (.string x.item) ∧ w2.cell? ⟨w.heap.size, 5, none⟩ = some (.int .i64 x.qty) ∧ w2.cell? ⟨w.heap.size, 6, none⟩ = some (.int .i64 x.level) ∧ w2.cell? ⟨w.heap.size, 7, none⟩ = some (.int .i64 x.undos) := by
     obtain ⟨q0, q1, q2, q3, q4, q5, q6, q7, q8, q9, q10, q11, q12, q13, q14, q15⟩ := hS
     exact ⟨(hb2.cell (block_lt_of_cell q0)).trans q0, (hb2.cell (block_lt_of_cell q1)).trans q1, (hb2.cell (block_lt_of_cell q2)).trans q2, (hb2.cell (block_lt_of_cell q3)).trans q3, (hb2.cell (block_lt_of_cell q4)).trans q4, (hb2.cell (block_lt_of_cell q5)).trans q5, (hb2.cell (block_lt_of_cell q6)).trans q6, (hb2.cell (block_lt_of_cell q7)).trans q7, (hb2.cell (block_lt_of_cell q8)).trans q8, (hb2.cell (block_lt_of_cell q9)).trans q9, (hb2.cell (block_lt_of_cell q10)).trans q10, (hb2.cell (block_lt_of_cell q11)).trans q11, (hb2.cell (block_lt_of_cell q12)).trans q12, (hb2.cell (block_lt_of_cell q13)).trans q13, (hb2.cell (block_lt_of_cell q14)).trans q14, (hb2.cell (block_lt_of_cell q15)).trans q15⟩
   refine hK.out _ _ hS2 (fun hHeld2 => ?_)
   clear hK K
   (try simp only [Act.put, u1, u2, u3])
   have HB2 := Lib.hid (HBr.out.trans ((Below.mk hb2.os hb2.tape hb2.output hb2.size hb2.block : Below wr.heap.size wr w2).mono HBr.out.size))
   generalize cmpAt l x lo = cm at HFo HC ⊢
   have hcz : (cm == 0) = decide (cm = 0) := by by_cases h : cm = 0 <;> simp [h]
   refine tk 12 ⟨some 47, .binOp .eql 3 (.tmp 46) (.const (Value.int IntKind.i64 0)) 3, 4, "sort.go:167", #[⟨11, .data⟩, ⟨4, .guard⟩, { on := 14, ground := Ground.gcOnly Departure.lateStores }], some (4, true)⟩ ?_
   (try simp only [Act.put, u1, u2, u3])
   refine tk 13 ⟨some 48, .pick (.tmp 39) (.tmp 47) (.const (Value.bool false)), 4, "sort.go:167", #[⟨4, .data⟩, ⟨12, .data⟩, { on := 14, ground := Ground.gcOnly Departure.lateStores }], none⟩ ?_
   (try simp only [Act.put, u1, u2, u3])
   refine tk 14 ⟨some 6, .assign (.tmp 35), 3, "sort.go:167", #[⟨0, .data⟩, ⟨11, .chain⟩, ⟨0, .phase⟩, ⟨1, .textOnly .lateStores⟩, ⟨2, .textOnly .lateStores⟩, ⟨3, .textOnly .lateStores⟩, ⟨4, .textOnly .lateStores⟩, ⟨5, .textOnly .lateStores⟩, ⟨6, .textOnly .lateStores⟩, ⟨7, .textOnly .lateStores⟩, ⟨8, .textOnly .lateStores⟩, ⟨9, .textOnly .lateStores⟩, ⟨10, .textOnly .lateStores⟩, ⟨11, .textOnly .lateStoresUnsure⟩, ⟨12, .textOnly .lateStores⟩, ⟨13, .textOnly .lateStores⟩], none⟩ ?_
   (try simp only [Act.put, u1, u2, u3])
   refine tk 15 ⟨some 7, .assign (.tmp 48), 4, "sort.go:167", #[⟨13, .data⟩, ⟨14, .chain⟩, ⟨0, .phase⟩, ⟨1, .phase⟩, ⟨2, .phase⟩, ⟨3, .phase⟩, ⟨4, .phase⟩, ⟨5, .phase⟩, ⟨6, .phase⟩, ⟨7, .phase⟩, ⟨8, .phase⟩, ⟨9, .phase⟩, ⟨10, .phase⟩, ⟨11, .phase⟩, ⟨12, .phase⟩, ⟨13, .phase⟩, ⟨14, .phase⟩], none⟩ ?_
   (try simp only [Act.put, u1, u2, u3])
   refine wpAnyH_done (by kernel_rfl) ?_ _
   clear hS hS2 hb2 hHeld hHeld2 d0 d1 d2 d3 d4 d5 d6 d7 e0 e1 e2 e3 e4 e5 e6 e7 hcz
   go_wp2
   go_ret2
   exact ⟨⟨lo, _, rfl, HFo.out⟩, HB.out.trans (HB2.out.mono HB.out.size)⟩
  ·obtain rfl : lo = n := by omega
   have hei : decide ((lo : Int) < (lo : Int)) = false := decide_eq_false (by omega)
   have HFo : Hid (Found l x lo false) := by have := found_end (x := x) HInc.out (fun j hj => HR.out.1 j (by rw [← HL.out]; exact hj)); rw [HL.out] at this; exact this
   have hS : wr.drew.cell? ⟨w.heap.size, 0, none⟩ = some (.int .i64 x.dev) ∧ wr.drew.cell? ⟨w.heap.size, 1, none⟩ = some (.int .i64 x.seq) ∧ wr.drew.cell? ⟨w.heap.size, 2, none⟩ = some (.int .i64 x.stamp) ∧ wr.drew.cell? ⟨w.heap.size, 3, none⟩ = some (.int .i64 x.kind) ∧ wr.drew.cell? ⟨w.heap.size, 4, none⟩ = some (.string x.item) ∧ wr.drew.cell? ⟨w.heap.size, 5, none⟩ = some (.int .i64 x.qty) ∧ wr.drew.cell? ⟨w.heap.size, 6, none⟩ = some (.int .i64 x.level) ∧ wr.drew.cell? ⟨w.heap.size, 7, none⟩ = some (.int .i64 x.undos) := ⟨e0, e1, e2, e3, e4, e5, e6, e7⟩
   go_wp2_with fail
   refine wp_region_held_drew (S := fun w' => w'.cell? ⟨w.heap.size, 0, none⟩ = some (.int .i64 x.dev) ∧ w'.cell? ⟨w.heap.size, 1, none⟩ = some (.int .i64 x.seq) ∧ w'.cell? ⟨w.heap.size, 2, none⟩ = some (.int .i64 x.stamp) ∧ w'.cell? ⟨w.heap.size, 3, none⟩ = some (.int .i64 x.kind) ∧ w'.cell? ⟨w.heap.size, 4, none⟩ = some (.string x.item) ∧ w'.cell? ⟨w.heap.size, 5, none⟩ = some (.int .i64 x.qty) ∧ w'.cell? ⟨w.heap.size, 6, none⟩ = some (.int .i64 x.level) ∧ w'.cell? ⟨w.heap.size, 7, none⟩ = some (.int .i64 x.undos)) (by kernel_rfl) hS (fun hHeld => ?_)
   refine tk 0 ⟨some 35, .move (.tmp 9), 3, "sort.go:167", #[], none⟩ ?_
   (try simp only [Act.put, u1, u2, u3])
   refine tk 1 ⟨some 36, .move (.tmp 9), 3, "sort.go:167", #[], none⟩ ?_
   (try simp only [Act.put, u1, u2, u3])
   refine tk 2 ⟨some 37, .move (.tmp 8), 3, "sort.go:167", #[], none⟩ ?_
   (try simp only [Act.put, u1, u2, u3])
   refine tk 3 ⟨some 38, .binOp .lss 3 (.tmp 36) (.tmp 37) 3, 4, "sort.go:167", #[⟨1, .data⟩, ⟨2, .data⟩], none⟩ ?_
   (try simp only [Act.put, u1, u2, u3])
   refine tk 4 ⟨some 39, .move (.tmp 38), 4, "sort.go:167", #[⟨3, .data⟩], none⟩ ?_
   (try simp only [Act.put, u1, u2, u3])
   refine sk 5 ⟨some 40, .move (.tmp 2), 70, "sort.go:167", #[⟨4, .guard⟩], some (4, true)⟩ ?_
   (try simp only [Act.put, u1, u2, u3])
   refine sk 6 ⟨some 41, .move (.tmp 0), 27, "sort.go:167", #[⟨4, .guard⟩], some (4, true)⟩ ?_
   (try simp only [Act.put, u1, u2, u3])
   refine sk 7 ⟨some 42, .move (.tmp 9), 3, "sort.go:167", #[⟨4, .guard⟩], some (4, true)⟩ ?_
   (try simp only [Act.put, u1, u2, u3])
   refine sk 8 ⟨some 43, .indexAddr 27 (.tmp 41) (.tmp 42), 0, "sort.go:167", #[⟨6, .data⟩, ⟨7, .data⟩, ⟨4, .guard⟩], some (4, true)⟩ ?_
   (try simp only [Act.put, u1, u2, u3])
   refine sk 9 ⟨some 44, .load 77 (.tmp 43), 77, "sort.go:167", #[⟨8, .data⟩, ⟨4, .guard⟩], some (4, true)⟩ ?_
   (try simp only [Act.put, u1, u2, u3])
   refine sk 10 ⟨some 45, .load 77 (.tmp 4), 77, "sort.go:167", #[⟨4, .guard⟩], some (4, true)⟩ ?_
   (try simp only [Act.put, u1, u2, u3])
   refine sk 11 ⟨some 46, .call ⟨.value (.tmp 40), #[.tmp 44, .tmp 45], #[77, 77]⟩, 3, "sort.go:167", #[⟨5, .data⟩, ⟨9, .data⟩, ⟨10, .data⟩, ⟨4, .chain⟩, ⟨4, .guard⟩], some (4, true)⟩ ?_
   (try simp only [Act.put, u1, u2, u3])
   refine sk 12 ⟨some 47, .binOp .eql 3 (.tmp 46) (.const (Value.int IntKind.i64 0)) 3, 4, "sort.go:167", #[⟨11, .data⟩, ⟨4, .guard⟩, { on := 14, ground := Ground.gcOnly Departure.lateStores }], some (4, true)⟩ ?_
   (try simp only [Act.put, u1, u2, u3])
   refine tk 13 ⟨some 48, .pick (.tmp 39) (.tmp 47) (.const (Value.bool false)), 4, "sort.go:167", #[⟨4, .data⟩, ⟨12, .data⟩, { on := 14, ground := Ground.gcOnly Departure.lateStores }], none⟩ ?_
   (try simp only [Act.put, u1, u2, u3])
   refine tk 14 ⟨some 6, .assign (.tmp 35), 3, "sort.go:167", #[⟨0, .data⟩, ⟨11, .chain⟩, ⟨0, .phase⟩, ⟨1, .textOnly .lateStores⟩, ⟨2, .textOnly .lateStores⟩, ⟨3, .textOnly .lateStores⟩, ⟨4, .textOnly .lateStores⟩, ⟨5, .textOnly .lateStores⟩, ⟨6, .textOnly .lateStores⟩, ⟨7, .textOnly .lateStores⟩, ⟨8, .textOnly .lateStores⟩, ⟨9, .textOnly .lateStores⟩, ⟨10, .textOnly .lateStores⟩, ⟨11, .textOnly .lateStoresUnsure⟩, ⟨12, .textOnly .lateStores⟩, ⟨13, .textOnly .lateStores⟩], none⟩ ?_
   (try simp only [Act.put, u1, u2, u3])
   refine tk 15 ⟨some 7, .assign (.tmp 48), 4, "sort.go:167", #[⟨13, .data⟩, ⟨14, .chain⟩, ⟨0, .phase⟩, ⟨1, .phase⟩, ⟨2, .phase⟩, ⟨3, .phase⟩, ⟨4, .phase⟩, ⟨5, .phase⟩, ⟨6, .phase⟩, ⟨7, .phase⟩, ⟨8, .phase⟩, ⟨9, .phase⟩, ⟨10, .phase⟩, ⟨11, .phase⟩, ⟨12, .phase⟩, ⟨13, .phase⟩, ⟨14, .phase⟩], none⟩ ?_
   (try simp only [Act.put, u1, u2, u3])
   refine wpAnyH_done (by kernel_rfl) ?_ _
   clear hS hHeld e0 e1 e2 e3 e4 e5 e6 e7
   go_wp2
   go_ret2
   exact ⟨⟨lo, false, rfl, HFo.out⟩, HB.out.trans ((Below.mk HBr.out.os HBr.out.tape HBr.out.output HBr.out.size HBr.out.block : Below w0.heap.size w0 wr.drew).mono HB.out.size)⟩
/-- An operation as a value. -/
def opVal (x : OpV) : Value := .agg #[.int .i64 x.dev, .int .i64 x.seq, .int .i64 x.stamp, .int .i64 x.kind, .string x.item, .int .i64 x.qty, .int .i64 x.level, .int .i64 x.undos]
def Looked (l : List OpV) (x : OpV) (v : Value) : Prop := (∃ i, i < l.length ∧ eqN l i x.dev x.seq ∧ v = .tuple #[opVal (atOp l i), .bool true]) ∨ ((∀ j, j < l.length → ¬ eqN l j x.dev x.seq) ∧ v = .tuple #[.agg #[.int .i64 0, .int .i64 0, .int .i64 0, .int .i64 0, .string ⟨#[]⟩, .int .i64 0, .int .i64 0, .int .i64 0], .bool false])
/-- Three blocks that a call has laid first: two arguments and a result. -/
structure TriF (w w1 : World) (x y z : Array Value) (S T U : TypeId) : Prop where
 fst : w1.heap[w.heap.size]? = some (.cells x S (0, 0))
 snd : w1.heap[w.heap.size + 1]? = some (.cells y T (0, 0))
 res : w1.heap[w.heap.size + 1 + 1]? = some (.cells z U (0, 0))
 bel : Below w.heap.size w w1
theorem TriF.mk0 (w : World) (x y z : Array Value) (S T U : TypeId) : TriF w (((w.alloc (.cells x S)).alloc (.cells y T)).alloc (.cells z U)) x y z S T U := by
 have e1 : (w.alloc (.cells x S)).heap.size = w.heap.size + 1 := by simp
 have e2 : ((w.alloc (.cells x S)).alloc (.cells y T)).heap.size = w.heap.size + 1 + 1 := by simp
 refine ⟨?_, ?_, ?_, (((Below.refl _ w).alloc (Nat.le_refl _) _).alloc (by simp) _).alloc (by simp; omega) _⟩
 ·rw [Below.heap_alloc _ _ _ (by omega), Below.heap_alloc _ _ _ (by omega)]
  exact heap_alloc_new w _
 ·rw [Below.heap_alloc _ _ _ (by omega), ← e1]
  exact heap_alloc_new _ _
 ·rw [← e2]
  exact heap_alloc_new _ _
theorem TriF.next {w w1 w2 : World} {x y z : Array Value} {S T U : TypeId} (h : TriF w w1 x y z S T U) (hb : Below w1.heap.size w1 w2) : TriF w w2 x y z S T U :=
 ⟨(hb.block _ (Array.getElem?_eq_some_iff.1 h.fst).1).trans h.fst, (hb.block _ (Array.getElem?_eq_some_iff.1 h.snd).1).trans h.snd, (hb.block _ (Array.getElem?_eq_some_iff.1 h.res).1).trans h.res, h.bel.trans (hb.mono h.bel.size)⟩
set_option maxHeartbeats 20000000 in
theorem counterpart (w : World) (B : Nat) (a : Option Addr) (n c : Nat) (l : List OpV) (x : OpV) (h : Ops w B a n l) (hB : B ≤ w.heap.size) (hn : n ≤ 1048576) (hinc : incB l = true) :
  Calls Try.prog 72 #[.agg #[.slice a n c, .func (.func 105) #[] #[]], .agg #[.int .i64 x.dev, .int .i64 x.seq, .int .i64 x.stamp, .int .i64 x.kind, .string x.item, .int .i64 x.qty, .int .i64 x.level, .int .i64 x.undos]] w fun e w' => (∃ v, e = .returned v ∧ Looked l x v) ∧ Below w.heap.size w w' := by
 have HT := Lib.hid (TriF.mk0 w #[.slice a n c, .func (.func 105) #[] #[]] #[.int .i64 x.dev, .int .i64 x.seq, .int .i64 x.stamp, .int .i64 x.kind, .string x.item, .int .i64 x.qty, .int .i64 x.level, .int .i64 x.undos] #[.int .i64 0, .int .i64 0, .int .i64 0, .int .i64 0, .string ⟨#[]⟩, .int .i64 0, .int .i64 0, .int .i64 0] 72 77 77)
 have HO := Lib.hid (h.below HT.out.bel hB)
 have HL := Lib.hid h.1
 have HInc := Lib.hid hinc
 clear hinc h
 go_enter Try.func72, Try.ntmps72
 go_wp2_with fail
 generalize ((w.alloc (.cells #[.slice a n c, .func (.func 105) #[] #[]] 72)).alloc (.cells #[.int .i64 x.dev, .int .i64 x.seq, .int .i64 x.stamp, .int .i64 x.kind, .string x.item, .int .i64 x.qty, .int .i64 x.level, .int .i64 x.undos] 77)).alloc (.cells #[.int .i64 0, .int .i64 0, .int .i64 0, .int .i64 0, .string ⟨#[]⟩, .int .i64 0, .int .i64 0, .int .i64 0] 77) = w0 at HT HO ⊢
 have hs0 := HT.out.bel.size
 have hlt0 := (Array.getElem?_eq_some_iff.1 HT.out.res).1
 refine (binSearch w0 B a n c l x HO.out (by omega) hn HInc.out).mono ?_
 rintro e w1 ⟨⟨i, b, rfl, hfo⟩, hb1⟩
 have HF := Lib.hid hfo
 have HT1 := Lib.hid (HT.out.next hb1)
 have HO1 := Lib.hid (HO.out.below hb1 (by omega))
 have hs1 := hb1.size
 clear hfo hb1 HT HO
 cases b
 ·have HNo := Lib.hid (HF.out.2.2 rfl)
  go_upto_region 4 with fail
  have hb2 : Below w1.heap.size w1 (w1.alloc (.cells #[.int .i64 0, .int .i64 0, .int .i64 0, .int .i64 0, .string ⟨#[]⟩, .int .i64 0, .int .i64 0, .int .i64 0] 77)) := bl
  have HZ := Lib.hid (boxAt (Below.refl _ (w1.alloc (.cells #[.int .i64 0, .int .i64 0, .int .i64 0, .int .i64 0, .string ⟨#[]⟩, .int .i64 0, .int .i64 0, .int .i64 0] 77))))
  have HT2 := Lib.hid (HT1.out.next hb2)
  generalize w1.alloc (.cells #[.int .i64 0, .int .i64 0, .int .i64 0, .int .i64 0, .string ⟨#[]⟩, .int .i64 0, .int .i64 0, .int .i64 0] 77) = w2 at hb2 HZ HT2 ⊢
  generalize w1.heap.size = nz at HZ ⊢
  clear hb2 HT1 HO1
  obtain ⟨c0, c1, c2, c3, c4, c5, c6, c7⟩ := op_cells HZ.out
  obtain ⟨e0, e1, e2, e3, e4, e5, e6, e7⟩ := op_cells HT2.out.res
  obtain ⟨f0, f1, f2, f3, f4, f5, f6, f7⟩ := op_frozen HT2.out.res
  go_wp2
  have HX := Lib.hid (setOp_same (.int .i64 0) (.int .i64 0) (.int .i64 0) (.int .i64 0) (.string ⟨#[]⟩) (.int .i64 0) (.int .i64 0) (.int .i64 0) HT2.out.res)
  have HB := Lib.hid (setOp_below (.int .i64 0) (.int .i64 0) (.int .i64 0) (.int .i64 0) (.string ⟨#[]⟩) (.int .i64 0) (.int .i64 0) (.int .i64 0) HT2.out.bel (by show _ ≤ w.heap.size + 1 + 1; omega))
  clear c0 c1 c2 c3 c4 c5 c6 c7 e0 e1 e2 e3 e4 e5 e6 e7 f0 f1 f2 f3 f4 f5 f6 f7
  change bodyPost _ _ _ _ _ (setOp w2 (w.heap.size + 1 + 1) (.int .i64 0) (.int .i64 0) (.int .i64 0) (.int .i64 0) (.string ⟨#[]⟩) (.int .i64 0) (.int .i64 0) (.int .i64 0))
  generalize setOp w2 (w.heap.size + 1 + 1) (.int .i64 0) (.int .i64 0) (.int .i64 0) (.int .i64 0) (.string ⟨#[]⟩) (.int .i64 0) (.int .i64 0) (.int .i64 0) = wf at HX HB ⊢
  obtain ⟨d0, d1, d2, d3, d4, d5, d6, d7⟩ := op_cells HX.out
  exact bodyPost_ret (v := .tuple #[.agg #[.int .i64 0, .int .i64 0, .int .i64 0, .int .i64 0, .string ⟨#[]⟩, .int .i64 0, .int .i64 0, .int .i64 0], .bool false]) (by simp [results, Try.results72, go_sem, d0, d1, d2, d3, d4, d5, d6, d7]) rfl ⟨⟨_, rfl, .inr ⟨HNo.out, rfl⟩⟩, HB.out⟩
 ·have HYes := Lib.hid (HF.out.2.1 rfl)
  have hin : i < n := by rw [← HL.out]; exact HYes.out.1
  have hini : (i : Int) < (n : Int) := by omega
  obtain ⟨b, off, rfl, hb, ho⟩ := HO1.out.2 i hin
  have HOk : Hid (OpAt w1 b (off + i * 8) (atOp l i)) := ho
  clear ho HF
  have HYe : Hid (∃ j, j < l.length ∧ eqN l j x.dev x.seq ∧ atOp l j = atOp l i) := ⟨i, HYes.out.1, HYes.out.2, rfl⟩
  have HRet : Hid (Looked l x (.tuple #[opVal (atOp l i), .bool true])) := .inl ⟨i, HYes.out.1, HYes.out.2, rfl⟩
  clear HYe HYes
  generalize atOp l i = y at HOk HRet
  obtain ⟨a0, a1⟩ := pair_cells HT1.out.fst
  obtain ⟨c0, c1, c2, c3, c4, c5, c6, c7⟩ := HOk.out
  obtain ⟨e0, e1, e2, e3, e4, e5, e6, e7⟩ := op_cells HT1.out.res
  obtain ⟨f0, f1, f2, f3, f4, f5, f6, f7⟩ := op_frozen HT1.out.res
  go_wp2
  have HX := Lib.hid (setOp_same (.int .i64 y.dev) (.int .i64 y.seq) (.int .i64 y.stamp) (.int .i64 y.kind) (.string y.item) (.int .i64 y.qty) (.int .i64 y.level) (.int .i64 y.undos) HT1.out.res)
  have HB := Lib.hid (setOp_below (.int .i64 y.dev) (.int .i64 y.seq) (.int .i64 y.stamp) (.int .i64 y.kind) (.string y.item) (.int .i64 y.qty) (.int .i64 y.level) (.int .i64 y.undos) HT1.out.bel (by show _ ≤ w.heap.size + 1 + 1; omega))
  clear a0 a1 c0 c1 c2 c3 c4 c5 c6 c7 e0 e1 e2 e3 e4 e5 e6 e7 f0 f1 f2 f3 f4 f5 f6 f7
  change bodyPost _ _ _ _ _ (setOp w1 (w.heap.size + 1 + 1) (.int .i64 y.dev) (.int .i64 y.seq) (.int .i64 y.stamp) (.int .i64 y.kind) (.string y.item) (.int .i64 y.qty) (.int .i64 y.level) (.int .i64 y.undos))
  generalize setOp w1 (w.heap.size + 1 + 1) (.int .i64 y.dev) (.int .i64 y.seq) (.int .i64 y.stamp) (.int .i64 y.kind) (.string y.item) (.int .i64 y.qty) (.int .i64 y.level) (.int .i64 y.undos) = wf at HX HB ⊢
  obtain ⟨d0, d1, d2, d3, d4, d5, d6, d7⟩ := op_cells HX.out
  exact bodyPost_ret (v := .tuple #[.agg #[.int .i64 y.dev, .int .i64 y.seq, .int .i64 y.stamp, .int .i64 y.kind, .string y.item, .int .i64 y.qty, .int .i64 y.level, .int .i64 y.undos], .bool true]) (by simp [results, Try.results72, go_sem, d0, d1, d2, d3, d4, d5, d6, d7]) rfl ⟨⟨_, rfl, HRet.out⟩, HB.out⟩

set_option maxHeartbeats 10000000 in
theorem l4At (w : World) (B : Nat) (a : Option Addr) (n c : Nat) (l : List OpV) (dev seq : Int) (h : Ops w B a n l) (hn : n ≤ 1048576) :
  Calls Try.prog 102 #[.slice a n c, .int .i64 dev, .int .i64 seq] w fun e w' => ((∃ i : Nat, i < n ∧ eqN l i dev seq ∧ e = .returned (.int .i64 (i : Int))) ∨ ((∀ j, j < n → ¬ eqN l j dev seq) ∧ e = .returned (.int .i64 (-1)))) ∧ w = w' := by
 have H := Lib.hid h
 clear h
 go_enter Try.func102, Try.ntmps102
 go_wp2
 go_loop [7] (fun i => ∃ k : Nat, k ≤ n ∧ i = .int .i64 (k : Int) ∧ Hid (∀ j, j < k → ¬ eqN l j dev seq)) (fun i => n - (intOf i).toNat)
 case atStart => exact ⟨0, by omega, rfl, fun j hj => absurd hj (by omega)⟩
 case round =>
  obtain ⟨k, hk, rfl, HN⟩ := hrel
  by_cases hlt : k < n
  rotate_left
  ·obtain rfl : k = n := by omega
   go_wp2
   go_ret
   exact ⟨.inr ⟨HN.out, rfl⟩, rfl⟩
  obtain ⟨b, off, rfl, hb, ho⟩ := H.out.2 k hlt
  have hok : OpAt w b (off + k * 8) (atOp l k) := ho
  clear ho
  have HE : Hid (∀ a b, a = (atOp l k).dev → b = (atOp l k).seq → (a = dev ∧ b = seq ↔ eqN l k dev seq)) := fun a b h1 h2 => by subst h1 h2; exact Iff.rfl
  have HS : Hid (¬ eqN l k dev seq → ∀ j, j < k + 1 → ¬ eqN l j dev seq) := fun h j hj => by
   rcases Nat.lt_or_ge j k with h1 | h1
   ·exact HN.out j h1
   ·obtain rfl : j = k := by omega
    exact h
  obtain ⟨c0, c1, c2, c3, c4, c5, c6, c7⟩ := hok
  have HE2 := Lib.hid (HE.out _ _ rfl rfl)
  clear HE
  generalize (atOp l k).dev = xd at c0 HE2
  generalize (atOp l k).seq = xq at c1 HE2
  by_cases h1 : xd = dev
  ·have b1 : (xd == dev) = true := by rw [h1]; exact beq_self_eq_true _
   by_cases h2 : xq = seq
   ·have b2 : (xq == seq) = true := by rw [h2]; exact beq_self_eq_true _
    have HF := Lib.hid (HE2.out.1 ⟨h1, h2⟩)
    clear h1 h2
    go_wp2
    go_ret
    exact ⟨.inl ⟨k, hlt, HF.out, rfl⟩, rfl⟩
   ·have b2 : (xq == seq) = false := by rw [beq_eq_false_iff_ne]; exact h2
    have HF := Lib.hid (HS.out (fun h => h2 (HE2.out.2 h).2))
    clear h1 h2
    go_wp2
    go_round
    case rel => exact ⟨k + 1, by omega, by go_num, HF⟩
    case measure => simp [intOf]; omega
  ·have b1 : (xd == dev) = false := by rw [beq_eq_false_iff_ne]; exact h1
   have HF := Lib.hid (HS.out (fun h => h1 (HE2.out.2 h).1))
   clear h1
   go_wp2
   go_round
   case rel => exact ⟨k + 1, by omega, by go_num, HF⟩
   case measure => simp [intOf]; omega
theorem own_row_kept {w w' : World} {base n : Nat} {v : Value} {xs : List Value} (h : w.ownsRow base 77 8 v n xs) (hb : Below w.heap.size w w') : w'.ownsRow base 77 8 v n xs :=
 h.kept (row := none) ⟨hb.os, hb.tape, hb.output, hb.size, fun j hj _ => hb.block j hj⟩ (by rcases v.ownBlock with _ | g; exact .inl rfl; exact .inr (fun h => by cases h))
theorem opRow_new (w : World) (x : OpV) : ∀ j u, (opRow x)[j]? = some u → (w.alloc (.cells #[.int .i64 x.dev, .int .i64 x.seq, .int .i64 x.stamp, .int .i64 x.kind, .string x.item, .int .i64 x.qty, .int .i64 x.level, .int .i64 x.undos] 77)).cell? ((⟨w.heap.size, 0, none⟩ : Addr).add j) = some u := by
 intro j u hj
 have hjl : j < 8 := by
  rcases Nat.lt_or_ge j 8 with h' | h'
  ·exact h'
  ·rw [List.getElem?_eq_none (by show 8 ≤ j; exact h')] at hj; cases hj
 rw [add_at, Nat.zero_add, cell_of_row _ _ _ _ _ _ (heap_alloc_new w _)]
 obtain rfl | rfl | rfl | rfl | rfl | rfl | rfl | rfl : j = 0 ∨ j = 1 ∨ j = 2 ∨ j = 3 ∨ j = 4 ∨ j = 5 ∨ j = 6 ∨ j = 7 := by omega
 all_goals exact hj
theorem cart_ok_at {xs : List Int} {l : List OpV} (h : cartB xs l = true) {i : Nat} (hi : i < l.length) : (atOp l i).ok = true := by
 obtain ⟨_, _, _, _, e, _⟩ := cart_at h hi
 exact e

def befO (a b : OpV) : Bool := preB a.stamp a.dev a.seq b.stamp b.dev b.seq
end Go.Proofs.Ytdbdmfaphdjdpaa
