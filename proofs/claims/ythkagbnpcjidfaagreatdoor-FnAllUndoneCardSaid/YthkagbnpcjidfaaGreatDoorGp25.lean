/- Walks and mathematics that several claims share, part 25. -/
import Derived.Test.YthkagbnpcjidfaaGreatDoorGp24
import Derived.Test.YthkagbnpcjidfaaGreatDoorGp17
import Derived.Deep.Cut
import Derived.Deep.RegionHeld3
namespace Go.Proofs.YthkagbnpcjidfaaGreatDoor
set_option maxRecDepth 100000
open Go.RowKit
set_option linter.unusedVariables false
set_option linter.unusedSimpArgs false
theorem aGd {w : World} {b : Nat} {v0 v1 v2 v3 v4 v5 v6 v7 : Value} {T : TypeId} {fr : Nat × Nat} (h : w.heap[b]? = some (.cells #[v0, v1, v2, v3, v4, v5, v6, v7] T fr)) : w.cell? ⟨b, 0, none⟩ = some v0 ∧ w.cell? ⟨b, 1, none⟩ = some v1 ∧ w.cell? ⟨b, 2, none⟩ = some v2 ∧ w.cell? ⟨b, 3, none⟩ = some v3 ∧ w.cell? ⟨b, 4, none⟩ = some v4 ∧ w.cell? ⟨b, 5, none⟩ = some v5 ∧ w.cell? ⟨b, 6, none⟩ = some v6 ∧ w.cell? ⟨b, 7, none⟩ = some v7 :=
 ⟨aPx h, aPx h, aPx h, aPx h, aPx h, aPx h, aPx h, aPx h⟩
def mM (l : List aA) (i : Nat) (dev seq : Int) : Prop := (aB l i).dev = dev ∧ (aB l i).seq = seq
theorem pW {xs : List Int} {l : List aA} (h : aD xs l = true) {i : Nat} (hi : i < l.length) : ∃ d : Nat, d < 4 ∧ aL xs d ≤ i ∧ i < aL xs (d + 1) ∧ (aB l i).ok = true ∧ (aB l i).dev = (d : Int) ∧ (aB l i).seq = ((i - aL xs d : Nat) : Int) + 1 := by
 obtain ⟨_, h1, h2⟩ := fX h
 have hd : ∃ d : Nat, d < 4 ∧ aL xs d ≤ i ∧ i < aL xs (d + 1) := by
  by_cases a1 : i < aL xs 1
  ·exact ⟨0, by omega, Nat.zero_le _, a1⟩
  by_cases a2 : i < aL xs 2
  ·exact ⟨1, by omega, by omega, a2⟩
  by_cases a3 : i < aL xs 3
  ·exact ⟨2, by omega, by omega, a3⟩
  ·exact ⟨3, by omega, by omega, by rw [h2]; exact hi⟩
 obtain ⟨d, yQ, iQ, hhi⟩ := hd
 have hb := h1 d yQ
 unfold iF at hb
 rw [Bool.and_eq_true] at hb
 have hr := hb.2
 unfold kR at hr
 rw [List.all_eq_true] at hr
 have es : aL xs (d + 1) = aL xs d + (xs.getD d 0).toNat := rfl
 have hf := hr (i - aL xs d) (by rw [List.mem_range]; omega)
 have e : aL xs d + (i - aL xs d) = i := by omega
 unfold jT at hf
 rw [e] at hf
 simp only [Bool.and_eq_true, decide_eq_true_eq] at hf
 exact ⟨d, yQ, iQ, hhi, hf.1, hf.2.1, hf.2.2.1⟩
theorem pP {xs : List Int} {l : List aA} (h : aD xs l = true) : qF l = true := aKi fun i hi => by
 unfold aCc
 by_cases h0 : i = 0
 ·rw [decide_eq_true h0]; rfl
 obtain ⟨d, hd, a1, a2, _, e1, e2⟩ := pW h hi
 obtain ⟨d', hd', b1, b2, _, f1, f2⟩ := pW h (i := i - 1) (by omega)
 rw [decide_eq_false h0, Bool.false_or, e1, e2, f1, f2]
 unfold numB
 refine decide_eq_true ?_
 rcases Nat.lt_trichotomy d' d with g | g | g
 ·exact .inl (by omega)
 ·subst g
  exact .inr ⟨rfl, by omega⟩
 ·have := hC xs (d + 1) d' (by omega)
  omega
theorem Q1 {a b c d e f : Int} (h1 : numB a b c d = true) (h2 : numB c d e f = true) : numB a b e f = true := by
 unfold numB at *
 have h1 := of_decide_eq_true h1
 have h2 := of_decide_eq_true h2
 exact decide_eq_true (by omega)
theorem aEi {a b : Int} (h : numB a b a b = true) : False := by
 unfold numB at h
 have := of_decide_eq_true h
 omega
theorem aGF {l : List aA} (h : qF l = true) {i : Nat} (hi : i + 1 < l.length) : numB (aB l i).dev (aB l i).seq (aB l (i + 1)).dev (aB l (i + 1)).seq = true := by
 unfold qF at h
 rw [List.all_eq_true] at h
 have := h (i + 1) (by simpa using hi)
 unfold aCc at this
 rw [decide_eq_false (by omega), Bool.false_or] at this
 exact this
theorem E8 {l : List aA} (h : qF l = true) : ∀ j i, i < j → j < l.length → numB (aB l i).dev (aB l i).seq (aB l j).dev (aB l j).seq = true
 | 0, i, hij, _ => by omega
 | j + 1, i, hij, hj => by
  rcases Nat.lt_or_ge i j with h1 | h1
  ·exact Q1 (E8 h j i h1 (by omega)) (aGF h hj)
  ·obtain rfl : i = j := by omega
   exact aGF h hj
theorem I7 {l : List aA} (h : qF l = true) {i j : Nat} {dev seq : Int} (hi : i < l.length) (hj : j < l.length) (e1 : mM l i dev seq) (e2 : mM l j dev seq) : i = j := by
 unfold mM at e1 e2
 rcases Nat.lt_trichotomy i j with g | g | g
 ·have := E8 h j i g hj
  rw [e1.1, e1.2, e2.1, e2.2] at this; exact (aEi this).elim
 ·exact g
 ·have := E8 h i j g hi
  rw [e1.1, e1.2, e2.1, e2.2] at this; exact (aEi this).elim
theorem yG {d q d' q' : Int} : H8 d q d' q' < 0 ↔ numB d q d' q' = true := by rw [aK5]; exact decide_eq_true_iff.symm
theorem aBx {d q d' q' : Int} : H8 d q d' q' = 0 ↔ d = d' ∧ q = q' := by
 unfold H8 P5
 rcases Int.lt_trichotomy d d' with g | g | g
 ·rw [vP g, if_pos (by decide)]; omega
 ·rw [cmp_eq g, if_neg (by decide)]
  rcases Int.lt_trichotomy q q' with k | k | k
  ·rw [vP k]; omega
  ·rw [cmp_eq k]; omega
  ·rw [vQ k]; omega
 ·rw [vQ g, if_pos (by decide)]; omega
def iB (l : List aA) (x : aA) (j : Nat) : Int := H8 (aB l j).dev (aB l j).seq x.dev x.seq
theorem aIy {l : List aA} {x : aA} (h : qF l = true) {m : Nat} (hm : m < l.length) (hc : iB l x m < 0) : ∀ j, j < m + 1 → iB l x j < 0 := fun j hj => by
 rcases Nat.lt_or_ge j m with h1 | h1
 ·exact yG.2 (Q1 (E8 h m j h1 hm) (yG.1 hc))
 ·obtain rfl : j = m := by omega
  exact hc
theorem aLP {l : List aA} {x : aA} (h : qF l = true) {m : Nat} (hc : 0 ≤ iB l x m) : ∀ j, m ≤ j → j < l.length → 0 ≤ iB l x j := fun j hj hl => by
 rcases Nat.lt_or_ge m j with h1 | h1
 ·refine Int.not_lt.1 fun hn => ?_
  have : iB l x m < 0 := yG.2 (Q1 (E8 h j m h1 hl) (yG.1 hn)); omega
 ·obtain rfl : j = m := by omega
  exact hc
theorem aEj {l : List aA} {x : aA} (h : qF l = true) {k : Nat} (h1 : ∀ j, j < k → iB l x j < 0) (h2 : k < l.length → 0 ≤ iB l x k ∧ iB l x k ≠ 0) : ∀ j, j < l.length → ¬ mM l j x.dev x.seq := fun j hj e => by
 have ez : iB l x j = 0 := aBx.2 e
 rcases Nat.lt_trichotomy j k with g | g | g
 ·have := h1 j g; omega
 ·subst g
  exact (h2 hj).2 ez
 ·have aK := E8 h j k g hj
  unfold mM at e; rw [e.1, e.2] at aK; have a1 := (h2 (by omega)).1
  have a2 : iB l x k < 0 := yG.2 aK; omega
def Found (l : List aA) (x : aA) (i : Nat) (b : Bool) : Prop := i ≤ l.length ∧ (b = true → i < l.length ∧ mM l i x.dev x.seq) ∧ (b = false → ∀ j, j < l.length → ¬ mM l j x.dev x.seq)
theorem aGU {l : List aA} {x : aA} (h : qF l = true) (h1 : ∀ j, j < l.length → iB l x j < 0) : Found l x l.length false :=
 ⟨Nat.le_refl _, fun h => (by cases h), fun _ => aEj h h1 (fun h => absurd h (by omega))⟩
theorem aGT {l : List aA} {x : aA} (h : qF l = true) {k : Nat} (hk : k < l.length) (h1 : ∀ j, j < k → iB l x j < 0) (h2 : 0 ≤ iB l x k) : Found l x k (decide (iB l x k = 0)) :=
 ⟨by omega, fun e => ⟨hk, aBx.1 (of_decide_eq_true e)⟩, fun e => aEj h h1 fun _ => ⟨h2, of_decide_eq_false e⟩⟩
set_option linter.unusedSimpArgs false in
set_option maxHeartbeats 20000000 in
theorem aHa (w : World) (B : Nat) (a : Option Addr) (n c : Nat) (l : List aA) (x : aA) (h : bK w B a n l) (hB : B ≤ w.heap.size) (hn : n ≤ 1048576) (aC5 : qF l = true) :
  Calls Tryz.prog 99 #[.slice a n c, .agg #[.int .i64 x.dev, .int .i64 x.seq, .int .i64 x.stamp, .int .i64 x.kind, .string x.item, .int .i64 x.qty, .int .i64 x.level, .int .i64 x.undos], .func (.func 98) #[] #[]] w fun e w' => (∃ (i : Nat) (b : Bool), e = .returned (.tuple #[.int .i64 (i : Int), .bool b]) ∧ Found l x i b) ∧ Below w.heap.size w w' := by
 have bC : Below w.heap.size w (w.alloc (.cells #[.int .i64 x.dev, .int .i64 x.seq, .int .i64 x.stamp, .int .i64 x.kind, .string x.item, .int .i64 x.qty, .int .i64 x.level, .int .i64 x.undos] 50)) := (Below.refl _ w).alloc aPw _
 have HO := aPu (h.below bC hB)
 have HB := aPu bC
 have HX := aPu (bE (Below.refl _ (w.alloc (.cells #[.int .i64 x.dev, .int .i64 x.seq, .int .i64 x.stamp, .int .i64 x.kind, .string x.item, .int .i64 x.qty, .int .i64 x.level, .int .i64 x.undos] 50))))
 have HL := aPu h.1
 have L8 := aPu aC5
 have cP : w.heap.size < (w.alloc (.cells #[.int .i64 x.dev, .int .i64 x.seq, .int .i64 x.stamp, .int .i64 x.kind, .string x.item, .int .i64 x.qty, .int .i64 x.level, .int .i64 x.undos] 50)).heap.size := by show _ < (w.heap.push _).size; simp
 clear h bC aC5
 go_enter Tryz.func99, Tryz.ntmps99
 go_upto_region 1 with fail
 generalize w.alloc (.cells #[.int .i64 x.dev, .int .i64 x.seq, .int .i64 x.stamp, .int .i64 x.kind, .string x.item, .int .i64 x.qty, .int .i64 x.level, .int .i64 x.undos] 50) = w0 at HO HB HX cP ⊢
 go_wp2
 go_loopw [9, 10] (fun s t wr => ∃ lo hi : Nat, lo ≤ hi ∧ hi ≤ n ∧ s = .int .i64 (lo : Int) ∧ t = .int .i64 (hi : Int) ∧ Hid ((∀ j, j < lo → iB l x j < 0) ∧ ∀ j, hi ≤ j → j < n → 0 ≤ iB l x j) ∧ Hid (Below w0.heap.size w0 wr)) (fun s t _ => (intOf t - intOf s).toNat)
 case atStart => exact ⟨0, n, by omega, by omega, rfl, rfl, ⟨fun j hj => absurd hj (by omega), fun j h1 h2 => absurd h1 (by omega)⟩, Below.refl _ _⟩
 case round =>
  obtain ⟨lo, hi, hlh, hhn, rfl, rfl, HR, cS⟩ := hrel; obtain ⟨e0, e1, e2, e3, e4, e5, e6, e7⟩ := aGd ((cS.out.block _ (by omega)).trans HX.out)
  by_cases aK : lo < hi
  ·have hli : (lo : Int) < (hi : Int) := by omega
   obtain ⟨m, hm⟩ : ∃ m, m = (lo + hi) / 2 := ⟨_, rfl⟩; have hmi : ((lo : Int) + (hi : Int)) / 2 = (m : Int) := by omega
   have hmn : m < n := by omega
   have M6 : lo ≤ m ∧ m < hi := by omega
   obtain ⟨aOV, aOU⟩ := M6; clear hm
   go_upto_region 5 with fail
   have aOT : (m : Int) < (n : Int) := by omega
   obtain ⟨b, off, rfl, hb, ho⟩ := HO.out.2 m hmn; have lV : Hid (nI w0 b (off + m * 8) (aB l m)) := ho; clear ho; have HC : Hid (iB l x m = H8 (aB l m).dev (aB l m).seq x.dev x.seq) := rfl; generalize aB l m = y at lV HC; obtain ⟨d0, d1, d2, d3, d4, d5, d6, d7⟩ := lV.out.kept (cS.out.block b (by omega))
   have hS : wr.drew.cell? ⟨b, off + m * 8, none⟩ = some (.int .i64 y.dev) ∧ wr.drew.cell? ⟨b, off + m * 8 + 1, none⟩ = some (.int .i64 y.seq) ∧ wr.drew.cell? ⟨b, off + m * 8 + 2, none⟩ = some (.int .i64 y.stamp) ∧ wr.drew.cell? ⟨b, off + m * 8 + 3, none⟩ = some (.int .i64 y.kind) ∧ wr.drew.cell? ⟨b, off + m * 8 + 4, none⟩ = some (.string y.item) ∧ wr.drew.cell? ⟨b, off + m * 8 + 5, none⟩ = some (.int .i64 y.qty) ∧ wr.drew.cell? ⟨b, off + m * 8 + 6, none⟩ = some (.int .i64 y.level) ∧ wr.drew.cell? ⟨b, off + m * 8 + 7, none⟩ = some (.int .i64 y.undos) ∧ wr.drew.cell? ⟨w.heap.size, 0, none⟩ = some (.int .i64 x.dev) ∧ wr.drew.cell? ⟨w.heap.size, 1, none⟩ = some (.int .i64 x.seq) ∧ wr.drew.cell? ⟨w.heap.size, 2, none⟩ = some (.int .i64 x.stamp) ∧ wr.drew.cell? ⟨w.heap.size, 3, none⟩ = some (.int .i64 x.kind) ∧ wr.drew.cell? ⟨w.heap.size, 4, none⟩ = some (.string x.item) ∧ wr.drew.cell? ⟨w.heap.size, 5, none⟩ = some (.int .i64 x.qty) ∧ wr.drew.cell? ⟨w.heap.size, 6, none⟩ = some (.int .i64 x.level) ∧ wr.drew.cell? ⟨w.heap.size, 7, none⟩ = some (.int .i64 x.undos) := ⟨d0, d1, d2, d3, d4, d5, d6, d7, e0, e1, e2, e3, e4, e5, e6, e7⟩
   go_wp2_with fail
   go_region_held3 (fun w' => w'.cell? ⟨b, off + m * 8, none⟩ = some (.int .i64 y.dev) ∧ w'.cell? ⟨b, off + m * 8 + 1, none⟩ = some (.int .i64 y.seq) ∧ w'.cell? ⟨b, off + m * 8 + 2, none⟩ = some (.int .i64 y.stamp) ∧ w'.cell? ⟨b, off + m * 8 + 3, none⟩ = some (.int .i64 y.kind) ∧ w'.cell? ⟨b, off + m * 8 + 4, none⟩ = some (.string y.item) ∧ w'.cell? ⟨b, off + m * 8 + 5, none⟩ = some (.int .i64 y.qty) ∧ w'.cell? ⟨b, off + m * 8 + 6, none⟩ = some (.int .i64 y.level) ∧ w'.cell? ⟨b, off + m * 8 + 7, none⟩ = some (.int .i64 y.undos) ∧ w'.cell? ⟨w.heap.size, 0, none⟩ = some (.int .i64 x.dev) ∧ w'.cell? ⟨w.heap.size, 1, none⟩ = some (.int .i64 x.seq) ∧ w'.cell? ⟨w.heap.size, 2, none⟩ = some (.int .i64 x.stamp) ∧ w'.cell? ⟨w.heap.size, 3, none⟩ = some (.int .i64 x.kind) ∧ w'.cell? ⟨w.heap.size, 4, none⟩ = some (.string x.item) ∧ w'.cell? ⟨w.heap.size, 5, none⟩ = some (.int .i64 x.qty) ∧ w'.cell? ⟨w.heap.size, 6, none⟩ = some (.int .i64 x.level) ∧ w'.cell? ⟨w.heap.size, 7, none⟩ = some (.int .i64 x.undos)) (first | with_reducible exact hS | with_reducible exact eK)
    (first | (go_at_call 98; refine (aDi y.dev y.seq y.stamp y.kind y.item y.qty y.level y.undos x.dev x.seq x.stamp x.kind x.item x.qty x.level x.undos _).mono ?_; rintro e w2 ⟨rfl, aG⟩; have ⟨q0, q1, q2, q3, q4, q5, q6, q7, q8, q9, yD, yC, yB, yA, xZ, xY⟩ := hS; have eK : w2.cell? ⟨b, off + m * 8, none⟩ = some (.int .i64 y.dev) ∧ w2.cell? ⟨b, off + m * 8 + 1, none⟩ = some (.int .i64 y.seq) ∧ w2.cell? ⟨b, off + m * 8 + 2, none⟩ = some (.int .i64 y.stamp) ∧ w2.cell? ⟨b, off + m * 8 + 3, none⟩ = some (.int .i64 y.kind) ∧ w2.cell? ⟨b, off + m * 8 + 4, none⟩ = some (.string y.item) ∧ w2.cell? ⟨b, off + m * 8 + 5, none⟩ = some (.int .i64 y.qty) ∧ w2.cell? ⟨b, off + m * 8 + 6, none⟩ = some (.int .i64 y.level) ∧ w2.cell? ⟨b, off + m * 8 + 7, none⟩ = some (.int .i64 y.undos) ∧ w2.cell? ⟨w.heap.size, 0, none⟩ = some (.int .i64 x.dev) ∧ w2.cell? ⟨w.heap.size, 1, none⟩ = some (.int .i64 x.seq) ∧ w2.cell? ⟨w.heap.size, 2, none⟩ = some (.int .i64 x.stamp) ∧ w2.cell? ⟨w.heap.size, 3, none⟩ = some (.int .i64 x.kind) ∧ w2.cell? ⟨w.heap.size, 4, none⟩ = some (.string x.item) ∧ w2.cell? ⟨w.heap.size, 5, none⟩ = some (.int .i64 x.qty) ∧ w2.cell? ⟨w.heap.size, 6, none⟩ = some (.int .i64 x.level) ∧ w2.cell? ⟨w.heap.size, 7, none⟩ = some (.int .i64 x.undos) := ⟨(aG.cell (block_lt_of_cell q0)).trans q0, (aG.cell (block_lt_of_cell q1)).trans q1, (aG.cell (block_lt_of_cell q2)).trans q2, (aG.cell (block_lt_of_cell q3)).trans q3, (aG.cell (block_lt_of_cell q4)).trans q4, (aG.cell (block_lt_of_cell q5)).trans q5, (aG.cell (block_lt_of_cell q6)).trans q6, (aG.cell (block_lt_of_cell q7)).trans q7, (aG.cell (block_lt_of_cell q8)).trans q8, (aG.cell (block_lt_of_cell q9)).trans q9, (aG.cell (block_lt_of_cell yD)).trans yD, (aG.cell (block_lt_of_cell yC)).trans yC, (aG.cell (block_lt_of_cell yB)).trans yB, (aG.cell (block_lt_of_cell yA)).trans yA, (aG.cell (block_lt_of_cell xZ)).trans xZ, (aG.cell (block_lt_of_cell xY)).trans xY⟩; clear q0 q1 q2 q3 q4 q5 q6 q7 q8 q9 yD yC yB yA xZ xY))
   have bP := aPu (cS.out.trans ((Below.mk aG.os aG.tape aG.output aG.size aG.block : Below wr.heap.size wr w2).mono cS.out.size)); clear hS eK aG d0 d1 d2 d3 d4 d5 d6 d7 e0 e1 e2 e3 e4 e5 e6 e7; have HDn := aPu (fun hc => aIy (x := x) L8.out (m := m) (by rw [HL.out]; exact hmn) hc)
   have HUp := aPu (fun hc => aLP (x := x) L8.out (m := m) hc)
   rw [← HC.out]; generalize iB l x m = cm at HDn HUp ⊢
   by_cases hc : cm < 0
   ·have zF : Hid ((∀ j, j < m + 1 → iB l x j < 0) ∧ ∀ j, hi ≤ j → j < n → 0 ≤ iB l x j) := ⟨HDn.out hc, HR.out.2⟩
    go_wp2
    go_roundw
    case rel => exact ⟨m + 1, hi, by omega, by omega, by go_num, rfl, zF, bP⟩
    case measure => simp [intOf]; omega
   ·have zF : Hid ((∀ j, j < lo → iB l x j < 0) ∧ ∀ j, m ≤ j → j < n → 0 ≤ iB l x j) := ⟨HR.out.1, fun j h1 h2 => HUp.out (by omega) j h1 (by rw [HL.out]; exact h2)⟩
    go_wp2
    go_roundw
    case rel => exact ⟨lo, m, by omega, by omega, rfl, by go_num, zF, bP⟩
    case measure => simp [intOf]; omega
  obtain rfl : lo = hi := by omega
  have oK : ¬ (lo : Int) < (lo : Int) := by omega
  clear aK
  by_cases aIi : lo < n
  ·have hei : (lo : Int) < (n : Int) := by omega
   have HFo := aPu (aGT (x := x) L8.out (k := lo) (by rw [HL.out]; exact aIi) HR.out.1 (HR.out.2 lo aPw aIi))
   obtain ⟨b, off, rfl, hb, ho⟩ := HO.out.2 lo aIi; have lV : Hid (nI w0 b (off + lo * 8) (aB l lo)) := ho; clear ho; have HC : Hid (iB l x lo = H8 (aB l lo).dev (aB l lo).seq x.dev x.seq) := rfl; generalize aB l lo = y at lV HC; obtain ⟨d0, d1, d2, d3, d4, d5, d6, d7⟩ := lV.out.kept (cS.out.block b (by omega))
   have hS : wr.drew.cell? ⟨b, off + lo * 8, none⟩ = some (.int .i64 y.dev) ∧ wr.drew.cell? ⟨b, off + lo * 8 + 1, none⟩ = some (.int .i64 y.seq) ∧ wr.drew.cell? ⟨b, off + lo * 8 + 2, none⟩ = some (.int .i64 y.stamp) ∧ wr.drew.cell? ⟨b, off + lo * 8 + 3, none⟩ = some (.int .i64 y.kind) ∧ wr.drew.cell? ⟨b, off + lo * 8 + 4, none⟩ = some (.string y.item) ∧ wr.drew.cell? ⟨b, off + lo * 8 + 5, none⟩ = some (.int .i64 y.qty) ∧ wr.drew.cell? ⟨b, off + lo * 8 + 6, none⟩ = some (.int .i64 y.level) ∧ wr.drew.cell? ⟨b, off + lo * 8 + 7, none⟩ = some (.int .i64 y.undos) ∧ wr.drew.cell? ⟨w.heap.size, 0, none⟩ = some (.int .i64 x.dev) ∧ wr.drew.cell? ⟨w.heap.size, 1, none⟩ = some (.int .i64 x.seq) ∧ wr.drew.cell? ⟨w.heap.size, 2, none⟩ = some (.int .i64 x.stamp) ∧ wr.drew.cell? ⟨w.heap.size, 3, none⟩ = some (.int .i64 x.kind) ∧ wr.drew.cell? ⟨w.heap.size, 4, none⟩ = some (.string x.item) ∧ wr.drew.cell? ⟨w.heap.size, 5, none⟩ = some (.int .i64 x.qty) ∧ wr.drew.cell? ⟨w.heap.size, 6, none⟩ = some (.int .i64 x.level) ∧ wr.drew.cell? ⟨w.heap.size, 7, none⟩ = some (.int .i64 x.undos) := ⟨d0, d1, d2, d3, d4, d5, d6, d7, e0, e1, e2, e3, e4, e5, e6, e7⟩
   go_wp2_with fail
   refine wp_region_held_drew (S := fun w' => w'.cell? ⟨b, off + lo * 8, none⟩ = some (.int .i64 y.dev) ∧ w'.cell? ⟨b, off + lo * 8 + 1, none⟩ = some (.int .i64 y.seq) ∧ w'.cell? ⟨b, off + lo * 8 + 2, none⟩ = some (.int .i64 y.stamp) ∧ w'.cell? ⟨b, off + lo * 8 + 3, none⟩ = some (.int .i64 y.kind) ∧ w'.cell? ⟨b, off + lo * 8 + 4, none⟩ = some (.string y.item) ∧ w'.cell? ⟨b, off + lo * 8 + 5, none⟩ = some (.int .i64 y.qty) ∧ w'.cell? ⟨b, off + lo * 8 + 6, none⟩ = some (.int .i64 y.level) ∧ w'.cell? ⟨b, off + lo * 8 + 7, none⟩ = some (.int .i64 y.undos) ∧ w'.cell? ⟨w.heap.size, 0, none⟩ = some (.int .i64 x.dev) ∧ w'.cell? ⟨w.heap.size, 1, none⟩ = some (.int .i64 x.seq) ∧ w'.cell? ⟨w.heap.size, 2, none⟩ = some (.int .i64 x.stamp) ∧ w'.cell? ⟨w.heap.size, 3, none⟩ = some (.int .i64 x.kind) ∧ w'.cell? ⟨w.heap.size, 4, none⟩ = some (.string x.item) ∧ w'.cell? ⟨w.heap.size, 5, none⟩ = some (.int .i64 x.qty) ∧ w'.cell? ⟨w.heap.size, 6, none⟩ = some (.int .i64 x.level) ∧ w'.cell? ⟨w.heap.size, 7, none⟩ = some (.int .i64 x.undos)) (by kernel_rfl) hS (fun aP => ?_)
   refine tk 0 ⟨some 35, .move (.tmp 9), 3, "sort.go:167", #[], none⟩ ?_
   (try simp only [Act.put, u1, u2, u3])
   refine tk 1 ⟨some 36, .move (.tmp 9), 3, "sort.go:167", #[], none⟩ ?_
   (try simp only [Act.put, u1, u2, u3])
   refine tk 2 ⟨some 37, .move (.tmp 8), 3, "sort.go:167", #[], none⟩ ?_
   (try simp only [Act.put, u1, u2, u3])
   refine tk 3 ⟨some 38, .binOp .lss 3 (.tmp 36) (.tmp 37) 3, 4, "sort.go:167", #[⟨1, .data⟩, ⟨2, .data⟩], none⟩ ?_
   (try simp only [Act.put, u1, u2, u3])
   refine tk 4 ⟨some 39, .move (.tmp 38), 4, "sort.go:167", #[⟨3, .data⟩], none⟩ ?_
   (try simp only [Act.put, u1, u2, u3])
   refine tk 5 ⟨some 40, .move (.tmp 2), 100, "sort.go:167", #[⟨4, .guard⟩], some (4, true)⟩ ?_
   (try simp only [Act.put, u1, u2, u3])
   refine tk 6 ⟨some 41, .move (.tmp 0), 25, "sort.go:167", #[⟨4, .guard⟩], some (4, true)⟩ ?_
   (try simp only [Act.put, u1, u2, u3])
   refine tk 7 ⟨some 42, .move (.tmp 9), 3, "sort.go:167", #[⟨4, .guard⟩], some (4, true)⟩ ?_
   (try simp only [Act.put, u1, u2, u3])
   refine tk 8 ⟨some 43, .indexAddr 25 (.tmp 41) (.tmp 42), 0, "sort.go:167", #[⟨6, .data⟩, ⟨7, .data⟩, ⟨4, .guard⟩], some (4, true)⟩ ?_
   (try simp only [Act.put, u1, u2, u3])
   refine tk 9 ⟨some 44, .load 50 (.tmp 43), 50, "sort.go:167", #[⟨8, .data⟩, ⟨4, .guard⟩], some (4, true)⟩ ?_
   (try simp only [Act.put, u1, u2, u3])
   refine tk 10 ⟨some 45, .load 50 (.tmp 4), 50, "sort.go:167", #[⟨4, .guard⟩], some (4, true)⟩ ?_
   (try simp only [Act.put, u1, u2, u3])
   refine rk 11 rfl (fun K hK => ?_)
   go_simp
   go_at_call 98
   refine (aDi y.dev y.seq y.stamp y.kind y.item y.qty y.level y.undos x.dev x.seq x.stamp x.kind x.item x.qty x.level x.undos _).mono ?_
   rintro e w2 ⟨rfl, aG⟩; rw [← HC.out]; have eK : w2.cell? ⟨b, off + lo * 8, none⟩ = some (.int .i64 y.dev) ∧ w2.cell? ⟨b, off + lo * 8 + 1, none⟩ = some (.int .i64 y.seq) ∧ w2.cell? ⟨b, off + lo * 8 + 2, none⟩ = some (.int .i64 y.stamp) ∧ w2.cell? ⟨b, off + lo * 8 + 3, none⟩ = some (.int .i64 y.kind) ∧ w2.cell? ⟨b, off + lo * 8 + 4, none⟩ = some (.string y.item) ∧ w2.cell? ⟨b, off + lo * 8 + 5, none⟩ = some (.int .i64 y.qty) ∧ w2.cell? ⟨b, off + lo * 8 + 6, none⟩ = some (.int .i64 y.level) ∧ w2.cell? ⟨b, off + lo * 8 + 7, none⟩ = some (.int .i64 y.undos) ∧ w2.cell? ⟨w.heap.size, 0, none⟩ = some (.int .i64 x.dev) ∧ w2.cell? ⟨w.heap.size, 1, none⟩ = some (.int .i64 x.seq) ∧ w2.cell? ⟨w.heap.size, 2, none⟩ = some (.int .i64 x.stamp) ∧ w2.cell? ⟨w.heap.size, 3, none⟩ = some (.int .i64 x.kind) ∧ w2.cell? ⟨w.heap.size, 4, none⟩ = some (.string x.item) ∧ w2.cell? ⟨w.heap.size, 5, none⟩ = some (.int .i64 x.qty) ∧ w2.cell? ⟨w.heap.size, 6, none⟩ = some (.int .i64 x.level) ∧ w2.cell? ⟨w.heap.size, 7, none⟩ = some (.int .i64 x.undos) := by
     obtain ⟨q0, q1, q2, q3, q4, q5, q6, q7, q8, q9, yD, yC, yB, yA, xZ, xY⟩ := hS; exact ⟨(aG.cell (block_lt_of_cell q0)).trans q0, (aG.cell (block_lt_of_cell q1)).trans q1, (aG.cell (block_lt_of_cell q2)).trans q2, (aG.cell (block_lt_of_cell q3)).trans q3, (aG.cell (block_lt_of_cell q4)).trans q4, (aG.cell (block_lt_of_cell q5)).trans q5, (aG.cell (block_lt_of_cell q6)).trans q6, (aG.cell (block_lt_of_cell q7)).trans q7, (aG.cell (block_lt_of_cell q8)).trans q8, (aG.cell (block_lt_of_cell q9)).trans q9, (aG.cell (block_lt_of_cell yD)).trans yD, (aG.cell (block_lt_of_cell yC)).trans yC, (aG.cell (block_lt_of_cell yB)).trans yB, (aG.cell (block_lt_of_cell yA)).trans yA, (aG.cell (block_lt_of_cell xZ)).trans xZ, (aG.cell (block_lt_of_cell xY)).trans xY⟩
   refine hK.out _ _ eK (fun bG => ?_)
   clear hK K
   (try simp only [Act.put, u1, u2, u3])
   have bP := aPu (cS.out.trans ((Below.mk aG.os aG.tape aG.output aG.size aG.block : Below wr.heap.size wr w2).mono cS.out.size)); generalize iB l x lo = cm at HFo HC ⊢; have hcz : (cm == 0) = decide (cm = 0) := by by_cases h : cm = 0 <;> simp [h]
   refine tk 12 ⟨some 47, .binOp .eql 3 (.tmp 46) (.const (.int .i64 0)) 3, 4, "sort.go:167", #[⟨11, .data⟩, ⟨4, .guard⟩, { on := 14, ground := Ground.gcOnly Departure.lateStores }], some (4, true)⟩ ?_
   (try simp only [Act.put, u1, u2, u3])
   refine tk 13 ⟨some 48, .pick (.tmp 39) (.tmp 47) (.const (.bool false)), 4, "sort.go:167", #[⟨4, .data⟩, ⟨12, .data⟩, { on := 14, ground := Ground.gcOnly Departure.lateStores }], none⟩ ?_
   (try simp only [Act.put, u1, u2, u3])
   refine tk 14 ⟨some 6, .assign (.tmp 35), 3, "sort.go:167", #[⟨0, .data⟩, ⟨11, .chain⟩, ⟨0, .phase⟩, { on := 1, ground := Ground.textOnly Departure.lateStores }, { on := 2, ground := Ground.textOnly Departure.lateStores }, { on := 3, ground := Ground.textOnly Departure.lateStores }, { on := 4, ground := Ground.textOnly Departure.lateStores }, { on := 5, ground := Ground.textOnly Departure.lateStores }, { on := 6, ground := Ground.textOnly Departure.lateStores }, { on := 7, ground := Ground.textOnly Departure.lateStores }, { on := 8, ground := Ground.textOnly Departure.lateStores }, { on := 9, ground := Ground.textOnly Departure.lateStores }, { on := 10, ground := Ground.textOnly Departure.lateStores }, { on := 11, ground := Ground.textOnly Departure.lateStoresUnsure }, { on := 12, ground := Ground.textOnly Departure.lateStores }, { on := 13, ground := Ground.textOnly Departure.lateStores }], none⟩ ?_
   (try simp only [Act.put, u1, u2, u3])
   refine tk 15 ⟨some 7, .assign (.tmp 48), 4, "sort.go:167", #[⟨13, .data⟩, ⟨14, .chain⟩, ⟨0, .phase⟩, ⟨1, .phase⟩, ⟨2, .phase⟩, ⟨3, .phase⟩, ⟨4, .phase⟩, ⟨5, .phase⟩, ⟨6, .phase⟩, ⟨7, .phase⟩, ⟨8, .phase⟩, ⟨9, .phase⟩, ⟨10, .phase⟩, ⟨11, .phase⟩, ⟨12, .phase⟩, ⟨13, .phase⟩, ⟨14, .phase⟩], none⟩ ?_
   (try simp only [Act.put, u1, u2, u3])
   refine wpAnyH_done (by kernel_rfl) ?_ _
   clear hS eK aG aP bG d0 d1 d2 d3 d4 d5 d6 d7 e0 e1 e2 e3 e4 e5 e6 e7 hcz; go_wp2
   go_ret2
   exact ⟨⟨lo, _, rfl, HFo.out⟩, HB.out.trans (bP.out.mono HB.out.size)⟩
  ·obtain rfl : lo = n := by omega
   have hei : decide ((lo : Int) < (lo : Int)) = false := decide_eq_false (by omega)
   have HFo : Hid (Found l x lo false) := by have := aGU (x := x) L8.out (fun j hj => HR.out.1 j (by rw [← HL.out]; exact hj)); rw [HL.out] at this; exact this
   have hS : wr.drew.cell? ⟨w.heap.size, 0, none⟩ = some (.int .i64 x.dev) ∧ wr.drew.cell? ⟨w.heap.size, 1, none⟩ = some (.int .i64 x.seq) ∧ wr.drew.cell? ⟨w.heap.size, 2, none⟩ = some (.int .i64 x.stamp) ∧ wr.drew.cell? ⟨w.heap.size, 3, none⟩ = some (.int .i64 x.kind) ∧ wr.drew.cell? ⟨w.heap.size, 4, none⟩ = some (.string x.item) ∧ wr.drew.cell? ⟨w.heap.size, 5, none⟩ = some (.int .i64 x.qty) ∧ wr.drew.cell? ⟨w.heap.size, 6, none⟩ = some (.int .i64 x.level) ∧ wr.drew.cell? ⟨w.heap.size, 7, none⟩ = some (.int .i64 x.undos) := ⟨e0, e1, e2, e3, e4, e5, e6, e7⟩
   go_wp2_with fail
   refine wp_region_held_drew (S := fun w' => w'.cell? ⟨w.heap.size, 0, none⟩ = some (.int .i64 x.dev) ∧ w'.cell? ⟨w.heap.size, 1, none⟩ = some (.int .i64 x.seq) ∧ w'.cell? ⟨w.heap.size, 2, none⟩ = some (.int .i64 x.stamp) ∧ w'.cell? ⟨w.heap.size, 3, none⟩ = some (.int .i64 x.kind) ∧ w'.cell? ⟨w.heap.size, 4, none⟩ = some (.string x.item) ∧ w'.cell? ⟨w.heap.size, 5, none⟩ = some (.int .i64 x.qty) ∧ w'.cell? ⟨w.heap.size, 6, none⟩ = some (.int .i64 x.level) ∧ w'.cell? ⟨w.heap.size, 7, none⟩ = some (.int .i64 x.undos)) (by kernel_rfl) hS (fun aP => ?_)
   refine tk 0 ⟨some 35, .move (.tmp 9), 3, "sort.go:167", #[], none⟩ ?_
   (try simp only [Act.put, u1, u2, u3])
   refine tk 1 ⟨some 36, .move (.tmp 9), 3, "sort.go:167", #[], none⟩ ?_
   (try simp only [Act.put, u1, u2, u3])
   refine tk 2 ⟨some 37, .move (.tmp 8), 3, "sort.go:167", #[], none⟩ ?_
   (try simp only [Act.put, u1, u2, u3])
   refine tk 3 ⟨some 38, .binOp .lss 3 (.tmp 36) (.tmp 37) 3, 4, "sort.go:167", #[⟨1, .data⟩, ⟨2, .data⟩], none⟩ ?_
   (try simp only [Act.put, u1, u2, u3])
   refine tk 4 ⟨some 39, .move (.tmp 38), 4, "sort.go:167", #[⟨3, .data⟩], none⟩ ?_
   (try simp only [Act.put, u1, u2, u3])
   refine sk 5 ⟨some 40, .move (.tmp 2), 100, "sort.go:167", #[⟨4, .guard⟩], some (4, true)⟩ ?_
   (try simp only [Act.put, u1, u2, u3])
   refine sk 6 ⟨some 41, .move (.tmp 0), 25, "sort.go:167", #[⟨4, .guard⟩], some (4, true)⟩ ?_
   (try simp only [Act.put, u1, u2, u3])
   refine sk 7 ⟨some 42, .move (.tmp 9), 3, "sort.go:167", #[⟨4, .guard⟩], some (4, true)⟩ ?_
   (try simp only [Act.put, u1, u2, u3])
   refine sk 8 ⟨some 43, .indexAddr 25 (.tmp 41) (.tmp 42), 0, "sort.go:167", #[⟨6, .data⟩, ⟨7, .data⟩, ⟨4, .guard⟩], some (4, true)⟩ ?_
   (try simp only [Act.put, u1, u2, u3])
   refine sk 9 ⟨some 44, .load 50 (.tmp 43), 50, "sort.go:167", #[⟨8, .data⟩, ⟨4, .guard⟩], some (4, true)⟩ ?_
   (try simp only [Act.put, u1, u2, u3])
   refine sk 10 ⟨some 45, .load 50 (.tmp 4), 50, "sort.go:167", #[⟨4, .guard⟩], some (4, true)⟩ ?_
   (try simp only [Act.put, u1, u2, u3])
   refine sk 11 ⟨some 46, .call { callee := .value (.tmp 40), args := #[.tmp 44, .tmp 45], argTypes := #[50, 50] }, 3, "sort.go:167", #[⟨5, .data⟩, ⟨9, .data⟩, ⟨10, .data⟩, ⟨4, .chain⟩, ⟨4, .guard⟩], some (4, true)⟩ ?_
   (try simp only [Act.put, u1, u2, u3])
   refine sk 12 ⟨some 47, .binOp .eql 3 (.tmp 46) (.const (.int .i64 0)) 3, 4, "sort.go:167", #[⟨11, .data⟩, ⟨4, .guard⟩, { on := 14, ground := Ground.gcOnly Departure.lateStores }], some (4, true)⟩ ?_
   (try simp only [Act.put, u1, u2, u3])
   refine tk 13 ⟨some 48, .pick (.tmp 39) (.tmp 47) (.const (.bool false)), 4, "sort.go:167", #[⟨4, .data⟩, ⟨12, .data⟩, { on := 14, ground := Ground.gcOnly Departure.lateStores }], none⟩ ?_
   (try simp only [Act.put, u1, u2, u3])
   refine tk 14 ⟨some 6, .assign (.tmp 35), 3, "sort.go:167", #[⟨0, .data⟩, ⟨11, .chain⟩, ⟨0, .phase⟩, { on := 1, ground := Ground.textOnly Departure.lateStores }, { on := 2, ground := Ground.textOnly Departure.lateStores }, { on := 3, ground := Ground.textOnly Departure.lateStores }, { on := 4, ground := Ground.textOnly Departure.lateStores }, { on := 5, ground := Ground.textOnly Departure.lateStores }, { on := 6, ground := Ground.textOnly Departure.lateStores }, { on := 7, ground := Ground.textOnly Departure.lateStores }, { on := 8, ground := Ground.textOnly Departure.lateStores }, { on := 9, ground := Ground.textOnly Departure.lateStores }, { on := 10, ground := Ground.textOnly Departure.lateStores }, { on := 11, ground := Ground.textOnly Departure.lateStoresUnsure }, { on := 12, ground := Ground.textOnly Departure.lateStores }, { on := 13, ground := Ground.textOnly Departure.lateStores }], none⟩ ?_
   (try simp only [Act.put, u1, u2, u3])
   refine tk 15 ⟨some 7, .assign (.tmp 48), 4, "sort.go:167", #[⟨13, .data⟩, ⟨14, .chain⟩, ⟨0, .phase⟩, ⟨1, .phase⟩, ⟨2, .phase⟩, ⟨3, .phase⟩, ⟨4, .phase⟩, ⟨5, .phase⟩, ⟨6, .phase⟩, ⟨7, .phase⟩, ⟨8, .phase⟩, ⟨9, .phase⟩, ⟨10, .phase⟩, ⟨11, .phase⟩, ⟨12, .phase⟩, ⟨13, .phase⟩, ⟨14, .phase⟩], none⟩ ?_
   (try simp only [Act.put, u1, u2, u3])
   refine wpAnyH_done (by kernel_rfl) ?_ _
   clear hS aP e0 e1 e2 e3 e4 e5 e6 e7; go_wp2
   go_ret2
   exact ⟨⟨lo, false, rfl, HFo.out⟩, HB.out.trans ((Below.mk cS.out.os cS.out.tape cS.out.output cS.out.size cS.out.block : Below w0.heap.size w0 wr.drew).mono HB.out.size)⟩
def wY (x : aA) : Value := .agg #[.int .i64 x.dev, .int .i64 x.seq, .int .i64 x.stamp, .int .i64 x.kind, .string x.item, .int .i64 x.qty, .int .i64 x.level, .int .i64 x.undos]
def aHf (l : List aA) (x : aA) (v : Value) : Prop := (∃ i, i < l.length ∧ mM l i x.dev x.seq ∧ v = .tuple #[wY (aB l i), .bool true]) ∨ ((∀ j, j < l.length → ¬ mM l j x.dev x.seq) ∧ v = .tuple #[.agg #[.int .i64 0, .int .i64 0, .int .i64 0, .int .i64 0, .string ⟨#[]⟩, .int .i64 0, .int .i64 0, .int .i64 0], .bool false])
structure tR (w w1 : World) (x y z : Array Value) (S T U : TypeId) : Prop where
 fst : w1.heap[w.heap.size]? = some (.cells x S (0, 0))
 snd : w1.heap[w.heap.size + 1]? = some (.cells y T (0, 0))
 res : w1.heap[w.heap.size + 1 + 1]? = some (.cells z U (0, 0))
 bel : Below w.heap.size w w1
theorem tR.mk0 (w : World) (x y z : Array Value) (S T U : TypeId) : tR w (((w.alloc (.cells x S)).alloc (.cells y T)).alloc (.cells z U)) x y z S T U := by
 have e1 : (w.alloc (.cells x S)).heap.size = w.heap.size + 1 := by simp
 have e2 : ((w.alloc (.cells x S)).alloc (.cells y T)).heap.size = w.heap.size + 1 + 1 := by simp
 refine ⟨?_, ?_, ?_, (((Below.refl _ w).alloc aPw _).alloc (by simp) _).alloc (by simp; omega) _⟩
 ·rw [Below.heap_alloc _ _ _ (by omega), Below.heap_alloc _ _ _ (by omega)]
  exact heap_alloc_new w _
 ·rw [Below.heap_alloc _ _ _ (by omega), ← e1]
  exact heap_alloc_new _ _
 ·rw [← e2]
  exact heap_alloc_new _ _
theorem tR.next {w w1 w2 : World} {x y z : Array Value} {S T U : TypeId} (h : tR w w1 x y z S T U) (hb : Below w1.heap.size w1 w2) : tR w w2 x y z S T U :=
 ⟨(hb.block _ (aPv h.fst).1).trans h.fst, (hb.block _ (aPv h.snd).1).trans h.snd, (hb.block _ (aPv h.res).1).trans h.res, h.bel.trans (hb.mono h.bel.size)⟩
set_option maxHeartbeats 20000000 in
theorem aD2 (w : World) (B : Nat) (a : Option Addr) (n c : Nat) (l : List aA) (x : aA) (h : bK w B a n l) (hB : B ≤ w.heap.size) (hn : n ≤ 1048576) (aC5 : qF l = true) :
  Calls Tryz.prog 68 #[.agg #[.slice a n c, .func (.func 98) #[] #[]], .agg #[.int .i64 x.dev, .int .i64 x.seq, .int .i64 x.stamp, .int .i64 x.kind, .string x.item, .int .i64 x.qty, .int .i64 x.level, .int .i64 x.undos]] w fun e w' => (∃ v, e = .returned v ∧ aHf l x v) ∧ Below w.heap.size w w' := by
 have HT := aPu (tR.mk0 w #[.slice a n c, .func (.func 98) #[] #[]] #[.int .i64 x.dev, .int .i64 x.seq, .int .i64 x.stamp, .int .i64 x.kind, .string x.item, .int .i64 x.qty, .int .i64 x.level, .int .i64 x.undos] #[.int .i64 0, .int .i64 0, .int .i64 0, .int .i64 0, .string ⟨#[]⟩, .int .i64 0, .int .i64 0, .int .i64 0] 102 50 50)
 have HO := aPu (h.below HT.out.bel hB)
 have HL := aPu h.1
 have L8 := aPu aC5
 clear aC5 h
 go_enter Tryz.func68, Tryz.ntmps68
 go_wp2_with fail
 generalize ((w.alloc (.cells #[.slice a n c, .func (.func 98) #[] #[]] 102)).alloc (.cells #[.int .i64 x.dev, .int .i64 x.seq, .int .i64 x.stamp, .int .i64 x.kind, .string x.item, .int .i64 x.qty, .int .i64 x.level, .int .i64 x.undos] 50)).alloc (.cells #[.int .i64 0, .int .i64 0, .int .i64 0, .int .i64 0, .string ⟨#[]⟩, .int .i64 0, .int .i64 0, .int .i64 0] 50) = w0 at HT HO ⊢
 have lQ := HT.out.bel.size
 have aO4 := (aPv HT.out.res).1
 refine (aHa w0 B a n c l x HO.out (by omega) hn L8.out).mono ?_
 rintro e w1 ⟨⟨i, b, rfl, hfo⟩, aE⟩
 have HF := aPu hfo
 have aT := aPu (HT.out.next aE)
 have cI := aPu (HO.out.below aE (by omega))
 have dZ := aE.size
 clear hfo aE HT HO
 cases b
 ·have sJ := aPu (HF.out.2.2 rfl)
  go_upto_region 4 with fail
  have aG : Below w1.heap.size w1 (w1.alloc (.cells #[.int .i64 0, .int .i64 0, .int .i64 0, .int .i64 0, .string ⟨#[]⟩, .int .i64 0, .int .i64 0, .int .i64 0] 50)) := bl; have HZ := aPu (bE (Below.refl _ (w1.alloc (.cells #[.int .i64 0, .int .i64 0, .int .i64 0, .int .i64 0, .string ⟨#[]⟩, .int .i64 0, .int .i64 0, .int .i64 0] 50)))); have aJ := aPu (aT.out.next aG); generalize w1.alloc (.cells #[.int .i64 0, .int .i64 0, .int .i64 0, .int .i64 0, .string ⟨#[]⟩, .int .i64 0, .int .i64 0, .int .i64 0] 50) = w2 at aG HZ aJ ⊢; generalize w1.heap.size = nz at HZ ⊢; clear aG aT cI; obtain ⟨c0, c1, c2, c3, c4, c5, c6, c7⟩ := aM HZ.out; obtain ⟨e0, e1, e2, e3, e4, e5, e6, e7⟩ := aM aJ.out.res; obtain ⟨f0, f1, f2, f3, f4, f5, f6, f7⟩ := cL aJ.out.res; go_wp2
  have HX := aPu (gU (.int .i64 0) (.int .i64 0) (.int .i64 0) (.int .i64 0) (.string ⟨#[]⟩) (.int .i64 0) (.int .i64 0) (.int .i64 0) aJ.out.res); have HB := aPu (gA (.int .i64 0) (.int .i64 0) (.int .i64 0) (.int .i64 0) (.string ⟨#[]⟩) (.int .i64 0) (.int .i64 0) (.int .i64 0) aJ.out.bel (by show _ ≤ w.heap.size + 1 + 1; omega))
  clear c0 c1 c2 c3 c4 c5 c6 c7 e0 e1 e2 e3 e4 e5 e6 e7 f0 f1 f2 f3 f4 f5 f6 f7
  change bodyPost _ _ _ _ _ (bF w2 (w.heap.size + 1 + 1) (.int .i64 0) (.int .i64 0) (.int .i64 0) (.int .i64 0) (.string ⟨#[]⟩) (.int .i64 0) (.int .i64 0) (.int .i64 0))
  generalize bF w2 (w.heap.size + 1 + 1) (.int .i64 0) (.int .i64 0) (.int .i64 0) (.int .i64 0) (.string ⟨#[]⟩) (.int .i64 0) (.int .i64 0) (.int .i64 0) = wf at HX HB ⊢; obtain ⟨d0, d1, d2, d3, d4, d5, d6, d7⟩ := aM HX.out; exact bodyPost_ret (v := .tuple #[.agg #[.int .i64 0, .int .i64 0, .int .i64 0, .int .i64 0, .string ⟨#[]⟩, .int .i64 0, .int .i64 0, .int .i64 0], .bool false]) (by simp [results, Tryz.results68, go_sem, d0, d1, d2, d3, d4, d5, d6, d7]) rfl ⟨⟨_, rfl, .inr ⟨sJ.out, rfl⟩⟩, HB.out⟩
 ·have K8 := aPu (HF.out.2.1 rfl)
  have hin : i < n := by rw [← HL.out]; exact K8.out.1
  have aO9 : (i : Int) < (n : Int) := by omega
  obtain ⟨b, off, rfl, hb, ho⟩ := cI.out.2 i hin; have lV : Hid (nI w1 b (off + i * 8) (aB l i)) := ho; clear ho HF; have HYe : Hid (∃ j, j < l.length ∧ mM l j x.dev x.seq ∧ aB l j = aB l i) := ⟨i, K8.out.1, K8.out.2, rfl⟩; have aMg : Hid (aHf l x (.tuple #[wY (aB l i), .bool true])) := .inl ⟨i, K8.out.1, K8.out.2, rfl⟩; clear HYe K8; generalize aB l i = y at lV aMg; obtain ⟨a0, a1⟩ := pair_cells aT.out.fst; obtain ⟨c0, c1, c2, c3, c4, c5, c6, c7⟩ := lV.out; obtain ⟨e0, e1, e2, e3, e4, e5, e6, e7⟩ := aM aT.out.res; obtain ⟨f0, f1, f2, f3, f4, f5, f6, f7⟩ := cL aT.out.res; go_wp2
  have HX := aPu (gU (.int .i64 y.dev) (.int .i64 y.seq) (.int .i64 y.stamp) (.int .i64 y.kind) (.string y.item) (.int .i64 y.qty) (.int .i64 y.level) (.int .i64 y.undos) aT.out.res); have HB := aPu (gA (.int .i64 y.dev) (.int .i64 y.seq) (.int .i64 y.stamp) (.int .i64 y.kind) (.string y.item) (.int .i64 y.qty) (.int .i64 y.level) (.int .i64 y.undos) aT.out.bel (by show _ ≤ w.heap.size + 1 + 1; omega))
  clear a0 a1 c0 c1 c2 c3 c4 c5 c6 c7 e0 e1 e2 e3 e4 e5 e6 e7 f0 f1 f2 f3 f4 f5 f6 f7
  change bodyPost _ _ _ _ _ (bF w1 (w.heap.size + 1 + 1) (.int .i64 y.dev) (.int .i64 y.seq) (.int .i64 y.stamp) (.int .i64 y.kind) (.string y.item) (.int .i64 y.qty) (.int .i64 y.level) (.int .i64 y.undos))
  generalize bF w1 (w.heap.size + 1 + 1) (.int .i64 y.dev) (.int .i64 y.seq) (.int .i64 y.stamp) (.int .i64 y.kind) (.string y.item) (.int .i64 y.qty) (.int .i64 y.level) (.int .i64 y.undos) = wf at HX HB ⊢; obtain ⟨d0, d1, d2, d3, d4, d5, d6, d7⟩ := aM HX.out; exact bodyPost_ret (v := .tuple #[.agg #[.int .i64 y.dev, .int .i64 y.seq, .int .i64 y.stamp, .int .i64 y.kind, .string y.item, .int .i64 y.qty, .int .i64 y.level, .int .i64 y.undos], .bool true]) (by simp [results, Tryz.results68, go_sem, d0, d1, d2, d3, d4, d5, d6, d7]) rfl ⟨⟨_, rfl, aMg.out⟩, HB.out⟩
set_option maxHeartbeats 10000000 in
theorem aHV (w : World) (B : Nat) (a : Option Addr) (n c : Nat) (l : List aA) (dev seq : Int) (h : bK w B a n l) (hn : n ≤ 1048576) :
  Calls Tryz.prog 118 #[.slice a n c, .int .i64 dev, .int .i64 seq] w fun e w' => ((∃ i : Nat, i < n ∧ mM l i dev seq ∧ e = .returned (.int .i64 (i : Int))) ∨ ((∀ j, j < n → ¬ mM l j dev seq) ∧ e = .returned (.int .i64 (-1)))) ∧ w = w' := by
 have H := aPu h
 clear h
 go_enter Tryz.func118, Tryz.ntmps118
 go_wp2
 go_loop [7] (fun i => ∃ k : Nat, k ≤ n ∧ i = .int .i64 (k : Int) ∧ Hid (∀ j, j < k → ¬ mM l j dev seq)) (fun i => n - (intOf i).toNat)
 case atStart => exact ⟨0, by omega, rfl, fun j hj => absurd hj (by omega)⟩
 case round =>
  obtain ⟨k, hk, rfl, HN⟩ := hrel
  by_cases aK : k < n
  rotate_left
  ·obtain rfl : k = n := by omega
   go_wp2
   go_ret
   exact ⟨.inr ⟨HN.out, rfl⟩, rfl⟩
  obtain ⟨b, off, rfl, hb, ho⟩ := H.out.2 k aK; have hok : nI w b (off + k * 8) (aB l k) := ho; clear ho; have HE : Hid (∀ a b, a = (aB l k).dev → b = (aB l k).seq → (a = dev ∧ b = seq ↔ mM l k dev seq)) := fun a b h1 h2 => by subst h1 h2; exact Iff.rfl
  have HS : Hid (¬ mM l k dev seq → ∀ j, j < k + 1 → ¬ mM l j dev seq) := fun h j hj => by
   rcases Nat.lt_or_ge j k with h1 | h1
   ·exact HN.out j h1
   ·obtain rfl : j = k := by omega
    exact h
  obtain ⟨c0, c1, c2, c3, c4, c5, c6, c7⟩ := hok; have dP := aPu (HE.out _ _ rfl rfl); clear HE; generalize (aB l k).dev = xd at c0 dP; generalize (aB l k).seq = xq at c1 dP
  by_cases h1 : xd = dev
  ·have b1 : (xd == dev) = true := by rw [h1]; exact beq_self_eq_true _
   by_cases h2 : xq = seq
   ·have b2 : (xq == seq) = true := by rw [h2]; exact beq_self_eq_true _
    have HF := aPu (dP.out.1 ⟨h1, h2⟩); clear h1 h2; go_wp2
    go_ret
    exact ⟨.inl ⟨k, aK, HF.out, rfl⟩, rfl⟩
   ·have b2 : (xq == seq) = false := by rw [beq_eq_false_iff_ne]; exact h2
    have HF := aPu (HS.out (fun h => h2 (dP.out.2 h).2))
    clear h1 h2; go_wp2
    go_round
    case rel => exact ⟨k + 1, by omega, by go_num, HF⟩
    case measure => simp [intOf]; omega
  ·have b1 : (xd == dev) = false := by rw [beq_eq_false_iff_ne]; exact h1
   have HF := aPu (HS.out (fun h => h1 (dP.out.2 h).1))
   clear h1; go_wp2
   go_round
   case rel => exact ⟨k + 1, by omega, by go_num, HF⟩
   case measure => simp [intOf]; omega
theorem jI {w w' : World} {base n : Nat} {v : Value} {xs : List Value} (h : w.ownsRow base 50 8 v n xs) (hb : Below w.heap.size w w') : w'.ownsRow base 50 8 v n xs :=
 h.kept (row := none) ⟨hb.os, hb.tape, hb.output, hb.size, fun j hj _ => hb.block j hj⟩ (by rcases v.ownBlock with _ | g; exact .inl rfl; exact .inr (fun h => by cases h))
theorem zY (w : World) (x : aA) : ∀ j u, (bR x)[j]? = some u → (w.alloc (.cells #[.int .i64 x.dev, .int .i64 x.seq, .int .i64 x.stamp, .int .i64 x.kind, .string x.item, .int .i64 x.qty, .int .i64 x.level, .int .i64 x.undos] 50)).cell? ((⟨w.heap.size, 0, none⟩ : Addr).add j) = some u := by
 intro j u hj
 have hjl : j < 8 := by
  rcases Nat.lt_or_ge j 8 with h' | h'
  ·exact h'
  ·rw [List.getElem?_eq_none (by show 8 ≤ j; exact h')] at hj; cases hj
 rw [tQ, Nat.zero_add, aPx (heap_alloc_new w _)]
 obtain rfl | rfl | rfl | rfl | rfl | rfl | rfl | rfl : j = 0 ∨ j = 1 ∨ j = 2 ∨ j = 3 ∨ j = 4 ∨ j = 5 ∨ j = 6 ∨ j = 7 := by omega
 all_goals exact hj
def oY (o : aA) : Bool := decide (o.undos % 2 = 0)
def iI (l : List aA) (o : aA) : Bool := (List.range l.length).any fun i => decide ((aB l i).dev = o.dev) && (decide ((aB l i).seq = o.seq) && (oY (aB l i) != oY o))
def O6 (xs : List Int) (l : List aA) (ys : List Int) (m : List aA) : List aA := if (aD xs l && aD ys m) = true then m.filter (iI l) else []
theorem aFR {xs : List Int} {l : List aA} {ys : List Int} {m : List aA} (h : (aD xs l && aD ys m) = false) : O6 xs l ys m = [] := by unfold O6; rw [h]; rfl
theorem X4 {xs : List Int} {l : List aA} {ys : List Int} {m : List aA} (h : (aD xs l && aD ys m) = true) : O6 xs l ys m = m.filter (iI l) := by unfold O6; rw [if_pos h]
theorem aJF {l : List aA} (h : qF l = true) {o : aA} {i : Nat} (hi : i < l.length) (e : mM l i o.dev o.seq) : iI l o = (oY (aB l i) != oY o) := by
 rw [Bool.eq_iff_iff]
 unfold iI
 rw [List.any_eq_true]
 constructor
 ·rintro ⟨j, hj, hp⟩
  rw [List.mem_range] at hj; simp only [Bool.and_eq_true, decide_eq_true_eq] at hp
  have : j = i := I7 h hj hi ⟨hp.1, hp.2.1⟩ e; subst this; exact hp.2.2
 ·intro hp
  refine ⟨i, by rw [List.mem_range]; exact hi, ?_⟩
  unfold mM at e; rw [decide_eq_true e.1, decide_eq_true e.2, hp]
  rfl
theorem aFT {l : List aA} {o : aA} (h : ∀ j, j < l.length → ¬ mM l j o.dev o.seq) : iI l o = false := by
 unfold iI
 rw [List.any_eq_false]
 intro j hj
 rw [List.mem_range] at hj
 have := h j hj
 unfold mM at this
 simp only [Bool.and_eq_true, decide_eq_true_eq, not_and]
 intro a b
 exact absurd ⟨a, b⟩ this
theorem aAC {xs : List Int} {l : List aA} (h : aD xs l = true) {i : Nat} (hi : i < l.length) : (aB l i).ok = true := by
 obtain ⟨_, _, _, _, e, _⟩ := pW h hi
 exact e
theorem aFj (w : World) (B g off n cap : Nat) (xs : List Int) (h : Ints w B (some ⟨g, off, none⟩) n xs) (hn : 0 < n) (hl : n ≤ 1048576) :
  Calls Tryz.prog 110 #[.slice (some ⟨g, off, none⟩) n cap] w (K4 xs w) := by
 obtain ⟨i0, hi, gI, jK, jB⟩ := info_parts Tryz.infoI64
 have C6 := fun w => Lib.run_eql_slice_nil (P := Tryz.prog) w 24 2 (some ⟨g, off, none⟩) n cap 0 0 Tryz.underlying24
 have aY : (w.alloc (.cells #[] 2)).ownsRow w.heap.size 2 1 (.slice (some ⟨w.heap.size, 0, none⟩) 0 0) 0 [] := World.ownsRow_made w #[] 0 aPw (by unfold maxLen; omega) rfl
 have hL := aPu h.1
 have H := aPu h
 clear h
 go_enter Tryz.func110, Tryz.ntmps110
 go_wp2_with (at_builtin; refine wpList_append_own _ rfl _ _ 24 rfl w.heap.size 2 i0 (.int .i64 0) 1 8 Tryz.underlying24 hi gI jK jB rfl (by decide) _ _ _ rfl aY ⟨g, off, none⟩ n cap (xs.map (Value.int .i64)) rfl ?c0 ?c1 ?c2 ?c3 ?c4 ?c5 ?_)
 case c0 => rw [List.length_map, hL.out, Nat.mul_one]
 case c1 =>
  intro j u hj
  have hjl : j < xs.length := by
   rcases Nat.lt_or_ge j xs.length with h' | h'
   ·exact h'
   ·rw [List.getElem?_eq_none (by simpa using h')] at hj; cases hj
  obtain ⟨b, iE, e, hb, hc⟩ := H.out.2 j (by rw [← hL.out]; exact hjl)
  cases e; have aK := block_lt_of_cell hc; rw [List.getElem?_map, List.getElem?_eq_getElem hjl] at hj; cases hj; rw [tQ, World.cell?_alloc_lt w _ _ aK, hc, List.getD_eq_getElem?_getD, List.getElem?_eq_getElem hjl]
  rfl
 case c2 => exact ints_oneCell _ _
 case c3 => unfold maxLen; omega
 case c4 => omega
 case c5 => simp
 intro v' w1 lR gP _
 have aE := ((Below.refl w.heap.size w).alloc aPw _).grown gP (by simp) (fun j hj => (aY.lt j hj).1)
 obtain ⟨g', fY, hv, _, _⟩ := lR.form (by omega)
 subst hv
 have HO := aPu (sS (hi := w1.heap.size) (by simpa using lR) aPw)
 have oQ : Hid (bQ (some ⟨g', 0, none⟩) n fY) := aPu (by
  have h := gB lR
  simpa using h)
 clear lR gP aY
 go_wp2
 go_ret
 exact ⟨some ⟨g', 0, none⟩, fY, by rw [hL.out]; rfl, by rw [hL.out]; exact HO.out, aE, by rw [hL.out]; exact oQ.out⟩
def K5 (l : List aA) (w : World) (e : Ending) (w' : World) : Prop := ∃ a c, e = .returned (.slice a l.length c) ∧ w'.ownsRow w.heap.size 50 8 (.slice a l.length c) l.length (aH l) ∧ Below w.heap.size w w'
theorem rU {W W' : World} {B base n : Nat} {v : Value} {xs : List Value} (h : W.ownsRow base 50 8 v n xs) (hb : Below W.heap.size W W') : W'.ownsRow base 50 8 v n xs := by
 refine ⟨h.1, ?_⟩
 rcases h.2 with h2 | ⟨g, c, aV, e, hg, hc, r⟩
 ·exact .inl h2
 ·exact .inr ⟨g, c, aV, e, hg, (hb.block g (aPv hc).1).trans hc, r⟩
theorem M0 {α : Type} : ∀ (l : List α) (j : Nat) (x : α), l[j]? = some x → l.set j x = l
 | [], _, _, h => by simp at h
 | y :: l, 0, x, h => by simp at h; rw [h]; rfl
 | y :: l, j + 1, x, h => by
  show y :: l.set j x = y :: l
  rw [M0 l j x (by simpa using h)]
set_option maxHeartbeats 5000000 in
theorem aG8 (w : World) (B b off n cap : Nat) (l : List aA) (h : bK w B (some ⟨b, off, none⟩) n l) (hB : B ≤ w.heap.size) (hl : n ≤ 1048576) : Calls Tryz.prog 100 #[.slice (some ⟨b, off, none⟩) n cap] w (K5 l w) := by
 obtain ⟨i0, hi, gI, jK, jB⟩ := info_parts Tryz.infoOp
 have C6 := fun w => Lib.run_eql_slice_nil (P := Tryz.prog) w 25 50 (some ⟨b, off, none⟩) n cap 0 0 Tryz.underlying25
 have aY : (w.alloc (.cells #[] 50)).ownsRow w.heap.size 50 8 (.slice (some ⟨w.heap.size, 0, none⟩) 0 0) 0 [] := World.ownsRow_made w #[] 0 aPw (by unfold maxLen; omega) rfl
 have hL := aPu h.1
 have H := aPu h
 clear h
 go_enter Tryz.func100, Tryz.ntmps100
 go_wp2_with (at_builtin; refine wpList_append_own _ rfl _ _ 25 rfl w.heap.size 50 i0 (.agg #[.int .i64 0, .int .i64 0, .int .i64 0, .int .i64 0, .string ⟨#[]⟩, .int .i64 0, .int .i64 0, .int .i64 0]) 8 72 Tryz.underlying25 hi gI jK jB rfl (by decide) _ _ _ rfl aY ⟨b, off, none⟩ n cap (aH l) rfl ?c0 ?c1 ?c2 ?c3 ?c4 ?c5 ?_)
 case c0 => rw [eI, hL.out]
 case c1 => exact yZ (H.out.below ((Below.refl w.heap.size w).alloc aPw _) hB)
 case c2 => exact iG l
 case c3 => unfold maxLen; omega
 case c4 => omega
 case c5 => simp
 intro v' w1 lR gP hnn
 have aE := ((Below.refl w.heap.size w).alloc aPw _).grown gP (by simp) (fun j hj => (aY.lt j hj).1)
 have gF : w1.ownsRow w.heap.size 50 8 v' n (aH l) := by simpa using lR
 obtain ⟨a', fY, hv⟩ : ∃ a' fY, v' = .slice a' n fY := by
  rcases gF.2 with ⟨e, e2⟩ | ⟨g, c, aV, e, _⟩
  ·exact ⟨none, 0, by rw [e, e2]⟩
  ·exact ⟨_, _, e⟩
 subst hv
 have HO := aPu gF
 clear lR gF gP aY hnn
 go_wp2
 go_ret
 exact ⟨a', fY, by rw [hL.out]; rfl, by rw [hL.out]; exact HO.out, aE⟩
theorem aFi (w : World) (ad : Addr) (cap : Nat) : Calls Tryz.prog 100 #[.slice (some ad) 0 cap] w (K5 [] w) := by
 obtain ⟨i0, hi, gI, jK, jB⟩ := info_parts Tryz.infoOp
 have C6 := fun w => Lib.run_eql_slice_nil (P := Tryz.prog) w 25 50 (some ad) 0 cap 0 0 Tryz.underlying25
 have aY : (w.alloc (.cells #[] 50)).ownsRow w.heap.size 50 8 (.slice (some ⟨w.heap.size, 0, none⟩) 0 0) 0 [] := World.ownsRow_made w #[] 0 aPw (by unfold maxLen; omega) rfl
 go_enter Tryz.func100, Tryz.ntmps100
 go_wp2_with (at_builtin; refine wpList_append_own _ rfl _ _ 25 rfl w.heap.size 50 i0 (.agg #[.int .i64 0, .int .i64 0, .int .i64 0, .int .i64 0, .string ⟨#[]⟩, .int .i64 0, .int .i64 0, .int .i64 0]) 8 72 Tryz.underlying25 hi gI jK jB rfl (by decide) _ _ _ rfl aY ad 0 cap [] rfl ?c0 ?c1 ?c2 ?c3 ?c4 ?c5 ?_)
 case c0 => rfl
 case c1 => intro j u hj; cases hj
 case c2 => intro u hu; cases hu
 case c3 => unfold maxLen; omega
 case c4 => omega
 case c5 => simp
 intro v' w1 lR gP hnn
 have aE := ((Below.refl w.heap.size w).alloc aPw _).grown gP (by simp) (fun j hj => (aY.lt j hj).1)
 obtain ⟨a', fY, hv⟩ : ∃ a' fY, v' = .slice a' 0 fY := by
  rcases lR.2 with ⟨e, _⟩ | ⟨g, c, aV, e, _⟩
  ·exact ⟨none, 0, e⟩
  ·exact ⟨_, _, e⟩
 subst hv
 have hrw : w1.ownsRow w.heap.size 50 8 (.slice a' 0 fY) 0 [] := by simpa using lR
 have HO : Hid (w1.ownsRow w.heap.size 50 8 (.slice a' 0 fY) 0 (aH [])) := hrw
 clear hrw
 clear lR gP aY hnn
 go_wp2
 go_ret
 exact ⟨a', fY, rfl, HO.out, aE⟩
structure aDJ (w wr : World) (v : Value) (n : Nat) (l : List aA) : Prop where
 own : wr.ownsRow w.heap.size 50 8 v n (aH l)
 bel : Below w.heap.size w wr
set_option maxHeartbeats 10000000 in
theorem aFg (w : World) (B : Nat) (a : Option Addr) (n cap : Nat) (l : List aA) (h : bK w B a n l) (hB : B ≤ w.heap.size) (hn : n ≤ 1048576) (jO : a = none → cap = 0) (hm : ∀ i, i < n → (l.getD i aA.zero).item.size ≤ 1048576) : Calls Tryz.prog 69 #[.slice a n cap] w (K5 l w) := by
 have hl := h.1
 rcases a with _ | ad
 ·obtain rfl := jO rfl
  have hn0 : n = 0 := by
   rcases Nat.eq_zero_or_pos n with q | q
   ·exact q
   ·obtain ⟨b, off, e, _⟩ := h.2 0 q; cases e
  subst hn0; have hl0 : l = [] := List.eq_nil_of_length_eq_zero hl; subst hl0; clear h hm
  go_enter Tryz.func69, Tryz.ntmps69
  go_wp2_with fail
  refine (aDd w).mono ?_
  rintro e w1 ⟨rfl, rfl⟩; go_wp2
  refine wp_loop_rounds 1 ?_
  rw [rounds_succ]; go_wp2
  go_ret
  exact ⟨none, 0, rfl, World.ownsRow_nil w _ _ _, Below.refl _ _⟩
 ·rcases Nat.eq_zero_or_pos n with hz | hpos
  ·subst hz
   have hl0 : l = [] := List.eq_nil_of_length_eq_zero hl; subst hl0; clear h hm jO
   go_enter Tryz.func69, Tryz.ntmps69
   go_wp2_with fail
   refine (aFi w ad cap).mono ?_
   rintro e w1 ⟨a1, c1, rfl, ho, aE⟩; have HO := aPu ho; have HB := aPu aE; clear ho aE; go_wp2
   refine wp_loop_rounds 1 ?_
   rw [rounds_succ]; go_wp2
   go_ret
   exact ⟨a1, c1, rfl, HO.out, HB.out⟩
  obtain ⟨b, off, e, _⟩ := h.2 0 hpos; injection e with e; subst e; have HM := aPu hm; clear hm jO
  go_enter Tryz.func69, Tryz.ntmps69
  go_wp2_with fail
  refine (aG8 w B b off n cap l h hB hn).mono ?_
  rintro e w1 ⟨a1, c1, rfl, ho, aE⟩; have HC : Hid (aDJ w w1 (.slice a1 l.length c1) l.length l) := ⟨ho, aE⟩; clear ho aE h; subst hl; go_wp2
  go_loopw [4, 9] (fun _ i wr => ∃ k : Nat, k ≤ l.length ∧ i = .int .i64 (k : Int) ∧ Hid (aDJ w wr (.slice a1 l.length c1) l.length l)) (fun _ i _ => l.length - (intOf i).toNat)
  case atStart => exact ⟨0, by omega, rfl, HC⟩
  case round =>
   obtain ⟨k, hk, rfl, HR⟩ := hrel
   by_cases aK : k < l.length
   rotate_left
   ·obtain rfl : k = l.length := by omega
    have HP : Hid (K5 l w (.returned (.slice a1 l.length c1)) wr) := ⟨a1, c1, rfl, HR.out.own, HR.out.bel⟩; go_wp2
    go_ret
    exact HP.out
   obtain ⟨g, hg⟩ : ∃ g, a1 = some ⟨g, 0, none⟩ := by
    rcases HR.out.own.2 with ⟨e, e2⟩ | ⟨g, c, aV, e, _⟩
    ·omega
    ·injection e with e1 _ _; exact ⟨g, e1⟩
   subst hg; have tI := HM.out k aK; have fL : Hid (∀ w2, aDJ w w2 (.slice (some ⟨g, 0, none⟩) l.length c1) l.length l → w2.cell? ⟨g, k * 8 + 4, none⟩ = some (.string (l.getD k aA.zero).item) ∧ w2.frozen? ⟨g, k * 8 + 4, none⟩ = false ∧ aDJ w (w2.setCell ⟨g, k * 8 + 4, none⟩ (.string (l.getD k aA.zero).item)) (.slice (some ⟨g, 0, none⟩) l.length c1) l.length l) := fun w2 h => by
    have hc : (aH l)[k * 8 + 4]? = some (.string (l.getD k aA.zero).item) := (sU l k 4 aK (by omega)).trans rfl
    obtain ⟨h1, h2⟩ := h.own.stored (k * 8 + 4) (.string (l.getD k aA.zero).item); rw [M0 _ _ _ hc] at h1; have hg0 := (h.own.lt g rfl).1; exact ⟨(h.own.cellAt (k * 8 + 4) (by omega)).trans hc, h.own.frozenAt (k * 8 + 4), h1, h.bel.setCell (p := ⟨g, k * 8 + 4, none⟩) hg0 _⟩
   generalize (l.getD k aA.zero).item = s at tI fL; have c4 := (fL.out wr HR.out).1
   go_wp2_with fail
   refine (l9 s tI _).mono ?_
   rintro e w2 ⟨rfl, aG⟩; have kP : Hid (aDJ w w2 (.slice (some ⟨g, 0, none⟩) l.length c1) l.length l) := ⟨rU (B := 0) HR.out.own aG, HR.out.bel.trans (aG.mono HR.out.bel.size)⟩; clear c4 aG HR; obtain ⟨c4, f4, h3⟩ := fL.out w2 kP.out; have zG := aPu h3; clear h3; go_wp2
   go_roundw
   case rel => exact ⟨k + 1, by omega, by go_num, zG⟩
   case measure => simp [intOf]; omega
theorem aEJ {W W' : World} {base n : Nat} {v : Value} {xs : List Value} (h : W.ownsRow base 50 8 v n xs) (hk : ∀ j, base ≤ j → W'.heap[j]? = W.heap[j]?) : W'.ownsRow base 50 8 v n xs := by
 refine ⟨h.1, ?_⟩
 rcases h.2 with h2 | ⟨g, c, aV, e, hg, hc, r⟩
 ·exact .inl h2
 ·exact .inr ⟨g, c, aV, e, hg, (hk g hg).trans hc, r⟩
set_option linter.unusedSimpArgs false in
set_option maxHeartbeats 20000000 in
theorem C8 (w : World) (B g off : Nat) (ao : Option Addr) (nv cv no co : Nat) (xs : List Int) (l : List aA) (hx : Ints w B (some ⟨g, off, none⟩) nv xs) (h : bK w B ao no l) (hB : B ≤ w.heap.size) (hn0 : 0 < nv) (hv : nv ≤ 1048576) (hn : no ≤ 1048576) (jO : ao = none → co = 0) (hm : ∀ i, i < no → (l.getD i aA.zero).item.size ≤ 1048576) :
  Calls Tryz.prog 79 #[.agg #[.slice (some ⟨g, off, none⟩) nv cv, .slice ao no co]] w fun e w' => ∃ va vc oa oc cQ, e = .returned (.agg #[.slice va xs.length vc, .slice oa l.length oc]) ∧ Own w' w.heap.size cQ va xs.length xs ∧ w'.ownsRow cQ 50 8 (.slice oa l.length oc) l.length (aH l) ∧ w.heap.size ≤ cQ ∧ cQ ≤ w'.heap.size ∧ Below w.heap.size w w' ∧ bQ va xs.length vc := by
 have hT := qZ.mk0 w #[.slice (some ⟨g, off, none⟩) nv cv, .slice ao no co] #[.slice none 0 0, .slice none 0 0] 27
 have HV := aPu (hx.below hT.bel hB)
 have HO := aPu (h.below hT.bel hB)
 have HT := aPu hT
 have HM := aPu hm
 have HC := aPu jO
 have hBw := hB
 clear hx h hT hB hm jO
 go_enter Tryz.func79, Tryz.ntmps79
 go_upto_region 1 with fail
 rename_i KR g8
 generalize (w.alloc (.cells #[.slice (some ⟨g, off, none⟩) nv cv, .slice ao no co] 27)).alloc (.cells #[.slice none 0 0, .slice none 0 0] 27) = w0 at HV HO HT ⊢
 have aE1 := HT.out.bel.size
 have qG := bS HT.out.snd
 obtain ⟨z0, dA⟩ : ∃ z0, w0.drew = z0 := ⟨_, rfl⟩
 have g0 : Below w0.heap.size w0 z0 := by rw [← dA]; exact ⟨rfl, rfl, rfl, Nat.le_refl _, fun _ _ => rfl⟩
 have HVz := aPu (HV.out.below g0 (by omega))
 have HOz := aPu (HO.out.below g0 (by omega))
 have cR := aPu (HT.out.next g0)
 have lQ := g0.size
 have hS := pair_cells cR.out.fst
 clear g0 HV HO HT
 refine wp_region_held_drew (S := fun w' => w'.cell? ⟨w.heap.size, 0, none⟩ = some (.slice (some ⟨g, off, none⟩) nv cv) ∧ w'.cell? ⟨w.heap.size, 1, none⟩ = some (.slice ao no co)) (by kernel_rfl) (by rw [dA]; exact hS) (fun aP => ?_)
 rw [dA]
 clear aP dA
 refine tj 0 ?_
 refine tj 1 ?_
 refine tj 3 ?_
 refine tj 4 ?_
 refine rk 2 rfl (fun K hK => ?_)
 go_simp
 go_at_call 110
 refine (aFj z0 B g off nv cv xs HVz.out hn0 hv).mono ?_
 rintro e w1 ⟨va, vc, rfl, aY, aE, bX⟩
 have nZ := aPu bX
 clear bX
 have cI := aPu (HOz.out.below aE (by omega))
 have aT := aPu (cR.out.next aE)
 have iA := aPu aY
 have dZ := aE.size
 have dM := pair_cells aT.out.fst
 clear aE aY HVz HOz cR
 refine hK.out _ _ dM (fun bG => ?_)
 clear hK K
 (try simp only [Act.put, u1, u2, u3])
 refine rk 5 rfl (fun K hK => ?_)
 go_simp
 go_at_call 69
 refine (aFg w1 B ao no co l cI.out (by omega) hn HC.out HM.out).mono ?_
 rintro e w2 ⟨oa, oc, rfl, dX, aG⟩
 have aJ := aPu (aT.out.next aG)
 have jW := aPu (iA.out.below aG aPw)
 have vT := aPu dX
 have dS := aG.size
 have aIe := bS aJ.out.snd
 have eK := pair_cells aJ.out.fst
 clear aG dX cI aT iA
 refine hK.out _ _ eK (fun fI => ?_)
 clear hK K
 (try simp only [Act.put, u1, u2, u3])
 refine tj 6 ?_
 obtain ⟨r0, r1⟩ := pair_cells aJ.out.snd
 obtain ⟨fz0, fz1⟩ := aC aJ.out.snd
 have fV : ((w2.setCell ⟨w.heap.size + 1, 0, none⟩ (.slice va xs.length vc)).setCell ⟨w.heap.size + 1, 1, none⟩ (.slice oa l.length oc)).cell? ⟨w.heap.size, 0, none⟩ = some (.slice (some ⟨g, off, none⟩) nv cv) ∧ ((w2.setCell ⟨w.heap.size + 1, 0, none⟩ (.slice va xs.length vc)).setCell ⟨w.heap.size + 1, 1, none⟩ (.slice oa l.length oc)).cell? ⟨w.heap.size, 1, none⟩ = some (.slice ao no co) := pair_cells ((aF _ _ (by omega)).trans aJ.out.fst)
 refine rk 7 rfl (fun K hK => ?_)
 go_simp
 refine hK.out _ _ fV (fun kW => ?_)
 clear hK K
 (try simp only [Act.put, u1, u2, u3])
 refine wpAnyH_done (by kernel_rfl) ?_ _
 have oO : Hid (((w2.setCell ⟨w.heap.size + 1, 0, none⟩ (.slice va xs.length vc)).setCell ⟨w.heap.size + 1, 1, none⟩ (.slice oa l.length oc)).heap[w.heap.size + 1]? = some (.cells #[.slice va xs.length vc, .slice oa l.length oc] 27 (0, 0))) := cF _ _ aJ.out.snd
 have nM : Hid (Below w.heap.size w ((w2.setCell ⟨w.heap.size + 1, 0, none⟩ (.slice va xs.length vc)).setCell ⟨w.heap.size + 1, 1, none⟩ (.slice oa l.length oc))) := (aJ.out.bel.setCell (by show _ ≤ w.heap.size + 1; omega) _).setCell (by show _ ≤ w.heap.size + 1; omega) _
 have aMm : Hid (Own ((w2.setCell ⟨w.heap.size + 1, 0, none⟩ (.slice va xs.length vc)).setCell ⟨w.heap.size + 1, 1, none⟩ (.slice oa l.length oc)) z0.heap.size w1.heap.size va xs.length xs) := jW.out.kept fun q h1 h2 => aF _ _ (by omega)
 have aMt : Hid (((w2.setCell ⟨w.heap.size + 1, 0, none⟩ (.slice va xs.length vc)).setCell ⟨w.heap.size + 1, 1, none⟩ (.slice oa l.length oc)).ownsRow w1.heap.size 50 8 (.slice oa l.length oc) l.length (aH l)) := aEJ vT.out fun q h1 => aF _ _ (by omega)
 have aNB : ((w2.setCell ⟨w.heap.size + 1, 0, none⟩ (.slice va xs.length vc)).setCell ⟨w.heap.size + 1, 1, none⟩ (.slice oa l.length oc)).heap.size = w2.heap.size := aZ _ _ _ _
 clear hS dM eK fV bG fI kW r0 r1 fz0 fz1
 generalize (w2.setCell ⟨w.heap.size + 1, 0, none⟩ (.slice va xs.length vc)).setCell ⟨w.heap.size + 1, 1, none⟩ (.slice oa l.length oc) = wf at oO nM aMm aMt aNB ⊢
 apply g8
 obtain ⟨q0, q1⟩ := pair_cells oO.out
 go_wp2
 exact bodyPost_ret (v := .agg #[.slice va xs.length vc, .slice oa l.length oc]) (by simp [results, Tryz.results79, go_sem, q0, q1]) rfl ⟨va, vc, oa, oc, w1.heap.size, rfl, aMm.out.more (by omega) aPw, aMt.out, by omega, by omega, nM.out, nZ.out⟩
def K2 (a b : aA) : Bool := preB a.stamp a.dev a.seq b.stamp b.dev b.seq
end Go.Proofs.YthkagbnpcjidfaaGreatDoor
