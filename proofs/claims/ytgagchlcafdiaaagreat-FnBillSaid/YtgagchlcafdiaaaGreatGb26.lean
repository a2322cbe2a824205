/- Walks and mathematics that several claims share, part 26. -/
import Derived.Test.YtgagchlcafdiaaaGreatGb13
import Derived.Test.YtgagchlcafdiaaaGreatGb14
import Derived.Test.YtgagchlcafdiaaaGreatGb2
import Derived.Deep.Cut
import Derived.Deep.RegionHeld3
import Derived.Test.YtgagchlcafdiaaaGreatGbA
namespace Go.Proofs.YtgagchlcafdiaaaGreat
set_option maxRecDepth 100000
open Go.RowKit
set_option linter.unusedVariables false
set_option linter.unusedSimpArgs false

def eqN (l : List OpV) (i : Nat) (dev seq : Int) : Prop := (atOp l i).dev = dev ∧ (atOp l i).seq = seq
theorem cart_at {xs : List Int} {l : List OpV} (h : cartB xs l = true) {i : Nat} (hi : i < l.length) : ∃ d : Nat, d < 4 ∧ stOf xs d ≤ i ∧ i < stOf xs (d + 1) ∧ (atOp l i).ok = true ∧ (atOp l i).dev = (d : Int) ∧ (atOp l i).seq = ((i - stOf xs d : Nat) : Int) + 1 := by
 obtain ⟨_, h1, h2⟩ := cart_true h
 have hd : ∃ d : Nat, d < 4 ∧ stOf xs d ≤ i ∧ i < stOf xs (d + 1) := by
  by_cases a1 : i < stOf xs 1
  ·exact ⟨0, by omega, Nat.zero_le _, a1⟩
  by_cases a2 : i < stOf xs 2
  ·exact ⟨1, by omega, by omega, a2⟩
  by_cases a3 : i < stOf xs 3
  ·exact ⟨2, by omega, by omega, a3⟩
  ·exact ⟨3, by omega, by omega, by rw [h2]; exact hi⟩
 obtain ⟨d, hd4, hlo, hhi⟩ := hd
 have hb := h1 d hd4
 unfold devB at hb
 rw [Bool.and_eq_true] at hb
 have hr := hb.2
 unfold runB at hr
 rw [List.all_eq_true] at hr
 have es : stOf xs (d + 1) = stOf xs d + (xs.getD d 0).toNat := rfl
 have hf := hr (i - stOf xs d) (by rw [List.mem_range]; omega)
 have e : stOf xs d + (i - stOf xs d) = i := by omega
 unfold fitB at hf
 rw [e] at hf
 simp only [Bool.and_eq_true, decide_eq_true_eq] at hf
 exact ⟨d, hd4, hlo, hhi, hf.1, hf.2.1, hf.2.2.1⟩
theorem cart_inc {xs : List Int} {l : List OpV} (h : cartB xs l = true) : incB l = true := inc_yes fun i hi => by
 unfold incAt
 by_cases h0 : i = 0
 ·rw [decide_eq_true h0]; rfl
 obtain ⟨d, hd, a1, a2, _, e1, e2⟩ := cart_at h hi
 obtain ⟨d', hd', b1, b2, _, f1, f2⟩ := cart_at h (i := i - 1) (by omega)
 rw [decide_eq_false h0, Bool.false_or, e1, e2, f1, f2]
 unfold numB
 refine decide_eq_true ?_
 rcases Nat.lt_trichotomy d' d with g | g | g
 ·exact .inl (by omega)
 ·subst g
  exact .inr ⟨rfl, by omega⟩
 ·have := stOf_mono xs (d + 1) d' (by omega)
  omega
theorem num_trans {a b c d e f : Int} (h1 : numB a b c d = true) (h2 : numB c d e f = true) : numB a b e f = true := by
 unfold numB at *
 have h1 := of_decide_eq_true h1
 have h2 := of_decide_eq_true h2
 exact decide_eq_true (by omega)
theorem num_irr {a b : Int} (h : numB a b a b = true) : False := by
 unfold numB at h
 have := of_decide_eq_true h
 omega
theorem inc_at {l : List OpV} (h : incB l = true) {i : Nat} (hi : i + 1 < l.length) : numB (atOp l i).dev (atOp l i).seq (atOp l (i + 1)).dev (atOp l (i + 1)).seq = true := by
 unfold incB at h
 rw [List.all_eq_true] at h
 have := h (i + 1) (by simpa using hi)
 unfold incAt at this
 rw [decide_eq_false (by omega), Bool.false_or] at this
 exact this
theorem inc_lt {l : List OpV} (h : incB l = true) : ∀ j i, i < j → j < l.length → numB (atOp l i).dev (atOp l i).seq (atOp l j).dev (atOp l j).seq = true
 | 0, i, hij, _ => by omega
 | j + 1, i, hij, hj => by
  rcases Nat.lt_or_ge i j with h1 | h1
  ·exact num_trans (inc_lt h j i h1 (by omega)) (inc_at h hj)
  ·obtain rfl : i = j := by omega
   exact inc_at h hj
theorem inc_uniq {l : List OpV} (h : incB l = true) {i j : Nat} {dev seq : Int} (hi : i < l.length) (hj : j < l.length) (e1 : eqN l i dev seq) (e2 : eqN l j dev seq) : i = j := by
 unfold eqN at e1 e2
 rcases Nat.lt_trichotomy i j with g | g | g
 ·have := inc_lt h j i g hj
  rw [e1.1, e1.2, e2.1, e2.2] at this
  exact (num_irr this).elim
 ·exact g
 ·have := inc_lt h i j g hi
  rw [e1.1, e1.2, e2.1, e2.2] at this
  exact (num_irr this).elim
/-- Three blocks that a call has laid first: two arguments and a result. -/
structure TriF (w w1 : World) (x y z : Array Value) (S T U : TypeId) : Prop where
 fst : w1.heap[w.heap.size]? = some (.cells x S (0, 0))
 snd : w1.heap[w.heap.size + 1]? = some (.cells y T (0, 0))
 res : w1.heap[w.heap.size + 1 + 1]? = some (.cells z U (0, 0))
 bel : Below w.heap.size w w1
theorem TriF.mk0 (w : World) (x y z : Array Value) (S T U : TypeId) : TriF w (((w.alloc (.cells x S)).alloc (.cells y T)).alloc (.cells z U)) x y z S T U := by
 have e1 : (w.alloc (.cells x S)).heap.size = w.heap.size + 1 := by simp
 have e2 : ((w.alloc (.cells x S)).alloc (.cells y T)).heap.size = w.heap.size + 1 + 1 := by simp
 refine ⟨?_, ?_, ?_, (((Below.refl _ w).alloc (Nat.le_refl _) _).alloc (by simp) _).alloc (by simp; omega) _⟩
 ·rw [Below.heap_alloc _ _ _ (by omega), Below.heap_alloc _ _ _ (by omega)]
  exact heap_alloc_new w _
 ·rw [Below.heap_alloc _ _ _ (by omega), ← e1]
  exact heap_alloc_new _ _
 ·rw [← e2]
  exact heap_alloc_new _ _
theorem TriF.next {w w1 w2 : World} {x y z : Array Value} {S T U : TypeId} (h : TriF w w1 x y z S T U) (hb : Below w1.heap.size w1 w2) : TriF w w2 x y z S T U :=
 ⟨(hb.block _ (Array.getElem?_eq_some_iff.1 h.fst).1).trans h.fst, (hb.block _ (Array.getElem?_eq_some_iff.1 h.snd).1).trans h.snd, (hb.block _ (Array.getElem?_eq_some_iff.1 h.res).1).trans h.res, h.bel.trans (hb.mono h.bel.size)⟩

set_option maxHeartbeats 10000000 in
theorem l4At (w : World) (B : Nat) (a : Option Addr) (n c : Nat) (l : List OpV) (dev seq : Int) (h : Ops w B a n l) (hn : n ≤ 1048576) :
  Calls Tryz.prog 105 #[.slice a n c, .int .i64 dev, .int .i64 seq] w fun e w' => ((∃ i : Nat, i < n ∧ eqN l i dev seq ∧ e = .returned (.int .i64 (i : Int))) ∨ ((∀ j, j < n → ¬ eqN l j dev seq) ∧ e = .returned (.int .i64 (-1)))) ∧ w = w' := by
 have H := Lib.hid h
 clear h
 go_enter Tryz.func105, Tryz.ntmps105
 go_wp2
 go_loop [7] (fun i => ∃ k : Nat, k ≤ n ∧ i = .int .i64 (k : Int) ∧ Hid (∀ j, j < k → ¬ eqN l j dev seq)) (fun i => n - (intOf i).toNat)
 case atStart => exact ⟨0, by omega, rfl, fun j hj => absurd hj (by omega)⟩
 case round =>
  obtain ⟨k, hk, rfl, HN⟩ := hrel
  by_cases hlt : k < n
  rotate_left
  ·obtain rfl : k = n := by omega
   go_wp2
   go_ret
   exact ⟨.inr ⟨HN.out, rfl⟩, rfl⟩
  obtain ⟨b, off, rfl, hb, ho⟩ := H.out.2 k hlt
  have hok : OpAt w b (off + k * 8) (atOp l k) := ho
  clear ho
  have HE : Hid (∀ a b, a = (atOp l k).dev → b = (atOp l k).seq → (a = dev ∧ b = seq ↔ eqN l k dev seq)) := fun a b h1 h2 => by subst h1 h2; exact Iff.rfl
  have HS : Hid (¬ eqN l k dev seq → ∀ j, j < k + 1 → ¬ eqN l j dev seq) := fun h j hj => by
   rcases Nat.lt_or_ge j k with h1 | h1
   ·exact HN.out j h1
   ·obtain rfl : j = k := by omega
    exact h
  obtain ⟨c0, c1, c2, c3, c4, c5, c6, c7⟩ := hok
  have HE2 := Lib.hid (HE.out _ _ rfl rfl)
  clear HE
  generalize (atOp l k).dev = xd at c0 HE2
  generalize (atOp l k).seq = xq at c1 HE2
  by_cases h1 : xd = dev
  ·have b1 : (xd == dev) = true := by rw [h1]; exact beq_self_eq_true _
   by_cases h2 : xq = seq
   ·have b2 : (xq == seq) = true := by rw [h2]; exact beq_self_eq_true _
    have HF := Lib.hid (HE2.out.1 ⟨h1, h2⟩)
    clear h1 h2
    go_wp2
    go_ret
    exact ⟨.inl ⟨k, hlt, HF.out, rfl⟩, rfl⟩
   ·have b2 : (xq == seq) = false := by rw [beq_eq_false_iff_ne]; exact h2
    have HF := Lib.hid (HS.out (fun h => h2 (HE2.out.2 h).2))
    clear h1 h2
    go_wp2
    go_round
    case rel => exact ⟨k + 1, by omega, by go_num, HF⟩
    case measure => simp [intOf]; omega
  ·have b1 : (xd == dev) = false := by rw [beq_eq_false_iff_ne]; exact h1
   have HF := Lib.hid (HS.out (fun h => h1 (HE2.out.2 h).1))
   clear h1
   go_wp2
   go_round
   case rel => exact ⟨k + 1, by omega, by go_num, HF⟩
   case measure => simp [intOf]; omega
theorem own_row_kept {w w' : World} {base n : Nat} {v : Value} {xs : List Value} (h : w.ownsRow base 84 8 v n xs) (hb : Below w.heap.size w w') : w'.ownsRow base 84 8 v n xs :=
 h.kept (row := none) ⟨hb.os, hb.tape, hb.output, hb.size, fun j hj _ => hb.block j hj⟩ (by rcases v.ownBlock with _ | g; exact .inl rfl; exact .inr (fun h => by cases h))
theorem opRow_new (w : World) (x : OpV) : ∀ j u, (opRow x)[j]? = some u → (w.alloc (.cells #[.int .i64 x.dev, .int .i64 x.seq, .int .i64 x.stamp, .int .i64 x.kind, .string x.item, .int .i64 x.qty, .int .i64 x.level, .int .i64 x.undos] 84)).cell? ((⟨w.heap.size, 0, none⟩ : Addr).add j) = some u := by
 intro j u hj
 have hjl : j < 8 := by
  rcases Nat.lt_or_ge j 8 with h' | h'
  ·exact h'
  ·rw [List.getElem?_eq_none (by show 8 ≤ j; exact h')] at hj; cases hj
 rw [add_at, Nat.zero_add, cell_of_row _ _ _ _ _ _ (heap_alloc_new w _)]
 obtain rfl | rfl | rfl | rfl | rfl | rfl | rfl | rfl : j = 0 ∨ j = 1 ∨ j = 2 ∨ j = 3 ∨ j = 4 ∨ j = 5 ∨ j = 6 ∨ j = 7 := by omega
 all_goals exact hj
def befO (a b : OpV) : Bool := preB a.stamp a.dev a.seq b.stamp b.dev b.seq
end Go.Proofs.YtgagchlcafdiaaaGreat
