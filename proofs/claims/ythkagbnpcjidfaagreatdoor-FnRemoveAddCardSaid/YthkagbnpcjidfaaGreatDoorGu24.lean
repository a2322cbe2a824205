/- Walks and mathematics that several claims share, part 24. -/
import Derived.Test.YthkagbnpcjidfaaGreatDoorGu17
import Derived.Deep.Cut
import Derived.Deep.RegionHeld3
namespace Go.Proofs.YthkagbnpcjidfaaGreatDoor
set_option maxRecDepth 100000
open Go.RowKit
set_option linter.unusedVariables false
set_option linter.unusedSimpArgs false
def yY (l : List aA) (i : Nat) (dev seq : Int) : Prop := (aC l i).dev = dev ∧ (aC l i).seq = seq
theorem uP {xs : List Int} {l : List aA} (h : aE xs l = true) {i : Nat} (hi : i < l.length) : ∃ d : Nat, d < 4 ∧ aO xs d ≤ i ∧ i < aO xs (d + 1) ∧ (aC l i).ok = true ∧ (aC l i).dev = (d : Int) ∧ (aC l i).seq = ((i - aO xs d : Nat) : Int) + 1 := by
 obtain ⟨_, h1, h2⟩ := jQ h
 have hd : ∃ d : Nat, d < 4 ∧ aO xs d ≤ i ∧ i < aO xs (d + 1) := by
  by_cases a1 : i < aO xs 1
  ·exact ⟨0, by omega, Nat.zero_le _, a1⟩
  by_cases a2 : i < aO xs 2
  ·exact ⟨1, by omega, by omega, a2⟩
  by_cases a3 : i < aO xs 3
  ·exact ⟨2, by omega, by omega, a3⟩
  ·exact ⟨3, by omega, by omega, by rw [h2]; exact hi⟩
 obtain ⟨d, N4, iE, hhi⟩ := hd
 have hb := h1 d N4
 unfold iQ at hb
 rw [Bool.and_eq_true] at hb
 have hr := hb.2
 unfold lP at hr
 rw [List.all_eq_true] at hr
 have es : aO xs (d + 1) = aO xs d + (xs.getD d 0).toNat := rfl
 have hf := hr (i - aO xs d) (by rw [List.mem_range]; omega)
 have e : aO xs d + (i - aO xs d) = i := by omega
 unfold kD at hf
 rw [e] at hf
 simp only [Bool.and_eq_true, decide_eq_true_eq] at hf
 exact ⟨d, N4, iE, hhi, hf.1, hf.2.1, hf.2.2.1⟩
theorem uO {xs : List Int} {l : List aA} (h : aE xs l = true) : R5 l = true := aKp fun i hi => by
 unfold aCc
 by_cases h0 : i = 0
 ·rw [decide_eq_true h0]; rfl
 obtain ⟨d, hd, a1, a2, _, e1, e2⟩ := uP h hi
 obtain ⟨d', hd', b1, b2, _, f1, f2⟩ := uP h (i := i - 1) (by omega)
 rw [decide_eq_false h0, Bool.false_or, e1, e2, f1, f2]
 unfold numB
 refine decide_eq_true ?_
 rcases Nat.lt_trichotomy d' d with g | g | g
 ·exact .inl (by omega)
 ·subst g
  exact .inr ⟨rfl, by omega⟩
 ·have := jB xs (d + 1) d' (by omega)
  omega
theorem aGv {a b c d e f : Int} (h1 : numB a b c d = true) (h2 : numB c d e f = true) : numB a b e f = true := by
 unfold numB at *
 have h1 := of_decide_eq_true h1
 have h2 := of_decide_eq_true h2
 exact decide_eq_true (by omega)
theorem aEz {a b : Int} (h : numB a b a b = true) : False := by
 unfold numB at h
 have := of_decide_eq_true h
 omega
theorem aGV {l : List aA} (h : R5 l = true) {i : Nat} (hi : i + 1 < l.length) : numB (aC l i).dev (aC l i).seq (aC l (i + 1)).dev (aC l (i + 1)).seq = true := by
 unfold R5 at h
 rw [List.all_eq_true] at h
 have := h (i + 1) (by simpa using hi)
 unfold aCc at this
 rw [decide_eq_false (by omega), Bool.false_or] at this
 exact this
theorem aCW {l : List aA} (h : R5 l = true) : ∀ j i, i < j → j < l.length → numB (aC l i).dev (aC l i).seq (aC l j).dev (aC l j).seq = true
 | 0, i, hij, _ => by omega
 | j + 1, i, hij, hj => by
  rcases Nat.lt_or_ge i j with h1 | h1
  ·exact aGv (aCW h j i h1 (by omega)) (aGV h hj)
  ·obtain rfl : i = j := by omega
   exact aGV h hj
theorem aCV {l : List aA} (h : R5 l = true) {i j : Nat} {dev seq : Int} (hi : i < l.length) (hj : j < l.length) (e1 : yY l i dev seq) (e2 : yY l j dev seq) : i = j := by
 unfold yY at e1 e2
 rcases Nat.lt_trichotomy i j with g | g | g
 ·have := aCW h j i g hj
  rw [e1.1, e1.2, e2.1, e2.2] at this; exact (aEz this).elim
 ·exact g
 ·have := aCW h i j g hi
  rw [e1.1, e1.2, e2.1, e2.2] at this; exact (aEz this).elim
def X4 (x : aA) : Value := .agg #[.int .i64 x.dev, .int .i64 x.seq, .int .i64 x.stamp, .int .i64 x.kind, .string x.item, .int .i64 x.qty, .int .i64 x.level, .int .i64 x.undos]
structure uQ (w w1 : World) (x y z : Array Value) (S T U : TypeId) : Prop where
 fst : w1.heap[w.heap.size]? = some (.cells x S (0, 0))
 snd : w1.heap[w.heap.size + 1]? = some (.cells y T (0, 0))
 res : w1.heap[w.heap.size + 1 + 1]? = some (.cells z U (0, 0))
 bel : Below w.heap.size w w1
theorem uQ.mk0 (w : World) (x y z : Array Value) (S T U : TypeId) : uQ w (((w.alloc (.cells x S)).alloc (.cells y T)).alloc (.cells z U)) x y z S T U := by
 have e1 : (w.alloc (.cells x S)).heap.size = w.heap.size + 1 := by simp
 have e2 : ((w.alloc (.cells x S)).alloc (.cells y T)).heap.size = w.heap.size + 1 + 1 := by simp
 refine ⟨?_, ?_, ?_, (((Below.refl _ w).alloc aPq _).alloc (by simp) _).alloc (by simp; omega) _⟩
 ·rw [Below.heap_alloc _ _ _ (by omega), Below.heap_alloc _ _ _ (by omega)]
  exact heap_alloc_new w _
 ·rw [Below.heap_alloc _ _ _ (by omega), ← e1]
  exact heap_alloc_new _ _
 ·rw [← e2]
  exact heap_alloc_new _ _
theorem uQ.next {w w1 w2 : World} {x y z : Array Value} {S T U : TypeId} (h : uQ w w1 x y z S T U) (hb : Below w1.heap.size w1 w2) : uQ w w2 x y z S T U :=
 ⟨(hb.block _ (aPp h.fst).1).trans h.fst, (hb.block _ (aPp h.snd).1).trans h.snd, (hb.block _ (aPp h.res).1).trans h.res, h.bel.trans (hb.mono h.bel.size)⟩
set_option maxHeartbeats 10000000 in
theorem aH8 (w : World) (B : Nat) (a : Option Addr) (n c : Nat) (l : List aA) (dev seq : Int) (h : bP w B a n l) (hn : n ≤ 1048576) :
  Calls Tryz.prog 118 #[.slice a n c, .int .i64 dev, .int .i64 seq] w fun e w' => ((∃ i : Nat, i < n ∧ yY l i dev seq ∧ e = .returned (.int .i64 (i : Int))) ∨ ((∀ j, j < n → ¬ yY l j dev seq) ∧ e = .returned (.int .i64 (-1)))) ∧ w = w' := by
 have H := aPo h
 clear h
 go_enter Tryz.func118, Tryz.ntmps118
 go_wp2
 go_loop [7] (fun i => ∃ k : Nat, k ≤ n ∧ i = .int .i64 (k : Int) ∧ Hid (∀ j, j < k → ¬ yY l j dev seq)) (fun i => n - (intOf i).toNat)
 case atStart => exact ⟨0, by omega, rfl, fun j hj => absurd hj (by omega)⟩
 case round =>
  obtain ⟨k, hk, rfl, HN⟩ := hrel
  by_cases aJ : k < n
  rotate_left
  ·obtain rfl : k = n := by omega
   go_wp2
   go_ret
   exact ⟨.inr ⟨HN.out, rfl⟩, rfl⟩
  obtain ⟨b, off, rfl, hb, ho⟩ := H.out.2 k aJ; have hok : wJ w b (off + k * 8) (aC l k) := ho; clear ho; have HE : Hid (∀ a b, a = (aC l k).dev → b = (aC l k).seq → (a = dev ∧ b = seq ↔ yY l k dev seq)) := fun a b h1 h2 => by subst h1 h2; exact Iff.rfl
  have HS : Hid (¬ yY l k dev seq → ∀ j, j < k + 1 → ¬ yY l j dev seq) := fun h j hj => by
   rcases Nat.lt_or_ge j k with h1 | h1
   ·exact HN.out j h1
   ·obtain rfl : j = k := by omega
    exact h
  obtain ⟨c0, c1, c2, c3, c4, c5, c6, c7⟩ := hok; have dW := aPo (HE.out _ _ rfl rfl); clear HE; generalize (aC l k).dev = xd at c0 dW; generalize (aC l k).seq = xq at c1 dW
  by_cases h1 : xd = dev
  ·have b1 : (xd == dev) = true := by rw [h1]; exact beq_self_eq_true _
   by_cases h2 : xq = seq
   ·have b2 : (xq == seq) = true := by rw [h2]; exact beq_self_eq_true _
    have HF := aPo (dW.out.1 ⟨h1, h2⟩); clear h1 h2; go_wp2
    go_ret
    exact ⟨.inl ⟨k, aJ, HF.out, rfl⟩, rfl⟩
   ·have b2 : (xq == seq) = false := by rw [beq_eq_false_iff_ne]; exact h2
    have HF := aPo (HS.out (fun h => h2 (dW.out.2 h).2))
    clear h1 h2; go_wp2
    go_round
    case rel => exact ⟨k + 1, by omega, by go_num, HF⟩
    case measure => simp [intOf]; omega
  ·have b1 : (xd == dev) = false := by rw [beq_eq_false_iff_ne]; exact h1
   have HF := aPo (HS.out (fun h => h1 (dW.out.2 h).1))
   clear h1; go_wp2
   go_round
   case rel => exact ⟨k + 1, by omega, by go_num, HF⟩
   case measure => simp [intOf]; omega
theorem yC {w w' : World} {base n : Nat} {v : Value} {xs : List Value} (h : w.ownsRow base 50 8 v n xs) (hb : Below w.heap.size w w') : w'.ownsRow base 50 8 v n xs :=
 h.kept (row := none) ⟨hb.os, hb.tape, hb.output, hb.size, fun j hj _ => hb.block j hj⟩ (by rcases v.ownBlock with _ | g; exact .inl rfl; exact .inr (fun h => by cases h))
theorem P9 (w : World) (x : aA) : ∀ j u, (bV x)[j]? = some u → (w.alloc (.cells #[.int .i64 x.dev, .int .i64 x.seq, .int .i64 x.stamp, .int .i64 x.kind, .string x.item, .int .i64 x.qty, .int .i64 x.level, .int .i64 x.undos] 50)).cell? ((⟨w.heap.size, 0, none⟩ : Addr).add j) = some u := by
 intro j u hj
 have hjl : j < 8 := by
  rcases Nat.lt_or_ge j 8 with h' | h'
  ·exact h'
  ·rw [List.getElem?_eq_none (by show 8 ≤ j; exact h')] at hj; cases hj
 rw [tD, Nat.zero_add, aPr (heap_alloc_new w _)]
 obtain rfl | rfl | rfl | rfl | rfl | rfl | rfl | rfl : j = 0 ∨ j = 1 ∨ j = 2 ∨ j = 3 ∨ j = 4 ∨ j = 5 ∨ j = 6 ∨ j = 7 := by omega
 all_goals exact hj
theorem aFy (w : World) (B g off n cap : Nat) (xs : List Int) (h : Ints w B (some ⟨g, off, none⟩) n xs) (hn : 0 < n) (hl : n ≤ 1048576) :
  Calls Tryz.prog 110 #[.slice (some ⟨g, off, none⟩) n cap] w (K7 xs w) := by
 obtain ⟨i0, hi, gK, jV, iS⟩ := info_parts Tryz.infoI64
 have o9 := fun w => Lib.run_eql_slice_nil (P := Tryz.prog) w 24 2 (some ⟨g, off, none⟩) n cap 0 0 Tryz.underlying24
 have aU : (w.alloc (.cells #[] 2)).ownsRow w.heap.size 2 1 (.slice (some ⟨w.heap.size, 0, none⟩) 0 0) 0 [] := World.ownsRow_made w #[] 0 aPq (by unfold maxLen; omega) rfl
 have hL := aPo h.1
 have H := aPo h
 clear h
 go_enter Tryz.func110, Tryz.ntmps110
 go_wp2_with (at_builtin; refine wpList_append_own _ rfl _ _ 24 rfl w.heap.size 2 i0 (.int .i64 0) 1 8 Tryz.underlying24 hi gK jV iS rfl (by decide) _ _ _ rfl aU ⟨g, off, none⟩ n cap (xs.map (Value.int .i64)) rfl ?c0 ?c1 ?c2 ?c3 ?c4 ?c5 ?_)
 case c0 => rw [List.length_map, hL.out, Nat.mul_one]
 case c1 =>
  intro j u hj
  have hjl : j < xs.length := by
   rcases Nat.lt_or_ge j xs.length with h' | h'
   ·exact h'
   ·rw [List.getElem?_eq_none (by simpa using h')] at hj; cases hj
  obtain ⟨b, sM, e, hb, hc⟩ := H.out.2 j (by rw [← hL.out]; exact hjl)
  cases e; have aJ := block_lt_of_cell hc; rw [List.getElem?_map, List.getElem?_eq_getElem hjl] at hj; cases hj; rw [tD, World.cell?_alloc_lt w _ _ aJ, hc, List.getD_eq_getElem?_getD, List.getElem?_eq_getElem hjl]
  rfl
 case c2 => exact ints_oneCell _ _
 case c3 => unfold maxLen; omega
 case c4 => omega
 case c5 => simp
 intro v' w1 lX iB _
 have aG := ((Below.refl w.heap.size w).alloc aPq _).grown iB (by simp) (fun j hj => (aU.lt j hj).1)
 obtain ⟨g', gF, hv, _, _⟩ := lX.form (by omega)
 subst hv
 have HO := aPo (sJ (hi := w1.heap.size) (by simpa using lX) aPq)
 have iJ : Hid (bM (some ⟨g', 0, none⟩) n gF) := aPo (by
  have h := gA lX
  simpa using h)
 clear lX iB aU
 go_wp2
 go_ret
 exact ⟨some ⟨g', 0, none⟩, gF, by rw [hL.out]; rfl, by rw [hL.out]; exact HO.out, aG, by rw [hL.out]; exact iJ.out⟩
def K8 (l : List aA) (w : World) (e : Ending) (w' : World) : Prop := ∃ a c, e = .returned (.slice a l.length c) ∧ w'.ownsRow w.heap.size 50 8 (.slice a l.length c) l.length (aF l) ∧ Below w.heap.size w w'
theorem rP {W W' : World} {B base n : Nat} {v : Value} {xs : List Value} (h : W.ownsRow base 50 8 v n xs) (hb : Below W.heap.size W W') : W'.ownsRow base 50 8 v n xs := by
 refine ⟨h.1, ?_⟩
 rcases h.2 with h2 | ⟨g, c, aW, e, hg, hc, r⟩
 ·exact .inl h2
 ·exact .inr ⟨g, c, aW, e, hg, (hb.block g (aPp hc).1).trans hc, r⟩
theorem M4 {α : Type} : ∀ (l : List α) (j : Nat) (x : α), l[j]? = some x → l.set j x = l
 | [], _, _, h => by simp at h
 | y :: l, 0, x, h => by simp at h; rw [h]; rfl
 | y :: l, j + 1, x, h => by
  show y :: l.set j x = y :: l
  rw [M4 l j x (by simpa using h)]
set_option maxHeartbeats 5000000 in
theorem aHl (w : World) (B b off n cap : Nat) (l : List aA) (h : bP w B (some ⟨b, off, none⟩) n l) (hB : B ≤ w.heap.size) (hl : n ≤ 1048576) : Calls Tryz.prog 100 #[.slice (some ⟨b, off, none⟩) n cap] w (K8 l w) := by
 obtain ⟨i0, hi, gK, jV, iS⟩ := info_parts Tryz.infoOp
 have o9 := fun w => Lib.run_eql_slice_nil (P := Tryz.prog) w 25 50 (some ⟨b, off, none⟩) n cap 0 0 Tryz.underlying25
 have aU : (w.alloc (.cells #[] 50)).ownsRow w.heap.size 50 8 (.slice (some ⟨w.heap.size, 0, none⟩) 0 0) 0 [] := World.ownsRow_made w #[] 0 aPq (by unfold maxLen; omega) rfl
 have hL := aPo h.1
 have H := aPo h
 clear h
 go_enter Tryz.func100, Tryz.ntmps100
 go_wp2_with (at_builtin; refine wpList_append_own _ rfl _ _ 25 rfl w.heap.size 50 i0 (.agg #[.int .i64 0, .int .i64 0, .int .i64 0, .int .i64 0, .string ⟨#[]⟩, .int .i64 0, .int .i64 0, .int .i64 0]) 8 72 Tryz.underlying25 hi gK jV iS rfl (by decide) _ _ _ rfl aU ⟨b, off, none⟩ n cap (aF l) rfl ?c0 ?c1 ?c2 ?c3 ?c4 ?c5 ?_)
 case c0 => rw [eL, hL.out]
 case c1 => exact yZ (H.out.below ((Below.refl w.heap.size w).alloc aPq _) hB)
 case c2 => exact iY l
 case c3 => unfold maxLen; omega
 case c4 => omega
 case c5 => simp
 intro v' w1 lX iB Z6
 have aG := ((Below.refl w.heap.size w).alloc aPq _).grown iB (by simp) (fun j hj => (aU.lt j hj).1)
 have gX : w1.ownsRow w.heap.size 50 8 v' n (aF l) := by simpa using lX
 obtain ⟨a', gF, hv⟩ : ∃ a' gF, v' = .slice a' n gF := by
  rcases gX.2 with ⟨e, e2⟩ | ⟨g, c, aW, e, _⟩
  ·exact ⟨none, 0, by rw [e, e2]⟩
  ·exact ⟨_, _, e⟩
 subst hv
 have HO := aPo gX
 clear lX gX iB aU Z6
 go_wp2
 go_ret
 exact ⟨a', gF, by rw [hL.out]; rfl, by rw [hL.out]; exact HO.out, aG⟩
theorem aFx (w : World) (ad : Addr) (cap : Nat) : Calls Tryz.prog 100 #[.slice (some ad) 0 cap] w (K8 [] w) := by
 obtain ⟨i0, hi, gK, jV, iS⟩ := info_parts Tryz.infoOp
 have o9 := fun w => Lib.run_eql_slice_nil (P := Tryz.prog) w 25 50 (some ad) 0 cap 0 0 Tryz.underlying25
 have aU : (w.alloc (.cells #[] 50)).ownsRow w.heap.size 50 8 (.slice (some ⟨w.heap.size, 0, none⟩) 0 0) 0 [] := World.ownsRow_made w #[] 0 aPq (by unfold maxLen; omega) rfl
 go_enter Tryz.func100, Tryz.ntmps100
 go_wp2_with (at_builtin; refine wpList_append_own _ rfl _ _ 25 rfl w.heap.size 50 i0 (.agg #[.int .i64 0, .int .i64 0, .int .i64 0, .int .i64 0, .string ⟨#[]⟩, .int .i64 0, .int .i64 0, .int .i64 0]) 8 72 Tryz.underlying25 hi gK jV iS rfl (by decide) _ _ _ rfl aU ad 0 cap [] rfl ?c0 ?c1 ?c2 ?c3 ?c4 ?c5 ?_)
 case c0 => rfl
 case c1 => intro j u hj; cases hj
 case c2 => intro u hu; cases hu
 case c3 => unfold maxLen; omega
 case c4 => omega
 case c5 => simp
 intro v' w1 lX iB Z6
 have aG := ((Below.refl w.heap.size w).alloc aPq _).grown iB (by simp) (fun j hj => (aU.lt j hj).1)
 obtain ⟨a', gF, hv⟩ : ∃ a' gF, v' = .slice a' 0 gF := by
  rcases lX.2 with ⟨e, _⟩ | ⟨g, c, aW, e, _⟩
  ·exact ⟨none, 0, e⟩
  ·exact ⟨_, _, e⟩
 subst hv
 have hrw : w1.ownsRow w.heap.size 50 8 (.slice a' 0 gF) 0 [] := by simpa using lX
 have HO : Hid (w1.ownsRow w.heap.size 50 8 (.slice a' 0 gF) 0 (aF [])) := hrw
 clear hrw
 clear lX iB aU Z6
 go_wp2
 go_ret
 exact ⟨a', gF, rfl, HO.out, aG⟩
structure aD5 (w wr : World) (v : Value) (n : Nat) (l : List aA) : Prop where
 own : wr.ownsRow w.heap.size 50 8 v n (aF l)
 bel : Below w.heap.size w wr
set_option maxHeartbeats 10000000 in
theorem aFv (w : World) (B : Nat) (a : Option Addr) (n cap : Nat) (l : List aA) (h : bP w B a n l) (hB : B ≤ w.heap.size) (hn : n ≤ 1048576) (jJ : a = none → cap = 0) (hm : ∀ i, i < n → (l.getD i aA.zero).item.size ≤ 1048576) : Calls Tryz.prog 69 #[.slice a n cap] w (K8 l w) := by
 have hl := h.1
 rcases a with _ | ad
 ·obtain rfl := jJ rfl
  have hn0 : n = 0 := by
   rcases Nat.eq_zero_or_pos n with q | q
   ·exact q
   ·obtain ⟨b, off, e, _⟩ := h.2 0 q; cases e
  subst hn0; have hl0 : l = [] := List.eq_nil_of_length_eq_zero hl; subst hl0; clear h hm
  go_enter Tryz.func69, Tryz.ntmps69
  go_wp2_with fail
  refine (aDg w).mono ?_
  rintro e w1 ⟨rfl, rfl⟩; go_wp2
  refine wp_loop_rounds 1 ?_
  rw [rounds_succ]; go_wp2
  go_ret
  exact ⟨none, 0, rfl, World.ownsRow_nil w _ _ _, Below.refl _ _⟩
 ·rcases Nat.eq_zero_or_pos n with hz | hpos
  ·subst hz
   have hl0 : l = [] := List.eq_nil_of_length_eq_zero hl; subst hl0; clear h hm jJ
   go_enter Tryz.func69, Tryz.ntmps69
   go_wp2_with fail
   refine (aFx w ad cap).mono ?_
   rintro e w1 ⟨a1, c1, rfl, ho, aG⟩; have HO := aPo ho; have HB := aPo aG; clear ho aG; go_wp2
   refine wp_loop_rounds 1 ?_
   rw [rounds_succ]; go_wp2
   go_ret
   exact ⟨a1, c1, rfl, HO.out, HB.out⟩
  obtain ⟨b, off, e, _⟩ := h.2 0 hpos; injection e with e; subst e; have HM := aPo hm; clear hm jJ
  go_enter Tryz.func69, Tryz.ntmps69
  go_wp2_with fail
  refine (aHl w B b off n cap l h hB hn).mono ?_
  rintro e w1 ⟨a1, c1, rfl, ho, aG⟩; have HC : Hid (aD5 w w1 (.slice a1 l.length c1) l.length l) := ⟨ho, aG⟩; clear ho aG h; subst hl; go_wp2
  go_loopw [4, 9] (fun _ i wr => ∃ k : Nat, k ≤ l.length ∧ i = .int .i64 (k : Int) ∧ Hid (aD5 w wr (.slice a1 l.length c1) l.length l)) (fun _ i _ => l.length - (intOf i).toNat)
  case atStart => exact ⟨0, by omega, rfl, HC⟩
  case round =>
   obtain ⟨k, hk, rfl, HR⟩ := hrel
   by_cases aJ : k < l.length
   rotate_left
   ·obtain rfl : k = l.length := by omega
    have HP : Hid (K8 l w (.returned (.slice a1 l.length c1)) wr) := ⟨a1, c1, rfl, HR.out.own, HR.out.bel⟩; go_wp2
    go_ret
    exact HP.out
   obtain ⟨g, hg⟩ : ∃ g, a1 = some ⟨g, 0, none⟩ := by
    rcases HR.out.own.2 with ⟨e, e2⟩ | ⟨g, c, aW, e, _⟩
    ·omega
    ·injection e with e1 _ _; exact ⟨g, e1⟩
   subst hg; have qG := HM.out k aJ; have fM : Hid (∀ w2, aD5 w w2 (.slice (some ⟨g, 0, none⟩) l.length c1) l.length l → w2.cell? ⟨g, k * 8 + 4, none⟩ = some (.string (l.getD k aA.zero).item) ∧ w2.frozen? ⟨g, k * 8 + 4, none⟩ = false ∧ aD5 w (w2.setCell ⟨g, k * 8 + 4, none⟩ (.string (l.getD k aA.zero).item)) (.slice (some ⟨g, 0, none⟩) l.length c1) l.length l) := fun w2 h => by
    have hc : (aF l)[k * 8 + 4]? = some (.string (l.getD k aA.zero).item) := (sL l k 4 aJ (by omega)).trans rfl
    obtain ⟨h1, h2⟩ := h.own.stored (k * 8 + 4) (.string (l.getD k aA.zero).item); rw [M4 _ _ _ hc] at h1; have hg0 := (h.own.lt g rfl).1; exact ⟨(h.own.cellAt (k * 8 + 4) (by omega)).trans hc, h.own.frozenAt (k * 8 + 4), h1, h.bel.setCell (p := ⟨g, k * 8 + 4, none⟩) hg0 _⟩
   generalize (l.getD k aA.zero).item = s at qG fM; have c4 := (fM.out wr HR.out).1
   go_wp2_with fail
   refine (l6 s qG _).mono ?_
   rintro e w2 ⟨rfl, aM⟩; have lM : Hid (aD5 w w2 (.slice (some ⟨g, 0, none⟩) l.length c1) l.length l) := ⟨rP (B := 0) HR.out.own aM, HR.out.bel.trans (aM.mono HR.out.bel.size)⟩; clear c4 aM HR; obtain ⟨c4, f4, h3⟩ := fM.out w2 lM.out; have vX := aPo h3; clear h3; go_wp2
   go_roundw
   case rel => exact ⟨k + 1, by omega, by go_num, vX⟩
   case measure => simp [intOf]; omega
theorem aE3 {W W' : World} {base n : Nat} {v : Value} {xs : List Value} (h : W.ownsRow base 50 8 v n xs) (hk : ∀ j, base ≤ j → W'.heap[j]? = W.heap[j]?) : W'.ownsRow base 50 8 v n xs := by
 refine ⟨h.1, ?_⟩
 rcases h.2 with h2 | ⟨g, c, aW, e, hg, hc, r⟩
 ·exact .inl h2
 ·exact .inr ⟨g, c, aW, e, hg, (hk g hg).trans hc, r⟩
set_option linter.unusedSimpArgs false in
set_option maxHeartbeats 20000000 in
theorem D9 (w : World) (B g off : Nat) (ao : Option Addr) (nv cv no co : Nat) (xs : List Int) (l : List aA) (hx : Ints w B (some ⟨g, off, none⟩) nv xs) (h : bP w B ao no l) (hB : B ≤ w.heap.size) (hn0 : 0 < nv) (hv : nv ≤ 1048576) (hn : no ≤ 1048576) (jJ : ao = none → co = 0) (hm : ∀ i, i < no → (l.getD i aA.zero).item.size ≤ 1048576) :
  Calls Tryz.prog 79 #[.agg #[.slice (some ⟨g, off, none⟩) nv cv, .slice ao no co]] w fun e w' => ∃ va vc oa oc bY, e = .returned (.agg #[.slice va xs.length vc, .slice oa l.length oc]) ∧ Own w' w.heap.size bY va xs.length xs ∧ w'.ownsRow bY 50 8 (.slice oa l.length oc) l.length (aF l) ∧ w.heap.size ≤ bY ∧ bY ≤ w'.heap.size ∧ Below w.heap.size w w' ∧ bM va xs.length vc := by
 have hT := tV.mk0 w #[.slice (some ⟨g, off, none⟩) nv cv, .slice ao no co] #[.slice none 0 0, .slice none 0 0] 27
 have HV := aPo (hx.below hT.bel hB)
 have HO := aPo (h.below hT.bel hB)
 have HT := aPo hT
 have HM := aPo hm
 have HC := aPo jJ
 have hBw := hB
 clear hx h hT hB hm jJ
 go_enter Tryz.func79, Tryz.ntmps79
 go_upto_region 1 with fail
 rename_i KR c9
 generalize (w.alloc (.cells #[.slice (some ⟨g, off, none⟩) nv cv, .slice ao no co] 27)).alloc (.cells #[.slice none 0 0, .slice none 0 0] 27) = w0 at HV HO HT ⊢
 have aIl := HT.out.bel.size
 have rH := bF HT.out.snd
 obtain ⟨z0, dB⟩ : ∃ z0, w0.drew = z0 := ⟨_, rfl⟩
 have g0 : Below w0.heap.size w0 z0 := by rw [← dB]; exact ⟨rfl, rfl, rfl, Nat.le_refl _, fun _ _ => rfl⟩
 have HVz := aPo (HV.out.below g0 (by omega))
 have HOz := aPo (HO.out.below g0 (by omega))
 have cR := aPo (HT.out.next g0)
 have jW := g0.size
 have hS := pair_cells cR.out.fst
 clear g0 HV HO HT
 refine wp_region_held_drew (S := fun w' => w'.cell? ⟨w.heap.size, 0, none⟩ = some (.slice (some ⟨g, off, none⟩) nv cv) ∧ w'.cell? ⟨w.heap.size, 1, none⟩ = some (.slice ao no co)) (by kernel_rfl) (by rw [dB]; exact hS) (fun aL => ?_)
 rw [dB]
 clear aL dB
 refine tj 0 ?_
 refine tj 1 ?_
 refine tj 3 ?_
 refine tj 4 ?_
 refine rk 2 rfl (fun K hK => ?_)
 go_simp
 go_at_call 110
 refine (aFy z0 B g off nv cv xs HVz.out hn0 hv).mono ?_
 rintro e w1 ⟨va, vc, rfl, aU, aG, bW⟩
 have nM := aPo bW
 clear bW
 have dD := aPo (HOz.out.below aG (by omega))
 have bC := aPo (cR.out.next aG)
 have jR := aPo aU
 have eZ := aG.size
 have bG := pair_cells bC.out.fst
 clear aG aU HVz HOz cR
 refine hK.out _ _ bG (fun bS => ?_)
 clear hK K
 (try simp only [Act.put, u1, u2, u3])
 refine rk 5 rfl (fun K hK => ?_)
 go_simp
 go_at_call 69
 refine (aFv w1 B ao no co l dD.out (by omega) hn HC.out HM.out).mono ?_
 rintro e w2 ⟨oa, oc, rfl, eA, aM⟩
 have aK := aPo (bC.out.next aM)
 have kQ := aPo (jR.out.below aM aPq)
 have vY := aPo eA
 have eC := aM.size
 have aNO := bF aK.out.snd
 have eD := pair_cells aK.out.fst
 clear aM eA dD bC jR
 refine hK.out _ _ eD (fun dQ => ?_)
 clear hK K
 (try simp only [Act.put, u1, u2, u3])
 refine tj 6 ?_
 obtain ⟨r0, r1⟩ := pair_cells aK.out.snd
 obtain ⟨fz0, fz1⟩ := aB aK.out.snd
 have gI : ((w2.setCell ⟨w.heap.size + 1, 0, none⟩ (.slice va xs.length vc)).setCell ⟨w.heap.size + 1, 1, none⟩ (.slice oa l.length oc)).cell? ⟨w.heap.size, 0, none⟩ = some (.slice (some ⟨g, off, none⟩) nv cv) ∧ ((w2.setCell ⟨w.heap.size + 1, 0, none⟩ (.slice va xs.length vc)).setCell ⟨w.heap.size + 1, 1, none⟩ (.slice oa l.length oc)).cell? ⟨w.heap.size, 1, none⟩ = some (.slice ao no co) := pair_cells ((aD _ _ (by omega)).trans aK.out.fst)
 refine rk 7 rfl (fun K hK => ?_)
 go_simp
 refine hK.out _ _ gI (fun lC => ?_)
 clear hK K
 (try simp only [Act.put, u1, u2, u3])
 refine wpAnyH_done (by kernel_rfl) ?_ _
 have oJ : Hid (((w2.setCell ⟨w.heap.size + 1, 0, none⟩ (.slice va xs.length vc)).setCell ⟨w.heap.size + 1, 1, none⟩ (.slice oa l.length oc)).heap[w.heap.size + 1]? = some (.cells #[.slice va xs.length vc, .slice oa l.length oc] 27 (0, 0))) := cE _ _ aK.out.snd
 have nN : Hid (Below w.heap.size w ((w2.setCell ⟨w.heap.size + 1, 0, none⟩ (.slice va xs.length vc)).setCell ⟨w.heap.size + 1, 1, none⟩ (.slice oa l.length oc))) := (aK.out.bel.setCell (by show _ ≤ w.heap.size + 1; omega) _).setCell (by show _ ≤ w.heap.size + 1; omega) _
 have aMg : Hid (Own ((w2.setCell ⟨w.heap.size + 1, 0, none⟩ (.slice va xs.length vc)).setCell ⟨w.heap.size + 1, 1, none⟩ (.slice oa l.length oc)) z0.heap.size w1.heap.size va xs.length xs) := kQ.out.kept fun q h1 h2 => aD _ _ (by omega)
 have aMn : Hid (((w2.setCell ⟨w.heap.size + 1, 0, none⟩ (.slice va xs.length vc)).setCell ⟨w.heap.size + 1, 1, none⟩ (.slice oa l.length oc)).ownsRow w1.heap.size 50 8 (.slice oa l.length oc) l.length (aF l)) := aE3 vY.out fun q h1 => aD _ _ (by omega)
 have aNq : ((w2.setCell ⟨w.heap.size + 1, 0, none⟩ (.slice va xs.length vc)).setCell ⟨w.heap.size + 1, 1, none⟩ (.slice oa l.length oc)).heap.size = w2.heap.size := aY _ _ _ _
 clear hS bG eD gI bS dQ lC r0 r1 fz0 fz1
 generalize (w2.setCell ⟨w.heap.size + 1, 0, none⟩ (.slice va xs.length vc)).setCell ⟨w.heap.size + 1, 1, none⟩ (.slice oa l.length oc) = wf at oJ nN aMg aMn aNq ⊢
 apply c9
 obtain ⟨q0, q1⟩ := pair_cells oJ.out
 go_wp2
 exact bodyPost_ret (v := .agg #[.slice va xs.length vc, .slice oa l.length oc]) (by simp [results, Tryz.results79, go_sem, q0, q1]) rfl ⟨va, vc, oa, oc, w1.heap.size, rfl, aMg.out.more (by omega) aPq, aMn.out, by omega, by omega, nN.out, nM.out⟩
def K5 (a b : aA) : Bool := preB a.stamp a.dev a.seq b.stamp b.dev b.seq
end Go.Proofs.YthkagbnpcjidfaaGreatDoor
