/- Walks and mathematics that several claims share, part 22. -/
import Derived.Test.YthkagbnpcjidfaaGreatDoorGq14
import Derived.Deep.Cut
import Derived.Deep.RegionHeld3
namespace Go.Proofs.YthkagbnpcjidfaaGreatDoor
set_option maxRecDepth 100000
open Go.RowKit
set_option linter.unusedVariables false
set_option linter.unusedSimpArgs false
def C5 (l : List aA) (i : Nat) (dev seq : Int) : Prop := (aB l i).dev = dev ∧ (aB l i).seq = seq
theorem qT {xs : List Int} {l : List aA} (h : aD xs l = true) {i : Nat} (hi : i < l.length) : ∃ d : Nat, d < 4 ∧ aP xs d ≤ i ∧ i < aP xs (d + 1) ∧ (aB l i).ok = true ∧ (aB l i).dev = (d : Int) ∧ (aB l i).seq = ((i - aP xs d : Nat) : Int) + 1 := by
 obtain ⟨_, h1, h2⟩ := jW h
 have hd : ∃ d : Nat, d < 4 ∧ aP xs d ≤ i ∧ i < aP xs (d + 1) := by
  by_cases a1 : i < aP xs 1
  ·exact ⟨0, by omega, Nat.zero_le _, a1⟩
  by_cases a2 : i < aP xs 2
  ·exact ⟨1, by omega, by omega, a2⟩
  by_cases a3 : i < aP xs 3
  ·exact ⟨2, by omega, by omega, a3⟩
  ·exact ⟨3, by omega, by omega, by rw [h2]; exact hi⟩
 obtain ⟨d, hd4, iS, hhi⟩ := hd
 have hb := h1 d hd4
 unfold jD at hb
 rw [Bool.and_eq_true] at hb
 have hr := hb.2
 unfold lU at hr
 rw [List.all_eq_true] at hr
 have es : aP xs (d + 1) = aP xs d + (xs.getD d 0).toNat := rfl
 have hf := hr (i - aP xs d) (by rw [List.mem_range]; omega)
 have e : aP xs d + (i - aP xs d) = i := by omega
 unfold kG at hf
 rw [e] at hf
 simp only [Bool.and_eq_true, decide_eq_true_eq] at hf
 exact ⟨d, hd4, iS, hhi, hf.1, hf.2.1, hf.2.2.1⟩
theorem sD {xs : List Int} {l : List aA} (h : aD xs l = true) : j6 l = true := aMk fun i hi => by
 unfold aDA
 by_cases h0 : i = 0
 ·rw [decide_eq_true h0]; rfl
 obtain ⟨d, hd, a1, a2, _, e1, e2⟩ := qT h hi
 obtain ⟨d', hd', b1, b2, _, f1, f2⟩ := qT h (i := i - 1) (by omega)
 rw [decide_eq_false h0, Bool.false_or, e1, e2, f1, f2]
 unfold numB
 refine decide_eq_true ?_
 rcases Nat.lt_trichotomy d' d with g | g | g
 ·exact .inl (by omega)
 ·subst g
  exact .inr ⟨rfl, by omega⟩
 ·have := jI xs (d + 1) d' (by omega)
  omega
theorem aH7 {a b c d e f : Int} (h1 : numB a b c d = true) (h2 : numB c d e f = true) : numB a b e f = true := by
 unfold numB at *
 have h1 := of_decide_eq_true h1
 have h2 := of_decide_eq_true h2
 exact decide_eq_true (by omega)
theorem aGe {a b : Int} (h : numB a b a b = true) : False := by
 unfold numB at h
 have := of_decide_eq_true h
 omega
theorem aIx {l : List aA} (h : j6 l = true) {i : Nat} (hi : i + 1 < l.length) : numB (aB l i).dev (aB l i).seq (aB l (i + 1)).dev (aB l (i + 1)).seq = true := by
 unfold j6 at h
 rw [List.all_eq_true] at h
 have := h (i + 1) (by simpa using hi)
 unfold aDA at this
 rw [decide_eq_false (by omega), Bool.false_or] at this
 exact this
theorem aEz {l : List aA} (h : j6 l = true) : ∀ j i, i < j → j < l.length → numB (aB l i).dev (aB l i).seq (aB l j).dev (aB l j).seq = true
 | 0, i, hij, _ => by omega
 | j + 1, i, hij, hj => by
  rcases Nat.lt_or_ge i j with h1 | h1
  ·exact aH7 (aEz h j i h1 (by omega)) (aIx h hj)
  ·obtain rfl : i = j := by omega
   exact aIx h hj
theorem aEy {l : List aA} (h : j6 l = true) {i j : Nat} {dev seq : Int} (hi : i < l.length) (hj : j < l.length) (e1 : C5 l i dev seq) (e2 : C5 l j dev seq) : i = j := by
 unfold C5 at e1 e2
 rcases Nat.lt_trichotomy i j with g | g | g
 ·have := aEz h j i g hj
  rw [e1.1, e1.2, e2.1, e2.2] at this; exact (aGe this).elim
 ·exact g
 ·have := aEz h i j g hi
  rw [e1.1, e1.2, e2.1, e2.2] at this; exact (aGe this).elim
def aAq (x : aA) : Value := .agg #[.int .i64 x.dev, .int .i64 x.seq, .int .i64 x.stamp, .int .i64 x.kind, .string x.item, .int .i64 x.qty, .int .i64 x.level, .int .i64 x.undos]
structure pM (w w1 : World) (x y z : Array Value) (S T U : TypeId) : Prop where
 fst : w1.heap[w.heap.size]? = some (.cells x S (0, 0))
 snd : w1.heap[w.heap.size + 1]? = some (.cells y T (0, 0))
 res : w1.heap[w.heap.size + 1 + 1]? = some (.cells z U (0, 0))
 bel : Below w.heap.size w w1
theorem pM.mk0 (w : World) (x y z : Array Value) (S T U : TypeId) : pM w (((w.alloc (.cells x S)).alloc (.cells y T)).alloc (.cells z U)) x y z S T U := by
 have e1 : (w.alloc (.cells x S)).heap.size = w.heap.size + 1 := by simp
 have e2 : ((w.alloc (.cells x S)).alloc (.cells y T)).heap.size = w.heap.size + 1 + 1 := by simp
 refine ⟨?_, ?_, ?_, (((Below.refl _ w).alloc aRr _).alloc (by simp) _).alloc (by simp; omega) _⟩
 ·rw [Below.heap_alloc _ _ _ (by omega), Below.heap_alloc _ _ _ (by omega)]
  exact heap_alloc_new w _
 ·rw [Below.heap_alloc _ _ _ (by omega), ← e1]
  exact heap_alloc_new _ _
 ·rw [← e2]
  exact heap_alloc_new _ _
theorem pM.next {w w1 w2 : World} {x y z : Array Value} {S T U : TypeId} (h : pM w w1 x y z S T U) (hb : Below w1.heap.size w1 w2) : pM w w2 x y z S T U :=
 ⟨(hb.block _ (aRq h.fst).1).trans h.fst, (hb.block _ (aRq h.snd).1).trans h.snd, (hb.block _ (aRq h.res).1).trans h.res, h.bel.trans (hb.mono h.bel.size)⟩
set_option maxHeartbeats 10000000 in
theorem aJF (w : World) (B : Nat) (a : Option Addr) (n c : Nat) (l : List aA) (dev seq : Int) (h : bR w B a n l) (hn : n ≤ 1048576) :
  Calls Tryz.prog 118 #[.slice a n c, .int .i64 dev, .int .i64 seq] w fun e w' => ((∃ i : Nat, i < n ∧ C5 l i dev seq ∧ e = .returned (.int .i64 (i : Int))) ∨ ((∀ j, j < n → ¬ C5 l j dev seq) ∧ e = .returned (.int .i64 (-1)))) ∧ w = w' := by
 have H := aRp h
 clear h
 go_enter Tryz.func118, Tryz.ntmps118
 go_wp2
 go_loop [7] (fun i => ∃ k : Nat, k ≤ n ∧ i = .int .i64 (k : Int) ∧ Hid (∀ j, j < k → ¬ C5 l j dev seq)) (fun i => n - (intOf i).toNat)
 case atStart => exact ⟨0, by omega, rfl, fun j hj => absurd hj (by omega)⟩
 case round =>
  obtain ⟨k, hk, rfl, HN⟩ := hrel
  by_cases aM : k < n
  rotate_left
  ·obtain rfl : k = n := by omega
   go_wp2
   go_ret
   exact ⟨.inr ⟨HN.out, rfl⟩, rfl⟩
  obtain ⟨b, off, rfl, hb, ho⟩ := H.out.2 k aM; have hok : rD w b (off + k * 8) (aB l k) := ho; clear ho; have HE : Hid (∀ a b, a = (aB l k).dev → b = (aB l k).seq → (a = dev ∧ b = seq ↔ C5 l k dev seq)) := fun a b h1 h2 => by subst h1 h2; exact Iff.rfl
  have HS : Hid (¬ C5 l k dev seq → ∀ j, j < k + 1 → ¬ C5 l j dev seq) := fun h j hj => by
   rcases Nat.lt_or_ge j k with h1 | h1
   ·exact HN.out j h1
   ·obtain rfl : j = k := by omega
    exact h
  obtain ⟨c0, c1, c2, c3, c4, c5, c6, c7⟩ := hok; have dV := aRp (HE.out _ _ rfl rfl); clear HE; generalize (aB l k).dev = xd at c0 dV; generalize (aB l k).seq = xq at c1 dV
  by_cases h1 : xd = dev
  ·have b1 : (xd == dev) = true := by rw [h1]; exact beq_self_eq_true _
   by_cases h2 : xq = seq
   ·have b2 : (xq == seq) = true := by rw [h2]; exact beq_self_eq_true _
    have HF := aRp (dV.out.1 ⟨h1, h2⟩); clear h1 h2; go_wp2
    go_ret
    exact ⟨.inl ⟨k, aM, HF.out, rfl⟩, rfl⟩
   ·have b2 : (xq == seq) = false := by rw [beq_eq_false_iff_ne]; exact h2
    have HF := aRp (HS.out (fun h => h2 (dV.out.2 h).2))
    clear h1 h2; go_wp2
    go_round
    case rel => exact ⟨k + 1, by omega, by go_num, HF⟩
    case measure => simp [intOf]; omega
  ·have b1 : (xd == dev) = false := by rw [beq_eq_false_iff_ne]; exact h1
   have HF := aRp (HS.out (fun h => h1 (dV.out.2 h).1))
   clear h1; go_wp2
   go_round
   case rel => exact ⟨k + 1, by omega, by go_num, HF⟩
   case measure => simp [intOf]; omega
theorem A4 {w w' : World} {base n : Nat} {v : Value} {xs : List Value} (h : w.ownsRow base 50 8 v n xs) (hb : Below w.heap.size w w') : w'.ownsRow base 50 8 v n xs :=
 h.kept (row := none) ⟨hb.os, hb.tape, hb.output, hb.size, fun j hj _ => hb.block j hj⟩ (by rcases v.ownBlock with _ | g; exact .inl rfl; exact .inr (fun h => by cases h))
theorem d8 (w : World) (x : aA) : ∀ j u, (bX x)[j]? = some u → (w.alloc (.cells #[.int .i64 x.dev, .int .i64 x.seq, .int .i64 x.stamp, .int .i64 x.kind, .string x.item, .int .i64 x.qty, .int .i64 x.level, .int .i64 x.undos] 50)).cell? ((⟨w.heap.size, 0, none⟩ : Addr).add j) = some u := by
 intro j u hj
 have hjl : j < 8 := by
  rcases Nat.lt_or_ge j 8 with h' | h'
  ·exact h'
  ·rw [List.getElem?_eq_none (by show 8 ≤ j; exact h')] at hj; cases hj
 rw [uB, Nat.zero_add, aRs (heap_alloc_new w _)]
 obtain rfl | rfl | rfl | rfl | rfl | rfl | rfl | rfl : j = 0 ∨ j = 1 ∨ j = 2 ∨ j = 3 ∨ j = 4 ∨ j = 5 ∨ j = 6 ∨ j = 7 := by omega
 all_goals exact hj
theorem aG8 {xs : List Int} {l : List aA} (h : aD xs l = true) {i : Nat} (hi : i < l.length) : (aB l i).ok = true := by
 obtain ⟨_, _, _, _, e, _⟩ := qT h hi
 exact e
theorem aG7 (w : World) (B g off n cap : Nat) (xs : List Int) (h : Ints w B (some ⟨g, off, none⟩) n xs) (hn : 0 < n) (hl : n ≤ 1048576) :
  Calls Tryz.prog 110 #[.slice (some ⟨g, off, none⟩) n cap] w (R7 xs w) := by
 obtain ⟨i0, hi, gR, kH, jN⟩ := info_parts Tryz.infoI64
 have aA9 := fun w => Lib.run_eql_slice_nil (P := Tryz.prog) w 24 2 (some ⟨g, off, none⟩) n cap 0 0 Tryz.underlying24
 have aZ : (w.alloc (.cells #[] 2)).ownsRow w.heap.size 2 1 (.slice (some ⟨w.heap.size, 0, none⟩) 0 0) 0 [] := World.ownsRow_made w #[] 0 aRr (by unfold maxLen; omega) rfl
 have hL := aRp h.1
 have H := aRp h
 clear h
 go_enter Tryz.func110, Tryz.ntmps110
 go_wp2_with (at_builtin; refine wpList_append_own _ rfl _ _ 24 rfl w.heap.size 2 i0 (.int .i64 0) 1 8 Tryz.underlying24 hi gR kH jN rfl (by decide) _ _ _ rfl aZ ⟨g, off, none⟩ n cap (xs.map (Value.int .i64)) rfl ?c0 ?c1 ?c2 ?c3 ?c4 ?c5 ?_)
 case c0 => rw [List.length_map, hL.out, Nat.mul_one]
 case c1 =>
  intro j u hj
  have hjl : j < xs.length := by
   rcases Nat.lt_or_ge j xs.length with h' | h'
   ·exact h'
   ·rw [List.getElem?_eq_none (by simpa using h')] at hj; cases hj
  obtain ⟨b, iI, e, hb, hc⟩ := H.out.2 j (by rw [← hL.out]; exact hjl)
  cases e; have aM := block_lt_of_cell hc; rw [List.getElem?_map, List.getElem?_eq_getElem hjl] at hj; cases hj; rw [uB, World.cell?_alloc_lt w _ _ aM, hc, List.getD_eq_getElem?_getD, List.getElem?_eq_getElem hjl]
  rfl
 case c2 => exact ints_oneCell _ _
 case c3 => unfold maxLen; omega
 case c4 => omega
 case c5 => simp
 intro v' w1 mG iN _
 have aF := ((Below.refl w.heap.size w).alloc aRr _).grown iN (by simp) (fun j hj => (aZ.lt j hj).1)
 obtain ⟨g', fB, hv, _, _⟩ := mG.form (by omega)
 subst hv
 have HO := aRp (tJ (hi := w1.heap.size) (by simpa using mG) aRr)
 have nL : Hid (bY (some ⟨g', 0, none⟩) n fB) := aRp (by
  have h := fY mG
  simpa using h)
 clear mG iN aZ
 go_wp2
 go_ret
 exact ⟨some ⟨g', 0, none⟩, fB, by rw [hL.out]; rfl, by rw [hL.out]; exact HO.out, aF, by rw [hL.out]; exact nL.out⟩
def R8 (l : List aA) (w : World) (e : Ending) (w' : World) : Prop := ∃ a c, e = .returned (.slice a l.length c) ∧ w'.ownsRow w.heap.size 50 8 (.slice a l.length c) l.length (aG l) ∧ Below w.heap.size w w'
theorem sK {W W' : World} {B base n : Nat} {v : Value} {xs : List Value} (h : W.ownsRow base 50 8 v n xs) (hb : Below W.heap.size W W') : W'.ownsRow base 50 8 v n xs := by
 refine ⟨h.1, ?_⟩
 rcases h.2 with h2 | ⟨g, c, aY, e, hg, hc, r⟩
 ·exact .inl h2
 ·exact .inr ⟨g, c, aY, e, hg, (hb.block g (aRq hc).1).trans hc, r⟩
theorem W4 {α : Type} : ∀ (l : List α) (j : Nat) (x : α), l[j]? = some x → l.set j x = l
 | [], _, _, h => by simp at h
 | y :: l, 0, x, h => by simp at h; rw [h]; rfl
 | y :: l, j + 1, x, h => by
  show y :: l.set j x = y :: l
  rw [W4 l j x (by simpa using h)]
set_option maxHeartbeats 5000000 in
theorem aIX (w : World) (B b off n cap : Nat) (l : List aA) (h : bR w B (some ⟨b, off, none⟩) n l) (hB : B ≤ w.heap.size) (hl : n ≤ 1048576) : Calls Tryz.prog 100 #[.slice (some ⟨b, off, none⟩) n cap] w (R8 l w) := by
 obtain ⟨i0, hi, gR, kH, jN⟩ := info_parts Tryz.infoOp
 have aA9 := fun w => Lib.run_eql_slice_nil (P := Tryz.prog) w 25 50 (some ⟨b, off, none⟩) n cap 0 0 Tryz.underlying25
 have aZ : (w.alloc (.cells #[] 50)).ownsRow w.heap.size 50 8 (.slice (some ⟨w.heap.size, 0, none⟩) 0 0) 0 [] := World.ownsRow_made w #[] 0 aRr (by unfold maxLen; omega) rfl
 have hL := aRp h.1
 have H := aRp h
 clear h
 go_enter Tryz.func100, Tryz.ntmps100
 go_wp2_with (at_builtin; refine wpList_append_own _ rfl _ _ 25 rfl w.heap.size 50 i0 (.agg #[.int .i64 0, .int .i64 0, .int .i64 0, .int .i64 0, .string ⟨#[]⟩, .int .i64 0, .int .i64 0, .int .i64 0]) 8 72 Tryz.underlying25 hi gR kH jN rfl (by decide) _ _ _ rfl aZ ⟨b, off, none⟩ n cap (aG l) rfl ?c0 ?c1 ?c2 ?c3 ?c4 ?c5 ?_)
 case c0 => rw [eK, hL.out]
 case c1 => exact C6 (H.out.below ((Below.refl w.heap.size w).alloc aRr _) hB)
 case c2 => exact jH l
 case c3 => unfold maxLen; omega
 case c4 => omega
 case c5 => simp
 intro v' w1 mG iN hnn
 have aF := ((Below.refl w.heap.size w).alloc aRr _).grown iN (by simp) (fun j hj => (aZ.lt j hj).1)
 have iF : w1.ownsRow w.heap.size 50 8 v' n (aG l) := by simpa using mG
 obtain ⟨a', fB, hv⟩ : ∃ a' fB, v' = .slice a' n fB := by
  rcases iF.2 with ⟨e, e2⟩ | ⟨g, c, aY, e, _⟩
  ·exact ⟨none, 0, by rw [e, e2]⟩
  ·exact ⟨_, _, e⟩
 subst hv
 have HO := aRp iF
 clear mG iF iN aZ hnn
 go_wp2
 go_ret
 exact ⟨a', fB, by rw [hL.out]; rfl, by rw [hL.out]; exact HO.out, aF⟩
theorem aG6 (w : World) (ad : Addr) (cap : Nat) : Calls Tryz.prog 100 #[.slice (some ad) 0 cap] w (R8 [] w) := by
 obtain ⟨i0, hi, gR, kH, jN⟩ := info_parts Tryz.infoOp
 have aA9 := fun w => Lib.run_eql_slice_nil (P := Tryz.prog) w 25 50 (some ad) 0 cap 0 0 Tryz.underlying25
 have aZ : (w.alloc (.cells #[] 50)).ownsRow w.heap.size 50 8 (.slice (some ⟨w.heap.size, 0, none⟩) 0 0) 0 [] := World.ownsRow_made w #[] 0 aRr (by unfold maxLen; omega) rfl
 go_enter Tryz.func100, Tryz.ntmps100
 go_wp2_with (at_builtin; refine wpList_append_own _ rfl _ _ 25 rfl w.heap.size 50 i0 (.agg #[.int .i64 0, .int .i64 0, .int .i64 0, .int .i64 0, .string ⟨#[]⟩, .int .i64 0, .int .i64 0, .int .i64 0]) 8 72 Tryz.underlying25 hi gR kH jN rfl (by decide) _ _ _ rfl aZ ad 0 cap [] rfl ?c0 ?c1 ?c2 ?c3 ?c4 ?c5 ?_)
 case c0 => rfl
 case c1 => intro j u hj; cases hj
 case c2 => intro u hu; cases hu
 case c3 => unfold maxLen; omega
 case c4 => omega
 case c5 => simp
 intro v' w1 mG iN hnn
 have aF := ((Below.refl w.heap.size w).alloc aRr _).grown iN (by simp) (fun j hj => (aZ.lt j hj).1)
 obtain ⟨a', fB, hv⟩ : ∃ a' fB, v' = .slice a' 0 fB := by
  rcases mG.2 with ⟨e, _⟩ | ⟨g, c, aY, e, _⟩
  ·exact ⟨none, 0, e⟩
  ·exact ⟨_, _, e⟩
 subst hv
 have hrw : w1.ownsRow w.heap.size 50 8 (.slice a' 0 fB) 0 [] := by simpa using mG
 have HO : Hid (w1.ownsRow w.heap.size 50 8 (.slice a' 0 fB) 0 (aG [])) := hrw
 clear hrw
 clear mG iN aZ hnn
 go_wp2
 go_ret
 exact ⟨a', fB, rfl, HO.out, aF⟩
structure aFF (w wr : World) (v : Value) (n : Nat) (l : List aA) : Prop where
 own : wr.ownsRow w.heap.size 50 8 v n (aG l)
 bel : Below w.heap.size w wr
set_option maxHeartbeats 10000000 in
theorem aG4 (w : World) (B : Nat) (a : Option Addr) (n cap : Nat) (l : List aA) (h : bR w B a n l) (hB : B ≤ w.heap.size) (hn : n ≤ 1048576) (jQ : a = none → cap = 0) (hm : ∀ i, i < n → (l.getD i aA.zero).item.size ≤ 1048576) : Calls Tryz.prog 69 #[.slice a n cap] w (R8 l w) := by
 have hl := h.1
 rcases a with _ | ad
 ·obtain rfl := jQ rfl
  have hn0 : n = 0 := by
   rcases Nat.eq_zero_or_pos n with q | q
   ·exact q
   ·obtain ⟨b, off, e, _⟩ := h.2 0 q; cases e
  subst hn0; have hl0 : l = [] := List.eq_nil_of_length_eq_zero hl; subst hl0; clear h hm
  go_enter Tryz.func69, Tryz.ntmps69
  go_wp2_with fail
  refine (aET w).mono ?_
  rintro e w1 ⟨rfl, rfl⟩; go_wp2
  refine wp_loop_rounds 1 ?_
  rw [rounds_succ]; go_wp2
  go_ret
  exact ⟨none, 0, rfl, World.ownsRow_nil w _ _ _, Below.refl _ _⟩
 ·rcases Nat.eq_zero_or_pos n with hz | hpos
  ·subst hz
   have hl0 : l = [] := List.eq_nil_of_length_eq_zero hl; subst hl0; clear h hm jQ
   go_enter Tryz.func69, Tryz.ntmps69
   go_wp2_with fail
   refine (aG6 w ad cap).mono ?_
   rintro e w1 ⟨a1, c1, rfl, ho, aF⟩; have HO := aRp ho; have HB := aRp aF; clear ho aF; go_wp2
   refine wp_loop_rounds 1 ?_
   rw [rounds_succ]; go_wp2
   go_ret
   exact ⟨a1, c1, rfl, HO.out, HB.out⟩
  obtain ⟨b, off, e, _⟩ := h.2 0 hpos; injection e with e; subst e; have HM := aRp hm; clear hm jQ
  go_enter Tryz.func69, Tryz.ntmps69
  go_wp2_with fail
  refine (aIX w B b off n cap l h hB hn).mono ?_
  rintro e w1 ⟨a1, c1, rfl, ho, aF⟩; have HC : Hid (aFF w w1 (.slice a1 l.length c1) l.length l) := ⟨ho, aF⟩; clear ho aF h; subst hl; go_wp2
  go_loopw [4, 9] (fun _ i wr => ∃ k : Nat, k ≤ l.length ∧ i = .int .i64 (k : Int) ∧ Hid (aFF w wr (.slice a1 l.length c1) l.length l)) (fun _ i _ => l.length - (intOf i).toNat)
  case atStart => exact ⟨0, by omega, rfl, HC⟩
  case round =>
   obtain ⟨k, hk, rfl, HR⟩ := hrel
   by_cases aM : k < l.length
   rotate_left
   ·obtain rfl : k = l.length := by omega
    have HP : Hid (R8 l w (.returned (.slice a1 l.length c1)) wr) := ⟨a1, c1, rfl, HR.out.own, HR.out.bel⟩; go_wp2
    go_ret
    exact HP.out
   obtain ⟨g, hg⟩ : ∃ g, a1 = some ⟨g, 0, none⟩ := by
    rcases HR.out.own.2 with ⟨e, e2⟩ | ⟨g, c, aY, e, _⟩
    ·omega
    ·injection e with e1 _ _; exact ⟨g, e1⟩
   subst hg; have tW := HM.out k aM; have fE : Hid (∀ w2, aFF w w2 (.slice (some ⟨g, 0, none⟩) l.length c1) l.length l → w2.cell? ⟨g, k * 8 + 4, none⟩ = some (.string (l.getD k aA.zero).item) ∧ w2.frozen? ⟨g, k * 8 + 4, none⟩ = false ∧ aFF w (w2.setCell ⟨g, k * 8 + 4, none⟩ (.string (l.getD k aA.zero).item)) (.slice (some ⟨g, 0, none⟩) l.length c1) l.length l) := fun w2 h => by
    have hc : (aG l)[k * 8 + 4]? = some (.string (l.getD k aA.zero).item) := (tL l k 4 aM (by omega)).trans rfl
    obtain ⟨h1, h2⟩ := h.own.stored (k * 8 + 4) (.string (l.getD k aA.zero).item); rw [W4 _ _ _ hc] at h1; have hg0 := (h.own.lt g rfl).1; exact ⟨(h.own.cellAt (k * 8 + 4) (by omega)).trans hc, h.own.frozenAt (k * 8 + 4), h1, h.bel.setCell (p := ⟨g, k * 8 + 4, none⟩) hg0 _⟩
   generalize (l.getD k aA.zero).item = s at tW fE; have c4 := (fE.out wr HR.out).1
   go_wp2_with fail
   refine (aAX s tW _).mono ?_
   rintro e w2 ⟨rfl, aI⟩; have lS : Hid (aFF w w2 (.slice (some ⟨g, 0, none⟩) l.length c1) l.length l) := ⟨sK (B := 0) HR.out.own aI, HR.out.bel.trans (aI.mono HR.out.bel.size)⟩; clear c4 aI HR; obtain ⟨c4, f4, h3⟩ := fE.out w2 lS.out; have E7 := aRp h3; clear h3; go_wp2
   go_roundw
   case rel => exact ⟨k + 1, by omega, by go_num, E7⟩
   case measure => simp [intOf]; omega
theorem aGD {W W' : World} {base n : Nat} {v : Value} {xs : List Value} (h : W.ownsRow base 50 8 v n xs) (hk : ∀ j, base ≤ j → W'.heap[j]? = W.heap[j]?) : W'.ownsRow base 50 8 v n xs := by
 refine ⟨h.1, ?_⟩
 rcases h.2 with h2 | ⟨g, c, aY, e, hg, hc, r⟩
 ·exact .inl h2
 ·exact .inr ⟨g, c, aY, e, hg, (hk g hg).trans hc, r⟩
set_option linter.unusedSimpArgs false in
set_option maxHeartbeats 20000000 in
theorem K7 (w : World) (B g off : Nat) (ao : Option Addr) (nv cv no co : Nat) (xs : List Int) (l : List aA) (hx : Ints w B (some ⟨g, off, none⟩) nv xs) (h : bR w B ao no l) (hB : B ≤ w.heap.size) (hn0 : 0 < nv) (hv : nv ≤ 1048576) (hn : no ≤ 1048576) (jQ : ao = none → co = 0) (hm : ∀ i, i < no → (l.getD i aA.zero).item.size ≤ 1048576) :
  Calls Tryz.prog 79 #[.agg #[.slice (some ⟨g, off, none⟩) nv cv, .slice ao no co]] w fun e w' => ∃ va vc oa oc cQ, e = .returned (.agg #[.slice va xs.length vc, .slice oa l.length oc]) ∧ Own w' w.heap.size cQ va xs.length xs ∧ w'.ownsRow cQ 50 8 (.slice oa l.length oc) l.length (aG l) ∧ w.heap.size ≤ cQ ∧ cQ ≤ w'.heap.size ∧ Below w.heap.size w w' ∧ bY va xs.length vc := by
 have hT := sW.mk0 w #[.slice (some ⟨g, off, none⟩) nv cv, .slice ao no co] #[.slice none 0 0, .slice none 0 0] 27
 have HV := aRp (hx.below hT.bel hB)
 have HO := aRp (h.below hT.bel hB)
 have HT := aRp hT
 have HM := aRp hm
 have HC := aRp jQ
 have hBw := hB
 clear hx h hT hB hm jQ
 go_enter Tryz.func79, Tryz.ntmps79
 go_upto_region 1 with fail
 rename_i KR hKR
 generalize (w.alloc (.cells #[.slice (some ⟨g, off, none⟩) nv cv, .slice ao no co] 27)).alloc (.cells #[.slice none 0 0, .slice none 0 0] 27) = w0 at HV HO HT ⊢
 have aGR := HT.out.bel.size
 have rB := bT HT.out.snd
 obtain ⟨z0, cZ⟩ : ∃ z0, w0.drew = z0 := ⟨_, rfl⟩
 have g0 : Below w0.heap.size w0 z0 := by rw [← cZ]; exact ⟨rfl, rfl, rfl, Nat.le_refl _, fun _ _ => rfl⟩
 have HVz := aRp (HV.out.below g0 (by omega))
 have HOz := aRp (HO.out.below g0 (by omega))
 have cU := aRp (HT.out.next g0)
 have lC := g0.size
 have hS := pair_cells cU.out.fst
 clear g0 HV HO HT
 refine wp_region_held_drew (S := fun w' => w'.cell? ⟨w.heap.size, 0, none⟩ = some (.slice (some ⟨g, off, none⟩) nv cv) ∧ w'.cell? ⟨w.heap.size, 1, none⟩ = some (.slice ao no co)) (by kernel_rfl) (by rw [cZ]; exact hS) (fun aO => ?_)
 rw [cZ]
 clear aO cZ
 refine tj 0 ?_
 refine tj 1 ?_
 refine tj 3 ?_
 refine tj 4 ?_
 refine rk 2 rfl (fun K hK => ?_)
 go_simp
 go_at_call 110
 refine (aG7 z0 B g off nv cv xs HVz.out hn0 hv).mono ?_
 rintro e w1 ⟨va, vc, rfl, aZ, aF, bU⟩
 have oH := aRp bU
 clear bU
 have cV := aRp (HOz.out.below aF (by omega))
 have aR := aRp (cU.out.next aF)
 have iV := aRp aZ
 have eL := aF.size
 have dQ := pair_cells aR.out.fst
 clear aF aZ HVz HOz cU
 refine hK.out _ _ dQ (fun bQ => ?_)
 clear hK K
 (try simp only [Act.put, u1, u2, u3])
 refine rk 5 rfl (fun K hK => ?_)
 go_simp
 go_at_call 69
 refine (aG4 w1 B ao no co l cV.out (by omega) hn HC.out HM.out).mono ?_
 rintro e w2 ⟨oa, oc, rfl, dY, aI⟩
 have aN := aRp (aR.out.next aI)
 have jZ := aRp (iV.out.below aI aRr)
 have xP := aRp dY
 have eB := aI.size
 have aPQ := bT aN.out.snd
 have eD := pair_cells aN.out.fst
 clear aI dY cV aR iV
 refine hK.out _ _ eD (fun dG => ?_)
 clear hK K
 (try simp only [Act.put, u1, u2, u3])
 refine tj 6 ?_
 obtain ⟨r0, r1⟩ := pair_cells aN.out.snd
 obtain ⟨fz0, fz1⟩ := aC aN.out.snd
 have eJ : ((w2.setCell ⟨w.heap.size + 1, 0, none⟩ (.slice va xs.length vc)).setCell ⟨w.heap.size + 1, 1, none⟩ (.slice oa l.length oc)).cell? ⟨w.heap.size, 0, none⟩ = some (.slice (some ⟨g, off, none⟩) nv cv) ∧ ((w2.setCell ⟨w.heap.size + 1, 0, none⟩ (.slice va xs.length vc)).setCell ⟨w.heap.size + 1, 1, none⟩ (.slice oa l.length oc)).cell? ⟨w.heap.size, 1, none⟩ = some (.slice ao no co) := pair_cells ((aE _ _ (by omega)).trans aN.out.fst)
 refine rk 7 rfl (fun K hK => ?_)
 go_simp
 refine hK.out _ _ eJ (fun lD => ?_)
 clear hK K
 (try simp only [Act.put, u1, u2, u3])
 refine wpAnyH_done (by kernel_rfl) ?_ _
 have pG : Hid (((w2.setCell ⟨w.heap.size + 1, 0, none⟩ (.slice va xs.length vc)).setCell ⟨w.heap.size + 1, 1, none⟩ (.slice oa l.length oc)).heap[w.heap.size + 1]? = some (.cells #[.slice va xs.length vc, .slice oa l.length oc] 27 (0, 0))) := cH _ _ aN.out.snd
 have oI : Hid (Below w.heap.size w ((w2.setCell ⟨w.heap.size + 1, 0, none⟩ (.slice va xs.length vc)).setCell ⟨w.heap.size + 1, 1, none⟩ (.slice oa l.length oc))) := (aN.out.bel.setCell (by show _ ≤ w.heap.size + 1; omega) _).setCell (by show _ ≤ w.heap.size + 1; omega) _
 have aOj : Hid (Own ((w2.setCell ⟨w.heap.size + 1, 0, none⟩ (.slice va xs.length vc)).setCell ⟨w.heap.size + 1, 1, none⟩ (.slice oa l.length oc)) z0.heap.size w1.heap.size va xs.length xs) := jZ.out.kept fun q h1 h2 => aE _ _ (by omega)
 have aOq : Hid (((w2.setCell ⟨w.heap.size + 1, 0, none⟩ (.slice va xs.length vc)).setCell ⟨w.heap.size + 1, 1, none⟩ (.slice oa l.length oc)).ownsRow w1.heap.size 50 8 (.slice oa l.length oc) l.length (aG l)) := aGD xP.out fun q h1 => aE _ _ (by omega)
 have aPw : ((w2.setCell ⟨w.heap.size + 1, 0, none⟩ (.slice va xs.length vc)).setCell ⟨w.heap.size + 1, 1, none⟩ (.slice oa l.length oc)).heap.size = w2.heap.size := bB _ _ _ _
 clear hS dQ eD eJ bQ dG lD r0 r1 fz0 fz1
 generalize (w2.setCell ⟨w.heap.size + 1, 0, none⟩ (.slice va xs.length vc)).setCell ⟨w.heap.size + 1, 1, none⟩ (.slice oa l.length oc) = wf at pG oI aOj aOq aPw ⊢
 apply hKR
 obtain ⟨q0, q1⟩ := pair_cells pG.out
 go_wp2
 exact bodyPost_ret (v := .agg #[.slice va xs.length vc, .slice oa l.length oc]) (by simp [results, Tryz.results79, go_sem, q0, q1]) rfl ⟨va, vc, oa, oc, w1.heap.size, rfl, aOj.out.more (by omega) aRr, aOq.out, by omega, by omega, oI.out, oH.out⟩
def R5 (a b : aA) : Bool := preB a.stamp a.dev a.seq b.stamp b.dev b.seq
end Go.Proofs.YthkagbnpcjidfaaGreatDoor
