/- Walks and mathematics that several claims share, part 29. -/
import Derived.Test.YtjokbaaommicmaaGreatDoorGb25
import Derived.Test.YtjokbaaommicmaaGreatDoorGb27
import Derived.Test.YtjokbaaommicmaaGreatDoorGb10
import Derived.Deep.Cut
import Derived.Deep.RegionHeld3
import Derived.Test.YtjokbaaommicmaaGreatDoorGbA
namespace Go.Proofs.YtjokbaaommicmaaGreatDoor
set_option maxRecDepth 100000
open Go.RowKit

def eqN (l : List OpV) (i : Nat) (dev seq : Int) : Prop := (atOp l i).dev = dev ∧ (atOp l i).seq = seq
theorem cart_at {xs : List Int} {l : List OpV} (h : cartB xs l = true) {i : Nat} (hi : i < l.length) : ∃ d : Nat, d < 4 ∧ stOf xs d ≤ i ∧ i < stOf xs (d + 1) ∧ (atOp l i).ok = true ∧ (atOp l i).dev = (d : Int) ∧ (atOp l i).seq = ((i - stOf xs d : Nat) : Int) + 1 := by
 obtain ⟨_, h1, h2⟩ := cart_true h
 have hd : ∃ d : Nat, d < 4 ∧ stOf xs d ≤ i ∧ i < stOf xs (d + 1) := by
  by_cases a1 : i < stOf xs 1
  ·exact ⟨0, by omega, Nat.zero_le _, a1⟩
  by_cases a2 : i < stOf xs 2
  ·exact ⟨1, by omega, by omega, a2⟩
  by_cases a3 : i < stOf xs 3
  ·exact ⟨2, by omega, by omega, a3⟩
  ·exact ⟨3, by omega, by omega, by rw [h2]; exact hi⟩
 obtain ⟨d, hd4, hlo, hhi⟩ := hd
 have hb := h1 d hd4
 unfold devB at hb
 rw [Bool.and_eq_true] at hb
 have hr := hb.2
 unfold runB at hr
 rw [List.all_eq_true] at hr
 have es : stOf xs (d + 1) = stOf xs d + (xs.getD d 0).toNat := rfl
 have hf := hr (i - stOf xs d) (by rw [List.mem_range]; omega)
 have e : stOf xs d + (i - stOf xs d) = i := by omega
 unfold fitB at hf
 rw [e] at hf
 simp only [Bool.and_eq_true, decide_eq_true_eq] at hf
 exact ⟨d, hd4, hlo, hhi, hf.1, hf.2.1, hf.2.2.1⟩
theorem cart_inc {xs : List Int} {l : List OpV} (h : cartB xs l = true) : incB l = true := inc_yes fun i hi => by
 unfold incAt
 by_cases h0 : i = 0
 ·rw [decide_eq_true h0]; rfl
 obtain ⟨d, hd, a1, a2, _, e1, e2⟩ := cart_at h hi
 obtain ⟨d', hd', b1, b2, _, f1, f2⟩ := cart_at h (i := i - 1) (by omega)
 rw [decide_eq_false h0, Bool.false_or, e1, e2, f1, f2]
 unfold numB
 refine decide_eq_true ?_
 rcases Nat.lt_trichotomy d' d with g | g | g
 ·exact .inl (by omega)
 ·subst g
  exact .inr ⟨rfl, by omega⟩
 ·have := stOf_mono xs (d + 1) d' (by omega)
  omega
theorem num_trans {a b c d e f : Int} (h1 : numB a b c d = true) (h2 : numB c d e f = true) : numB a b e f = true := by
 unfold numB at *
 have h1 := of_decide_eq_true h1
 have h2 := of_decide_eq_true h2
 exact decide_eq_true (by omega)
theorem num_irr {a b : Int} (h : numB a b a b = true) : False := by
 unfold numB at h
 have := of_decide_eq_true h
 omega
theorem inc_at {l : List OpV} (h : incB l = true) {i : Nat} (hi : i + 1 < l.length) : numB (atOp l i).dev (atOp l i).seq (atOp l (i + 1)).dev (atOp l (i + 1)).seq = true := by
 unfold incB at h
 rw [List.all_eq_true] at h
 have := h (i + 1) (by simpa using hi)
 unfold incAt at this
 rw [decide_eq_false (by omega), Bool.false_or] at this
 exact this
theorem inc_lt {l : List OpV} (h : incB l = true) : ∀ j i, i < j → j < l.length → numB (atOp l i).dev (atOp l i).seq (atOp l j).dev (atOp l j).seq = true
 | 0, i, hij, _ => by omega
 | j + 1, i, hij, hj => by
  rcases Nat.lt_or_ge i j with h1 | h1
  ·exact num_trans (inc_lt h j i h1 (by omega)) (inc_at h hj)
  ·obtain rfl : i = j := by omega
   exact inc_at h hj
theorem inc_uniq {l : List OpV} (h : incB l = true) {i j : Nat} {dev seq : Int} (hi : i < l.length) (hj : j < l.length) (e1 : eqN l i dev seq) (e2 : eqN l j dev seq) : i = j := by
 unfold eqN at e1 e2
 rcases Nat.lt_trichotomy i j with g | g | g
 ·have := inc_lt h j i g hj
  rw [e1.1, e1.2, e2.1, e2.2] at this
  exact (num_irr this).elim
 ·exact g
 ·have := inc_lt h i j g hi
  rw [e1.1, e1.2, e2.1, e2.2] at this
  exact (num_irr this).elim
/-- An operation as a value. -/
def opVal (x : OpV) : Value := .agg #[.int .i64 x.dev, .int .i64 x.seq, .int .i64 x.stamp, .int .i64 x.kind, .string x.item, .int .i64 x.qty, .int .i64 x.level, .int .i64 x.undos]
/-- Three blocks that a call has laid first: two arguments and a result. -/
structure TriF (w w1 : World) (x y z : Array Value) (S T U : TypeId) : Prop where
 fst : w1.heap[w.heap.size]? = some (.cells x S (0, 0))
 snd : w1.heap[w.heap.size + 1]? = some (.cells y T (0, 0))
 res : w1.heap[w.heap.size + 1 + 1]? = some (.cells z U (0, 0))
 bel : Below w.heap.size w w1
theorem TriF.mk0 (w : World) (x y z : Array Value) (S T U : TypeId) : TriF w (((w.alloc (.cells x S)).alloc (.cells y T)).alloc (.cells z U)) x y z S T U := by
 have e1 : (w.alloc (.cells x S)).heap.size = w.heap.size + 1 := by simp
 have e2 : ((w.alloc (.cells x S)).alloc (.cells y T)).heap.size = w.heap.size + 1 + 1 := by simp
 refine ⟨?_, ?_, ?_, (((Below.refl _ w).alloc (Nat.le_refl _) _).alloc (by simp) _).alloc (by simp; omega) _⟩
 ·rw [Below.heap_alloc _ _ _ (by omega), Below.heap_alloc _ _ _ (by omega)]
  exact heap_alloc_new w _
 ·rw [Below.heap_alloc _ _ _ (by omega), ← e1]
  exact heap_alloc_new _ _
 ·rw [← e2]
  exact heap_alloc_new _ _
theorem TriF.next {w w1 w2 : World} {x y z : Array Value} {S T U : TypeId} (h : TriF w w1 x y z S T U) (hb : Below w1.heap.size w1 w2) : TriF w w2 x y z S T U :=
 ⟨(hb.block _ (Array.getElem?_eq_some_iff.1 h.fst).1).trans h.fst, (hb.block _ (Array.getElem?_eq_some_iff.1 h.snd).1).trans h.snd, (hb.block _ (Array.getElem?_eq_some_iff.1 h.res).1).trans h.res, h.bel.trans (hb.mono h.bel.size)⟩

set_option linter.unusedVariables false
set_option linter.unusedSimpArgs false

theorem cloneIntsR (w : World) (B g off n cap : Nat) (xs : List Int) (h : Ints w B (some ⟨g, off, none⟩) n xs) (hn : 0 < n) (hl : n ≤ 1048576) :
  Calls Tryz.prog 84 #[.slice (some ⟨g, off, none⟩) n cap] w (OwnPostC xs w) := by
 obtain ⟨i0, hi, hz0, hz1, hz2⟩ := info_parts Tryz.infoI64
 have hnil := fun w => Lib.run_eql_slice_nil (P := Tryz.prog) w 22 2 (some ⟨g, off, none⟩) n cap 0 0 Tryz.underlying22
 have hown : (w.alloc (.cells #[] 2)).ownsRow w.heap.size 2 1 (.slice (some ⟨w.heap.size, 0, none⟩) 0 0) 0 [] := World.ownsRow_made w #[] 0 (Nat.le_refl _) (by unfold maxLen; omega) rfl
 have hL := Lib.hid h.1
 have H := Lib.hid h
 clear h
 go_enter Tryz.func84, Tryz.ntmps84
 go_wp2_with (at_builtin; refine wpList_append_own _ rfl _ _ 22 rfl w.heap.size 2 i0 (.int .i64 0) 1 8 Tryz.underlying22 hi hz0 hz1 hz2 rfl (by decide) _ _ _ rfl hown ⟨g, off, none⟩ n cap (xs.map (Value.int .i64)) rfl ?c0 ?c1 ?c2 ?c3 ?c4 ?c5 ?_)
 case c0 => rw [List.length_map, hL.out, Nat.mul_one]
 case c1 =>
  intro j u hj
  have hjl : j < xs.length := by
   rcases Nat.lt_or_ge j xs.length with h' | h'
   ·exact h'
   ·rw [List.getElem?_eq_none (by simpa using h')] at hj; cases hj
  obtain ⟨b, off', e, hb, hc⟩ := H.out.2 j (by rw [← hL.out]; exact hjl)
  cases e
  have hlt := block_lt_of_cell hc
  rw [List.getElem?_map, List.getElem?_eq_getElem hjl] at hj
  cases hj
  rw [add_at, World.cell?_alloc_lt w _ _ hlt, hc, List.getD_eq_getElem?_getD, List.getElem?_eq_getElem hjl]
  rfl
 case c2 => exact ints_oneCell _ _
 case c3 => unfold maxLen; omega
 case c4 => omega
 case c5 => simp
 intro v' w1 hown' hgrow _
 have hb1 := ((Below.refl w.heap.size w).alloc (Nat.le_refl _) _).grown hgrow (by simp) (fun j hj => (hown.lt j hj).1)
 obtain ⟨g', cap', hv, _, _⟩ := hown'.form (by omega)
 subst hv
 have HO := Lib.hid (own_of_row (hi := w1.heap.size) (by simpa using hown') (Nat.le_refl _))
 have HCa : Hid (Caps (some ⟨g', 0, none⟩) n cap') := Lib.hid (by
  have h := caps_of_row hown'
  simpa using h)
 clear hown' hgrow hown
 go_wp2
 go_ret
 exact ⟨some ⟨g', 0, none⟩, cap', by rw [hL.out]; rfl, by rw [hL.out]; exact HO.out, hb1, by rw [hL.out]; exact HCa.out⟩
/-- What copies of operations are: a row of the call's own. -/
def OpsPostR (l : List OpV) (w : World) (e : Ending) (w' : World) : Prop := ∃ a c, e = .returned (.slice a l.length c) ∧ w'.ownsRow w.heap.size 93 8 (.slice a l.length c) l.length (opCells l) ∧ Below w.heap.size w w'
theorem rowO_step {W W' : World} {B base n : Nat} {v : Value} {xs : List Value} (h : W.ownsRow base 93 8 v n xs) (hb : Below W.heap.size W W') : W'.ownsRow base 93 8 v n xs := by
 refine ⟨h.1, ?_⟩
 rcases h.2 with h2 | ⟨g, c, cur, e, hg, hc, r⟩
 ·exact .inl h2
 ·exact .inr ⟨g, c, cur, e, hg, (hb.block g (Array.getElem?_eq_some_iff.1 hc).1).trans hc, r⟩
theorem list_set_self {α : Type} : ∀ (l : List α) (j : Nat) (x : α), l[j]? = some x → l.set j x = l
 | [], _, _, h => by simp at h
 | y :: l, 0, x, h => by simp at h; rw [h]; rfl
 | y :: l, j + 1, x, h => by
  show y :: l.set j x = y :: l
  rw [list_set_self l j x (by simpa using h)]
set_option maxHeartbeats 5000000 in
theorem cloneOpsR (w : World) (B b off n cap : Nat) (l : List OpV) (h : Ops w B (some ⟨b, off, none⟩) n l) (hB : B ≤ w.heap.size) (hl : n ≤ 1048576) : Calls Tryz.prog 106 #[.slice (some ⟨b, off, none⟩) n cap] w (OpsPostR l w) := by
 obtain ⟨i0, hi, hz0, hz1, hz2⟩ := info_parts Tryz.infoOp
 have hnil := fun w => Lib.run_eql_slice_nil (P := Tryz.prog) w 30 93 (some ⟨b, off, none⟩) n cap 0 0 Tryz.underlying30
 have hown : (w.alloc (.cells #[] 93)).ownsRow w.heap.size 93 8 (.slice (some ⟨w.heap.size, 0, none⟩) 0 0) 0 [] := World.ownsRow_made w #[] 0 (Nat.le_refl _) (by unfold maxLen; omega) rfl
 have hL := Lib.hid h.1
 have H := Lib.hid h
 clear h
 go_enter Tryz.func106, Tryz.ntmps106
 go_wp2_with (at_builtin; refine wpList_append_own _ rfl _ _ 30 rfl w.heap.size 93 i0 (.agg #[.int .i64 0, .int .i64 0, .int .i64 0, .int .i64 0, .string ⟨#[]⟩, .int .i64 0, .int .i64 0, .int .i64 0]) 8 72 Tryz.underlying30 hi hz0 hz1 hz2 rfl (by decide) _ _ _ rfl hown ⟨b, off, none⟩ n cap (opCells l) rfl ?c0 ?c1 ?c2 ?c3 ?c4 ?c5 ?_)
 case c0 => rw [opCells_len, hL.out]
 case c1 => exact cells_of_ops (H.out.below ((Below.refl w.heap.size w).alloc (Nat.le_refl _) _) hB)
 case c2 => exact opCells_one l
 case c3 => unfold maxLen; omega
 case c4 => omega
 case c5 => simp
 intro v' w1 hown' hgrow hnn
 have hb1 := ((Below.refl w.heap.size w).alloc (Nat.le_refl _) _).grown hgrow (by simp) (fun j hj => (hown.lt j hj).1)
 have hown2 : w1.ownsRow w.heap.size 93 8 v' n (opCells l) := by simpa using hown'
 obtain ⟨a', cap', hv⟩ : ∃ a' cap', v' = .slice a' n cap' := by
  rcases hown2.2 with ⟨e, e2⟩ | ⟨g, c, cur, e, _⟩
  ·exact ⟨none, 0, by rw [e, e2]⟩
  ·exact ⟨_, _, e⟩
 subst hv
 have HO := Lib.hid hown2
 clear hown' hown2 hgrow hown hnn
 go_wp2
 go_ret
 exact ⟨a', cap', by rw [hL.out]; rfl, by rw [hL.out]; exact HO.out, hb1⟩
theorem cloneZeroR (w : World) (ad : Addr) (cap : Nat) : Calls Tryz.prog 106 #[.slice (some ad) 0 cap] w (OpsPostR [] w) := by
 obtain ⟨i0, hi, hz0, hz1, hz2⟩ := info_parts Tryz.infoOp
 have hnil := fun w => Lib.run_eql_slice_nil (P := Tryz.prog) w 30 93 (some ad) 0 cap 0 0 Tryz.underlying30
 have hown : (w.alloc (.cells #[] 93)).ownsRow w.heap.size 93 8 (.slice (some ⟨w.heap.size, 0, none⟩) 0 0) 0 [] := World.ownsRow_made w #[] 0 (Nat.le_refl _) (by unfold maxLen; omega) rfl
 go_enter Tryz.func106, Tryz.ntmps106
 go_wp2_with (at_builtin; refine wpList_append_own _ rfl _ _ 30 rfl w.heap.size 93 i0 (.agg #[.int .i64 0, .int .i64 0, .int .i64 0, .int .i64 0, .string ⟨#[]⟩, .int .i64 0, .int .i64 0, .int .i64 0]) 8 72 Tryz.underlying30 hi hz0 hz1 hz2 rfl (by decide) _ _ _ rfl hown ad 0 cap [] rfl ?c0 ?c1 ?c2 ?c3 ?c4 ?c5 ?_)
 case c0 => rfl
 case c1 => intro j u hj; cases hj
 case c2 => intro u hu; cases hu
 case c3 => unfold maxLen; omega
 case c4 => omega
 case c5 => simp
 intro v' w1 hown' hgrow hnn
 have hb1 := ((Below.refl w.heap.size w).alloc (Nat.le_refl _) _).grown hgrow (by simp) (fun j hj => (hown.lt j hj).1)
 obtain ⟨a', cap', hv⟩ : ∃ a' cap', v' = .slice a' 0 cap' := by
  rcases hown'.2 with ⟨e, _⟩ | ⟨g, c, cur, e, _⟩
  ·exact ⟨none, 0, e⟩
  ·exact ⟨_, _, e⟩
 subst hv
 have hrw : w1.ownsRow w.heap.size 93 8 (.slice a' 0 cap') 0 [] := by simpa using hown'
 have HO : Hid (w1.ownsRow w.heap.size 93 8 (.slice a' 0 cap') 0 (opCells [])) := hrw
 clear hrw
 clear hown' hgrow hown hnn
 go_wp2
 go_ret
 exact ⟨a', cap', rfl, HO.out, hb1⟩
/-- What the loop of copiedOps keeps. -/
structure CopR (w wr : World) (v : Value) (n : Nat) (l : List OpV) : Prop where
 own : wr.ownsRow w.heap.size 93 8 v n (opCells l)
 bel : Below w.heap.size w wr
set_option maxHeartbeats 10000000 in
theorem copiedOpsR (w : World) (B : Nat) (a : Option Addr) (n cap : Nat) (l : List OpV) (h : Ops w B a n l) (hB : B ≤ w.heap.size) (hn : n ≤ 1048576) (hcap : a = none → cap = 0) (hm : ∀ i, i < n → (l.getD i OpV.zero).item.size ≤ 1048576) : Calls Tryz.prog 85 #[.slice a n cap] w (OpsPostR l w) := by
 have hl := h.1
 rcases a with _ | ad
 ·obtain rfl := hcap rfl
  have hn0 : n = 0 := by
   rcases Nat.eq_zero_or_pos n with q | q
   ·exact q
   ·obtain ⟨b, off, e, _⟩ := h.2 0 q; cases e
  subst hn0
  have hl0 : l = [] := List.eq_nil_of_length_eq_zero hl
  subst hl0
  clear h hm
  go_enter Tryz.func85, Tryz.ntmps85
  go_wp2_with fail
  refine (cloneNil w).mono ?_
  rintro e w1 ⟨rfl, rfl⟩
  go_wp2
  refine wp_loop_rounds 1 ?_
  rw [rounds_succ]
  go_wp2
  go_ret
  exact ⟨none, 0, rfl, World.ownsRow_nil w _ _ _, Below.refl _ _⟩
 ·rcases Nat.eq_zero_or_pos n with hz | hpos
  ·subst hz
   have hl0 : l = [] := List.eq_nil_of_length_eq_zero hl
   subst hl0
   clear h hm hcap
   go_enter Tryz.func85, Tryz.ntmps85
   go_wp2_with fail
   refine (cloneZeroR w ad cap).mono ?_
   rintro e w1 ⟨a1, c1, rfl, ho, hb1⟩
   have HO := Lib.hid ho
   have HB := Lib.hid hb1
   clear ho hb1
   go_wp2
   refine wp_loop_rounds 1 ?_
   rw [rounds_succ]
   go_wp2
   go_ret
   exact ⟨a1, c1, rfl, HO.out, HB.out⟩
  obtain ⟨b, off, e, _⟩ := h.2 0 hpos
  injection e with e
  subst e
  have HM := Lib.hid hm
  clear hm hcap
  go_enter Tryz.func85, Tryz.ntmps85
  go_wp2_with fail
  refine (cloneOpsR w B b off n cap l h hB hn).mono ?_
  rintro e w1 ⟨a1, c1, rfl, ho, hb1⟩
  have HC : Hid (CopR w w1 (.slice a1 l.length c1) l.length l) := ⟨ho, hb1⟩
  clear ho hb1 h
  subst hl
  go_wp2
  go_loopw [4, 9] (fun _ i wr => ∃ k : Nat, k ≤ l.length ∧ i = .int .i64 (k : Int) ∧ Hid (CopR w wr (.slice a1 l.length c1) l.length l)) (fun _ i _ => l.length - (intOf i).toNat)
  case atStart => exact ⟨0, by omega, rfl, HC⟩
  case round =>
   obtain ⟨k, hk, rfl, HR⟩ := hrel
   by_cases hlt : k < l.length
   rotate_left
   ·obtain rfl : k = l.length := by omega
    have HP : Hid (OpsPostR l w (.returned (.slice a1 l.length c1)) wr) := ⟨a1, c1, rfl, HR.out.own, HR.out.bel⟩
    go_wp2
    go_ret
    exact HP.out
   obtain ⟨g, hg⟩ : ∃ g, a1 = some ⟨g, 0, none⟩ := by
    rcases HR.out.own.2 with ⟨e, e2⟩ | ⟨g, c, cur, e, _⟩
    ·omega
    ·injection e with e1 _ _; exact ⟨g, e1⟩
   subst hg
   have hit := HM.out k hlt
   have HCell : Hid (∀ w2, CopR w w2 (.slice (some ⟨g, 0, none⟩) l.length c1) l.length l → w2.cell? ⟨g, k * 8 + 4, none⟩ = some (.string (l.getD k OpV.zero).item) ∧ w2.frozen? ⟨g, k * 8 + 4, none⟩ = false ∧ CopR w (w2.setCell ⟨g, k * 8 + 4, none⟩ (.string (l.getD k OpV.zero).item)) (.slice (some ⟨g, 0, none⟩) l.length c1) l.length l) := fun w2 h => by
    have hc : (opCells l)[k * 8 + 4]? = some (.string (l.getD k OpV.zero).item) := (opCells_at l k 4 hlt (by omega)).trans rfl
    obtain ⟨h1, h2⟩ := h.own.stored (k * 8 + 4) (.string (l.getD k OpV.zero).item)
    rw [list_set_self _ _ _ hc] at h1
    have hg0 := (h.own.lt g rfl).1
    exact ⟨(h.own.cellAt (k * 8 + 4) (by omega)).trans hc, h.own.frozenAt (k * 8 + 4), h1, h.bel.setCell (p := ⟨g, k * 8 + 4, none⟩) hg0 _⟩
   generalize (l.getD k OpV.zero).item = s at hit HCell
   have c4 := (HCell.out wr HR.out).1
   go_wp2_with fail
   refine (strClone s hit _).mono ?_
   rintro e w2 ⟨rfl, hb2⟩
   have HR2 : Hid (CopR w w2 (.slice (some ⟨g, 0, none⟩) l.length c1) l.length l) := ⟨rowO_step (B := 0) HR.out.own hb2, HR.out.bel.trans (hb2.mono HR.out.bel.size)⟩
   clear c4 hb2 HR
   obtain ⟨c4, f4, h3⟩ := HCell.out w2 HR2.out
   have HR3 := Lib.hid h3
   clear h3
   go_wp2
   go_roundw
   case rel => exact ⟨k + 1, by omega, by go_num, HR3⟩
   case measure => simp [intOf]; omega
/-- impl.copiedCart, its operations a row of the call's own. -/
theorem rowO_other {W W' : World} {base n : Nat} {v : Value} {xs : List Value} (h : W.ownsRow base 93 8 v n xs) (hk : ∀ j, base ≤ j → W'.heap[j]? = W.heap[j]?) : W'.ownsRow base 93 8 v n xs := by
 refine ⟨h.1, ?_⟩
 rcases h.2 with h2 | ⟨g, c, cur, e, hg, hc, r⟩
 ·exact .inl h2
 ·exact .inr ⟨g, c, cur, e, hg, (hk g hg).trans hc, r⟩
set_option linter.unusedSimpArgs false in
set_option maxHeartbeats 20000000 in
theorem copiedCartR (w : World) (B g off : Nat) (ao : Option Addr) (nv cv no co : Nat) (xs : List Int) (l : List OpV) (hx : Ints w B (some ⟨g, off, none⟩) nv xs) (h : Ops w B ao no l) (hB : B ≤ w.heap.size) (hn0 : 0 < nv) (hv : nv ≤ 1048576) (hn : no ≤ 1048576) (hcap : ao = none → co = 0) (hm : ∀ i, i < no → (l.getD i OpV.zero).item.size ≤ 1048576) :
  Calls Tryz.prog 47 #[.agg #[.slice (some ⟨g, off, none⟩) nv cv, .slice ao no co]] w fun e w' => ∃ va vc oa oc mid, e = .returned (.agg #[.slice va xs.length vc, .slice oa l.length oc]) ∧ Own w' w.heap.size mid va xs.length xs ∧ w'.ownsRow mid 93 8 (.slice oa l.length oc) l.length (opCells l) ∧ w.heap.size ≤ mid ∧ mid ≤ w'.heap.size ∧ Below w.heap.size w w' ∧ Caps va xs.length vc := by
 have hT := Two.mk0 w #[.slice (some ⟨g, off, none⟩) nv cv, .slice ao no co] #[.slice none 0 0, .slice none 0 0] 32
 have HV := Lib.hid (hx.below hT.bel hB)
 have HO := Lib.hid (h.below hT.bel hB)
 have HT := Lib.hid hT
 have HM := Lib.hid hm
 have HC := Lib.hid hcap
 have hBw := hB
 clear hx h hT hB hm hcap
 go_enter Tryz.func47, Tryz.ntmps47
 go_upto_region 1 with fail
 rename_i KR hKR
 generalize (w.alloc (.cells #[.slice (some ⟨g, off, none⟩) nv cv, .slice ao no co] 32)).alloc (.cells #[.slice none 0 0, .slice none 0 0] 32) = w0 at HV HO HT ⊢
 have hsz0 := HT.out.bel.size
 have hsz1 := lt_of_row HT.out.snd
 obtain ⟨z0, hz0e⟩ : ∃ z0, w0.drew = z0 := ⟨_, rfl⟩
 have g0 : Below w0.heap.size w0 z0 := by rw [← hz0e]; exact ⟨rfl, rfl, rfl, Nat.le_refl _, fun _ _ => rfl⟩
 have HVz := Lib.hid (HV.out.below g0 (by omega))
 have HOz := Lib.hid (HO.out.below g0 (by omega))
 have HTz := Lib.hid (HT.out.next g0)
 have hs0 := g0.size
 have hS := pair_cells HTz.out.fst
 clear g0 HV HO HT
 refine wp_region_held_drew (S := fun w' => w'.cell? ⟨w.heap.size, 0, none⟩ = some (.slice (some ⟨g, off, none⟩) nv cv) ∧ w'.cell? ⟨w.heap.size, 1, none⟩ = some (.slice ao no co)) (by kernel_rfl) (by rw [hz0e]; exact hS) (fun hHeld => ?_)
 rw [hz0e]
 clear hHeld hz0e
 refine tk 0 ⟨some 3, .fieldAddr 32 (.tmp 1) 0, 0, "l04_carts.go:95", #[], none⟩ ?_
 (try simp only [Act.put, u1, u2, u3])
 refine tk 1 ⟨some 4, .load 22 (.tmp 3), 22, "l04_carts.go:95", #[⟨0, .data⟩], none⟩ ?_
 (try simp only [Act.put, u1, u2, u3])
 refine tk 3 ⟨some 6, .fieldAddr 32 (.tmp 1) 1, 0, "l04_carts.go:95", #[], none⟩ ?_
 (try simp only [Act.put, u1, u2, u3])
 refine tk 4 ⟨some 7, .load 30 (.tmp 6), 30, "l04_carts.go:95", #[⟨3, .data⟩], none⟩ ?_
 (try simp only [Act.put, u1, u2, u3])
 refine rk 2 rfl (fun K hK => ?_)
 go_simp
 go_at_call 84
 refine (cloneIntsR z0 B g off nv cv xs HVz.out hn0 hv).mono ?_
 rintro e w1 ⟨va, vc, rfl, hown, hb1, hcv⟩
 have HCv := Lib.hid hcv
 clear hcv
 have HO1 := Lib.hid (HOz.out.below hb1 (by omega))
 have HT1 := Lib.hid (HTz.out.next hb1)
 have HV1 := Lib.hid hown
 have hs1 := hb1.size
 have hS1 := pair_cells HT1.out.fst
 clear hb1 hown HVz HOz HTz
 refine hK.out _ _ hS1 (fun hHeld2 => ?_)
 clear hK K
 (try simp only [Act.put, u1, u2, u3])
 refine rk 5 rfl (fun K hK => ?_)
 go_simp
 go_at_call 85
 refine (copiedOpsR w1 B ao no co l HO1.out (by omega) hn HC.out HM.out).mono ?_
 rintro e w2 ⟨oa, oc, rfl, hop, hb2⟩
 have HT2 := Lib.hid (HT1.out.next hb2)
 have HV2 := Lib.hid (HV1.out.below hb2 (Nat.le_refl _))
 have HP2 := Lib.hid hop
 have hs2 := hb2.size
 have hlt2 := lt_of_row HT2.out.snd
 have hS2 := pair_cells HT2.out.fst
 clear hb2 hop HO1 HT1 HV1
 refine hK.out _ _ hS2 (fun hHeld3 => ?_)
 clear hK K
 (try simp only [Act.put, u1, u2, u3])
 refine tk 6 ⟨some 9, .build 32 #[(0, .tmp 5), (1, .tmp 8)], 32, "l04_carts.go:95", #[⟨2, .data⟩, ⟨5, .data⟩], none⟩ ?_
 (try simp only [Act.put, u1, u2, u3])
 obtain ⟨r0, r1⟩ := pair_cells HT2.out.snd
 obtain ⟨fz0, fz1⟩ := pair_frozen HT2.out.snd
 have hS3 : ((w2.setCell ⟨w.heap.size + 1, 0, none⟩ (.slice va xs.length vc)).setCell ⟨w.heap.size + 1, 1, none⟩ (.slice oa l.length oc)).cell? ⟨w.heap.size, 0, none⟩ = some (.slice (some ⟨g, off, none⟩) nv cv) ∧ ((w2.setCell ⟨w.heap.size + 1, 0, none⟩ (.slice va xs.length vc)).setCell ⟨w.heap.size + 1, 1, none⟩ (.slice oa l.length oc)).cell? ⟨w.heap.size, 1, none⟩ = some (.slice ao no co) := pair_cells ((pair_other _ _ (by omega)).trans HT2.out.fst)
 refine rk 7 rfl (fun K hK => ?_)
 go_simp
 refine hK.out _ _ hS3 (fun hHeld4 => ?_)
 clear hK K
 (try simp only [Act.put, u1, u2, u3])
 refine wpAnyH_done (by kernel_rfl) ?_ _
 have HXr : Hid (((w2.setCell ⟨w.heap.size + 1, 0, none⟩ (.slice va xs.length vc)).setCell ⟨w.heap.size + 1, 1, none⟩ (.slice oa l.length oc)).heap[w.heap.size + 1]? = some (.cells #[.slice va xs.length vc, .slice oa l.length oc] 32 (0, 0))) := pair_set _ _ HT2.out.snd
 have HBr2 : Hid (Below w.heap.size w ((w2.setCell ⟨w.heap.size + 1, 0, none⟩ (.slice va xs.length vc)).setCell ⟨w.heap.size + 1, 1, none⟩ (.slice oa l.length oc))) := (HT2.out.bel.setCell (by show _ ≤ w.heap.size + 1; omega) _).setCell (by show _ ≤ w.heap.size + 1; omega) _
 have HOv7 : Hid (Own ((w2.setCell ⟨w.heap.size + 1, 0, none⟩ (.slice va xs.length vc)).setCell ⟨w.heap.size + 1, 1, none⟩ (.slice oa l.length oc)) z0.heap.size w1.heap.size va xs.length xs) := HV2.out.kept fun q h1 h2 => pair_other _ _ (by omega)
 have HOp7 : Hid (((w2.setCell ⟨w.heap.size + 1, 0, none⟩ (.slice va xs.length vc)).setCell ⟨w.heap.size + 1, 1, none⟩ (.slice oa l.length oc)).ownsRow w1.heap.size 93 8 (.slice oa l.length oc) l.length (opCells l)) := rowO_other HP2.out fun q h1 => pair_other _ _ (by omega)
 have hsz7 : ((w2.setCell ⟨w.heap.size + 1, 0, none⟩ (.slice va xs.length vc)).setCell ⟨w.heap.size + 1, 1, none⟩ (.slice oa l.length oc)).heap.size = w2.heap.size := pair_size _ _ _ _
 clear hS hS1 hS2 hS3 hHeld2 hHeld3 hHeld4 r0 r1 fz0 fz1
 generalize (w2.setCell ⟨w.heap.size + 1, 0, none⟩ (.slice va xs.length vc)).setCell ⟨w.heap.size + 1, 1, none⟩ (.slice oa l.length oc) = wf at HXr HBr2 HOv7 HOp7 hsz7 ⊢
 apply hKR
 obtain ⟨q0, q1⟩ := pair_cells HXr.out
 go_wp2
 exact bodyPost_ret (v := .agg #[.slice va xs.length vc, .slice oa l.length oc]) (by simp [results, Tryz.results47, go_sem, q0, q1]) rfl ⟨va, vc, oa, oc, w1.heap.size, rfl, HOv7.out.more (by omega) (Nat.le_refl _), HOp7.out, by omega, by omega, HBr2.out, HCv.out⟩
end Go.Proofs.YtjokbaaommicmaaGreatDoor
