/- Walks and mathematics that several claims share, part 50. -/
import Derived.Test.YtgagchlcafdiaaaGreatGb43
import Derived.Test.YtgagchlcafdiaaaGreatGb23
import Derived.Deep.Cut
import Derived.ArgAppend
import Derived.Test.YtgagchlcafdiaaaGreatGbA
namespace Go.Proofs.YtgagchlcafdiaaaGreat
set_option maxRecDepth 100000
open Go.RowKit
set_option linter.unusedVariables false
set_option linter.unusedSimpArgs false
set_option linter.unusedVariables false
set_option linter.unusedSimpArgs false

def prCells : List PrV → List Value
 | [] => []
 | x :: l => [.string x.item, .int .i64 x.cents] ++ prCells l
theorem prCells_snoc (x : PrV) : ∀ l, prCells (l ++ [x]) = prCells l ++ [.string x.item, .int .i64 x.cents]
 | [] => rfl
 | y :: l => by show [Value.string y.item, .int .i64 y.cents] ++ prCells (l ++ [x]) = ([Value.string y.item, .int .i64 y.cents] ++ prCells l) ++ _; rw [prCells_snoc x l, List.append_assoc]
theorem prCells_len : ∀ l : List PrV, (prCells l).length = l.length * 2
 | [] => rfl
 | x :: l => by
  have := prCells_len l
  show ([Value.string x.item, .int .i64 x.cents] ++ prCells l).length = (l.length + 1) * 2
  rw [List.length_append, this]
  simp
  omega
theorem prCells_at : ∀ (l : List PrV) (i : Nat), i < l.length → (prCells l)[i * 2]? = some (.string (l.getD i PrV.zero).item) ∧ (prCells l)[i * 2 + 1]? = some (.int .i64 (l.getD i PrV.zero).cents)
 | x :: l, 0, _ => ⟨rfl, rfl⟩
 | x :: l, i + 1, h => by
  have := prCells_at l i (by simpa using h)
  have e : (i + 1) * 2 = i * 2 + 2 := by omega
  rw [e]
  exact this
theorem Prs.cells {w : World} {B q off n : Nat} {l : List PrV} (h : Prs w B (some ⟨q, off, none⟩) n l) : ∀ j u, (prCells l)[j]? = some u → w.cell? ((⟨q, off, none⟩ : Addr).add j) = some u := fun j u hj => by
 have hl := (List.getElem?_eq_some_iff.1 hj).1
 rw [prCells_len] at hl
 have hn := h.1
 have hi : j / 2 < n := by omega
 obtain ⟨b, o, e, _, h0, h1⟩ := h.2 (j / 2) hi
 injection e with e
 injection e with e1 e2 _
 subst e1 e2
 obtain ⟨c0, c1⟩ := prCells_at l (j / 2) (by omega)
 rcases Nat.mod_two_eq_zero_or_one j with q | q
 ·have ej : j / 2 * 2 = j := by omega
  rw [ej] at c0 h0
  rw [hj] at c0
  rw [Addr.add_lit]
  exact h0.trans c0.symm
 ·have ej : j / 2 * 2 + 1 = j := by omega
  rw [ej] at c1
  rw [hj] at c1
  rw [Addr.add_lit]
  rw [show off + j / 2 * 2 + 1 = off + j by omega] at h1
  exact h1.trans c1.symm
theorem prs_of_row {w : World} {B base n : Nat} {v : Value} {l : List PrV} (h : w.ownsRow base 63 2 v n (prCells l)) (hl : l.length = n) (hn : 0 < n) : ∃ va vc, v = .slice va n vc ∧ Prs w w.heap.size va n l := by
 rcases h.2 with ⟨e, _⟩ | ⟨q, c, _, e, _⟩
 ·omega
 subst e
 refine ⟨_, c, rfl, hl, fun i hi => ?_⟩
 obtain ⟨c0, c1⟩ := prCells_at l i (by omega)
 have d0 := (h.cellAt (i * 2) (by omega)).trans c0
 have d1 := (h.cellAt (i * 2 + 1) (by omega)).trans c1
 refine ⟨q, 0, rfl, block_lt_of_cell d0, ?_, ?_⟩
 ·rw [Nat.zero_add]; exact d0
 ·rw [Nat.zero_add]; exact d1
theorem wpListP {P : Program} {w : World} {ops : Array Oper} {rest : List Oper} {o : Oper} {a : Act} {Q : Exit → Act → World → Prop} (hgd : o.guard = none) (x y : Operand) (ts : Array TypeId) (hop : o.op = Op.call { callee := Callee.builtin Builtin.append, args := #[x, y], argTypes := ts }) (v1 v2 : Value) {v' : Value} {w' : World} (h1 : a.eval x = v1) (h2 : a.eval y = v2)
  (hrun : (Builtin.append_ ts o.type #[v1, v2]).run P w = .ok v' w') (h : wpList P ops Q rest (a.put o.dst v') w') : wpList P ops Q (o :: rest) a w :=
 wpList_plain hgd fun _ hK => opwpO x y ts hop v1 v2 h1 h2 hrun (hK _ _ h)
theorem Tryz.infoPrice : (Tryz.prog.info? 63).map (fun i => (i.zero, i.size, i.bytes)) = some (some (.agg #[.string ⟨#[]⟩, .int .i64 0]), 2, 24) := by kernel_rfl
theorem Prs.push {z : World} {B q off n : Nat} {l : List PrV} (h : Prs z B (some ⟨q, off, none⟩) n l) (hB : B ≤ z.heap.size) (x : PrV) (hn : n ≤ 100) :
  ∃ va vc z3, (Builtin.append_ #[25, 25] 25 #[.slice (some ⟨q, off, none⟩) n n, .slice (some ⟨z.heap.size, 0, none⟩) 1 1]).run Tryz.prog (z.alloc (.cells #[.string x.item, .int .i64 x.cents] 63)) = .ok (.slice va (n + 1) vc) z3 ∧ Prs z3 z3.heap.size va (n + 1) (l ++ [x]) ∧ z.grownBy z3 none := by
 obtain ⟨i0, hi, hz0, hz1, hz2⟩ := info_parts Tryz.infoPrice
 have h2 : Prs (z.alloc (.cells #[.string x.item, .int .i64 x.cents] 63)) B (some ⟨q, off, none⟩) n l := h.kept fun k hk => heap_alloc_old z _ (by omega)
 have hl := h.1
 obtain ⟨v', z3, hrun, hown, hgr⟩ := run_append_arg_grows (P := Tryz.prog) (z.alloc (.cells #[.string x.item, .int .i64 x.cents] 63)) 25 25 63 i0 (.agg #[.string ⟨#[]⟩, .int .i64 0]) 2 24 Tryz.underlying25 hi hz0 hz1 hz2 rfl (by decide) ⟨q, off, none⟩ n n (prCells l) (by rw [prCells_len, hl]) h2.cells ⟨z.heap.size, 0, none⟩ 1 1 [.string x.item, .int .i64 x.cents] rfl
  (by
   have hn := heap_alloc_new z (.cells #[.string x.item, .int .i64 x.cents] 63)
   intro j u hj
   match j, hj with
   | 0, hj => simp at hj; subst hj; exact (cell_of_row _ _ _ _ _ _ hn).trans rfl
   | 1, hj => simp at hj; subst hj; simp only [Addr.add]; exact (cell_of_row _ _ _ _ _ _ hn).trans rfl)
  (by omega) (by unfold maxLen; omega) (by omega)
 rw [← prCells_snoc] at hown
 obtain ⟨va, vc, rfl, hp⟩ := prs_of_row (B := 0) hown (by rw [List.length_append, hl]; rfl) (by omega)
 exact ⟨va, vc, z3, hrun, hp, (World.grownBy_alloc z _ none).trans hgr⟩
/-- What DrawPricesOk answers. -/
def DrawsPrices (w : World) (e : Ending) (w' : World) : Prop :=
 ∃ (pa : Option Addr) (pn pc : Nat) (ps : List PrV), pn ≤ 5 ∧ e = .returned (.slice pa pn pc) ∧ Prs w' w'.heap.size pa pn ps ∧ (∀ i, i < pn → (ps.getD i PrV.zero).item.size ≤ 1048576) ∧ Below w.heap.size w w'
set_option maxHeartbeats 20000000 in
theorem drawPricesOk (w : World) (B : Nat) (a : Option Addr) (len cap : Nat) (hB : B ≤ w.heap.size) (h : Src w B a len) :
  Calls Tryz.prog 9 #[.slice a len cap] w (DrawsPrices w) := by
 have HS0 := Lib.hid h
 clear h
 go_enter Tryz.func9, Tryz.ntmps9
 go_wp2_with fail
 refine (l1Open w B a len cap hB HS0.out).mono ?_
 rintro e w1 ⟨rfl, hg1, hr1⟩
 have HB1 : Hid (Below w.heap.size w w1) := below_none hg1 (Nat.le_refl _)
 have hs1 := hg1.size
 have HR1 := Lib.hid hr1
 clear hg1 hr1 HS0
 go_wp2_with fail
 refine (prices w1 B w.heap.size a len cap HR1.out).mono ?_
 rintro e w2 ⟨q, off, n, ps, hn4, hn3, rfl, hwq, hq2, hps, hi8, hg2, hr2⟩
 have HB2 := Lib.hid (HB1.out.grown hg2 hs1 (fun k hk => by cases hk; exact Nat.le_refl _))
 have HP2 := Lib.hid hps
 have HR2 := Lib.hid hr2
 have hgl := HR1.out.lt
 clear hg2 hr2 hps HR1 HB1
 go_wp2_with fail
 refine (once w2 B w.heap.size a len cap HR2.out 4 (by omega) (by omega)).mono ?_
 rintro e w3 ⟨o1, rfl, hg3, hr3⟩
 have hs3 := hg3.size
 have HP3 := Lib.hid (HP2.out.kept_at (hg3.block q hq2 (fun e => by injection e with e; omega)) (fun _ => by have := hg3.size; omega : 0 < n → q < w3.heap.size))
 have HB3 := Lib.hid (HB2.out.grown hg3 HB2.out.size (fun k hk => by cases hk; exact Nat.le_refl _))
 clear hg3 hr3 HP2 HB2 HR2
 rcases o1 with _ | _
 ·go_wp2
  go_ret
  exact ⟨_, n, n, ps, by omega, rfl, HP3.out, fun i hi => Nat.le_trans (hi8 i hi) (by omega), HB3.out⟩
 obtain ⟨b0, o0, e0, _, c0, c1⟩ := HP3.out.2 0 (by omega)
 injection e0 with e0
 injection e0 with e1 e2 _
 subst e1 e2
 have hx8 := hi8 0 (by omega)
 have hn0 : (0 : Int) < (n : Int) := by omega
 obtain ⟨ua, uc, w5, hrun, hp5, hg5⟩ := HP3.out.push (Nat.le_refl _) (ps.getD 0 PrV.zero) (by omega)
 have HI5 : Hid (∀ i, i < n + 1 → ((ps ++ [ps.getD 0 PrV.zero]).getD i PrV.zero).item.size ≤ 1048576) := fun i hi => by
  have hl := HP3.out.1
  rcases Nat.lt_or_ge i n with q | q
  ·rw [List.getD_eq_getElem?_getD, List.getElem?_append_left (by omega), ← List.getD_eq_getElem?_getD]
   exact Nat.le_trans (hi8 i q) (by omega)
  ·obtain rfl : i = n := by omega
   rw [List.getD_eq_getElem?_getD, List.getElem?_append_right (by omega), hl]
   rw [Nat.sub_self]
   exact Nat.le_trans hx8 (by omega)
 have HP5 := Lib.hid hp5
 have HB5 := Lib.hid (HB3.out.grown hg5 HB3.out.size (fun k hk => by cases hk))
 clear hp5 hg5 HP3 HB3
 generalize ps.getD 0 PrV.zero = x at c0 c1 hrun HP5 HI5
 rw [Nat.zero_mul, Nat.add_zero] at c0 c1
 go_wp2_with (at_builtin; refine wpListP rfl _ _ _ rfl _ _ rfl rfl hrun ?_)
 try go_wp2
 go_ret
 exact ⟨ua, n + 1, uc, _, by omega, rfl, HP5.out, HI5.out, HB5.out⟩
/-- What DrawPriceOf answers. -/
def DrawsPriceOf (w : World) (e : Ending) (w' : World) : Prop :=
 ∃ (pa : Option Addr) (pn pc : Nat) (ps : List PrV) (s : ByteArray), pn ≤ 5 ∧ s.size ≤ 8 ∧ e = .returned (.tuple #[.slice pa pn pc, .string s]) ∧ Prs w' w'.heap.size pa pn ps ∧ (∀ i, i < pn → (ps.getD i PrV.zero).item.size ≤ 1048576) ∧ Below w.heap.size w w'
set_option maxHeartbeats 20000000 in
theorem drawPriceOf (w : World) (B : Nat) (a : Option Addr) (len cap : Nat) (hB : B ≤ w.heap.size) (h : Src w B a len) :
  Calls Tryz.prog 10 #[.slice a len cap] w (DrawsPriceOf w) := by
 have HS0 := Lib.hid h
 clear h
 go_enter Tryz.func10, Tryz.ntmps10
 go_wp2_with fail
 refine (l1Open w B a len cap hB HS0.out).mono ?_
 rintro e w1 ⟨rfl, hg1, hr1⟩
 have HB1 : Hid (Below w.heap.size w w1) := below_none hg1 (Nat.le_refl _)
 have hs1 := hg1.size
 have HR1 := Lib.hid hr1
 clear hg1 hr1 HS0
 go_wp2_with fail
 refine (prices w1 B w.heap.size a len cap HR1.out).mono ?_
 rintro e w2 ⟨q, off, n, ps, hn4, hn3, rfl, hwq, hq2, hps, hi8, hg2, hr2⟩
 have HB2 := Lib.hid (HB1.out.grown hg2 hs1 (fun k hk => by cases hk; exact Nat.le_refl _))
 have HP2 := Lib.hid hps
 have HR2 := Lib.hid hr2
 have hgl := HR1.out.lt
 clear hg2 hr2 hps HR1 HB1
 go_wp2_with fail
 refine (rdItem w2 B w.heap.size a len cap HR2.out).mono ?_
 rintro e w3 ⟨t, ht, rfl, hg3, hr3⟩
 have hs3 := hg3.size
 have HP3 := Lib.hid (HP2.out.kept_at (hg3.block q hq2 (fun e => by injection e with e; omega)) (fun _ => by have := hg3.size; omega : 0 < n → q < w3.heap.size))
 have HB3 := Lib.hid (HB2.out.grown hg3 HB2.out.size (fun k hk => by cases hk; exact Nat.le_refl _))
 clear hg3 hr3 HP2 HB2 HR2
 go_wp2
 exact bodyPost_ret (v := .tuple #[.slice (some ⟨q, off, none⟩) n n, .string t]) (by simp [results, Tryz.results10, go_sem]) rfl ⟨_, n, n, ps, t, by omega, ht, rfl, HP3.out, fun i hi => Nat.le_trans (hi8 i hi) (by omega), HB3.out⟩
end Go.Proofs.YtgagchlcafdiaaaGreat
