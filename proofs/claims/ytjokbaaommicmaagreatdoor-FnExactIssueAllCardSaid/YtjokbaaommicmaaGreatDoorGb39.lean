/- Walks and mathematics that several claims share, part 39. -/
import Derived.Test.YtjokbaaommicmaaGreatDoorGb31
import Derived.Lib.Overlaps
import Derived.Lib.AppendZeros
import Derived.Lib.AppendZerosOnto
import Derived.Laws.NewBlocks
import Derived.Laws.Externs
import Derived.Lib.SliceRun
import Derived.Lib.JoinLaws
import Derived.Shelf.RegionOpen
import Derived.Shelf.RegionOpenPlain
import Derived.Test.YtjokbaaommicmaaGreatDoorGbA
namespace Go.Proofs.YtjokbaaommicmaaGreatDoor
set_option maxRecDepth 100000
open Go.RowKit
set_option linter.unusedVariables false
set_option linter.unusedSimpArgs false

theorem wpListApp {P : Program} {w : World} {ops : Array Oper} {rest : List Oper} {o : Oper} {a : Act} {Q : Exit → Act → World → Prop} (hgd : o.guard = none) (x y : Operand) (ts : Array TypeId) (hop : o.op = Op.call { callee := Callee.builtin Builtin.append, args := #[x, y], argTypes := ts }) (v1 v2 : Value) {v' : Value} {w' : World} (h1 : a.eval x = v1) (h2 : a.eval y = v2)
  (hrun : (Builtin.append_ ts o.type #[v1, v2]).run P w = .ok v' w') (h : wpList P ops Q rest (a.put o.dst v') w') : wpList P ops Q (o :: rest) a w := by
 refine wpList_plain hgd fun _ hK => ?_
 unfold Oper.wp
 simp [execOp, hop, resolve, invoke, builtin, h1, h2, hrun, Result.andThen]
 exact hK _ _ h
theorem opSize : (Tryz.prog.info? 93).map (·.size) = some 8 := by kernel_rfl
/-- What an insertion answers. -/
def InsPost (a0 : Option Addr) (lo : Nat) (L : List OpV) (w : World) (e : Ending) (w' : World) : Prop := ∃ a c, e = .returned (.slice a L.length c) ∧ w'.ownsRow lo 93 8 (.slice a L.length c) L.length (opCells L) ∧ Below lo w w' ∧ ∀ j, j < w.heap.size → (∀ x, a0 ≠ some ⟨j, x, none⟩) → w'.heap[j]? = w.heap[j]?
theorem row_src {w : World} {vb : Nat} {o : OpV} {T : TypeId} (hv : w.heap[vb]? = some (.cells (opRow o).toArray T (0, 0))) : ∀ j u, (opRow o)[j]? = some u → w.cell? ((⟨vb, 0, none⟩ : Addr).add j) = some u := fun j u hj => by
 rw [Addr.add_lit, cell_of_row _ _ _ _ _ _ hv, Nat.zero_add]
 simpa using hj
set_option maxHeartbeats 40000000 in
/-- At the end. -/
theorem insEnd (w : World) (lo : Nat) (a : Option Addr) (n c : Nat) (l : List OpV) (hown : w.ownsRow lo 93 8 (.slice a n c) n (opCells l)) (hlo : lo ≤ w.heap.size) (hn : n ≤ 1000000) (o : OpV) (vb : Nat) (hv : w.heap[vb]? = some (.cells (opRow o).toArray 93 (0, 0))) :
  Calls Tryz.prog 136 #[.slice a n c, .int .i64 (n : Int), .slice (some ⟨vb, 0, none⟩) 1 1] w (InsPost a lo (l ++ [o]) w) := by
 obtain ⟨i0, hi, hz0, hz1, hz2⟩ := info_parts Tryz.infoOp
 have hl : l.length = n := by have := hown.1; rw [opCells_len] at this; omega
 obtain ⟨v', w1, hrun, h2, h3, _⟩ := run_append_own (P := Tryz.prog) w lo 30 30 93 i0 (.agg #[.int .i64 0, .int .i64 0, .int .i64 0, .int .i64 0, .string ⟨#[]⟩, .int .i64 0, .int .i64 0, .int .i64 0]) 8 72 Tryz.underlying30 hi hz0 hz1 hz2 rfl (by decide) _ n _ hown ⟨vb, 0, none⟩ 1 1 (opRow o) rfl (row_src hv) (by intro u hu; simp only [opRow, List.mem_cons, List.not_mem_nil, or_false] at hu; rcases hu with rfl | rfl | rfl | rfl | rfl | rfl | rfl | rfl <;> rfl) (by unfold maxLen; omega) (by omega) hlo
 obtain ⟨a', c', rfl⟩ : ∃ a' c', v' = .slice a' (n + 1) c' := by
  rcases h2.2 with ⟨_, e⟩ | ⟨g, c, cur, e, _⟩
  ·omega
  ·exact ⟨_, _, e⟩
 have HP : Hid (InsPost a lo (l ++ [o]) w (.returned (.slice a' (n + 1) c')) w1) := by
  have hL : (l ++ [o]).length = n + 1 := by rw [List.length_append, hl]; rfl
  refine ⟨a', c', by rw [hL], ?_, (Below.refl lo w).grown h3 hlo (fun j hj => (hown.lt j hj).1), fun j hj hx => h3.block j hj (fun e => ?_)⟩
  ·rw [hL, opCells_snoc]
   exact h2
  ·rcases hown.2 with ⟨e5, e2⟩ | ⟨g, c5, cur, e5, _⟩
   ·injection e5 with e1 _ _
    subst e1
    exact absurd (show some j = none from e) (by simp)
   ·injection e5 with e1 _ _
    subst e1
    have e6 : some j = some g := e
    injection e6 with e7
    exact hx 0 (by rw [e7])
 have hnc : n ≤ c := by
  rcases hown.2 with ⟨e, e2⟩ | ⟨g, c', cur, e, _, _, h, _⟩
  ·omega
  ·injection e with _ _ e3; omega
 have hcm : c ≤ maxLen := by
  rcases hown.2 with ⟨e, e2⟩ | ⟨g, c', cur, e, _, _, _, h, _⟩
  ·injection e with _ _ e3; rw [e3]; exact Nat.zero_le _
  ·injection e with _ _ e3; omega
 unfold maxLen at hcm
 have hform : a = none ∨ ∃ g, a = some ⟨g, 0, none⟩ := by
  rcases hown.2 with ⟨e, e2⟩ | ⟨g, c', cur, e, _⟩
  ·injection e with e1 _ _; exact .inl e1
  ·injection e with e1 _ _; exact .inr ⟨g, e1⟩
 clear h2 h3 hown
 go_enter Tryz.func136, Tryz.ntmps136
 rcases hform with rfl | ⟨g, rfl⟩
 ·go_wp2_with (at_builtin; refine wpListApp rfl _ _ _ rfl _ _ rfl rfl hrun ?_)
  all_goals (go_ret; exact HP.out)
 ·go_wp2_with (at_builtin; refine wpListApp rfl _ _ _ rfl _ _ rfl rfl hrun ?_)
  all_goals (go_ret; exact HP.out)
theorem opRow_one (o : OpV) : ∀ u ∈ opRow o, u.oneCell' = true := by
 intro u hu
 simp only [opRow, List.mem_cons, List.not_mem_nil, or_false] at hu
 rcases hu with rfl | rfl | rfl | rfl | rfl | rfl | rfl | rfl <;> rfl
theorem opSizeOf (w : World) : (Go.sizeOf 93).run Tryz.prog w = .ok 8 w := by kernel_rfl
theorem stepCopyR {P : Program} {ops : Array Oper} {o : Oper} {a : Act} {w : World} {K : Act → World → Prop} {Q : Exit → Act → World → Prop} {E : Prop} (hg : o.guard = none) (x y : Operand) (ts : Array TypeId) (hop : o.op = Op.call { callee := Callee.builtin Builtin.copy, args := #[x, y], argTypes := ts }) (v1 v2 : Value) {v' : Value} {w' : World} (h1 : a.eval x = v1) (h2 : a.eval y = v2)
  (hrun : (Builtin.copy_ ts o.type #[v1, v2]).run P w = .ok v' w') (hK : K (a.put o.dst v') w') : if Region.wanted o (yielded ops a.tmps) = true then Oper.wp P o a w K Q else E := by
 rw [if_pos (by simp [Region.wanted, hg])]
 exact opwpCopy x y ts hop v1 v2 h1 h2 hrun hK
theorem row_seg {cur : List Value} {l : List OpV} {n i : Nat} (ht : cur.take (n * 8) = opCells l) (hl : l.length = n) (hi : i ≤ n) (hs : n * 8 ≤ cur.length) : cur = opCells (l.take i) ++ opCells (l.drop i) ++ cur.drop (n * 8) := by
 have e : opCells l = opCells (l.take i) ++ opCells (l.drop i) := by rw [← opCells_app, List.take_append_drop]
 rw [← e, ← ht, List.take_append_drop]
set_option maxHeartbeats 40000000 in
/-- In the midst, where there is room. -/
theorem insShift (w : World) (lo g n c i : Nat) (cur : Array Value) (l : List OpV) (hg : w.heap[g]? = some (.cells cur 93 (0, 0))) (hcs : cur.size = c * 8) (htk : cur.toList.take (n * 8) = opCells l) (hl : l.length = n) (hi : i < n) (hroom : n + 1 ≤ c) (hcm : c ≤ maxLen) (hn : n ≤ 1000000) (hlo : lo ≤ g) (o : OpV) (vb : Nat) (hv : w.heap[vb]? = some (.cells (opRow o).toArray 93 (0, 0))) (hne : vb ≠ g) :
  Calls Tryz.prog 136 #[.slice (some ⟨g, 0, none⟩) n c, .int .i64 (i : Int), .slice (some ⟨vb, 0, none⟩) 1 1] w (InsPost (some ⟨g, 0, none⟩) lo (l.take i ++ [o] ++ l.drop i) w) := by
 have hlen : cur.toList.length = c * 8 := by rw [Array.length_toList]; exact hcs
 have hA : (opCells (l.take i)).length = i * 8 := by rw [opCells_len, List.length_take]; omega
 have hB : (opCells (l.drop i)).length = (n - i) * 8 := by rw [opCells_len, List.length_drop]; omega
 have hseg := row_seg (i := i) htk hl (by omega) (by omega)
 obtain ⟨m1, m2, m3⟩ := ins_shift (O := opRow o) hseg hA hB (opRow_len o) (by rw [List.length_drop, hlen]; omega)
 have hq : ∀ W : World, W.heap[g]? = some (.cells cur 93 (0, 0)) → ∀ ty dc sc, (Builtin.copy_ #[30, 30] ty #[.slice (some ⟨g, (i + 1) * 8, none⟩) (n - i) dc, .slice (some ⟨g, i * 8, none⟩) (n + 1 - i) sc]).run Tryz.prog W = .ok (goInt (Nat.min (n + 1 - i) (n - i))) (W.setRow g (cur.toList.take ((i + 1) * 8) ++ opCells (l.drop i) ++ cur.toList.drop ((i + 1) * 8 + (opCells (l.drop i)).length)).toArray) := fun W hW ty dc sc =>
  run_copy_rows W _ _ ty 93 g ((i + 1) * 8) (n - i) dc ⟨g, i * 8, none⟩ (n + 1 - i) sc cur 93 (opCells (l.drop i)) 8 Tryz.underlying30 opSize hW (by rw [hB]; simp only [Nat.min_def]; split <;> omega)
   (fun j v hj => by
    rw [Addr.add_lit, cell_of_row _ _ _ _ _ _ hW]
    have hj2 := (List.getElem?_eq_some_iff.1 hj).1
    have e : cur.toList[i * 8 + j]? = (opCells (l.drop i))[j]? := by
     conv => lhs; rw [hseg]
     rw [List.append_assoc, List.getElem?_append_right (by omega), hA, Nat.add_sub_cancel_left, List.getElem?_append_left hj2]
    rw [← Array.getElem?_toList, e, hj])
   (by rw [hB, hcs]; omega) (opCells_one _)
 have hsv : w.shape? vb = some (93, 8) := by unfold World.shape?; rw [hv]; rfl
 have hsg : w.shape? g = some (93, c * 8) := by unfold World.shape?; rw [hg]; show some (_, cur.size) = _; rw [hcs]
 have hov : ∀ lb cb, (callFunc 145 #[.slice (some ⟨vb, 0, none⟩) 1 1, .slice (some ⟨g, (i + 1) * 8, none⟩) lb cb]).run Tryz.prog w = .ok (.value (.bool false)) w := fun lb cb => by
  rw [run_callFunc_extern Tryz.func145 (by kernel_rfl) (by kernel_rfl) (by kernel_rfl) (e := Extern.SlicesOverlaps.overlaps #[30, 30] #[4]) (by kernel_rfl),
   Lib.run_overlaps_apart w 30 4 93 Tryz.underlying30 8 opSizeOf ⟨vb, 0, none⟩ ⟨g, (i + 1) * 8, none⟩ 1 1 lb cb hne 93 93 8 (c * 8) hsv hsg (by omega) (frozen_of_row _ _ _ _ _ hv) (frozen_of_row _ _ _ _ _ hv)]
  rfl
 have hz2 : ¬ ((i : Int) = (n : Int)) := by omega
 have hz3 : ((i : Int) == (n : Int)) = false := beq_eq_false_iff_ne.2 hz2
 unfold maxLen at hcm
 have hw1 : IntKind.i64.wrap ((i : Int) + 1) = (i : Int) + 1 := IntWalk.i64_in _ (by omega)
 have hw2 : IntKind.i64.wrap ((n : Int) + 1) = (n : Int) + 1 := IntWalk.i64_in _ (by omega)
 have hb0 : ¬ ((n : Int) + 1 > (c : Int)) := by omega
 have hb1 : (0 : Int) ≤ (i : Int) + 1 := by omega
 have htn : ((i : Int) + 1).toNat = i + 1 := by omega
 have htm : ((n : Int) + 1).toNat = n + 1 := by omega
 have hb3 : (i : Int) ≤ (n : Int) + 1 := by omega
 have hb5 : (i : Int) + 1 ≤ (n : Int) + 1 := by omega
 have hb6 : (n : Int) + 1 ≤ (c : Int) := by omega
 have hb2 : ¬ (c = i + 1) := by omega
 have hb4 : ¬ (c = i) := by omega
 have mixed : Tryz.prog.follows .mixedOrders = true := by kernel_rfl
 obtain ⟨Y, hY⟩ : ∃ Y, Y = (cur.toList.take ((i + 1) * 8) ++ opCells (l.drop i) ++ cur.toList.drop ((i + 1) * 8 + (opCells (l.drop i)).length)) := ⟨_, rfl⟩
 have hYl : Y.length = c * 8 := by
  rw [hY, ← hlen, show (i + 1) * 8 = i * 8 + 8 by omega]
  exact m2
 have hcp1 := hq w.drew hg
 rw [← hY] at hcp1
 obtain ⟨W1, hW1⟩ : ∃ W1, W1 = w.drew.setRow g Y.toArray := ⟨_, rfl⟩
 rw [← hW1] at hcp1
 have hg1 : W1.heap[g]? = some (.cells Y.toArray 93 (0, 0)) := by rw [hW1]; exact setRow_heap w.drew g cur _ _ _ hg
 have hv1 : W1.heap[vb]? = some (.cells (opRow o).toArray 93 (0, 0)) := by rw [hW1]; exact (setRow_other w.drew g vb _ hne).trans hv
 have hcp2 : ∀ ty dc, (Builtin.copy_ #[30, 30] ty #[.slice (some ⟨g, i * 8, none⟩) (n + 1 - i) dc, .slice (some ⟨vb, 0, none⟩) 1 1]).run Tryz.prog W1 = .ok (goInt (Nat.min 1 (n + 1 - i))) (W1.setRow g (Y.take (i * 8) ++ opRow o ++ Y.drop (i * 8 + (opRow o).length)).toArray) := fun ty dc =>
  run_copy_rows W1 _ _ ty 93 g (i * 8) (n + 1 - i) dc ⟨vb, 0, none⟩ 1 1 Y.toArray 93 (opRow o) 8 Tryz.underlying30 opSize hg1 (by rw [opRow_len]; simp only [Nat.min_def]; split <;> omega) (row_src hv1)
   (by rw [opRow_len, List.size_toArray, hYl]; omega) (opRow_one o)
 obtain ⟨W2, hW2⟩ : ∃ W2, W2 = W1.setRow g (Y.take (i * 8) ++ opRow o ++ Y.drop (i * 8 + (opRow o).length)).toArray := ⟨_, rfl⟩
 rw [← hW2] at hcp2
 have HP : Hid (InsPost (some ⟨g, 0, none⟩) lo (l.take i ++ [o] ++ l.drop i) w (.returned (.slice (some ⟨g, 0, none⟩) (n + 1) c)) W2) := by
  have hL : (l.take i ++ [o] ++ l.drop i).length = n + 1 := by simp only [List.length_append, List.length_take, List.length_drop, List.length_cons, List.length_nil]; omega
  have e8 : (i + 1) * 8 = i * 8 + 8 := by omega
  rw [e8] at hY
  refine ⟨some ⟨g, 0, none⟩, c, by rw [hL], ⟨?_, .inr ⟨g, c, (Y.take (i * 8) ++ opRow o ++ Y.drop (i * 8 + (opRow o).length)).toArray, by rw [hL], hlo, ?_, by omega, by unfold maxLen; exact hcm, ?_, ?_⟩⟩,?_, ?_⟩
  ·rw [opCells_len, hL]
  ·rw [hW2]; exact setRow_heap W1 g Y.toArray _ _ _ hg1
  ·rw [List.size_toArray, hY, ← hlen]; exact m3
  ·show List.take _ _ = _
   rw [hL, opCells_app, opCells_app, opCells_one1, show (n + 1) * 8 = i * 8 + 8 + (n - i) * 8 by omega, hY]
   exact m1
  ·have b1 : Below lo w W1 := by
    rw [hW1]
    exact ⟨rfl, rfl, rfl, Nat.le_of_eq (by show w.heap.size = (w.heap.modify g _).size; rw [Array.size_modify]), fun j hj => setRow_other w.drew g j _ (by omega)⟩
   rw [hW2]
   exact b1.trans ⟨rfl, rfl, rfl, Nat.le_of_eq (by show W1.heap.size = (W1.heap.modify g _).size; rw [Array.size_modify]), fun j hj => setRow_other W1 g j _ (by omega)⟩
  ·intro j hj hx
   have hjg : j ≠ g := fun e => hx 0 (by rw [e])
   rw [hW2, setRow_other W1 g j _ hjg, hW1]
   exact setRow_other w.drew g j _ hjg
 have HG := Lib.hid hg
 clear hq m1 m2 m3 hg hv hseg hA hB htk hsv hsg hY hYl hW1 hW2 hg1 hv1
 go_enter Tryz.func136, Tryz.ntmps136
 go_wp2_with (simp only [hov])
 go_region_law_o (refine stepCopyR rfl _ _ _ rfl _ _ (by simp [Act.eval, Act.put]) (by simp [Act.eval, Act.put]) (hcp1 _ _ _) ?_)
 go_wp2_with (at_builtin; refine wpListCopy rfl _ _ _ rfl _ _ rfl rfl (hcp2 _ _) ?_)
 go_ret
 exact HP.out
set_option linter.unusedVariables false
set_option linter.unusedSimpArgs false

set_option maxHeartbeats 40000000 in
/-- In the midst, where there is no room. -/
theorem insGrow (w : World) (lo g n c i : Nat) (cur : Array Value) (l : List OpV) (hg : w.heap[g]? = some (.cells cur 93 (0, 0))) (hcs : cur.size = c * 8) (htk : cur.toList.take (n * 8) = opCells l) (hl : l.length = n) (hi : i < n) (hnc : n ≤ c) (hroom : c < n + 1) (hn : n ≤ 1000000) (hlo : lo ≤ w.heap.size) (o : OpV) (vb : Nat) (hv : w.heap[vb]? = some (.cells (opRow o).toArray 93 (0, 0))) :
  Calls Tryz.prog 136 #[.slice (some ⟨g, 0, none⟩) n c, .int .i64 (i : Int), .slice (some ⟨vb, 0, none⟩) 1 1] w (InsPost (some ⟨g, 0, none⟩) lo (l.take i ++ [o] ++ l.drop i) w) := by
 obtain ⟨i0, hi0, hz0, hzs, hzb⟩ := info_parts Tryz.infoOp
 have hlen : cur.toList.length = c * 8 := by rw [Array.length_toList]; exact hcs
 have hA : (opCells (l.take i)).length = i * 8 := by rw [opCells_len, List.length_take]; omega
 have hB : (opCells (l.drop i)).length = (n - i) * 8 := by rw [opCells_len, List.length_drop]; omega
 have hseg := row_seg (i := i) htk hl (by omega) (by omega)
 have hgw : g < w.heap.size := (Array.getElem?_eq_some_iff.1 hg).1
 have hvw : vb < w.heap.size := (Array.getElem?_eq_some_iff.1 hv).1
 have hkk : (n : Int) + 1 - (i : Int) = ((n + 1 - i : Nat) : Int) := by omega
 have hik : i + (n + 1 - i) = n + 1 := by omega
 have hold : (Builtin.firstCells i0.size i (.slice (some ⟨g, 0, none⟩) i c)).run Tryz.prog w.drew = .ok (opCells (l.take i)).toArray w.drew := by
  rw [hzs]
  exact run_firstCells_some w.drew 8 i ⟨g, 0, none⟩ i c (opCells (l.take i)) hA (fun j v hj => by
   rw [Addr.add_lit, cell_of_row w.drew _ _ _ _ _ hg, Nat.zero_add]
   have hj2 := (List.getElem?_eq_some_iff.1 hj).1
   rw [← Array.getElem?_toList, hseg, List.append_assoc, List.getElem?_append_left hj2]
   exact hj)
 obtain ⟨G, hG⟩ : ∃ G, G = grownCap w (n + 1) c 93 := ⟨_, rfl⟩
 have hGn : n + 1 ≤ G := by rw [hG]; exact grownCap_ge w _ _ _
 have hG63 : G ≤ maxLen := by
  rw [hG]
  exact grownCap_le_maxLen w (n + 1) c 93 (by unfold maxLen; omega)
 obtain ⟨Z, hZ⟩ : ∃ Z : Array Value, Z = Builtin.zeroCells (Value.agg #[.int .i64 0, .int .i64 0, .int .i64 0, .int .i64 0, .string ⟨#[]⟩, .int .i64 0, .int .i64 0, .int .i64 0]).cells (n + 1 - i) ++ Builtin.zeroCells (Value.agg #[.int .i64 0, .int .i64 0, .int .i64 0, .int .i64 0, .string ⟨#[]⟩, .int .i64 0, .int .i64 0, .int .i64 0]).cells (G - (n + 1)) := ⟨_, rfl⟩
 have hZs : Z.toList.length = (n + 1 - i) * 8 + (G - (n + 1)) * 8 := by
  rw [hZ, Array.length_toList, Array.size_append, size_zeroCells, size_zeroCells]
  rfl
 obtain ⟨ROW, hROW⟩ : ∃ ROW : List Value, ROW = opCells (l.take i) ++ Z.toList := ⟨_, rfl⟩
 have hRl : ROW.length = G * 8 := by rw [hROW, List.length_append, hA, hZs]; omega
 have hrz : ∀ ty, (Builtin.append_ #[30, 3] ty #[.slice (some ⟨g, 0, none⟩) i c, .int .i64 ((n : Int) + 1 - (i : Int))]).run Tryz.prog w =
   .ok (.slice (some ⟨w.heap.size, 0, none⟩) (n + 1) G) (w.drew.alloc (.cells ROW.toArray 93)) := fun ty => by
  have h := Lib.run_append_grow_zeros w 30 3 ty 93 i0 _ .i64 .i64 Tryz.underlying30 Tryz.underlying3 hi0 hz0 (some ⟨g, 0, none⟩) i c (opCells (l.take i)) hold (n + 1 - i) (by omega) (by omega) (by omega) (by omega) (by rw [hzb]; omega) (by rw [hzb, hik]; exact growslice_fits hroom (by omega))
  rw [hik] at h
  rw [hkk, h, hG, hROW, hZ, hG]
  congr 4
  apply Array.toList_inj.1
  simp only [Array.toList_append, List.append_assoc]
 obtain ⟨m1, m2, m3⟩ := ins_grow (O := opRow o) hROW hA hB (opRow_len o) (by rw [hZs]; omega)
 obtain ⟨N, hN⟩ : ∃ N, N = w.heap.size := ⟨_, rfl⟩
 rw [← hN] at hrz
 obtain ⟨H1, hH1⟩ : ∃ H1, H1 = (w.drew.alloc (.cells ROW.toArray 93)).heap := ⟨_, rfl⟩
 have hgN : H1[N]? = some (.cells ROW.toArray 93 (0, 0)) := by rw [hH1, hN]; exact heap_alloc_new w.drew _
 have hlt1 : ∀ k, k < w.heap.size → H1[k]? = w.heap[k]? := fun k hk => by rw [hH1]; exact heap_alloc_old w.drew _ hk
 have hsz1 : w.heap.size ≤ H1.size := by rw [hH1]; show w.heap.size ≤ (w.heap.push _).size; rw [Array.size_push]; omega
 obtain ⟨Y, hY⟩ : ∃ Y, Y = (ROW.take (i * 8) ++ opRow o ++ ROW.drop (i * 8 + (opRow o).length)) := ⟨_, rfl⟩
 rw [← hY] at m1 m2 m3
 obtain ⟨X, hX⟩ : ∃ X, X = (Y.take (i * 8 + 8) ++ opCells (l.drop i) ++ Y.drop (i * 8 + 8 + (opCells (l.drop i)).length)) := ⟨_, rfl⟩
 rw [← hX] at m1 m3
 have hcpA : ∀ W : World, W.heap = H1 → ∀ ty dc, (Builtin.copy_ #[30, 30] ty #[.slice (some ⟨N, i * 8, none⟩) (n + 1 - i) dc, .slice (some ⟨vb, 0, none⟩) 1 1]).run Tryz.prog W = .ok (goInt (Nat.min 1 (n + 1 - i))) (W.setRow N Y.toArray) := fun W hW ty dc => by
  rw [hY]
  exact run_copy_rows W _ _ ty 93 N (i * 8) (n + 1 - i) dc ⟨vb, 0, none⟩ 1 1 ROW.toArray 93 (opRow o) 8 Tryz.underlying30 opSize (by rw [hW]; exact hgN) (by rw [opRow_len]; simp only [Nat.min_def]; split <;> omega) (row_src (by rw [hW, hlt1 _ hvw]; exact hv))
   (by rw [opRow_len, List.size_toArray, hRl]; omega) (opRow_one o)
 have hcpB : ∀ W : World, (∃ V : World, V.heap = H1 ∧ W.heap = (V.setRow N Y.toArray).heap) → ∀ ty dc sc, (Builtin.copy_ #[30, 30] ty #[.slice (some ⟨N, (i + 1) * 8, none⟩) (n - i) dc, .slice (some ⟨g, i * 8, none⟩) (n - i) sc]).run Tryz.prog W = .ok (goInt (Nat.min (n - i) (n - i))) (W.setRow N X.toArray) := fun W ⟨V, hV, hW⟩ ty dc sc => by
  have e8 : (i + 1) * 8 = i * 8 + 8 := by omega
  have hWN : W.heap[N]? = some (.cells Y.toArray 93 (0, 0)) := by rw [hW]; exact setRow_heap V N ROW.toArray _ _ _ (by rw [hV]; exact hgN)
  have hWg : W.heap[g]? = some (.cells cur 93 (0, 0)) := by rw [hW, setRow_other V N g _ (by omega), hV, hlt1 _ hgw]; exact hg
  rw [hX, e8]
  exact run_copy_rows W _ _ ty 93 N (i * 8 + 8) (n - i) dc ⟨g, i * 8, none⟩ (n - i) sc Y.toArray 93 (opCells (l.drop i)) 8 Tryz.underlying30 opSize hWN (by rw [hB]; simp only [Nat.min_def]; split <;> omega)
   (fun j v hj => by
    rw [Addr.add_lit, cell_of_row _ _ _ _ _ _ hWg]
    have hj2 := (List.getElem?_eq_some_iff.1 hj).1
    have e : cur.toList[i * 8 + j]? = (opCells (l.drop i))[j]? := by
     conv => lhs; rw [hseg]
     rw [List.append_assoc, List.getElem?_append_right (by omega), hA, Nat.add_sub_cancel_left, List.getElem?_append_left hj2]
    rw [← Array.getElem?_toList, e, hj])
   (by rw [hB, List.size_toArray, m2, hRl]; omega) (opCells_one _)
 have HP : Hid (∀ W : World, W.os = w.os → W.tape = w.tape → W.output = w.output → (∃ V : World, V.heap = H1 ∧ W.heap = (V.setRow N Y.toArray).heap) → InsPost (some ⟨g, 0, none⟩) lo (l.take i ++ [o] ++ l.drop i) w (.returned (.slice (some ⟨N, 0, none⟩) (n + 1) G)) (W.setRow N X.toArray)) := by
  intro W w1 w2 w3 ⟨V, hV, hW⟩
  have hWN : W.heap[N]? = some (.cells Y.toArray 93 (0, 0)) := by rw [hW]; exact setRow_heap V N ROW.toArray _ _ _ (by rw [hV]; exact hgN)
  have hL : (l.take i ++ [o] ++ l.drop i).length = n + 1 := by simp only [List.length_append, List.length_take, List.length_drop, List.length_cons, List.length_nil]; omega
  refine ⟨some ⟨N, 0, none⟩, G, by rw [hL], ⟨?_, .inr ⟨N, G, X.toArray, by rw [hL], by omega, ?_, by omega, hG63, ?_, ?_⟩⟩, ?_, ?_⟩
  ·rw [opCells_len, hL]
  ·exact setRow_heap W N Y.toArray _ _ _ hWN
  ·rw [List.size_toArray, m3, hRl]
  ·show List.take _ _ = _
   rw [hL, opCells_app, opCells_app, opCells_one1, show (n + 1) * 8 = i * 8 + 8 + (n - i) * 8 by omega]
   exact m1
  ·refine ⟨w1, w2, w3, ?_, fun j hj => ?_⟩
   ·show w.heap.size ≤ (W.heap.modify N _).size
    rw [Array.size_modify, hW]
    show w.heap.size ≤ (V.heap.modify N _).size
    rw [Array.size_modify, hV]
    exact hsz1
   ·rw [setRow_other W N j _ (by omega), hW, setRow_other V N j _ (by omega), hV]
    exact hlt1 j (by omega)
  ·intro j hj hx
   rw [setRow_other W N j _ (by omega), hW, setRow_other V N j _ (by omega), hV]
   exact hlt1 j hj
 unfold maxLen at hG63
 have hz1 : ¬ ((n : Int) = 0) := by omega
 have hz2 : ¬ ((i : Int) = (n : Int)) := by omega
 have hz3 : ((i : Int) == (n : Int)) = false := beq_eq_false_iff_ne.2 hz2
 have hw1 : IntKind.i64.wrap ((i : Int) + 1) = (i : Int) + 1 := IntWalk.i64_in _ (by omega)
 have hw2 : IntKind.i64.wrap ((n : Int) + 1) = (n : Int) + 1 := IntWalk.i64_in _ (by omega)
 have hw3 : IntKind.i64.wrap ((n : Int) + 1 - (i : Int)) = (n : Int) + 1 - (i : Int) := IntWalk.i64_in _ (by omega)
 have hb0 : (c : Int) < (n : Int) + 1 := by omega
 have hb1 : (0 : Int) ≤ (i : Int) + 1 := by omega
 have htn : ((i : Int) + 1).toNat = i + 1 := by omega
 have hb3 : (i : Int) ≤ (n : Int) := by omega
 have hb5 : (i : Int) + 1 ≤ (n : Int) + 1 := by omega
 have hin : i ≤ n := by omega
 have hGi : ¬ (G = i) := by omega
 have hGim : ¬ (G = i + 1) := by omega
 have hci : ¬ (c = i) := by omega
 have hc2 : ¬ (i = c) := by omega
 have hnn : n + 1 - (i + 1) = n - i := by omega
 have mixed : Tryz.prog.follows .mixedOrders = true := by kernel_rfl
 have hE1 : (w.drew.alloc (.cells ROW.toArray 93)).heap = H1 := hH1.symm
 have hcA : ∀ ty dc, (Builtin.copy_ #[30, 30] ty #[.slice (some ⟨N, i * 8, none⟩) (n + 1 - i) dc, .slice (some ⟨vb, 0, none⟩) 1 1]).run Tryz.prog (w.alloc (.cells ROW.toArray 93)).drew = .ok (goInt (Nat.min 1 (n + 1 - i))) ((w.alloc (.cells ROW.toArray 93)).drew.setRow N Y.toArray) := fun ty dc => hcpA _ (by exact hE1) ty dc
 have hcB : ∀ ty dc sc, (Builtin.copy_ #[30, 30] ty #[.slice (some ⟨N, (i + 1) * 8, none⟩) (n - i) dc, .slice (some ⟨g, i * 8, none⟩) (n - i) sc]).run Tryz.prog ((w.alloc (.cells ROW.toArray 93)).drew.setRow N Y.toArray).drew = .ok (goInt (Nat.min (n - i) (n - i))) (((w.alloc (.cells ROW.toArray 93)).drew.setRow N Y.toArray).drew.setRow N X.toArray) := fun ty dc sc => hcpB _ (by exact ⟨_, hE1, rfl⟩) ty dc sc
 have hcB2 : ∀ ty dc sc, (Builtin.copy_ #[30, 30] ty #[.slice (some ⟨N, (i + 1) * 8, none⟩) (n + 1 - (i + 1)) dc, .slice (some ⟨g, i * 8, none⟩) (n - i) sc]).run Tryz.prog ((w.alloc (.cells ROW.toArray 93)).drew.setRow N Y.toArray).drew = .ok (goInt (Nat.min (n - i) (n - i))) (((w.alloc (.cells ROW.toArray 93)).drew.setRow N Y.toArray).drew.setRow N X.toArray) := fun ty dc sc => by rw [hnn]; exact hcB ty dc sc
 clear hcpA hcpB
 clear hold hRl hROW hZs hZ hG m1 m2 m3 hg hv hseg hA hB htk hY hX hgN hlt1 hsz1 hkk hik hi0 hz0 hzs hzb hN hH1 hcs hlen
 go_enter Tryz.func136, Tryz.ntmps136
 go_wp2_with (at_builtin; refine Lib.wpList_append_run _ rfl _ _ _ _ rfl _ _ rfl rfl _ _ (hrz _) ?_)
 go_region_law_o (fail)
 go_wp2
 go_ret
 exact HP.out _ rfl rfl rfl ⟨_, hE1, rfl⟩
/-- Wherever: the row is the call's own. -/
theorem insAt (w : World) (lo : Nat) (a : Option Addr) (n c i : Nat) (l : List OpV) (hown : w.ownsRow lo 93 8 (.slice a n c) n (opCells l)) (hlo : lo ≤ w.heap.size) (hn : n ≤ 1000000) (hi : i ≤ n) (o : OpV) (vb : Nat) (hv : w.heap[vb]? = some (.cells (opRow o).toArray 93 (0, 0))) (hne : ∀ k x, a = some ⟨k, x, none⟩ → vb ≠ k) :
  Calls Tryz.prog 136 #[.slice a n c, .int .i64 (i : Int), .slice (some ⟨vb, 0, none⟩) 1 1] w (InsPost a lo (l.take i ++ [o] ++ l.drop i) w) := by
 have hl : l.length = n := by have := hown.1; rw [opCells_len] at this; omega
 by_cases he : i = n
 ·subst he
  rw [List.take_of_length_le (by omega), List.drop_eq_nil_of_le (by omega), List.append_nil]
  exact insEnd w lo a i c l hown hlo hn o vb hv
 rcases hown.2 with ⟨e, e2⟩ | ⟨g, c', cur, e, hg, hc, hcap, hcm, hsz, htk⟩
 ·omega
 ·injection e with e1 _ e3
  subst e1 e3
  by_cases hr : n + 1 ≤ c
  ·exact insShift w lo g n c i cur l hc hsz htk hl (by omega) hr hcm hn hg o vb hv (hne g 0 rfl)
  ·exact insGrow w lo g n c i cur l hc hsz htk hl (by omega) hcap (by omega) hn hlo o vb hv
end Go.Proofs.YtjokbaaommicmaaGreatDoor
