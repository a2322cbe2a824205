/- Walks and mathematics that several claims share, part 30. -/
import Derived.Test.YthkagbnpcjidfaaGreatDoorGu29
import Derived.Lib.Overlaps
import Derived.Lib.AppendZeros
import Derived.Lib.AppendZerosOnto
import Derived.Laws.NewBlocks
import Derived.Laws.Externs
import Derived.Lib.SliceRun
import Derived.Lib.JoinLaws
import Derived.Shelf.RegionOpen
import Derived.Shelf.RegionOpenPlain
namespace Go.Proofs.YthkagbnpcjidfaaGreatDoor
set_option maxRecDepth 100000
open Go.RowKit
set_option linter.unusedVariables false
set_option linter.unusedSimpArgs false
theorem x8 {P : Program} {w : World} {ops : Array Oper} {rest : List Oper} {o : Oper} {a : Act} {Q : Exit → Act → World → Prop} (vO : o.guard = none) (x y : Operand) (ts : Array TypeId) (eA : o.op = Op.call { callee := Callee.builtin Builtin.append, args := #[x, y], argTypes := ts }) (v1 v2 : Value) {v' : Value} {w' : World} (h1 : a.eval x = v1) (h2 : a.eval y = v2)
  (hrun : (Builtin.append_ ts o.type #[v1, v2]).run P w = .ok v' w') (h : wpList P ops Q rest (a.put o.dst v') w') : wpList P ops Q (o :: rest) a w := by
 refine wpList_plain vO fun _ hK => ?_
 unfold Oper.wp
 simp [execOp, eA, resolve, invoke, builtin, h1, h2, hrun, Result.andThen]
 exact hK _ _ h
theorem aAg : (Tryz.prog.info? 50).map (·.size) = some 8 := by kernel_rfl
def uS (a0 : Option Addr) (lo : Nat) (L : List aA) (w : World) (e : Ending) (w' : World) : Prop := ∃ a c, e = .returned (.slice a L.length c) ∧ w'.ownsRow lo 50 8 (.slice a L.length c) L.length (aF L) ∧ Below lo w w' ∧ ∀ j, j < w.heap.size → (∀ x, a0 ≠ some ⟨j, x, none⟩) → w'.heap[j]? = w.heap[j]?
theorem aA9 {w : World} {vb : Nat} {o : aA} {T : TypeId} (hv : w.heap[vb]? = some (.cells (bV o).toArray T (0, 0))) : ∀ j u, (bV o)[j]? = some u → w.cell? ((⟨vb, 0, none⟩ : Addr).add j) = some u := fun j u hj => by
 rw [Addr.add_lit, aPr hv, Nat.zero_add]
 simpa using hj
set_option maxHeartbeats 40000000 in
theorem aLi (w : World) (lo : Nat) (a : Option Addr) (n c : Nat) (l : List aA) (aU : w.ownsRow lo 50 8 (.slice a n c) n (aF l)) (iE : lo ≤ w.heap.size) (hn : n ≤ 1000000) (o : aA) (vb : Nat) (hv : w.heap[vb]? = some (.cells (bV o).toArray 50 (0, 0))) :
  Calls Tryz.prog 155 #[.slice a n c, .int .i64 (n : Int), .slice (some ⟨vb, 0, none⟩) 1 1] w (uS a lo (l ++ [o]) w) := by
 obtain ⟨i0, hi, gK, jV, iS⟩ := info_parts Tryz.infoOp
 have hl : l.length = n := by have := aU.1; rw [eL] at this; omega
 obtain ⟨v', w1, hrun, h2, h3, _⟩ := run_append_own (P := Tryz.prog) w lo 25 25 50 i0 (.agg #[.int .i64 0, .int .i64 0, .int .i64 0, .int .i64 0, .string ⟨#[]⟩, .int .i64 0, .int .i64 0, .int .i64 0]) 8 72 Tryz.underlying25 hi gK jV iS rfl (by decide) _ n _ aU ⟨vb, 0, none⟩ 1 1 (bV o) rfl (aA9 hv) (by intro u hu; simp only [bV, List.mem_cons, List.not_mem_nil, or_false] at hu; rcases hu with rfl | rfl | rfl | rfl | rfl | rfl | rfl | rfl <;> rfl) (by unfold maxLen; omega) (by omega) iE
 obtain ⟨a', c', rfl⟩ : ∃ a' c', v' = .slice a' (n + 1) c' := by
  rcases h2.2 with ⟨_, e⟩ | ⟨g, c, aW, e, _⟩
  ·omega
  ·exact ⟨_, _, e⟩
 have HP : Hid (uS a lo (l ++ [o]) w (.returned (.slice a' (n + 1) c')) w1) := by
  have hL : (l ++ [o]).length = n + 1 := by rw [List.length_append, hl]; rfl
  refine ⟨a', c', by rw [hL], ?_, (Below.refl lo w).grown h3 iE (fun j hj => (aU.lt j hj).1), fun j hj hx => h3.block j hj (fun e => ?_)⟩
  ·rw [hL, jD]
   exact h2
  ·rcases aU.2 with ⟨e5, e2⟩ | ⟨g, c5, aW, e5, _⟩
   ·injection e5 with e1 _ _
    subst e1; exact absurd (show some j = none from e) (by simp)
   ·injection e5 with e1 _ _
    subst e1; have e6 : some j = some g := e; injection e6 with e7; exact hx 0 (by rw [e7])
 have hnc : n ≤ c := by
  rcases aU.2 with ⟨e, e2⟩ | ⟨g, c', aW, e, _, _, h, _⟩
  ·omega
  ·injection e with _ _ e3; omega
 have F7 : c ≤ maxLen := by
  rcases aU.2 with ⟨e, e2⟩ | ⟨g, c', aW, e, _, _, _, h, _⟩
  ·injection e with _ _ e3; rw [e3]; exact Nat.zero_le _
  ·injection e with _ _ e3; omega
 unfold maxLen at F7
 have aMW : a = none ∨ ∃ g, a = some ⟨g, 0, none⟩ := by
  rcases aU.2 with ⟨e, e2⟩ | ⟨g, c', aW, e, _⟩
  ·injection e with e1 _ _; exact .inl e1
  ·injection e with e1 _ _; exact .inr ⟨g, e1⟩
 clear h2 h3 aU
 go_enter Tryz.func155, Tryz.ntmps155
 rcases aMW with rfl | ⟨g, rfl⟩
 ·go_wp2_with (at_builtin; refine x8 rfl _ _ _ rfl _ _ rfl rfl hrun ?_)
  all_goals (go_ret; exact HP.out)
 ·go_wp2_with (at_builtin; refine x8 rfl _ _ _ rfl _ _ rfl rfl hrun ?_)
  all_goals (go_ret; exact HP.out)
theorem aBH (o : aA) : ∀ u ∈ bV o, u.oneCell' = true := by
 intro u hu
 simp only [bV, List.mem_cons, List.not_mem_nil, or_false] at hu
 rcases hu with rfl | rfl | rfl | rfl | rfl | rfl | rfl | rfl <;> rfl
theorem aHK (w : World) : (Go.sizeOf 50).run Tryz.prog w = .ok 8 w := by kernel_rfl
theorem aF9 {P : Program} {ops : Array Oper} {o : Oper} {a : Act} {w : World} {K : Act → World → Prop} {Q : Exit → Act → World → Prop} {E : Prop} (hg : o.guard = none) (x y : Operand) (ts : Array TypeId) (eA : o.op = Op.call { callee := Callee.builtin Builtin.copy, args := #[x, y], argTypes := ts }) (v1 v2 : Value) {v' : Value} {w' : World} (h1 : a.eval x = v1) (h2 : a.eval y = v2)
  (hrun : (Builtin.copy_ ts o.type #[v1, v2]).run P w = .ok v' w') (hK : K (a.put o.dst v') w') : if Region.wanted o (yielded ops a.tmps) = true then Oper.wp P o a w K Q else E := by
 rw [if_pos (by simp [Region.wanted, hg])]
 exact aCv x y ts eA v1 v2 h1 h2 hrun hK
theorem aEu {aW : List Value} {l : List aA} {n i : Nat} (ht : aW.take (n * 8) = aF l) (hl : l.length = n) (hi : i ≤ n) (hs : n * 8 ≤ aW.length) : aW = aF (l.take i) ++ aF (l.drop i) ++ aW.drop (n * 8) := by
 have e : aF l = aF (l.take i) ++ aF (l.drop i) := by rw [← nC, List.take_append_drop]
 rw [← e, ← ht, List.take_append_drop]
set_option maxHeartbeats 40000000 in
theorem aId (w : World) (lo g n c i : Nat) (aW : Array Value) (l : List aA) (hg : w.heap[g]? = some (.cells aW 50 (0, 0))) (hcs : aW.size = c * 8) (htk : aW.toList.take (n * 8) = aF l) (hl : l.length = n) (hi : i < n) (aJp : n + 1 ≤ c) (F7 : c ≤ maxLen) (hn : n ≤ 1000000) (iE : lo ≤ g) (o : aA) (vb : Nat) (hv : w.heap[vb]? = some (.cells (bV o).toArray 50 (0, 0))) (bO : vb ≠ g) :
  Calls Tryz.prog 155 #[.slice (some ⟨g, 0, none⟩) n c, .int .i64 (i : Int), .slice (some ⟨vb, 0, none⟩) 1 1] w (uS (some ⟨g, 0, none⟩) lo (l.take i ++ [o] ++ l.drop i) w) := by
 have mQ : aW.toList.length = c * 8 := by rw [Array.length_toList]; exact hcs
 have hA : (aF (l.take i)).length = i * 8 := by rw [eL, List.length_take]; omega
 have hB : (aF (l.drop i)).length = (n - i) * 8 := by rw [eL, List.length_drop]; omega
 have n9 := aEu (i := i) htk hl (by omega) (by omega)
 obtain ⟨m1, m2, m3⟩ := aGT (O := bV o) n9 hA hB (rQ o) (by rw [List.length_drop, mQ]; omega)
 have hq : ∀ W : World, W.heap[g]? = some (.cells aW 50 (0, 0)) → ∀ ty dc sc, (Builtin.copy_ #[25, 25] ty #[.slice (some ⟨g, (i + 1) * 8, none⟩) (n - i) dc, .slice (some ⟨g, i * 8, none⟩) (n + 1 - i) sc]).run Tryz.prog W = .ok (goInt (Nat.min (n + 1 - i) (n - i))) (W.setRow g (aW.toList.take ((i + 1) * 8) ++ aF (l.drop i) ++ aW.toList.drop ((i + 1) * 8 + (aF (l.drop i)).length)).toArray) := fun W hW ty dc sc =>
  qZ W _ _ ty 50 g ((i + 1) * 8) (n - i) dc ⟨g, i * 8, none⟩ (n + 1 - i) sc aW 50 (aF (l.drop i)) 8 Tryz.underlying25 aAg hW (by rw [hB]; simp only [Nat.min_def]; split <;> omega)
   (fun j v hj => by
    rw [Addr.add_lit, aPr hW]; have hj2 := (List.getElem?_eq_some_iff.1 hj).1; have e : aW.toList[i * 8 + j]? = (aF (l.drop i))[j]? := by
     conv => lhs; rw [n9]
     rw [List.append_assoc, List.getElem?_append_right (by omega), hA, Nat.add_sub_cancel_left, List.getElem?_append_left hj2]
    rw [← Array.getElem?_toList, e, hj])
   (by rw [hB, hcs]; omega) (iY _)
 have hsv : w.shape? vb = some (50, 8) := by unfold World.shape?; rw [hv]; rfl
 have hsg : w.shape? g = some (50, c * 8) := by unfold World.shape?; rw [hg]; show some (_, aW.size) = _; rw [hcs]
 have gW : ∀ lb cb, (callFunc 163 #[.slice (some ⟨vb, 0, none⟩) 1 1, .slice (some ⟨g, (i + 1) * 8, none⟩) lb cb]).run Tryz.prog w = .ok (.value (.bool false)) w := fun lb cb => by
  rw [run_callFunc_extern Tryz.func163 (by kernel_rfl) (by kernel_rfl) (by kernel_rfl) (e := Extern.SlicesOverlaps.overlaps #[25, 25] #[4]) (by kernel_rfl),
   Lib.run_overlaps_apart w 25 4 50 Tryz.underlying25 8 aHK ⟨vb, 0, none⟩ ⟨g, (i + 1) * 8, none⟩ 1 1 lb cb bO 50 50 8 (c * 8) hsv hsg (by omega) (aPs hv) (aPs hv)]
  rfl
 have iS : ¬ ((i : Int) = (n : Int)) := by omega
 have hz3 : ((i : Int) == (n : Int)) = false := beq_eq_false_iff_ne.2 iS
 unfold maxLen at F7
 have hw1 : IntKind.i64.wrap ((i : Int) + 1) = (i : Int) + 1 := IntWalk.i64_in _ (by omega)
 have hw2 : IntKind.i64.wrap ((n : Int) + 1) = (n : Int) + 1 := IntWalk.i64_in _ (by omega)
 have bD : ¬ ((n : Int) + 1 > (c : Int)) := by omega
 have aG : (0 : Int) ≤ (i : Int) + 1 := by omega
 have htn : ((i : Int) + 1).toNat = i + 1 := by omega
 have htm : ((n : Int) + 1).toNat = n + 1 := by omega
 have aV : (i : Int) ≤ (n : Int) + 1 := by omega
 have bA : (i : Int) + 1 ≤ (n : Int) + 1 := by omega
 have lK : (n : Int) + 1 ≤ (c : Int) := by omega
 have aM : ¬ (c = i + 1) := by omega
 have dJ : ¬ (c = i) := by omega
 have mixed : Tryz.prog.follows .mixedOrders = true := by kernel_rfl
 obtain ⟨Y, hY⟩ : ∃ Y, Y = (aW.toList.take ((i + 1) * 8) ++ aF (l.drop i) ++ aW.toList.drop ((i + 1) * 8 + (aF (l.drop i)).length)) := ⟨_, rfl⟩
 have hYl : Y.length = c * 8 := by
  rw [hY, ← mQ, show (i + 1) * 8 = i * 8 + 8 by omega]
  exact m2
 have aIz := hq w.drew hg
 rw [← hY] at aIz
 obtain ⟨W1, hW1⟩ : ∃ W1, W1 = w.drew.setRow g Y.toArray := ⟨_, rfl⟩
 rw [← hW1] at aIz
 have bZ : W1.heap[g]? = some (.cells Y.toArray 50 (0, 0)) := by rw [hW1]; exact setRow_heap w.drew g aW _ _ _ hg
 have hv1 : W1.heap[vb]? = some (.cells (bV o).toArray 50 (0, 0)) := by rw [hW1]; exact (setRow_other w.drew g vb _ bO).trans hv
 have aLB : ∀ ty dc, (Builtin.copy_ #[25, 25] ty #[.slice (some ⟨g, i * 8, none⟩) (n + 1 - i) dc, .slice (some ⟨vb, 0, none⟩) 1 1]).run Tryz.prog W1 = .ok (goInt (Nat.min 1 (n + 1 - i))) (W1.setRow g (Y.take (i * 8) ++ bV o ++ Y.drop (i * 8 + (bV o).length)).toArray) := fun ty dc =>
  qZ W1 _ _ ty 50 g (i * 8) (n + 1 - i) dc ⟨vb, 0, none⟩ 1 1 Y.toArray 50 (bV o) 8 Tryz.underlying25 aAg bZ (by rw [rQ]; simp only [Nat.min_def]; split <;> omega) (aA9 hv1)
   (by rw [rQ, List.size_toArray, hYl]; omega) (aBH o)
 obtain ⟨W2, hW2⟩ : ∃ W2, W2 = W1.setRow g (Y.take (i * 8) ++ bV o ++ Y.drop (i * 8 + (bV o).length)).toArray := ⟨_, rfl⟩
 rw [← hW2] at aLB
 have HP : Hid (uS (some ⟨g, 0, none⟩) lo (l.take i ++ [o] ++ l.drop i) w (.returned (.slice (some ⟨g, 0, none⟩) (n + 1) c)) W2) := by
  have hL : (l.take i ++ [o] ++ l.drop i).length = n + 1 := by simp only [List.length_append, List.length_take, List.length_drop, List.length_cons, List.length_nil]; omega
  have e8 : (i + 1) * 8 = i * 8 + 8 := by omega
  rw [e8] at hY; refine ⟨some ⟨g, 0, none⟩, c, by rw [hL], ⟨?_, .inr ⟨g, c, (Y.take (i * 8) ++ bV o ++ Y.drop (i * 8 + (bV o).length)).toArray, by rw [hL], iE, ?_, by omega, by unfold maxLen; exact F7, ?_, ?_⟩⟩,?_, ?_⟩
  ·rw [eL, hL]
  ·rw [hW2]; exact setRow_heap W1 g Y.toArray _ _ _ bZ
  ·rw [List.size_toArray, hY, ← mQ]; exact m3
  ·show List.take _ _ = _
   rw [hL, nC, nC, Q1, show (n + 1) * 8 = i * 8 + 8 + (n - i) * 8 by omega, hY]
   exact m1
  ·have b1 : Below lo w W1 := by
    rw [hW1]; exact ⟨rfl, rfl, rfl, Nat.le_of_eq (by show w.heap.size = (w.heap.modify g _).size; rw [Array.size_modify]), fun j hj => setRow_other w.drew g j _ (by omega)⟩
   rw [hW2]; exact b1.trans ⟨rfl, rfl, rfl, Nat.le_of_eq (by show W1.heap.size = (W1.heap.modify g _).size; rw [Array.size_modify]), fun j hj => setRow_other W1 g j _ (by omega)⟩
  ·intro j hj hx
   have hjg : j ≠ g := fun e => hx 0 (by rw [e])
   rw [hW2, setRow_other W1 g j _ hjg, hW1]; exact setRow_other w.drew g j _ hjg
 have HG := aPo hg
 clear hq m1 m2 m3 hg hv n9 hA hB htk hsv hsg hY hYl hW1 hW2 bZ hv1
 go_enter Tryz.func155, Tryz.ntmps155
 go_wp2_with (simp only [gW])
 go_region_law_o (refine aF9 rfl _ _ _ rfl _ _ (by simp [Act.eval, Act.put]) (by simp [Act.eval, Act.put]) (aIz _ _ _) ?_)
 go_wp2_with (at_builtin; refine aET rfl _ _ _ rfl _ _ rfl rfl (aLB _ _) ?_)
 go_ret
 exact HP.out
set_option maxHeartbeats 40000000 in
theorem aKo (w : World) (lo g n c i : Nat) (aW : Array Value) (l : List aA) (hg : w.heap[g]? = some (.cells aW 50 (0, 0))) (hcs : aW.size = c * 8) (htk : aW.toList.take (n * 8) = aF l) (hl : l.length = n) (hi : i < n) (hnc : n ≤ c) (aJp : c < n + 1) (hn : n ≤ 1000000) (iE : lo ≤ w.heap.size) (o : aA) (vb : Nat) (hv : w.heap[vb]? = some (.cells (bV o).toArray 50 (0, 0))) :
  Calls Tryz.prog 155 #[.slice (some ⟨g, 0, none⟩) n c, .int .i64 (i : Int), .slice (some ⟨vb, 0, none⟩) 1 1] w (uS (some ⟨g, 0, none⟩) lo (l.take i ++ [o] ++ l.drop i) w) := by
 obtain ⟨i0, hi0, gK, lW, hzb⟩ := info_parts Tryz.infoOp
 have mQ : aW.toList.length = c * 8 := by rw [Array.length_toList]; exact hcs
 have hA : (aF (l.take i)).length = i * 8 := by rw [eL, List.length_take]; omega
 have hB : (aF (l.drop i)).length = (n - i) * 8 := by rw [eL, List.length_drop]; omega
 have n9 := aEu (i := i) htk hl (by omega) (by omega)
 have jH : g < w.heap.size := (aPp hg).1
 have hvw : vb < w.heap.size := (aPp hv).1
 have hkk : (n : Int) + 1 - (i : Int) = ((n + 1 - i : Nat) : Int) := by omega
 have oG : i + (n + 1 - i) = n + 1 := by omega
 have aFk : (Builtin.firstCells i0.size i (.slice (some ⟨g, 0, none⟩) i c)).run Tryz.prog w.drew = .ok (aF (l.take i)).toArray w.drew := by
  rw [lW]; exact run_firstCells_some w.drew 8 i ⟨g, 0, none⟩ i c (aF (l.take i)) hA (fun j v hj => by
   rw [Addr.add_lit, cell_of_row w.drew _ _ _ _ _ hg, Nat.zero_add]; have hj2 := (List.getElem?_eq_some_iff.1 hj).1; rw [← Array.getElem?_toList, n9, List.append_assoc, List.getElem?_append_left hj2]; exact hj)
 obtain ⟨G, hG⟩ : ∃ G, G = grownCap w (n + 1) c 50 := ⟨_, rfl⟩
 have hGn : n + 1 ≤ G := by rw [hG]; exact grownCap_ge w _ _ _
 have aLP : G ≤ maxLen := by
  rw [hG]; exact grownCap_le_maxLen w (n + 1) c 50 (by unfold maxLen; omega)
 obtain ⟨Z, hZ⟩ : ∃ Z : Array Value, Z = Builtin.zeroCells (Value.agg #[.int .i64 0, .int .i64 0, .int .i64 0, .int .i64 0, .string ⟨#[]⟩, .int .i64 0, .int .i64 0, .int .i64 0]).cells (n + 1 - i) ++ Builtin.zeroCells (Value.agg #[.int .i64 0, .int .i64 0, .int .i64 0, .int .i64 0, .string ⟨#[]⟩, .int .i64 0, .int .i64 0, .int .i64 0]).cells (G - (n + 1)) := ⟨_, rfl⟩
 have hZs : Z.toList.length = (n + 1 - i) * 8 + (G - (n + 1)) * 8 := by
  rw [hZ, Array.length_toList, Array.size_append, size_zeroCells, size_zeroCells]
  rfl
 obtain ⟨tW, aFr⟩ : ∃ tW : List Value, tW = aF (l.take i) ++ Z.toList := ⟨_, rfl⟩
 have hRl : tW.length = G * 8 := by rw [aFr, List.length_append, hA, hZs]; omega
 have hrz : ∀ ty, (Builtin.append_ #[25, 3] ty #[.slice (some ⟨g, 0, none⟩) i c, .int .i64 ((n : Int) + 1 - (i : Int))]).run Tryz.prog w =
   .ok (.slice (some ⟨w.heap.size, 0, none⟩) (n + 1) G) (w.drew.alloc (.cells tW.toArray 50)) := fun ty => by
  have h := Lib.run_append_grow_zeros w 25 3 ty 50 i0 _ .i64 .i64 Tryz.underlying25 Tryz.underlying3 hi0 gK (some ⟨g, 0, none⟩) i c (aF (l.take i)) aFk (n + 1 - i) (by omega) (by omega) (by omega) (by omega) (by rw [hzb]; omega) (by rw [hzb, oG]; exact growslice_fits aJp (by omega))
  rw [oG] at h; rw [hkk, h, hG, aFr, hZ, hG]
  congr 4
  apply Array.toList_inj.1
  simp only [Array.toList_append, List.append_assoc]
 obtain ⟨m1, m2, m3⟩ := aIc (O := bV o) aFr hA hB (rQ o) (by rw [hZs]; omega)
 obtain ⟨N, hN⟩ : ∃ N, N = w.heap.size := ⟨_, rfl⟩
 rw [← hN] at hrz
 obtain ⟨H1, hH1⟩ : ∃ H1, H1 = (w.drew.alloc (.cells tW.toArray 50)).heap := ⟨_, rfl⟩
 have hgN : H1[N]? = some (.cells tW.toArray 50 (0, 0)) := by rw [hH1, hN]; exact heap_alloc_new w.drew _
 have uM : ∀ k, k < w.heap.size → H1[k]? = w.heap[k]? := fun k hk => by rw [hH1]; exact heap_alloc_old w.drew _ hk
 have rH : w.heap.size ≤ H1.size := by rw [hH1]; show w.heap.size ≤ (w.heap.push _).size; rw [Array.size_push]; omega
 obtain ⟨Y, hY⟩ : ∃ Y, Y = (tW.take (i * 8) ++ bV o ++ tW.drop (i * 8 + (bV o).length)) := ⟨_, rfl⟩
 rw [← hY] at m1 m2 m3
 obtain ⟨X, hX⟩ : ∃ X, X = (Y.take (i * 8 + 8) ++ aF (l.drop i) ++ Y.drop (i * 8 + 8 + (aF (l.drop i)).length)) := ⟨_, rfl⟩
 rw [← hX] at m1 m3
 have aLA : ∀ W : World, W.heap = H1 → ∀ ty dc, (Builtin.copy_ #[25, 25] ty #[.slice (some ⟨N, i * 8, none⟩) (n + 1 - i) dc, .slice (some ⟨vb, 0, none⟩) 1 1]).run Tryz.prog W = .ok (goInt (Nat.min 1 (n + 1 - i))) (W.setRow N Y.toArray) := fun W hW ty dc => by
  rw [hY]; exact qZ W _ _ ty 50 N (i * 8) (n + 1 - i) dc ⟨vb, 0, none⟩ 1 1 tW.toArray 50 (bV o) 8 Tryz.underlying25 aAg (by rw [hW]; exact hgN) (by rw [rQ]; simp only [Nat.min_def]; split <;> omega) (aA9 (by rw [hW, uM _ hvw]; exact hv))
   (by rw [rQ, List.size_toArray, hRl]; omega) (aBH o)
 have aLz : ∀ W : World, (∃ V : World, V.heap = H1 ∧ W.heap = (V.setRow N Y.toArray).heap) → ∀ ty dc sc, (Builtin.copy_ #[25, 25] ty #[.slice (some ⟨N, (i + 1) * 8, none⟩) (n - i) dc, .slice (some ⟨g, i * 8, none⟩) (n - i) sc]).run Tryz.prog W = .ok (goInt (Nat.min (n - i) (n - i))) (W.setRow N X.toArray) := fun W ⟨V, hV, hW⟩ ty dc sc => by
  have e8 : (i + 1) * 8 = i * 8 + 8 := by omega
  have hWN : W.heap[N]? = some (.cells Y.toArray 50 (0, 0)) := by rw [hW]; exact setRow_heap V N tW.toArray _ _ _ (by rw [hV]; exact hgN)
  have hWg : W.heap[g]? = some (.cells aW 50 (0, 0)) := by rw [hW, setRow_other V N g _ (by omega), hV, uM _ jH]; exact hg
  rw [hX, e8]; exact qZ W _ _ ty 50 N (i * 8 + 8) (n - i) dc ⟨g, i * 8, none⟩ (n - i) sc Y.toArray 50 (aF (l.drop i)) 8 Tryz.underlying25 aAg hWN (by rw [hB]; simp only [Nat.min_def]; split <;> omega)
   (fun j v hj => by
    rw [Addr.add_lit, aPr hWg]; have hj2 := (List.getElem?_eq_some_iff.1 hj).1; have e : aW.toList[i * 8 + j]? = (aF (l.drop i))[j]? := by
     conv => lhs; rw [n9]
     rw [List.append_assoc, List.getElem?_append_right (by omega), hA, Nat.add_sub_cancel_left, List.getElem?_append_left hj2]
    rw [← Array.getElem?_toList, e, hj])
   (by rw [hB, List.size_toArray, m2, hRl]; omega) (iY _)
 have HP : Hid (∀ W : World, W.os = w.os → W.tape = w.tape → W.output = w.output → (∃ V : World, V.heap = H1 ∧ W.heap = (V.setRow N Y.toArray).heap) → uS (some ⟨g, 0, none⟩) lo (l.take i ++ [o] ++ l.drop i) w (.returned (.slice (some ⟨N, 0, none⟩) (n + 1) G)) (W.setRow N X.toArray)) := by
  intro W w1 w2 w3 ⟨V, hV, hW⟩
  have hWN : W.heap[N]? = some (.cells Y.toArray 50 (0, 0)) := by rw [hW]; exact setRow_heap V N tW.toArray _ _ _ (by rw [hV]; exact hgN)
  have hL : (l.take i ++ [o] ++ l.drop i).length = n + 1 := by simp only [List.length_append, List.length_take, List.length_drop, List.length_cons, List.length_nil]; omega
  refine ⟨some ⟨N, 0, none⟩, G, by rw [hL], ⟨?_, .inr ⟨N, G, X.toArray, by rw [hL], by omega, ?_, by omega, aLP, ?_, ?_⟩⟩, ?_, ?_⟩
  ·rw [eL, hL]
  ·exact setRow_heap W N Y.toArray _ _ _ hWN
  ·rw [List.size_toArray, m3, hRl]
  ·show List.take _ _ = _
   rw [hL, nC, nC, Q1, show (n + 1) * 8 = i * 8 + 8 + (n - i) * 8 by omega]
   exact m1
  ·refine ⟨w1, w2, w3, ?_, fun j hj => ?_⟩
   ·show w.heap.size ≤ (W.heap.modify N _).size
    rw [Array.size_modify, hW]
    show w.heap.size ≤ (V.heap.modify N _).size
    rw [Array.size_modify, hV]; exact rH
   ·rw [setRow_other W N j _ (by omega), hW, setRow_other V N j _ (by omega), hV]
    exact uM j (by omega)
  ·intro j hj hx
   rw [setRow_other W N j _ (by omega), hW, setRow_other V N j _ (by omega), hV]
   exact uM j hj
 unfold maxLen at aLP
 have jV : ¬ ((n : Int) = 0) := by omega
 have iS : ¬ ((i : Int) = (n : Int)) := by omega
 have hz3 : ((i : Int) == (n : Int)) = false := beq_eq_false_iff_ne.2 iS
 have hw1 : IntKind.i64.wrap ((i : Int) + 1) = (i : Int) + 1 := IntWalk.i64_in _ (by omega)
 have hw2 : IntKind.i64.wrap ((n : Int) + 1) = (n : Int) + 1 := IntWalk.i64_in _ (by omega)
 have hw3 : IntKind.i64.wrap ((n : Int) + 1 - (i : Int)) = (n : Int) + 1 - (i : Int) := IntWalk.i64_in _ (by omega)
 have bD : (c : Int) < (n : Int) + 1 := by omega
 have aG : (0 : Int) ≤ (i : Int) + 1 := by omega
 have htn : ((i : Int) + 1).toNat = i + 1 := by omega
 have aV : (i : Int) ≤ (n : Int) := by omega
 have bA : (i : Int) + 1 ≤ (n : Int) + 1 := by omega
 have hin : i ≤ n := by omega
 have hGi : ¬ (G = i) := by omega
 have aPe : ¬ (G = i + 1) := by omega
 have hci : ¬ (c = i) := by omega
 have dP : ¬ (i = c) := by omega
 have Z6 : n + 1 - (i + 1) = n - i := by omega
 have mixed : Tryz.prog.follows .mixedOrders = true := by kernel_rfl
 have hE1 : (w.drew.alloc (.cells tW.toArray 50)).heap = H1 := hH1.symm
 have hcA : ∀ ty dc, (Builtin.copy_ #[25, 25] ty #[.slice (some ⟨N, i * 8, none⟩) (n + 1 - i) dc, .slice (some ⟨vb, 0, none⟩) 1 1]).run Tryz.prog (w.alloc (.cells tW.toArray 50)).drew = .ok (goInt (Nat.min 1 (n + 1 - i))) ((w.alloc (.cells tW.toArray 50)).drew.setRow N Y.toArray) := fun ty dc => aLA _ (by exact hE1) ty dc
 have hcB : ∀ ty dc sc, (Builtin.copy_ #[25, 25] ty #[.slice (some ⟨N, (i + 1) * 8, none⟩) (n - i) dc, .slice (some ⟨g, i * 8, none⟩) (n - i) sc]).run Tryz.prog ((w.alloc (.cells tW.toArray 50)).drew.setRow N Y.toArray).drew = .ok (goInt (Nat.min (n - i) (n - i))) (((w.alloc (.cells tW.toArray 50)).drew.setRow N Y.toArray).drew.setRow N X.toArray) := fun ty dc sc => aLz _ (by exact ⟨_, hE1, rfl⟩) ty dc sc
 have aPb : ∀ ty dc sc, (Builtin.copy_ #[25, 25] ty #[.slice (some ⟨N, (i + 1) * 8, none⟩) (n + 1 - (i + 1)) dc, .slice (some ⟨g, i * 8, none⟩) (n - i) sc]).run Tryz.prog ((w.alloc (.cells tW.toArray 50)).drew.setRow N Y.toArray).drew = .ok (goInt (Nat.min (n - i) (n - i))) (((w.alloc (.cells tW.toArray 50)).drew.setRow N Y.toArray).drew.setRow N X.toArray) := fun ty dc sc => by rw [Z6]; exact hcB ty dc sc
 clear aLA aLz
 clear aFk hRl aFr hZs hZ hG m1 m2 m3 hg hv n9 hA hB htk hY hX hgN uM rH hkk oG hi0 gK lW hzb hN hH1 hcs mQ
 go_enter Tryz.func155, Tryz.ntmps155
 go_wp2_with (at_builtin; refine Lib.wpList_append_run _ rfl _ _ _ _ rfl _ _ rfl rfl _ _ (hrz _) ?_)
 go_region_law_o (fail)
 go_wp2
 go_ret
 exact HP.out _ rfl rfl rfl ⟨_, hE1, rfl⟩
theorem aMP (w : World) (lo : Nat) (a : Option Addr) (n c i : Nat) (l : List aA) (aU : w.ownsRow lo 50 8 (.slice a n c) n (aF l)) (iE : lo ≤ w.heap.size) (hn : n ≤ 1000000) (hi : i ≤ n) (o : aA) (vb : Nat) (hv : w.heap[vb]? = some (.cells (bV o).toArray 50 (0, 0))) (bO : ∀ k x, a = some ⟨k, x, none⟩ → vb ≠ k) :
  Calls Tryz.prog 155 #[.slice a n c, .int .i64 (i : Int), .slice (some ⟨vb, 0, none⟩) 1 1] w (uS a lo (l.take i ++ [o] ++ l.drop i) w) := by
 have hl : l.length = n := by have := aU.1; rw [eL] at this; omega
 by_cases he : i = n
 ·subst he
  rw [List.take_of_length_le (by omega), List.drop_eq_nil_of_le (by omega), List.append_nil]
  exact aLi w lo a i c l aU iE hn o vb hv
 rcases aU.2 with ⟨e, e2⟩ | ⟨g, c', aW, e, hg, hc, jJ, F7, dC, htk⟩
 ·omega
 ·injection e with e1 _ e3
  subst e1 e3
  by_cases hr : n + 1 ≤ c
  ·exact aId w lo g n c i aW l hc dC htk hl (by omega) hr F7 hn hg o vb hv (bO g 0 rfl)
  ·exact aKo w lo g n c i aW l hc dC htk hl (by omega) jJ (by omega) hn iE o vb hv
end Go.Proofs.YthkagbnpcjidfaaGreatDoor
