/- Walks and mathematics that several claims share, part 18. -/
import Derived.Test.YthkagbnpcjidfaaGreatDoorGp17
import Derived.Laws.OwnMore
import Derived.OwnWalk
import Derived.Deep.Cut
import Derived.Lib.MinMax
import Derived.Laws.AppendOwn
namespace Go.Proofs.YthkagbnpcjidfaaGreatDoor
set_option maxRecDepth 100000
open Go.RowKit
set_option linter.unusedVariables false
set_option linter.unusedSimpArgs false
theorem aEX {w : World} {B b off n : Nat} {xs : List Int} (h : Ints w B (some ⟨b, off, none⟩) n xs) : ∀ j u, (xs.map (Value.int .i64))[j]? = some u → w.cell? ((⟨b, off, none⟩ : Addr).add j) = some u := fun j u hu => by
 have hj : j < xs.length := by
  rcases Nat.lt_or_ge j xs.length with g | g
  ·exact g
  ·rw [List.getElem?_eq_none (by simpa using g)] at hu; cases hu
 obtain ⟨b', iE, e, _, hc⟩ := h.2 j (by rw [← h.1]; exact hj)
 injection e with e
 injection e with e1 e2
 subst e1 e2
 rw [tQ, hc]
 rw [List.getElem?_map, List.getElem?_eq_getElem hj] at hu
 rw [← hu, List.getD_eq_getElem?_getD, List.getElem?_eq_getElem hj]
 rfl
theorem aA4 (w : World) (base : Nat) (v : Value) (n : Nat) (xs : List Int) (aY : w.ownsRow base 2 1 v n (xs.map (Value.int .i64))) (B : Nat) (a : Option Addr) (m c : Nat) (ys : List Int) (h : Ints w B a m ys) (hc : a = none → c = 0) (hn : n + m ≤ 4194304) (xH : base ≤ w.heap.size) :
  ∃ v' w', (Builtin.append_ #[24, 24] 24 #[v, .slice a m c]).run Tryz.prog w = .ok v' w' ∧ w'.ownsRow base 2 1 v' (n + m) ((xs ++ ys).map (Value.int .i64)) ∧ w.grownBy w' v.ownBlock := by
 obtain ⟨i0, hi, gI, jK, jB⟩ := info_parts Tryz.infoI64
 have hl : ys.length = m := h.1
 rcases a with _ | x
 ·have hm : m = 0 := by
   rcases Nat.eq_zero_or_pos m with g | g
   ·exact g
   ·obtain ⟨_, _, e, _⟩ := h.2 0 g; cases e
  subst hm; have : ys = [] := List.eq_nil_of_length_eq_zero hl; subst this; rw [hc rfl]; exact ⟨v, w, run_append_owned_none (P := Tryz.prog) w base 24 24 2 i0 1 Tryz.underlying24 hi v n _ aY, by simpa using aY, World.grownBy.refl _ _⟩
 ·have yS : ∀ j u, (ys.map (Value.int .i64))[j]? = some u → w.cell? (x.add j) = some u := by
   rcases Nat.eq_zero_or_pos m with g | g
   ·subst g
    have : ys = [] := List.eq_nil_of_length_eq_zero hl; subst this
    intro j u hu
    simp at hu
   ·obtain ⟨b, off, e, _⟩ := h.2 0 g
    injection e with e; subst e; exact aEX h
  obtain ⟨v', w', h1, h2, h3, _⟩ := run_append_own (P := Tryz.prog) w base 24 24 2 i0 (.int .i64 0) 1 8 Tryz.underlying24 hi gI jK jB rfl (by decide) v n _ aY x m c (ys.map (Value.int .i64)) (by rw [List.length_map, hl]; omega) yS (by intro u hu; rw [List.mem_map] at hu; obtain ⟨z, _, rfl⟩ := hu; rfl) (by unfold maxLen; omega) (by omega) xH
  exact ⟨v', w', h1, by rw [List.map_append]; exact h2, h3⟩
theorem oN (w : World) (base : Nat) (v : Value) (n : Nat) (l : List aA) (aY : w.ownsRow base 50 8 v n (aH l)) (B : Nat) (a : Option Addr) (m c : Nat) (k : List aA) (h : bK w B a m k) (hc : a = none → c = 0) (hn : n + m ≤ 4194304) (xH : base ≤ w.heap.size) :
  ∃ v' w', (Builtin.append_ #[25, 25] 25 #[v, .slice a m c]).run Tryz.prog w = .ok v' w' ∧ w'.ownsRow base 50 8 v' (n + m) (aH (l ++ k)) ∧ w.grownBy w' v.ownBlock := by
 obtain ⟨i0, hi, gI, jK, jB⟩ := info_parts Tryz.infoOp
 have hl : k.length = m := h.1
 have aN4 : aH (l ++ k) = aH l ++ aH k := by
  clear h hl aY hn
  induction l with
  | nil => rfl
  | cons x l ih => show bR x ++ aH (l ++ k) = (bR x ++ aH l) ++ aH k; rw [ih, List.append_assoc]
 rcases a with _ | x
 ·have hm : m = 0 := by
   rcases Nat.eq_zero_or_pos m with g | g
   ·exact g
   ·obtain ⟨_, _, e, _⟩ := h.2 0 g; cases e
  subst hm; have : k = [] := List.eq_nil_of_length_eq_zero hl; subst this; rw [hc rfl]; exact ⟨v, w, run_append_owned_none (P := Tryz.prog) w base 25 25 50 i0 8 Tryz.underlying25 hi v n _ aY, by rw [List.append_nil]; exact aY, World.grownBy.refl _ _⟩
 ·have yS : ∀ j u, (aH k)[j]? = some u → w.cell? (x.add j) = some u := by
   rcases Nat.eq_zero_or_pos m with g | g
   ·subst g
    have : k = [] := List.eq_nil_of_length_eq_zero hl; subst this
    intro j u hu
    simp [aH] at hu
   ·obtain ⟨b, off, e, _⟩ := h.2 0 g
    injection e with e; subst e; exact yZ h
  obtain ⟨v', w', h1, h2, h3, _⟩ := run_append_own (P := Tryz.prog) w base 25 25 50 i0 _ 8 72 Tryz.underlying25 hi gI jK jB rfl (by decide) v n _ aY x m c (aH k) (by rw [eI, hl]) yS (fun u hu => iG k u hu) (by unfold maxLen; omega) (by omega) xH
  exact ⟨v', w', h1, by rw [aN4]; exact h2, h3⟩
theorem uM {P : Program} {o : Oper} {a : Act} {w : World} {K : Act → World → Prop} {Q : Exit → Act → World → Prop} (x y : Operand) (ts : Array TypeId) (dX : o.op = Op.call { callee := Callee.builtin Builtin.append, args := #[x, y], argTypes := ts }) (v1 v2 : Value) {v' : Value} {w' : World} (h1 : a.eval x = v1) (h2 : a.eval y = v2)
  (hrun : (Builtin.append_ ts o.type #[v1, v2]).run P w = .ok v' w') (hK : K (a.put o.dst v') w') : Oper.wp P o a w K Q := by
 unfold Oper.wp
 simp [execOp, dX, resolve, invoke, builtin, h1, h2, hrun, Result.andThen]
 exact hK
theorem dB {P : Program} {w : World} {ops : Array Oper} {rest : List Oper} {o : Oper} {a : Act} {Q : Exit → Act → World → Prop} (hgd : o.guard = none) (x y : Operand) (ts : Array TypeId) (dX : o.op = Op.call { callee := Callee.builtin Builtin.append, args := #[x, y], argTypes := ts }) (v1 v2 : Value) {v' : Value} {w' : World} (h1 : a.eval x = v1) (h2 : a.eval y = v2)
  (hrun : (Builtin.append_ ts o.type #[v1, v2]).run P w = .ok v' w') (h : wpList P ops Q rest (a.put o.dst v') w') : wpList P ops Q (o :: rest) a w :=
 wpList_plain hgd fun _ hK => uM x y ts dX v1 v2 h1 h2 hrun (hK _ _ h)
theorem lO {w : World} {base size n : Nat} {e : TypeId} {v : Value} {xs : List Value} (h : w.ownsRow base e size v n xs) : ∃ a c, v = .slice a n c ∧ bQ a n c := by
 rcases h.2 with ⟨e1, e2⟩ | ⟨g, cap, aV, e1, _⟩
 ·subst e1
  have e3 := h; have hn : n = 0 := e2; subst hn; exact ⟨none, 0, rfl, cN⟩
 ·subst e1
  exact ⟨_, _, rfl, gB h⟩
theorem P2 {w : World} {b1 b2 s1 s2 n1 n2 : Nat} {e1 e2 : TypeId} {v1 v2 : Value} {x1 x2 : List Value} (h1 : w.ownsRow b1 e1 s1 v1 n1 x1) (h2 : w.ownsRow b2 e2 s2 v2 n2 x2) (he : e1 ≠ e2) : v1.ownBlock = none ∨ v1.ownBlock ≠ v2.ownBlock := by
 rcases h1.2 with ⟨rfl, _⟩ | ⟨g1, c1, aPo, rfl, _, bY, _⟩
 ·exact .inl rfl
 ·right
  rcases h2.2 with ⟨rfl, _⟩ | ⟨g2, c2, aPn, rfl, _, eC, _⟩
  ·intro h; cases h
  ·intro h
   have : g1 = g2 := by simpa [Value.ownBlock] using h
   subst this; rw [bY] at eC; injection eC with eC; injection eC with _ ht; exact he ht
def aJj (xs : List Int) (l : List aA) (w : World) (e : Ending) (w' : World) : Prop := ∃ va vc oa oc, e = .returned (.agg #[.slice va xs.length vc, .slice oa l.length oc]) ∧ Own w' w.heap.size w'.heap.size va xs.length xs ∧ bB w' w.heap.size w'.heap.size oa l.length l ∧ Below w.heap.size w w' ∧ bQ va xs.length vc ∧ bQ oa l.length oc
set_option linter.unusedSimpArgs false in
set_option maxHeartbeats 20000000 in
theorem aCK (w : World) (B : Nat) (av ao : Option Addr) (nv cv no co : Nat) (xs : List Int) (l : List aA) (hx : Ints w B av nv xs) (h : bK w B ao no l) (hB : B ≤ w.heap.size) (bX : av = none → cv = 0) (cD : ao = none → co = 0) (hv : nv ≤ 1048576) (hn : no ≤ 1048576) :
  Calls Tryz.prog 47 #[.agg #[.slice av nv cv, .slice ao no co]] w (aJj xs l w) := by
 have bC : Below w.heap.size w ((w.alloc (.cells #[.slice av nv cv, .slice ao no co] 27)).alloc (.cells #[.slice none 0 0, .slice none 0 0] 27)) := ((Below.refl _ w).alloc aPw _).alloc (by simp) _
 have HV := aPu (hx.below bC hB)
 have HO := aPu (h.below bC hB)
 have sK := aPu hx.1
 have nY := aPu h.1
 have HX : Hid (((w.alloc (.cells #[.slice av nv cv, .slice ao no co] 27)).alloc (.cells #[.slice none 0 0, .slice none 0 0] 27)).heap[w.heap.size]? = some (.cells #[.slice av nv cv, .slice ao no co] 27 (0, 0))) := heap_alloc2_old _ _ _
 have HR : Hid (((w.alloc (.cells #[.slice av nv cv, .slice ao no co] 27)).alloc (.cells #[.slice none 0 0, .slice none 0 0] 27)).heap[w.heap.size + 1]? = some (.cells #[.slice none 0 0, .slice none 0 0] 27 (0, 0))) := heap_alloc2_new _ _ _
 have cP : w.heap.size + 1 < ((w.alloc (.cells #[.slice av nv cv, .slice ao no co] 27)).alloc (.cells #[.slice none 0 0, .slice none 0 0] 27)).heap.size := by simp
 have HB := aPu bC
 have HCV := aPu bX
 have gY := aPu cD
 clear hx h bC bX cD
 go_enter Tryz.func47, Tryz.ntmps47
 go_wp2_with fail
 generalize (w.alloc (.cells #[.slice av nv cv, .slice ao no co] 27)).alloc (.cells #[.slice none 0 0, .slice none 0 0] 27) = w0 at HV HO HX HR cP HB ⊢
 obtain ⟨c0, c1⟩ := pair_cells HX.out
 have gX : Below w0.heap.size w0 w0.drew := ⟨rfl, rfl, rfl, Nat.le_refl _, fun _ _ => rfl⟩
 obtain ⟨z0, gI⟩ : ∃ z0, z0 = w0.drew := ⟨_, rfl⟩
 rw [← gI] at gX
 have wS : z0.cell? ⟨w.heap.size, 0, none⟩ = some (.slice av nv cv) ∧ z0.cell? ⟨w.heap.size, 1, none⟩ = some (.slice ao no co) := ⟨(gX.cell (p := ⟨w.heap.size, 0, none⟩) (by show w.heap.size < _; omega)).trans c0, (gX.cell (p := ⟨w.heap.size, 1, none⟩) (by show w.heap.size < _; omega)).trans c1⟩
 go_wp2_with fail
 refine wp_region_held_drew (S := fun w' => w'.cell? ⟨w.heap.size, 0, none⟩ = some (.slice av nv cv) ∧ w'.cell? ⟨w.heap.size, 1, none⟩ = some (.slice ao no co)) (by kernel_rfl) (by rw [← gI]; exact wS) (fun aP => ?_)
 rw [← gI]
 clear gI aP
 refine tj 1 ?_
 refine tj 2 ?_
 refine tj 5 ?_
 refine tj 6 ?_
 refine wpAnyH_ready (rs := [0, 4]) (by kernel_rfl) (by simp) ?_
 refine AllReadyH.cons rfl (fun K hK => ?_) ?_
 ·skip
  have aE : Below w0.heap.size w0 (z0.alloc (.cells #[] 2)) := gX.alloc gX.size _; have hV1 : (z0.alloc (.cells #[] 2)).ownsRow w0.heap.size 2 1 (.slice (some ⟨z0.heap.size, 0, none⟩) 0 0) 0 (([] : List Int).map (Value.int .i64)) := World.ownsRow_made z0 #[] 0 gX.size (by unfold maxLen; omega) rfl
  go_simp
  refine hK.out _ _ ⟨(aE.cell (p := ⟨w.heap.size, 0, none⟩) (by show w.heap.size < _; omega)).trans c0, (aE.cell (p := ⟨w.heap.size, 1, none⟩) (by show w.heap.size < _; omega)).trans c1⟩ (fun aGQ => ?_)
  clear hK K
  (try simp only [Act.put, u1, u2, u3])
  generalize z0.alloc (.cells #[] 2) = z1 at aGQ aE hV1 ⊢; refine wpAnyH_ready (rs := [3, 4]) (by kernel_rfl) (by simp) ?_
  refine AllReadyH.cons rfl (fun K hK => ?_) ?_
  ·skip
   obtain ⟨vA2, z2, hrun, hW, iR⟩ := aA4 z1 w0.heap.size _ 0 [] hV1 B av nv cv xs (HV.out.below aE (by omega)) HCV.out (by omega) aE.size
   have hV2 : z2.ownsRow w0.heap.size 2 1 vA2 nv (xs.map (Value.int .i64)) := by simpa using hW
   obtain ⟨va, vc, rfl, hca⟩ := lO hV2; have aG := aE.grown iR aE.size (fun j hj => (hV1.lt j hj).1)
   rw [if_pos (by rfl)]
   refine uM _ _ _ rfl _ _ rfl rfl hrun ?_
   refine hK.out _ _ ⟨(aG.cell (p := ⟨w.heap.size, 0, none⟩) (by show w.heap.size < _; omega)).trans c0, (aG.cell (p := ⟨w.heap.size, 1, none⟩) (by show w.heap.size < _; omega)).trans c1⟩ (fun bG => ?_)
   clear hK K hrun hW iR
   (try simp only [Act.put, u1, u2, u3])
   refine rk 4 rfl (fun K hK => ?_)
   have aR : Below w0.heap.size w0 (z2.alloc (.cells #[] 50)) := aG.alloc aG.size _; have hO3 : (z2.alloc (.cells #[] 50)).ownsRow w0.heap.size 50 8 (.slice (some ⟨z2.heap.size, 0, none⟩) 0 0) 0 (aH []) := World.ownsRow_made z2 #[] 0 aG.size (by unfold maxLen; omega) rfl
   have hV3 := hV2.alloc (.cells #[] 50)
   go_simp
   refine hK.out _ _ ⟨(aR.cell (p := ⟨w.heap.size, 0, none⟩) (by show w.heap.size < _; omega)).trans c0, (aR.cell (p := ⟨w.heap.size, 1, none⟩) (by show w.heap.size < _; omega)).trans c1⟩ (fun fI => ?_)
   clear hK K
   (try simp only [Act.put, u1, u2, u3])
   generalize z2.alloc (.cells #[] 50) = z3 at fI aR hO3 hV3 ⊢; refine rk 7 rfl (fun K hK => ?_)
   obtain ⟨vA4, z4, hrun, hW, iR⟩ := oN z3 w0.heap.size _ 0 [] hO3 B ao no co l (HO.out.below aR (by omega)) gY.out (by omega) aR.size
   have hO4 : z4.ownsRow w0.heap.size 50 8 vA4 no (aH l) := by simpa using hW
   obtain ⟨oa, oc, rfl, cD⟩ := lO hO4; have hV4 := hV3.kept iR (P2 hV3 hO3 (by decide))
   have cW := aR.grown iR aR.size (fun j hj => (hO3.lt j hj).1)
   rw [if_pos (by rfl)]
   refine uM _ _ _ rfl _ _ rfl rfl hrun ?_
   refine hK.out _ _ ⟨(cW.cell (p := ⟨w.heap.size, 0, none⟩) (by show w.heap.size < _; omega)).trans c0, (cW.cell (p := ⟨w.heap.size, 1, none⟩) (by show w.heap.size < _; omega)).trans c1⟩ (fun kW => ?_)
   clear hK K hrun hW iR
   (try simp only [Act.put, u1, u2, u3])
   refine tj 8 ?_
   have vS := aPu ((cW.block _ cP).trans HR.out); obtain ⟨r0, r1⟩ := pair_cells vS.out; obtain ⟨f0, f1⟩ := aC vS.out; have HP : Hid (Own z4 w0.heap.size z4.heap.size va nv xs ∧ bB z4 w0.heap.size z4.heap.size oa no l) := ⟨sS hV4 aPw, eG hO4 aPw⟩; have oM : Below (w.heap.size + 1) w0 ((z4.setCell ⟨w.heap.size + 1, 0, none⟩ (.slice va nv vc)).setCell ⟨w.heap.size + 1, 1, none⟩ (.slice oa no oc)) := ((show Below (w.heap.size + 1) w0 z4 from cW.mono (by omega)).setCell (p := ⟨w.heap.size + 1, 0, none⟩) aPw _).setCell (p := ⟨w.heap.size + 1, 1, none⟩) aPw _
   have pX : ∀ j, j ≠ w.heap.size + 1 → ((z4.setCell ⟨w.heap.size + 1, 0, none⟩ (.slice va nv vc)).setCell ⟨w.heap.size + 1, 1, none⟩ (.slice oa no oc)).heap[j]? = z4.heap[j]? := fun j hj => aF _ _ hj
   have tU : Hid (((z4.setCell ⟨w.heap.size + 1, 0, none⟩ (.slice va nv vc)).setCell ⟨w.heap.size + 1, 1, none⟩ (.slice oa no oc)).heap[w.heap.size + 1]? = some (.cells #[.slice va nv vc, .slice oa no oc] 27 (0, 0))) := cF _ _ vS.out; have M3 : ((z4.setCell ⟨w.heap.size + 1, 0, none⟩ (.slice va nv vc)).setCell ⟨w.heap.size + 1, 1, none⟩ (.slice oa no oc)).heap.size = z4.heap.size := aZ _ _ _ _; refine rk 9 rfl (fun K hK => ?_)
   go_simp
   refine hK.out _ _ ⟨(oM.cell (p := ⟨w.heap.size, 0, none⟩) (by show w.heap.size < _; omega)).trans c0, (oM.cell (p := ⟨w.heap.size, 1, none⟩) (by show w.heap.size < _; omega)).trans c1⟩ (fun aGP => ?_)
   clear hK K
   (try simp only [Act.put, u1, u2, u3])
   refine wpAnyH_done (by kernel_rfl) ?_ _
   generalize (z4.setCell ⟨w.heap.size + 1, 0, none⟩ (.slice va nv vc)).setCell ⟨w.heap.size + 1, 1, none⟩ (.slice oa no oc) = wf at tU oM pX M3 ⊢; obtain ⟨q0, q1⟩ := pair_cells tU.out; have sG : Hid (Own wf w.heap.size wf.heap.size va nv xs ∧ bB wf w.heap.size wf.heap.size oa no l) := ⟨((HP.out.1.kept (w' := wf) fun j h1 h2 => pX j (by omega)).more (by omega) (by omega)), ((HP.out.2.kept (w' := wf) fun j h1 h2 => pX j (by omega)).more (by omega) (by omega))⟩
   have bT := aPu (HB.out.trans (oM.mono (by omega)))
   have oQ := aPu hca; have oP := aPu cD; clear pX M3 HP vS r0 r1 f0 f1 oM hca cD; go_wp2
   exact bodyPost_ret (v := .agg #[.slice va nv vc, .slice oa no oc]) (by simp [results, Tryz.results47, go_sem, q0, q1]) rfl ⟨va, vc, oa, oc, by rw [sK.out, nY.out], by rw [sK.out]; exact sG.out.1, by rw [nY.out]; exact sG.out.2, bT.out, by rw [sK.out]; exact oQ.out, by rw [nY.out]; exact oP.out⟩
  refine AllReadyH.cons rfl (fun K hK => ?_) AllReadyH.nil
  have aU : Below w0.heap.size w0 (z1.alloc (.cells #[] 50)) := aE.alloc aE.size _; have hO5 : (z1.alloc (.cells #[] 50)).ownsRow w0.heap.size 50 8 (.slice (some ⟨z1.heap.size, 0, none⟩) 0 0) 0 (aH []) := World.ownsRow_made z1 #[] 0 aE.size (by unfold maxLen; omega) rfl
  have hV5 := hV1.alloc (.cells #[] 50)
  go_simp
  refine hK.out _ _ ⟨(aU.cell (p := ⟨w.heap.size, 0, none⟩) (by show w.heap.size < _; omega)).trans c0, (aU.cell (p := ⟨w.heap.size, 1, none⟩) (by show w.heap.size < _; omega)).trans c1⟩ (fun yW => ?_)
  clear hK K
  (try simp only [Act.put, u1, u2, u3])
  generalize z1.alloc (.cells #[] 50) = z5 at yW aU hO5 hV5 ⊢; refine rk 3 rfl (fun K hK => ?_)
  obtain ⟨vA6, z6, hrun, hW, iR⟩ := aA4 z5 w0.heap.size _ 0 [] hV5 B av nv cv xs (HV.out.below aU (by omega)) HCV.out (by omega) aU.size
  have hV6 : z6.ownsRow w0.heap.size 2 1 vA6 nv (xs.map (Value.int .i64)) := by simpa using hW
  obtain ⟨va, vc, rfl, hca⟩ := lO hV6; have hO6 := hO5.kept iR (P2 hO5 hV5 (by decide))
  have jF := aU.grown iR aU.size (fun j hj => (hV5.lt j hj).1)
  rw [if_pos (by rfl)]
  refine uM _ _ _ rfl _ _ rfl rfl hrun ?_
  refine hK.out _ _ ⟨(jF.cell (p := ⟨w.heap.size, 0, none⟩) (by show w.heap.size < _; omega)).trans c0, (jF.cell (p := ⟨w.heap.size, 1, none⟩) (by show w.heap.size < _; omega)).trans c1⟩ (fun qX => ?_)
  clear hK K hrun hW iR
  (try simp only [Act.put, u1, u2, u3])
  refine rk 7 rfl (fun K hK => ?_)
  obtain ⟨vA7, z7, hrun, hW, iR⟩ := oN z6 w0.heap.size _ 0 [] hO6 B ao no co l (HO.out.below jF (by omega)) gY.out (by omega) jF.size
  have hO7 : z7.ownsRow w0.heap.size 50 8 vA7 no (aH l) := by simpa using hW
  obtain ⟨oa, oc, rfl, cD⟩ := lO hO7; have hV7 := hV6.kept iR (P2 hV6 hO6 (by decide))
  have nQ := jF.grown iR jF.size (fun j hj => (hO6.lt j hj).1)
  rw [if_pos (by rfl)]
  refine uM _ _ _ rfl _ _ rfl rfl hrun ?_
  refine hK.out _ _ ⟨(nQ.cell (p := ⟨w.heap.size, 0, none⟩) (by show w.heap.size < _; omega)).trans c0, (nQ.cell (p := ⟨w.heap.size, 1, none⟩) (by show w.heap.size < _; omega)).trans c1⟩ (fun qW => ?_)
  clear hK K hrun hW iR
  (try simp only [Act.put, u1, u2, u3])
  refine tj 8 ?_
  have vS := aPu ((nQ.block _ cP).trans HR.out); obtain ⟨r0, r1⟩ := pair_cells vS.out; obtain ⟨f0, f1⟩ := aC vS.out; have HP : Hid (Own z7 w0.heap.size z7.heap.size va nv xs ∧ bB z7 w0.heap.size z7.heap.size oa no l) := ⟨sS hV7 aPw, eG hO7 aPw⟩; have oM : Below (w.heap.size + 1) w0 ((z7.setCell ⟨w.heap.size + 1, 0, none⟩ (.slice va nv vc)).setCell ⟨w.heap.size + 1, 1, none⟩ (.slice oa no oc)) := ((show Below (w.heap.size + 1) w0 z7 from nQ.mono (by omega)).setCell (p := ⟨w.heap.size + 1, 0, none⟩) aPw _).setCell (p := ⟨w.heap.size + 1, 1, none⟩) aPw _
  have pX : ∀ j, j ≠ w.heap.size + 1 → ((z7.setCell ⟨w.heap.size + 1, 0, none⟩ (.slice va nv vc)).setCell ⟨w.heap.size + 1, 1, none⟩ (.slice oa no oc)).heap[j]? = z7.heap[j]? := fun j hj => aF _ _ hj
  have tU : Hid (((z7.setCell ⟨w.heap.size + 1, 0, none⟩ (.slice va nv vc)).setCell ⟨w.heap.size + 1, 1, none⟩ (.slice oa no oc)).heap[w.heap.size + 1]? = some (.cells #[.slice va nv vc, .slice oa no oc] 27 (0, 0))) := cF _ _ vS.out; have M3 : ((z7.setCell ⟨w.heap.size + 1, 0, none⟩ (.slice va nv vc)).setCell ⟨w.heap.size + 1, 1, none⟩ (.slice oa no oc)).heap.size = z7.heap.size := aZ _ _ _ _; refine rk 9 rfl (fun K hK => ?_)
  go_simp
  refine hK.out _ _ ⟨(oM.cell (p := ⟨w.heap.size, 0, none⟩) (by show w.heap.size < _; omega)).trans c0, (oM.cell (p := ⟨w.heap.size, 1, none⟩) (by show w.heap.size < _; omega)).trans c1⟩ (fun aGP => ?_)
  clear hK K
  (try simp only [Act.put, u1, u2, u3])
  refine wpAnyH_done (by kernel_rfl) ?_ _
  generalize (z7.setCell ⟨w.heap.size + 1, 0, none⟩ (.slice va nv vc)).setCell ⟨w.heap.size + 1, 1, none⟩ (.slice oa no oc) = wf at tU oM pX M3 ⊢; obtain ⟨q0, q1⟩ := pair_cells tU.out; have sG : Hid (Own wf w.heap.size wf.heap.size va nv xs ∧ bB wf w.heap.size wf.heap.size oa no l) := ⟨((HP.out.1.kept (w' := wf) fun j h1 h2 => pX j (by omega)).more (by omega) (by omega)), ((HP.out.2.kept (w' := wf) fun j h1 h2 => pX j (by omega)).more (by omega) (by omega))⟩
  have bT := aPu (HB.out.trans (oM.mono (by omega)))
  have oQ := aPu hca; have oP := aPu cD; clear pX M3 HP vS r0 r1 f0 f1 oM hca cD; go_wp2
  exact bodyPost_ret (v := .agg #[.slice va nv vc, .slice oa no oc]) (by simp [results, Tryz.results47, go_sem, q0, q1]) rfl ⟨va, vc, oa, oc, by rw [sK.out, nY.out], by rw [sK.out]; exact sG.out.1, by rw [nY.out]; exact sG.out.2, bT.out, by rw [sK.out]; exact oQ.out, by rw [nY.out]; exact oP.out⟩
 refine AllReadyH.cons rfl (fun K hK => ?_) AllReadyH.nil
 have tM : Below w0.heap.size w0 (z0.alloc (.cells #[] 50)) := gX.alloc gX.size _
 have hO8 : (z0.alloc (.cells #[] 50)).ownsRow w0.heap.size 50 8 (.slice (some ⟨z0.heap.size, 0, none⟩) 0 0) 0 (aH []) := World.ownsRow_made z0 #[] 0 gX.size (by unfold maxLen; omega) rfl
 go_simp
 refine hK.out _ _ ⟨(tM.cell (p := ⟨w.heap.size, 0, none⟩) (by show w.heap.size < _; omega)).trans c0, (tM.cell (p := ⟨w.heap.size, 1, none⟩) (by show w.heap.size < _; omega)).trans c1⟩ (fun tN => ?_)
 clear hK K
 (try simp only [Act.put, u1, u2, u3])
 generalize z0.alloc (.cells #[] 50) = z8 at tN tM hO8 ⊢
 refine rk 0 rfl (fun K hK => ?_)
 have mL : Below w0.heap.size w0 (z8.alloc (.cells #[] 2)) := tM.alloc tM.size _
 have hV9 : (z8.alloc (.cells #[] 2)).ownsRow w0.heap.size 2 1 (.slice (some ⟨z8.heap.size, 0, none⟩) 0 0) 0 (([] : List Int).map (Value.int .i64)) := World.ownsRow_made z8 #[] 0 tM.size (by unfold maxLen; omega) rfl
 have hO9 := hO8.alloc (.cells #[] 2)
 go_simp
 refine hK.out _ _ ⟨(mL.cell (p := ⟨w.heap.size, 0, none⟩) (by show w.heap.size < _; omega)).trans c0, (mL.cell (p := ⟨w.heap.size, 1, none⟩) (by show w.heap.size < _; omega)).trans c1⟩ (fun qV => ?_)
 clear hK K
 (try simp only [Act.put, u1, u2, u3])
 generalize z8.alloc (.cells #[] 2) = z9 at qV mL hV9 hO9 ⊢
 refine rk 3 rfl (fun K hK => ?_)
 obtain ⟨aNm, z10, hrun, hW, iR⟩ := aA4 z9 w0.heap.size _ 0 [] hV9 B av nv cv xs (HV.out.below mL (by omega)) HCV.out (by omega) mL.size
 have aIr : z10.ownsRow w0.heap.size 2 1 aNm nv (xs.map (Value.int .i64)) := by simpa using hW
 obtain ⟨va, vc, rfl, hca⟩ := lO aIr
 have aIu := hO9.kept iR (P2 hO9 hV9 (by decide))
 have aA0 := mL.grown iR mL.size (fun j hj => (hV9.lt j hj).1)
 rw [if_pos (by rfl)]
 refine uM _ _ _ rfl _ _ rfl rfl hrun ?_
 refine hK.out _ _ ⟨(aA0.cell (p := ⟨w.heap.size, 0, none⟩) (by show w.heap.size < _; omega)).trans c0, (aA0.cell (p := ⟨w.heap.size, 1, none⟩) (by show w.heap.size < _; omega)).trans c1⟩ (fun aOx => ?_)
 clear hK K hrun hW iR
 (try simp only [Act.put, u1, u2, u3])
 refine rk 7 rfl (fun K hK => ?_)
 obtain ⟨aNl, D7, hrun, hW, iR⟩ := oN z10 w0.heap.size _ 0 [] aIu B ao no co l (HO.out.below aA0 (by omega)) gY.out (by omega) aA0.size
 have aLI : D7.ownsRow w0.heap.size 50 8 aNl no (aH l) := by simpa using hW
 obtain ⟨oa, oc, rfl, cD⟩ := lO aLI
 have aN5 := aIr.kept iR (P2 aIr aIu (by decide))
 have aFa := aA0.grown iR aA0.size (fun j hj => (aIu.lt j hj).1)
 rw [if_pos (by rfl)]
 refine uM _ _ _ rfl _ _ rfl rfl hrun ?_
 refine hK.out _ _ ⟨(aFa.cell (p := ⟨w.heap.size, 0, none⟩) (by show w.heap.size < _; omega)).trans c0, (aFa.cell (p := ⟨w.heap.size, 1, none⟩) (by show w.heap.size < _; omega)).trans c1⟩ (fun aOw => ?_)
 clear hK K hrun hW iR
 (try simp only [Act.put, u1, u2, u3])
 refine tj 8 ?_
 have vS := aPu ((aFa.block _ cP).trans HR.out)
 obtain ⟨r0, r1⟩ := pair_cells vS.out
 obtain ⟨f0, f1⟩ := aC vS.out
 have HP : Hid (Own D7 w0.heap.size D7.heap.size va nv xs ∧ bB D7 w0.heap.size D7.heap.size oa no l) := ⟨sS aN5 aPw, eG aLI aPw⟩
 have oM : Below (w.heap.size + 1) w0 ((D7.setCell ⟨w.heap.size + 1, 0, none⟩ (.slice va nv vc)).setCell ⟨w.heap.size + 1, 1, none⟩ (.slice oa no oc)) := ((show Below (w.heap.size + 1) w0 D7 from aFa.mono (by omega)).setCell (p := ⟨w.heap.size + 1, 0, none⟩) aPw _).setCell (p := ⟨w.heap.size + 1, 1, none⟩) aPw _
 have pX : ∀ j, j ≠ w.heap.size + 1 → ((D7.setCell ⟨w.heap.size + 1, 0, none⟩ (.slice va nv vc)).setCell ⟨w.heap.size + 1, 1, none⟩ (.slice oa no oc)).heap[j]? = D7.heap[j]? := fun j hj => aF _ _ hj
 have tU : Hid (((D7.setCell ⟨w.heap.size + 1, 0, none⟩ (.slice va nv vc)).setCell ⟨w.heap.size + 1, 1, none⟩ (.slice oa no oc)).heap[w.heap.size + 1]? = some (.cells #[.slice va nv vc, .slice oa no oc] 27 (0, 0))) := cF _ _ vS.out
 have M3 : ((D7.setCell ⟨w.heap.size + 1, 0, none⟩ (.slice va nv vc)).setCell ⟨w.heap.size + 1, 1, none⟩ (.slice oa no oc)).heap.size = D7.heap.size := aZ _ _ _ _
 refine rk 9 rfl (fun K hK => ?_)
 go_simp
 refine hK.out _ _ ⟨(oM.cell (p := ⟨w.heap.size, 0, none⟩) (by show w.heap.size < _; omega)).trans c0, (oM.cell (p := ⟨w.heap.size, 1, none⟩) (by show w.heap.size < _; omega)).trans c1⟩ (fun aGP => ?_)
 clear hK K
 (try simp only [Act.put, u1, u2, u3])
 refine wpAnyH_done (by kernel_rfl) ?_ _
 generalize (D7.setCell ⟨w.heap.size + 1, 0, none⟩ (.slice va nv vc)).setCell ⟨w.heap.size + 1, 1, none⟩ (.slice oa no oc) = wf at tU oM pX M3 ⊢
 obtain ⟨q0, q1⟩ := pair_cells tU.out
 have sG : Hid (Own wf w.heap.size wf.heap.size va nv xs ∧ bB wf w.heap.size wf.heap.size oa no l) := ⟨((HP.out.1.kept (w' := wf) fun j h1 h2 => pX j (by omega)).more (by omega) (by omega)), ((HP.out.2.kept (w' := wf) fun j h1 h2 => pX j (by omega)).more (by omega) (by omega))⟩
 have bT := aPu (HB.out.trans (oM.mono (by omega)))
 have oQ := aPu hca
 have oP := aPu cD
 clear pX M3 HP vS r0 r1 f0 f1 oM hca cD
 go_wp2
 exact bodyPost_ret (v := .agg #[.slice va nv vc, .slice oa no oc]) (by simp [results, Tryz.results47, go_sem, q0, q1]) rfl ⟨va, vc, oa, oc, by rw [sK.out, nY.out], by rw [sK.out]; exact sG.out.1, by rw [nY.out]; exact sG.out.2, bT.out, by rw [sK.out]; exact oQ.out, by rw [nY.out]; exact oP.out⟩
set_option maxHeartbeats 10000000 in
theorem aEm (w : World) (B : Nat) (av ao : Option Addr) (nv cv no co : Nat) (l : List aA) (h : bK w B ao no l) (hB : B ≤ w.heap.size) (hn : no ≤ 1048576) : Calls Tryz.prog 120 #[.agg #[.slice av nv cv, .slice ao no co]] w fun e w' => e = .returned (.int .i64 (cY l l.length)) ∧ Below w.heap.size w w' := by
 have bC : Below w.heap.size w (w.alloc (.cells #[.slice av nv cv, .slice ao no co] 27)) := (Below.refl _ w).alloc aPw _
 have HO := aPu (h.below bC hB)
 have HB := aPu bC
 have HX := aPu (bE (Below.refl _ (w.alloc (.cells #[.slice av nv cv, .slice ao no co] 27))))
 have HL := aPu h.1
 clear h bC
 go_enter Tryz.func120, Tryz.ntmps120
 go_wp2_with fail
 generalize w.alloc (.cells #[.slice av nv cv, .slice ao no co] 27) = w0 at HO HB HX ⊢
 obtain ⟨c0, c1⟩ := pair_cells HX.out
 go_wp2
 go_loop [3, 4] (fun n i => ∃ k : Nat, k ≤ no ∧ i = .int .i64 k ∧ n = .int .i64 (cY l k)) (fun _ i => no - (intOf i).toNat)
 case atStart => exact ⟨0, Nat.zero_le _, rfl, rfl⟩
 case round =>
  obtain ⟨k, hk, rfl, rfl⟩ := hrel
  by_cases aK : k < no
  ·obtain ⟨b, off, rfl, hb, ho⟩ := HO.out.2 k aK
   obtain ⟨d0, d1, d2, d3, d4, d5, d6, d7⟩ := ho; have HU : Hid (cY l (k + 1) = max (cY l k) (l.getD k aA.zero).stamp) := rfl; generalize l.getD k aA.zero = x at HU d0 d1 d2 d3 d4 d5 d6 d7; go_wp2
   go_round
   case rel => exact ⟨k + 1, by omega, by go_num, by rw [HU.out]⟩
   case measure => simp [intOf]; omega
  ·obtain rfl : k = no := by omega
   go_wp2
   go_ret
   exact ⟨by rw [HL.out]; rfl, HB.out⟩
theorem dR (w : World) (b i j : Nat) (u v : Value) : Below b w ((w.setCell ⟨b, i, none⟩ u).setCell ⟨b, j, none⟩ v) := ((Below.refl b w).setCell (p := ⟨b, i, none⟩) aPw u).setCell (p := ⟨b, j, none⟩) aPw v
theorem gV (w : World) (b i : Nat) (u : Value) : Below b w (w.setCell ⟨b, i, none⟩ u) := (Below.refl b w).setCell (p := ⟨b, i, none⟩) aPw u
structure jD (w w1 : World) (x y z : Array Value) : Prop where
 fst : w1.heap[w.heap.size]? = some (.cells x 27 (0, 0))
 snd : w1.heap[w.heap.size + 1]? = some (.cells y 50 (0, 0))
 res : w1.heap[w.heap.size + 1 + 1]? = some (.cells z 27 (0, 0))
 bel : Below w.heap.size w w1
theorem jD.mk0 (w : World) (x y z : Array Value) : jD w (((w.alloc (.cells x 27)).alloc (.cells y 50)).alloc (.cells z 27)) x y z := by
 have e1 : (w.alloc (.cells x 27)).heap.size = w.heap.size + 1 := by simp
 have e2 : ((w.alloc (.cells x 27)).alloc (.cells y 50)).heap.size = w.heap.size + 1 + 1 := by simp
 refine ⟨?_, ?_, ?_, (((Below.refl _ w).alloc aPw _).alloc (by simp) _).alloc (by simp; omega) _⟩
 ·exact ((Below.heap_alloc _ _ _ (by omega)).trans (Below.heap_alloc _ _ _ (by omega))).trans (heap_alloc_new _ _)
 ·rw [← e1]; exact (Below.heap_alloc _ _ _ (by omega)).trans (heap_alloc_new _ _)
 ·rw [← e2]; exact heap_alloc_new _ _
theorem jD.next {w w1 w2 : World} {x y z : Array Value} (h : jD w w1 x y z) (hb : Below w1.heap.size w1 w2) : jD w w2 x y z :=
 ⟨(hb.block _ (aPv h.fst).1).trans h.fst, (hb.block _ (aPv h.snd).1).trans h.snd, (hb.block _ (aPv h.res).1).trans h.res, h.bel.trans (hb.mono h.bel.size)⟩
theorem jD.put {w w1 : World} {x y z : Array Value} (h : jD w w1 x y z) (i : Nat) (v : Value) : jD w (w1.setCell ⟨w.heap.size + 1, i, none⟩ v) x (y.setIfInBounds i v) z :=
 ⟨(heap_setCell_other _ _ _ _ (by show w.heap.size ≠ w.heap.size + 1; omega)).trans h.fst, heap_setCell_same _ _ _ _ _ _ h.snd, (heap_setCell_other _ _ _ _ (by show w.heap.size + 1 + 1 ≠ w.heap.size + 1; omega)).trans h.res, h.bel.setCell (p := ⟨w.heap.size + 1, i, none⟩) (by show _ ≤ w.heap.size + 1; omega) v⟩
theorem jD.far {w w1 w2 : World} {x y z : Array Value} (h : jD w w1 x y z) (hb : Below (w.heap.size + 1 + 1 + 1) w1 w2) : jD w w2 x y z :=
 ⟨(hb.block _ (by omega)).trans h.fst, (hb.block _ (by omega)).trans h.snd, (hb.block _ (by omega)).trans h.res, h.bel.trans (hb.mono (by omega))⟩
theorem jD.lt {w w1 : World} {x y z : Array Value} (h : jD w w1 x y z) : w.heap.size + 1 + 1 < w1.heap.size := (aPv h.res).1
theorem jD.set2 {w w1 : World} {x y : Array Value} {z0 z1 : Value} (h : jD w w1 x y #[z0, z1]) (u v : Value) :
  ((w1.setCell ⟨w.heap.size + 1 + 1, 0, none⟩ u).setCell ⟨w.heap.size + 1 + 1, 1, none⟩ v).heap[w.heap.size + 1 + 1]? = some (.cells #[u, v] 27 (0, 0)) ∧ Below (w.heap.size + 1 + 1) w1 ((w1.setCell ⟨w.heap.size + 1 + 1, 0, none⟩ u).setCell ⟨w.heap.size + 1 + 1, 1, none⟩ v) :=
 ⟨cF _ _ h.res, dR _ _ _ _ _ _⟩
def aIO (ok : Bool) (zs : List Int) (L : List aA) (w : World) (e : Ending) (w' : World) : Prop := ∃ va vc oa oc, e = .returned (.tuple #[.agg #[.slice va zs.length vc, .slice oa L.length oc], .bool ok]) ∧ Own w' w.heap.size w'.heap.size va zs.length zs ∧ bB w' w.heap.size w'.heap.size oa L.length L ∧ Below w.heap.size w w' ∧ bQ va zs.length vc ∧ bQ oa L.length oc
theorem aAP (w : World) (o : aA) : bK (w.alloc (.cells #[.int .i64 o.dev, .int .i64 o.seq, .int .i64 o.stamp, .int .i64 o.kind, .string o.item, .int .i64 o.qty, .int .i64 o.level, .int .i64 o.undos] 50)) (w.heap.size + 1) (some ⟨w.heap.size, 0, none⟩) 1 [o] := by
 refine ⟨rfl, fun i hi => ⟨w.heap.size, 0, rfl, Nat.lt_succ_self _, ?_⟩⟩
 obtain rfl : i = 0 := by omega
 exact aM (heap_alloc_new w _)
theorem oF (w : World) (lo hi : Nat) (a : Option Addr) : Own w lo hi a 0 [] := ⟨rfl, fun h => absurd h (by omega)⟩
set_option maxHeartbeats 40000000 in
theorem aKe (w : World) (B : Nat) (av ao : Option Addr) (cv no co d : Nat) (xs : List Int) (l : List aA) (o : aA) (hx : Ints w B av 4 xs) (h : bK w B ao no l) (hB : B ≤ w.heap.size) (bX : av = none → cv = 0) (cD : bQ ao no co) (hd : d < 4) (hn : no ≤ 100000) (mJ : 0 ≤ xs.getD d 0 ∧ xs.getD d 0 ≤ 1000) (eB : ∀ i, i < l.length → (aB l i).stamp ≤ 200000) (hi : o.item.size ≤ 1048576) (hok : (aN xs l d o).ok = false) :
  Calls Tryz.prog 90 #[.agg #[.slice av 4 cv, .slice ao no co], .int .i64 (d : Int), .agg #[.int .i64 o.dev, .int .i64 o.seq, .int .i64 o.stamp, .int .i64 o.kind, .string o.item, .int .i64 o.qty, .int .i64 o.level, .int .i64 o.undos]] w (aIO false [] [] w) := by
 have hT := jD.mk0 w #[.slice av 4 cv, .slice ao no co] #[.int .i64 o.dev, .int .i64 o.seq, .int .i64 o.stamp, .int .i64 o.kind, .string o.item, .int .i64 o.qty, .int .i64 o.level, .int .i64 o.undos] #[.slice none 0 0, .slice none 0 0]
 have HV := aPu (hx.below hT.bel hB)
 have HO := aPu (h.below hT.bel hB)
 have HT := aPu hT
 have sK := aPu hx.1
 have nY := aPu h.1
 have HCV := aPu bX
 have gY := aPu cD
 have wS := oR l l.length
 have dM := sQ (N := 200000) (by omega) eB l.length aPw
 have V9 : Hid (dK (d : Int) (xs.getD d 0 + 1) (cY l l.length + 1) o.kind o.item o.qty o.level o.undos = false) := hok
 have N9 : Hid (aN xs l d o = ⟨(d : Int), xs.getD d 0 + 1, cY l l.length + 1, o.kind, o.item, o.qty, o.level, o.undos⟩) := rfl
 have zH : Hid (dF xs d = xs.set d (xs.getD d 0 + 1)) := rfl
 clear hx h hT eB hok bX cD
 go_enter Tryz.func90, Tryz.ntmps90
 go_upto_region 1 with fail
 generalize ((w.alloc (.cells #[.slice av 4 cv, .slice ao no co] 27)).alloc (.cells #[.int .i64 o.dev, .int .i64 o.seq, .int .i64 o.stamp, .int .i64 o.kind, .string o.item, .int .i64 o.qty, .int .i64 o.level, .int .i64 o.undos] 50)).alloc (.cells #[.slice none 0 0, .slice none 0 0] 27) = w0 at HV HO HT ⊢
 obtain ⟨b, off, rfl, hb, hc⟩ := HV.out.2 d hd
 obtain ⟨x, pK⟩ : ∃ x, x = xs.getD d 0 := ⟨_, rfl⟩
 obtain ⟨S, eH⟩ : ∃ S, S = cY l l.length := ⟨_, rfl⟩
 rw [← pK, ← eH] at V9 N9
 rw [← pK] at hc mJ zH
 rw [← eH] at wS dM
 have HSE := aPu eH
 obtain ⟨uA, hx1⟩ := mJ
 clear pK eH
 obtain ⟨q0, q1⟩ := pair_cells HT.out.fst
 obtain ⟨o0, o1, o2, o3, o4, o5, o6, o7⟩ := aM HT.out.snd
 obtain ⟨f0, f1, f2, f3, f4, f5, f6, f7⟩ := cL HT.out.snd
 have hdi : (d : Int) < 4 := by omega
 have lQ := HT.out.lt
 have vT := aPu ((HT.out.put 0 (.int .i64 (d : Int))).put 1 (.int .i64 (x + 1)))
 have F6 : Below (w.heap.size + 1) w0 ((w0.setCell ⟨w.heap.size + 1, 0, none⟩ (.int .i64 (d : Int))).setCell ⟨w.heap.size + 1, 1, none⟩ (.int .i64 (x + 1))) := dR _ _ _ _ _ _
 have jW := aPu (HV.out.below F6 (by omega))
 have fZ := aPu (HO.out.below F6 (by omega))
 have hl2 := vT.out.lt
 clear F6
 go_upto_region 3 with fail
 generalize (w0.setCell ⟨w.heap.size + 1, 0, none⟩ (.int .i64 (d : Int))).setCell ⟨w.heap.size + 1, 1, none⟩ (.int .i64 (x + 1)) = w2 at vT jW fZ hl2 ⊢
 clear q0 q1 o0 o1 o2 o3 o4 o5 o6 o7 f0 f1 f2 f3 f4 f5 f6 f7 hc HV HO HT lQ
 obtain ⟨q0, q1⟩ := pair_cells vT.out.fst
 go_wp2_with fail
 refine (aEm w2 B _ ao 4 cv no co l fZ.out (by omega) (by omega)).mono ?_
 rintro e w3 ⟨rfl, aR⟩
 rw [← HSE.out]
 have HP3 := aPu (vT.out.next aR)
 have N7 := aPu (jW.out.below aR (by omega))
 have pS := aPu (fZ.out.below aR (by omega))
 have hU := aR.size
 clear aR vT jW fZ q0 q1
 obtain ⟨o0, o1, o2, o3, o4, o5, o6, o7⟩ := aM HP3.out.snd
 obtain ⟨f0, f1, f2, f3, f4, f5, f6, f7⟩ := cL HP3.out.snd
 have nU := aPu (HP3.out.put 2 (.int .i64 (S + 1)))
 have lT : Below (w.heap.size + 1) w3 (w3.setCell ⟨w.heap.size + 1, 2, none⟩ (.int .i64 (S + 1))) := gV _ _ _ _
 have qA := aPu (N7.out.below lT (by omega))
 have nV := aPu (pS.out.below lT (by omega))
 have pM : w.heap.size + 1 + 1 < (w3.setCell ⟨w.heap.size + 1, 2, none⟩ (.int .i64 (S + 1))).heap.size := nU.out.lt
 clear lT
 go_upto_region 4 with fail
 generalize w3.setCell ⟨w.heap.size + 1, 2, none⟩ (.int .i64 (S + 1)) = w4 at nU qA nV pM ⊢
 clear o0 o1 o2 o3 o4 o5 o6 o7 f0 f1 f2 f3 f4 f5 f6 f7 HP3 N7 pS hU
 obtain ⟨o0, o1, o2, o3, o4, o5, o6, o7⟩ := aM (show w4.heap[w.heap.size + 1]? = some (.cells #[.int .i64 (d : Int), .int .i64 (x + 1), .int .i64 (S + 1), .int .i64 o.kind, .string o.item, .int .i64 o.qty, .int .i64 o.level, .int .i64 o.undos] 50 (0, 0)) from nU.out.snd)
 go_wp2_with fail
 refine (m0 (d : Int) (x + 1) (S + 1) o.kind o.item o.qty o.level o.undos w4 hi).mono ?_
 rintro e w5 ⟨rfl, aU⟩
 rw [V9.out]
 have rA := aPu (nU.out.next aU)
 have HV5 := aPu (qA.out.below aU (by omega))
 have zJ := aPu (nV.out.below aU (by omega))
 have hl5 := rA.out.lt
 clear aU nU qA nV pM o0 o1 o2 o3 o4 o5 o6 o7
 obtain ⟨r0, r1⟩ := pair_cells rA.out.res
 obtain ⟨g0, g1⟩ := aC rA.out.res
 have bM := aPu (rA.out.set2 (.slice none 0 0) (.slice none 0 0)).1
 have fA := aPu (rA.out.bel.trans ((rA.out.set2 (.slice none 0 0) (.slice none 0 0)).2.mono (by omega)))
 go_wp2
 change bodyPost _ _ _ _ _ ((w5.setCell ⟨w.heap.size + 1 + 1, 0, none⟩ (.slice none 0 0)).setCell ⟨w.heap.size + 1 + 1, 1, none⟩ (.slice none 0 0))
 generalize (w5.setCell ⟨w.heap.size + 1 + 1, 0, none⟩ (.slice none 0 0)).setCell ⟨w.heap.size + 1 + 1, 1, none⟩ (.slice none 0 0) = wf at bM fA ⊢
 obtain ⟨q0, q1⟩ := pair_cells bM.out
 exact bodyPost_ret (v := .tuple #[.agg #[.slice none 0 0, .slice none 0 0], .bool false]) (by simp [results, Tryz.results90, go_sem, q0, q1]) rfl ⟨none, 0, none, 0, rfl, oF _ _ _ _, dV _ _ _ _, fA.out, cN, cN⟩
set_option maxHeartbeats 40000000 in
theorem aHN (w : World) (B : Nat) (av ao : Option Addr) (cv no co d : Nat) (xs : List Int) (l : List aA) (o : aA) (hx : Ints w B av 4 xs) (h : bK w B ao no l) (hB : B ≤ w.heap.size) (bX : av = none → cv = 0) (cD : bQ ao no co) (hd : d < 4) (hn : no ≤ 100000) (mJ : 0 ≤ xs.getD d 0 ∧ xs.getD d 0 ≤ 1000) (eB : ∀ i, i < l.length → (aB l i).stamp ≤ 200000) (hi : o.item.size ≤ 1048576) (hok : (aN xs l d o).ok = true) :
  Calls Tryz.prog 90 #[.agg #[.slice av 4 cv, .slice ao no co], .int .i64 (d : Int), .agg #[.int .i64 o.dev, .int .i64 o.seq, .int .i64 o.stamp, .int .i64 o.kind, .string o.item, .int .i64 o.qty, .int .i64 o.level, .int .i64 o.undos]] w (aIO true (dF xs d) (bN l d (aN xs l d o)) w) := by
 have hT := jD.mk0 w #[.slice av 4 cv, .slice ao no co] #[.int .i64 o.dev, .int .i64 o.seq, .int .i64 o.stamp, .int .i64 o.kind, .string o.item, .int .i64 o.qty, .int .i64 o.level, .int .i64 o.undos] #[.slice none 0 0, .slice none 0 0]
 have HV := aPu (hx.below hT.bel hB)
 have HO := aPu (h.below hT.bel hB)
 have HT := aPu hT
 have sK := aPu hx.1
 have nY := aPu h.1
 have HCV := aPu bX
 have gY := aPu cD
 have wS := oR l l.length
 have dM := sQ (N := 200000) (by omega) eB l.length aPw
 have V9 : Hid (dK (d : Int) (xs.getD d 0 + 1) (cY l l.length + 1) o.kind o.item o.qty o.level o.undos = true) := hok
 have N9 : Hid (aN xs l d o = ⟨(d : Int), xs.getD d 0 + 1, cY l l.length + 1, o.kind, o.item, o.qty, o.level, o.undos⟩) := rfl
 have zH : Hid (dF xs d = xs.set d (xs.getD d 0 + 1)) := rfl
 clear hx h hT eB hok bX cD
 go_enter Tryz.func90, Tryz.ntmps90
 go_upto_region 1 with fail
 generalize ((w.alloc (.cells #[.slice av 4 cv, .slice ao no co] 27)).alloc (.cells #[.int .i64 o.dev, .int .i64 o.seq, .int .i64 o.stamp, .int .i64 o.kind, .string o.item, .int .i64 o.qty, .int .i64 o.level, .int .i64 o.undos] 50)).alloc (.cells #[.slice none 0 0, .slice none 0 0] 27) = w0 at HV HO HT ⊢
 obtain ⟨b, off, rfl, hb, hc⟩ := HV.out.2 d hd
 obtain ⟨x, pK⟩ : ∃ x, x = xs.getD d 0 := ⟨_, rfl⟩
 obtain ⟨S, eH⟩ : ∃ S, S = cY l l.length := ⟨_, rfl⟩
 rw [← pK, ← eH] at V9 N9
 rw [← pK] at hc mJ zH
 rw [← eH] at wS dM
 have HSE := aPu eH
 obtain ⟨uA, hx1⟩ := mJ
 clear pK eH
 obtain ⟨q0, q1⟩ := pair_cells HT.out.fst
 obtain ⟨o0, o1, o2, o3, o4, o5, o6, o7⟩ := aM HT.out.snd
 obtain ⟨f0, f1, f2, f3, f4, f5, f6, f7⟩ := cL HT.out.snd
 have hdi : (d : Int) < 4 := by omega
 have lQ := HT.out.lt
 have vT := aPu ((HT.out.put 0 (.int .i64 (d : Int))).put 1 (.int .i64 (x + 1)))
 have F6 : Below (w.heap.size + 1) w0 ((w0.setCell ⟨w.heap.size + 1, 0, none⟩ (.int .i64 (d : Int))).setCell ⟨w.heap.size + 1, 1, none⟩ (.int .i64 (x + 1))) := dR _ _ _ _ _ _
 have jW := aPu (HV.out.below F6 (by omega))
 have fZ := aPu (HO.out.below F6 (by omega))
 have hl2 := vT.out.lt
 clear F6
 go_upto_region 3 with fail
 generalize (w0.setCell ⟨w.heap.size + 1, 0, none⟩ (.int .i64 (d : Int))).setCell ⟨w.heap.size + 1, 1, none⟩ (.int .i64 (x + 1)) = w2 at vT jW fZ hl2 ⊢
 clear q0 q1 o0 o1 o2 o3 o4 o5 o6 o7 f0 f1 f2 f3 f4 f5 f6 f7 hc HV HO HT lQ
 obtain ⟨q0, q1⟩ := pair_cells vT.out.fst
 go_wp2_with fail
 refine (aEm w2 B _ ao 4 cv no co l fZ.out (by omega) (by omega)).mono ?_
 rintro e w3 ⟨rfl, aR⟩
 rw [← HSE.out]
 have HP3 := aPu (vT.out.next aR)
 have N7 := aPu (jW.out.below aR (by omega))
 have pS := aPu (fZ.out.below aR (by omega))
 have hU := aR.size
 clear aR vT jW fZ q0 q1
 obtain ⟨o0, o1, o2, o3, o4, o5, o6, o7⟩ := aM HP3.out.snd
 obtain ⟨f0, f1, f2, f3, f4, f5, f6, f7⟩ := cL HP3.out.snd
 have nU := aPu (HP3.out.put 2 (.int .i64 (S + 1)))
 have lT : Below (w.heap.size + 1) w3 (w3.setCell ⟨w.heap.size + 1, 2, none⟩ (.int .i64 (S + 1))) := gV _ _ _ _
 have qA := aPu (N7.out.below lT (by omega))
 have nV := aPu (pS.out.below lT (by omega))
 have pM : w.heap.size + 1 + 1 < (w3.setCell ⟨w.heap.size + 1, 2, none⟩ (.int .i64 (S + 1))).heap.size := nU.out.lt
 clear lT
 go_upto_region 4 with fail
 generalize w3.setCell ⟨w.heap.size + 1, 2, none⟩ (.int .i64 (S + 1)) = w4 at nU qA nV pM ⊢
 clear o0 o1 o2 o3 o4 o5 o6 o7 f0 f1 f2 f3 f4 f5 f6 f7 HP3 N7 pS hU
 obtain ⟨o0, o1, o2, o3, o4, o5, o6, o7⟩ := aM (show w4.heap[w.heap.size + 1]? = some (.cells #[.int .i64 (d : Int), .int .i64 (x + 1), .int .i64 (S + 1), .int .i64 o.kind, .string o.item, .int .i64 o.qty, .int .i64 o.level, .int .i64 o.undos] 50 (0, 0)) from nU.out.snd)
 go_wp2_with fail
 refine (m0 (d : Int) (x + 1) (S + 1) o.kind o.item o.qty o.level o.undos w4 hi).mono ?_
 rintro e w5 ⟨rfl, aU⟩
 rw [V9.out]
 have rA := aPu (nU.out.next aU)
 have HV5 := aPu (qA.out.below aU (by omega))
 have zJ := aPu (nV.out.below aU (by omega))
 have hl5 := rA.out.lt
 clear aU nU qA nV pM o0 o1 o2 o3 o4 o5 o6 o7
 obtain ⟨q0, q1⟩ := pair_cells rA.out.fst
 go_wp2_with fail
 refine (aCK w5 B _ ao 4 cv no co xs l HV5.out zJ.out (by omega) HCV.out gY.out.2.2 (by omega) (by omega)).mono ?_
 rintro e w6 ⟨va, vc, oa, oc, rfl, A2, vI, jF, aIj, aLx⟩
 rw [sK.out] at A2 aIj ⊢
 rw [nY.out] at vI aLx ⊢
 have zI := aPu (rA.out.next jF)
 have HV6 := aPu (HV5.out.below jF (by omega))
 have HO6 := aPu (zJ.out.below jF (by omega))
 obtain ⟨gv, aV, rfl, bY, eC, hgv, aC7⟩ := A2.2 (by omega)
 have S2 := jF.size
 have HGV := aPu hgv
 have j9 := aPu aC7
 have HCA := aPu aIj
 clear jF rA HV5 zJ q0 q1 A2 vI aLx hgv aC7 aIj
 have hgs : gv < w6.heap.size := eC
 obtain ⟨q0, q1⟩ := pair_cells zI.out.fst
 obtain ⟨o0, o1, o2, o3, o4, o5, o6, o7⟩ := aM (show w6.heap[w.heap.size + 1]? = some (.cells #[.int .i64 (d : Int), .int .i64 (x + 1), .int .i64 (S + 1), .int .i64 o.kind, .string o.item, .int .i64 o.qty, .int .i64 o.level, .int .i64 o.undos] 50 (0, 0)) from zI.out.snd)
 go_upto_region 7 with fail
 have nQ : Below w6.heap.size w6 (w6.alloc (.cells #[.slice (some ⟨gv, 0, none⟩) 4 vc, .slice oa no oc] 27)) := bl
 have N5 := aPu (bE (Below.refl _ (w6.alloc (.cells #[.slice (some ⟨gv, 0, none⟩) 4 vc, .slice oa no oc] 27))))
 have j6 := aPu (zI.out.next nQ)
 have HV7 := aPu (HV6.out.below nQ (by omega))
 have G3 := aPu (HO6.out.below nQ (by omega))
 have HG7 := aPu ((nQ.block _ hgs).trans HGV.out)
 generalize w6.alloc (.cells #[.slice (some ⟨gv, 0, none⟩) 4 vc, .slice oa no oc] 27) = w7 at nQ N5 j6 HV7 G3 HG7 ⊢
 have Z5 := nQ.size
 have hx7 : w6.heap.size < w7.heap.size := (aPv N5.out).1
 clear nQ zI HV6 HO6 HGV q0 q1 o0 o1 o2 o3 o4 o5 o6 o7
 generalize w6.heap.size = ob at S2 hgs Z5 hx7 N5 eC ⊢
 obtain ⟨x0, x1⟩ := pair_cells N5.out
 obtain ⟨zO, zN⟩ := aC N5.out
 obtain ⟨o0, o1, o2, o3, o4, o5, o6, o7⟩ := aM (show w7.heap[w.heap.size + 1]? = some (.cells #[.int .i64 (d : Int), .int .i64 (x + 1), .int .i64 (S + 1), .int .i64 o.kind, .string o.item, .int .i64 o.qty, .int .i64 o.level, .int .i64 o.undos] 50 (0, 0)) from j6.out.snd)
 have bX : ∃ z, w7.cell? ⟨gv, d, none⟩ = some z := ⟨_, (aPx HG7.out).trans (j9.out d hd)⟩
 obtain ⟨z, hcz⟩ := bX
 have hfz : w7.frozen? ⟨gv, d, none⟩ = false := aPy HG7.out
 have tM : Below gv w7 (w7.setCell ⟨gv, d, none⟩ (.int .i64 (x + 1))) := gV _ _ _ _
 have aLk : ∀ j, j ≠ gv → (w7.setCell ⟨gv, d, none⟩ (.int .i64 (x + 1))).heap[j]? = w7.heap[j]? := fun j hj => heap_setCell_other _ _ _ _ hj
 have HG8 : Hid ((w7.setCell ⟨gv, d, none⟩ (.int .i64 (x + 1))).heap[gv]? = some (.cells (aV.setIfInBounds d (.int .i64 (x + 1))) 2 (0, 0))) := heap_setCell_same _ _ _ _ _ _ HG7.out
 have HX8 := aPu ((aLk ob (by omega)).trans N5.out)
 have V6 := aPu (j6.out.far (tM.mono (by omega)))
 have vV := aPu (G3.out.below tM (by omega))
 have hz8 : (w7.setCell ⟨gv, d, none⟩ (.int .i64 (x + 1))).heap.size = w7.heap.size := by simp [World.setCell]
 have hx8 : ob < (w7.setCell ⟨gv, d, none⟩ (.int .i64 (x + 1))).heap.size := by omega
 go_upto_region 8 with fail
 generalize w7.setCell ⟨gv, d, none⟩ (.int .i64 (x + 1)) = w8 at HG8 HX8 V6 vV hx8 ⊢
 clear tM aLk hz8 hcz hfz x0 x1 zO zN o0 o1 o2 o3 o4 o5 o6 o7 N5 j6 HV7 G3 HG7
 obtain ⟨q0, q1⟩ := pair_cells V6.out.fst
 have aI2 := aPu (oE (d : Int) l)
 have aMl := fun i h => aPu (m7 (dev := (d : Int)) (l := l) (i := i) h)
 have aMk := fun h => aPu (P4 (dev := (d : Int)) (l := l) h)
 have HQd : Hid (bN l d (aN xs l d o) = l.take (putAt (d : Int) l) ++ [aN xs l d o] ++ l.drop (putAt (d : Int) l)) := rfl
 rw [N9.out] at HQd
 obtain ⟨p, hp⟩ : ∃ p, p = putAt (d : Int) l := ⟨_, rfl⟩
 rw [← hp] at aI2 aMl aMk HQd
 have hpn : p ≤ no := by have := aI2.out; have := nY.out; omega
 clear hp aI2
 go_wp2
 go_loop [9] (fun i => ∃ k : Nat, k ≤ p ∧ i = .int .i64 (k : Int)) (fun i => p - (intOf i).toNat)
 case atStart => exact ⟨0, Nat.zero_le _, rfl⟩
 case round =>
  obtain ⟨k, hk, rfl⟩ := hrel
  by_cases hkp : k < p
  ·obtain ⟨b2, aQ, rfl, aG, ho⟩ := vV.out.2 k (by omega)
   obtain ⟨d0, d1, d2, d3, d4, d5, d6, d7⟩ := ho; have gJ := (aMl k hkp).out; have aNY : (l.getD k aA.zero).dev ≤ (d : Int) := gJ; clear gJ; generalize l.getD k aA.zero = y at aNY d0 d1 d2 d3 d4 d5 d6 d7; have aK : (k : Int) < (no : Int) := by omega
   go_wp2
   go_round
   case rel => exact ⟨k + 1, by omega, by go_num⟩
   case measure => simp [intOf]; omega
  obtain rfl : k = p := by omega
  by_cases hkn : k < no
  ·obtain ⟨b2, aQ, rfl, aG, ho⟩ := vV.out.2 k hkn
   obtain ⟨d0, d1, d2, d3, d4, d5, d6, d7⟩ := ho; have aNZ := (aMk (by rw [nY.out]; exact hkn)).out
   have gJ : ¬ (l.getD k aA.zero).dev ≤ (d : Int) := by show ¬ (aB l k).dev ≤ _; omega
   clear aNZ; generalize l.getD k aA.zero = y at gJ d0 d1 d2 d3 d4 d5 d6 d7; have hdb : decide (y.dev ≤ (d : Int)) = false := decide_eq_false gJ; have aK : decide ((k : Int) < (no : Int)) = true := decide_eq_true (by omega)
   clear gJ
   go_upto_region 11 with fail
   clear hdb aK d0 d1 d2 d3 d4 d5 d6 d7; have nD : ¬ (co : Int) = (k : Int) := by have := gY.out.1; omega
   have hw8 : w8.heap.size ≤ w8.heap.size := Nat.le_refl _; have mL : Below w8.heap.size w8 (w8.alloc (.cells #[] 50)) := bl; have S3 : (w8.alloc (.cells #[] 50)).ownsRow w8.heap.size 50 8 (.slice (some ⟨w8.heap.size, 0, none⟩) 0 0) 0 (aH []) := World.ownsRow_made w8 #[] 0 aPw (by unfold maxLen; omega) rfl
   obtain ⟨v1, w9, mS, cV, nC⟩ := oN _ w8.heap.size _ 0 [] S3 B _ k co (l.take k) ((vV.out.below mL (by omega)).take hpn) gY.out.2.2 (by omega) mL.size
   have kI : w9.ownsRow w8.heap.size 50 8 v1 k (aH (l.take k)) := by simpa using cV
   have sD : Below w8.heap.size w8 w9 := mL.grown nC mL.size (fun j hj => (S3.lt j hj).1)
   have hkc : (k : Int) ≤ (co : Int) := by have := gY.out.1; omega
   obtain ⟨qa0, qa1⟩ := pair_cells (V6.out.next mL).fst; clear cV nC S3; have wU := aPu (V6.out.next sD); have HX9 := aPu ((sD.block _ hx8).trans HX8.out); have HO9 := aPu (vV.out.below sD (by omega))
   have X0 := aPu sD; have qT := sD.size; clear sD mL q0 q1; obtain ⟨o0, o1, o2, o3, o4, o5, o6, o7⟩ := aM (show w9.heap[w.heap.size + 1]? = some (.cells #[.int .i64 (d : Int), .int .i64 (x + 1), .int .i64 (S + 1), .int .i64 o.kind, .string o.item, .int .i64 o.qty, .int .i64 o.level, .int .i64 o.undos] 50 (0, 0)) from wU.out.snd); have gQ : Below w9.heap.size w9 (w9.alloc (.cells #[.int .i64 (d : Int), .int .i64 (x + 1), .int .i64 (S + 1), .int .i64 o.kind, .string o.item, .int .i64 o.qty, .int .i64 o.level, .int .i64 o.undos] 50)) := bl; have nF := aAP w9 ⟨(d : Int), x + 1, S + 1, o.kind, o.item, o.qty, o.level, o.undos⟩; have mW := kI.alloc (.cells #[.int .i64 (d : Int), .int .i64 (x + 1), .int .i64 (S + 1), .int .i64 o.kind, .string o.item, .int .i64 o.qty, .int .i64 o.level, .int .i64 o.undos] 50); obtain ⟨v2, wA, mQ, dN, nA⟩ := oN _ w8.heap.size v1 k (l.take k) mW (w9.heap.size + 1) (some ⟨w9.heap.size, 0, none⟩) 1 1 _ nF (fun h => by cases h) (by omega) (Nat.le_trans qT gQ.size)
   have sC : Below w8.heap.size w9 wA := (gQ.mono qT).grown nA (Nat.le_trans qT gQ.size) (fun j hj => (mW.lt j hj).1)
   clear nA mW nF gQ kI; have V5 := aPu (wU.out.far (sC.mono (by omega)))
   have U7 := aPu ((sC.block _ (by omega)).trans HX9.out)
   have HOA := aPu (HO9.out.below sC (by omega))
   have HBA := aPu (X0.out.trans sC); have hsA := sC.size; clear sC wU HX9 HO9 X0; obtain ⟨q0, q1⟩ := pair_cells V5.out.fst; obtain ⟨x0, x1⟩ := pair_cells U7.out; obtain ⟨zO, zN⟩ := aC U7.out; have S5 := dN; have hnA : w8.heap.size ≤ wA.heap.size := Nat.le_trans qT hsA; obtain ⟨v3, wB, mP, mX, mZ⟩ := oN wA w8.heap.size v2 (k + 1) _ dN B (some ⟨b2, aQ + k * 8, none⟩) (no - k) (co - k) (l.drop k) (by have h := HOA.out.dropMap hpn; rw [Option.map_some, tQ] at h; exact h) (fun h => by cases h) (by omega) hnA
   obtain ⟨fS, gN, rfl, c9⟩ := lO mX; have vN : Below w8.heap.size wA wB := (show Below w8.heap.size wA wA from Below.refl _ _).grown mZ hnA (fun j hj => (S5.lt j hj).1)
   have HPB := aPu (V5.out.far (vN.mono (by omega)))
   have U6 := aPu ((vN.block _ hx8).trans U7.out); have HBB := aPu (HBA.out.trans vN); have hsB := vN.size; obtain ⟨qb0, qb1⟩ := pair_cells V5.out.fst; obtain ⟨x0, x1⟩ := pair_cells U6.out; obtain ⟨zO, zN⟩ := aC U6.out; have HGB : Hid (wB.heap[gv]? = some (.cells (aV.setIfInBounds d (.int .i64 (x + 1))) 2 (0, 0))) := (HBB.out.block _ (by omega)).trans HG8.out
   have U8 : Hid ((wB.setCell ⟨ob, 1, none⟩ (.slice fS (k + 1 + (no - k)) gN)).heap[ob]? = some (.cells #[.slice (some ⟨gv, 0, none⟩) 4 vc, .slice fS (k + 1 + (no - k)) gN] 27 (0, 0))) := heap_setCell_same _ _ _ _ _ _ U6.out; have nL := aPu (HPB.out.far ((gV wB ob 1 (.slice fS (k + 1 + (no - k)) gN)).mono (by omega)))
   have B7 : Hid (∀ j, j ≠ ob → (wB.setCell ⟨ob, 1, none⟩ (.slice fS (k + 1 + (no - k)) gN)).heap[j]? = wB.heap[j]?) := fun j hj => heap_setCell_other _ _ _ _ hj
   have U4 : Hid ((wB.setCell ⟨ob, 1, none⟩ (.slice fS (k + 1 + (no - k)) gN)).heap.size = wB.heap.size) := by show (World.setCell _ _ _).heap.size = _; simp [World.setCell]
   have wV := aPu (eG mX aPw); have l5 := aPu c9; have gK := aPu mS; have kP := aPu mQ; have zG := aPu mP; clear mS mQ mP dN S5 mX mZ vN c9
   go_upto_region 12 with (at_builtin; refine dB rfl _ _ _ rfl _ _ rfl rfl gK.out ?_)
   go_upto_region 13 with (at_builtin; refine dB rfl _ _ _ rfl _ _ rfl rfl kP.out ?_)
   go_upto_region 14 with (at_builtin; refine dB rfl _ _ _ rfl _ _ rfl rfl zG.out ?_)
   generalize wB.setCell ⟨ob, 1, none⟩ (.slice fS (k + 1 + (no - k)) gN) = rS at U8 nL B7 U4 ⊢; clear q0 q1 qa0 qa1 qb0 qb1 o0 o1 o2 o3 o4 o5 o6 o7 x0 x1 zO zN gK kP zG; obtain ⟨x0, x1⟩ := pair_cells U8.out; obtain ⟨r0, r1⟩ := pair_cells nL.out.res; obtain ⟨g0, g1⟩ := aC nL.out.res; have tU := aPu (nL.out.set2 (.slice (some ⟨gv, 0, none⟩) 4 vc) (.slice fS (k + 1 + (no - k)) gN)).1; have bT := aPu (nL.out.bel.trans ((nL.out.set2 (.slice (some ⟨gv, 0, none⟩) 4 vc) (.slice fS (k + 1 + (no - k)) gN)).2.mono (by omega)))
   have V8 : Hid (∀ j, j ≠ w.heap.size + 1 + 1 → ((rS.setCell ⟨w.heap.size + 1 + 1, 0, none⟩ (.slice (some ⟨gv, 0, none⟩) 4 vc)).setCell ⟨w.heap.size + 1 + 1, 1, none⟩ (.slice fS (k + 1 + (no - k)) gN)).heap[j]? = rS.heap[j]?) := fun j hj => aF _ _ hj
   have HZF : Hid (((rS.setCell ⟨w.heap.size + 1 + 1, 0, none⟩ (.slice (some ⟨gv, 0, none⟩) 4 vc)).setCell ⟨w.heap.size + 1 + 1, 1, none⟩ (.slice fS (k + 1 + (no - k)) gN)).heap.size = rS.heap.size) := aZ _ _ _ _; go_wp2
   change bodyPost _ _ _ _ _ ((rS.setCell ⟨w.heap.size + 1 + 1, 0, none⟩ (.slice (some ⟨gv, 0, none⟩) 4 vc)).setCell ⟨w.heap.size + 1 + 1, 1, none⟩ (.slice fS (k + 1 + (no - k)) gN))
   generalize (rS.setCell ⟨w.heap.size + 1 + 1, 0, none⟩ (.slice (some ⟨gv, 0, none⟩) 4 vc)).setCell ⟨w.heap.size + 1 + 1, 1, none⟩ (.slice fS (k + 1 + (no - k)) gN) = wf at tU bT V8 HZF ⊢; have S7 := V8.out; have M3 := HZF.out; have A4 := B7.out; have aLe := U4.out; obtain ⟨q0, q1⟩ := pair_cells tU.out; have yV : (bN l d (aN xs l d o)).length = k + 1 + (no - k) := by have h1 := rL l d (aN xs l d o); have h2 := nY.out; omega
   have A8 : (dF xs d).length = 4 := by rw [zH.out, List.length_set, sK.out]
   have hOv : Own wf w.heap.size wf.heap.size (some ⟨gv, 0, none⟩) 4 (dF xs d) := by
    refine ⟨A8, fun _ => ⟨gv, _, rfl, by omega, by omega, ((S7 gv (by omega)).trans (A4 gv (by omega))).trans HGB.out, fun i hi' => ?_⟩⟩
    rw [zH.out, gZ (by rw [sK.out]; omega), Array.getElem?_setIfInBounds]
    have hcs := (aPv (j9.out i hi')).1
    by_cases e : d = i
    ·rw [if_pos e, if_pos e, if_pos (by omega)]
    ·rw [if_neg e, if_neg e, j9.out i hi']
   have hOo : bB wf w.heap.size wf.heap.size fS (k + 1 + (no - k)) (bN l d (aN xs l d o)) := by
    rw [N9.out, HQd.out]; exact (wV.out.kept (w' := wf) fun j h1 h2 => (S7 j (by omega)).trans (A4 j (by omega))).more (by omega) (by omega)
   exact bodyPost_ret (v := .tuple #[.agg #[.slice (some ⟨gv, 0, none⟩) 4 vc, .slice fS (k + 1 + (no - k)) gN], .bool true]) (by simp [results, Tryz.results90, go_sem, q0, q1]) rfl ⟨_, vc, fS, gN, by rw [yV, A8], by rw [A8]; exact hOv, by rw [yV]; exact hOo, bT.out, by rw [A8]; exact HCA.out, by rw [yV]; exact l5.out⟩
  ·have aK : decide ((k : Int) < (no : Int)) = false := decide_eq_false (by omega)
   go_upto_region 11 with fail
   clear aK
   by_cases hck : k = co
   ·obtain rfl : k = co := hck
    obtain rfl : k = no := by omega
    have hw8 : w8.heap.size ≤ w8.heap.size := Nat.le_refl _; have mL : Below w8.heap.size w8 (w8.alloc (.cells #[] 50)) := bl; have S3 : (w8.alloc (.cells #[] 50)).ownsRow w8.heap.size 50 8 (.slice (some ⟨w8.heap.size, 0, none⟩) 0 0) 0 (aH []) := World.ownsRow_made w8 #[] 0 aPw (by unfold maxLen; omega) rfl
    obtain ⟨v1, w9, mS, cV, nC⟩ := oN _ w8.heap.size _ 0 [] S3 B _ k k (l.take k) ((vV.out.below mL (by omega)).take hpn) gY.out.2.2 (by omega) mL.size
    have kI : w9.ownsRow w8.heap.size 50 8 v1 k (aH (l.take k)) := by simpa using cV
    have sD : Below w8.heap.size w8 w9 := mL.grown nC mL.size (fun j hj => (S3.lt j hj).1)
    have hkc : (k : Int) ≤ (k : Int) := by have := gY.out.1; omega
    obtain ⟨qa0, qa1⟩ := pair_cells (V6.out.next mL).fst; clear cV nC S3; have wU := aPu (V6.out.next sD); have HX9 := aPu ((sD.block _ hx8).trans HX8.out); have HO9 := aPu (vV.out.below sD (by omega))
    have X0 := aPu sD; have qT := sD.size; clear sD mL q0 q1; obtain ⟨o0, o1, o2, o3, o4, o5, o6, o7⟩ := aM (show w9.heap[w.heap.size + 1]? = some (.cells #[.int .i64 (d : Int), .int .i64 (x + 1), .int .i64 (S + 1), .int .i64 o.kind, .string o.item, .int .i64 o.qty, .int .i64 o.level, .int .i64 o.undos] 50 (0, 0)) from wU.out.snd); have gQ : Below w9.heap.size w9 (w9.alloc (.cells #[.int .i64 (d : Int), .int .i64 (x + 1), .int .i64 (S + 1), .int .i64 o.kind, .string o.item, .int .i64 o.qty, .int .i64 o.level, .int .i64 o.undos] 50)) := bl; have nF := aAP w9 ⟨(d : Int), x + 1, S + 1, o.kind, o.item, o.qty, o.level, o.undos⟩; have mW := kI.alloc (.cells #[.int .i64 (d : Int), .int .i64 (x + 1), .int .i64 (S + 1), .int .i64 o.kind, .string o.item, .int .i64 o.qty, .int .i64 o.level, .int .i64 o.undos] 50); obtain ⟨v2, wA, mQ, dN, nA⟩ := oN _ w8.heap.size v1 k (l.take k) mW (w9.heap.size + 1) (some ⟨w9.heap.size, 0, none⟩) 1 1 _ nF (fun h => by cases h) (by omega) (Nat.le_trans qT gQ.size)
    have sC : Below w8.heap.size w9 wA := (gQ.mono qT).grown nA (Nat.le_trans qT gQ.size) (fun j hj => (mW.lt j hj).1)
    clear nA mW nF gQ kI; have V5 := aPu (wU.out.far (sC.mono (by omega)))
    have U7 := aPu ((sC.block _ (by omega)).trans HX9.out)
    have HOA := aPu (HO9.out.below sC (by omega))
    have HBA := aPu (X0.out.trans sC); have hsA := sC.size; clear sC wU HX9 HO9 X0; obtain ⟨q0, q1⟩ := pair_cells V5.out.fst; obtain ⟨x0, x1⟩ := pair_cells U7.out; obtain ⟨zO, zN⟩ := aC U7.out; have S5 := dN; have hnA : w8.heap.size ≤ wA.heap.size := Nat.le_trans qT hsA; obtain ⟨v3, wB, mP, mX, mZ⟩ := oN wA w8.heap.size v2 (k + 1) _ dN B ao 0 0 (l.drop k) (P6 (by rw [List.length_drop, nY.out]; omega)) (fun _ => rfl) (by omega) hnA
    obtain ⟨fS, gN, rfl, c9⟩ := lO mX; have vN : Below w8.heap.size wA wB := (show Below w8.heap.size wA wA from Below.refl _ _).grown mZ hnA (fun j hj => (S5.lt j hj).1)
    have HPB := aPu (V5.out.far (vN.mono (by omega)))
    have U6 := aPu ((vN.block _ hx8).trans U7.out); have HBB := aPu (HBA.out.trans vN); have hsB := vN.size; obtain ⟨qb0, qb1⟩ := pair_cells V5.out.fst; obtain ⟨x0, x1⟩ := pair_cells U6.out; obtain ⟨zO, zN⟩ := aC U6.out; have HGB : Hid (wB.heap[gv]? = some (.cells (aV.setIfInBounds d (.int .i64 (x + 1))) 2 (0, 0))) := (HBB.out.block _ (by omega)).trans HG8.out
    have U8 : Hid ((wB.setCell ⟨ob, 1, none⟩ (.slice fS (k + 1 + 0) gN)).heap[ob]? = some (.cells #[.slice (some ⟨gv, 0, none⟩) 4 vc, .slice fS (k + 1 + 0) gN] 27 (0, 0))) := heap_setCell_same _ _ _ _ _ _ U6.out; have nL := aPu (HPB.out.far ((gV wB ob 1 (.slice fS (k + 1 + 0) gN)).mono (by omega)))
    have B7 : Hid (∀ j, j ≠ ob → (wB.setCell ⟨ob, 1, none⟩ (.slice fS (k + 1 + 0) gN)).heap[j]? = wB.heap[j]?) := fun j hj => heap_setCell_other _ _ _ _ hj
    have U4 : Hid ((wB.setCell ⟨ob, 1, none⟩ (.slice fS (k + 1 + 0) gN)).heap.size = wB.heap.size) := by show (World.setCell _ _ _).heap.size = _; simp [World.setCell]
    have wV := aPu (eG mX aPw); have l5 := aPu c9; have gK := aPu mS; have kP := aPu mQ; have zG := aPu mP; clear mS mQ mP dN S5 mX mZ vN c9
    go_upto_region 12 with (at_builtin; refine dB rfl _ _ _ rfl _ _ rfl rfl gK.out ?_)
    go_upto_region 13 with (at_builtin; refine dB rfl _ _ _ rfl _ _ rfl rfl kP.out ?_)
    go_upto_region 14 with (at_builtin; refine dB rfl _ _ _ rfl _ _ rfl rfl zG.out ?_)
    generalize wB.setCell ⟨ob, 1, none⟩ (.slice fS (k + 1 + 0) gN) = rS at U8 nL B7 U4 ⊢; clear q0 q1 qa0 qa1 qb0 qb1 o0 o1 o2 o3 o4 o5 o6 o7 x0 x1 zO zN gK kP zG; obtain ⟨x0, x1⟩ := pair_cells U8.out; obtain ⟨r0, r1⟩ := pair_cells nL.out.res; obtain ⟨g0, g1⟩ := aC nL.out.res; have tU := aPu (nL.out.set2 (.slice (some ⟨gv, 0, none⟩) 4 vc) (.slice fS (k + 1 + 0) gN)).1; have bT := aPu (nL.out.bel.trans ((nL.out.set2 (.slice (some ⟨gv, 0, none⟩) 4 vc) (.slice fS (k + 1 + 0) gN)).2.mono (by omega)))
    have V8 : Hid (∀ j, j ≠ w.heap.size + 1 + 1 → ((rS.setCell ⟨w.heap.size + 1 + 1, 0, none⟩ (.slice (some ⟨gv, 0, none⟩) 4 vc)).setCell ⟨w.heap.size + 1 + 1, 1, none⟩ (.slice fS (k + 1 + 0) gN)).heap[j]? = rS.heap[j]?) := fun j hj => aF _ _ hj
    have HZF : Hid (((rS.setCell ⟨w.heap.size + 1 + 1, 0, none⟩ (.slice (some ⟨gv, 0, none⟩) 4 vc)).setCell ⟨w.heap.size + 1 + 1, 1, none⟩ (.slice fS (k + 1 + 0) gN)).heap.size = rS.heap.size) := aZ _ _ _ _; go_wp2
    change bodyPost _ _ _ _ _ ((rS.setCell ⟨w.heap.size + 1 + 1, 0, none⟩ (.slice (some ⟨gv, 0, none⟩) 4 vc)).setCell ⟨w.heap.size + 1 + 1, 1, none⟩ (.slice fS (k + 1 + 0) gN))
    generalize (rS.setCell ⟨w.heap.size + 1 + 1, 0, none⟩ (.slice (some ⟨gv, 0, none⟩) 4 vc)).setCell ⟨w.heap.size + 1 + 1, 1, none⟩ (.slice fS (k + 1 + 0) gN) = wf at tU bT V8 HZF ⊢; have S7 := V8.out; have M3 := HZF.out; have A4 := B7.out; have aLe := U4.out; obtain ⟨q0, q1⟩ := pair_cells tU.out; have yV : (bN l d (aN xs l d o)).length = k + 1 + 0 := by have h1 := rL l d (aN xs l d o); have h2 := nY.out; omega
    have A8 : (dF xs d).length = 4 := by rw [zH.out, List.length_set, sK.out]
    have hOv : Own wf w.heap.size wf.heap.size (some ⟨gv, 0, none⟩) 4 (dF xs d) := by
     refine ⟨A8, fun _ => ⟨gv, _, rfl, by omega, by omega, ((S7 gv (by omega)).trans (A4 gv (by omega))).trans HGB.out, fun i hi' => ?_⟩⟩
     rw [zH.out, gZ (by rw [sK.out]; omega), Array.getElem?_setIfInBounds]
     have hcs := (aPv (j9.out i hi')).1
     by_cases e : d = i
     ·rw [if_pos e, if_pos e, if_pos (by omega)]
     ·rw [if_neg e, if_neg e, j9.out i hi']
    have hOo : bB wf w.heap.size wf.heap.size fS (k + 1 + 0) (bN l d (aN xs l d o)) := by
     rw [N9.out, HQd.out]; exact (wV.out.kept (w' := wf) fun j h1 h2 => (S7 j (by omega)).trans (A4 j (by omega))).more (by omega) (by omega)
    exact bodyPost_ret (v := .tuple #[.agg #[.slice (some ⟨gv, 0, none⟩) 4 vc, .slice fS (k + 1 + 0) gN], .bool true]) (by simp [results, Tryz.results90, go_sem, q0, q1]) rfl ⟨_, vc, fS, gN, by rw [yV, A8], by rw [A8]; exact hOv, by rw [yV]; exact hOo, bT.out, by rw [A8]; exact HCA.out, by rw [yV]; exact l5.out⟩
   ·have nD : ¬ (co : Int) = (k : Int) := by omega
    have hw8 : w8.heap.size ≤ w8.heap.size := Nat.le_refl _; have mL : Below w8.heap.size w8 (w8.alloc (.cells #[] 50)) := bl; have S3 : (w8.alloc (.cells #[] 50)).ownsRow w8.heap.size 50 8 (.slice (some ⟨w8.heap.size, 0, none⟩) 0 0) 0 (aH []) := World.ownsRow_made w8 #[] 0 aPw (by unfold maxLen; omega) rfl
    obtain ⟨v1, w9, mS, cV, nC⟩ := oN _ w8.heap.size _ 0 [] S3 B _ k co (l.take k) ((vV.out.below mL (by omega)).take hpn) gY.out.2.2 (by omega) mL.size
    have kI : w9.ownsRow w8.heap.size 50 8 v1 k (aH (l.take k)) := by simpa using cV
    have sD : Below w8.heap.size w8 w9 := mL.grown nC mL.size (fun j hj => (S3.lt j hj).1)
    have hkc : (k : Int) ≤ (co : Int) := by have := gY.out.1; omega
    obtain ⟨qa0, qa1⟩ := pair_cells (V6.out.next mL).fst; clear cV nC S3; have wU := aPu (V6.out.next sD); have HX9 := aPu ((sD.block _ hx8).trans HX8.out); have HO9 := aPu (vV.out.below sD (by omega))
    have X0 := aPu sD; have qT := sD.size; clear sD mL q0 q1; obtain ⟨o0, o1, o2, o3, o4, o5, o6, o7⟩ := aM (show w9.heap[w.heap.size + 1]? = some (.cells #[.int .i64 (d : Int), .int .i64 (x + 1), .int .i64 (S + 1), .int .i64 o.kind, .string o.item, .int .i64 o.qty, .int .i64 o.level, .int .i64 o.undos] 50 (0, 0)) from wU.out.snd); have gQ : Below w9.heap.size w9 (w9.alloc (.cells #[.int .i64 (d : Int), .int .i64 (x + 1), .int .i64 (S + 1), .int .i64 o.kind, .string o.item, .int .i64 o.qty, .int .i64 o.level, .int .i64 o.undos] 50)) := bl; have nF := aAP w9 ⟨(d : Int), x + 1, S + 1, o.kind, o.item, o.qty, o.level, o.undos⟩; have mW := kI.alloc (.cells #[.int .i64 (d : Int), .int .i64 (x + 1), .int .i64 (S + 1), .int .i64 o.kind, .string o.item, .int .i64 o.qty, .int .i64 o.level, .int .i64 o.undos] 50); obtain ⟨v2, wA, mQ, dN, nA⟩ := oN _ w8.heap.size v1 k (l.take k) mW (w9.heap.size + 1) (some ⟨w9.heap.size, 0, none⟩) 1 1 _ nF (fun h => by cases h) (by omega) (Nat.le_trans qT gQ.size)
    have sC : Below w8.heap.size w9 wA := (gQ.mono qT).grown nA (Nat.le_trans qT gQ.size) (fun j hj => (mW.lt j hj).1)
    clear nA mW nF gQ kI; have V5 := aPu (wU.out.far (sC.mono (by omega)))
    have U7 := aPu ((sC.block _ (by omega)).trans HX9.out)
    have HOA := aPu (HO9.out.below sC (by omega))
    have HBA := aPu (X0.out.trans sC); have hsA := sC.size; clear sC wU HX9 HO9 X0; obtain ⟨q0, q1⟩ := pair_cells V5.out.fst; obtain ⟨x0, x1⟩ := pair_cells U7.out; obtain ⟨zO, zN⟩ := aC U7.out; have S5 := dN; have hnA : w8.heap.size ≤ wA.heap.size := Nat.le_trans qT hsA; obtain ⟨v3, wB, mP, mX, mZ⟩ := oN wA w8.heap.size v2 (k + 1) _ dN B (Option.map (fun x : Addr => x.add (k * 8)) (ao)) (no - k) (co - k) (l.drop k) (HOA.out.dropMap hpn) (fun h => by have := gY.out.2.2 (by rcases ao with _ | _; rfl; cases h); omega) (by omega) hnA
    obtain ⟨fS, gN, rfl, c9⟩ := lO mX; have vN : Below w8.heap.size wA wB := (show Below w8.heap.size wA wA from Below.refl _ _).grown mZ hnA (fun j hj => (S5.lt j hj).1)
    have HPB := aPu (V5.out.far (vN.mono (by omega)))
    have U6 := aPu ((vN.block _ hx8).trans U7.out); have HBB := aPu (HBA.out.trans vN); have hsB := vN.size; obtain ⟨qb0, qb1⟩ := pair_cells V5.out.fst; obtain ⟨x0, x1⟩ := pair_cells U6.out; obtain ⟨zO, zN⟩ := aC U6.out; have HGB : Hid (wB.heap[gv]? = some (.cells (aV.setIfInBounds d (.int .i64 (x + 1))) 2 (0, 0))) := (HBB.out.block _ (by omega)).trans HG8.out
    have U8 : Hid ((wB.setCell ⟨ob, 1, none⟩ (.slice fS (k + 1 + (no - k)) gN)).heap[ob]? = some (.cells #[.slice (some ⟨gv, 0, none⟩) 4 vc, .slice fS (k + 1 + (no - k)) gN] 27 (0, 0))) := heap_setCell_same _ _ _ _ _ _ U6.out; have nL := aPu (HPB.out.far ((gV wB ob 1 (.slice fS (k + 1 + (no - k)) gN)).mono (by omega)))
    have B7 : Hid (∀ j, j ≠ ob → (wB.setCell ⟨ob, 1, none⟩ (.slice fS (k + 1 + (no - k)) gN)).heap[j]? = wB.heap[j]?) := fun j hj => heap_setCell_other _ _ _ _ hj
    have U4 : Hid ((wB.setCell ⟨ob, 1, none⟩ (.slice fS (k + 1 + (no - k)) gN)).heap.size = wB.heap.size) := by show (World.setCell _ _ _).heap.size = _; simp [World.setCell]
    have wV := aPu (eG mX aPw); have l5 := aPu c9; have gK := aPu mS; have kP := aPu mQ; have zG := aPu mP; clear mS mQ mP dN S5 mX mZ vN c9
    go_upto_region 12 with (at_builtin; refine dB rfl _ _ _ rfl _ _ rfl rfl gK.out ?_)
    go_upto_region 13 with (at_builtin; refine dB rfl _ _ _ rfl _ _ rfl rfl kP.out ?_)
    go_upto_region 14 with (at_builtin; refine dB rfl _ _ _ rfl _ _ rfl rfl zG.out ?_)
    generalize wB.setCell ⟨ob, 1, none⟩ (.slice fS (k + 1 + (no - k)) gN) = rS at U8 nL B7 U4 ⊢; clear q0 q1 qa0 qa1 qb0 qb1 o0 o1 o2 o3 o4 o5 o6 o7 x0 x1 zO zN gK kP zG; obtain ⟨x0, x1⟩ := pair_cells U8.out; obtain ⟨r0, r1⟩ := pair_cells nL.out.res; obtain ⟨g0, g1⟩ := aC nL.out.res; have tU := aPu (nL.out.set2 (.slice (some ⟨gv, 0, none⟩) 4 vc) (.slice fS (k + 1 + (no - k)) gN)).1; have bT := aPu (nL.out.bel.trans ((nL.out.set2 (.slice (some ⟨gv, 0, none⟩) 4 vc) (.slice fS (k + 1 + (no - k)) gN)).2.mono (by omega)))
    have V8 : Hid (∀ j, j ≠ w.heap.size + 1 + 1 → ((rS.setCell ⟨w.heap.size + 1 + 1, 0, none⟩ (.slice (some ⟨gv, 0, none⟩) 4 vc)).setCell ⟨w.heap.size + 1 + 1, 1, none⟩ (.slice fS (k + 1 + (no - k)) gN)).heap[j]? = rS.heap[j]?) := fun j hj => aF _ _ hj
    have HZF : Hid (((rS.setCell ⟨w.heap.size + 1 + 1, 0, none⟩ (.slice (some ⟨gv, 0, none⟩) 4 vc)).setCell ⟨w.heap.size + 1 + 1, 1, none⟩ (.slice fS (k + 1 + (no - k)) gN)).heap.size = rS.heap.size) := aZ _ _ _ _; go_wp2
    change bodyPost _ _ _ _ _ ((rS.setCell ⟨w.heap.size + 1 + 1, 0, none⟩ (.slice (some ⟨gv, 0, none⟩) 4 vc)).setCell ⟨w.heap.size + 1 + 1, 1, none⟩ (.slice fS (k + 1 + (no - k)) gN))
    generalize (rS.setCell ⟨w.heap.size + 1 + 1, 0, none⟩ (.slice (some ⟨gv, 0, none⟩) 4 vc)).setCell ⟨w.heap.size + 1 + 1, 1, none⟩ (.slice fS (k + 1 + (no - k)) gN) = wf at tU bT V8 HZF ⊢; have S7 := V8.out; have M3 := HZF.out; have A4 := B7.out; have aLe := U4.out; obtain ⟨q0, q1⟩ := pair_cells tU.out; have yV : (bN l d (aN xs l d o)).length = k + 1 + (no - k) := by have h1 := rL l d (aN xs l d o); have h2 := nY.out; omega
    have A8 : (dF xs d).length = 4 := by rw [zH.out, List.length_set, sK.out]
    have hOv : Own wf w.heap.size wf.heap.size (some ⟨gv, 0, none⟩) 4 (dF xs d) := by
     refine ⟨A8, fun _ => ⟨gv, _, rfl, by omega, by omega, ((S7 gv (by omega)).trans (A4 gv (by omega))).trans HGB.out, fun i hi' => ?_⟩⟩
     rw [zH.out, gZ (by rw [sK.out]; omega), Array.getElem?_setIfInBounds]
     have hcs := (aPv (j9.out i hi')).1
     by_cases e : d = i
     ·rw [if_pos e, if_pos e, if_pos (by omega)]
     ·rw [if_neg e, if_neg e, j9.out i hi']
    have hOo : bB wf w.heap.size wf.heap.size fS (k + 1 + (no - k)) (bN l d (aN xs l d o)) := by
     rw [N9.out, HQd.out]; exact (wV.out.kept (w' := wf) fun j h1 h2 => (S7 j (by omega)).trans (A4 j (by omega))).more (by omega) (by omega)
    exact bodyPost_ret (v := .tuple #[.agg #[.slice (some ⟨gv, 0, none⟩) 4 vc, .slice fS (k + 1 + (no - k)) gN], .bool true]) (by simp [results, Tryz.results90, go_sem, q0, q1]) rfl ⟨_, vc, fS, gN, by rw [yV, A8], by rw [A8]; exact hOv, by rw [yV]; exact hOo, bT.out, by rw [A8]; exact HCA.out, by rw [yV]; exact l5.out⟩
def kF (o : bO) : List Value := [.string o.item, .int .i64 o.qty, .bool o.saved]
def eQ : List bO → List Value
 | [] => []
 | x :: l => kF x ++ eQ l
theorem qR : ∀ l : List bO, (eQ l).length = l.length * 3
 | [] => rfl
 | x :: l => by
  show (kF x ++ eQ l).length = _
  rw [List.length_append, qR l, List.length_cons]
  show 3 + _ = _
  omega
theorem Q6 (x : bO) : ∀ l : List bO, eQ (l ++ [x]) = eQ l ++ kF x
 | [] => by show kF x ++ [] = [] ++ kF x; rw [List.append_nil, List.nil_append]
 | y :: l => by
  show kF y ++ eQ (l ++ [x]) = (kF y ++ eQ l) ++ kF x
  rw [Q6 x l, List.append_assoc]
theorem I0 : ∀ (l : List bO) (i u : Nat), i < l.length → u < 3 → (eQ l)[i * 3 + u]? = (kF (l.getD i bO.zero))[u]?
 | x :: l, 0, u, _, hu => by
  show (kF x ++ eQ l)[0 * 3 + u]? = (kF x)[u]?
  rw [Nat.zero_mul, Nat.zero_add, List.getElem?_append_left (by show u < 3; exact hu)]
 | x :: l, i + 1, u, hi, hu => by
  show (kF x ++ eQ l)[(i + 1) * 3 + u]? = (kF (l.getD i bO.zero))[u]?
  rw [List.getElem?_append_right (by show 3 ≤ _; omega)]
  have e : (i + 1) * 3 + u - (kF x).length = i * 3 + u := by show _ - 3 = _; omega
  rw [e]; exact I0 l i u (by simpa using hi) hu
theorem zX {w : World} {base hi : Nat} {v : Value} {n : Nat} {l : List bO} (h : w.ownsRow base 39 3 v n (eQ l)) (hh : w.heap.size ≤ hi) : ∃ a c, v = .slice a n c ∧ kZ w base hi a n l := by
 have hl : l.length = n := by have := h.1; rw [qR] at this; omega
 rcases h.2 with ⟨e, e2⟩ | ⟨g, c, aV, e, hb, hg, hnc, _, hs, ht⟩
 ·have hn0 : n = 0 := by simpa using e2
  subst hn0; exact ⟨none, 0, e, hl, fun h => absurd h (by omega)⟩
 ·have key : ∀ i u, i < n → u < 3 → aV[0 + i * 3 + u]? = (kF (l.getD i bO.zero))[u]? := fun i u hi' hu => by
   have h2 : (aV.toList.take (n * 3))[i * 3 + u]? = (eQ l)[i * 3 + u]? := by rw [ht]
   rw [List.getElem?_take_of_lt (by omega), I0 l i u (by omega) hu] at h2
   rw [Nat.zero_add, ← Array.getElem?_toList, h2]
  refine ⟨_, c, e, hl, fun hn => ⟨g, 0, aV, rfl, hb, Nat.lt_of_lt_of_le (aPv hg).1 hh, hg, by rw [hs]; omega, fun i hi' => ?_⟩⟩
  exact ⟨key i 0 hi' (by omega), key i 1 hi' (by omega), key i 2 hi' (by omega)⟩
theorem Tryz.zeroLn : (Tryz.prog.info? 39).map (fun i => (i.zero, i.size, i.bytes)) = some (some (.agg #[.string ⟨#[]⟩, .int .i64 0, .bool false]), 3, 32) := by kernel_rfl
theorem aNf (w : World) (base : Nat) (v : Value) (n : Nat) (l : List bO) (aY : w.ownsRow base 39 3 v n (eQ l)) (o : bO) (hn : n + 1 ≤ 4194304) (xH : base ≤ w.heap.size) :
  ∃ v' w', (Builtin.append_ #[42, 42] 42 #[v, .slice (some ⟨w.heap.size, 0, none⟩) 1 1]).run Tryz.prog (w.alloc (.cells #[.string o.item, .int .i64 o.qty, .bool o.saved] 39)) = .ok v' w' ∧ w'.ownsRow base 39 3 v' (n + 1) (eQ (l ++ [o])) ∧ Below base w w' ∧ (w.alloc (.cells #[.string o.item, .int .i64 o.qty, .bool o.saved] 39)).grownBy w' v.ownBlock := by
 obtain ⟨i0, hi, gI, jK, jB⟩ := info_parts Tryz.zeroLn
 have bC : Below base w (w.alloc (.cells #[.string o.item, .int .i64 o.qty, .bool o.saved] 39)) := (Below.refl _ _).alloc xH _
 have hA := aY.alloc (.cells #[.string o.item, .int .i64 o.qty, .bool o.saved] 39)
 have yS : ∀ j u, (kF o)[j]? = some u → (w.alloc (.cells #[.string o.item, .int .i64 o.qty, .bool o.saved] 39)).cell? ((⟨w.heap.size, 0, none⟩ : Addr).add j) = some u := by
  intro j u hu
  have hj : j < 3 := by
   rcases Nat.lt_or_ge j 3 with g | g
   ·exact g
   ·rw [List.getElem?_eq_none (by show 3 ≤ j; exact g)] at hu; cases hu
  rw [tQ, aPx (heap_alloc_new w _), Nat.zero_add]; rw [← hu]
  match j, hj with
  | 0, _ => rfl
  | 1, _ => rfl
  | 2, _ => rfl
 obtain ⟨v', w', h1, h2, h3, _⟩ := run_append_own (P := Tryz.prog) _ base 42 42 39 i0 (.agg #[.string ⟨#[]⟩, .int .i64 0, .bool false]) 3 32 Tryz.underlying42 hi gI jK jB rfl (by decide) v n _ hA ⟨w.heap.size, 0, none⟩ 1 1 (kF o) rfl yS (by intro u hu; simp only [kF, List.mem_cons, List.not_mem_nil, or_false] at hu; rcases hu with rfl | rfl | rfl <;> rfl) (by unfold maxLen; omega) (by omega) (Nat.le_trans xH bC.size)
 exact ⟨v', w', h1, by rw [Q6]; exact h2, bC.grown h3 (Nat.le_trans xH bC.size) (fun j hj => (hA.lt j hj).1), h3⟩
theorem aEN (w : World) (base : Nat) : w.ownsRow base 39 3 (.slice none 0 0) 0 (eQ []) := ⟨rfl, .inl ⟨rfl, rfl⟩⟩
end Go.Proofs.YthkagbnpcjidfaaGreatDoor
