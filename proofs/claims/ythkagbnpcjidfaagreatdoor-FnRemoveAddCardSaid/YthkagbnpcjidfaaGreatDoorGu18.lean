/- Walks and mathematics that several claims share, part 18. -/
import Derived.Test.YthkagbnpcjidfaaGreatDoorGu17
import Derived.Laws.OwnMore
import Derived.OwnWalk
import Derived.Deep.Cut
import Derived.Lib.MinMax
import Derived.Laws.AppendOwn
namespace Go.Proofs.YthkagbnpcjidfaaGreatDoor
set_option maxRecDepth 100000
open Go.RowKit
set_option linter.unusedVariables false
set_option linter.unusedSimpArgs false
theorem aFh {w : World} {B b off n : Nat} {xs : List Int} (h : Ints w B (some ⟨b, off, none⟩) n xs) : ∀ j u, (xs.map (Value.int .i64))[j]? = some u → w.cell? ((⟨b, off, none⟩ : Addr).add j) = some u := fun j u hu => by
 have hj : j < xs.length := by
  rcases Nat.lt_or_ge j xs.length with g | g
  ·exact g
  ·rw [List.getElem?_eq_none (by simpa using g)] at hu; cases hu
 obtain ⟨b', sM, e, _, hc⟩ := h.2 j (by rw [← h.1]; exact hj)
 injection e with e
 injection e with e1 e2
 subst e1 e2
 rw [tD, hc]
 rw [List.getElem?_map, List.getElem?_eq_getElem hj] at hu
 rw [← hu, List.getD_eq_getElem?_getD, List.getElem?_eq_getElem hj]
 rfl
theorem aBv (w : World) (base : Nat) (v : Value) (n : Nat) (xs : List Int) (aU : w.ownsRow base 2 1 v n (xs.map (Value.int .i64))) (B : Nat) (a : Option Addr) (m c : Nat) (ys : List Int) (h : Ints w B a m ys) (hc : a = none → c = 0) (hn : n + m ≤ 4194304) (xJ : base ≤ w.heap.size) :
  ∃ v' w', (Builtin.append_ #[24, 24] 24 #[v, .slice a m c]).run Tryz.prog w = .ok v' w' ∧ w'.ownsRow base 2 1 v' (n + m) ((xs ++ ys).map (Value.int .i64)) ∧ w.grownBy w' v.ownBlock := by
 obtain ⟨i0, hi, gK, jV, iS⟩ := info_parts Tryz.infoI64
 have hl : ys.length = m := h.1
 rcases a with _ | x
 ·have hm : m = 0 := by
   rcases Nat.eq_zero_or_pos m with g | g
   ·exact g
   ·obtain ⟨_, _, e, _⟩ := h.2 0 g; cases e
  subst hm; have : ys = [] := List.eq_nil_of_length_eq_zero hl; subst this; rw [hc rfl]; exact ⟨v, w, run_append_owned_none (P := Tryz.prog) w base 24 24 2 i0 1 Tryz.underlying24 hi v n _ aU, by simpa using aU, World.grownBy.refl _ _⟩
 ·have yT : ∀ j u, (ys.map (Value.int .i64))[j]? = some u → w.cell? (x.add j) = some u := by
   rcases Nat.eq_zero_or_pos m with g | g
   ·subst g
    have : ys = [] := List.eq_nil_of_length_eq_zero hl; subst this
    intro j u hu
    simp at hu
   ·obtain ⟨b, off, e, _⟩ := h.2 0 g
    injection e with e; subst e; exact aFh h
  obtain ⟨v', w', h1, h2, h3, _⟩ := run_append_own (P := Tryz.prog) w base 24 24 2 i0 (.int .i64 0) 1 8 Tryz.underlying24 hi gK jV iS rfl (by decide) v n _ aU x m c (ys.map (Value.int .i64)) (by rw [List.length_map, hl]; omega) yT (by intro u hu; rw [List.mem_map] at hu; obtain ⟨z, _, rfl⟩ := hu; rfl) (by unfold maxLen; omega) (by omega) xJ
  exact ⟨v', w', h1, by rw [List.map_append]; exact h2, h3⟩
theorem oI (w : World) (base : Nat) (v : Value) (n : Nat) (l : List aA) (aU : w.ownsRow base 50 8 v n (aF l)) (B : Nat) (a : Option Addr) (m c : Nat) (k : List aA) (h : bP w B a m k) (hc : a = none → c = 0) (hn : n + m ≤ 4194304) (xJ : base ≤ w.heap.size) :
  ∃ v' w', (Builtin.append_ #[25, 25] 25 #[v, .slice a m c]).run Tryz.prog w = .ok v' w' ∧ w'.ownsRow base 50 8 v' (n + m) (aF (l ++ k)) ∧ w.grownBy w' v.ownBlock := by
 obtain ⟨i0, hi, gK, jV, iS⟩ := info_parts Tryz.infoOp
 have hl : k.length = m := h.1
 have aN3 : aF (l ++ k) = aF l ++ aF k := by
  clear h hl aU hn
  induction l with
  | nil => rfl
  | cons x l ih => show bV x ++ aF (l ++ k) = (bV x ++ aF l) ++ aF k; rw [ih, List.append_assoc]
 rcases a with _ | x
 ·have hm : m = 0 := by
   rcases Nat.eq_zero_or_pos m with g | g
   ·exact g
   ·obtain ⟨_, _, e, _⟩ := h.2 0 g; cases e
  subst hm; have : k = [] := List.eq_nil_of_length_eq_zero hl; subst this; rw [hc rfl]; exact ⟨v, w, run_append_owned_none (P := Tryz.prog) w base 25 25 50 i0 8 Tryz.underlying25 hi v n _ aU, by rw [List.append_nil]; exact aU, World.grownBy.refl _ _⟩
 ·have yT : ∀ j u, (aF k)[j]? = some u → w.cell? (x.add j) = some u := by
   rcases Nat.eq_zero_or_pos m with g | g
   ·subst g
    have : k = [] := List.eq_nil_of_length_eq_zero hl; subst this
    intro j u hu
    simp [aF] at hu
   ·obtain ⟨b, off, e, _⟩ := h.2 0 g
    injection e with e; subst e; exact yZ h
  obtain ⟨v', w', h1, h2, h3, _⟩ := run_append_own (P := Tryz.prog) w base 25 25 50 i0 _ 8 72 Tryz.underlying25 hi gK jV iS rfl (by decide) v n _ aU x m c (aF k) (by rw [eL, hl]) yT (fun u hu => iY k u hu) (by unfold maxLen; omega) (by omega) xJ
  exact ⟨v', w', h1, by rw [aN3]; exact h2, h3⟩
theorem uH {P : Program} {o : Oper} {a : Act} {w : World} {K : Act → World → Prop} {Q : Exit → Act → World → Prop} (x y : Operand) (ts : Array TypeId) (eA : o.op = Op.call { callee := Callee.builtin Builtin.append, args := #[x, y], argTypes := ts }) (v1 v2 : Value) {v' : Value} {w' : World} (h1 : a.eval x = v1) (h2 : a.eval y = v2)
  (hrun : (Builtin.append_ ts o.type #[v1, v2]).run P w = .ok v' w') (hK : K (a.put o.dst v') w') : Oper.wp P o a w K Q := by
 unfold Oper.wp
 simp [execOp, eA, resolve, invoke, builtin, h1, h2, hrun, Result.andThen]
 exact hK
theorem cY {P : Program} {w : World} {ops : Array Oper} {rest : List Oper} {o : Oper} {a : Act} {Q : Exit → Act → World → Prop} (vO : o.guard = none) (x y : Operand) (ts : Array TypeId) (eA : o.op = Op.call { callee := Callee.builtin Builtin.append, args := #[x, y], argTypes := ts }) (v1 v2 : Value) {v' : Value} {w' : World} (h1 : a.eval x = v1) (h2 : a.eval y = v2)
  (hrun : (Builtin.append_ ts o.type #[v1, v2]).run P w = .ok v' w') (h : wpList P ops Q rest (a.put o.dst v') w') : wpList P ops Q (o :: rest) a w :=
 wpList_plain vO fun _ hK => uH x y ts eA v1 v2 h1 h2 hrun (hK _ _ h)
theorem lT {w : World} {base size n : Nat} {e : TypeId} {v : Value} {xs : List Value} (h : w.ownsRow base e size v n xs) : ∃ a c, v = .slice a n c ∧ bM a n c := by
 rcases h.2 with ⟨e1, e2⟩ | ⟨g, cap, aW, e1, _⟩
 ·subst e1
  have e3 := h; have hn : n = 0 := e2; subst hn; exact ⟨none, 0, rfl, cN⟩
 ·subst e1
  exact ⟨_, _, rfl, gA h⟩
theorem P5 {w : World} {b1 b2 s1 s2 n1 n2 : Nat} {e1 e2 : TypeId} {v1 v2 : Value} {x1 x2 : List Value} (h1 : w.ownsRow b1 e1 s1 v1 n1 x1) (h2 : w.ownsRow b2 e2 s2 v2 n2 x2) (he : e1 ≠ e2) : v1.ownBlock = none ∨ v1.ownBlock ≠ v2.ownBlock := by
 rcases h1.2 with ⟨rfl, _⟩ | ⟨g1, c1, aPh, rfl, _, bZ, _⟩
 ·exact .inl rfl
 ·right
  rcases h2.2 with ⟨rfl, _⟩ | ⟨g2, c2, aPg, rfl, _, eH, _⟩
  ·intro h; cases h
  ·intro h
   have : g1 = g2 := by simpa [Value.ownBlock] using h
   subst this; rw [bZ] at eH; injection eH with eH; injection eH with _ ht; exact he ht
def aJg (xs : List Int) (l : List aA) (w : World) (e : Ending) (w' : World) : Prop := ∃ va vc oa oc, e = .returned (.agg #[.slice va xs.length vc, .slice oa l.length oc]) ∧ Own w' w.heap.size w'.heap.size va xs.length xs ∧ bB w' w.heap.size w'.heap.size oa l.length l ∧ Below w.heap.size w w' ∧ bM va xs.length vc ∧ bM oa l.length oc
set_option linter.unusedSimpArgs false in
set_option maxHeartbeats 20000000 in
theorem aCN (w : World) (B : Nat) (av ao : Option Addr) (nv cv no co : Nat) (xs : List Int) (l : List aA) (hx : Ints w B av nv xs) (h : bP w B ao no l) (hB : B ≤ w.heap.size) (bW : av = none → cv = 0) (cB : ao = none → co = 0) (hv : nv ≤ 1048576) (hn : no ≤ 1048576) :
  Calls Tryz.prog 47 #[.agg #[.slice av nv cv, .slice ao no co]] w (aJg xs l w) := by
 have bD : Below w.heap.size w ((w.alloc (.cells #[.slice av nv cv, .slice ao no co] 27)).alloc (.cells #[.slice none 0 0, .slice none 0 0] 27)) := ((Below.refl _ w).alloc aPq _).alloc (by simp) _
 have HV := aPo (hx.below bD hB)
 have HO := aPo (h.below bD hB)
 have uA := aPo hx.1
 have nV := aPo h.1
 have HX : Hid (((w.alloc (.cells #[.slice av nv cv, .slice ao no co] 27)).alloc (.cells #[.slice none 0 0, .slice none 0 0] 27)).heap[w.heap.size]? = some (.cells #[.slice av nv cv, .slice ao no co] 27 (0, 0))) := heap_alloc2_old _ _ _
 have HR : Hid (((w.alloc (.cells #[.slice av nv cv, .slice ao no co] 27)).alloc (.cells #[.slice none 0 0, .slice none 0 0] 27)).heap[w.heap.size + 1]? = some (.cells #[.slice none 0 0, .slice none 0 0] 27 (0, 0))) := heap_alloc2_new _ _ _
 have dC : w.heap.size + 1 < ((w.alloc (.cells #[.slice av nv cv, .slice ao no co] 27)).alloc (.cells #[.slice none 0 0, .slice none 0 0] 27)).heap.size := by simp
 have HB := aPo bD
 have HCV := aPo bW
 have gS := aPo cB
 clear hx h bD bW cB
 go_enter Tryz.func47, Tryz.ntmps47
 go_wp2_with fail
 generalize (w.alloc (.cells #[.slice av nv cv, .slice ao no co] 27)).alloc (.cells #[.slice none 0 0, .slice none 0 0] 27) = w0 at HV HO HX HR dC HB ⊢
 obtain ⟨c0, c1⟩ := pair_cells HX.out
 have gQ : Below w0.heap.size w0 w0.drew := ⟨rfl, rfl, rfl, Nat.le_refl _, fun _ _ => rfl⟩
 obtain ⟨z0, gK⟩ : ∃ z0, z0 = w0.drew := ⟨_, rfl⟩
 rw [← gK] at gQ
 have wQ : z0.cell? ⟨w.heap.size, 0, none⟩ = some (.slice av nv cv) ∧ z0.cell? ⟨w.heap.size, 1, none⟩ = some (.slice ao no co) := ⟨(gQ.cell (p := ⟨w.heap.size, 0, none⟩) (by show w.heap.size < _; omega)).trans c0, (gQ.cell (p := ⟨w.heap.size, 1, none⟩) (by show w.heap.size < _; omega)).trans c1⟩
 go_wp2_with fail
 refine wp_region_held_drew (S := fun w' => w'.cell? ⟨w.heap.size, 0, none⟩ = some (.slice av nv cv) ∧ w'.cell? ⟨w.heap.size, 1, none⟩ = some (.slice ao no co)) (by kernel_rfl) (by rw [← gK]; exact wQ) (fun aL => ?_)
 rw [← gK]
 clear gK aL
 refine tj 1 ?_
 refine tj 2 ?_
 refine tj 5 ?_
 refine tj 6 ?_
 refine wpAnyH_ready (rs := [0, 4]) (by kernel_rfl) (by simp) ?_
 refine AllReadyH.cons rfl (fun K hK => ?_) ?_
 ·skip
  have aG : Below w0.heap.size w0 (z0.alloc (.cells #[] 2)) := gQ.alloc gQ.size _; have hV1 : (z0.alloc (.cells #[] 2)).ownsRow w0.heap.size 2 1 (.slice (some ⟨z0.heap.size, 0, none⟩) 0 0) 0 (([] : List Int).map (Value.int .i64)) := World.ownsRow_made z0 #[] 0 gQ.size (by unfold maxLen; omega) rfl
  go_simp
  refine hK.out _ _ ⟨(aG.cell (p := ⟨w.heap.size, 0, none⟩) (by show w.heap.size < _; omega)).trans c0, (aG.cell (p := ⟨w.heap.size, 1, none⟩) (by show w.heap.size < _; omega)).trans c1⟩ (fun aG6 => ?_)
  clear hK K
  (try simp only [Act.put, u1, u2, u3])
  generalize z0.alloc (.cells #[] 2) = z1 at aG6 aG hV1 ⊢; refine wpAnyH_ready (rs := [3, 4]) (by kernel_rfl) (by simp) ?_
  refine AllReadyH.cons rfl (fun K hK => ?_) ?_
  ·skip
   obtain ⟨vA2, z2, hrun, hW, iF⟩ := aBv z1 w0.heap.size _ 0 [] hV1 B av nv cv xs (HV.out.below aG (by omega)) HCV.out (by omega) aG.size
   have hV2 : z2.ownsRow w0.heap.size 2 1 vA2 nv (xs.map (Value.int .i64)) := by simpa using hW
   obtain ⟨va, vc, rfl, hca⟩ := lT hV2; have aM := aG.grown iF aG.size (fun j hj => (hV1.lt j hj).1)
   rw [if_pos (by rfl)]
   refine uH _ _ _ rfl _ _ rfl rfl hrun ?_
   refine hK.out _ _ ⟨(aM.cell (p := ⟨w.heap.size, 0, none⟩) (by show w.heap.size < _; omega)).trans c0, (aM.cell (p := ⟨w.heap.size, 1, none⟩) (by show w.heap.size < _; omega)).trans c1⟩ (fun bS => ?_)
   clear hK K hrun hW iF
   (try simp only [Act.put, u1, u2, u3])
   refine rk 4 rfl (fun K hK => ?_)
   have aV : Below w0.heap.size w0 (z2.alloc (.cells #[] 50)) := aM.alloc aM.size _; have hO3 : (z2.alloc (.cells #[] 50)).ownsRow w0.heap.size 50 8 (.slice (some ⟨z2.heap.size, 0, none⟩) 0 0) 0 (aF []) := World.ownsRow_made z2 #[] 0 aM.size (by unfold maxLen; omega) rfl
   have hV3 := hV2.alloc (.cells #[] 50)
   go_simp
   refine hK.out _ _ ⟨(aV.cell (p := ⟨w.heap.size, 0, none⟩) (by show w.heap.size < _; omega)).trans c0, (aV.cell (p := ⟨w.heap.size, 1, none⟩) (by show w.heap.size < _; omega)).trans c1⟩ (fun dQ => ?_)
   clear hK K
   (try simp only [Act.put, u1, u2, u3])
   generalize z2.alloc (.cells #[] 50) = z3 at dQ aV hO3 hV3 ⊢; refine rk 7 rfl (fun K hK => ?_)
   obtain ⟨vA4, z4, hrun, hW, iF⟩ := oI z3 w0.heap.size _ 0 [] hO3 B ao no co l (HO.out.below aV (by omega)) gS.out (by omega) aV.size
   have hO4 : z4.ownsRow w0.heap.size 50 8 vA4 no (aF l) := by simpa using hW
   obtain ⟨oa, oc, rfl, cB⟩ := lT hO4; have hV4 := hV3.kept iF (P5 hV3 hO3 (by decide))
   have dJ := aV.grown iF aV.size (fun j hj => (hO3.lt j hj).1)
   rw [if_pos (by rfl)]
   refine uH _ _ _ rfl _ _ rfl rfl hrun ?_
   refine hK.out _ _ ⟨(dJ.cell (p := ⟨w.heap.size, 0, none⟩) (by show w.heap.size < _; omega)).trans c0, (dJ.cell (p := ⟨w.heap.size, 1, none⟩) (by show w.heap.size < _; omega)).trans c1⟩ (fun lC => ?_)
   clear hK K hrun hW iF
   (try simp only [Act.put, u1, u2, u3])
   refine tj 8 ?_
   have vW := aPo ((dJ.block _ dC).trans HR.out); obtain ⟨r0, r1⟩ := pair_cells vW.out; obtain ⟨f0, f1⟩ := aB vW.out; have HP : Hid (Own z4 w0.heap.size z4.heap.size va nv xs ∧ bB z4 w0.heap.size z4.heap.size oa no l) := ⟨sJ hV4 aPq, fV hO4 aPq⟩; have pQ : Below (w.heap.size + 1) w0 ((z4.setCell ⟨w.heap.size + 1, 0, none⟩ (.slice va nv vc)).setCell ⟨w.heap.size + 1, 1, none⟩ (.slice oa no oc)) := ((show Below (w.heap.size + 1) w0 z4 from dJ.mono (by omega)).setCell (p := ⟨w.heap.size + 1, 0, none⟩) aPq _).setCell (p := ⟨w.heap.size + 1, 1, none⟩) aPq _
   have lJ : ∀ j, j ≠ w.heap.size + 1 → ((z4.setCell ⟨w.heap.size + 1, 0, none⟩ (.slice va nv vc)).setCell ⟨w.heap.size + 1, 1, none⟩ (.slice oa no oc)).heap[j]? = z4.heap[j]? := fun j hj => aD _ _ hj
   have tG : Hid (((z4.setCell ⟨w.heap.size + 1, 0, none⟩ (.slice va nv vc)).setCell ⟨w.heap.size + 1, 1, none⟩ (.slice oa no oc)).heap[w.heap.size + 1]? = some (.cells #[.slice va nv vc, .slice oa no oc] 27 (0, 0))) := cE _ _ vW.out; have M7 : ((z4.setCell ⟨w.heap.size + 1, 0, none⟩ (.slice va nv vc)).setCell ⟨w.heap.size + 1, 1, none⟩ (.slice oa no oc)).heap.size = z4.heap.size := aY _ _ _ _; refine rk 9 rfl (fun K hK => ?_)
   go_simp
   refine hK.out _ _ ⟨(pQ.cell (p := ⟨w.heap.size, 0, none⟩) (by show w.heap.size < _; omega)).trans c0, (pQ.cell (p := ⟨w.heap.size, 1, none⟩) (by show w.heap.size < _; omega)).trans c1⟩ (fun aG5 => ?_)
   clear hK K
   (try simp only [Act.put, u1, u2, u3])
   refine wpAnyH_done (by kernel_rfl) ?_ _
   generalize (z4.setCell ⟨w.heap.size + 1, 0, none⟩ (.slice va nv vc)).setCell ⟨w.heap.size + 1, 1, none⟩ (.slice oa no oc) = wf at tG pQ lJ M7 ⊢; obtain ⟨q0, q1⟩ := pair_cells tG.out; have sA : Hid (Own wf w.heap.size wf.heap.size va nv xs ∧ bB wf w.heap.size wf.heap.size oa no l) := ⟨((HP.out.1.kept (w' := wf) fun j h1 h2 => lJ j (by omega)).more (by omega) (by omega)), ((HP.out.2.kept (w' := wf) fun j h1 h2 => lJ j (by omega)).more (by omega) (by omega))⟩
   have bQ := aPo (HB.out.trans (pQ.mono (by omega)))
   have iJ := aPo hca; have oM := aPo cB; clear lJ M7 HP vW r0 r1 f0 f1 pQ hca cB; go_wp2
   exact bodyPost_ret (v := .agg #[.slice va nv vc, .slice oa no oc]) (by simp [results, Tryz.results47, go_sem, q0, q1]) rfl ⟨va, vc, oa, oc, by rw [uA.out, nV.out], by rw [uA.out]; exact sA.out.1, by rw [nV.out]; exact sA.out.2, bQ.out, by rw [uA.out]; exact iJ.out, by rw [nV.out]; exact oM.out⟩
  refine AllReadyH.cons rfl (fun K hK => ?_) AllReadyH.nil
  have bA : Below w0.heap.size w0 (z1.alloc (.cells #[] 50)) := aG.alloc aG.size _; have hO5 : (z1.alloc (.cells #[] 50)).ownsRow w0.heap.size 50 8 (.slice (some ⟨z1.heap.size, 0, none⟩) 0 0) 0 (aF []) := World.ownsRow_made z1 #[] 0 aG.size (by unfold maxLen; omega) rfl
  have hV5 := hV1.alloc (.cells #[] 50)
  go_simp
  refine hK.out _ _ ⟨(bA.cell (p := ⟨w.heap.size, 0, none⟩) (by show w.heap.size < _; omega)).trans c0, (bA.cell (p := ⟨w.heap.size, 1, none⟩) (by show w.heap.size < _; omega)).trans c1⟩ (fun jN => ?_)
  clear hK K
  (try simp only [Act.put, u1, u2, u3])
  generalize z1.alloc (.cells #[] 50) = z5 at jN bA hO5 hV5 ⊢; refine rk 3 rfl (fun K hK => ?_)
  obtain ⟨vA6, z6, hrun, hW, iF⟩ := aBv z5 w0.heap.size _ 0 [] hV5 B av nv cv xs (HV.out.below bA (by omega)) HCV.out (by omega) bA.size
  have hV6 : z6.ownsRow w0.heap.size 2 1 vA6 nv (xs.map (Value.int .i64)) := by simpa using hW
  obtain ⟨va, vc, rfl, hca⟩ := lT hV6; have hO6 := hO5.kept iF (P5 hO5 hV5 (by decide))
  have lK := bA.grown iF bA.size (fun j hj => (hV5.lt j hj).1)
  rw [if_pos (by rfl)]
  refine uH _ _ _ rfl _ _ rfl rfl hrun ?_
  refine hK.out _ _ ⟨(lK.cell (p := ⟨w.heap.size, 0, none⟩) (by show w.heap.size < _; omega)).trans c0, (lK.cell (p := ⟨w.heap.size, 1, none⟩) (by show w.heap.size < _; omega)).trans c1⟩ (fun qT => ?_)
  clear hK K hrun hW iF
  (try simp only [Act.put, u1, u2, u3])
  refine rk 7 rfl (fun K hK => ?_)
  obtain ⟨vA7, z7, hrun, hW, iF⟩ := oI z6 w0.heap.size _ 0 [] hO6 B ao no co l (HO.out.below lK (by omega)) gS.out (by omega) lK.size
  have hO7 : z7.ownsRow w0.heap.size 50 8 vA7 no (aF l) := by simpa using hW
  obtain ⟨oa, oc, rfl, cB⟩ := lT hO7; have hV7 := hV6.kept iF (P5 hV6 hO6 (by decide))
  have N5 := lK.grown iF lK.size (fun j hj => (hO6.lt j hj).1)
  rw [if_pos (by rfl)]
  refine uH _ _ _ rfl _ _ rfl rfl hrun ?_
  refine hK.out _ _ ⟨(N5.cell (p := ⟨w.heap.size, 0, none⟩) (by show w.heap.size < _; omega)).trans c0, (N5.cell (p := ⟨w.heap.size, 1, none⟩) (by show w.heap.size < _; omega)).trans c1⟩ (fun kF => ?_)
  clear hK K hrun hW iF
  (try simp only [Act.put, u1, u2, u3])
  refine tj 8 ?_
  have vW := aPo ((N5.block _ dC).trans HR.out); obtain ⟨r0, r1⟩ := pair_cells vW.out; obtain ⟨f0, f1⟩ := aB vW.out; have HP : Hid (Own z7 w0.heap.size z7.heap.size va nv xs ∧ bB z7 w0.heap.size z7.heap.size oa no l) := ⟨sJ hV7 aPq, fV hO7 aPq⟩; have pQ : Below (w.heap.size + 1) w0 ((z7.setCell ⟨w.heap.size + 1, 0, none⟩ (.slice va nv vc)).setCell ⟨w.heap.size + 1, 1, none⟩ (.slice oa no oc)) := ((show Below (w.heap.size + 1) w0 z7 from N5.mono (by omega)).setCell (p := ⟨w.heap.size + 1, 0, none⟩) aPq _).setCell (p := ⟨w.heap.size + 1, 1, none⟩) aPq _
  have lJ : ∀ j, j ≠ w.heap.size + 1 → ((z7.setCell ⟨w.heap.size + 1, 0, none⟩ (.slice va nv vc)).setCell ⟨w.heap.size + 1, 1, none⟩ (.slice oa no oc)).heap[j]? = z7.heap[j]? := fun j hj => aD _ _ hj
  have tG : Hid (((z7.setCell ⟨w.heap.size + 1, 0, none⟩ (.slice va nv vc)).setCell ⟨w.heap.size + 1, 1, none⟩ (.slice oa no oc)).heap[w.heap.size + 1]? = some (.cells #[.slice va nv vc, .slice oa no oc] 27 (0, 0))) := cE _ _ vW.out; have M7 : ((z7.setCell ⟨w.heap.size + 1, 0, none⟩ (.slice va nv vc)).setCell ⟨w.heap.size + 1, 1, none⟩ (.slice oa no oc)).heap.size = z7.heap.size := aY _ _ _ _; refine rk 9 rfl (fun K hK => ?_)
  go_simp
  refine hK.out _ _ ⟨(pQ.cell (p := ⟨w.heap.size, 0, none⟩) (by show w.heap.size < _; omega)).trans c0, (pQ.cell (p := ⟨w.heap.size, 1, none⟩) (by show w.heap.size < _; omega)).trans c1⟩ (fun aG5 => ?_)
  clear hK K
  (try simp only [Act.put, u1, u2, u3])
  refine wpAnyH_done (by kernel_rfl) ?_ _
  generalize (z7.setCell ⟨w.heap.size + 1, 0, none⟩ (.slice va nv vc)).setCell ⟨w.heap.size + 1, 1, none⟩ (.slice oa no oc) = wf at tG pQ lJ M7 ⊢; obtain ⟨q0, q1⟩ := pair_cells tG.out; have sA : Hid (Own wf w.heap.size wf.heap.size va nv xs ∧ bB wf w.heap.size wf.heap.size oa no l) := ⟨((HP.out.1.kept (w' := wf) fun j h1 h2 => lJ j (by omega)).more (by omega) (by omega)), ((HP.out.2.kept (w' := wf) fun j h1 h2 => lJ j (by omega)).more (by omega) (by omega))⟩
  have bQ := aPo (HB.out.trans (pQ.mono (by omega)))
  have iJ := aPo hca; have oM := aPo cB; clear lJ M7 HP vW r0 r1 f0 f1 pQ hca cB; go_wp2
  exact bodyPost_ret (v := .agg #[.slice va nv vc, .slice oa no oc]) (by simp [results, Tryz.results47, go_sem, q0, q1]) rfl ⟨va, vc, oa, oc, by rw [uA.out, nV.out], by rw [uA.out]; exact sA.out.1, by rw [nV.out]; exact sA.out.2, bQ.out, by rw [uA.out]; exact iJ.out, by rw [nV.out]; exact oM.out⟩
 refine AllReadyH.cons rfl (fun K hK => ?_) AllReadyH.nil
 have sZ : Below w0.heap.size w0 (z0.alloc (.cells #[] 50)) := gQ.alloc gQ.size _
 have hO8 : (z0.alloc (.cells #[] 50)).ownsRow w0.heap.size 50 8 (.slice (some ⟨z0.heap.size, 0, none⟩) 0 0) 0 (aF []) := World.ownsRow_made z0 #[] 0 gQ.size (by unfold maxLen; omega) rfl
 go_simp
 refine hK.out _ _ ⟨(sZ.cell (p := ⟨w.heap.size, 0, none⟩) (by show w.heap.size < _; omega)).trans c0, (sZ.cell (p := ⟨w.heap.size, 1, none⟩) (by show w.heap.size < _; omega)).trans c1⟩ (fun tA => ?_)
 clear hK K
 (try simp only [Act.put, u1, u2, u3])
 generalize z0.alloc (.cells #[] 50) = z8 at tA sZ hO8 ⊢
 refine rk 0 rfl (fun K hK => ?_)
 have mW : Below w0.heap.size w0 (z8.alloc (.cells #[] 2)) := sZ.alloc sZ.size _
 have hV9 : (z8.alloc (.cells #[] 2)).ownsRow w0.heap.size 2 1 (.slice (some ⟨z8.heap.size, 0, none⟩) 0 0) 0 (([] : List Int).map (Value.int .i64)) := World.ownsRow_made z8 #[] 0 sZ.size (by unfold maxLen; omega) rfl
 have hO9 := hO8.alloc (.cells #[] 2)
 go_simp
 refine hK.out _ _ ⟨(mW.cell (p := ⟨w.heap.size, 0, none⟩) (by show w.heap.size < _; omega)).trans c0, (mW.cell (p := ⟨w.heap.size, 1, none⟩) (by show w.heap.size < _; omega)).trans c1⟩ (fun oH => ?_)
 clear hK K
 (try simp only [Act.put, u1, u2, u3])
 generalize z8.alloc (.cells #[] 2) = z9 at oH mW hV9 hO9 ⊢
 refine rk 3 rfl (fun K hK => ?_)
 obtain ⟨aNb, z10, hrun, hW, iF⟩ := aBv z9 w0.heap.size _ 0 [] hV9 B av nv cv xs (HV.out.below mW (by omega)) HCV.out (by omega) mW.size
 have aIF : z10.ownsRow w0.heap.size 2 1 aNb nv (xs.map (Value.int .i64)) := by simpa using hW
 obtain ⟨va, vc, rfl, hca⟩ := lT aIF
 have aIH := hO9.kept iF (P5 hO9 hV9 (by decide))
 have aBr := mW.grown iF mW.size (fun j hj => (hV9.lt j hj).1)
 rw [if_pos (by rfl)]
 refine uH _ _ _ rfl _ _ rfl rfl hrun ?_
 refine hK.out _ _ ⟨(aBr.cell (p := ⟨w.heap.size, 0, none⟩) (by show w.heap.size < _; omega)).trans c0, (aBr.cell (p := ⟨w.heap.size, 1, none⟩) (by show w.heap.size < _; omega)).trans c1⟩ (fun aOv => ?_)
 clear hK K hrun hW iF
 (try simp only [Act.put, u1, u2, u3])
 refine rk 7 rfl (fun K hK => ?_)
 obtain ⟨aNa, E5, hrun, hW, iF⟩ := oI z10 w0.heap.size _ 0 [] aIH B ao no co l (HO.out.below aBr (by omega)) gS.out (by omega) aBr.size
 have aLN : E5.ownsRow w0.heap.size 50 8 aNa no (aF l) := by simpa using hW
 obtain ⟨oa, oc, rfl, cB⟩ := lT aLN
 have aN4 := aIF.kept iF (P5 aIF aIH (by decide))
 have aFq := aBr.grown iF aBr.size (fun j hj => (aIH.lt j hj).1)
 rw [if_pos (by rfl)]
 refine uH _ _ _ rfl _ _ rfl rfl hrun ?_
 refine hK.out _ _ ⟨(aFq.cell (p := ⟨w.heap.size, 0, none⟩) (by show w.heap.size < _; omega)).trans c0, (aFq.cell (p := ⟨w.heap.size, 1, none⟩) (by show w.heap.size < _; omega)).trans c1⟩ (fun aOu => ?_)
 clear hK K hrun hW iF
 (try simp only [Act.put, u1, u2, u3])
 refine tj 8 ?_
 have vW := aPo ((aFq.block _ dC).trans HR.out)
 obtain ⟨r0, r1⟩ := pair_cells vW.out
 obtain ⟨f0, f1⟩ := aB vW.out
 have HP : Hid (Own E5 w0.heap.size E5.heap.size va nv xs ∧ bB E5 w0.heap.size E5.heap.size oa no l) := ⟨sJ aN4 aPq, fV aLN aPq⟩
 have pQ : Below (w.heap.size + 1) w0 ((E5.setCell ⟨w.heap.size + 1, 0, none⟩ (.slice va nv vc)).setCell ⟨w.heap.size + 1, 1, none⟩ (.slice oa no oc)) := ((show Below (w.heap.size + 1) w0 E5 from aFq.mono (by omega)).setCell (p := ⟨w.heap.size + 1, 0, none⟩) aPq _).setCell (p := ⟨w.heap.size + 1, 1, none⟩) aPq _
 have lJ : ∀ j, j ≠ w.heap.size + 1 → ((E5.setCell ⟨w.heap.size + 1, 0, none⟩ (.slice va nv vc)).setCell ⟨w.heap.size + 1, 1, none⟩ (.slice oa no oc)).heap[j]? = E5.heap[j]? := fun j hj => aD _ _ hj
 have tG : Hid (((E5.setCell ⟨w.heap.size + 1, 0, none⟩ (.slice va nv vc)).setCell ⟨w.heap.size + 1, 1, none⟩ (.slice oa no oc)).heap[w.heap.size + 1]? = some (.cells #[.slice va nv vc, .slice oa no oc] 27 (0, 0))) := cE _ _ vW.out
 have M7 : ((E5.setCell ⟨w.heap.size + 1, 0, none⟩ (.slice va nv vc)).setCell ⟨w.heap.size + 1, 1, none⟩ (.slice oa no oc)).heap.size = E5.heap.size := aY _ _ _ _
 refine rk 9 rfl (fun K hK => ?_)
 go_simp
 refine hK.out _ _ ⟨(pQ.cell (p := ⟨w.heap.size, 0, none⟩) (by show w.heap.size < _; omega)).trans c0, (pQ.cell (p := ⟨w.heap.size, 1, none⟩) (by show w.heap.size < _; omega)).trans c1⟩ (fun aG5 => ?_)
 clear hK K
 (try simp only [Act.put, u1, u2, u3])
 refine wpAnyH_done (by kernel_rfl) ?_ _
 generalize (E5.setCell ⟨w.heap.size + 1, 0, none⟩ (.slice va nv vc)).setCell ⟨w.heap.size + 1, 1, none⟩ (.slice oa no oc) = wf at tG pQ lJ M7 ⊢
 obtain ⟨q0, q1⟩ := pair_cells tG.out
 have sA : Hid (Own wf w.heap.size wf.heap.size va nv xs ∧ bB wf w.heap.size wf.heap.size oa no l) := ⟨((HP.out.1.kept (w' := wf) fun j h1 h2 => lJ j (by omega)).more (by omega) (by omega)), ((HP.out.2.kept (w' := wf) fun j h1 h2 => lJ j (by omega)).more (by omega) (by omega))⟩
 have bQ := aPo (HB.out.trans (pQ.mono (by omega)))
 have iJ := aPo hca
 have oM := aPo cB
 clear lJ M7 HP vW r0 r1 f0 f1 pQ hca cB
 go_wp2
 exact bodyPost_ret (v := .agg #[.slice va nv vc, .slice oa no oc]) (by simp [results, Tryz.results47, go_sem, q0, q1]) rfl ⟨va, vc, oa, oc, by rw [uA.out, nV.out], by rw [uA.out]; exact sA.out.1, by rw [nV.out]; exact sA.out.2, bQ.out, by rw [uA.out]; exact iJ.out, by rw [nV.out]; exact oM.out⟩
set_option maxHeartbeats 10000000 in
theorem aEC (w : World) (B : Nat) (av ao : Option Addr) (nv cv no co : Nat) (l : List aA) (h : bP w B ao no l) (hB : B ≤ w.heap.size) (hn : no ≤ 1048576) : Calls Tryz.prog 120 #[.agg #[.slice av nv cv, .slice ao no co]] w fun e w' => e = .returned (.int .i64 (cZ l l.length)) ∧ Below w.heap.size w w' := by
 have bD : Below w.heap.size w (w.alloc (.cells #[.slice av nv cv, .slice ao no co] 27)) := (Below.refl _ w).alloc aPq _
 have HO := aPo (h.below bD hB)
 have HB := aPo bD
 have HX := aPo (bX (Below.refl _ (w.alloc (.cells #[.slice av nv cv, .slice ao no co] 27))))
 have HL := aPo h.1
 clear h bD
 go_enter Tryz.func120, Tryz.ntmps120
 go_wp2_with fail
 generalize w.alloc (.cells #[.slice av nv cv, .slice ao no co] 27) = w0 at HO HB HX ⊢
 obtain ⟨c0, c1⟩ := pair_cells HX.out
 go_wp2
 go_loop [3, 4] (fun n i => ∃ k : Nat, k ≤ no ∧ i = .int .i64 k ∧ n = .int .i64 (cZ l k)) (fun _ i => no - (intOf i).toNat)
 case atStart => exact ⟨0, Nat.zero_le _, rfl, rfl⟩
 case round =>
  obtain ⟨k, hk, rfl, rfl⟩ := hrel
  by_cases aJ : k < no
  ·obtain ⟨b, off, rfl, hb, ho⟩ := HO.out.2 k aJ
   obtain ⟨d0, d1, d2, d3, d4, d5, d6, d7⟩ := ho; have HU : Hid (cZ l (k + 1) = max (cZ l k) (l.getD k aA.zero).stamp) := rfl; generalize l.getD k aA.zero = x at HU d0 d1 d2 d3 d4 d5 d6 d7; go_wp2
   go_round
   case rel => exact ⟨k + 1, by omega, by go_num, by rw [HU.out]⟩
   case measure => simp [intOf]; omega
  ·obtain rfl : k = no := by omega
   go_wp2
   go_ret
   exact ⟨by rw [HL.out]; rfl, HB.out⟩
theorem dY (w : World) (b i j : Nat) (u v : Value) : Below b w ((w.setCell ⟨b, i, none⟩ u).setCell ⟨b, j, none⟩ v) := ((Below.refl b w).setCell (p := ⟨b, i, none⟩) aPq u).setCell (p := ⟨b, j, none⟩) aPq v
theorem gN (w : World) (b i : Nat) (u : Value) : Below b w (w.setCell ⟨b, i, none⟩ u) := (Below.refl b w).setCell (p := ⟨b, i, none⟩) aPq u
structure iR (w w1 : World) (x y z : Array Value) : Prop where
 fst : w1.heap[w.heap.size]? = some (.cells x 27 (0, 0))
 snd : w1.heap[w.heap.size + 1]? = some (.cells y 50 (0, 0))
 res : w1.heap[w.heap.size + 1 + 1]? = some (.cells z 27 (0, 0))
 bel : Below w.heap.size w w1
theorem iR.mk0 (w : World) (x y z : Array Value) : iR w (((w.alloc (.cells x 27)).alloc (.cells y 50)).alloc (.cells z 27)) x y z := by
 have e1 : (w.alloc (.cells x 27)).heap.size = w.heap.size + 1 := by simp
 have e2 : ((w.alloc (.cells x 27)).alloc (.cells y 50)).heap.size = w.heap.size + 1 + 1 := by simp
 refine ⟨?_, ?_, ?_, (((Below.refl _ w).alloc aPq _).alloc (by simp) _).alloc (by simp; omega) _⟩
 ·exact ((Below.heap_alloc _ _ _ (by omega)).trans (Below.heap_alloc _ _ _ (by omega))).trans (heap_alloc_new _ _)
 ·rw [← e1]; exact (Below.heap_alloc _ _ _ (by omega)).trans (heap_alloc_new _ _)
 ·rw [← e2]; exact heap_alloc_new _ _
theorem iR.next {w w1 w2 : World} {x y z : Array Value} (h : iR w w1 x y z) (hb : Below w1.heap.size w1 w2) : iR w w2 x y z :=
 ⟨(hb.block _ (aPp h.fst).1).trans h.fst, (hb.block _ (aPp h.snd).1).trans h.snd, (hb.block _ (aPp h.res).1).trans h.res, h.bel.trans (hb.mono h.bel.size)⟩
theorem iR.put {w w1 : World} {x y z : Array Value} (h : iR w w1 x y z) (i : Nat) (v : Value) : iR w (w1.setCell ⟨w.heap.size + 1, i, none⟩ v) x (y.setIfInBounds i v) z :=
 ⟨(heap_setCell_other _ _ _ _ (by show w.heap.size ≠ w.heap.size + 1; omega)).trans h.fst, heap_setCell_same _ _ _ _ _ _ h.snd, (heap_setCell_other _ _ _ _ (by show w.heap.size + 1 + 1 ≠ w.heap.size + 1; omega)).trans h.res, h.bel.setCell (p := ⟨w.heap.size + 1, i, none⟩) (by show _ ≤ w.heap.size + 1; omega) v⟩
theorem iR.far {w w1 w2 : World} {x y z : Array Value} (h : iR w w1 x y z) (hb : Below (w.heap.size + 1 + 1 + 1) w1 w2) : iR w w2 x y z :=
 ⟨(hb.block _ (by omega)).trans h.fst, (hb.block _ (by omega)).trans h.snd, (hb.block _ (by omega)).trans h.res, h.bel.trans (hb.mono (by omega))⟩
theorem iR.lt {w w1 : World} {x y z : Array Value} (h : iR w w1 x y z) : w.heap.size + 1 + 1 < w1.heap.size := (aPp h.res).1
theorem iR.set2 {w w1 : World} {x y : Array Value} {z0 z1 : Value} (h : iR w w1 x y #[z0, z1]) (u v : Value) :
  ((w1.setCell ⟨w.heap.size + 1 + 1, 0, none⟩ u).setCell ⟨w.heap.size + 1 + 1, 1, none⟩ v).heap[w.heap.size + 1 + 1]? = some (.cells #[u, v] 27 (0, 0)) ∧ Below (w.heap.size + 1 + 1) w1 ((w1.setCell ⟨w.heap.size + 1 + 1, 0, none⟩ u).setCell ⟨w.heap.size + 1 + 1, 1, none⟩ v) :=
 ⟨cE _ _ h.res, dY _ _ _ _ _ _⟩
def aI2 (ok : Bool) (zs : List Int) (L : List aA) (w : World) (e : Ending) (w' : World) : Prop := ∃ va vc oa oc, e = .returned (.tuple #[.agg #[.slice va zs.length vc, .slice oa L.length oc], .bool ok]) ∧ Own w' w.heap.size w'.heap.size va zs.length zs ∧ bB w' w.heap.size w'.heap.size oa L.length L ∧ Below w.heap.size w w' ∧ bM va zs.length vc ∧ bM oa L.length oc
theorem aBe (w : World) (o : aA) : bP (w.alloc (.cells #[.int .i64 o.dev, .int .i64 o.seq, .int .i64 o.stamp, .int .i64 o.kind, .string o.item, .int .i64 o.qty, .int .i64 o.level, .int .i64 o.undos] 50)) (w.heap.size + 1) (some ⟨w.heap.size, 0, none⟩) 1 [o] := by
 refine ⟨rfl, fun i hi => ⟨w.heap.size, 0, rfl, Nat.lt_succ_self _, ?_⟩⟩
 obtain rfl : i = 0 := by omega
 exact aN (heap_alloc_new w _)
theorem nX (w : World) (lo hi : Nat) (a : Option Addr) : Own w lo hi a 0 [] := ⟨rfl, fun h => absurd h (by omega)⟩
set_option maxHeartbeats 40000000 in
theorem aKk (w : World) (B : Nat) (av ao : Option Addr) (cv no co d : Nat) (xs : List Int) (l : List aA) (o : aA) (hx : Ints w B av 4 xs) (h : bP w B ao no l) (hB : B ≤ w.heap.size) (bW : av = none → cv = 0) (cB : bM ao no co) (hd : d < 4) (hn : no ≤ 100000) (mV : 0 ≤ xs.getD d 0 ∧ xs.getD d 0 ≤ 1000) (dF : ∀ i, i < l.length → (aC l i).stamp ≤ 200000) (hi : o.item.size ≤ 1048576) (hok : (aQ xs l d o).ok = false) :
  Calls Tryz.prog 90 #[.agg #[.slice av 4 cv, .slice ao no co], .int .i64 (d : Int), .agg #[.int .i64 o.dev, .int .i64 o.seq, .int .i64 o.stamp, .int .i64 o.kind, .string o.item, .int .i64 o.qty, .int .i64 o.level, .int .i64 o.undos]] w (aI2 false [] [] w) := by
 have hT := iR.mk0 w #[.slice av 4 cv, .slice ao no co] #[.int .i64 o.dev, .int .i64 o.seq, .int .i64 o.stamp, .int .i64 o.kind, .string o.item, .int .i64 o.qty, .int .i64 o.level, .int .i64 o.undos] #[.slice none 0 0, .slice none 0 0]
 have HV := aPo (hx.below hT.bel hB)
 have HO := aPo (h.below hT.bel hB)
 have HT := aPo hT
 have uA := aPo hx.1
 have nV := aPo h.1
 have HCV := aPo bW
 have gS := aPo cB
 have wQ := oN l l.length
 have bG := sH (N := 200000) (by omega) dF l.length aPq
 have V9 : Hid (dM (d : Int) (xs.getD d 0 + 1) (cZ l l.length + 1) o.kind o.item o.qty o.level o.undos = false) := hok
 have O4 : Hid (aQ xs l d o = ⟨(d : Int), xs.getD d 0 + 1, cZ l l.length + 1, o.kind, o.item, o.qty, o.level, o.undos⟩) := rfl
 have zN : Hid (eE xs d = xs.set d (xs.getD d 0 + 1)) := rfl
 clear hx h hT dF hok bW cB
 go_enter Tryz.func90, Tryz.ntmps90
 go_upto_region 1 with fail
 generalize ((w.alloc (.cells #[.slice av 4 cv, .slice ao no co] 27)).alloc (.cells #[.int .i64 o.dev, .int .i64 o.seq, .int .i64 o.stamp, .int .i64 o.kind, .string o.item, .int .i64 o.qty, .int .i64 o.level, .int .i64 o.undos] 50)).alloc (.cells #[.slice none 0 0, .slice none 0 0] 27) = w0 at HV HO HT ⊢
 obtain ⟨b, off, rfl, hb, hc⟩ := HV.out.2 d hd
 obtain ⟨x, pM⟩ : ∃ x, x = xs.getD d 0 := ⟨_, rfl⟩
 obtain ⟨S, eK⟩ : ∃ S, S = cZ l l.length := ⟨_, rfl⟩
 rw [← pM, ← eK] at V9 O4
 rw [← pM] at hc mV zN
 rw [← eK] at wQ bG
 have HSE := aPo eK
 obtain ⟨qD, hx1⟩ := mV
 clear pM eK
 obtain ⟨q0, q1⟩ := pair_cells HT.out.fst
 obtain ⟨o0, o1, o2, o3, o4, o5, o6, o7⟩ := aN HT.out.snd
 obtain ⟨f0, f1, f2, f3, f4, f5, f6, f7⟩ := cP HT.out.snd
 have hdi : (d : Int) < 4 := by omega
 have jW := HT.out.lt
 have vY := aPo ((HT.out.put 0 (.int .i64 (d : Int))).put 1 (.int .i64 (x + 1)))
 have G0 : Below (w.heap.size + 1) w0 ((w0.setCell ⟨w.heap.size + 1, 0, none⟩ (.int .i64 (d : Int))).setCell ⟨w.heap.size + 1, 1, none⟩ (.int .i64 (x + 1))) := dY _ _ _ _ _ _
 have kQ := aPo (HV.out.below G0 (by omega))
 have gR := aPo (HO.out.below G0 (by omega))
 have hl2 := vY.out.lt
 clear G0
 go_upto_region 3 with fail
 generalize (w0.setCell ⟨w.heap.size + 1, 0, none⟩ (.int .i64 (d : Int))).setCell ⟨w.heap.size + 1, 1, none⟩ (.int .i64 (x + 1)) = w2 at vY kQ gR hl2 ⊢
 clear q0 q1 o0 o1 o2 o3 o4 o5 o6 o7 f0 f1 f2 f3 f4 f5 f6 f7 hc HV HO HT jW
 obtain ⟨q0, q1⟩ := pair_cells vY.out.fst
 go_wp2_with fail
 refine (aEC w2 B _ ao 4 cv no co l gR.out (by omega) (by omega)).mono ?_
 rintro e w3 ⟨rfl, aV⟩
 rw [← HSE.out]
 have HP3 := aPo (vY.out.next aV)
 have O2 := aPo (kQ.out.below aV (by omega))
 have wD := aPo (gR.out.below aV (by omega))
 have gO := aV.size
 clear aV vY kQ gR q0 q1
 obtain ⟨o0, o1, o2, o3, o4, o5, o6, o7⟩ := aN HP3.out.snd
 obtain ⟨f0, f1, f2, f3, f4, f5, f6, f7⟩ := cP HP3.out.snd
 have nT := aPo (HP3.out.put 2 (.int .i64 (S + 1)))
 have mC : Below (w.heap.size + 1) w3 (w3.setCell ⟨w.heap.size + 1, 2, none⟩ (.int .i64 (S + 1))) := gN _ _ _ _
 have qI := aPo (O2.out.below mC (by omega))
 have oW := aPo (wD.out.below mC (by omega))
 have pP : w.heap.size + 1 + 1 < (w3.setCell ⟨w.heap.size + 1, 2, none⟩ (.int .i64 (S + 1))).heap.size := nT.out.lt
 clear mC
 go_upto_region 4 with fail
 generalize w3.setCell ⟨w.heap.size + 1, 2, none⟩ (.int .i64 (S + 1)) = w4 at nT qI oW pP ⊢
 clear o0 o1 o2 o3 o4 o5 o6 o7 f0 f1 f2 f3 f4 f5 f6 f7 HP3 O2 wD gO
 obtain ⟨o0, o1, o2, o3, o4, o5, o6, o7⟩ := aN (show w4.heap[w.heap.size + 1]? = some (.cells #[.int .i64 (d : Int), .int .i64 (x + 1), .int .i64 (S + 1), .int .i64 o.kind, .string o.item, .int .i64 o.qty, .int .i64 o.level, .int .i64 o.undos] 50 (0, 0)) from nT.out.snd)
 go_wp2_with fail
 refine (l7 (d : Int) (x + 1) (S + 1) o.kind o.item o.qty o.level o.undos w4 hi).mono ?_
 rintro e w5 ⟨rfl, bA⟩
 rw [V9.out]
 have qV := aPo (nT.out.next bA)
 have HV5 := aPo (qI.out.below bA (by omega))
 have W3 := aPo (oW.out.below bA (by omega))
 have hl5 := qV.out.lt
 clear bA nT qI oW pP o0 o1 o2 o3 o4 o5 o6 o7
 obtain ⟨r0, r1⟩ := pair_cells qV.out.res
 obtain ⟨g0, g1⟩ := aB qV.out.res
 have bR := aPo (qV.out.set2 (.slice none 0 0) (.slice none 0 0)).1
 have eN := aPo (qV.out.bel.trans ((qV.out.set2 (.slice none 0 0) (.slice none 0 0)).2.mono (by omega)))
 go_wp2
 change bodyPost _ _ _ _ _ ((w5.setCell ⟨w.heap.size + 1 + 1, 0, none⟩ (.slice none 0 0)).setCell ⟨w.heap.size + 1 + 1, 1, none⟩ (.slice none 0 0))
 generalize (w5.setCell ⟨w.heap.size + 1 + 1, 0, none⟩ (.slice none 0 0)).setCell ⟨w.heap.size + 1 + 1, 1, none⟩ (.slice none 0 0) = wf at bR eN ⊢
 obtain ⟨q0, q1⟩ := pair_cells bR.out
 exact bodyPost_ret (v := .tuple #[.agg #[.slice none 0 0, .slice none 0 0], .bool false]) (by simp [results, Tryz.results90, go_sem, q0, q1]) rfl ⟨none, 0, none, 0, rfl, nX _ _ _ _, fH _ _ _ _, eN.out, cN, cN⟩
set_option maxHeartbeats 40000000 in
theorem aH0 (w : World) (B : Nat) (av ao : Option Addr) (cv no co d : Nat) (xs : List Int) (l : List aA) (o : aA) (hx : Ints w B av 4 xs) (h : bP w B ao no l) (hB : B ≤ w.heap.size) (bW : av = none → cv = 0) (cB : bM ao no co) (hd : d < 4) (hn : no ≤ 100000) (mV : 0 ≤ xs.getD d 0 ∧ xs.getD d 0 ≤ 1000) (dF : ∀ i, i < l.length → (aC l i).stamp ≤ 200000) (hi : o.item.size ≤ 1048576) (hok : (aQ xs l d o).ok = true) :
  Calls Tryz.prog 90 #[.agg #[.slice av 4 cv, .slice ao no co], .int .i64 (d : Int), .agg #[.int .i64 o.dev, .int .i64 o.seq, .int .i64 o.stamp, .int .i64 o.kind, .string o.item, .int .i64 o.qty, .int .i64 o.level, .int .i64 o.undos]] w (aI2 true (eE xs d) (cI l d (aQ xs l d o)) w) := by
 have hT := iR.mk0 w #[.slice av 4 cv, .slice ao no co] #[.int .i64 o.dev, .int .i64 o.seq, .int .i64 o.stamp, .int .i64 o.kind, .string o.item, .int .i64 o.qty, .int .i64 o.level, .int .i64 o.undos] #[.slice none 0 0, .slice none 0 0]
 have HV := aPo (hx.below hT.bel hB)
 have HO := aPo (h.below hT.bel hB)
 have HT := aPo hT
 have uA := aPo hx.1
 have nV := aPo h.1
 have HCV := aPo bW
 have gS := aPo cB
 have wQ := oN l l.length
 have bG := sH (N := 200000) (by omega) dF l.length aPq
 have V9 : Hid (dM (d : Int) (xs.getD d 0 + 1) (cZ l l.length + 1) o.kind o.item o.qty o.level o.undos = true) := hok
 have O4 : Hid (aQ xs l d o = ⟨(d : Int), xs.getD d 0 + 1, cZ l l.length + 1, o.kind, o.item, o.qty, o.level, o.undos⟩) := rfl
 have zN : Hid (eE xs d = xs.set d (xs.getD d 0 + 1)) := rfl
 clear hx h hT dF hok bW cB
 go_enter Tryz.func90, Tryz.ntmps90
 go_upto_region 1 with fail
 generalize ((w.alloc (.cells #[.slice av 4 cv, .slice ao no co] 27)).alloc (.cells #[.int .i64 o.dev, .int .i64 o.seq, .int .i64 o.stamp, .int .i64 o.kind, .string o.item, .int .i64 o.qty, .int .i64 o.level, .int .i64 o.undos] 50)).alloc (.cells #[.slice none 0 0, .slice none 0 0] 27) = w0 at HV HO HT ⊢
 obtain ⟨b, off, rfl, hb, hc⟩ := HV.out.2 d hd
 obtain ⟨x, pM⟩ : ∃ x, x = xs.getD d 0 := ⟨_, rfl⟩
 obtain ⟨S, eK⟩ : ∃ S, S = cZ l l.length := ⟨_, rfl⟩
 rw [← pM, ← eK] at V9 O4
 rw [← pM] at hc mV zN
 rw [← eK] at wQ bG
 have HSE := aPo eK
 obtain ⟨qD, hx1⟩ := mV
 clear pM eK
 obtain ⟨q0, q1⟩ := pair_cells HT.out.fst
 obtain ⟨o0, o1, o2, o3, o4, o5, o6, o7⟩ := aN HT.out.snd
 obtain ⟨f0, f1, f2, f3, f4, f5, f6, f7⟩ := cP HT.out.snd
 have hdi : (d : Int) < 4 := by omega
 have jW := HT.out.lt
 have vY := aPo ((HT.out.put 0 (.int .i64 (d : Int))).put 1 (.int .i64 (x + 1)))
 have G0 : Below (w.heap.size + 1) w0 ((w0.setCell ⟨w.heap.size + 1, 0, none⟩ (.int .i64 (d : Int))).setCell ⟨w.heap.size + 1, 1, none⟩ (.int .i64 (x + 1))) := dY _ _ _ _ _ _
 have kQ := aPo (HV.out.below G0 (by omega))
 have gR := aPo (HO.out.below G0 (by omega))
 have hl2 := vY.out.lt
 clear G0
 go_upto_region 3 with fail
 generalize (w0.setCell ⟨w.heap.size + 1, 0, none⟩ (.int .i64 (d : Int))).setCell ⟨w.heap.size + 1, 1, none⟩ (.int .i64 (x + 1)) = w2 at vY kQ gR hl2 ⊢
 clear q0 q1 o0 o1 o2 o3 o4 o5 o6 o7 f0 f1 f2 f3 f4 f5 f6 f7 hc HV HO HT jW
 obtain ⟨q0, q1⟩ := pair_cells vY.out.fst
 go_wp2_with fail
 refine (aEC w2 B _ ao 4 cv no co l gR.out (by omega) (by omega)).mono ?_
 rintro e w3 ⟨rfl, aV⟩
 rw [← HSE.out]
 have HP3 := aPo (vY.out.next aV)
 have O2 := aPo (kQ.out.below aV (by omega))
 have wD := aPo (gR.out.below aV (by omega))
 have gO := aV.size
 clear aV vY kQ gR q0 q1
 obtain ⟨o0, o1, o2, o3, o4, o5, o6, o7⟩ := aN HP3.out.snd
 obtain ⟨f0, f1, f2, f3, f4, f5, f6, f7⟩ := cP HP3.out.snd
 have nT := aPo (HP3.out.put 2 (.int .i64 (S + 1)))
 have mC : Below (w.heap.size + 1) w3 (w3.setCell ⟨w.heap.size + 1, 2, none⟩ (.int .i64 (S + 1))) := gN _ _ _ _
 have qI := aPo (O2.out.below mC (by omega))
 have oW := aPo (wD.out.below mC (by omega))
 have pP : w.heap.size + 1 + 1 < (w3.setCell ⟨w.heap.size + 1, 2, none⟩ (.int .i64 (S + 1))).heap.size := nT.out.lt
 clear mC
 go_upto_region 4 with fail
 generalize w3.setCell ⟨w.heap.size + 1, 2, none⟩ (.int .i64 (S + 1)) = w4 at nT qI oW pP ⊢
 clear o0 o1 o2 o3 o4 o5 o6 o7 f0 f1 f2 f3 f4 f5 f6 f7 HP3 O2 wD gO
 obtain ⟨o0, o1, o2, o3, o4, o5, o6, o7⟩ := aN (show w4.heap[w.heap.size + 1]? = some (.cells #[.int .i64 (d : Int), .int .i64 (x + 1), .int .i64 (S + 1), .int .i64 o.kind, .string o.item, .int .i64 o.qty, .int .i64 o.level, .int .i64 o.undos] 50 (0, 0)) from nT.out.snd)
 go_wp2_with fail
 refine (l7 (d : Int) (x + 1) (S + 1) o.kind o.item o.qty o.level o.undos w4 hi).mono ?_
 rintro e w5 ⟨rfl, bA⟩
 rw [V9.out]
 have qV := aPo (nT.out.next bA)
 have HV5 := aPo (qI.out.below bA (by omega))
 have W3 := aPo (oW.out.below bA (by omega))
 have hl5 := qV.out.lt
 clear bA nT qI oW pP o0 o1 o2 o3 o4 o5 o6 o7
 obtain ⟨q0, q1⟩ := pair_cells qV.out.fst
 go_wp2_with fail
 refine (aCN w5 B _ ao 4 cv no co xs l HV5.out W3.out (by omega) HCV.out gS.out.2.2 (by omega) (by omega)).mono ?_
 rintro e w6 ⟨va, vc, oa, oc, rfl, A2, vN, lK, aIy, aLC⟩
 rw [uA.out] at A2 aIy ⊢
 rw [nV.out] at vN aLC ⊢
 have zO := aPo (qV.out.next lK)
 have HV6 := aPo (HV5.out.below lK (by omega))
 have HO6 := aPo (W3.out.below lK (by omega))
 obtain ⟨gv, aW, rfl, bZ, eH, hgv, aDa⟩ := A2.2 (by omega)
 have hs6 := lK.size
 have HGV := aPo hgv
 have j6 := aPo aDa
 have HCA := aPo aIy
 clear lK qV HV5 W3 q0 q1 A2 vN aLC hgv aDa aIy
 have hgs : gv < w6.heap.size := eH
 obtain ⟨q0, q1⟩ := pair_cells zO.out.fst
 obtain ⟨o0, o1, o2, o3, o4, o5, o6, o7⟩ := aN (show w6.heap[w.heap.size + 1]? = some (.cells #[.int .i64 (d : Int), .int .i64 (x + 1), .int .i64 (S + 1), .int .i64 o.kind, .string o.item, .int .i64 o.qty, .int .i64 o.level, .int .i64 o.undos] 50 (0, 0)) from zO.out.snd)
 go_upto_region 7 with fail
 have N5 : Below w6.heap.size w6 (w6.alloc (.cells #[.slice (some ⟨gv, 0, none⟩) 4 vc, .slice oa no oc] 27)) := bl
 have O0 := aPo (bX (Below.refl _ (w6.alloc (.cells #[.slice (some ⟨gv, 0, none⟩) 4 vc, .slice oa no oc] 27))))
 have j0 := aPo (zO.out.next N5)
 have HV7 := aPo (HV6.out.below N5 (by omega))
 have G6 := aPo (HO6.out.below N5 (by omega))
 have HG7 := aPo ((N5.block _ hgs).trans HGV.out)
 generalize w6.alloc (.cells #[.slice (some ⟨gv, 0, none⟩) 4 vc, .slice oa no oc] 27) = w7 at N5 O0 j0 HV7 G6 HG7 ⊢
 have hs7 := N5.size
 have hx7 : w6.heap.size < w7.heap.size := (aPp O0.out).1
 clear N5 zO HV6 HO6 HGV q0 q1 o0 o1 o2 o3 o4 o5 o6 o7
 generalize w6.heap.size = ob at hs6 hgs hs7 hx7 O0 eH ⊢
 obtain ⟨x0, x1⟩ := pair_cells O0.out
 obtain ⟨zV, zU⟩ := aB O0.out
 obtain ⟨o0, o1, o2, o3, o4, o5, o6, o7⟩ := aN (show w7.heap[w.heap.size + 1]? = some (.cells #[.int .i64 (d : Int), .int .i64 (x + 1), .int .i64 (S + 1), .int .i64 o.kind, .string o.item, .int .i64 o.qty, .int .i64 o.level, .int .i64 o.undos] 50 (0, 0)) from j0.out.snd)
 have bW : ∃ z, w7.cell? ⟨gv, d, none⟩ = some z := ⟨_, (aPr HG7.out).trans (j6.out d hd)⟩
 obtain ⟨z, hcz⟩ := bW
 have hfz : w7.frozen? ⟨gv, d, none⟩ = false := aPs HG7.out
 have sZ : Below gv w7 (w7.setCell ⟨gv, d, none⟩ (.int .i64 (x + 1))) := gN _ _ _ _
 have aLp : ∀ j, j ≠ gv → (w7.setCell ⟨gv, d, none⟩ (.int .i64 (x + 1))).heap[j]? = w7.heap[j]? := fun j hj => heap_setCell_other _ _ _ _ hj
 have HG8 : Hid ((w7.setCell ⟨gv, d, none⟩ (.int .i64 (x + 1))).heap[gv]? = some (.cells (aW.setIfInBounds d (.int .i64 (x + 1))) 2 (0, 0))) := heap_setCell_same _ _ _ _ _ _ HG7.out
 have tI := aPo ((aLp ob (by omega)).trans O0.out)
 have V7 := aPo (j0.out.far (sZ.mono (by omega)))
 have wC := aPo (G6.out.below sZ (by omega))
 have hz8 : (w7.setCell ⟨gv, d, none⟩ (.int .i64 (x + 1))).heap.size = w7.heap.size := by simp [World.setCell]
 have F2 : ob < (w7.setCell ⟨gv, d, none⟩ (.int .i64 (x + 1))).heap.size := by omega
 go_upto_region 8 with fail
 generalize w7.setCell ⟨gv, d, none⟩ (.int .i64 (x + 1)) = w8 at HG8 tI V7 wC F2 ⊢
 clear sZ aLp hz8 hcz hfz x0 x1 zV zU o0 o1 o2 o3 o4 o5 o6 o7 O0 j0 HV7 G6 HG7
 obtain ⟨q0, q1⟩ := pair_cells V7.out.fst
 have aI4 := aPo (rF (d : Int) l)
 have aMf := fun i h => aPo (l9 (dev := (d : Int)) (l := l) (i := i) h)
 have aMe := fun h => aPo (P8 (dev := (d : Int)) (l := l) h)
 have HQd : Hid (cI l d (aQ xs l d o) = l.take (putAt (d : Int) l) ++ [aQ xs l d o] ++ l.drop (putAt (d : Int) l)) := rfl
 rw [O4.out] at HQd
 obtain ⟨p, hp⟩ : ∃ p, p = putAt (d : Int) l := ⟨_, rfl⟩
 rw [← hp] at aI4 aMf aMe HQd
 have hpn : p ≤ no := by have := aI4.out; have := nV.out; omega
 clear hp aI4
 go_wp2
 go_loop [9] (fun i => ∃ k : Nat, k ≤ p ∧ i = .int .i64 (k : Int)) (fun i => p - (intOf i).toNat)
 case atStart => exact ⟨0, Nat.zero_le _, rfl⟩
 case round =>
  obtain ⟨k, hk, rfl⟩ := hrel
  by_cases hkp : k < p
  ·obtain ⟨b2, aP, rfl, aM, ho⟩ := wC.out.2 k (by omega)
   obtain ⟨d0, d1, d2, d3, d4, d5, d6, d7⟩ := ho; have jI := (aMf k hkp).out; have p6 : (l.getD k aA.zero).dev ≤ (d : Int) := jI; clear jI; generalize l.getD k aA.zero = y at p6 d0 d1 d2 d3 d4 d5 d6 d7; have aJ : (k : Int) < (no : Int) := by omega
   go_wp2
   go_round
   case rel => exact ⟨k + 1, by omega, by go_num⟩
   case measure => simp [intOf]; omega
  obtain rfl : k = p := by omega
  by_cases hkn : k < no
  ·obtain ⟨b2, aP, rfl, aM, ho⟩ := wC.out.2 k hkn
   obtain ⟨d0, d1, d2, d3, d4, d5, d6, d7⟩ := ho; have aNW := (aMe (by rw [nV.out]; exact hkn)).out
   have jI : ¬ (l.getD k aA.zero).dev ≤ (d : Int) := by show ¬ (aC l k).dev ≤ _; omega
   clear aNW; generalize l.getD k aA.zero = y at jI d0 d1 d2 d3 d4 d5 d6 d7; have F6 : decide (y.dev ≤ (d : Int)) = false := decide_eq_false jI; have aJ : decide ((k : Int) < (no : Int)) = true := decide_eq_true (by omega)
   clear jI
   go_upto_region 11 with fail
   clear F6 aJ d0 d1 d2 d3 d4 d5 d6 d7; have nI : ¬ (co : Int) = (k : Int) := by have := gS.out.1; omega
   have hw8 : w8.heap.size ≤ w8.heap.size := Nat.le_refl _; have mW : Below w8.heap.size w8 (w8.alloc (.cells #[] 50)) := bl; have S5 : (w8.alloc (.cells #[] 50)).ownsRow w8.heap.size 50 8 (.slice (some ⟨w8.heap.size, 0, none⟩) 0 0) 0 (aF []) := World.ownsRow_made w8 #[] 0 aPq (by unfold maxLen; omega) rfl
   obtain ⟨v1, w9, nA, cX, nH⟩ := oI _ w8.heap.size _ 0 [] S5 B _ k co (l.take k) ((wC.out.below mW (by omega)).take hpn) gS.out.2.2 (by omega) mW.size
   have kL : w9.ownsRow w8.heap.size 50 8 v1 k (aF (l.take k)) := by simpa using cX
   have rX : Below w8.heap.size w8 w9 := mW.grown nH mW.size (fun j hj => (S5.lt j hj).1)
   have hkc : (k : Int) ≤ (co : Int) := by have := gS.out.1; omega
   obtain ⟨qa0, qa1⟩ := pair_cells (V7.out.next mW).fst; clear cX nH S5; have wS := aPo (V7.out.next rX); have HX9 := aPo ((rX.block _ F2).trans tI.out); have HO9 := aPo (wC.out.below rX (by omega))
   have D2 := aPo rX; have qE := rX.size; clear rX mW q0 q1; obtain ⟨o0, o1, o2, o3, o4, o5, o6, o7⟩ := aN (show w9.heap[w.heap.size + 1]? = some (.cells #[.int .i64 (d : Int), .int .i64 (x + 1), .int .i64 (S + 1), .int .i64 o.kind, .string o.item, .int .i64 o.qty, .int .i64 o.level, .int .i64 o.undos] 50 (0, 0)) from wS.out.snd); have fA : Below w9.heap.size w9 (w9.alloc (.cells #[.int .i64 (d : Int), .int .i64 (x + 1), .int .i64 (S + 1), .int .i64 o.kind, .string o.item, .int .i64 o.qty, .int .i64 o.level, .int .i64 o.undos] 50)) := bl; have nJ := aBe w9 ⟨(d : Int), x + 1, S + 1, o.kind, o.item, o.qty, o.level, o.undos⟩; have kZ := kL.alloc (.cells #[.int .i64 (d : Int), .int .i64 (x + 1), .int .i64 (S + 1), .int .i64 o.kind, .string o.item, .int .i64 o.qty, .int .i64 o.level, .int .i64 o.undos] 50); obtain ⟨v2, wA, mZ, dU, nG⟩ := oI _ w8.heap.size v1 k (l.take k) kZ (w9.heap.size + 1) (some ⟨w9.heap.size, 0, none⟩) 1 1 _ nJ (fun h => by cases h) (by omega) (Nat.le_trans qE fA.size)
   have rW : Below w8.heap.size w9 wA := (fA.mono qE).grown nG (Nat.le_trans qE fA.size) (fun j hj => (kZ.lt j hj).1)
   clear nG kZ nJ fA kL; have V6 := aPo (wS.out.far (rW.mono (by omega)))
   have U9 := aPo ((rW.block _ (by omega)).trans HX9.out)
   have HOA := aPo (HO9.out.below rW (by omega))
   have HBA := aPo (D2.out.trans rW); have hsA := rW.size; clear rW wS HX9 HO9 D2; obtain ⟨q0, q1⟩ := pair_cells V6.out.fst; obtain ⟨x0, x1⟩ := pair_cells U9.out; obtain ⟨zV, zU⟩ := aB U9.out; have S7 := dU; have hnA : w8.heap.size ≤ wA.heap.size := Nat.le_trans qE hsA; obtain ⟨v3, wB, mY, lI, nF⟩ := oI wA w8.heap.size v2 (k + 1) _ dU B (some ⟨b2, aP + k * 8, none⟩) (no - k) (co - k) (l.drop k) (by have h := HOA.out.dropMap hpn; rw [Option.map_some, tD] at h; exact h) (fun h => by cases h) (by omega) hnA
   obtain ⟨fW, gH, rfl, Z9⟩ := lT lI; have vS : Below w8.heap.size wA wB := (show Below w8.heap.size wA wA from Below.refl _ _).grown nF hnA (fun j hj => (S7.lt j hj).1)
   have HPB := aPo (V6.out.far (vS.mono (by omega)))
   have U8 := aPo ((vS.block _ F2).trans U9.out); have HBB := aPo (HBA.out.trans vS); have hsB := vS.size; obtain ⟨qb0, qb1⟩ := pair_cells V6.out.fst; obtain ⟨x0, x1⟩ := pair_cells U8.out; obtain ⟨zV, zU⟩ := aB U8.out; have HGB : Hid (wB.heap[gv]? = some (.cells (aW.setIfInBounds d (.int .i64 (x + 1))) 2 (0, 0))) := (HBB.out.block _ (by omega)).trans HG8.out
   have V0 : Hid ((wB.setCell ⟨ob, 1, none⟩ (.slice fW (k + 1 + (no - k)) gH)).heap[ob]? = some (.cells #[.slice (some ⟨gv, 0, none⟩) 4 vc, .slice fW (k + 1 + (no - k)) gH] 27 (0, 0))) := heap_setCell_same _ _ _ _ _ _ U8.out; have nL := aPo (HPB.out.far ((gN wB ob 1 (.slice fW (k + 1 + (no - k)) gH)).mono (by omega)))
   have C3 : Hid (∀ j, j ≠ ob → (wB.setCell ⟨ob, 1, none⟩ (.slice fW (k + 1 + (no - k)) gH)).heap[j]? = wB.heap[j]?) := fun j hj => heap_setCell_other _ _ _ _ hj
   have U6 : Hid ((wB.setCell ⟨ob, 1, none⟩ (.slice fW (k + 1 + (no - k)) gH)).heap.size = wB.heap.size) := by show (World.setCell _ _ _).heap.size = _; simp [World.setCell]
   have tZ := aPo (fV lI aPq); have j7 := aPo Z9; have fQ := aPo nA; have lM := aPo mZ; have vX := aPo mY; clear nA mZ mY dU S7 lI nF vS Z9
   go_upto_region 12 with (at_builtin; refine cY rfl _ _ _ rfl _ _ rfl rfl fQ.out ?_)
   go_upto_region 13 with (at_builtin; refine cY rfl _ _ _ rfl _ _ rfl rfl lM.out ?_)
   go_upto_region 14 with (at_builtin; refine cY rfl _ _ _ rfl _ _ rfl rfl vX.out ?_)
   generalize wB.setCell ⟨ob, 1, none⟩ (.slice fW (k + 1 + (no - k)) gH) = eJ at V0 nL C3 U6 ⊢; clear q0 q1 qa0 qa1 qb0 qb1 o0 o1 o2 o3 o4 o5 o6 o7 x0 x1 zV zU fQ lM vX; obtain ⟨x0, x1⟩ := pair_cells V0.out; obtain ⟨r0, r1⟩ := pair_cells nL.out.res; obtain ⟨g0, g1⟩ := aB nL.out.res; have tG := aPo (nL.out.set2 (.slice (some ⟨gv, 0, none⟩) 4 vc) (.slice fW (k + 1 + (no - k)) gH)).1; have bQ := aPo (nL.out.bel.trans ((nL.out.set2 (.slice (some ⟨gv, 0, none⟩) 4 vc) (.slice fW (k + 1 + (no - k)) gH)).2.mono (by omega)))
   have V8 : Hid (∀ j, j ≠ w.heap.size + 1 + 1 → ((eJ.setCell ⟨w.heap.size + 1 + 1, 0, none⟩ (.slice (some ⟨gv, 0, none⟩) 4 vc)).setCell ⟨w.heap.size + 1 + 1, 1, none⟩ (.slice fW (k + 1 + (no - k)) gH)).heap[j]? = eJ.heap[j]?) := fun j hj => aD _ _ hj
   have HZF : Hid (((eJ.setCell ⟨w.heap.size + 1 + 1, 0, none⟩ (.slice (some ⟨gv, 0, none⟩) 4 vc)).setCell ⟨w.heap.size + 1 + 1, 1, none⟩ (.slice fW (k + 1 + (no - k)) gH)).heap.size = eJ.heap.size) := aY _ _ _ _; go_wp2
   change bodyPost _ _ _ _ _ ((eJ.setCell ⟨w.heap.size + 1 + 1, 0, none⟩ (.slice (some ⟨gv, 0, none⟩) 4 vc)).setCell ⟨w.heap.size + 1 + 1, 1, none⟩ (.slice fW (k + 1 + (no - k)) gH))
   generalize (eJ.setCell ⟨w.heap.size + 1 + 1, 0, none⟩ (.slice (some ⟨gv, 0, none⟩) 4 vc)).setCell ⟨w.heap.size + 1 + 1, 1, none⟩ (.slice fW (k + 1 + (no - k)) gH) = wf at tG bQ V8 HZF ⊢; have S8 := V8.out; have M7 := HZF.out; have A3 := C3.out; have aLj := U6.out; obtain ⟨q0, q1⟩ := pair_cells tG.out; have yV : (cI l d (aQ xs l d o)).length = k + 1 + (no - k) := by have h1 := uD l d (aQ xs l d o); have h2 := nV.out; omega
   have A9 : (eE xs d).length = 4 := by rw [zN.out, List.length_set, uA.out]
   have hOv : Own wf w.heap.size wf.heap.size (some ⟨gv, 0, none⟩) 4 (eE xs d) := by
    refine ⟨A9, fun _ => ⟨gv, _, rfl, by omega, by omega, ((S8 gv (by omega)).trans (A3 gv (by omega))).trans HGB.out, fun i hi' => ?_⟩⟩
    rw [zN.out, jZ (by rw [uA.out]; omega), Array.getElem?_setIfInBounds]
    have hcs := (aPp (j6.out i hi')).1
    by_cases e : d = i
    ·rw [if_pos e, if_pos e, if_pos (by omega)]
    ·rw [if_neg e, if_neg e, j6.out i hi']
   have hOo : bB wf w.heap.size wf.heap.size fW (k + 1 + (no - k)) (cI l d (aQ xs l d o)) := by
    rw [O4.out, HQd.out]; exact (tZ.out.kept (w' := wf) fun j h1 h2 => (S8 j (by omega)).trans (A3 j (by omega))).more (by omega) (by omega)
   exact bodyPost_ret (v := .tuple #[.agg #[.slice (some ⟨gv, 0, none⟩) 4 vc, .slice fW (k + 1 + (no - k)) gH], .bool true]) (by simp [results, Tryz.results90, go_sem, q0, q1]) rfl ⟨_, vc, fW, gH, by rw [yV, A9], by rw [A9]; exact hOv, by rw [yV]; exact hOo, bQ.out, by rw [A9]; exact HCA.out, by rw [yV]; exact j7.out⟩
  ·have aJ : decide ((k : Int) < (no : Int)) = false := decide_eq_false (by omega)
   go_upto_region 11 with fail
   clear aJ
   by_cases hck : k = co
   ·obtain rfl : k = co := hck
    obtain rfl : k = no := by omega
    have hw8 : w8.heap.size ≤ w8.heap.size := Nat.le_refl _; have mW : Below w8.heap.size w8 (w8.alloc (.cells #[] 50)) := bl; have S5 : (w8.alloc (.cells #[] 50)).ownsRow w8.heap.size 50 8 (.slice (some ⟨w8.heap.size, 0, none⟩) 0 0) 0 (aF []) := World.ownsRow_made w8 #[] 0 aPq (by unfold maxLen; omega) rfl
    obtain ⟨v1, w9, nA, cX, nH⟩ := oI _ w8.heap.size _ 0 [] S5 B _ k k (l.take k) ((wC.out.below mW (by omega)).take hpn) gS.out.2.2 (by omega) mW.size
    have kL : w9.ownsRow w8.heap.size 50 8 v1 k (aF (l.take k)) := by simpa using cX
    have rX : Below w8.heap.size w8 w9 := mW.grown nH mW.size (fun j hj => (S5.lt j hj).1)
    have hkc : (k : Int) ≤ (k : Int) := by have := gS.out.1; omega
    obtain ⟨qa0, qa1⟩ := pair_cells (V7.out.next mW).fst; clear cX nH S5; have wS := aPo (V7.out.next rX); have HX9 := aPo ((rX.block _ F2).trans tI.out); have HO9 := aPo (wC.out.below rX (by omega))
    have D2 := aPo rX; have qE := rX.size; clear rX mW q0 q1; obtain ⟨o0, o1, o2, o3, o4, o5, o6, o7⟩ := aN (show w9.heap[w.heap.size + 1]? = some (.cells #[.int .i64 (d : Int), .int .i64 (x + 1), .int .i64 (S + 1), .int .i64 o.kind, .string o.item, .int .i64 o.qty, .int .i64 o.level, .int .i64 o.undos] 50 (0, 0)) from wS.out.snd); have fA : Below w9.heap.size w9 (w9.alloc (.cells #[.int .i64 (d : Int), .int .i64 (x + 1), .int .i64 (S + 1), .int .i64 o.kind, .string o.item, .int .i64 o.qty, .int .i64 o.level, .int .i64 o.undos] 50)) := bl; have nJ := aBe w9 ⟨(d : Int), x + 1, S + 1, o.kind, o.item, o.qty, o.level, o.undos⟩; have kZ := kL.alloc (.cells #[.int .i64 (d : Int), .int .i64 (x + 1), .int .i64 (S + 1), .int .i64 o.kind, .string o.item, .int .i64 o.qty, .int .i64 o.level, .int .i64 o.undos] 50); obtain ⟨v2, wA, mZ, dU, nG⟩ := oI _ w8.heap.size v1 k (l.take k) kZ (w9.heap.size + 1) (some ⟨w9.heap.size, 0, none⟩) 1 1 _ nJ (fun h => by cases h) (by omega) (Nat.le_trans qE fA.size)
    have rW : Below w8.heap.size w9 wA := (fA.mono qE).grown nG (Nat.le_trans qE fA.size) (fun j hj => (kZ.lt j hj).1)
    clear nG kZ nJ fA kL; have V6 := aPo (wS.out.far (rW.mono (by omega)))
    have U9 := aPo ((rW.block _ (by omega)).trans HX9.out)
    have HOA := aPo (HO9.out.below rW (by omega))
    have HBA := aPo (D2.out.trans rW); have hsA := rW.size; clear rW wS HX9 HO9 D2; obtain ⟨q0, q1⟩ := pair_cells V6.out.fst; obtain ⟨x0, x1⟩ := pair_cells U9.out; obtain ⟨zV, zU⟩ := aB U9.out; have S7 := dU; have hnA : w8.heap.size ≤ wA.heap.size := Nat.le_trans qE hsA; obtain ⟨v3, wB, mY, lI, nF⟩ := oI wA w8.heap.size v2 (k + 1) _ dU B ao 0 0 (l.drop k) (aBG (by rw [List.length_drop, nV.out]; omega)) (fun _ => rfl) (by omega) hnA
    obtain ⟨fW, gH, rfl, Z9⟩ := lT lI; have vS : Below w8.heap.size wA wB := (show Below w8.heap.size wA wA from Below.refl _ _).grown nF hnA (fun j hj => (S7.lt j hj).1)
    have HPB := aPo (V6.out.far (vS.mono (by omega)))
    have U8 := aPo ((vS.block _ F2).trans U9.out); have HBB := aPo (HBA.out.trans vS); have hsB := vS.size; obtain ⟨qb0, qb1⟩ := pair_cells V6.out.fst; obtain ⟨x0, x1⟩ := pair_cells U8.out; obtain ⟨zV, zU⟩ := aB U8.out; have HGB : Hid (wB.heap[gv]? = some (.cells (aW.setIfInBounds d (.int .i64 (x + 1))) 2 (0, 0))) := (HBB.out.block _ (by omega)).trans HG8.out
    have V0 : Hid ((wB.setCell ⟨ob, 1, none⟩ (.slice fW (k + 1 + 0) gH)).heap[ob]? = some (.cells #[.slice (some ⟨gv, 0, none⟩) 4 vc, .slice fW (k + 1 + 0) gH] 27 (0, 0))) := heap_setCell_same _ _ _ _ _ _ U8.out; have nL := aPo (HPB.out.far ((gN wB ob 1 (.slice fW (k + 1 + 0) gH)).mono (by omega)))
    have C3 : Hid (∀ j, j ≠ ob → (wB.setCell ⟨ob, 1, none⟩ (.slice fW (k + 1 + 0) gH)).heap[j]? = wB.heap[j]?) := fun j hj => heap_setCell_other _ _ _ _ hj
    have U6 : Hid ((wB.setCell ⟨ob, 1, none⟩ (.slice fW (k + 1 + 0) gH)).heap.size = wB.heap.size) := by show (World.setCell _ _ _).heap.size = _; simp [World.setCell]
    have tZ := aPo (fV lI aPq); have j7 := aPo Z9; have fQ := aPo nA; have lM := aPo mZ; have vX := aPo mY; clear nA mZ mY dU S7 lI nF vS Z9
    go_upto_region 12 with (at_builtin; refine cY rfl _ _ _ rfl _ _ rfl rfl fQ.out ?_)
    go_upto_region 13 with (at_builtin; refine cY rfl _ _ _ rfl _ _ rfl rfl lM.out ?_)
    go_upto_region 14 with (at_builtin; refine cY rfl _ _ _ rfl _ _ rfl rfl vX.out ?_)
    generalize wB.setCell ⟨ob, 1, none⟩ (.slice fW (k + 1 + 0) gH) = eJ at V0 nL C3 U6 ⊢; clear q0 q1 qa0 qa1 qb0 qb1 o0 o1 o2 o3 o4 o5 o6 o7 x0 x1 zV zU fQ lM vX; obtain ⟨x0, x1⟩ := pair_cells V0.out; obtain ⟨r0, r1⟩ := pair_cells nL.out.res; obtain ⟨g0, g1⟩ := aB nL.out.res; have tG := aPo (nL.out.set2 (.slice (some ⟨gv, 0, none⟩) 4 vc) (.slice fW (k + 1 + 0) gH)).1; have bQ := aPo (nL.out.bel.trans ((nL.out.set2 (.slice (some ⟨gv, 0, none⟩) 4 vc) (.slice fW (k + 1 + 0) gH)).2.mono (by omega)))
    have V8 : Hid (∀ j, j ≠ w.heap.size + 1 + 1 → ((eJ.setCell ⟨w.heap.size + 1 + 1, 0, none⟩ (.slice (some ⟨gv, 0, none⟩) 4 vc)).setCell ⟨w.heap.size + 1 + 1, 1, none⟩ (.slice fW (k + 1 + 0) gH)).heap[j]? = eJ.heap[j]?) := fun j hj => aD _ _ hj
    have HZF : Hid (((eJ.setCell ⟨w.heap.size + 1 + 1, 0, none⟩ (.slice (some ⟨gv, 0, none⟩) 4 vc)).setCell ⟨w.heap.size + 1 + 1, 1, none⟩ (.slice fW (k + 1 + 0) gH)).heap.size = eJ.heap.size) := aY _ _ _ _; go_wp2
    change bodyPost _ _ _ _ _ ((eJ.setCell ⟨w.heap.size + 1 + 1, 0, none⟩ (.slice (some ⟨gv, 0, none⟩) 4 vc)).setCell ⟨w.heap.size + 1 + 1, 1, none⟩ (.slice fW (k + 1 + 0) gH))
    generalize (eJ.setCell ⟨w.heap.size + 1 + 1, 0, none⟩ (.slice (some ⟨gv, 0, none⟩) 4 vc)).setCell ⟨w.heap.size + 1 + 1, 1, none⟩ (.slice fW (k + 1 + 0) gH) = wf at tG bQ V8 HZF ⊢; have S8 := V8.out; have M7 := HZF.out; have A3 := C3.out; have aLj := U6.out; obtain ⟨q0, q1⟩ := pair_cells tG.out; have yV : (cI l d (aQ xs l d o)).length = k + 1 + 0 := by have h1 := uD l d (aQ xs l d o); have h2 := nV.out; omega
    have A9 : (eE xs d).length = 4 := by rw [zN.out, List.length_set, uA.out]
    have hOv : Own wf w.heap.size wf.heap.size (some ⟨gv, 0, none⟩) 4 (eE xs d) := by
     refine ⟨A9, fun _ => ⟨gv, _, rfl, by omega, by omega, ((S8 gv (by omega)).trans (A3 gv (by omega))).trans HGB.out, fun i hi' => ?_⟩⟩
     rw [zN.out, jZ (by rw [uA.out]; omega), Array.getElem?_setIfInBounds]
     have hcs := (aPp (j6.out i hi')).1
     by_cases e : d = i
     ·rw [if_pos e, if_pos e, if_pos (by omega)]
     ·rw [if_neg e, if_neg e, j6.out i hi']
    have hOo : bB wf w.heap.size wf.heap.size fW (k + 1 + 0) (cI l d (aQ xs l d o)) := by
     rw [O4.out, HQd.out]; exact (tZ.out.kept (w' := wf) fun j h1 h2 => (S8 j (by omega)).trans (A3 j (by omega))).more (by omega) (by omega)
    exact bodyPost_ret (v := .tuple #[.agg #[.slice (some ⟨gv, 0, none⟩) 4 vc, .slice fW (k + 1 + 0) gH], .bool true]) (by simp [results, Tryz.results90, go_sem, q0, q1]) rfl ⟨_, vc, fW, gH, by rw [yV, A9], by rw [A9]; exact hOv, by rw [yV]; exact hOo, bQ.out, by rw [A9]; exact HCA.out, by rw [yV]; exact j7.out⟩
   ·have nI : ¬ (co : Int) = (k : Int) := by omega
    have hw8 : w8.heap.size ≤ w8.heap.size := Nat.le_refl _; have mW : Below w8.heap.size w8 (w8.alloc (.cells #[] 50)) := bl; have S5 : (w8.alloc (.cells #[] 50)).ownsRow w8.heap.size 50 8 (.slice (some ⟨w8.heap.size, 0, none⟩) 0 0) 0 (aF []) := World.ownsRow_made w8 #[] 0 aPq (by unfold maxLen; omega) rfl
    obtain ⟨v1, w9, nA, cX, nH⟩ := oI _ w8.heap.size _ 0 [] S5 B _ k co (l.take k) ((wC.out.below mW (by omega)).take hpn) gS.out.2.2 (by omega) mW.size
    have kL : w9.ownsRow w8.heap.size 50 8 v1 k (aF (l.take k)) := by simpa using cX
    have rX : Below w8.heap.size w8 w9 := mW.grown nH mW.size (fun j hj => (S5.lt j hj).1)
    have hkc : (k : Int) ≤ (co : Int) := by have := gS.out.1; omega
    obtain ⟨qa0, qa1⟩ := pair_cells (V7.out.next mW).fst; clear cX nH S5; have wS := aPo (V7.out.next rX); have HX9 := aPo ((rX.block _ F2).trans tI.out); have HO9 := aPo (wC.out.below rX (by omega))
    have D2 := aPo rX; have qE := rX.size; clear rX mW q0 q1; obtain ⟨o0, o1, o2, o3, o4, o5, o6, o7⟩ := aN (show w9.heap[w.heap.size + 1]? = some (.cells #[.int .i64 (d : Int), .int .i64 (x + 1), .int .i64 (S + 1), .int .i64 o.kind, .string o.item, .int .i64 o.qty, .int .i64 o.level, .int .i64 o.undos] 50 (0, 0)) from wS.out.snd); have fA : Below w9.heap.size w9 (w9.alloc (.cells #[.int .i64 (d : Int), .int .i64 (x + 1), .int .i64 (S + 1), .int .i64 o.kind, .string o.item, .int .i64 o.qty, .int .i64 o.level, .int .i64 o.undos] 50)) := bl; have nJ := aBe w9 ⟨(d : Int), x + 1, S + 1, o.kind, o.item, o.qty, o.level, o.undos⟩; have kZ := kL.alloc (.cells #[.int .i64 (d : Int), .int .i64 (x + 1), .int .i64 (S + 1), .int .i64 o.kind, .string o.item, .int .i64 o.qty, .int .i64 o.level, .int .i64 o.undos] 50); obtain ⟨v2, wA, mZ, dU, nG⟩ := oI _ w8.heap.size v1 k (l.take k) kZ (w9.heap.size + 1) (some ⟨w9.heap.size, 0, none⟩) 1 1 _ nJ (fun h => by cases h) (by omega) (Nat.le_trans qE fA.size)
    have rW : Below w8.heap.size w9 wA := (fA.mono qE).grown nG (Nat.le_trans qE fA.size) (fun j hj => (kZ.lt j hj).1)
    clear nG kZ nJ fA kL; have V6 := aPo (wS.out.far (rW.mono (by omega)))
    have U9 := aPo ((rW.block _ (by omega)).trans HX9.out)
    have HOA := aPo (HO9.out.below rW (by omega))
    have HBA := aPo (D2.out.trans rW); have hsA := rW.size; clear rW wS HX9 HO9 D2; obtain ⟨q0, q1⟩ := pair_cells V6.out.fst; obtain ⟨x0, x1⟩ := pair_cells U9.out; obtain ⟨zV, zU⟩ := aB U9.out; have S7 := dU; have hnA : w8.heap.size ≤ wA.heap.size := Nat.le_trans qE hsA; obtain ⟨v3, wB, mY, lI, nF⟩ := oI wA w8.heap.size v2 (k + 1) _ dU B (Option.map (fun x : Addr => x.add (k * 8)) (ao)) (no - k) (co - k) (l.drop k) (HOA.out.dropMap hpn) (fun h => by have := gS.out.2.2 (by rcases ao with _ | _; rfl; cases h); omega) (by omega) hnA
    obtain ⟨fW, gH, rfl, Z9⟩ := lT lI; have vS : Below w8.heap.size wA wB := (show Below w8.heap.size wA wA from Below.refl _ _).grown nF hnA (fun j hj => (S7.lt j hj).1)
    have HPB := aPo (V6.out.far (vS.mono (by omega)))
    have U8 := aPo ((vS.block _ F2).trans U9.out); have HBB := aPo (HBA.out.trans vS); have hsB := vS.size; obtain ⟨qb0, qb1⟩ := pair_cells V6.out.fst; obtain ⟨x0, x1⟩ := pair_cells U8.out; obtain ⟨zV, zU⟩ := aB U8.out; have HGB : Hid (wB.heap[gv]? = some (.cells (aW.setIfInBounds d (.int .i64 (x + 1))) 2 (0, 0))) := (HBB.out.block _ (by omega)).trans HG8.out
    have V0 : Hid ((wB.setCell ⟨ob, 1, none⟩ (.slice fW (k + 1 + (no - k)) gH)).heap[ob]? = some (.cells #[.slice (some ⟨gv, 0, none⟩) 4 vc, .slice fW (k + 1 + (no - k)) gH] 27 (0, 0))) := heap_setCell_same _ _ _ _ _ _ U8.out; have nL := aPo (HPB.out.far ((gN wB ob 1 (.slice fW (k + 1 + (no - k)) gH)).mono (by omega)))
    have C3 : Hid (∀ j, j ≠ ob → (wB.setCell ⟨ob, 1, none⟩ (.slice fW (k + 1 + (no - k)) gH)).heap[j]? = wB.heap[j]?) := fun j hj => heap_setCell_other _ _ _ _ hj
    have U6 : Hid ((wB.setCell ⟨ob, 1, none⟩ (.slice fW (k + 1 + (no - k)) gH)).heap.size = wB.heap.size) := by show (World.setCell _ _ _).heap.size = _; simp [World.setCell]
    have tZ := aPo (fV lI aPq); have j7 := aPo Z9; have fQ := aPo nA; have lM := aPo mZ; have vX := aPo mY; clear nA mZ mY dU S7 lI nF vS Z9
    go_upto_region 12 with (at_builtin; refine cY rfl _ _ _ rfl _ _ rfl rfl fQ.out ?_)
    go_upto_region 13 with (at_builtin; refine cY rfl _ _ _ rfl _ _ rfl rfl lM.out ?_)
    go_upto_region 14 with (at_builtin; refine cY rfl _ _ _ rfl _ _ rfl rfl vX.out ?_)
    generalize wB.setCell ⟨ob, 1, none⟩ (.slice fW (k + 1 + (no - k)) gH) = eJ at V0 nL C3 U6 ⊢; clear q0 q1 qa0 qa1 qb0 qb1 o0 o1 o2 o3 o4 o5 o6 o7 x0 x1 zV zU fQ lM vX; obtain ⟨x0, x1⟩ := pair_cells V0.out; obtain ⟨r0, r1⟩ := pair_cells nL.out.res; obtain ⟨g0, g1⟩ := aB nL.out.res; have tG := aPo (nL.out.set2 (.slice (some ⟨gv, 0, none⟩) 4 vc) (.slice fW (k + 1 + (no - k)) gH)).1; have bQ := aPo (nL.out.bel.trans ((nL.out.set2 (.slice (some ⟨gv, 0, none⟩) 4 vc) (.slice fW (k + 1 + (no - k)) gH)).2.mono (by omega)))
    have V8 : Hid (∀ j, j ≠ w.heap.size + 1 + 1 → ((eJ.setCell ⟨w.heap.size + 1 + 1, 0, none⟩ (.slice (some ⟨gv, 0, none⟩) 4 vc)).setCell ⟨w.heap.size + 1 + 1, 1, none⟩ (.slice fW (k + 1 + (no - k)) gH)).heap[j]? = eJ.heap[j]?) := fun j hj => aD _ _ hj
    have HZF : Hid (((eJ.setCell ⟨w.heap.size + 1 + 1, 0, none⟩ (.slice (some ⟨gv, 0, none⟩) 4 vc)).setCell ⟨w.heap.size + 1 + 1, 1, none⟩ (.slice fW (k + 1 + (no - k)) gH)).heap.size = eJ.heap.size) := aY _ _ _ _; go_wp2
    change bodyPost _ _ _ _ _ ((eJ.setCell ⟨w.heap.size + 1 + 1, 0, none⟩ (.slice (some ⟨gv, 0, none⟩) 4 vc)).setCell ⟨w.heap.size + 1 + 1, 1, none⟩ (.slice fW (k + 1 + (no - k)) gH))
    generalize (eJ.setCell ⟨w.heap.size + 1 + 1, 0, none⟩ (.slice (some ⟨gv, 0, none⟩) 4 vc)).setCell ⟨w.heap.size + 1 + 1, 1, none⟩ (.slice fW (k + 1 + (no - k)) gH) = wf at tG bQ V8 HZF ⊢; have S8 := V8.out; have M7 := HZF.out; have A3 := C3.out; have aLj := U6.out; obtain ⟨q0, q1⟩ := pair_cells tG.out; have yV : (cI l d (aQ xs l d o)).length = k + 1 + (no - k) := by have h1 := uD l d (aQ xs l d o); have h2 := nV.out; omega
    have A9 : (eE xs d).length = 4 := by rw [zN.out, List.length_set, uA.out]
    have hOv : Own wf w.heap.size wf.heap.size (some ⟨gv, 0, none⟩) 4 (eE xs d) := by
     refine ⟨A9, fun _ => ⟨gv, _, rfl, by omega, by omega, ((S8 gv (by omega)).trans (A3 gv (by omega))).trans HGB.out, fun i hi' => ?_⟩⟩
     rw [zN.out, jZ (by rw [uA.out]; omega), Array.getElem?_setIfInBounds]
     have hcs := (aPp (j6.out i hi')).1
     by_cases e : d = i
     ·rw [if_pos e, if_pos e, if_pos (by omega)]
     ·rw [if_neg e, if_neg e, j6.out i hi']
    have hOo : bB wf w.heap.size wf.heap.size fW (k + 1 + (no - k)) (cI l d (aQ xs l d o)) := by
     rw [O4.out, HQd.out]; exact (tZ.out.kept (w' := wf) fun j h1 h2 => (S8 j (by omega)).trans (A3 j (by omega))).more (by omega) (by omega)
    exact bodyPost_ret (v := .tuple #[.agg #[.slice (some ⟨gv, 0, none⟩) 4 vc, .slice fW (k + 1 + (no - k)) gH], .bool true]) (by simp [results, Tryz.results90, go_sem, q0, q1]) rfl ⟨_, vc, fW, gH, by rw [yV, A9], by rw [A9]; exact hOv, by rw [yV]; exact hOo, bQ.out, by rw [A9]; exact HCA.out, by rw [yV]; exact j7.out⟩
def kK (o : aS) : List Value := [.string o.item, .int .i64 o.qty, .bool o.saved]
def eS : List aS → List Value
 | [] => []
 | x :: l => kK x ++ eS l
theorem qQ : ∀ l : List aS, (eS l).length = l.length * 3
 | [] => rfl
 | x :: l => by
  show (kK x ++ eS l).length = _
  rw [List.length_append, qQ l, List.length_cons]
  show 3 + _ = _
  omega
theorem Q8 (x : aS) : ∀ l : List aS, eS (l ++ [x]) = eS l ++ kK x
 | [] => by show kK x ++ [] = [] ++ kK x; rw [List.append_nil, List.nil_append]
 | y :: l => by
  show kK y ++ eS (l ++ [x]) = (kK y ++ eS l) ++ kK x
  rw [Q8 x l, List.append_assoc]
theorem I6 : ∀ (l : List aS) (i u : Nat), i < l.length → u < 3 → (eS l)[i * 3 + u]? = (kK (l.getD i aS.zero))[u]?
 | x :: l, 0, u, _, hu => by
  show (kK x ++ eS l)[0 * 3 + u]? = (kK x)[u]?
  rw [Nat.zero_mul, Nat.zero_add, List.getElem?_append_left (by show u < 3; exact hu)]
 | x :: l, i + 1, u, hi, hu => by
  show (kK x ++ eS l)[(i + 1) * 3 + u]? = (kK (l.getD i aS.zero))[u]?
  rw [List.getElem?_append_right (by show 3 ≤ _; omega)]
  have e : (i + 1) * 3 + u - (kK x).length = i * 3 + u := by show _ - 3 = _; omega
  rw [e]; exact I6 l i u (by simpa using hi) hu
theorem sK {w : World} {base hi : Nat} {v : Value} {n : Nat} {l : List aS} (h : w.ownsRow base 39 3 v n (eS l)) (hh : w.heap.size ≤ hi) : ∃ a c, v = .slice a n c ∧ kI w base hi a n l := by
 have hl : l.length = n := by have := h.1; rw [qQ] at this; omega
 rcases h.2 with ⟨e, e2⟩ | ⟨g, c, aW, e, hb, hg, hnc, _, hs, ht⟩
 ·have hn0 : n = 0 := by simpa using e2
  subst hn0; exact ⟨none, 0, e, hl, fun h => absurd h (by omega)⟩
 ·have key : ∀ i u, i < n → u < 3 → aW[0 + i * 3 + u]? = (kK (l.getD i aS.zero))[u]? := fun i u hi' hu => by
   have h2 : (aW.toList.take (n * 3))[i * 3 + u]? = (eS l)[i * 3 + u]? := by rw [ht]
   rw [List.getElem?_take_of_lt (by omega), I6 l i u (by omega) hu] at h2
   rw [Nat.zero_add, ← Array.getElem?_toList, h2]
  refine ⟨_, c, e, hl, fun hn => ⟨g, 0, aW, rfl, hb, Nat.lt_of_lt_of_le (aPp hg).1 hh, hg, by rw [hs]; omega, fun i hi' => ?_⟩⟩
  exact ⟨key i 0 hi' (by omega), key i 1 hi' (by omega), key i 2 hi' (by omega)⟩
theorem Tryz.zeroLn : (Tryz.prog.info? 39).map (fun i => (i.zero, i.size, i.bytes)) = some (some (.agg #[.string ⟨#[]⟩, .int .i64 0, .bool false]), 3, 32) := by kernel_rfl
theorem aM2 (w : World) (base : Nat) (v : Value) (n : Nat) (l : List aS) (aU : w.ownsRow base 39 3 v n (eS l)) (o : aS) (hn : n + 1 ≤ 4194304) (xJ : base ≤ w.heap.size) :
  ∃ v' w', (Builtin.append_ #[42, 42] 42 #[v, .slice (some ⟨w.heap.size, 0, none⟩) 1 1]).run Tryz.prog (w.alloc (.cells #[.string o.item, .int .i64 o.qty, .bool o.saved] 39)) = .ok v' w' ∧ w'.ownsRow base 39 3 v' (n + 1) (eS (l ++ [o])) ∧ Below base w w' ∧ (w.alloc (.cells #[.string o.item, .int .i64 o.qty, .bool o.saved] 39)).grownBy w' v.ownBlock := by
 obtain ⟨i0, hi, gK, jV, iS⟩ := info_parts Tryz.zeroLn
 have bD : Below base w (w.alloc (.cells #[.string o.item, .int .i64 o.qty, .bool o.saved] 39)) := (Below.refl _ _).alloc xJ _
 have hA := aU.alloc (.cells #[.string o.item, .int .i64 o.qty, .bool o.saved] 39)
 have yT : ∀ j u, (kK o)[j]? = some u → (w.alloc (.cells #[.string o.item, .int .i64 o.qty, .bool o.saved] 39)).cell? ((⟨w.heap.size, 0, none⟩ : Addr).add j) = some u := by
  intro j u hu
  have hj : j < 3 := by
   rcases Nat.lt_or_ge j 3 with g | g
   ·exact g
   ·rw [List.getElem?_eq_none (by show 3 ≤ j; exact g)] at hu; cases hu
  rw [tD, aPr (heap_alloc_new w _), Nat.zero_add]; rw [← hu]
  match j, hj with
  | 0, _ => rfl
  | 1, _ => rfl
  | 2, _ => rfl
 obtain ⟨v', w', h1, h2, h3, _⟩ := run_append_own (P := Tryz.prog) _ base 42 42 39 i0 (.agg #[.string ⟨#[]⟩, .int .i64 0, .bool false]) 3 32 Tryz.underlying42 hi gK jV iS rfl (by decide) v n _ hA ⟨w.heap.size, 0, none⟩ 1 1 (kK o) rfl yT (by intro u hu; simp only [kK, List.mem_cons, List.not_mem_nil, or_false] at hu; rcases hu with rfl | rfl | rfl <;> rfl) (by unfold maxLen; omega) (by omega) (Nat.le_trans xJ bD.size)
 exact ⟨v', w', h1, by rw [Q8]; exact h2, bD.grown h3 (Nat.le_trans xJ bD.size) (fun j hj => (hA.lt j hj).1), h3⟩
theorem aE8 (w : World) (base : Nat) : w.ownsRow base 39 3 (.slice none 0 0) 0 (eS []) := ⟨rfl, .inl ⟨rfl, rfl⟩⟩
end Go.Proofs.YthkagbnpcjidfaaGreatDoor
