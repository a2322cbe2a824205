/- Walks and mathematics that several claims share, part 15. -/
import Derived.Test.YthkagbnpcjidfaaGreatDoorGq14
import Derived.Laws.OwnMore
import Derived.OwnWalk
import Derived.Deep.Cut
import Derived.Lib.MinMax
import Derived.Laws.AppendOwn
namespace Go.Proofs.YthkagbnpcjidfaaGreatDoor
set_option maxRecDepth 100000
open Go.RowKit
set_option linter.unusedVariables false
set_option linter.unusedSimpArgs false
theorem aGO {w : World} {B b off n : Nat} {xs : List Int} (h : Ints w B (some ⟨b, off, none⟩) n xs) : ∀ j u, (xs.map (Value.int .i64))[j]? = some u → w.cell? ((⟨b, off, none⟩ : Addr).add j) = some u := fun j u hu => by
 have hj : j < xs.length := by
  rcases Nat.lt_or_ge j xs.length with g | g
  ·exact g
  ·rw [List.getElem?_eq_none (by simpa using g)] at hu; cases hu
 obtain ⟨b', iI, e, _, hc⟩ := h.2 j (by rw [← h.1]; exact hj)
 injection e with e
 injection e with e1 e2
 subst e1 e2
 rw [uB, hc]
 rw [List.getElem?_map, List.getElem?_eq_getElem hj] at hu
 rw [← hu, List.getD_eq_getElem?_getD, List.getElem?_eq_getElem hj]
 rfl
theorem aCM (w : World) (base : Nat) (v : Value) (n : Nat) (xs : List Int) (aZ : w.ownsRow base 2 1 v n (xs.map (Value.int .i64))) (B : Nat) (a : Option Addr) (m c : Nat) (ys : List Int) (h : Ints w B a m ys) (hc : a = none → c = 0) (hn : n + m ≤ 4194304) (zM : base ≤ w.heap.size) :
  ∃ v' w', (Builtin.append_ #[24, 24] 24 #[v, .slice a m c]).run Tryz.prog w = .ok v' w' ∧ w'.ownsRow base 2 1 v' (n + m) ((xs ++ ys).map (Value.int .i64)) ∧ w.grownBy w' v.ownBlock := by
 obtain ⟨i0, hi, gR, kH, jN⟩ := info_parts Tryz.infoI64
 have hl : ys.length = m := h.1
 rcases a with _ | x
 ·have hm : m = 0 := by
   rcases Nat.eq_zero_or_pos m with g | g
   ·exact g
   ·obtain ⟨_, _, e, _⟩ := h.2 0 g; cases e
  subst hm; have : ys = [] := List.eq_nil_of_length_eq_zero hl; subst this; rw [hc rfl]; exact ⟨v, w, run_append_owned_none (P := Tryz.prog) w base 24 24 2 i0 1 Tryz.underlying24 hi v n _ aZ, by simpa using aZ, World.grownBy.refl _ _⟩
 ·have B9 : ∀ j u, (ys.map (Value.int .i64))[j]? = some u → w.cell? (x.add j) = some u := by
   rcases Nat.eq_zero_or_pos m with g | g
   ·subst g
    have : ys = [] := List.eq_nil_of_length_eq_zero hl; subst this
    intro j u hu
    simp at hu
   ·obtain ⟨b, off, e, _⟩ := h.2 0 g
    injection e with e; subst e; exact aGO h
  obtain ⟨v', w', h1, h2, h3, _⟩ := run_append_own (P := Tryz.prog) w base 24 24 2 i0 (.int .i64 0) 1 8 Tryz.underlying24 hi gR kH jN rfl (by decide) v n _ aZ x m c (ys.map (Value.int .i64)) (by rw [List.length_map, hl]; omega) B9 (by intro u hu; rw [List.mem_map] at hu; obtain ⟨z, _, rfl⟩ := hu; rfl) (by unfold maxLen; omega) (by omega) zM
  exact ⟨v', w', h1, by rw [List.map_append]; exact h2, h3⟩
theorem pF (w : World) (base : Nat) (v : Value) (n : Nat) (l : List aA) (aZ : w.ownsRow base 50 8 v n (aG l)) (B : Nat) (a : Option Addr) (m c : Nat) (k : List aA) (h : bR w B a m k) (hc : a = none → c = 0) (hn : n + m ≤ 4194304) (zM : base ≤ w.heap.size) :
  ∃ v' w', (Builtin.append_ #[25, 25] 25 #[v, .slice a m c]).run Tryz.prog w = .ok v' w' ∧ w'.ownsRow base 50 8 v' (n + m) (aG (l ++ k)) ∧ w.grownBy w' v.ownBlock := by
 obtain ⟨i0, hi, gR, kH, jN⟩ := info_parts Tryz.infoOp
 have hl : k.length = m := h.1
 have aP2 : aG (l ++ k) = aG l ++ aG k := by
  clear h hl aZ hn
  induction l with
  | nil => rfl
  | cons x l ih => show bX x ++ aG (l ++ k) = (bX x ++ aG l) ++ aG k; rw [ih, List.append_assoc]
 rcases a with _ | x
 ·have hm : m = 0 := by
   rcases Nat.eq_zero_or_pos m with g | g
   ·exact g
   ·obtain ⟨_, _, e, _⟩ := h.2 0 g; cases e
  subst hm; have : k = [] := List.eq_nil_of_length_eq_zero hl; subst this; rw [hc rfl]; exact ⟨v, w, run_append_owned_none (P := Tryz.prog) w base 25 25 50 i0 8 Tryz.underlying25 hi v n _ aZ, by rw [List.append_nil]; exact aZ, World.grownBy.refl _ _⟩
 ·have B9 : ∀ j u, (aG k)[j]? = some u → w.cell? (x.add j) = some u := by
   rcases Nat.eq_zero_or_pos m with g | g
   ·subst g
    have : k = [] := List.eq_nil_of_length_eq_zero hl; subst this
    intro j u hu
    simp [aG] at hu
   ·obtain ⟨b, off, e, _⟩ := h.2 0 g
    injection e with e; subst e; exact C6 h
  obtain ⟨v', w', h1, h2, h3, _⟩ := run_append_own (P := Tryz.prog) w base 25 25 50 i0 _ 8 72 Tryz.underlying25 hi gR kH jN rfl (by decide) v n _ aZ x m c (aG k) (by rw [eK, hl]) B9 (fun u hu => jH k u hu) (by unfold maxLen; omega) (by omega) zM
  exact ⟨v', w', h1, by rw [aP2]; exact h2, h3⟩
theorem vU {P : Program} {o : Oper} {a : Act} {w : World} {K : Act → World → Prop} {Q : Exit → Act → World → Prop} (x y : Operand) (ts : Array TypeId) (dY : o.op = Op.call { callee := Callee.builtin Builtin.append, args := #[x, y], argTypes := ts }) (v1 v2 : Value) {v' : Value} {w' : World} (h1 : a.eval x = v1) (h2 : a.eval y = v2)
  (hrun : (Builtin.append_ ts o.type #[v1, v2]).run P w = .ok v' w') (hK : K (a.put o.dst v') w') : Oper.wp P o a w K Q := by
 unfold Oper.wp
 simp [execOp, dY, resolve, invoke, builtin, h1, h2, hrun, Result.andThen]
 exact hK
theorem dB {P : Program} {w : World} {ops : Array Oper} {rest : List Oper} {o : Oper} {a : Act} {Q : Exit → Act → World → Prop} (hgd : o.guard = none) (x y : Operand) (ts : Array TypeId) (dY : o.op = Op.call { callee := Callee.builtin Builtin.append, args := #[x, y], argTypes := ts }) (v1 v2 : Value) {v' : Value} {w' : World} (h1 : a.eval x = v1) (h2 : a.eval y = v2)
  (hrun : (Builtin.append_ ts o.type #[v1, v2]).run P w = .ok v' w') (h : wpList P ops Q rest (a.put o.dst v') w') : wpList P ops Q (o :: rest) a w :=
 wpList_plain hgd fun _ hK => vU x y ts dY v1 v2 h1 h2 hrun (hK _ _ h)
theorem mB {w : World} {base size n : Nat} {e : TypeId} {v : Value} {xs : List Value} (h : w.ownsRow base e size v n xs) : ∃ a c, v = .slice a n c ∧ bY a n c := by
 rcases h.2 with ⟨e1, e2⟩ | ⟨g, cap, aY, e1, _⟩
 ·subst e1
  have e3 := h; have hn : n = 0 := e2; subst hn; exact ⟨none, 0, rfl, cP⟩
 ·subst e1
  exact ⟨_, _, rfl, fY h⟩
theorem Z9 {w : World} {b1 b2 s1 s2 n1 n2 : Nat} {e1 e2 : TypeId} {v1 v2 : Value} {x1 x2 : List Value} (h1 : w.ownsRow b1 e1 s1 v1 n1 x1) (h2 : w.ownsRow b2 e2 s2 v2 n2 x2) (he : e1 ≠ e2) : v1.ownBlock = none ∨ v1.ownBlock ≠ v2.ownBlock := by
 rcases h1.2 with ⟨rfl, _⟩ | ⟨g1, c1, aRk, rfl, _, bZ, _⟩
 ·exact .inl rfl
 ·right
  rcases h2.2 with ⟨rfl, _⟩ | ⟨g2, c2, aRj, rfl, _, eA, _⟩
  ·intro h; cases h
  ·intro h
   have : g1 = g2 := by simpa [Value.ownBlock] using h
   subst this; rw [bZ] at eA; injection eA with eA; injection eA with _ ht; exact he ht
def aKQ (xs : List Int) (l : List aA) (w : World) (e : Ending) (w' : World) : Prop := ∃ va vc oa oc, e = .returned (.agg #[.slice va xs.length vc, .slice oa l.length oc]) ∧ Own w' w.heap.size w'.heap.size va xs.length xs ∧ bE w' w.heap.size w'.heap.size oa l.length l ∧ Below w.heap.size w w' ∧ bY va xs.length vc ∧ bY oa l.length oc
set_option linter.unusedSimpArgs false in
set_option maxHeartbeats 20000000 in
theorem aEp (w : World) (B : Nat) (av ao : Option Addr) (nv cv no co : Nat) (xs : List Int) (l : List aA) (hx : Ints w B av nv xs) (h : bR w B ao no l) (hB : B ≤ w.heap.size) (bU : av = none → cv = 0) (cC : ao = none → co = 0) (hv : nv ≤ 1048576) (hn : no ≤ 1048576) :
  Calls Tryz.prog 47 #[.agg #[.slice av nv cv, .slice ao no co]] w (aKQ xs l w) := by
 have bG : Below w.heap.size w ((w.alloc (.cells #[.slice av nv cv, .slice ao no co] 27)).alloc (.cells #[.slice none 0 0, .slice none 0 0] 27)) := ((Below.refl _ w).alloc aRr _).alloc (by simp) _
 have HV := aRp (hx.below bG hB)
 have HO := aRp (h.below bG hB)
 have vQ := aRp hx.1
 have oQ := aRp h.1
 have HX : Hid (((w.alloc (.cells #[.slice av nv cv, .slice ao no co] 27)).alloc (.cells #[.slice none 0 0, .slice none 0 0] 27)).heap[w.heap.size]? = some (.cells #[.slice av nv cv, .slice ao no co] 27 (0, 0))) := heap_alloc2_old _ _ _
 have HR : Hid (((w.alloc (.cells #[.slice av nv cv, .slice ao no co] 27)).alloc (.cells #[.slice none 0 0, .slice none 0 0] 27)).heap[w.heap.size + 1]? = some (.cells #[.slice none 0 0, .slice none 0 0] 27 (0, 0))) := heap_alloc2_new _ _ _
 have dA : w.heap.size + 1 < ((w.alloc (.cells #[.slice av nv cv, .slice ao no co] 27)).alloc (.cells #[.slice none 0 0, .slice none 0 0] 27)).heap.size := by simp
 have HB := aRp bG
 have HCV := aRp bU
 have iA := aRp cC
 clear hx h bG bU cC
 go_enter Tryz.func47, Tryz.ntmps47
 go_wp2_with fail
 generalize (w.alloc (.cells #[.slice av nv cv, .slice ao no co] 27)).alloc (.cells #[.slice none 0 0, .slice none 0 0] 27) = w0 at HV HO HX HR dA HB ⊢
 obtain ⟨c0, c1⟩ := pair_cells HX.out
 have hC : Below w0.heap.size w0 w0.drew := ⟨rfl, rfl, rfl, Nat.le_refl _, fun _ _ => rfl⟩
 obtain ⟨z0, gR⟩ : ∃ z0, z0 = w0.drew := ⟨_, rfl⟩
 rw [← gR] at hC
 have yU : z0.cell? ⟨w.heap.size, 0, none⟩ = some (.slice av nv cv) ∧ z0.cell? ⟨w.heap.size, 1, none⟩ = some (.slice ao no co) := ⟨(hC.cell (p := ⟨w.heap.size, 0, none⟩) (by show w.heap.size < _; omega)).trans c0, (hC.cell (p := ⟨w.heap.size, 1, none⟩) (by show w.heap.size < _; omega)).trans c1⟩
 go_wp2_with fail
 refine wp_region_held_drew (S := fun w' => w'.cell? ⟨w.heap.size, 0, none⟩ = some (.slice av nv cv) ∧ w'.cell? ⟨w.heap.size, 1, none⟩ = some (.slice ao no co)) (by kernel_rfl) (by rw [← gR]; exact yU) (fun aO => ?_)
 rw [← gR]
 clear gR aO
 refine tj 1 ?_
 refine tj 2 ?_
 refine tj 5 ?_
 refine tj 6 ?_
 refine wpAnyH_ready (rs := [0, 4]) (by kernel_rfl) (by simp) ?_
 refine AllReadyH.cons rfl (fun K hK => ?_) ?_
 ·skip
  have aF : Below w0.heap.size w0 (z0.alloc (.cells #[] 2)) := hC.alloc hC.size _; have hV1 : (z0.alloc (.cells #[] 2)).ownsRow w0.heap.size 2 1 (.slice (some ⟨z0.heap.size, 0, none⟩) 0 0) 0 (([] : List Int).map (Value.int .i64)) := World.ownsRow_made z0 #[] 0 hC.size (by unfold maxLen; omega) rfl
  go_simp
  refine hK.out _ _ ⟨(aF.cell (p := ⟨w.heap.size, 0, none⟩) (by show w.heap.size < _; omega)).trans c0, (aF.cell (p := ⟨w.heap.size, 1, none⟩) (by show w.heap.size < _; omega)).trans c1⟩ (fun aIH => ?_)
  clear hK K
  (try simp only [Act.put, u1, u2, u3])
  generalize z0.alloc (.cells #[] 2) = z1 at aIH aF hV1 ⊢; refine wpAnyH_ready (rs := [3, 4]) (by kernel_rfl) (by simp) ?_
  refine AllReadyH.cons rfl (fun K hK => ?_) ?_
  ·skip
   obtain ⟨vA2, z2, hrun, hW, eZ⟩ := aCM z1 w0.heap.size _ 0 [] hV1 B av nv cv xs (HV.out.below aF (by omega)) HCV.out (by omega) aF.size
   have hV2 : z2.ownsRow w0.heap.size 2 1 vA2 nv (xs.map (Value.int .i64)) := by simpa using hW
   obtain ⟨va, vc, rfl, hca⟩ := mB hV2; have aI := aF.grown eZ aF.size (fun j hj => (hV1.lt j hj).1)
   rw [if_pos (by rfl)]
   refine vU _ _ _ rfl _ _ rfl rfl hrun ?_
   refine hK.out _ _ ⟨(aI.cell (p := ⟨w.heap.size, 0, none⟩) (by show w.heap.size < _; omega)).trans c0, (aI.cell (p := ⟨w.heap.size, 1, none⟩) (by show w.heap.size < _; omega)).trans c1⟩ (fun bQ => ?_)
   clear hK K hrun hW eZ
   (try simp only [Act.put, u1, u2, u3])
   refine rk 4 rfl (fun K hK => ?_)
   have aS : Below w0.heap.size w0 (z2.alloc (.cells #[] 50)) := aI.alloc aI.size _; have hO3 : (z2.alloc (.cells #[] 50)).ownsRow w0.heap.size 50 8 (.slice (some ⟨z2.heap.size, 0, none⟩) 0 0) 0 (aG []) := World.ownsRow_made z2 #[] 0 aI.size (by unfold maxLen; omega) rfl
   have hV3 := hV2.alloc (.cells #[] 50)
   go_simp
   refine hK.out _ _ ⟨(aS.cell (p := ⟨w.heap.size, 0, none⟩) (by show w.heap.size < _; omega)).trans c0, (aS.cell (p := ⟨w.heap.size, 1, none⟩) (by show w.heap.size < _; omega)).trans c1⟩ (fun dG => ?_)
   clear hK K
   (try simp only [Act.put, u1, u2, u3])
   generalize z2.alloc (.cells #[] 50) = z3 at dG aS hO3 hV3 ⊢; refine rk 7 rfl (fun K hK => ?_)
   obtain ⟨vA4, z4, hrun, hW, eZ⟩ := pF z3 w0.heap.size _ 0 [] hO3 B ao no co l (HO.out.below aS (by omega)) iA.out (by omega) aS.size
   have hO4 : z4.ownsRow w0.heap.size 50 8 vA4 no (aG l) := by simpa using hW
   obtain ⟨oa, oc, rfl, cC⟩ := mB hO4; have hV4 := hV3.kept eZ (Z9 hV3 hO3 (by decide))
   have cW := aS.grown eZ aS.size (fun j hj => (hO3.lt j hj).1)
   rw [if_pos (by rfl)]
   refine vU _ _ _ rfl _ _ rfl rfl hrun ?_
   refine hK.out _ _ ⟨(cW.cell (p := ⟨w.heap.size, 0, none⟩) (by show w.heap.size < _; omega)).trans c0, (cW.cell (p := ⟨w.heap.size, 1, none⟩) (by show w.heap.size < _; omega)).trans c1⟩ (fun lD => ?_)
   clear hK K hrun hW eZ
   (try simp only [Act.put, u1, u2, u3])
   refine tj 8 ?_
   have xO := aRp ((cW.block _ dA).trans HR.out); obtain ⟨r0, r1⟩ := pair_cells xO.out; obtain ⟨f0, f1⟩ := aC xO.out; have HP : Hid (Own z4 w0.heap.size z4.heap.size va nv xs ∧ bE z4 w0.heap.size z4.heap.size oa no l) := ⟨tJ hV4 aRr, fP hO4 aRr⟩; have qL : Below (w.heap.size + 1) w0 ((z4.setCell ⟨w.heap.size + 1, 0, none⟩ (.slice va nv vc)).setCell ⟨w.heap.size + 1, 1, none⟩ (.slice oa no oc)) := ((show Below (w.heap.size + 1) w0 z4 from cW.mono (by omega)).setCell (p := ⟨w.heap.size + 1, 0, none⟩) aRr _).setCell (p := ⟨w.heap.size + 1, 1, none⟩) aRr _
   have qU : ∀ j, j ≠ w.heap.size + 1 → ((z4.setCell ⟨w.heap.size + 1, 0, none⟩ (.slice va nv vc)).setCell ⟨w.heap.size + 1, 1, none⟩ (.slice oa no oc)).heap[j]? = z4.heap[j]? := fun j hj => aE _ _ hj
   have uN : Hid (((z4.setCell ⟨w.heap.size + 1, 0, none⟩ (.slice va nv vc)).setCell ⟨w.heap.size + 1, 1, none⟩ (.slice oa no oc)).heap[w.heap.size + 1]? = some (.cells #[.slice va nv vc, .slice oa no oc] 27 (0, 0))) := cH _ _ xO.out; have W7 : ((z4.setCell ⟨w.heap.size + 1, 0, none⟩ (.slice va nv vc)).setCell ⟨w.heap.size + 1, 1, none⟩ (.slice oa no oc)).heap.size = z4.heap.size := bB _ _ _ _; refine rk 9 rfl (fun K hK => ?_)
   go_simp
   refine hK.out _ _ ⟨(qL.cell (p := ⟨w.heap.size, 0, none⟩) (by show w.heap.size < _; omega)).trans c0, (qL.cell (p := ⟨w.heap.size, 1, none⟩) (by show w.heap.size < _; omega)).trans c1⟩ (fun aIG => ?_)
   clear hK K
   (try simp only [Act.put, u1, u2, u3])
   refine wpAnyH_done (by kernel_rfl) ?_ _
   generalize (z4.setCell ⟨w.heap.size + 1, 0, none⟩ (.slice va nv vc)).setCell ⟨w.heap.size + 1, 1, none⟩ (.slice oa no oc) = wf at uN qL qU W7 ⊢; obtain ⟨q0, q1⟩ := pair_cells uN.out; have sX : Hid (Own wf w.heap.size wf.heap.size va nv xs ∧ bE wf w.heap.size wf.heap.size oa no l) := ⟨((HP.out.1.kept (w' := wf) fun j h1 h2 => qU j (by omega)).more (by omega) (by omega)), ((HP.out.2.kept (w' := wf) fun j h1 h2 => qU j (by omega)).more (by omega) (by omega))⟩
   have bS := aRp (HB.out.trans (qL.mono (by omega)))
   have nL := aRp hca; have pH := aRp cC; clear qU W7 HP xO r0 r1 f0 f1 qL hca cC; go_wp2
   exact bodyPost_ret (v := .agg #[.slice va nv vc, .slice oa no oc]) (by simp [results, Tryz.results47, go_sem, q0, q1]) rfl ⟨va, vc, oa, oc, by rw [vQ.out, oQ.out], by rw [vQ.out]; exact sX.out.1, by rw [oQ.out]; exact sX.out.2, bS.out, by rw [vQ.out]; exact nL.out, by rw [oQ.out]; exact pH.out⟩
  refine AllReadyH.cons rfl (fun K hK => ?_) AllReadyH.nil
  have aW : Below w0.heap.size w0 (z1.alloc (.cells #[] 50)) := aF.alloc aF.size _; have hO5 : (z1.alloc (.cells #[] 50)).ownsRow w0.heap.size 50 8 (.slice (some ⟨z1.heap.size, 0, none⟩) 0 0) 0 (aG []) := World.ownsRow_made z1 #[] 0 aF.size (by unfold maxLen; omega) rfl
  have hV5 := hV1.alloc (.cells #[] 50)
  go_simp
  refine hK.out _ _ ⟨(aW.cell (p := ⟨w.heap.size, 0, none⟩) (by show w.heap.size < _; omega)).trans c0, (aW.cell (p := ⟨w.heap.size, 1, none⟩) (by show w.heap.size < _; omega)).trans c1⟩ (fun jU => ?_)
  clear hK K
  (try simp only [Act.put, u1, u2, u3])
  generalize z1.alloc (.cells #[] 50) = z5 at jU aW hO5 hV5 ⊢; refine rk 3 rfl (fun K hK => ?_)
  obtain ⟨vA6, z6, hrun, hW, eZ⟩ := aCM z5 w0.heap.size _ 0 [] hV5 B av nv cv xs (HV.out.below aW (by omega)) HCV.out (by omega) aW.size
  have hV6 : z6.ownsRow w0.heap.size 2 1 vA6 nv (xs.map (Value.int .i64)) := by simpa using hW
  obtain ⟨va, vc, rfl, hca⟩ := mB hV6; have hO6 := hO5.kept eZ (Z9 hO5 hV5 (by decide))
  have hM := aW.grown eZ aW.size (fun j hj => (hV5.lt j hj).1)
  rw [if_pos (by rfl)]
  refine vU _ _ _ rfl _ _ rfl rfl hrun ?_
  refine hK.out _ _ ⟨(hM.cell (p := ⟨w.heap.size, 0, none⟩) (by show w.heap.size < _; omega)).trans c0, (hM.cell (p := ⟨w.heap.size, 1, none⟩) (by show w.heap.size < _; omega)).trans c1⟩ (fun rN => ?_)
  clear hK K hrun hW eZ
  (try simp only [Act.put, u1, u2, u3])
  refine rk 7 rfl (fun K hK => ?_)
  obtain ⟨vA7, z7, hrun, hW, eZ⟩ := pF z6 w0.heap.size _ 0 [] hO6 B ao no co l (HO.out.below hM (by omega)) iA.out (by omega) hM.size
  have hO7 : z7.ownsRow w0.heap.size 50 8 vA7 no (aG l) := by simpa using hW
  obtain ⟨oa, oc, rfl, cC⟩ := mB hO7; have hV7 := hV6.kept eZ (Z9 hV6 hO6 (by decide))
  have rL := hM.grown eZ hM.size (fun j hj => (hO6.lt j hj).1)
  rw [if_pos (by rfl)]
  refine vU _ _ _ rfl _ _ rfl rfl hrun ?_
  refine hK.out _ _ ⟨(rL.cell (p := ⟨w.heap.size, 0, none⟩) (by show w.heap.size < _; omega)).trans c0, (rL.cell (p := ⟨w.heap.size, 1, none⟩) (by show w.heap.size < _; omega)).trans c1⟩ (fun iE => ?_)
  clear hK K hrun hW eZ
  (try simp only [Act.put, u1, u2, u3])
  refine tj 8 ?_
  have xO := aRp ((rL.block _ dA).trans HR.out); obtain ⟨r0, r1⟩ := pair_cells xO.out; obtain ⟨f0, f1⟩ := aC xO.out; have HP : Hid (Own z7 w0.heap.size z7.heap.size va nv xs ∧ bE z7 w0.heap.size z7.heap.size oa no l) := ⟨tJ hV7 aRr, fP hO7 aRr⟩; have qL : Below (w.heap.size + 1) w0 ((z7.setCell ⟨w.heap.size + 1, 0, none⟩ (.slice va nv vc)).setCell ⟨w.heap.size + 1, 1, none⟩ (.slice oa no oc)) := ((show Below (w.heap.size + 1) w0 z7 from rL.mono (by omega)).setCell (p := ⟨w.heap.size + 1, 0, none⟩) aRr _).setCell (p := ⟨w.heap.size + 1, 1, none⟩) aRr _
  have qU : ∀ j, j ≠ w.heap.size + 1 → ((z7.setCell ⟨w.heap.size + 1, 0, none⟩ (.slice va nv vc)).setCell ⟨w.heap.size + 1, 1, none⟩ (.slice oa no oc)).heap[j]? = z7.heap[j]? := fun j hj => aE _ _ hj
  have uN : Hid (((z7.setCell ⟨w.heap.size + 1, 0, none⟩ (.slice va nv vc)).setCell ⟨w.heap.size + 1, 1, none⟩ (.slice oa no oc)).heap[w.heap.size + 1]? = some (.cells #[.slice va nv vc, .slice oa no oc] 27 (0, 0))) := cH _ _ xO.out; have W7 : ((z7.setCell ⟨w.heap.size + 1, 0, none⟩ (.slice va nv vc)).setCell ⟨w.heap.size + 1, 1, none⟩ (.slice oa no oc)).heap.size = z7.heap.size := bB _ _ _ _; refine rk 9 rfl (fun K hK => ?_)
  go_simp
  refine hK.out _ _ ⟨(qL.cell (p := ⟨w.heap.size, 0, none⟩) (by show w.heap.size < _; omega)).trans c0, (qL.cell (p := ⟨w.heap.size, 1, none⟩) (by show w.heap.size < _; omega)).trans c1⟩ (fun aIG => ?_)
  clear hK K
  (try simp only [Act.put, u1, u2, u3])
  refine wpAnyH_done (by kernel_rfl) ?_ _
  generalize (z7.setCell ⟨w.heap.size + 1, 0, none⟩ (.slice va nv vc)).setCell ⟨w.heap.size + 1, 1, none⟩ (.slice oa no oc) = wf at uN qL qU W7 ⊢; obtain ⟨q0, q1⟩ := pair_cells uN.out; have sX : Hid (Own wf w.heap.size wf.heap.size va nv xs ∧ bE wf w.heap.size wf.heap.size oa no l) := ⟨((HP.out.1.kept (w' := wf) fun j h1 h2 => qU j (by omega)).more (by omega) (by omega)), ((HP.out.2.kept (w' := wf) fun j h1 h2 => qU j (by omega)).more (by omega) (by omega))⟩
  have bS := aRp (HB.out.trans (qL.mono (by omega)))
  have nL := aRp hca; have pH := aRp cC; clear qU W7 HP xO r0 r1 f0 f1 qL hca cC; go_wp2
  exact bodyPost_ret (v := .agg #[.slice va nv vc, .slice oa no oc]) (by simp [results, Tryz.results47, go_sem, q0, q1]) rfl ⟨va, vc, oa, oc, by rw [vQ.out, oQ.out], by rw [vQ.out]; exact sX.out.1, by rw [oQ.out]; exact sX.out.2, bS.out, by rw [vQ.out]; exact nL.out, by rw [oQ.out]; exact pH.out⟩
 refine AllReadyH.cons rfl (fun K hK => ?_) AllReadyH.nil
 have pE : Below w0.heap.size w0 (z0.alloc (.cells #[] 50)) := hC.alloc hC.size _
 have hO8 : (z0.alloc (.cells #[] 50)).ownsRow w0.heap.size 50 8 (.slice (some ⟨z0.heap.size, 0, none⟩) 0 0) 0 (aG []) := World.ownsRow_made z0 #[] 0 hC.size (by unfold maxLen; omega) rfl
 go_simp
 refine hK.out _ _ ⟨(pE.cell (p := ⟨w.heap.size, 0, none⟩) (by show w.heap.size < _; omega)).trans c0, (pE.cell (p := ⟨w.heap.size, 1, none⟩) (by show w.heap.size < _; omega)).trans c1⟩ (fun tZ => ?_)
 clear hK K
 (try simp only [Act.put, u1, u2, u3])
 generalize z0.alloc (.cells #[] 50) = z8 at tZ pE hO8 ⊢
 refine rk 0 rfl (fun K hK => ?_)
 have nI : Below w0.heap.size w0 (z8.alloc (.cells #[] 2)) := pE.alloc pE.size _
 have hV9 : (z8.alloc (.cells #[] 2)).ownsRow w0.heap.size 2 1 (.slice (some ⟨z8.heap.size, 0, none⟩) 0 0) 0 (([] : List Int).map (Value.int .i64)) := World.ownsRow_made z8 #[] 0 pE.size (by unfold maxLen; omega) rfl
 have hO9 := hO8.alloc (.cells #[] 2)
 go_simp
 refine hK.out _ _ ⟨(nI.cell (p := ⟨w.heap.size, 0, none⟩) (by show w.heap.size < _; omega)).trans c0, (nI.cell (p := ⟨w.heap.size, 1, none⟩) (by show w.heap.size < _; omega)).trans c1⟩ (fun rM => ?_)
 clear hK K
 (try simp only [Act.put, u1, u2, u3])
 generalize z8.alloc (.cells #[] 2) = z9 at rM nI hV9 hO9 ⊢
 refine rk 3 rfl (fun K hK => ?_)
 obtain ⟨aPh, z10, hrun, hW, eZ⟩ := aCM z9 w0.heap.size _ 0 [] hV9 B av nv cv xs (HV.out.below nI (by omega)) HCV.out (by omega) nI.size
 have aKb : z10.ownsRow w0.heap.size 2 1 aPh nv (xs.map (Value.int .i64)) := by simpa using hW
 obtain ⟨va, vc, rfl, hca⟩ := mB aKb
 have aKd := hO9.kept eZ (Z9 hO9 hV9 (by decide))
 have aCG := nI.grown eZ nI.size (fun j hj => (hV9.lt j hj).1)
 rw [if_pos (by rfl)]
 refine vU _ _ _ rfl _ _ rfl rfl hrun ?_
 refine hK.out _ _ ⟨(aCG.cell (p := ⟨w.heap.size, 0, none⟩) (by show w.heap.size < _; omega)).trans c0, (aCG.cell (p := ⟨w.heap.size, 1, none⟩) (by show w.heap.size < _; omega)).trans c1⟩ (fun aQv => ?_)
 clear hK K hrun hW eZ
 (try simp only [Act.put, u1, u2, u3])
 refine rk 7 rfl (fun K hK => ?_)
 obtain ⟨aPg, L8, hrun, hW, eZ⟩ := pF z10 w0.heap.size _ 0 [] aKd B ao no co l (HO.out.below aCG (by omega)) iA.out (by omega) aCG.size
 have aNK : L8.ownsRow w0.heap.size 50 8 aPg no (aG l) := by simpa using hW
 obtain ⟨oa, oc, rfl, cC⟩ := mB aNK
 have aP3 := aKb.kept eZ (Z9 aKb aKd (by decide))
 have aGZ := aCG.grown eZ aCG.size (fun j hj => (aKd.lt j hj).1)
 rw [if_pos (by rfl)]
 refine vU _ _ _ rfl _ _ rfl rfl hrun ?_
 refine hK.out _ _ ⟨(aGZ.cell (p := ⟨w.heap.size, 0, none⟩) (by show w.heap.size < _; omega)).trans c0, (aGZ.cell (p := ⟨w.heap.size, 1, none⟩) (by show w.heap.size < _; omega)).trans c1⟩ (fun aQu => ?_)
 clear hK K hrun hW eZ
 (try simp only [Act.put, u1, u2, u3])
 refine tj 8 ?_
 have xO := aRp ((aGZ.block _ dA).trans HR.out)
 obtain ⟨r0, r1⟩ := pair_cells xO.out
 obtain ⟨f0, f1⟩ := aC xO.out
 have HP : Hid (Own L8 w0.heap.size L8.heap.size va nv xs ∧ bE L8 w0.heap.size L8.heap.size oa no l) := ⟨tJ aP3 aRr, fP aNK aRr⟩
 have qL : Below (w.heap.size + 1) w0 ((L8.setCell ⟨w.heap.size + 1, 0, none⟩ (.slice va nv vc)).setCell ⟨w.heap.size + 1, 1, none⟩ (.slice oa no oc)) := ((show Below (w.heap.size + 1) w0 L8 from aGZ.mono (by omega)).setCell (p := ⟨w.heap.size + 1, 0, none⟩) aRr _).setCell (p := ⟨w.heap.size + 1, 1, none⟩) aRr _
 have qU : ∀ j, j ≠ w.heap.size + 1 → ((L8.setCell ⟨w.heap.size + 1, 0, none⟩ (.slice va nv vc)).setCell ⟨w.heap.size + 1, 1, none⟩ (.slice oa no oc)).heap[j]? = L8.heap[j]? := fun j hj => aE _ _ hj
 have uN : Hid (((L8.setCell ⟨w.heap.size + 1, 0, none⟩ (.slice va nv vc)).setCell ⟨w.heap.size + 1, 1, none⟩ (.slice oa no oc)).heap[w.heap.size + 1]? = some (.cells #[.slice va nv vc, .slice oa no oc] 27 (0, 0))) := cH _ _ xO.out
 have W7 : ((L8.setCell ⟨w.heap.size + 1, 0, none⟩ (.slice va nv vc)).setCell ⟨w.heap.size + 1, 1, none⟩ (.slice oa no oc)).heap.size = L8.heap.size := bB _ _ _ _
 refine rk 9 rfl (fun K hK => ?_)
 go_simp
 refine hK.out _ _ ⟨(qL.cell (p := ⟨w.heap.size, 0, none⟩) (by show w.heap.size < _; omega)).trans c0, (qL.cell (p := ⟨w.heap.size, 1, none⟩) (by show w.heap.size < _; omega)).trans c1⟩ (fun aIG => ?_)
 clear hK K
 (try simp only [Act.put, u1, u2, u3])
 refine wpAnyH_done (by kernel_rfl) ?_ _
 generalize (L8.setCell ⟨w.heap.size + 1, 0, none⟩ (.slice va nv vc)).setCell ⟨w.heap.size + 1, 1, none⟩ (.slice oa no oc) = wf at uN qL qU W7 ⊢
 obtain ⟨q0, q1⟩ := pair_cells uN.out
 have sX : Hid (Own wf w.heap.size wf.heap.size va nv xs ∧ bE wf w.heap.size wf.heap.size oa no l) := ⟨((HP.out.1.kept (w' := wf) fun j h1 h2 => qU j (by omega)).more (by omega) (by omega)), ((HP.out.2.kept (w' := wf) fun j h1 h2 => qU j (by omega)).more (by omega) (by omega))⟩
 have bS := aRp (HB.out.trans (qL.mono (by omega)))
 have nL := aRp hca
 have pH := aRp cC
 clear qU W7 HP xO r0 r1 f0 f1 qL hca cC
 go_wp2
 exact bodyPost_ret (v := .agg #[.slice va nv vc, .slice oa no oc]) (by simp [results, Tryz.results47, go_sem, q0, q1]) rfl ⟨va, vc, oa, oc, by rw [vQ.out, oQ.out], by rw [vQ.out]; exact sX.out.1, by rw [oQ.out]; exact sX.out.2, bS.out, by rw [vQ.out]; exact nL.out, by rw [oQ.out]; exact pH.out⟩
set_option maxHeartbeats 10000000 in
theorem aGh (w : World) (B : Nat) (av ao : Option Addr) (nv cv no co : Nat) (l : List aA) (h : bR w B ao no l) (hB : B ≤ w.heap.size) (hn : no ≤ 1048576) : Calls Tryz.prog 120 #[.agg #[.slice av nv cv, .slice ao no co]] w fun e w' => e = .returned (.int .i64 (cX l l.length)) ∧ Below w.heap.size w w' := by
 have bG : Below w.heap.size w (w.alloc (.cells #[.slice av nv cv, .slice ao no co] 27)) := (Below.refl _ w).alloc aRr _
 have HO := aRp (h.below bG hB)
 have HB := aRp bG
 have HX := aRp (bM (Below.refl _ (w.alloc (.cells #[.slice av nv cv, .slice ao no co] 27))))
 have HL := aRp h.1
 clear h bG
 go_enter Tryz.func120, Tryz.ntmps120
 go_wp2_with fail
 generalize w.alloc (.cells #[.slice av nv cv, .slice ao no co] 27) = w0 at HO HB HX ⊢
 obtain ⟨c0, c1⟩ := pair_cells HX.out
 go_wp2
 go_loop [3, 4] (fun n i => ∃ k : Nat, k ≤ no ∧ i = .int .i64 k ∧ n = .int .i64 (cX l k)) (fun _ i => no - (intOf i).toNat)
 case atStart => exact ⟨0, Nat.zero_le _, rfl, rfl⟩
 case round =>
  obtain ⟨k, hk, rfl, rfl⟩ := hrel
  by_cases aM : k < no
  ·obtain ⟨b, off, rfl, hb, ho⟩ := HO.out.2 k aM
   obtain ⟨d0, d1, d2, d3, d4, d5, d6, d7⟩ := ho; have HU : Hid (cX l (k + 1) = max (cX l k) (l.getD k aA.zero).stamp) := rfl; generalize l.getD k aA.zero = x at HU d0 d1 d2 d3 d4 d5 d6 d7; go_wp2
   go_round
   case rel => exact ⟨k + 1, by omega, by go_num, by rw [HU.out]⟩
   case measure => simp [intOf]; omega
  ·obtain rfl : k = no := by omega
   go_wp2
   go_ret
   exact ⟨by rw [HL.out]; rfl, HB.out⟩
theorem dW (w : World) (b i j : Nat) (u v : Value) : Below b w ((w.setCell ⟨b, i, none⟩ u).setCell ⟨b, j, none⟩ v) := ((Below.refl b w).setCell (p := ⟨b, i, none⟩) aRr u).setCell (p := ⟨b, j, none⟩) aRr v
theorem gW (w : World) (b i : Nat) (u : Value) : Below b w (w.setCell ⟨b, i, none⟩ u) := (Below.refl b w).setCell (p := ⟨b, i, none⟩) aRr u
structure jE (w w1 : World) (x y z : Array Value) : Prop where
 fst : w1.heap[w.heap.size]? = some (.cells x 27 (0, 0))
 snd : w1.heap[w.heap.size + 1]? = some (.cells y 50 (0, 0))
 res : w1.heap[w.heap.size + 1 + 1]? = some (.cells z 27 (0, 0))
 bel : Below w.heap.size w w1
theorem jE.mk0 (w : World) (x y z : Array Value) : jE w (((w.alloc (.cells x 27)).alloc (.cells y 50)).alloc (.cells z 27)) x y z := by
 have e1 : (w.alloc (.cells x 27)).heap.size = w.heap.size + 1 := by simp
 have e2 : ((w.alloc (.cells x 27)).alloc (.cells y 50)).heap.size = w.heap.size + 1 + 1 := by simp
 refine ⟨?_, ?_, ?_, (((Below.refl _ w).alloc aRr _).alloc (by simp) _).alloc (by simp; omega) _⟩
 ·exact ((Below.heap_alloc _ _ _ (by omega)).trans (Below.heap_alloc _ _ _ (by omega))).trans (heap_alloc_new _ _)
 ·rw [← e1]; exact (Below.heap_alloc _ _ _ (by omega)).trans (heap_alloc_new _ _)
 ·rw [← e2]; exact heap_alloc_new _ _
theorem jE.next {w w1 w2 : World} {x y z : Array Value} (h : jE w w1 x y z) (hb : Below w1.heap.size w1 w2) : jE w w2 x y z :=
 ⟨(hb.block _ (aRq h.fst).1).trans h.fst, (hb.block _ (aRq h.snd).1).trans h.snd, (hb.block _ (aRq h.res).1).trans h.res, h.bel.trans (hb.mono h.bel.size)⟩
theorem jE.put {w w1 : World} {x y z : Array Value} (h : jE w w1 x y z) (i : Nat) (v : Value) : jE w (w1.setCell ⟨w.heap.size + 1, i, none⟩ v) x (y.setIfInBounds i v) z :=
 ⟨(heap_setCell_other _ _ _ _ (by show w.heap.size ≠ w.heap.size + 1; omega)).trans h.fst, heap_setCell_same _ _ _ _ _ _ h.snd, (heap_setCell_other _ _ _ _ (by show w.heap.size + 1 + 1 ≠ w.heap.size + 1; omega)).trans h.res, h.bel.setCell (p := ⟨w.heap.size + 1, i, none⟩) (by show _ ≤ w.heap.size + 1; omega) v⟩
theorem jE.far {w w1 w2 : World} {x y z : Array Value} (h : jE w w1 x y z) (hb : Below (w.heap.size + 1 + 1 + 1) w1 w2) : jE w w2 x y z :=
 ⟨(hb.block _ (by omega)).trans h.fst, (hb.block _ (by omega)).trans h.snd, (hb.block _ (by omega)).trans h.res, h.bel.trans (hb.mono (by omega))⟩
theorem jE.lt {w w1 : World} {x y z : Array Value} (h : jE w w1 x y z) : w.heap.size + 1 + 1 < w1.heap.size := (aRq h.res).1
theorem jE.set2 {w w1 : World} {x y : Array Value} {z0 z1 : Value} (h : jE w w1 x y #[z0, z1]) (u v : Value) :
  ((w1.setCell ⟨w.heap.size + 1 + 1, 0, none⟩ u).setCell ⟨w.heap.size + 1 + 1, 1, none⟩ v).heap[w.heap.size + 1 + 1]? = some (.cells #[u, v] 27 (0, 0)) ∧ Below (w.heap.size + 1 + 1) w1 ((w1.setCell ⟨w.heap.size + 1 + 1, 0, none⟩ u).setCell ⟨w.heap.size + 1 + 1, 1, none⟩ v) :=
 ⟨cH _ _ h.res, dW _ _ _ _ _ _⟩
def aKy (ok : Bool) (zs : List Int) (L : List aA) (w : World) (e : Ending) (w' : World) : Prop := ∃ va vc oa oc, e = .returned (.tuple #[.agg #[.slice va zs.length vc, .slice oa L.length oc], .bool ok]) ∧ Own w' w.heap.size w'.heap.size va zs.length zs ∧ bE w' w.heap.size w'.heap.size oa L.length L ∧ Below w.heap.size w w' ∧ bY va zs.length vc ∧ bY oa L.length oc
theorem aCt (w : World) (o : aA) : bR (w.alloc (.cells #[.int .i64 o.dev, .int .i64 o.seq, .int .i64 o.stamp, .int .i64 o.kind, .string o.item, .int .i64 o.qty, .int .i64 o.level, .int .i64 o.undos] 50)) (w.heap.size + 1) (some ⟨w.heap.size, 0, none⟩) 1 [o] := by
 refine ⟨rfl, fun i hi => ⟨w.heap.size, 0, rfl, Nat.lt_succ_self _, ?_⟩⟩
 obtain rfl : i = 0 := by omega
 exact aH (heap_alloc_new w _)
theorem oR (w : World) (lo hi : Nat) (a : Option Addr) : Own w lo hi a 0 [] := ⟨rfl, fun h => absurd h (by omega)⟩
set_option maxHeartbeats 40000000 in
theorem aMf (w : World) (B : Nat) (av ao : Option Addr) (cv no co d : Nat) (xs : List Int) (l : List aA) (o : aA) (hx : Ints w B av 4 xs) (h : bR w B ao no l) (hB : B ≤ w.heap.size) (bU : av = none → cv = 0) (cC : bY ao no co) (hd : d < 4) (hn : no ≤ 100000) (nH : 0 ≤ xs.getD d 0 ∧ xs.getD d 0 ≤ 1000) (eY : ∀ i, i < l.length → (aB l i).stamp ≤ 200000) (hi : o.item.size ≤ 1048576) (hok : (aK xs l d o).ok = false) :
  Calls Tryz.prog 90 #[.agg #[.slice av 4 cv, .slice ao no co], .int .i64 (d : Int), .agg #[.int .i64 o.dev, .int .i64 o.seq, .int .i64 o.stamp, .int .i64 o.kind, .string o.item, .int .i64 o.qty, .int .i64 o.level, .int .i64 o.undos]] w (aKy false [] [] w) := by
 have hT := jE.mk0 w #[.slice av 4 cv, .slice ao no co] #[.int .i64 o.dev, .int .i64 o.seq, .int .i64 o.stamp, .int .i64 o.kind, .string o.item, .int .i64 o.qty, .int .i64 o.level, .int .i64 o.undos] #[.slice none 0 0, .slice none 0 0]
 have HV := aRp (hx.below hT.bel hB)
 have HO := aRp (h.below hT.bel hB)
 have HT := aRp hT
 have vQ := aRp hx.1
 have oQ := aRp h.1
 have HCV := aRp bU
 have iA := aRp cC
 have yU := pI l l.length
 have dQ := tG (N := 200000) (by omega) eY l.length aRr
 have HOK : Hid (dP (d : Int) (xs.getD d 0 + 1) (cX l l.length + 1) o.kind o.item o.qty o.level o.undos = false) := hok
 have Y3 : Hid (aK xs l d o = ⟨(d : Int), xs.getD d 0 + 1, cX l l.length + 1, o.kind, o.item, o.qty, o.level, o.undos⟩) := rfl
 have E8 : Hid (dH xs d = xs.set d (xs.getD d 0 + 1)) := rfl
 clear hx h hT eY hok bU cC
 go_enter Tryz.func90, Tryz.ntmps90
 go_upto_region 1 with fail
 generalize ((w.alloc (.cells #[.slice av 4 cv, .slice ao no co] 27)).alloc (.cells #[.int .i64 o.dev, .int .i64 o.seq, .int .i64 o.stamp, .int .i64 o.kind, .string o.item, .int .i64 o.qty, .int .i64 o.level, .int .i64 o.undos] 50)).alloc (.cells #[.slice none 0 0, .slice none 0 0] 27) = w0 at HV HO HT ⊢
 obtain ⟨b, off, rfl, hb, hc⟩ := HV.out.2 d hd
 obtain ⟨x, qH⟩ : ∃ x, x = xs.getD d 0 := ⟨_, rfl⟩
 obtain ⟨S, eI⟩ : ∃ S, S = cX l l.length := ⟨_, rfl⟩
 rw [← qH, ← eI] at HOK Y3
 rw [← qH] at hc nH E8
 rw [← eI] at yU dQ
 have HSE := aRp eI
 obtain ⟨vC, hx1⟩ := nH
 clear qH eI
 obtain ⟨q0, q1⟩ := pair_cells HT.out.fst
 obtain ⟨o0, o1, o2, o3, o4, o5, o6, o7⟩ := aH HT.out.snd
 obtain ⟨f0, f1, f2, f3, f4, f5, f6, f7⟩ := cB HT.out.snd
 have hdi : (d : Int) < 4 := by omega
 have lC := HT.out.lt
 have xP := aRp ((HT.out.put 0 (.int .i64 (d : Int))).put 1 (.int .i64 (x + 1)))
 have N6 : Below (w.heap.size + 1) w0 ((w0.setCell ⟨w.heap.size + 1, 0, none⟩ (.int .i64 (d : Int))).setCell ⟨w.heap.size + 1, 1, none⟩ (.int .i64 (x + 1))) := dW _ _ _ _ _ _
 have jZ := aRp (HV.out.below N6 (by omega))
 have fJ := aRp (HO.out.below N6 (by omega))
 have hl2 := xP.out.lt
 clear N6
 go_upto_region 3 with fail
 generalize (w0.setCell ⟨w.heap.size + 1, 0, none⟩ (.int .i64 (d : Int))).setCell ⟨w.heap.size + 1, 1, none⟩ (.int .i64 (x + 1)) = w2 at xP jZ fJ hl2 ⊢
 clear q0 q1 o0 o1 o2 o3 o4 o5 o6 o7 f0 f1 f2 f3 f4 f5 f6 f7 hc HV HO HT lC
 obtain ⟨q0, q1⟩ := pair_cells xP.out.fst
 go_wp2_with fail
 refine (aGh w2 B _ ao 4 cv no co l fJ.out (by omega) (by omega)).mono ?_
 rintro e w3 ⟨rfl, aS⟩
 rw [← HSE.out]
 have HP3 := aRp (xP.out.next aS)
 have Y0 := aRp (jZ.out.below aS (by omega))
 have uY := aRp (fJ.out.below aS (by omega))
 have iD := aS.size
 clear aS xP jZ fJ q0 q1
 obtain ⟨o0, o1, o2, o3, o4, o5, o6, o7⟩ := aH HP3.out.snd
 obtain ⟨f0, f1, f2, f3, f4, f5, f6, f7⟩ := cB HP3.out.snd
 have oO := aRp (HP3.out.put 2 (.int .i64 (S + 1)))
 have mL : Below (w.heap.size + 1) w3 (w3.setCell ⟨w.heap.size + 1, 2, none⟩ (.int .i64 (S + 1))) := gW _ _ _ _
 have qX := aRp (Y0.out.below mL (by omega))
 have pV := aRp (uY.out.below mL (by omega))
 have qK : w.heap.size + 1 + 1 < (w3.setCell ⟨w.heap.size + 1, 2, none⟩ (.int .i64 (S + 1))).heap.size := oO.out.lt
 clear mL
 go_upto_region 4 with fail
 generalize w3.setCell ⟨w.heap.size + 1, 2, none⟩ (.int .i64 (S + 1)) = w4 at oO qX pV qK ⊢
 clear o0 o1 o2 o3 o4 o5 o6 o7 f0 f1 f2 f3 f4 f5 f6 f7 HP3 Y0 uY iD
 obtain ⟨o0, o1, o2, o3, o4, o5, o6, o7⟩ := aH (show w4.heap[w.heap.size + 1]? = some (.cells #[.int .i64 (d : Int), .int .i64 (x + 1), .int .i64 (S + 1), .int .i64 o.kind, .string o.item, .int .i64 o.qty, .int .i64 o.level, .int .i64 o.undos] 50 (0, 0)) from oO.out.snd)
 go_wp2_with fail
 refine (aAY (d : Int) (x + 1) (S + 1) o.kind o.item o.qty o.level o.undos w4 hi).mono ?_
 rintro e w5 ⟨rfl, aW⟩
 rw [HOK.out]
 have rP := aRp (oO.out.next aW)
 have HV5 := aRp (qX.out.below aW (by omega))
 have HO5 := aRp (pV.out.below aW (by omega))
 have hl5 := rP.out.lt
 clear aW oO qX pV qK o0 o1 o2 o3 o4 o5 o6 o7
 obtain ⟨r0, r1⟩ := pair_cells rP.out.res
 obtain ⟨g0, g1⟩ := aC rP.out.res
 have bL := aRp (rP.out.set2 (.slice none 0 0) (.slice none 0 0)).1
 have eC := aRp (rP.out.bel.trans ((rP.out.set2 (.slice none 0 0) (.slice none 0 0)).2.mono (by omega)))
 go_wp2
 change bodyPost _ _ _ _ _ ((w5.setCell ⟨w.heap.size + 1 + 1, 0, none⟩ (.slice none 0 0)).setCell ⟨w.heap.size + 1 + 1, 1, none⟩ (.slice none 0 0))
 generalize (w5.setCell ⟨w.heap.size + 1 + 1, 0, none⟩ (.slice none 0 0)).setCell ⟨w.heap.size + 1 + 1, 1, none⟩ (.slice none 0 0) = wf at bL eC ⊢
 obtain ⟨q0, q1⟩ := pair_cells bL.out
 exact bodyPost_ret (v := .tuple #[.agg #[.slice none 0 0, .slice none 0 0], .bool false]) (by simp [results, Tryz.results90, go_sem, q0, q1]) rfl ⟨none, 0, none, 0, rfl, oR _ _ _ _, fA _ _ _ _, eC.out, cP, cP⟩
set_option maxHeartbeats 40000000 in
theorem aJx (w : World) (B : Nat) (av ao : Option Addr) (cv no co d : Nat) (xs : List Int) (l : List aA) (o : aA) (hx : Ints w B av 4 xs) (h : bR w B ao no l) (hB : B ≤ w.heap.size) (bU : av = none → cv = 0) (cC : bY ao no co) (hd : d < 4) (hn : no ≤ 100000) (nH : 0 ≤ xs.getD d 0 ∧ xs.getD d 0 ≤ 1000) (eY : ∀ i, i < l.length → (aB l i).stamp ≤ 200000) (hi : o.item.size ≤ 1048576) (hok : (aK xs l d o).ok = true) :
  Calls Tryz.prog 90 #[.agg #[.slice av 4 cv, .slice ao no co], .int .i64 (d : Int), .agg #[.int .i64 o.dev, .int .i64 o.seq, .int .i64 o.stamp, .int .i64 o.kind, .string o.item, .int .i64 o.qty, .int .i64 o.level, .int .i64 o.undos]] w (aKy true (dH xs d) (bH l d (aK xs l d o)) w) := by
 have hT := jE.mk0 w #[.slice av 4 cv, .slice ao no co] #[.int .i64 o.dev, .int .i64 o.seq, .int .i64 o.stamp, .int .i64 o.kind, .string o.item, .int .i64 o.qty, .int .i64 o.level, .int .i64 o.undos] #[.slice none 0 0, .slice none 0 0]
 have HV := aRp (hx.below hT.bel hB)
 have HO := aRp (h.below hT.bel hB)
 have HT := aRp hT
 have vQ := aRp hx.1
 have oQ := aRp h.1
 have HCV := aRp bU
 have iA := aRp cC
 have yU := pI l l.length
 have dQ := tG (N := 200000) (by omega) eY l.length aRr
 have HOK : Hid (dP (d : Int) (xs.getD d 0 + 1) (cX l l.length + 1) o.kind o.item o.qty o.level o.undos = true) := hok
 have Y3 : Hid (aK xs l d o = ⟨(d : Int), xs.getD d 0 + 1, cX l l.length + 1, o.kind, o.item, o.qty, o.level, o.undos⟩) := rfl
 have E8 : Hid (dH xs d = xs.set d (xs.getD d 0 + 1)) := rfl
 clear hx h hT eY hok bU cC
 go_enter Tryz.func90, Tryz.ntmps90
 go_upto_region 1 with fail
 generalize ((w.alloc (.cells #[.slice av 4 cv, .slice ao no co] 27)).alloc (.cells #[.int .i64 o.dev, .int .i64 o.seq, .int .i64 o.stamp, .int .i64 o.kind, .string o.item, .int .i64 o.qty, .int .i64 o.level, .int .i64 o.undos] 50)).alloc (.cells #[.slice none 0 0, .slice none 0 0] 27) = w0 at HV HO HT ⊢
 obtain ⟨b, off, rfl, hb, hc⟩ := HV.out.2 d hd
 obtain ⟨x, qH⟩ : ∃ x, x = xs.getD d 0 := ⟨_, rfl⟩
 obtain ⟨S, eI⟩ : ∃ S, S = cX l l.length := ⟨_, rfl⟩
 rw [← qH, ← eI] at HOK Y3
 rw [← qH] at hc nH E8
 rw [← eI] at yU dQ
 have HSE := aRp eI
 obtain ⟨vC, hx1⟩ := nH
 clear qH eI
 obtain ⟨q0, q1⟩ := pair_cells HT.out.fst
 obtain ⟨o0, o1, o2, o3, o4, o5, o6, o7⟩ := aH HT.out.snd
 obtain ⟨f0, f1, f2, f3, f4, f5, f6, f7⟩ := cB HT.out.snd
 have hdi : (d : Int) < 4 := by omega
 have lC := HT.out.lt
 have xP := aRp ((HT.out.put 0 (.int .i64 (d : Int))).put 1 (.int .i64 (x + 1)))
 have N6 : Below (w.heap.size + 1) w0 ((w0.setCell ⟨w.heap.size + 1, 0, none⟩ (.int .i64 (d : Int))).setCell ⟨w.heap.size + 1, 1, none⟩ (.int .i64 (x + 1))) := dW _ _ _ _ _ _
 have jZ := aRp (HV.out.below N6 (by omega))
 have fJ := aRp (HO.out.below N6 (by omega))
 have hl2 := xP.out.lt
 clear N6
 go_upto_region 3 with fail
 generalize (w0.setCell ⟨w.heap.size + 1, 0, none⟩ (.int .i64 (d : Int))).setCell ⟨w.heap.size + 1, 1, none⟩ (.int .i64 (x + 1)) = w2 at xP jZ fJ hl2 ⊢
 clear q0 q1 o0 o1 o2 o3 o4 o5 o6 o7 f0 f1 f2 f3 f4 f5 f6 f7 hc HV HO HT lC
 obtain ⟨q0, q1⟩ := pair_cells xP.out.fst
 go_wp2_with fail
 refine (aGh w2 B _ ao 4 cv no co l fJ.out (by omega) (by omega)).mono ?_
 rintro e w3 ⟨rfl, aS⟩
 rw [← HSE.out]
 have HP3 := aRp (xP.out.next aS)
 have Y0 := aRp (jZ.out.below aS (by omega))
 have uY := aRp (fJ.out.below aS (by omega))
 have iD := aS.size
 clear aS xP jZ fJ q0 q1
 obtain ⟨o0, o1, o2, o3, o4, o5, o6, o7⟩ := aH HP3.out.snd
 obtain ⟨f0, f1, f2, f3, f4, f5, f6, f7⟩ := cB HP3.out.snd
 have oO := aRp (HP3.out.put 2 (.int .i64 (S + 1)))
 have mL : Below (w.heap.size + 1) w3 (w3.setCell ⟨w.heap.size + 1, 2, none⟩ (.int .i64 (S + 1))) := gW _ _ _ _
 have qX := aRp (Y0.out.below mL (by omega))
 have pV := aRp (uY.out.below mL (by omega))
 have qK : w.heap.size + 1 + 1 < (w3.setCell ⟨w.heap.size + 1, 2, none⟩ (.int .i64 (S + 1))).heap.size := oO.out.lt
 clear mL
 go_upto_region 4 with fail
 generalize w3.setCell ⟨w.heap.size + 1, 2, none⟩ (.int .i64 (S + 1)) = w4 at oO qX pV qK ⊢
 clear o0 o1 o2 o3 o4 o5 o6 o7 f0 f1 f2 f3 f4 f5 f6 f7 HP3 Y0 uY iD
 obtain ⟨o0, o1, o2, o3, o4, o5, o6, o7⟩ := aH (show w4.heap[w.heap.size + 1]? = some (.cells #[.int .i64 (d : Int), .int .i64 (x + 1), .int .i64 (S + 1), .int .i64 o.kind, .string o.item, .int .i64 o.qty, .int .i64 o.level, .int .i64 o.undos] 50 (0, 0)) from oO.out.snd)
 go_wp2_with fail
 refine (aAY (d : Int) (x + 1) (S + 1) o.kind o.item o.qty o.level o.undos w4 hi).mono ?_
 rintro e w5 ⟨rfl, aW⟩
 rw [HOK.out]
 have rP := aRp (oO.out.next aW)
 have HV5 := aRp (qX.out.below aW (by omega))
 have HO5 := aRp (pV.out.below aW (by omega))
 have hl5 := rP.out.lt
 clear aW oO qX pV qK o0 o1 o2 o3 o4 o5 o6 o7
 obtain ⟨q0, q1⟩ := pair_cells rP.out.fst
 go_wp2_with fail
 refine (aEp w5 B _ ao 4 cv no co xs l HV5.out HO5.out (by omega) HCV.out iA.out.2.2 (by omega) (by omega)).mono ?_
 rintro e w6 ⟨va, vc, oa, oc, rfl, G2, xD, hM, aJ4, aNA⟩
 rw [vQ.out] at G2 aJ4 ⊢
 rw [oQ.out] at xD aNA ⊢
 have E9 := aRp (rP.out.next hM)
 have HV6 := aRp (HV5.out.below hM (by omega))
 have HO6 := aRp (HO5.out.below hM (by omega))
 obtain ⟨gv, aY, rfl, bZ, eA, hgv, aEN⟩ := G2.2 (by omega)
 have M9 := hM.size
 have HGV := aRp hgv
 have HCU := aRp aEN
 have HCA := aRp aJ4
 clear hM rP HV5 HO5 q0 q1 G2 xD aNA hgv aEN aJ4
 have hgs : gv < w6.heap.size := eA
 obtain ⟨q0, q1⟩ := pair_cells E9.out.fst
 obtain ⟨o0, o1, o2, o3, o4, o5, o6, o7⟩ := aH (show w6.heap[w.heap.size + 1]? = some (.cells #[.int .i64 (d : Int), .int .i64 (x + 1), .int .i64 (S + 1), .int .i64 o.kind, .string o.item, .int .i64 o.qty, .int .i64 o.level, .int .i64 o.undos] 50 (0, 0)) from E9.out.snd)
 go_upto_region 7 with fail
 have rL : Below w6.heap.size w6 (w6.alloc (.cells #[.slice (some ⟨gv, 0, none⟩) 4 vc, .slice oa no oc] 27)) := bl
 have X9 := aRp (bM (Below.refl _ (w6.alloc (.cells #[.slice (some ⟨gv, 0, none⟩) 4 vc, .slice oa no oc] 27))))
 have HP7 := aRp (E9.out.next rL)
 have HV7 := aRp (HV6.out.below rL (by omega))
 have O7 := aRp (HO6.out.below rL (by omega))
 have HG7 := aRp ((rL.block _ hgs).trans HGV.out)
 generalize w6.alloc (.cells #[.slice (some ⟨gv, 0, none⟩) 4 vc, .slice oa no oc] 27) = w7 at rL X9 HP7 HV7 O7 HG7 ⊢
 have hs7 := rL.size
 have hx7 : w6.heap.size < w7.heap.size := (aRq X9.out).1
 clear rL E9 HV6 HO6 HGV q0 q1 o0 o1 o2 o3 o4 o5 o6 o7
 generalize w6.heap.size = ob at M9 hgs hs7 hx7 X9 eA ⊢
 obtain ⟨x0, x1⟩ := pair_cells X9.out
 obtain ⟨F4, F3⟩ := aC X9.out
 obtain ⟨o0, o1, o2, o3, o4, o5, o6, o7⟩ := aH (show w7.heap[w.heap.size + 1]? = some (.cells #[.int .i64 (d : Int), .int .i64 (x + 1), .int .i64 (S + 1), .int .i64 o.kind, .string o.item, .int .i64 o.qty, .int .i64 o.level, .int .i64 o.undos] 50 (0, 0)) from HP7.out.snd)
 have bU : ∃ z, w7.cell? ⟨gv, d, none⟩ = some z := ⟨_, (aRs HG7.out).trans (HCU.out d hd)⟩
 obtain ⟨z, hcz⟩ := bU
 have hfz : w7.frozen? ⟨gv, d, none⟩ = false := aRt HG7.out
 have pE : Below gv w7 (w7.setCell ⟨gv, d, none⟩ (.int .i64 (x + 1))) := gW _ _ _ _
 have aNo : ∀ j, j ≠ gv → (w7.setCell ⟨gv, d, none⟩ (.int .i64 (x + 1))).heap[j]? = w7.heap[j]? := fun j hj => heap_setCell_other _ _ _ _ hj
 have HG8 : Hid ((w7.setCell ⟨gv, d, none⟩ (.int .i64 (x + 1))).heap[gv]? = some (.cells (aY.setIfInBounds d (.int .i64 (x + 1))) 2 (0, 0))) := heap_setCell_same _ _ _ _ _ _ HG7.out
 have HX8 := aRp ((aNo ob (by omega)).trans X9.out)
 have HP8 := aRp (HP7.out.far (pE.mono (by omega)))
 have xR := aRp (O7.out.below pE (by omega))
 have hz8 : (w7.setCell ⟨gv, d, none⟩ (.int .i64 (x + 1))).heap.size = w7.heap.size := by simp [World.setCell]
 have hx8 : ob < (w7.setCell ⟨gv, d, none⟩ (.int .i64 (x + 1))).heap.size := by omega
 go_upto_region 8 with fail
 generalize w7.setCell ⟨gv, d, none⟩ (.int .i64 (x + 1)) = w8 at HG8 HX8 HP8 xR hx8 ⊢
 clear pE aNo hz8 hcz hfz x0 x1 F4 F3 o0 o1 o2 o3 o4 o5 o6 o7 X9 HP7 HV7 O7 HG7
 obtain ⟨q0, q1⟩ := pair_cells HP8.out.fst
 have aKC := aRp (mX (d : Int) l)
 have aOg := fun i h => aRp (aA0 (dev := (d : Int)) (l := l) (i := i) h)
 have aOf := fun h => aRp (c9 (dev := (d : Int)) (l := l) h)
 have HQd : Hid (bH l d (aK xs l d o) = l.take (putAt (d : Int) l) ++ [aK xs l d o] ++ l.drop (putAt (d : Int) l)) := rfl
 rw [Y3.out] at HQd
 obtain ⟨p, hp⟩ : ∃ p, p = putAt (d : Int) l := ⟨_, rfl⟩
 rw [← hp] at aKC aOg aOf HQd
 have hpn : p ≤ no := by have := aKC.out; have := oQ.out; omega
 clear hp aKC
 go_wp2
 go_loop [9] (fun i => ∃ k : Nat, k ≤ p ∧ i = .int .i64 (k : Int)) (fun i => p - (intOf i).toNat)
 case atStart => exact ⟨0, Nat.zero_le _, rfl⟩
 case round =>
  obtain ⟨k, hk, rfl⟩ := hrel
  by_cases hkp : k < p
  ·obtain ⟨b2, aQ, rfl, aI, ho⟩ := xR.out.2 k (by omega)
   obtain ⟨d0, d1, d2, d3, d4, d5, d6, d7⟩ := ho; have iO := (aOg k hkp).out; have aPV : (l.getD k aA.zero).dev ≤ (d : Int) := iO; clear iO; generalize l.getD k aA.zero = y at aPV d0 d1 d2 d3 d4 d5 d6 d7; have aM : (k : Int) < (no : Int) := by omega
   go_wp2
   go_round
   case rel => exact ⟨k + 1, by omega, by go_num⟩
   case measure => simp [intOf]; omega
  obtain rfl : k = p := by omega
  by_cases hkn : k < no
  ·obtain ⟨b2, aQ, rfl, aI, ho⟩ := xR.out.2 k hkn
   obtain ⟨d0, d1, d2, d3, d4, d5, d6, d7⟩ := ho; have aPW := (aOf (by rw [oQ.out]; exact hkn)).out
   have iO : ¬ (l.getD k aA.zero).dev ≤ (d : Int) := by show ¬ (aB l k).dev ≤ _; omega
   clear aPW; generalize l.getD k aA.zero = y at iO d0 d1 d2 d3 d4 d5 d6 d7; have N1 : decide (y.dev ≤ (d : Int)) = false := decide_eq_false iO; have aM : decide ((k : Int) < (no : Int)) = true := decide_eq_true (by omega)
   clear iO
   go_upto_region 11 with fail
   clear N1 aM d0 d1 d2 d3 d4 d5 d6 d7; have oB : ¬ (co : Int) = (k : Int) := by have := iA.out.1; omega
   have hw8 : w8.heap.size ≤ w8.heap.size := Nat.le_refl _; have nI : Below w8.heap.size w8 (w8.alloc (.cells #[] 50)) := bl; have m7 : (w8.alloc (.cells #[] 50)).ownsRow w8.heap.size 50 8 (.slice (some ⟨w8.heap.size, 0, none⟩) 0 0) 0 (aG []) := World.ownsRow_made w8 #[] 0 aRr (by unfold maxLen; omega) rfl
   obtain ⟨v1, w9, nP, cR, oA⟩ := pF _ w8.heap.size _ 0 [] m7 B _ k co (l.take k) ((xR.out.below nI (by omega)).take hpn) iA.out.2.2 (by omega) nI.size
   have kP : w9.ownsRow w8.heap.size 50 8 v1 k (aG (l.take k)) := by simpa using cR
   have sS : Below w8.heap.size w8 w9 := nI.grown oA nI.size (fun j hj => (m7.lt j hj).1)
   have hkc : (k : Int) ≤ (co : Int) := by have := iA.out.1; omega
   obtain ⟨qa0, qa1⟩ := pair_cells (HP8.out.next nI).fst; clear cR oA m7; have yW := aRp (HP8.out.next sS); have HX9 := aRp ((sS.block _ hx8).trans HX8.out); have HO9 := aRp (xR.out.below sS (by omega))
   have xU := aRp sS; have qJ := sS.size; clear sS nI q0 q1; obtain ⟨o0, o1, o2, o3, o4, o5, o6, o7⟩ := aH (show w9.heap[w.heap.size + 1]? = some (.cells #[.int .i64 (d : Int), .int .i64 (x + 1), .int .i64 (S + 1), .int .i64 o.kind, .string o.item, .int .i64 o.qty, .int .i64 o.level, .int .i64 o.undos] 50 (0, 0)) from yW.out.snd); have gL : Below w9.heap.size w9 (w9.alloc (.cells #[.int .i64 (d : Int), .int .i64 (x + 1), .int .i64 (S + 1), .int .i64 o.kind, .string o.item, .int .i64 o.qty, .int .i64 o.level, .int .i64 o.undos] 50)) := bl; have oC := aCt w9 ⟨(d : Int), x + 1, S + 1, o.kind, o.item, o.qty, o.level, o.undos⟩; have nU := kP.alloc (.cells #[.int .i64 (d : Int), .int .i64 (x + 1), .int .i64 (S + 1), .int .i64 o.kind, .string o.item, .int .i64 o.qty, .int .i64 o.level, .int .i64 o.undos] 50); obtain ⟨v2, wA, nO, dL, nZ⟩ := pF _ w8.heap.size v1 k (l.take k) nU (w9.heap.size + 1) (some ⟨w9.heap.size, 0, none⟩) 1 1 _ oC (fun h => by cases h) (by omega) (Nat.le_trans qJ gL.size)
   have sR : Below w8.heap.size w9 wA := (gL.mono qJ).grown nZ (Nat.le_trans qJ gL.size) (fun j hj => (nU.lt j hj).1)
   clear nZ nU oC gL kP; have HPA := aRp (yW.out.far (sR.mono (by omega)))
   have u4 := aRp ((sR.block _ (by omega)).trans HX9.out)
   have HOA := aRp (HO9.out.below sR (by omega))
   have HBA := aRp (xU.out.trans sR); have hsA := sR.size; clear sR yW HX9 HO9 xU; obtain ⟨q0, q1⟩ := pair_cells HPA.out.fst; obtain ⟨x0, x1⟩ := pair_cells u4.out; obtain ⟨F4, F3⟩ := aC u4.out; have m8 := dL; have hnA : w8.heap.size ≤ wA.heap.size := Nat.le_trans qJ hsA; obtain ⟨v3, wB, nN, nV, nY⟩ := pF wA w8.heap.size v2 (k + 1) _ dL B (some ⟨b2, aQ + k * 8, none⟩) (no - k) (co - k) (l.drop k) (by have h := HOA.out.dropMap hpn; rw [Option.map_some, uB] at h; exact h) (fun h => by cases h) (by omega) hnA
   obtain ⟨fQ, gJ, rfl, hc3⟩ := mB nV; have xI : Below w8.heap.size wA wB := (show Below w8.heap.size wA wA from Below.refl _ _).grown nY hnA (fun j hj => (m8.lt j hj).1)
   have HPB := aRp (HPA.out.far (xI.mono (by omega)))
   have t8 := aRp ((xI.block _ hx8).trans u4.out); have HBB := aRp (HBA.out.trans xI); have hsB := xI.size; obtain ⟨qb0, qb1⟩ := pair_cells HPA.out.fst; obtain ⟨x0, x1⟩ := pair_cells t8.out; obtain ⟨F4, F3⟩ := aC t8.out; have HGB : Hid (wB.heap[gv]? = some (.cells (aY.setIfInBounds d (.int .i64 (x + 1))) 2 (0, 0))) := (HBB.out.block _ (by omega)).trans HG8.out
   have u5 : Hid ((wB.setCell ⟨ob, 1, none⟩ (.slice fQ (k + 1 + (no - k)) gJ)).heap[ob]? = some (.cells #[.slice (some ⟨gv, 0, none⟩) 4 vc, .slice fQ (k + 1 + (no - k)) gJ] 27 (0, 0))) := heap_setCell_same _ _ _ _ _ _ t8.out; have oF := aRp (HPB.out.far ((gW wB ob 1 (.slice fQ (k + 1 + (no - k)) gJ)).mono (by omega)))
   have nR : Hid (∀ j, j ≠ ob → (wB.setCell ⟨ob, 1, none⟩ (.slice fQ (k + 1 + (no - k)) gJ)).heap[j]? = wB.heap[j]?) := fun j hj => heap_setCell_other _ _ _ _ hj
   have s9 : Hid ((wB.setCell ⟨ob, 1, none⟩ (.slice fQ (k + 1 + (no - k)) gJ)).heap.size = wB.heap.size) := by show (World.setCell _ _ _).heap.size = _; simp [World.setCell]
   have yX := aRp (fP nV aRr); have zB := aRp hc3; have gD := aRp nP; have lS := aRp nO; have E7 := aRp nN; clear nP nO nN dL m8 nV nY xI hc3
   go_upto_region 12 with (at_builtin; refine dB rfl _ _ _ rfl _ _ rfl rfl gD.out ?_)
   go_upto_region 13 with (at_builtin; refine dB rfl _ _ _ rfl _ _ rfl rfl lS.out ?_)
   go_upto_region 14 with (at_builtin; refine dB rfl _ _ _ rfl _ _ rfl rfl E7.out ?_)
   generalize wB.setCell ⟨ob, 1, none⟩ (.slice fQ (k + 1 + (no - k)) gJ) = gC at u5 oF nR s9 ⊢; clear q0 q1 qa0 qa1 qb0 qb1 o0 o1 o2 o3 o4 o5 o6 o7 x0 x1 F4 F3 gD lS E7; obtain ⟨x0, x1⟩ := pair_cells u5.out; obtain ⟨r0, r1⟩ := pair_cells oF.out.res; obtain ⟨g0, g1⟩ := aC oF.out.res; have uN := aRp (oF.out.set2 (.slice (some ⟨gv, 0, none⟩) 4 vc) (.slice fQ (k + 1 + (no - k)) gJ)).1; have bS := aRp (oF.out.bel.trans ((oF.out.set2 (.slice (some ⟨gv, 0, none⟩) 4 vc) (.slice fQ (k + 1 + (no - k)) gJ)).2.mono (by omega)))
   have aAa : Hid (∀ j, j ≠ w.heap.size + 1 + 1 → ((gC.setCell ⟨w.heap.size + 1 + 1, 0, none⟩ (.slice (some ⟨gv, 0, none⟩) 4 vc)).setCell ⟨w.heap.size + 1 + 1, 1, none⟩ (.slice fQ (k + 1 + (no - k)) gJ)).heap[j]? = gC.heap[j]?) := fun j hj => aE _ _ hj
   have HZF : Hid (((gC.setCell ⟨w.heap.size + 1 + 1, 0, none⟩ (.slice (some ⟨gv, 0, none⟩) 4 vc)).setCell ⟨w.heap.size + 1 + 1, 1, none⟩ (.slice fQ (k + 1 + (no - k)) gJ)).heap.size = gC.heap.size) := bB _ _ _ _; go_wp2
   change bodyPost _ _ _ _ _ ((gC.setCell ⟨w.heap.size + 1 + 1, 0, none⟩ (.slice (some ⟨gv, 0, none⟩) 4 vc)).setCell ⟨w.heap.size + 1 + 1, 1, none⟩ (.slice fQ (k + 1 + (no - k)) gJ))
   generalize (gC.setCell ⟨w.heap.size + 1 + 1, 0, none⟩ (.slice (some ⟨gv, 0, none⟩) 4 vc)).setCell ⟨w.heap.size + 1 + 1, 1, none⟩ (.slice fQ (k + 1 + (no - k)) gJ) = wf at uN bS aAa HZF ⊢; have m9 := aAa.out; have W7 := HZF.out; have G5 := nR.out; have aNe := s9.out; obtain ⟨q0, q1⟩ := pair_cells uN.out; have C1 : (bH l d (aK xs l d o)).length = k + 1 + (no - k) := by have h1 := mW l d (aK xs l d o); have h2 := oQ.out; omega
   have G9 : (dH xs d).length = 4 := by rw [E8.out, List.length_set, vQ.out]
   have hOv : Own wf w.heap.size wf.heap.size (some ⟨gv, 0, none⟩) 4 (dH xs d) := by
    refine ⟨G9, fun _ => ⟨gv, _, rfl, by omega, by omega, ((m9 gv (by omega)).trans (G5 gv (by omega))).trans HGB.out, fun i hi' => ?_⟩⟩
    rw [E8.out, gF (by rw [vQ.out]; omega), Array.getElem?_setIfInBounds]
    have hcs := (aRq (HCU.out i hi')).1
    by_cases e : d = i
    ·rw [if_pos e, if_pos e, if_pos (by omega)]
    ·rw [if_neg e, if_neg e, HCU.out i hi']
   have hOo : bE wf w.heap.size wf.heap.size fQ (k + 1 + (no - k)) (bH l d (aK xs l d o)) := by
    rw [Y3.out, HQd.out]; exact (yX.out.kept (w' := wf) fun j h1 h2 => (m9 j (by omega)).trans (G5 j (by omega))).more (by omega) (by omega)
   exact bodyPost_ret (v := .tuple #[.agg #[.slice (some ⟨gv, 0, none⟩) 4 vc, .slice fQ (k + 1 + (no - k)) gJ], .bool true]) (by simp [results, Tryz.results90, go_sem, q0, q1]) rfl ⟨_, vc, fQ, gJ, by rw [C1, G9], by rw [G9]; exact hOv, by rw [C1]; exact hOo, bS.out, by rw [G9]; exact HCA.out, by rw [C1]; exact zB.out⟩
  ·have aM : decide ((k : Int) < (no : Int)) = false := decide_eq_false (by omega)
   go_upto_region 11 with fail
   clear aM
   by_cases hck : k = co
   ·obtain rfl : k = co := hck
    obtain rfl : k = no := by omega
    have hw8 : w8.heap.size ≤ w8.heap.size := Nat.le_refl _; have nI : Below w8.heap.size w8 (w8.alloc (.cells #[] 50)) := bl; have m7 : (w8.alloc (.cells #[] 50)).ownsRow w8.heap.size 50 8 (.slice (some ⟨w8.heap.size, 0, none⟩) 0 0) 0 (aG []) := World.ownsRow_made w8 #[] 0 aRr (by unfold maxLen; omega) rfl
    obtain ⟨v1, w9, nP, cR, oA⟩ := pF _ w8.heap.size _ 0 [] m7 B _ k k (l.take k) ((xR.out.below nI (by omega)).take hpn) iA.out.2.2 (by omega) nI.size
    have kP : w9.ownsRow w8.heap.size 50 8 v1 k (aG (l.take k)) := by simpa using cR
    have sS : Below w8.heap.size w8 w9 := nI.grown oA nI.size (fun j hj => (m7.lt j hj).1)
    have hkc : (k : Int) ≤ (k : Int) := by have := iA.out.1; omega
    obtain ⟨qa0, qa1⟩ := pair_cells (HP8.out.next nI).fst; clear cR oA m7; have yW := aRp (HP8.out.next sS); have HX9 := aRp ((sS.block _ hx8).trans HX8.out); have HO9 := aRp (xR.out.below sS (by omega))
    have xU := aRp sS; have qJ := sS.size; clear sS nI q0 q1; obtain ⟨o0, o1, o2, o3, o4, o5, o6, o7⟩ := aH (show w9.heap[w.heap.size + 1]? = some (.cells #[.int .i64 (d : Int), .int .i64 (x + 1), .int .i64 (S + 1), .int .i64 o.kind, .string o.item, .int .i64 o.qty, .int .i64 o.level, .int .i64 o.undos] 50 (0, 0)) from yW.out.snd); have gL : Below w9.heap.size w9 (w9.alloc (.cells #[.int .i64 (d : Int), .int .i64 (x + 1), .int .i64 (S + 1), .int .i64 o.kind, .string o.item, .int .i64 o.qty, .int .i64 o.level, .int .i64 o.undos] 50)) := bl; have oC := aCt w9 ⟨(d : Int), x + 1, S + 1, o.kind, o.item, o.qty, o.level, o.undos⟩; have nU := kP.alloc (.cells #[.int .i64 (d : Int), .int .i64 (x + 1), .int .i64 (S + 1), .int .i64 o.kind, .string o.item, .int .i64 o.qty, .int .i64 o.level, .int .i64 o.undos] 50); obtain ⟨v2, wA, nO, dL, nZ⟩ := pF _ w8.heap.size v1 k (l.take k) nU (w9.heap.size + 1) (some ⟨w9.heap.size, 0, none⟩) 1 1 _ oC (fun h => by cases h) (by omega) (Nat.le_trans qJ gL.size)
    have sR : Below w8.heap.size w9 wA := (gL.mono qJ).grown nZ (Nat.le_trans qJ gL.size) (fun j hj => (nU.lt j hj).1)
    clear nZ nU oC gL kP; have HPA := aRp (yW.out.far (sR.mono (by omega)))
    have u4 := aRp ((sR.block _ (by omega)).trans HX9.out)
    have HOA := aRp (HO9.out.below sR (by omega))
    have HBA := aRp (xU.out.trans sR); have hsA := sR.size; clear sR yW HX9 HO9 xU; obtain ⟨q0, q1⟩ := pair_cells HPA.out.fst; obtain ⟨x0, x1⟩ := pair_cells u4.out; obtain ⟨F4, F3⟩ := aC u4.out; have m8 := dL; have hnA : w8.heap.size ≤ wA.heap.size := Nat.le_trans qJ hsA; obtain ⟨v3, wB, nN, nV, nY⟩ := pF wA w8.heap.size v2 (k + 1) _ dL B ao 0 0 (l.drop k) (aC0 (by rw [List.length_drop, oQ.out]; omega)) (fun _ => rfl) (by omega) hnA
    obtain ⟨fQ, gJ, rfl, hc3⟩ := mB nV; have xI : Below w8.heap.size wA wB := (show Below w8.heap.size wA wA from Below.refl _ _).grown nY hnA (fun j hj => (m8.lt j hj).1)
    have HPB := aRp (HPA.out.far (xI.mono (by omega)))
    have t8 := aRp ((xI.block _ hx8).trans u4.out); have HBB := aRp (HBA.out.trans xI); have hsB := xI.size; obtain ⟨qb0, qb1⟩ := pair_cells HPA.out.fst; obtain ⟨x0, x1⟩ := pair_cells t8.out; obtain ⟨F4, F3⟩ := aC t8.out; have HGB : Hid (wB.heap[gv]? = some (.cells (aY.setIfInBounds d (.int .i64 (x + 1))) 2 (0, 0))) := (HBB.out.block _ (by omega)).trans HG8.out
    have u5 : Hid ((wB.setCell ⟨ob, 1, none⟩ (.slice fQ (k + 1 + 0) gJ)).heap[ob]? = some (.cells #[.slice (some ⟨gv, 0, none⟩) 4 vc, .slice fQ (k + 1 + 0) gJ] 27 (0, 0))) := heap_setCell_same _ _ _ _ _ _ t8.out; have oF := aRp (HPB.out.far ((gW wB ob 1 (.slice fQ (k + 1 + 0) gJ)).mono (by omega)))
    have nR : Hid (∀ j, j ≠ ob → (wB.setCell ⟨ob, 1, none⟩ (.slice fQ (k + 1 + 0) gJ)).heap[j]? = wB.heap[j]?) := fun j hj => heap_setCell_other _ _ _ _ hj
    have s9 : Hid ((wB.setCell ⟨ob, 1, none⟩ (.slice fQ (k + 1 + 0) gJ)).heap.size = wB.heap.size) := by show (World.setCell _ _ _).heap.size = _; simp [World.setCell]
    have yX := aRp (fP nV aRr); have zB := aRp hc3; have gD := aRp nP; have lS := aRp nO; have E7 := aRp nN; clear nP nO nN dL m8 nV nY xI hc3
    go_upto_region 12 with (at_builtin; refine dB rfl _ _ _ rfl _ _ rfl rfl gD.out ?_)
    go_upto_region 13 with (at_builtin; refine dB rfl _ _ _ rfl _ _ rfl rfl lS.out ?_)
    go_upto_region 14 with (at_builtin; refine dB rfl _ _ _ rfl _ _ rfl rfl E7.out ?_)
    generalize wB.setCell ⟨ob, 1, none⟩ (.slice fQ (k + 1 + 0) gJ) = gC at u5 oF nR s9 ⊢; clear q0 q1 qa0 qa1 qb0 qb1 o0 o1 o2 o3 o4 o5 o6 o7 x0 x1 F4 F3 gD lS E7; obtain ⟨x0, x1⟩ := pair_cells u5.out; obtain ⟨r0, r1⟩ := pair_cells oF.out.res; obtain ⟨g0, g1⟩ := aC oF.out.res; have uN := aRp (oF.out.set2 (.slice (some ⟨gv, 0, none⟩) 4 vc) (.slice fQ (k + 1 + 0) gJ)).1; have bS := aRp (oF.out.bel.trans ((oF.out.set2 (.slice (some ⟨gv, 0, none⟩) 4 vc) (.slice fQ (k + 1 + 0) gJ)).2.mono (by omega)))
    have aAa : Hid (∀ j, j ≠ w.heap.size + 1 + 1 → ((gC.setCell ⟨w.heap.size + 1 + 1, 0, none⟩ (.slice (some ⟨gv, 0, none⟩) 4 vc)).setCell ⟨w.heap.size + 1 + 1, 1, none⟩ (.slice fQ (k + 1 + 0) gJ)).heap[j]? = gC.heap[j]?) := fun j hj => aE _ _ hj
    have HZF : Hid (((gC.setCell ⟨w.heap.size + 1 + 1, 0, none⟩ (.slice (some ⟨gv, 0, none⟩) 4 vc)).setCell ⟨w.heap.size + 1 + 1, 1, none⟩ (.slice fQ (k + 1 + 0) gJ)).heap.size = gC.heap.size) := bB _ _ _ _; go_wp2
    change bodyPost _ _ _ _ _ ((gC.setCell ⟨w.heap.size + 1 + 1, 0, none⟩ (.slice (some ⟨gv, 0, none⟩) 4 vc)).setCell ⟨w.heap.size + 1 + 1, 1, none⟩ (.slice fQ (k + 1 + 0) gJ))
    generalize (gC.setCell ⟨w.heap.size + 1 + 1, 0, none⟩ (.slice (some ⟨gv, 0, none⟩) 4 vc)).setCell ⟨w.heap.size + 1 + 1, 1, none⟩ (.slice fQ (k + 1 + 0) gJ) = wf at uN bS aAa HZF ⊢; have m9 := aAa.out; have W7 := HZF.out; have G5 := nR.out; have aNe := s9.out; obtain ⟨q0, q1⟩ := pair_cells uN.out; have C1 : (bH l d (aK xs l d o)).length = k + 1 + 0 := by have h1 := mW l d (aK xs l d o); have h2 := oQ.out; omega
    have G9 : (dH xs d).length = 4 := by rw [E8.out, List.length_set, vQ.out]
    have hOv : Own wf w.heap.size wf.heap.size (some ⟨gv, 0, none⟩) 4 (dH xs d) := by
     refine ⟨G9, fun _ => ⟨gv, _, rfl, by omega, by omega, ((m9 gv (by omega)).trans (G5 gv (by omega))).trans HGB.out, fun i hi' => ?_⟩⟩
     rw [E8.out, gF (by rw [vQ.out]; omega), Array.getElem?_setIfInBounds]
     have hcs := (aRq (HCU.out i hi')).1
     by_cases e : d = i
     ·rw [if_pos e, if_pos e, if_pos (by omega)]
     ·rw [if_neg e, if_neg e, HCU.out i hi']
    have hOo : bE wf w.heap.size wf.heap.size fQ (k + 1 + 0) (bH l d (aK xs l d o)) := by
     rw [Y3.out, HQd.out]; exact (yX.out.kept (w' := wf) fun j h1 h2 => (m9 j (by omega)).trans (G5 j (by omega))).more (by omega) (by omega)
    exact bodyPost_ret (v := .tuple #[.agg #[.slice (some ⟨gv, 0, none⟩) 4 vc, .slice fQ (k + 1 + 0) gJ], .bool true]) (by simp [results, Tryz.results90, go_sem, q0, q1]) rfl ⟨_, vc, fQ, gJ, by rw [C1, G9], by rw [G9]; exact hOv, by rw [C1]; exact hOo, bS.out, by rw [G9]; exact HCA.out, by rw [C1]; exact zB.out⟩
   ·have oB : ¬ (co : Int) = (k : Int) := by omega
    have hw8 : w8.heap.size ≤ w8.heap.size := Nat.le_refl _; have nI : Below w8.heap.size w8 (w8.alloc (.cells #[] 50)) := bl; have m7 : (w8.alloc (.cells #[] 50)).ownsRow w8.heap.size 50 8 (.slice (some ⟨w8.heap.size, 0, none⟩) 0 0) 0 (aG []) := World.ownsRow_made w8 #[] 0 aRr (by unfold maxLen; omega) rfl
    obtain ⟨v1, w9, nP, cR, oA⟩ := pF _ w8.heap.size _ 0 [] m7 B _ k co (l.take k) ((xR.out.below nI (by omega)).take hpn) iA.out.2.2 (by omega) nI.size
    have kP : w9.ownsRow w8.heap.size 50 8 v1 k (aG (l.take k)) := by simpa using cR
    have sS : Below w8.heap.size w8 w9 := nI.grown oA nI.size (fun j hj => (m7.lt j hj).1)
    have hkc : (k : Int) ≤ (co : Int) := by have := iA.out.1; omega
    obtain ⟨qa0, qa1⟩ := pair_cells (HP8.out.next nI).fst; clear cR oA m7; have yW := aRp (HP8.out.next sS); have HX9 := aRp ((sS.block _ hx8).trans HX8.out); have HO9 := aRp (xR.out.below sS (by omega))
    have xU := aRp sS; have qJ := sS.size; clear sS nI q0 q1; obtain ⟨o0, o1, o2, o3, o4, o5, o6, o7⟩ := aH (show w9.heap[w.heap.size + 1]? = some (.cells #[.int .i64 (d : Int), .int .i64 (x + 1), .int .i64 (S + 1), .int .i64 o.kind, .string o.item, .int .i64 o.qty, .int .i64 o.level, .int .i64 o.undos] 50 (0, 0)) from yW.out.snd); have gL : Below w9.heap.size w9 (w9.alloc (.cells #[.int .i64 (d : Int), .int .i64 (x + 1), .int .i64 (S + 1), .int .i64 o.kind, .string o.item, .int .i64 o.qty, .int .i64 o.level, .int .i64 o.undos] 50)) := bl; have oC := aCt w9 ⟨(d : Int), x + 1, S + 1, o.kind, o.item, o.qty, o.level, o.undos⟩; have nU := kP.alloc (.cells #[.int .i64 (d : Int), .int .i64 (x + 1), .int .i64 (S + 1), .int .i64 o.kind, .string o.item, .int .i64 o.qty, .int .i64 o.level, .int .i64 o.undos] 50); obtain ⟨v2, wA, nO, dL, nZ⟩ := pF _ w8.heap.size v1 k (l.take k) nU (w9.heap.size + 1) (some ⟨w9.heap.size, 0, none⟩) 1 1 _ oC (fun h => by cases h) (by omega) (Nat.le_trans qJ gL.size)
    have sR : Below w8.heap.size w9 wA := (gL.mono qJ).grown nZ (Nat.le_trans qJ gL.size) (fun j hj => (nU.lt j hj).1)
    clear nZ nU oC gL kP; have HPA := aRp (yW.out.far (sR.mono (by omega)))
    have u4 := aRp ((sR.block _ (by omega)).trans HX9.out)
    have HOA := aRp (HO9.out.below sR (by omega))
    have HBA := aRp (xU.out.trans sR); have hsA := sR.size; clear sR yW HX9 HO9 xU; obtain ⟨q0, q1⟩ := pair_cells HPA.out.fst; obtain ⟨x0, x1⟩ := pair_cells u4.out; obtain ⟨F4, F3⟩ := aC u4.out; have m8 := dL; have hnA : w8.heap.size ≤ wA.heap.size := Nat.le_trans qJ hsA; obtain ⟨v3, wB, nN, nV, nY⟩ := pF wA w8.heap.size v2 (k + 1) _ dL B (Option.map (fun x : Addr => x.add (k * 8)) (ao)) (no - k) (co - k) (l.drop k) (HOA.out.dropMap hpn) (fun h => by have := iA.out.2.2 (by rcases ao with _ | _; rfl; cases h); omega) (by omega) hnA
    obtain ⟨fQ, gJ, rfl, hc3⟩ := mB nV; have xI : Below w8.heap.size wA wB := (show Below w8.heap.size wA wA from Below.refl _ _).grown nY hnA (fun j hj => (m8.lt j hj).1)
    have HPB := aRp (HPA.out.far (xI.mono (by omega)))
    have t8 := aRp ((xI.block _ hx8).trans u4.out); have HBB := aRp (HBA.out.trans xI); have hsB := xI.size; obtain ⟨qb0, qb1⟩ := pair_cells HPA.out.fst; obtain ⟨x0, x1⟩ := pair_cells t8.out; obtain ⟨F4, F3⟩ := aC t8.out; have HGB : Hid (wB.heap[gv]? = some (.cells (aY.setIfInBounds d (.int .i64 (x + 1))) 2 (0, 0))) := (HBB.out.block _ (by omega)).trans HG8.out
    have u5 : Hid ((wB.setCell ⟨ob, 1, none⟩ (.slice fQ (k + 1 + (no - k)) gJ)).heap[ob]? = some (.cells #[.slice (some ⟨gv, 0, none⟩) 4 vc, .slice fQ (k + 1 + (no - k)) gJ] 27 (0, 0))) := heap_setCell_same _ _ _ _ _ _ t8.out; have oF := aRp (HPB.out.far ((gW wB ob 1 (.slice fQ (k + 1 + (no - k)) gJ)).mono (by omega)))
    have nR : Hid (∀ j, j ≠ ob → (wB.setCell ⟨ob, 1, none⟩ (.slice fQ (k + 1 + (no - k)) gJ)).heap[j]? = wB.heap[j]?) := fun j hj => heap_setCell_other _ _ _ _ hj
    have s9 : Hid ((wB.setCell ⟨ob, 1, none⟩ (.slice fQ (k + 1 + (no - k)) gJ)).heap.size = wB.heap.size) := by show (World.setCell _ _ _).heap.size = _; simp [World.setCell]
    have yX := aRp (fP nV aRr); have zB := aRp hc3; have gD := aRp nP; have lS := aRp nO; have E7 := aRp nN; clear nP nO nN dL m8 nV nY xI hc3
    go_upto_region 12 with (at_builtin; refine dB rfl _ _ _ rfl _ _ rfl rfl gD.out ?_)
    go_upto_region 13 with (at_builtin; refine dB rfl _ _ _ rfl _ _ rfl rfl lS.out ?_)
    go_upto_region 14 with (at_builtin; refine dB rfl _ _ _ rfl _ _ rfl rfl E7.out ?_)
    generalize wB.setCell ⟨ob, 1, none⟩ (.slice fQ (k + 1 + (no - k)) gJ) = gC at u5 oF nR s9 ⊢; clear q0 q1 qa0 qa1 qb0 qb1 o0 o1 o2 o3 o4 o5 o6 o7 x0 x1 F4 F3 gD lS E7; obtain ⟨x0, x1⟩ := pair_cells u5.out; obtain ⟨r0, r1⟩ := pair_cells oF.out.res; obtain ⟨g0, g1⟩ := aC oF.out.res; have uN := aRp (oF.out.set2 (.slice (some ⟨gv, 0, none⟩) 4 vc) (.slice fQ (k + 1 + (no - k)) gJ)).1; have bS := aRp (oF.out.bel.trans ((oF.out.set2 (.slice (some ⟨gv, 0, none⟩) 4 vc) (.slice fQ (k + 1 + (no - k)) gJ)).2.mono (by omega)))
    have aAa : Hid (∀ j, j ≠ w.heap.size + 1 + 1 → ((gC.setCell ⟨w.heap.size + 1 + 1, 0, none⟩ (.slice (some ⟨gv, 0, none⟩) 4 vc)).setCell ⟨w.heap.size + 1 + 1, 1, none⟩ (.slice fQ (k + 1 + (no - k)) gJ)).heap[j]? = gC.heap[j]?) := fun j hj => aE _ _ hj
    have HZF : Hid (((gC.setCell ⟨w.heap.size + 1 + 1, 0, none⟩ (.slice (some ⟨gv, 0, none⟩) 4 vc)).setCell ⟨w.heap.size + 1 + 1, 1, none⟩ (.slice fQ (k + 1 + (no - k)) gJ)).heap.size = gC.heap.size) := bB _ _ _ _; go_wp2
    change bodyPost _ _ _ _ _ ((gC.setCell ⟨w.heap.size + 1 + 1, 0, none⟩ (.slice (some ⟨gv, 0, none⟩) 4 vc)).setCell ⟨w.heap.size + 1 + 1, 1, none⟩ (.slice fQ (k + 1 + (no - k)) gJ))
    generalize (gC.setCell ⟨w.heap.size + 1 + 1, 0, none⟩ (.slice (some ⟨gv, 0, none⟩) 4 vc)).setCell ⟨w.heap.size + 1 + 1, 1, none⟩ (.slice fQ (k + 1 + (no - k)) gJ) = wf at uN bS aAa HZF ⊢; have m9 := aAa.out; have W7 := HZF.out; have G5 := nR.out; have aNe := s9.out; obtain ⟨q0, q1⟩ := pair_cells uN.out; have C1 : (bH l d (aK xs l d o)).length = k + 1 + (no - k) := by have h1 := mW l d (aK xs l d o); have h2 := oQ.out; omega
    have G9 : (dH xs d).length = 4 := by rw [E8.out, List.length_set, vQ.out]
    have hOv : Own wf w.heap.size wf.heap.size (some ⟨gv, 0, none⟩) 4 (dH xs d) := by
     refine ⟨G9, fun _ => ⟨gv, _, rfl, by omega, by omega, ((m9 gv (by omega)).trans (G5 gv (by omega))).trans HGB.out, fun i hi' => ?_⟩⟩
     rw [E8.out, gF (by rw [vQ.out]; omega), Array.getElem?_setIfInBounds]
     have hcs := (aRq (HCU.out i hi')).1
     by_cases e : d = i
     ·rw [if_pos e, if_pos e, if_pos (by omega)]
     ·rw [if_neg e, if_neg e, HCU.out i hi']
    have hOo : bE wf w.heap.size wf.heap.size fQ (k + 1 + (no - k)) (bH l d (aK xs l d o)) := by
     rw [Y3.out, HQd.out]; exact (yX.out.kept (w' := wf) fun j h1 h2 => (m9 j (by omega)).trans (G5 j (by omega))).more (by omega) (by omega)
    exact bodyPost_ret (v := .tuple #[.agg #[.slice (some ⟨gv, 0, none⟩) 4 vc, .slice fQ (k + 1 + (no - k)) gJ], .bool true]) (by simp [results, Tryz.results90, go_sem, q0, q1]) rfl ⟨_, vc, fQ, gJ, by rw [C1, G9], by rw [G9]; exact hOv, by rw [C1]; exact hOo, bS.out, by rw [G9]; exact HCA.out, by rw [C1]; exact zB.out⟩
def kN (o : bP) : List Value := [.string o.item, .int .i64 o.qty, .bool o.saved]
def eR : List bP → List Value
 | [] => []
 | x :: l => kN x ++ eR l
theorem rH : ∀ l : List bP, (eR l).length = l.length * 3
 | [] => rfl
 | x :: l => by
  show (kN x ++ eR l).length = _
  rw [List.length_append, rH l, List.length_cons]
  show 3 + _ = _
  omega
theorem j0 (x : bP) : ∀ l : List bP, eR (l ++ [x]) = eR l ++ kN x
 | [] => by show kN x ++ [] = [] ++ kN x; rw [List.append_nil, List.nil_append]
 | y :: l => by
  show kN y ++ eR (l ++ [x]) = (kN y ++ eR l) ++ kN x
  rw [j0 x l, List.append_assoc]
theorem P7 : ∀ (l : List bP) (i u : Nat), i < l.length → u < 3 → (eR l)[i * 3 + u]? = (kN (l.getD i bP.zero))[u]?
 | x :: l, 0, u, _, hu => by
  show (kN x ++ eR l)[0 * 3 + u]? = (kN x)[u]?
  rw [Nat.zero_mul, Nat.zero_add, List.getElem?_append_left (by show u < 3; exact hu)]
 | x :: l, i + 1, u, hi, hu => by
  show (kN x ++ eR l)[(i + 1) * 3 + u]? = (kN (l.getD i bP.zero))[u]?
  rw [List.getElem?_append_right (by show 3 ≤ _; omega)]
  have e : (i + 1) * 3 + u - (kN x).length = i * 3 + u := by show _ - 3 = _; omega
  rw [e]; exact P7 l i u (by simpa using hi) hu
theorem tK {w : World} {base hi : Nat} {v : Value} {n : Nat} {l : List bP} (h : w.ownsRow base 39 3 v n (eR l)) (hh : w.heap.size ≤ hi) : ∃ a c, v = .slice a n c ∧ kK w base hi a n l := by
 have hl : l.length = n := by have := h.1; rw [rH] at this; omega
 rcases h.2 with ⟨e, e2⟩ | ⟨g, c, aY, e, hb, hg, hnc, _, hs, ht⟩
 ·have hn0 : n = 0 := by simpa using e2
  subst hn0; exact ⟨none, 0, e, hl, fun h => absurd h (by omega)⟩
 ·have key : ∀ i u, i < n → u < 3 → aY[0 + i * 3 + u]? = (kN (l.getD i bP.zero))[u]? := fun i u hi' hu => by
   have h2 : (aY.toList.take (n * 3))[i * 3 + u]? = (eR l)[i * 3 + u]? := by rw [ht]
   rw [List.getElem?_take_of_lt (by omega), P7 l i u (by omega) hu] at h2
   rw [Nat.zero_add, ← Array.getElem?_toList, h2]
  refine ⟨_, c, e, hl, fun hn => ⟨g, 0, aY, rfl, hb, Nat.lt_of_lt_of_le (aRq hg).1 hh, hg, by rw [hs]; omega, fun i hi' => ?_⟩⟩
  exact ⟨key i 0 hi' (by omega), key i 1 hi' (by omega), key i 2 hi' (by omega)⟩
theorem Tryz.zeroLn : (Tryz.prog.info? 39).map (fun i => (i.zero, i.size, i.bytes)) = some (some (.agg #[.string ⟨#[]⟩, .int .i64 0, .bool false]), 3, 32) := by kernel_rfl
theorem aO6 (w : World) (base : Nat) (v : Value) (n : Nat) (l : List bP) (aZ : w.ownsRow base 39 3 v n (eR l)) (o : bP) (hn : n + 1 ≤ 4194304) (zM : base ≤ w.heap.size) :
  ∃ v' w', (Builtin.append_ #[42, 42] 42 #[v, .slice (some ⟨w.heap.size, 0, none⟩) 1 1]).run Tryz.prog (w.alloc (.cells #[.string o.item, .int .i64 o.qty, .bool o.saved] 39)) = .ok v' w' ∧ w'.ownsRow base 39 3 v' (n + 1) (eR (l ++ [o])) ∧ Below base w w' ∧ (w.alloc (.cells #[.string o.item, .int .i64 o.qty, .bool o.saved] 39)).grownBy w' v.ownBlock := by
 obtain ⟨i0, hi, gR, kH, jN⟩ := info_parts Tryz.zeroLn
 have bG : Below base w (w.alloc (.cells #[.string o.item, .int .i64 o.qty, .bool o.saved] 39)) := (Below.refl _ _).alloc zM _
 have hA := aZ.alloc (.cells #[.string o.item, .int .i64 o.qty, .bool o.saved] 39)
 have B9 : ∀ j u, (kN o)[j]? = some u → (w.alloc (.cells #[.string o.item, .int .i64 o.qty, .bool o.saved] 39)).cell? ((⟨w.heap.size, 0, none⟩ : Addr).add j) = some u := by
  intro j u hu
  have hj : j < 3 := by
   rcases Nat.lt_or_ge j 3 with g | g
   ·exact g
   ·rw [List.getElem?_eq_none (by show 3 ≤ j; exact g)] at hu; cases hu
  rw [uB, aRs (heap_alloc_new w _), Nat.zero_add]; rw [← hu]
  match j, hj with
  | 0, _ => rfl
  | 1, _ => rfl
  | 2, _ => rfl
 obtain ⟨v', w', h1, h2, h3, _⟩ := run_append_own (P := Tryz.prog) _ base 42 42 39 i0 (.agg #[.string ⟨#[]⟩, .int .i64 0, .bool false]) 3 32 Tryz.underlying42 hi gR kH jN rfl (by decide) v n _ hA ⟨w.heap.size, 0, none⟩ 1 1 (kN o) rfl B9 (by intro u hu; simp only [kN, List.mem_cons, List.not_mem_nil, or_false] at hu; rcases hu with rfl | rfl | rfl <;> rfl) (by unfold maxLen; omega) (by omega) (Nat.le_trans zM bG.size)
 exact ⟨v', w', h1, by rw [j0]; exact h2, bG.grown h3 (Nat.le_trans zM bG.size) (fun j hj => (hA.lt j hj).1), h3⟩
theorem aGG (w : World) (base : Nat) : w.ownsRow base 39 3 (.slice none 0 0) 0 (eR []) := ⟨rfl, .inl ⟨rfl, rfl⟩⟩
end Go.Proofs.YthkagbnpcjidfaaGreatDoor
