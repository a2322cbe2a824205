/- Walks and mathematics that several claims share, part 15. -/
import Derived.Test.YthkagbnpcjidfaaGreatDoorGy14
import Derived.Test.YthkagbnpcjidfaaGreatDoorGy0
import Derived.Test.YthkagbnpcjidfaaGreatDoorGy8
import Derived.Test.YthkagbnpcjidfaaGreatDoorGy2
import Derived.Test.YthkagbnpcjidfaaGreatDoorGy13
import Derived.Laws.OwnMore
import Derived.OwnWalk
import Derived.Deep.Cut
import Derived.Lib.MinMax
import Derived.Laws.AppendOwn
import Derived.Test.YthkagbnpcjidfaaGreatDoorGyA
namespace Go.Proofs.YthkagbnpcjidfaaGreatDoor
set_option maxHeartbeats 40000000
set_option maxRecDepth 100000
open Go.RowKit
set_option linter.unusedVariables false
set_option linter.unusedSimpArgs false
set_option linter.unusedVariables false

theorem aGs {w : World} {B b off n : Nat} {xs : List Int} (h : Ints w B (some ⟨b, off, none⟩) n xs) : ∀ j u, (xs.map (Value.int .i64))[j]? = some u → w.cell? ((⟨b, off, none⟩ : Addr).add j) = some u := fun j u hu => by
 have hj : j < xs.length := by
  rcases Nat.lt_or_ge j xs.length with g | g
  ·exact g
  ·rw [List.getElem?_eq_none (by simpa using g)] at hu; cases hu
 obtain ⟨b', iH, e, _, hc⟩ := h.2 j (by rw [← h.1]; exact hj)
 injection e with e
 injection e with e1 e2
 subst e1 e2
 rw [uI, hc]
 rw [List.getElem?_map, List.getElem?_eq_getElem hj] at hu
 rw [← hu, List.getD_eq_getElem?_getD, List.getElem?_eq_getElem hj]
 rfl
theorem aCE (w : World) (base : Nat) (v : Value) (n : Nat) (xs : List Int) (aY : w.ownsRow base 2 1 v n (xs.map (Value.int .i64))) (B : Nat) (a : Option Addr) (m c : Nat) (ys : List Int) (h : Ints w B a m ys) (hc : a = none → c = 0) (hn : n + m ≤ 4194304) (F4 : base ≤ w.heap.size) :
  ∃ v' w', (Builtin.append_ #[24, 24] 24 #[v, .slice a m c]).run Tryz.prog w = .ok v' w' ∧ w'.ownsRow base 2 1 v' (n + m) ((xs ++ ys).map (Value.int .i64)) ∧ w.grownBy w' v.ownBlock := by
 obtain ⟨i0, hi, iF, kO, jU⟩ := info_parts Tryz.infoI64
 have hl : ys.length = m := h.1
 rcases a with _ | x
 ·have hm : m = 0 := by
   rcases Nat.eq_zero_or_pos m with g | g
   ·exact g
   ·obtain ⟨_, _, e, _⟩ := h.2 0 g; cases e
  subst hm; have : ys = [] := List.eq_nil_of_length_eq_zero hl; subst this; rw [hc rfl]; exact ⟨v, w, run_append_owned_none (P := Tryz.prog) w base 24 24 2 i0 1 Tryz.underlying24 hi v n _ aY, by simpa using aY, World.grownBy.refl _ _⟩
 ·have wX : ∀ j u, (ys.map (Value.int .i64))[j]? = some u → w.cell? (x.add j) = some u := by
   rcases Nat.eq_zero_or_pos m with g | g
   ·subst g
    have : ys = [] := List.eq_nil_of_length_eq_zero hl; subst this
    intro j u hu
    simp at hu
   ·obtain ⟨b, off, e, _⟩ := h.2 0 g
    injection e with e; subst e; exact aGs h
  obtain ⟨v', w', h1, h2, h3, _⟩ := run_append_own (P := Tryz.prog) w base 24 24 2 i0 (.int .i64 0) 1 8 Tryz.underlying24 hi iF kO jU rfl (by decide) v n _ aY x m c (ys.map (Value.int .i64)) (by rw [List.length_map, hl]; omega) wX (by intro u hu; rw [List.mem_map] at hu; obtain ⟨z, _, rfl⟩ := hu; rfl) (by unfold maxLen; omega) (by omega) F4
  exact ⟨v', w', h1, by rw [List.map_append]; exact h2, h3⟩
theorem rL (w : World) (base : Nat) (v : Value) (n : Nat) (l : List aA) (aY : w.ownsRow base 50 8 v n (aH l)) (B : Nat) (a : Option Addr) (m c : Nat) (k : List aA) (h : bS w B a m k) (hc : a = none → c = 0) (hn : n + m ≤ 4194304) (F4 : base ≤ w.heap.size) :
  ∃ v' w', (Builtin.append_ #[25, 25] 25 #[v, .slice a m c]).run Tryz.prog w = .ok v' w' ∧ w'.ownsRow base 50 8 v' (n + m) (aH (l ++ k)) ∧ w.grownBy w' v.ownBlock := by
 obtain ⟨i0, hi, iF, kO, jU⟩ := info_parts Tryz.infoOp
 have hl : k.length = m := h.1
 have aP6 : aH (l ++ k) = aH l ++ aH k := by
  clear h hl aY hn
  induction l with
  | nil => rfl
  | cons x l ih => show cB x ++ aH (l ++ k) = (cB x ++ aH l) ++ aH k; rw [ih, List.append_assoc]
 rcases a with _ | x
 ·have hm : m = 0 := by
   rcases Nat.eq_zero_or_pos m with g | g
   ·exact g
   ·obtain ⟨_, _, e, _⟩ := h.2 0 g; cases e
  subst hm; have : k = [] := List.eq_nil_of_length_eq_zero hl; subst this; rw [hc rfl]; exact ⟨v, w, run_append_owned_none (P := Tryz.prog) w base 25 25 50 i0 8 Tryz.underlying25 hi v n _ aY, by rw [List.append_nil]; exact aY, World.grownBy.refl _ _⟩
 ·have wX : ∀ j u, (aH k)[j]? = some u → w.cell? (x.add j) = some u := by
   rcases Nat.eq_zero_or_pos m with g | g
   ·subst g
    have : k = [] := List.eq_nil_of_length_eq_zero hl; subst this
    intro j u hu
    simp [aH] at hu
   ·obtain ⟨b, off, e, _⟩ := h.2 0 g
    injection e with e; subst e; exact K7 h
  obtain ⟨v', w', h1, h2, h3, _⟩ := run_append_own (P := Tryz.prog) w base 25 25 50 i0 _ 8 72 Tryz.underlying25 hi iF kO jU rfl (by decide) v n _ aY x m c (aH k) (by rw [fN, hl]) wX (fun u hu => kX k u hu) (by unfold maxLen; omega) (by omega) F4
  exact ⟨v', w', h1, by rw [aP6]; exact h2, h3⟩
theorem yR {P : Program} {o : Oper} {a : Act} {w : World} {K : Act → World → Prop} {Q : Exit → Act → World → Prop} (x y : Operand) (ts : Array TypeId) (cD : o.op = Op.call { callee := Callee.builtin Builtin.append, args := #[x, y], argTypes := ts }) (v1 v2 : Value) {v' : Value} {w' : World} (h1 : a.eval x = v1) (h2 : a.eval y = v2)
  (hrun : (Builtin.append_ ts o.type #[v1, v2]).run P w = .ok v' w') (hK : K (a.put o.dst v') w') : Oper.wp P o a w K Q := by
 unfold Oper.wp
 simp [execOp, cD, resolve, invoke, builtin, h1, h2, hrun, Result.andThen]
 exact hK
theorem cX {P : Program} {w : World} {ops : Array Oper} {rest : List Oper} {o : Oper} {a : Act} {Q : Exit → Act → World → Prop} (hgd : o.guard = none) (x y : Operand) (ts : Array TypeId) (cD : o.op = Op.call { callee := Callee.builtin Builtin.append, args := #[x, y], argTypes := ts }) (v1 v2 : Value) {v' : Value} {w' : World} (h1 : a.eval x = v1) (h2 : a.eval y = v2)
  (hrun : (Builtin.append_ ts o.type #[v1, v2]).run P w = .ok v' w') (h : wpList P ops Q rest (a.put o.dst v') w') : wpList P ops Q (o :: rest) a w :=
 wpList_plain hgd fun _ hK => yR x y ts cD v1 v2 h1 h2 hrun (hK _ _ h)
/-- A slice that owns a row, its parts. -/
theorem oJ {w : World} {base size n : Nat} {e : TypeId} {v : Value} {xs : List Value} (h : w.ownsRow base e size v n xs) : ∃ a c, v = .slice a n c ∧ bP a n c := by
 rcases h.2 with ⟨e1, e2⟩ | ⟨g, cap, aX, e1, _⟩
 ·subst e1
  have e3 := h; have hn : n = 0 := e2; subst hn; exact ⟨none, 0, rfl, dA⟩
 ·subst e1
  exact ⟨_, _, rfl, hC h⟩
set_option linter.unusedVariables false

theorem j6 {w : World} {b1 b2 s1 s2 n1 n2 : Nat} {e1 e2 : TypeId} {v1 v2 : Value} {x1 x2 : List Value} (h1 : w.ownsRow b1 e1 s1 v1 n1 x1) (h2 : w.ownsRow b2 e2 s2 v2 n2 x2) (he : e1 ≠ e2) : v1.ownBlock = none ∨ v1.ownBlock ≠ v2.ownBlock := by
 rcases h1.2 with ⟨rfl, _⟩ | ⟨g1, c1, aRt, rfl, _, cF, _⟩
 ·exact .inl rfl
 ·right
  rcases h2.2 with ⟨rfl, _⟩ | ⟨g2, c2, aRs, rfl, _, fI, _⟩
  ·intro h; cases h
  ·intro h
   have : g1 = g2 := by simpa [Value.ownBlock] using h
   subst this; rw [cF] at fI; injection fI with fI; injection fI with _ ht; exact he ht
/-- What a call answers that hands back a cart of its own. -/
def aKL (xs : List Int) (l : List aA) (w : World) (e : Ending) (w' : World) : Prop := ∃ va vc oa oc, e = .returned (.agg #[.slice va xs.length vc, .slice oa l.length oc]) ∧ Own w' w.heap.size w'.heap.size va xs.length xs ∧ bF w' w.heap.size w'.heap.size oa l.length l ∧ Below w.heap.size w w' ∧ bP va xs.length vc ∧ bP oa l.length oc
set_option linter.unusedSimpArgs false in
theorem aEc (w : World) (B : Nat) (av ao : Option Addr) (nv cv no co : Nat) (xs : List Int) (l : List aA) (hx : Ints w B av nv xs) (h : bS w B ao no l) (hB : B ≤ w.heap.size) (bI : av = none → cv = 0) (bM : ao = none → co = 0) (hv : nv ≤ 1048576) (hn : no ≤ 1048576) :
  Calls Tryz.prog 47 #[.agg #[.slice av nv cv, .slice ao no co]] w (aKL xs l w) := by
 have aW : Below w.heap.size w ((w.alloc (.cells #[.slice av nv cv, .slice ao no co] 27)).alloc (.cells #[.slice none 0 0, .slice none 0 0] 27)) := ((Below.refl _ w).alloc aRC _).alloc (by simp) _
 have HV := aRA (hx.below aW hB)
 have HO := aRA (h.below aW hB)
 have yL := aRA hx.1
 have qO := aRA h.1
 have HX : Hid (((w.alloc (.cells #[.slice av nv cv, .slice ao no co] 27)).alloc (.cells #[.slice none 0 0, .slice none 0 0] 27)).heap[w.heap.size]? = some (.cells #[.slice av nv cv, .slice ao no co] 27 (0, 0))) := heap_alloc2_old _ _ _
 have HR : Hid (((w.alloc (.cells #[.slice av nv cv, .slice ao no co] 27)).alloc (.cells #[.slice none 0 0, .slice none 0 0] 27)).heap[w.heap.size + 1]? = some (.cells #[.slice none 0 0, .slice none 0 0] 27 (0, 0))) := heap_alloc2_new _ _ _
 have dK : w.heap.size + 1 < ((w.alloc (.cells #[.slice av nv cv, .slice ao no co] 27)).alloc (.cells #[.slice none 0 0, .slice none 0 0] 27)).heap.size := by simp
 have HB := aRA aW
 have HCV := aRA bI
 have jA := aRA bM
 clear hx h aW bI bM
 go_enter Tryz.func47, Tryz.ntmps47
 go_wp2_with fail
 generalize (w.alloc (.cells #[.slice av nv cv, .slice ao no co] 27)).alloc (.cells #[.slice none 0 0, .slice none 0 0] 27) = w0 at HV HO HX HR dK HB ⊢
 obtain ⟨c0, c1⟩ := pair_cells HX.out
 have fY : Below w0.heap.size w0 w0.drew := ⟨rfl, rfl, rfl, Nat.le_refl _, fun _ _ => rfl⟩
 obtain ⟨z0, iF⟩ : ∃ z0, z0 = w0.drew := ⟨_, rfl⟩
 rw [← iF] at fY
 have D8 : z0.cell? ⟨w.heap.size, 0, none⟩ = some (.slice av nv cv) ∧ z0.cell? ⟨w.heap.size, 1, none⟩ = some (.slice ao no co) := ⟨(fY.cell (p := ⟨w.heap.size, 0, none⟩) (by show w.heap.size < _; omega)).trans c0, (fY.cell (p := ⟨w.heap.size, 1, none⟩) (by show w.heap.size < _; omega)).trans c1⟩
 go_wp2_with fail
 refine wp_region_held_drew (S := fun w' => w'.cell? ⟨w.heap.size, 0, none⟩ = some (.slice av nv cv) ∧ w'.cell? ⟨w.heap.size, 1, none⟩ = some (.slice ao no co)) (by kernel_rfl) (by rw [← iF]; exact D8) (fun aP => ?_)
 rw [← iF]
 clear iF aP
 refine tj 1 ?_
 refine tj 2 ?_
 refine tj 5 ?_
 refine tj 6 ?_
 refine wpAnyH_ready (rs := [0, 4]) (by kernel_rfl) (by simp) ?_
 refine AllReadyH.cons rfl (fun K hK => ?_) ?_
 ·skip
  have aI : Below w0.heap.size w0 (z0.alloc (.cells #[] 2)) := fY.alloc fY.size _; have hV1 : (z0.alloc (.cells #[] 2)).ownsRow w0.heap.size 2 1 (.slice (some ⟨z0.heap.size, 0, none⟩) 0 0) 0 (([] : List Int).map (Value.int .i64)) := World.ownsRow_made z0 #[] 0 fY.size (by unfold maxLen; omega) rfl
  go_simp
  refine hK.out _ _ ⟨(aI.cell (p := ⟨w.heap.size, 0, none⟩) (by show w.heap.size < _; omega)).trans c0, (aI.cell (p := ⟨w.heap.size, 1, none⟩) (by show w.heap.size < _; omega)).trans c1⟩ (fun aIx => ?_)
  clear hK K
  (try simp only [Act.put, u1, u2, u3])
  generalize z0.alloc (.cells #[] 2) = z1 at aIx aI hV1 ⊢; refine wpAnyH_ready (rs := [3, 4]) (by kernel_rfl) (by simp) ?_
  refine AllReadyH.cons rfl (fun K hK => ?_) ?_
  ·skip
   obtain ⟨vA2, z2, hrun, hW, jW⟩ := aCE z1 w0.heap.size _ 0 [] hV1 B av nv cv xs (HV.out.below aI (by omega)) HCV.out (by omega) aI.size
   have hV2 : z2.ownsRow w0.heap.size 2 1 vA2 nv (xs.map (Value.int .i64)) := by simpa using hW
   obtain ⟨va, vc, rfl, hca⟩ := oJ hV2; have aN := aI.grown jW aI.size (fun j hj => (hV1.lt j hj).1)
   rw [if_pos (by rfl)]
   refine yR _ _ _ rfl _ _ rfl rfl hrun ?_
   refine hK.out _ _ ⟨(aN.cell (p := ⟨w.heap.size, 0, none⟩) (by show w.heap.size < _; omega)).trans c0, (aN.cell (p := ⟨w.heap.size, 1, none⟩) (by show w.heap.size < _; omega)).trans c1⟩ (fun bZ => ?_)
   clear hK K hrun hW jW
   (try simp only [Act.put, u1, u2, u3])
   refine rk 4 rfl (fun K hK => ?_)
   have bB : Below w0.heap.size w0 (z2.alloc (.cells #[] 50)) := aN.alloc aN.size _; have hO3 : (z2.alloc (.cells #[] 50)).ownsRow w0.heap.size 50 8 (.slice (some ⟨z2.heap.size, 0, none⟩) 0 0) 0 (aH []) := World.ownsRow_made z2 #[] 0 aN.size (by unfold maxLen; omega) rfl
   have hV3 := hV2.alloc (.cells #[] 50)
   go_simp
   refine hK.out _ _ ⟨(bB.cell (p := ⟨w.heap.size, 0, none⟩) (by show w.heap.size < _; omega)).trans c0, (bB.cell (p := ⟨w.heap.size, 1, none⟩) (by show w.heap.size < _; omega)).trans c1⟩ (fun fT => ?_)
   clear hK K
   (try simp only [Act.put, u1, u2, u3])
   generalize z2.alloc (.cells #[] 50) = z3 at fT bB hO3 hV3 ⊢; refine rk 7 rfl (fun K hK => ?_)
   obtain ⟨vA4, z4, hrun, hW, jW⟩ := rL z3 w0.heap.size _ 0 [] hO3 B ao no co l (HO.out.below bB (by omega)) jA.out (by omega) bB.size
   have hO4 : z4.ownsRow w0.heap.size 50 8 vA4 no (aH l) := by simpa using hW
   obtain ⟨oa, oc, rfl, bM⟩ := oJ hO4; have hV4 := hV3.kept jW (j6 hV3 hO3 (by decide))
   have dY := bB.grown jW bB.size (fun j hj => (hO3.lt j hj).1)
   rw [if_pos (by rfl)]
   refine yR _ _ _ rfl _ _ rfl rfl hrun ?_
   refine hK.out _ _ ⟨(dY.cell (p := ⟨w.heap.size, 0, none⟩) (by show w.heap.size < _; omega)).trans c0, (dY.cell (p := ⟨w.heap.size, 1, none⟩) (by show w.heap.size < _; omega)).trans c1⟩ (fun nL => ?_)
   clear hK K hrun hW jW
   (try simp only [Act.put, u1, u2, u3])
   refine tj 8 ?_
   have B4 := aRA ((dY.block _ dK).trans HR.out); obtain ⟨r0, r1⟩ := pair_cells B4.out; obtain ⟨f0, f1⟩ := aD B4.out; have HP : Hid (Own z4 w0.heap.size z4.heap.size va nv xs ∧ bF z4 w0.heap.size z4.heap.size oa no l) := ⟨wH hV4 aRC, gS hO4 aRC⟩; have sO : Below (w.heap.size + 1) w0 ((z4.setCell ⟨w.heap.size + 1, 0, none⟩ (.slice va nv vc)).setCell ⟨w.heap.size + 1, 1, none⟩ (.slice oa no oc)) := ((show Below (w.heap.size + 1) w0 z4 from dY.mono (by omega)).setCell (p := ⟨w.heap.size + 1, 0, none⟩) aRC _).setCell (p := ⟨w.heap.size + 1, 1, none⟩) aRC _
   have pT : ∀ j, j ≠ w.heap.size + 1 → ((z4.setCell ⟨w.heap.size + 1, 0, none⟩ (.slice va nv vc)).setCell ⟨w.heap.size + 1, 1, none⟩ (.slice oa no oc)).heap[j]? = z4.heap[j]? := fun j hj => aF _ _ hj
   have xF : Hid (((z4.setCell ⟨w.heap.size + 1, 0, none⟩ (.slice va nv vc)).setCell ⟨w.heap.size + 1, 1, none⟩ (.slice oa no oc)).heap[w.heap.size + 1]? = some (.cells #[.slice va nv vc, .slice oa no oc] 27 (0, 0))) := cK _ _ B4.out; have X8 : ((z4.setCell ⟨w.heap.size + 1, 0, none⟩ (.slice va nv vc)).setCell ⟨w.heap.size + 1, 1, none⟩ (.slice oa no oc)).heap.size = z4.heap.size := bA _ _ _ _; refine rk 9 rfl (fun K hK => ?_)
   go_simp
   refine hK.out _ _ ⟨(sO.cell (p := ⟨w.heap.size, 0, none⟩) (by show w.heap.size < _; omega)).trans c0, (sO.cell (p := ⟨w.heap.size, 1, none⟩) (by show w.heap.size < _; omega)).trans c1⟩ (fun aIw => ?_)
   clear hK K
   (try simp only [Act.put, u1, u2, u3])
   refine wpAnyH_done (by kernel_rfl) ?_ _
   generalize (z4.setCell ⟨w.heap.size + 1, 0, none⟩ (.slice va nv vc)).setCell ⟨w.heap.size + 1, 1, none⟩ (.slice oa no oc) = wf at xF sO pT X8 ⊢; obtain ⟨q0, q1⟩ := pair_cells xF.out; have vT : Hid (Own wf w.heap.size wf.heap.size va nv xs ∧ bF wf w.heap.size wf.heap.size oa no l) := ⟨((HP.out.1.kept (w' := wf) fun j h1 h2 => pT j (by omega)).more (by omega) (by omega)), ((HP.out.2.kept (w' := wf) fun j h1 h2 => pT j (by omega)).more (by omega) (by omega))⟩
   have cA := aRA (HB.out.trans (sO.mono (by omega)))
   have iR := aRA hca; have rO := aRA bM; clear pT X8 HP B4 r0 r1 f0 f1 sO hca bM; go_wp2
   exact bodyPost_ret (v := .agg #[.slice va nv vc, .slice oa no oc]) (by simp [results, Tryz.results47, go_sem, q0, q1]) rfl ⟨va, vc, oa, oc, by rw [yL.out, qO.out], by rw [yL.out]; exact vT.out.1, by rw [qO.out]; exact vT.out.2, cA.out, by rw [yL.out]; exact iR.out, by rw [qO.out]; exact rO.out⟩
  refine AllReadyH.cons rfl (fun K hK => ?_) AllReadyH.nil
  have bE : Below w0.heap.size w0 (z1.alloc (.cells #[] 50)) := aI.alloc aI.size _; have hO5 : (z1.alloc (.cells #[] 50)).ownsRow w0.heap.size 50 8 (.slice (some ⟨z1.heap.size, 0, none⟩) 0 0) 0 (aH []) := World.ownsRow_made z1 #[] 0 aI.size (by unfold maxLen; omega) rfl
  have hV5 := hV1.alloc (.cells #[] 50)
  go_simp
  refine hK.out _ _ ⟨(bE.cell (p := ⟨w.heap.size, 0, none⟩) (by show w.heap.size < _; omega)).trans c0, (bE.cell (p := ⟨w.heap.size, 1, none⟩) (by show w.heap.size < _; omega)).trans c1⟩ (fun sQ => ?_)
  clear hK K
  (try simp only [Act.put, u1, u2, u3])
  generalize z1.alloc (.cells #[] 50) = z5 at sQ bE hO5 hV5 ⊢; refine rk 3 rfl (fun K hK => ?_)
  obtain ⟨vA6, z6, hrun, hW, jW⟩ := aCE z5 w0.heap.size _ 0 [] hV5 B av nv cv xs (HV.out.below bE (by omega)) HCV.out (by omega) bE.size
  have hV6 : z6.ownsRow w0.heap.size 2 1 vA6 nv (xs.map (Value.int .i64)) := by simpa using hW
  obtain ⟨va, vc, rfl, hca⟩ := oJ hV6; have hO6 := hO5.kept jW (j6 hO5 hV5 (by decide))
  have oA := bE.grown jW bE.size (fun j hj => (hV5.lt j hj).1)
  rw [if_pos (by rfl)]
  refine yR _ _ _ rfl _ _ rfl rfl hrun ?_
  refine hK.out _ _ ⟨(oA.cell (p := ⟨w.heap.size, 0, none⟩) (by show w.heap.size < _; omega)).trans c0, (oA.cell (p := ⟨w.heap.size, 1, none⟩) (by show w.heap.size < _; omega)).trans c1⟩ (fun uG => ?_)
  clear hK K hrun hW jW
  (try simp only [Act.put, u1, u2, u3])
  refine rk 7 rfl (fun K hK => ?_)
  obtain ⟨vA7, z7, hrun, hW, jW⟩ := rL z6 w0.heap.size _ 0 [] hO6 B ao no co l (HO.out.below oA (by omega)) jA.out (by omega) oA.size
  have hO7 : z7.ownsRow w0.heap.size 50 8 vA7 no (aH l) := by simpa using hW
  obtain ⟨oa, oc, rfl, bM⟩ := oJ hO7; have hV7 := hV6.kept jW (j6 hV6 hO6 (by decide))
  have Y6 := oA.grown jW oA.size (fun j hj => (hO6.lt j hj).1)
  rw [if_pos (by rfl)]
  refine yR _ _ _ rfl _ _ rfl rfl hrun ?_
  refine hK.out _ _ ⟨(Y6.cell (p := ⟨w.heap.size, 0, none⟩) (by show w.heap.size < _; omega)).trans c0, (Y6.cell (p := ⟨w.heap.size, 1, none⟩) (by show w.heap.size < _; omega)).trans c1⟩ (fun oT => ?_)
  clear hK K hrun hW jW
  (try simp only [Act.put, u1, u2, u3])
  refine tj 8 ?_
  have B4 := aRA ((Y6.block _ dK).trans HR.out); obtain ⟨r0, r1⟩ := pair_cells B4.out; obtain ⟨f0, f1⟩ := aD B4.out; have HP : Hid (Own z7 w0.heap.size z7.heap.size va nv xs ∧ bF z7 w0.heap.size z7.heap.size oa no l) := ⟨wH hV7 aRC, gS hO7 aRC⟩; have sO : Below (w.heap.size + 1) w0 ((z7.setCell ⟨w.heap.size + 1, 0, none⟩ (.slice va nv vc)).setCell ⟨w.heap.size + 1, 1, none⟩ (.slice oa no oc)) := ((show Below (w.heap.size + 1) w0 z7 from Y6.mono (by omega)).setCell (p := ⟨w.heap.size + 1, 0, none⟩) aRC _).setCell (p := ⟨w.heap.size + 1, 1, none⟩) aRC _
  have pT : ∀ j, j ≠ w.heap.size + 1 → ((z7.setCell ⟨w.heap.size + 1, 0, none⟩ (.slice va nv vc)).setCell ⟨w.heap.size + 1, 1, none⟩ (.slice oa no oc)).heap[j]? = z7.heap[j]? := fun j hj => aF _ _ hj
  have xF : Hid (((z7.setCell ⟨w.heap.size + 1, 0, none⟩ (.slice va nv vc)).setCell ⟨w.heap.size + 1, 1, none⟩ (.slice oa no oc)).heap[w.heap.size + 1]? = some (.cells #[.slice va nv vc, .slice oa no oc] 27 (0, 0))) := cK _ _ B4.out; have X8 : ((z7.setCell ⟨w.heap.size + 1, 0, none⟩ (.slice va nv vc)).setCell ⟨w.heap.size + 1, 1, none⟩ (.slice oa no oc)).heap.size = z7.heap.size := bA _ _ _ _; refine rk 9 rfl (fun K hK => ?_)
  go_simp
  refine hK.out _ _ ⟨(sO.cell (p := ⟨w.heap.size, 0, none⟩) (by show w.heap.size < _; omega)).trans c0, (sO.cell (p := ⟨w.heap.size, 1, none⟩) (by show w.heap.size < _; omega)).trans c1⟩ (fun aIw => ?_)
  clear hK K
  (try simp only [Act.put, u1, u2, u3])
  refine wpAnyH_done (by kernel_rfl) ?_ _
  generalize (z7.setCell ⟨w.heap.size + 1, 0, none⟩ (.slice va nv vc)).setCell ⟨w.heap.size + 1, 1, none⟩ (.slice oa no oc) = wf at xF sO pT X8 ⊢; obtain ⟨q0, q1⟩ := pair_cells xF.out; have vT : Hid (Own wf w.heap.size wf.heap.size va nv xs ∧ bF wf w.heap.size wf.heap.size oa no l) := ⟨((HP.out.1.kept (w' := wf) fun j h1 h2 => pT j (by omega)).more (by omega) (by omega)), ((HP.out.2.kept (w' := wf) fun j h1 h2 => pT j (by omega)).more (by omega) (by omega))⟩
  have cA := aRA (HB.out.trans (sO.mono (by omega)))
  have iR := aRA hca; have rO := aRA bM; clear pT X8 HP B4 r0 r1 f0 f1 sO hca bM; go_wp2
  exact bodyPost_ret (v := .agg #[.slice va nv vc, .slice oa no oc]) (by simp [results, Tryz.results47, go_sem, q0, q1]) rfl ⟨va, vc, oa, oc, by rw [yL.out, qO.out], by rw [yL.out]; exact vT.out.1, by rw [qO.out]; exact vT.out.2, cA.out, by rw [yL.out]; exact iR.out, by rw [qO.out]; exact rO.out⟩
 refine AllReadyH.cons rfl (fun K hK => ?_) AllReadyH.nil
 have wY : Below w0.heap.size w0 (z0.alloc (.cells #[] 50)) := fY.alloc fY.size _
 have hO8 : (z0.alloc (.cells #[] 50)).ownsRow w0.heap.size 50 8 (.slice (some ⟨z0.heap.size, 0, none⟩) 0 0) 0 (aH []) := World.ownsRow_made z0 #[] 0 fY.size (by unfold maxLen; omega) rfl
 go_simp
 refine hK.out _ _ ⟨(wY.cell (p := ⟨w.heap.size, 0, none⟩) (by show w.heap.size < _; omega)).trans c0, (wY.cell (p := ⟨w.heap.size, 1, none⟩) (by show w.heap.size < _; omega)).trans c1⟩ (fun wZ => ?_)
 clear hK K
 (try simp only [Act.put, u1, u2, u3])
 generalize z0.alloc (.cells #[] 50) = z8 at wZ wY hO8 ⊢
 refine rk 0 rfl (fun K hK => ?_)
 have pK : Below w0.heap.size w0 (z8.alloc (.cells #[] 2)) := wY.alloc wY.size _
 have hV9 : (z8.alloc (.cells #[] 2)).ownsRow w0.heap.size 2 1 (.slice (some ⟨z8.heap.size, 0, none⟩) 0 0) 0 (([] : List Int).map (Value.int .i64)) := World.ownsRow_made z8 #[] 0 wY.size (by unfold maxLen; omega) rfl
 have hO9 := hO8.alloc (.cells #[] 2)
 go_simp
 refine hK.out _ _ ⟨(pK.cell (p := ⟨w.heap.size, 0, none⟩) (by show w.heap.size < _; omega)).trans c0, (pK.cell (p := ⟨w.heap.size, 1, none⟩) (by show w.heap.size < _; omega)).trans c1⟩ (fun uF => ?_)
 clear hK K
 (try simp only [Act.put, u1, u2, u3])
 generalize z8.alloc (.cells #[] 2) = z9 at uF pK hV9 hO9 ⊢
 refine rk 3 rfl (fun K hK => ?_)
 obtain ⟨aPi, z10, hrun, hW, jW⟩ := aCE z9 w0.heap.size _ 0 [] hV9 B av nv cv xs (HV.out.below pK (by omega)) HCV.out (by omega) pK.size
 have aJ0 : z10.ownsRow w0.heap.size 2 1 aPi nv (xs.map (Value.int .i64)) := by simpa using hW
 obtain ⟨va, vc, rfl, hca⟩ := oJ aJ0
 have aJ2 := hO9.kept jW (j6 hO9 hV9 (by decide))
 have aCA := pK.grown jW pK.size (fun j hj => (hV9.lt j hj).1)
 rw [if_pos (by rfl)]
 refine yR _ _ _ rfl _ _ rfl rfl hrun ?_
 refine hK.out _ _ ⟨(aCA.cell (p := ⟨w.heap.size, 0, none⟩) (by show w.heap.size < _; omega)).trans c0, (aCA.cell (p := ⟨w.heap.size, 1, none⟩) (by show w.heap.size < _; omega)).trans c1⟩ (fun aQB => ?_)
 clear hK K hrun hW jW
 (try simp only [Act.put, u1, u2, u3])
 refine rk 7 rfl (fun K hK => ?_)
 obtain ⟨aPh, R0, hrun, hW, jW⟩ := rL z10 w0.heap.size _ 0 [] aJ2 B ao no co l (HO.out.below aCA (by omega)) jA.out (by omega) aCA.size
 have aNA : R0.ownsRow w0.heap.size 50 8 aPh no (aH l) := by simpa using hW
 obtain ⟨oa, oc, rfl, bM⟩ := oJ aNA
 have aP7 := aJ0.kept jW (j6 aJ0 aJ2 (by decide))
 have aGC := aCA.grown jW aCA.size (fun j hj => (aJ2.lt j hj).1)
 rw [if_pos (by rfl)]
 refine yR _ _ _ rfl _ _ rfl rfl hrun ?_
 refine hK.out _ _ ⟨(aGC.cell (p := ⟨w.heap.size, 0, none⟩) (by show w.heap.size < _; omega)).trans c0, (aGC.cell (p := ⟨w.heap.size, 1, none⟩) (by show w.heap.size < _; omega)).trans c1⟩ (fun aQA => ?_)
 clear hK K hrun hW jW
 (try simp only [Act.put, u1, u2, u3])
 refine tj 8 ?_
 have B4 := aRA ((aGC.block _ dK).trans HR.out)
 obtain ⟨r0, r1⟩ := pair_cells B4.out
 obtain ⟨f0, f1⟩ := aD B4.out
 have HP : Hid (Own R0 w0.heap.size R0.heap.size va nv xs ∧ bF R0 w0.heap.size R0.heap.size oa no l) := ⟨wH aP7 aRC, gS aNA aRC⟩
 have sO : Below (w.heap.size + 1) w0 ((R0.setCell ⟨w.heap.size + 1, 0, none⟩ (.slice va nv vc)).setCell ⟨w.heap.size + 1, 1, none⟩ (.slice oa no oc)) := ((show Below (w.heap.size + 1) w0 R0 from aGC.mono (by omega)).setCell (p := ⟨w.heap.size + 1, 0, none⟩) aRC _).setCell (p := ⟨w.heap.size + 1, 1, none⟩) aRC _
 have pT : ∀ j, j ≠ w.heap.size + 1 → ((R0.setCell ⟨w.heap.size + 1, 0, none⟩ (.slice va nv vc)).setCell ⟨w.heap.size + 1, 1, none⟩ (.slice oa no oc)).heap[j]? = R0.heap[j]? := fun j hj => aF _ _ hj
 have xF : Hid (((R0.setCell ⟨w.heap.size + 1, 0, none⟩ (.slice va nv vc)).setCell ⟨w.heap.size + 1, 1, none⟩ (.slice oa no oc)).heap[w.heap.size + 1]? = some (.cells #[.slice va nv vc, .slice oa no oc] 27 (0, 0))) := cK _ _ B4.out
 have X8 : ((R0.setCell ⟨w.heap.size + 1, 0, none⟩ (.slice va nv vc)).setCell ⟨w.heap.size + 1, 1, none⟩ (.slice oa no oc)).heap.size = R0.heap.size := bA _ _ _ _
 refine rk 9 rfl (fun K hK => ?_)
 go_simp
 refine hK.out _ _ ⟨(sO.cell (p := ⟨w.heap.size, 0, none⟩) (by show w.heap.size < _; omega)).trans c0, (sO.cell (p := ⟨w.heap.size, 1, none⟩) (by show w.heap.size < _; omega)).trans c1⟩ (fun aIw => ?_)
 clear hK K
 (try simp only [Act.put, u1, u2, u3])
 refine wpAnyH_done (by kernel_rfl) ?_ _
 generalize (R0.setCell ⟨w.heap.size + 1, 0, none⟩ (.slice va nv vc)).setCell ⟨w.heap.size + 1, 1, none⟩ (.slice oa no oc) = wf at xF sO pT X8 ⊢
 obtain ⟨q0, q1⟩ := pair_cells xF.out
 have vT : Hid (Own wf w.heap.size wf.heap.size va nv xs ∧ bF wf w.heap.size wf.heap.size oa no l) := ⟨((HP.out.1.kept (w' := wf) fun j h1 h2 => pT j (by omega)).more (by omega) (by omega)), ((HP.out.2.kept (w' := wf) fun j h1 h2 => pT j (by omega)).more (by omega) (by omega))⟩
 have cA := aRA (HB.out.trans (sO.mono (by omega)))
 have iR := aRA hca
 have rO := aRA bM
 clear pT X8 HP B4 r0 r1 f0 f1 sO hca bM
 go_wp2
 exact bodyPost_ret (v := .agg #[.slice va nv vc, .slice oa no oc]) (by simp [results, Tryz.results47, go_sem, q0, q1]) rfl ⟨va, vc, oa, oc, by rw [yL.out, qO.out], by rw [yL.out]; exact vT.out.1, by rw [qO.out]; exact vT.out.2, cA.out, by rw [yL.out]; exact iR.out, by rw [qO.out]; exact rO.out⟩
set_option linter.unusedVariables false

theorem aFN (w : World) (B : Nat) (av ao : Option Addr) (nv cv no co : Nat) (l : List aA) (h : bS w B ao no l) (hB : B ≤ w.heap.size) (hn : no ≤ 1048576) : Calls Tryz.prog 120 #[.agg #[.slice av nv cv, .slice ao no co]] w fun e w' => e = .returned (.int .i64 (dM l l.length)) ∧ Below w.heap.size w w' := by
 have aW : Below w.heap.size w (w.alloc (.cells #[.slice av nv cv, .slice ao no co] 27)) := (Below.refl _ w).alloc aRC _
 have HO := aRA (h.below aW hB)
 have HB := aRA aW
 have HX := aRA (bL (Below.refl _ (w.alloc (.cells #[.slice av nv cv, .slice ao no co] 27))))
 have HL := aRA h.1
 clear h aW
 go_enter Tryz.func120, Tryz.ntmps120
 go_wp2_with fail
 generalize w.alloc (.cells #[.slice av nv cv, .slice ao no co] 27) = w0 at HO HB HX ⊢
 obtain ⟨c0, c1⟩ := pair_cells HX.out
 go_wp2
 go_loop [3, 4] (fun n i => ∃ k : Nat, k ≤ no ∧ i = .int .i64 k ∧ n = .int .i64 (dM l k)) (fun _ i => no - (intOf i).toNat)
 case atStart => exact ⟨0, Nat.zero_le _, rfl, rfl⟩
 case round =>
  obtain ⟨k, hk, rfl, rfl⟩ := hrel
  by_cases aK : k < no
  ·obtain ⟨b, off, rfl, hb, ho⟩ := HO.out.2 k aK
   obtain ⟨d0, d1, d2, d3, d4, d5, d6, d7⟩ := ho; have HU : Hid (dM l (k + 1) = max (dM l k) (l.getD k aA.zero).stamp) := rfl; generalize l.getD k aA.zero = x at HU d0 d1 d2 d3 d4 d5 d6 d7; go_wp2
   go_round
   case rel => exact ⟨k + 1, by omega, by go_num, by rw [HU.out]⟩
   case measure => simp [intOf]; omega
  ·obtain rfl : k = no := by omega
   go_wp2
   go_ret
   exact ⟨by rw [HL.out]; rfl, HB.out⟩
set_option linter.unusedVariables false

theorem eM (w : World) (b i j : Nat) (u v : Value) : Below b w ((w.setCell ⟨b, i, none⟩ u).setCell ⟨b, j, none⟩ v) := ((Below.refl b w).setCell (p := ⟨b, i, none⟩) aRC u).setCell (p := ⟨b, j, none⟩) aRC v
theorem iS (w : World) (b i : Nat) (u : Value) : Below b w (w.setCell ⟨b, i, none⟩ u) := (Below.refl b w).setCell (p := ⟨b, i, none⟩) aRC u
/-- Three blocks that a call has laid first: a cart, an operation and a result. -/
structure kN (w w1 : World) (x y z : Array Value) : Prop where
 fst : w1.heap[w.heap.size]? = some (.cells x 27 (0, 0))
 snd : w1.heap[w.heap.size + 1]? = some (.cells y 50 (0, 0))
 res : w1.heap[w.heap.size + 1 + 1]? = some (.cells z 27 (0, 0))
 bel : Below w.heap.size w w1
theorem kN.mk0 (w : World) (x y z : Array Value) : kN w (((w.alloc (.cells x 27)).alloc (.cells y 50)).alloc (.cells z 27)) x y z := by
 have e1 : (w.alloc (.cells x 27)).heap.size = w.heap.size + 1 := by simp
 have e2 : ((w.alloc (.cells x 27)).alloc (.cells y 50)).heap.size = w.heap.size + 1 + 1 := by simp
 refine ⟨?_, ?_, ?_, (((Below.refl _ w).alloc aRC _).alloc (by simp) _).alloc (by simp; omega) _⟩
 ·exact ((Below.heap_alloc _ _ _ (by omega)).trans (Below.heap_alloc _ _ _ (by omega))).trans (heap_alloc_new _ _)
 ·rw [← e1]; exact (Below.heap_alloc _ _ _ (by omega)).trans (heap_alloc_new _ _)
 ·rw [← e2]; exact heap_alloc_new _ _
theorem kN.next {w w1 w2 : World} {x y z : Array Value} (h : kN w w1 x y z) (hb : Below w1.heap.size w1 w2) : kN w w2 x y z :=
 ⟨(hb.block _ (aRB h.fst).1).trans h.fst, (hb.block _ (aRB h.snd).1).trans h.snd, (hb.block _ (aRB h.res).1).trans h.res, h.bel.trans (hb.mono h.bel.size)⟩
theorem kN.put {w w1 : World} {x y z : Array Value} (h : kN w w1 x y z) (i : Nat) (v : Value) : kN w (w1.setCell ⟨w.heap.size + 1, i, none⟩ v) x (y.setIfInBounds i v) z :=
 ⟨(heap_setCell_other _ _ _ _ (by show w.heap.size ≠ w.heap.size + 1; omega)).trans h.fst, heap_setCell_same _ _ _ _ _ _ h.snd, (heap_setCell_other _ _ _ _ (by show w.heap.size + 1 + 1 ≠ w.heap.size + 1; omega)).trans h.res, h.bel.setCell (p := ⟨w.heap.size + 1, i, none⟩) (by show _ ≤ w.heap.size + 1; omega) v⟩
theorem kN.far {w w1 w2 : World} {x y z : Array Value} (h : kN w w1 x y z) (hb : Below (w.heap.size + 1 + 1 + 1) w1 w2) : kN w w2 x y z :=
 ⟨(hb.block _ (by omega)).trans h.fst, (hb.block _ (by omega)).trans h.snd, (hb.block _ (by omega)).trans h.res, h.bel.trans (hb.mono (by omega))⟩
theorem kN.lt {w w1 : World} {x y z : Array Value} (h : kN w w1 x y z) : w.heap.size + 1 + 1 < w1.heap.size := (aRB h.res).1
theorem kN.set2 {w w1 : World} {x y : Array Value} {z0 z1 : Value} (h : kN w w1 x y #[z0, z1]) (u v : Value) :
  ((w1.setCell ⟨w.heap.size + 1 + 1, 0, none⟩ u).setCell ⟨w.heap.size + 1 + 1, 1, none⟩ v).heap[w.heap.size + 1 + 1]? = some (.cells #[u, v] 27 (0, 0)) ∧ Below (w.heap.size + 1 + 1) w1 ((w1.setCell ⟨w.heap.size + 1 + 1, 0, none⟩ u).setCell ⟨w.heap.size + 1 + 1, 1, none⟩ v) :=
 ⟨cK _ _ h.res, eM _ _ _ _ _ _⟩
/-- What a call answers that hands back a cart of its own and whether it could make it. -/
def aKm (ok : Bool) (zs : List Int) (L : List aA) (w : World) (e : Ending) (w' : World) : Prop := ∃ va vc oa oc, e = .returned (.tuple #[.agg #[.slice va zs.length vc, .slice oa L.length oc], .bool ok]) ∧ Own w' w.heap.size w'.heap.size va zs.length zs ∧ bF w' w.heap.size w'.heap.size oa L.length L ∧ Below w.heap.size w w' ∧ bP va zs.length vc ∧ bP oa L.length oc
theorem aCl (w : World) (o : aA) : bS (w.alloc (.cells #[.int .i64 o.dev, .int .i64 o.seq, .int .i64 o.stamp, .int .i64 o.kind, .string o.item, .int .i64 o.qty, .int .i64 o.level, .int .i64 o.undos] 50)) (w.heap.size + 1) (some ⟨w.heap.size, 0, none⟩) 1 [o] := by
 refine ⟨rfl, fun i hi => ⟨w.heap.size, 0, rfl, Nat.lt_succ_self _, ?_⟩⟩
 obtain rfl : i = 0 := by omega
 exact aQ (heap_alloc_new w _)
theorem qQ (w : World) (lo hi : Nat) (a : Option Addr) : Own w lo hi a 0 [] := ⟨rfl, fun h => absurd h (by omega)⟩

theorem aL2 (w : World) (B : Nat) (av ao : Option Addr) (cv no co d : Nat) (xs : List Int) (l : List aA) (o : aA) (hx : Ints w B av 4 xs) (h : bS w B ao no l) (hB : B ≤ w.heap.size) (bI : av = none → cv = 0) (bM : bP ao no co) (hd : d < 4) (hn : no ≤ 100000) (pI : 0 ≤ xs.getD d 0 ∧ xs.getD d 0 ≤ 1000) (gC : ∀ i, i < l.length → (aC l i).stamp ≤ 200000) (hi : o.item.size ≤ 1048576) (hok : (aJ xs l d o).ok = false) :
  Calls Tryz.prog 90 #[.agg #[.slice av 4 cv, .slice ao no co], .int .i64 (d : Int), .agg #[.int .i64 o.dev, .int .i64 o.seq, .int .i64 o.stamp, .int .i64 o.kind, .string o.item, .int .i64 o.qty, .int .i64 o.level, .int .i64 o.undos]] w (aKm false [] [] w) := by
 have hT := kN.mk0 w #[.slice av 4 cv, .slice ao no co] #[.int .i64 o.dev, .int .i64 o.seq, .int .i64 o.stamp, .int .i64 o.kind, .string o.item, .int .i64 o.qty, .int .i64 o.level, .int .i64 o.undos] #[.slice none 0 0, .slice none 0 0]
 have HV := aRA (hx.below hT.bel hB)
 have HO := aRA (h.below hT.bel hB)
 have HT := aRA hT
 have yL := aRA hx.1
 have qO := aRA h.1
 have HCV := aRA bI
 have jA := aRA bM
 have D8 := rP l l.length
 have eH := wC (N := 200000) (by omega) gC l.length aRC
 have HOK : Hid (dP (d : Int) (xs.getD d 0 + 1) (dM l l.length + 1) o.kind o.item o.qty o.level o.undos = false) := hok
 have c9 : Hid (aJ xs l d o = ⟨(d : Int), xs.getD d 0 + 1, dM l l.length + 1, o.kind, o.item, o.qty, o.level, o.undos⟩) := rfl
 have L7 : Hid (dU xs d = xs.set d (xs.getD d 0 + 1)) := rfl
 clear hx h hT gC hok bI bM
 go_enter Tryz.func90, Tryz.ntmps90
 go_upto_region 1 with fail
 generalize ((w.alloc (.cells #[.slice av 4 cv, .slice ao no co] 27)).alloc (.cells #[.int .i64 o.dev, .int .i64 o.seq, .int .i64 o.stamp, .int .i64 o.kind, .string o.item, .int .i64 o.qty, .int .i64 o.level, .int .i64 o.undos] 50)).alloc (.cells #[.slice none 0 0, .slice none 0 0] 27) = w0 at HV HO HT ⊢
 obtain ⟨b, off, rfl, hb, hc⟩ := HV.out.2 d hd
 obtain ⟨x, sL⟩ : ∃ x, x = xs.getD d 0 := ⟨_, rfl⟩
 obtain ⟨S, fM⟩ : ∃ S, S = dM l l.length := ⟨_, rfl⟩
 rw [← sL, ← fM] at HOK c9
 rw [← sL] at hc pI L7
 rw [← fM] at D8 eH
 have HSE := aRA fM
 obtain ⟨yD, hx1⟩ := pI
 clear sL fM
 obtain ⟨q0, q1⟩ := pair_cells HT.out.fst
 obtain ⟨o0, o1, o2, o3, o4, o5, o6, o7⟩ := aQ HT.out.snd
 obtain ⟨f0, f1, f2, f3, f4, f5, f6, f7⟩ := dE HT.out.snd
 have Y5 : (d : Int) < 4 := by omega
 have mF := HT.out.lt
 have B6 := aRA ((HT.out.put 0 (.int .i64 (d : Int))).put 1 (.int .i64 (x + 1)))
 have S6 : Below (w.heap.size + 1) w0 ((w0.setCell ⟨w.heap.size + 1, 0, none⟩ (.int .i64 (d : Int))).setCell ⟨w.heap.size + 1, 1, none⟩ (.int .i64 (x + 1))) := eM _ _ _ _ _ _
 have mZ := aRA (HV.out.below S6 (by omega))
 have iZ := aRA (HO.out.below S6 (by omega))
 have hl2 := B6.out.lt
 clear S6
 go_upto_region 3 with fail
 generalize (w0.setCell ⟨w.heap.size + 1, 0, none⟩ (.int .i64 (d : Int))).setCell ⟨w.heap.size + 1, 1, none⟩ (.int .i64 (x + 1)) = w2 at B6 mZ iZ hl2 ⊢
 clear q0 q1 o0 o1 o2 o3 o4 o5 o6 o7 f0 f1 f2 f3 f4 f5 f6 f7 hc HV HO HT mF
 obtain ⟨q0, q1⟩ := pair_cells B6.out.fst
 go_wp2_with fail
 refine (aFN w2 B _ ao 4 cv no co l iZ.out (by omega) (by omega)).mono ?_
 rintro e w3 ⟨rfl, bB⟩
 rw [← HSE.out]
 have HP3 := aRA (B6.out.next bB)
 have Z6 := aRA (mZ.out.below bB (by omega))
 have B9 := aRA (iZ.out.below bB (by omega))
 have iG := bB.size
 clear bB B6 mZ iZ q0 q1
 obtain ⟨o0, o1, o2, o3, o4, o5, o6, o7⟩ := aQ HP3.out.snd
 obtain ⟨f0, f1, f2, f3, f4, f5, f6, f7⟩ := dE HP3.out.snd
 have qM := aRA (HP3.out.put 2 (.int .i64 (S + 1)))
 have oU : Below (w.heap.size + 1) w3 (w3.setCell ⟨w.heap.size + 1, 2, none⟩ (.int .i64 (S + 1))) := iS _ _ _ _
 have tK := aRA (Z6.out.below oU (by omega))
 have rZ := aRA (B9.out.below oU (by omega))
 have sN : w.heap.size + 1 + 1 < (w3.setCell ⟨w.heap.size + 1, 2, none⟩ (.int .i64 (S + 1))).heap.size := qM.out.lt
 clear oU
 go_upto_region 4 with fail
 generalize w3.setCell ⟨w.heap.size + 1, 2, none⟩ (.int .i64 (S + 1)) = w4 at qM tK rZ sN ⊢
 clear o0 o1 o2 o3 o4 o5 o6 o7 f0 f1 f2 f3 f4 f5 f6 f7 HP3 Z6 B9 iG
 obtain ⟨o0, o1, o2, o3, o4, o5, o6, o7⟩ := aQ (show w4.heap[w.heap.size + 1]? = some (.cells #[.int .i64 (d : Int), .int .i64 (x + 1), .int .i64 (S + 1), .int .i64 o.kind, .string o.item, .int .i64 o.qty, .int .i64 o.level, .int .i64 o.undos] 50 (0, 0)) from qM.out.snd)
 go_wp2_with fail
 refine (aAY (d : Int) (x + 1) (S + 1) o.kind o.item o.qty o.level o.undos w4 hi).mono ?_
 rintro e w5 ⟨rfl, bE⟩
 rw [HOK.out]
 have uJ := aRA (qM.out.next bE)
 have HV5 := aRA (tK.out.below bE (by omega))
 have HO5 := aRA (rZ.out.below bE (by omega))
 have hl5 := uJ.out.lt
 clear bE qM tK rZ sN o0 o1 o2 o3 o4 o5 o6 o7
 obtain ⟨r0, r1⟩ := pair_cells uJ.out.res
 obtain ⟨g0, g1⟩ := aD uJ.out.res
 have bV := aRA (uJ.out.set2 (.slice none 0 0) (.slice none 0 0)).1
 have dC := aRA (uJ.out.bel.trans ((uJ.out.set2 (.slice none 0 0) (.slice none 0 0)).2.mono (by omega)))
 go_wp2
 change bodyPost _ _ _ _ _ ((w5.setCell ⟨w.heap.size + 1 + 1, 0, none⟩ (.slice none 0 0)).setCell ⟨w.heap.size + 1 + 1, 1, none⟩ (.slice none 0 0))
 generalize (w5.setCell ⟨w.heap.size + 1 + 1, 0, none⟩ (.slice none 0 0)).setCell ⟨w.heap.size + 1 + 1, 1, none⟩ (.slice none 0 0) = wf at bV dC ⊢
 obtain ⟨q0, q1⟩ := pair_cells bV.out
 exact bodyPost_ret (v := .tuple #[.agg #[.slice none 0 0, .slice none 0 0], .bool false]) (by simp [results, Tryz.results90, go_sem, q0, q1]) rfl ⟨none, 0, none, 0, rfl, qQ _ _ _ _, gD _ _ _ _, dC.out, dA, dA⟩

theorem aJp (w : World) (B : Nat) (av ao : Option Addr) (cv no co d : Nat) (xs : List Int) (l : List aA) (o : aA) (hx : Ints w B av 4 xs) (h : bS w B ao no l) (hB : B ≤ w.heap.size) (bI : av = none → cv = 0) (bM : bP ao no co) (hd : d < 4) (hn : no ≤ 100000) (pI : 0 ≤ xs.getD d 0 ∧ xs.getD d 0 ≤ 1000) (gC : ∀ i, i < l.length → (aC l i).stamp ≤ 200000) (hi : o.item.size ≤ 1048576) (hok : (aJ xs l d o).ok = true) :
  Calls Tryz.prog 90 #[.agg #[.slice av 4 cv, .slice ao no co], .int .i64 (d : Int), .agg #[.int .i64 o.dev, .int .i64 o.seq, .int .i64 o.stamp, .int .i64 o.kind, .string o.item, .int .i64 o.qty, .int .i64 o.level, .int .i64 o.undos]] w (aKm true (dU xs d) (bO l d (aJ xs l d o)) w) := by
 have hT := kN.mk0 w #[.slice av 4 cv, .slice ao no co] #[.int .i64 o.dev, .int .i64 o.seq, .int .i64 o.stamp, .int .i64 o.kind, .string o.item, .int .i64 o.qty, .int .i64 o.level, .int .i64 o.undos] #[.slice none 0 0, .slice none 0 0]
 have HV := aRA (hx.below hT.bel hB)
 have HO := aRA (h.below hT.bel hB)
 have HT := aRA hT
 have yL := aRA hx.1
 have qO := aRA h.1
 have HCV := aRA bI
 have jA := aRA bM
 have D8 := rP l l.length
 have eH := wC (N := 200000) (by omega) gC l.length aRC
 have HOK : Hid (dP (d : Int) (xs.getD d 0 + 1) (dM l l.length + 1) o.kind o.item o.qty o.level o.undos = true) := hok
 have c9 : Hid (aJ xs l d o = ⟨(d : Int), xs.getD d 0 + 1, dM l l.length + 1, o.kind, o.item, o.qty, o.level, o.undos⟩) := rfl
 have L7 : Hid (dU xs d = xs.set d (xs.getD d 0 + 1)) := rfl
 clear hx h hT gC hok bI bM
 go_enter Tryz.func90, Tryz.ntmps90
 go_upto_region 1 with fail
 generalize ((w.alloc (.cells #[.slice av 4 cv, .slice ao no co] 27)).alloc (.cells #[.int .i64 o.dev, .int .i64 o.seq, .int .i64 o.stamp, .int .i64 o.kind, .string o.item, .int .i64 o.qty, .int .i64 o.level, .int .i64 o.undos] 50)).alloc (.cells #[.slice none 0 0, .slice none 0 0] 27) = w0 at HV HO HT ⊢
 obtain ⟨b, off, rfl, hb, hc⟩ := HV.out.2 d hd
 obtain ⟨x, sL⟩ : ∃ x, x = xs.getD d 0 := ⟨_, rfl⟩
 obtain ⟨S, fM⟩ : ∃ S, S = dM l l.length := ⟨_, rfl⟩
 rw [← sL, ← fM] at HOK c9
 rw [← sL] at hc pI L7
 rw [← fM] at D8 eH
 have HSE := aRA fM
 obtain ⟨yD, hx1⟩ := pI
 clear sL fM
 obtain ⟨q0, q1⟩ := pair_cells HT.out.fst
 obtain ⟨o0, o1, o2, o3, o4, o5, o6, o7⟩ := aQ HT.out.snd
 obtain ⟨f0, f1, f2, f3, f4, f5, f6, f7⟩ := dE HT.out.snd
 have Y5 : (d : Int) < 4 := by omega
 have mF := HT.out.lt
 have B6 := aRA ((HT.out.put 0 (.int .i64 (d : Int))).put 1 (.int .i64 (x + 1)))
 have S6 : Below (w.heap.size + 1) w0 ((w0.setCell ⟨w.heap.size + 1, 0, none⟩ (.int .i64 (d : Int))).setCell ⟨w.heap.size + 1, 1, none⟩ (.int .i64 (x + 1))) := eM _ _ _ _ _ _
 have mZ := aRA (HV.out.below S6 (by omega))
 have iZ := aRA (HO.out.below S6 (by omega))
 have hl2 := B6.out.lt
 clear S6
 go_upto_region 3 with fail
 generalize (w0.setCell ⟨w.heap.size + 1, 0, none⟩ (.int .i64 (d : Int))).setCell ⟨w.heap.size + 1, 1, none⟩ (.int .i64 (x + 1)) = w2 at B6 mZ iZ hl2 ⊢
 clear q0 q1 o0 o1 o2 o3 o4 o5 o6 o7 f0 f1 f2 f3 f4 f5 f6 f7 hc HV HO HT mF
 obtain ⟨q0, q1⟩ := pair_cells B6.out.fst
 go_wp2_with fail
 refine (aFN w2 B _ ao 4 cv no co l iZ.out (by omega) (by omega)).mono ?_
 rintro e w3 ⟨rfl, bB⟩
 rw [← HSE.out]
 have HP3 := aRA (B6.out.next bB)
 have Z6 := aRA (mZ.out.below bB (by omega))
 have B9 := aRA (iZ.out.below bB (by omega))
 have iG := bB.size
 clear bB B6 mZ iZ q0 q1
 obtain ⟨o0, o1, o2, o3, o4, o5, o6, o7⟩ := aQ HP3.out.snd
 obtain ⟨f0, f1, f2, f3, f4, f5, f6, f7⟩ := dE HP3.out.snd
 have qM := aRA (HP3.out.put 2 (.int .i64 (S + 1)))
 have oU : Below (w.heap.size + 1) w3 (w3.setCell ⟨w.heap.size + 1, 2, none⟩ (.int .i64 (S + 1))) := iS _ _ _ _
 have tK := aRA (Z6.out.below oU (by omega))
 have rZ := aRA (B9.out.below oU (by omega))
 have sN : w.heap.size + 1 + 1 < (w3.setCell ⟨w.heap.size + 1, 2, none⟩ (.int .i64 (S + 1))).heap.size := qM.out.lt
 clear oU
 go_upto_region 4 with fail
 generalize w3.setCell ⟨w.heap.size + 1, 2, none⟩ (.int .i64 (S + 1)) = w4 at qM tK rZ sN ⊢
 clear o0 o1 o2 o3 o4 o5 o6 o7 f0 f1 f2 f3 f4 f5 f6 f7 HP3 Z6 B9 iG
 obtain ⟨o0, o1, o2, o3, o4, o5, o6, o7⟩ := aQ (show w4.heap[w.heap.size + 1]? = some (.cells #[.int .i64 (d : Int), .int .i64 (x + 1), .int .i64 (S + 1), .int .i64 o.kind, .string o.item, .int .i64 o.qty, .int .i64 o.level, .int .i64 o.undos] 50 (0, 0)) from qM.out.snd)
 go_wp2_with fail
 refine (aAY (d : Int) (x + 1) (S + 1) o.kind o.item o.qty o.level o.undos w4 hi).mono ?_
 rintro e w5 ⟨rfl, bE⟩
 rw [HOK.out]
 have uJ := aRA (qM.out.next bE)
 have HV5 := aRA (tK.out.below bE (by omega))
 have HO5 := aRA (rZ.out.below bE (by omega))
 have hl5 := uJ.out.lt
 clear bE qM tK rZ sN o0 o1 o2 o3 o4 o5 o6 o7
 obtain ⟨q0, q1⟩ := pair_cells uJ.out.fst
 go_wp2_with fail
 refine (aEc w5 B _ ao 4 cv no co xs l HV5.out HO5.out (by omega) HCV.out jA.out.2.2 (by omega) (by omega)).mono ?_
 rintro e w6 ⟨va, vc, oa, oc, rfl, N2, A2, oA, aJT, aNq⟩
 rw [yL.out] at N2 aJT ⊢
 rw [qO.out] at A2 aNq ⊢
 have L8 := aRA (uJ.out.next oA)
 have HV6 := aRA (HV5.out.below oA (by omega))
 have HO6 := aRA (HO5.out.below oA (by omega))
 obtain ⟨gv, aX, rfl, cF, fI, hgv, aEA⟩ := N2.2 (by omega)
 have wR := oA.size
 have HGV := aRA hgv
 have HCU := aRA aEA
 have T5 := aRA aJT
 clear oA uJ HV5 HO5 q0 q1 N2 A2 aNq hgv aEA aJT
 have hgs : gv < w6.heap.size := fI
 obtain ⟨q0, q1⟩ := pair_cells L8.out.fst
 obtain ⟨o0, o1, o2, o3, o4, o5, o6, o7⟩ := aQ (show w6.heap[w.heap.size + 1]? = some (.cells #[.int .i64 (d : Int), .int .i64 (x + 1), .int .i64 (S + 1), .int .i64 o.kind, .string o.item, .int .i64 o.qty, .int .i64 o.level, .int .i64 o.undos] 50 (0, 0)) from L8.out.snd)
 go_upto_region 7 with fail
 have Y6 : Below w6.heap.size w6 (w6.alloc (.cells #[.slice (some ⟨gv, 0, none⟩) 4 vc, .slice oa no oc] 27)) := bl
 have Z4 := aRA (bL (Below.refl _ (w6.alloc (.cells #[.slice (some ⟨gv, 0, none⟩) 4 vc, .slice oa no oc] 27))))
 have HP7 := aRA (L8.out.next Y6)
 have HV7 := aRA (HV6.out.below Y6 (by omega))
 have T2 := aRA (HO6.out.below Y6 (by omega))
 have HG7 := aRA ((Y6.block _ hgs).trans HGV.out)
 generalize w6.alloc (.cells #[.slice (some ⟨gv, 0, none⟩) 4 vc, .slice oa no oc] 27) = w7 at Y6 Z4 HP7 HV7 T2 HG7 ⊢
 have J3 := Y6.size
 have hx7 : w6.heap.size < w7.heap.size := (aRB Z4.out).1
 clear Y6 L8 HV6 HO6 HGV q0 q1 o0 o1 o2 o3 o4 o5 o6 o7
 generalize w6.heap.size = ob at wR hgs J3 hx7 Z4 fI ⊢
 obtain ⟨x0, x1⟩ := pair_cells Z4.out
 obtain ⟨M5, M4⟩ := aD Z4.out
 obtain ⟨o0, o1, o2, o3, o4, o5, o6, o7⟩ := aQ (show w7.heap[w.heap.size + 1]? = some (.cells #[.int .i64 (d : Int), .int .i64 (x + 1), .int .i64 (S + 1), .int .i64 o.kind, .string o.item, .int .i64 o.qty, .int .i64 o.level, .int .i64 o.undos] 50 (0, 0)) from HP7.out.snd)
 have bI : ∃ z, w7.cell? ⟨gv, d, none⟩ = some z := ⟨_, (aRD HG7.out).trans (HCU.out d hd)⟩
 obtain ⟨z, hcz⟩ := bI
 have hfz : w7.frozen? ⟨gv, d, none⟩ = false := aRE HG7.out
 have wY : Below gv w7 (w7.setCell ⟨gv, d, none⟩ (.int .i64 (x + 1))) := iS _ _ _ _
 have aNe : ∀ j, j ≠ gv → (w7.setCell ⟨gv, d, none⟩ (.int .i64 (x + 1))).heap[j]? = w7.heap[j]? := fun j hj => heap_setCell_other _ _ _ _ hj
 have HG8 : Hid ((w7.setCell ⟨gv, d, none⟩ (.int .i64 (x + 1))).heap[gv]? = some (.cells (aX.setIfInBounds d (.int .i64 (x + 1))) 2 (0, 0))) := heap_setCell_same _ _ _ _ _ _ HG7.out
 have HX8 := aRA ((aNe ob (by omega)).trans Z4.out)
 have HP8 := aRA (HP7.out.far (wY.mono (by omega)))
 have B8 := aRA (T2.out.below wY (by omega))
 have hz8 : (w7.setCell ⟨gv, d, none⟩ (.int .i64 (x + 1))).heap.size = w7.heap.size := by simp [World.setCell]
 have hx8 : ob < (w7.setCell ⟨gv, d, none⟩ (.int .i64 (x + 1))).heap.size := by omega
 go_upto_region 8 with fail
 generalize w7.setCell ⟨gv, d, none⟩ (.int .i64 (x + 1)) = w8 at HG8 HX8 HP8 B8 hx8 ⊢
 clear wY aNe hz8 hcz hfz x0 x1 M5 M4 o0 o1 o2 o3 o4 o5 o6 o7 Z4 HP7 HV7 T2 HG7
 obtain ⟨q0, q1⟩ := pair_cells HP8.out.fst
 have aKw := aRA (qP (d : Int) l)
 have aN2 := fun i h => aRA (aA0 (dev := (d : Int)) (l := l) (i := i) h)
 have aN1 := fun h => aRA (j8 (dev := (d : Int)) (l := l) h)
 have HQd : Hid (bO l d (aJ xs l d o) = l.take (putAt (d : Int) l) ++ [aJ xs l d o] ++ l.drop (putAt (d : Int) l)) := rfl
 rw [c9.out] at HQd
 obtain ⟨p, hp⟩ : ∃ p, p = putAt (d : Int) l := ⟨_, rfl⟩
 rw [← hp] at aKw aN2 aN1 HQd
 have hpn : p ≤ no := by have := aKw.out; have := qO.out; omega
 clear hp aKw
 go_wp2
 go_loop [9] (fun i => ∃ k : Nat, k ≤ p ∧ i = .int .i64 (k : Int)) (fun i => p - (intOf i).toNat)
 case atStart => exact ⟨0, Nat.zero_le _, rfl⟩
 case round =>
  obtain ⟨k, hk, rfl⟩ := hrel
  by_cases hkp : k < p
  ·obtain ⟨b2, aS, rfl, aN, ho⟩ := B8.out.2 k (by omega)
   obtain ⟨d0, d1, d2, d3, d4, d5, d6, d7⟩ := ho; have jP := (aN2 k hkp).out; have aPY : (l.getD k aA.zero).dev ≤ (d : Int) := jP; clear jP; generalize l.getD k aA.zero = y at aPY d0 d1 d2 d3 d4 d5 d6 d7; have aK : (k : Int) < (no : Int) := by omega
   go_wp2
   go_round
   case rel => exact ⟨k + 1, by omega, by go_num⟩
   case measure => simp [intOf]; omega
  obtain rfl : k = p := by omega
  by_cases hkn : k < no
  ·obtain ⟨b2, aS, rfl, aN, ho⟩ := B8.out.2 k hkn
   obtain ⟨d0, d1, d2, d3, d4, d5, d6, d7⟩ := ho; have aPZ := (aN1 (by rw [qO.out]; exact hkn)).out
   have jP : ¬ (l.getD k aA.zero).dev ≤ (d : Int) := by show ¬ (aC l k).dev ≤ _; omega
   clear aPZ; generalize l.getD k aA.zero = y at jP d0 d1 d2 d3 d4 d5 d6 d7; have S2 : decide (y.dev ≤ (d : Int)) = false := decide_eq_false jP; have aK : decide ((k : Int) < (no : Int)) = true := decide_eq_true (by omega)
   clear jP
   go_upto_region 11 with fail
   clear S2 aK d0 d1 d2 d3 d4 d5 d6 d7; have pY : ¬ (co : Int) = (k : Int) := by have := jA.out.1; omega
   have hw8 : w8.heap.size ≤ w8.heap.size := Nat.le_refl _; have pK : Below w8.heap.size w8 (w8.alloc (.cells #[] 50)) := bl; have s9 : (w8.alloc (.cells #[] 50)).ownsRow w8.heap.size 50 8 (.slice (some ⟨w8.heap.size, 0, none⟩) 0 0) 0 (aH []) := World.ownsRow_made w8 #[] 0 aRC (by unfold maxLen; omega) rfl
   obtain ⟨v1, w9, pO, dI, pX⟩ := rL _ w8.heap.size _ 0 [] s9 B _ k co (l.take k) ((B8.out.below pK (by omega)).take hpn) jA.out.2.2 (by omega) pK.size
   have mM : w9.ownsRow w8.heap.size 50 8 v1 k (aH (l.take k)) := by simpa using dI
   have vP : Below w8.heap.size w8 w9 := pK.grown pX pK.size (fun j hj => (s9.lt j hj).1)
   have hkc : (k : Int) ≤ (co : Int) := by have := jA.out.1; omega
   obtain ⟨qa0, qa1⟩ := pair_cells (HP8.out.next pK).fst; clear dI pX s9; have E1 := aRA (HP8.out.next vP); have HX9 := aRA ((vP.block _ hx8).trans HX8.out); have HO9 := aRA (B8.out.below vP (by omega))
   have sZ := aRA vP; have rK := vP.size; clear vP pK q0 q1; obtain ⟨o0, o1, o2, o3, o4, o5, o6, o7⟩ := aQ (show w9.heap[w.heap.size + 1]? = some (.cells #[.int .i64 (d : Int), .int .i64 (x + 1), .int .i64 (S + 1), .int .i64 o.kind, .string o.item, .int .i64 o.qty, .int .i64 o.level, .int .i64 o.undos] 50 (0, 0)) from E1.out.snd); have gB : Below w9.heap.size w9 (w9.alloc (.cells #[.int .i64 (d : Int), .int .i64 (x + 1), .int .i64 (S + 1), .int .i64 o.kind, .string o.item, .int .i64 o.qty, .int .i64 o.level, .int .i64 o.undos] 50)) := bl; have pZ := aCl w9 ⟨(d : Int), x + 1, S + 1, o.kind, o.item, o.qty, o.level, o.undos⟩; have nK := mM.alloc (.cells #[.int .i64 (d : Int), .int .i64 (x + 1), .int .i64 (S + 1), .int .i64 o.kind, .string o.item, .int .i64 o.qty, .int .i64 o.level, .int .i64 o.undos] 50); obtain ⟨v2, wA, pN, eK, pW⟩ := rL _ w8.heap.size v1 k (l.take k) nK (w9.heap.size + 1) (some ⟨w9.heap.size, 0, none⟩) 1 1 _ pZ (fun h => by cases h) (by omega) (Nat.le_trans rK gB.size)
   have vO : Below w8.heap.size w9 wA := (gB.mono rK).grown pW (Nat.le_trans rK gB.size) (fun j hj => (nK.lt j hj).1)
   clear pW nK pZ gB mM; have HPA := aRA (E1.out.far (vO.mono (by omega)))
   have HXA := aRA ((vO.block _ (by omega)).trans HX9.out)
   have HOA := aRA (HO9.out.below vO (by omega))
   have HBA := aRA (sZ.out.trans vO); have hsA := vO.size; clear vO E1 HX9 HO9 sZ; obtain ⟨q0, q1⟩ := pair_cells HPA.out.fst; obtain ⟨x0, x1⟩ := pair_cells HXA.out; obtain ⟨M5, M4⟩ := aD HXA.out; have t7 := eK; have hnA : w8.heap.size ≤ wA.heap.size := Nat.le_trans rK hsA; obtain ⟨v3, wB, pM, nX, pV⟩ := rL wA w8.heap.size v2 (k + 1) _ eK B (some ⟨b2, aS + k * 8, none⟩) (no - k) (co - k) (l.drop k) (by have h := HOA.out.dropMap hpn; rw [Option.map_some, uI] at h; exact h) (fun h => by cases h) (by omega) hnA
   obtain ⟨gT, iJ, rfl, hc3⟩ := oJ nX; have A7 : Below w8.heap.size wA wB := (show Below w8.heap.size wA wA from Below.refl _ _).grown pV hnA (fun j hj => (t7.lt j hj).1)
   have HPB := aRA (HPA.out.far (A7.mono (by omega)))
   have HXB := aRA ((A7.block _ hx8).trans HXA.out); have HBB := aRA (HBA.out.trans A7); have hsB := A7.size; obtain ⟨qb0, qb1⟩ := pair_cells HPA.out.fst; obtain ⟨x0, x1⟩ := pair_cells HXB.out; obtain ⟨M5, M4⟩ := aD HXB.out; have HGB : Hid (wB.heap[gv]? = some (.cells (aX.setIfInBounds d (.int .i64 (x + 1))) 2 (0, 0))) := (HBB.out.block _ (by omega)).trans HG8.out
   have aAi : Hid ((wB.setCell ⟨ob, 1, none⟩ (.slice gT (k + 1 + (no - k)) iJ)).heap[ob]? = some (.cells #[.slice (some ⟨gv, 0, none⟩) 4 vc, .slice gT (k + 1 + (no - k)) iJ] 27 (0, 0))) := heap_setCell_same _ _ _ _ _ _ HXB.out; have qF := aRA (HPB.out.far ((iS wB ob 1 (.slice gT (k + 1 + (no - k)) iJ)).mono (by omega)))
   have rY : Hid (∀ j, j ≠ ob → (wB.setCell ⟨ob, 1, none⟩ (.slice gT (k + 1 + (no - k)) iJ)).heap[j]? = wB.heap[j]?) := fun j hj => heap_setCell_other _ _ _ _ hj
   have aAh : Hid ((wB.setCell ⟨ob, 1, none⟩ (.slice gT (k + 1 + (no - k)) iJ)).heap.size = wB.heap.size) := by show (World.setCell _ _ _).heap.size = _; simp [World.setCell]
   have yK := aRA (gS nX aRC); have HC3 := aRA hc3; have gN := aRA pO; have iY := aRA pN; have B5 := aRA pM; clear pO pN pM eK t7 nX pV A7 hc3
   go_upto_region 12 with (at_builtin; refine cX rfl _ _ _ rfl _ _ rfl rfl gN.out ?_)
   go_upto_region 13 with (at_builtin; refine cX rfl _ _ _ rfl _ _ rfl rfl iY.out ?_)
   go_upto_region 14 with (at_builtin; refine cX rfl _ _ _ rfl _ _ rfl rfl B5.out ?_)
   generalize wB.setCell ⟨ob, 1, none⟩ (.slice gT (k + 1 + (no - k)) iJ) = lC at aAi qF rY aAh ⊢; clear q0 q1 qa0 qa1 qb0 qb1 o0 o1 o2 o3 o4 o5 o6 o7 x0 x1 M5 M4 gN iY B5; obtain ⟨x0, x1⟩ := pair_cells aAi.out; obtain ⟨r0, r1⟩ := pair_cells qF.out.res; obtain ⟨g0, g1⟩ := aD qF.out.res; have xF := aRA (qF.out.set2 (.slice (some ⟨gv, 0, none⟩) 4 vc) (.slice gT (k + 1 + (no - k)) iJ)).1; have cA := aRA (qF.out.bel.trans ((qF.out.set2 (.slice (some ⟨gv, 0, none⟩) 4 vc) (.slice gT (k + 1 + (no - k)) iJ)).2.mono (by omega)))
   have aAk : Hid (∀ j, j ≠ w.heap.size + 1 + 1 → ((lC.setCell ⟨w.heap.size + 1 + 1, 0, none⟩ (.slice (some ⟨gv, 0, none⟩) 4 vc)).setCell ⟨w.heap.size + 1 + 1, 1, none⟩ (.slice gT (k + 1 + (no - k)) iJ)).heap[j]? = lC.heap[j]?) := fun j hj => aF _ _ hj
   have HZF : Hid (((lC.setCell ⟨w.heap.size + 1 + 1, 0, none⟩ (.slice (some ⟨gv, 0, none⟩) 4 vc)).setCell ⟨w.heap.size + 1 + 1, 1, none⟩ (.slice gT (k + 1 + (no - k)) iJ)).heap.size = lC.heap.size) := bA _ _ _ _; go_wp2
   change bodyPost _ _ _ _ _ ((lC.setCell ⟨w.heap.size + 1 + 1, 0, none⟩ (.slice (some ⟨gv, 0, none⟩) 4 vc)).setCell ⟨w.heap.size + 1 + 1, 1, none⟩ (.slice gT (k + 1 + (no - k)) iJ))
   generalize (lC.setCell ⟨w.heap.size + 1 + 1, 0, none⟩ (.slice (some ⟨gv, 0, none⟩) 4 vc)).setCell ⟨w.heap.size + 1 + 1, 1, none⟩ (.slice gT (k + 1 + (no - k)) iJ) = wf at xF cA aAk HZF ⊢; have t8 := aAk.out; have X8 := HZF.out; have N4 := rY.out; have aM6 := aAh.out; obtain ⟨q0, q1⟩ := pair_cells xF.out; have K3 : (bO l d (aJ xs l d o)).length = k + 1 + (no - k) := by have h1 := uT l d (aJ xs l d o); have h2 := qO.out; omega
   have N9 : (dU xs d).length = 4 := by rw [L7.out, List.length_set, yL.out]
   have hOv : Own wf w.heap.size wf.heap.size (some ⟨gv, 0, none⟩) 4 (dU xs d) := by
    refine ⟨N9, fun _ => ⟨gv, _, rfl, by omega, by omega, ((t8 gv (by omega)).trans (N4 gv (by omega))).trans HGB.out, fun i hi' => ?_⟩⟩
    rw [L7.out, jM (by rw [yL.out]; omega), Array.getElem?_setIfInBounds]
    have hcs := (aRB (HCU.out i hi')).1
    by_cases e : d = i
    ·rw [if_pos e, if_pos e, if_pos (by omega)]
    ·rw [if_neg e, if_neg e, HCU.out i hi']
   have hOo : bF wf w.heap.size wf.heap.size gT (k + 1 + (no - k)) (bO l d (aJ xs l d o)) := by
    rw [c9.out, HQd.out]; exact (yK.out.kept (w' := wf) fun j h1 h2 => (t8 j (by omega)).trans (N4 j (by omega))).more (by omega) (by omega)
   exact bodyPost_ret (v := .tuple #[.agg #[.slice (some ⟨gv, 0, none⟩) 4 vc, .slice gT (k + 1 + (no - k)) iJ], .bool true]) (by simp [results, Tryz.results90, go_sem, q0, q1]) rfl ⟨_, vc, gT, iJ, by rw [K3, N9], by rw [N9]; exact hOv, by rw [K3]; exact hOo, cA.out, by rw [N9]; exact T5.out, by rw [K3]; exact HC3.out⟩
  ·have aK : decide ((k : Int) < (no : Int)) = false := decide_eq_false (by omega)
   go_upto_region 11 with fail
   clear aK
   by_cases hck : k = co
   ·obtain rfl : k = co := hck
    obtain rfl : k = no := by omega
    have hw8 : w8.heap.size ≤ w8.heap.size := Nat.le_refl _; have pK : Below w8.heap.size w8 (w8.alloc (.cells #[] 50)) := bl; have s9 : (w8.alloc (.cells #[] 50)).ownsRow w8.heap.size 50 8 (.slice (some ⟨w8.heap.size, 0, none⟩) 0 0) 0 (aH []) := World.ownsRow_made w8 #[] 0 aRC (by unfold maxLen; omega) rfl
    obtain ⟨v1, w9, pO, dI, pX⟩ := rL _ w8.heap.size _ 0 [] s9 B _ k k (l.take k) ((B8.out.below pK (by omega)).take hpn) jA.out.2.2 (by omega) pK.size
    have mM : w9.ownsRow w8.heap.size 50 8 v1 k (aH (l.take k)) := by simpa using dI
    have vP : Below w8.heap.size w8 w9 := pK.grown pX pK.size (fun j hj => (s9.lt j hj).1)
    have hkc : (k : Int) ≤ (k : Int) := by have := jA.out.1; omega
    obtain ⟨qa0, qa1⟩ := pair_cells (HP8.out.next pK).fst; clear dI pX s9; have E1 := aRA (HP8.out.next vP); have HX9 := aRA ((vP.block _ hx8).trans HX8.out); have HO9 := aRA (B8.out.below vP (by omega))
    have sZ := aRA vP; have rK := vP.size; clear vP pK q0 q1; obtain ⟨o0, o1, o2, o3, o4, o5, o6, o7⟩ := aQ (show w9.heap[w.heap.size + 1]? = some (.cells #[.int .i64 (d : Int), .int .i64 (x + 1), .int .i64 (S + 1), .int .i64 o.kind, .string o.item, .int .i64 o.qty, .int .i64 o.level, .int .i64 o.undos] 50 (0, 0)) from E1.out.snd); have gB : Below w9.heap.size w9 (w9.alloc (.cells #[.int .i64 (d : Int), .int .i64 (x + 1), .int .i64 (S + 1), .int .i64 o.kind, .string o.item, .int .i64 o.qty, .int .i64 o.level, .int .i64 o.undos] 50)) := bl; have pZ := aCl w9 ⟨(d : Int), x + 1, S + 1, o.kind, o.item, o.qty, o.level, o.undos⟩; have nK := mM.alloc (.cells #[.int .i64 (d : Int), .int .i64 (x + 1), .int .i64 (S + 1), .int .i64 o.kind, .string o.item, .int .i64 o.qty, .int .i64 o.level, .int .i64 o.undos] 50); obtain ⟨v2, wA, pN, eK, pW⟩ := rL _ w8.heap.size v1 k (l.take k) nK (w9.heap.size + 1) (some ⟨w9.heap.size, 0, none⟩) 1 1 _ pZ (fun h => by cases h) (by omega) (Nat.le_trans rK gB.size)
    have vO : Below w8.heap.size w9 wA := (gB.mono rK).grown pW (Nat.le_trans rK gB.size) (fun j hj => (nK.lt j hj).1)
    clear pW nK pZ gB mM; have HPA := aRA (E1.out.far (vO.mono (by omega)))
    have HXA := aRA ((vO.block _ (by omega)).trans HX9.out)
    have HOA := aRA (HO9.out.below vO (by omega))
    have HBA := aRA (sZ.out.trans vO); have hsA := vO.size; clear vO E1 HX9 HO9 sZ; obtain ⟨q0, q1⟩ := pair_cells HPA.out.fst; obtain ⟨x0, x1⟩ := pair_cells HXA.out; obtain ⟨M5, M4⟩ := aD HXA.out; have t7 := eK; have hnA : w8.heap.size ≤ wA.heap.size := Nat.le_trans rK hsA; obtain ⟨v3, wB, pM, nX, pV⟩ := rL wA w8.heap.size v2 (k + 1) _ eK B ao 0 0 (l.drop k) (aCY (by rw [List.length_drop, qO.out]; omega)) (fun _ => rfl) (by omega) hnA
    obtain ⟨gT, iJ, rfl, hc3⟩ := oJ nX; have A7 : Below w8.heap.size wA wB := (show Below w8.heap.size wA wA from Below.refl _ _).grown pV hnA (fun j hj => (t7.lt j hj).1)
    have HPB := aRA (HPA.out.far (A7.mono (by omega)))
    have HXB := aRA ((A7.block _ hx8).trans HXA.out); have HBB := aRA (HBA.out.trans A7); have hsB := A7.size; obtain ⟨qb0, qb1⟩ := pair_cells HPA.out.fst; obtain ⟨x0, x1⟩ := pair_cells HXB.out; obtain ⟨M5, M4⟩ := aD HXB.out; have HGB : Hid (wB.heap[gv]? = some (.cells (aX.setIfInBounds d (.int .i64 (x + 1))) 2 (0, 0))) := (HBB.out.block _ (by omega)).trans HG8.out
    have aAi : Hid ((wB.setCell ⟨ob, 1, none⟩ (.slice gT (k + 1 + 0) iJ)).heap[ob]? = some (.cells #[.slice (some ⟨gv, 0, none⟩) 4 vc, .slice gT (k + 1 + 0) iJ] 27 (0, 0))) := heap_setCell_same _ _ _ _ _ _ HXB.out; have qF := aRA (HPB.out.far ((iS wB ob 1 (.slice gT (k + 1 + 0) iJ)).mono (by omega)))
    have rY : Hid (∀ j, j ≠ ob → (wB.setCell ⟨ob, 1, none⟩ (.slice gT (k + 1 + 0) iJ)).heap[j]? = wB.heap[j]?) := fun j hj => heap_setCell_other _ _ _ _ hj
    have aAh : Hid ((wB.setCell ⟨ob, 1, none⟩ (.slice gT (k + 1 + 0) iJ)).heap.size = wB.heap.size) := by show (World.setCell _ _ _).heap.size = _; simp [World.setCell]
    have yK := aRA (gS nX aRC); have HC3 := aRA hc3; have gN := aRA pO; have iY := aRA pN; have B5 := aRA pM; clear pO pN pM eK t7 nX pV A7 hc3
    go_upto_region 12 with (at_builtin; refine cX rfl _ _ _ rfl _ _ rfl rfl gN.out ?_)
    go_upto_region 13 with (at_builtin; refine cX rfl _ _ _ rfl _ _ rfl rfl iY.out ?_)
    go_upto_region 14 with (at_builtin; refine cX rfl _ _ _ rfl _ _ rfl rfl B5.out ?_)
    generalize wB.setCell ⟨ob, 1, none⟩ (.slice gT (k + 1 + 0) iJ) = lC at aAi qF rY aAh ⊢; clear q0 q1 qa0 qa1 qb0 qb1 o0 o1 o2 o3 o4 o5 o6 o7 x0 x1 M5 M4 gN iY B5; obtain ⟨x0, x1⟩ := pair_cells aAi.out; obtain ⟨r0, r1⟩ := pair_cells qF.out.res; obtain ⟨g0, g1⟩ := aD qF.out.res; have xF := aRA (qF.out.set2 (.slice (some ⟨gv, 0, none⟩) 4 vc) (.slice gT (k + 1 + 0) iJ)).1; have cA := aRA (qF.out.bel.trans ((qF.out.set2 (.slice (some ⟨gv, 0, none⟩) 4 vc) (.slice gT (k + 1 + 0) iJ)).2.mono (by omega)))
    have aAk : Hid (∀ j, j ≠ w.heap.size + 1 + 1 → ((lC.setCell ⟨w.heap.size + 1 + 1, 0, none⟩ (.slice (some ⟨gv, 0, none⟩) 4 vc)).setCell ⟨w.heap.size + 1 + 1, 1, none⟩ (.slice gT (k + 1 + 0) iJ)).heap[j]? = lC.heap[j]?) := fun j hj => aF _ _ hj
    have HZF : Hid (((lC.setCell ⟨w.heap.size + 1 + 1, 0, none⟩ (.slice (some ⟨gv, 0, none⟩) 4 vc)).setCell ⟨w.heap.size + 1 + 1, 1, none⟩ (.slice gT (k + 1 + 0) iJ)).heap.size = lC.heap.size) := bA _ _ _ _; go_wp2
    change bodyPost _ _ _ _ _ ((lC.setCell ⟨w.heap.size + 1 + 1, 0, none⟩ (.slice (some ⟨gv, 0, none⟩) 4 vc)).setCell ⟨w.heap.size + 1 + 1, 1, none⟩ (.slice gT (k + 1 + 0) iJ))
    generalize (lC.setCell ⟨w.heap.size + 1 + 1, 0, none⟩ (.slice (some ⟨gv, 0, none⟩) 4 vc)).setCell ⟨w.heap.size + 1 + 1, 1, none⟩ (.slice gT (k + 1 + 0) iJ) = wf at xF cA aAk HZF ⊢; have t8 := aAk.out; have X8 := HZF.out; have N4 := rY.out; have aM6 := aAh.out; obtain ⟨q0, q1⟩ := pair_cells xF.out; have K3 : (bO l d (aJ xs l d o)).length = k + 1 + 0 := by have h1 := uT l d (aJ xs l d o); have h2 := qO.out; omega
    have N9 : (dU xs d).length = 4 := by rw [L7.out, List.length_set, yL.out]
    have hOv : Own wf w.heap.size wf.heap.size (some ⟨gv, 0, none⟩) 4 (dU xs d) := by
     refine ⟨N9, fun _ => ⟨gv, _, rfl, by omega, by omega, ((t8 gv (by omega)).trans (N4 gv (by omega))).trans HGB.out, fun i hi' => ?_⟩⟩
     rw [L7.out, jM (by rw [yL.out]; omega), Array.getElem?_setIfInBounds]
     have hcs := (aRB (HCU.out i hi')).1
     by_cases e : d = i
     ·rw [if_pos e, if_pos e, if_pos (by omega)]
     ·rw [if_neg e, if_neg e, HCU.out i hi']
    have hOo : bF wf w.heap.size wf.heap.size gT (k + 1 + 0) (bO l d (aJ xs l d o)) := by
     rw [c9.out, HQd.out]; exact (yK.out.kept (w' := wf) fun j h1 h2 => (t8 j (by omega)).trans (N4 j (by omega))).more (by omega) (by omega)
    exact bodyPost_ret (v := .tuple #[.agg #[.slice (some ⟨gv, 0, none⟩) 4 vc, .slice gT (k + 1 + 0) iJ], .bool true]) (by simp [results, Tryz.results90, go_sem, q0, q1]) rfl ⟨_, vc, gT, iJ, by rw [K3, N9], by rw [N9]; exact hOv, by rw [K3]; exact hOo, cA.out, by rw [N9]; exact T5.out, by rw [K3]; exact HC3.out⟩
   ·have pY : ¬ (co : Int) = (k : Int) := by omega
    have hw8 : w8.heap.size ≤ w8.heap.size := Nat.le_refl _; have pK : Below w8.heap.size w8 (w8.alloc (.cells #[] 50)) := bl; have s9 : (w8.alloc (.cells #[] 50)).ownsRow w8.heap.size 50 8 (.slice (some ⟨w8.heap.size, 0, none⟩) 0 0) 0 (aH []) := World.ownsRow_made w8 #[] 0 aRC (by unfold maxLen; omega) rfl
    obtain ⟨v1, w9, pO, dI, pX⟩ := rL _ w8.heap.size _ 0 [] s9 B _ k co (l.take k) ((B8.out.below pK (by omega)).take hpn) jA.out.2.2 (by omega) pK.size
    have mM : w9.ownsRow w8.heap.size 50 8 v1 k (aH (l.take k)) := by simpa using dI
    have vP : Below w8.heap.size w8 w9 := pK.grown pX pK.size (fun j hj => (s9.lt j hj).1)
    have hkc : (k : Int) ≤ (co : Int) := by have := jA.out.1; omega
    obtain ⟨qa0, qa1⟩ := pair_cells (HP8.out.next pK).fst; clear dI pX s9; have E1 := aRA (HP8.out.next vP); have HX9 := aRA ((vP.block _ hx8).trans HX8.out); have HO9 := aRA (B8.out.below vP (by omega))
    have sZ := aRA vP; have rK := vP.size; clear vP pK q0 q1; obtain ⟨o0, o1, o2, o3, o4, o5, o6, o7⟩ := aQ (show w9.heap[w.heap.size + 1]? = some (.cells #[.int .i64 (d : Int), .int .i64 (x + 1), .int .i64 (S + 1), .int .i64 o.kind, .string o.item, .int .i64 o.qty, .int .i64 o.level, .int .i64 o.undos] 50 (0, 0)) from E1.out.snd); have gB : Below w9.heap.size w9 (w9.alloc (.cells #[.int .i64 (d : Int), .int .i64 (x + 1), .int .i64 (S + 1), .int .i64 o.kind, .string o.item, .int .i64 o.qty, .int .i64 o.level, .int .i64 o.undos] 50)) := bl; have pZ := aCl w9 ⟨(d : Int), x + 1, S + 1, o.kind, o.item, o.qty, o.level, o.undos⟩; have nK := mM.alloc (.cells #[.int .i64 (d : Int), .int .i64 (x + 1), .int .i64 (S + 1), .int .i64 o.kind, .string o.item, .int .i64 o.qty, .int .i64 o.level, .int .i64 o.undos] 50); obtain ⟨v2, wA, pN, eK, pW⟩ := rL _ w8.heap.size v1 k (l.take k) nK (w9.heap.size + 1) (some ⟨w9.heap.size, 0, none⟩) 1 1 _ pZ (fun h => by cases h) (by omega) (Nat.le_trans rK gB.size)
    have vO : Below w8.heap.size w9 wA := (gB.mono rK).grown pW (Nat.le_trans rK gB.size) (fun j hj => (nK.lt j hj).1)
    clear pW nK pZ gB mM; have HPA := aRA (E1.out.far (vO.mono (by omega)))
    have HXA := aRA ((vO.block _ (by omega)).trans HX9.out)
    have HOA := aRA (HO9.out.below vO (by omega))
    have HBA := aRA (sZ.out.trans vO); have hsA := vO.size; clear vO E1 HX9 HO9 sZ; obtain ⟨q0, q1⟩ := pair_cells HPA.out.fst; obtain ⟨x0, x1⟩ := pair_cells HXA.out; obtain ⟨M5, M4⟩ := aD HXA.out; have t7 := eK; have hnA : w8.heap.size ≤ wA.heap.size := Nat.le_trans rK hsA; obtain ⟨v3, wB, pM, nX, pV⟩ := rL wA w8.heap.size v2 (k + 1) _ eK B (Option.map (fun x : Addr => x.add (k * 8)) (ao)) (no - k) (co - k) (l.drop k) (HOA.out.dropMap hpn) (fun h => by have := jA.out.2.2 (by rcases ao with _ | _; rfl; cases h); omega) (by omega) hnA
    obtain ⟨gT, iJ, rfl, hc3⟩ := oJ nX; have A7 : Below w8.heap.size wA wB := (show Below w8.heap.size wA wA from Below.refl _ _).grown pV hnA (fun j hj => (t7.lt j hj).1)
    have HPB := aRA (HPA.out.far (A7.mono (by omega)))
    have HXB := aRA ((A7.block _ hx8).trans HXA.out); have HBB := aRA (HBA.out.trans A7); have hsB := A7.size; obtain ⟨qb0, qb1⟩ := pair_cells HPA.out.fst; obtain ⟨x0, x1⟩ := pair_cells HXB.out; obtain ⟨M5, M4⟩ := aD HXB.out; have HGB : Hid (wB.heap[gv]? = some (.cells (aX.setIfInBounds d (.int .i64 (x + 1))) 2 (0, 0))) := (HBB.out.block _ (by omega)).trans HG8.out
    have aAi : Hid ((wB.setCell ⟨ob, 1, none⟩ (.slice gT (k + 1 + (no - k)) iJ)).heap[ob]? = some (.cells #[.slice (some ⟨gv, 0, none⟩) 4 vc, .slice gT (k + 1 + (no - k)) iJ] 27 (0, 0))) := heap_setCell_same _ _ _ _ _ _ HXB.out; have qF := aRA (HPB.out.far ((iS wB ob 1 (.slice gT (k + 1 + (no - k)) iJ)).mono (by omega)))
    have rY : Hid (∀ j, j ≠ ob → (wB.setCell ⟨ob, 1, none⟩ (.slice gT (k + 1 + (no - k)) iJ)).heap[j]? = wB.heap[j]?) := fun j hj => heap_setCell_other _ _ _ _ hj
    have aAh : Hid ((wB.setCell ⟨ob, 1, none⟩ (.slice gT (k + 1 + (no - k)) iJ)).heap.size = wB.heap.size) := by show (World.setCell _ _ _).heap.size = _; simp [World.setCell]
    have yK := aRA (gS nX aRC); have HC3 := aRA hc3; have gN := aRA pO; have iY := aRA pN; have B5 := aRA pM; clear pO pN pM eK t7 nX pV A7 hc3
    go_upto_region 12 with (at_builtin; refine cX rfl _ _ _ rfl _ _ rfl rfl gN.out ?_)
    go_upto_region 13 with (at_builtin; refine cX rfl _ _ _ rfl _ _ rfl rfl iY.out ?_)
    go_upto_region 14 with (at_builtin; refine cX rfl _ _ _ rfl _ _ rfl rfl B5.out ?_)
    generalize wB.setCell ⟨ob, 1, none⟩ (.slice gT (k + 1 + (no - k)) iJ) = lC at aAi qF rY aAh ⊢; clear q0 q1 qa0 qa1 qb0 qb1 o0 o1 o2 o3 o4 o5 o6 o7 x0 x1 M5 M4 gN iY B5; obtain ⟨x0, x1⟩ := pair_cells aAi.out; obtain ⟨r0, r1⟩ := pair_cells qF.out.res; obtain ⟨g0, g1⟩ := aD qF.out.res; have xF := aRA (qF.out.set2 (.slice (some ⟨gv, 0, none⟩) 4 vc) (.slice gT (k + 1 + (no - k)) iJ)).1; have cA := aRA (qF.out.bel.trans ((qF.out.set2 (.slice (some ⟨gv, 0, none⟩) 4 vc) (.slice gT (k + 1 + (no - k)) iJ)).2.mono (by omega)))
    have aAk : Hid (∀ j, j ≠ w.heap.size + 1 + 1 → ((lC.setCell ⟨w.heap.size + 1 + 1, 0, none⟩ (.slice (some ⟨gv, 0, none⟩) 4 vc)).setCell ⟨w.heap.size + 1 + 1, 1, none⟩ (.slice gT (k + 1 + (no - k)) iJ)).heap[j]? = lC.heap[j]?) := fun j hj => aF _ _ hj
    have HZF : Hid (((lC.setCell ⟨w.heap.size + 1 + 1, 0, none⟩ (.slice (some ⟨gv, 0, none⟩) 4 vc)).setCell ⟨w.heap.size + 1 + 1, 1, none⟩ (.slice gT (k + 1 + (no - k)) iJ)).heap.size = lC.heap.size) := bA _ _ _ _; go_wp2
    change bodyPost _ _ _ _ _ ((lC.setCell ⟨w.heap.size + 1 + 1, 0, none⟩ (.slice (some ⟨gv, 0, none⟩) 4 vc)).setCell ⟨w.heap.size + 1 + 1, 1, none⟩ (.slice gT (k + 1 + (no - k)) iJ))
    generalize (lC.setCell ⟨w.heap.size + 1 + 1, 0, none⟩ (.slice (some ⟨gv, 0, none⟩) 4 vc)).setCell ⟨w.heap.size + 1 + 1, 1, none⟩ (.slice gT (k + 1 + (no - k)) iJ) = wf at xF cA aAk HZF ⊢; have t8 := aAk.out; have X8 := HZF.out; have N4 := rY.out; have aM6 := aAh.out; obtain ⟨q0, q1⟩ := pair_cells xF.out; have K3 : (bO l d (aJ xs l d o)).length = k + 1 + (no - k) := by have h1 := uT l d (aJ xs l d o); have h2 := qO.out; omega
    have N9 : (dU xs d).length = 4 := by rw [L7.out, List.length_set, yL.out]
    have hOv : Own wf w.heap.size wf.heap.size (some ⟨gv, 0, none⟩) 4 (dU xs d) := by
     refine ⟨N9, fun _ => ⟨gv, _, rfl, by omega, by omega, ((t8 gv (by omega)).trans (N4 gv (by omega))).trans HGB.out, fun i hi' => ?_⟩⟩
     rw [L7.out, jM (by rw [yL.out]; omega), Array.getElem?_setIfInBounds]
     have hcs := (aRB (HCU.out i hi')).1
     by_cases e : d = i
     ·rw [if_pos e, if_pos e, if_pos (by omega)]
     ·rw [if_neg e, if_neg e, HCU.out i hi']
    have hOo : bF wf w.heap.size wf.heap.size gT (k + 1 + (no - k)) (bO l d (aJ xs l d o)) := by
     rw [c9.out, HQd.out]; exact (yK.out.kept (w' := wf) fun j h1 h2 => (t8 j (by omega)).trans (N4 j (by omega))).more (by omega) (by omega)
    exact bodyPost_ret (v := .tuple #[.agg #[.slice (some ⟨gv, 0, none⟩) 4 vc, .slice gT (k + 1 + (no - k)) iJ], .bool true]) (by simp [results, Tryz.results90, go_sem, q0, q1]) rfl ⟨_, vc, gT, iJ, by rw [K3, N9], by rw [N9]; exact hOv, by rw [K3]; exact hOo, cA.out, by rw [N9]; exact T5.out, by rw [K3]; exact HC3.out⟩

def kY (o : aT) : List Value := [.string o.item, .int .i64 o.qty, .bool o.saved]
def fL : List aT → List Value
 | [] => []
 | x :: l => kY x ++ fL l
theorem uA : ∀ l : List aT, (fL l).length = l.length * 3
 | [] => rfl
 | x :: l => by
  show (kY x ++ fL l).length = _
  rw [List.length_append, uA l, List.length_cons]
  show 3 + _ = _
  omega
theorem m7 (x : aT) : ∀ l : List aT, fL (l ++ [x]) = fL l ++ kY x
 | [] => by show kY x ++ [] = [] ++ kY x; rw [List.append_nil, List.nil_append]
 | y :: l => by
  show kY y ++ fL (l ++ [x]) = (kY y ++ fL l) ++ kY x
  rw [m7 x l, List.append_assoc]
theorem U2 : ∀ (l : List aT) (i u : Nat), i < l.length → u < 3 → (fL l)[i * 3 + u]? = (kY (l.getD i aT.zero))[u]?
 | x :: l, 0, u, _, hu => by
  show (kY x ++ fL l)[0 * 3 + u]? = (kY x)[u]?
  rw [Nat.zero_mul, Nat.zero_add, List.getElem?_append_left (by show u < 3; exact hu)]
 | x :: l, i + 1, u, hi, hu => by
  show (kY x ++ fL l)[(i + 1) * 3 + u]? = (kY (l.getD i aT.zero))[u]?
  rw [List.getElem?_append_right (by show 3 ≤ _; omega)]
  have e : (i + 1) * 3 + u - (kY x).length = i * 3 + u := by show _ - 3 = _; omega
  rw [e]; exact U2 l i u (by simpa using hi) hu
theorem rT {w : World} {base hi : Nat} {v : Value} {n : Nat} {l : List aT} (h : w.ownsRow base 39 3 v n (fL l)) (hh : w.heap.size ≤ hi) : ∃ a c, v = .slice a n c ∧ mJ w base hi a n l := by
 have hl : l.length = n := by have := h.1; rw [uA] at this; omega
 rcases h.2 with ⟨e, e2⟩ | ⟨g, c, aX, e, hb, hg, hnc, _, hs, ht⟩
 ·have hn0 : n = 0 := by simpa using e2
  subst hn0; exact ⟨none, 0, e, hl, fun h => absurd h (by omega)⟩
 ·have key : ∀ i u, i < n → u < 3 → aX[0 + i * 3 + u]? = (kY (l.getD i aT.zero))[u]? := fun i u hi' hu => by
   have h2 : (aX.toList.take (n * 3))[i * 3 + u]? = (fL l)[i * 3 + u]? := by rw [ht]
   rw [List.getElem?_take_of_lt (by omega), U2 l i u (by omega) hu] at h2
   rw [Nat.zero_add, ← Array.getElem?_toList, h2]
  refine ⟨_, c, e, hl, fun hn => ⟨g, 0, aX, rfl, hb, Nat.lt_of_lt_of_le (aRB hg).1 hh, hg, by rw [hs]; omega, fun i hi' => ?_⟩⟩
  exact ⟨key i 0 hi' (by omega), key i 1 hi' (by omega), key i 2 hi' (by omega)⟩
theorem Tryz.zeroLn : (Tryz.prog.info? 39).map (fun i => (i.zero, i.size, i.bytes)) = some (some (.agg #[.string ⟨#[]⟩, .int .i64 0, .bool false]), 3, 32) := by kernel_rfl
/-- append of one element that a literal has made. -/
theorem aKY (w : World) (base : Nat) (v : Value) (n : Nat) (l : List aT) (aY : w.ownsRow base 39 3 v n (fL l)) (o : aT) (hn : n + 1 ≤ 4194304) (F4 : base ≤ w.heap.size) :
  ∃ v' w', (Builtin.append_ #[42, 42] 42 #[v, .slice (some ⟨w.heap.size, 0, none⟩) 1 1]).run Tryz.prog (w.alloc (.cells #[.string o.item, .int .i64 o.qty, .bool o.saved] 39)) = .ok v' w' ∧ w'.ownsRow base 39 3 v' (n + 1) (fL (l ++ [o])) ∧ Below base w w' ∧ (w.alloc (.cells #[.string o.item, .int .i64 o.qty, .bool o.saved] 39)).grownBy w' v.ownBlock := by
 obtain ⟨i0, hi, iF, kO, jU⟩ := info_parts Tryz.zeroLn
 have aW : Below base w (w.alloc (.cells #[.string o.item, .int .i64 o.qty, .bool o.saved] 39)) := (Below.refl _ _).alloc F4 _
 have hA := aY.alloc (.cells #[.string o.item, .int .i64 o.qty, .bool o.saved] 39)
 have wX : ∀ j u, (kY o)[j]? = some u → (w.alloc (.cells #[.string o.item, .int .i64 o.qty, .bool o.saved] 39)).cell? ((⟨w.heap.size, 0, none⟩ : Addr).add j) = some u := by
  intro j u hu
  have hj : j < 3 := by
   rcases Nat.lt_or_ge j 3 with g | g
   ·exact g
   ·rw [List.getElem?_eq_none (by show 3 ≤ j; exact g)] at hu; cases hu
  rw [uI, aRD (heap_alloc_new w _), Nat.zero_add]; rw [← hu]
  match j, hj with
  | 0, _ => rfl
  | 1, _ => rfl
  | 2, _ => rfl
 obtain ⟨v', w', h1, h2, h3, _⟩ := run_append_own (P := Tryz.prog) _ base 42 42 39 i0 (.agg #[.string ⟨#[]⟩, .int .i64 0, .bool false]) 3 32 Tryz.underlying42 hi iF kO jU rfl (by decide) v n _ hA ⟨w.heap.size, 0, none⟩ 1 1 (kY o) rfl wX (by intro u hu; simp only [kY, List.mem_cons, List.not_mem_nil, or_false] at hu; rcases hu with rfl | rfl | rfl <;> rfl) (by unfold maxLen; omega) (by omega) (Nat.le_trans F4 aW.size)
 exact ⟨v', w', h1, by rw [m7]; exact h2, aW.grown h3 (Nat.le_trans F4 aW.size) (fun j hj => (hA.lt j hj).1), h3⟩
theorem aGh (w : World) (base : Nat) : w.ownsRow base 39 3 (.slice none 0 0) 0 (fL []) := ⟨rfl, .inl ⟨rfl, rfl⟩⟩
end Go.Proofs.YthkagbnpcjidfaaGreatDoor
