/- Walks and mathematics that several claims share, part 28. -/
import Derived.Test.YtjokbaaommicmaaGreatDoorGb27
import Derived.Test.YtjokbaaommicmaaGreatDoorGb1
import Derived.Test.YtjokbaaommicmaaGreatDoorGb23
import Derived.Test.YtjokbaaommicmaaGreatDoorGb10
import Derived.Test.YtjokbaaommicmaaGreatDoorGb24
import Derived.Laws.OwnMore
import Derived.OwnWalk
import Derived.Deep.Cut
import Derived.Lib.MinMax
import Derived.Laws.AppendOwn
import Derived.Test.YtjokbaaommicmaaGreatDoorGbA
namespace Go.Proofs.YtjokbaaommicmaaGreatDoor
set_option maxRecDepth 100000
open Go.RowKit
set_option linter.unusedVariables false

theorem ints_cells {w : World} {B b off n : Nat} {xs : List Int} (h : Ints w B (some ⟨b, off, none⟩) n xs) : ∀ j u, (xs.map (Value.int .i64))[j]? = some u → w.cell? ((⟨b, off, none⟩ : Addr).add j) = some u := fun j u hu => by
 have hj : j < xs.length := by
  rcases Nat.lt_or_ge j xs.length with g | g
  ·exact g
  ·rw [List.getElem?_eq_none (by simpa using g)] at hu; cases hu
 obtain ⟨b', off', e, _, hc⟩ := h.2 j (by rw [← h.1]; exact hj)
 injection e with e
 injection e with e1 e2
 subst e1 e2
 rw [add_at, hc]
 rw [List.getElem?_map, List.getElem?_eq_getElem hj] at hu
 rw [← hu, List.getD_eq_getElem?_getD, List.getElem?_eq_getElem hj]
 rfl
theorem appInts (w : World) (base : Nat) (v : Value) (n : Nat) (xs : List Int) (hown : w.ownsRow base 2 1 v n (xs.map (Value.int .i64))) (B : Nat) (a : Option Addr) (m c : Nat) (ys : List Int) (h : Ints w B a m ys) (hc : a = none → c = 0) (hn : n + m ≤ 4194304) (hbase : base ≤ w.heap.size) :
  ∃ v' w', (Builtin.append_ #[22, 22] 22 #[v, .slice a m c]).run Tryz.prog w = .ok v' w' ∧ w'.ownsRow base 2 1 v' (n + m) ((xs ++ ys).map (Value.int .i64)) ∧ w.grownBy w' v.ownBlock := by
 obtain ⟨i0, hi, hz0, hz1, hz2⟩ := info_parts Tryz.infoI64
 have hl : ys.length = m := h.1
 rcases a with _ | x
 ·have hm : m = 0 := by
   rcases Nat.eq_zero_or_pos m with g | g
   ·exact g
   ·obtain ⟨_, _, e, _⟩ := h.2 0 g; cases e
  subst hm
  have : ys = [] := List.eq_nil_of_length_eq_zero hl
  subst this
  rw [hc rfl]
  exact ⟨v, w, run_append_owned_none (P := Tryz.prog) w base 22 22 2 i0 1 Tryz.underlying22 hi v n _ hown, by simpa using hown, World.grownBy.refl _ _⟩
 ·have hcells : ∀ j u, (ys.map (Value.int .i64))[j]? = some u → w.cell? (x.add j) = some u := by
   rcases Nat.eq_zero_or_pos m with g | g
   ·subst g
    have : ys = [] := List.eq_nil_of_length_eq_zero hl
    subst this
    intro j u hu
    simp at hu
   ·obtain ⟨b, off, e, _⟩ := h.2 0 g
    injection e with e
    subst e
    exact ints_cells h
  obtain ⟨v', w', h1, h2, h3, _⟩ := run_append_own (P := Tryz.prog) w base 22 22 2 i0 (.int .i64 0) 1 8 Tryz.underlying22 hi hz0 hz1 hz2 rfl (by decide) v n _ hown x m c (ys.map (Value.int .i64)) (by rw [List.length_map, hl]; omega) hcells (by intro u hu; rw [List.mem_map] at hu; obtain ⟨z, _, rfl⟩ := hu; rfl) (by unfold maxLen; omega) (by omega) hbase
  exact ⟨v', w', h1, by rw [List.map_append]; exact h2, h3⟩
theorem appOps (w : World) (base : Nat) (v : Value) (n : Nat) (l : List OpV) (hown : w.ownsRow base 93 8 v n (opCells l)) (B : Nat) (a : Option Addr) (m c : Nat) (k : List OpV) (h : Ops w B a m k) (hc : a = none → c = 0) (hn : n + m ≤ 4194304) (hbase : base ≤ w.heap.size) :
  ∃ v' w', (Builtin.append_ #[30, 30] 30 #[v, .slice a m c]).run Tryz.prog w = .ok v' w' ∧ w'.ownsRow base 93 8 v' (n + m) (opCells (l ++ k)) ∧ w.grownBy w' v.ownBlock := by
 obtain ⟨i0, hi, hz0, hz1, hz2⟩ := info_parts Tryz.infoOp
 have hl : k.length = m := h.1
 have happ : opCells (l ++ k) = opCells l ++ opCells k := by
  clear h hl hown hn
  induction l with
  | nil => rfl
  | cons x l ih => show opRow x ++ opCells (l ++ k) = (opRow x ++ opCells l) ++ opCells k; rw [ih, List.append_assoc]
 rcases a with _ | x
 ·have hm : m = 0 := by
   rcases Nat.eq_zero_or_pos m with g | g
   ·exact g
   ·obtain ⟨_, _, e, _⟩ := h.2 0 g; cases e
  subst hm
  have : k = [] := List.eq_nil_of_length_eq_zero hl
  subst this
  rw [hc rfl]
  exact ⟨v, w, run_append_owned_none (P := Tryz.prog) w base 30 30 93 i0 8 Tryz.underlying30 hi v n _ hown, by rw [List.append_nil]; exact hown, World.grownBy.refl _ _⟩
 ·have hcells : ∀ j u, (opCells k)[j]? = some u → w.cell? (x.add j) = some u := by
   rcases Nat.eq_zero_or_pos m with g | g
   ·subst g
    have : k = [] := List.eq_nil_of_length_eq_zero hl
    subst this
    intro j u hu
    simp [opCells] at hu
   ·obtain ⟨b, off, e, _⟩ := h.2 0 g
    injection e with e
    subst e
    exact cells_of_ops h
  obtain ⟨v', w', h1, h2, h3, _⟩ := run_append_own (P := Tryz.prog) w base 30 30 93 i0 _ 8 72 Tryz.underlying30 hi hz0 hz1 hz2 rfl (by decide) v n _ hown x m c (opCells k) (by rw [opCells_len, hl]) hcells (fun u hu => opCells_one k u hu) (by unfold maxLen; omega) (by omega) hbase
  exact ⟨v', w', h1, by rw [happ]; exact h2, h3⟩
theorem opwpApp {P : Program} {o : Oper} {a : Act} {w : World} {K : Act → World → Prop} {Q : Exit → Act → World → Prop} (x y : Operand) (ts : Array TypeId) (hop : o.op = Op.call { callee := Callee.builtin Builtin.append, args := #[x, y], argTypes := ts }) (v1 v2 : Value) {v' : Value} {w' : World} (h1 : a.eval x = v1) (h2 : a.eval y = v2)
  (hrun : (Builtin.append_ ts o.type #[v1, v2]).run P w = .ok v' w') (hK : K (a.put o.dst v') w') : Oper.wp P o a w K Q := by
 unfold Oper.wp
 simp [execOp, hop, resolve, invoke, builtin, h1, h2, hrun, Result.andThen]
 exact hK
theorem wpListApp {P : Program} {w : World} {ops : Array Oper} {rest : List Oper} {o : Oper} {a : Act} {Q : Exit → Act → World → Prop} (hgd : o.guard = none) (x y : Operand) (ts : Array TypeId) (hop : o.op = Op.call { callee := Callee.builtin Builtin.append, args := #[x, y], argTypes := ts }) (v1 v2 : Value) {v' : Value} {w' : World} (h1 : a.eval x = v1) (h2 : a.eval y = v2)
  (hrun : (Builtin.append_ ts o.type #[v1, v2]).run P w = .ok v' w') (h : wpList P ops Q rest (a.put o.dst v') w') : wpList P ops Q (o :: rest) a w :=
 wpList_plain hgd fun _ hK => opwpApp x y ts hop v1 v2 h1 h2 hrun (hK _ _ h)
/-- A slice that owns a row, its parts. -/
theorem row_formA {w : World} {base size n : Nat} {e : TypeId} {v : Value} {xs : List Value} (h : w.ownsRow base e size v n xs) : ∃ a c, v = .slice a n c ∧ Caps a n c := by
 rcases h.2 with ⟨e1, e2⟩ | ⟨g, cap, cur, e1, _⟩
 ·subst e1
  have e3 := h
  have hn : n = 0 := e2
  subst hn
  exact ⟨none, 0, rfl, caps_nil⟩
 ·subst e1
  exact ⟨_, _, rfl, caps_of_row h⟩
set_option linter.unusedVariables false

theorem row_ne {w : World} {b1 b2 s1 s2 n1 n2 : Nat} {e1 e2 : TypeId} {v1 v2 : Value} {x1 x2 : List Value} (h1 : w.ownsRow b1 e1 s1 v1 n1 x1) (h2 : w.ownsRow b2 e2 s2 v2 n2 x2) (he : e1 ≠ e2) : v1.ownBlock = none ∨ v1.ownBlock ≠ v2.ownBlock := by
 rcases h1.2 with ⟨rfl, _⟩ | ⟨g1, c1, cur1, rfl, _, hg1, _⟩
 ·exact .inl rfl
 ·right
  rcases h2.2 with ⟨rfl, _⟩ | ⟨g2, c2, cur2, rfl, _, hg2, _⟩
  ·intro h; cases h
  ·intro h
   have : g1 = g2 := by simpa [Value.ownBlock] using h
   subst this
   rw [hg1] at hg2
   injection hg2 with hg2
   injection hg2 with _ ht
   exact he ht
/-- What a call answers that hands back a cart of its own. -/
def CopyPost (xs : List Int) (l : List OpV) (w : World) (e : Ending) (w' : World) : Prop := ∃ va vc oa oc, e = .returned (.agg #[.slice va xs.length vc, .slice oa l.length oc]) ∧ Own w' w.heap.size w'.heap.size va xs.length xs ∧ OwnOps w' w.heap.size w'.heap.size oa l.length l ∧ Below w.heap.size w w' ∧ Caps va xs.length vc ∧ Caps oa l.length oc
set_option linter.unusedSimpArgs false in
set_option maxHeartbeats 20000000 in
theorem l4Copy (w : World) (B : Nat) (av ao : Option Addr) (nv cv no co : Nat) (xs : List Int) (l : List OpV) (hx : Ints w B av nv xs) (h : Ops w B ao no l) (hB : B ≤ w.heap.size) (hcv : av = none → cv = 0) (hco : ao = none → co = 0) (hv : nv ≤ 1048576) (hn : no ≤ 1048576) :
  Calls Tryz.prog 37 #[.agg #[.slice av nv cv, .slice ao no co]] w (CopyPost xs l w) := by
 have hb0 : Below w.heap.size w ((w.alloc (.cells #[.slice av nv cv, .slice ao no co] 32)).alloc (.cells #[.slice none 0 0, .slice none 0 0] 32)) := ((Below.refl _ w).alloc (Nat.le_refl _) _).alloc (by simp) _
 have HV := Lib.hid (hx.below hb0 hB)
 have HO := Lib.hid (h.below hb0 hB)
 have HLx := Lib.hid hx.1
 have HLo := Lib.hid h.1
 have HX : Hid (((w.alloc (.cells #[.slice av nv cv, .slice ao no co] 32)).alloc (.cells #[.slice none 0 0, .slice none 0 0] 32)).heap[w.heap.size]? = some (.cells #[.slice av nv cv, .slice ao no co] 32 (0, 0))) := heap_alloc2_old _ _ _
 have HR : Hid (((w.alloc (.cells #[.slice av nv cv, .slice ao no co] 32)).alloc (.cells #[.slice none 0 0, .slice none 0 0] 32)).heap[w.heap.size + 1]? = some (.cells #[.slice none 0 0, .slice none 0 0] 32 (0, 0))) := heap_alloc2_new _ _ _
 have hsz : w.heap.size + 1 < ((w.alloc (.cells #[.slice av nv cv, .slice ao no co] 32)).alloc (.cells #[.slice none 0 0, .slice none 0 0] 32)).heap.size := by simp
 have HB := Lib.hid hb0
 have HCV := Lib.hid hcv
 have HCO := Lib.hid hco
 clear hx h hb0 hcv hco
 go_enter Tryz.func37, Tryz.ntmps37
 go_wp2_with fail
 generalize (w.alloc (.cells #[.slice av nv cv, .slice ao no co] 32)).alloc (.cells #[.slice none 0 0, .slice none 0 0] 32) = w0 at HV HO HX HR hsz HB ⊢
 obtain ⟨c0, c1⟩ := pair_cells HX.out
 have hbz : Below w0.heap.size w0 w0.drew := ⟨rfl, rfl, rfl, Nat.le_refl _, fun _ _ => rfl⟩
 obtain ⟨z0, hz0⟩ : ∃ z0, z0 = w0.drew := ⟨_, rfl⟩
 rw [← hz0] at hbz
 have hS0 : z0.cell? ⟨w.heap.size, 0, none⟩ = some (.slice av nv cv) ∧ z0.cell? ⟨w.heap.size, 1, none⟩ = some (.slice ao no co) := ⟨(hbz.cell (p := ⟨w.heap.size, 0, none⟩) (by show w.heap.size < _; omega)).trans c0, (hbz.cell (p := ⟨w.heap.size, 1, none⟩) (by show w.heap.size < _; omega)).trans c1⟩
 go_wp2_with fail
 refine wp_region_held_drew (S := fun w' => w'.cell? ⟨w.heap.size, 0, none⟩ = some (.slice av nv cv) ∧ w'.cell? ⟨w.heap.size, 1, none⟩ = some (.slice ao no co)) (by kernel_rfl) (by rw [← hz0]; exact hS0) (fun hHeld => ?_)
 rw [← hz0]
 clear hz0 hHeld
 refine tk 1 ⟨some 4, .fieldAddr 32 (.tmp 1) 0, 0, "l04_carts.go:36", #[], none⟩ ?_
 (try simp only [Act.put, u1, u2, u3])
 refine tk 2 ⟨some 5, .load 22 (.tmp 4), 22, "l04_carts.go:36", #[⟨1, .data⟩], none⟩ ?_
 (try simp only [Act.put, u1, u2, u3])
 refine tk 5 ⟨some 8, .fieldAddr 32 (.tmp 1) 1, 0, "l04_carts.go:36", #[], none⟩ ?_
 (try simp only [Act.put, u1, u2, u3])
 refine tk 6 ⟨some 9, .load 30 (.tmp 8), 30, "l04_carts.go:36", #[⟨5, .data⟩], none⟩ ?_
 (try simp only [Act.put, u1, u2, u3])
 refine wpAnyH_ready (rs := [0, 4]) (by kernel_rfl) (by simp) ?_
 refine AllReadyH.cons rfl (fun K hK => ?_) ?_
 ·skip
  have hb1 : Below w0.heap.size w0 (z0.alloc (.cells #[] 2)) := hbz.alloc hbz.size _
  have hV1 : (z0.alloc (.cells #[] 2)).ownsRow w0.heap.size 2 1 (.slice (some ⟨z0.heap.size, 0, none⟩) 0 0) 0 (([] : List Int).map (Value.int .i64)) := World.ownsRow_made z0 #[] 0 hbz.size (by unfold maxLen; omega) rfl
  go_simp
  refine hK.out _ _ ⟨(hb1.cell (p := ⟨w.heap.size, 0, none⟩) (by show w.heap.size < _; omega)).trans c0, (hb1.cell (p := ⟨w.heap.size, 1, none⟩) (by show w.heap.size < _; omega)).trans c1⟩ (fun hHeld1 => ?_)
  clear hK K
  (try simp only [Act.put, u1, u2, u3])
  generalize z0.alloc (.cells #[] 2) = z1 at hHeld1 hb1 hV1 ⊢
  refine wpAnyH_ready (rs := [3, 4]) (by kernel_rfl) (by simp) ?_
  refine AllReadyH.cons rfl (fun K hK => ?_) ?_
  ·skip
   obtain ⟨vA2, z2, hrun, hW, hgr⟩ := appInts z1 w0.heap.size _ 0 [] hV1 B av nv cv xs (HV.out.below hb1 (by omega)) HCV.out (by omega) hb1.size
   have hV2 : z2.ownsRow w0.heap.size 2 1 vA2 nv (xs.map (Value.int .i64)) := by simpa using hW
   obtain ⟨va, vc, rfl, hca⟩ := row_formA hV2
   have hb2 := hb1.grown hgr hb1.size (fun j hj => (hV1.lt j hj).1)
   rw [if_pos (by rfl)]
   refine opwpApp _ _ _ rfl _ _ rfl rfl hrun ?_
   refine hK.out _ _ ⟨(hb2.cell (p := ⟨w.heap.size, 0, none⟩) (by show w.heap.size < _; omega)).trans c0, (hb2.cell (p := ⟨w.heap.size, 1, none⟩) (by show w.heap.size < _; omega)).trans c1⟩ (fun hHeld2 => ?_)
   clear hK K hrun hW hgr
   (try simp only [Act.put, u1, u2, u3])
   refine rk 4 rfl (fun K hK => ?_)
   have hb3 : Below w0.heap.size w0 (z2.alloc (.cells #[] 93)) := hb2.alloc hb2.size _
   have hO3 : (z2.alloc (.cells #[] 93)).ownsRow w0.heap.size 93 8 (.slice (some ⟨z2.heap.size, 0, none⟩) 0 0) 0 (opCells []) := World.ownsRow_made z2 #[] 0 hb2.size (by unfold maxLen; omega) rfl
   have hV3 := hV2.alloc (.cells #[] 93)
   go_simp
   refine hK.out _ _ ⟨(hb3.cell (p := ⟨w.heap.size, 0, none⟩) (by show w.heap.size < _; omega)).trans c0, (hb3.cell (p := ⟨w.heap.size, 1, none⟩) (by show w.heap.size < _; omega)).trans c1⟩ (fun hHeld3 => ?_)
   clear hK K
   (try simp only [Act.put, u1, u2, u3])
   generalize z2.alloc (.cells #[] 93) = z3 at hHeld3 hb3 hO3 hV3 ⊢
   refine rk 7 rfl (fun K hK => ?_)
   obtain ⟨vA4, z4, hrun, hW, hgr⟩ := appOps z3 w0.heap.size _ 0 [] hO3 B ao no co l (HO.out.below hb3 (by omega)) HCO.out (by omega) hb3.size
   have hO4 : z4.ownsRow w0.heap.size 93 8 vA4 no (opCells l) := by simpa using hW
   obtain ⟨oa, oc, rfl, hco⟩ := row_formA hO4
   have hV4 := hV3.kept hgr (row_ne hV3 hO3 (by decide))
   have hb4 := hb3.grown hgr hb3.size (fun j hj => (hO3.lt j hj).1)
   rw [if_pos (by rfl)]
   refine opwpApp _ _ _ rfl _ _ rfl rfl hrun ?_
   refine hK.out _ _ ⟨(hb4.cell (p := ⟨w.heap.size, 0, none⟩) (by show w.heap.size < _; omega)).trans c0, (hb4.cell (p := ⟨w.heap.size, 1, none⟩) (by show w.heap.size < _; omega)).trans c1⟩ (fun hHeld4 => ?_)
   clear hK K hrun hW hgr
   (try simp only [Act.put, u1, u2, u3])
   refine tk 8 ⟨some 11, .build 32 #[(0, .tmp 6), (1, .tmp 10)], 32, "l04_carts.go:36", #[⟨3, .data⟩, ⟨7, .data⟩], none⟩ ?_
   (try simp only [Act.put, u1, u2, u3])
   have HRz := Lib.hid ((hb4.block _ hsz).trans HR.out)
   obtain ⟨r0, r1⟩ := pair_cells HRz.out
   obtain ⟨f0, f1⟩ := pair_frozen HRz.out
   have HP : Hid (Own z4 w0.heap.size z4.heap.size va nv xs ∧ OwnOps z4 w0.heap.size z4.heap.size oa no l) := ⟨own_of_row hV4 (Nat.le_refl _), own_of_cells hO4 (Nat.le_refl _)⟩
   have hbr : Below (w.heap.size + 1) w0 ((z4.setCell ⟨w.heap.size + 1, 0, none⟩ (.slice va nv vc)).setCell ⟨w.heap.size + 1, 1, none⟩ (.slice oa no oc)) := ((show Below (w.heap.size + 1) w0 z4 from hb4.mono (by omega)).setCell (p := ⟨w.heap.size + 1, 0, none⟩) (Nat.le_refl _) _).setCell (p := ⟨w.heap.size + 1, 1, none⟩) (Nat.le_refl _) _
   have hot : ∀ j, j ≠ w.heap.size + 1 → ((z4.setCell ⟨w.heap.size + 1, 0, none⟩ (.slice va nv vc)).setCell ⟨w.heap.size + 1, 1, none⟩ (.slice oa no oc)).heap[j]? = z4.heap[j]? := fun j hj => pair_other _ _ hj
   have HXf : Hid (((z4.setCell ⟨w.heap.size + 1, 0, none⟩ (.slice va nv vc)).setCell ⟨w.heap.size + 1, 1, none⟩ (.slice oa no oc)).heap[w.heap.size + 1]? = some (.cells #[.slice va nv vc, .slice oa no oc] 32 (0, 0))) := pair_set _ _ HRz.out
   have hzf : ((z4.setCell ⟨w.heap.size + 1, 0, none⟩ (.slice va nv vc)).setCell ⟨w.heap.size + 1, 1, none⟩ (.slice oa no oc)).heap.size = z4.heap.size := pair_size _ _ _ _
   refine rk 9 rfl (fun K hK => ?_)
   go_simp
   refine hK.out _ _ ⟨(hbr.cell (p := ⟨w.heap.size, 0, none⟩) (by show w.heap.size < _; omega)).trans c0, (hbr.cell (p := ⟨w.heap.size, 1, none⟩) (by show w.heap.size < _; omega)).trans c1⟩ (fun hHeldF => ?_)
   clear hK K
   (try simp only [Act.put, u1, u2, u3])
   refine wpAnyH_done (by kernel_rfl) ?_ _
   generalize (z4.setCell ⟨w.heap.size + 1, 0, none⟩ (.slice va nv vc)).setCell ⟨w.heap.size + 1, 1, none⟩ (.slice oa no oc) = wf at HXf hbr hot hzf ⊢
   obtain ⟨q0, q1⟩ := pair_cells HXf.out
   have HPf : Hid (Own wf w.heap.size wf.heap.size va nv xs ∧ OwnOps wf w.heap.size wf.heap.size oa no l) := ⟨((HP.out.1.kept (w' := wf) fun j h1 h2 => hot j (by omega)).more (by omega) (by omega)), ((HP.out.2.kept (w' := wf) fun j h1 h2 => hot j (by omega)).more (by omega) (by omega))⟩
   have HBf := Lib.hid (HB.out.trans (hbr.mono (by omega)))
   have HCa := Lib.hid hca
   have HCo := Lib.hid hco
   clear hot hzf HP HRz r0 r1 f0 f1 hbr hca hco
   go_wp2
   exact bodyPost_ret (v := .agg #[.slice va nv vc, .slice oa no oc]) (by simp [results, Tryz.results37, go_sem, q0, q1]) rfl ⟨va, vc, oa, oc, by rw [HLx.out, HLo.out], by rw [HLx.out]; exact HPf.out.1, by rw [HLo.out]; exact HPf.out.2, HBf.out, by rw [HLx.out]; exact HCa.out, by rw [HLo.out]; exact HCo.out⟩
  refine AllReadyH.cons rfl (fun K hK => ?_) AllReadyH.nil
  have hb5 : Below w0.heap.size w0 (z1.alloc (.cells #[] 93)) := hb1.alloc hb1.size _
  have hO5 : (z1.alloc (.cells #[] 93)).ownsRow w0.heap.size 93 8 (.slice (some ⟨z1.heap.size, 0, none⟩) 0 0) 0 (opCells []) := World.ownsRow_made z1 #[] 0 hb1.size (by unfold maxLen; omega) rfl
  have hV5 := hV1.alloc (.cells #[] 93)
  go_simp
  refine hK.out _ _ ⟨(hb5.cell (p := ⟨w.heap.size, 0, none⟩) (by show w.heap.size < _; omega)).trans c0, (hb5.cell (p := ⟨w.heap.size, 1, none⟩) (by show w.heap.size < _; omega)).trans c1⟩ (fun hHeld5 => ?_)
  clear hK K
  (try simp only [Act.put, u1, u2, u3])
  generalize z1.alloc (.cells #[] 93) = z5 at hHeld5 hb5 hO5 hV5 ⊢
  refine rk 3 rfl (fun K hK => ?_)
  obtain ⟨vA6, z6, hrun, hW, hgr⟩ := appInts z5 w0.heap.size _ 0 [] hV5 B av nv cv xs (HV.out.below hb5 (by omega)) HCV.out (by omega) hb5.size
  have hV6 : z6.ownsRow w0.heap.size 2 1 vA6 nv (xs.map (Value.int .i64)) := by simpa using hW
  obtain ⟨va, vc, rfl, hca⟩ := row_formA hV6
  have hO6 := hO5.kept hgr (row_ne hO5 hV5 (by decide))
  have hb6 := hb5.grown hgr hb5.size (fun j hj => (hV5.lt j hj).1)
  rw [if_pos (by rfl)]
  refine opwpApp _ _ _ rfl _ _ rfl rfl hrun ?_
  refine hK.out _ _ ⟨(hb6.cell (p := ⟨w.heap.size, 0, none⟩) (by show w.heap.size < _; omega)).trans c0, (hb6.cell (p := ⟨w.heap.size, 1, none⟩) (by show w.heap.size < _; omega)).trans c1⟩ (fun hHeld6 => ?_)
  clear hK K hrun hW hgr
  (try simp only [Act.put, u1, u2, u3])
  refine rk 7 rfl (fun K hK => ?_)
  obtain ⟨vA7, z7, hrun, hW, hgr⟩ := appOps z6 w0.heap.size _ 0 [] hO6 B ao no co l (HO.out.below hb6 (by omega)) HCO.out (by omega) hb6.size
  have hO7 : z7.ownsRow w0.heap.size 93 8 vA7 no (opCells l) := by simpa using hW
  obtain ⟨oa, oc, rfl, hco⟩ := row_formA hO7
  have hV7 := hV6.kept hgr (row_ne hV6 hO6 (by decide))
  have hb7 := hb6.grown hgr hb6.size (fun j hj => (hO6.lt j hj).1)
  rw [if_pos (by rfl)]
  refine opwpApp _ _ _ rfl _ _ rfl rfl hrun ?_
  refine hK.out _ _ ⟨(hb7.cell (p := ⟨w.heap.size, 0, none⟩) (by show w.heap.size < _; omega)).trans c0, (hb7.cell (p := ⟨w.heap.size, 1, none⟩) (by show w.heap.size < _; omega)).trans c1⟩ (fun hHeld7 => ?_)
  clear hK K hrun hW hgr
  (try simp only [Act.put, u1, u2, u3])
  refine tk 8 ⟨some 11, .build 32 #[(0, .tmp 6), (1, .tmp 10)], 32, "l04_carts.go:36", #[⟨3, .data⟩, ⟨7, .data⟩], none⟩ ?_
  (try simp only [Act.put, u1, u2, u3])
  have HRz := Lib.hid ((hb7.block _ hsz).trans HR.out)
  obtain ⟨r0, r1⟩ := pair_cells HRz.out
  obtain ⟨f0, f1⟩ := pair_frozen HRz.out
  have HP : Hid (Own z7 w0.heap.size z7.heap.size va nv xs ∧ OwnOps z7 w0.heap.size z7.heap.size oa no l) := ⟨own_of_row hV7 (Nat.le_refl _), own_of_cells hO7 (Nat.le_refl _)⟩
  have hbr : Below (w.heap.size + 1) w0 ((z7.setCell ⟨w.heap.size + 1, 0, none⟩ (.slice va nv vc)).setCell ⟨w.heap.size + 1, 1, none⟩ (.slice oa no oc)) := ((show Below (w.heap.size + 1) w0 z7 from hb7.mono (by omega)).setCell (p := ⟨w.heap.size + 1, 0, none⟩) (Nat.le_refl _) _).setCell (p := ⟨w.heap.size + 1, 1, none⟩) (Nat.le_refl _) _
  have hot : ∀ j, j ≠ w.heap.size + 1 → ((z7.setCell ⟨w.heap.size + 1, 0, none⟩ (.slice va nv vc)).setCell ⟨w.heap.size + 1, 1, none⟩ (.slice oa no oc)).heap[j]? = z7.heap[j]? := fun j hj => pair_other _ _ hj
  have HXf : Hid (((z7.setCell ⟨w.heap.size + 1, 0, none⟩ (.slice va nv vc)).setCell ⟨w.heap.size + 1, 1, none⟩ (.slice oa no oc)).heap[w.heap.size + 1]? = some (.cells #[.slice va nv vc, .slice oa no oc] 32 (0, 0))) := pair_set _ _ HRz.out
  have hzf : ((z7.setCell ⟨w.heap.size + 1, 0, none⟩ (.slice va nv vc)).setCell ⟨w.heap.size + 1, 1, none⟩ (.slice oa no oc)).heap.size = z7.heap.size := pair_size _ _ _ _
  refine rk 9 rfl (fun K hK => ?_)
  go_simp
  refine hK.out _ _ ⟨(hbr.cell (p := ⟨w.heap.size, 0, none⟩) (by show w.heap.size < _; omega)).trans c0, (hbr.cell (p := ⟨w.heap.size, 1, none⟩) (by show w.heap.size < _; omega)).trans c1⟩ (fun hHeldF => ?_)
  clear hK K
  (try simp only [Act.put, u1, u2, u3])
  refine wpAnyH_done (by kernel_rfl) ?_ _
  generalize (z7.setCell ⟨w.heap.size + 1, 0, none⟩ (.slice va nv vc)).setCell ⟨w.heap.size + 1, 1, none⟩ (.slice oa no oc) = wf at HXf hbr hot hzf ⊢
  obtain ⟨q0, q1⟩ := pair_cells HXf.out
  have HPf : Hid (Own wf w.heap.size wf.heap.size va nv xs ∧ OwnOps wf w.heap.size wf.heap.size oa no l) := ⟨((HP.out.1.kept (w' := wf) fun j h1 h2 => hot j (by omega)).more (by omega) (by omega)), ((HP.out.2.kept (w' := wf) fun j h1 h2 => hot j (by omega)).more (by omega) (by omega))⟩
  have HBf := Lib.hid (HB.out.trans (hbr.mono (by omega)))
  have HCa := Lib.hid hca
  have HCo := Lib.hid hco
  clear hot hzf HP HRz r0 r1 f0 f1 hbr hca hco
  go_wp2
  exact bodyPost_ret (v := .agg #[.slice va nv vc, .slice oa no oc]) (by simp [results, Tryz.results37, go_sem, q0, q1]) rfl ⟨va, vc, oa, oc, by rw [HLx.out, HLo.out], by rw [HLx.out]; exact HPf.out.1, by rw [HLo.out]; exact HPf.out.2, HBf.out, by rw [HLx.out]; exact HCa.out, by rw [HLo.out]; exact HCo.out⟩
 refine AllReadyH.cons rfl (fun K hK => ?_) AllReadyH.nil
 have hb8 : Below w0.heap.size w0 (z0.alloc (.cells #[] 93)) := hbz.alloc hbz.size _
 have hO8 : (z0.alloc (.cells #[] 93)).ownsRow w0.heap.size 93 8 (.slice (some ⟨z0.heap.size, 0, none⟩) 0 0) 0 (opCells []) := World.ownsRow_made z0 #[] 0 hbz.size (by unfold maxLen; omega) rfl
 go_simp
 refine hK.out _ _ ⟨(hb8.cell (p := ⟨w.heap.size, 0, none⟩) (by show w.heap.size < _; omega)).trans c0, (hb8.cell (p := ⟨w.heap.size, 1, none⟩) (by show w.heap.size < _; omega)).trans c1⟩ (fun hHeld8 => ?_)
 clear hK K
 (try simp only [Act.put, u1, u2, u3])
 generalize z0.alloc (.cells #[] 93) = z8 at hHeld8 hb8 hO8 ⊢
 refine rk 0 rfl (fun K hK => ?_)
 have hb9 : Below w0.heap.size w0 (z8.alloc (.cells #[] 2)) := hb8.alloc hb8.size _
 have hV9 : (z8.alloc (.cells #[] 2)).ownsRow w0.heap.size 2 1 (.slice (some ⟨z8.heap.size, 0, none⟩) 0 0) 0 (([] : List Int).map (Value.int .i64)) := World.ownsRow_made z8 #[] 0 hb8.size (by unfold maxLen; omega) rfl
 have hO9 := hO8.alloc (.cells #[] 2)
 go_simp
 refine hK.out _ _ ⟨(hb9.cell (p := ⟨w.heap.size, 0, none⟩) (by show w.heap.size < _; omega)).trans c0, (hb9.cell (p := ⟨w.heap.size, 1, none⟩) (by show w.heap.size < _; omega)).trans c1⟩ (fun hHeld9 => ?_)
 clear hK K
 (try simp only [Act.put, u1, u2, u3])
 generalize z8.alloc (.cells #[] 2) = z9 at hHeld9 hb9 hV9 hO9 ⊢
 refine rk 3 rfl (fun K hK => ?_)
 obtain ⟨vA10, z10, hrun, hW, hgr⟩ := appInts z9 w0.heap.size _ 0 [] hV9 B av nv cv xs (HV.out.below hb9 (by omega)) HCV.out (by omega) hb9.size
 have hV10 : z10.ownsRow w0.heap.size 2 1 vA10 nv (xs.map (Value.int .i64)) := by simpa using hW
 obtain ⟨va, vc, rfl, hca⟩ := row_formA hV10
 have hO10 := hO9.kept hgr (row_ne hO9 hV9 (by decide))
 have hb10 := hb9.grown hgr hb9.size (fun j hj => (hV9.lt j hj).1)
 rw [if_pos (by rfl)]
 refine opwpApp _ _ _ rfl _ _ rfl rfl hrun ?_
 refine hK.out _ _ ⟨(hb10.cell (p := ⟨w.heap.size, 0, none⟩) (by show w.heap.size < _; omega)).trans c0, (hb10.cell (p := ⟨w.heap.size, 1, none⟩) (by show w.heap.size < _; omega)).trans c1⟩ (fun hHeld10 => ?_)
 clear hK K hrun hW hgr
 (try simp only [Act.put, u1, u2, u3])
 refine rk 7 rfl (fun K hK => ?_)
 obtain ⟨vA11, z11, hrun, hW, hgr⟩ := appOps z10 w0.heap.size _ 0 [] hO10 B ao no co l (HO.out.below hb10 (by omega)) HCO.out (by omega) hb10.size
 have hO11 : z11.ownsRow w0.heap.size 93 8 vA11 no (opCells l) := by simpa using hW
 obtain ⟨oa, oc, rfl, hco⟩ := row_formA hO11
 have hV11 := hV10.kept hgr (row_ne hV10 hO10 (by decide))
 have hb11 := hb10.grown hgr hb10.size (fun j hj => (hO10.lt j hj).1)
 rw [if_pos (by rfl)]
 refine opwpApp _ _ _ rfl _ _ rfl rfl hrun ?_
 refine hK.out _ _ ⟨(hb11.cell (p := ⟨w.heap.size, 0, none⟩) (by show w.heap.size < _; omega)).trans c0, (hb11.cell (p := ⟨w.heap.size, 1, none⟩) (by show w.heap.size < _; omega)).trans c1⟩ (fun hHeld11 => ?_)
 clear hK K hrun hW hgr
 (try simp only [Act.put, u1, u2, u3])
 refine tk 8 ⟨some 11, .build 32 #[(0, .tmp 6), (1, .tmp 10)], 32, "l04_carts.go:36", #[⟨3, .data⟩, ⟨7, .data⟩], none⟩ ?_
 (try simp only [Act.put, u1, u2, u3])
 have HRz := Lib.hid ((hb11.block _ hsz).trans HR.out)
 obtain ⟨r0, r1⟩ := pair_cells HRz.out
 obtain ⟨f0, f1⟩ := pair_frozen HRz.out
 have HP : Hid (Own z11 w0.heap.size z11.heap.size va nv xs ∧ OwnOps z11 w0.heap.size z11.heap.size oa no l) := ⟨own_of_row hV11 (Nat.le_refl _), own_of_cells hO11 (Nat.le_refl _)⟩
 have hbr : Below (w.heap.size + 1) w0 ((z11.setCell ⟨w.heap.size + 1, 0, none⟩ (.slice va nv vc)).setCell ⟨w.heap.size + 1, 1, none⟩ (.slice oa no oc)) := ((show Below (w.heap.size + 1) w0 z11 from hb11.mono (by omega)).setCell (p := ⟨w.heap.size + 1, 0, none⟩) (Nat.le_refl _) _).setCell (p := ⟨w.heap.size + 1, 1, none⟩) (Nat.le_refl _) _
 have hot : ∀ j, j ≠ w.heap.size + 1 → ((z11.setCell ⟨w.heap.size + 1, 0, none⟩ (.slice va nv vc)).setCell ⟨w.heap.size + 1, 1, none⟩ (.slice oa no oc)).heap[j]? = z11.heap[j]? := fun j hj => pair_other _ _ hj
 have HXf : Hid (((z11.setCell ⟨w.heap.size + 1, 0, none⟩ (.slice va nv vc)).setCell ⟨w.heap.size + 1, 1, none⟩ (.slice oa no oc)).heap[w.heap.size + 1]? = some (.cells #[.slice va nv vc, .slice oa no oc] 32 (0, 0))) := pair_set _ _ HRz.out
 have hzf : ((z11.setCell ⟨w.heap.size + 1, 0, none⟩ (.slice va nv vc)).setCell ⟨w.heap.size + 1, 1, none⟩ (.slice oa no oc)).heap.size = z11.heap.size := pair_size _ _ _ _
 refine rk 9 rfl (fun K hK => ?_)
 go_simp
 refine hK.out _ _ ⟨(hbr.cell (p := ⟨w.heap.size, 0, none⟩) (by show w.heap.size < _; omega)).trans c0, (hbr.cell (p := ⟨w.heap.size, 1, none⟩) (by show w.heap.size < _; omega)).trans c1⟩ (fun hHeldF => ?_)
 clear hK K
 (try simp only [Act.put, u1, u2, u3])
 refine wpAnyH_done (by kernel_rfl) ?_ _
 generalize (z11.setCell ⟨w.heap.size + 1, 0, none⟩ (.slice va nv vc)).setCell ⟨w.heap.size + 1, 1, none⟩ (.slice oa no oc) = wf at HXf hbr hot hzf ⊢
 obtain ⟨q0, q1⟩ := pair_cells HXf.out
 have HPf : Hid (Own wf w.heap.size wf.heap.size va nv xs ∧ OwnOps wf w.heap.size wf.heap.size oa no l) := ⟨((HP.out.1.kept (w' := wf) fun j h1 h2 => hot j (by omega)).more (by omega) (by omega)), ((HP.out.2.kept (w' := wf) fun j h1 h2 => hot j (by omega)).more (by omega) (by omega))⟩
 have HBf := Lib.hid (HB.out.trans (hbr.mono (by omega)))
 have HCa := Lib.hid hca
 have HCo := Lib.hid hco
 clear hot hzf HP HRz r0 r1 f0 f1 hbr hca hco
 go_wp2
 exact bodyPost_ret (v := .agg #[.slice va nv vc, .slice oa no oc]) (by simp [results, Tryz.results37, go_sem, q0, q1]) rfl ⟨va, vc, oa, oc, by rw [HLx.out, HLo.out], by rw [HLx.out]; exact HPf.out.1, by rw [HLo.out]; exact HPf.out.2, HBf.out, by rw [HLx.out]; exact HCa.out, by rw [HLo.out]; exact HCo.out⟩
set_option linter.unusedVariables false

set_option maxHeartbeats 10000000 in
theorem l6Stamp (w : World) (B : Nat) (av ao : Option Addr) (nv cv no co : Nat) (l : List OpV) (h : Ops w B ao no l) (hB : B ≤ w.heap.size) (hn : no ≤ 1048576) : Calls Tryz.prog 96 #[.agg #[.slice av nv cv, .slice ao no co]] w fun e w' => e = .returned (.int .i64 (stampTo l l.length)) ∧ Below w.heap.size w w' := by
 have hb0 : Below w.heap.size w (w.alloc (.cells #[.slice av nv cv, .slice ao no co] 32)) := (Below.refl _ w).alloc (Nat.le_refl _) _
 have HO := Lib.hid (h.below hb0 hB)
 have HB := Lib.hid hb0
 have HX := Lib.hid (boxAt (Below.refl _ (w.alloc (.cells #[.slice av nv cv, .slice ao no co] 32))))
 have HL := Lib.hid h.1
 clear h hb0
 go_enter Tryz.func96, Tryz.ntmps96
 go_wp2_with fail
 generalize w.alloc (.cells #[.slice av nv cv, .slice ao no co] 32) = w0 at HO HB HX ⊢
 obtain ⟨c0, c1⟩ := pair_cells HX.out
 go_wp2
 go_loop [3, 4] (fun n i => ∃ k : Nat, k ≤ no ∧ i = .int .i64 k ∧ n = .int .i64 (stampTo l k)) (fun _ i => no - (intOf i).toNat)
 case atStart => exact ⟨0, Nat.zero_le _, rfl, rfl⟩
 case round =>
  obtain ⟨k, hk, rfl, rfl⟩ := hrel
  by_cases hlt : k < no
  ·obtain ⟨b, off, rfl, hb, ho⟩ := HO.out.2 k hlt
   obtain ⟨d0, d1, d2, d3, d4, d5, d6, d7⟩ := ho
   have HU : Hid (stampTo l (k + 1) = max (stampTo l k) (l.getD k OpV.zero).stamp) := rfl
   generalize l.getD k OpV.zero = x at HU d0 d1 d2 d3 d4 d5 d6 d7
   go_wp2
   go_round
   case rel => exact ⟨k + 1, by omega, by go_num, by rw [HU.out]⟩
   case measure => simp [intOf]; omega
  ·obtain rfl : k = no := by omega
   go_wp2
   go_ret
   exact ⟨by rw [HL.out]; rfl, HB.out⟩
set_option linter.unusedVariables false

theorem below_set2 (w : World) (b i j : Nat) (u v : Value) : Below b w ((w.setCell ⟨b, i, none⟩ u).setCell ⟨b, j, none⟩ v) := ((Below.refl b w).setCell (p := ⟨b, i, none⟩) (Nat.le_refl _) u).setCell (p := ⟨b, j, none⟩) (Nat.le_refl _) v
theorem below_set1 (w : World) (b i : Nat) (u : Value) : Below b w (w.setCell ⟨b, i, none⟩ u) := (Below.refl b w).setCell (p := ⟨b, i, none⟩) (Nat.le_refl _) u
/-- Three blocks that a call has laid first: a cart, an operation and a result. -/
structure PutF (w w1 : World) (x y z : Array Value) : Prop where
 fst : w1.heap[w.heap.size]? = some (.cells x 32 (0, 0))
 snd : w1.heap[w.heap.size + 1]? = some (.cells y 93 (0, 0))
 res : w1.heap[w.heap.size + 1 + 1]? = some (.cells z 32 (0, 0))
 bel : Below w.heap.size w w1
theorem PutF.mk0 (w : World) (x y z : Array Value) : PutF w (((w.alloc (.cells x 32)).alloc (.cells y 93)).alloc (.cells z 32)) x y z := by
 have e1 : (w.alloc (.cells x 32)).heap.size = w.heap.size + 1 := by simp
 have e2 : ((w.alloc (.cells x 32)).alloc (.cells y 93)).heap.size = w.heap.size + 1 + 1 := by simp
 refine ⟨?_, ?_, ?_, (((Below.refl _ w).alloc (Nat.le_refl _) _).alloc (by simp) _).alloc (by simp; omega) _⟩
 ·exact ((Below.heap_alloc _ _ _ (by omega)).trans (Below.heap_alloc _ _ _ (by omega))).trans (heap_alloc_new _ _)
 ·rw [← e1]; exact (Below.heap_alloc _ _ _ (by omega)).trans (heap_alloc_new _ _)
 ·rw [← e2]; exact heap_alloc_new _ _
theorem PutF.next {w w1 w2 : World} {x y z : Array Value} (h : PutF w w1 x y z) (hb : Below w1.heap.size w1 w2) : PutF w w2 x y z :=
 ⟨(hb.block _ (Array.getElem?_eq_some_iff.1 h.fst).1).trans h.fst, (hb.block _ (Array.getElem?_eq_some_iff.1 h.snd).1).trans h.snd, (hb.block _ (Array.getElem?_eq_some_iff.1 h.res).1).trans h.res, h.bel.trans (hb.mono h.bel.size)⟩
theorem PutF.put {w w1 : World} {x y z : Array Value} (h : PutF w w1 x y z) (i : Nat) (v : Value) : PutF w (w1.setCell ⟨w.heap.size + 1, i, none⟩ v) x (y.setIfInBounds i v) z :=
 ⟨(heap_setCell_other _ _ _ _ (by show w.heap.size ≠ w.heap.size + 1; omega)).trans h.fst, heap_setCell_same _ _ _ _ _ _ h.snd, (heap_setCell_other _ _ _ _ (by show w.heap.size + 1 + 1 ≠ w.heap.size + 1; omega)).trans h.res, h.bel.setCell (p := ⟨w.heap.size + 1, i, none⟩) (by show _ ≤ w.heap.size + 1; omega) v⟩
theorem PutF.far {w w1 w2 : World} {x y z : Array Value} (h : PutF w w1 x y z) (hb : Below (w.heap.size + 1 + 1 + 1) w1 w2) : PutF w w2 x y z :=
 ⟨(hb.block _ (by omega)).trans h.fst, (hb.block _ (by omega)).trans h.snd, (hb.block _ (by omega)).trans h.res, h.bel.trans (hb.mono (by omega))⟩
theorem PutF.lt {w w1 : World} {x y z : Array Value} (h : PutF w w1 x y z) : w.heap.size + 1 + 1 < w1.heap.size := (Array.getElem?_eq_some_iff.1 h.res).1
theorem PutF.set2 {w w1 : World} {x y : Array Value} {z0 z1 : Value} (h : PutF w w1 x y #[z0, z1]) (u v : Value) :
  ((w1.setCell ⟨w.heap.size + 1 + 1, 0, none⟩ u).setCell ⟨w.heap.size + 1 + 1, 1, none⟩ v).heap[w.heap.size + 1 + 1]? = some (.cells #[u, v] 32 (0, 0)) ∧ Below (w.heap.size + 1 + 1) w1 ((w1.setCell ⟨w.heap.size + 1 + 1, 0, none⟩ u).setCell ⟨w.heap.size + 1 + 1, 1, none⟩ v) :=
 ⟨pair_set _ _ h.res, below_set2 _ _ _ _ _ _⟩
/-- What a call answers that hands back a cart of its own and whether it could make it. -/
def IssB (ok : Bool) (zs : List Int) (L : List OpV) (w : World) (e : Ending) (w' : World) : Prop := ∃ va vc oa oc, e = .returned (.tuple #[.agg #[.slice va zs.length vc, .slice oa L.length oc], .bool ok]) ∧ Own w' w.heap.size w'.heap.size va zs.length zs ∧ OwnOps w' w.heap.size w'.heap.size oa L.length L ∧ Below w.heap.size w w' ∧ Caps va zs.length vc ∧ Caps oa L.length oc
theorem one_ops (w : World) (o : OpV) : Ops (w.alloc (.cells #[.int .i64 o.dev, .int .i64 o.seq, .int .i64 o.stamp, .int .i64 o.kind, .string o.item, .int .i64 o.qty, .int .i64 o.level, .int .i64 o.undos] 93)) (w.heap.size + 1) (some ⟨w.heap.size, 0, none⟩) 1 [o] := by
 refine ⟨rfl, fun i hi => ⟨w.heap.size, 0, rfl, Nat.lt_succ_self _, ?_⟩⟩
 obtain rfl : i = 0 := by omega
 exact op_cells (heap_alloc_new w _)
theorem own_nilP (w : World) (lo hi : Nat) (a : Option Addr) : Own w lo hi a 0 [] := ⟨rfl, fun h => absurd h (by omega)⟩

set_option maxHeartbeats 40000000 in
theorem l6PutNo (w : World) (B : Nat) (av ao : Option Addr) (cv no co d : Nat) (xs : List Int) (l : List OpV) (o : OpV) (hx : Ints w B av 4 xs) (h : Ops w B ao no l) (hB : B ≤ w.heap.size) (hcv : av = none → cv = 0) (hco : Caps ao no co) (hd : d < 4) (hn : no ≤ 100000) (hxs : 0 ≤ xs.getD d 0 ∧ xs.getD d 0 ≤ 1000) (hst : ∀ i, i < l.length → (atOp l i).stamp ≤ 200000) (hi : o.item.size ≤ 1048576) (hok : (nextOp xs l d o).ok = false) :
  Calls Tryz.prog 75 #[.agg #[.slice av 4 cv, .slice ao no co], .int .i64 (d : Int), .agg #[.int .i64 o.dev, .int .i64 o.seq, .int .i64 o.stamp, .int .i64 o.kind, .string o.item, .int .i64 o.qty, .int .i64 o.level, .int .i64 o.undos]] w (IssB false [] [] w) := by
 have hT := PutF.mk0 w #[.slice av 4 cv, .slice ao no co] #[.int .i64 o.dev, .int .i64 o.seq, .int .i64 o.stamp, .int .i64 o.kind, .string o.item, .int .i64 o.qty, .int .i64 o.level, .int .i64 o.undos] #[.slice none 0 0, .slice none 0 0]
 have HV := Lib.hid (hx.below hT.bel hB)
 have HO := Lib.hid (h.below hT.bel hB)
 have HT := Lib.hid hT
 have HLx := Lib.hid hx.1
 have HLo := Lib.hid h.1
 have HCV := Lib.hid hcv
 have HCO := Lib.hid hco
 have hS0 := stampTo_pos l l.length
 have hS1 := stampTo_le (N := 200000) (by omega) hst l.length (Nat.le_refl _)
 have HOK : Hid (opB (d : Int) (xs.getD d 0 + 1) (stampTo l l.length + 1) o.kind o.item o.qty o.level o.undos = false) := hok
 have HNX : Hid (nextOp xs l d o = ⟨(d : Int), xs.getD d 0 + 1, stampTo l l.length + 1, o.kind, o.item, o.qty, o.level, o.undos⟩) := rfl
 have HPV : Hid (putV xs d = xs.set d (xs.getD d 0 + 1)) := rfl
 clear hx h hT hst hok hcv hco
 go_enter Tryz.func75, Tryz.ntmps75
 go_upto_region 1 with fail
 generalize ((w.alloc (.cells #[.slice av 4 cv, .slice ao no co] 32)).alloc (.cells #[.int .i64 o.dev, .int .i64 o.seq, .int .i64 o.stamp, .int .i64 o.kind, .string o.item, .int .i64 o.qty, .int .i64 o.level, .int .i64 o.undos] 93)).alloc (.cells #[.slice none 0 0, .slice none 0 0] 32) = w0 at HV HO HT ⊢
 obtain ⟨b, off, rfl, hb, hc⟩ := HV.out.2 d hd
 obtain ⟨x, hxe⟩ : ∃ x, x = xs.getD d 0 := ⟨_, rfl⟩
 obtain ⟨S, hse⟩ : ∃ S, S = stampTo l l.length := ⟨_, rfl⟩
 rw [← hxe, ← hse] at HOK HNX
 rw [← hxe] at hc hxs HPV
 rw [← hse] at hS0 hS1
 have HSE := Lib.hid hse
 obtain ⟨hx0, hx1⟩ := hxs
 clear hxe hse
 obtain ⟨q0, q1⟩ := pair_cells HT.out.fst
 obtain ⟨o0, o1, o2, o3, o4, o5, o6, o7⟩ := op_cells HT.out.snd
 obtain ⟨f0, f1, f2, f3, f4, f5, f6, f7⟩ := op_frozen HT.out.snd
 have hdi : (d : Int) < 4 := by omega
 have hs0 := HT.out.lt
 have HP2 := Lib.hid ((HT.out.put 0 (.int .i64 (d : Int))).put 1 (.int .i64 (x + 1)))
 have hB2 : Below (w.heap.size + 1) w0 ((w0.setCell ⟨w.heap.size + 1, 0, none⟩ (.int .i64 (d : Int))).setCell ⟨w.heap.size + 1, 1, none⟩ (.int .i64 (x + 1))) := below_set2 _ _ _ _ _ _
 have HV2 := Lib.hid (HV.out.below hB2 (by omega))
 have HO2 := Lib.hid (HO.out.below hB2 (by omega))
 have hl2 := HP2.out.lt
 clear hB2
 go_upto_region 3 with fail
 generalize (w0.setCell ⟨w.heap.size + 1, 0, none⟩ (.int .i64 (d : Int))).setCell ⟨w.heap.size + 1, 1, none⟩ (.int .i64 (x + 1)) = w2 at HP2 HV2 HO2 hl2 ⊢
 clear q0 q1 o0 o1 o2 o3 o4 o5 o6 o7 f0 f1 f2 f3 f4 f5 f6 f7 hc HV HO HT hs0
 obtain ⟨q0, q1⟩ := pair_cells HP2.out.fst
 go_wp2_with fail
 refine (l6Stamp w2 B _ ao 4 cv no co l HO2.out (by omega) (by omega)).mono ?_
 rintro e w3 ⟨rfl, hb3⟩
 rw [← HSE.out]
 have HP3 := Lib.hid (HP2.out.next hb3)
 have HV3 := Lib.hid (HV2.out.below hb3 (by omega))
 have HO3 := Lib.hid (HO2.out.below hb3 (by omega))
 have hs3 := hb3.size
 clear hb3 HP2 HV2 HO2 q0 q1
 obtain ⟨o0, o1, o2, o3, o4, o5, o6, o7⟩ := op_cells HP3.out.snd
 obtain ⟨f0, f1, f2, f3, f4, f5, f6, f7⟩ := op_frozen HP3.out.snd
 have HP4 := Lib.hid (HP3.out.put 2 (.int .i64 (S + 1)))
 have hB4 : Below (w.heap.size + 1) w3 (w3.setCell ⟨w.heap.size + 1, 2, none⟩ (.int .i64 (S + 1))) := below_set1 _ _ _ _
 have HV4 := Lib.hid (HV3.out.below hB4 (by omega))
 have HO4 := Lib.hid (HO3.out.below hB4 (by omega))
 have hl4 : w.heap.size + 1 + 1 < (w3.setCell ⟨w.heap.size + 1, 2, none⟩ (.int .i64 (S + 1))).heap.size := HP4.out.lt
 clear hB4
 go_upto_region 4 with fail
 generalize w3.setCell ⟨w.heap.size + 1, 2, none⟩ (.int .i64 (S + 1)) = w4 at HP4 HV4 HO4 hl4 ⊢
 clear o0 o1 o2 o3 o4 o5 o6 o7 f0 f1 f2 f3 f4 f5 f6 f7 HP3 HV3 HO3 hs3
 obtain ⟨o0, o1, o2, o3, o4, o5, o6, o7⟩ := op_cells (show w4.heap[w.heap.size + 1]? = some (.cells #[.int .i64 (d : Int), .int .i64 (x + 1), .int .i64 (S + 1), .int .i64 o.kind, .string o.item, .int .i64 o.qty, .int .i64 o.level, .int .i64 o.undos] 93 (0, 0)) from HP4.out.snd)
 go_wp2_with fail
 refine (specOpOk (d : Int) (x + 1) (S + 1) o.kind o.item o.qty o.level o.undos w4 hi).mono ?_
 rintro e w5 ⟨rfl, hb5⟩
 rw [HOK.out]
 have HP5 := Lib.hid (HP4.out.next hb5)
 have HV5 := Lib.hid (HV4.out.below hb5 (by omega))
 have HO5 := Lib.hid (HO4.out.below hb5 (by omega))
 have hl5 := HP5.out.lt
 clear hb5 HP4 HV4 HO4 hl4 o0 o1 o2 o3 o4 o5 o6 o7
 obtain ⟨r0, r1⟩ := pair_cells HP5.out.res
 obtain ⟨g0, g1⟩ := pair_frozen HP5.out.res
 have HX6 := Lib.hid (HP5.out.set2 (.slice none 0 0) (.slice none 0 0)).1
 have HB6 := Lib.hid (HP5.out.bel.trans ((HP5.out.set2 (.slice none 0 0) (.slice none 0 0)).2.mono (by omega)))
 go_wp2
 change bodyPost _ _ _ _ _ ((w5.setCell ⟨w.heap.size + 1 + 1, 0, none⟩ (.slice none 0 0)).setCell ⟨w.heap.size + 1 + 1, 1, none⟩ (.slice none 0 0))
 generalize (w5.setCell ⟨w.heap.size + 1 + 1, 0, none⟩ (.slice none 0 0)).setCell ⟨w.heap.size + 1 + 1, 1, none⟩ (.slice none 0 0) = wf at HX6 HB6 ⊢
 obtain ⟨q0, q1⟩ := pair_cells HX6.out
 exact bodyPost_ret (v := .tuple #[.agg #[.slice none 0 0, .slice none 0 0], .bool false]) (by simp [results, Tryz.results75, go_sem, q0, q1]) rfl ⟨none, 0, none, 0, rfl, own_nilP _ _ _ _, own_none _ _ _ _, HB6.out, caps_nil, caps_nil⟩

set_option maxHeartbeats 40000000 in
theorem l6PutYes (w : World) (B : Nat) (av ao : Option Addr) (cv no co d : Nat) (xs : List Int) (l : List OpV) (o : OpV) (hx : Ints w B av 4 xs) (h : Ops w B ao no l) (hB : B ≤ w.heap.size) (hcv : av = none → cv = 0) (hco : Caps ao no co) (hd : d < 4) (hn : no ≤ 100000) (hxs : 0 ≤ xs.getD d 0 ∧ xs.getD d 0 ≤ 1000) (hst : ∀ i, i < l.length → (atOp l i).stamp ≤ 200000) (hi : o.item.size ≤ 1048576) (hok : (nextOp xs l d o).ok = true) :
  Calls Tryz.prog 75 #[.agg #[.slice av 4 cv, .slice ao no co], .int .i64 (d : Int), .agg #[.int .i64 o.dev, .int .i64 o.seq, .int .i64 o.stamp, .int .i64 o.kind, .string o.item, .int .i64 o.qty, .int .i64 o.level, .int .i64 o.undos]] w (IssB true (putV xs d) (putL l d (nextOp xs l d o)) w) := by
 have hT := PutF.mk0 w #[.slice av 4 cv, .slice ao no co] #[.int .i64 o.dev, .int .i64 o.seq, .int .i64 o.stamp, .int .i64 o.kind, .string o.item, .int .i64 o.qty, .int .i64 o.level, .int .i64 o.undos] #[.slice none 0 0, .slice none 0 0]
 have HV := Lib.hid (hx.below hT.bel hB)
 have HO := Lib.hid (h.below hT.bel hB)
 have HT := Lib.hid hT
 have HLx := Lib.hid hx.1
 have HLo := Lib.hid h.1
 have HCV := Lib.hid hcv
 have HCO := Lib.hid hco
 have hS0 := stampTo_pos l l.length
 have hS1 := stampTo_le (N := 200000) (by omega) hst l.length (Nat.le_refl _)
 have HOK : Hid (opB (d : Int) (xs.getD d 0 + 1) (stampTo l l.length + 1) o.kind o.item o.qty o.level o.undos = true) := hok
 have HNX : Hid (nextOp xs l d o = ⟨(d : Int), xs.getD d 0 + 1, stampTo l l.length + 1, o.kind, o.item, o.qty, o.level, o.undos⟩) := rfl
 have HPV : Hid (putV xs d = xs.set d (xs.getD d 0 + 1)) := rfl
 clear hx h hT hst hok hcv hco
 go_enter Tryz.func75, Tryz.ntmps75
 go_upto_region 1 with fail
 generalize ((w.alloc (.cells #[.slice av 4 cv, .slice ao no co] 32)).alloc (.cells #[.int .i64 o.dev, .int .i64 o.seq, .int .i64 o.stamp, .int .i64 o.kind, .string o.item, .int .i64 o.qty, .int .i64 o.level, .int .i64 o.undos] 93)).alloc (.cells #[.slice none 0 0, .slice none 0 0] 32) = w0 at HV HO HT ⊢
 obtain ⟨b, off, rfl, hb, hc⟩ := HV.out.2 d hd
 obtain ⟨x, hxe⟩ : ∃ x, x = xs.getD d 0 := ⟨_, rfl⟩
 obtain ⟨S, hse⟩ : ∃ S, S = stampTo l l.length := ⟨_, rfl⟩
 rw [← hxe, ← hse] at HOK HNX
 rw [← hxe] at hc hxs HPV
 rw [← hse] at hS0 hS1
 have HSE := Lib.hid hse
 obtain ⟨hx0, hx1⟩ := hxs
 clear hxe hse
 obtain ⟨q0, q1⟩ := pair_cells HT.out.fst
 obtain ⟨o0, o1, o2, o3, o4, o5, o6, o7⟩ := op_cells HT.out.snd
 obtain ⟨f0, f1, f2, f3, f4, f5, f6, f7⟩ := op_frozen HT.out.snd
 have hdi : (d : Int) < 4 := by omega
 have hs0 := HT.out.lt
 have HP2 := Lib.hid ((HT.out.put 0 (.int .i64 (d : Int))).put 1 (.int .i64 (x + 1)))
 have hB2 : Below (w.heap.size + 1) w0 ((w0.setCell ⟨w.heap.size + 1, 0, none⟩ (.int .i64 (d : Int))).setCell ⟨w.heap.size + 1, 1, none⟩ (.int .i64 (x + 1))) := below_set2 _ _ _ _ _ _
 have HV2 := Lib.hid (HV.out.below hB2 (by omega))
 have HO2 := Lib.hid (HO.out.below hB2 (by omega))
 have hl2 := HP2.out.lt
 clear hB2
 go_upto_region 3 with fail
 generalize (w0.setCell ⟨w.heap.size + 1, 0, none⟩ (.int .i64 (d : Int))).setCell ⟨w.heap.size + 1, 1, none⟩ (.int .i64 (x + 1)) = w2 at HP2 HV2 HO2 hl2 ⊢
 clear q0 q1 o0 o1 o2 o3 o4 o5 o6 o7 f0 f1 f2 f3 f4 f5 f6 f7 hc HV HO HT hs0
 obtain ⟨q0, q1⟩ := pair_cells HP2.out.fst
 go_wp2_with fail
 refine (l6Stamp w2 B _ ao 4 cv no co l HO2.out (by omega) (by omega)).mono ?_
 rintro e w3 ⟨rfl, hb3⟩
 rw [← HSE.out]
 have HP3 := Lib.hid (HP2.out.next hb3)
 have HV3 := Lib.hid (HV2.out.below hb3 (by omega))
 have HO3 := Lib.hid (HO2.out.below hb3 (by omega))
 have hs3 := hb3.size
 clear hb3 HP2 HV2 HO2 q0 q1
 obtain ⟨o0, o1, o2, o3, o4, o5, o6, o7⟩ := op_cells HP3.out.snd
 obtain ⟨f0, f1, f2, f3, f4, f5, f6, f7⟩ := op_frozen HP3.out.snd
 have HP4 := Lib.hid (HP3.out.put 2 (.int .i64 (S + 1)))
 have hB4 : Below (w.heap.size + 1) w3 (w3.setCell ⟨w.heap.size + 1, 2, none⟩ (.int .i64 (S + 1))) := below_set1 _ _ _ _
 have HV4 := Lib.hid (HV3.out.below hB4 (by omega))
 have HO4 := Lib.hid (HO3.out.below hB4 (by omega))
 have hl4 : w.heap.size + 1 + 1 < (w3.setCell ⟨w.heap.size + 1, 2, none⟩ (.int .i64 (S + 1))).heap.size := HP4.out.lt
 clear hB4
 go_upto_region 4 with fail
 generalize w3.setCell ⟨w.heap.size + 1, 2, none⟩ (.int .i64 (S + 1)) = w4 at HP4 HV4 HO4 hl4 ⊢
 clear o0 o1 o2 o3 o4 o5 o6 o7 f0 f1 f2 f3 f4 f5 f6 f7 HP3 HV3 HO3 hs3
 obtain ⟨o0, o1, o2, o3, o4, o5, o6, o7⟩ := op_cells (show w4.heap[w.heap.size + 1]? = some (.cells #[.int .i64 (d : Int), .int .i64 (x + 1), .int .i64 (S + 1), .int .i64 o.kind, .string o.item, .int .i64 o.qty, .int .i64 o.level, .int .i64 o.undos] 93 (0, 0)) from HP4.out.snd)
 go_wp2_with fail
 refine (specOpOk (d : Int) (x + 1) (S + 1) o.kind o.item o.qty o.level o.undos w4 hi).mono ?_
 rintro e w5 ⟨rfl, hb5⟩
 rw [HOK.out]
 have HP5 := Lib.hid (HP4.out.next hb5)
 have HV5 := Lib.hid (HV4.out.below hb5 (by omega))
 have HO5 := Lib.hid (HO4.out.below hb5 (by omega))
 have hl5 := HP5.out.lt
 clear hb5 HP4 HV4 HO4 hl4 o0 o1 o2 o3 o4 o5 o6 o7
 obtain ⟨q0, q1⟩ := pair_cells HP5.out.fst
 go_wp2_with fail
 refine (l4Copy w5 B _ ao 4 cv no co xs l HV5.out HO5.out (by omega) HCV.out HCO.out.2.2 (by omega) (by omega)).mono ?_
 rintro e w6 ⟨va, vc, oa, oc, rfl, hva, hoa, hb6, hcva, hcoa⟩
 rw [HLx.out] at hva hcva ⊢
 rw [HLo.out] at hoa hcoa ⊢
 have HP6 := Lib.hid (HP5.out.next hb6)
 have HV6 := Lib.hid (HV5.out.below hb6 (by omega))
 have HO6 := Lib.hid (HO5.out.below hb6 (by omega))
 obtain ⟨gv, cur, rfl, hg1, hg2, hgv, hcur⟩ := hva.2 (by omega)
 have hs6 := hb6.size
 have HGV := Lib.hid hgv
 have HCU := Lib.hid hcur
 have HCA := Lib.hid hcva
 clear hb6 HP5 HV5 HO5 q0 q1 hva hoa hcoa hgv hcur hcva
 have hgs : gv < w6.heap.size := hg2
 obtain ⟨q0, q1⟩ := pair_cells HP6.out.fst
 obtain ⟨o0, o1, o2, o3, o4, o5, o6, o7⟩ := op_cells (show w6.heap[w.heap.size + 1]? = some (.cells #[.int .i64 (d : Int), .int .i64 (x + 1), .int .i64 (S + 1), .int .i64 o.kind, .string o.item, .int .i64 o.qty, .int .i64 o.level, .int .i64 o.undos] 93 (0, 0)) from HP6.out.snd)
 go_upto_region 7 with fail
 have hb7 : Below w6.heap.size w6 (w6.alloc (.cells #[.slice (some ⟨gv, 0, none⟩) 4 vc, .slice oa no oc] 32)) := bl
 have HX7 := Lib.hid (boxAt (Below.refl _ (w6.alloc (.cells #[.slice (some ⟨gv, 0, none⟩) 4 vc, .slice oa no oc] 32))))
 have HP7 := Lib.hid (HP6.out.next hb7)
 have HV7 := Lib.hid (HV6.out.below hb7 (by omega))
 have HO7 := Lib.hid (HO6.out.below hb7 (by omega))
 have HG7 := Lib.hid ((hb7.block _ hgs).trans HGV.out)
 generalize w6.alloc (.cells #[.slice (some ⟨gv, 0, none⟩) 4 vc, .slice oa no oc] 32) = w7 at hb7 HX7 HP7 HV7 HO7 HG7 ⊢
 have hs7 := hb7.size
 have hx7 : w6.heap.size < w7.heap.size := (Array.getElem?_eq_some_iff.1 HX7.out).1
 clear hb7 HP6 HV6 HO6 HGV q0 q1 o0 o1 o2 o3 o4 o5 o6 o7
 generalize w6.heap.size = ob at hs6 hgs hs7 hx7 HX7 hg2 ⊢
 obtain ⟨x0, x1⟩ := pair_cells HX7.out
 obtain ⟨xf0, xf1⟩ := pair_frozen HX7.out
 obtain ⟨o0, o1, o2, o3, o4, o5, o6, o7⟩ := op_cells (show w7.heap[w.heap.size + 1]? = some (.cells #[.int .i64 (d : Int), .int .i64 (x + 1), .int .i64 (S + 1), .int .i64 o.kind, .string o.item, .int .i64 o.qty, .int .i64 o.level, .int .i64 o.undos] 93 (0, 0)) from HP7.out.snd)
 have hcv : ∃ z, w7.cell? ⟨gv, d, none⟩ = some z := ⟨_, (cell_of_row _ _ _ _ _ _ HG7.out).trans (HCU.out d hd)⟩
 obtain ⟨z, hcz⟩ := hcv
 have hfz : w7.frozen? ⟨gv, d, none⟩ = false := frozen_of_row _ _ _ _ _ HG7.out
 have hb8 : Below gv w7 (w7.setCell ⟨gv, d, none⟩ (.int .i64 (x + 1))) := below_set1 _ _ _ _
 have hot8 : ∀ j, j ≠ gv → (w7.setCell ⟨gv, d, none⟩ (.int .i64 (x + 1))).heap[j]? = w7.heap[j]? := fun j hj => heap_setCell_other _ _ _ _ hj
 have HG8 : Hid ((w7.setCell ⟨gv, d, none⟩ (.int .i64 (x + 1))).heap[gv]? = some (.cells (cur.setIfInBounds d (.int .i64 (x + 1))) 2 (0, 0))) := heap_setCell_same _ _ _ _ _ _ HG7.out
 have HX8 := Lib.hid ((hot8 ob (by omega)).trans HX7.out)
 have HP8 := Lib.hid (HP7.out.far (hb8.mono (by omega)))
 have HO8 := Lib.hid (HO7.out.below hb8 (by omega))
 have hz8 : (w7.setCell ⟨gv, d, none⟩ (.int .i64 (x + 1))).heap.size = w7.heap.size := by simp [World.setCell]
 have hx8 : ob < (w7.setCell ⟨gv, d, none⟩ (.int .i64 (x + 1))).heap.size := by omega
 go_upto_region 8 with fail
 generalize w7.setCell ⟨gv, d, none⟩ (.int .i64 (x + 1)) = w8 at HG8 HX8 HP8 HO8 hx8 ⊢
 clear hb8 hot8 hz8 hcz hfz x0 x1 xf0 xf1 o0 o1 o2 o3 o4 o5 o6 o7 HX7 HP7 HV7 HO7 HG7
 obtain ⟨q0, q1⟩ := pair_cells HP8.out.fst
 have HPle := Lib.hid (putAt_le (d : Int) l)
 have HPat := fun i h => Lib.hid (putAt_at (dev := (d : Int)) (l := l) (i := i) h)
 have HPen := fun h => Lib.hid (putAt_end (dev := (d : Int)) (l := l) h)
 have HQd : Hid (putL l d (nextOp xs l d o) = l.take (putAt (d : Int) l) ++ [nextOp xs l d o] ++ l.drop (putAt (d : Int) l)) := rfl
 rw [HNX.out] at HQd
 obtain ⟨p, hp⟩ : ∃ p, p = putAt (d : Int) l := ⟨_, rfl⟩
 rw [← hp] at HPle HPat HPen HQd
 have hpn : p ≤ no := by have := HPle.out; have := HLo.out; omega
 clear hp HPle
 go_wp2
 go_loop [9] (fun i => ∃ k : Nat, k ≤ p ∧ i = .int .i64 (k : Int)) (fun i => p - (intOf i).toNat)
 case atStart => exact ⟨0, Nat.zero_le _, rfl⟩
 case round =>
  obtain ⟨k, hk, rfl⟩ := hrel
  by_cases hkp : k < p
  ·obtain ⟨b2, off2, rfl, hb2, ho⟩ := HO8.out.2 k (by omega)
   obtain ⟨d0, d1, d2, d3, d4, d5, d6, d7⟩ := ho
   have hdv := (HPat k hkp).out
   have hdv2 : (l.getD k OpV.zero).dev ≤ (d : Int) := hdv
   clear hdv
   generalize l.getD k OpV.zero = y at hdv2 d0 d1 d2 d3 d4 d5 d6 d7
   have hlt : (k : Int) < (no : Int) := by omega
   go_wp2
   go_round
   case rel => exact ⟨k + 1, by omega, by go_num⟩
   case measure => simp [intOf]; omega
  obtain rfl : k = p := by omega
  by_cases hkn : k < no
  ·obtain ⟨b2, off2, rfl, hb2, ho⟩ := HO8.out.2 k hkn
   obtain ⟨d0, d1, d2, d3, d4, d5, d6, d7⟩ := ho
   have hdv0 := (HPen (by rw [HLo.out]; exact hkn)).out
   have hdv : ¬ (l.getD k OpV.zero).dev ≤ (d : Int) := by show ¬ (atOp l k).dev ≤ _; omega
   clear hdv0
   generalize l.getD k OpV.zero = y at hdv d0 d1 d2 d3 d4 d5 d6 d7
   have hdb : decide (y.dev ≤ (d : Int)) = false := decide_eq_false hdv
   have hlt : decide ((k : Int) < (no : Int)) = true := decide_eq_true (by omega)
   clear hdv
   go_upto_region 11 with fail
   clear hdb hlt d0 d1 d2 d3 d4 d5 d6 d7
   have hcc : ¬ (co : Int) = (k : Int) := by have := HCO.out.1; omega
   have hw8 : w8.heap.size ≤ w8.heap.size := Nat.le_refl _
   have hb9 : Below w8.heap.size w8 (w8.alloc (.cells #[] 93)) := bl
   have hr9 : (w8.alloc (.cells #[] 93)).ownsRow w8.heap.size 93 8 (.slice (some ⟨w8.heap.size, 0, none⟩) 0 0) 0 (opCells []) := World.ownsRow_made w8 #[] 0 (Nat.le_refl _) (by unfold maxLen; omega) rfl
   obtain ⟨v1, w9, hrun1, hr1, hgr1⟩ := appOps _ w8.heap.size _ 0 [] hr9 B _ k co (l.take k) ((HO8.out.below hb9 (by omega)).take hpn) HCO.out.2.2 (by omega) hb9.size
   have hr1' : w9.ownsRow w8.heap.size 93 8 v1 k (opCells (l.take k)) := by simpa using hr1
   have hB9 : Below w8.heap.size w8 w9 := hb9.grown hgr1 hb9.size (fun j hj => (hr9.lt j hj).1)
   have hkc : (k : Int) ≤ (co : Int) := by have := HCO.out.1; omega
   obtain ⟨qa0, qa1⟩ := pair_cells (HP8.out.next hb9).fst
   clear hr1 hgr1 hr9
   have HP9 := Lib.hid (HP8.out.next hB9)
   have HX9 := Lib.hid ((hB9.block _ hx8).trans HX8.out)
   have HO9 := Lib.hid (HO8.out.below hB9 (by omega))
   have HB9 := Lib.hid hB9
   have hs9 := hB9.size
   clear hB9 hb9 q0 q1
   obtain ⟨o0, o1, o2, o3, o4, o5, o6, o7⟩ := op_cells (show w9.heap[w.heap.size + 1]? = some (.cells #[.int .i64 (d : Int), .int .i64 (x + 1), .int .i64 (S + 1), .int .i64 o.kind, .string o.item, .int .i64 o.qty, .int .i64 o.level, .int .i64 o.undos] 93 (0, 0)) from HP9.out.snd)
   have hbA : Below w9.heap.size w9 (w9.alloc (.cells #[.int .i64 (d : Int), .int .i64 (x + 1), .int .i64 (S + 1), .int .i64 o.kind, .string o.item, .int .i64 o.qty, .int .i64 o.level, .int .i64 o.undos] 93)) := bl
   have hOne := one_ops w9 ⟨(d : Int), x + 1, S + 1, o.kind, o.item, o.qty, o.level, o.undos⟩
   have hrA := hr1'.alloc (.cells #[.int .i64 (d : Int), .int .i64 (x + 1), .int .i64 (S + 1), .int .i64 o.kind, .string o.item, .int .i64 o.qty, .int .i64 o.level, .int .i64 o.undos] 93)
   obtain ⟨v2, wA, hrun2, hr2, hgr2⟩ := appOps _ w8.heap.size v1 k (l.take k) hrA (w9.heap.size + 1) (some ⟨w9.heap.size, 0, none⟩) 1 1 _ hOne (fun h => by cases h) (by omega) (Nat.le_trans hs9 hbA.size)
   have hBA : Below w8.heap.size w9 wA := (hbA.mono hs9).grown hgr2 (Nat.le_trans hs9 hbA.size) (fun j hj => (hrA.lt j hj).1)
   clear hgr2 hrA hOne hbA hr1'
   have HPA := Lib.hid (HP9.out.far (hBA.mono (by omega)))
   have HXA := Lib.hid ((hBA.block _ (by omega)).trans HX9.out)
   have HOA := Lib.hid (HO9.out.below hBA (by omega))
   have HBA := Lib.hid (HB9.out.trans hBA)
   have hsA := hBA.size
   clear hBA HP9 HX9 HO9 HB9
   obtain ⟨q0, q1⟩ := pair_cells HPA.out.fst
   obtain ⟨x0, x1⟩ := pair_cells HXA.out
   obtain ⟨xf0, xf1⟩ := pair_frozen HXA.out
   have hr2l := hr2
   have hnA : w8.heap.size ≤ wA.heap.size := Nat.le_trans hs9 hsA
   obtain ⟨v3, wB, hrun3, hr3, hgr3⟩ := appOps wA w8.heap.size v2 (k + 1) _ hr2 B (some ⟨b2, off2 + k * 8, none⟩) (no - k) (co - k) (l.drop k) (by have h := HOA.out.dropMap hpn; rw [Option.map_some, add_at] at h; exact h) (fun h => by cases h) (by omega) hnA
   obtain ⟨oa3, oc3, rfl, hc3⟩ := row_formA hr3
   have hBB : Below w8.heap.size wA wB := (show Below w8.heap.size wA wA from Below.refl _ _).grown hgr3 hnA (fun j hj => (hr2l.lt j hj).1)
   have HPB := Lib.hid (HPA.out.far (hBB.mono (by omega)))
   have HXB := Lib.hid ((hBB.block _ hx8).trans HXA.out)
   have HBB := Lib.hid (HBA.out.trans hBB)
   have hsB := hBB.size
   obtain ⟨qb0, qb1⟩ := pair_cells HPA.out.fst
   obtain ⟨x0, x1⟩ := pair_cells HXB.out
   obtain ⟨xf0, xf1⟩ := pair_frozen HXB.out
   have HGB : Hid (wB.heap[gv]? = some (.cells (cur.setIfInBounds d (.int .i64 (x + 1))) 2 (0, 0))) := (HBB.out.block _ (by omega)).trans HG8.out
   have HX12 : Hid ((wB.setCell ⟨ob, 1, none⟩ (.slice oa3 (k + 1 + (no - k)) oc3)).heap[ob]? = some (.cells #[.slice (some ⟨gv, 0, none⟩) 4 vc, .slice oa3 (k + 1 + (no - k)) oc3] 32 (0, 0))) := heap_setCell_same _ _ _ _ _ _ HXB.out
   have HP12 := Lib.hid (HPB.out.far ((below_set1 wB ob 1 (.slice oa3 (k + 1 + (no - k)) oc3)).mono (by omega)))
   have HOT12 : Hid (∀ j, j ≠ ob → (wB.setCell ⟨ob, 1, none⟩ (.slice oa3 (k + 1 + (no - k)) oc3)).heap[j]? = wB.heap[j]?) := fun j hj => heap_setCell_other _ _ _ _ hj
   have HZ12 : Hid ((wB.setCell ⟨ob, 1, none⟩ (.slice oa3 (k + 1 + (no - k)) oc3)).heap.size = wB.heap.size) := by show (World.setCell _ _ _).heap.size = _; simp [World.setCell]
   have HOw := Lib.hid (own_of_cells hr3 (Nat.le_refl _))
   have HC3 := Lib.hid hc3
   have HR1 := Lib.hid hrun1
   have HR2 := Lib.hid hrun2
   have HR3 := Lib.hid hrun3
   clear hrun1 hrun2 hrun3 hr2 hr2l hr3 hgr3 hBB hc3
   go_upto_region 12 with (at_builtin; refine wpListApp rfl _ _ _ rfl _ _ rfl rfl HR1.out ?_)
   go_upto_region 13 with (at_builtin; refine wpListApp rfl _ _ _ rfl _ _ rfl rfl HR2.out ?_)
   go_upto_region 14 with (at_builtin; refine wpListApp rfl _ _ _ rfl _ _ rfl rfl HR3.out ?_)
   generalize wB.setCell ⟨ob, 1, none⟩ (.slice oa3 (k + 1 + (no - k)) oc3) = w12 at HX12 HP12 HOT12 HZ12 ⊢
   clear q0 q1 qa0 qa1 qb0 qb1 o0 o1 o2 o3 o4 o5 o6 o7 x0 x1 xf0 xf1 HR1 HR2 HR3
   obtain ⟨x0, x1⟩ := pair_cells HX12.out
   obtain ⟨r0, r1⟩ := pair_cells HP12.out.res
   obtain ⟨g0, g1⟩ := pair_frozen HP12.out.res
   have HXf := Lib.hid (HP12.out.set2 (.slice (some ⟨gv, 0, none⟩) 4 vc) (.slice oa3 (k + 1 + (no - k)) oc3)).1
   have HBf := Lib.hid (HP12.out.bel.trans ((HP12.out.set2 (.slice (some ⟨gv, 0, none⟩) 4 vc) (.slice oa3 (k + 1 + (no - k)) oc3)).2.mono (by omega)))
   have HOTF : Hid (∀ j, j ≠ w.heap.size + 1 + 1 → ((w12.setCell ⟨w.heap.size + 1 + 1, 0, none⟩ (.slice (some ⟨gv, 0, none⟩) 4 vc)).setCell ⟨w.heap.size + 1 + 1, 1, none⟩ (.slice oa3 (k + 1 + (no - k)) oc3)).heap[j]? = w12.heap[j]?) := fun j hj => pair_other _ _ hj
   have HZF : Hid (((w12.setCell ⟨w.heap.size + 1 + 1, 0, none⟩ (.slice (some ⟨gv, 0, none⟩) 4 vc)).setCell ⟨w.heap.size + 1 + 1, 1, none⟩ (.slice oa3 (k + 1 + (no - k)) oc3)).heap.size = w12.heap.size) := pair_size _ _ _ _
   go_wp2
   change bodyPost _ _ _ _ _ ((w12.setCell ⟨w.heap.size + 1 + 1, 0, none⟩ (.slice (some ⟨gv, 0, none⟩) 4 vc)).setCell ⟨w.heap.size + 1 + 1, 1, none⟩ (.slice oa3 (k + 1 + (no - k)) oc3))
   generalize (w12.setCell ⟨w.heap.size + 1 + 1, 0, none⟩ (.slice (some ⟨gv, 0, none⟩) 4 vc)).setCell ⟨w.heap.size + 1 + 1, 1, none⟩ (.slice oa3 (k + 1 + (no - k)) oc3) = wf at HXf HBf HOTF HZF ⊢
   have hotf := HOTF.out
   have hzf := HZF.out
   have hot12 := HOT12.out
   have hz12 := HZ12.out
   obtain ⟨q0, q1⟩ := pair_cells HXf.out
   have hLn : (putL l d (nextOp xs l d o)).length = k + 1 + (no - k) := by have h1 := putL_len l d (nextOp xs l d o); have h2 := HLo.out; omega
   have hVn : (putV xs d).length = 4 := by rw [HPV.out, List.length_set, HLx.out]
   have hOv : Own wf w.heap.size wf.heap.size (some ⟨gv, 0, none⟩) 4 (putV xs d) := by
    refine ⟨hVn, fun _ => ⟨gv, _, rfl, by omega, by omega, ((hotf gv (by omega)).trans (hot12 gv (by omega))).trans HGB.out, fun i hi' => ?_⟩⟩
    rw [HPV.out, set_getD (by rw [HLx.out]; omega), Array.getElem?_setIfInBounds]
    have hcs := (Array.getElem?_eq_some_iff.1 (HCU.out i hi')).1
    by_cases e : d = i
    ·rw [if_pos e, if_pos e, if_pos (by omega)]
    ·rw [if_neg e, if_neg e, HCU.out i hi']
   have hOo : OwnOps wf w.heap.size wf.heap.size oa3 (k + 1 + (no - k)) (putL l d (nextOp xs l d o)) := by
    rw [HNX.out, HQd.out]
    exact (HOw.out.kept (w' := wf) fun j h1 h2 => (hotf j (by omega)).trans (hot12 j (by omega))).more (by omega) (by omega)
   exact bodyPost_ret (v := .tuple #[.agg #[.slice (some ⟨gv, 0, none⟩) 4 vc, .slice oa3 (k + 1 + (no - k)) oc3], .bool true]) (by simp [results, Tryz.results75, go_sem, q0, q1]) rfl ⟨_, vc, oa3, oc3, by rw [hLn, hVn], by rw [hVn]; exact hOv, by rw [hLn]; exact hOo, HBf.out, by rw [hVn]; exact HCA.out, by rw [hLn]; exact HC3.out⟩
  ·have hlt : decide ((k : Int) < (no : Int)) = false := decide_eq_false (by omega)
   go_upto_region 11 with fail
   clear hlt
   by_cases hck : k = co
   ·obtain rfl : k = co := hck
    obtain rfl : k = no := by omega
    have hw8 : w8.heap.size ≤ w8.heap.size := Nat.le_refl _
    have hb9 : Below w8.heap.size w8 (w8.alloc (.cells #[] 93)) := bl
    have hr9 : (w8.alloc (.cells #[] 93)).ownsRow w8.heap.size 93 8 (.slice (some ⟨w8.heap.size, 0, none⟩) 0 0) 0 (opCells []) := World.ownsRow_made w8 #[] 0 (Nat.le_refl _) (by unfold maxLen; omega) rfl
    obtain ⟨v1, w9, hrun1, hr1, hgr1⟩ := appOps _ w8.heap.size _ 0 [] hr9 B _ k k (l.take k) ((HO8.out.below hb9 (by omega)).take hpn) HCO.out.2.2 (by omega) hb9.size
    have hr1' : w9.ownsRow w8.heap.size 93 8 v1 k (opCells (l.take k)) := by simpa using hr1
    have hB9 : Below w8.heap.size w8 w9 := hb9.grown hgr1 hb9.size (fun j hj => (hr9.lt j hj).1)
    have hkc : (k : Int) ≤ (k : Int) := by have := HCO.out.1; omega
    obtain ⟨qa0, qa1⟩ := pair_cells (HP8.out.next hb9).fst
    clear hr1 hgr1 hr9
    have HP9 := Lib.hid (HP8.out.next hB9)
    have HX9 := Lib.hid ((hB9.block _ hx8).trans HX8.out)
    have HO9 := Lib.hid (HO8.out.below hB9 (by omega))
    have HB9 := Lib.hid hB9
    have hs9 := hB9.size
    clear hB9 hb9 q0 q1
    obtain ⟨o0, o1, o2, o3, o4, o5, o6, o7⟩ := op_cells (show w9.heap[w.heap.size + 1]? = some (.cells #[.int .i64 (d : Int), .int .i64 (x + 1), .int .i64 (S + 1), .int .i64 o.kind, .string o.item, .int .i64 o.qty, .int .i64 o.level, .int .i64 o.undos] 93 (0, 0)) from HP9.out.snd)
    have hbA : Below w9.heap.size w9 (w9.alloc (.cells #[.int .i64 (d : Int), .int .i64 (x + 1), .int .i64 (S + 1), .int .i64 o.kind, .string o.item, .int .i64 o.qty, .int .i64 o.level, .int .i64 o.undos] 93)) := bl
    have hOne := one_ops w9 ⟨(d : Int), x + 1, S + 1, o.kind, o.item, o.qty, o.level, o.undos⟩
    have hrA := hr1'.alloc (.cells #[.int .i64 (d : Int), .int .i64 (x + 1), .int .i64 (S + 1), .int .i64 o.kind, .string o.item, .int .i64 o.qty, .int .i64 o.level, .int .i64 o.undos] 93)
    obtain ⟨v2, wA, hrun2, hr2, hgr2⟩ := appOps _ w8.heap.size v1 k (l.take k) hrA (w9.heap.size + 1) (some ⟨w9.heap.size, 0, none⟩) 1 1 _ hOne (fun h => by cases h) (by omega) (Nat.le_trans hs9 hbA.size)
    have hBA : Below w8.heap.size w9 wA := (hbA.mono hs9).grown hgr2 (Nat.le_trans hs9 hbA.size) (fun j hj => (hrA.lt j hj).1)
    clear hgr2 hrA hOne hbA hr1'
    have HPA := Lib.hid (HP9.out.far (hBA.mono (by omega)))
    have HXA := Lib.hid ((hBA.block _ (by omega)).trans HX9.out)
    have HOA := Lib.hid (HO9.out.below hBA (by omega))
    have HBA := Lib.hid (HB9.out.trans hBA)
    have hsA := hBA.size
    clear hBA HP9 HX9 HO9 HB9
    obtain ⟨q0, q1⟩ := pair_cells HPA.out.fst
    obtain ⟨x0, x1⟩ := pair_cells HXA.out
    obtain ⟨xf0, xf1⟩ := pair_frozen HXA.out
    have hr2l := hr2
    have hnA : w8.heap.size ≤ wA.heap.size := Nat.le_trans hs9 hsA
    obtain ⟨v3, wB, hrun3, hr3, hgr3⟩ := appOps wA w8.heap.size v2 (k + 1) _ hr2 B ao 0 0 (l.drop k) (ops_empty (by rw [List.length_drop, HLo.out]; omega)) (fun _ => rfl) (by omega) hnA
    obtain ⟨oa3, oc3, rfl, hc3⟩ := row_formA hr3
    have hBB : Below w8.heap.size wA wB := (show Below w8.heap.size wA wA from Below.refl _ _).grown hgr3 hnA (fun j hj => (hr2l.lt j hj).1)
    have HPB := Lib.hid (HPA.out.far (hBB.mono (by omega)))
    have HXB := Lib.hid ((hBB.block _ hx8).trans HXA.out)
    have HBB := Lib.hid (HBA.out.trans hBB)
    have hsB := hBB.size
    obtain ⟨qb0, qb1⟩ := pair_cells HPA.out.fst
    obtain ⟨x0, x1⟩ := pair_cells HXB.out
    obtain ⟨xf0, xf1⟩ := pair_frozen HXB.out
    have HGB : Hid (wB.heap[gv]? = some (.cells (cur.setIfInBounds d (.int .i64 (x + 1))) 2 (0, 0))) := (HBB.out.block _ (by omega)).trans HG8.out
    have HX12 : Hid ((wB.setCell ⟨ob, 1, none⟩ (.slice oa3 (k + 1 + 0) oc3)).heap[ob]? = some (.cells #[.slice (some ⟨gv, 0, none⟩) 4 vc, .slice oa3 (k + 1 + 0) oc3] 32 (0, 0))) := heap_setCell_same _ _ _ _ _ _ HXB.out
    have HP12 := Lib.hid (HPB.out.far ((below_set1 wB ob 1 (.slice oa3 (k + 1 + 0) oc3)).mono (by omega)))
    have HOT12 : Hid (∀ j, j ≠ ob → (wB.setCell ⟨ob, 1, none⟩ (.slice oa3 (k + 1 + 0) oc3)).heap[j]? = wB.heap[j]?) := fun j hj => heap_setCell_other _ _ _ _ hj
    have HZ12 : Hid ((wB.setCell ⟨ob, 1, none⟩ (.slice oa3 (k + 1 + 0) oc3)).heap.size = wB.heap.size) := by show (World.setCell _ _ _).heap.size = _; simp [World.setCell]
    have HOw := Lib.hid (own_of_cells hr3 (Nat.le_refl _))
    have HC3 := Lib.hid hc3
    have HR1 := Lib.hid hrun1
    have HR2 := Lib.hid hrun2
    have HR3 := Lib.hid hrun3
    clear hrun1 hrun2 hrun3 hr2 hr2l hr3 hgr3 hBB hc3
    go_upto_region 12 with (at_builtin; refine wpListApp rfl _ _ _ rfl _ _ rfl rfl HR1.out ?_)
    go_upto_region 13 with (at_builtin; refine wpListApp rfl _ _ _ rfl _ _ rfl rfl HR2.out ?_)
    go_upto_region 14 with (at_builtin; refine wpListApp rfl _ _ _ rfl _ _ rfl rfl HR3.out ?_)
    generalize wB.setCell ⟨ob, 1, none⟩ (.slice oa3 (k + 1 + 0) oc3) = w12 at HX12 HP12 HOT12 HZ12 ⊢
    clear q0 q1 qa0 qa1 qb0 qb1 o0 o1 o2 o3 o4 o5 o6 o7 x0 x1 xf0 xf1 HR1 HR2 HR3
    obtain ⟨x0, x1⟩ := pair_cells HX12.out
    obtain ⟨r0, r1⟩ := pair_cells HP12.out.res
    obtain ⟨g0, g1⟩ := pair_frozen HP12.out.res
    have HXf := Lib.hid (HP12.out.set2 (.slice (some ⟨gv, 0, none⟩) 4 vc) (.slice oa3 (k + 1 + 0) oc3)).1
    have HBf := Lib.hid (HP12.out.bel.trans ((HP12.out.set2 (.slice (some ⟨gv, 0, none⟩) 4 vc) (.slice oa3 (k + 1 + 0) oc3)).2.mono (by omega)))
    have HOTF : Hid (∀ j, j ≠ w.heap.size + 1 + 1 → ((w12.setCell ⟨w.heap.size + 1 + 1, 0, none⟩ (.slice (some ⟨gv, 0, none⟩) 4 vc)).setCell ⟨w.heap.size + 1 + 1, 1, none⟩ (.slice oa3 (k + 1 + 0) oc3)).heap[j]? = w12.heap[j]?) := fun j hj => pair_other _ _ hj
    have HZF : Hid (((w12.setCell ⟨w.heap.size + 1 + 1, 0, none⟩ (.slice (some ⟨gv, 0, none⟩) 4 vc)).setCell ⟨w.heap.size + 1 + 1, 1, none⟩ (.slice oa3 (k + 1 + 0) oc3)).heap.size = w12.heap.size) := pair_size _ _ _ _
    go_wp2
    change bodyPost _ _ _ _ _ ((w12.setCell ⟨w.heap.size + 1 + 1, 0, none⟩ (.slice (some ⟨gv, 0, none⟩) 4 vc)).setCell ⟨w.heap.size + 1 + 1, 1, none⟩ (.slice oa3 (k + 1 + 0) oc3))
    generalize (w12.setCell ⟨w.heap.size + 1 + 1, 0, none⟩ (.slice (some ⟨gv, 0, none⟩) 4 vc)).setCell ⟨w.heap.size + 1 + 1, 1, none⟩ (.slice oa3 (k + 1 + 0) oc3) = wf at HXf HBf HOTF HZF ⊢
    have hotf := HOTF.out
    have hzf := HZF.out
    have hot12 := HOT12.out
    have hz12 := HZ12.out
    obtain ⟨q0, q1⟩ := pair_cells HXf.out
    have hLn : (putL l d (nextOp xs l d o)).length = k + 1 + 0 := by have h1 := putL_len l d (nextOp xs l d o); have h2 := HLo.out; omega
    have hVn : (putV xs d).length = 4 := by rw [HPV.out, List.length_set, HLx.out]
    have hOv : Own wf w.heap.size wf.heap.size (some ⟨gv, 0, none⟩) 4 (putV xs d) := by
     refine ⟨hVn, fun _ => ⟨gv, _, rfl, by omega, by omega, ((hotf gv (by omega)).trans (hot12 gv (by omega))).trans HGB.out, fun i hi' => ?_⟩⟩
     rw [HPV.out, set_getD (by rw [HLx.out]; omega), Array.getElem?_setIfInBounds]
     have hcs := (Array.getElem?_eq_some_iff.1 (HCU.out i hi')).1
     by_cases e : d = i
     ·rw [if_pos e, if_pos e, if_pos (by omega)]
     ·rw [if_neg e, if_neg e, HCU.out i hi']
    have hOo : OwnOps wf w.heap.size wf.heap.size oa3 (k + 1 + 0) (putL l d (nextOp xs l d o)) := by
     rw [HNX.out, HQd.out]
     exact (HOw.out.kept (w' := wf) fun j h1 h2 => (hotf j (by omega)).trans (hot12 j (by omega))).more (by omega) (by omega)
    exact bodyPost_ret (v := .tuple #[.agg #[.slice (some ⟨gv, 0, none⟩) 4 vc, .slice oa3 (k + 1 + 0) oc3], .bool true]) (by simp [results, Tryz.results75, go_sem, q0, q1]) rfl ⟨_, vc, oa3, oc3, by rw [hLn, hVn], by rw [hVn]; exact hOv, by rw [hLn]; exact hOo, HBf.out, by rw [hVn]; exact HCA.out, by rw [hLn]; exact HC3.out⟩
   ·have hcc : ¬ (co : Int) = (k : Int) := by omega
    have hw8 : w8.heap.size ≤ w8.heap.size := Nat.le_refl _
    have hb9 : Below w8.heap.size w8 (w8.alloc (.cells #[] 93)) := bl
    have hr9 : (w8.alloc (.cells #[] 93)).ownsRow w8.heap.size 93 8 (.slice (some ⟨w8.heap.size, 0, none⟩) 0 0) 0 (opCells []) := World.ownsRow_made w8 #[] 0 (Nat.le_refl _) (by unfold maxLen; omega) rfl
    obtain ⟨v1, w9, hrun1, hr1, hgr1⟩ := appOps _ w8.heap.size _ 0 [] hr9 B _ k co (l.take k) ((HO8.out.below hb9 (by omega)).take hpn) HCO.out.2.2 (by omega) hb9.size
    have hr1' : w9.ownsRow w8.heap.size 93 8 v1 k (opCells (l.take k)) := by simpa using hr1
    have hB9 : Below w8.heap.size w8 w9 := hb9.grown hgr1 hb9.size (fun j hj => (hr9.lt j hj).1)
    have hkc : (k : Int) ≤ (co : Int) := by have := HCO.out.1; omega
    obtain ⟨qa0, qa1⟩ := pair_cells (HP8.out.next hb9).fst
    clear hr1 hgr1 hr9
    have HP9 := Lib.hid (HP8.out.next hB9)
    have HX9 := Lib.hid ((hB9.block _ hx8).trans HX8.out)
    have HO9 := Lib.hid (HO8.out.below hB9 (by omega))
    have HB9 := Lib.hid hB9
    have hs9 := hB9.size
    clear hB9 hb9 q0 q1
    obtain ⟨o0, o1, o2, o3, o4, o5, o6, o7⟩ := op_cells (show w9.heap[w.heap.size + 1]? = some (.cells #[.int .i64 (d : Int), .int .i64 (x + 1), .int .i64 (S + 1), .int .i64 o.kind, .string o.item, .int .i64 o.qty, .int .i64 o.level, .int .i64 o.undos] 93 (0, 0)) from HP9.out.snd)
    have hbA : Below w9.heap.size w9 (w9.alloc (.cells #[.int .i64 (d : Int), .int .i64 (x + 1), .int .i64 (S + 1), .int .i64 o.kind, .string o.item, .int .i64 o.qty, .int .i64 o.level, .int .i64 o.undos] 93)) := bl
    have hOne := one_ops w9 ⟨(d : Int), x + 1, S + 1, o.kind, o.item, o.qty, o.level, o.undos⟩
    have hrA := hr1'.alloc (.cells #[.int .i64 (d : Int), .int .i64 (x + 1), .int .i64 (S + 1), .int .i64 o.kind, .string o.item, .int .i64 o.qty, .int .i64 o.level, .int .i64 o.undos] 93)
    obtain ⟨v2, wA, hrun2, hr2, hgr2⟩ := appOps _ w8.heap.size v1 k (l.take k) hrA (w9.heap.size + 1) (some ⟨w9.heap.size, 0, none⟩) 1 1 _ hOne (fun h => by cases h) (by omega) (Nat.le_trans hs9 hbA.size)
    have hBA : Below w8.heap.size w9 wA := (hbA.mono hs9).grown hgr2 (Nat.le_trans hs9 hbA.size) (fun j hj => (hrA.lt j hj).1)
    clear hgr2 hrA hOne hbA hr1'
    have HPA := Lib.hid (HP9.out.far (hBA.mono (by omega)))
    have HXA := Lib.hid ((hBA.block _ (by omega)).trans HX9.out)
    have HOA := Lib.hid (HO9.out.below hBA (by omega))
    have HBA := Lib.hid (HB9.out.trans hBA)
    have hsA := hBA.size
    clear hBA HP9 HX9 HO9 HB9
    obtain ⟨q0, q1⟩ := pair_cells HPA.out.fst
    obtain ⟨x0, x1⟩ := pair_cells HXA.out
    obtain ⟨xf0, xf1⟩ := pair_frozen HXA.out
    have hr2l := hr2
    have hnA : w8.heap.size ≤ wA.heap.size := Nat.le_trans hs9 hsA
    obtain ⟨v3, wB, hrun3, hr3, hgr3⟩ := appOps wA w8.heap.size v2 (k + 1) _ hr2 B (Option.map (fun x : Addr => x.add (k * 8)) (ao)) (no - k) (co - k) (l.drop k) (HOA.out.dropMap hpn) (fun h => by have := HCO.out.2.2 (by rcases ao with _ | _; rfl; cases h); omega) (by omega) hnA
    obtain ⟨oa3, oc3, rfl, hc3⟩ := row_formA hr3
    have hBB : Below w8.heap.size wA wB := (show Below w8.heap.size wA wA from Below.refl _ _).grown hgr3 hnA (fun j hj => (hr2l.lt j hj).1)
    have HPB := Lib.hid (HPA.out.far (hBB.mono (by omega)))
    have HXB := Lib.hid ((hBB.block _ hx8).trans HXA.out)
    have HBB := Lib.hid (HBA.out.trans hBB)
    have hsB := hBB.size
    obtain ⟨qb0, qb1⟩ := pair_cells HPA.out.fst
    obtain ⟨x0, x1⟩ := pair_cells HXB.out
    obtain ⟨xf0, xf1⟩ := pair_frozen HXB.out
    have HGB : Hid (wB.heap[gv]? = some (.cells (cur.setIfInBounds d (.int .i64 (x + 1))) 2 (0, 0))) := (HBB.out.block _ (by omega)).trans HG8.out
    have HX12 : Hid ((wB.setCell ⟨ob, 1, none⟩ (.slice oa3 (k + 1 + (no - k)) oc3)).heap[ob]? = some (.cells #[.slice (some ⟨gv, 0, none⟩) 4 vc, .slice oa3 (k + 1 + (no - k)) oc3] 32 (0, 0))) := heap_setCell_same _ _ _ _ _ _ HXB.out
    have HP12 := Lib.hid (HPB.out.far ((below_set1 wB ob 1 (.slice oa3 (k + 1 + (no - k)) oc3)).mono (by omega)))
    have HOT12 : Hid (∀ j, j ≠ ob → (wB.setCell ⟨ob, 1, none⟩ (.slice oa3 (k + 1 + (no - k)) oc3)).heap[j]? = wB.heap[j]?) := fun j hj => heap_setCell_other _ _ _ _ hj
    have HZ12 : Hid ((wB.setCell ⟨ob, 1, none⟩ (.slice oa3 (k + 1 + (no - k)) oc3)).heap.size = wB.heap.size) := by show (World.setCell _ _ _).heap.size = _; simp [World.setCell]
    have HOw := Lib.hid (own_of_cells hr3 (Nat.le_refl _))
    have HC3 := Lib.hid hc3
    have HR1 := Lib.hid hrun1
    have HR2 := Lib.hid hrun2
    have HR3 := Lib.hid hrun3
    clear hrun1 hrun2 hrun3 hr2 hr2l hr3 hgr3 hBB hc3
    go_upto_region 12 with (at_builtin; refine wpListApp rfl _ _ _ rfl _ _ rfl rfl HR1.out ?_)
    go_upto_region 13 with (at_builtin; refine wpListApp rfl _ _ _ rfl _ _ rfl rfl HR2.out ?_)
    go_upto_region 14 with (at_builtin; refine wpListApp rfl _ _ _ rfl _ _ rfl rfl HR3.out ?_)
    generalize wB.setCell ⟨ob, 1, none⟩ (.slice oa3 (k + 1 + (no - k)) oc3) = w12 at HX12 HP12 HOT12 HZ12 ⊢
    clear q0 q1 qa0 qa1 qb0 qb1 o0 o1 o2 o3 o4 o5 o6 o7 x0 x1 xf0 xf1 HR1 HR2 HR3
    obtain ⟨x0, x1⟩ := pair_cells HX12.out
    obtain ⟨r0, r1⟩ := pair_cells HP12.out.res
    obtain ⟨g0, g1⟩ := pair_frozen HP12.out.res
    have HXf := Lib.hid (HP12.out.set2 (.slice (some ⟨gv, 0, none⟩) 4 vc) (.slice oa3 (k + 1 + (no - k)) oc3)).1
    have HBf := Lib.hid (HP12.out.bel.trans ((HP12.out.set2 (.slice (some ⟨gv, 0, none⟩) 4 vc) (.slice oa3 (k + 1 + (no - k)) oc3)).2.mono (by omega)))
    have HOTF : Hid (∀ j, j ≠ w.heap.size + 1 + 1 → ((w12.setCell ⟨w.heap.size + 1 + 1, 0, none⟩ (.slice (some ⟨gv, 0, none⟩) 4 vc)).setCell ⟨w.heap.size + 1 + 1, 1, none⟩ (.slice oa3 (k + 1 + (no - k)) oc3)).heap[j]? = w12.heap[j]?) := fun j hj => pair_other _ _ hj
    have HZF : Hid (((w12.setCell ⟨w.heap.size + 1 + 1, 0, none⟩ (.slice (some ⟨gv, 0, none⟩) 4 vc)).setCell ⟨w.heap.size + 1 + 1, 1, none⟩ (.slice oa3 (k + 1 + (no - k)) oc3)).heap.size = w12.heap.size) := pair_size _ _ _ _
    go_wp2
    change bodyPost _ _ _ _ _ ((w12.setCell ⟨w.heap.size + 1 + 1, 0, none⟩ (.slice (some ⟨gv, 0, none⟩) 4 vc)).setCell ⟨w.heap.size + 1 + 1, 1, none⟩ (.slice oa3 (k + 1 + (no - k)) oc3))
    generalize (w12.setCell ⟨w.heap.size + 1 + 1, 0, none⟩ (.slice (some ⟨gv, 0, none⟩) 4 vc)).setCell ⟨w.heap.size + 1 + 1, 1, none⟩ (.slice oa3 (k + 1 + (no - k)) oc3) = wf at HXf HBf HOTF HZF ⊢
    have hotf := HOTF.out
    have hzf := HZF.out
    have hot12 := HOT12.out
    have hz12 := HZ12.out
    obtain ⟨q0, q1⟩ := pair_cells HXf.out
    have hLn : (putL l d (nextOp xs l d o)).length = k + 1 + (no - k) := by have h1 := putL_len l d (nextOp xs l d o); have h2 := HLo.out; omega
    have hVn : (putV xs d).length = 4 := by rw [HPV.out, List.length_set, HLx.out]
    have hOv : Own wf w.heap.size wf.heap.size (some ⟨gv, 0, none⟩) 4 (putV xs d) := by
     refine ⟨hVn, fun _ => ⟨gv, _, rfl, by omega, by omega, ((hotf gv (by omega)).trans (hot12 gv (by omega))).trans HGB.out, fun i hi' => ?_⟩⟩
     rw [HPV.out, set_getD (by rw [HLx.out]; omega), Array.getElem?_setIfInBounds]
     have hcs := (Array.getElem?_eq_some_iff.1 (HCU.out i hi')).1
     by_cases e : d = i
     ·rw [if_pos e, if_pos e, if_pos (by omega)]
     ·rw [if_neg e, if_neg e, HCU.out i hi']
    have hOo : OwnOps wf w.heap.size wf.heap.size oa3 (k + 1 + (no - k)) (putL l d (nextOp xs l d o)) := by
     rw [HNX.out, HQd.out]
     exact (HOw.out.kept (w' := wf) fun j h1 h2 => (hotf j (by omega)).trans (hot12 j (by omega))).more (by omega) (by omega)
    exact bodyPost_ret (v := .tuple #[.agg #[.slice (some ⟨gv, 0, none⟩) 4 vc, .slice oa3 (k + 1 + (no - k)) oc3], .bool true]) (by simp [results, Tryz.results75, go_sem, q0, q1]) rfl ⟨_, vc, oa3, oc3, by rw [hLn, hVn], by rw [hVn]; exact hOv, by rw [hLn]; exact hOo, HBf.out, by rw [hVn]; exact HCA.out, by rw [hLn]; exact HC3.out⟩

def lnRow (o : LnV) : List Value := [.string o.item, .int .i64 o.qty, .bool o.saved]
def lnCells : List LnV → List Value
 | [] => []
 | x :: l => lnRow x ++ lnCells l
theorem lnCells_len : ∀ l : List LnV, (lnCells l).length = l.length * 3
 | [] => rfl
 | x :: l => by
  show (lnRow x ++ lnCells l).length = _
  rw [List.length_append, lnCells_len l, List.length_cons]
  show 3 + _ = _
  omega
theorem lnCells_snoc (x : LnV) : ∀ l : List LnV, lnCells (l ++ [x]) = lnCells l ++ lnRow x
 | [] => by show lnRow x ++ [] = [] ++ lnRow x; rw [List.append_nil, List.nil_append]
 | y :: l => by
  show lnRow y ++ lnCells (l ++ [x]) = (lnRow y ++ lnCells l) ++ lnRow x
  rw [lnCells_snoc x l, List.append_assoc]
theorem lnCells_at : ∀ (l : List LnV) (i u : Nat), i < l.length → u < 3 → (lnCells l)[i * 3 + u]? = (lnRow (l.getD i LnV.zero))[u]?
 | x :: l, 0, u, _, hu => by
  show (lnRow x ++ lnCells l)[0 * 3 + u]? = (lnRow x)[u]?
  rw [Nat.zero_mul, Nat.zero_add, List.getElem?_append_left (by show u < 3; exact hu)]
 | x :: l, i + 1, u, hi, hu => by
  show (lnRow x ++ lnCells l)[(i + 1) * 3 + u]? = (lnRow (l.getD i LnV.zero))[u]?
  rw [List.getElem?_append_right (by show 3 ≤ _; omega)]
  have e : (i + 1) * 3 + u - (lnRow x).length = i * 3 + u := by show _ - 3 = _; omega
  rw [e]
  exact lnCells_at l i u (by simpa using hi) hu
theorem ownLns_of_cells {w : World} {base hi : Nat} {v : Value} {n : Nat} {l : List LnV} (h : w.ownsRow base 172 3 v n (lnCells l)) (hh : w.heap.size ≤ hi) : ∃ a c, v = .slice a n c ∧ OwnLns w base hi a n l := by
 have hl : l.length = n := by have := h.1; rw [lnCells_len] at this; omega
 rcases h.2 with ⟨e, e2⟩ | ⟨g, c, cur, e, hb, hg, hnc, _, hs, ht⟩
 ·have hn0 : n = 0 := by simpa using e2
  subst hn0
  exact ⟨none, 0, e, hl, fun h => absurd h (by omega)⟩
 ·have key : ∀ i u, i < n → u < 3 → cur[0 + i * 3 + u]? = (lnRow (l.getD i LnV.zero))[u]? := fun i u hi' hu => by
   have h2 : (cur.toList.take (n * 3))[i * 3 + u]? = (lnCells l)[i * 3 + u]? := by rw [ht]
   rw [List.getElem?_take_of_lt (by omega), lnCells_at l i u (by omega) hu] at h2
   rw [Nat.zero_add, ← Array.getElem?_toList, h2]
  refine ⟨_, c, e, hl, fun hn => ⟨g, 0, cur, rfl, hb, Nat.lt_of_lt_of_le (Array.getElem?_eq_some_iff.1 hg).1 hh, hg, by rw [hs]; omega, fun i hi' => ?_⟩⟩
  exact ⟨key i 0 hi' (by omega), key i 1 hi' (by omega), key i 2 hi' (by omega)⟩
theorem Tryz.zeroLn : (Tryz.prog.info? 172).map (fun i => (i.zero, i.size, i.bytes)) = some (some (.agg #[.string ⟨#[]⟩, .int .i64 0, .bool false]), 3, 32) := by kernel_rfl
/-- append of one element that a literal has made. -/
theorem appLn (w : World) (base : Nat) (v : Value) (n : Nat) (l : List LnV) (hown : w.ownsRow base 172 3 v n (lnCells l)) (o : LnV) (hn : n + 1 ≤ 4194304) (hbase : base ≤ w.heap.size) :
  ∃ v' w', (Builtin.append_ #[169, 169] 169 #[v, .slice (some ⟨w.heap.size, 0, none⟩) 1 1]).run Tryz.prog (w.alloc (.cells #[.string o.item, .int .i64 o.qty, .bool o.saved] 172)) = .ok v' w' ∧ w'.ownsRow base 172 3 v' (n + 1) (lnCells (l ++ [o])) ∧ Below base w w' ∧ (w.alloc (.cells #[.string o.item, .int .i64 o.qty, .bool o.saved] 172)).grownBy w' v.ownBlock := by
 obtain ⟨i0, hi, hz0, hz1, hz2⟩ := info_parts Tryz.zeroLn
 have hb0 : Below base w (w.alloc (.cells #[.string o.item, .int .i64 o.qty, .bool o.saved] 172)) := (Below.refl _ _).alloc hbase _
 have hA := hown.alloc (.cells #[.string o.item, .int .i64 o.qty, .bool o.saved] 172)
 have hcells : ∀ j u, (lnRow o)[j]? = some u → (w.alloc (.cells #[.string o.item, .int .i64 o.qty, .bool o.saved] 172)).cell? ((⟨w.heap.size, 0, none⟩ : Addr).add j) = some u := by
  intro j u hu
  have hj : j < 3 := by
   rcases Nat.lt_or_ge j 3 with g | g
   ·exact g
   ·rw [List.getElem?_eq_none (by show 3 ≤ j; exact g)] at hu; cases hu
  rw [add_at, cell_of_row _ _ _ _ _ _ (heap_alloc_new w _), Nat.zero_add]
  rw [← hu]
  match j, hj with
  | 0, _ => rfl
  | 1, _ => rfl
  | 2, _ => rfl
 obtain ⟨v', w', h1, h2, h3, _⟩ := run_append_own (P := Tryz.prog) _ base 169 169 172 i0 (.agg #[.string ⟨#[]⟩, .int .i64 0, .bool false]) 3 32 Tryz.underlying169 hi hz0 hz1 hz2 rfl (by decide) v n _ hA ⟨w.heap.size, 0, none⟩ 1 1 (lnRow o) rfl hcells (by intro u hu; simp only [lnRow, List.mem_cons, List.not_mem_nil, or_false] at hu; rcases hu with rfl | rfl | rfl <;> rfl) (by unfold maxLen; omega) (by omega) (Nat.le_trans hbase hb0.size)
 exact ⟨v', w', h1, by rw [lnCells_snoc]; exact h2, hb0.grown h3 (Nat.le_trans hbase hb0.size) (fun j hj => (hA.lt j hj).1), h3⟩
theorem ownLn_none (w : World) (base : Nat) : w.ownsRow base 172 3 (.slice none 0 0) 0 (lnCells []) := ⟨rfl, .inl ⟨rfl, rfl⟩⟩
end Go.Proofs.YtjokbaaommicmaaGreatDoor
