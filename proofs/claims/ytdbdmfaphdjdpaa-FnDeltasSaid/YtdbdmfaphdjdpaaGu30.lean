/- Walks and mathematics that several claims share, part 30. -/
import Derived.Test.YtdbdmfaphdjdpaaGu28
import Derived.Test.YtdbdmfaphdjdpaaGu23
import Derived.Test.YtdbdmfaphdjdpaaGu20
import Derived.Test.YtdbdmfaphdjdpaaGu25
import Derived.Deep.Cut
import Derived.Test.YtdbdmfaphdjdpaaGuA
namespace Go.Proofs.Ytdbdmfaphdjdpaa
set_option maxRecDepth 100000
open Go.RowKit
set_option linter.unusedVariables false
set_option linter.unusedSimpArgs false

theorem run_append_noneU {P : Program} {w : World} (base : Nat) (t ty e : TypeId) (i : TypeInfo) (size : Nat) (ht : P.underlying t = some (.slice e)) (hi : P.info? e = some i) (v : Value) (n c : Nat) (xs : List Value) (hown : w.ownsRow base e size v n xs) :
  (Builtin.append_ #[t, t] ty #[v, .slice none 0 c]).run P w = .ok v w := by
 rcases hown.2 with ⟨rfl, rfl⟩ | ⟨g, cap, cur, rfl, _, _, hnc, _⟩
 ·simp [Builtin.append_, run_underlying ht, sizeOf, typeInfo, hi, Builtin.lenOf, Builtin.firstCells]
 ·simp [Builtin.append_, run_underlying ht, sizeOf, typeInfo, hi, Builtin.lenOf, Builtin.firstCells, hnc, storeCells]
theorem appOpsU (w : World) (base : Nat) (v : Value) (n : Nat) (l : List OpV) (hown : w.ownsRow base 77 8 v n (opCells l)) (B : Nat) (a : Option Addr) (m c : Nat) (k : List OpV) (h : Ops w B a m k) (hn : n + m ≤ 4194304) (hbase : base ≤ w.heap.size) :
  ∃ v' w', (Builtin.append_ #[27, 27] 27 #[v, .slice a m c]).run Try.prog w = .ok v' w' ∧ w'.ownsRow base 77 8 v' (n + m) (opCells (l ++ k)) ∧ w.grownBy w' v.ownBlock := by
 rcases a with _ | x
 ·have hm : m = 0 := by
   rcases Nat.eq_zero_or_pos m with g | g
   ·exact g
   ·obtain ⟨_, _, e, _⟩ := h.2 0 g; cases e
  subst hm
  have hl : k.length = 0 := h.1
  have : k = [] := List.eq_nil_of_length_eq_zero hl
  subst this
  obtain ⟨i0, hi, hz0, hz1, hz2⟩ := info_parts Try.infoOp
  exact ⟨v, w, run_append_noneU (P := Try.prog) base 27 27 77 i0 8 Try.underlying27 hi v n c _ hown, by rw [List.append_nil]; exact hown, World.grownBy.refl _ _⟩
 ·exact appOps w base v n l hown B (some x) m c k h (fun e => by cases e) hn hbase
theorem row_off {w : World} {base n : Nat} {b off c : Nat} {xs : List Value} (h : w.ownsRow base 77 8 (.slice (some ⟨b, off, none⟩) n c) n xs) (hn : 0 < n) : off = 0 := by
 rcases h.2 with ⟨e, _⟩ | ⟨g, cap, cur, e, _⟩
 ·omega
 ·injection e with e1
  injection e1 with e1
  injection e1
theorem run_append_zero {P : Program} {w : World} (base : Nat) (t ty e : TypeId) (i : TypeInfo) (size : Nat) (ht : P.underlying t = some (.slice e)) (hi : P.info? e = some i) (v : Value) (n c : Nat) (a : Option Addr) (xs : List Value) (hown : w.ownsRow base e size v n xs) :
  (Builtin.append_ #[t, t] ty #[v, .slice a 0 c]).run P w = .ok v w := by
 cases a with
 | none => exact run_append_noneU base t ty e i size ht hi v n c xs hown
 | some a =>
  rcases hown.2 with ⟨rfl, rfl⟩ | ⟨g, cap, cur, rfl, _, _, hnc, _⟩
  ·simp [Builtin.append_, run_underlying ht, sizeOf, typeInfo, hi, Builtin.lenOf, Builtin.firstCells, loadCells, loadCellsFrom]
  ·simp [Builtin.append_, run_underlying ht, sizeOf, typeInfo, hi, Builtin.lenOf, Builtin.firstCells, hnc, storeCells, loadCells, loadCellsFrom]
/-- The row that an append hands back does not lie in the block of a box that holds what comes behind all its elements. -/
theorem row_apart {w w' : World} {base ob n q c : Nat} {v v' : Value} {a : Option Addr} {L K : List OpV} {x : OpV} (hrun : (Builtin.append_ #[27, 27] 27 #[v, .slice a q c]).run Try.prog w = .ok v' w') (hown' : w'.ownsRow base 77 8 v' L.length (opCells L)) (hown : w.ownsRow base 77 8 v n (opCells K)) (hlt : ∀ j, v.ownBlock = some j → j < ob) (hq : n + q ≤ L.length) (hx : w'.heap[ob]? = some (.cells #[.int .i64 x.dev, .int .i64 x.seq, .int .i64 x.stamp, .int .i64 x.kind, .string x.item, .int .i64 x.qty, .int .i64 x.level, .int .i64 x.undos] 77 (0, 0))) (hL : ∀ y, y ∈ L → ltO y x) : ∀ j, v'.ownBlock = some j → j ≠ ob := by
 intro j hj e
 subst e
 rcases Nat.eq_zero_or_pos L.length with h0 | h0
 ·obtain rfl : q = 0 := by omega
  obtain ⟨i0, hi, hz0, hz1, hz2⟩ := info_parts Try.infoOp
  rw [run_append_zero (P := Try.prog) base 27 27 77 i0 8 Try.underlying27 hi v n c a _ hown] at hrun
  injection hrun with e1 e2
  subst e1
  have := hlt j hj
  omega
 ·obtain ⟨va, vc, rfl, _⟩ := row_formA hown'
  obtain ⟨g, off, e1, _, ho⟩ := (own_of_cells hown' (Nat.le_refl _)).ops.2 0 h0
  subst e1
  have hg : g = j := by simpa [Value.ownBlock] using hj
  subst hg
  have hoff : off = 0 := row_off hown' h0
  subst hoff
  have hm : L.getD 0 OpV.zero ∈ L := by rw [List.getD_eq_getElem?_getD, List.getElem?_eq_getElem h0]; exact List.getElem_mem h0
  have hl := hL _ hm
  obtain ⟨d0, d1, _⟩ := ho
  obtain ⟨e0, e1, _⟩ := op_cells hx
  simp only [Nat.zero_mul, Nat.add_zero, Nat.zero_add] at d0 d1
  rw [e0] at d0
  rw [e1] at d1
  unfold ltO at hl
  have h1 : x.dev = (L.getD 0 OpV.zero).dev := by simpa using d0
  have h2 : x.seq = (L.getD 0 OpV.zero).seq := by simpa using d1
  rw [← h1, ← h2] at hl
  exact num_irr hl
theorem row_setOp {w : World} {base b n : Nat} {v : Value} {xs : List Value} (h : w.ownsRow base 77 8 v n xs) (hb : ∀ g, v.ownBlock = some g → g ≠ b) (v0 v1 v2 v3 v4 v5 v6 v7 : Value) : (setOp w b v0 v1 v2 v3 v4 v5 v6 v7).ownsRow base 77 8 v n xs :=
 row_put (row_put (row_put (row_put (row_put (row_put (row_put (row_put h hb) hb) hb) hb) hb) hb) hb) hb
theorem row_addr {w : World} {base size n c : Nat} {e : TypeId} {a : Option Addr} {xs : List Value} (h : w.ownsRow base e size (.slice a n c) n xs) : ∀ x, a = some x → ∃ g o, x = ⟨g, o, none⟩ := fun x hx => by
 rcases h.2 with ⟨e1, _⟩ | ⟨g, cap, cur, e1, _⟩
 ·injection e1 with e2
  rw [hx] at e2
  cases e2
 ·injection e1 with e2
  rw [hx] at e2
  injection e2 with e3
  exact ⟨g, 0, e3⟩
def UniPost (l m : List OpV) (w : World) (e : Ending) (w' : World) : Prop :=
 (∃ U a c, unionO l m = some U ∧ e = .returned (.tuple #[.agg #[.slice a U.length c, .func (.func 105) #[] #[]], .bool true]) ∧ Caps a U.length c ∧ (∀ x, a = some x → ∃ g o, x = ⟨g, o, none⟩) ∧ OwnOps w' w.heap.size w'.heap.size a U.length U ∧ Below w.heap.size w w') ∨ (unionO l m = none ∧ e = .returned (.tuple #[.agg #[.slice none 0 0, .nilFunc], .bool false]) ∧ Below w.heap.size w w')
set_option maxHeartbeats 80000000 in
theorem implUnion (w : World) (B : Nat) (ao bo : Option Addr) (no co mo eo : Nat) (l m : List OpV) (h : Ops w B ao no l) (g : Ops w B bo mo m) (hB : B ≤ w.heap.size) (hn : no ≤ 1048576) (hn2 : mo ≤ 1048576) (he : mo ≤ eo) (hl : incB l = true) (hm : incB m = true) :
  Calls Try.prog 50 #[.agg #[.slice ao no co, .func (.func 105) #[] #[]], .agg #[.slice bo mo eo, .func (.func 105) #[] #[]], .func (.func 51) #[] #[]] w (UniPost l m w) := by
 obtain ⟨i0, hi, hz0, hz1, hz2⟩ := info_parts Try.infoOp
 have hT := TriF.mk0 w #[.slice ao no co, .func (.func 105) #[] #[]] #[.slice bo mo eo, .func (.func 105) #[] #[]] #[.slice none 0 0, .nilFunc] 72 72 72
 have HO := Lib.hid (h.below hT.bel hB)
 have HG := Lib.hid (g.below hT.bel hB)
 have HT := Lib.hid hT
 have HL := Lib.hid h.1
 have HLm := Lib.hid g.1
 have HIl := Lib.hid hl
 have HIm := Lib.hid hm
 have hBw := hB
 clear h g hT hB hl hm
 go_enter Try.func50, Try.ntmps50
 go_upto_region 1 with fail
 generalize ((w.alloc (.cells #[.slice ao no co, .func (.func 105) #[] #[]] 72)).alloc (.cells #[.slice bo mo eo, .func (.func 105) #[] #[]] 72)).alloc (.cells #[.slice none 0 0, .nilFunc] 72) = w0 at HO HG HT ⊢
 have hsz0 := HT.out.bel.size
 have hsz1 := lt_of_row HT.out.res
 obtain ⟨w1, hmk, hown0, hgr0⟩ := run_make_own (P := Try.prog) w0 w0.heap.size 27 77 i0 (.agg #[.int .i64 0, .int .i64 0, .int .i64 0, .int .i64 0, .string ⟨#[]⟩, .int .i64 0, .int .i64 0, .int .i64 0]) 8 Try.underlying27 hi hz0 hz1 .i64 .i64 (no + mo) (by rw [hz2]; omega) (by unfold maxLen; omega) (Nat.le_refl _)
 rw [Int.natCast_add] at hmk
 have hwr : IntKind.i64.wrap ((no : Int) + (mo : Int)) = (no : Int) + (mo : Int) := IntWalk.i64_in _ (by omega)
 obtain ⟨c0, c1⟩ := pair_cells HT.out.fst
 obtain ⟨b0, b1⟩ := pair_cells HT.out.snd
 go_upto_region 2 with fail
 have hb1 : Below w0.heap.size w0 w1 := ⟨hgr0.os, hgr0.tape, hgr0.output, hgr0.size, fun j hj => hgr0.block j hj (by simp)⟩
 clear hmk hgr0 c0 c1 b0 b1
 have HO1 := Lib.hid (HO.out.below hb1 (by omega))
 have HG1 := Lib.hid (HG.out.below hb1 (by omega))
 have HT1 := Lib.hid (HT.out.next hb1)
 have HR1 := Lib.hid hown0
 have hs1 := hb1.size
 clear hb1 HO HG HT hown0 hsz0
 generalize w0.heap.size = base at hs1 hsz1 HR1 ⊢
 obtain ⟨c0, c1⟩ := pair_cells HT1.out.fst
 obtain ⟨b0, b1⟩ := pair_cells HT1.out.snd
 go_wp2
 clear c0 c1 b0 b1
 have HU0 : Hid (uniTo l m 0 = some ([], m)) := rfl
 go_loopw [8, 9, 29] (fun v r i wr => ∃ (k : Nat) (vv : Value) (A R : List OpV) (ra : Option Addr) (rc : Nat), k ≤ no ∧ vv = v ∧ r = .slice ra R.length rc ∧ i = .int .i64 (k : Int) ∧ R.length ≤ rc ∧ Hid (uniTo l m k = some (A, R)) ∧ Hid (Ops w1 B ra R.length R) ∧ Hid (wr.ownsRow base 77 8 v A.length (opCells A)) ∧ Hid (Below base w1 wr)) (fun _ _ i _ => no - (intOf i).toNat)
 case atStart => exact ⟨0, _, [], m, bo, eo, Nat.zero_le _, rfl, by rw [HLm.out], rfl, by rw [HLm.out]; exact he, HU0, by show Ops _ _ _ _ _; rw [HLm.out]; exact HG1.out, HR1.out, Below.refl _ _⟩
 case round =>
  obtain ⟨k, vv, A, R, ra, rc, hk, hvv, rfl, rfl, hrc, HU, HRs, HR, HBr⟩ := hrel
  subst hvv
  clear HU0 HR1 HG1
  have hsr := HBr.out.size
  have hll : l.length = no := HL.out
  have hAR := uni_long k A R HU.out
  have hlm : m.length = mo := HLm.out
  rw [hlm] at hAR
  clear hll hlm
  have HTr := Lib.hid (HT1.out.low HBr.out (by omega))
  by_cases hlt : k < no
  rotate_left

  ·obtain rfl : no = k := by omega
   have hki : ¬ ((no : Int) < (no : Int)) := by omega
   have HUe : Hid (unionO l m = some (A ++ R)) := by
    have hu := HU.out
    rw [← HL.out] at hu
    exact union_end hu
   obtain ⟨U, hUe⟩ : ∃ U, A ++ R = U := ⟨_, rfl⟩
   have hUl : A.length + R.length = U.length := by rw [← hUe, List.length_append]
   rw [hUe] at HUe
   go_upto_region 17 with fail
   obtain ⟨z0, hz0e⟩ : ∃ z0, wr.drew = z0 := ⟨_, rfl⟩
   have hbz : Below base w1 z0 := by rw [← hz0e]; exact HBr.out.drew
   have HRz : z0.ownsRow base 77 8 vv A.length (opCells A) := by rw [← hz0e]; exact HR.out
   have HTz : TriF w z0 #[.slice ao no co, .func (.func 105) #[] #[]] #[.slice bo mo eo, .func (.func 105) #[] #[]] #[.slice none 0 0, .nilFunc] 72 72 72 := by rw [← hz0e]; exact ⟨HTr.out.fst, HTr.out.snd, HTr.out.res, HTr.out.bel.drew⟩
   have HOz := HRs.out.below hbz (by omega)
   obtain ⟨v', z2, hrun, hown2, hgr⟩ := appOpsU z0 base vv A.length A HRz B ra R.length rc R HOz (by omega) (by have := hbz.size; omega)
   rw [hUe, hUl] at hown2
   obtain ⟨va, vc, rfl, hcp⟩ := row_formA hown2
   have hbz2 : Below base z0 z2 := (Below.refl base z0).grown hgr (by have := hbz.size; omega) (fun j hj => (HRz.lt j hj).1)
   have HT2 := Lib.hid (HTz.low hbz2 (by omega))
   have HP2 := Lib.hid (own_of_cells hown2 (Nat.le_refl _))
   have HAd := Lib.hid (row_addr hown2)
   have hS : z0.cell? ⟨w.heap.size, 1, none⟩ = some (.func (.func 105) #[] #[]) := (pair_cells HTz.fst).2
   have hS2 : z2.cell? ⟨w.heap.size, 1, none⟩ = some (.func (.func 105) #[] #[]) := (pair_cells HT2.out.fst).2
   have hrl := lt_of_row HTz.res
   have hz2l : w.heap.size + 1 + 1 < z2.heap.size := lt_of_row HT2.out.res
   have hS3 : ((z2.setCell ⟨w.heap.size + 1 + 1, 0, none⟩ (.slice va U.length vc)).setCell ⟨w.heap.size + 1 + 1, 1, none⟩ (.func (.func 105) #[] #[])).cell? ⟨w.heap.size, 1, none⟩ = some (.func (.func 105) #[] #[]) := (cell_of_block (pair_other _ _ (by omega))).trans hS2
   obtain ⟨r0, r1⟩ := pair_cells HT2.out.res
   obtain ⟨fz0, fz1⟩ := pair_frozen HT2.out.res
   go_wp2_with fail
   refine wp_region_held_drew (S := fun w' => w'.cell? ⟨w.heap.size, 1, none⟩ = some (.func (.func 105) #[] #[])) (by kernel_rfl) (by rw [hz0e]; exact hS) (fun hHeld => ?_)
   rw [hz0e]
   clear hHeld
   refine tk 0 ⟨some 70, .move (.tmp 8), 27, "l07_deltas.go:52", #[], none⟩ ?_
   (try simp only [Act.put, u1, u2, u3])
   refine tk 1 ⟨some 71, .move (.tmp 9), 27, "l07_deltas.go:52", #[], none⟩ ?_
   (try simp only [Act.put, u1, u2, u3])
   refine tk 3 ⟨some 73, .fieldAddr 72 (.tmp 3) 1, 0, "l07_deltas.go:52", #[], none⟩ ?_
   (try simp only [Act.put, u1, u2, u3])
   refine tk 4 ⟨some 74, .load 70 (.tmp 73), 70, "l07_deltas.go:52", #[⟨3, .data⟩], none⟩ ?_
   (try simp only [Act.put, u1, u2, u3])
   refine rk 2 rfl (fun K hK => ?_)
   rw [if_pos (by rfl)]
   refine opwpApp _ _ _ rfl _ _ rfl rfl hrun ?_
   refine hK.out _ _ hS2 (fun hHeld8 => ?_)
   clear hK K
   (try simp only [Act.put, u1, u2, u3])
   refine tk 5 ⟨some 75, .build 72 #[(0, .tmp 72), (1, .tmp 74)], 72, "l07_deltas.go:52", #[⟨2, .data⟩, ⟨4, .data⟩], none⟩ ?_
   (try simp only [Act.put, u1, u2, u3])
   refine rk 6 rfl (fun K hK => ?_)
   go_simp
   refine hK.out _ _ hS3 (fun hHeld9 => ?_)
   clear hK K
   (try simp only [Act.put, u1, u2, u3])
   refine tk 7 ⟨some 7, .assign (.const (Value.bool true)), 4, "l07_deltas.go:52", #[⟨6, .chain⟩, ⟨0, .phase⟩, ⟨1, .phase⟩, ⟨2, .phase⟩, ⟨3, .phase⟩, ⟨4, .phase⟩, ⟨5, .phase⟩, ⟨6, .phase⟩], none⟩ ?_
   (try simp only [Act.put, u1, u2, u3])
   refine wpAnyH_done (by kernel_rfl) ?_ _
   have HXr := Lib.hid (HT2.out.set2S (.slice va U.length vc) (.func (.func 105) #[] #[])).1
   have HBr2 := Lib.hid (HT2.out.set2S (.slice va U.length vc) (.func (.func 105) #[] #[])).2
   have hsz : ((z2.setCell ⟨w.heap.size + 1 + 1, 0, none⟩ (.slice va U.length vc)).setCell ⟨w.heap.size + 1 + 1, 1, none⟩ (.func (.func 105) #[] #[])).heap.size = z2.heap.size := pair_size _ _ _ _
   have HP3 : Hid (OwnOps ((z2.setCell ⟨w.heap.size + 1 + 1, 0, none⟩ (.slice va U.length vc)).setCell ⟨w.heap.size + 1 + 1, 1, none⟩ (.func (.func 105) #[] #[])) base z2.heap.size va U.length U) := HP2.out.kept fun j h1 h2 => pair_other _ _ (by omega)
   have HCp := Lib.hid hcp
   clear r0 r1 fz0 fz1 hS hS2 hS3 hrun hown2 hgr hcp
   generalize (z2.setCell ⟨w.heap.size + 1 + 1, 0, none⟩ (.slice va U.length vc)).setCell ⟨w.heap.size + 1 + 1, 1, none⟩ (.func (.func 105) #[] #[]) = wf at HXr HBr2 HP3 hsz ⊢
   obtain ⟨q0, q1⟩ := pair_cells HXr.out
   go_wp2
   exact bodyPost_ret (v := .tuple #[.agg #[.slice va U.length vc, .func (.func 105) #[] #[]], .bool true]) (by simp [results, Try.results50, go_sem, q0, q1]) rfl (.inl ⟨U, va, vc, HUe.out, rfl, HCp.out, HAd.out, HP3.out.more (by omega) (by omega), HBr2.out⟩)
  have hki : (k : Int) < (no : Int) := by omega
  have hRl : R.length ≤ mo := by
   obtain ⟨j, _, e, _⟩ := (uni_some HIl.out HIm.out k (by rw [HL.out]; omega) A R HU.out).suf
   rw [e, List.length_drop, HLm.out]
   omega
  have HLow := Lib.hid ((uni_some HIl.out HIm.out k (by rw [HL.out]; omega) A R HU.out).low)
  have HIr := Lib.hid (uni_inc HIl.out HIm.out (by rw [HL.out]; omega) HU.out)
  have HU1 := Lib.hid (uni_step HU.out)
  have HLx : Hid (∀ y, y ∈ A → ltO y (atOp l k)) := fun y hy => HLow.out y hy k (Nat.le_refl _) (by rw [HL.out]; exact hlt)
  clear HLow
  have HSt : Hid (uniTo l m (k + 1) = none → unionO l m = none) := fun h => union_stop (by rw [HL.out]; omega) h
  obtain ⟨b, off, hao, hb, ho⟩ := (HO1.out.below HBr.out (by omega)).2 k hlt
  have HOk : Hid (OpAt wr b (off + k * 8) (atOp l k)) := ho
  clear ho
  generalize atOp l k = x at HOk HU1 HLx
  subst hao
  obtain ⟨d0, d1, d2, d3, d4, d5, d6, d7⟩ := HOk.out
  go_upto_region 6 with fail
  have hb5 : Below wr.heap.size wr (wr.alloc (.cells #[.int .i64 x.dev, .int .i64 x.seq, .int .i64 x.stamp, .int .i64 x.kind, .string x.item, .int .i64 x.qty, .int .i64 x.level, .int .i64 x.undos] 77)) := bl
  have HXo := Lib.hid (boxAt (Below.refl _ (wr.alloc (.cells #[.int .i64 x.dev, .int .i64 x.seq, .int .i64 x.stamp, .int .i64 x.kind, .string x.item, .int .i64 x.qty, .int .i64 x.level, .int .i64 x.undos] 77))))
  have HR5 := Lib.hid (own_row_kept HR.out hb5)
  have HLt : Hid (∀ j, vv.ownBlock = some j → j < wr.heap.size) := fun j hj => (HR.out.lt j hj).2
  have HT5 := Lib.hid (HTr.out.low hb5 (lt_of_row HTr.out.res))
  have HB5 := Lib.hid (HBr.out.trans (hb5.mono (by omega)))
  have hs5 := hb5.size
  generalize wr.alloc (.cells #[.int .i64 x.dev, .int .i64 x.seq, .int .i64 x.stamp, .int .i64 x.kind, .string x.item, .int .i64 x.qty, .int .i64 x.level, .int .i64 x.undos] 77) = w5 at hb5 HXo HR5 HT5 HB5 hs5 ⊢
  have hol := lt_of_row HXo.out
  have hbo : base ≤ wr.heap.size := by omega
  generalize wr.heap.size = ob at HXo hs5 HLt hol hbo ⊢
  clear hb5 HR HTr HOk HBr hsr d0 d1 d2 d3 d4 d5 d6 d7
  obtain ⟨d0, d1, d2, d3, d4, d5, d6, d7⟩ := op_cells HXo.out
  obtain ⟨c0, c1⟩ := pair_cells HT5.out.fst
  go_wp2_with fail
  refine (binSearchP w5 B ra R.length rc R x (HRs.out.below HB5.out (by omega)) (by omega) (by omega) HIr.out).mono ?_
  rintro e w6 ⟨⟨i, bf, rfl, hfo⟩, hb6⟩
  obtain ⟨rfl, hbf⟩ := hfo
  have HR6 := Lib.hid (own_row_kept HR5.out hb6)
  have HXo6 := Lib.hid ((hb6.block _ hol).trans HXo.out)
  have HT6 := Lib.hid (HT5.out.low hb6 (lt_of_row HT5.out.res))
  have HB6 := Lib.hid (HB5.out.trans (hb6.mono (by omega)))
  have hs6 := hb6.size
  have hpl := plc_le x R
  clear hb6 HR5 HXo HT5 HB5 c0 c1 d0 d1 d2 d3 d4 d5 d6 d7
  obtain ⟨v7, w7, hrun, hown7, hgr7⟩ := appOpsU w6 base vv A.length A HR6.out B ra (plc x R) rc (R.take (plc x R)) ((HRs.out.below HB6.out (by omega)).take hpl) (by omega) (by omega)
  have HUn := Lib.hid (fun h => uniS_no (e := x) (A := A) (R := R) h)
  have HUy := Lib.hid (fun h hs => uniS_yes (e := x) (A := A) (R := R) h hs)
  have HUb := Lib.hid (fun h hs => uniS_bad (e := x) (A := A) (R := R) h hs)
  obtain ⟨q, hq⟩ : ∃ q, plc x R = q := ⟨_, rfl⟩
  have HPq := Lib.hid hq
  rw [hq] at hrun hown7 HUn HUy HUb hpl hbf ⊢
  have HBf := Lib.hid hbf
  clear hbf
  have HDr := Lib.hid (HRs.out.dropMap (c := q) hpl)
  have hqr : (q : Int) ≤ (rc : Int) := by omega
  have hqR : (q : Int) ≤ (R.length : Int) := by omega
  have hq0 : ¬ ((q : Int) < 0) := by omega
  have hqrn : q ≤ rc := by omega
  have hAp : (A ++ R.take q).length = A.length + q := by rw [List.length_append, List.length_take]; omega
  rw [← hAp] at hown7
  have hApl : (A ++ R.take q).length ≤ 4194304 - 1 := by omega
  clear hq
  go_upto_region 8 with (at_builtin; refine wpListApp rfl _ _ _ rfl _ _ rfl rfl hrun ?_)
  have hb7 : Below base w6 w7 := (Below.refl base w6).grown hgr7 (by omega) (fun j hj => (HR6.out.lt j hj).1)
  have HXo7 := Lib.hid ((hgr7.block ob (by omega) (fun h => by have := HLt.out ob h.symm; omega)).trans HXo6.out)
  have HT7 := Lib.hid (HT6.out.low hb7 (by omega))
  have HB7 := Lib.hid (HB6.out.trans hb7)
  have HR7 := Lib.hid hown7
  have hs7 := hb7.size
  have HLt7 : Hid (∀ j, v7.ownBlock = some j → j ≠ ob) := row_apart hrun hown7 HR6.out HLt.out (Nat.le_of_eq hAp.symm) HXo7.out (fun y hy => (List.mem_append.1 hy).elim (HLx.out y) (fun h => plc_low x R y (by rw [HPq.out]; exact h)))
  clear hb7 hgr7 hown7 hrun HR6 HXo6 HT6 HB6
  go_upto_region 9 with fail
  have HDx : Ops w1 B (if rc = q then ra else Option.map (fun x => x.add (q * 8)) ra) (R.length - q) (R.drop q) := by
   split
   ·have h0 : R.length - q = 0 := by omega
    rw [h0]
    exact ⟨by rw [List.length_drop]; exact h0, fun i hi => absurd hi (by omega)⟩
   ·exact HDr.out
  generalize (if rc = q then ra else Option.map (fun x => x.add (q * 8)) ra) = r2 at HDx ⊢
  have HD2 := Lib.hid HDx
  clear HDx HDr
  by_cases hc : q < R.length ∧ sameN (atOp R q) x
  rotate_left
  ·have hbf : bf = false := by rw [HBf.out]; exact decide_eq_false hc
   subst hbf
   have HUx : Hid (uniTo l m (k + 1) = some (A ++ R.take q ++ [x], R.drop q)) := HU1.out.trans (HUn.out hc)
   clear hc HU1 HUn HUy HUb HLx HBf
   obtain ⟨d0, d1, d2, d3, d4, d5, d6, d7⟩ := op_cells HXo7.out
   have hown1 := HR7.out.alloc (.cells #[.int .i64 x.dev, .int .i64 x.seq, .int .i64 x.stamp, .int .i64 x.kind, .string x.item, .int .i64 x.qty, .int .i64 x.level, .int .i64 x.undos] 77)
   go_wp2_with (at_builtin; refine wpList_append_own _ rfl _ _ 27 rfl base 77 i0 (.agg #[.int .i64 0, .int .i64 0, .int .i64 0, .int .i64 0, .string ⟨#[]⟩, .int .i64 0, .int .i64 0, .int .i64 0]) 8 72 Try.underlying27 hi hz0 hz1 hz2 rfl (by decide) _ _ _ rfl hown1 ⟨w7.heap.size, 0, none⟩ 1 1 (opRow x) rfl ?c0 ?c1 ?c2 ?c3 ?c4 ?c5 ?_)
   case c0 => rfl
   case c1 => exact opRow_new w7 x
   case c2 =>
    intro uu hu
    exact opCells_one [x] uu (by show uu ∈ opRow x ++ []; rw [List.append_nil]; exact hu)
   case c3 => unfold maxLen; omega
   case c4 => omega
   case c5 => simp; omega
   intro v' z3 hown2 hgrow _
   have HBn := Lib.hid ((HB7.out.alloc (by omega) (.cells #[.int .i64 x.dev, .int .i64 x.seq, .int .i64 x.stamp, .int .i64 x.kind, .string x.item, .int .i64 x.qty, .int .i64 x.level, .int .i64 x.undos] 77)).grown hgrow (by simp; omega) (fun j hj => (hown1.lt j hj).1))
   have HRn : Hid (z3.ownsRow base 77 8 v' (A ++ R.take q ++ [x]).length (opCells (A ++ R.take q ++ [x]))) := by
    show World.ownsRow _ _ _ _ _ _ _
    have e7 : (A ++ R.take q ++ [x]).length = (A ++ R.take q).length + 1 := by rw [List.length_append]; rfl
    rw [opCells_snoc, e7, hAp]
    exact hown2
   clear hown1 hown2 hgrow d0 d1 d2 d3 d4 d5 d6 d7
   have HDn : Hid (Ops w1 B r2 (R.drop (q)).length (R.drop (q))) := by show Ops _ _ _ _ _; rw [List.length_drop]; exact HD2.out
   have hrn : (R.drop (q)).length ≤ (rc - q) := by rw [List.length_drop]; omega
   have hrl : (R.drop (q)).length = R.length - (q) := List.length_drop
   go_wp2
   go_roundw
   case rel => exact ⟨k + 1, _, A ++ R.take q ++ [x], R.drop (q), _, _, by omega, rfl, by first | (rw [hrl]; done) | rw [hrl, Nat.sub_sub, Nat.sub_sub], by go_num, hrn, HUx, HDn, HRn, HBn⟩
   case measure => simp [intOf]; omega
  have hbf : bf = true := by rw [HBf.out]; exact decide_eq_true hc
  subst hbf
  have HY1 := Lib.hid (fun hs => HUy.out hc hs)
  have HY2 := Lib.hid (fun hs => HUb.out hc hs)
  obtain ⟨hc1, hc2⟩ := hc
  obtain ⟨b2, off2, hr2, hb2, ho2⟩ := (HD2.out.below HB7.out (by omega)).2 0 (by omega)
  have hO2 : OpAt w7 b2 off2 (atOp R q) := by
   have e1 : (R.drop q).getD 0 OpV.zero = atOp R q := drop_at (m := R) (j := q) (i := 0)
   rw [e1] at ho2
   simpa using ho2
  clear ho2 HUy HUb HUn HBf HLx
  generalize atOp R q = y at HY1 HY2 hc2 hO2
  subst hr2
  have hlen1 : 0 < R.length - q := by omega
  have hlen0 : (0 : Int) < ((R.length - q : Nat) : Int) := by omega
  obtain ⟨d0, d1, d2, d3, d4, d5, d6, d7⟩ := op_cells HXo7.out
  obtain ⟨e0, e1, e2, e3, e4, e5, e6, e7⟩ := hO2
  rcases hsm : sameB x y with _ | _
  ·skip
   have HNone : Hid (unionO l m = none) := HSt.out (HU1.out.trans (HY2.out hsm))
   have HSm := Lib.hid hsm
   have HSk : ∀ z, Below w7.heap.size w7 z → (z.cell? ⟨ob, 0, none⟩ = some (.int .i64 x.dev) ∧ z.cell? ⟨ob, 1, none⟩ = some (.int .i64 x.seq) ∧ z.cell? ⟨ob, 2, none⟩ = some (.int .i64 x.stamp) ∧ z.cell? ⟨ob, 3, none⟩ = some (.int .i64 x.kind) ∧ z.cell? ⟨ob, 4, none⟩ = some (.string x.item) ∧ z.cell? ⟨ob, 5, none⟩ = some (.int .i64 x.qty) ∧ z.cell? ⟨ob, 6, none⟩ = some (.int .i64 x.level) ∧ z.cell? ⟨ob, 7, none⟩ = some (.int .i64 x.undos) ∧ z.cell? ⟨b2, off2, none⟩ = some (.int .i64 y.dev) ∧ z.cell? ⟨b2, off2 + 1, none⟩ = some (.int .i64 y.seq) ∧ z.cell? ⟨b2, off2 + 2, none⟩ = some (.int .i64 y.stamp) ∧ z.cell? ⟨b2, off2 + 3, none⟩ = some (.int .i64 y.kind) ∧ z.cell? ⟨b2, off2 + 4, none⟩ = some (.string y.item) ∧ z.cell? ⟨b2, off2 + 5, none⟩ = some (.int .i64 y.qty) ∧ z.cell? ⟨b2, off2 + 6, none⟩ = some (.int .i64 y.level) ∧ z.cell? ⟨b2, off2 + 7, none⟩ = some (.int .i64 y.undos)) := fun z hb => ⟨(hb.cell (block_lt_of_cell d0)).trans d0, (hb.cell (block_lt_of_cell d1)).trans d1, (hb.cell (block_lt_of_cell d2)).trans d2, (hb.cell (block_lt_of_cell d3)).trans d3, (hb.cell (block_lt_of_cell d4)).trans d4, (hb.cell (block_lt_of_cell d5)).trans d5, (hb.cell (block_lt_of_cell d6)).trans d6, (hb.cell (block_lt_of_cell d7)).trans d7, (hb.cell (block_lt_of_cell e0)).trans e0, (hb.cell (block_lt_of_cell e1)).trans e1, (hb.cell (block_lt_of_cell e2)).trans e2, (hb.cell (block_lt_of_cell e3)).trans e3, (hb.cell (block_lt_of_cell e4)).trans e4, (hb.cell (block_lt_of_cell e5)).trans e5, (hb.cell (block_lt_of_cell e6)).trans e6, (hb.cell (block_lt_of_cell e7)).trans e7⟩
   clear hsm d0 d1 d2 d3 d4 d5 d6 d7 e0 e1 e2 e3 e4 e5 e6 e7
   go_upto_region 10 with fail
   obtain ⟨z0, hz0e⟩ : ∃ z0, w7.drew = z0 := ⟨_, rfl⟩
   have hbz0 : Below w7.heap.size w7 z0 := by rw [← hz0e]; exact ⟨rfl, rfl, rfl, Nat.le_refl _, fun _ _ => rfl⟩
   have hS := HSk _ hbz0
   go_wp2_with fail
   refine wp_region_held_drew (S := fun w' => w'.cell? ⟨ob, 0, none⟩ = some (.int .i64 x.dev) ∧ w'.cell? ⟨ob, 1, none⟩ = some (.int .i64 x.seq) ∧ w'.cell? ⟨ob, 2, none⟩ = some (.int .i64 x.stamp) ∧ w'.cell? ⟨ob, 3, none⟩ = some (.int .i64 x.kind) ∧ w'.cell? ⟨ob, 4, none⟩ = some (.string x.item) ∧ w'.cell? ⟨ob, 5, none⟩ = some (.int .i64 x.qty) ∧ w'.cell? ⟨ob, 6, none⟩ = some (.int .i64 x.level) ∧ w'.cell? ⟨ob, 7, none⟩ = some (.int .i64 x.undos) ∧ w'.cell? ⟨b2, off2, none⟩ = some (.int .i64 y.dev) ∧ w'.cell? ⟨b2, off2 + 1, none⟩ = some (.int .i64 y.seq) ∧ w'.cell? ⟨b2, off2 + 2, none⟩ = some (.int .i64 y.stamp) ∧ w'.cell? ⟨b2, off2 + 3, none⟩ = some (.int .i64 y.kind) ∧ w'.cell? ⟨b2, off2 + 4, none⟩ = some (.string y.item) ∧ w'.cell? ⟨b2, off2 + 5, none⟩ = some (.int .i64 y.qty) ∧ w'.cell? ⟨b2, off2 + 6, none⟩ = some (.int .i64 y.level) ∧ w'.cell? ⟨b2, off2 + 7, none⟩ = some (.int .i64 y.undos)) (by kernel_rfl) (by rw [hz0e]; exact hS) (fun hHeld => ?_)
   rw [hz0e]
   clear hHeld hz0e
   refine tk 0 ⟨some 51, .move (.tmp 2), 78, "l07_deltas.go:43", #[], none⟩ ?_
   (try simp only [Act.put, u1, u2, u3])
   refine tk 1 ⟨some 52, .load 77 (.tmp 11), 77, "l07_deltas.go:43", #[], none⟩ ?_
   (try simp only [Act.put, u1, u2, u3])
   refine tk 2 ⟨some 53, .move (.tmp 9), 27, "l07_deltas.go:43", #[], none⟩ ?_
   (try simp only [Act.put, u1, u2, u3])
   refine tk 3 ⟨some 54, .indexAddr 27 (.tmp 53) (.const (Value.int IntKind.i64 0)), 0, "l07_deltas.go:43", #[⟨2, .data⟩], none⟩ ?_
   (try simp only [Act.put, u1, u2, u3])
   refine tk 4 ⟨some 55, .load 77 (.tmp 54), 77, "l07_deltas.go:43", #[⟨3, .data⟩], none⟩ ?_
   (try simp only [Act.put, u1, u2, u3])
   refine wpAnyH_ready (rs := [5, 9]) (by kernel_rfl) (by simp) ?_
   refine AllReadyH.cons rfl (fun K hK => ?_) (AllReadyH.cons rfl (fun K hK => ?_) AllReadyH.nil)
   ·skip
    go_simp
    go_at_call 51
    refine (joinedNo x y HSm.out z0).mono ?_
    rintro e z1 ⟨rfl, hbj⟩
    have hb1 := hbz0.trans (hbj.mono hbz0.size)
    refine hK.out _ _ (HSk _ hb1) (fun hHeld2 => ?_)
    clear hK K
    (try simp only [Act.put, u1, u2, u3])
    refine tk 6 ⟨some 50, .move (.tmp 56), 96, "l07_deltas.go:43", #[⟨5, .data⟩], none⟩ ?_
    (try simp only [Act.put, u1, u2, u3])
    refine tk 7 ⟨some 57, .extract (.tmp 50) 0, 77, "l07_deltas.go:43", #[⟨6, .data⟩], none⟩ ?_
    (try simp only [Act.put, u1, u2, u3])
    refine tk 8 ⟨some 58, .extract (.tmp 50) 1, 4, "l07_deltas.go:43", #[⟨6, .data⟩, { on := 10, ground := Ground.gcOnly Departure.lateStores }], none⟩ ?_
    (try simp only [Act.put, u1, u2, u3])
    refine rk 9 rfl (fun K hK => ?_)
    go_simp
    have hb2z := hb1.alloc hb1.size (.cells #[.int .i64 0, .int .i64 0, .int .i64 0, .int .i64 0, .string ⟨#[]⟩, .int .i64 0, .int .i64 0, .int .i64 0] 77)
    refine hK.out _ _ (HSk _ hb2z) (fun hHeld3 => ?_)
    clear hK K
    (try simp only [Act.put, u1, u2, u3])
    have HN := Lib.hid (boxAt (Below.refl _ (z1.alloc (.cells #[.int .i64 0, .int .i64 0, .int .i64 0, .int .i64 0, .string ⟨#[]⟩, .int .i64 0, .int .i64 0, .int .i64 0] 77))))
    have hnb : w7.heap.size ≤ z1.heap.size := hb1.size
    generalize z1.alloc (.cells #[.int .i64 0, .int .i64 0, .int .i64 0, .int .i64 0, .string ⟨#[]⟩, .int .i64 0, .int .i64 0, .int .i64 0] 77) = z2 at hb2z HN hHeld3 ⊢
    generalize z1.heap.size = nb at HN hnb ⊢
    obtain ⟨g0, g1, g2, g3, g4, g5, g6, g7⟩ := op_cells HN.out
    obtain ⟨f0, f1, f2, f3, f4, f5, f6, f7⟩ := op_frozen HN.out
    have hb3 : Below w7.heap.size w7 ((((((((z2.setCell ⟨nb, 0, none⟩ (.int .i64 0)).setCell ⟨nb, 1, none⟩ (.int .i64 0)).setCell ⟨nb, 2, none⟩ (.int .i64 0)).setCell ⟨nb, 3, none⟩ (.int .i64 0)).setCell ⟨nb, 4, none⟩ (.string ⟨#[]⟩)).setCell ⟨nb, 5, none⟩ (.int .i64 0)).setCell ⟨nb, 6, none⟩ (.int .i64 0)).setCell ⟨nb, 7, none⟩ (.int .i64 0)) := setOp_below _ _ _ _ _ _ _ _ hb2z hnb
    have HN3 : Hid (((((((((z2.setCell ⟨nb, 0, none⟩ (.int .i64 0)).setCell ⟨nb, 1, none⟩ (.int .i64 0)).setCell ⟨nb, 2, none⟩ (.int .i64 0)).setCell ⟨nb, 3, none⟩ (.int .i64 0)).setCell ⟨nb, 4, none⟩ (.string ⟨#[]⟩)).setCell ⟨nb, 5, none⟩ (.int .i64 0)).setCell ⟨nb, 6, none⟩ (.int .i64 0)).setCell ⟨nb, 7, none⟩ (.int .i64 0)).heap[nb]? = some (.cells #[.int .i64 0, .int .i64 0, .int .i64 0, .int .i64 0, .string ⟨#[]⟩, .int .i64 0, .int .i64 0, .int .i64 0] 77 (0, 0))) := setOp_same _ _ _ _ _ _ _ _ HN.out
    refine rk 10 rfl (fun K hK => ?_)
    go_simp
    refine hK.out _ _ (HSk _ hb3) (fun hHeld5 => ?_)
    clear hK K
    (try simp only [Act.put, u1, u2, u3])
    refine tk 11 ⟨some 15, .assign (.tmp 58), 4, "l07_deltas.go:43", #[⟨8, .data⟩, ⟨10, .chain⟩, ⟨0, .phase⟩, ⟨1, .phase⟩, ⟨2, .phase⟩, ⟨3, .phase⟩, ⟨4, .phase⟩, ⟨5, .phase⟩, ⟨6, .phase⟩, ⟨7, .phase⟩, ⟨8, .phase⟩, ⟨9, .phase⟩, ⟨10, .phase⟩], none⟩ ?_
    (try simp only [Act.put, u1, u2, u3])
    refine wpAnyH_done (by kernel_rfl) ?_ _
    clear g0 g1 g2 g3 g4 g5 g6 g7 f0 f1 f2 f3 f4 f5 f6 f7 HSk hHeld2 hHeld3 hHeld5 hS
    generalize ((((((((z2.setCell ⟨nb, 0, none⟩ (.int .i64 0)).setCell ⟨nb, 1, none⟩ (.int .i64 0)).setCell ⟨nb, 2, none⟩ (.int .i64 0)).setCell ⟨nb, 3, none⟩ (.int .i64 0)).setCell ⟨nb, 4, none⟩ (.string ⟨#[]⟩)).setCell ⟨nb, 5, none⟩ (.int .i64 0)).setCell ⟨nb, 6, none⟩ (.int .i64 0)).setCell ⟨nb, 7, none⟩ (.int .i64 0)) = w8 at hb3 HN3 ⊢
    have hs8 := hb3.size
    have HR8 := Lib.hid (own_row_kept HR7.out hb3)
    have HX8 := Lib.hid ((hb3.block ob (lt_of_row HXo7.out)).trans HXo7.out)
    have HT8 := Lib.hid (HT7.out.low hb3 (lt_of_row HT7.out.res))
    have HB8 := Lib.hid (HB7.out.trans (hb3.mono (by omega)))
    clear hb3 HR7 HXo7 HT7 HB7 hbz0 hb1 hb2z hbj HN
    obtain ⟨r0, r1⟩ := pair_cells HT8.out.res
    obtain ⟨fz0, fz1⟩ := pair_frozen HT8.out.res
    have HXr := Lib.hid (HT8.out.set2S (.slice none 0 0) .nilFunc).1
    have HBr2 := Lib.hid (HT8.out.set2S (.slice none 0 0) .nilFunc).2
    go_wp2
    change bodyPost _ _ _ _ _ ((w8.setCell ⟨w.heap.size + 1 + 1, 0, none⟩ (.slice none 0 0)).setCell ⟨w.heap.size + 1 + 1, 1, none⟩ .nilFunc)
    generalize (w8.setCell ⟨w.heap.size + 1 + 1, 0, none⟩ (.slice none 0 0)).setCell ⟨w.heap.size + 1 + 1, 1, none⟩ .nilFunc = wf at HXr HBr2 ⊢
    obtain ⟨q0, q1⟩ := pair_cells HXr.out
    exact bodyPost_ret (v := .tuple #[.agg #[.slice none 0 0, .nilFunc], .bool false]) (by simp [results, Try.results50, go_sem, q0, q1]) rfl (.inr ⟨HNone.out, rfl, HBr2.out⟩)
   ·skip
    go_simp
    have hb1 := hbz0.alloc hbz0.size (.cells #[.int .i64 0, .int .i64 0, .int .i64 0, .int .i64 0, .string ⟨#[]⟩, .int .i64 0, .int .i64 0, .int .i64 0] 77)
    refine hK.out _ _ (HSk _ hb1) (fun hHeld2 => ?_)
    clear hK K
    (try simp only [Act.put, u1, u2, u3])
    have HN := Lib.hid (boxAt (Below.refl _ (z0.alloc (.cells #[.int .i64 0, .int .i64 0, .int .i64 0, .int .i64 0, .string ⟨#[]⟩, .int .i64 0, .int .i64 0, .int .i64 0] 77))))
    have hnb : w7.heap.size ≤ z0.heap.size := hbz0.size
    generalize z0.alloc (.cells #[.int .i64 0, .int .i64 0, .int .i64 0, .int .i64 0, .string ⟨#[]⟩, .int .i64 0, .int .i64 0, .int .i64 0] 77) = z1 at hb1 HN hHeld2 ⊢
    generalize z0.heap.size = nb at HN hnb ⊢
    refine rk 5 rfl (fun K hK => ?_)
    go_simp
    go_at_call 51
    refine (joinedNo x y HSm.out z1).mono ?_
    rintro e z2 ⟨rfl, hbj⟩
    have hb2z := hb1.trans (hbj.mono hb1.size)
    refine hK.out _ _ (HSk _ hb2z) (fun hHeld3 => ?_)
    clear hK K
    (try simp only [Act.put, u1, u2, u3])
    have HN := Lib.hid ((hbj.block nb (lt_of_row HN.out)).trans HN.out)
    refine tk 6 ⟨some 50, .move (.tmp 56), 96, "l07_deltas.go:43", #[⟨5, .data⟩], none⟩ ?_
    (try simp only [Act.put, u1, u2, u3])
    refine tk 7 ⟨some 57, .extract (.tmp 50) 0, 77, "l07_deltas.go:43", #[⟨6, .data⟩], none⟩ ?_
    (try simp only [Act.put, u1, u2, u3])
    refine tk 8 ⟨some 58, .extract (.tmp 50) 1, 4, "l07_deltas.go:43", #[⟨6, .data⟩, { on := 10, ground := Ground.gcOnly Departure.lateStores }], none⟩ ?_
    (try simp only [Act.put, u1, u2, u3])
    obtain ⟨g0, g1, g2, g3, g4, g5, g6, g7⟩ := op_cells HN.out
    obtain ⟨f0, f1, f2, f3, f4, f5, f6, f7⟩ := op_frozen HN.out
    have hb3 : Below w7.heap.size w7 ((((((((z2.setCell ⟨nb, 0, none⟩ (.int .i64 0)).setCell ⟨nb, 1, none⟩ (.int .i64 0)).setCell ⟨nb, 2, none⟩ (.int .i64 0)).setCell ⟨nb, 3, none⟩ (.int .i64 0)).setCell ⟨nb, 4, none⟩ (.string ⟨#[]⟩)).setCell ⟨nb, 5, none⟩ (.int .i64 0)).setCell ⟨nb, 6, none⟩ (.int .i64 0)).setCell ⟨nb, 7, none⟩ (.int .i64 0)) := setOp_below _ _ _ _ _ _ _ _ hb2z hnb
    have HN3 : Hid (((((((((z2.setCell ⟨nb, 0, none⟩ (.int .i64 0)).setCell ⟨nb, 1, none⟩ (.int .i64 0)).setCell ⟨nb, 2, none⟩ (.int .i64 0)).setCell ⟨nb, 3, none⟩ (.int .i64 0)).setCell ⟨nb, 4, none⟩ (.string ⟨#[]⟩)).setCell ⟨nb, 5, none⟩ (.int .i64 0)).setCell ⟨nb, 6, none⟩ (.int .i64 0)).setCell ⟨nb, 7, none⟩ (.int .i64 0)).heap[nb]? = some (.cells #[.int .i64 0, .int .i64 0, .int .i64 0, .int .i64 0, .string ⟨#[]⟩, .int .i64 0, .int .i64 0, .int .i64 0] 77 (0, 0))) := setOp_same _ _ _ _ _ _ _ _ HN.out
    refine rk 10 rfl (fun K hK => ?_)
    go_simp
    refine hK.out _ _ (HSk _ hb3) (fun hHeld5 => ?_)
    clear hK K
    (try simp only [Act.put, u1, u2, u3])
    refine tk 11 ⟨some 15, .assign (.tmp 58), 4, "l07_deltas.go:43", #[⟨8, .data⟩, ⟨10, .chain⟩, ⟨0, .phase⟩, ⟨1, .phase⟩, ⟨2, .phase⟩, ⟨3, .phase⟩, ⟨4, .phase⟩, ⟨5, .phase⟩, ⟨6, .phase⟩, ⟨7, .phase⟩, ⟨8, .phase⟩, ⟨9, .phase⟩, ⟨10, .phase⟩], none⟩ ?_
    (try simp only [Act.put, u1, u2, u3])
    refine wpAnyH_done (by kernel_rfl) ?_ _
    clear g0 g1 g2 g3 g4 g5 g6 g7 f0 f1 f2 f3 f4 f5 f6 f7 HSk hHeld2 hHeld3 hHeld5 hS
    generalize ((((((((z2.setCell ⟨nb, 0, none⟩ (.int .i64 0)).setCell ⟨nb, 1, none⟩ (.int .i64 0)).setCell ⟨nb, 2, none⟩ (.int .i64 0)).setCell ⟨nb, 3, none⟩ (.int .i64 0)).setCell ⟨nb, 4, none⟩ (.string ⟨#[]⟩)).setCell ⟨nb, 5, none⟩ (.int .i64 0)).setCell ⟨nb, 6, none⟩ (.int .i64 0)).setCell ⟨nb, 7, none⟩ (.int .i64 0)) = w8 at hb3 HN3 ⊢
    have hs8 := hb3.size
    have HR8 := Lib.hid (own_row_kept HR7.out hb3)
    have HX8 := Lib.hid ((hb3.block ob (lt_of_row HXo7.out)).trans HXo7.out)
    have HT8 := Lib.hid (HT7.out.low hb3 (lt_of_row HT7.out.res))
    have HB8 := Lib.hid (HB7.out.trans (hb3.mono (by omega)))
    clear hb3 HR7 HXo7 HT7 HB7 hbz0 hb1 hb2z hbj HN
    obtain ⟨r0, r1⟩ := pair_cells HT8.out.res
    obtain ⟨fz0, fz1⟩ := pair_frozen HT8.out.res
    have HXr := Lib.hid (HT8.out.set2S (.slice none 0 0) .nilFunc).1
    have HBr2 := Lib.hid (HT8.out.set2S (.slice none 0 0) .nilFunc).2
    go_wp2
    change bodyPost _ _ _ _ _ ((w8.setCell ⟨w.heap.size + 1 + 1, 0, none⟩ (.slice none 0 0)).setCell ⟨w.heap.size + 1 + 1, 1, none⟩ .nilFunc)
    generalize (w8.setCell ⟨w.heap.size + 1 + 1, 0, none⟩ (.slice none 0 0)).setCell ⟨w.heap.size + 1 + 1, 1, none⟩ .nilFunc = wf at HXr HBr2 ⊢
    obtain ⟨q0, q1⟩ := pair_cells HXr.out
    exact bodyPost_ret (v := .tuple #[.agg #[.slice none 0 0, .nilFunc], .bool false]) (by simp [results, Try.results50, go_sem, q0, q1]) rfl (.inr ⟨HNone.out, rfl, HBr2.out⟩)
  ·skip
   obtain ⟨u, rfl⟩ : ∃ u, y = x.with u := ⟨_, same_yes hsm⟩
   have HUx : Hid (uniTo l m (k + 1) = some (A ++ R.take q ++ [x.with (max x.undos u)], R.drop (q + 1))) := HU1.out.trans (HY1.out hsm)
   have HSk : ∀ z, Below w7.heap.size w7 z → (z.cell? ⟨ob, 0, none⟩ = some (.int .i64 x.dev) ∧ z.cell? ⟨ob, 1, none⟩ = some (.int .i64 x.seq) ∧ z.cell? ⟨ob, 2, none⟩ = some (.int .i64 x.stamp) ∧ z.cell? ⟨ob, 3, none⟩ = some (.int .i64 x.kind) ∧ z.cell? ⟨ob, 4, none⟩ = some (.string x.item) ∧ z.cell? ⟨ob, 5, none⟩ = some (.int .i64 x.qty) ∧ z.cell? ⟨ob, 6, none⟩ = some (.int .i64 x.level) ∧ z.cell? ⟨ob, 7, none⟩ = some (.int .i64 x.undos) ∧ z.cell? ⟨b2, off2, none⟩ = some (.int .i64 x.dev) ∧ z.cell? ⟨b2, off2 + 1, none⟩ = some (.int .i64 x.seq) ∧ z.cell? ⟨b2, off2 + 2, none⟩ = some (.int .i64 x.stamp) ∧ z.cell? ⟨b2, off2 + 3, none⟩ = some (.int .i64 x.kind) ∧ z.cell? ⟨b2, off2 + 4, none⟩ = some (.string x.item) ∧ z.cell? ⟨b2, off2 + 5, none⟩ = some (.int .i64 x.qty) ∧ z.cell? ⟨b2, off2 + 6, none⟩ = some (.int .i64 x.level) ∧ z.cell? ⟨b2, off2 + 7, none⟩ = some (.int .i64 u)) := fun z hb => ⟨(hb.cell (block_lt_of_cell d0)).trans d0, (hb.cell (block_lt_of_cell d1)).trans d1, (hb.cell (block_lt_of_cell d2)).trans d2, (hb.cell (block_lt_of_cell d3)).trans d3, (hb.cell (block_lt_of_cell d4)).trans d4, (hb.cell (block_lt_of_cell d5)).trans d5, (hb.cell (block_lt_of_cell d6)).trans d6, (hb.cell (block_lt_of_cell d7)).trans d7, (hb.cell (block_lt_of_cell e0)).trans e0, (hb.cell (block_lt_of_cell e1)).trans e1, (hb.cell (block_lt_of_cell e2)).trans e2, (hb.cell (block_lt_of_cell e3)).trans e3, (hb.cell (block_lt_of_cell e4)).trans e4, (hb.cell (block_lt_of_cell e5)).trans e5, (hb.cell (block_lt_of_cell e6)).trans e6, (hb.cell (block_lt_of_cell e7)).trans e7⟩
   clear hsm d0 d1 d2 d3 d4 d5 d6 d7 e0 e1 e2 e3 e4 e5 e6 e7
   go_upto_region 10 with fail
   obtain ⟨z0, hz0e⟩ : ∃ z0, w7.drew = z0 := ⟨_, rfl⟩
   have hbz0 : Below w7.heap.size w7 z0 := by rw [← hz0e]; exact ⟨rfl, rfl, rfl, Nat.le_refl _, fun _ _ => rfl⟩
   have hS := HSk _ hbz0
   go_wp2_with fail
   refine wp_region_held_drew (S := fun w' => w'.cell? ⟨ob, 0, none⟩ = some (.int .i64 x.dev) ∧ w'.cell? ⟨ob, 1, none⟩ = some (.int .i64 x.seq) ∧ w'.cell? ⟨ob, 2, none⟩ = some (.int .i64 x.stamp) ∧ w'.cell? ⟨ob, 3, none⟩ = some (.int .i64 x.kind) ∧ w'.cell? ⟨ob, 4, none⟩ = some (.string x.item) ∧ w'.cell? ⟨ob, 5, none⟩ = some (.int .i64 x.qty) ∧ w'.cell? ⟨ob, 6, none⟩ = some (.int .i64 x.level) ∧ w'.cell? ⟨ob, 7, none⟩ = some (.int .i64 x.undos) ∧ w'.cell? ⟨b2, off2, none⟩ = some (.int .i64 x.dev) ∧ w'.cell? ⟨b2, off2 + 1, none⟩ = some (.int .i64 x.seq) ∧ w'.cell? ⟨b2, off2 + 2, none⟩ = some (.int .i64 x.stamp) ∧ w'.cell? ⟨b2, off2 + 3, none⟩ = some (.int .i64 x.kind) ∧ w'.cell? ⟨b2, off2 + 4, none⟩ = some (.string x.item) ∧ w'.cell? ⟨b2, off2 + 5, none⟩ = some (.int .i64 x.qty) ∧ w'.cell? ⟨b2, off2 + 6, none⟩ = some (.int .i64 x.level) ∧ w'.cell? ⟨b2, off2 + 7, none⟩ = some (.int .i64 u)) (by kernel_rfl) (by rw [hz0e]; exact hS) (fun hHeld => ?_)
   rw [hz0e]
   clear hHeld hz0e
   refine tk 0 ⟨some 51, .move (.tmp 2), 78, "l07_deltas.go:43", #[], none⟩ ?_
   (try simp only [Act.put, u1, u2, u3])
   refine tk 1 ⟨some 52, .load 77 (.tmp 11), 77, "l07_deltas.go:43", #[], none⟩ ?_
   (try simp only [Act.put, u1, u2, u3])
   refine tk 2 ⟨some 53, .move (.tmp 9), 27, "l07_deltas.go:43", #[], none⟩ ?_
   (try simp only [Act.put, u1, u2, u3])
   refine tk 3 ⟨some 54, .indexAddr 27 (.tmp 53) (.const (Value.int IntKind.i64 0)), 0, "l07_deltas.go:43", #[⟨2, .data⟩], none⟩ ?_
   (try simp only [Act.put, u1, u2, u3])
   refine tk 4 ⟨some 55, .load 77 (.tmp 54), 77, "l07_deltas.go:43", #[⟨3, .data⟩], none⟩ ?_
   (try simp only [Act.put, u1, u2, u3])
   refine wpAnyH_ready (rs := [5, 9]) (by kernel_rfl) (by simp) ?_
   refine AllReadyH.cons rfl (fun K hK => ?_) (AllReadyH.cons rfl (fun K hK => ?_) AllReadyH.nil)
   ·skip
    go_simp
    go_at_call 51
    refine (joinedYes x u z0).mono ?_
    rintro e z1 ⟨rfl, hbj⟩
    have hb1 := hbz0.trans (hbj.mono hbz0.size)
    refine hK.out _ _ (HSk _ hb1) (fun hHeld2 => ?_)
    clear hK K
    (try simp only [Act.put, u1, u2, u3])
    refine tk 6 ⟨some 50, .move (.tmp 56), 96, "l07_deltas.go:43", #[⟨5, .data⟩], none⟩ ?_
    (try simp only [Act.put, u1, u2, u3])
    refine tk 7 ⟨some 57, .extract (.tmp 50) 0, 77, "l07_deltas.go:43", #[⟨6, .data⟩], none⟩ ?_
    (try simp only [Act.put, u1, u2, u3])
    refine tk 8 ⟨some 58, .extract (.tmp 50) 1, 4, "l07_deltas.go:43", #[⟨6, .data⟩, { on := 10, ground := Ground.gcOnly Departure.lateStores }], none⟩ ?_
    (try simp only [Act.put, u1, u2, u3])
    refine rk 9 rfl (fun K hK => ?_)
    go_simp
    have hb2z := hb1.alloc hb1.size (.cells #[.int .i64 0, .int .i64 0, .int .i64 0, .int .i64 0, .string ⟨#[]⟩, .int .i64 0, .int .i64 0, .int .i64 0] 77)
    refine hK.out _ _ (HSk _ hb2z) (fun hHeld3 => ?_)
    clear hK K
    (try simp only [Act.put, u1, u2, u3])
    have HN := Lib.hid (boxAt (Below.refl _ (z1.alloc (.cells #[.int .i64 0, .int .i64 0, .int .i64 0, .int .i64 0, .string ⟨#[]⟩, .int .i64 0, .int .i64 0, .int .i64 0] 77))))
    have hnb : w7.heap.size ≤ z1.heap.size := hb1.size
    generalize z1.alloc (.cells #[.int .i64 0, .int .i64 0, .int .i64 0, .int .i64 0, .string ⟨#[]⟩, .int .i64 0, .int .i64 0, .int .i64 0] 77) = z2 at hb2z HN hHeld3 ⊢
    generalize z1.heap.size = nb at HN hnb ⊢
    obtain ⟨g0, g1, g2, g3, g4, g5, g6, g7⟩ := op_cells HN.out
    obtain ⟨f0, f1, f2, f3, f4, f5, f6, f7⟩ := op_frozen HN.out
    have hb3 : Below w7.heap.size w7 ((((((((z2.setCell ⟨nb, 0, none⟩ (.int .i64 x.dev)).setCell ⟨nb, 1, none⟩ (.int .i64 x.seq)).setCell ⟨nb, 2, none⟩ (.int .i64 x.stamp)).setCell ⟨nb, 3, none⟩ (.int .i64 x.kind)).setCell ⟨nb, 4, none⟩ (.string x.item)).setCell ⟨nb, 5, none⟩ (.int .i64 x.qty)).setCell ⟨nb, 6, none⟩ (.int .i64 x.level)).setCell ⟨nb, 7, none⟩ (.int .i64 (max x.undos u))) := setOp_below _ _ _ _ _ _ _ _ hb2z hnb
    have HN3 : Hid (((((((((z2.setCell ⟨nb, 0, none⟩ (.int .i64 x.dev)).setCell ⟨nb, 1, none⟩ (.int .i64 x.seq)).setCell ⟨nb, 2, none⟩ (.int .i64 x.stamp)).setCell ⟨nb, 3, none⟩ (.int .i64 x.kind)).setCell ⟨nb, 4, none⟩ (.string x.item)).setCell ⟨nb, 5, none⟩ (.int .i64 x.qty)).setCell ⟨nb, 6, none⟩ (.int .i64 x.level)).setCell ⟨nb, 7, none⟩ (.int .i64 (max x.undos u))).heap[nb]? = some (.cells #[.int .i64 x.dev, .int .i64 x.seq, .int .i64 x.stamp, .int .i64 x.kind, .string x.item, .int .i64 x.qty, .int .i64 x.level, .int .i64 (max x.undos u)] 77 (0, 0))) := setOp_same _ _ _ _ _ _ _ _ HN.out
    refine rk 10 rfl (fun K hK => ?_)
    go_simp
    refine hK.out _ _ (HSk _ hb3) (fun hHeld5 => ?_)
    clear hK K
    (try simp only [Act.put, u1, u2, u3])
    refine tk 11 ⟨some 15, .assign (.tmp 58), 4, "l07_deltas.go:43", #[⟨8, .data⟩, ⟨10, .chain⟩, ⟨0, .phase⟩, ⟨1, .phase⟩, ⟨2, .phase⟩, ⟨3, .phase⟩, ⟨4, .phase⟩, ⟨5, .phase⟩, ⟨6, .phase⟩, ⟨7, .phase⟩, ⟨8, .phase⟩, ⟨9, .phase⟩, ⟨10, .phase⟩], none⟩ ?_
    (try simp only [Act.put, u1, u2, u3])
    refine wpAnyH_done (by kernel_rfl) ?_ _
    clear g0 g1 g2 g3 g4 g5 g6 g7 f0 f1 f2 f3 f4 f5 f6 f7 HSk hHeld2 hHeld3 hHeld5 hS
    generalize ((((((((z2.setCell ⟨nb, 0, none⟩ (.int .i64 x.dev)).setCell ⟨nb, 1, none⟩ (.int .i64 x.seq)).setCell ⟨nb, 2, none⟩ (.int .i64 x.stamp)).setCell ⟨nb, 3, none⟩ (.int .i64 x.kind)).setCell ⟨nb, 4, none⟩ (.string x.item)).setCell ⟨nb, 5, none⟩ (.int .i64 x.qty)).setCell ⟨nb, 6, none⟩ (.int .i64 x.level)).setCell ⟨nb, 7, none⟩ (.int .i64 (max x.undos u))) = w8 at hb3 HN3 ⊢
    have hs8 := hb3.size
    have HR8 := Lib.hid (own_row_kept HR7.out hb3)
    have HX8 := Lib.hid ((hb3.block ob (lt_of_row HXo7.out)).trans HXo7.out)
    have HT8 := Lib.hid (HT7.out.low hb3 (lt_of_row HT7.out.res))
    have HB8 := Lib.hid (HB7.out.trans (hb3.mono (by omega)))
    clear hb3 HR7 HXo7 HT7 HB7 hbz0 hb1 hb2z hbj HN
    obtain ⟨g0, g1, g2, g3, g4, g5, g6, g7⟩ := op_cells HN3.out
    obtain ⟨d0, d1, d2, d3, d4, d5, d6, d7⟩ := op_cells HX8.out
    obtain ⟨f0, f1, f2, f3, f4, f5, f6, f7⟩ := op_frozen HX8.out
    have HX9 : Hid (((((((((w8.setCell ⟨ob, 0, none⟩ (.int .i64 x.dev)).setCell ⟨ob, 1, none⟩ (.int .i64 x.seq)).setCell ⟨ob, 2, none⟩ (.int .i64 x.stamp)).setCell ⟨ob, 3, none⟩ (.int .i64 x.kind)).setCell ⟨ob, 4, none⟩ (.string x.item)).setCell ⟨ob, 5, none⟩ (.int .i64 x.qty)).setCell ⟨ob, 6, none⟩ (.int .i64 x.level)).setCell ⟨ob, 7, none⟩ (.int .i64 (max x.undos u))).heap[ob]? = some (.cells #[.int .i64 x.dev, .int .i64 x.seq, .int .i64 x.stamp, .int .i64 x.kind, .string x.item, .int .i64 x.qty, .int .i64 x.level, .int .i64 (max x.undos u)] 77 (0, 0))) := setOp_same _ _ _ _ _ _ _ _ HX8.out
    have HB9 : Hid (Below base w1 ((((((((w8.setCell ⟨ob, 0, none⟩ (.int .i64 x.dev)).setCell ⟨ob, 1, none⟩ (.int .i64 x.seq)).setCell ⟨ob, 2, none⟩ (.int .i64 x.stamp)).setCell ⟨ob, 3, none⟩ (.int .i64 x.kind)).setCell ⟨ob, 4, none⟩ (.string x.item)).setCell ⟨ob, 5, none⟩ (.int .i64 x.qty)).setCell ⟨ob, 6, none⟩ (.int .i64 x.level)).setCell ⟨ob, 7, none⟩ (.int .i64 (max x.undos u)))) := setOp_below _ _ _ _ _ _ _ _ HB8.out hbo
    have HR9 : Hid (((((((((w8.setCell ⟨ob, 0, none⟩ (.int .i64 x.dev)).setCell ⟨ob, 1, none⟩ (.int .i64 x.seq)).setCell ⟨ob, 2, none⟩ (.int .i64 x.stamp)).setCell ⟨ob, 3, none⟩ (.int .i64 x.kind)).setCell ⟨ob, 4, none⟩ (.string x.item)).setCell ⟨ob, 5, none⟩ (.int .i64 x.qty)).setCell ⟨ob, 6, none⟩ (.int .i64 x.level)).setCell ⟨ob, 7, none⟩ (.int .i64 (max x.undos u))).ownsRow base 77 8 v7 (A ++ R.take q).length (opCells (A ++ R.take q))) := row_setOp HR8.out HLt7.out _ _ _ _ _ _ _ _
    go_upto_region 14 with fail
    clear g0 g1 g2 g3 g4 g5 g6 g7 d0 d1 d2 d3 d4 d5 d6 d7 f0 f1 f2 f3 f4 f5 f6 f7 HX8 HR8 HB8 HT8 HN3
    generalize ((((((((w8.setCell ⟨ob, 0, none⟩ (.int .i64 x.dev)).setCell ⟨ob, 1, none⟩ (.int .i64 x.seq)).setCell ⟨ob, 2, none⟩ (.int .i64 x.stamp)).setCell ⟨ob, 3, none⟩ (.int .i64 x.kind)).setCell ⟨ob, 4, none⟩ (.string x.item)).setCell ⟨ob, 5, none⟩ (.int .i64 x.qty)).setCell ⟨ob, 6, none⟩ (.int .i64 x.level)).setCell ⟨ob, 7, none⟩ (.int .i64 (max x.undos u))) = w9 at HX9 HB9 HR9 ⊢
    go_upto_region 15 with fail
    have hdd : (R.drop q).drop 1 = R.drop (q + 1) := by rw [List.drop_drop]
    have HDy : Ops w1 B (if rc - q = 1 then some ⟨b2, off2, none⟩ else some ⟨b2, off2 + 8, none⟩) (R.length - (q + 1)) (R.drop (q + 1)) := by
     split
     ·have h0 : R.length - (q + 1) = 0 := by omega
      rw [h0]
      exact ⟨by rw [List.length_drop]; exact h0, fun i hi => absurd hi (by omega)⟩
     ·have h1 := ops_tail HD2.out (p := 1) (by omega)
      rw [hdd, Nat.sub_sub] at h1
      exact h1
    generalize (if rc - q = 1 then some (⟨b2, off2, none⟩ : Addr) else some ⟨b2, off2 + 8, none⟩) = r3 at HDy ⊢
    have HD3 := Lib.hid HDy
    have hs9 : base ≤ w9.heap.size := by have := HB9.out.size; omega
    clear HDy hdd
    obtain ⟨d0, d1, d2, d3, d4, d5, d6, d7⟩ := op_cells HX9.out
    have hown1 := HR9.out.alloc (.cells #[.int .i64 x.dev, .int .i64 x.seq, .int .i64 x.stamp, .int .i64 x.kind, .string x.item, .int .i64 x.qty, .int .i64 x.level, .int .i64 (max x.undos u)] 77)
    go_wp2_with (at_builtin; refine wpList_append_own _ rfl _ _ 27 rfl base 77 i0 (.agg #[.int .i64 0, .int .i64 0, .int .i64 0, .int .i64 0, .string ⟨#[]⟩, .int .i64 0, .int .i64 0, .int .i64 0]) 8 72 Try.underlying27 hi hz0 hz1 hz2 rfl (by decide) _ _ _ rfl hown1 ⟨w9.heap.size, 0, none⟩ 1 1 (opRow (x.with (max x.undos u))) rfl ?c0 ?c1 ?c2 ?c3 ?c4 ?c5 ?_)
    case c0 => rfl
    case c1 => exact opRow_new w9 (x.with (max x.undos u))
    case c2 =>
     intro uu hu
     exact opCells_one [(x.with (max x.undos u))] uu (by show uu ∈ opRow (x.with (max x.undos u)) ++ []; rw [List.append_nil]; exact hu)
    case c3 => unfold maxLen; omega
    case c4 => omega
    case c5 => simp; omega
    intro v' z3 hown2 hgrow _
    have HBn := Lib.hid ((HB9.out.alloc (by omega) (.cells #[.int .i64 x.dev, .int .i64 x.seq, .int .i64 x.stamp, .int .i64 x.kind, .string x.item, .int .i64 x.qty, .int .i64 x.level, .int .i64 (max x.undos u)] 77)).grown hgrow (by simp; omega) (fun j hj => (hown1.lt j hj).1))
    have HRn : Hid (z3.ownsRow base 77 8 v' (A ++ R.take q ++ [(x.with (max x.undos u))]).length (opCells (A ++ R.take q ++ [(x.with (max x.undos u))]))) := by
     show World.ownsRow _ _ _ _ _ _ _
     have e7 : (A ++ R.take q ++ [(x.with (max x.undos u))]).length = (A ++ R.take q).length + 1 := by rw [List.length_append]; rfl
     rw [opCells_snoc, e7, hAp]
     exact hown2
    clear hown1 hown2 hgrow d0 d1 d2 d3 d4 d5 d6 d7
    have HDn : Hid (Ops w1 B r3 (R.drop (q + 1)).length (R.drop (q + 1))) := by show Ops _ _ _ _ _; rw [List.length_drop]; exact HD3.out
    have hrn : (R.drop (q + 1)).length ≤ (rc - (q + 1)) := by rw [List.length_drop]; omega
    have hrl : (R.drop (q + 1)).length = R.length - (q + 1) := List.length_drop
    go_wp2
    go_roundw
    case rel => exact ⟨k + 1, _, A ++ R.take q ++ [(x.with (max x.undos u))], R.drop (q + 1), _, _, by omega, rfl, by first | (rw [hrl]; done) | rw [hrl, Nat.sub_sub, Nat.sub_sub], by go_num, hrn, HUx, HDn, HRn, HBn⟩
    case measure => simp [intOf]; omega
   ·skip
    go_simp
    have hb1 := hbz0.alloc hbz0.size (.cells #[.int .i64 0, .int .i64 0, .int .i64 0, .int .i64 0, .string ⟨#[]⟩, .int .i64 0, .int .i64 0, .int .i64 0] 77)
    refine hK.out _ _ (HSk _ hb1) (fun hHeld2 => ?_)
    clear hK K
    (try simp only [Act.put, u1, u2, u3])
    have HN := Lib.hid (boxAt (Below.refl _ (z0.alloc (.cells #[.int .i64 0, .int .i64 0, .int .i64 0, .int .i64 0, .string ⟨#[]⟩, .int .i64 0, .int .i64 0, .int .i64 0] 77))))
    have hnb : w7.heap.size ≤ z0.heap.size := hbz0.size
    generalize z0.alloc (.cells #[.int .i64 0, .int .i64 0, .int .i64 0, .int .i64 0, .string ⟨#[]⟩, .int .i64 0, .int .i64 0, .int .i64 0] 77) = z1 at hb1 HN hHeld2 ⊢
    generalize z0.heap.size = nb at HN hnb ⊢
    refine rk 5 rfl (fun K hK => ?_)
    go_simp
    go_at_call 51
    refine (joinedYes x u z1).mono ?_
    rintro e z2 ⟨rfl, hbj⟩
    have hb2z := hb1.trans (hbj.mono hb1.size)
    refine hK.out _ _ (HSk _ hb2z) (fun hHeld3 => ?_)
    clear hK K
    (try simp only [Act.put, u1, u2, u3])
    have HN := Lib.hid ((hbj.block nb (lt_of_row HN.out)).trans HN.out)
    refine tk 6 ⟨some 50, .move (.tmp 56), 96, "l07_deltas.go:43", #[⟨5, .data⟩], none⟩ ?_
    (try simp only [Act.put, u1, u2, u3])
    refine tk 7 ⟨some 57, .extract (.tmp 50) 0, 77, "l07_deltas.go:43", #[⟨6, .data⟩], none⟩ ?_
    (try simp only [Act.put, u1, u2, u3])
    refine tk 8 ⟨some 58, .extract (.tmp 50) 1, 4, "l07_deltas.go:43", #[⟨6, .data⟩, { on := 10, ground := Ground.gcOnly Departure.lateStores }], none⟩ ?_
    (try simp only [Act.put, u1, u2, u3])
    obtain ⟨g0, g1, g2, g3, g4, g5, g6, g7⟩ := op_cells HN.out
    obtain ⟨f0, f1, f2, f3, f4, f5, f6, f7⟩ := op_frozen HN.out
    have hb3 : Below w7.heap.size w7 ((((((((z2.setCell ⟨nb, 0, none⟩ (.int .i64 x.dev)).setCell ⟨nb, 1, none⟩ (.int .i64 x.seq)).setCell ⟨nb, 2, none⟩ (.int .i64 x.stamp)).setCell ⟨nb, 3, none⟩ (.int .i64 x.kind)).setCell ⟨nb, 4, none⟩ (.string x.item)).setCell ⟨nb, 5, none⟩ (.int .i64 x.qty)).setCell ⟨nb, 6, none⟩ (.int .i64 x.level)).setCell ⟨nb, 7, none⟩ (.int .i64 (max x.undos u))) := setOp_below _ _ _ _ _ _ _ _ hb2z hnb
    have HN3 : Hid (((((((((z2.setCell ⟨nb, 0, none⟩ (.int .i64 x.dev)).setCell ⟨nb, 1, none⟩ (.int .i64 x.seq)).setCell ⟨nb, 2, none⟩ (.int .i64 x.stamp)).setCell ⟨nb, 3, none⟩ (.int .i64 x.kind)).setCell ⟨nb, 4, none⟩ (.string x.item)).setCell ⟨nb, 5, none⟩ (.int .i64 x.qty)).setCell ⟨nb, 6, none⟩ (.int .i64 x.level)).setCell ⟨nb, 7, none⟩ (.int .i64 (max x.undos u))).heap[nb]? = some (.cells #[.int .i64 x.dev, .int .i64 x.seq, .int .i64 x.stamp, .int .i64 x.kind, .string x.item, .int .i64 x.qty, .int .i64 x.level, .int .i64 (max x.undos u)] 77 (0, 0))) := setOp_same _ _ _ _ _ _ _ _ HN.out
    refine rk 10 rfl (fun K hK => ?_)
    go_simp
    refine hK.out _ _ (HSk _ hb3) (fun hHeld5 => ?_)
    clear hK K
    (try simp only [Act.put, u1, u2, u3])
    refine tk 11 ⟨some 15, .assign (.tmp 58), 4, "l07_deltas.go:43", #[⟨8, .data⟩, ⟨10, .chain⟩, ⟨0, .phase⟩, ⟨1, .phase⟩, ⟨2, .phase⟩, ⟨3, .phase⟩, ⟨4, .phase⟩, ⟨5, .phase⟩, ⟨6, .phase⟩, ⟨7, .phase⟩, ⟨8, .phase⟩, ⟨9, .phase⟩, ⟨10, .phase⟩], none⟩ ?_
    (try simp only [Act.put, u1, u2, u3])
    refine wpAnyH_done (by kernel_rfl) ?_ _
    clear g0 g1 g2 g3 g4 g5 g6 g7 f0 f1 f2 f3 f4 f5 f6 f7 HSk hHeld2 hHeld3 hHeld5 hS
    generalize ((((((((z2.setCell ⟨nb, 0, none⟩ (.int .i64 x.dev)).setCell ⟨nb, 1, none⟩ (.int .i64 x.seq)).setCell ⟨nb, 2, none⟩ (.int .i64 x.stamp)).setCell ⟨nb, 3, none⟩ (.int .i64 x.kind)).setCell ⟨nb, 4, none⟩ (.string x.item)).setCell ⟨nb, 5, none⟩ (.int .i64 x.qty)).setCell ⟨nb, 6, none⟩ (.int .i64 x.level)).setCell ⟨nb, 7, none⟩ (.int .i64 (max x.undos u))) = w8 at hb3 HN3 ⊢
    have hs8 := hb3.size
    have HR8 := Lib.hid (own_row_kept HR7.out hb3)
    have HX8 := Lib.hid ((hb3.block ob (lt_of_row HXo7.out)).trans HXo7.out)
    have HT8 := Lib.hid (HT7.out.low hb3 (lt_of_row HT7.out.res))
    have HB8 := Lib.hid (HB7.out.trans (hb3.mono (by omega)))
    clear hb3 HR7 HXo7 HT7 HB7 hbz0 hb1 hb2z hbj HN
    obtain ⟨g0, g1, g2, g3, g4, g5, g6, g7⟩ := op_cells HN3.out
    obtain ⟨d0, d1, d2, d3, d4, d5, d6, d7⟩ := op_cells HX8.out
    obtain ⟨f0, f1, f2, f3, f4, f5, f6, f7⟩ := op_frozen HX8.out
    have HX9 : Hid (((((((((w8.setCell ⟨ob, 0, none⟩ (.int .i64 x.dev)).setCell ⟨ob, 1, none⟩ (.int .i64 x.seq)).setCell ⟨ob, 2, none⟩ (.int .i64 x.stamp)).setCell ⟨ob, 3, none⟩ (.int .i64 x.kind)).setCell ⟨ob, 4, none⟩ (.string x.item)).setCell ⟨ob, 5, none⟩ (.int .i64 x.qty)).setCell ⟨ob, 6, none⟩ (.int .i64 x.level)).setCell ⟨ob, 7, none⟩ (.int .i64 (max x.undos u))).heap[ob]? = some (.cells #[.int .i64 x.dev, .int .i64 x.seq, .int .i64 x.stamp, .int .i64 x.kind, .string x.item, .int .i64 x.qty, .int .i64 x.level, .int .i64 (max x.undos u)] 77 (0, 0))) := setOp_same _ _ _ _ _ _ _ _ HX8.out
    have HB9 : Hid (Below base w1 ((((((((w8.setCell ⟨ob, 0, none⟩ (.int .i64 x.dev)).setCell ⟨ob, 1, none⟩ (.int .i64 x.seq)).setCell ⟨ob, 2, none⟩ (.int .i64 x.stamp)).setCell ⟨ob, 3, none⟩ (.int .i64 x.kind)).setCell ⟨ob, 4, none⟩ (.string x.item)).setCell ⟨ob, 5, none⟩ (.int .i64 x.qty)).setCell ⟨ob, 6, none⟩ (.int .i64 x.level)).setCell ⟨ob, 7, none⟩ (.int .i64 (max x.undos u)))) := setOp_below _ _ _ _ _ _ _ _ HB8.out hbo
    have HR9 : Hid (((((((((w8.setCell ⟨ob, 0, none⟩ (.int .i64 x.dev)).setCell ⟨ob, 1, none⟩ (.int .i64 x.seq)).setCell ⟨ob, 2, none⟩ (.int .i64 x.stamp)).setCell ⟨ob, 3, none⟩ (.int .i64 x.kind)).setCell ⟨ob, 4, none⟩ (.string x.item)).setCell ⟨ob, 5, none⟩ (.int .i64 x.qty)).setCell ⟨ob, 6, none⟩ (.int .i64 x.level)).setCell ⟨ob, 7, none⟩ (.int .i64 (max x.undos u))).ownsRow base 77 8 v7 (A ++ R.take q).length (opCells (A ++ R.take q))) := row_setOp HR8.out HLt7.out _ _ _ _ _ _ _ _
    go_upto_region 14 with fail
    clear g0 g1 g2 g3 g4 g5 g6 g7 d0 d1 d2 d3 d4 d5 d6 d7 f0 f1 f2 f3 f4 f5 f6 f7 HX8 HR8 HB8 HT8 HN3
    generalize ((((((((w8.setCell ⟨ob, 0, none⟩ (.int .i64 x.dev)).setCell ⟨ob, 1, none⟩ (.int .i64 x.seq)).setCell ⟨ob, 2, none⟩ (.int .i64 x.stamp)).setCell ⟨ob, 3, none⟩ (.int .i64 x.kind)).setCell ⟨ob, 4, none⟩ (.string x.item)).setCell ⟨ob, 5, none⟩ (.int .i64 x.qty)).setCell ⟨ob, 6, none⟩ (.int .i64 x.level)).setCell ⟨ob, 7, none⟩ (.int .i64 (max x.undos u))) = w9 at HX9 HB9 HR9 ⊢
    go_upto_region 15 with fail
    have hdd : (R.drop q).drop 1 = R.drop (q + 1) := by rw [List.drop_drop]
    have HDy : Ops w1 B (if rc - q = 1 then some ⟨b2, off2, none⟩ else some ⟨b2, off2 + 8, none⟩) (R.length - (q + 1)) (R.drop (q + 1)) := by
     split
     ·have h0 : R.length - (q + 1) = 0 := by omega
      rw [h0]
      exact ⟨by rw [List.length_drop]; exact h0, fun i hi => absurd hi (by omega)⟩
     ·have h1 := ops_tail HD2.out (p := 1) (by omega)
      rw [hdd, Nat.sub_sub] at h1
      exact h1
    generalize (if rc - q = 1 then some (⟨b2, off2, none⟩ : Addr) else some ⟨b2, off2 + 8, none⟩) = r3 at HDy ⊢
    have HD3 := Lib.hid HDy
    have hs9 : base ≤ w9.heap.size := by have := HB9.out.size; omega
    clear HDy hdd
    obtain ⟨d0, d1, d2, d3, d4, d5, d6, d7⟩ := op_cells HX9.out
    have hown1 := HR9.out.alloc (.cells #[.int .i64 x.dev, .int .i64 x.seq, .int .i64 x.stamp, .int .i64 x.kind, .string x.item, .int .i64 x.qty, .int .i64 x.level, .int .i64 (max x.undos u)] 77)
    go_wp2_with (at_builtin; refine wpList_append_own _ rfl _ _ 27 rfl base 77 i0 (.agg #[.int .i64 0, .int .i64 0, .int .i64 0, .int .i64 0, .string ⟨#[]⟩, .int .i64 0, .int .i64 0, .int .i64 0]) 8 72 Try.underlying27 hi hz0 hz1 hz2 rfl (by decide) _ _ _ rfl hown1 ⟨w9.heap.size, 0, none⟩ 1 1 (opRow (x.with (max x.undos u))) rfl ?c0 ?c1 ?c2 ?c3 ?c4 ?c5 ?_)
    case c0 => rfl
    case c1 => exact opRow_new w9 (x.with (max x.undos u))
    case c2 =>
     intro uu hu
     exact opCells_one [(x.with (max x.undos u))] uu (by show uu ∈ opRow (x.with (max x.undos u)) ++ []; rw [List.append_nil]; exact hu)
    case c3 => unfold maxLen; omega
    case c4 => omega
    case c5 => simp; omega
    intro v' z3 hown2 hgrow _
    have HBn := Lib.hid ((HB9.out.alloc (by omega) (.cells #[.int .i64 x.dev, .int .i64 x.seq, .int .i64 x.stamp, .int .i64 x.kind, .string x.item, .int .i64 x.qty, .int .i64 x.level, .int .i64 (max x.undos u)] 77)).grown hgrow (by simp; omega) (fun j hj => (hown1.lt j hj).1))
    have HRn : Hid (z3.ownsRow base 77 8 v' (A ++ R.take q ++ [(x.with (max x.undos u))]).length (opCells (A ++ R.take q ++ [(x.with (max x.undos u))]))) := by
     show World.ownsRow _ _ _ _ _ _ _
     have e7 : (A ++ R.take q ++ [(x.with (max x.undos u))]).length = (A ++ R.take q).length + 1 := by rw [List.length_append]; rfl
     rw [opCells_snoc, e7, hAp]
     exact hown2
    clear hown1 hown2 hgrow d0 d1 d2 d3 d4 d5 d6 d7
    have HDn : Hid (Ops w1 B r3 (R.drop (q + 1)).length (R.drop (q + 1))) := by show Ops _ _ _ _ _; rw [List.length_drop]; exact HD3.out
    have hrn : (R.drop (q + 1)).length ≤ (rc - (q + 1)) := by rw [List.length_drop]; omega
    have hrl : (R.drop (q + 1)).length = R.length - (q + 1) := List.length_drop
    go_wp2
    go_roundw
    case rel => exact ⟨k + 1, _, A ++ R.take q ++ [(x.with (max x.undos u))], R.drop (q + 1), _, _, by omega, rfl, by first | (rw [hrl]; done) | rw [hrl, Nat.sub_sub, Nat.sub_sub], by go_num, hrn, HUx, HDn, HRn, HBn⟩
    case measure => simp [intOf]; omega
end Go.Proofs.Ytdbdmfaphdjdpaa
