/- Walks and mathematics that several claims share, part 12. -/
import Derived.Test.YthkagbnpcjidfaaGreatDoorGu11
import Derived.Laws.Rows
import Derived.Laws.Tables
import Derived.OwnWalkIn
import Derived.Deep.Cut
import Derived.Lib.MinMax
namespace Go
open Go.RowKit
set_option linter.unusedVariables false
set_option linter.unusedSimpArgs false
theorem oP {F : Fence} {n : Nat} {P : Program} {ops : Array Oper} {rest : List Oper} {o : Oper} {a : Act} {w : World} {Q : Exit → Act → World → Prop} (vO : o.guard = none) (ty : TypeId) (x : Operand) (ho : o.op = .load ty x)
  (g : Nat) (hx : a.eval x = .pointer (some ⟨g, 0, none⟩)) (t : TypeId) (cs : Array Value) (fr : Nat × Nat) (d : TypeDesc) (hg : w.heap[g]? = some (.cells cs t fr))
  (hu : P.underlying ty = some d) (hd : (match d with | .struct _ | .array _ _ => true | _ => false) = true) (hi : (P.info? ty).map (·.size) = some cs.size)
  (h : wpListIn F n P ops Q rest (a.put o.dst (.agg cs)) w) : wpListIn F n P ops Q (o :: rest) a w := by
 refine wpListIn_plain vO fun K hK' => ?_
 unfold Oper.wpIn
 refine ⟨?_, ?_⟩
 ·simp [Oper.about, ho]
 ·rw [Oper.semAt_plain F _ _ (by rw [ho]; intro c hc'; cases hc')]
  simp only [execOp, ho, hx, Instr.loadAt, Instr.sureAddr, Sem.run_bind, Sem.run_pure, Result.andThen_ok, run_loadVar_row w g t ty cs fr d hg hu hd hi]
  exact hK' _ _ h
theorem sF {F : Fence} {n : Nat} {P : Program} {ops : Array Oper} {rest : List Oper} {o : Oper} {a : Act} {w : World} {Q : Exit → Act → World → Prop} (vO : o.guard = none) (ty : TypeId) (x y : Operand) (ho : o.op = .store ty x y)
  (g : Nat) (cells : Array Value) (hx : a.eval x = .pointer (some ⟨g, 0, none⟩)) (hy : a.eval y = .agg cells)
  (t : TypeId) (zZ : Array Value) (hg : w.heap[g]? = some (.cells zZ t (0, 0))) (hi : (P.info? ty).map (·.size) = some cells.size)
  (aFk : zZ.size = cells.size) (h1 : cells.all (·.oneCell') = true)
  (h : wpListIn F n P ops Q rest (a.put o.dst undef) (w.setRow g cells)) : wpListIn F n P ops Q (o :: rest) a w := by
 refine wpListIn_plain vO fun K hK' => ?_
 unfold Oper.wpIn
 refine ⟨?_, ?_⟩
 ·simp [Oper.about, ho]
 ·rw [Oper.semAt_plain F _ _ (by rw [ho]; intro c hc'; cases hc')]
  simp only [execOp, ho, hx, hy, Instr.storeAt, Instr.sureAddr, Sem.run_bind, Sem.run_pure, Result.andThen_ok, run_storeVar_row w g t ty zZ cells hg hi aFk h1]
  exact hK' _ _ h
end Go
namespace Go.Proofs.YthkagbnpcjidfaaGreatDoor
set_option maxRecDepth 100000
open Go.RowKit
theorem Tryz.sizeSt : (Tryz.prog.info? 96).map (·.size) = some 17 := by kernel_rfl
theorem cL.size (s : cL) : s.cells.size = 17 := rfl
theorem cL.one (s : cL) : s.cells.all (·.oneCell') = true := by simp [cL.cells, Value.oneCell']
theorem cL.infoOf (s : cL) : (Tryz.prog.info? 96).map (·.size) = some s.cells.size := by rw [cL.size]; exact Tryz.sizeSt
def aA.cells (o : aA) : Array Value := #[.int .i64 o.dev, .int .i64 o.seq, .int .i64 o.stamp, .int .i64 o.kind, .string o.item, .int .i64 o.qty, .int .i64 o.level, .int .i64 o.undos]
theorem aKL : cL.zero.cells = #[.int .i64 0, .int .i64 0, .int .i64 0, .int .i64 0, .int .i64 0, .string ⟨#[]⟩, .int .i64 0, .int .i64 0, .int .i64 0, .int .i64 0, .int .i64 0, .int .i64 0, .int .i64 0, .string ⟨#[]⟩, .int .i64 0, .int .i64 0, .int .i64 0] := rfl
theorem eY {B g : Nat} {w0 w : World} {zZ cs : Array Value} {t : TypeId} (h : Below B w0 w) (hb : B ≤ g) (_hg : w.heap[g]? = some (.cells zZ t (0, 0))) : Below B w0 (w.setRow g cs) :=
 ⟨h.os, h.tape, h.output, by have e : (w.setRow g cs).heap.size = w.heap.size := by simp [World.setRow]
                             rw [e]; exact h.size, fun k hk => (setRow_other w g k cs (by omega)).trans (h.block k hk)⟩
theorem kH.put {w w1 : World} {x y z : Array Value} {S T U : TypeId} (h : kH w w1 x y z S T U) (i : Nat) (v : Value) : kH w (w1.setCell ⟨w.heap.size, i, none⟩ v) (x.setIfInBounds i v) y z S T U :=
 ⟨heap_setCell_same _ _ _ _ _ _ h.fst, (heap_setCell_other _ _ _ _ (by show w.heap.size + 1 ≠ w.heap.size; omega)).trans h.snd, (heap_setCell_other _ _ _ _ (by show w.heap.size + 1 + 1 ≠ w.heap.size; omega)).trans h.res, h.bel.setCell (p := ⟨w.heap.size, i, none⟩) aPq v⟩
theorem kH.putAt {w w1 : World} {x y z : Array Value} {S T U : TypeId} (h : kH w w1 x y z S T U) (off : Nat) (o : aA) : kH w (X2 w1 w.heap.size off o) (gC x off o) y z S T U :=
 ⟨aAe o h.fst, (Y7 o (by omega)).trans h.snd, (Y7 o (by omega)).trans h.res, Y8 o h.bel aPq⟩
theorem aEv (s : cL) (c : aA) : gC s.cells 1 c = (⟨s.level, c, s.placed⟩ : cL).cells := by simp [gC, cL.cells]
theorem aBa (s : cL) (c : aA) : gC s.cells 9 c = (⟨s.level, s.counted, c⟩ : cL).cells := by simp [gC, cL.cells]
theorem aKN {s : cL} {o : aA} (h : o.kind = 1) : eW s o = ⟨max s.level o.level, iM s.counted o, iM s.placed o⟩ := by unfold eW; rw [h]; rfl
theorem aKM {s : cL} {o : aA} (h : o.kind = 2) : eW s o = ⟨max s.level o.level, iM s.counted o, s.placed⟩ := by unfold eW; rw [h]; rfl
theorem aF0 {s : cL} {o : aA} (h : o.kind = 4 ∨ o.kind = 5) : eW s o = ⟨max s.level o.level, s.counted, iM s.placed o⟩ := by
 unfold eW
 rcases h with h | h <;> (rw [h]; rfl)
theorem aKO {s : cL} {o : aA} (h1 : o.kind ≠ 1) (h2 : o.kind ≠ 2) (h4 : o.kind ≠ 4) (h5 : o.kind ≠ 5) : eW s o = ⟨max s.level o.level, s.counted, s.placed⟩ := by
 unfold eW tB gT
 rw [decide_eq_false (by omega), decide_eq_false (by omega)]
 rfl
theorem Y2 {a b : Int} (h : a = b) : (a == b) = true := by rw [h]; exact beq_self_eq_true _
theorem qU {a b : Int} (h : a ≠ b) : (a == b) = false := by rw [beq_eq_false_iff_ne]; exact h
theorem lH {w : World} {b : Nat} {s : cL} {T : TypeId} (h : w.heap[b]? = some (.cells s.cells T (0, 0))) : w.cell? ⟨b, 0, none⟩ = some (.int .i64 s.level) ∧ w.cell? ⟨b, 1, none⟩ = some (.int .i64 s.counted.dev) ∧ w.cell? ⟨b, 2, none⟩ = some (.int .i64 s.counted.seq) ∧ w.cell? ⟨b, 3, none⟩ = some (.int .i64 s.counted.stamp) ∧ w.cell? ⟨b, 4, none⟩ = some (.int .i64 s.counted.kind) ∧ w.cell? ⟨b, 5, none⟩ = some (.string s.counted.item) ∧ w.cell? ⟨b, 6, none⟩ = some (.int .i64 s.counted.qty) ∧ w.cell? ⟨b, 7, none⟩ = some (.int .i64 s.counted.level) ∧ w.cell? ⟨b, 8, none⟩ = some (.int .i64 s.counted.undos) ∧ w.cell? ⟨b, 9, none⟩ = some (.int .i64 s.placed.dev) ∧ w.cell? ⟨b, 10, none⟩ = some (.int .i64 s.placed.seq) ∧ w.cell? ⟨b, 11, none⟩ = some (.int .i64 s.placed.stamp) ∧ w.cell? ⟨b, 12, none⟩ = some (.int .i64 s.placed.kind) ∧ w.cell? ⟨b, 13, none⟩ = some (.string s.placed.item) ∧ w.cell? ⟨b, 14, none⟩ = some (.int .i64 s.placed.qty) ∧ w.cell? ⟨b, 15, none⟩ = some (.int .i64 s.placed.level) ∧ w.cell? ⟨b, 16, none⟩ = some (.int .i64 s.placed.undos) :=
 ⟨aPr h, aPr h, aPr h, aPr h, aPr h, aPr h, aPr h, aPr h, aPr h, aPr h, aPr h, aPr h, aPr h, aPr h, aPr h, aPr h, aPr h⟩
theorem fS {w : World} {b : Nat} {o : aA} {T : TypeId} (h : w.heap[b]? = some (.cells o.cells T (0, 0))) : w.cell? ⟨b, 0, none⟩ = some (.int .i64 o.dev) ∧ w.cell? ⟨b, 1, none⟩ = some (.int .i64 o.seq) ∧ w.cell? ⟨b, 2, none⟩ = some (.int .i64 o.stamp) ∧ w.cell? ⟨b, 3, none⟩ = some (.int .i64 o.kind) ∧ w.cell? ⟨b, 4, none⟩ = some (.string o.item) ∧ w.cell? ⟨b, 5, none⟩ = some (.int .i64 o.qty) ∧ w.cell? ⟨b, 6, none⟩ = some (.int .i64 o.level) ∧ w.cell? ⟨b, 7, none⟩ = some (.int .i64 o.undos) :=
 ⟨aPr h, aPr h, aPr h, aPr h, aPr h, aPr h, aPr h, aPr h⟩
set_option maxHeartbeats 20000000 in
theorem aKS (s : cL) (o : aA) (w : World) (h1 : o.kind = 1) : Calls Tryz.prog 93 #[.agg s.cells, .agg o.cells] w fun e w' => e = .returned (eW s o).val ∧ Below w.heap.size w w' := by
 have H := aPo (kH.mk0 w s.cells o.cells #[.int .i64 0, .int .i64 0, .int .i64 0, .int .i64 0, .int .i64 0, .string ⟨#[]⟩, .int .i64 0, .int .i64 0, .int .i64 0, .int .i64 0, .int .i64 0, .int .i64 0, .int .i64 0, .string ⟨#[]⟩, .int .i64 0, .int .i64 0, .int .i64 0] 96 50 96)
 have HE := aPo (aKN (s := s) h1)
 have b1 := Y2 h1
 clear h1
 go_enter Tryz.func93, Tryz.ntmps93
 go_upto_region 1 with fail
 generalize ((w.alloc (.cells s.cells 96)).alloc (.cells o.cells 50)).alloc (.cells #[.int .i64 0, .int .i64 0, .int .i64 0, .int .i64 0, .int .i64 0, .string ⟨#[]⟩, .int .i64 0, .int .i64 0, .int .i64 0, .int .i64 0, .int .i64 0, .int .i64 0, .int .i64 0, .string ⟨#[]⟩, .int .i64 0, .int .i64 0, .int .i64 0] 96) = w0 at H ⊢
 have cl := (lH H.out.fst).1
 have fl := (kO H.out.fst).1
 obtain ⟨_, _, _, o3, _, _, o6, _⟩ := fS H.out.snd
 clear o3
 go_upto_region 2 with fail
 have H1 : Hid (kH w (w0.setCell ⟨w.heap.size, 0, none⟩ (.int .i64 (max s.level o.level))) (⟨max s.level o.level, s.counted, s.placed⟩ : cL).cells o.cells #[.int .i64 0, .int .i64 0, .int .i64 0, .int .i64 0, .int .i64 0, .string ⟨#[]⟩, .int .i64 0, .int .i64 0, .int .i64 0, .int .i64 0, .int .i64 0, .int .i64 0, .int .i64 0, .string ⟨#[]⟩, .int .i64 0, .int .i64 0, .int .i64 0] 96 50 96) := H.out.put 0 (.int .i64 (max s.level o.level))
 generalize w0.setCell ⟨w.heap.size, 0, none⟩ (.int .i64 (max s.level o.level)) = w1 at H1 ⊢
 generalize max s.level o.level = ml at HE H1 ⊢
 clear cl fl o6 H
 generalize s.counted = cn at HE H1 ⊢
 generalize s.placed = pl at HE H1 ⊢
 obtain ⟨o0, o1, o2, o3, o4, o5, o6, o7⟩ := fS H1.out.snd
 obtain ⟨_, c0, c1, c2, c3, c4, c5, c6, c7, _, _, _, _, _, _, _, _⟩ := lH H1.out.fst
 go_wp2_with fail
 refine (R2 cn o w1).mono ?_
 rintro e u1 ⟨rfl, hb⟩
 have K0 := aPo (H1.out.next hb)
 clear hb H1 c0 c1 c2 c3 c4 c5 c6 c7 o0 o1 o2 o3 o4 o5 o6 o7
 generalize iM cn o = n1 at HE ⊢
 simp only [aA.val]
 obtain ⟨_, c0, c1, c2, c3, c4, c5, c6, c7, _, _, _, _, _, _, _, _⟩ := lH K0.out.fst
 obtain ⟨_, f0, f1, f2, f3, f4, f5, f6, f7, _, _, _, _, _, _, _, _⟩ := kO K0.out.fst
 obtain ⟨o0, o1, o2, o3, o4, o5, o6, o7⟩ := fS K0.out.snd
 go_upto_region 5 with fail
 have J0 : Hid (kH w ((((((((u1.setCell ⟨w.heap.size, 1, none⟩ (.int .i64 n1.dev)).setCell ⟨w.heap.size, 2, none⟩ (.int .i64 n1.seq)).setCell ⟨w.heap.size, 3, none⟩ (.int .i64 n1.stamp)).setCell ⟨w.heap.size, 4, none⟩ (.int .i64 n1.kind)).setCell ⟨w.heap.size, 5, none⟩ (.string n1.item)).setCell ⟨w.heap.size, 6, none⟩ (.int .i64 n1.qty)).setCell ⟨w.heap.size, 7, none⟩ (.int .i64 n1.level)).setCell ⟨w.heap.size, 8, none⟩ (.int .i64 n1.undos)) (⟨ml, n1, pl⟩ : cL).cells o.cells #[.int .i64 0, .int .i64 0, .int .i64 0, .int .i64 0, .int .i64 0, .string ⟨#[]⟩, .int .i64 0, .int .i64 0, .int .i64 0, .int .i64 0, .int .i64 0, .int .i64 0, .int .i64 0, .string ⟨#[]⟩, .int .i64 0, .int .i64 0, .int .i64 0] 96 50 96) := by have h := K0.out.putAt 1 n1; rw [aEv] at h; exact h
 generalize ((((((((u1.setCell ⟨w.heap.size, 1, none⟩ (.int .i64 n1.dev)).setCell ⟨w.heap.size, 2, none⟩ (.int .i64 n1.seq)).setCell ⟨w.heap.size, 3, none⟩ (.int .i64 n1.stamp)).setCell ⟨w.heap.size, 4, none⟩ (.int .i64 n1.kind)).setCell ⟨w.heap.size, 5, none⟩ (.string n1.item)).setCell ⟨w.heap.size, 6, none⟩ (.int .i64 n1.qty)).setCell ⟨w.heap.size, 7, none⟩ (.int .i64 n1.level)).setCell ⟨w.heap.size, 8, none⟩ (.int .i64 n1.undos)) = x1 at J0 ⊢
 clear K0 c0 c1 c2 c3 c4 c5 c6 c7 f0 f1 f2 f3 f4 f5 f6 f7 o0 o1 o2 o3 o4 o5 o6 o7
 obtain ⟨o0, o1, o2, o3, o4, o5, o6, o7⟩ := fS J0.out.snd
 obtain ⟨_, _, _, _, _, _, _, _, _, c0, c1, c2, c3, c4, c5, c6, c7⟩ := lH J0.out.fst
 go_wp2_with fail
 refine (R2 pl o x1).mono ?_
 rintro e u2 ⟨rfl, hb⟩
 have K1 := aPo (J0.out.next hb)
 clear hb J0 c0 c1 c2 c3 c4 c5 c6 c7 o0 o1 o2 o3 o4 o5 o6 o7
 generalize iM pl o = n2 at HE ⊢
 simp only [aA.val]
 obtain ⟨_, _, _, _, _, _, _, _, _, c0, c1, c2, c3, c4, c5, c6, c7⟩ := lH K1.out.fst
 obtain ⟨_, _, _, _, _, _, _, _, _, f0, f1, f2, f3, f4, f5, f6, f7⟩ := kO K1.out.fst
 obtain ⟨o0, o1, o2, o3, o4, o5, o6, o7⟩ := fS K1.out.snd
 go_upto_region 11 with fail
 have J1 : Hid (kH w ((((((((u2.setCell ⟨w.heap.size, 9, none⟩ (.int .i64 n2.dev)).setCell ⟨w.heap.size, 10, none⟩ (.int .i64 n2.seq)).setCell ⟨w.heap.size, 11, none⟩ (.int .i64 n2.stamp)).setCell ⟨w.heap.size, 12, none⟩ (.int .i64 n2.kind)).setCell ⟨w.heap.size, 13, none⟩ (.string n2.item)).setCell ⟨w.heap.size, 14, none⟩ (.int .i64 n2.qty)).setCell ⟨w.heap.size, 15, none⟩ (.int .i64 n2.level)).setCell ⟨w.heap.size, 16, none⟩ (.int .i64 n2.undos)) (⟨ml, n1, n2⟩ : cL).cells o.cells #[.int .i64 0, .int .i64 0, .int .i64 0, .int .i64 0, .int .i64 0, .string ⟨#[]⟩, .int .i64 0, .int .i64 0, .int .i64 0, .int .i64 0, .int .i64 0, .int .i64 0, .int .i64 0, .string ⟨#[]⟩, .int .i64 0, .int .i64 0, .int .i64 0] 96 50 96) := by have h := K1.out.putAt 9 n2; rw [aBa] at h; exact h
 generalize ((((((((u2.setCell ⟨w.heap.size, 9, none⟩ (.int .i64 n2.dev)).setCell ⟨w.heap.size, 10, none⟩ (.int .i64 n2.seq)).setCell ⟨w.heap.size, 11, none⟩ (.int .i64 n2.stamp)).setCell ⟨w.heap.size, 12, none⟩ (.int .i64 n2.kind)).setCell ⟨w.heap.size, 13, none⟩ (.string n2.item)).setCell ⟨w.heap.size, 14, none⟩ (.int .i64 n2.qty)).setCell ⟨w.heap.size, 15, none⟩ (.int .i64 n2.level)).setCell ⟨w.heap.size, 16, none⟩ (.int .i64 n2.undos)) = x2 at J1 ⊢
 clear K1 c0 c1 c2 c3 c4 c5 c6 c7 f0 f1 f2 f3 f4 f5 f6 f7 o0 o1 o2 o3 o4 o5 o6 o7
 generalize hs : (⟨ml, n1, n2⟩ : cL) = s3 at J1
 have HS := aPo hs
 clear hs
 go_wp2_with (first | (refine wpList_load_row rfl 96 (.tmp 2) rfl w.heap.size rfl 96 s3.cells (0, 0) _ J1.out.fst Tryz.underlying96 rfl s3.infoOf ?_) | (refine wpList_store_row rfl 96 (.tmp 4) (.tmp 40) rfl (w.heap.size + 1 + 1) s3.cells rfl rfl 96 #[.int .i64 0, .int .i64 0, .int .i64 0, .int .i64 0, .int .i64 0, .string ⟨#[]⟩, .int .i64 0, .int .i64 0, .int .i64 0, .int .i64 0, .int .i64 0, .int .i64 0, .int .i64 0, .string ⟨#[]⟩, .int .i64 0, .int .i64 0, .int .i64 0] J1.out.res s3.infoOf (by rw [cL.size]; rfl) s3.one ?_))
 have HX := setRow_heap x2 (w.heap.size + 1 + 1) #[.int .i64 0, .int .i64 0, .int .i64 0, .int .i64 0, .int .i64 0, .string ⟨#[]⟩, .int .i64 0, .int .i64 0, .int .i64 0, .int .i64 0, .int .i64 0, .int .i64 0, .int .i64 0, .string ⟨#[]⟩, .int .i64 0, .int .i64 0, .int .i64 0] s3.cells 96 (0, 0) J1.out.res
 exact bodyPost_ret (results_cell_row rfl _ _ _ _ _ _ _ rfl HX Tryz.underlying96 rfl s3.infoOf) rfl ⟨by rw [HE.out, HS.out]; rfl, eY J1.out.bel (by omega) J1.out.res⟩
set_option maxHeartbeats 20000000 in
theorem aKR (s : cL) (o : aA) (w : World) (h2 : o.kind = 2) : Calls Tryz.prog 93 #[.agg s.cells, .agg o.cells] w fun e w' => e = .returned (eW s o).val ∧ Below w.heap.size w w' := by
 have H := aPo (kH.mk0 w s.cells o.cells #[.int .i64 0, .int .i64 0, .int .i64 0, .int .i64 0, .int .i64 0, .string ⟨#[]⟩, .int .i64 0, .int .i64 0, .int .i64 0, .int .i64 0, .int .i64 0, .int .i64 0, .int .i64 0, .string ⟨#[]⟩, .int .i64 0, .int .i64 0, .int .i64 0] 96 50 96)
 have HE := aPo (aKM (s := s) h2)
 have b1 : (o.kind == 1) = false := qU (by omega)
 have b2 := Y2 h2
 clear h2
 go_enter Tryz.func93, Tryz.ntmps93
 go_upto_region 1 with fail
 generalize ((w.alloc (.cells s.cells 96)).alloc (.cells o.cells 50)).alloc (.cells #[.int .i64 0, .int .i64 0, .int .i64 0, .int .i64 0, .int .i64 0, .string ⟨#[]⟩, .int .i64 0, .int .i64 0, .int .i64 0, .int .i64 0, .int .i64 0, .int .i64 0, .int .i64 0, .string ⟨#[]⟩, .int .i64 0, .int .i64 0, .int .i64 0] 96) = w0 at H ⊢
 have cl := (lH H.out.fst).1
 have fl := (kO H.out.fst).1
 obtain ⟨_, _, _, o3, _, _, o6, _⟩ := fS H.out.snd
 clear o3
 go_upto_region 2 with fail
 have H1 : Hid (kH w (w0.setCell ⟨w.heap.size, 0, none⟩ (.int .i64 (max s.level o.level))) (⟨max s.level o.level, s.counted, s.placed⟩ : cL).cells o.cells #[.int .i64 0, .int .i64 0, .int .i64 0, .int .i64 0, .int .i64 0, .string ⟨#[]⟩, .int .i64 0, .int .i64 0, .int .i64 0, .int .i64 0, .int .i64 0, .int .i64 0, .int .i64 0, .string ⟨#[]⟩, .int .i64 0, .int .i64 0, .int .i64 0] 96 50 96) := H.out.put 0 (.int .i64 (max s.level o.level))
 generalize w0.setCell ⟨w.heap.size, 0, none⟩ (.int .i64 (max s.level o.level)) = w1 at H1 ⊢
 generalize max s.level o.level = ml at HE H1 ⊢
 clear cl fl o6 H
 generalize s.counted = cn at HE H1 ⊢
 generalize s.placed = pl at HE H1 ⊢
 obtain ⟨o0, o1, o2, o3, o4, o5, o6, o7⟩ := fS H1.out.snd
 obtain ⟨_, c0, c1, c2, c3, c4, c5, c6, c7, _, _, _, _, _, _, _, _⟩ := lH H1.out.fst
 go_wp2_with fail
 refine (R2 cn o w1).mono ?_
 rintro e u1 ⟨rfl, hb⟩
 have K0 := aPo (H1.out.next hb)
 clear hb H1 c0 c1 c2 c3 c4 c5 c6 c7 o0 o1 o2 o3 o4 o5 o6 o7
 generalize iM cn o = n1 at HE ⊢
 simp only [aA.val]
 obtain ⟨_, c0, c1, c2, c3, c4, c5, c6, c7, _, _, _, _, _, _, _, _⟩ := lH K0.out.fst
 obtain ⟨_, f0, f1, f2, f3, f4, f5, f6, f7, _, _, _, _, _, _, _, _⟩ := kO K0.out.fst
 obtain ⟨o0, o1, o2, o3, o4, o5, o6, o7⟩ := fS K0.out.snd
 go_upto_region 11 with fail
 have J0 : Hid (kH w ((((((((u1.setCell ⟨w.heap.size, 1, none⟩ (.int .i64 n1.dev)).setCell ⟨w.heap.size, 2, none⟩ (.int .i64 n1.seq)).setCell ⟨w.heap.size, 3, none⟩ (.int .i64 n1.stamp)).setCell ⟨w.heap.size, 4, none⟩ (.int .i64 n1.kind)).setCell ⟨w.heap.size, 5, none⟩ (.string n1.item)).setCell ⟨w.heap.size, 6, none⟩ (.int .i64 n1.qty)).setCell ⟨w.heap.size, 7, none⟩ (.int .i64 n1.level)).setCell ⟨w.heap.size, 8, none⟩ (.int .i64 n1.undos)) (⟨ml, n1, pl⟩ : cL).cells o.cells #[.int .i64 0, .int .i64 0, .int .i64 0, .int .i64 0, .int .i64 0, .string ⟨#[]⟩, .int .i64 0, .int .i64 0, .int .i64 0, .int .i64 0, .int .i64 0, .int .i64 0, .int .i64 0, .string ⟨#[]⟩, .int .i64 0, .int .i64 0, .int .i64 0] 96 50 96) := by have h := K0.out.putAt 1 n1; rw [aEv] at h; exact h
 generalize ((((((((u1.setCell ⟨w.heap.size, 1, none⟩ (.int .i64 n1.dev)).setCell ⟨w.heap.size, 2, none⟩ (.int .i64 n1.seq)).setCell ⟨w.heap.size, 3, none⟩ (.int .i64 n1.stamp)).setCell ⟨w.heap.size, 4, none⟩ (.int .i64 n1.kind)).setCell ⟨w.heap.size, 5, none⟩ (.string n1.item)).setCell ⟨w.heap.size, 6, none⟩ (.int .i64 n1.qty)).setCell ⟨w.heap.size, 7, none⟩ (.int .i64 n1.level)).setCell ⟨w.heap.size, 8, none⟩ (.int .i64 n1.undos)) = x1 at J0 ⊢
 clear K0 c0 c1 c2 c3 c4 c5 c6 c7 f0 f1 f2 f3 f4 f5 f6 f7 o0 o1 o2 o3 o4 o5 o6 o7
 generalize hs : (⟨ml, n1, pl⟩ : cL) = s3 at J0
 have HS := aPo hs
 clear hs
 go_wp2_with (first | (refine wpList_load_row rfl 96 (.tmp 2) rfl w.heap.size rfl 96 s3.cells (0, 0) _ J0.out.fst Tryz.underlying96 rfl s3.infoOf ?_) | (refine wpList_store_row rfl 96 (.tmp 4) (.tmp 40) rfl (w.heap.size + 1 + 1) s3.cells rfl rfl 96 #[.int .i64 0, .int .i64 0, .int .i64 0, .int .i64 0, .int .i64 0, .string ⟨#[]⟩, .int .i64 0, .int .i64 0, .int .i64 0, .int .i64 0, .int .i64 0, .int .i64 0, .int .i64 0, .string ⟨#[]⟩, .int .i64 0, .int .i64 0, .int .i64 0] J0.out.res s3.infoOf (by rw [cL.size]; rfl) s3.one ?_))
 have HX := setRow_heap x1 (w.heap.size + 1 + 1) #[.int .i64 0, .int .i64 0, .int .i64 0, .int .i64 0, .int .i64 0, .string ⟨#[]⟩, .int .i64 0, .int .i64 0, .int .i64 0, .int .i64 0, .int .i64 0, .int .i64 0, .int .i64 0, .string ⟨#[]⟩, .int .i64 0, .int .i64 0, .int .i64 0] s3.cells 96 (0, 0) J0.out.res
 exact bodyPost_ret (results_cell_row rfl _ _ _ _ _ _ _ rfl HX Tryz.underlying96 rfl s3.infoOf) rfl ⟨by rw [HE.out, HS.out]; rfl, eY J0.out.bel (by omega) J0.out.res⟩
set_option maxHeartbeats 20000000 in
theorem aKQ (s : cL) (o : aA) (w : World) (h4 : o.kind = 4) : Calls Tryz.prog 93 #[.agg s.cells, .agg o.cells] w fun e w' => e = .returned (eW s o).val ∧ Below w.heap.size w w' := by
 have H := aPo (kH.mk0 w s.cells o.cells #[.int .i64 0, .int .i64 0, .int .i64 0, .int .i64 0, .int .i64 0, .string ⟨#[]⟩, .int .i64 0, .int .i64 0, .int .i64 0, .int .i64 0, .int .i64 0, .int .i64 0, .int .i64 0, .string ⟨#[]⟩, .int .i64 0, .int .i64 0, .int .i64 0] 96 50 96)
 have HE := aPo (aF0 (s := s) (.inl h4))
 have b1 : (o.kind == 1) = false := qU (by omega)
 have b2 : (o.kind == 2) = false := qU (by omega)
 have b4 := Y2 h4
 clear h4
 go_enter Tryz.func93, Tryz.ntmps93
 go_upto_region 1 with fail
 generalize ((w.alloc (.cells s.cells 96)).alloc (.cells o.cells 50)).alloc (.cells #[.int .i64 0, .int .i64 0, .int .i64 0, .int .i64 0, .int .i64 0, .string ⟨#[]⟩, .int .i64 0, .int .i64 0, .int .i64 0, .int .i64 0, .int .i64 0, .int .i64 0, .int .i64 0, .string ⟨#[]⟩, .int .i64 0, .int .i64 0, .int .i64 0] 96) = w0 at H ⊢
 have cl := (lH H.out.fst).1
 have fl := (kO H.out.fst).1
 obtain ⟨_, _, _, o3, _, _, o6, _⟩ := fS H.out.snd
 clear o3
 go_upto_region 2 with fail
 have H1 : Hid (kH w (w0.setCell ⟨w.heap.size, 0, none⟩ (.int .i64 (max s.level o.level))) (⟨max s.level o.level, s.counted, s.placed⟩ : cL).cells o.cells #[.int .i64 0, .int .i64 0, .int .i64 0, .int .i64 0, .int .i64 0, .string ⟨#[]⟩, .int .i64 0, .int .i64 0, .int .i64 0, .int .i64 0, .int .i64 0, .int .i64 0, .int .i64 0, .string ⟨#[]⟩, .int .i64 0, .int .i64 0, .int .i64 0] 96 50 96) := H.out.put 0 (.int .i64 (max s.level o.level))
 generalize w0.setCell ⟨w.heap.size, 0, none⟩ (.int .i64 (max s.level o.level)) = w1 at H1 ⊢
 generalize max s.level o.level = ml at HE H1 ⊢
 clear cl fl o6 H
 generalize s.counted = cn at HE H1 ⊢
 generalize s.placed = pl at HE H1 ⊢
 obtain ⟨o0, o1, o2, o3, o4, o5, o6, o7⟩ := fS H1.out.snd
 obtain ⟨_, _, _, _, _, _, _, _, _, c0, c1, c2, c3, c4, c5, c6, c7⟩ := lH H1.out.fst
 go_wp2_with fail
 refine (R2 pl o w1).mono ?_
 rintro e u1 ⟨rfl, hb⟩
 have K0 := aPo (H1.out.next hb)
 clear hb H1 c0 c1 c2 c3 c4 c5 c6 c7 o0 o1 o2 o3 o4 o5 o6 o7
 generalize iM pl o = n1 at HE ⊢
 simp only [aA.val]
 obtain ⟨_, _, _, _, _, _, _, _, _, c0, c1, c2, c3, c4, c5, c6, c7⟩ := lH K0.out.fst
 obtain ⟨_, _, _, _, _, _, _, _, _, f0, f1, f2, f3, f4, f5, f6, f7⟩ := kO K0.out.fst
 obtain ⟨o0, o1, o2, o3, o4, o5, o6, o7⟩ := fS K0.out.snd
 go_upto_region 11 with fail
 have J0 : Hid (kH w ((((((((u1.setCell ⟨w.heap.size, 9, none⟩ (.int .i64 n1.dev)).setCell ⟨w.heap.size, 10, none⟩ (.int .i64 n1.seq)).setCell ⟨w.heap.size, 11, none⟩ (.int .i64 n1.stamp)).setCell ⟨w.heap.size, 12, none⟩ (.int .i64 n1.kind)).setCell ⟨w.heap.size, 13, none⟩ (.string n1.item)).setCell ⟨w.heap.size, 14, none⟩ (.int .i64 n1.qty)).setCell ⟨w.heap.size, 15, none⟩ (.int .i64 n1.level)).setCell ⟨w.heap.size, 16, none⟩ (.int .i64 n1.undos)) (⟨ml, cn, n1⟩ : cL).cells o.cells #[.int .i64 0, .int .i64 0, .int .i64 0, .int .i64 0, .int .i64 0, .string ⟨#[]⟩, .int .i64 0, .int .i64 0, .int .i64 0, .int .i64 0, .int .i64 0, .int .i64 0, .int .i64 0, .string ⟨#[]⟩, .int .i64 0, .int .i64 0, .int .i64 0] 96 50 96) := by have h := K0.out.putAt 9 n1; rw [aBa] at h; exact h
 generalize ((((((((u1.setCell ⟨w.heap.size, 9, none⟩ (.int .i64 n1.dev)).setCell ⟨w.heap.size, 10, none⟩ (.int .i64 n1.seq)).setCell ⟨w.heap.size, 11, none⟩ (.int .i64 n1.stamp)).setCell ⟨w.heap.size, 12, none⟩ (.int .i64 n1.kind)).setCell ⟨w.heap.size, 13, none⟩ (.string n1.item)).setCell ⟨w.heap.size, 14, none⟩ (.int .i64 n1.qty)).setCell ⟨w.heap.size, 15, none⟩ (.int .i64 n1.level)).setCell ⟨w.heap.size, 16, none⟩ (.int .i64 n1.undos)) = x1 at J0 ⊢
 clear K0 c0 c1 c2 c3 c4 c5 c6 c7 f0 f1 f2 f3 f4 f5 f6 f7 o0 o1 o2 o3 o4 o5 o6 o7
 generalize hs : (⟨ml, cn, n1⟩ : cL) = s3 at J0
 have HS := aPo hs
 clear hs
 go_wp2_with (first | (refine wpList_load_row rfl 96 (.tmp 2) rfl w.heap.size rfl 96 s3.cells (0, 0) _ J0.out.fst Tryz.underlying96 rfl s3.infoOf ?_) | (refine wpList_store_row rfl 96 (.tmp 4) (.tmp 40) rfl (w.heap.size + 1 + 1) s3.cells rfl rfl 96 #[.int .i64 0, .int .i64 0, .int .i64 0, .int .i64 0, .int .i64 0, .string ⟨#[]⟩, .int .i64 0, .int .i64 0, .int .i64 0, .int .i64 0, .int .i64 0, .int .i64 0, .int .i64 0, .string ⟨#[]⟩, .int .i64 0, .int .i64 0, .int .i64 0] J0.out.res s3.infoOf (by rw [cL.size]; rfl) s3.one ?_))
 have HX := setRow_heap x1 (w.heap.size + 1 + 1) #[.int .i64 0, .int .i64 0, .int .i64 0, .int .i64 0, .int .i64 0, .string ⟨#[]⟩, .int .i64 0, .int .i64 0, .int .i64 0, .int .i64 0, .int .i64 0, .int .i64 0, .int .i64 0, .string ⟨#[]⟩, .int .i64 0, .int .i64 0, .int .i64 0] s3.cells 96 (0, 0) J0.out.res
 exact bodyPost_ret (results_cell_row rfl _ _ _ _ _ _ _ rfl HX Tryz.underlying96 rfl s3.infoOf) rfl ⟨by rw [HE.out, HS.out]; rfl, eY J0.out.bel (by omega) J0.out.res⟩
set_option maxHeartbeats 20000000 in
theorem aKP (s : cL) (o : aA) (w : World) (h5 : o.kind = 5) : Calls Tryz.prog 93 #[.agg s.cells, .agg o.cells] w fun e w' => e = .returned (eW s o).val ∧ Below w.heap.size w w' := by
 have H := aPo (kH.mk0 w s.cells o.cells #[.int .i64 0, .int .i64 0, .int .i64 0, .int .i64 0, .int .i64 0, .string ⟨#[]⟩, .int .i64 0, .int .i64 0, .int .i64 0, .int .i64 0, .int .i64 0, .int .i64 0, .int .i64 0, .string ⟨#[]⟩, .int .i64 0, .int .i64 0, .int .i64 0] 96 50 96)
 have HE := aPo (aF0 (s := s) (.inr h5))
 have b1 : (o.kind == 1) = false := qU (by omega)
 have b2 : (o.kind == 2) = false := qU (by omega)
 have b4 : (o.kind == 4) = false := qU (by omega)
 have b5 := Y2 h5
 clear h5
 go_enter Tryz.func93, Tryz.ntmps93
 go_upto_region 1 with fail
 generalize ((w.alloc (.cells s.cells 96)).alloc (.cells o.cells 50)).alloc (.cells #[.int .i64 0, .int .i64 0, .int .i64 0, .int .i64 0, .int .i64 0, .string ⟨#[]⟩, .int .i64 0, .int .i64 0, .int .i64 0, .int .i64 0, .int .i64 0, .int .i64 0, .int .i64 0, .string ⟨#[]⟩, .int .i64 0, .int .i64 0, .int .i64 0] 96) = w0 at H ⊢
 have cl := (lH H.out.fst).1
 have fl := (kO H.out.fst).1
 obtain ⟨_, _, _, o3, _, _, o6, _⟩ := fS H.out.snd
 clear o3
 go_upto_region 2 with fail
 have H1 : Hid (kH w (w0.setCell ⟨w.heap.size, 0, none⟩ (.int .i64 (max s.level o.level))) (⟨max s.level o.level, s.counted, s.placed⟩ : cL).cells o.cells #[.int .i64 0, .int .i64 0, .int .i64 0, .int .i64 0, .int .i64 0, .string ⟨#[]⟩, .int .i64 0, .int .i64 0, .int .i64 0, .int .i64 0, .int .i64 0, .int .i64 0, .int .i64 0, .string ⟨#[]⟩, .int .i64 0, .int .i64 0, .int .i64 0] 96 50 96) := H.out.put 0 (.int .i64 (max s.level o.level))
 generalize w0.setCell ⟨w.heap.size, 0, none⟩ (.int .i64 (max s.level o.level)) = w1 at H1 ⊢
 generalize max s.level o.level = ml at HE H1 ⊢
 clear cl fl o6 H
 generalize s.counted = cn at HE H1 ⊢
 generalize s.placed = pl at HE H1 ⊢
 obtain ⟨o0, o1, o2, o3, o4, o5, o6, o7⟩ := fS H1.out.snd
 obtain ⟨_, _, _, _, _, _, _, _, _, c0, c1, c2, c3, c4, c5, c6, c7⟩ := lH H1.out.fst
 go_wp2_with fail
 refine (R2 pl o w1).mono ?_
 rintro e u1 ⟨rfl, hb⟩
 have K0 := aPo (H1.out.next hb)
 clear hb H1 c0 c1 c2 c3 c4 c5 c6 c7 o0 o1 o2 o3 o4 o5 o6 o7
 generalize iM pl o = n1 at HE ⊢
 simp only [aA.val]
 obtain ⟨_, _, _, _, _, _, _, _, _, c0, c1, c2, c3, c4, c5, c6, c7⟩ := lH K0.out.fst
 obtain ⟨_, _, _, _, _, _, _, _, _, f0, f1, f2, f3, f4, f5, f6, f7⟩ := kO K0.out.fst
 obtain ⟨o0, o1, o2, o3, o4, o5, o6, o7⟩ := fS K0.out.snd
 go_upto_region 11 with fail
 have J0 : Hid (kH w ((((((((u1.setCell ⟨w.heap.size, 9, none⟩ (.int .i64 n1.dev)).setCell ⟨w.heap.size, 10, none⟩ (.int .i64 n1.seq)).setCell ⟨w.heap.size, 11, none⟩ (.int .i64 n1.stamp)).setCell ⟨w.heap.size, 12, none⟩ (.int .i64 n1.kind)).setCell ⟨w.heap.size, 13, none⟩ (.string n1.item)).setCell ⟨w.heap.size, 14, none⟩ (.int .i64 n1.qty)).setCell ⟨w.heap.size, 15, none⟩ (.int .i64 n1.level)).setCell ⟨w.heap.size, 16, none⟩ (.int .i64 n1.undos)) (⟨ml, cn, n1⟩ : cL).cells o.cells #[.int .i64 0, .int .i64 0, .int .i64 0, .int .i64 0, .int .i64 0, .string ⟨#[]⟩, .int .i64 0, .int .i64 0, .int .i64 0, .int .i64 0, .int .i64 0, .int .i64 0, .int .i64 0, .string ⟨#[]⟩, .int .i64 0, .int .i64 0, .int .i64 0] 96 50 96) := by have h := K0.out.putAt 9 n1; rw [aBa] at h; exact h
 generalize ((((((((u1.setCell ⟨w.heap.size, 9, none⟩ (.int .i64 n1.dev)).setCell ⟨w.heap.size, 10, none⟩ (.int .i64 n1.seq)).setCell ⟨w.heap.size, 11, none⟩ (.int .i64 n1.stamp)).setCell ⟨w.heap.size, 12, none⟩ (.int .i64 n1.kind)).setCell ⟨w.heap.size, 13, none⟩ (.string n1.item)).setCell ⟨w.heap.size, 14, none⟩ (.int .i64 n1.qty)).setCell ⟨w.heap.size, 15, none⟩ (.int .i64 n1.level)).setCell ⟨w.heap.size, 16, none⟩ (.int .i64 n1.undos)) = x1 at J0 ⊢
 clear K0 c0 c1 c2 c3 c4 c5 c6 c7 f0 f1 f2 f3 f4 f5 f6 f7 o0 o1 o2 o3 o4 o5 o6 o7
 generalize hs : (⟨ml, cn, n1⟩ : cL) = s3 at J0
 have HS := aPo hs
 clear hs
 go_wp2_with (first | (refine wpList_load_row rfl 96 (.tmp 2) rfl w.heap.size rfl 96 s3.cells (0, 0) _ J0.out.fst Tryz.underlying96 rfl s3.infoOf ?_) | (refine wpList_store_row rfl 96 (.tmp 4) (.tmp 40) rfl (w.heap.size + 1 + 1) s3.cells rfl rfl 96 #[.int .i64 0, .int .i64 0, .int .i64 0, .int .i64 0, .int .i64 0, .string ⟨#[]⟩, .int .i64 0, .int .i64 0, .int .i64 0, .int .i64 0, .int .i64 0, .int .i64 0, .int .i64 0, .string ⟨#[]⟩, .int .i64 0, .int .i64 0, .int .i64 0] J0.out.res s3.infoOf (by rw [cL.size]; rfl) s3.one ?_))
 have HX := setRow_heap x1 (w.heap.size + 1 + 1) #[.int .i64 0, .int .i64 0, .int .i64 0, .int .i64 0, .int .i64 0, .string ⟨#[]⟩, .int .i64 0, .int .i64 0, .int .i64 0, .int .i64 0, .int .i64 0, .int .i64 0, .int .i64 0, .string ⟨#[]⟩, .int .i64 0, .int .i64 0, .int .i64 0] s3.cells 96 (0, 0) J0.out.res
 exact bodyPost_ret (results_cell_row rfl _ _ _ _ _ _ _ rfl HX Tryz.underlying96 rfl s3.infoOf) rfl ⟨by rw [HE.out, HS.out]; rfl, eY J0.out.bel (by omega) J0.out.res⟩
set_option maxHeartbeats 20000000 in
theorem aKT (s : cL) (o : aA) (w : World) (h1 : o.kind ≠ 1) (h2 : o.kind ≠ 2) (h4 : o.kind ≠ 4) (h5 : o.kind ≠ 5) : Calls Tryz.prog 93 #[.agg s.cells, .agg o.cells] w fun e w' => e = .returned (eW s o).val ∧ Below w.heap.size w w' := by
 have H := aPo (kH.mk0 w s.cells o.cells #[.int .i64 0, .int .i64 0, .int .i64 0, .int .i64 0, .int .i64 0, .string ⟨#[]⟩, .int .i64 0, .int .i64 0, .int .i64 0, .int .i64 0, .int .i64 0, .int .i64 0, .int .i64 0, .string ⟨#[]⟩, .int .i64 0, .int .i64 0, .int .i64 0] 96 50 96)
 have HE := aPo (aKO (s := s) h1 h2 h4 h5)
 have b1 := qU h1
 have b2 := qU h2
 have b4 := qU h4
 have b5 := qU h5
 clear h1 h2 h4 h5
 go_enter Tryz.func93, Tryz.ntmps93
 go_upto_region 1 with fail
 generalize ((w.alloc (.cells s.cells 96)).alloc (.cells o.cells 50)).alloc (.cells #[.int .i64 0, .int .i64 0, .int .i64 0, .int .i64 0, .int .i64 0, .string ⟨#[]⟩, .int .i64 0, .int .i64 0, .int .i64 0, .int .i64 0, .int .i64 0, .int .i64 0, .int .i64 0, .string ⟨#[]⟩, .int .i64 0, .int .i64 0, .int .i64 0] 96) = w0 at H ⊢
 have cl := (lH H.out.fst).1
 have fl := (kO H.out.fst).1
 obtain ⟨_, _, _, o3, _, _, o6, _⟩ := fS H.out.snd
 clear o3
 go_upto_region 2 with fail
 have H1 : Hid (kH w (w0.setCell ⟨w.heap.size, 0, none⟩ (.int .i64 (max s.level o.level))) (⟨max s.level o.level, s.counted, s.placed⟩ : cL).cells o.cells #[.int .i64 0, .int .i64 0, .int .i64 0, .int .i64 0, .int .i64 0, .string ⟨#[]⟩, .int .i64 0, .int .i64 0, .int .i64 0, .int .i64 0, .int .i64 0, .int .i64 0, .int .i64 0, .string ⟨#[]⟩, .int .i64 0, .int .i64 0, .int .i64 0] 96 50 96) := H.out.put 0 (.int .i64 (max s.level o.level))
 generalize w0.setCell ⟨w.heap.size, 0, none⟩ (.int .i64 (max s.level o.level)) = w1 at H1 ⊢
 generalize max s.level o.level = ml at HE H1 ⊢
 clear cl fl o6 H
 generalize s.counted = cn at HE H1 ⊢
 generalize s.placed = pl at HE H1 ⊢
 have o3 := (fS H1.out.snd).2.2.2.1
 go_upto_region 11 with fail
 clear o3
 generalize hs : (⟨ml, cn, pl⟩ : cL) = s3 at H1
 have HS := aPo hs
 clear hs
 go_wp2_with (first | (refine wpList_load_row rfl 96 (.tmp 2) rfl w.heap.size rfl 96 s3.cells (0, 0) _ H1.out.fst Tryz.underlying96 rfl s3.infoOf ?_) | (refine wpList_store_row rfl 96 (.tmp 4) (.tmp 40) rfl (w.heap.size + 1 + 1) s3.cells rfl rfl 96 #[.int .i64 0, .int .i64 0, .int .i64 0, .int .i64 0, .int .i64 0, .string ⟨#[]⟩, .int .i64 0, .int .i64 0, .int .i64 0, .int .i64 0, .int .i64 0, .int .i64 0, .int .i64 0, .string ⟨#[]⟩, .int .i64 0, .int .i64 0, .int .i64 0] H1.out.res s3.infoOf (by rw [cL.size]; rfl) s3.one ?_))
 have HX := setRow_heap w1 (w.heap.size + 1 + 1) #[.int .i64 0, .int .i64 0, .int .i64 0, .int .i64 0, .int .i64 0, .string ⟨#[]⟩, .int .i64 0, .int .i64 0, .int .i64 0, .int .i64 0, .int .i64 0, .int .i64 0, .int .i64 0, .string ⟨#[]⟩, .int .i64 0, .int .i64 0, .int .i64 0] s3.cells 96 (0, 0) H1.out.res
 exact bodyPost_ret (results_cell_row rfl _ _ _ _ _ _ _ rfl HX Tryz.underlying96 rfl s3.infoOf) rfl ⟨by rw [HE.out, HS.out]; rfl, eY H1.out.bel (by omega) H1.out.res⟩
theorem aJh (s : cL) (o : aA) (w : World) : Calls Tryz.prog 93 #[s.val, o.val] w fun e w' => e = .returned (eW s o).val ∧ Below w.heap.size w w' := by
 by_cases h1 : o.kind = 1
 ·exact aKS s o w h1
 by_cases h2 : o.kind = 2
 ·exact aKR s o w h2
 by_cases h4 : o.kind = 4
 ·exact aKQ s o w h4
 by_cases h5 : o.kind = 5
 ·exact aKP s o w h5
 exact aKT s o w h1 h2 h4 h5
theorem mM (s : cL) (h0 : 0 ≤ s.level) (w : World) : Calls Tryz.prog 64 #[.agg s.cells] w fun e w' => e = .returned (.bool (decide (s.level % 2 = 1))) ∧ Below w.heap.size w w' := by
 have bD : Below w.heap.size w (w.alloc (.cells s.cells 96)) := (Below.refl _ w).alloc aPq _
 have cl := (lH (World.alloc_heap_new w (.cells s.cells 96))).1
 by_cases hm : s.level % 2 = 1
 ·have wO : (s.level % 2 == 1) = true := by rw [hm]; rfl
  have HD := aPo (decide_eq_true hm); have HB := aPo bD; clear hm bD
  go_enter Tryz.func64, Tryz.ntmps64
  go_wp2
  go_ret
  exact ⟨by rw [HD.out]; rfl, HB.out⟩
 ·have wO : (s.level % 2 == 1) = false := by rw [beq_eq_false_iff_ne]; exact hm
  have HD := aPo (decide_eq_false hm); have HB := aPo bD; clear hm bD
  go_enter Tryz.func64, Tryz.ntmps64
  go_wp2
  go_ret
  exact ⟨by rw [HD.out]; rfl, HB.out⟩
end Go.Proofs.YthkagbnpcjidfaaGreatDoor
namespace Go.Proofs.YthkagbnpcjidfaaGreatDoor
set_option maxRecDepth 100000
open Go.RowKit Go.Shelf
attribute [local go_sem] Oper.semAt_some
set_option maxHeartbeats 20000000 in
theorem Z1 {B : Nat} {W W' : World} (h : Below W.heap.size W W') : KeepsFrom B W W' := KeepsFrom.of_grownBy (below_grown h) (fun j e => by cases e)
theorem setRow_size (W : World) (g : Nat) (cs : Array Value) : (W.setRow g cs).heap.size = W.heap.size := by simp [World.setRow]
theorem aCP {B g : Nat} {W : World} {cs : Array Value} (h : g < B) : KeepsFrom B W (W.setRow g cs) := KeepsFrom.of_grownBy (row := some g) ⟨rfl, rfl, rfl, Nat.le_of_eq (setRow_size W g cs).symm, fun k _ bO => setRow_other W g k cs (fun e => bO (by rw [e]))⟩ (fun j e => by cases e; exact h)
theorem l5 {a b : ByteArray} (h : a.toList = b.toList) : a = b := by
 rw [Lib.toList_data, Lib.toList_data] at h
 exact ByteArray.ext (Array.toList_inj.1 h)
theorem Tryz.sizeOp : (Tryz.prog.info? 50).map (·.size) = some 8 := by kernel_rfl
theorem aA.infoOp (o : aA) : (Tryz.prog.info? 50).map (·.size) = some o.cells.size := by show _ = some 8; exact Tryz.sizeOp
set_option maxHeartbeats 20000000 in
theorem rC (w : World) (B : Nat) (av ao : Option Addr) (nv cv no co : Nat) (xs : List Int) (l : List aA) (item : ByteArray) (hx : Ints w B av nv xs) (h : bP w B ao no l) (hB : B ≤ w.heap.size) (hv : nv ≤ 1048576) (hc : no ≤ co) (dP : Fits no co) : Calls Tryz.prog 153 #[.agg #[.slice av nv cv, .slice ao no co], .string item] w fun e w' => e = .returned (.agg (cA item (counted xs l)).cells) ∧ Below w.heap.size w w' := by
 have yO : no ≤ 1048576 := dP.1
 have HX := aPo (hx.more hB)
 have HO := aPo (h.more hB)
 clear hx h hB
 refine (callsIn_wide (n := 8)).1 ?_
 refine callsIn_of_wp_marks Tryz.func153 rfl trivial ?_ rfl
 simp only [Tryz.ntmps153, List.size_toArray, List.length_cons, List.length_nil, Nat.reduceAdd, Nat.reduceSub, Array.replicate_succ, Array.replicate_zero, List.push_toArray, List.append_toArray, List.nil_append, List.cons_append]
 gi_wp2_with fail
 refine ⟨trivial, (aBm _ _ _).mono ?_⟩
 rintro e w' ⟨rfl, rfl⟩
 have aG := (((Boxed.new (w.alloc (.cells #[.slice av nv cv, .slice ao no co] 27)) 9 (.string item)).alloc (.cells #[.int .i64 0, .int .i64 0, .int .i64 0, .int .i64 0, .int .i64 0, .string ⟨#[]⟩, .int .i64 0, .int .i64 0, .int .i64 0, .int .i64 0, .int .i64 0, .int .i64 0, .int .i64 0, .string ⟨#[]⟩, .int .i64 0, .int .i64 0, .int .i64 0] 96)).alloc (.cells #[.int .i64 0, .int .i64 0, .int .i64 0, .int .i64 0, .int .i64 0, .string ⟨#[]⟩, .int .i64 0, .int .i64 0, .int .i64 0, .int .i64 0, .int .i64 0, .int .i64 0, .int .i64 0, .string ⟨#[]⟩, .int .i64 0, .int .i64 0, .int .i64 0] 96)).alloc (.cells #[.slice av nv cv, .slice ao no co] 27)
 have aM : (((((w.alloc (.cells #[.slice av nv cv, .slice ao no co] 27)).alloc (.cells #[.string item] 9)).alloc (.cells #[.int .i64 0, .int .i64 0, .int .i64 0, .int .i64 0, .int .i64 0, .string ⟨#[]⟩, .int .i64 0, .int .i64 0, .int .i64 0, .int .i64 0, .int .i64 0, .int .i64 0, .int .i64 0, .string ⟨#[]⟩, .int .i64 0, .int .i64 0, .int .i64 0] 96)).alloc (.cells #[.int .i64 0, .int .i64 0, .int .i64 0, .int .i64 0, .int .i64 0, .string ⟨#[]⟩, .int .i64 0, .int .i64 0, .int .i64 0, .int .i64 0, .int .i64 0, .int .i64 0, .int .i64 0, .string ⟨#[]⟩, .int .i64 0, .int .i64 0, .int .i64 0] 96)).alloc (.cells #[.slice av nv cv, .slice ao no co] 27)).heap[w.heap.size + 1 + 1]? = some (.cells #[.int .i64 0, .int .i64 0, .int .i64 0, .int .i64 0, .int .i64 0, .string ⟨#[]⟩, .int .i64 0, .int .i64 0, .int .i64 0, .int .i64 0, .int .i64 0, .int .i64 0, .int .i64 0, .string ⟨#[]⟩, .int .i64 0, .int .i64 0, .int .i64 0] 96 (0, 0)) := by
  have e : ((w.alloc (.cells #[.slice av nv cv, .slice ao no co] 27)).alloc (.cells #[.string item] 9)).heap.size = w.heap.size + 1 + 1 := by simp
  rw [Below.heap_alloc _ _ _ (by simp), Below.heap_alloc _ _ _ (by simp), ← e]
  exact World.alloc_heap_new _ _
 have aV : (((((w.alloc (.cells #[.slice av nv cv, .slice ao no co] 27)).alloc (.cells #[.string item] 9)).alloc (.cells #[.int .i64 0, .int .i64 0, .int .i64 0, .int .i64 0, .int .i64 0, .string ⟨#[]⟩, .int .i64 0, .int .i64 0, .int .i64 0, .int .i64 0, .int .i64 0, .int .i64 0, .int .i64 0, .string ⟨#[]⟩, .int .i64 0, .int .i64 0, .int .i64 0] 96)).alloc (.cells #[.int .i64 0, .int .i64 0, .int .i64 0, .int .i64 0, .int .i64 0, .string ⟨#[]⟩, .int .i64 0, .int .i64 0, .int .i64 0, .int .i64 0, .int .i64 0, .int .i64 0, .int .i64 0, .string ⟨#[]⟩, .int .i64 0, .int .i64 0, .int .i64 0] 96)).alloc (.cells #[.slice av nv cv, .slice ao no co] 27)).heap[w.heap.size + 1 + 1 + 1]? = some (.cells #[.int .i64 0, .int .i64 0, .int .i64 0, .int .i64 0, .int .i64 0, .string ⟨#[]⟩, .int .i64 0, .int .i64 0, .int .i64 0, .int .i64 0, .int .i64 0, .int .i64 0, .int .i64 0, .string ⟨#[]⟩, .int .i64 0, .int .i64 0, .int .i64 0] 96 (0, 0)) := by
  have e : (((w.alloc (.cells #[.slice av nv cv, .slice ao no co] 27)).alloc (.cells #[.string item] 9)).alloc (.cells #[.int .i64 0, .int .i64 0, .int .i64 0, .int .i64 0, .int .i64 0, .string ⟨#[]⟩, .int .i64 0, .int .i64 0, .int .i64 0, .int .i64 0, .int .i64 0, .int .i64 0, .int .i64 0, .string ⟨#[]⟩, .int .i64 0, .int .i64 0, .int .i64 0] 96)).heap.size = w.heap.size + 1 + 1 + 1 := by simp
  rw [Below.heap_alloc _ _ _ (by simp), ← e]
  exact World.alloc_heap_new _ _
 have dJ := bX (Below.refl _ (((((w.alloc (.cells #[.slice av nv cv, .slice ao no co] 27)).alloc (.cells #[.string item] 9)).alloc (.cells #[.int .i64 0, .int .i64 0, .int .i64 0, .int .i64 0, .int .i64 0, .string ⟨#[]⟩, .int .i64 0, .int .i64 0, .int .i64 0, .int .i64 0, .int .i64 0, .int .i64 0, .int .i64 0, .string ⟨#[]⟩, .int .i64 0, .int .i64 0, .int .i64 0] 96)).alloc (.cells #[.int .i64 0, .int .i64 0, .int .i64 0, .int .i64 0, .int .i64 0, .string ⟨#[]⟩, .int .i64 0, .int .i64 0, .int .i64 0, .int .i64 0, .int .i64 0, .int .i64 0, .int .i64 0, .string ⟨#[]⟩, .int .i64 0, .int .i64 0, .int .i64 0] 96)).alloc (.cells #[.slice av nv cv, .slice ao no co] 27)))
 have B2 : Below w.heap.size w (((((w.alloc (.cells #[.slice av nv cv, .slice ao no co] 27)).alloc (.cells #[.string item] 9)).alloc (.cells #[.int .i64 0, .int .i64 0, .int .i64 0, .int .i64 0, .int .i64 0, .string ⟨#[]⟩, .int .i64 0, .int .i64 0, .int .i64 0, .int .i64 0, .int .i64 0, .int .i64 0, .int .i64 0, .string ⟨#[]⟩, .int .i64 0, .int .i64 0, .int .i64 0] 96)).alloc (.cells #[.int .i64 0, .int .i64 0, .int .i64 0, .int .i64 0, .int .i64 0, .string ⟨#[]⟩, .int .i64 0, .int .i64 0, .int .i64 0, .int .i64 0, .int .i64 0, .int .i64 0, .int .i64 0, .string ⟨#[]⟩, .int .i64 0, .int .i64 0, .int .i64 0] 96)).alloc (.cells #[.slice av nv cv, .slice ao no co] 27)) := (((((Below.refl _ w).alloc aPq _).alloc (by simp) _).alloc (by simp; omega) _).alloc (by simp; omega) _).alloc (by simp; omega) _
 have dC : (((((w.alloc (.cells #[.slice av nv cv, .slice ao no co] 27)).alloc (.cells #[.string item] 9)).alloc (.cells #[.int .i64 0, .int .i64 0, .int .i64 0, .int .i64 0, .int .i64 0, .string ⟨#[]⟩, .int .i64 0, .int .i64 0, .int .i64 0, .int .i64 0, .int .i64 0, .int .i64 0, .int .i64 0, .string ⟨#[]⟩, .int .i64 0, .int .i64 0, .int .i64 0] 96)).alloc (.cells #[.int .i64 0, .int .i64 0, .int .i64 0, .int .i64 0, .int .i64 0, .string ⟨#[]⟩, .int .i64 0, .int .i64 0, .int .i64 0, .int .i64 0, .int .i64 0, .int .i64 0, .int .i64 0, .string ⟨#[]⟩, .int .i64 0, .int .i64 0, .int .i64 0] 96)).alloc (.cells #[.slice av nv cv, .slice ao no co] 27)).heap.size = w.heap.size + 1 + 1 + 1 + 1 + 1 := by simp
 simp only [World.size_alloc] at aG dJ
 gi_wp2
 generalize (((((w.alloc (.cells #[.slice av nv cv, .slice ao no co] 27)).alloc (.cells #[.string item] 9)).alloc (.cells #[.int .i64 0, .int .i64 0, .int .i64 0, .int .i64 0, .int .i64 0, .string ⟨#[]⟩, .int .i64 0, .int .i64 0, .int .i64 0, .int .i64 0, .int .i64 0, .int .i64 0, .int .i64 0, .string ⟨#[]⟩, .int .i64 0, .int .i64 0, .int .i64 0] 96)).alloc (.cells #[.int .i64 0, .int .i64 0, .int .i64 0, .int .i64 0, .int .i64 0, .string ⟨#[]⟩, .int .i64 0, .int .i64 0, .int .i64 0, .int .i64 0, .int .i64 0, .int .i64 0, .int .i64 0, .string ⟨#[]⟩, .int .i64 0, .int .i64 0, .int .i64 0] 96)).alloc (.cells #[.slice av nv cv, .slice ao no co] 27)) = W0 at aG aM aV dJ B2 dC ⊢
 rw [← aKL] at aV
 refine wpIn_rangeFunc_ownH rfl (by omega) (gf := 122) (lb := #[.pointer (some ⟨w.heap.size + 1 + 1 + 1 + 1, 0, none⟩)]) rfl trivial (enters_of Tryz.func122 (by kernel_rfl) rfl)
  (aAl _ (by omega) (w.heap.size + 1 + 1 + 1 + 1) w.heap.size av ao nv cv no co xs l hv hc dP W0 dJ (HX.out.below B2 aPq) (HO.out.below B2 aPq) (by omega))
  belowK_t (belowK_b (by omega)) (Below.refl _ _) (fun _ => rfl)
  (fun bJ W => (Boxed W (w.heap.size + 1) 9 (.string item) ∧ W.heap[w.heap.size + 1 + 1]? = some (.cells #[.int .i64 0, .int .i64 0, .int .i64 0, .int .i64 0, .int .i64 0, .string ⟨#[]⟩, .int .i64 0, .int .i64 0, .int .i64 0, .int .i64 0, .int .i64 0, .int .i64 0, .int .i64 0, .string ⟨#[]⟩, .int .i64 0, .int .i64 0, .int .i64 0] 96 (0, 0)) ∧ W.heap[w.heap.size + 1 + 1 + 1]? = some (.cells (cA item bJ).cells 96 (0, 0))) ∧ Below w.heap.size w W)
  (fun _ _ _ => False)
  (OwnFrom.and (OwnFrom.and (Own.from (boxed_own _ _ _) _) (OwnFrom.and (Own.from (rZ _ _ (fun _ => _)) _) (Own.from (rZ _ _ (fun bJ => (cA item bJ).cells)) _))) (ownFrom_below aPq (by omega)))
  (fun _ _ _ _ _ hs _ _ => hs)
  ⟨⟨aG, aM, aV⟩, B2⟩
  (fun x a' W => ∃ Bx, w.heap.size + 1 + 1 + 1 < Bx ∧ W.heap[Bx]? = some (.cells x.cells 50 (0, 0)) ∧ a' = { tmps := #[.agg #[.slice av nv cv, .slice ao no co], .string item, .pointer (some ⟨w.heap.size, 0, none⟩), .pointer (some ⟨w.heap.size + 1, 0, none⟩), .pointer (some ⟨w.heap.size + 1 + 1, 0, none⟩), .pointer (some ⟨w.heap.size + 1 + 1 + 1, 0, none⟩), .pointer (some ⟨Bx, 0, none⟩), .agg #[.slice av nv cv, .slice ao no co], .func (.func 122) #[] #[.pointer (some ⟨w.heap.size + 1 + 1 + 1 + 1, 0, none⟩)], aA.val x, undef, undef, undef, undef, undef, undef, undef, undef], defers := [] })
  (fun x a' s A B row hs hg hr => by
   obtain ⟨Bx, h1, h2, h3⟩ := hs; exact ⟨Bx, h1, (rZ (β := Unit) Bx _ (fun _ => _)).from _ () A B row h2 hg hr, h3⟩) ?assign ?body ?done ?stop
 case assign =>
  rintro lp bJ x W K ⟨⟨h1, h2, h3⟩, h4⟩ hK; unfold aA.val
  gi_wp2
  exact hK _ _ ((KeepsOthers.alloc _ _).from _) ((Below.refl _ W).alloc h4.size _) ⟨⟨h1.alloc _, (Below.heap_alloc _ _ _ (aPp h2).1).trans h2, (Below.heap_alloc _ _ _ (aPp h3).1).trans h3⟩, h4.alloc h4.size _⟩ ⟨W.heap.size, (aPp h3).1, World.alloc_heap_new W _, rfl⟩
 case body =>
  rintro lp bJ x a' W hl ⟨r, hr⟩ ⟨⟨h1, h2, h3⟩, h4⟩ ⟨Bx, hBx, hX, rfl⟩ mQ; have g1 := h1.cell; have d4 := (fS hX).2.2.2.2.1; have H1 := aPo h1; have H2 := aPo h2; have H3 := aPo h3; have H4 := aPo h4; have HXx := aPo hX; have HS := aPo (uZ item bJ x); clear h1 h2 h3 h4 hX hr
  by_cases hd : x.item = item
  rotate_left
  ·have hb : (x.item.toList == item.toList) = false := by rw [beq_eq_false_iff_ne]; exact fun h => hd (l5 h)
   have HE : Hid (cA item (bJ ++ [x]) = cA item bJ) := by show _ = _; rw [HS.out, if_neg hd]
   clear hd HS
   gi_wp2
   exact ⟨KeepsFrom.refl _ _, Below.refl _ _, ⟨H1.out, H2.out, by rw [HE.out]; exact H3.out⟩, H4.out⟩
  have hb : (x.item.toList == item.toList) = true := by rw [hd]; exact beq_self_eq_true _
  have HE : Hid (cA item (bJ ++ [x]) = eW (cA item bJ) x) := by show _ = _; rw [HS.out, if_pos hd]
  clear hd HS; generalize cA item bJ = s at H3 HE
  gi_wp2_with (first | (refine oP rfl 96 (.tmp 5) rfl (w.heap.size + 1 + 1 + 1) rfl 96 s.cells (0, 0) _ H3.out Tryz.underlying96 rfl s.infoOf ?_) | (refine oP rfl 50 (.tmp 6) rfl Bx rfl 50 x.cells (0, 0) _ HXx.out Tryz.underlying50 rfl (by exact x.infoOp) ?_))
  refine ⟨trivial, (CallsIn.inRound lp (callsIn_wide.2 (aJh s x W))).mono ?_⟩
  rintro e w2 ⟨rfl, aM⟩; have hX3 := (aM.block _ (aPp H3.out).1).trans H3.out; have A8 := (aM.block _ (aPp H2.out).1).trans H2.out; have hX1 := (aM.block _ H1.out.lt).trans H1.out; have HQ : Hid (KeepsFrom W0.heap.size W (w2.setRow (w.heap.size + 1 + 1 + 1) (eW s x).cells)) := (Z1 aM).trans (aCP (by omega))
  have HKp : Hid (Below w.heap.size W (w2.setRow (w.heap.size + 1 + 1 + 1) (eW s x).cells)) := eY (aM.mono H4.out.size) (by omega) hX3
  have HBe : Hid (Below w.heap.size w (w2.setRow (w.heap.size + 1 + 1 + 1) (eW s x).cells)) := eY (H4.out.trans (aM.mono H4.out.size)) (by omega) hX3
  have C6 : Hid (Boxed (w2.setRow (w.heap.size + 1 + 1 + 1) (eW s x).cells) (w.heap.size + 1) 9 (.string item)) := (setRow_other _ _ _ _ (by omega)).trans hX1
  have lN := aPo ((setRow_other w2 (w.heap.size + 1 + 1 + 1) (w.heap.size + 1 + 1) (eW s x).cells (by omega)).trans A8)
  have nU := aPo (setRow_heap w2 (w.heap.size + 1 + 1 + 1) s.cells (eW s x).cells 96 (0, 0) hX3); have wD := aPo hX3; clear aM hX1 A8 hX3
  gi_wp2_with (refine sF rfl 96 (.tmp 5) (.tmp 16) rfl (w.heap.size + 1 + 1 + 1) (eW s x).cells rfl rfl 96 s.cells wD.out (eW s x).infoOf (by rw [cL.size, cL.size]) (eW s x).one ?_)
  exact ⟨HQ.out, HKp.out, ⟨C6.out, lN.out, by rw [HE.out]; exact nU.out⟩, HBe.out⟩
 case done =>
  rintro D ys W hD rfl ⟨⟨h1, h2, h3⟩, h4⟩ hK; have H2 := aPo h2; have H3 := aPo h3; have H4 := aPo h4; have HKd := aPo hK; clear h1 h2 h3 h4 hK; generalize eK : cA item (counted xs l) = s at H3; have lL := aPo eK; clear eK
  gi_wp2_with (first | (refine oP rfl 96 (.tmp 5) rfl (w.heap.size + 1 + 1 + 1) rfl 96 s.cells (0, 0) _ H3.out Tryz.underlying96 rfl s.infoOf ?_) | (refine sF rfl 96 (.tmp 4) (.tmp 17) rfl (w.heap.size + 1 + 1) s.cells rfl rfl 96 _ H2.out s.infoOf (by rw [cL.size]; rfl) s.one ?_))
  have hK' := (setRow_other W (w.heap.size + 1 + 1) D s.cells (by omega)).trans HKd.out
  refine ⟨by simp, .inl ⟨_, _, rfl, run_takeDeferred hK', ?_⟩⟩
  have oJ : ((W.setRow (w.heap.size + 1 + 1) s.cells).putObj D (.deferred none)).heap[w.heap.size + 1 + 1]? = some (.cells s.cells 96 (0, 0)) := (World.putObj_heap_other (by omega)).trans (setRow_heap W (w.heap.size + 1 + 1) _ s.cells 96 (0, 0) H2.out)
  exact ⟨_, results_cell_row rfl _ _ _ _ _ _ _ rfl oJ Tryz.underlying96 rfl s.infoOf, by rw [lL.out], (eY H4.out (by omega) H2.out).trans (belowK_b (w := w) aPq _ D _ _ (by omega) hK' rfl rfl)⟩
 case stop =>
  rintro D c bJ W _ _ h _; exact h.elim
end Go.Proofs.YthkagbnpcjidfaaGreatDoor
namespace Go.Proofs.YthkagbnpcjidfaaGreatDoor
set_option maxRecDepth 100000
open Go.RowKit
set_option maxHeartbeats 10000000 in
theorem E9 (w : World) (B : Nat) (av ao : Option Addr) (nv cv no co : Nat) (xs : List Int) (l : List aA) (item : ByteArray) (h : bP w B ao no l) (hB : B ≤ w.heap.size) (hn : no ≤ 1048576) (hc : aE xs l = true) : Calls Tryz.prog 117 #[.agg #[.slice av nv cv, .slice ao no co], .string item] w fun e w' => e = .returned (.int .i64 (aI item l l.length)) ∧ Below w.heap.size w w' := by
 have bD : Below w.heap.size w (w.alloc (.cells #[.slice av nv cv, .slice ao no co] 27)) := (Below.refl _ w).alloc aPq _
 have HO := aPo (h.below bD hB)
 have HB := aPo bD
 have HX := aPo (bX (Below.refl _ (w.alloc (.cells #[.slice av nv cv, .slice ao no co] 27))))
 have HL := aPo h.1
 have dC : w.heap.size < (w.alloc (.cells #[.slice av nv cv, .slice ao no co] 27)).heap.size := by show _ < (w.heap.push _).size; simp
 have HC : Hid (∀ k, k < no → 0 ≤ (l.getD k aA.zero).undos) := fun k hk => by
  obtain ⟨_, _, _, _, _, hok, _, _⟩ := gE hc (i := k) (by rw [h.1]; exact hk)
  exact (H7 hok).1
 clear h bD hc
 go_enter Tryz.func117, Tryz.ntmps117
 go_wp2_with fail
 generalize w.alloc (.cells #[.slice av nv cv, .slice ao no co] 27) = w0 at HO HB HX dC ⊢
 go_wp2
 go_loopw [5, 6] (fun n i wr => ∃ k : Nat, k ≤ no ∧ i = .int .i64 k ∧ n = .int .i64 (aI item l k) ∧ Hid (Below w0.heap.size w0 wr)) (fun _ i _ => no - (intOf i).toNat)
 case atStart => exact ⟨0, Nat.zero_le _, rfl, rfl, Below.refl _ _⟩
 case round =>
  obtain ⟨k, hk, rfl, rfl, cW⟩ := hrel; obtain ⟨c0, c1⟩ := pair_cells ((cW.out.block _ dC).trans HX.out)
  by_cases aJ : k < no
  rotate_left
  ·obtain rfl : k = no := by omega
   go_wp2
   go_ret
   exact ⟨by rw [HL.out]; rfl, HB.out.trans (cW.out.mono HB.out.size)⟩
  obtain ⟨b, off, rfl, hb, ho⟩ := HO.out.2 k aJ; obtain ⟨d0, d1, d2, d3, d4, d5, d6, d7⟩ := ho.kept (cW.out.block b (by omega))
  have M9 := HC.out k aJ; have HU : Hid (aI item l (k + 1) = if (l.getD k aA.zero).item = item ∧ (l.getD k aA.zero).undos % 2 = 0 then max (aI item l k) (l.getD k aA.zero).level else aI item l k) := rfl; have dD := aPo ho; clear ho; generalize l.getD k aA.zero = x at HU M9 d0 d1 d2 d3 d4 d5 d6 d7 dD
  by_cases hd : x.item = item
  rotate_left
  ·have hbq : (x.item.toList == item.toList) = false := by rw [beq_eq_false_iff_ne]; exact fun h => hd (l5 h)
   have HE : Hid (aI item l (k + 1) = aI item l k) := by show _ = _; rw [HU.out, if_neg (fun h => hd h.1)]
   clear hd HU; go_wp2
   go_roundw
   case rel => exact ⟨k + 1, by omega, by go_num, by rw [HE.out], cW⟩
   case measure => simp [intOf]; omega
  have hbq : (x.item.toList == item.toList) = true := by rw [hd]; exact beq_self_eq_true _
  have HD := aPo hd; clear hd
  go_wp2_with fail
  refine (aCO x.dev x.seq x.stamp x.kind x.item x.qty x.level x.undos _ M9).mono ?_
  rintro e w2 ⟨rfl, aM⟩; have bT := aPo (cW.out.trans (aM.mono cW.out.size)); clear aM c0 c1 d0 d1 d2 d3 d4 d5 d6 d7; obtain ⟨c0, c1⟩ := pair_cells ((bT.out.block _ dC).trans HX.out); obtain ⟨d0, d1, d2, d3, d4, d5, d6, d7⟩ := dD.out.kept (bT.out.block b (by omega))
  by_cases hu : x.undos % 2 = 0
  ·have hq : decide (x.undos % 2 = 0) = true := decide_eq_true hu
   have HE : Hid (aI item l (k + 1) = max (aI item l k) x.level) := by show _ = _; rw [HU.out, if_pos ⟨HD.out, hu⟩]
   rw [hq]; clear hu hq HU; go_wp2
   go_roundw
   case rel => exact ⟨k + 1, by omega, by go_num, by rw [HE.out], bT⟩
   case measure => simp [intOf]; omega
  ·have hq : decide (x.undos % 2 = 0) = false := decide_eq_false hu
   have HE : Hid (aI item l (k + 1) = aI item l k) := by show _ = _; rw [HU.out, if_neg (fun h => hu h.2)]
   rw [hq]; clear hu hq HU; go_wp2
   go_roundw
   case rel => exact ⟨k + 1, by omega, by go_num, by rw [HE.out], bT⟩
   case measure => simp [intOf]; omega
end Go.Proofs.YthkagbnpcjidfaaGreatDoor
