/- Walks and mathematics that several claims share, part 44. -/
import Derived.Test.YtjokbaaommicmaaGreatDoorGb8
import Derived.Test.YtjokbaaommicmaaGreatDoorGb33
import Derived.Test.YtjokbaaommicmaaGreatDoorGb37
import Derived.Test.YtjokbaaommicmaaGreatDoorGb40
import Derived.Deep.Cut
import Derived.Lib.Hide
import Derived.Deep.RegionHeld
import Derived.Great.BuildSlice
import Derived.Deep.WholeRow
import Derived.Test.YtjokbaaommicmaaGreatDoorGbA
namespace Go.Proofs.YtjokbaaommicmaaGreatDoor
set_option maxRecDepth 100000
open Go.RowKit
set_option linter.unusedVariables false
set_option linter.unusedSimpArgs false

def OpFP (E : Int → Addr) (r : OpV × Int) (w : World) (e : Ending) (w' : World) : Prop :=
 e = .returned (.tuple #[.agg #[.int .i64 r.1.dev, .int .i64 r.1.seq, .int .i64 r.1.stamp, .int .i64 r.1.kind, .string r.1.item, .int .i64 r.1.qty, .int .i64 r.1.level, .int .i64 r.1.undos], errV E r.2]) ∧ Below w.heap.size w w'
theorem errV_0 (E : Int → Addr) : errV E 0 = .nilIface := by unfold errV; rw [if_pos (by decide)]
theorem errV_2 (E : Int → Addr) : errV E 2 = .iface 240 (.pointer (some (E 2))) := by unfold errV; rw [if_neg (by decide)]
theorem errV_3 (E : Int → Addr) : errV E 3 = .iface 240 (.pointer (some (E 3))) := by unfold errV; rw [if_neg (by decide)]
theorem opLineSaved (a : ByteArray) (b : Int) (c : Bool) (w : World) : Sem.run Tryz.prog (Instr.field 172 (.agg #[.string a, .int .i64 b, .bool c]) 2) w = .ok (.bool c) w := by kernel_rfl
theorem stCells_one (s : StV) : s.cells.all (·.oneCell') = true := by simp [StV.cells, Value.oneCell']
theorem stInfo (s : StV) : (Tryz.prog.info? 199).map (·.size) = some s.cells.size := by kernel_rfl
set_option maxHeartbeats 40000000 in
theorem opForW1 (w : World) (B : Nat) (E : Int → Addr) (hE : Errs w B E) (av ao : Option Addr) (nv cv no co : Nat) (xs : List Int) (l : List OpV) (kind qty dv sq : Int) (item : ByteArray) (hx : Ints w B av nv xs) (h : Ops w B ao no l) (hB : B ≤ w.heap.size) (hv : nv ≤ 1048576) (hc : no ≤ co) (hc2 : Fits no co) (hi : item.size ≤ 1048576) (s : StV) (hs : s = stateV item (counted xs l)) (h0 : 0 ≤ s.level) (h1 : s.level ≤ 1000000) (k1 : kind = 1) :
  Calls Tryz.prog 121 #[.agg #[.slice av nv cv, .slice ao no co], .agg #[.int .i64 kind, .string item, .int .i64 qty, .int .i64 dv, .int .i64 sq]] w
   (OpFP E (oneOf s.level (decide (s.placed.kind = 4)) kind item qty) w) := by
 have Yk1 := Lib.hid k1
 clear k1
 have hT := OneF.mk0 w #[.slice av nv cv, .slice ao no co] #[.int .i64 kind, .string item, .int .i64 qty, .int .i64 dv, .int .i64 sq] #[.int .i64 0, .int .i64 0, .int .i64 0, .int .i64 0, .string ⟨#[]⟩, .int .i64 0, .int .i64 0, .int .i64 0]
 have HX := Lib.hid (hx.below hT.bel hB)
 have HO := Lib.hid (h.below hT.bel hB)
 have HE := Lib.hid (hE.below hT.bel hB)
 have HT := Lib.hid hT
 have hBs := hT.bel.size
 have HS := Lib.hid hs
 clear h hx hT hs hE
 obtain ⟨sv, hse⟩ : ∃ sv, sv = decide (s.placed.kind = 4) := ⟨_, rfl⟩
 rw [← hse]
 have HSe := Lib.hid hse
 clear hse
 have hfl := opLineSaved
 go_enter Tryz.func121, Tryz.ntmps121
 go_upto_region 1 with fail
 generalize ((w.alloc (.cells #[.slice av nv cv, .slice ao no co] 32)).alloc (.cells #[.int .i64 kind, .string item, .int .i64 qty, .int .i64 dv, .int .i64 sq] 36)).alloc (.cells #[.int .i64 0, .int .i64 0, .int .i64 0, .int .i64 0, .string ⟨#[]⟩, .int .i64 0, .int .i64 0, .int .i64 0] 93) = w0 at HX HO HE HT hBs ⊢
 obtain ⟨c0, c1⟩ := pair_cells HT.out.fst
 obtain ⟨d0, d1, d2⟩ := cmd_cells HT.out.snd
 go_wp2_with fail
 refine (stateOfW w0 B av ao nv cv no co xs l item HX.out HO.out (by omega) hv hc hc2).mono ?_
 rintro e w1 ⟨rfl, hb⟩
 rw [← HS.out]
 have HT1 := Lib.hid (HT.out.next hb)
 have HE1 := Lib.hid (HE.out.below hb (by omega))
 have hs1 := hb.size
 clear hb c0 c1 d0 d1 d2 HT HX HO HE
 obtain ⟨d0, d1, d2⟩ := cmd_cells HT1.out.snd
 clear HS
 go_upto_region 2 with (refine wpList_store_rowTo rfl 199 _ _ rfl rfl w1.heap.size s.cells rfl rfl 199 _ (World.alloc_heap_new _ _) (stInfo s) rfl (stCells_one s) ?_)
 rw [World.setRow_alloc_new]
 have hbb := ((Below.refl w1.heap.size w1).alloc (Nat.le_refl _) (.cells s.cells 199))
 have HB2 := Lib.hid hbb
 have HT2 := Lib.hid (HT1.out.next hbb)
 have HE2 := Lib.hid (HE1.out.below hbb (by omega))
 have HSt := Lib.hid (World.alloc_heap_new w1 (.cells s.cells 199))
 have hs2 := hbb.size
 clear hbb HT1 HE1 d0 d1 d2
 generalize w1.alloc (.cells s.cells 199) = w2 at HT2 HE2 HSt HB2 hs2 ⊢
 have hst2 : w1.heap.size < w2.heap.size := (Array.getElem?_eq_some_iff.1 HSt.out).1
 generalize w1.heap.size = sb at HSt hst2 HB2 hs2 hs1 ⊢
 obtain ⟨d0, d1, d2⟩ := cmd_cells HT2.out.snd
 have s0 : w2.cell? ⟨sb, 0, none⟩ = some (.int .i64 s.level) := (cell_of_row _ _ _ _ _ _ HSt.out).trans rfl
 have hE5 := HE2.out.low
 have hlw : IntKind.i64.wrap (s.level + 1) = s.level + 1 := IntWalk.i64_in _ (by omega)
 have done : ∀ (wr : World) (q : OpV) (code : Int), Hid (oneOf s.level sv kind item qty = (q, code)) → Below w2.heap.size w2 wr →
   Hid ((setOp wr (w.heap.size + 1 + 1) (.int .i64 q.dev) (.int .i64 q.seq) (.int .i64 q.stamp) (.int .i64 q.kind) (.string q.item) (.int .i64 q.qty) (.int .i64 q.level) (.int .i64 q.undos)).heap[w.heap.size + 1 + 1]? = some (.cells #[.int .i64 q.dev, .int .i64 q.seq, .int .i64 q.stamp, .int .i64 q.kind, .string q.item, .int .i64 q.qty, .int .i64 q.level, .int .i64 q.undos] 93 (0, 0))) ∧
   Hid (Below w.heap.size w (setOp wr (w.heap.size + 1 + 1) (.int .i64 q.dev) (.int .i64 q.seq) (.int .i64 q.stamp) (.int .i64 q.kind) (.string q.item) (.int .i64 q.qty) (.int .i64 q.level) (.int .i64 q.undos))) := by
  intro wr q code hq hb
  exact ⟨setOp_same _ _ _ _ _ _ _ _ (HT2.out.next hb).res, setOp_below _ _ _ _ _ _ _ _ (HT2.out.next hb).bel (by omega)⟩
 have k1 := Yk1.out
 clear Yk1
 subst k1
 go_wp2_with (refine wpList_load_row rfl 199 _ rfl sb rfl _ s.cells _ _ HSt.out Tryz.underlying199 rfl (stInfo s) ?_)
 refine (presentW s h0 w2).mono ?_
 rintro e w3 ⟨rfl, hb3⟩
 dsimp only
 have HB3 := Lib.hid hb3
 have HT3 := Lib.hid (HT2.out.next hb3)
 have HSt3 := Lib.hid ((hb3.block _ hst2).trans HSt.out)
 have g2 : w3.cell? ⟨2, 0, none⟩ = some (.iface 240 (.pointer (some (E 2)))) := (HE2.out.below hb3 (by omega)).cells 2 (by omega) (by omega)
 have g3 : w3.cell? ⟨3, 0, none⟩ = some (.iface 240 (.pointer (some (E 3)))) := (HE2.out.below hb3 (by omega)).cells 3 (by omega) (by omega)
 clear hb3 d0 d1 d2 s0
 obtain ⟨d0, d1, d2⟩ := cmd_cells HT3.out.snd
 obtain ⟨r0, r1, r2, r3, r4, r5, r6, r7⟩ := op_cells HT3.out.res
 obtain ⟨f0, f1, f2, f3, f4, f5, f6, f7⟩ := op_frozen HT3.out.res
 have s0 : w3.cell? ⟨sb, 0, none⟩ = some (.int .i64 s.level) := (cell_of_row _ _ _ _ _ _ HSt3.out).trans rfl
 by_cases hm : s.level % 2 = 1
 ·have hmd : decide (s.level % 2 = 1) = true := decide_eq_true hm
  rw [hmd]
  have HQ : Hid (oneOf s.level sv 1 item qty = ((⟨0, 0, 0, 0, ⟨#[]⟩, 0, 0, 0⟩ : OpV), 3)) := by
   show _ = _
   unfold oneOf
   rw [if_pos rfl, if_pos hm]
   try rfl
  clear r0 r1 r2 r3 r4 r5 r6 r7 f0 f1 f2 f3 f4 f5 f6 f7
  go_wp2_with fail
  refine wp_region_held_drew (S := fun w' => w'.cell? ⟨3, 0, none⟩ = some (.iface 240 (.pointer (some (E 3))))) (by kernel_rfl) g3 (fun hHeld => ?_)
  have HBz : Hid (Below w2.heap.size w2 w3.drew) := HB3.out.trans ⟨rfl, rfl, rfl, Nat.le_refl _, fun _ _ => rfl⟩
  generalize w3.drew = z0 at HBz hHeld ⊢
  have HTz := Lib.hid (HT2.out.next HBz.out)
  obtain ⟨r0, r1, r2, r3, r4, r5, r6, r7⟩ := op_cells HTz.out.res
  obtain ⟨f0, f1, f2, f3, f4, f5, f6, f7⟩ := op_frozen HTz.out.res
  refine tk 0 ⟨some 17, .build 93 #[], 93, "l06_commands.go:151", #[], none⟩ ?_
  (try simp only [Act.put, u1, u2, u3])
  refine tk 1 ⟨some 18, .load 65 (Operand.global 3), 65, "l06_commands.go:151", #[{ on := 2, ground := Ground.gcOnly Departure.lateStores }], none⟩ ?_
  (try simp only [Act.put, u1, u2, u3])
  refine rk 2 rfl (fun K hK => ?_)
  go_simp
  refine hK.out _ _ ((World.cell?_of_block (a := ⟨3, 0, none⟩) (setOp_other (w := z0) (b := w.heap.size + 1 + 1) (k := 3) (.int .i64 0) (.int .i64 0) (.int .i64 0) (.int .i64 0) (.string ⟨#[]⟩) (.int .i64 0) (.int .i64 0) (.int .i64 0) (by omega))).trans hHeld) (fun hHeld2 => ?_)
  clear hK K
  (try simp only [Act.put, u1, u2, u3])
  refine tk 3 ⟨some 5, .assign (.tmp 18), 65, "l06_commands.go:151", #[⟨1, .data⟩, ⟨2, .chain⟩, ⟨0, .phase⟩, ⟨1, .phase⟩, ⟨2, .phase⟩], none⟩ ?_
  (try simp only [Act.put, u1, u2, u3])
  refine wpAnyH_done (by kernel_rfl) ?_ _
  obtain ⟨HX, HBx⟩ := done z0 (⟨0, 0, 0, 0, ⟨#[]⟩, 0, 0, 0⟩ : OpV) 3 HQ HBz.out
  clear done
  dsimp only at HX HBx
  go_wp2
  change bodyPost _ _ _ _ _ (setOp z0 (w.heap.size + 1 + 1) (.int .i64 0) (.int .i64 0) (.int .i64 0) (.int .i64 0) (.string ⟨#[]⟩) (.int .i64 0) (.int .i64 0) (.int .i64 0))
  generalize setOp z0 (w.heap.size + 1 + 1) (.int .i64 0) (.int .i64 0) (.int .i64 0) (.int .i64 0) (.string ⟨#[]⟩) (.int .i64 0) (.int .i64 0) (.int .i64 0) = wf at HX HBx ⊢
  obtain ⟨e0, e1, e2, e3, e4, e5, e6, e7⟩ := op_cells HX.out
  exact bodyPost_ret (v := .tuple #[.agg #[.int .i64 0, .int .i64 0, .int .i64 0, .int .i64 0, .string ⟨#[]⟩, .int .i64 0, .int .i64 0, .int .i64 0], (.iface 240 (.pointer (some (E 3))))]) (by simp [results, Tryz.results121, go_sem, e0, e1, e2, e3, e4, e5, e6, e7]) rfl ⟨by rw [HQ.out]; dsimp only; rw [errV_3], HBx.out⟩
 ·have hmd : decide (s.level % 2 = 1) = false := decide_eq_false hm
  rw [hmd]
  have HQ : Hid (oneOf s.level sv 1 item qty = ((⟨0, 0, 0, 1, item, qty, (s.level + 1), 0⟩ : OpV), 0)) := by
   show _ = _
   unfold oneOf
   rw [if_pos rfl, if_neg hm]
   try rfl
  obtain ⟨HX, HBx⟩ := done w3 (⟨0, 0, 0, 1, item, qty, (s.level + 1), 0⟩ : OpV) 0 HQ HB3.out
  clear done
  dsimp only at HX HBx
  go_wp2
  change bodyPost _ _ _ _ _ (setOp w3 (w.heap.size + 1 + 1) (.int .i64 0) (.int .i64 0) (.int .i64 0) (.int .i64 1) (.string item) (.int .i64 qty) (.int .i64 (s.level + 1)) (.int .i64 0))
  generalize setOp w3 (w.heap.size + 1 + 1) (.int .i64 0) (.int .i64 0) (.int .i64 0) (.int .i64 1) (.string item) (.int .i64 qty) (.int .i64 (s.level + 1)) (.int .i64 0) = wf at HX HBx ⊢
  obtain ⟨e0, e1, e2, e3, e4, e5, e6, e7⟩ := op_cells HX.out
  exact bodyPost_ret (v := .tuple #[.agg #[.int .i64 0, .int .i64 0, .int .i64 0, .int .i64 1, .string item, .int .i64 qty, .int .i64 (s.level + 1), .int .i64 0], .nilIface]) (by simp [results, Tryz.results121, go_sem, e0, e1, e2, e3, e4, e5, e6, e7]) rfl ⟨by rw [HQ.out]; dsimp only; rw [errV_0], HBx.out⟩

set_option linter.unusedVariables false
set_option linter.unusedSimpArgs false
set_option maxHeartbeats 40000000 in
theorem opForW2 (w : World) (B : Nat) (E : Int → Addr) (hE : Errs w B E) (av ao : Option Addr) (nv cv no co : Nat) (xs : List Int) (l : List OpV) (kind qty dv sq : Int) (item : ByteArray) (hx : Ints w B av nv xs) (h : Ops w B ao no l) (hB : B ≤ w.heap.size) (hv : nv ≤ 1048576) (hc : no ≤ co) (hc2 : Fits no co) (hi : item.size ≤ 1048576) (s : StV) (hs : s = stateV item (counted xs l)) (h0 : 0 ≤ s.level) (h1 : s.level ≤ 1000000) (k1 : ¬ kind = 1) (hm0 : ¬ s.level % 2 = 1) :
  Calls Tryz.prog 121 #[.agg #[.slice av nv cv, .slice ao no co], .agg #[.int .i64 kind, .string item, .int .i64 qty, .int .i64 dv, .int .i64 sq]] w
   (OpFP E (oneOf s.level (decide (s.placed.kind = 4)) kind item qty) w) := by
 have Yk1 := Lib.hid k1
 have Yhm0 := Lib.hid hm0
 clear k1 hm0
 have hT := OneF.mk0 w #[.slice av nv cv, .slice ao no co] #[.int .i64 kind, .string item, .int .i64 qty, .int .i64 dv, .int .i64 sq] #[.int .i64 0, .int .i64 0, .int .i64 0, .int .i64 0, .string ⟨#[]⟩, .int .i64 0, .int .i64 0, .int .i64 0]
 have HX := Lib.hid (hx.below hT.bel hB)
 have HO := Lib.hid (h.below hT.bel hB)
 have HE := Lib.hid (hE.below hT.bel hB)
 have HT := Lib.hid hT
 have hBs := hT.bel.size
 have HS := Lib.hid hs
 clear h hx hT hs hE
 obtain ⟨sv, hse⟩ : ∃ sv, sv = decide (s.placed.kind = 4) := ⟨_, rfl⟩
 rw [← hse]
 have HSe := Lib.hid hse
 clear hse
 have hfl := opLineSaved
 go_enter Tryz.func121, Tryz.ntmps121
 go_upto_region 1 with fail
 generalize ((w.alloc (.cells #[.slice av nv cv, .slice ao no co] 32)).alloc (.cells #[.int .i64 kind, .string item, .int .i64 qty, .int .i64 dv, .int .i64 sq] 36)).alloc (.cells #[.int .i64 0, .int .i64 0, .int .i64 0, .int .i64 0, .string ⟨#[]⟩, .int .i64 0, .int .i64 0, .int .i64 0] 93) = w0 at HX HO HE HT hBs ⊢
 obtain ⟨c0, c1⟩ := pair_cells HT.out.fst
 obtain ⟨d0, d1, d2⟩ := cmd_cells HT.out.snd
 go_wp2_with fail
 refine (stateOfW w0 B av ao nv cv no co xs l item HX.out HO.out (by omega) hv hc hc2).mono ?_
 rintro e w1 ⟨rfl, hb⟩
 rw [← HS.out]
 have HT1 := Lib.hid (HT.out.next hb)
 have HE1 := Lib.hid (HE.out.below hb (by omega))
 have hs1 := hb.size
 clear hb c0 c1 d0 d1 d2 HT HX HO HE
 obtain ⟨d0, d1, d2⟩ := cmd_cells HT1.out.snd
 clear HS
 go_upto_region 2 with (refine wpList_store_rowTo rfl 199 _ _ rfl rfl w1.heap.size s.cells rfl rfl 199 _ (World.alloc_heap_new _ _) (stInfo s) rfl (stCells_one s) ?_)
 rw [World.setRow_alloc_new]
 have hbb := ((Below.refl w1.heap.size w1).alloc (Nat.le_refl _) (.cells s.cells 199))
 have HB2 := Lib.hid hbb
 have HT2 := Lib.hid (HT1.out.next hbb)
 have HE2 := Lib.hid (HE1.out.below hbb (by omega))
 have HSt := Lib.hid (World.alloc_heap_new w1 (.cells s.cells 199))
 have hs2 := hbb.size
 clear hbb HT1 HE1 d0 d1 d2
 generalize w1.alloc (.cells s.cells 199) = w2 at HT2 HE2 HSt HB2 hs2 ⊢
 have hst2 : w1.heap.size < w2.heap.size := (Array.getElem?_eq_some_iff.1 HSt.out).1
 generalize w1.heap.size = sb at HSt hst2 HB2 hs2 hs1 ⊢
 obtain ⟨d0, d1, d2⟩ := cmd_cells HT2.out.snd
 have s0 : w2.cell? ⟨sb, 0, none⟩ = some (.int .i64 s.level) := (cell_of_row _ _ _ _ _ _ HSt.out).trans rfl
 have hE5 := HE2.out.low
 have hlw : IntKind.i64.wrap (s.level + 1) = s.level + 1 := IntWalk.i64_in _ (by omega)
 have done : ∀ (wr : World) (q : OpV) (code : Int), Hid (oneOf s.level sv kind item qty = (q, code)) → Below w2.heap.size w2 wr →
   Hid ((setOp wr (w.heap.size + 1 + 1) (.int .i64 q.dev) (.int .i64 q.seq) (.int .i64 q.stamp) (.int .i64 q.kind) (.string q.item) (.int .i64 q.qty) (.int .i64 q.level) (.int .i64 q.undos)).heap[w.heap.size + 1 + 1]? = some (.cells #[.int .i64 q.dev, .int .i64 q.seq, .int .i64 q.stamp, .int .i64 q.kind, .string q.item, .int .i64 q.qty, .int .i64 q.level, .int .i64 q.undos] 93 (0, 0))) ∧
   Hid (Below w.heap.size w (setOp wr (w.heap.size + 1 + 1) (.int .i64 q.dev) (.int .i64 q.seq) (.int .i64 q.stamp) (.int .i64 q.kind) (.string q.item) (.int .i64 q.qty) (.int .i64 q.level) (.int .i64 q.undos))) := by
  intro wr q code hq hb
  exact ⟨setOp_same _ _ _ _ _ _ _ _ (HT2.out.next hb).res, setOp_below _ _ _ _ _ _ _ _ (HT2.out.next hb).bel (by omega)⟩
 have k1 := Yk1.out
 have k1b : (kind == 1) = false := beq_eq_false_iff_ne.2 k1
 go_wp2_with (refine wpList_load_row rfl 199 _ rfl sb rfl _ s.cells _ _ HSt.out Tryz.underlying199 rfl (stInfo s) ?_)
 refine (presentW s h0 w2).mono ?_
 rintro e w3 ⟨rfl, hb3⟩
 dsimp only
 have hm := Yhm0.out
 have hmd : decide (s.level % 2 = 1) = false := decide_eq_false hm
 rw [hmd]
 have HB3 := Lib.hid hb3
 have HT3 := Lib.hid (HT2.out.next hb3)
 have HSt3 := Lib.hid ((hb3.block _ hst2).trans HSt.out)
 have g2 : w3.cell? ⟨2, 0, none⟩ = some (.iface 240 (.pointer (some (E 2)))) := (HE2.out.below hb3 (by omega)).cells 2 (by omega) (by omega)
 have g3 : w3.cell? ⟨3, 0, none⟩ = some (.iface 240 (.pointer (some (E 3)))) := (HE2.out.below hb3 (by omega)).cells 3 (by omega) (by omega)
 clear hb3 d0 d1 d2 s0
 obtain ⟨d0, d1, d2⟩ := cmd_cells HT3.out.snd
 obtain ⟨r0, r1, r2, r3, r4, r5, r6, r7⟩ := op_cells HT3.out.res
 obtain ⟨f0, f1, f2, f3, f4, f5, f6, f7⟩ := op_frozen HT3.out.res
 have s0 : w3.cell? ⟨sb, 0, none⟩ = some (.int .i64 s.level) := (cell_of_row _ _ _ _ _ _ HSt3.out).trans rfl
 have HQ : Hid (oneOf s.level sv kind item qty = ((⟨0, 0, 0, 0, ⟨#[]⟩, 0, 0, 0⟩ : OpV), 2)) := by
  show _ = _
  unfold oneOf
  rw [if_neg k1, if_neg hm]
  try rfl
 clear r0 r1 r2 r3 r4 r5 r6 r7 f0 f1 f2 f3 f4 f5 f6 f7
 go_wp2_with fail
 refine wp_region_held_drew (S := fun w' => w'.cell? ⟨2, 0, none⟩ = some (.iface 240 (.pointer (some (E 2))))) (by kernel_rfl) g2 (fun hHeld => ?_)
 have HBz : Hid (Below w2.heap.size w2 w3.drew) := HB3.out.trans ⟨rfl, rfl, rfl, Nat.le_refl _, fun _ _ => rfl⟩
 generalize w3.drew = z0 at HBz hHeld ⊢
 have HTz := Lib.hid (HT2.out.next HBz.out)
 obtain ⟨r0, r1, r2, r3, r4, r5, r6, r7⟩ := op_cells HTz.out.res
 obtain ⟨f0, f1, f2, f3, f4, f5, f6, f7⟩ := op_frozen HTz.out.res
 refine tk 0 ⟨some 30, .build 93 #[], 93, "l06_commands.go:156", #[], none⟩ ?_
 (try simp only [Act.put, u1, u2, u3])
 refine tk 1 ⟨some 31, .load 65 (Operand.global 2), 65, "l06_commands.go:156", #[{ on := 2, ground := Ground.gcOnly Departure.lateStores }], none⟩ ?_
 (try simp only [Act.put, u1, u2, u3])
 refine rk 2 rfl (fun K hK => ?_)
 go_simp
 refine hK.out _ _ ((World.cell?_of_block (a := ⟨2, 0, none⟩) (setOp_other (w := z0) (b := w.heap.size + 1 + 1) (k := 2) (.int .i64 0) (.int .i64 0) (.int .i64 0) (.int .i64 0) (.string ⟨#[]⟩) (.int .i64 0) (.int .i64 0) (.int .i64 0) (by omega))).trans hHeld) (fun hHeld2 => ?_)
 clear hK K
 (try simp only [Act.put, u1, u2, u3])
 refine tk 3 ⟨some 5, .assign (.tmp 31), 65, "l06_commands.go:156", #[⟨1, .data⟩, ⟨2, .chain⟩, ⟨0, .phase⟩, ⟨1, .phase⟩, ⟨2, .phase⟩], none⟩ ?_
 (try simp only [Act.put, u1, u2, u3])
 refine wpAnyH_done (by kernel_rfl) ?_ _
 obtain ⟨HX, HBx⟩ := done z0 (⟨0, 0, 0, 0, ⟨#[]⟩, 0, 0, 0⟩ : OpV) 2 HQ HBz.out
 clear done
 dsimp only at HX HBx
 go_wp2
 change bodyPost _ _ _ _ _ (setOp z0 (w.heap.size + 1 + 1) (.int .i64 0) (.int .i64 0) (.int .i64 0) (.int .i64 0) (.string ⟨#[]⟩) (.int .i64 0) (.int .i64 0) (.int .i64 0))
 generalize setOp z0 (w.heap.size + 1 + 1) (.int .i64 0) (.int .i64 0) (.int .i64 0) (.int .i64 0) (.string ⟨#[]⟩) (.int .i64 0) (.int .i64 0) (.int .i64 0) = wf at HX HBx ⊢
 obtain ⟨e0, e1, e2, e3, e4, e5, e6, e7⟩ := op_cells HX.out
 exact bodyPost_ret (v := .tuple #[.agg #[.int .i64 0, .int .i64 0, .int .i64 0, .int .i64 0, .string ⟨#[]⟩, .int .i64 0, .int .i64 0, .int .i64 0], (.iface 240 (.pointer (some (E 2))))]) (by simp [results, Tryz.results121, go_sem, e0, e1, e2, e3, e4, e5, e6, e7]) rfl ⟨by rw [HQ.out]; dsimp only; rw [errV_2], HBx.out⟩

set_option maxHeartbeats 40000000 in
theorem opForK2 (w : World) (B : Nat) (E : Int → Addr) (hE : Errs w B E) (av ao : Option Addr) (nv cv no co : Nat) (xs : List Int) (l : List OpV) (kind qty dv sq : Int) (item : ByteArray) (hx : Ints w B av nv xs) (h : Ops w B ao no l) (hB : B ≤ w.heap.size) (hv : nv ≤ 1048576) (hc : no ≤ co) (hc2 : Fits no co) (hi : item.size ≤ 1048576) (s : StV) (hs : s = stateV item (counted xs l)) (h0 : 0 ≤ s.level) (h1 : s.level ≤ 1000000) (k1 : ¬ kind = 1) (hm0 : s.level % 2 = 1) (e : kind = 2) :
  Calls Tryz.prog 121 #[.agg #[.slice av nv cv, .slice ao no co], .agg #[.int .i64 kind, .string item, .int .i64 qty, .int .i64 dv, .int .i64 sq]] w
   (OpFP E (oneOf s.level (decide (s.placed.kind = 4)) kind item qty) w) := by
 have Yk1 := Lib.hid k1
 have Yhm0 := Lib.hid hm0
 have Ye := Lib.hid e
 clear k1 hm0 e
 have hT := OneF.mk0 w #[.slice av nv cv, .slice ao no co] #[.int .i64 kind, .string item, .int .i64 qty, .int .i64 dv, .int .i64 sq] #[.int .i64 0, .int .i64 0, .int .i64 0, .int .i64 0, .string ⟨#[]⟩, .int .i64 0, .int .i64 0, .int .i64 0]
 have HX := Lib.hid (hx.below hT.bel hB)
 have HO := Lib.hid (h.below hT.bel hB)
 have HE := Lib.hid (hE.below hT.bel hB)
 have HT := Lib.hid hT
 have hBs := hT.bel.size
 have HS := Lib.hid hs
 clear h hx hT hs hE
 obtain ⟨sv, hse⟩ : ∃ sv, sv = decide (s.placed.kind = 4) := ⟨_, rfl⟩
 rw [← hse]
 have HSe := Lib.hid hse
 clear hse
 have hfl := opLineSaved
 go_enter Tryz.func121, Tryz.ntmps121
 go_upto_region 1 with fail
 generalize ((w.alloc (.cells #[.slice av nv cv, .slice ao no co] 32)).alloc (.cells #[.int .i64 kind, .string item, .int .i64 qty, .int .i64 dv, .int .i64 sq] 36)).alloc (.cells #[.int .i64 0, .int .i64 0, .int .i64 0, .int .i64 0, .string ⟨#[]⟩, .int .i64 0, .int .i64 0, .int .i64 0] 93) = w0 at HX HO HE HT hBs ⊢
 obtain ⟨c0, c1⟩ := pair_cells HT.out.fst
 obtain ⟨d0, d1, d2⟩ := cmd_cells HT.out.snd
 go_wp2_with fail
 refine (stateOfW w0 B av ao nv cv no co xs l item HX.out HO.out (by omega) hv hc hc2).mono ?_
 rintro e w1 ⟨rfl, hb⟩
 rw [← HS.out]
 have HT1 := Lib.hid (HT.out.next hb)
 have HE1 := Lib.hid (HE.out.below hb (by omega))
 have hs1 := hb.size
 clear hb c0 c1 d0 d1 d2 HT HX HO HE
 obtain ⟨d0, d1, d2⟩ := cmd_cells HT1.out.snd
 clear HS
 go_upto_region 2 with (refine wpList_store_rowTo rfl 199 _ _ rfl rfl w1.heap.size s.cells rfl rfl 199 _ (World.alloc_heap_new _ _) (stInfo s) rfl (stCells_one s) ?_)
 rw [World.setRow_alloc_new]
 have hbb := ((Below.refl w1.heap.size w1).alloc (Nat.le_refl _) (.cells s.cells 199))
 have HB2 := Lib.hid hbb
 have HT2 := Lib.hid (HT1.out.next hbb)
 have HE2 := Lib.hid (HE1.out.below hbb (by omega))
 have HSt := Lib.hid (World.alloc_heap_new w1 (.cells s.cells 199))
 have hs2 := hbb.size
 clear hbb HT1 HE1 d0 d1 d2
 generalize w1.alloc (.cells s.cells 199) = w2 at HT2 HE2 HSt HB2 hs2 ⊢
 have hst2 : w1.heap.size < w2.heap.size := (Array.getElem?_eq_some_iff.1 HSt.out).1
 generalize w1.heap.size = sb at HSt hst2 HB2 hs2 hs1 ⊢
 obtain ⟨d0, d1, d2⟩ := cmd_cells HT2.out.snd
 have s0 : w2.cell? ⟨sb, 0, none⟩ = some (.int .i64 s.level) := (cell_of_row _ _ _ _ _ _ HSt.out).trans rfl
 have hE5 := HE2.out.low
 have hlw : IntKind.i64.wrap (s.level + 1) = s.level + 1 := IntWalk.i64_in _ (by omega)
 have done : ∀ (wr : World) (q : OpV) (code : Int), Hid (oneOf s.level sv kind item qty = (q, code)) → Below w2.heap.size w2 wr →
   Hid ((setOp wr (w.heap.size + 1 + 1) (.int .i64 q.dev) (.int .i64 q.seq) (.int .i64 q.stamp) (.int .i64 q.kind) (.string q.item) (.int .i64 q.qty) (.int .i64 q.level) (.int .i64 q.undos)).heap[w.heap.size + 1 + 1]? = some (.cells #[.int .i64 q.dev, .int .i64 q.seq, .int .i64 q.stamp, .int .i64 q.kind, .string q.item, .int .i64 q.qty, .int .i64 q.level, .int .i64 q.undos] 93 (0, 0))) ∧
   Hid (Below w.heap.size w (setOp wr (w.heap.size + 1 + 1) (.int .i64 q.dev) (.int .i64 q.seq) (.int .i64 q.stamp) (.int .i64 q.kind) (.string q.item) (.int .i64 q.qty) (.int .i64 q.level) (.int .i64 q.undos))) := by
  intro wr q code hq hb
  exact ⟨setOp_same _ _ _ _ _ _ _ _ (HT2.out.next hb).res, setOp_below _ _ _ _ _ _ _ _ (HT2.out.next hb).bel (by omega)⟩
 have k1 := Yk1.out
 have k1b : (kind == 1) = false := beq_eq_false_iff_ne.2 k1
 go_wp2_with (refine wpList_load_row rfl 199 _ rfl sb rfl _ s.cells _ _ HSt.out Tryz.underlying199 rfl (stInfo s) ?_)
 refine (presentW s h0 w2).mono ?_
 rintro e w3 ⟨rfl, hb3⟩
 dsimp only
 have hm := Yhm0.out
 have hmd : decide (s.level % 2 = 1) = true := decide_eq_true hm
 rw [hmd]
 have HT3 := Lib.hid (HT2.out.next hb3)
 have HSt3 := Lib.hid ((hb3.block _ hst2).trans HSt.out)
 have HB3 := Lib.hid hb3
 clear hb3 d0 d1 d2 s0
 obtain ⟨d0, d1, d2⟩ := cmd_cells HT3.out.snd
 have s0 : w3.cell? ⟨sb, 0, none⟩ = some (.int .i64 s.level) := (cell_of_row _ _ _ _ _ _ HSt3.out).trans rfl
 have hlS : lineS s = sv := by
  rw [HSe.out]
  exact if_pos hm
 go_wp2_with (refine wpList_load_row rfl 199 _ rfl sb rfl _ s.cells _ _ HSt3.out Tryz.underlying199 rfl (stInfo s) ?_)
 refine (lineW s item h0 hi w3).mono ?_
 rintro e w4 ⟨rfl, hb4⟩
 rw [hlS]
 generalize lineI _ _ = li
 generalize lineQ _ = lq
 have hb5 : Below w2.heap.size w2 w4 := HB3.out.trans (hb4.mono HB3.out.size)
 clear hb4 HT3 HSt3 HB3 hlS
 have HB3 := Lib.hid hb5
 have HT3 := Lib.hid (HT2.out.next hb5)
 have HSt3 := Lib.hid ((hb5.block _ hst2).trans HSt.out)
 have g2 : w4.cell? ⟨2, 0, none⟩ = some (.iface 240 (.pointer (some (E 2)))) := (HE2.out.below hb5 (by omega)).cells 2 (by omega) (by omega)
 have g3 : w4.cell? ⟨3, 0, none⟩ = some (.iface 240 (.pointer (some (E 3)))) := (HE2.out.below hb5 (by omega)).cells 3 (by omega) (by omega)
 clear hb5 d0 d1 d2 s0
 obtain ⟨d0, d1, d2⟩ := cmd_cells HT3.out.snd
 obtain ⟨r0, r1, r2, r3, r4, r5, r6, r7⟩ := op_cells HT3.out.res
 obtain ⟨f0, f1, f2, f3, f4, f5, f6, f7⟩ := op_frozen HT3.out.res
 have s0 : w4.cell? ⟨sb, 0, none⟩ = some (.int .i64 s.level) := (cell_of_row _ _ _ _ _ _ HSt3.out).trans rfl
 have e := Ye.out
 clear Ye
 subst e
 have HQ : Hid (oneOf s.level sv 2 item qty = ((⟨0, 0, 0, 2, item, qty, 0, 0⟩ : OpV), 0)) := by
  show _ = _
  unfold oneOf
  rw [if_neg k1, if_pos hm, if_pos rfl]
  try rfl
 obtain ⟨HX, HBx⟩ := done w4 (⟨0, 0, 0, 2, item, qty, 0, 0⟩ : OpV) 0 HQ HB3.out
 clear done
 dsimp only at HX HBx
 go_wp2
 change bodyPost _ _ _ _ _ (setOp w4 (w.heap.size + 1 + 1) (.int .i64 0) (.int .i64 0) (.int .i64 0) (.int .i64 2) (.string item) (.int .i64 qty) (.int .i64 0) (.int .i64 0))
 generalize setOp w4 (w.heap.size + 1 + 1) (.int .i64 0) (.int .i64 0) (.int .i64 0) (.int .i64 2) (.string item) (.int .i64 qty) (.int .i64 0) (.int .i64 0) = wf at HX HBx ⊢
 obtain ⟨e0, e1, e2, e3, e4, e5, e6, e7⟩ := op_cells HX.out
 exact bodyPost_ret (v := .tuple #[.agg #[.int .i64 0, .int .i64 0, .int .i64 0, .int .i64 2, .string item, .int .i64 qty, .int .i64 0, .int .i64 0], .nilIface]) (by simp [results, Tryz.results121, go_sem, e0, e1, e2, e3, e4, e5, e6, e7]) rfl ⟨by rw [HQ.out]; dsimp only; rw [errV_0], HBx.out⟩

set_option linter.unusedVariables false
set_option linter.unusedSimpArgs false
set_option maxHeartbeats 40000000 in
theorem opForK3 (w : World) (B : Nat) (E : Int → Addr) (hE : Errs w B E) (av ao : Option Addr) (nv cv no co : Nat) (xs : List Int) (l : List OpV) (kind qty dv sq : Int) (item : ByteArray) (hx : Ints w B av nv xs) (h : Ops w B ao no l) (hB : B ≤ w.heap.size) (hv : nv ≤ 1048576) (hc : no ≤ co) (hc2 : Fits no co) (hi : item.size ≤ 1048576) (s : StV) (hs : s = stateV item (counted xs l)) (h0 : 0 ≤ s.level) (h1 : s.level ≤ 1000000) (k1 : ¬ kind = 1) (hm0 : s.level % 2 = 1) (k2 : ¬ kind = 2) (e : kind = 3) :
  Calls Tryz.prog 121 #[.agg #[.slice av nv cv, .slice ao no co], .agg #[.int .i64 kind, .string item, .int .i64 qty, .int .i64 dv, .int .i64 sq]] w
   (OpFP E (oneOf s.level (decide (s.placed.kind = 4)) kind item qty) w) := by
 have Yk1 := Lib.hid k1
 have Yhm0 := Lib.hid hm0
 have Yk2 := Lib.hid k2
 have Ye := Lib.hid e
 clear k1 hm0 k2 e
 have hT := OneF.mk0 w #[.slice av nv cv, .slice ao no co] #[.int .i64 kind, .string item, .int .i64 qty, .int .i64 dv, .int .i64 sq] #[.int .i64 0, .int .i64 0, .int .i64 0, .int .i64 0, .string ⟨#[]⟩, .int .i64 0, .int .i64 0, .int .i64 0]
 have HX := Lib.hid (hx.below hT.bel hB)
 have HO := Lib.hid (h.below hT.bel hB)
 have HE := Lib.hid (hE.below hT.bel hB)
 have HT := Lib.hid hT
 have hBs := hT.bel.size
 have HS := Lib.hid hs
 clear h hx hT hs hE
 obtain ⟨sv, hse⟩ : ∃ sv, sv = decide (s.placed.kind = 4) := ⟨_, rfl⟩
 rw [← hse]
 have HSe := Lib.hid hse
 clear hse
 have hfl := opLineSaved
 go_enter Tryz.func121, Tryz.ntmps121
 go_upto_region 1 with fail
 generalize ((w.alloc (.cells #[.slice av nv cv, .slice ao no co] 32)).alloc (.cells #[.int .i64 kind, .string item, .int .i64 qty, .int .i64 dv, .int .i64 sq] 36)).alloc (.cells #[.int .i64 0, .int .i64 0, .int .i64 0, .int .i64 0, .string ⟨#[]⟩, .int .i64 0, .int .i64 0, .int .i64 0] 93) = w0 at HX HO HE HT hBs ⊢
 obtain ⟨c0, c1⟩ := pair_cells HT.out.fst
 obtain ⟨d0, d1, d2⟩ := cmd_cells HT.out.snd
 go_wp2_with fail
 refine (stateOfW w0 B av ao nv cv no co xs l item HX.out HO.out (by omega) hv hc hc2).mono ?_
 rintro e w1 ⟨rfl, hb⟩
 rw [← HS.out]
 have HT1 := Lib.hid (HT.out.next hb)
 have HE1 := Lib.hid (HE.out.below hb (by omega))
 have hs1 := hb.size
 clear hb c0 c1 d0 d1 d2 HT HX HO HE
 obtain ⟨d0, d1, d2⟩ := cmd_cells HT1.out.snd
 clear HS
 go_upto_region 2 with (refine wpList_store_rowTo rfl 199 _ _ rfl rfl w1.heap.size s.cells rfl rfl 199 _ (World.alloc_heap_new _ _) (stInfo s) rfl (stCells_one s) ?_)
 rw [World.setRow_alloc_new]
 have hbb := ((Below.refl w1.heap.size w1).alloc (Nat.le_refl _) (.cells s.cells 199))
 have HB2 := Lib.hid hbb
 have HT2 := Lib.hid (HT1.out.next hbb)
 have HE2 := Lib.hid (HE1.out.below hbb (by omega))
 have HSt := Lib.hid (World.alloc_heap_new w1 (.cells s.cells 199))
 have hs2 := hbb.size
 clear hbb HT1 HE1 d0 d1 d2
 generalize w1.alloc (.cells s.cells 199) = w2 at HT2 HE2 HSt HB2 hs2 ⊢
 have hst2 : w1.heap.size < w2.heap.size := (Array.getElem?_eq_some_iff.1 HSt.out).1
 generalize w1.heap.size = sb at HSt hst2 HB2 hs2 hs1 ⊢
 obtain ⟨d0, d1, d2⟩ := cmd_cells HT2.out.snd
 have s0 : w2.cell? ⟨sb, 0, none⟩ = some (.int .i64 s.level) := (cell_of_row _ _ _ _ _ _ HSt.out).trans rfl
 have hE5 := HE2.out.low
 have hlw : IntKind.i64.wrap (s.level + 1) = s.level + 1 := IntWalk.i64_in _ (by omega)
 have done : ∀ (wr : World) (q : OpV) (code : Int), Hid (oneOf s.level sv kind item qty = (q, code)) → Below w2.heap.size w2 wr →
   Hid ((setOp wr (w.heap.size + 1 + 1) (.int .i64 q.dev) (.int .i64 q.seq) (.int .i64 q.stamp) (.int .i64 q.kind) (.string q.item) (.int .i64 q.qty) (.int .i64 q.level) (.int .i64 q.undos)).heap[w.heap.size + 1 + 1]? = some (.cells #[.int .i64 q.dev, .int .i64 q.seq, .int .i64 q.stamp, .int .i64 q.kind, .string q.item, .int .i64 q.qty, .int .i64 q.level, .int .i64 q.undos] 93 (0, 0))) ∧
   Hid (Below w.heap.size w (setOp wr (w.heap.size + 1 + 1) (.int .i64 q.dev) (.int .i64 q.seq) (.int .i64 q.stamp) (.int .i64 q.kind) (.string q.item) (.int .i64 q.qty) (.int .i64 q.level) (.int .i64 q.undos))) := by
  intro wr q code hq hb
  exact ⟨setOp_same _ _ _ _ _ _ _ _ (HT2.out.next hb).res, setOp_below _ _ _ _ _ _ _ _ (HT2.out.next hb).bel (by omega)⟩
 have k1 := Yk1.out
 have k1b : (kind == 1) = false := beq_eq_false_iff_ne.2 k1
 go_wp2_with (refine wpList_load_row rfl 199 _ rfl sb rfl _ s.cells _ _ HSt.out Tryz.underlying199 rfl (stInfo s) ?_)
 refine (presentW s h0 w2).mono ?_
 rintro e w3 ⟨rfl, hb3⟩
 dsimp only
 have hm := Yhm0.out
 have hmd : decide (s.level % 2 = 1) = true := decide_eq_true hm
 rw [hmd]
 have HT3 := Lib.hid (HT2.out.next hb3)
 have HSt3 := Lib.hid ((hb3.block _ hst2).trans HSt.out)
 have HB3 := Lib.hid hb3
 clear hb3 d0 d1 d2 s0
 obtain ⟨d0, d1, d2⟩ := cmd_cells HT3.out.snd
 have s0 : w3.cell? ⟨sb, 0, none⟩ = some (.int .i64 s.level) := (cell_of_row _ _ _ _ _ _ HSt3.out).trans rfl
 have hlS : lineS s = sv := by
  rw [HSe.out]
  exact if_pos hm
 go_wp2_with (refine wpList_load_row rfl 199 _ rfl sb rfl _ s.cells _ _ HSt3.out Tryz.underlying199 rfl (stInfo s) ?_)
 refine (lineW s item h0 hi w3).mono ?_
 rintro e w4 ⟨rfl, hb4⟩
 rw [hlS]
 generalize lineI _ _ = li
 generalize lineQ _ = lq
 have hb5 : Below w2.heap.size w2 w4 := HB3.out.trans (hb4.mono HB3.out.size)
 clear hb4 HT3 HSt3 HB3 hlS
 have HB3 := Lib.hid hb5
 have HT3 := Lib.hid (HT2.out.next hb5)
 have HSt3 := Lib.hid ((hb5.block _ hst2).trans HSt.out)
 have g2 : w4.cell? ⟨2, 0, none⟩ = some (.iface 240 (.pointer (some (E 2)))) := (HE2.out.below hb5 (by omega)).cells 2 (by omega) (by omega)
 have g3 : w4.cell? ⟨3, 0, none⟩ = some (.iface 240 (.pointer (some (E 3)))) := (HE2.out.below hb5 (by omega)).cells 3 (by omega) (by omega)
 clear hb5 d0 d1 d2 s0
 obtain ⟨d0, d1, d2⟩ := cmd_cells HT3.out.snd
 obtain ⟨r0, r1, r2, r3, r4, r5, r6, r7⟩ := op_cells HT3.out.res
 obtain ⟨f0, f1, f2, f3, f4, f5, f6, f7⟩ := op_frozen HT3.out.res
 have s0 : w4.cell? ⟨sb, 0, none⟩ = some (.int .i64 s.level) := (cell_of_row _ _ _ _ _ _ HSt3.out).trans rfl
 have k2 := Yk2.out
 have k2b : (kind == 2) = false := beq_eq_false_iff_ne.2 k2
 have e := Ye.out
 clear Ye
 subst e
 have HQ : Hid (oneOf s.level sv 3 item qty = ((⟨0, 0, 0, 3, item, 0, (s.level + 1), 0⟩ : OpV), 0)) := by
  show _ = _
  unfold oneOf
  rw [if_neg k1, if_pos hm, if_neg k2, if_pos rfl]
  try rfl
 obtain ⟨HX, HBx⟩ := done w4 (⟨0, 0, 0, 3, item, 0, (s.level + 1), 0⟩ : OpV) 0 HQ HB3.out
 clear done
 dsimp only at HX HBx
 go_wp2
 change bodyPost _ _ _ _ _ (setOp w4 (w.heap.size + 1 + 1) (.int .i64 0) (.int .i64 0) (.int .i64 0) (.int .i64 3) (.string item) (.int .i64 0) (.int .i64 (s.level + 1)) (.int .i64 0))
 generalize setOp w4 (w.heap.size + 1 + 1) (.int .i64 0) (.int .i64 0) (.int .i64 0) (.int .i64 3) (.string item) (.int .i64 0) (.int .i64 (s.level + 1)) (.int .i64 0) = wf at HX HBx ⊢
 obtain ⟨e0, e1, e2, e3, e4, e5, e6, e7⟩ := op_cells HX.out
 exact bodyPost_ret (v := .tuple #[.agg #[.int .i64 0, .int .i64 0, .int .i64 0, .int .i64 3, .string item, .int .i64 0, .int .i64 (s.level + 1), .int .i64 0], .nilIface]) (by simp [results, Tryz.results121, go_sem, e0, e1, e2, e3, e4, e5, e6, e7]) rfl ⟨by rw [HQ.out]; dsimp only; rw [errV_0], HBx.out⟩

set_option maxHeartbeats 40000000 in
theorem opForK4 (w : World) (B : Nat) (E : Int → Addr) (hE : Errs w B E) (av ao : Option Addr) (nv cv no co : Nat) (xs : List Int) (l : List OpV) (kind qty dv sq : Int) (item : ByteArray) (hx : Ints w B av nv xs) (h : Ops w B ao no l) (hB : B ≤ w.heap.size) (hv : nv ≤ 1048576) (hc : no ≤ co) (hc2 : Fits no co) (hi : item.size ≤ 1048576) (s : StV) (hs : s = stateV item (counted xs l)) (h0 : 0 ≤ s.level) (h1 : s.level ≤ 1000000) (k1 : ¬ kind = 1) (hm0 : s.level % 2 = 1) (k2 : ¬ kind = 2) (k3 : ¬ kind = 3) (e : kind = 4) :
  Calls Tryz.prog 121 #[.agg #[.slice av nv cv, .slice ao no co], .agg #[.int .i64 kind, .string item, .int .i64 qty, .int .i64 dv, .int .i64 sq]] w
   (OpFP E (oneOf s.level (decide (s.placed.kind = 4)) kind item qty) w) := by
 have Yk1 := Lib.hid k1
 have Yhm0 := Lib.hid hm0
 have Yk2 := Lib.hid k2
 have Yk3 := Lib.hid k3
 have Ye := Lib.hid e
 clear k1 hm0 k2 k3 e
 have hT := OneF.mk0 w #[.slice av nv cv, .slice ao no co] #[.int .i64 kind, .string item, .int .i64 qty, .int .i64 dv, .int .i64 sq] #[.int .i64 0, .int .i64 0, .int .i64 0, .int .i64 0, .string ⟨#[]⟩, .int .i64 0, .int .i64 0, .int .i64 0]
 have HX := Lib.hid (hx.below hT.bel hB)
 have HO := Lib.hid (h.below hT.bel hB)
 have HE := Lib.hid (hE.below hT.bel hB)
 have HT := Lib.hid hT
 have hBs := hT.bel.size
 have HS := Lib.hid hs
 clear h hx hT hs hE
 obtain ⟨sv, hse⟩ : ∃ sv, sv = decide (s.placed.kind = 4) := ⟨_, rfl⟩
 rw [← hse]
 have HSe := Lib.hid hse
 clear hse
 have hfl := opLineSaved
 go_enter Tryz.func121, Tryz.ntmps121
 go_upto_region 1 with fail
 generalize ((w.alloc (.cells #[.slice av nv cv, .slice ao no co] 32)).alloc (.cells #[.int .i64 kind, .string item, .int .i64 qty, .int .i64 dv, .int .i64 sq] 36)).alloc (.cells #[.int .i64 0, .int .i64 0, .int .i64 0, .int .i64 0, .string ⟨#[]⟩, .int .i64 0, .int .i64 0, .int .i64 0] 93) = w0 at HX HO HE HT hBs ⊢
 obtain ⟨c0, c1⟩ := pair_cells HT.out.fst
 obtain ⟨d0, d1, d2⟩ := cmd_cells HT.out.snd
 go_wp2_with fail
 refine (stateOfW w0 B av ao nv cv no co xs l item HX.out HO.out (by omega) hv hc hc2).mono ?_
 rintro e w1 ⟨rfl, hb⟩
 rw [← HS.out]
 have HT1 := Lib.hid (HT.out.next hb)
 have HE1 := Lib.hid (HE.out.below hb (by omega))
 have hs1 := hb.size
 clear hb c0 c1 d0 d1 d2 HT HX HO HE
 obtain ⟨d0, d1, d2⟩ := cmd_cells HT1.out.snd
 clear HS
 go_upto_region 2 with (refine wpList_store_rowTo rfl 199 _ _ rfl rfl w1.heap.size s.cells rfl rfl 199 _ (World.alloc_heap_new _ _) (stInfo s) rfl (stCells_one s) ?_)
 rw [World.setRow_alloc_new]
 have hbb := ((Below.refl w1.heap.size w1).alloc (Nat.le_refl _) (.cells s.cells 199))
 have HB2 := Lib.hid hbb
 have HT2 := Lib.hid (HT1.out.next hbb)
 have HE2 := Lib.hid (HE1.out.below hbb (by omega))
 have HSt := Lib.hid (World.alloc_heap_new w1 (.cells s.cells 199))
 have hs2 := hbb.size
 clear hbb HT1 HE1 d0 d1 d2
 generalize w1.alloc (.cells s.cells 199) = w2 at HT2 HE2 HSt HB2 hs2 ⊢
 have hst2 : w1.heap.size < w2.heap.size := (Array.getElem?_eq_some_iff.1 HSt.out).1
 generalize w1.heap.size = sb at HSt hst2 HB2 hs2 hs1 ⊢
 obtain ⟨d0, d1, d2⟩ := cmd_cells HT2.out.snd
 have s0 : w2.cell? ⟨sb, 0, none⟩ = some (.int .i64 s.level) := (cell_of_row _ _ _ _ _ _ HSt.out).trans rfl
 have hE5 := HE2.out.low
 have hlw : IntKind.i64.wrap (s.level + 1) = s.level + 1 := IntWalk.i64_in _ (by omega)
 have done : ∀ (wr : World) (q : OpV) (code : Int), Hid (oneOf s.level sv kind item qty = (q, code)) → Below w2.heap.size w2 wr →
   Hid ((setOp wr (w.heap.size + 1 + 1) (.int .i64 q.dev) (.int .i64 q.seq) (.int .i64 q.stamp) (.int .i64 q.kind) (.string q.item) (.int .i64 q.qty) (.int .i64 q.level) (.int .i64 q.undos)).heap[w.heap.size + 1 + 1]? = some (.cells #[.int .i64 q.dev, .int .i64 q.seq, .int .i64 q.stamp, .int .i64 q.kind, .string q.item, .int .i64 q.qty, .int .i64 q.level, .int .i64 q.undos] 93 (0, 0))) ∧
   Hid (Below w.heap.size w (setOp wr (w.heap.size + 1 + 1) (.int .i64 q.dev) (.int .i64 q.seq) (.int .i64 q.stamp) (.int .i64 q.kind) (.string q.item) (.int .i64 q.qty) (.int .i64 q.level) (.int .i64 q.undos))) := by
  intro wr q code hq hb
  exact ⟨setOp_same _ _ _ _ _ _ _ _ (HT2.out.next hb).res, setOp_below _ _ _ _ _ _ _ _ (HT2.out.next hb).bel (by omega)⟩
 have k1 := Yk1.out
 have k1b : (kind == 1) = false := beq_eq_false_iff_ne.2 k1
 go_wp2_with (refine wpList_load_row rfl 199 _ rfl sb rfl _ s.cells _ _ HSt.out Tryz.underlying199 rfl (stInfo s) ?_)
 refine (presentW s h0 w2).mono ?_
 rintro e w3 ⟨rfl, hb3⟩
 dsimp only
 have hm := Yhm0.out
 have hmd : decide (s.level % 2 = 1) = true := decide_eq_true hm
 rw [hmd]
 have HT3 := Lib.hid (HT2.out.next hb3)
 have HSt3 := Lib.hid ((hb3.block _ hst2).trans HSt.out)
 have HB3 := Lib.hid hb3
 clear hb3 d0 d1 d2 s0
 obtain ⟨d0, d1, d2⟩ := cmd_cells HT3.out.snd
 have s0 : w3.cell? ⟨sb, 0, none⟩ = some (.int .i64 s.level) := (cell_of_row _ _ _ _ _ _ HSt3.out).trans rfl
 have hlS : lineS s = sv := by
  rw [HSe.out]
  exact if_pos hm
 go_wp2_with (refine wpList_load_row rfl 199 _ rfl sb rfl _ s.cells _ _ HSt3.out Tryz.underlying199 rfl (stInfo s) ?_)
 refine (lineW s item h0 hi w3).mono ?_
 rintro e w4 ⟨rfl, hb4⟩
 rw [hlS]
 generalize lineI _ _ = li
 generalize lineQ _ = lq
 have hb5 : Below w2.heap.size w2 w4 := HB3.out.trans (hb4.mono HB3.out.size)
 clear hb4 HT3 HSt3 HB3 hlS
 have HB3 := Lib.hid hb5
 have HT3 := Lib.hid (HT2.out.next hb5)
 have HSt3 := Lib.hid ((hb5.block _ hst2).trans HSt.out)
 have g2 : w4.cell? ⟨2, 0, none⟩ = some (.iface 240 (.pointer (some (E 2)))) := (HE2.out.below hb5 (by omega)).cells 2 (by omega) (by omega)
 have g3 : w4.cell? ⟨3, 0, none⟩ = some (.iface 240 (.pointer (some (E 3)))) := (HE2.out.below hb5 (by omega)).cells 3 (by omega) (by omega)
 clear hb5 d0 d1 d2 s0
 obtain ⟨d0, d1, d2⟩ := cmd_cells HT3.out.snd
 obtain ⟨r0, r1, r2, r3, r4, r5, r6, r7⟩ := op_cells HT3.out.res
 obtain ⟨f0, f1, f2, f3, f4, f5, f6, f7⟩ := op_frozen HT3.out.res
 have s0 : w4.cell? ⟨sb, 0, none⟩ = some (.int .i64 s.level) := (cell_of_row _ _ _ _ _ _ HSt3.out).trans rfl
 have k2 := Yk2.out
 have k2b : (kind == 2) = false := beq_eq_false_iff_ne.2 k2
 have k3 := Yk3.out
 have k3b : (kind == 3) = false := beq_eq_false_iff_ne.2 k3
 have e := Ye.out
 clear Ye
 subst e
 cases sv
 ·
  have HQ : Hid (oneOf s.level false 4 item qty = ((⟨0, 0, 0, 4, item, 0, 0, 0⟩ : OpV), 0)) := by
   show _ = _
   unfold oneOf
   rw [if_neg k1, if_pos hm, if_neg k2, if_neg k3, if_pos rfl]
   try rfl
  obtain ⟨HX, HBx⟩ := done w4 (⟨0, 0, 0, 4, item, 0, 0, 0⟩ : OpV) 0 HQ HB3.out
  clear done
  dsimp only at HX HBx
  go_wp2
  change bodyPost _ _ _ _ _ (setOp w4 (w.heap.size + 1 + 1) (.int .i64 0) (.int .i64 0) (.int .i64 0) (.int .i64 4) (.string item) (.int .i64 0) (.int .i64 0) (.int .i64 0))
  generalize setOp w4 (w.heap.size + 1 + 1) (.int .i64 0) (.int .i64 0) (.int .i64 0) (.int .i64 4) (.string item) (.int .i64 0) (.int .i64 0) (.int .i64 0) = wf at HX HBx ⊢
  obtain ⟨e0, e1, e2, e3, e4, e5, e6, e7⟩ := op_cells HX.out
  exact bodyPost_ret (v := .tuple #[.agg #[.int .i64 0, .int .i64 0, .int .i64 0, .int .i64 4, .string item, .int .i64 0, .int .i64 0, .int .i64 0], .nilIface]) (by simp [results, Tryz.results121, go_sem, e0, e1, e2, e3, e4, e5, e6, e7]) rfl ⟨by rw [HQ.out]; dsimp only; rw [errV_0], HBx.out⟩
 ·
  have HQ : Hid (oneOf s.level true 4 item qty = ((⟨0, 0, 0, 0, ⟨#[]⟩, 0, 0, 0⟩ : OpV), 2)) := by
   show _ = _
   unfold oneOf
   rw [if_neg k1, if_pos hm, if_neg k2, if_neg k3, if_pos rfl]
   try rfl
  clear r0 r1 r2 r3 r4 r5 r6 r7 f0 f1 f2 f3 f4 f5 f6 f7
  go_wp2_with fail
  refine wp_region_held_drew (S := fun w' => w'.cell? ⟨2, 0, none⟩ = some (.iface 240 (.pointer (some (E 2))))) (by kernel_rfl) g2 (fun hHeld => ?_)
  have HBz : Hid (Below w2.heap.size w2 w4.drew) := HB3.out.trans ⟨rfl, rfl, rfl, Nat.le_refl _, fun _ _ => rfl⟩
  generalize w4.drew = z0 at HBz hHeld ⊢
  have HTz := Lib.hid (HT2.out.next HBz.out)
  obtain ⟨r0, r1, r2, r3, r4, r5, r6, r7⟩ := op_cells HTz.out.res
  obtain ⟨f0, f1, f2, f3, f4, f5, f6, f7⟩ := op_frozen HTz.out.res
  refine tk 0 ⟨some 77, .build 93 #[], 93, "l06_commands.go:169", #[], none⟩ ?_
  (try simp only [Act.put, u1, u2, u3])
  refine tk 1 ⟨some 78, .load 65 (Operand.global 2), 65, "l06_commands.go:169", #[{ on := 2, ground := Ground.gcOnly Departure.lateStores }], none⟩ ?_
  (try simp only [Act.put, u1, u2, u3])
  refine rk 2 rfl (fun K hK => ?_)
  go_simp
  refine hK.out _ _ ((World.cell?_of_block (a := ⟨2, 0, none⟩) (setOp_other (w := z0) (b := w.heap.size + 1 + 1) (k := 2) (.int .i64 0) (.int .i64 0) (.int .i64 0) (.int .i64 0) (.string ⟨#[]⟩) (.int .i64 0) (.int .i64 0) (.int .i64 0) (by omega))).trans hHeld) (fun hHeld2 => ?_)
  clear hK K
  (try simp only [Act.put, u1, u2, u3])
  refine tk 3 ⟨some 5, .assign (.tmp 78), 65, "l06_commands.go:169", #[⟨1, .data⟩, ⟨2, .chain⟩, ⟨0, .phase⟩, ⟨1, .phase⟩, ⟨2, .phase⟩], none⟩ ?_
  (try simp only [Act.put, u1, u2, u3])
  refine wpAnyH_done (by kernel_rfl) ?_ _
  obtain ⟨HX, HBx⟩ := done z0 (⟨0, 0, 0, 0, ⟨#[]⟩, 0, 0, 0⟩ : OpV) 2 HQ HBz.out
  clear done
  dsimp only at HX HBx
  go_wp2
  change bodyPost _ _ _ _ _ (setOp z0 (w.heap.size + 1 + 1) (.int .i64 0) (.int .i64 0) (.int .i64 0) (.int .i64 0) (.string ⟨#[]⟩) (.int .i64 0) (.int .i64 0) (.int .i64 0))
  generalize setOp z0 (w.heap.size + 1 + 1) (.int .i64 0) (.int .i64 0) (.int .i64 0) (.int .i64 0) (.string ⟨#[]⟩) (.int .i64 0) (.int .i64 0) (.int .i64 0) = wf at HX HBx ⊢
  obtain ⟨e0, e1, e2, e3, e4, e5, e6, e7⟩ := op_cells HX.out
  exact bodyPost_ret (v := .tuple #[.agg #[.int .i64 0, .int .i64 0, .int .i64 0, .int .i64 0, .string ⟨#[]⟩, .int .i64 0, .int .i64 0, .int .i64 0], (.iface 240 (.pointer (some (E 2))))]) (by simp [results, Tryz.results121, go_sem, e0, e1, e2, e3, e4, e5, e6, e7]) rfl ⟨by rw [HQ.out]; dsimp only; rw [errV_2], HBx.out⟩

set_option linter.unusedVariables false
set_option linter.unusedSimpArgs false
set_option maxHeartbeats 40000000 in
theorem opForK5 (w : World) (B : Nat) (E : Int → Addr) (hE : Errs w B E) (av ao : Option Addr) (nv cv no co : Nat) (xs : List Int) (l : List OpV) (kind qty dv sq : Int) (item : ByteArray) (hx : Ints w B av nv xs) (h : Ops w B ao no l) (hB : B ≤ w.heap.size) (hv : nv ≤ 1048576) (hc : no ≤ co) (hc2 : Fits no co) (hi : item.size ≤ 1048576) (s : StV) (hs : s = stateV item (counted xs l)) (h0 : 0 ≤ s.level) (h1 : s.level ≤ 1000000) (k1 : ¬ kind = 1) (hm0 : s.level % 2 = 1) (k2 : ¬ kind = 2) (k3 : ¬ kind = 3) (k4 : ¬ kind = 4) (e : kind = 5) :
  Calls Tryz.prog 121 #[.agg #[.slice av nv cv, .slice ao no co], .agg #[.int .i64 kind, .string item, .int .i64 qty, .int .i64 dv, .int .i64 sq]] w
   (OpFP E (oneOf s.level (decide (s.placed.kind = 4)) kind item qty) w) := by
 have Yk1 := Lib.hid k1
 have Yhm0 := Lib.hid hm0
 have Yk2 := Lib.hid k2
 have Yk3 := Lib.hid k3
 have Yk4 := Lib.hid k4
 have Ye := Lib.hid e
 clear k1 hm0 k2 k3 k4 e
 have hT := OneF.mk0 w #[.slice av nv cv, .slice ao no co] #[.int .i64 kind, .string item, .int .i64 qty, .int .i64 dv, .int .i64 sq] #[.int .i64 0, .int .i64 0, .int .i64 0, .int .i64 0, .string ⟨#[]⟩, .int .i64 0, .int .i64 0, .int .i64 0]
 have HX := Lib.hid (hx.below hT.bel hB)
 have HO := Lib.hid (h.below hT.bel hB)
 have HE := Lib.hid (hE.below hT.bel hB)
 have HT := Lib.hid hT
 have hBs := hT.bel.size
 have HS := Lib.hid hs
 clear h hx hT hs hE
 obtain ⟨sv, hse⟩ : ∃ sv, sv = decide (s.placed.kind = 4) := ⟨_, rfl⟩
 rw [← hse]
 have HSe := Lib.hid hse
 clear hse
 have hfl := opLineSaved
 go_enter Tryz.func121, Tryz.ntmps121
 go_upto_region 1 with fail
 generalize ((w.alloc (.cells #[.slice av nv cv, .slice ao no co] 32)).alloc (.cells #[.int .i64 kind, .string item, .int .i64 qty, .int .i64 dv, .int .i64 sq] 36)).alloc (.cells #[.int .i64 0, .int .i64 0, .int .i64 0, .int .i64 0, .string ⟨#[]⟩, .int .i64 0, .int .i64 0, .int .i64 0] 93) = w0 at HX HO HE HT hBs ⊢
 obtain ⟨c0, c1⟩ := pair_cells HT.out.fst
 obtain ⟨d0, d1, d2⟩ := cmd_cells HT.out.snd
 go_wp2_with fail
 refine (stateOfW w0 B av ao nv cv no co xs l item HX.out HO.out (by omega) hv hc hc2).mono ?_
 rintro e w1 ⟨rfl, hb⟩
 rw [← HS.out]
 have HT1 := Lib.hid (HT.out.next hb)
 have HE1 := Lib.hid (HE.out.below hb (by omega))
 have hs1 := hb.size
 clear hb c0 c1 d0 d1 d2 HT HX HO HE
 obtain ⟨d0, d1, d2⟩ := cmd_cells HT1.out.snd
 clear HS
 go_upto_region 2 with (refine wpList_store_rowTo rfl 199 _ _ rfl rfl w1.heap.size s.cells rfl rfl 199 _ (World.alloc_heap_new _ _) (stInfo s) rfl (stCells_one s) ?_)
 rw [World.setRow_alloc_new]
 have hbb := ((Below.refl w1.heap.size w1).alloc (Nat.le_refl _) (.cells s.cells 199))
 have HB2 := Lib.hid hbb
 have HT2 := Lib.hid (HT1.out.next hbb)
 have HE2 := Lib.hid (HE1.out.below hbb (by omega))
 have HSt := Lib.hid (World.alloc_heap_new w1 (.cells s.cells 199))
 have hs2 := hbb.size
 clear hbb HT1 HE1 d0 d1 d2
 generalize w1.alloc (.cells s.cells 199) = w2 at HT2 HE2 HSt HB2 hs2 ⊢
 have hst2 : w1.heap.size < w2.heap.size := (Array.getElem?_eq_some_iff.1 HSt.out).1
 generalize w1.heap.size = sb at HSt hst2 HB2 hs2 hs1 ⊢
 obtain ⟨d0, d1, d2⟩ := cmd_cells HT2.out.snd
 have s0 : w2.cell? ⟨sb, 0, none⟩ = some (.int .i64 s.level) := (cell_of_row _ _ _ _ _ _ HSt.out).trans rfl
 have hE5 := HE2.out.low
 have hlw : IntKind.i64.wrap (s.level + 1) = s.level + 1 := IntWalk.i64_in _ (by omega)
 have done : ∀ (wr : World) (q : OpV) (code : Int), Hid (oneOf s.level sv kind item qty = (q, code)) → Below w2.heap.size w2 wr →
   Hid ((setOp wr (w.heap.size + 1 + 1) (.int .i64 q.dev) (.int .i64 q.seq) (.int .i64 q.stamp) (.int .i64 q.kind) (.string q.item) (.int .i64 q.qty) (.int .i64 q.level) (.int .i64 q.undos)).heap[w.heap.size + 1 + 1]? = some (.cells #[.int .i64 q.dev, .int .i64 q.seq, .int .i64 q.stamp, .int .i64 q.kind, .string q.item, .int .i64 q.qty, .int .i64 q.level, .int .i64 q.undos] 93 (0, 0))) ∧
   Hid (Below w.heap.size w (setOp wr (w.heap.size + 1 + 1) (.int .i64 q.dev) (.int .i64 q.seq) (.int .i64 q.stamp) (.int .i64 q.kind) (.string q.item) (.int .i64 q.qty) (.int .i64 q.level) (.int .i64 q.undos))) := by
  intro wr q code hq hb
  exact ⟨setOp_same _ _ _ _ _ _ _ _ (HT2.out.next hb).res, setOp_below _ _ _ _ _ _ _ _ (HT2.out.next hb).bel (by omega)⟩
 have k1 := Yk1.out
 have k1b : (kind == 1) = false := beq_eq_false_iff_ne.2 k1
 go_wp2_with (refine wpList_load_row rfl 199 _ rfl sb rfl _ s.cells _ _ HSt.out Tryz.underlying199 rfl (stInfo s) ?_)
 refine (presentW s h0 w2).mono ?_
 rintro e w3 ⟨rfl, hb3⟩
 dsimp only
 have hm := Yhm0.out
 have hmd : decide (s.level % 2 = 1) = true := decide_eq_true hm
 rw [hmd]
 have HT3 := Lib.hid (HT2.out.next hb3)
 have HSt3 := Lib.hid ((hb3.block _ hst2).trans HSt.out)
 have HB3 := Lib.hid hb3
 clear hb3 d0 d1 d2 s0
 obtain ⟨d0, d1, d2⟩ := cmd_cells HT3.out.snd
 have s0 : w3.cell? ⟨sb, 0, none⟩ = some (.int .i64 s.level) := (cell_of_row _ _ _ _ _ _ HSt3.out).trans rfl
 have hlS : lineS s = sv := by
  rw [HSe.out]
  exact if_pos hm
 go_wp2_with (refine wpList_load_row rfl 199 _ rfl sb rfl _ s.cells _ _ HSt3.out Tryz.underlying199 rfl (stInfo s) ?_)
 refine (lineW s item h0 hi w3).mono ?_
 rintro e w4 ⟨rfl, hb4⟩
 rw [hlS]
 generalize lineI _ _ = li
 generalize lineQ _ = lq
 have hb5 : Below w2.heap.size w2 w4 := HB3.out.trans (hb4.mono HB3.out.size)
 clear hb4 HT3 HSt3 HB3 hlS
 have HB3 := Lib.hid hb5
 have HT3 := Lib.hid (HT2.out.next hb5)
 have HSt3 := Lib.hid ((hb5.block _ hst2).trans HSt.out)
 have g2 : w4.cell? ⟨2, 0, none⟩ = some (.iface 240 (.pointer (some (E 2)))) := (HE2.out.below hb5 (by omega)).cells 2 (by omega) (by omega)
 have g3 : w4.cell? ⟨3, 0, none⟩ = some (.iface 240 (.pointer (some (E 3)))) := (HE2.out.below hb5 (by omega)).cells 3 (by omega) (by omega)
 clear hb5 d0 d1 d2 s0
 obtain ⟨d0, d1, d2⟩ := cmd_cells HT3.out.snd
 obtain ⟨r0, r1, r2, r3, r4, r5, r6, r7⟩ := op_cells HT3.out.res
 obtain ⟨f0, f1, f2, f3, f4, f5, f6, f7⟩ := op_frozen HT3.out.res
 have s0 : w4.cell? ⟨sb, 0, none⟩ = some (.int .i64 s.level) := (cell_of_row _ _ _ _ _ _ HSt3.out).trans rfl
 have k2 := Yk2.out
 have k2b : (kind == 2) = false := beq_eq_false_iff_ne.2 k2
 have k3 := Yk3.out
 have k3b : (kind == 3) = false := beq_eq_false_iff_ne.2 k3
 have k4 := Yk4.out
 have k4b : (kind == 4) = false := beq_eq_false_iff_ne.2 k4
 have e := Ye.out
 clear Ye
 subst e
 cases sv
 ·
  have HQ : Hid (oneOf s.level false 5 item qty = ((⟨0, 0, 0, 0, ⟨#[]⟩, 0, 0, 0⟩ : OpV), 2)) := by
   show _ = _
   unfold oneOf
   rw [if_neg k1, if_pos hm, if_neg k2, if_neg k3, if_neg k4, if_pos rfl]
   try rfl
  clear r0 r1 r2 r3 r4 r5 r6 r7 f0 f1 f2 f3 f4 f5 f6 f7
  go_wp2_with fail
  refine wp_region_held_drew (S := fun w' => w'.cell? ⟨2, 0, none⟩ = some (.iface 240 (.pointer (some (E 2))))) (by kernel_rfl) g2 (fun hHeld => ?_)
  have HBz : Hid (Below w2.heap.size w2 w4.drew) := HB3.out.trans ⟨rfl, rfl, rfl, Nat.le_refl _, fun _ _ => rfl⟩
  generalize w4.drew = z0 at HBz hHeld ⊢
  have HTz := Lib.hid (HT2.out.next HBz.out)
  obtain ⟨r0, r1, r2, r3, r4, r5, r6, r7⟩ := op_cells HTz.out.res
  obtain ⟨f0, f1, f2, f3, f4, f5, f6, f7⟩ := op_frozen HTz.out.res
  refine tk 0 ⟨some 77, .build 93 #[], 93, "l06_commands.go:169", #[], none⟩ ?_
  (try simp only [Act.put, u1, u2, u3])
  refine tk 1 ⟨some 78, .load 65 (Operand.global 2), 65, "l06_commands.go:169", #[{ on := 2, ground := Ground.gcOnly Departure.lateStores }], none⟩ ?_
  (try simp only [Act.put, u1, u2, u3])
  refine rk 2 rfl (fun K hK => ?_)
  go_simp
  refine hK.out _ _ ((World.cell?_of_block (a := ⟨2, 0, none⟩) (setOp_other (w := z0) (b := w.heap.size + 1 + 1) (k := 2) (.int .i64 0) (.int .i64 0) (.int .i64 0) (.int .i64 0) (.string ⟨#[]⟩) (.int .i64 0) (.int .i64 0) (.int .i64 0) (by omega))).trans hHeld) (fun hHeld2 => ?_)
  clear hK K
  (try simp only [Act.put, u1, u2, u3])
  refine tk 3 ⟨some 5, .assign (.tmp 78), 65, "l06_commands.go:169", #[⟨1, .data⟩, ⟨2, .chain⟩, ⟨0, .phase⟩, ⟨1, .phase⟩, ⟨2, .phase⟩], none⟩ ?_
  (try simp only [Act.put, u1, u2, u3])
  refine wpAnyH_done (by kernel_rfl) ?_ _
  obtain ⟨HX, HBx⟩ := done z0 (⟨0, 0, 0, 0, ⟨#[]⟩, 0, 0, 0⟩ : OpV) 2 HQ HBz.out
  clear done
  dsimp only at HX HBx
  go_wp2
  change bodyPost _ _ _ _ _ (setOp z0 (w.heap.size + 1 + 1) (.int .i64 0) (.int .i64 0) (.int .i64 0) (.int .i64 0) (.string ⟨#[]⟩) (.int .i64 0) (.int .i64 0) (.int .i64 0))
  generalize setOp z0 (w.heap.size + 1 + 1) (.int .i64 0) (.int .i64 0) (.int .i64 0) (.int .i64 0) (.string ⟨#[]⟩) (.int .i64 0) (.int .i64 0) (.int .i64 0) = wf at HX HBx ⊢
  obtain ⟨e0, e1, e2, e3, e4, e5, e6, e7⟩ := op_cells HX.out
  exact bodyPost_ret (v := .tuple #[.agg #[.int .i64 0, .int .i64 0, .int .i64 0, .int .i64 0, .string ⟨#[]⟩, .int .i64 0, .int .i64 0, .int .i64 0], (.iface 240 (.pointer (some (E 2))))]) (by simp [results, Tryz.results121, go_sem, e0, e1, e2, e3, e4, e5, e6, e7]) rfl ⟨by rw [HQ.out]; dsimp only; rw [errV_2], HBx.out⟩
 ·
  have HQ : Hid (oneOf s.level true 5 item qty = ((⟨0, 0, 0, 5, item, 0, 0, 0⟩ : OpV), 0)) := by
   show _ = _
   unfold oneOf
   rw [if_neg k1, if_pos hm, if_neg k2, if_neg k3, if_neg k4, if_pos rfl]
   try rfl
  obtain ⟨HX, HBx⟩ := done w4 (⟨0, 0, 0, 5, item, 0, 0, 0⟩ : OpV) 0 HQ HB3.out
  clear done
  dsimp only at HX HBx
  go_wp2
  change bodyPost _ _ _ _ _ (setOp w4 (w.heap.size + 1 + 1) (.int .i64 0) (.int .i64 0) (.int .i64 0) (.int .i64 5) (.string item) (.int .i64 0) (.int .i64 0) (.int .i64 0))
  generalize setOp w4 (w.heap.size + 1 + 1) (.int .i64 0) (.int .i64 0) (.int .i64 0) (.int .i64 5) (.string item) (.int .i64 0) (.int .i64 0) (.int .i64 0) = wf at HX HBx ⊢
  obtain ⟨e0, e1, e2, e3, e4, e5, e6, e7⟩ := op_cells HX.out
  exact bodyPost_ret (v := .tuple #[.agg #[.int .i64 0, .int .i64 0, .int .i64 0, .int .i64 5, .string item, .int .i64 0, .int .i64 0, .int .i64 0], .nilIface]) (by simp [results, Tryz.results121, go_sem, e0, e1, e2, e3, e4, e5, e6, e7]) rfl ⟨by rw [HQ.out]; dsimp only; rw [errV_0], HBx.out⟩

set_option maxHeartbeats 40000000 in
theorem opForK6 (w : World) (B : Nat) (E : Int → Addr) (hE : Errs w B E) (av ao : Option Addr) (nv cv no co : Nat) (xs : List Int) (l : List OpV) (kind qty dv sq : Int) (item : ByteArray) (hx : Ints w B av nv xs) (h : Ops w B ao no l) (hB : B ≤ w.heap.size) (hv : nv ≤ 1048576) (hc : no ≤ co) (hc2 : Fits no co) (hi : item.size ≤ 1048576) (s : StV) (hs : s = stateV item (counted xs l)) (h0 : 0 ≤ s.level) (h1 : s.level ≤ 1000000) (k1 : ¬ kind = 1) (hm0 : s.level % 2 = 1) (k2 : ¬ kind = 2) (k3 : ¬ kind = 3) (k4 : ¬ kind = 4) (k5 : ¬ kind = 5) :
  Calls Tryz.prog 121 #[.agg #[.slice av nv cv, .slice ao no co], .agg #[.int .i64 kind, .string item, .int .i64 qty, .int .i64 dv, .int .i64 sq]] w
   (OpFP E (oneOf s.level (decide (s.placed.kind = 4)) kind item qty) w) := by
 have Yk1 := Lib.hid k1
 have Yhm0 := Lib.hid hm0
 have Yk2 := Lib.hid k2
 have Yk3 := Lib.hid k3
 have Yk4 := Lib.hid k4
 have Yk5 := Lib.hid k5
 clear k1 hm0 k2 k3 k4 k5
 have hT := OneF.mk0 w #[.slice av nv cv, .slice ao no co] #[.int .i64 kind, .string item, .int .i64 qty, .int .i64 dv, .int .i64 sq] #[.int .i64 0, .int .i64 0, .int .i64 0, .int .i64 0, .string ⟨#[]⟩, .int .i64 0, .int .i64 0, .int .i64 0]
 have HX := Lib.hid (hx.below hT.bel hB)
 have HO := Lib.hid (h.below hT.bel hB)
 have HE := Lib.hid (hE.below hT.bel hB)
 have HT := Lib.hid hT
 have hBs := hT.bel.size
 have HS := Lib.hid hs
 clear h hx hT hs hE
 obtain ⟨sv, hse⟩ : ∃ sv, sv = decide (s.placed.kind = 4) := ⟨_, rfl⟩
 rw [← hse]
 have HSe := Lib.hid hse
 clear hse
 have hfl := opLineSaved
 go_enter Tryz.func121, Tryz.ntmps121
 go_upto_region 1 with fail
 generalize ((w.alloc (.cells #[.slice av nv cv, .slice ao no co] 32)).alloc (.cells #[.int .i64 kind, .string item, .int .i64 qty, .int .i64 dv, .int .i64 sq] 36)).alloc (.cells #[.int .i64 0, .int .i64 0, .int .i64 0, .int .i64 0, .string ⟨#[]⟩, .int .i64 0, .int .i64 0, .int .i64 0] 93) = w0 at HX HO HE HT hBs ⊢
 obtain ⟨c0, c1⟩ := pair_cells HT.out.fst
 obtain ⟨d0, d1, d2⟩ := cmd_cells HT.out.snd
 go_wp2_with fail
 refine (stateOfW w0 B av ao nv cv no co xs l item HX.out HO.out (by omega) hv hc hc2).mono ?_
 rintro e w1 ⟨rfl, hb⟩
 rw [← HS.out]
 have HT1 := Lib.hid (HT.out.next hb)
 have HE1 := Lib.hid (HE.out.below hb (by omega))
 have hs1 := hb.size
 clear hb c0 c1 d0 d1 d2 HT HX HO HE
 obtain ⟨d0, d1, d2⟩ := cmd_cells HT1.out.snd
 clear HS
 go_upto_region 2 with (refine wpList_store_rowTo rfl 199 _ _ rfl rfl w1.heap.size s.cells rfl rfl 199 _ (World.alloc_heap_new _ _) (stInfo s) rfl (stCells_one s) ?_)
 rw [World.setRow_alloc_new]
 have hbb := ((Below.refl w1.heap.size w1).alloc (Nat.le_refl _) (.cells s.cells 199))
 have HB2 := Lib.hid hbb
 have HT2 := Lib.hid (HT1.out.next hbb)
 have HE2 := Lib.hid (HE1.out.below hbb (by omega))
 have HSt := Lib.hid (World.alloc_heap_new w1 (.cells s.cells 199))
 have hs2 := hbb.size
 clear hbb HT1 HE1 d0 d1 d2
 generalize w1.alloc (.cells s.cells 199) = w2 at HT2 HE2 HSt HB2 hs2 ⊢
 have hst2 : w1.heap.size < w2.heap.size := (Array.getElem?_eq_some_iff.1 HSt.out).1
 generalize w1.heap.size = sb at HSt hst2 HB2 hs2 hs1 ⊢
 obtain ⟨d0, d1, d2⟩ := cmd_cells HT2.out.snd
 have s0 : w2.cell? ⟨sb, 0, none⟩ = some (.int .i64 s.level) := (cell_of_row _ _ _ _ _ _ HSt.out).trans rfl
 have hE5 := HE2.out.low
 have hlw : IntKind.i64.wrap (s.level + 1) = s.level + 1 := IntWalk.i64_in _ (by omega)
 have done : ∀ (wr : World) (q : OpV) (code : Int), Hid (oneOf s.level sv kind item qty = (q, code)) → Below w2.heap.size w2 wr →
   Hid ((setOp wr (w.heap.size + 1 + 1) (.int .i64 q.dev) (.int .i64 q.seq) (.int .i64 q.stamp) (.int .i64 q.kind) (.string q.item) (.int .i64 q.qty) (.int .i64 q.level) (.int .i64 q.undos)).heap[w.heap.size + 1 + 1]? = some (.cells #[.int .i64 q.dev, .int .i64 q.seq, .int .i64 q.stamp, .int .i64 q.kind, .string q.item, .int .i64 q.qty, .int .i64 q.level, .int .i64 q.undos] 93 (0, 0))) ∧
   Hid (Below w.heap.size w (setOp wr (w.heap.size + 1 + 1) (.int .i64 q.dev) (.int .i64 q.seq) (.int .i64 q.stamp) (.int .i64 q.kind) (.string q.item) (.int .i64 q.qty) (.int .i64 q.level) (.int .i64 q.undos))) := by
  intro wr q code hq hb
  exact ⟨setOp_same _ _ _ _ _ _ _ _ (HT2.out.next hb).res, setOp_below _ _ _ _ _ _ _ _ (HT2.out.next hb).bel (by omega)⟩
 have k1 := Yk1.out
 have k1b : (kind == 1) = false := beq_eq_false_iff_ne.2 k1
 go_wp2_with (refine wpList_load_row rfl 199 _ rfl sb rfl _ s.cells _ _ HSt.out Tryz.underlying199 rfl (stInfo s) ?_)
 refine (presentW s h0 w2).mono ?_
 rintro e w3 ⟨rfl, hb3⟩
 dsimp only
 have hm := Yhm0.out
 have hmd : decide (s.level % 2 = 1) = true := decide_eq_true hm
 rw [hmd]
 have HT3 := Lib.hid (HT2.out.next hb3)
 have HSt3 := Lib.hid ((hb3.block _ hst2).trans HSt.out)
 have HB3 := Lib.hid hb3
 clear hb3 d0 d1 d2 s0
 obtain ⟨d0, d1, d2⟩ := cmd_cells HT3.out.snd
 have s0 : w3.cell? ⟨sb, 0, none⟩ = some (.int .i64 s.level) := (cell_of_row _ _ _ _ _ _ HSt3.out).trans rfl
 have hlS : lineS s = sv := by
  rw [HSe.out]
  exact if_pos hm
 go_wp2_with (refine wpList_load_row rfl 199 _ rfl sb rfl _ s.cells _ _ HSt3.out Tryz.underlying199 rfl (stInfo s) ?_)
 refine (lineW s item h0 hi w3).mono ?_
 rintro e w4 ⟨rfl, hb4⟩
 rw [hlS]
 generalize lineI _ _ = li
 generalize lineQ _ = lq
 have hb5 : Below w2.heap.size w2 w4 := HB3.out.trans (hb4.mono HB3.out.size)
 clear hb4 HT3 HSt3 HB3 hlS
 have HB3 := Lib.hid hb5
 have HT3 := Lib.hid (HT2.out.next hb5)
 have HSt3 := Lib.hid ((hb5.block _ hst2).trans HSt.out)
 have g2 : w4.cell? ⟨2, 0, none⟩ = some (.iface 240 (.pointer (some (E 2)))) := (HE2.out.below hb5 (by omega)).cells 2 (by omega) (by omega)
 have g3 : w4.cell? ⟨3, 0, none⟩ = some (.iface 240 (.pointer (some (E 3)))) := (HE2.out.below hb5 (by omega)).cells 3 (by omega) (by omega)
 clear hb5 d0 d1 d2 s0
 obtain ⟨d0, d1, d2⟩ := cmd_cells HT3.out.snd
 obtain ⟨r0, r1, r2, r3, r4, r5, r6, r7⟩ := op_cells HT3.out.res
 obtain ⟨f0, f1, f2, f3, f4, f5, f6, f7⟩ := op_frozen HT3.out.res
 have s0 : w4.cell? ⟨sb, 0, none⟩ = some (.int .i64 s.level) := (cell_of_row _ _ _ _ _ _ HSt3.out).trans rfl
 have k2 := Yk2.out
 have k2b : (kind == 2) = false := beq_eq_false_iff_ne.2 k2
 have k3 := Yk3.out
 have k3b : (kind == 3) = false := beq_eq_false_iff_ne.2 k3
 have k4 := Yk4.out
 have k4b : (kind == 4) = false := beq_eq_false_iff_ne.2 k4
 have k5 := Yk5.out
 have k5b : (kind == 5) = false := beq_eq_false_iff_ne.2 k5
 have HQ : Hid (oneOf s.level sv kind item qty = ((⟨0, 0, 0, 0, ⟨#[]⟩, 0, 0, 0⟩ : OpV), 2)) := by
  show _ = _
  unfold oneOf
  rw [if_neg k1, if_pos hm, if_neg k2, if_neg k3, if_neg k4, if_neg k5]
  try rfl
 clear r0 r1 r2 r3 r4 r5 r6 r7 f0 f1 f2 f3 f4 f5 f6 f7
 go_wp2_with fail
 refine wp_region_held_drew (S := fun w' => w'.cell? ⟨2, 0, none⟩ = some (.iface 240 (.pointer (some (E 2))))) (by kernel_rfl) g2 (fun hHeld => ?_)
 have HBz : Hid (Below w2.heap.size w2 w4.drew) := HB3.out.trans ⟨rfl, rfl, rfl, Nat.le_refl _, fun _ _ => rfl⟩
 generalize w4.drew = z0 at HBz hHeld ⊢
 have HTz := Lib.hid (HT2.out.next HBz.out)
 obtain ⟨r0, r1, r2, r3, r4, r5, r6, r7⟩ := op_cells HTz.out.res
 obtain ⟨f0, f1, f2, f3, f4, f5, f6, f7⟩ := op_frozen HTz.out.res
 refine tk 0 ⟨some 77, .build 93 #[], 93, "l06_commands.go:169", #[], none⟩ ?_
 (try simp only [Act.put, u1, u2, u3])
 refine tk 1 ⟨some 78, .load 65 (Operand.global 2), 65, "l06_commands.go:169", #[{ on := 2, ground := Ground.gcOnly Departure.lateStores }], none⟩ ?_
 (try simp only [Act.put, u1, u2, u3])
 refine rk 2 rfl (fun K hK => ?_)
 go_simp
 refine hK.out _ _ ((World.cell?_of_block (a := ⟨2, 0, none⟩) (setOp_other (w := z0) (b := w.heap.size + 1 + 1) (k := 2) (.int .i64 0) (.int .i64 0) (.int .i64 0) (.int .i64 0) (.string ⟨#[]⟩) (.int .i64 0) (.int .i64 0) (.int .i64 0) (by omega))).trans hHeld) (fun hHeld2 => ?_)
 clear hK K
 (try simp only [Act.put, u1, u2, u3])
 refine tk 3 ⟨some 5, .assign (.tmp 78), 65, "l06_commands.go:169", #[⟨1, .data⟩, ⟨2, .chain⟩, ⟨0, .phase⟩, ⟨1, .phase⟩, ⟨2, .phase⟩], none⟩ ?_
 (try simp only [Act.put, u1, u2, u3])
 refine wpAnyH_done (by kernel_rfl) ?_ _
 obtain ⟨HX, HBx⟩ := done z0 (⟨0, 0, 0, 0, ⟨#[]⟩, 0, 0, 0⟩ : OpV) 2 HQ HBz.out
 clear done
 dsimp only at HX HBx
 go_wp2
 change bodyPost _ _ _ _ _ (setOp z0 (w.heap.size + 1 + 1) (.int .i64 0) (.int .i64 0) (.int .i64 0) (.int .i64 0) (.string ⟨#[]⟩) (.int .i64 0) (.int .i64 0) (.int .i64 0))
 generalize setOp z0 (w.heap.size + 1 + 1) (.int .i64 0) (.int .i64 0) (.int .i64 0) (.int .i64 0) (.string ⟨#[]⟩) (.int .i64 0) (.int .i64 0) (.int .i64 0) = wf at HX HBx ⊢
 obtain ⟨e0, e1, e2, e3, e4, e5, e6, e7⟩ := op_cells HX.out
 exact bodyPost_ret (v := .tuple #[.agg #[.int .i64 0, .int .i64 0, .int .i64 0, .int .i64 0, .string ⟨#[]⟩, .int .i64 0, .int .i64 0, .int .i64 0], (.iface 240 (.pointer (some (E 2))))]) (by simp [results, Tryz.results121, go_sem, e0, e1, e2, e3, e4, e5, e6, e7]) rfl ⟨by rw [HQ.out]; dsimp only; rw [errV_2], HBx.out⟩

set_option linter.unusedVariables false
set_option linter.unusedSimpArgs false
set_option maxHeartbeats 40000000 in
theorem opForW (w : World) (B : Nat) (E : Int → Addr) (hE : Errs w B E) (av ao : Option Addr) (nv cv no co : Nat) (xs : List Int) (l : List OpV) (kind qty dv sq : Int) (item : ByteArray) (hx : Ints w B av nv xs) (h : Ops w B ao no l) (hB : B ≤ w.heap.size) (hv : nv ≤ 1048576) (hc : no ≤ co) (hc2 : Fits no co) (hi : item.size ≤ 1048576) (s : StV) (hs : s = stateV item (counted xs l)) (h0 : 0 ≤ s.level) (h1 : s.level ≤ 1000000) :
  Calls Tryz.prog 121 #[.agg #[.slice av nv cv, .slice ao no co], .agg #[.int .i64 kind, .string item, .int .i64 qty, .int .i64 dv, .int .i64 sq]] w
   (OpFP E (oneOf s.level (decide (s.placed.kind = 4)) kind item qty) w) := by
 by_cases k1 : kind = 1
 ·exact opForW1 w B E hE av ao nv cv no co xs l kind qty dv sq item hx h hB hv hc hc2 hi s hs h0 h1 k1
 by_cases hm : s.level % 2 = 1
 rotate_left
 ·exact opForW2 w B E hE av ao nv cv no co xs l kind qty dv sq item hx h hB hv hc hc2 hi s hs h0 h1 k1 hm
 by_cases k2 : kind = 2
 ·exact opForK2 w B E hE av ao nv cv no co xs l kind qty dv sq item hx h hB hv hc hc2 hi s hs h0 h1 k1 hm k2
 by_cases k3 : kind = 3
 ·exact opForK3 w B E hE av ao nv cv no co xs l kind qty dv sq item hx h hB hv hc hc2 hi s hs h0 h1 k1 hm k2 k3
 by_cases k4 : kind = 4
 ·exact opForK4 w B E hE av ao nv cv no co xs l kind qty dv sq item hx h hB hv hc hc2 hi s hs h0 h1 k1 hm k2 k3 k4
 by_cases k5 : kind = 5
 ·exact opForK5 w B E hE av ao nv cv no co xs l kind qty dv sq item hx h hB hv hc hc2 hi s hs h0 h1 k1 hm k2 k3 k4 k5
 exact opForK6 w B E hE av ao nv cv no co xs l kind qty dv sq item hx h hB hv hc hc2 hi s hs h0 h1 k1 hm k2 k3 k4 k5

end Go.Proofs.YtjokbaaommicmaaGreatDoor
