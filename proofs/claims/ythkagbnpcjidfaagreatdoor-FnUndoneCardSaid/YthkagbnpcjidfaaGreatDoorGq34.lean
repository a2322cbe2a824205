/- Walks and mathematics that several claims share, part 34. -/
import Derived.Test.YthkagbnpcjidfaaGreatDoorGq32
import Derived.Test.YthkagbnpcjidfaaGreatDoorGq33
import Derived.Test.YthkagbnpcjidfaaGreatDoorGq20
import Derived.Deep.Cut
import Derived.Lib.Hide
import Derived.Deep.RegionHeld
import Derived.Great.BuildSlice
import Derived.Deep.WholeRow
namespace Go.Proofs.YthkagbnpcjidfaaGreatDoor
set_option maxRecDepth 100000
open Go.RowKit
set_option linter.unusedVariables false
set_option linter.unusedSimpArgs false
def q9 (E : Int → Addr) (r : aA × Int) (w : World) (e : Ending) (w' : World) : Prop :=
 e = .returned (.tuple #[.agg #[.int .i64 r.1.dev, .int .i64 r.1.seq, .int .i64 r.1.stamp, .int .i64 r.1.kind, .string r.1.item, .int .i64 r.1.qty, .int .i64 r.1.level, .int .i64 r.1.undos], kQ E r.2]) ∧ Below w.heap.size w w'
theorem N9 (E : Int → Addr) : kQ E 0 = .nilIface := by unfold kQ; rw [if_pos (by decide)]
theorem N7 (E : Int → Addr) : kQ E 2 = .iface 226 (.pointer (some (E 2))) := by unfold kQ; rw [if_neg (by decide)]
theorem aNO (E : Int → Addr) : kQ E 3 = .iface 226 (.pointer (some (E 3))) := by unfold kQ; rw [if_neg (by decide)]
theorem nA (a : ByteArray) (b : Int) (c : Bool) (w : World) : Sem.run Tryz.prog (Instr.field 39 (.agg #[.string a, .int .i64 b, .bool c]) 2) w = .ok (.bool c) w := by kernel_rfl
theorem mS (s : cN) : s.cells.all (·.oneCell') = true := by simp [cN.cells, Value.oneCell']
theorem iK (s : cN) : (Tryz.prog.info? 96).map (·.size) = some s.cells.size := by kernel_rfl
set_option maxHeartbeats 40000000 in
theorem aL1 (w : World) (B : Nat) (E : Int → Addr) (hE : eG w B E) (av ao : Option Addr) (nv cv no co : Nat) (xs : List Int) (l : List aA) (kind qty dv sq : Int) (item : ByteArray) (hx : Ints w B av nv xs) (h : bR w B ao no l) (hB : B ≤ w.heap.size) (hv : nv ≤ 1048576) (hc : no ≤ co) (cY : Fits no co) (hi : item.size ≤ 1048576) (s : cN) (hs : s = cE item (counted xs l)) (h0 : 0 ≤ s.level) (h1 : s.level ≤ 1000000) (k1 : kind = 1) :
  Calls Tryz.prog 134 #[.agg #[.slice av nv cv, .slice ao no co], .agg #[.int .i64 kind, .string item, .int .i64 qty, .int .i64 dv, .int .i64 sq]] w
   (q9 E (oneOf s.level (decide (s.placed.kind = 4)) kind item qty) w) := by
 have H9 := aRp k1
 clear k1
 have hT := vZ.mk0 w #[.slice av nv cv, .slice ao no co] #[.int .i64 kind, .string item, .int .i64 qty, .int .i64 dv, .int .i64 sq] #[.int .i64 0, .int .i64 0, .int .i64 0, .int .i64 0, .string ⟨#[]⟩, .int .i64 0, .int .i64 0, .int .i64 0]
 have HX := aRp (hx.below hT.bel hB)
 have HO := aRp (h.below hT.bel hB)
 have HE := aRp (hE.below hT.bel hB)
 have HT := aRp hT
 have C2 := hT.bel.size
 have HS := aRp hs
 clear h hx hT hs hE
 obtain ⟨sv, eI⟩ : ∃ sv, sv = decide (s.placed.kind = 4) := ⟨_, rfl⟩
 rw [← eI]
 have lR := aRp eI
 clear eI
 have hfl := nA
 go_enter Tryz.func134, Tryz.ntmps134
 go_upto_region 1 with fail
 generalize ((w.alloc (.cells #[.slice av nv cv, .slice ao no co] 27)).alloc (.cells #[.int .i64 kind, .string item, .int .i64 qty, .int .i64 dv, .int .i64 sq] 29)).alloc (.cells #[.int .i64 0, .int .i64 0, .int .i64 0, .int .i64 0, .string ⟨#[]⟩, .int .i64 0, .int .i64 0, .int .i64 0] 50) = w0 at HX HO HE HT C2 ⊢
 obtain ⟨c0, c1⟩ := pair_cells HT.out.fst
 obtain ⟨d0, d1, d2⟩ := bK HT.out.snd
 go_wp2_with fail
 refine (rZ w0 B av ao nv cv no co xs l item HX.out HO.out (by omega) hv hc cY).mono ?_
 rintro e w1 ⟨rfl, hb⟩
 rw [← HS.out]
 have aR := aRp (HT.out.next hb)
 have eQ := aRp (HE.out.below hb (by omega))
 have eL := hb.size
 clear hb c0 c1 d0 d1 d2 HT HX HO HE
 obtain ⟨d0, d1, d2⟩ := bK aR.out.snd
 clear HS
 go_upto_region 2 with (refine wpList_store_rowTo rfl 96 _ _ rfl rfl w1.heap.size s.cells rfl rfl 96 _ (World.alloc_heap_new _ _) (iK s) rfl (mS s) ?_)
 rw [World.setRow_alloc_new]
 have aV := ((Below.refl w1.heap.size w1).alloc aRr (.cells s.cells 96))
 have cA := aRp aV
 have aN := aRp (aR.out.next aV)
 have dV := aRp (eQ.out.below aV (by omega))
 have cI := aRp (World.alloc_heap_new w1 (.cells s.cells 96))
 have eB := aV.size
 clear aV aR eQ d0 d1 d2
 generalize w1.alloc (.cells s.cells 96) = w2 at aN dV cI cA eB ⊢
 have kD : w1.heap.size < w2.heap.size := (aRq cI.out).1
 generalize w1.heap.size = sb at cI kD cA eB eL ⊢
 obtain ⟨d0, d1, d2⟩ := bK aN.out.snd
 have s0 : w2.cell? ⟨sb, 0, none⟩ = some (.int .i64 s.level) := (aRs cI.out).trans rfl
 have X5 := dV.out.low
 have hlw : IntKind.i64.wrap (s.level + 1) = s.level + 1 := IntWalk.i64_in _ (by omega)
 have done : ∀ (wr : World) (q : aA) (code : Int), Hid (oneOf s.level sv kind item qty = (q, code)) → Below w2.heap.size w2 wr →
   Hid ((bJ wr (w.heap.size + 1 + 1) (.int .i64 q.dev) (.int .i64 q.seq) (.int .i64 q.stamp) (.int .i64 q.kind) (.string q.item) (.int .i64 q.qty) (.int .i64 q.level) (.int .i64 q.undos)).heap[w.heap.size + 1 + 1]? = some (.cells #[.int .i64 q.dev, .int .i64 q.seq, .int .i64 q.stamp, .int .i64 q.kind, .string q.item, .int .i64 q.qty, .int .i64 q.level, .int .i64 q.undos] 50 (0, 0))) ∧
   Hid (Below w.heap.size w (bJ wr (w.heap.size + 1 + 1) (.int .i64 q.dev) (.int .i64 q.seq) (.int .i64 q.stamp) (.int .i64 q.kind) (.string q.item) (.int .i64 q.qty) (.int .i64 q.level) (.int .i64 q.undos))) := by
  intro wr q code hq hb
  exact ⟨gV _ _ _ _ _ _ _ _ (aN.out.next hb).res, fX _ _ _ _ _ _ _ _ (aN.out.next hb).bel (by omega)⟩
 have k1 := H9.out
 clear H9
 subst k1
 go_wp2_with (refine wpList_load_row rfl 96 _ rfl sb rfl _ s.cells _ _ cI.out Tryz.underlying96 rfl (iK s) ?_)
 refine (mY s h0 w2).mono ?_
 rintro e w3 ⟨rfl, aS⟩
 dsimp only
 have dR := aRp aS
 have bF := aRp (aN.out.next aS)
 have gH := aRp ((aS.block _ kD).trans cI.out)
 have g2 : w3.cell? ⟨2, 0, none⟩ = some (.iface 226 (.pointer (some (E 2)))) := (dV.out.below aS (by omega)).cells 2 (by omega) (by omega)
 have g3 : w3.cell? ⟨3, 0, none⟩ = some (.iface 226 (.pointer (some (E 3)))) := (dV.out.below aS (by omega)).cells 3 (by omega) (by omega)
 clear aS d0 d1 d2 s0
 obtain ⟨d0, d1, d2⟩ := bK bF.out.snd
 obtain ⟨r0, r1, r2, r3, r4, r5, r6, r7⟩ := aH bF.out.res
 obtain ⟨f0, f1, f2, f3, f4, f5, f6, f7⟩ := cB bF.out.res
 have s0 : w3.cell? ⟨sb, 0, none⟩ = some (.int .i64 s.level) := (aRs gH.out).trans rfl
 by_cases hm : s.level % 2 = 1
 ·have B6 : decide (s.level % 2 = 1) = true := decide_eq_true hm
  rw [B6]; have HQ : Hid (oneOf s.level sv 1 item qty = ((⟨0, 0, 0, 0, ⟨#[]⟩, 0, 0, 0⟩ : aA), 3)) := by
   show _ = _
   unfold oneOf; rw [if_pos rfl, if_pos hm]
   try rfl
  clear r0 r1 r2 r3 r4 r5 r6 r7 f0 f1 f2 f3 f4 f5 f6 f7
  go_wp2_with fail
  refine wp_region_held_drew (S := fun w' => w'.cell? ⟨3, 0, none⟩ = some (.iface 226 (.pointer (some (E 3))))) (by kernel_rfl) g3 (fun aO => ?_)
  have dE : Hid (Below w2.heap.size w2 w3.drew) := dR.out.trans ⟨rfl, rfl, rfl, Nat.le_refl _, fun _ _ => rfl⟩
  generalize w3.drew = z0 at dE aO ⊢; have cU := aRp (aN.out.next dE.out); obtain ⟨r0, r1, r2, r3, r4, r5, r6, r7⟩ := aH cU.out.res; obtain ⟨f0, f1, f2, f3, f4, f5, f6, f7⟩ := cB cU.out.res; refine tj 0 ?_
  refine tj 1 ?_
  refine rk 2 rfl (fun K hK => ?_)
  go_simp
  refine hK.out _ _ ((World.cell?_of_block (a := ⟨3, 0, none⟩) (rE (w := z0) (b := w.heap.size + 1 + 1) (k := 3) (.int .i64 0) (.int .i64 0) (.int .i64 0) (.int .i64 0) (.string ⟨#[]⟩) (.int .i64 0) (.int .i64 0) (.int .i64 0) (by omega))).trans aO) (fun bQ => ?_)
  clear hK K
  (try simp only [Act.put, u1, u2, u3])
  refine tj 3 ?_
  refine wpAnyH_done (by kernel_rfl) ?_ _
  obtain ⟨HX, cG⟩ := done z0 (⟨0, 0, 0, 0, ⟨#[]⟩, 0, 0, 0⟩ : aA) 3 HQ dE.out; clear done
  dsimp only at HX cG
  go_wp2
  change bodyPost _ _ _ _ _ (bJ z0 (w.heap.size + 1 + 1) (.int .i64 0) (.int .i64 0) (.int .i64 0) (.int .i64 0) (.string ⟨#[]⟩) (.int .i64 0) (.int .i64 0) (.int .i64 0))
  generalize bJ z0 (w.heap.size + 1 + 1) (.int .i64 0) (.int .i64 0) (.int .i64 0) (.int .i64 0) (.string ⟨#[]⟩) (.int .i64 0) (.int .i64 0) (.int .i64 0) = wf at HX cG ⊢; obtain ⟨e0, e1, e2, e3, e4, e5, e6, e7⟩ := aH HX.out; exact bodyPost_ret (v := .tuple #[.agg #[.int .i64 0, .int .i64 0, .int .i64 0, .int .i64 0, .string ⟨#[]⟩, .int .i64 0, .int .i64 0, .int .i64 0], (.iface 226 (.pointer (some (E 3))))]) (by simp [results, Tryz.results134, go_sem, e0, e1, e2, e3, e4, e5, e6, e7]) rfl ⟨by rw [HQ.out]; dsimp only; rw [aNO], cG.out⟩
 ·have B6 : decide (s.level % 2 = 1) = false := decide_eq_false hm
  rw [B6]; have HQ : Hid (oneOf s.level sv 1 item qty = ((⟨0, 0, 0, 1, item, qty, (s.level + 1), 0⟩ : aA), 0)) := by
   show _ = _
   unfold oneOf; rw [if_pos rfl, if_neg hm]
   try rfl
  obtain ⟨HX, cG⟩ := done w3 (⟨0, 0, 0, 1, item, qty, (s.level + 1), 0⟩ : aA) 0 HQ dR.out; clear done
  dsimp only at HX cG
  go_wp2
  change bodyPost _ _ _ _ _ (bJ w3 (w.heap.size + 1 + 1) (.int .i64 0) (.int .i64 0) (.int .i64 0) (.int .i64 1) (.string item) (.int .i64 qty) (.int .i64 (s.level + 1)) (.int .i64 0))
  generalize bJ w3 (w.heap.size + 1 + 1) (.int .i64 0) (.int .i64 0) (.int .i64 0) (.int .i64 1) (.string item) (.int .i64 qty) (.int .i64 (s.level + 1)) (.int .i64 0) = wf at HX cG ⊢; obtain ⟨e0, e1, e2, e3, e4, e5, e6, e7⟩ := aH HX.out; exact bodyPost_ret (v := .tuple #[.agg #[.int .i64 0, .int .i64 0, .int .i64 0, .int .i64 1, .string item, .int .i64 qty, .int .i64 (s.level + 1), .int .i64 0], .nilIface]) (by simp [results, Tryz.results134, go_sem, e0, e1, e2, e3, e4, e5, e6, e7]) rfl ⟨by rw [HQ.out]; dsimp only; rw [N9], cG.out⟩
set_option maxHeartbeats 40000000 in
theorem aL0 (w : World) (B : Nat) (E : Int → Addr) (hE : eG w B E) (av ao : Option Addr) (nv cv no co : Nat) (xs : List Int) (l : List aA) (kind qty dv sq : Int) (item : ByteArray) (hx : Ints w B av nv xs) (h : bR w B ao no l) (hB : B ≤ w.heap.size) (hv : nv ≤ 1048576) (hc : no ≤ co) (cY : Fits no co) (hi : item.size ≤ 1048576) (s : cN) (hs : s = cE item (counted xs l)) (h0 : 0 ≤ s.level) (h1 : s.level ≤ 1000000) (k1 : ¬ kind = 1) (vF : ¬ s.level % 2 = 1) :
  Calls Tryz.prog 134 #[.agg #[.slice av nv cv, .slice ao no co], .agg #[.int .i64 kind, .string item, .int .i64 qty, .int .i64 dv, .int .i64 sq]] w
   (q9 E (oneOf s.level (decide (s.placed.kind = 4)) kind item qty) w) := by
 have H9 := aRp k1
 have C9 := aRp vF
 clear k1 vF
 have hT := vZ.mk0 w #[.slice av nv cv, .slice ao no co] #[.int .i64 kind, .string item, .int .i64 qty, .int .i64 dv, .int .i64 sq] #[.int .i64 0, .int .i64 0, .int .i64 0, .int .i64 0, .string ⟨#[]⟩, .int .i64 0, .int .i64 0, .int .i64 0]
 have HX := aRp (hx.below hT.bel hB)
 have HO := aRp (h.below hT.bel hB)
 have HE := aRp (hE.below hT.bel hB)
 have HT := aRp hT
 have C2 := hT.bel.size
 have HS := aRp hs
 clear h hx hT hs hE
 obtain ⟨sv, eI⟩ : ∃ sv, sv = decide (s.placed.kind = 4) := ⟨_, rfl⟩
 rw [← eI]
 have lR := aRp eI
 clear eI
 have hfl := nA
 go_enter Tryz.func134, Tryz.ntmps134
 go_upto_region 1 with fail
 generalize ((w.alloc (.cells #[.slice av nv cv, .slice ao no co] 27)).alloc (.cells #[.int .i64 kind, .string item, .int .i64 qty, .int .i64 dv, .int .i64 sq] 29)).alloc (.cells #[.int .i64 0, .int .i64 0, .int .i64 0, .int .i64 0, .string ⟨#[]⟩, .int .i64 0, .int .i64 0, .int .i64 0] 50) = w0 at HX HO HE HT C2 ⊢
 obtain ⟨c0, c1⟩ := pair_cells HT.out.fst
 obtain ⟨d0, d1, d2⟩ := bK HT.out.snd
 go_wp2_with fail
 refine (rZ w0 B av ao nv cv no co xs l item HX.out HO.out (by omega) hv hc cY).mono ?_
 rintro e w1 ⟨rfl, hb⟩
 rw [← HS.out]
 have aR := aRp (HT.out.next hb)
 have eQ := aRp (HE.out.below hb (by omega))
 have eL := hb.size
 clear hb c0 c1 d0 d1 d2 HT HX HO HE
 obtain ⟨d0, d1, d2⟩ := bK aR.out.snd
 clear HS
 go_upto_region 2 with (refine wpList_store_rowTo rfl 96 _ _ rfl rfl w1.heap.size s.cells rfl rfl 96 _ (World.alloc_heap_new _ _) (iK s) rfl (mS s) ?_)
 rw [World.setRow_alloc_new]
 have aV := ((Below.refl w1.heap.size w1).alloc aRr (.cells s.cells 96))
 have cA := aRp aV
 have aN := aRp (aR.out.next aV)
 have dV := aRp (eQ.out.below aV (by omega))
 have cI := aRp (World.alloc_heap_new w1 (.cells s.cells 96))
 have eB := aV.size
 clear aV aR eQ d0 d1 d2
 generalize w1.alloc (.cells s.cells 96) = w2 at aN dV cI cA eB ⊢
 have kD : w1.heap.size < w2.heap.size := (aRq cI.out).1
 generalize w1.heap.size = sb at cI kD cA eB eL ⊢
 obtain ⟨d0, d1, d2⟩ := bK aN.out.snd
 have s0 : w2.cell? ⟨sb, 0, none⟩ = some (.int .i64 s.level) := (aRs cI.out).trans rfl
 have X5 := dV.out.low
 have hlw : IntKind.i64.wrap (s.level + 1) = s.level + 1 := IntWalk.i64_in _ (by omega)
 have done : ∀ (wr : World) (q : aA) (code : Int), Hid (oneOf s.level sv kind item qty = (q, code)) → Below w2.heap.size w2 wr →
   Hid ((bJ wr (w.heap.size + 1 + 1) (.int .i64 q.dev) (.int .i64 q.seq) (.int .i64 q.stamp) (.int .i64 q.kind) (.string q.item) (.int .i64 q.qty) (.int .i64 q.level) (.int .i64 q.undos)).heap[w.heap.size + 1 + 1]? = some (.cells #[.int .i64 q.dev, .int .i64 q.seq, .int .i64 q.stamp, .int .i64 q.kind, .string q.item, .int .i64 q.qty, .int .i64 q.level, .int .i64 q.undos] 50 (0, 0))) ∧
   Hid (Below w.heap.size w (bJ wr (w.heap.size + 1 + 1) (.int .i64 q.dev) (.int .i64 q.seq) (.int .i64 q.stamp) (.int .i64 q.kind) (.string q.item) (.int .i64 q.qty) (.int .i64 q.level) (.int .i64 q.undos))) := by
  intro wr q code hq hb
  exact ⟨gV _ _ _ _ _ _ _ _ (aN.out.next hb).res, fX _ _ _ _ _ _ _ _ (aN.out.next hb).bel (by omega)⟩
 have k1 := H9.out
 have k1b : (kind == 1) = false := beq_eq_false_iff_ne.2 k1
 go_wp2_with (refine wpList_load_row rfl 96 _ rfl sb rfl _ s.cells _ _ cI.out Tryz.underlying96 rfl (iK s) ?_)
 refine (mY s h0 w2).mono ?_
 rintro e w3 ⟨rfl, aS⟩
 dsimp only
 have hm := C9.out
 have B6 : decide (s.level % 2 = 1) = false := decide_eq_false hm
 rw [B6]
 have dR := aRp aS
 have bF := aRp (aN.out.next aS)
 have gH := aRp ((aS.block _ kD).trans cI.out)
 have g2 : w3.cell? ⟨2, 0, none⟩ = some (.iface 226 (.pointer (some (E 2)))) := (dV.out.below aS (by omega)).cells 2 (by omega) (by omega)
 have g3 : w3.cell? ⟨3, 0, none⟩ = some (.iface 226 (.pointer (some (E 3)))) := (dV.out.below aS (by omega)).cells 3 (by omega) (by omega)
 clear aS d0 d1 d2 s0
 obtain ⟨d0, d1, d2⟩ := bK bF.out.snd
 obtain ⟨r0, r1, r2, r3, r4, r5, r6, r7⟩ := aH bF.out.res
 obtain ⟨f0, f1, f2, f3, f4, f5, f6, f7⟩ := cB bF.out.res
 have s0 : w3.cell? ⟨sb, 0, none⟩ = some (.int .i64 s.level) := (aRs gH.out).trans rfl
 have HQ : Hid (oneOf s.level sv kind item qty = ((⟨0, 0, 0, 0, ⟨#[]⟩, 0, 0, 0⟩ : aA), 2)) := by
  show _ = _
  unfold oneOf; rw [if_neg k1, if_neg hm]
  try rfl
 clear r0 r1 r2 r3 r4 r5 r6 r7 f0 f1 f2 f3 f4 f5 f6 f7
 go_wp2_with fail
 refine wp_region_held_drew (S := fun w' => w'.cell? ⟨2, 0, none⟩ = some (.iface 226 (.pointer (some (E 2))))) (by kernel_rfl) g2 (fun aO => ?_)
 have dE : Hid (Below w2.heap.size w2 w3.drew) := dR.out.trans ⟨rfl, rfl, rfl, Nat.le_refl _, fun _ _ => rfl⟩
 generalize w3.drew = z0 at dE aO ⊢
 have cU := aRp (aN.out.next dE.out)
 obtain ⟨r0, r1, r2, r3, r4, r5, r6, r7⟩ := aH cU.out.res
 obtain ⟨f0, f1, f2, f3, f4, f5, f6, f7⟩ := cB cU.out.res
 refine tj 0 ?_
 refine tj 1 ?_
 refine rk 2 rfl (fun K hK => ?_)
 go_simp
 refine hK.out _ _ ((World.cell?_of_block (a := ⟨2, 0, none⟩) (rE (w := z0) (b := w.heap.size + 1 + 1) (k := 2) (.int .i64 0) (.int .i64 0) (.int .i64 0) (.int .i64 0) (.string ⟨#[]⟩) (.int .i64 0) (.int .i64 0) (.int .i64 0) (by omega))).trans aO) (fun bQ => ?_)
 clear hK K
 (try simp only [Act.put, u1, u2, u3])
 refine tj 3 ?_
 refine wpAnyH_done (by kernel_rfl) ?_ _
 obtain ⟨HX, cG⟩ := done z0 (⟨0, 0, 0, 0, ⟨#[]⟩, 0, 0, 0⟩ : aA) 2 HQ dE.out
 clear done
 dsimp only at HX cG
 go_wp2
 change bodyPost _ _ _ _ _ (bJ z0 (w.heap.size + 1 + 1) (.int .i64 0) (.int .i64 0) (.int .i64 0) (.int .i64 0) (.string ⟨#[]⟩) (.int .i64 0) (.int .i64 0) (.int .i64 0))
 generalize bJ z0 (w.heap.size + 1 + 1) (.int .i64 0) (.int .i64 0) (.int .i64 0) (.int .i64 0) (.string ⟨#[]⟩) (.int .i64 0) (.int .i64 0) (.int .i64 0) = wf at HX cG ⊢
 obtain ⟨e0, e1, e2, e3, e4, e5, e6, e7⟩ := aH HX.out
 exact bodyPost_ret (v := .tuple #[.agg #[.int .i64 0, .int .i64 0, .int .i64 0, .int .i64 0, .string ⟨#[]⟩, .int .i64 0, .int .i64 0, .int .i64 0], (.iface 226 (.pointer (some (E 2))))]) (by simp [results, Tryz.results134, go_sem, e0, e1, e2, e3, e4, e5, e6, e7]) rfl ⟨by rw [HQ.out]; dsimp only; rw [N7], cG.out⟩
set_option maxHeartbeats 40000000 in
theorem aL6 (w : World) (B : Nat) (E : Int → Addr) (hE : eG w B E) (av ao : Option Addr) (nv cv no co : Nat) (xs : List Int) (l : List aA) (kind qty dv sq : Int) (item : ByteArray) (hx : Ints w B av nv xs) (h : bR w B ao no l) (hB : B ≤ w.heap.size) (hv : nv ≤ 1048576) (hc : no ≤ co) (cY : Fits no co) (hi : item.size ≤ 1048576) (s : cN) (hs : s = cE item (counted xs l)) (h0 : 0 ≤ s.level) (h1 : s.level ≤ 1000000) (k1 : ¬ kind = 1) (vF : s.level % 2 = 1) (e : kind = 2) :
  Calls Tryz.prog 134 #[.agg #[.slice av nv cv, .slice ao no co], .agg #[.int .i64 kind, .string item, .int .i64 qty, .int .i64 dv, .int .i64 sq]] w
   (q9 E (oneOf s.level (decide (s.placed.kind = 4)) kind item qty) w) := by
 have H9 := aRp k1
 have C9 := aRp vF
 have Ye := aRp e
 clear k1 vF e
 have hT := vZ.mk0 w #[.slice av nv cv, .slice ao no co] #[.int .i64 kind, .string item, .int .i64 qty, .int .i64 dv, .int .i64 sq] #[.int .i64 0, .int .i64 0, .int .i64 0, .int .i64 0, .string ⟨#[]⟩, .int .i64 0, .int .i64 0, .int .i64 0]
 have HX := aRp (hx.below hT.bel hB)
 have HO := aRp (h.below hT.bel hB)
 have HE := aRp (hE.below hT.bel hB)
 have HT := aRp hT
 have C2 := hT.bel.size
 have HS := aRp hs
 clear h hx hT hs hE
 obtain ⟨sv, eI⟩ : ∃ sv, sv = decide (s.placed.kind = 4) := ⟨_, rfl⟩
 rw [← eI]
 have lR := aRp eI
 clear eI
 have hfl := nA
 go_enter Tryz.func134, Tryz.ntmps134
 go_upto_region 1 with fail
 generalize ((w.alloc (.cells #[.slice av nv cv, .slice ao no co] 27)).alloc (.cells #[.int .i64 kind, .string item, .int .i64 qty, .int .i64 dv, .int .i64 sq] 29)).alloc (.cells #[.int .i64 0, .int .i64 0, .int .i64 0, .int .i64 0, .string ⟨#[]⟩, .int .i64 0, .int .i64 0, .int .i64 0] 50) = w0 at HX HO HE HT C2 ⊢
 obtain ⟨c0, c1⟩ := pair_cells HT.out.fst
 obtain ⟨d0, d1, d2⟩ := bK HT.out.snd
 go_wp2_with fail
 refine (rZ w0 B av ao nv cv no co xs l item HX.out HO.out (by omega) hv hc cY).mono ?_
 rintro e w1 ⟨rfl, hb⟩
 rw [← HS.out]
 have aR := aRp (HT.out.next hb)
 have eQ := aRp (HE.out.below hb (by omega))
 have eL := hb.size
 clear hb c0 c1 d0 d1 d2 HT HX HO HE
 obtain ⟨d0, d1, d2⟩ := bK aR.out.snd
 clear HS
 go_upto_region 2 with (refine wpList_store_rowTo rfl 96 _ _ rfl rfl w1.heap.size s.cells rfl rfl 96 _ (World.alloc_heap_new _ _) (iK s) rfl (mS s) ?_)
 rw [World.setRow_alloc_new]
 have aV := ((Below.refl w1.heap.size w1).alloc aRr (.cells s.cells 96))
 have cA := aRp aV
 have aN := aRp (aR.out.next aV)
 have dV := aRp (eQ.out.below aV (by omega))
 have cI := aRp (World.alloc_heap_new w1 (.cells s.cells 96))
 have eB := aV.size
 clear aV aR eQ d0 d1 d2
 generalize w1.alloc (.cells s.cells 96) = w2 at aN dV cI cA eB ⊢
 have kD : w1.heap.size < w2.heap.size := (aRq cI.out).1
 generalize w1.heap.size = sb at cI kD cA eB eL ⊢
 obtain ⟨d0, d1, d2⟩ := bK aN.out.snd
 have s0 : w2.cell? ⟨sb, 0, none⟩ = some (.int .i64 s.level) := (aRs cI.out).trans rfl
 have X5 := dV.out.low
 have hlw : IntKind.i64.wrap (s.level + 1) = s.level + 1 := IntWalk.i64_in _ (by omega)
 have done : ∀ (wr : World) (q : aA) (code : Int), Hid (oneOf s.level sv kind item qty = (q, code)) → Below w2.heap.size w2 wr →
   Hid ((bJ wr (w.heap.size + 1 + 1) (.int .i64 q.dev) (.int .i64 q.seq) (.int .i64 q.stamp) (.int .i64 q.kind) (.string q.item) (.int .i64 q.qty) (.int .i64 q.level) (.int .i64 q.undos)).heap[w.heap.size + 1 + 1]? = some (.cells #[.int .i64 q.dev, .int .i64 q.seq, .int .i64 q.stamp, .int .i64 q.kind, .string q.item, .int .i64 q.qty, .int .i64 q.level, .int .i64 q.undos] 50 (0, 0))) ∧
   Hid (Below w.heap.size w (bJ wr (w.heap.size + 1 + 1) (.int .i64 q.dev) (.int .i64 q.seq) (.int .i64 q.stamp) (.int .i64 q.kind) (.string q.item) (.int .i64 q.qty) (.int .i64 q.level) (.int .i64 q.undos))) := by
  intro wr q code hq hb
  exact ⟨gV _ _ _ _ _ _ _ _ (aN.out.next hb).res, fX _ _ _ _ _ _ _ _ (aN.out.next hb).bel (by omega)⟩
 have k1 := H9.out
 have k1b : (kind == 1) = false := beq_eq_false_iff_ne.2 k1
 go_wp2_with (refine wpList_load_row rfl 96 _ rfl sb rfl _ s.cells _ _ cI.out Tryz.underlying96 rfl (iK s) ?_)
 refine (mY s h0 w2).mono ?_
 rintro e w3 ⟨rfl, aS⟩
 dsimp only
 have hm := C9.out
 have B6 : decide (s.level % 2 = 1) = true := decide_eq_true hm
 rw [B6]
 have bF := aRp (aN.out.next aS)
 have gH := aRp ((aS.block _ kD).trans cI.out)
 have dR := aRp aS
 clear aS d0 d1 d2 s0
 obtain ⟨d0, d1, d2⟩ := bK bF.out.snd
 have s0 : w3.cell? ⟨sb, 0, none⟩ = some (.int .i64 s.level) := (aRs gH.out).trans rfl
 have G6 : zF s = sv := by
  rw [lR.out]; exact if_pos hm
 go_wp2_with (refine wpList_load_row rfl 96 _ rfl sb rfl _ s.cells _ _ gH.out Tryz.underlying96 rfl (iK s) ?_)
 refine (aAu s item h0 hi w3).mono ?_
 rintro e w4 ⟨rfl, cW⟩
 rw [G6]
 generalize zH _ _ = li
 generalize zG _ = lq
 have aW : Below w2.heap.size w2 w4 := dR.out.trans (cW.mono dR.out.size)
 clear cW bF gH dR G6
 have dR := aRp aW
 have bF := aRp (aN.out.next aW)
 have gH := aRp ((aW.block _ kD).trans cI.out)
 have g2 : w4.cell? ⟨2, 0, none⟩ = some (.iface 226 (.pointer (some (E 2)))) := (dV.out.below aW (by omega)).cells 2 (by omega) (by omega)
 have g3 : w4.cell? ⟨3, 0, none⟩ = some (.iface 226 (.pointer (some (E 3)))) := (dV.out.below aW (by omega)).cells 3 (by omega) (by omega)
 clear aW d0 d1 d2 s0
 obtain ⟨d0, d1, d2⟩ := bK bF.out.snd
 obtain ⟨r0, r1, r2, r3, r4, r5, r6, r7⟩ := aH bF.out.res
 obtain ⟨f0, f1, f2, f3, f4, f5, f6, f7⟩ := cB bF.out.res
 have s0 : w4.cell? ⟨sb, 0, none⟩ = some (.int .i64 s.level) := (aRs gH.out).trans rfl
 have e := Ye.out
 clear Ye
 subst e
 have HQ : Hid (oneOf s.level sv 2 item qty = ((⟨0, 0, 0, 2, item, qty, 0, 0⟩ : aA), 0)) := by
  show _ = _
  unfold oneOf; rw [if_neg k1, if_pos hm, if_pos rfl]
  try rfl
 obtain ⟨HX, cG⟩ := done w4 (⟨0, 0, 0, 2, item, qty, 0, 0⟩ : aA) 0 HQ dR.out
 clear done
 dsimp only at HX cG
 go_wp2
 change bodyPost _ _ _ _ _ (bJ w4 (w.heap.size + 1 + 1) (.int .i64 0) (.int .i64 0) (.int .i64 0) (.int .i64 2) (.string item) (.int .i64 qty) (.int .i64 0) (.int .i64 0))
 generalize bJ w4 (w.heap.size + 1 + 1) (.int .i64 0) (.int .i64 0) (.int .i64 0) (.int .i64 2) (.string item) (.int .i64 qty) (.int .i64 0) (.int .i64 0) = wf at HX cG ⊢
 obtain ⟨e0, e1, e2, e3, e4, e5, e6, e7⟩ := aH HX.out
 exact bodyPost_ret (v := .tuple #[.agg #[.int .i64 0, .int .i64 0, .int .i64 0, .int .i64 2, .string item, .int .i64 qty, .int .i64 0, .int .i64 0], .nilIface]) (by simp [results, Tryz.results134, go_sem, e0, e1, e2, e3, e4, e5, e6, e7]) rfl ⟨by rw [HQ.out]; dsimp only; rw [N9], cG.out⟩
set_option maxHeartbeats 40000000 in
theorem aL5 (w : World) (B : Nat) (E : Int → Addr) (hE : eG w B E) (av ao : Option Addr) (nv cv no co : Nat) (xs : List Int) (l : List aA) (kind qty dv sq : Int) (item : ByteArray) (hx : Ints w B av nv xs) (h : bR w B ao no l) (hB : B ≤ w.heap.size) (hv : nv ≤ 1048576) (hc : no ≤ co) (cY : Fits no co) (hi : item.size ≤ 1048576) (s : cN) (hs : s = cE item (counted xs l)) (h0 : 0 ≤ s.level) (h1 : s.level ≤ 1000000) (k1 : ¬ kind = 1) (vF : s.level % 2 = 1) (k2 : ¬ kind = 2) (e : kind = 3) :
  Calls Tryz.prog 134 #[.agg #[.slice av nv cv, .slice ao no co], .agg #[.int .i64 kind, .string item, .int .i64 qty, .int .i64 dv, .int .i64 sq]] w
   (q9 E (oneOf s.level (decide (s.placed.kind = 4)) kind item qty) w) := by
 have H9 := aRp k1
 have C9 := aRp vF
 have Yk2 := aRp k2
 have Ye := aRp e
 clear k1 vF k2 e
 have hT := vZ.mk0 w #[.slice av nv cv, .slice ao no co] #[.int .i64 kind, .string item, .int .i64 qty, .int .i64 dv, .int .i64 sq] #[.int .i64 0, .int .i64 0, .int .i64 0, .int .i64 0, .string ⟨#[]⟩, .int .i64 0, .int .i64 0, .int .i64 0]
 have HX := aRp (hx.below hT.bel hB)
 have HO := aRp (h.below hT.bel hB)
 have HE := aRp (hE.below hT.bel hB)
 have HT := aRp hT
 have C2 := hT.bel.size
 have HS := aRp hs
 clear h hx hT hs hE
 obtain ⟨sv, eI⟩ : ∃ sv, sv = decide (s.placed.kind = 4) := ⟨_, rfl⟩
 rw [← eI]
 have lR := aRp eI
 clear eI
 have hfl := nA
 go_enter Tryz.func134, Tryz.ntmps134
 go_upto_region 1 with fail
 generalize ((w.alloc (.cells #[.slice av nv cv, .slice ao no co] 27)).alloc (.cells #[.int .i64 kind, .string item, .int .i64 qty, .int .i64 dv, .int .i64 sq] 29)).alloc (.cells #[.int .i64 0, .int .i64 0, .int .i64 0, .int .i64 0, .string ⟨#[]⟩, .int .i64 0, .int .i64 0, .int .i64 0] 50) = w0 at HX HO HE HT C2 ⊢
 obtain ⟨c0, c1⟩ := pair_cells HT.out.fst
 obtain ⟨d0, d1, d2⟩ := bK HT.out.snd
 go_wp2_with fail
 refine (rZ w0 B av ao nv cv no co xs l item HX.out HO.out (by omega) hv hc cY).mono ?_
 rintro e w1 ⟨rfl, hb⟩
 rw [← HS.out]
 have aR := aRp (HT.out.next hb)
 have eQ := aRp (HE.out.below hb (by omega))
 have eL := hb.size
 clear hb c0 c1 d0 d1 d2 HT HX HO HE
 obtain ⟨d0, d1, d2⟩ := bK aR.out.snd
 clear HS
 go_upto_region 2 with (refine wpList_store_rowTo rfl 96 _ _ rfl rfl w1.heap.size s.cells rfl rfl 96 _ (World.alloc_heap_new _ _) (iK s) rfl (mS s) ?_)
 rw [World.setRow_alloc_new]
 have aV := ((Below.refl w1.heap.size w1).alloc aRr (.cells s.cells 96))
 have cA := aRp aV
 have aN := aRp (aR.out.next aV)
 have dV := aRp (eQ.out.below aV (by omega))
 have cI := aRp (World.alloc_heap_new w1 (.cells s.cells 96))
 have eB := aV.size
 clear aV aR eQ d0 d1 d2
 generalize w1.alloc (.cells s.cells 96) = w2 at aN dV cI cA eB ⊢
 have kD : w1.heap.size < w2.heap.size := (aRq cI.out).1
 generalize w1.heap.size = sb at cI kD cA eB eL ⊢
 obtain ⟨d0, d1, d2⟩ := bK aN.out.snd
 have s0 : w2.cell? ⟨sb, 0, none⟩ = some (.int .i64 s.level) := (aRs cI.out).trans rfl
 have X5 := dV.out.low
 have hlw : IntKind.i64.wrap (s.level + 1) = s.level + 1 := IntWalk.i64_in _ (by omega)
 have done : ∀ (wr : World) (q : aA) (code : Int), Hid (oneOf s.level sv kind item qty = (q, code)) → Below w2.heap.size w2 wr →
   Hid ((bJ wr (w.heap.size + 1 + 1) (.int .i64 q.dev) (.int .i64 q.seq) (.int .i64 q.stamp) (.int .i64 q.kind) (.string q.item) (.int .i64 q.qty) (.int .i64 q.level) (.int .i64 q.undos)).heap[w.heap.size + 1 + 1]? = some (.cells #[.int .i64 q.dev, .int .i64 q.seq, .int .i64 q.stamp, .int .i64 q.kind, .string q.item, .int .i64 q.qty, .int .i64 q.level, .int .i64 q.undos] 50 (0, 0))) ∧
   Hid (Below w.heap.size w (bJ wr (w.heap.size + 1 + 1) (.int .i64 q.dev) (.int .i64 q.seq) (.int .i64 q.stamp) (.int .i64 q.kind) (.string q.item) (.int .i64 q.qty) (.int .i64 q.level) (.int .i64 q.undos))) := by
  intro wr q code hq hb
  exact ⟨gV _ _ _ _ _ _ _ _ (aN.out.next hb).res, fX _ _ _ _ _ _ _ _ (aN.out.next hb).bel (by omega)⟩
 have k1 := H9.out
 have k1b : (kind == 1) = false := beq_eq_false_iff_ne.2 k1
 go_wp2_with (refine wpList_load_row rfl 96 _ rfl sb rfl _ s.cells _ _ cI.out Tryz.underlying96 rfl (iK s) ?_)
 refine (mY s h0 w2).mono ?_
 rintro e w3 ⟨rfl, aS⟩
 dsimp only
 have hm := C9.out
 have B6 : decide (s.level % 2 = 1) = true := decide_eq_true hm
 rw [B6]
 have bF := aRp (aN.out.next aS)
 have gH := aRp ((aS.block _ kD).trans cI.out)
 have dR := aRp aS
 clear aS d0 d1 d2 s0
 obtain ⟨d0, d1, d2⟩ := bK bF.out.snd
 have s0 : w3.cell? ⟨sb, 0, none⟩ = some (.int .i64 s.level) := (aRs gH.out).trans rfl
 have G6 : zF s = sv := by
  rw [lR.out]; exact if_pos hm
 go_wp2_with (refine wpList_load_row rfl 96 _ rfl sb rfl _ s.cells _ _ gH.out Tryz.underlying96 rfl (iK s) ?_)
 refine (aAu s item h0 hi w3).mono ?_
 rintro e w4 ⟨rfl, cW⟩
 rw [G6]
 generalize zH _ _ = li
 generalize zG _ = lq
 have aW : Below w2.heap.size w2 w4 := dR.out.trans (cW.mono dR.out.size)
 clear cW bF gH dR G6
 have dR := aRp aW
 have bF := aRp (aN.out.next aW)
 have gH := aRp ((aW.block _ kD).trans cI.out)
 have g2 : w4.cell? ⟨2, 0, none⟩ = some (.iface 226 (.pointer (some (E 2)))) := (dV.out.below aW (by omega)).cells 2 (by omega) (by omega)
 have g3 : w4.cell? ⟨3, 0, none⟩ = some (.iface 226 (.pointer (some (E 3)))) := (dV.out.below aW (by omega)).cells 3 (by omega) (by omega)
 clear aW d0 d1 d2 s0
 obtain ⟨d0, d1, d2⟩ := bK bF.out.snd
 obtain ⟨r0, r1, r2, r3, r4, r5, r6, r7⟩ := aH bF.out.res
 obtain ⟨f0, f1, f2, f3, f4, f5, f6, f7⟩ := cB bF.out.res
 have s0 : w4.cell? ⟨sb, 0, none⟩ = some (.int .i64 s.level) := (aRs gH.out).trans rfl
 have k2 := Yk2.out
 have k2b : (kind == 2) = false := beq_eq_false_iff_ne.2 k2
 have e := Ye.out
 clear Ye
 subst e
 have HQ : Hid (oneOf s.level sv 3 item qty = ((⟨0, 0, 0, 3, item, 0, (s.level + 1), 0⟩ : aA), 0)) := by
  show _ = _
  unfold oneOf; rw [if_neg k1, if_pos hm, if_neg k2, if_pos rfl]
  try rfl
 obtain ⟨HX, cG⟩ := done w4 (⟨0, 0, 0, 3, item, 0, (s.level + 1), 0⟩ : aA) 0 HQ dR.out
 clear done
 dsimp only at HX cG
 go_wp2
 change bodyPost _ _ _ _ _ (bJ w4 (w.heap.size + 1 + 1) (.int .i64 0) (.int .i64 0) (.int .i64 0) (.int .i64 3) (.string item) (.int .i64 0) (.int .i64 (s.level + 1)) (.int .i64 0))
 generalize bJ w4 (w.heap.size + 1 + 1) (.int .i64 0) (.int .i64 0) (.int .i64 0) (.int .i64 3) (.string item) (.int .i64 0) (.int .i64 (s.level + 1)) (.int .i64 0) = wf at HX cG ⊢
 obtain ⟨e0, e1, e2, e3, e4, e5, e6, e7⟩ := aH HX.out
 exact bodyPost_ret (v := .tuple #[.agg #[.int .i64 0, .int .i64 0, .int .i64 0, .int .i64 3, .string item, .int .i64 0, .int .i64 (s.level + 1), .int .i64 0], .nilIface]) (by simp [results, Tryz.results134, go_sem, e0, e1, e2, e3, e4, e5, e6, e7]) rfl ⟨by rw [HQ.out]; dsimp only; rw [N9], cG.out⟩
set_option maxHeartbeats 40000000 in
theorem aL4 (w : World) (B : Nat) (E : Int → Addr) (hE : eG w B E) (av ao : Option Addr) (nv cv no co : Nat) (xs : List Int) (l : List aA) (kind qty dv sq : Int) (item : ByteArray) (hx : Ints w B av nv xs) (h : bR w B ao no l) (hB : B ≤ w.heap.size) (hv : nv ≤ 1048576) (hc : no ≤ co) (cY : Fits no co) (hi : item.size ≤ 1048576) (s : cN) (hs : s = cE item (counted xs l)) (h0 : 0 ≤ s.level) (h1 : s.level ≤ 1000000) (k1 : ¬ kind = 1) (vF : s.level % 2 = 1) (k2 : ¬ kind = 2) (k3 : ¬ kind = 3) (e : kind = 4) :
  Calls Tryz.prog 134 #[.agg #[.slice av nv cv, .slice ao no co], .agg #[.int .i64 kind, .string item, .int .i64 qty, .int .i64 dv, .int .i64 sq]] w
   (q9 E (oneOf s.level (decide (s.placed.kind = 4)) kind item qty) w) := by
 have H9 := aRp k1
 have C9 := aRp vF
 have Yk2 := aRp k2
 have Yk3 := aRp k3
 have Ye := aRp e
 clear k1 vF k2 k3 e
 have hT := vZ.mk0 w #[.slice av nv cv, .slice ao no co] #[.int .i64 kind, .string item, .int .i64 qty, .int .i64 dv, .int .i64 sq] #[.int .i64 0, .int .i64 0, .int .i64 0, .int .i64 0, .string ⟨#[]⟩, .int .i64 0, .int .i64 0, .int .i64 0]
 have HX := aRp (hx.below hT.bel hB)
 have HO := aRp (h.below hT.bel hB)
 have HE := aRp (hE.below hT.bel hB)
 have HT := aRp hT
 have C2 := hT.bel.size
 have HS := aRp hs
 clear h hx hT hs hE
 obtain ⟨sv, eI⟩ : ∃ sv, sv = decide (s.placed.kind = 4) := ⟨_, rfl⟩
 rw [← eI]
 have lR := aRp eI
 clear eI
 have hfl := nA
 go_enter Tryz.func134, Tryz.ntmps134
 go_upto_region 1 with fail
 generalize ((w.alloc (.cells #[.slice av nv cv, .slice ao no co] 27)).alloc (.cells #[.int .i64 kind, .string item, .int .i64 qty, .int .i64 dv, .int .i64 sq] 29)).alloc (.cells #[.int .i64 0, .int .i64 0, .int .i64 0, .int .i64 0, .string ⟨#[]⟩, .int .i64 0, .int .i64 0, .int .i64 0] 50) = w0 at HX HO HE HT C2 ⊢
 obtain ⟨c0, c1⟩ := pair_cells HT.out.fst
 obtain ⟨d0, d1, d2⟩ := bK HT.out.snd
 go_wp2_with fail
 refine (rZ w0 B av ao nv cv no co xs l item HX.out HO.out (by omega) hv hc cY).mono ?_
 rintro e w1 ⟨rfl, hb⟩
 rw [← HS.out]
 have aR := aRp (HT.out.next hb)
 have eQ := aRp (HE.out.below hb (by omega))
 have eL := hb.size
 clear hb c0 c1 d0 d1 d2 HT HX HO HE
 obtain ⟨d0, d1, d2⟩ := bK aR.out.snd
 clear HS
 go_upto_region 2 with (refine wpList_store_rowTo rfl 96 _ _ rfl rfl w1.heap.size s.cells rfl rfl 96 _ (World.alloc_heap_new _ _) (iK s) rfl (mS s) ?_)
 rw [World.setRow_alloc_new]
 have aV := ((Below.refl w1.heap.size w1).alloc aRr (.cells s.cells 96))
 have cA := aRp aV
 have aN := aRp (aR.out.next aV)
 have dV := aRp (eQ.out.below aV (by omega))
 have cI := aRp (World.alloc_heap_new w1 (.cells s.cells 96))
 have eB := aV.size
 clear aV aR eQ d0 d1 d2
 generalize w1.alloc (.cells s.cells 96) = w2 at aN dV cI cA eB ⊢
 have kD : w1.heap.size < w2.heap.size := (aRq cI.out).1
 generalize w1.heap.size = sb at cI kD cA eB eL ⊢
 obtain ⟨d0, d1, d2⟩ := bK aN.out.snd
 have s0 : w2.cell? ⟨sb, 0, none⟩ = some (.int .i64 s.level) := (aRs cI.out).trans rfl
 have X5 := dV.out.low
 have hlw : IntKind.i64.wrap (s.level + 1) = s.level + 1 := IntWalk.i64_in _ (by omega)
 have done : ∀ (wr : World) (q : aA) (code : Int), Hid (oneOf s.level sv kind item qty = (q, code)) → Below w2.heap.size w2 wr →
   Hid ((bJ wr (w.heap.size + 1 + 1) (.int .i64 q.dev) (.int .i64 q.seq) (.int .i64 q.stamp) (.int .i64 q.kind) (.string q.item) (.int .i64 q.qty) (.int .i64 q.level) (.int .i64 q.undos)).heap[w.heap.size + 1 + 1]? = some (.cells #[.int .i64 q.dev, .int .i64 q.seq, .int .i64 q.stamp, .int .i64 q.kind, .string q.item, .int .i64 q.qty, .int .i64 q.level, .int .i64 q.undos] 50 (0, 0))) ∧
   Hid (Below w.heap.size w (bJ wr (w.heap.size + 1 + 1) (.int .i64 q.dev) (.int .i64 q.seq) (.int .i64 q.stamp) (.int .i64 q.kind) (.string q.item) (.int .i64 q.qty) (.int .i64 q.level) (.int .i64 q.undos))) := by
  intro wr q code hq hb
  exact ⟨gV _ _ _ _ _ _ _ _ (aN.out.next hb).res, fX _ _ _ _ _ _ _ _ (aN.out.next hb).bel (by omega)⟩
 have k1 := H9.out
 have k1b : (kind == 1) = false := beq_eq_false_iff_ne.2 k1
 go_wp2_with (refine wpList_load_row rfl 96 _ rfl sb rfl _ s.cells _ _ cI.out Tryz.underlying96 rfl (iK s) ?_)
 refine (mY s h0 w2).mono ?_
 rintro e w3 ⟨rfl, aS⟩
 dsimp only
 have hm := C9.out
 have B6 : decide (s.level % 2 = 1) = true := decide_eq_true hm
 rw [B6]
 have bF := aRp (aN.out.next aS)
 have gH := aRp ((aS.block _ kD).trans cI.out)
 have dR := aRp aS
 clear aS d0 d1 d2 s0
 obtain ⟨d0, d1, d2⟩ := bK bF.out.snd
 have s0 : w3.cell? ⟨sb, 0, none⟩ = some (.int .i64 s.level) := (aRs gH.out).trans rfl
 have G6 : zF s = sv := by
  rw [lR.out]; exact if_pos hm
 go_wp2_with (refine wpList_load_row rfl 96 _ rfl sb rfl _ s.cells _ _ gH.out Tryz.underlying96 rfl (iK s) ?_)
 refine (aAu s item h0 hi w3).mono ?_
 rintro e w4 ⟨rfl, cW⟩
 rw [G6]
 generalize zH _ _ = li
 generalize zG _ = lq
 have aW : Below w2.heap.size w2 w4 := dR.out.trans (cW.mono dR.out.size)
 clear cW bF gH dR G6
 have dR := aRp aW
 have bF := aRp (aN.out.next aW)
 have gH := aRp ((aW.block _ kD).trans cI.out)
 have g2 : w4.cell? ⟨2, 0, none⟩ = some (.iface 226 (.pointer (some (E 2)))) := (dV.out.below aW (by omega)).cells 2 (by omega) (by omega)
 have g3 : w4.cell? ⟨3, 0, none⟩ = some (.iface 226 (.pointer (some (E 3)))) := (dV.out.below aW (by omega)).cells 3 (by omega) (by omega)
 clear aW d0 d1 d2 s0
 obtain ⟨d0, d1, d2⟩ := bK bF.out.snd
 obtain ⟨r0, r1, r2, r3, r4, r5, r6, r7⟩ := aH bF.out.res
 obtain ⟨f0, f1, f2, f3, f4, f5, f6, f7⟩ := cB bF.out.res
 have s0 : w4.cell? ⟨sb, 0, none⟩ = some (.int .i64 s.level) := (aRs gH.out).trans rfl
 have k2 := Yk2.out
 have k2b : (kind == 2) = false := beq_eq_false_iff_ne.2 k2
 have k3 := Yk3.out
 have k3b : (kind == 3) = false := beq_eq_false_iff_ne.2 k3
 have e := Ye.out
 clear Ye
 subst e
 cases sv
 ·
  have HQ : Hid (oneOf s.level false 4 item qty = ((⟨0, 0, 0, 4, item, 0, 0, 0⟩ : aA), 0)) := by
   show _ = _
   unfold oneOf; rw [if_neg k1, if_pos hm, if_neg k2, if_neg k3, if_pos rfl]
   try rfl
  obtain ⟨HX, cG⟩ := done w4 (⟨0, 0, 0, 4, item, 0, 0, 0⟩ : aA) 0 HQ dR.out; clear done
  dsimp only at HX cG
  go_wp2
  change bodyPost _ _ _ _ _ (bJ w4 (w.heap.size + 1 + 1) (.int .i64 0) (.int .i64 0) (.int .i64 0) (.int .i64 4) (.string item) (.int .i64 0) (.int .i64 0) (.int .i64 0))
  generalize bJ w4 (w.heap.size + 1 + 1) (.int .i64 0) (.int .i64 0) (.int .i64 0) (.int .i64 4) (.string item) (.int .i64 0) (.int .i64 0) (.int .i64 0) = wf at HX cG ⊢; obtain ⟨e0, e1, e2, e3, e4, e5, e6, e7⟩ := aH HX.out; exact bodyPost_ret (v := .tuple #[.agg #[.int .i64 0, .int .i64 0, .int .i64 0, .int .i64 4, .string item, .int .i64 0, .int .i64 0, .int .i64 0], .nilIface]) (by simp [results, Tryz.results134, go_sem, e0, e1, e2, e3, e4, e5, e6, e7]) rfl ⟨by rw [HQ.out]; dsimp only; rw [N9], cG.out⟩
 ·
  have HQ : Hid (oneOf s.level true 4 item qty = ((⟨0, 0, 0, 0, ⟨#[]⟩, 0, 0, 0⟩ : aA), 2)) := by
   show _ = _
   unfold oneOf; rw [if_neg k1, if_pos hm, if_neg k2, if_neg k3, if_pos rfl]
   try rfl
  clear r0 r1 r2 r3 r4 r5 r6 r7 f0 f1 f2 f3 f4 f5 f6 f7
  go_wp2_with fail
  refine wp_region_held_drew (S := fun w' => w'.cell? ⟨2, 0, none⟩ = some (.iface 226 (.pointer (some (E 2))))) (by kernel_rfl) g2 (fun aO => ?_)
  have dE : Hid (Below w2.heap.size w2 w4.drew) := dR.out.trans ⟨rfl, rfl, rfl, Nat.le_refl _, fun _ _ => rfl⟩
  generalize w4.drew = z0 at dE aO ⊢; have cU := aRp (aN.out.next dE.out); obtain ⟨r0, r1, r2, r3, r4, r5, r6, r7⟩ := aH cU.out.res; obtain ⟨f0, f1, f2, f3, f4, f5, f6, f7⟩ := cB cU.out.res; refine tj 0 ?_
  refine tj 1 ?_
  refine rk 2 rfl (fun K hK => ?_)
  go_simp
  refine hK.out _ _ ((World.cell?_of_block (a := ⟨2, 0, none⟩) (rE (w := z0) (b := w.heap.size + 1 + 1) (k := 2) (.int .i64 0) (.int .i64 0) (.int .i64 0) (.int .i64 0) (.string ⟨#[]⟩) (.int .i64 0) (.int .i64 0) (.int .i64 0) (by omega))).trans aO) (fun bQ => ?_)
  clear hK K
  (try simp only [Act.put, u1, u2, u3])
  refine tj 3 ?_
  refine wpAnyH_done (by kernel_rfl) ?_ _
  obtain ⟨HX, cG⟩ := done z0 (⟨0, 0, 0, 0, ⟨#[]⟩, 0, 0, 0⟩ : aA) 2 HQ dE.out; clear done
  dsimp only at HX cG
  go_wp2
  change bodyPost _ _ _ _ _ (bJ z0 (w.heap.size + 1 + 1) (.int .i64 0) (.int .i64 0) (.int .i64 0) (.int .i64 0) (.string ⟨#[]⟩) (.int .i64 0) (.int .i64 0) (.int .i64 0))
  generalize bJ z0 (w.heap.size + 1 + 1) (.int .i64 0) (.int .i64 0) (.int .i64 0) (.int .i64 0) (.string ⟨#[]⟩) (.int .i64 0) (.int .i64 0) (.int .i64 0) = wf at HX cG ⊢; obtain ⟨e0, e1, e2, e3, e4, e5, e6, e7⟩ := aH HX.out; exact bodyPost_ret (v := .tuple #[.agg #[.int .i64 0, .int .i64 0, .int .i64 0, .int .i64 0, .string ⟨#[]⟩, .int .i64 0, .int .i64 0, .int .i64 0], (.iface 226 (.pointer (some (E 2))))]) (by simp [results, Tryz.results134, go_sem, e0, e1, e2, e3, e4, e5, e6, e7]) rfl ⟨by rw [HQ.out]; dsimp only; rw [N7], cG.out⟩
set_option maxHeartbeats 40000000 in
theorem aL3 (w : World) (B : Nat) (E : Int → Addr) (hE : eG w B E) (av ao : Option Addr) (nv cv no co : Nat) (xs : List Int) (l : List aA) (kind qty dv sq : Int) (item : ByteArray) (hx : Ints w B av nv xs) (h : bR w B ao no l) (hB : B ≤ w.heap.size) (hv : nv ≤ 1048576) (hc : no ≤ co) (cY : Fits no co) (hi : item.size ≤ 1048576) (s : cN) (hs : s = cE item (counted xs l)) (h0 : 0 ≤ s.level) (h1 : s.level ≤ 1000000) (k1 : ¬ kind = 1) (vF : s.level % 2 = 1) (k2 : ¬ kind = 2) (k3 : ¬ kind = 3) (k4 : ¬ kind = 4) (e : kind = 5) :
  Calls Tryz.prog 134 #[.agg #[.slice av nv cv, .slice ao no co], .agg #[.int .i64 kind, .string item, .int .i64 qty, .int .i64 dv, .int .i64 sq]] w
   (q9 E (oneOf s.level (decide (s.placed.kind = 4)) kind item qty) w) := by
 have H9 := aRp k1
 have C9 := aRp vF
 have Yk2 := aRp k2
 have Yk3 := aRp k3
 have Yk4 := aRp k4
 have Ye := aRp e
 clear k1 vF k2 k3 k4 e
 have hT := vZ.mk0 w #[.slice av nv cv, .slice ao no co] #[.int .i64 kind, .string item, .int .i64 qty, .int .i64 dv, .int .i64 sq] #[.int .i64 0, .int .i64 0, .int .i64 0, .int .i64 0, .string ⟨#[]⟩, .int .i64 0, .int .i64 0, .int .i64 0]
 have HX := aRp (hx.below hT.bel hB)
 have HO := aRp (h.below hT.bel hB)
 have HE := aRp (hE.below hT.bel hB)
 have HT := aRp hT
 have C2 := hT.bel.size
 have HS := aRp hs
 clear h hx hT hs hE
 obtain ⟨sv, eI⟩ : ∃ sv, sv = decide (s.placed.kind = 4) := ⟨_, rfl⟩
 rw [← eI]
 have lR := aRp eI
 clear eI
 have hfl := nA
 go_enter Tryz.func134, Tryz.ntmps134
 go_upto_region 1 with fail
 generalize ((w.alloc (.cells #[.slice av nv cv, .slice ao no co] 27)).alloc (.cells #[.int .i64 kind, .string item, .int .i64 qty, .int .i64 dv, .int .i64 sq] 29)).alloc (.cells #[.int .i64 0, .int .i64 0, .int .i64 0, .int .i64 0, .string ⟨#[]⟩, .int .i64 0, .int .i64 0, .int .i64 0] 50) = w0 at HX HO HE HT C2 ⊢
 obtain ⟨c0, c1⟩ := pair_cells HT.out.fst
 obtain ⟨d0, d1, d2⟩ := bK HT.out.snd
 go_wp2_with fail
 refine (rZ w0 B av ao nv cv no co xs l item HX.out HO.out (by omega) hv hc cY).mono ?_
 rintro e w1 ⟨rfl, hb⟩
 rw [← HS.out]
 have aR := aRp (HT.out.next hb)
 have eQ := aRp (HE.out.below hb (by omega))
 have eL := hb.size
 clear hb c0 c1 d0 d1 d2 HT HX HO HE
 obtain ⟨d0, d1, d2⟩ := bK aR.out.snd
 clear HS
 go_upto_region 2 with (refine wpList_store_rowTo rfl 96 _ _ rfl rfl w1.heap.size s.cells rfl rfl 96 _ (World.alloc_heap_new _ _) (iK s) rfl (mS s) ?_)
 rw [World.setRow_alloc_new]
 have aV := ((Below.refl w1.heap.size w1).alloc aRr (.cells s.cells 96))
 have cA := aRp aV
 have aN := aRp (aR.out.next aV)
 have dV := aRp (eQ.out.below aV (by omega))
 have cI := aRp (World.alloc_heap_new w1 (.cells s.cells 96))
 have eB := aV.size
 clear aV aR eQ d0 d1 d2
 generalize w1.alloc (.cells s.cells 96) = w2 at aN dV cI cA eB ⊢
 have kD : w1.heap.size < w2.heap.size := (aRq cI.out).1
 generalize w1.heap.size = sb at cI kD cA eB eL ⊢
 obtain ⟨d0, d1, d2⟩ := bK aN.out.snd
 have s0 : w2.cell? ⟨sb, 0, none⟩ = some (.int .i64 s.level) := (aRs cI.out).trans rfl
 have X5 := dV.out.low
 have hlw : IntKind.i64.wrap (s.level + 1) = s.level + 1 := IntWalk.i64_in _ (by omega)
 have done : ∀ (wr : World) (q : aA) (code : Int), Hid (oneOf s.level sv kind item qty = (q, code)) → Below w2.heap.size w2 wr →
   Hid ((bJ wr (w.heap.size + 1 + 1) (.int .i64 q.dev) (.int .i64 q.seq) (.int .i64 q.stamp) (.int .i64 q.kind) (.string q.item) (.int .i64 q.qty) (.int .i64 q.level) (.int .i64 q.undos)).heap[w.heap.size + 1 + 1]? = some (.cells #[.int .i64 q.dev, .int .i64 q.seq, .int .i64 q.stamp, .int .i64 q.kind, .string q.item, .int .i64 q.qty, .int .i64 q.level, .int .i64 q.undos] 50 (0, 0))) ∧
   Hid (Below w.heap.size w (bJ wr (w.heap.size + 1 + 1) (.int .i64 q.dev) (.int .i64 q.seq) (.int .i64 q.stamp) (.int .i64 q.kind) (.string q.item) (.int .i64 q.qty) (.int .i64 q.level) (.int .i64 q.undos))) := by
  intro wr q code hq hb
  exact ⟨gV _ _ _ _ _ _ _ _ (aN.out.next hb).res, fX _ _ _ _ _ _ _ _ (aN.out.next hb).bel (by omega)⟩
 have k1 := H9.out
 have k1b : (kind == 1) = false := beq_eq_false_iff_ne.2 k1
 go_wp2_with (refine wpList_load_row rfl 96 _ rfl sb rfl _ s.cells _ _ cI.out Tryz.underlying96 rfl (iK s) ?_)
 refine (mY s h0 w2).mono ?_
 rintro e w3 ⟨rfl, aS⟩
 dsimp only
 have hm := C9.out
 have B6 : decide (s.level % 2 = 1) = true := decide_eq_true hm
 rw [B6]
 have bF := aRp (aN.out.next aS)
 have gH := aRp ((aS.block _ kD).trans cI.out)
 have dR := aRp aS
 clear aS d0 d1 d2 s0
 obtain ⟨d0, d1, d2⟩ := bK bF.out.snd
 have s0 : w3.cell? ⟨sb, 0, none⟩ = some (.int .i64 s.level) := (aRs gH.out).trans rfl
 have G6 : zF s = sv := by
  rw [lR.out]; exact if_pos hm
 go_wp2_with (refine wpList_load_row rfl 96 _ rfl sb rfl _ s.cells _ _ gH.out Tryz.underlying96 rfl (iK s) ?_)
 refine (aAu s item h0 hi w3).mono ?_
 rintro e w4 ⟨rfl, cW⟩
 rw [G6]
 generalize zH _ _ = li
 generalize zG _ = lq
 have aW : Below w2.heap.size w2 w4 := dR.out.trans (cW.mono dR.out.size)
 clear cW bF gH dR G6
 have dR := aRp aW
 have bF := aRp (aN.out.next aW)
 have gH := aRp ((aW.block _ kD).trans cI.out)
 have g2 : w4.cell? ⟨2, 0, none⟩ = some (.iface 226 (.pointer (some (E 2)))) := (dV.out.below aW (by omega)).cells 2 (by omega) (by omega)
 have g3 : w4.cell? ⟨3, 0, none⟩ = some (.iface 226 (.pointer (some (E 3)))) := (dV.out.below aW (by omega)).cells 3 (by omega) (by omega)
 clear aW d0 d1 d2 s0
 obtain ⟨d0, d1, d2⟩ := bK bF.out.snd
 obtain ⟨r0, r1, r2, r3, r4, r5, r6, r7⟩ := aH bF.out.res
 obtain ⟨f0, f1, f2, f3, f4, f5, f6, f7⟩ := cB bF.out.res
 have s0 : w4.cell? ⟨sb, 0, none⟩ = some (.int .i64 s.level) := (aRs gH.out).trans rfl
 have k2 := Yk2.out
 have k2b : (kind == 2) = false := beq_eq_false_iff_ne.2 k2
 have k3 := Yk3.out
 have k3b : (kind == 3) = false := beq_eq_false_iff_ne.2 k3
 have k4 := Yk4.out
 have k4b : (kind == 4) = false := beq_eq_false_iff_ne.2 k4
 have e := Ye.out
 clear Ye
 subst e
 cases sv
 ·
  have HQ : Hid (oneOf s.level false 5 item qty = ((⟨0, 0, 0, 0, ⟨#[]⟩, 0, 0, 0⟩ : aA), 2)) := by
   show _ = _
   unfold oneOf; rw [if_neg k1, if_pos hm, if_neg k2, if_neg k3, if_neg k4, if_pos rfl]
   try rfl
  clear r0 r1 r2 r3 r4 r5 r6 r7 f0 f1 f2 f3 f4 f5 f6 f7
  go_wp2_with fail
  refine wp_region_held_drew (S := fun w' => w'.cell? ⟨2, 0, none⟩ = some (.iface 226 (.pointer (some (E 2))))) (by kernel_rfl) g2 (fun aO => ?_)
  have dE : Hid (Below w2.heap.size w2 w4.drew) := dR.out.trans ⟨rfl, rfl, rfl, Nat.le_refl _, fun _ _ => rfl⟩
  generalize w4.drew = z0 at dE aO ⊢; have cU := aRp (aN.out.next dE.out); obtain ⟨r0, r1, r2, r3, r4, r5, r6, r7⟩ := aH cU.out.res; obtain ⟨f0, f1, f2, f3, f4, f5, f6, f7⟩ := cB cU.out.res; refine tj 0 ?_
  refine tj 1 ?_
  refine rk 2 rfl (fun K hK => ?_)
  go_simp
  refine hK.out _ _ ((World.cell?_of_block (a := ⟨2, 0, none⟩) (rE (w := z0) (b := w.heap.size + 1 + 1) (k := 2) (.int .i64 0) (.int .i64 0) (.int .i64 0) (.int .i64 0) (.string ⟨#[]⟩) (.int .i64 0) (.int .i64 0) (.int .i64 0) (by omega))).trans aO) (fun bQ => ?_)
  clear hK K
  (try simp only [Act.put, u1, u2, u3])
  refine tj 3 ?_
  refine wpAnyH_done (by kernel_rfl) ?_ _
  obtain ⟨HX, cG⟩ := done z0 (⟨0, 0, 0, 0, ⟨#[]⟩, 0, 0, 0⟩ : aA) 2 HQ dE.out; clear done
  dsimp only at HX cG
  go_wp2
  change bodyPost _ _ _ _ _ (bJ z0 (w.heap.size + 1 + 1) (.int .i64 0) (.int .i64 0) (.int .i64 0) (.int .i64 0) (.string ⟨#[]⟩) (.int .i64 0) (.int .i64 0) (.int .i64 0))
  generalize bJ z0 (w.heap.size + 1 + 1) (.int .i64 0) (.int .i64 0) (.int .i64 0) (.int .i64 0) (.string ⟨#[]⟩) (.int .i64 0) (.int .i64 0) (.int .i64 0) = wf at HX cG ⊢; obtain ⟨e0, e1, e2, e3, e4, e5, e6, e7⟩ := aH HX.out; exact bodyPost_ret (v := .tuple #[.agg #[.int .i64 0, .int .i64 0, .int .i64 0, .int .i64 0, .string ⟨#[]⟩, .int .i64 0, .int .i64 0, .int .i64 0], (.iface 226 (.pointer (some (E 2))))]) (by simp [results, Tryz.results134, go_sem, e0, e1, e2, e3, e4, e5, e6, e7]) rfl ⟨by rw [HQ.out]; dsimp only; rw [N7], cG.out⟩
 ·
  have HQ : Hid (oneOf s.level true 5 item qty = ((⟨0, 0, 0, 5, item, 0, 0, 0⟩ : aA), 0)) := by
   show _ = _
   unfold oneOf; rw [if_neg k1, if_pos hm, if_neg k2, if_neg k3, if_neg k4, if_pos rfl]
   try rfl
  obtain ⟨HX, cG⟩ := done w4 (⟨0, 0, 0, 5, item, 0, 0, 0⟩ : aA) 0 HQ dR.out; clear done
  dsimp only at HX cG
  go_wp2
  change bodyPost _ _ _ _ _ (bJ w4 (w.heap.size + 1 + 1) (.int .i64 0) (.int .i64 0) (.int .i64 0) (.int .i64 5) (.string item) (.int .i64 0) (.int .i64 0) (.int .i64 0))
  generalize bJ w4 (w.heap.size + 1 + 1) (.int .i64 0) (.int .i64 0) (.int .i64 0) (.int .i64 5) (.string item) (.int .i64 0) (.int .i64 0) (.int .i64 0) = wf at HX cG ⊢; obtain ⟨e0, e1, e2, e3, e4, e5, e6, e7⟩ := aH HX.out; exact bodyPost_ret (v := .tuple #[.agg #[.int .i64 0, .int .i64 0, .int .i64 0, .int .i64 5, .string item, .int .i64 0, .int .i64 0, .int .i64 0], .nilIface]) (by simp [results, Tryz.results134, go_sem, e0, e1, e2, e3, e4, e5, e6, e7]) rfl ⟨by rw [HQ.out]; dsimp only; rw [N9], cG.out⟩
set_option maxHeartbeats 40000000 in
theorem aL2 (w : World) (B : Nat) (E : Int → Addr) (hE : eG w B E) (av ao : Option Addr) (nv cv no co : Nat) (xs : List Int) (l : List aA) (kind qty dv sq : Int) (item : ByteArray) (hx : Ints w B av nv xs) (h : bR w B ao no l) (hB : B ≤ w.heap.size) (hv : nv ≤ 1048576) (hc : no ≤ co) (cY : Fits no co) (hi : item.size ≤ 1048576) (s : cN) (hs : s = cE item (counted xs l)) (h0 : 0 ≤ s.level) (h1 : s.level ≤ 1000000) (k1 : ¬ kind = 1) (vF : s.level % 2 = 1) (k2 : ¬ kind = 2) (k3 : ¬ kind = 3) (k4 : ¬ kind = 4) (k5 : ¬ kind = 5) :
  Calls Tryz.prog 134 #[.agg #[.slice av nv cv, .slice ao no co], .agg #[.int .i64 kind, .string item, .int .i64 qty, .int .i64 dv, .int .i64 sq]] w
   (q9 E (oneOf s.level (decide (s.placed.kind = 4)) kind item qty) w) := by
 have H9 := aRp k1
 have C9 := aRp vF
 have Yk2 := aRp k2
 have Yk3 := aRp k3
 have Yk4 := aRp k4
 have Yk5 := aRp k5
 clear k1 vF k2 k3 k4 k5
 have hT := vZ.mk0 w #[.slice av nv cv, .slice ao no co] #[.int .i64 kind, .string item, .int .i64 qty, .int .i64 dv, .int .i64 sq] #[.int .i64 0, .int .i64 0, .int .i64 0, .int .i64 0, .string ⟨#[]⟩, .int .i64 0, .int .i64 0, .int .i64 0]
 have HX := aRp (hx.below hT.bel hB)
 have HO := aRp (h.below hT.bel hB)
 have HE := aRp (hE.below hT.bel hB)
 have HT := aRp hT
 have C2 := hT.bel.size
 have HS := aRp hs
 clear h hx hT hs hE
 obtain ⟨sv, eI⟩ : ∃ sv, sv = decide (s.placed.kind = 4) := ⟨_, rfl⟩
 rw [← eI]
 have lR := aRp eI
 clear eI
 have hfl := nA
 go_enter Tryz.func134, Tryz.ntmps134
 go_upto_region 1 with fail
 generalize ((w.alloc (.cells #[.slice av nv cv, .slice ao no co] 27)).alloc (.cells #[.int .i64 kind, .string item, .int .i64 qty, .int .i64 dv, .int .i64 sq] 29)).alloc (.cells #[.int .i64 0, .int .i64 0, .int .i64 0, .int .i64 0, .string ⟨#[]⟩, .int .i64 0, .int .i64 0, .int .i64 0] 50) = w0 at HX HO HE HT C2 ⊢
 obtain ⟨c0, c1⟩ := pair_cells HT.out.fst
 obtain ⟨d0, d1, d2⟩ := bK HT.out.snd
 go_wp2_with fail
 refine (rZ w0 B av ao nv cv no co xs l item HX.out HO.out (by omega) hv hc cY).mono ?_
 rintro e w1 ⟨rfl, hb⟩
 rw [← HS.out]
 have aR := aRp (HT.out.next hb)
 have eQ := aRp (HE.out.below hb (by omega))
 have eL := hb.size
 clear hb c0 c1 d0 d1 d2 HT HX HO HE
 obtain ⟨d0, d1, d2⟩ := bK aR.out.snd
 clear HS
 go_upto_region 2 with (refine wpList_store_rowTo rfl 96 _ _ rfl rfl w1.heap.size s.cells rfl rfl 96 _ (World.alloc_heap_new _ _) (iK s) rfl (mS s) ?_)
 rw [World.setRow_alloc_new]
 have aV := ((Below.refl w1.heap.size w1).alloc aRr (.cells s.cells 96))
 have cA := aRp aV
 have aN := aRp (aR.out.next aV)
 have dV := aRp (eQ.out.below aV (by omega))
 have cI := aRp (World.alloc_heap_new w1 (.cells s.cells 96))
 have eB := aV.size
 clear aV aR eQ d0 d1 d2
 generalize w1.alloc (.cells s.cells 96) = w2 at aN dV cI cA eB ⊢
 have kD : w1.heap.size < w2.heap.size := (aRq cI.out).1
 generalize w1.heap.size = sb at cI kD cA eB eL ⊢
 obtain ⟨d0, d1, d2⟩ := bK aN.out.snd
 have s0 : w2.cell? ⟨sb, 0, none⟩ = some (.int .i64 s.level) := (aRs cI.out).trans rfl
 have X5 := dV.out.low
 have hlw : IntKind.i64.wrap (s.level + 1) = s.level + 1 := IntWalk.i64_in _ (by omega)
 have done : ∀ (wr : World) (q : aA) (code : Int), Hid (oneOf s.level sv kind item qty = (q, code)) → Below w2.heap.size w2 wr →
   Hid ((bJ wr (w.heap.size + 1 + 1) (.int .i64 q.dev) (.int .i64 q.seq) (.int .i64 q.stamp) (.int .i64 q.kind) (.string q.item) (.int .i64 q.qty) (.int .i64 q.level) (.int .i64 q.undos)).heap[w.heap.size + 1 + 1]? = some (.cells #[.int .i64 q.dev, .int .i64 q.seq, .int .i64 q.stamp, .int .i64 q.kind, .string q.item, .int .i64 q.qty, .int .i64 q.level, .int .i64 q.undos] 50 (0, 0))) ∧
   Hid (Below w.heap.size w (bJ wr (w.heap.size + 1 + 1) (.int .i64 q.dev) (.int .i64 q.seq) (.int .i64 q.stamp) (.int .i64 q.kind) (.string q.item) (.int .i64 q.qty) (.int .i64 q.level) (.int .i64 q.undos))) := by
  intro wr q code hq hb
  exact ⟨gV _ _ _ _ _ _ _ _ (aN.out.next hb).res, fX _ _ _ _ _ _ _ _ (aN.out.next hb).bel (by omega)⟩
 have k1 := H9.out
 have k1b : (kind == 1) = false := beq_eq_false_iff_ne.2 k1
 go_wp2_with (refine wpList_load_row rfl 96 _ rfl sb rfl _ s.cells _ _ cI.out Tryz.underlying96 rfl (iK s) ?_)
 refine (mY s h0 w2).mono ?_
 rintro e w3 ⟨rfl, aS⟩
 dsimp only
 have hm := C9.out
 have B6 : decide (s.level % 2 = 1) = true := decide_eq_true hm
 rw [B6]
 have bF := aRp (aN.out.next aS)
 have gH := aRp ((aS.block _ kD).trans cI.out)
 have dR := aRp aS
 clear aS d0 d1 d2 s0
 obtain ⟨d0, d1, d2⟩ := bK bF.out.snd
 have s0 : w3.cell? ⟨sb, 0, none⟩ = some (.int .i64 s.level) := (aRs gH.out).trans rfl
 have G6 : zF s = sv := by
  rw [lR.out]; exact if_pos hm
 go_wp2_with (refine wpList_load_row rfl 96 _ rfl sb rfl _ s.cells _ _ gH.out Tryz.underlying96 rfl (iK s) ?_)
 refine (aAu s item h0 hi w3).mono ?_
 rintro e w4 ⟨rfl, cW⟩
 rw [G6]
 generalize zH _ _ = li
 generalize zG _ = lq
 have aW : Below w2.heap.size w2 w4 := dR.out.trans (cW.mono dR.out.size)
 clear cW bF gH dR G6
 have dR := aRp aW
 have bF := aRp (aN.out.next aW)
 have gH := aRp ((aW.block _ kD).trans cI.out)
 have g2 : w4.cell? ⟨2, 0, none⟩ = some (.iface 226 (.pointer (some (E 2)))) := (dV.out.below aW (by omega)).cells 2 (by omega) (by omega)
 have g3 : w4.cell? ⟨3, 0, none⟩ = some (.iface 226 (.pointer (some (E 3)))) := (dV.out.below aW (by omega)).cells 3 (by omega) (by omega)
 clear aW d0 d1 d2 s0
 obtain ⟨d0, d1, d2⟩ := bK bF.out.snd
 obtain ⟨r0, r1, r2, r3, r4, r5, r6, r7⟩ := aH bF.out.res
 obtain ⟨f0, f1, f2, f3, f4, f5, f6, f7⟩ := cB bF.out.res
 have s0 : w4.cell? ⟨sb, 0, none⟩ = some (.int .i64 s.level) := (aRs gH.out).trans rfl
 have k2 := Yk2.out
 have k2b : (kind == 2) = false := beq_eq_false_iff_ne.2 k2
 have k3 := Yk3.out
 have k3b : (kind == 3) = false := beq_eq_false_iff_ne.2 k3
 have k4 := Yk4.out
 have k4b : (kind == 4) = false := beq_eq_false_iff_ne.2 k4
 have k5 := Yk5.out
 have k5b : (kind == 5) = false := beq_eq_false_iff_ne.2 k5
 have HQ : Hid (oneOf s.level sv kind item qty = ((⟨0, 0, 0, 0, ⟨#[]⟩, 0, 0, 0⟩ : aA), 2)) := by
  show _ = _
  unfold oneOf; rw [if_neg k1, if_pos hm, if_neg k2, if_neg k3, if_neg k4, if_neg k5]
  try rfl
 clear r0 r1 r2 r3 r4 r5 r6 r7 f0 f1 f2 f3 f4 f5 f6 f7
 go_wp2_with fail
 refine wp_region_held_drew (S := fun w' => w'.cell? ⟨2, 0, none⟩ = some (.iface 226 (.pointer (some (E 2))))) (by kernel_rfl) g2 (fun aO => ?_)
 have dE : Hid (Below w2.heap.size w2 w4.drew) := dR.out.trans ⟨rfl, rfl, rfl, Nat.le_refl _, fun _ _ => rfl⟩
 generalize w4.drew = z0 at dE aO ⊢
 have cU := aRp (aN.out.next dE.out)
 obtain ⟨r0, r1, r2, r3, r4, r5, r6, r7⟩ := aH cU.out.res
 obtain ⟨f0, f1, f2, f3, f4, f5, f6, f7⟩ := cB cU.out.res
 refine tj 0 ?_
 refine tj 1 ?_
 refine rk 2 rfl (fun K hK => ?_)
 go_simp
 refine hK.out _ _ ((World.cell?_of_block (a := ⟨2, 0, none⟩) (rE (w := z0) (b := w.heap.size + 1 + 1) (k := 2) (.int .i64 0) (.int .i64 0) (.int .i64 0) (.int .i64 0) (.string ⟨#[]⟩) (.int .i64 0) (.int .i64 0) (.int .i64 0) (by omega))).trans aO) (fun bQ => ?_)
 clear hK K
 (try simp only [Act.put, u1, u2, u3])
 refine tj 3 ?_
 refine wpAnyH_done (by kernel_rfl) ?_ _
 obtain ⟨HX, cG⟩ := done z0 (⟨0, 0, 0, 0, ⟨#[]⟩, 0, 0, 0⟩ : aA) 2 HQ dE.out
 clear done
 dsimp only at HX cG
 go_wp2
 change bodyPost _ _ _ _ _ (bJ z0 (w.heap.size + 1 + 1) (.int .i64 0) (.int .i64 0) (.int .i64 0) (.int .i64 0) (.string ⟨#[]⟩) (.int .i64 0) (.int .i64 0) (.int .i64 0))
 generalize bJ z0 (w.heap.size + 1 + 1) (.int .i64 0) (.int .i64 0) (.int .i64 0) (.int .i64 0) (.string ⟨#[]⟩) (.int .i64 0) (.int .i64 0) (.int .i64 0) = wf at HX cG ⊢
 obtain ⟨e0, e1, e2, e3, e4, e5, e6, e7⟩ := aH HX.out
 exact bodyPost_ret (v := .tuple #[.agg #[.int .i64 0, .int .i64 0, .int .i64 0, .int .i64 0, .string ⟨#[]⟩, .int .i64 0, .int .i64 0, .int .i64 0], (.iface 226 (.pointer (some (E 2))))]) (by simp [results, Tryz.results134, go_sem, e0, e1, e2, e3, e4, e5, e6, e7]) rfl ⟨by rw [HQ.out]; dsimp only; rw [N7], cG.out⟩
set_option maxHeartbeats 40000000 in
theorem aM3 (w : World) (B : Nat) (E : Int → Addr) (hE : eG w B E) (av ao : Option Addr) (nv cv no co : Nat) (xs : List Int) (l : List aA) (kind qty dv sq : Int) (item : ByteArray) (hx : Ints w B av nv xs) (h : bR w B ao no l) (hB : B ≤ w.heap.size) (hv : nv ≤ 1048576) (hc : no ≤ co) (cY : Fits no co) (hi : item.size ≤ 1048576) (s : cN) (hs : s = cE item (counted xs l)) (h0 : 0 ≤ s.level) (h1 : s.level ≤ 1000000) :
  Calls Tryz.prog 134 #[.agg #[.slice av nv cv, .slice ao no co], .agg #[.int .i64 kind, .string item, .int .i64 qty, .int .i64 dv, .int .i64 sq]] w
   (q9 E (oneOf s.level (decide (s.placed.kind = 4)) kind item qty) w) := by
 by_cases k1 : kind = 1
 ·exact aL1 w B E hE av ao nv cv no co xs l kind qty dv sq item hx h hB hv hc cY hi s hs h0 h1 k1
 by_cases hm : s.level % 2 = 1
 rotate_left
 ·exact aL0 w B E hE av ao nv cv no co xs l kind qty dv sq item hx h hB hv hc cY hi s hs h0 h1 k1 hm
 by_cases k2 : kind = 2
 ·exact aL6 w B E hE av ao nv cv no co xs l kind qty dv sq item hx h hB hv hc cY hi s hs h0 h1 k1 hm k2
 by_cases k3 : kind = 3
 ·exact aL5 w B E hE av ao nv cv no co xs l kind qty dv sq item hx h hB hv hc cY hi s hs h0 h1 k1 hm k2 k3
 by_cases k4 : kind = 4
 ·exact aL4 w B E hE av ao nv cv no co xs l kind qty dv sq item hx h hB hv hc cY hi s hs h0 h1 k1 hm k2 k3 k4
 by_cases k5 : kind = 5
 ·exact aL3 w B E hE av ao nv cv no co xs l kind qty dv sq item hx h hB hv hc cY hi s hs h0 h1 k1 hm k2 k3 k4 k5
 exact aL2 w B E hE av ao nv cv no co xs l kind qty dv sq item hx h hB hv hc cY hi s hs h0 h1 k1 hm k2 k3 k4 k5
end Go.Proofs.YthkagbnpcjidfaaGreatDoor
