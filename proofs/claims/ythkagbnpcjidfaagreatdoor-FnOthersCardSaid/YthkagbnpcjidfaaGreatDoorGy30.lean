/- Walks and mathematics that several claims share, part 30. -/
import Derived.Test.YthkagbnpcjidfaaGreatDoorGy29
import Derived.Test.YthkagbnpcjidfaaGreatDoorGy10
import Derived.Test.YthkagbnpcjidfaaGreatDoorGy13
import Derived.Test.YthkagbnpcjidfaaGreatDoorGy17
import Derived.Deep.Cut
import Derived.Lib.Hide
import Derived.Deep.RegionHeld
import Derived.Great.BuildSlice
import Derived.Deep.WholeRow
import Derived.Test.YthkagbnpcjidfaaGreatDoorGyA
namespace Go.Proofs.YthkagbnpcjidfaaGreatDoor
set_option maxHeartbeats 40000000
set_option maxRecDepth 100000
open Go.RowKit
set_option linter.unusedVariables false
set_option linter.unusedSimpArgs false
set_option linter.unusedVariables false
set_option linter.unusedSimpArgs false

def aAf (E : Int → Addr) (r : aA × Int) (w : World) (e : Ending) (w' : World) : Prop :=
 e = .returned (.tuple #[.agg #[.int .i64 r.1.dev, .int .i64 r.1.seq, .int .i64 r.1.stamp, .int .i64 r.1.kind, .string r.1.item, .int .i64 r.1.qty, .int .i64 r.1.level, .int .i64 r.1.undos], mN E r.2]) ∧ Below w.heap.size w w'
theorem S9 (E : Int → Addr) : mN E 0 = .nilIface := by unfold mN; rw [if_pos (by decide)]
theorem S7 (E : Int → Addr) : mN E 2 = .iface 226 (.pointer (some (E 2))) := by unfold mN; rw [if_neg (by decide)]
theorem aNE (E : Int → Addr) : mN E 3 = .iface 226 (.pointer (some (E 3))) := by unfold mN; rw [if_neg (by decide)]
theorem pC (a : ByteArray) (b : Int) (c : Bool) (w : World) : Sem.run Tryz.prog (Instr.field 39 (.agg #[.string a, .int .i64 b, .bool c]) 2) w = .ok (.bool c) w := by kernel_rfl
theorem oZ (s : cW) : s.cells.all (·.oneCell') = true := by simp [cW.cells, Value.oneCell']
theorem jL (s : cW) : (Tryz.prog.info? 96).map (·.size) = some s.cells.size := by kernel_rfl
theorem aLN (w : World) (B : Nat) (E : Int → Addr) (hE : eZ w B E) (av ao : Option Addr) (nv cv no co : Nat) (xs : List Int) (l : List aA) (kind qty dv sq : Int) (item : ByteArray) (hx : Ints w B av nv xs) (h : bS w B ao no l) (hB : B ≤ w.heap.size) (hv : nv ≤ 1048576) (hc : no ≤ co) (cM : Fits no co) (hi : item.size ≤ 1048576) (s : cW) (hs : s = cC item (counted xs l)) (h0 : 0 ≤ s.level) (h1 : s.level ≤ 1000000) (k1 : kind = 1) :
  Calls Tryz.prog 134 #[.agg #[.slice av nv cv, .slice ao no co], .agg #[.int .i64 kind, .string item, .int .i64 qty, .int .i64 dv, .int .i64 sq]] w
   (aAf E (oneOf s.level (decide (s.placed.kind = 4)) kind item qty) w) := by
 have O3 := aRA k1
 clear k1
 have hT := yZ.mk0 w #[.slice av nv cv, .slice ao no co] #[.int .i64 kind, .string item, .int .i64 qty, .int .i64 dv, .int .i64 sq] #[.int .i64 0, .int .i64 0, .int .i64 0, .int .i64 0, .string ⟨#[]⟩, .int .i64 0, .int .i64 0, .int .i64 0]
 have HX := aRA (hx.below hT.bel hB)
 have HO := aRA (h.below hT.bel hB)
 have HE := aRA (hE.below hT.bel hB)
 have HT := aRA hT
 have K4 := hT.bel.size
 have HS := aRA hs
 clear h hx hT hs hE
 obtain ⟨sv, fM⟩ : ∃ sv, sv = decide (s.placed.kind = 4) := ⟨_, rfl⟩
 rw [← fM]
 have oB := aRA fM
 clear fM
 have D6 := pC
 go_enter Tryz.func134, Tryz.ntmps134
 go_upto_region 1 with fail
 generalize ((w.alloc (.cells #[.slice av nv cv, .slice ao no co] 27)).alloc (.cells #[.int .i64 kind, .string item, .int .i64 qty, .int .i64 dv, .int .i64 sq] 29)).alloc (.cells #[.int .i64 0, .int .i64 0, .int .i64 0, .int .i64 0, .string ⟨#[]⟩, .int .i64 0, .int .i64 0, .int .i64 0] 50) = w0 at HX HO HE HT K4 ⊢
 obtain ⟨c0, c1⟩ := pair_cells HT.out.fst
 obtain ⟨d0, d1, d2⟩ := bQ HT.out.snd
 go_wp2_with fail
 refine (uR w0 B av ao nv cv no co xs l item HX.out HO.out (by omega) hv hc cM).mono ?_
 rintro e w1 ⟨rfl, hb⟩
 rw [← HS.out]
 have aZ := aRA (HT.out.next hb)
 have eF := aRA (HE.out.below hb (by omega))
 have fH := hb.size
 clear hb c0 c1 d0 d1 d2 HT HX HO HE
 obtain ⟨d0, d1, d2⟩ := bQ aZ.out.snd
 clear HS
 go_upto_region 2 with (refine wpList_store_rowTo rfl 96 _ _ rfl rfl w1.heap.size s.cells rfl rfl 96 _ (World.alloc_heap_new _ _) (jL s) rfl (oZ s) ?_)
 rw [World.setRow_alloc_new]
 have bD := ((Below.refl w1.heap.size w1).alloc aRC (.cells s.cells 96))
 have bK := aRA bD
 have aM := aRA (aZ.out.next bD)
 have dQ := aRA (eF.out.below bD (by omega))
 have cZ := aRA (World.alloc_heap_new w1 (.cells s.cells 96))
 have eV := bD.size
 clear bD aZ eF d0 d1 d2
 generalize w1.alloc (.cells s.cells 96) = w2 at aM dQ cZ bK eV ⊢
 have lZ : w1.heap.size < w2.heap.size := (aRB cZ.out).1
 generalize w1.heap.size = sb at cZ lZ bK eV fH ⊢
 obtain ⟨d0, d1, d2⟩ := bQ aM.out.snd
 have s0 : w2.cell? ⟨sb, 0, none⟩ = some (.int .i64 s.level) := (aRD cZ.out).trans rfl
 have Z0 := dQ.out.low
 have hlw : IntKind.i64.wrap (s.level + 1) = s.level + 1 := IntWalk.i64_in _ (by omega)
 have done : ∀ (wr : World) (q : aA) (code : Int), Hid (oneOf s.level sv kind item qty = (q, code)) → Below w2.heap.size w2 wr →
   Hid ((bT wr (w.heap.size + 1 + 1) (.int .i64 q.dev) (.int .i64 q.seq) (.int .i64 q.stamp) (.int .i64 q.kind) (.string q.item) (.int .i64 q.qty) (.int .i64 q.level) (.int .i64 q.undos)).heap[w.heap.size + 1 + 1]? = some (.cells #[.int .i64 q.dev, .int .i64 q.seq, .int .i64 q.stamp, .int .i64 q.kind, .string q.item, .int .i64 q.qty, .int .i64 q.level, .int .i64 q.undos] 50 (0, 0))) ∧
   Hid (Below w.heap.size w (bT wr (w.heap.size + 1 + 1) (.int .i64 q.dev) (.int .i64 q.seq) (.int .i64 q.stamp) (.int .i64 q.kind) (.string q.item) (.int .i64 q.qty) (.int .i64 q.level) (.int .i64 q.undos))) := by
  intro wr q code hq hb
  exact ⟨kW _ _ _ _ _ _ _ _ (aM.out.next hb).res, jJ _ _ _ _ _ _ _ _ (aM.out.next hb).bel (by omega)⟩
 have k1 := O3.out
 clear O3
 subst k1
 go_wp2_with (refine wpList_load_row rfl 96 _ rfl sb rfl _ s.cells _ _ cZ.out Tryz.underlying96 rfl (jL s) ?_)
 refine (pA s h0 w2).mono ?_
 rintro e w3 ⟨rfl, bB⟩
 dsimp only
 have dR := aRA bB
 have bJ := aRA (aM.out.next bB)
 have iI := aRA ((bB.block _ lZ).trans cZ.out)
 have g2 : w3.cell? ⟨2, 0, none⟩ = some (.iface 226 (.pointer (some (E 2)))) := (dQ.out.below bB (by omega)).cells 2 (by omega) (by omega)
 have g3 : w3.cell? ⟨3, 0, none⟩ = some (.iface 226 (.pointer (some (E 3)))) := (dQ.out.below bB (by omega)).cells 3 (by omega) (by omega)
 clear bB d0 d1 d2 s0
 obtain ⟨d0, d1, d2⟩ := bQ bJ.out.snd
 obtain ⟨r0, r1, r2, r3, r4, r5, r6, r7⟩ := aQ bJ.out.res
 obtain ⟨f0, f1, f2, f3, f4, f5, f6, f7⟩ := dE bJ.out.res
 have s0 : w3.cell? ⟨sb, 0, none⟩ = some (.int .i64 s.level) := (aRD iI.out).trans rfl
 by_cases hm : s.level % 2 = 1
 ·have J6 : decide (s.level % 2 = 1) = true := decide_eq_true hm
  rw [J6]; have HQ : Hid (oneOf s.level sv 1 item qty = ((⟨0, 0, 0, 0, ⟨#[]⟩, 0, 0, 0⟩ : aA), 3)) := by
   show _ = _
   unfold oneOf; rw [if_pos rfl, if_pos hm]
   try rfl
  clear r0 r1 r2 r3 r4 r5 r6 r7 f0 f1 f2 f3 f4 f5 f6 f7
  go_wp2_with fail
  refine wp_region_held_drew (S := fun w' => w'.cell? ⟨3, 0, none⟩ = some (.iface 226 (.pointer (some (E 3))))) (by kernel_rfl) g3 (fun aP => ?_)
  have dG : Hid (Below w2.heap.size w2 w3.drew) := dR.out.trans ⟨rfl, rfl, rfl, Nat.le_refl _, fun _ _ => rfl⟩
  generalize w3.drew = z0 at dG aP ⊢; have dF := aRA (aM.out.next dG.out); obtain ⟨r0, r1, r2, r3, r4, r5, r6, r7⟩ := aQ dF.out.res; obtain ⟨f0, f1, f2, f3, f4, f5, f6, f7⟩ := dE dF.out.res; refine tj 0 ?_
  refine tj 1 ?_
  refine rk 2 rfl (fun K hK => ?_)
  go_simp
  refine hK.out _ _ ((World.cell?_of_block (a := ⟨3, 0, none⟩) (tX (w := z0) (b := w.heap.size + 1 + 1) (k := 3) (.int .i64 0) (.int .i64 0) (.int .i64 0) (.int .i64 0) (.string ⟨#[]⟩) (.int .i64 0) (.int .i64 0) (.int .i64 0) (by omega))).trans aP) (fun bZ => ?_)
  clear hK K
  (try simp only [Act.put, u1, u2, u3])
  refine tj 3 ?_
  refine wpAnyH_done (by kernel_rfl) ?_ _
  obtain ⟨HX, cJ⟩ := done z0 (⟨0, 0, 0, 0, ⟨#[]⟩, 0, 0, 0⟩ : aA) 3 HQ dG.out; clear done
  dsimp only at HX cJ
  go_wp2
  change bodyPost _ _ _ _ _ (bT z0 (w.heap.size + 1 + 1) (.int .i64 0) (.int .i64 0) (.int .i64 0) (.int .i64 0) (.string ⟨#[]⟩) (.int .i64 0) (.int .i64 0) (.int .i64 0))
  generalize bT z0 (w.heap.size + 1 + 1) (.int .i64 0) (.int .i64 0) (.int .i64 0) (.int .i64 0) (.string ⟨#[]⟩) (.int .i64 0) (.int .i64 0) (.int .i64 0) = wf at HX cJ ⊢; obtain ⟨e0, e1, e2, e3, e4, e5, e6, e7⟩ := aQ HX.out; exact bodyPost_ret (v := .tuple #[.agg #[.int .i64 0, .int .i64 0, .int .i64 0, .int .i64 0, .string ⟨#[]⟩, .int .i64 0, .int .i64 0, .int .i64 0], (.iface 226 (.pointer (some (E 3))))]) (by simp [results, Tryz.results134, go_sem, e0, e1, e2, e3, e4, e5, e6, e7]) rfl ⟨by rw [HQ.out]; dsimp only; rw [aNE], cJ.out⟩
 ·have J6 : decide (s.level % 2 = 1) = false := decide_eq_false hm
  rw [J6]; have HQ : Hid (oneOf s.level sv 1 item qty = ((⟨0, 0, 0, 1, item, qty, (s.level + 1), 0⟩ : aA), 0)) := by
   show _ = _
   unfold oneOf; rw [if_pos rfl, if_neg hm]
   try rfl
  obtain ⟨HX, cJ⟩ := done w3 (⟨0, 0, 0, 1, item, qty, (s.level + 1), 0⟩ : aA) 0 HQ dR.out; clear done
  dsimp only at HX cJ
  go_wp2
  change bodyPost _ _ _ _ _ (bT w3 (w.heap.size + 1 + 1) (.int .i64 0) (.int .i64 0) (.int .i64 0) (.int .i64 1) (.string item) (.int .i64 qty) (.int .i64 (s.level + 1)) (.int .i64 0))
  generalize bT w3 (w.heap.size + 1 + 1) (.int .i64 0) (.int .i64 0) (.int .i64 0) (.int .i64 1) (.string item) (.int .i64 qty) (.int .i64 (s.level + 1)) (.int .i64 0) = wf at HX cJ ⊢; obtain ⟨e0, e1, e2, e3, e4, e5, e6, e7⟩ := aQ HX.out; exact bodyPost_ret (v := .tuple #[.agg #[.int .i64 0, .int .i64 0, .int .i64 0, .int .i64 1, .string item, .int .i64 qty, .int .i64 (s.level + 1), .int .i64 0], .nilIface]) (by simp [results, Tryz.results134, go_sem, e0, e1, e2, e3, e4, e5, e6, e7]) rfl ⟨by rw [HQ.out]; dsimp only; rw [S9], cJ.out⟩

set_option linter.unusedVariables false
set_option linter.unusedSimpArgs false
theorem aLM (w : World) (B : Nat) (E : Int → Addr) (hE : eZ w B E) (av ao : Option Addr) (nv cv no co : Nat) (xs : List Int) (l : List aA) (kind qty dv sq : Int) (item : ByteArray) (hx : Ints w B av nv xs) (h : bS w B ao no l) (hB : B ≤ w.heap.size) (hv : nv ≤ 1048576) (hc : no ≤ co) (cM : Fits no co) (hi : item.size ≤ 1048576) (s : cW) (hs : s = cC item (counted xs l)) (h0 : 0 ≤ s.level) (h1 : s.level ≤ 1000000) (k1 : ¬ kind = 1) (yE : ¬ s.level % 2 = 1) :
  Calls Tryz.prog 134 #[.agg #[.slice av nv cv, .slice ao no co], .agg #[.int .i64 kind, .string item, .int .i64 qty, .int .i64 dv, .int .i64 sq]] w
   (aAf E (oneOf s.level (decide (s.placed.kind = 4)) kind item qty) w) := by
 have O3 := aRA k1
 have L2 := aRA yE
 clear k1 yE
 have hT := yZ.mk0 w #[.slice av nv cv, .slice ao no co] #[.int .i64 kind, .string item, .int .i64 qty, .int .i64 dv, .int .i64 sq] #[.int .i64 0, .int .i64 0, .int .i64 0, .int .i64 0, .string ⟨#[]⟩, .int .i64 0, .int .i64 0, .int .i64 0]
 have HX := aRA (hx.below hT.bel hB)
 have HO := aRA (h.below hT.bel hB)
 have HE := aRA (hE.below hT.bel hB)
 have HT := aRA hT
 have K4 := hT.bel.size
 have HS := aRA hs
 clear h hx hT hs hE
 obtain ⟨sv, fM⟩ : ∃ sv, sv = decide (s.placed.kind = 4) := ⟨_, rfl⟩
 rw [← fM]
 have oB := aRA fM
 clear fM
 have D6 := pC
 go_enter Tryz.func134, Tryz.ntmps134
 go_upto_region 1 with fail
 generalize ((w.alloc (.cells #[.slice av nv cv, .slice ao no co] 27)).alloc (.cells #[.int .i64 kind, .string item, .int .i64 qty, .int .i64 dv, .int .i64 sq] 29)).alloc (.cells #[.int .i64 0, .int .i64 0, .int .i64 0, .int .i64 0, .string ⟨#[]⟩, .int .i64 0, .int .i64 0, .int .i64 0] 50) = w0 at HX HO HE HT K4 ⊢
 obtain ⟨c0, c1⟩ := pair_cells HT.out.fst
 obtain ⟨d0, d1, d2⟩ := bQ HT.out.snd
 go_wp2_with fail
 refine (uR w0 B av ao nv cv no co xs l item HX.out HO.out (by omega) hv hc cM).mono ?_
 rintro e w1 ⟨rfl, hb⟩
 rw [← HS.out]
 have aZ := aRA (HT.out.next hb)
 have eF := aRA (HE.out.below hb (by omega))
 have fH := hb.size
 clear hb c0 c1 d0 d1 d2 HT HX HO HE
 obtain ⟨d0, d1, d2⟩ := bQ aZ.out.snd
 clear HS
 go_upto_region 2 with (refine wpList_store_rowTo rfl 96 _ _ rfl rfl w1.heap.size s.cells rfl rfl 96 _ (World.alloc_heap_new _ _) (jL s) rfl (oZ s) ?_)
 rw [World.setRow_alloc_new]
 have bD := ((Below.refl w1.heap.size w1).alloc aRC (.cells s.cells 96))
 have bK := aRA bD
 have aM := aRA (aZ.out.next bD)
 have dQ := aRA (eF.out.below bD (by omega))
 have cZ := aRA (World.alloc_heap_new w1 (.cells s.cells 96))
 have eV := bD.size
 clear bD aZ eF d0 d1 d2
 generalize w1.alloc (.cells s.cells 96) = w2 at aM dQ cZ bK eV ⊢
 have lZ : w1.heap.size < w2.heap.size := (aRB cZ.out).1
 generalize w1.heap.size = sb at cZ lZ bK eV fH ⊢
 obtain ⟨d0, d1, d2⟩ := bQ aM.out.snd
 have s0 : w2.cell? ⟨sb, 0, none⟩ = some (.int .i64 s.level) := (aRD cZ.out).trans rfl
 have Z0 := dQ.out.low
 have hlw : IntKind.i64.wrap (s.level + 1) = s.level + 1 := IntWalk.i64_in _ (by omega)
 have done : ∀ (wr : World) (q : aA) (code : Int), Hid (oneOf s.level sv kind item qty = (q, code)) → Below w2.heap.size w2 wr →
   Hid ((bT wr (w.heap.size + 1 + 1) (.int .i64 q.dev) (.int .i64 q.seq) (.int .i64 q.stamp) (.int .i64 q.kind) (.string q.item) (.int .i64 q.qty) (.int .i64 q.level) (.int .i64 q.undos)).heap[w.heap.size + 1 + 1]? = some (.cells #[.int .i64 q.dev, .int .i64 q.seq, .int .i64 q.stamp, .int .i64 q.kind, .string q.item, .int .i64 q.qty, .int .i64 q.level, .int .i64 q.undos] 50 (0, 0))) ∧
   Hid (Below w.heap.size w (bT wr (w.heap.size + 1 + 1) (.int .i64 q.dev) (.int .i64 q.seq) (.int .i64 q.stamp) (.int .i64 q.kind) (.string q.item) (.int .i64 q.qty) (.int .i64 q.level) (.int .i64 q.undos))) := by
  intro wr q code hq hb
  exact ⟨kW _ _ _ _ _ _ _ _ (aM.out.next hb).res, jJ _ _ _ _ _ _ _ _ (aM.out.next hb).bel (by omega)⟩
 have k1 := O3.out
 have k1b : (kind == 1) = false := beq_eq_false_iff_ne.2 k1
 go_wp2_with (refine wpList_load_row rfl 96 _ rfl sb rfl _ s.cells _ _ cZ.out Tryz.underlying96 rfl (jL s) ?_)
 refine (pA s h0 w2).mono ?_
 rintro e w3 ⟨rfl, bB⟩
 dsimp only
 have hm := L2.out
 have J6 : decide (s.level % 2 = 1) = false := decide_eq_false hm
 rw [J6]
 have dR := aRA bB
 have bJ := aRA (aM.out.next bB)
 have iI := aRA ((bB.block _ lZ).trans cZ.out)
 have g2 : w3.cell? ⟨2, 0, none⟩ = some (.iface 226 (.pointer (some (E 2)))) := (dQ.out.below bB (by omega)).cells 2 (by omega) (by omega)
 have g3 : w3.cell? ⟨3, 0, none⟩ = some (.iface 226 (.pointer (some (E 3)))) := (dQ.out.below bB (by omega)).cells 3 (by omega) (by omega)
 clear bB d0 d1 d2 s0
 obtain ⟨d0, d1, d2⟩ := bQ bJ.out.snd
 obtain ⟨r0, r1, r2, r3, r4, r5, r6, r7⟩ := aQ bJ.out.res
 obtain ⟨f0, f1, f2, f3, f4, f5, f6, f7⟩ := dE bJ.out.res
 have s0 : w3.cell? ⟨sb, 0, none⟩ = some (.int .i64 s.level) := (aRD iI.out).trans rfl
 have HQ : Hid (oneOf s.level sv kind item qty = ((⟨0, 0, 0, 0, ⟨#[]⟩, 0, 0, 0⟩ : aA), 2)) := by
  show _ = _
  unfold oneOf; rw [if_neg k1, if_neg hm]
  try rfl
 clear r0 r1 r2 r3 r4 r5 r6 r7 f0 f1 f2 f3 f4 f5 f6 f7
 go_wp2_with fail
 refine wp_region_held_drew (S := fun w' => w'.cell? ⟨2, 0, none⟩ = some (.iface 226 (.pointer (some (E 2))))) (by kernel_rfl) g2 (fun aP => ?_)
 have dG : Hid (Below w2.heap.size w2 w3.drew) := dR.out.trans ⟨rfl, rfl, rfl, Nat.le_refl _, fun _ _ => rfl⟩
 generalize w3.drew = z0 at dG aP ⊢
 have dF := aRA (aM.out.next dG.out)
 obtain ⟨r0, r1, r2, r3, r4, r5, r6, r7⟩ := aQ dF.out.res
 obtain ⟨f0, f1, f2, f3, f4, f5, f6, f7⟩ := dE dF.out.res
 refine tj 0 ?_
 refine tj 1 ?_
 refine rk 2 rfl (fun K hK => ?_)
 go_simp
 refine hK.out _ _ ((World.cell?_of_block (a := ⟨2, 0, none⟩) (tX (w := z0) (b := w.heap.size + 1 + 1) (k := 2) (.int .i64 0) (.int .i64 0) (.int .i64 0) (.int .i64 0) (.string ⟨#[]⟩) (.int .i64 0) (.int .i64 0) (.int .i64 0) (by omega))).trans aP) (fun bZ => ?_)
 clear hK K
 (try simp only [Act.put, u1, u2, u3])
 refine tj 3 ?_
 refine wpAnyH_done (by kernel_rfl) ?_ _
 obtain ⟨HX, cJ⟩ := done z0 (⟨0, 0, 0, 0, ⟨#[]⟩, 0, 0, 0⟩ : aA) 2 HQ dG.out
 clear done
 dsimp only at HX cJ
 go_wp2
 change bodyPost _ _ _ _ _ (bT z0 (w.heap.size + 1 + 1) (.int .i64 0) (.int .i64 0) (.int .i64 0) (.int .i64 0) (.string ⟨#[]⟩) (.int .i64 0) (.int .i64 0) (.int .i64 0))
 generalize bT z0 (w.heap.size + 1 + 1) (.int .i64 0) (.int .i64 0) (.int .i64 0) (.int .i64 0) (.string ⟨#[]⟩) (.int .i64 0) (.int .i64 0) (.int .i64 0) = wf at HX cJ ⊢
 obtain ⟨e0, e1, e2, e3, e4, e5, e6, e7⟩ := aQ HX.out
 exact bodyPost_ret (v := .tuple #[.agg #[.int .i64 0, .int .i64 0, .int .i64 0, .int .i64 0, .string ⟨#[]⟩, .int .i64 0, .int .i64 0, .int .i64 0], (.iface 226 (.pointer (some (E 2))))]) (by simp [results, Tryz.results134, go_sem, e0, e1, e2, e3, e4, e5, e6, e7]) rfl ⟨by rw [HQ.out]; dsimp only; rw [S7], cJ.out⟩

theorem aLS (w : World) (B : Nat) (E : Int → Addr) (hE : eZ w B E) (av ao : Option Addr) (nv cv no co : Nat) (xs : List Int) (l : List aA) (kind qty dv sq : Int) (item : ByteArray) (hx : Ints w B av nv xs) (h : bS w B ao no l) (hB : B ≤ w.heap.size) (hv : nv ≤ 1048576) (hc : no ≤ co) (cM : Fits no co) (hi : item.size ≤ 1048576) (s : cW) (hs : s = cC item (counted xs l)) (h0 : 0 ≤ s.level) (h1 : s.level ≤ 1000000) (k1 : ¬ kind = 1) (yE : s.level % 2 = 1) (e : kind = 2) :
  Calls Tryz.prog 134 #[.agg #[.slice av nv cv, .slice ao no co], .agg #[.int .i64 kind, .string item, .int .i64 qty, .int .i64 dv, .int .i64 sq]] w
   (aAf E (oneOf s.level (decide (s.placed.kind = 4)) kind item qty) w) := by
 have O3 := aRA k1
 have L2 := aRA yE
 have Ye := aRA e
 clear k1 yE e
 have hT := yZ.mk0 w #[.slice av nv cv, .slice ao no co] #[.int .i64 kind, .string item, .int .i64 qty, .int .i64 dv, .int .i64 sq] #[.int .i64 0, .int .i64 0, .int .i64 0, .int .i64 0, .string ⟨#[]⟩, .int .i64 0, .int .i64 0, .int .i64 0]
 have HX := aRA (hx.below hT.bel hB)
 have HO := aRA (h.below hT.bel hB)
 have HE := aRA (hE.below hT.bel hB)
 have HT := aRA hT
 have K4 := hT.bel.size
 have HS := aRA hs
 clear h hx hT hs hE
 obtain ⟨sv, fM⟩ : ∃ sv, sv = decide (s.placed.kind = 4) := ⟨_, rfl⟩
 rw [← fM]
 have oB := aRA fM
 clear fM
 have D6 := pC
 go_enter Tryz.func134, Tryz.ntmps134
 go_upto_region 1 with fail
 generalize ((w.alloc (.cells #[.slice av nv cv, .slice ao no co] 27)).alloc (.cells #[.int .i64 kind, .string item, .int .i64 qty, .int .i64 dv, .int .i64 sq] 29)).alloc (.cells #[.int .i64 0, .int .i64 0, .int .i64 0, .int .i64 0, .string ⟨#[]⟩, .int .i64 0, .int .i64 0, .int .i64 0] 50) = w0 at HX HO HE HT K4 ⊢
 obtain ⟨c0, c1⟩ := pair_cells HT.out.fst
 obtain ⟨d0, d1, d2⟩ := bQ HT.out.snd
 go_wp2_with fail
 refine (uR w0 B av ao nv cv no co xs l item HX.out HO.out (by omega) hv hc cM).mono ?_
 rintro e w1 ⟨rfl, hb⟩
 rw [← HS.out]
 have aZ := aRA (HT.out.next hb)
 have eF := aRA (HE.out.below hb (by omega))
 have fH := hb.size
 clear hb c0 c1 d0 d1 d2 HT HX HO HE
 obtain ⟨d0, d1, d2⟩ := bQ aZ.out.snd
 clear HS
 go_upto_region 2 with (refine wpList_store_rowTo rfl 96 _ _ rfl rfl w1.heap.size s.cells rfl rfl 96 _ (World.alloc_heap_new _ _) (jL s) rfl (oZ s) ?_)
 rw [World.setRow_alloc_new]
 have bD := ((Below.refl w1.heap.size w1).alloc aRC (.cells s.cells 96))
 have bK := aRA bD
 have aM := aRA (aZ.out.next bD)
 have dQ := aRA (eF.out.below bD (by omega))
 have cZ := aRA (World.alloc_heap_new w1 (.cells s.cells 96))
 have eV := bD.size
 clear bD aZ eF d0 d1 d2
 generalize w1.alloc (.cells s.cells 96) = w2 at aM dQ cZ bK eV ⊢
 have lZ : w1.heap.size < w2.heap.size := (aRB cZ.out).1
 generalize w1.heap.size = sb at cZ lZ bK eV fH ⊢
 obtain ⟨d0, d1, d2⟩ := bQ aM.out.snd
 have s0 : w2.cell? ⟨sb, 0, none⟩ = some (.int .i64 s.level) := (aRD cZ.out).trans rfl
 have Z0 := dQ.out.low
 have hlw : IntKind.i64.wrap (s.level + 1) = s.level + 1 := IntWalk.i64_in _ (by omega)
 have done : ∀ (wr : World) (q : aA) (code : Int), Hid (oneOf s.level sv kind item qty = (q, code)) → Below w2.heap.size w2 wr →
   Hid ((bT wr (w.heap.size + 1 + 1) (.int .i64 q.dev) (.int .i64 q.seq) (.int .i64 q.stamp) (.int .i64 q.kind) (.string q.item) (.int .i64 q.qty) (.int .i64 q.level) (.int .i64 q.undos)).heap[w.heap.size + 1 + 1]? = some (.cells #[.int .i64 q.dev, .int .i64 q.seq, .int .i64 q.stamp, .int .i64 q.kind, .string q.item, .int .i64 q.qty, .int .i64 q.level, .int .i64 q.undos] 50 (0, 0))) ∧
   Hid (Below w.heap.size w (bT wr (w.heap.size + 1 + 1) (.int .i64 q.dev) (.int .i64 q.seq) (.int .i64 q.stamp) (.int .i64 q.kind) (.string q.item) (.int .i64 q.qty) (.int .i64 q.level) (.int .i64 q.undos))) := by
  intro wr q code hq hb
  exact ⟨kW _ _ _ _ _ _ _ _ (aM.out.next hb).res, jJ _ _ _ _ _ _ _ _ (aM.out.next hb).bel (by omega)⟩
 have k1 := O3.out
 have k1b : (kind == 1) = false := beq_eq_false_iff_ne.2 k1
 go_wp2_with (refine wpList_load_row rfl 96 _ rfl sb rfl _ s.cells _ _ cZ.out Tryz.underlying96 rfl (jL s) ?_)
 refine (pA s h0 w2).mono ?_
 rintro e w3 ⟨rfl, bB⟩
 dsimp only
 have hm := L2.out
 have J6 : decide (s.level % 2 = 1) = true := decide_eq_true hm
 rw [J6]
 have bJ := aRA (aM.out.next bB)
 have iI := aRA ((bB.block _ lZ).trans cZ.out)
 have dR := aRA bB
 clear bB d0 d1 d2 s0
 obtain ⟨d0, d1, d2⟩ := bQ bJ.out.snd
 have s0 : w3.cell? ⟨sb, 0, none⟩ = some (.int .i64 s.level) := (aRD iI.out).trans rfl
 have N6 : zH s = sv := by
  rw [oB.out]; exact if_pos hm
 go_wp2_with (refine wpList_load_row rfl 96 _ rfl sb rfl _ s.cells _ _ iI.out Tryz.underlying96 rfl (jL s) ?_)
 refine (aAy s item h0 hi w3).mono ?_
 rintro e w4 ⟨rfl, dY⟩
 rw [N6]
 generalize F0 _ _ = li
 generalize zI _ = lq
 have bE : Below w2.heap.size w2 w4 := dR.out.trans (dY.mono dR.out.size)
 clear dY bJ iI dR N6
 have dR := aRA bE
 have bJ := aRA (aM.out.next bE)
 have iI := aRA ((bE.block _ lZ).trans cZ.out)
 have g2 : w4.cell? ⟨2, 0, none⟩ = some (.iface 226 (.pointer (some (E 2)))) := (dQ.out.below bE (by omega)).cells 2 (by omega) (by omega)
 have g3 : w4.cell? ⟨3, 0, none⟩ = some (.iface 226 (.pointer (some (E 3)))) := (dQ.out.below bE (by omega)).cells 3 (by omega) (by omega)
 clear bE d0 d1 d2 s0
 obtain ⟨d0, d1, d2⟩ := bQ bJ.out.snd
 obtain ⟨r0, r1, r2, r3, r4, r5, r6, r7⟩ := aQ bJ.out.res
 obtain ⟨f0, f1, f2, f3, f4, f5, f6, f7⟩ := dE bJ.out.res
 have s0 : w4.cell? ⟨sb, 0, none⟩ = some (.int .i64 s.level) := (aRD iI.out).trans rfl
 have e := Ye.out
 clear Ye
 subst e
 have HQ : Hid (oneOf s.level sv 2 item qty = ((⟨0, 0, 0, 2, item, qty, 0, 0⟩ : aA), 0)) := by
  show _ = _
  unfold oneOf; rw [if_neg k1, if_pos hm, if_pos rfl]
  try rfl
 obtain ⟨HX, cJ⟩ := done w4 (⟨0, 0, 0, 2, item, qty, 0, 0⟩ : aA) 0 HQ dR.out
 clear done
 dsimp only at HX cJ
 go_wp2
 change bodyPost _ _ _ _ _ (bT w4 (w.heap.size + 1 + 1) (.int .i64 0) (.int .i64 0) (.int .i64 0) (.int .i64 2) (.string item) (.int .i64 qty) (.int .i64 0) (.int .i64 0))
 generalize bT w4 (w.heap.size + 1 + 1) (.int .i64 0) (.int .i64 0) (.int .i64 0) (.int .i64 2) (.string item) (.int .i64 qty) (.int .i64 0) (.int .i64 0) = wf at HX cJ ⊢
 obtain ⟨e0, e1, e2, e3, e4, e5, e6, e7⟩ := aQ HX.out
 exact bodyPost_ret (v := .tuple #[.agg #[.int .i64 0, .int .i64 0, .int .i64 0, .int .i64 2, .string item, .int .i64 qty, .int .i64 0, .int .i64 0], .nilIface]) (by simp [results, Tryz.results134, go_sem, e0, e1, e2, e3, e4, e5, e6, e7]) rfl ⟨by rw [HQ.out]; dsimp only; rw [S9], cJ.out⟩

set_option linter.unusedVariables false
set_option linter.unusedSimpArgs false
theorem aLR (w : World) (B : Nat) (E : Int → Addr) (hE : eZ w B E) (av ao : Option Addr) (nv cv no co : Nat) (xs : List Int) (l : List aA) (kind qty dv sq : Int) (item : ByteArray) (hx : Ints w B av nv xs) (h : bS w B ao no l) (hB : B ≤ w.heap.size) (hv : nv ≤ 1048576) (hc : no ≤ co) (cM : Fits no co) (hi : item.size ≤ 1048576) (s : cW) (hs : s = cC item (counted xs l)) (h0 : 0 ≤ s.level) (h1 : s.level ≤ 1000000) (k1 : ¬ kind = 1) (yE : s.level % 2 = 1) (k2 : ¬ kind = 2) (e : kind = 3) :
  Calls Tryz.prog 134 #[.agg #[.slice av nv cv, .slice ao no co], .agg #[.int .i64 kind, .string item, .int .i64 qty, .int .i64 dv, .int .i64 sq]] w
   (aAf E (oneOf s.level (decide (s.placed.kind = 4)) kind item qty) w) := by
 have O3 := aRA k1
 have L2 := aRA yE
 have Yk2 := aRA k2
 have Ye := aRA e
 clear k1 yE k2 e
 have hT := yZ.mk0 w #[.slice av nv cv, .slice ao no co] #[.int .i64 kind, .string item, .int .i64 qty, .int .i64 dv, .int .i64 sq] #[.int .i64 0, .int .i64 0, .int .i64 0, .int .i64 0, .string ⟨#[]⟩, .int .i64 0, .int .i64 0, .int .i64 0]
 have HX := aRA (hx.below hT.bel hB)
 have HO := aRA (h.below hT.bel hB)
 have HE := aRA (hE.below hT.bel hB)
 have HT := aRA hT
 have K4 := hT.bel.size
 have HS := aRA hs
 clear h hx hT hs hE
 obtain ⟨sv, fM⟩ : ∃ sv, sv = decide (s.placed.kind = 4) := ⟨_, rfl⟩
 rw [← fM]
 have oB := aRA fM
 clear fM
 have D6 := pC
 go_enter Tryz.func134, Tryz.ntmps134
 go_upto_region 1 with fail
 generalize ((w.alloc (.cells #[.slice av nv cv, .slice ao no co] 27)).alloc (.cells #[.int .i64 kind, .string item, .int .i64 qty, .int .i64 dv, .int .i64 sq] 29)).alloc (.cells #[.int .i64 0, .int .i64 0, .int .i64 0, .int .i64 0, .string ⟨#[]⟩, .int .i64 0, .int .i64 0, .int .i64 0] 50) = w0 at HX HO HE HT K4 ⊢
 obtain ⟨c0, c1⟩ := pair_cells HT.out.fst
 obtain ⟨d0, d1, d2⟩ := bQ HT.out.snd
 go_wp2_with fail
 refine (uR w0 B av ao nv cv no co xs l item HX.out HO.out (by omega) hv hc cM).mono ?_
 rintro e w1 ⟨rfl, hb⟩
 rw [← HS.out]
 have aZ := aRA (HT.out.next hb)
 have eF := aRA (HE.out.below hb (by omega))
 have fH := hb.size
 clear hb c0 c1 d0 d1 d2 HT HX HO HE
 obtain ⟨d0, d1, d2⟩ := bQ aZ.out.snd
 clear HS
 go_upto_region 2 with (refine wpList_store_rowTo rfl 96 _ _ rfl rfl w1.heap.size s.cells rfl rfl 96 _ (World.alloc_heap_new _ _) (jL s) rfl (oZ s) ?_)
 rw [World.setRow_alloc_new]
 have bD := ((Below.refl w1.heap.size w1).alloc aRC (.cells s.cells 96))
 have bK := aRA bD
 have aM := aRA (aZ.out.next bD)
 have dQ := aRA (eF.out.below bD (by omega))
 have cZ := aRA (World.alloc_heap_new w1 (.cells s.cells 96))
 have eV := bD.size
 clear bD aZ eF d0 d1 d2
 generalize w1.alloc (.cells s.cells 96) = w2 at aM dQ cZ bK eV ⊢
 have lZ : w1.heap.size < w2.heap.size := (aRB cZ.out).1
 generalize w1.heap.size = sb at cZ lZ bK eV fH ⊢
 obtain ⟨d0, d1, d2⟩ := bQ aM.out.snd
 have s0 : w2.cell? ⟨sb, 0, none⟩ = some (.int .i64 s.level) := (aRD cZ.out).trans rfl
 have Z0 := dQ.out.low
 have hlw : IntKind.i64.wrap (s.level + 1) = s.level + 1 := IntWalk.i64_in _ (by omega)
 have done : ∀ (wr : World) (q : aA) (code : Int), Hid (oneOf s.level sv kind item qty = (q, code)) → Below w2.heap.size w2 wr →
   Hid ((bT wr (w.heap.size + 1 + 1) (.int .i64 q.dev) (.int .i64 q.seq) (.int .i64 q.stamp) (.int .i64 q.kind) (.string q.item) (.int .i64 q.qty) (.int .i64 q.level) (.int .i64 q.undos)).heap[w.heap.size + 1 + 1]? = some (.cells #[.int .i64 q.dev, .int .i64 q.seq, .int .i64 q.stamp, .int .i64 q.kind, .string q.item, .int .i64 q.qty, .int .i64 q.level, .int .i64 q.undos] 50 (0, 0))) ∧
   Hid (Below w.heap.size w (bT wr (w.heap.size + 1 + 1) (.int .i64 q.dev) (.int .i64 q.seq) (.int .i64 q.stamp) (.int .i64 q.kind) (.string q.item) (.int .i64 q.qty) (.int .i64 q.level) (.int .i64 q.undos))) := by
  intro wr q code hq hb
  exact ⟨kW _ _ _ _ _ _ _ _ (aM.out.next hb).res, jJ _ _ _ _ _ _ _ _ (aM.out.next hb).bel (by omega)⟩
 have k1 := O3.out
 have k1b : (kind == 1) = false := beq_eq_false_iff_ne.2 k1
 go_wp2_with (refine wpList_load_row rfl 96 _ rfl sb rfl _ s.cells _ _ cZ.out Tryz.underlying96 rfl (jL s) ?_)
 refine (pA s h0 w2).mono ?_
 rintro e w3 ⟨rfl, bB⟩
 dsimp only
 have hm := L2.out
 have J6 : decide (s.level % 2 = 1) = true := decide_eq_true hm
 rw [J6]
 have bJ := aRA (aM.out.next bB)
 have iI := aRA ((bB.block _ lZ).trans cZ.out)
 have dR := aRA bB
 clear bB d0 d1 d2 s0
 obtain ⟨d0, d1, d2⟩ := bQ bJ.out.snd
 have s0 : w3.cell? ⟨sb, 0, none⟩ = some (.int .i64 s.level) := (aRD iI.out).trans rfl
 have N6 : zH s = sv := by
  rw [oB.out]; exact if_pos hm
 go_wp2_with (refine wpList_load_row rfl 96 _ rfl sb rfl _ s.cells _ _ iI.out Tryz.underlying96 rfl (jL s) ?_)
 refine (aAy s item h0 hi w3).mono ?_
 rintro e w4 ⟨rfl, dY⟩
 rw [N6]
 generalize F0 _ _ = li
 generalize zI _ = lq
 have bE : Below w2.heap.size w2 w4 := dR.out.trans (dY.mono dR.out.size)
 clear dY bJ iI dR N6
 have dR := aRA bE
 have bJ := aRA (aM.out.next bE)
 have iI := aRA ((bE.block _ lZ).trans cZ.out)
 have g2 : w4.cell? ⟨2, 0, none⟩ = some (.iface 226 (.pointer (some (E 2)))) := (dQ.out.below bE (by omega)).cells 2 (by omega) (by omega)
 have g3 : w4.cell? ⟨3, 0, none⟩ = some (.iface 226 (.pointer (some (E 3)))) := (dQ.out.below bE (by omega)).cells 3 (by omega) (by omega)
 clear bE d0 d1 d2 s0
 obtain ⟨d0, d1, d2⟩ := bQ bJ.out.snd
 obtain ⟨r0, r1, r2, r3, r4, r5, r6, r7⟩ := aQ bJ.out.res
 obtain ⟨f0, f1, f2, f3, f4, f5, f6, f7⟩ := dE bJ.out.res
 have s0 : w4.cell? ⟨sb, 0, none⟩ = some (.int .i64 s.level) := (aRD iI.out).trans rfl
 have k2 := Yk2.out
 have k2b : (kind == 2) = false := beq_eq_false_iff_ne.2 k2
 have e := Ye.out
 clear Ye
 subst e
 have HQ : Hid (oneOf s.level sv 3 item qty = ((⟨0, 0, 0, 3, item, 0, (s.level + 1), 0⟩ : aA), 0)) := by
  show _ = _
  unfold oneOf; rw [if_neg k1, if_pos hm, if_neg k2, if_pos rfl]
  try rfl
 obtain ⟨HX, cJ⟩ := done w4 (⟨0, 0, 0, 3, item, 0, (s.level + 1), 0⟩ : aA) 0 HQ dR.out
 clear done
 dsimp only at HX cJ
 go_wp2
 change bodyPost _ _ _ _ _ (bT w4 (w.heap.size + 1 + 1) (.int .i64 0) (.int .i64 0) (.int .i64 0) (.int .i64 3) (.string item) (.int .i64 0) (.int .i64 (s.level + 1)) (.int .i64 0))
 generalize bT w4 (w.heap.size + 1 + 1) (.int .i64 0) (.int .i64 0) (.int .i64 0) (.int .i64 3) (.string item) (.int .i64 0) (.int .i64 (s.level + 1)) (.int .i64 0) = wf at HX cJ ⊢
 obtain ⟨e0, e1, e2, e3, e4, e5, e6, e7⟩ := aQ HX.out
 exact bodyPost_ret (v := .tuple #[.agg #[.int .i64 0, .int .i64 0, .int .i64 0, .int .i64 3, .string item, .int .i64 0, .int .i64 (s.level + 1), .int .i64 0], .nilIface]) (by simp [results, Tryz.results134, go_sem, e0, e1, e2, e3, e4, e5, e6, e7]) rfl ⟨by rw [HQ.out]; dsimp only; rw [S9], cJ.out⟩

theorem aLQ (w : World) (B : Nat) (E : Int → Addr) (hE : eZ w B E) (av ao : Option Addr) (nv cv no co : Nat) (xs : List Int) (l : List aA) (kind qty dv sq : Int) (item : ByteArray) (hx : Ints w B av nv xs) (h : bS w B ao no l) (hB : B ≤ w.heap.size) (hv : nv ≤ 1048576) (hc : no ≤ co) (cM : Fits no co) (hi : item.size ≤ 1048576) (s : cW) (hs : s = cC item (counted xs l)) (h0 : 0 ≤ s.level) (h1 : s.level ≤ 1000000) (k1 : ¬ kind = 1) (yE : s.level % 2 = 1) (k2 : ¬ kind = 2) (k3 : ¬ kind = 3) (e : kind = 4) :
  Calls Tryz.prog 134 #[.agg #[.slice av nv cv, .slice ao no co], .agg #[.int .i64 kind, .string item, .int .i64 qty, .int .i64 dv, .int .i64 sq]] w
   (aAf E (oneOf s.level (decide (s.placed.kind = 4)) kind item qty) w) := by
 have O3 := aRA k1
 have L2 := aRA yE
 have Yk2 := aRA k2
 have Yk3 := aRA k3
 have Ye := aRA e
 clear k1 yE k2 k3 e
 have hT := yZ.mk0 w #[.slice av nv cv, .slice ao no co] #[.int .i64 kind, .string item, .int .i64 qty, .int .i64 dv, .int .i64 sq] #[.int .i64 0, .int .i64 0, .int .i64 0, .int .i64 0, .string ⟨#[]⟩, .int .i64 0, .int .i64 0, .int .i64 0]
 have HX := aRA (hx.below hT.bel hB)
 have HO := aRA (h.below hT.bel hB)
 have HE := aRA (hE.below hT.bel hB)
 have HT := aRA hT
 have K4 := hT.bel.size
 have HS := aRA hs
 clear h hx hT hs hE
 obtain ⟨sv, fM⟩ : ∃ sv, sv = decide (s.placed.kind = 4) := ⟨_, rfl⟩
 rw [← fM]
 have oB := aRA fM
 clear fM
 have D6 := pC
 go_enter Tryz.func134, Tryz.ntmps134
 go_upto_region 1 with fail
 generalize ((w.alloc (.cells #[.slice av nv cv, .slice ao no co] 27)).alloc (.cells #[.int .i64 kind, .string item, .int .i64 qty, .int .i64 dv, .int .i64 sq] 29)).alloc (.cells #[.int .i64 0, .int .i64 0, .int .i64 0, .int .i64 0, .string ⟨#[]⟩, .int .i64 0, .int .i64 0, .int .i64 0] 50) = w0 at HX HO HE HT K4 ⊢
 obtain ⟨c0, c1⟩ := pair_cells HT.out.fst
 obtain ⟨d0, d1, d2⟩ := bQ HT.out.snd
 go_wp2_with fail
 refine (uR w0 B av ao nv cv no co xs l item HX.out HO.out (by omega) hv hc cM).mono ?_
 rintro e w1 ⟨rfl, hb⟩
 rw [← HS.out]
 have aZ := aRA (HT.out.next hb)
 have eF := aRA (HE.out.below hb (by omega))
 have fH := hb.size
 clear hb c0 c1 d0 d1 d2 HT HX HO HE
 obtain ⟨d0, d1, d2⟩ := bQ aZ.out.snd
 clear HS
 go_upto_region 2 with (refine wpList_store_rowTo rfl 96 _ _ rfl rfl w1.heap.size s.cells rfl rfl 96 _ (World.alloc_heap_new _ _) (jL s) rfl (oZ s) ?_)
 rw [World.setRow_alloc_new]
 have bD := ((Below.refl w1.heap.size w1).alloc aRC (.cells s.cells 96))
 have bK := aRA bD
 have aM := aRA (aZ.out.next bD)
 have dQ := aRA (eF.out.below bD (by omega))
 have cZ := aRA (World.alloc_heap_new w1 (.cells s.cells 96))
 have eV := bD.size
 clear bD aZ eF d0 d1 d2
 generalize w1.alloc (.cells s.cells 96) = w2 at aM dQ cZ bK eV ⊢
 have lZ : w1.heap.size < w2.heap.size := (aRB cZ.out).1
 generalize w1.heap.size = sb at cZ lZ bK eV fH ⊢
 obtain ⟨d0, d1, d2⟩ := bQ aM.out.snd
 have s0 : w2.cell? ⟨sb, 0, none⟩ = some (.int .i64 s.level) := (aRD cZ.out).trans rfl
 have Z0 := dQ.out.low
 have hlw : IntKind.i64.wrap (s.level + 1) = s.level + 1 := IntWalk.i64_in _ (by omega)
 have done : ∀ (wr : World) (q : aA) (code : Int), Hid (oneOf s.level sv kind item qty = (q, code)) → Below w2.heap.size w2 wr →
   Hid ((bT wr (w.heap.size + 1 + 1) (.int .i64 q.dev) (.int .i64 q.seq) (.int .i64 q.stamp) (.int .i64 q.kind) (.string q.item) (.int .i64 q.qty) (.int .i64 q.level) (.int .i64 q.undos)).heap[w.heap.size + 1 + 1]? = some (.cells #[.int .i64 q.dev, .int .i64 q.seq, .int .i64 q.stamp, .int .i64 q.kind, .string q.item, .int .i64 q.qty, .int .i64 q.level, .int .i64 q.undos] 50 (0, 0))) ∧
   Hid (Below w.heap.size w (bT wr (w.heap.size + 1 + 1) (.int .i64 q.dev) (.int .i64 q.seq) (.int .i64 q.stamp) (.int .i64 q.kind) (.string q.item) (.int .i64 q.qty) (.int .i64 q.level) (.int .i64 q.undos))) := by
  intro wr q code hq hb
  exact ⟨kW _ _ _ _ _ _ _ _ (aM.out.next hb).res, jJ _ _ _ _ _ _ _ _ (aM.out.next hb).bel (by omega)⟩
 have k1 := O3.out
 have k1b : (kind == 1) = false := beq_eq_false_iff_ne.2 k1
 go_wp2_with (refine wpList_load_row rfl 96 _ rfl sb rfl _ s.cells _ _ cZ.out Tryz.underlying96 rfl (jL s) ?_)
 refine (pA s h0 w2).mono ?_
 rintro e w3 ⟨rfl, bB⟩
 dsimp only
 have hm := L2.out
 have J6 : decide (s.level % 2 = 1) = true := decide_eq_true hm
 rw [J6]
 have bJ := aRA (aM.out.next bB)
 have iI := aRA ((bB.block _ lZ).trans cZ.out)
 have dR := aRA bB
 clear bB d0 d1 d2 s0
 obtain ⟨d0, d1, d2⟩ := bQ bJ.out.snd
 have s0 : w3.cell? ⟨sb, 0, none⟩ = some (.int .i64 s.level) := (aRD iI.out).trans rfl
 have N6 : zH s = sv := by
  rw [oB.out]; exact if_pos hm
 go_wp2_with (refine wpList_load_row rfl 96 _ rfl sb rfl _ s.cells _ _ iI.out Tryz.underlying96 rfl (jL s) ?_)
 refine (aAy s item h0 hi w3).mono ?_
 rintro e w4 ⟨rfl, dY⟩
 rw [N6]
 generalize F0 _ _ = li
 generalize zI _ = lq
 have bE : Below w2.heap.size w2 w4 := dR.out.trans (dY.mono dR.out.size)
 clear dY bJ iI dR N6
 have dR := aRA bE
 have bJ := aRA (aM.out.next bE)
 have iI := aRA ((bE.block _ lZ).trans cZ.out)
 have g2 : w4.cell? ⟨2, 0, none⟩ = some (.iface 226 (.pointer (some (E 2)))) := (dQ.out.below bE (by omega)).cells 2 (by omega) (by omega)
 have g3 : w4.cell? ⟨3, 0, none⟩ = some (.iface 226 (.pointer (some (E 3)))) := (dQ.out.below bE (by omega)).cells 3 (by omega) (by omega)
 clear bE d0 d1 d2 s0
 obtain ⟨d0, d1, d2⟩ := bQ bJ.out.snd
 obtain ⟨r0, r1, r2, r3, r4, r5, r6, r7⟩ := aQ bJ.out.res
 obtain ⟨f0, f1, f2, f3, f4, f5, f6, f7⟩ := dE bJ.out.res
 have s0 : w4.cell? ⟨sb, 0, none⟩ = some (.int .i64 s.level) := (aRD iI.out).trans rfl
 have k2 := Yk2.out
 have k2b : (kind == 2) = false := beq_eq_false_iff_ne.2 k2
 have k3 := Yk3.out
 have k3b : (kind == 3) = false := beq_eq_false_iff_ne.2 k3
 have e := Ye.out
 clear Ye
 subst e
 cases sv
 ·
  have HQ : Hid (oneOf s.level false 4 item qty = ((⟨0, 0, 0, 4, item, 0, 0, 0⟩ : aA), 0)) := by
   show _ = _
   unfold oneOf; rw [if_neg k1, if_pos hm, if_neg k2, if_neg k3, if_pos rfl]
   try rfl
  obtain ⟨HX, cJ⟩ := done w4 (⟨0, 0, 0, 4, item, 0, 0, 0⟩ : aA) 0 HQ dR.out; clear done
  dsimp only at HX cJ
  go_wp2
  change bodyPost _ _ _ _ _ (bT w4 (w.heap.size + 1 + 1) (.int .i64 0) (.int .i64 0) (.int .i64 0) (.int .i64 4) (.string item) (.int .i64 0) (.int .i64 0) (.int .i64 0))
  generalize bT w4 (w.heap.size + 1 + 1) (.int .i64 0) (.int .i64 0) (.int .i64 0) (.int .i64 4) (.string item) (.int .i64 0) (.int .i64 0) (.int .i64 0) = wf at HX cJ ⊢; obtain ⟨e0, e1, e2, e3, e4, e5, e6, e7⟩ := aQ HX.out; exact bodyPost_ret (v := .tuple #[.agg #[.int .i64 0, .int .i64 0, .int .i64 0, .int .i64 4, .string item, .int .i64 0, .int .i64 0, .int .i64 0], .nilIface]) (by simp [results, Tryz.results134, go_sem, e0, e1, e2, e3, e4, e5, e6, e7]) rfl ⟨by rw [HQ.out]; dsimp only; rw [S9], cJ.out⟩
 ·
  have HQ : Hid (oneOf s.level true 4 item qty = ((⟨0, 0, 0, 0, ⟨#[]⟩, 0, 0, 0⟩ : aA), 2)) := by
   show _ = _
   unfold oneOf; rw [if_neg k1, if_pos hm, if_neg k2, if_neg k3, if_pos rfl]
   try rfl
  clear r0 r1 r2 r3 r4 r5 r6 r7 f0 f1 f2 f3 f4 f5 f6 f7
  go_wp2_with fail
  refine wp_region_held_drew (S := fun w' => w'.cell? ⟨2, 0, none⟩ = some (.iface 226 (.pointer (some (E 2))))) (by kernel_rfl) g2 (fun aP => ?_)
  have dG : Hid (Below w2.heap.size w2 w4.drew) := dR.out.trans ⟨rfl, rfl, rfl, Nat.le_refl _, fun _ _ => rfl⟩
  generalize w4.drew = z0 at dG aP ⊢; have dF := aRA (aM.out.next dG.out); obtain ⟨r0, r1, r2, r3, r4, r5, r6, r7⟩ := aQ dF.out.res; obtain ⟨f0, f1, f2, f3, f4, f5, f6, f7⟩ := dE dF.out.res; refine tj 0 ?_
  refine tj 1 ?_
  refine rk 2 rfl (fun K hK => ?_)
  go_simp
  refine hK.out _ _ ((World.cell?_of_block (a := ⟨2, 0, none⟩) (tX (w := z0) (b := w.heap.size + 1 + 1) (k := 2) (.int .i64 0) (.int .i64 0) (.int .i64 0) (.int .i64 0) (.string ⟨#[]⟩) (.int .i64 0) (.int .i64 0) (.int .i64 0) (by omega))).trans aP) (fun bZ => ?_)
  clear hK K
  (try simp only [Act.put, u1, u2, u3])
  refine tj 3 ?_
  refine wpAnyH_done (by kernel_rfl) ?_ _
  obtain ⟨HX, cJ⟩ := done z0 (⟨0, 0, 0, 0, ⟨#[]⟩, 0, 0, 0⟩ : aA) 2 HQ dG.out; clear done
  dsimp only at HX cJ
  go_wp2
  change bodyPost _ _ _ _ _ (bT z0 (w.heap.size + 1 + 1) (.int .i64 0) (.int .i64 0) (.int .i64 0) (.int .i64 0) (.string ⟨#[]⟩) (.int .i64 0) (.int .i64 0) (.int .i64 0))
  generalize bT z0 (w.heap.size + 1 + 1) (.int .i64 0) (.int .i64 0) (.int .i64 0) (.int .i64 0) (.string ⟨#[]⟩) (.int .i64 0) (.int .i64 0) (.int .i64 0) = wf at HX cJ ⊢; obtain ⟨e0, e1, e2, e3, e4, e5, e6, e7⟩ := aQ HX.out; exact bodyPost_ret (v := .tuple #[.agg #[.int .i64 0, .int .i64 0, .int .i64 0, .int .i64 0, .string ⟨#[]⟩, .int .i64 0, .int .i64 0, .int .i64 0], (.iface 226 (.pointer (some (E 2))))]) (by simp [results, Tryz.results134, go_sem, e0, e1, e2, e3, e4, e5, e6, e7]) rfl ⟨by rw [HQ.out]; dsimp only; rw [S7], cJ.out⟩

set_option linter.unusedVariables false
set_option linter.unusedSimpArgs false
theorem aLP (w : World) (B : Nat) (E : Int → Addr) (hE : eZ w B E) (av ao : Option Addr) (nv cv no co : Nat) (xs : List Int) (l : List aA) (kind qty dv sq : Int) (item : ByteArray) (hx : Ints w B av nv xs) (h : bS w B ao no l) (hB : B ≤ w.heap.size) (hv : nv ≤ 1048576) (hc : no ≤ co) (cM : Fits no co) (hi : item.size ≤ 1048576) (s : cW) (hs : s = cC item (counted xs l)) (h0 : 0 ≤ s.level) (h1 : s.level ≤ 1000000) (k1 : ¬ kind = 1) (yE : s.level % 2 = 1) (k2 : ¬ kind = 2) (k3 : ¬ kind = 3) (k4 : ¬ kind = 4) (e : kind = 5) :
  Calls Tryz.prog 134 #[.agg #[.slice av nv cv, .slice ao no co], .agg #[.int .i64 kind, .string item, .int .i64 qty, .int .i64 dv, .int .i64 sq]] w
   (aAf E (oneOf s.level (decide (s.placed.kind = 4)) kind item qty) w) := by
 have O3 := aRA k1
 have L2 := aRA yE
 have Yk2 := aRA k2
 have Yk3 := aRA k3
 have Yk4 := aRA k4
 have Ye := aRA e
 clear k1 yE k2 k3 k4 e
 have hT := yZ.mk0 w #[.slice av nv cv, .slice ao no co] #[.int .i64 kind, .string item, .int .i64 qty, .int .i64 dv, .int .i64 sq] #[.int .i64 0, .int .i64 0, .int .i64 0, .int .i64 0, .string ⟨#[]⟩, .int .i64 0, .int .i64 0, .int .i64 0]
 have HX := aRA (hx.below hT.bel hB)
 have HO := aRA (h.below hT.bel hB)
 have HE := aRA (hE.below hT.bel hB)
 have HT := aRA hT
 have K4 := hT.bel.size
 have HS := aRA hs
 clear h hx hT hs hE
 obtain ⟨sv, fM⟩ : ∃ sv, sv = decide (s.placed.kind = 4) := ⟨_, rfl⟩
 rw [← fM]
 have oB := aRA fM
 clear fM
 have D6 := pC
 go_enter Tryz.func134, Tryz.ntmps134
 go_upto_region 1 with fail
 generalize ((w.alloc (.cells #[.slice av nv cv, .slice ao no co] 27)).alloc (.cells #[.int .i64 kind, .string item, .int .i64 qty, .int .i64 dv, .int .i64 sq] 29)).alloc (.cells #[.int .i64 0, .int .i64 0, .int .i64 0, .int .i64 0, .string ⟨#[]⟩, .int .i64 0, .int .i64 0, .int .i64 0] 50) = w0 at HX HO HE HT K4 ⊢
 obtain ⟨c0, c1⟩ := pair_cells HT.out.fst
 obtain ⟨d0, d1, d2⟩ := bQ HT.out.snd
 go_wp2_with fail
 refine (uR w0 B av ao nv cv no co xs l item HX.out HO.out (by omega) hv hc cM).mono ?_
 rintro e w1 ⟨rfl, hb⟩
 rw [← HS.out]
 have aZ := aRA (HT.out.next hb)
 have eF := aRA (HE.out.below hb (by omega))
 have fH := hb.size
 clear hb c0 c1 d0 d1 d2 HT HX HO HE
 obtain ⟨d0, d1, d2⟩ := bQ aZ.out.snd
 clear HS
 go_upto_region 2 with (refine wpList_store_rowTo rfl 96 _ _ rfl rfl w1.heap.size s.cells rfl rfl 96 _ (World.alloc_heap_new _ _) (jL s) rfl (oZ s) ?_)
 rw [World.setRow_alloc_new]
 have bD := ((Below.refl w1.heap.size w1).alloc aRC (.cells s.cells 96))
 have bK := aRA bD
 have aM := aRA (aZ.out.next bD)
 have dQ := aRA (eF.out.below bD (by omega))
 have cZ := aRA (World.alloc_heap_new w1 (.cells s.cells 96))
 have eV := bD.size
 clear bD aZ eF d0 d1 d2
 generalize w1.alloc (.cells s.cells 96) = w2 at aM dQ cZ bK eV ⊢
 have lZ : w1.heap.size < w2.heap.size := (aRB cZ.out).1
 generalize w1.heap.size = sb at cZ lZ bK eV fH ⊢
 obtain ⟨d0, d1, d2⟩ := bQ aM.out.snd
 have s0 : w2.cell? ⟨sb, 0, none⟩ = some (.int .i64 s.level) := (aRD cZ.out).trans rfl
 have Z0 := dQ.out.low
 have hlw : IntKind.i64.wrap (s.level + 1) = s.level + 1 := IntWalk.i64_in _ (by omega)
 have done : ∀ (wr : World) (q : aA) (code : Int), Hid (oneOf s.level sv kind item qty = (q, code)) → Below w2.heap.size w2 wr →
   Hid ((bT wr (w.heap.size + 1 + 1) (.int .i64 q.dev) (.int .i64 q.seq) (.int .i64 q.stamp) (.int .i64 q.kind) (.string q.item) (.int .i64 q.qty) (.int .i64 q.level) (.int .i64 q.undos)).heap[w.heap.size + 1 + 1]? = some (.cells #[.int .i64 q.dev, .int .i64 q.seq, .int .i64 q.stamp, .int .i64 q.kind, .string q.item, .int .i64 q.qty, .int .i64 q.level, .int .i64 q.undos] 50 (0, 0))) ∧
   Hid (Below w.heap.size w (bT wr (w.heap.size + 1 + 1) (.int .i64 q.dev) (.int .i64 q.seq) (.int .i64 q.stamp) (.int .i64 q.kind) (.string q.item) (.int .i64 q.qty) (.int .i64 q.level) (.int .i64 q.undos))) := by
  intro wr q code hq hb
  exact ⟨kW _ _ _ _ _ _ _ _ (aM.out.next hb).res, jJ _ _ _ _ _ _ _ _ (aM.out.next hb).bel (by omega)⟩
 have k1 := O3.out
 have k1b : (kind == 1) = false := beq_eq_false_iff_ne.2 k1
 go_wp2_with (refine wpList_load_row rfl 96 _ rfl sb rfl _ s.cells _ _ cZ.out Tryz.underlying96 rfl (jL s) ?_)
 refine (pA s h0 w2).mono ?_
 rintro e w3 ⟨rfl, bB⟩
 dsimp only
 have hm := L2.out
 have J6 : decide (s.level % 2 = 1) = true := decide_eq_true hm
 rw [J6]
 have bJ := aRA (aM.out.next bB)
 have iI := aRA ((bB.block _ lZ).trans cZ.out)
 have dR := aRA bB
 clear bB d0 d1 d2 s0
 obtain ⟨d0, d1, d2⟩ := bQ bJ.out.snd
 have s0 : w3.cell? ⟨sb, 0, none⟩ = some (.int .i64 s.level) := (aRD iI.out).trans rfl
 have N6 : zH s = sv := by
  rw [oB.out]; exact if_pos hm
 go_wp2_with (refine wpList_load_row rfl 96 _ rfl sb rfl _ s.cells _ _ iI.out Tryz.underlying96 rfl (jL s) ?_)
 refine (aAy s item h0 hi w3).mono ?_
 rintro e w4 ⟨rfl, dY⟩
 rw [N6]
 generalize F0 _ _ = li
 generalize zI _ = lq
 have bE : Below w2.heap.size w2 w4 := dR.out.trans (dY.mono dR.out.size)
 clear dY bJ iI dR N6
 have dR := aRA bE
 have bJ := aRA (aM.out.next bE)
 have iI := aRA ((bE.block _ lZ).trans cZ.out)
 have g2 : w4.cell? ⟨2, 0, none⟩ = some (.iface 226 (.pointer (some (E 2)))) := (dQ.out.below bE (by omega)).cells 2 (by omega) (by omega)
 have g3 : w4.cell? ⟨3, 0, none⟩ = some (.iface 226 (.pointer (some (E 3)))) := (dQ.out.below bE (by omega)).cells 3 (by omega) (by omega)
 clear bE d0 d1 d2 s0
 obtain ⟨d0, d1, d2⟩ := bQ bJ.out.snd
 obtain ⟨r0, r1, r2, r3, r4, r5, r6, r7⟩ := aQ bJ.out.res
 obtain ⟨f0, f1, f2, f3, f4, f5, f6, f7⟩ := dE bJ.out.res
 have s0 : w4.cell? ⟨sb, 0, none⟩ = some (.int .i64 s.level) := (aRD iI.out).trans rfl
 have k2 := Yk2.out
 have k2b : (kind == 2) = false := beq_eq_false_iff_ne.2 k2
 have k3 := Yk3.out
 have k3b : (kind == 3) = false := beq_eq_false_iff_ne.2 k3
 have k4 := Yk4.out
 have k4b : (kind == 4) = false := beq_eq_false_iff_ne.2 k4
 have e := Ye.out
 clear Ye
 subst e
 cases sv
 ·
  have HQ : Hid (oneOf s.level false 5 item qty = ((⟨0, 0, 0, 0, ⟨#[]⟩, 0, 0, 0⟩ : aA), 2)) := by
   show _ = _
   unfold oneOf; rw [if_neg k1, if_pos hm, if_neg k2, if_neg k3, if_neg k4, if_pos rfl]
   try rfl
  clear r0 r1 r2 r3 r4 r5 r6 r7 f0 f1 f2 f3 f4 f5 f6 f7
  go_wp2_with fail
  refine wp_region_held_drew (S := fun w' => w'.cell? ⟨2, 0, none⟩ = some (.iface 226 (.pointer (some (E 2))))) (by kernel_rfl) g2 (fun aP => ?_)
  have dG : Hid (Below w2.heap.size w2 w4.drew) := dR.out.trans ⟨rfl, rfl, rfl, Nat.le_refl _, fun _ _ => rfl⟩
  generalize w4.drew = z0 at dG aP ⊢; have dF := aRA (aM.out.next dG.out); obtain ⟨r0, r1, r2, r3, r4, r5, r6, r7⟩ := aQ dF.out.res; obtain ⟨f0, f1, f2, f3, f4, f5, f6, f7⟩ := dE dF.out.res; refine tj 0 ?_
  refine tj 1 ?_
  refine rk 2 rfl (fun K hK => ?_)
  go_simp
  refine hK.out _ _ ((World.cell?_of_block (a := ⟨2, 0, none⟩) (tX (w := z0) (b := w.heap.size + 1 + 1) (k := 2) (.int .i64 0) (.int .i64 0) (.int .i64 0) (.int .i64 0) (.string ⟨#[]⟩) (.int .i64 0) (.int .i64 0) (.int .i64 0) (by omega))).trans aP) (fun bZ => ?_)
  clear hK K
  (try simp only [Act.put, u1, u2, u3])
  refine tj 3 ?_
  refine wpAnyH_done (by kernel_rfl) ?_ _
  obtain ⟨HX, cJ⟩ := done z0 (⟨0, 0, 0, 0, ⟨#[]⟩, 0, 0, 0⟩ : aA) 2 HQ dG.out; clear done
  dsimp only at HX cJ
  go_wp2
  change bodyPost _ _ _ _ _ (bT z0 (w.heap.size + 1 + 1) (.int .i64 0) (.int .i64 0) (.int .i64 0) (.int .i64 0) (.string ⟨#[]⟩) (.int .i64 0) (.int .i64 0) (.int .i64 0))
  generalize bT z0 (w.heap.size + 1 + 1) (.int .i64 0) (.int .i64 0) (.int .i64 0) (.int .i64 0) (.string ⟨#[]⟩) (.int .i64 0) (.int .i64 0) (.int .i64 0) = wf at HX cJ ⊢; obtain ⟨e0, e1, e2, e3, e4, e5, e6, e7⟩ := aQ HX.out; exact bodyPost_ret (v := .tuple #[.agg #[.int .i64 0, .int .i64 0, .int .i64 0, .int .i64 0, .string ⟨#[]⟩, .int .i64 0, .int .i64 0, .int .i64 0], (.iface 226 (.pointer (some (E 2))))]) (by simp [results, Tryz.results134, go_sem, e0, e1, e2, e3, e4, e5, e6, e7]) rfl ⟨by rw [HQ.out]; dsimp only; rw [S7], cJ.out⟩
 ·
  have HQ : Hid (oneOf s.level true 5 item qty = ((⟨0, 0, 0, 5, item, 0, 0, 0⟩ : aA), 0)) := by
   show _ = _
   unfold oneOf; rw [if_neg k1, if_pos hm, if_neg k2, if_neg k3, if_neg k4, if_pos rfl]
   try rfl
  obtain ⟨HX, cJ⟩ := done w4 (⟨0, 0, 0, 5, item, 0, 0, 0⟩ : aA) 0 HQ dR.out; clear done
  dsimp only at HX cJ
  go_wp2
  change bodyPost _ _ _ _ _ (bT w4 (w.heap.size + 1 + 1) (.int .i64 0) (.int .i64 0) (.int .i64 0) (.int .i64 5) (.string item) (.int .i64 0) (.int .i64 0) (.int .i64 0))
  generalize bT w4 (w.heap.size + 1 + 1) (.int .i64 0) (.int .i64 0) (.int .i64 0) (.int .i64 5) (.string item) (.int .i64 0) (.int .i64 0) (.int .i64 0) = wf at HX cJ ⊢; obtain ⟨e0, e1, e2, e3, e4, e5, e6, e7⟩ := aQ HX.out; exact bodyPost_ret (v := .tuple #[.agg #[.int .i64 0, .int .i64 0, .int .i64 0, .int .i64 5, .string item, .int .i64 0, .int .i64 0, .int .i64 0], .nilIface]) (by simp [results, Tryz.results134, go_sem, e0, e1, e2, e3, e4, e5, e6, e7]) rfl ⟨by rw [HQ.out]; dsimp only; rw [S9], cJ.out⟩

theorem aLO (w : World) (B : Nat) (E : Int → Addr) (hE : eZ w B E) (av ao : Option Addr) (nv cv no co : Nat) (xs : List Int) (l : List aA) (kind qty dv sq : Int) (item : ByteArray) (hx : Ints w B av nv xs) (h : bS w B ao no l) (hB : B ≤ w.heap.size) (hv : nv ≤ 1048576) (hc : no ≤ co) (cM : Fits no co) (hi : item.size ≤ 1048576) (s : cW) (hs : s = cC item (counted xs l)) (h0 : 0 ≤ s.level) (h1 : s.level ≤ 1000000) (k1 : ¬ kind = 1) (yE : s.level % 2 = 1) (k2 : ¬ kind = 2) (k3 : ¬ kind = 3) (k4 : ¬ kind = 4) (k5 : ¬ kind = 5) :
  Calls Tryz.prog 134 #[.agg #[.slice av nv cv, .slice ao no co], .agg #[.int .i64 kind, .string item, .int .i64 qty, .int .i64 dv, .int .i64 sq]] w
   (aAf E (oneOf s.level (decide (s.placed.kind = 4)) kind item qty) w) := by
 have O3 := aRA k1
 have L2 := aRA yE
 have Yk2 := aRA k2
 have Yk3 := aRA k3
 have Yk4 := aRA k4
 have Yk5 := aRA k5
 clear k1 yE k2 k3 k4 k5
 have hT := yZ.mk0 w #[.slice av nv cv, .slice ao no co] #[.int .i64 kind, .string item, .int .i64 qty, .int .i64 dv, .int .i64 sq] #[.int .i64 0, .int .i64 0, .int .i64 0, .int .i64 0, .string ⟨#[]⟩, .int .i64 0, .int .i64 0, .int .i64 0]
 have HX := aRA (hx.below hT.bel hB)
 have HO := aRA (h.below hT.bel hB)
 have HE := aRA (hE.below hT.bel hB)
 have HT := aRA hT
 have K4 := hT.bel.size
 have HS := aRA hs
 clear h hx hT hs hE
 obtain ⟨sv, fM⟩ : ∃ sv, sv = decide (s.placed.kind = 4) := ⟨_, rfl⟩
 rw [← fM]
 have oB := aRA fM
 clear fM
 have D6 := pC
 go_enter Tryz.func134, Tryz.ntmps134
 go_upto_region 1 with fail
 generalize ((w.alloc (.cells #[.slice av nv cv, .slice ao no co] 27)).alloc (.cells #[.int .i64 kind, .string item, .int .i64 qty, .int .i64 dv, .int .i64 sq] 29)).alloc (.cells #[.int .i64 0, .int .i64 0, .int .i64 0, .int .i64 0, .string ⟨#[]⟩, .int .i64 0, .int .i64 0, .int .i64 0] 50) = w0 at HX HO HE HT K4 ⊢
 obtain ⟨c0, c1⟩ := pair_cells HT.out.fst
 obtain ⟨d0, d1, d2⟩ := bQ HT.out.snd
 go_wp2_with fail
 refine (uR w0 B av ao nv cv no co xs l item HX.out HO.out (by omega) hv hc cM).mono ?_
 rintro e w1 ⟨rfl, hb⟩
 rw [← HS.out]
 have aZ := aRA (HT.out.next hb)
 have eF := aRA (HE.out.below hb (by omega))
 have fH := hb.size
 clear hb c0 c1 d0 d1 d2 HT HX HO HE
 obtain ⟨d0, d1, d2⟩ := bQ aZ.out.snd
 clear HS
 go_upto_region 2 with (refine wpList_store_rowTo rfl 96 _ _ rfl rfl w1.heap.size s.cells rfl rfl 96 _ (World.alloc_heap_new _ _) (jL s) rfl (oZ s) ?_)
 rw [World.setRow_alloc_new]
 have bD := ((Below.refl w1.heap.size w1).alloc aRC (.cells s.cells 96))
 have bK := aRA bD
 have aM := aRA (aZ.out.next bD)
 have dQ := aRA (eF.out.below bD (by omega))
 have cZ := aRA (World.alloc_heap_new w1 (.cells s.cells 96))
 have eV := bD.size
 clear bD aZ eF d0 d1 d2
 generalize w1.alloc (.cells s.cells 96) = w2 at aM dQ cZ bK eV ⊢
 have lZ : w1.heap.size < w2.heap.size := (aRB cZ.out).1
 generalize w1.heap.size = sb at cZ lZ bK eV fH ⊢
 obtain ⟨d0, d1, d2⟩ := bQ aM.out.snd
 have s0 : w2.cell? ⟨sb, 0, none⟩ = some (.int .i64 s.level) := (aRD cZ.out).trans rfl
 have Z0 := dQ.out.low
 have hlw : IntKind.i64.wrap (s.level + 1) = s.level + 1 := IntWalk.i64_in _ (by omega)
 have done : ∀ (wr : World) (q : aA) (code : Int), Hid (oneOf s.level sv kind item qty = (q, code)) → Below w2.heap.size w2 wr →
   Hid ((bT wr (w.heap.size + 1 + 1) (.int .i64 q.dev) (.int .i64 q.seq) (.int .i64 q.stamp) (.int .i64 q.kind) (.string q.item) (.int .i64 q.qty) (.int .i64 q.level) (.int .i64 q.undos)).heap[w.heap.size + 1 + 1]? = some (.cells #[.int .i64 q.dev, .int .i64 q.seq, .int .i64 q.stamp, .int .i64 q.kind, .string q.item, .int .i64 q.qty, .int .i64 q.level, .int .i64 q.undos] 50 (0, 0))) ∧
   Hid (Below w.heap.size w (bT wr (w.heap.size + 1 + 1) (.int .i64 q.dev) (.int .i64 q.seq) (.int .i64 q.stamp) (.int .i64 q.kind) (.string q.item) (.int .i64 q.qty) (.int .i64 q.level) (.int .i64 q.undos))) := by
  intro wr q code hq hb
  exact ⟨kW _ _ _ _ _ _ _ _ (aM.out.next hb).res, jJ _ _ _ _ _ _ _ _ (aM.out.next hb).bel (by omega)⟩
 have k1 := O3.out
 have k1b : (kind == 1) = false := beq_eq_false_iff_ne.2 k1
 go_wp2_with (refine wpList_load_row rfl 96 _ rfl sb rfl _ s.cells _ _ cZ.out Tryz.underlying96 rfl (jL s) ?_)
 refine (pA s h0 w2).mono ?_
 rintro e w3 ⟨rfl, bB⟩
 dsimp only
 have hm := L2.out
 have J6 : decide (s.level % 2 = 1) = true := decide_eq_true hm
 rw [J6]
 have bJ := aRA (aM.out.next bB)
 have iI := aRA ((bB.block _ lZ).trans cZ.out)
 have dR := aRA bB
 clear bB d0 d1 d2 s0
 obtain ⟨d0, d1, d2⟩ := bQ bJ.out.snd
 have s0 : w3.cell? ⟨sb, 0, none⟩ = some (.int .i64 s.level) := (aRD iI.out).trans rfl
 have N6 : zH s = sv := by
  rw [oB.out]; exact if_pos hm
 go_wp2_with (refine wpList_load_row rfl 96 _ rfl sb rfl _ s.cells _ _ iI.out Tryz.underlying96 rfl (jL s) ?_)
 refine (aAy s item h0 hi w3).mono ?_
 rintro e w4 ⟨rfl, dY⟩
 rw [N6]
 generalize F0 _ _ = li
 generalize zI _ = lq
 have bE : Below w2.heap.size w2 w4 := dR.out.trans (dY.mono dR.out.size)
 clear dY bJ iI dR N6
 have dR := aRA bE
 have bJ := aRA (aM.out.next bE)
 have iI := aRA ((bE.block _ lZ).trans cZ.out)
 have g2 : w4.cell? ⟨2, 0, none⟩ = some (.iface 226 (.pointer (some (E 2)))) := (dQ.out.below bE (by omega)).cells 2 (by omega) (by omega)
 have g3 : w4.cell? ⟨3, 0, none⟩ = some (.iface 226 (.pointer (some (E 3)))) := (dQ.out.below bE (by omega)).cells 3 (by omega) (by omega)
 clear bE d0 d1 d2 s0
 obtain ⟨d0, d1, d2⟩ := bQ bJ.out.snd
 obtain ⟨r0, r1, r2, r3, r4, r5, r6, r7⟩ := aQ bJ.out.res
 obtain ⟨f0, f1, f2, f3, f4, f5, f6, f7⟩ := dE bJ.out.res
 have s0 : w4.cell? ⟨sb, 0, none⟩ = some (.int .i64 s.level) := (aRD iI.out).trans rfl
 have k2 := Yk2.out
 have k2b : (kind == 2) = false := beq_eq_false_iff_ne.2 k2
 have k3 := Yk3.out
 have k3b : (kind == 3) = false := beq_eq_false_iff_ne.2 k3
 have k4 := Yk4.out
 have k4b : (kind == 4) = false := beq_eq_false_iff_ne.2 k4
 have k5 := Yk5.out
 have k5b : (kind == 5) = false := beq_eq_false_iff_ne.2 k5
 have HQ : Hid (oneOf s.level sv kind item qty = ((⟨0, 0, 0, 0, ⟨#[]⟩, 0, 0, 0⟩ : aA), 2)) := by
  show _ = _
  unfold oneOf; rw [if_neg k1, if_pos hm, if_neg k2, if_neg k3, if_neg k4, if_neg k5]
  try rfl
 clear r0 r1 r2 r3 r4 r5 r6 r7 f0 f1 f2 f3 f4 f5 f6 f7
 go_wp2_with fail
 refine wp_region_held_drew (S := fun w' => w'.cell? ⟨2, 0, none⟩ = some (.iface 226 (.pointer (some (E 2))))) (by kernel_rfl) g2 (fun aP => ?_)
 have dG : Hid (Below w2.heap.size w2 w4.drew) := dR.out.trans ⟨rfl, rfl, rfl, Nat.le_refl _, fun _ _ => rfl⟩
 generalize w4.drew = z0 at dG aP ⊢
 have dF := aRA (aM.out.next dG.out)
 obtain ⟨r0, r1, r2, r3, r4, r5, r6, r7⟩ := aQ dF.out.res
 obtain ⟨f0, f1, f2, f3, f4, f5, f6, f7⟩ := dE dF.out.res
 refine tj 0 ?_
 refine tj 1 ?_
 refine rk 2 rfl (fun K hK => ?_)
 go_simp
 refine hK.out _ _ ((World.cell?_of_block (a := ⟨2, 0, none⟩) (tX (w := z0) (b := w.heap.size + 1 + 1) (k := 2) (.int .i64 0) (.int .i64 0) (.int .i64 0) (.int .i64 0) (.string ⟨#[]⟩) (.int .i64 0) (.int .i64 0) (.int .i64 0) (by omega))).trans aP) (fun bZ => ?_)
 clear hK K
 (try simp only [Act.put, u1, u2, u3])
 refine tj 3 ?_
 refine wpAnyH_done (by kernel_rfl) ?_ _
 obtain ⟨HX, cJ⟩ := done z0 (⟨0, 0, 0, 0, ⟨#[]⟩, 0, 0, 0⟩ : aA) 2 HQ dG.out
 clear done
 dsimp only at HX cJ
 go_wp2
 change bodyPost _ _ _ _ _ (bT z0 (w.heap.size + 1 + 1) (.int .i64 0) (.int .i64 0) (.int .i64 0) (.int .i64 0) (.string ⟨#[]⟩) (.int .i64 0) (.int .i64 0) (.int .i64 0))
 generalize bT z0 (w.heap.size + 1 + 1) (.int .i64 0) (.int .i64 0) (.int .i64 0) (.int .i64 0) (.string ⟨#[]⟩) (.int .i64 0) (.int .i64 0) (.int .i64 0) = wf at HX cJ ⊢
 obtain ⟨e0, e1, e2, e3, e4, e5, e6, e7⟩ := aQ HX.out
 exact bodyPost_ret (v := .tuple #[.agg #[.int .i64 0, .int .i64 0, .int .i64 0, .int .i64 0, .string ⟨#[]⟩, .int .i64 0, .int .i64 0, .int .i64 0], (.iface 226 (.pointer (some (E 2))))]) (by simp [results, Tryz.results134, go_sem, e0, e1, e2, e3, e4, e5, e6, e7]) rfl ⟨by rw [HQ.out]; dsimp only; rw [S7], cJ.out⟩

set_option linter.unusedVariables false
set_option linter.unusedSimpArgs false
theorem aMU (w : World) (B : Nat) (E : Int → Addr) (hE : eZ w B E) (av ao : Option Addr) (nv cv no co : Nat) (xs : List Int) (l : List aA) (kind qty dv sq : Int) (item : ByteArray) (hx : Ints w B av nv xs) (h : bS w B ao no l) (hB : B ≤ w.heap.size) (hv : nv ≤ 1048576) (hc : no ≤ co) (cM : Fits no co) (hi : item.size ≤ 1048576) (s : cW) (hs : s = cC item (counted xs l)) (h0 : 0 ≤ s.level) (h1 : s.level ≤ 1000000) :
  Calls Tryz.prog 134 #[.agg #[.slice av nv cv, .slice ao no co], .agg #[.int .i64 kind, .string item, .int .i64 qty, .int .i64 dv, .int .i64 sq]] w
   (aAf E (oneOf s.level (decide (s.placed.kind = 4)) kind item qty) w) := by
 by_cases k1 : kind = 1
 ·exact aLN w B E hE av ao nv cv no co xs l kind qty dv sq item hx h hB hv hc cM hi s hs h0 h1 k1
 by_cases hm : s.level % 2 = 1
 rotate_left
 ·exact aLM w B E hE av ao nv cv no co xs l kind qty dv sq item hx h hB hv hc cM hi s hs h0 h1 k1 hm
 by_cases k2 : kind = 2
 ·exact aLS w B E hE av ao nv cv no co xs l kind qty dv sq item hx h hB hv hc cM hi s hs h0 h1 k1 hm k2
 by_cases k3 : kind = 3
 ·exact aLR w B E hE av ao nv cv no co xs l kind qty dv sq item hx h hB hv hc cM hi s hs h0 h1 k1 hm k2 k3
 by_cases k4 : kind = 4
 ·exact aLQ w B E hE av ao nv cv no co xs l kind qty dv sq item hx h hB hv hc cM hi s hs h0 h1 k1 hm k2 k3 k4
 by_cases k5 : kind = 5
 ·exact aLP w B E hE av ao nv cv no co xs l kind qty dv sq item hx h hB hv hc cM hi s hs h0 h1 k1 hm k2 k3 k4 k5
 exact aLO w B E hE av ao nv cv no co xs l kind qty dv sq item hx h hB hv hc cM hi s hs h0 h1 k1 hm k2 k3 k4 k5

end Go.Proofs.YthkagbnpcjidfaaGreatDoor
