/- Walks and mathematics that several claims share, part 36. -/
import Derived.Test.YthkagbnpcjidfaaGreatDoorGp35
import Derived.Test.YthkagbnpcjidfaaGreatDoorGp20
import Derived.Deep.Cut
import Derived.Lib.Hide
import Derived.Deep.RegionHeld
import Derived.Great.BuildSlice
import Derived.Deep.WholeRow
namespace Go.Proofs.YthkagbnpcjidfaaGreatDoor
set_option maxRecDepth 100000
open Go.RowKit
set_option linter.unusedVariables false
set_option linter.unusedSimpArgs false
def U1 (E : Int → Addr) (r : aA × Int) (w : World) (e : Ending) (w' : World) : Prop :=
 e = .returned (.tuple #[.agg #[.int .i64 r.1.dev, .int .i64 r.1.seq, .int .i64 r.1.stamp, .int .i64 r.1.kind, .string r.1.item, .int .i64 r.1.qty, .int .i64 r.1.level, .int .i64 r.1.undos], kJ E r.2]) ∧ Below w.heap.size w w'
theorem F9 (E : Int → Addr) : kJ E 0 = .nilIface := by unfold kJ; rw [if_pos (by decide)]
theorem F7 (E : Int → Addr) : kJ E 2 = .iface 226 (.pointer (some (E 2))) := by unfold kJ; rw [if_neg (by decide)]
theorem aLM (E : Int → Addr) : kJ E 3 = .iface 226 (.pointer (some (E 3))) := by unfold kJ; rw [if_neg (by decide)]
theorem mD (a : ByteArray) (b : Int) (c : Bool) (w : World) : Sem.run Tryz.prog (Instr.field 39 (.agg #[.string a, .int .i64 b, .bool c]) 2) w = .ok (.bool c) w := by kernel_rfl
theorem lZ (s : cK) : s.cells.all (·.oneCell') = true := by simp [cK.cells, Value.oneCell']
theorem iJ (s : cK) : (Tryz.prog.info? 96).map (·.size) = some s.cells.size := by kernel_rfl
set_option maxHeartbeats 40000000 in
theorem aJZ (w : World) (B : Nat) (E : Int → Addr) (hE : eA w B E) (av ao : Option Addr) (nv cv no co : Nat) (xs : List Int) (l : List aA) (kind qty dv sq : Int) (item : ByteArray) (hx : Ints w B av nv xs) (h : bK w B ao no l) (hB : B ≤ w.heap.size) (hv : nv ≤ 1048576) (hc : no ≤ co) (cM : Fits no co) (hi : item.size ≤ 1048576) (s : cK) (hs : s = cA item (counted xs l)) (h0 : 0 ≤ s.level) (h1 : s.level ≤ 1000000) (k1 : kind = 1) :
  Calls Tryz.prog 134 #[.agg #[.slice av nv cv, .slice ao no co], .agg #[.int .i64 kind, .string item, .int .i64 qty, .int .i64 dv, .int .i64 sq]] w
   (U1 E (oneOf s.level (decide (s.placed.kind = 4)) kind item qty) w) := by
 have B4 := aPu k1
 clear k1
 have hT := uS.mk0 w #[.slice av nv cv, .slice ao no co] #[.int .i64 kind, .string item, .int .i64 qty, .int .i64 dv, .int .i64 sq] #[.int .i64 0, .int .i64 0, .int .i64 0, .int .i64 0, .string ⟨#[]⟩, .int .i64 0, .int .i64 0, .int .i64 0]
 have HX := aPu (hx.below hT.bel hB)
 have HO := aPu (h.below hT.bel hB)
 have HE := aPu (hE.below hT.bel hB)
 have HT := aPu hT
 have yX := hT.bel.size
 have HS := aPu hs
 clear h hx hT hs hE
 obtain ⟨sv, eH⟩ : ∃ sv, sv = decide (s.placed.kind = 4) := ⟨_, rfl⟩
 rw [← eH]
 have lJ := aPu eH
 clear eH
 have hfl := mD
 go_enter Tryz.func134, Tryz.ntmps134
 go_upto_region 1 with fail
 generalize ((w.alloc (.cells #[.slice av nv cv, .slice ao no co] 27)).alloc (.cells #[.int .i64 kind, .string item, .int .i64 qty, .int .i64 dv, .int .i64 sq] 29)).alloc (.cells #[.int .i64 0, .int .i64 0, .int .i64 0, .int .i64 0, .string ⟨#[]⟩, .int .i64 0, .int .i64 0, .int .i64 0] 50) = w0 at HX HO HE HT yX ⊢
 obtain ⟨c0, c1⟩ := pair_cells HT.out.fst
 obtain ⟨d0, d1, d2⟩ := bH HT.out.snd
 go_wp2_with fail
 refine (rJ w0 B av ao nv cv no co xs l item HX.out HO.out (by omega) hv hc cM).mono ?_
 rintro e w1 ⟨rfl, hb⟩
 rw [← HS.out]
 have aT := aPu (HT.out.next hb)
 have eZ := aPu (HE.out.below hb (by omega))
 have dZ := hb.size
 clear hb c0 c1 d0 d1 d2 HT HX HO HE
 obtain ⟨d0, d1, d2⟩ := bH aT.out.snd
 clear HS
 go_upto_region 2 with (refine wpList_store_rowTo rfl 96 _ _ rfl rfl w1.heap.size s.cells rfl rfl 96 _ (World.alloc_heap_new _ _) (iJ s) rfl (lZ s) ?_)
 rw [World.setRow_alloc_new]
 have aW := ((Below.refl w1.heap.size w1).alloc aPw (.cells s.cells 96))
 have bP := aPu aW
 have aJ := aPu (aT.out.next aW)
 have dP := aPu (eZ.out.below aW (by omega))
 have bZ := aPu (World.alloc_heap_new w1 (.cells s.cells 96))
 have dS := aW.size
 clear aW aT eZ d0 d1 d2
 generalize w1.alloc (.cells s.cells 96) = w2 at aJ dP bZ bP dS ⊢
 have jZ : w1.heap.size < w2.heap.size := (aPv bZ.out).1
 generalize w1.heap.size = sb at bZ jZ bP dS dZ ⊢
 obtain ⟨d0, d1, d2⟩ := bH aJ.out.snd
 have s0 : w2.cell? ⟨sb, 0, none⟩ = some (.int .i64 s.level) := (aPx bZ.out).trans rfl
 have M7 := dP.out.low
 have hlw : IntKind.i64.wrap (s.level + 1) = s.level + 1 := IntWalk.i64_in _ (by omega)
 have done : ∀ (wr : World) (q : aA) (code : Int), Hid (oneOf s.level sv kind item qty = (q, code)) → Below w2.heap.size w2 wr →
   Hid ((bF wr (w.heap.size + 1 + 1) (.int .i64 q.dev) (.int .i64 q.seq) (.int .i64 q.stamp) (.int .i64 q.kind) (.string q.item) (.int .i64 q.qty) (.int .i64 q.level) (.int .i64 q.undos)).heap[w.heap.size + 1 + 1]? = some (.cells #[.int .i64 q.dev, .int .i64 q.seq, .int .i64 q.stamp, .int .i64 q.kind, .string q.item, .int .i64 q.qty, .int .i64 q.level, .int .i64 q.undos] 50 (0, 0))) ∧
   Hid (Below w.heap.size w (bF wr (w.heap.size + 1 + 1) (.int .i64 q.dev) (.int .i64 q.seq) (.int .i64 q.stamp) (.int .i64 q.kind) (.string q.item) (.int .i64 q.qty) (.int .i64 q.level) (.int .i64 q.undos))) := by
  intro wr q code hq hb
  exact ⟨gU _ _ _ _ _ _ _ _ (aJ.out.next hb).res, gA _ _ _ _ _ _ _ _ (aJ.out.next hb).bel (by omega)⟩
 have k1 := B4.out
 clear B4
 subst k1
 go_wp2_with (refine wpList_load_row rfl 96 _ rfl sb rfl _ s.cells _ _ bZ.out Tryz.underlying96 rfl (iJ s) ?_)
 refine (mB s h0 w2).mono ?_
 rintro e w3 ⟨rfl, aR⟩
 dsimp only
 have dQ := aPu aR
 have bD := aPu (aJ.out.next aR)
 have gM := aPu ((aR.block _ jZ).trans bZ.out)
 have g2 : w3.cell? ⟨2, 0, none⟩ = some (.iface 226 (.pointer (some (E 2)))) := (dP.out.below aR (by omega)).cells 2 (by omega) (by omega)
 have g3 : w3.cell? ⟨3, 0, none⟩ = some (.iface 226 (.pointer (some (E 3)))) := (dP.out.below aR (by omega)).cells 3 (by omega) (by omega)
 clear aR d0 d1 d2 s0
 obtain ⟨d0, d1, d2⟩ := bH bD.out.snd
 obtain ⟨r0, r1, r2, r3, r4, r5, r6, r7⟩ := aM bD.out.res
 obtain ⟨f0, f1, f2, f3, f4, f5, f6, f7⟩ := cL bD.out.res
 have s0 : w3.cell? ⟨sb, 0, none⟩ = some (.int .i64 s.level) := (aPx gM.out).trans rfl
 by_cases hm : s.level % 2 = 1
 ·have yO : decide (s.level % 2 = 1) = true := decide_eq_true hm
  rw [yO]; have HQ : Hid (oneOf s.level sv 1 item qty = ((⟨0, 0, 0, 0, ⟨#[]⟩, 0, 0, 0⟩ : aA), 3)) := by
   show _ = _
   unfold oneOf; rw [if_pos rfl, if_pos hm]
   try rfl
  clear r0 r1 r2 r3 r4 r5 r6 r7 f0 f1 f2 f3 f4 f5 f6 f7
  go_wp2_with fail
  refine wp_region_held_drew (S := fun w' => w'.cell? ⟨3, 0, none⟩ = some (.iface 226 (.pointer (some (E 3))))) (by kernel_rfl) g3 (fun aP => ?_)
  have cU : Hid (Below w2.heap.size w2 w3.drew) := dQ.out.trans ⟨rfl, rfl, rfl, Nat.le_refl _, fun _ _ => rfl⟩
  generalize w3.drew = z0 at cU aP ⊢; have cR := aPu (aJ.out.next cU.out); obtain ⟨r0, r1, r2, r3, r4, r5, r6, r7⟩ := aM cR.out.res; obtain ⟨f0, f1, f2, f3, f4, f5, f6, f7⟩ := cL cR.out.res; refine tj 0 ?_
  refine tj 1 ?_
  refine rk 2 rfl (fun K hK => ?_)
  go_simp
  refine hK.out _ _ ((World.cell?_of_block (a := ⟨3, 0, none⟩) (qO (w := z0) (b := w.heap.size + 1 + 1) (k := 3) (.int .i64 0) (.int .i64 0) (.int .i64 0) (.int .i64 0) (.string ⟨#[]⟩) (.int .i64 0) (.int .i64 0) (.int .i64 0) (by omega))).trans aP) (fun bG => ?_)
  clear hK K
  (try simp only [Act.put, u1, u2, u3])
  refine tj 3 ?_
  refine wpAnyH_done (by kernel_rfl) ?_ _
  obtain ⟨HX, cC⟩ := done z0 (⟨0, 0, 0, 0, ⟨#[]⟩, 0, 0, 0⟩ : aA) 3 HQ cU.out; clear done
  dsimp only at HX cC
  go_wp2
  change bodyPost _ _ _ _ _ (bF z0 (w.heap.size + 1 + 1) (.int .i64 0) (.int .i64 0) (.int .i64 0) (.int .i64 0) (.string ⟨#[]⟩) (.int .i64 0) (.int .i64 0) (.int .i64 0))
  generalize bF z0 (w.heap.size + 1 + 1) (.int .i64 0) (.int .i64 0) (.int .i64 0) (.int .i64 0) (.string ⟨#[]⟩) (.int .i64 0) (.int .i64 0) (.int .i64 0) = wf at HX cC ⊢; obtain ⟨e0, e1, e2, e3, e4, e5, e6, e7⟩ := aM HX.out; exact bodyPost_ret (v := .tuple #[.agg #[.int .i64 0, .int .i64 0, .int .i64 0, .int .i64 0, .string ⟨#[]⟩, .int .i64 0, .int .i64 0, .int .i64 0], (.iface 226 (.pointer (some (E 3))))]) (by simp [results, Tryz.results134, go_sem, e0, e1, e2, e3, e4, e5, e6, e7]) rfl ⟨by rw [HQ.out]; dsimp only; rw [aLM], cC.out⟩
 ·have yO : decide (s.level % 2 = 1) = false := decide_eq_false hm
  rw [yO]; have HQ : Hid (oneOf s.level sv 1 item qty = ((⟨0, 0, 0, 1, item, qty, (s.level + 1), 0⟩ : aA), 0)) := by
   show _ = _
   unfold oneOf; rw [if_pos rfl, if_neg hm]
   try rfl
  obtain ⟨HX, cC⟩ := done w3 (⟨0, 0, 0, 1, item, qty, (s.level + 1), 0⟩ : aA) 0 HQ dQ.out; clear done
  dsimp only at HX cC
  go_wp2
  change bodyPost _ _ _ _ _ (bF w3 (w.heap.size + 1 + 1) (.int .i64 0) (.int .i64 0) (.int .i64 0) (.int .i64 1) (.string item) (.int .i64 qty) (.int .i64 (s.level + 1)) (.int .i64 0))
  generalize bF w3 (w.heap.size + 1 + 1) (.int .i64 0) (.int .i64 0) (.int .i64 0) (.int .i64 1) (.string item) (.int .i64 qty) (.int .i64 (s.level + 1)) (.int .i64 0) = wf at HX cC ⊢; obtain ⟨e0, e1, e2, e3, e4, e5, e6, e7⟩ := aM HX.out; exact bodyPost_ret (v := .tuple #[.agg #[.int .i64 0, .int .i64 0, .int .i64 0, .int .i64 1, .string item, .int .i64 qty, .int .i64 (s.level + 1), .int .i64 0], .nilIface]) (by simp [results, Tryz.results134, go_sem, e0, e1, e2, e3, e4, e5, e6, e7]) rfl ⟨by rw [HQ.out]; dsimp only; rw [F9], cC.out⟩
set_option maxHeartbeats 40000000 in
theorem aJY (w : World) (B : Nat) (E : Int → Addr) (hE : eA w B E) (av ao : Option Addr) (nv cv no co : Nat) (xs : List Int) (l : List aA) (kind qty dv sq : Int) (item : ByteArray) (hx : Ints w B av nv xs) (h : bK w B ao no l) (hB : B ≤ w.heap.size) (hv : nv ≤ 1048576) (hc : no ≤ co) (cM : Fits no co) (hi : item.size ≤ 1048576) (s : cK) (hs : s = cA item (counted xs l)) (h0 : 0 ≤ s.level) (h1 : s.level ≤ 1000000) (k1 : ¬ kind = 1) (uC : ¬ s.level % 2 = 1) :
  Calls Tryz.prog 134 #[.agg #[.slice av nv cv, .slice ao no co], .agg #[.int .i64 kind, .string item, .int .i64 qty, .int .i64 dv, .int .i64 sq]] w
   (U1 E (oneOf s.level (decide (s.placed.kind = 4)) kind item qty) w) := by
 have B4 := aPu k1
 have zB := aPu uC
 clear k1 uC
 have hT := uS.mk0 w #[.slice av nv cv, .slice ao no co] #[.int .i64 kind, .string item, .int .i64 qty, .int .i64 dv, .int .i64 sq] #[.int .i64 0, .int .i64 0, .int .i64 0, .int .i64 0, .string ⟨#[]⟩, .int .i64 0, .int .i64 0, .int .i64 0]
 have HX := aPu (hx.below hT.bel hB)
 have HO := aPu (h.below hT.bel hB)
 have HE := aPu (hE.below hT.bel hB)
 have HT := aPu hT
 have yX := hT.bel.size
 have HS := aPu hs
 clear h hx hT hs hE
 obtain ⟨sv, eH⟩ : ∃ sv, sv = decide (s.placed.kind = 4) := ⟨_, rfl⟩
 rw [← eH]
 have lJ := aPu eH
 clear eH
 have hfl := mD
 go_enter Tryz.func134, Tryz.ntmps134
 go_upto_region 1 with fail
 generalize ((w.alloc (.cells #[.slice av nv cv, .slice ao no co] 27)).alloc (.cells #[.int .i64 kind, .string item, .int .i64 qty, .int .i64 dv, .int .i64 sq] 29)).alloc (.cells #[.int .i64 0, .int .i64 0, .int .i64 0, .int .i64 0, .string ⟨#[]⟩, .int .i64 0, .int .i64 0, .int .i64 0] 50) = w0 at HX HO HE HT yX ⊢
 obtain ⟨c0, c1⟩ := pair_cells HT.out.fst
 obtain ⟨d0, d1, d2⟩ := bH HT.out.snd
 go_wp2_with fail
 refine (rJ w0 B av ao nv cv no co xs l item HX.out HO.out (by omega) hv hc cM).mono ?_
 rintro e w1 ⟨rfl, hb⟩
 rw [← HS.out]
 have aT := aPu (HT.out.next hb)
 have eZ := aPu (HE.out.below hb (by omega))
 have dZ := hb.size
 clear hb c0 c1 d0 d1 d2 HT HX HO HE
 obtain ⟨d0, d1, d2⟩ := bH aT.out.snd
 clear HS
 go_upto_region 2 with (refine wpList_store_rowTo rfl 96 _ _ rfl rfl w1.heap.size s.cells rfl rfl 96 _ (World.alloc_heap_new _ _) (iJ s) rfl (lZ s) ?_)
 rw [World.setRow_alloc_new]
 have aW := ((Below.refl w1.heap.size w1).alloc aPw (.cells s.cells 96))
 have bP := aPu aW
 have aJ := aPu (aT.out.next aW)
 have dP := aPu (eZ.out.below aW (by omega))
 have bZ := aPu (World.alloc_heap_new w1 (.cells s.cells 96))
 have dS := aW.size
 clear aW aT eZ d0 d1 d2
 generalize w1.alloc (.cells s.cells 96) = w2 at aJ dP bZ bP dS ⊢
 have jZ : w1.heap.size < w2.heap.size := (aPv bZ.out).1
 generalize w1.heap.size = sb at bZ jZ bP dS dZ ⊢
 obtain ⟨d0, d1, d2⟩ := bH aJ.out.snd
 have s0 : w2.cell? ⟨sb, 0, none⟩ = some (.int .i64 s.level) := (aPx bZ.out).trans rfl
 have M7 := dP.out.low
 have hlw : IntKind.i64.wrap (s.level + 1) = s.level + 1 := IntWalk.i64_in _ (by omega)
 have done : ∀ (wr : World) (q : aA) (code : Int), Hid (oneOf s.level sv kind item qty = (q, code)) → Below w2.heap.size w2 wr →
   Hid ((bF wr (w.heap.size + 1 + 1) (.int .i64 q.dev) (.int .i64 q.seq) (.int .i64 q.stamp) (.int .i64 q.kind) (.string q.item) (.int .i64 q.qty) (.int .i64 q.level) (.int .i64 q.undos)).heap[w.heap.size + 1 + 1]? = some (.cells #[.int .i64 q.dev, .int .i64 q.seq, .int .i64 q.stamp, .int .i64 q.kind, .string q.item, .int .i64 q.qty, .int .i64 q.level, .int .i64 q.undos] 50 (0, 0))) ∧
   Hid (Below w.heap.size w (bF wr (w.heap.size + 1 + 1) (.int .i64 q.dev) (.int .i64 q.seq) (.int .i64 q.stamp) (.int .i64 q.kind) (.string q.item) (.int .i64 q.qty) (.int .i64 q.level) (.int .i64 q.undos))) := by
  intro wr q code hq hb
  exact ⟨gU _ _ _ _ _ _ _ _ (aJ.out.next hb).res, gA _ _ _ _ _ _ _ _ (aJ.out.next hb).bel (by omega)⟩
 have k1 := B4.out
 have k1b : (kind == 1) = false := beq_eq_false_iff_ne.2 k1
 go_wp2_with (refine wpList_load_row rfl 96 _ rfl sb rfl _ s.cells _ _ bZ.out Tryz.underlying96 rfl (iJ s) ?_)
 refine (mB s h0 w2).mono ?_
 rintro e w3 ⟨rfl, aR⟩
 dsimp only
 have hm := zB.out
 have yO : decide (s.level % 2 = 1) = false := decide_eq_false hm
 rw [yO]
 have dQ := aPu aR
 have bD := aPu (aJ.out.next aR)
 have gM := aPu ((aR.block _ jZ).trans bZ.out)
 have g2 : w3.cell? ⟨2, 0, none⟩ = some (.iface 226 (.pointer (some (E 2)))) := (dP.out.below aR (by omega)).cells 2 (by omega) (by omega)
 have g3 : w3.cell? ⟨3, 0, none⟩ = some (.iface 226 (.pointer (some (E 3)))) := (dP.out.below aR (by omega)).cells 3 (by omega) (by omega)
 clear aR d0 d1 d2 s0
 obtain ⟨d0, d1, d2⟩ := bH bD.out.snd
 obtain ⟨r0, r1, r2, r3, r4, r5, r6, r7⟩ := aM bD.out.res
 obtain ⟨f0, f1, f2, f3, f4, f5, f6, f7⟩ := cL bD.out.res
 have s0 : w3.cell? ⟨sb, 0, none⟩ = some (.int .i64 s.level) := (aPx gM.out).trans rfl
 have HQ : Hid (oneOf s.level sv kind item qty = ((⟨0, 0, 0, 0, ⟨#[]⟩, 0, 0, 0⟩ : aA), 2)) := by
  show _ = _
  unfold oneOf; rw [if_neg k1, if_neg hm]
  try rfl
 clear r0 r1 r2 r3 r4 r5 r6 r7 f0 f1 f2 f3 f4 f5 f6 f7
 go_wp2_with fail
 refine wp_region_held_drew (S := fun w' => w'.cell? ⟨2, 0, none⟩ = some (.iface 226 (.pointer (some (E 2))))) (by kernel_rfl) g2 (fun aP => ?_)
 have cU : Hid (Below w2.heap.size w2 w3.drew) := dQ.out.trans ⟨rfl, rfl, rfl, Nat.le_refl _, fun _ _ => rfl⟩
 generalize w3.drew = z0 at cU aP ⊢
 have cR := aPu (aJ.out.next cU.out)
 obtain ⟨r0, r1, r2, r3, r4, r5, r6, r7⟩ := aM cR.out.res
 obtain ⟨f0, f1, f2, f3, f4, f5, f6, f7⟩ := cL cR.out.res
 refine tj 0 ?_
 refine tj 1 ?_
 refine rk 2 rfl (fun K hK => ?_)
 go_simp
 refine hK.out _ _ ((World.cell?_of_block (a := ⟨2, 0, none⟩) (qO (w := z0) (b := w.heap.size + 1 + 1) (k := 2) (.int .i64 0) (.int .i64 0) (.int .i64 0) (.int .i64 0) (.string ⟨#[]⟩) (.int .i64 0) (.int .i64 0) (.int .i64 0) (by omega))).trans aP) (fun bG => ?_)
 clear hK K
 (try simp only [Act.put, u1, u2, u3])
 refine tj 3 ?_
 refine wpAnyH_done (by kernel_rfl) ?_ _
 obtain ⟨HX, cC⟩ := done z0 (⟨0, 0, 0, 0, ⟨#[]⟩, 0, 0, 0⟩ : aA) 2 HQ cU.out
 clear done
 dsimp only at HX cC
 go_wp2
 change bodyPost _ _ _ _ _ (bF z0 (w.heap.size + 1 + 1) (.int .i64 0) (.int .i64 0) (.int .i64 0) (.int .i64 0) (.string ⟨#[]⟩) (.int .i64 0) (.int .i64 0) (.int .i64 0))
 generalize bF z0 (w.heap.size + 1 + 1) (.int .i64 0) (.int .i64 0) (.int .i64 0) (.int .i64 0) (.string ⟨#[]⟩) (.int .i64 0) (.int .i64 0) (.int .i64 0) = wf at HX cC ⊢
 obtain ⟨e0, e1, e2, e3, e4, e5, e6, e7⟩ := aM HX.out
 exact bodyPost_ret (v := .tuple #[.agg #[.int .i64 0, .int .i64 0, .int .i64 0, .int .i64 0, .string ⟨#[]⟩, .int .i64 0, .int .i64 0, .int .i64 0], (.iface 226 (.pointer (some (E 2))))]) (by simp [results, Tryz.results134, go_sem, e0, e1, e2, e3, e4, e5, e6, e7]) rfl ⟨by rw [HQ.out]; dsimp only; rw [F7], cC.out⟩
set_option maxHeartbeats 40000000 in
theorem aJ4 (w : World) (B : Nat) (E : Int → Addr) (hE : eA w B E) (av ao : Option Addr) (nv cv no co : Nat) (xs : List Int) (l : List aA) (kind qty dv sq : Int) (item : ByteArray) (hx : Ints w B av nv xs) (h : bK w B ao no l) (hB : B ≤ w.heap.size) (hv : nv ≤ 1048576) (hc : no ≤ co) (cM : Fits no co) (hi : item.size ≤ 1048576) (s : cK) (hs : s = cA item (counted xs l)) (h0 : 0 ≤ s.level) (h1 : s.level ≤ 1000000) (k1 : ¬ kind = 1) (uC : s.level % 2 = 1) (e : kind = 2) :
  Calls Tryz.prog 134 #[.agg #[.slice av nv cv, .slice ao no co], .agg #[.int .i64 kind, .string item, .int .i64 qty, .int .i64 dv, .int .i64 sq]] w
   (U1 E (oneOf s.level (decide (s.placed.kind = 4)) kind item qty) w) := by
 have B4 := aPu k1
 have zB := aPu uC
 have Ye := aPu e
 clear k1 uC e
 have hT := uS.mk0 w #[.slice av nv cv, .slice ao no co] #[.int .i64 kind, .string item, .int .i64 qty, .int .i64 dv, .int .i64 sq] #[.int .i64 0, .int .i64 0, .int .i64 0, .int .i64 0, .string ⟨#[]⟩, .int .i64 0, .int .i64 0, .int .i64 0]
 have HX := aPu (hx.below hT.bel hB)
 have HO := aPu (h.below hT.bel hB)
 have HE := aPu (hE.below hT.bel hB)
 have HT := aPu hT
 have yX := hT.bel.size
 have HS := aPu hs
 clear h hx hT hs hE
 obtain ⟨sv, eH⟩ : ∃ sv, sv = decide (s.placed.kind = 4) := ⟨_, rfl⟩
 rw [← eH]
 have lJ := aPu eH
 clear eH
 have hfl := mD
 go_enter Tryz.func134, Tryz.ntmps134
 go_upto_region 1 with fail
 generalize ((w.alloc (.cells #[.slice av nv cv, .slice ao no co] 27)).alloc (.cells #[.int .i64 kind, .string item, .int .i64 qty, .int .i64 dv, .int .i64 sq] 29)).alloc (.cells #[.int .i64 0, .int .i64 0, .int .i64 0, .int .i64 0, .string ⟨#[]⟩, .int .i64 0, .int .i64 0, .int .i64 0] 50) = w0 at HX HO HE HT yX ⊢
 obtain ⟨c0, c1⟩ := pair_cells HT.out.fst
 obtain ⟨d0, d1, d2⟩ := bH HT.out.snd
 go_wp2_with fail
 refine (rJ w0 B av ao nv cv no co xs l item HX.out HO.out (by omega) hv hc cM).mono ?_
 rintro e w1 ⟨rfl, hb⟩
 rw [← HS.out]
 have aT := aPu (HT.out.next hb)
 have eZ := aPu (HE.out.below hb (by omega))
 have dZ := hb.size
 clear hb c0 c1 d0 d1 d2 HT HX HO HE
 obtain ⟨d0, d1, d2⟩ := bH aT.out.snd
 clear HS
 go_upto_region 2 with (refine wpList_store_rowTo rfl 96 _ _ rfl rfl w1.heap.size s.cells rfl rfl 96 _ (World.alloc_heap_new _ _) (iJ s) rfl (lZ s) ?_)
 rw [World.setRow_alloc_new]
 have aW := ((Below.refl w1.heap.size w1).alloc aPw (.cells s.cells 96))
 have bP := aPu aW
 have aJ := aPu (aT.out.next aW)
 have dP := aPu (eZ.out.below aW (by omega))
 have bZ := aPu (World.alloc_heap_new w1 (.cells s.cells 96))
 have dS := aW.size
 clear aW aT eZ d0 d1 d2
 generalize w1.alloc (.cells s.cells 96) = w2 at aJ dP bZ bP dS ⊢
 have jZ : w1.heap.size < w2.heap.size := (aPv bZ.out).1
 generalize w1.heap.size = sb at bZ jZ bP dS dZ ⊢
 obtain ⟨d0, d1, d2⟩ := bH aJ.out.snd
 have s0 : w2.cell? ⟨sb, 0, none⟩ = some (.int .i64 s.level) := (aPx bZ.out).trans rfl
 have M7 := dP.out.low
 have hlw : IntKind.i64.wrap (s.level + 1) = s.level + 1 := IntWalk.i64_in _ (by omega)
 have done : ∀ (wr : World) (q : aA) (code : Int), Hid (oneOf s.level sv kind item qty = (q, code)) → Below w2.heap.size w2 wr →
   Hid ((bF wr (w.heap.size + 1 + 1) (.int .i64 q.dev) (.int .i64 q.seq) (.int .i64 q.stamp) (.int .i64 q.kind) (.string q.item) (.int .i64 q.qty) (.int .i64 q.level) (.int .i64 q.undos)).heap[w.heap.size + 1 + 1]? = some (.cells #[.int .i64 q.dev, .int .i64 q.seq, .int .i64 q.stamp, .int .i64 q.kind, .string q.item, .int .i64 q.qty, .int .i64 q.level, .int .i64 q.undos] 50 (0, 0))) ∧
   Hid (Below w.heap.size w (bF wr (w.heap.size + 1 + 1) (.int .i64 q.dev) (.int .i64 q.seq) (.int .i64 q.stamp) (.int .i64 q.kind) (.string q.item) (.int .i64 q.qty) (.int .i64 q.level) (.int .i64 q.undos))) := by
  intro wr q code hq hb
  exact ⟨gU _ _ _ _ _ _ _ _ (aJ.out.next hb).res, gA _ _ _ _ _ _ _ _ (aJ.out.next hb).bel (by omega)⟩
 have k1 := B4.out
 have k1b : (kind == 1) = false := beq_eq_false_iff_ne.2 k1
 go_wp2_with (refine wpList_load_row rfl 96 _ rfl sb rfl _ s.cells _ _ bZ.out Tryz.underlying96 rfl (iJ s) ?_)
 refine (mB s h0 w2).mono ?_
 rintro e w3 ⟨rfl, aR⟩
 dsimp only
 have hm := zB.out
 have yO : decide (s.level % 2 = 1) = true := decide_eq_true hm
 rw [yO]
 have bD := aPu (aJ.out.next aR)
 have gM := aPu ((aR.block _ jZ).trans bZ.out)
 have dQ := aPu aR
 clear aR d0 d1 d2 s0
 obtain ⟨d0, d1, d2⟩ := bH bD.out.snd
 have s0 : w3.cell? ⟨sb, 0, none⟩ = some (.int .i64 s.level) := (aPx gM.out).trans rfl
 have A5 : xB s = sv := by
  rw [lJ.out]; exact if_pos hm
 go_wp2_with (refine wpList_load_row rfl 96 _ rfl sb rfl _ s.cells _ _ gM.out Tryz.underlying96 rfl (iJ s) ?_)
 refine (X8 s item h0 hi w3).mono ?_
 rintro e w4 ⟨rfl, cW⟩
 rw [A5]
 generalize xD _ _ = li
 generalize xC _ = lq
 have aU : Below w2.heap.size w2 w4 := dQ.out.trans (cW.mono dQ.out.size)
 clear cW bD gM dQ A5
 have dQ := aPu aU
 have bD := aPu (aJ.out.next aU)
 have gM := aPu ((aU.block _ jZ).trans bZ.out)
 have g2 : w4.cell? ⟨2, 0, none⟩ = some (.iface 226 (.pointer (some (E 2)))) := (dP.out.below aU (by omega)).cells 2 (by omega) (by omega)
 have g3 : w4.cell? ⟨3, 0, none⟩ = some (.iface 226 (.pointer (some (E 3)))) := (dP.out.below aU (by omega)).cells 3 (by omega) (by omega)
 clear aU d0 d1 d2 s0
 obtain ⟨d0, d1, d2⟩ := bH bD.out.snd
 obtain ⟨r0, r1, r2, r3, r4, r5, r6, r7⟩ := aM bD.out.res
 obtain ⟨f0, f1, f2, f3, f4, f5, f6, f7⟩ := cL bD.out.res
 have s0 : w4.cell? ⟨sb, 0, none⟩ = some (.int .i64 s.level) := (aPx gM.out).trans rfl
 have e := Ye.out
 clear Ye
 subst e
 have HQ : Hid (oneOf s.level sv 2 item qty = ((⟨0, 0, 0, 2, item, qty, 0, 0⟩ : aA), 0)) := by
  show _ = _
  unfold oneOf; rw [if_neg k1, if_pos hm, if_pos rfl]
  try rfl
 obtain ⟨HX, cC⟩ := done w4 (⟨0, 0, 0, 2, item, qty, 0, 0⟩ : aA) 0 HQ dQ.out
 clear done
 dsimp only at HX cC
 go_wp2
 change bodyPost _ _ _ _ _ (bF w4 (w.heap.size + 1 + 1) (.int .i64 0) (.int .i64 0) (.int .i64 0) (.int .i64 2) (.string item) (.int .i64 qty) (.int .i64 0) (.int .i64 0))
 generalize bF w4 (w.heap.size + 1 + 1) (.int .i64 0) (.int .i64 0) (.int .i64 0) (.int .i64 2) (.string item) (.int .i64 qty) (.int .i64 0) (.int .i64 0) = wf at HX cC ⊢
 obtain ⟨e0, e1, e2, e3, e4, e5, e6, e7⟩ := aM HX.out
 exact bodyPost_ret (v := .tuple #[.agg #[.int .i64 0, .int .i64 0, .int .i64 0, .int .i64 2, .string item, .int .i64 qty, .int .i64 0, .int .i64 0], .nilIface]) (by simp [results, Tryz.results134, go_sem, e0, e1, e2, e3, e4, e5, e6, e7]) rfl ⟨by rw [HQ.out]; dsimp only; rw [F9], cC.out⟩
set_option maxHeartbeats 40000000 in
theorem aJ3 (w : World) (B : Nat) (E : Int → Addr) (hE : eA w B E) (av ao : Option Addr) (nv cv no co : Nat) (xs : List Int) (l : List aA) (kind qty dv sq : Int) (item : ByteArray) (hx : Ints w B av nv xs) (h : bK w B ao no l) (hB : B ≤ w.heap.size) (hv : nv ≤ 1048576) (hc : no ≤ co) (cM : Fits no co) (hi : item.size ≤ 1048576) (s : cK) (hs : s = cA item (counted xs l)) (h0 : 0 ≤ s.level) (h1 : s.level ≤ 1000000) (k1 : ¬ kind = 1) (uC : s.level % 2 = 1) (k2 : ¬ kind = 2) (e : kind = 3) :
  Calls Tryz.prog 134 #[.agg #[.slice av nv cv, .slice ao no co], .agg #[.int .i64 kind, .string item, .int .i64 qty, .int .i64 dv, .int .i64 sq]] w
   (U1 E (oneOf s.level (decide (s.placed.kind = 4)) kind item qty) w) := by
 have B4 := aPu k1
 have zB := aPu uC
 have Yk2 := aPu k2
 have Ye := aPu e
 clear k1 uC k2 e
 have hT := uS.mk0 w #[.slice av nv cv, .slice ao no co] #[.int .i64 kind, .string item, .int .i64 qty, .int .i64 dv, .int .i64 sq] #[.int .i64 0, .int .i64 0, .int .i64 0, .int .i64 0, .string ⟨#[]⟩, .int .i64 0, .int .i64 0, .int .i64 0]
 have HX := aPu (hx.below hT.bel hB)
 have HO := aPu (h.below hT.bel hB)
 have HE := aPu (hE.below hT.bel hB)
 have HT := aPu hT
 have yX := hT.bel.size
 have HS := aPu hs
 clear h hx hT hs hE
 obtain ⟨sv, eH⟩ : ∃ sv, sv = decide (s.placed.kind = 4) := ⟨_, rfl⟩
 rw [← eH]
 have lJ := aPu eH
 clear eH
 have hfl := mD
 go_enter Tryz.func134, Tryz.ntmps134
 go_upto_region 1 with fail
 generalize ((w.alloc (.cells #[.slice av nv cv, .slice ao no co] 27)).alloc (.cells #[.int .i64 kind, .string item, .int .i64 qty, .int .i64 dv, .int .i64 sq] 29)).alloc (.cells #[.int .i64 0, .int .i64 0, .int .i64 0, .int .i64 0, .string ⟨#[]⟩, .int .i64 0, .int .i64 0, .int .i64 0] 50) = w0 at HX HO HE HT yX ⊢
 obtain ⟨c0, c1⟩ := pair_cells HT.out.fst
 obtain ⟨d0, d1, d2⟩ := bH HT.out.snd
 go_wp2_with fail
 refine (rJ w0 B av ao nv cv no co xs l item HX.out HO.out (by omega) hv hc cM).mono ?_
 rintro e w1 ⟨rfl, hb⟩
 rw [← HS.out]
 have aT := aPu (HT.out.next hb)
 have eZ := aPu (HE.out.below hb (by omega))
 have dZ := hb.size
 clear hb c0 c1 d0 d1 d2 HT HX HO HE
 obtain ⟨d0, d1, d2⟩ := bH aT.out.snd
 clear HS
 go_upto_region 2 with (refine wpList_store_rowTo rfl 96 _ _ rfl rfl w1.heap.size s.cells rfl rfl 96 _ (World.alloc_heap_new _ _) (iJ s) rfl (lZ s) ?_)
 rw [World.setRow_alloc_new]
 have aW := ((Below.refl w1.heap.size w1).alloc aPw (.cells s.cells 96))
 have bP := aPu aW
 have aJ := aPu (aT.out.next aW)
 have dP := aPu (eZ.out.below aW (by omega))
 have bZ := aPu (World.alloc_heap_new w1 (.cells s.cells 96))
 have dS := aW.size
 clear aW aT eZ d0 d1 d2
 generalize w1.alloc (.cells s.cells 96) = w2 at aJ dP bZ bP dS ⊢
 have jZ : w1.heap.size < w2.heap.size := (aPv bZ.out).1
 generalize w1.heap.size = sb at bZ jZ bP dS dZ ⊢
 obtain ⟨d0, d1, d2⟩ := bH aJ.out.snd
 have s0 : w2.cell? ⟨sb, 0, none⟩ = some (.int .i64 s.level) := (aPx bZ.out).trans rfl
 have M7 := dP.out.low
 have hlw : IntKind.i64.wrap (s.level + 1) = s.level + 1 := IntWalk.i64_in _ (by omega)
 have done : ∀ (wr : World) (q : aA) (code : Int), Hid (oneOf s.level sv kind item qty = (q, code)) → Below w2.heap.size w2 wr →
   Hid ((bF wr (w.heap.size + 1 + 1) (.int .i64 q.dev) (.int .i64 q.seq) (.int .i64 q.stamp) (.int .i64 q.kind) (.string q.item) (.int .i64 q.qty) (.int .i64 q.level) (.int .i64 q.undos)).heap[w.heap.size + 1 + 1]? = some (.cells #[.int .i64 q.dev, .int .i64 q.seq, .int .i64 q.stamp, .int .i64 q.kind, .string q.item, .int .i64 q.qty, .int .i64 q.level, .int .i64 q.undos] 50 (0, 0))) ∧
   Hid (Below w.heap.size w (bF wr (w.heap.size + 1 + 1) (.int .i64 q.dev) (.int .i64 q.seq) (.int .i64 q.stamp) (.int .i64 q.kind) (.string q.item) (.int .i64 q.qty) (.int .i64 q.level) (.int .i64 q.undos))) := by
  intro wr q code hq hb
  exact ⟨gU _ _ _ _ _ _ _ _ (aJ.out.next hb).res, gA _ _ _ _ _ _ _ _ (aJ.out.next hb).bel (by omega)⟩
 have k1 := B4.out
 have k1b : (kind == 1) = false := beq_eq_false_iff_ne.2 k1
 go_wp2_with (refine wpList_load_row rfl 96 _ rfl sb rfl _ s.cells _ _ bZ.out Tryz.underlying96 rfl (iJ s) ?_)
 refine (mB s h0 w2).mono ?_
 rintro e w3 ⟨rfl, aR⟩
 dsimp only
 have hm := zB.out
 have yO : decide (s.level % 2 = 1) = true := decide_eq_true hm
 rw [yO]
 have bD := aPu (aJ.out.next aR)
 have gM := aPu ((aR.block _ jZ).trans bZ.out)
 have dQ := aPu aR
 clear aR d0 d1 d2 s0
 obtain ⟨d0, d1, d2⟩ := bH bD.out.snd
 have s0 : w3.cell? ⟨sb, 0, none⟩ = some (.int .i64 s.level) := (aPx gM.out).trans rfl
 have A5 : xB s = sv := by
  rw [lJ.out]; exact if_pos hm
 go_wp2_with (refine wpList_load_row rfl 96 _ rfl sb rfl _ s.cells _ _ gM.out Tryz.underlying96 rfl (iJ s) ?_)
 refine (X8 s item h0 hi w3).mono ?_
 rintro e w4 ⟨rfl, cW⟩
 rw [A5]
 generalize xD _ _ = li
 generalize xC _ = lq
 have aU : Below w2.heap.size w2 w4 := dQ.out.trans (cW.mono dQ.out.size)
 clear cW bD gM dQ A5
 have dQ := aPu aU
 have bD := aPu (aJ.out.next aU)
 have gM := aPu ((aU.block _ jZ).trans bZ.out)
 have g2 : w4.cell? ⟨2, 0, none⟩ = some (.iface 226 (.pointer (some (E 2)))) := (dP.out.below aU (by omega)).cells 2 (by omega) (by omega)
 have g3 : w4.cell? ⟨3, 0, none⟩ = some (.iface 226 (.pointer (some (E 3)))) := (dP.out.below aU (by omega)).cells 3 (by omega) (by omega)
 clear aU d0 d1 d2 s0
 obtain ⟨d0, d1, d2⟩ := bH bD.out.snd
 obtain ⟨r0, r1, r2, r3, r4, r5, r6, r7⟩ := aM bD.out.res
 obtain ⟨f0, f1, f2, f3, f4, f5, f6, f7⟩ := cL bD.out.res
 have s0 : w4.cell? ⟨sb, 0, none⟩ = some (.int .i64 s.level) := (aPx gM.out).trans rfl
 have k2 := Yk2.out
 have k2b : (kind == 2) = false := beq_eq_false_iff_ne.2 k2
 have e := Ye.out
 clear Ye
 subst e
 have HQ : Hid (oneOf s.level sv 3 item qty = ((⟨0, 0, 0, 3, item, 0, (s.level + 1), 0⟩ : aA), 0)) := by
  show _ = _
  unfold oneOf; rw [if_neg k1, if_pos hm, if_neg k2, if_pos rfl]
  try rfl
 obtain ⟨HX, cC⟩ := done w4 (⟨0, 0, 0, 3, item, 0, (s.level + 1), 0⟩ : aA) 0 HQ dQ.out
 clear done
 dsimp only at HX cC
 go_wp2
 change bodyPost _ _ _ _ _ (bF w4 (w.heap.size + 1 + 1) (.int .i64 0) (.int .i64 0) (.int .i64 0) (.int .i64 3) (.string item) (.int .i64 0) (.int .i64 (s.level + 1)) (.int .i64 0))
 generalize bF w4 (w.heap.size + 1 + 1) (.int .i64 0) (.int .i64 0) (.int .i64 0) (.int .i64 3) (.string item) (.int .i64 0) (.int .i64 (s.level + 1)) (.int .i64 0) = wf at HX cC ⊢
 obtain ⟨e0, e1, e2, e3, e4, e5, e6, e7⟩ := aM HX.out
 exact bodyPost_ret (v := .tuple #[.agg #[.int .i64 0, .int .i64 0, .int .i64 0, .int .i64 3, .string item, .int .i64 0, .int .i64 (s.level + 1), .int .i64 0], .nilIface]) (by simp [results, Tryz.results134, go_sem, e0, e1, e2, e3, e4, e5, e6, e7]) rfl ⟨by rw [HQ.out]; dsimp only; rw [F9], cC.out⟩
set_option maxHeartbeats 40000000 in
theorem aJ2 (w : World) (B : Nat) (E : Int → Addr) (hE : eA w B E) (av ao : Option Addr) (nv cv no co : Nat) (xs : List Int) (l : List aA) (kind qty dv sq : Int) (item : ByteArray) (hx : Ints w B av nv xs) (h : bK w B ao no l) (hB : B ≤ w.heap.size) (hv : nv ≤ 1048576) (hc : no ≤ co) (cM : Fits no co) (hi : item.size ≤ 1048576) (s : cK) (hs : s = cA item (counted xs l)) (h0 : 0 ≤ s.level) (h1 : s.level ≤ 1000000) (k1 : ¬ kind = 1) (uC : s.level % 2 = 1) (k2 : ¬ kind = 2) (k3 : ¬ kind = 3) (e : kind = 4) :
  Calls Tryz.prog 134 #[.agg #[.slice av nv cv, .slice ao no co], .agg #[.int .i64 kind, .string item, .int .i64 qty, .int .i64 dv, .int .i64 sq]] w
   (U1 E (oneOf s.level (decide (s.placed.kind = 4)) kind item qty) w) := by
 have B4 := aPu k1
 have zB := aPu uC
 have Yk2 := aPu k2
 have Yk3 := aPu k3
 have Ye := aPu e
 clear k1 uC k2 k3 e
 have hT := uS.mk0 w #[.slice av nv cv, .slice ao no co] #[.int .i64 kind, .string item, .int .i64 qty, .int .i64 dv, .int .i64 sq] #[.int .i64 0, .int .i64 0, .int .i64 0, .int .i64 0, .string ⟨#[]⟩, .int .i64 0, .int .i64 0, .int .i64 0]
 have HX := aPu (hx.below hT.bel hB)
 have HO := aPu (h.below hT.bel hB)
 have HE := aPu (hE.below hT.bel hB)
 have HT := aPu hT
 have yX := hT.bel.size
 have HS := aPu hs
 clear h hx hT hs hE
 obtain ⟨sv, eH⟩ : ∃ sv, sv = decide (s.placed.kind = 4) := ⟨_, rfl⟩
 rw [← eH]
 have lJ := aPu eH
 clear eH
 have hfl := mD
 go_enter Tryz.func134, Tryz.ntmps134
 go_upto_region 1 with fail
 generalize ((w.alloc (.cells #[.slice av nv cv, .slice ao no co] 27)).alloc (.cells #[.int .i64 kind, .string item, .int .i64 qty, .int .i64 dv, .int .i64 sq] 29)).alloc (.cells #[.int .i64 0, .int .i64 0, .int .i64 0, .int .i64 0, .string ⟨#[]⟩, .int .i64 0, .int .i64 0, .int .i64 0] 50) = w0 at HX HO HE HT yX ⊢
 obtain ⟨c0, c1⟩ := pair_cells HT.out.fst
 obtain ⟨d0, d1, d2⟩ := bH HT.out.snd
 go_wp2_with fail
 refine (rJ w0 B av ao nv cv no co xs l item HX.out HO.out (by omega) hv hc cM).mono ?_
 rintro e w1 ⟨rfl, hb⟩
 rw [← HS.out]
 have aT := aPu (HT.out.next hb)
 have eZ := aPu (HE.out.below hb (by omega))
 have dZ := hb.size
 clear hb c0 c1 d0 d1 d2 HT HX HO HE
 obtain ⟨d0, d1, d2⟩ := bH aT.out.snd
 clear HS
 go_upto_region 2 with (refine wpList_store_rowTo rfl 96 _ _ rfl rfl w1.heap.size s.cells rfl rfl 96 _ (World.alloc_heap_new _ _) (iJ s) rfl (lZ s) ?_)
 rw [World.setRow_alloc_new]
 have aW := ((Below.refl w1.heap.size w1).alloc aPw (.cells s.cells 96))
 have bP := aPu aW
 have aJ := aPu (aT.out.next aW)
 have dP := aPu (eZ.out.below aW (by omega))
 have bZ := aPu (World.alloc_heap_new w1 (.cells s.cells 96))
 have dS := aW.size
 clear aW aT eZ d0 d1 d2
 generalize w1.alloc (.cells s.cells 96) = w2 at aJ dP bZ bP dS ⊢
 have jZ : w1.heap.size < w2.heap.size := (aPv bZ.out).1
 generalize w1.heap.size = sb at bZ jZ bP dS dZ ⊢
 obtain ⟨d0, d1, d2⟩ := bH aJ.out.snd
 have s0 : w2.cell? ⟨sb, 0, none⟩ = some (.int .i64 s.level) := (aPx bZ.out).trans rfl
 have M7 := dP.out.low
 have hlw : IntKind.i64.wrap (s.level + 1) = s.level + 1 := IntWalk.i64_in _ (by omega)
 have done : ∀ (wr : World) (q : aA) (code : Int), Hid (oneOf s.level sv kind item qty = (q, code)) → Below w2.heap.size w2 wr →
   Hid ((bF wr (w.heap.size + 1 + 1) (.int .i64 q.dev) (.int .i64 q.seq) (.int .i64 q.stamp) (.int .i64 q.kind) (.string q.item) (.int .i64 q.qty) (.int .i64 q.level) (.int .i64 q.undos)).heap[w.heap.size + 1 + 1]? = some (.cells #[.int .i64 q.dev, .int .i64 q.seq, .int .i64 q.stamp, .int .i64 q.kind, .string q.item, .int .i64 q.qty, .int .i64 q.level, .int .i64 q.undos] 50 (0, 0))) ∧
   Hid (Below w.heap.size w (bF wr (w.heap.size + 1 + 1) (.int .i64 q.dev) (.int .i64 q.seq) (.int .i64 q.stamp) (.int .i64 q.kind) (.string q.item) (.int .i64 q.qty) (.int .i64 q.level) (.int .i64 q.undos))) := by
  intro wr q code hq hb
  exact ⟨gU _ _ _ _ _ _ _ _ (aJ.out.next hb).res, gA _ _ _ _ _ _ _ _ (aJ.out.next hb).bel (by omega)⟩
 have k1 := B4.out
 have k1b : (kind == 1) = false := beq_eq_false_iff_ne.2 k1
 go_wp2_with (refine wpList_load_row rfl 96 _ rfl sb rfl _ s.cells _ _ bZ.out Tryz.underlying96 rfl (iJ s) ?_)
 refine (mB s h0 w2).mono ?_
 rintro e w3 ⟨rfl, aR⟩
 dsimp only
 have hm := zB.out
 have yO : decide (s.level % 2 = 1) = true := decide_eq_true hm
 rw [yO]
 have bD := aPu (aJ.out.next aR)
 have gM := aPu ((aR.block _ jZ).trans bZ.out)
 have dQ := aPu aR
 clear aR d0 d1 d2 s0
 obtain ⟨d0, d1, d2⟩ := bH bD.out.snd
 have s0 : w3.cell? ⟨sb, 0, none⟩ = some (.int .i64 s.level) := (aPx gM.out).trans rfl
 have A5 : xB s = sv := by
  rw [lJ.out]; exact if_pos hm
 go_wp2_with (refine wpList_load_row rfl 96 _ rfl sb rfl _ s.cells _ _ gM.out Tryz.underlying96 rfl (iJ s) ?_)
 refine (X8 s item h0 hi w3).mono ?_
 rintro e w4 ⟨rfl, cW⟩
 rw [A5]
 generalize xD _ _ = li
 generalize xC _ = lq
 have aU : Below w2.heap.size w2 w4 := dQ.out.trans (cW.mono dQ.out.size)
 clear cW bD gM dQ A5
 have dQ := aPu aU
 have bD := aPu (aJ.out.next aU)
 have gM := aPu ((aU.block _ jZ).trans bZ.out)
 have g2 : w4.cell? ⟨2, 0, none⟩ = some (.iface 226 (.pointer (some (E 2)))) := (dP.out.below aU (by omega)).cells 2 (by omega) (by omega)
 have g3 : w4.cell? ⟨3, 0, none⟩ = some (.iface 226 (.pointer (some (E 3)))) := (dP.out.below aU (by omega)).cells 3 (by omega) (by omega)
 clear aU d0 d1 d2 s0
 obtain ⟨d0, d1, d2⟩ := bH bD.out.snd
 obtain ⟨r0, r1, r2, r3, r4, r5, r6, r7⟩ := aM bD.out.res
 obtain ⟨f0, f1, f2, f3, f4, f5, f6, f7⟩ := cL bD.out.res
 have s0 : w4.cell? ⟨sb, 0, none⟩ = some (.int .i64 s.level) := (aPx gM.out).trans rfl
 have k2 := Yk2.out
 have k2b : (kind == 2) = false := beq_eq_false_iff_ne.2 k2
 have k3 := Yk3.out
 have k3b : (kind == 3) = false := beq_eq_false_iff_ne.2 k3
 have e := Ye.out
 clear Ye
 subst e
 cases sv
 ·
  have HQ : Hid (oneOf s.level false 4 item qty = ((⟨0, 0, 0, 4, item, 0, 0, 0⟩ : aA), 0)) := by
   show _ = _
   unfold oneOf; rw [if_neg k1, if_pos hm, if_neg k2, if_neg k3, if_pos rfl]
   try rfl
  obtain ⟨HX, cC⟩ := done w4 (⟨0, 0, 0, 4, item, 0, 0, 0⟩ : aA) 0 HQ dQ.out; clear done
  dsimp only at HX cC
  go_wp2
  change bodyPost _ _ _ _ _ (bF w4 (w.heap.size + 1 + 1) (.int .i64 0) (.int .i64 0) (.int .i64 0) (.int .i64 4) (.string item) (.int .i64 0) (.int .i64 0) (.int .i64 0))
  generalize bF w4 (w.heap.size + 1 + 1) (.int .i64 0) (.int .i64 0) (.int .i64 0) (.int .i64 4) (.string item) (.int .i64 0) (.int .i64 0) (.int .i64 0) = wf at HX cC ⊢; obtain ⟨e0, e1, e2, e3, e4, e5, e6, e7⟩ := aM HX.out; exact bodyPost_ret (v := .tuple #[.agg #[.int .i64 0, .int .i64 0, .int .i64 0, .int .i64 4, .string item, .int .i64 0, .int .i64 0, .int .i64 0], .nilIface]) (by simp [results, Tryz.results134, go_sem, e0, e1, e2, e3, e4, e5, e6, e7]) rfl ⟨by rw [HQ.out]; dsimp only; rw [F9], cC.out⟩
 ·
  have HQ : Hid (oneOf s.level true 4 item qty = ((⟨0, 0, 0, 0, ⟨#[]⟩, 0, 0, 0⟩ : aA), 2)) := by
   show _ = _
   unfold oneOf; rw [if_neg k1, if_pos hm, if_neg k2, if_neg k3, if_pos rfl]
   try rfl
  clear r0 r1 r2 r3 r4 r5 r6 r7 f0 f1 f2 f3 f4 f5 f6 f7
  go_wp2_with fail
  refine wp_region_held_drew (S := fun w' => w'.cell? ⟨2, 0, none⟩ = some (.iface 226 (.pointer (some (E 2))))) (by kernel_rfl) g2 (fun aP => ?_)
  have cU : Hid (Below w2.heap.size w2 w4.drew) := dQ.out.trans ⟨rfl, rfl, rfl, Nat.le_refl _, fun _ _ => rfl⟩
  generalize w4.drew = z0 at cU aP ⊢; have cR := aPu (aJ.out.next cU.out); obtain ⟨r0, r1, r2, r3, r4, r5, r6, r7⟩ := aM cR.out.res; obtain ⟨f0, f1, f2, f3, f4, f5, f6, f7⟩ := cL cR.out.res; refine tj 0 ?_
  refine tj 1 ?_
  refine rk 2 rfl (fun K hK => ?_)
  go_simp
  refine hK.out _ _ ((World.cell?_of_block (a := ⟨2, 0, none⟩) (qO (w := z0) (b := w.heap.size + 1 + 1) (k := 2) (.int .i64 0) (.int .i64 0) (.int .i64 0) (.int .i64 0) (.string ⟨#[]⟩) (.int .i64 0) (.int .i64 0) (.int .i64 0) (by omega))).trans aP) (fun bG => ?_)
  clear hK K
  (try simp only [Act.put, u1, u2, u3])
  refine tj 3 ?_
  refine wpAnyH_done (by kernel_rfl) ?_ _
  obtain ⟨HX, cC⟩ := done z0 (⟨0, 0, 0, 0, ⟨#[]⟩, 0, 0, 0⟩ : aA) 2 HQ cU.out; clear done
  dsimp only at HX cC
  go_wp2
  change bodyPost _ _ _ _ _ (bF z0 (w.heap.size + 1 + 1) (.int .i64 0) (.int .i64 0) (.int .i64 0) (.int .i64 0) (.string ⟨#[]⟩) (.int .i64 0) (.int .i64 0) (.int .i64 0))
  generalize bF z0 (w.heap.size + 1 + 1) (.int .i64 0) (.int .i64 0) (.int .i64 0) (.int .i64 0) (.string ⟨#[]⟩) (.int .i64 0) (.int .i64 0) (.int .i64 0) = wf at HX cC ⊢; obtain ⟨e0, e1, e2, e3, e4, e5, e6, e7⟩ := aM HX.out; exact bodyPost_ret (v := .tuple #[.agg #[.int .i64 0, .int .i64 0, .int .i64 0, .int .i64 0, .string ⟨#[]⟩, .int .i64 0, .int .i64 0, .int .i64 0], (.iface 226 (.pointer (some (E 2))))]) (by simp [results, Tryz.results134, go_sem, e0, e1, e2, e3, e4, e5, e6, e7]) rfl ⟨by rw [HQ.out]; dsimp only; rw [F7], cC.out⟩
set_option maxHeartbeats 40000000 in
theorem aJ1 (w : World) (B : Nat) (E : Int → Addr) (hE : eA w B E) (av ao : Option Addr) (nv cv no co : Nat) (xs : List Int) (l : List aA) (kind qty dv sq : Int) (item : ByteArray) (hx : Ints w B av nv xs) (h : bK w B ao no l) (hB : B ≤ w.heap.size) (hv : nv ≤ 1048576) (hc : no ≤ co) (cM : Fits no co) (hi : item.size ≤ 1048576) (s : cK) (hs : s = cA item (counted xs l)) (h0 : 0 ≤ s.level) (h1 : s.level ≤ 1000000) (k1 : ¬ kind = 1) (uC : s.level % 2 = 1) (k2 : ¬ kind = 2) (k3 : ¬ kind = 3) (k4 : ¬ kind = 4) (e : kind = 5) :
  Calls Tryz.prog 134 #[.agg #[.slice av nv cv, .slice ao no co], .agg #[.int .i64 kind, .string item, .int .i64 qty, .int .i64 dv, .int .i64 sq]] w
   (U1 E (oneOf s.level (decide (s.placed.kind = 4)) kind item qty) w) := by
 have B4 := aPu k1
 have zB := aPu uC
 have Yk2 := aPu k2
 have Yk3 := aPu k3
 have Yk4 := aPu k4
 have Ye := aPu e
 clear k1 uC k2 k3 k4 e
 have hT := uS.mk0 w #[.slice av nv cv, .slice ao no co] #[.int .i64 kind, .string item, .int .i64 qty, .int .i64 dv, .int .i64 sq] #[.int .i64 0, .int .i64 0, .int .i64 0, .int .i64 0, .string ⟨#[]⟩, .int .i64 0, .int .i64 0, .int .i64 0]
 have HX := aPu (hx.below hT.bel hB)
 have HO := aPu (h.below hT.bel hB)
 have HE := aPu (hE.below hT.bel hB)
 have HT := aPu hT
 have yX := hT.bel.size
 have HS := aPu hs
 clear h hx hT hs hE
 obtain ⟨sv, eH⟩ : ∃ sv, sv = decide (s.placed.kind = 4) := ⟨_, rfl⟩
 rw [← eH]
 have lJ := aPu eH
 clear eH
 have hfl := mD
 go_enter Tryz.func134, Tryz.ntmps134
 go_upto_region 1 with fail
 generalize ((w.alloc (.cells #[.slice av nv cv, .slice ao no co] 27)).alloc (.cells #[.int .i64 kind, .string item, .int .i64 qty, .int .i64 dv, .int .i64 sq] 29)).alloc (.cells #[.int .i64 0, .int .i64 0, .int .i64 0, .int .i64 0, .string ⟨#[]⟩, .int .i64 0, .int .i64 0, .int .i64 0] 50) = w0 at HX HO HE HT yX ⊢
 obtain ⟨c0, c1⟩ := pair_cells HT.out.fst
 obtain ⟨d0, d1, d2⟩ := bH HT.out.snd
 go_wp2_with fail
 refine (rJ w0 B av ao nv cv no co xs l item HX.out HO.out (by omega) hv hc cM).mono ?_
 rintro e w1 ⟨rfl, hb⟩
 rw [← HS.out]
 have aT := aPu (HT.out.next hb)
 have eZ := aPu (HE.out.below hb (by omega))
 have dZ := hb.size
 clear hb c0 c1 d0 d1 d2 HT HX HO HE
 obtain ⟨d0, d1, d2⟩ := bH aT.out.snd
 clear HS
 go_upto_region 2 with (refine wpList_store_rowTo rfl 96 _ _ rfl rfl w1.heap.size s.cells rfl rfl 96 _ (World.alloc_heap_new _ _) (iJ s) rfl (lZ s) ?_)
 rw [World.setRow_alloc_new]
 have aW := ((Below.refl w1.heap.size w1).alloc aPw (.cells s.cells 96))
 have bP := aPu aW
 have aJ := aPu (aT.out.next aW)
 have dP := aPu (eZ.out.below aW (by omega))
 have bZ := aPu (World.alloc_heap_new w1 (.cells s.cells 96))
 have dS := aW.size
 clear aW aT eZ d0 d1 d2
 generalize w1.alloc (.cells s.cells 96) = w2 at aJ dP bZ bP dS ⊢
 have jZ : w1.heap.size < w2.heap.size := (aPv bZ.out).1
 generalize w1.heap.size = sb at bZ jZ bP dS dZ ⊢
 obtain ⟨d0, d1, d2⟩ := bH aJ.out.snd
 have s0 : w2.cell? ⟨sb, 0, none⟩ = some (.int .i64 s.level) := (aPx bZ.out).trans rfl
 have M7 := dP.out.low
 have hlw : IntKind.i64.wrap (s.level + 1) = s.level + 1 := IntWalk.i64_in _ (by omega)
 have done : ∀ (wr : World) (q : aA) (code : Int), Hid (oneOf s.level sv kind item qty = (q, code)) → Below w2.heap.size w2 wr →
   Hid ((bF wr (w.heap.size + 1 + 1) (.int .i64 q.dev) (.int .i64 q.seq) (.int .i64 q.stamp) (.int .i64 q.kind) (.string q.item) (.int .i64 q.qty) (.int .i64 q.level) (.int .i64 q.undos)).heap[w.heap.size + 1 + 1]? = some (.cells #[.int .i64 q.dev, .int .i64 q.seq, .int .i64 q.stamp, .int .i64 q.kind, .string q.item, .int .i64 q.qty, .int .i64 q.level, .int .i64 q.undos] 50 (0, 0))) ∧
   Hid (Below w.heap.size w (bF wr (w.heap.size + 1 + 1) (.int .i64 q.dev) (.int .i64 q.seq) (.int .i64 q.stamp) (.int .i64 q.kind) (.string q.item) (.int .i64 q.qty) (.int .i64 q.level) (.int .i64 q.undos))) := by
  intro wr q code hq hb
  exact ⟨gU _ _ _ _ _ _ _ _ (aJ.out.next hb).res, gA _ _ _ _ _ _ _ _ (aJ.out.next hb).bel (by omega)⟩
 have k1 := B4.out
 have k1b : (kind == 1) = false := beq_eq_false_iff_ne.2 k1
 go_wp2_with (refine wpList_load_row rfl 96 _ rfl sb rfl _ s.cells _ _ bZ.out Tryz.underlying96 rfl (iJ s) ?_)
 refine (mB s h0 w2).mono ?_
 rintro e w3 ⟨rfl, aR⟩
 dsimp only
 have hm := zB.out
 have yO : decide (s.level % 2 = 1) = true := decide_eq_true hm
 rw [yO]
 have bD := aPu (aJ.out.next aR)
 have gM := aPu ((aR.block _ jZ).trans bZ.out)
 have dQ := aPu aR
 clear aR d0 d1 d2 s0
 obtain ⟨d0, d1, d2⟩ := bH bD.out.snd
 have s0 : w3.cell? ⟨sb, 0, none⟩ = some (.int .i64 s.level) := (aPx gM.out).trans rfl
 have A5 : xB s = sv := by
  rw [lJ.out]; exact if_pos hm
 go_wp2_with (refine wpList_load_row rfl 96 _ rfl sb rfl _ s.cells _ _ gM.out Tryz.underlying96 rfl (iJ s) ?_)
 refine (X8 s item h0 hi w3).mono ?_
 rintro e w4 ⟨rfl, cW⟩
 rw [A5]
 generalize xD _ _ = li
 generalize xC _ = lq
 have aU : Below w2.heap.size w2 w4 := dQ.out.trans (cW.mono dQ.out.size)
 clear cW bD gM dQ A5
 have dQ := aPu aU
 have bD := aPu (aJ.out.next aU)
 have gM := aPu ((aU.block _ jZ).trans bZ.out)
 have g2 : w4.cell? ⟨2, 0, none⟩ = some (.iface 226 (.pointer (some (E 2)))) := (dP.out.below aU (by omega)).cells 2 (by omega) (by omega)
 have g3 : w4.cell? ⟨3, 0, none⟩ = some (.iface 226 (.pointer (some (E 3)))) := (dP.out.below aU (by omega)).cells 3 (by omega) (by omega)
 clear aU d0 d1 d2 s0
 obtain ⟨d0, d1, d2⟩ := bH bD.out.snd
 obtain ⟨r0, r1, r2, r3, r4, r5, r6, r7⟩ := aM bD.out.res
 obtain ⟨f0, f1, f2, f3, f4, f5, f6, f7⟩ := cL bD.out.res
 have s0 : w4.cell? ⟨sb, 0, none⟩ = some (.int .i64 s.level) := (aPx gM.out).trans rfl
 have k2 := Yk2.out
 have k2b : (kind == 2) = false := beq_eq_false_iff_ne.2 k2
 have k3 := Yk3.out
 have k3b : (kind == 3) = false := beq_eq_false_iff_ne.2 k3
 have k4 := Yk4.out
 have k4b : (kind == 4) = false := beq_eq_false_iff_ne.2 k4
 have e := Ye.out
 clear Ye
 subst e
 cases sv
 ·
  have HQ : Hid (oneOf s.level false 5 item qty = ((⟨0, 0, 0, 0, ⟨#[]⟩, 0, 0, 0⟩ : aA), 2)) := by
   show _ = _
   unfold oneOf; rw [if_neg k1, if_pos hm, if_neg k2, if_neg k3, if_neg k4, if_pos rfl]
   try rfl
  clear r0 r1 r2 r3 r4 r5 r6 r7 f0 f1 f2 f3 f4 f5 f6 f7
  go_wp2_with fail
  refine wp_region_held_drew (S := fun w' => w'.cell? ⟨2, 0, none⟩ = some (.iface 226 (.pointer (some (E 2))))) (by kernel_rfl) g2 (fun aP => ?_)
  have cU : Hid (Below w2.heap.size w2 w4.drew) := dQ.out.trans ⟨rfl, rfl, rfl, Nat.le_refl _, fun _ _ => rfl⟩
  generalize w4.drew = z0 at cU aP ⊢; have cR := aPu (aJ.out.next cU.out); obtain ⟨r0, r1, r2, r3, r4, r5, r6, r7⟩ := aM cR.out.res; obtain ⟨f0, f1, f2, f3, f4, f5, f6, f7⟩ := cL cR.out.res; refine tj 0 ?_
  refine tj 1 ?_
  refine rk 2 rfl (fun K hK => ?_)
  go_simp
  refine hK.out _ _ ((World.cell?_of_block (a := ⟨2, 0, none⟩) (qO (w := z0) (b := w.heap.size + 1 + 1) (k := 2) (.int .i64 0) (.int .i64 0) (.int .i64 0) (.int .i64 0) (.string ⟨#[]⟩) (.int .i64 0) (.int .i64 0) (.int .i64 0) (by omega))).trans aP) (fun bG => ?_)
  clear hK K
  (try simp only [Act.put, u1, u2, u3])
  refine tj 3 ?_
  refine wpAnyH_done (by kernel_rfl) ?_ _
  obtain ⟨HX, cC⟩ := done z0 (⟨0, 0, 0, 0, ⟨#[]⟩, 0, 0, 0⟩ : aA) 2 HQ cU.out; clear done
  dsimp only at HX cC
  go_wp2
  change bodyPost _ _ _ _ _ (bF z0 (w.heap.size + 1 + 1) (.int .i64 0) (.int .i64 0) (.int .i64 0) (.int .i64 0) (.string ⟨#[]⟩) (.int .i64 0) (.int .i64 0) (.int .i64 0))
  generalize bF z0 (w.heap.size + 1 + 1) (.int .i64 0) (.int .i64 0) (.int .i64 0) (.int .i64 0) (.string ⟨#[]⟩) (.int .i64 0) (.int .i64 0) (.int .i64 0) = wf at HX cC ⊢; obtain ⟨e0, e1, e2, e3, e4, e5, e6, e7⟩ := aM HX.out; exact bodyPost_ret (v := .tuple #[.agg #[.int .i64 0, .int .i64 0, .int .i64 0, .int .i64 0, .string ⟨#[]⟩, .int .i64 0, .int .i64 0, .int .i64 0], (.iface 226 (.pointer (some (E 2))))]) (by simp [results, Tryz.results134, go_sem, e0, e1, e2, e3, e4, e5, e6, e7]) rfl ⟨by rw [HQ.out]; dsimp only; rw [F7], cC.out⟩
 ·
  have HQ : Hid (oneOf s.level true 5 item qty = ((⟨0, 0, 0, 5, item, 0, 0, 0⟩ : aA), 0)) := by
   show _ = _
   unfold oneOf; rw [if_neg k1, if_pos hm, if_neg k2, if_neg k3, if_neg k4, if_pos rfl]
   try rfl
  obtain ⟨HX, cC⟩ := done w4 (⟨0, 0, 0, 5, item, 0, 0, 0⟩ : aA) 0 HQ dQ.out; clear done
  dsimp only at HX cC
  go_wp2
  change bodyPost _ _ _ _ _ (bF w4 (w.heap.size + 1 + 1) (.int .i64 0) (.int .i64 0) (.int .i64 0) (.int .i64 5) (.string item) (.int .i64 0) (.int .i64 0) (.int .i64 0))
  generalize bF w4 (w.heap.size + 1 + 1) (.int .i64 0) (.int .i64 0) (.int .i64 0) (.int .i64 5) (.string item) (.int .i64 0) (.int .i64 0) (.int .i64 0) = wf at HX cC ⊢; obtain ⟨e0, e1, e2, e3, e4, e5, e6, e7⟩ := aM HX.out; exact bodyPost_ret (v := .tuple #[.agg #[.int .i64 0, .int .i64 0, .int .i64 0, .int .i64 5, .string item, .int .i64 0, .int .i64 0, .int .i64 0], .nilIface]) (by simp [results, Tryz.results134, go_sem, e0, e1, e2, e3, e4, e5, e6, e7]) rfl ⟨by rw [HQ.out]; dsimp only; rw [F9], cC.out⟩
set_option maxHeartbeats 40000000 in
theorem aJ0 (w : World) (B : Nat) (E : Int → Addr) (hE : eA w B E) (av ao : Option Addr) (nv cv no co : Nat) (xs : List Int) (l : List aA) (kind qty dv sq : Int) (item : ByteArray) (hx : Ints w B av nv xs) (h : bK w B ao no l) (hB : B ≤ w.heap.size) (hv : nv ≤ 1048576) (hc : no ≤ co) (cM : Fits no co) (hi : item.size ≤ 1048576) (s : cK) (hs : s = cA item (counted xs l)) (h0 : 0 ≤ s.level) (h1 : s.level ≤ 1000000) (k1 : ¬ kind = 1) (uC : s.level % 2 = 1) (k2 : ¬ kind = 2) (k3 : ¬ kind = 3) (k4 : ¬ kind = 4) (k5 : ¬ kind = 5) :
  Calls Tryz.prog 134 #[.agg #[.slice av nv cv, .slice ao no co], .agg #[.int .i64 kind, .string item, .int .i64 qty, .int .i64 dv, .int .i64 sq]] w
   (U1 E (oneOf s.level (decide (s.placed.kind = 4)) kind item qty) w) := by
 have B4 := aPu k1
 have zB := aPu uC
 have Yk2 := aPu k2
 have Yk3 := aPu k3
 have Yk4 := aPu k4
 have Yk5 := aPu k5
 clear k1 uC k2 k3 k4 k5
 have hT := uS.mk0 w #[.slice av nv cv, .slice ao no co] #[.int .i64 kind, .string item, .int .i64 qty, .int .i64 dv, .int .i64 sq] #[.int .i64 0, .int .i64 0, .int .i64 0, .int .i64 0, .string ⟨#[]⟩, .int .i64 0, .int .i64 0, .int .i64 0]
 have HX := aPu (hx.below hT.bel hB)
 have HO := aPu (h.below hT.bel hB)
 have HE := aPu (hE.below hT.bel hB)
 have HT := aPu hT
 have yX := hT.bel.size
 have HS := aPu hs
 clear h hx hT hs hE
 obtain ⟨sv, eH⟩ : ∃ sv, sv = decide (s.placed.kind = 4) := ⟨_, rfl⟩
 rw [← eH]
 have lJ := aPu eH
 clear eH
 have hfl := mD
 go_enter Tryz.func134, Tryz.ntmps134
 go_upto_region 1 with fail
 generalize ((w.alloc (.cells #[.slice av nv cv, .slice ao no co] 27)).alloc (.cells #[.int .i64 kind, .string item, .int .i64 qty, .int .i64 dv, .int .i64 sq] 29)).alloc (.cells #[.int .i64 0, .int .i64 0, .int .i64 0, .int .i64 0, .string ⟨#[]⟩, .int .i64 0, .int .i64 0, .int .i64 0] 50) = w0 at HX HO HE HT yX ⊢
 obtain ⟨c0, c1⟩ := pair_cells HT.out.fst
 obtain ⟨d0, d1, d2⟩ := bH HT.out.snd
 go_wp2_with fail
 refine (rJ w0 B av ao nv cv no co xs l item HX.out HO.out (by omega) hv hc cM).mono ?_
 rintro e w1 ⟨rfl, hb⟩
 rw [← HS.out]
 have aT := aPu (HT.out.next hb)
 have eZ := aPu (HE.out.below hb (by omega))
 have dZ := hb.size
 clear hb c0 c1 d0 d1 d2 HT HX HO HE
 obtain ⟨d0, d1, d2⟩ := bH aT.out.snd
 clear HS
 go_upto_region 2 with (refine wpList_store_rowTo rfl 96 _ _ rfl rfl w1.heap.size s.cells rfl rfl 96 _ (World.alloc_heap_new _ _) (iJ s) rfl (lZ s) ?_)
 rw [World.setRow_alloc_new]
 have aW := ((Below.refl w1.heap.size w1).alloc aPw (.cells s.cells 96))
 have bP := aPu aW
 have aJ := aPu (aT.out.next aW)
 have dP := aPu (eZ.out.below aW (by omega))
 have bZ := aPu (World.alloc_heap_new w1 (.cells s.cells 96))
 have dS := aW.size
 clear aW aT eZ d0 d1 d2
 generalize w1.alloc (.cells s.cells 96) = w2 at aJ dP bZ bP dS ⊢
 have jZ : w1.heap.size < w2.heap.size := (aPv bZ.out).1
 generalize w1.heap.size = sb at bZ jZ bP dS dZ ⊢
 obtain ⟨d0, d1, d2⟩ := bH aJ.out.snd
 have s0 : w2.cell? ⟨sb, 0, none⟩ = some (.int .i64 s.level) := (aPx bZ.out).trans rfl
 have M7 := dP.out.low
 have hlw : IntKind.i64.wrap (s.level + 1) = s.level + 1 := IntWalk.i64_in _ (by omega)
 have done : ∀ (wr : World) (q : aA) (code : Int), Hid (oneOf s.level sv kind item qty = (q, code)) → Below w2.heap.size w2 wr →
   Hid ((bF wr (w.heap.size + 1 + 1) (.int .i64 q.dev) (.int .i64 q.seq) (.int .i64 q.stamp) (.int .i64 q.kind) (.string q.item) (.int .i64 q.qty) (.int .i64 q.level) (.int .i64 q.undos)).heap[w.heap.size + 1 + 1]? = some (.cells #[.int .i64 q.dev, .int .i64 q.seq, .int .i64 q.stamp, .int .i64 q.kind, .string q.item, .int .i64 q.qty, .int .i64 q.level, .int .i64 q.undos] 50 (0, 0))) ∧
   Hid (Below w.heap.size w (bF wr (w.heap.size + 1 + 1) (.int .i64 q.dev) (.int .i64 q.seq) (.int .i64 q.stamp) (.int .i64 q.kind) (.string q.item) (.int .i64 q.qty) (.int .i64 q.level) (.int .i64 q.undos))) := by
  intro wr q code hq hb
  exact ⟨gU _ _ _ _ _ _ _ _ (aJ.out.next hb).res, gA _ _ _ _ _ _ _ _ (aJ.out.next hb).bel (by omega)⟩
 have k1 := B4.out
 have k1b : (kind == 1) = false := beq_eq_false_iff_ne.2 k1
 go_wp2_with (refine wpList_load_row rfl 96 _ rfl sb rfl _ s.cells _ _ bZ.out Tryz.underlying96 rfl (iJ s) ?_)
 refine (mB s h0 w2).mono ?_
 rintro e w3 ⟨rfl, aR⟩
 dsimp only
 have hm := zB.out
 have yO : decide (s.level % 2 = 1) = true := decide_eq_true hm
 rw [yO]
 have bD := aPu (aJ.out.next aR)
 have gM := aPu ((aR.block _ jZ).trans bZ.out)
 have dQ := aPu aR
 clear aR d0 d1 d2 s0
 obtain ⟨d0, d1, d2⟩ := bH bD.out.snd
 have s0 : w3.cell? ⟨sb, 0, none⟩ = some (.int .i64 s.level) := (aPx gM.out).trans rfl
 have A5 : xB s = sv := by
  rw [lJ.out]; exact if_pos hm
 go_wp2_with (refine wpList_load_row rfl 96 _ rfl sb rfl _ s.cells _ _ gM.out Tryz.underlying96 rfl (iJ s) ?_)
 refine (X8 s item h0 hi w3).mono ?_
 rintro e w4 ⟨rfl, cW⟩
 rw [A5]
 generalize xD _ _ = li
 generalize xC _ = lq
 have aU : Below w2.heap.size w2 w4 := dQ.out.trans (cW.mono dQ.out.size)
 clear cW bD gM dQ A5
 have dQ := aPu aU
 have bD := aPu (aJ.out.next aU)
 have gM := aPu ((aU.block _ jZ).trans bZ.out)
 have g2 : w4.cell? ⟨2, 0, none⟩ = some (.iface 226 (.pointer (some (E 2)))) := (dP.out.below aU (by omega)).cells 2 (by omega) (by omega)
 have g3 : w4.cell? ⟨3, 0, none⟩ = some (.iface 226 (.pointer (some (E 3)))) := (dP.out.below aU (by omega)).cells 3 (by omega) (by omega)
 clear aU d0 d1 d2 s0
 obtain ⟨d0, d1, d2⟩ := bH bD.out.snd
 obtain ⟨r0, r1, r2, r3, r4, r5, r6, r7⟩ := aM bD.out.res
 obtain ⟨f0, f1, f2, f3, f4, f5, f6, f7⟩ := cL bD.out.res
 have s0 : w4.cell? ⟨sb, 0, none⟩ = some (.int .i64 s.level) := (aPx gM.out).trans rfl
 have k2 := Yk2.out
 have k2b : (kind == 2) = false := beq_eq_false_iff_ne.2 k2
 have k3 := Yk3.out
 have k3b : (kind == 3) = false := beq_eq_false_iff_ne.2 k3
 have k4 := Yk4.out
 have k4b : (kind == 4) = false := beq_eq_false_iff_ne.2 k4
 have k5 := Yk5.out
 have k5b : (kind == 5) = false := beq_eq_false_iff_ne.2 k5
 have HQ : Hid (oneOf s.level sv kind item qty = ((⟨0, 0, 0, 0, ⟨#[]⟩, 0, 0, 0⟩ : aA), 2)) := by
  show _ = _
  unfold oneOf; rw [if_neg k1, if_pos hm, if_neg k2, if_neg k3, if_neg k4, if_neg k5]
  try rfl
 clear r0 r1 r2 r3 r4 r5 r6 r7 f0 f1 f2 f3 f4 f5 f6 f7
 go_wp2_with fail
 refine wp_region_held_drew (S := fun w' => w'.cell? ⟨2, 0, none⟩ = some (.iface 226 (.pointer (some (E 2))))) (by kernel_rfl) g2 (fun aP => ?_)
 have cU : Hid (Below w2.heap.size w2 w4.drew) := dQ.out.trans ⟨rfl, rfl, rfl, Nat.le_refl _, fun _ _ => rfl⟩
 generalize w4.drew = z0 at cU aP ⊢
 have cR := aPu (aJ.out.next cU.out)
 obtain ⟨r0, r1, r2, r3, r4, r5, r6, r7⟩ := aM cR.out.res
 obtain ⟨f0, f1, f2, f3, f4, f5, f6, f7⟩ := cL cR.out.res
 refine tj 0 ?_
 refine tj 1 ?_
 refine rk 2 rfl (fun K hK => ?_)
 go_simp
 refine hK.out _ _ ((World.cell?_of_block (a := ⟨2, 0, none⟩) (qO (w := z0) (b := w.heap.size + 1 + 1) (k := 2) (.int .i64 0) (.int .i64 0) (.int .i64 0) (.int .i64 0) (.string ⟨#[]⟩) (.int .i64 0) (.int .i64 0) (.int .i64 0) (by omega))).trans aP) (fun bG => ?_)
 clear hK K
 (try simp only [Act.put, u1, u2, u3])
 refine tj 3 ?_
 refine wpAnyH_done (by kernel_rfl) ?_ _
 obtain ⟨HX, cC⟩ := done z0 (⟨0, 0, 0, 0, ⟨#[]⟩, 0, 0, 0⟩ : aA) 2 HQ cU.out
 clear done
 dsimp only at HX cC
 go_wp2
 change bodyPost _ _ _ _ _ (bF z0 (w.heap.size + 1 + 1) (.int .i64 0) (.int .i64 0) (.int .i64 0) (.int .i64 0) (.string ⟨#[]⟩) (.int .i64 0) (.int .i64 0) (.int .i64 0))
 generalize bF z0 (w.heap.size + 1 + 1) (.int .i64 0) (.int .i64 0) (.int .i64 0) (.int .i64 0) (.string ⟨#[]⟩) (.int .i64 0) (.int .i64 0) (.int .i64 0) = wf at HX cC ⊢
 obtain ⟨e0, e1, e2, e3, e4, e5, e6, e7⟩ := aM HX.out
 exact bodyPost_ret (v := .tuple #[.agg #[.int .i64 0, .int .i64 0, .int .i64 0, .int .i64 0, .string ⟨#[]⟩, .int .i64 0, .int .i64 0, .int .i64 0], (.iface 226 (.pointer (some (E 2))))]) (by simp [results, Tryz.results134, go_sem, e0, e1, e2, e3, e4, e5, e6, e7]) rfl ⟨by rw [HQ.out]; dsimp only; rw [F7], cC.out⟩
set_option maxHeartbeats 40000000 in
theorem aK2 (w : World) (B : Nat) (E : Int → Addr) (hE : eA w B E) (av ao : Option Addr) (nv cv no co : Nat) (xs : List Int) (l : List aA) (kind qty dv sq : Int) (item : ByteArray) (hx : Ints w B av nv xs) (h : bK w B ao no l) (hB : B ≤ w.heap.size) (hv : nv ≤ 1048576) (hc : no ≤ co) (cM : Fits no co) (hi : item.size ≤ 1048576) (s : cK) (hs : s = cA item (counted xs l)) (h0 : 0 ≤ s.level) (h1 : s.level ≤ 1000000) :
  Calls Tryz.prog 134 #[.agg #[.slice av nv cv, .slice ao no co], .agg #[.int .i64 kind, .string item, .int .i64 qty, .int .i64 dv, .int .i64 sq]] w
   (U1 E (oneOf s.level (decide (s.placed.kind = 4)) kind item qty) w) := by
 by_cases k1 : kind = 1
 ·exact aJZ w B E hE av ao nv cv no co xs l kind qty dv sq item hx h hB hv hc cM hi s hs h0 h1 k1
 by_cases hm : s.level % 2 = 1
 rotate_left
 ·exact aJY w B E hE av ao nv cv no co xs l kind qty dv sq item hx h hB hv hc cM hi s hs h0 h1 k1 hm
 by_cases k2 : kind = 2
 ·exact aJ4 w B E hE av ao nv cv no co xs l kind qty dv sq item hx h hB hv hc cM hi s hs h0 h1 k1 hm k2
 by_cases k3 : kind = 3
 ·exact aJ3 w B E hE av ao nv cv no co xs l kind qty dv sq item hx h hB hv hc cM hi s hs h0 h1 k1 hm k2 k3
 by_cases k4 : kind = 4
 ·exact aJ2 w B E hE av ao nv cv no co xs l kind qty dv sq item hx h hB hv hc cM hi s hs h0 h1 k1 hm k2 k3 k4
 by_cases k5 : kind = 5
 ·exact aJ1 w B E hE av ao nv cv no co xs l kind qty dv sq item hx h hB hv hc cM hi s hs h0 h1 k1 hm k2 k3 k4 k5
 exact aJ0 w B E hE av ao nv cv no co xs l kind qty dv sq item hx h hB hv hc cM hi s hs h0 h1 k1 hm k2 k3 k4 k5
end Go.Proofs.YthkagbnpcjidfaaGreatDoor
