/- Walks and mathematics that several claims share, part 35. -/
import Derived.Test.YthkagbnpcjidfaaGreatDoorGu34
import Derived.Test.YthkagbnpcjidfaaGreatDoorGu20
import Derived.Deep.Cut
import Derived.Lib.Hide
import Derived.Deep.RegionHeld
import Derived.Great.BuildSlice
import Derived.Deep.WholeRow
namespace Go.Proofs.YthkagbnpcjidfaaGreatDoor
set_option maxRecDepth 100000
open Go.RowKit
set_option linter.unusedVariables false
set_option linter.unusedSimpArgs false
def U2 (E : Int → Addr) (r : aA × Int) (w : World) (e : Ending) (w' : World) : Prop :=
 e = .returned (.tuple #[.agg #[.int .i64 r.1.dev, .int .i64 r.1.seq, .int .i64 r.1.stamp, .int .i64 r.1.kind, .string r.1.item, .int .i64 r.1.qty, .int .i64 r.1.level, .int .i64 r.1.undos], kM E r.2]) ∧ Below w.heap.size w w'
theorem G3 (E : Int → Addr) : kM E 0 = .nilIface := by unfold kM; rw [if_pos (by decide)]
theorem G1 (E : Int → Addr) : kM E 2 = .iface 226 (.pointer (some (E 2))) := by unfold kM; rw [if_neg (by decide)]
theorem aLR (E : Int → Addr) : kM E 3 = .iface 226 (.pointer (some (E 3))) := by unfold kM; rw [if_neg (by decide)]
theorem mN (a : ByteArray) (b : Int) (c : Bool) (w : World) : Sem.run Tryz.prog (Instr.field 39 (.agg #[.string a, .int .i64 b, .bool c]) 2) w = .ok (.bool c) w := by kernel_rfl
theorem mL (s : cL) : s.cells.all (·.oneCell') = true := by simp [cL.cells, Value.oneCell']
theorem iA (s : cL) : (Tryz.prog.info? 96).map (·.size) = some s.cells.size := by kernel_rfl
set_option maxHeartbeats 40000000 in
theorem aJ7 (w : World) (B : Nat) (E : Int → Addr) (hE : eG w B E) (av ao : Option Addr) (nv cv no co : Nat) (xs : List Int) (l : List aA) (kind qty dv sq : Int) (item : ByteArray) (hx : Ints w B av nv xs) (h : bP w B ao no l) (hB : B ≤ w.heap.size) (hv : nv ≤ 1048576) (hc : no ≤ co) (dP : Fits no co) (hi : item.size ≤ 1048576) (s : cL) (hs : s = cA item (counted xs l)) (h0 : 0 ≤ s.level) (h1 : s.level ≤ 1000000) (k1 : kind = 1) :
  Calls Tryz.prog 134 #[.agg #[.slice av nv cv, .slice ao no co], .agg #[.int .i64 kind, .string item, .int .i64 qty, .int .i64 dv, .int .i64 sq]] w
   (U2 E (oneOf s.level (decide (s.placed.kind = 4)) kind item qty) w) := by
 have B8 := aPo k1
 clear k1
 have hT := uR.mk0 w #[.slice av nv cv, .slice ao no co] #[.int .i64 kind, .string item, .int .i64 qty, .int .i64 dv, .int .i64 sq] #[.int .i64 0, .int .i64 0, .int .i64 0, .int .i64 0, .string ⟨#[]⟩, .int .i64 0, .int .i64 0, .int .i64 0]
 have HX := aPo (hx.below hT.bel hB)
 have HO := aPo (h.below hT.bel hB)
 have HE := aPo (hE.below hT.bel hB)
 have HT := aPo hT
 have yW := hT.bel.size
 have HS := aPo hs
 clear h hx hT hs hE
 obtain ⟨sv, eK⟩ : ∃ sv, sv = decide (s.placed.kind = 4) := ⟨_, rfl⟩
 rw [← eK]
 have lL := aPo eK
 clear eK
 have hfl := mN
 go_enter Tryz.func134, Tryz.ntmps134
 go_upto_region 1 with fail
 generalize ((w.alloc (.cells #[.slice av nv cv, .slice ao no co] 27)).alloc (.cells #[.int .i64 kind, .string item, .int .i64 qty, .int .i64 dv, .int .i64 sq] 29)).alloc (.cells #[.int .i64 0, .int .i64 0, .int .i64 0, .int .i64 0, .string ⟨#[]⟩, .int .i64 0, .int .i64 0, .int .i64 0] 50) = w0 at HX HO HE HT yW ⊢
 obtain ⟨c0, c1⟩ := pair_cells HT.out.fst
 obtain ⟨d0, d1, d2⟩ := bI HT.out.snd
 go_wp2_with fail
 refine (rC w0 B av ao nv cv no co xs l item HX.out HO.out (by omega) hv hc dP).mono ?_
 rintro e w1 ⟨rfl, hb⟩
 rw [← HS.out]
 have bC := aPo (HT.out.next hb)
 have fB := aPo (HE.out.below hb (by omega))
 have eZ := hb.size
 clear hb c0 c1 d0 d1 d2 HT HX HO HE
 obtain ⟨d0, d1, d2⟩ := bI bC.out.snd
 clear HS
 go_upto_region 2 with (refine wpList_store_rowTo rfl 96 _ _ rfl rfl w1.heap.size s.cells rfl rfl 96 _ (World.alloc_heap_new _ _) (iA s) rfl (mL s) ?_)
 rw [World.setRow_alloc_new]
 have aT := ((Below.refl w1.heap.size w1).alloc aPq (.cells s.cells 96))
 have bT := aPo aT
 have aK := aPo (bC.out.next aT)
 have dW := aPo (fB.out.below aT (by omega))
 have cM := aPo (World.alloc_heap_new w1 (.cells s.cells 96))
 have eC := aT.size
 clear aT bC fB d0 d1 d2
 generalize w1.alloc (.cells s.cells 96) = w2 at aK dW cM bT eC ⊢
 have kA : w1.heap.size < w2.heap.size := (aPp cM.out).1
 generalize w1.heap.size = sb at cM kA bT eC eZ ⊢
 obtain ⟨d0, d1, d2⟩ := bI aK.out.snd
 have s0 : w2.cell? ⟨sb, 0, none⟩ = some (.int .i64 s.level) := (aPr cM.out).trans rfl
 have N6 := dW.out.low
 have hlw : IntKind.i64.wrap (s.level + 1) = s.level + 1 := IntWalk.i64_in _ (by omega)
 have done : ∀ (wr : World) (q : aA) (code : Int), Hid (oneOf s.level sv kind item qty = (q, code)) → Below w2.heap.size w2 wr →
   Hid ((bK wr (w.heap.size + 1 + 1) (.int .i64 q.dev) (.int .i64 q.seq) (.int .i64 q.stamp) (.int .i64 q.kind) (.string q.item) (.int .i64 q.qty) (.int .i64 q.level) (.int .i64 q.undos)).heap[w.heap.size + 1 + 1]? = some (.cells #[.int .i64 q.dev, .int .i64 q.seq, .int .i64 q.stamp, .int .i64 q.kind, .string q.item, .int .i64 q.qty, .int .i64 q.level, .int .i64 q.undos] 50 (0, 0))) ∧
   Hid (Below w.heap.size w (bK wr (w.heap.size + 1 + 1) (.int .i64 q.dev) (.int .i64 q.seq) (.int .i64 q.stamp) (.int .i64 q.kind) (.string q.item) (.int .i64 q.qty) (.int .i64 q.level) (.int .i64 q.undos))) := by
  intro wr q code hq hb
  exact ⟨iX _ _ _ _ _ _ _ _ (aK.out.next hb).res, hU _ _ _ _ _ _ _ _ (aK.out.next hb).bel (by omega)⟩
 have k1 := B8.out
 clear B8
 subst k1
 go_wp2_with (refine wpList_load_row rfl 96 _ rfl sb rfl _ s.cells _ _ cM.out Tryz.underlying96 rfl (iA s) ?_)
 refine (mM s h0 w2).mono ?_
 rintro e w3 ⟨rfl, aV⟩
 dsimp only
 have dX := aPo aV
 have bH := aPo (aK.out.next aV)
 have gG := aPo ((aV.block _ kA).trans cM.out)
 have g2 : w3.cell? ⟨2, 0, none⟩ = some (.iface 226 (.pointer (some (E 2)))) := (dW.out.below aV (by omega)).cells 2 (by omega) (by omega)
 have g3 : w3.cell? ⟨3, 0, none⟩ = some (.iface 226 (.pointer (some (E 3)))) := (dW.out.below aV (by omega)).cells 3 (by omega) (by omega)
 clear aV d0 d1 d2 s0
 obtain ⟨d0, d1, d2⟩ := bI bH.out.snd
 obtain ⟨r0, r1, r2, r3, r4, r5, r6, r7⟩ := aN bH.out.res
 obtain ⟨f0, f1, f2, f3, f4, f5, f6, f7⟩ := cP bH.out.res
 have s0 : w3.cell? ⟨sb, 0, none⟩ = some (.int .i64 s.level) := (aPr gG.out).trans rfl
 by_cases hm : s.level % 2 = 1
 ·have yP : decide (s.level % 2 = 1) = true := decide_eq_true hm
  rw [yP]; have HQ : Hid (oneOf s.level sv 1 item qty = ((⟨0, 0, 0, 0, ⟨#[]⟩, 0, 0, 0⟩ : aA), 3)) := by
   show _ = _
   unfold oneOf; rw [if_pos rfl, if_pos hm]
   try rfl
  clear r0 r1 r2 r3 r4 r5 r6 r7 f0 f1 f2 f3 f4 f5 f6 f7
  go_wp2_with fail
  refine wp_region_held_drew (S := fun w' => w'.cell? ⟨3, 0, none⟩ = some (.iface 226 (.pointer (some (E 3))))) (by kernel_rfl) g3 (fun aL => ?_)
  have cS : Hid (Below w2.heap.size w2 w3.drew) := dX.out.trans ⟨rfl, rfl, rfl, Nat.le_refl _, fun _ _ => rfl⟩
  generalize w3.drew = z0 at cS aL ⊢; have cR := aPo (aK.out.next cS.out); obtain ⟨r0, r1, r2, r3, r4, r5, r6, r7⟩ := aN cR.out.res; obtain ⟨f0, f1, f2, f3, f4, f5, f6, f7⟩ := cP cR.out.res; refine tj 0 ?_
  refine tj 1 ?_
  refine rk 2 rfl (fun K hK => ?_)
  go_simp
  refine hK.out _ _ ((World.cell?_of_block (a := ⟨3, 0, none⟩) (qL (w := z0) (b := w.heap.size + 1 + 1) (k := 3) (.int .i64 0) (.int .i64 0) (.int .i64 0) (.int .i64 0) (.string ⟨#[]⟩) (.int .i64 0) (.int .i64 0) (.int .i64 0) (by omega))).trans aL) (fun bS => ?_)
  clear hK K
  (try simp only [Act.put, u1, u2, u3])
  refine tj 3 ?_
  refine wpAnyH_done (by kernel_rfl) ?_ _
  obtain ⟨HX, cD⟩ := done z0 (⟨0, 0, 0, 0, ⟨#[]⟩, 0, 0, 0⟩ : aA) 3 HQ cS.out; clear done
  dsimp only at HX cD
  go_wp2
  change bodyPost _ _ _ _ _ (bK z0 (w.heap.size + 1 + 1) (.int .i64 0) (.int .i64 0) (.int .i64 0) (.int .i64 0) (.string ⟨#[]⟩) (.int .i64 0) (.int .i64 0) (.int .i64 0))
  generalize bK z0 (w.heap.size + 1 + 1) (.int .i64 0) (.int .i64 0) (.int .i64 0) (.int .i64 0) (.string ⟨#[]⟩) (.int .i64 0) (.int .i64 0) (.int .i64 0) = wf at HX cD ⊢; obtain ⟨e0, e1, e2, e3, e4, e5, e6, e7⟩ := aN HX.out; exact bodyPost_ret (v := .tuple #[.agg #[.int .i64 0, .int .i64 0, .int .i64 0, .int .i64 0, .string ⟨#[]⟩, .int .i64 0, .int .i64 0, .int .i64 0], (.iface 226 (.pointer (some (E 3))))]) (by simp [results, Tryz.results134, go_sem, e0, e1, e2, e3, e4, e5, e6, e7]) rfl ⟨by rw [HQ.out]; dsimp only; rw [aLR], cD.out⟩
 ·have yP : decide (s.level % 2 = 1) = false := decide_eq_false hm
  rw [yP]; have HQ : Hid (oneOf s.level sv 1 item qty = ((⟨0, 0, 0, 1, item, qty, (s.level + 1), 0⟩ : aA), 0)) := by
   show _ = _
   unfold oneOf; rw [if_pos rfl, if_neg hm]
   try rfl
  obtain ⟨HX, cD⟩ := done w3 (⟨0, 0, 0, 1, item, qty, (s.level + 1), 0⟩ : aA) 0 HQ dX.out; clear done
  dsimp only at HX cD
  go_wp2
  change bodyPost _ _ _ _ _ (bK w3 (w.heap.size + 1 + 1) (.int .i64 0) (.int .i64 0) (.int .i64 0) (.int .i64 1) (.string item) (.int .i64 qty) (.int .i64 (s.level + 1)) (.int .i64 0))
  generalize bK w3 (w.heap.size + 1 + 1) (.int .i64 0) (.int .i64 0) (.int .i64 0) (.int .i64 1) (.string item) (.int .i64 qty) (.int .i64 (s.level + 1)) (.int .i64 0) = wf at HX cD ⊢; obtain ⟨e0, e1, e2, e3, e4, e5, e6, e7⟩ := aN HX.out; exact bodyPost_ret (v := .tuple #[.agg #[.int .i64 0, .int .i64 0, .int .i64 0, .int .i64 1, .string item, .int .i64 qty, .int .i64 (s.level + 1), .int .i64 0], .nilIface]) (by simp [results, Tryz.results134, go_sem, e0, e1, e2, e3, e4, e5, e6, e7]) rfl ⟨by rw [HQ.out]; dsimp only; rw [G3], cD.out⟩
set_option maxHeartbeats 40000000 in
theorem aJ6 (w : World) (B : Nat) (E : Int → Addr) (hE : eG w B E) (av ao : Option Addr) (nv cv no co : Nat) (xs : List Int) (l : List aA) (kind qty dv sq : Int) (item : ByteArray) (hx : Ints w B av nv xs) (h : bP w B ao no l) (hB : B ≤ w.heap.size) (hv : nv ≤ 1048576) (hc : no ≤ co) (dP : Fits no co) (hi : item.size ≤ 1048576) (s : cL) (hs : s = cA item (counted xs l)) (h0 : 0 ≤ s.level) (h1 : s.level ≤ 1000000) (k1 : ¬ kind = 1) (tR : ¬ s.level % 2 = 1) :
  Calls Tryz.prog 134 #[.agg #[.slice av nv cv, .slice ao no co], .agg #[.int .i64 kind, .string item, .int .i64 qty, .int .i64 dv, .int .i64 sq]] w
   (U2 E (oneOf s.level (decide (s.placed.kind = 4)) kind item qty) w) := by
 have B8 := aPo k1
 have zC := aPo tR
 clear k1 tR
 have hT := uR.mk0 w #[.slice av nv cv, .slice ao no co] #[.int .i64 kind, .string item, .int .i64 qty, .int .i64 dv, .int .i64 sq] #[.int .i64 0, .int .i64 0, .int .i64 0, .int .i64 0, .string ⟨#[]⟩, .int .i64 0, .int .i64 0, .int .i64 0]
 have HX := aPo (hx.below hT.bel hB)
 have HO := aPo (h.below hT.bel hB)
 have HE := aPo (hE.below hT.bel hB)
 have HT := aPo hT
 have yW := hT.bel.size
 have HS := aPo hs
 clear h hx hT hs hE
 obtain ⟨sv, eK⟩ : ∃ sv, sv = decide (s.placed.kind = 4) := ⟨_, rfl⟩
 rw [← eK]
 have lL := aPo eK
 clear eK
 have hfl := mN
 go_enter Tryz.func134, Tryz.ntmps134
 go_upto_region 1 with fail
 generalize ((w.alloc (.cells #[.slice av nv cv, .slice ao no co] 27)).alloc (.cells #[.int .i64 kind, .string item, .int .i64 qty, .int .i64 dv, .int .i64 sq] 29)).alloc (.cells #[.int .i64 0, .int .i64 0, .int .i64 0, .int .i64 0, .string ⟨#[]⟩, .int .i64 0, .int .i64 0, .int .i64 0] 50) = w0 at HX HO HE HT yW ⊢
 obtain ⟨c0, c1⟩ := pair_cells HT.out.fst
 obtain ⟨d0, d1, d2⟩ := bI HT.out.snd
 go_wp2_with fail
 refine (rC w0 B av ao nv cv no co xs l item HX.out HO.out (by omega) hv hc dP).mono ?_
 rintro e w1 ⟨rfl, hb⟩
 rw [← HS.out]
 have bC := aPo (HT.out.next hb)
 have fB := aPo (HE.out.below hb (by omega))
 have eZ := hb.size
 clear hb c0 c1 d0 d1 d2 HT HX HO HE
 obtain ⟨d0, d1, d2⟩ := bI bC.out.snd
 clear HS
 go_upto_region 2 with (refine wpList_store_rowTo rfl 96 _ _ rfl rfl w1.heap.size s.cells rfl rfl 96 _ (World.alloc_heap_new _ _) (iA s) rfl (mL s) ?_)
 rw [World.setRow_alloc_new]
 have aT := ((Below.refl w1.heap.size w1).alloc aPq (.cells s.cells 96))
 have bT := aPo aT
 have aK := aPo (bC.out.next aT)
 have dW := aPo (fB.out.below aT (by omega))
 have cM := aPo (World.alloc_heap_new w1 (.cells s.cells 96))
 have eC := aT.size
 clear aT bC fB d0 d1 d2
 generalize w1.alloc (.cells s.cells 96) = w2 at aK dW cM bT eC ⊢
 have kA : w1.heap.size < w2.heap.size := (aPp cM.out).1
 generalize w1.heap.size = sb at cM kA bT eC eZ ⊢
 obtain ⟨d0, d1, d2⟩ := bI aK.out.snd
 have s0 : w2.cell? ⟨sb, 0, none⟩ = some (.int .i64 s.level) := (aPr cM.out).trans rfl
 have N6 := dW.out.low
 have hlw : IntKind.i64.wrap (s.level + 1) = s.level + 1 := IntWalk.i64_in _ (by omega)
 have done : ∀ (wr : World) (q : aA) (code : Int), Hid (oneOf s.level sv kind item qty = (q, code)) → Below w2.heap.size w2 wr →
   Hid ((bK wr (w.heap.size + 1 + 1) (.int .i64 q.dev) (.int .i64 q.seq) (.int .i64 q.stamp) (.int .i64 q.kind) (.string q.item) (.int .i64 q.qty) (.int .i64 q.level) (.int .i64 q.undos)).heap[w.heap.size + 1 + 1]? = some (.cells #[.int .i64 q.dev, .int .i64 q.seq, .int .i64 q.stamp, .int .i64 q.kind, .string q.item, .int .i64 q.qty, .int .i64 q.level, .int .i64 q.undos] 50 (0, 0))) ∧
   Hid (Below w.heap.size w (bK wr (w.heap.size + 1 + 1) (.int .i64 q.dev) (.int .i64 q.seq) (.int .i64 q.stamp) (.int .i64 q.kind) (.string q.item) (.int .i64 q.qty) (.int .i64 q.level) (.int .i64 q.undos))) := by
  intro wr q code hq hb
  exact ⟨iX _ _ _ _ _ _ _ _ (aK.out.next hb).res, hU _ _ _ _ _ _ _ _ (aK.out.next hb).bel (by omega)⟩
 have k1 := B8.out
 have k1b : (kind == 1) = false := beq_eq_false_iff_ne.2 k1
 go_wp2_with (refine wpList_load_row rfl 96 _ rfl sb rfl _ s.cells _ _ cM.out Tryz.underlying96 rfl (iA s) ?_)
 refine (mM s h0 w2).mono ?_
 rintro e w3 ⟨rfl, aV⟩
 dsimp only
 have hm := zC.out
 have yP : decide (s.level % 2 = 1) = false := decide_eq_false hm
 rw [yP]
 have dX := aPo aV
 have bH := aPo (aK.out.next aV)
 have gG := aPo ((aV.block _ kA).trans cM.out)
 have g2 : w3.cell? ⟨2, 0, none⟩ = some (.iface 226 (.pointer (some (E 2)))) := (dW.out.below aV (by omega)).cells 2 (by omega) (by omega)
 have g3 : w3.cell? ⟨3, 0, none⟩ = some (.iface 226 (.pointer (some (E 3)))) := (dW.out.below aV (by omega)).cells 3 (by omega) (by omega)
 clear aV d0 d1 d2 s0
 obtain ⟨d0, d1, d2⟩ := bI bH.out.snd
 obtain ⟨r0, r1, r2, r3, r4, r5, r6, r7⟩ := aN bH.out.res
 obtain ⟨f0, f1, f2, f3, f4, f5, f6, f7⟩ := cP bH.out.res
 have s0 : w3.cell? ⟨sb, 0, none⟩ = some (.int .i64 s.level) := (aPr gG.out).trans rfl
 have HQ : Hid (oneOf s.level sv kind item qty = ((⟨0, 0, 0, 0, ⟨#[]⟩, 0, 0, 0⟩ : aA), 2)) := by
  show _ = _
  unfold oneOf; rw [if_neg k1, if_neg hm]
  try rfl
 clear r0 r1 r2 r3 r4 r5 r6 r7 f0 f1 f2 f3 f4 f5 f6 f7
 go_wp2_with fail
 refine wp_region_held_drew (S := fun w' => w'.cell? ⟨2, 0, none⟩ = some (.iface 226 (.pointer (some (E 2))))) (by kernel_rfl) g2 (fun aL => ?_)
 have cS : Hid (Below w2.heap.size w2 w3.drew) := dX.out.trans ⟨rfl, rfl, rfl, Nat.le_refl _, fun _ _ => rfl⟩
 generalize w3.drew = z0 at cS aL ⊢
 have cR := aPo (aK.out.next cS.out)
 obtain ⟨r0, r1, r2, r3, r4, r5, r6, r7⟩ := aN cR.out.res
 obtain ⟨f0, f1, f2, f3, f4, f5, f6, f7⟩ := cP cR.out.res
 refine tj 0 ?_
 refine tj 1 ?_
 refine rk 2 rfl (fun K hK => ?_)
 go_simp
 refine hK.out _ _ ((World.cell?_of_block (a := ⟨2, 0, none⟩) (qL (w := z0) (b := w.heap.size + 1 + 1) (k := 2) (.int .i64 0) (.int .i64 0) (.int .i64 0) (.int .i64 0) (.string ⟨#[]⟩) (.int .i64 0) (.int .i64 0) (.int .i64 0) (by omega))).trans aL) (fun bS => ?_)
 clear hK K
 (try simp only [Act.put, u1, u2, u3])
 refine tj 3 ?_
 refine wpAnyH_done (by kernel_rfl) ?_ _
 obtain ⟨HX, cD⟩ := done z0 (⟨0, 0, 0, 0, ⟨#[]⟩, 0, 0, 0⟩ : aA) 2 HQ cS.out
 clear done
 dsimp only at HX cD
 go_wp2
 change bodyPost _ _ _ _ _ (bK z0 (w.heap.size + 1 + 1) (.int .i64 0) (.int .i64 0) (.int .i64 0) (.int .i64 0) (.string ⟨#[]⟩) (.int .i64 0) (.int .i64 0) (.int .i64 0))
 generalize bK z0 (w.heap.size + 1 + 1) (.int .i64 0) (.int .i64 0) (.int .i64 0) (.int .i64 0) (.string ⟨#[]⟩) (.int .i64 0) (.int .i64 0) (.int .i64 0) = wf at HX cD ⊢
 obtain ⟨e0, e1, e2, e3, e4, e5, e6, e7⟩ := aN HX.out
 exact bodyPost_ret (v := .tuple #[.agg #[.int .i64 0, .int .i64 0, .int .i64 0, .int .i64 0, .string ⟨#[]⟩, .int .i64 0, .int .i64 0, .int .i64 0], (.iface 226 (.pointer (some (E 2))))]) (by simp [results, Tryz.results134, go_sem, e0, e1, e2, e3, e4, e5, e6, e7]) rfl ⟨by rw [HQ.out]; dsimp only; rw [G1], cD.out⟩
set_option maxHeartbeats 40000000 in
theorem aKc (w : World) (B : Nat) (E : Int → Addr) (hE : eG w B E) (av ao : Option Addr) (nv cv no co : Nat) (xs : List Int) (l : List aA) (kind qty dv sq : Int) (item : ByteArray) (hx : Ints w B av nv xs) (h : bP w B ao no l) (hB : B ≤ w.heap.size) (hv : nv ≤ 1048576) (hc : no ≤ co) (dP : Fits no co) (hi : item.size ≤ 1048576) (s : cL) (hs : s = cA item (counted xs l)) (h0 : 0 ≤ s.level) (h1 : s.level ≤ 1000000) (k1 : ¬ kind = 1) (tR : s.level % 2 = 1) (e : kind = 2) :
  Calls Tryz.prog 134 #[.agg #[.slice av nv cv, .slice ao no co], .agg #[.int .i64 kind, .string item, .int .i64 qty, .int .i64 dv, .int .i64 sq]] w
   (U2 E (oneOf s.level (decide (s.placed.kind = 4)) kind item qty) w) := by
 have B8 := aPo k1
 have zC := aPo tR
 have Ye := aPo e
 clear k1 tR e
 have hT := uR.mk0 w #[.slice av nv cv, .slice ao no co] #[.int .i64 kind, .string item, .int .i64 qty, .int .i64 dv, .int .i64 sq] #[.int .i64 0, .int .i64 0, .int .i64 0, .int .i64 0, .string ⟨#[]⟩, .int .i64 0, .int .i64 0, .int .i64 0]
 have HX := aPo (hx.below hT.bel hB)
 have HO := aPo (h.below hT.bel hB)
 have HE := aPo (hE.below hT.bel hB)
 have HT := aPo hT
 have yW := hT.bel.size
 have HS := aPo hs
 clear h hx hT hs hE
 obtain ⟨sv, eK⟩ : ∃ sv, sv = decide (s.placed.kind = 4) := ⟨_, rfl⟩
 rw [← eK]
 have lL := aPo eK
 clear eK
 have hfl := mN
 go_enter Tryz.func134, Tryz.ntmps134
 go_upto_region 1 with fail
 generalize ((w.alloc (.cells #[.slice av nv cv, .slice ao no co] 27)).alloc (.cells #[.int .i64 kind, .string item, .int .i64 qty, .int .i64 dv, .int .i64 sq] 29)).alloc (.cells #[.int .i64 0, .int .i64 0, .int .i64 0, .int .i64 0, .string ⟨#[]⟩, .int .i64 0, .int .i64 0, .int .i64 0] 50) = w0 at HX HO HE HT yW ⊢
 obtain ⟨c0, c1⟩ := pair_cells HT.out.fst
 obtain ⟨d0, d1, d2⟩ := bI HT.out.snd
 go_wp2_with fail
 refine (rC w0 B av ao nv cv no co xs l item HX.out HO.out (by omega) hv hc dP).mono ?_
 rintro e w1 ⟨rfl, hb⟩
 rw [← HS.out]
 have bC := aPo (HT.out.next hb)
 have fB := aPo (HE.out.below hb (by omega))
 have eZ := hb.size
 clear hb c0 c1 d0 d1 d2 HT HX HO HE
 obtain ⟨d0, d1, d2⟩ := bI bC.out.snd
 clear HS
 go_upto_region 2 with (refine wpList_store_rowTo rfl 96 _ _ rfl rfl w1.heap.size s.cells rfl rfl 96 _ (World.alloc_heap_new _ _) (iA s) rfl (mL s) ?_)
 rw [World.setRow_alloc_new]
 have aT := ((Below.refl w1.heap.size w1).alloc aPq (.cells s.cells 96))
 have bT := aPo aT
 have aK := aPo (bC.out.next aT)
 have dW := aPo (fB.out.below aT (by omega))
 have cM := aPo (World.alloc_heap_new w1 (.cells s.cells 96))
 have eC := aT.size
 clear aT bC fB d0 d1 d2
 generalize w1.alloc (.cells s.cells 96) = w2 at aK dW cM bT eC ⊢
 have kA : w1.heap.size < w2.heap.size := (aPp cM.out).1
 generalize w1.heap.size = sb at cM kA bT eC eZ ⊢
 obtain ⟨d0, d1, d2⟩ := bI aK.out.snd
 have s0 : w2.cell? ⟨sb, 0, none⟩ = some (.int .i64 s.level) := (aPr cM.out).trans rfl
 have N6 := dW.out.low
 have hlw : IntKind.i64.wrap (s.level + 1) = s.level + 1 := IntWalk.i64_in _ (by omega)
 have done : ∀ (wr : World) (q : aA) (code : Int), Hid (oneOf s.level sv kind item qty = (q, code)) → Below w2.heap.size w2 wr →
   Hid ((bK wr (w.heap.size + 1 + 1) (.int .i64 q.dev) (.int .i64 q.seq) (.int .i64 q.stamp) (.int .i64 q.kind) (.string q.item) (.int .i64 q.qty) (.int .i64 q.level) (.int .i64 q.undos)).heap[w.heap.size + 1 + 1]? = some (.cells #[.int .i64 q.dev, .int .i64 q.seq, .int .i64 q.stamp, .int .i64 q.kind, .string q.item, .int .i64 q.qty, .int .i64 q.level, .int .i64 q.undos] 50 (0, 0))) ∧
   Hid (Below w.heap.size w (bK wr (w.heap.size + 1 + 1) (.int .i64 q.dev) (.int .i64 q.seq) (.int .i64 q.stamp) (.int .i64 q.kind) (.string q.item) (.int .i64 q.qty) (.int .i64 q.level) (.int .i64 q.undos))) := by
  intro wr q code hq hb
  exact ⟨iX _ _ _ _ _ _ _ _ (aK.out.next hb).res, hU _ _ _ _ _ _ _ _ (aK.out.next hb).bel (by omega)⟩
 have k1 := B8.out
 have k1b : (kind == 1) = false := beq_eq_false_iff_ne.2 k1
 go_wp2_with (refine wpList_load_row rfl 96 _ rfl sb rfl _ s.cells _ _ cM.out Tryz.underlying96 rfl (iA s) ?_)
 refine (mM s h0 w2).mono ?_
 rintro e w3 ⟨rfl, aV⟩
 dsimp only
 have hm := zC.out
 have yP : decide (s.level % 2 = 1) = true := decide_eq_true hm
 rw [yP]
 have bH := aPo (aK.out.next aV)
 have gG := aPo ((aV.block _ kA).trans cM.out)
 have dX := aPo aV
 clear aV d0 d1 d2 s0
 obtain ⟨d0, d1, d2⟩ := bI bH.out.snd
 have s0 : w3.cell? ⟨sb, 0, none⟩ = some (.int .i64 s.level) := (aPr gG.out).trans rfl
 have A5 : xA s = sv := by
  rw [lL.out]; exact if_pos hm
 go_wp2_with (refine wpList_load_row rfl 96 _ rfl sb rfl _ s.cells _ _ gG.out Tryz.underlying96 rfl (iA s) ?_)
 refine (X6 s item h0 hi w3).mono ?_
 rintro e w4 ⟨rfl, dJ⟩
 rw [A5]
 generalize xC _ _ = li
 generalize xB _ = lq
 have bA : Below w2.heap.size w2 w4 := dX.out.trans (dJ.mono dX.out.size)
 clear dJ bH gG dX A5
 have dX := aPo bA
 have bH := aPo (aK.out.next bA)
 have gG := aPo ((bA.block _ kA).trans cM.out)
 have g2 : w4.cell? ⟨2, 0, none⟩ = some (.iface 226 (.pointer (some (E 2)))) := (dW.out.below bA (by omega)).cells 2 (by omega) (by omega)
 have g3 : w4.cell? ⟨3, 0, none⟩ = some (.iface 226 (.pointer (some (E 3)))) := (dW.out.below bA (by omega)).cells 3 (by omega) (by omega)
 clear bA d0 d1 d2 s0
 obtain ⟨d0, d1, d2⟩ := bI bH.out.snd
 obtain ⟨r0, r1, r2, r3, r4, r5, r6, r7⟩ := aN bH.out.res
 obtain ⟨f0, f1, f2, f3, f4, f5, f6, f7⟩ := cP bH.out.res
 have s0 : w4.cell? ⟨sb, 0, none⟩ = some (.int .i64 s.level) := (aPr gG.out).trans rfl
 have e := Ye.out
 clear Ye
 subst e
 have HQ : Hid (oneOf s.level sv 2 item qty = ((⟨0, 0, 0, 2, item, qty, 0, 0⟩ : aA), 0)) := by
  show _ = _
  unfold oneOf; rw [if_neg k1, if_pos hm, if_pos rfl]
  try rfl
 obtain ⟨HX, cD⟩ := done w4 (⟨0, 0, 0, 2, item, qty, 0, 0⟩ : aA) 0 HQ dX.out
 clear done
 dsimp only at HX cD
 go_wp2
 change bodyPost _ _ _ _ _ (bK w4 (w.heap.size + 1 + 1) (.int .i64 0) (.int .i64 0) (.int .i64 0) (.int .i64 2) (.string item) (.int .i64 qty) (.int .i64 0) (.int .i64 0))
 generalize bK w4 (w.heap.size + 1 + 1) (.int .i64 0) (.int .i64 0) (.int .i64 0) (.int .i64 2) (.string item) (.int .i64 qty) (.int .i64 0) (.int .i64 0) = wf at HX cD ⊢
 obtain ⟨e0, e1, e2, e3, e4, e5, e6, e7⟩ := aN HX.out
 exact bodyPost_ret (v := .tuple #[.agg #[.int .i64 0, .int .i64 0, .int .i64 0, .int .i64 2, .string item, .int .i64 qty, .int .i64 0, .int .i64 0], .nilIface]) (by simp [results, Tryz.results134, go_sem, e0, e1, e2, e3, e4, e5, e6, e7]) rfl ⟨by rw [HQ.out]; dsimp only; rw [G3], cD.out⟩
set_option maxHeartbeats 40000000 in
theorem aKb (w : World) (B : Nat) (E : Int → Addr) (hE : eG w B E) (av ao : Option Addr) (nv cv no co : Nat) (xs : List Int) (l : List aA) (kind qty dv sq : Int) (item : ByteArray) (hx : Ints w B av nv xs) (h : bP w B ao no l) (hB : B ≤ w.heap.size) (hv : nv ≤ 1048576) (hc : no ≤ co) (dP : Fits no co) (hi : item.size ≤ 1048576) (s : cL) (hs : s = cA item (counted xs l)) (h0 : 0 ≤ s.level) (h1 : s.level ≤ 1000000) (k1 : ¬ kind = 1) (tR : s.level % 2 = 1) (k2 : ¬ kind = 2) (e : kind = 3) :
  Calls Tryz.prog 134 #[.agg #[.slice av nv cv, .slice ao no co], .agg #[.int .i64 kind, .string item, .int .i64 qty, .int .i64 dv, .int .i64 sq]] w
   (U2 E (oneOf s.level (decide (s.placed.kind = 4)) kind item qty) w) := by
 have B8 := aPo k1
 have zC := aPo tR
 have Yk2 := aPo k2
 have Ye := aPo e
 clear k1 tR k2 e
 have hT := uR.mk0 w #[.slice av nv cv, .slice ao no co] #[.int .i64 kind, .string item, .int .i64 qty, .int .i64 dv, .int .i64 sq] #[.int .i64 0, .int .i64 0, .int .i64 0, .int .i64 0, .string ⟨#[]⟩, .int .i64 0, .int .i64 0, .int .i64 0]
 have HX := aPo (hx.below hT.bel hB)
 have HO := aPo (h.below hT.bel hB)
 have HE := aPo (hE.below hT.bel hB)
 have HT := aPo hT
 have yW := hT.bel.size
 have HS := aPo hs
 clear h hx hT hs hE
 obtain ⟨sv, eK⟩ : ∃ sv, sv = decide (s.placed.kind = 4) := ⟨_, rfl⟩
 rw [← eK]
 have lL := aPo eK
 clear eK
 have hfl := mN
 go_enter Tryz.func134, Tryz.ntmps134
 go_upto_region 1 with fail
 generalize ((w.alloc (.cells #[.slice av nv cv, .slice ao no co] 27)).alloc (.cells #[.int .i64 kind, .string item, .int .i64 qty, .int .i64 dv, .int .i64 sq] 29)).alloc (.cells #[.int .i64 0, .int .i64 0, .int .i64 0, .int .i64 0, .string ⟨#[]⟩, .int .i64 0, .int .i64 0, .int .i64 0] 50) = w0 at HX HO HE HT yW ⊢
 obtain ⟨c0, c1⟩ := pair_cells HT.out.fst
 obtain ⟨d0, d1, d2⟩ := bI HT.out.snd
 go_wp2_with fail
 refine (rC w0 B av ao nv cv no co xs l item HX.out HO.out (by omega) hv hc dP).mono ?_
 rintro e w1 ⟨rfl, hb⟩
 rw [← HS.out]
 have bC := aPo (HT.out.next hb)
 have fB := aPo (HE.out.below hb (by omega))
 have eZ := hb.size
 clear hb c0 c1 d0 d1 d2 HT HX HO HE
 obtain ⟨d0, d1, d2⟩ := bI bC.out.snd
 clear HS
 go_upto_region 2 with (refine wpList_store_rowTo rfl 96 _ _ rfl rfl w1.heap.size s.cells rfl rfl 96 _ (World.alloc_heap_new _ _) (iA s) rfl (mL s) ?_)
 rw [World.setRow_alloc_new]
 have aT := ((Below.refl w1.heap.size w1).alloc aPq (.cells s.cells 96))
 have bT := aPo aT
 have aK := aPo (bC.out.next aT)
 have dW := aPo (fB.out.below aT (by omega))
 have cM := aPo (World.alloc_heap_new w1 (.cells s.cells 96))
 have eC := aT.size
 clear aT bC fB d0 d1 d2
 generalize w1.alloc (.cells s.cells 96) = w2 at aK dW cM bT eC ⊢
 have kA : w1.heap.size < w2.heap.size := (aPp cM.out).1
 generalize w1.heap.size = sb at cM kA bT eC eZ ⊢
 obtain ⟨d0, d1, d2⟩ := bI aK.out.snd
 have s0 : w2.cell? ⟨sb, 0, none⟩ = some (.int .i64 s.level) := (aPr cM.out).trans rfl
 have N6 := dW.out.low
 have hlw : IntKind.i64.wrap (s.level + 1) = s.level + 1 := IntWalk.i64_in _ (by omega)
 have done : ∀ (wr : World) (q : aA) (code : Int), Hid (oneOf s.level sv kind item qty = (q, code)) → Below w2.heap.size w2 wr →
   Hid ((bK wr (w.heap.size + 1 + 1) (.int .i64 q.dev) (.int .i64 q.seq) (.int .i64 q.stamp) (.int .i64 q.kind) (.string q.item) (.int .i64 q.qty) (.int .i64 q.level) (.int .i64 q.undos)).heap[w.heap.size + 1 + 1]? = some (.cells #[.int .i64 q.dev, .int .i64 q.seq, .int .i64 q.stamp, .int .i64 q.kind, .string q.item, .int .i64 q.qty, .int .i64 q.level, .int .i64 q.undos] 50 (0, 0))) ∧
   Hid (Below w.heap.size w (bK wr (w.heap.size + 1 + 1) (.int .i64 q.dev) (.int .i64 q.seq) (.int .i64 q.stamp) (.int .i64 q.kind) (.string q.item) (.int .i64 q.qty) (.int .i64 q.level) (.int .i64 q.undos))) := by
  intro wr q code hq hb
  exact ⟨iX _ _ _ _ _ _ _ _ (aK.out.next hb).res, hU _ _ _ _ _ _ _ _ (aK.out.next hb).bel (by omega)⟩
 have k1 := B8.out
 have k1b : (kind == 1) = false := beq_eq_false_iff_ne.2 k1
 go_wp2_with (refine wpList_load_row rfl 96 _ rfl sb rfl _ s.cells _ _ cM.out Tryz.underlying96 rfl (iA s) ?_)
 refine (mM s h0 w2).mono ?_
 rintro e w3 ⟨rfl, aV⟩
 dsimp only
 have hm := zC.out
 have yP : decide (s.level % 2 = 1) = true := decide_eq_true hm
 rw [yP]
 have bH := aPo (aK.out.next aV)
 have gG := aPo ((aV.block _ kA).trans cM.out)
 have dX := aPo aV
 clear aV d0 d1 d2 s0
 obtain ⟨d0, d1, d2⟩ := bI bH.out.snd
 have s0 : w3.cell? ⟨sb, 0, none⟩ = some (.int .i64 s.level) := (aPr gG.out).trans rfl
 have A5 : xA s = sv := by
  rw [lL.out]; exact if_pos hm
 go_wp2_with (refine wpList_load_row rfl 96 _ rfl sb rfl _ s.cells _ _ gG.out Tryz.underlying96 rfl (iA s) ?_)
 refine (X6 s item h0 hi w3).mono ?_
 rintro e w4 ⟨rfl, dJ⟩
 rw [A5]
 generalize xC _ _ = li
 generalize xB _ = lq
 have bA : Below w2.heap.size w2 w4 := dX.out.trans (dJ.mono dX.out.size)
 clear dJ bH gG dX A5
 have dX := aPo bA
 have bH := aPo (aK.out.next bA)
 have gG := aPo ((bA.block _ kA).trans cM.out)
 have g2 : w4.cell? ⟨2, 0, none⟩ = some (.iface 226 (.pointer (some (E 2)))) := (dW.out.below bA (by omega)).cells 2 (by omega) (by omega)
 have g3 : w4.cell? ⟨3, 0, none⟩ = some (.iface 226 (.pointer (some (E 3)))) := (dW.out.below bA (by omega)).cells 3 (by omega) (by omega)
 clear bA d0 d1 d2 s0
 obtain ⟨d0, d1, d2⟩ := bI bH.out.snd
 obtain ⟨r0, r1, r2, r3, r4, r5, r6, r7⟩ := aN bH.out.res
 obtain ⟨f0, f1, f2, f3, f4, f5, f6, f7⟩ := cP bH.out.res
 have s0 : w4.cell? ⟨sb, 0, none⟩ = some (.int .i64 s.level) := (aPr gG.out).trans rfl
 have k2 := Yk2.out
 have k2b : (kind == 2) = false := beq_eq_false_iff_ne.2 k2
 have e := Ye.out
 clear Ye
 subst e
 have HQ : Hid (oneOf s.level sv 3 item qty = ((⟨0, 0, 0, 3, item, 0, (s.level + 1), 0⟩ : aA), 0)) := by
  show _ = _
  unfold oneOf; rw [if_neg k1, if_pos hm, if_neg k2, if_pos rfl]
  try rfl
 obtain ⟨HX, cD⟩ := done w4 (⟨0, 0, 0, 3, item, 0, (s.level + 1), 0⟩ : aA) 0 HQ dX.out
 clear done
 dsimp only at HX cD
 go_wp2
 change bodyPost _ _ _ _ _ (bK w4 (w.heap.size + 1 + 1) (.int .i64 0) (.int .i64 0) (.int .i64 0) (.int .i64 3) (.string item) (.int .i64 0) (.int .i64 (s.level + 1)) (.int .i64 0))
 generalize bK w4 (w.heap.size + 1 + 1) (.int .i64 0) (.int .i64 0) (.int .i64 0) (.int .i64 3) (.string item) (.int .i64 0) (.int .i64 (s.level + 1)) (.int .i64 0) = wf at HX cD ⊢
 obtain ⟨e0, e1, e2, e3, e4, e5, e6, e7⟩ := aN HX.out
 exact bodyPost_ret (v := .tuple #[.agg #[.int .i64 0, .int .i64 0, .int .i64 0, .int .i64 3, .string item, .int .i64 0, .int .i64 (s.level + 1), .int .i64 0], .nilIface]) (by simp [results, Tryz.results134, go_sem, e0, e1, e2, e3, e4, e5, e6, e7]) rfl ⟨by rw [HQ.out]; dsimp only; rw [G3], cD.out⟩
set_option maxHeartbeats 40000000 in
theorem aKa (w : World) (B : Nat) (E : Int → Addr) (hE : eG w B E) (av ao : Option Addr) (nv cv no co : Nat) (xs : List Int) (l : List aA) (kind qty dv sq : Int) (item : ByteArray) (hx : Ints w B av nv xs) (h : bP w B ao no l) (hB : B ≤ w.heap.size) (hv : nv ≤ 1048576) (hc : no ≤ co) (dP : Fits no co) (hi : item.size ≤ 1048576) (s : cL) (hs : s = cA item (counted xs l)) (h0 : 0 ≤ s.level) (h1 : s.level ≤ 1000000) (k1 : ¬ kind = 1) (tR : s.level % 2 = 1) (k2 : ¬ kind = 2) (k3 : ¬ kind = 3) (e : kind = 4) :
  Calls Tryz.prog 134 #[.agg #[.slice av nv cv, .slice ao no co], .agg #[.int .i64 kind, .string item, .int .i64 qty, .int .i64 dv, .int .i64 sq]] w
   (U2 E (oneOf s.level (decide (s.placed.kind = 4)) kind item qty) w) := by
 have B8 := aPo k1
 have zC := aPo tR
 have Yk2 := aPo k2
 have Yk3 := aPo k3
 have Ye := aPo e
 clear k1 tR k2 k3 e
 have hT := uR.mk0 w #[.slice av nv cv, .slice ao no co] #[.int .i64 kind, .string item, .int .i64 qty, .int .i64 dv, .int .i64 sq] #[.int .i64 0, .int .i64 0, .int .i64 0, .int .i64 0, .string ⟨#[]⟩, .int .i64 0, .int .i64 0, .int .i64 0]
 have HX := aPo (hx.below hT.bel hB)
 have HO := aPo (h.below hT.bel hB)
 have HE := aPo (hE.below hT.bel hB)
 have HT := aPo hT
 have yW := hT.bel.size
 have HS := aPo hs
 clear h hx hT hs hE
 obtain ⟨sv, eK⟩ : ∃ sv, sv = decide (s.placed.kind = 4) := ⟨_, rfl⟩
 rw [← eK]
 have lL := aPo eK
 clear eK
 have hfl := mN
 go_enter Tryz.func134, Tryz.ntmps134
 go_upto_region 1 with fail
 generalize ((w.alloc (.cells #[.slice av nv cv, .slice ao no co] 27)).alloc (.cells #[.int .i64 kind, .string item, .int .i64 qty, .int .i64 dv, .int .i64 sq] 29)).alloc (.cells #[.int .i64 0, .int .i64 0, .int .i64 0, .int .i64 0, .string ⟨#[]⟩, .int .i64 0, .int .i64 0, .int .i64 0] 50) = w0 at HX HO HE HT yW ⊢
 obtain ⟨c0, c1⟩ := pair_cells HT.out.fst
 obtain ⟨d0, d1, d2⟩ := bI HT.out.snd
 go_wp2_with fail
 refine (rC w0 B av ao nv cv no co xs l item HX.out HO.out (by omega) hv hc dP).mono ?_
 rintro e w1 ⟨rfl, hb⟩
 rw [← HS.out]
 have bC := aPo (HT.out.next hb)
 have fB := aPo (HE.out.below hb (by omega))
 have eZ := hb.size
 clear hb c0 c1 d0 d1 d2 HT HX HO HE
 obtain ⟨d0, d1, d2⟩ := bI bC.out.snd
 clear HS
 go_upto_region 2 with (refine wpList_store_rowTo rfl 96 _ _ rfl rfl w1.heap.size s.cells rfl rfl 96 _ (World.alloc_heap_new _ _) (iA s) rfl (mL s) ?_)
 rw [World.setRow_alloc_new]
 have aT := ((Below.refl w1.heap.size w1).alloc aPq (.cells s.cells 96))
 have bT := aPo aT
 have aK := aPo (bC.out.next aT)
 have dW := aPo (fB.out.below aT (by omega))
 have cM := aPo (World.alloc_heap_new w1 (.cells s.cells 96))
 have eC := aT.size
 clear aT bC fB d0 d1 d2
 generalize w1.alloc (.cells s.cells 96) = w2 at aK dW cM bT eC ⊢
 have kA : w1.heap.size < w2.heap.size := (aPp cM.out).1
 generalize w1.heap.size = sb at cM kA bT eC eZ ⊢
 obtain ⟨d0, d1, d2⟩ := bI aK.out.snd
 have s0 : w2.cell? ⟨sb, 0, none⟩ = some (.int .i64 s.level) := (aPr cM.out).trans rfl
 have N6 := dW.out.low
 have hlw : IntKind.i64.wrap (s.level + 1) = s.level + 1 := IntWalk.i64_in _ (by omega)
 have done : ∀ (wr : World) (q : aA) (code : Int), Hid (oneOf s.level sv kind item qty = (q, code)) → Below w2.heap.size w2 wr →
   Hid ((bK wr (w.heap.size + 1 + 1) (.int .i64 q.dev) (.int .i64 q.seq) (.int .i64 q.stamp) (.int .i64 q.kind) (.string q.item) (.int .i64 q.qty) (.int .i64 q.level) (.int .i64 q.undos)).heap[w.heap.size + 1 + 1]? = some (.cells #[.int .i64 q.dev, .int .i64 q.seq, .int .i64 q.stamp, .int .i64 q.kind, .string q.item, .int .i64 q.qty, .int .i64 q.level, .int .i64 q.undos] 50 (0, 0))) ∧
   Hid (Below w.heap.size w (bK wr (w.heap.size + 1 + 1) (.int .i64 q.dev) (.int .i64 q.seq) (.int .i64 q.stamp) (.int .i64 q.kind) (.string q.item) (.int .i64 q.qty) (.int .i64 q.level) (.int .i64 q.undos))) := by
  intro wr q code hq hb
  exact ⟨iX _ _ _ _ _ _ _ _ (aK.out.next hb).res, hU _ _ _ _ _ _ _ _ (aK.out.next hb).bel (by omega)⟩
 have k1 := B8.out
 have k1b : (kind == 1) = false := beq_eq_false_iff_ne.2 k1
 go_wp2_with (refine wpList_load_row rfl 96 _ rfl sb rfl _ s.cells _ _ cM.out Tryz.underlying96 rfl (iA s) ?_)
 refine (mM s h0 w2).mono ?_
 rintro e w3 ⟨rfl, aV⟩
 dsimp only
 have hm := zC.out
 have yP : decide (s.level % 2 = 1) = true := decide_eq_true hm
 rw [yP]
 have bH := aPo (aK.out.next aV)
 have gG := aPo ((aV.block _ kA).trans cM.out)
 have dX := aPo aV
 clear aV d0 d1 d2 s0
 obtain ⟨d0, d1, d2⟩ := bI bH.out.snd
 have s0 : w3.cell? ⟨sb, 0, none⟩ = some (.int .i64 s.level) := (aPr gG.out).trans rfl
 have A5 : xA s = sv := by
  rw [lL.out]; exact if_pos hm
 go_wp2_with (refine wpList_load_row rfl 96 _ rfl sb rfl _ s.cells _ _ gG.out Tryz.underlying96 rfl (iA s) ?_)
 refine (X6 s item h0 hi w3).mono ?_
 rintro e w4 ⟨rfl, dJ⟩
 rw [A5]
 generalize xC _ _ = li
 generalize xB _ = lq
 have bA : Below w2.heap.size w2 w4 := dX.out.trans (dJ.mono dX.out.size)
 clear dJ bH gG dX A5
 have dX := aPo bA
 have bH := aPo (aK.out.next bA)
 have gG := aPo ((bA.block _ kA).trans cM.out)
 have g2 : w4.cell? ⟨2, 0, none⟩ = some (.iface 226 (.pointer (some (E 2)))) := (dW.out.below bA (by omega)).cells 2 (by omega) (by omega)
 have g3 : w4.cell? ⟨3, 0, none⟩ = some (.iface 226 (.pointer (some (E 3)))) := (dW.out.below bA (by omega)).cells 3 (by omega) (by omega)
 clear bA d0 d1 d2 s0
 obtain ⟨d0, d1, d2⟩ := bI bH.out.snd
 obtain ⟨r0, r1, r2, r3, r4, r5, r6, r7⟩ := aN bH.out.res
 obtain ⟨f0, f1, f2, f3, f4, f5, f6, f7⟩ := cP bH.out.res
 have s0 : w4.cell? ⟨sb, 0, none⟩ = some (.int .i64 s.level) := (aPr gG.out).trans rfl
 have k2 := Yk2.out
 have k2b : (kind == 2) = false := beq_eq_false_iff_ne.2 k2
 have k3 := Yk3.out
 have k3b : (kind == 3) = false := beq_eq_false_iff_ne.2 k3
 have e := Ye.out
 clear Ye
 subst e
 cases sv
 ·
  have HQ : Hid (oneOf s.level false 4 item qty = ((⟨0, 0, 0, 4, item, 0, 0, 0⟩ : aA), 0)) := by
   show _ = _
   unfold oneOf; rw [if_neg k1, if_pos hm, if_neg k2, if_neg k3, if_pos rfl]
   try rfl
  obtain ⟨HX, cD⟩ := done w4 (⟨0, 0, 0, 4, item, 0, 0, 0⟩ : aA) 0 HQ dX.out; clear done
  dsimp only at HX cD
  go_wp2
  change bodyPost _ _ _ _ _ (bK w4 (w.heap.size + 1 + 1) (.int .i64 0) (.int .i64 0) (.int .i64 0) (.int .i64 4) (.string item) (.int .i64 0) (.int .i64 0) (.int .i64 0))
  generalize bK w4 (w.heap.size + 1 + 1) (.int .i64 0) (.int .i64 0) (.int .i64 0) (.int .i64 4) (.string item) (.int .i64 0) (.int .i64 0) (.int .i64 0) = wf at HX cD ⊢; obtain ⟨e0, e1, e2, e3, e4, e5, e6, e7⟩ := aN HX.out; exact bodyPost_ret (v := .tuple #[.agg #[.int .i64 0, .int .i64 0, .int .i64 0, .int .i64 4, .string item, .int .i64 0, .int .i64 0, .int .i64 0], .nilIface]) (by simp [results, Tryz.results134, go_sem, e0, e1, e2, e3, e4, e5, e6, e7]) rfl ⟨by rw [HQ.out]; dsimp only; rw [G3], cD.out⟩
 ·
  have HQ : Hid (oneOf s.level true 4 item qty = ((⟨0, 0, 0, 0, ⟨#[]⟩, 0, 0, 0⟩ : aA), 2)) := by
   show _ = _
   unfold oneOf; rw [if_neg k1, if_pos hm, if_neg k2, if_neg k3, if_pos rfl]
   try rfl
  clear r0 r1 r2 r3 r4 r5 r6 r7 f0 f1 f2 f3 f4 f5 f6 f7
  go_wp2_with fail
  refine wp_region_held_drew (S := fun w' => w'.cell? ⟨2, 0, none⟩ = some (.iface 226 (.pointer (some (E 2))))) (by kernel_rfl) g2 (fun aL => ?_)
  have cS : Hid (Below w2.heap.size w2 w4.drew) := dX.out.trans ⟨rfl, rfl, rfl, Nat.le_refl _, fun _ _ => rfl⟩
  generalize w4.drew = z0 at cS aL ⊢; have cR := aPo (aK.out.next cS.out); obtain ⟨r0, r1, r2, r3, r4, r5, r6, r7⟩ := aN cR.out.res; obtain ⟨f0, f1, f2, f3, f4, f5, f6, f7⟩ := cP cR.out.res; refine tj 0 ?_
  refine tj 1 ?_
  refine rk 2 rfl (fun K hK => ?_)
  go_simp
  refine hK.out _ _ ((World.cell?_of_block (a := ⟨2, 0, none⟩) (qL (w := z0) (b := w.heap.size + 1 + 1) (k := 2) (.int .i64 0) (.int .i64 0) (.int .i64 0) (.int .i64 0) (.string ⟨#[]⟩) (.int .i64 0) (.int .i64 0) (.int .i64 0) (by omega))).trans aL) (fun bS => ?_)
  clear hK K
  (try simp only [Act.put, u1, u2, u3])
  refine tj 3 ?_
  refine wpAnyH_done (by kernel_rfl) ?_ _
  obtain ⟨HX, cD⟩ := done z0 (⟨0, 0, 0, 0, ⟨#[]⟩, 0, 0, 0⟩ : aA) 2 HQ cS.out; clear done
  dsimp only at HX cD
  go_wp2
  change bodyPost _ _ _ _ _ (bK z0 (w.heap.size + 1 + 1) (.int .i64 0) (.int .i64 0) (.int .i64 0) (.int .i64 0) (.string ⟨#[]⟩) (.int .i64 0) (.int .i64 0) (.int .i64 0))
  generalize bK z0 (w.heap.size + 1 + 1) (.int .i64 0) (.int .i64 0) (.int .i64 0) (.int .i64 0) (.string ⟨#[]⟩) (.int .i64 0) (.int .i64 0) (.int .i64 0) = wf at HX cD ⊢; obtain ⟨e0, e1, e2, e3, e4, e5, e6, e7⟩ := aN HX.out; exact bodyPost_ret (v := .tuple #[.agg #[.int .i64 0, .int .i64 0, .int .i64 0, .int .i64 0, .string ⟨#[]⟩, .int .i64 0, .int .i64 0, .int .i64 0], (.iface 226 (.pointer (some (E 2))))]) (by simp [results, Tryz.results134, go_sem, e0, e1, e2, e3, e4, e5, e6, e7]) rfl ⟨by rw [HQ.out]; dsimp only; rw [G1], cD.out⟩
set_option maxHeartbeats 40000000 in
theorem aJ9 (w : World) (B : Nat) (E : Int → Addr) (hE : eG w B E) (av ao : Option Addr) (nv cv no co : Nat) (xs : List Int) (l : List aA) (kind qty dv sq : Int) (item : ByteArray) (hx : Ints w B av nv xs) (h : bP w B ao no l) (hB : B ≤ w.heap.size) (hv : nv ≤ 1048576) (hc : no ≤ co) (dP : Fits no co) (hi : item.size ≤ 1048576) (s : cL) (hs : s = cA item (counted xs l)) (h0 : 0 ≤ s.level) (h1 : s.level ≤ 1000000) (k1 : ¬ kind = 1) (tR : s.level % 2 = 1) (k2 : ¬ kind = 2) (k3 : ¬ kind = 3) (k4 : ¬ kind = 4) (e : kind = 5) :
  Calls Tryz.prog 134 #[.agg #[.slice av nv cv, .slice ao no co], .agg #[.int .i64 kind, .string item, .int .i64 qty, .int .i64 dv, .int .i64 sq]] w
   (U2 E (oneOf s.level (decide (s.placed.kind = 4)) kind item qty) w) := by
 have B8 := aPo k1
 have zC := aPo tR
 have Yk2 := aPo k2
 have Yk3 := aPo k3
 have Yk4 := aPo k4
 have Ye := aPo e
 clear k1 tR k2 k3 k4 e
 have hT := uR.mk0 w #[.slice av nv cv, .slice ao no co] #[.int .i64 kind, .string item, .int .i64 qty, .int .i64 dv, .int .i64 sq] #[.int .i64 0, .int .i64 0, .int .i64 0, .int .i64 0, .string ⟨#[]⟩, .int .i64 0, .int .i64 0, .int .i64 0]
 have HX := aPo (hx.below hT.bel hB)
 have HO := aPo (h.below hT.bel hB)
 have HE := aPo (hE.below hT.bel hB)
 have HT := aPo hT
 have yW := hT.bel.size
 have HS := aPo hs
 clear h hx hT hs hE
 obtain ⟨sv, eK⟩ : ∃ sv, sv = decide (s.placed.kind = 4) := ⟨_, rfl⟩
 rw [← eK]
 have lL := aPo eK
 clear eK
 have hfl := mN
 go_enter Tryz.func134, Tryz.ntmps134
 go_upto_region 1 with fail
 generalize ((w.alloc (.cells #[.slice av nv cv, .slice ao no co] 27)).alloc (.cells #[.int .i64 kind, .string item, .int .i64 qty, .int .i64 dv, .int .i64 sq] 29)).alloc (.cells #[.int .i64 0, .int .i64 0, .int .i64 0, .int .i64 0, .string ⟨#[]⟩, .int .i64 0, .int .i64 0, .int .i64 0] 50) = w0 at HX HO HE HT yW ⊢
 obtain ⟨c0, c1⟩ := pair_cells HT.out.fst
 obtain ⟨d0, d1, d2⟩ := bI HT.out.snd
 go_wp2_with fail
 refine (rC w0 B av ao nv cv no co xs l item HX.out HO.out (by omega) hv hc dP).mono ?_
 rintro e w1 ⟨rfl, hb⟩
 rw [← HS.out]
 have bC := aPo (HT.out.next hb)
 have fB := aPo (HE.out.below hb (by omega))
 have eZ := hb.size
 clear hb c0 c1 d0 d1 d2 HT HX HO HE
 obtain ⟨d0, d1, d2⟩ := bI bC.out.snd
 clear HS
 go_upto_region 2 with (refine wpList_store_rowTo rfl 96 _ _ rfl rfl w1.heap.size s.cells rfl rfl 96 _ (World.alloc_heap_new _ _) (iA s) rfl (mL s) ?_)
 rw [World.setRow_alloc_new]
 have aT := ((Below.refl w1.heap.size w1).alloc aPq (.cells s.cells 96))
 have bT := aPo aT
 have aK := aPo (bC.out.next aT)
 have dW := aPo (fB.out.below aT (by omega))
 have cM := aPo (World.alloc_heap_new w1 (.cells s.cells 96))
 have eC := aT.size
 clear aT bC fB d0 d1 d2
 generalize w1.alloc (.cells s.cells 96) = w2 at aK dW cM bT eC ⊢
 have kA : w1.heap.size < w2.heap.size := (aPp cM.out).1
 generalize w1.heap.size = sb at cM kA bT eC eZ ⊢
 obtain ⟨d0, d1, d2⟩ := bI aK.out.snd
 have s0 : w2.cell? ⟨sb, 0, none⟩ = some (.int .i64 s.level) := (aPr cM.out).trans rfl
 have N6 := dW.out.low
 have hlw : IntKind.i64.wrap (s.level + 1) = s.level + 1 := IntWalk.i64_in _ (by omega)
 have done : ∀ (wr : World) (q : aA) (code : Int), Hid (oneOf s.level sv kind item qty = (q, code)) → Below w2.heap.size w2 wr →
   Hid ((bK wr (w.heap.size + 1 + 1) (.int .i64 q.dev) (.int .i64 q.seq) (.int .i64 q.stamp) (.int .i64 q.kind) (.string q.item) (.int .i64 q.qty) (.int .i64 q.level) (.int .i64 q.undos)).heap[w.heap.size + 1 + 1]? = some (.cells #[.int .i64 q.dev, .int .i64 q.seq, .int .i64 q.stamp, .int .i64 q.kind, .string q.item, .int .i64 q.qty, .int .i64 q.level, .int .i64 q.undos] 50 (0, 0))) ∧
   Hid (Below w.heap.size w (bK wr (w.heap.size + 1 + 1) (.int .i64 q.dev) (.int .i64 q.seq) (.int .i64 q.stamp) (.int .i64 q.kind) (.string q.item) (.int .i64 q.qty) (.int .i64 q.level) (.int .i64 q.undos))) := by
  intro wr q code hq hb
  exact ⟨iX _ _ _ _ _ _ _ _ (aK.out.next hb).res, hU _ _ _ _ _ _ _ _ (aK.out.next hb).bel (by omega)⟩
 have k1 := B8.out
 have k1b : (kind == 1) = false := beq_eq_false_iff_ne.2 k1
 go_wp2_with (refine wpList_load_row rfl 96 _ rfl sb rfl _ s.cells _ _ cM.out Tryz.underlying96 rfl (iA s) ?_)
 refine (mM s h0 w2).mono ?_
 rintro e w3 ⟨rfl, aV⟩
 dsimp only
 have hm := zC.out
 have yP : decide (s.level % 2 = 1) = true := decide_eq_true hm
 rw [yP]
 have bH := aPo (aK.out.next aV)
 have gG := aPo ((aV.block _ kA).trans cM.out)
 have dX := aPo aV
 clear aV d0 d1 d2 s0
 obtain ⟨d0, d1, d2⟩ := bI bH.out.snd
 have s0 : w3.cell? ⟨sb, 0, none⟩ = some (.int .i64 s.level) := (aPr gG.out).trans rfl
 have A5 : xA s = sv := by
  rw [lL.out]; exact if_pos hm
 go_wp2_with (refine wpList_load_row rfl 96 _ rfl sb rfl _ s.cells _ _ gG.out Tryz.underlying96 rfl (iA s) ?_)
 refine (X6 s item h0 hi w3).mono ?_
 rintro e w4 ⟨rfl, dJ⟩
 rw [A5]
 generalize xC _ _ = li
 generalize xB _ = lq
 have bA : Below w2.heap.size w2 w4 := dX.out.trans (dJ.mono dX.out.size)
 clear dJ bH gG dX A5
 have dX := aPo bA
 have bH := aPo (aK.out.next bA)
 have gG := aPo ((bA.block _ kA).trans cM.out)
 have g2 : w4.cell? ⟨2, 0, none⟩ = some (.iface 226 (.pointer (some (E 2)))) := (dW.out.below bA (by omega)).cells 2 (by omega) (by omega)
 have g3 : w4.cell? ⟨3, 0, none⟩ = some (.iface 226 (.pointer (some (E 3)))) := (dW.out.below bA (by omega)).cells 3 (by omega) (by omega)
 clear bA d0 d1 d2 s0
 obtain ⟨d0, d1, d2⟩ := bI bH.out.snd
 obtain ⟨r0, r1, r2, r3, r4, r5, r6, r7⟩ := aN bH.out.res
 obtain ⟨f0, f1, f2, f3, f4, f5, f6, f7⟩ := cP bH.out.res
 have s0 : w4.cell? ⟨sb, 0, none⟩ = some (.int .i64 s.level) := (aPr gG.out).trans rfl
 have k2 := Yk2.out
 have k2b : (kind == 2) = false := beq_eq_false_iff_ne.2 k2
 have k3 := Yk3.out
 have k3b : (kind == 3) = false := beq_eq_false_iff_ne.2 k3
 have k4 := Yk4.out
 have k4b : (kind == 4) = false := beq_eq_false_iff_ne.2 k4
 have e := Ye.out
 clear Ye
 subst e
 cases sv
 ·
  have HQ : Hid (oneOf s.level false 5 item qty = ((⟨0, 0, 0, 0, ⟨#[]⟩, 0, 0, 0⟩ : aA), 2)) := by
   show _ = _
   unfold oneOf; rw [if_neg k1, if_pos hm, if_neg k2, if_neg k3, if_neg k4, if_pos rfl]
   try rfl
  clear r0 r1 r2 r3 r4 r5 r6 r7 f0 f1 f2 f3 f4 f5 f6 f7
  go_wp2_with fail
  refine wp_region_held_drew (S := fun w' => w'.cell? ⟨2, 0, none⟩ = some (.iface 226 (.pointer (some (E 2))))) (by kernel_rfl) g2 (fun aL => ?_)
  have cS : Hid (Below w2.heap.size w2 w4.drew) := dX.out.trans ⟨rfl, rfl, rfl, Nat.le_refl _, fun _ _ => rfl⟩
  generalize w4.drew = z0 at cS aL ⊢; have cR := aPo (aK.out.next cS.out); obtain ⟨r0, r1, r2, r3, r4, r5, r6, r7⟩ := aN cR.out.res; obtain ⟨f0, f1, f2, f3, f4, f5, f6, f7⟩ := cP cR.out.res; refine tj 0 ?_
  refine tj 1 ?_
  refine rk 2 rfl (fun K hK => ?_)
  go_simp
  refine hK.out _ _ ((World.cell?_of_block (a := ⟨2, 0, none⟩) (qL (w := z0) (b := w.heap.size + 1 + 1) (k := 2) (.int .i64 0) (.int .i64 0) (.int .i64 0) (.int .i64 0) (.string ⟨#[]⟩) (.int .i64 0) (.int .i64 0) (.int .i64 0) (by omega))).trans aL) (fun bS => ?_)
  clear hK K
  (try simp only [Act.put, u1, u2, u3])
  refine tj 3 ?_
  refine wpAnyH_done (by kernel_rfl) ?_ _
  obtain ⟨HX, cD⟩ := done z0 (⟨0, 0, 0, 0, ⟨#[]⟩, 0, 0, 0⟩ : aA) 2 HQ cS.out; clear done
  dsimp only at HX cD
  go_wp2
  change bodyPost _ _ _ _ _ (bK z0 (w.heap.size + 1 + 1) (.int .i64 0) (.int .i64 0) (.int .i64 0) (.int .i64 0) (.string ⟨#[]⟩) (.int .i64 0) (.int .i64 0) (.int .i64 0))
  generalize bK z0 (w.heap.size + 1 + 1) (.int .i64 0) (.int .i64 0) (.int .i64 0) (.int .i64 0) (.string ⟨#[]⟩) (.int .i64 0) (.int .i64 0) (.int .i64 0) = wf at HX cD ⊢; obtain ⟨e0, e1, e2, e3, e4, e5, e6, e7⟩ := aN HX.out; exact bodyPost_ret (v := .tuple #[.agg #[.int .i64 0, .int .i64 0, .int .i64 0, .int .i64 0, .string ⟨#[]⟩, .int .i64 0, .int .i64 0, .int .i64 0], (.iface 226 (.pointer (some (E 2))))]) (by simp [results, Tryz.results134, go_sem, e0, e1, e2, e3, e4, e5, e6, e7]) rfl ⟨by rw [HQ.out]; dsimp only; rw [G1], cD.out⟩
 ·
  have HQ : Hid (oneOf s.level true 5 item qty = ((⟨0, 0, 0, 5, item, 0, 0, 0⟩ : aA), 0)) := by
   show _ = _
   unfold oneOf; rw [if_neg k1, if_pos hm, if_neg k2, if_neg k3, if_neg k4, if_pos rfl]
   try rfl
  obtain ⟨HX, cD⟩ := done w4 (⟨0, 0, 0, 5, item, 0, 0, 0⟩ : aA) 0 HQ dX.out; clear done
  dsimp only at HX cD
  go_wp2
  change bodyPost _ _ _ _ _ (bK w4 (w.heap.size + 1 + 1) (.int .i64 0) (.int .i64 0) (.int .i64 0) (.int .i64 5) (.string item) (.int .i64 0) (.int .i64 0) (.int .i64 0))
  generalize bK w4 (w.heap.size + 1 + 1) (.int .i64 0) (.int .i64 0) (.int .i64 0) (.int .i64 5) (.string item) (.int .i64 0) (.int .i64 0) (.int .i64 0) = wf at HX cD ⊢; obtain ⟨e0, e1, e2, e3, e4, e5, e6, e7⟩ := aN HX.out; exact bodyPost_ret (v := .tuple #[.agg #[.int .i64 0, .int .i64 0, .int .i64 0, .int .i64 5, .string item, .int .i64 0, .int .i64 0, .int .i64 0], .nilIface]) (by simp [results, Tryz.results134, go_sem, e0, e1, e2, e3, e4, e5, e6, e7]) rfl ⟨by rw [HQ.out]; dsimp only; rw [G3], cD.out⟩
set_option maxHeartbeats 40000000 in
theorem aJ8 (w : World) (B : Nat) (E : Int → Addr) (hE : eG w B E) (av ao : Option Addr) (nv cv no co : Nat) (xs : List Int) (l : List aA) (kind qty dv sq : Int) (item : ByteArray) (hx : Ints w B av nv xs) (h : bP w B ao no l) (hB : B ≤ w.heap.size) (hv : nv ≤ 1048576) (hc : no ≤ co) (dP : Fits no co) (hi : item.size ≤ 1048576) (s : cL) (hs : s = cA item (counted xs l)) (h0 : 0 ≤ s.level) (h1 : s.level ≤ 1000000) (k1 : ¬ kind = 1) (tR : s.level % 2 = 1) (k2 : ¬ kind = 2) (k3 : ¬ kind = 3) (k4 : ¬ kind = 4) (k5 : ¬ kind = 5) :
  Calls Tryz.prog 134 #[.agg #[.slice av nv cv, .slice ao no co], .agg #[.int .i64 kind, .string item, .int .i64 qty, .int .i64 dv, .int .i64 sq]] w
   (U2 E (oneOf s.level (decide (s.placed.kind = 4)) kind item qty) w) := by
 have B8 := aPo k1
 have zC := aPo tR
 have Yk2 := aPo k2
 have Yk3 := aPo k3
 have Yk4 := aPo k4
 have Yk5 := aPo k5
 clear k1 tR k2 k3 k4 k5
 have hT := uR.mk0 w #[.slice av nv cv, .slice ao no co] #[.int .i64 kind, .string item, .int .i64 qty, .int .i64 dv, .int .i64 sq] #[.int .i64 0, .int .i64 0, .int .i64 0, .int .i64 0, .string ⟨#[]⟩, .int .i64 0, .int .i64 0, .int .i64 0]
 have HX := aPo (hx.below hT.bel hB)
 have HO := aPo (h.below hT.bel hB)
 have HE := aPo (hE.below hT.bel hB)
 have HT := aPo hT
 have yW := hT.bel.size
 have HS := aPo hs
 clear h hx hT hs hE
 obtain ⟨sv, eK⟩ : ∃ sv, sv = decide (s.placed.kind = 4) := ⟨_, rfl⟩
 rw [← eK]
 have lL := aPo eK
 clear eK
 have hfl := mN
 go_enter Tryz.func134, Tryz.ntmps134
 go_upto_region 1 with fail
 generalize ((w.alloc (.cells #[.slice av nv cv, .slice ao no co] 27)).alloc (.cells #[.int .i64 kind, .string item, .int .i64 qty, .int .i64 dv, .int .i64 sq] 29)).alloc (.cells #[.int .i64 0, .int .i64 0, .int .i64 0, .int .i64 0, .string ⟨#[]⟩, .int .i64 0, .int .i64 0, .int .i64 0] 50) = w0 at HX HO HE HT yW ⊢
 obtain ⟨c0, c1⟩ := pair_cells HT.out.fst
 obtain ⟨d0, d1, d2⟩ := bI HT.out.snd
 go_wp2_with fail
 refine (rC w0 B av ao nv cv no co xs l item HX.out HO.out (by omega) hv hc dP).mono ?_
 rintro e w1 ⟨rfl, hb⟩
 rw [← HS.out]
 have bC := aPo (HT.out.next hb)
 have fB := aPo (HE.out.below hb (by omega))
 have eZ := hb.size
 clear hb c0 c1 d0 d1 d2 HT HX HO HE
 obtain ⟨d0, d1, d2⟩ := bI bC.out.snd
 clear HS
 go_upto_region 2 with (refine wpList_store_rowTo rfl 96 _ _ rfl rfl w1.heap.size s.cells rfl rfl 96 _ (World.alloc_heap_new _ _) (iA s) rfl (mL s) ?_)
 rw [World.setRow_alloc_new]
 have aT := ((Below.refl w1.heap.size w1).alloc aPq (.cells s.cells 96))
 have bT := aPo aT
 have aK := aPo (bC.out.next aT)
 have dW := aPo (fB.out.below aT (by omega))
 have cM := aPo (World.alloc_heap_new w1 (.cells s.cells 96))
 have eC := aT.size
 clear aT bC fB d0 d1 d2
 generalize w1.alloc (.cells s.cells 96) = w2 at aK dW cM bT eC ⊢
 have kA : w1.heap.size < w2.heap.size := (aPp cM.out).1
 generalize w1.heap.size = sb at cM kA bT eC eZ ⊢
 obtain ⟨d0, d1, d2⟩ := bI aK.out.snd
 have s0 : w2.cell? ⟨sb, 0, none⟩ = some (.int .i64 s.level) := (aPr cM.out).trans rfl
 have N6 := dW.out.low
 have hlw : IntKind.i64.wrap (s.level + 1) = s.level + 1 := IntWalk.i64_in _ (by omega)
 have done : ∀ (wr : World) (q : aA) (code : Int), Hid (oneOf s.level sv kind item qty = (q, code)) → Below w2.heap.size w2 wr →
   Hid ((bK wr (w.heap.size + 1 + 1) (.int .i64 q.dev) (.int .i64 q.seq) (.int .i64 q.stamp) (.int .i64 q.kind) (.string q.item) (.int .i64 q.qty) (.int .i64 q.level) (.int .i64 q.undos)).heap[w.heap.size + 1 + 1]? = some (.cells #[.int .i64 q.dev, .int .i64 q.seq, .int .i64 q.stamp, .int .i64 q.kind, .string q.item, .int .i64 q.qty, .int .i64 q.level, .int .i64 q.undos] 50 (0, 0))) ∧
   Hid (Below w.heap.size w (bK wr (w.heap.size + 1 + 1) (.int .i64 q.dev) (.int .i64 q.seq) (.int .i64 q.stamp) (.int .i64 q.kind) (.string q.item) (.int .i64 q.qty) (.int .i64 q.level) (.int .i64 q.undos))) := by
  intro wr q code hq hb
  exact ⟨iX _ _ _ _ _ _ _ _ (aK.out.next hb).res, hU _ _ _ _ _ _ _ _ (aK.out.next hb).bel (by omega)⟩
 have k1 := B8.out
 have k1b : (kind == 1) = false := beq_eq_false_iff_ne.2 k1
 go_wp2_with (refine wpList_load_row rfl 96 _ rfl sb rfl _ s.cells _ _ cM.out Tryz.underlying96 rfl (iA s) ?_)
 refine (mM s h0 w2).mono ?_
 rintro e w3 ⟨rfl, aV⟩
 dsimp only
 have hm := zC.out
 have yP : decide (s.level % 2 = 1) = true := decide_eq_true hm
 rw [yP]
 have bH := aPo (aK.out.next aV)
 have gG := aPo ((aV.block _ kA).trans cM.out)
 have dX := aPo aV
 clear aV d0 d1 d2 s0
 obtain ⟨d0, d1, d2⟩ := bI bH.out.snd
 have s0 : w3.cell? ⟨sb, 0, none⟩ = some (.int .i64 s.level) := (aPr gG.out).trans rfl
 have A5 : xA s = sv := by
  rw [lL.out]; exact if_pos hm
 go_wp2_with (refine wpList_load_row rfl 96 _ rfl sb rfl _ s.cells _ _ gG.out Tryz.underlying96 rfl (iA s) ?_)
 refine (X6 s item h0 hi w3).mono ?_
 rintro e w4 ⟨rfl, dJ⟩
 rw [A5]
 generalize xC _ _ = li
 generalize xB _ = lq
 have bA : Below w2.heap.size w2 w4 := dX.out.trans (dJ.mono dX.out.size)
 clear dJ bH gG dX A5
 have dX := aPo bA
 have bH := aPo (aK.out.next bA)
 have gG := aPo ((bA.block _ kA).trans cM.out)
 have g2 : w4.cell? ⟨2, 0, none⟩ = some (.iface 226 (.pointer (some (E 2)))) := (dW.out.below bA (by omega)).cells 2 (by omega) (by omega)
 have g3 : w4.cell? ⟨3, 0, none⟩ = some (.iface 226 (.pointer (some (E 3)))) := (dW.out.below bA (by omega)).cells 3 (by omega) (by omega)
 clear bA d0 d1 d2 s0
 obtain ⟨d0, d1, d2⟩ := bI bH.out.snd
 obtain ⟨r0, r1, r2, r3, r4, r5, r6, r7⟩ := aN bH.out.res
 obtain ⟨f0, f1, f2, f3, f4, f5, f6, f7⟩ := cP bH.out.res
 have s0 : w4.cell? ⟨sb, 0, none⟩ = some (.int .i64 s.level) := (aPr gG.out).trans rfl
 have k2 := Yk2.out
 have k2b : (kind == 2) = false := beq_eq_false_iff_ne.2 k2
 have k3 := Yk3.out
 have k3b : (kind == 3) = false := beq_eq_false_iff_ne.2 k3
 have k4 := Yk4.out
 have k4b : (kind == 4) = false := beq_eq_false_iff_ne.2 k4
 have k5 := Yk5.out
 have k5b : (kind == 5) = false := beq_eq_false_iff_ne.2 k5
 have HQ : Hid (oneOf s.level sv kind item qty = ((⟨0, 0, 0, 0, ⟨#[]⟩, 0, 0, 0⟩ : aA), 2)) := by
  show _ = _
  unfold oneOf; rw [if_neg k1, if_pos hm, if_neg k2, if_neg k3, if_neg k4, if_neg k5]
  try rfl
 clear r0 r1 r2 r3 r4 r5 r6 r7 f0 f1 f2 f3 f4 f5 f6 f7
 go_wp2_with fail
 refine wp_region_held_drew (S := fun w' => w'.cell? ⟨2, 0, none⟩ = some (.iface 226 (.pointer (some (E 2))))) (by kernel_rfl) g2 (fun aL => ?_)
 have cS : Hid (Below w2.heap.size w2 w4.drew) := dX.out.trans ⟨rfl, rfl, rfl, Nat.le_refl _, fun _ _ => rfl⟩
 generalize w4.drew = z0 at cS aL ⊢
 have cR := aPo (aK.out.next cS.out)
 obtain ⟨r0, r1, r2, r3, r4, r5, r6, r7⟩ := aN cR.out.res
 obtain ⟨f0, f1, f2, f3, f4, f5, f6, f7⟩ := cP cR.out.res
 refine tj 0 ?_
 refine tj 1 ?_
 refine rk 2 rfl (fun K hK => ?_)
 go_simp
 refine hK.out _ _ ((World.cell?_of_block (a := ⟨2, 0, none⟩) (qL (w := z0) (b := w.heap.size + 1 + 1) (k := 2) (.int .i64 0) (.int .i64 0) (.int .i64 0) (.int .i64 0) (.string ⟨#[]⟩) (.int .i64 0) (.int .i64 0) (.int .i64 0) (by omega))).trans aL) (fun bS => ?_)
 clear hK K
 (try simp only [Act.put, u1, u2, u3])
 refine tj 3 ?_
 refine wpAnyH_done (by kernel_rfl) ?_ _
 obtain ⟨HX, cD⟩ := done z0 (⟨0, 0, 0, 0, ⟨#[]⟩, 0, 0, 0⟩ : aA) 2 HQ cS.out
 clear done
 dsimp only at HX cD
 go_wp2
 change bodyPost _ _ _ _ _ (bK z0 (w.heap.size + 1 + 1) (.int .i64 0) (.int .i64 0) (.int .i64 0) (.int .i64 0) (.string ⟨#[]⟩) (.int .i64 0) (.int .i64 0) (.int .i64 0))
 generalize bK z0 (w.heap.size + 1 + 1) (.int .i64 0) (.int .i64 0) (.int .i64 0) (.int .i64 0) (.string ⟨#[]⟩) (.int .i64 0) (.int .i64 0) (.int .i64 0) = wf at HX cD ⊢
 obtain ⟨e0, e1, e2, e3, e4, e5, e6, e7⟩ := aN HX.out
 exact bodyPost_ret (v := .tuple #[.agg #[.int .i64 0, .int .i64 0, .int .i64 0, .int .i64 0, .string ⟨#[]⟩, .int .i64 0, .int .i64 0, .int .i64 0], (.iface 226 (.pointer (some (E 2))))]) (by simp [results, Tryz.results134, go_sem, e0, e1, e2, e3, e4, e5, e6, e7]) rfl ⟨by rw [HQ.out]; dsimp only; rw [G1], cD.out⟩
set_option maxHeartbeats 40000000 in
theorem aK8 (w : World) (B : Nat) (E : Int → Addr) (hE : eG w B E) (av ao : Option Addr) (nv cv no co : Nat) (xs : List Int) (l : List aA) (kind qty dv sq : Int) (item : ByteArray) (hx : Ints w B av nv xs) (h : bP w B ao no l) (hB : B ≤ w.heap.size) (hv : nv ≤ 1048576) (hc : no ≤ co) (dP : Fits no co) (hi : item.size ≤ 1048576) (s : cL) (hs : s = cA item (counted xs l)) (h0 : 0 ≤ s.level) (h1 : s.level ≤ 1000000) :
  Calls Tryz.prog 134 #[.agg #[.slice av nv cv, .slice ao no co], .agg #[.int .i64 kind, .string item, .int .i64 qty, .int .i64 dv, .int .i64 sq]] w
   (U2 E (oneOf s.level (decide (s.placed.kind = 4)) kind item qty) w) := by
 by_cases k1 : kind = 1
 ·exact aJ7 w B E hE av ao nv cv no co xs l kind qty dv sq item hx h hB hv hc dP hi s hs h0 h1 k1
 by_cases hm : s.level % 2 = 1
 rotate_left
 ·exact aJ6 w B E hE av ao nv cv no co xs l kind qty dv sq item hx h hB hv hc dP hi s hs h0 h1 k1 hm
 by_cases k2 : kind = 2
 ·exact aKc w B E hE av ao nv cv no co xs l kind qty dv sq item hx h hB hv hc dP hi s hs h0 h1 k1 hm k2
 by_cases k3 : kind = 3
 ·exact aKb w B E hE av ao nv cv no co xs l kind qty dv sq item hx h hB hv hc dP hi s hs h0 h1 k1 hm k2 k3
 by_cases k4 : kind = 4
 ·exact aKa w B E hE av ao nv cv no co xs l kind qty dv sq item hx h hB hv hc dP hi s hs h0 h1 k1 hm k2 k3 k4
 by_cases k5 : kind = 5
 ·exact aJ9 w B E hE av ao nv cv no co xs l kind qty dv sq item hx h hB hv hc dP hi s hs h0 h1 k1 hm k2 k3 k4 k5
 exact aJ8 w B E hE av ao nv cv no co xs l kind qty dv sq item hx h hB hv hc dP hi s hs h0 h1 k1 hm k2 k3 k4 k5
end Go.Proofs.YthkagbnpcjidfaaGreatDoor
