/- Walks and mathematics that several claims share, part 20. -/
import Derived.Test.YthkagbnpcjidfaaGreatDoorGu19
namespace Go.Proofs.YthkagbnpcjidfaaGreatDoor
set_option maxRecDepth 100000
open Go.RowKit
set_option linter.unusedVariables false
set_option linter.unusedSimpArgs false
def oneOf (wN : Int) (saved : Bool) (kind : Int) (item : ByteArray) (qty : Int) : aA × Int :=
 if kind = 1 then (if wN % 2 = 1 then (aA.zero, 3) else (⟨0, 0, 0, 1, item, qty, wN + 1, 0⟩, 0))
 else if wN % 2 = 1 then
  (if kind = 2 then (⟨0, 0, 0, 2, item, qty, 0, 0⟩, 0)
   else if kind = 3 then (⟨0, 0, 0, 3, item, 0, wN + 1, 0⟩, 0)
   else if kind = 4 then (if saved = true then (aA.zero, 2) else (⟨0, 0, 0, 4, item, 0, 0, 0⟩, 0))
   else if kind = 5 then (if saved = true then (⟨0, 0, 0, 5, item, 0, 0, 0⟩, 0) else (aA.zero, 2))
   else (aA.zero, 2))
 else (aA.zero, 2)
theorem aAj (wN : Int) (saved : Bool) (kind : Int) (item : ByteArray) (qty : Int) : (oneOf wN saved kind item qty).1.item = item ∨ (oneOf wN saved kind item qty).1.item = ⟨#[]⟩ := by
 unfold oneOf
 repeat' split
 all_goals first | exact .inl rfl | exact .inr rfl
structure uR (w w1 : World) (x y z : Array Value) : Prop where
 fst : w1.heap[w.heap.size]? = some (.cells x 27 (0, 0))
 snd : w1.heap[w.heap.size + 1]? = some (.cells y 29 (0, 0))
 res : w1.heap[w.heap.size + 1 + 1]? = some (.cells z 50 (0, 0))
 bel : Below w.heap.size w w1
theorem uR.mk0 (w : World) (x y z : Array Value) : uR w (((w.alloc (.cells x 27)).alloc (.cells y 29)).alloc (.cells z 50)) x y z := by
 have e1 : (w.alloc (.cells x 27)).heap.size = w.heap.size + 1 := by simp
 have e2 : ((w.alloc (.cells x 27)).alloc (.cells y 29)).heap.size = w.heap.size + 1 + 1 := by simp
 refine ⟨?_, ?_, ?_, (((Below.refl _ w).alloc aPq _).alloc (by simp) _).alloc (by simp; omega) _⟩
 ·exact ((Below.heap_alloc _ _ _ (by omega)).trans (Below.heap_alloc _ _ _ (by omega))).trans (heap_alloc_new _ _)
 ·rw [← e1]; exact (Below.heap_alloc _ _ _ (by omega)).trans (heap_alloc_new _ _)
 ·rw [← e2]; exact heap_alloc_new _ _
theorem uR.next {w w1 w2 : World} {x y z : Array Value} (h : uR w w1 x y z) (hb : Below w1.heap.size w1 w2) : uR w w2 x y z :=
 ⟨(hb.block _ (aPp h.fst).1).trans h.fst, (hb.block _ (aPp h.snd).1).trans h.snd, (hb.block _ (aPp h.res).1).trans h.res, h.bel.trans (hb.mono h.bel.size)⟩
theorem bI {w : World} {b : Nat} {v0 v1 v2 v3 v4 : Value} {T : TypeId} {fr : Nat × Nat} (h : w.heap[b]? = some (.cells #[v0, v1, v2, v3, v4] T fr)) : w.cell? ⟨b, 0, none⟩ = some v0 ∧ w.cell? ⟨b, 1, none⟩ = some v1 ∧ w.cell? ⟨b, 2, none⟩ = some v2 :=
 ⟨aPr h, aPr h, aPr h⟩
def aN9 (o : aA) (code : Int) (w : World) (e : Ending) (w' : World) : Prop :=
 e = .returned (.tuple #[.agg #[.int .i64 o.dev, .int .i64 o.seq, .int .i64 o.stamp, .int .i64 o.kind, .string o.item, .int .i64 o.qty, .int .i64 o.level, .int .i64 o.undos], .int .i64 code]) ∧ Below w.heap.size w w'
set_option linter.unusedSimpArgs false in
set_option maxHeartbeats 40000000 in
theorem aMN (w : World) (B : Nat) (av ao : Option Addr) (nv cv no co : Nat) (xs : List Int) (l : List aA) (kind qty dv sq : Int) (item : ByteArray) (h : bP w B ao no l) (hB : B ≤ w.heap.size) (hn : no ≤ 1048576) (hc : aE xs l = true) (hlv : aI item l l.length ≤ 1000000) :
  Calls Tryz.prog 89 #[.agg #[.slice av nv cv, .slice ao no co], .agg #[.int .i64 kind, .string item, .int .i64 qty, .int .i64 dv, .int .i64 sq]] w
   (aN9 (oneOf (aI item l l.length) (decide ((bE gT item l l.length).kind = 4)) kind item qty).1 (oneOf (aI item l l.length) (decide ((bE gT item l l.length).kind = 4)) kind item qty).2 w) := by
 have hT := uR.mk0 w #[.slice av nv cv, .slice ao no co] #[.int .i64 kind, .string item, .int .i64 qty, .int .i64 dv, .int .i64 sq] #[.int .i64 0, .int .i64 0, .int .i64 0, .int .i64 0, .string ⟨#[]⟩, .int .i64 0, .int .i64 0, .int .i64 0]
 have HO := aPo (h.below hT.bel hB)
 have HT := aPo hT
 have HC := aPo hc
 have yW := hT.bel.size
 have hlp := rT item l l.length
 obtain ⟨u, yL⟩ : ∃ u, u = aI item l l.length := ⟨_, rfl⟩
 obtain ⟨sv, eK⟩ : ∃ sv, sv = decide ((bE gT item l l.length).kind = 4) := ⟨_, rfl⟩
 rw [← yL] at hlv hlp ⊢
 rw [← eK]
 have HUe := aPo yL
 have lL := aPo eK
 clear h hT hc yL eK
 go_enter Tryz.func89, Tryz.ntmps89
 go_upto_region 1 with fail
 generalize ((w.alloc (.cells #[.slice av nv cv, .slice ao no co] 27)).alloc (.cells #[.int .i64 kind, .string item, .int .i64 qty, .int .i64 dv, .int .i64 sq] 29)).alloc (.cells #[.int .i64 0, .int .i64 0, .int .i64 0, .int .i64 0, .string ⟨#[]⟩, .int .i64 0, .int .i64 0, .int .i64 0] 50) = w0 at HO HT yW ⊢
 obtain ⟨c0, c1⟩ := pair_cells HT.out.fst
 obtain ⟨d0, d1, d2⟩ := bI HT.out.snd
 go_wp2_with fail
 refine (E9 w0 B av ao nv cv no co xs l item HO.out (by omega) hn HC.out).mono ?_
 rintro e w1 ⟨rfl, hb⟩
 have bC := aPo (HT.out.next hb)
 have dD := aPo (HO.out.below hb (by omega))
 have eZ := hb.size
 clear hb c0 c1 d0 d1 d2 HT HO
 obtain ⟨c0, c1⟩ := pair_cells bC.out.fst
 obtain ⟨d0, d1, d2⟩ := bI bC.out.snd
 obtain ⟨r0, r1, r2, r3, r4, r5, r6, r7⟩ := aN bC.out.res
 obtain ⟨f0, f1, f2, f3, f4, f5, f6, f7⟩ := cP bC.out.res
 have HSv := fun W (hw : Below w1.heap.size w1 W) => aPo (aED W B av ao nv cv no co xs l item (dD.out.below hw (by omega)) (by have := hw.size; omega) hn HC.out)
 rw [← lL.out] at HSv
 rw [← HUe.out]
 have hu1 : u + 1 ≤ 1000001 := by omega
 have done : ∀ (wr : World) (q : aA) (code : Int), Hid (oneOf u sv kind item qty = (q, code)) → Below w1.heap.size w1 wr →
   Hid ((bK wr (w.heap.size + 1 + 1) (.int .i64 q.dev) (.int .i64 q.seq) (.int .i64 q.stamp) (.int .i64 q.kind) (.string q.item) (.int .i64 q.qty) (.int .i64 q.level) (.int .i64 q.undos)).heap[w.heap.size + 1 + 1]? = some (.cells #[.int .i64 q.dev, .int .i64 q.seq, .int .i64 q.stamp, .int .i64 q.kind, .string q.item, .int .i64 q.qty, .int .i64 q.level, .int .i64 q.undos] 50 (0, 0))) ∧
   Hid (Below w.heap.size w (bK wr (w.heap.size + 1 + 1) (.int .i64 q.dev) (.int .i64 q.seq) (.int .i64 q.stamp) (.int .i64 q.kind) (.string q.item) (.int .i64 q.qty) (.int .i64 q.level) (.int .i64 q.undos))) := by
  intro wr q code hq hb
  exact ⟨iX _ _ _ _ _ _ _ _ (bC.out.next hb).res, hU _ _ _ _ _ _ _ _ (bC.out.next hb).bel (by omega)⟩
 by_cases hm : u % 2 = 1
 ·have hmb : (u % 2 == 1) = true := by rw [hm]; rfl
  by_cases k1 : kind = 1
  ·subst k1
   have HQ : Hid (oneOf u sv 1 item qty = ((⟨0, 0, 0, 0, ⟨#[]⟩, 0, 0, 0⟩ : aA), 3)) := by
    show _ = _
    unfold oneOf; rw [if_pos rfl, if_pos hm]; rfl
   obtain ⟨HX, cD⟩ := done w1 (⟨0, 0, 0, 0, ⟨#[]⟩, 0, 0, 0⟩ : aA) 3 HQ (Below.refl _ _); clear done
   dsimp only at HX cD
   go_wp2
   change bodyPost _ _ _ _ _ (bK w1 (w.heap.size + 1 + 1) (.int .i64 0) (.int .i64 0) (.int .i64 0) (.int .i64 0) (.string ⟨#[]⟩) (.int .i64 0) (.int .i64 0) (.int .i64 0))
   generalize bK w1 (w.heap.size + 1 + 1) (.int .i64 0) (.int .i64 0) (.int .i64 0) (.int .i64 0) (.string ⟨#[]⟩) (.int .i64 0) (.int .i64 0) (.int .i64 0) = wf at HX cD ⊢; obtain ⟨e0, e1, e2, e3, e4, e5, e6, e7⟩ := aN HX.out; exact bodyPost_ret (v := .tuple #[.agg #[.int .i64 0, .int .i64 0, .int .i64 0, .int .i64 0, .string ⟨#[]⟩, .int .i64 0, .int .i64 0, .int .i64 0], .int .i64 3]) (by simp [results, Tryz.results89, go_sem, e0, e1, e2, e3, e4, e5, e6, e7]) rfl ⟨by rw [HQ.out], cD.out⟩
  ·have k1b : (kind == 1) = false := beq_eq_false_iff_ne.2 k1
   by_cases k2 : kind = 2
   ·subst k2
    have HQ : Hid (oneOf u sv 2 item qty = ((⟨0, 0, 0, 2, item, qty, 0, 0⟩ : aA), 0)) := by
     show _ = _
     unfold oneOf; rw [if_neg k1, if_pos hm, if_pos rfl]
    obtain ⟨HX, cD⟩ := done w1 (⟨0, 0, 0, 2, item, qty, 0, 0⟩ : aA) 0 HQ (Below.refl _ _); clear done
    dsimp only at HX cD
    go_wp2
    change bodyPost _ _ _ _ _ (bK w1 (w.heap.size + 1 + 1) (.int .i64 0) (.int .i64 0) (.int .i64 0) (.int .i64 2) (.string item) (.int .i64 qty) (.int .i64 0) (.int .i64 0))
    generalize bK w1 (w.heap.size + 1 + 1) (.int .i64 0) (.int .i64 0) (.int .i64 0) (.int .i64 2) (.string item) (.int .i64 qty) (.int .i64 0) (.int .i64 0) = wf at HX cD ⊢; obtain ⟨e0, e1, e2, e3, e4, e5, e6, e7⟩ := aN HX.out; exact bodyPost_ret (v := .tuple #[.agg #[.int .i64 0, .int .i64 0, .int .i64 0, .int .i64 2, .string item, .int .i64 qty, .int .i64 0, .int .i64 0], .int .i64 0]) (by simp [results, Tryz.results89, go_sem, e0, e1, e2, e3, e4, e5, e6, e7]) rfl ⟨by rw [HQ.out], cD.out⟩
   ·have k2b : (kind == 2) = false := beq_eq_false_iff_ne.2 k2
    by_cases k3 : kind = 3
    ·subst k3
     have HQ : Hid (oneOf u sv 3 item qty = ((⟨0, 0, 0, 3, item, 0, (u + 1), 0⟩ : aA), 0)) := by
      show _ = _
      unfold oneOf; rw [if_neg k1, if_pos hm, if_neg k2, if_pos rfl]
     obtain ⟨HX, cD⟩ := done w1 (⟨0, 0, 0, 3, item, 0, (u + 1), 0⟩ : aA) 0 HQ (Below.refl _ _); clear done
     dsimp only at HX cD
     go_wp2
     change bodyPost _ _ _ _ _ (bK w1 (w.heap.size + 1 + 1) (.int .i64 0) (.int .i64 0) (.int .i64 0) (.int .i64 3) (.string item) (.int .i64 0) (.int .i64 (u + 1)) (.int .i64 0))
     generalize bK w1 (w.heap.size + 1 + 1) (.int .i64 0) (.int .i64 0) (.int .i64 0) (.int .i64 3) (.string item) (.int .i64 0) (.int .i64 (u + 1)) (.int .i64 0) = wf at HX cD ⊢; obtain ⟨e0, e1, e2, e3, e4, e5, e6, e7⟩ := aN HX.out; exact bodyPost_ret (v := .tuple #[.agg #[.int .i64 0, .int .i64 0, .int .i64 0, .int .i64 3, .string item, .int .i64 0, .int .i64 (u + 1), .int .i64 0], .int .i64 0]) (by simp [results, Tryz.results89, go_sem, e0, e1, e2, e3, e4, e5, e6, e7]) rfl ⟨by rw [HQ.out], cD.out⟩
    ·have k3b : (kind == 3) = false := beq_eq_false_iff_ne.2 k3
     by_cases k4 : kind = 4
     ·subst k4
      go_wp2_with fail
      refine (HSv w1 (Below.refl _ _)).out.mono ?_
      rintro e w2 ⟨rfl, aM⟩; have bT := aPo aM; have aK := aPo (bC.out.next aM); clear aM c0 c1 d0 d1 d2 r0 r1 r2 r3 r4 r5 r6 r7 f0 f1 f2 f3 f4 f5 f6 f7 HSv; obtain ⟨d0, d1, d2⟩ := bI aK.out.snd; obtain ⟨r0, r1, r2, r3, r4, r5, r6, r7⟩ := aN aK.out.res; obtain ⟨f0, f1, f2, f3, f4, f5, f6, f7⟩ := cP aK.out.res; cases sv
      ·
       have HQ : Hid (oneOf u false 4 item qty = ((⟨0, 0, 0, 4, item, 0, 0, 0⟩ : aA), 0)) := by
        show _ = _
        unfold oneOf; rw [if_neg k1, if_pos hm, if_neg k2, if_neg k3, if_pos rfl]; rfl
       obtain ⟨HX, cD⟩ := done w2 (⟨0, 0, 0, 4, item, 0, 0, 0⟩ : aA) 0 HQ bT.out; clear done
       dsimp only at HX cD
       go_wp2
       change bodyPost _ _ _ _ _ (bK w2 (w.heap.size + 1 + 1) (.int .i64 0) (.int .i64 0) (.int .i64 0) (.int .i64 4) (.string item) (.int .i64 0) (.int .i64 0) (.int .i64 0))
       generalize bK w2 (w.heap.size + 1 + 1) (.int .i64 0) (.int .i64 0) (.int .i64 0) (.int .i64 4) (.string item) (.int .i64 0) (.int .i64 0) (.int .i64 0) = wf at HX cD ⊢; obtain ⟨e0, e1, e2, e3, e4, e5, e6, e7⟩ := aN HX.out; exact bodyPost_ret (v := .tuple #[.agg #[.int .i64 0, .int .i64 0, .int .i64 0, .int .i64 4, .string item, .int .i64 0, .int .i64 0, .int .i64 0], .int .i64 0]) (by simp [results, Tryz.results89, go_sem, e0, e1, e2, e3, e4, e5, e6, e7]) rfl ⟨by rw [HQ.out], cD.out⟩
      ·
       have HQ : Hid (oneOf u true 4 item qty = ((⟨0, 0, 0, 0, ⟨#[]⟩, 0, 0, 0⟩ : aA), 2)) := by
        show _ = _
        unfold oneOf; rw [if_neg k1, if_pos hm, if_neg k2, if_neg k3, if_pos rfl]; rfl
       obtain ⟨HX, cD⟩ := done w2 (⟨0, 0, 0, 0, ⟨#[]⟩, 0, 0, 0⟩ : aA) 2 HQ bT.out; clear done
       dsimp only at HX cD
       go_wp2
       change bodyPost _ _ _ _ _ (bK w2 (w.heap.size + 1 + 1) (.int .i64 0) (.int .i64 0) (.int .i64 0) (.int .i64 0) (.string ⟨#[]⟩) (.int .i64 0) (.int .i64 0) (.int .i64 0))
       generalize bK w2 (w.heap.size + 1 + 1) (.int .i64 0) (.int .i64 0) (.int .i64 0) (.int .i64 0) (.string ⟨#[]⟩) (.int .i64 0) (.int .i64 0) (.int .i64 0) = wf at HX cD ⊢; obtain ⟨e0, e1, e2, e3, e4, e5, e6, e7⟩ := aN HX.out; exact bodyPost_ret (v := .tuple #[.agg #[.int .i64 0, .int .i64 0, .int .i64 0, .int .i64 0, .string ⟨#[]⟩, .int .i64 0, .int .i64 0, .int .i64 0], .int .i64 2]) (by simp [results, Tryz.results89, go_sem, e0, e1, e2, e3, e4, e5, e6, e7]) rfl ⟨by rw [HQ.out], cD.out⟩
     ·have k4b : (kind == 4) = false := beq_eq_false_iff_ne.2 k4
      by_cases k5 : kind = 5
      ·subst k5
       go_wp2_with fail
       refine (HSv w1 (Below.refl _ _)).out.mono ?_
       rintro e w2 ⟨rfl, aM⟩; have bT := aPo aM; have aK := aPo (bC.out.next aM); clear aM c0 c1 d0 d1 d2 r0 r1 r2 r3 r4 r5 r6 r7 f0 f1 f2 f3 f4 f5 f6 f7 HSv; obtain ⟨d0, d1, d2⟩ := bI aK.out.snd; obtain ⟨r0, r1, r2, r3, r4, r5, r6, r7⟩ := aN aK.out.res; obtain ⟨f0, f1, f2, f3, f4, f5, f6, f7⟩ := cP aK.out.res; cases sv
       ·
        have HQ : Hid (oneOf u false 5 item qty = ((⟨0, 0, 0, 0, ⟨#[]⟩, 0, 0, 0⟩ : aA), 2)) := by
         show _ = _
         unfold oneOf; rw [if_neg k1, if_pos hm, if_neg k2, if_neg k3, if_neg k4, if_pos rfl]; rfl
        obtain ⟨HX, cD⟩ := done w2 (⟨0, 0, 0, 0, ⟨#[]⟩, 0, 0, 0⟩ : aA) 2 HQ bT.out; clear done
        dsimp only at HX cD
        go_wp2
        change bodyPost _ _ _ _ _ (bK w2 (w.heap.size + 1 + 1) (.int .i64 0) (.int .i64 0) (.int .i64 0) (.int .i64 0) (.string ⟨#[]⟩) (.int .i64 0) (.int .i64 0) (.int .i64 0))
        generalize bK w2 (w.heap.size + 1 + 1) (.int .i64 0) (.int .i64 0) (.int .i64 0) (.int .i64 0) (.string ⟨#[]⟩) (.int .i64 0) (.int .i64 0) (.int .i64 0) = wf at HX cD ⊢; obtain ⟨e0, e1, e2, e3, e4, e5, e6, e7⟩ := aN HX.out; exact bodyPost_ret (v := .tuple #[.agg #[.int .i64 0, .int .i64 0, .int .i64 0, .int .i64 0, .string ⟨#[]⟩, .int .i64 0, .int .i64 0, .int .i64 0], .int .i64 2]) (by simp [results, Tryz.results89, go_sem, e0, e1, e2, e3, e4, e5, e6, e7]) rfl ⟨by rw [HQ.out], cD.out⟩
       ·
        have HQ : Hid (oneOf u true 5 item qty = ((⟨0, 0, 0, 5, item, 0, 0, 0⟩ : aA), 0)) := by
         show _ = _
         unfold oneOf; rw [if_neg k1, if_pos hm, if_neg k2, if_neg k3, if_neg k4, if_pos rfl]; rfl
        obtain ⟨HX, cD⟩ := done w2 (⟨0, 0, 0, 5, item, 0, 0, 0⟩ : aA) 0 HQ bT.out; clear done
        dsimp only at HX cD
        go_wp2
        change bodyPost _ _ _ _ _ (bK w2 (w.heap.size + 1 + 1) (.int .i64 0) (.int .i64 0) (.int .i64 0) (.int .i64 5) (.string item) (.int .i64 0) (.int .i64 0) (.int .i64 0))
        generalize bK w2 (w.heap.size + 1 + 1) (.int .i64 0) (.int .i64 0) (.int .i64 0) (.int .i64 5) (.string item) (.int .i64 0) (.int .i64 0) (.int .i64 0) = wf at HX cD ⊢; obtain ⟨e0, e1, e2, e3, e4, e5, e6, e7⟩ := aN HX.out; exact bodyPost_ret (v := .tuple #[.agg #[.int .i64 0, .int .i64 0, .int .i64 0, .int .i64 5, .string item, .int .i64 0, .int .i64 0, .int .i64 0], .int .i64 0]) (by simp [results, Tryz.results89, go_sem, e0, e1, e2, e3, e4, e5, e6, e7]) rfl ⟨by rw [HQ.out], cD.out⟩
      ·have k5b : (kind == 5) = false := beq_eq_false_iff_ne.2 k5
       have HQ : Hid (oneOf u sv kind item qty = ((⟨0, 0, 0, 0, ⟨#[]⟩, 0, 0, 0⟩ : aA), 2)) := by
        show _ = _
        unfold oneOf; rw [if_neg k1, if_pos hm, if_neg k2, if_neg k3, if_neg k4, if_neg k5]; rfl
       obtain ⟨HX, cD⟩ := done w1 (⟨0, 0, 0, 0, ⟨#[]⟩, 0, 0, 0⟩ : aA) 2 HQ (Below.refl _ _); clear done
       dsimp only at HX cD
       go_wp2
       change bodyPost _ _ _ _ _ (bK w1 (w.heap.size + 1 + 1) (.int .i64 0) (.int .i64 0) (.int .i64 0) (.int .i64 0) (.string ⟨#[]⟩) (.int .i64 0) (.int .i64 0) (.int .i64 0))
       generalize bK w1 (w.heap.size + 1 + 1) (.int .i64 0) (.int .i64 0) (.int .i64 0) (.int .i64 0) (.string ⟨#[]⟩) (.int .i64 0) (.int .i64 0) (.int .i64 0) = wf at HX cD ⊢; obtain ⟨e0, e1, e2, e3, e4, e5, e6, e7⟩ := aN HX.out; exact bodyPost_ret (v := .tuple #[.agg #[.int .i64 0, .int .i64 0, .int .i64 0, .int .i64 0, .string ⟨#[]⟩, .int .i64 0, .int .i64 0, .int .i64 0], .int .i64 2]) (by simp [results, Tryz.results89, go_sem, e0, e1, e2, e3, e4, e5, e6, e7]) rfl ⟨by rw [HQ.out], cD.out⟩
 ·have hmb : (u % 2 == 1) = false := beq_eq_false_iff_ne.2 hm
  by_cases k1 : kind = 1
  ·subst k1
   have HQ : Hid (oneOf u sv 1 item qty = ((⟨0, 0, 0, 1, item, qty, (u + 1), 0⟩ : aA), 0)) := by
    show _ = _
    unfold oneOf; rw [if_pos rfl, if_neg hm]
   obtain ⟨HX, cD⟩ := done w1 (⟨0, 0, 0, 1, item, qty, (u + 1), 0⟩ : aA) 0 HQ (Below.refl _ _); clear done
   dsimp only at HX cD
   go_wp2
   change bodyPost _ _ _ _ _ (bK w1 (w.heap.size + 1 + 1) (.int .i64 0) (.int .i64 0) (.int .i64 0) (.int .i64 1) (.string item) (.int .i64 qty) (.int .i64 (u + 1)) (.int .i64 0))
   generalize bK w1 (w.heap.size + 1 + 1) (.int .i64 0) (.int .i64 0) (.int .i64 0) (.int .i64 1) (.string item) (.int .i64 qty) (.int .i64 (u + 1)) (.int .i64 0) = wf at HX cD ⊢; obtain ⟨e0, e1, e2, e3, e4, e5, e6, e7⟩ := aN HX.out; exact bodyPost_ret (v := .tuple #[.agg #[.int .i64 0, .int .i64 0, .int .i64 0, .int .i64 1, .string item, .int .i64 qty, .int .i64 (u + 1), .int .i64 0], .int .i64 0]) (by simp [results, Tryz.results89, go_sem, e0, e1, e2, e3, e4, e5, e6, e7]) rfl ⟨by rw [HQ.out], cD.out⟩
  ·have k1b : (kind == 1) = false := beq_eq_false_iff_ne.2 k1
   have HQ : Hid (oneOf u sv kind item qty = ((⟨0, 0, 0, 0, ⟨#[]⟩, 0, 0, 0⟩ : aA), 2)) := by
    show _ = _
    unfold oneOf; rw [if_neg k1, if_neg hm]; rfl
   obtain ⟨HX, cD⟩ := done w1 (⟨0, 0, 0, 0, ⟨#[]⟩, 0, 0, 0⟩ : aA) 2 HQ (Below.refl _ _); clear done
   dsimp only at HX cD
   go_wp2
   change bodyPost _ _ _ _ _ (bK w1 (w.heap.size + 1 + 1) (.int .i64 0) (.int .i64 0) (.int .i64 0) (.int .i64 0) (.string ⟨#[]⟩) (.int .i64 0) (.int .i64 0) (.int .i64 0))
   generalize bK w1 (w.heap.size + 1 + 1) (.int .i64 0) (.int .i64 0) (.int .i64 0) (.int .i64 0) (.string ⟨#[]⟩) (.int .i64 0) (.int .i64 0) (.int .i64 0) = wf at HX cD ⊢; obtain ⟨e0, e1, e2, e3, e4, e5, e6, e7⟩ := aN HX.out; exact bodyPost_ret (v := .tuple #[.agg #[.int .i64 0, .int .i64 0, .int .i64 0, .int .i64 0, .string ⟨#[]⟩, .int .i64 0, .int .i64 0, .int .i64 0], .int .i64 2]) (by simp [results, Tryz.results89, go_sem, e0, e1, e2, e3, e4, e5, e6, e7]) rfl ⟨by rw [HQ.out], cD.out⟩
end Go.Proofs.YthkagbnpcjidfaaGreatDoor
