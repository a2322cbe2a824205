/- Walks and mathematics that several claims share, part 40. -/
import Derived.Test.YtjokbaaommicmaaGreatDoorGb38
import Derived.Test.YtjokbaaommicmaaGreatDoorGb34
import Derived.Test.YtjokbaaommicmaaGreatDoorGbA
namespace Go.Proofs.YtjokbaaommicmaaGreatDoor
set_option maxRecDepth 100000
open Go.RowKit

/-- What a command puts into a cart in which the item has this level and is saved or not. -/
def oneOf (lev : Int) (saved : Bool) (kind : Int) (item : ByteArray) (qty : Int) : OpV × Int :=
 if kind = 1 then (if lev % 2 = 1 then (OpV.zero, 3) else (⟨0, 0, 0, 1, item, qty, lev + 1, 0⟩, 0))
 else if lev % 2 = 1 then
  (if kind = 2 then (⟨0, 0, 0, 2, item, qty, 0, 0⟩, 0)
   else if kind = 3 then (⟨0, 0, 0, 3, item, 0, lev + 1, 0⟩, 0)
   else if kind = 4 then (if saved = true then (OpV.zero, 2) else (⟨0, 0, 0, 4, item, 0, 0, 0⟩, 0))
   else if kind = 5 then (if saved = true then (⟨0, 0, 0, 5, item, 0, 0, 0⟩, 0) else (OpV.zero, 2))
   else (OpV.zero, 2))
 else (OpV.zero, 2)
theorem oneOf_item (lev : Int) (saved : Bool) (kind : Int) (item : ByteArray) (qty : Int) : (oneOf lev saved kind item qty).1.item = item ∨ (oneOf lev saved kind item qty).1.item = ⟨#[]⟩ := by
 unfold oneOf
 repeat' split
 all_goals first | exact .inl rfl | exact .inr rfl
structure OneF (w w1 : World) (x y z : Array Value) : Prop where
 fst : w1.heap[w.heap.size]? = some (.cells x 32 (0, 0))
 snd : w1.heap[w.heap.size + 1]? = some (.cells y 36 (0, 0))
 res : w1.heap[w.heap.size + 1 + 1]? = some (.cells z 93 (0, 0))
 bel : Below w.heap.size w w1
theorem OneF.mk0 (w : World) (x y z : Array Value) : OneF w (((w.alloc (.cells x 32)).alloc (.cells y 36)).alloc (.cells z 93)) x y z := by
 have e1 : (w.alloc (.cells x 32)).heap.size = w.heap.size + 1 := by simp
 have e2 : ((w.alloc (.cells x 32)).alloc (.cells y 36)).heap.size = w.heap.size + 1 + 1 := by simp
 refine ⟨?_, ?_, ?_, (((Below.refl _ w).alloc (Nat.le_refl _) _).alloc (by simp) _).alloc (by simp; omega) _⟩
 ·exact ((Below.heap_alloc _ _ _ (by omega)).trans (Below.heap_alloc _ _ _ (by omega))).trans (heap_alloc_new _ _)
 ·rw [← e1]; exact (Below.heap_alloc _ _ _ (by omega)).trans (heap_alloc_new _ _)
 ·rw [← e2]; exact heap_alloc_new _ _
theorem OneF.next {w w1 w2 : World} {x y z : Array Value} (h : OneF w w1 x y z) (hb : Below w1.heap.size w1 w2) : OneF w w2 x y z :=
 ⟨(hb.block _ (Array.getElem?_eq_some_iff.1 h.fst).1).trans h.fst, (hb.block _ (Array.getElem?_eq_some_iff.1 h.snd).1).trans h.snd, (hb.block _ (Array.getElem?_eq_some_iff.1 h.res).1).trans h.res, h.bel.trans (hb.mono h.bel.size)⟩
theorem cmd_cells {w : World} {b : Nat} {v0 v1 v2 v3 v4 : Value} {T : TypeId} {fr : Nat × Nat} (h : w.heap[b]? = some (.cells #[v0, v1, v2, v3, v4] T fr)) : w.cell? ⟨b, 0, none⟩ = some v0 ∧ w.cell? ⟨b, 1, none⟩ = some v1 ∧ w.cell? ⟨b, 2, none⟩ = some v2 :=
 ⟨cell_of_row _ _ _ _ _ _ h, cell_of_row _ _ _ _ _ _ h, cell_of_row _ _ _ _ _ _ h⟩
def OneP (o : OpV) (code : Int) (w : World) (e : Ending) (w' : World) : Prop :=
 e = .returned (.tuple #[.agg #[.int .i64 o.dev, .int .i64 o.seq, .int .i64 o.stamp, .int .i64 o.kind, .string o.item, .int .i64 o.qty, .int .i64 o.level, .int .i64 o.undos], .int .i64 code]) ∧ Below w.heap.size w w'
set_option linter.unusedSimpArgs false in
set_option maxHeartbeats 40000000 in
theorem l6One (w : World) (B : Nat) (av ao : Option Addr) (nv cv no co : Nat) (xs : List Int) (l : List OpV) (kind qty dv sq : Int) (item : ByteArray) (h : Ops w B ao no l) (hB : B ≤ w.heap.size) (hn : no ≤ 1048576) (hc : cartB xs l = true) (hlv : levTo item l l.length ≤ 1000000) :
  Calls Tryz.prog 74 #[.agg #[.slice av nv cv, .slice ao no co], .agg #[.int .i64 kind, .string item, .int .i64 qty, .int .i64 dv, .int .i64 sq]] w
   (OneP (oneOf (levTo item l l.length) (decide ((bestTo plcB item l l.length).kind = 4)) kind item qty).1 (oneOf (levTo item l l.length) (decide ((bestTo plcB item l l.length).kind = 4)) kind item qty).2 w) := by
 have hT := OneF.mk0 w #[.slice av nv cv, .slice ao no co] #[.int .i64 kind, .string item, .int .i64 qty, .int .i64 dv, .int .i64 sq] #[.int .i64 0, .int .i64 0, .int .i64 0, .int .i64 0, .string ⟨#[]⟩, .int .i64 0, .int .i64 0, .int .i64 0]
 have HO := Lib.hid (h.below hT.bel hB)
 have HT := Lib.hid hT
 have HC := Lib.hid hc
 have hBs := hT.bel.size
 have hlp := levTo_pos item l l.length
 obtain ⟨u, hue⟩ : ∃ u, u = levTo item l l.length := ⟨_, rfl⟩
 obtain ⟨sv, hse⟩ : ∃ sv, sv = decide ((bestTo plcB item l l.length).kind = 4) := ⟨_, rfl⟩
 rw [← hue] at hlv hlp ⊢
 rw [← hse]
 have HUe := Lib.hid hue
 have HSe := Lib.hid hse
 clear h hT hc hue hse
 go_enter Tryz.func74, Tryz.ntmps74
 go_upto_region 1 with fail
 generalize ((w.alloc (.cells #[.slice av nv cv, .slice ao no co] 32)).alloc (.cells #[.int .i64 kind, .string item, .int .i64 qty, .int .i64 dv, .int .i64 sq] 36)).alloc (.cells #[.int .i64 0, .int .i64 0, .int .i64 0, .int .i64 0, .string ⟨#[]⟩, .int .i64 0, .int .i64 0, .int .i64 0] 93) = w0 at HO HT hBs ⊢
 obtain ⟨c0, c1⟩ := pair_cells HT.out.fst
 obtain ⟨d0, d1, d2⟩ := cmd_cells HT.out.snd
 go_wp2_with fail
 refine (l5Level w0 B av ao nv cv no co xs l item HO.out (by omega) hn HC.out).mono ?_
 rintro e w1 ⟨rfl, hb⟩
 have HT1 := Lib.hid (HT.out.next hb)
 have HO1 := Lib.hid (HO.out.below hb (by omega))
 have hs1 := hb.size
 clear hb c0 c1 d0 d1 d2 HT HO
 obtain ⟨c0, c1⟩ := pair_cells HT1.out.fst
 obtain ⟨d0, d1, d2⟩ := cmd_cells HT1.out.snd
 obtain ⟨r0, r1, r2, r3, r4, r5, r6, r7⟩ := op_cells HT1.out.res
 obtain ⟨f0, f1, f2, f3, f4, f5, f6, f7⟩ := op_frozen HT1.out.res
 have HSv := fun W (hw : Below w1.heap.size w1 W) => Lib.hid (l5Saved W B av ao nv cv no co xs l item (HO1.out.below hw (by omega)) (by have := hw.size; omega) hn HC.out)
 rw [← HSe.out] at HSv
 rw [← HUe.out]
 have hu1 : u + 1 ≤ 1000001 := by omega
 have done : ∀ (wr : World) (q : OpV) (code : Int), Hid (oneOf u sv kind item qty = (q, code)) → Below w1.heap.size w1 wr →
   Hid ((setOp wr (w.heap.size + 1 + 1) (.int .i64 q.dev) (.int .i64 q.seq) (.int .i64 q.stamp) (.int .i64 q.kind) (.string q.item) (.int .i64 q.qty) (.int .i64 q.level) (.int .i64 q.undos)).heap[w.heap.size + 1 + 1]? = some (.cells #[.int .i64 q.dev, .int .i64 q.seq, .int .i64 q.stamp, .int .i64 q.kind, .string q.item, .int .i64 q.qty, .int .i64 q.level, .int .i64 q.undos] 93 (0, 0))) ∧
   Hid (Below w.heap.size w (setOp wr (w.heap.size + 1 + 1) (.int .i64 q.dev) (.int .i64 q.seq) (.int .i64 q.stamp) (.int .i64 q.kind) (.string q.item) (.int .i64 q.qty) (.int .i64 q.level) (.int .i64 q.undos))) := by
  intro wr q code hq hb
  exact ⟨setOp_same _ _ _ _ _ _ _ _ (HT1.out.next hb).res, setOp_below _ _ _ _ _ _ _ _ (HT1.out.next hb).bel (by omega)⟩
 by_cases hm : u % 2 = 1
 ·have hmb : (u % 2 == 1) = true := by rw [hm]; rfl
  by_cases k1 : kind = 1
  ·subst k1
   have HQ : Hid (oneOf u sv 1 item qty = ((⟨0, 0, 0, 0, ⟨#[]⟩, 0, 0, 0⟩ : OpV), 3)) := by
    show _ = _
    unfold oneOf
    rw [if_pos rfl, if_pos hm]; rfl
   obtain ⟨HX, HBx⟩ := done w1 (⟨0, 0, 0, 0, ⟨#[]⟩, 0, 0, 0⟩ : OpV) 3 HQ (Below.refl _ _)
   clear done
   dsimp only at HX HBx
   go_wp2
   change bodyPost _ _ _ _ _ (setOp w1 (w.heap.size + 1 + 1) (.int .i64 0) (.int .i64 0) (.int .i64 0) (.int .i64 0) (.string ⟨#[]⟩) (.int .i64 0) (.int .i64 0) (.int .i64 0))
   generalize setOp w1 (w.heap.size + 1 + 1) (.int .i64 0) (.int .i64 0) (.int .i64 0) (.int .i64 0) (.string ⟨#[]⟩) (.int .i64 0) (.int .i64 0) (.int .i64 0) = wf at HX HBx ⊢
   obtain ⟨e0, e1, e2, e3, e4, e5, e6, e7⟩ := op_cells HX.out
   exact bodyPost_ret (v := .tuple #[.agg #[.int .i64 0, .int .i64 0, .int .i64 0, .int .i64 0, .string ⟨#[]⟩, .int .i64 0, .int .i64 0, .int .i64 0], .int .i64 3]) (by simp [results, Tryz.results74, go_sem, e0, e1, e2, e3, e4, e5, e6, e7]) rfl ⟨by rw [HQ.out], HBx.out⟩
  ·have k1b : (kind == 1) = false := beq_eq_false_iff_ne.2 k1
   by_cases k2 : kind = 2
   ·subst k2
    have HQ : Hid (oneOf u sv 2 item qty = ((⟨0, 0, 0, 2, item, qty, 0, 0⟩ : OpV), 0)) := by
     show _ = _
     unfold oneOf
     rw [if_neg k1, if_pos hm, if_pos rfl]
    obtain ⟨HX, HBx⟩ := done w1 (⟨0, 0, 0, 2, item, qty, 0, 0⟩ : OpV) 0 HQ (Below.refl _ _)
    clear done
    dsimp only at HX HBx
    go_wp2
    change bodyPost _ _ _ _ _ (setOp w1 (w.heap.size + 1 + 1) (.int .i64 0) (.int .i64 0) (.int .i64 0) (.int .i64 2) (.string item) (.int .i64 qty) (.int .i64 0) (.int .i64 0))
    generalize setOp w1 (w.heap.size + 1 + 1) (.int .i64 0) (.int .i64 0) (.int .i64 0) (.int .i64 2) (.string item) (.int .i64 qty) (.int .i64 0) (.int .i64 0) = wf at HX HBx ⊢
    obtain ⟨e0, e1, e2, e3, e4, e5, e6, e7⟩ := op_cells HX.out
    exact bodyPost_ret (v := .tuple #[.agg #[.int .i64 0, .int .i64 0, .int .i64 0, .int .i64 2, .string item, .int .i64 qty, .int .i64 0, .int .i64 0], .int .i64 0]) (by simp [results, Tryz.results74, go_sem, e0, e1, e2, e3, e4, e5, e6, e7]) rfl ⟨by rw [HQ.out], HBx.out⟩
   ·have k2b : (kind == 2) = false := beq_eq_false_iff_ne.2 k2
    by_cases k3 : kind = 3
    ·subst k3
     have HQ : Hid (oneOf u sv 3 item qty = ((⟨0, 0, 0, 3, item, 0, (u + 1), 0⟩ : OpV), 0)) := by
      show _ = _
      unfold oneOf
      rw [if_neg k1, if_pos hm, if_neg k2, if_pos rfl]
     obtain ⟨HX, HBx⟩ := done w1 (⟨0, 0, 0, 3, item, 0, (u + 1), 0⟩ : OpV) 0 HQ (Below.refl _ _)
     clear done
     dsimp only at HX HBx
     go_wp2
     change bodyPost _ _ _ _ _ (setOp w1 (w.heap.size + 1 + 1) (.int .i64 0) (.int .i64 0) (.int .i64 0) (.int .i64 3) (.string item) (.int .i64 0) (.int .i64 (u + 1)) (.int .i64 0))
     generalize setOp w1 (w.heap.size + 1 + 1) (.int .i64 0) (.int .i64 0) (.int .i64 0) (.int .i64 3) (.string item) (.int .i64 0) (.int .i64 (u + 1)) (.int .i64 0) = wf at HX HBx ⊢
     obtain ⟨e0, e1, e2, e3, e4, e5, e6, e7⟩ := op_cells HX.out
     exact bodyPost_ret (v := .tuple #[.agg #[.int .i64 0, .int .i64 0, .int .i64 0, .int .i64 3, .string item, .int .i64 0, .int .i64 (u + 1), .int .i64 0], .int .i64 0]) (by simp [results, Tryz.results74, go_sem, e0, e1, e2, e3, e4, e5, e6, e7]) rfl ⟨by rw [HQ.out], HBx.out⟩
    ·have k3b : (kind == 3) = false := beq_eq_false_iff_ne.2 k3
     by_cases k4 : kind = 4
     ·subst k4
      go_wp2_with fail
      refine (HSv w1 (Below.refl _ _)).out.mono ?_
      rintro e w2 ⟨rfl, hb2⟩
      have HB2 := Lib.hid hb2
      have HT2 := Lib.hid (HT1.out.next hb2)
      clear hb2 c0 c1 d0 d1 d2 r0 r1 r2 r3 r4 r5 r6 r7 f0 f1 f2 f3 f4 f5 f6 f7 HSv
      obtain ⟨d0, d1, d2⟩ := cmd_cells HT2.out.snd
      obtain ⟨r0, r1, r2, r3, r4, r5, r6, r7⟩ := op_cells HT2.out.res
      obtain ⟨f0, f1, f2, f3, f4, f5, f6, f7⟩ := op_frozen HT2.out.res
      cases sv
      ·
       have HQ : Hid (oneOf u false 4 item qty = ((⟨0, 0, 0, 4, item, 0, 0, 0⟩ : OpV), 0)) := by
        show _ = _
        unfold oneOf
        rw [if_neg k1, if_pos hm, if_neg k2, if_neg k3, if_pos rfl]; rfl
       obtain ⟨HX, HBx⟩ := done w2 (⟨0, 0, 0, 4, item, 0, 0, 0⟩ : OpV) 0 HQ HB2.out
       clear done
       dsimp only at HX HBx
       go_wp2
       change bodyPost _ _ _ _ _ (setOp w2 (w.heap.size + 1 + 1) (.int .i64 0) (.int .i64 0) (.int .i64 0) (.int .i64 4) (.string item) (.int .i64 0) (.int .i64 0) (.int .i64 0))
       generalize setOp w2 (w.heap.size + 1 + 1) (.int .i64 0) (.int .i64 0) (.int .i64 0) (.int .i64 4) (.string item) (.int .i64 0) (.int .i64 0) (.int .i64 0) = wf at HX HBx ⊢
       obtain ⟨e0, e1, e2, e3, e4, e5, e6, e7⟩ := op_cells HX.out
       exact bodyPost_ret (v := .tuple #[.agg #[.int .i64 0, .int .i64 0, .int .i64 0, .int .i64 4, .string item, .int .i64 0, .int .i64 0, .int .i64 0], .int .i64 0]) (by simp [results, Tryz.results74, go_sem, e0, e1, e2, e3, e4, e5, e6, e7]) rfl ⟨by rw [HQ.out], HBx.out⟩
      ·
       have HQ : Hid (oneOf u true 4 item qty = ((⟨0, 0, 0, 0, ⟨#[]⟩, 0, 0, 0⟩ : OpV), 2)) := by
        show _ = _
        unfold oneOf
        rw [if_neg k1, if_pos hm, if_neg k2, if_neg k3, if_pos rfl]; rfl
       obtain ⟨HX, HBx⟩ := done w2 (⟨0, 0, 0, 0, ⟨#[]⟩, 0, 0, 0⟩ : OpV) 2 HQ HB2.out
       clear done
       dsimp only at HX HBx
       go_wp2
       change bodyPost _ _ _ _ _ (setOp w2 (w.heap.size + 1 + 1) (.int .i64 0) (.int .i64 0) (.int .i64 0) (.int .i64 0) (.string ⟨#[]⟩) (.int .i64 0) (.int .i64 0) (.int .i64 0))
       generalize setOp w2 (w.heap.size + 1 + 1) (.int .i64 0) (.int .i64 0) (.int .i64 0) (.int .i64 0) (.string ⟨#[]⟩) (.int .i64 0) (.int .i64 0) (.int .i64 0) = wf at HX HBx ⊢
       obtain ⟨e0, e1, e2, e3, e4, e5, e6, e7⟩ := op_cells HX.out
       exact bodyPost_ret (v := .tuple #[.agg #[.int .i64 0, .int .i64 0, .int .i64 0, .int .i64 0, .string ⟨#[]⟩, .int .i64 0, .int .i64 0, .int .i64 0], .int .i64 2]) (by simp [results, Tryz.results74, go_sem, e0, e1, e2, e3, e4, e5, e6, e7]) rfl ⟨by rw [HQ.out], HBx.out⟩
     ·have k4b : (kind == 4) = false := beq_eq_false_iff_ne.2 k4
      by_cases k5 : kind = 5
      ·subst k5
       go_wp2_with fail
       refine (HSv w1 (Below.refl _ _)).out.mono ?_
       rintro e w2 ⟨rfl, hb2⟩
       have HB2 := Lib.hid hb2
       have HT2 := Lib.hid (HT1.out.next hb2)
       clear hb2 c0 c1 d0 d1 d2 r0 r1 r2 r3 r4 r5 r6 r7 f0 f1 f2 f3 f4 f5 f6 f7 HSv
       obtain ⟨d0, d1, d2⟩ := cmd_cells HT2.out.snd
       obtain ⟨r0, r1, r2, r3, r4, r5, r6, r7⟩ := op_cells HT2.out.res
       obtain ⟨f0, f1, f2, f3, f4, f5, f6, f7⟩ := op_frozen HT2.out.res
       cases sv
       ·
        have HQ : Hid (oneOf u false 5 item qty = ((⟨0, 0, 0, 0, ⟨#[]⟩, 0, 0, 0⟩ : OpV), 2)) := by
         show _ = _
         unfold oneOf
         rw [if_neg k1, if_pos hm, if_neg k2, if_neg k3, if_neg k4, if_pos rfl]; rfl
        obtain ⟨HX, HBx⟩ := done w2 (⟨0, 0, 0, 0, ⟨#[]⟩, 0, 0, 0⟩ : OpV) 2 HQ HB2.out
        clear done
        dsimp only at HX HBx
        go_wp2
        change bodyPost _ _ _ _ _ (setOp w2 (w.heap.size + 1 + 1) (.int .i64 0) (.int .i64 0) (.int .i64 0) (.int .i64 0) (.string ⟨#[]⟩) (.int .i64 0) (.int .i64 0) (.int .i64 0))
        generalize setOp w2 (w.heap.size + 1 + 1) (.int .i64 0) (.int .i64 0) (.int .i64 0) (.int .i64 0) (.string ⟨#[]⟩) (.int .i64 0) (.int .i64 0) (.int .i64 0) = wf at HX HBx ⊢
        obtain ⟨e0, e1, e2, e3, e4, e5, e6, e7⟩ := op_cells HX.out
        exact bodyPost_ret (v := .tuple #[.agg #[.int .i64 0, .int .i64 0, .int .i64 0, .int .i64 0, .string ⟨#[]⟩, .int .i64 0, .int .i64 0, .int .i64 0], .int .i64 2]) (by simp [results, Tryz.results74, go_sem, e0, e1, e2, e3, e4, e5, e6, e7]) rfl ⟨by rw [HQ.out], HBx.out⟩
       ·
        have HQ : Hid (oneOf u true 5 item qty = ((⟨0, 0, 0, 5, item, 0, 0, 0⟩ : OpV), 0)) := by
         show _ = _
         unfold oneOf
         rw [if_neg k1, if_pos hm, if_neg k2, if_neg k3, if_neg k4, if_pos rfl]; rfl
        obtain ⟨HX, HBx⟩ := done w2 (⟨0, 0, 0, 5, item, 0, 0, 0⟩ : OpV) 0 HQ HB2.out
        clear done
        dsimp only at HX HBx
        go_wp2
        change bodyPost _ _ _ _ _ (setOp w2 (w.heap.size + 1 + 1) (.int .i64 0) (.int .i64 0) (.int .i64 0) (.int .i64 5) (.string item) (.int .i64 0) (.int .i64 0) (.int .i64 0))
        generalize setOp w2 (w.heap.size + 1 + 1) (.int .i64 0) (.int .i64 0) (.int .i64 0) (.int .i64 5) (.string item) (.int .i64 0) (.int .i64 0) (.int .i64 0) = wf at HX HBx ⊢
        obtain ⟨e0, e1, e2, e3, e4, e5, e6, e7⟩ := op_cells HX.out
        exact bodyPost_ret (v := .tuple #[.agg #[.int .i64 0, .int .i64 0, .int .i64 0, .int .i64 5, .string item, .int .i64 0, .int .i64 0, .int .i64 0], .int .i64 0]) (by simp [results, Tryz.results74, go_sem, e0, e1, e2, e3, e4, e5, e6, e7]) rfl ⟨by rw [HQ.out], HBx.out⟩
      ·have k5b : (kind == 5) = false := beq_eq_false_iff_ne.2 k5
       have HQ : Hid (oneOf u sv kind item qty = ((⟨0, 0, 0, 0, ⟨#[]⟩, 0, 0, 0⟩ : OpV), 2)) := by
        show _ = _
        unfold oneOf
        rw [if_neg k1, if_pos hm, if_neg k2, if_neg k3, if_neg k4, if_neg k5]; rfl
       obtain ⟨HX, HBx⟩ := done w1 (⟨0, 0, 0, 0, ⟨#[]⟩, 0, 0, 0⟩ : OpV) 2 HQ (Below.refl _ _)
       clear done
       dsimp only at HX HBx
       go_wp2
       change bodyPost _ _ _ _ _ (setOp w1 (w.heap.size + 1 + 1) (.int .i64 0) (.int .i64 0) (.int .i64 0) (.int .i64 0) (.string ⟨#[]⟩) (.int .i64 0) (.int .i64 0) (.int .i64 0))
       generalize setOp w1 (w.heap.size + 1 + 1) (.int .i64 0) (.int .i64 0) (.int .i64 0) (.int .i64 0) (.string ⟨#[]⟩) (.int .i64 0) (.int .i64 0) (.int .i64 0) = wf at HX HBx ⊢
       obtain ⟨e0, e1, e2, e3, e4, e5, e6, e7⟩ := op_cells HX.out
       exact bodyPost_ret (v := .tuple #[.agg #[.int .i64 0, .int .i64 0, .int .i64 0, .int .i64 0, .string ⟨#[]⟩, .int .i64 0, .int .i64 0, .int .i64 0], .int .i64 2]) (by simp [results, Tryz.results74, go_sem, e0, e1, e2, e3, e4, e5, e6, e7]) rfl ⟨by rw [HQ.out], HBx.out⟩
 ·have hmb : (u % 2 == 1) = false := beq_eq_false_iff_ne.2 hm
  by_cases k1 : kind = 1
  ·subst k1
   have HQ : Hid (oneOf u sv 1 item qty = ((⟨0, 0, 0, 1, item, qty, (u + 1), 0⟩ : OpV), 0)) := by
    show _ = _
    unfold oneOf
    rw [if_pos rfl, if_neg hm]
   obtain ⟨HX, HBx⟩ := done w1 (⟨0, 0, 0, 1, item, qty, (u + 1), 0⟩ : OpV) 0 HQ (Below.refl _ _)
   clear done
   dsimp only at HX HBx
   go_wp2
   change bodyPost _ _ _ _ _ (setOp w1 (w.heap.size + 1 + 1) (.int .i64 0) (.int .i64 0) (.int .i64 0) (.int .i64 1) (.string item) (.int .i64 qty) (.int .i64 (u + 1)) (.int .i64 0))
   generalize setOp w1 (w.heap.size + 1 + 1) (.int .i64 0) (.int .i64 0) (.int .i64 0) (.int .i64 1) (.string item) (.int .i64 qty) (.int .i64 (u + 1)) (.int .i64 0) = wf at HX HBx ⊢
   obtain ⟨e0, e1, e2, e3, e4, e5, e6, e7⟩ := op_cells HX.out
   exact bodyPost_ret (v := .tuple #[.agg #[.int .i64 0, .int .i64 0, .int .i64 0, .int .i64 1, .string item, .int .i64 qty, .int .i64 (u + 1), .int .i64 0], .int .i64 0]) (by simp [results, Tryz.results74, go_sem, e0, e1, e2, e3, e4, e5, e6, e7]) rfl ⟨by rw [HQ.out], HBx.out⟩
  ·have k1b : (kind == 1) = false := beq_eq_false_iff_ne.2 k1
   have HQ : Hid (oneOf u sv kind item qty = ((⟨0, 0, 0, 0, ⟨#[]⟩, 0, 0, 0⟩ : OpV), 2)) := by
    show _ = _
    unfold oneOf
    rw [if_neg k1, if_neg hm]; rfl
   obtain ⟨HX, HBx⟩ := done w1 (⟨0, 0, 0, 0, ⟨#[]⟩, 0, 0, 0⟩ : OpV) 2 HQ (Below.refl _ _)
   clear done
   dsimp only at HX HBx
   go_wp2
   change bodyPost _ _ _ _ _ (setOp w1 (w.heap.size + 1 + 1) (.int .i64 0) (.int .i64 0) (.int .i64 0) (.int .i64 0) (.string ⟨#[]⟩) (.int .i64 0) (.int .i64 0) (.int .i64 0))
   generalize setOp w1 (w.heap.size + 1 + 1) (.int .i64 0) (.int .i64 0) (.int .i64 0) (.int .i64 0) (.string ⟨#[]⟩) (.int .i64 0) (.int .i64 0) (.int .i64 0) = wf at HX HBx ⊢
   obtain ⟨e0, e1, e2, e3, e4, e5, e6, e7⟩ := op_cells HX.out
   exact bodyPost_ret (v := .tuple #[.agg #[.int .i64 0, .int .i64 0, .int .i64 0, .int .i64 0, .string ⟨#[]⟩, .int .i64 0, .int .i64 0, .int .i64 0], .int .i64 2]) (by simp [results, Tryz.results74, go_sem, e0, e1, e2, e3, e4, e5, e6, e7]) rfl ⟨by rw [HQ.out], HBx.out⟩
end Go.Proofs.YtjokbaaommicmaaGreatDoor
