/- Walks and mathematics that several claims share, part 43. -/
import Derived.Test.YthkagbnpcjidfaaGreatDoorGp6
import Derived.Deep.CutRange
import Derived.Deep.CutBlock
namespace Go.Proofs.YthkagbnpcjidfaaGreatDoor
set_option maxRecDepth 100000
open Go.RowKit
set_option linter.unusedVariables false
set_option linter.unusedSimpArgs false
def aHe (w : World) (B g : Nat) (a : Option Addr) (len cap : Nat) (e : Ending) (w' : World) : Prop :=
 ∃ (kind : Int) (item : ByteArray) (qty dv sq : Int), item.size ≤ 8 ∧ e = .returned (.agg #[.int .i64 kind, .string item, .int .i64 qty, .int .i64 dv, .int .i64 sq]) ∧ w.grownBy w' (some g) ∧ Rd w' B g a len cap
structure X2 (w w1 : World) (B g : Nat) (a : Option Addr) (len cap bo : Nat) (cs : Array Value) : Prop where
 res : w1.heap[w.heap.size]? = some (.cells #[.int .i64 0, .string ⟨#[]⟩, .int .i64 0, .int .i64 0, .int .i64 0] 29 (0, 0))
 opr : w1.heap[bo]? = some (.cells cs 29 (0, 0))
 own : w.heap.size < bo
 gr : w.grownBy w1 (some g)
 rd : Rd w1 B g a len cap
theorem X2.next {w w1 w2 : World} {B g : Nat} {a : Option Addr} {len cap bo : Nat} {cs : Array Value} (h : X2 w w1 B g a len cap bo cs) (aK : g < w.heap.size) (hg : w1.grownBy w2 (some g)) (hr : Rd w2 B g a len cap) : X2 w w2 B g a len cap bo cs :=
 ⟨(hg.block _ (aPv h.res).1 (by simp; omega)).trans h.res, (hg.block _ (aPv h.opr).1 (by have := h.own; simp; omega)).trans h.opr, h.own, h.gr.trans hg, hr⟩
theorem X2.put {w w1 : World} {B g : Nat} {a : Option Addr} {len cap bo : Nat} {cs : Array Value} (h : X2 w w1 B g a len cap bo cs) (hB : B ≤ w.heap.size) (aK : g < w.heap.size) (i : Nat) (v : Value) : X2 w (w1.setCell ⟨bo, i, none⟩ v) B g a len cap bo (cs.setIfInBounds i v) :=
 have aY := h.own
 ⟨(heap_setCell_other _ _ _ _ (by show w.heap.size ≠ bo; omega)).trans h.res, heap_setCell_same _ _ _ _ _ _ h.opr, h.own,
  ⟨h.gr.os, h.gr.tape, h.gr.output, Nat.le_trans h.gr.size (by simp [World.setCell]), fun k hk bJ => (heap_setCell_other _ _ _ _ (by show k ≠ bo; omega)).trans (h.gr.block k hk bJ)⟩,
  h.rd.kept fun k hk => heap_setCell_other _ _ _ _ (by show k ≠ bo; omega)⟩
theorem C9 {w : World} {b : Nat} {v0 v1 v2 v3 v4 : Value} {T : TypeId} (h : w.heap[b]? = some (.cells #[v0, v1, v2, v3, v4] T (0, 0))) : (w.cell? ⟨b, 0, none⟩ = some v0 ∧ w.cell? ⟨b, 1, none⟩ = some v1 ∧ w.cell? ⟨b, 2, none⟩ = some v2 ∧ w.cell? ⟨b, 3, none⟩ = some v3 ∧ w.cell? ⟨b, 4, none⟩ = some v4) ∧ (w.frozen? ⟨b, 0, none⟩ = false ∧ w.frozen? ⟨b, 1, none⟩ = false ∧ w.frozen? ⟨b, 2, none⟩ = false ∧ w.frozen? ⟨b, 3, none⟩ = false ∧ w.frozen? ⟨b, 4, none⟩ = false) :=
 ⟨⟨aPx h, aPx h, aPx h, aPx h, aPx h⟩, aPy h, aPy h, aPy h, aPy h, aPy h⟩
def zM (w w1 : World) (B g : Nat) (a : Option Addr) (len cap bo : Nat) : Prop := ∃ (kind : Int) (item : ByteArray) (qty dv sq : Int), item.size ≤ 8 ∧ X2 w w1 B g a len cap bo #[.int .i64 kind, .string item, .int .i64 qty, .int .i64 dv, .int .i64 sq]
set_option maxHeartbeats 20000000 in
theorem aEK (w : World) (B g : Nat) (a : Option Addr) (len cap : Nat) (h : Rd w B g a len cap) (hB : B ≤ w.heap.size) :
  Calls Tryz.prog 41 #[.pointer (some ⟨g, 0, none⟩)] w (aHe w B g a len cap) := by
 have aK := h.lt
 have HZ0 := aPu (bE (Below.refl _ (w.alloc (.cells #[.int .i64 0, .string ⟨#[]⟩, .int .i64 0, .int .i64 0, .int .i64 0] 29))))
 have HG0 := aPu (World.grownBy_alloc w (.cells #[.int .i64 0, .string ⟨#[]⟩, .int .i64 0, .int .i64 0, .int .i64 0] 29) (some g))
 have pA := aPu (h.grown (World.grownBy_alloc w (.cells #[.int .i64 0, .string ⟨#[]⟩, .int .i64 0, .int .i64 0, .int .i64 0] 29) none) (fun k hk => by cases hk))
 clear h
 go_enter Tryz.func41, Tryz.ntmps41
 go_wp2_with fail
 generalize w.alloc (.cells #[.int .i64 0, .string ⟨#[]⟩, .int .i64 0, .int .i64 0, .int .i64 0] 29) = w0 at HZ0 HG0 pA ⊢
 refine (kY w0 B g a len cap pA.out 5 (by omega) (by omega)).mono ?_
 rintro e w1 ⟨v0, hv, rfl, hg, hr⟩
 have hv0 : v0 < 5 := hv
 clear hv
 have HZ1 := aPu (Res.next HZ0.out hg aK)
 have sM := aPu (HG0.out.trans hg)
 have gK := aPu hr
 clear hg hr HZ0 HG0 pA
 go_wp2_with fail
 refine (aKS w1 B g a len cap gK.out).mono ?_
 rintro e w2 ⟨t, ht, rfl, hg, hr⟩
 have U3 := aPu (Res.next HZ1.out hg aK)
 have W6 := aPu (sM.out.trans hg)
 have kP := aPu hr
 clear hg hr HZ1 sM gK
 go_upto_region 2 with fail
 have HD : Hid (X2 w (w2.alloc (.cells #[.int .i64 (1 + (v0 : Int)), .string t, .int .i64 0, .int .i64 0, .int .i64 0] 29)) B g a len cap w2.heap.size #[.int .i64 (1 + (v0 : Int)), .string t, .int .i64 0, .int .i64 0, .int .i64 0]) :=
  ⟨(Below.heap_alloc _ _ _ (aPv U3.out).1).trans U3.out, heap_alloc_new _ _, (aPv U3.out).1, W6.out.trans (World.grownBy_alloc _ _ _), kP.out.grown (World.grownBy_alloc w2 _ none) (fun k hk => by cases hk)⟩
 generalize w2.alloc (.cells #[.int .i64 (1 + (v0 : Int)), .string t, .int .i64 0, .int .i64 0, .int .i64 0] 29) = w3 at HD ⊢
 generalize w2.heap.size = bo at HD ⊢
 clear U3 W6 kP
 go_wp2_with fail
 refine (kY w3 B g a len cap HD.out.rd 10 (by omega) (by omega)).mono ?_
 rintro e w4 ⟨v1, hv, rfl, hg, hr⟩
 have hv1 : v1 < 10 := hv
 have rD := aPu (HD.out.next aK hg hr)
 clear hv hg hr HD
 go_upto_block 0 with fail
 go_cut [] from 12 to 33 (fun wx => Hid (zM w wx B g a len cap bo))
 case first =>
  obtain ⟨⟨c0, c1, c2, c3, c4⟩, f0, f1, f2, f3, f4⟩ := C9 rD.out.opr; have xG : v1 = 0 ∨ v1 = 1 ∨ v1 = 2 ∨ v1 = 3 ∨ v1 = 4 ∨ v1 = 5 ∨ 6 ≤ v1 := by omega
  rcases xG with rfl | rfl | rfl | rfl | rfl | h5 | h6
  ·have HS : Hid (zM w (w4.setCell ⟨bo, 0, none⟩ (.int .i64 1)) B g a len cap bo) := ⟨1, t, 0, 0, 0, ht, rD.out.put hB aK 0 (.int .i64 1)⟩
   go_wp2
   go_meet
   exact HS
  ·have HS : Hid (zM w (w4.setCell ⟨bo, 0, none⟩ (.int .i64 1)) B g a len cap bo) := ⟨1, t, 0, 0, 0, ht, rD.out.put hB aK 0 (.int .i64 1)⟩
   go_wp2
   go_meet
   exact HS
  ·have HS : Hid (zM w (w4.setCell ⟨bo, 0, none⟩ (.int .i64 1)) B g a len cap bo) := ⟨1, t, 0, 0, 0, ht, rD.out.put hB aK 0 (.int .i64 1)⟩
   go_wp2
   go_meet
   exact HS
  ·go_wp2_with fail
   refine (kY w4 B g a len cap rD.out.rd 3 (by omega) (by omega)).mono ?_
   rintro e w5 ⟨v2, wM, rfl, hg, hr⟩; have rC := aPu (rD.out.next aK hg hr); clear hg hr c0 c1 c2 c3 c4 f0 f1 f2 f3 f4; obtain ⟨⟨c0, c1, c2, c3, c4⟩, f0, f1, f2, f3, f4⟩ := C9 rC.out.opr; have aLg : v2 < 3 := wM; have HS : Hid (zM w (((((w5.setCell ⟨bo, 0, none⟩ (.int .i64 (6 + (v2 : Int)))).setCell ⟨bo, 1, none⟩ (.string ⟨#[]⟩)).setCell ⟨bo, 2, none⟩ (.int .i64 0)).setCell ⟨bo, 3, none⟩ (.int .i64 0)).setCell ⟨bo, 4, none⟩ (.int .i64 0)) B g a len cap bo) := ⟨6 + (v2 : Int), ⟨#[]⟩, 0, 0, 0, (by decide), ((((rC.out.put hB aK 0 _).put hB aK 1 _).put hB aK 2 _).put hB aK 3 _).put hB aK 4 _⟩
   go_wp2
   go_meet
   exact HS
  ·have HS : Hid (zM w (((((w4.setCell ⟨bo, 0, none⟩ (.int .i64 7)).setCell ⟨bo, 1, none⟩ (.string ⟨#[]⟩)).setCell ⟨bo, 2, none⟩ (.int .i64 0)).setCell ⟨bo, 3, none⟩ (.int .i64 0)).setCell ⟨bo, 4, none⟩ (.int .i64 0)) B g a len cap bo) := ⟨7, ⟨#[]⟩, 0, 0, 0, (by decide), ((((rD.out.put hB aK 0 _).put hB aK 1 _).put hB aK 2 _).put hB aK 3 _).put hB aK 4 _⟩
   go_wp2
   go_meet
   exact HS
  ·have g0 : ((v1 : Int) == 0) = false := by rw [beq_eq_false_iff_ne]; omega
   have g1 : ((v1 : Int) == 1) = false := by rw [beq_eq_false_iff_ne]; omega
   have g2 : ((v1 : Int) == 2) = false := by rw [beq_eq_false_iff_ne]; omega
   have g3 : ((v1 : Int) == 3) = false := by rw [beq_eq_false_iff_ne]; omega
   have g4 : ((v1 : Int) == 4) = false := by rw [beq_eq_false_iff_ne]; omega
   have g5 : ((v1 : Int) == 5) = true := by rw [beq_iff_eq]; omega
   clear h5
   go_wp2_with fail
   refine (kY w4 B g a len cap rD.out.rd 3 (by omega) (by omega)).mono ?_
   rintro e w5 ⟨v2, wM, rfl, hg, hr⟩; have rC := aPu (rD.out.next aK hg hr); have aLg : v2 < 3 := wM; clear hg hr c0 c1 c2 c3 c4 f0 f1 f2 f3 f4
   go_wp2_with fail
   refine (kY w5 B g a len cap rC.out.rd 5 (by omega) (by omega)).mono ?_
   rintro e w6 ⟨v3, hv3, rfl, hg, hr⟩; have HD6 := aPu (rC.out.next aK hg hr); have aOL : v3 < 5 := hv3; clear hg hr; obtain ⟨⟨c0, c1, c2, c3, c4⟩, f0, f1, f2, f3, f4⟩ := C9 HD6.out.opr; have HS : Hid (zM w (((((w6.setCell ⟨bo, 0, none⟩ (.int .i64 9)).setCell ⟨bo, 1, none⟩ (.string ⟨#[]⟩)).setCell ⟨bo, 2, none⟩ (.int .i64 0)).setCell ⟨bo, 3, none⟩ (.int .i64 (v2 : Int))).setCell ⟨bo, 4, none⟩ (.int .i64 (1 + (v3 : Int)))) B g a len cap bo) := ⟨9, ⟨#[]⟩, 0, (v2 : Int), 1 + (v3 : Int), (by decide), ((((HD6.out.put hB aK 0 _).put hB aK 1 _).put hB aK 2 _).put hB aK 3 _).put hB aK 4 _⟩
   go_wp2
   go_meet
   exact HS
  ·have g0 : ((v1 : Int) == 0) = false := by rw [beq_eq_false_iff_ne]; omega
   have g1 : ((v1 : Int) == 1) = false := by rw [beq_eq_false_iff_ne]; omega
   have g2 : ((v1 : Int) == 2) = false := by rw [beq_eq_false_iff_ne]; omega
   have g3 : ((v1 : Int) == 3) = false := by rw [beq_eq_false_iff_ne]; omega
   have g4 : ((v1 : Int) == 4) = false := by rw [beq_eq_false_iff_ne]; omega
   have g5 : ((v1 : Int) == 5) = false := by rw [beq_eq_false_iff_ne]; omega
   go_wp2
   go_meet
   exact ⟨_, t, _, _, _, ht, rD.out⟩
 case rest =>
  clear rD; obtain ⟨kind, item, qty, dv, sq, tI, hd⟩ := hcut.out; have HD := aPu hd; clear hcut hd; obtain ⟨⟨c0, c1, c2, c3, c4⟩, f0, f1, f2, f3, f4⟩ := C9 HD.out.opr
  go_upto_if 36 with fail
  go_cut [] from 34 to 40 (fun wx => Hid (zM w wx B g a len cap bo))
  case first =>
   by_cases hk : kind ≤ 2
   ·have F1 : decide (kind ≤ 2) = true := decide_eq_true hk
    go_wp2_with fail
    refine (kY wc B g a len cap HD.out.rd 9 (by omega) (by omega)).mono ?_
    rintro e w5 ⟨v2, wM, rfl, hg, hr⟩; have rC := aPu (HD.out.next aK hg hr); clear hg hr c0 c1 c2 c3 c4 f0 f1 f2 f3 f4; obtain ⟨⟨c0, c1, c2, c3, c4⟩, f0, f1, f2, f3, f4⟩ := C9 rC.out.opr; have aLg : v2 < 9 := wM; have HS : Hid (zM w (w5.setCell ⟨bo, 2, none⟩ (.int .i64 (1 + (v2 : Int)))) B g a len cap bo) := ⟨kind, item, 1 + (v2 : Int), dv, sq, tI, rC.out.put hB aK 2 _⟩; go_wp2
    go_meet
    exact HS
   ·have F1 : decide (kind ≤ 2) = false := decide_eq_false hk
    go_wp2
    go_meet
    exact ⟨_, _, _, _, _, tI, HD.out⟩
  case rest =>
   clear c0 c1 c2 c3 c4 f0 f1 f2 f3 f4 HD; obtain ⟨kind, item, qty, dv, sq, tI, hd⟩ := hcut.out; have HD := aPu hd; clear hcut hd
   go_wp2_with fail
   refine (aAQ wc B g a len cap HD.out.rd 40 (by omega) (by omega)).mono ?_
   rintro e w5 ⟨v, rfl, hg, hr⟩; have rC := aPu (HD.out.next aK hg hr); clear hg hr HD; obtain ⟨⟨c0, c1, c2, c3, c4⟩, f0, f1, f2, f3, f4⟩ := C9 rC.out.opr
   go_upto_if 42 with fail
   go_cut [] from 43 to 45 (fun wx => Hid (zM w wx B g a len cap bo))
   case first =>
    cases v
    ·go_wp2
     go_meet
     exact ⟨_, _, _, _, _, tI, rC.out⟩
    ·go_wp2_with fail
     refine (zV w5 B g a len cap rC.out.rd 1 999 (by omega) (by omega) (by omega)).mono ?_
     rintro e w6 ⟨x, rfl, hg, hr⟩; have HD6 := aPu (rC.out.next aK hg hr); clear hg hr c0 c1 c2 c3 c4 f0 f1 f2 f3 f4; obtain ⟨⟨c0, c1, c2, c3, c4⟩, f0, f1, f2, f3, f4⟩ := C9 HD6.out.opr; have HS : Hid (zM w (w6.setCell ⟨bo, 2, none⟩ (.int .i64 x)) B g a len cap bo) := ⟨kind, item, x, dv, sq, tI, HD6.out.put hB aK 2 _⟩; go_wp2
     go_meet
     exact HS
   case rest =>
    clear c0 c1 c2 c3 c4 f0 f1 f2 f3 f4 rC; obtain ⟨kind, item, qty, dv, sq, tI, hd⟩ := hcut.out; have HD := aPu hd; have aY := hd.own; clear hcut hd; obtain ⟨⟨c0, c1, c2, c3, c4⟩, f0, f1, f2, f3, f4⟩ := C9 HD.out.opr; obtain ⟨⟨r0, r1, r2, r3, r4⟩, k0, k1, k2, k3, k4⟩ := C9 HD.out.res; have oO : Hid ((((((wc.setCell ⟨w.heap.size, 0, none⟩ (.int .i64 kind)).setCell ⟨w.heap.size, 1, none⟩ (.string item)).setCell ⟨w.heap.size, 2, none⟩ (.int .i64 qty)).setCell ⟨w.heap.size, 3, none⟩ (.int .i64 dv)).setCell ⟨w.heap.size, 4, none⟩ (.int .i64 sq)).heap[w.heap.size]? = some (.cells #[.int .i64 kind, .string item, .int .i64 qty, .int .i64 dv, .int .i64 sq] 29 (0, 0))) := heap_setCell_same _ _ _ _ _ _ (heap_setCell_same _ _ _ _ _ _ (heap_setCell_same _ _ _ _ _ _ (heap_setCell_same _ _ _ _ _ _ (heap_setCell_same _ _ _ _ _ _ HD.out.res)))); have HOt : ∀ j, j ≠ w.heap.size → (((((wc.setCell ⟨w.heap.size, 0, none⟩ (.int .i64 kind)).setCell ⟨w.heap.size, 1, none⟩ (.string item)).setCell ⟨w.heap.size, 2, none⟩ (.int .i64 qty)).setCell ⟨w.heap.size, 3, none⟩ (.int .i64 dv)).setCell ⟨w.heap.size, 4, none⟩ (.int .i64 sq)).heap[j]? = wc.heap[j]? := fun j hj => by
     rw [heap_setCell_other _ _ _ _ hj, heap_setCell_other _ _ _ _ hj, heap_setCell_other _ _ _ _ hj, heap_setCell_other _ _ _ _ hj, heap_setCell_other _ _ _ _ hj]
    have W5 : Hid (w.grownBy (((((wc.setCell ⟨w.heap.size, 0, none⟩ (.int .i64 kind)).setCell ⟨w.heap.size, 1, none⟩ (.string item)).setCell ⟨w.heap.size, 2, none⟩ (.int .i64 qty)).setCell ⟨w.heap.size, 3, none⟩ (.int .i64 dv)).setCell ⟨w.heap.size, 4, none⟩ (.int .i64 sq)) (some g)) := yY (yY (yY (yY (yY HD.out.gr aPw) aPw) aPw) aPw) aPw; have V3 : Hid (Rd (((((wc.setCell ⟨w.heap.size, 0, none⟩ (.int .i64 kind)).setCell ⟨w.heap.size, 1, none⟩ (.string item)).setCell ⟨w.heap.size, 2, none⟩ (.int .i64 qty)).setCell ⟨w.heap.size, 3, none⟩ (.int .i64 dv)).setCell ⟨w.heap.size, 4, none⟩ (.int .i64 sq)) B g a len cap) := HD.out.rd.kept fun k hk => HOt k (by omega)
    clear HOt; go_wp2
    generalize ((((wc.setCell ⟨w.heap.size, 0, none⟩ (.int .i64 kind)).setCell ⟨w.heap.size, 1, none⟩ (.string item)).setCell ⟨w.heap.size, 2, none⟩ (.int .i64 qty)).setCell ⟨w.heap.size, 3, none⟩ (.int .i64 dv)).setCell ⟨w.heap.size, 4, none⟩ (.int .i64 sq) = wf at oO W5 V3 ⊢; obtain ⟨⟨p0, p1, p2, p3, p4⟩, _⟩ := C9 oO.out; exact bodyPost_ret (v := .agg #[.int .i64 kind, .string item, .int .i64 qty, .int .i64 dv, .int .i64 sq]) (by simp [results, Tryz.results41, go_sem, p0, p1, p2, p3, p4]) rfl ⟨kind, item, qty, dv, sq, tI, rfl, W5.out, V3.out⟩
end Go.Proofs.YthkagbnpcjidfaaGreatDoor
