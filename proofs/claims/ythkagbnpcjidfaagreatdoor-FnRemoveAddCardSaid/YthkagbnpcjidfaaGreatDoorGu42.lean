/- Walks and mathematics that several claims share, part 42. -/
import Derived.Test.YthkagbnpcjidfaaGreatDoorGu16
import Derived.Deep.CutRange
import Derived.Deep.CutBlock
namespace Go.Proofs.YthkagbnpcjidfaaGreatDoor
set_option maxRecDepth 100000
open Go.RowKit
set_option linter.unusedVariables false
set_option linter.unusedSimpArgs false
def aHt (w : World) (B g : Nat) (a : Option Addr) (len cap : Nat) (e : Ending) (w' : World) : Prop :=
 ∃ (kind : Int) (item : ByteArray) (qty dv sq : Int), item.size ≤ 8 ∧ e = .returned (.agg #[.int .i64 kind, .string item, .int .i64 qty, .int .i64 dv, .int .i64 sq]) ∧ w.grownBy w' (some g) ∧ Rd w' B g a len cap
structure W9 (w w1 : World) (B g : Nat) (a : Option Addr) (len cap bo : Nat) (cs : Array Value) : Prop where
 res : w1.heap[w.heap.size]? = some (.cells #[.int .i64 0, .string ⟨#[]⟩, .int .i64 0, .int .i64 0, .int .i64 0] 29 (0, 0))
 opr : w1.heap[bo]? = some (.cells cs 29 (0, 0))
 own : w.heap.size < bo
 gr : w.grownBy w1 (some g)
 rd : Rd w1 B g a len cap
theorem W9.next {w w1 w2 : World} {B g : Nat} {a : Option Addr} {len cap bo : Nat} {cs : Array Value} (h : W9 w w1 B g a len cap bo cs) (aJ : g < w.heap.size) (hg : w1.grownBy w2 (some g)) (hr : Rd w2 B g a len cap) : W9 w w2 B g a len cap bo cs :=
 ⟨(hg.block _ (aPp h.res).1 (by simp; omega)).trans h.res, (hg.block _ (aPp h.opr).1 (by have := h.own; simp; omega)).trans h.opr, h.own, h.gr.trans hg, hr⟩
theorem W9.put {w w1 : World} {B g : Nat} {a : Option Addr} {len cap bo : Nat} {cs : Array Value} (h : W9 w w1 B g a len cap bo cs) (hB : B ≤ w.heap.size) (aJ : g < w.heap.size) (i : Nat) (v : Value) : W9 w (w1.setCell ⟨bo, i, none⟩ v) B g a len cap bo (cs.setIfInBounds i v) :=
 have aU := h.own
 ⟨(heap_setCell_other _ _ _ _ (by show w.heap.size ≠ bo; omega)).trans h.res, heap_setCell_same _ _ _ _ _ _ h.opr, h.own,
  ⟨h.gr.os, h.gr.tape, h.gr.output, Nat.le_trans h.gr.size (by simp [World.setCell]), fun k hk bO => (heap_setCell_other _ _ _ _ (by show k ≠ bo; omega)).trans (h.gr.block k hk bO)⟩,
  h.rd.kept fun k hk => heap_setCell_other _ _ _ _ (by show k ≠ bo; omega)⟩
theorem E0 {w : World} {b : Nat} {v0 v1 v2 v3 v4 : Value} {T : TypeId} (h : w.heap[b]? = some (.cells #[v0, v1, v2, v3, v4] T (0, 0))) : (w.cell? ⟨b, 0, none⟩ = some v0 ∧ w.cell? ⟨b, 1, none⟩ = some v1 ∧ w.cell? ⟨b, 2, none⟩ = some v2 ∧ w.cell? ⟨b, 3, none⟩ = some v3 ∧ w.cell? ⟨b, 4, none⟩ = some v4) ∧ (w.frozen? ⟨b, 0, none⟩ = false ∧ w.frozen? ⟨b, 1, none⟩ = false ∧ w.frozen? ⟨b, 2, none⟩ = false ∧ w.frozen? ⟨b, 3, none⟩ = false ∧ w.frozen? ⟨b, 4, none⟩ = false) :=
 ⟨⟨aPr h, aPr h, aPr h, aPr h, aPr h⟩, aPs h, aPs h, aPs h, aPs h, aPs h⟩
def zT (w w1 : World) (B g : Nat) (a : Option Addr) (len cap bo : Nat) : Prop := ∃ (kind : Int) (item : ByteArray) (qty dv sq : Int), item.size ≤ 8 ∧ W9 w w1 B g a len cap bo #[.int .i64 kind, .string item, .int .i64 qty, .int .i64 dv, .int .i64 sq]
set_option maxHeartbeats 20000000 in
theorem aE5 (w : World) (B g : Nat) (a : Option Addr) (len cap : Nat) (h : Rd w B g a len cap) (hB : B ≤ w.heap.size) :
  Calls Tryz.prog 41 #[.pointer (some ⟨g, 0, none⟩)] w (aHt w B g a len cap) := by
 have aJ := h.lt
 have HZ0 := aPo (bX (Below.refl _ (w.alloc (.cells #[.int .i64 0, .string ⟨#[]⟩, .int .i64 0, .int .i64 0, .int .i64 0] 29))))
 have HG0 := aPo (World.grownBy_alloc w (.cells #[.int .i64 0, .string ⟨#[]⟩, .int .i64 0, .int .i64 0, .int .i64 0] 29) (some g))
 have oV := aPo (h.grown (World.grownBy_alloc w (.cells #[.int .i64 0, .string ⟨#[]⟩, .int .i64 0, .int .i64 0, .int .i64 0] 29) none) (fun k hk => by cases hk))
 clear h
 go_enter Tryz.func41, Tryz.ntmps41
 go_wp2_with fail
 generalize w.alloc (.cells #[.int .i64 0, .string ⟨#[]⟩, .int .i64 0, .int .i64 0, .int .i64 0] 29) = w0 at HZ0 HG0 oV ⊢
 refine (lE w0 B g a len cap oV.out 5 (by omega) (by omega)).mono ?_
 rintro e w1 ⟨v0, hv, rfl, hg, hr⟩
 have hv0 : v0 < 5 := hv
 clear hv
 have HZ1 := aPo (Res.next HZ0.out hg aJ)
 have C8 := aPo (HG0.out.trans hg)
 have fQ := aPo hr
 clear hg hr HZ0 HG0 oV
 go_wp2_with fail
 refine (aKZ w1 B g a len cap fQ.out).mono ?_
 rintro e w2 ⟨t, ht, rfl, hg, hr⟩
 have U5 := aPo (Res.next HZ1.out hg aJ)
 have HG2 := aPo (C8.out.trans hg)
 have lM := aPo hr
 clear hg hr HZ1 C8 fQ
 go_upto_region 2 with fail
 have HD : Hid (W9 w (w2.alloc (.cells #[.int .i64 (1 + (v0 : Int)), .string t, .int .i64 0, .int .i64 0, .int .i64 0] 29)) B g a len cap w2.heap.size #[.int .i64 (1 + (v0 : Int)), .string t, .int .i64 0, .int .i64 0, .int .i64 0]) :=
  ⟨(Below.heap_alloc _ _ _ (aPp U5.out).1).trans U5.out, heap_alloc_new _ _, (aPp U5.out).1, HG2.out.trans (World.grownBy_alloc _ _ _), lM.out.grown (World.grownBy_alloc w2 _ none) (fun k hk => by cases hk)⟩
 generalize w2.alloc (.cells #[.int .i64 (1 + (v0 : Int)), .string t, .int .i64 0, .int .i64 0, .int .i64 0] 29) = w3 at HD ⊢
 generalize w2.heap.size = bo at HD ⊢
 clear U5 HG2 lM
 go_wp2_with fail
 refine (lE w3 B g a len cap HD.out.rd 10 (by omega) (by omega)).mono ?_
 rintro e w4 ⟨v1, hv, rfl, hg, hr⟩
 have hv1 : v1 < 10 := hv
 have qY := aPo (HD.out.next aJ hg hr)
 clear hv hg hr HD
 go_upto_block 0 with fail
 go_cut [] from 12 to 33 (fun wx => Hid (zT w wx B g a len cap bo))
 case first =>
  obtain ⟨⟨c0, c1, c2, c3, c4⟩, f0, f1, f2, f3, f4⟩ := E0 qY.out.opr; have xI : v1 = 0 ∨ v1 = 1 ∨ v1 = 2 ∨ v1 = 3 ∨ v1 = 4 ∨ v1 = 5 ∨ 6 ≤ v1 := by omega
  rcases xI with rfl | rfl | rfl | rfl | rfl | h5 | h6
  ·have HS : Hid (zT w (w4.setCell ⟨bo, 0, none⟩ (.int .i64 1)) B g a len cap bo) := ⟨1, t, 0, 0, 0, ht, qY.out.put hB aJ 0 (.int .i64 1)⟩
   go_wp2
   go_meet
   exact HS
  ·have HS : Hid (zT w (w4.setCell ⟨bo, 0, none⟩ (.int .i64 1)) B g a len cap bo) := ⟨1, t, 0, 0, 0, ht, qY.out.put hB aJ 0 (.int .i64 1)⟩
   go_wp2
   go_meet
   exact HS
  ·have HS : Hid (zT w (w4.setCell ⟨bo, 0, none⟩ (.int .i64 1)) B g a len cap bo) := ⟨1, t, 0, 0, 0, ht, qY.out.put hB aJ 0 (.int .i64 1)⟩
   go_wp2
   go_meet
   exact HS
  ·go_wp2_with fail
   refine (lE w4 B g a len cap qY.out.rd 3 (by omega) (by omega)).mono ?_
   rintro e w5 ⟨v2, M8, rfl, hg, hr⟩; have qX := aPo (qY.out.next aJ hg hr); clear hg hr c0 c1 c2 c3 c4 f0 f1 f2 f3 f4; obtain ⟨⟨c0, c1, c2, c3, c4⟩, f0, f1, f2, f3, f4⟩ := E0 qX.out.opr; have aLl : v2 < 3 := M8; have HS : Hid (zT w (((((w5.setCell ⟨bo, 0, none⟩ (.int .i64 (6 + (v2 : Int)))).setCell ⟨bo, 1, none⟩ (.string ⟨#[]⟩)).setCell ⟨bo, 2, none⟩ (.int .i64 0)).setCell ⟨bo, 3, none⟩ (.int .i64 0)).setCell ⟨bo, 4, none⟩ (.int .i64 0)) B g a len cap bo) := ⟨6 + (v2 : Int), ⟨#[]⟩, 0, 0, 0, (by decide), ((((qX.out.put hB aJ 0 _).put hB aJ 1 _).put hB aJ 2 _).put hB aJ 3 _).put hB aJ 4 _⟩
   go_wp2
   go_meet
   exact HS
  ·have HS : Hid (zT w (((((w4.setCell ⟨bo, 0, none⟩ (.int .i64 7)).setCell ⟨bo, 1, none⟩ (.string ⟨#[]⟩)).setCell ⟨bo, 2, none⟩ (.int .i64 0)).setCell ⟨bo, 3, none⟩ (.int .i64 0)).setCell ⟨bo, 4, none⟩ (.int .i64 0)) B g a len cap bo) := ⟨7, ⟨#[]⟩, 0, 0, 0, (by decide), ((((qY.out.put hB aJ 0 _).put hB aJ 1 _).put hB aJ 2 _).put hB aJ 3 _).put hB aJ 4 _⟩
   go_wp2
   go_meet
   exact HS
  ·have g0 : ((v1 : Int) == 0) = false := by rw [beq_eq_false_iff_ne]; omega
   have g1 : ((v1 : Int) == 1) = false := by rw [beq_eq_false_iff_ne]; omega
   have g2 : ((v1 : Int) == 2) = false := by rw [beq_eq_false_iff_ne]; omega
   have g3 : ((v1 : Int) == 3) = false := by rw [beq_eq_false_iff_ne]; omega
   have g4 : ((v1 : Int) == 4) = false := by rw [beq_eq_false_iff_ne]; omega
   have g5 : ((v1 : Int) == 5) = true := by rw [beq_iff_eq]; omega
   clear h5
   go_wp2_with fail
   refine (lE w4 B g a len cap qY.out.rd 3 (by omega) (by omega)).mono ?_
   rintro e w5 ⟨v2, M8, rfl, hg, hr⟩; have qX := aPo (qY.out.next aJ hg hr); have aLl : v2 < 3 := M8; clear hg hr c0 c1 c2 c3 c4 f0 f1 f2 f3 f4
   go_wp2_with fail
   refine (lE w5 B g a len cap qX.out.rd 5 (by omega) (by omega)).mono ?_
   rintro e w6 ⟨v3, hv3, rfl, hg, hr⟩; have HD6 := aPo (qX.out.next aJ hg hr); have aOF : v3 < 5 := hv3; clear hg hr; obtain ⟨⟨c0, c1, c2, c3, c4⟩, f0, f1, f2, f3, f4⟩ := E0 HD6.out.opr; have HS : Hid (zT w (((((w6.setCell ⟨bo, 0, none⟩ (.int .i64 9)).setCell ⟨bo, 1, none⟩ (.string ⟨#[]⟩)).setCell ⟨bo, 2, none⟩ (.int .i64 0)).setCell ⟨bo, 3, none⟩ (.int .i64 (v2 : Int))).setCell ⟨bo, 4, none⟩ (.int .i64 (1 + (v3 : Int)))) B g a len cap bo) := ⟨9, ⟨#[]⟩, 0, (v2 : Int), 1 + (v3 : Int), (by decide), ((((HD6.out.put hB aJ 0 _).put hB aJ 1 _).put hB aJ 2 _).put hB aJ 3 _).put hB aJ 4 _⟩
   go_wp2
   go_meet
   exact HS
  ·have g0 : ((v1 : Int) == 0) = false := by rw [beq_eq_false_iff_ne]; omega
   have g1 : ((v1 : Int) == 1) = false := by rw [beq_eq_false_iff_ne]; omega
   have g2 : ((v1 : Int) == 2) = false := by rw [beq_eq_false_iff_ne]; omega
   have g3 : ((v1 : Int) == 3) = false := by rw [beq_eq_false_iff_ne]; omega
   have g4 : ((v1 : Int) == 4) = false := by rw [beq_eq_false_iff_ne]; omega
   have g5 : ((v1 : Int) == 5) = false := by rw [beq_eq_false_iff_ne]; omega
   go_wp2
   go_meet
   exact ⟨_, t, _, _, _, ht, qY.out⟩
 case rest =>
  clear qY; obtain ⟨kind, item, qty, dv, sq, qG, hd⟩ := hcut.out; have HD := aPo hd; clear hcut hd; obtain ⟨⟨c0, c1, c2, c3, c4⟩, f0, f1, f2, f3, f4⟩ := E0 HD.out.opr
  go_upto_if 36 with fail
  go_cut [] from 34 to 40 (fun wx => Hid (zT w wx B g a len cap bo))
  case first =>
   by_cases hk : kind ≤ 2
   ·have F5 : decide (kind ≤ 2) = true := decide_eq_true hk
    go_wp2_with fail
    refine (lE wc B g a len cap HD.out.rd 9 (by omega) (by omega)).mono ?_
    rintro e w5 ⟨v2, M8, rfl, hg, hr⟩; have qX := aPo (HD.out.next aJ hg hr); clear hg hr c0 c1 c2 c3 c4 f0 f1 f2 f3 f4; obtain ⟨⟨c0, c1, c2, c3, c4⟩, f0, f1, f2, f3, f4⟩ := E0 qX.out.opr; have aLl : v2 < 9 := M8; have HS : Hid (zT w (w5.setCell ⟨bo, 2, none⟩ (.int .i64 (1 + (v2 : Int)))) B g a len cap bo) := ⟨kind, item, 1 + (v2 : Int), dv, sq, qG, qX.out.put hB aJ 2 _⟩; go_wp2
    go_meet
    exact HS
   ·have F5 : decide (kind ≤ 2) = false := decide_eq_false hk
    go_wp2
    go_meet
    exact ⟨_, _, _, _, _, qG, HD.out⟩
  case rest =>
   clear c0 c1 c2 c3 c4 f0 f1 f2 f3 f4 HD; obtain ⟨kind, item, qty, dv, sq, qG, hd⟩ := hcut.out; have HD := aPo hd; clear hcut hd
   go_wp2_with fail
   refine (aBf wc B g a len cap HD.out.rd 40 (by omega) (by omega)).mono ?_
   rintro e w5 ⟨v, rfl, hg, hr⟩; have qX := aPo (HD.out.next aJ hg hr); clear hg hr HD; obtain ⟨⟨c0, c1, c2, c3, c4⟩, f0, f1, f2, f3, f4⟩ := E0 qX.out.opr
   go_upto_if 42 with fail
   go_cut [] from 43 to 45 (fun wx => Hid (zT w wx B g a len cap bo))
   case first =>
    cases v
    ·go_wp2
     go_meet
     exact ⟨_, _, _, _, _, qG, qX.out⟩
    ·go_wp2_with fail
     refine (zY w5 B g a len cap qX.out.rd 1 999 (by omega) (by omega) (by omega)).mono ?_
     rintro e w6 ⟨x, rfl, hg, hr⟩; have HD6 := aPo (qX.out.next aJ hg hr); clear hg hr c0 c1 c2 c3 c4 f0 f1 f2 f3 f4; obtain ⟨⟨c0, c1, c2, c3, c4⟩, f0, f1, f2, f3, f4⟩ := E0 HD6.out.opr; have HS : Hid (zT w (w6.setCell ⟨bo, 2, none⟩ (.int .i64 x)) B g a len cap bo) := ⟨kind, item, x, dv, sq, qG, HD6.out.put hB aJ 2 _⟩; go_wp2
     go_meet
     exact HS
   case rest =>
    clear c0 c1 c2 c3 c4 f0 f1 f2 f3 f4 qX; obtain ⟨kind, item, qty, dv, sq, qG, hd⟩ := hcut.out; have HD := aPo hd; have aU := hd.own; clear hcut hd; obtain ⟨⟨c0, c1, c2, c3, c4⟩, f0, f1, f2, f3, f4⟩ := E0 HD.out.opr; obtain ⟨⟨r0, r1, r2, r3, r4⟩, k0, k1, k2, k3, k4⟩ := E0 HD.out.res; have oJ : Hid ((((((wc.setCell ⟨w.heap.size, 0, none⟩ (.int .i64 kind)).setCell ⟨w.heap.size, 1, none⟩ (.string item)).setCell ⟨w.heap.size, 2, none⟩ (.int .i64 qty)).setCell ⟨w.heap.size, 3, none⟩ (.int .i64 dv)).setCell ⟨w.heap.size, 4, none⟩ (.int .i64 sq)).heap[w.heap.size]? = some (.cells #[.int .i64 kind, .string item, .int .i64 qty, .int .i64 dv, .int .i64 sq] 29 (0, 0))) := heap_setCell_same _ _ _ _ _ _ (heap_setCell_same _ _ _ _ _ _ (heap_setCell_same _ _ _ _ _ _ (heap_setCell_same _ _ _ _ _ _ (heap_setCell_same _ _ _ _ _ _ HD.out.res)))); have HOt : ∀ j, j ≠ w.heap.size → (((((wc.setCell ⟨w.heap.size, 0, none⟩ (.int .i64 kind)).setCell ⟨w.heap.size, 1, none⟩ (.string item)).setCell ⟨w.heap.size, 2, none⟩ (.int .i64 qty)).setCell ⟨w.heap.size, 3, none⟩ (.int .i64 dv)).setCell ⟨w.heap.size, 4, none⟩ (.int .i64 sq)).heap[j]? = wc.heap[j]? := fun j hj => by
     rw [heap_setCell_other _ _ _ _ hj, heap_setCell_other _ _ _ _ hj, heap_setCell_other _ _ _ _ hj, heap_setCell_other _ _ _ _ hj, heap_setCell_other _ _ _ _ hj]
    have HGr : Hid (w.grownBy (((((wc.setCell ⟨w.heap.size, 0, none⟩ (.int .i64 kind)).setCell ⟨w.heap.size, 1, none⟩ (.string item)).setCell ⟨w.heap.size, 2, none⟩ (.int .i64 qty)).setCell ⟨w.heap.size, 3, none⟩ (.int .i64 dv)).setCell ⟨w.heap.size, 4, none⟩ (.int .i64 sq)) (some g)) := yX (yX (yX (yX (yX HD.out.gr aPq) aPq) aPq) aPq) aPq; have V4 : Hid (Rd (((((wc.setCell ⟨w.heap.size, 0, none⟩ (.int .i64 kind)).setCell ⟨w.heap.size, 1, none⟩ (.string item)).setCell ⟨w.heap.size, 2, none⟩ (.int .i64 qty)).setCell ⟨w.heap.size, 3, none⟩ (.int .i64 dv)).setCell ⟨w.heap.size, 4, none⟩ (.int .i64 sq)) B g a len cap) := HD.out.rd.kept fun k hk => HOt k (by omega)
    clear HOt; go_wp2
    generalize ((((wc.setCell ⟨w.heap.size, 0, none⟩ (.int .i64 kind)).setCell ⟨w.heap.size, 1, none⟩ (.string item)).setCell ⟨w.heap.size, 2, none⟩ (.int .i64 qty)).setCell ⟨w.heap.size, 3, none⟩ (.int .i64 dv)).setCell ⟨w.heap.size, 4, none⟩ (.int .i64 sq) = wf at oJ HGr V4 ⊢; obtain ⟨⟨p0, p1, p2, p3, p4⟩, _⟩ := E0 oJ.out; exact bodyPost_ret (v := .agg #[.int .i64 kind, .string item, .int .i64 qty, .int .i64 dv, .int .i64 sq]) (by simp [results, Tryz.results41, go_sem, p0, p1, p2, p3, p4]) rfl ⟨kind, item, qty, dv, sq, qG, rfl, HGr.out, V4.out⟩
end Go.Proofs.YthkagbnpcjidfaaGreatDoor
