/- The walk of the reader's op (spec.l1Rd), and of spec.DrawOpOk, DrawLive: some operation is drawn, whatever the code. -/
import Derived.Test.YtialoobnjfbboaaDoorOpDrawB
import Derived.Test.YtialoobnjfbboaaDoorOpSet
import Derived.Deep.Cut
namespace Go.Proofs.YtialoobnjfbboaaDoor
open Go.RowKit

/-- What a call of the reader that yields an operation leaves. -/
def YieldsOp (w : World) (B g : Nat) (a : Option Addr) (len cap : Nat) (e : Ending) (w' : World) : Prop :=
  ∃ (dev seq stamp kind : Int) (item : ByteArray) (qty level undos : Int), item.size ≤ 8 ∧ e = .returned (.agg #[.int .i64 dev, .int .i64 seq, .int .i64 stamp, .int .i64 kind, .string item, .int .i64 qty, .int .i64 level, .int .i64 undos]) ∧ w.grownBy w' (some g) ∧ Rd w' B g a len cap
/-- The result's block, zero so far, and the operation's, beside the reader. -/
structure OpD (w w1 : World) (B g : Nat) (a : Option Addr) (len cap bo : Nat) (cs : Array Value) : Prop where
  res : w1.heap[w.heap.size]? = some (.cells #[.int .i64 0, .int .i64 0, .int .i64 0, .int .i64 0, .string ⟨#[]⟩, .int .i64 0, .int .i64 0, .int .i64 0] 25 (0, 0))
  opr : w1.heap[bo]? = some (.cells cs 25 (0, 0))
  own : w.heap.size < bo
  gr : w.grownBy w1 (some g)
  rd : Rd w1 B g a len cap
theorem OpD.next {w w1 w2 : World} {B g : Nat} {a : Option Addr} {len cap bo : Nat} {cs : Array Value} (h : OpD w w1 B g a len cap bo cs) (hlt : g < w.heap.size) (hg : w1.grownBy w2 (some g)) (hr : Rd w2 B g a len cap) : OpD w w2 B g a len cap bo cs :=
  ⟨(hg.block _ (Array.getElem?_eq_some_iff.1 h.res).1 (by simp; omega)).trans h.res, (hg.block _ (Array.getElem?_eq_some_iff.1 h.opr).1 (by have := h.own; simp; omega)).trans h.opr, h.own, h.gr.trans hg, hr⟩
theorem OpD.put {w w1 : World} {B g : Nat} {a : Option Addr} {len cap bo : Nat} {cs : Array Value} (h : OpD w w1 B g a len cap bo cs) (hB : B ≤ w.heap.size) (hlt : g < w.heap.size) (i : Nat) (v : Value) : OpD w (w1.setCell ⟨bo, i, none⟩ v) B g a len cap bo (cs.setIfInBounds i v) :=
  have hown := h.own
  ⟨(heap_setCell_other _ _ _ _ (by show w.heap.size ≠ bo; omega)).trans h.res, heap_setCell_same _ _ _ _ _ _ h.opr, h.own,
   ⟨h.gr.os, h.gr.tape, h.gr.output, Nat.le_trans h.gr.size (by simp [World.setCell]), fun k hk hne => (heap_setCell_other _ _ _ _ (by show k ≠ bo; omega)).trans (h.gr.block k hk hne)⟩,
   h.rd.kept fun k hk => heap_setCell_other _ _ _ _ (by show k ≠ bo; omega)⟩
theorem Res.next {w w1 w2 : World} {g : Nat} {cs : Array Value} {T : TypeId} (h : w1.heap[w.heap.size]? = some (.cells cs T (0, 0))) (hg : w1.grownBy w2 (some g)) (hlt : g < w.heap.size) : w2.heap[w.heap.size]? = some (.cells cs T (0, 0)) :=
  (hg.block _ (Array.getElem?_eq_some_iff.1 h).1 (by simp; omega)).trans h

set_option maxRecDepth 100000 in
set_option maxHeartbeats 4000000 in
theorem rdOp (w : World) (B g : Nat) (a : Option Addr) (len cap : Nat) (h : Rd w B g a len cap) (hB : B ≤ w.heap.size) :
    Calls Tryd.prog 17 #[.pointer (some ⟨g, 0, none⟩)] w (YieldsOp w B g a len cap) := by
  have hlt := h.lt
  have HZ0 := Lib.hid (boxAt (Below.refl _ (w.alloc (.cells #[.int .i64 0, .int .i64 0, .int .i64 0, .int .i64 0, .string ⟨#[]⟩, .int .i64 0, .int .i64 0, .int .i64 0] 25))))
  have HG0 := Lib.hid (World.grownBy_alloc w (.cells #[.int .i64 0, .int .i64 0, .int .i64 0, .int .i64 0, .string ⟨#[]⟩, .int .i64 0, .int .i64 0, .int .i64 0] 25) (some g))
  have HR0 := Lib.hid (h.grown (World.grownBy_alloc w (.cells #[.int .i64 0, .int .i64 0, .int .i64 0, .int .i64 0, .string ⟨#[]⟩, .int .i64 0, .int .i64 0, .int .i64 0] 25) none) (fun k hk => by cases hk))
  clear h
  go_enter Tryd.func17, Tryd.ntmps17
  go_wp2_with fail
  generalize w.alloc (.cells #[.int .i64 0, .int .i64 0, .int .i64 0, .int .i64 0, .string ⟨#[]⟩, .int .i64 0, .int .i64 0, .int .i64 0] 25) = w0 at HZ0 HG0 HR0 ⊢
  refine (belowI w0 B g a len cap HR0.out 4 (by omega) (by omega)).mono ?_
  rintro e w1 ⟨v0, hv, rfl, hg, hr⟩
  have hv0 : v0 < 4 := hv
  clear hv
  have HZ1 := Lib.hid (Res.next HZ0.out hg hlt)
  have HG1 := Lib.hid (HG0.out.trans hg)
  have HR1 := Lib.hid hr
  clear hg hr HZ0 HG0 HR0
  go_wp2_with fail
  refine (belowI w1 B g a len cap HR1.out 5 (by omega) (by omega)).mono ?_
  rintro e w2 ⟨v1, hv, rfl, hg, hr⟩
  have hv1 : v1 < 5 := hv
  clear hv
  have HZ2 := Lib.hid (Res.next HZ1.out hg hlt)
  have HG2 := Lib.hid (HG1.out.trans hg)
  have HR2 := Lib.hid hr
  clear hg hr HZ1 HG1 HR1
  go_wp2_with fail
  refine (belowI w2 B g a len cap HR2.out 9 (by omega) (by omega)).mono ?_
  rintro e w3 ⟨v2, hv, rfl, hg, hr⟩
  have hv2 : v2 < 9 := hv
  clear hv
  have HZ3 := Lib.hid (Res.next HZ2.out hg hlt)
  have HG3 := Lib.hid (HG2.out.trans hg)
  have HR3 := Lib.hid hr
  clear hg hr HZ2 HG2 HR2
  go_wp2_with fail
  refine (belowI w3 B g a len cap HR3.out 5 (by omega) (by omega)).mono ?_
  rintro e w4 ⟨v3, hv, rfl, hg, hr⟩
  have hv3 : v3 < 5 := hv
  clear hv
  have HZ4 := Lib.hid (Res.next HZ3.out hg hlt)
  have HG4 := Lib.hid (HG3.out.trans hg)
  have HR4 := Lib.hid hr
  clear hg hr HZ3 HG3 HR3
  go_wp2_with fail
  refine (rdItem w4 B g a len cap HR4.out).mono ?_
  rintro e w5 ⟨t, ht, rfl, hg, hr⟩
  have HZ5 := Lib.hid (Res.next HZ4.out hg hlt)
  have HG5 := Lib.hid (HG4.out.trans hg)
  have HR5 := Lib.hid hr
  clear hg hr HZ4 HG4 HR4
  go_wp2_with fail
  refine (belowI w5 B g a len cap HR5.out 4 (by omega) (by omega)).mono ?_
  rintro e w6 ⟨v7, hv, rfl, hg, hr⟩
  have hv7 : v7 < 4 := hv
  clear hv
  have HZ6 := Lib.hid (Res.next HZ5.out hg hlt)
  have HG6 := Lib.hid (HG5.out.trans hg)
  have HR6 := Lib.hid hr
  clear hg hr HZ5 HG5 HR5
  go_upto_region 2 with fail
  have hD : OpD w (w6.alloc (.cells #[.int .i64 (v0 : Int), .int .i64 (1 + (v1 : Int)), .int .i64 (1 + (v2 : Int)), .int .i64 (1 + (v3 : Int)), .string t, .int .i64 0, .int .i64 0, .int .i64 ((v7 : Int) / 2)] 25)) B g a len cap w6.heap.size #[.int .i64 (v0 : Int), .int .i64 (1 + (v1 : Int)), .int .i64 (1 + (v2 : Int)), .int .i64 (1 + (v3 : Int)), .string t, .int .i64 0, .int .i64 0, .int .i64 ((v7 : Int) / 2)] :=
    ⟨(Below.heap_alloc _ _ _ (Array.getElem?_eq_some_iff.1 HZ6.out).1).trans HZ6.out, boxAt (Below.refl _ _), (Array.getElem?_eq_some_iff.1 HZ6.out).1, HG6.out.trans (World.grownBy_alloc w6 _ (some g)), HR6.out.grown (World.grownBy_alloc w6 _ none) (fun k hk => by cases hk)⟩
  generalize w6.alloc (.cells #[.int .i64 (v0 : Int), .int .i64 (1 + (v1 : Int)), .int .i64 (1 + (v2 : Int)), .int .i64 (1 + (v3 : Int)), .string t, .int .i64 0, .int .i64 0, .int .i64 ((v7 : Int) / 2)] 25) = u0 at hD ⊢
  generalize w6.heap.size = bo at hD ⊢
  have HD := Lib.hid hD
  clear hD HZ6 HG6 HR6
  generalize hdev : (v0 : Int) = dev at HD ⊢
  generalize 1 + (v1 : Int) = seq at HD ⊢
  generalize 1 + (v2 : Int) = stamp at HD ⊢
  generalize (v7 : Int) / 2 = undos at HD ⊢
  clear hdev hv0 hv1 hv2 hv7
  have hres := HD.out.own
  obtain rfl | rfl | rfl | rfl | rfl : v3 = 0 ∨ v3 = 1 ∨ v3 = 2 ∨ v3 = 3 ∨ v3 = 4 := by omega
  · clear hv3
    have HD0 : Hid (OpD w u0 B g a len cap bo #[.int .i64 dev, .int .i64 seq, .int .i64 stamp, .int .i64 1, .string t, .int .i64 0, .int .i64 0, .int .i64 undos]) := HD.out
    clear HD
    obtain ⟨c0, c1, c2, c3, c4, c5, c6, c7⟩ := op_cells HD0.out.opr
    obtain ⟨f0, f1, f2, f3, f4, f5, f6, f7⟩ := op_frozen HD0.out.opr
    go_wp2_with fail
    refine (belowI u0 B g a len cap HD0.out.rd 9 (by omega) (by omega)).mono ?_
    rintro e y0 ⟨q0, hq0, rfl, hg, hr⟩
    clear c0 c1 c2 c3 c4 c5 c6 c7 f0 f1 f2 f3 f4 f5 f6 f7
    have HDy := Lib.hid (HD0.out.next hlt hg hr)
    clear hg hr HD0
    obtain ⟨c0, c1, c2, c3, c4, c5, c6, c7⟩ := op_cells HDy.out.opr
    obtain ⟨f0, f1, f2, f3, f4, f5, f6, f7⟩ := op_frozen HDy.out.opr
    have HD1 : Hid (OpD w (y0.setCell ⟨bo, 5, none⟩ (.int .i64 (1 + (q0 : Int)))) B g a len cap bo #[.int .i64 dev, .int .i64 seq, .int .i64 stamp, .int .i64 1, .string t, .int .i64 (1 + (q0 : Int)), .int .i64 0, .int .i64 undos]) := HDy.out.put hB hlt 5 _
    have hq0' : q0 < 9 := hq0
    clear hq0
    go_wp2_with fail
    generalize y0.setCell ⟨bo, 5, none⟩ (.int .i64 (1 + (q0 : Int))) = u1 at HD1 ⊢
    clear HDy
    clear c0 c1 c2 c3 c4 c5 c6 c7 f0 f1 f2 f3 f4 f5 f6 f7
    obtain ⟨c0, c1, c2, c3, c4, c5, c6, c7⟩ := op_cells HD1.out.opr
    obtain ⟨f0, f1, f2, f3, f4, f5, f6, f7⟩ := op_frozen HD1.out.opr
    refine (belowI u1 B g a len cap HD1.out.rd 3 (by omega) (by omega)).mono ?_
    rintro e y1 ⟨l0, hl0, rfl, hg, hr⟩
    clear c0 c1 c2 c3 c4 c5 c6 c7 f0 f1 f2 f3 f4 f5 f6 f7
    have HDy := Lib.hid (HD1.out.next hlt hg hr)
    clear hg hr HD1
    obtain ⟨c0, c1, c2, c3, c4, c5, c6, c7⟩ := op_cells HDy.out.opr
    obtain ⟨f0, f1, f2, f3, f4, f5, f6, f7⟩ := op_frozen HDy.out.opr
    have HD2 : Hid (OpD w (y1.setCell ⟨bo, 6, none⟩ (.int .i64 (1 + 2 * (l0 : Int)))) B g a len cap bo #[.int .i64 dev, .int .i64 seq, .int .i64 stamp, .int .i64 1, .string t, .int .i64 (1 + (q0 : Int)), .int .i64 (1 + 2 * (l0 : Int)), .int .i64 undos]) := HDy.out.put hB hlt 6 _
    have hl0' : l0 < 3 := hl0
    clear hl0
    go_wp2_with fail
    generalize y1.setCell ⟨bo, 6, none⟩ (.int .i64 (1 + 2 * (l0 : Int))) = u2 at HD2 ⊢
    clear HDy
    clear c0 c1 c2 c3 c4 c5 c6 c7 f0 f1 f2 f3 f4 f5 f6 f7
    obtain ⟨c0, c1, c2, c3, c4, c5, c6, c7⟩ := op_cells HD2.out.opr
    obtain ⟨f0, f1, f2, f3, f4, f5, f6, f7⟩ := op_frozen HD2.out.opr
    refine (belowI u2 B g a len cap HD2.out.rd 40 (by omega) (by omega)).mono ?_
    rintro e u3 ⟨z, hz, rfl, hg, hr⟩
    clear c0 c1 c2 c3 c4 c5 c6 c7 f0 f1 f2 f3 f4 f5 f6 f7
    have HD3 := Lib.hid (HD2.out.next hlt hg hr)
    clear hg hr HD2
    generalize (1 + (q0 : Int)) = qty at HD3 ⊢
    generalize (1 + 2 * (l0 : Int)) = level at HD3 ⊢
    have hz' : z < 40 := hz
    clear hz
    by_cases z37 : z = 37
    · subst z37
      obtain ⟨c0, c1, c2, c3, c4, c5, c6, c7⟩ := op_cells HD3.out.opr
      obtain ⟨f0, f1, f2, f3, f4, f5, f6, f7⟩ := op_frozen HD3.out.opr
      go_wp2_with fail
      refine (rdOff u3 B g a len cap HD3.out.rd 1 999 (by omega) (by omega) (by omega)).mono ?_
      rintro e y3 ⟨x5, rfl, hg, hr⟩
      clear c0 c1 c2 c3 c4 c5 c6 c7 f0 f1 f2 f3 f4 f5 f6 f7
      have HDy := Lib.hid (HD3.out.next hlt hg hr)
      clear hg hr HD3
      obtain ⟨c0, c1, c2, c3, c4, c5, c6, c7⟩ := op_cells HDy.out.opr
      obtain ⟨f0, f1, f2, f3, f4, f5, f6, f7⟩ := op_frozen HDy.out.opr
      have HD4 : Hid (OpD w (y3.setCell ⟨bo, 5, none⟩ (.int .i64 x5)) B g a len cap bo #[.int .i64 dev, .int .i64 seq, .int .i64 stamp, .int .i64 1, .string t, .int .i64 x5, .int .i64 level, .int .i64 undos]) := HDy.out.put hB hlt 5 _
      go_upto_region 17 with fail
      generalize y3.setCell ⟨bo, 5, none⟩ (.int .i64 x5) = u4 at HD4 ⊢
      clear HDy
      clear c0 c1 c2 c3 c4 c5 c6 c7 f0 f1 f2 f3 f4 f5 f6 f7
      obtain ⟨c0, c1, c2, c3, c4, c5, c6, c7⟩ := op_cells HD4.out.opr
      obtain ⟨e0, e1, e2, e3, e4, e5, e6, e7⟩ := op_cells HD4.out.res
      obtain ⟨f0, f1, f2, f3, f4, f5, f6, f7⟩ := op_frozen HD4.out.res
      go_wp2
      have HX := Lib.hid (setOp_same (.int .i64 dev) (.int .i64 seq) (.int .i64 stamp) (.int .i64 1) (.string t) (.int .i64 x5) (.int .i64 level) (.int .i64 undos) HD4.out.res)
      have HGf : Hid (w.grownBy (setOp u4 w.heap.size (.int .i64 dev) (.int .i64 seq) (.int .i64 stamp) (.int .i64 1) (.string t) (.int .i64 x5) (.int .i64 level) (.int .i64 undos)) (some g)) := setOp_grown (.int .i64 dev) (.int .i64 seq) (.int .i64 stamp) (.int .i64 1) (.string t) (.int .i64 x5) (.int .i64 level) (.int .i64 undos) HD4.out.gr
      have HRf := Lib.hid (HD4.out.rd.kept fun k hk => setOp_other (.int .i64 dev) (.int .i64 seq) (.int .i64 stamp) (.int .i64 1) (.string t) (.int .i64 x5) (.int .i64 level) (.int .i64 undos) (show k ≠ w.heap.size by omega))
      clear c0 c1 c2 c3 c4 c5 c6 c7 e0 e1 e2 e3 e4 e5 e6 e7 f0 f1 f2 f3 f4 f5 f6 f7
      change bodyPost _ _ _ _ _ (setOp u4 w.heap.size (.int .i64 dev) (.int .i64 seq) (.int .i64 stamp) (.int .i64 1) (.string t) (.int .i64 x5) (.int .i64 level) (.int .i64 undos))
      generalize setOp u4 w.heap.size (.int .i64 dev) (.int .i64 seq) (.int .i64 stamp) (.int .i64 1) (.string t) (.int .i64 x5) (.int .i64 level) (.int .i64 undos) = wf at HX HGf HRf ⊢
      obtain ⟨d0, d1, d2, d3, d4, d5, d6, d7⟩ := op_cells HX.out
      exact bodyPost_ret (v := .agg #[.int .i64 dev, .int .i64 seq, .int .i64 stamp, .int .i64 1, .string t, .int .i64 x5, .int .i64 level, .int .i64 undos]) (by simp [results, Tryd.results17, go_sem, d0, d1, d2, d3, d4, d5, d6, d7]) rfl ⟨_, _, _, _, _, _, _, _, ht, rfl, HGf.out, HRf.out⟩
    have n37 : ((z : Int) == 37) = false := by rw [beq_eq_false_iff_ne]; omega
    by_cases z38 : z = 38
    · subst z38
      obtain ⟨c0, c1, c2, c3, c4, c5, c6, c7⟩ := op_cells HD3.out.opr
      obtain ⟨f0, f1, f2, f3, f4, f5, f6, f7⟩ := op_frozen HD3.out.opr
      go_wp2_with fail
      refine (rdOff u3 B g a len cap HD3.out.rd 1 100 (by omega) (by omega) (by omega)).mono ?_
      rintro e y3 ⟨x6, rfl, hg, hr⟩
      clear c0 c1 c2 c3 c4 c5 c6 c7 f0 f1 f2 f3 f4 f5 f6 f7
      have HDy := Lib.hid (HD3.out.next hlt hg hr)
      clear hg hr HD3
      obtain ⟨c0, c1, c2, c3, c4, c5, c6, c7⟩ := op_cells HDy.out.opr
      obtain ⟨f0, f1, f2, f3, f4, f5, f6, f7⟩ := op_frozen HDy.out.opr
      have HD4 : Hid (OpD w (y3.setCell ⟨bo, 6, none⟩ (.int .i64 x6)) B g a len cap bo #[.int .i64 dev, .int .i64 seq, .int .i64 stamp, .int .i64 1, .string t, .int .i64 qty, .int .i64 x6, .int .i64 undos]) := HDy.out.put hB hlt 6 _
      go_upto_region 17 with fail
      generalize y3.setCell ⟨bo, 6, none⟩ (.int .i64 x6) = u4 at HD4 ⊢
      clear HDy
      clear c0 c1 c2 c3 c4 c5 c6 c7 f0 f1 f2 f3 f4 f5 f6 f7
      obtain ⟨c0, c1, c2, c3, c4, c5, c6, c7⟩ := op_cells HD4.out.opr
      obtain ⟨e0, e1, e2, e3, e4, e5, e6, e7⟩ := op_cells HD4.out.res
      obtain ⟨f0, f1, f2, f3, f4, f5, f6, f7⟩ := op_frozen HD4.out.res
      go_wp2
      have HX := Lib.hid (setOp_same (.int .i64 dev) (.int .i64 seq) (.int .i64 stamp) (.int .i64 1) (.string t) (.int .i64 qty) (.int .i64 x6) (.int .i64 undos) HD4.out.res)
      have HGf : Hid (w.grownBy (setOp u4 w.heap.size (.int .i64 dev) (.int .i64 seq) (.int .i64 stamp) (.int .i64 1) (.string t) (.int .i64 qty) (.int .i64 x6) (.int .i64 undos)) (some g)) := setOp_grown (.int .i64 dev) (.int .i64 seq) (.int .i64 stamp) (.int .i64 1) (.string t) (.int .i64 qty) (.int .i64 x6) (.int .i64 undos) HD4.out.gr
      have HRf := Lib.hid (HD4.out.rd.kept fun k hk => setOp_other (.int .i64 dev) (.int .i64 seq) (.int .i64 stamp) (.int .i64 1) (.string t) (.int .i64 qty) (.int .i64 x6) (.int .i64 undos) (show k ≠ w.heap.size by omega))
      clear c0 c1 c2 c3 c4 c5 c6 c7 e0 e1 e2 e3 e4 e5 e6 e7 f0 f1 f2 f3 f4 f5 f6 f7
      change bodyPost _ _ _ _ _ (setOp u4 w.heap.size (.int .i64 dev) (.int .i64 seq) (.int .i64 stamp) (.int .i64 1) (.string t) (.int .i64 qty) (.int .i64 x6) (.int .i64 undos))
      generalize setOp u4 w.heap.size (.int .i64 dev) (.int .i64 seq) (.int .i64 stamp) (.int .i64 1) (.string t) (.int .i64 qty) (.int .i64 x6) (.int .i64 undos) = wf at HX HGf HRf ⊢
      obtain ⟨d0, d1, d2, d3, d4, d5, d6, d7⟩ := op_cells HX.out
      exact bodyPost_ret (v := .agg #[.int .i64 dev, .int .i64 seq, .int .i64 stamp, .int .i64 1, .string t, .int .i64 qty, .int .i64 x6, .int .i64 undos]) (by simp [results, Tryd.results17, go_sem, d0, d1, d2, d3, d4, d5, d6, d7]) rfl ⟨_, _, _, _, _, _, _, _, ht, rfl, HGf.out, HRf.out⟩
    have n38 : ((z : Int) == 38) = false := by rw [beq_eq_false_iff_ne]; omega
    by_cases z39 : z = 39
    · subst z39
      obtain ⟨c0, c1, c2, c3, c4, c5, c6, c7⟩ := op_cells HD3.out.opr
      obtain ⟨f0, f1, f2, f3, f4, f5, f6, f7⟩ := op_frozen HD3.out.opr
      go_wp2_with fail
      refine (rdOff u3 B g a len cap HD3.out.rd 0 50 (by omega) (by omega) (by omega)).mono ?_
      rintro e y3 ⟨x7, rfl, hg, hr⟩
      clear c0 c1 c2 c3 c4 c5 c6 c7 f0 f1 f2 f3 f4 f5 f6 f7
      have HDy := Lib.hid (HD3.out.next hlt hg hr)
      clear hg hr HD3
      obtain ⟨c0, c1, c2, c3, c4, c5, c6, c7⟩ := op_cells HDy.out.opr
      obtain ⟨f0, f1, f2, f3, f4, f5, f6, f7⟩ := op_frozen HDy.out.opr
      have HD4 : Hid (OpD w (y3.setCell ⟨bo, 7, none⟩ (.int .i64 x7)) B g a len cap bo #[.int .i64 dev, .int .i64 seq, .int .i64 stamp, .int .i64 1, .string t, .int .i64 qty, .int .i64 level, .int .i64 x7]) := HDy.out.put hB hlt 7 _
      go_upto_region 17 with fail
      generalize y3.setCell ⟨bo, 7, none⟩ (.int .i64 x7) = u4 at HD4 ⊢
      clear HDy
      clear c0 c1 c2 c3 c4 c5 c6 c7 f0 f1 f2 f3 f4 f5 f6 f7
      obtain ⟨c0, c1, c2, c3, c4, c5, c6, c7⟩ := op_cells HD4.out.opr
      obtain ⟨e0, e1, e2, e3, e4, e5, e6, e7⟩ := op_cells HD4.out.res
      obtain ⟨f0, f1, f2, f3, f4, f5, f6, f7⟩ := op_frozen HD4.out.res
      go_wp2
      have HX := Lib.hid (setOp_same (.int .i64 dev) (.int .i64 seq) (.int .i64 stamp) (.int .i64 1) (.string t) (.int .i64 qty) (.int .i64 level) (.int .i64 x7) HD4.out.res)
      have HGf : Hid (w.grownBy (setOp u4 w.heap.size (.int .i64 dev) (.int .i64 seq) (.int .i64 stamp) (.int .i64 1) (.string t) (.int .i64 qty) (.int .i64 level) (.int .i64 x7)) (some g)) := setOp_grown (.int .i64 dev) (.int .i64 seq) (.int .i64 stamp) (.int .i64 1) (.string t) (.int .i64 qty) (.int .i64 level) (.int .i64 x7) HD4.out.gr
      have HRf := Lib.hid (HD4.out.rd.kept fun k hk => setOp_other (.int .i64 dev) (.int .i64 seq) (.int .i64 stamp) (.int .i64 1) (.string t) (.int .i64 qty) (.int .i64 level) (.int .i64 x7) (show k ≠ w.heap.size by omega))
      clear c0 c1 c2 c3 c4 c5 c6 c7 e0 e1 e2 e3 e4 e5 e6 e7 f0 f1 f2 f3 f4 f5 f6 f7
      change bodyPost _ _ _ _ _ (setOp u4 w.heap.size (.int .i64 dev) (.int .i64 seq) (.int .i64 stamp) (.int .i64 1) (.string t) (.int .i64 qty) (.int .i64 level) (.int .i64 x7))
      generalize setOp u4 w.heap.size (.int .i64 dev) (.int .i64 seq) (.int .i64 stamp) (.int .i64 1) (.string t) (.int .i64 qty) (.int .i64 level) (.int .i64 x7) = wf at HX HGf HRf ⊢
      obtain ⟨d0, d1, d2, d3, d4, d5, d6, d7⟩ := op_cells HX.out
      exact bodyPost_ret (v := .agg #[.int .i64 dev, .int .i64 seq, .int .i64 stamp, .int .i64 1, .string t, .int .i64 qty, .int .i64 level, .int .i64 x7]) (by simp [results, Tryd.results17, go_sem, d0, d1, d2, d3, d4, d5, d6, d7]) rfl ⟨_, _, _, _, _, _, _, _, ht, rfl, HGf.out, HRf.out⟩
    have n39 : ((z : Int) == 39) = false := by rw [beq_eq_false_iff_ne]; omega
    clear z37 z38 z39
    go_upto_region 17 with fail
    obtain ⟨c0, c1, c2, c3, c4, c5, c6, c7⟩ := op_cells HD3.out.opr
    obtain ⟨e0, e1, e2, e3, e4, e5, e6, e7⟩ := op_cells HD3.out.res
    obtain ⟨f0, f1, f2, f3, f4, f5, f6, f7⟩ := op_frozen HD3.out.res
    go_wp2
    have HX := Lib.hid (setOp_same (.int .i64 dev) (.int .i64 seq) (.int .i64 stamp) (.int .i64 1) (.string t) (.int .i64 qty) (.int .i64 level) (.int .i64 undos) HD3.out.res)
    have HGf : Hid (w.grownBy (setOp u3 w.heap.size (.int .i64 dev) (.int .i64 seq) (.int .i64 stamp) (.int .i64 1) (.string t) (.int .i64 qty) (.int .i64 level) (.int .i64 undos)) (some g)) := setOp_grown (.int .i64 dev) (.int .i64 seq) (.int .i64 stamp) (.int .i64 1) (.string t) (.int .i64 qty) (.int .i64 level) (.int .i64 undos) HD3.out.gr
    have HRf := Lib.hid (HD3.out.rd.kept fun k hk => setOp_other (.int .i64 dev) (.int .i64 seq) (.int .i64 stamp) (.int .i64 1) (.string t) (.int .i64 qty) (.int .i64 level) (.int .i64 undos) (show k ≠ w.heap.size by omega))
    clear c0 c1 c2 c3 c4 c5 c6 c7 e0 e1 e2 e3 e4 e5 e6 e7 f0 f1 f2 f3 f4 f5 f6 f7
    change bodyPost _ _ _ _ _ (setOp u3 w.heap.size (.int .i64 dev) (.int .i64 seq) (.int .i64 stamp) (.int .i64 1) (.string t) (.int .i64 qty) (.int .i64 level) (.int .i64 undos))
    generalize setOp u3 w.heap.size (.int .i64 dev) (.int .i64 seq) (.int .i64 stamp) (.int .i64 1) (.string t) (.int .i64 qty) (.int .i64 level) (.int .i64 undos) = wf at HX HGf HRf ⊢
    obtain ⟨d0, d1, d2, d3, d4, d5, d6, d7⟩ := op_cells HX.out
    exact bodyPost_ret (v := .agg #[.int .i64 dev, .int .i64 seq, .int .i64 stamp, .int .i64 1, .string t, .int .i64 qty, .int .i64 level, .int .i64 undos]) (by simp [results, Tryd.results17, go_sem, d0, d1, d2, d3, d4, d5, d6, d7]) rfl ⟨_, _, _, _, _, _, _, _, ht, rfl, HGf.out, HRf.out⟩
  · clear hv3
    have HD0 : Hid (OpD w u0 B g a len cap bo #[.int .i64 dev, .int .i64 seq, .int .i64 stamp, .int .i64 2, .string t, .int .i64 0, .int .i64 0, .int .i64 undos]) := HD.out
    clear HD
    obtain ⟨c0, c1, c2, c3, c4, c5, c6, c7⟩ := op_cells HD0.out.opr
    obtain ⟨f0, f1, f2, f3, f4, f5, f6, f7⟩ := op_frozen HD0.out.opr
    go_wp2_with fail
    refine (belowI u0 B g a len cap HD0.out.rd 9 (by omega) (by omega)).mono ?_
    rintro e y0 ⟨q0, hq0, rfl, hg, hr⟩
    clear c0 c1 c2 c3 c4 c5 c6 c7 f0 f1 f2 f3 f4 f5 f6 f7
    have HDy := Lib.hid (HD0.out.next hlt hg hr)
    clear hg hr HD0
    obtain ⟨c0, c1, c2, c3, c4, c5, c6, c7⟩ := op_cells HDy.out.opr
    obtain ⟨f0, f1, f2, f3, f4, f5, f6, f7⟩ := op_frozen HDy.out.opr
    have HD1 : Hid (OpD w (y0.setCell ⟨bo, 5, none⟩ (.int .i64 (1 + (q0 : Int)))) B g a len cap bo #[.int .i64 dev, .int .i64 seq, .int .i64 stamp, .int .i64 2, .string t, .int .i64 (1 + (q0 : Int)), .int .i64 0, .int .i64 undos]) := HDy.out.put hB hlt 5 _
    have hq0' : q0 < 9 := hq0
    clear hq0
    go_wp2_with fail
    generalize y0.setCell ⟨bo, 5, none⟩ (.int .i64 (1 + (q0 : Int))) = u1 at HD1 ⊢
    clear HDy
    clear c0 c1 c2 c3 c4 c5 c6 c7 f0 f1 f2 f3 f4 f5 f6 f7
    obtain ⟨c0, c1, c2, c3, c4, c5, c6, c7⟩ := op_cells HD1.out.opr
    obtain ⟨f0, f1, f2, f3, f4, f5, f6, f7⟩ := op_frozen HD1.out.opr
    refine (belowI u1 B g a len cap HD1.out.rd 40 (by omega) (by omega)).mono ?_
    rintro e u2 ⟨z, hz, rfl, hg, hr⟩
    clear c0 c1 c2 c3 c4 c5 c6 c7 f0 f1 f2 f3 f4 f5 f6 f7
    have HD2 := Lib.hid (HD1.out.next hlt hg hr)
    clear hg hr HD1
    generalize (1 + (q0 : Int)) = qty at HD2 ⊢
    have hz' : z < 40 := hz
    clear hz
    by_cases z37 : z = 37
    · subst z37
      obtain ⟨c0, c1, c2, c3, c4, c5, c6, c7⟩ := op_cells HD2.out.opr
      obtain ⟨f0, f1, f2, f3, f4, f5, f6, f7⟩ := op_frozen HD2.out.opr
      go_wp2_with fail
      refine (rdOff u2 B g a len cap HD2.out.rd 1 999 (by omega) (by omega) (by omega)).mono ?_
      rintro e y2 ⟨x5, rfl, hg, hr⟩
      clear c0 c1 c2 c3 c4 c5 c6 c7 f0 f1 f2 f3 f4 f5 f6 f7
      have HDy := Lib.hid (HD2.out.next hlt hg hr)
      clear hg hr HD2
      obtain ⟨c0, c1, c2, c3, c4, c5, c6, c7⟩ := op_cells HDy.out.opr
      obtain ⟨f0, f1, f2, f3, f4, f5, f6, f7⟩ := op_frozen HDy.out.opr
      have HD3 : Hid (OpD w (y2.setCell ⟨bo, 5, none⟩ (.int .i64 x5)) B g a len cap bo #[.int .i64 dev, .int .i64 seq, .int .i64 stamp, .int .i64 2, .string t, .int .i64 x5, .int .i64 0, .int .i64 undos]) := HDy.out.put hB hlt 5 _
      go_upto_region 17 with fail
      generalize y2.setCell ⟨bo, 5, none⟩ (.int .i64 x5) = u3 at HD3 ⊢
      clear HDy
      clear c0 c1 c2 c3 c4 c5 c6 c7 f0 f1 f2 f3 f4 f5 f6 f7
      obtain ⟨c0, c1, c2, c3, c4, c5, c6, c7⟩ := op_cells HD3.out.opr
      obtain ⟨e0, e1, e2, e3, e4, e5, e6, e7⟩ := op_cells HD3.out.res
      obtain ⟨f0, f1, f2, f3, f4, f5, f6, f7⟩ := op_frozen HD3.out.res
      go_wp2
      have HX := Lib.hid (setOp_same (.int .i64 dev) (.int .i64 seq) (.int .i64 stamp) (.int .i64 2) (.string t) (.int .i64 x5) (.int .i64 0) (.int .i64 undos) HD3.out.res)
      have HGf : Hid (w.grownBy (setOp u3 w.heap.size (.int .i64 dev) (.int .i64 seq) (.int .i64 stamp) (.int .i64 2) (.string t) (.int .i64 x5) (.int .i64 0) (.int .i64 undos)) (some g)) := setOp_grown (.int .i64 dev) (.int .i64 seq) (.int .i64 stamp) (.int .i64 2) (.string t) (.int .i64 x5) (.int .i64 0) (.int .i64 undos) HD3.out.gr
      have HRf := Lib.hid (HD3.out.rd.kept fun k hk => setOp_other (.int .i64 dev) (.int .i64 seq) (.int .i64 stamp) (.int .i64 2) (.string t) (.int .i64 x5) (.int .i64 0) (.int .i64 undos) (show k ≠ w.heap.size by omega))
      clear c0 c1 c2 c3 c4 c5 c6 c7 e0 e1 e2 e3 e4 e5 e6 e7 f0 f1 f2 f3 f4 f5 f6 f7
      change bodyPost _ _ _ _ _ (setOp u3 w.heap.size (.int .i64 dev) (.int .i64 seq) (.int .i64 stamp) (.int .i64 2) (.string t) (.int .i64 x5) (.int .i64 0) (.int .i64 undos))
      generalize setOp u3 w.heap.size (.int .i64 dev) (.int .i64 seq) (.int .i64 stamp) (.int .i64 2) (.string t) (.int .i64 x5) (.int .i64 0) (.int .i64 undos) = wf at HX HGf HRf ⊢
      obtain ⟨d0, d1, d2, d3, d4, d5, d6, d7⟩ := op_cells HX.out
      exact bodyPost_ret (v := .agg #[.int .i64 dev, .int .i64 seq, .int .i64 stamp, .int .i64 2, .string t, .int .i64 x5, .int .i64 0, .int .i64 undos]) (by simp [results, Tryd.results17, go_sem, d0, d1, d2, d3, d4, d5, d6, d7]) rfl ⟨_, _, _, _, _, _, _, _, ht, rfl, HGf.out, HRf.out⟩
    have n37 : ((z : Int) == 37) = false := by rw [beq_eq_false_iff_ne]; omega
    by_cases z38 : z = 38
    · subst z38
      obtain ⟨c0, c1, c2, c3, c4, c5, c6, c7⟩ := op_cells HD2.out.opr
      obtain ⟨f0, f1, f2, f3, f4, f5, f6, f7⟩ := op_frozen HD2.out.opr
      go_wp2_with fail
      refine (rdOff u2 B g a len cap HD2.out.rd 1 100 (by omega) (by omega) (by omega)).mono ?_
      rintro e y2 ⟨x6, rfl, hg, hr⟩
      clear c0 c1 c2 c3 c4 c5 c6 c7 f0 f1 f2 f3 f4 f5 f6 f7
      have HDy := Lib.hid (HD2.out.next hlt hg hr)
      clear hg hr HD2
      obtain ⟨c0, c1, c2, c3, c4, c5, c6, c7⟩ := op_cells HDy.out.opr
      obtain ⟨f0, f1, f2, f3, f4, f5, f6, f7⟩ := op_frozen HDy.out.opr
      have HD3 : Hid (OpD w (y2.setCell ⟨bo, 6, none⟩ (.int .i64 x6)) B g a len cap bo #[.int .i64 dev, .int .i64 seq, .int .i64 stamp, .int .i64 2, .string t, .int .i64 qty, .int .i64 x6, .int .i64 undos]) := HDy.out.put hB hlt 6 _
      go_upto_region 17 with fail
      generalize y2.setCell ⟨bo, 6, none⟩ (.int .i64 x6) = u3 at HD3 ⊢
      clear HDy
      clear c0 c1 c2 c3 c4 c5 c6 c7 f0 f1 f2 f3 f4 f5 f6 f7
      obtain ⟨c0, c1, c2, c3, c4, c5, c6, c7⟩ := op_cells HD3.out.opr
      obtain ⟨e0, e1, e2, e3, e4, e5, e6, e7⟩ := op_cells HD3.out.res
      obtain ⟨f0, f1, f2, f3, f4, f5, f6, f7⟩ := op_frozen HD3.out.res
      go_wp2
      have HX := Lib.hid (setOp_same (.int .i64 dev) (.int .i64 seq) (.int .i64 stamp) (.int .i64 2) (.string t) (.int .i64 qty) (.int .i64 x6) (.int .i64 undos) HD3.out.res)
      have HGf : Hid (w.grownBy (setOp u3 w.heap.size (.int .i64 dev) (.int .i64 seq) (.int .i64 stamp) (.int .i64 2) (.string t) (.int .i64 qty) (.int .i64 x6) (.int .i64 undos)) (some g)) := setOp_grown (.int .i64 dev) (.int .i64 seq) (.int .i64 stamp) (.int .i64 2) (.string t) (.int .i64 qty) (.int .i64 x6) (.int .i64 undos) HD3.out.gr
      have HRf := Lib.hid (HD3.out.rd.kept fun k hk => setOp_other (.int .i64 dev) (.int .i64 seq) (.int .i64 stamp) (.int .i64 2) (.string t) (.int .i64 qty) (.int .i64 x6) (.int .i64 undos) (show k ≠ w.heap.size by omega))
      clear c0 c1 c2 c3 c4 c5 c6 c7 e0 e1 e2 e3 e4 e5 e6 e7 f0 f1 f2 f3 f4 f5 f6 f7
      change bodyPost _ _ _ _ _ (setOp u3 w.heap.size (.int .i64 dev) (.int .i64 seq) (.int .i64 stamp) (.int .i64 2) (.string t) (.int .i64 qty) (.int .i64 x6) (.int .i64 undos))
      generalize setOp u3 w.heap.size (.int .i64 dev) (.int .i64 seq) (.int .i64 stamp) (.int .i64 2) (.string t) (.int .i64 qty) (.int .i64 x6) (.int .i64 undos) = wf at HX HGf HRf ⊢
      obtain ⟨d0, d1, d2, d3, d4, d5, d6, d7⟩ := op_cells HX.out
      exact bodyPost_ret (v := .agg #[.int .i64 dev, .int .i64 seq, .int .i64 stamp, .int .i64 2, .string t, .int .i64 qty, .int .i64 x6, .int .i64 undos]) (by simp [results, Tryd.results17, go_sem, d0, d1, d2, d3, d4, d5, d6, d7]) rfl ⟨_, _, _, _, _, _, _, _, ht, rfl, HGf.out, HRf.out⟩
    have n38 : ((z : Int) == 38) = false := by rw [beq_eq_false_iff_ne]; omega
    by_cases z39 : z = 39
    · subst z39
      obtain ⟨c0, c1, c2, c3, c4, c5, c6, c7⟩ := op_cells HD2.out.opr
      obtain ⟨f0, f1, f2, f3, f4, f5, f6, f7⟩ := op_frozen HD2.out.opr
      go_wp2_with fail
      refine (rdOff u2 B g a len cap HD2.out.rd 0 50 (by omega) (by omega) (by omega)).mono ?_
      rintro e y2 ⟨x7, rfl, hg, hr⟩
      clear c0 c1 c2 c3 c4 c5 c6 c7 f0 f1 f2 f3 f4 f5 f6 f7
      have HDy := Lib.hid (HD2.out.next hlt hg hr)
      clear hg hr HD2
      obtain ⟨c0, c1, c2, c3, c4, c5, c6, c7⟩ := op_cells HDy.out.opr
      obtain ⟨f0, f1, f2, f3, f4, f5, f6, f7⟩ := op_frozen HDy.out.opr
      have HD3 : Hid (OpD w (y2.setCell ⟨bo, 7, none⟩ (.int .i64 x7)) B g a len cap bo #[.int .i64 dev, .int .i64 seq, .int .i64 stamp, .int .i64 2, .string t, .int .i64 qty, .int .i64 0, .int .i64 x7]) := HDy.out.put hB hlt 7 _
      go_upto_region 17 with fail
      generalize y2.setCell ⟨bo, 7, none⟩ (.int .i64 x7) = u3 at HD3 ⊢
      clear HDy
      clear c0 c1 c2 c3 c4 c5 c6 c7 f0 f1 f2 f3 f4 f5 f6 f7
      obtain ⟨c0, c1, c2, c3, c4, c5, c6, c7⟩ := op_cells HD3.out.opr
      obtain ⟨e0, e1, e2, e3, e4, e5, e6, e7⟩ := op_cells HD3.out.res
      obtain ⟨f0, f1, f2, f3, f4, f5, f6, f7⟩ := op_frozen HD3.out.res
      go_wp2
      have HX := Lib.hid (setOp_same (.int .i64 dev) (.int .i64 seq) (.int .i64 stamp) (.int .i64 2) (.string t) (.int .i64 qty) (.int .i64 0) (.int .i64 x7) HD3.out.res)
      have HGf : Hid (w.grownBy (setOp u3 w.heap.size (.int .i64 dev) (.int .i64 seq) (.int .i64 stamp) (.int .i64 2) (.string t) (.int .i64 qty) (.int .i64 0) (.int .i64 x7)) (some g)) := setOp_grown (.int .i64 dev) (.int .i64 seq) (.int .i64 stamp) (.int .i64 2) (.string t) (.int .i64 qty) (.int .i64 0) (.int .i64 x7) HD3.out.gr
      have HRf := Lib.hid (HD3.out.rd.kept fun k hk => setOp_other (.int .i64 dev) (.int .i64 seq) (.int .i64 stamp) (.int .i64 2) (.string t) (.int .i64 qty) (.int .i64 0) (.int .i64 x7) (show k ≠ w.heap.size by omega))
      clear c0 c1 c2 c3 c4 c5 c6 c7 e0 e1 e2 e3 e4 e5 e6 e7 f0 f1 f2 f3 f4 f5 f6 f7
      change bodyPost _ _ _ _ _ (setOp u3 w.heap.size (.int .i64 dev) (.int .i64 seq) (.int .i64 stamp) (.int .i64 2) (.string t) (.int .i64 qty) (.int .i64 0) (.int .i64 x7))
      generalize setOp u3 w.heap.size (.int .i64 dev) (.int .i64 seq) (.int .i64 stamp) (.int .i64 2) (.string t) (.int .i64 qty) (.int .i64 0) (.int .i64 x7) = wf at HX HGf HRf ⊢
      obtain ⟨d0, d1, d2, d3, d4, d5, d6, d7⟩ := op_cells HX.out
      exact bodyPost_ret (v := .agg #[.int .i64 dev, .int .i64 seq, .int .i64 stamp, .int .i64 2, .string t, .int .i64 qty, .int .i64 0, .int .i64 x7]) (by simp [results, Tryd.results17, go_sem, d0, d1, d2, d3, d4, d5, d6, d7]) rfl ⟨_, _, _, _, _, _, _, _, ht, rfl, HGf.out, HRf.out⟩
    have n39 : ((z : Int) == 39) = false := by rw [beq_eq_false_iff_ne]; omega
    clear z37 z38 z39
    go_upto_region 17 with fail
    obtain ⟨c0, c1, c2, c3, c4, c5, c6, c7⟩ := op_cells HD2.out.opr
    obtain ⟨e0, e1, e2, e3, e4, e5, e6, e7⟩ := op_cells HD2.out.res
    obtain ⟨f0, f1, f2, f3, f4, f5, f6, f7⟩ := op_frozen HD2.out.res
    go_wp2
    have HX := Lib.hid (setOp_same (.int .i64 dev) (.int .i64 seq) (.int .i64 stamp) (.int .i64 2) (.string t) (.int .i64 qty) (.int .i64 0) (.int .i64 undos) HD2.out.res)
    have HGf : Hid (w.grownBy (setOp u2 w.heap.size (.int .i64 dev) (.int .i64 seq) (.int .i64 stamp) (.int .i64 2) (.string t) (.int .i64 qty) (.int .i64 0) (.int .i64 undos)) (some g)) := setOp_grown (.int .i64 dev) (.int .i64 seq) (.int .i64 stamp) (.int .i64 2) (.string t) (.int .i64 qty) (.int .i64 0) (.int .i64 undos) HD2.out.gr
    have HRf := Lib.hid (HD2.out.rd.kept fun k hk => setOp_other (.int .i64 dev) (.int .i64 seq) (.int .i64 stamp) (.int .i64 2) (.string t) (.int .i64 qty) (.int .i64 0) (.int .i64 undos) (show k ≠ w.heap.size by omega))
    clear c0 c1 c2 c3 c4 c5 c6 c7 e0 e1 e2 e3 e4 e5 e6 e7 f0 f1 f2 f3 f4 f5 f6 f7
    change bodyPost _ _ _ _ _ (setOp u2 w.heap.size (.int .i64 dev) (.int .i64 seq) (.int .i64 stamp) (.int .i64 2) (.string t) (.int .i64 qty) (.int .i64 0) (.int .i64 undos))
    generalize setOp u2 w.heap.size (.int .i64 dev) (.int .i64 seq) (.int .i64 stamp) (.int .i64 2) (.string t) (.int .i64 qty) (.int .i64 0) (.int .i64 undos) = wf at HX HGf HRf ⊢
    obtain ⟨d0, d1, d2, d3, d4, d5, d6, d7⟩ := op_cells HX.out
    exact bodyPost_ret (v := .agg #[.int .i64 dev, .int .i64 seq, .int .i64 stamp, .int .i64 2, .string t, .int .i64 qty, .int .i64 0, .int .i64 undos]) (by simp [results, Tryd.results17, go_sem, d0, d1, d2, d3, d4, d5, d6, d7]) rfl ⟨_, _, _, _, _, _, _, _, ht, rfl, HGf.out, HRf.out⟩
  · clear hv3
    have HD0 : Hid (OpD w u0 B g a len cap bo #[.int .i64 dev, .int .i64 seq, .int .i64 stamp, .int .i64 3, .string t, .int .i64 0, .int .i64 0, .int .i64 undos]) := HD.out
    clear HD
    obtain ⟨c0, c1, c2, c3, c4, c5, c6, c7⟩ := op_cells HD0.out.opr
    obtain ⟨f0, f1, f2, f3, f4, f5, f6, f7⟩ := op_frozen HD0.out.opr
    go_wp2_with fail
    refine (belowI u0 B g a len cap HD0.out.rd 3 (by omega) (by omega)).mono ?_
    rintro e y0 ⟨l0, hl0, rfl, hg, hr⟩
    clear c0 c1 c2 c3 c4 c5 c6 c7 f0 f1 f2 f3 f4 f5 f6 f7
    have HDy := Lib.hid (HD0.out.next hlt hg hr)
    clear hg hr HD0
    obtain ⟨c0, c1, c2, c3, c4, c5, c6, c7⟩ := op_cells HDy.out.opr
    obtain ⟨f0, f1, f2, f3, f4, f5, f6, f7⟩ := op_frozen HDy.out.opr
    have HD1 : Hid (OpD w (y0.setCell ⟨bo, 6, none⟩ (.int .i64 (2 + 2 * (l0 : Int)))) B g a len cap bo #[.int .i64 dev, .int .i64 seq, .int .i64 stamp, .int .i64 3, .string t, .int .i64 0, .int .i64 (2 + 2 * (l0 : Int)), .int .i64 undos]) := HDy.out.put hB hlt 6 _
    have hl0' : l0 < 3 := hl0
    clear hl0
    go_wp2_with fail
    generalize y0.setCell ⟨bo, 6, none⟩ (.int .i64 (2 + 2 * (l0 : Int))) = u1 at HD1 ⊢
    clear HDy
    clear c0 c1 c2 c3 c4 c5 c6 c7 f0 f1 f2 f3 f4 f5 f6 f7
    obtain ⟨c0, c1, c2, c3, c4, c5, c6, c7⟩ := op_cells HD1.out.opr
    obtain ⟨f0, f1, f2, f3, f4, f5, f6, f7⟩ := op_frozen HD1.out.opr
    refine (belowI u1 B g a len cap HD1.out.rd 40 (by omega) (by omega)).mono ?_
    rintro e u2 ⟨z, hz, rfl, hg, hr⟩
    clear c0 c1 c2 c3 c4 c5 c6 c7 f0 f1 f2 f3 f4 f5 f6 f7
    have HD2 := Lib.hid (HD1.out.next hlt hg hr)
    clear hg hr HD1
    generalize (2 + 2 * (l0 : Int)) = level at HD2 ⊢
    have hz' : z < 40 := hz
    clear hz
    by_cases z37 : z = 37
    · subst z37
      obtain ⟨c0, c1, c2, c3, c4, c5, c6, c7⟩ := op_cells HD2.out.opr
      obtain ⟨f0, f1, f2, f3, f4, f5, f6, f7⟩ := op_frozen HD2.out.opr
      go_wp2_with fail
      refine (rdOff u2 B g a len cap HD2.out.rd 1 999 (by omega) (by omega) (by omega)).mono ?_
      rintro e y2 ⟨x5, rfl, hg, hr⟩
      clear c0 c1 c2 c3 c4 c5 c6 c7 f0 f1 f2 f3 f4 f5 f6 f7
      have HDy := Lib.hid (HD2.out.next hlt hg hr)
      clear hg hr HD2
      obtain ⟨c0, c1, c2, c3, c4, c5, c6, c7⟩ := op_cells HDy.out.opr
      obtain ⟨f0, f1, f2, f3, f4, f5, f6, f7⟩ := op_frozen HDy.out.opr
      have HD3 : Hid (OpD w (y2.setCell ⟨bo, 5, none⟩ (.int .i64 x5)) B g a len cap bo #[.int .i64 dev, .int .i64 seq, .int .i64 stamp, .int .i64 3, .string t, .int .i64 x5, .int .i64 level, .int .i64 undos]) := HDy.out.put hB hlt 5 _
      go_upto_region 17 with fail
      generalize y2.setCell ⟨bo, 5, none⟩ (.int .i64 x5) = u3 at HD3 ⊢
      clear HDy
      clear c0 c1 c2 c3 c4 c5 c6 c7 f0 f1 f2 f3 f4 f5 f6 f7
      obtain ⟨c0, c1, c2, c3, c4, c5, c6, c7⟩ := op_cells HD3.out.opr
      obtain ⟨e0, e1, e2, e3, e4, e5, e6, e7⟩ := op_cells HD3.out.res
      obtain ⟨f0, f1, f2, f3, f4, f5, f6, f7⟩ := op_frozen HD3.out.res
      go_wp2
      have HX := Lib.hid (setOp_same (.int .i64 dev) (.int .i64 seq) (.int .i64 stamp) (.int .i64 3) (.string t) (.int .i64 x5) (.int .i64 level) (.int .i64 undos) HD3.out.res)
      have HGf : Hid (w.grownBy (setOp u3 w.heap.size (.int .i64 dev) (.int .i64 seq) (.int .i64 stamp) (.int .i64 3) (.string t) (.int .i64 x5) (.int .i64 level) (.int .i64 undos)) (some g)) := setOp_grown (.int .i64 dev) (.int .i64 seq) (.int .i64 stamp) (.int .i64 3) (.string t) (.int .i64 x5) (.int .i64 level) (.int .i64 undos) HD3.out.gr
      have HRf := Lib.hid (HD3.out.rd.kept fun k hk => setOp_other (.int .i64 dev) (.int .i64 seq) (.int .i64 stamp) (.int .i64 3) (.string t) (.int .i64 x5) (.int .i64 level) (.int .i64 undos) (show k ≠ w.heap.size by omega))
      clear c0 c1 c2 c3 c4 c5 c6 c7 e0 e1 e2 e3 e4 e5 e6 e7 f0 f1 f2 f3 f4 f5 f6 f7
      change bodyPost _ _ _ _ _ (setOp u3 w.heap.size (.int .i64 dev) (.int .i64 seq) (.int .i64 stamp) (.int .i64 3) (.string t) (.int .i64 x5) (.int .i64 level) (.int .i64 undos))
      generalize setOp u3 w.heap.size (.int .i64 dev) (.int .i64 seq) (.int .i64 stamp) (.int .i64 3) (.string t) (.int .i64 x5) (.int .i64 level) (.int .i64 undos) = wf at HX HGf HRf ⊢
      obtain ⟨d0, d1, d2, d3, d4, d5, d6, d7⟩ := op_cells HX.out
      exact bodyPost_ret (v := .agg #[.int .i64 dev, .int .i64 seq, .int .i64 stamp, .int .i64 3, .string t, .int .i64 x5, .int .i64 level, .int .i64 undos]) (by simp [results, Tryd.results17, go_sem, d0, d1, d2, d3, d4, d5, d6, d7]) rfl ⟨_, _, _, _, _, _, _, _, ht, rfl, HGf.out, HRf.out⟩
    have n37 : ((z : Int) == 37) = false := by rw [beq_eq_false_iff_ne]; omega
    by_cases z38 : z = 38
    · subst z38
      obtain ⟨c0, c1, c2, c3, c4, c5, c6, c7⟩ := op_cells HD2.out.opr
      obtain ⟨f0, f1, f2, f3, f4, f5, f6, f7⟩ := op_frozen HD2.out.opr
      go_wp2_with fail
      refine (rdOff u2 B g a len cap HD2.out.rd 1 100 (by omega) (by omega) (by omega)).mono ?_
      rintro e y2 ⟨x6, rfl, hg, hr⟩
      clear c0 c1 c2 c3 c4 c5 c6 c7 f0 f1 f2 f3 f4 f5 f6 f7
      have HDy := Lib.hid (HD2.out.next hlt hg hr)
      clear hg hr HD2
      obtain ⟨c0, c1, c2, c3, c4, c5, c6, c7⟩ := op_cells HDy.out.opr
      obtain ⟨f0, f1, f2, f3, f4, f5, f6, f7⟩ := op_frozen HDy.out.opr
      have HD3 : Hid (OpD w (y2.setCell ⟨bo, 6, none⟩ (.int .i64 x6)) B g a len cap bo #[.int .i64 dev, .int .i64 seq, .int .i64 stamp, .int .i64 3, .string t, .int .i64 0, .int .i64 x6, .int .i64 undos]) := HDy.out.put hB hlt 6 _
      go_upto_region 17 with fail
      generalize y2.setCell ⟨bo, 6, none⟩ (.int .i64 x6) = u3 at HD3 ⊢
      clear HDy
      clear c0 c1 c2 c3 c4 c5 c6 c7 f0 f1 f2 f3 f4 f5 f6 f7
      obtain ⟨c0, c1, c2, c3, c4, c5, c6, c7⟩ := op_cells HD3.out.opr
      obtain ⟨e0, e1, e2, e3, e4, e5, e6, e7⟩ := op_cells HD3.out.res
      obtain ⟨f0, f1, f2, f3, f4, f5, f6, f7⟩ := op_frozen HD3.out.res
      go_wp2
      have HX := Lib.hid (setOp_same (.int .i64 dev) (.int .i64 seq) (.int .i64 stamp) (.int .i64 3) (.string t) (.int .i64 0) (.int .i64 x6) (.int .i64 undos) HD3.out.res)
      have HGf : Hid (w.grownBy (setOp u3 w.heap.size (.int .i64 dev) (.int .i64 seq) (.int .i64 stamp) (.int .i64 3) (.string t) (.int .i64 0) (.int .i64 x6) (.int .i64 undos)) (some g)) := setOp_grown (.int .i64 dev) (.int .i64 seq) (.int .i64 stamp) (.int .i64 3) (.string t) (.int .i64 0) (.int .i64 x6) (.int .i64 undos) HD3.out.gr
      have HRf := Lib.hid (HD3.out.rd.kept fun k hk => setOp_other (.int .i64 dev) (.int .i64 seq) (.int .i64 stamp) (.int .i64 3) (.string t) (.int .i64 0) (.int .i64 x6) (.int .i64 undos) (show k ≠ w.heap.size by omega))
      clear c0 c1 c2 c3 c4 c5 c6 c7 e0 e1 e2 e3 e4 e5 e6 e7 f0 f1 f2 f3 f4 f5 f6 f7
      change bodyPost _ _ _ _ _ (setOp u3 w.heap.size (.int .i64 dev) (.int .i64 seq) (.int .i64 stamp) (.int .i64 3) (.string t) (.int .i64 0) (.int .i64 x6) (.int .i64 undos))
      generalize setOp u3 w.heap.size (.int .i64 dev) (.int .i64 seq) (.int .i64 stamp) (.int .i64 3) (.string t) (.int .i64 0) (.int .i64 x6) (.int .i64 undos) = wf at HX HGf HRf ⊢
      obtain ⟨d0, d1, d2, d3, d4, d5, d6, d7⟩ := op_cells HX.out
      exact bodyPost_ret (v := .agg #[.int .i64 dev, .int .i64 seq, .int .i64 stamp, .int .i64 3, .string t, .int .i64 0, .int .i64 x6, .int .i64 undos]) (by simp [results, Tryd.results17, go_sem, d0, d1, d2, d3, d4, d5, d6, d7]) rfl ⟨_, _, _, _, _, _, _, _, ht, rfl, HGf.out, HRf.out⟩
    have n38 : ((z : Int) == 38) = false := by rw [beq_eq_false_iff_ne]; omega
    by_cases z39 : z = 39
    · subst z39
      obtain ⟨c0, c1, c2, c3, c4, c5, c6, c7⟩ := op_cells HD2.out.opr
      obtain ⟨f0, f1, f2, f3, f4, f5, f6, f7⟩ := op_frozen HD2.out.opr
      go_wp2_with fail
      refine (rdOff u2 B g a len cap HD2.out.rd 0 50 (by omega) (by omega) (by omega)).mono ?_
      rintro e y2 ⟨x7, rfl, hg, hr⟩
      clear c0 c1 c2 c3 c4 c5 c6 c7 f0 f1 f2 f3 f4 f5 f6 f7
      have HDy := Lib.hid (HD2.out.next hlt hg hr)
      clear hg hr HD2
      obtain ⟨c0, c1, c2, c3, c4, c5, c6, c7⟩ := op_cells HDy.out.opr
      obtain ⟨f0, f1, f2, f3, f4, f5, f6, f7⟩ := op_frozen HDy.out.opr
      have HD3 : Hid (OpD w (y2.setCell ⟨bo, 7, none⟩ (.int .i64 x7)) B g a len cap bo #[.int .i64 dev, .int .i64 seq, .int .i64 stamp, .int .i64 3, .string t, .int .i64 0, .int .i64 level, .int .i64 x7]) := HDy.out.put hB hlt 7 _
      go_upto_region 17 with fail
      generalize y2.setCell ⟨bo, 7, none⟩ (.int .i64 x7) = u3 at HD3 ⊢
      clear HDy
      clear c0 c1 c2 c3 c4 c5 c6 c7 f0 f1 f2 f3 f4 f5 f6 f7
      obtain ⟨c0, c1, c2, c3, c4, c5, c6, c7⟩ := op_cells HD3.out.opr
      obtain ⟨e0, e1, e2, e3, e4, e5, e6, e7⟩ := op_cells HD3.out.res
      obtain ⟨f0, f1, f2, f3, f4, f5, f6, f7⟩ := op_frozen HD3.out.res
      go_wp2
      have HX := Lib.hid (setOp_same (.int .i64 dev) (.int .i64 seq) (.int .i64 stamp) (.int .i64 3) (.string t) (.int .i64 0) (.int .i64 level) (.int .i64 x7) HD3.out.res)
      have HGf : Hid (w.grownBy (setOp u3 w.heap.size (.int .i64 dev) (.int .i64 seq) (.int .i64 stamp) (.int .i64 3) (.string t) (.int .i64 0) (.int .i64 level) (.int .i64 x7)) (some g)) := setOp_grown (.int .i64 dev) (.int .i64 seq) (.int .i64 stamp) (.int .i64 3) (.string t) (.int .i64 0) (.int .i64 level) (.int .i64 x7) HD3.out.gr
      have HRf := Lib.hid (HD3.out.rd.kept fun k hk => setOp_other (.int .i64 dev) (.int .i64 seq) (.int .i64 stamp) (.int .i64 3) (.string t) (.int .i64 0) (.int .i64 level) (.int .i64 x7) (show k ≠ w.heap.size by omega))
      clear c0 c1 c2 c3 c4 c5 c6 c7 e0 e1 e2 e3 e4 e5 e6 e7 f0 f1 f2 f3 f4 f5 f6 f7
      change bodyPost _ _ _ _ _ (setOp u3 w.heap.size (.int .i64 dev) (.int .i64 seq) (.int .i64 stamp) (.int .i64 3) (.string t) (.int .i64 0) (.int .i64 level) (.int .i64 x7))
      generalize setOp u3 w.heap.size (.int .i64 dev) (.int .i64 seq) (.int .i64 stamp) (.int .i64 3) (.string t) (.int .i64 0) (.int .i64 level) (.int .i64 x7) = wf at HX HGf HRf ⊢
      obtain ⟨d0, d1, d2, d3, d4, d5, d6, d7⟩ := op_cells HX.out
      exact bodyPost_ret (v := .agg #[.int .i64 dev, .int .i64 seq, .int .i64 stamp, .int .i64 3, .string t, .int .i64 0, .int .i64 level, .int .i64 x7]) (by simp [results, Tryd.results17, go_sem, d0, d1, d2, d3, d4, d5, d6, d7]) rfl ⟨_, _, _, _, _, _, _, _, ht, rfl, HGf.out, HRf.out⟩
    have n39 : ((z : Int) == 39) = false := by rw [beq_eq_false_iff_ne]; omega
    clear z37 z38 z39
    go_upto_region 17 with fail
    obtain ⟨c0, c1, c2, c3, c4, c5, c6, c7⟩ := op_cells HD2.out.opr
    obtain ⟨e0, e1, e2, e3, e4, e5, e6, e7⟩ := op_cells HD2.out.res
    obtain ⟨f0, f1, f2, f3, f4, f5, f6, f7⟩ := op_frozen HD2.out.res
    go_wp2
    have HX := Lib.hid (setOp_same (.int .i64 dev) (.int .i64 seq) (.int .i64 stamp) (.int .i64 3) (.string t) (.int .i64 0) (.int .i64 level) (.int .i64 undos) HD2.out.res)
    have HGf : Hid (w.grownBy (setOp u2 w.heap.size (.int .i64 dev) (.int .i64 seq) (.int .i64 stamp) (.int .i64 3) (.string t) (.int .i64 0) (.int .i64 level) (.int .i64 undos)) (some g)) := setOp_grown (.int .i64 dev) (.int .i64 seq) (.int .i64 stamp) (.int .i64 3) (.string t) (.int .i64 0) (.int .i64 level) (.int .i64 undos) HD2.out.gr
    have HRf := Lib.hid (HD2.out.rd.kept fun k hk => setOp_other (.int .i64 dev) (.int .i64 seq) (.int .i64 stamp) (.int .i64 3) (.string t) (.int .i64 0) (.int .i64 level) (.int .i64 undos) (show k ≠ w.heap.size by omega))
    clear c0 c1 c2 c3 c4 c5 c6 c7 e0 e1 e2 e3 e4 e5 e6 e7 f0 f1 f2 f3 f4 f5 f6 f7
    change bodyPost _ _ _ _ _ (setOp u2 w.heap.size (.int .i64 dev) (.int .i64 seq) (.int .i64 stamp) (.int .i64 3) (.string t) (.int .i64 0) (.int .i64 level) (.int .i64 undos))
    generalize setOp u2 w.heap.size (.int .i64 dev) (.int .i64 seq) (.int .i64 stamp) (.int .i64 3) (.string t) (.int .i64 0) (.int .i64 level) (.int .i64 undos) = wf at HX HGf HRf ⊢
    obtain ⟨d0, d1, d2, d3, d4, d5, d6, d7⟩ := op_cells HX.out
    exact bodyPost_ret (v := .agg #[.int .i64 dev, .int .i64 seq, .int .i64 stamp, .int .i64 3, .string t, .int .i64 0, .int .i64 level, .int .i64 undos]) (by simp [results, Tryd.results17, go_sem, d0, d1, d2, d3, d4, d5, d6, d7]) rfl ⟨_, _, _, _, _, _, _, _, ht, rfl, HGf.out, HRf.out⟩
  · clear hv3
    have HD0 : Hid (OpD w u0 B g a len cap bo #[.int .i64 dev, .int .i64 seq, .int .i64 stamp, .int .i64 4, .string t, .int .i64 0, .int .i64 0, .int .i64 undos]) := HD.out
    clear HD
    obtain ⟨c0, c1, c2, c3, c4, c5, c6, c7⟩ := op_cells HD0.out.opr
    obtain ⟨f0, f1, f2, f3, f4, f5, f6, f7⟩ := op_frozen HD0.out.opr
    go_wp2_with fail
    refine (belowI u0 B g a len cap HD0.out.rd 40 (by omega) (by omega)).mono ?_
    rintro e u1 ⟨z, hz, rfl, hg, hr⟩
    clear c0 c1 c2 c3 c4 c5 c6 c7 f0 f1 f2 f3 f4 f5 f6 f7
    have HD1 := Lib.hid (HD0.out.next hlt hg hr)
    clear hg hr HD0
    have hz' : z < 40 := hz
    clear hz
    by_cases z37 : z = 37
    · subst z37
      obtain ⟨c0, c1, c2, c3, c4, c5, c6, c7⟩ := op_cells HD1.out.opr
      obtain ⟨f0, f1, f2, f3, f4, f5, f6, f7⟩ := op_frozen HD1.out.opr
      go_wp2_with fail
      refine (rdOff u1 B g a len cap HD1.out.rd 1 999 (by omega) (by omega) (by omega)).mono ?_
      rintro e y1 ⟨x5, rfl, hg, hr⟩
      clear c0 c1 c2 c3 c4 c5 c6 c7 f0 f1 f2 f3 f4 f5 f6 f7
      have HDy := Lib.hid (HD1.out.next hlt hg hr)
      clear hg hr HD1
      obtain ⟨c0, c1, c2, c3, c4, c5, c6, c7⟩ := op_cells HDy.out.opr
      obtain ⟨f0, f1, f2, f3, f4, f5, f6, f7⟩ := op_frozen HDy.out.opr
      have HD2 : Hid (OpD w (y1.setCell ⟨bo, 5, none⟩ (.int .i64 x5)) B g a len cap bo #[.int .i64 dev, .int .i64 seq, .int .i64 stamp, .int .i64 4, .string t, .int .i64 x5, .int .i64 0, .int .i64 undos]) := HDy.out.put hB hlt 5 _
      go_upto_region 17 with fail
      generalize y1.setCell ⟨bo, 5, none⟩ (.int .i64 x5) = u2 at HD2 ⊢
      clear HDy
      clear c0 c1 c2 c3 c4 c5 c6 c7 f0 f1 f2 f3 f4 f5 f6 f7
      obtain ⟨c0, c1, c2, c3, c4, c5, c6, c7⟩ := op_cells HD2.out.opr
      obtain ⟨e0, e1, e2, e3, e4, e5, e6, e7⟩ := op_cells HD2.out.res
      obtain ⟨f0, f1, f2, f3, f4, f5, f6, f7⟩ := op_frozen HD2.out.res
      go_wp2
      have HX := Lib.hid (setOp_same (.int .i64 dev) (.int .i64 seq) (.int .i64 stamp) (.int .i64 4) (.string t) (.int .i64 x5) (.int .i64 0) (.int .i64 undos) HD2.out.res)
      have HGf : Hid (w.grownBy (setOp u2 w.heap.size (.int .i64 dev) (.int .i64 seq) (.int .i64 stamp) (.int .i64 4) (.string t) (.int .i64 x5) (.int .i64 0) (.int .i64 undos)) (some g)) := setOp_grown (.int .i64 dev) (.int .i64 seq) (.int .i64 stamp) (.int .i64 4) (.string t) (.int .i64 x5) (.int .i64 0) (.int .i64 undos) HD2.out.gr
      have HRf := Lib.hid (HD2.out.rd.kept fun k hk => setOp_other (.int .i64 dev) (.int .i64 seq) (.int .i64 stamp) (.int .i64 4) (.string t) (.int .i64 x5) (.int .i64 0) (.int .i64 undos) (show k ≠ w.heap.size by omega))
      clear c0 c1 c2 c3 c4 c5 c6 c7 e0 e1 e2 e3 e4 e5 e6 e7 f0 f1 f2 f3 f4 f5 f6 f7
      change bodyPost _ _ _ _ _ (setOp u2 w.heap.size (.int .i64 dev) (.int .i64 seq) (.int .i64 stamp) (.int .i64 4) (.string t) (.int .i64 x5) (.int .i64 0) (.int .i64 undos))
      generalize setOp u2 w.heap.size (.int .i64 dev) (.int .i64 seq) (.int .i64 stamp) (.int .i64 4) (.string t) (.int .i64 x5) (.int .i64 0) (.int .i64 undos) = wf at HX HGf HRf ⊢
      obtain ⟨d0, d1, d2, d3, d4, d5, d6, d7⟩ := op_cells HX.out
      exact bodyPost_ret (v := .agg #[.int .i64 dev, .int .i64 seq, .int .i64 stamp, .int .i64 4, .string t, .int .i64 x5, .int .i64 0, .int .i64 undos]) (by simp [results, Tryd.results17, go_sem, d0, d1, d2, d3, d4, d5, d6, d7]) rfl ⟨_, _, _, _, _, _, _, _, ht, rfl, HGf.out, HRf.out⟩
    have n37 : ((z : Int) == 37) = false := by rw [beq_eq_false_iff_ne]; omega
    by_cases z38 : z = 38
    · subst z38
      obtain ⟨c0, c1, c2, c3, c4, c5, c6, c7⟩ := op_cells HD1.out.opr
      obtain ⟨f0, f1, f2, f3, f4, f5, f6, f7⟩ := op_frozen HD1.out.opr
      go_wp2_with fail
      refine (rdOff u1 B g a len cap HD1.out.rd 1 100 (by omega) (by omega) (by omega)).mono ?_
      rintro e y1 ⟨x6, rfl, hg, hr⟩
      clear c0 c1 c2 c3 c4 c5 c6 c7 f0 f1 f2 f3 f4 f5 f6 f7
      have HDy := Lib.hid (HD1.out.next hlt hg hr)
      clear hg hr HD1
      obtain ⟨c0, c1, c2, c3, c4, c5, c6, c7⟩ := op_cells HDy.out.opr
      obtain ⟨f0, f1, f2, f3, f4, f5, f6, f7⟩ := op_frozen HDy.out.opr
      have HD2 : Hid (OpD w (y1.setCell ⟨bo, 6, none⟩ (.int .i64 x6)) B g a len cap bo #[.int .i64 dev, .int .i64 seq, .int .i64 stamp, .int .i64 4, .string t, .int .i64 0, .int .i64 x6, .int .i64 undos]) := HDy.out.put hB hlt 6 _
      go_upto_region 17 with fail
      generalize y1.setCell ⟨bo, 6, none⟩ (.int .i64 x6) = u2 at HD2 ⊢
      clear HDy
      clear c0 c1 c2 c3 c4 c5 c6 c7 f0 f1 f2 f3 f4 f5 f6 f7
      obtain ⟨c0, c1, c2, c3, c4, c5, c6, c7⟩ := op_cells HD2.out.opr
      obtain ⟨e0, e1, e2, e3, e4, e5, e6, e7⟩ := op_cells HD2.out.res
      obtain ⟨f0, f1, f2, f3, f4, f5, f6, f7⟩ := op_frozen HD2.out.res
      go_wp2
      have HX := Lib.hid (setOp_same (.int .i64 dev) (.int .i64 seq) (.int .i64 stamp) (.int .i64 4) (.string t) (.int .i64 0) (.int .i64 x6) (.int .i64 undos) HD2.out.res)
      have HGf : Hid (w.grownBy (setOp u2 w.heap.size (.int .i64 dev) (.int .i64 seq) (.int .i64 stamp) (.int .i64 4) (.string t) (.int .i64 0) (.int .i64 x6) (.int .i64 undos)) (some g)) := setOp_grown (.int .i64 dev) (.int .i64 seq) (.int .i64 stamp) (.int .i64 4) (.string t) (.int .i64 0) (.int .i64 x6) (.int .i64 undos) HD2.out.gr
      have HRf := Lib.hid (HD2.out.rd.kept fun k hk => setOp_other (.int .i64 dev) (.int .i64 seq) (.int .i64 stamp) (.int .i64 4) (.string t) (.int .i64 0) (.int .i64 x6) (.int .i64 undos) (show k ≠ w.heap.size by omega))
      clear c0 c1 c2 c3 c4 c5 c6 c7 e0 e1 e2 e3 e4 e5 e6 e7 f0 f1 f2 f3 f4 f5 f6 f7
      change bodyPost _ _ _ _ _ (setOp u2 w.heap.size (.int .i64 dev) (.int .i64 seq) (.int .i64 stamp) (.int .i64 4) (.string t) (.int .i64 0) (.int .i64 x6) (.int .i64 undos))
      generalize setOp u2 w.heap.size (.int .i64 dev) (.int .i64 seq) (.int .i64 stamp) (.int .i64 4) (.string t) (.int .i64 0) (.int .i64 x6) (.int .i64 undos) = wf at HX HGf HRf ⊢
      obtain ⟨d0, d1, d2, d3, d4, d5, d6, d7⟩ := op_cells HX.out
      exact bodyPost_ret (v := .agg #[.int .i64 dev, .int .i64 seq, .int .i64 stamp, .int .i64 4, .string t, .int .i64 0, .int .i64 x6, .int .i64 undos]) (by simp [results, Tryd.results17, go_sem, d0, d1, d2, d3, d4, d5, d6, d7]) rfl ⟨_, _, _, _, _, _, _, _, ht, rfl, HGf.out, HRf.out⟩
    have n38 : ((z : Int) == 38) = false := by rw [beq_eq_false_iff_ne]; omega
    by_cases z39 : z = 39
    · subst z39
      obtain ⟨c0, c1, c2, c3, c4, c5, c6, c7⟩ := op_cells HD1.out.opr
      obtain ⟨f0, f1, f2, f3, f4, f5, f6, f7⟩ := op_frozen HD1.out.opr
      go_wp2_with fail
      refine (rdOff u1 B g a len cap HD1.out.rd 0 50 (by omega) (by omega) (by omega)).mono ?_
      rintro e y1 ⟨x7, rfl, hg, hr⟩
      clear c0 c1 c2 c3 c4 c5 c6 c7 f0 f1 f2 f3 f4 f5 f6 f7
      have HDy := Lib.hid (HD1.out.next hlt hg hr)
      clear hg hr HD1
      obtain ⟨c0, c1, c2, c3, c4, c5, c6, c7⟩ := op_cells HDy.out.opr
      obtain ⟨f0, f1, f2, f3, f4, f5, f6, f7⟩ := op_frozen HDy.out.opr
      have HD2 : Hid (OpD w (y1.setCell ⟨bo, 7, none⟩ (.int .i64 x7)) B g a len cap bo #[.int .i64 dev, .int .i64 seq, .int .i64 stamp, .int .i64 4, .string t, .int .i64 0, .int .i64 0, .int .i64 x7]) := HDy.out.put hB hlt 7 _
      go_upto_region 17 with fail
      generalize y1.setCell ⟨bo, 7, none⟩ (.int .i64 x7) = u2 at HD2 ⊢
      clear HDy
      clear c0 c1 c2 c3 c4 c5 c6 c7 f0 f1 f2 f3 f4 f5 f6 f7
      obtain ⟨c0, c1, c2, c3, c4, c5, c6, c7⟩ := op_cells HD2.out.opr
      obtain ⟨e0, e1, e2, e3, e4, e5, e6, e7⟩ := op_cells HD2.out.res
      obtain ⟨f0, f1, f2, f3, f4, f5, f6, f7⟩ := op_frozen HD2.out.res
      go_wp2
      have HX := Lib.hid (setOp_same (.int .i64 dev) (.int .i64 seq) (.int .i64 stamp) (.int .i64 4) (.string t) (.int .i64 0) (.int .i64 0) (.int .i64 x7) HD2.out.res)
      have HGf : Hid (w.grownBy (setOp u2 w.heap.size (.int .i64 dev) (.int .i64 seq) (.int .i64 stamp) (.int .i64 4) (.string t) (.int .i64 0) (.int .i64 0) (.int .i64 x7)) (some g)) := setOp_grown (.int .i64 dev) (.int .i64 seq) (.int .i64 stamp) (.int .i64 4) (.string t) (.int .i64 0) (.int .i64 0) (.int .i64 x7) HD2.out.gr
      have HRf := Lib.hid (HD2.out.rd.kept fun k hk => setOp_other (.int .i64 dev) (.int .i64 seq) (.int .i64 stamp) (.int .i64 4) (.string t) (.int .i64 0) (.int .i64 0) (.int .i64 x7) (show k ≠ w.heap.size by omega))
      clear c0 c1 c2 c3 c4 c5 c6 c7 e0 e1 e2 e3 e4 e5 e6 e7 f0 f1 f2 f3 f4 f5 f6 f7
      change bodyPost _ _ _ _ _ (setOp u2 w.heap.size (.int .i64 dev) (.int .i64 seq) (.int .i64 stamp) (.int .i64 4) (.string t) (.int .i64 0) (.int .i64 0) (.int .i64 x7))
      generalize setOp u2 w.heap.size (.int .i64 dev) (.int .i64 seq) (.int .i64 stamp) (.int .i64 4) (.string t) (.int .i64 0) (.int .i64 0) (.int .i64 x7) = wf at HX HGf HRf ⊢
      obtain ⟨d0, d1, d2, d3, d4, d5, d6, d7⟩ := op_cells HX.out
      exact bodyPost_ret (v := .agg #[.int .i64 dev, .int .i64 seq, .int .i64 stamp, .int .i64 4, .string t, .int .i64 0, .int .i64 0, .int .i64 x7]) (by simp [results, Tryd.results17, go_sem, d0, d1, d2, d3, d4, d5, d6, d7]) rfl ⟨_, _, _, _, _, _, _, _, ht, rfl, HGf.out, HRf.out⟩
    have n39 : ((z : Int) == 39) = false := by rw [beq_eq_false_iff_ne]; omega
    clear z37 z38 z39
    go_upto_region 17 with fail
    obtain ⟨c0, c1, c2, c3, c4, c5, c6, c7⟩ := op_cells HD1.out.opr
    obtain ⟨e0, e1, e2, e3, e4, e5, e6, e7⟩ := op_cells HD1.out.res
    obtain ⟨f0, f1, f2, f3, f4, f5, f6, f7⟩ := op_frozen HD1.out.res
    go_wp2
    have HX := Lib.hid (setOp_same (.int .i64 dev) (.int .i64 seq) (.int .i64 stamp) (.int .i64 4) (.string t) (.int .i64 0) (.int .i64 0) (.int .i64 undos) HD1.out.res)
    have HGf : Hid (w.grownBy (setOp u1 w.heap.size (.int .i64 dev) (.int .i64 seq) (.int .i64 stamp) (.int .i64 4) (.string t) (.int .i64 0) (.int .i64 0) (.int .i64 undos)) (some g)) := setOp_grown (.int .i64 dev) (.int .i64 seq) (.int .i64 stamp) (.int .i64 4) (.string t) (.int .i64 0) (.int .i64 0) (.int .i64 undos) HD1.out.gr
    have HRf := Lib.hid (HD1.out.rd.kept fun k hk => setOp_other (.int .i64 dev) (.int .i64 seq) (.int .i64 stamp) (.int .i64 4) (.string t) (.int .i64 0) (.int .i64 0) (.int .i64 undos) (show k ≠ w.heap.size by omega))
    clear c0 c1 c2 c3 c4 c5 c6 c7 e0 e1 e2 e3 e4 e5 e6 e7 f0 f1 f2 f3 f4 f5 f6 f7
    change bodyPost _ _ _ _ _ (setOp u1 w.heap.size (.int .i64 dev) (.int .i64 seq) (.int .i64 stamp) (.int .i64 4) (.string t) (.int .i64 0) (.int .i64 0) (.int .i64 undos))
    generalize setOp u1 w.heap.size (.int .i64 dev) (.int .i64 seq) (.int .i64 stamp) (.int .i64 4) (.string t) (.int .i64 0) (.int .i64 0) (.int .i64 undos) = wf at HX HGf HRf ⊢
    obtain ⟨d0, d1, d2, d3, d4, d5, d6, d7⟩ := op_cells HX.out
    exact bodyPost_ret (v := .agg #[.int .i64 dev, .int .i64 seq, .int .i64 stamp, .int .i64 4, .string t, .int .i64 0, .int .i64 0, .int .i64 undos]) (by simp [results, Tryd.results17, go_sem, d0, d1, d2, d3, d4, d5, d6, d7]) rfl ⟨_, _, _, _, _, _, _, _, ht, rfl, HGf.out, HRf.out⟩
  · clear hv3
    have HD0 : Hid (OpD w u0 B g a len cap bo #[.int .i64 dev, .int .i64 seq, .int .i64 stamp, .int .i64 5, .string t, .int .i64 0, .int .i64 0, .int .i64 undos]) := HD.out
    clear HD
    obtain ⟨c0, c1, c2, c3, c4, c5, c6, c7⟩ := op_cells HD0.out.opr
    obtain ⟨f0, f1, f2, f3, f4, f5, f6, f7⟩ := op_frozen HD0.out.opr
    go_wp2_with fail
    refine (belowI u0 B g a len cap HD0.out.rd 40 (by omega) (by omega)).mono ?_
    rintro e u1 ⟨z, hz, rfl, hg, hr⟩
    clear c0 c1 c2 c3 c4 c5 c6 c7 f0 f1 f2 f3 f4 f5 f6 f7
    have HD1 := Lib.hid (HD0.out.next hlt hg hr)
    clear hg hr HD0
    have hz' : z < 40 := hz
    clear hz
    by_cases z37 : z = 37
    · subst z37
      obtain ⟨c0, c1, c2, c3, c4, c5, c6, c7⟩ := op_cells HD1.out.opr
      obtain ⟨f0, f1, f2, f3, f4, f5, f6, f7⟩ := op_frozen HD1.out.opr
      go_wp2_with fail
      refine (rdOff u1 B g a len cap HD1.out.rd 1 999 (by omega) (by omega) (by omega)).mono ?_
      rintro e y1 ⟨x5, rfl, hg, hr⟩
      clear c0 c1 c2 c3 c4 c5 c6 c7 f0 f1 f2 f3 f4 f5 f6 f7
      have HDy := Lib.hid (HD1.out.next hlt hg hr)
      clear hg hr HD1
      obtain ⟨c0, c1, c2, c3, c4, c5, c6, c7⟩ := op_cells HDy.out.opr
      obtain ⟨f0, f1, f2, f3, f4, f5, f6, f7⟩ := op_frozen HDy.out.opr
      have HD2 : Hid (OpD w (y1.setCell ⟨bo, 5, none⟩ (.int .i64 x5)) B g a len cap bo #[.int .i64 dev, .int .i64 seq, .int .i64 stamp, .int .i64 5, .string t, .int .i64 x5, .int .i64 0, .int .i64 undos]) := HDy.out.put hB hlt 5 _
      go_upto_region 17 with fail
      generalize y1.setCell ⟨bo, 5, none⟩ (.int .i64 x5) = u2 at HD2 ⊢
      clear HDy
      clear c0 c1 c2 c3 c4 c5 c6 c7 f0 f1 f2 f3 f4 f5 f6 f7
      obtain ⟨c0, c1, c2, c3, c4, c5, c6, c7⟩ := op_cells HD2.out.opr
      obtain ⟨e0, e1, e2, e3, e4, e5, e6, e7⟩ := op_cells HD2.out.res
      obtain ⟨f0, f1, f2, f3, f4, f5, f6, f7⟩ := op_frozen HD2.out.res
      go_wp2
      have HX := Lib.hid (setOp_same (.int .i64 dev) (.int .i64 seq) (.int .i64 stamp) (.int .i64 5) (.string t) (.int .i64 x5) (.int .i64 0) (.int .i64 undos) HD2.out.res)
      have HGf : Hid (w.grownBy (setOp u2 w.heap.size (.int .i64 dev) (.int .i64 seq) (.int .i64 stamp) (.int .i64 5) (.string t) (.int .i64 x5) (.int .i64 0) (.int .i64 undos)) (some g)) := setOp_grown (.int .i64 dev) (.int .i64 seq) (.int .i64 stamp) (.int .i64 5) (.string t) (.int .i64 x5) (.int .i64 0) (.int .i64 undos) HD2.out.gr
      have HRf := Lib.hid (HD2.out.rd.kept fun k hk => setOp_other (.int .i64 dev) (.int .i64 seq) (.int .i64 stamp) (.int .i64 5) (.string t) (.int .i64 x5) (.int .i64 0) (.int .i64 undos) (show k ≠ w.heap.size by omega))
      clear c0 c1 c2 c3 c4 c5 c6 c7 e0 e1 e2 e3 e4 e5 e6 e7 f0 f1 f2 f3 f4 f5 f6 f7
      change bodyPost _ _ _ _ _ (setOp u2 w.heap.size (.int .i64 dev) (.int .i64 seq) (.int .i64 stamp) (.int .i64 5) (.string t) (.int .i64 x5) (.int .i64 0) (.int .i64 undos))
      generalize setOp u2 w.heap.size (.int .i64 dev) (.int .i64 seq) (.int .i64 stamp) (.int .i64 5) (.string t) (.int .i64 x5) (.int .i64 0) (.int .i64 undos) = wf at HX HGf HRf ⊢
      obtain ⟨d0, d1, d2, d3, d4, d5, d6, d7⟩ := op_cells HX.out
      exact bodyPost_ret (v := .agg #[.int .i64 dev, .int .i64 seq, .int .i64 stamp, .int .i64 5, .string t, .int .i64 x5, .int .i64 0, .int .i64 undos]) (by simp [results, Tryd.results17, go_sem, d0, d1, d2, d3, d4, d5, d6, d7]) rfl ⟨_, _, _, _, _, _, _, _, ht, rfl, HGf.out, HRf.out⟩
    have n37 : ((z : Int) == 37) = false := by rw [beq_eq_false_iff_ne]; omega
    by_cases z38 : z = 38
    · subst z38
      obtain ⟨c0, c1, c2, c3, c4, c5, c6, c7⟩ := op_cells HD1.out.opr
      obtain ⟨f0, f1, f2, f3, f4, f5, f6, f7⟩ := op_frozen HD1.out.opr
      go_wp2_with fail
      refine (rdOff u1 B g a len cap HD1.out.rd 1 100 (by omega) (by omega) (by omega)).mono ?_
      rintro e y1 ⟨x6, rfl, hg, hr⟩
      clear c0 c1 c2 c3 c4 c5 c6 c7 f0 f1 f2 f3 f4 f5 f6 f7
      have HDy := Lib.hid (HD1.out.next hlt hg hr)
      clear hg hr HD1
      obtain ⟨c0, c1, c2, c3, c4, c5, c6, c7⟩ := op_cells HDy.out.opr
      obtain ⟨f0, f1, f2, f3, f4, f5, f6, f7⟩ := op_frozen HDy.out.opr
      have HD2 : Hid (OpD w (y1.setCell ⟨bo, 6, none⟩ (.int .i64 x6)) B g a len cap bo #[.int .i64 dev, .int .i64 seq, .int .i64 stamp, .int .i64 5, .string t, .int .i64 0, .int .i64 x6, .int .i64 undos]) := HDy.out.put hB hlt 6 _
      go_upto_region 17 with fail
      generalize y1.setCell ⟨bo, 6, none⟩ (.int .i64 x6) = u2 at HD2 ⊢
      clear HDy
      clear c0 c1 c2 c3 c4 c5 c6 c7 f0 f1 f2 f3 f4 f5 f6 f7
      obtain ⟨c0, c1, c2, c3, c4, c5, c6, c7⟩ := op_cells HD2.out.opr
      obtain ⟨e0, e1, e2, e3, e4, e5, e6, e7⟩ := op_cells HD2.out.res
      obtain ⟨f0, f1, f2, f3, f4, f5, f6, f7⟩ := op_frozen HD2.out.res
      go_wp2
      have HX := Lib.hid (setOp_same (.int .i64 dev) (.int .i64 seq) (.int .i64 stamp) (.int .i64 5) (.string t) (.int .i64 0) (.int .i64 x6) (.int .i64 undos) HD2.out.res)
      have HGf : Hid (w.grownBy (setOp u2 w.heap.size (.int .i64 dev) (.int .i64 seq) (.int .i64 stamp) (.int .i64 5) (.string t) (.int .i64 0) (.int .i64 x6) (.int .i64 undos)) (some g)) := setOp_grown (.int .i64 dev) (.int .i64 seq) (.int .i64 stamp) (.int .i64 5) (.string t) (.int .i64 0) (.int .i64 x6) (.int .i64 undos) HD2.out.gr
      have HRf := Lib.hid (HD2.out.rd.kept fun k hk => setOp_other (.int .i64 dev) (.int .i64 seq) (.int .i64 stamp) (.int .i64 5) (.string t) (.int .i64 0) (.int .i64 x6) (.int .i64 undos) (show k ≠ w.heap.size by omega))
      clear c0 c1 c2 c3 c4 c5 c6 c7 e0 e1 e2 e3 e4 e5 e6 e7 f0 f1 f2 f3 f4 f5 f6 f7
      change bodyPost _ _ _ _ _ (setOp u2 w.heap.size (.int .i64 dev) (.int .i64 seq) (.int .i64 stamp) (.int .i64 5) (.string t) (.int .i64 0) (.int .i64 x6) (.int .i64 undos))
      generalize setOp u2 w.heap.size (.int .i64 dev) (.int .i64 seq) (.int .i64 stamp) (.int .i64 5) (.string t) (.int .i64 0) (.int .i64 x6) (.int .i64 undos) = wf at HX HGf HRf ⊢
      obtain ⟨d0, d1, d2, d3, d4, d5, d6, d7⟩ := op_cells HX.out
      exact bodyPost_ret (v := .agg #[.int .i64 dev, .int .i64 seq, .int .i64 stamp, .int .i64 5, .string t, .int .i64 0, .int .i64 x6, .int .i64 undos]) (by simp [results, Tryd.results17, go_sem, d0, d1, d2, d3, d4, d5, d6, d7]) rfl ⟨_, _, _, _, _, _, _, _, ht, rfl, HGf.out, HRf.out⟩
    have n38 : ((z : Int) == 38) = false := by rw [beq_eq_false_iff_ne]; omega
    by_cases z39 : z = 39
    · subst z39
      obtain ⟨c0, c1, c2, c3, c4, c5, c6, c7⟩ := op_cells HD1.out.opr
      obtain ⟨f0, f1, f2, f3, f4, f5, f6, f7⟩ := op_frozen HD1.out.opr
      go_wp2_with fail
      refine (rdOff u1 B g a len cap HD1.out.rd 0 50 (by omega) (by omega) (by omega)).mono ?_
      rintro e y1 ⟨x7, rfl, hg, hr⟩
      clear c0 c1 c2 c3 c4 c5 c6 c7 f0 f1 f2 f3 f4 f5 f6 f7
      have HDy := Lib.hid (HD1.out.next hlt hg hr)
      clear hg hr HD1
      obtain ⟨c0, c1, c2, c3, c4, c5, c6, c7⟩ := op_cells HDy.out.opr
      obtain ⟨f0, f1, f2, f3, f4, f5, f6, f7⟩ := op_frozen HDy.out.opr
      have HD2 : Hid (OpD w (y1.setCell ⟨bo, 7, none⟩ (.int .i64 x7)) B g a len cap bo #[.int .i64 dev, .int .i64 seq, .int .i64 stamp, .int .i64 5, .string t, .int .i64 0, .int .i64 0, .int .i64 x7]) := HDy.out.put hB hlt 7 _
      go_upto_region 17 with fail
      generalize y1.setCell ⟨bo, 7, none⟩ (.int .i64 x7) = u2 at HD2 ⊢
      clear HDy
      clear c0 c1 c2 c3 c4 c5 c6 c7 f0 f1 f2 f3 f4 f5 f6 f7
      obtain ⟨c0, c1, c2, c3, c4, c5, c6, c7⟩ := op_cells HD2.out.opr
      obtain ⟨e0, e1, e2, e3, e4, e5, e6, e7⟩ := op_cells HD2.out.res
      obtain ⟨f0, f1, f2, f3, f4, f5, f6, f7⟩ := op_frozen HD2.out.res
      go_wp2
      have HX := Lib.hid (setOp_same (.int .i64 dev) (.int .i64 seq) (.int .i64 stamp) (.int .i64 5) (.string t) (.int .i64 0) (.int .i64 0) (.int .i64 x7) HD2.out.res)
      have HGf : Hid (w.grownBy (setOp u2 w.heap.size (.int .i64 dev) (.int .i64 seq) (.int .i64 stamp) (.int .i64 5) (.string t) (.int .i64 0) (.int .i64 0) (.int .i64 x7)) (some g)) := setOp_grown (.int .i64 dev) (.int .i64 seq) (.int .i64 stamp) (.int .i64 5) (.string t) (.int .i64 0) (.int .i64 0) (.int .i64 x7) HD2.out.gr
      have HRf := Lib.hid (HD2.out.rd.kept fun k hk => setOp_other (.int .i64 dev) (.int .i64 seq) (.int .i64 stamp) (.int .i64 5) (.string t) (.int .i64 0) (.int .i64 0) (.int .i64 x7) (show k ≠ w.heap.size by omega))
      clear c0 c1 c2 c3 c4 c5 c6 c7 e0 e1 e2 e3 e4 e5 e6 e7 f0 f1 f2 f3 f4 f5 f6 f7
      change bodyPost _ _ _ _ _ (setOp u2 w.heap.size (.int .i64 dev) (.int .i64 seq) (.int .i64 stamp) (.int .i64 5) (.string t) (.int .i64 0) (.int .i64 0) (.int .i64 x7))
      generalize setOp u2 w.heap.size (.int .i64 dev) (.int .i64 seq) (.int .i64 stamp) (.int .i64 5) (.string t) (.int .i64 0) (.int .i64 0) (.int .i64 x7) = wf at HX HGf HRf ⊢
      obtain ⟨d0, d1, d2, d3, d4, d5, d6, d7⟩ := op_cells HX.out
      exact bodyPost_ret (v := .agg #[.int .i64 dev, .int .i64 seq, .int .i64 stamp, .int .i64 5, .string t, .int .i64 0, .int .i64 0, .int .i64 x7]) (by simp [results, Tryd.results17, go_sem, d0, d1, d2, d3, d4, d5, d6, d7]) rfl ⟨_, _, _, _, _, _, _, _, ht, rfl, HGf.out, HRf.out⟩
    have n39 : ((z : Int) == 39) = false := by rw [beq_eq_false_iff_ne]; omega
    clear z37 z38 z39
    go_upto_region 17 with fail
    obtain ⟨c0, c1, c2, c3, c4, c5, c6, c7⟩ := op_cells HD1.out.opr
    obtain ⟨e0, e1, e2, e3, e4, e5, e6, e7⟩ := op_cells HD1.out.res
    obtain ⟨f0, f1, f2, f3, f4, f5, f6, f7⟩ := op_frozen HD1.out.res
    go_wp2
    have HX := Lib.hid (setOp_same (.int .i64 dev) (.int .i64 seq) (.int .i64 stamp) (.int .i64 5) (.string t) (.int .i64 0) (.int .i64 0) (.int .i64 undos) HD1.out.res)
    have HGf : Hid (w.grownBy (setOp u1 w.heap.size (.int .i64 dev) (.int .i64 seq) (.int .i64 stamp) (.int .i64 5) (.string t) (.int .i64 0) (.int .i64 0) (.int .i64 undos)) (some g)) := setOp_grown (.int .i64 dev) (.int .i64 seq) (.int .i64 stamp) (.int .i64 5) (.string t) (.int .i64 0) (.int .i64 0) (.int .i64 undos) HD1.out.gr
    have HRf := Lib.hid (HD1.out.rd.kept fun k hk => setOp_other (.int .i64 dev) (.int .i64 seq) (.int .i64 stamp) (.int .i64 5) (.string t) (.int .i64 0) (.int .i64 0) (.int .i64 undos) (show k ≠ w.heap.size by omega))
    clear c0 c1 c2 c3 c4 c5 c6 c7 e0 e1 e2 e3 e4 e5 e6 e7 f0 f1 f2 f3 f4 f5 f6 f7
    change bodyPost _ _ _ _ _ (setOp u1 w.heap.size (.int .i64 dev) (.int .i64 seq) (.int .i64 stamp) (.int .i64 5) (.string t) (.int .i64 0) (.int .i64 0) (.int .i64 undos))
    generalize setOp u1 w.heap.size (.int .i64 dev) (.int .i64 seq) (.int .i64 stamp) (.int .i64 5) (.string t) (.int .i64 0) (.int .i64 0) (.int .i64 undos) = wf at HX HGf HRf ⊢
    obtain ⟨d0, d1, d2, d3, d4, d5, d6, d7⟩ := op_cells HX.out
    exact bodyPost_ret (v := .agg #[.int .i64 dev, .int .i64 seq, .int .i64 stamp, .int .i64 5, .string t, .int .i64 0, .int .i64 0, .int .i64 undos]) (by simp [results, Tryd.results17, go_sem, d0, d1, d2, d3, d4, d5, d6, d7]) rfl ⟨_, _, _, _, _, _, _, _, ht, rfl, HGf.out, HRf.out⟩
end Go.Proofs.YtialoobnjfbboaaDoor
