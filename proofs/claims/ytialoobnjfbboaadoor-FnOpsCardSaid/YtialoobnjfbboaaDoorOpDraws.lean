/- The walks of spec.DrawOpOk and its kin: some operation is drawn, whatever the code. -/
import Derived.Test.YtialoobnjfbboaaDoorOpDrawW
namespace Go.Proofs.YtialoobnjfbboaaDoor
open Go.RowKit

/-- Some operation is drawn. -/
def DrawsOp (w : World) (e : Ending) (w' : World) : Prop :=
  ∃ (dev seq stamp kind : Int) (item : ByteArray) (qty level undos : Int), item.size ≤ 8 ∧ e = .returned (.agg #[.int .i64 dev, .int .i64 seq, .int .i64 stamp, .int .i64 kind, .string item, .int .i64 qty, .int .i64 level, .int .i64 undos]) ∧ Below w.heap.size w w'
structure OpE (w w1 : World) (g : Nat) (a : Option Addr) (len cap bo : Nat) (cs : Array Value) : Prop where
  res : w1.heap[w.heap.size]? = some (.cells #[.int .i64 0, .int .i64 0, .int .i64 0, .int .i64 0, .string ⟨#[]⟩, .int .i64 0, .int .i64 0, .int .i64 0] 25 (0, 0))
  opr : w1.heap[bo]? = some (.cells cs 25 (0, 0))
  own : w.heap.size < g ∧ g < bo
  bel : Below w.heap.size w w1
  rd : Rd w1 w.heap.size g a len cap
theorem OpE.next {w w1 w2 : World} {g : Nat} {a : Option Addr} {len cap bo : Nat} {cs : Array Value} (h : OpE w w1 g a len cap bo cs) (hg : w1.grownBy w2 (some g)) (hr : Rd w2 w.heap.size g a len cap) : OpE w w2 g a len cap bo cs :=
  have hown := h.own
  ⟨(hg.block _ (Array.getElem?_eq_some_iff.1 h.res).1 (by simp; omega)).trans h.res, (hg.block _ (Array.getElem?_eq_some_iff.1 h.opr).1 (by simp; omega)).trans h.opr, h.own, h.bel.trans (below_of hg (by omega) h.bel.size), hr⟩
theorem OpE.put {w w1 : World} {g : Nat} {a : Option Addr} {len cap bo : Nat} {cs : Array Value} (h : OpE w w1 g a len cap bo cs) (i : Nat) (v : Value) : OpE w (w1.setCell ⟨bo, i, none⟩ v) g a len cap bo (cs.setIfInBounds i v) :=
  have hown := h.own
  ⟨(heap_setCell_other _ _ _ _ (by show w.heap.size ≠ bo; omega)).trans h.res, heap_setCell_same _ _ _ _ _ _ h.opr, h.own, h.bel.setCell (p := ⟨bo, i, none⟩) (by show _ ≤ bo; omega) v,
   h.rd.kept fun k hk => heap_setCell_other _ _ _ _ (by show k ≠ bo; omega)⟩

set_option maxRecDepth 100000 in
set_option maxHeartbeats 2000000 in
theorem drawOpOk (w : World) (a : Option Addr) (len cap : Nat) (h : Src w w.heap.size a len) : Calls Tryd.prog 7 #[.slice a len cap] w (DrawsOp w) := by
  have HS := Lib.hid h
  clear h
  have HZ0 := Lib.hid (boxAt (Below.refl _ (w.alloc (.cells #[.int .i64 0, .int .i64 0, .int .i64 0, .int .i64 0, .string ⟨#[]⟩, .int .i64 0, .int .i64 0, .int .i64 0] 25))))
  have HB0 := Lib.hid ((Below.refl _ w).alloc (Nat.le_refl _) (.cells #[.int .i64 0, .int .i64 0, .int .i64 0, .int .i64 0, .string ⟨#[]⟩, .int .i64 0, .int .i64 0, .int .i64 0] 25))
  have hs0 : (w.alloc (.cells #[.int .i64 0, .int .i64 0, .int .i64 0, .int .i64 0, .string ⟨#[]⟩, .int .i64 0, .int .i64 0, .int .i64 0] 25)).heap.size = w.heap.size + 1 := by show (w.heap.push _).size = _; simp
  have hsz : w.heap.size < (w.alloc (.cells #[.int .i64 0, .int .i64 0, .int .i64 0, .int .i64 0, .string ⟨#[]⟩, .int .i64 0, .int .i64 0, .int .i64 0] 25)).heap.size := by omega
  clear hs0
  go_enter Tryd.func7, Tryd.ntmps7
  go_wp2_with fail
  generalize w.alloc (.cells #[.int .i64 0, .int .i64 0, .int .i64 0, .int .i64 0, .string ⟨#[]⟩, .int .i64 0, .int .i64 0, .int .i64 0] 25) = w0 at HZ0 HB0 hsz ⊢
  refine (l1Open w0 w.heap.size a len cap (by omega) (src_below HS.out HB0.out)).mono ?_
  rintro e w1 ⟨rfl, hg, hr⟩
  have HZ1 := Lib.hid ((hg.block _ hsz (by simp)).trans HZ0.out)
  have HB1 := Lib.hid (HB0.out.trans (below_none hg HB0.out.size))
  have HR1 := Lib.hid hr
  clear hg hr HZ0 HB0
  generalize w0.heap.size = g at hsz HR1 ⊢
  go_wp2_with fail
  refine (rdOp w1 w.heap.size g a len cap HR1.out HB1.out.size).mono ?_
  rintro e w2 ⟨dev, seq, stamp, kind, item, qty, level, undos, ht, rfl, hg, hr⟩
  have HZ2 := Lib.hid ((hg.block _ (Array.getElem?_eq_some_iff.1 HZ1.out).1 (by simp; omega)).trans HZ1.out)
  have HB2 := Lib.hid (HB1.out.trans (below_of hg (by omega) HB1.out.size))
  have HR2 := Lib.hid hr
  clear hg hr HZ1 HB1 HR1
  go_upto_region 3 with fail
  have hD : OpE w (w2.alloc (.cells #[.int .i64 dev, .int .i64 seq, .int .i64 stamp, .int .i64 kind, .string item, .int .i64 qty, .int .i64 level, .int .i64 undos] 25)) g a len cap w2.heap.size #[.int .i64 dev, .int .i64 seq, .int .i64 stamp, .int .i64 kind, .string item, .int .i64 qty, .int .i64 level, .int .i64 undos] :=
    ⟨(Below.heap_alloc _ _ _ (Array.getElem?_eq_some_iff.1 HZ2.out).1).trans HZ2.out, boxAt (Below.refl _ _), ⟨hsz, HR2.out.lt⟩, HB2.out.alloc HB2.out.size _, HR2.out.grown (World.grownBy_alloc w2 _ none) (fun k hk => by cases hk)⟩
  generalize w2.alloc (.cells #[.int .i64 dev, .int .i64 seq, .int .i64 stamp, .int .i64 kind, .string item, .int .i64 qty, .int .i64 level, .int .i64 undos] 25) = u0 at hD ⊢
  generalize w2.heap.size = bo at hD ⊢
  have HD := Lib.hid hD
  clear hD HZ2 HB2 HR2
  go_wp2_with fail
  refine (once u0 w.heap.size g a len cap HD.out.rd 5 (by omega) (by omega)).mono ?_
  rintro e u1 ⟨v, rfl, hg, hr⟩
  have HD1 := Lib.hid (HD.out.next hg hr)
  clear hg hr HD
  cases v
  · go_upto_region 5 with fail
    obtain ⟨c0, c1, c2, c3, c4, c5, c6, c7⟩ := op_cells HD1.out.opr
    obtain ⟨e0, e1, e2, e3, e4, e5, e6, e7⟩ := op_cells HD1.out.res
    obtain ⟨f0, f1, f2, f3, f4, f5, f6, f7⟩ := op_frozen HD1.out.res
    go_wp2
    have HX := Lib.hid (setOp_same (.int .i64 dev) (.int .i64 seq) (.int .i64 stamp) (.int .i64 kind) (.string item) (.int .i64 qty) (.int .i64 level) (.int .i64 undos) HD1.out.res)
    have HBf := Lib.hid (setOp_below (.int .i64 dev) (.int .i64 seq) (.int .i64 stamp) (.int .i64 kind) (.string item) (.int .i64 qty) (.int .i64 level) (.int .i64 undos) HD1.out.bel (Nat.le_refl _))
    clear c0 c1 c2 c3 c4 c5 c6 c7 e0 e1 e2 e3 e4 e5 e6 e7 f0 f1 f2 f3 f4 f5 f6 f7
    change bodyPost _ _ _ _ _ (setOp u1 w.heap.size (.int .i64 dev) (.int .i64 seq) (.int .i64 stamp) (.int .i64 kind) (.string item) (.int .i64 qty) (.int .i64 level) (.int .i64 undos))
    generalize setOp u1 w.heap.size (.int .i64 dev) (.int .i64 seq) (.int .i64 stamp) (.int .i64 kind) (.string item) (.int .i64 qty) (.int .i64 level) (.int .i64 undos) = wf at HX HBf ⊢
    obtain ⟨d0, d1, d2, d3, d4, d5, d6, d7⟩ := op_cells HX.out
    exact bodyPost_ret (v := .agg #[.int .i64 dev, .int .i64 seq, .int .i64 stamp, .int .i64 kind, .string item, .int .i64 qty, .int .i64 level, .int .i64 undos]) (by simp [results, Tryd.results7, go_sem, d0, d1, d2, d3, d4, d5, d6, d7]) rfl ⟨_, _, _, _, _, _, _, _, ht, rfl, HBf.out⟩
  · go_wp2_with fail
    refine (rdOff u1 w.heap.size g a len cap HD1.out.rd 1 5 (by omega) (by omega) (by omega)).mono ?_
    rintro e u2 ⟨x, rfl, hg, hr⟩
    have HD2 := Lib.hid (HD1.out.next hg hr)
    clear hg hr HD1
    obtain ⟨c0, c1, c2, c3, c4, c5, c6, c7⟩ := op_cells HD2.out.opr
    obtain ⟨f0, f1, f2, f3, f4, f5, f6, f7⟩ := op_frozen HD2.out.opr
    have HD3 : Hid (OpE w (u2.setCell ⟨bo, 3, none⟩ (.int .i64 x)) g a len cap bo #[.int .i64 dev, .int .i64 seq, .int .i64 stamp, .int .i64 x, .string item, .int .i64 qty, .int .i64 level, .int .i64 undos]) := HD2.out.put 3 _
    go_upto_region 5 with fail
    generalize u2.setCell ⟨bo, 3, none⟩ (.int .i64 x) = u3 at HD3 ⊢
    clear HD2 c0 c1 c2 c3 c4 c5 c6 c7 f0 f1 f2 f3 f4 f5 f6 f7
    obtain ⟨c0, c1, c2, c3, c4, c5, c6, c7⟩ := op_cells HD3.out.opr
    obtain ⟨e0, e1, e2, e3, e4, e5, e6, e7⟩ := op_cells HD3.out.res
    obtain ⟨f0, f1, f2, f3, f4, f5, f6, f7⟩ := op_frozen HD3.out.res
    go_wp2
    have HX := Lib.hid (setOp_same (.int .i64 dev) (.int .i64 seq) (.int .i64 stamp) (.int .i64 x) (.string item) (.int .i64 qty) (.int .i64 level) (.int .i64 undos) HD3.out.res)
    have HBf := Lib.hid (setOp_below (.int .i64 dev) (.int .i64 seq) (.int .i64 stamp) (.int .i64 x) (.string item) (.int .i64 qty) (.int .i64 level) (.int .i64 undos) HD3.out.bel (Nat.le_refl _))
    clear c0 c1 c2 c3 c4 c5 c6 c7 e0 e1 e2 e3 e4 e5 e6 e7 f0 f1 f2 f3 f4 f5 f6 f7
    change bodyPost _ _ _ _ _ (setOp u3 w.heap.size (.int .i64 dev) (.int .i64 seq) (.int .i64 stamp) (.int .i64 x) (.string item) (.int .i64 qty) (.int .i64 level) (.int .i64 undos))
    generalize setOp u3 w.heap.size (.int .i64 dev) (.int .i64 seq) (.int .i64 stamp) (.int .i64 x) (.string item) (.int .i64 qty) (.int .i64 level) (.int .i64 undos) = wf at HX HBf ⊢
    obtain ⟨d0, d1, d2, d3, d4, d5, d6, d7⟩ := op_cells HX.out
    exact bodyPost_ret (v := .agg #[.int .i64 dev, .int .i64 seq, .int .i64 stamp, .int .i64 x, .string item, .int .i64 qty, .int .i64 level, .int .i64 undos]) (by simp [results, Tryd.results7, go_sem, d0, d1, d2, d3, d4, d5, d6, d7]) rfl ⟨_, _, _, _, _, _, _, _, ht, rfl, HBf.out⟩
theorem src_wide {w : World} {B B' : Nat} {a : Option Addr} {len : Nat} (h : Src w B a len) (hB : B ≤ B') : Src w B' a len :=
  ⟨h.1, fun i hi => by obtain ⟨b, off, z, e, hb, r⟩ := h.2 i hi; exact ⟨b, off, z, e, by omega, r⟩⟩
set_option maxRecDepth 100000 in
theorem drawOpBytes (w : World) (a : Option Addr) (len cap : Nat) (h : Src w w.heap.size a len) : Calls Tryd.prog 5 #[.slice a len cap] w (DrawsOp w) := by
  have HS := Lib.hid h
  clear h
  have HZ0 := Lib.hid (boxAt (Below.refl _ (w.alloc (.cells #[.int .i64 0, .int .i64 0, .int .i64 0, .int .i64 0, .string ⟨#[]⟩, .int .i64 0, .int .i64 0, .int .i64 0] 25))))
  have HB0 := Lib.hid ((Below.refl _ w).alloc (Nat.le_refl _) (.cells #[.int .i64 0, .int .i64 0, .int .i64 0, .int .i64 0, .string ⟨#[]⟩, .int .i64 0, .int .i64 0, .int .i64 0] 25))
  have hs0 : (w.alloc (.cells #[.int .i64 0, .int .i64 0, .int .i64 0, .int .i64 0, .string ⟨#[]⟩, .int .i64 0, .int .i64 0, .int .i64 0] 25)).heap.size = w.heap.size + 1 := by show (w.heap.push _).size = _; simp
  have hsz : w.heap.size < (w.alloc (.cells #[.int .i64 0, .int .i64 0, .int .i64 0, .int .i64 0, .string ⟨#[]⟩, .int .i64 0, .int .i64 0, .int .i64 0] 25)).heap.size := by omega
  clear hs0
  go_enter Tryd.func5, Tryd.ntmps5
  go_wp2_with fail
  generalize w.alloc (.cells #[.int .i64 0, .int .i64 0, .int .i64 0, .int .i64 0, .string ⟨#[]⟩, .int .i64 0, .int .i64 0, .int .i64 0] 25) = w0 at HZ0 HB0 hsz ⊢
  refine (drawOpOk w0 a len cap (src_wide (src_below HS.out HB0.out) HB0.out.size)).mono ?_
  rintro e w1 ⟨dev, seq, stamp, kind, item, qty, level, undos, ht, rfl, hb⟩
  have HZ1 := Lib.hid ((hb.block _ hsz).trans HZ0.out)
  have HB1 := Lib.hid (HB0.out.trans (hb.mono HB0.out.size))
  clear hb HZ0 HB0
  obtain ⟨e0, e1, e2, e3, e4, e5, e6, e7⟩ := op_cells HZ1.out
  obtain ⟨f0, f1, f2, f3, f4, f5, f6, f7⟩ := op_frozen HZ1.out
  go_wp2
  have HX := Lib.hid (setOp_same (.int .i64 dev) (.int .i64 seq) (.int .i64 stamp) (.int .i64 kind) (.string item) (.int .i64 qty) (.int .i64 level) (.int .i64 undos) HZ1.out)
  have HBf := Lib.hid (setOp_below (.int .i64 dev) (.int .i64 seq) (.int .i64 stamp) (.int .i64 kind) (.string item) (.int .i64 qty) (.int .i64 level) (.int .i64 undos) HB1.out (Nat.le_refl _))
  clear e0 e1 e2 e3 e4 e5 e6 e7 f0 f1 f2 f3 f4 f5 f6 f7
  change bodyPost _ _ _ _ _ (setOp w1 w.heap.size (.int .i64 dev) (.int .i64 seq) (.int .i64 stamp) (.int .i64 kind) (.string item) (.int .i64 qty) (.int .i64 level) (.int .i64 undos))
  generalize setOp w1 w.heap.size (.int .i64 dev) (.int .i64 seq) (.int .i64 stamp) (.int .i64 kind) (.string item) (.int .i64 qty) (.int .i64 level) (.int .i64 undos) = wf at HX HBf ⊢
  obtain ⟨d0, d1, d2, d3, d4, d5, d6, d7⟩ := op_cells HX.out
  exact bodyPost_ret (v := .agg #[.int .i64 dev, .int .i64 seq, .int .i64 stamp, .int .i64 kind, .string item, .int .i64 qty, .int .i64 level, .int .i64 undos]) (by simp [results, Tryd.results5, go_sem, d0, d1, d2, d3, d4, d5, d6, d7]) rfl ⟨_, _, _, _, _, _, _, _, ht, rfl, HBf.out⟩
end Go.Proofs.YtialoobnjfbboaaDoor
