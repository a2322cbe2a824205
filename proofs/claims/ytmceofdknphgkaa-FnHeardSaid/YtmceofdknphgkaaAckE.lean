/- Tables of rows that are drawn: the walks of spec.DrawAcksOk and spec.DrawStable. -/
import Derived.Test.YtmceofdknphgkaaAckD
namespace Go.Proofs.Ytmceofdknphgkaa
open Go.RowKit
set_option linter.unusedVariables false
set_option linter.unusedSimpArgs false

/-- What DrawAcksOk answers. -/
def DrawsAcks (w : World) (e : Ending) (w' : World) : Prop :=
  ∃ (aa : Option Addr) (n c X : Nat) (l : List (List Int)), n ≤ 4 ∧ e = .returned (.agg #[.slice aa n c]) ∧ RowsIn w' (w.heap.size + 1) X aa n l ∧ Below w.heap.size w w'
theorem RowsIn.less {w : World} {lo lo' X : Nat} {a : Option Addr} {n : Nat} {l : List (List Int)} (h : RowsIn w lo X a n l) (hl : lo' ≤ lo) : RowsIn w lo' X a n l :=
  ⟨h.1, fun i hi => by
    obtain ⟨b, off, ai, ci, e, hb, hc, hx, hbb, h4⟩ := h.2 i hi
    exact ⟨b, off, ai, ci, e, ⟨by omega, hb.2⟩, hc, hx, fun b' off' h1 h2 => by have := hbb b' off' h1 h2; exact ⟨by omega, this.2⟩, h4⟩⟩
set_option maxRecDepth 100000 in
set_option maxHeartbeats 2000000 in
theorem drawAcksOk (w : World) (B : Nat) (a : Option Addr) (len cap : Nat) (hB : B ≤ w.heap.size) (h : Src w B a len) :
    Calls Try.prog 65 #[.slice a len cap] w (DrawsAcks w) := by
  have hb0 : Below w.heap.size w (w.alloc (.cells #[.slice none 0 0] 66)) := (Below.refl _ w).alloc (Nat.le_refl _) _
  have HS0 := Lib.hid (h.kept (w' := w.alloc (.cells #[.slice none 0 0] 66)) fun k hk => hb0.block k (by omega))
  have HR0 := Lib.hid (heap_alloc_new w (.cells #[.slice none 0 0] 66))
  have HB0 := Lib.hid hb0
  have hz0 : Hid ((w.alloc (.cells #[.slice none 0 0] 66)).heap.size = w.heap.size + 1) := by show (w.heap.push _).size = _; simp
  clear h hb0
  go_enter Try.func65, Try.ntmps65
  go_wp2_with fail
  generalize w.alloc (.cells #[.slice none 0 0] 66) = w0 at HS0 HR0 HB0 hz0 ⊢
  refine (l1Open w0 B a len cap (by have := hz0.out; omega) HS0.out).mono ?_
  rintro e w1 ⟨rfl, hg1, hr1⟩
  have HR1 := Lib.hid ((hg1.block _ (by have := hz0.out; omega) (by intro e; cases e)).trans HR0.out)
  have HB1 := Lib.hid (HB0.out.grown hg1 (by have := hz0.out; omega) (fun k hk => by cases hk))
  have hs1 := hg1.size
  have hgl := hr1.lt
  have HRd1 := Lib.hid hr1
  clear hg1 hr1
  go_wp2_with fail
  refine (acksD w1 B w0.heap.size a len cap HRd1.out).mono ?_
  rintro e w2 ⟨aa, n, c, X, l, hn, rfl, hrows, hX, hwX, hg2, hr2⟩
  have hR2 := (hg2.block w.heap.size (by have := hz0.out; omega) (by intro e; injection e with e; have := hz0.out; omega)).trans HR1.out
  have HB2 := Lib.hid (HB1.out.grown hg2 HB1.out.size (fun k hk => by cases hk; have := hz0.out; omega))
  have r0 := one_cell hR2
  have rf : w2.frozen? ⟨w.heap.size, 0, none⟩ = false := frozen_of_row _ _ _ _ _ hR2
  have HD := Lib.hid (cell_set1 (.slice aa n c) hR2)
  have hs2 : (w2.setCell ⟨w.heap.size, 0, none⟩ (.slice aa n c)).heap.size = w2.heap.size := by simp [World.setCell]
  have hk : RowsIn (w2.setCell ⟨w.heap.size, 0, none⟩ (.slice aa n c)) (w1.heap.size + 1) X aa n l := hrows.kept (Nat.le_of_eq hs2.symm) fun j h1 h2 h3 => heap_setCell_other _ _ _ _ (by show j ≠ w.heap.size; have := hz0.out; omega)
  have HK := Lib.hid hk
  have HB3 := Lib.hid (HB2.out.setCell (p := ⟨w.heap.size, 0, none⟩) (Nat.le_refl _) (.slice aa n c))
  clear hR2 hg2 hr2 hrows hk hs2
  go_wp2
  have d0 := HD.out
  generalize w2.setCell ⟨w.heap.size, 0, none⟩ (.slice aa n c) = wf at d0 HK HB3 ⊢
  exact bodyPost_ret (v := .agg #[.slice aa n c]) (by simp [results, Try.results65, go_sem, d0]) rfl ⟨aa, n, c, X, l, hn, rfl, HK.out.less (by have := hz0.out; omega), HB3.out⟩
set_option maxRecDepth 100000 in
set_option maxHeartbeats 2000000 in
theorem drawStable (w : World) (B : Nat) (a : Option Addr) (len cap : Nat) (hB : B ≤ w.heap.size) (h : Src w B a len) :
    Calls Try.prog 57 #[.slice a len cap] w (DrawsAcks w) := by
  have hb0 : Below w.heap.size w (w.alloc (.cells #[.slice none 0 0] 66)) := (Below.refl _ w).alloc (Nat.le_refl _) _
  have HS0 := Lib.hid (h.kept (w' := w.alloc (.cells #[.slice none 0 0] 66)) fun k hk => hb0.block k (by omega))
  have HR0 := Lib.hid (heap_alloc_new w (.cells #[.slice none 0 0] 66))
  have HB0 := Lib.hid hb0
  have hz0 : Hid ((w.alloc (.cells #[.slice none 0 0] 66)).heap.size = w.heap.size + 1) := by show (w.heap.push _).size = _; simp
  clear h hb0
  go_enter Try.func57, Try.ntmps57
  go_wp2_with fail
  generalize w.alloc (.cells #[.slice none 0 0] 66) = w0 at HS0 HR0 HB0 hz0 ⊢
  refine (drawAcksOk w0 B a len cap (by have := hz0.out; omega) HS0.out).mono ?_
  rintro e w1 ⟨aa, n, c, X, l, hn, rfl, hrows, hb1⟩
  have hR1 := (hb1.block w.heap.size (by have := hz0.out; omega)).trans HR0.out
  have r0 := one_cell hR1
  have rf : w1.frozen? ⟨w.heap.size, 0, none⟩ = false := frozen_of_row _ _ _ _ _ hR1
  have HD := Lib.hid (cell_set1 (.slice aa n c) hR1)
  have hs2 : (w1.setCell ⟨w.heap.size, 0, none⟩ (.slice aa n c)).heap.size = w1.heap.size := by simp [World.setCell]
  have hk : RowsIn (w1.setCell ⟨w.heap.size, 0, none⟩ (.slice aa n c)) (w0.heap.size + 1) X aa n l := hrows.kept (Nat.le_of_eq hs2.symm) fun j h1 h2 h3 => heap_setCell_other _ _ _ _ (by show j ≠ w.heap.size; have := hz0.out; omega)
  have HK := Lib.hid hk
  have HB3 := Lib.hid ((HB0.out.trans (hb1.mono (by have := hz0.out; omega))).setCell (p := ⟨w.heap.size, 0, none⟩) (Nat.le_refl _) (.slice aa n c))
  clear hR1 hrows hk hs2 hb1
  go_wp2
  have d0 := HD.out
  generalize w1.setCell ⟨w.heap.size, 0, none⟩ (.slice aa n c) = wf at d0 HK HB3 ⊢
  exact bodyPost_ret (v := .agg #[.slice aa n c]) (by simp [results, Try.results57, go_sem, d0]) rfl ⟨aa, n, c, X, l, hn, rfl, HK.out.less (by have := hz0.out; omega), HB3.out⟩
end Go.Proofs.Ytmceofdknphgkaa
