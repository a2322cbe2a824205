/- The walk of impl.ReadOp. -/
import Derived.Test.YtialoobnjfbboaaDoorReadOpC
namespace Go.Proofs.YtialoobnjfbboaaDoor
open Go.RowKit

set_option maxRecDepth 100000 in
set_option maxHeartbeats 4000000 in
theorem implReadOp (s : ByteArray) (w : World) (u : TypeId) (x : Value) (hs : s.size ≤ 1048576) (hE : Sent w u x) : Calls Tryd.prog 9 #[.string s] w (OpPostR s w) := by
  have hmf : ∀ (fn : Fn) (first cap : Array Value) (w : World), (Instr.makeFunc fn first cap).run Tryd.prog w = .ok (.func fn first cap) w := fun _ _ _ _ => rfl
  have HE := Lib.hid hE
  clear hE
  go_enter_defers Tryd.func9, Tryd.ntmps9
  go_wp2_with fail
  have hb0 : 0 < w.heap.size := block_lt_of_cell HE.out
  have F := four w (.cells #[.int .i64 0, .int .i64 0, .int .i64 0, .int .i64 0, .string ⟨#[]⟩, .int .i64 0, .int .i64 0, .int .i64 0] 25) (.cells #[.int .i64 0] 2) (.cells #[.bool false] 4) (.cells #[.string s, .int .i64 0] 41)
  refine (opQ _ _ s 0 u x hs (Nat.zero_le _) F.h3 ((F.bel.cell hb0).trans HE.out) (by omega)).mono ?_
  have H0 := Lib.hid F.h0
  have H1 := Lib.hid F.h1
  have H2 := Lib.hid F.h2
  have HB := Lib.hid F.bel
  have hsz := Lib.hid F.size
  clear F
  rintro e w1 ⟨hg1, hcase⟩
  have G0 := Lib.hid ((hg1.block (w.heap.size) (by have := hsz.out; omega) (by simp <;> omega)).trans H0.out)
  have G1 := Lib.hid ((hg1.block (w.heap.size + 1) (by have := hsz.out; omega) (by simp <;> omega)).trans H1.out)
  have G2 := Lib.hid ((hg1.block (w.heap.size + 1 + 1) (by have := hsz.out; omega) (by simp)).trans H2.out)
  have HB1 := Lib.hid (HB.out.grown hg1 (by have := hsz.out; omega) (fun k hk => by injection hk with hk; omega))
  clear hg1 H0 H1 H2 HB hsz
  obtain ⟨dev, seq, stamp, kind, item, qty, level, undos, q, his, rfl, hr1⟩ | ⟨hx, rfl⟩ := hcase
  · have HIs := Lib.hid his
    clear his
    obtain ⟨e0, e1, e2, e3, e4, e5, e6, e7⟩ := op_cellsR G0.out
    obtain ⟨f0, f1, f2, f3, f4, f5, f6, f7⟩ := op_frozenR G0.out
    have HX := Lib.hid (setOpR_same (.int .i64 dev) (.int .i64 seq) (.int .i64 stamp) (.int .i64 kind) (.string item) (.int .i64 qty) (.int .i64 level) (.int .i64 undos) G0.out)
    have K1 := Lib.hid ((setOpR_other (w := w1) (b := w.heap.size) (.int .i64 dev) (.int .i64 seq) (.int .i64 stamp) (.int .i64 kind) (.string item) (.int .i64 qty) (.int .i64 level) (.int .i64 undos) (show w.heap.size + 1 ≠ w.heap.size by omega)).trans G1.out)
    have K2 := Lib.hid ((setOpR_other (w := w1) (b := w.heap.size) (.int .i64 dev) (.int .i64 seq) (.int .i64 stamp) (.int .i64 kind) (.string item) (.int .i64 qty) (.int .i64 level) (.int .i64 undos) (show w.heap.size + 1 + 1 ≠ w.heap.size by omega)).trans G2.out)
    have K3 := Lib.hid ((setOpR_other (w := w1) (b := w.heap.size) (.int .i64 dev) (.int .i64 seq) (.int .i64 stamp) (.int .i64 kind) (.string item) (.int .i64 qty) (.int .i64 level) (.int .i64 undos) (show w.heap.size + 1 + 1 + 1 ≠ w.heap.size by omega)).trans hr1)
    have KB := Lib.hid (setOpR_below (.int .i64 dev) (.int .i64 seq) (.int .i64 stamp) (.int .i64 kind) (.string item) (.int .i64 qty) (.int .i64 level) (.int .i64 undos) HB1.out (Nat.le_refl _))
    clear hr1 G0 G1 G2 HB1
    go_upto_region 4 with fail
    change Code.wp _ _ _ _ (setOpR w1 w.heap.size (.int .i64 dev) (.int .i64 seq) (.int .i64 stamp) (.int .i64 kind) (.string item) (.int .i64 qty) (.int .i64 level) (.int .i64 undos))
    generalize setOpR w1 w.heap.size (.int .i64 dev) (.int .i64 seq) (.int .i64 stamp) (.int .i64 kind) (.string item) (.int .i64 qty) (.int .i64 level) (.int .i64 undos) = w2 at HX K1 K2 K3 KB ⊢
    clear e0 e1 e2 e3 e4 e5 e6 e7 f0 f1 f2 f3 f4 f5 f6 f7
    obtain ⟨e0, e1, e2, e3, e4, e5, e6, e7⟩ := op_cellsR HX.out
    obtain ⟨f0, f1, f2, f3, f4, f5, f6, f7⟩ := op_frozenR HX.out
    have c1 : w2.cell? ⟨w.heap.size + 1, 0, none⟩ = some (.int .i64 0) := cell_of_row _ _ _ _ _ _ K1.out
    have c2 : w2.cell? ⟨w.heap.size + 1 + 1, 0, none⟩ = some (.bool false) := cell_of_row _ _ _ _ _ _ K2.out
    have c3 : w2.cell? ⟨w.heap.size + 1 + 1 + 1, 1, none⟩ = some (.int .i64 (q : Int)) := cell_of_row _ _ _ _ _ _ K3.out
    have g1 : w2.frozen? ⟨w.heap.size + 1, 0, none⟩ = false := frozen_of_row _ _ _ _ _ K1.out
    have g2 : w2.frozen? ⟨w.heap.size + 1 + 1, 0, none⟩ = false := frozen_of_row _ _ _ _ _ K2.out
    go_region
    go_wp2
    refine leaves_cons (f := 22) (args := #[.pointer (some ⟨w.heap.size, 0, none⟩), .pointer (some ⟨w.heap.size + 1, 0, none⟩), .pointer (some ⟨w.heap.size + 1 + 1, 0, none⟩)]) (by simp) (by simp [go_sem]) ?_
    refine (idleOp _ _ _ _).mono ?_
    rintro e u' w'' ⟨rfl, rfl, rfl⟩
    clear e0 e1 e2 e3 e4 e5 e6 e7 f0 f1 f2 f3 f4 f5 f6 f7
    have X0 := Lib.hid ((heap_setCell_other ((setOpR w2 (w.heap.size) (.int .i64 dev) (.int .i64 seq) (.int .i64 stamp) (.int .i64 kind) (.string item) (.int .i64 qty) (.int .i64 level) (.int .i64 undos)).setCell ⟨w.heap.size + 1, 0, none⟩ (.int .i64 (q : Int))) ⟨w.heap.size + 1 + 1, 0, none⟩ (w.heap.size) (.bool true) (show w.heap.size ≠ w.heap.size + 1 + 1 by omega)).trans ((heap_setCell_other (setOpR w2 (w.heap.size) (.int .i64 dev) (.int .i64 seq) (.int .i64 stamp) (.int .i64 kind) (.string item) (.int .i64 qty) (.int .i64 level) (.int .i64 undos)) ⟨w.heap.size + 1, 0, none⟩ (w.heap.size) (.int .i64 (q : Int)) (show w.heap.size ≠ w.heap.size + 1 by omega)).trans (setOpR_same (.int .i64 dev) (.int .i64 seq) (.int .i64 stamp) (.int .i64 kind) (.string item) (.int .i64 qty) (.int .i64 level) (.int .i64 undos) HX.out)))
    have y1 : (setOpR w2 (w.heap.size) (.int .i64 dev) (.int .i64 seq) (.int .i64 stamp) (.int .i64 kind) (.string item) (.int .i64 qty) (.int .i64 level) (.int .i64 undos)).cell? ⟨w.heap.size + 1, 0, none⟩ = some (.int .i64 0) := (World.cell?_of_block (a := ⟨w.heap.size + 1, 0, none⟩) (setOpR_other (w := w2) (b := w.heap.size) (.int .i64 dev) (.int .i64 seq) (.int .i64 stamp) (.int .i64 kind) (.string item) (.int .i64 qty) (.int .i64 level) (.int .i64 undos) (show w.heap.size + 1 ≠ w.heap.size by omega))).trans c1
    have y2 : (setOpR w2 (w.heap.size) (.int .i64 dev) (.int .i64 seq) (.int .i64 stamp) (.int .i64 kind) (.string item) (.int .i64 qty) (.int .i64 level) (.int .i64 undos)).cell? ⟨w.heap.size + 1 + 1, 0, none⟩ = some (.bool false) := (World.cell?_of_block (a := ⟨w.heap.size + 1 + 1, 0, none⟩) (setOpR_other (w := w2) (b := w.heap.size) (.int .i64 dev) (.int .i64 seq) (.int .i64 stamp) (.int .i64 kind) (.string item) (.int .i64 qty) (.int .i64 level) (.int .i64 undos) (show w.heap.size + 1 + 1 ≠ w.heap.size by omega))).trans c2
    have X1 : (((setOpR w2 (w.heap.size) (.int .i64 dev) (.int .i64 seq) (.int .i64 stamp) (.int .i64 kind) (.string item) (.int .i64 qty) (.int .i64 level) (.int .i64 undos)).setCell ⟨w.heap.size + 1, 0, none⟩ (.int .i64 (q : Int))).setCell ⟨w.heap.size + 1 + 1, 0, none⟩ (.bool true)).cell? ⟨w.heap.size + 1, 0, none⟩ = some (.int .i64 (q : Int)) := by rw [World.cell?_setCell_other _ _ _ _ (addr_ne (show w.heap.size + 1 + 1 ≠ w.heap.size + 1 by omega))]; exact World.cell?_setCell_same _ _ _ y1
    have X2 : (((setOpR w2 (w.heap.size) (.int .i64 dev) (.int .i64 seq) (.int .i64 stamp) (.int .i64 kind) (.string item) (.int .i64 qty) (.int .i64 level) (.int .i64 undos)).setCell ⟨w.heap.size + 1, 0, none⟩ (.int .i64 (q : Int))).setCell ⟨w.heap.size + 1 + 1, 0, none⟩ (.bool true)).cell? ⟨w.heap.size + 1 + 1, 0, none⟩ = some (.bool true) := World.cell?_setCell_same _ _ _ (by rw [World.cell?_setCell_other _ _ _ _ (addr_ne (show w.heap.size + 1 ≠ w.heap.size + 1 + 1 by omega))]; exact y2)
    have XB := Lib.hid (((setOpR_below (.int .i64 dev) (.int .i64 seq) (.int .i64 stamp) (.int .i64 kind) (.string item) (.int .i64 qty) (.int .i64 level) (.int .i64 undos) KB.out (Nat.le_refl _)).setCell (p := ⟨w.heap.size + 1, 0, none⟩) (by simp) (.int .i64 (q : Int))).setCell (p := ⟨w.heap.size + 1 + 1, 0, none⟩) (by simp; omega) (.bool true))
    change Leaves _ _ _ _ _ _ (((setOpR w2 (w.heap.size) (.int .i64 dev) (.int .i64 seq) (.int .i64 stamp) (.int .i64 kind) (.string item) (.int .i64 qty) (.int .i64 level) (.int .i64 undos)).setCell ⟨w.heap.size + 1, 0, none⟩ (.int .i64 (q : Int))).setCell ⟨w.heap.size + 1 + 1, 0, none⟩ (.bool true)).drew
    generalize (((setOpR w2 (w.heap.size) (.int .i64 dev) (.int .i64 seq) (.int .i64 stamp) (.int .i64 kind) (.string item) (.int .i64 qty) (.int .i64 level) (.int .i64 undos)).setCell ⟨w.heap.size + 1, 0, none⟩ (.int .i64 (q : Int))).setCell ⟨w.heap.size + 1 + 1, 0, none⟩ (.bool true)) = w3 at X0 X1 X2 XB ⊢
    obtain ⟨d0, d1, d2, d3, d4, d5, d6, d7⟩ := op_cellsR X0.out
    rw [← World.cell?_drew] at d0 d1 d2 d3 d4 d5 d6 d7 X1 X2
    have XB2 := Lib.hid XB.out.drew
    generalize w3.drew = w4 at d0 d1 d2 d3 d4 d5 d6 d7 X1 X2 XB2 ⊢
    simp [Leaves, settle, results, Tryd.results9, go_sem, d0, d1, d2, d3, d4, d5, d6, d7, X1, X2]
    exact ⟨XB2.out, .inl ⟨_, _, _, _, _, _, _, _, _, HIs.out, rfl⟩⟩
  · unfold Thrown
    have c1 : w1.cell? ⟨w.heap.size + 1, 0, none⟩ = some (.int .i64 0) := cell_of_row _ _ _ _ _ _ G1.out
    have c2 : w1.cell? ⟨w.heap.size + 1 + 1, 0, none⟩ = some (.bool false) := cell_of_row _ _ _ _ _ _ G2.out
    have g1 : w1.frozen? ⟨w.heap.size + 1, 0, none⟩ = false := frozen_of_row _ _ _ _ _ G1.out
    have g2 : w1.frozen? ⟨w.heap.size + 1 + 1, 0, none⟩ = false := frozen_of_row _ _ _ _ _ G2.out
    refine leaves_cons (f := 22) (args := #[.pointer (some ⟨w.heap.size, 0, none⟩), .pointer (some ⟨w.heap.size + 1, 0, none⟩), .pointer (some ⟨w.heap.size + 1 + 1, 0, none⟩)]) (by simp) (by simp [go_sem]) ?_
    refine (catchOp _ _ _ _ _ _ _ _ _ _ _ _ _ _ _ _ [] (by omega) (by omega) (by omega) G0.out c1 c2 g1 g2).mono ?_
    rintro e u' w'' ⟨rfl, rfl, rfl⟩
    have X0 := Lib.hid ((heap_setCell_other ((setOpR w1 (w.heap.size) (.int .i64 0) (.int .i64 0) (.int .i64 0) (.int .i64 0) (.string ⟨#[]⟩) (.int .i64 0) (.int .i64 0) (.int .i64 0)).setCell ⟨w.heap.size + 1, 0, none⟩ (.int .i64 0)) ⟨w.heap.size + 1 + 1, 0, none⟩ (w.heap.size) (.bool false) (show w.heap.size ≠ w.heap.size + 1 + 1 by omega)).trans ((heap_setCell_other (setOpR w1 (w.heap.size) (.int .i64 0) (.int .i64 0) (.int .i64 0) (.int .i64 0) (.string ⟨#[]⟩) (.int .i64 0) (.int .i64 0) (.int .i64 0)) ⟨w.heap.size + 1, 0, none⟩ (w.heap.size) (.int .i64 0) (show w.heap.size ≠ w.heap.size + 1 by omega)).trans (setOpR_same (.int .i64 0) (.int .i64 0) (.int .i64 0) (.int .i64 0) (.string ⟨#[]⟩) (.int .i64 0) (.int .i64 0) (.int .i64 0) G0.out)))
    have y1 : (setOpR w1 (w.heap.size) (.int .i64 0) (.int .i64 0) (.int .i64 0) (.int .i64 0) (.string ⟨#[]⟩) (.int .i64 0) (.int .i64 0) (.int .i64 0)).cell? ⟨w.heap.size + 1, 0, none⟩ = some (.int .i64 0) := (World.cell?_of_block (a := ⟨w.heap.size + 1, 0, none⟩) (setOpR_other (w := w1) (b := w.heap.size) (.int .i64 0) (.int .i64 0) (.int .i64 0) (.int .i64 0) (.string ⟨#[]⟩) (.int .i64 0) (.int .i64 0) (.int .i64 0) (show w.heap.size + 1 ≠ w.heap.size by omega))).trans c1
    have y2 : (setOpR w1 (w.heap.size) (.int .i64 0) (.int .i64 0) (.int .i64 0) (.int .i64 0) (.string ⟨#[]⟩) (.int .i64 0) (.int .i64 0) (.int .i64 0)).cell? ⟨w.heap.size + 1 + 1, 0, none⟩ = some (.bool false) := (World.cell?_of_block (a := ⟨w.heap.size + 1 + 1, 0, none⟩) (setOpR_other (w := w1) (b := w.heap.size) (.int .i64 0) (.int .i64 0) (.int .i64 0) (.int .i64 0) (.string ⟨#[]⟩) (.int .i64 0) (.int .i64 0) (.int .i64 0) (show w.heap.size + 1 + 1 ≠ w.heap.size by omega))).trans c2
    have X1 : (((setOpR w1 (w.heap.size) (.int .i64 0) (.int .i64 0) (.int .i64 0) (.int .i64 0) (.string ⟨#[]⟩) (.int .i64 0) (.int .i64 0) (.int .i64 0)).setCell ⟨w.heap.size + 1, 0, none⟩ (.int .i64 0)).setCell ⟨w.heap.size + 1 + 1, 0, none⟩ (.bool false)).cell? ⟨w.heap.size + 1, 0, none⟩ = some (.int .i64 0) := by rw [World.cell?_setCell_other _ _ _ _ (addr_ne (show w.heap.size + 1 + 1 ≠ w.heap.size + 1 by omega))]; exact World.cell?_setCell_same _ _ _ y1
    have X2 : (((setOpR w1 (w.heap.size) (.int .i64 0) (.int .i64 0) (.int .i64 0) (.int .i64 0) (.string ⟨#[]⟩) (.int .i64 0) (.int .i64 0) (.int .i64 0)).setCell ⟨w.heap.size + 1, 0, none⟩ (.int .i64 0)).setCell ⟨w.heap.size + 1 + 1, 0, none⟩ (.bool false)).cell? ⟨w.heap.size + 1 + 1, 0, none⟩ = some (.bool false) := World.cell?_setCell_same _ _ _ (by rw [World.cell?_setCell_other _ _ _ _ (addr_ne (show w.heap.size + 1 ≠ w.heap.size + 1 + 1 by omega))]; exact y2)
    have XB := Lib.hid (((setOpR_below (.int .i64 0) (.int .i64 0) (.int .i64 0) (.int .i64 0) (.string ⟨#[]⟩) (.int .i64 0) (.int .i64 0) (.int .i64 0) HB1.out (Nat.le_refl _)).setCell (p := ⟨w.heap.size + 1, 0, none⟩) (by simp) (.int .i64 0)).setCell (p := ⟨w.heap.size + 1 + 1, 0, none⟩) (by simp; omega) (.bool false))
    change Leaves _ _ _ _ _ _ (((setOpR w1 (w.heap.size) (.int .i64 0) (.int .i64 0) (.int .i64 0) (.int .i64 0) (.string ⟨#[]⟩) (.int .i64 0) (.int .i64 0) (.int .i64 0)).setCell ⟨w.heap.size + 1, 0, none⟩ (.int .i64 0)).setCell ⟨w.heap.size + 1 + 1, 0, none⟩ (.bool false))
    generalize (((setOpR w1 (w.heap.size) (.int .i64 0) (.int .i64 0) (.int .i64 0) (.int .i64 0) (.string ⟨#[]⟩) (.int .i64 0) (.int .i64 0) (.int .i64 0)).setCell ⟨w.heap.size + 1, 0, none⟩ (.int .i64 0)).setCell ⟨w.heap.size + 1 + 1, 0, none⟩ (.bool false)) = w3 at X0 X1 X2 XB ⊢
    obtain ⟨d0, d1, d2, d3, d4, d5, d6, d7⟩ := op_cellsR X0.out
    simp [Leaves, settle, results, Tryd.results9, go_sem, d0, d1, d2, d3, d4, d5, d6, d7, X1, X2]
    exact ⟨XB.out, .inr ⟨hx, rfl⟩⟩
end Go.Proofs.YtialoobnjfbboaaDoor
