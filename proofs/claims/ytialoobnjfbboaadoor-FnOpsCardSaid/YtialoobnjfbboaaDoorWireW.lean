/- The walks of impl's wireReader: nextByte, number. -/
import Derived.Test.YtialoobnjfbboaaDoorReadW
import Derived.Deep.QuietTactic
import Derived.BigQuiet
import Derived.Laws.Rows
import Derived.Maps.AppendAt
import Derived.Laws.Bits128
namespace Go.Proofs.YtialoobnjfbboaaDoor
open Go.RowKit

/-- A wireReader at block g, over the text s, at place p. -/
def RdrAt (w : World) (g : Nat) (s : ByteArray) (p : Nat) : Prop := w.heap[g]? = some (.cells #[.string s, .int .i64 (p : Int)] 41 (0, 0))
/-- The sentinel's cell. -/
def Sent (w : World) (u : TypeId) (x : Value) : Prop := w.cell? ⟨0, 0, none⟩ = some (.iface u x)
def Thrown (u : TypeId) (x : Value) : Ending := .panicked [{ v := .iface u x, recovered := false }]
theorem Sent.grown {w w' : World} {u : TypeId} {x : Value} {g : Nat} (h : Sent w u x) (hg : w.grownBy w' (some g)) (h0 : 0 < g) : Sent w' u x :=
  (World.cell?_of_block (a := ⟨0, 0, none⟩) (hg.block _ (block_lt_of_cell h) (by simp; omega))).trans h

theorem grownBy_drewN (w : World) (n : Nat) (row : Option Nat) : w.grownBy (w.drewN n) row := ⟨rfl, rfl, rfl, Nat.le_refl _, fun _ _ _ => rfl⟩
theorem grownBy_put (w : World) (n : Nat) (g i : Nat) (v : Value) : w.grownBy ((w.drewN n).setCell ⟨g, i, none⟩ v) (some g) :=
  ⟨rfl, rfl, rfl, by show w.heap.size ≤ ((w.drewN n).setCell ⟨g, i, none⟩ v).heap.size; simp [World.setCell], fun k hk hne => by
    rw [heap_setCell_other _ _ _ _ (fun e => hne (by rw [e]))]
    rfl⟩

theorem wire_end {w : World} {g : Nat} {s : ByteArray} {p : Nat} (n : Nat) (H : RdrAt w g s p) : RdrAt ((w.drewN n).setCell ⟨g, 1, none⟩ (.int .i64 ((p : Int) + 1))) g s (p + 1) :=
  heap_setCell_same (w.drewN n) g 1 _ _ _ H

set_option maxRecDepth 100000 in
theorem nextByteYes (w : World) (g : Nat) (s : ByteArray) (p : Nat) (hs : s.size ≤ 1048576) (hp : p < s.size) (h : RdrAt w g s p) :
    Calls Tryd.prog 44 #[.pointer (some ⟨g, 0, none⟩)] w fun e w' => e = .returned (.int .u8 (s[p].toNat : Int)) ∧ w.grownBy w' (some g) ∧ RdrAt w' g s (p + 1) := by
  have c0 : w.cell? ⟨g, 0, none⟩ = some (.string s) := cell_of_row _ _ _ _ _ _ h
  have c1 : w.cell? ⟨g, 1, none⟩ = some (.int .i64 (p : Int)) := cell_of_row _ _ _ _ _ _ h
  have f1 : w.frozen? ⟨g, 1, none⟩ = false := frozen_of_row _ _ _ _ _ h
  have hne : ((p : Int) == (s.size : Int)) = false := by rw [beq_eq_false_iff_ne]; omega
  have hpi : (p : Int) < (s.size : Int) := by omega
  have hp0 : (0 : Int) ≤ (p : Int) := by omega
  have H := Lib.hid h
  clear h
  go_enter Tryd.func44, Tryd.ntmps44
  go_wp2
  go_quiet (fail)
  go_wp2
  go_quiet (fail)
  go_wp2
  go_ret
  exact ⟨rfl, grownBy_put w _ g 1 _, wire_end _ H.out⟩
set_option maxRecDepth 100000 in
theorem nextByteNo (w : World) (g : Nat) (s : ByteArray) (u : TypeId) (x : Value) (h : RdrAt w g s s.size) (hE : Sent w u x) :
    Calls Tryd.prog 44 #[.pointer (some ⟨g, 0, none⟩)] w fun e w' => e = Thrown u x ∧ w.grownBy w' (some g) := by
  have c0 : w.cell? ⟨g, 0, none⟩ = some (.string s) := cell_of_row _ _ _ _ _ _ h
  have c1 : w.cell? ⟨g, 1, none⟩ = some (.int .i64 (s.size : Int)) := cell_of_row _ _ _ _ _ _ h
  have hs' : w.cell? ⟨0, 0, none⟩ = some (.iface u x) := hE
  clear h hE
  go_enter Tryd.func44, Tryd.ntmps44
  go_wp2
  go_quiet (fail)
  go_wp2
  exact ⟨rfl, rfl, grownBy_drewN _ _ _⟩
end Go.Proofs.YtialoobnjfbboaaDoor
