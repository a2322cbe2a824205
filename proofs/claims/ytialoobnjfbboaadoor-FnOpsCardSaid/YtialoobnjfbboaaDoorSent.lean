/- What the rows' list gives: the package's one error is there. And a world for the witnesses. -/
import Derived.Test.YtialoobnjfbboaaDoorCards
import Derived.Test.YtialoobnjfbboaaDoorTie
import Derived.Test.YtialoobnjfbboaaDoorWireW
import Derived.WalkKit
import Derived.ProofKit
import Derived.OpenShut
import Derived.ShutString
import Derived.OpenVars
import Derived.ChangeOld
import Derived.Below
import Derived.LaidLaws
import Derived.RowKitTokens
import Derived.Deep.DeepHandedRow
import Derived.Deep.DeepWitnessRowRef
namespace Go.Proofs.YtialoobnjfbboaaDoor
open Go.ChangeShapes Go.WideShapes Go.ChangeAt Go.RowKit

theorem seatOwn : ownKnob Tryd.prog.godebug = none := by kernel_rfl
theorem seatLaidOut : laidOutB Tryd.prog = true := by kernel_rfl
theorem errNamed : Tryd.prog.globalNamed "loop.example/g00660/impl.errNotEncoded" = some 0 := by kernel_rfl
theorem errType : (Tryd.prog.globals[0]?).map (·.type) = some 64 := by kernel_rfl
theorem errCells : Tryd.prog.cellsOf 95 = 1 := by kernel_rfl
theorem strCells : Tryd.prog.cellsOf 9 = 1 := by kernel_rfl
theorem star : "*" ++ "errors.errorString" = "*errors.errorString" := by decide
theorem errRow (u : TypeId) (h : Tryd.prog.typeName? 3 u = some "*errors.errorString") : u = 80 :=
  typeName_ptr_named (nm := "errors.errorString") (by rw [star]; kernel_rfl) (by kernel_rfl) (by decide) u (by rw [star]; exact h)
def seatLaid : List (String × DataW Unit) := [("loop.example/g00660/impl.errNotEncoded", Rows.laid_loop_example_g00660_impl_errNotEncoded)]
set_option maxRecDepth 100000 in
theorem sent_of_laid {W : World} (h0 : laidMetH Tryd.prog seatLaid W) : ∃ a : Addr, Sent W 80 (.pointer (some a)) := by
  have h : laidMet Tryd.prog seatLaid W := h0
  obtain ⟨ps, ⟨g0, t0, cs0, f0, p0, q0, hg0, ht0, hv0, hd0, hq0, e0⟩, hnd, hrows⟩ := h
  obtain rfl := Option.some.inj (errNamed.symm.trans hg0)
  obtain rfl := Option.some.inj (errType.symm.trans ht0)
  have hq0' : q0 = [] := hq0
  subst hq0'
  subst e0
  obtain ⟨l0⟩ := cs0
  have ok0 : ∀ u v, l0 = [.iface u v] → Value.okWide Tryd.prog W .any 0 u v := fun u v e => by
    subst e
    exact (hrows 0 0 (by simp [MemPlace.row])).2 u v (by simpa using World.var?_cell hg0 hv0 0)
  obtain ⟨a0, s0, rfl, hc0, hs0, hz0, rfl⟩ := errorString_of_trod Tryd.underlying64 errRow Tryd.underlying80 Tryd.underlying95 rfl rfl Tryd.underlying9 errCells strCells hd0 ok0
  exact ⟨a0, by unfold Sent; simpa using World.var?_cell errNamed hv0 0⟩

noncomputable def low : Nat := (World.holding Tryd.prog default ⟨#[], #[], []⟩).heap.size
noncomputable def laidWorld (os : Os) : World :=
  let w0 := World.holding Tryd.prog os ⟨#[.cells #[.string ⟨#[110, 111, 116, 32, 97, 110, 32, 101, 110, 99, 111, 100, 105, 110, 103]⟩] 95], #[], []⟩
  { w0 with heap := w0.heap.modify 0 fun
      | .cells _ t frozen => .cells #[.iface 80 (.pointer (some ⟨low, 0, none⟩))] t frozen
      | o => o }
theorem laid_met (os : Os) (args : Array Value) : laidMet Tryd.prog seatLaid ((laidWorld os).forCall (fun _ _ => 0) ⟨#[], args, []⟩).memory :=
  laidMet_of_run (ps := [.cell 0 0, .cell low 0]) 8 (by kernel_rfl) (by kernel_rfl) (by kernel_rfl)
theorem vars_rowed : varsRowed Tryd.prog ["loop.example/g00660/impl.errNotEncoded"] = true := by kernel_rfl
end Go.Proofs.YtialoobnjfbboaaDoor
