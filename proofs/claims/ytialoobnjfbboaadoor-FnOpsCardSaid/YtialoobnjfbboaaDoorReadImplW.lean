/- The walk of impl.ReadVar, with its deferred closure. -/
import Derived.Test.YtialoobnjfbboaaDoorNumW
import Derived.Defers
import Derived.Recover
import Derived.Laws.Pointers
namespace Go.Proofs.YtialoobnjfbboaaDoor
open Go.RowKit

theorem addr_ne {a b : Nat} (h : a ≠ b) : (⟨a, 0, none⟩ : Addr) ≠ ⟨b, 0, none⟩ := fun e => h (congrArg Addr.block e)

theorem alloc_size (w : World) (A : Obj) : (w.alloc A).heap.size = w.heap.size + 1 := by
  show (w.heap.push A).size = _
  simp
theorem three (w : World) (a b c : Nat) (x y z x' y' z' : Value) (hab : a ≠ b) (hac : a ≠ c) (hbc : b ≠ c) (h1 : w.cell? ⟨a, 0, none⟩ = some x) (h2 : w.cell? ⟨b, 0, none⟩ = some y) (h3 : w.cell? ⟨c, 0, none⟩ = some z) :
    (((w.setCell ⟨a, 0, none⟩ x').setCell ⟨b, 0, none⟩ y').setCell ⟨c, 0, none⟩ z').cell? ⟨a, 0, none⟩ = some x' ∧ (((w.setCell ⟨a, 0, none⟩ x').setCell ⟨b, 0, none⟩ y').setCell ⟨c, 0, none⟩ z').cell? ⟨b, 0, none⟩ = some y' ∧ (((w.setCell ⟨a, 0, none⟩ x').setCell ⟨b, 0, none⟩ y').setCell ⟨c, 0, none⟩ z').cell? ⟨c, 0, none⟩ = some z' := by
  have e2 : (w.setCell ⟨a, 0, none⟩ x').cell? ⟨b, 0, none⟩ = some y := by rw [World.cell?_setCell_other _ _ _ _ (addr_ne hab)]; exact h2
  have e3 : ((w.setCell ⟨a, 0, none⟩ x').setCell ⟨b, 0, none⟩ y').cell? ⟨c, 0, none⟩ = some z := by rw [World.cell?_setCell_other _ _ _ _ (addr_ne hbc), World.cell?_setCell_other _ _ _ _ (addr_ne hac)]; exact h3
  refine ⟨?_, ?_, ?_⟩
  · rw [World.cell?_setCell_other _ _ _ _ (addr_ne hac.symm), World.cell?_setCell_other _ _ _ _ (addr_ne hab.symm)]; exact World.cell?_setCell_same _ _ _ h1
  · rw [World.cell?_setCell_other _ _ _ _ (addr_ne hbc.symm)]; exact World.cell?_setCell_same _ _ _ e2
  · exact World.cell?_setCell_same _ _ _ e3
/-- Four blocks laid one after another. -/
structure Four (w W : World) (A B C D : Obj) : Prop where
  h0 : W.heap[w.heap.size]? = some A
  h1 : W.heap[w.heap.size + 1]? = some B
  h2 : W.heap[w.heap.size + 1 + 1]? = some C
  h3 : W.heap[w.heap.size + 1 + 1 + 1]? = some D
  size : W.heap.size = w.heap.size + 1 + 1 + 1 + 1
  bel : Below w.heap.size w W
theorem four (w : World) (A B C D : Obj) : Four w ((((w.alloc A).alloc B).alloc C).alloc D) A B C D := by
  have e1 := alloc_size w A
  have e2 := alloc_size (w.alloc A) B
  have e3 := alloc_size ((w.alloc A).alloc B) C
  have e4 := alloc_size (((w.alloc A).alloc B).alloc C) D
  rw [e1] at e2
  rw [e2] at e3
  rw [e3] at e4
  refine ⟨?_, ?_, ?_, ?_, e4, ?_⟩
  · rw [heap_alloc_old _ D (by omega), heap_alloc_old _ C (by omega)]; exact heap_alloc2_old w A B
  · rw [heap_alloc_old _ D (by omega), heap_alloc_old _ C (by omega)]; exact heap_alloc2_new w A B
  · rw [heap_alloc_old _ D (by omega), ← e2]; exact heap_alloc_new _ C
  · rw [← e3]; exact heap_alloc_new _ D
  · exact ((((Below.refl _ w).alloc (by omega) A).alloc (by omega) B).alloc (by omega) C).alloc (by omega) D

end Go.Proofs.YtialoobnjfbboaaDoor
