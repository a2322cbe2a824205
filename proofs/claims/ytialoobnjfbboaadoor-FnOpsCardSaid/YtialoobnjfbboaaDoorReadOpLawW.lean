/- The walk of the law FnExactReadOp. -/
import Derived.Test.YtialoobnjfbboaaDoorReadOpW
import Derived.Test.YtialoobnjfbboaaDoorSpecReadY
import Derived.Test.YtialoobnjfbboaaDoorReadLawW
namespace Go.Proofs.YtialoobnjfbboaaDoor
open Go.RowKit

theorem OpIs.eq {s : ByteArray} {p : Nat} {dev seq stamp kind : Int} {item : ByteArray} {qty level undos : Int} {q : Nat} {dev' seq' stamp' kind' : Int} {item' : ByteArray} {qty' level' undos' : Int} {q' : Nat}
    (h : OpIs s p dev seq stamp kind item qty level undos q) (h' : OpIs s p dev' seq' stamp' kind' item' qty' level' undos' q') : dev' = dev ∧ seq' = seq ∧ stamp' = stamp ∧ kind' = kind ∧ item' = item ∧ qty' = qty ∧ level' = level ∧ undos' = undos ∧ q' = q := by
  obtain ⟨n0, q1, n1, q2, n2, q3, n3, q4, q5, n5, q6, n6, q7, n7, h0, h1, h2, h3, h4, h5, h6, h7, rfl, rfl, rfl, rfl, rfl, rfl, rfl, _⟩ := h
  obtain ⟨m0, r1, m1, r2, m2, r3, m3, r4, r5, m5, r6, m6, r7, m7, g0, g1, g2, g3, g4, g5, g6, g7, rfl, rfl, rfl, rfl, rfl, rfl, rfl, _⟩ := h'
  obtain ⟨rfl, rfl⟩ := h0.eq g0
  obtain ⟨rfl, rfl⟩ := h1.eq g1
  obtain ⟨rfl, rfl⟩ := h2.eq g2
  obtain ⟨rfl, rfl⟩ := h3.eq g3
  obtain ⟨rfl, rfl⟩ := h4.eq g4
  obtain ⟨rfl, rfl⟩ := h5.eq g5
  obtain ⟨rfl, rfl⟩ := h6.eq g6
  obtain ⟨rfl, rfl⟩ := h7.eq g7
  exact ⟨rfl, rfl, rfl, rfl, rfl, rfl, rfl, rfl, rfl⟩

end Go.Proofs.YtialoobnjfbboaaDoor
