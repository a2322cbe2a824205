/- The iterator impl.liveOps: it yields the live operations of a valid cart, in order. -/
import Derived.Test.YtdbdmfaphdjdpaaCartSpecW
import Derived.Test.YtdbdmfaphdjdpaaLiveMath
import Derived.RangeFuncNested
import Derived.RangeFuncBound
import Derived.RangeFuncCalls
import Derived.RangeFuncLeaves
import Derived.Shelf.Abstract
import Derived.Shelf.RegionOpen
import Derived.OwnWalkIn
import Derived.TacticsInMore
import Derived.LoopNIn
import Derived.LoopIn
namespace Go.Proofs.Ytdbdmfaphdjdpaa
open Go.RowKit Go.Shelf
attribute [local go_sem] Oper.semAt_some

/-- How the iterator ends: all live operations of a valid cart have come, or a round has said that it wants no more. -/
def LivePost (xs : List Int) (l : List OpV) (J Jx : List OpV → World → Prop) (e : Ending) (W' : World) : Prop :=
  (∃ v, e = .returned v) ∧ ((∃ ys, ys = (if cartB xs l = true then liveTo l l.length else []) ∧ J ys W') ∨ (∃ pre : List OpV, True ∧ Jx pre W'))
theorem live_post_no {xs : List Int} {l : List OpV} {J Jx : List OpV → World → Prop} {v : Value} {W' : World} (h : cartB xs l = false) (hJ : J [] W') : LivePost xs l J Jx (.returned v) W' :=
  ⟨⟨_, rfl⟩, .inl ⟨[], by rw [h]; rfl, hJ⟩⟩
theorem live_post_all {xs : List Int} {l : List OpV} {J Jx : List OpV → World → Prop} {v : Value} {W' : World} (h : cartB xs l = true) (hJ : J (liveTo l l.length) W') : LivePost xs l J Jx (.returned v) W' :=
  ⟨⟨_, rfl⟩, .inl ⟨_, by rw [if_pos h], hJ⟩⟩
theorem live_post_stop {xs : List Int} {l : List OpV} {J Jx : List OpV → World → Prop} {v : Value} {W' : World} (pre : List OpV) (hJ : Jx pre W') : LivePost xs l J Jx (.returned v) W' :=
  ⟨⟨_, rfl⟩, .inr ⟨pre, trivial, hJ⟩⟩
theorem getD_memV {l : List OpV} {k : Nat} (h : k < l.length) : l.getD k OpV.zero ∈ l := by
  rw [List.getD_eq_getElem?_getD, List.getElem?_eq_getElem h]
  exact List.getElem_mem h
theorem below_grown {w w' : World} (h : Below w.heap.size w w') : w.grownBy w' none := ⟨h.os, h.tape, h.output, h.size, fun k hk _ => h.block k hk⟩

end Go.Proofs.Ytdbdmfaphdjdpaa
