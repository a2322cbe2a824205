/- What a cut cart holds: mathematics. -/
import Derived.Test.YtmceofdknphgkaaGa19
import Derived.Test.YtmceofdknphgkaaGlp5
import Derived.Test.YtmceofdknphgkaaGlp1
import Derived.Test.YtmceofdknphgkaaGa25
import Derived.Test.YtmceofdknphgkaaGlp2
import Derived.Test.YtmceofdknphgkaaGlp4
namespace Go.Proofs.Ytmceofdknphgkaa
open Go.RowKit

/-- Does the vector count the operation? -/
def cutP (v : List Int) (o : OpV) : Bool := decide (o.seq ≤ v.getD o.dev.toNat 0)
def cutB (xs : List Int) (l : List OpV) (v : List Int) : Bool := cartB xs l && vecOk v
def cutVs (xs v : List Int) (ok : Bool) : List Int := if ok = true then zipI min xs v else []
def cutOs (l : List OpV) (v : List Int) (ok : Bool) : List OpV := if ok = true then l.filter (cutP v) else []
theorem cutVs_len {l : List OpV} (xs v : List Int) {R : Bool} (h : cutB xs l v = R) : (cutVs xs v R).length ≤ 4 := by
  unfold cutVs
  split
  · rename_i hR
    subst hR
    unfold cutB at h
    rw [Bool.and_eq_true] at h
    unfold zipI
    rw [List.length_zipWith]
    have := (vec_at h.2 (d := 0) (by omega)).2.2
    omega
  · exact Nat.zero_le _
theorem cutOs_len {l : List OpV} {v : List Int} {N : Nat} (h : l.length ≤ N) (R : Bool) : (cutOs l v R).length ≤ N := by
  unfold cutOs
  split
  · exact Nat.le_trans (List.length_filter_le _ _) h
  · exact Nat.zero_le _
theorem cut_items {q : OpV → Bool} {m : List OpV} {N : Nat} (h : ∀ i, i < m.length → (atOp m i).item.size ≤ N) : ∀ i, i < (m.filter q).length → ((m.filter q).getD i OpV.zero).item.size ≤ N := fun i hi => by
  rw [List.getD_eq_getElem?_getD, List.getElem?_eq_getElem hi]
  have hm : (m.filter q)[i] ∈ m := (List.mem_filter.1 (List.getElem_mem hi)).1
  obtain ⟨j, hj, e⟩ := List.mem_iff_getElem.1 hm
  have := h j hj
  unfold atOp at this
  rw [List.getD_eq_getElem?_getD, List.getElem?_eq_getElem hj] at this
  rw [← e]
  exact this
end Go.Proofs.Ytmceofdknphgkaa
