/- Walks and mathematics that several claims share, part 43. -/
import Derived.Test.YtejhmakfbmhhhaaGreatGx42
import Derived.Test.YtejhmakfbmhhhaaGreatGx37
import Derived.Test.YtejhmakfbmhhhaaGreatGx14
import Derived.Test.YtejhmakfbmhhhaaGreatGx26
import Derived.Test.YtejhmakfbmhhhaaGreatGx22
import Derived.Test.YtejhmakfbmhhhaaGreatGx32
import Derived.Sort.Walk0
import Derived.Deep.CutRange
import Derived.Deep.CutBlock
import Derived.Deep.Cut
import Derived.Test.YtejhmakfbmhhhaaGreatGxA
namespace Go.Proofs.YtejhmakfbmhhhaaGreat
open Go.RowKit
set_option linter.unusedVariables false

end Go.Proofs.YtejhmakfbmhhhaaGreat

namespace Go.Proofs.YtejhmakfbmhhhaaGreat
open Go.RowKit
set_option linter.unusedVariables false

theorem OwnStrs.grown {w w' : World} {lo hi base m : Nat} {a : Option Addr} {n : Nat} {l : List ByteArray} {v : Value} {xs : List Value} (h : OwnStrs w lo hi a n l) (hr : w.ownsRow base 33 3 v m xs) (hg : w.grownBy w' v.ownBlock) : OwnStrs w' lo hi a n l :=
 ⟨h.1, fun hn => by
  obtain ⟨g, off, cs, e, h1, h2, hb, r⟩ := h.2 hn
  refine ⟨g, off, cs, e, h1, h2, (hg.block g (Array.getElem?_eq_some_iff.1 hb).1 (fun e' => ?_)).trans hb, r⟩
  rcases hr.2 with ⟨e2, _⟩ | ⟨g', c, cur, e2, _, hg', _⟩
  ·rw [e2] at e'
   cases e'
  ·rw [e2] at e'
   have : g = g' := by simpa [Value.ownBlock] using e'
   subst this
   rw [hb] at hg'
   injection hg' with hg'
   injection hg' with _ ht _
   exact absurd ht (by decide)⟩
theorem itemsN_len {xs : List Int} {l : List OpV} : (itemsN xs l).length ≤ 160 := by
 unfold itemsN
 split
 ·rename_i h
  exact Nat.le_trans (namesTo_len l _) (cart_length h)
 ·simp
theorem itemsN_mem {xs : List Int} {l : List OpV} {x : ByteArray} (h : x ∈ itemsN xs l) : cartB xs l = true ∧ ∃ i, i < l.length ∧ (l.getD i OpV.zero).item = x := by
 unfold itemsN at h
 split at h
 ·rename_i hc
  obtain ⟨_, i, hi, e⟩ := (namesTo_mem l x _).1 h
  exact ⟨hc, i, hi, e⟩
 ·cases h
theorem qty_bound {o : OpV} (h : o.ok = true) : 0 ≤ o.qty ∧ o.qty ≤ 999 := by
 have h' : opB o.dev o.seq o.stamp o.kind o.item o.qty o.level o.undos = true := h
 unfold opB tailB at h'
 simp only [Bool.and_eq_true] at h'
 obtain ⟨_, _, hq, _⟩ := h'
 unfold qB at hq
 split at hq
 ·have := inB_iff.1 hq; omega
 ·have := of_decide_eq_true hq; omega
theorem linesN_qty {xs : List Int} {l : List OpV} {k : Nat} (hk : k < (linesN xs l).length) : 0 ≤ ((linesN xs l).getD k LnV.zero).qty ∧ ((linesN xs l).getD k LnV.zero).qty ≤ 999 := by
 have hm : (linesN xs l).getD k LnV.zero ∈ linesN xs l := by
  rw [List.getD_eq_getElem?_getD, List.getElem?_eq_getElem hk]
  exact List.getElem_mem hk
 generalize (linesN xs l).getD k LnV.zero = y at hm ⊢
 unfold linesN at hm
 obtain ⟨x, hx, rfl⟩ := List.mem_map.1 hm
 obtain ⟨hc, _⟩ := itemsN_mem hx
 show 0 ≤ (bestTo cntB x l l.length).qty ∧ (bestTo cntB x l l.length).qty ≤ 999
 rcases bestTo_from cntB x l l.length with h | ⟨i, hi, h⟩
 ·rw [h]; decide
 ·rw [h]
  exact qty_bound (cart_op hc hi)
/-- The sum of the first k lines that are not saved. -/
def totTo (L : List LnV) : Nat → Int
 | 0 => 0
 | k + 1 => if (L.getD k LnV.zero).saved = true then totTo L k else totTo L k + (L.getD k LnV.zero).qty
theorem totTo_bound {L : List LnV} (h : ∀ k, k < L.length → 0 ≤ (L.getD k LnV.zero).qty ∧ (L.getD k LnV.zero).qty ≤ 999) : ∀ k, k ≤ L.length → 0 ≤ totTo L k ∧ totTo L k ≤ 999 * (k : Int)
 | 0, _ => by simp [totTo]
 | k + 1, hk => by
  have ih := totTo_bound h k (by omega)
  have hq := h k (by omega)
  rw [totTo]
  split <;> omega
/-- What Total answers. -/
def totalN (xs : List Int) (l : List OpV) : Int := totTo (linesN xs l) (linesN xs l).length
theorem totTo_step (L : List LnV) (k : Nat) : totTo L (k + 1) = if (L.getD k LnV.zero).saved = true then totTo L k else totTo L k + (L.getD k LnV.zero).qty := rfl
end Go.Proofs.YtejhmakfbmhhhaaGreat
