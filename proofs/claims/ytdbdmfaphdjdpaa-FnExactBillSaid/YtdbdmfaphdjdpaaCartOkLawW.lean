/- The walks of laws.eqCart on carts that are the same, and of the law FnExactCartOk. -/
import Derived.Test.YtdbdmfaphdjdpaaCartSpecW
import Derived.Test.YtdbdmfaphdjdpaaBeforeW
import Derived.Deep.Cut
import Derived.Deep.RegionHeld3
namespace Go.Proofs.Ytdbdmfaphdjdpaa
open Go.RowKit

set_option maxRecDepth 100000 in
set_option maxHeartbeats 1000000 in
theorem eqCartV (w : World) (a a' o o' : Option Addr) (c c' d d' : Nat) (xs : List Int) (l : List OpV) (h1 : Ints w w.heap.size a xs.length xs) (h2 : Ints w w.heap.size a' xs.length xs) (h3 : Ops w w.heap.size o l.length l) (h4 : Ops w w.heap.size o' l.length l) (hx : xs.length ≤ 1048576) (hl : l.length ≤ 1048576) : Calls Try.prog 11 #[.agg #[.slice a xs.length c, .slice o l.length d], .agg #[.slice a' xs.length c', .slice o' l.length d']] w fun e w' => e = .returned (.bool true) ∧ Below w.heap.size w w' := by
  have hT := Two.mk0 w #[.slice a xs.length c, .slice o l.length d] #[.slice a' xs.length c', .slice o' l.length d'] 29
  have H1 := Lib.hid (h1.below hT.bel (Nat.le_refl _))
  have H2 := Lib.hid (h2.below hT.bel (Nat.le_refl _))
  have H3 := Lib.hid (h3.below hT.bel (Nat.le_refl _))
  have H4 := Lib.hid (h4.below hT.bel (Nat.le_refl _))
  have HT := Lib.hid hT
  clear h1 h2 h3 h4 hT
  go_enter Try.func11, Try.ntmps11
  go_wp2_with fail
  generalize (w.alloc (.cells #[.slice a xs.length c, .slice o l.length d] 29)).alloc (.cells #[.slice a' xs.length c', .slice o' l.length d'] 29) = w0 at H1 H2 H3 H4 HT ⊢
  refine (eqInts w0 _ _ _ _ _ _ _ _ xs xs H1.out H2.out hx hx).mono ?_
  rintro e w1 ⟨rfl, hS⟩
  rw [decide_eq_true rfl]
  have HT1 := Lib.hid (HT.out.next (hS.below _))
  have H31 := Lib.hid (H3.out.kept fun k _ => hS.block k)
  have H41 := Lib.hid (H4.out.kept fun k _ => hS.block k)
  clear hS H1 H2 H3 H4 HT
  have hc1 := pair_cells HT1.out.fst
  have hc2 := pair_cells HT1.out.snd
  obtain ⟨c0, c1⟩ := hc1
  obtain ⟨d0, d1⟩ := hc2
  have hsz := HT1.out.bel.size
  go_wp2_with fail
  refine (eqOpsV w1 _ _ _ _ _ _ _ l H31.out H41.out (by omega) (by omega) hl).mono ?_
  rintro e w2 ⟨rfl, hb⟩
  have HB := Lib.hid (HT1.out.bel.trans (hb.mono HT1.out.bel.size))
  clear hb c0 c1 d0 d1
  go_wp2
  go_ret
  exact ⟨rfl, HB.out⟩
theorem total_item {l : List OpV} {t : Nat} (h : opsTotal l ≤ t) : l.length ≤ t ∧ ∀ i, i < l.length → (atOp l i).item.size ≤ t := by
  unfold opsTotal at h
  refine ⟨by omega, fun i hi => ?_⟩
  have h1 := itemsTo_step (l := l) (k := i) hi
  have h2 := itemsTo_le l (i + 1) l.length hi (Nat.le_refl _)
  have e : (atOp l i).item.size = (l.getD i OpV.zero).item.size := rfl
  omega

end Go.Proofs.Ytdbdmfaphdjdpaa
