/- spec.History, with the capacity of its answer. -/
import Derived.Test.YtmceofdknphgkaaGpSortC
import Derived.Deep.Cut
import Derived.Test.YtmceofdknphgkaaGpS
namespace Go.Proofs.Ytmceofdknphgkaa
open Go.RowKit

set_option linter.unusedSimpArgs false in
set_option maxRecDepth 100000 in
set_option maxHeartbeats 4000000 in
theorem specHistoryC (w : World) (B : Nat) (av ao : Option Addr) (nv cv no co : Nat) (xs : List Int) (l : List OpV) (hx : Ints w B av nv xs) (h : Ops w B ao no l) (hB : B ≤ w.heap.size) (hv : nv ≤ 1048576) (hn : no ≤ 1048576) (hm : ∀ i, i < no → (atOp l i).item.size ≤ 1048576) :
    Calls Try.prog 31 #[.agg #[.slice av nv cv, .slice ao no co]] w (OpsPostS (histL xs l) w) := by
  have hb0 : Below w.heap.size w (w.alloc (.cells #[.slice av nv cv, .slice ao no co] 27)) := (Below.refl _ w).alloc (Nat.le_refl _) _
  have HV := Lib.hid (hx.below hb0 hB)
  have HO := Lib.hid (h.below hb0 hB)
  have HB := Lib.hid hb0
  have HX := Lib.hid (boxAt (Below.refl _ (w.alloc (.cells #[.slice av nv cv, .slice ao no co] 27))))
  have HL := Lib.hid h.1
  have HM := Lib.hid hm
  have hsz : w.heap.size + 1 ≤ (w.alloc (.cells #[.slice av nv cv, .slice ao no co] 27)).heap.size := by show _ ≤ (w.heap.push _).size; simp
  clear hx h hb0 hm
  go_enter Try.func31, Try.ntmps31
  go_wp2_with fail
  generalize w.alloc (.cells #[.slice av nv cv, .slice ao no co] 27) = w0 at HV HO HB HX hsz ⊢
  refine (specCartOk w0 B av ao nv cv no co xs l HV.out HO.out (by omega) hv hn HM.out).mono ?_
  rintro e w1 ⟨rfl, hb1⟩
  have HB1 := Lib.hid (HB.out.trans (hb1.mono (by omega)))
  have HO1 := Lib.hid (HO.out.below hb1 (by omega))
  have HX1 := Lib.hid ((hb1.block _ (Array.getElem?_eq_some_iff.1 HX.out).1).trans HX.out)
  have hs1 := hb1.size
  clear hb1 HV HO HB HX
  rcases hcb : cartB xs l with _ | _
  · have HF := Lib.hid (hist_no hcb)
    clear hcb
    go_wp2
    go_ret
    exact ⟨_, _, by rw [HF.out]; rfl, by rw [HF.out]; exact Nat.zero_le _, by rw [HF.out]; exact own_none _ _ _ _, by first | exact HB1.out | exact HB1.out.alloc (by omega) _ | exact (HB1.out.alloc (by omega) _).drew⟩
  · have HF := Lib.hid (hist_yes hcb)
    clear hcb
    obtain ⟨c0, c1⟩ := pair_cells HX1.out
    go_wp2_with fail
    refine (l8SortC w1 B ao no co l HO1.out (by omega) hn).mono ?_
    rintro e w2 ⟨a, c, rfl, hcc, hown, hb2⟩
    have hLn : no = l.length := HL.out.symm
    rw [hLn] at hown hcc ⊢
    rw [← HF.out] at hown hcc ⊢
    have HOo := Lib.hid (hown.more (lo' := w.heap.size) (by omega) (Nat.le_refl _))
    have HB2 := Lib.hid (HB1.out.trans (hb2.mono (by omega)))
    clear hown hb2 c0 c1
    go_wp2
    go_ret
    exact ⟨a, c, rfl, hcc, HOo.out, HB2.out⟩
end Go.Proofs.Ytmceofdknphgkaa
