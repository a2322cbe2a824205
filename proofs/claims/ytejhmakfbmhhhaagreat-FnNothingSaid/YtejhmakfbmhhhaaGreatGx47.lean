/- Walks and mathematics that several claims share, part 47. -/
import Derived.Test.YtejhmakfbmhhhaaGreatGx44
import Derived.Test.YtejhmakfbmhhhaaGreatGx43
import Derived.Test.YtejhmakfbmhhhaaGreatGxA
namespace Go.Proofs.YtejhmakfbmhhhaaGreat
set_option maxRecDepth 100000
open Go.RowKit

set_option maxHeartbeats 20000000 in
theorem implTotal (w : World) (B : Nat) (av ao : Option Addr) (nv cv no co : Nat) (xs : List Int) (l : List OpV) (hx : Ints w B av nv xs) (h : Ops w B ao no l) (hB : B ≤ w.heap.size) (hv : nv ≤ 1048576) (hc : no ≤ co) (hc2 : Fits no co) (hm : ∀ o ∈ l, o.item.size ≤ 1048576) : Calls Tryz.prog 9 #[.agg #[.slice av nv cv, .slice ao no co]] w fun e w' => e = .returned (.int .i64 (totalN xs l)) ∧ Below w.heap.size w w' := by
 have hb0 : Below w.heap.size w (w.alloc (.cells #[.slice av nv cv, .slice ao no co] 27)) := (Below.refl _ w).alloc (Nat.le_refl _) _
 have HV := Lib.hid (hx.below hb0 hB)
 have HO := Lib.hid (h.below hb0 hB)
 have HB := Lib.hid hb0
 clear hx h hb0
 go_enter Tryz.func9, Tryz.ntmps9
 go_wp2_with fail
 generalize w.alloc (.cells #[.slice av nv cv, .slice ao no co] 27) = w0 at HV HO HB ⊢
 refine (implLines w0 B av ao nv cv no co xs l HV.out HO.out (Nat.le_trans hB HB.out.size) hv hc hc2 hm).mono ?_
 rintro e w1 ⟨a, c, rfl, hls, hb⟩
 have HB1 := Lib.hid (HB.out.trans (hb.mono HB.out.size))
 have HQ : Hid (∀ k, k < (linesN xs l).length → 0 ≤ ((linesN xs l).getD k LnV.zero).qty ∧ ((linesN xs l).getD k LnV.zero).qty ≤ 999) := fun k hk => linesN_qty hk
 have HTt : Hid (totalN xs l = totTo (linesN xs l) (linesN xs l).length) := rfl
 have hll : (linesN xs l).length ≤ 160 := by unfold linesN; rw [List.length_map]; exact itemsN_len
 generalize linesN xs l = L at hls HQ HTt hll ⊢
 have HL := Lib.hid hls.rows
 clear hls hb HV HO HB
 go_wp2
 go_loopw [3, 9] (fun s i wr => ∃ (k : Nat) (z : Int), k ≤ L.length ∧ i = .int .i64 (k : Int) ∧ s = .int .i64 z ∧ Hid (totTo L k = z) ∧ Hid (Below w1.heap.size w1 wr)) (fun _ i _ => L.length - (intOf i).toNat)
 case atStart => exact ⟨0, 0, Nat.zero_le _, rfl, rfl, rfl, Below.refl _ _⟩
 case round =>
  obtain ⟨k, z, hk, rfl, rfl, HZ, HBr⟩ := hrel
  by_cases hlt : k < L.length
  rotate_left
  ·obtain rfl : k = L.length := by omega
   have HF : Hid (totalN xs l = z) := HTt.out.trans HZ.out
   have HBf := Lib.hid (HB1.out.trans (HBr.out.mono HB1.out.size))
   go_wp2
   go_ret
   exact ⟨by rw [HF.out]; rfl, HBf.out⟩
  obtain ⟨b, off, rfl, hb, ho⟩ := (HL.out.below HBr.out (Nat.le_refl _)).2 k hlt
  obtain ⟨d0, d1, d2⟩ := ho
  have hki : (k : Int) < (L.length : Int) := by omega
  have hq := HQ.out k hlt
  have hz := totTo_bound HQ.out k (by omega)
  rw [HZ.out] at hz
  have HStep := Lib.hid (totTo_step L k)
  generalize L.getD k LnV.zero = y at d0 d1 d2 hq HStep
  obtain ⟨hq1, hq2⟩ := hq
  obtain ⟨hz1, hz2⟩ := hz
  have HBn : Hid (∀ C, Below w1.heap.size w1 (wr.alloc C)) := fun C => HBr.out.alloc HBr.out.size C
  rcases hsv : y.saved with _ | _
  ·have HE : Hid (totTo L (k + 1) = z + y.qty) := by show _ = _; rw [HStep.out, hsv, HZ.out]; rfl
   rw [hsv] at d2
   clear hsv HStep
   go_wp2
   go_roundw
   case rel => exact ⟨k + 1, z + y.qty, by omega, by go_num, rfl, HE, HBn.out _⟩
   case measure => simp [intOf]; omega
  ·have HE : Hid (totTo L (k + 1) = z) := by show _ = _; rw [HStep.out, hsv, HZ.out]; rfl
   rw [hsv] at d2
   clear hsv HStep
   go_wp2
   go_roundw
   case rel => exact ⟨k + 1, z, by omega, by go_num, rfl, HE, HBn.out _⟩
   case measure => simp [intOf]; omega
end Go.Proofs.YtejhmakfbmhhhaaGreat
