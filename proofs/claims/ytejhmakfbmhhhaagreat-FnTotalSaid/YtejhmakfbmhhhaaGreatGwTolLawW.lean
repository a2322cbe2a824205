/- The walk of the law FnTotal. -/
import Derived.Test.YtejhmakfbmhhhaaGreatGw46
import Derived.Test.YtejhmakfbmhhhaaGreatGw47
import Derived.Deep.Cut
namespace Go.Proofs.YtejhmakfbmhhhaaGreat
open Go.RowKit
set_option linter.unusedVariables false
set_option linter.unusedSimpArgs false

set_option maxRecDepth 100000 in
set_option maxHeartbeats 16000000 in
theorem fnTotalWalk (a : Option Addr) (len cap : Nat) (zs : List Int) (w : World) (h : IsRow .u8 w a len cap zs) :
    Calls Tryz.prog 3 #[.slice a len cap] w fun e w' => e = .returned (.bool true) ∧ Below w.heap.size w w' := by
  by_cases hbig : len ≤ 1048576
  rotate_left
  · go_enter Tryz.func3, Tryz.ntmps3
    go_wp2_with fail
    refine (bigYes a len cap hbig w).mono ?_
    rintro e w' ⟨rfl, rfl⟩
    go_wp2
    go_ret
    exact ⟨rfl, Below.refl _ _⟩
  have hsrc := Lib.hid (src_of_row h hbig)
  clear h
  go_enter Tryz.func3, Tryz.ntmps3
  go_wp2_with fail
  refine (bigNo a len cap hbig w).mono ?_
  rintro e w' ⟨rfl, rfl⟩
  go_wp2_with fail
  refine (drawTotal w w.heap.size a len cap (Nat.le_refl _) hsrc.out).mono ?_
  rintro e w0 ⟨⟨ava, avc, aoa, ano, aoc⟩, rfl, hx, hb0⟩
  obtain ⟨xs, l, e1, a1, a2, a3, a4, a5, a6⟩ := hx
  have e1 : ano = l.length := e1
  subst e1
  have HVA0 := Lib.hid a1.ints
  have HOA0 := Lib.hid a2.ops
  have HB0 := Lib.hid hb0
  have HCv := Lib.hid a3
  have HCa := Lib.hid a4
  have HIa : Hid (∀ i, i < l.length → (atOp l i).item.size ≤ 1048576) := fun i hi => Nat.le_trans (a5 i hi) (by omega)
  have hs0 := hb0.size
  clear a1 a2 a3 a4 a5 hb0
  dsimp only
  go_upto_region 4 with fail
  have hb : Below w0.heap.size w0 (w0.alloc (.cells #[.slice ava 4 avc, .slice aoa l.length aoc] 27)) := (Below.refl _ _).alloc (Nat.le_refl _) _
  have HXa1 := Lib.hid (boxAt (Below.refl _ (w0.alloc (.cells #[.slice ava 4 avc, .slice aoa l.length aoc] 27))))
  generalize w0.alloc (.cells #[.slice ava 4 avc, .slice aoa l.length aoc] 27) = w1 at hb HXa1 ⊢
  have hs1 := hb.size
  have HVA1 := Lib.hid (HVA0.out.below hb (by omega))
  have HOA1 := Lib.hid (HOA0.out.below hb (by omega))
  have HB1 := Lib.hid (HB0.out.trans (hb.mono (by omega)))
  clear hb HVA0 HOA0 HB0
  have hit : ∀ o ∈ l, o.item.size ≤ 1048576 := fun o ho => by
    obtain ⟨i, hi, e⟩ := List.mem_iff_getElem.1 ho
    have := HIa.out i hi
    unfold atOp at this
    rw [List.getD_eq_getElem?_getD, List.getElem?_eq_getElem hi] at this
    rw [← e]
    exact this
  have HQ : Hid (∀ k, k < (linesN xs l).length → 0 ≤ ((linesN xs l).getD k LnV.zero).qty ∧ ((linesN xs l).getD k LnV.zero).qty ≤ 999) := fun k hk => linesN_qty hk
  have HTt : Hid (totalN xs l = totTo (linesN xs l) (linesN xs l).length) := rfl
  have hll : (linesN xs l).length ≤ 160 := by unfold linesN; rw [List.length_map]; exact itemsN_len
  obtain ⟨LL, hLL⟩ : ∃ x, linesN xs l = x := ⟨_, rfl⟩
  obtain ⟨tn, htn⟩ : ∃ x, totalN xs l = x := ⟨_, rfl⟩
  rw [hLL, htn] at HTt
  rw [hLL] at HQ hll
  have HLL := Lib.hid hLL
  have HTn := Lib.hid htn
  clear hLL htn
  obtain ⟨c00, c01⟩ := pair_cells HXa1.out
  go_wp2_with fail
  have hc := implTotal w1 w1.heap.size ava aoa 4 avc l.length aoc xs l (HVA1.out.more (by omega)) (HOA1.out.more (by omega)) (Nat.le_refl _) (by omega) HCa.out.1 ⟨by omega, HCa.out.2.1⟩ hit
  rw [HTn.out] at hc
  refine hc.mono ?_
  clear hc
  rintro e w2 ⟨rfl, hb⟩
  clear c00 c01
  have hs2 := hb.size
  have HVA2 := Lib.hid (HVA1.out.below hb (by omega))
  have HOA2 := Lib.hid (HOA1.out.below hb (by omega))
  have HB2 := Lib.hid (HB1.out.trans (hb.mono (by omega)))
  have HXa2 := Lib.hid ((hb.block _ (lt_of_row HXa1.out)).trans HXa1.out)
  clear hb HVA1 HOA1 HB1 HXa1
  obtain ⟨c00, c01⟩ := pair_cells HXa2.out
  go_wp2_with fail
  have hc := specTotal w2 w2.heap.size ava aoa 4 avc l.length aoc xs l (HVA2.out.more (by omega)) (HOA2.out.more (by omega)) (Nat.le_refl _) (by omega) (by omega) HIa.out
  rw [HTn.out] at hc
  refine hc.mono ?_
  clear hc
  rintro e w3 ⟨rfl, hb⟩
  clear c00 c01
  have hs3 := hb.size
  have HVA3 := Lib.hid (HVA2.out.below hb (by omega))
  have HOA3 := Lib.hid (HOA2.out.below hb (by omega))
  have HB3 := Lib.hid (HB2.out.trans (hb.mono (by omega)))
  have HXa3 := Lib.hid ((hb.block _ (lt_of_row HXa2.out)).trans HXa2.out)
  clear hb HVA2 HOA2 HB2 HXa2
  have hn1 : (tn != tn) = false := bne_self_eq_false _
  obtain ⟨c00, c01⟩ := pair_cells HXa3.out
  go_wp2_with fail
  have hc := implLines w3 w3.heap.size ava aoa 4 avc l.length aoc xs l (HVA3.out.more (by omega)) (HOA3.out.more (by omega)) (Nat.le_refl _) (by omega) HCa.out.1 ⟨by omega, HCa.out.2.1⟩ hit
  unfold LnPost at hc
  rw [HLL.out] at hc
  refine hc.mono ?_
  clear hc
  rintro e w4 ⟨la, lc, rfl, hls, hb⟩
  clear c00 c01
  have hs4 := hb.size
  have HVA4 := Lib.hid (HVA3.out.below hb (by omega))
  have HOA4 := Lib.hid (HOA3.out.below hb (by omega))
  have HB4 := Lib.hid (HB3.out.trans (hb.mono (by omega)))
  have HXa4 := Lib.hid ((hb.block _ (lt_of_row HXa3.out)).trans HXa3.out)
  clear hb HVA3 HOA3 HB3 HXa3
  have HL := Lib.hid hls.rows
  clear hls
  go_wp2
  go_loopw [4, 6] (fun s i wr => ∃ (q : Nat) (z : Int), q ≤ LL.length ∧ i = .int .i64 (q : Int) ∧ s = .int .i64 z ∧ Hid (totTo LL q + z = tn) ∧ wr = w4) (fun _ i _ => LL.length - (intOf i).toNat)
  case atStart => exact ⟨0, tn, Nat.zero_le _, rfl, rfl, Int.zero_add _, rfl⟩
  case round =>
    obtain ⟨q, z, hq, rfl, rfl, HZ, rfl⟩ := hrel
    have hzt := totTo_bound HQ.out LL.length (Nat.le_refl _)
    rw [← HTt.out] at hzt
    obtain ⟨hzt1, hzt2⟩ := hzt
    have hz := totTo_bound HQ.out q (by omega)
    obtain ⟨hz1, hz2⟩ := hz
    by_cases hlt : q < LL.length
    rotate_left
    · obtain rfl : q = LL.length := by omega
      obtain rfl : z = 0 := by have := HZ.out; have := HTt.out; omega
      go_wp2
      go_ret
      exact ⟨rfl, HB4.out⟩
    obtain ⟨b, off, rfl, hb, ho⟩ := HL.out.2 q hlt
    obtain ⟨d0, d1, d2⟩ := ho
    have hki : (q : Int) < (LL.length : Int) := by omega
    have hqy := HQ.out q hlt
    have HStep := Lib.hid (totTo_step LL q)
    generalize LL.getD q LnV.zero = y at d0 d1 d2 hqy HStep
    obtain ⟨hq1, hq2⟩ := hqy
    have hzz := HZ.out
    obtain ⟨T, hT⟩ : ∃ t, totTo LL q = t := ⟨_, rfl⟩
    rw [hT] at hz1 hz2 hzz HStep
    have hwr : IntKind.i64.wrap (z - y.qty) = z - y.qty := IntWalk.i64_in _ (by omega)
    rcases hsv : y.saved with _ | _
    · have HE : Hid (totTo LL (q + 1) + (z - y.qty) = tn) := by show _ = _; rw [HStep.out, hsv]; simp only [Bool.false_eq_true, if_false]; omega
      rw [hsv] at d2
      clear hsv HStep hT
      go_wp2
      go_roundw
      case rel => exact ⟨q + 1, z - y.qty, by omega, by go_num, by go_num, HE, trivial⟩
      case measure => simp [intOf]; omega
    · have HE : Hid (totTo LL (q + 1) + z = tn) := by show _ = _; rw [HStep.out, hsv]; simp only [if_true]; omega
      rw [hsv] at d2
      clear hsv HStep hT
      go_wp2
      go_roundw
      case rel => exact ⟨q + 1, z, by omega, by go_num, rfl, HE, trivial⟩
      case measure => simp [intOf]; omega
end Go.Proofs.YtejhmakfbmhhhaaGreat
