/- The walk of the law FnDeltaLess. -/
import Derived.Test.YtmceofdknphgkaaGa34
import Derived.Test.YtmceofdknphgkaaGdp11
import Derived.Test.YtmceofdknphgkaaGdDlsM
import Derived.Test.YtmceofdknphgkaaGdDelA
import Derived.Test.YtmceofdknphgkaaGa23
import Derived.Test.YtmceofdknphgkaaGdp5
import Derived.Test.YtmceofdknphgkaaGdp4
import Derived.Test.YtmceofdknphgkaaGdp0
import Derived.Test.YtmceofdknphgkaaGa25
import Derived.Test.YtmceofdknphgkaaGdp8
import Derived.Test.YtmceofdknphgkaaGdp9
import Derived.Test.YtmceofdknphgkaaGdp7
import Derived.Deep.Cut
namespace Go.Proofs.Ytmceofdknphgkaa
open Go.RowKit
set_option linter.unusedVariables false
set_option linter.unusedSimpArgs false

set_option maxRecDepth 100000 in
set_option maxHeartbeats 16000000 in
theorem fnDeltaLessWalk (a : Option Addr) (len cap : Nat) (zs : List Int) (w : World) (h : IsRow .u8 w a len cap zs) :
    Calls Try.prog 3 #[.slice a len cap] w fun e w' => e = .returned (.bool true) ∧ Below w.heap.size w w' := by
  by_cases hbig : len ≤ 1048576
  rotate_left
  · go_enter Try.func3, Try.ntmps3
    go_wp2_with fail
    refine (bigYes a len cap hbig w).mono ?_
    rintro e w' ⟨rfl, rfl⟩
    go_wp2
    go_ret
    exact ⟨rfl, Below.refl _ _⟩
  have hsrc := Lib.hid (src_of_row h hbig)
  clear h
  go_enter Try.func3, Try.ntmps3
  go_wp2_with fail
  refine (bigNo a len cap hbig w).mono ?_
  rintro e w' ⟨rfl, rfl⟩
  go_wp2_with fail
  refine (drawDeltaOf w w.heap.size a len cap (Nat.le_refl _) hsrc.out).mono ?_
  rintro e w0 ⟨⟨ava, avc, aoa, ano, aoc⟩, ⟨bva, bvc, boa, bno, boc⟩, rfl, hx, hy, hb0⟩
  obtain ⟨xs, l, e1, a1, a2, a3, a4, a5, a6⟩ := hx
  obtain ⟨ys, m, e2, b1, b2, b3, b4, b5, b6⟩ := hy
  have e1 : ano = l.length := e1
  have e2 : bno = m.length := e2
  subst e1 e2
  have HVA0 := Lib.hid a1.ints
  have HOA0 := Lib.hid a2.ops
  have HVB0 := Lib.hid b1.ints
  have HOB0 := Lib.hid b2.ops
  have HB0 := Lib.hid hb0
  have HCa := Lib.hid a4
  have HCb := Lib.hid b4
  have HIa : Hid (∀ i, i < l.length → (atOp l i).item.size ≤ 1048576) := fun i hi => Nat.le_trans (a5 i hi) (by omega)
  have HIb : Hid (∀ i, i < m.length → (atOp m i).item.size ≤ 1048576) := fun i hi => Nat.le_trans (b5 i hi) (by omega)
  have hs0 := hb0.size
  clear a1 a2 a3 a4 a5 b1 b2 b3 b4 b5 hb0
  dsimp only
  go_upto_region 4 with fail
  have hT := Two.mk0 w0 #[.slice ava 4 avc, .slice aoa l.length aoc] #[.slice bva 4 bvc, .slice boa m.length boc] 27
  have HXa1 := Lib.hid hT.fst
  have HXb1 := Lib.hid hT.snd
  have hb := hT.bel
  clear hT
  generalize (w0.alloc (.cells #[.slice ava 4 avc, .slice aoa l.length aoc] 27)).alloc (.cells #[.slice bva 4 bvc, .slice boa m.length boc] 27) = w1 at hb HXa1 HXb1 ⊢
  have hs1 := hb.size
  have HVA1 := Lib.hid (HVA0.out.below hb (by omega))
  have HOA1 := Lib.hid (HOA0.out.below hb (by omega))
  have HVB1 := Lib.hid (HVB0.out.below hb (by omega))
  have HOB1 := Lib.hid (HOB0.out.below hb (by omega))
  have HB1 := Lib.hid (HB0.out.trans (hb.mono (by omega)))
  clear hb HVA0 HOA0 HVB0 HOB0 HB0
  obtain ⟨R, hR⟩ : ∃ R, mergedB xs l ys m = R := ⟨_, rfl⟩
  have HR := Lib.hid hR
  obtain ⟨vs, hvs⟩ : ∃ vs, delVs xs R = vs := ⟨_, rfl⟩
  have hx4 : xs.length = 4 := HVA1.out.1
  obtain ⟨os, hos⟩ : ∃ os, delOs l m R = os := ⟨_, rfl⟩
  have HVs := Lib.hid hvs
  have HOs := Lib.hid hos
  have hlv : vs.length ≤ 4 := by rw [← hvs]; exact delVs_len (Nat.le_of_eq hx4) R
  have hlo : os.length ≤ 400 := by rw [← hos]; exact delOs_len a6 R
  clear hR hvs hos hx4
  obtain ⟨c00, c01⟩ := pair_cells HXa1.out
  obtain ⟨c10, c11⟩ := pair_cells HXb1.out
  go_wp2_with fail
  have hc := implDelta w1 w1.heap.size ava aoa bva boa 4 avc l.length aoc 4 bvc m.length boc xs l ys m (HVA1.out.more (by omega)) (HOA1.out.more (by omega)) (HVB1.out.more (by omega)) (HOB1.out.more (by omega)) (Nat.le_refl _) (by omega) HCa.out.1 ⟨by omega, HCa.out.2.1⟩ HIa.out (by omega) HCb.out.1 ⟨by omega, HCb.out.2.1⟩ HIb.out
  rw [HR.out, HVs.out, HOs.out] at hc
  refine hc.mono ?_
  clear hc
  rintro e w2 ⟨dva, dvc, doa, doc, mid, rfl, hov, hop, hm1, hm2, hb⟩
  clear c00 c01 c10 c11
  have hov := hov.more (Nat.le_refl _) hm2
  clear hm1 hm2
  have hs2 := hb.size
  have HVA2 := Lib.hid (HVA1.out.below hb (by omega))
  have HOA2 := Lib.hid (HOA1.out.below hb (by omega))
  have HVB2 := Lib.hid (HVB1.out.below hb (by omega))
  have HOB2 := Lib.hid (HOB1.out.below hb (by omega))
  have HB2 := Lib.hid (HB1.out.trans (hb.mono (by omega)))
  have HXa2 := Lib.hid ((hb.block _ (lt_of_row HXa1.out)).trans HXa1.out)
  have HXb2 := Lib.hid ((hb.block _ (lt_of_row HXb1.out)).trans HXb1.out)
  clear hb HVA1 HOA1 HVB1 HOB1 HB1 HXa1 HXb1
  have HVD2 := Lib.hid hov.ints
  have HOD2 := Lib.hid hop.ops
  clear hov hop
  go_upto_region 5 with fail
  have hb : Below w2.heap.size w2 (w2.alloc (.cells #[.slice dva vs.length dvc, .slice doa os.length doc] 27)) := (Below.refl _ _).alloc (Nat.le_refl _) _
  have HXd3 := Lib.hid (boxAt (Below.refl _ (w2.alloc (.cells #[.slice dva vs.length dvc, .slice doa os.length doc] 27))))
  generalize w2.alloc (.cells #[.slice dva vs.length dvc, .slice doa os.length doc] 27) = w3 at hb HXd3 ⊢
  have hs3 := hb.size
  have HVA3 := Lib.hid (HVA2.out.below hb (by omega))
  have HOA3 := Lib.hid (HOA2.out.below hb (by omega))
  have HVB3 := Lib.hid (HVB2.out.below hb (by omega))
  have HOB3 := Lib.hid (HOB2.out.below hb (by omega))
  have HB3 := Lib.hid (HB2.out.trans (hb.mono (by omega)))
  have HXa3 := Lib.hid ((hb.block _ (lt_of_row HXa2.out)).trans HXa2.out)
  have HXb3 := Lib.hid ((hb.block _ (lt_of_row HXb2.out)).trans HXb2.out)
  have HVD3 := Lib.hid (HVD2.out.below hb (by omega))
  have HOD3 := Lib.hid (HOD2.out.below hb (by omega))
  clear hb HVA2 HOA2 HVB2 HOB2 HB2 HXa2 HXb2 HVD2 HOD2
  obtain ⟨c00, c01⟩ := pair_cells HXa3.out
  obtain ⟨c10, c11⟩ := pair_cells HXb3.out
  go_wp2_with fail
  have hc := specDelta w3 w3.heap.size ava aoa bva boa 4 avc l.length aoc 4 bvc m.length boc xs l ys m (HVA3.out.more (by omega)) (HOA3.out.more (by omega)) (HVB3.out.more (by omega)) (HOB3.out.more (by omega)) (Nat.le_refl _) (by omega) (by omega) HIa.out (by omega) (by omega) HIb.out
  rw [HR.out, HVs.out, HOs.out] at hc
  refine hc.mono ?_
  clear hc
  rintro e w4 ⟨wva, wvc, woa, woc, rfl, hov, hop, hb⟩
  clear c00 c01 c10 c11
  have hs4 := hb.size
  have HVA4 := Lib.hid (HVA3.out.below hb (by omega))
  have HOA4 := Lib.hid (HOA3.out.below hb (by omega))
  have HVB4 := Lib.hid (HVB3.out.below hb (by omega))
  have HOB4 := Lib.hid (HOB3.out.below hb (by omega))
  have HB4 := Lib.hid (HB3.out.trans (hb.mono (by omega)))
  have HXa4 := Lib.hid ((hb.block _ (lt_of_row HXa3.out)).trans HXa3.out)
  have HXb4 := Lib.hid ((hb.block _ (lt_of_row HXb3.out)).trans HXb3.out)
  have HVD4 := Lib.hid (HVD3.out.below hb (by omega))
  have HOD4 := Lib.hid (HOD3.out.below hb (by omega))
  have HXd4 := Lib.hid ((hb.block _ (lt_of_row HXd3.out)).trans HXd3.out)
  clear hb HVA3 HOA3 HVB3 HOB3 HB3 HXa3 HXb3 HVD3 HOD3 HXd3
  have HVW4 := Lib.hid hov.ints
  have HOW4 := Lib.hid hop.ops
  clear hov hop
  go_upto_region 6 with fail
  have hb : Below w4.heap.size w4 (w4.alloc (.cells #[.slice wva vs.length wvc, .slice woa os.length woc] 27)) := (Below.refl _ _).alloc (Nat.le_refl _) _
  have HXw5 := Lib.hid (boxAt (Below.refl _ (w4.alloc (.cells #[.slice wva vs.length wvc, .slice woa os.length woc] 27))))
  generalize w4.alloc (.cells #[.slice wva vs.length wvc, .slice woa os.length woc] 27) = w5 at hb HXw5 ⊢
  have hs5 := hb.size
  have HVA5 := Lib.hid (HVA4.out.below hb (by omega))
  have HOA5 := Lib.hid (HOA4.out.below hb (by omega))
  have HVB5 := Lib.hid (HVB4.out.below hb (by omega))
  have HOB5 := Lib.hid (HOB4.out.below hb (by omega))
  have HB5 := Lib.hid (HB4.out.trans (hb.mono (by omega)))
  have HXa5 := Lib.hid ((hb.block _ (lt_of_row HXa4.out)).trans HXa4.out)
  have HXb5 := Lib.hid ((hb.block _ (lt_of_row HXb4.out)).trans HXb4.out)
  have HVD5 := Lib.hid (HVD4.out.below hb (by omega))
  have HOD5 := Lib.hid (HOD4.out.below hb (by omega))
  have HXd5 := Lib.hid ((hb.block _ (lt_of_row HXd4.out)).trans HXd4.out)
  have HVW5 := Lib.hid (HVW4.out.below hb (by omega))
  have HOW5 := Lib.hid (HOW4.out.below hb (by omega))
  clear hb HVA4 HOA4 HVB4 HOB4 HB4 HXa4 HXb4 HVD4 HOD4 HXd4 HVW4 HOW4
  obtain ⟨c00, c01⟩ := pair_cells HXd5.out
  obtain ⟨c10, c11⟩ := pair_cells HXw5.out
  go_wp2_with fail
  refine (sameCart w5 w5.heap.size dva doa wva woa vs.length dvc os.length doc vs.length wvc os.length woc vs os vs os (HVD5.out.more (by omega)) (HOD5.out.more (by omega)) (HVW5.out.more (by omega)) (HOW5.out.more (by omega)) (Nat.le_refl _) (by omega) (by omega) (by omega) (by omega)).mono ?_
  rintro e w6 ⟨rfl, hb⟩
  rw [decide_eq_true rfl, decide_eq_true rfl]
  clear c00 c01 c10 c11
  have hs6 := hb.size
  have HVA6 := Lib.hid (HVA5.out.below hb (by omega))
  have HOA6 := Lib.hid (HOA5.out.below hb (by omega))
  have HVB6 := Lib.hid (HVB5.out.below hb (by omega))
  have HOB6 := Lib.hid (HOB5.out.below hb (by omega))
  have HB6 := Lib.hid (HB5.out.trans (hb.mono (by omega)))
  have HXa6 := Lib.hid ((hb.block _ (lt_of_row HXa5.out)).trans HXa5.out)
  have HXb6 := Lib.hid ((hb.block _ (lt_of_row HXb5.out)).trans HXb5.out)
  have HVD6 := Lib.hid (HVD5.out.below hb (by omega))
  have HOD6 := Lib.hid (HOD5.out.below hb (by omega))
  have HXd6 := Lib.hid ((hb.block _ (lt_of_row HXd5.out)).trans HXd5.out)
  have HVW6 := Lib.hid (HVW5.out.below hb (by omega))
  have HOW6 := Lib.hid (HOW5.out.below hb (by omega))
  have HXw6 := Lib.hid ((hb.block _ (lt_of_row HXw5.out)).trans HXw5.out)
  clear hb HVA5 HOA5 HVB5 HOB5 HB5 HXa5 HXb5 HVD5 HOD5 HXd5 HVW5 HOW5 HXw5
  cases R
  · skip
    obtain ⟨c00, c01⟩ := pair_cells HXd6.out
    obtain ⟨c10, c11⟩ := pair_cells HXw6.out
    go_wp2_with fail
    refine (sameCart w6 w6.heap.size dva doa wva woa vs.length dvc os.length doc vs.length wvc os.length woc vs os vs os (HVD6.out.more (by omega)) (HOD6.out.more (by omega)) (HVW6.out.more (by omega)) (HOW6.out.more (by omega)) (Nat.le_refl _) (by omega) (by omega) (by omega) (by omega)).mono ?_
    rintro e w7 ⟨rfl, hb⟩
    rw [decide_eq_true rfl, decide_eq_true rfl]
    clear c00 c01 c10 c11
    have hs7 := hb.size
    have HVA7 := Lib.hid (HVA6.out.below hb (by omega))
    have HOA7 := Lib.hid (HOA6.out.below hb (by omega))
    have HVB7 := Lib.hid (HVB6.out.below hb (by omega))
    have HOB7 := Lib.hid (HOB6.out.below hb (by omega))
    have HB7 := Lib.hid (HB6.out.trans (hb.mono (by omega)))
    have HXa7 := Lib.hid ((hb.block _ (lt_of_row HXa6.out)).trans HXa6.out)
    have HXb7 := Lib.hid ((hb.block _ (lt_of_row HXb6.out)).trans HXb6.out)
    have HVD7 := Lib.hid (HVD6.out.below hb (by omega))
    have HOD7 := Lib.hid (HOD6.out.below hb (by omega))
    have HXd7 := Lib.hid ((hb.block _ (lt_of_row HXd6.out)).trans HXd6.out)
    have HVW7 := Lib.hid (HVW6.out.below hb (by omega))
    have HOW7 := Lib.hid (HOW6.out.below hb (by omega))
    have HXw7 := Lib.hid ((hb.block _ (lt_of_row HXw6.out)).trans HXw6.out)
    clear hb HVA6 HOA6 HVB6 HOB6 HB6 HXa6 HXb6 HVD6 HOD6 HXd6 HVW6 HOW6 HXw6
    go_wp2
    go_ret
    exact ⟨rfl, HB7.out⟩
  have evs : xs = vs := HVs.out
  have eos : l.filter (delB m) = os := HOs.out
  have hin := del_empty HR.out
  rw [eos] at hin
  subst evs
  have HIN := Lib.hid hin
  have HCL : Hid (∀ i, cntP (delB m) l i ≤ os.length) := fun i => by rw [← eos]; exact cntP_le _ _ _
  have HC0 : Hid (cntP (delB m) l 0 = 0) := cnt_zero _ _
  have HCE : Hid (cntP (delB m) l l.length = os.length) := by show _ = _; rw [← eos]; exact cnt_all _ _
  have HCN : Hid (∀ i, i < l.length → cntP (delB m) l i < os.length → cntP (delB m) l (i + 1) = if decide (atOp l i = atOp os (cntP (delB m) l i)) = true then cntP (delB m) l i + 1 else cntP (delB m) l i) := fun i hi hk => by rw [← eos] at hk ⊢; exact cnt_next hi hk
  generalize cntP (delB m) l = f at HCL HC0 HCE HCN
  clear eos hin HVs HOs HR
  clear HVW6 HOW6
  go_wp2
  go_loopw [9, 10] (fun kk i wr => ∃ q p : Nat, q ≤ l.length ∧ i = .int .i64 (q : Int) ∧ kk = .int .i64 (p : Int) ∧ Hid (f q = p) ∧ Hid (Below w6.heap.size w6 wr)) (fun _ i _ => l.length - (intOf i).toNat)
  case atStart => exact ⟨0, 0, Nat.zero_le _, rfl, rfl, HC0, Below.refl _ _⟩
  case round =>
    obtain ⟨q, p, hq, rfl, rfl, HF, HBr⟩ := hrel
    have hsr := HBr.out.size
    have hpl : p ≤ os.length := by rw [← HF.out]; exact HCL.out q
    obtain ⟨na, hna⟩ : ∃ n, l.length = n := ⟨_, rfl⟩
    obtain ⟨nd, hnd⟩ : ∃ n, os.length = n := ⟨_, rfl⟩
    have HNa := Lib.hid hna
    have HNd := Lib.hid hnd
    clear hna hnd
    by_cases hlt : q < l.length ∧ p < os.length
    rotate_left
    · have hpe : p = os.length := by
        rcases Nat.lt_or_ge q l.length with h1 | h1
        · omega
        · obtain rfl : q = l.length := by omega
          rw [← HF.out]; exact HCE.out
      subst hpe
      clear HF hlt HCL HC0 HCE HCN
      have hb : Below w6.heap.size w6 wr := HBr.out
      clear HBr hsr
      obtain ⟨w7, hwr⟩ : ∃ z, z = wr := ⟨_, rfl⟩
      subst hwr
      have hs7 := hb.size
      have HVA7 := Lib.hid (HVA6.out.below hb (by omega))
      have HOA7 := Lib.hid (HOA6.out.below hb (by omega))
      have HVB7 := Lib.hid (HVB6.out.below hb (by omega))
      have HOB7 := Lib.hid (HOB6.out.below hb (by omega))
      have HB7 := Lib.hid (HB6.out.trans (hb.mono (by omega)))
      have HXa7 := Lib.hid ((hb.block _ (lt_of_row HXa6.out)).trans HXa6.out)
      have HXb7 := Lib.hid ((hb.block _ (lt_of_row HXb6.out)).trans HXb6.out)
      have HVD7 := Lib.hid (HVD6.out.below hb (by omega))
      have HOD7 := Lib.hid (HOD6.out.below hb (by omega))
      have HXd7 := Lib.hid ((hb.block _ (lt_of_row HXd6.out)).trans HXd6.out)
      have HXw7 := Lib.hid ((hb.block _ (lt_of_row HXw6.out)).trans HXw6.out)
      clear hb HVA6 HOA6 HVB6 HOB6 HB6 HXa6 HXb6 HVD6 HOD6 HXd6 HXw6
      clear HNa HNd
      by_cases hre : q < l.length
      · skip
        have hqi : (q : Int) < (l.length : Int) := by omega
        have hpp : ¬ ((os.length : Int) < (os.length : Int)) := by omega
        obtain ⟨c00, c01⟩ := pair_cells HXa7.out
        obtain ⟨c10, c11⟩ := pair_cells HXd7.out
        go_upto_region 14 with fail
        clear c00 c01 c10 c11
        clear hqi hpp
        obtain ⟨z, hz⟩ : ∃ z, inCart xs l ys m = z := ⟨_, rfl⟩
        have HZ2 := Lib.hid hz
        have HZn : Hid (decide ((os.length : Int) = 0) = z) := by
          show _ = z
          rw [← hz, ← HIN.out]
          exact decide_eq_decide.2 (by omega)
        clear hz
        go_wp2_with fail
        obtain ⟨w8, hzw⟩ : ∃ z, w7.drew = z := ⟨_, rfl⟩
        have hb : Below w7.heap.size w7 w8 := by rw [← hzw]; exact ⟨rfl, rfl, rfl, Nat.le_refl _, fun _ _ => rfl⟩
        have hs8 := hb.size
        have HVA8 := Lib.hid (HVA7.out.below hb (by omega))
        have HOA8 := Lib.hid (HOA7.out.below hb (by omega))
        have HVB8 := Lib.hid (HVB7.out.below hb (by omega))
        have HOB8 := Lib.hid (HOB7.out.below hb (by omega))
        have HB8 := Lib.hid (HB7.out.trans (hb.mono (by omega)))
        have HXa8 := Lib.hid ((hb.block _ (lt_of_row HXa7.out)).trans HXa7.out)
        have HXb8 := Lib.hid ((hb.block _ (lt_of_row HXb7.out)).trans HXb7.out)
        have HVD8 := Lib.hid (HVD7.out.below hb (by omega))
        have HOD8 := Lib.hid (HOD7.out.below hb (by omega))
        have HXd8 := Lib.hid ((hb.block _ (lt_of_row HXd7.out)).trans HXd7.out)
        have HXw8 := Lib.hid ((hb.block _ (lt_of_row HXw7.out)).trans HXw7.out)
        clear hb HVA7 HOA7 HVB7 HOB7 HB7 HXa7 HXb7 HVD7 HOD7 HXd7 HXw7
        have hS : w8.cell? ⟨w0.heap.size, 0, none⟩ = some (.slice ava 4 avc) ∧ w8.cell? ⟨w0.heap.size, 1, none⟩ = some (.slice aoa l.length aoc) ∧ w8.cell? ⟨w0.heap.size + 1, 0, none⟩ = some (.slice bva 4 bvc) ∧ w8.cell? ⟨w0.heap.size + 1, 1, none⟩ = some (.slice boa m.length boc) ∧ w8.cell? ⟨w2.heap.size, 0, none⟩ = some (.slice dva xs.length dvc) ∧ w8.cell? ⟨w2.heap.size, 1, none⟩ = some (.slice doa os.length doc) := ⟨(pair_cells HXa8.out).1, (pair_cells HXa8.out).2, (pair_cells HXb8.out).1, (pair_cells HXb8.out).2, (pair_cells HXd8.out).1, (pair_cells HXd8.out).2⟩
        refine wp_region_held_drew (S := fun w' => w'.cell? ⟨w0.heap.size, 0, none⟩ = some (.slice ava 4 avc) ∧ w'.cell? ⟨w0.heap.size, 1, none⟩ = some (.slice aoa l.length aoc) ∧ w'.cell? ⟨w0.heap.size + 1, 0, none⟩ = some (.slice bva 4 bvc) ∧ w'.cell? ⟨w0.heap.size + 1, 1, none⟩ = some (.slice boa m.length boc) ∧ w'.cell? ⟨w2.heap.size, 0, none⟩ = some (.slice dva xs.length dvc) ∧ w'.cell? ⟨w2.heap.size, 1, none⟩ = some (.slice doa os.length doc)) (by kernel_rfl) (by rw [hzw]; exact hS) (fun hHeld => ?_)
        rw [hzw]
        clear hHeld hzw
        refine wpAnyH_take (i := 0) (oi := { dst := some 78, op := .move (.tmp 9), type := 3, pos := "laws.go:733", after := #[], guard := none }) (v := ?_) rfl (by kernel_rfl) (by kernel_rfl) (by kernel_rfl) (fun _ _ _ h => h) (Or.inl ⟨by rfl, ?_⟩) (by assumption) ?_
        rotate_left
        · intro w hSw
          (try dsimp only at hSw)
          first | (go_simp; done) | (go_simp; with_reducible rfl)
        (try simp only [Act.put, List.setIfInBounds_toArray, List.set_cons_zero, List.set_cons_succ])
        refine wpAnyH_take (i := 1) (oi := { dst := some 79, op := .fieldAddr 27 (.tmp 5) 1, type := 0, pos := "laws.go:733", after := #[], guard := none }) (v := ?_) rfl (by kernel_rfl) (by kernel_rfl) (by kernel_rfl) (fun _ _ _ h => h) (Or.inl ⟨by rfl, ?_⟩) (by assumption) ?_
        rotate_left
        · intro w hSw
          (try dsimp only at hSw)
          first | (go_simp; done) | (go_simp; with_reducible rfl)
        (try simp only [Act.put, List.setIfInBounds_toArray, List.set_cons_zero, List.set_cons_succ])
        refine wpAnyH_take (i := 2) (oi := { dst := some 80, op := .load 25 (.tmp 79), type := 25, pos := "laws.go:733", after := #[⟨1, .data⟩], guard := none }) (v := ?_) rfl (by kernel_rfl) (by kernel_rfl) (by kernel_rfl) (fun _ _ _ h => h) (Or.inl ⟨by rfl, ?_⟩) (by assumption) ?_
        rotate_left
        · intro w hSw
          (try dsimp only at hSw)
          first | (go_simp; done) | (go_simp; with_reducible rfl)
        (try simp only [Act.put, List.setIfInBounds_toArray, List.set_cons_zero, List.set_cons_succ])
        refine wpAnyH_take (i := 3) (oi := { dst := some 81, op := .call { callee := .builtin .len, args := #[.tmp 80], argTypes := #[25] }, type := 3, pos := "laws.go:733", after := #[⟨2, .data⟩], guard := none }) (v := ?_) rfl (by kernel_rfl) (by kernel_rfl) (by kernel_rfl) (fun _ _ _ h => h) (Or.inl ⟨by rfl, ?_⟩) (by assumption) ?_
        rotate_left
        · intro w hSw
          (try dsimp only at hSw)
          first | (go_simp; done) | (go_simp; with_reducible rfl)
        (try simp only [Act.put, List.setIfInBounds_toArray, List.set_cons_zero, List.set_cons_succ])
        refine wpAnyH_take (i := 4) (oi := { dst := some 82, op := .binOp .eql 3 (.tmp 78) (.tmp 81) 3, type := 4, pos := "laws.go:733", after := #[⟨0, .data⟩, ⟨3, .data⟩], guard := none }) (v := ?_) rfl (by kernel_rfl) (by kernel_rfl) (by kernel_rfl) (fun _ _ _ h => h) (Or.inl ⟨by rfl, ?_⟩) (by assumption) ?_
        rotate_left
        · intro w hSw
          (try dsimp only at hSw)
          first | (go_simp; done) | (go_simp; with_reducible rfl)
        (try simp only [Act.put, List.setIfInBounds_toArray, List.set_cons_zero, List.set_cons_succ])
        refine wpAnyH_take (i := 5) (oi := { dst := some 83, op := .move (.tmp 82), type := 4, pos := "laws.go:733", after := #[⟨4, .data⟩], guard := none }) (v := ?_) rfl (by kernel_rfl) (by kernel_rfl) (by kernel_rfl) (fun _ _ _ h => h) (Or.inl ⟨by rfl, ?_⟩) (by assumption) ?_
        rotate_left
        · intro w hSw
          (try dsimp only at hSw)
          first | (go_simp; done) | (go_simp; with_reducible rfl)
        (try simp only [Act.put, List.setIfInBounds_toArray, List.set_cons_zero, List.set_cons_succ])
        refine wpAnyH_take (i := 6) (oi := { dst := some 84, op := .fieldAddr 27 (.tmp 5) 0, type := 0, pos := "laws.go:733", after := #[⟨5, .guard⟩], guard := some (5, true) }) (v := ?_) rfl (by kernel_rfl) (by kernel_rfl) (by kernel_rfl) (fun _ _ _ h => h) (Or.inl ⟨by rfl, ?_⟩) (by assumption) ?_
        rotate_left
        · intro w hSw
          (try dsimp only at hSw)
          first | (go_simp; done) | (go_simp; with_reducible rfl)
        (try simp only [Act.put, List.setIfInBounds_toArray, List.set_cons_zero, List.set_cons_succ])
        refine wpAnyH_take (i := 7) (oi := { dst := some 85, op := .load 24 (.tmp 84), type := 24, pos := "laws.go:733", after := #[⟨6, .data⟩, ⟨5, .guard⟩], guard := some (5, true) }) (v := ?_) rfl (by kernel_rfl) (by kernel_rfl) (by kernel_rfl) (fun _ _ _ h => h) (Or.inl ⟨by rfl, ?_⟩) (by assumption) ?_
        rotate_left
        · intro w hSw
          (try dsimp only at hSw)
          first | (go_simp; done) | (go_simp; with_reducible rfl)
        (try simp only [Act.put, List.setIfInBounds_toArray, List.set_cons_zero, List.set_cons_succ])
        refine wpAnyH_take (i := 8) (oi := { dst := some 86, op := .fieldAddr 27 (.tmp 3) 0, type := 0, pos := "laws.go:733", after := #[⟨5, .guard⟩], guard := some (5, true) }) (v := ?_) rfl (by kernel_rfl) (by kernel_rfl) (by kernel_rfl) (fun _ _ _ h => h) (Or.inl ⟨by rfl, ?_⟩) (by assumption) ?_
        rotate_left
        · intro w hSw
          (try dsimp only at hSw)
          first | (go_simp; done) | (go_simp; with_reducible rfl)
        (try simp only [Act.put, List.setIfInBounds_toArray, List.set_cons_zero, List.set_cons_succ])
        refine wpAnyH_take (i := 9) (oi := { dst := some 87, op := .load 24 (.tmp 86), type := 24, pos := "laws.go:733", after := #[⟨8, .data⟩, ⟨5, .guard⟩], guard := some (5, true) }) (v := ?_) rfl (by kernel_rfl) (by kernel_rfl) (by kernel_rfl) (fun _ _ _ h => h) (Or.inl ⟨by rfl, ?_⟩) (by assumption) ?_
        rotate_left
        · intro w hSw
          (try dsimp only at hSw)
          first | (go_simp; done) | (go_simp; with_reducible rfl)
        (try simp only [Act.put, List.setIfInBounds_toArray, List.set_cons_zero, List.set_cons_succ])
        refine wpAnyH_ready (rs := [10]) (by kernel_rfl) (by simp) ?_
        refine AllReadyH.cons (o := { dst := some 88, op := .call { callee := .value (.func 20), args := #[.tmp 85, .tmp 87], argTypes := #[24, 24] }, type := 4, pos := "laws.go:733", after := #[⟨7, .data⟩, ⟨9, .data⟩, ⟨5, .chain⟩, ⟨5, .guard⟩], guard := some (5, true) }) rfl (fun K hK => ?_) AllReadyH.nil
        go_simp
        go_at_call 20
        refine (sameIntsS w8 w8.heap.size w8.heap.size dva ava xs.length dvc 4 avc xs xs (HVD8.out.more (by omega)) (HVA8.out.more (by omega)) (by omega) (by omega)).mono ?_
        rintro e w9 ⟨rfl, hsm⟩
        rw [decide_eq_true rfl]
        have hb : Below w8.heap.size w8 w9 := hsm.below _
        clear hsm
        have hs9 := hb.size
        have HVA9 := Lib.hid (HVA8.out.below hb (by omega))
        have HOA9 := Lib.hid (HOA8.out.below hb (by omega))
        have HVB9 := Lib.hid (HVB8.out.below hb (by omega))
        have HOB9 := Lib.hid (HOB8.out.below hb (by omega))
        have HB9 := Lib.hid (HB8.out.trans (hb.mono (by omega)))
        have HXa9 := Lib.hid ((hb.block _ (lt_of_row HXa8.out)).trans HXa8.out)
        have HXb9 := Lib.hid ((hb.block _ (lt_of_row HXb8.out)).trans HXb8.out)
        have HVD9 := Lib.hid (HVD8.out.below hb (by omega))
        have HOD9 := Lib.hid (HOD8.out.below hb (by omega))
        have HXd9 := Lib.hid ((hb.block _ (lt_of_row HXd8.out)).trans HXd8.out)
        have HXw9 := Lib.hid ((hb.block _ (lt_of_row HXw8.out)).trans HXw8.out)
        clear hb HVA8 HOA8 HVB8 HOB8 HB8 HXa8 HXb8 HVD8 HOD8 HXd8 HXw8
        have hS2 : w9.cell? ⟨w0.heap.size, 0, none⟩ = some (.slice ava 4 avc) ∧ w9.cell? ⟨w0.heap.size, 1, none⟩ = some (.slice aoa l.length aoc) ∧ w9.cell? ⟨w0.heap.size + 1, 0, none⟩ = some (.slice bva 4 bvc) ∧ w9.cell? ⟨w0.heap.size + 1, 1, none⟩ = some (.slice boa m.length boc) ∧ w9.cell? ⟨w2.heap.size, 0, none⟩ = some (.slice dva xs.length dvc) ∧ w9.cell? ⟨w2.heap.size, 1, none⟩ = some (.slice doa os.length doc) := ⟨(pair_cells HXa9.out).1, (pair_cells HXa9.out).2, (pair_cells HXb9.out).1, (pair_cells HXb9.out).2, (pair_cells HXd9.out).1, (pair_cells HXd9.out).2⟩
        refine hK.out _ _ hS2 (fun hHeld3 => ?_)
        clear hK K
        (try simp only [Act.put, List.setIfInBounds_toArray, List.set_cons_zero, List.set_cons_succ])
        clear hHeld3
        refine wpAnyH_take (i := 11) (oi := { dst := some 89, op := .pick (.tmp 83) (.tmp 88) (.const (Value.bool false)), type := 4, pos := "laws.go:733", after := #[⟨5, .data⟩, ⟨10, .data⟩], guard := none }) (v := ?_) rfl (by kernel_rfl) (by kernel_rfl) (by kernel_rfl) (fun _ _ _ h => h) (Or.inl ⟨by rfl, ?_⟩) (by assumption) ?_
        rotate_left
        · intro w hSw
          (try dsimp only at hSw)
          first | (go_simp; done) | (go_simp; with_reducible rfl)
        (try simp only [Act.put, List.setIfInBounds_toArray, List.set_cons_zero, List.set_cons_succ])
        refine wpAnyH_take (i := 12) (oi := { dst := some 90, op := .move (.tmp 89), type := 4, pos := "laws.go:733", after := #[⟨11, .data⟩, ⟨10, .chain⟩], guard := none }) (v := ?_) rfl (by kernel_rfl) (by kernel_rfl) (by kernel_rfl) (fun _ _ _ h => h) (Or.inl ⟨by rfl, ?_⟩) (by assumption) ?_
        rotate_left
        · intro w hSw
          (try dsimp only at hSw)
          first | (go_simp; done) | (go_simp; with_reducible rfl)
        (try simp only [Act.put, List.setIfInBounds_toArray, List.set_cons_zero, List.set_cons_succ])
        refine wpAnyH_take (i := 13) (oi := { dst := some 91, op := .fieldAddr 27 (.tmp 5) 1, type := 0, pos := "laws.go:733", after := #[⟨12, .guard⟩], guard := some (12, true) }) (v := ?_) rfl (by kernel_rfl) (by kernel_rfl) (by kernel_rfl) (fun _ _ _ h => h) (Or.inl ⟨by rfl, ?_⟩) (by assumption) ?_
        rotate_left
        · intro w hSw
          (try dsimp only at hSw)
          first | (go_simp; done) | (go_simp; with_reducible rfl)
        (try simp only [Act.put, List.setIfInBounds_toArray, List.set_cons_zero, List.set_cons_succ])
        refine wpAnyH_take (i := 14) (oi := { dst := some 92, op := .load 25 (.tmp 91), type := 25, pos := "laws.go:733", after := #[⟨13, .data⟩, ⟨12, .guard⟩], guard := some (12, true) }) (v := ?_) rfl (by kernel_rfl) (by kernel_rfl) (by kernel_rfl) (fun _ _ _ h => h) (Or.inl ⟨by rfl, ?_⟩) (by assumption) ?_
        rotate_left
        · intro w hSw
          (try dsimp only at hSw)
          first | (go_simp; done) | (go_simp; with_reducible rfl)
        (try simp only [Act.put, List.setIfInBounds_toArray, List.set_cons_zero, List.set_cons_succ])
        refine wpAnyH_take (i := 15) (oi := { dst := some 93, op := .call { callee := .builtin .len, args := #[.tmp 92], argTypes := #[25] }, type := 3, pos := "laws.go:733", after := #[⟨14, .data⟩, ⟨12, .guard⟩], guard := some (12, true) }) (v := ?_) rfl (by kernel_rfl) (by kernel_rfl) (by kernel_rfl) (fun _ _ _ h => h) (Or.inl ⟨by rfl, ?_⟩) (by assumption) ?_
        rotate_left
        · intro w hSw
          (try dsimp only at hSw)
          first | (go_simp; done) | (go_simp; with_reducible rfl)
        (try simp only [Act.put, List.setIfInBounds_toArray, List.set_cons_zero, List.set_cons_succ])
        refine wpAnyH_take (i := 16) (oi := { dst := some 94, op := .binOp .eql 3 (.tmp 93) (.const (Value.int IntKind.i64 0)) 3, type := 4, pos := "laws.go:733", after := #[⟨15, .data⟩, ⟨12, .guard⟩], guard := some (12, true) }) (v := .bool z) rfl (by kernel_rfl) (by kernel_rfl) (by kernel_rfl) (fun _ _ _ h => h) (Or.inl ⟨by rfl, ?_⟩) (by assumption) ?_
        · intro w hSw
          (try dsimp only at hSw)
          go_simp
          first | exact HZn.out | exact congrArg Value.bool HZn.out | (rw [← HZn.out]; simp)
        (try simp only [Act.put, List.setIfInBounds_toArray, List.set_cons_zero, List.set_cons_succ])
        refine wpAnyH_take (i := 17) (oi := { dst := some 95, op := .load 27 (.tmp 3), type := 27, pos := "laws.go:733", after := #[⟨12, .guard⟩], guard := some (12, true) }) (v := ?_) rfl (by kernel_rfl) (by kernel_rfl) (by kernel_rfl) (fun _ _ _ h => h) (Or.inl ⟨by rfl, ?_⟩) (by assumption) ?_
        rotate_left
        · intro w hSw
          (try dsimp only at hSw)
          first | (go_simp; done) | (go_simp; with_reducible rfl)
        (try simp only [Act.put, List.setIfInBounds_toArray, List.set_cons_zero, List.set_cons_succ])
        refine wpAnyH_take (i := 18) (oi := { dst := some 96, op := .load 27 (.tmp 4), type := 27, pos := "laws.go:733", after := #[⟨12, .guard⟩], guard := some (12, true) }) (v := ?_) rfl (by kernel_rfl) (by kernel_rfl) (by kernel_rfl) (fun _ _ _ h => h) (Or.inl ⟨by rfl, ?_⟩) (by assumption) ?_
        rotate_left
        · intro w hSw
          (try dsimp only at hSw)
          first | (go_simp; done) | (go_simp; with_reducible rfl)
        (try simp only [Act.put, List.setIfInBounds_toArray, List.set_cons_zero, List.set_cons_succ])
        refine wpAnyH_ready (rs := [19]) (by kernel_rfl) (by simp) ?_
        refine AllReadyH.cons (o := { dst := some 97, op := .call { callee := .value (.func 21), args := #[.tmp 95, .tmp 96], argTypes := #[27, 27] }, type := 4, pos := "laws.go:733", after := #[⟨17, .data⟩, ⟨18, .data⟩, ⟨12, .chain⟩, ⟨12, .guard⟩], guard := some (12, true) }) rfl (fun K hK => ?_) AllReadyH.nil
        go_simp
        go_at_call 21
        refine (implWithinC w9 w9.heap.size ava aoa bva boa 4 avc l.length aoc 4 bvc m.length boc xs l ys m (HVA9.out.more (by omega)) (HOA9.out.more (by omega)) (HVB9.out.more (by omega)) (HOB9.out.more (by omega)) (Nat.le_refl _) (by omega) HCa.out.1 ⟨by omega, HCa.out.2.1⟩ (by omega) HCb.out.1 ⟨by omega, HCb.out.2.1⟩).mono ?_
        rintro e w10 ⟨rfl, hb⟩
        rw [HZ2.out]
        have hs10 := hb.size
        have HVA10 := Lib.hid (HVA9.out.below hb (by omega))
        have HOA10 := Lib.hid (HOA9.out.below hb (by omega))
        have HVB10 := Lib.hid (HVB9.out.below hb (by omega))
        have HOB10 := Lib.hid (HOB9.out.below hb (by omega))
        have HB10 := Lib.hid (HB9.out.trans (hb.mono (by omega)))
        have HXa10 := Lib.hid ((hb.block _ (lt_of_row HXa9.out)).trans HXa9.out)
        have HXb10 := Lib.hid ((hb.block _ (lt_of_row HXb9.out)).trans HXb9.out)
        have HVD10 := Lib.hid (HVD9.out.below hb (by omega))
        have HOD10 := Lib.hid (HOD9.out.below hb (by omega))
        have HXd10 := Lib.hid ((hb.block _ (lt_of_row HXd9.out)).trans HXd9.out)
        have HXw10 := Lib.hid ((hb.block _ (lt_of_row HXw9.out)).trans HXw9.out)
        clear hb HVA9 HOA9 HVB9 HOB9 HB9 HXa9 HXb9 HVD9 HOD9 HXd9 HXw9
        have hS4 : w10.cell? ⟨w0.heap.size, 0, none⟩ = some (.slice ava 4 avc) ∧ w10.cell? ⟨w0.heap.size, 1, none⟩ = some (.slice aoa l.length aoc) ∧ w10.cell? ⟨w0.heap.size + 1, 0, none⟩ = some (.slice bva 4 bvc) ∧ w10.cell? ⟨w0.heap.size + 1, 1, none⟩ = some (.slice boa m.length boc) ∧ w10.cell? ⟨w2.heap.size, 0, none⟩ = some (.slice dva xs.length dvc) ∧ w10.cell? ⟨w2.heap.size, 1, none⟩ = some (.slice doa os.length doc) := ⟨(pair_cells HXa10.out).1, (pair_cells HXa10.out).2, (pair_cells HXb10.out).1, (pair_cells HXb10.out).2, (pair_cells HXd10.out).1, (pair_cells HXd10.out).2⟩
        refine hK.out _ _ hS4 (fun hHeld5 => ?_)
        clear hK K
        (try simp only [Act.put, List.setIfInBounds_toArray, List.set_cons_zero, List.set_cons_succ])
        clear hHeld5
        refine wpAnyH_take (i := 20) (oi := { dst := some 98, op := .binOp .eql 4 (.tmp 94) (.tmp 97) 4, type := 4, pos := "laws.go:733", after := #[⟨16, .data⟩, ⟨19, .data⟩, ⟨12, .guard⟩], guard := some (12, true) }) (v := ?_) rfl (by kernel_rfl) (by kernel_rfl) (by kernel_rfl) (fun _ _ _ h => h) (Or.inl ⟨by rfl, ?_⟩) (by assumption) ?_
        rotate_left
        · intro w hSw
          (try dsimp only at hSw)
          first | (go_simp; done) | (go_simp; with_reducible rfl)
        (try simp only [Act.put, List.setIfInBounds_toArray, List.set_cons_zero, List.set_cons_succ])
        refine wpAnyH_take (i := 21) (oi := { dst := some 99, op := .pick (.tmp 90) (.tmp 98) (.const (Value.bool false)), type := 4, pos := "laws.go:733", after := #[⟨12, .data⟩, ⟨20, .data⟩], guard := none }) (v := ?_) rfl (by kernel_rfl) (by kernel_rfl) (by kernel_rfl) (fun _ _ _ h => h) (Or.inl ⟨by rfl, ?_⟩) (by assumption) ?_
        rotate_left
        · intro w hSw
          (try dsimp only at hSw)
          first | (go_simp; done) | (go_simp; with_reducible rfl)
        (try simp only [Act.put, List.setIfInBounds_toArray, List.set_cons_zero, List.set_cons_succ])
        refine wpAnyH_take (i := 22) (oi := { dst := some 2, op := .assign (.tmp 99), type := 4, pos := "laws.go:733", after := #[⟨21, .data⟩, ⟨19, .chain⟩, ⟨0, .phase⟩, ⟨1, .phase⟩, ⟨2, .phase⟩, ⟨3, .phase⟩, ⟨4, .phase⟩, ⟨5, .phase⟩, ⟨6, .phase⟩, ⟨7, .phase⟩, ⟨8, .phase⟩, ⟨9, .phase⟩, ⟨10, .phase⟩, ⟨11, .phase⟩, ⟨12, .phase⟩, ⟨13, .phase⟩, ⟨14, .phase⟩, ⟨15, .phase⟩, ⟨16, .phase⟩, ⟨17, .phase⟩, ⟨18, .phase⟩, ⟨19, .phase⟩, ⟨20, .phase⟩, ⟨21, .phase⟩], guard := none }) (v := ?_) rfl (by kernel_rfl) (by kernel_rfl) (by kernel_rfl) (fun _ _ _ h => h) (Or.inl ⟨by rfl, ?_⟩) (by assumption) ?_
        rotate_left
        · intro w hSw
          (try dsimp only at hSw)
          first | (go_simp; done) | (go_simp; with_reducible rfl)
        (try simp only [Act.put, List.setIfInBounds_toArray, List.set_cons_zero, List.set_cons_succ])
        refine wpAnyH_done (by kernel_rfl) ?_ _
        go_wp2
        go_ret
        exact ⟨rfl, HB10.out⟩
      · skip
        have hqi : ¬ ((q : Int) < (l.length : Int)) := by omega
        obtain ⟨c00, c01⟩ := pair_cells HXa7.out
        obtain ⟨c10, c11⟩ := pair_cells HXd7.out
        go_upto_region 14 with fail
        clear c00 c01 c10 c11
        clear hqi
        obtain ⟨z, hz⟩ : ∃ z, inCart xs l ys m = z := ⟨_, rfl⟩
        have HZ2 := Lib.hid hz
        have HZn : Hid (decide ((os.length : Int) = 0) = z) := by
          show _ = z
          rw [← hz, ← HIN.out]
          exact decide_eq_decide.2 (by omega)
        clear hz
        go_wp2_with fail
        obtain ⟨w8, hzw⟩ : ∃ z, w7.drew = z := ⟨_, rfl⟩
        have hb : Below w7.heap.size w7 w8 := by rw [← hzw]; exact ⟨rfl, rfl, rfl, Nat.le_refl _, fun _ _ => rfl⟩
        have hs8 := hb.size
        have HVA8 := Lib.hid (HVA7.out.below hb (by omega))
        have HOA8 := Lib.hid (HOA7.out.below hb (by omega))
        have HVB8 := Lib.hid (HVB7.out.below hb (by omega))
        have HOB8 := Lib.hid (HOB7.out.below hb (by omega))
        have HB8 := Lib.hid (HB7.out.trans (hb.mono (by omega)))
        have HXa8 := Lib.hid ((hb.block _ (lt_of_row HXa7.out)).trans HXa7.out)
        have HXb8 := Lib.hid ((hb.block _ (lt_of_row HXb7.out)).trans HXb7.out)
        have HVD8 := Lib.hid (HVD7.out.below hb (by omega))
        have HOD8 := Lib.hid (HOD7.out.below hb (by omega))
        have HXd8 := Lib.hid ((hb.block _ (lt_of_row HXd7.out)).trans HXd7.out)
        have HXw8 := Lib.hid ((hb.block _ (lt_of_row HXw7.out)).trans HXw7.out)
        clear hb HVA7 HOA7 HVB7 HOB7 HB7 HXa7 HXb7 HVD7 HOD7 HXd7 HXw7
        have hS : w8.cell? ⟨w0.heap.size, 0, none⟩ = some (.slice ava 4 avc) ∧ w8.cell? ⟨w0.heap.size, 1, none⟩ = some (.slice aoa l.length aoc) ∧ w8.cell? ⟨w0.heap.size + 1, 0, none⟩ = some (.slice bva 4 bvc) ∧ w8.cell? ⟨w0.heap.size + 1, 1, none⟩ = some (.slice boa m.length boc) ∧ w8.cell? ⟨w2.heap.size, 0, none⟩ = some (.slice dva xs.length dvc) ∧ w8.cell? ⟨w2.heap.size, 1, none⟩ = some (.slice doa os.length doc) := ⟨(pair_cells HXa8.out).1, (pair_cells HXa8.out).2, (pair_cells HXb8.out).1, (pair_cells HXb8.out).2, (pair_cells HXd8.out).1, (pair_cells HXd8.out).2⟩
        refine wp_region_held_drew (S := fun w' => w'.cell? ⟨w0.heap.size, 0, none⟩ = some (.slice ava 4 avc) ∧ w'.cell? ⟨w0.heap.size, 1, none⟩ = some (.slice aoa l.length aoc) ∧ w'.cell? ⟨w0.heap.size + 1, 0, none⟩ = some (.slice bva 4 bvc) ∧ w'.cell? ⟨w0.heap.size + 1, 1, none⟩ = some (.slice boa m.length boc) ∧ w'.cell? ⟨w2.heap.size, 0, none⟩ = some (.slice dva xs.length dvc) ∧ w'.cell? ⟨w2.heap.size, 1, none⟩ = some (.slice doa os.length doc)) (by kernel_rfl) (by rw [hzw]; exact hS) (fun hHeld => ?_)
        rw [hzw]
        clear hHeld hzw
        refine wpAnyH_take (i := 0) (oi := { dst := some 78, op := .move (.tmp 9), type := 3, pos := "laws.go:733", after := #[], guard := none }) (v := ?_) rfl (by kernel_rfl) (by kernel_rfl) (by kernel_rfl) (fun _ _ _ h => h) (Or.inl ⟨by rfl, ?_⟩) (by assumption) ?_
        rotate_left
        · intro w hSw
          (try dsimp only at hSw)
          first | (go_simp; done) | (go_simp; with_reducible rfl)
        (try simp only [Act.put, List.setIfInBounds_toArray, List.set_cons_zero, List.set_cons_succ])
        refine wpAnyH_take (i := 1) (oi := { dst := some 79, op := .fieldAddr 27 (.tmp 5) 1, type := 0, pos := "laws.go:733", after := #[], guard := none }) (v := ?_) rfl (by kernel_rfl) (by kernel_rfl) (by kernel_rfl) (fun _ _ _ h => h) (Or.inl ⟨by rfl, ?_⟩) (by assumption) ?_
        rotate_left
        · intro w hSw
          (try dsimp only at hSw)
          first | (go_simp; done) | (go_simp; with_reducible rfl)
        (try simp only [Act.put, List.setIfInBounds_toArray, List.set_cons_zero, List.set_cons_succ])
        refine wpAnyH_take (i := 2) (oi := { dst := some 80, op := .load 25 (.tmp 79), type := 25, pos := "laws.go:733", after := #[⟨1, .data⟩], guard := none }) (v := ?_) rfl (by kernel_rfl) (by kernel_rfl) (by kernel_rfl) (fun _ _ _ h => h) (Or.inl ⟨by rfl, ?_⟩) (by assumption) ?_
        rotate_left
        · intro w hSw
          (try dsimp only at hSw)
          first | (go_simp; done) | (go_simp; with_reducible rfl)
        (try simp only [Act.put, List.setIfInBounds_toArray, List.set_cons_zero, List.set_cons_succ])
        refine wpAnyH_take (i := 3) (oi := { dst := some 81, op := .call { callee := .builtin .len, args := #[.tmp 80], argTypes := #[25] }, type := 3, pos := "laws.go:733", after := #[⟨2, .data⟩], guard := none }) (v := ?_) rfl (by kernel_rfl) (by kernel_rfl) (by kernel_rfl) (fun _ _ _ h => h) (Or.inl ⟨by rfl, ?_⟩) (by assumption) ?_
        rotate_left
        · intro w hSw
          (try dsimp only at hSw)
          first | (go_simp; done) | (go_simp; with_reducible rfl)
        (try simp only [Act.put, List.setIfInBounds_toArray, List.set_cons_zero, List.set_cons_succ])
        refine wpAnyH_take (i := 4) (oi := { dst := some 82, op := .binOp .eql 3 (.tmp 78) (.tmp 81) 3, type := 4, pos := "laws.go:733", after := #[⟨0, .data⟩, ⟨3, .data⟩], guard := none }) (v := ?_) rfl (by kernel_rfl) (by kernel_rfl) (by kernel_rfl) (fun _ _ _ h => h) (Or.inl ⟨by rfl, ?_⟩) (by assumption) ?_
        rotate_left
        · intro w hSw
          (try dsimp only at hSw)
          first | (go_simp; done) | (go_simp; with_reducible rfl)
        (try simp only [Act.put, List.setIfInBounds_toArray, List.set_cons_zero, List.set_cons_succ])
        refine wpAnyH_take (i := 5) (oi := { dst := some 83, op := .move (.tmp 82), type := 4, pos := "laws.go:733", after := #[⟨4, .data⟩], guard := none }) (v := ?_) rfl (by kernel_rfl) (by kernel_rfl) (by kernel_rfl) (fun _ _ _ h => h) (Or.inl ⟨by rfl, ?_⟩) (by assumption) ?_
        rotate_left
        · intro w hSw
          (try dsimp only at hSw)
          first | (go_simp; done) | (go_simp; with_reducible rfl)
        (try simp only [Act.put, List.setIfInBounds_toArray, List.set_cons_zero, List.set_cons_succ])
        refine wpAnyH_take (i := 6) (oi := { dst := some 84, op := .fieldAddr 27 (.tmp 5) 0, type := 0, pos := "laws.go:733", after := #[⟨5, .guard⟩], guard := some (5, true) }) (v := ?_) rfl (by kernel_rfl) (by kernel_rfl) (by kernel_rfl) (fun _ _ _ h => h) (Or.inl ⟨by rfl, ?_⟩) (by assumption) ?_
        rotate_left
        · intro w hSw
          (try dsimp only at hSw)
          first | (go_simp; done) | (go_simp; with_reducible rfl)
        (try simp only [Act.put, List.setIfInBounds_toArray, List.set_cons_zero, List.set_cons_succ])
        refine wpAnyH_take (i := 7) (oi := { dst := some 85, op := .load 24 (.tmp 84), type := 24, pos := "laws.go:733", after := #[⟨6, .data⟩, ⟨5, .guard⟩], guard := some (5, true) }) (v := ?_) rfl (by kernel_rfl) (by kernel_rfl) (by kernel_rfl) (fun _ _ _ h => h) (Or.inl ⟨by rfl, ?_⟩) (by assumption) ?_
        rotate_left
        · intro w hSw
          (try dsimp only at hSw)
          first | (go_simp; done) | (go_simp; with_reducible rfl)
        (try simp only [Act.put, List.setIfInBounds_toArray, List.set_cons_zero, List.set_cons_succ])
        refine wpAnyH_take (i := 8) (oi := { dst := some 86, op := .fieldAddr 27 (.tmp 3) 0, type := 0, pos := "laws.go:733", after := #[⟨5, .guard⟩], guard := some (5, true) }) (v := ?_) rfl (by kernel_rfl) (by kernel_rfl) (by kernel_rfl) (fun _ _ _ h => h) (Or.inl ⟨by rfl, ?_⟩) (by assumption) ?_
        rotate_left
        · intro w hSw
          (try dsimp only at hSw)
          first | (go_simp; done) | (go_simp; with_reducible rfl)
        (try simp only [Act.put, List.setIfInBounds_toArray, List.set_cons_zero, List.set_cons_succ])
        refine wpAnyH_take (i := 9) (oi := { dst := some 87, op := .load 24 (.tmp 86), type := 24, pos := "laws.go:733", after := #[⟨8, .data⟩, ⟨5, .guard⟩], guard := some (5, true) }) (v := ?_) rfl (by kernel_rfl) (by kernel_rfl) (by kernel_rfl) (fun _ _ _ h => h) (Or.inl ⟨by rfl, ?_⟩) (by assumption) ?_
        rotate_left
        · intro w hSw
          (try dsimp only at hSw)
          first | (go_simp; done) | (go_simp; with_reducible rfl)
        (try simp only [Act.put, List.setIfInBounds_toArray, List.set_cons_zero, List.set_cons_succ])
        refine wpAnyH_ready (rs := [10]) (by kernel_rfl) (by simp) ?_
        refine AllReadyH.cons (o := { dst := some 88, op := .call { callee := .value (.func 20), args := #[.tmp 85, .tmp 87], argTypes := #[24, 24] }, type := 4, pos := "laws.go:733", after := #[⟨7, .data⟩, ⟨9, .data⟩, ⟨5, .chain⟩, ⟨5, .guard⟩], guard := some (5, true) }) rfl (fun K hK => ?_) AllReadyH.nil
        go_simp
        go_at_call 20
        refine (sameIntsS w8 w8.heap.size w8.heap.size dva ava xs.length dvc 4 avc xs xs (HVD8.out.more (by omega)) (HVA8.out.more (by omega)) (by omega) (by omega)).mono ?_
        rintro e w9 ⟨rfl, hsm⟩
        rw [decide_eq_true rfl]
        have hb : Below w8.heap.size w8 w9 := hsm.below _
        clear hsm
        have hs9 := hb.size
        have HVA9 := Lib.hid (HVA8.out.below hb (by omega))
        have HOA9 := Lib.hid (HOA8.out.below hb (by omega))
        have HVB9 := Lib.hid (HVB8.out.below hb (by omega))
        have HOB9 := Lib.hid (HOB8.out.below hb (by omega))
        have HB9 := Lib.hid (HB8.out.trans (hb.mono (by omega)))
        have HXa9 := Lib.hid ((hb.block _ (lt_of_row HXa8.out)).trans HXa8.out)
        have HXb9 := Lib.hid ((hb.block _ (lt_of_row HXb8.out)).trans HXb8.out)
        have HVD9 := Lib.hid (HVD8.out.below hb (by omega))
        have HOD9 := Lib.hid (HOD8.out.below hb (by omega))
        have HXd9 := Lib.hid ((hb.block _ (lt_of_row HXd8.out)).trans HXd8.out)
        have HXw9 := Lib.hid ((hb.block _ (lt_of_row HXw8.out)).trans HXw8.out)
        clear hb HVA8 HOA8 HVB8 HOB8 HB8 HXa8 HXb8 HVD8 HOD8 HXd8 HXw8
        have hS2 : w9.cell? ⟨w0.heap.size, 0, none⟩ = some (.slice ava 4 avc) ∧ w9.cell? ⟨w0.heap.size, 1, none⟩ = some (.slice aoa l.length aoc) ∧ w9.cell? ⟨w0.heap.size + 1, 0, none⟩ = some (.slice bva 4 bvc) ∧ w9.cell? ⟨w0.heap.size + 1, 1, none⟩ = some (.slice boa m.length boc) ∧ w9.cell? ⟨w2.heap.size, 0, none⟩ = some (.slice dva xs.length dvc) ∧ w9.cell? ⟨w2.heap.size, 1, none⟩ = some (.slice doa os.length doc) := ⟨(pair_cells HXa9.out).1, (pair_cells HXa9.out).2, (pair_cells HXb9.out).1, (pair_cells HXb9.out).2, (pair_cells HXd9.out).1, (pair_cells HXd9.out).2⟩
        refine hK.out _ _ hS2 (fun hHeld3 => ?_)
        clear hK K
        (try simp only [Act.put, List.setIfInBounds_toArray, List.set_cons_zero, List.set_cons_succ])
        clear hHeld3
        refine wpAnyH_take (i := 11) (oi := { dst := some 89, op := .pick (.tmp 83) (.tmp 88) (.const (Value.bool false)), type := 4, pos := "laws.go:733", after := #[⟨5, .data⟩, ⟨10, .data⟩], guard := none }) (v := ?_) rfl (by kernel_rfl) (by kernel_rfl) (by kernel_rfl) (fun _ _ _ h => h) (Or.inl ⟨by rfl, ?_⟩) (by assumption) ?_
        rotate_left
        · intro w hSw
          (try dsimp only at hSw)
          first | (go_simp; done) | (go_simp; with_reducible rfl)
        (try simp only [Act.put, List.setIfInBounds_toArray, List.set_cons_zero, List.set_cons_succ])
        refine wpAnyH_take (i := 12) (oi := { dst := some 90, op := .move (.tmp 89), type := 4, pos := "laws.go:733", after := #[⟨11, .data⟩, ⟨10, .chain⟩], guard := none }) (v := ?_) rfl (by kernel_rfl) (by kernel_rfl) (by kernel_rfl) (fun _ _ _ h => h) (Or.inl ⟨by rfl, ?_⟩) (by assumption) ?_
        rotate_left
        · intro w hSw
          (try dsimp only at hSw)
          first | (go_simp; done) | (go_simp; with_reducible rfl)
        (try simp only [Act.put, List.setIfInBounds_toArray, List.set_cons_zero, List.set_cons_succ])
        refine wpAnyH_take (i := 13) (oi := { dst := some 91, op := .fieldAddr 27 (.tmp 5) 1, type := 0, pos := "laws.go:733", after := #[⟨12, .guard⟩], guard := some (12, true) }) (v := ?_) rfl (by kernel_rfl) (by kernel_rfl) (by kernel_rfl) (fun _ _ _ h => h) (Or.inl ⟨by rfl, ?_⟩) (by assumption) ?_
        rotate_left
        · intro w hSw
          (try dsimp only at hSw)
          first | (go_simp; done) | (go_simp; with_reducible rfl)
        (try simp only [Act.put, List.setIfInBounds_toArray, List.set_cons_zero, List.set_cons_succ])
        refine wpAnyH_take (i := 14) (oi := { dst := some 92, op := .load 25 (.tmp 91), type := 25, pos := "laws.go:733", after := #[⟨13, .data⟩, ⟨12, .guard⟩], guard := some (12, true) }) (v := ?_) rfl (by kernel_rfl) (by kernel_rfl) (by kernel_rfl) (fun _ _ _ h => h) (Or.inl ⟨by rfl, ?_⟩) (by assumption) ?_
        rotate_left
        · intro w hSw
          (try dsimp only at hSw)
          first | (go_simp; done) | (go_simp; with_reducible rfl)
        (try simp only [Act.put, List.setIfInBounds_toArray, List.set_cons_zero, List.set_cons_succ])
        refine wpAnyH_take (i := 15) (oi := { dst := some 93, op := .call { callee := .builtin .len, args := #[.tmp 92], argTypes := #[25] }, type := 3, pos := "laws.go:733", after := #[⟨14, .data⟩, ⟨12, .guard⟩], guard := some (12, true) }) (v := ?_) rfl (by kernel_rfl) (by kernel_rfl) (by kernel_rfl) (fun _ _ _ h => h) (Or.inl ⟨by rfl, ?_⟩) (by assumption) ?_
        rotate_left
        · intro w hSw
          (try dsimp only at hSw)
          first | (go_simp; done) | (go_simp; with_reducible rfl)
        (try simp only [Act.put, List.setIfInBounds_toArray, List.set_cons_zero, List.set_cons_succ])
        refine wpAnyH_take (i := 16) (oi := { dst := some 94, op := .binOp .eql 3 (.tmp 93) (.const (Value.int IntKind.i64 0)) 3, type := 4, pos := "laws.go:733", after := #[⟨15, .data⟩, ⟨12, .guard⟩], guard := some (12, true) }) (v := .bool z) rfl (by kernel_rfl) (by kernel_rfl) (by kernel_rfl) (fun _ _ _ h => h) (Or.inl ⟨by rfl, ?_⟩) (by assumption) ?_
        · intro w hSw
          (try dsimp only at hSw)
          go_simp
          first | exact HZn.out | exact congrArg Value.bool HZn.out | (rw [← HZn.out]; simp)
        (try simp only [Act.put, List.setIfInBounds_toArray, List.set_cons_zero, List.set_cons_succ])
        refine wpAnyH_take (i := 17) (oi := { dst := some 95, op := .load 27 (.tmp 3), type := 27, pos := "laws.go:733", after := #[⟨12, .guard⟩], guard := some (12, true) }) (v := ?_) rfl (by kernel_rfl) (by kernel_rfl) (by kernel_rfl) (fun _ _ _ h => h) (Or.inl ⟨by rfl, ?_⟩) (by assumption) ?_
        rotate_left
        · intro w hSw
          (try dsimp only at hSw)
          first | (go_simp; done) | (go_simp; with_reducible rfl)
        (try simp only [Act.put, List.setIfInBounds_toArray, List.set_cons_zero, List.set_cons_succ])
        refine wpAnyH_take (i := 18) (oi := { dst := some 96, op := .load 27 (.tmp 4), type := 27, pos := "laws.go:733", after := #[⟨12, .guard⟩], guard := some (12, true) }) (v := ?_) rfl (by kernel_rfl) (by kernel_rfl) (by kernel_rfl) (fun _ _ _ h => h) (Or.inl ⟨by rfl, ?_⟩) (by assumption) ?_
        rotate_left
        · intro w hSw
          (try dsimp only at hSw)
          first | (go_simp; done) | (go_simp; with_reducible rfl)
        (try simp only [Act.put, List.setIfInBounds_toArray, List.set_cons_zero, List.set_cons_succ])
        refine wpAnyH_ready (rs := [19]) (by kernel_rfl) (by simp) ?_
        refine AllReadyH.cons (o := { dst := some 97, op := .call { callee := .value (.func 21), args := #[.tmp 95, .tmp 96], argTypes := #[27, 27] }, type := 4, pos := "laws.go:733", after := #[⟨17, .data⟩, ⟨18, .data⟩, ⟨12, .chain⟩, ⟨12, .guard⟩], guard := some (12, true) }) rfl (fun K hK => ?_) AllReadyH.nil
        go_simp
        go_at_call 21
        refine (implWithinC w9 w9.heap.size ava aoa bva boa 4 avc l.length aoc 4 bvc m.length boc xs l ys m (HVA9.out.more (by omega)) (HOA9.out.more (by omega)) (HVB9.out.more (by omega)) (HOB9.out.more (by omega)) (Nat.le_refl _) (by omega) HCa.out.1 ⟨by omega, HCa.out.2.1⟩ (by omega) HCb.out.1 ⟨by omega, HCb.out.2.1⟩).mono ?_
        rintro e w10 ⟨rfl, hb⟩
        rw [HZ2.out]
        have hs10 := hb.size
        have HVA10 := Lib.hid (HVA9.out.below hb (by omega))
        have HOA10 := Lib.hid (HOA9.out.below hb (by omega))
        have HVB10 := Lib.hid (HVB9.out.below hb (by omega))
        have HOB10 := Lib.hid (HOB9.out.below hb (by omega))
        have HB10 := Lib.hid (HB9.out.trans (hb.mono (by omega)))
        have HXa10 := Lib.hid ((hb.block _ (lt_of_row HXa9.out)).trans HXa9.out)
        have HXb10 := Lib.hid ((hb.block _ (lt_of_row HXb9.out)).trans HXb9.out)
        have HVD10 := Lib.hid (HVD9.out.below hb (by omega))
        have HOD10 := Lib.hid (HOD9.out.below hb (by omega))
        have HXd10 := Lib.hid ((hb.block _ (lt_of_row HXd9.out)).trans HXd9.out)
        have HXw10 := Lib.hid ((hb.block _ (lt_of_row HXw9.out)).trans HXw9.out)
        clear hb HVA9 HOA9 HVB9 HOB9 HB9 HXa9 HXb9 HVD9 HOD9 HXd9 HXw9
        have hS4 : w10.cell? ⟨w0.heap.size, 0, none⟩ = some (.slice ava 4 avc) ∧ w10.cell? ⟨w0.heap.size, 1, none⟩ = some (.slice aoa l.length aoc) ∧ w10.cell? ⟨w0.heap.size + 1, 0, none⟩ = some (.slice bva 4 bvc) ∧ w10.cell? ⟨w0.heap.size + 1, 1, none⟩ = some (.slice boa m.length boc) ∧ w10.cell? ⟨w2.heap.size, 0, none⟩ = some (.slice dva xs.length dvc) ∧ w10.cell? ⟨w2.heap.size, 1, none⟩ = some (.slice doa os.length doc) := ⟨(pair_cells HXa10.out).1, (pair_cells HXa10.out).2, (pair_cells HXb10.out).1, (pair_cells HXb10.out).2, (pair_cells HXd10.out).1, (pair_cells HXd10.out).2⟩
        refine hK.out _ _ hS4 (fun hHeld5 => ?_)
        clear hK K
        (try simp only [Act.put, List.setIfInBounds_toArray, List.set_cons_zero, List.set_cons_succ])
        clear hHeld5
        refine wpAnyH_take (i := 20) (oi := { dst := some 98, op := .binOp .eql 4 (.tmp 94) (.tmp 97) 4, type := 4, pos := "laws.go:733", after := #[⟨16, .data⟩, ⟨19, .data⟩, ⟨12, .guard⟩], guard := some (12, true) }) (v := ?_) rfl (by kernel_rfl) (by kernel_rfl) (by kernel_rfl) (fun _ _ _ h => h) (Or.inl ⟨by rfl, ?_⟩) (by assumption) ?_
        rotate_left
        · intro w hSw
          (try dsimp only at hSw)
          first | (go_simp; done) | (go_simp; with_reducible rfl)
        (try simp only [Act.put, List.setIfInBounds_toArray, List.set_cons_zero, List.set_cons_succ])
        refine wpAnyH_take (i := 21) (oi := { dst := some 99, op := .pick (.tmp 90) (.tmp 98) (.const (Value.bool false)), type := 4, pos := "laws.go:733", after := #[⟨12, .data⟩, ⟨20, .data⟩], guard := none }) (v := ?_) rfl (by kernel_rfl) (by kernel_rfl) (by kernel_rfl) (fun _ _ _ h => h) (Or.inl ⟨by rfl, ?_⟩) (by assumption) ?_
        rotate_left
        · intro w hSw
          (try dsimp only at hSw)
          first | (go_simp; done) | (go_simp; with_reducible rfl)
        (try simp only [Act.put, List.setIfInBounds_toArray, List.set_cons_zero, List.set_cons_succ])
        refine wpAnyH_take (i := 22) (oi := { dst := some 2, op := .assign (.tmp 99), type := 4, pos := "laws.go:733", after := #[⟨21, .data⟩, ⟨19, .chain⟩, ⟨0, .phase⟩, ⟨1, .phase⟩, ⟨2, .phase⟩, ⟨3, .phase⟩, ⟨4, .phase⟩, ⟨5, .phase⟩, ⟨6, .phase⟩, ⟨7, .phase⟩, ⟨8, .phase⟩, ⟨9, .phase⟩, ⟨10, .phase⟩, ⟨11, .phase⟩, ⟨12, .phase⟩, ⟨13, .phase⟩, ⟨14, .phase⟩, ⟨15, .phase⟩, ⟨16, .phase⟩, ⟨17, .phase⟩, ⟨18, .phase⟩, ⟨19, .phase⟩, ⟨20, .phase⟩, ⟨21, .phase⟩], guard := none }) (v := ?_) rfl (by kernel_rfl) (by kernel_rfl) (by kernel_rfl) (fun _ _ _ h => h) (Or.inl ⟨by rfl, ?_⟩) (by assumption) ?_
        rotate_left
        · intro w hSw
          (try dsimp only at hSw)
          first | (go_simp; done) | (go_simp; with_reducible rfl)
        (try simp only [Act.put, List.setIfInBounds_toArray, List.set_cons_zero, List.set_cons_succ])
        refine wpAnyH_done (by kernel_rfl) ?_ _
        go_wp2
        go_ret
        exact ⟨rfl, HB10.out⟩
    obtain ⟨h1, h2⟩ := hlt
    have hqi : (q : Int) < (l.length : Int) := by omega
    have hpi : (p : Int) < (os.length : Int) := by omega
    have hq0 : decide ((q : Int) < 0) = false := decide_eq_false (by omega)
    have hq00 : ¬ ((q : Int) < 0) := by omega
    have hp0 : decide ((p : Int) < 0) = false := decide_eq_false (by omega)
    have hp00 : ¬ ((p : Int) < 0) := by omega
    have HStep := Lib.hid (HCN.out q h1 (by rw [HF.out]; exact h2))
    rw [HF.out] at HStep
    have hxa := (HBr.out.block _ (lt_of_row HXa6.out)).trans HXa6.out
    have hxd := (HBr.out.block _ (lt_of_row HXd6.out)).trans HXd6.out
    obtain ⟨ab, ao, rfl, hab, hao⟩ := (HOA6.out.below HBr.out (by omega)).2 q h1
    obtain ⟨db, do_, rfl, hdb, hdo⟩ := (HOD6.out.below HBr.out (by omega)).2 p h2
    have hao : OpAt wr ab (ao + q * 8) (atOp l q) := hao
    have hdo : OpAt wr db (do_ + p * 8) (atOp os p) := hdo
    obtain ⟨x, hx⟩ : ∃ x, atOp l q = x := ⟨_, rfl⟩
    obtain ⟨y, hy⟩ : ∃ y, atOp os p = y := ⟨_, rfl⟩
    rw [hx] at hao HStep
    rw [hy] at hdo HStep
    clear hx hy
    obtain ⟨d0, d1, d2, d3, d4, d5, d6, d7⟩ := hao
    obtain ⟨e0, e1, e2, e3, e4, e5, e6, e7⟩ := hdo
    obtain ⟨c00, c01⟩ := pair_cells hxa
    obtain ⟨c10, c11⟩ := pair_cells hxd
    go_upto_region 12 with fail
    by_cases e : x = y
    · skip
      subst e
      have HE : Hid (f (q + 1) = p + 1) := HStep.out.trans (by rw [decide_eq_true rfl]; rfl)
      have hS : wr.drew.cell? ⟨w0.heap.size, 1, none⟩ = some (.slice (some ⟨ab, ao, none⟩) l.length aoc) ∧ wr.drew.cell? ⟨w2.heap.size, 1, none⟩ = some (.slice (some ⟨db, do_, none⟩) os.length doc) ∧ wr.drew.cell? ⟨ab, ao + q * 8, none⟩ = some (.int .i64 x.dev) ∧ wr.drew.cell? ⟨ab, ao + q * 8 + 1, none⟩ = some (.int .i64 x.seq) ∧ wr.drew.cell? ⟨ab, ao + q * 8 + 2, none⟩ = some (.int .i64 x.stamp) ∧ wr.drew.cell? ⟨ab, ao + q * 8 + 3, none⟩ = some (.int .i64 x.kind) ∧ wr.drew.cell? ⟨ab, ao + q * 8 + 4, none⟩ = some (.string x.item) ∧ wr.drew.cell? ⟨ab, ao + q * 8 + 5, none⟩ = some (.int .i64 x.qty) ∧ wr.drew.cell? ⟨ab, ao + q * 8 + 6, none⟩ = some (.int .i64 x.level) ∧ wr.drew.cell? ⟨ab, ao + q * 8 + 7, none⟩ = some (.int .i64 x.undos) ∧ wr.drew.cell? ⟨db, do_ + p * 8, none⟩ = some (.int .i64 x.dev) ∧ wr.drew.cell? ⟨db, do_ + p * 8 + 1, none⟩ = some (.int .i64 x.seq) ∧ wr.drew.cell? ⟨db, do_ + p * 8 + 2, none⟩ = some (.int .i64 x.stamp) ∧ wr.drew.cell? ⟨db, do_ + p * 8 + 3, none⟩ = some (.int .i64 x.kind) ∧ wr.drew.cell? ⟨db, do_ + p * 8 + 4, none⟩ = some (.string x.item) ∧ wr.drew.cell? ⟨db, do_ + p * 8 + 5, none⟩ = some (.int .i64 x.qty) ∧ wr.drew.cell? ⟨db, do_ + p * 8 + 6, none⟩ = some (.int .i64 x.level) ∧ wr.drew.cell? ⟨db, do_ + p * 8 + 7, none⟩ = some (.int .i64 x.undos) := ⟨c01, c11, d0, d1, d2, d3, d4, d5, d6, d7, e0, e1, e2, e3, e4, e5, e6, e7⟩
      go_wp2_with fail
      refine wp_region_held_drew (S := fun w' => w'.cell? ⟨w0.heap.size, 1, none⟩ = some (.slice (some ⟨ab, ao, none⟩) l.length aoc) ∧ w'.cell? ⟨w2.heap.size, 1, none⟩ = some (.slice (some ⟨db, do_, none⟩) os.length doc) ∧ w'.cell? ⟨ab, ao + q * 8, none⟩ = some (.int .i64 x.dev) ∧ w'.cell? ⟨ab, ao + q * 8 + 1, none⟩ = some (.int .i64 x.seq) ∧ w'.cell? ⟨ab, ao + q * 8 + 2, none⟩ = some (.int .i64 x.stamp) ∧ w'.cell? ⟨ab, ao + q * 8 + 3, none⟩ = some (.int .i64 x.kind) ∧ w'.cell? ⟨ab, ao + q * 8 + 4, none⟩ = some (.string x.item) ∧ w'.cell? ⟨ab, ao + q * 8 + 5, none⟩ = some (.int .i64 x.qty) ∧ w'.cell? ⟨ab, ao + q * 8 + 6, none⟩ = some (.int .i64 x.level) ∧ w'.cell? ⟨ab, ao + q * 8 + 7, none⟩ = some (.int .i64 x.undos) ∧ w'.cell? ⟨db, do_ + p * 8, none⟩ = some (.int .i64 x.dev) ∧ w'.cell? ⟨db, do_ + p * 8 + 1, none⟩ = some (.int .i64 x.seq) ∧ w'.cell? ⟨db, do_ + p * 8 + 2, none⟩ = some (.int .i64 x.stamp) ∧ w'.cell? ⟨db, do_ + p * 8 + 3, none⟩ = some (.int .i64 x.kind) ∧ w'.cell? ⟨db, do_ + p * 8 + 4, none⟩ = some (.string x.item) ∧ w'.cell? ⟨db, do_ + p * 8 + 5, none⟩ = some (.int .i64 x.qty) ∧ w'.cell? ⟨db, do_ + p * 8 + 6, none⟩ = some (.int .i64 x.level) ∧ w'.cell? ⟨db, do_ + p * 8 + 7, none⟩ = some (.int .i64 x.undos)) (by kernel_rfl) hS (fun hHeld => ?_)
      refine wpAnyH_take (i := 0) (oi := { dst := some 65, op := .fieldAddr 27 (.tmp 3) 1, type := 0, pos := "laws.go:729", after := #[], guard := none }) (v := ?_) rfl (by kernel_rfl) (by kernel_rfl) (by kernel_rfl) (fun _ _ _ h => h) (Or.inl ⟨by rfl, ?_⟩) (by assumption) ?_
      rotate_left
      · intro w hSw
        (try dsimp only at hSw)
        first | (go_simp; done) | (go_simp; with_reducible rfl)
      (try simp only [Act.put, List.setIfInBounds_toArray, List.set_cons_zero, List.set_cons_succ])
      refine wpAnyH_take (i := 1) (oi := { dst := some 66, op := .load 25 (.tmp 65), type := 25, pos := "laws.go:729", after := #[⟨0, .data⟩], guard := none }) (v := ?_) rfl (by kernel_rfl) (by kernel_rfl) (by kernel_rfl) (fun _ _ _ h => h) (Or.inl ⟨by rfl, ?_⟩) (by assumption) ?_
      rotate_left
      · intro w hSw
        (try dsimp only at hSw)
        first | (go_simp; done) | (go_simp; with_reducible rfl)
      (try simp only [Act.put, List.setIfInBounds_toArray, List.set_cons_zero, List.set_cons_succ])
      refine wpAnyH_take (i := 2) (oi := { dst := some 67, op := .move (.tmp 10), type := 3, pos := "laws.go:729", after := #[], guard := none }) (v := ?_) rfl (by kernel_rfl) (by kernel_rfl) (by kernel_rfl) (fun _ _ _ h => h) (Or.inl ⟨by rfl, ?_⟩) (by assumption) ?_
      rotate_left
      · intro w hSw
        (try dsimp only at hSw)
        first | (go_simp; done) | (go_simp; with_reducible rfl)
      (try simp only [Act.put, List.setIfInBounds_toArray, List.set_cons_zero, List.set_cons_succ])
      refine wpAnyH_take (i := 3) (oi := { dst := some 68, op := .indexAddr 25 (.tmp 66) (.tmp 67), type := 0, pos := "laws.go:729", after := #[⟨1, .data⟩, ⟨2, .data⟩], guard := none }) (v := ?_) rfl (by kernel_rfl) (by kernel_rfl) (by kernel_rfl) (fun _ _ _ h => h) (Or.inl ⟨by rfl, ?_⟩) (by assumption) ?_
      rotate_left
      · intro w hSw
        (try dsimp only at hSw)
        first | (go_simp; done) | (go_simp; with_reducible rfl)
      (try simp only [Act.put, List.setIfInBounds_toArray, List.set_cons_zero, List.set_cons_succ])
      refine wpAnyH_take (i := 4) (oi := { dst := some 69, op := .load 34 (.tmp 68), type := 34, pos := "laws.go:729", after := #[⟨3, .data⟩], guard := none }) (v := ?_) rfl (by kernel_rfl) (by kernel_rfl) (by kernel_rfl) (fun _ _ _ h => h) (Or.inl ⟨by rfl, ?_⟩) (by assumption) ?_
      rotate_left
      · intro w hSw
        (try dsimp only at hSw)
        first | (go_simp; done) | (go_simp; with_reducible rfl)
      (try simp only [Act.put, List.setIfInBounds_toArray, List.set_cons_zero, List.set_cons_succ])
      refine wpAnyH_take (i := 5) (oi := { dst := some 70, op := .fieldAddr 27 (.tmp 5) 1, type := 0, pos := "laws.go:729", after := #[], guard := none }) (v := ?_) rfl (by kernel_rfl) (by kernel_rfl) (by kernel_rfl) (fun _ _ _ h => h) (Or.inl ⟨by rfl, ?_⟩) (by assumption) ?_
      rotate_left
      · intro w hSw
        (try dsimp only at hSw)
        first | (go_simp; done) | (go_simp; with_reducible rfl)
      (try simp only [Act.put, List.setIfInBounds_toArray, List.set_cons_zero, List.set_cons_succ])
      refine wpAnyH_take (i := 6) (oi := { dst := some 71, op := .load 25 (.tmp 70), type := 25, pos := "laws.go:729", after := #[⟨5, .data⟩], guard := none }) (v := ?_) rfl (by kernel_rfl) (by kernel_rfl) (by kernel_rfl) (fun _ _ _ h => h) (Or.inl ⟨by rfl, ?_⟩) (by assumption) ?_
      rotate_left
      · intro w hSw
        (try dsimp only at hSw)
        first | (go_simp; done) | (go_simp; with_reducible rfl)
      (try simp only [Act.put, List.setIfInBounds_toArray, List.set_cons_zero, List.set_cons_succ])
      refine wpAnyH_take (i := 7) (oi := { dst := some 72, op := .move (.tmp 9), type := 3, pos := "laws.go:729", after := #[], guard := none }) (v := ?_) rfl (by kernel_rfl) (by kernel_rfl) (by kernel_rfl) (fun _ _ _ h => h) (Or.inl ⟨by rfl, ?_⟩) (by assumption) ?_
      rotate_left
      · intro w hSw
        (try dsimp only at hSw)
        first | (go_simp; done) | (go_simp; with_reducible rfl)
      (try simp only [Act.put, List.setIfInBounds_toArray, List.set_cons_zero, List.set_cons_succ])
      refine wpAnyH_take (i := 8) (oi := { dst := some 73, op := .indexAddr 25 (.tmp 71) (.tmp 72), type := 0, pos := "laws.go:729", after := #[⟨6, .data⟩, ⟨7, .data⟩], guard := none }) (v := ?_) rfl (by kernel_rfl) (by kernel_rfl) (by kernel_rfl) (fun _ _ _ h => h) (Or.inl ⟨by rfl, ?_⟩) (by assumption) ?_
      rotate_left
      · intro w hSw
        (try dsimp only at hSw)
        first | (go_simp; done) | (go_simp; with_reducible rfl)
      (try simp only [Act.put, List.setIfInBounds_toArray, List.set_cons_zero, List.set_cons_succ])
      refine wpAnyH_take (i := 9) (oi := { dst := some 74, op := .load 34 (.tmp 73), type := 34, pos := "laws.go:729", after := #[⟨8, .data⟩], guard := none }) (v := ?_) rfl (by kernel_rfl) (by kernel_rfl) (by kernel_rfl) (fun _ _ _ h => h) (Or.inl ⟨by rfl, ?_⟩) (by assumption) ?_
      rotate_left
      · intro w hSw
        (try dsimp only at hSw)
        first | (go_simp; done) | (go_simp; with_reducible rfl)
      (try simp only [Act.put, List.setIfInBounds_toArray, List.set_cons_zero, List.set_cons_succ])
      refine wpAnyH_take (i := 10) (oi := { dst := some 75, op := .binOp .eql 34 (.tmp 69) (.tmp 74) 34, type := 4, pos := "laws.go:729", after := #[⟨4, .data⟩, ⟨9, .data⟩], guard := none }) (v := ?_) rfl (by kernel_rfl) (by kernel_rfl) (by kernel_rfl) (fun _ _ _ h => h) (Or.inl ⟨by rfl, ?_⟩) (by assumption) ?_
      rotate_left
      · intro w hSw
        (try dsimp only at hSw)
        first | (go_simp; done) | (go_simp; with_reducible rfl)
      (try simp only [Act.put, List.setIfInBounds_toArray, List.set_cons_zero, List.set_cons_succ])
      refine wpAnyH_done (by kernel_rfl) ?_ _
      clear hS hHeld d0 d1 d2 d3 d4 d5 d6 d7 e0 e1 e2 e3 e4 e5 e6 e7
      go_wp2
      go_roundw
      case rel => exact ⟨q + 1, p + 1, by omega, by go_num, by go_num, HE, HBr.out.drew⟩
      case measure => simp [intOf]; omega
    · skip
      have HN := Lib.hid (full_no e)
      have HE : Hid (f (q + 1) = p) := HStep.out.trans (by rw [decide_eq_false e]; rfl)
      clear e
      have hS : wr.drew.cell? ⟨w0.heap.size, 1, none⟩ = some (.slice (some ⟨ab, ao, none⟩) l.length aoc) ∧ wr.drew.cell? ⟨w2.heap.size, 1, none⟩ = some (.slice (some ⟨db, do_, none⟩) os.length doc) ∧ wr.drew.cell? ⟨ab, ao + q * 8, none⟩ = some (.int .i64 x.dev) ∧ wr.drew.cell? ⟨ab, ao + q * 8 + 1, none⟩ = some (.int .i64 x.seq) ∧ wr.drew.cell? ⟨ab, ao + q * 8 + 2, none⟩ = some (.int .i64 x.stamp) ∧ wr.drew.cell? ⟨ab, ao + q * 8 + 3, none⟩ = some (.int .i64 x.kind) ∧ wr.drew.cell? ⟨ab, ao + q * 8 + 4, none⟩ = some (.string x.item) ∧ wr.drew.cell? ⟨ab, ao + q * 8 + 5, none⟩ = some (.int .i64 x.qty) ∧ wr.drew.cell? ⟨ab, ao + q * 8 + 6, none⟩ = some (.int .i64 x.level) ∧ wr.drew.cell? ⟨ab, ao + q * 8 + 7, none⟩ = some (.int .i64 x.undos) ∧ wr.drew.cell? ⟨db, do_ + p * 8, none⟩ = some (.int .i64 y.dev) ∧ wr.drew.cell? ⟨db, do_ + p * 8 + 1, none⟩ = some (.int .i64 y.seq) ∧ wr.drew.cell? ⟨db, do_ + p * 8 + 2, none⟩ = some (.int .i64 y.stamp) ∧ wr.drew.cell? ⟨db, do_ + p * 8 + 3, none⟩ = some (.int .i64 y.kind) ∧ wr.drew.cell? ⟨db, do_ + p * 8 + 4, none⟩ = some (.string y.item) ∧ wr.drew.cell? ⟨db, do_ + p * 8 + 5, none⟩ = some (.int .i64 y.qty) ∧ wr.drew.cell? ⟨db, do_ + p * 8 + 6, none⟩ = some (.int .i64 y.level) ∧ wr.drew.cell? ⟨db, do_ + p * 8 + 7, none⟩ = some (.int .i64 y.undos) := ⟨c01, c11, d0, d1, d2, d3, d4, d5, d6, d7, e0, e1, e2, e3, e4, e5, e6, e7⟩
      go_wp2_with fail
      refine wp_region_held_drew (S := fun w' => w'.cell? ⟨w0.heap.size, 1, none⟩ = some (.slice (some ⟨ab, ao, none⟩) l.length aoc) ∧ w'.cell? ⟨w2.heap.size, 1, none⟩ = some (.slice (some ⟨db, do_, none⟩) os.length doc) ∧ w'.cell? ⟨ab, ao + q * 8, none⟩ = some (.int .i64 x.dev) ∧ w'.cell? ⟨ab, ao + q * 8 + 1, none⟩ = some (.int .i64 x.seq) ∧ w'.cell? ⟨ab, ao + q * 8 + 2, none⟩ = some (.int .i64 x.stamp) ∧ w'.cell? ⟨ab, ao + q * 8 + 3, none⟩ = some (.int .i64 x.kind) ∧ w'.cell? ⟨ab, ao + q * 8 + 4, none⟩ = some (.string x.item) ∧ w'.cell? ⟨ab, ao + q * 8 + 5, none⟩ = some (.int .i64 x.qty) ∧ w'.cell? ⟨ab, ao + q * 8 + 6, none⟩ = some (.int .i64 x.level) ∧ w'.cell? ⟨ab, ao + q * 8 + 7, none⟩ = some (.int .i64 x.undos) ∧ w'.cell? ⟨db, do_ + p * 8, none⟩ = some (.int .i64 y.dev) ∧ w'.cell? ⟨db, do_ + p * 8 + 1, none⟩ = some (.int .i64 y.seq) ∧ w'.cell? ⟨db, do_ + p * 8 + 2, none⟩ = some (.int .i64 y.stamp) ∧ w'.cell? ⟨db, do_ + p * 8 + 3, none⟩ = some (.int .i64 y.kind) ∧ w'.cell? ⟨db, do_ + p * 8 + 4, none⟩ = some (.string y.item) ∧ w'.cell? ⟨db, do_ + p * 8 + 5, none⟩ = some (.int .i64 y.qty) ∧ w'.cell? ⟨db, do_ + p * 8 + 6, none⟩ = some (.int .i64 y.level) ∧ w'.cell? ⟨db, do_ + p * 8 + 7, none⟩ = some (.int .i64 y.undos)) (by kernel_rfl) hS (fun hHeld => ?_)
      refine wpAnyH_take (i := 0) (oi := { dst := some 65, op := .fieldAddr 27 (.tmp 3) 1, type := 0, pos := "laws.go:729", after := #[], guard := none }) (v := ?_) rfl (by kernel_rfl) (by kernel_rfl) (by kernel_rfl) (fun _ _ _ h => h) (Or.inl ⟨by rfl, ?_⟩) (by assumption) ?_
      rotate_left
      · intro w hSw
        (try dsimp only at hSw)
        first | (go_simp; done) | (go_simp; with_reducible rfl)
      (try simp only [Act.put, List.setIfInBounds_toArray, List.set_cons_zero, List.set_cons_succ])
      refine wpAnyH_take (i := 1) (oi := { dst := some 66, op := .load 25 (.tmp 65), type := 25, pos := "laws.go:729", after := #[⟨0, .data⟩], guard := none }) (v := ?_) rfl (by kernel_rfl) (by kernel_rfl) (by kernel_rfl) (fun _ _ _ h => h) (Or.inl ⟨by rfl, ?_⟩) (by assumption) ?_
      rotate_left
      · intro w hSw
        (try dsimp only at hSw)
        first | (go_simp; done) | (go_simp; with_reducible rfl)
      (try simp only [Act.put, List.setIfInBounds_toArray, List.set_cons_zero, List.set_cons_succ])
      refine wpAnyH_take (i := 2) (oi := { dst := some 67, op := .move (.tmp 10), type := 3, pos := "laws.go:729", after := #[], guard := none }) (v := ?_) rfl (by kernel_rfl) (by kernel_rfl) (by kernel_rfl) (fun _ _ _ h => h) (Or.inl ⟨by rfl, ?_⟩) (by assumption) ?_
      rotate_left
      · intro w hSw
        (try dsimp only at hSw)
        first | (go_simp; done) | (go_simp; with_reducible rfl)
      (try simp only [Act.put, List.setIfInBounds_toArray, List.set_cons_zero, List.set_cons_succ])
      refine wpAnyH_take (i := 3) (oi := { dst := some 68, op := .indexAddr 25 (.tmp 66) (.tmp 67), type := 0, pos := "laws.go:729", after := #[⟨1, .data⟩, ⟨2, .data⟩], guard := none }) (v := ?_) rfl (by kernel_rfl) (by kernel_rfl) (by kernel_rfl) (fun _ _ _ h => h) (Or.inl ⟨by rfl, ?_⟩) (by assumption) ?_
      rotate_left
      · intro w hSw
        (try dsimp only at hSw)
        first | (go_simp; done) | (go_simp; with_reducible rfl)
      (try simp only [Act.put, List.setIfInBounds_toArray, List.set_cons_zero, List.set_cons_succ])
      refine wpAnyH_take (i := 4) (oi := { dst := some 69, op := .load 34 (.tmp 68), type := 34, pos := "laws.go:729", after := #[⟨3, .data⟩], guard := none }) (v := ?_) rfl (by kernel_rfl) (by kernel_rfl) (by kernel_rfl) (fun _ _ _ h => h) (Or.inl ⟨by rfl, ?_⟩) (by assumption) ?_
      rotate_left
      · intro w hSw
        (try dsimp only at hSw)
        first | (go_simp; done) | (go_simp; with_reducible rfl)
      (try simp only [Act.put, List.setIfInBounds_toArray, List.set_cons_zero, List.set_cons_succ])
      refine wpAnyH_take (i := 5) (oi := { dst := some 70, op := .fieldAddr 27 (.tmp 5) 1, type := 0, pos := "laws.go:729", after := #[], guard := none }) (v := ?_) rfl (by kernel_rfl) (by kernel_rfl) (by kernel_rfl) (fun _ _ _ h => h) (Or.inl ⟨by rfl, ?_⟩) (by assumption) ?_
      rotate_left
      · intro w hSw
        (try dsimp only at hSw)
        first | (go_simp; done) | (go_simp; with_reducible rfl)
      (try simp only [Act.put, List.setIfInBounds_toArray, List.set_cons_zero, List.set_cons_succ])
      refine wpAnyH_take (i := 6) (oi := { dst := some 71, op := .load 25 (.tmp 70), type := 25, pos := "laws.go:729", after := #[⟨5, .data⟩], guard := none }) (v := ?_) rfl (by kernel_rfl) (by kernel_rfl) (by kernel_rfl) (fun _ _ _ h => h) (Or.inl ⟨by rfl, ?_⟩) (by assumption) ?_
      rotate_left
      · intro w hSw
        (try dsimp only at hSw)
        first | (go_simp; done) | (go_simp; with_reducible rfl)
      (try simp only [Act.put, List.setIfInBounds_toArray, List.set_cons_zero, List.set_cons_succ])
      refine wpAnyH_take (i := 7) (oi := { dst := some 72, op := .move (.tmp 9), type := 3, pos := "laws.go:729", after := #[], guard := none }) (v := ?_) rfl (by kernel_rfl) (by kernel_rfl) (by kernel_rfl) (fun _ _ _ h => h) (Or.inl ⟨by rfl, ?_⟩) (by assumption) ?_
      rotate_left
      · intro w hSw
        (try dsimp only at hSw)
        first | (go_simp; done) | (go_simp; with_reducible rfl)
      (try simp only [Act.put, List.setIfInBounds_toArray, List.set_cons_zero, List.set_cons_succ])
      refine wpAnyH_take (i := 8) (oi := { dst := some 73, op := .indexAddr 25 (.tmp 71) (.tmp 72), type := 0, pos := "laws.go:729", after := #[⟨6, .data⟩, ⟨7, .data⟩], guard := none }) (v := ?_) rfl (by kernel_rfl) (by kernel_rfl) (by kernel_rfl) (fun _ _ _ h => h) (Or.inl ⟨by rfl, ?_⟩) (by assumption) ?_
      rotate_left
      · intro w hSw
        (try dsimp only at hSw)
        first | (go_simp; done) | (go_simp; with_reducible rfl)
      (try simp only [Act.put, List.setIfInBounds_toArray, List.set_cons_zero, List.set_cons_succ])
      refine wpAnyH_take (i := 9) (oi := { dst := some 74, op := .load 34 (.tmp 73), type := 34, pos := "laws.go:729", after := #[⟨8, .data⟩], guard := none }) (v := ?_) rfl (by kernel_rfl) (by kernel_rfl) (by kernel_rfl) (fun _ _ _ h => h) (Or.inl ⟨by rfl, ?_⟩) (by assumption) ?_
      rotate_left
      · intro w hSw
        (try dsimp only at hSw)
        first | (go_simp; done) | (go_simp; with_reducible rfl)
      (try simp only [Act.put, List.setIfInBounds_toArray, List.set_cons_zero, List.set_cons_succ])
      refine wpAnyH_take (i := 10) (oi := { dst := some 75, op := .binOp .eql 34 (.tmp 69) (.tmp 74) 34, type := 4, pos := "laws.go:729", after := #[⟨4, .data⟩, ⟨9, .data⟩], guard := none }) (v := .bool false) rfl (by kernel_rfl) (by kernel_rfl) (by kernel_rfl) (fun _ _ _ h => h) (Or.inl ⟨by rfl, ?_⟩) (by assumption) ?_
      · intro w hSw
        (try dsimp only at hSw)
        obtain ⟨b0, b1, c0, c1, c2, c3, c4, c5, c6, c7, g0, g1, g2, g3, g4, g5, g6, g7⟩ := hSw
        go_simp
        intros
        intro hlast
        exact absurd (full_of (a := x) (b := y) (by assumption) (by assumption) (by assumption) (by assumption) (by first | assumption | exact congrArg ByteArray.toList (by assumption)) (by assumption) (by assumption) (by assumption)) (by rw [HN.out]; decide)
      (try simp only [Act.put, List.setIfInBounds_toArray, List.set_cons_zero, List.set_cons_succ])
      refine wpAnyH_done (by kernel_rfl) ?_ _
      clear hS hHeld d0 d1 d2 d3 d4 d5 d6 d7 e0 e1 e2 e3 e4 e5 e6 e7
      go_wp2
      go_roundw
      case rel => exact ⟨q + 1, p, by omega, by go_num, rfl, HE, HBr.out.drew⟩
      case measure => simp [intOf]; omega
end Go.Proofs.Ytmceofdknphgkaa
