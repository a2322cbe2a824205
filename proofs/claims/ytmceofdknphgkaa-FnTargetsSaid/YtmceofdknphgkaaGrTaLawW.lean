/- The walk of the law FnTargets. -/
import Derived.Test.YtmceofdknphgkaaGa34
import Derived.Test.YtmceofdknphgkaaGrpOpLawsW
import Derived.Test.YtmceofdknphgkaaGrpRow
import Derived.Test.YtmceofdknphgkaaGrpLiveMath
import Derived.Test.YtmceofdknphgkaaGrpCloneW
import Derived.Test.YtmceofdknphgkaaGrpLastLiveW
import Derived.Test.YtmceofdknphgkaaGrpRdBase
import Derived.Test.YtmceofdknphgkaaGrpNamedW
import Derived.Test.YtmceofdknphgkaaGrTgtM
import Derived.Test.YtmceofdknphgkaaGrNamedI
import Derived.Test.YtmceofdknphgkaaGa23
import Derived.Deep.Cut
namespace Go.Proofs.Ytmceofdknphgkaa
open Go.RowKit
set_option linter.unusedVariables false
set_option linter.unusedSimpArgs false

set_option maxRecDepth 100000 in
set_option maxHeartbeats 16000000 in
theorem fnTargetsWalk (a : Option Addr) (len cap : Nat) (zs : List Int) (w : World) (h : IsRow .u8 w a len cap zs) :
    Calls Try.prog 8 #[.slice a len cap] w fun e w' => e = .returned (.bool true) ∧ Below w.heap.size w w' := by
  by_cases hbig : len ≤ 1048576
  rotate_left
  · go_enter Try.func8, Try.ntmps8
    go_wp2_with fail
    refine (bigYes a len cap hbig w).mono ?_
    rintro e w' ⟨rfl, rfl⟩
    go_wp2
    go_ret
    exact ⟨rfl, Below.refl _ _⟩
  have hsrc := Lib.hid (src_of_row h hbig)
  clear h
  go_enter Try.func8, Try.ntmps8
  go_wp2_with fail
  refine (bigNo a len cap hbig w).mono ?_
  rintro e w' ⟨rfl, rfl⟩
  go_wp2_with fail
  refine (drawUndoTarget w w.heap.size a len cap (Nat.le_refl _) hsrc.out).mono ?_
  rintro e w0 ⟨⟨ava, avc, aoa, ano, aoc⟩, dv, rfl, hx, hb0⟩
  obtain ⟨xs, l, e1, a1, a2, a3, a4, a5, a6⟩ := hx
  have e1 : ano = l.length := e1
  subst e1
  have HVA0 := Lib.hid a1.ints
  have HOA0 := Lib.hid a2.ops
  have HB0 := Lib.hid hb0
  have HCv := Lib.hid a3
  have HCa := Lib.hid a4
  have HIa : Hid (∀ i, i < l.length → (atOp l i).item.size ≤ 1048576) := fun i hi => Nat.le_trans (a5 i hi) (by omega)
  have hs0 := hb0.size
  clear a1 a2 a3 a4 a5 hb0
  dsimp only
  go_upto_region 4 with fail
  have hb : Below w0.heap.size w0 (w0.alloc (.cells #[.slice ava 4 avc, .slice aoa l.length aoc] 27)) := (Below.refl _ _).alloc (Nat.le_refl _) _
  have HXa1 := Lib.hid (boxAt (Below.refl _ (w0.alloc (.cells #[.slice ava 4 avc, .slice aoa l.length aoc] 27))))
  generalize w0.alloc (.cells #[.slice ava 4 avc, .slice aoa l.length aoc] 27) = w1 at hb HXa1 ⊢
  have hs1 := hb.size
  have HVA1 := Lib.hid (HVA0.out.below hb (by omega))
  have HOA1 := Lib.hid (HOA0.out.below hb (by omega))
  have HB1 := Lib.hid (HB0.out.trans (hb.mono (by omega)))
  clear hb HVA0 HOA0 HB0
  obtain ⟨N, hN⟩ : ∃ n, undoN xs l dv = n := ⟨_, rfl⟩
  have HN := Lib.hid hN
  clear hN
  obtain ⟨bN, hbN⟩ : ∃ b, decide (0 < N) = b := ⟨_, rfl⟩
  have HBN := Lib.hid hbN
  clear hbN
  obtain ⟨c00, c01⟩ := pair_cells HXa1.out
  go_wp2_with fail
  have hc := implUndo w1 w1.heap.size ava aoa 4 avc l.length aoc xs l dv (HVA1.out.more (by omega)) (HOA1.out.more (by omega)) (Nat.le_refl _) (by omega) HCa.out.1 ⟨by omega, HCa.out.2.1⟩
  unfold TgtPost at hc
  rw [HN.out, HBN.out] at hc
  refine hc.mono ?_
  clear hc
  rintro e w2 ⟨rfl, hb⟩
  clear c00 c01
  have hs2 := hb.size
  have HVA2 := Lib.hid (HVA1.out.below hb (by omega))
  have HOA2 := Lib.hid (HOA1.out.below hb (by omega))
  have HB2 := Lib.hid (HB1.out.trans (hb.mono (by omega)))
  have HXa2 := Lib.hid ((hb.block _ (lt_of_row HXa1.out)).trans HXa1.out)
  clear hb HVA1 HOA1 HB1 HXa1
  obtain ⟨c00, c01⟩ := pair_cells HXa2.out
  go_wp2_with fail
  have hc := specUndo w2 w2.heap.size ava aoa 4 avc l.length aoc xs l dv (HVA2.out.more (by omega)) (HOA2.out.more (by omega)) (Nat.le_refl _) (by omega) (by omega) HIa.out
  unfold TgtPost at hc
  rw [HN.out, HBN.out] at hc
  refine hc.mono ?_
  clear hc
  rintro e w3 ⟨rfl, hb⟩
  clear c00 c01
  have hs3 := hb.size
  have HVA3 := Lib.hid (HVA2.out.below hb (by omega))
  have HOA3 := Lib.hid (HOA2.out.below hb (by omega))
  have HB3 := Lib.hid (HB2.out.trans (hb.mono (by omega)))
  have HXa3 := Lib.hid ((hb.block _ (lt_of_row HXa2.out)).trans HXa2.out)
  clear hb HVA2 HOA2 HB2 HXa2
  go_wp2_with fail
  refine (drawRedoTarget w3 w.heap.size a len cap (by have := HB3.out.size; omega) (src_below hsrc.out HB3.out)).mono ?_
  rintro e w4 ⟨⟨bva, bvc, boa, bno, boc⟩, d2, rfl, hx, hb⟩
  obtain ⟨ys, m, e2, b1, b2, b3, b4, b5, b6⟩ := hx
  have e2 : bno = m.length := e2
  subst e2
  dsimp only
  have hs4 := hb.size
  have HVA4 := Lib.hid (HVA3.out.below hb (by omega))
  have HOA4 := Lib.hid (HOA3.out.below hb (by omega))
  have HB4 := Lib.hid (HB3.out.trans (hb.mono (by omega)))
  have HXa4 := Lib.hid ((hb.block _ (lt_of_row HXa3.out)).trans HXa3.out)
  clear hb HVA3 HOA3 HB3 HXa3
  have HVB4 := Lib.hid b1.ints
  have HOB4 := Lib.hid b2.ops
  have HCb := Lib.hid b4
  have HIb : Hid (∀ i, i < m.length → (atOp m i).item.size ≤ 1048576) := fun i hi => Nat.le_trans (b5 i hi) (by omega)
  clear b1 b2 b3 b4 b5
  go_upto_region 7 with fail
  have hb : Below w4.heap.size w4 (w4.alloc (.cells #[.slice bva 4 bvc, .slice boa m.length boc] 27)) := (Below.refl _ _).alloc (Nat.le_refl _) _
  have HXb5 := Lib.hid (boxAt (Below.refl _ (w4.alloc (.cells #[.slice bva 4 bvc, .slice boa m.length boc] 27))))
  generalize w4.alloc (.cells #[.slice bva 4 bvc, .slice boa m.length boc] 27) = w5 at hb HXb5 ⊢
  have hs5 := hb.size
  have HVA5 := Lib.hid (HVA4.out.below hb (by omega))
  have HOA5 := Lib.hid (HOA4.out.below hb (by omega))
  have HB5 := Lib.hid (HB4.out.trans (hb.mono (by omega)))
  have HXa5 := Lib.hid ((hb.block _ (lt_of_row HXa4.out)).trans HXa4.out)
  have HVB5 := Lib.hid (HVB4.out.below hb (by omega))
  have HOB5 := Lib.hid (HOB4.out.below hb (by omega))
  clear hb HVA4 HOA4 HB4 HXa4 HVB4 HOB4
  obtain ⟨M, hM⟩ : ∃ n, redoN ys m d2 = n := ⟨_, rfl⟩
  have HM := Lib.hid hM
  clear hM
  obtain ⟨bM, hbM⟩ : ∃ b, decide (0 < M) = b := ⟨_, rfl⟩
  have HBM := Lib.hid hbM
  clear hbM
  obtain ⟨c00, c01⟩ := pair_cells HXb5.out
  go_wp2_with fail
  have hc := implRedo w5 w5.heap.size bva boa 4 bvc m.length boc ys m d2 (HVB5.out.more (by omega)) (HOB5.out.more (by omega)) (Nat.le_refl _) (by omega) HCb.out.1 ⟨by omega, HCb.out.2.1⟩
  unfold TgtPost at hc
  rw [HM.out, HBM.out] at hc
  refine hc.mono ?_
  clear hc
  rintro e w6 ⟨rfl, hb⟩
  clear c00 c01
  have hs6 := hb.size
  have HVA6 := Lib.hid (HVA5.out.below hb (by omega))
  have HOA6 := Lib.hid (HOA5.out.below hb (by omega))
  have HB6 := Lib.hid (HB5.out.trans (hb.mono (by omega)))
  have HXa6 := Lib.hid ((hb.block _ (lt_of_row HXa5.out)).trans HXa5.out)
  have HVB6 := Lib.hid (HVB5.out.below hb (by omega))
  have HOB6 := Lib.hid (HOB5.out.below hb (by omega))
  have HXb6 := Lib.hid ((hb.block _ (lt_of_row HXb5.out)).trans HXb5.out)
  clear hb HVA5 HOA5 HB5 HXa5 HVB5 HOB5 HXb5
  obtain ⟨c00, c01⟩ := pair_cells HXb6.out
  go_wp2_with fail
  have hc := specRedo w6 w6.heap.size bva boa 4 bvc m.length boc ys m d2 (HVB6.out.more (by omega)) (HOB6.out.more (by omega)) (Nat.le_refl _) (by omega) (by omega) HIb.out
  unfold TgtPost at hc
  rw [HM.out, HBM.out] at hc
  refine hc.mono ?_
  clear hc
  rintro e w7 ⟨rfl, hb⟩
  clear c00 c01
  have hs7 := hb.size
  have HVA7 := Lib.hid (HVA6.out.below hb (by omega))
  have HOA7 := Lib.hid (HOA6.out.below hb (by omega))
  have HB7 := Lib.hid (HB6.out.trans (hb.mono (by omega)))
  have HXa7 := Lib.hid ((hb.block _ (lt_of_row HXa6.out)).trans HXa6.out)
  have HVB7 := Lib.hid (HVB6.out.below hb (by omega))
  have HOB7 := Lib.hid (HOB6.out.below hb (by omega))
  have HXb7 := Lib.hid ((hb.block _ (lt_of_row HXb6.out)).trans HXb6.out)
  clear hb HVA6 HOA6 HB6 HXa6 HVB6 HOB6 HXb6
  clear HVB7 HOB7 HXb7
  have hn1 : (N != N) = false := bne_self_eq_false _
  have hn2 : (bN != bN) = false := bne_self_eq_false _
  have hn3 : (M != M) = false := bne_self_eq_false _
  have hn4 : (bM != bM) = false := bne_self_eq_false _
  obtain ⟨ca, hca⟩ : ∃ b, cartB xs l = b := ⟨_, rfl⟩
  have Hca := Lib.hid hca
  clear hca
  obtain ⟨c00, c01⟩ := pair_cells HXa7.out
  go_wp2_with fail
  have hc := specCartOk w7 w7.heap.size ava aoa 4 avc l.length aoc xs l (HVA7.out.more (by omega)) (HOA7.out.more (by omega)) (Nat.le_refl _) (by omega) (by omega) HIa.out
  rw [Hca.out] at hc
  refine hc.mono ?_
  clear hc
  rintro e w8 ⟨rfl, hb⟩
  clear c00 c01
  have hs8 := hb.size
  have HVA8 := Lib.hid (HVA7.out.below hb (by omega))
  have HOA8 := Lib.hid (HOA7.out.below hb (by omega))
  have HB8 := Lib.hid (HB7.out.trans (hb.mono (by omega)))
  have HXa8 := Lib.hid ((hb.block _ (lt_of_row HXa7.out)).trans HXa7.out)
  clear hb HVA7 HOA7 HB7 HXa7
  cases ca
  · go_wp2
    go_ret
    exact ⟨rfl, HB8.out⟩
  by_cases g1 : dv < 0
  · have gd : decide (dv < 0) = true := decide_eq_true g1
    go_wp2
    go_ret
    exact ⟨rfl, HB8.out⟩
  have g1p : 0 ≤ dv := by omega
  have g1d : decide (dv < 0) = false := decide_eq_false g1
  by_cases g2 : 4 ≤ dv
  · have gd : decide (4 ≤ dv) = true := decide_eq_true g2
    go_wp2
    go_ret
    exact ⟨rfl, HB8.out⟩
  have g2p : dv < 4 := by omega
  have g2d : decide (4 ≤ dv) = false := decide_eq_false g2
  go_upto_region 11 with fail
  obtain ⟨d, rfl⟩ : ∃ d : Nat, dv = (d : Int) := ⟨dv.toNat, by omega⟩
  have hd4 : d < 4 := by omega
  have hns := named_undo Hca.out hd4
  have hrs := redo_spec Hca.out hd4
  clear g1 g1p g1d g2 g2p g2d hn1 hn2 hn3 hn4 HM HBM
  obtain ⟨nl, hnl⟩ : ∃ t, namedL xs l (d : Int) = t := ⟨_, rfl⟩
  have HNL := Lib.hid hnl
  rw [HN.out, hnl] at hns hrs
  have hll : nl.length ≤ 400 := by rw [← hnl]; exact Nat.le_trans (named_len xs l _) a6
  clear hnl
  have HPt := Lib.hid hns.2
  obtain ⟨R, hR⟩ : ∃ n, redoN xs l (d : Int) = n := ⟨_, rfl⟩
  rw [hR] at hrs
  have HR := Lib.hid hR
  clear hR hns
  obtain ⟨hr1, hr2, hr3, hr4⟩ := hrs
  obtain ⟨bR, hbR⟩ : ∃ b, decide (0 < R) = b := ⟨_, rfl⟩
  rw [hbR] at hr1 hr2
  have HBR := Lib.hid hbR
  have HR1 := Lib.hid hr1
  have HR2 := Lib.hid hr2
  clear hbR hr1 hr2
  obtain ⟨c00, c01⟩ := pair_cells HXa8.out
  go_wp2_with fail
  have hc := implNamed w8 w8.heap.size ava aoa 4 avc l.length aoc xs l (d : Int) (HVA8.out.more (by omega)) (HOA8.out.more (by omega)) (Nat.le_refl _) (by omega) HCv.out.1 HCa.out.1 ⟨by omega, HCa.out.2.1⟩ HCa.out.2.2 HIa.out
  rw [HNL.out] at hc
  refine hc.mono ?_
  clear hc
  rintro e w9 ⟨pa, pc, rfl, hop, hb⟩
  clear c00 c01
  have hs9 := hb.size
  have HVA9 := Lib.hid (HVA8.out.below hb (by omega))
  have HOA9 := Lib.hid (HOA8.out.below hb (by omega))
  have HB9 := Lib.hid (HB8.out.trans (hb.mono (by omega)))
  have HXa9 := Lib.hid ((hb.block _ (lt_of_row HXa8.out)).trans HXa8.out)
  clear hb HVA8 HOA8 HB8 HXa8
  have HP9 := Lib.hid hop.ops
  clear hop
  go_wp2
  go_loopw [16] (fun i wr => ∃ q : Nat, q ≤ nl.length ∧ i = .int .i64 (q : Int) ∧ Hid (Below w9.heap.size w9 wr)) (fun i _ => nl.length - (intOf i).toNat)
  case atStart => exact ⟨0, Nat.zero_le _, rfl, Below.refl _ _⟩
  case round =>
    obtain ⟨q, hq, rfl, HBr⟩ := hrel
    have hsr := HBr.out.size
    by_cases hlt : q < nl.length
    rotate_left
    · have hb : Below w9.heap.size w9 wr := HBr.out
      clear HBr hsr
      obtain rfl : q = nl.length := by omega
      clear hlt hq
      obtain ⟨w10, hwr⟩ : ∃ z, z = wr := ⟨_, rfl⟩
      subst hwr
      have HP10 := Lib.hid (HP9.out.below hb (by omega))
      have hs10 := hb.size
      have HVA10 := Lib.hid (HVA9.out.below hb (by omega))
      have HOA10 := Lib.hid (HOA9.out.below hb (by omega))
      have HB10 := Lib.hid (HB9.out.trans (hb.mono (by omega)))
      have HXa10 := Lib.hid ((hb.block _ (lt_of_row HXa9.out)).trans HXa9.out)
      clear hb HVA9 HOA9 HB9 HXa9
      clear HP9
      have hqi : ¬ ((nl.length : Int) < (nl.length : Int)) := by omega
      obtain ⟨c00, c01⟩ := pair_cells HXa10.out
      go_wp2_with fail
      have hc := implRedo w10 w10.heap.size ava aoa 4 avc l.length aoc xs l (d : Int) (HVA10.out.more (by omega)) (HOA10.out.more (by omega)) (Nat.le_refl _) (by omega) HCa.out.1 ⟨by omega, HCa.out.2.1⟩
      unfold TgtPost at hc
      rw [HR.out, HBR.out] at hc
      refine hc.mono ?_
      clear hc
      rintro e w11 ⟨rfl, hb⟩
      clear c00 c01
      have HP11 := Lib.hid (HP10.out.below hb (by omega))
      have hs11 := hb.size
      have HVA11 := Lib.hid (HVA10.out.below hb (by omega))
      have HOA11 := Lib.hid (HOA10.out.below hb (by omega))
      have HB11 := Lib.hid (HB10.out.trans (hb.mono (by omega)))
      have HXa11 := Lib.hid ((hb.block _ (lt_of_row HXa10.out)).trans HXa10.out)
      clear hb HVA10 HOA10 HB10 HXa10
      clear HP10
      clear hqi
      have hz1 : decide (0 < N) = bN := HBN.out
      have hz2 : decide (N < (nl.length : Int)) = bR := HR1.out.symm
      have hz3 : IntKind.i64.wrap (N + 1) = N + 1 := IntWalk.i64_in _ (by omega)
      cases bR
      · go_wp2
        go_ret
        exact ⟨rfl, HB11.out⟩
      obtain rfl : R = N + 1 := HR2.out rfl
      go_wp2
      go_ret
      exact ⟨rfl, HB11.out⟩
    have hqi : (q : Int) < (nl.length : Int) := by omega
    have hq0 : decide ((q : Int) < 0) = false := decide_eq_false (by omega)
    have hq00 : ¬ ((q : Int) < 0) := by omega
    obtain ⟨hok, hp1, hp2⟩ := HPt.out q hlt
    obtain ⟨ab, ao, rfl, hab, hao⟩ := (HP9.out.below HBr.out (by omega)).2 q hlt
    have hao : OpAt wr ab (ao + q * 8) (atOp nl q) := hao
    obtain ⟨x, hx⟩ : ∃ x, atOp nl q = x := ⟨_, rfl⟩
    rw [hx] at hao hok hp1 hp2
    clear hx
    have HLv : Hid (liveB x.dev x.seq x.stamp x.kind x.item x.qty x.level x.undos = decide (x.undos % 2 = 0)) := live_ok hok
    obtain ⟨d0, d1, d2, d3, d4, d5, d6, d7⟩ := hao
    have HP1 := Lib.hid hp1
    have HP2 := Lib.hid hp2
    clear hp1 hp2 hok
    by_cases c1 : N < x.seq
    · have c2 : decide (N < x.seq) = true := decide_eq_true c1
      have c3 : (x.seq == N) = false := by simp; omega
      have c4 : decide (x.seq = N) = false := decide_eq_false (by omega)
      have c5 : ¬ (x.seq = N) := by omega
      go_wp2_with fail
      refine (implLive x.dev x.seq x.stamp x.kind x.item x.qty x.level x.undos wr).mono ?_
      rintro e w10 ⟨rfl, hb⟩
      rw [HLv.out, decide_eq_false (HP1.out c1)]
      have HBe : Hid (Below w9.heap.size w9 w10) := HBr.out.trans (hb.mono hsr)
      have d0 := (hb.cell (p := ⟨ab, ao + q * 8, none⟩) (by show ab < _; omega)).trans d0
      have d1 := (hb.cell (p := ⟨ab, ao + q * 8 + 1, none⟩) (by show ab < _; omega)).trans d1
      clear hb
      go_wp2
      go_roundw
      case rel => exact ⟨q + 1, by omega, by go_num, HBe⟩
      case measure => simp [intOf]; omega
    have c1n : x.seq ≤ N := by omega
    have c2 : decide (N < x.seq) = false := decide_eq_false c1
    by_cases c3 : x.seq = N
    · have HLt : Hid (decide (x.undos % 2 = 0) = true) := decide_eq_true (HP2.out c3)
      have c4 : (x.seq == N) = true := by rw [c3]; exact beq_self_eq_true _
      have c5 : decide (x.seq = N) = true := decide_eq_true c3
      clear c3
      go_wp2_with fail
      refine (implLive x.dev x.seq x.stamp x.kind x.item x.qty x.level x.undos wr).mono ?_
      rintro e w10 ⟨rfl, hb⟩
      rw [HLv.out, HLt.out]
      have HBe : Hid (Below w9.heap.size w9 w10) := HBr.out.trans (hb.mono hsr)
      have d0 := (hb.cell (p := ⟨ab, ao + q * 8, none⟩) (by show ab < _; omega)).trans d0
      have d1 := (hb.cell (p := ⟨ab, ao + q * 8 + 1, none⟩) (by show ab < _; omega)).trans d1
      clear hb
      go_wp2
      go_roundw
      case rel => exact ⟨q + 1, by omega, by go_num, HBe⟩
      case measure => simp [intOf]; omega
    have c4 : (x.seq == N) = false := by simp; omega
    have c5 : decide (x.seq = N) = false := decide_eq_false c3
    clear d0 d2 d3 d4 d5 d6 d7
    go_wp2
    go_roundw
    case rel => exact ⟨q + 1, by omega, by go_num, HBr⟩
    case measure => simp [intOf]; omega
end Go.Proofs.Ytmceofdknphgkaa
