/- The walk of spec.CartOk. -/
import Derived.Test.YtdbdmfaphdjdpaaCartOkW
import Derived.Deep.Cut
namespace Go.Proofs.Ytdbdmfaphdjdpaa
open Go.RowKit

set_option maxRecDepth 100000 in
set_option maxHeartbeats 4000000 in
theorem specCartOk (w : World) (B : Nat) (av ao : Option Addr) (nv cv no co : Nat) (xs : List Int) (l : List OpV) (hx : Ints w B av nv xs) (h : Ops w B ao no l) (hB : B ≤ w.heap.size) (hv : nv ≤ 1048576) (hn : no ≤ 1048576) (hm : ∀ i, i < no → (atOp l i).item.size ≤ 1048576) :
    Calls Try.prog 45 #[.agg #[.slice av nv cv, .slice ao no co]] w fun e w' => e = .returned (.bool (cartB xs l)) ∧ Below w.heap.size w w' := by
  have hb0 : Below w.heap.size w (w.alloc (.cells #[.slice av nv cv, .slice ao no co] 29)) := (Below.refl _ w).alloc (Nat.le_refl _) _
  have HV := Lib.hid (hx.below hb0 hB)
  have HO := Lib.hid (h.below hb0 hB)
  have HB := Lib.hid hb0
  have HX := Lib.hid (boxAt (Below.refl _ (w.alloc (.cells #[.slice av nv cv, .slice ao no co] 29))))
  have HL := Lib.hid h.1
  have HM := Lib.hid hm
  have hsz : w.heap.size < (w.alloc (.cells #[.slice av nv cv, .slice ao no co] 29)).heap.size := by show _ < (w.heap.push _).size; simp
  clear hx h hb0 hm
  rcases hvk : vecOk xs with _ | _
  · have HF := Lib.hid (cart_vec (l := l) hvk)
    have HK := Lib.hid hvk
    clear hvk
    go_enter Try.func45, Try.ntmps45
    go_wp2_with fail
    refine (specVecOk _ B av nv cv xs HV.out hv).mono ?_
    rintro e w1 ⟨rfl, rfl⟩
    rw [HK.out]
    go_wp2
    go_ret
    exact ⟨by rw [HF.out]; rfl, HB.out⟩
  have HK := Lib.hid hvk
  have h4 : nv = 4 := HV.out.1.symm.trans (vec_at hvk (d := 0) (by omega)).2.2
  subst h4
  have HAt := Lib.hid (fun d (hd : d < 4) => vec_at hvk hd)
  have HCE := Lib.hid (cart_end (l := l) hvk)
  have HCD : Hid (∀ d, d < 4 → devB xs l d = false → cartB xs l = false) := fun d hd h => cart_dev hd h
  clear hvk
  go_enter Try.func45, Try.ntmps45
  go_wp2_with fail
  generalize w.alloc (.cells #[.slice av 4 cv, .slice ao no co] 29) = w0 at HV HO HB HX hsz ⊢
  refine (specVecOk _ B av 4 cv xs HV.out hv).mono ?_
  rintro e w1 ⟨rfl, rfl⟩
  rw [HK.out]
  go_wp2
  go_loopw [3, 4] (fun t i wr => ∃ (d at' : Nat), d ≤ 4 ∧ i = .int .i64 d ∧ t = .int .i64 at' ∧ at' ≤ no ∧ Hid (at' = stOf xs d ∧ ∀ d', d' < d → devB xs l d' = true) ∧ Hid (Below w0.heap.size w0 wr)) (fun _ i _ => 4 - (intOf i).toNat)
  case atStart => exact ⟨0, 0, by omega, rfl, rfl, Nat.zero_le _, ⟨rfl, fun d' hd' => by omega⟩, Below.refl _ _⟩
  case round =>
    obtain ⟨d, st, hd, rfl, rfl, hst, HR, HBr⟩ := hrel
    obtain ⟨c0, c1⟩ := pair_cells ((HBr.out.block _ (by omega)).trans HX.out)
    by_cases hlt : d < 4
    rotate_left
    · obtain rfl : d = 4 := by omega
      have HF := Lib.hid (HCE.out HR.out.2)
      by_cases hz : st = no
      · have hzb : ((st : Int) == (no : Int)) = true := by rw [hz]; exact beq_self_eq_true _
        have HT : Hid (decide (stOf xs 4 = l.length) = true) := decide_eq_true (by rw [← HR.out.1, HL.out]; exact hz)
        clear hz
        go_wp2
        go_ret
        exact ⟨by rw [HF.out, HT.out]; first | rfl | (simp [*]), HB.out.trans (HBr.out.mono HB.out.size)⟩
      · have hzb : ((st : Int) == (no : Int)) = false := by rw [beq_eq_false_iff_ne]; omega
        have HT : Hid (decide (stOf xs 4 = l.length) = false) := decide_eq_false (by rw [← HR.out.1, HL.out]; exact hz)
        clear hz
        go_wp2
        go_ret
        exact ⟨by rw [HF.out, HT.out]; first | rfl | (simp [*]), HB.out.trans (HBr.out.mono HB.out.size)⟩
    obtain ⟨bv, ov, rfl, hbv, hcv⟩ := HV.out.2 d hlt
    obtain ⟨g1, g2, g3⟩ := HAt.out d hlt
    obtain ⟨c, hcx⟩ := Int.eq_ofNat_of_zero_le g1
    have HSt : Hid (stOf xs (d + 1) = st + c) := by show stOf xs (d + 1) = _; rw [stOf, hcx, ← HR.out.1]; rfl
    have HDv : Hid (devB xs l d = (decide (stOf xs (d + 1) ≤ l.length) && runB l d st c)) := by show devB xs l d = _; unfold devB; rw [hcx, ← HR.out.1]; rfl
    rw [hcx] at hcv g2
    clear hcx g1 g3 c0 c1
    have hc40 : c ≤ 40 := by omega
    clear g2
    have HCV := Lib.hid hcv
    have hd4 : decide ((d : Int) < 4) = true := decide_eq_true (by omega)
    clear hcv
    go_wp2
    go_loopw [3, 5, 6] (fun t s q wi => ∃ (i m : Nat), i ≤ c ∧ q = .int .i64 ((i : Int) + 1) ∧ t = .int .i64 (m : Int) ∧ s = .int .i64 (prevStamp l st i) ∧ m ≤ no ∧ Hid (m = st + i) ∧ Hid (runB l d st i = true) ∧ Hid (Below w0.heap.size w0 wi)) (fun _ _ q _ => c + 1 - (intOf q).toNat)
    case atStart => exact ⟨0, st, Nat.zero_le _, rfl, rfl, rfl, hst, rfl, rfl, HBr⟩
    case round =>
      obtain ⟨i, m, hi, rfl, rfl, rfl, hin, HMi, HRun, HBi⟩ := hrel
      obtain ⟨c0, c1⟩ := pair_cells ((HBi.out.block _ (by omega)).trans HX.out)
      have cv := (HBi.out.cell (p := ⟨bv, ov + d, none⟩) (by show bv < w0.heap.size; omega)).trans HCV.out
      by_cases hic : i < c
      rotate_left
      · obtain rfl : i = c := by omega
        have hle : ¬ ((i : Int) + 1 ≤ (i : Int)) := by omega
        have HDt : Hid (∀ d', d' < d + 1 → devB xs l d' = true) := fun d' hd' => by
          rcases Nat.lt_or_ge d' d with h1 | h1
          · exact HR.out.2 d' h1
          · obtain rfl : d' = d := by omega
            rw [HDv.out, HRun.out, decide_eq_true (by rw [HSt.out, HL.out]; have := HMi.out; omega)]
            rfl
        go_wp2
        exact ⟨⟨d + 1, m, by omega, by go_num, rfl, hin, ⟨(by rw [HSt.out]; exact HMi.out), HDt.out⟩, HBi⟩, by simp [intOf]; omega⟩
      have hle : ((i : Int) + 1 ≤ (c : Int)) := by omega
      by_cases hmn : m = no
      · have hb1 : ((m : Int) == (no : Int)) = true := by rw [hmn]; exact beq_self_eq_true _
        have HF := Lib.hid (HCD.out d hlt (by rw [HDv.out, decide_eq_false (by rw [HSt.out, HL.out]; have := HMi.out; omega)]; rfl))
        clear hmn
        go_wp2
        go_ret
        exact ⟨by rw [HF.out]; rfl, HB.out.trans (HBi.out.mono HB.out.size)⟩
      have hb1 : ((m : Int) == (no : Int)) = false := by rw [beq_eq_false_iff_ne]; omega
      have hmlt : m < no := by omega
      have hmi : (m : Int) < (no : Int) := by omega
      have hm0 : (0 : Int) ≤ (m : Int) := by omega
      clear hmn
      obtain ⟨b, off, rfl, hb, ho⟩ := HO.out.2 m hmlt
      have HO1 := Lib.hid ho
      have HIt := Lib.hid (HM.out m hmlt)
      have HA : Hid (l.getD m OpV.zero = atOp l (st + i)) := by show _ = _; rw [HMi.out]; rfl
      have HA2 : Hid (atOp l m = atOp l (st + i)) := by show _ = _; rw [HMi.out]
      rw [HA.out] at HO1
      rw [HA2.out] at HIt
      clear ho HA HA2
      have HPs := Lib.hid (prev_step l st i)
      have HY := Lib.hid (@fit_yes l d st i)
      have HZ : Hid (∀ b, fitB l d st i = b → b = false → cartB xs l = false) := fun b hb hb' => HCD.out d hlt (by rw [HDv.out, run_stop hic (hb.trans hb'), Bool.and_false])
      have H1 := Lib.hid (fun h => HZ.out _ (@fit_ok l d st i h) rfl)
      have H2 := Lib.hid (fun h => HZ.out _ (@fit_dev l d st i h) rfl)
      have H3 := Lib.hid (fun h => HZ.out _ (@fit_seq l d st i h) rfl)
      have H4 := Lib.hid (fun h => HZ.out _ (@fit_stamp l d st i h) rfl)
      have HN := Lib.hid (fun h => run_step (dev := d) HRun.out h)
      clear HZ
      generalize atOp l (st + i) = x at HPs HY H1 H2 H3 H4 HO1 HIt
      generalize prevStamp l st i = ps at HY H4 ⊢
      obtain ⟨d0, d1, d2, d3, d4, d5, d6, d7⟩ := HO1.out.kept (HBi.out.block b (by omega))
      go_wp2_with fail
      refine (specOpOk x.dev x.seq x.stamp x.kind x.item x.qty x.level x.undos _ HIt.out).mono ?_
      rintro e w2 ⟨rfl, hb2⟩
      have HB2 := Lib.hid (HBi.out.trans (hb2.mono HBi.out.size))
      clear hb2 c0 c1 cv d0 d1 d2 d3 d4 d5 d6 d7
      obtain ⟨c0, c1⟩ := pair_cells ((HB2.out.block _ (by omega)).trans HX.out)
      obtain ⟨d0, d1, d2, d3, d4, d5, d6, d7⟩ := HO1.out.kept (HB2.out.block b (by omega))
      rcases hok : opB x.dev x.seq x.stamp x.kind x.item x.qty x.level x.undos with _ | _
      · have HF := Lib.hid (H1.out hok)
        clear hok
        go_wp2
        go_ret
        exact ⟨by rw [HF.out]; rfl, HB.out.trans (HB2.out.mono HB.out.size)⟩
      by_cases e1 : x.dev = (d : Int)
      rotate_left
      · have HF := Lib.hid (H2.out e1)
        have b1 : (x.dev != (d : Int)) = true := by rw [bne_iff_ne]; exact e1
        clear hok e1
        go_wp2
        go_ret
        exact ⟨by rw [HF.out]; rfl, HB.out.trans (HB2.out.mono HB.out.size)⟩
      have b1 : (x.dev != (d : Int)) = false := by rw [e1]; exact bne_self_eq_false _
      by_cases e2 : x.seq = (i : Int) + 1
      rotate_left
      · have HF := Lib.hid (H3.out e2)
        have b2 : (x.seq != (i : Int) + 1) = true := by rw [bne_iff_ne]; exact e2
        clear hok e1 e2
        go_wp2
        go_ret
        exact ⟨by rw [HF.out]; rfl, HB.out.trans (HB2.out.mono HB.out.size)⟩
      have b2 : (x.seq != (i : Int) + 1) = false := by rw [e2]; exact bne_self_eq_false _
      by_cases e3 : ps < x.stamp
      rotate_left
      · have HF := Lib.hid (H4.out (by first | exact e3 | exact Int.not_lt.1 e3))
        have b3 : decide (x.stamp ≤ ps) = true := decide_eq_true (by omega)
        clear hok e1 e2 e3
        go_wp2
        go_ret
        exact ⟨by rw [HF.out]; rfl, HB.out.trans (HB2.out.mono HB.out.size)⟩
      have b3 : decide (x.stamp ≤ ps) = false := decide_eq_false (by omega)
      have HF := Lib.hid (HN.out (HY.out hok e1 e2 e3))
      clear hok e1 e2 e3
      go_wp2
      go_roundw
      case rel => exact ⟨i + 1, m + 1, by omega, by go_num, by go_num, by rw [HPs.out], by omega, (by have := HMi.out; show m + 1 = st + (i + 1); omega), HF, HB2⟩
      case measure => simp [intOf]; omega
end Go.Proofs.Ytdbdmfaphdjdpaa
