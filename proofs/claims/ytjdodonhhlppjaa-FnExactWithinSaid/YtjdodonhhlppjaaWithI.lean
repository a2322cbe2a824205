/- The walk of impl.Within. -/
import Derived.Test.YtjdodonhhlppjaaWithM
import Derived.Deep.Cut
namespace Go.Proofs.Ytjdodonhhlppjaa
open Go.RowKit

set_option linter.unusedSimpArgs false in
set_option maxRecDepth 100000 in
set_option maxHeartbeats 8000000 in
theorem implWithinC (w : World) (B : Nat) (av ao bv bo : Option Addr) (nv cv no co mv dv mo eo : Nat) (xs : List Int) (l : List OpV) (ys : List Int) (m : List OpV) (hx : Ints w B av nv xs) (h : Ops w B ao no l) (hy : Ints w B bv mv ys) (g : Ops w B bo mo m) (hB : B ≤ w.heap.size) (hv : nv ≤ 1048576) (hc : no ≤ co) (hc2 : co ≤ 1048576) (hv2 : mv ≤ 1048576) (he : mo ≤ eo) (he2 : eo ≤ 1048576) :
    Calls Try.prog 27 #[.agg #[.slice av nv cv, .slice ao no co], .agg #[.slice bv mv dv, .slice bo mo eo]] w (BoolPost (inCart xs l ys m) w) := by
  have hT := Two.mk0 w #[.slice av nv cv, .slice ao no co] #[.slice bv mv dv, .slice bo mo eo] 30
  have HV := Lib.hid (hx.below hT.bel hB)
  have HO := Lib.hid (h.below hT.bel hB)
  have HY := Lib.hid (hy.below hT.bel hB)
  have HG := Lib.hid (g.below hT.bel hB)
  have HT := Lib.hid hT
  have HL := Lib.hid h.1
  have HLm := Lib.hid g.1
  have hBw := hB
  clear hx h hy g hT hB
  go_enter Try.func27, Try.ntmps27
  go_wp2_with fail
  generalize (w.alloc (.cells #[.slice av nv cv, .slice ao no co] 30)).alloc (.cells #[.slice bv mv dv, .slice bo mo eo] 30) = w0 at HV HO HY HG HT ⊢
  have hsz0 := HT.out.bel.size
  have hsz1 := lt_of_row HT.out.snd
  refine (implCartOk w0 B av ao nv cv no co xs l HV.out HO.out (by omega) hv hc hc2).mono ?_
  rintro e w1 ⟨rfl, hb1⟩
  have HV1 := Lib.hid (HV.out.below hb1 (by omega))
  have HO1 := Lib.hid (HO.out.below hb1 (by omega))
  have HY1 := Lib.hid (HY.out.below hb1 (by omega))
  have HG1 := Lib.hid (HG.out.below hb1 (by omega))
  have HT1 := Lib.hid (HT.out.next hb1)
  have hs1 := hb1.size
  clear hb1 HV HO HY HG HT
  rcases hca : cartB xs l with _ | _
  · have HF := Lib.hid (inCart_1 (ys := ys) (m := m) hca)
    clear hca
    go_wp2
    go_ret
    exact ⟨by rw [HF.out]; rfl, HT1.out.bel⟩
  obtain ⟨b0, b1⟩ := pair_cells HT1.out.snd
  go_wp2_with fail
  refine (implCartOk w1 B bv bo mv dv mo eo ys m HY1.out HG1.out (by omega) hv2 he he2).mono ?_
  rintro e w2 ⟨rfl, hb2⟩
  have HV2 := Lib.hid (HV1.out.below hb2 (by omega))
  have HO2 := Lib.hid (HO1.out.below hb2 (by omega))
  have HY2 := Lib.hid (HY1.out.below hb2 (by omega))
  have HG2 := Lib.hid (HG1.out.below hb2 (by omega))
  have HT2 := Lib.hid (HT1.out.next hb2)
  have hs2 := hb2.size
  clear hb2 HV1 HO1 HY1 HG1 HT1 b0 b1
  rcases hcb : cartB ys m with _ | _
  · have HF := Lib.hid (inCart_2 (xs := xs) (l := l) hcb)
    clear hca hcb
    go_wp2
    go_ret
    exact ⟨by rw [HF.out]; rfl, HT2.out.bel⟩
  have HF := Lib.hid (inCart_3 hca hcb)
  have HFit := Lib.hid (fun i (hi : i < l.length) => cart_fit hca hi)
  have hfm : ∀ i, i < mo → Fit2 (atOp m i).dev (atOp m i).seq := fun i hi => cart_fit hcb (by rw [HLm.out]; exact hi)
  clear hca hcb
  obtain ⟨b0, b1⟩ := pair_cells HT2.out.snd
  go_wp2_with fail
  refine (opSetOf w2 B bo mo eo m HG2.out (by omega) (by omega) hfm).mono ?_
  rintro e w3 ⟨sb, rfl, hsb, hset, hb3⟩
  have HO3 := Lib.hid (HO2.out.below hb3 (by omega))
  have HT3 := Lib.hid (HT2.out.next hb3)
  have hsl := hset.lt
  have HS3 : Hid (SetIs w3 sb mo (setF m m.length)) := by have := hset; rw [← HLm.out] at this; rw [← HLm.out]; exact this
  have hs3 := hb3.size
  clear hb3 HO2 HG2 HT2 HV2 HY2 b0 b1 hset hfm
  obtain ⟨a0, a1⟩ := pair_cells HT3.out.fst
  go_wp2
  go_loopw [26] (fun i wr => ∃ k : Nat, k ≤ no ∧ i = .int .i64 (k : Int) ∧ Hid (∀ j, j < k → okW m (atOp l j) = true) ∧ Hid (Below w3.heap.size w3 wr)) (fun i _ => no - (intOf i).toNat)
  case atStart => exact ⟨0, by omega, rfl, Lib.hid (fun j hj => absurd hj (by omega)), Lib.hid (Below.refl _ _)⟩
  case round =>
    obtain ⟨k, hk, rfl, HK, HBr⟩ := hrel
    clear a0 a1
    have hsr := HBr.out.size
    by_cases hlt : k < no
    rotate_left
    · obtain rfl : k = no := by omega
      have HE := Lib.hid (allW_end (m := m) (l := l) (fun i hi => HK.out i (by rw [← HL.out]; exact hi)))
      go_wp2
      go_ret
      exact ⟨by rw [HF.out, HE.out]; rfl, HT3.out.bel.trans (HBr.out.mono (by omega))⟩
    have hkl : k < l.length := by rw [HL.out]; exact hlt
    have HStop := Lib.hid (fun h => allW_stop (m := m) hkl h)
    have HFk := Lib.hid (HFit.out k hkl)
    have HKs : Hid (okW m (atOp l k) = true → ∀ j, j < k + 1 → okW m (atOp l j) = true) := fun h j hj => by
      rcases Nat.lt_or_ge j k with h1 | h1
      · exact HK.out j h1
      · obtain rfl : j = k := by omega
        exact h
    have HOr := Lib.hid (HO3.out.below HBr.out (by omega))
    obtain ⟨b, off, rfl, hb, ho⟩ := HOr.out.2 k hlt
    have HOk : Hid (OpAt wr b (off + k * 8) (atOp l k)) := ho
    have HN : Hid (setF m m.length (atOp l k).dev (atOp l k).seq = none → okW m (atOp l k) = false) := fun h => okW_none h
    have HY : Hid (∀ y, setF m m.length (atOp l k).dev (atOp l k).seq = some y → okW m (atOp l k) = (sameB (atOp l k) y && decide ((atOp l k).undos ≤ y.undos))) := fun y h => okW_some h
    have HSr := Lib.hid (HS3.out.below HBr.out)
    clear ho HK HOr
    generalize atOp l k = x at HOk HFk HKs HStop HN HY
    obtain ⟨d0, d1, d2, d3, d4, d5, d6, d7⟩ := HOk.out
    go_upto_region 7 with fail
    have hb4 : Below wr.heap.size wr (wr.alloc (.cells #[.int .i64 x.dev, .int .i64 x.seq, .int .i64 x.stamp, .int .i64 x.kind, .string x.item, .int .i64 x.qty, .int .i64 x.level, .int .i64 x.undos] 69)) := (Below.refl _ _).alloc (Nat.le_refl _) _
    have HX4 := Lib.hid (boxAt (Below.refl _ (wr.alloc (.cells #[.int .i64 x.dev, .int .i64 x.seq, .int .i64 x.stamp, .int .i64 x.kind, .string x.item, .int .i64 x.qty, .int .i64 x.level, .int .i64 x.undos] 69))))
    have HS4 := Lib.hid (HSr.out.below hb4)
    have HB4 := Lib.hid (HBr.out.trans (hb4.mono HBr.out.size))
    clear d0 d1 d2 d3 d4 d5 d6 d7 HOk HSr
    generalize wr.alloc (.cells #[.int .i64 x.dev, .int .i64 x.seq, .int .i64 x.stamp, .int .i64 x.kind, .string x.item, .int .i64 x.qty, .int .i64 x.level, .int .i64 x.undos] 69) = w4 at hb4 HX4 HS4 HB4 ⊢
    have hs4 := hb4.size
    have hx4 := lt_of_row HX4.out
    generalize wr.heap.size = nb at HX4 hs4 hsr hx4 ⊢
    clear hb4
    obtain ⟨e0, e1, e2, e3, e4, e5, e6, e7⟩ := op_cells HX4.out
    go_wp2_with fail
    refine (nameOf x w4).mono ?_
    rintro e w5 ⟨rfl, hb5⟩
    have HX5 := Lib.hid ((hb5.block _ hx4).trans HX4.out)
    have HS5 := Lib.hid (HS4.out.below hb5)
    have HB5 := Lib.hid (HB4.out.trans (hb5.mono HB4.out.size))
    have hs5 := hb5.size
    clear hb5 HX4 HS4 HB4 e0 e1 e2 e3 e4 e5 e6 e7
    have hlk := (HS5.out.look HFk.out).1
    rcases hg : setF m m.length x.dev x.seq with _ | y
    · rw [hg] at hlk
      have HE := Lib.hid (HStop.out (HN.out hg))
      have hlk2 : (Instr.lookup 74 (.map (some sb)) (nameV x.dev x.seq) true).run Try.prog w5 = .ok (.tuple #[.agg #[.int .i64 0, .int .i64 0, .int .i64 0, .int .i64 0, .string ⟨#[]⟩, .int .i64 0, .int .i64 0, .int .i64 0], .bool false]) w5 := hlk
      clear hlk hg
      go_wp2
      go_ret
      exact ⟨by rw [HF.out, HE.out]; rfl, HT3.out.bel.trans ((HB5.out.mono (by omega)).alloc (by omega) _)⟩
    have HYy := Lib.hid (HY.out y hg)
    rw [hg] at hlk
    clear hg
    rcases hsm : sameB x y with _ | _
    · have HE := Lib.hid (HStop.out (by rw [HYy.out, hsm]; rfl))
      have HSm := Lib.hid hsm
      have hlk2 : (Instr.lookup 74 (.map (some sb)) (nameV x.dev x.seq) true).run Try.prog w5 = .ok (.tuple #[.agg #[.int .i64 y.dev, .int .i64 y.seq, .int .i64 y.stamp, .int .i64 y.kind, .string y.item, .int .i64 y.qty, .int .i64 y.level, .int .i64 y.undos], .bool true]) w5 := hlk
      clear hlk hsm
      go_upto_region 8 with fail
      have hb6 : Below w5.heap.size w5 (w5.alloc (.cells #[.int .i64 y.dev, .int .i64 y.seq, .int .i64 y.stamp, .int .i64 y.kind, .string y.item, .int .i64 y.qty, .int .i64 y.level, .int .i64 y.undos] 69)) := (Below.refl _ _).alloc (Nat.le_refl _) _
      have HZ6 := Lib.hid (boxAt (Below.refl _ (w5.alloc (.cells #[.int .i64 y.dev, .int .i64 y.seq, .int .i64 y.stamp, .int .i64 y.kind, .string y.item, .int .i64 y.qty, .int .i64 y.level, .int .i64 y.undos] 69))))
      have HX6 := Lib.hid ((hb6.block _ (by omega)).trans HX5.out)
      have HB6 := Lib.hid (HB5.out.trans (hb6.mono HB5.out.size))
      clear hlk2 HX5 HS5 HB5
      generalize w5.alloc (.cells #[.int .i64 y.dev, .int .i64 y.seq, .int .i64 y.stamp, .int .i64 y.kind, .string y.item, .int .i64 y.qty, .int .i64 y.level, .int .i64 y.undos] 69) = w6 at hb6 HZ6 HX6 HB6 ⊢
      have hs6 := hb6.size
      have hz6 := lt_of_row HZ6.out
      generalize w5.heap.size = nz at HZ6 hs6 hz6 hs5 ⊢
      clear hb6
      obtain ⟨e0, e1, e2, e3, e4, e5, e6, e7⟩ := op_cells HX6.out
      obtain ⟨g0, g1, g2, g3, g4, g5, g6, g7⟩ := op_cells HZ6.out
      go_wp2_with fail
      refine (joinedNo x y HSm.out w6).mono ?_
      rintro e w7 ⟨rfl, hb7⟩
      have HB7 := Lib.hid (HB6.out.trans (hb7.mono HB6.out.size))
      have hs7 := hb7.size
      clear hb7 e0 e1 e2 e3 e4 e5 e6 e7 g0 g1 g2 g3 g4 g5 g6 g7
      go_wp2
      go_ret
      exact ⟨by rw [HF.out, HE.out]; rfl, HT3.out.bel.trans ((HB7.out.mono (by omega)).alloc (by omega) _)⟩
    obtain ⟨u, rfl⟩ : ∃ u, y = x.with u := ⟨_, same_yes hsm⟩
    have hlk2 : (Instr.lookup 74 (.map (some sb)) (nameV x.dev x.seq) true).run Try.prog w5 = .ok (.tuple #[.agg #[.int .i64 x.dev, .int .i64 x.seq, .int .i64 x.stamp, .int .i64 x.kind, .string x.item, .int .i64 x.qty, .int .i64 x.level, .int .i64 u], .bool true]) w5 := hlk
    have HO2 : Hid (okW m x = decide (x.undos ≤ u)) := by show _ = _; rw [HYy.out, hsm]; rfl
    clear hlk hsm HYy
    go_upto_region 8 with fail
    have hb6 : Below w5.heap.size w5 (w5.alloc (.cells #[.int .i64 x.dev, .int .i64 x.seq, .int .i64 x.stamp, .int .i64 x.kind, .string x.item, .int .i64 x.qty, .int .i64 x.level, .int .i64 u] 69)) := (Below.refl _ _).alloc (Nat.le_refl _) _
    have HZ6 := Lib.hid (boxAt (Below.refl _ (w5.alloc (.cells #[.int .i64 x.dev, .int .i64 x.seq, .int .i64 x.stamp, .int .i64 x.kind, .string x.item, .int .i64 x.qty, .int .i64 x.level, .int .i64 u] 69))))
    have HX6 := Lib.hid ((hb6.block _ (by omega)).trans HX5.out)
    have HB6 := Lib.hid (HB5.out.trans (hb6.mono HB5.out.size))
    clear hlk2 HX5 HS5 HB5
    generalize w5.alloc (.cells #[.int .i64 x.dev, .int .i64 x.seq, .int .i64 x.stamp, .int .i64 x.kind, .string x.item, .int .i64 x.qty, .int .i64 x.level, .int .i64 u] 69) = w6 at hb6 HZ6 HX6 HB6 ⊢
    have hs6 := hb6.size
    have hz6 := lt_of_row HZ6.out
    generalize w5.heap.size = nz at HZ6 hs6 hz6 hs5 ⊢
    clear hb6
    obtain ⟨e0, e1, e2, e3, e4, e5, e6, e7⟩ := op_cells HX6.out
    obtain ⟨g0, g1, g2, g3, g4, g5, g6, g7⟩ := op_cells HZ6.out
    go_wp2_with fail
    refine (joinedYes x u w6).mono ?_
    rintro e w7 ⟨rfl, hb7⟩
    have HZ7 := Lib.hid ((hb7.block _ hz6).trans HZ6.out)
    have HB7 := Lib.hid (HB6.out.trans (hb7.mono HB6.out.size))
    have hs7 := hb7.size
    clear hb7 e0 e1 e2 e3 e4 e5 e6 e7 g0 g1 g2 g3 g4 g5 g6 g7 HX6 HZ6 HB6
    generalize hmx : max x.undos u = mx
    go_upto_region 11 with fail
    have hb8 : Below w7.heap.size w7 (w7.alloc (.cells #[.int .i64 x.dev, .int .i64 x.seq, .int .i64 x.stamp, .int .i64 x.kind, .string x.item, .int .i64 x.qty, .int .i64 x.level, .int .i64 mx] 69)) := (Below.refl _ _).alloc (Nat.le_refl _) _
    have HW8 := Lib.hid (boxAt (Below.refl _ (w7.alloc (.cells #[.int .i64 x.dev, .int .i64 x.seq, .int .i64 x.stamp, .int .i64 x.kind, .string x.item, .int .i64 x.qty, .int .i64 x.level, .int .i64 mx] 69))))
    have HZ8 := Lib.hid ((hb8.block _ (by omega)).trans HZ7.out)
    have HB8 := Lib.hid (HB7.out.trans (hb8.mono HB7.out.size))
    generalize w7.alloc (.cells #[.int .i64 x.dev, .int .i64 x.seq, .int .i64 x.stamp, .int .i64 x.kind, .string x.item, .int .i64 x.qty, .int .i64 x.level, .int .i64 mx] 69) = w8 at hb8 HW8 HZ8 HB8 ⊢
    have hs8 := hb8.size
    clear hb8 HZ7 HB7
    obtain ⟨e0, e1, e2, e3, e4, e5, e6, e7⟩ := op_cells HW8.out
    obtain ⟨g0, g1, g2, g3, g4, g5, g6, g7⟩ := op_cells HZ8.out
    by_cases hle : x.undos ≤ u
    · obtain rfl : mx = u := by omega
      have HE := Lib.hid (HKs.out (by rw [HO2.out]; exact decide_eq_true hle))
      clear hle hmx
      go_wp2
      go_roundw
      case rel => exact ⟨k + 1, by omega, by go_num, HE, HB8⟩
      case measure => simp [intOf]; omega
    · have hne : (mx == u) = false := by rw [beq_eq_false_iff_ne]; omega
      have hne2 : ¬ mx = u := by omega
      have HE := Lib.hid (HStop.out (by rw [HO2.out]; exact decide_eq_false hle))
      clear hle hmx
      go_wp2
      go_ret
      exact ⟨by rw [HF.out, HE.out]; rfl, HT3.out.bel.trans (HB8.out.mono (by omega))⟩
end Go.Proofs.Ytjdodonhhlppjaa
