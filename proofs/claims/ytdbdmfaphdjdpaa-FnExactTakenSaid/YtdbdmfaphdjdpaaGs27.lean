/- Walks and mathematics that several claims share, part 27. -/
import Derived.Test.YtdbdmfaphdjdpaaGs26
import Derived.Test.YtdbdmfaphdjdpaaGs24
import Derived.Test.YtdbdmfaphdjdpaaGs17
import Derived.Test.YtdbdmfaphdjdpaaGs13
import Derived.Deep.Cut
import Derived.Deep.RegionHeld3
namespace Go.Proofs.Ytdbdmfaphdjdpaa
open Go.RowKit


set_option maxRecDepth 100000 in
set_option maxHeartbeats 5000000 in
theorem markCartM (w : World) (lo mid hi : Nat) (av ao : Option Addr) (nv cv no co : Nat) (xs : List Int) (l : List OpV) (hx : Own w lo mid av nv xs) (h : OwnOps w mid hi ao no l) (h1 : lo ≤ mid) (h2 : mid ≤ hi) (hh : hi ≤ w.heap.size) (hv : nv ≤ 1048576) (hn : no ≤ 1048576) (k : Nat) (hk0 : 0 < k) (hk : k ≤ 9000000) :
    Calls Try.prog 12 #[.agg #[.slice av nv cv, .slice ao no co], .int .i64 (k : Int)] w fun e w' => (∃ m : Nat, Hid (m = k + nv + 8 * no) ∧ e = .returned (.int .i64 (m : Int))) ∧ Own w' lo mid av nv (marks k nv) ∧ OwnOps w' mid hi ao no (opMarks (k + nv) no) ∧ Beside lo hi w w' := by
  have hb0 : Below w.heap.size w (w.alloc (.cells #[.slice av nv cv, .slice ao no co] 29)) := (Below.refl _ w).alloc (Nat.le_refl _) _
  have HV := Lib.hid (hx.below hb0 (by omega))
  have HO := Lib.hid (h.below hb0 hh)
  have HB : Hid (Beside lo hi w (w.alloc (.cells #[.slice av nv cv, .slice ao no co] 29))) := Below.beside hb0
  have HX := Lib.hid (boxAt (Below.refl _ (w.alloc (.cells #[.slice av nv cv, .slice ao no co] 29))))
  have hsz : w.heap.size < (w.alloc (.cells #[.slice av nv cv, .slice ao no co] 29)).heap.size := by show _ < (w.heap.push _).size; simp
  clear hx h hb0
  go_enter Try.func12, Try.ntmps12
  go_wp2_with fail
  generalize w.alloc (.cells #[.slice av nv cv, .slice ao no co] 29) = w0 at HV HO HB HX hsz ⊢
  refine (mark w0 lo mid av nv cv xs HV.out k (by omega) hv).mono ?_
  rintro e w1 ⟨⟨m, hm, rfl⟩, ho, hO⟩
  have HO1 : Hid (OwnOps w1 mid hi ao no l) := HO.out.kept fun j h1 h2 => hO.block j (by omega)
  have HX1 := Lib.hid ((hO.block _ (.inr (by omega))).trans HX.out)
  have HB1 := Lib.hid (HB.out.trans (hO.beside.wide (Nat.le_refl _) h2))
  have hs1 : w.heap.size < w1.heap.size := by have := hO.size; omega
  have hmb : 0 < m ∧ m ≤ 10048577 := by omega
  obtain ⟨hm0, hm1⟩ := hmb
  have HMm := Lib.hid hm
  have HV1 := Lib.hid ho
  clear ho hO HX HV HO HB hm
  obtain ⟨c0, c1⟩ := pair_cells HX1.out
  go_wp2_with fail
  refine (markOps w1 mid hi ao no co l HO1.out m hm0 (by omega) hn).mono ?_
  rintro e w2 ⟨⟨m2, hm2, rfl⟩, ho2, hO⟩
  have HV2 : Hid (Own w2 lo mid av nv (marks k nv)) := HV1.out.kept fun j h1 h2 => hO.block j (by omega) (.inl h2)
  have HP2 : Hid (OwnOps w2 mid hi ao no (opMarks (k + nv) no)) := by
    have e : k + nv = m := by have := HMm.out; omega
    rw [e]
    exact ho2
  have HB2 := Lib.hid (HB1.out.trans (hO.wide h1 (Nat.le_refl _)))
  have hm2' : Hid (m2 = k + nv + 8 * no) := by have := HMm.out; show _ = _; omega
  clear hO c0 c1 HX1 HB1 HO1 hm2 HMm HV1 ho2
  go_wp2
  go_ret
  exact ⟨⟨m2, hm2', rfl⟩, HV2.out, HP2.out, HB2.out⟩

set_option maxRecDepth 100000 in
set_option maxHeartbeats 5000000 in
theorem heldCart (w : World) (B : Nat) (av ao : Option Addr) (nv cv no co k : Nat) (hx : Ints w B av nv (marks k nv)) (h : Ops w B ao no (opMarks (k + nv) no)) (hB : B ≤ w.heap.size) (hv : nv ≤ 1048576) (hn : no ≤ 1048576) (hk0 : 0 < k) (hk : k ≤ 1000000) :
    Calls Try.prog 13 #[.agg #[.slice av nv cv, .slice ao no co], .int .i64 (k : Int)] w fun e w' => e = .returned (.int .i64 ((k + nv + 8 * no : Nat) : Int)) ∧ Below w.heap.size w w' := by
  have hb0 : Below w.heap.size w (w.alloc (.cells #[.slice av nv cv, .slice ao no co] 29)) := (Below.refl _ w).alloc (Nat.le_refl _) _
  have HV := Lib.hid (hx.below hb0 hB)
  have HO := Lib.hid (h.below hb0 hB)
  have HB := Lib.hid hb0
  have HX := Lib.hid (boxAt (Below.refl _ (w.alloc (.cells #[.slice av nv cv, .slice ao no co] 29))))
  have hsz : w.heap.size < (w.alloc (.cells #[.slice av nv cv, .slice ao no co] 29)).heap.size := by show _ < (w.heap.push _).size; simp
  have hBw := hB
  clear hx h hb0 hB
  go_enter Try.func13, Try.ntmps13
  go_wp2_with fail
  generalize w.alloc (.cells #[.slice av nv cv, .slice ao no co] 29) = w0 at HV HO HB HX hsz ⊢
  refine (held w0 B av nv cv k HV.out (by omega) hv).mono ?_
  rintro e w1 ⟨rfl, rfl⟩
  have hk1 : 0 < k + nv := by omega
  have hk2 : k + nv ≤ 20000000 := by omega
  have hd1 : ¬ (((k + nv : Nat) : Int) < 0) := by omega
  obtain ⟨c0, c1⟩ := pair_cells HX.out
  generalize hkn : k + nv = kn at HO hk1 hk2 hd1 ⊢
  go_wp2_with fail
  refine (heldOps w0 B ao no co kn HO.out (by omega) hk1 hk2 hn).mono ?_
  rintro e w2 ⟨rfl, hb2⟩
  have HB2 := Lib.hid (HB.out.trans (hb2.mono (by omega)))
  have hd2 : ¬ (((kn + 8 * no : Nat) : Int) < 0) := by omega
  generalize hkm : kn + 8 * no = km at hd2 ⊢
  have HK2 : Hid (k + nv + 8 * no = km) := by show _ = _; omega
  clear hb2 c0 c1 hkm hkn
  go_wp2
  go_ret
  exact ⟨by rw [HK2.out]; rfl, HB2.out⟩

theorem Own.besideM {w w' : World} {lo hi lo' hi' : Nat} {a : Option Addr} {n : Nat} {xs : List Int} (h : Own w lo hi a n xs) (hb : Beside lo' hi' w w') (hd : hi ≤ lo' ∨ hi' ≤ lo) (hw : hi ≤ w.heap.size) : Own w' lo hi a n xs :=
  h.kept fun j h1 h2 => hb.block j (by omega) (by omega)
theorem drawnStore {w0 z : World} {b lo hi lo2 hi2 g n m : Nat} {va oa : Option Addr} {xs : List Int} {l : List OpV} {x y : Value} {T : TypeId} (u v : Value) (hbel : Below b w0 z) (hbox : z.heap[g]? = some (.cells #[x, y] T (0, 0))) (hn : b ≤ g) (hne : g < lo ∨ hi ≤ g) (hne2 : g < lo2 ∨ hi2 ≤ g) (hhi : hi ≤ z.heap.size) (hhi2 : hi2 ≤ z.heap.size) (h1 : Own z lo hi va n xs) (h2 : OwnOps z lo2 hi2 oa m l) :
    Hid (((z.setCell ⟨g, 0, none⟩ u).setCell ⟨g, 1, none⟩ v).heap[g]? = some (.cells #[u, v] T (0, 0))) ∧ Hid (Ints ((z.setCell ⟨g, 0, none⟩ u).setCell ⟨g, 1, none⟩ v) ((z.setCell ⟨g, 0, none⟩ u).setCell ⟨g, 1, none⟩ v).heap.size va n xs) ∧ Hid (Ops ((z.setCell ⟨g, 0, none⟩ u).setCell ⟨g, 1, none⟩ v) ((z.setCell ⟨g, 0, none⟩ u).setCell ⟨g, 1, none⟩ v).heap.size oa m l) ∧ Below b w0 ((z.setCell ⟨g, 0, none⟩ u).setCell ⟨g, 1, none⟩ v) ∧ g < ((z.setCell ⟨g, 0, none⟩ u).setCell ⟨g, 1, none⟩ v).heap.size := by
  have hb1 := (hbel.setCell (p := ⟨g, 0, none⟩) hn u).setCell (p := ⟨g, 1, none⟩) hn v
  have hsz : ((z.setCell ⟨g, 0, none⟩ u).setCell ⟨g, 1, none⟩ v).heap.size = z.heap.size := pair_size _ _ _ _
  have hk : ∀ j, j ≠ g → ((z.setCell ⟨g, 0, none⟩ u).setCell ⟨g, 1, none⟩ v).heap[j]? = z.heap[j]? := fun j hj => pair_other _ _ hj
  refine ⟨pair_set u v hbox, ((h1.kept fun j a1 a2 => hk j (by omega)).ints).more (by omega), ((h2.kept fun j a1 a2 => hk j (by omega)).ops).more (by omega), hb1, ?_⟩
  rw [hsz]
  exact (Array.getElem?_eq_some_iff.1 hbox).1
set_option linter.unusedSimpArgs false in
set_option maxRecDepth 100000 in
set_option maxHeartbeats 80000000 in
theorem fnExactTakenWalk (av ao : Option Addr) (nv cv no co : Nat) (xs : List Int) (l : List OpV) (bv bo : Option Addr) (mv dv mo eo : Nat) (ys : List Int) (m : List OpV) (w : World) (hx : Ints w w.heap.size av nv xs) (h : Ops w w.heap.size ao no l) (hv : nv ≤ maxLen) (hn : no ≤ maxLen) (hm : ∀ i, i < no → (l.getD i OpV.zero).item.size ≤ maxLen) (hy : Ints w w.heap.size bv mv ys) (g : Ops w w.heap.size bo mo m) (hv2 : mv ≤ maxLen) (hn2 : mo ≤ maxLen) (hm2 : ∀ i, i < mo → (m.getD i OpV.zero).item.size ≤ maxLen) : Calls Try.prog 3 #[.agg #[.slice av nv cv, .slice ao no co], .agg #[.slice bv mv dv, .slice bo mo eo]] w fun e w' => e = .returned (.bool true) ∧ Below w.heap.size w w' := by
  have hT := Two.mk0 w #[.slice av nv cv, .slice ao no co] #[.slice bv mv dv, .slice bo mo eo] 25
  have HV0 := Lib.hid (hx.below hT.bel (Nat.le_refl _))
  have HO0 := Lib.hid (h.below hT.bel (Nat.le_refl _))
  have HP0 := Lib.hid (hy.below hT.bel (Nat.le_refl _))
  have HQ0 := Lib.hid (g.below hT.bel (Nat.le_refl _))
  have HX0 := Lib.hid hT.fst
  have HR0 := Lib.hid hT.snd
  have HB0 := Lib.hid hT.bel
  have HLx := Lib.hid hx.1
  have HLo := Lib.hid h.1
  have HLy := Lib.hid hy.1
  have HLm := Lib.hid g.1
  have HM := Lib.hid hm
  have HM2 := Lib.hid hm2
  clear hx h hT hm hy g hm2
  go_enter Try.func3, Try.ntmps3
  go_wp2_with fail
  generalize (w.alloc (.cells #[.slice av nv cv, .slice ao no co] 25)).alloc (.cells #[.slice bv mv dv, .slice bo mo eo] 25) = w0 at HV0 HO0 HP0 HQ0 HX0 HR0 HB0 ⊢
  have hs0 : w.heap.size + 2 ≤ w0.heap.size := by have := (Array.getElem?_eq_some_iff.1 HR0.out).1; omega
  refine (szCart w0 w.heap.size av ao nv cv no co l HO0.out (by omega) hv hn HM.out 1048576 (Nat.le_refl _)).mono ?_
  rintro e w1 ⟨rfl, hb⟩
  have hs1 := hb.size
  have HX1 := Lib.hid ((hb.block _ (Array.getElem?_eq_some_iff.1 HX0.out).1).trans HX0.out)
  have HR1 := Lib.hid ((hb.block _ (Array.getElem?_eq_some_iff.1 HR0.out).1).trans HR0.out)
  have HV1 := Lib.hid (HV0.out.below hb (by omega))
  have HO1 := Lib.hid (HO0.out.below hb (by omega))
  have HP1 := Lib.hid (HP0.out.below hb (by omega))
  have HQ1 := Lib.hid (HQ0.out.below hb (by omega))
  have HB1 := Lib.hid (HB0.out.trans (hb.mono (by omega)))
  clear hb HX0 HR0 HV0 HO0 HP0 HQ0 HB0
  by_cases hbig : nv + opsTotal l ≤ 1048576
  rotate_left
  · rw [if_neg hbig]
    go_wp2
    go_ret
    exact ⟨rfl, HB1.out⟩
  rw [if_pos hbig]
  obtain ⟨hlo, hit⟩ := total_item (l := l) (t := 1048576) (by omega)
  have HIt := Lib.hid hit
  have hno : no ≤ 1048576 := by rw [← HLo.out]; exact hlo
  have hnv : nv ≤ 1048576 := by omega
  have hd : decide (((1048576 - (nv + opsTotal l) : Nat) : Int) < 0) = false := decide_eq_false (by omega)
  have hlf : 1048576 - (nv + opsTotal l) ≤ 1048576 := by omega
  have HTot : Hid (nv + 8 * no ≤ 8388608) := by show _ ≤ _; have : opsTotal l ≥ l.length := by unfold opsTotal; omega
                                                have := HLo.out
                                                omega
  clear hit hbig
  have hxl : xs.length ≤ 1048576 := by rw [HLx.out]; exact hnv
  generalize 1048576 - (nv + opsTotal l) = lf at hd hlf ⊢
  obtain ⟨r0, r1⟩ := pair_cells HR1.out
  go_wp2_with fail
  refine (szCart w1 w.heap.size bv bo mv dv mo eo m HQ1.out (by omega) hv2 hn2 HM2.out lf hlf).mono ?_
  rintro e w2 ⟨rfl, hb⟩
  clear r0 r1
  have hs2 := hb.size
  have HX2 := Lib.hid ((hb.block _ (Array.getElem?_eq_some_iff.1 HX1.out).1).trans HX1.out)
  have HR2 := Lib.hid ((hb.block _ (Array.getElem?_eq_some_iff.1 HR1.out).1).trans HR1.out)
  have HV2 := Lib.hid (HV1.out.below hb (by omega))
  have HO2 := Lib.hid (HO1.out.below hb (by omega))
  have HP2 := Lib.hid (HP1.out.below hb (by omega))
  have HQ2 := Lib.hid (HQ1.out.below hb (by omega))
  have HB2 := Lib.hid (HB1.out.trans (hb.mono (by omega)))
  clear hb HX1 HR1 HV1 HO1 HP1 HQ1 HB1
  by_cases hbig : mv + opsTotal m ≤ lf
  rotate_left
  · rw [if_neg hbig]
    go_wp2
    go_ret
    exact ⟨rfl, HB2.out⟩
  rw [if_pos hbig]
  obtain ⟨hlm, hit2⟩ := total_item (l := m) (t := 1048576) (by omega)
  have HIt2 := Lib.hid hit2
  have hmo : mo ≤ 1048576 := by rw [← HLm.out]; exact hlm
  have hmv : mv ≤ 1048576 := by omega
  have hd2 : decide (((lf - (mv + opsTotal m) : Nat) : Int) < 0) = false := decide_eq_false (by omega)
  clear hit2 hbig
  have hyl : ys.length ≤ 1048576 := by rw [HLy.out]; exact hmv
  generalize lf - (mv + opsTotal m) = lf2 at hd2 ⊢
  obtain ⟨R, hR⟩ : ∃ R, takB xs l ys m = R := ⟨_, rfl⟩
  have HR := Lib.hid hR
  obtain ⟨zs, hZs⟩ : ∃ zs, takVs xs ys R = zs := ⟨_, rfl⟩
  obtain ⟨Ls, hLs⟩ : ∃ L, takOs l m R = L := ⟨_, rfl⟩
  have HZs := Lib.hid hZs
  have HLs := Lib.hid hLs
  have hzl : zs.length ≤ 4 := by rw [← hZs]; exact takVs_len xs ys l m R hR
  have hLn : Ls.length ≤ 200 := by rw [← hLs]; exact takOs_len xs ys l m R hR
  clear hR hZs hLs
  have HZsM : Hid (takVs xs ys R = zs) := HZs
  have HLsM : Hid (takOs l m R = Ls) := HLs
  go_upto_region 8 with fail
  rename_i KR hKR
  have hKall : ∀ (nW : Nat) (sva soa : Option Addr) (svc soc : Nat) (u27 u28 u29 u30 u31 u32 u33 u34 : Value) (w3 : World), w2.heap.size ≤ nW → nW < w3.heap.size → Below w2.heap.size w2 w3 → Hid (w3.heap[nW]? = some (.cells #[.slice sva zs.length svc, .slice soa Ls.length soc] 29 (0, 0))) → Hid (Ints w3 w3.heap.size sva zs.length zs) → Hid (Ops w3 w3.heap.size soa Ls.length Ls) → KR { tmps := #[.agg #[.slice av nv cv, .slice ao no co], .agg #[.slice bv mv dv, .slice bo mo eo], .pointer (some ⟨w.heap.size, 0, none⟩), .pointer (some ⟨w.heap.size + 1, 0, none⟩), .bool false, .int .i64 (lf2 : Int), .pointer (some ⟨nW, 0, none⟩), .bool R, undef, undef, undef, undef, undef, undef, undef, undef, undef, .agg #[.slice av nv cv, .slice ao no co], .int .i64 1048576, .int .i64 (lf : Int), .int .i64 (lf : Int), .bool false, .agg #[.slice bv mv dv, .slice bo mo eo], .int .i64 (lf : Int), .int .i64 (lf2 : Int), .int .i64 (lf2 : Int), .bool false, u27, u28, u29, u30, u31, u32, u33, u34, undef, undef, undef, undef, undef, undef, undef, undef, undef, undef, undef, undef, undef, undef, undef, undef, undef, undef, undef, undef, undef, undef, undef, undef, undef, undef, undef, undef, undef, undef, undef, undef, undef, undef, undef, undef, undef, undef, undef, undef, undef, undef, undef, undef, undef, undef, undef, undef, undef, undef, undef, undef, undef, undef, undef, undef, undef, undef, undef, undef, undef, undef, undef, undef, undef, undef, undef, undef, undef, undef, undef, undef, undef, undef, undef, undef, undef, undef, undef, undef, undef, undef, undef, undef], defers := [] } w3 := by
    intro nW sva soa svc soc u27 u28 u29 u30 u31 u32 u33 u34 w3 q1 hnn hb HN3 HS3 HT3
    have hwl := q1
    apply hKR
    clear hKR
    have hs3 := hb.size
    have HX3 := Lib.hid ((hb.block _ (Array.getElem?_eq_some_iff.1 HX2.out).1).trans HX2.out)
    have HR3 := Lib.hid ((hb.block _ (Array.getElem?_eq_some_iff.1 HR2.out).1).trans HR2.out)
    have HV3 := Lib.hid (HV2.out.below hb (by omega))
    have HO3 := Lib.hid (HO2.out.below hb (by omega))
    have HP3 := Lib.hid (HP2.out.below hb (by omega))
    have HQ3 := Lib.hid (HQ2.out.below hb (by omega))
    have HB3 := Lib.hid (HB2.out.trans (hb.mono (by omega)))
    clear hb HX2 HR2 HV2 HO2 HP2 HQ2 HB2
    have hBw : w3.heap.size ≤ w3.heap.size := Nat.le_refl _
    generalize hBe : w3.heap.size = Bw at HS3 HT3 hBw
    have hBe2 : Bw ≤ w3.heap.size := by omega
    have hnB : nW < Bw := by omega
    clear hBe hBw
    obtain ⟨c0, c1⟩ := pair_cells HX3.out
    go_wp2_with fail
    refine (toCartO w3 w.heap.size av ao nv cv no co xs l HV3.out HO3.out (by omega) hnv hno).mono ?_
    rintro e w4 ⟨ga, gb, mid, rfl, hgA, hm1A, hm2A, hi, ho, hb⟩
    clear c0 c1
    have hs4 := hb.size
    have HX4 := Lib.hid ((hb.block _ (Array.getElem?_eq_some_iff.1 HX3.out).1).trans HX3.out)
    have HR4 := Lib.hid ((hb.block _ (Array.getElem?_eq_some_iff.1 HR3.out).1).trans HR3.out)
    have HV4 := Lib.hid (HV3.out.below hb (by omega))
    have HO4 := Lib.hid (HO3.out.below hb (by omega))
    have HP4 := Lib.hid (HP3.out.below hb (by omega))
    have HQ4 := Lib.hid (HQ3.out.below hb (by omega))
    have HB4 := Lib.hid (HB3.out.trans (hb.mono (by omega)))
    have HN4 := Lib.hid ((hb.block _ (Array.getElem?_eq_some_iff.1 HN3.out).1).trans HN3.out)
    have HS4 := Lib.hid (HS3.out.below hb (by omega))
    have HT4 := Lib.hid (HT3.out.below hb (by omega))
    clear hb HX3 HR3 HV3 HO3 HP3 HQ3 HB3 HN3 HS3 HT3
    have HI4 := Lib.hid hi
    have HG4 := Lib.hid ho
    clear hi ho
    generalize hn3 : w3.heap.size = n3 at HI4 hs3 hs4 hm1A
    go_upto_region 10 with fail
    have hb : Below w4.heap.size w4 (w4.alloc (.cells #[.slice ga xs.length xs.length, .slice gb l.length l.length] 29)) := (Below.refl _ _).alloc (Nat.le_refl _) _
    have HY5 := Lib.hid (boxAt (Below.refl _ (w4.alloc (.cells #[.slice ga xs.length xs.length, .slice gb l.length l.length] 29))))
    have hyA : w4.heap.size + 1 ≤ (w4.alloc (.cells #[.slice ga xs.length xs.length, .slice gb l.length l.length] 29)).heap.size := by show _ ≤ (w4.heap.push _).size; simp
    generalize w4.alloc (.cells #[.slice ga xs.length xs.length, .slice gb l.length l.length] 29) = w5 at hb HY5 hyA ⊢
    have hs5 := hb.size
    have HX5 := Lib.hid ((hb.block _ (Array.getElem?_eq_some_iff.1 HX4.out).1).trans HX4.out)
    have HR5 := Lib.hid ((hb.block _ (Array.getElem?_eq_some_iff.1 HR4.out).1).trans HR4.out)
    have HV5 := Lib.hid (HV4.out.below hb (by omega))
    have HO5 := Lib.hid (HO4.out.below hb (by omega))
    have HP5 := Lib.hid (HP4.out.below hb (by omega))
    have HQ5 := Lib.hid (HQ4.out.below hb (by omega))
    have HB5 := Lib.hid (HB4.out.trans (hb.mono (by omega)))
    have HN5 := Lib.hid ((hb.block _ (Array.getElem?_eq_some_iff.1 HN4.out).1).trans HN4.out)
    have HS5 := Lib.hid (HS4.out.below hb (by omega))
    have HT5 := Lib.hid (HT4.out.below hb (by omega))
    have HI5 := Lib.hid (HI4.out.below hb (by omega))
    have HG5 := Lib.hid (HG4.out.below hb (by omega))
    clear hb HX4 HR4 HV4 HO4 HP4 HQ4 HB4 HN4 HS4 HT4 HI4 HG4
    generalize hn4 : w4.heap.size = n4 at HY5 HI5 HG5 hs4 hs5 hyA hm2A ⊢
    obtain ⟨c0, c1⟩ := pair_cells HR5.out
    go_wp2_with fail
    refine (toCartO w5 w.heap.size bv bo mv dv mo eo ys m HP5.out HQ5.out (by omega) hmv hmo).mono ?_
    rintro e w6 ⟨ha, hc, mid2, rfl, hgB, hm1B, hm2B, hi, ho, hb⟩
    clear c0 c1
    have hs6 := hb.size
    have HX6 := Lib.hid ((hb.block _ (Array.getElem?_eq_some_iff.1 HX5.out).1).trans HX5.out)
    have HR6 := Lib.hid ((hb.block _ (Array.getElem?_eq_some_iff.1 HR5.out).1).trans HR5.out)
    have HV6 := Lib.hid (HV5.out.below hb (by omega))
    have HO6 := Lib.hid (HO5.out.below hb (by omega))
    have HP6 := Lib.hid (HP5.out.below hb (by omega))
    have HQ6 := Lib.hid (HQ5.out.below hb (by omega))
    have HB6 := Lib.hid (HB5.out.trans (hb.mono (by omega)))
    have HN6 := Lib.hid ((hb.block _ (Array.getElem?_eq_some_iff.1 HN5.out).1).trans HN5.out)
    have HS6 := Lib.hid (HS5.out.below hb (by omega))
    have HT6 := Lib.hid (HT5.out.below hb (by omega))
    have HI6 := Lib.hid (HI5.out.below hb (by omega))
    have HG6 := Lib.hid (HG5.out.below hb (by omega))
    have HY6 := Lib.hid ((hb.block _ (Array.getElem?_eq_some_iff.1 HY5.out).1).trans HY5.out)
    clear hb HX5 HR5 HV5 HO5 HP5 HQ5 HB5 HN5 HS5 HT5 HI5 HG5 HY5
    have HJ6 := Lib.hid hi
    have HK6 := Lib.hid ho
    clear hi ho
    generalize hn5 : w5.heap.size = n5 at HJ6 hs5 hs6 hm1B
    go_upto_region 11 with fail
    have hb : Below w6.heap.size w6 (w6.alloc (.cells #[.slice ha ys.length ys.length, .slice hc m.length m.length] 29)) := (Below.refl _ _).alloc (Nat.le_refl _) _
    have HZ7 := Lib.hid (boxAt (Below.refl _ (w6.alloc (.cells #[.slice ha ys.length ys.length, .slice hc m.length m.length] 29))))
    have hyB : w6.heap.size + 1 ≤ (w6.alloc (.cells #[.slice ha ys.length ys.length, .slice hc m.length m.length] 29)).heap.size := by show _ ≤ (w6.heap.push _).size; simp
    generalize w6.alloc (.cells #[.slice ha ys.length ys.length, .slice hc m.length m.length] 29) = w7 at hb HZ7 hyB ⊢
    have hs7 := hb.size
    have HX7 := Lib.hid ((hb.block _ (Array.getElem?_eq_some_iff.1 HX6.out).1).trans HX6.out)
    have HR7 := Lib.hid ((hb.block _ (Array.getElem?_eq_some_iff.1 HR6.out).1).trans HR6.out)
    have HV7 := Lib.hid (HV6.out.below hb (by omega))
    have HO7 := Lib.hid (HO6.out.below hb (by omega))
    have HP7 := Lib.hid (HP6.out.below hb (by omega))
    have HQ7 := Lib.hid (HQ6.out.below hb (by omega))
    have HB7 := Lib.hid (HB6.out.trans (hb.mono (by omega)))
    have HN7 := Lib.hid ((hb.block _ (Array.getElem?_eq_some_iff.1 HN6.out).1).trans HN6.out)
    have HS7 := Lib.hid (HS6.out.below hb (by omega))
    have HT7 := Lib.hid (HT6.out.below hb (by omega))
    have HI7 := Lib.hid (HI6.out.below hb (by omega))
    have HG7 := Lib.hid (HG6.out.below hb (by omega))
    have HY7 := Lib.hid ((hb.block _ (Array.getElem?_eq_some_iff.1 HY6.out).1).trans HY6.out)
    have HJ7 := Lib.hid (HJ6.out.below hb (by omega))
    have HK7 := Lib.hid (HK6.out.below hb (by omega))
    clear hb HX6 HR6 HV6 HO6 HP6 HQ6 HB6 HN6 HS6 HT6 HI6 HG6 HY6 HJ6 HK6
    generalize hn6 : w6.heap.size = n6 at HZ7 HJ7 HK7 hs6 hs7 hyB hm2B ⊢
    obtain ⟨c0, c1⟩ := pair_cells HY7.out
    obtain ⟨e0, e1⟩ := pair_cells HZ7.out
    go_wp2_with fail
    have hsp := implTaken w7 n6 ga gb ha hc xs.length xs.length l.length l.length ys.length ys.length m.length m.length xs l ys m (HI7.out.ints.more (by omega)) (HG7.out.ops.more (by omega)) (HJ7.out.ints.more (by omega)) HK7.out.ops (by omega) hxl (Nat.le_refl _) (fits (Nat.le_refl _) hlo) HIt.out hyl (Nat.le_refl _) (fits (Nat.le_refl _) hlm) HIt2.out
    rw [HR.out, HZsM.out, HLsM.out] at hsp
    refine hsp.mono ?_
    rintro e w8 ⟨gva, gvc, goa, goc, gm, rfl, hiG, hoG, hm1G, hm2G, hb⟩
    clear c0 c1 e0 e1 hsp
    have hs8 := hb.size
    have HX8 := Lib.hid ((hb.block _ (Array.getElem?_eq_some_iff.1 HX7.out).1).trans HX7.out)
    have HR8 := Lib.hid ((hb.block _ (Array.getElem?_eq_some_iff.1 HR7.out).1).trans HR7.out)
    have HV8 := Lib.hid (HV7.out.below hb (by omega))
    have HO8 := Lib.hid (HO7.out.below hb (by omega))
    have HP8 := Lib.hid (HP7.out.below hb (by omega))
    have HQ8 := Lib.hid (HQ7.out.below hb (by omega))
    have HB8 := Lib.hid (HB7.out.trans (hb.mono (by omega)))
    have HN8 := Lib.hid ((hb.block _ (Array.getElem?_eq_some_iff.1 HN7.out).1).trans HN7.out)
    have HS8 := Lib.hid (HS7.out.below hb (by omega))
    have HT8 := Lib.hid (HT7.out.below hb (by omega))
    have HI8 := Lib.hid (HI7.out.below hb (by omega))
    have HG8 := Lib.hid (HG7.out.below hb (by omega))
    have HY8 := Lib.hid ((hb.block _ (Array.getElem?_eq_some_iff.1 HY7.out).1).trans HY7.out)
    have HJ8 := Lib.hid (HJ7.out.below hb (by omega))
    have HK8 := Lib.hid (HK7.out.below hb (by omega))
    have HZ8 := Lib.hid ((hb.block _ (Array.getElem?_eq_some_iff.1 HZ7.out).1).trans HZ7.out)
    clear hb HX7 HR7 HV7 HO7 HP7 HQ7 HB7 HN7 HS7 HT7 HI7 HG7 HY7 HJ7 HK7 HZ7
    have HA8 := Lib.hid hiG
    have HC8 := Lib.hid hoG
    clear hiG hoG
    generalize hn7 : w7.heap.size = n7 at HA8 hs7 hs8 hm1G
    go_upto_region 12 with fail
    have hb : Below w8.heap.size w8 (w8.alloc (.cells #[.slice gva zs.length gvc, .slice goa Ls.length goc] 29)) := (Below.refl _ _).alloc (Nat.le_refl _) _
    have HD9 := Lib.hid (boxAt (Below.refl _ (w8.alloc (.cells #[.slice gva zs.length gvc, .slice goa Ls.length goc] 29))))
    have hyG : w8.heap.size + 1 ≤ (w8.alloc (.cells #[.slice gva zs.length gvc, .slice goa Ls.length goc] 29)).heap.size := by show _ ≤ (w8.heap.push _).size; simp
    generalize w8.alloc (.cells #[.slice gva zs.length gvc, .slice goa Ls.length goc] 29) = w9 at hb HD9 hyG ⊢
    have hs9 := hb.size
    have HX9 := Lib.hid ((hb.block _ (Array.getElem?_eq_some_iff.1 HX8.out).1).trans HX8.out)
    have HR9 := Lib.hid ((hb.block _ (Array.getElem?_eq_some_iff.1 HR8.out).1).trans HR8.out)
    have HV9 := Lib.hid (HV8.out.below hb (by omega))
    have HO9 := Lib.hid (HO8.out.below hb (by omega))
    have HP9 := Lib.hid (HP8.out.below hb (by omega))
    have HQ9 := Lib.hid (HQ8.out.below hb (by omega))
    have HB9 := Lib.hid (HB8.out.trans (hb.mono (by omega)))
    have HN9 := Lib.hid ((hb.block _ (Array.getElem?_eq_some_iff.1 HN8.out).1).trans HN8.out)
    have HS9 := Lib.hid (HS8.out.below hb (by omega))
    have HT9 := Lib.hid (HT8.out.below hb (by omega))
    have HI9 := Lib.hid (HI8.out.below hb (by omega))
    have HG9 := Lib.hid (HG8.out.below hb (by omega))
    have HY9 := Lib.hid ((hb.block _ (Array.getElem?_eq_some_iff.1 HY8.out).1).trans HY8.out)
    have HJ9 := Lib.hid (HJ8.out.below hb (by omega))
    have HK9 := Lib.hid (HK8.out.below hb (by omega))
    have HZ9 := Lib.hid ((hb.block _ (Array.getElem?_eq_some_iff.1 HZ8.out).1).trans HZ8.out)
    have HA9 := Lib.hid (HA8.out.below hb (by omega))
    have HC9 := Lib.hid (HC8.out.below hb (by omega))
    clear hb HX8 HR8 HV8 HO8 HP8 HQ8 HB8 HN8 HS8 HT8 HI8 HG8 HY8 HJ8 HK8 HZ8 HA8 HC8
    generalize hn8 : w8.heap.size = n8 at HD9 HA9 HC9 hs8 hs9 hyG hm2G ⊢
    obtain ⟨c0, c1⟩ := pair_cells HD9.out
    obtain ⟨e0, e1⟩ := pair_cells HN9.out
    go_wp2_with fail
    refine (eqCartV w9 gva sva goa soa _ _ _ _ zs Ls (HA9.out.ints.more (by omega)) (HS9.out.more (by omega)) (HC9.out.ops.more (by omega)) (HT9.out.more (by omega)) (by omega) (by omega)).mono ?_
    rintro e w10 ⟨rfl, hb⟩
    clear c0 c1 e0 e1
    have hs10 := hb.size
    have HX10 := Lib.hid ((hb.block _ (Array.getElem?_eq_some_iff.1 HX9.out).1).trans HX9.out)
    have HR10 := Lib.hid ((hb.block _ (Array.getElem?_eq_some_iff.1 HR9.out).1).trans HR9.out)
    have HV10 := Lib.hid (HV9.out.below hb (by omega))
    have HO10 := Lib.hid (HO9.out.below hb (by omega))
    have HP10 := Lib.hid (HP9.out.below hb (by omega))
    have HQ10 := Lib.hid (HQ9.out.below hb (by omega))
    have HB10 := Lib.hid (HB9.out.trans (hb.mono (by omega)))
    have HN10 := Lib.hid ((hb.block _ (Array.getElem?_eq_some_iff.1 HN9.out).1).trans HN9.out)
    have HS10 := Lib.hid (HS9.out.below hb (by omega))
    have HT10 := Lib.hid (HT9.out.below hb (by omega))
    have HI10 := Lib.hid (HI9.out.below hb (by omega))
    have HG10 := Lib.hid (HG9.out.below hb (by omega))
    have HY10 := Lib.hid ((hb.block _ (Array.getElem?_eq_some_iff.1 HY9.out).1).trans HY9.out)
    have HJ10 := Lib.hid (HJ9.out.below hb (by omega))
    have HK10 := Lib.hid (HK9.out.below hb (by omega))
    have HZ10 := Lib.hid ((hb.block _ (Array.getElem?_eq_some_iff.1 HZ9.out).1).trans HZ9.out)
    have HA10 := Lib.hid (HA9.out.below hb (by omega))
    have HC10 := Lib.hid (HC9.out.below hb (by omega))
    have HD10 := Lib.hid ((hb.block _ (Array.getElem?_eq_some_iff.1 HD9.out).1).trans HD9.out)
    clear hb HX9 HR9 HV9 HO9 HP9 HQ9 HB9 HN9 HS9 HT9 HI9 HG9 HY9 HJ9 HK9 HZ9 HA9 HC9 HD9
    have hS : w10.drew.cell? ⟨n4, 0, none⟩ = some (.slice ga xs.length xs.length) ∧ w10.drew.cell? ⟨n4, 1, none⟩ = some (.slice gb l.length l.length) ∧ w10.drew.cell? ⟨w.heap.size, 0, none⟩ = some (.slice av nv cv) ∧ w10.drew.cell? ⟨w.heap.size, 1, none⟩ = some (.slice ao no co) := ⟨(pair_cells HY10.out).1, (pair_cells HY10.out).2, (pair_cells HX10.out).1, (pair_cells HX10.out).2⟩
    go_wp2_with fail
    refine wp_region_held_drew (S := fun w' => w'.cell? ⟨n4, 0, none⟩ = some (.slice ga xs.length xs.length) ∧ w'.cell? ⟨n4, 1, none⟩ = some (.slice gb l.length l.length) ∧ w'.cell? ⟨w.heap.size, 0, none⟩ = some (.slice av nv cv) ∧ w'.cell? ⟨w.heap.size, 1, none⟩ = some (.slice ao no co)) (by kernel_rfl) hS (fun hHeld => ?_)
    refine wpAnyH_take (i := 0) (oi := { dst := some 54, op := .load 29 (.tmp 8), type := 29, pos := "exact.go:2850", after := #[], guard := none }) (v := ?_) rfl (by kernel_rfl) (by kernel_rfl) (by kernel_rfl) (fun _ _ _ h => h) (Or.inl ⟨by rfl, ?_⟩) (by assumption) ?_
    rotate_left
    · intro w hSw
      (try dsimp only at hSw)
      first | (go_simp; done) | (go_simp; with_reducible rfl)
    (try simp only [Act.put, List.setIfInBounds_toArray, List.set_cons_zero, List.set_cons_succ])
    refine wpAnyH_take (i := 1) (oi := { dst := some 55, op := .load 25 (.tmp 2), type := 25, pos := "exact.go:2850", after := #[], guard := none }) (v := ?_) rfl (by kernel_rfl) (by kernel_rfl) (by kernel_rfl) (fun _ _ _ h => h) (Or.inl ⟨by rfl, ?_⟩) (by assumption) ?_
    rotate_left
    · intro w hSw
      (try dsimp only at hSw)
      first | (go_simp; done) | (go_simp; with_reducible rfl)
    (try simp only [Act.put, List.setIfInBounds_toArray, List.set_cons_zero, List.set_cons_succ])
    refine wpAnyH_ready (rs := [2]) (by kernel_rfl) (by simp) ?_
    refine AllReadyH.cons (o := { dst := some 56, op := .call { callee := .value (.func 9), args := #[.tmp 55], argTypes := #[25] }, type := 29, pos := "exact.go:2850", after := #[⟨1, .data⟩], guard := none }) rfl (fun K hK => ?_) AllReadyH.nil
    go_simp
    go_at_call 9
    refine (toCart w10.drew w.heap.size av ao nv cv no co xs l (HV10.out.kept (w' := w10.drew) fun _ _ => rfl) (HO10.out.kept (w' := w10.drew) fun _ _ => rfl) (by show _ ≤ w10.heap.size; omega) hnv hno).mono ?_
    rintro e z1 ⟨ka, kb, rfl, hi, ho, hbz⟩
    have hz1 : Below w10.heap.size w10 z1 := Below.mk hbz.os hbz.tape hbz.output hbz.size hbz.block
    have hS1 : z1.cell? ⟨n4, 0, none⟩ = some (.slice ga xs.length xs.length) ∧ z1.cell? ⟨n4, 1, none⟩ = some (.slice gb l.length l.length) ∧ z1.cell? ⟨w.heap.size, 0, none⟩ = some (.slice av nv cv) ∧ z1.cell? ⟨w.heap.size, 1, none⟩ = some (.slice ao no co) := ⟨(hbz.cell (block_lt_of_cell hS.1)).trans hS.1, (hbz.cell (block_lt_of_cell hS.2.1)).trans hS.2.1, (hbz.cell (block_lt_of_cell hS.2.2.1)).trans hS.2.2.1, (hbz.cell (block_lt_of_cell hS.2.2.2)).trans hS.2.2.2⟩
    refine hK.out _ _ hS1 (fun hHeld2 => ?_)
    clear hK K
    (try simp only [Act.put, List.setIfInBounds_toArray, List.set_cons_zero, List.set_cons_succ])
    refine wpAnyH_ready (rs := [3]) (by kernel_rfl) (by simp) ?_
    refine AllReadyH.cons (o := { dst := some 57, op := .call { callee := .value (.func 11), args := #[.tmp 54, .tmp 56], argTypes := #[29, 29] }, type := 4, pos := "exact.go:2850", after := #[⟨0, .data⟩, ⟨2, .data⟩, ⟨2, .chain⟩], guard := none }) rfl (fun K hK => ?_) AllReadyH.nil
    go_simp
    go_at_call 11
    refine (eqCartV z1 ga ka gb kb _ _ _ _ xs l ((HI10.out.ints.below hz1 (by omega)).more (Nat.le_trans (by omega) hz1.size)) hi ((HG10.out.ops.below hz1 (by omega)).more (Nat.le_trans (by omega) hz1.size)) ho hxl hlo).mono ?_
    rintro e w11 ⟨rfl, hbw⟩
    have hS2 : w11.cell? ⟨n4, 0, none⟩ = some (.slice ga xs.length xs.length) ∧ w11.cell? ⟨n4, 1, none⟩ = some (.slice gb l.length l.length) ∧ w11.cell? ⟨w.heap.size, 0, none⟩ = some (.slice av nv cv) ∧ w11.cell? ⟨w.heap.size, 1, none⟩ = some (.slice ao no co) := ⟨(hbw.cell (block_lt_of_cell hS1.1)).trans hS1.1, (hbw.cell (block_lt_of_cell hS1.2.1)).trans hS1.2.1, (hbw.cell (block_lt_of_cell hS1.2.2.1)).trans hS1.2.2.1, (hbw.cell (block_lt_of_cell hS1.2.2.2)).trans hS1.2.2.2⟩
    refine hK.out _ _ hS2 (fun hHeld3 => ?_)
    clear hK K
    (try simp only [Act.put, List.setIfInBounds_toArray, List.set_cons_zero, List.set_cons_succ])
    refine wpAnyH_take (i := 4) (oi := { dst := some 58, op := .unOp .not 4 (.tmp 57), type := 4, pos := "exact.go:2850", after := #[⟨3, .data⟩], guard := none }) (v := ?_) rfl (by kernel_rfl) (by kernel_rfl) (by kernel_rfl) (fun _ _ _ h => h) (Or.inl ⟨by rfl, ?_⟩) (by assumption) ?_
    rotate_left
    · intro w hSw
      (try dsimp only at hSw)
      first | (go_simp; done) | (go_simp; with_reducible rfl)
    (try simp only [Act.put, List.setIfInBounds_toArray, List.set_cons_zero, List.set_cons_succ])
    refine wpAnyH_done (by kernel_rfl) ?_ _
    have hb : Below w10.heap.size w10 w11 := hz1.trans (hbw.mono hz1.size)
    clear hS hS1 hS2 hHeld hHeld2 hHeld3 hz1 hbz hbw hi ho
    have hs11 := hb.size
    have HX11 := Lib.hid ((hb.block _ (Array.getElem?_eq_some_iff.1 HX10.out).1).trans HX10.out)
    have HR11 := Lib.hid ((hb.block _ (Array.getElem?_eq_some_iff.1 HR10.out).1).trans HR10.out)
    have HV11 := Lib.hid (HV10.out.below hb (by omega))
    have HO11 := Lib.hid (HO10.out.below hb (by omega))
    have HP11 := Lib.hid (HP10.out.below hb (by omega))
    have HQ11 := Lib.hid (HQ10.out.below hb (by omega))
    have HB11 := Lib.hid (HB10.out.trans (hb.mono (by omega)))
    have HN11 := Lib.hid ((hb.block _ (Array.getElem?_eq_some_iff.1 HN10.out).1).trans HN10.out)
    have HS11 := Lib.hid (HS10.out.below hb (by omega))
    have HT11 := Lib.hid (HT10.out.below hb (by omega))
    have HI11 := Lib.hid (HI10.out.below hb (by omega))
    have HG11 := Lib.hid (HG10.out.below hb (by omega))
    have HY11 := Lib.hid ((hb.block _ (Array.getElem?_eq_some_iff.1 HY10.out).1).trans HY10.out)
    have HJ11 := Lib.hid (HJ10.out.below hb (by omega))
    have HK11 := Lib.hid (HK10.out.below hb (by omega))
    have HZ11 := Lib.hid ((hb.block _ (Array.getElem?_eq_some_iff.1 HZ10.out).1).trans HZ10.out)
    have HA11 := Lib.hid (HA10.out.below hb (by omega))
    have HC11 := Lib.hid (HC10.out.below hb (by omega))
    have HD11 := Lib.hid ((hb.block _ (Array.getElem?_eq_some_iff.1 HD10.out).1).trans HD10.out)
    clear hb HX10 HR10 HV10 HO10 HP10 HQ10 HB10 HN10 HS10 HT10 HI10 HG10 HY10 HJ10 HK10 HZ10 HA10 HC10 HD10
    have hS : w11.drew.cell? ⟨n6, 0, none⟩ = some (.slice ha ys.length ys.length) ∧ w11.drew.cell? ⟨n6, 1, none⟩ = some (.slice hc m.length m.length) ∧ w11.drew.cell? ⟨w.heap.size + 1, 0, none⟩ = some (.slice bv mv dv) ∧ w11.drew.cell? ⟨w.heap.size + 1, 1, none⟩ = some (.slice bo mo eo) := ⟨(pair_cells HZ11.out).1, (pair_cells HZ11.out).2, (pair_cells HR11.out).1, (pair_cells HR11.out).2⟩
    go_wp2_with fail
    refine wp_region_held_drew (S := fun w' => w'.cell? ⟨n6, 0, none⟩ = some (.slice ha ys.length ys.length) ∧ w'.cell? ⟨n6, 1, none⟩ = some (.slice hc m.length m.length) ∧ w'.cell? ⟨w.heap.size + 1, 0, none⟩ = some (.slice bv mv dv) ∧ w'.cell? ⟨w.heap.size + 1, 1, none⟩ = some (.slice bo mo eo)) (by kernel_rfl) hS (fun hHeld => ?_)
    refine wpAnyH_take (i := 0) (oi := { dst := some 59, op := .load 29 (.tmp 9), type := 29, pos := "exact.go:2853", after := #[], guard := none }) (v := ?_) rfl (by kernel_rfl) (by kernel_rfl) (by kernel_rfl) (fun _ _ _ h => h) (Or.inl ⟨by rfl, ?_⟩) (by assumption) ?_
    rotate_left
    · intro w hSw
      (try dsimp only at hSw)
      first | (go_simp; done) | (go_simp; with_reducible rfl)
    (try simp only [Act.put, List.setIfInBounds_toArray, List.set_cons_zero, List.set_cons_succ])
    refine wpAnyH_take (i := 1) (oi := { dst := some 60, op := .load 25 (.tmp 3), type := 25, pos := "exact.go:2853", after := #[], guard := none }) (v := ?_) rfl (by kernel_rfl) (by kernel_rfl) (by kernel_rfl) (fun _ _ _ h => h) (Or.inl ⟨by rfl, ?_⟩) (by assumption) ?_
    rotate_left
    · intro w hSw
      (try dsimp only at hSw)
      first | (go_simp; done) | (go_simp; with_reducible rfl)
    (try simp only [Act.put, List.setIfInBounds_toArray, List.set_cons_zero, List.set_cons_succ])
    refine wpAnyH_ready (rs := [2]) (by kernel_rfl) (by simp) ?_
    refine AllReadyH.cons (o := { dst := some 61, op := .call { callee := .value (.func 9), args := #[.tmp 60], argTypes := #[25] }, type := 29, pos := "exact.go:2853", after := #[⟨1, .data⟩], guard := none }) rfl (fun K hK => ?_) AllReadyH.nil
    go_simp
    go_at_call 9
    refine (toCart w11.drew w.heap.size bv bo mv dv mo eo ys m (HP11.out.kept (w' := w11.drew) fun _ _ => rfl) (HQ11.out.kept (w' := w11.drew) fun _ _ => rfl) (by show _ ≤ w11.heap.size; omega) hmv hmo).mono ?_
    rintro e z1 ⟨ka, kb, rfl, hi, ho, hbz⟩
    have hz1 : Below w11.heap.size w11 z1 := Below.mk hbz.os hbz.tape hbz.output hbz.size hbz.block
    have hS1 : z1.cell? ⟨n6, 0, none⟩ = some (.slice ha ys.length ys.length) ∧ z1.cell? ⟨n6, 1, none⟩ = some (.slice hc m.length m.length) ∧ z1.cell? ⟨w.heap.size + 1, 0, none⟩ = some (.slice bv mv dv) ∧ z1.cell? ⟨w.heap.size + 1, 1, none⟩ = some (.slice bo mo eo) := ⟨(hbz.cell (block_lt_of_cell hS.1)).trans hS.1, (hbz.cell (block_lt_of_cell hS.2.1)).trans hS.2.1, (hbz.cell (block_lt_of_cell hS.2.2.1)).trans hS.2.2.1, (hbz.cell (block_lt_of_cell hS.2.2.2)).trans hS.2.2.2⟩
    refine hK.out _ _ hS1 (fun hHeld2 => ?_)
    clear hK K
    (try simp only [Act.put, List.setIfInBounds_toArray, List.set_cons_zero, List.set_cons_succ])
    refine wpAnyH_ready (rs := [3]) (by kernel_rfl) (by simp) ?_
    refine AllReadyH.cons (o := { dst := some 62, op := .call { callee := .value (.func 11), args := #[.tmp 59, .tmp 61], argTypes := #[29, 29] }, type := 4, pos := "exact.go:2853", after := #[⟨0, .data⟩, ⟨2, .data⟩, ⟨2, .chain⟩], guard := none }) rfl (fun K hK => ?_) AllReadyH.nil
    go_simp
    go_at_call 11
    refine (eqCartV z1 ha ka hc kb _ _ _ _ ys m ((HJ11.out.ints.below hz1 (by omega)).more (Nat.le_trans (by omega) hz1.size)) hi ((HK11.out.ops.below hz1 (by omega)).more (Nat.le_trans (by omega) hz1.size)) ho hyl hlm).mono ?_
    rintro e w12 ⟨rfl, hbw⟩
    have hS2 : w12.cell? ⟨n6, 0, none⟩ = some (.slice ha ys.length ys.length) ∧ w12.cell? ⟨n6, 1, none⟩ = some (.slice hc m.length m.length) ∧ w12.cell? ⟨w.heap.size + 1, 0, none⟩ = some (.slice bv mv dv) ∧ w12.cell? ⟨w.heap.size + 1, 1, none⟩ = some (.slice bo mo eo) := ⟨(hbw.cell (block_lt_of_cell hS1.1)).trans hS1.1, (hbw.cell (block_lt_of_cell hS1.2.1)).trans hS1.2.1, (hbw.cell (block_lt_of_cell hS1.2.2.1)).trans hS1.2.2.1, (hbw.cell (block_lt_of_cell hS1.2.2.2)).trans hS1.2.2.2⟩
    refine hK.out _ _ hS2 (fun hHeld3 => ?_)
    clear hK K
    (try simp only [Act.put, List.setIfInBounds_toArray, List.set_cons_zero, List.set_cons_succ])
    refine wpAnyH_take (i := 4) (oi := { dst := some 63, op := .unOp .not 4 (.tmp 62), type := 4, pos := "exact.go:2853", after := #[⟨3, .data⟩], guard := none }) (v := ?_) rfl (by kernel_rfl) (by kernel_rfl) (by kernel_rfl) (fun _ _ _ h => h) (Or.inl ⟨by rfl, ?_⟩) (by assumption) ?_
    rotate_left
    · intro w hSw
      (try dsimp only at hSw)
      first | (go_simp; done) | (go_simp; with_reducible rfl)
    (try simp only [Act.put, List.setIfInBounds_toArray, List.set_cons_zero, List.set_cons_succ])
    refine wpAnyH_done (by kernel_rfl) ?_ _
    have hb : Below w11.heap.size w11 w12 := hz1.trans (hbw.mono hz1.size)
    clear hS hS1 hS2 hHeld hHeld2 hHeld3 hz1 hbz hbw hi ho
    have hs12 := hb.size
    have HX12 := Lib.hid ((hb.block _ (Array.getElem?_eq_some_iff.1 HX11.out).1).trans HX11.out)
    have HR12 := Lib.hid ((hb.block _ (Array.getElem?_eq_some_iff.1 HR11.out).1).trans HR11.out)
    have HV12 := Lib.hid (HV11.out.below hb (by omega))
    have HO12 := Lib.hid (HO11.out.below hb (by omega))
    have HP12 := Lib.hid (HP11.out.below hb (by omega))
    have HQ12 := Lib.hid (HQ11.out.below hb (by omega))
    have HB12 := Lib.hid (HB11.out.trans (hb.mono (by omega)))
    have HN12 := Lib.hid ((hb.block _ (Array.getElem?_eq_some_iff.1 HN11.out).1).trans HN11.out)
    have HS12 := Lib.hid (HS11.out.below hb (by omega))
    have HT12 := Lib.hid (HT11.out.below hb (by omega))
    have HI12 := Lib.hid (HI11.out.below hb (by omega))
    have HG12 := Lib.hid (HG11.out.below hb (by omega))
    have HY12 := Lib.hid ((hb.block _ (Array.getElem?_eq_some_iff.1 HY11.out).1).trans HY11.out)
    have HJ12 := Lib.hid (HJ11.out.below hb (by omega))
    have HK12 := Lib.hid (HK11.out.below hb (by omega))
    have HZ12 := Lib.hid ((hb.block _ (Array.getElem?_eq_some_iff.1 HZ11.out).1).trans HZ11.out)
    have HA12 := Lib.hid (HA11.out.below hb (by omega))
    have HC12 := Lib.hid (HC11.out.below hb (by omega))
    have HD12 := Lib.hid ((hb.block _ (Array.getElem?_eq_some_iff.1 HD11.out).1).trans HD11.out)
    clear hb HX11 HR11 HV11 HO11 HP11 HQ11 HB11 HN11 HS11 HT11 HI11 HG11 HY11 HJ11 HK11 HZ11 HA11 HC11 HD11
    have hTot : 1 + xs.length + 8 * l.length ≤ 8388609 := by have := HTot.out; have := HLx.out; have := HLo.out; omega
    obtain ⟨c0, c1⟩ := pair_cells HY12.out
    go_wp2_with fail
    refine (markCartM w12 n3 mid n4 ga gb _ _ _ _ xs l HI12.out HG12.out (by omega) (by omega) (by omega) hxl hlo 1 (by omega) (by omega)).mono ?_
    rintro e w13 ⟨⟨k1, hk1, rfl⟩, -, -, hb⟩
    clear c0 c1
    have hs13 := hb.size
    have HX13 := Lib.hid ((hb.block _ (Array.getElem?_eq_some_iff.1 HX12.out).1 (by omega)).trans HX12.out)
    have HR13 := Lib.hid ((hb.block _ (Array.getElem?_eq_some_iff.1 HR12.out).1 (by omega)).trans HR12.out)
    have HV13 := Lib.hid (HV12.out.kept fun j hj => hb.block j (by omega) (.inl (by omega)))
    have HO13 := Lib.hid (HO12.out.kept fun j hj => hb.block j (by omega) (.inl (by omega)))
    have HP13 := Lib.hid (HP12.out.kept fun j hj => hb.block j (by omega) (.inl (by omega)))
    have HQ13 := Lib.hid (HQ12.out.kept fun j hj => hb.block j (by omega) (.inl (by omega)))
    have HB13 := Lib.hid (HB12.out.trans (hb.below (by omega) (by omega)))
    have HN13 := Lib.hid ((hb.block _ (Array.getElem?_eq_some_iff.1 HN12.out).1 (by omega)).trans HN12.out)
    have HS13 := Lib.hid (HS12.out.kept fun j hj => hb.block j (by omega) (.inl (by omega)))
    have HT13 := Lib.hid (HT12.out.kept fun j hj => hb.block j (by omega) (.inl (by omega)))
    have HY13 := Lib.hid ((hb.block _ (Array.getElem?_eq_some_iff.1 HY12.out).1 (by omega)).trans HY12.out)
    have HJ13 := Lib.hid (HJ12.out.besideM hb (by omega) (by omega))
    have HK13 := Lib.hid (HK12.out.beside hb (by omega) (by omega))
    have HZ13 := Lib.hid ((hb.block _ (Array.getElem?_eq_some_iff.1 HZ12.out).1 (by omega)).trans HZ12.out)
    have HA13 := Lib.hid (HA12.out.besideM hb (by omega) (by omega))
    have HC13 := Lib.hid (HC12.out.beside hb (by omega) (by omega))
    have HD13 := Lib.hid ((hb.block _ (Array.getElem?_eq_some_iff.1 HD12.out).1 (by omega)).trans HD12.out)
    clear hb HX12 HR12 HV12 HO12 HP12 HQ12 HB12 HN12 HS12 HT12 HI12 HG12 HY12 HJ12 HK12 HZ12 HA12 HC12 HD12
    have hk1b : 0 < k1 ∧ k1 ≤ 8388609 := by have := hk1.out; omega
    obtain ⟨hk1b, hk1c⟩ := hk1b
    clear hk1 hTot
    obtain ⟨c0, c1⟩ := pair_cells HZ13.out
    go_wp2_with fail
    refine (markCartM w13 n5 mid2 n6 ha hc _ _ _ _ ys m HJ13.out HK13.out (by omega) (by omega) (by omega) hyl hlm k1 hk1b (by omega)).mono ?_
    rintro e w14 ⟨⟨k2, hk2, rfl⟩, -, -, hb⟩
    clear c0 c1
    have hs14 := hb.size
    have HX14 := Lib.hid ((hb.block _ (Array.getElem?_eq_some_iff.1 HX13.out).1 (by omega)).trans HX13.out)
    have HR14 := Lib.hid ((hb.block _ (Array.getElem?_eq_some_iff.1 HR13.out).1 (by omega)).trans HR13.out)
    have HV14 := Lib.hid (HV13.out.kept fun j hj => hb.block j (by omega) (.inl (by omega)))
    have HO14 := Lib.hid (HO13.out.kept fun j hj => hb.block j (by omega) (.inl (by omega)))
    have HP14 := Lib.hid (HP13.out.kept fun j hj => hb.block j (by omega) (.inl (by omega)))
    have HQ14 := Lib.hid (HQ13.out.kept fun j hj => hb.block j (by omega) (.inl (by omega)))
    have HB14 := Lib.hid (HB13.out.trans (hb.below (by omega) (by omega)))
    have HN14 := Lib.hid ((hb.block _ (Array.getElem?_eq_some_iff.1 HN13.out).1 (by omega)).trans HN13.out)
    have HS14 := Lib.hid (HS13.out.kept fun j hj => hb.block j (by omega) (.inl (by omega)))
    have HT14 := Lib.hid (HT13.out.kept fun j hj => hb.block j (by omega) (.inl (by omega)))
    have HY14 := Lib.hid ((hb.block _ (Array.getElem?_eq_some_iff.1 HY13.out).1 (by omega)).trans HY13.out)
    have HZ14 := Lib.hid ((hb.block _ (Array.getElem?_eq_some_iff.1 HZ13.out).1 (by omega)).trans HZ13.out)
    have HA14 := Lib.hid (HA13.out.besideM hb (by omega) (by omega))
    have HC14 := Lib.hid (HC13.out.beside hb (by omega) (by omega))
    have HD14 := Lib.hid ((hb.block _ (Array.getElem?_eq_some_iff.1 HD13.out).1 (by omega)).trans HD13.out)
    clear hb HX13 HR13 HV13 HO13 HP13 HQ13 HB13 HN13 HS13 HT13 HY13 HJ13 HK13 HZ13 HA13 HC13 HD13
    have hd3 : decide ((k2 : Int) < 0) = false := decide_eq_false (by omega)
    clear hk2
    obtain ⟨c0, c1⟩ := pair_cells HD14.out
    obtain ⟨e0, e1⟩ := pair_cells HN14.out
    go_wp2_with fail
    refine (eqCartV w14 gva sva goa soa _ _ _ _ zs Ls (HA14.out.ints.more (by omega)) (HS14.out.more (by omega)) (HC14.out.ops.more (by omega)) (HT14.out.more (by omega)) (by omega) (by omega)).mono ?_
    rintro e w15 ⟨rfl, hb⟩
    clear c0 c1 e0 e1
    have hs15 := hb.size
    have HX15 := Lib.hid ((hb.block _ (Array.getElem?_eq_some_iff.1 HX14.out).1).trans HX14.out)
    have HR15 := Lib.hid ((hb.block _ (Array.getElem?_eq_some_iff.1 HR14.out).1).trans HR14.out)
    have HV15 := Lib.hid (HV14.out.below hb (by omega))
    have HO15 := Lib.hid (HO14.out.below hb (by omega))
    have HP15 := Lib.hid (HP14.out.below hb (by omega))
    have HQ15 := Lib.hid (HQ14.out.below hb (by omega))
    have HB15 := Lib.hid (HB14.out.trans (hb.mono (by omega)))
    have HN15 := Lib.hid ((hb.block _ (Array.getElem?_eq_some_iff.1 HN14.out).1).trans HN14.out)
    have HS15 := Lib.hid (HS14.out.below hb (by omega))
    have HT15 := Lib.hid (HT14.out.below hb (by omega))
    have HY15 := Lib.hid ((hb.block _ (Array.getElem?_eq_some_iff.1 HY14.out).1).trans HY14.out)
    have HZ15 := Lib.hid ((hb.block _ (Array.getElem?_eq_some_iff.1 HZ14.out).1).trans HZ14.out)
    have HA15 := Lib.hid (HA14.out.below hb (by omega))
    have HC15 := Lib.hid (HC14.out.below hb (by omega))
    have HD15 := Lib.hid ((hb.block _ (Array.getElem?_eq_some_iff.1 HD14.out).1).trans HD14.out)
    clear hb HX14 HR14 HV14 HO14 HP14 HQ14 HB14 HN14 HS14 HT14 HY14 HZ14 HA14 HC14 HD14
    obtain ⟨c0, c1⟩ := pair_cells HD15.out
    go_wp2_with fail
    refine (markCartM w15 n7 gm n8 gva goa _ _ _ _ zs Ls HA15.out HC15.out (by omega) (by omega) (by omega) (by omega) (by omega) 1 (by omega) (by omega)).mono ?_
    rintro e w16 ⟨⟨k3, hk3, rfl⟩, hiM, hoM, hb⟩
    clear c0 c1
    have hs16 := hb.size
    have HX16 := Lib.hid ((hb.block _ (Array.getElem?_eq_some_iff.1 HX15.out).1 (by omega)).trans HX15.out)
    have HR16 := Lib.hid ((hb.block _ (Array.getElem?_eq_some_iff.1 HR15.out).1 (by omega)).trans HR15.out)
    have HV16 := Lib.hid (HV15.out.kept fun j hj => hb.block j (by omega) (.inl (by omega)))
    have HO16 := Lib.hid (HO15.out.kept fun j hj => hb.block j (by omega) (.inl (by omega)))
    have HP16 := Lib.hid (HP15.out.kept fun j hj => hb.block j (by omega) (.inl (by omega)))
    have HQ16 := Lib.hid (HQ15.out.kept fun j hj => hb.block j (by omega) (.inl (by omega)))
    have HB16 := Lib.hid (HB15.out.trans (hb.below (by omega) (by omega)))
    have HN16 := Lib.hid ((hb.block _ (Array.getElem?_eq_some_iff.1 HN15.out).1 (by omega)).trans HN15.out)
    have HS16 := Lib.hid (HS15.out.kept fun j hj => hb.block j (by omega) (.inl (by omega)))
    have HT16 := Lib.hid (HT15.out.kept fun j hj => hb.block j (by omega) (.inl (by omega)))
    have HY16 := Lib.hid ((hb.block _ (Array.getElem?_eq_some_iff.1 HY15.out).1 (by omega)).trans HY15.out)
    have HZ16 := Lib.hid ((hb.block _ (Array.getElem?_eq_some_iff.1 HZ15.out).1 (by omega)).trans HZ15.out)
    have HD16 := Lib.hid ((hb.block _ (Array.getElem?_eq_some_iff.1 HD15.out).1 (by omega)).trans HD15.out)
    clear hb HX15 HR15 HV15 HO15 HP15 HQ15 HB15 HN15 HS15 HT15 HY15 HZ15 HA15 HC15 HD15
    have HA16 := Lib.hid hiM
    have HC16 := Lib.hid hoM
    clear hiM hoM
    have HK3 : Hid (1 + zs.length + 8 * Ls.length = k3) := hk3.symm
    have hk3b : k3 ≤ 10000000 := by have := HK3.out; omega
    clear hk3
    obtain ⟨c0, c1⟩ := pair_cells HD16.out
    go_wp2_with fail
    refine (heldCart w16 n8 gva goa _ _ _ _ 1 (HA16.out.ints.more (by omega)) HC16.out.ops (by omega) (by omega) (by omega) (by omega) (by omega)).mono ?_
    rintro e w17 ⟨rfl, hb⟩
    rw [HK3.out]
    clear c0 c1
    have hs17 := hb.size
    have HX17 := Lib.hid ((hb.block _ (Array.getElem?_eq_some_iff.1 HX16.out).1).trans HX16.out)
    have HR17 := Lib.hid ((hb.block _ (Array.getElem?_eq_some_iff.1 HR16.out).1).trans HR16.out)
    have HV17 := Lib.hid (HV16.out.below hb (by omega))
    have HO17 := Lib.hid (HO16.out.below hb (by omega))
    have HP17 := Lib.hid (HP16.out.below hb (by omega))
    have HQ17 := Lib.hid (HQ16.out.below hb (by omega))
    have HB17 := Lib.hid (HB16.out.trans (hb.mono (by omega)))
    have HN17 := Lib.hid ((hb.block _ (Array.getElem?_eq_some_iff.1 HN16.out).1).trans HN16.out)
    have HS17 := Lib.hid (HS16.out.below hb (by omega))
    have HT17 := Lib.hid (HT16.out.below hb (by omega))
    have HY17 := Lib.hid ((hb.block _ (Array.getElem?_eq_some_iff.1 HY16.out).1).trans HY16.out)
    have HZ17 := Lib.hid ((hb.block _ (Array.getElem?_eq_some_iff.1 HZ16.out).1).trans HZ16.out)
    have HD17 := Lib.hid ((hb.block _ (Array.getElem?_eq_some_iff.1 HD16.out).1).trans HD16.out)
    have HA17 := Lib.hid (HA16.out.below hb (by omega))
    have HC17 := Lib.hid (HC16.out.below hb (by omega))
    clear hb HX16 HR16 HV16 HO16 HP16 HQ16 HB16 HN16 HS16 HT16 HY16 HZ16 HD16 HA16 HC16
    have hdk : decide ((k3 : Int) < 0) = false := decide_eq_false (by omega)
    have hbk : ((k3 : Int) != (k3 : Int)) = false := bne_self_eq_false _
    go_wp2_with fail
    obtain ⟨z0, hz0e⟩ : ∃ z0, w17.drew = z0 := ⟨_, rfl⟩
    have HS2 : w17.cell? ⟨w.heap.size, 0, none⟩ = some (.slice av nv cv) ∧ w17.cell? ⟨w.heap.size, 1, none⟩ = some (.slice ao no co) ∧ w17.cell? ⟨w.heap.size + 1, 0, none⟩ = some (.slice bv mv dv) ∧ w17.cell? ⟨w.heap.size + 1, 1, none⟩ = some (.slice bo mo eo) := ⟨(pair_cells HX17.out).1, (pair_cells HX17.out).2, (pair_cells HR17.out).1, (pair_cells HR17.out).2⟩
    have g0 : Below w17.heap.size w17 z0 := by rw [← hz0e]; exact ⟨rfl, rfl, rfl, Nat.le_refl _, fun _ _ => rfl⟩
    have Sz0 : z0.cell? ⟨w.heap.size, 0, none⟩ = some (.slice av nv cv) ∧ z0.cell? ⟨w.heap.size, 1, none⟩ = some (.slice ao no co) ∧ z0.cell? ⟨w.heap.size + 1, 0, none⟩ = some (.slice bv mv dv) ∧ z0.cell? ⟨w.heap.size + 1, 1, none⟩ = some (.slice bo mo eo) := ⟨(g0.cell (block_lt_of_cell HS2.1)).trans HS2.1, (g0.cell (block_lt_of_cell HS2.2.1)).trans HS2.2.1, (g0.cell (block_lt_of_cell HS2.2.2.1)).trans HS2.2.2.1, (g0.cell (block_lt_of_cell HS2.2.2.2)).trans HS2.2.2.2⟩
    refine wp_region_held_drew (S := fun w' => w'.cell? ⟨w.heap.size, 0, none⟩ = some (.slice av nv cv) ∧ w'.cell? ⟨w.heap.size, 1, none⟩ = some (.slice ao no co) ∧ w'.cell? ⟨w.heap.size + 1, 0, none⟩ = some (.slice bv mv dv) ∧ w'.cell? ⟨w.heap.size + 1, 1, none⟩ = some (.slice bo mo eo)) (by kernel_rfl) (by rw [hz0e]; exact Sz0) (fun hHeld => ?_)
    rw [hz0e]
    clear hHeld hz0e
    refine wpAnyH_take (i := 0) (oi := { dst := some 95, op := .load 25 (.tmp 2), type := 25, pos := "exact.go:2872", after := #[], guard := none }) (v := ?_) rfl (by kernel_rfl) (by kernel_rfl) (by kernel_rfl) (fun _ _ _ h => h) (Or.inl ⟨by rfl, ?_⟩) (by assumption) ?_
    rotate_left
    · intro w hSw
      (try dsimp only at hSw)
      first | (go_simp; done) | (go_simp; with_reducible rfl)
    (try simp only [Act.put, List.setIfInBounds_toArray, List.set_cons_zero, List.set_cons_succ])
    refine wpAnyH_take (i := 2) (oi := { dst := some 97, op := .load 25 (.tmp 3), type := 25, pos := "exact.go:2872", after := #[], guard := none }) (v := ?_) rfl (by kernel_rfl) (by kernel_rfl) (by kernel_rfl) (fun _ _ _ h => h) (Or.inl ⟨by rfl, ?_⟩) (by assumption) ?_
    rotate_left
    · intro w hSw
      (try dsimp only at hSw)
      first | (go_simp; done) | (go_simp; with_reducible rfl)
    (try simp only [Act.put, List.setIfInBounds_toArray, List.set_cons_zero, List.set_cons_succ])
    refine wpAnyH_ready (rs := [1, 8]) (by kernel_rfl) (by simp) ?_
    refine AllReadyH.cons (o := { dst := some 96, op := .call { callee := .value (.func 9), args := #[.tmp 95], argTypes := #[25] }, type := 29, pos := "exact.go:2872", after := #[⟨0, .data⟩], guard := none }) rfl (fun K hK => ?_) (AllReadyH.cons (o := { dst := some 15, op := .alloc 29, type := 0, pos := "exact.go:2872", after := #[], guard := none }) rfl (fun K hK => ?_) AllReadyH.nil)
    · skip
      go_simp
      go_at_call 9
      refine (toCart z0 w.heap.size av ao nv cv no co xs l (HV17.out.below g0 (by omega)) (HO17.out.below g0 (by omega)) (by have := g0.size; omega) hnv hno).mono ?_
      rintro e z1 ⟨va, oa, rfl, hi, ho, tz1⟩
      have g1 : Below w17.heap.size w17 z1 := g0.trans (tz1.mono g0.size)
      have Sz1 : z1.cell? ⟨w.heap.size, 0, none⟩ = some (.slice av nv cv) ∧ z1.cell? ⟨w.heap.size, 1, none⟩ = some (.slice ao no co) ∧ z1.cell? ⟨w.heap.size + 1, 0, none⟩ = some (.slice bv mv dv) ∧ z1.cell? ⟨w.heap.size + 1, 1, none⟩ = some (.slice bo mo eo) := ⟨(g1.cell (block_lt_of_cell HS2.1)).trans HS2.1, (g1.cell (block_lt_of_cell HS2.2.1)).trans HS2.2.1, (g1.cell (block_lt_of_cell HS2.2.2.1)).trans HS2.2.2.1, (g1.cell (block_lt_of_cell HS2.2.2.2)).trans HS2.2.2.2⟩
      refine hK.out _ _ Sz1 (fun hHeld2 => ?_)
      clear hK K hHeld2
      (try simp only [Act.put, List.setIfInBounds_toArray, List.set_cons_zero, List.set_cons_succ])
      refine wpAnyH_ready (rs := [3, 8]) (by kernel_rfl) (by simp) ?_
      refine AllReadyH.cons (o := { dst := some 98, op := .call { callee := .value (.func 9), args := #[.tmp 97], argTypes := #[25] }, type := 29, pos := "exact.go:2872", after := #[⟨2, .data⟩, ⟨1, .chain⟩], guard := none }) rfl (fun K hK => ?_) (AllReadyH.cons (o := { dst := some 15, op := .alloc 29, type := 0, pos := "exact.go:2872", after := #[], guard := none }) rfl (fun K hK => ?_) AllReadyH.nil)
      · skip
        go_simp
        go_at_call 9
        refine (toCart z1 w.heap.size bv bo mv dv mo eo ys m (HP17.out.below g1 (by omega)) (HQ17.out.below g1 (by omega)) (by have := g1.size; omega) hmv hmo).mono ?_
        rintro e z2 ⟨vb, ob, rfl, hi2, ho2, tz2⟩
        have g2 : Below w17.heap.size w17 z2 := g1.trans (tz2.mono g1.size)
        have Sz2 : z2.cell? ⟨w.heap.size, 0, none⟩ = some (.slice av nv cv) ∧ z2.cell? ⟨w.heap.size, 1, none⟩ = some (.slice ao no co) ∧ z2.cell? ⟨w.heap.size + 1, 0, none⟩ = some (.slice bv mv dv) ∧ z2.cell? ⟨w.heap.size + 1, 1, none⟩ = some (.slice bo mo eo) := ⟨(g2.cell (block_lt_of_cell HS2.1)).trans HS2.1, (g2.cell (block_lt_of_cell HS2.2.1)).trans HS2.2.1, (g2.cell (block_lt_of_cell HS2.2.2.1)).trans HS2.2.2.1, (g2.cell (block_lt_of_cell HS2.2.2.2)).trans HS2.2.2.2⟩
        have az2 : Below z1.heap.size z1 z2 := tz2
        refine hK.out _ _ Sz2 (fun hHeld3 => ?_)
        clear hK K hHeld3
        (try simp only [Act.put, List.setIfInBounds_toArray, List.set_cons_zero, List.set_cons_succ])
        refine wpAnyH_ready (rs := [4, 8]) (by kernel_rfl) (by simp) ?_
        refine AllReadyH.cons (o := { dst := some 99, op := .call { callee := .value (.func 10), args := #[.tmp 96, .tmp 98], argTypes := #[29, 29] }, type := 30, pos := "exact.go:2872", after := #[⟨1, .data⟩, ⟨3, .data⟩, ⟨3, .chain⟩], guard := none }) rfl (fun K hK => ?_) (AllReadyH.cons (o := { dst := some 15, op := .alloc 29, type := 0, pos := "exact.go:2872", after := #[], guard := none }) rfl (fun K hK => ?_) AllReadyH.nil)
        · skip
          go_simp
          go_at_call 10
          have hsp := implTaken z2 z2.heap.size va oa vb ob xs.length xs.length l.length l.length ys.length ys.length m.length m.length xs l ys m (hi.below az2 (Nat.le_refl _) |>.more az2.size) (ho.below az2 (Nat.le_refl _) |>.more az2.size) hi2 ho2 (Nat.le_refl _) hxl (Nat.le_refl _) (fits (Nat.le_refl _) hlo) HIt.out hyl (Nat.le_refl _) (fits (Nat.le_refl _) hlm) HIt2.out
          rw [HR.out, HZsM.out, HLsM.out] at hsp
          refine hsp.mono ?_
          rintro e z3 ⟨rva, rvc, roa, roc, smid, rfl, hiR, hoR, hm1R, hm2R, tz3⟩
          have g3 : Below w17.heap.size w17 z3 := g2.trans (tz3.mono g2.size)
          have Sz3 : z3.cell? ⟨w.heap.size, 0, none⟩ = some (.slice av nv cv) ∧ z3.cell? ⟨w.heap.size, 1, none⟩ = some (.slice ao no co) ∧ z3.cell? ⟨w.heap.size + 1, 0, none⟩ = some (.slice bv mv dv) ∧ z3.cell? ⟨w.heap.size + 1, 1, none⟩ = some (.slice bo mo eo) := ⟨(g3.cell (block_lt_of_cell HS2.1)).trans HS2.1, (g3.cell (block_lt_of_cell HS2.2.1)).trans HS2.2.1, (g3.cell (block_lt_of_cell HS2.2.2.1)).trans HS2.2.2.1, (g3.cell (block_lt_of_cell HS2.2.2.2)).trans HS2.2.2.2⟩
          have az3 : Below z1.heap.size z1 z3 := az2.trans (tz3.mono az2.size)
          have bz3 : Below z2.heap.size z2 z3 := tz3
          refine hK.out _ _ Sz3 (fun hHeld4 => ?_)
          clear hK K hHeld4
          (try simp only [Act.put, List.setIfInBounds_toArray, List.set_cons_zero, List.set_cons_succ])
          refine wpAnyH_take (i := 5) (oi := { dst := some 94, op := .move (.tmp 99), type := 30, pos := "exact.go:2872", after := #[⟨4, .data⟩], guard := none }) (v := ?_) rfl (by kernel_rfl) (by kernel_rfl) (by kernel_rfl) (fun _ _ _ h => h) (Or.inl ⟨by rfl, ?_⟩) (by assumption) ?_
          rotate_left
          · intro w hSw
            (try dsimp only at hSw)
            first | (go_simp; done) | (go_simp; with_reducible rfl)
          (try simp only [Act.put, List.setIfInBounds_toArray, List.set_cons_zero, List.set_cons_succ])
          refine wpAnyH_take (i := 6) (oi := { dst := some 100, op := .extract (.tmp 94) 0, type := 29, pos := "exact.go:2872", after := #[⟨5, .data⟩], guard := none }) (v := ?_) rfl (by kernel_rfl) (by kernel_rfl) (by kernel_rfl) (fun _ _ _ h => h) (Or.inl ⟨by rfl, ?_⟩) (by assumption) ?_
          rotate_left
          · intro w hSw
            (try dsimp only at hSw)
            first | (go_simp; done) | (go_simp; with_reducible rfl)
          (try simp only [Act.put, List.setIfInBounds_toArray, List.set_cons_zero, List.set_cons_succ])
          refine wpAnyH_take (i := 7) (oi := { dst := some 101, op := .extract (.tmp 94) 1, type := 4, pos := "exact.go:2872", after := #[⟨5, .data⟩, { on := 9, ground := Ground.gcOnly Departure.lateStores }], guard := none }) (v := ?_) rfl (by kernel_rfl) (by kernel_rfl) (by kernel_rfl) (fun _ _ _ h => h) (Or.inl ⟨by rfl, ?_⟩) (by assumption) ?_
          rotate_left
          · intro w hSw
            (try dsimp only at hSw)
            first | (go_simp; done) | (go_simp; with_reducible rfl)
          (try simp only [Act.put, List.setIfInBounds_toArray, List.set_cons_zero, List.set_cons_succ])
          have talloc : Below z3.heap.size z3 (z3.alloc (.cells #[.slice none 0 0, .slice none 0 0] 29)) := (Below.refl _ _).alloc (Nat.le_refl _) _
          have hboxn := Lib.hid (boxAt (Below.refl _ (z3.alloc (.cells #[.slice none 0 0, .slice none 0 0] 29))))
          have hxsn : z3.heap.size < (z3.alloc (.cells #[.slice none 0 0, .slice none 0 0] 29)).heap.size := by show _ < (z3.heap.push _).size; simp
          have galloc : Below w17.heap.size w17 (z3.alloc (.cells #[.slice none 0 0, .slice none 0 0] 29)) := g3.trans (talloc.mono g3.size)
          have Salloc : (z3.alloc (.cells #[.slice none 0 0, .slice none 0 0] 29)).cell? ⟨w.heap.size, 0, none⟩ = some (.slice av nv cv) ∧ (z3.alloc (.cells #[.slice none 0 0, .slice none 0 0] 29)).cell? ⟨w.heap.size, 1, none⟩ = some (.slice ao no co) ∧ (z3.alloc (.cells #[.slice none 0 0, .slice none 0 0] 29)).cell? ⟨w.heap.size + 1, 0, none⟩ = some (.slice bv mv dv) ∧ (z3.alloc (.cells #[.slice none 0 0, .slice none 0 0] 29)).cell? ⟨w.heap.size + 1, 1, none⟩ = some (.slice bo mo eo) := ⟨(galloc.cell (block_lt_of_cell HS2.1)).trans HS2.1, (galloc.cell (block_lt_of_cell HS2.2.1)).trans HS2.2.1, (galloc.cell (block_lt_of_cell HS2.2.2.1)).trans HS2.2.2.1, (galloc.cell (block_lt_of_cell HS2.2.2.2)).trans HS2.2.2.2⟩
          refine wpAnyH_ready (rs := [8]) (by kernel_rfl) (by simp) ?_
          refine AllReadyH.cons (o := { dst := some 15, op := .alloc 29, type := 0, pos := "exact.go:2872", after := #[], guard := none }) rfl (fun K hK => ?_) AllReadyH.nil
          go_simp
          refine hK.out _ _ Salloc (fun hHeldA => ?_)
          clear hK K hHeldA Salloc galloc
          (try simp only [Act.put, List.setIfInBounds_toArray, List.set_cons_zero, List.set_cons_succ])
          generalize z3.alloc (.cells #[.slice none 0 0, .slice none 0 0] 29) = z4 at talloc hboxn hxsn ⊢
          have tz4 := talloc
          have hboxz4 := hboxn
          have hxsz4 := hxsn
          clear talloc hboxn hxsn
          have g4 : Below w17.heap.size w17 z4 := g3.trans (tz4.mono g3.size)
          have Sz4 : z4.cell? ⟨w.heap.size, 0, none⟩ = some (.slice av nv cv) ∧ z4.cell? ⟨w.heap.size, 1, none⟩ = some (.slice ao no co) ∧ z4.cell? ⟨w.heap.size + 1, 0, none⟩ = some (.slice bv mv dv) ∧ z4.cell? ⟨w.heap.size + 1, 1, none⟩ = some (.slice bo mo eo) := ⟨(g4.cell (block_lt_of_cell HS2.1)).trans HS2.1, (g4.cell (block_lt_of_cell HS2.2.1)).trans HS2.2.1, (g4.cell (block_lt_of_cell HS2.2.2.1)).trans HS2.2.2.1, (g4.cell (block_lt_of_cell HS2.2.2.2)).trans HS2.2.2.2⟩
          have az4 : Below z1.heap.size z1 z4 := az3.trans (tz4.mono az3.size)
          have bz4 : Below z2.heap.size z2 z4 := bz3.trans (tz4.mono bz3.size)
          have hiRz4 := hiR.below tz4 (by omega)
          have hoRz4 := hoR.below tz4 (by omega)
          have q1 := g3.size
          have q2 := hm1R
          have q3 := hm2R
          obtain ⟨HNn, HSn, HTn, gn, hnn⟩ := drawnStore (.slice rva zs.length rvc) (.slice roa Ls.length roc) g4 hboxz4.out q1 (.inr hm2R) (.inr (Nat.le_refl _)) (by first | exact Nat.le_refl _ | omega) (by first | exact Nat.le_refl _ | omega) hiRz4 hoRz4
          obtain ⟨d0, d1⟩ := pair_cells hboxz4.out
          obtain ⟨f0, f1⟩ := pair_frozen hboxz4.out
          have Szn : ((z4.setCell ⟨z3.heap.size, 0, none⟩ (.slice rva zs.length rvc)).setCell ⟨z3.heap.size, 1, none⟩ (.slice roa Ls.length roc)).cell? ⟨w.heap.size, 0, none⟩ = some (.slice av nv cv) ∧ ((z4.setCell ⟨z3.heap.size, 0, none⟩ (.slice rva zs.length rvc)).setCell ⟨z3.heap.size, 1, none⟩ (.slice roa Ls.length roc)).cell? ⟨w.heap.size, 1, none⟩ = some (.slice ao no co) ∧ ((z4.setCell ⟨z3.heap.size, 0, none⟩ (.slice rva zs.length rvc)).setCell ⟨z3.heap.size, 1, none⟩ (.slice roa Ls.length roc)).cell? ⟨w.heap.size + 1, 0, none⟩ = some (.slice bv mv dv) ∧ ((z4.setCell ⟨z3.heap.size, 0, none⟩ (.slice rva zs.length rvc)).setCell ⟨z3.heap.size, 1, none⟩ (.slice roa Ls.length roc)).cell? ⟨w.heap.size + 1, 1, none⟩ = some (.slice bo mo eo) := ⟨(gn.cell (block_lt_of_cell HS2.1)).trans HS2.1, (gn.cell (block_lt_of_cell HS2.2.1)).trans HS2.2.1, (gn.cell (block_lt_of_cell HS2.2.2.1)).trans HS2.2.2.1, (gn.cell (block_lt_of_cell HS2.2.2.2)).trans HS2.2.2.2⟩
          refine wpAnyH_ready (rs := [9]) (by kernel_rfl) (by simp) ?_
          refine AllReadyH.cons (o := { dst := none, op := .store 29 (.tmp 15) (.tmp 100), type := 0, pos := "exact.go:2872", after := #[⟨8, .data⟩, ⟨6, .data⟩, ⟨4, .chain⟩, ⟨0, .phase⟩, ⟨1, .phase⟩, ⟨2, .phase⟩, ⟨3, .phase⟩, ⟨4, .phase⟩, ⟨5, .phase⟩, ⟨6, .phase⟩, ⟨7, .textOnly .lateStores⟩, ⟨8, .phase⟩], guard := none }) rfl (fun K hK => ?_) AllReadyH.nil
          go_simp
          refine hK.out _ _ Szn (fun hHeldB => ?_)
          clear hK K hHeldB d0 d1 f0 f1 Szn
          (try simp only [Act.put, List.setIfInBounds_toArray, List.set_cons_zero, List.set_cons_succ])
          generalize hzn : (z4.setCell ⟨z3.heap.size, 0, none⟩ (.slice rva zs.length rvc)).setCell ⟨z3.heap.size, 1, none⟩ (.slice roa Ls.length roc) = zn at HNn HSn HTn gn hnn ⊢
          have Szn : zn.cell? ⟨w.heap.size, 0, none⟩ = some (.slice av nv cv) ∧ zn.cell? ⟨w.heap.size, 1, none⟩ = some (.slice ao no co) ∧ zn.cell? ⟨w.heap.size + 1, 0, none⟩ = some (.slice bv mv dv) ∧ zn.cell? ⟨w.heap.size + 1, 1, none⟩ = some (.slice bo mo eo) := ⟨(gn.cell (block_lt_of_cell HS2.1)).trans HS2.1, (gn.cell (block_lt_of_cell HS2.2.1)).trans HS2.2.1, (gn.cell (block_lt_of_cell HS2.2.2.1)).trans HS2.2.2.1, (gn.cell (block_lt_of_cell HS2.2.2.2)).trans HS2.2.2.2⟩
          refine wpAnyH_take (i := 10) (oi := { dst := some 16, op := .assign (.tmp 101), type := 4, pos := "exact.go:2872", after := #[⟨7, .data⟩, ⟨9, .chain⟩, ⟨0, .phase⟩, ⟨1, .phase⟩, ⟨2, .phase⟩, ⟨3, .phase⟩, ⟨4, .phase⟩, ⟨5, .phase⟩, ⟨6, .phase⟩, ⟨7, .phase⟩, ⟨8, .phase⟩, ⟨9, .phase⟩], guard := none }) (v := ?_) rfl (by kernel_rfl) (by kernel_rfl) (by kernel_rfl) (fun _ _ _ h => h) (Or.inl ⟨by rfl, ?_⟩) (by assumption) ?_
          rotate_left
          · intro w hSw
            (try dsimp only at hSw)
            first | (go_simp; done) | (go_simp; with_reducible rfl)
          (try simp only [Act.put, List.setIfInBounds_toArray, List.set_cons_zero, List.set_cons_succ])
          refine wpAnyH_done (by kernel_rfl) ?_ _
          have hb := gn
          clear hzn Szn
          have hs18 := hb.size
          have HX18 := Lib.hid ((hb.block _ (Array.getElem?_eq_some_iff.1 HX17.out).1).trans HX17.out)
          have HR18 := Lib.hid ((hb.block _ (Array.getElem?_eq_some_iff.1 HR17.out).1).trans HR17.out)
          have HV18 := Lib.hid (HV17.out.below hb (by omega))
          have HO18 := Lib.hid (HO17.out.below hb (by omega))
          have HP18 := Lib.hid (HP17.out.below hb (by omega))
          have HQ18 := Lib.hid (HQ17.out.below hb (by omega))
          have HB18 := Lib.hid (HB17.out.trans (hb.mono (by omega)))
          have HN18 := Lib.hid ((hb.block _ (Array.getElem?_eq_some_iff.1 HN17.out).1).trans HN17.out)
          have HS18 := Lib.hid (HS17.out.below hb (by omega))
          have HT18 := Lib.hid (HT17.out.below hb (by omega))
          have HY18 := Lib.hid ((hb.block _ (Array.getElem?_eq_some_iff.1 HY17.out).1).trans HY17.out)
          have HZ18 := Lib.hid ((hb.block _ (Array.getElem?_eq_some_iff.1 HZ17.out).1).trans HZ17.out)
          have HD18 := Lib.hid ((hb.block _ (Array.getElem?_eq_some_iff.1 HD17.out).1).trans HD17.out)
          have HA18 := Lib.hid (HA17.out.below hb (by omega))
          have HC18 := Lib.hid (HC17.out.below hb (by omega))
          clear hb HX17 HR17 HV17 HO17 HP17 HQ17 HB17 HN17 HS17 HT17 HY17 HZ17 HD17 HA17 HC17
          obtain ⟨c0, c1⟩ := pair_cells HNn.out
          obtain ⟨e0, e1⟩ := pair_cells HN18.out
          go_wp2_with fail
          refine (eqCartV zn rva sva roa soa _ _ _ _ zs Ls HSn.out (HS18.out.more (by omega)) HTn.out (HT18.out.more (by omega)) (by omega) (by omega)).mono ?_
          rintro e w19 ⟨rfl, hb⟩
          clear c0 c1 e0 e1 HNn HSn HTn
          have hs19 := hb.size
          have HX19 := Lib.hid ((hb.block _ (Array.getElem?_eq_some_iff.1 HX18.out).1).trans HX18.out)
          have HR19 := Lib.hid ((hb.block _ (Array.getElem?_eq_some_iff.1 HR18.out).1).trans HR18.out)
          have HV19 := Lib.hid (HV18.out.below hb (by omega))
          have HO19 := Lib.hid (HO18.out.below hb (by omega))
          have HP19 := Lib.hid (HP18.out.below hb (by omega))
          have HQ19 := Lib.hid (HQ18.out.below hb (by omega))
          have HB19 := Lib.hid (HB18.out.trans (hb.mono (by omega)))
          have HN19 := Lib.hid ((hb.block _ (Array.getElem?_eq_some_iff.1 HN18.out).1).trans HN18.out)
          have HS19 := Lib.hid (HS18.out.below hb (by omega))
          have HT19 := Lib.hid (HT18.out.below hb (by omega))
          have HY19 := Lib.hid ((hb.block _ (Array.getElem?_eq_some_iff.1 HY18.out).1).trans HY18.out)
          have HZ19 := Lib.hid ((hb.block _ (Array.getElem?_eq_some_iff.1 HZ18.out).1).trans HZ18.out)
          have HD19 := Lib.hid ((hb.block _ (Array.getElem?_eq_some_iff.1 HD18.out).1).trans HD18.out)
          have HA19 := Lib.hid (HA18.out.below hb (by omega))
          have HC19 := Lib.hid (HC18.out.below hb (by omega))
          clear hb HX18 HR18 HV18 HO18 HP18 HQ18 HB18 HN18 HS18 HT18 HY18 HZ18 HD18 HA18 HC18
          obtain ⟨c0, c1⟩ := pair_cells HD19.out
          go_wp2_with fail
          refine (heldCart w19 n8 gva goa _ _ _ _ 1 (HA19.out.ints.more (by omega)) HC19.out.ops (by omega) (by omega) (by omega) (by omega) (by omega)).mono ?_
          rintro e w20 ⟨rfl, hb⟩
          rw [HK3.out]
          clear c0 c1
          have hs20 := hb.size
          have HX20 := Lib.hid ((hb.block _ (Array.getElem?_eq_some_iff.1 HX19.out).1).trans HX19.out)
          have HR20 := Lib.hid ((hb.block _ (Array.getElem?_eq_some_iff.1 HR19.out).1).trans HR19.out)
          have HV20 := Lib.hid (HV19.out.below hb (by omega))
          have HO20 := Lib.hid (HO19.out.below hb (by omega))
          have HP20 := Lib.hid (HP19.out.below hb (by omega))
          have HQ20 := Lib.hid (HQ19.out.below hb (by omega))
          have HB20 := Lib.hid (HB19.out.trans (hb.mono (by omega)))
          have HN20 := Lib.hid ((hb.block _ (Array.getElem?_eq_some_iff.1 HN19.out).1).trans HN19.out)
          have HS20 := Lib.hid (HS19.out.below hb (by omega))
          have HT20 := Lib.hid (HT19.out.below hb (by omega))
          have HY20 := Lib.hid ((hb.block _ (Array.getElem?_eq_some_iff.1 HY19.out).1).trans HY19.out)
          have HZ20 := Lib.hid ((hb.block _ (Array.getElem?_eq_some_iff.1 HZ19.out).1).trans HZ19.out)
          have HD20 := Lib.hid ((hb.block _ (Array.getElem?_eq_some_iff.1 HD19.out).1).trans HD19.out)
          have HA20 := Lib.hid (HA19.out.below hb (by omega))
          have HC20 := Lib.hid (HC19.out.below hb (by omega))
          clear hb HX19 HR19 HV19 HO19 HP19 HQ19 HB19 HN19 HS19 HT19 HY19 HZ19 HD19 HA19 HC19
          go_wp2
          go_ret
          exact ⟨rfl, HB20.out⟩
        · skip
          have talloc : Below z2.heap.size z2 (z2.alloc (.cells #[.slice none 0 0, .slice none 0 0] 29)) := (Below.refl _ _).alloc (Nat.le_refl _) _
          have hboxn := Lib.hid (boxAt (Below.refl _ (z2.alloc (.cells #[.slice none 0 0, .slice none 0 0] 29))))
          have hxsn : z2.heap.size < (z2.alloc (.cells #[.slice none 0 0, .slice none 0 0] 29)).heap.size := by show _ < (z2.heap.push _).size; simp
          have galloc : Below w17.heap.size w17 (z2.alloc (.cells #[.slice none 0 0, .slice none 0 0] 29)) := g2.trans (talloc.mono g2.size)
          have Salloc : (z2.alloc (.cells #[.slice none 0 0, .slice none 0 0] 29)).cell? ⟨w.heap.size, 0, none⟩ = some (.slice av nv cv) ∧ (z2.alloc (.cells #[.slice none 0 0, .slice none 0 0] 29)).cell? ⟨w.heap.size, 1, none⟩ = some (.slice ao no co) ∧ (z2.alloc (.cells #[.slice none 0 0, .slice none 0 0] 29)).cell? ⟨w.heap.size + 1, 0, none⟩ = some (.slice bv mv dv) ∧ (z2.alloc (.cells #[.slice none 0 0, .slice none 0 0] 29)).cell? ⟨w.heap.size + 1, 1, none⟩ = some (.slice bo mo eo) := ⟨(galloc.cell (block_lt_of_cell HS2.1)).trans HS2.1, (galloc.cell (block_lt_of_cell HS2.2.1)).trans HS2.2.1, (galloc.cell (block_lt_of_cell HS2.2.2.1)).trans HS2.2.2.1, (galloc.cell (block_lt_of_cell HS2.2.2.2)).trans HS2.2.2.2⟩
          go_simp
          refine hK.out _ _ Salloc (fun hHeldA => ?_)
          clear hK K hHeldA Salloc galloc
          (try simp only [Act.put, List.setIfInBounds_toArray, List.set_cons_zero, List.set_cons_succ])
          generalize z2.alloc (.cells #[.slice none 0 0, .slice none 0 0] 29) = z5 at talloc hboxn hxsn ⊢
          have tz5 := talloc
          have hboxz5 := hboxn
          have hxsz5 := hxsn
          clear talloc hboxn hxsn
          have g5 : Below w17.heap.size w17 z5 := g2.trans (tz5.mono g2.size)
          have Sz5 : z5.cell? ⟨w.heap.size, 0, none⟩ = some (.slice av nv cv) ∧ z5.cell? ⟨w.heap.size, 1, none⟩ = some (.slice ao no co) ∧ z5.cell? ⟨w.heap.size + 1, 0, none⟩ = some (.slice bv mv dv) ∧ z5.cell? ⟨w.heap.size + 1, 1, none⟩ = some (.slice bo mo eo) := ⟨(g5.cell (block_lt_of_cell HS2.1)).trans HS2.1, (g5.cell (block_lt_of_cell HS2.2.1)).trans HS2.2.1, (g5.cell (block_lt_of_cell HS2.2.2.1)).trans HS2.2.2.1, (g5.cell (block_lt_of_cell HS2.2.2.2)).trans HS2.2.2.2⟩
          have az5 : Below z1.heap.size z1 z5 := az2.trans (tz5.mono az2.size)
          have bz5 : Below z2.heap.size z2 z5 := tz5
          refine wpAnyH_ready (rs := [4]) (by kernel_rfl) (by simp) ?_
          refine AllReadyH.cons (o := { dst := some 99, op := .call { callee := .value (.func 10), args := #[.tmp 96, .tmp 98], argTypes := #[29, 29] }, type := 30, pos := "exact.go:2872", after := #[⟨1, .data⟩, ⟨3, .data⟩, ⟨3, .chain⟩], guard := none }) rfl (fun K hK => ?_) AllReadyH.nil
          go_simp
          go_at_call 10
          have hsp := implTaken z5 z5.heap.size va oa vb ob xs.length xs.length l.length l.length ys.length ys.length m.length m.length xs l ys m (hi.below az5 (Nat.le_refl _) |>.more az5.size) (ho.below az5 (Nat.le_refl _) |>.more az5.size) (hi2.below bz5 (Nat.le_refl _) |>.more bz5.size) (ho2.below bz5 (Nat.le_refl _) |>.more bz5.size) (Nat.le_refl _) hxl (Nat.le_refl _) (fits (Nat.le_refl _) hlo) HIt.out hyl (Nat.le_refl _) (fits (Nat.le_refl _) hlm) HIt2.out
          rw [HR.out, HZsM.out, HLsM.out] at hsp
          refine hsp.mono ?_
          rintro e z6 ⟨rva, rvc, roa, roc, smid, rfl, hiR, hoR, hm1R, hm2R, tz6⟩
          have g6 : Below w17.heap.size w17 z6 := g5.trans (tz6.mono g5.size)
          have Sz6 : z6.cell? ⟨w.heap.size, 0, none⟩ = some (.slice av nv cv) ∧ z6.cell? ⟨w.heap.size, 1, none⟩ = some (.slice ao no co) ∧ z6.cell? ⟨w.heap.size + 1, 0, none⟩ = some (.slice bv mv dv) ∧ z6.cell? ⟨w.heap.size + 1, 1, none⟩ = some (.slice bo mo eo) := ⟨(g6.cell (block_lt_of_cell HS2.1)).trans HS2.1, (g6.cell (block_lt_of_cell HS2.2.1)).trans HS2.2.1, (g6.cell (block_lt_of_cell HS2.2.2.1)).trans HS2.2.2.1, (g6.cell (block_lt_of_cell HS2.2.2.2)).trans HS2.2.2.2⟩
          have az6 : Below z1.heap.size z1 z6 := az5.trans (tz6.mono az5.size)
          have bz6 : Below z2.heap.size z2 z6 := bz5.trans (tz6.mono bz5.size)
          have hboxz6 : Hid (z6.heap[z2.heap.size]? = some (.cells #[.slice none 0 0, .slice none 0 0] 29 (0, 0))) := Lib.hid ((tz6.block _ (Array.getElem?_eq_some_iff.1 hboxz5.out).1).trans hboxz5.out)
          have hxsz6 : z2.heap.size < z6.heap.size := Nat.lt_of_lt_of_le hxsz5 tz6.size
          refine hK.out _ _ Sz6 (fun hHeld4 => ?_)
          clear hK K hHeld4
          (try simp only [Act.put, List.setIfInBounds_toArray, List.set_cons_zero, List.set_cons_succ])
          refine wpAnyH_take (i := 5) (oi := { dst := some 94, op := .move (.tmp 99), type := 30, pos := "exact.go:2872", after := #[⟨4, .data⟩], guard := none }) (v := ?_) rfl (by kernel_rfl) (by kernel_rfl) (by kernel_rfl) (fun _ _ _ h => h) (Or.inl ⟨by rfl, ?_⟩) (by assumption) ?_
          rotate_left
          · intro w hSw
            (try dsimp only at hSw)
            first | (go_simp; done) | (go_simp; with_reducible rfl)
          (try simp only [Act.put, List.setIfInBounds_toArray, List.set_cons_zero, List.set_cons_succ])
          refine wpAnyH_take (i := 6) (oi := { dst := some 100, op := .extract (.tmp 94) 0, type := 29, pos := "exact.go:2872", after := #[⟨5, .data⟩], guard := none }) (v := ?_) rfl (by kernel_rfl) (by kernel_rfl) (by kernel_rfl) (fun _ _ _ h => h) (Or.inl ⟨by rfl, ?_⟩) (by assumption) ?_
          rotate_left
          · intro w hSw
            (try dsimp only at hSw)
            first | (go_simp; done) | (go_simp; with_reducible rfl)
          (try simp only [Act.put, List.setIfInBounds_toArray, List.set_cons_zero, List.set_cons_succ])
          refine wpAnyH_take (i := 7) (oi := { dst := some 101, op := .extract (.tmp 94) 1, type := 4, pos := "exact.go:2872", after := #[⟨5, .data⟩, { on := 9, ground := Ground.gcOnly Departure.lateStores }], guard := none }) (v := ?_) rfl (by kernel_rfl) (by kernel_rfl) (by kernel_rfl) (fun _ _ _ h => h) (Or.inl ⟨by rfl, ?_⟩) (by assumption) ?_
          rotate_left
          · intro w hSw
            (try dsimp only at hSw)
            first | (go_simp; done) | (go_simp; with_reducible rfl)
          (try simp only [Act.put, List.setIfInBounds_toArray, List.set_cons_zero, List.set_cons_succ])
          have q1 := g2.size
          have q2 := hm1R
          have q3 := hm2R
          have hne : z2.heap.size < z5.heap.size := hxsz5
          obtain ⟨HNn, HSn, HTn, gn, hnn⟩ := drawnStore (.slice rva zs.length rvc) (.slice roa Ls.length roc) g6 hboxz6.out q1 (.inl hne) (.inl (Nat.lt_of_lt_of_le hne hm1R)) (by first | exact Nat.le_refl _ | omega) (by first | exact Nat.le_refl _ | omega) hiR hoR
          obtain ⟨d0, d1⟩ := pair_cells hboxz6.out
          obtain ⟨f0, f1⟩ := pair_frozen hboxz6.out
          have Szn : ((z6.setCell ⟨z2.heap.size, 0, none⟩ (.slice rva zs.length rvc)).setCell ⟨z2.heap.size, 1, none⟩ (.slice roa Ls.length roc)).cell? ⟨w.heap.size, 0, none⟩ = some (.slice av nv cv) ∧ ((z6.setCell ⟨z2.heap.size, 0, none⟩ (.slice rva zs.length rvc)).setCell ⟨z2.heap.size, 1, none⟩ (.slice roa Ls.length roc)).cell? ⟨w.heap.size, 1, none⟩ = some (.slice ao no co) ∧ ((z6.setCell ⟨z2.heap.size, 0, none⟩ (.slice rva zs.length rvc)).setCell ⟨z2.heap.size, 1, none⟩ (.slice roa Ls.length roc)).cell? ⟨w.heap.size + 1, 0, none⟩ = some (.slice bv mv dv) ∧ ((z6.setCell ⟨z2.heap.size, 0, none⟩ (.slice rva zs.length rvc)).setCell ⟨z2.heap.size, 1, none⟩ (.slice roa Ls.length roc)).cell? ⟨w.heap.size + 1, 1, none⟩ = some (.slice bo mo eo) := ⟨(gn.cell (block_lt_of_cell HS2.1)).trans HS2.1, (gn.cell (block_lt_of_cell HS2.2.1)).trans HS2.2.1, (gn.cell (block_lt_of_cell HS2.2.2.1)).trans HS2.2.2.1, (gn.cell (block_lt_of_cell HS2.2.2.2)).trans HS2.2.2.2⟩
          refine wpAnyH_ready (rs := [9]) (by kernel_rfl) (by simp) ?_
          refine AllReadyH.cons (o := { dst := none, op := .store 29 (.tmp 15) (.tmp 100), type := 0, pos := "exact.go:2872", after := #[⟨8, .data⟩, ⟨6, .data⟩, ⟨4, .chain⟩, ⟨0, .phase⟩, ⟨1, .phase⟩, ⟨2, .phase⟩, ⟨3, .phase⟩, ⟨4, .phase⟩, ⟨5, .phase⟩, ⟨6, .phase⟩, ⟨7, .textOnly .lateStores⟩, ⟨8, .phase⟩], guard := none }) rfl (fun K hK => ?_) AllReadyH.nil
          go_simp
          refine hK.out _ _ Szn (fun hHeldB => ?_)
          clear hK K hHeldB d0 d1 f0 f1 Szn
          (try simp only [Act.put, List.setIfInBounds_toArray, List.set_cons_zero, List.set_cons_succ])
          generalize hzn : (z6.setCell ⟨z2.heap.size, 0, none⟩ (.slice rva zs.length rvc)).setCell ⟨z2.heap.size, 1, none⟩ (.slice roa Ls.length roc) = zn at HNn HSn HTn gn hnn ⊢
          have Szn : zn.cell? ⟨w.heap.size, 0, none⟩ = some (.slice av nv cv) ∧ zn.cell? ⟨w.heap.size, 1, none⟩ = some (.slice ao no co) ∧ zn.cell? ⟨w.heap.size + 1, 0, none⟩ = some (.slice bv mv dv) ∧ zn.cell? ⟨w.heap.size + 1, 1, none⟩ = some (.slice bo mo eo) := ⟨(gn.cell (block_lt_of_cell HS2.1)).trans HS2.1, (gn.cell (block_lt_of_cell HS2.2.1)).trans HS2.2.1, (gn.cell (block_lt_of_cell HS2.2.2.1)).trans HS2.2.2.1, (gn.cell (block_lt_of_cell HS2.2.2.2)).trans HS2.2.2.2⟩
          refine wpAnyH_take (i := 10) (oi := { dst := some 16, op := .assign (.tmp 101), type := 4, pos := "exact.go:2872", after := #[⟨7, .data⟩, ⟨9, .chain⟩, ⟨0, .phase⟩, ⟨1, .phase⟩, ⟨2, .phase⟩, ⟨3, .phase⟩, ⟨4, .phase⟩, ⟨5, .phase⟩, ⟨6, .phase⟩, ⟨7, .phase⟩, ⟨8, .phase⟩, ⟨9, .phase⟩], guard := none }) (v := ?_) rfl (by kernel_rfl) (by kernel_rfl) (by kernel_rfl) (fun _ _ _ h => h) (Or.inl ⟨by rfl, ?_⟩) (by assumption) ?_
          rotate_left
          · intro w hSw
            (try dsimp only at hSw)
            first | (go_simp; done) | (go_simp; with_reducible rfl)
          (try simp only [Act.put, List.setIfInBounds_toArray, List.set_cons_zero, List.set_cons_succ])
          refine wpAnyH_done (by kernel_rfl) ?_ _
          have hb := gn
          clear hzn Szn
          have hs18 := hb.size
          have HX18 := Lib.hid ((hb.block _ (Array.getElem?_eq_some_iff.1 HX17.out).1).trans HX17.out)
          have HR18 := Lib.hid ((hb.block _ (Array.getElem?_eq_some_iff.1 HR17.out).1).trans HR17.out)
          have HV18 := Lib.hid (HV17.out.below hb (by omega))
          have HO18 := Lib.hid (HO17.out.below hb (by omega))
          have HP18 := Lib.hid (HP17.out.below hb (by omega))
          have HQ18 := Lib.hid (HQ17.out.below hb (by omega))
          have HB18 := Lib.hid (HB17.out.trans (hb.mono (by omega)))
          have HN18 := Lib.hid ((hb.block _ (Array.getElem?_eq_some_iff.1 HN17.out).1).trans HN17.out)
          have HS18 := Lib.hid (HS17.out.below hb (by omega))
          have HT18 := Lib.hid (HT17.out.below hb (by omega))
          have HY18 := Lib.hid ((hb.block _ (Array.getElem?_eq_some_iff.1 HY17.out).1).trans HY17.out)
          have HZ18 := Lib.hid ((hb.block _ (Array.getElem?_eq_some_iff.1 HZ17.out).1).trans HZ17.out)
          have HD18 := Lib.hid ((hb.block _ (Array.getElem?_eq_some_iff.1 HD17.out).1).trans HD17.out)
          have HA18 := Lib.hid (HA17.out.below hb (by omega))
          have HC18 := Lib.hid (HC17.out.below hb (by omega))
          clear hb HX17 HR17 HV17 HO17 HP17 HQ17 HB17 HN17 HS17 HT17 HY17 HZ17 HD17 HA17 HC17
          obtain ⟨c0, c1⟩ := pair_cells HNn.out
          obtain ⟨e0, e1⟩ := pair_cells HN18.out
          go_wp2_with fail
          refine (eqCartV zn rva sva roa soa _ _ _ _ zs Ls HSn.out (HS18.out.more (by omega)) HTn.out (HT18.out.more (by omega)) (by omega) (by omega)).mono ?_
          rintro e w19 ⟨rfl, hb⟩
          clear c0 c1 e0 e1 HNn HSn HTn
          have hs19 := hb.size
          have HX19 := Lib.hid ((hb.block _ (Array.getElem?_eq_some_iff.1 HX18.out).1).trans HX18.out)
          have HR19 := Lib.hid ((hb.block _ (Array.getElem?_eq_some_iff.1 HR18.out).1).trans HR18.out)
          have HV19 := Lib.hid (HV18.out.below hb (by omega))
          have HO19 := Lib.hid (HO18.out.below hb (by omega))
          have HP19 := Lib.hid (HP18.out.below hb (by omega))
          have HQ19 := Lib.hid (HQ18.out.below hb (by omega))
          have HB19 := Lib.hid (HB18.out.trans (hb.mono (by omega)))
          have HN19 := Lib.hid ((hb.block _ (Array.getElem?_eq_some_iff.1 HN18.out).1).trans HN18.out)
          have HS19 := Lib.hid (HS18.out.below hb (by omega))
          have HT19 := Lib.hid (HT18.out.below hb (by omega))
          have HY19 := Lib.hid ((hb.block _ (Array.getElem?_eq_some_iff.1 HY18.out).1).trans HY18.out)
          have HZ19 := Lib.hid ((hb.block _ (Array.getElem?_eq_some_iff.1 HZ18.out).1).trans HZ18.out)
          have HD19 := Lib.hid ((hb.block _ (Array.getElem?_eq_some_iff.1 HD18.out).1).trans HD18.out)
          have HA19 := Lib.hid (HA18.out.below hb (by omega))
          have HC19 := Lib.hid (HC18.out.below hb (by omega))
          clear hb HX18 HR18 HV18 HO18 HP18 HQ18 HB18 HN18 HS18 HT18 HY18 HZ18 HD18 HA18 HC18
          obtain ⟨c0, c1⟩ := pair_cells HD19.out
          go_wp2_with fail
          refine (heldCart w19 n8 gva goa _ _ _ _ 1 (HA19.out.ints.more (by omega)) HC19.out.ops (by omega) (by omega) (by omega) (by omega) (by omega)).mono ?_
          rintro e w20 ⟨rfl, hb⟩
          rw [HK3.out]
          clear c0 c1
          have hs20 := hb.size
          have HX20 := Lib.hid ((hb.block _ (Array.getElem?_eq_some_iff.1 HX19.out).1).trans HX19.out)
          have HR20 := Lib.hid ((hb.block _ (Array.getElem?_eq_some_iff.1 HR19.out).1).trans HR19.out)
          have HV20 := Lib.hid (HV19.out.below hb (by omega))
          have HO20 := Lib.hid (HO19.out.below hb (by omega))
          have HP20 := Lib.hid (HP19.out.below hb (by omega))
          have HQ20 := Lib.hid (HQ19.out.below hb (by omega))
          have HB20 := Lib.hid (HB19.out.trans (hb.mono (by omega)))
          have HN20 := Lib.hid ((hb.block _ (Array.getElem?_eq_some_iff.1 HN19.out).1).trans HN19.out)
          have HS20 := Lib.hid (HS19.out.below hb (by omega))
          have HT20 := Lib.hid (HT19.out.below hb (by omega))
          have HY20 := Lib.hid ((hb.block _ (Array.getElem?_eq_some_iff.1 HY19.out).1).trans HY19.out)
          have HZ20 := Lib.hid ((hb.block _ (Array.getElem?_eq_some_iff.1 HZ19.out).1).trans HZ19.out)
          have HD20 := Lib.hid ((hb.block _ (Array.getElem?_eq_some_iff.1 HD19.out).1).trans HD19.out)
          have HA20 := Lib.hid (HA19.out.below hb (by omega))
          have HC20 := Lib.hid (HC19.out.below hb (by omega))
          clear hb HX19 HR19 HV19 HO19 HP19 HQ19 HB19 HN19 HS19 HT19 HY19 HZ19 HD19 HA19 HC19
          go_wp2
          go_ret
          exact ⟨rfl, HB20.out⟩
      · skip
        have talloc : Below z1.heap.size z1 (z1.alloc (.cells #[.slice none 0 0, .slice none 0 0] 29)) := (Below.refl _ _).alloc (Nat.le_refl _) _
        have hboxn := Lib.hid (boxAt (Below.refl _ (z1.alloc (.cells #[.slice none 0 0, .slice none 0 0] 29))))
        have hxsn : z1.heap.size < (z1.alloc (.cells #[.slice none 0 0, .slice none 0 0] 29)).heap.size := by show _ < (z1.heap.push _).size; simp
        have galloc : Below w17.heap.size w17 (z1.alloc (.cells #[.slice none 0 0, .slice none 0 0] 29)) := g1.trans (talloc.mono g1.size)
        have Salloc : (z1.alloc (.cells #[.slice none 0 0, .slice none 0 0] 29)).cell? ⟨w.heap.size, 0, none⟩ = some (.slice av nv cv) ∧ (z1.alloc (.cells #[.slice none 0 0, .slice none 0 0] 29)).cell? ⟨w.heap.size, 1, none⟩ = some (.slice ao no co) ∧ (z1.alloc (.cells #[.slice none 0 0, .slice none 0 0] 29)).cell? ⟨w.heap.size + 1, 0, none⟩ = some (.slice bv mv dv) ∧ (z1.alloc (.cells #[.slice none 0 0, .slice none 0 0] 29)).cell? ⟨w.heap.size + 1, 1, none⟩ = some (.slice bo mo eo) := ⟨(galloc.cell (block_lt_of_cell HS2.1)).trans HS2.1, (galloc.cell (block_lt_of_cell HS2.2.1)).trans HS2.2.1, (galloc.cell (block_lt_of_cell HS2.2.2.1)).trans HS2.2.2.1, (galloc.cell (block_lt_of_cell HS2.2.2.2)).trans HS2.2.2.2⟩
        go_simp
        refine hK.out _ _ Salloc (fun hHeldA => ?_)
        clear hK K hHeldA Salloc galloc
        (try simp only [Act.put, List.setIfInBounds_toArray, List.set_cons_zero, List.set_cons_succ])
        generalize z1.alloc (.cells #[.slice none 0 0, .slice none 0 0] 29) = z7 at talloc hboxn hxsn ⊢
        have tz7 := talloc
        have hboxz7 := hboxn
        have hxsz7 := hxsn
        clear talloc hboxn hxsn
        have g7 : Below w17.heap.size w17 z7 := g1.trans (tz7.mono g1.size)
        have Sz7 : z7.cell? ⟨w.heap.size, 0, none⟩ = some (.slice av nv cv) ∧ z7.cell? ⟨w.heap.size, 1, none⟩ = some (.slice ao no co) ∧ z7.cell? ⟨w.heap.size + 1, 0, none⟩ = some (.slice bv mv dv) ∧ z7.cell? ⟨w.heap.size + 1, 1, none⟩ = some (.slice bo mo eo) := ⟨(g7.cell (block_lt_of_cell HS2.1)).trans HS2.1, (g7.cell (block_lt_of_cell HS2.2.1)).trans HS2.2.1, (g7.cell (block_lt_of_cell HS2.2.2.1)).trans HS2.2.2.1, (g7.cell (block_lt_of_cell HS2.2.2.2)).trans HS2.2.2.2⟩
        have az7 : Below z1.heap.size z1 z7 := tz7
        refine wpAnyH_ready (rs := [3]) (by kernel_rfl) (by simp) ?_
        refine AllReadyH.cons (o := { dst := some 98, op := .call { callee := .value (.func 9), args := #[.tmp 97], argTypes := #[25] }, type := 29, pos := "exact.go:2872", after := #[⟨2, .data⟩, ⟨1, .chain⟩], guard := none }) rfl (fun K hK => ?_) AllReadyH.nil
        go_simp
        go_at_call 9
        refine (toCart z7 w.heap.size bv bo mv dv mo eo ys m (HP17.out.below g7 (by omega)) (HQ17.out.below g7 (by omega)) (by have := g7.size; omega) hmv hmo).mono ?_
        rintro e z8 ⟨vb, ob, rfl, hi2, ho2, tz8⟩
        have g8 : Below w17.heap.size w17 z8 := g7.trans (tz8.mono g7.size)
        have Sz8 : z8.cell? ⟨w.heap.size, 0, none⟩ = some (.slice av nv cv) ∧ z8.cell? ⟨w.heap.size, 1, none⟩ = some (.slice ao no co) ∧ z8.cell? ⟨w.heap.size + 1, 0, none⟩ = some (.slice bv mv dv) ∧ z8.cell? ⟨w.heap.size + 1, 1, none⟩ = some (.slice bo mo eo) := ⟨(g8.cell (block_lt_of_cell HS2.1)).trans HS2.1, (g8.cell (block_lt_of_cell HS2.2.1)).trans HS2.2.1, (g8.cell (block_lt_of_cell HS2.2.2.1)).trans HS2.2.2.1, (g8.cell (block_lt_of_cell HS2.2.2.2)).trans HS2.2.2.2⟩
        have az8 : Below z1.heap.size z1 z8 := az7.trans (tz8.mono az7.size)
        have hboxz8 : Hid (z8.heap[z1.heap.size]? = some (.cells #[.slice none 0 0, .slice none 0 0] 29 (0, 0))) := Lib.hid ((tz8.block _ (Array.getElem?_eq_some_iff.1 hboxz7.out).1).trans hboxz7.out)
        have hxsz8 : z1.heap.size < z8.heap.size := Nat.lt_of_lt_of_le hxsz7 tz8.size
        refine hK.out _ _ Sz8 (fun hHeld3 => ?_)
        clear hK K hHeld3
        (try simp only [Act.put, List.setIfInBounds_toArray, List.set_cons_zero, List.set_cons_succ])
        refine wpAnyH_ready (rs := [4]) (by kernel_rfl) (by simp) ?_
        refine AllReadyH.cons (o := { dst := some 99, op := .call { callee := .value (.func 10), args := #[.tmp 96, .tmp 98], argTypes := #[29, 29] }, type := 30, pos := "exact.go:2872", after := #[⟨1, .data⟩, ⟨3, .data⟩, ⟨3, .chain⟩], guard := none }) rfl (fun K hK => ?_) AllReadyH.nil
        go_simp
        go_at_call 10
        have hsp := implTaken z8 z8.heap.size va oa vb ob xs.length xs.length l.length l.length ys.length ys.length m.length m.length xs l ys m (hi.below az8 (Nat.le_refl _) |>.more az8.size) (ho.below az8 (Nat.le_refl _) |>.more az8.size) hi2 ho2 (Nat.le_refl _) hxl (Nat.le_refl _) (fits (Nat.le_refl _) hlo) HIt.out hyl (Nat.le_refl _) (fits (Nat.le_refl _) hlm) HIt2.out
        rw [HR.out, HZsM.out, HLsM.out] at hsp
        refine hsp.mono ?_
        rintro e z9 ⟨rva, rvc, roa, roc, smid, rfl, hiR, hoR, hm1R, hm2R, tz9⟩
        have g9 : Below w17.heap.size w17 z9 := g8.trans (tz9.mono g8.size)
        have Sz9 : z9.cell? ⟨w.heap.size, 0, none⟩ = some (.slice av nv cv) ∧ z9.cell? ⟨w.heap.size, 1, none⟩ = some (.slice ao no co) ∧ z9.cell? ⟨w.heap.size + 1, 0, none⟩ = some (.slice bv mv dv) ∧ z9.cell? ⟨w.heap.size + 1, 1, none⟩ = some (.slice bo mo eo) := ⟨(g9.cell (block_lt_of_cell HS2.1)).trans HS2.1, (g9.cell (block_lt_of_cell HS2.2.1)).trans HS2.2.1, (g9.cell (block_lt_of_cell HS2.2.2.1)).trans HS2.2.2.1, (g9.cell (block_lt_of_cell HS2.2.2.2)).trans HS2.2.2.2⟩
        have az9 : Below z1.heap.size z1 z9 := az8.trans (tz9.mono az8.size)
        have bz9 : Below z8.heap.size z8 z9 := tz9
        have hboxz9 : Hid (z9.heap[z1.heap.size]? = some (.cells #[.slice none 0 0, .slice none 0 0] 29 (0, 0))) := Lib.hid ((tz9.block _ (Array.getElem?_eq_some_iff.1 hboxz8.out).1).trans hboxz8.out)
        have hxsz9 : z1.heap.size < z9.heap.size := Nat.lt_of_lt_of_le hxsz8 tz9.size
        refine hK.out _ _ Sz9 (fun hHeld4 => ?_)
        clear hK K hHeld4
        (try simp only [Act.put, List.setIfInBounds_toArray, List.set_cons_zero, List.set_cons_succ])
        refine wpAnyH_take (i := 5) (oi := { dst := some 94, op := .move (.tmp 99), type := 30, pos := "exact.go:2872", after := #[⟨4, .data⟩], guard := none }) (v := ?_) rfl (by kernel_rfl) (by kernel_rfl) (by kernel_rfl) (fun _ _ _ h => h) (Or.inl ⟨by rfl, ?_⟩) (by assumption) ?_
        rotate_left
        · intro w hSw
          (try dsimp only at hSw)
          first | (go_simp; done) | (go_simp; with_reducible rfl)
        (try simp only [Act.put, List.setIfInBounds_toArray, List.set_cons_zero, List.set_cons_succ])
        refine wpAnyH_take (i := 6) (oi := { dst := some 100, op := .extract (.tmp 94) 0, type := 29, pos := "exact.go:2872", after := #[⟨5, .data⟩], guard := none }) (v := ?_) rfl (by kernel_rfl) (by kernel_rfl) (by kernel_rfl) (fun _ _ _ h => h) (Or.inl ⟨by rfl, ?_⟩) (by assumption) ?_
        rotate_left
        · intro w hSw
          (try dsimp only at hSw)
          first | (go_simp; done) | (go_simp; with_reducible rfl)
        (try simp only [Act.put, List.setIfInBounds_toArray, List.set_cons_zero, List.set_cons_succ])
        refine wpAnyH_take (i := 7) (oi := { dst := some 101, op := .extract (.tmp 94) 1, type := 4, pos := "exact.go:2872", after := #[⟨5, .data⟩, { on := 9, ground := Ground.gcOnly Departure.lateStores }], guard := none }) (v := ?_) rfl (by kernel_rfl) (by kernel_rfl) (by kernel_rfl) (fun _ _ _ h => h) (Or.inl ⟨by rfl, ?_⟩) (by assumption) ?_
        rotate_left
        · intro w hSw
          (try dsimp only at hSw)
          first | (go_simp; done) | (go_simp; with_reducible rfl)
        (try simp only [Act.put, List.setIfInBounds_toArray, List.set_cons_zero, List.set_cons_succ])
        have q1 := g1.size
        have q2 := hm1R
        have q3 := hm2R
        have hne : z1.heap.size < z8.heap.size := hxsz8
        obtain ⟨HNn, HSn, HTn, gn, hnn⟩ := drawnStore (.slice rva zs.length rvc) (.slice roa Ls.length roc) g9 hboxz9.out q1 (.inl hne) (.inl (Nat.lt_of_lt_of_le hne hm1R)) (by first | exact Nat.le_refl _ | omega) (by first | exact Nat.le_refl _ | omega) hiR hoR
        obtain ⟨d0, d1⟩ := pair_cells hboxz9.out
        obtain ⟨f0, f1⟩ := pair_frozen hboxz9.out
        have Szn : ((z9.setCell ⟨z1.heap.size, 0, none⟩ (.slice rva zs.length rvc)).setCell ⟨z1.heap.size, 1, none⟩ (.slice roa Ls.length roc)).cell? ⟨w.heap.size, 0, none⟩ = some (.slice av nv cv) ∧ ((z9.setCell ⟨z1.heap.size, 0, none⟩ (.slice rva zs.length rvc)).setCell ⟨z1.heap.size, 1, none⟩ (.slice roa Ls.length roc)).cell? ⟨w.heap.size, 1, none⟩ = some (.slice ao no co) ∧ ((z9.setCell ⟨z1.heap.size, 0, none⟩ (.slice rva zs.length rvc)).setCell ⟨z1.heap.size, 1, none⟩ (.slice roa Ls.length roc)).cell? ⟨w.heap.size + 1, 0, none⟩ = some (.slice bv mv dv) ∧ ((z9.setCell ⟨z1.heap.size, 0, none⟩ (.slice rva zs.length rvc)).setCell ⟨z1.heap.size, 1, none⟩ (.slice roa Ls.length roc)).cell? ⟨w.heap.size + 1, 1, none⟩ = some (.slice bo mo eo) := ⟨(gn.cell (block_lt_of_cell HS2.1)).trans HS2.1, (gn.cell (block_lt_of_cell HS2.2.1)).trans HS2.2.1, (gn.cell (block_lt_of_cell HS2.2.2.1)).trans HS2.2.2.1, (gn.cell (block_lt_of_cell HS2.2.2.2)).trans HS2.2.2.2⟩
        refine wpAnyH_ready (rs := [9]) (by kernel_rfl) (by simp) ?_
        refine AllReadyH.cons (o := { dst := none, op := .store 29 (.tmp 15) (.tmp 100), type := 0, pos := "exact.go:2872", after := #[⟨8, .data⟩, ⟨6, .data⟩, ⟨4, .chain⟩, ⟨0, .phase⟩, ⟨1, .phase⟩, ⟨2, .phase⟩, ⟨3, .phase⟩, ⟨4, .phase⟩, ⟨5, .phase⟩, ⟨6, .phase⟩, ⟨7, .textOnly .lateStores⟩, ⟨8, .phase⟩], guard := none }) rfl (fun K hK => ?_) AllReadyH.nil
        go_simp
        refine hK.out _ _ Szn (fun hHeldB => ?_)
        clear hK K hHeldB d0 d1 f0 f1 Szn
        (try simp only [Act.put, List.setIfInBounds_toArray, List.set_cons_zero, List.set_cons_succ])
        generalize hzn : (z9.setCell ⟨z1.heap.size, 0, none⟩ (.slice rva zs.length rvc)).setCell ⟨z1.heap.size, 1, none⟩ (.slice roa Ls.length roc) = zn at HNn HSn HTn gn hnn ⊢
        have Szn : zn.cell? ⟨w.heap.size, 0, none⟩ = some (.slice av nv cv) ∧ zn.cell? ⟨w.heap.size, 1, none⟩ = some (.slice ao no co) ∧ zn.cell? ⟨w.heap.size + 1, 0, none⟩ = some (.slice bv mv dv) ∧ zn.cell? ⟨w.heap.size + 1, 1, none⟩ = some (.slice bo mo eo) := ⟨(gn.cell (block_lt_of_cell HS2.1)).trans HS2.1, (gn.cell (block_lt_of_cell HS2.2.1)).trans HS2.2.1, (gn.cell (block_lt_of_cell HS2.2.2.1)).trans HS2.2.2.1, (gn.cell (block_lt_of_cell HS2.2.2.2)).trans HS2.2.2.2⟩
        refine wpAnyH_take (i := 10) (oi := { dst := some 16, op := .assign (.tmp 101), type := 4, pos := "exact.go:2872", after := #[⟨7, .data⟩, ⟨9, .chain⟩, ⟨0, .phase⟩, ⟨1, .phase⟩, ⟨2, .phase⟩, ⟨3, .phase⟩, ⟨4, .phase⟩, ⟨5, .phase⟩, ⟨6, .phase⟩, ⟨7, .phase⟩, ⟨8, .phase⟩, ⟨9, .phase⟩], guard := none }) (v := ?_) rfl (by kernel_rfl) (by kernel_rfl) (by kernel_rfl) (fun _ _ _ h => h) (Or.inl ⟨by rfl, ?_⟩) (by assumption) ?_
        rotate_left
        · intro w hSw
          (try dsimp only at hSw)
          first | (go_simp; done) | (go_simp; with_reducible rfl)
        (try simp only [Act.put, List.setIfInBounds_toArray, List.set_cons_zero, List.set_cons_succ])
        refine wpAnyH_done (by kernel_rfl) ?_ _
        have hb := gn
        clear hzn Szn
        have hs18 := hb.size
        have HX18 := Lib.hid ((hb.block _ (Array.getElem?_eq_some_iff.1 HX17.out).1).trans HX17.out)
        have HR18 := Lib.hid ((hb.block _ (Array.getElem?_eq_some_iff.1 HR17.out).1).trans HR17.out)
        have HV18 := Lib.hid (HV17.out.below hb (by omega))
        have HO18 := Lib.hid (HO17.out.below hb (by omega))
        have HP18 := Lib.hid (HP17.out.below hb (by omega))
        have HQ18 := Lib.hid (HQ17.out.below hb (by omega))
        have HB18 := Lib.hid (HB17.out.trans (hb.mono (by omega)))
        have HN18 := Lib.hid ((hb.block _ (Array.getElem?_eq_some_iff.1 HN17.out).1).trans HN17.out)
        have HS18 := Lib.hid (HS17.out.below hb (by omega))
        have HT18 := Lib.hid (HT17.out.below hb (by omega))
        have HY18 := Lib.hid ((hb.block _ (Array.getElem?_eq_some_iff.1 HY17.out).1).trans HY17.out)
        have HZ18 := Lib.hid ((hb.block _ (Array.getElem?_eq_some_iff.1 HZ17.out).1).trans HZ17.out)
        have HD18 := Lib.hid ((hb.block _ (Array.getElem?_eq_some_iff.1 HD17.out).1).trans HD17.out)
        have HA18 := Lib.hid (HA17.out.below hb (by omega))
        have HC18 := Lib.hid (HC17.out.below hb (by omega))
        clear hb HX17 HR17 HV17 HO17 HP17 HQ17 HB17 HN17 HS17 HT17 HY17 HZ17 HD17 HA17 HC17
        obtain ⟨c0, c1⟩ := pair_cells HNn.out
        obtain ⟨e0, e1⟩ := pair_cells HN18.out
        go_wp2_with fail
        refine (eqCartV zn rva sva roa soa _ _ _ _ zs Ls HSn.out (HS18.out.more (by omega)) HTn.out (HT18.out.more (by omega)) (by omega) (by omega)).mono ?_
        rintro e w19 ⟨rfl, hb⟩
        clear c0 c1 e0 e1 HNn HSn HTn
        have hs19 := hb.size
        have HX19 := Lib.hid ((hb.block _ (Array.getElem?_eq_some_iff.1 HX18.out).1).trans HX18.out)
        have HR19 := Lib.hid ((hb.block _ (Array.getElem?_eq_some_iff.1 HR18.out).1).trans HR18.out)
        have HV19 := Lib.hid (HV18.out.below hb (by omega))
        have HO19 := Lib.hid (HO18.out.below hb (by omega))
        have HP19 := Lib.hid (HP18.out.below hb (by omega))
        have HQ19 := Lib.hid (HQ18.out.below hb (by omega))
        have HB19 := Lib.hid (HB18.out.trans (hb.mono (by omega)))
        have HN19 := Lib.hid ((hb.block _ (Array.getElem?_eq_some_iff.1 HN18.out).1).trans HN18.out)
        have HS19 := Lib.hid (HS18.out.below hb (by omega))
        have HT19 := Lib.hid (HT18.out.below hb (by omega))
        have HY19 := Lib.hid ((hb.block _ (Array.getElem?_eq_some_iff.1 HY18.out).1).trans HY18.out)
        have HZ19 := Lib.hid ((hb.block _ (Array.getElem?_eq_some_iff.1 HZ18.out).1).trans HZ18.out)
        have HD19 := Lib.hid ((hb.block _ (Array.getElem?_eq_some_iff.1 HD18.out).1).trans HD18.out)
        have HA19 := Lib.hid (HA18.out.below hb (by omega))
        have HC19 := Lib.hid (HC18.out.below hb (by omega))
        clear hb HX18 HR18 HV18 HO18 HP18 HQ18 HB18 HN18 HS18 HT18 HY18 HZ18 HD18 HA18 HC18
        obtain ⟨c0, c1⟩ := pair_cells HD19.out
        go_wp2_with fail
        refine (heldCart w19 n8 gva goa _ _ _ _ 1 (HA19.out.ints.more (by omega)) HC19.out.ops (by omega) (by omega) (by omega) (by omega) (by omega)).mono ?_
        rintro e w20 ⟨rfl, hb⟩
        rw [HK3.out]
        clear c0 c1
        have hs20 := hb.size
        have HX20 := Lib.hid ((hb.block _ (Array.getElem?_eq_some_iff.1 HX19.out).1).trans HX19.out)
        have HR20 := Lib.hid ((hb.block _ (Array.getElem?_eq_some_iff.1 HR19.out).1).trans HR19.out)
        have HV20 := Lib.hid (HV19.out.below hb (by omega))
        have HO20 := Lib.hid (HO19.out.below hb (by omega))
        have HP20 := Lib.hid (HP19.out.below hb (by omega))
        have HQ20 := Lib.hid (HQ19.out.below hb (by omega))
        have HB20 := Lib.hid (HB19.out.trans (hb.mono (by omega)))
        have HN20 := Lib.hid ((hb.block _ (Array.getElem?_eq_some_iff.1 HN19.out).1).trans HN19.out)
        have HS20 := Lib.hid (HS19.out.below hb (by omega))
        have HT20 := Lib.hid (HT19.out.below hb (by omega))
        have HY20 := Lib.hid ((hb.block _ (Array.getElem?_eq_some_iff.1 HY19.out).1).trans HY19.out)
        have HZ20 := Lib.hid ((hb.block _ (Array.getElem?_eq_some_iff.1 HZ19.out).1).trans HZ19.out)
        have HD20 := Lib.hid ((hb.block _ (Array.getElem?_eq_some_iff.1 HD19.out).1).trans HD19.out)
        have HA20 := Lib.hid (HA19.out.below hb (by omega))
        have HC20 := Lib.hid (HC19.out.below hb (by omega))
        clear hb HX19 HR19 HV19 HO19 HP19 HQ19 HB19 HN19 HS19 HT19 HY19 HZ19 HD19 HA19 HC19
        go_wp2
        go_ret
        exact ⟨rfl, HB20.out⟩
    · skip
      have talloc : Below z0.heap.size z0 (z0.alloc (.cells #[.slice none 0 0, .slice none 0 0] 29)) := (Below.refl _ _).alloc (Nat.le_refl _) _
      have hboxn := Lib.hid (boxAt (Below.refl _ (z0.alloc (.cells #[.slice none 0 0, .slice none 0 0] 29))))
      have hxsn : z0.heap.size < (z0.alloc (.cells #[.slice none 0 0, .slice none 0 0] 29)).heap.size := by show _ < (z0.heap.push _).size; simp
      have galloc : Below w17.heap.size w17 (z0.alloc (.cells #[.slice none 0 0, .slice none 0 0] 29)) := g0.trans (talloc.mono g0.size)
      have Salloc : (z0.alloc (.cells #[.slice none 0 0, .slice none 0 0] 29)).cell? ⟨w.heap.size, 0, none⟩ = some (.slice av nv cv) ∧ (z0.alloc (.cells #[.slice none 0 0, .slice none 0 0] 29)).cell? ⟨w.heap.size, 1, none⟩ = some (.slice ao no co) ∧ (z0.alloc (.cells #[.slice none 0 0, .slice none 0 0] 29)).cell? ⟨w.heap.size + 1, 0, none⟩ = some (.slice bv mv dv) ∧ (z0.alloc (.cells #[.slice none 0 0, .slice none 0 0] 29)).cell? ⟨w.heap.size + 1, 1, none⟩ = some (.slice bo mo eo) := ⟨(galloc.cell (block_lt_of_cell HS2.1)).trans HS2.1, (galloc.cell (block_lt_of_cell HS2.2.1)).trans HS2.2.1, (galloc.cell (block_lt_of_cell HS2.2.2.1)).trans HS2.2.2.1, (galloc.cell (block_lt_of_cell HS2.2.2.2)).trans HS2.2.2.2⟩
      go_simp
      refine hK.out _ _ Salloc (fun hHeldA => ?_)
      clear hK K hHeldA Salloc galloc
      (try simp only [Act.put, List.setIfInBounds_toArray, List.set_cons_zero, List.set_cons_succ])
      generalize z0.alloc (.cells #[.slice none 0 0, .slice none 0 0] 29) = z10 at talloc hboxn hxsn ⊢
      have tz10 := talloc
      have hboxz10 := hboxn
      have hxsz10 := hxsn
      clear talloc hboxn hxsn
      have g10 : Below w17.heap.size w17 z10 := g0.trans (tz10.mono g0.size)
      have Sz10 : z10.cell? ⟨w.heap.size, 0, none⟩ = some (.slice av nv cv) ∧ z10.cell? ⟨w.heap.size, 1, none⟩ = some (.slice ao no co) ∧ z10.cell? ⟨w.heap.size + 1, 0, none⟩ = some (.slice bv mv dv) ∧ z10.cell? ⟨w.heap.size + 1, 1, none⟩ = some (.slice bo mo eo) := ⟨(g10.cell (block_lt_of_cell HS2.1)).trans HS2.1, (g10.cell (block_lt_of_cell HS2.2.1)).trans HS2.2.1, (g10.cell (block_lt_of_cell HS2.2.2.1)).trans HS2.2.2.1, (g10.cell (block_lt_of_cell HS2.2.2.2)).trans HS2.2.2.2⟩
      refine wpAnyH_ready (rs := [1]) (by kernel_rfl) (by simp) ?_
      refine AllReadyH.cons (o := { dst := some 96, op := .call { callee := .value (.func 9), args := #[.tmp 95], argTypes := #[25] }, type := 29, pos := "exact.go:2872", after := #[⟨0, .data⟩], guard := none }) rfl (fun K hK => ?_) AllReadyH.nil
      go_simp
      go_at_call 9
      refine (toCart z10 w.heap.size av ao nv cv no co xs l (HV17.out.below g10 (by omega)) (HO17.out.below g10 (by omega)) (by have := g10.size; omega) hnv hno).mono ?_
      rintro e z11 ⟨va, oa, rfl, hi, ho, tz11⟩
      have g11 : Below w17.heap.size w17 z11 := g10.trans (tz11.mono g10.size)
      have Sz11 : z11.cell? ⟨w.heap.size, 0, none⟩ = some (.slice av nv cv) ∧ z11.cell? ⟨w.heap.size, 1, none⟩ = some (.slice ao no co) ∧ z11.cell? ⟨w.heap.size + 1, 0, none⟩ = some (.slice bv mv dv) ∧ z11.cell? ⟨w.heap.size + 1, 1, none⟩ = some (.slice bo mo eo) := ⟨(g11.cell (block_lt_of_cell HS2.1)).trans HS2.1, (g11.cell (block_lt_of_cell HS2.2.1)).trans HS2.2.1, (g11.cell (block_lt_of_cell HS2.2.2.1)).trans HS2.2.2.1, (g11.cell (block_lt_of_cell HS2.2.2.2)).trans HS2.2.2.2⟩
      have hboxz11 : Hid (z11.heap[z0.heap.size]? = some (.cells #[.slice none 0 0, .slice none 0 0] 29 (0, 0))) := Lib.hid ((tz11.block _ (Array.getElem?_eq_some_iff.1 hboxz10.out).1).trans hboxz10.out)
      have hxsz11 : z0.heap.size < z11.heap.size := Nat.lt_of_lt_of_le hxsz10 tz11.size
      refine hK.out _ _ Sz11 (fun hHeld2 => ?_)
      clear hK K hHeld2
      (try simp only [Act.put, List.setIfInBounds_toArray, List.set_cons_zero, List.set_cons_succ])
      refine wpAnyH_ready (rs := [3]) (by kernel_rfl) (by simp) ?_
      refine AllReadyH.cons (o := { dst := some 98, op := .call { callee := .value (.func 9), args := #[.tmp 97], argTypes := #[25] }, type := 29, pos := "exact.go:2872", after := #[⟨2, .data⟩, ⟨1, .chain⟩], guard := none }) rfl (fun K hK => ?_) AllReadyH.nil
      go_simp
      go_at_call 9
      refine (toCart z11 w.heap.size bv bo mv dv mo eo ys m (HP17.out.below g11 (by omega)) (HQ17.out.below g11 (by omega)) (by have := g11.size; omega) hmv hmo).mono ?_
      rintro e z12 ⟨vb, ob, rfl, hi2, ho2, tz12⟩
      have g12 : Below w17.heap.size w17 z12 := g11.trans (tz12.mono g11.size)
      have Sz12 : z12.cell? ⟨w.heap.size, 0, none⟩ = some (.slice av nv cv) ∧ z12.cell? ⟨w.heap.size, 1, none⟩ = some (.slice ao no co) ∧ z12.cell? ⟨w.heap.size + 1, 0, none⟩ = some (.slice bv mv dv) ∧ z12.cell? ⟨w.heap.size + 1, 1, none⟩ = some (.slice bo mo eo) := ⟨(g12.cell (block_lt_of_cell HS2.1)).trans HS2.1, (g12.cell (block_lt_of_cell HS2.2.1)).trans HS2.2.1, (g12.cell (block_lt_of_cell HS2.2.2.1)).trans HS2.2.2.1, (g12.cell (block_lt_of_cell HS2.2.2.2)).trans HS2.2.2.2⟩
      have az12 : Below z11.heap.size z11 z12 := tz12
      have hboxz12 : Hid (z12.heap[z0.heap.size]? = some (.cells #[.slice none 0 0, .slice none 0 0] 29 (0, 0))) := Lib.hid ((tz12.block _ (Array.getElem?_eq_some_iff.1 hboxz11.out).1).trans hboxz11.out)
      have hxsz12 : z0.heap.size < z12.heap.size := Nat.lt_of_lt_of_le hxsz11 tz12.size
      refine hK.out _ _ Sz12 (fun hHeld3 => ?_)
      clear hK K hHeld3
      (try simp only [Act.put, List.setIfInBounds_toArray, List.set_cons_zero, List.set_cons_succ])
      refine wpAnyH_ready (rs := [4]) (by kernel_rfl) (by simp) ?_
      refine AllReadyH.cons (o := { dst := some 99, op := .call { callee := .value (.func 10), args := #[.tmp 96, .tmp 98], argTypes := #[29, 29] }, type := 30, pos := "exact.go:2872", after := #[⟨1, .data⟩, ⟨3, .data⟩, ⟨3, .chain⟩], guard := none }) rfl (fun K hK => ?_) AllReadyH.nil
      go_simp
      go_at_call 10
      have hsp := implTaken z12 z12.heap.size va oa vb ob xs.length xs.length l.length l.length ys.length ys.length m.length m.length xs l ys m (hi.below az12 (Nat.le_refl _) |>.more az12.size) (ho.below az12 (Nat.le_refl _) |>.more az12.size) hi2 ho2 (Nat.le_refl _) hxl (Nat.le_refl _) (fits (Nat.le_refl _) hlo) HIt.out hyl (Nat.le_refl _) (fits (Nat.le_refl _) hlm) HIt2.out
      rw [HR.out, HZsM.out, HLsM.out] at hsp
      refine hsp.mono ?_
      rintro e z13 ⟨rva, rvc, roa, roc, smid, rfl, hiR, hoR, hm1R, hm2R, tz13⟩
      have g13 : Below w17.heap.size w17 z13 := g12.trans (tz13.mono g12.size)
      have Sz13 : z13.cell? ⟨w.heap.size, 0, none⟩ = some (.slice av nv cv) ∧ z13.cell? ⟨w.heap.size, 1, none⟩ = some (.slice ao no co) ∧ z13.cell? ⟨w.heap.size + 1, 0, none⟩ = some (.slice bv mv dv) ∧ z13.cell? ⟨w.heap.size + 1, 1, none⟩ = some (.slice bo mo eo) := ⟨(g13.cell (block_lt_of_cell HS2.1)).trans HS2.1, (g13.cell (block_lt_of_cell HS2.2.1)).trans HS2.2.1, (g13.cell (block_lt_of_cell HS2.2.2.1)).trans HS2.2.2.1, (g13.cell (block_lt_of_cell HS2.2.2.2)).trans HS2.2.2.2⟩
      have az13 : Below z11.heap.size z11 z13 := az12.trans (tz13.mono az12.size)
      have bz13 : Below z12.heap.size z12 z13 := tz13
      have hboxz13 : Hid (z13.heap[z0.heap.size]? = some (.cells #[.slice none 0 0, .slice none 0 0] 29 (0, 0))) := Lib.hid ((tz13.block _ (Array.getElem?_eq_some_iff.1 hboxz12.out).1).trans hboxz12.out)
      have hxsz13 : z0.heap.size < z13.heap.size := Nat.lt_of_lt_of_le hxsz12 tz13.size
      refine hK.out _ _ Sz13 (fun hHeld4 => ?_)
      clear hK K hHeld4
      (try simp only [Act.put, List.setIfInBounds_toArray, List.set_cons_zero, List.set_cons_succ])
      refine wpAnyH_take (i := 5) (oi := { dst := some 94, op := .move (.tmp 99), type := 30, pos := "exact.go:2872", after := #[⟨4, .data⟩], guard := none }) (v := ?_) rfl (by kernel_rfl) (by kernel_rfl) (by kernel_rfl) (fun _ _ _ h => h) (Or.inl ⟨by rfl, ?_⟩) (by assumption) ?_
      rotate_left
      · intro w hSw
        (try dsimp only at hSw)
        first | (go_simp; done) | (go_simp; with_reducible rfl)
      (try simp only [Act.put, List.setIfInBounds_toArray, List.set_cons_zero, List.set_cons_succ])
      refine wpAnyH_take (i := 6) (oi := { dst := some 100, op := .extract (.tmp 94) 0, type := 29, pos := "exact.go:2872", after := #[⟨5, .data⟩], guard := none }) (v := ?_) rfl (by kernel_rfl) (by kernel_rfl) (by kernel_rfl) (fun _ _ _ h => h) (Or.inl ⟨by rfl, ?_⟩) (by assumption) ?_
      rotate_left
      · intro w hSw
        (try dsimp only at hSw)
        first | (go_simp; done) | (go_simp; with_reducible rfl)
      (try simp only [Act.put, List.setIfInBounds_toArray, List.set_cons_zero, List.set_cons_succ])
      refine wpAnyH_take (i := 7) (oi := { dst := some 101, op := .extract (.tmp 94) 1, type := 4, pos := "exact.go:2872", after := #[⟨5, .data⟩, { on := 9, ground := Ground.gcOnly Departure.lateStores }], guard := none }) (v := ?_) rfl (by kernel_rfl) (by kernel_rfl) (by kernel_rfl) (fun _ _ _ h => h) (Or.inl ⟨by rfl, ?_⟩) (by assumption) ?_
      rotate_left
      · intro w hSw
        (try dsimp only at hSw)
        first | (go_simp; done) | (go_simp; with_reducible rfl)
      (try simp only [Act.put, List.setIfInBounds_toArray, List.set_cons_zero, List.set_cons_succ])
      have q1 := g0.size
      have q2 := hm1R
      have q3 := hm2R
      have hne : z0.heap.size < z12.heap.size := hxsz12
      obtain ⟨HNn, HSn, HTn, gn, hnn⟩ := drawnStore (.slice rva zs.length rvc) (.slice roa Ls.length roc) g13 hboxz13.out q1 (.inl hne) (.inl (Nat.lt_of_lt_of_le hne hm1R)) (by first | exact Nat.le_refl _ | omega) (by first | exact Nat.le_refl _ | omega) hiR hoR
      obtain ⟨d0, d1⟩ := pair_cells hboxz13.out
      obtain ⟨f0, f1⟩ := pair_frozen hboxz13.out
      have Szn : ((z13.setCell ⟨z0.heap.size, 0, none⟩ (.slice rva zs.length rvc)).setCell ⟨z0.heap.size, 1, none⟩ (.slice roa Ls.length roc)).cell? ⟨w.heap.size, 0, none⟩ = some (.slice av nv cv) ∧ ((z13.setCell ⟨z0.heap.size, 0, none⟩ (.slice rva zs.length rvc)).setCell ⟨z0.heap.size, 1, none⟩ (.slice roa Ls.length roc)).cell? ⟨w.heap.size, 1, none⟩ = some (.slice ao no co) ∧ ((z13.setCell ⟨z0.heap.size, 0, none⟩ (.slice rva zs.length rvc)).setCell ⟨z0.heap.size, 1, none⟩ (.slice roa Ls.length roc)).cell? ⟨w.heap.size + 1, 0, none⟩ = some (.slice bv mv dv) ∧ ((z13.setCell ⟨z0.heap.size, 0, none⟩ (.slice rva zs.length rvc)).setCell ⟨z0.heap.size, 1, none⟩ (.slice roa Ls.length roc)).cell? ⟨w.heap.size + 1, 1, none⟩ = some (.slice bo mo eo) := ⟨(gn.cell (block_lt_of_cell HS2.1)).trans HS2.1, (gn.cell (block_lt_of_cell HS2.2.1)).trans HS2.2.1, (gn.cell (block_lt_of_cell HS2.2.2.1)).trans HS2.2.2.1, (gn.cell (block_lt_of_cell HS2.2.2.2)).trans HS2.2.2.2⟩
      refine wpAnyH_ready (rs := [9]) (by kernel_rfl) (by simp) ?_
      refine AllReadyH.cons (o := { dst := none, op := .store 29 (.tmp 15) (.tmp 100), type := 0, pos := "exact.go:2872", after := #[⟨8, .data⟩, ⟨6, .data⟩, ⟨4, .chain⟩, ⟨0, .phase⟩, ⟨1, .phase⟩, ⟨2, .phase⟩, ⟨3, .phase⟩, ⟨4, .phase⟩, ⟨5, .phase⟩, ⟨6, .phase⟩, ⟨7, .textOnly .lateStores⟩, ⟨8, .phase⟩], guard := none }) rfl (fun K hK => ?_) AllReadyH.nil
      go_simp
      refine hK.out _ _ Szn (fun hHeldB => ?_)
      clear hK K hHeldB d0 d1 f0 f1 Szn
      (try simp only [Act.put, List.setIfInBounds_toArray, List.set_cons_zero, List.set_cons_succ])
      generalize hzn : (z13.setCell ⟨z0.heap.size, 0, none⟩ (.slice rva zs.length rvc)).setCell ⟨z0.heap.size, 1, none⟩ (.slice roa Ls.length roc) = zn at HNn HSn HTn gn hnn ⊢
      have Szn : zn.cell? ⟨w.heap.size, 0, none⟩ = some (.slice av nv cv) ∧ zn.cell? ⟨w.heap.size, 1, none⟩ = some (.slice ao no co) ∧ zn.cell? ⟨w.heap.size + 1, 0, none⟩ = some (.slice bv mv dv) ∧ zn.cell? ⟨w.heap.size + 1, 1, none⟩ = some (.slice bo mo eo) := ⟨(gn.cell (block_lt_of_cell HS2.1)).trans HS2.1, (gn.cell (block_lt_of_cell HS2.2.1)).trans HS2.2.1, (gn.cell (block_lt_of_cell HS2.2.2.1)).trans HS2.2.2.1, (gn.cell (block_lt_of_cell HS2.2.2.2)).trans HS2.2.2.2⟩
      refine wpAnyH_take (i := 10) (oi := { dst := some 16, op := .assign (.tmp 101), type := 4, pos := "exact.go:2872", after := #[⟨7, .data⟩, ⟨9, .chain⟩, ⟨0, .phase⟩, ⟨1, .phase⟩, ⟨2, .phase⟩, ⟨3, .phase⟩, ⟨4, .phase⟩, ⟨5, .phase⟩, ⟨6, .phase⟩, ⟨7, .phase⟩, ⟨8, .phase⟩, ⟨9, .phase⟩], guard := none }) (v := ?_) rfl (by kernel_rfl) (by kernel_rfl) (by kernel_rfl) (fun _ _ _ h => h) (Or.inl ⟨by rfl, ?_⟩) (by assumption) ?_
      rotate_left
      · intro w hSw
        (try dsimp only at hSw)
        first | (go_simp; done) | (go_simp; with_reducible rfl)
      (try simp only [Act.put, List.setIfInBounds_toArray, List.set_cons_zero, List.set_cons_succ])
      refine wpAnyH_done (by kernel_rfl) ?_ _
      have hb := gn
      clear hzn Szn
      have hs18 := hb.size
      have HX18 := Lib.hid ((hb.block _ (Array.getElem?_eq_some_iff.1 HX17.out).1).trans HX17.out)
      have HR18 := Lib.hid ((hb.block _ (Array.getElem?_eq_some_iff.1 HR17.out).1).trans HR17.out)
      have HV18 := Lib.hid (HV17.out.below hb (by omega))
      have HO18 := Lib.hid (HO17.out.below hb (by omega))
      have HP18 := Lib.hid (HP17.out.below hb (by omega))
      have HQ18 := Lib.hid (HQ17.out.below hb (by omega))
      have HB18 := Lib.hid (HB17.out.trans (hb.mono (by omega)))
      have HN18 := Lib.hid ((hb.block _ (Array.getElem?_eq_some_iff.1 HN17.out).1).trans HN17.out)
      have HS18 := Lib.hid (HS17.out.below hb (by omega))
      have HT18 := Lib.hid (HT17.out.below hb (by omega))
      have HY18 := Lib.hid ((hb.block _ (Array.getElem?_eq_some_iff.1 HY17.out).1).trans HY17.out)
      have HZ18 := Lib.hid ((hb.block _ (Array.getElem?_eq_some_iff.1 HZ17.out).1).trans HZ17.out)
      have HD18 := Lib.hid ((hb.block _ (Array.getElem?_eq_some_iff.1 HD17.out).1).trans HD17.out)
      have HA18 := Lib.hid (HA17.out.below hb (by omega))
      have HC18 := Lib.hid (HC17.out.below hb (by omega))
      clear hb HX17 HR17 HV17 HO17 HP17 HQ17 HB17 HN17 HS17 HT17 HY17 HZ17 HD17 HA17 HC17
      obtain ⟨c0, c1⟩ := pair_cells HNn.out
      obtain ⟨e0, e1⟩ := pair_cells HN18.out
      go_wp2_with fail
      refine (eqCartV zn rva sva roa soa _ _ _ _ zs Ls HSn.out (HS18.out.more (by omega)) HTn.out (HT18.out.more (by omega)) (by omega) (by omega)).mono ?_
      rintro e w19 ⟨rfl, hb⟩
      clear c0 c1 e0 e1 HNn HSn HTn
      have hs19 := hb.size
      have HX19 := Lib.hid ((hb.block _ (Array.getElem?_eq_some_iff.1 HX18.out).1).trans HX18.out)
      have HR19 := Lib.hid ((hb.block _ (Array.getElem?_eq_some_iff.1 HR18.out).1).trans HR18.out)
      have HV19 := Lib.hid (HV18.out.below hb (by omega))
      have HO19 := Lib.hid (HO18.out.below hb (by omega))
      have HP19 := Lib.hid (HP18.out.below hb (by omega))
      have HQ19 := Lib.hid (HQ18.out.below hb (by omega))
      have HB19 := Lib.hid (HB18.out.trans (hb.mono (by omega)))
      have HN19 := Lib.hid ((hb.block _ (Array.getElem?_eq_some_iff.1 HN18.out).1).trans HN18.out)
      have HS19 := Lib.hid (HS18.out.below hb (by omega))
      have HT19 := Lib.hid (HT18.out.below hb (by omega))
      have HY19 := Lib.hid ((hb.block _ (Array.getElem?_eq_some_iff.1 HY18.out).1).trans HY18.out)
      have HZ19 := Lib.hid ((hb.block _ (Array.getElem?_eq_some_iff.1 HZ18.out).1).trans HZ18.out)
      have HD19 := Lib.hid ((hb.block _ (Array.getElem?_eq_some_iff.1 HD18.out).1).trans HD18.out)
      have HA19 := Lib.hid (HA18.out.below hb (by omega))
      have HC19 := Lib.hid (HC18.out.below hb (by omega))
      clear hb HX18 HR18 HV18 HO18 HP18 HQ18 HB18 HN18 HS18 HT18 HY18 HZ18 HD18 HA18 HC18
      obtain ⟨c0, c1⟩ := pair_cells HD19.out
      go_wp2_with fail
      refine (heldCart w19 n8 gva goa _ _ _ _ 1 (HA19.out.ints.more (by omega)) HC19.out.ops (by omega) (by omega) (by omega) (by omega) (by omega)).mono ?_
      rintro e w20 ⟨rfl, hb⟩
      rw [HK3.out]
      clear c0 c1
      have hs20 := hb.size
      have HX20 := Lib.hid ((hb.block _ (Array.getElem?_eq_some_iff.1 HX19.out).1).trans HX19.out)
      have HR20 := Lib.hid ((hb.block _ (Array.getElem?_eq_some_iff.1 HR19.out).1).trans HR19.out)
      have HV20 := Lib.hid (HV19.out.below hb (by omega))
      have HO20 := Lib.hid (HO19.out.below hb (by omega))
      have HP20 := Lib.hid (HP19.out.below hb (by omega))
      have HQ20 := Lib.hid (HQ19.out.below hb (by omega))
      have HB20 := Lib.hid (HB19.out.trans (hb.mono (by omega)))
      have HN20 := Lib.hid ((hb.block _ (Array.getElem?_eq_some_iff.1 HN19.out).1).trans HN19.out)
      have HS20 := Lib.hid (HS19.out.below hb (by omega))
      have HT20 := Lib.hid (HT19.out.below hb (by omega))
      have HY20 := Lib.hid ((hb.block _ (Array.getElem?_eq_some_iff.1 HY19.out).1).trans HY19.out)
      have HZ20 := Lib.hid ((hb.block _ (Array.getElem?_eq_some_iff.1 HZ19.out).1).trans HZ19.out)
      have HD20 := Lib.hid ((hb.block _ (Array.getElem?_eq_some_iff.1 HD19.out).1).trans HD19.out)
      have HA20 := Lib.hid (HA19.out.below hb (by omega))
      have HC20 := Lib.hid (HC19.out.below hb (by omega))
      clear hb HX19 HR19 HV19 HO19 HP19 HQ19 HB19 HN19 HS19 HT19 HY19 HZ19 HD19 HA19 HC19
      go_wp2
      go_ret
      exact ⟨rfl, HB20.out⟩
  obtain ⟨z0, hz0e⟩ : ∃ z0, w2.drew = z0 := ⟨_, rfl⟩
  have HS2 : w2.cell? ⟨w.heap.size, 0, none⟩ = some (.slice av nv cv) ∧ w2.cell? ⟨w.heap.size, 1, none⟩ = some (.slice ao no co) ∧ w2.cell? ⟨w.heap.size + 1, 0, none⟩ = some (.slice bv mv dv) ∧ w2.cell? ⟨w.heap.size + 1, 1, none⟩ = some (.slice bo mo eo) := ⟨(pair_cells HX2.out).1, (pair_cells HX2.out).2, (pair_cells HR2.out).1, (pair_cells HR2.out).2⟩
  have g0 : Below w2.heap.size w2 z0 := by rw [← hz0e]; exact ⟨rfl, rfl, rfl, Nat.le_refl _, fun _ _ => rfl⟩
  have Sz0 : z0.cell? ⟨w.heap.size, 0, none⟩ = some (.slice av nv cv) ∧ z0.cell? ⟨w.heap.size, 1, none⟩ = some (.slice ao no co) ∧ z0.cell? ⟨w.heap.size + 1, 0, none⟩ = some (.slice bv mv dv) ∧ z0.cell? ⟨w.heap.size + 1, 1, none⟩ = some (.slice bo mo eo) := ⟨(g0.cell (block_lt_of_cell HS2.1)).trans HS2.1, (g0.cell (block_lt_of_cell HS2.2.1)).trans HS2.2.1, (g0.cell (block_lt_of_cell HS2.2.2.1)).trans HS2.2.2.1, (g0.cell (block_lt_of_cell HS2.2.2.2)).trans HS2.2.2.2⟩
  refine wp_region_held_drew (S := fun w' => w'.cell? ⟨w.heap.size, 0, none⟩ = some (.slice av nv cv) ∧ w'.cell? ⟨w.heap.size, 1, none⟩ = some (.slice ao no co) ∧ w'.cell? ⟨w.heap.size + 1, 0, none⟩ = some (.slice bv mv dv) ∧ w'.cell? ⟨w.heap.size + 1, 1, none⟩ = some (.slice bo mo eo)) (by kernel_rfl) (by rw [hz0e]; exact Sz0) (fun hHeld => ?_)
  rw [hz0e]
  clear hHeld hz0e
  refine wpAnyH_take (i := 0) (oi := { dst := some 28, op := .load 25 (.tmp 2), type := 25, pos := "exact.go:2843", after := #[], guard := none }) (v := ?_) rfl (by kernel_rfl) (by kernel_rfl) (by kernel_rfl) (fun _ _ _ h => h) (Or.inl ⟨by rfl, ?_⟩) (by assumption) ?_
  rotate_left
  · intro w hSw
    (try dsimp only at hSw)
    first | (go_simp; done) | (go_simp; with_reducible rfl)
  (try simp only [Act.put, List.setIfInBounds_toArray, List.set_cons_zero, List.set_cons_succ])
  refine wpAnyH_take (i := 2) (oi := { dst := some 30, op := .load 25 (.tmp 3), type := 25, pos := "exact.go:2843", after := #[], guard := none }) (v := ?_) rfl (by kernel_rfl) (by kernel_rfl) (by kernel_rfl) (fun _ _ _ h => h) (Or.inl ⟨by rfl, ?_⟩) (by assumption) ?_
  rotate_left
  · intro w hSw
    (try dsimp only at hSw)
    first | (go_simp; done) | (go_simp; with_reducible rfl)
  (try simp only [Act.put, List.setIfInBounds_toArray, List.set_cons_zero, List.set_cons_succ])
  refine wpAnyH_ready (rs := [1, 8]) (by kernel_rfl) (by simp) ?_
  refine AllReadyH.cons (o := { dst := some 29, op := .call { callee := .value (.func 9), args := #[.tmp 28], argTypes := #[25] }, type := 29, pos := "exact.go:2843", after := #[⟨0, .data⟩], guard := none }) rfl (fun K hK => ?_) (AllReadyH.cons (o := { dst := some 6, op := .alloc 29, type := 0, pos := "exact.go:2843", after := #[], guard := none }) rfl (fun K hK => ?_) AllReadyH.nil)
  · skip
    go_simp
    go_at_call 9
    refine (toCart z0 w.heap.size av ao nv cv no co xs l (HV2.out.below g0 (by omega)) (HO2.out.below g0 (by omega)) (by have := g0.size; omega) hnv hno).mono ?_
    rintro e z1 ⟨va, oa, rfl, hi, ho, tz1⟩
    have g1 : Below w2.heap.size w2 z1 := g0.trans (tz1.mono g0.size)
    have Sz1 : z1.cell? ⟨w.heap.size, 0, none⟩ = some (.slice av nv cv) ∧ z1.cell? ⟨w.heap.size, 1, none⟩ = some (.slice ao no co) ∧ z1.cell? ⟨w.heap.size + 1, 0, none⟩ = some (.slice bv mv dv) ∧ z1.cell? ⟨w.heap.size + 1, 1, none⟩ = some (.slice bo mo eo) := ⟨(g1.cell (block_lt_of_cell HS2.1)).trans HS2.1, (g1.cell (block_lt_of_cell HS2.2.1)).trans HS2.2.1, (g1.cell (block_lt_of_cell HS2.2.2.1)).trans HS2.2.2.1, (g1.cell (block_lt_of_cell HS2.2.2.2)).trans HS2.2.2.2⟩
    refine hK.out _ _ Sz1 (fun hHeld2 => ?_)
    clear hK K hHeld2
    (try simp only [Act.put, List.setIfInBounds_toArray, List.set_cons_zero, List.set_cons_succ])
    refine wpAnyH_ready (rs := [3, 8]) (by kernel_rfl) (by simp) ?_
    refine AllReadyH.cons (o := { dst := some 31, op := .call { callee := .value (.func 9), args := #[.tmp 30], argTypes := #[25] }, type := 29, pos := "exact.go:2843", after := #[⟨2, .data⟩, ⟨1, .chain⟩], guard := none }) rfl (fun K hK => ?_) (AllReadyH.cons (o := { dst := some 6, op := .alloc 29, type := 0, pos := "exact.go:2843", after := #[], guard := none }) rfl (fun K hK => ?_) AllReadyH.nil)
    · skip
      go_simp
      go_at_call 9
      refine (toCart z1 w.heap.size bv bo mv dv mo eo ys m (HP2.out.below g1 (by omega)) (HQ2.out.below g1 (by omega)) (by have := g1.size; omega) hmv hmo).mono ?_
      rintro e z2 ⟨vb, ob, rfl, hi2, ho2, tz2⟩
      have g2 : Below w2.heap.size w2 z2 := g1.trans (tz2.mono g1.size)
      have Sz2 : z2.cell? ⟨w.heap.size, 0, none⟩ = some (.slice av nv cv) ∧ z2.cell? ⟨w.heap.size, 1, none⟩ = some (.slice ao no co) ∧ z2.cell? ⟨w.heap.size + 1, 0, none⟩ = some (.slice bv mv dv) ∧ z2.cell? ⟨w.heap.size + 1, 1, none⟩ = some (.slice bo mo eo) := ⟨(g2.cell (block_lt_of_cell HS2.1)).trans HS2.1, (g2.cell (block_lt_of_cell HS2.2.1)).trans HS2.2.1, (g2.cell (block_lt_of_cell HS2.2.2.1)).trans HS2.2.2.1, (g2.cell (block_lt_of_cell HS2.2.2.2)).trans HS2.2.2.2⟩
      have az2 : Below z1.heap.size z1 z2 := tz2
      refine hK.out _ _ Sz2 (fun hHeld3 => ?_)
      clear hK K hHeld3
      (try simp only [Act.put, List.setIfInBounds_toArray, List.set_cons_zero, List.set_cons_succ])
      refine wpAnyH_ready (rs := [4, 8]) (by kernel_rfl) (by simp) ?_
      refine AllReadyH.cons (o := { dst := some 32, op := .call { callee := .value (.func 8), args := #[.tmp 29, .tmp 31], argTypes := #[29, 29] }, type := 30, pos := "exact.go:2843", after := #[⟨1, .data⟩, ⟨3, .data⟩, ⟨3, .chain⟩], guard := none }) rfl (fun K hK => ?_) (AllReadyH.cons (o := { dst := some 6, op := .alloc 29, type := 0, pos := "exact.go:2843", after := #[], guard := none }) rfl (fun K hK => ?_) AllReadyH.nil)
      · skip
        go_simp
        go_at_call 8
        have hsp := specTakenC z2 z2.heap.size va oa vb ob xs.length xs.length l.length l.length ys.length ys.length m.length m.length xs l ys m (hi.below az2 (Nat.le_refl _) |>.more az2.size) (ho.below az2 (Nat.le_refl _) |>.more az2.size) hi2 ho2 (Nat.le_refl _) hxl hlo HIt.out hyl hlm HIt2.out
        rw [HR.out, HZs.out, HLs.out] at hsp
        refine hsp.mono ?_
        rintro e z3 ⟨sva, svc, soa, soc, rfl, hiR, hoR, tz3, _, _⟩
        have g3 : Below w2.heap.size w2 z3 := g2.trans (tz3.mono g2.size)
        have Sz3 : z3.cell? ⟨w.heap.size, 0, none⟩ = some (.slice av nv cv) ∧ z3.cell? ⟨w.heap.size, 1, none⟩ = some (.slice ao no co) ∧ z3.cell? ⟨w.heap.size + 1, 0, none⟩ = some (.slice bv mv dv) ∧ z3.cell? ⟨w.heap.size + 1, 1, none⟩ = some (.slice bo mo eo) := ⟨(g3.cell (block_lt_of_cell HS2.1)).trans HS2.1, (g3.cell (block_lt_of_cell HS2.2.1)).trans HS2.2.1, (g3.cell (block_lt_of_cell HS2.2.2.1)).trans HS2.2.2.1, (g3.cell (block_lt_of_cell HS2.2.2.2)).trans HS2.2.2.2⟩
        have az3 : Below z1.heap.size z1 z3 := az2.trans (tz3.mono az2.size)
        have bz3 : Below z2.heap.size z2 z3 := tz3
        refine hK.out _ _ Sz3 (fun hHeld4 => ?_)
        clear hK K hHeld4
        (try simp only [Act.put, List.setIfInBounds_toArray, List.set_cons_zero, List.set_cons_succ])
        refine wpAnyH_take (i := 5) (oi := { dst := some 27, op := .move (.tmp 32), type := 30, pos := "exact.go:2843", after := #[⟨4, .data⟩], guard := none }) (v := ?_) rfl (by kernel_rfl) (by kernel_rfl) (by kernel_rfl) (fun _ _ _ h => h) (Or.inl ⟨by rfl, ?_⟩) (by assumption) ?_
        rotate_left
        · intro w hSw
          (try dsimp only at hSw)
          first | (go_simp; done) | (go_simp; with_reducible rfl)
        (try simp only [Act.put, List.setIfInBounds_toArray, List.set_cons_zero, List.set_cons_succ])
        refine wpAnyH_take (i := 6) (oi := { dst := some 33, op := .extract (.tmp 27) 0, type := 29, pos := "exact.go:2843", after := #[⟨5, .data⟩], guard := none }) (v := ?_) rfl (by kernel_rfl) (by kernel_rfl) (by kernel_rfl) (fun _ _ _ h => h) (Or.inl ⟨by rfl, ?_⟩) (by assumption) ?_
        rotate_left
        · intro w hSw
          (try dsimp only at hSw)
          first | (go_simp; done) | (go_simp; with_reducible rfl)
        (try simp only [Act.put, List.setIfInBounds_toArray, List.set_cons_zero, List.set_cons_succ])
        refine wpAnyH_take (i := 7) (oi := { dst := some 34, op := .extract (.tmp 27) 1, type := 4, pos := "exact.go:2843", after := #[⟨5, .data⟩, { on := 9, ground := Ground.gcOnly Departure.lateStores }], guard := none }) (v := ?_) rfl (by kernel_rfl) (by kernel_rfl) (by kernel_rfl) (fun _ _ _ h => h) (Or.inl ⟨by rfl, ?_⟩) (by assumption) ?_
        rotate_left
        · intro w hSw
          (try dsimp only at hSw)
          first | (go_simp; done) | (go_simp; with_reducible rfl)
        (try simp only [Act.put, List.setIfInBounds_toArray, List.set_cons_zero, List.set_cons_succ])
        have talloc : Below z3.heap.size z3 (z3.alloc (.cells #[.slice none 0 0, .slice none 0 0] 29)) := (Below.refl _ _).alloc (Nat.le_refl _) _
        have hboxn := Lib.hid (boxAt (Below.refl _ (z3.alloc (.cells #[.slice none 0 0, .slice none 0 0] 29))))
        have hxsn : z3.heap.size < (z3.alloc (.cells #[.slice none 0 0, .slice none 0 0] 29)).heap.size := by show _ < (z3.heap.push _).size; simp
        have galloc : Below w2.heap.size w2 (z3.alloc (.cells #[.slice none 0 0, .slice none 0 0] 29)) := g3.trans (talloc.mono g3.size)
        have Salloc : (z3.alloc (.cells #[.slice none 0 0, .slice none 0 0] 29)).cell? ⟨w.heap.size, 0, none⟩ = some (.slice av nv cv) ∧ (z3.alloc (.cells #[.slice none 0 0, .slice none 0 0] 29)).cell? ⟨w.heap.size, 1, none⟩ = some (.slice ao no co) ∧ (z3.alloc (.cells #[.slice none 0 0, .slice none 0 0] 29)).cell? ⟨w.heap.size + 1, 0, none⟩ = some (.slice bv mv dv) ∧ (z3.alloc (.cells #[.slice none 0 0, .slice none 0 0] 29)).cell? ⟨w.heap.size + 1, 1, none⟩ = some (.slice bo mo eo) := ⟨(galloc.cell (block_lt_of_cell HS2.1)).trans HS2.1, (galloc.cell (block_lt_of_cell HS2.2.1)).trans HS2.2.1, (galloc.cell (block_lt_of_cell HS2.2.2.1)).trans HS2.2.2.1, (galloc.cell (block_lt_of_cell HS2.2.2.2)).trans HS2.2.2.2⟩
        refine wpAnyH_ready (rs := [8]) (by kernel_rfl) (by simp) ?_
        refine AllReadyH.cons (o := { dst := some 6, op := .alloc 29, type := 0, pos := "exact.go:2843", after := #[], guard := none }) rfl (fun K hK => ?_) AllReadyH.nil
        go_simp
        refine hK.out _ _ Salloc (fun hHeldA => ?_)
        clear hK K hHeldA Salloc galloc
        (try simp only [Act.put, List.setIfInBounds_toArray, List.set_cons_zero, List.set_cons_succ])
        generalize z3.alloc (.cells #[.slice none 0 0, .slice none 0 0] 29) = z4 at talloc hboxn hxsn ⊢
        have tz4 := talloc
        have hboxz4 := hboxn
        have hxsz4 := hxsn
        clear talloc hboxn hxsn
        have g4 : Below w2.heap.size w2 z4 := g3.trans (tz4.mono g3.size)
        have Sz4 : z4.cell? ⟨w.heap.size, 0, none⟩ = some (.slice av nv cv) ∧ z4.cell? ⟨w.heap.size, 1, none⟩ = some (.slice ao no co) ∧ z4.cell? ⟨w.heap.size + 1, 0, none⟩ = some (.slice bv mv dv) ∧ z4.cell? ⟨w.heap.size + 1, 1, none⟩ = some (.slice bo mo eo) := ⟨(g4.cell (block_lt_of_cell HS2.1)).trans HS2.1, (g4.cell (block_lt_of_cell HS2.2.1)).trans HS2.2.1, (g4.cell (block_lt_of_cell HS2.2.2.1)).trans HS2.2.2.1, (g4.cell (block_lt_of_cell HS2.2.2.2)).trans HS2.2.2.2⟩
        have az4 : Below z1.heap.size z1 z4 := az3.trans (tz4.mono az3.size)
        have bz4 : Below z2.heap.size z2 z4 := bz3.trans (tz4.mono bz3.size)
        have hiRz4 := hiR.below tz4 (by omega)
        have hoRz4 := hoR.below tz4 (by omega)
        have q1 := g3.size
        obtain ⟨HNn, HSn, HTn, gn, hnn⟩ := drawnStore (.slice sva zs.length svc) (.slice soa Ls.length soc) g4 hboxz4.out q1 (.inr (Nat.le_refl _)) (.inr (Nat.le_refl _)) (by first | exact Nat.le_refl _ | omega) (by first | exact Nat.le_refl _ | omega) hiRz4 hoRz4
        obtain ⟨d0, d1⟩ := pair_cells hboxz4.out
        obtain ⟨f0, f1⟩ := pair_frozen hboxz4.out
        have Szn : ((z4.setCell ⟨z3.heap.size, 0, none⟩ (.slice sva zs.length svc)).setCell ⟨z3.heap.size, 1, none⟩ (.slice soa Ls.length soc)).cell? ⟨w.heap.size, 0, none⟩ = some (.slice av nv cv) ∧ ((z4.setCell ⟨z3.heap.size, 0, none⟩ (.slice sva zs.length svc)).setCell ⟨z3.heap.size, 1, none⟩ (.slice soa Ls.length soc)).cell? ⟨w.heap.size, 1, none⟩ = some (.slice ao no co) ∧ ((z4.setCell ⟨z3.heap.size, 0, none⟩ (.slice sva zs.length svc)).setCell ⟨z3.heap.size, 1, none⟩ (.slice soa Ls.length soc)).cell? ⟨w.heap.size + 1, 0, none⟩ = some (.slice bv mv dv) ∧ ((z4.setCell ⟨z3.heap.size, 0, none⟩ (.slice sva zs.length svc)).setCell ⟨z3.heap.size, 1, none⟩ (.slice soa Ls.length soc)).cell? ⟨w.heap.size + 1, 1, none⟩ = some (.slice bo mo eo) := ⟨(gn.cell (block_lt_of_cell HS2.1)).trans HS2.1, (gn.cell (block_lt_of_cell HS2.2.1)).trans HS2.2.1, (gn.cell (block_lt_of_cell HS2.2.2.1)).trans HS2.2.2.1, (gn.cell (block_lt_of_cell HS2.2.2.2)).trans HS2.2.2.2⟩
        refine wpAnyH_ready (rs := [9]) (by kernel_rfl) (by simp) ?_
        refine AllReadyH.cons (o := { dst := none, op := .store 29 (.tmp 6) (.tmp 33), type := 0, pos := "exact.go:2843", after := #[⟨8, .data⟩, ⟨6, .data⟩, ⟨4, .chain⟩, ⟨0, .phase⟩, ⟨1, .phase⟩, ⟨2, .phase⟩, ⟨3, .phase⟩, ⟨4, .phase⟩, ⟨5, .phase⟩, ⟨6, .phase⟩, ⟨7, .textOnly .lateStores⟩, ⟨8, .phase⟩], guard := none }) rfl (fun K hK => ?_) AllReadyH.nil
        go_simp
        refine hK.out _ _ Szn (fun hHeldB => ?_)
        clear hK K hHeldB d0 d1 f0 f1 Szn
        (try simp only [Act.put, List.setIfInBounds_toArray, List.set_cons_zero, List.set_cons_succ])
        generalize hzn : (z4.setCell ⟨z3.heap.size, 0, none⟩ (.slice sva zs.length svc)).setCell ⟨z3.heap.size, 1, none⟩ (.slice soa Ls.length soc) = zn at HNn HSn HTn gn hnn ⊢
        have Szn : zn.cell? ⟨w.heap.size, 0, none⟩ = some (.slice av nv cv) ∧ zn.cell? ⟨w.heap.size, 1, none⟩ = some (.slice ao no co) ∧ zn.cell? ⟨w.heap.size + 1, 0, none⟩ = some (.slice bv mv dv) ∧ zn.cell? ⟨w.heap.size + 1, 1, none⟩ = some (.slice bo mo eo) := ⟨(gn.cell (block_lt_of_cell HS2.1)).trans HS2.1, (gn.cell (block_lt_of_cell HS2.2.1)).trans HS2.2.1, (gn.cell (block_lt_of_cell HS2.2.2.1)).trans HS2.2.2.1, (gn.cell (block_lt_of_cell HS2.2.2.2)).trans HS2.2.2.2⟩
        refine wpAnyH_take (i := 10) (oi := { dst := some 7, op := .assign (.tmp 34), type := 4, pos := "exact.go:2843", after := #[⟨7, .data⟩, ⟨9, .chain⟩, ⟨0, .phase⟩, ⟨1, .phase⟩, ⟨2, .phase⟩, ⟨3, .phase⟩, ⟨4, .phase⟩, ⟨5, .phase⟩, ⟨6, .phase⟩, ⟨7, .phase⟩, ⟨8, .phase⟩, ⟨9, .phase⟩], guard := none }) (v := ?_) rfl (by kernel_rfl) (by kernel_rfl) (by kernel_rfl) (fun _ _ _ h => h) (Or.inl ⟨by rfl, ?_⟩) (by assumption) ?_
        rotate_left
        · intro w hSw
          (try dsimp only at hSw)
          first | (go_simp; done) | (go_simp; with_reducible rfl)
        (try simp only [Act.put, List.setIfInBounds_toArray, List.set_cons_zero, List.set_cons_succ])
        refine wpAnyH_done (by kernel_rfl) ?_ _
        exact hKall _ _ _ _ _ _ _ _ _ _ _ _ _ _ q1 hnn gn HNn HSn HTn
      · skip
        have talloc : Below z2.heap.size z2 (z2.alloc (.cells #[.slice none 0 0, .slice none 0 0] 29)) := (Below.refl _ _).alloc (Nat.le_refl _) _
        have hboxn := Lib.hid (boxAt (Below.refl _ (z2.alloc (.cells #[.slice none 0 0, .slice none 0 0] 29))))
        have hxsn : z2.heap.size < (z2.alloc (.cells #[.slice none 0 0, .slice none 0 0] 29)).heap.size := by show _ < (z2.heap.push _).size; simp
        have galloc : Below w2.heap.size w2 (z2.alloc (.cells #[.slice none 0 0, .slice none 0 0] 29)) := g2.trans (talloc.mono g2.size)
        have Salloc : (z2.alloc (.cells #[.slice none 0 0, .slice none 0 0] 29)).cell? ⟨w.heap.size, 0, none⟩ = some (.slice av nv cv) ∧ (z2.alloc (.cells #[.slice none 0 0, .slice none 0 0] 29)).cell? ⟨w.heap.size, 1, none⟩ = some (.slice ao no co) ∧ (z2.alloc (.cells #[.slice none 0 0, .slice none 0 0] 29)).cell? ⟨w.heap.size + 1, 0, none⟩ = some (.slice bv mv dv) ∧ (z2.alloc (.cells #[.slice none 0 0, .slice none 0 0] 29)).cell? ⟨w.heap.size + 1, 1, none⟩ = some (.slice bo mo eo) := ⟨(galloc.cell (block_lt_of_cell HS2.1)).trans HS2.1, (galloc.cell (block_lt_of_cell HS2.2.1)).trans HS2.2.1, (galloc.cell (block_lt_of_cell HS2.2.2.1)).trans HS2.2.2.1, (galloc.cell (block_lt_of_cell HS2.2.2.2)).trans HS2.2.2.2⟩
        go_simp
        refine hK.out _ _ Salloc (fun hHeldA => ?_)
        clear hK K hHeldA Salloc galloc
        (try simp only [Act.put, List.setIfInBounds_toArray, List.set_cons_zero, List.set_cons_succ])
        generalize z2.alloc (.cells #[.slice none 0 0, .slice none 0 0] 29) = z5 at talloc hboxn hxsn ⊢
        have tz5 := talloc
        have hboxz5 := hboxn
        have hxsz5 := hxsn
        clear talloc hboxn hxsn
        have g5 : Below w2.heap.size w2 z5 := g2.trans (tz5.mono g2.size)
        have Sz5 : z5.cell? ⟨w.heap.size, 0, none⟩ = some (.slice av nv cv) ∧ z5.cell? ⟨w.heap.size, 1, none⟩ = some (.slice ao no co) ∧ z5.cell? ⟨w.heap.size + 1, 0, none⟩ = some (.slice bv mv dv) ∧ z5.cell? ⟨w.heap.size + 1, 1, none⟩ = some (.slice bo mo eo) := ⟨(g5.cell (block_lt_of_cell HS2.1)).trans HS2.1, (g5.cell (block_lt_of_cell HS2.2.1)).trans HS2.2.1, (g5.cell (block_lt_of_cell HS2.2.2.1)).trans HS2.2.2.1, (g5.cell (block_lt_of_cell HS2.2.2.2)).trans HS2.2.2.2⟩
        have az5 : Below z1.heap.size z1 z5 := az2.trans (tz5.mono az2.size)
        have bz5 : Below z2.heap.size z2 z5 := tz5
        refine wpAnyH_ready (rs := [4]) (by kernel_rfl) (by simp) ?_
        refine AllReadyH.cons (o := { dst := some 32, op := .call { callee := .value (.func 8), args := #[.tmp 29, .tmp 31], argTypes := #[29, 29] }, type := 30, pos := "exact.go:2843", after := #[⟨1, .data⟩, ⟨3, .data⟩, ⟨3, .chain⟩], guard := none }) rfl (fun K hK => ?_) AllReadyH.nil
        go_simp
        go_at_call 8
        have hsp := specTakenC z5 z5.heap.size va oa vb ob xs.length xs.length l.length l.length ys.length ys.length m.length m.length xs l ys m (hi.below az5 (Nat.le_refl _) |>.more az5.size) (ho.below az5 (Nat.le_refl _) |>.more az5.size) (hi2.below bz5 (Nat.le_refl _) |>.more bz5.size) (ho2.below bz5 (Nat.le_refl _) |>.more bz5.size) (Nat.le_refl _) hxl hlo HIt.out hyl hlm HIt2.out
        rw [HR.out, HZs.out, HLs.out] at hsp
        refine hsp.mono ?_
        rintro e z6 ⟨sva, svc, soa, soc, rfl, hiR, hoR, tz6, _, _⟩
        have g6 : Below w2.heap.size w2 z6 := g5.trans (tz6.mono g5.size)
        have Sz6 : z6.cell? ⟨w.heap.size, 0, none⟩ = some (.slice av nv cv) ∧ z6.cell? ⟨w.heap.size, 1, none⟩ = some (.slice ao no co) ∧ z6.cell? ⟨w.heap.size + 1, 0, none⟩ = some (.slice bv mv dv) ∧ z6.cell? ⟨w.heap.size + 1, 1, none⟩ = some (.slice bo mo eo) := ⟨(g6.cell (block_lt_of_cell HS2.1)).trans HS2.1, (g6.cell (block_lt_of_cell HS2.2.1)).trans HS2.2.1, (g6.cell (block_lt_of_cell HS2.2.2.1)).trans HS2.2.2.1, (g6.cell (block_lt_of_cell HS2.2.2.2)).trans HS2.2.2.2⟩
        have az6 : Below z1.heap.size z1 z6 := az5.trans (tz6.mono az5.size)
        have bz6 : Below z2.heap.size z2 z6 := bz5.trans (tz6.mono bz5.size)
        have hboxz6 : Hid (z6.heap[z2.heap.size]? = some (.cells #[.slice none 0 0, .slice none 0 0] 29 (0, 0))) := Lib.hid ((tz6.block _ (Array.getElem?_eq_some_iff.1 hboxz5.out).1).trans hboxz5.out)
        have hxsz6 : z2.heap.size < z6.heap.size := Nat.lt_of_lt_of_le hxsz5 tz6.size
        refine hK.out _ _ Sz6 (fun hHeld4 => ?_)
        clear hK K hHeld4
        (try simp only [Act.put, List.setIfInBounds_toArray, List.set_cons_zero, List.set_cons_succ])
        refine wpAnyH_take (i := 5) (oi := { dst := some 27, op := .move (.tmp 32), type := 30, pos := "exact.go:2843", after := #[⟨4, .data⟩], guard := none }) (v := ?_) rfl (by kernel_rfl) (by kernel_rfl) (by kernel_rfl) (fun _ _ _ h => h) (Or.inl ⟨by rfl, ?_⟩) (by assumption) ?_
        rotate_left
        · intro w hSw
          (try dsimp only at hSw)
          first | (go_simp; done) | (go_simp; with_reducible rfl)
        (try simp only [Act.put, List.setIfInBounds_toArray, List.set_cons_zero, List.set_cons_succ])
        refine wpAnyH_take (i := 6) (oi := { dst := some 33, op := .extract (.tmp 27) 0, type := 29, pos := "exact.go:2843", after := #[⟨5, .data⟩], guard := none }) (v := ?_) rfl (by kernel_rfl) (by kernel_rfl) (by kernel_rfl) (fun _ _ _ h => h) (Or.inl ⟨by rfl, ?_⟩) (by assumption) ?_
        rotate_left
        · intro w hSw
          (try dsimp only at hSw)
          first | (go_simp; done) | (go_simp; with_reducible rfl)
        (try simp only [Act.put, List.setIfInBounds_toArray, List.set_cons_zero, List.set_cons_succ])
        refine wpAnyH_take (i := 7) (oi := { dst := some 34, op := .extract (.tmp 27) 1, type := 4, pos := "exact.go:2843", after := #[⟨5, .data⟩, { on := 9, ground := Ground.gcOnly Departure.lateStores }], guard := none }) (v := ?_) rfl (by kernel_rfl) (by kernel_rfl) (by kernel_rfl) (fun _ _ _ h => h) (Or.inl ⟨by rfl, ?_⟩) (by assumption) ?_
        rotate_left
        · intro w hSw
          (try dsimp only at hSw)
          first | (go_simp; done) | (go_simp; with_reducible rfl)
        (try simp only [Act.put, List.setIfInBounds_toArray, List.set_cons_zero, List.set_cons_succ])
        have q1 := g2.size
        have hne : z2.heap.size < z5.heap.size := hxsz5
        obtain ⟨HNn, HSn, HTn, gn, hnn⟩ := drawnStore (.slice sva zs.length svc) (.slice soa Ls.length soc) g6 hboxz6.out q1 (.inl hne) (.inl hne) (by first | exact Nat.le_refl _ | omega) (by first | exact Nat.le_refl _ | omega) hiR hoR
        obtain ⟨d0, d1⟩ := pair_cells hboxz6.out
        obtain ⟨f0, f1⟩ := pair_frozen hboxz6.out
        have Szn : ((z6.setCell ⟨z2.heap.size, 0, none⟩ (.slice sva zs.length svc)).setCell ⟨z2.heap.size, 1, none⟩ (.slice soa Ls.length soc)).cell? ⟨w.heap.size, 0, none⟩ = some (.slice av nv cv) ∧ ((z6.setCell ⟨z2.heap.size, 0, none⟩ (.slice sva zs.length svc)).setCell ⟨z2.heap.size, 1, none⟩ (.slice soa Ls.length soc)).cell? ⟨w.heap.size, 1, none⟩ = some (.slice ao no co) ∧ ((z6.setCell ⟨z2.heap.size, 0, none⟩ (.slice sva zs.length svc)).setCell ⟨z2.heap.size, 1, none⟩ (.slice soa Ls.length soc)).cell? ⟨w.heap.size + 1, 0, none⟩ = some (.slice bv mv dv) ∧ ((z6.setCell ⟨z2.heap.size, 0, none⟩ (.slice sva zs.length svc)).setCell ⟨z2.heap.size, 1, none⟩ (.slice soa Ls.length soc)).cell? ⟨w.heap.size + 1, 1, none⟩ = some (.slice bo mo eo) := ⟨(gn.cell (block_lt_of_cell HS2.1)).trans HS2.1, (gn.cell (block_lt_of_cell HS2.2.1)).trans HS2.2.1, (gn.cell (block_lt_of_cell HS2.2.2.1)).trans HS2.2.2.1, (gn.cell (block_lt_of_cell HS2.2.2.2)).trans HS2.2.2.2⟩
        refine wpAnyH_ready (rs := [9]) (by kernel_rfl) (by simp) ?_
        refine AllReadyH.cons (o := { dst := none, op := .store 29 (.tmp 6) (.tmp 33), type := 0, pos := "exact.go:2843", after := #[⟨8, .data⟩, ⟨6, .data⟩, ⟨4, .chain⟩, ⟨0, .phase⟩, ⟨1, .phase⟩, ⟨2, .phase⟩, ⟨3, .phase⟩, ⟨4, .phase⟩, ⟨5, .phase⟩, ⟨6, .phase⟩, ⟨7, .textOnly .lateStores⟩, ⟨8, .phase⟩], guard := none }) rfl (fun K hK => ?_) AllReadyH.nil
        go_simp
        refine hK.out _ _ Szn (fun hHeldB => ?_)
        clear hK K hHeldB d0 d1 f0 f1 Szn
        (try simp only [Act.put, List.setIfInBounds_toArray, List.set_cons_zero, List.set_cons_succ])
        generalize hzn : (z6.setCell ⟨z2.heap.size, 0, none⟩ (.slice sva zs.length svc)).setCell ⟨z2.heap.size, 1, none⟩ (.slice soa Ls.length soc) = zn at HNn HSn HTn gn hnn ⊢
        have Szn : zn.cell? ⟨w.heap.size, 0, none⟩ = some (.slice av nv cv) ∧ zn.cell? ⟨w.heap.size, 1, none⟩ = some (.slice ao no co) ∧ zn.cell? ⟨w.heap.size + 1, 0, none⟩ = some (.slice bv mv dv) ∧ zn.cell? ⟨w.heap.size + 1, 1, none⟩ = some (.slice bo mo eo) := ⟨(gn.cell (block_lt_of_cell HS2.1)).trans HS2.1, (gn.cell (block_lt_of_cell HS2.2.1)).trans HS2.2.1, (gn.cell (block_lt_of_cell HS2.2.2.1)).trans HS2.2.2.1, (gn.cell (block_lt_of_cell HS2.2.2.2)).trans HS2.2.2.2⟩
        refine wpAnyH_take (i := 10) (oi := { dst := some 7, op := .assign (.tmp 34), type := 4, pos := "exact.go:2843", after := #[⟨7, .data⟩, ⟨9, .chain⟩, ⟨0, .phase⟩, ⟨1, .phase⟩, ⟨2, .phase⟩, ⟨3, .phase⟩, ⟨4, .phase⟩, ⟨5, .phase⟩, ⟨6, .phase⟩, ⟨7, .phase⟩, ⟨8, .phase⟩, ⟨9, .phase⟩], guard := none }) (v := ?_) rfl (by kernel_rfl) (by kernel_rfl) (by kernel_rfl) (fun _ _ _ h => h) (Or.inl ⟨by rfl, ?_⟩) (by assumption) ?_
        rotate_left
        · intro w hSw
          (try dsimp only at hSw)
          first | (go_simp; done) | (go_simp; with_reducible rfl)
        (try simp only [Act.put, List.setIfInBounds_toArray, List.set_cons_zero, List.set_cons_succ])
        refine wpAnyH_done (by kernel_rfl) ?_ _
        exact hKall _ _ _ _ _ _ _ _ _ _ _ _ _ _ q1 hnn gn HNn HSn HTn
    · skip
      have talloc : Below z1.heap.size z1 (z1.alloc (.cells #[.slice none 0 0, .slice none 0 0] 29)) := (Below.refl _ _).alloc (Nat.le_refl _) _
      have hboxn := Lib.hid (boxAt (Below.refl _ (z1.alloc (.cells #[.slice none 0 0, .slice none 0 0] 29))))
      have hxsn : z1.heap.size < (z1.alloc (.cells #[.slice none 0 0, .slice none 0 0] 29)).heap.size := by show _ < (z1.heap.push _).size; simp
      have galloc : Below w2.heap.size w2 (z1.alloc (.cells #[.slice none 0 0, .slice none 0 0] 29)) := g1.trans (talloc.mono g1.size)
      have Salloc : (z1.alloc (.cells #[.slice none 0 0, .slice none 0 0] 29)).cell? ⟨w.heap.size, 0, none⟩ = some (.slice av nv cv) ∧ (z1.alloc (.cells #[.slice none 0 0, .slice none 0 0] 29)).cell? ⟨w.heap.size, 1, none⟩ = some (.slice ao no co) ∧ (z1.alloc (.cells #[.slice none 0 0, .slice none 0 0] 29)).cell? ⟨w.heap.size + 1, 0, none⟩ = some (.slice bv mv dv) ∧ (z1.alloc (.cells #[.slice none 0 0, .slice none 0 0] 29)).cell? ⟨w.heap.size + 1, 1, none⟩ = some (.slice bo mo eo) := ⟨(galloc.cell (block_lt_of_cell HS2.1)).trans HS2.1, (galloc.cell (block_lt_of_cell HS2.2.1)).trans HS2.2.1, (galloc.cell (block_lt_of_cell HS2.2.2.1)).trans HS2.2.2.1, (galloc.cell (block_lt_of_cell HS2.2.2.2)).trans HS2.2.2.2⟩
      go_simp
      refine hK.out _ _ Salloc (fun hHeldA => ?_)
      clear hK K hHeldA Salloc galloc
      (try simp only [Act.put, List.setIfInBounds_toArray, List.set_cons_zero, List.set_cons_succ])
      generalize z1.alloc (.cells #[.slice none 0 0, .slice none 0 0] 29) = z7 at talloc hboxn hxsn ⊢
      have tz7 := talloc
      have hboxz7 := hboxn
      have hxsz7 := hxsn
      clear talloc hboxn hxsn
      have g7 : Below w2.heap.size w2 z7 := g1.trans (tz7.mono g1.size)
      have Sz7 : z7.cell? ⟨w.heap.size, 0, none⟩ = some (.slice av nv cv) ∧ z7.cell? ⟨w.heap.size, 1, none⟩ = some (.slice ao no co) ∧ z7.cell? ⟨w.heap.size + 1, 0, none⟩ = some (.slice bv mv dv) ∧ z7.cell? ⟨w.heap.size + 1, 1, none⟩ = some (.slice bo mo eo) := ⟨(g7.cell (block_lt_of_cell HS2.1)).trans HS2.1, (g7.cell (block_lt_of_cell HS2.2.1)).trans HS2.2.1, (g7.cell (block_lt_of_cell HS2.2.2.1)).trans HS2.2.2.1, (g7.cell (block_lt_of_cell HS2.2.2.2)).trans HS2.2.2.2⟩
      have az7 : Below z1.heap.size z1 z7 := tz7
      refine wpAnyH_ready (rs := [3]) (by kernel_rfl) (by simp) ?_
      refine AllReadyH.cons (o := { dst := some 31, op := .call { callee := .value (.func 9), args := #[.tmp 30], argTypes := #[25] }, type := 29, pos := "exact.go:2843", after := #[⟨2, .data⟩, ⟨1, .chain⟩], guard := none }) rfl (fun K hK => ?_) AllReadyH.nil
      go_simp
      go_at_call 9
      refine (toCart z7 w.heap.size bv bo mv dv mo eo ys m (HP2.out.below g7 (by omega)) (HQ2.out.below g7 (by omega)) (by have := g7.size; omega) hmv hmo).mono ?_
      rintro e z8 ⟨vb, ob, rfl, hi2, ho2, tz8⟩
      have g8 : Below w2.heap.size w2 z8 := g7.trans (tz8.mono g7.size)
      have Sz8 : z8.cell? ⟨w.heap.size, 0, none⟩ = some (.slice av nv cv) ∧ z8.cell? ⟨w.heap.size, 1, none⟩ = some (.slice ao no co) ∧ z8.cell? ⟨w.heap.size + 1, 0, none⟩ = some (.slice bv mv dv) ∧ z8.cell? ⟨w.heap.size + 1, 1, none⟩ = some (.slice bo mo eo) := ⟨(g8.cell (block_lt_of_cell HS2.1)).trans HS2.1, (g8.cell (block_lt_of_cell HS2.2.1)).trans HS2.2.1, (g8.cell (block_lt_of_cell HS2.2.2.1)).trans HS2.2.2.1, (g8.cell (block_lt_of_cell HS2.2.2.2)).trans HS2.2.2.2⟩
      have az8 : Below z1.heap.size z1 z8 := az7.trans (tz8.mono az7.size)
      have hboxz8 : Hid (z8.heap[z1.heap.size]? = some (.cells #[.slice none 0 0, .slice none 0 0] 29 (0, 0))) := Lib.hid ((tz8.block _ (Array.getElem?_eq_some_iff.1 hboxz7.out).1).trans hboxz7.out)
      have hxsz8 : z1.heap.size < z8.heap.size := Nat.lt_of_lt_of_le hxsz7 tz8.size
      refine hK.out _ _ Sz8 (fun hHeld3 => ?_)
      clear hK K hHeld3
      (try simp only [Act.put, List.setIfInBounds_toArray, List.set_cons_zero, List.set_cons_succ])
      refine wpAnyH_ready (rs := [4]) (by kernel_rfl) (by simp) ?_
      refine AllReadyH.cons (o := { dst := some 32, op := .call { callee := .value (.func 8), args := #[.tmp 29, .tmp 31], argTypes := #[29, 29] }, type := 30, pos := "exact.go:2843", after := #[⟨1, .data⟩, ⟨3, .data⟩, ⟨3, .chain⟩], guard := none }) rfl (fun K hK => ?_) AllReadyH.nil
      go_simp
      go_at_call 8
      have hsp := specTakenC z8 z8.heap.size va oa vb ob xs.length xs.length l.length l.length ys.length ys.length m.length m.length xs l ys m (hi.below az8 (Nat.le_refl _) |>.more az8.size) (ho.below az8 (Nat.le_refl _) |>.more az8.size) hi2 ho2 (Nat.le_refl _) hxl hlo HIt.out hyl hlm HIt2.out
      rw [HR.out, HZs.out, HLs.out] at hsp
      refine hsp.mono ?_
      rintro e z9 ⟨sva, svc, soa, soc, rfl, hiR, hoR, tz9, _, _⟩
      have g9 : Below w2.heap.size w2 z9 := g8.trans (tz9.mono g8.size)
      have Sz9 : z9.cell? ⟨w.heap.size, 0, none⟩ = some (.slice av nv cv) ∧ z9.cell? ⟨w.heap.size, 1, none⟩ = some (.slice ao no co) ∧ z9.cell? ⟨w.heap.size + 1, 0, none⟩ = some (.slice bv mv dv) ∧ z9.cell? ⟨w.heap.size + 1, 1, none⟩ = some (.slice bo mo eo) := ⟨(g9.cell (block_lt_of_cell HS2.1)).trans HS2.1, (g9.cell (block_lt_of_cell HS2.2.1)).trans HS2.2.1, (g9.cell (block_lt_of_cell HS2.2.2.1)).trans HS2.2.2.1, (g9.cell (block_lt_of_cell HS2.2.2.2)).trans HS2.2.2.2⟩
      have az9 : Below z1.heap.size z1 z9 := az8.trans (tz9.mono az8.size)
      have bz9 : Below z8.heap.size z8 z9 := tz9
      have hboxz9 : Hid (z9.heap[z1.heap.size]? = some (.cells #[.slice none 0 0, .slice none 0 0] 29 (0, 0))) := Lib.hid ((tz9.block _ (Array.getElem?_eq_some_iff.1 hboxz8.out).1).trans hboxz8.out)
      have hxsz9 : z1.heap.size < z9.heap.size := Nat.lt_of_lt_of_le hxsz8 tz9.size
      refine hK.out _ _ Sz9 (fun hHeld4 => ?_)
      clear hK K hHeld4
      (try simp only [Act.put, List.setIfInBounds_toArray, List.set_cons_zero, List.set_cons_succ])
      refine wpAnyH_take (i := 5) (oi := { dst := some 27, op := .move (.tmp 32), type := 30, pos := "exact.go:2843", after := #[⟨4, .data⟩], guard := none }) (v := ?_) rfl (by kernel_rfl) (by kernel_rfl) (by kernel_rfl) (fun _ _ _ h => h) (Or.inl ⟨by rfl, ?_⟩) (by assumption) ?_
      rotate_left
      · intro w hSw
        (try dsimp only at hSw)
        first | (go_simp; done) | (go_simp; with_reducible rfl)
      (try simp only [Act.put, List.setIfInBounds_toArray, List.set_cons_zero, List.set_cons_succ])
      refine wpAnyH_take (i := 6) (oi := { dst := some 33, op := .extract (.tmp 27) 0, type := 29, pos := "exact.go:2843", after := #[⟨5, .data⟩], guard := none }) (v := ?_) rfl (by kernel_rfl) (by kernel_rfl) (by kernel_rfl) (fun _ _ _ h => h) (Or.inl ⟨by rfl, ?_⟩) (by assumption) ?_
      rotate_left
      · intro w hSw
        (try dsimp only at hSw)
        first | (go_simp; done) | (go_simp; with_reducible rfl)
      (try simp only [Act.put, List.setIfInBounds_toArray, List.set_cons_zero, List.set_cons_succ])
      refine wpAnyH_take (i := 7) (oi := { dst := some 34, op := .extract (.tmp 27) 1, type := 4, pos := "exact.go:2843", after := #[⟨5, .data⟩, { on := 9, ground := Ground.gcOnly Departure.lateStores }], guard := none }) (v := ?_) rfl (by kernel_rfl) (by kernel_rfl) (by kernel_rfl) (fun _ _ _ h => h) (Or.inl ⟨by rfl, ?_⟩) (by assumption) ?_
      rotate_left
      · intro w hSw
        (try dsimp only at hSw)
        first | (go_simp; done) | (go_simp; with_reducible rfl)
      (try simp only [Act.put, List.setIfInBounds_toArray, List.set_cons_zero, List.set_cons_succ])
      have q1 := g1.size
      have hne : z1.heap.size < z8.heap.size := hxsz8
      obtain ⟨HNn, HSn, HTn, gn, hnn⟩ := drawnStore (.slice sva zs.length svc) (.slice soa Ls.length soc) g9 hboxz9.out q1 (.inl hne) (.inl hne) (by first | exact Nat.le_refl _ | omega) (by first | exact Nat.le_refl _ | omega) hiR hoR
      obtain ⟨d0, d1⟩ := pair_cells hboxz9.out
      obtain ⟨f0, f1⟩ := pair_frozen hboxz9.out
      have Szn : ((z9.setCell ⟨z1.heap.size, 0, none⟩ (.slice sva zs.length svc)).setCell ⟨z1.heap.size, 1, none⟩ (.slice soa Ls.length soc)).cell? ⟨w.heap.size, 0, none⟩ = some (.slice av nv cv) ∧ ((z9.setCell ⟨z1.heap.size, 0, none⟩ (.slice sva zs.length svc)).setCell ⟨z1.heap.size, 1, none⟩ (.slice soa Ls.length soc)).cell? ⟨w.heap.size, 1, none⟩ = some (.slice ao no co) ∧ ((z9.setCell ⟨z1.heap.size, 0, none⟩ (.slice sva zs.length svc)).setCell ⟨z1.heap.size, 1, none⟩ (.slice soa Ls.length soc)).cell? ⟨w.heap.size + 1, 0, none⟩ = some (.slice bv mv dv) ∧ ((z9.setCell ⟨z1.heap.size, 0, none⟩ (.slice sva zs.length svc)).setCell ⟨z1.heap.size, 1, none⟩ (.slice soa Ls.length soc)).cell? ⟨w.heap.size + 1, 1, none⟩ = some (.slice bo mo eo) := ⟨(gn.cell (block_lt_of_cell HS2.1)).trans HS2.1, (gn.cell (block_lt_of_cell HS2.2.1)).trans HS2.2.1, (gn.cell (block_lt_of_cell HS2.2.2.1)).trans HS2.2.2.1, (gn.cell (block_lt_of_cell HS2.2.2.2)).trans HS2.2.2.2⟩
      refine wpAnyH_ready (rs := [9]) (by kernel_rfl) (by simp) ?_
      refine AllReadyH.cons (o := { dst := none, op := .store 29 (.tmp 6) (.tmp 33), type := 0, pos := "exact.go:2843", after := #[⟨8, .data⟩, ⟨6, .data⟩, ⟨4, .chain⟩, ⟨0, .phase⟩, ⟨1, .phase⟩, ⟨2, .phase⟩, ⟨3, .phase⟩, ⟨4, .phase⟩, ⟨5, .phase⟩, ⟨6, .phase⟩, ⟨7, .textOnly .lateStores⟩, ⟨8, .phase⟩], guard := none }) rfl (fun K hK => ?_) AllReadyH.nil
      go_simp
      refine hK.out _ _ Szn (fun hHeldB => ?_)
      clear hK K hHeldB d0 d1 f0 f1 Szn
      (try simp only [Act.put, List.setIfInBounds_toArray, List.set_cons_zero, List.set_cons_succ])
      generalize hzn : (z9.setCell ⟨z1.heap.size, 0, none⟩ (.slice sva zs.length svc)).setCell ⟨z1.heap.size, 1, none⟩ (.slice soa Ls.length soc) = zn at HNn HSn HTn gn hnn ⊢
      have Szn : zn.cell? ⟨w.heap.size, 0, none⟩ = some (.slice av nv cv) ∧ zn.cell? ⟨w.heap.size, 1, none⟩ = some (.slice ao no co) ∧ zn.cell? ⟨w.heap.size + 1, 0, none⟩ = some (.slice bv mv dv) ∧ zn.cell? ⟨w.heap.size + 1, 1, none⟩ = some (.slice bo mo eo) := ⟨(gn.cell (block_lt_of_cell HS2.1)).trans HS2.1, (gn.cell (block_lt_of_cell HS2.2.1)).trans HS2.2.1, (gn.cell (block_lt_of_cell HS2.2.2.1)).trans HS2.2.2.1, (gn.cell (block_lt_of_cell HS2.2.2.2)).trans HS2.2.2.2⟩
      refine wpAnyH_take (i := 10) (oi := { dst := some 7, op := .assign (.tmp 34), type := 4, pos := "exact.go:2843", after := #[⟨7, .data⟩, ⟨9, .chain⟩, ⟨0, .phase⟩, ⟨1, .phase⟩, ⟨2, .phase⟩, ⟨3, .phase⟩, ⟨4, .phase⟩, ⟨5, .phase⟩, ⟨6, .phase⟩, ⟨7, .phase⟩, ⟨8, .phase⟩, ⟨9, .phase⟩], guard := none }) (v := ?_) rfl (by kernel_rfl) (by kernel_rfl) (by kernel_rfl) (fun _ _ _ h => h) (Or.inl ⟨by rfl, ?_⟩) (by assumption) ?_
      rotate_left
      · intro w hSw
        (try dsimp only at hSw)
        first | (go_simp; done) | (go_simp; with_reducible rfl)
      (try simp only [Act.put, List.setIfInBounds_toArray, List.set_cons_zero, List.set_cons_succ])
      refine wpAnyH_done (by kernel_rfl) ?_ _
      exact hKall _ _ _ _ _ _ _ _ _ _ _ _ _ _ q1 hnn gn HNn HSn HTn
  · skip
    have talloc : Below z0.heap.size z0 (z0.alloc (.cells #[.slice none 0 0, .slice none 0 0] 29)) := (Below.refl _ _).alloc (Nat.le_refl _) _
    have hboxn := Lib.hid (boxAt (Below.refl _ (z0.alloc (.cells #[.slice none 0 0, .slice none 0 0] 29))))
    have hxsn : z0.heap.size < (z0.alloc (.cells #[.slice none 0 0, .slice none 0 0] 29)).heap.size := by show _ < (z0.heap.push _).size; simp
    have galloc : Below w2.heap.size w2 (z0.alloc (.cells #[.slice none 0 0, .slice none 0 0] 29)) := g0.trans (talloc.mono g0.size)
    have Salloc : (z0.alloc (.cells #[.slice none 0 0, .slice none 0 0] 29)).cell? ⟨w.heap.size, 0, none⟩ = some (.slice av nv cv) ∧ (z0.alloc (.cells #[.slice none 0 0, .slice none 0 0] 29)).cell? ⟨w.heap.size, 1, none⟩ = some (.slice ao no co) ∧ (z0.alloc (.cells #[.slice none 0 0, .slice none 0 0] 29)).cell? ⟨w.heap.size + 1, 0, none⟩ = some (.slice bv mv dv) ∧ (z0.alloc (.cells #[.slice none 0 0, .slice none 0 0] 29)).cell? ⟨w.heap.size + 1, 1, none⟩ = some (.slice bo mo eo) := ⟨(galloc.cell (block_lt_of_cell HS2.1)).trans HS2.1, (galloc.cell (block_lt_of_cell HS2.2.1)).trans HS2.2.1, (galloc.cell (block_lt_of_cell HS2.2.2.1)).trans HS2.2.2.1, (galloc.cell (block_lt_of_cell HS2.2.2.2)).trans HS2.2.2.2⟩
    go_simp
    refine hK.out _ _ Salloc (fun hHeldA => ?_)
    clear hK K hHeldA Salloc galloc
    (try simp only [Act.put, List.setIfInBounds_toArray, List.set_cons_zero, List.set_cons_succ])
    generalize z0.alloc (.cells #[.slice none 0 0, .slice none 0 0] 29) = z10 at talloc hboxn hxsn ⊢
    have tz10 := talloc
    have hboxz10 := hboxn
    have hxsz10 := hxsn
    clear talloc hboxn hxsn
    have g10 : Below w2.heap.size w2 z10 := g0.trans (tz10.mono g0.size)
    have Sz10 : z10.cell? ⟨w.heap.size, 0, none⟩ = some (.slice av nv cv) ∧ z10.cell? ⟨w.heap.size, 1, none⟩ = some (.slice ao no co) ∧ z10.cell? ⟨w.heap.size + 1, 0, none⟩ = some (.slice bv mv dv) ∧ z10.cell? ⟨w.heap.size + 1, 1, none⟩ = some (.slice bo mo eo) := ⟨(g10.cell (block_lt_of_cell HS2.1)).trans HS2.1, (g10.cell (block_lt_of_cell HS2.2.1)).trans HS2.2.1, (g10.cell (block_lt_of_cell HS2.2.2.1)).trans HS2.2.2.1, (g10.cell (block_lt_of_cell HS2.2.2.2)).trans HS2.2.2.2⟩
    refine wpAnyH_ready (rs := [1]) (by kernel_rfl) (by simp) ?_
    refine AllReadyH.cons (o := { dst := some 29, op := .call { callee := .value (.func 9), args := #[.tmp 28], argTypes := #[25] }, type := 29, pos := "exact.go:2843", after := #[⟨0, .data⟩], guard := none }) rfl (fun K hK => ?_) AllReadyH.nil
    go_simp
    go_at_call 9
    refine (toCart z10 w.heap.size av ao nv cv no co xs l (HV2.out.below g10 (by omega)) (HO2.out.below g10 (by omega)) (by have := g10.size; omega) hnv hno).mono ?_
    rintro e z11 ⟨va, oa, rfl, hi, ho, tz11⟩
    have g11 : Below w2.heap.size w2 z11 := g10.trans (tz11.mono g10.size)
    have Sz11 : z11.cell? ⟨w.heap.size, 0, none⟩ = some (.slice av nv cv) ∧ z11.cell? ⟨w.heap.size, 1, none⟩ = some (.slice ao no co) ∧ z11.cell? ⟨w.heap.size + 1, 0, none⟩ = some (.slice bv mv dv) ∧ z11.cell? ⟨w.heap.size + 1, 1, none⟩ = some (.slice bo mo eo) := ⟨(g11.cell (block_lt_of_cell HS2.1)).trans HS2.1, (g11.cell (block_lt_of_cell HS2.2.1)).trans HS2.2.1, (g11.cell (block_lt_of_cell HS2.2.2.1)).trans HS2.2.2.1, (g11.cell (block_lt_of_cell HS2.2.2.2)).trans HS2.2.2.2⟩
    have hboxz11 : Hid (z11.heap[z0.heap.size]? = some (.cells #[.slice none 0 0, .slice none 0 0] 29 (0, 0))) := Lib.hid ((tz11.block _ (Array.getElem?_eq_some_iff.1 hboxz10.out).1).trans hboxz10.out)
    have hxsz11 : z0.heap.size < z11.heap.size := Nat.lt_of_lt_of_le hxsz10 tz11.size
    refine hK.out _ _ Sz11 (fun hHeld2 => ?_)
    clear hK K hHeld2
    (try simp only [Act.put, List.setIfInBounds_toArray, List.set_cons_zero, List.set_cons_succ])
    refine wpAnyH_ready (rs := [3]) (by kernel_rfl) (by simp) ?_
    refine AllReadyH.cons (o := { dst := some 31, op := .call { callee := .value (.func 9), args := #[.tmp 30], argTypes := #[25] }, type := 29, pos := "exact.go:2843", after := #[⟨2, .data⟩, ⟨1, .chain⟩], guard := none }) rfl (fun K hK => ?_) AllReadyH.nil
    go_simp
    go_at_call 9
    refine (toCart z11 w.heap.size bv bo mv dv mo eo ys m (HP2.out.below g11 (by omega)) (HQ2.out.below g11 (by omega)) (by have := g11.size; omega) hmv hmo).mono ?_
    rintro e z12 ⟨vb, ob, rfl, hi2, ho2, tz12⟩
    have g12 : Below w2.heap.size w2 z12 := g11.trans (tz12.mono g11.size)
    have Sz12 : z12.cell? ⟨w.heap.size, 0, none⟩ = some (.slice av nv cv) ∧ z12.cell? ⟨w.heap.size, 1, none⟩ = some (.slice ao no co) ∧ z12.cell? ⟨w.heap.size + 1, 0, none⟩ = some (.slice bv mv dv) ∧ z12.cell? ⟨w.heap.size + 1, 1, none⟩ = some (.slice bo mo eo) := ⟨(g12.cell (block_lt_of_cell HS2.1)).trans HS2.1, (g12.cell (block_lt_of_cell HS2.2.1)).trans HS2.2.1, (g12.cell (block_lt_of_cell HS2.2.2.1)).trans HS2.2.2.1, (g12.cell (block_lt_of_cell HS2.2.2.2)).trans HS2.2.2.2⟩
    have az12 : Below z11.heap.size z11 z12 := tz12
    have hboxz12 : Hid (z12.heap[z0.heap.size]? = some (.cells #[.slice none 0 0, .slice none 0 0] 29 (0, 0))) := Lib.hid ((tz12.block _ (Array.getElem?_eq_some_iff.1 hboxz11.out).1).trans hboxz11.out)
    have hxsz12 : z0.heap.size < z12.heap.size := Nat.lt_of_lt_of_le hxsz11 tz12.size
    refine hK.out _ _ Sz12 (fun hHeld3 => ?_)
    clear hK K hHeld3
    (try simp only [Act.put, List.setIfInBounds_toArray, List.set_cons_zero, List.set_cons_succ])
    refine wpAnyH_ready (rs := [4]) (by kernel_rfl) (by simp) ?_
    refine AllReadyH.cons (o := { dst := some 32, op := .call { callee := .value (.func 8), args := #[.tmp 29, .tmp 31], argTypes := #[29, 29] }, type := 30, pos := "exact.go:2843", after := #[⟨1, .data⟩, ⟨3, .data⟩, ⟨3, .chain⟩], guard := none }) rfl (fun K hK => ?_) AllReadyH.nil
    go_simp
    go_at_call 8
    have hsp := specTakenC z12 z12.heap.size va oa vb ob xs.length xs.length l.length l.length ys.length ys.length m.length m.length xs l ys m (hi.below az12 (Nat.le_refl _) |>.more az12.size) (ho.below az12 (Nat.le_refl _) |>.more az12.size) hi2 ho2 (Nat.le_refl _) hxl hlo HIt.out hyl hlm HIt2.out
    rw [HR.out, HZs.out, HLs.out] at hsp
    refine hsp.mono ?_
    rintro e z13 ⟨sva, svc, soa, soc, rfl, hiR, hoR, tz13, _, _⟩
    have g13 : Below w2.heap.size w2 z13 := g12.trans (tz13.mono g12.size)
    have Sz13 : z13.cell? ⟨w.heap.size, 0, none⟩ = some (.slice av nv cv) ∧ z13.cell? ⟨w.heap.size, 1, none⟩ = some (.slice ao no co) ∧ z13.cell? ⟨w.heap.size + 1, 0, none⟩ = some (.slice bv mv dv) ∧ z13.cell? ⟨w.heap.size + 1, 1, none⟩ = some (.slice bo mo eo) := ⟨(g13.cell (block_lt_of_cell HS2.1)).trans HS2.1, (g13.cell (block_lt_of_cell HS2.2.1)).trans HS2.2.1, (g13.cell (block_lt_of_cell HS2.2.2.1)).trans HS2.2.2.1, (g13.cell (block_lt_of_cell HS2.2.2.2)).trans HS2.2.2.2⟩
    have az13 : Below z11.heap.size z11 z13 := az12.trans (tz13.mono az12.size)
    have bz13 : Below z12.heap.size z12 z13 := tz13
    have hboxz13 : Hid (z13.heap[z0.heap.size]? = some (.cells #[.slice none 0 0, .slice none 0 0] 29 (0, 0))) := Lib.hid ((tz13.block _ (Array.getElem?_eq_some_iff.1 hboxz12.out).1).trans hboxz12.out)
    have hxsz13 : z0.heap.size < z13.heap.size := Nat.lt_of_lt_of_le hxsz12 tz13.size
    refine hK.out _ _ Sz13 (fun hHeld4 => ?_)
    clear hK K hHeld4
    (try simp only [Act.put, List.setIfInBounds_toArray, List.set_cons_zero, List.set_cons_succ])
    refine wpAnyH_take (i := 5) (oi := { dst := some 27, op := .move (.tmp 32), type := 30, pos := "exact.go:2843", after := #[⟨4, .data⟩], guard := none }) (v := ?_) rfl (by kernel_rfl) (by kernel_rfl) (by kernel_rfl) (fun _ _ _ h => h) (Or.inl ⟨by rfl, ?_⟩) (by assumption) ?_
    rotate_left
    · intro w hSw
      (try dsimp only at hSw)
      first | (go_simp; done) | (go_simp; with_reducible rfl)
    (try simp only [Act.put, List.setIfInBounds_toArray, List.set_cons_zero, List.set_cons_succ])
    refine wpAnyH_take (i := 6) (oi := { dst := some 33, op := .extract (.tmp 27) 0, type := 29, pos := "exact.go:2843", after := #[⟨5, .data⟩], guard := none }) (v := ?_) rfl (by kernel_rfl) (by kernel_rfl) (by kernel_rfl) (fun _ _ _ h => h) (Or.inl ⟨by rfl, ?_⟩) (by assumption) ?_
    rotate_left
    · intro w hSw
      (try dsimp only at hSw)
      first | (go_simp; done) | (go_simp; with_reducible rfl)
    (try simp only [Act.put, List.setIfInBounds_toArray, List.set_cons_zero, List.set_cons_succ])
    refine wpAnyH_take (i := 7) (oi := { dst := some 34, op := .extract (.tmp 27) 1, type := 4, pos := "exact.go:2843", after := #[⟨5, .data⟩, { on := 9, ground := Ground.gcOnly Departure.lateStores }], guard := none }) (v := ?_) rfl (by kernel_rfl) (by kernel_rfl) (by kernel_rfl) (fun _ _ _ h => h) (Or.inl ⟨by rfl, ?_⟩) (by assumption) ?_
    rotate_left
    · intro w hSw
      (try dsimp only at hSw)
      first | (go_simp; done) | (go_simp; with_reducible rfl)
    (try simp only [Act.put, List.setIfInBounds_toArray, List.set_cons_zero, List.set_cons_succ])
    have q1 := g0.size
    have hne : z0.heap.size < z12.heap.size := hxsz12
    obtain ⟨HNn, HSn, HTn, gn, hnn⟩ := drawnStore (.slice sva zs.length svc) (.slice soa Ls.length soc) g13 hboxz13.out q1 (.inl hne) (.inl hne) (by first | exact Nat.le_refl _ | omega) (by first | exact Nat.le_refl _ | omega) hiR hoR
    obtain ⟨d0, d1⟩ := pair_cells hboxz13.out
    obtain ⟨f0, f1⟩ := pair_frozen hboxz13.out
    have Szn : ((z13.setCell ⟨z0.heap.size, 0, none⟩ (.slice sva zs.length svc)).setCell ⟨z0.heap.size, 1, none⟩ (.slice soa Ls.length soc)).cell? ⟨w.heap.size, 0, none⟩ = some (.slice av nv cv) ∧ ((z13.setCell ⟨z0.heap.size, 0, none⟩ (.slice sva zs.length svc)).setCell ⟨z0.heap.size, 1, none⟩ (.slice soa Ls.length soc)).cell? ⟨w.heap.size, 1, none⟩ = some (.slice ao no co) ∧ ((z13.setCell ⟨z0.heap.size, 0, none⟩ (.slice sva zs.length svc)).setCell ⟨z0.heap.size, 1, none⟩ (.slice soa Ls.length soc)).cell? ⟨w.heap.size + 1, 0, none⟩ = some (.slice bv mv dv) ∧ ((z13.setCell ⟨z0.heap.size, 0, none⟩ (.slice sva zs.length svc)).setCell ⟨z0.heap.size, 1, none⟩ (.slice soa Ls.length soc)).cell? ⟨w.heap.size + 1, 1, none⟩ = some (.slice bo mo eo) := ⟨(gn.cell (block_lt_of_cell HS2.1)).trans HS2.1, (gn.cell (block_lt_of_cell HS2.2.1)).trans HS2.2.1, (gn.cell (block_lt_of_cell HS2.2.2.1)).trans HS2.2.2.1, (gn.cell (block_lt_of_cell HS2.2.2.2)).trans HS2.2.2.2⟩
    refine wpAnyH_ready (rs := [9]) (by kernel_rfl) (by simp) ?_
    refine AllReadyH.cons (o := { dst := none, op := .store 29 (.tmp 6) (.tmp 33), type := 0, pos := "exact.go:2843", after := #[⟨8, .data⟩, ⟨6, .data⟩, ⟨4, .chain⟩, ⟨0, .phase⟩, ⟨1, .phase⟩, ⟨2, .phase⟩, ⟨3, .phase⟩, ⟨4, .phase⟩, ⟨5, .phase⟩, ⟨6, .phase⟩, ⟨7, .textOnly .lateStores⟩, ⟨8, .phase⟩], guard := none }) rfl (fun K hK => ?_) AllReadyH.nil
    go_simp
    refine hK.out _ _ Szn (fun hHeldB => ?_)
    clear hK K hHeldB d0 d1 f0 f1 Szn
    (try simp only [Act.put, List.setIfInBounds_toArray, List.set_cons_zero, List.set_cons_succ])
    generalize hzn : (z13.setCell ⟨z0.heap.size, 0, none⟩ (.slice sva zs.length svc)).setCell ⟨z0.heap.size, 1, none⟩ (.slice soa Ls.length soc) = zn at HNn HSn HTn gn hnn ⊢
    have Szn : zn.cell? ⟨w.heap.size, 0, none⟩ = some (.slice av nv cv) ∧ zn.cell? ⟨w.heap.size, 1, none⟩ = some (.slice ao no co) ∧ zn.cell? ⟨w.heap.size + 1, 0, none⟩ = some (.slice bv mv dv) ∧ zn.cell? ⟨w.heap.size + 1, 1, none⟩ = some (.slice bo mo eo) := ⟨(gn.cell (block_lt_of_cell HS2.1)).trans HS2.1, (gn.cell (block_lt_of_cell HS2.2.1)).trans HS2.2.1, (gn.cell (block_lt_of_cell HS2.2.2.1)).trans HS2.2.2.1, (gn.cell (block_lt_of_cell HS2.2.2.2)).trans HS2.2.2.2⟩
    refine wpAnyH_take (i := 10) (oi := { dst := some 7, op := .assign (.tmp 34), type := 4, pos := "exact.go:2843", after := #[⟨7, .data⟩, ⟨9, .chain⟩, ⟨0, .phase⟩, ⟨1, .phase⟩, ⟨2, .phase⟩, ⟨3, .phase⟩, ⟨4, .phase⟩, ⟨5, .phase⟩, ⟨6, .phase⟩, ⟨7, .phase⟩, ⟨8, .phase⟩, ⟨9, .phase⟩], guard := none }) (v := ?_) rfl (by kernel_rfl) (by kernel_rfl) (by kernel_rfl) (fun _ _ _ h => h) (Or.inl ⟨by rfl, ?_⟩) (by assumption) ?_
    rotate_left
    · intro w hSw
      (try dsimp only at hSw)
      first | (go_simp; done) | (go_simp; with_reducible rfl)
    (try simp only [Act.put, List.setIfInBounds_toArray, List.set_cons_zero, List.set_cons_succ])
    refine wpAnyH_done (by kernel_rfl) ?_ _
    exact hKall _ _ _ _ _ _ _ _ _ _ _ _ _ _ q1 hnn gn HNn HSn HTn
end Go.Proofs.Ytdbdmfaphdjdpaa
