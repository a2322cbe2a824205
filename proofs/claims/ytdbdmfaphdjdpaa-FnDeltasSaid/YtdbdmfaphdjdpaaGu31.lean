/- Walks and mathematics that several claims share, part 31. -/
import Derived.Test.YtdbdmfaphdjdpaaGu28
import Derived.Test.YtdbdmfaphdjdpaaGu30
import Derived.Test.YtdbdmfaphdjdpaaGu26
import Derived.Test.YtdbdmfaphdjdpaaGu18
import Derived.Deep.Cut
import Derived.Test.YtdbdmfaphdjdpaaGuA
namespace Go.Proofs.Ytdbdmfaphdjdpaa
set_option maxRecDepth 100000
open Go.RowKit
set_option linter.unusedVariables false
set_option linter.unusedSimpArgs false

theorem storeS {w0 z : World} {b g lo hi n : Nat} {oa : Option Addr} {l : List OpV} {x y : Value} {T : TypeId} (u v : Value) (hbel : Below b w0 z) (hbox : z.heap[g]? = some (.cells #[x, y] T (0, 0))) (hn : b ≤ g) (hne : g < lo ∨ hi ≤ g) (hhi : hi ≤ z.heap.size) (h2 : OwnOps z lo hi oa n l) :
  Hid (((z.setCell ⟨g, 0, none⟩ u).setCell ⟨g, 1, none⟩ v).heap[g]? = some (.cells #[u, v] T (0, 0))) ∧ Hid (Ops ((z.setCell ⟨g, 0, none⟩ u).setCell ⟨g, 1, none⟩ v) ((z.setCell ⟨g, 0, none⟩ u).setCell ⟨g, 1, none⟩ v).heap.size oa n l) ∧ Below b w0 ((z.setCell ⟨g, 0, none⟩ u).setCell ⟨g, 1, none⟩ v) := by
 have hb1 := (hbel.setCell (p := ⟨g, 0, none⟩) hn u).setCell (p := ⟨g, 1, none⟩) hn v
 have hsz : ((z.setCell ⟨g, 0, none⟩ u).setCell ⟨g, 1, none⟩ v).heap.size = z.heap.size := pair_size _ _ _ _
 exact ⟨pair_set u v hbox, ((h2.kept fun j a1 a2 => pair_other _ _ (by omega)).ops).more (by omega), hb1⟩
theorem storeN {w0 z : World} {b g : Nat} {x y : Value} {T : TypeId} (u v : Value) (hbel : Below b w0 z) (hbox : z.heap[g]? = some (.cells #[x, y] T (0, 0))) (hn : b ≤ g) :
  Hid (((z.setCell ⟨g, 0, none⟩ u).setCell ⟨g, 1, none⟩ v).heap[g]? = some (.cells #[u, v] T (0, 0))) ∧ Below b w0 ((z.setCell ⟨g, 0, none⟩ u).setCell ⟨g, 1, none⟩ v) :=
 ⟨pair_set u v hbox, (hbel.setCell (p := ⟨g, 0, none⟩) hn u).setCell (p := ⟨g, 1, none⟩) hn v⟩
set_option maxHeartbeats 80000000 in
theorem implTakenK (w : World) (B : Nat) (av ao bv bo : Option Addr) (nv cv no co mv dv mo eo : Nat) (xs : List Int) (l : List OpV) (ys : List Int) (m : List OpV) (hx : Ints w B av nv xs) (h : Ops w B ao no l) (hy : Ints w B bv mv ys) (g : Ops w B bo mo m) (hB : B ≤ w.heap.size) (hv : nv ≤ 1048576) (hc : no ≤ co) (hc2 : Fits no co) (hm : ∀ i, i < no → (atOp l i).item.size ≤ 1048576) (hv2 : mv ≤ 1048576) (he : mo ≤ eo) (hn2 : mo ≤ 1048576) (hm2 : ∀ i, i < mo → (atOp m i).item.size ≤ 1048576) :
  Calls Try.prog 10 #[.agg #[.slice av nv cv, .slice ao no co], .agg #[.slice bv mv dv, .slice bo mo eo]] w (CartPostK (takB xs l ys m) (takVs xs ys (takB xs l ys m)) (takOs l m (takB xs l ys m)) w) := by
 have hT := TriF.mk0 w #[.slice av nv cv, .slice ao no co] #[.slice bv mv dv, .slice bo mo eo] #[.slice none 0 0, .slice none 0 0] 29 29 29
 have HV := Lib.hid (hx.below hT.bel hB)
 have HO := Lib.hid (h.below hT.bel hB)
 have HY := Lib.hid (hy.below hT.bel hB)
 have HG := Lib.hid (g.below hT.bel hB)
 have HT := Lib.hid hT
 have HLx := Lib.hid hx.1
 have HL := Lib.hid h.1
 have HLm := Lib.hid g.1
 have HM := Lib.hid hm
 have HM2 := Lib.hid hm2
 have hBw := hB
 have hn : no ≤ 1048576 := hc2.1
 have HFt := Lib.hid hc2
 obtain ⟨R, hR⟩ : ∃ R, takB xs l ys m = R := ⟨_, rfl⟩
 have HR := Lib.hid hR
 clear hx h hy g hT hB hm hm2 hc2
 rw [hR]
 clear hR
 go_enter Try.func10, Try.ntmps10
 go_wp2_with fail
 generalize ((w.alloc (.cells #[.slice av nv cv, .slice ao no co] 29)).alloc (.cells #[.slice bv mv dv, .slice bo mo eo] 29)).alloc (.cells #[.slice none 0 0, .slice none 0 0] 29) = w0 at HV HO HY HG HT ⊢
 have hsz0 := HT.out.bel.size
 have hsz1 := lt_of_row HT.out.res
 refine (implCartOk w0 B av ao nv cv no co xs l HV.out HO.out (by omega) hv hc HFt.out).mono ?_
 rintro e w1 ⟨rfl, hb1⟩
 have HV1 := Lib.hid (HV.out.below hb1 (by omega))
 have HO1 := Lib.hid (HO.out.below hb1 (by omega))
 have HY1 := Lib.hid (HY.out.below hb1 (by omega))
 have HG1 := Lib.hid (HG.out.below hb1 (by omega))
 have HT1 := Lib.hid (HT.out.next hb1)
 have hs1 := hb1.size
 clear hb1 HV HO HY HG HT
 obtain ⟨ca, hca⟩ : ∃ b, cartB xs l = b := ⟨_, rfl⟩
 have HCa := Lib.hid hca
 rw [hca]
 clear hca
 cases ca
 ·skip
  obtain rfl : R = false := by rw [← HR.out]; exact tak_no1 HCa.out
  obtain ⟨r0, r1⟩ := pair_cells HT1.out.res
  obtain ⟨fz0, fz1⟩ := pair_frozen HT1.out.res
  have HXr := Lib.hid (HT1.out.set2 (.slice none 0 0) (.slice none 0 0)).1
  have HBr2 := Lib.hid (HT1.out.set2 (.slice none 0 0) (.slice none 0 0)).2
  go_wp2
  change bodyPost _ _ _ _ _ ((w1.setCell ⟨w.heap.size + 1 + 1, 0, none⟩ (.slice none 0 0)).setCell ⟨w.heap.size + 1 + 1, 1, none⟩ (.slice none 0 0))
  generalize (w1.setCell ⟨w.heap.size + 1 + 1, 0, none⟩ (.slice none 0 0)).setCell ⟨w.heap.size + 1 + 1, 1, none⟩ (.slice none 0 0) = wf at HXr HBr2 ⊢
  obtain ⟨q0, q1⟩ := pair_cells HXr.out
  have hsf := HBr2.out.size
  exact bodyPost_ret (v := .tuple #[.agg #[.slice none 0 0, .slice none 0 0], .bool false]) (by simp [results, Try.results10, go_sem, q0, q1]) rfl ⟨none, 0, none, 0, w.heap.size, rfl, own_nil _ _ _ _, own_none _ _ _ _, Nat.le_refl _, hsf, HBr2.out, caps_nil⟩
 obtain ⟨b0, b1⟩ := pair_cells HT1.out.snd
 go_wp2_with fail
 refine (implPartOk w1 B bv bo mv dv mo eo ys m HY1.out HG1.out (by omega) hv2 hn2).mono ?_
 rintro e w2 ⟨rfl, hb2⟩
 have HV2 := Lib.hid (HV1.out.below hb2 (by omega))
 have HO2 := Lib.hid (HO1.out.below hb2 (by omega))
 have HY2 := Lib.hid (HY1.out.below hb2 (by omega))
 have HG2 := Lib.hid (HG1.out.below hb2 (by omega))
 have HT2 := Lib.hid (HT1.out.next hb2)
 have hs2 := hb2.size
 clear hb2 HV1 HO1 HY1 HG1 HT1 b0 b1
 obtain ⟨cb, hcb⟩ : ∃ b, partB ys m = b := ⟨_, rfl⟩
 have HCb := Lib.hid hcb
 rw [hcb]
 clear hcb
 cases cb
 ·skip
  obtain rfl : R = false := by rw [← HR.out]; exact tak_no2 HCb.out
  obtain ⟨r0, r1⟩ := pair_cells HT2.out.res
  obtain ⟨fz0, fz1⟩ := pair_frozen HT2.out.res
  have HXr := Lib.hid (HT2.out.set2 (.slice none 0 0) (.slice none 0 0)).1
  have HBr2 := Lib.hid (HT2.out.set2 (.slice none 0 0) (.slice none 0 0)).2
  go_wp2
  change bodyPost _ _ _ _ _ ((w2.setCell ⟨w.heap.size + 1 + 1, 0, none⟩ (.slice none 0 0)).setCell ⟨w.heap.size + 1 + 1, 1, none⟩ (.slice none 0 0))
  generalize (w2.setCell ⟨w.heap.size + 1 + 1, 0, none⟩ (.slice none 0 0)).setCell ⟨w.heap.size + 1 + 1, 1, none⟩ (.slice none 0 0) = wf at HXr HBr2 ⊢
  obtain ⟨q0, q1⟩ := pair_cells HXr.out
  have hsf := HBr2.out.size
  exact bodyPost_ret (v := .tuple #[.agg #[.slice none 0 0, .slice none 0 0], .bool false]) (by simp [results, Try.results10, go_sem, q0, q1]) rfl ⟨none, 0, none, 0, w.heap.size, rfl, own_nil _ _ _ _, own_none _ _ _ _, Nat.le_refl _, hsf, HBr2.out, caps_nil⟩
 have HIl := Lib.hid (cart_inc HCa.out)
 have HIm := Lib.hid (part_split HCb.out).2.2
 have hlt2 := lt_of_row HT2.out.res
 go_upto_region 3 with fail
 rename_i KR hKR
 have hKno : unionO l m = none → ∀ (nW : Nat) (u18 u19 u20 u21 u22 u23 u24 u25 u26 u27 : Value) (w3 : World), Below w2.heap.size w2 w3 → KR { tmps := #[.agg #[.slice av nv cv, .slice ao no co], .agg #[.slice bv mv dv, .slice bo mo eo], .pointer (some ⟨w.heap.size, 0, none⟩), .pointer (some ⟨w.heap.size + 1, 0, none⟩), .pointer (some ⟨w.heap.size + 1 + 1, 0, none⟩), .bool false, .pointer (some ⟨nW, 0, none⟩), .bool false, undef, .agg #[.slice av nv cv, .slice ao no co], .bool true, .bool false, .bool false, .agg #[.slice bv mv dv, .slice bo mo eo], .bool true, .bool false, .bool false, undef, u18, u19, u20, u21, u22, u23, u24, u25, u26, u27, undef, undef, undef, undef, undef, undef, undef, undef, undef, undef, undef, undef, undef, undef, undef, undef, undef], defers := [] } w3 := by
  intro hnone nW u18 u19 u20 u21 u22 u23 u24 u25 u26 u27 w3 hb
  have HN := Lib.hid hnone
  have HT3 := Lib.hid (HT2.out.next hb)
  clear hnone hb
  apply hKR
  clear hKR
  obtain rfl : R = false := by rw [← HR.out]; exact tak_no3 HN.out
  obtain ⟨r0, r1⟩ := pair_cells HT3.out.res
  obtain ⟨fz0, fz1⟩ := pair_frozen HT3.out.res
  have HXr := Lib.hid (HT3.out.set2 (.slice none 0 0) (.slice none 0 0)).1
  have HBr2 := Lib.hid (HT3.out.set2 (.slice none 0 0) (.slice none 0 0)).2
  go_wp2
  change bodyPost _ _ _ _ _ ((w3.setCell ⟨w.heap.size + 1 + 1, 0, none⟩ (.slice none 0 0)).setCell ⟨w.heap.size + 1 + 1, 1, none⟩ (.slice none 0 0))
  generalize (w3.setCell ⟨w.heap.size + 1 + 1, 0, none⟩ (.slice none 0 0)).setCell ⟨w.heap.size + 1 + 1, 1, none⟩ (.slice none 0 0) = wf at HXr HBr2 ⊢
  obtain ⟨q0, q1⟩ := pair_cells HXr.out
  have hsf := HBr2.out.size
  exact bodyPost_ret (v := .tuple #[.agg #[.slice none 0 0, .slice none 0 0], .bool false]) (by simp [results, Try.results10, go_sem, q0, q1]) rfl ⟨none, 0, none, 0, w.heap.size, rfl, own_nil _ _ _ _, own_none _ _ _ _, Nat.le_refl _, hsf, HBr2.out, caps_nil⟩
 have hKyes : ∀ (U : List OpV) (a : Option Addr) (c : Nat), unionO l m = some U → Caps a U.length c → (∀ x, a = some x → ∃ g o, x = ⟨g, o, none⟩) → ∀ (nW : Nat) (u18 u19 u20 u21 u22 u23 u24 u25 u26 u27 : Value) (w3 : World), w2.heap.size ≤ nW → Below w2.heap.size w2 w3 → Hid (w3.heap[nW]? = some (.cells #[.slice a U.length c, .func (.func 105) #[] #[]] 72 (0, 0))) → Hid (Ops w3 w3.heap.size a U.length U) → KR { tmps := #[.agg #[.slice av nv cv, .slice ao no co], .agg #[.slice bv mv dv, .slice bo mo eo], .pointer (some ⟨w.heap.size, 0, none⟩), .pointer (some ⟨w.heap.size + 1, 0, none⟩), .pointer (some ⟨w.heap.size + 1 + 1, 0, none⟩), .bool false, .pointer (some ⟨nW, 0, none⟩), .bool true, undef, .agg #[.slice av nv cv, .slice ao no co], .bool true, .bool false, .bool false, .agg #[.slice bv mv dv, .slice bo mo eo], .bool true, .bool false, .bool false, undef, u18, u19, u20, u21, u22, u23, u24, u25, u26, u27, undef, undef, undef, undef, undef, undef, undef, undef, undef, undef, undef, undef, undef, undef, undef, undef, undef], defers := [] } w3 := by
  intro U a c hU hcp had nW u18 u19 u20 u21 u22 u23 u24 u25 u26 u27 w3 hnW hb HN3 HU3
  have HUn := Lib.hid hU
  have HCp := Lib.hid hcp
  have HAd := Lib.hid had
  have huo := union_some HIl.out HIm.out hU
  have hUl : U.length ≤ 160 := union_long HCa.out HCb.out huo
  have HIt := Lib.hid (union_items (N := 1048576) huo (fun i hi => HM.out i (by rw [← HL.out]; exact hi)) (fun i hi => HM2.out i (by rw [← HLm.out]; exact hi)))
  have HV3 := Lib.hid (HV2.out.below hb (by omega))
  have HY3 := Lib.hid (HY2.out.below hb (by omega))
  have HT3 := Lib.hid (HT2.out.next hb)
  have hs3 := hb.size
  have HTak := Lib.hid (tak_is HCa.out HCb.out hU)
  clear hU hcp had huo hb HV2 HY2 HO2 HG2 HT2
  apply hKR
  clear hKR
  have hvA := (cart_true HCa.out).1
  have hvB := (part_split HCb.out).1
  have hx4 : xs.length = 4 := (vec_at hvA (d := 0) (by omega)).2.2
  have HVm := Lib.hid (maxV_ok hvA hvB)
  have HZv : Hid (vecZip max xs ys = maxV xs ys) := by show _ = _; rw [vecZip_yes (by rw [hvA, hvB]; rfl)]; rfl
  have hz4 : (maxV xs ys).length = 4 := (vec_at HVm.out (d := 0) (by omega)).2.2
  clear hvA hvB
  obtain ⟨a0, a1⟩ := pair_cells HT3.out.fst
  obtain ⟨b0, b1⟩ := pair_cells HT3.out.snd
  obtain ⟨n0, n1⟩ := pair_cells HN3.out
  have hnl := lt_of_row HN3.out
  go_upto_region 6 with fail
  clear n1
  obtain ⟨z0, hz0e⟩ : ∃ z0, w3.drew = z0 := ⟨_, rfl⟩
  have g0 : Below w3.heap.size w3 z0 := by rw [← hz0e]; exact ⟨rfl, rfl, rfl, Nat.le_refl _, fun _ _ => rfl⟩
  have HS3 : w3.cell? ⟨w.heap.size, 0, none⟩ = some (.slice av nv cv) ∧ w3.cell? ⟨w.heap.size + 1, 0, none⟩ = some (.slice bv mv dv) ∧ w3.cell? ⟨nW, 0, none⟩ = some (.slice a U.length c) := ⟨a0, b0, n0⟩
  have Sz0 : z0.cell? ⟨w.heap.size, 0, none⟩ = some (.slice av nv cv) ∧ z0.cell? ⟨w.heap.size + 1, 0, none⟩ = some (.slice bv mv dv) ∧ z0.cell? ⟨nW, 0, none⟩ = some (.slice a U.length c) := ⟨(g0.cell (block_lt_of_cell a0)).trans a0, (g0.cell (block_lt_of_cell b0)).trans b0, (g0.cell (block_lt_of_cell n0)).trans n0⟩
  go_wp2_with fail
  refine wp_region_held_drew (S := fun w' => w'.cell? ⟨w.heap.size, 0, none⟩ = some (.slice av nv cv) ∧ w'.cell? ⟨w.heap.size + 1, 0, none⟩ = some (.slice bv mv dv) ∧ w'.cell? ⟨nW, 0, none⟩ = some (.slice a U.length c)) (by kernel_rfl) (by rw [hz0e]; exact Sz0) (fun hHeld => ?_)
  rw [hz0e]
  clear hHeld hz0e
  refine tk 0 ⟨some 31, .fieldAddr 29 (.tmp 2) 0, 0, "l07_deltas.go:97", #[], none⟩ ?_
  (try simp only [Act.put, u1, u2, u3])
  refine tk 1 ⟨some 32, .load 22 (.tmp 31), 22, "l07_deltas.go:97", #[⟨0, .data⟩], none⟩ ?_
  (try simp only [Act.put, u1, u2, u3])
  refine tk 2 ⟨some 33, .fieldAddr 29 (.tmp 3) 0, 0, "l07_deltas.go:97", #[], none⟩ ?_
  (try simp only [Act.put, u1, u2, u3])
  refine tk 3 ⟨some 34, .load 22 (.tmp 33), 22, "l07_deltas.go:97", #[⟨2, .data⟩], none⟩ ?_
  (try simp only [Act.put, u1, u2, u3])
  refine tk 5 ⟨some 36, .fieldAddr 72 (.tmp 6) 0, 0, "l07_deltas.go:97", #[], none⟩ ?_
  (try simp only [Act.put, u1, u2, u3])
  refine tk 6 ⟨some 37, .load 27 (.tmp 36), 27, "l07_deltas.go:97", #[⟨5, .data⟩], none⟩ ?_
  (try simp only [Act.put, u1, u2, u3])
  refine wpAnyH_ready (rs := [4, 8]) (by kernel_rfl) (by simp) ?_
  refine AllReadyH.cons rfl (fun K hK => ?_) (AllReadyH.cons rfl (fun K hK => ?_) AllReadyH.nil)
  ·skip
   go_simp
   go_at_call 52
   refine (implMax z0 B av bv nv cv mv dv xs ys (HV3.out.below g0 (by omega)) (HY3.out.below g0 (by omega)) (by have := g0.size; omega) hv hv2).mono ?_
   rintro e z1 ⟨va, vc, rfl, hown, tz1⟩
   rw [HZv.out, hz4] at hown ⊢
   have g1 : Below w3.heap.size w3 z1 := g0.trans (tz1.mono g0.size)
   have Sz1 : z1.cell? ⟨w.heap.size, 0, none⟩ = some (.slice av nv cv) ∧ z1.cell? ⟨w.heap.size + 1, 0, none⟩ = some (.slice bv mv dv) ∧ z1.cell? ⟨nW, 0, none⟩ = some (.slice a U.length c) := ⟨(tz1.cell (block_lt_of_cell Sz0.1)).trans Sz0.1, (tz1.cell (block_lt_of_cell Sz0.2.1)).trans Sz0.2.1, (tz1.cell (block_lt_of_cell Sz0.2.2)).trans Sz0.2.2⟩
   have HOwz1 := Lib.hid hown
   clear hown
   refine hK.out _ _ Sz1 (fun hHeld4 => ?_)
   clear hK K hHeld4
   (try simp only [Act.put, u1, u2, u3])
   refine tk 7 ⟨some 38, .build 29 #[(0, .tmp 35), (1, .tmp 37)], 29, "l07_deltas.go:97", #[⟨4, .data⟩, ⟨6, .data⟩], none⟩ ?_
   (try simp only [Act.put, u1, u2, u3])
   refine rk 8 rfl (fun K hK => ?_)
   have talloc : Below z1.heap.size z1 (z1.alloc (.cells #[.slice none 0 0, .slice none 0 0] 29)) := bl
   have hboxn := Lib.hid (boxAt (Below.refl _ (z1.alloc (.cells #[.slice none 0 0, .slice none 0 0] 29))))
   have hxsn : z1.heap.size < (z1.alloc (.cells #[.slice none 0 0, .slice none 0 0] 29)).heap.size := lt_of_row hboxn.out
   have Salloc : (z1.alloc (.cells #[.slice none 0 0, .slice none 0 0] 29)).cell? ⟨w.heap.size, 0, none⟩ = some (.slice av nv cv) ∧ (z1.alloc (.cells #[.slice none 0 0, .slice none 0 0] 29)).cell? ⟨w.heap.size + 1, 0, none⟩ = some (.slice bv mv dv) ∧ (z1.alloc (.cells #[.slice none 0 0, .slice none 0 0] 29)).cell? ⟨nW, 0, none⟩ = some (.slice a U.length c) := ⟨(talloc.cell (block_lt_of_cell Sz1.1)).trans Sz1.1, (talloc.cell (block_lt_of_cell Sz1.2.1)).trans Sz1.2.1, (talloc.cell (block_lt_of_cell Sz1.2.2)).trans Sz1.2.2⟩
   go_simp
   refine hK.out _ _ Salloc (fun hHeldA => ?_)
   clear hK K hHeldA Salloc
   (try simp only [Act.put, u1, u2, u3])
   generalize z1.alloc (.cells #[.slice none 0 0, .slice none 0 0] 29) = z2 at talloc hboxn hxsn ⊢
   have tz2 := talloc
   have hboxz2 := hboxn
   have hxsz2 := hxsn
   clear talloc hboxn hxsn
   have g2 : Below w3.heap.size w3 z2 := g1.trans (tz2.mono g1.size)
   have HOwz2 := Lib.hid (HOwz1.out.below tz2 (Nat.le_refl _))
   have hq1 := g0.size
   have hq2 := tz1.size
   have HUz := Lib.hid (HU3.out.below g2 (Nat.le_refl _))
   have hsz := g2.size
   have hne : z1.heap.size ≠ nW := by have := g1.size; omega
   have hrl := hxsz2
   have hrb := hboxz2
   obtain ⟨d0, d1⟩ := pair_cells hrb.out
   obtain ⟨f0, f1⟩ := pair_frozen hrb.out
   have HOv : Hid (Own ((z2.setCell ⟨z1.heap.size, 0, none⟩ (.slice va 4 vc)).setCell ⟨z1.heap.size, 1, none⟩ (.slice a U.length c)) z0.heap.size z1.heap.size va 4 (maxV xs ys)) := HOwz2.out.kept fun j h1 h2 => pair_other _ _ (by omega)
   have HUf : Hid (Ops ((z2.setCell ⟨z1.heap.size, 0, none⟩ (.slice va 4 vc)).setCell ⟨z1.heap.size, 1, none⟩ (.slice a U.length c)) w3.heap.size a U.length U) := HUz.out.kept fun j h1 => pair_other _ _ (by have := g1.size; omega)
   obtain ⟨HRf, gf⟩ := storeN (.slice va 4 vc) (.slice a U.length c) g2 hrb.out (by have := g1.size; omega)
   have Szf : ((z2.setCell ⟨z1.heap.size, 0, none⟩ (.slice va 4 vc)).setCell ⟨z1.heap.size, 1, none⟩ (.slice a U.length c)).cell? ⟨w.heap.size, 0, none⟩ = some (.slice av nv cv) ∧ ((z2.setCell ⟨z1.heap.size, 0, none⟩ (.slice va 4 vc)).setCell ⟨z1.heap.size, 1, none⟩ (.slice a U.length c)).cell? ⟨w.heap.size + 1, 0, none⟩ = some (.slice bv mv dv) ∧ ((z2.setCell ⟨z1.heap.size, 0, none⟩ (.slice va 4 vc)).setCell ⟨z1.heap.size, 1, none⟩ (.slice a U.length c)).cell? ⟨nW, 0, none⟩ = some (.slice a U.length c) := ⟨(gf.cell (block_lt_of_cell HS3.1)).trans HS3.1, (gf.cell (block_lt_of_cell HS3.2.1)).trans HS3.2.1, (gf.cell (block_lt_of_cell HS3.2.2)).trans HS3.2.2⟩
   refine rk 9 rfl (fun K hK => ?_)
   go_simp
   refine hK.out _ _ Szf (fun hHeldB => ?_)
   clear hK K hHeldB d0 d1 f0 f1 Szf
   (try simp only [Act.put, u1, u2, u3])
   refine wpAnyH_done (by kernel_rfl) ?_ _
   have hszf : z2.heap.size ≤ ((z2.setCell ⟨z1.heap.size, 0, none⟩ (.slice va 4 vc)).setCell ⟨z1.heap.size, 1, none⟩ (.slice a U.length c)).heap.size := Nat.le_of_eq (pair_size _ _ _ _).symm
   generalize (z2.setCell ⟨z1.heap.size, 0, none⟩ (.slice va 4 vc)).setCell ⟨z1.heap.size, 1, none⟩ (.slice a U.length c) = z9 at HRf HOv HUf gf hszf ⊢
   clear hrb HUz
   have HT9 := Lib.hid (HT3.out.next gf)
   have hs9 := gf.size
   have hrl9 := lt_of_row HRf.out
   obtain ⟨p0, p1⟩ := pair_cells HRf.out
   go_wp2_with fail
   refine (implCartOk z9 z9.heap.size va a 4 vc U.length c (maxV xs ys) U (HOv.out.ints.more (by omega)) (HUf.out.more hs9) (Nat.le_refl _) (by omega) HCp.out.1 ⟨by omega, HCp.out.2.1⟩).mono ?_
   rintro e w10 ⟨rfl, hb⟩
   have HT10 := Lib.hid (HT9.out.next hb)
   have HOv10 := Lib.hid (HOv.out.below hb (by omega))
   have HU10 := Lib.hid (HUf.out.below hb hs9)
   have HR10 := Lib.hid ((hb.block _ hrl9).trans HRf.out)
   have hs10 := hb.size
   have hCR : cartB (maxV xs ys) U = R := HTak.out.symm.trans HR.out
   rw [hCR]
   clear hb HT9 HOv HUf HRf p0 p1 gf hCR
   cases R
   ·skip
    obtain ⟨r0, r1⟩ := pair_cells HT10.out.res
    obtain ⟨fz0, fz1⟩ := pair_frozen HT10.out.res
    have HXr := Lib.hid (HT10.out.set2 (.slice none 0 0) (.slice none 0 0)).1
    have HBr2 := Lib.hid (HT10.out.set2 (.slice none 0 0) (.slice none 0 0)).2
    go_wp2
    change bodyPost _ _ _ _ _ ((w10.setCell ⟨w.heap.size + 1 + 1, 0, none⟩ (.slice none 0 0)).setCell ⟨w.heap.size + 1 + 1, 1, none⟩ (.slice none 0 0))
    generalize (w10.setCell ⟨w.heap.size + 1 + 1, 0, none⟩ (.slice none 0 0)).setCell ⟨w.heap.size + 1 + 1, 1, none⟩ (.slice none 0 0) = wf at HXr HBr2 ⊢
    obtain ⟨q0, q1⟩ := pair_cells HXr.out
    have hsf := HBr2.out.size
    exact bodyPost_ret (v := .tuple #[.agg #[.slice none 0 0, .slice none 0 0], .bool false]) (by simp [results, Try.results10, go_sem, q0, q1]) rfl ⟨none, 0, none, 0, w.heap.size, rfl, own_nil _ _ _ _, own_none _ _ _ _, Nat.le_refl _, hsf, HBr2.out, caps_nil⟩
   obtain ⟨p0, p1⟩ := pair_cells HR10.out
   obtain ⟨vb, vo, rfl, -, -⟩ := HOv10.out.ints.2 0 (by omega)
   go_wp2_with fail
   refine (copiedCartK w10 w10.heap.size vb vo a 4 vc U.length c (maxV xs ys) U (HOv10.out.ints.more (by omega)) (HU10.out.more (by omega)) (Nat.le_refl _) (by omega) (by omega) (by omega) HCp.out.2.2 HAd.out HIt.out).mono ?_
   rintro e w11 ⟨ua, uc, oa, oc, md, rfl, hov, hop, hm1, hm2, hb, hcq⟩
   have HT11 := Lib.hid (HT10.out.next hb)
   have HOw11 := Lib.hid hov
   have HOp11 := Lib.hid hop
   have HCq := Lib.hid hcq
   have hs11 := hb.size
   clear hov hop hcq hb HT10 HOv10 HU10 HR10 p0 p1
   rw [hz4] at HOw11 ⊢
   have hltr := lt_of_row HT11.out.res
   obtain ⟨r0, r1⟩ := pair_cells HT11.out.res
   obtain ⟨fz0, fz1⟩ := pair_frozen HT11.out.res
   have HXr := Lib.hid (HT11.out.set2 (.slice ua 4 uc) (.slice oa U.length oc)).1
   have HBr2 := Lib.hid (HT11.out.set2 (.slice ua 4 uc) (.slice oa U.length oc)).2
   have HOv7 : Hid (Own ((w11.setCell ⟨w.heap.size + 1 + 1, 0, none⟩ (.slice ua 4 uc)).setCell ⟨w.heap.size + 1 + 1, 1, none⟩ (.slice oa U.length oc)) w10.heap.size md ua 4 (maxV xs ys)) := HOw11.out.kept fun q h1 h2 => pair_other _ _ (by omega)
   have HOp7 : Hid (OwnOps ((w11.setCell ⟨w.heap.size + 1 + 1, 0, none⟩ (.slice ua 4 uc)).setCell ⟨w.heap.size + 1 + 1, 1, none⟩ (.slice oa U.length oc)) md w11.heap.size oa U.length U) := HOp11.out.kept fun q h1 h2 => pair_other _ _ (by omega)
   have hsz7 : ((w11.setCell ⟨w.heap.size + 1 + 1, 0, none⟩ (.slice ua 4 uc)).setCell ⟨w.heap.size + 1 + 1, 1, none⟩ (.slice oa U.length oc)).heap.size = w11.heap.size := pair_size _ _ _ _
   go_wp2
   change bodyPost _ _ _ _ _ ((w11.setCell ⟨w.heap.size + 1 + 1, 0, none⟩ (.slice ua 4 uc)).setCell ⟨w.heap.size + 1 + 1, 1, none⟩ (.slice oa U.length oc))
   generalize (w11.setCell ⟨w.heap.size + 1 + 1, 0, none⟩ (.slice ua 4 uc)).setCell ⟨w.heap.size + 1 + 1, 1, none⟩ (.slice oa U.length oc) = wf at HXr HBr2 HOv7 HOp7 hsz7 ⊢
   obtain ⟨q0, q1⟩ := pair_cells HXr.out
   have hE : takOs l m true = U := by unfold takOs; rw [if_pos rfl, HUn.out]; rfl
   have hE2 : takVs xs ys true = maxV xs ys := rfl
   rw [hE, hE2]
   exact bodyPost_ret (v := .tuple #[.agg #[.slice ua 4 uc, .slice oa U.length oc], .bool true]) (by simp [results, Try.results10, go_sem, q0, q1]) rfl ⟨ua, uc, oa, oc, md, by rw [hz4], by rw [hz4]; exact HOv7.out.more (by omega) (Nat.le_refl _), HOp7.out.more (Nat.le_refl _) (by omega), by omega, by omega, HBr2.out, HCq.out⟩
  ·skip
   have talloc : Below z0.heap.size z0 (z0.alloc (.cells #[.slice none 0 0, .slice none 0 0] 29)) := bl
   have hboxn := Lib.hid (boxAt (Below.refl _ (z0.alloc (.cells #[.slice none 0 0, .slice none 0 0] 29))))
   have hxsn : z0.heap.size < (z0.alloc (.cells #[.slice none 0 0, .slice none 0 0] 29)).heap.size := lt_of_row hboxn.out
   have Salloc : (z0.alloc (.cells #[.slice none 0 0, .slice none 0 0] 29)).cell? ⟨w.heap.size, 0, none⟩ = some (.slice av nv cv) ∧ (z0.alloc (.cells #[.slice none 0 0, .slice none 0 0] 29)).cell? ⟨w.heap.size + 1, 0, none⟩ = some (.slice bv mv dv) ∧ (z0.alloc (.cells #[.slice none 0 0, .slice none 0 0] 29)).cell? ⟨nW, 0, none⟩ = some (.slice a U.length c) := ⟨(talloc.cell (block_lt_of_cell Sz0.1)).trans Sz0.1, (talloc.cell (block_lt_of_cell Sz0.2.1)).trans Sz0.2.1, (talloc.cell (block_lt_of_cell Sz0.2.2)).trans Sz0.2.2⟩
   go_simp
   refine hK.out _ _ Salloc (fun hHeldA => ?_)
   clear hK K hHeldA Salloc
   (try simp only [Act.put, u1, u2, u3])
   generalize z0.alloc (.cells #[.slice none 0 0, .slice none 0 0] 29) = z1 at talloc hboxn hxsn ⊢
   have tz1 := talloc
   have hboxz1 := hboxn
   have hxsz1 := hxsn
   clear talloc hboxn hxsn
   have g1 : Below w3.heap.size w3 z1 := g0.trans (tz1.mono g0.size)
   have hq1 := g0.size
   have hq2 := tz1.size
   have Sz1 : z1.cell? ⟨w.heap.size, 0, none⟩ = some (.slice av nv cv) ∧ z1.cell? ⟨w.heap.size + 1, 0, none⟩ = some (.slice bv mv dv) ∧ z1.cell? ⟨nW, 0, none⟩ = some (.slice a U.length c) := ⟨(tz1.cell (block_lt_of_cell Sz0.1)).trans Sz0.1, (tz1.cell (block_lt_of_cell Sz0.2.1)).trans Sz0.2.1, (tz1.cell (block_lt_of_cell Sz0.2.2)).trans Sz0.2.2⟩
   refine rk 4 rfl (fun K hK => ?_)
   go_simp
   go_at_call 52
   refine (implMax z1 B av bv nv cv mv dv xs ys (HV3.out.below g1 (by omega)) (HY3.out.below g1 (by omega)) (by have := g1.size; omega) hv hv2).mono ?_
   rintro e z2 ⟨va, vc, rfl, hown, tz2⟩
   rw [HZv.out, hz4] at hown ⊢
   have g2 : Below w3.heap.size w3 z2 := g1.trans (tz2.mono g1.size)
   have Sz2 : z2.cell? ⟨w.heap.size, 0, none⟩ = some (.slice av nv cv) ∧ z2.cell? ⟨w.heap.size + 1, 0, none⟩ = some (.slice bv mv dv) ∧ z2.cell? ⟨nW, 0, none⟩ = some (.slice a U.length c) := ⟨(tz2.cell (block_lt_of_cell Sz1.1)).trans Sz1.1, (tz2.cell (block_lt_of_cell Sz1.2.1)).trans Sz1.2.1, (tz2.cell (block_lt_of_cell Sz1.2.2)).trans Sz1.2.2⟩
   have HOwz2 := Lib.hid hown
   clear hown
   refine hK.out _ _ Sz2 (fun hHeld4 => ?_)
   clear hK K hHeld4
   (try simp only [Act.put, u1, u2, u3])
   refine tk 7 ⟨some 38, .build 29 #[(0, .tmp 35), (1, .tmp 37)], 29, "l07_deltas.go:97", #[⟨4, .data⟩, ⟨6, .data⟩], none⟩ ?_
   (try simp only [Act.put, u1, u2, u3])
   have hboxz2 := Lib.hid ((tz2.block _ hxsz1).trans hboxz1.out)
   have hxsz2 : z0.heap.size < z2.heap.size := Nat.lt_of_lt_of_le hxsz1 tz2.size
   have HUz := Lib.hid (HU3.out.below g2 (Nat.le_refl _))
   have hsz := g2.size
   have hne : z0.heap.size ≠ nW := by have := g0.size; omega
   have hrl := hxsz2
   have hrb := hboxz2
   obtain ⟨d0, d1⟩ := pair_cells hrb.out
   obtain ⟨f0, f1⟩ := pair_frozen hrb.out
   have HOv : Hid (Own ((z2.setCell ⟨z0.heap.size, 0, none⟩ (.slice va 4 vc)).setCell ⟨z0.heap.size, 1, none⟩ (.slice a U.length c)) z1.heap.size z2.heap.size va 4 (maxV xs ys)) := HOwz2.out.kept fun j h1 h2 => pair_other _ _ (by omega)
   have HUf : Hid (Ops ((z2.setCell ⟨z0.heap.size, 0, none⟩ (.slice va 4 vc)).setCell ⟨z0.heap.size, 1, none⟩ (.slice a U.length c)) w3.heap.size a U.length U) := HUz.out.kept fun j h1 => pair_other _ _ (by have := g0.size; omega)
   obtain ⟨HRf, gf⟩ := storeN (.slice va 4 vc) (.slice a U.length c) g2 hrb.out (by have := g0.size; omega)
   have Szf : ((z2.setCell ⟨z0.heap.size, 0, none⟩ (.slice va 4 vc)).setCell ⟨z0.heap.size, 1, none⟩ (.slice a U.length c)).cell? ⟨w.heap.size, 0, none⟩ = some (.slice av nv cv) ∧ ((z2.setCell ⟨z0.heap.size, 0, none⟩ (.slice va 4 vc)).setCell ⟨z0.heap.size, 1, none⟩ (.slice a U.length c)).cell? ⟨w.heap.size + 1, 0, none⟩ = some (.slice bv mv dv) ∧ ((z2.setCell ⟨z0.heap.size, 0, none⟩ (.slice va 4 vc)).setCell ⟨z0.heap.size, 1, none⟩ (.slice a U.length c)).cell? ⟨nW, 0, none⟩ = some (.slice a U.length c) := ⟨(gf.cell (block_lt_of_cell HS3.1)).trans HS3.1, (gf.cell (block_lt_of_cell HS3.2.1)).trans HS3.2.1, (gf.cell (block_lt_of_cell HS3.2.2)).trans HS3.2.2⟩
   refine rk 9 rfl (fun K hK => ?_)
   go_simp
   refine hK.out _ _ Szf (fun hHeldB => ?_)
   clear hK K hHeldB d0 d1 f0 f1 Szf
   (try simp only [Act.put, u1, u2, u3])
   refine wpAnyH_done (by kernel_rfl) ?_ _
   have hszf : z2.heap.size ≤ ((z2.setCell ⟨z0.heap.size, 0, none⟩ (.slice va 4 vc)).setCell ⟨z0.heap.size, 1, none⟩ (.slice a U.length c)).heap.size := Nat.le_of_eq (pair_size _ _ _ _).symm
   generalize (z2.setCell ⟨z0.heap.size, 0, none⟩ (.slice va 4 vc)).setCell ⟨z0.heap.size, 1, none⟩ (.slice a U.length c) = z9 at HRf HOv HUf gf hszf ⊢
   clear hrb HUz
   have HT9 := Lib.hid (HT3.out.next gf)
   have hs9 := gf.size
   have hrl9 := lt_of_row HRf.out
   obtain ⟨p0, p1⟩ := pair_cells HRf.out
   go_wp2_with fail
   refine (implCartOk z9 z9.heap.size va a 4 vc U.length c (maxV xs ys) U (HOv.out.ints.more (by omega)) (HUf.out.more hs9) (Nat.le_refl _) (by omega) HCp.out.1 ⟨by omega, HCp.out.2.1⟩).mono ?_
   rintro e w10 ⟨rfl, hb⟩
   have HT10 := Lib.hid (HT9.out.next hb)
   have HOv10 := Lib.hid (HOv.out.below hb (by omega))
   have HU10 := Lib.hid (HUf.out.below hb hs9)
   have HR10 := Lib.hid ((hb.block _ hrl9).trans HRf.out)
   have hs10 := hb.size
   have hCR : cartB (maxV xs ys) U = R := HTak.out.symm.trans HR.out
   rw [hCR]
   clear hb HT9 HOv HUf HRf p0 p1 gf hCR
   cases R
   ·skip
    obtain ⟨r0, r1⟩ := pair_cells HT10.out.res
    obtain ⟨fz0, fz1⟩ := pair_frozen HT10.out.res
    have HXr := Lib.hid (HT10.out.set2 (.slice none 0 0) (.slice none 0 0)).1
    have HBr2 := Lib.hid (HT10.out.set2 (.slice none 0 0) (.slice none 0 0)).2
    go_wp2
    change bodyPost _ _ _ _ _ ((w10.setCell ⟨w.heap.size + 1 + 1, 0, none⟩ (.slice none 0 0)).setCell ⟨w.heap.size + 1 + 1, 1, none⟩ (.slice none 0 0))
    generalize (w10.setCell ⟨w.heap.size + 1 + 1, 0, none⟩ (.slice none 0 0)).setCell ⟨w.heap.size + 1 + 1, 1, none⟩ (.slice none 0 0) = wf at HXr HBr2 ⊢
    obtain ⟨q0, q1⟩ := pair_cells HXr.out
    have hsf := HBr2.out.size
    exact bodyPost_ret (v := .tuple #[.agg #[.slice none 0 0, .slice none 0 0], .bool false]) (by simp [results, Try.results10, go_sem, q0, q1]) rfl ⟨none, 0, none, 0, w.heap.size, rfl, own_nil _ _ _ _, own_none _ _ _ _, Nat.le_refl _, hsf, HBr2.out, caps_nil⟩
   obtain ⟨p0, p1⟩ := pair_cells HR10.out
   obtain ⟨vb, vo, rfl, -, -⟩ := HOv10.out.ints.2 0 (by omega)
   go_wp2_with fail
   refine (copiedCartK w10 w10.heap.size vb vo a 4 vc U.length c (maxV xs ys) U (HOv10.out.ints.more (by omega)) (HU10.out.more (by omega)) (Nat.le_refl _) (by omega) (by omega) (by omega) HCp.out.2.2 HAd.out HIt.out).mono ?_
   rintro e w11 ⟨ua, uc, oa, oc, md, rfl, hov, hop, hm1, hm2, hb, hcq⟩
   have HT11 := Lib.hid (HT10.out.next hb)
   have HOw11 := Lib.hid hov
   have HOp11 := Lib.hid hop
   have HCq := Lib.hid hcq
   have hs11 := hb.size
   clear hov hop hcq hb HT10 HOv10 HU10 HR10 p0 p1
   rw [hz4] at HOw11 ⊢
   have hltr := lt_of_row HT11.out.res
   obtain ⟨r0, r1⟩ := pair_cells HT11.out.res
   obtain ⟨fz0, fz1⟩ := pair_frozen HT11.out.res
   have HXr := Lib.hid (HT11.out.set2 (.slice ua 4 uc) (.slice oa U.length oc)).1
   have HBr2 := Lib.hid (HT11.out.set2 (.slice ua 4 uc) (.slice oa U.length oc)).2
   have HOv7 : Hid (Own ((w11.setCell ⟨w.heap.size + 1 + 1, 0, none⟩ (.slice ua 4 uc)).setCell ⟨w.heap.size + 1 + 1, 1, none⟩ (.slice oa U.length oc)) w10.heap.size md ua 4 (maxV xs ys)) := HOw11.out.kept fun q h1 h2 => pair_other _ _ (by omega)
   have HOp7 : Hid (OwnOps ((w11.setCell ⟨w.heap.size + 1 + 1, 0, none⟩ (.slice ua 4 uc)).setCell ⟨w.heap.size + 1 + 1, 1, none⟩ (.slice oa U.length oc)) md w11.heap.size oa U.length U) := HOp11.out.kept fun q h1 h2 => pair_other _ _ (by omega)
   have hsz7 : ((w11.setCell ⟨w.heap.size + 1 + 1, 0, none⟩ (.slice ua 4 uc)).setCell ⟨w.heap.size + 1 + 1, 1, none⟩ (.slice oa U.length oc)).heap.size = w11.heap.size := pair_size _ _ _ _
   go_wp2
   change bodyPost _ _ _ _ _ ((w11.setCell ⟨w.heap.size + 1 + 1, 0, none⟩ (.slice ua 4 uc)).setCell ⟨w.heap.size + 1 + 1, 1, none⟩ (.slice oa U.length oc))
   generalize (w11.setCell ⟨w.heap.size + 1 + 1, 0, none⟩ (.slice ua 4 uc)).setCell ⟨w.heap.size + 1 + 1, 1, none⟩ (.slice oa U.length oc) = wf at HXr HBr2 HOv7 HOp7 hsz7 ⊢
   obtain ⟨q0, q1⟩ := pair_cells HXr.out
   have hE : takOs l m true = U := by unfold takOs; rw [if_pos rfl, HUn.out]; rfl
   have hE2 : takVs xs ys true = maxV xs ys := rfl
   rw [hE, hE2]
   exact bodyPost_ret (v := .tuple #[.agg #[.slice ua 4 uc, .slice oa U.length oc], .bool true]) (by simp [results, Try.results10, go_sem, q0, q1]) rfl ⟨ua, uc, oa, oc, md, by rw [hz4], by rw [hz4]; exact HOv7.out.more (by omega) (Nat.le_refl _), HOp7.out.more (Nat.le_refl _) (by omega), by omega, by omega, HBr2.out, HCq.out⟩
 obtain ⟨z0, hz0e⟩ : ∃ z0, w2.drew = z0 := ⟨_, rfl⟩
 have g0 : Below w2.heap.size w2 z0 := by rw [← hz0e]; exact ⟨rfl, rfl, rfl, Nat.le_refl _, fun _ _ => rfl⟩
 have HS2 : w2.cell? ⟨w.heap.size, 1, none⟩ = some (.slice ao no co) ∧ w2.cell? ⟨w.heap.size + 1, 1, none⟩ = some (.slice bo mo eo) := ⟨(pair_cells HT2.out.fst).2, (pair_cells HT2.out.snd).2⟩
 have Sz0 : z0.cell? ⟨w.heap.size, 1, none⟩ = some (.slice ao no co) ∧ z0.cell? ⟨w.heap.size + 1, 1, none⟩ = some (.slice bo mo eo) := ⟨(g0.cell (block_lt_of_cell HS2.1)).trans HS2.1, (g0.cell (block_lt_of_cell HS2.2)).trans HS2.2⟩
 refine wp_region_held_drew (S := fun w' => w'.cell? ⟨w.heap.size, 1, none⟩ = some (.slice ao no co) ∧ w'.cell? ⟨w.heap.size + 1, 1, none⟩ = some (.slice bo mo eo)) (by kernel_rfl) (by rw [hz0e]; exact Sz0) (fun hHeld => ?_)
 rw [hz0e]
 clear hHeld hz0e
 refine tk 0 ⟨some 19, .fieldAddr 29 (.tmp 2) 1, 0, "l07_deltas.go:93", #[], none⟩ ?_
 (try simp only [Act.put, u1, u2, u3])
 refine tk 1 ⟨some 20, .load 27 (.tmp 19), 27, "l07_deltas.go:93", #[⟨0, .data⟩], none⟩ ?_
 (try simp only [Act.put, u1, u2, u3])
 refine tk 3 ⟨some 22, .fieldAddr 29 (.tmp 3) 1, 0, "l07_deltas.go:93", #[], none⟩ ?_
 (try simp only [Act.put, u1, u2, u3])
 refine tk 4 ⟨some 23, .load 27 (.tmp 22), 27, "l07_deltas.go:93", #[⟨3, .data⟩], none⟩ ?_
 (try simp only [Act.put, u1, u2, u3])
 refine wpAnyH_ready (rs := [2, 10]) (by kernel_rfl) (by simp) ?_
 refine AllReadyH.cons rfl (fun K hK => ?_) (AllReadyH.cons rfl (fun K hK => ?_) AllReadyH.nil)
 ·skip
  go_simp
  go_at_call 49
  refine (numbered z0 ao no co).mono ?_
  rintro e z1 ⟨rfl, tz1⟩
  have g1 : Below w2.heap.size w2 z1 := g0.trans (tz1.mono g0.size)
  have Sz1 : z1.cell? ⟨w.heap.size, 1, none⟩ = some (.slice ao no co) ∧ z1.cell? ⟨w.heap.size + 1, 1, none⟩ = some (.slice bo mo eo) := ⟨(tz1.cell (block_lt_of_cell Sz0.1)).trans Sz0.1, (tz1.cell (block_lt_of_cell Sz0.2)).trans Sz0.2⟩
  refine hK.out _ _ Sz1 (fun hHeld2 => ?_)
  clear hK K hHeld2
  (try simp only [Act.put, u1, u2, u3])
  refine wpAnyH_ready (rs := [5, 10]) (by kernel_rfl) (by simp) ?_
  refine AllReadyH.cons rfl (fun K hK => ?_) (AllReadyH.cons rfl (fun K hK => ?_) AllReadyH.nil)
  ·skip
   go_simp
   go_at_call 49
   refine (numbered z1 bo mo eo).mono ?_
   rintro e z2 ⟨rfl, tz2⟩
   have g2 : Below w2.heap.size w2 z2 := g1.trans (tz2.mono g1.size)
   have Sz2 : z2.cell? ⟨w.heap.size, 1, none⟩ = some (.slice ao no co) ∧ z2.cell? ⟨w.heap.size + 1, 1, none⟩ = some (.slice bo mo eo) := ⟨(tz2.cell (block_lt_of_cell Sz1.1)).trans Sz1.1, (tz2.cell (block_lt_of_cell Sz1.2)).trans Sz1.2⟩
   refine hK.out _ _ Sz2 (fun hHeld3 => ?_)
   clear hK K hHeld3
   (try simp only [Act.put, u1, u2, u3])
   refine wpAnyH_ready (rs := [6, 10]) (by kernel_rfl) (by simp) ?_
   refine AllReadyH.cons rfl (fun K hK => ?_) (AllReadyH.cons rfl (fun K hK => ?_) AllReadyH.nil)
   ·skip
    go_simp
    go_at_call 50
    refine (implUnion z2 B ao bo no co mo eo l m (HO2.out.below g2 (by omega)) (HG2.out.below g2 (by omega)) (by have := g2.size; omega) hn hn2 he HIl.out HIm.out).mono ?_
    rintro e z3 (⟨U, a, c, hU, rfl, hcp, had, hop, tz3⟩ | ⟨hnone, rfl, tz3⟩)
    ·skip
     have g3 : Below w2.heap.size w2 z3 := g2.trans (tz3.mono g2.size)
     have Sz3 : z3.cell? ⟨w.heap.size, 1, none⟩ = some (.slice ao no co) ∧ z3.cell? ⟨w.heap.size + 1, 1, none⟩ = some (.slice bo mo eo) := ⟨(tz3.cell (block_lt_of_cell Sz2.1)).trans Sz2.1, (tz3.cell (block_lt_of_cell Sz2.2)).trans Sz2.2⟩
     have hq1 := g2.size
     have hq2 := tz3.size
     refine hK.out _ _ Sz3 (fun hHeld4 => ?_)
     clear hK K hHeld4
     (try simp only [Act.put, u1, u2, u3])
     refine tk 7 ⟨some 18, .move (.tmp 25), 73, "l07_deltas.go:93", #[⟨6, .data⟩], none⟩ ?_
     (try simp only [Act.put, u1, u2, u3])
     refine tk 8 ⟨some 26, .extract (.tmp 18) 0, 72, "l07_deltas.go:93", #[⟨7, .data⟩], none⟩ ?_
     (try simp only [Act.put, u1, u2, u3])
     refine tk 9 ⟨some 27, .extract (.tmp 18) 1, 4, "l07_deltas.go:93", #[⟨7, .data⟩, { on := 11, ground := Ground.gcOnly Departure.lateStores }], none⟩ ?_
     (try simp only [Act.put, u1, u2, u3])
     have HPz3 := Lib.hid hop
     clear hop
     refine rk 10 rfl (fun K hK => ?_)
     have talloc : Below z3.heap.size z3 (z3.alloc (.cells #[.slice none 0 0, .nilFunc] 72)) := bl
     have hboxn := Lib.hid (boxAt (Below.refl _ (z3.alloc (.cells #[.slice none 0 0, .nilFunc] 72))))
     have hxsn : z3.heap.size < (z3.alloc (.cells #[.slice none 0 0, .nilFunc] 72)).heap.size := lt_of_row hboxn.out
     have Salloc : (z3.alloc (.cells #[.slice none 0 0, .nilFunc] 72)).cell? ⟨w.heap.size, 1, none⟩ = some (.slice ao no co) ∧ (z3.alloc (.cells #[.slice none 0 0, .nilFunc] 72)).cell? ⟨w.heap.size + 1, 1, none⟩ = some (.slice bo mo eo) := ⟨(talloc.cell (block_lt_of_cell Sz3.1)).trans Sz3.1, (talloc.cell (block_lt_of_cell Sz3.2)).trans Sz3.2⟩
     go_simp
     refine hK.out _ _ Salloc (fun hHeldA => ?_)
     clear hK K hHeldA Salloc
     (try simp only [Act.put, u1, u2, u3])
     generalize z3.alloc (.cells #[.slice none 0 0, .nilFunc] 72) = z4 at talloc hboxn hxsn ⊢
     have tz4 := talloc
     have hboxz4 := hboxn
     have hxsz4 := hxsn
     clear talloc hboxn hxsn
     have g4 : Below w2.heap.size w2 z4 := g3.trans (tz4.mono g3.size)
     have Sz4 : z4.cell? ⟨w.heap.size, 1, none⟩ = some (.slice ao no co) ∧ z4.cell? ⟨w.heap.size + 1, 1, none⟩ = some (.slice bo mo eo) := ⟨(tz4.cell (block_lt_of_cell Sz3.1)).trans Sz3.1, (tz4.cell (block_lt_of_cell Sz3.2)).trans Sz3.2⟩
     have HPz4 := Lib.hid (HPz3.out.below tz4 (Nat.le_refl _))
     have hrb := hboxz4
     obtain ⟨d0, d1⟩ := pair_cells hrb.out
     obtain ⟨f0, f1⟩ := pair_frozen hrb.out
     have hq3 := g3.size
     have hq4 := hxsz4
     obtain ⟨HNf, HUf, gf⟩ := storeS (.slice a U.length c) (.func (.func 105) #[] #[]) g4 hrb.out hq3 (.inr (Nat.le_refl _)) (Nat.le_of_lt hq4) HPz4.out
     have Szf : ((z4.setCell ⟨z3.heap.size, 0, none⟩ (.slice a U.length c)).setCell ⟨z3.heap.size, 1, none⟩ (.func (.func 105) #[] #[])).cell? ⟨w.heap.size, 1, none⟩ = some (.slice ao no co) ∧ ((z4.setCell ⟨z3.heap.size, 0, none⟩ (.slice a U.length c)).setCell ⟨z3.heap.size, 1, none⟩ (.func (.func 105) #[] #[])).cell? ⟨w.heap.size + 1, 1, none⟩ = some (.slice bo mo eo) := ⟨(gf.cell (block_lt_of_cell HS2.1)).trans HS2.1, (gf.cell (block_lt_of_cell HS2.2)).trans HS2.2⟩
     refine rk 11 rfl (fun K hK => ?_)
     go_simp
     refine hK.out _ _ Szf (fun hHeldB => ?_)
     clear hK K hHeldB d0 d1 f0 f1
     (try simp only [Act.put, u1, u2, u3])
     refine tk 12 ⟨some 7, .assign (.tmp 27), 4, "l07_deltas.go:93", #[⟨9, .data⟩, ⟨11, .chain⟩, ⟨0, .phase⟩, ⟨1, .phase⟩, ⟨2, .phase⟩, ⟨3, .phase⟩, ⟨4, .phase⟩, ⟨5, .phase⟩, ⟨6, .phase⟩, ⟨7, .phase⟩, ⟨8, .phase⟩, ⟨9, .phase⟩, ⟨10, .phase⟩, ⟨11, .phase⟩], none⟩ ?_
     (try simp only [Act.put, u1, u2, u3])
     refine wpAnyH_done (by kernel_rfl) ?_ _
     exact hKyes U a c hU hcp had _ _ _ _ _ _ _ _ _ _ _ _ hq3 gf HNf HUf
    ·skip
     have g3 : Below w2.heap.size w2 z3 := g2.trans (tz3.mono g2.size)
     have Sz3 : z3.cell? ⟨w.heap.size, 1, none⟩ = some (.slice ao no co) ∧ z3.cell? ⟨w.heap.size + 1, 1, none⟩ = some (.slice bo mo eo) := ⟨(tz3.cell (block_lt_of_cell Sz2.1)).trans Sz2.1, (tz3.cell (block_lt_of_cell Sz2.2)).trans Sz2.2⟩
     have hq1 := g2.size
     have hq2 := tz3.size
     refine hK.out _ _ Sz3 (fun hHeld4 => ?_)
     clear hK K hHeld4
     (try simp only [Act.put, u1, u2, u3])
     refine tk 7 ⟨some 18, .move (.tmp 25), 73, "l07_deltas.go:93", #[⟨6, .data⟩], none⟩ ?_
     (try simp only [Act.put, u1, u2, u3])
     refine tk 8 ⟨some 26, .extract (.tmp 18) 0, 72, "l07_deltas.go:93", #[⟨7, .data⟩], none⟩ ?_
     (try simp only [Act.put, u1, u2, u3])
     refine tk 9 ⟨some 27, .extract (.tmp 18) 1, 4, "l07_deltas.go:93", #[⟨7, .data⟩, { on := 11, ground := Ground.gcOnly Departure.lateStores }], none⟩ ?_
     (try simp only [Act.put, u1, u2, u3])
     refine rk 10 rfl (fun K hK => ?_)
     have talloc : Below z3.heap.size z3 (z3.alloc (.cells #[.slice none 0 0, .nilFunc] 72)) := bl
     have hboxn := Lib.hid (boxAt (Below.refl _ (z3.alloc (.cells #[.slice none 0 0, .nilFunc] 72))))
     have hxsn : z3.heap.size < (z3.alloc (.cells #[.slice none 0 0, .nilFunc] 72)).heap.size := lt_of_row hboxn.out
     have Salloc : (z3.alloc (.cells #[.slice none 0 0, .nilFunc] 72)).cell? ⟨w.heap.size, 1, none⟩ = some (.slice ao no co) ∧ (z3.alloc (.cells #[.slice none 0 0, .nilFunc] 72)).cell? ⟨w.heap.size + 1, 1, none⟩ = some (.slice bo mo eo) := ⟨(talloc.cell (block_lt_of_cell Sz3.1)).trans Sz3.1, (talloc.cell (block_lt_of_cell Sz3.2)).trans Sz3.2⟩
     go_simp
     refine hK.out _ _ Salloc (fun hHeldA => ?_)
     clear hK K hHeldA Salloc
     (try simp only [Act.put, u1, u2, u3])
     generalize z3.alloc (.cells #[.slice none 0 0, .nilFunc] 72) = z4 at talloc hboxn hxsn ⊢
     have tz4 := talloc
     have hboxz4 := hboxn
     have hxsz4 := hxsn
     clear talloc hboxn hxsn
     have g4 : Below w2.heap.size w2 z4 := g3.trans (tz4.mono g3.size)
     have Sz4 : z4.cell? ⟨w.heap.size, 1, none⟩ = some (.slice ao no co) ∧ z4.cell? ⟨w.heap.size + 1, 1, none⟩ = some (.slice bo mo eo) := ⟨(tz4.cell (block_lt_of_cell Sz3.1)).trans Sz3.1, (tz4.cell (block_lt_of_cell Sz3.2)).trans Sz3.2⟩
     have hrb := hboxz4
     obtain ⟨d0, d1⟩ := pair_cells hrb.out
     obtain ⟨f0, f1⟩ := pair_frozen hrb.out
     have hq3 := g3.size
     have hq4 := hxsz4
     obtain ⟨HNf, gf⟩ := storeN (.slice none 0 0) (.nilFunc) g4 hrb.out hq3
     have Szf : ((z4.setCell ⟨z3.heap.size, 0, none⟩ (.slice none 0 0)).setCell ⟨z3.heap.size, 1, none⟩ (.nilFunc)).cell? ⟨w.heap.size, 1, none⟩ = some (.slice ao no co) ∧ ((z4.setCell ⟨z3.heap.size, 0, none⟩ (.slice none 0 0)).setCell ⟨z3.heap.size, 1, none⟩ (.nilFunc)).cell? ⟨w.heap.size + 1, 1, none⟩ = some (.slice bo mo eo) := ⟨(gf.cell (block_lt_of_cell HS2.1)).trans HS2.1, (gf.cell (block_lt_of_cell HS2.2)).trans HS2.2⟩
     refine rk 11 rfl (fun K hK => ?_)
     go_simp
     refine hK.out _ _ Szf (fun hHeldB => ?_)
     clear hK K hHeldB d0 d1 f0 f1
     (try simp only [Act.put, u1, u2, u3])
     refine tk 12 ⟨some 7, .assign (.tmp 27), 4, "l07_deltas.go:93", #[⟨9, .data⟩, ⟨11, .chain⟩, ⟨0, .phase⟩, ⟨1, .phase⟩, ⟨2, .phase⟩, ⟨3, .phase⟩, ⟨4, .phase⟩, ⟨5, .phase⟩, ⟨6, .phase⟩, ⟨7, .phase⟩, ⟨8, .phase⟩, ⟨9, .phase⟩, ⟨10, .phase⟩, ⟨11, .phase⟩], none⟩ ?_
     (try simp only [Act.put, u1, u2, u3])
     refine wpAnyH_done (by kernel_rfl) ?_ _
     exact hKno hnone _ _ _ _ _ _ _ _ _ _ _ _ gf
   ·skip
    have talloc : Below z2.heap.size z2 (z2.alloc (.cells #[.slice none 0 0, .nilFunc] 72)) := bl
    have hboxn := Lib.hid (boxAt (Below.refl _ (z2.alloc (.cells #[.slice none 0 0, .nilFunc] 72))))
    have hxsn : z2.heap.size < (z2.alloc (.cells #[.slice none 0 0, .nilFunc] 72)).heap.size := lt_of_row hboxn.out
    have Salloc : (z2.alloc (.cells #[.slice none 0 0, .nilFunc] 72)).cell? ⟨w.heap.size, 1, none⟩ = some (.slice ao no co) ∧ (z2.alloc (.cells #[.slice none 0 0, .nilFunc] 72)).cell? ⟨w.heap.size + 1, 1, none⟩ = some (.slice bo mo eo) := ⟨(talloc.cell (block_lt_of_cell Sz2.1)).trans Sz2.1, (talloc.cell (block_lt_of_cell Sz2.2)).trans Sz2.2⟩
    go_simp
    refine hK.out _ _ Salloc (fun hHeldA => ?_)
    clear hK K hHeldA Salloc
    (try simp only [Act.put, u1, u2, u3])
    generalize z2.alloc (.cells #[.slice none 0 0, .nilFunc] 72) = z5 at talloc hboxn hxsn ⊢
    have tz5 := talloc
    have hboxz5 := hboxn
    have hxsz5 := hxsn
    clear talloc hboxn hxsn
    have g5 : Below w2.heap.size w2 z5 := g2.trans (tz5.mono g2.size)
    have Sz5 : z5.cell? ⟨w.heap.size, 1, none⟩ = some (.slice ao no co) ∧ z5.cell? ⟨w.heap.size + 1, 1, none⟩ = some (.slice bo mo eo) := ⟨(tz5.cell (block_lt_of_cell Sz2.1)).trans Sz2.1, (tz5.cell (block_lt_of_cell Sz2.2)).trans Sz2.2⟩
    refine rk 6 rfl (fun K hK => ?_)
    go_simp
    go_at_call 50
    refine (implUnion z5 B ao bo no co mo eo l m (HO2.out.below g5 (by omega)) (HG2.out.below g5 (by omega)) (by have := g5.size; omega) hn hn2 he HIl.out HIm.out).mono ?_
    rintro e z6 (⟨U, a, c, hU, rfl, hcp, had, hop, tz6⟩ | ⟨hnone, rfl, tz6⟩)
    ·skip
     have g6 : Below w2.heap.size w2 z6 := g5.trans (tz6.mono g5.size)
     have Sz6 : z6.cell? ⟨w.heap.size, 1, none⟩ = some (.slice ao no co) ∧ z6.cell? ⟨w.heap.size + 1, 1, none⟩ = some (.slice bo mo eo) := ⟨(tz6.cell (block_lt_of_cell Sz5.1)).trans Sz5.1, (tz6.cell (block_lt_of_cell Sz5.2)).trans Sz5.2⟩
     have hboxz6 := Lib.hid ((tz6.block _ hxsz5).trans hboxz5.out)
     have hxsz6 : z2.heap.size < z6.heap.size := Nat.lt_of_lt_of_le hxsz5 tz6.size
     have hq1 := g5.size
     have hq2 := tz6.size
     refine hK.out _ _ Sz6 (fun hHeld4 => ?_)
     clear hK K hHeld4
     (try simp only [Act.put, u1, u2, u3])
     refine tk 7 ⟨some 18, .move (.tmp 25), 73, "l07_deltas.go:93", #[⟨6, .data⟩], none⟩ ?_
     (try simp only [Act.put, u1, u2, u3])
     refine tk 8 ⟨some 26, .extract (.tmp 18) 0, 72, "l07_deltas.go:93", #[⟨7, .data⟩], none⟩ ?_
     (try simp only [Act.put, u1, u2, u3])
     refine tk 9 ⟨some 27, .extract (.tmp 18) 1, 4, "l07_deltas.go:93", #[⟨7, .data⟩, { on := 11, ground := Ground.gcOnly Departure.lateStores }], none⟩ ?_
     (try simp only [Act.put, u1, u2, u3])
     have HPz6 := Lib.hid hop
     clear hop
     have hrb := hboxz6
     obtain ⟨d0, d1⟩ := pair_cells hrb.out
     obtain ⟨f0, f1⟩ := pair_frozen hrb.out
     have hq3 := g2.size
     have hq4 := hxsz6
     obtain ⟨HNf, HUf, gf⟩ := storeS (.slice a U.length c) (.func (.func 105) #[] #[]) g6 hrb.out hq3 (.inl (by omega)) (Nat.le_refl _) HPz6.out
     have Szf : ((z6.setCell ⟨z2.heap.size, 0, none⟩ (.slice a U.length c)).setCell ⟨z2.heap.size, 1, none⟩ (.func (.func 105) #[] #[])).cell? ⟨w.heap.size, 1, none⟩ = some (.slice ao no co) ∧ ((z6.setCell ⟨z2.heap.size, 0, none⟩ (.slice a U.length c)).setCell ⟨z2.heap.size, 1, none⟩ (.func (.func 105) #[] #[])).cell? ⟨w.heap.size + 1, 1, none⟩ = some (.slice bo mo eo) := ⟨(gf.cell (block_lt_of_cell HS2.1)).trans HS2.1, (gf.cell (block_lt_of_cell HS2.2)).trans HS2.2⟩
     refine rk 11 rfl (fun K hK => ?_)
     go_simp
     refine hK.out _ _ Szf (fun hHeldB => ?_)
     clear hK K hHeldB d0 d1 f0 f1
     (try simp only [Act.put, u1, u2, u3])
     refine tk 12 ⟨some 7, .assign (.tmp 27), 4, "l07_deltas.go:93", #[⟨9, .data⟩, ⟨11, .chain⟩, ⟨0, .phase⟩, ⟨1, .phase⟩, ⟨2, .phase⟩, ⟨3, .phase⟩, ⟨4, .phase⟩, ⟨5, .phase⟩, ⟨6, .phase⟩, ⟨7, .phase⟩, ⟨8, .phase⟩, ⟨9, .phase⟩, ⟨10, .phase⟩, ⟨11, .phase⟩], none⟩ ?_
     (try simp only [Act.put, u1, u2, u3])
     refine wpAnyH_done (by kernel_rfl) ?_ _
     exact hKyes U a c hU hcp had _ _ _ _ _ _ _ _ _ _ _ _ hq3 gf HNf HUf
    ·skip
     have g6 : Below w2.heap.size w2 z6 := g5.trans (tz6.mono g5.size)
     have Sz6 : z6.cell? ⟨w.heap.size, 1, none⟩ = some (.slice ao no co) ∧ z6.cell? ⟨w.heap.size + 1, 1, none⟩ = some (.slice bo mo eo) := ⟨(tz6.cell (block_lt_of_cell Sz5.1)).trans Sz5.1, (tz6.cell (block_lt_of_cell Sz5.2)).trans Sz5.2⟩
     have hboxz6 := Lib.hid ((tz6.block _ hxsz5).trans hboxz5.out)
     have hxsz6 : z2.heap.size < z6.heap.size := Nat.lt_of_lt_of_le hxsz5 tz6.size
     have hq1 := g5.size
     have hq2 := tz6.size
     refine hK.out _ _ Sz6 (fun hHeld4 => ?_)
     clear hK K hHeld4
     (try simp only [Act.put, u1, u2, u3])
     refine tk 7 ⟨some 18, .move (.tmp 25), 73, "l07_deltas.go:93", #[⟨6, .data⟩], none⟩ ?_
     (try simp only [Act.put, u1, u2, u3])
     refine tk 8 ⟨some 26, .extract (.tmp 18) 0, 72, "l07_deltas.go:93", #[⟨7, .data⟩], none⟩ ?_
     (try simp only [Act.put, u1, u2, u3])
     refine tk 9 ⟨some 27, .extract (.tmp 18) 1, 4, "l07_deltas.go:93", #[⟨7, .data⟩, { on := 11, ground := Ground.gcOnly Departure.lateStores }], none⟩ ?_
     (try simp only [Act.put, u1, u2, u3])
     have hrb := hboxz6
     obtain ⟨d0, d1⟩ := pair_cells hrb.out
     obtain ⟨f0, f1⟩ := pair_frozen hrb.out
     have hq3 := g2.size
     have hq4 := hxsz6
     obtain ⟨HNf, gf⟩ := storeN (.slice none 0 0) (.nilFunc) g6 hrb.out hq3
     have Szf : ((z6.setCell ⟨z2.heap.size, 0, none⟩ (.slice none 0 0)).setCell ⟨z2.heap.size, 1, none⟩ (.nilFunc)).cell? ⟨w.heap.size, 1, none⟩ = some (.slice ao no co) ∧ ((z6.setCell ⟨z2.heap.size, 0, none⟩ (.slice none 0 0)).setCell ⟨z2.heap.size, 1, none⟩ (.nilFunc)).cell? ⟨w.heap.size + 1, 1, none⟩ = some (.slice bo mo eo) := ⟨(gf.cell (block_lt_of_cell HS2.1)).trans HS2.1, (gf.cell (block_lt_of_cell HS2.2)).trans HS2.2⟩
     refine rk 11 rfl (fun K hK => ?_)
     go_simp
     refine hK.out _ _ Szf (fun hHeldB => ?_)
     clear hK K hHeldB d0 d1 f0 f1
     (try simp only [Act.put, u1, u2, u3])
     refine tk 12 ⟨some 7, .assign (.tmp 27), 4, "l07_deltas.go:93", #[⟨9, .data⟩, ⟨11, .chain⟩, ⟨0, .phase⟩, ⟨1, .phase⟩, ⟨2, .phase⟩, ⟨3, .phase⟩, ⟨4, .phase⟩, ⟨5, .phase⟩, ⟨6, .phase⟩, ⟨7, .phase⟩, ⟨8, .phase⟩, ⟨9, .phase⟩, ⟨10, .phase⟩, ⟨11, .phase⟩], none⟩ ?_
     (try simp only [Act.put, u1, u2, u3])
     refine wpAnyH_done (by kernel_rfl) ?_ _
     exact hKno hnone _ _ _ _ _ _ _ _ _ _ _ _ gf
  ·skip
   have talloc : Below z1.heap.size z1 (z1.alloc (.cells #[.slice none 0 0, .nilFunc] 72)) := bl
   have hboxn := Lib.hid (boxAt (Below.refl _ (z1.alloc (.cells #[.slice none 0 0, .nilFunc] 72))))
   have hxsn : z1.heap.size < (z1.alloc (.cells #[.slice none 0 0, .nilFunc] 72)).heap.size := lt_of_row hboxn.out
   have Salloc : (z1.alloc (.cells #[.slice none 0 0, .nilFunc] 72)).cell? ⟨w.heap.size, 1, none⟩ = some (.slice ao no co) ∧ (z1.alloc (.cells #[.slice none 0 0, .nilFunc] 72)).cell? ⟨w.heap.size + 1, 1, none⟩ = some (.slice bo mo eo) := ⟨(talloc.cell (block_lt_of_cell Sz1.1)).trans Sz1.1, (talloc.cell (block_lt_of_cell Sz1.2)).trans Sz1.2⟩
   go_simp
   refine hK.out _ _ Salloc (fun hHeldA => ?_)
   clear hK K hHeldA Salloc
   (try simp only [Act.put, u1, u2, u3])
   generalize z1.alloc (.cells #[.slice none 0 0, .nilFunc] 72) = z7 at talloc hboxn hxsn ⊢
   have tz7 := talloc
   have hboxz7 := hboxn
   have hxsz7 := hxsn
   clear talloc hboxn hxsn
   have g7 : Below w2.heap.size w2 z7 := g1.trans (tz7.mono g1.size)
   have Sz7 : z7.cell? ⟨w.heap.size, 1, none⟩ = some (.slice ao no co) ∧ z7.cell? ⟨w.heap.size + 1, 1, none⟩ = some (.slice bo mo eo) := ⟨(tz7.cell (block_lt_of_cell Sz1.1)).trans Sz1.1, (tz7.cell (block_lt_of_cell Sz1.2)).trans Sz1.2⟩
   refine rk 5 rfl (fun K hK => ?_)
   go_simp
   go_at_call 49
   refine (numbered z7 bo mo eo).mono ?_
   rintro e z8 ⟨rfl, tz8⟩
   have g8 : Below w2.heap.size w2 z8 := g7.trans (tz8.mono g7.size)
   have Sz8 : z8.cell? ⟨w.heap.size, 1, none⟩ = some (.slice ao no co) ∧ z8.cell? ⟨w.heap.size + 1, 1, none⟩ = some (.slice bo mo eo) := ⟨(tz8.cell (block_lt_of_cell Sz7.1)).trans Sz7.1, (tz8.cell (block_lt_of_cell Sz7.2)).trans Sz7.2⟩
   have hboxz8 := Lib.hid ((tz8.block _ hxsz7).trans hboxz7.out)
   have hxsz8 : z1.heap.size < z8.heap.size := Nat.lt_of_lt_of_le hxsz7 tz8.size
   refine hK.out _ _ Sz8 (fun hHeld3 => ?_)
   clear hK K hHeld3
   (try simp only [Act.put, u1, u2, u3])
   refine rk 6 rfl (fun K hK => ?_)
   go_simp
   go_at_call 50
   refine (implUnion z8 B ao bo no co mo eo l m (HO2.out.below g8 (by omega)) (HG2.out.below g8 (by omega)) (by have := g8.size; omega) hn hn2 he HIl.out HIm.out).mono ?_
   rintro e z9 (⟨U, a, c, hU, rfl, hcp, had, hop, tz9⟩ | ⟨hnone, rfl, tz9⟩)
   ·skip
    have g9 : Below w2.heap.size w2 z9 := g8.trans (tz9.mono g8.size)
    have Sz9 : z9.cell? ⟨w.heap.size, 1, none⟩ = some (.slice ao no co) ∧ z9.cell? ⟨w.heap.size + 1, 1, none⟩ = some (.slice bo mo eo) := ⟨(tz9.cell (block_lt_of_cell Sz8.1)).trans Sz8.1, (tz9.cell (block_lt_of_cell Sz8.2)).trans Sz8.2⟩
    have hboxz9 := Lib.hid ((tz9.block _ hxsz8).trans hboxz8.out)
    have hxsz9 : z1.heap.size < z9.heap.size := Nat.lt_of_lt_of_le hxsz8 tz9.size
    have hq1 := g8.size
    have hq2 := tz9.size
    refine hK.out _ _ Sz9 (fun hHeld4 => ?_)
    clear hK K hHeld4
    (try simp only [Act.put, u1, u2, u3])
    refine tk 7 ⟨some 18, .move (.tmp 25), 73, "l07_deltas.go:93", #[⟨6, .data⟩], none⟩ ?_
    (try simp only [Act.put, u1, u2, u3])
    refine tk 8 ⟨some 26, .extract (.tmp 18) 0, 72, "l07_deltas.go:93", #[⟨7, .data⟩], none⟩ ?_
    (try simp only [Act.put, u1, u2, u3])
    refine tk 9 ⟨some 27, .extract (.tmp 18) 1, 4, "l07_deltas.go:93", #[⟨7, .data⟩, { on := 11, ground := Ground.gcOnly Departure.lateStores }], none⟩ ?_
    (try simp only [Act.put, u1, u2, u3])
    have HPz9 := Lib.hid hop
    clear hop
    have hrb := hboxz9
    obtain ⟨d0, d1⟩ := pair_cells hrb.out
    obtain ⟨f0, f1⟩ := pair_frozen hrb.out
    have hq3 := g1.size
    have hq4 := hxsz9
    obtain ⟨HNf, HUf, gf⟩ := storeS (.slice a U.length c) (.func (.func 105) #[] #[]) g9 hrb.out hq3 (.inl (by omega)) (Nat.le_refl _) HPz9.out
    have Szf : ((z9.setCell ⟨z1.heap.size, 0, none⟩ (.slice a U.length c)).setCell ⟨z1.heap.size, 1, none⟩ (.func (.func 105) #[] #[])).cell? ⟨w.heap.size, 1, none⟩ = some (.slice ao no co) ∧ ((z9.setCell ⟨z1.heap.size, 0, none⟩ (.slice a U.length c)).setCell ⟨z1.heap.size, 1, none⟩ (.func (.func 105) #[] #[])).cell? ⟨w.heap.size + 1, 1, none⟩ = some (.slice bo mo eo) := ⟨(gf.cell (block_lt_of_cell HS2.1)).trans HS2.1, (gf.cell (block_lt_of_cell HS2.2)).trans HS2.2⟩
    refine rk 11 rfl (fun K hK => ?_)
    go_simp
    refine hK.out _ _ Szf (fun hHeldB => ?_)
    clear hK K hHeldB d0 d1 f0 f1
    (try simp only [Act.put, u1, u2, u3])
    refine tk 12 ⟨some 7, .assign (.tmp 27), 4, "l07_deltas.go:93", #[⟨9, .data⟩, ⟨11, .chain⟩, ⟨0, .phase⟩, ⟨1, .phase⟩, ⟨2, .phase⟩, ⟨3, .phase⟩, ⟨4, .phase⟩, ⟨5, .phase⟩, ⟨6, .phase⟩, ⟨7, .phase⟩, ⟨8, .phase⟩, ⟨9, .phase⟩, ⟨10, .phase⟩, ⟨11, .phase⟩], none⟩ ?_
    (try simp only [Act.put, u1, u2, u3])
    refine wpAnyH_done (by kernel_rfl) ?_ _
    exact hKyes U a c hU hcp had _ _ _ _ _ _ _ _ _ _ _ _ hq3 gf HNf HUf
   ·skip
    have g9 : Below w2.heap.size w2 z9 := g8.trans (tz9.mono g8.size)
    have Sz9 : z9.cell? ⟨w.heap.size, 1, none⟩ = some (.slice ao no co) ∧ z9.cell? ⟨w.heap.size + 1, 1, none⟩ = some (.slice bo mo eo) := ⟨(tz9.cell (block_lt_of_cell Sz8.1)).trans Sz8.1, (tz9.cell (block_lt_of_cell Sz8.2)).trans Sz8.2⟩
    have hboxz9 := Lib.hid ((tz9.block _ hxsz8).trans hboxz8.out)
    have hxsz9 : z1.heap.size < z9.heap.size := Nat.lt_of_lt_of_le hxsz8 tz9.size
    have hq1 := g8.size
    have hq2 := tz9.size
    refine hK.out _ _ Sz9 (fun hHeld4 => ?_)
    clear hK K hHeld4
    (try simp only [Act.put, u1, u2, u3])
    refine tk 7 ⟨some 18, .move (.tmp 25), 73, "l07_deltas.go:93", #[⟨6, .data⟩], none⟩ ?_
    (try simp only [Act.put, u1, u2, u3])
    refine tk 8 ⟨some 26, .extract (.tmp 18) 0, 72, "l07_deltas.go:93", #[⟨7, .data⟩], none⟩ ?_
    (try simp only [Act.put, u1, u2, u3])
    refine tk 9 ⟨some 27, .extract (.tmp 18) 1, 4, "l07_deltas.go:93", #[⟨7, .data⟩, { on := 11, ground := Ground.gcOnly Departure.lateStores }], none⟩ ?_
    (try simp only [Act.put, u1, u2, u3])
    have hrb := hboxz9
    obtain ⟨d0, d1⟩ := pair_cells hrb.out
    obtain ⟨f0, f1⟩ := pair_frozen hrb.out
    have hq3 := g1.size
    have hq4 := hxsz9
    obtain ⟨HNf, gf⟩ := storeN (.slice none 0 0) (.nilFunc) g9 hrb.out hq3
    have Szf : ((z9.setCell ⟨z1.heap.size, 0, none⟩ (.slice none 0 0)).setCell ⟨z1.heap.size, 1, none⟩ (.nilFunc)).cell? ⟨w.heap.size, 1, none⟩ = some (.slice ao no co) ∧ ((z9.setCell ⟨z1.heap.size, 0, none⟩ (.slice none 0 0)).setCell ⟨z1.heap.size, 1, none⟩ (.nilFunc)).cell? ⟨w.heap.size + 1, 1, none⟩ = some (.slice bo mo eo) := ⟨(gf.cell (block_lt_of_cell HS2.1)).trans HS2.1, (gf.cell (block_lt_of_cell HS2.2)).trans HS2.2⟩
    refine rk 11 rfl (fun K hK => ?_)
    go_simp
    refine hK.out _ _ Szf (fun hHeldB => ?_)
    clear hK K hHeldB d0 d1 f0 f1
    (try simp only [Act.put, u1, u2, u3])
    refine tk 12 ⟨some 7, .assign (.tmp 27), 4, "l07_deltas.go:93", #[⟨9, .data⟩, ⟨11, .chain⟩, ⟨0, .phase⟩, ⟨1, .phase⟩, ⟨2, .phase⟩, ⟨3, .phase⟩, ⟨4, .phase⟩, ⟨5, .phase⟩, ⟨6, .phase⟩, ⟨7, .phase⟩, ⟨8, .phase⟩, ⟨9, .phase⟩, ⟨10, .phase⟩, ⟨11, .phase⟩], none⟩ ?_
    (try simp only [Act.put, u1, u2, u3])
    refine wpAnyH_done (by kernel_rfl) ?_ _
    exact hKno hnone _ _ _ _ _ _ _ _ _ _ _ _ gf
 ·skip
  have talloc : Below z0.heap.size z0 (z0.alloc (.cells #[.slice none 0 0, .nilFunc] 72)) := bl
  have hboxn := Lib.hid (boxAt (Below.refl _ (z0.alloc (.cells #[.slice none 0 0, .nilFunc] 72))))
  have hxsn : z0.heap.size < (z0.alloc (.cells #[.slice none 0 0, .nilFunc] 72)).heap.size := lt_of_row hboxn.out
  have Salloc : (z0.alloc (.cells #[.slice none 0 0, .nilFunc] 72)).cell? ⟨w.heap.size, 1, none⟩ = some (.slice ao no co) ∧ (z0.alloc (.cells #[.slice none 0 0, .nilFunc] 72)).cell? ⟨w.heap.size + 1, 1, none⟩ = some (.slice bo mo eo) := ⟨(talloc.cell (block_lt_of_cell Sz0.1)).trans Sz0.1, (talloc.cell (block_lt_of_cell Sz0.2)).trans Sz0.2⟩
  go_simp
  refine hK.out _ _ Salloc (fun hHeldA => ?_)
  clear hK K hHeldA Salloc
  (try simp only [Act.put, u1, u2, u3])
  generalize z0.alloc (.cells #[.slice none 0 0, .nilFunc] 72) = z10 at talloc hboxn hxsn ⊢
  have tz10 := talloc
  have hboxz10 := hboxn
  have hxsz10 := hxsn
  clear talloc hboxn hxsn
  have g10 : Below w2.heap.size w2 z10 := g0.trans (tz10.mono g0.size)
  have Sz10 : z10.cell? ⟨w.heap.size, 1, none⟩ = some (.slice ao no co) ∧ z10.cell? ⟨w.heap.size + 1, 1, none⟩ = some (.slice bo mo eo) := ⟨(tz10.cell (block_lt_of_cell Sz0.1)).trans Sz0.1, (tz10.cell (block_lt_of_cell Sz0.2)).trans Sz0.2⟩
  refine rk 2 rfl (fun K hK => ?_)
  go_simp
  go_at_call 49
  refine (numbered z10 ao no co).mono ?_
  rintro e z11 ⟨rfl, tz11⟩
  have g11 : Below w2.heap.size w2 z11 := g10.trans (tz11.mono g10.size)
  have Sz11 : z11.cell? ⟨w.heap.size, 1, none⟩ = some (.slice ao no co) ∧ z11.cell? ⟨w.heap.size + 1, 1, none⟩ = some (.slice bo mo eo) := ⟨(tz11.cell (block_lt_of_cell Sz10.1)).trans Sz10.1, (tz11.cell (block_lt_of_cell Sz10.2)).trans Sz10.2⟩
  have hboxz11 := Lib.hid ((tz11.block _ hxsz10).trans hboxz10.out)
  have hxsz11 : z0.heap.size < z11.heap.size := Nat.lt_of_lt_of_le hxsz10 tz11.size
  refine hK.out _ _ Sz11 (fun hHeld2 => ?_)
  clear hK K hHeld2
  (try simp only [Act.put, u1, u2, u3])
  refine rk 5 rfl (fun K hK => ?_)
  go_simp
  go_at_call 49
  refine (numbered z11 bo mo eo).mono ?_
  rintro e z12 ⟨rfl, tz12⟩
  have g12 : Below w2.heap.size w2 z12 := g11.trans (tz12.mono g11.size)
  have Sz12 : z12.cell? ⟨w.heap.size, 1, none⟩ = some (.slice ao no co) ∧ z12.cell? ⟨w.heap.size + 1, 1, none⟩ = some (.slice bo mo eo) := ⟨(tz12.cell (block_lt_of_cell Sz11.1)).trans Sz11.1, (tz12.cell (block_lt_of_cell Sz11.2)).trans Sz11.2⟩
  have hboxz12 := Lib.hid ((tz12.block _ hxsz11).trans hboxz11.out)
  have hxsz12 : z0.heap.size < z12.heap.size := Nat.lt_of_lt_of_le hxsz11 tz12.size
  refine hK.out _ _ Sz12 (fun hHeld3 => ?_)
  clear hK K hHeld3
  (try simp only [Act.put, u1, u2, u3])
  refine rk 6 rfl (fun K hK => ?_)
  go_simp
  go_at_call 50
  refine (implUnion z12 B ao bo no co mo eo l m (HO2.out.below g12 (by omega)) (HG2.out.below g12 (by omega)) (by have := g12.size; omega) hn hn2 he HIl.out HIm.out).mono ?_
  rintro e z13 (⟨U, a, c, hU, rfl, hcp, had, hop, tz13⟩ | ⟨hnone, rfl, tz13⟩)
  ·skip
   have g13 : Below w2.heap.size w2 z13 := g12.trans (tz13.mono g12.size)
   have Sz13 : z13.cell? ⟨w.heap.size, 1, none⟩ = some (.slice ao no co) ∧ z13.cell? ⟨w.heap.size + 1, 1, none⟩ = some (.slice bo mo eo) := ⟨(tz13.cell (block_lt_of_cell Sz12.1)).trans Sz12.1, (tz13.cell (block_lt_of_cell Sz12.2)).trans Sz12.2⟩
   have hboxz13 := Lib.hid ((tz13.block _ hxsz12).trans hboxz12.out)
   have hxsz13 : z0.heap.size < z13.heap.size := Nat.lt_of_lt_of_le hxsz12 tz13.size
   have hq1 := g12.size
   have hq2 := tz13.size
   refine hK.out _ _ Sz13 (fun hHeld4 => ?_)
   clear hK K hHeld4
   (try simp only [Act.put, u1, u2, u3])
   refine tk 7 ⟨some 18, .move (.tmp 25), 73, "l07_deltas.go:93", #[⟨6, .data⟩], none⟩ ?_
   (try simp only [Act.put, u1, u2, u3])
   refine tk 8 ⟨some 26, .extract (.tmp 18) 0, 72, "l07_deltas.go:93", #[⟨7, .data⟩], none⟩ ?_
   (try simp only [Act.put, u1, u2, u3])
   refine tk 9 ⟨some 27, .extract (.tmp 18) 1, 4, "l07_deltas.go:93", #[⟨7, .data⟩, { on := 11, ground := Ground.gcOnly Departure.lateStores }], none⟩ ?_
   (try simp only [Act.put, u1, u2, u3])
   have HPz13 := Lib.hid hop
   clear hop
   have hrb := hboxz13
   obtain ⟨d0, d1⟩ := pair_cells hrb.out
   obtain ⟨f0, f1⟩ := pair_frozen hrb.out
   have hq3 := g0.size
   have hq4 := hxsz13
   obtain ⟨HNf, HUf, gf⟩ := storeS (.slice a U.length c) (.func (.func 105) #[] #[]) g13 hrb.out hq3 (.inl (by omega)) (Nat.le_refl _) HPz13.out
   have Szf : ((z13.setCell ⟨z0.heap.size, 0, none⟩ (.slice a U.length c)).setCell ⟨z0.heap.size, 1, none⟩ (.func (.func 105) #[] #[])).cell? ⟨w.heap.size, 1, none⟩ = some (.slice ao no co) ∧ ((z13.setCell ⟨z0.heap.size, 0, none⟩ (.slice a U.length c)).setCell ⟨z0.heap.size, 1, none⟩ (.func (.func 105) #[] #[])).cell? ⟨w.heap.size + 1, 1, none⟩ = some (.slice bo mo eo) := ⟨(gf.cell (block_lt_of_cell HS2.1)).trans HS2.1, (gf.cell (block_lt_of_cell HS2.2)).trans HS2.2⟩
   refine rk 11 rfl (fun K hK => ?_)
   go_simp
   refine hK.out _ _ Szf (fun hHeldB => ?_)
   clear hK K hHeldB d0 d1 f0 f1
   (try simp only [Act.put, u1, u2, u3])
   refine tk 12 ⟨some 7, .assign (.tmp 27), 4, "l07_deltas.go:93", #[⟨9, .data⟩, ⟨11, .chain⟩, ⟨0, .phase⟩, ⟨1, .phase⟩, ⟨2, .phase⟩, ⟨3, .phase⟩, ⟨4, .phase⟩, ⟨5, .phase⟩, ⟨6, .phase⟩, ⟨7, .phase⟩, ⟨8, .phase⟩, ⟨9, .phase⟩, ⟨10, .phase⟩, ⟨11, .phase⟩], none⟩ ?_
   (try simp only [Act.put, u1, u2, u3])
   refine wpAnyH_done (by kernel_rfl) ?_ _
   exact hKyes U a c hU hcp had _ _ _ _ _ _ _ _ _ _ _ _ hq3 gf HNf HUf
  ·skip
   have g13 : Below w2.heap.size w2 z13 := g12.trans (tz13.mono g12.size)
   have Sz13 : z13.cell? ⟨w.heap.size, 1, none⟩ = some (.slice ao no co) ∧ z13.cell? ⟨w.heap.size + 1, 1, none⟩ = some (.slice bo mo eo) := ⟨(tz13.cell (block_lt_of_cell Sz12.1)).trans Sz12.1, (tz13.cell (block_lt_of_cell Sz12.2)).trans Sz12.2⟩
   have hboxz13 := Lib.hid ((tz13.block _ hxsz12).trans hboxz12.out)
   have hxsz13 : z0.heap.size < z13.heap.size := Nat.lt_of_lt_of_le hxsz12 tz13.size
   have hq1 := g12.size
   have hq2 := tz13.size
   refine hK.out _ _ Sz13 (fun hHeld4 => ?_)
   clear hK K hHeld4
   (try simp only [Act.put, u1, u2, u3])
   refine tk 7 ⟨some 18, .move (.tmp 25), 73, "l07_deltas.go:93", #[⟨6, .data⟩], none⟩ ?_
   (try simp only [Act.put, u1, u2, u3])
   refine tk 8 ⟨some 26, .extract (.tmp 18) 0, 72, "l07_deltas.go:93", #[⟨7, .data⟩], none⟩ ?_
   (try simp only [Act.put, u1, u2, u3])
   refine tk 9 ⟨some 27, .extract (.tmp 18) 1, 4, "l07_deltas.go:93", #[⟨7, .data⟩, { on := 11, ground := Ground.gcOnly Departure.lateStores }], none⟩ ?_
   (try simp only [Act.put, u1, u2, u3])
   have hrb := hboxz13
   obtain ⟨d0, d1⟩ := pair_cells hrb.out
   obtain ⟨f0, f1⟩ := pair_frozen hrb.out
   have hq3 := g0.size
   have hq4 := hxsz13
   obtain ⟨HNf, gf⟩ := storeN (.slice none 0 0) (.nilFunc) g13 hrb.out hq3
   have Szf : ((z13.setCell ⟨z0.heap.size, 0, none⟩ (.slice none 0 0)).setCell ⟨z0.heap.size, 1, none⟩ (.nilFunc)).cell? ⟨w.heap.size, 1, none⟩ = some (.slice ao no co) ∧ ((z13.setCell ⟨z0.heap.size, 0, none⟩ (.slice none 0 0)).setCell ⟨z0.heap.size, 1, none⟩ (.nilFunc)).cell? ⟨w.heap.size + 1, 1, none⟩ = some (.slice bo mo eo) := ⟨(gf.cell (block_lt_of_cell HS2.1)).trans HS2.1, (gf.cell (block_lt_of_cell HS2.2)).trans HS2.2⟩
   refine rk 11 rfl (fun K hK => ?_)
   go_simp
   refine hK.out _ _ Szf (fun hHeldB => ?_)
   clear hK K hHeldB d0 d1 f0 f1
   (try simp only [Act.put, u1, u2, u3])
   refine tk 12 ⟨some 7, .assign (.tmp 27), 4, "l07_deltas.go:93", #[⟨9, .data⟩, ⟨11, .chain⟩, ⟨0, .phase⟩, ⟨1, .phase⟩, ⟨2, .phase⟩, ⟨3, .phase⟩, ⟨4, .phase⟩, ⟨5, .phase⟩, ⟨6, .phase⟩, ⟨7, .phase⟩, ⟨8, .phase⟩, ⟨9, .phase⟩, ⟨10, .phase⟩, ⟨11, .phase⟩], none⟩ ?_
   (try simp only [Act.put, u1, u2, u3])
   refine wpAnyH_done (by kernel_rfl) ?_ _
   exact hKno hnone _ _ _ _ _ _ _ _ _ _ _ _ gf
end Go.Proofs.Ytdbdmfaphdjdpaa
