/- The walk of impl.Named. -/
import Derived.Test.YtmceofdknphgkaaGa19
import Derived.Test.YtmceofdknphgkaaGrpNamedW
import Derived.Deep.RegionHeld3
import Derived.Deep.Cut
namespace Go.Proofs.Ytmceofdknphgkaa
open Go.RowKit

set_option linter.unusedSimpArgs false in
set_option maxRecDepth 100000 in
set_option maxHeartbeats 4000000 in
theorem implNamed (w : World) (B : Nat) (av ao : Option Addr) (nv cv no co : Nat) (xs : List Int) (l : List OpV) (dev : Int) (hx : Ints w B av nv xs) (h : Ops w B ao no l) (hB : B ≤ w.heap.size) (hv : nv ≤ 1048576) (hvc : nv ≤ cv) (hc : no ≤ co) (hc2 : Fits no co) (hnil : ao = none → co = 0) (hm : ∀ i, i < no → (atOp l i).item.size ≤ 1048576) :
    Calls Try.prog 46 #[.agg #[.slice av nv cv, .slice ao no co], .int .i64 dev] w (OpsPost (namedL xs l dev) w) := by
  have hn1048 : no ≤ 1048576 := hc2.1
  have hb0 : Below w.heap.size w (w.alloc (.cells #[.slice av nv cv, .slice ao no co] 27)) := (Below.refl _ w).alloc (Nat.le_refl _) _
  have HV := Lib.hid (hx.below hb0 hB)
  have HO := Lib.hid (h.below hb0 hB)
  have HB := Lib.hid hb0
  have HX := Lib.hid (boxAt (Below.refl _ (w.alloc (.cells #[.slice av nv cv, .slice ao no co] 27))))
  have HL := Lib.hid h.1
  have HM := Lib.hid hm
  have HNil := Lib.hid hnil
  have hsz : w.heap.size + 1 ≤ (w.alloc (.cells #[.slice av nv cv, .slice ao no co] 27)).heap.size := by show _ ≤ (w.heap.push _).size; simp
  clear hx h hb0 hm hnil
  rcases hcb : cartB xs l with _ | _
  · have HF := Lib.hid (named_no (dev := dev) hcb)
    have HK := Lib.hid hcb
    clear hcb
    go_enter Try.func46, Try.ntmps46
    go_wp2_with fail
    generalize w.alloc (.cells #[.slice av nv cv, .slice ao no co] 27) = w0 at HV HO HB HX hsz ⊢
    refine (implCartOk w0 B av ao nv cv no co xs l HV.out HO.out (by omega) (by omega) hc hc2).mono ?_
    rintro e w1 ⟨rfl, hb1⟩
    rw [HK.out]
    have HB1 := Lib.hid (HB.out.trans (hb1.mono (by omega)))
    have HV1 := Lib.hid (HV.out.below hb1 (by omega))
    have HO1 := Lib.hid (HO.out.below hb1 (by omega))
    have HX1 := Lib.hid ((hb1.block _ (Array.getElem?_eq_some_iff.1 HX.out).1).trans HX.out)
    have hs1 := hb1.size
    clear hb1 HV HO HB HX
    go_wp2
    go_ret
    exact ⟨none, 0, by rw [HF.out]; rfl, by rw [HF.out]; exact own_none _ _ _ _, HB1.out⟩
  have HK := Lib.hid hcb
  obtain ⟨hvk, hdv, hst4⟩ := cart_true hcb
  have h4 : nv = 4 := HV.out.1.symm.trans (vec_at hvk (d := 0) (by omega)).2.2
  subst h4
  rcases hdb : inB dev 0 3 with _ | _
  · have HF := Lib.hid (named_none (xs := xs) (l := l) hdb)
    have HD := Lib.hid hdb
    clear hcb hdb hdv hst4
    go_enter Try.func46, Try.ntmps46
    go_wp2_with fail
    generalize w.alloc (.cells #[.slice av 4 cv, .slice ao no co] 27) = w0 at HV HO HB HX hsz ⊢
    refine (implCartOk w0 B av ao 4 cv no co xs l HV.out HO.out (by omega) (by omega) hc hc2).mono ?_
    rintro e w1 ⟨rfl, hb1⟩
    rw [HK.out]
    have HB1 := Lib.hid (HB.out.trans (hb1.mono (by omega)))
    have HV1 := Lib.hid (HV.out.below hb1 (by omega))
    have HO1 := Lib.hid (HO.out.below hb1 (by omega))
    have HX1 := Lib.hid ((hb1.block _ (Array.getElem?_eq_some_iff.1 HX.out).1).trans HX.out)
    have hs1 := hb1.size
    clear hb1 HV HO HB HX
    go_wp2_with fail
    refine (deviceOkN _ _).mono ?_
    rintro e w2 ⟨rfl, rfl⟩
    rw [HD.out]
    go_wp2
    go_ret
    exact ⟨none, 0, by rw [HF.out]; rfl, by rw [HF.out]; exact own_none _ _ _ _, HB1.out⟩
  have HD := Lib.hid hdb
  have hd03 := inB_iff.1 hdb
  obtain ⟨d, rfl⟩ := Int.eq_ofNat_of_zero_le hd03.1
  have hd4 : d < 4 := by omega
  have HN : Hid (namedL xs l (d : Int) = segOf xs l d) := by show _ = _; rw [named_yes hcb, named_seg hcb hd4]
  have hle := stOf_mono xs (d + 1) 4 (by omega)
  obtain ⟨g1, g2, _⟩ := vec_at hvk hd4
  obtain ⟨c, hcx⟩ := Int.eq_ofNat_of_zero_le g1
  have HSeg : Hid (segOf xs l d = (l.drop (stOf xs d)).take c) := by show _ = _; unfold segOf; rw [hcx]; rfl
  have hsc : stOf xs d + c ≤ no := by
    have e : stOf xs (d + 1) = stOf xs d + c := by show stOf xs d + (xs.getD d 0).toNat = _; rw [hcx]; rfl
    rw [← HL.out, ← hst4, ← e]
    exact hle
  have HVk := Lib.hid hvk
  clear hcb hdb hdv hst4 hd03 hle g1 g2 hvk
  go_enter Try.func46, Try.ntmps46
  go_wp2_with fail
  generalize w.alloc (.cells #[.slice av 4 cv, .slice ao no co] 27) = w0 at HV HO HB HX hsz ⊢
  refine (implCartOk w0 B av ao 4 cv no co xs l HV.out HO.out (by omega) (by omega) hc hc2).mono ?_
  rintro e w1 ⟨rfl, hb1⟩
  rw [HK.out]
  have HB1 := Lib.hid (HB.out.trans (hb1.mono (by omega)))
  have HV1 := Lib.hid (HV.out.below hb1 (by omega))
  have HO1 := Lib.hid (HO.out.below hb1 (by omega))
  have HX1 := Lib.hid ((hb1.block _ (Array.getElem?_eq_some_iff.1 HX.out).1).trans HX.out)
  have hs1 := hb1.size
  clear hb1 HV HO HB HX
  go_wp2_with fail
  refine (deviceOkN _ _).mono ?_
  rintro e w2 ⟨rfl, rfl⟩
  rw [HD.out]
  obtain ⟨c0, c1⟩ := pair_cells HX1.out
  go_wp2_with fail
  refine (placeOf1 _ B av ao cv no co xs HV1.out (by omega) hvc HVk.out d hd4).mono ?_
  rintro e w2 ⟨rfl, hb2⟩
  have HB2 := Lib.hid (HB1.out.trans (hb2.mono (by omega)))
  have HV2 := Lib.hid (HV1.out.below hb2 (by omega))
  have HO2 := Lib.hid (HO1.out.below hb2 (by omega))
  have HX2 := Lib.hid ((hb2.block _ (Array.getElem?_eq_some_iff.1 HX1.out).1).trans HX1.out)
  have hs2 := hb2.size
  clear hb2 HB1 HV1 HO1 HX1 c0 c1
  obtain ⟨c0, c1⟩ := pair_cells HX2.out
  obtain ⟨bv, ov, rfl, hbv, cv0⟩ := HV2.out.2 d hd4
  rw [hcx] at cv0
  clear hcx
  generalize hst : stOf xs d = st at HSeg hsc ⊢
  have HSt := Lib.hid hst
  clear hst
  have i0 : (0 : Int) ≤ (st : Int) := by omega
  have i1 : (st : Int) ≤ (st : Int) + (c : Int) := by omega
  have i2 : (st : Int) + (c : Int) ≤ (co : Int) := by omega
  have i3 : (d : Int) < 4 := by omega
  have iw : IntKind.i64.wrap ((st : Int) + (c : Int)) = (st : Int) + (c : Int) := IntWalk.i64_in _ (by omega)
  have hlt2 := (Array.getElem?_eq_some_iff.1 HX2.out).1
  have hS : w2.drew.cell? ⟨w.heap.size, 0, none⟩ = some (.slice (some ⟨bv, ov, none⟩) 4 cv) ∧ w2.drew.cell? ⟨w.heap.size, 1, none⟩ = some (.slice ao no co) ∧ w2.drew.cell? ⟨bv, ov + d, none⟩ = some (.int .i64 (c : Int)) := ⟨c0, c1, cv0⟩
  have hcn : ((st : Int) + (c : Int)).toNat - st = c := by omega
  obtain ⟨xa, hxa⟩ : ∃ xa, (if co = st then ao else Option.map (fun x => x.add (st * 8)) ao) = xa := ⟨_, rfl⟩
  have HXa : Hid (Ops w2 B xa c ((l.drop st).take c) ∧ (xa = none → co - st = 0)) := by
    rw [← hxa]
    by_cases e : co = st
    · rw [if_pos e]
      have hc0 : c = 0 := by omega
      subst hc0
      exact ⟨ops_empty (by simp), fun _ => by omega⟩
    · rw [if_neg e]
      refine ⟨(HO2.out.dropMap (c := st) (by omega)).take (by omega), fun h => ?_⟩
      have : ao = none := by cases ao with | none => rfl | some x => cases h
      have := HNil.out this
      omega
  have HLc : Hid (((l.drop st).take c).length = c) := by show List.length _ = c; rw [List.length_take, List.length_drop, HL.out]; omega
  have HItm : Hid (∀ i, i < c → ((((l.drop st).take c).getD i OpV.zero).item.size ≤ 1048576)) := fun i hi => by
    have e : ((l.drop st).take c).getD i OpV.zero = atOp l (st + i) := at_cut hi
    rw [e]
    exact HM.out (st + i) (by omega)
  go_wp2_with fail
  refine wp_region_held_drew (S := fun w' => w'.cell? ⟨w.heap.size, 0, none⟩ = some (.slice (some ⟨bv, ov, none⟩) 4 cv) ∧ w'.cell? ⟨w.heap.size, 1, none⟩ = some (.slice ao no co) ∧ w'.cell? ⟨bv, ov + d, none⟩ = some (.int .i64 (c : Int))) (by kernel_rfl) hS (fun hHeld => ?_)
  refine wpAnyH_take (i := 0) (oi := { dst := some 17, op := .fieldAddr 27 (.tmp 2) 1, type := 0, pos := "l08_pages.go:66", after := #[], guard := none }) (v := ?_) rfl (by kernel_rfl) (by kernel_rfl) (by kernel_rfl) (fun _ _ _ h => h) (Or.inl ⟨by rfl, ?_⟩) (by assumption) ?_
  rotate_left
  · intro w hSw
    (try dsimp only at hSw)
    first | (go_simp; done) | (go_simp; with_reducible rfl)
  (try simp only [Act.put, List.setIfInBounds_toArray, List.set_cons_zero, List.set_cons_succ])
  refine wpAnyH_take (i := 1) (oi := { dst := some 18, op := .load 25 (.tmp 17), type := 25, pos := "l08_pages.go:66", after := #[⟨0, .data⟩], guard := none }) (v := ?_) rfl (by kernel_rfl) (by kernel_rfl) (by kernel_rfl) (fun _ _ _ h => h) (Or.inl ⟨by rfl, ?_⟩) (by assumption) ?_
  rotate_left
  · intro w hSw
    (try dsimp only at hSw)
    first | (go_simp; done) | (go_simp; with_reducible rfl)
  (try simp only [Act.put, List.setIfInBounds_toArray, List.set_cons_zero, List.set_cons_succ])
  refine wpAnyH_take (i := 2) (oi := { dst := some 19, op := .move (.tmp 5), type := 3, pos := "l08_pages.go:66", after := #[], guard := none }) (v := ?_) rfl (by kernel_rfl) (by kernel_rfl) (by kernel_rfl) (fun _ _ _ h => h) (Or.inl ⟨by rfl, ?_⟩) (by assumption) ?_
  rotate_left
  · intro w hSw
    (try dsimp only at hSw)
    first | (go_simp; done) | (go_simp; with_reducible rfl)
  (try simp only [Act.put, List.setIfInBounds_toArray, List.set_cons_zero, List.set_cons_succ])
  refine wpAnyH_take (i := 3) (oi := { dst := some 20, op := .move (.tmp 5), type := 3, pos := "l08_pages.go:66", after := #[], guard := none }) (v := ?_) rfl (by kernel_rfl) (by kernel_rfl) (by kernel_rfl) (fun _ _ _ h => h) (Or.inl ⟨by rfl, ?_⟩) (by assumption) ?_
  rotate_left
  · intro w hSw
    (try dsimp only at hSw)
    first | (go_simp; done) | (go_simp; with_reducible rfl)
  (try simp only [Act.put, List.setIfInBounds_toArray, List.set_cons_zero, List.set_cons_succ])
  refine wpAnyH_take (i := 4) (oi := { dst := some 21, op := .fieldAddr 27 (.tmp 2) 0, type := 0, pos := "l08_pages.go:66", after := #[], guard := none }) (v := ?_) rfl (by kernel_rfl) (by kernel_rfl) (by kernel_rfl) (fun _ _ _ h => h) (Or.inl ⟨by rfl, ?_⟩) (by assumption) ?_
  rotate_left
  · intro w hSw
    (try dsimp only at hSw)
    first | (go_simp; done) | (go_simp; with_reducible rfl)
  (try simp only [Act.put, List.setIfInBounds_toArray, List.set_cons_zero, List.set_cons_succ])
  refine wpAnyH_take (i := 5) (oi := { dst := some 22, op := .load 24 (.tmp 21), type := 24, pos := "l08_pages.go:66", after := #[⟨4, .data⟩], guard := none }) (v := ?_) rfl (by kernel_rfl) (by kernel_rfl) (by kernel_rfl) (fun _ _ _ h => h) (Or.inl ⟨by rfl, ?_⟩) (by assumption) ?_
  rotate_left
  · intro w hSw
    (try dsimp only at hSw)
    first | (go_simp; done) | (go_simp; with_reducible rfl)
  (try simp only [Act.put, List.setIfInBounds_toArray, List.set_cons_zero, List.set_cons_succ])
  refine wpAnyH_take (i := 6) (oi := { dst := some 23, op := .move (.tmp 1), type := 2, pos := "l08_pages.go:66", after := #[], guard := none }) (v := ?_) rfl (by kernel_rfl) (by kernel_rfl) (by kernel_rfl) (fun _ _ _ h => h) (Or.inl ⟨by rfl, ?_⟩) (by assumption) ?_
  rotate_left
  · intro w hSw
    (try dsimp only at hSw)
    first | (go_simp; done) | (go_simp; with_reducible rfl)
  (try simp only [Act.put, List.setIfInBounds_toArray, List.set_cons_zero, List.set_cons_succ])
  refine wpAnyH_take (i := 7) (oi := { dst := some 24, op := .indexAddr 24 (.tmp 22) (.tmp 23), type := 0, pos := "l08_pages.go:66", after := #[⟨5, .data⟩, ⟨6, .data⟩], guard := none }) (v := ?_) rfl (by kernel_rfl) (by kernel_rfl) (by kernel_rfl) (fun _ _ _ h => h) (Or.inl ⟨by rfl, ?_⟩) (by assumption) ?_
  rotate_left
  · intro w hSw
    (try dsimp only at hSw)
    first | (go_simp; done) | (go_simp; with_reducible rfl)
  (try simp only [Act.put, List.setIfInBounds_toArray, List.set_cons_zero, List.set_cons_succ])
  refine wpAnyH_take (i := 8) (oi := { dst := some 25, op := .load 2 (.tmp 24), type := 2, pos := "l08_pages.go:66", after := #[⟨7, .data⟩], guard := none }) (v := ?_) rfl (by kernel_rfl) (by kernel_rfl) (by kernel_rfl) (fun _ _ _ h => h) (Or.inl ⟨by rfl, ?_⟩) (by assumption) ?_
  rotate_left
  · intro w hSw
    (try dsimp only at hSw)
    first | (go_simp; done) | (go_simp; with_reducible rfl)
  (try simp only [Act.put, List.setIfInBounds_toArray, List.set_cons_zero, List.set_cons_succ])
  refine wpAnyH_take (i := 9) (oi := { dst := some 26, op := .binOp .add 3 (.tmp 20) (.tmp 25) 3, type := 3, pos := "l08_pages.go:66", after := #[⟨3, .data⟩, ⟨8, .data⟩], guard := none }) (v := ?_) rfl (by kernel_rfl) (by kernel_rfl) (by kernel_rfl) (fun _ _ _ h => h) (Or.inl ⟨by rfl, ?_⟩) (by assumption) ?_
  rotate_left
  · intro w hSw
    (try dsimp only at hSw)
    first | (go_simp; done) | (go_simp; with_reducible rfl)
  (try simp only [Act.put, List.setIfInBounds_toArray, List.set_cons_zero, List.set_cons_succ])
  refine wpAnyH_take (i := 10) (oi := { dst := some 27, op := .slice 25 (.tmp 18) (some (.tmp 19)) (some (.tmp 26)) none, type := 25, pos := "l08_pages.go:66", after := #[⟨1, .data⟩, ⟨2, .data⟩, ⟨9, .data⟩], guard := none }) (v := ?_) rfl (by kernel_rfl) (by kernel_rfl) (by kernel_rfl) (fun _ _ _ h => h) (Or.inl ⟨by rfl, ?_⟩) (by assumption) ?_
  rotate_left
  · intro w hSw
    (try dsimp only at hSw)
    first | (go_simp; done) | (go_simp; with_reducible rfl)
  (try simp only [Act.put, List.setIfInBounds_toArray, List.set_cons_zero, List.set_cons_succ])
  refine wpAnyH_ready (rs := [11]) (by kernel_rfl) (by simp) ?_
  refine AllReadyH.cons (o := { dst := some 28, op := .call { callee := .value (.func 93), args := #[.tmp 27], argTypes := #[25] }, type := 25, pos := "l08_pages.go:66", after := #[⟨10, .data⟩], guard := none }) rfl (fun K hK => ?_) AllReadyH.nil
  go_simp
  go_at_call 93
  refine (copiedOps w2.drew B xa c (co - st) _ (HXa.out.1.kept fun _ _ => rfl) (by show B ≤ w2.heap.size; omega) (by omega) HXa.out.2 HItm.out).mono ?_
  rintro e w3 ⟨ra, rc, rfl, ho3, hb3⟩
  rw [HLc.out]
  have hS3 : w3.cell? ⟨w.heap.size, 0, none⟩ = some (.slice (some ⟨bv, ov, none⟩) 4 cv) ∧ w3.cell? ⟨w.heap.size, 1, none⟩ = some (.slice ao no co) ∧ w3.cell? ⟨bv, ov + d, none⟩ = some (.int .i64 (c : Int)) := ⟨(hb3.cell (block_lt_of_cell hS.1)).trans hS.1, (hb3.cell (block_lt_of_cell hS.2.1)).trans hS.2.1, (hb3.cell (block_lt_of_cell hS.2.2)).trans hS.2.2⟩
  refine hK.out _ _ hS3 (fun hHeld2 => ?_)
  clear hK K
  (try simp only [Act.put, List.setIfInBounds_toArray, List.set_cons_zero, List.set_cons_succ])
  refine wpAnyH_take (i := 12) (oi := { dst := some 4, op := .assign (.tmp 28), type := 25, pos := "l08_pages.go:66", after := #[⟨11, .data⟩, ⟨11, .chain⟩, ⟨0, .phase⟩, ⟨1, .phase⟩, ⟨2, .phase⟩, ⟨3, .phase⟩, ⟨4, .phase⟩, ⟨5, .phase⟩, ⟨6, .phase⟩, ⟨7, .phase⟩, ⟨8, .phase⟩, ⟨9, .phase⟩, ⟨10, .phase⟩, ⟨11, .phase⟩], guard := none }) (v := ?_) rfl (by kernel_rfl) (by kernel_rfl) (by kernel_rfl) (fun _ _ _ h => h) (Or.inl ⟨by rfl, ?_⟩) (by assumption) ?_
  rotate_left
  · intro w hSw
    (try dsimp only at hSw)
    first | (go_simp; done) | (go_simp; with_reducible rfl)
  (try simp only [Act.put, List.setIfInBounds_toArray, List.set_cons_zero, List.set_cons_succ])
  refine wpAnyH_done (by kernel_rfl) ?_ _
  have hbb : Below w2.heap.size w2 w3 := Below.mk hb3.os hb3.tape hb3.output hb3.size hb3.block
  have HB3 := Lib.hid (HB2.out.trans (hbb.mono HB2.out.size))
  have HO3 := Lib.hid (ho3.more (lo' := w.heap.size) (by show w.heap.size ≤ w2.heap.size; omega) (Nat.le_refl _))
  clear hb3 hbb ho3 hS hS3 hHeld hHeld2
  rw [← HSeg.out, ← HN.out] at HO3
  go_wp2
  go_ret
  exact ⟨ra, rc, by rw [HN.out, HSeg.out, HLc.out]; rfl, HO3.out, HB3.out⟩
end Go.Proofs.Ytmceofdknphgkaa
