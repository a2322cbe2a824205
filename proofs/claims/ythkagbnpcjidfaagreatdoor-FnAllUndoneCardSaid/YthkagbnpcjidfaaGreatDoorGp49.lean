/- Walks and mathematics that several claims share, part 49. -/
import Derived.Test.YthkagbnpcjidfaaGreatDoorGp17
import Derived.Deep.RegionHeld3
import Derived.Deep.Cut
namespace Go.Proofs.YthkagbnpcjidfaaGreatDoor
set_option maxRecDepth 100000
open Go.RowKit
set_option linter.unusedVariables false
set_option linter.unusedSimpArgs false
set_option linter.unusedSimpArgs false in
set_option maxHeartbeats 20000000 in
theorem aGH (w : World) (B : Nat) (av ao : Option Addr) (nv cv no co : Nat) (xs : List Int) (l : List aA) (dev : Int) (hx : Ints w B av nv xs) (h : bK w B ao no l) (hB : B ≤ w.heap.size) (hv : nv ≤ 1048576) (hvc : nv ≤ cv) (hc : no ≤ co) (cM : Fits no co) (C6 : ao = none → co = 0) (hm : ∀ i, i < no → (aB l i).item.size ≤ 1048576) :
  Calls Tryz.prog 35 #[.agg #[.slice av nv cv, .slice ao no co], .int .i64 dev] w (xR (gG xs l dev) w) := by
 have tF : no ≤ 1048576 := cM.1
 have bC : Below w.heap.size w (w.alloc (.cells #[.slice av nv cv, .slice ao no co] 27)) := (Below.refl _ w).alloc aPw _
 have HV := aPu (hx.below bC hB)
 have HO := aPu (h.below bC hB)
 have HB := aPu bC
 have HX := aPu (bE (Below.refl _ (w.alloc (.cells #[.slice av nv cv, .slice ao no co] 27))))
 have HL := aPu h.1
 have HM := aPu hm
 have aOk := aPu C6
 have cP : w.heap.size + 1 ≤ (w.alloc (.cells #[.slice av nv cv, .slice ao no co] 27)).heap.size := by show _ ≤ (w.heap.push _).size; simp
 clear hx h bC hm C6
 rcases hcb : aD xs l with _ | _
 ·have HF := aPu (aCz (dev := dev) hcb)
  have HK := aPu hcb; clear hcb
  go_enter Tryz.func35, Tryz.ntmps35
  go_wp2_with fail
  generalize w.alloc (.cells #[.slice av nv cv, .slice ao no co] 27) = w0 at HV HO HB HX cP ⊢; refine (iM w0 B av ao nv cv no co xs l HV.out HO.out (by omega) (by omega) hc cM).mono ?_
  rintro e w1 ⟨rfl, aE⟩; rw [HK.out]; have cX := aPu (HB.out.trans (aE.mono (by omega)))
  have iA := aPu (HV.out.below aE (by omega))
  have cI := aPu (HO.out.below aE (by omega))
  have oZ := aPu ((aE.block _ (aPv HX.out).1).trans HX.out); have dZ := aE.size; clear aE HV HO HB HX; go_wp2
  go_ret
  exact ⟨none, 0, by rw [HF.out]; rfl, by rw [HF.out]; exact dV _ _ _ _, cX.out⟩
 have HK := aPu hcb
 obtain ⟨hvk, gJ, aIa⟩ := fX hcb
 have h4 : nv = 4 := HV.out.1.symm.trans (eM hvk (d := 0) (by omega)).2.2
 subst h4
 rcases hdb : cO dev 0 3 with _ | _
 ·have HF := aPu (aEP (xs := xs) (l := l) hdb)
  have HD := aPu hdb; clear hcb hdb gJ aIa
  go_enter Tryz.func35, Tryz.ntmps35
  go_wp2_with fail
  generalize w.alloc (.cells #[.slice av 4 cv, .slice ao no co] 27) = w0 at HV HO HB HX cP ⊢; refine (iM w0 B av ao 4 cv no co xs l HV.out HO.out (by omega) (by omega) hc cM).mono ?_
  rintro e w1 ⟨rfl, aE⟩; rw [HK.out]; have cX := aPu (HB.out.trans (aE.mono (by omega)))
  have iA := aPu (HV.out.below aE (by omega))
  have cI := aPu (HO.out.below aE (by omega))
  have oZ := aPu ((aE.block _ (aPv HX.out).1).trans HX.out); have dZ := aE.size; clear aE HV HO HB HX
  go_wp2_with fail
  refine (aBR _ _).mono ?_
  rintro e w2 ⟨rfl, rfl⟩; rw [HD.out]; go_wp2
  go_ret
  exact ⟨none, 0, by rw [HF.out]; rfl, by rw [HF.out]; exact dV _ _ _ _, cX.out⟩
 have HD := aPu hdb
 have aLr := eR.1 hdb
 obtain ⟨d, rfl⟩ := Int.eq_ofNat_of_zero_le aLr.1
 have yQ : d < 4 := by omega
 have HN : Hid (gG xs l (d : Int) = oC xs l d) := by show _ = _; rw [Q2 hcb, aBy hcb yQ]
 have wP := hC xs (d + 1) 4 (by omega)
 obtain ⟨g1, g2, _⟩ := eM hvk yQ
 obtain ⟨c, uD⟩ := Int.eq_ofNat_of_zero_le g1
 have aI1 : Hid (oC xs l d = (l.drop (aL xs d)).take c) := by show _ = _; unfold oC; rw [uD]; rfl
 have hsc : aL xs d + c ≤ no := by
  have e : aL xs (d + 1) = aL xs d + c := by show aL xs d + (xs.getD d 0).toNat = _; rw [uD]; rfl
  rw [← HL.out, ← aIa, ← e]; exact wP
 have HVk := aPu hvk
 clear hcb hdb gJ aIa aLr wP g1 g2 hvk
 go_enter Tryz.func35, Tryz.ntmps35
 go_wp2_with fail
 generalize w.alloc (.cells #[.slice av 4 cv, .slice ao no co] 27) = w0 at HV HO HB HX cP ⊢
 refine (iM w0 B av ao 4 cv no co xs l HV.out HO.out (by omega) (by omega) hc cM).mono ?_
 rintro e w1 ⟨rfl, aE⟩
 rw [HK.out]
 have cX := aPu (HB.out.trans (aE.mono (by omega)))
 have iA := aPu (HV.out.below aE (by omega))
 have cI := aPu (HO.out.below aE (by omega))
 have oZ := aPu ((aE.block _ (aPv HX.out).1).trans HX.out)
 have dZ := aE.size
 clear aE HV HO HB HX
 go_wp2_with fail
 refine (aBR _ _).mono ?_
 rintro e w2 ⟨rfl, rfl⟩
 rw [HD.out]
 obtain ⟨c0, c1⟩ := pair_cells oZ.out
 go_wp2_with fail
 refine (aHu _ B av ao cv no co xs iA.out (by omega) hvc HVk.out d yQ).mono ?_
 rintro e w2 ⟨rfl, aG⟩
 have bP := aPu (cX.out.trans (aG.mono (by omega)))
 have jW := aPu (iA.out.below aG (by omega))
 have fZ := aPu (cI.out.below aG (by omega))
 have nT := aPu ((aG.block _ (aPv oZ.out).1).trans oZ.out)
 have dS := aG.size
 clear aG cX iA cI oZ c0 c1
 obtain ⟨c0, c1⟩ := pair_cells nT.out
 obtain ⟨bv, ov, rfl, hbv, cv0⟩ := jW.out.2 d yQ
 rw [uD] at cv0
 clear uD
 generalize eB : aL xs d = st at aI1 hsc ⊢
 have bZ := aPu eB
 clear eB
 have i0 : (0 : Int) ≤ (st : Int) := by omega
 have i1 : (st : Int) ≤ (st : Int) + (c : Int) := by omega
 have i2 : (st : Int) + (c : Int) ≤ (co : Int) := by omega
 have i3 : (d : Int) < 4 := by omega
 have iw : IntKind.i64.wrap ((st : Int) + (c : Int)) = (st : Int) + (c : Int) := IntWalk.i64_in _ (by omega)
 have aIe := (aPv nT.out).1
 have hS : w2.drew.cell? ⟨w.heap.size, 0, none⟩ = some (.slice (some ⟨bv, ov, none⟩) 4 cv) ∧ w2.drew.cell? ⟨w.heap.size, 1, none⟩ = some (.slice ao no co) ∧ w2.drew.cell? ⟨bv, ov + d, none⟩ = some (.int .i64 (c : Int)) := ⟨c0, c1, cv0⟩
 have kM : ((st : Int) + (c : Int)).toNat - st = c := by omega
 obtain ⟨xa, Z4⟩ : ∃ xa, (if co = st then ao else Option.map (fun x => x.add (st * 8)) ao) = xa := ⟨_, rfl⟩
 have HXa : Hid (bK w2 B xa c ((l.drop st).take c) ∧ (xa = none → co - st = 0)) := by
  rw [← Z4]
  by_cases e : co = st
  ·rw [if_pos e]
   have wR : c = 0 := by omega
   subst wR; exact ⟨P6 (by simp), fun _ => by omega⟩
  ·rw [if_neg e]
   refine ⟨(fZ.out.dropMap (c := st) (by omega)).take (by omega), fun h => ?_⟩
   have : ao = none := by cases ao with | none => rfl | some x => cases h
   have := aOk.out this; omega
 have HLc : Hid (((l.drop st).take c).length = c) := by show List.length _ = c; rw [List.length_take, List.length_drop, HL.out]; omega
 have aOo : Hid (∀ i, i < c → ((((l.drop st).take c).getD i aA.zero).item.size ≤ 1048576)) := fun i hi => by
  have e : ((l.drop st).take c).getD i aA.zero = aB l (st + i) := aAG hi; rw [e]; exact HM.out (st + i) (by omega)
 go_wp2_with fail
 refine wp_region_held_drew (S := fun w' => w'.cell? ⟨w.heap.size, 0, none⟩ = some (.slice (some ⟨bv, ov, none⟩) 4 cv) ∧ w'.cell? ⟨w.heap.size, 1, none⟩ = some (.slice ao no co) ∧ w'.cell? ⟨bv, ov + d, none⟩ = some (.int .i64 (c : Int))) (by kernel_rfl) hS (fun aP => ?_)
 refine tj 0 ?_
 refine tj 1 ?_
 refine tj 2 ?_
 refine tj 3 ?_
 refine tj 4 ?_
 refine tj 5 ?_
 refine tj 6 ?_
 refine tj 7 ?_
 refine tj 8 ?_
 refine tj 9 ?_
 refine tj 10 ?_
 refine rk 11 rfl (fun K hK => ?_)
 go_simp
 go_at_call 69
 refine (aBS w2.drew B xa c (co - st) _ (HXa.out.1.kept fun _ _ => rfl) (by show B ≤ w2.heap.size; omega) (by omega) HXa.out.2 aOo.out).mono ?_
 rintro e w3 ⟨ra, rc, rfl, ho3, aR⟩
 rw [HLc.out]
 have fV : w3.cell? ⟨w.heap.size, 0, none⟩ = some (.slice (some ⟨bv, ov, none⟩) 4 cv) ∧ w3.cell? ⟨w.heap.size, 1, none⟩ = some (.slice ao no co) ∧ w3.cell? ⟨bv, ov + d, none⟩ = some (.int .i64 (c : Int)) := ⟨(aR.cell (block_lt_of_cell hS.1)).trans hS.1, (aR.cell (block_lt_of_cell hS.2.1)).trans hS.2.1, (aR.cell (block_lt_of_cell hS.2.2)).trans hS.2.2⟩
 refine hK.out _ _ fV (fun bG => ?_)
 clear hK K
 (try simp only [Act.put, u1, u2, u3])
 refine tj 12 ?_
 refine wpAnyH_done (by kernel_rfl) ?_ _
 have aW : Below w2.heap.size w2 w3 := Below.mk aR.os aR.tape aR.output aR.size aR.block
 have dQ := aPu (bP.out.trans (aW.mono bP.out.size))
 have pS := aPu (ho3.more (lo' := w.heap.size) (by show w.heap.size ≤ w2.heap.size; omega) aPw)
 clear aR aW ho3 hS fV aP bG
 rw [← aI1.out, ← HN.out] at pS
 go_wp2
 go_ret
 exact ⟨ra, rc, by rw [HN.out, aI1.out, HLc.out]; rfl, pS.out, dQ.out⟩
end Go.Proofs.YthkagbnpcjidfaaGreatDoor
