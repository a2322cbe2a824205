/- Walks and mathematics that several claims share, part 48. -/
import Derived.Test.YtejhmakfbmhhhaaGreatGx46
import Derived.Test.YtejhmakfbmhhhaaGreatGx47
import Derived.Test.YtejhmakfbmhhhaaGreatGx36
import Derived.Test.YtejhmakfbmhhhaaGreatGx31
import Derived.Test.YtejhmakfbmhhhaaGreatGx30
import Derived.Deep.Cut
import Derived.Test.YtejhmakfbmhhhaaGreatGxA
namespace Go.Proofs.YtejhmakfbmhhhaaGreat
set_option maxRecDepth 100000
open Go.RowKit
set_option linter.unusedVariables false
set_option linter.unusedSimpArgs false

set_option maxHeartbeats 80000000 in
theorem fnNothingWalk (a : Option Addr) (len cap : Nat) (zs : List Int) (w : World) (h : IsRow .u8 w a len cap zs) :
  Calls Tryz.prog 6 #[.slice a len cap] w fun e w' => e = .returned (.bool true) ∧ Below w.heap.size w w' := by
 by_cases hbig : len ≤ 1048576
 rotate_left
 ·go_enter Tryz.func6, Tryz.ntmps6
  go_wp2_with fail
  refine (bigYes a len cap hbig w).mono ?_
  rintro e w' ⟨rfl, rfl⟩
  go_wp2
  go_ret
  exact ⟨rfl, Below.refl _ _⟩
 have hsrc := Lib.hid (src_of_row h hbig)
 clear h
 go_enter Tryz.func6, Tryz.ntmps6
 go_wp2_with fail
 refine (bigNo a len cap hbig w).mono ?_
 rintro e w' ⟨rfl, rfl⟩
 go_wp2_with fail
 refine (drawItemsOf w w.heap.size a len cap (Nat.le_refl _) hsrc.out).mono ?_
 rintro e w0 ⟨⟨ava, avc, aoa, ano, aoc⟩, rfl, hx, hb0⟩
 obtain ⟨xs, l, e1, a1, a2, a3, a4, a5, a6⟩ := hx
 have e1 : ano = l.length := e1
 subst e1
 have HVA0 := Lib.hid a1.ints
 have HOA0 := Lib.hid a2.ops
 have HB0 := Lib.hid hb0
 have HLX : Hid (xs.length = 4) := a1.ints.1
 have HCv := Lib.hid a3
 have HCa := Lib.hid a4
 have HIa : Hid (∀ i, i < l.length → (atOp l i).item.size ≤ 1048576) := fun i hi => Nat.le_trans (a5 i hi) (by omega)
 have hs0 := hb0.size
 clear a1 a2 a3 a4 a5 hb0
 dsimp only
 go_upto_region 4 with fail
 have hb : Below w0.heap.size w0 (w0.alloc (.cells #[.slice ava 4 avc, .slice aoa l.length aoc] 27)) := bl
 have HXa1 := Lib.hid (boxAt (Below.refl _ (w0.alloc (.cells #[.slice ava 4 avc, .slice aoa l.length aoc] 27))))
 generalize w0.alloc (.cells #[.slice ava 4 avc, .slice aoa l.length aoc] 27) = w1 at hb HXa1 ⊢
 have hs1 := hb.size
 have HVA1 := Lib.hid (HVA0.out.below hb (by omega))
 have HOA1 := Lib.hid (HOA0.out.below hb (by omega))
 have HB1 := Lib.hid (HB0.out.trans (hb.mono (by omega)))
 clear hb HVA0 HOA0 HB0
 go_wp2_with fail
 refine (implCartNewC w1).mono ?_
 rintro e w2 ⟨eva, evc, rfl, hov, hb, hcE⟩
 have hs2 := hb.size
 have HVA2 := Lib.hid (HVA1.out.below hb (by omega))
 have HOA2 := Lib.hid (HOA1.out.below hb (by omega))
 have HB2 := Lib.hid (HB1.out.trans (hb.mono (by omega)))
 have HXa2 := Lib.hid ((hb.block _ (lt_of_row HXa1.out)).trans HXa1.out)
 clear hb HVA1 HOA1 HB1 HXa1
 have HVE2 := Lib.hid hov.ints
 have HOE2 : Hid (Ops w2 w2.heap.size none 0 []) := ⟨rfl, fun i hi => absurd hi (by omega)⟩
 have HcE := Lib.hid hcE
 clear hov hcE
 go_upto_region 5 with fail
 have hb : Below w2.heap.size w2 (w2.alloc (.cells #[.slice eva 4 evc, .slice none 0 0] 27)) := bl
 have HXe3 := Lib.hid (boxAt (Below.refl _ (w2.alloc (.cells #[.slice eva 4 evc, .slice none 0 0] 27))))
 generalize w2.alloc (.cells #[.slice eva 4 evc, .slice none 0 0] 27) = w3 at hb HXe3 ⊢
 have hs3 := hb.size
 have HVA3 := Lib.hid (HVA2.out.below hb (by omega))
 have HOA3 := Lib.hid (HOA2.out.below hb (by omega))
 have HB3 := Lib.hid (HB2.out.trans (hb.mono (by omega)))
 have HXa3 := Lib.hid ((hb.block _ (lt_of_row HXa2.out)).trans HXa2.out)
 have HVE3 := Lib.hid (HVE2.out.below hb (by omega))
 have HOE3 := Lib.hid (HOE2.out.below hb (by omega))
 clear hb HVA2 HOA2 HB2 HXa2 HVE2 HOE2
 obtain ⟨R, hR⟩ : ∃ R, mergedB xs l [0, 0, 0, 0] [] = R := ⟨_, rfl⟩
 have HR := Lib.hid hR
 obtain ⟨vs, hvs⟩ : ∃ vs, delVs xs R = vs := ⟨_, rfl⟩
 obtain ⟨os, hos⟩ : ∃ os, delOs l [] R = os := ⟨_, rfl⟩
 have HVs := Lib.hid hvs
 have HOs := Lib.hid hos
 have hxl : xs.length = 4 := HLX.out
 have hlv : vs.length ≤ 4 := by rw [← hvs]; unfold delVs; split; exact Nat.le_of_eq hxl; simp
 have hlo : os.length ≤ 400 := by rw [← hos]; unfold delOs; split; exact Nat.le_trans (List.length_filter_le _ _) a6; simp
 have hR1 : R = true → vs = xs := fun h => by rw [← hvs, h]; rfl
 have hR2 : R = true → os = l := fun h => by
  rw [← hos, h]
  show l.filter (delB []) = l
  rw [List.filter_eq_self]
  intro o _
  rfl
 have HR1 := Lib.hid hR1
 have HR2 := Lib.hid hR2
 clear hR hvs hos hR1 hR2 hxl
 obtain ⟨c00, c01⟩ := pair_cells HXa3.out
 obtain ⟨c10, c11⟩ := pair_cells HXe3.out
 go_wp2_with fail
 have hc := implDelta w3 w3.heap.size ava aoa eva none 4 avc l.length aoc 4 evc 0 0 xs l [0, 0, 0, 0] [] (HVA3.out.more (by omega)) (HOA3.out.more (by omega)) (HVE3.out.more (by omega)) (HOE3.out.more (by omega)) (Nat.le_refl _) (by omega) HCa.out.1 ⟨by omega, HCa.out.2.1⟩ HIa.out (by omega) (Nat.le_refl _) ⟨by omega, Nat.zero_le _⟩ (fun i hi => absurd hi (by omega))
 rw [HR.out, HVs.out, HOs.out] at hc
 refine hc.mono ?_
 clear hc
 rintro e w4 ⟨dva, dvc, doa, doc, mid, rfl, hov, hop, hm1, hm2, hb⟩
 clear c00 c01 c10 c11
 have hov := hov.more (Nat.le_refl _) hm2
 clear hm1 hm2
 have hs4 := hb.size
 have HVA4 := Lib.hid (HVA3.out.below hb (by omega))
 have HOA4 := Lib.hid (HOA3.out.below hb (by omega))
 have HB4 := Lib.hid (HB3.out.trans (hb.mono (by omega)))
 have HXa4 := Lib.hid ((hb.block _ (lt_of_row HXa3.out)).trans HXa3.out)
 have HVE4 := Lib.hid (HVE3.out.below hb (by omega))
 have HOE4 := Lib.hid (HOE3.out.below hb (by omega))
 have HXe4 := Lib.hid ((hb.block _ (lt_of_row HXe3.out)).trans HXe3.out)
 clear hb HVA3 HOA3 HB3 HXa3 HVE3 HOE3 HXe3
 have HVD4 := Lib.hid hov.ints
 have HOD4 := Lib.hid hop.ops
 clear hov hop
 go_upto_region 6 with fail
 have hb : Below w4.heap.size w4 (w4.alloc (.cells #[.slice dva vs.length dvc, .slice doa os.length doc] 27)) := bl
 have HXd5 := Lib.hid (boxAt (Below.refl _ (w4.alloc (.cells #[.slice dva vs.length dvc, .slice doa os.length doc] 27))))
 generalize w4.alloc (.cells #[.slice dva vs.length dvc, .slice doa os.length doc] 27) = w5 at hb HXd5 ⊢
 have hs5 := hb.size
 have HVA5 := Lib.hid (HVA4.out.below hb (by omega))
 have HOA5 := Lib.hid (HOA4.out.below hb (by omega))
 have HB5 := Lib.hid (HB4.out.trans (hb.mono (by omega)))
 have HXa5 := Lib.hid ((hb.block _ (lt_of_row HXa4.out)).trans HXa4.out)
 have HVE5 := Lib.hid (HVE4.out.below hb (by omega))
 have HOE5 := Lib.hid (HOE4.out.below hb (by omega))
 have HXe5 := Lib.hid ((hb.block _ (lt_of_row HXe4.out)).trans HXe4.out)
 have HVD5 := Lib.hid (HVD4.out.below hb (by omega))
 have HOD5 := Lib.hid (HOD4.out.below hb (by omega))
 clear hb HVA4 HOA4 HB4 HXa4 HVE4 HOE4 HXe4 HVD4 HOD4
 obtain ⟨c00, c01⟩ := pair_cells HXa5.out
 obtain ⟨c10, c11⟩ := pair_cells HXe5.out
 go_wp2_with fail
 have hc := specDelta w5 w5.heap.size ava aoa eva none 4 avc l.length aoc 4 evc 0 0 xs l [0, 0, 0, 0] [] (HVA5.out.more (by omega)) (HOA5.out.more (by omega)) (HVE5.out.more (by omega)) (HOE5.out.more (by omega)) (Nat.le_refl _) (by omega) (by omega) HIa.out (by omega) (by omega) (fun i hi => absurd hi (by omega))
 rw [HR.out, HVs.out, HOs.out] at hc
 refine hc.mono ?_
 clear hc
 rintro e w6 ⟨wva, wvc, woa, woc, rfl, hov, hop, hb⟩
 clear c00 c01 c10 c11
 have hs6 := hb.size
 have HVA6 := Lib.hid (HVA5.out.below hb (by omega))
 have HOA6 := Lib.hid (HOA5.out.below hb (by omega))
 have HB6 := Lib.hid (HB5.out.trans (hb.mono (by omega)))
 have HXa6 := Lib.hid ((hb.block _ (lt_of_row HXa5.out)).trans HXa5.out)
 have HVE6 := Lib.hid (HVE5.out.below hb (by omega))
 have HOE6 := Lib.hid (HOE5.out.below hb (by omega))
 have HXe6 := Lib.hid ((hb.block _ (lt_of_row HXe5.out)).trans HXe5.out)
 have HVD6 := Lib.hid (HVD5.out.below hb (by omega))
 have HOD6 := Lib.hid (HOD5.out.below hb (by omega))
 have HXd6 := Lib.hid ((hb.block _ (lt_of_row HXd5.out)).trans HXd5.out)
 clear hb HVA5 HOA5 HB5 HXa5 HVE5 HOE5 HXe5 HVD5 HOD5 HXd5
 have HVW6 := Lib.hid hov.ints
 have HOW6 := Lib.hid hop.ops
 clear hov hop
 go_upto_region 7 with fail
 have hb : Below w6.heap.size w6 (w6.alloc (.cells #[.slice wva vs.length wvc, .slice woa os.length woc] 27)) := bl
 have HXw7 := Lib.hid (boxAt (Below.refl _ (w6.alloc (.cells #[.slice wva vs.length wvc, .slice woa os.length woc] 27))))
 generalize w6.alloc (.cells #[.slice wva vs.length wvc, .slice woa os.length woc] 27) = w7 at hb HXw7 ⊢
 have hs7 := hb.size
 have HVA7 := Lib.hid (HVA6.out.below hb (by omega))
 have HOA7 := Lib.hid (HOA6.out.below hb (by omega))
 have HB7 := Lib.hid (HB6.out.trans (hb.mono (by omega)))
 have HXa7 := Lib.hid ((hb.block _ (lt_of_row HXa6.out)).trans HXa6.out)
 have HVE7 := Lib.hid (HVE6.out.below hb (by omega))
 have HOE7 := Lib.hid (HOE6.out.below hb (by omega))
 have HXe7 := Lib.hid ((hb.block _ (lt_of_row HXe6.out)).trans HXe6.out)
 have HVD7 := Lib.hid (HVD6.out.below hb (by omega))
 have HOD7 := Lib.hid (HOD6.out.below hb (by omega))
 have HXd7 := Lib.hid ((hb.block _ (lt_of_row HXd6.out)).trans HXd6.out)
 have HVW7 := Lib.hid (HVW6.out.below hb (by omega))
 have HOW7 := Lib.hid (HOW6.out.below hb (by omega))
 clear hb HVA6 HOA6 HB6 HXa6 HVE6 HOE6 HXe6 HVD6 HOD6 HXd6 HVW6 HOW6
 have hee : linesN [0, 0, 0, 0] [] = [] := by unfold linesN itemsN; rw [cart_zero]; rfl
 have het : totalN [0, 0, 0, 0] [] = 0 := by unfold totalN; rw [hee]; rfl
 have heh : histL [0, 0, 0, 0] [] = [] := List.eq_nil_of_length_eq_zero (Nat.le_zero.1 (hist_len [0, 0, 0, 0] []))
 have HEe := Lib.hid hee
 have HEt := Lib.hid het
 have HEh := Lib.hid heh
 clear hee het heh
 have hbb : (R != R) = false := by cases R <;> rfl
 go_wp2_with fail
 obtain ⟨w8, hzw⟩ : ∃ z, w7.drew = z := ⟨_, rfl⟩
 have hb : Below w7.heap.size w7 w8 := by rw [← hzw]; exact ⟨rfl, rfl, rfl, Nat.le_refl _, fun _ _ => rfl⟩
 have hs8 := hb.size
 have HVA8 := Lib.hid (HVA7.out.below hb (by omega))
 have HOA8 := Lib.hid (HOA7.out.below hb (by omega))
 have HB8 := Lib.hid (HB7.out.trans (hb.mono (by omega)))
 have HXa8 := Lib.hid ((hb.block _ (lt_of_row HXa7.out)).trans HXa7.out)
 have HVE8 := Lib.hid (HVE7.out.below hb (by omega))
 have HOE8 := Lib.hid (HOE7.out.below hb (by omega))
 have HXe8 := Lib.hid ((hb.block _ (lt_of_row HXe7.out)).trans HXe7.out)
 have HVD8 := Lib.hid (HVD7.out.below hb (by omega))
 have HOD8 := Lib.hid (HOD7.out.below hb (by omega))
 have HXd8 := Lib.hid ((hb.block _ (lt_of_row HXd7.out)).trans HXd7.out)
 have HVW8 := Lib.hid (HVW7.out.below hb (by omega))
 have HOW8 := Lib.hid (HOW7.out.below hb (by omega))
 have HXw8 := Lib.hid ((hb.block _ (lt_of_row HXw7.out)).trans HXw7.out)
 clear hb HVA7 HOA7 HB7 HXa7 HVE7 HOE7 HXe7 HVD7 HOD7 HXd7 HVW7 HOW7 HXw7
 have hS : w8.cell? ⟨w0.heap.size, 0, none⟩ = some (.slice ava 4 avc) ∧ w8.cell? ⟨w0.heap.size, 1, none⟩ = some (.slice aoa l.length aoc) ∧ w8.cell? ⟨w2.heap.size, 0, none⟩ = some (.slice eva 4 evc) ∧ w8.cell? ⟨w2.heap.size, 1, none⟩ = some (.slice none 0 0) ∧ w8.cell? ⟨w4.heap.size, 0, none⟩ = some (.slice dva vs.length dvc) ∧ w8.cell? ⟨w4.heap.size, 1, none⟩ = some (.slice doa os.length doc) ∧ w8.cell? ⟨w6.heap.size, 0, none⟩ = some (.slice wva vs.length wvc) ∧ w8.cell? ⟨w6.heap.size, 1, none⟩ = some (.slice woa os.length woc) := ⟨(pair_cells HXa8.out).1, (pair_cells HXa8.out).2, (pair_cells HXe8.out).1, (pair_cells HXe8.out).2, (pair_cells HXd8.out).1, (pair_cells HXd8.out).2, (pair_cells HXw8.out).1, (pair_cells HXw8.out).2⟩
 refine wp_region_held_drew (S := fun w' => w'.cell? ⟨w0.heap.size, 0, none⟩ = some (.slice ava 4 avc) ∧ w'.cell? ⟨w0.heap.size, 1, none⟩ = some (.slice aoa l.length aoc) ∧ w'.cell? ⟨w2.heap.size, 0, none⟩ = some (.slice eva 4 evc) ∧ w'.cell? ⟨w2.heap.size, 1, none⟩ = some (.slice none 0 0) ∧ w'.cell? ⟨w4.heap.size, 0, none⟩ = some (.slice dva vs.length dvc) ∧ w'.cell? ⟨w4.heap.size, 1, none⟩ = some (.slice doa os.length doc) ∧ w'.cell? ⟨w6.heap.size, 0, none⟩ = some (.slice wva vs.length wvc) ∧ w'.cell? ⟨w6.heap.size, 1, none⟩ = some (.slice woa os.length woc)) (by kernel_rfl) (by rw [hzw]; exact hS) (fun hHeld => ?_)
 rw [hzw]
 clear hHeld hzw
 refine tk 0 { dst := some 26, op := .move (.tmp 6), type := 4, pos := "laws.go:1652", after := #[], guard := none } ?_
 (try simp only [Act.put, u1, u2, u3])
 refine tk 1 { dst := some 27, op := .move (.tmp 8), type := 4, pos := "laws.go:1652", after := #[], guard := none } ?_
 (try simp only [Act.put, u1, u2, u3])
 refine tk 2 { dst := some 28, op := .binOp .neq 4 (.tmp 26) (.tmp 27) 4, type := 4, pos := "laws.go:1652", after := #[⟨0, .data⟩, ⟨1, .data⟩], guard := none } ?_
 (try simp only [Act.put, u1, u2, u3])
 refine tk 3 { dst := some 29, op := .move (.tmp 28), type := 4, pos := "laws.go:1652", after := #[⟨2, .data⟩], guard := none } ?_
 (try simp only [Act.put, u1, u2, u3])
 refine tk 4 { dst := some 30, op := .load 27 (.tmp 5), type := 27, pos := "laws.go:1652", after := #[⟨3, .guard⟩], guard := some (3, false) } ?_
 (try simp only [Act.put, u1, u2, u3])
 refine tk 5 { dst := some 31, op := .load 27 (.tmp 7), type := 27, pos := "laws.go:1652", after := #[⟨3, .guard⟩], guard := some (3, false) } ?_
 (try simp only [Act.put, u1, u2, u3])
 refine wpAnyH_ready (rs := [6]) (by kernel_rfl) (by simp) ?_
 refine AllReadyH.cons (o := { dst := some 32, op := .call { callee := .value (.func 32), args := #[.tmp 30, .tmp 31], argTypes := #[27, 27] }, type := 4, pos := "laws.go:1652", after := #[⟨4, .data⟩, ⟨5, .data⟩, ⟨3, .chain⟩, ⟨3, .guard⟩], guard := some (3, false) }) rfl (fun K hK => ?_) AllReadyH.nil
 go_simp
 go_at_call 32
 refine (sameCart w8 w8.heap.size dva doa wva woa vs.length dvc os.length doc vs.length wvc os.length woc vs os vs os (HVD8.out.more (by omega)) (HOD8.out.more (by omega)) (HVW8.out.more (by omega)) (HOW8.out.more (by omega)) (Nat.le_refl _) (by first | omega | simp) (by first | omega | simp) (by first | omega | simp) (by first | omega | simp)).mono ?_
 rintro e w9 ⟨rfl, hb⟩
 rw [decide_eq_true rfl, decide_eq_true rfl]
 have hs9 := hb.size
 have HVA9 := Lib.hid (HVA8.out.below hb (by omega))
 have HOA9 := Lib.hid (HOA8.out.below hb (by omega))
 have HB9 := Lib.hid (HB8.out.trans (hb.mono (by omega)))
 have HXa9 := Lib.hid ((hb.block _ (lt_of_row HXa8.out)).trans HXa8.out)
 have HVE9 := Lib.hid (HVE8.out.below hb (by omega))
 have HOE9 := Lib.hid (HOE8.out.below hb (by omega))
 have HXe9 := Lib.hid ((hb.block _ (lt_of_row HXe8.out)).trans HXe8.out)
 have HVD9 := Lib.hid (HVD8.out.below hb (by omega))
 have HOD9 := Lib.hid (HOD8.out.below hb (by omega))
 have HXd9 := Lib.hid ((hb.block _ (lt_of_row HXd8.out)).trans HXd8.out)
 have HVW9 := Lib.hid (HVW8.out.below hb (by omega))
 have HOW9 := Lib.hid (HOW8.out.below hb (by omega))
 have HXw9 := Lib.hid ((hb.block _ (lt_of_row HXw8.out)).trans HXw8.out)
 clear hb HVA8 HOA8 HB8 HXa8 HVE8 HOE8 HXe8 HVD8 HOD8 HXd8 HVW8 HOW8 HXw8
 have hS2 : w9.cell? ⟨w0.heap.size, 0, none⟩ = some (.slice ava 4 avc) ∧ w9.cell? ⟨w0.heap.size, 1, none⟩ = some (.slice aoa l.length aoc) ∧ w9.cell? ⟨w2.heap.size, 0, none⟩ = some (.slice eva 4 evc) ∧ w9.cell? ⟨w2.heap.size, 1, none⟩ = some (.slice none 0 0) ∧ w9.cell? ⟨w4.heap.size, 0, none⟩ = some (.slice dva vs.length dvc) ∧ w9.cell? ⟨w4.heap.size, 1, none⟩ = some (.slice doa os.length doc) ∧ w9.cell? ⟨w6.heap.size, 0, none⟩ = some (.slice wva vs.length wvc) ∧ w9.cell? ⟨w6.heap.size, 1, none⟩ = some (.slice woa os.length woc) := ⟨(pair_cells HXa9.out).1, (pair_cells HXa9.out).2, (pair_cells HXe9.out).1, (pair_cells HXe9.out).2, (pair_cells HXd9.out).1, (pair_cells HXd9.out).2, (pair_cells HXw9.out).1, (pair_cells HXw9.out).2⟩
 refine hK.out _ _ hS2 (fun hHeld3 => ?_)
 clear hK K
 (try simp only [Act.put, u1, u2, u3])
 clear hHeld3
 refine tk 7 { dst := some 33, op := .unOp .not 4 (.tmp 32), type := 4, pos := "laws.go:1652", after := #[⟨6, .data⟩, ⟨3, .guard⟩], guard := some (3, false) } ?_
 (try simp only [Act.put, u1, u2, u3])
 refine tk 8 { dst := some 34, op := .pick (.tmp 29) (.const (Value.bool true)) (.tmp 33), type := 4, pos := "laws.go:1652", after := #[⟨3, .data⟩, ⟨7, .data⟩], guard := none } ?_
 (try simp only [Act.put, u1, u2, u3])
 refine tk 9 { dst := some 35, op := .move (.tmp 34), type := 4, pos := "laws.go:1652", after := #[⟨8, .data⟩, ⟨6, .chain⟩], guard := none } ?_
 (try simp only [Act.put, u1, u2, u3])
 refine tk 10 { dst := some 36, op := .load 27 (.tmp 4), type := 27, pos := "laws.go:1652", after := #[⟨9, .guard⟩], guard := some (9, false) } ?_
 (try simp only [Act.put, u1, u2, u3])
 refine wpAnyH_ready (rs := [11]) (by kernel_rfl) (by simp) ?_
 refine AllReadyH.cons (o := { dst := some 37, op := .call { callee := .value (.func 33), args := #[], argTypes := #[] }, type := 27, pos := "laws.go:1652", after := #[⟨9, .chain⟩, ⟨9, .guard⟩], guard := some (9, false) }) rfl (fun K hK => ?_) AllReadyH.nil
 go_simp
 go_at_call 33
 refine (specCartNewX w9).mono ?_
 rintro e w10 ⟨nva, nvc, rfl, hov, hb⟩
 have hs10 := hb.size
 have HVA10 := Lib.hid (HVA9.out.below hb (by omega))
 have HOA10 := Lib.hid (HOA9.out.below hb (by omega))
 have HB10 := Lib.hid (HB9.out.trans (hb.mono (by omega)))
 have HXa10 := Lib.hid ((hb.block _ (lt_of_row HXa9.out)).trans HXa9.out)
 have HVE10 := Lib.hid (HVE9.out.below hb (by omega))
 have HOE10 := Lib.hid (HOE9.out.below hb (by omega))
 have HXe10 := Lib.hid ((hb.block _ (lt_of_row HXe9.out)).trans HXe9.out)
 have HVD10 := Lib.hid (HVD9.out.below hb (by omega))
 have HOD10 := Lib.hid (HOD9.out.below hb (by omega))
 have HXd10 := Lib.hid ((hb.block _ (lt_of_row HXd9.out)).trans HXd9.out)
 have HVW10 := Lib.hid (HVW9.out.below hb (by omega))
 have HOW10 := Lib.hid (HOW9.out.below hb (by omega))
 have HXw10 := Lib.hid ((hb.block _ (lt_of_row HXw9.out)).trans HXw9.out)
 clear hb HVA9 HOA9 HB9 HXa9 HVE9 HOE9 HXe9 HVD9 HOD9 HXd9 HVW9 HOW9 HXw9
 have hS4 : w10.cell? ⟨w0.heap.size, 0, none⟩ = some (.slice ava 4 avc) ∧ w10.cell? ⟨w0.heap.size, 1, none⟩ = some (.slice aoa l.length aoc) ∧ w10.cell? ⟨w2.heap.size, 0, none⟩ = some (.slice eva 4 evc) ∧ w10.cell? ⟨w2.heap.size, 1, none⟩ = some (.slice none 0 0) ∧ w10.cell? ⟨w4.heap.size, 0, none⟩ = some (.slice dva vs.length dvc) ∧ w10.cell? ⟨w4.heap.size, 1, none⟩ = some (.slice doa os.length doc) ∧ w10.cell? ⟨w6.heap.size, 0, none⟩ = some (.slice wva vs.length wvc) ∧ w10.cell? ⟨w6.heap.size, 1, none⟩ = some (.slice woa os.length woc) := ⟨(pair_cells HXa10.out).1, (pair_cells HXa10.out).2, (pair_cells HXe10.out).1, (pair_cells HXe10.out).2, (pair_cells HXd10.out).1, (pair_cells HXd10.out).2, (pair_cells HXw10.out).1, (pair_cells HXw10.out).2⟩
 refine hK.out _ _ hS4 (fun hHeld5 => ?_)
 clear hK K
 (try simp only [Act.put, u1, u2, u3])
 clear hHeld5
 have HVN10 := Lib.hid hov.ints
 have HON10 : Hid (Ops w10 w10.heap.size none 0 []) := ⟨rfl, fun i hi => absurd hi (by omega)⟩
 clear hov
 refine wpAnyH_ready (rs := [12]) (by kernel_rfl) (by simp) ?_
 refine AllReadyH.cons (o := { dst := some 38, op := .call { callee := .value (.func 32), args := #[.tmp 36, .tmp 37], argTypes := #[27, 27] }, type := 4, pos := "laws.go:1652", after := #[⟨10, .data⟩, ⟨11, .data⟩, ⟨11, .chain⟩, ⟨9, .guard⟩], guard := some (9, false) }) rfl (fun K hK => ?_) AllReadyH.nil
 go_simp
 go_at_call 32
 refine (sameCart w10 w10.heap.size eva none nva none 4 evc 0 0 4 nvc 0 0 [0, 0, 0, 0] [] [0, 0, 0, 0] [] (HVE10.out.more (by omega)) (HOE10.out.more (by omega)) (HVN10.out.more (by omega)) (HON10.out.more (by omega)) (Nat.le_refl _) (by first | omega | simp) (by first | omega | simp) (by first | omega | simp) (by first | omega | simp)).mono ?_
 rintro e w11 ⟨rfl, hb⟩
 rw [decide_eq_true rfl, decide_eq_true rfl]
 have hs11 := hb.size
 have HVA11 := Lib.hid (HVA10.out.below hb (by omega))
 have HOA11 := Lib.hid (HOA10.out.below hb (by omega))
 have HB11 := Lib.hid (HB10.out.trans (hb.mono (by omega)))
 have HXa11 := Lib.hid ((hb.block _ (lt_of_row HXa10.out)).trans HXa10.out)
 have HVE11 := Lib.hid (HVE10.out.below hb (by omega))
 have HOE11 := Lib.hid (HOE10.out.below hb (by omega))
 have HXe11 := Lib.hid ((hb.block _ (lt_of_row HXe10.out)).trans HXe10.out)
 have HVD11 := Lib.hid (HVD10.out.below hb (by omega))
 have HOD11 := Lib.hid (HOD10.out.below hb (by omega))
 have HXd11 := Lib.hid ((hb.block _ (lt_of_row HXd10.out)).trans HXd10.out)
 have HVW11 := Lib.hid (HVW10.out.below hb (by omega))
 have HOW11 := Lib.hid (HOW10.out.below hb (by omega))
 have HXw11 := Lib.hid ((hb.block _ (lt_of_row HXw10.out)).trans HXw10.out)
 have HVN11 := Lib.hid (HVN10.out.below hb (by omega))
 have HON11 := Lib.hid (HON10.out.below hb (by omega))
 clear hb HVA10 HOA10 HB10 HXa10 HVE10 HOE10 HXe10 HVD10 HOD10 HXd10 HVW10 HOW10 HXw10 HVN10 HON10
 have hS6 : w11.cell? ⟨w0.heap.size, 0, none⟩ = some (.slice ava 4 avc) ∧ w11.cell? ⟨w0.heap.size, 1, none⟩ = some (.slice aoa l.length aoc) ∧ w11.cell? ⟨w2.heap.size, 0, none⟩ = some (.slice eva 4 evc) ∧ w11.cell? ⟨w2.heap.size, 1, none⟩ = some (.slice none 0 0) ∧ w11.cell? ⟨w4.heap.size, 0, none⟩ = some (.slice dva vs.length dvc) ∧ w11.cell? ⟨w4.heap.size, 1, none⟩ = some (.slice doa os.length doc) ∧ w11.cell? ⟨w6.heap.size, 0, none⟩ = some (.slice wva vs.length wvc) ∧ w11.cell? ⟨w6.heap.size, 1, none⟩ = some (.slice woa os.length woc) := ⟨(pair_cells HXa11.out).1, (pair_cells HXa11.out).2, (pair_cells HXe11.out).1, (pair_cells HXe11.out).2, (pair_cells HXd11.out).1, (pair_cells HXd11.out).2, (pair_cells HXw11.out).1, (pair_cells HXw11.out).2⟩
 refine hK.out _ _ hS6 (fun hHeld7 => ?_)
 clear hK K
 (try simp only [Act.put, u1, u2, u3])
 clear hHeld7
 clear HVN11 HON11
 refine tk 13 { dst := some 39, op := .unOp .not 4 (.tmp 38), type := 4, pos := "laws.go:1652", after := #[⟨12, .data⟩, ⟨9, .guard⟩], guard := some (9, false) } ?_
 (try simp only [Act.put, u1, u2, u3])
 refine tk 14 { dst := some 40, op := .pick (.tmp 35) (.const (Value.bool true)) (.tmp 39), type := 4, pos := "laws.go:1652", after := #[⟨9, .data⟩, ⟨13, .data⟩], guard := none } ?_
 (try simp only [Act.put, u1, u2, u3])
 refine tk 15 { dst := some 41, op := .move (.tmp 40), type := 4, pos := "laws.go:1652", after := #[⟨14, .data⟩, ⟨12, .chain⟩], guard := none } ?_
 (try simp only [Act.put, u1, u2, u3])
 refine tk 16 { dst := some 42, op := .load 27 (.tmp 4), type := 27, pos := "laws.go:1652", after := #[⟨15, .guard⟩], guard := some (15, false) } ?_
 (try simp only [Act.put, u1, u2, u3])
 refine wpAnyH_ready (rs := [17]) (by kernel_rfl) (by simp) ?_
 refine AllReadyH.cons (o := { dst := some 43, op := .call { callee := .value (.func 11), args := #[.tmp 42], argTypes := #[27] }, type := 30, pos := "laws.go:1652", after := #[⟨16, .data⟩, ⟨15, .chain⟩, ⟨15, .guard⟩], guard := some (15, false) }) rfl (fun K hK => ?_) AllReadyH.nil
 go_simp
 go_at_call 11
 refine (implLines w11 w11.heap.size eva none 4 evc 0 0 [0, 0, 0, 0] [] (HVE11.out.more (by omega)) (HOE11.out.more (by omega)) (Nat.le_refl _) (by omega) (Nat.le_refl _) ⟨by omega, Nat.zero_le _⟩ (fun o ho => by cases ho)).mono ?_
 rintro e w12 ⟨la, lc, hre, hls, hb⟩
 rw [HEe.out] at hre
 subst hre
 clear hls
 have hs12 := hb.size
 have HVA12 := Lib.hid (HVA11.out.below hb (by omega))
 have HOA12 := Lib.hid (HOA11.out.below hb (by omega))
 have HB12 := Lib.hid (HB11.out.trans (hb.mono (by omega)))
 have HXa12 := Lib.hid ((hb.block _ (lt_of_row HXa11.out)).trans HXa11.out)
 have HVE12 := Lib.hid (HVE11.out.below hb (by omega))
 have HOE12 := Lib.hid (HOE11.out.below hb (by omega))
 have HXe12 := Lib.hid ((hb.block _ (lt_of_row HXe11.out)).trans HXe11.out)
 have HVD12 := Lib.hid (HVD11.out.below hb (by omega))
 have HOD12 := Lib.hid (HOD11.out.below hb (by omega))
 have HXd12 := Lib.hid ((hb.block _ (lt_of_row HXd11.out)).trans HXd11.out)
 have HVW12 := Lib.hid (HVW11.out.below hb (by omega))
 have HOW12 := Lib.hid (HOW11.out.below hb (by omega))
 have HXw12 := Lib.hid ((hb.block _ (lt_of_row HXw11.out)).trans HXw11.out)
 clear hb HVA11 HOA11 HB11 HXa11 HVE11 HOE11 HXe11 HVD11 HOD11 HXd11 HVW11 HOW11 HXw11
 have hS8 : w12.cell? ⟨w0.heap.size, 0, none⟩ = some (.slice ava 4 avc) ∧ w12.cell? ⟨w0.heap.size, 1, none⟩ = some (.slice aoa l.length aoc) ∧ w12.cell? ⟨w2.heap.size, 0, none⟩ = some (.slice eva 4 evc) ∧ w12.cell? ⟨w2.heap.size, 1, none⟩ = some (.slice none 0 0) ∧ w12.cell? ⟨w4.heap.size, 0, none⟩ = some (.slice dva vs.length dvc) ∧ w12.cell? ⟨w4.heap.size, 1, none⟩ = some (.slice doa os.length doc) ∧ w12.cell? ⟨w6.heap.size, 0, none⟩ = some (.slice wva vs.length wvc) ∧ w12.cell? ⟨w6.heap.size, 1, none⟩ = some (.slice woa os.length woc) := ⟨(pair_cells HXa12.out).1, (pair_cells HXa12.out).2, (pair_cells HXe12.out).1, (pair_cells HXe12.out).2, (pair_cells HXd12.out).1, (pair_cells HXd12.out).2, (pair_cells HXw12.out).1, (pair_cells HXw12.out).2⟩
 refine hK.out _ _ hS8 (fun hHeld9 => ?_)
 clear hK K
 (try simp only [Act.put, u1, u2, u3])
 clear hHeld9
 refine tk 18 { dst := some 44, op := .call { callee := .builtin .len, args := #[.tmp 43], argTypes := #[30] }, type := 3, pos := "laws.go:1652", after := #[⟨17, .data⟩, ⟨15, .guard⟩], guard := some (15, false) } ?_
 (try simp only [Act.put, u1, u2, u3])
 refine tk 19 { dst := some 45, op := .binOp .neq 3 (.tmp 44) (.const (Value.int IntKind.i64 0)) 3, type := 4, pos := "laws.go:1652", after := #[⟨18, .data⟩, ⟨15, .guard⟩], guard := some (15, false) } ?_
 (try simp only [Act.put, u1, u2, u3])
 refine tk 20 { dst := some 46, op := .pick (.tmp 41) (.const (Value.bool true)) (.tmp 45), type := 4, pos := "laws.go:1652", after := #[⟨15, .data⟩, ⟨19, .data⟩], guard := none } ?_
 (try simp only [Act.put, u1, u2, u3])
 refine tk 21 { dst := some 47, op := .move (.tmp 46), type := 4, pos := "laws.go:1652", after := #[⟨20, .data⟩, ⟨17, .chain⟩], guard := none } ?_
 (try simp only [Act.put, u1, u2, u3])
 refine tk 22 { dst := some 48, op := .load 27 (.tmp 4), type := 27, pos := "laws.go:1652", after := #[⟨21, .guard⟩], guard := some (21, false) } ?_
 (try simp only [Act.put, u1, u2, u3])
 refine wpAnyH_ready (rs := [23]) (by kernel_rfl) (by simp) ?_
 refine AllReadyH.cons (o := { dst := some 49, op := .call { callee := .value (.func 9), args := #[.tmp 48], argTypes := #[27] }, type := 2, pos := "laws.go:1652", after := #[⟨22, .data⟩, ⟨21, .chain⟩, ⟨21, .guard⟩], guard := some (21, false) }) rfl (fun K hK => ?_) AllReadyH.nil
 go_simp
 go_at_call 9
 refine (implTotal w12 w12.heap.size eva none 4 evc 0 0 [0, 0, 0, 0] [] (HVE12.out.more (by omega)) (HOE12.out.more (by omega)) (Nat.le_refl _) (by omega) (Nat.le_refl _) ⟨by omega, Nat.zero_le _⟩ (fun o ho => by cases ho)).mono ?_
 rintro e w13 ⟨rfl, hb⟩
 rw [HEt.out]
 have hs13 := hb.size
 have HVA13 := Lib.hid (HVA12.out.below hb (by omega))
 have HOA13 := Lib.hid (HOA12.out.below hb (by omega))
 have HB13 := Lib.hid (HB12.out.trans (hb.mono (by omega)))
 have HXa13 := Lib.hid ((hb.block _ (lt_of_row HXa12.out)).trans HXa12.out)
 have HVE13 := Lib.hid (HVE12.out.below hb (by omega))
 have HOE13 := Lib.hid (HOE12.out.below hb (by omega))
 have HXe13 := Lib.hid ((hb.block _ (lt_of_row HXe12.out)).trans HXe12.out)
 have HVD13 := Lib.hid (HVD12.out.below hb (by omega))
 have HOD13 := Lib.hid (HOD12.out.below hb (by omega))
 have HXd13 := Lib.hid ((hb.block _ (lt_of_row HXd12.out)).trans HXd12.out)
 have HVW13 := Lib.hid (HVW12.out.below hb (by omega))
 have HOW13 := Lib.hid (HOW12.out.below hb (by omega))
 have HXw13 := Lib.hid ((hb.block _ (lt_of_row HXw12.out)).trans HXw12.out)
 clear hb HVA12 HOA12 HB12 HXa12 HVE12 HOE12 HXe12 HVD12 HOD12 HXd12 HVW12 HOW12 HXw12
 have hS10 : w13.cell? ⟨w0.heap.size, 0, none⟩ = some (.slice ava 4 avc) ∧ w13.cell? ⟨w0.heap.size, 1, none⟩ = some (.slice aoa l.length aoc) ∧ w13.cell? ⟨w2.heap.size, 0, none⟩ = some (.slice eva 4 evc) ∧ w13.cell? ⟨w2.heap.size, 1, none⟩ = some (.slice none 0 0) ∧ w13.cell? ⟨w4.heap.size, 0, none⟩ = some (.slice dva vs.length dvc) ∧ w13.cell? ⟨w4.heap.size, 1, none⟩ = some (.slice doa os.length doc) ∧ w13.cell? ⟨w6.heap.size, 0, none⟩ = some (.slice wva vs.length wvc) ∧ w13.cell? ⟨w6.heap.size, 1, none⟩ = some (.slice woa os.length woc) := ⟨(pair_cells HXa13.out).1, (pair_cells HXa13.out).2, (pair_cells HXe13.out).1, (pair_cells HXe13.out).2, (pair_cells HXd13.out).1, (pair_cells HXd13.out).2, (pair_cells HXw13.out).1, (pair_cells HXw13.out).2⟩
 refine hK.out _ _ hS10 (fun hHeld11 => ?_)
 clear hK K
 (try simp only [Act.put, u1, u2, u3])
 clear hHeld11
 refine tk 24 { dst := some 50, op := .binOp .neq 2 (.tmp 49) (.const (Value.int IntKind.i64 0)) 2, type := 4, pos := "laws.go:1652", after := #[⟨23, .data⟩, ⟨21, .guard⟩], guard := some (21, false) } ?_
 (try simp only [Act.put, u1, u2, u3])
 refine tk 25 { dst := some 51, op := .pick (.tmp 47) (.const (Value.bool true)) (.tmp 50), type := 4, pos := "laws.go:1652", after := #[⟨21, .data⟩, ⟨24, .data⟩], guard := none } ?_
 (try simp only [Act.put, u1, u2, u3])
 refine tk 26 { dst := some 52, op := .move (.tmp 51), type := 4, pos := "laws.go:1652", after := #[⟨25, .data⟩, ⟨23, .chain⟩], guard := none } ?_
 (try simp only [Act.put, u1, u2, u3])
 refine tk 27 { dst := some 53, op := .load 27 (.tmp 4), type := 27, pos := "laws.go:1652", after := #[⟨26, .guard⟩], guard := some (26, false) } ?_
 (try simp only [Act.put, u1, u2, u3])
 refine wpAnyH_ready (rs := [28]) (by kernel_rfl) (by simp) ?_
 refine AllReadyH.cons (o := { dst := some 54, op := .call { callee := .value (.func 34), args := #[.tmp 53], argTypes := #[27] }, type := 25, pos := "laws.go:1652", after := #[⟨27, .data⟩, ⟨26, .chain⟩, ⟨26, .guard⟩], guard := some (26, false) }) rfl (fun K hK => ?_) AllReadyH.nil
 go_simp
 go_at_call 34
 refine (implHistory w13 w13.heap.size eva none 4 evc 0 0 [0, 0, 0, 0] [] (HVE13.out.more (by omega)) (HOE13.out.more (by omega)) (Nat.le_refl _) (by omega) HcE.out.1 (Nat.le_refl _) ⟨by omega, Nat.zero_le _⟩ (fun _ => rfl) (fun i hi => absurd hi (by omega))).mono ?_
 rintro e w14 ⟨ta, tc, hre, hop, hb⟩
 rw [HEh.out] at hre
 subst hre
 clear hop
 have hs14 := hb.size
 have HVA14 := Lib.hid (HVA13.out.below hb (by omega))
 have HOA14 := Lib.hid (HOA13.out.below hb (by omega))
 have HB14 := Lib.hid (HB13.out.trans (hb.mono (by omega)))
 have HXa14 := Lib.hid ((hb.block _ (lt_of_row HXa13.out)).trans HXa13.out)
 have HVE14 := Lib.hid (HVE13.out.below hb (by omega))
 have HOE14 := Lib.hid (HOE13.out.below hb (by omega))
 have HXe14 := Lib.hid ((hb.block _ (lt_of_row HXe13.out)).trans HXe13.out)
 have HVD14 := Lib.hid (HVD13.out.below hb (by omega))
 have HOD14 := Lib.hid (HOD13.out.below hb (by omega))
 have HXd14 := Lib.hid ((hb.block _ (lt_of_row HXd13.out)).trans HXd13.out)
 have HVW14 := Lib.hid (HVW13.out.below hb (by omega))
 have HOW14 := Lib.hid (HOW13.out.below hb (by omega))
 have HXw14 := Lib.hid ((hb.block _ (lt_of_row HXw13.out)).trans HXw13.out)
 clear hb HVA13 HOA13 HB13 HXa13 HVE13 HOE13 HXe13 HVD13 HOD13 HXd13 HVW13 HOW13 HXw13
 have hS12 : w14.cell? ⟨w0.heap.size, 0, none⟩ = some (.slice ava 4 avc) ∧ w14.cell? ⟨w0.heap.size, 1, none⟩ = some (.slice aoa l.length aoc) ∧ w14.cell? ⟨w2.heap.size, 0, none⟩ = some (.slice eva 4 evc) ∧ w14.cell? ⟨w2.heap.size, 1, none⟩ = some (.slice none 0 0) ∧ w14.cell? ⟨w4.heap.size, 0, none⟩ = some (.slice dva vs.length dvc) ∧ w14.cell? ⟨w4.heap.size, 1, none⟩ = some (.slice doa os.length doc) ∧ w14.cell? ⟨w6.heap.size, 0, none⟩ = some (.slice wva vs.length wvc) ∧ w14.cell? ⟨w6.heap.size, 1, none⟩ = some (.slice woa os.length woc) := ⟨(pair_cells HXa14.out).1, (pair_cells HXa14.out).2, (pair_cells HXe14.out).1, (pair_cells HXe14.out).2, (pair_cells HXd14.out).1, (pair_cells HXd14.out).2, (pair_cells HXw14.out).1, (pair_cells HXw14.out).2⟩
 refine hK.out _ _ hS12 (fun hHeld13 => ?_)
 clear hK K
 (try simp only [Act.put, u1, u2, u3])
 clear hHeld13
 refine tk 29 { dst := some 55, op := .call { callee := .builtin .len, args := #[.tmp 54], argTypes := #[25] }, type := 3, pos := "laws.go:1652", after := #[⟨28, .data⟩, ⟨26, .guard⟩], guard := some (26, false) } ?_
 (try simp only [Act.put, u1, u2, u3])
 refine tk 30 { dst := some 56, op := .binOp .neq 3 (.tmp 55) (.const (Value.int IntKind.i64 0)) 3, type := 4, pos := "laws.go:1652", after := #[⟨29, .data⟩, ⟨26, .guard⟩], guard := some (26, false) } ?_
 (try simp only [Act.put, u1, u2, u3])
 refine tk 31 { dst := some 57, op := .pick (.tmp 52) (.const (Value.bool true)) (.tmp 56), type := 4, pos := "laws.go:1652", after := #[⟨26, .data⟩, ⟨30, .data⟩], guard := none } ?_
 (try simp only [Act.put, u1, u2, u3])
 refine wpAnyH_done (by kernel_rfl) ?_ _
 clear HVE14 HOE14 HXe14 HVW14 HOW14 HXw14
 cases R
 ·go_wp2
  go_ret
  exact ⟨rfl, HB14.out⟩
 obtain ⟨c00, c01⟩ := pair_cells HXd14.out
 obtain ⟨c10, c11⟩ := pair_cells HXa14.out
 go_wp2_with fail
 refine (sameCart w14 w14.heap.size dva doa ava aoa vs.length dvc os.length doc 4 avc l.length aoc vs os xs l (HVD14.out.more (by omega)) (HOD14.out.more (by omega)) (HVA14.out.more (by omega)) (HOA14.out.more (by omega)) (Nat.le_refl _) (by first | omega | simp) (by first | omega | simp) (by first | omega | simp) (by first | omega | simp)).mono ?_
 rintro e w15 ⟨rfl, hb⟩
 rw [decide_eq_true (HR1.out trivial), decide_eq_true (HR2.out trivial)]
 clear c00 c01 c10 c11
 have hs15 := hb.size
 have HVA15 := Lib.hid (HVA14.out.below hb (by omega))
 have HOA15 := Lib.hid (HOA14.out.below hb (by omega))
 have HB15 := Lib.hid (HB14.out.trans (hb.mono (by omega)))
 have HXa15 := Lib.hid ((hb.block _ (lt_of_row HXa14.out)).trans HXa14.out)
 have HVD15 := Lib.hid (HVD14.out.below hb (by omega))
 have HOD15 := Lib.hid (HOD14.out.below hb (by omega))
 have HXd15 := Lib.hid ((hb.block _ (lt_of_row HXd14.out)).trans HXd14.out)
 clear hb HVA14 HOA14 HB14 HXa14 HVD14 HOD14 HXd14
 go_wp2
 go_ret
 exact ⟨rfl, HB15.out⟩
end Go.Proofs.YtejhmakfbmhhhaaGreat
