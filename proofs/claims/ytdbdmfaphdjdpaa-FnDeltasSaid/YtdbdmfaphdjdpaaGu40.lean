/- Walks and mathematics that several claims share, part 40. -/
import Derived.Test.YtdbdmfaphdjdpaaGu38
import Derived.Test.YtdbdmfaphdjdpaaGu39
import Derived.Test.YtdbdmfaphdjdpaaGu31
import Derived.Test.YtdbdmfaphdjdpaaGu28
import Derived.Test.YtdbdmfaphdjdpaaGu18
import Derived.Test.YtdbdmfaphdjdpaaGu23
import Derived.Test.YtdbdmfaphdjdpaaGu26
import Derived.Deep.Cut
import Derived.Test.YtdbdmfaphdjdpaaGuA
namespace Go.Proofs.Ytdbdmfaphdjdpaa
set_option maxRecDepth 100000
open Go.RowKit
set_option linter.unusedVariables false
set_option linter.unusedSimpArgs false

set_option maxHeartbeats 80000000 in
theorem fnDeltasWalk (a : Option Addr) (len cap : Nat) (zs : List Int) (w : World) (h : IsRow .u8 w a len cap zs) :
  Calls Try.prog 5 #[.slice a len cap] w fun e w' => e = .returned (.bool true) ∧ Below w.heap.size w w' := by
 by_cases hbig : len ≤ 1048576
 rotate_left
 ·go_enter Try.func5, Try.ntmps5
  go_wp2_with fail
  refine (bigYes a len cap hbig w).mono ?_
  rintro e w' ⟨rfl, rfl⟩
  go_wp2
  go_ret
  exact ⟨rfl, Below.refl _ _⟩
 have hsrc := Lib.hid (src_of_row h hbig)
 clear h
 go_enter Try.func5, Try.ntmps5
 go_wp2_with fail
 refine (bigNo a len cap hbig w).mono ?_
 rintro e w' ⟨rfl, rfl⟩
 go_wp2_with fail
 refine (drawDeltaOf w w.heap.size a len cap (Nat.le_refl _) hsrc.out).mono ?_
 rintro e w0 ⟨⟨ava, avc, aoa, ano, aoc⟩, ⟨bva, bvc, boa, bno, boc⟩, rfl, hx, hy, hb0⟩
 obtain ⟨xs, l, e1, a1, a2, a3, a4, a5, a6⟩ := hx
 obtain ⟨ys, m, e2, b1, b2, b3, b4, b5, b6⟩ := hy
 have e1 : ano = l.length := e1
 have e2 : bno = m.length := e2
 subst e1 e2
 have HVA0 := Lib.hid a1.ints
 have HOA0 := Lib.hid a2.ops
 have HVB0 := Lib.hid b1.ints
 have HOB0 := Lib.hid b2.ops
 have HB0 := Lib.hid hb0
 have HCa := Lib.hid a4
 have HCb := Lib.hid b4
 have HIa : Hid (∀ i, i < l.length → (atOp l i).item.size ≤ 1048576) := fun i hi => Nat.le_trans (a5 i hi) (by omega)
 have HIb : Hid (∀ i, i < m.length → (atOp m i).item.size ≤ 1048576) := fun i hi => Nat.le_trans (b5 i hi) (by omega)
 have hs0 := hb0.size
 clear a1 a2 a3 a4 a5 b1 b2 b3 b4 b5 hb0
 dsimp only
 go_upto_region 4 with fail
 have hT := Two.mk0 w0 #[.slice ava 4 avc, .slice aoa l.length aoc] #[.slice bva 4 bvc, .slice boa m.length boc] 29
 have HXa1 := Lib.hid hT.fst
 have HXb1 := Lib.hid hT.snd
 have hb := hT.bel
 clear hT
 generalize (w0.alloc (.cells #[.slice ava 4 avc, .slice aoa l.length aoc] 29)).alloc (.cells #[.slice bva 4 bvc, .slice boa m.length boc] 29) = w1 at hb HXa1 HXb1 ⊢
 have hs1 := hb.size
 have HVA1 := Lib.hid (HVA0.out.below hb (by omega))
 have HOA1 := Lib.hid (HOA0.out.below hb (by omega))
 have HVB1 := Lib.hid (HVB0.out.below hb (by omega))
 have HOB1 := Lib.hid (HOB0.out.below hb (by omega))
 have HB1 := Lib.hid (HB0.out.trans (hb.mono (by omega)))
 clear hb HVA0 HOA0 HVB0 HOB0 HB0
 obtain ⟨R, hR⟩ : ∃ R, mergedB xs l ys m = R := ⟨_, rfl⟩
 have HR := Lib.hid hR
 obtain ⟨vs, hvs⟩ : ∃ vs, delVs xs R = vs := ⟨_, rfl⟩
 have hx4 : xs.length = 4 := HVA1.out.1
 obtain ⟨os, hos⟩ : ∃ os, delOs l m R = os := ⟨_, rfl⟩
 have HVs := Lib.hid hvs
 have HOs := Lib.hid hos
 have hlv : vs.length ≤ 4 := by rw [← hvs]; exact delVs_len (Nat.le_of_eq hx4) R
 have hlo : os.length ≤ 400 := by rw [← hos]; exact delOs_len a6 R
 have HIo : Hid (∀ i, i < os.length → (atOp os i).item.size ≤ 1048576) := by show ∀ i, _; rw [← hos]; exact delOs_items R HIa.out
 clear hR hvs hos hx4
 obtain ⟨c00, c01⟩ := pair_cells HXa1.out
 obtain ⟨c10, c11⟩ := pair_cells HXb1.out
 go_wp2_with fail
 have hc := implDeltaK w1 w1.heap.size ava aoa bva boa 4 avc l.length aoc 4 bvc m.length boc xs l ys m (HVA1.out.more (by omega)) (HOA1.out.more (by omega)) (HVB1.out.more (by omega)) (HOB1.out.more (by omega)) (Nat.le_refl _) (by omega) HCa.out.1 ⟨by omega, HCa.out.2.1⟩ HIa.out (by omega) HCb.out.1 ⟨by omega, HCb.out.2.1⟩ HIb.out
 rw [HR.out, HVs.out, HOs.out] at hc
 refine hc.mono ?_
 clear hc
 rintro e w2 ⟨dva, dvc, doa, doc, mid, rfl, hov, hop, hm1, hm2, hb, hcd⟩
 clear c00 c01 c10 c11
 have HCd := Lib.hid hcd
 have hov := hov.more (Nat.le_refl _) hm2
 clear hcd hm1 hm2
 have hs2 := hb.size
 have HVA2 := Lib.hid (HVA1.out.below hb (by omega))
 have HOA2 := Lib.hid (HOA1.out.below hb (by omega))
 have HVB2 := Lib.hid (HVB1.out.below hb (by omega))
 have HOB2 := Lib.hid (HOB1.out.below hb (by omega))
 have HB2 := Lib.hid (HB1.out.trans (hb.mono (by omega)))
 have HXa2 := Lib.hid ((hb.block _ (lt_of_row HXa1.out)).trans HXa1.out)
 have HXb2 := Lib.hid ((hb.block _ (lt_of_row HXb1.out)).trans HXb1.out)
 clear hb HVA1 HOA1 HVB1 HOB1 HB1 HXa1 HXb1
 have HVD2 := Lib.hid hov.ints
 have HOD2 := Lib.hid hop.ops
 clear hov hop
 go_upto_region 5 with fail
 have hb : Below w2.heap.size w2 (w2.alloc (.cells #[.slice dva vs.length dvc, .slice doa os.length doc] 29)) := bl
 have HXd3 := Lib.hid (boxAt (Below.refl _ (w2.alloc (.cells #[.slice dva vs.length dvc, .slice doa os.length doc] 29))))
 generalize w2.alloc (.cells #[.slice dva vs.length dvc, .slice doa os.length doc] 29) = w3 at hb HXd3 ⊢
 have hs3 := hb.size
 have HVA3 := Lib.hid (HVA2.out.below hb (by omega))
 have HOA3 := Lib.hid (HOA2.out.below hb (by omega))
 have HVB3 := Lib.hid (HVB2.out.below hb (by omega))
 have HOB3 := Lib.hid (HOB2.out.below hb (by omega))
 have HB3 := Lib.hid (HB2.out.trans (hb.mono (by omega)))
 have HXa3 := Lib.hid ((hb.block _ (lt_of_row HXa2.out)).trans HXa2.out)
 have HXb3 := Lib.hid ((hb.block _ (lt_of_row HXb2.out)).trans HXb2.out)
 have HVD3 := Lib.hid (HVD2.out.below hb (by omega))
 have HOD3 := Lib.hid (HOD2.out.below hb (by omega))
 clear hb HVA2 HOA2 HVB2 HOB2 HB2 HXa2 HXb2 HVD2 HOD2
 obtain ⟨c00, c01⟩ := pair_cells HXa3.out
 obtain ⟨c10, c11⟩ := pair_cells HXb3.out
 go_wp2_with fail
 have hc := specDelta w3 w3.heap.size ava aoa bva boa 4 avc l.length aoc 4 bvc m.length boc xs l ys m (HVA3.out.more (by omega)) (HOA3.out.more (by omega)) (HVB3.out.more (by omega)) (HOB3.out.more (by omega)) (Nat.le_refl _) (by omega) (by omega) HIa.out (by omega) (by omega) HIb.out
 rw [HR.out, HVs.out, HOs.out] at hc
 refine hc.mono ?_
 clear hc
 rintro e w4 ⟨wva, wvc, woa, woc, rfl, hov, hop, hb⟩
 clear c00 c01 c10 c11
 have hs4 := hb.size
 have HVA4 := Lib.hid (HVA3.out.below hb (by omega))
 have HOA4 := Lib.hid (HOA3.out.below hb (by omega))
 have HVB4 := Lib.hid (HVB3.out.below hb (by omega))
 have HOB4 := Lib.hid (HOB3.out.below hb (by omega))
 have HB4 := Lib.hid (HB3.out.trans (hb.mono (by omega)))
 have HXa4 := Lib.hid ((hb.block _ (lt_of_row HXa3.out)).trans HXa3.out)
 have HXb4 := Lib.hid ((hb.block _ (lt_of_row HXb3.out)).trans HXb3.out)
 have HVD4 := Lib.hid (HVD3.out.below hb (by omega))
 have HOD4 := Lib.hid (HOD3.out.below hb (by omega))
 have HXd4 := Lib.hid ((hb.block _ (lt_of_row HXd3.out)).trans HXd3.out)
 clear hb HVA3 HOA3 HVB3 HOB3 HB3 HXa3 HXb3 HVD3 HOD3 HXd3
 have HVW4 := Lib.hid hov.ints
 have HOW4 := Lib.hid hop.ops
 clear hov hop
 go_upto_region 6 with fail
 have hb : Below w4.heap.size w4 (w4.alloc (.cells #[.slice wva vs.length wvc, .slice woa os.length woc] 29)) := bl
 have HXw5 := Lib.hid (boxAt (Below.refl _ (w4.alloc (.cells #[.slice wva vs.length wvc, .slice woa os.length woc] 29))))
 generalize w4.alloc (.cells #[.slice wva vs.length wvc, .slice woa os.length woc] 29) = w5 at hb HXw5 ⊢
 have hs5 := hb.size
 have HVA5 := Lib.hid (HVA4.out.below hb (by omega))
 have HOA5 := Lib.hid (HOA4.out.below hb (by omega))
 have HVB5 := Lib.hid (HVB4.out.below hb (by omega))
 have HOB5 := Lib.hid (HOB4.out.below hb (by omega))
 have HB5 := Lib.hid (HB4.out.trans (hb.mono (by omega)))
 have HXa5 := Lib.hid ((hb.block _ (lt_of_row HXa4.out)).trans HXa4.out)
 have HXb5 := Lib.hid ((hb.block _ (lt_of_row HXb4.out)).trans HXb4.out)
 have HVD5 := Lib.hid (HVD4.out.below hb (by omega))
 have HOD5 := Lib.hid (HOD4.out.below hb (by omega))
 have HXd5 := Lib.hid ((hb.block _ (lt_of_row HXd4.out)).trans HXd4.out)
 have HVW5 := Lib.hid (HVW4.out.below hb (by omega))
 have HOW5 := Lib.hid (HOW4.out.below hb (by omega))
 clear hb HVA4 HOA4 HVB4 HOB4 HB4 HXa4 HXb4 HVD4 HOD4 HXd4 HVW4 HOW4
 go_wp2_with fail
 refine (drawPartOk w5 w.heap.size a len cap (by have := HB5.out.size; omega) (src_below hsrc.out HB5.out)).mono ?_
 rintro e w6 ⟨pva, pn, pvc, poa, pm, poc, zs, pl, hp4, hp5, hpi, rfl, hyi, hyo, hb⟩
 have HIp : Hid (∀ i, i < pm → (atOp pl i).item.size ≤ 1048576) := fun i hi => Nat.le_trans (hpi i hi) (by omega)
 clear hpi
 have hs6 := hb.size
 have HVA6 := Lib.hid (HVA5.out.below hb (by omega))
 have HOA6 := Lib.hid (HOA5.out.below hb (by omega))
 have HVB6 := Lib.hid (HVB5.out.below hb (by omega))
 have HOB6 := Lib.hid (HOB5.out.below hb (by omega))
 have HB6 := Lib.hid (HB5.out.trans (hb.mono (by omega)))
 have HXa6 := Lib.hid ((hb.block _ (lt_of_row HXa5.out)).trans HXa5.out)
 have HXb6 := Lib.hid ((hb.block _ (lt_of_row HXb5.out)).trans HXb5.out)
 have HVD6 := Lib.hid (HVD5.out.below hb (by omega))
 have HOD6 := Lib.hid (HOD5.out.below hb (by omega))
 have HXd6 := Lib.hid ((hb.block _ (lt_of_row HXd5.out)).trans HXd5.out)
 have HVW6 := Lib.hid (HVW5.out.below hb (by omega))
 have HOW6 := Lib.hid (HOW5.out.below hb (by omega))
 have HXw6 := Lib.hid ((hb.block _ (lt_of_row HXw5.out)).trans HXw5.out)
 clear hb HVA5 HOA5 HVB5 HOB5 HB5 HXa5 HXb5 HVD5 HOD5 HXd5 HVW5 HOW5 HXw5
 have HVP6 := Lib.hid hyi
 have HOP6 := Lib.hid hyo
 clear hyi hyo
 go_upto_region 7 with fail
 have hb : Below w6.heap.size w6 (w6.alloc (.cells #[.slice pva pn pvc, .slice poa pm poc] 29)) := bl
 have HXp7 := Lib.hid (boxAt (Below.refl _ (w6.alloc (.cells #[.slice pva pn pvc, .slice poa pm poc] 29))))
 generalize w6.alloc (.cells #[.slice pva pn pvc, .slice poa pm poc] 29) = w7 at hb HXp7 ⊢
 have hs7 := hb.size
 have HVA7 := Lib.hid (HVA6.out.below hb (by omega))
 have HOA7 := Lib.hid (HOA6.out.below hb (by omega))
 have HVB7 := Lib.hid (HVB6.out.below hb (by omega))
 have HOB7 := Lib.hid (HOB6.out.below hb (by omega))
 have HB7 := Lib.hid (HB6.out.trans (hb.mono (by omega)))
 have HXa7 := Lib.hid ((hb.block _ (lt_of_row HXa6.out)).trans HXa6.out)
 have HXb7 := Lib.hid ((hb.block _ (lt_of_row HXb6.out)).trans HXb6.out)
 have HVD7 := Lib.hid (HVD6.out.below hb (by omega))
 have HOD7 := Lib.hid (HOD6.out.below hb (by omega))
 have HXd7 := Lib.hid ((hb.block _ (lt_of_row HXd6.out)).trans HXd6.out)
 have HVW7 := Lib.hid (HVW6.out.below hb (by omega))
 have HOW7 := Lib.hid (HOW6.out.below hb (by omega))
 have HXw7 := Lib.hid ((hb.block _ (lt_of_row HXw6.out)).trans HXw6.out)
 have HVP7 := Lib.hid (HVP6.out.below hb (by omega))
 have HOP7 := Lib.hid (HOP6.out.below hb (by omega))
 clear hb HVA6 HOA6 HVB6 HOB6 HB6 HXa6 HXb6 HVD6 HOD6 HXd6 HVW6 HOW6 HXw6 HVP6 HOP6
 obtain ⟨pb, hpb⟩ : ∃ b, partB zs pl = b := ⟨_, rfl⟩
 have HPb := Lib.hid hpb
 clear hpb
 cases R
 ·skip
  go_wp2_with fail
  obtain ⟨w8, hzw⟩ : ∃ z, w7.drew = z := ⟨_, rfl⟩
  have hb : Below w7.heap.size w7 w8 := by rw [← hzw]; exact ⟨rfl, rfl, rfl, Nat.le_refl _, fun _ _ => rfl⟩
  have hs8 := hb.size
  have HVA8 := Lib.hid (HVA7.out.below hb (by omega))
  have HOA8 := Lib.hid (HOA7.out.below hb (by omega))
  have HVB8 := Lib.hid (HVB7.out.below hb (by omega))
  have HOB8 := Lib.hid (HOB7.out.below hb (by omega))
  have HB8 := Lib.hid (HB7.out.trans (hb.mono (by omega)))
  have HXa8 := Lib.hid ((hb.block _ (lt_of_row HXa7.out)).trans HXa7.out)
  have HXb8 := Lib.hid ((hb.block _ (lt_of_row HXb7.out)).trans HXb7.out)
  have HVD8 := Lib.hid (HVD7.out.below hb (by omega))
  have HOD8 := Lib.hid (HOD7.out.below hb (by omega))
  have HXd8 := Lib.hid ((hb.block _ (lt_of_row HXd7.out)).trans HXd7.out)
  have HVW8 := Lib.hid (HVW7.out.below hb (by omega))
  have HOW8 := Lib.hid (HOW7.out.below hb (by omega))
  have HXw8 := Lib.hid ((hb.block _ (lt_of_row HXw7.out)).trans HXw7.out)
  have HVP8 := Lib.hid (HVP7.out.below hb (by omega))
  have HOP8 := Lib.hid (HOP7.out.below hb (by omega))
  have HXp8 := Lib.hid ((hb.block _ (lt_of_row HXp7.out)).trans HXp7.out)
  clear hb HVA7 HOA7 HVB7 HOB7 HB7 HXa7 HXb7 HVD7 HOD7 HXd7 HVW7 HOW7 HXw7 HVP7 HOP7 HXp7
  have hS : w8.cell? ⟨w2.heap.size, 0, none⟩ = some (.slice dva vs.length dvc) ∧ w8.cell? ⟨w2.heap.size, 1, none⟩ = some (.slice doa os.length doc) ∧ w8.cell? ⟨w4.heap.size, 0, none⟩ = some (.slice wva vs.length wvc) ∧ w8.cell? ⟨w4.heap.size, 1, none⟩ = some (.slice woa os.length woc) ∧ w8.cell? ⟨w6.heap.size, 0, none⟩ = some (.slice pva pn pvc) ∧ w8.cell? ⟨w6.heap.size, 1, none⟩ = some (.slice poa pm poc) := ⟨(pair_cells HXd8.out).1, (pair_cells HXd8.out).2, (pair_cells HXw8.out).1, (pair_cells HXw8.out).2, (pair_cells HXp8.out).1, (pair_cells HXp8.out).2⟩
  refine wp_region_held_drew (S := fun w' => w'.cell? ⟨w2.heap.size, 0, none⟩ = some (.slice dva vs.length dvc) ∧ w'.cell? ⟨w2.heap.size, 1, none⟩ = some (.slice doa os.length doc) ∧ w'.cell? ⟨w4.heap.size, 0, none⟩ = some (.slice wva vs.length wvc) ∧ w'.cell? ⟨w4.heap.size, 1, none⟩ = some (.slice woa os.length woc) ∧ w'.cell? ⟨w6.heap.size, 0, none⟩ = some (.slice pva pn pvc) ∧ w'.cell? ⟨w6.heap.size, 1, none⟩ = some (.slice poa pm poc)) (by kernel_rfl) (by rw [hzw]; exact hS) (fun hHeld => ?_)
  rw [hzw]
  clear hHeld hzw
  refine tk 0 ⟨some 37, .move (.tmp 6), 4, "laws.go:690", #[], none⟩ ?_
  (try simp only [Act.put, u1, u2, u3])
  refine tk 1 ⟨some 38, .move (.tmp 8), 4, "laws.go:690", #[], none⟩ ?_
  (try simp only [Act.put, u1, u2, u3])
  refine tk 2 ⟨some 39, .binOp .neq 4 (.tmp 37) (.tmp 38) 4, 4, "laws.go:690", #[⟨0, .data⟩, ⟨1, .data⟩], none⟩ ?_
  (try simp only [Act.put, u1, u2, u3])
  refine tk 3 ⟨some 40, .move (.tmp 39), 4, "laws.go:690", #[⟨2, .data⟩], none⟩ ?_
  (try simp only [Act.put, u1, u2, u3])
  refine tk 4 ⟨some 41, .load 29 (.tmp 5), 29, "laws.go:690", #[⟨3, .guard⟩], some (3, false)⟩ ?_
  (try simp only [Act.put, u1, u2, u3])
  refine tk 5 ⟨some 42, .load 29 (.tmp 7), 29, "laws.go:690", #[⟨3, .guard⟩], some (3, false)⟩ ?_
  (try simp only [Act.put, u1, u2, u3])
  refine rk 6 rfl (fun K hK => ?_)
  go_simp
  go_at_call 16
  refine (sameCart w8 w8.heap.size dva doa wva woa vs.length dvc os.length doc vs.length wvc os.length woc vs os vs os (HVD8.out.more (by omega)) (HOD8.out.more (by omega)) (HVW8.out.more (by omega)) (HOW8.out.more (by omega)) (Nat.le_refl _) (by omega) (by omega) (by omega) (by omega)).mono ?_
  rintro e w9 ⟨rfl, hb⟩
  rw [decide_eq_true rfl, decide_eq_true rfl]
  have hs9 := hb.size
  have HVA9 := Lib.hid (HVA8.out.below hb (by omega))
  have HOA9 := Lib.hid (HOA8.out.below hb (by omega))
  have HVB9 := Lib.hid (HVB8.out.below hb (by omega))
  have HOB9 := Lib.hid (HOB8.out.below hb (by omega))
  have HB9 := Lib.hid (HB8.out.trans (hb.mono (by omega)))
  have HXa9 := Lib.hid ((hb.block _ (lt_of_row HXa8.out)).trans HXa8.out)
  have HXb9 := Lib.hid ((hb.block _ (lt_of_row HXb8.out)).trans HXb8.out)
  have HVD9 := Lib.hid (HVD8.out.below hb (by omega))
  have HOD9 := Lib.hid (HOD8.out.below hb (by omega))
  have HXd9 := Lib.hid ((hb.block _ (lt_of_row HXd8.out)).trans HXd8.out)
  have HVW9 := Lib.hid (HVW8.out.below hb (by omega))
  have HOW9 := Lib.hid (HOW8.out.below hb (by omega))
  have HXw9 := Lib.hid ((hb.block _ (lt_of_row HXw8.out)).trans HXw8.out)
  have HVP9 := Lib.hid (HVP8.out.below hb (by omega))
  have HOP9 := Lib.hid (HOP8.out.below hb (by omega))
  have HXp9 := Lib.hid ((hb.block _ (lt_of_row HXp8.out)).trans HXp8.out)
  clear hb HVA8 HOA8 HVB8 HOB8 HB8 HXa8 HXb8 HVD8 HOD8 HXd8 HVW8 HOW8 HXw8 HVP8 HOP8 HXp8
  have hS2 : w9.cell? ⟨w2.heap.size, 0, none⟩ = some (.slice dva vs.length dvc) ∧ w9.cell? ⟨w2.heap.size, 1, none⟩ = some (.slice doa os.length doc) ∧ w9.cell? ⟨w4.heap.size, 0, none⟩ = some (.slice wva vs.length wvc) ∧ w9.cell? ⟨w4.heap.size, 1, none⟩ = some (.slice woa os.length woc) ∧ w9.cell? ⟨w6.heap.size, 0, none⟩ = some (.slice pva pn pvc) ∧ w9.cell? ⟨w6.heap.size, 1, none⟩ = some (.slice poa pm poc) := ⟨(pair_cells HXd9.out).1, (pair_cells HXd9.out).2, (pair_cells HXw9.out).1, (pair_cells HXw9.out).2, (pair_cells HXp9.out).1, (pair_cells HXp9.out).2⟩
  refine hK.out _ _ hS2 (fun hHeld3 => ?_)
  clear hK K
  (try simp only [Act.put, u1, u2, u3])
  clear hHeld3
  refine tk 7 ⟨some 44, .unOp .not 4 (.tmp 43), 4, "laws.go:690", #[⟨6, .data⟩, ⟨3, .guard⟩], some (3, false)⟩ ?_
  (try simp only [Act.put, u1, u2, u3])
  refine tk 8 ⟨some 45, .pick (.tmp 40) (.const (Value.bool true)) (.tmp 44), 4, "laws.go:690", #[⟨3, .data⟩, ⟨7, .data⟩], none⟩ ?_
  (try simp only [Act.put, u1, u2, u3])
  refine tk 9 ⟨some 46, .move (.tmp 45), 4, "laws.go:690", #[⟨8, .data⟩, ⟨6, .chain⟩], none⟩ ?_
  (try simp only [Act.put, u1, u2, u3])
  refine tk 10 ⟨some 47, .load 29 (.tmp 9), 29, "laws.go:690", #[⟨9, .guard⟩], some (9, false)⟩ ?_
  (try simp only [Act.put, u1, u2, u3])
  refine tk 12 ⟨some 49, .load 29 (.tmp 9), 29, "laws.go:690", #[⟨9, .guard⟩], some (9, false)⟩ ?_
  (try simp only [Act.put, u1, u2, u3])
  refine rk 11 rfl (fun K hK => ?_)
  go_simp
  go_at_call 24
  refine (implPartOk w9 w9.heap.size pva poa pn pvc pm poc zs pl (HVP9.out.more (by omega)) (HOP9.out.more (by omega)) (Nat.le_refl _) (by omega) (by omega)).mono ?_
  rintro e w10 ⟨rfl, hb⟩
  rw [HPb.out]
  have hs10 := hb.size
  have HVA10 := Lib.hid (HVA9.out.below hb (by omega))
  have HOA10 := Lib.hid (HOA9.out.below hb (by omega))
  have HVB10 := Lib.hid (HVB9.out.below hb (by omega))
  have HOB10 := Lib.hid (HOB9.out.below hb (by omega))
  have HB10 := Lib.hid (HB9.out.trans (hb.mono (by omega)))
  have HXa10 := Lib.hid ((hb.block _ (lt_of_row HXa9.out)).trans HXa9.out)
  have HXb10 := Lib.hid ((hb.block _ (lt_of_row HXb9.out)).trans HXb9.out)
  have HVD10 := Lib.hid (HVD9.out.below hb (by omega))
  have HOD10 := Lib.hid (HOD9.out.below hb (by omega))
  have HXd10 := Lib.hid ((hb.block _ (lt_of_row HXd9.out)).trans HXd9.out)
  have HVW10 := Lib.hid (HVW9.out.below hb (by omega))
  have HOW10 := Lib.hid (HOW9.out.below hb (by omega))
  have HXw10 := Lib.hid ((hb.block _ (lt_of_row HXw9.out)).trans HXw9.out)
  have HVP10 := Lib.hid (HVP9.out.below hb (by omega))
  have HOP10 := Lib.hid (HOP9.out.below hb (by omega))
  have HXp10 := Lib.hid ((hb.block _ (lt_of_row HXp9.out)).trans HXp9.out)
  clear hb HVA9 HOA9 HVB9 HOB9 HB9 HXa9 HXb9 HVD9 HOD9 HXd9 HVW9 HOW9 HXw9 HVP9 HOP9 HXp9
  have hS4 : w10.cell? ⟨w2.heap.size, 0, none⟩ = some (.slice dva vs.length dvc) ∧ w10.cell? ⟨w2.heap.size, 1, none⟩ = some (.slice doa os.length doc) ∧ w10.cell? ⟨w4.heap.size, 0, none⟩ = some (.slice wva vs.length wvc) ∧ w10.cell? ⟨w4.heap.size, 1, none⟩ = some (.slice woa os.length woc) ∧ w10.cell? ⟨w6.heap.size, 0, none⟩ = some (.slice pva pn pvc) ∧ w10.cell? ⟨w6.heap.size, 1, none⟩ = some (.slice poa pm poc) := ⟨(pair_cells HXd10.out).1, (pair_cells HXd10.out).2, (pair_cells HXw10.out).1, (pair_cells HXw10.out).2, (pair_cells HXp10.out).1, (pair_cells HXp10.out).2⟩
  refine hK.out _ _ hS4 (fun hHeld5 => ?_)
  clear hK K
  (try simp only [Act.put, u1, u2, u3])
  clear hHeld5
  refine rk 13 rfl (fun K hK => ?_)
  go_simp
  go_at_call 25
  refine (specPartOk w10 w10.heap.size pva poa pn pvc pm poc zs pl (HVP10.out.more (by omega)) (HOP10.out.more (by omega)) (Nat.le_refl _) (by omega) (by omega) HIp.out).mono ?_
  rintro e w11 ⟨rfl, hb⟩
  rw [HPb.out]
  have hs11 := hb.size
  have HVA11 := Lib.hid (HVA10.out.below hb (by omega))
  have HOA11 := Lib.hid (HOA10.out.below hb (by omega))
  have HVB11 := Lib.hid (HVB10.out.below hb (by omega))
  have HOB11 := Lib.hid (HOB10.out.below hb (by omega))
  have HB11 := Lib.hid (HB10.out.trans (hb.mono (by omega)))
  have HXa11 := Lib.hid ((hb.block _ (lt_of_row HXa10.out)).trans HXa10.out)
  have HXb11 := Lib.hid ((hb.block _ (lt_of_row HXb10.out)).trans HXb10.out)
  have HVD11 := Lib.hid (HVD10.out.below hb (by omega))
  have HOD11 := Lib.hid (HOD10.out.below hb (by omega))
  have HXd11 := Lib.hid ((hb.block _ (lt_of_row HXd10.out)).trans HXd10.out)
  have HVW11 := Lib.hid (HVW10.out.below hb (by omega))
  have HOW11 := Lib.hid (HOW10.out.below hb (by omega))
  have HXw11 := Lib.hid ((hb.block _ (lt_of_row HXw10.out)).trans HXw10.out)
  have HVP11 := Lib.hid (HVP10.out.below hb (by omega))
  have HOP11 := Lib.hid (HOP10.out.below hb (by omega))
  have HXp11 := Lib.hid ((hb.block _ (lt_of_row HXp10.out)).trans HXp10.out)
  clear hb HVA10 HOA10 HVB10 HOB10 HB10 HXa10 HXb10 HVD10 HOD10 HXd10 HVW10 HOW10 HXw10 HVP10 HOP10 HXp10
  have hS6 : w11.cell? ⟨w2.heap.size, 0, none⟩ = some (.slice dva vs.length dvc) ∧ w11.cell? ⟨w2.heap.size, 1, none⟩ = some (.slice doa os.length doc) ∧ w11.cell? ⟨w4.heap.size, 0, none⟩ = some (.slice wva vs.length wvc) ∧ w11.cell? ⟨w4.heap.size, 1, none⟩ = some (.slice woa os.length woc) ∧ w11.cell? ⟨w6.heap.size, 0, none⟩ = some (.slice pva pn pvc) ∧ w11.cell? ⟨w6.heap.size, 1, none⟩ = some (.slice poa pm poc) := ⟨(pair_cells HXd11.out).1, (pair_cells HXd11.out).2, (pair_cells HXw11.out).1, (pair_cells HXw11.out).2, (pair_cells HXp11.out).1, (pair_cells HXp11.out).2⟩
  refine hK.out _ _ hS6 (fun hHeld7 => ?_)
  clear hK K
  (try simp only [Act.put, u1, u2, u3])
  clear hHeld7
  refine wpAnyH_take (i := 14) (oi := ⟨some 51, .binOp .neq 4 (.tmp 48) (.tmp 50) 4, 4, "laws.go:690", #[⟨11, .data⟩, ⟨13, .data⟩, ⟨9, .guard⟩], some (9, false)⟩) (v := .bool false) rfl (by kernel_rfl) (by kernel_rfl) (by kernel_rfl) (fun _ _ _ h => h) (Or.inl ⟨by rfl, ?_⟩) (by assumption) ?_
  ·intro w hSw
   (try dsimp only at hSw)
   cases pb <;> first | (go_simp; done) | (go_simp; with_reducible rfl)
  (try simp only [Act.put, u1, u2, u3])
  refine tk 15 ⟨some 52, .pick (.tmp 46) (.const (Value.bool true)) (.tmp 51), 4, "laws.go:690", #[⟨9, .data⟩, ⟨14, .data⟩], none⟩ ?_
  (try simp only [Act.put, u1, u2, u3])
  refine tk 16 ⟨some 53, .move (.tmp 52), 4, "laws.go:690", #[⟨15, .data⟩, ⟨13, .chain⟩], none⟩ ?_
  (try simp only [Act.put, u1, u2, u3])
  refine tk 17 ⟨some 54, .move (.tmp 6), 4, "laws.go:690", #[⟨16, .guard⟩], some (16, false)⟩ ?_
  (try simp only [Act.put, u1, u2, u3])
  refine tk 18 ⟨some 55, .unOp .not 4 (.tmp 54), 4, "laws.go:690", #[⟨17, .data⟩, ⟨16, .guard⟩], some (16, false)⟩ ?_
  (try simp only [Act.put, u1, u2, u3])
  refine tk 19 ⟨some 56, .pick (.tmp 53) (.const (Value.bool true)) (.tmp 55), 4, "laws.go:690", #[⟨16, .data⟩, ⟨18, .data⟩], none⟩ ?_
  (try simp only [Act.put, u1, u2, u3])
  refine wpAnyH_done (by kernel_rfl) ?_ _
  go_wp2_with fail
  obtain ⟨w12, hzw⟩ : ∃ z, w11.drew = z := ⟨_, rfl⟩
  have hb : Below w11.heap.size w11 w12 := by rw [← hzw]; exact ⟨rfl, rfl, rfl, Nat.le_refl _, fun _ _ => rfl⟩
  have hs12 := hb.size
  have HVA12 := Lib.hid (HVA11.out.below hb (by omega))
  have HOA12 := Lib.hid (HOA11.out.below hb (by omega))
  have HVB12 := Lib.hid (HVB11.out.below hb (by omega))
  have HOB12 := Lib.hid (HOB11.out.below hb (by omega))
  have HB12 := Lib.hid (HB11.out.trans (hb.mono (by omega)))
  have HXa12 := Lib.hid ((hb.block _ (lt_of_row HXa11.out)).trans HXa11.out)
  have HXb12 := Lib.hid ((hb.block _ (lt_of_row HXb11.out)).trans HXb11.out)
  have HVD12 := Lib.hid (HVD11.out.below hb (by omega))
  have HOD12 := Lib.hid (HOD11.out.below hb (by omega))
  have HXd12 := Lib.hid ((hb.block _ (lt_of_row HXd11.out)).trans HXd11.out)
  have HVW12 := Lib.hid (HVW11.out.below hb (by omega))
  have HOW12 := Lib.hid (HOW11.out.below hb (by omega))
  have HXw12 := Lib.hid ((hb.block _ (lt_of_row HXw11.out)).trans HXw11.out)
  have HVP12 := Lib.hid (HVP11.out.below hb (by omega))
  have HOP12 := Lib.hid (HOP11.out.below hb (by omega))
  have HXp12 := Lib.hid ((hb.block _ (lt_of_row HXp11.out)).trans HXp11.out)
  clear hb HVA11 HOA11 HVB11 HOB11 HB11 HXa11 HXb11 HVD11 HOD11 HXd11 HVW11 HOW11 HXw11 HVP11 HOP11 HXp11
  have hS : w12.cell? ⟨w2.heap.size, 0, none⟩ = some (.slice dva vs.length dvc) ∧ w12.cell? ⟨w2.heap.size, 1, none⟩ = some (.slice doa os.length doc) ∧ w12.cell? ⟨w4.heap.size, 0, none⟩ = some (.slice wva vs.length wvc) ∧ w12.cell? ⟨w4.heap.size, 1, none⟩ = some (.slice woa os.length woc) ∧ w12.cell? ⟨w6.heap.size, 0, none⟩ = some (.slice pva pn pvc) ∧ w12.cell? ⟨w6.heap.size, 1, none⟩ = some (.slice poa pm poc) := ⟨(pair_cells HXd12.out).1, (pair_cells HXd12.out).2, (pair_cells HXw12.out).1, (pair_cells HXw12.out).2, (pair_cells HXp12.out).1, (pair_cells HXp12.out).2⟩
  refine wp_region_held_drew (S := fun w' => w'.cell? ⟨w2.heap.size, 0, none⟩ = some (.slice dva vs.length dvc) ∧ w'.cell? ⟨w2.heap.size, 1, none⟩ = some (.slice doa os.length doc) ∧ w'.cell? ⟨w4.heap.size, 0, none⟩ = some (.slice wva vs.length wvc) ∧ w'.cell? ⟨w4.heap.size, 1, none⟩ = some (.slice woa os.length woc) ∧ w'.cell? ⟨w6.heap.size, 0, none⟩ = some (.slice pva pn pvc) ∧ w'.cell? ⟨w6.heap.size, 1, none⟩ = some (.slice poa pm poc)) (by kernel_rfl) (by rw [hzw]; exact hS) (fun hHeld => ?_)
  rw [hzw]
  clear hHeld hzw
  refine tk 0 ⟨some 57, .move (.tmp 6), 4, "laws.go:691", #[], none⟩ ?_
  (try simp only [Act.put, u1, u2, u3])
  refine tk 1 ⟨some 58, .move (.tmp 8), 4, "laws.go:691", #[], none⟩ ?_
  (try simp only [Act.put, u1, u2, u3])
  refine tk 2 ⟨some 59, .binOp .eql 4 (.tmp 57) (.tmp 58) 4, 4, "laws.go:691", #[⟨0, .data⟩, ⟨1, .data⟩], none⟩ ?_
  (try simp only [Act.put, u1, u2, u3])
  refine tk 3 ⟨some 60, .move (.tmp 59), 4, "laws.go:691", #[⟨2, .data⟩], none⟩ ?_
  (try simp only [Act.put, u1, u2, u3])
  refine tk 4 ⟨some 61, .load 29 (.tmp 5), 29, "laws.go:691", #[⟨3, .guard⟩], some (3, true)⟩ ?_
  (try simp only [Act.put, u1, u2, u3])
  refine tk 5 ⟨some 62, .load 29 (.tmp 7), 29, "laws.go:691", #[⟨3, .guard⟩], some (3, true)⟩ ?_
  (try simp only [Act.put, u1, u2, u3])
  refine rk 6 rfl (fun K hK => ?_)
  go_simp
  go_at_call 16
  refine (sameCart w12 w12.heap.size dva doa wva woa vs.length dvc os.length doc vs.length wvc os.length woc vs os vs os (HVD12.out.more (by omega)) (HOD12.out.more (by omega)) (HVW12.out.more (by omega)) (HOW12.out.more (by omega)) (Nat.le_refl _) (by omega) (by omega) (by omega) (by omega)).mono ?_
  rintro e w13 ⟨rfl, hb⟩
  rw [decide_eq_true rfl, decide_eq_true rfl]
  have hs13 := hb.size
  have HVA13 := Lib.hid (HVA12.out.below hb (by omega))
  have HOA13 := Lib.hid (HOA12.out.below hb (by omega))
  have HVB13 := Lib.hid (HVB12.out.below hb (by omega))
  have HOB13 := Lib.hid (HOB12.out.below hb (by omega))
  have HB13 := Lib.hid (HB12.out.trans (hb.mono (by omega)))
  have HXa13 := Lib.hid ((hb.block _ (lt_of_row HXa12.out)).trans HXa12.out)
  have HXb13 := Lib.hid ((hb.block _ (lt_of_row HXb12.out)).trans HXb12.out)
  have HVD13 := Lib.hid (HVD12.out.below hb (by omega))
  have HOD13 := Lib.hid (HOD12.out.below hb (by omega))
  have HXd13 := Lib.hid ((hb.block _ (lt_of_row HXd12.out)).trans HXd12.out)
  have HVW13 := Lib.hid (HVW12.out.below hb (by omega))
  have HOW13 := Lib.hid (HOW12.out.below hb (by omega))
  have HXw13 := Lib.hid ((hb.block _ (lt_of_row HXw12.out)).trans HXw12.out)
  have HVP13 := Lib.hid (HVP12.out.below hb (by omega))
  have HOP13 := Lib.hid (HOP12.out.below hb (by omega))
  have HXp13 := Lib.hid ((hb.block _ (lt_of_row HXp12.out)).trans HXp12.out)
  clear hb HVA12 HOA12 HVB12 HOB12 HB12 HXa12 HXb12 HVD12 HOD12 HXd12 HVW12 HOW12 HXw12 HVP12 HOP12 HXp12
  have hS2 : w13.cell? ⟨w2.heap.size, 0, none⟩ = some (.slice dva vs.length dvc) ∧ w13.cell? ⟨w2.heap.size, 1, none⟩ = some (.slice doa os.length doc) ∧ w13.cell? ⟨w4.heap.size, 0, none⟩ = some (.slice wva vs.length wvc) ∧ w13.cell? ⟨w4.heap.size, 1, none⟩ = some (.slice woa os.length woc) ∧ w13.cell? ⟨w6.heap.size, 0, none⟩ = some (.slice pva pn pvc) ∧ w13.cell? ⟨w6.heap.size, 1, none⟩ = some (.slice poa pm poc) := ⟨(pair_cells HXd13.out).1, (pair_cells HXd13.out).2, (pair_cells HXw13.out).1, (pair_cells HXw13.out).2, (pair_cells HXp13.out).1, (pair_cells HXp13.out).2⟩
  refine hK.out _ _ hS2 (fun hHeld3 => ?_)
  clear hK K
  (try simp only [Act.put, u1, u2, u3])
  clear hHeld3
  refine tk 7 ⟨some 64, .pick (.tmp 60) (.tmp 63) (.const (Value.bool false)), 4, "laws.go:691", #[⟨3, .data⟩, ⟨6, .data⟩], none⟩ ?_
  (try simp only [Act.put, u1, u2, u3])
  refine tk 8 ⟨some 65, .move (.tmp 64), 4, "laws.go:691", #[⟨7, .data⟩, ⟨6, .chain⟩], none⟩ ?_
  (try simp only [Act.put, u1, u2, u3])
  refine tk 9 ⟨some 66, .load 29 (.tmp 9), 29, "laws.go:691", #[⟨8, .guard⟩], some (8, true)⟩ ?_
  (try simp only [Act.put, u1, u2, u3])
  refine tk 11 ⟨some 68, .load 29 (.tmp 9), 29, "laws.go:691", #[⟨8, .guard⟩], some (8, true)⟩ ?_
  (try simp only [Act.put, u1, u2, u3])
  refine rk 10 rfl (fun K hK => ?_)
  go_simp
  go_at_call 24
  refine (implPartOk w13 w13.heap.size pva poa pn pvc pm poc zs pl (HVP13.out.more (by omega)) (HOP13.out.more (by omega)) (Nat.le_refl _) (by omega) (by omega)).mono ?_
  rintro e w14 ⟨rfl, hb⟩
  rw [HPb.out]
  have hs14 := hb.size
  have HVA14 := Lib.hid (HVA13.out.below hb (by omega))
  have HOA14 := Lib.hid (HOA13.out.below hb (by omega))
  have HVB14 := Lib.hid (HVB13.out.below hb (by omega))
  have HOB14 := Lib.hid (HOB13.out.below hb (by omega))
  have HB14 := Lib.hid (HB13.out.trans (hb.mono (by omega)))
  have HXa14 := Lib.hid ((hb.block _ (lt_of_row HXa13.out)).trans HXa13.out)
  have HXb14 := Lib.hid ((hb.block _ (lt_of_row HXb13.out)).trans HXb13.out)
  have HVD14 := Lib.hid (HVD13.out.below hb (by omega))
  have HOD14 := Lib.hid (HOD13.out.below hb (by omega))
  have HXd14 := Lib.hid ((hb.block _ (lt_of_row HXd13.out)).trans HXd13.out)
  have HVW14 := Lib.hid (HVW13.out.below hb (by omega))
  have HOW14 := Lib.hid (HOW13.out.below hb (by omega))
  have HXw14 := Lib.hid ((hb.block _ (lt_of_row HXw13.out)).trans HXw13.out)
  have HVP14 := Lib.hid (HVP13.out.below hb (by omega))
  have HOP14 := Lib.hid (HOP13.out.below hb (by omega))
  have HXp14 := Lib.hid ((hb.block _ (lt_of_row HXp13.out)).trans HXp13.out)
  clear hb HVA13 HOA13 HVB13 HOB13 HB13 HXa13 HXb13 HVD13 HOD13 HXd13 HVW13 HOW13 HXw13 HVP13 HOP13 HXp13
  have hS4 : w14.cell? ⟨w2.heap.size, 0, none⟩ = some (.slice dva vs.length dvc) ∧ w14.cell? ⟨w2.heap.size, 1, none⟩ = some (.slice doa os.length doc) ∧ w14.cell? ⟨w4.heap.size, 0, none⟩ = some (.slice wva vs.length wvc) ∧ w14.cell? ⟨w4.heap.size, 1, none⟩ = some (.slice woa os.length woc) ∧ w14.cell? ⟨w6.heap.size, 0, none⟩ = some (.slice pva pn pvc) ∧ w14.cell? ⟨w6.heap.size, 1, none⟩ = some (.slice poa pm poc) := ⟨(pair_cells HXd14.out).1, (pair_cells HXd14.out).2, (pair_cells HXw14.out).1, (pair_cells HXw14.out).2, (pair_cells HXp14.out).1, (pair_cells HXp14.out).2⟩
  refine hK.out _ _ hS4 (fun hHeld5 => ?_)
  clear hK K
  (try simp only [Act.put, u1, u2, u3])
  clear hHeld5
  refine rk 12 rfl (fun K hK => ?_)
  go_simp
  go_at_call 25
  refine (specPartOk w14 w14.heap.size pva poa pn pvc pm poc zs pl (HVP14.out.more (by omega)) (HOP14.out.more (by omega)) (Nat.le_refl _) (by omega) (by omega) HIp.out).mono ?_
  rintro e w15 ⟨rfl, hb⟩
  rw [HPb.out]
  have hs15 := hb.size
  have HVA15 := Lib.hid (HVA14.out.below hb (by omega))
  have HOA15 := Lib.hid (HOA14.out.below hb (by omega))
  have HVB15 := Lib.hid (HVB14.out.below hb (by omega))
  have HOB15 := Lib.hid (HOB14.out.below hb (by omega))
  have HB15 := Lib.hid (HB14.out.trans (hb.mono (by omega)))
  have HXa15 := Lib.hid ((hb.block _ (lt_of_row HXa14.out)).trans HXa14.out)
  have HXb15 := Lib.hid ((hb.block _ (lt_of_row HXb14.out)).trans HXb14.out)
  have HVD15 := Lib.hid (HVD14.out.below hb (by omega))
  have HOD15 := Lib.hid (HOD14.out.below hb (by omega))
  have HXd15 := Lib.hid ((hb.block _ (lt_of_row HXd14.out)).trans HXd14.out)
  have HVW15 := Lib.hid (HVW14.out.below hb (by omega))
  have HOW15 := Lib.hid (HOW14.out.below hb (by omega))
  have HXw15 := Lib.hid ((hb.block _ (lt_of_row HXw14.out)).trans HXw14.out)
  have HVP15 := Lib.hid (HVP14.out.below hb (by omega))
  have HOP15 := Lib.hid (HOP14.out.below hb (by omega))
  have HXp15 := Lib.hid ((hb.block _ (lt_of_row HXp14.out)).trans HXp14.out)
  clear hb HVA14 HOA14 HVB14 HOB14 HB14 HXa14 HXb14 HVD14 HOD14 HXd14 HVW14 HOW14 HXw14 HVP14 HOP14 HXp14
  have hS6 : w15.cell? ⟨w2.heap.size, 0, none⟩ = some (.slice dva vs.length dvc) ∧ w15.cell? ⟨w2.heap.size, 1, none⟩ = some (.slice doa os.length doc) ∧ w15.cell? ⟨w4.heap.size, 0, none⟩ = some (.slice wva vs.length wvc) ∧ w15.cell? ⟨w4.heap.size, 1, none⟩ = some (.slice woa os.length woc) ∧ w15.cell? ⟨w6.heap.size, 0, none⟩ = some (.slice pva pn pvc) ∧ w15.cell? ⟨w6.heap.size, 1, none⟩ = some (.slice poa pm poc) := ⟨(pair_cells HXd15.out).1, (pair_cells HXd15.out).2, (pair_cells HXw15.out).1, (pair_cells HXw15.out).2, (pair_cells HXp15.out).1, (pair_cells HXp15.out).2⟩
  refine hK.out _ _ hS6 (fun hHeld7 => ?_)
  clear hK K
  (try simp only [Act.put, u1, u2, u3])
  clear hHeld7
  refine wpAnyH_take (i := 13) (oi := ⟨some 70, .binOp .eql 4 (.tmp 67) (.tmp 69) 4, 4, "laws.go:691", #[⟨10, .data⟩, ⟨12, .data⟩, ⟨8, .guard⟩], some (8, true)⟩) (v := .bool true) rfl (by kernel_rfl) (by kernel_rfl) (by kernel_rfl) (fun _ _ _ h => h) (Or.inl ⟨by rfl, ?_⟩) (by assumption) ?_
  ·intro w hSw
   (try dsimp only at hSw)
   cases pb <;> first | (go_simp; done) | (go_simp; with_reducible rfl)
  (try simp only [Act.put, u1, u2, u3])
  refine tk 14 ⟨some 71, .pick (.tmp 65) (.tmp 70) (.const (Value.bool false)), 4, "laws.go:691", #[⟨8, .data⟩, ⟨13, .data⟩], none⟩ ?_
  (try simp only [Act.put, u1, u2, u3])
  refine tk 15 ⟨some 2, .assign (.tmp 71), 4, "laws.go:691", #[⟨14, .data⟩, ⟨12, .chain⟩, ⟨0, .phase⟩, ⟨1, .phase⟩, ⟨2, .phase⟩, ⟨3, .phase⟩, ⟨4, .phase⟩, ⟨5, .phase⟩, ⟨6, .phase⟩, ⟨7, .phase⟩, ⟨8, .phase⟩, ⟨9, .phase⟩, ⟨10, .phase⟩, ⟨11, .phase⟩, ⟨12, .phase⟩, ⟨13, .phase⟩, ⟨14, .phase⟩], none⟩ ?_
  (try simp only [Act.put, u1, u2, u3])
  refine wpAnyH_done (by kernel_rfl) ?_ _
  go_wp2
  go_ret
  exact ⟨rfl, HB15.out⟩
 obtain ⟨t1, t2, t3, t4, t5, t6⟩ := deltas_law HR.out
 have evs : xs = vs := HVs.out
 have eos : l.filter (delB m) = os := HOs.out
 rw [eos] at t1 t2 t4
 obtain ⟨gs, hgs⟩ : ∃ gs, maxV xs ys = gs := ⟨_, rfl⟩
 obtain ⟨go, hgo⟩ : ∃ go, mergeL (maxV xs ys) l m = go := ⟨_, rfl⟩
 obtain ⟨hca, hcb, hokm⟩ := mergedB_parts HR.out
 have hgc := cart_merged hca hcb hokm
 rw [hgo, hgs] at hgc
 have HT1 := Lib.hid t1
 have HT2 := Lib.hid t2
 have HT3 : Hid (takVs ys xs true = gs) := t3.trans hgs
 have HT4 : Hid (takOs m os true = go) := t4.trans hgo
 have HT5 : Hid (mergedV xs ys true = gs) := hgs
 have HT6 : Hid (mergedO xs ys l m true = go) := hgo
 have HT7 := Lib.hid t5
 have HT8 : Hid (delVs xs true = xs) := rfl
 obtain ⟨eo, heo⟩ : ∃ eo, delOs l l true = eo := ⟨_, rfl⟩
 have hel : eo.length = 0 := by rw [← heo]; show (l.filter (delB l)).length = 0; rw [t6]; rfl
 have HT9 := Lib.hid heo
 have HEl := Lib.hid hel
 clear hel
 have hgl : gs.length ≤ 4 := by rw [(cart_vecs hgc).1]; omega
 have hgol : go.length ≤ 400 := by have := cart_length hgc; omega
 subst evs
 clear t1 t2 t3 t4 t5 t6 eos hgs hgo hca hcb hokm hgc heo HVs HOs
 go_wp2_with fail
 obtain ⟨w8, hzw⟩ : ∃ z, w7.drew = z := ⟨_, rfl⟩
 have hb : Below w7.heap.size w7 w8 := by rw [← hzw]; exact ⟨rfl, rfl, rfl, Nat.le_refl _, fun _ _ => rfl⟩
 have hs8 := hb.size
 have HVA8 := Lib.hid (HVA7.out.below hb (by omega))
 have HOA8 := Lib.hid (HOA7.out.below hb (by omega))
 have HVB8 := Lib.hid (HVB7.out.below hb (by omega))
 have HOB8 := Lib.hid (HOB7.out.below hb (by omega))
 have HB8 := Lib.hid (HB7.out.trans (hb.mono (by omega)))
 have HXa8 := Lib.hid ((hb.block _ (lt_of_row HXa7.out)).trans HXa7.out)
 have HXb8 := Lib.hid ((hb.block _ (lt_of_row HXb7.out)).trans HXb7.out)
 have HVD8 := Lib.hid (HVD7.out.below hb (by omega))
 have HOD8 := Lib.hid (HOD7.out.below hb (by omega))
 have HXd8 := Lib.hid ((hb.block _ (lt_of_row HXd7.out)).trans HXd7.out)
 have HVW8 := Lib.hid (HVW7.out.below hb (by omega))
 have HOW8 := Lib.hid (HOW7.out.below hb (by omega))
 have HXw8 := Lib.hid ((hb.block _ (lt_of_row HXw7.out)).trans HXw7.out)
 have HVP8 := Lib.hid (HVP7.out.below hb (by omega))
 have HOP8 := Lib.hid (HOP7.out.below hb (by omega))
 have HXp8 := Lib.hid ((hb.block _ (lt_of_row HXp7.out)).trans HXp7.out)
 clear hb HVA7 HOA7 HVB7 HOB7 HB7 HXa7 HXb7 HVD7 HOD7 HXd7 HVW7 HOW7 HXw7 HVP7 HOP7 HXp7
 have hS : w8.cell? ⟨w2.heap.size, 0, none⟩ = some (.slice dva xs.length dvc) ∧ w8.cell? ⟨w2.heap.size, 1, none⟩ = some (.slice doa os.length doc) ∧ w8.cell? ⟨w4.heap.size, 0, none⟩ = some (.slice wva xs.length wvc) ∧ w8.cell? ⟨w4.heap.size, 1, none⟩ = some (.slice woa os.length woc) ∧ w8.cell? ⟨w6.heap.size, 0, none⟩ = some (.slice pva pn pvc) ∧ w8.cell? ⟨w6.heap.size, 1, none⟩ = some (.slice poa pm poc) := ⟨(pair_cells HXd8.out).1, (pair_cells HXd8.out).2, (pair_cells HXw8.out).1, (pair_cells HXw8.out).2, (pair_cells HXp8.out).1, (pair_cells HXp8.out).2⟩
 refine wp_region_held_drew (S := fun w' => w'.cell? ⟨w2.heap.size, 0, none⟩ = some (.slice dva xs.length dvc) ∧ w'.cell? ⟨w2.heap.size, 1, none⟩ = some (.slice doa os.length doc) ∧ w'.cell? ⟨w4.heap.size, 0, none⟩ = some (.slice wva xs.length wvc) ∧ w'.cell? ⟨w4.heap.size, 1, none⟩ = some (.slice woa os.length woc) ∧ w'.cell? ⟨w6.heap.size, 0, none⟩ = some (.slice pva pn pvc) ∧ w'.cell? ⟨w6.heap.size, 1, none⟩ = some (.slice poa pm poc)) (by kernel_rfl) (by rw [hzw]; exact hS) (fun hHeld => ?_)
 rw [hzw]
 clear hHeld hzw
 refine tk 0 ⟨some 37, .move (.tmp 6), 4, "laws.go:690", #[], none⟩ ?_
 (try simp only [Act.put, u1, u2, u3])
 refine tk 1 ⟨some 38, .move (.tmp 8), 4, "laws.go:690", #[], none⟩ ?_
 (try simp only [Act.put, u1, u2, u3])
 refine tk 2 ⟨some 39, .binOp .neq 4 (.tmp 37) (.tmp 38) 4, 4, "laws.go:690", #[⟨0, .data⟩, ⟨1, .data⟩], none⟩ ?_
 (try simp only [Act.put, u1, u2, u3])
 refine tk 3 ⟨some 40, .move (.tmp 39), 4, "laws.go:690", #[⟨2, .data⟩], none⟩ ?_
 (try simp only [Act.put, u1, u2, u3])
 refine tk 4 ⟨some 41, .load 29 (.tmp 5), 29, "laws.go:690", #[⟨3, .guard⟩], some (3, false)⟩ ?_
 (try simp only [Act.put, u1, u2, u3])
 refine tk 5 ⟨some 42, .load 29 (.tmp 7), 29, "laws.go:690", #[⟨3, .guard⟩], some (3, false)⟩ ?_
 (try simp only [Act.put, u1, u2, u3])
 refine rk 6 rfl (fun K hK => ?_)
 go_simp
 go_at_call 16
 refine (sameCart w8 w8.heap.size dva doa wva woa xs.length dvc os.length doc xs.length wvc os.length woc xs os xs os (HVD8.out.more (by omega)) (HOD8.out.more (by omega)) (HVW8.out.more (by omega)) (HOW8.out.more (by omega)) (Nat.le_refl _) (by omega) (by omega) (by omega) (by omega)).mono ?_
 rintro e w9 ⟨rfl, hb⟩
 rw [decide_eq_true rfl, decide_eq_true rfl]
 have hs9 := hb.size
 have HVA9 := Lib.hid (HVA8.out.below hb (by omega))
 have HOA9 := Lib.hid (HOA8.out.below hb (by omega))
 have HVB9 := Lib.hid (HVB8.out.below hb (by omega))
 have HOB9 := Lib.hid (HOB8.out.below hb (by omega))
 have HB9 := Lib.hid (HB8.out.trans (hb.mono (by omega)))
 have HXa9 := Lib.hid ((hb.block _ (lt_of_row HXa8.out)).trans HXa8.out)
 have HXb9 := Lib.hid ((hb.block _ (lt_of_row HXb8.out)).trans HXb8.out)
 have HVD9 := Lib.hid (HVD8.out.below hb (by omega))
 have HOD9 := Lib.hid (HOD8.out.below hb (by omega))
 have HXd9 := Lib.hid ((hb.block _ (lt_of_row HXd8.out)).trans HXd8.out)
 have HVW9 := Lib.hid (HVW8.out.below hb (by omega))
 have HOW9 := Lib.hid (HOW8.out.below hb (by omega))
 have HXw9 := Lib.hid ((hb.block _ (lt_of_row HXw8.out)).trans HXw8.out)
 have HVP9 := Lib.hid (HVP8.out.below hb (by omega))
 have HOP9 := Lib.hid (HOP8.out.below hb (by omega))
 have HXp9 := Lib.hid ((hb.block _ (lt_of_row HXp8.out)).trans HXp8.out)
 clear hb HVA8 HOA8 HVB8 HOB8 HB8 HXa8 HXb8 HVD8 HOD8 HXd8 HVW8 HOW8 HXw8 HVP8 HOP8 HXp8
 have hS2 : w9.cell? ⟨w2.heap.size, 0, none⟩ = some (.slice dva xs.length dvc) ∧ w9.cell? ⟨w2.heap.size, 1, none⟩ = some (.slice doa os.length doc) ∧ w9.cell? ⟨w4.heap.size, 0, none⟩ = some (.slice wva xs.length wvc) ∧ w9.cell? ⟨w4.heap.size, 1, none⟩ = some (.slice woa os.length woc) ∧ w9.cell? ⟨w6.heap.size, 0, none⟩ = some (.slice pva pn pvc) ∧ w9.cell? ⟨w6.heap.size, 1, none⟩ = some (.slice poa pm poc) := ⟨(pair_cells HXd9.out).1, (pair_cells HXd9.out).2, (pair_cells HXw9.out).1, (pair_cells HXw9.out).2, (pair_cells HXp9.out).1, (pair_cells HXp9.out).2⟩
 refine hK.out _ _ hS2 (fun hHeld3 => ?_)
 clear hK K
 (try simp only [Act.put, u1, u2, u3])
 clear hHeld3
 refine tk 7 ⟨some 44, .unOp .not 4 (.tmp 43), 4, "laws.go:690", #[⟨6, .data⟩, ⟨3, .guard⟩], some (3, false)⟩ ?_
 (try simp only [Act.put, u1, u2, u3])
 refine tk 8 ⟨some 45, .pick (.tmp 40) (.const (Value.bool true)) (.tmp 44), 4, "laws.go:690", #[⟨3, .data⟩, ⟨7, .data⟩], none⟩ ?_
 (try simp only [Act.put, u1, u2, u3])
 refine tk 9 ⟨some 46, .move (.tmp 45), 4, "laws.go:690", #[⟨8, .data⟩, ⟨6, .chain⟩], none⟩ ?_
 (try simp only [Act.put, u1, u2, u3])
 refine tk 10 ⟨some 47, .load 29 (.tmp 9), 29, "laws.go:690", #[⟨9, .guard⟩], some (9, false)⟩ ?_
 (try simp only [Act.put, u1, u2, u3])
 refine tk 12 ⟨some 49, .load 29 (.tmp 9), 29, "laws.go:690", #[⟨9, .guard⟩], some (9, false)⟩ ?_
 (try simp only [Act.put, u1, u2, u3])
 refine rk 11 rfl (fun K hK => ?_)
 go_simp
 go_at_call 24
 refine (implPartOk w9 w9.heap.size pva poa pn pvc pm poc zs pl (HVP9.out.more (by omega)) (HOP9.out.more (by omega)) (Nat.le_refl _) (by omega) (by omega)).mono ?_
 rintro e w10 ⟨rfl, hb⟩
 rw [HPb.out]
 have hs10 := hb.size
 have HVA10 := Lib.hid (HVA9.out.below hb (by omega))
 have HOA10 := Lib.hid (HOA9.out.below hb (by omega))
 have HVB10 := Lib.hid (HVB9.out.below hb (by omega))
 have HOB10 := Lib.hid (HOB9.out.below hb (by omega))
 have HB10 := Lib.hid (HB9.out.trans (hb.mono (by omega)))
 have HXa10 := Lib.hid ((hb.block _ (lt_of_row HXa9.out)).trans HXa9.out)
 have HXb10 := Lib.hid ((hb.block _ (lt_of_row HXb9.out)).trans HXb9.out)
 have HVD10 := Lib.hid (HVD9.out.below hb (by omega))
 have HOD10 := Lib.hid (HOD9.out.below hb (by omega))
 have HXd10 := Lib.hid ((hb.block _ (lt_of_row HXd9.out)).trans HXd9.out)
 have HVW10 := Lib.hid (HVW9.out.below hb (by omega))
 have HOW10 := Lib.hid (HOW9.out.below hb (by omega))
 have HXw10 := Lib.hid ((hb.block _ (lt_of_row HXw9.out)).trans HXw9.out)
 have HVP10 := Lib.hid (HVP9.out.below hb (by omega))
 have HOP10 := Lib.hid (HOP9.out.below hb (by omega))
 have HXp10 := Lib.hid ((hb.block _ (lt_of_row HXp9.out)).trans HXp9.out)
 clear hb HVA9 HOA9 HVB9 HOB9 HB9 HXa9 HXb9 HVD9 HOD9 HXd9 HVW9 HOW9 HXw9 HVP9 HOP9 HXp9
 have hS4 : w10.cell? ⟨w2.heap.size, 0, none⟩ = some (.slice dva xs.length dvc) ∧ w10.cell? ⟨w2.heap.size, 1, none⟩ = some (.slice doa os.length doc) ∧ w10.cell? ⟨w4.heap.size, 0, none⟩ = some (.slice wva xs.length wvc) ∧ w10.cell? ⟨w4.heap.size, 1, none⟩ = some (.slice woa os.length woc) ∧ w10.cell? ⟨w6.heap.size, 0, none⟩ = some (.slice pva pn pvc) ∧ w10.cell? ⟨w6.heap.size, 1, none⟩ = some (.slice poa pm poc) := ⟨(pair_cells HXd10.out).1, (pair_cells HXd10.out).2, (pair_cells HXw10.out).1, (pair_cells HXw10.out).2, (pair_cells HXp10.out).1, (pair_cells HXp10.out).2⟩
 refine hK.out _ _ hS4 (fun hHeld5 => ?_)
 clear hK K
 (try simp only [Act.put, u1, u2, u3])
 clear hHeld5
 refine rk 13 rfl (fun K hK => ?_)
 go_simp
 go_at_call 25
 refine (specPartOk w10 w10.heap.size pva poa pn pvc pm poc zs pl (HVP10.out.more (by omega)) (HOP10.out.more (by omega)) (Nat.le_refl _) (by omega) (by omega) HIp.out).mono ?_
 rintro e w11 ⟨rfl, hb⟩
 rw [HPb.out]
 have hs11 := hb.size
 have HVA11 := Lib.hid (HVA10.out.below hb (by omega))
 have HOA11 := Lib.hid (HOA10.out.below hb (by omega))
 have HVB11 := Lib.hid (HVB10.out.below hb (by omega))
 have HOB11 := Lib.hid (HOB10.out.below hb (by omega))
 have HB11 := Lib.hid (HB10.out.trans (hb.mono (by omega)))
 have HXa11 := Lib.hid ((hb.block _ (lt_of_row HXa10.out)).trans HXa10.out)
 have HXb11 := Lib.hid ((hb.block _ (lt_of_row HXb10.out)).trans HXb10.out)
 have HVD11 := Lib.hid (HVD10.out.below hb (by omega))
 have HOD11 := Lib.hid (HOD10.out.below hb (by omega))
 have HXd11 := Lib.hid ((hb.block _ (lt_of_row HXd10.out)).trans HXd10.out)
 have HVW11 := Lib.hid (HVW10.out.below hb (by omega))
 have HOW11 := Lib.hid (HOW10.out.below hb (by omega))
 have HXw11 := Lib.hid ((hb.block _ (lt_of_row HXw10.out)).trans HXw10.out)
 have HVP11 := Lib.hid (HVP10.out.below hb (by omega))
 have HOP11 := Lib.hid (HOP10.out.below hb (by omega))
 have HXp11 := Lib.hid ((hb.block _ (lt_of_row HXp10.out)).trans HXp10.out)
 clear hb HVA10 HOA10 HVB10 HOB10 HB10 HXa10 HXb10 HVD10 HOD10 HXd10 HVW10 HOW10 HXw10 HVP10 HOP10 HXp10
 have hS6 : w11.cell? ⟨w2.heap.size, 0, none⟩ = some (.slice dva xs.length dvc) ∧ w11.cell? ⟨w2.heap.size, 1, none⟩ = some (.slice doa os.length doc) ∧ w11.cell? ⟨w4.heap.size, 0, none⟩ = some (.slice wva xs.length wvc) ∧ w11.cell? ⟨w4.heap.size, 1, none⟩ = some (.slice woa os.length woc) ∧ w11.cell? ⟨w6.heap.size, 0, none⟩ = some (.slice pva pn pvc) ∧ w11.cell? ⟨w6.heap.size, 1, none⟩ = some (.slice poa pm poc) := ⟨(pair_cells HXd11.out).1, (pair_cells HXd11.out).2, (pair_cells HXw11.out).1, (pair_cells HXw11.out).2, (pair_cells HXp11.out).1, (pair_cells HXp11.out).2⟩
 refine hK.out _ _ hS6 (fun hHeld7 => ?_)
 clear hK K
 (try simp only [Act.put, u1, u2, u3])
 clear hHeld7
 refine wpAnyH_take (i := 14) (oi := ⟨some 51, .binOp .neq 4 (.tmp 48) (.tmp 50) 4, 4, "laws.go:690", #[⟨11, .data⟩, ⟨13, .data⟩, ⟨9, .guard⟩], some (9, false)⟩) (v := .bool false) rfl (by kernel_rfl) (by kernel_rfl) (by kernel_rfl) (fun _ _ _ h => h) (Or.inl ⟨by rfl, ?_⟩) (by assumption) ?_
 ·intro w hSw
  (try dsimp only at hSw)
  cases pb <;> first | (go_simp; done) | (go_simp; with_reducible rfl)
 (try simp only [Act.put, u1, u2, u3])
 refine tk 15 ⟨some 52, .pick (.tmp 46) (.const (Value.bool true)) (.tmp 51), 4, "laws.go:690", #[⟨9, .data⟩, ⟨14, .data⟩], none⟩ ?_
 (try simp only [Act.put, u1, u2, u3])
 refine tk 16 ⟨some 53, .move (.tmp 52), 4, "laws.go:690", #[⟨15, .data⟩, ⟨13, .chain⟩], none⟩ ?_
 (try simp only [Act.put, u1, u2, u3])
 refine tk 17 ⟨some 54, .move (.tmp 6), 4, "laws.go:690", #[⟨16, .guard⟩], some (16, false)⟩ ?_
 (try simp only [Act.put, u1, u2, u3])
 refine tk 18 ⟨some 55, .unOp .not 4 (.tmp 54), 4, "laws.go:690", #[⟨17, .data⟩, ⟨16, .guard⟩], some (16, false)⟩ ?_
 (try simp only [Act.put, u1, u2, u3])
 refine tk 19 ⟨some 56, .pick (.tmp 53) (.const (Value.bool true)) (.tmp 55), 4, "laws.go:690", #[⟨16, .data⟩, ⟨18, .data⟩], none⟩ ?_
 (try simp only [Act.put, u1, u2, u3])
 refine wpAnyH_done (by kernel_rfl) ?_ _
 obtain ⟨c00, c01⟩ := pair_cells HXb11.out
 obtain ⟨c10, c11⟩ := pair_cells HXd11.out
 go_wp2_with fail
 have hc := implTakenK w11 w11.heap.size bva boa dva doa 4 bvc m.length boc xs.length dvc os.length doc ys m xs os (HVB11.out.more (by omega)) (HOB11.out.more (by omega)) (HVD11.out.more (by omega)) (HOD11.out.more (by omega)) (Nat.le_refl _) (by omega) HCb.out.1 ⟨by omega, HCb.out.2.1⟩ HIb.out (by omega) HCd.out.1 (by omega) HIo.out
 rw [HT2.out, HT3.out, HT4.out] at hc
 refine hc.mono ?_
 clear hc
 rintro e w12 ⟨nva, nvc, noa, noc, midn, rfl, hov, hop, hm1, hm2, hb, _⟩
 clear c00 c01 c10 c11
 have hov := hov.more (Nat.le_refl _) hm2
 clear hm1 hm2
 have hs12 := hb.size
 have HVA12 := Lib.hid (HVA11.out.below hb (by omega))
 have HOA12 := Lib.hid (HOA11.out.below hb (by omega))
 have HVB12 := Lib.hid (HVB11.out.below hb (by omega))
 have HOB12 := Lib.hid (HOB11.out.below hb (by omega))
 have HB12 := Lib.hid (HB11.out.trans (hb.mono (by omega)))
 have HXa12 := Lib.hid ((hb.block _ (lt_of_row HXa11.out)).trans HXa11.out)
 have HXb12 := Lib.hid ((hb.block _ (lt_of_row HXb11.out)).trans HXb11.out)
 have HVD12 := Lib.hid (HVD11.out.below hb (by omega))
 have HOD12 := Lib.hid (HOD11.out.below hb (by omega))
 have HXd12 := Lib.hid ((hb.block _ (lt_of_row HXd11.out)).trans HXd11.out)
 have HVW12 := Lib.hid (HVW11.out.below hb (by omega))
 have HOW12 := Lib.hid (HOW11.out.below hb (by omega))
 have HXw12 := Lib.hid ((hb.block _ (lt_of_row HXw11.out)).trans HXw11.out)
 have HVP12 := Lib.hid (HVP11.out.below hb (by omega))
 have HOP12 := Lib.hid (HOP11.out.below hb (by omega))
 have HXp12 := Lib.hid ((hb.block _ (lt_of_row HXp11.out)).trans HXp11.out)
 clear hb HVA11 HOA11 HVB11 HOB11 HB11 HXa11 HXb11 HVD11 HOD11 HXd11 HVW11 HOW11 HXw11 HVP11 HOP11 HXp11
 have HVN12 := Lib.hid hov.ints
 have HON12 := Lib.hid hop.ops
 clear hov hop
 go_upto_region 10 with fail
 have hb : Below w12.heap.size w12 (w12.alloc (.cells #[.slice nva gs.length nvc, .slice noa go.length noc] 29)) := bl
 have HXn13 := Lib.hid (boxAt (Below.refl _ (w12.alloc (.cells #[.slice nva gs.length nvc, .slice noa go.length noc] 29))))
 generalize w12.alloc (.cells #[.slice nva gs.length nvc, .slice noa go.length noc] 29) = w13 at hb HXn13 ⊢
 have hs13 := hb.size
 have HVA13 := Lib.hid (HVA12.out.below hb (by omega))
 have HOA13 := Lib.hid (HOA12.out.below hb (by omega))
 have HVB13 := Lib.hid (HVB12.out.below hb (by omega))
 have HOB13 := Lib.hid (HOB12.out.below hb (by omega))
 have HB13 := Lib.hid (HB12.out.trans (hb.mono (by omega)))
 have HXa13 := Lib.hid ((hb.block _ (lt_of_row HXa12.out)).trans HXa12.out)
 have HXb13 := Lib.hid ((hb.block _ (lt_of_row HXb12.out)).trans HXb12.out)
 have HVD13 := Lib.hid (HVD12.out.below hb (by omega))
 have HOD13 := Lib.hid (HOD12.out.below hb (by omega))
 have HXd13 := Lib.hid ((hb.block _ (lt_of_row HXd12.out)).trans HXd12.out)
 have HVW13 := Lib.hid (HVW12.out.below hb (by omega))
 have HOW13 := Lib.hid (HOW12.out.below hb (by omega))
 have HXw13 := Lib.hid ((hb.block _ (lt_of_row HXw12.out)).trans HXw12.out)
 have HVP13 := Lib.hid (HVP12.out.below hb (by omega))
 have HOP13 := Lib.hid (HOP12.out.below hb (by omega))
 have HXp13 := Lib.hid ((hb.block _ (lt_of_row HXp12.out)).trans HXp12.out)
 have HVN13 := Lib.hid (HVN12.out.below hb (by omega))
 have HON13 := Lib.hid (HON12.out.below hb (by omega))
 clear hb HVA12 HOA12 HVB12 HOB12 HB12 HXa12 HXb12 HVD12 HOD12 HXd12 HVW12 HOW12 HXw12 HVP12 HOP12 HXp12 HVN12 HON12
 obtain ⟨c00, c01⟩ := pair_cells HXa13.out
 obtain ⟨c10, c11⟩ := pair_cells HXb13.out
 go_wp2_with fail
 have hc := implMergedK w13 w13.heap.size ava aoa bva boa 4 avc l.length aoc 4 bvc m.length boc xs l ys m (HVA13.out.more (by omega)) (HOA13.out.more (by omega)) (HVB13.out.more (by omega)) (HOB13.out.more (by omega)) (Nat.le_refl _) (by omega) HCa.out.1 ⟨by omega, HCa.out.2.1⟩ HIa.out (by omega) HCb.out.1 ⟨by omega, HCb.out.2.1⟩ HIb.out
 rw [HR.out, HT5.out, HT6.out] at hc
 refine hc.mono ?_
 clear hc
 rintro e w14 ⟨jva, jvc, joa, joc, midj, rfl, hov, hop, hm1, hm2, hb, _⟩
 clear c00 c01 c10 c11
 have hov := hov.more (Nat.le_refl _) hm2
 clear hm1 hm2
 have hs14 := hb.size
 have HVA14 := Lib.hid (HVA13.out.below hb (by omega))
 have HOA14 := Lib.hid (HOA13.out.below hb (by omega))
 have HVB14 := Lib.hid (HVB13.out.below hb (by omega))
 have HOB14 := Lib.hid (HOB13.out.below hb (by omega))
 have HB14 := Lib.hid (HB13.out.trans (hb.mono (by omega)))
 have HXa14 := Lib.hid ((hb.block _ (lt_of_row HXa13.out)).trans HXa13.out)
 have HXb14 := Lib.hid ((hb.block _ (lt_of_row HXb13.out)).trans HXb13.out)
 have HVD14 := Lib.hid (HVD13.out.below hb (by omega))
 have HOD14 := Lib.hid (HOD13.out.below hb (by omega))
 have HXd14 := Lib.hid ((hb.block _ (lt_of_row HXd13.out)).trans HXd13.out)
 have HVW14 := Lib.hid (HVW13.out.below hb (by omega))
 have HOW14 := Lib.hid (HOW13.out.below hb (by omega))
 have HXw14 := Lib.hid ((hb.block _ (lt_of_row HXw13.out)).trans HXw13.out)
 have HVP14 := Lib.hid (HVP13.out.below hb (by omega))
 have HOP14 := Lib.hid (HOP13.out.below hb (by omega))
 have HXp14 := Lib.hid ((hb.block _ (lt_of_row HXp13.out)).trans HXp13.out)
 have HVN14 := Lib.hid (HVN13.out.below hb (by omega))
 have HON14 := Lib.hid (HON13.out.below hb (by omega))
 have HXn14 := Lib.hid ((hb.block _ (lt_of_row HXn13.out)).trans HXn13.out)
 clear hb HVA13 HOA13 HVB13 HOB13 HB13 HXa13 HXb13 HVD13 HOD13 HXd13 HVW13 HOW13 HXw13 HVP13 HOP13 HXp13 HVN13 HON13 HXn13
 have HVJ14 := Lib.hid hov.ints
 have HOJ14 := Lib.hid hop.ops
 clear hov hop
 go_upto_region 11 with fail
 have hb : Below w14.heap.size w14 (w14.alloc (.cells #[.slice jva gs.length jvc, .slice joa go.length joc] 29)) := bl
 have HXj15 := Lib.hid (boxAt (Below.refl _ (w14.alloc (.cells #[.slice jva gs.length jvc, .slice joa go.length joc] 29))))
 generalize w14.alloc (.cells #[.slice jva gs.length jvc, .slice joa go.length joc] 29) = w15 at hb HXj15 ⊢
 have hs15 := hb.size
 have HVA15 := Lib.hid (HVA14.out.below hb (by omega))
 have HOA15 := Lib.hid (HOA14.out.below hb (by omega))
 have HVB15 := Lib.hid (HVB14.out.below hb (by omega))
 have HOB15 := Lib.hid (HOB14.out.below hb (by omega))
 have HB15 := Lib.hid (HB14.out.trans (hb.mono (by omega)))
 have HXa15 := Lib.hid ((hb.block _ (lt_of_row HXa14.out)).trans HXa14.out)
 have HXb15 := Lib.hid ((hb.block _ (lt_of_row HXb14.out)).trans HXb14.out)
 have HVD15 := Lib.hid (HVD14.out.below hb (by omega))
 have HOD15 := Lib.hid (HOD14.out.below hb (by omega))
 have HXd15 := Lib.hid ((hb.block _ (lt_of_row HXd14.out)).trans HXd14.out)
 have HVW15 := Lib.hid (HVW14.out.below hb (by omega))
 have HOW15 := Lib.hid (HOW14.out.below hb (by omega))
 have HXw15 := Lib.hid ((hb.block _ (lt_of_row HXw14.out)).trans HXw14.out)
 have HVP15 := Lib.hid (HVP14.out.below hb (by omega))
 have HOP15 := Lib.hid (HOP14.out.below hb (by omega))
 have HXp15 := Lib.hid ((hb.block _ (lt_of_row HXp14.out)).trans HXp14.out)
 have HVN15 := Lib.hid (HVN14.out.below hb (by omega))
 have HON15 := Lib.hid (HON14.out.below hb (by omega))
 have HXn15 := Lib.hid ((hb.block _ (lt_of_row HXn14.out)).trans HXn14.out)
 have HVJ15 := Lib.hid (HVJ14.out.below hb (by omega))
 have HOJ15 := Lib.hid (HOJ14.out.below hb (by omega))
 clear hb HVA14 HOA14 HVB14 HOB14 HB14 HXa14 HXb14 HVD14 HOD14 HXd14 HVW14 HOW14 HXw14 HVP14 HOP14 HXp14 HVN14 HON14 HXn14 HVJ14 HOJ14
 obtain ⟨c00, c01⟩ := pair_cells HXa15.out
 go_wp2_with fail
 have hc := implDeltaK w15 w15.heap.size ava aoa ava aoa 4 avc l.length aoc 4 avc l.length aoc xs l xs l (HVA15.out.more (by omega)) (HOA15.out.more (by omega)) (HVA15.out.more (by omega)) (HOA15.out.more (by omega)) (Nat.le_refl _) (by omega) HCa.out.1 ⟨by omega, HCa.out.2.1⟩ HIa.out (by omega) HCa.out.1 ⟨by omega, HCa.out.2.1⟩ HIa.out
 rw [HT7.out, HT8.out, HT9.out] at hc
 refine hc.mono ?_
 clear hc
 rintro e w16 ⟨zva, zvc, zoa, zoc, midz, rfl, hov, hop, hm1, hm2, hb, _⟩
 clear c00 c01
 have hov := hov.more (Nat.le_refl _) hm2
 clear hm1 hm2
 have hs16 := hb.size
 have HVA16 := Lib.hid (HVA15.out.below hb (by omega))
 have HOA16 := Lib.hid (HOA15.out.below hb (by omega))
 have HVB16 := Lib.hid (HVB15.out.below hb (by omega))
 have HOB16 := Lib.hid (HOB15.out.below hb (by omega))
 have HB16 := Lib.hid (HB15.out.trans (hb.mono (by omega)))
 have HXa16 := Lib.hid ((hb.block _ (lt_of_row HXa15.out)).trans HXa15.out)
 have HXb16 := Lib.hid ((hb.block _ (lt_of_row HXb15.out)).trans HXb15.out)
 have HVD16 := Lib.hid (HVD15.out.below hb (by omega))
 have HOD16 := Lib.hid (HOD15.out.below hb (by omega))
 have HXd16 := Lib.hid ((hb.block _ (lt_of_row HXd15.out)).trans HXd15.out)
 have HVW16 := Lib.hid (HVW15.out.below hb (by omega))
 have HOW16 := Lib.hid (HOW15.out.below hb (by omega))
 have HXw16 := Lib.hid ((hb.block _ (lt_of_row HXw15.out)).trans HXw15.out)
 have HVP16 := Lib.hid (HVP15.out.below hb (by omega))
 have HOP16 := Lib.hid (HOP15.out.below hb (by omega))
 have HXp16 := Lib.hid ((hb.block _ (lt_of_row HXp15.out)).trans HXp15.out)
 have HVN16 := Lib.hid (HVN15.out.below hb (by omega))
 have HON16 := Lib.hid (HON15.out.below hb (by omega))
 have HXn16 := Lib.hid ((hb.block _ (lt_of_row HXn15.out)).trans HXn15.out)
 have HVJ16 := Lib.hid (HVJ15.out.below hb (by omega))
 have HOJ16 := Lib.hid (HOJ15.out.below hb (by omega))
 have HXj16 := Lib.hid ((hb.block _ (lt_of_row HXj15.out)).trans HXj15.out)
 clear hb HVA15 HOA15 HVB15 HOB15 HB15 HXa15 HXb15 HVD15 HOD15 HXd15 HVW15 HOW15 HXw15 HVP15 HOP15 HXp15 HVN15 HON15 HXn15 HVJ15 HOJ15 HXj15
 have HVZ16 := Lib.hid hov.ints
 have HOZ16 := Lib.hid hop.ops
 clear hov hop
 go_upto_region 12 with fail
 have hb : Below w16.heap.size w16 (w16.alloc (.cells #[.slice zva xs.length zvc, .slice zoa eo.length zoc] 29)) := bl
 have HXz17 := Lib.hid (boxAt (Below.refl _ (w16.alloc (.cells #[.slice zva xs.length zvc, .slice zoa eo.length zoc] 29))))
 generalize w16.alloc (.cells #[.slice zva xs.length zvc, .slice zoa eo.length zoc] 29) = w17 at hb HXz17 ⊢
 have hs17 := hb.size
 have HVA17 := Lib.hid (HVA16.out.below hb (by omega))
 have HOA17 := Lib.hid (HOA16.out.below hb (by omega))
 have HVB17 := Lib.hid (HVB16.out.below hb (by omega))
 have HOB17 := Lib.hid (HOB16.out.below hb (by omega))
 have HB17 := Lib.hid (HB16.out.trans (hb.mono (by omega)))
 have HXa17 := Lib.hid ((hb.block _ (lt_of_row HXa16.out)).trans HXa16.out)
 have HXb17 := Lib.hid ((hb.block _ (lt_of_row HXb16.out)).trans HXb16.out)
 have HVD17 := Lib.hid (HVD16.out.below hb (by omega))
 have HOD17 := Lib.hid (HOD16.out.below hb (by omega))
 have HXd17 := Lib.hid ((hb.block _ (lt_of_row HXd16.out)).trans HXd16.out)
 have HVW17 := Lib.hid (HVW16.out.below hb (by omega))
 have HOW17 := Lib.hid (HOW16.out.below hb (by omega))
 have HXw17 := Lib.hid ((hb.block _ (lt_of_row HXw16.out)).trans HXw16.out)
 have HVP17 := Lib.hid (HVP16.out.below hb (by omega))
 have HOP17 := Lib.hid (HOP16.out.below hb (by omega))
 have HXp17 := Lib.hid ((hb.block _ (lt_of_row HXp16.out)).trans HXp16.out)
 have HVN17 := Lib.hid (HVN16.out.below hb (by omega))
 have HON17 := Lib.hid (HON16.out.below hb (by omega))
 have HXn17 := Lib.hid ((hb.block _ (lt_of_row HXn16.out)).trans HXn16.out)
 have HVJ17 := Lib.hid (HVJ16.out.below hb (by omega))
 have HOJ17 := Lib.hid (HOJ16.out.below hb (by omega))
 have HXj17 := Lib.hid ((hb.block _ (lt_of_row HXj16.out)).trans HXj16.out)
 have HVZ17 := Lib.hid (HVZ16.out.below hb (by omega))
 have HOZ17 := Lib.hid (HOZ16.out.below hb (by omega))
 clear hb HVA16 HOA16 HVB16 HOB16 HB16 HXa16 HXb16 HVD16 HOD16 HXd16 HVW16 HOW16 HXw16 HVP16 HOP16 HXp16 HVN16 HON16 HXn16 HVJ16 HOJ16 HXj16 HVZ16 HOZ16
 obtain ⟨c00, c01⟩ := pair_cells HXd17.out
 go_wp2_with fail
 refine (implPartOk w17 w17.heap.size dva doa xs.length dvc os.length doc xs os (HVD17.out.more (by omega)) (HOD17.out.more (by omega)) (Nat.le_refl _) (by omega) (by omega)).mono ?_
 rintro e w18 ⟨rfl, hb⟩
 rw [HT1.out]
 clear c00 c01
 have hs18 := hb.size
 have HVA18 := Lib.hid (HVA17.out.below hb (by omega))
 have HOA18 := Lib.hid (HOA17.out.below hb (by omega))
 have HVB18 := Lib.hid (HVB17.out.below hb (by omega))
 have HOB18 := Lib.hid (HOB17.out.below hb (by omega))
 have HB18 := Lib.hid (HB17.out.trans (hb.mono (by omega)))
 have HXa18 := Lib.hid ((hb.block _ (lt_of_row HXa17.out)).trans HXa17.out)
 have HXb18 := Lib.hid ((hb.block _ (lt_of_row HXb17.out)).trans HXb17.out)
 have HVD18 := Lib.hid (HVD17.out.below hb (by omega))
 have HOD18 := Lib.hid (HOD17.out.below hb (by omega))
 have HXd18 := Lib.hid ((hb.block _ (lt_of_row HXd17.out)).trans HXd17.out)
 have HVW18 := Lib.hid (HVW17.out.below hb (by omega))
 have HOW18 := Lib.hid (HOW17.out.below hb (by omega))
 have HXw18 := Lib.hid ((hb.block _ (lt_of_row HXw17.out)).trans HXw17.out)
 have HVP18 := Lib.hid (HVP17.out.below hb (by omega))
 have HOP18 := Lib.hid (HOP17.out.below hb (by omega))
 have HXp18 := Lib.hid ((hb.block _ (lt_of_row HXp17.out)).trans HXp17.out)
 have HVN18 := Lib.hid (HVN17.out.below hb (by omega))
 have HON18 := Lib.hid (HON17.out.below hb (by omega))
 have HXn18 := Lib.hid ((hb.block _ (lt_of_row HXn17.out)).trans HXn17.out)
 have HVJ18 := Lib.hid (HVJ17.out.below hb (by omega))
 have HOJ18 := Lib.hid (HOJ17.out.below hb (by omega))
 have HXj18 := Lib.hid ((hb.block _ (lt_of_row HXj17.out)).trans HXj17.out)
 have HVZ18 := Lib.hid (HVZ17.out.below hb (by omega))
 have HOZ18 := Lib.hid (HOZ17.out.below hb (by omega))
 have HXz18 := Lib.hid ((hb.block _ (lt_of_row HXz17.out)).trans HXz17.out)
 clear hb HVA17 HOA17 HVB17 HOB17 HB17 HXa17 HXb17 HVD17 HOD17 HXd17 HVW17 HOW17 HXw17 HVP17 HOP17 HXp17 HVN17 HON17 HXn17 HVJ17 HOJ17 HXj17 HVZ17 HOZ17 HXz17
 obtain ⟨c00, c01⟩ := pair_cells HXn18.out
 obtain ⟨c10, c11⟩ := pair_cells HXj18.out
 go_wp2_with fail
 refine (sameCart w18 w18.heap.size nva noa jva joa gs.length nvc go.length noc gs.length jvc go.length joc gs go gs go (HVN18.out.more (by omega)) (HON18.out.more (by omega)) (HVJ18.out.more (by omega)) (HOJ18.out.more (by omega)) (Nat.le_refl _) (by omega) (by omega) (by omega) (by omega)).mono ?_
 rintro e w19 ⟨rfl, hb⟩
 rw [decide_eq_true rfl, decide_eq_true rfl]
 clear c00 c01 c10 c11
 have hs19 := hb.size
 have HVA19 := Lib.hid (HVA18.out.below hb (by omega))
 have HOA19 := Lib.hid (HOA18.out.below hb (by omega))
 have HVB19 := Lib.hid (HVB18.out.below hb (by omega))
 have HOB19 := Lib.hid (HOB18.out.below hb (by omega))
 have HB19 := Lib.hid (HB18.out.trans (hb.mono (by omega)))
 have HXa19 := Lib.hid ((hb.block _ (lt_of_row HXa18.out)).trans HXa18.out)
 have HXb19 := Lib.hid ((hb.block _ (lt_of_row HXb18.out)).trans HXb18.out)
 have HVD19 := Lib.hid (HVD18.out.below hb (by omega))
 have HOD19 := Lib.hid (HOD18.out.below hb (by omega))
 have HXd19 := Lib.hid ((hb.block _ (lt_of_row HXd18.out)).trans HXd18.out)
 have HVW19 := Lib.hid (HVW18.out.below hb (by omega))
 have HOW19 := Lib.hid (HOW18.out.below hb (by omega))
 have HXw19 := Lib.hid ((hb.block _ (lt_of_row HXw18.out)).trans HXw18.out)
 have HVP19 := Lib.hid (HVP18.out.below hb (by omega))
 have HOP19 := Lib.hid (HOP18.out.below hb (by omega))
 have HXp19 := Lib.hid ((hb.block _ (lt_of_row HXp18.out)).trans HXp18.out)
 have HVN19 := Lib.hid (HVN18.out.below hb (by omega))
 have HON19 := Lib.hid (HON18.out.below hb (by omega))
 have HXn19 := Lib.hid ((hb.block _ (lt_of_row HXn18.out)).trans HXn18.out)
 have HVJ19 := Lib.hid (HVJ18.out.below hb (by omega))
 have HOJ19 := Lib.hid (HOJ18.out.below hb (by omega))
 have HXj19 := Lib.hid ((hb.block _ (lt_of_row HXj18.out)).trans HXj18.out)
 have HVZ19 := Lib.hid (HVZ18.out.below hb (by omega))
 have HOZ19 := Lib.hid (HOZ18.out.below hb (by omega))
 have HXz19 := Lib.hid ((hb.block _ (lt_of_row HXz18.out)).trans HXz18.out)
 clear hb HVA18 HOA18 HVB18 HOB18 HB18 HXa18 HXb18 HVD18 HOD18 HXd18 HVW18 HOW18 HXw18 HVP18 HOP18 HXp18 HVN18 HON18 HXn18 HVJ18 HOJ18 HXj18 HVZ18 HOZ18 HXz18
 obtain ⟨c0, c1⟩ := pair_cells HXz19.out
 rw [HEl.out] at c1
 go_wp2
 go_ret
 exact ⟨rfl, HB19.out⟩
end Go.Proofs.Ytdbdmfaphdjdpaa
