/- The walk of the law FnLevelUp. -/
import Derived.Test.YtmceofdknphgkaaGa34
import Derived.Test.YtmceofdknphgkaaGlp2
import Derived.Test.YtmceofdknphgkaaGlp6
import Derived.Test.YtmceofdknphgkaaGlp5
import Derived.Test.YtmceofdknphgkaaGlp7
import Derived.Test.YtmceofdknphgkaaGlp8
import Derived.Test.YtmceofdknphgkaaGlp0
import Derived.Test.YtmceofdknphgkaaGlp1
import Derived.Test.YtmceofdknphgkaaGlp9
import Derived.Test.YtmceofdknphgkaaGlp4
import Derived.Test.YtmceofdknphgkaaGlLvlM
import Derived.Test.YtmceofdknphgkaaGa20
import Derived.Test.YtmceofdknphgkaaGa23
import Derived.Deep.Cut
namespace Go.Proofs.Ytmceofdknphgkaa
open Go.RowKit
set_option linter.unusedVariables false
set_option linter.unusedSimpArgs false

set_option maxRecDepth 100000 in
set_option maxHeartbeats 16000000 in
theorem fnLevelUpWalk (a : Option Addr) (len cap : Nat) (zs : List Int) (w : World) (h : IsRow .u8 w a len cap zs) :
    Calls Try.prog 7 #[.slice a len cap] w fun e w' => e = .returned (.bool true) ∧ Below w.heap.size w w' := by
  by_cases hbig : len ≤ 1048576
  rotate_left
  · go_enter Try.func7, Try.ntmps7
    go_wp2_with fail
    refine (bigYes a len cap hbig w).mono ?_
    rintro e w' ⟨rfl, rfl⟩
    go_wp2
    go_ret
    exact ⟨rfl, Below.refl _ _⟩
  have hsrc := Lib.hid (src_of_row h hbig)
  clear h
  go_enter Try.func7, Try.ntmps7
  go_wp2_with fail
  refine (bigNo a len cap hbig w).mono ?_
  rintro e w' ⟨rfl, rfl⟩
  go_wp2_with fail
  refine (drawLevelOf w w.heap.size a len cap (Nat.le_refl _) hsrc.out).mono ?_
  rintro e w0 ⟨⟨ava, avc, aoa, ano, aoc⟩, t, ht, rfl, hx, hb0⟩
  obtain ⟨xs, l, e1, a1, a2, a3, a4, a5, a6⟩ := hx
  have e1 : ano = l.length := e1
  subst e1
  have HVA0 := Lib.hid a1.ints
  have HOA0 := Lib.hid a2.ops
  have HB0 := Lib.hid hb0
  have HCv := Lib.hid a3
  have HCa := Lib.hid a4
  have HIa : Hid (∀ i, i < l.length → (atOp l i).item.size ≤ 1048576) := fun i hi => Nat.le_trans (a5 i hi) (by omega)
  have hs0 := hb0.size
  clear a1 a2 a3 a4 a5 hb0
  dsimp only
  go_upto_region 4 with fail
  have hb : Below w0.heap.size w0 (w0.alloc (.cells #[.slice ava 4 avc, .slice aoa l.length aoc] 27)) := (Below.refl _ _).alloc (Nat.le_refl _) _
  have HXa1 := Lib.hid (boxAt (Below.refl _ (w0.alloc (.cells #[.slice ava 4 avc, .slice aoa l.length aoc] 27))))
  generalize w0.alloc (.cells #[.slice ava 4 avc, .slice aoa l.length aoc] 27) = w1 at hb HXa1 ⊢
  have hs1 := hb.size
  have HVA1 := Lib.hid (HVA0.out.below hb (by omega))
  have HOA1 := Lib.hid (HOA0.out.below hb (by omega))
  have HB1 := Lib.hid (HB0.out.trans (hb.mono (by omega)))
  clear hb HVA0 HOA0 HB0
  obtain ⟨n, hn⟩ : ∃ n, levelN xs l t = n := ⟨_, rfl⟩
  have HN := Lib.hid hn
  clear hn
  obtain ⟨c00, c01⟩ := pair_cells HXa1.out
  go_wp2_with fail
  have hc := implLevel w1 w1.heap.size ava aoa 4 avc l.length aoc xs l t (HVA1.out.more (by omega)) (HOA1.out.more (by omega)) (Nat.le_refl _) (by omega) HCa.out.1 ⟨by omega, HCa.out.2.1⟩
  rw [HN.out] at hc
  refine hc.mono ?_
  clear hc
  rintro e w2 ⟨rfl, hb⟩
  clear c00 c01
  have hs2 := hb.size
  have HVA2 := Lib.hid (HVA1.out.below hb (by omega))
  have HOA2 := Lib.hid (HOA1.out.below hb (by omega))
  have HB2 := Lib.hid (HB1.out.trans (hb.mono (by omega)))
  have HXa2 := Lib.hid ((hb.block _ (lt_of_row HXa1.out)).trans HXa1.out)
  clear hb HVA1 HOA1 HB1 HXa1
  obtain ⟨c00, c01⟩ := pair_cells HXa2.out
  go_wp2_with fail
  have hc := specLevel w2 w2.heap.size ava aoa 4 avc l.length aoc xs l t (HVA2.out.more (by omega)) (HOA2.out.more (by omega)) (Nat.le_refl _) (by omega) (by omega) HIa.out
  rw [HN.out] at hc
  refine hc.mono ?_
  clear hc
  rintro e w3 ⟨rfl, hb⟩
  clear c00 c01
  have hs3 := hb.size
  have HVA3 := Lib.hid (HVA2.out.below hb (by omega))
  have HOA3 := Lib.hid (HOA2.out.below hb (by omega))
  have HB3 := Lib.hid (HB2.out.trans (hb.mono (by omega)))
  have HXa3 := Lib.hid ((hb.block _ (lt_of_row HXa2.out)).trans HXa2.out)
  clear hb HVA2 HOA2 HB2 HXa2
  have hnn : (n != n) = false := bne_self_eq_false _
  obtain ⟨ca, hca⟩ : ∃ b, cartB xs l = b := ⟨_, rfl⟩
  have Hca := Lib.hid hca
  clear hca
  obtain ⟨c00, c01⟩ := pair_cells HXa3.out
  go_wp2_with fail
  have hc := specCartOk w3 w3.heap.size ava aoa 4 avc l.length aoc xs l (HVA3.out.more (by omega)) (HOA3.out.more (by omega)) (Nat.le_refl _) (by omega) (by omega) HIa.out
  rw [Hca.out] at hc
  refine hc.mono ?_
  clear hc
  rintro e w4 ⟨rfl, hb⟩
  clear c00 c01
  have hs4 := hb.size
  have HVA4 := Lib.hid (HVA3.out.below hb (by omega))
  have HOA4 := Lib.hid (HOA3.out.below hb (by omega))
  have HB4 := Lib.hid (HB3.out.trans (hb.mono (by omega)))
  have HXa4 := Lib.hid ((hb.block _ (lt_of_row HXa3.out)).trans HXa3.out)
  clear hb HVA3 HOA3 HB3 HXa3
  cases ca
  · skip
    obtain ⟨c00, c01⟩ := pair_cells HXa4.out
    go_wp2_with fail
    have hc := specLevel w4 w4.heap.size ava aoa 4 avc l.length aoc xs l t (HVA4.out.more (by omega)) (HOA4.out.more (by omega)) (Nat.le_refl _) (by omega) (by omega) HIa.out
    rw [HN.out] at hc
    refine hc.mono ?_
    clear hc
    rintro e w5 ⟨rfl, hb⟩
    clear c00 c01
    have hs5 := hb.size
    have HVA5 := Lib.hid (HVA4.out.below hb (by omega))
    have HOA5 := Lib.hid (HOA4.out.below hb (by omega))
    have HB5 := Lib.hid (HB4.out.trans (hb.mono (by omega)))
    have HXa5 := Lib.hid ((hb.block _ (lt_of_row HXa4.out)).trans HXa4.out)
    clear hb HVA4 HOA4 HB4 HXa4
    go_wp2
    go_ret
    exact ⟨rfl, HB5.out⟩
  by_cases h0 : l.length = 0
  · skip
    have hz1 : ((l.length : Int) == 0) = true := by rw [h0]; rfl
    have hz2 : decide ((l.length : Int) = 0) = true := decide_eq_true (by omega)
    clear h0
    obtain ⟨c00, c01⟩ := pair_cells HXa4.out
    go_wp2_with fail
    have hc := specLevel w4 w4.heap.size ava aoa 4 avc l.length aoc xs l t (HVA4.out.more (by omega)) (HOA4.out.more (by omega)) (Nat.le_refl _) (by omega) (by omega) HIa.out
    rw [HN.out] at hc
    refine hc.mono ?_
    clear hc
    rintro e w5 ⟨rfl, hb⟩
    clear c00 c01
    have hs5 := hb.size
    have HVA5 := Lib.hid (HVA4.out.below hb (by omega))
    have HOA5 := Lib.hid (HOA4.out.below hb (by omega))
    have HB5 := Lib.hid (HB4.out.trans (hb.mono (by omega)))
    have HXa5 := Lib.hid ((hb.block _ (lt_of_row HXa4.out)).trans HXa4.out)
    clear hb HVA4 HOA4 HB4 HXa4
    go_wp2
    go_ret
    exact ⟨rfl, HB5.out⟩
  obtain ⟨c00, c01⟩ := pair_cells HXa4.out
  have hz1 : ((l.length : Int) == 0) = false := by simpa using h0
  have hz2 : decide ((l.length : Int) = 0) = false := decide_eq_false (by omega)
  obtain ⟨m, hm⟩ : ∃ m, l.length = m + 1 := ⟨l.length - 1, by omega⟩
  obtain ⟨d, hd4, hdv, hx1, hx2, hcl⟩ := last_cut Hca.out hm
  have hlv := level_less Hca.out hm hcl t
  have hml : m < l.length := by omega
  have hm4 : m ≤ 400 := by omega
  have hw1 : IntKind.i64.wrap ((l.length : Int) - 1) = (m : Int) := (IntWalk.i64_in _ (by omega)).trans (by omega)
  have HDv := Lib.hid hdv
  have HCl := Lib.hid hcl
  have HLe : Hid (levelN (lessV xs d) (l.take m) t ≤ n) := by show _ ≤ n; rw [← HN.out]; exact hlv
  have hmc : m ≤ aoc := by have := HCa.out.1; omega
  have hmci : ¬ ((aoc : Int) < (m : Int)) := by omega
  have hmcd : decide ((aoc : Int) < (m : Int)) = false := decide_eq_false hmci
  have hmcj : (m : Int) ≤ (aoc : Int) := by omega
  have hm0 : ¬ ((m : Int) < 0) := by omega
  have hm0d : decide ((m : Int) < 0) = false := decide_eq_false hm0
  clear h0 hm hdv hcl hlv
  go_upto_region 8 with fail
  rename_i KR hKR
  clear c00 c01
  clear hz1 hz2 hw1 hnn
  have hxk0 : w0.heap.size < w4.heap.size := lt_of_row HXa4.out
  have hKall : ∀ (eb : Nat) (va oa : Option Addr) (vc oc : Nat) (u8 u9 u10 u11 u12 u13 u14 u15 u16 u17 u18 u19 u20 u21 u22 u23 u24 u25 u26 u27 u28 u29 u30 u31 u32 u33 u34 u35 u36 u37 u38 u39 u40 u41 u42 u43 u44 u45 u46 u47 u48 u49 u50 u51 u52 u53 u54 u55 u56 u57 u58 u59 u60 u61 u62 u63 u64 u65 u66 u67 u68 u69 u70 u71 u72 u73 u74 : Value) (w5 : World), w4.heap.size ≤ eb → eb < w5.heap.size → Below w4.heap.size w4 w5 → Hid (w5.heap[eb]? = some (.cells #[.slice va 4 vc, .slice oa m oc] 27 (0, 0))) → Hid (Own w5 w4.heap.size w5.heap.size va 4 xs) → Hid (OwnOps w5 w4.heap.size w5.heap.size oa m (l.take m)) → Hid (Caps oa m oc) → KR { tmps := #[.slice a len cap, undef, .bool false, .pointer (some ⟨w0.heap.size, 0, none⟩), .string t, .int .i64 n, .int .i64 (m : Int), .pointer (some ⟨eb, 0, none⟩), u8, u9, u10, u11, u12, u13, u14, u15, u16, u17, u18, u19, u20, u21, u22, u23, u24, u25, u26, u27, u28, u29, u30, u31, u32, u33, u34, u35, u36, u37, u38, u39, u40, u41, u42, u43, u44, u45, u46, u47, u48, u49, u50, u51, u52, u53, u54, u55, u56, u57, u58, u59, u60, u61, u62, u63, u64, u65, u66, u67, u68, u69, u70, u71, u72, u73, u74], defers := [] } w5 := by
    intro eb va oa vc oc u8 u9 u10 u11 u12 u13 u14 u15 u16 u17 u18 u19 u20 u21 u22 u23 u24 u25 u26 u27 u28 u29 u30 u31 u32 u33 u34 u35 u36 u37 u38 u39 u40 u41 u42 u43 u44 u45 u46 u47 u48 u49 u50 u51 u52 u53 u54 u55 u56 u57 u58 u59 u60 u61 u62 u63 u64 u65 u66 u67 u68 u69 u70 u71 u72 u73 u74 w5 q1 q2 hb HE HV HO HCo
    apply hKR
    clear hKR
    have hs5 := hb.size
    have HVA5 := Lib.hid (HVA4.out.below hb (by omega))
    have HOA5 := Lib.hid (HOA4.out.below hb (by omega))
    have HB5 := Lib.hid (HB4.out.trans (hb.mono (by omega)))
    have HXa5 := Lib.hid ((hb.block _ (lt_of_row HXa4.out)).trans HXa4.out)
    clear hb HVA4 HOA4 HB4 HXa4
    clear q1
    have HEb5 := HE
    have HNo5 := HO
    clear HE HO
    obtain ⟨gv, rfl, hg1, hg2, gc, gf, hov⟩ := own_minus HV.out hd4
    have hgt : ∃ cs, w5.heap[gv]? = some (.cells cs 2 (0, 0)) := by
      obtain ⟨g8, cur8, e8, _, _, h8c, _⟩ := HV.out.2 (by omega)
      injection e8 with e8
      injection e8 with e8
      subst e8
      exact ⟨_, h8c⟩
    have hgE : eb ≠ gv := by
      intro e9
      obtain ⟨cs, hcs⟩ := hgt
      rw [← e9, HEb5.out] at hcs
      injection hcs with hcs
      injection hcs with _ hcs
      exact absurd hcs (by decide)
    have HV2 := Lib.hid hov
    clear hov
    obtain ⟨xd, hxd⟩ : ∃ x, xs.getD d 0 = x := ⟨_, rfl⟩
    have hx1' : 1 ≤ xd := by rw [← hxd]; exact hx1
    have hx2' : xd ≤ 40 := by rw [← hxd]; exact hx2
    rw [hxd] at gc HV2
    clear hxd hx1 hx2
    have hwx : IntKind.i64.wrap (xd - 1) = xd - 1 := IntWalk.i64_in _ (by omega)
    obtain ⟨ab, ao, rfl, hab, hao⟩ := HOA5.out.2 m hml
    have hao : OpAt w5 ab (ao + m * 8) (atOp l m) := hao
    obtain ⟨hd0, _⟩ := hao
    rw [HDv.out] at hd0
    have hmi : (m : Int) < (l.length : Int) := by omega
    have hdi : (d : Int) < 4 := by omega
    have hd0d : decide ((d : Int) < 0) = false := decide_eq_false (by omega)
    have hd0n : ¬ ((d : Int) < 0) := by omega
    go_upto_region 9 with fail
    obtain ⟨z0, hz0⟩ : ∃ z, w5.drew = z := ⟨_, rfl⟩
    have gz : Below w5.heap.size w5 z0 := by rw [← hz0]; exact ⟨rfl, rfl, rfl, Nat.le_refl _, fun _ _ => rfl⟩
    have gc0 : z0.cell? ⟨gv, d, none⟩ = some (.int .i64 xd) := by rw [← hz0]; exact gc
    have gf0 : z0.frozen? ⟨gv, d, none⟩ = false := by rw [← hz0]; exact gf
    have HV0 : Hid (Own (z0.setCell ⟨gv, d, none⟩ (.int .i64 (xd - 1))) w4.heap.size w5.heap.size (some ⟨gv, 0, none⟩) 4 (lessV xs d)) := by rw [← hz0]; exact HV2.out
    have hSz : z0.heap.size = w5.heap.size := by rw [← hz0]; rfl
    have hsz0 := Lib.hid hSz
    clear hSz
    have hS : z0.cell? ⟨eb, 0, none⟩ = some (.slice (some ⟨gv, 0, none⟩) 4 vc) ∧ z0.cell? ⟨w0.heap.size, 1, none⟩ = some (.slice (some ⟨ab, ao, none⟩) l.length aoc) ∧ z0.cell? ⟨ab, ao + m * 8, none⟩ = some (.int .i64 (d : Int)) := by rw [← hz0]; exact ⟨(pair_cells HEb5.out).1, (pair_cells HXa5.out).2, hd0⟩
    refine wp_region_held_drew (S := fun w' => w'.cell? ⟨eb, 0, none⟩ = some (.slice (some ⟨gv, 0, none⟩) 4 vc) ∧ w'.cell? ⟨w0.heap.size, 1, none⟩ = some (.slice (some ⟨ab, ao, none⟩) l.length aoc) ∧ w'.cell? ⟨ab, ao + m * 8, none⟩ = some (.int .i64 (d : Int))) (by kernel_rfl) (by rw [hz0]; exact hS) (fun hHeld => ?_)
    rw [hz0]
    clear hHeld hz0 gc gf
    refine wpAnyH_take (i := 0) (oi := { dst := some 54, op := .fieldAddr 27 (.tmp 7) 0, type := 0, pos := "laws.go:404", after := #[], guard := none }) (v := ?_) rfl (by kernel_rfl) (by kernel_rfl) (by kernel_rfl) (fun _ _ _ h => h) (Or.inl ⟨by rfl, ?_⟩) (by assumption) ?_
    rotate_left
    · intro w hSw
      (try dsimp only at hSw)
      first | (go_simp; done) | (go_simp; with_reducible rfl)
    (try simp only [Act.put, List.setIfInBounds_toArray, List.set_cons_zero, List.set_cons_succ])
    refine wpAnyH_take (i := 1) (oi := { dst := some 55, op := .load 24 (.tmp 54), type := 24, pos := "laws.go:404", after := #[⟨0, .data⟩], guard := none }) (v := ?_) rfl (by kernel_rfl) (by kernel_rfl) (by kernel_rfl) (fun _ _ _ h => h) (Or.inl ⟨by rfl, ?_⟩) (by assumption) ?_
    rotate_left
    · intro w hSw
      (try dsimp only at hSw)
      first | (go_simp; done) | (go_simp; with_reducible rfl)
    (try simp only [Act.put, List.setIfInBounds_toArray, List.set_cons_zero, List.set_cons_succ])
    refine wpAnyH_take (i := 2) (oi := { dst := some 56, op := .fieldAddr 27 (.tmp 3) 1, type := 0, pos := "laws.go:404", after := #[], guard := none }) (v := ?_) rfl (by kernel_rfl) (by kernel_rfl) (by kernel_rfl) (fun _ _ _ h => h) (Or.inl ⟨by rfl, ?_⟩) (by assumption) ?_
    rotate_left
    · intro w hSw
      (try dsimp only at hSw)
      first | (go_simp; done) | (go_simp; with_reducible rfl)
    (try simp only [Act.put, List.setIfInBounds_toArray, List.set_cons_zero, List.set_cons_succ])
    refine wpAnyH_take (i := 3) (oi := { dst := some 57, op := .load 25 (.tmp 56), type := 25, pos := "laws.go:404", after := #[⟨2, .data⟩], guard := none }) (v := ?_) rfl (by kernel_rfl) (by kernel_rfl) (by kernel_rfl) (fun _ _ _ h => h) (Or.inl ⟨by rfl, ?_⟩) (by assumption) ?_
    rotate_left
    · intro w hSw
      (try dsimp only at hSw)
      first | (go_simp; done) | (go_simp; with_reducible rfl)
    (try simp only [Act.put, List.setIfInBounds_toArray, List.set_cons_zero, List.set_cons_succ])
    refine wpAnyH_take (i := 4) (oi := { dst := some 58, op := .move (.tmp 6), type := 3, pos := "laws.go:404", after := #[], guard := none }) (v := ?_) rfl (by kernel_rfl) (by kernel_rfl) (by kernel_rfl) (fun _ _ _ h => h) (Or.inl ⟨by rfl, ?_⟩) (by assumption) ?_
    rotate_left
    · intro w hSw
      (try dsimp only at hSw)
      first | (go_simp; done) | (go_simp; with_reducible rfl)
    (try simp only [Act.put, List.setIfInBounds_toArray, List.set_cons_zero, List.set_cons_succ])
    refine wpAnyH_take (i := 5) (oi := { dst := some 59, op := .indexAddr 25 (.tmp 57) (.tmp 58), type := 0, pos := "laws.go:404", after := #[⟨3, .data⟩, ⟨4, .data⟩], guard := none }) (v := ?_) rfl (by kernel_rfl) (by kernel_rfl) (by kernel_rfl) (fun _ _ _ h => h) (Or.inl ⟨by rfl, ?_⟩) (by assumption) ?_
    rotate_left
    · intro w hSw
      (try dsimp only at hSw)
      first | (go_simp; done) | (go_simp; with_reducible rfl)
    (try simp only [Act.put, List.setIfInBounds_toArray, List.set_cons_zero, List.set_cons_succ])
    refine wpAnyH_take (i := 6) (oi := { dst := some 60, op := .fieldAddr 34 (.tmp 59) 0, type := 0, pos := "laws.go:404", after := #[⟨5, .data⟩], guard := none }) (v := ?_) rfl (by kernel_rfl) (by kernel_rfl) (by kernel_rfl) (fun _ _ _ h => h) (Or.inl ⟨by rfl, ?_⟩) (by assumption) ?_
    rotate_left
    · intro w hSw
      (try dsimp only at hSw)
      first | (go_simp; done) | (go_simp; with_reducible rfl)
    (try simp only [Act.put, List.setIfInBounds_toArray, List.set_cons_zero, List.set_cons_succ])
    refine wpAnyH_take (i := 7) (oi := { dst := some 61, op := .load 2 (.tmp 60), type := 2, pos := "laws.go:404", after := #[⟨6, .data⟩], guard := none }) (v := ?_) rfl (by kernel_rfl) (by kernel_rfl) (by kernel_rfl) (fun _ _ _ h => h) (Or.inl ⟨by rfl, ?_⟩) (by assumption) ?_
    rotate_left
    · intro w hSw
      (try dsimp only at hSw)
      first | (go_simp; done) | (go_simp; with_reducible rfl)
    (try simp only [Act.put, List.setIfInBounds_toArray, List.set_cons_zero, List.set_cons_succ])
    refine wpAnyH_take (i := 8) (oi := { dst := some 62, op := .indexAddr 24 (.tmp 55) (.tmp 61), type := 0, pos := "laws.go:404", after := #[⟨1, .data⟩, ⟨7, .data⟩], guard := none }) (v := ?_) rfl (by kernel_rfl) (by kernel_rfl) (by kernel_rfl) (fun _ _ _ h => h) (Or.inl ⟨by rfl, ?_⟩) (by assumption) ?_
    rotate_left
    · intro w hSw
      (try dsimp only at hSw)
      first | (go_simp; done) | (go_simp; with_reducible rfl)
    (try simp only [Act.put, List.setIfInBounds_toArray, List.set_cons_zero, List.set_cons_succ])
    refine wpAnyH_ready (rs := [9]) (by kernel_rfl) (by simp) ?_
    refine AllReadyH.cons (o := { dst := some 63, op := .load 2 (.tmp 62), type := 2, pos := "laws.go:404", after := #[⟨8, .data⟩], guard := none }) rfl (fun K hK => ?_) AllReadyH.nil
    go_simp
    refine hK.out _ _ hS (fun hHeld2 => ?_)
    clear hK K
    (try simp only [Act.put, List.setIfInBounds_toArray, List.set_cons_zero, List.set_cons_succ])
    refine wpAnyH_take (i := 10) (oi := { dst := some 64, op := .binOp .sub 2 (.tmp 63) (.const (Value.int IntKind.i64 1)) 2, type := 2, pos := "laws.go:404", after := #[⟨9, .data⟩], guard := none }) (v := ?_) rfl (by kernel_rfl) (by kernel_rfl) (by kernel_rfl) (fun _ _ _ h => h) (Or.inl ⟨by rfl, ?_⟩) (by assumption) ?_
    rotate_left
    · intro w hSw
      (try dsimp only at hSw)
      first | (go_simp; done) | (go_simp; with_reducible rfl)
    (try simp only [Act.put, List.setIfInBounds_toArray, List.set_cons_zero, List.set_cons_succ])
    refine wpAnyH_take (i := 11) (oi := { dst := some 65, op := .indexAddr 24 (.tmp 55) (.tmp 61), type := 0, pos := "laws.go:404", after := #[⟨1, .data⟩, ⟨7, .data⟩, ⟨0, .phase⟩, ⟨1, .phase⟩, ⟨2, .phase⟩, ⟨3, .phase⟩, ⟨4, .phase⟩, ⟨5, .phase⟩, ⟨6, .phase⟩, ⟨7, .phase⟩, ⟨8, .phase⟩, ⟨9, .phase⟩, ⟨10, .phase⟩], guard := none }) (v := ?_) rfl (by kernel_rfl) (by kernel_rfl) (by kernel_rfl) (fun _ _ _ h => h) (Or.inl ⟨by rfl, ?_⟩) (by assumption) ?_
    rotate_left
    · intro w hSw
      (try dsimp only at hSw)
      first | (go_simp; done) | (go_simp; with_reducible rfl)
    (try simp only [Act.put, List.setIfInBounds_toArray, List.set_cons_zero, List.set_cons_succ])
    have hxk : w0.heap.size < w4.heap.size := hxk0
    have hk9 : ∀ j, j ≠ gv → (z0.setCell ⟨gv, d, none⟩ (.int .i64 (xd - 1))).heap[j]? = z0.heap[j]? := fun j hj => heap_setCell_other _ _ _ _ hj
    have hge : eb ≠ gv := hgE
    have hga : ab ≠ gv := by omega
    have hgw : w0.heap.size ≠ gv := by omega
    have hS3 : (z0.setCell ⟨gv, d, none⟩ (.int .i64 (xd - 1))).cell? ⟨eb, 0, none⟩ = some (.slice (some ⟨gv, 0, none⟩) 4 vc) ∧ (z0.setCell ⟨gv, d, none⟩ (.int .i64 (xd - 1))).cell? ⟨w0.heap.size, 1, none⟩ = some (.slice (some ⟨ab, ao, none⟩) l.length aoc) ∧ (z0.setCell ⟨gv, d, none⟩ (.int .i64 (xd - 1))).cell? ⟨ab, ao + m * 8, none⟩ = some (.int .i64 (d : Int)) := ⟨(World.cell?_of_block (a := ⟨eb, 0, none⟩) (hk9 _ hge)).trans hS.1, (World.cell?_of_block (a := ⟨w0.heap.size, 1, none⟩) (hk9 _ hgw)).trans hS.2.1, (World.cell?_of_block (a := ⟨ab, _, none⟩) (hk9 _ hga)).trans hS.2.2⟩
    refine wpAnyH_ready (rs := [12]) (by kernel_rfl) (by simp) ?_
    refine AllReadyH.cons (o := { dst := none, op := .store 2 (.tmp 65) (.tmp 64), type := 0, pos := "laws.go:404", after := #[⟨11, .data⟩, ⟨10, .data⟩, ⟨0, .phase⟩, ⟨1, .phase⟩, ⟨2, .phase⟩, ⟨3, .phase⟩, ⟨4, .phase⟩, ⟨5, .phase⟩, ⟨6, .phase⟩, ⟨7, .phase⟩, ⟨8, .phase⟩, ⟨9, .phase⟩, ⟨10, .phase⟩], guard := none }) rfl (fun K hK => ?_) AllReadyH.nil
    go_simp
    refine hK.out _ _ hS3 (fun hHeld3 => ?_)
    clear hK K
    (try simp only [Act.put, List.setIfInBounds_toArray, List.set_cons_zero, List.set_cons_succ])
    refine wpAnyH_done (by kernel_rfl) ?_ _
    have hsw : (z0.setCell ⟨gv, d, none⟩ (.int .i64 (xd - 1))).heap.size = w5.heap.size := by rw [← hsz0.out]; simp [World.setCell]
    have hbz : Below w4.heap.size w5 (z0.setCell ⟨gv, d, none⟩ (.int .i64 (xd - 1))) := (gz.mono (by omega)).setCell (p := ⟨gv, d, none⟩) (by show _ ≤ gv; omega) _
    have hEz : (z0.setCell ⟨gv, d, none⟩ (.int .i64 (xd - 1))).heap[eb]? = some (.cells #[.slice (some ⟨gv, 0, none⟩) 4 vc, .slice oa m oc] 27 (0, 0)) := (hk9 _ hge).trans ((gz.block _ (by omega)).trans HEb5.out)
    have hNz : Ops (z0.setCell ⟨gv, d, none⟩ (.int .i64 (xd - 1))) w5.heap.size oa m (l.take m) := by
      have h0 := HNo5.out
      refine ⟨h0.1, fun i hi => ?_⟩
      obtain ⟨b2, o2, e2, hb2, h2⟩ := h0.ops.2 i hi
      refine ⟨b2, o2, e2, hb2, h2.kept ?_⟩
      have hb2g : b2 ≠ gv := by
        obtain ⟨g3, o3, cs3, e3, _, _, h3, _⟩ := h0.2 (by omega)
        rw [e2] at e3
        injection e3 with e3
        injection e3 with e3
        subst e3
        intro e9
        obtain ⟨cs, hcs⟩ := hgt
        rw [← e9, h3] at hcs
        injection hcs with hcs
        injection hcs with _ hcs
        exact absurd hcs (by decide)
      exact (hk9 _ hb2g).trans (gz.block _ hb2)
    clear hS hS3 gc0 gf0 hk9 hgw hga hsz0 gz
    obtain ⟨w6, hwz⟩ : ∃ z, z0.setCell ⟨gv, d, none⟩ (.int .i64 (xd - 1)) = z := ⟨_, rfl⟩
    rw [hwz] at hbz hEz hNz HV0 hsw ⊢
    clear hwz
    have hs6 : w5.heap.size ≤ w6.heap.size := Nat.le_of_eq hsw.symm
    clear hsw
    have HB6 := Lib.hid (HB5.out.trans (hbz.mono (by omega)))
    have HE6 := Lib.hid hEz
    have HN6 := Lib.hid hNz
    have HW6 := Lib.hid HV0.out.ints
    clear hbz hEz hNz HV0
    obtain ⟨c00, c01⟩ := pair_cells HE6.out
    have htl : (l.take m).length = m := by rw [List.length_take]; omega
    go_wp2_with fail
    have hc := implCartOk w6 w6.heap.size (some ⟨gv, 0, none⟩) oa 4 vc m oc (lessV xs d) (l.take m) (HW6.out.more (by omega)) (HN6.out.more (by omega)) (Nat.le_refl _) (by omega) HCo.out.1 ⟨by omega, HCo.out.2.1⟩
    rw [HCl.out] at hc
    refine hc.mono ?_
    clear hc
    rintro e w7 ⟨rfl, hb⟩
    have hs7 := hb.size
    have HE7 := Lib.hid ((hb.block _ (lt_of_row HE6.out)).trans HE6.out)
    have HN7 := Lib.hid (HN6.out.below hb (by omega))
    have HW7 := Lib.hid (HW6.out.below hb (by omega))
    have HB7 := Lib.hid (HB6.out.trans (hb.mono HB6.out.size))
    clear hb c00 c01
    obtain ⟨c00, c01⟩ := pair_cells HE7.out
    obtain ⟨n2, hn2⟩ : ∃ n, levelN (lessV xs d) (l.take m) t = n := ⟨_, rfl⟩
    have HN2 := Lib.hid hn2
    have hle : n2 ≤ n := by rw [← hn2]; exact HLe.out
    have hled : decide (n2 ≤ n) = true := decide_eq_true hle
    clear hn2
    go_wp2_with fail
    have hc := implLevel w7 w7.heap.size (some ⟨gv, 0, none⟩) oa 4 vc m oc (lessV xs d) (l.take m) t (HW7.out.more (by omega)) (HN7.out.more (by omega)) (Nat.le_refl _) (by omega) HCo.out.1 ⟨by omega, HCo.out.2.1⟩
    rw [HN2.out] at hc
    refine hc.mono ?_
    clear hc
    rintro e w8 ⟨rfl, hb⟩
    have HE2 := Lib.hid (HB7.out.trans (hb.mono HB7.out.size))
    go_wp2
    go_ret
    exact ⟨rfl, HE2.out⟩
  obtain ⟨c0, c1⟩ := pair_cells HXa4.out
  have hbz : Below w4.heap.size w4 w4.drew := ⟨rfl, rfl, rfl, Nat.le_refl _, fun _ _ => rfl⟩
  obtain ⟨z0, hz0⟩ : ∃ z0, z0 = w4.drew := ⟨_, rfl⟩
  rw [← hz0] at hbz
  have hS0 : z0.cell? ⟨w0.heap.size, 0, none⟩ = some (.slice ava 4 avc) ∧ z0.cell? ⟨w0.heap.size, 1, none⟩ = some (.slice aoa l.length aoc) := ⟨(hbz.cell (p := ⟨w0.heap.size, 0, none⟩) (lt_of_row HXa4.out)).trans c0, (hbz.cell (p := ⟨w0.heap.size, 1, none⟩) (lt_of_row HXa4.out)).trans c1⟩
  refine wp_region_held_drew (S := fun w' => w'.cell? ⟨w0.heap.size, 0, none⟩ = some (.slice ava 4 avc) ∧ w'.cell? ⟨w0.heap.size, 1, none⟩ = some (.slice aoa l.length aoc)) (by kernel_rfl) (by rw [← hz0]; exact hS0) (fun hHeld => ?_)
  rw [← hz0]
  clear hz0 hHeld
  refine wpAnyH_take (i := 1) (oi := { dst := some 44, op := .fieldAddr 27 (.tmp 3) 0, type := 0, pos := "laws.go:403", after := #[], guard := none }) (v := ?_) rfl (by kernel_rfl) (by kernel_rfl) (by kernel_rfl) (fun _ _ _ h => h) (Or.inl ⟨by rfl, ?_⟩) (by assumption) ?_
  rotate_left
  · intro w hSw
    (try dsimp only at hSw)
    first | (go_simp; done) | (go_simp; with_reducible rfl)
  (try simp only [Act.put, List.setIfInBounds_toArray, List.set_cons_zero, List.set_cons_succ])
  refine wpAnyH_take (i := 2) (oi := { dst := some 45, op := .load 24 (.tmp 44), type := 24, pos := "laws.go:403", after := #[⟨1, .data⟩], guard := none }) (v := ?_) rfl (by kernel_rfl) (by kernel_rfl) (by kernel_rfl) (fun _ _ _ h => h) (Or.inl ⟨by rfl, ?_⟩) (by assumption) ?_
  rotate_left
  · intro w hSw
    (try dsimp only at hSw)
    first | (go_simp; done) | (go_simp; with_reducible rfl)
  (try simp only [Act.put, List.setIfInBounds_toArray, List.set_cons_zero, List.set_cons_succ])
  refine wpAnyH_take (i := 5) (oi := { dst := some 48, op := .fieldAddr 27 (.tmp 3) 1, type := 0, pos := "laws.go:403", after := #[], guard := none }) (v := ?_) rfl (by kernel_rfl) (by kernel_rfl) (by kernel_rfl) (fun _ _ _ h => h) (Or.inl ⟨by rfl, ?_⟩) (by assumption) ?_
  rotate_left
  · intro w hSw
    (try dsimp only at hSw)
    first | (go_simp; done) | (go_simp; with_reducible rfl)
  (try simp only [Act.put, List.setIfInBounds_toArray, List.set_cons_zero, List.set_cons_succ])
  refine wpAnyH_take (i := 6) (oi := { dst := some 49, op := .load 25 (.tmp 48), type := 25, pos := "laws.go:403", after := #[⟨5, .data⟩], guard := none }) (v := ?_) rfl (by kernel_rfl) (by kernel_rfl) (by kernel_rfl) (fun _ _ _ h => h) (Or.inl ⟨by rfl, ?_⟩) (by assumption) ?_
  rotate_left
  · intro w hSw
    (try dsimp only at hSw)
    first | (go_simp; done) | (go_simp; with_reducible rfl)
  (try simp only [Act.put, List.setIfInBounds_toArray, List.set_cons_zero, List.set_cons_succ])
  refine wpAnyH_take (i := 7) (oi := { dst := some 50, op := .move (.tmp 6), type := 3, pos := "laws.go:403", after := #[], guard := none }) (v := ?_) rfl (by kernel_rfl) (by kernel_rfl) (by kernel_rfl) (fun _ _ _ h => h) (Or.inl ⟨by rfl, ?_⟩) (by assumption) ?_
  rotate_left
  · intro w hSw
    (try dsimp only at hSw)
    first | (go_simp; done) | (go_simp; with_reducible rfl)
  (try simp only [Act.put, List.setIfInBounds_toArray, List.set_cons_zero, List.set_cons_succ])
  refine wpAnyH_take (i := 8) (oi := { dst := some 51, op := .slice 25 (.tmp 49) none (some (.tmp 50)) none, type := 25, pos := "laws.go:403", after := #[⟨6, .data⟩, ⟨7, .data⟩], guard := none }) (v := ?_) rfl (by kernel_rfl) (by kernel_rfl) (by kernel_rfl) (fun _ _ _ h => h) (Or.inl ⟨by rfl, ?_⟩) (by assumption) ?_
  rotate_left
  · intro w hSw
    (try dsimp only at hSw)
    first | (go_simp; done) | (go_simp; with_reducible rfl)
  (try simp only [Act.put, List.setIfInBounds_toArray, List.set_cons_zero, List.set_cons_succ])
  refine wpAnyH_ready (rs := [0, 4, 11]) (by kernel_rfl) (by simp) ?_
  refine AllReadyH.cons (o := { dst := some 43, op := .buildSlice 24 0 #[], type := 24, pos := "laws.go:403", after := #[], guard := none }) rfl (fun K hK => ?_) ?_
  · skip
    have hb1 : Below w4.heap.size w4 (z0.alloc (.cells #[] 2)) := hbz.alloc hbz.size _
    have hV1 : (z0.alloc (.cells #[] 2)).ownsRow w4.heap.size 2 1 (.slice (some ⟨z0.heap.size, 0, none⟩) 0 0) 0 (([] : List Int).map (Value.int .i64)) := World.ownsRow_made z0 #[] 0 hbz.size (by unfold maxLen; omega) rfl
    go_simp
    refine hK.out _ _ ⟨(hb1.cell (p := ⟨w0.heap.size, 0, none⟩) (lt_of_row HXa4.out)).trans c0, (hb1.cell (p := ⟨w0.heap.size, 1, none⟩) (lt_of_row HXa4.out)).trans c1⟩ (fun hHeld1 => ?_)
    clear hK K
    (try simp only [Act.put, List.setIfInBounds_toArray, List.set_cons_zero, List.set_cons_succ])
    generalize z0.alloc (.cells #[] 2) = z1 at hHeld1 hb1 hV1 ⊢
    refine wpAnyH_ready (rs := [3, 4, 11]) (by kernel_rfl) (by simp) ?_
    refine AllReadyH.cons (o := { dst := some 46, op := .call { callee := .builtin .append, args := #[.tmp 43, .tmp 45], argTypes := #[24, 24] }, type := 24, pos := "laws.go:403", after := #[⟨0, .data⟩, ⟨2, .data⟩], guard := none }) rfl (fun K hK => ?_) ?_
    · skip
      obtain ⟨vA2, z2, hrun, hW, hgr⟩ := appInts z1 w4.heap.size _ 0 [] hV1 _ ava 4 avc xs (HVA4.out.below hb1 (by omega)) HCv.out.2.2 (by omega) hb1.size
      have hV2 : z2.ownsRow w4.heap.size 2 1 vA2 4 (xs.map (Value.int .i64)) := by simpa using hW
      obtain ⟨va, vc, rfl, hca⟩ := row_formA hV2
      have hb2 := hb1.grown hgr hb1.size (fun j hj => (hV1.lt j hj).1)
      rw [if_pos (by rfl)]
      refine opwpApp _ _ _ rfl _ _ rfl rfl hrun ?_
      refine hK.out _ _ ⟨(hb2.cell (p := ⟨w0.heap.size, 0, none⟩) (lt_of_row HXa4.out)).trans c0, (hb2.cell (p := ⟨w0.heap.size, 1, none⟩) (lt_of_row HXa4.out)).trans c1⟩ (fun hHeld2 => ?_)
      clear hK K hrun hW hgr
      (try simp only [Act.put, List.setIfInBounds_toArray, List.set_cons_zero, List.set_cons_succ])
      refine wpAnyH_ready (rs := [4, 11]) (by kernel_rfl) (by simp) ?_
      refine AllReadyH.cons (o := { dst := some 47, op := .buildSlice 25 0 #[], type := 25, pos := "laws.go:403", after := #[], guard := none }) rfl (fun K hK => ?_) ?_
      · skip
        have hb3 : Below w4.heap.size w4 (z2.alloc (.cells #[] 34)) := hb2.alloc hb2.size _
        have hV3 := hV2.alloc (.cells #[] 34)
        have hO3 : (z2.alloc (.cells #[] 34)).ownsRow w4.heap.size 34 8 (.slice (some ⟨z2.heap.size, 0, none⟩) 0 0) 0 (opCells []) := World.ownsRow_made z2 #[] 0 hb2.size (by unfold maxLen; omega) rfl
        go_simp
        refine hK.out _ _ ⟨(hb3.cell (p := ⟨w0.heap.size, 0, none⟩) (lt_of_row HXa4.out)).trans c0, (hb3.cell (p := ⟨w0.heap.size, 1, none⟩) (lt_of_row HXa4.out)).trans c1⟩ (fun hHeld3 => ?_)
        clear hK K
        (try simp only [Act.put, List.setIfInBounds_toArray, List.set_cons_zero, List.set_cons_succ])
        generalize z2.alloc (.cells #[] 34) = z3 at hHeld3 hb3 hV3 hO3 ⊢
        refine wpAnyH_ready (rs := [9, 11]) (by kernel_rfl) (by simp) ?_
        refine AllReadyH.cons (o := { dst := some 52, op := .call { callee := .builtin .append, args := #[.tmp 47, .tmp 51], argTypes := #[25, 25] }, type := 25, pos := "laws.go:403", after := #[⟨4, .data⟩, ⟨8, .data⟩, ⟨3, .chain⟩], guard := none }) rfl (fun K hK => ?_) ?_
        · skip
          obtain ⟨vA4, z4, hrun, hW, hgr⟩ := appOps z3 w4.heap.size _ 0 [] hO3 _ aoa m aoc (l.take m) (ops_take (HOA4.out.below hb3 (by omega)) (by omega)) HCa.out.2.2 (by omega) hb3.size
          have hO4 : z4.ownsRow w4.heap.size 34 8 vA4 m (opCells (l.take m)) := by simpa using hW
          obtain ⟨oa, oc, rfl, hco⟩ := row_formA hO4
          have hV4 := hV3.kept hgr (row_ne hV3 hO3 (by decide))
          have hb4 := hb3.grown hgr hb3.size (fun j hj => (hO3.lt j hj).1)
          rw [if_pos (by rfl)]
          refine opwpApp _ _ _ rfl _ _ rfl rfl hrun ?_
          refine hK.out _ _ ⟨(hb4.cell (p := ⟨w0.heap.size, 0, none⟩) (lt_of_row HXa4.out)).trans c0, (hb4.cell (p := ⟨w0.heap.size, 1, none⟩) (lt_of_row HXa4.out)).trans c1⟩ (fun hHeld4 => ?_)
          clear hK K hrun hW hgr
          (try simp only [Act.put, List.setIfInBounds_toArray, List.set_cons_zero, List.set_cons_succ])
          refine wpAnyH_take (i := 10) (oi := { dst := some 53, op := .build 27 #[(0, .tmp 46), (1, .tmp 52)], type := 27, pos := "laws.go:403", after := #[⟨3, .data⟩, ⟨9, .data⟩], guard := none }) (v := ?_) rfl (by kernel_rfl) (by kernel_rfl) (by kernel_rfl) (fun _ _ _ h => h) (Or.inl ⟨by rfl, ?_⟩) (by assumption) ?_
          rotate_left
          · intro w hSw
            (try dsimp only at hSw)
            first | (go_simp; done) | (go_simp; with_reducible rfl)
          (try simp only [Act.put, List.setIfInBounds_toArray, List.set_cons_zero, List.set_cons_succ])
          refine wpAnyH_ready (rs := [11]) (by kernel_rfl) (by simp) ?_
          refine AllReadyH.cons (o := { dst := some 7, op := .alloc 27, type := 0, pos := "laws.go:403", after := #[], guard := none }) rfl (fun K hK => ?_) AllReadyH.nil
          have hb5 : Below w4.heap.size w4 (z4.alloc (.cells #[.slice none 0 0, .slice none 0 0] 27)) := hb4.alloc hb4.size _
          have hV5 := hV4.alloc (.cells #[.slice none 0 0, .slice none 0 0] 27)
          have hO5 := hO4.alloc (.cells #[.slice none 0 0, .slice none 0 0] 27)
          have hX5 := boxAt (Below.refl _ (z4.alloc (.cells #[.slice none 0 0, .slice none 0 0] 27)))
          have hG5 := hb4.size
          go_simp
          refine hK.out _ _ ⟨(hb5.cell (p := ⟨w0.heap.size, 0, none⟩) (lt_of_row HXa4.out)).trans c0, (hb5.cell (p := ⟨w0.heap.size, 1, none⟩) (lt_of_row HXa4.out)).trans c1⟩ (fun hHeld5 => ?_)
          clear hK K
          (try simp only [Act.put, List.setIfInBounds_toArray, List.set_cons_zero, List.set_cons_succ])
          generalize z4.alloc (.cells #[.slice none 0 0, .slice none 0 0] 27) = z5 at hHeld5 hb5 hV5 hO5 hX5 ⊢
          obtain ⟨r0, r1⟩ := pair_cells hX5
          obtain ⟨f0, f1⟩ := pair_frozen hX5
          have hgE := hG5
          have hbr : Below w4.heap.size w4 ((z5.setCell ⟨z4.heap.size, 0, none⟩ (.slice va 4 vc)).setCell ⟨z4.heap.size, 1, none⟩ (.slice oa m oc)) := (hb5.setCell (p := ⟨z4.heap.size, 0, none⟩) hgE _).setCell (p := ⟨z4.heap.size, 1, none⟩) hgE _
          have hgw : z5.grownBy ((z5.setCell ⟨z4.heap.size, 0, none⟩ (.slice va 4 vc)).setCell ⟨z4.heap.size, 1, none⟩ (.slice oa m oc)) (some (z4.heap.size)) := ⟨rfl, rfl, rfl, Nat.le_of_eq (pair_size _ _ _ _).symm, fun j _ hne => pair_other _ _ (fun e => hne (by rw [e]))⟩
          have hVf := hV5.kept hgw (row_not hV5 hX5 (by decide))
          have hOf := hO5.kept hgw (row_not hO5 hX5 (by decide))
          have hXf := pair_set (.slice va 4 vc) (.slice oa m oc) hX5
          have hlf := lt_of_row hXf
          refine wpAnyH_ready (rs := [12]) (by kernel_rfl) (by simp) ?_
          refine AllReadyH.cons (o := { dst := none, op := .store 27 (.tmp 7) (.tmp 53), type := 0, pos := "laws.go:403", after := #[⟨11, .data⟩, ⟨10, .data⟩, ⟨9, .chain⟩, ⟨0, .phase⟩, ⟨1, .phase⟩, ⟨2, .phase⟩, ⟨3, .phase⟩, ⟨4, .phase⟩, ⟨5, .phase⟩, ⟨6, .phase⟩, ⟨7, .phase⟩, ⟨8, .phase⟩, ⟨9, .phase⟩, ⟨10, .phase⟩, ⟨11, .phase⟩], guard := none }) rfl (fun K hK => ?_) AllReadyH.nil
          go_simp
          refine hK.out _ _ ⟨(hbr.cell (p := ⟨w0.heap.size, 0, none⟩) (lt_of_row HXa4.out)).trans c0, (hbr.cell (p := ⟨w0.heap.size, 1, none⟩) (lt_of_row HXa4.out)).trans c1⟩ (fun hHeldF => ?_)
          clear hK K r0 r1 f0 f1
          (try simp only [Act.put, List.setIfInBounds_toArray, List.set_cons_zero, List.set_cons_succ])
          refine wpAnyH_done (by kernel_rfl) ?_ _
          exact hKall z4.heap.size _ _ _ _ _ _ _ _ _ _ _ _ _ _ _ _ _ _ _ _ _ _ _ _ _ _ _ _ _ _ _ _ _ _ _ _ _ _ _ _ _ _ _ _ _ _ _ _ _ _ _ _ _ _ _ _ _ _ _ _ _ _ _ _ _ _ _ _ _ _ _ _ hgE hlf hbr hXf (own_of_row hVf (Nat.le_refl _)) (own_of_cells hOf (Nat.le_refl _)) hco
        refine AllReadyH.cons (o := { dst := some 7, op := .alloc 27, type := 0, pos := "laws.go:403", after := #[], guard := none }) rfl (fun K hK => ?_) AllReadyH.nil
        have hb6 : Below w4.heap.size w4 (z3.alloc (.cells #[.slice none 0 0, .slice none 0 0] 27)) := hb3.alloc hb3.size _
        have hV6 := hV3.alloc (.cells #[.slice none 0 0, .slice none 0 0] 27)
        have hO6 := hO3.alloc (.cells #[.slice none 0 0, .slice none 0 0] 27)
        have hX6 := boxAt (Below.refl _ (z3.alloc (.cells #[.slice none 0 0, .slice none 0 0] 27)))
        have hG6 := hb3.size
        go_simp
        refine hK.out _ _ ⟨(hb6.cell (p := ⟨w0.heap.size, 0, none⟩) (lt_of_row HXa4.out)).trans c0, (hb6.cell (p := ⟨w0.heap.size, 1, none⟩) (lt_of_row HXa4.out)).trans c1⟩ (fun hHeld6 => ?_)
        clear hK K
        (try simp only [Act.put, List.setIfInBounds_toArray, List.set_cons_zero, List.set_cons_succ])
        generalize z3.alloc (.cells #[.slice none 0 0, .slice none 0 0] 27) = z6 at hHeld6 hb6 hV6 hO6 hX6 ⊢
        refine wpAnyH_ready (rs := [9]) (by kernel_rfl) (by simp) ?_
        refine AllReadyH.cons (o := { dst := some 52, op := .call { callee := .builtin .append, args := #[.tmp 47, .tmp 51], argTypes := #[25, 25] }, type := 25, pos := "laws.go:403", after := #[⟨4, .data⟩, ⟨8, .data⟩, ⟨3, .chain⟩], guard := none }) rfl (fun K hK => ?_) AllReadyH.nil
        obtain ⟨vA7, z7, hrun, hW, hgr⟩ := appOps z6 w4.heap.size _ 0 [] hO6 _ aoa m aoc (l.take m) (ops_take (HOA4.out.below hb6 (by omega)) (by omega)) HCa.out.2.2 (by omega) hb6.size
        have hO7 : z7.ownsRow w4.heap.size 34 8 vA7 m (opCells (l.take m)) := by simpa using hW
        obtain ⟨oa, oc, rfl, hco⟩ := row_formA hO7
        have hV7 := hV6.kept hgr (row_ne hV6 hO6 (by decide))
        have hX7 := row_box hO6 hX6 (by decide) hgr
        have hb7 := hb6.grown hgr hb6.size (fun j hj => (hO6.lt j hj).1)
        rw [if_pos (by rfl)]
        refine opwpApp _ _ _ rfl _ _ rfl rfl hrun ?_
        refine hK.out _ _ ⟨(hb7.cell (p := ⟨w0.heap.size, 0, none⟩) (lt_of_row HXa4.out)).trans c0, (hb7.cell (p := ⟨w0.heap.size, 1, none⟩) (lt_of_row HXa4.out)).trans c1⟩ (fun hHeld7 => ?_)
        clear hK K hrun hW hgr
        (try simp only [Act.put, List.setIfInBounds_toArray, List.set_cons_zero, List.set_cons_succ])
        refine wpAnyH_take (i := 10) (oi := { dst := some 53, op := .build 27 #[(0, .tmp 46), (1, .tmp 52)], type := 27, pos := "laws.go:403", after := #[⟨3, .data⟩, ⟨9, .data⟩], guard := none }) (v := ?_) rfl (by kernel_rfl) (by kernel_rfl) (by kernel_rfl) (fun _ _ _ h => h) (Or.inl ⟨by rfl, ?_⟩) (by assumption) ?_
        rotate_left
        · intro w hSw
          (try dsimp only at hSw)
          first | (go_simp; done) | (go_simp; with_reducible rfl)
        (try simp only [Act.put, List.setIfInBounds_toArray, List.set_cons_zero, List.set_cons_succ])
        obtain ⟨r0, r1⟩ := pair_cells hX7
        obtain ⟨f0, f1⟩ := pair_frozen hX7
        have hgE := hG6
        have hbr : Below w4.heap.size w4 ((z7.setCell ⟨z3.heap.size, 0, none⟩ (.slice va 4 vc)).setCell ⟨z3.heap.size, 1, none⟩ (.slice oa m oc)) := (hb7.setCell (p := ⟨z3.heap.size, 0, none⟩) hgE _).setCell (p := ⟨z3.heap.size, 1, none⟩) hgE _
        have hgw : z7.grownBy ((z7.setCell ⟨z3.heap.size, 0, none⟩ (.slice va 4 vc)).setCell ⟨z3.heap.size, 1, none⟩ (.slice oa m oc)) (some (z3.heap.size)) := ⟨rfl, rfl, rfl, Nat.le_of_eq (pair_size _ _ _ _).symm, fun j _ hne => pair_other _ _ (fun e => hne (by rw [e]))⟩
        have hVf := hV7.kept hgw (row_not hV7 hX7 (by decide))
        have hOf := hO7.kept hgw (row_not hO7 hX7 (by decide))
        have hXf := pair_set (.slice va 4 vc) (.slice oa m oc) hX7
        have hlf := lt_of_row hXf
        refine wpAnyH_ready (rs := [12]) (by kernel_rfl) (by simp) ?_
        refine AllReadyH.cons (o := { dst := none, op := .store 27 (.tmp 7) (.tmp 53), type := 0, pos := "laws.go:403", after := #[⟨11, .data⟩, ⟨10, .data⟩, ⟨9, .chain⟩, ⟨0, .phase⟩, ⟨1, .phase⟩, ⟨2, .phase⟩, ⟨3, .phase⟩, ⟨4, .phase⟩, ⟨5, .phase⟩, ⟨6, .phase⟩, ⟨7, .phase⟩, ⟨8, .phase⟩, ⟨9, .phase⟩, ⟨10, .phase⟩, ⟨11, .phase⟩], guard := none }) rfl (fun K hK => ?_) AllReadyH.nil
        go_simp
        refine hK.out _ _ ⟨(hbr.cell (p := ⟨w0.heap.size, 0, none⟩) (lt_of_row HXa4.out)).trans c0, (hbr.cell (p := ⟨w0.heap.size, 1, none⟩) (lt_of_row HXa4.out)).trans c1⟩ (fun hHeldF => ?_)
        clear hK K r0 r1 f0 f1
        (try simp only [Act.put, List.setIfInBounds_toArray, List.set_cons_zero, List.set_cons_succ])
        refine wpAnyH_done (by kernel_rfl) ?_ _
        exact hKall z3.heap.size _ _ _ _ _ _ _ _ _ _ _ _ _ _ _ _ _ _ _ _ _ _ _ _ _ _ _ _ _ _ _ _ _ _ _ _ _ _ _ _ _ _ _ _ _ _ _ _ _ _ _ _ _ _ _ _ _ _ _ _ _ _ _ _ _ _ _ _ _ _ _ _ hgE hlf hbr hXf (own_of_row hVf (Nat.le_refl _)) (own_of_cells hOf (Nat.le_refl _)) hco
      refine AllReadyH.cons (o := { dst := some 7, op := .alloc 27, type := 0, pos := "laws.go:403", after := #[], guard := none }) rfl (fun K hK => ?_) AllReadyH.nil
      have hb8 : Below w4.heap.size w4 (z2.alloc (.cells #[.slice none 0 0, .slice none 0 0] 27)) := hb2.alloc hb2.size _
      have hV8 := hV2.alloc (.cells #[.slice none 0 0, .slice none 0 0] 27)
      have hX8 := boxAt (Below.refl _ (z2.alloc (.cells #[.slice none 0 0, .slice none 0 0] 27)))
      have hG8 := hb2.size
      go_simp
      refine hK.out _ _ ⟨(hb8.cell (p := ⟨w0.heap.size, 0, none⟩) (lt_of_row HXa4.out)).trans c0, (hb8.cell (p := ⟨w0.heap.size, 1, none⟩) (lt_of_row HXa4.out)).trans c1⟩ (fun hHeld8 => ?_)
      clear hK K
      (try simp only [Act.put, List.setIfInBounds_toArray, List.set_cons_zero, List.set_cons_succ])
      generalize z2.alloc (.cells #[.slice none 0 0, .slice none 0 0] 27) = z8 at hHeld8 hb8 hV8 hX8 ⊢
      refine wpAnyH_ready (rs := [4]) (by kernel_rfl) (by simp) ?_
      refine AllReadyH.cons (o := { dst := some 47, op := .buildSlice 25 0 #[], type := 25, pos := "laws.go:403", after := #[], guard := none }) rfl (fun K hK => ?_) AllReadyH.nil
      have hb9 : Below w4.heap.size w4 (z8.alloc (.cells #[] 34)) := hb8.alloc hb8.size _
      have hV9 := hV8.alloc (.cells #[] 34)
      have hO9 : (z8.alloc (.cells #[] 34)).ownsRow w4.heap.size 34 8 (.slice (some ⟨z8.heap.size, 0, none⟩) 0 0) 0 (opCells []) := World.ownsRow_made z8 #[] 0 hb8.size (by unfold maxLen; omega) rfl
      have hX9 := (Below.heap_alloc z8 (.cells #[] 34) _ (lt_of_row hX8)).trans hX8
      go_simp
      refine hK.out _ _ ⟨(hb9.cell (p := ⟨w0.heap.size, 0, none⟩) (lt_of_row HXa4.out)).trans c0, (hb9.cell (p := ⟨w0.heap.size, 1, none⟩) (lt_of_row HXa4.out)).trans c1⟩ (fun hHeld9 => ?_)
      clear hK K
      (try simp only [Act.put, List.setIfInBounds_toArray, List.set_cons_zero, List.set_cons_succ])
      generalize z8.alloc (.cells #[] 34) = z9 at hHeld9 hb9 hV9 hO9 hX9 ⊢
      refine wpAnyH_ready (rs := [9]) (by kernel_rfl) (by simp) ?_
      refine AllReadyH.cons (o := { dst := some 52, op := .call { callee := .builtin .append, args := #[.tmp 47, .tmp 51], argTypes := #[25, 25] }, type := 25, pos := "laws.go:403", after := #[⟨4, .data⟩, ⟨8, .data⟩, ⟨3, .chain⟩], guard := none }) rfl (fun K hK => ?_) AllReadyH.nil
      obtain ⟨vA10, z10, hrun, hW, hgr⟩ := appOps z9 w4.heap.size _ 0 [] hO9 _ aoa m aoc (l.take m) (ops_take (HOA4.out.below hb9 (by omega)) (by omega)) HCa.out.2.2 (by omega) hb9.size
      have hO10 : z10.ownsRow w4.heap.size 34 8 vA10 m (opCells (l.take m)) := by simpa using hW
      obtain ⟨oa, oc, rfl, hco⟩ := row_formA hO10
      have hV10 := hV9.kept hgr (row_ne hV9 hO9 (by decide))
      have hX10 := row_box hO9 hX9 (by decide) hgr
      have hb10 := hb9.grown hgr hb9.size (fun j hj => (hO9.lt j hj).1)
      rw [if_pos (by rfl)]
      refine opwpApp _ _ _ rfl _ _ rfl rfl hrun ?_
      refine hK.out _ _ ⟨(hb10.cell (p := ⟨w0.heap.size, 0, none⟩) (lt_of_row HXa4.out)).trans c0, (hb10.cell (p := ⟨w0.heap.size, 1, none⟩) (lt_of_row HXa4.out)).trans c1⟩ (fun hHeld10 => ?_)
      clear hK K hrun hW hgr
      (try simp only [Act.put, List.setIfInBounds_toArray, List.set_cons_zero, List.set_cons_succ])
      refine wpAnyH_take (i := 10) (oi := { dst := some 53, op := .build 27 #[(0, .tmp 46), (1, .tmp 52)], type := 27, pos := "laws.go:403", after := #[⟨3, .data⟩, ⟨9, .data⟩], guard := none }) (v := ?_) rfl (by kernel_rfl) (by kernel_rfl) (by kernel_rfl) (fun _ _ _ h => h) (Or.inl ⟨by rfl, ?_⟩) (by assumption) ?_
      rotate_left
      · intro w hSw
        (try dsimp only at hSw)
        first | (go_simp; done) | (go_simp; with_reducible rfl)
      (try simp only [Act.put, List.setIfInBounds_toArray, List.set_cons_zero, List.set_cons_succ])
      obtain ⟨r0, r1⟩ := pair_cells hX10
      obtain ⟨f0, f1⟩ := pair_frozen hX10
      have hgE := hG8
      have hbr : Below w4.heap.size w4 ((z10.setCell ⟨z2.heap.size, 0, none⟩ (.slice va 4 vc)).setCell ⟨z2.heap.size, 1, none⟩ (.slice oa m oc)) := (hb10.setCell (p := ⟨z2.heap.size, 0, none⟩) hgE _).setCell (p := ⟨z2.heap.size, 1, none⟩) hgE _
      have hgw : z10.grownBy ((z10.setCell ⟨z2.heap.size, 0, none⟩ (.slice va 4 vc)).setCell ⟨z2.heap.size, 1, none⟩ (.slice oa m oc)) (some (z2.heap.size)) := ⟨rfl, rfl, rfl, Nat.le_of_eq (pair_size _ _ _ _).symm, fun j _ hne => pair_other _ _ (fun e => hne (by rw [e]))⟩
      have hVf := hV10.kept hgw (row_not hV10 hX10 (by decide))
      have hOf := hO10.kept hgw (row_not hO10 hX10 (by decide))
      have hXf := pair_set (.slice va 4 vc) (.slice oa m oc) hX10
      have hlf := lt_of_row hXf
      refine wpAnyH_ready (rs := [12]) (by kernel_rfl) (by simp) ?_
      refine AllReadyH.cons (o := { dst := none, op := .store 27 (.tmp 7) (.tmp 53), type := 0, pos := "laws.go:403", after := #[⟨11, .data⟩, ⟨10, .data⟩, ⟨9, .chain⟩, ⟨0, .phase⟩, ⟨1, .phase⟩, ⟨2, .phase⟩, ⟨3, .phase⟩, ⟨4, .phase⟩, ⟨5, .phase⟩, ⟨6, .phase⟩, ⟨7, .phase⟩, ⟨8, .phase⟩, ⟨9, .phase⟩, ⟨10, .phase⟩, ⟨11, .phase⟩], guard := none }) rfl (fun K hK => ?_) AllReadyH.nil
      go_simp
      refine hK.out _ _ ⟨(hbr.cell (p := ⟨w0.heap.size, 0, none⟩) (lt_of_row HXa4.out)).trans c0, (hbr.cell (p := ⟨w0.heap.size, 1, none⟩) (lt_of_row HXa4.out)).trans c1⟩ (fun hHeldF => ?_)
      clear hK K r0 r1 f0 f1
      (try simp only [Act.put, List.setIfInBounds_toArray, List.set_cons_zero, List.set_cons_succ])
      refine wpAnyH_done (by kernel_rfl) ?_ _
      exact hKall z2.heap.size _ _ _ _ _ _ _ _ _ _ _ _ _ _ _ _ _ _ _ _ _ _ _ _ _ _ _ _ _ _ _ _ _ _ _ _ _ _ _ _ _ _ _ _ _ _ _ _ _ _ _ _ _ _ _ _ _ _ _ _ _ _ _ _ _ _ _ _ _ _ _ _ hgE hlf hbr hXf (own_of_row hVf (Nat.le_refl _)) (own_of_cells hOf (Nat.le_refl _)) hco
    refine AllReadyH.cons (o := { dst := some 47, op := .buildSlice 25 0 #[], type := 25, pos := "laws.go:403", after := #[], guard := none }) rfl (fun K hK => ?_) ?_
    · skip
      have hb11 : Below w4.heap.size w4 (z1.alloc (.cells #[] 34)) := hb1.alloc hb1.size _
      have hV11 := hV1.alloc (.cells #[] 34)
      have hO11 : (z1.alloc (.cells #[] 34)).ownsRow w4.heap.size 34 8 (.slice (some ⟨z1.heap.size, 0, none⟩) 0 0) 0 (opCells []) := World.ownsRow_made z1 #[] 0 hb1.size (by unfold maxLen; omega) rfl
      go_simp
      refine hK.out _ _ ⟨(hb11.cell (p := ⟨w0.heap.size, 0, none⟩) (lt_of_row HXa4.out)).trans c0, (hb11.cell (p := ⟨w0.heap.size, 1, none⟩) (lt_of_row HXa4.out)).trans c1⟩ (fun hHeld11 => ?_)
      clear hK K
      (try simp only [Act.put, List.setIfInBounds_toArray, List.set_cons_zero, List.set_cons_succ])
      generalize z1.alloc (.cells #[] 34) = z11 at hHeld11 hb11 hV11 hO11 ⊢
      refine wpAnyH_ready (rs := [3, 11]) (by kernel_rfl) (by simp) ?_
      refine AllReadyH.cons (o := { dst := some 46, op := .call { callee := .builtin .append, args := #[.tmp 43, .tmp 45], argTypes := #[24, 24] }, type := 24, pos := "laws.go:403", after := #[⟨0, .data⟩, ⟨2, .data⟩], guard := none }) rfl (fun K hK => ?_) ?_
      · skip
        obtain ⟨vA12, z12, hrun, hW, hgr⟩ := appInts z11 w4.heap.size _ 0 [] hV11 _ ava 4 avc xs (HVA4.out.below hb11 (by omega)) HCv.out.2.2 (by omega) hb11.size
        have hV12 : z12.ownsRow w4.heap.size 2 1 vA12 4 (xs.map (Value.int .i64)) := by simpa using hW
        obtain ⟨va, vc, rfl, hca⟩ := row_formA hV12
        have hO12 := hO11.kept hgr (row_ne hO11 hV11 (by decide))
        have hb12 := hb11.grown hgr hb11.size (fun j hj => (hV11.lt j hj).1)
        rw [if_pos (by rfl)]
        refine opwpApp _ _ _ rfl _ _ rfl rfl hrun ?_
        refine hK.out _ _ ⟨(hb12.cell (p := ⟨w0.heap.size, 0, none⟩) (lt_of_row HXa4.out)).trans c0, (hb12.cell (p := ⟨w0.heap.size, 1, none⟩) (lt_of_row HXa4.out)).trans c1⟩ (fun hHeld12 => ?_)
        clear hK K hrun hW hgr
        (try simp only [Act.put, List.setIfInBounds_toArray, List.set_cons_zero, List.set_cons_succ])
        refine wpAnyH_ready (rs := [9, 11]) (by kernel_rfl) (by simp) ?_
        refine AllReadyH.cons (o := { dst := some 52, op := .call { callee := .builtin .append, args := #[.tmp 47, .tmp 51], argTypes := #[25, 25] }, type := 25, pos := "laws.go:403", after := #[⟨4, .data⟩, ⟨8, .data⟩, ⟨3, .chain⟩], guard := none }) rfl (fun K hK => ?_) ?_
        · skip
          obtain ⟨vA13, z13, hrun, hW, hgr⟩ := appOps z12 w4.heap.size _ 0 [] hO12 _ aoa m aoc (l.take m) (ops_take (HOA4.out.below hb12 (by omega)) (by omega)) HCa.out.2.2 (by omega) hb12.size
          have hO13 : z13.ownsRow w4.heap.size 34 8 vA13 m (opCells (l.take m)) := by simpa using hW
          obtain ⟨oa, oc, rfl, hco⟩ := row_formA hO13
          have hV13 := hV12.kept hgr (row_ne hV12 hO12 (by decide))
          have hb13 := hb12.grown hgr hb12.size (fun j hj => (hO12.lt j hj).1)
          rw [if_pos (by rfl)]
          refine opwpApp _ _ _ rfl _ _ rfl rfl hrun ?_
          refine hK.out _ _ ⟨(hb13.cell (p := ⟨w0.heap.size, 0, none⟩) (lt_of_row HXa4.out)).trans c0, (hb13.cell (p := ⟨w0.heap.size, 1, none⟩) (lt_of_row HXa4.out)).trans c1⟩ (fun hHeld13 => ?_)
          clear hK K hrun hW hgr
          (try simp only [Act.put, List.setIfInBounds_toArray, List.set_cons_zero, List.set_cons_succ])
          refine wpAnyH_take (i := 10) (oi := { dst := some 53, op := .build 27 #[(0, .tmp 46), (1, .tmp 52)], type := 27, pos := "laws.go:403", after := #[⟨3, .data⟩, ⟨9, .data⟩], guard := none }) (v := ?_) rfl (by kernel_rfl) (by kernel_rfl) (by kernel_rfl) (fun _ _ _ h => h) (Or.inl ⟨by rfl, ?_⟩) (by assumption) ?_
          rotate_left
          · intro w hSw
            (try dsimp only at hSw)
            first | (go_simp; done) | (go_simp; with_reducible rfl)
          (try simp only [Act.put, List.setIfInBounds_toArray, List.set_cons_zero, List.set_cons_succ])
          refine wpAnyH_ready (rs := [11]) (by kernel_rfl) (by simp) ?_
          refine AllReadyH.cons (o := { dst := some 7, op := .alloc 27, type := 0, pos := "laws.go:403", after := #[], guard := none }) rfl (fun K hK => ?_) AllReadyH.nil
          have hb14 : Below w4.heap.size w4 (z13.alloc (.cells #[.slice none 0 0, .slice none 0 0] 27)) := hb13.alloc hb13.size _
          have hV14 := hV13.alloc (.cells #[.slice none 0 0, .slice none 0 0] 27)
          have hO14 := hO13.alloc (.cells #[.slice none 0 0, .slice none 0 0] 27)
          have hX14 := boxAt (Below.refl _ (z13.alloc (.cells #[.slice none 0 0, .slice none 0 0] 27)))
          have hG14 := hb13.size
          go_simp
          refine hK.out _ _ ⟨(hb14.cell (p := ⟨w0.heap.size, 0, none⟩) (lt_of_row HXa4.out)).trans c0, (hb14.cell (p := ⟨w0.heap.size, 1, none⟩) (lt_of_row HXa4.out)).trans c1⟩ (fun hHeld14 => ?_)
          clear hK K
          (try simp only [Act.put, List.setIfInBounds_toArray, List.set_cons_zero, List.set_cons_succ])
          generalize z13.alloc (.cells #[.slice none 0 0, .slice none 0 0] 27) = z14 at hHeld14 hb14 hV14 hO14 hX14 ⊢
          obtain ⟨r0, r1⟩ := pair_cells hX14
          obtain ⟨f0, f1⟩ := pair_frozen hX14
          have hgE := hG14
          have hbr : Below w4.heap.size w4 ((z14.setCell ⟨z13.heap.size, 0, none⟩ (.slice va 4 vc)).setCell ⟨z13.heap.size, 1, none⟩ (.slice oa m oc)) := (hb14.setCell (p := ⟨z13.heap.size, 0, none⟩) hgE _).setCell (p := ⟨z13.heap.size, 1, none⟩) hgE _
          have hgw : z14.grownBy ((z14.setCell ⟨z13.heap.size, 0, none⟩ (.slice va 4 vc)).setCell ⟨z13.heap.size, 1, none⟩ (.slice oa m oc)) (some (z13.heap.size)) := ⟨rfl, rfl, rfl, Nat.le_of_eq (pair_size _ _ _ _).symm, fun j _ hne => pair_other _ _ (fun e => hne (by rw [e]))⟩
          have hVf := hV14.kept hgw (row_not hV14 hX14 (by decide))
          have hOf := hO14.kept hgw (row_not hO14 hX14 (by decide))
          have hXf := pair_set (.slice va 4 vc) (.slice oa m oc) hX14
          have hlf := lt_of_row hXf
          refine wpAnyH_ready (rs := [12]) (by kernel_rfl) (by simp) ?_
          refine AllReadyH.cons (o := { dst := none, op := .store 27 (.tmp 7) (.tmp 53), type := 0, pos := "laws.go:403", after := #[⟨11, .data⟩, ⟨10, .data⟩, ⟨9, .chain⟩, ⟨0, .phase⟩, ⟨1, .phase⟩, ⟨2, .phase⟩, ⟨3, .phase⟩, ⟨4, .phase⟩, ⟨5, .phase⟩, ⟨6, .phase⟩, ⟨7, .phase⟩, ⟨8, .phase⟩, ⟨9, .phase⟩, ⟨10, .phase⟩, ⟨11, .phase⟩], guard := none }) rfl (fun K hK => ?_) AllReadyH.nil
          go_simp
          refine hK.out _ _ ⟨(hbr.cell (p := ⟨w0.heap.size, 0, none⟩) (lt_of_row HXa4.out)).trans c0, (hbr.cell (p := ⟨w0.heap.size, 1, none⟩) (lt_of_row HXa4.out)).trans c1⟩ (fun hHeldF => ?_)
          clear hK K r0 r1 f0 f1
          (try simp only [Act.put, List.setIfInBounds_toArray, List.set_cons_zero, List.set_cons_succ])
          refine wpAnyH_done (by kernel_rfl) ?_ _
          exact hKall z13.heap.size _ _ _ _ _ _ _ _ _ _ _ _ _ _ _ _ _ _ _ _ _ _ _ _ _ _ _ _ _ _ _ _ _ _ _ _ _ _ _ _ _ _ _ _ _ _ _ _ _ _ _ _ _ _ _ _ _ _ _ _ _ _ _ _ _ _ _ _ _ _ _ _ hgE hlf hbr hXf (own_of_row hVf (Nat.le_refl _)) (own_of_cells hOf (Nat.le_refl _)) hco
        refine AllReadyH.cons (o := { dst := some 7, op := .alloc 27, type := 0, pos := "laws.go:403", after := #[], guard := none }) rfl (fun K hK => ?_) AllReadyH.nil
        have hb15 : Below w4.heap.size w4 (z12.alloc (.cells #[.slice none 0 0, .slice none 0 0] 27)) := hb12.alloc hb12.size _
        have hV15 := hV12.alloc (.cells #[.slice none 0 0, .slice none 0 0] 27)
        have hO15 := hO12.alloc (.cells #[.slice none 0 0, .slice none 0 0] 27)
        have hX15 := boxAt (Below.refl _ (z12.alloc (.cells #[.slice none 0 0, .slice none 0 0] 27)))
        have hG15 := hb12.size
        go_simp
        refine hK.out _ _ ⟨(hb15.cell (p := ⟨w0.heap.size, 0, none⟩) (lt_of_row HXa4.out)).trans c0, (hb15.cell (p := ⟨w0.heap.size, 1, none⟩) (lt_of_row HXa4.out)).trans c1⟩ (fun hHeld15 => ?_)
        clear hK K
        (try simp only [Act.put, List.setIfInBounds_toArray, List.set_cons_zero, List.set_cons_succ])
        generalize z12.alloc (.cells #[.slice none 0 0, .slice none 0 0] 27) = z15 at hHeld15 hb15 hV15 hO15 hX15 ⊢
        refine wpAnyH_ready (rs := [9]) (by kernel_rfl) (by simp) ?_
        refine AllReadyH.cons (o := { dst := some 52, op := .call { callee := .builtin .append, args := #[.tmp 47, .tmp 51], argTypes := #[25, 25] }, type := 25, pos := "laws.go:403", after := #[⟨4, .data⟩, ⟨8, .data⟩, ⟨3, .chain⟩], guard := none }) rfl (fun K hK => ?_) AllReadyH.nil
        obtain ⟨vA16, z16, hrun, hW, hgr⟩ := appOps z15 w4.heap.size _ 0 [] hO15 _ aoa m aoc (l.take m) (ops_take (HOA4.out.below hb15 (by omega)) (by omega)) HCa.out.2.2 (by omega) hb15.size
        have hO16 : z16.ownsRow w4.heap.size 34 8 vA16 m (opCells (l.take m)) := by simpa using hW
        obtain ⟨oa, oc, rfl, hco⟩ := row_formA hO16
        have hV16 := hV15.kept hgr (row_ne hV15 hO15 (by decide))
        have hX16 := row_box hO15 hX15 (by decide) hgr
        have hb16 := hb15.grown hgr hb15.size (fun j hj => (hO15.lt j hj).1)
        rw [if_pos (by rfl)]
        refine opwpApp _ _ _ rfl _ _ rfl rfl hrun ?_
        refine hK.out _ _ ⟨(hb16.cell (p := ⟨w0.heap.size, 0, none⟩) (lt_of_row HXa4.out)).trans c0, (hb16.cell (p := ⟨w0.heap.size, 1, none⟩) (lt_of_row HXa4.out)).trans c1⟩ (fun hHeld16 => ?_)
        clear hK K hrun hW hgr
        (try simp only [Act.put, List.setIfInBounds_toArray, List.set_cons_zero, List.set_cons_succ])
        refine wpAnyH_take (i := 10) (oi := { dst := some 53, op := .build 27 #[(0, .tmp 46), (1, .tmp 52)], type := 27, pos := "laws.go:403", after := #[⟨3, .data⟩, ⟨9, .data⟩], guard := none }) (v := ?_) rfl (by kernel_rfl) (by kernel_rfl) (by kernel_rfl) (fun _ _ _ h => h) (Or.inl ⟨by rfl, ?_⟩) (by assumption) ?_
        rotate_left
        · intro w hSw
          (try dsimp only at hSw)
          first | (go_simp; done) | (go_simp; with_reducible rfl)
        (try simp only [Act.put, List.setIfInBounds_toArray, List.set_cons_zero, List.set_cons_succ])
        obtain ⟨r0, r1⟩ := pair_cells hX16
        obtain ⟨f0, f1⟩ := pair_frozen hX16
        have hgE := hG15
        have hbr : Below w4.heap.size w4 ((z16.setCell ⟨z12.heap.size, 0, none⟩ (.slice va 4 vc)).setCell ⟨z12.heap.size, 1, none⟩ (.slice oa m oc)) := (hb16.setCell (p := ⟨z12.heap.size, 0, none⟩) hgE _).setCell (p := ⟨z12.heap.size, 1, none⟩) hgE _
        have hgw : z16.grownBy ((z16.setCell ⟨z12.heap.size, 0, none⟩ (.slice va 4 vc)).setCell ⟨z12.heap.size, 1, none⟩ (.slice oa m oc)) (some (z12.heap.size)) := ⟨rfl, rfl, rfl, Nat.le_of_eq (pair_size _ _ _ _).symm, fun j _ hne => pair_other _ _ (fun e => hne (by rw [e]))⟩
        have hVf := hV16.kept hgw (row_not hV16 hX16 (by decide))
        have hOf := hO16.kept hgw (row_not hO16 hX16 (by decide))
        have hXf := pair_set (.slice va 4 vc) (.slice oa m oc) hX16
        have hlf := lt_of_row hXf
        refine wpAnyH_ready (rs := [12]) (by kernel_rfl) (by simp) ?_
        refine AllReadyH.cons (o := { dst := none, op := .store 27 (.tmp 7) (.tmp 53), type := 0, pos := "laws.go:403", after := #[⟨11, .data⟩, ⟨10, .data⟩, ⟨9, .chain⟩, ⟨0, .phase⟩, ⟨1, .phase⟩, ⟨2, .phase⟩, ⟨3, .phase⟩, ⟨4, .phase⟩, ⟨5, .phase⟩, ⟨6, .phase⟩, ⟨7, .phase⟩, ⟨8, .phase⟩, ⟨9, .phase⟩, ⟨10, .phase⟩, ⟨11, .phase⟩], guard := none }) rfl (fun K hK => ?_) AllReadyH.nil
        go_simp
        refine hK.out _ _ ⟨(hbr.cell (p := ⟨w0.heap.size, 0, none⟩) (lt_of_row HXa4.out)).trans c0, (hbr.cell (p := ⟨w0.heap.size, 1, none⟩) (lt_of_row HXa4.out)).trans c1⟩ (fun hHeldF => ?_)
        clear hK K r0 r1 f0 f1
        (try simp only [Act.put, List.setIfInBounds_toArray, List.set_cons_zero, List.set_cons_succ])
        refine wpAnyH_done (by kernel_rfl) ?_ _
        exact hKall z12.heap.size _ _ _ _ _ _ _ _ _ _ _ _ _ _ _ _ _ _ _ _ _ _ _ _ _ _ _ _ _ _ _ _ _ _ _ _ _ _ _ _ _ _ _ _ _ _ _ _ _ _ _ _ _ _ _ _ _ _ _ _ _ _ _ _ _ _ _ _ _ _ _ _ hgE hlf hbr hXf (own_of_row hVf (Nat.le_refl _)) (own_of_cells hOf (Nat.le_refl _)) hco
      refine AllReadyH.cons (o := { dst := some 7, op := .alloc 27, type := 0, pos := "laws.go:403", after := #[], guard := none }) rfl (fun K hK => ?_) AllReadyH.nil
      have hb17 : Below w4.heap.size w4 (z11.alloc (.cells #[.slice none 0 0, .slice none 0 0] 27)) := hb11.alloc hb11.size _
      have hV17 := hV11.alloc (.cells #[.slice none 0 0, .slice none 0 0] 27)
      have hO17 := hO11.alloc (.cells #[.slice none 0 0, .slice none 0 0] 27)
      have hX17 := boxAt (Below.refl _ (z11.alloc (.cells #[.slice none 0 0, .slice none 0 0] 27)))
      have hG17 := hb11.size
      go_simp
      refine hK.out _ _ ⟨(hb17.cell (p := ⟨w0.heap.size, 0, none⟩) (lt_of_row HXa4.out)).trans c0, (hb17.cell (p := ⟨w0.heap.size, 1, none⟩) (lt_of_row HXa4.out)).trans c1⟩ (fun hHeld17 => ?_)
      clear hK K
      (try simp only [Act.put, List.setIfInBounds_toArray, List.set_cons_zero, List.set_cons_succ])
      generalize z11.alloc (.cells #[.slice none 0 0, .slice none 0 0] 27) = z17 at hHeld17 hb17 hV17 hO17 hX17 ⊢
      refine wpAnyH_ready (rs := [3]) (by kernel_rfl) (by simp) ?_
      refine AllReadyH.cons (o := { dst := some 46, op := .call { callee := .builtin .append, args := #[.tmp 43, .tmp 45], argTypes := #[24, 24] }, type := 24, pos := "laws.go:403", after := #[⟨0, .data⟩, ⟨2, .data⟩], guard := none }) rfl (fun K hK => ?_) AllReadyH.nil
      obtain ⟨vA18, z18, hrun, hW, hgr⟩ := appInts z17 w4.heap.size _ 0 [] hV17 _ ava 4 avc xs (HVA4.out.below hb17 (by omega)) HCv.out.2.2 (by omega) hb17.size
      have hV18 : z18.ownsRow w4.heap.size 2 1 vA18 4 (xs.map (Value.int .i64)) := by simpa using hW
      obtain ⟨va, vc, rfl, hca⟩ := row_formA hV18
      have hO18 := hO17.kept hgr (row_ne hO17 hV17 (by decide))
      have hX18 := row_box hV17 hX17 (by decide) hgr
      have hb18 := hb17.grown hgr hb17.size (fun j hj => (hV17.lt j hj).1)
      rw [if_pos (by rfl)]
      refine opwpApp _ _ _ rfl _ _ rfl rfl hrun ?_
      refine hK.out _ _ ⟨(hb18.cell (p := ⟨w0.heap.size, 0, none⟩) (lt_of_row HXa4.out)).trans c0, (hb18.cell (p := ⟨w0.heap.size, 1, none⟩) (lt_of_row HXa4.out)).trans c1⟩ (fun hHeld18 => ?_)
      clear hK K hrun hW hgr
      (try simp only [Act.put, List.setIfInBounds_toArray, List.set_cons_zero, List.set_cons_succ])
      refine wpAnyH_ready (rs := [9]) (by kernel_rfl) (by simp) ?_
      refine AllReadyH.cons (o := { dst := some 52, op := .call { callee := .builtin .append, args := #[.tmp 47, .tmp 51], argTypes := #[25, 25] }, type := 25, pos := "laws.go:403", after := #[⟨4, .data⟩, ⟨8, .data⟩, ⟨3, .chain⟩], guard := none }) rfl (fun K hK => ?_) AllReadyH.nil
      obtain ⟨vA19, z19, hrun, hW, hgr⟩ := appOps z18 w4.heap.size _ 0 [] hO18 _ aoa m aoc (l.take m) (ops_take (HOA4.out.below hb18 (by omega)) (by omega)) HCa.out.2.2 (by omega) hb18.size
      have hO19 : z19.ownsRow w4.heap.size 34 8 vA19 m (opCells (l.take m)) := by simpa using hW
      obtain ⟨oa, oc, rfl, hco⟩ := row_formA hO19
      have hV19 := hV18.kept hgr (row_ne hV18 hO18 (by decide))
      have hX19 := row_box hO18 hX18 (by decide) hgr
      have hb19 := hb18.grown hgr hb18.size (fun j hj => (hO18.lt j hj).1)
      rw [if_pos (by rfl)]
      refine opwpApp _ _ _ rfl _ _ rfl rfl hrun ?_
      refine hK.out _ _ ⟨(hb19.cell (p := ⟨w0.heap.size, 0, none⟩) (lt_of_row HXa4.out)).trans c0, (hb19.cell (p := ⟨w0.heap.size, 1, none⟩) (lt_of_row HXa4.out)).trans c1⟩ (fun hHeld19 => ?_)
      clear hK K hrun hW hgr
      (try simp only [Act.put, List.setIfInBounds_toArray, List.set_cons_zero, List.set_cons_succ])
      refine wpAnyH_take (i := 10) (oi := { dst := some 53, op := .build 27 #[(0, .tmp 46), (1, .tmp 52)], type := 27, pos := "laws.go:403", after := #[⟨3, .data⟩, ⟨9, .data⟩], guard := none }) (v := ?_) rfl (by kernel_rfl) (by kernel_rfl) (by kernel_rfl) (fun _ _ _ h => h) (Or.inl ⟨by rfl, ?_⟩) (by assumption) ?_
      rotate_left
      · intro w hSw
        (try dsimp only at hSw)
        first | (go_simp; done) | (go_simp; with_reducible rfl)
      (try simp only [Act.put, List.setIfInBounds_toArray, List.set_cons_zero, List.set_cons_succ])
      obtain ⟨r0, r1⟩ := pair_cells hX19
      obtain ⟨f0, f1⟩ := pair_frozen hX19
      have hgE := hG17
      have hbr : Below w4.heap.size w4 ((z19.setCell ⟨z11.heap.size, 0, none⟩ (.slice va 4 vc)).setCell ⟨z11.heap.size, 1, none⟩ (.slice oa m oc)) := (hb19.setCell (p := ⟨z11.heap.size, 0, none⟩) hgE _).setCell (p := ⟨z11.heap.size, 1, none⟩) hgE _
      have hgw : z19.grownBy ((z19.setCell ⟨z11.heap.size, 0, none⟩ (.slice va 4 vc)).setCell ⟨z11.heap.size, 1, none⟩ (.slice oa m oc)) (some (z11.heap.size)) := ⟨rfl, rfl, rfl, Nat.le_of_eq (pair_size _ _ _ _).symm, fun j _ hne => pair_other _ _ (fun e => hne (by rw [e]))⟩
      have hVf := hV19.kept hgw (row_not hV19 hX19 (by decide))
      have hOf := hO19.kept hgw (row_not hO19 hX19 (by decide))
      have hXf := pair_set (.slice va 4 vc) (.slice oa m oc) hX19
      have hlf := lt_of_row hXf
      refine wpAnyH_ready (rs := [12]) (by kernel_rfl) (by simp) ?_
      refine AllReadyH.cons (o := { dst := none, op := .store 27 (.tmp 7) (.tmp 53), type := 0, pos := "laws.go:403", after := #[⟨11, .data⟩, ⟨10, .data⟩, ⟨9, .chain⟩, ⟨0, .phase⟩, ⟨1, .phase⟩, ⟨2, .phase⟩, ⟨3, .phase⟩, ⟨4, .phase⟩, ⟨5, .phase⟩, ⟨6, .phase⟩, ⟨7, .phase⟩, ⟨8, .phase⟩, ⟨9, .phase⟩, ⟨10, .phase⟩, ⟨11, .phase⟩], guard := none }) rfl (fun K hK => ?_) AllReadyH.nil
      go_simp
      refine hK.out _ _ ⟨(hbr.cell (p := ⟨w0.heap.size, 0, none⟩) (lt_of_row HXa4.out)).trans c0, (hbr.cell (p := ⟨w0.heap.size, 1, none⟩) (lt_of_row HXa4.out)).trans c1⟩ (fun hHeldF => ?_)
      clear hK K r0 r1 f0 f1
      (try simp only [Act.put, List.setIfInBounds_toArray, List.set_cons_zero, List.set_cons_succ])
      refine wpAnyH_done (by kernel_rfl) ?_ _
      exact hKall z11.heap.size _ _ _ _ _ _ _ _ _ _ _ _ _ _ _ _ _ _ _ _ _ _ _ _ _ _ _ _ _ _ _ _ _ _ _ _ _ _ _ _ _ _ _ _ _ _ _ _ _ _ _ _ _ _ _ _ _ _ _ _ _ _ _ _ _ _ _ _ _ _ _ _ hgE hlf hbr hXf (own_of_row hVf (Nat.le_refl _)) (own_of_cells hOf (Nat.le_refl _)) hco
    refine AllReadyH.cons (o := { dst := some 7, op := .alloc 27, type := 0, pos := "laws.go:403", after := #[], guard := none }) rfl (fun K hK => ?_) AllReadyH.nil
    have hb20 : Below w4.heap.size w4 (z1.alloc (.cells #[.slice none 0 0, .slice none 0 0] 27)) := hb1.alloc hb1.size _
    have hV20 := hV1.alloc (.cells #[.slice none 0 0, .slice none 0 0] 27)
    have hX20 := boxAt (Below.refl _ (z1.alloc (.cells #[.slice none 0 0, .slice none 0 0] 27)))
    have hG20 := hb1.size
    go_simp
    refine hK.out _ _ ⟨(hb20.cell (p := ⟨w0.heap.size, 0, none⟩) (lt_of_row HXa4.out)).trans c0, (hb20.cell (p := ⟨w0.heap.size, 1, none⟩) (lt_of_row HXa4.out)).trans c1⟩ (fun hHeld20 => ?_)
    clear hK K
    (try simp only [Act.put, List.setIfInBounds_toArray, List.set_cons_zero, List.set_cons_succ])
    generalize z1.alloc (.cells #[.slice none 0 0, .slice none 0 0] 27) = z20 at hHeld20 hb20 hV20 hX20 ⊢
    refine wpAnyH_ready (rs := [3, 4]) (by kernel_rfl) (by simp) ?_
    refine AllReadyH.cons (o := { dst := some 46, op := .call { callee := .builtin .append, args := #[.tmp 43, .tmp 45], argTypes := #[24, 24] }, type := 24, pos := "laws.go:403", after := #[⟨0, .data⟩, ⟨2, .data⟩], guard := none }) rfl (fun K hK => ?_) ?_
    · skip
      obtain ⟨vA21, z21, hrun, hW, hgr⟩ := appInts z20 w4.heap.size _ 0 [] hV20 _ ava 4 avc xs (HVA4.out.below hb20 (by omega)) HCv.out.2.2 (by omega) hb20.size
      have hV21 : z21.ownsRow w4.heap.size 2 1 vA21 4 (xs.map (Value.int .i64)) := by simpa using hW
      obtain ⟨va, vc, rfl, hca⟩ := row_formA hV21
      have hX21 := row_box hV20 hX20 (by decide) hgr
      have hb21 := hb20.grown hgr hb20.size (fun j hj => (hV20.lt j hj).1)
      rw [if_pos (by rfl)]
      refine opwpApp _ _ _ rfl _ _ rfl rfl hrun ?_
      refine hK.out _ _ ⟨(hb21.cell (p := ⟨w0.heap.size, 0, none⟩) (lt_of_row HXa4.out)).trans c0, (hb21.cell (p := ⟨w0.heap.size, 1, none⟩) (lt_of_row HXa4.out)).trans c1⟩ (fun hHeld21 => ?_)
      clear hK K hrun hW hgr
      (try simp only [Act.put, List.setIfInBounds_toArray, List.set_cons_zero, List.set_cons_succ])
      refine wpAnyH_ready (rs := [4]) (by kernel_rfl) (by simp) ?_
      refine AllReadyH.cons (o := { dst := some 47, op := .buildSlice 25 0 #[], type := 25, pos := "laws.go:403", after := #[], guard := none }) rfl (fun K hK => ?_) AllReadyH.nil
      have hb22 : Below w4.heap.size w4 (z21.alloc (.cells #[] 34)) := hb21.alloc hb21.size _
      have hV22 := hV21.alloc (.cells #[] 34)
      have hO22 : (z21.alloc (.cells #[] 34)).ownsRow w4.heap.size 34 8 (.slice (some ⟨z21.heap.size, 0, none⟩) 0 0) 0 (opCells []) := World.ownsRow_made z21 #[] 0 hb21.size (by unfold maxLen; omega) rfl
      have hX22 := (Below.heap_alloc z21 (.cells #[] 34) _ (lt_of_row hX21)).trans hX21
      go_simp
      refine hK.out _ _ ⟨(hb22.cell (p := ⟨w0.heap.size, 0, none⟩) (lt_of_row HXa4.out)).trans c0, (hb22.cell (p := ⟨w0.heap.size, 1, none⟩) (lt_of_row HXa4.out)).trans c1⟩ (fun hHeld22 => ?_)
      clear hK K
      (try simp only [Act.put, List.setIfInBounds_toArray, List.set_cons_zero, List.set_cons_succ])
      generalize z21.alloc (.cells #[] 34) = z22 at hHeld22 hb22 hV22 hO22 hX22 ⊢
      refine wpAnyH_ready (rs := [9]) (by kernel_rfl) (by simp) ?_
      refine AllReadyH.cons (o := { dst := some 52, op := .call { callee := .builtin .append, args := #[.tmp 47, .tmp 51], argTypes := #[25, 25] }, type := 25, pos := "laws.go:403", after := #[⟨4, .data⟩, ⟨8, .data⟩, ⟨3, .chain⟩], guard := none }) rfl (fun K hK => ?_) AllReadyH.nil
      obtain ⟨vA23, z23, hrun, hW, hgr⟩ := appOps z22 w4.heap.size _ 0 [] hO22 _ aoa m aoc (l.take m) (ops_take (HOA4.out.below hb22 (by omega)) (by omega)) HCa.out.2.2 (by omega) hb22.size
      have hO23 : z23.ownsRow w4.heap.size 34 8 vA23 m (opCells (l.take m)) := by simpa using hW
      obtain ⟨oa, oc, rfl, hco⟩ := row_formA hO23
      have hV23 := hV22.kept hgr (row_ne hV22 hO22 (by decide))
      have hX23 := row_box hO22 hX22 (by decide) hgr
      have hb23 := hb22.grown hgr hb22.size (fun j hj => (hO22.lt j hj).1)
      rw [if_pos (by rfl)]
      refine opwpApp _ _ _ rfl _ _ rfl rfl hrun ?_
      refine hK.out _ _ ⟨(hb23.cell (p := ⟨w0.heap.size, 0, none⟩) (lt_of_row HXa4.out)).trans c0, (hb23.cell (p := ⟨w0.heap.size, 1, none⟩) (lt_of_row HXa4.out)).trans c1⟩ (fun hHeld23 => ?_)
      clear hK K hrun hW hgr
      (try simp only [Act.put, List.setIfInBounds_toArray, List.set_cons_zero, List.set_cons_succ])
      refine wpAnyH_take (i := 10) (oi := { dst := some 53, op := .build 27 #[(0, .tmp 46), (1, .tmp 52)], type := 27, pos := "laws.go:403", after := #[⟨3, .data⟩, ⟨9, .data⟩], guard := none }) (v := ?_) rfl (by kernel_rfl) (by kernel_rfl) (by kernel_rfl) (fun _ _ _ h => h) (Or.inl ⟨by rfl, ?_⟩) (by assumption) ?_
      rotate_left
      · intro w hSw
        (try dsimp only at hSw)
        first | (go_simp; done) | (go_simp; with_reducible rfl)
      (try simp only [Act.put, List.setIfInBounds_toArray, List.set_cons_zero, List.set_cons_succ])
      obtain ⟨r0, r1⟩ := pair_cells hX23
      obtain ⟨f0, f1⟩ := pair_frozen hX23
      have hgE := hG20
      have hbr : Below w4.heap.size w4 ((z23.setCell ⟨z1.heap.size, 0, none⟩ (.slice va 4 vc)).setCell ⟨z1.heap.size, 1, none⟩ (.slice oa m oc)) := (hb23.setCell (p := ⟨z1.heap.size, 0, none⟩) hgE _).setCell (p := ⟨z1.heap.size, 1, none⟩) hgE _
      have hgw : z23.grownBy ((z23.setCell ⟨z1.heap.size, 0, none⟩ (.slice va 4 vc)).setCell ⟨z1.heap.size, 1, none⟩ (.slice oa m oc)) (some (z1.heap.size)) := ⟨rfl, rfl, rfl, Nat.le_of_eq (pair_size _ _ _ _).symm, fun j _ hne => pair_other _ _ (fun e => hne (by rw [e]))⟩
      have hVf := hV23.kept hgw (row_not hV23 hX23 (by decide))
      have hOf := hO23.kept hgw (row_not hO23 hX23 (by decide))
      have hXf := pair_set (.slice va 4 vc) (.slice oa m oc) hX23
      have hlf := lt_of_row hXf
      refine wpAnyH_ready (rs := [12]) (by kernel_rfl) (by simp) ?_
      refine AllReadyH.cons (o := { dst := none, op := .store 27 (.tmp 7) (.tmp 53), type := 0, pos := "laws.go:403", after := #[⟨11, .data⟩, ⟨10, .data⟩, ⟨9, .chain⟩, ⟨0, .phase⟩, ⟨1, .phase⟩, ⟨2, .phase⟩, ⟨3, .phase⟩, ⟨4, .phase⟩, ⟨5, .phase⟩, ⟨6, .phase⟩, ⟨7, .phase⟩, ⟨8, .phase⟩, ⟨9, .phase⟩, ⟨10, .phase⟩, ⟨11, .phase⟩], guard := none }) rfl (fun K hK => ?_) AllReadyH.nil
      go_simp
      refine hK.out _ _ ⟨(hbr.cell (p := ⟨w0.heap.size, 0, none⟩) (lt_of_row HXa4.out)).trans c0, (hbr.cell (p := ⟨w0.heap.size, 1, none⟩) (lt_of_row HXa4.out)).trans c1⟩ (fun hHeldF => ?_)
      clear hK K r0 r1 f0 f1
      (try simp only [Act.put, List.setIfInBounds_toArray, List.set_cons_zero, List.set_cons_succ])
      refine wpAnyH_done (by kernel_rfl) ?_ _
      exact hKall z1.heap.size _ _ _ _ _ _ _ _ _ _ _ _ _ _ _ _ _ _ _ _ _ _ _ _ _ _ _ _ _ _ _ _ _ _ _ _ _ _ _ _ _ _ _ _ _ _ _ _ _ _ _ _ _ _ _ _ _ _ _ _ _ _ _ _ _ _ _ _ _ _ _ _ hgE hlf hbr hXf (own_of_row hVf (Nat.le_refl _)) (own_of_cells hOf (Nat.le_refl _)) hco
    refine AllReadyH.cons (o := { dst := some 47, op := .buildSlice 25 0 #[], type := 25, pos := "laws.go:403", after := #[], guard := none }) rfl (fun K hK => ?_) AllReadyH.nil
    have hb24 : Below w4.heap.size w4 (z20.alloc (.cells #[] 34)) := hb20.alloc hb20.size _
    have hV24 := hV20.alloc (.cells #[] 34)
    have hO24 : (z20.alloc (.cells #[] 34)).ownsRow w4.heap.size 34 8 (.slice (some ⟨z20.heap.size, 0, none⟩) 0 0) 0 (opCells []) := World.ownsRow_made z20 #[] 0 hb20.size (by unfold maxLen; omega) rfl
    have hX24 := (Below.heap_alloc z20 (.cells #[] 34) _ (lt_of_row hX20)).trans hX20
    go_simp
    refine hK.out _ _ ⟨(hb24.cell (p := ⟨w0.heap.size, 0, none⟩) (lt_of_row HXa4.out)).trans c0, (hb24.cell (p := ⟨w0.heap.size, 1, none⟩) (lt_of_row HXa4.out)).trans c1⟩ (fun hHeld24 => ?_)
    clear hK K
    (try simp only [Act.put, List.setIfInBounds_toArray, List.set_cons_zero, List.set_cons_succ])
    generalize z20.alloc (.cells #[] 34) = z24 at hHeld24 hb24 hV24 hO24 hX24 ⊢
    refine wpAnyH_ready (rs := [3]) (by kernel_rfl) (by simp) ?_
    refine AllReadyH.cons (o := { dst := some 46, op := .call { callee := .builtin .append, args := #[.tmp 43, .tmp 45], argTypes := #[24, 24] }, type := 24, pos := "laws.go:403", after := #[⟨0, .data⟩, ⟨2, .data⟩], guard := none }) rfl (fun K hK => ?_) AllReadyH.nil
    obtain ⟨vA25, z25, hrun, hW, hgr⟩ := appInts z24 w4.heap.size _ 0 [] hV24 _ ava 4 avc xs (HVA4.out.below hb24 (by omega)) HCv.out.2.2 (by omega) hb24.size
    have hV25 : z25.ownsRow w4.heap.size 2 1 vA25 4 (xs.map (Value.int .i64)) := by simpa using hW
    obtain ⟨va, vc, rfl, hca⟩ := row_formA hV25
    have hO25 := hO24.kept hgr (row_ne hO24 hV24 (by decide))
    have hX25 := row_box hV24 hX24 (by decide) hgr
    have hb25 := hb24.grown hgr hb24.size (fun j hj => (hV24.lt j hj).1)
    rw [if_pos (by rfl)]
    refine opwpApp _ _ _ rfl _ _ rfl rfl hrun ?_
    refine hK.out _ _ ⟨(hb25.cell (p := ⟨w0.heap.size, 0, none⟩) (lt_of_row HXa4.out)).trans c0, (hb25.cell (p := ⟨w0.heap.size, 1, none⟩) (lt_of_row HXa4.out)).trans c1⟩ (fun hHeld25 => ?_)
    clear hK K hrun hW hgr
    (try simp only [Act.put, List.setIfInBounds_toArray, List.set_cons_zero, List.set_cons_succ])
    refine wpAnyH_ready (rs := [9]) (by kernel_rfl) (by simp) ?_
    refine AllReadyH.cons (o := { dst := some 52, op := .call { callee := .builtin .append, args := #[.tmp 47, .tmp 51], argTypes := #[25, 25] }, type := 25, pos := "laws.go:403", after := #[⟨4, .data⟩, ⟨8, .data⟩, ⟨3, .chain⟩], guard := none }) rfl (fun K hK => ?_) AllReadyH.nil
    obtain ⟨vA26, z26, hrun, hW, hgr⟩ := appOps z25 w4.heap.size _ 0 [] hO25 _ aoa m aoc (l.take m) (ops_take (HOA4.out.below hb25 (by omega)) (by omega)) HCa.out.2.2 (by omega) hb25.size
    have hO26 : z26.ownsRow w4.heap.size 34 8 vA26 m (opCells (l.take m)) := by simpa using hW
    obtain ⟨oa, oc, rfl, hco⟩ := row_formA hO26
    have hV26 := hV25.kept hgr (row_ne hV25 hO25 (by decide))
    have hX26 := row_box hO25 hX25 (by decide) hgr
    have hb26 := hb25.grown hgr hb25.size (fun j hj => (hO25.lt j hj).1)
    rw [if_pos (by rfl)]
    refine opwpApp _ _ _ rfl _ _ rfl rfl hrun ?_
    refine hK.out _ _ ⟨(hb26.cell (p := ⟨w0.heap.size, 0, none⟩) (lt_of_row HXa4.out)).trans c0, (hb26.cell (p := ⟨w0.heap.size, 1, none⟩) (lt_of_row HXa4.out)).trans c1⟩ (fun hHeld26 => ?_)
    clear hK K hrun hW hgr
    (try simp only [Act.put, List.setIfInBounds_toArray, List.set_cons_zero, List.set_cons_succ])
    refine wpAnyH_take (i := 10) (oi := { dst := some 53, op := .build 27 #[(0, .tmp 46), (1, .tmp 52)], type := 27, pos := "laws.go:403", after := #[⟨3, .data⟩, ⟨9, .data⟩], guard := none }) (v := ?_) rfl (by kernel_rfl) (by kernel_rfl) (by kernel_rfl) (fun _ _ _ h => h) (Or.inl ⟨by rfl, ?_⟩) (by assumption) ?_
    rotate_left
    · intro w hSw
      (try dsimp only at hSw)
      first | (go_simp; done) | (go_simp; with_reducible rfl)
    (try simp only [Act.put, List.setIfInBounds_toArray, List.set_cons_zero, List.set_cons_succ])
    obtain ⟨r0, r1⟩ := pair_cells hX26
    obtain ⟨f0, f1⟩ := pair_frozen hX26
    have hgE := hG20
    have hbr : Below w4.heap.size w4 ((z26.setCell ⟨z1.heap.size, 0, none⟩ (.slice va 4 vc)).setCell ⟨z1.heap.size, 1, none⟩ (.slice oa m oc)) := (hb26.setCell (p := ⟨z1.heap.size, 0, none⟩) hgE _).setCell (p := ⟨z1.heap.size, 1, none⟩) hgE _
    have hgw : z26.grownBy ((z26.setCell ⟨z1.heap.size, 0, none⟩ (.slice va 4 vc)).setCell ⟨z1.heap.size, 1, none⟩ (.slice oa m oc)) (some (z1.heap.size)) := ⟨rfl, rfl, rfl, Nat.le_of_eq (pair_size _ _ _ _).symm, fun j _ hne => pair_other _ _ (fun e => hne (by rw [e]))⟩
    have hVf := hV26.kept hgw (row_not hV26 hX26 (by decide))
    have hOf := hO26.kept hgw (row_not hO26 hX26 (by decide))
    have hXf := pair_set (.slice va 4 vc) (.slice oa m oc) hX26
    have hlf := lt_of_row hXf
    refine wpAnyH_ready (rs := [12]) (by kernel_rfl) (by simp) ?_
    refine AllReadyH.cons (o := { dst := none, op := .store 27 (.tmp 7) (.tmp 53), type := 0, pos := "laws.go:403", after := #[⟨11, .data⟩, ⟨10, .data⟩, ⟨9, .chain⟩, ⟨0, .phase⟩, ⟨1, .phase⟩, ⟨2, .phase⟩, ⟨3, .phase⟩, ⟨4, .phase⟩, ⟨5, .phase⟩, ⟨6, .phase⟩, ⟨7, .phase⟩, ⟨8, .phase⟩, ⟨9, .phase⟩, ⟨10, .phase⟩, ⟨11, .phase⟩], guard := none }) rfl (fun K hK => ?_) AllReadyH.nil
    go_simp
    refine hK.out _ _ ⟨(hbr.cell (p := ⟨w0.heap.size, 0, none⟩) (lt_of_row HXa4.out)).trans c0, (hbr.cell (p := ⟨w0.heap.size, 1, none⟩) (lt_of_row HXa4.out)).trans c1⟩ (fun hHeldF => ?_)
    clear hK K r0 r1 f0 f1
    (try simp only [Act.put, List.setIfInBounds_toArray, List.set_cons_zero, List.set_cons_succ])
    refine wpAnyH_done (by kernel_rfl) ?_ _
    exact hKall z1.heap.size _ _ _ _ _ _ _ _ _ _ _ _ _ _ _ _ _ _ _ _ _ _ _ _ _ _ _ _ _ _ _ _ _ _ _ _ _ _ _ _ _ _ _ _ _ _ _ _ _ _ _ _ _ _ _ _ _ _ _ _ _ _ _ _ _ _ _ _ _ _ _ _ hgE hlf hbr hXf (own_of_row hVf (Nat.le_refl _)) (own_of_cells hOf (Nat.le_refl _)) hco
  refine AllReadyH.cons (o := { dst := some 47, op := .buildSlice 25 0 #[], type := 25, pos := "laws.go:403", after := #[], guard := none }) rfl (fun K hK => ?_) ?_
  · skip
    have hb27 : Below w4.heap.size w4 (z0.alloc (.cells #[] 34)) := hbz.alloc hbz.size _
    have hO27 : (z0.alloc (.cells #[] 34)).ownsRow w4.heap.size 34 8 (.slice (some ⟨z0.heap.size, 0, none⟩) 0 0) 0 (opCells []) := World.ownsRow_made z0 #[] 0 hbz.size (by unfold maxLen; omega) rfl
    go_simp
    refine hK.out _ _ ⟨(hb27.cell (p := ⟨w0.heap.size, 0, none⟩) (lt_of_row HXa4.out)).trans c0, (hb27.cell (p := ⟨w0.heap.size, 1, none⟩) (lt_of_row HXa4.out)).trans c1⟩ (fun hHeld27 => ?_)
    clear hK K
    (try simp only [Act.put, List.setIfInBounds_toArray, List.set_cons_zero, List.set_cons_succ])
    generalize z0.alloc (.cells #[] 34) = z27 at hHeld27 hb27 hO27 ⊢
    refine wpAnyH_ready (rs := [0, 11]) (by kernel_rfl) (by simp) ?_
    refine AllReadyH.cons (o := { dst := some 43, op := .buildSlice 24 0 #[], type := 24, pos := "laws.go:403", after := #[], guard := none }) rfl (fun K hK => ?_) ?_
    · skip
      have hb28 : Below w4.heap.size w4 (z27.alloc (.cells #[] 2)) := hb27.alloc hb27.size _
      have hV28 : (z27.alloc (.cells #[] 2)).ownsRow w4.heap.size 2 1 (.slice (some ⟨z27.heap.size, 0, none⟩) 0 0) 0 (([] : List Int).map (Value.int .i64)) := World.ownsRow_made z27 #[] 0 hb27.size (by unfold maxLen; omega) rfl
      have hO28 := hO27.alloc (.cells #[] 2)
      go_simp
      refine hK.out _ _ ⟨(hb28.cell (p := ⟨w0.heap.size, 0, none⟩) (lt_of_row HXa4.out)).trans c0, (hb28.cell (p := ⟨w0.heap.size, 1, none⟩) (lt_of_row HXa4.out)).trans c1⟩ (fun hHeld28 => ?_)
      clear hK K
      (try simp only [Act.put, List.setIfInBounds_toArray, List.set_cons_zero, List.set_cons_succ])
      generalize z27.alloc (.cells #[] 2) = z28 at hHeld28 hb28 hV28 hO28 ⊢
      refine wpAnyH_ready (rs := [3, 11]) (by kernel_rfl) (by simp) ?_
      refine AllReadyH.cons (o := { dst := some 46, op := .call { callee := .builtin .append, args := #[.tmp 43, .tmp 45], argTypes := #[24, 24] }, type := 24, pos := "laws.go:403", after := #[⟨0, .data⟩, ⟨2, .data⟩], guard := none }) rfl (fun K hK => ?_) ?_
      · skip
        obtain ⟨vA29, z29, hrun, hW, hgr⟩ := appInts z28 w4.heap.size _ 0 [] hV28 _ ava 4 avc xs (HVA4.out.below hb28 (by omega)) HCv.out.2.2 (by omega) hb28.size
        have hV29 : z29.ownsRow w4.heap.size 2 1 vA29 4 (xs.map (Value.int .i64)) := by simpa using hW
        obtain ⟨va, vc, rfl, hca⟩ := row_formA hV29
        have hO29 := hO28.kept hgr (row_ne hO28 hV28 (by decide))
        have hb29 := hb28.grown hgr hb28.size (fun j hj => (hV28.lt j hj).1)
        rw [if_pos (by rfl)]
        refine opwpApp _ _ _ rfl _ _ rfl rfl hrun ?_
        refine hK.out _ _ ⟨(hb29.cell (p := ⟨w0.heap.size, 0, none⟩) (lt_of_row HXa4.out)).trans c0, (hb29.cell (p := ⟨w0.heap.size, 1, none⟩) (lt_of_row HXa4.out)).trans c1⟩ (fun hHeld29 => ?_)
        clear hK K hrun hW hgr
        (try simp only [Act.put, List.setIfInBounds_toArray, List.set_cons_zero, List.set_cons_succ])
        refine wpAnyH_ready (rs := [9, 11]) (by kernel_rfl) (by simp) ?_
        refine AllReadyH.cons (o := { dst := some 52, op := .call { callee := .builtin .append, args := #[.tmp 47, .tmp 51], argTypes := #[25, 25] }, type := 25, pos := "laws.go:403", after := #[⟨4, .data⟩, ⟨8, .data⟩, ⟨3, .chain⟩], guard := none }) rfl (fun K hK => ?_) ?_
        · skip
          obtain ⟨vA30, z30, hrun, hW, hgr⟩ := appOps z29 w4.heap.size _ 0 [] hO29 _ aoa m aoc (l.take m) (ops_take (HOA4.out.below hb29 (by omega)) (by omega)) HCa.out.2.2 (by omega) hb29.size
          have hO30 : z30.ownsRow w4.heap.size 34 8 vA30 m (opCells (l.take m)) := by simpa using hW
          obtain ⟨oa, oc, rfl, hco⟩ := row_formA hO30
          have hV30 := hV29.kept hgr (row_ne hV29 hO29 (by decide))
          have hb30 := hb29.grown hgr hb29.size (fun j hj => (hO29.lt j hj).1)
          rw [if_pos (by rfl)]
          refine opwpApp _ _ _ rfl _ _ rfl rfl hrun ?_
          refine hK.out _ _ ⟨(hb30.cell (p := ⟨w0.heap.size, 0, none⟩) (lt_of_row HXa4.out)).trans c0, (hb30.cell (p := ⟨w0.heap.size, 1, none⟩) (lt_of_row HXa4.out)).trans c1⟩ (fun hHeld30 => ?_)
          clear hK K hrun hW hgr
          (try simp only [Act.put, List.setIfInBounds_toArray, List.set_cons_zero, List.set_cons_succ])
          refine wpAnyH_take (i := 10) (oi := { dst := some 53, op := .build 27 #[(0, .tmp 46), (1, .tmp 52)], type := 27, pos := "laws.go:403", after := #[⟨3, .data⟩, ⟨9, .data⟩], guard := none }) (v := ?_) rfl (by kernel_rfl) (by kernel_rfl) (by kernel_rfl) (fun _ _ _ h => h) (Or.inl ⟨by rfl, ?_⟩) (by assumption) ?_
          rotate_left
          · intro w hSw
            (try dsimp only at hSw)
            first | (go_simp; done) | (go_simp; with_reducible rfl)
          (try simp only [Act.put, List.setIfInBounds_toArray, List.set_cons_zero, List.set_cons_succ])
          refine wpAnyH_ready (rs := [11]) (by kernel_rfl) (by simp) ?_
          refine AllReadyH.cons (o := { dst := some 7, op := .alloc 27, type := 0, pos := "laws.go:403", after := #[], guard := none }) rfl (fun K hK => ?_) AllReadyH.nil
          have hb31 : Below w4.heap.size w4 (z30.alloc (.cells #[.slice none 0 0, .slice none 0 0] 27)) := hb30.alloc hb30.size _
          have hV31 := hV30.alloc (.cells #[.slice none 0 0, .slice none 0 0] 27)
          have hO31 := hO30.alloc (.cells #[.slice none 0 0, .slice none 0 0] 27)
          have hX31 := boxAt (Below.refl _ (z30.alloc (.cells #[.slice none 0 0, .slice none 0 0] 27)))
          have hG31 := hb30.size
          go_simp
          refine hK.out _ _ ⟨(hb31.cell (p := ⟨w0.heap.size, 0, none⟩) (lt_of_row HXa4.out)).trans c0, (hb31.cell (p := ⟨w0.heap.size, 1, none⟩) (lt_of_row HXa4.out)).trans c1⟩ (fun hHeld31 => ?_)
          clear hK K
          (try simp only [Act.put, List.setIfInBounds_toArray, List.set_cons_zero, List.set_cons_succ])
          generalize z30.alloc (.cells #[.slice none 0 0, .slice none 0 0] 27) = z31 at hHeld31 hb31 hV31 hO31 hX31 ⊢
          obtain ⟨r0, r1⟩ := pair_cells hX31
          obtain ⟨f0, f1⟩ := pair_frozen hX31
          have hgE := hG31
          have hbr : Below w4.heap.size w4 ((z31.setCell ⟨z30.heap.size, 0, none⟩ (.slice va 4 vc)).setCell ⟨z30.heap.size, 1, none⟩ (.slice oa m oc)) := (hb31.setCell (p := ⟨z30.heap.size, 0, none⟩) hgE _).setCell (p := ⟨z30.heap.size, 1, none⟩) hgE _
          have hgw : z31.grownBy ((z31.setCell ⟨z30.heap.size, 0, none⟩ (.slice va 4 vc)).setCell ⟨z30.heap.size, 1, none⟩ (.slice oa m oc)) (some (z30.heap.size)) := ⟨rfl, rfl, rfl, Nat.le_of_eq (pair_size _ _ _ _).symm, fun j _ hne => pair_other _ _ (fun e => hne (by rw [e]))⟩
          have hVf := hV31.kept hgw (row_not hV31 hX31 (by decide))
          have hOf := hO31.kept hgw (row_not hO31 hX31 (by decide))
          have hXf := pair_set (.slice va 4 vc) (.slice oa m oc) hX31
          have hlf := lt_of_row hXf
          refine wpAnyH_ready (rs := [12]) (by kernel_rfl) (by simp) ?_
          refine AllReadyH.cons (o := { dst := none, op := .store 27 (.tmp 7) (.tmp 53), type := 0, pos := "laws.go:403", after := #[⟨11, .data⟩, ⟨10, .data⟩, ⟨9, .chain⟩, ⟨0, .phase⟩, ⟨1, .phase⟩, ⟨2, .phase⟩, ⟨3, .phase⟩, ⟨4, .phase⟩, ⟨5, .phase⟩, ⟨6, .phase⟩, ⟨7, .phase⟩, ⟨8, .phase⟩, ⟨9, .phase⟩, ⟨10, .phase⟩, ⟨11, .phase⟩], guard := none }) rfl (fun K hK => ?_) AllReadyH.nil
          go_simp
          refine hK.out _ _ ⟨(hbr.cell (p := ⟨w0.heap.size, 0, none⟩) (lt_of_row HXa4.out)).trans c0, (hbr.cell (p := ⟨w0.heap.size, 1, none⟩) (lt_of_row HXa4.out)).trans c1⟩ (fun hHeldF => ?_)
          clear hK K r0 r1 f0 f1
          (try simp only [Act.put, List.setIfInBounds_toArray, List.set_cons_zero, List.set_cons_succ])
          refine wpAnyH_done (by kernel_rfl) ?_ _
          exact hKall z30.heap.size _ _ _ _ _ _ _ _ _ _ _ _ _ _ _ _ _ _ _ _ _ _ _ _ _ _ _ _ _ _ _ _ _ _ _ _ _ _ _ _ _ _ _ _ _ _ _ _ _ _ _ _ _ _ _ _ _ _ _ _ _ _ _ _ _ _ _ _ _ _ _ _ hgE hlf hbr hXf (own_of_row hVf (Nat.le_refl _)) (own_of_cells hOf (Nat.le_refl _)) hco
        refine AllReadyH.cons (o := { dst := some 7, op := .alloc 27, type := 0, pos := "laws.go:403", after := #[], guard := none }) rfl (fun K hK => ?_) AllReadyH.nil
        have hb32 : Below w4.heap.size w4 (z29.alloc (.cells #[.slice none 0 0, .slice none 0 0] 27)) := hb29.alloc hb29.size _
        have hV32 := hV29.alloc (.cells #[.slice none 0 0, .slice none 0 0] 27)
        have hO32 := hO29.alloc (.cells #[.slice none 0 0, .slice none 0 0] 27)
        have hX32 := boxAt (Below.refl _ (z29.alloc (.cells #[.slice none 0 0, .slice none 0 0] 27)))
        have hG32 := hb29.size
        go_simp
        refine hK.out _ _ ⟨(hb32.cell (p := ⟨w0.heap.size, 0, none⟩) (lt_of_row HXa4.out)).trans c0, (hb32.cell (p := ⟨w0.heap.size, 1, none⟩) (lt_of_row HXa4.out)).trans c1⟩ (fun hHeld32 => ?_)
        clear hK K
        (try simp only [Act.put, List.setIfInBounds_toArray, List.set_cons_zero, List.set_cons_succ])
        generalize z29.alloc (.cells #[.slice none 0 0, .slice none 0 0] 27) = z32 at hHeld32 hb32 hV32 hO32 hX32 ⊢
        refine wpAnyH_ready (rs := [9]) (by kernel_rfl) (by simp) ?_
        refine AllReadyH.cons (o := { dst := some 52, op := .call { callee := .builtin .append, args := #[.tmp 47, .tmp 51], argTypes := #[25, 25] }, type := 25, pos := "laws.go:403", after := #[⟨4, .data⟩, ⟨8, .data⟩, ⟨3, .chain⟩], guard := none }) rfl (fun K hK => ?_) AllReadyH.nil
        obtain ⟨vA33, z33, hrun, hW, hgr⟩ := appOps z32 w4.heap.size _ 0 [] hO32 _ aoa m aoc (l.take m) (ops_take (HOA4.out.below hb32 (by omega)) (by omega)) HCa.out.2.2 (by omega) hb32.size
        have hO33 : z33.ownsRow w4.heap.size 34 8 vA33 m (opCells (l.take m)) := by simpa using hW
        obtain ⟨oa, oc, rfl, hco⟩ := row_formA hO33
        have hV33 := hV32.kept hgr (row_ne hV32 hO32 (by decide))
        have hX33 := row_box hO32 hX32 (by decide) hgr
        have hb33 := hb32.grown hgr hb32.size (fun j hj => (hO32.lt j hj).1)
        rw [if_pos (by rfl)]
        refine opwpApp _ _ _ rfl _ _ rfl rfl hrun ?_
        refine hK.out _ _ ⟨(hb33.cell (p := ⟨w0.heap.size, 0, none⟩) (lt_of_row HXa4.out)).trans c0, (hb33.cell (p := ⟨w0.heap.size, 1, none⟩) (lt_of_row HXa4.out)).trans c1⟩ (fun hHeld33 => ?_)
        clear hK K hrun hW hgr
        (try simp only [Act.put, List.setIfInBounds_toArray, List.set_cons_zero, List.set_cons_succ])
        refine wpAnyH_take (i := 10) (oi := { dst := some 53, op := .build 27 #[(0, .tmp 46), (1, .tmp 52)], type := 27, pos := "laws.go:403", after := #[⟨3, .data⟩, ⟨9, .data⟩], guard := none }) (v := ?_) rfl (by kernel_rfl) (by kernel_rfl) (by kernel_rfl) (fun _ _ _ h => h) (Or.inl ⟨by rfl, ?_⟩) (by assumption) ?_
        rotate_left
        · intro w hSw
          (try dsimp only at hSw)
          first | (go_simp; done) | (go_simp; with_reducible rfl)
        (try simp only [Act.put, List.setIfInBounds_toArray, List.set_cons_zero, List.set_cons_succ])
        obtain ⟨r0, r1⟩ := pair_cells hX33
        obtain ⟨f0, f1⟩ := pair_frozen hX33
        have hgE := hG32
        have hbr : Below w4.heap.size w4 ((z33.setCell ⟨z29.heap.size, 0, none⟩ (.slice va 4 vc)).setCell ⟨z29.heap.size, 1, none⟩ (.slice oa m oc)) := (hb33.setCell (p := ⟨z29.heap.size, 0, none⟩) hgE _).setCell (p := ⟨z29.heap.size, 1, none⟩) hgE _
        have hgw : z33.grownBy ((z33.setCell ⟨z29.heap.size, 0, none⟩ (.slice va 4 vc)).setCell ⟨z29.heap.size, 1, none⟩ (.slice oa m oc)) (some (z29.heap.size)) := ⟨rfl, rfl, rfl, Nat.le_of_eq (pair_size _ _ _ _).symm, fun j _ hne => pair_other _ _ (fun e => hne (by rw [e]))⟩
        have hVf := hV33.kept hgw (row_not hV33 hX33 (by decide))
        have hOf := hO33.kept hgw (row_not hO33 hX33 (by decide))
        have hXf := pair_set (.slice va 4 vc) (.slice oa m oc) hX33
        have hlf := lt_of_row hXf
        refine wpAnyH_ready (rs := [12]) (by kernel_rfl) (by simp) ?_
        refine AllReadyH.cons (o := { dst := none, op := .store 27 (.tmp 7) (.tmp 53), type := 0, pos := "laws.go:403", after := #[⟨11, .data⟩, ⟨10, .data⟩, ⟨9, .chain⟩, ⟨0, .phase⟩, ⟨1, .phase⟩, ⟨2, .phase⟩, ⟨3, .phase⟩, ⟨4, .phase⟩, ⟨5, .phase⟩, ⟨6, .phase⟩, ⟨7, .phase⟩, ⟨8, .phase⟩, ⟨9, .phase⟩, ⟨10, .phase⟩, ⟨11, .phase⟩], guard := none }) rfl (fun K hK => ?_) AllReadyH.nil
        go_simp
        refine hK.out _ _ ⟨(hbr.cell (p := ⟨w0.heap.size, 0, none⟩) (lt_of_row HXa4.out)).trans c0, (hbr.cell (p := ⟨w0.heap.size, 1, none⟩) (lt_of_row HXa4.out)).trans c1⟩ (fun hHeldF => ?_)
        clear hK K r0 r1 f0 f1
        (try simp only [Act.put, List.setIfInBounds_toArray, List.set_cons_zero, List.set_cons_succ])
        refine wpAnyH_done (by kernel_rfl) ?_ _
        exact hKall z29.heap.size _ _ _ _ _ _ _ _ _ _ _ _ _ _ _ _ _ _ _ _ _ _ _ _ _ _ _ _ _ _ _ _ _ _ _ _ _ _ _ _ _ _ _ _ _ _ _ _ _ _ _ _ _ _ _ _ _ _ _ _ _ _ _ _ _ _ _ _ _ _ _ _ hgE hlf hbr hXf (own_of_row hVf (Nat.le_refl _)) (own_of_cells hOf (Nat.le_refl _)) hco
      refine AllReadyH.cons (o := { dst := some 7, op := .alloc 27, type := 0, pos := "laws.go:403", after := #[], guard := none }) rfl (fun K hK => ?_) AllReadyH.nil
      have hb34 : Below w4.heap.size w4 (z28.alloc (.cells #[.slice none 0 0, .slice none 0 0] 27)) := hb28.alloc hb28.size _
      have hV34 := hV28.alloc (.cells #[.slice none 0 0, .slice none 0 0] 27)
      have hO34 := hO28.alloc (.cells #[.slice none 0 0, .slice none 0 0] 27)
      have hX34 := boxAt (Below.refl _ (z28.alloc (.cells #[.slice none 0 0, .slice none 0 0] 27)))
      have hG34 := hb28.size
      go_simp
      refine hK.out _ _ ⟨(hb34.cell (p := ⟨w0.heap.size, 0, none⟩) (lt_of_row HXa4.out)).trans c0, (hb34.cell (p := ⟨w0.heap.size, 1, none⟩) (lt_of_row HXa4.out)).trans c1⟩ (fun hHeld34 => ?_)
      clear hK K
      (try simp only [Act.put, List.setIfInBounds_toArray, List.set_cons_zero, List.set_cons_succ])
      generalize z28.alloc (.cells #[.slice none 0 0, .slice none 0 0] 27) = z34 at hHeld34 hb34 hV34 hO34 hX34 ⊢
      refine wpAnyH_ready (rs := [3]) (by kernel_rfl) (by simp) ?_
      refine AllReadyH.cons (o := { dst := some 46, op := .call { callee := .builtin .append, args := #[.tmp 43, .tmp 45], argTypes := #[24, 24] }, type := 24, pos := "laws.go:403", after := #[⟨0, .data⟩, ⟨2, .data⟩], guard := none }) rfl (fun K hK => ?_) AllReadyH.nil
      obtain ⟨vA35, z35, hrun, hW, hgr⟩ := appInts z34 w4.heap.size _ 0 [] hV34 _ ava 4 avc xs (HVA4.out.below hb34 (by omega)) HCv.out.2.2 (by omega) hb34.size
      have hV35 : z35.ownsRow w4.heap.size 2 1 vA35 4 (xs.map (Value.int .i64)) := by simpa using hW
      obtain ⟨va, vc, rfl, hca⟩ := row_formA hV35
      have hO35 := hO34.kept hgr (row_ne hO34 hV34 (by decide))
      have hX35 := row_box hV34 hX34 (by decide) hgr
      have hb35 := hb34.grown hgr hb34.size (fun j hj => (hV34.lt j hj).1)
      rw [if_pos (by rfl)]
      refine opwpApp _ _ _ rfl _ _ rfl rfl hrun ?_
      refine hK.out _ _ ⟨(hb35.cell (p := ⟨w0.heap.size, 0, none⟩) (lt_of_row HXa4.out)).trans c0, (hb35.cell (p := ⟨w0.heap.size, 1, none⟩) (lt_of_row HXa4.out)).trans c1⟩ (fun hHeld35 => ?_)
      clear hK K hrun hW hgr
      (try simp only [Act.put, List.setIfInBounds_toArray, List.set_cons_zero, List.set_cons_succ])
      refine wpAnyH_ready (rs := [9]) (by kernel_rfl) (by simp) ?_
      refine AllReadyH.cons (o := { dst := some 52, op := .call { callee := .builtin .append, args := #[.tmp 47, .tmp 51], argTypes := #[25, 25] }, type := 25, pos := "laws.go:403", after := #[⟨4, .data⟩, ⟨8, .data⟩, ⟨3, .chain⟩], guard := none }) rfl (fun K hK => ?_) AllReadyH.nil
      obtain ⟨vA36, z36, hrun, hW, hgr⟩ := appOps z35 w4.heap.size _ 0 [] hO35 _ aoa m aoc (l.take m) (ops_take (HOA4.out.below hb35 (by omega)) (by omega)) HCa.out.2.2 (by omega) hb35.size
      have hO36 : z36.ownsRow w4.heap.size 34 8 vA36 m (opCells (l.take m)) := by simpa using hW
      obtain ⟨oa, oc, rfl, hco⟩ := row_formA hO36
      have hV36 := hV35.kept hgr (row_ne hV35 hO35 (by decide))
      have hX36 := row_box hO35 hX35 (by decide) hgr
      have hb36 := hb35.grown hgr hb35.size (fun j hj => (hO35.lt j hj).1)
      rw [if_pos (by rfl)]
      refine opwpApp _ _ _ rfl _ _ rfl rfl hrun ?_
      refine hK.out _ _ ⟨(hb36.cell (p := ⟨w0.heap.size, 0, none⟩) (lt_of_row HXa4.out)).trans c0, (hb36.cell (p := ⟨w0.heap.size, 1, none⟩) (lt_of_row HXa4.out)).trans c1⟩ (fun hHeld36 => ?_)
      clear hK K hrun hW hgr
      (try simp only [Act.put, List.setIfInBounds_toArray, List.set_cons_zero, List.set_cons_succ])
      refine wpAnyH_take (i := 10) (oi := { dst := some 53, op := .build 27 #[(0, .tmp 46), (1, .tmp 52)], type := 27, pos := "laws.go:403", after := #[⟨3, .data⟩, ⟨9, .data⟩], guard := none }) (v := ?_) rfl (by kernel_rfl) (by kernel_rfl) (by kernel_rfl) (fun _ _ _ h => h) (Or.inl ⟨by rfl, ?_⟩) (by assumption) ?_
      rotate_left
      · intro w hSw
        (try dsimp only at hSw)
        first | (go_simp; done) | (go_simp; with_reducible rfl)
      (try simp only [Act.put, List.setIfInBounds_toArray, List.set_cons_zero, List.set_cons_succ])
      obtain ⟨r0, r1⟩ := pair_cells hX36
      obtain ⟨f0, f1⟩ := pair_frozen hX36
      have hgE := hG34
      have hbr : Below w4.heap.size w4 ((z36.setCell ⟨z28.heap.size, 0, none⟩ (.slice va 4 vc)).setCell ⟨z28.heap.size, 1, none⟩ (.slice oa m oc)) := (hb36.setCell (p := ⟨z28.heap.size, 0, none⟩) hgE _).setCell (p := ⟨z28.heap.size, 1, none⟩) hgE _
      have hgw : z36.grownBy ((z36.setCell ⟨z28.heap.size, 0, none⟩ (.slice va 4 vc)).setCell ⟨z28.heap.size, 1, none⟩ (.slice oa m oc)) (some (z28.heap.size)) := ⟨rfl, rfl, rfl, Nat.le_of_eq (pair_size _ _ _ _).symm, fun j _ hne => pair_other _ _ (fun e => hne (by rw [e]))⟩
      have hVf := hV36.kept hgw (row_not hV36 hX36 (by decide))
      have hOf := hO36.kept hgw (row_not hO36 hX36 (by decide))
      have hXf := pair_set (.slice va 4 vc) (.slice oa m oc) hX36
      have hlf := lt_of_row hXf
      refine wpAnyH_ready (rs := [12]) (by kernel_rfl) (by simp) ?_
      refine AllReadyH.cons (o := { dst := none, op := .store 27 (.tmp 7) (.tmp 53), type := 0, pos := "laws.go:403", after := #[⟨11, .data⟩, ⟨10, .data⟩, ⟨9, .chain⟩, ⟨0, .phase⟩, ⟨1, .phase⟩, ⟨2, .phase⟩, ⟨3, .phase⟩, ⟨4, .phase⟩, ⟨5, .phase⟩, ⟨6, .phase⟩, ⟨7, .phase⟩, ⟨8, .phase⟩, ⟨9, .phase⟩, ⟨10, .phase⟩, ⟨11, .phase⟩], guard := none }) rfl (fun K hK => ?_) AllReadyH.nil
      go_simp
      refine hK.out _ _ ⟨(hbr.cell (p := ⟨w0.heap.size, 0, none⟩) (lt_of_row HXa4.out)).trans c0, (hbr.cell (p := ⟨w0.heap.size, 1, none⟩) (lt_of_row HXa4.out)).trans c1⟩ (fun hHeldF => ?_)
      clear hK K r0 r1 f0 f1
      (try simp only [Act.put, List.setIfInBounds_toArray, List.set_cons_zero, List.set_cons_succ])
      refine wpAnyH_done (by kernel_rfl) ?_ _
      exact hKall z28.heap.size _ _ _ _ _ _ _ _ _ _ _ _ _ _ _ _ _ _ _ _ _ _ _ _ _ _ _ _ _ _ _ _ _ _ _ _ _ _ _ _ _ _ _ _ _ _ _ _ _ _ _ _ _ _ _ _ _ _ _ _ _ _ _ _ _ _ _ _ _ _ _ _ hgE hlf hbr hXf (own_of_row hVf (Nat.le_refl _)) (own_of_cells hOf (Nat.le_refl _)) hco
    refine AllReadyH.cons (o := { dst := some 7, op := .alloc 27, type := 0, pos := "laws.go:403", after := #[], guard := none }) rfl (fun K hK => ?_) AllReadyH.nil
    have hb37 : Below w4.heap.size w4 (z27.alloc (.cells #[.slice none 0 0, .slice none 0 0] 27)) := hb27.alloc hb27.size _
    have hO37 := hO27.alloc (.cells #[.slice none 0 0, .slice none 0 0] 27)
    have hX37 := boxAt (Below.refl _ (z27.alloc (.cells #[.slice none 0 0, .slice none 0 0] 27)))
    have hG37 := hb27.size
    go_simp
    refine hK.out _ _ ⟨(hb37.cell (p := ⟨w0.heap.size, 0, none⟩) (lt_of_row HXa4.out)).trans c0, (hb37.cell (p := ⟨w0.heap.size, 1, none⟩) (lt_of_row HXa4.out)).trans c1⟩ (fun hHeld37 => ?_)
    clear hK K
    (try simp only [Act.put, List.setIfInBounds_toArray, List.set_cons_zero, List.set_cons_succ])
    generalize z27.alloc (.cells #[.slice none 0 0, .slice none 0 0] 27) = z37 at hHeld37 hb37 hO37 hX37 ⊢
    refine wpAnyH_ready (rs := [0]) (by kernel_rfl) (by simp) ?_
    refine AllReadyH.cons (o := { dst := some 43, op := .buildSlice 24 0 #[], type := 24, pos := "laws.go:403", after := #[], guard := none }) rfl (fun K hK => ?_) AllReadyH.nil
    have hb38 : Below w4.heap.size w4 (z37.alloc (.cells #[] 2)) := hb37.alloc hb37.size _
    have hV38 : (z37.alloc (.cells #[] 2)).ownsRow w4.heap.size 2 1 (.slice (some ⟨z37.heap.size, 0, none⟩) 0 0) 0 (([] : List Int).map (Value.int .i64)) := World.ownsRow_made z37 #[] 0 hb37.size (by unfold maxLen; omega) rfl
    have hO38 := hO37.alloc (.cells #[] 2)
    have hX38 := (Below.heap_alloc z37 (.cells #[] 2) _ (lt_of_row hX37)).trans hX37
    go_simp
    refine hK.out _ _ ⟨(hb38.cell (p := ⟨w0.heap.size, 0, none⟩) (lt_of_row HXa4.out)).trans c0, (hb38.cell (p := ⟨w0.heap.size, 1, none⟩) (lt_of_row HXa4.out)).trans c1⟩ (fun hHeld38 => ?_)
    clear hK K
    (try simp only [Act.put, List.setIfInBounds_toArray, List.set_cons_zero, List.set_cons_succ])
    generalize z37.alloc (.cells #[] 2) = z38 at hHeld38 hb38 hV38 hO38 hX38 ⊢
    refine wpAnyH_ready (rs := [3]) (by kernel_rfl) (by simp) ?_
    refine AllReadyH.cons (o := { dst := some 46, op := .call { callee := .builtin .append, args := #[.tmp 43, .tmp 45], argTypes := #[24, 24] }, type := 24, pos := "laws.go:403", after := #[⟨0, .data⟩, ⟨2, .data⟩], guard := none }) rfl (fun K hK => ?_) AllReadyH.nil
    obtain ⟨vA39, z39, hrun, hW, hgr⟩ := appInts z38 w4.heap.size _ 0 [] hV38 _ ava 4 avc xs (HVA4.out.below hb38 (by omega)) HCv.out.2.2 (by omega) hb38.size
    have hV39 : z39.ownsRow w4.heap.size 2 1 vA39 4 (xs.map (Value.int .i64)) := by simpa using hW
    obtain ⟨va, vc, rfl, hca⟩ := row_formA hV39
    have hO39 := hO38.kept hgr (row_ne hO38 hV38 (by decide))
    have hX39 := row_box hV38 hX38 (by decide) hgr
    have hb39 := hb38.grown hgr hb38.size (fun j hj => (hV38.lt j hj).1)
    rw [if_pos (by rfl)]
    refine opwpApp _ _ _ rfl _ _ rfl rfl hrun ?_
    refine hK.out _ _ ⟨(hb39.cell (p := ⟨w0.heap.size, 0, none⟩) (lt_of_row HXa4.out)).trans c0, (hb39.cell (p := ⟨w0.heap.size, 1, none⟩) (lt_of_row HXa4.out)).trans c1⟩ (fun hHeld39 => ?_)
    clear hK K hrun hW hgr
    (try simp only [Act.put, List.setIfInBounds_toArray, List.set_cons_zero, List.set_cons_succ])
    refine wpAnyH_ready (rs := [9]) (by kernel_rfl) (by simp) ?_
    refine AllReadyH.cons (o := { dst := some 52, op := .call { callee := .builtin .append, args := #[.tmp 47, .tmp 51], argTypes := #[25, 25] }, type := 25, pos := "laws.go:403", after := #[⟨4, .data⟩, ⟨8, .data⟩, ⟨3, .chain⟩], guard := none }) rfl (fun K hK => ?_) AllReadyH.nil
    obtain ⟨vA40, z40, hrun, hW, hgr⟩ := appOps z39 w4.heap.size _ 0 [] hO39 _ aoa m aoc (l.take m) (ops_take (HOA4.out.below hb39 (by omega)) (by omega)) HCa.out.2.2 (by omega) hb39.size
    have hO40 : z40.ownsRow w4.heap.size 34 8 vA40 m (opCells (l.take m)) := by simpa using hW
    obtain ⟨oa, oc, rfl, hco⟩ := row_formA hO40
    have hV40 := hV39.kept hgr (row_ne hV39 hO39 (by decide))
    have hX40 := row_box hO39 hX39 (by decide) hgr
    have hb40 := hb39.grown hgr hb39.size (fun j hj => (hO39.lt j hj).1)
    rw [if_pos (by rfl)]
    refine opwpApp _ _ _ rfl _ _ rfl rfl hrun ?_
    refine hK.out _ _ ⟨(hb40.cell (p := ⟨w0.heap.size, 0, none⟩) (lt_of_row HXa4.out)).trans c0, (hb40.cell (p := ⟨w0.heap.size, 1, none⟩) (lt_of_row HXa4.out)).trans c1⟩ (fun hHeld40 => ?_)
    clear hK K hrun hW hgr
    (try simp only [Act.put, List.setIfInBounds_toArray, List.set_cons_zero, List.set_cons_succ])
    refine wpAnyH_take (i := 10) (oi := { dst := some 53, op := .build 27 #[(0, .tmp 46), (1, .tmp 52)], type := 27, pos := "laws.go:403", after := #[⟨3, .data⟩, ⟨9, .data⟩], guard := none }) (v := ?_) rfl (by kernel_rfl) (by kernel_rfl) (by kernel_rfl) (fun _ _ _ h => h) (Or.inl ⟨by rfl, ?_⟩) (by assumption) ?_
    rotate_left
    · intro w hSw
      (try dsimp only at hSw)
      first | (go_simp; done) | (go_simp; with_reducible rfl)
    (try simp only [Act.put, List.setIfInBounds_toArray, List.set_cons_zero, List.set_cons_succ])
    obtain ⟨r0, r1⟩ := pair_cells hX40
    obtain ⟨f0, f1⟩ := pair_frozen hX40
    have hgE := hG37
    have hbr : Below w4.heap.size w4 ((z40.setCell ⟨z27.heap.size, 0, none⟩ (.slice va 4 vc)).setCell ⟨z27.heap.size, 1, none⟩ (.slice oa m oc)) := (hb40.setCell (p := ⟨z27.heap.size, 0, none⟩) hgE _).setCell (p := ⟨z27.heap.size, 1, none⟩) hgE _
    have hgw : z40.grownBy ((z40.setCell ⟨z27.heap.size, 0, none⟩ (.slice va 4 vc)).setCell ⟨z27.heap.size, 1, none⟩ (.slice oa m oc)) (some (z27.heap.size)) := ⟨rfl, rfl, rfl, Nat.le_of_eq (pair_size _ _ _ _).symm, fun j _ hne => pair_other _ _ (fun e => hne (by rw [e]))⟩
    have hVf := hV40.kept hgw (row_not hV40 hX40 (by decide))
    have hOf := hO40.kept hgw (row_not hO40 hX40 (by decide))
    have hXf := pair_set (.slice va 4 vc) (.slice oa m oc) hX40
    have hlf := lt_of_row hXf
    refine wpAnyH_ready (rs := [12]) (by kernel_rfl) (by simp) ?_
    refine AllReadyH.cons (o := { dst := none, op := .store 27 (.tmp 7) (.tmp 53), type := 0, pos := "laws.go:403", after := #[⟨11, .data⟩, ⟨10, .data⟩, ⟨9, .chain⟩, ⟨0, .phase⟩, ⟨1, .phase⟩, ⟨2, .phase⟩, ⟨3, .phase⟩, ⟨4, .phase⟩, ⟨5, .phase⟩, ⟨6, .phase⟩, ⟨7, .phase⟩, ⟨8, .phase⟩, ⟨9, .phase⟩, ⟨10, .phase⟩, ⟨11, .phase⟩], guard := none }) rfl (fun K hK => ?_) AllReadyH.nil
    go_simp
    refine hK.out _ _ ⟨(hbr.cell (p := ⟨w0.heap.size, 0, none⟩) (lt_of_row HXa4.out)).trans c0, (hbr.cell (p := ⟨w0.heap.size, 1, none⟩) (lt_of_row HXa4.out)).trans c1⟩ (fun hHeldF => ?_)
    clear hK K r0 r1 f0 f1
    (try simp only [Act.put, List.setIfInBounds_toArray, List.set_cons_zero, List.set_cons_succ])
    refine wpAnyH_done (by kernel_rfl) ?_ _
    exact hKall z27.heap.size _ _ _ _ _ _ _ _ _ _ _ _ _ _ _ _ _ _ _ _ _ _ _ _ _ _ _ _ _ _ _ _ _ _ _ _ _ _ _ _ _ _ _ _ _ _ _ _ _ _ _ _ _ _ _ _ _ _ _ _ _ _ _ _ _ _ _ _ _ _ _ _ hgE hlf hbr hXf (own_of_row hVf (Nat.le_refl _)) (own_of_cells hOf (Nat.le_refl _)) hco
  refine AllReadyH.cons (o := { dst := some 7, op := .alloc 27, type := 0, pos := "laws.go:403", after := #[], guard := none }) rfl (fun K hK => ?_) AllReadyH.nil
  have hb41 : Below w4.heap.size w4 (z0.alloc (.cells #[.slice none 0 0, .slice none 0 0] 27)) := hbz.alloc hbz.size _
  have hX41 := boxAt (Below.refl _ (z0.alloc (.cells #[.slice none 0 0, .slice none 0 0] 27)))
  have hG41 := hbz.size
  go_simp
  refine hK.out _ _ ⟨(hb41.cell (p := ⟨w0.heap.size, 0, none⟩) (lt_of_row HXa4.out)).trans c0, (hb41.cell (p := ⟨w0.heap.size, 1, none⟩) (lt_of_row HXa4.out)).trans c1⟩ (fun hHeld41 => ?_)
  clear hK K
  (try simp only [Act.put, List.setIfInBounds_toArray, List.set_cons_zero, List.set_cons_succ])
  generalize z0.alloc (.cells #[.slice none 0 0, .slice none 0 0] 27) = z41 at hHeld41 hb41 hX41 ⊢
  refine wpAnyH_ready (rs := [0, 4]) (by kernel_rfl) (by simp) ?_
  refine AllReadyH.cons (o := { dst := some 43, op := .buildSlice 24 0 #[], type := 24, pos := "laws.go:403", after := #[], guard := none }) rfl (fun K hK => ?_) ?_
  · skip
    have hb42 : Below w4.heap.size w4 (z41.alloc (.cells #[] 2)) := hb41.alloc hb41.size _
    have hV42 : (z41.alloc (.cells #[] 2)).ownsRow w4.heap.size 2 1 (.slice (some ⟨z41.heap.size, 0, none⟩) 0 0) 0 (([] : List Int).map (Value.int .i64)) := World.ownsRow_made z41 #[] 0 hb41.size (by unfold maxLen; omega) rfl
    have hX42 := (Below.heap_alloc z41 (.cells #[] 2) _ (lt_of_row hX41)).trans hX41
    go_simp
    refine hK.out _ _ ⟨(hb42.cell (p := ⟨w0.heap.size, 0, none⟩) (lt_of_row HXa4.out)).trans c0, (hb42.cell (p := ⟨w0.heap.size, 1, none⟩) (lt_of_row HXa4.out)).trans c1⟩ (fun hHeld42 => ?_)
    clear hK K
    (try simp only [Act.put, List.setIfInBounds_toArray, List.set_cons_zero, List.set_cons_succ])
    generalize z41.alloc (.cells #[] 2) = z42 at hHeld42 hb42 hV42 hX42 ⊢
    refine wpAnyH_ready (rs := [3, 4]) (by kernel_rfl) (by simp) ?_
    refine AllReadyH.cons (o := { dst := some 46, op := .call { callee := .builtin .append, args := #[.tmp 43, .tmp 45], argTypes := #[24, 24] }, type := 24, pos := "laws.go:403", after := #[⟨0, .data⟩, ⟨2, .data⟩], guard := none }) rfl (fun K hK => ?_) ?_
    · skip
      obtain ⟨vA43, z43, hrun, hW, hgr⟩ := appInts z42 w4.heap.size _ 0 [] hV42 _ ava 4 avc xs (HVA4.out.below hb42 (by omega)) HCv.out.2.2 (by omega) hb42.size
      have hV43 : z43.ownsRow w4.heap.size 2 1 vA43 4 (xs.map (Value.int .i64)) := by simpa using hW
      obtain ⟨va, vc, rfl, hca⟩ := row_formA hV43
      have hX43 := row_box hV42 hX42 (by decide) hgr
      have hb43 := hb42.grown hgr hb42.size (fun j hj => (hV42.lt j hj).1)
      rw [if_pos (by rfl)]
      refine opwpApp _ _ _ rfl _ _ rfl rfl hrun ?_
      refine hK.out _ _ ⟨(hb43.cell (p := ⟨w0.heap.size, 0, none⟩) (lt_of_row HXa4.out)).trans c0, (hb43.cell (p := ⟨w0.heap.size, 1, none⟩) (lt_of_row HXa4.out)).trans c1⟩ (fun hHeld43 => ?_)
      clear hK K hrun hW hgr
      (try simp only [Act.put, List.setIfInBounds_toArray, List.set_cons_zero, List.set_cons_succ])
      refine wpAnyH_ready (rs := [4]) (by kernel_rfl) (by simp) ?_
      refine AllReadyH.cons (o := { dst := some 47, op := .buildSlice 25 0 #[], type := 25, pos := "laws.go:403", after := #[], guard := none }) rfl (fun K hK => ?_) AllReadyH.nil
      have hb44 : Below w4.heap.size w4 (z43.alloc (.cells #[] 34)) := hb43.alloc hb43.size _
      have hV44 := hV43.alloc (.cells #[] 34)
      have hO44 : (z43.alloc (.cells #[] 34)).ownsRow w4.heap.size 34 8 (.slice (some ⟨z43.heap.size, 0, none⟩) 0 0) 0 (opCells []) := World.ownsRow_made z43 #[] 0 hb43.size (by unfold maxLen; omega) rfl
      have hX44 := (Below.heap_alloc z43 (.cells #[] 34) _ (lt_of_row hX43)).trans hX43
      go_simp
      refine hK.out _ _ ⟨(hb44.cell (p := ⟨w0.heap.size, 0, none⟩) (lt_of_row HXa4.out)).trans c0, (hb44.cell (p := ⟨w0.heap.size, 1, none⟩) (lt_of_row HXa4.out)).trans c1⟩ (fun hHeld44 => ?_)
      clear hK K
      (try simp only [Act.put, List.setIfInBounds_toArray, List.set_cons_zero, List.set_cons_succ])
      generalize z43.alloc (.cells #[] 34) = z44 at hHeld44 hb44 hV44 hO44 hX44 ⊢
      refine wpAnyH_ready (rs := [9]) (by kernel_rfl) (by simp) ?_
      refine AllReadyH.cons (o := { dst := some 52, op := .call { callee := .builtin .append, args := #[.tmp 47, .tmp 51], argTypes := #[25, 25] }, type := 25, pos := "laws.go:403", after := #[⟨4, .data⟩, ⟨8, .data⟩, ⟨3, .chain⟩], guard := none }) rfl (fun K hK => ?_) AllReadyH.nil
      obtain ⟨vA45, z45, hrun, hW, hgr⟩ := appOps z44 w4.heap.size _ 0 [] hO44 _ aoa m aoc (l.take m) (ops_take (HOA4.out.below hb44 (by omega)) (by omega)) HCa.out.2.2 (by omega) hb44.size
      have hO45 : z45.ownsRow w4.heap.size 34 8 vA45 m (opCells (l.take m)) := by simpa using hW
      obtain ⟨oa, oc, rfl, hco⟩ := row_formA hO45
      have hV45 := hV44.kept hgr (row_ne hV44 hO44 (by decide))
      have hX45 := row_box hO44 hX44 (by decide) hgr
      have hb45 := hb44.grown hgr hb44.size (fun j hj => (hO44.lt j hj).1)
      rw [if_pos (by rfl)]
      refine opwpApp _ _ _ rfl _ _ rfl rfl hrun ?_
      refine hK.out _ _ ⟨(hb45.cell (p := ⟨w0.heap.size, 0, none⟩) (lt_of_row HXa4.out)).trans c0, (hb45.cell (p := ⟨w0.heap.size, 1, none⟩) (lt_of_row HXa4.out)).trans c1⟩ (fun hHeld45 => ?_)
      clear hK K hrun hW hgr
      (try simp only [Act.put, List.setIfInBounds_toArray, List.set_cons_zero, List.set_cons_succ])
      refine wpAnyH_take (i := 10) (oi := { dst := some 53, op := .build 27 #[(0, .tmp 46), (1, .tmp 52)], type := 27, pos := "laws.go:403", after := #[⟨3, .data⟩, ⟨9, .data⟩], guard := none }) (v := ?_) rfl (by kernel_rfl) (by kernel_rfl) (by kernel_rfl) (fun _ _ _ h => h) (Or.inl ⟨by rfl, ?_⟩) (by assumption) ?_
      rotate_left
      · intro w hSw
        (try dsimp only at hSw)
        first | (go_simp; done) | (go_simp; with_reducible rfl)
      (try simp only [Act.put, List.setIfInBounds_toArray, List.set_cons_zero, List.set_cons_succ])
      obtain ⟨r0, r1⟩ := pair_cells hX45
      obtain ⟨f0, f1⟩ := pair_frozen hX45
      have hgE := hG41
      have hbr : Below w4.heap.size w4 ((z45.setCell ⟨z0.heap.size, 0, none⟩ (.slice va 4 vc)).setCell ⟨z0.heap.size, 1, none⟩ (.slice oa m oc)) := (hb45.setCell (p := ⟨z0.heap.size, 0, none⟩) hgE _).setCell (p := ⟨z0.heap.size, 1, none⟩) hgE _
      have hgw : z45.grownBy ((z45.setCell ⟨z0.heap.size, 0, none⟩ (.slice va 4 vc)).setCell ⟨z0.heap.size, 1, none⟩ (.slice oa m oc)) (some (z0.heap.size)) := ⟨rfl, rfl, rfl, Nat.le_of_eq (pair_size _ _ _ _).symm, fun j _ hne => pair_other _ _ (fun e => hne (by rw [e]))⟩
      have hVf := hV45.kept hgw (row_not hV45 hX45 (by decide))
      have hOf := hO45.kept hgw (row_not hO45 hX45 (by decide))
      have hXf := pair_set (.slice va 4 vc) (.slice oa m oc) hX45
      have hlf := lt_of_row hXf
      refine wpAnyH_ready (rs := [12]) (by kernel_rfl) (by simp) ?_
      refine AllReadyH.cons (o := { dst := none, op := .store 27 (.tmp 7) (.tmp 53), type := 0, pos := "laws.go:403", after := #[⟨11, .data⟩, ⟨10, .data⟩, ⟨9, .chain⟩, ⟨0, .phase⟩, ⟨1, .phase⟩, ⟨2, .phase⟩, ⟨3, .phase⟩, ⟨4, .phase⟩, ⟨5, .phase⟩, ⟨6, .phase⟩, ⟨7, .phase⟩, ⟨8, .phase⟩, ⟨9, .phase⟩, ⟨10, .phase⟩, ⟨11, .phase⟩], guard := none }) rfl (fun K hK => ?_) AllReadyH.nil
      go_simp
      refine hK.out _ _ ⟨(hbr.cell (p := ⟨w0.heap.size, 0, none⟩) (lt_of_row HXa4.out)).trans c0, (hbr.cell (p := ⟨w0.heap.size, 1, none⟩) (lt_of_row HXa4.out)).trans c1⟩ (fun hHeldF => ?_)
      clear hK K r0 r1 f0 f1
      (try simp only [Act.put, List.setIfInBounds_toArray, List.set_cons_zero, List.set_cons_succ])
      refine wpAnyH_done (by kernel_rfl) ?_ _
      exact hKall z0.heap.size _ _ _ _ _ _ _ _ _ _ _ _ _ _ _ _ _ _ _ _ _ _ _ _ _ _ _ _ _ _ _ _ _ _ _ _ _ _ _ _ _ _ _ _ _ _ _ _ _ _ _ _ _ _ _ _ _ _ _ _ _ _ _ _ _ _ _ _ _ _ _ _ hgE hlf hbr hXf (own_of_row hVf (Nat.le_refl _)) (own_of_cells hOf (Nat.le_refl _)) hco
    refine AllReadyH.cons (o := { dst := some 47, op := .buildSlice 25 0 #[], type := 25, pos := "laws.go:403", after := #[], guard := none }) rfl (fun K hK => ?_) AllReadyH.nil
    have hb46 : Below w4.heap.size w4 (z42.alloc (.cells #[] 34)) := hb42.alloc hb42.size _
    have hV46 := hV42.alloc (.cells #[] 34)
    have hO46 : (z42.alloc (.cells #[] 34)).ownsRow w4.heap.size 34 8 (.slice (some ⟨z42.heap.size, 0, none⟩) 0 0) 0 (opCells []) := World.ownsRow_made z42 #[] 0 hb42.size (by unfold maxLen; omega) rfl
    have hX46 := (Below.heap_alloc z42 (.cells #[] 34) _ (lt_of_row hX42)).trans hX42
    go_simp
    refine hK.out _ _ ⟨(hb46.cell (p := ⟨w0.heap.size, 0, none⟩) (lt_of_row HXa4.out)).trans c0, (hb46.cell (p := ⟨w0.heap.size, 1, none⟩) (lt_of_row HXa4.out)).trans c1⟩ (fun hHeld46 => ?_)
    clear hK K
    (try simp only [Act.put, List.setIfInBounds_toArray, List.set_cons_zero, List.set_cons_succ])
    generalize z42.alloc (.cells #[] 34) = z46 at hHeld46 hb46 hV46 hO46 hX46 ⊢
    refine wpAnyH_ready (rs := [3]) (by kernel_rfl) (by simp) ?_
    refine AllReadyH.cons (o := { dst := some 46, op := .call { callee := .builtin .append, args := #[.tmp 43, .tmp 45], argTypes := #[24, 24] }, type := 24, pos := "laws.go:403", after := #[⟨0, .data⟩, ⟨2, .data⟩], guard := none }) rfl (fun K hK => ?_) AllReadyH.nil
    obtain ⟨vA47, z47, hrun, hW, hgr⟩ := appInts z46 w4.heap.size _ 0 [] hV46 _ ava 4 avc xs (HVA4.out.below hb46 (by omega)) HCv.out.2.2 (by omega) hb46.size
    have hV47 : z47.ownsRow w4.heap.size 2 1 vA47 4 (xs.map (Value.int .i64)) := by simpa using hW
    obtain ⟨va, vc, rfl, hca⟩ := row_formA hV47
    have hO47 := hO46.kept hgr (row_ne hO46 hV46 (by decide))
    have hX47 := row_box hV46 hX46 (by decide) hgr
    have hb47 := hb46.grown hgr hb46.size (fun j hj => (hV46.lt j hj).1)
    rw [if_pos (by rfl)]
    refine opwpApp _ _ _ rfl _ _ rfl rfl hrun ?_
    refine hK.out _ _ ⟨(hb47.cell (p := ⟨w0.heap.size, 0, none⟩) (lt_of_row HXa4.out)).trans c0, (hb47.cell (p := ⟨w0.heap.size, 1, none⟩) (lt_of_row HXa4.out)).trans c1⟩ (fun hHeld47 => ?_)
    clear hK K hrun hW hgr
    (try simp only [Act.put, List.setIfInBounds_toArray, List.set_cons_zero, List.set_cons_succ])
    refine wpAnyH_ready (rs := [9]) (by kernel_rfl) (by simp) ?_
    refine AllReadyH.cons (o := { dst := some 52, op := .call { callee := .builtin .append, args := #[.tmp 47, .tmp 51], argTypes := #[25, 25] }, type := 25, pos := "laws.go:403", after := #[⟨4, .data⟩, ⟨8, .data⟩, ⟨3, .chain⟩], guard := none }) rfl (fun K hK => ?_) AllReadyH.nil
    obtain ⟨vA48, z48, hrun, hW, hgr⟩ := appOps z47 w4.heap.size _ 0 [] hO47 _ aoa m aoc (l.take m) (ops_take (HOA4.out.below hb47 (by omega)) (by omega)) HCa.out.2.2 (by omega) hb47.size
    have hO48 : z48.ownsRow w4.heap.size 34 8 vA48 m (opCells (l.take m)) := by simpa using hW
    obtain ⟨oa, oc, rfl, hco⟩ := row_formA hO48
    have hV48 := hV47.kept hgr (row_ne hV47 hO47 (by decide))
    have hX48 := row_box hO47 hX47 (by decide) hgr
    have hb48 := hb47.grown hgr hb47.size (fun j hj => (hO47.lt j hj).1)
    rw [if_pos (by rfl)]
    refine opwpApp _ _ _ rfl _ _ rfl rfl hrun ?_
    refine hK.out _ _ ⟨(hb48.cell (p := ⟨w0.heap.size, 0, none⟩) (lt_of_row HXa4.out)).trans c0, (hb48.cell (p := ⟨w0.heap.size, 1, none⟩) (lt_of_row HXa4.out)).trans c1⟩ (fun hHeld48 => ?_)
    clear hK K hrun hW hgr
    (try simp only [Act.put, List.setIfInBounds_toArray, List.set_cons_zero, List.set_cons_succ])
    refine wpAnyH_take (i := 10) (oi := { dst := some 53, op := .build 27 #[(0, .tmp 46), (1, .tmp 52)], type := 27, pos := "laws.go:403", after := #[⟨3, .data⟩, ⟨9, .data⟩], guard := none }) (v := ?_) rfl (by kernel_rfl) (by kernel_rfl) (by kernel_rfl) (fun _ _ _ h => h) (Or.inl ⟨by rfl, ?_⟩) (by assumption) ?_
    rotate_left
    · intro w hSw
      (try dsimp only at hSw)
      first | (go_simp; done) | (go_simp; with_reducible rfl)
    (try simp only [Act.put, List.setIfInBounds_toArray, List.set_cons_zero, List.set_cons_succ])
    obtain ⟨r0, r1⟩ := pair_cells hX48
    obtain ⟨f0, f1⟩ := pair_frozen hX48
    have hgE := hG41
    have hbr : Below w4.heap.size w4 ((z48.setCell ⟨z0.heap.size, 0, none⟩ (.slice va 4 vc)).setCell ⟨z0.heap.size, 1, none⟩ (.slice oa m oc)) := (hb48.setCell (p := ⟨z0.heap.size, 0, none⟩) hgE _).setCell (p := ⟨z0.heap.size, 1, none⟩) hgE _
    have hgw : z48.grownBy ((z48.setCell ⟨z0.heap.size, 0, none⟩ (.slice va 4 vc)).setCell ⟨z0.heap.size, 1, none⟩ (.slice oa m oc)) (some (z0.heap.size)) := ⟨rfl, rfl, rfl, Nat.le_of_eq (pair_size _ _ _ _).symm, fun j _ hne => pair_other _ _ (fun e => hne (by rw [e]))⟩
    have hVf := hV48.kept hgw (row_not hV48 hX48 (by decide))
    have hOf := hO48.kept hgw (row_not hO48 hX48 (by decide))
    have hXf := pair_set (.slice va 4 vc) (.slice oa m oc) hX48
    have hlf := lt_of_row hXf
    refine wpAnyH_ready (rs := [12]) (by kernel_rfl) (by simp) ?_
    refine AllReadyH.cons (o := { dst := none, op := .store 27 (.tmp 7) (.tmp 53), type := 0, pos := "laws.go:403", after := #[⟨11, .data⟩, ⟨10, .data⟩, ⟨9, .chain⟩, ⟨0, .phase⟩, ⟨1, .phase⟩, ⟨2, .phase⟩, ⟨3, .phase⟩, ⟨4, .phase⟩, ⟨5, .phase⟩, ⟨6, .phase⟩, ⟨7, .phase⟩, ⟨8, .phase⟩, ⟨9, .phase⟩, ⟨10, .phase⟩, ⟨11, .phase⟩], guard := none }) rfl (fun K hK => ?_) AllReadyH.nil
    go_simp
    refine hK.out _ _ ⟨(hbr.cell (p := ⟨w0.heap.size, 0, none⟩) (lt_of_row HXa4.out)).trans c0, (hbr.cell (p := ⟨w0.heap.size, 1, none⟩) (lt_of_row HXa4.out)).trans c1⟩ (fun hHeldF => ?_)
    clear hK K r0 r1 f0 f1
    (try simp only [Act.put, List.setIfInBounds_toArray, List.set_cons_zero, List.set_cons_succ])
    refine wpAnyH_done (by kernel_rfl) ?_ _
    exact hKall z0.heap.size _ _ _ _ _ _ _ _ _ _ _ _ _ _ _ _ _ _ _ _ _ _ _ _ _ _ _ _ _ _ _ _ _ _ _ _ _ _ _ _ _ _ _ _ _ _ _ _ _ _ _ _ _ _ _ _ _ _ _ _ _ _ _ _ _ _ _ _ _ _ _ _ hgE hlf hbr hXf (own_of_row hVf (Nat.le_refl _)) (own_of_cells hOf (Nat.le_refl _)) hco
  refine AllReadyH.cons (o := { dst := some 47, op := .buildSlice 25 0 #[], type := 25, pos := "laws.go:403", after := #[], guard := none }) rfl (fun K hK => ?_) AllReadyH.nil
  have hb49 : Below w4.heap.size w4 (z41.alloc (.cells #[] 34)) := hb41.alloc hb41.size _
  have hO49 : (z41.alloc (.cells #[] 34)).ownsRow w4.heap.size 34 8 (.slice (some ⟨z41.heap.size, 0, none⟩) 0 0) 0 (opCells []) := World.ownsRow_made z41 #[] 0 hb41.size (by unfold maxLen; omega) rfl
  have hX49 := (Below.heap_alloc z41 (.cells #[] 34) _ (lt_of_row hX41)).trans hX41
  go_simp
  refine hK.out _ _ ⟨(hb49.cell (p := ⟨w0.heap.size, 0, none⟩) (lt_of_row HXa4.out)).trans c0, (hb49.cell (p := ⟨w0.heap.size, 1, none⟩) (lt_of_row HXa4.out)).trans c1⟩ (fun hHeld49 => ?_)
  clear hK K
  (try simp only [Act.put, List.setIfInBounds_toArray, List.set_cons_zero, List.set_cons_succ])
  generalize z41.alloc (.cells #[] 34) = z49 at hHeld49 hb49 hO49 hX49 ⊢
  refine wpAnyH_ready (rs := [0]) (by kernel_rfl) (by simp) ?_
  refine AllReadyH.cons (o := { dst := some 43, op := .buildSlice 24 0 #[], type := 24, pos := "laws.go:403", after := #[], guard := none }) rfl (fun K hK => ?_) AllReadyH.nil
  have hb50 : Below w4.heap.size w4 (z49.alloc (.cells #[] 2)) := hb49.alloc hb49.size _
  have hV50 : (z49.alloc (.cells #[] 2)).ownsRow w4.heap.size 2 1 (.slice (some ⟨z49.heap.size, 0, none⟩) 0 0) 0 (([] : List Int).map (Value.int .i64)) := World.ownsRow_made z49 #[] 0 hb49.size (by unfold maxLen; omega) rfl
  have hO50 := hO49.alloc (.cells #[] 2)
  have hX50 := (Below.heap_alloc z49 (.cells #[] 2) _ (lt_of_row hX49)).trans hX49
  go_simp
  refine hK.out _ _ ⟨(hb50.cell (p := ⟨w0.heap.size, 0, none⟩) (lt_of_row HXa4.out)).trans c0, (hb50.cell (p := ⟨w0.heap.size, 1, none⟩) (lt_of_row HXa4.out)).trans c1⟩ (fun hHeld50 => ?_)
  clear hK K
  (try simp only [Act.put, List.setIfInBounds_toArray, List.set_cons_zero, List.set_cons_succ])
  generalize z49.alloc (.cells #[] 2) = z50 at hHeld50 hb50 hV50 hO50 hX50 ⊢
  refine wpAnyH_ready (rs := [3]) (by kernel_rfl) (by simp) ?_
  refine AllReadyH.cons (o := { dst := some 46, op := .call { callee := .builtin .append, args := #[.tmp 43, .tmp 45], argTypes := #[24, 24] }, type := 24, pos := "laws.go:403", after := #[⟨0, .data⟩, ⟨2, .data⟩], guard := none }) rfl (fun K hK => ?_) AllReadyH.nil
  obtain ⟨vA51, z51, hrun, hW, hgr⟩ := appInts z50 w4.heap.size _ 0 [] hV50 _ ava 4 avc xs (HVA4.out.below hb50 (by omega)) HCv.out.2.2 (by omega) hb50.size
  have hV51 : z51.ownsRow w4.heap.size 2 1 vA51 4 (xs.map (Value.int .i64)) := by simpa using hW
  obtain ⟨va, vc, rfl, hca⟩ := row_formA hV51
  have hO51 := hO50.kept hgr (row_ne hO50 hV50 (by decide))
  have hX51 := row_box hV50 hX50 (by decide) hgr
  have hb51 := hb50.grown hgr hb50.size (fun j hj => (hV50.lt j hj).1)
  rw [if_pos (by rfl)]
  refine opwpApp _ _ _ rfl _ _ rfl rfl hrun ?_
  refine hK.out _ _ ⟨(hb51.cell (p := ⟨w0.heap.size, 0, none⟩) (lt_of_row HXa4.out)).trans c0, (hb51.cell (p := ⟨w0.heap.size, 1, none⟩) (lt_of_row HXa4.out)).trans c1⟩ (fun hHeld51 => ?_)
  clear hK K hrun hW hgr
  (try simp only [Act.put, List.setIfInBounds_toArray, List.set_cons_zero, List.set_cons_succ])
  refine wpAnyH_ready (rs := [9]) (by kernel_rfl) (by simp) ?_
  refine AllReadyH.cons (o := { dst := some 52, op := .call { callee := .builtin .append, args := #[.tmp 47, .tmp 51], argTypes := #[25, 25] }, type := 25, pos := "laws.go:403", after := #[⟨4, .data⟩, ⟨8, .data⟩, ⟨3, .chain⟩], guard := none }) rfl (fun K hK => ?_) AllReadyH.nil
  obtain ⟨vA52, z52, hrun, hW, hgr⟩ := appOps z51 w4.heap.size _ 0 [] hO51 _ aoa m aoc (l.take m) (ops_take (HOA4.out.below hb51 (by omega)) (by omega)) HCa.out.2.2 (by omega) hb51.size
  have hO52 : z52.ownsRow w4.heap.size 34 8 vA52 m (opCells (l.take m)) := by simpa using hW
  obtain ⟨oa, oc, rfl, hco⟩ := row_formA hO52
  have hV52 := hV51.kept hgr (row_ne hV51 hO51 (by decide))
  have hX52 := row_box hO51 hX51 (by decide) hgr
  have hb52 := hb51.grown hgr hb51.size (fun j hj => (hO51.lt j hj).1)
  rw [if_pos (by rfl)]
  refine opwpApp _ _ _ rfl _ _ rfl rfl hrun ?_
  refine hK.out _ _ ⟨(hb52.cell (p := ⟨w0.heap.size, 0, none⟩) (lt_of_row HXa4.out)).trans c0, (hb52.cell (p := ⟨w0.heap.size, 1, none⟩) (lt_of_row HXa4.out)).trans c1⟩ (fun hHeld52 => ?_)
  clear hK K hrun hW hgr
  (try simp only [Act.put, List.setIfInBounds_toArray, List.set_cons_zero, List.set_cons_succ])
  refine wpAnyH_take (i := 10) (oi := { dst := some 53, op := .build 27 #[(0, .tmp 46), (1, .tmp 52)], type := 27, pos := "laws.go:403", after := #[⟨3, .data⟩, ⟨9, .data⟩], guard := none }) (v := ?_) rfl (by kernel_rfl) (by kernel_rfl) (by kernel_rfl) (fun _ _ _ h => h) (Or.inl ⟨by rfl, ?_⟩) (by assumption) ?_
  rotate_left
  · intro w hSw
    (try dsimp only at hSw)
    first | (go_simp; done) | (go_simp; with_reducible rfl)
  (try simp only [Act.put, List.setIfInBounds_toArray, List.set_cons_zero, List.set_cons_succ])
  obtain ⟨r0, r1⟩ := pair_cells hX52
  obtain ⟨f0, f1⟩ := pair_frozen hX52
  have hgE := hG41
  have hbr : Below w4.heap.size w4 ((z52.setCell ⟨z0.heap.size, 0, none⟩ (.slice va 4 vc)).setCell ⟨z0.heap.size, 1, none⟩ (.slice oa m oc)) := (hb52.setCell (p := ⟨z0.heap.size, 0, none⟩) hgE _).setCell (p := ⟨z0.heap.size, 1, none⟩) hgE _
  have hgw : z52.grownBy ((z52.setCell ⟨z0.heap.size, 0, none⟩ (.slice va 4 vc)).setCell ⟨z0.heap.size, 1, none⟩ (.slice oa m oc)) (some (z0.heap.size)) := ⟨rfl, rfl, rfl, Nat.le_of_eq (pair_size _ _ _ _).symm, fun j _ hne => pair_other _ _ (fun e => hne (by rw [e]))⟩
  have hVf := hV52.kept hgw (row_not hV52 hX52 (by decide))
  have hOf := hO52.kept hgw (row_not hO52 hX52 (by decide))
  have hXf := pair_set (.slice va 4 vc) (.slice oa m oc) hX52
  have hlf := lt_of_row hXf
  refine wpAnyH_ready (rs := [12]) (by kernel_rfl) (by simp) ?_
  refine AllReadyH.cons (o := { dst := none, op := .store 27 (.tmp 7) (.tmp 53), type := 0, pos := "laws.go:403", after := #[⟨11, .data⟩, ⟨10, .data⟩, ⟨9, .chain⟩, ⟨0, .phase⟩, ⟨1, .phase⟩, ⟨2, .phase⟩, ⟨3, .phase⟩, ⟨4, .phase⟩, ⟨5, .phase⟩, ⟨6, .phase⟩, ⟨7, .phase⟩, ⟨8, .phase⟩, ⟨9, .phase⟩, ⟨10, .phase⟩, ⟨11, .phase⟩], guard := none }) rfl (fun K hK => ?_) AllReadyH.nil
  go_simp
  refine hK.out _ _ ⟨(hbr.cell (p := ⟨w0.heap.size, 0, none⟩) (lt_of_row HXa4.out)).trans c0, (hbr.cell (p := ⟨w0.heap.size, 1, none⟩) (lt_of_row HXa4.out)).trans c1⟩ (fun hHeldF => ?_)
  clear hK K r0 r1 f0 f1
  (try simp only [Act.put, List.setIfInBounds_toArray, List.set_cons_zero, List.set_cons_succ])
  refine wpAnyH_done (by kernel_rfl) ?_ _
  exact hKall z0.heap.size _ _ _ _ _ _ _ _ _ _ _ _ _ _ _ _ _ _ _ _ _ _ _ _ _ _ _ _ _ _ _ _ _ _ _ _ _ _ _ _ _ _ _ _ _ _ _ _ _ _ _ _ _ _ _ _ _ _ _ _ _ _ _ _ _ _ _ _ _ _ _ _ hgE hlf hbr hXf (own_of_row hVf (Nat.le_refl _)) (own_of_cells hOf (Nat.le_refl _)) hco
end Go.Proofs.Ytmceofdknphgkaa
