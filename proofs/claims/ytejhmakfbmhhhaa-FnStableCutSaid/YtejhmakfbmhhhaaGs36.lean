/- Walks and mathematics that several claims share, part 36. -/
import Derived.Test.YtejhmakfbmhhhaaGs34
import Derived.Test.YtejhmakfbmhhhaaGs28
import Derived.Test.YtejhmakfbmhhhaaGs29
import Derived.Test.YtejhmakfbmhhhaaGs35
import Derived.Test.YtejhmakfbmhhhaaGs24
import Derived.Deep.Cut
namespace Go.Proofs.Ytejhmakfbmhhhaa
open Go.RowKit
set_option linter.unusedVariables false
set_option linter.unusedSimpArgs false

theorem IRows.mores {w : World} {B B' : Nat} {a : Option Addr} {n : Nat} {l : List (List Int)} (h : IRows w B a n l) (hB : B ≤ B') : IRows w B' a n l :=
  ⟨h.1, fun i hi => by
    obtain ⟨b, off, ai, ci, e, hb, hc, hx⟩ := h.2 i hi
    exact ⟨b, off, ai, ci, e, by omega, hc, hx.more hB⟩⟩
theorem items_ok {xs : List Int} {l : List OpV} (h : cartB xs l = true) : ∀ i, i < l.length → (atOp l i).item.size ≤ 1048576 := fun i hi => Nat.le_trans (op_bounds (cart_op h hi)).2.2.2.2.1 (by omega)
set_option maxRecDepth 100000 in
set_option maxHeartbeats 80000000 in
theorem fnStableCutWalk (a : Option Addr) (len cap : Nat) (zs : List Int) (w : World) (h : IsRow .u8 w a len cap zs) :
    Calls Try.prog 3 #[.slice a len cap] w fun e w' => e = .returned (.bool true) ∧ Below w.heap.size w w' := by
  by_cases hbig : len ≤ 1048576
  rotate_left
  · go_enter Try.func3, Try.ntmps3
    go_wp2_with fail
    refine (bigYes a len cap hbig w).mono ?_
    rintro e w' ⟨rfl, rfl⟩
    go_wp2
    go_ret
    exact ⟨rfl, Below.refl _ _⟩
  have hsrc := Lib.hid (src_of_row h hbig)
  clear h
  go_enter Try.func3, Try.ntmps3
  go_wp2_with fail
  refine (bigNo a len cap hbig w).mono ?_
  rintro e w' ⟨rfl, rfl⟩
  go_wp2_with fail
  refine (drawStable w w.heap.size a len cap (Nat.le_refl _) hsrc.out).mono ?_
  rintro e w0 ⟨aa, n, c, X, t, hn4, rfl, hrows, hb0⟩
  have HR0 := Lib.hid hrows.irows
  have HSh : Hid (∀ i, i < n → (rowOf t i).length ≤ 1048576) := fun i hi => Nat.le_trans (hrows.short i hi) (by omega)
  have HB0 := Lib.hid hb0
  have hs0 := hb0.size
  clear hrows hb0
  (try dsimp only)
  go_upto_region 4 with fail
  have hb : Below w0.heap.size w0 (w0.alloc (.cells #[.slice aa n c] 26)) := (Below.refl _ _).alloc (Nat.le_refl _) _
  have HXt1 := Lib.hid (heap_alloc_new w0 (.cells #[.slice aa n c] 26))
  generalize w0.alloc (.cells #[.slice aa n c] 26) = w1 at hb HXt1 ⊢
  have HR1 := Lib.hid (HR0.out.below hb (by omega))
  have hs1 := hb.size
  have HB1 := Lib.hid (HB0.out.trans (hb.mono (by omega)))
  clear hb HB0
  clear HR0
  go_wp2_with fail
  refine (drawCut w1 w.heap.size a len cap (by have := HB1.out.size; omega) (src_below hsrc.out HB1.out)).mono ?_
  rintro e w2 ⟨⟨ava, avc, aoa, ano, aoc⟩, bv, nb, bc, ys, _, rfl, hx, _, hb⟩
  obtain ⟨xs, l, e1, a1, a2, a3, a4, a5, a6⟩ := hx
  have e1 : ano = l.length := e1
  subst e1
  have HVA2 := Lib.hid a1.ints
  have HOA2 := Lib.hid a2.ops
  have HCa := Lib.hid a4
  have HIa : Hid (∀ i, i < l.length → (atOp l i).item.size ≤ 1048576) := fun i hi => Nat.le_trans (a5 i hi) (by omega)
  clear a1 a2 a3 a4 a5
  dsimp only
  have HR2 := Lib.hid (HR1.out.below hb (by omega))
  have HXt2 := Lib.hid ((hb.block _ (lt_of_block HXt1.out)).trans HXt1.out)
  have hs2 := hb.size
  have HB2 := Lib.hid (HB1.out.trans (hb.mono (by omega)))
  clear hb HB1
  clear HR1 HXt1
  go_upto_region 5 with fail
  have hb : Below w2.heap.size w2 (w2.alloc (.cells #[.slice ava 4 avc, .slice aoa l.length aoc] 31)) := (Below.refl _ _).alloc (Nat.le_refl _) _
  have HXa3 := Lib.hid (boxAt (Below.refl _ (w2.alloc (.cells #[.slice ava 4 avc, .slice aoa l.length aoc] 31))))
  generalize w2.alloc (.cells #[.slice ava 4 avc, .slice aoa l.length aoc] 31) = w3 at hb HXa3 ⊢
  have HR3 := Lib.hid (HR2.out.below hb (by omega))
  have HXt3 := Lib.hid ((hb.block _ (lt_of_block HXt2.out)).trans HXt2.out)
  have hs3 := hb.size
  have HB3 := Lib.hid (HB2.out.trans (hb.mono (by omega)))
  have HVA3 := Lib.hid (HVA2.out.below hb (by omega))
  have HOA3 := Lib.hid (HOA2.out.below hb (by omega))
  clear hb HB2 HVA2 HOA2
  clear HR2 HXt2
  have hsl : (stableL t).length ≤ 4 := by
    cases hk : ackOk t
    · rw [stable_no hk]; exact Nat.zero_le _
    · have := vec_len (stable_vec hk); omega
  have q0 := one_cell HXt3.out
  go_wp2_with fail
  refine (implStable w3 w3.heap.size aa n c t (HR3.out.mores (by omega)) (Nat.le_refl _) HSh.out).mono ?_
  rintro e w4 ⟨sv, sc, rfl, ho, hb⟩
  have HT4 := Lib.hid ho.ints
  clear ho
  clear q0
  have HR4 := Lib.hid (HR3.out.below hb (by omega))
  have HXt4 := Lib.hid ((hb.block _ (lt_of_block HXt3.out)).trans HXt3.out)
  have hs4 := hb.size
  have HB4 := Lib.hid (HB3.out.trans (hb.mono (by omega)))
  have HVA4 := Lib.hid (HVA3.out.below hb (by omega))
  have HOA4 := Lib.hid (HOA3.out.below hb (by omega))
  have HXa4 := Lib.hid ((hb.block _ (lt_of_row HXa3.out)).trans HXa3.out)
  clear hb HB3 HVA3 HOA3 HXa3
  clear HR3 HXt3
  have q0 := one_cell HXt4.out
  go_wp2_with fail
  refine (specStable w4 w4.heap.size aa n c t (HR4.out.mores (by omega)) (Nat.le_refl _) (by omega) HSh.out).mono ?_
  rintro e w5 ⟨uv, uc, rfl, ho, hb⟩
  have HU5 := Lib.hid ho.ints
  clear ho
  clear q0
  have HR5 := Lib.hid (HR4.out.below hb (by omega))
  have HXt5 := Lib.hid ((hb.block _ (lt_of_block HXt4.out)).trans HXt4.out)
  have HT5 := Lib.hid (HT4.out.below hb (by omega))
  have hs5 := hb.size
  have HB5 := Lib.hid (HB4.out.trans (hb.mono (by omega)))
  have HVA5 := Lib.hid (HVA4.out.below hb (by omega))
  have HOA5 := Lib.hid (HOA4.out.below hb (by omega))
  have HXa5 := Lib.hid ((hb.block _ (lt_of_row HXa4.out)).trans HXa4.out)
  clear hb HB4 HVA4 HOA4 HXa4
  clear HT4
  clear HR4 HXt4
  go_wp2_with fail
  refine (sameIntsS w5 w5.heap.size w5.heap.size sv uv (stableL t).length sc (stableL t).length uc (stableL t) (stableL t) (HT5.out.more (by omega)) (HU5.out.more (by omega)) (by omega) (by omega)).mono ?_
  rintro e w6 ⟨rfl, hsm⟩
  rw [decide_eq_true rfl]
  have hb := hsm.below w5.heap.size
  clear hsm
  have HR6 := Lib.hid (HR5.out.below hb (by omega))
  have HXt6 := Lib.hid ((hb.block _ (lt_of_block HXt5.out)).trans HXt5.out)
  have HT6 := Lib.hid (HT5.out.below hb (by omega))
  have HU6 := Lib.hid (HU5.out.below hb (by omega))
  have hs6 := hb.size
  have HB6 := Lib.hid (HB5.out.trans (hb.mono (by omega)))
  have HVA6 := Lib.hid (HVA5.out.below hb (by omega))
  have HOA6 := Lib.hid (HOA5.out.below hb (by omega))
  have HXa6 := Lib.hid ((hb.block _ (lt_of_row HXa5.out)).trans HXa5.out)
  clear hb HB5 HVA5 HOA5 HXa5
  clear HT5 HU5
  clear HR5 HXt5
  clear HU6
  obtain ⟨ok, hok⟩ : ∃ b, ackOk t = b := ⟨_, rfl⟩
  have HOk := Lib.hid hok
  clear hok
  have q0 := one_cell HXt6.out
  go_wp2_with fail
  refine (specAcksOk w6 w6.heap.size aa n c t (HR6.out.mores (by omega)) (Nat.le_refl _) (by omega) HSh.out).mono ?_
  rintro e w7 ⟨rfl, hb⟩
  rw [HOk.out]
  clear q0
  have HR7 := Lib.hid (HR6.out.below hb (by omega))
  have HXt7 := Lib.hid ((hb.block _ (lt_of_block HXt6.out)).trans HXt6.out)
  have HT7 := Lib.hid (HT6.out.below hb (by omega))
  have hs7 := hb.size
  have HB7 := Lib.hid (HB6.out.trans (hb.mono (by omega)))
  have HVA7 := Lib.hid (HVA6.out.below hb (by omega))
  have HOA7 := Lib.hid (HOA6.out.below hb (by omega))
  have HXa7 := Lib.hid ((hb.block _ (lt_of_row HXa6.out)).trans HXa6.out)
  clear hb HB6 HVA6 HOA6 HXa6
  clear HT6
  clear HR6 HXt6
  cases ok
  · skip
    have q0 := one_cell HXt7.out
    go_wp2_with fail
    refine (specStable w7 w7.heap.size aa n c t (HR7.out.mores (by omega)) (Nat.le_refl _) (by omega) HSh.out).mono ?_
    rintro e w8 ⟨vv, vc, rfl, ho, hb⟩
    have HU8 := Lib.hid ho.ints
    clear ho
    clear q0
    have HR8 := Lib.hid (HR7.out.below hb (by omega))
    have HXt8 := Lib.hid ((hb.block _ (lt_of_block HXt7.out)).trans HXt7.out)
    have HT8 := Lib.hid (HT7.out.below hb (by omega))
    have hs8 := hb.size
    have HB8 := Lib.hid (HB7.out.trans (hb.mono (by omega)))
    have HVA8 := Lib.hid (HVA7.out.below hb (by omega))
    have HOA8 := Lib.hid (HOA7.out.below hb (by omega))
    have HXa8 := Lib.hid ((hb.block _ (lt_of_row HXa7.out)).trans HXa7.out)
    clear hb HB7 HVA7 HOA7 HXa7
    clear HT7
    clear HR7 HXt7
    go_wp2_with fail
    refine (sameIntsS w8 w8.heap.size w8.heap.size sv vv (stableL t).length sc (stableL t).length vc (stableL t) (stableL t) (HT8.out.more (by omega)) (HU8.out.more (by omega)) (by omega) (by omega)).mono ?_
    rintro e w9 ⟨rfl, hsm⟩
    rw [decide_eq_true rfl]
    have hb := hsm.below w8.heap.size
    clear hsm
    have HR9 := Lib.hid (HR8.out.below hb (by omega))
    have HXt9 := Lib.hid ((hb.block _ (lt_of_block HXt8.out)).trans HXt8.out)
    have HT9 := Lib.hid (HT8.out.below hb (by omega))
    have HU9 := Lib.hid (HU8.out.below hb (by omega))
    have hs9 := hb.size
    have HB9 := Lib.hid (HB8.out.trans (hb.mono (by omega)))
    have HVA9 := Lib.hid (HVA8.out.below hb (by omega))
    have HOA9 := Lib.hid (HOA8.out.below hb (by omega))
    have HXa9 := Lib.hid ((hb.block _ (lt_of_row HXa8.out)).trans HXa8.out)
    clear hb HB8 HVA8 HOA8 HXa8
    clear HT8 HU8
    clear HR8 HXt8
    clear HU9
    go_wp2
    go_ret
    exact ⟨rfl, HB9.out⟩
  obtain ⟨ck, hck⟩ : ∃ b, cartB xs l = b := ⟨_, rfl⟩
  have HCk := Lib.hid hck
  clear hck
  obtain ⟨c00, c01⟩ := pair_cells HXa7.out
  go_wp2_with fail
  refine (specCartOk w7 w7.heap.size ava aoa 4 avc l.length aoc xs l (HVA7.out.more (by omega)) (HOA7.out.more (by omega)) (Nat.le_refl _) (by omega) (by have := HCa.out.2.1; omega) HIa.out).mono ?_
  rintro e w8 ⟨rfl, hb⟩
  rw [HCk.out]
  clear c00 c01
  have HR8 := Lib.hid (HR7.out.below hb (by omega))
  have HXt8 := Lib.hid ((hb.block _ (lt_of_block HXt7.out)).trans HXt7.out)
  have HT8 := Lib.hid (HT7.out.below hb (by omega))
  have hs8 := hb.size
  have HB8 := Lib.hid (HB7.out.trans (hb.mono (by omega)))
  have HVA8 := Lib.hid (HVA7.out.below hb (by omega))
  have HOA8 := Lib.hid (HOA7.out.below hb (by omega))
  have HXa8 := Lib.hid ((hb.block _ (lt_of_row HXa7.out)).trans HXa7.out)
  clear hb HB7 HVA7 HOA7 HXa7
  clear HT7
  clear HR7 HXt7
  cases ck
  · skip
    have q0 := one_cell HXt8.out
    go_wp2_with fail
    refine (specStable w8 w8.heap.size aa n c t (HR8.out.mores (by omega)) (Nat.le_refl _) (by omega) HSh.out).mono ?_
    rintro e w9 ⟨vv, vc, rfl, ho, hb⟩
    have HU9 := Lib.hid ho.ints
    clear ho
    clear q0
    have HR9 := Lib.hid (HR8.out.below hb (by omega))
    have HXt9 := Lib.hid ((hb.block _ (lt_of_block HXt8.out)).trans HXt8.out)
    have HT9 := Lib.hid (HT8.out.below hb (by omega))
    have hs9 := hb.size
    have HB9 := Lib.hid (HB8.out.trans (hb.mono (by omega)))
    have HVA9 := Lib.hid (HVA8.out.below hb (by omega))
    have HOA9 := Lib.hid (HOA8.out.below hb (by omega))
    have HXa9 := Lib.hid ((hb.block _ (lt_of_row HXa8.out)).trans HXa8.out)
    clear hb HB8 HVA8 HOA8 HXa8
    clear HT8
    clear HR8 HXt8
    go_wp2_with fail
    refine (sameIntsS w9 w9.heap.size w9.heap.size sv vv (stableL t).length sc (stableL t).length vc (stableL t) (stableL t) (HT9.out.more (by omega)) (HU9.out.more (by omega)) (by omega) (by omega)).mono ?_
    rintro e w10 ⟨rfl, hsm⟩
    rw [decide_eq_true rfl]
    have hb := hsm.below w9.heap.size
    clear hsm
    have HR10 := Lib.hid (HR9.out.below hb (by omega))
    have HXt10 := Lib.hid ((hb.block _ (lt_of_block HXt9.out)).trans HXt9.out)
    have HT10 := Lib.hid (HT9.out.below hb (by omega))
    have HU10 := Lib.hid (HU9.out.below hb (by omega))
    have hs10 := hb.size
    have HB10 := Lib.hid (HB9.out.trans (hb.mono (by omega)))
    have HVA10 := Lib.hid (HVA9.out.below hb (by omega))
    have HOA10 := Lib.hid (HOA9.out.below hb (by omega))
    have HXa10 := Lib.hid ((hb.block _ (lt_of_row HXa9.out)).trans HXa9.out)
    clear hb HB9 HVA9 HOA9 HXa9
    clear HT9 HU9
    clear HR9 HXt9
    clear HU10
    go_wp2
    go_ret
    exact ⟨rfl, HB10.out⟩
  obtain ⟨vs, hvs⟩ : ∃ vs, zipI min xs (stableL t) = vs := ⟨_, rfl⟩
  obtain ⟨os, hos⟩ : ∃ os, l.filter (cutP (stableL t)) = os := ⟨_, rfl⟩
  have HSv := Lib.hid (stable_vec HOk.out)
  have HCC : Hid (cartB vs os = true) := by rw [← hvs, ← hos]; exact cart_cut HCk.out HSv.out
  have HBs : Hid (cutB xs l (stableL t) = true) := cut_yes HCk.out HSv.out
  have HVs : Hid (cutVs xs (stableL t) true = vs) := hvs
  have HOs : Hid (cutOs l (stableL t) true = os) := hos
  have HIN : Hid (∀ i, i < 4 → inCart vs os (zipI min xs (rowOf t i)) (l.filter (cutP (rowOf t i))) = true) := fun i hi => by rw [← hvs, ← hos]; exact stable_cut HOk.out HCk.out hi
  have hlv : vs.length ≤ 4 := Nat.le_of_eq (cart_vecs HCC.out).1
  have hlo : os.length ≤ 400 := by rw [← hos]; exact Nat.le_trans (List.length_filter_le _ _) a6
  obtain rfl : n = 4 := by rw [← HR8.out.1]; exact (ack_row HOk.out (i := 0) (by omega)).2
  clear hvs hos
  obtain ⟨c00, c01⟩ := pair_cells HXa8.out
  go_wp2_with fail
  have hc := implCut w8 w8.heap.size ava aoa sv 4 avc l.length aoc (stableL t).length sc xs l (stableL t) (HVA8.out.more (by omega)) (HOA8.out.more (by omega)) (HT8.out.more (by omega)) (Nat.le_refl _) (by omega) HCa.out.1 ⟨by omega, HCa.out.2.1⟩ HIa.out (by omega)
  rw [HBs.out, HVs.out, HOs.out] at hc
  refine hc.mono ?_
  clear hc
  rintro e w9 ⟨nva, nvc, noa, noc, mid, rfl, hov, hop, hm1, hm2, hb, hcn⟩
  clear c00 c01
  have HCn := Lib.hid hcn
  have hov := hov.more (Nat.le_refl _) hm2
  clear hcn hm1 hm2
  have HR9 := Lib.hid (HR8.out.below hb (by omega))
  have HXt9 := Lib.hid ((hb.block _ (lt_of_block HXt8.out)).trans HXt8.out)
  have HT9 := Lib.hid (HT8.out.below hb (by omega))
  have hs9 := hb.size
  have HB9 := Lib.hid (HB8.out.trans (hb.mono (by omega)))
  have HVA9 := Lib.hid (HVA8.out.below hb (by omega))
  have HOA9 := Lib.hid (HOA8.out.below hb (by omega))
  have HXa9 := Lib.hid ((hb.block _ (lt_of_row HXa8.out)).trans HXa8.out)
  clear hb HB8 HVA8 HOA8 HXa8
  clear HT8
  clear HR8 HXt8
  have HVN9 := Lib.hid hov.ints
  have HON9 := Lib.hid hop.ops
  clear hov hop
  go_upto_region 9 with fail
  have hb : Below w9.heap.size w9 (w9.alloc (.cells #[.slice nva vs.length nvc, .slice noa os.length noc] 31)) := (Below.refl _ _).alloc (Nat.le_refl _) _
  have HXn10 := Lib.hid (boxAt (Below.refl _ (w9.alloc (.cells #[.slice nva vs.length nvc, .slice noa os.length noc] 31))))
  generalize w9.alloc (.cells #[.slice nva vs.length nvc, .slice noa os.length noc] 31) = w10 at hb HXn10 ⊢
  have HR10 := Lib.hid (HR9.out.below hb (by omega))
  have HXt10 := Lib.hid ((hb.block _ (lt_of_block HXt9.out)).trans HXt9.out)
  have HT10 := Lib.hid (HT9.out.below hb (by omega))
  have hs10 := hb.size
  have HB10 := Lib.hid (HB9.out.trans (hb.mono (by omega)))
  have HVA10 := Lib.hid (HVA9.out.below hb (by omega))
  have HOA10 := Lib.hid (HOA9.out.below hb (by omega))
  have HXa10 := Lib.hid ((hb.block _ (lt_of_row HXa9.out)).trans HXa9.out)
  have HVN10 := Lib.hid (HVN9.out.below hb (by omega))
  have HON10 := Lib.hid (HON9.out.below hb (by omega))
  clear hb HB9 HVA9 HOA9 HXa9 HVN9 HON9
  clear HT9
  clear HR9 HXt9
  go_wp2
  go_loopw [9] (fun i wr => ∃ q : Nat, q ≤ 4 ∧ i = .int .i64 (q : Int) ∧ Hid (Below w10.heap.size w10 wr)) (fun i _ => 4 - (intOf i).toNat)
  case atStart => exact ⟨0, Nat.zero_le _, rfl, Below.refl _ _⟩
  case round =>
    obtain ⟨q, hq, rfl, HBr⟩ := hrel
    have hsr := HBr.out.size
    obtain ⟨w11, hwr⟩ : ∃ z, z = wr := ⟨_, rfl⟩
    subst hwr
    have hb : Below w10.heap.size w10 w11 := HBr.out
    have HR11 := Lib.hid (HR10.out.below hb (by omega))
    have HXt11 := Lib.hid ((hb.block _ (lt_of_block HXt10.out)).trans HXt10.out)
    have HT11 := Lib.hid (HT10.out.below hb (by omega))
    have hs11 := hb.size
    have HB11 := Lib.hid (HB10.out.trans (hb.mono (by omega)))
    have HVA11 := Lib.hid (HVA10.out.below hb (by omega))
    have HOA11 := Lib.hid (HOA10.out.below hb (by omega))
    have HXa11 := Lib.hid ((hb.block _ (lt_of_row HXa10.out)).trans HXa10.out)
    have HVN11 := Lib.hid (HVN10.out.below hb (by omega))
    have HON11 := Lib.hid (HON10.out.below hb (by omega))
    have HXn11 := Lib.hid ((hb.block _ (lt_of_row HXn10.out)).trans HXn10.out)
    clear hb HB10 HVA10 HOA10 HXa10 HVN10 HON10 HXn10
    clear HT10
    clear HR10 HXt10
    have HC11 := HBr
    clear HBr
    by_cases hlt : q < 4
    rotate_left
    · obtain rfl : q = 4 := by omega
      have q0 := one_cell HXt11.out
      go_wp2
      go_ret
      exact ⟨rfl, HB11.out⟩
    obtain ⟨ab, ao, ai, ci, rfl, hab, hac, hax⟩ := HR11.out.2 q hlt
    have HXr11 : Hid (Ints w11 w11.heap.size ai (rowOf t q).length (rowOf t q)) := hax.more (by omega)
    have HAC : Hid (w11.cell? ⟨ab, ao + q, none⟩ = some (.slice ai (rowOf t q).length ci)) := hac
    have habl := block_lt_of_cell hac
    clear hab hac hax
    have hqi : (q : Int) < 4 := by omega
    have hq0 : decide ((q : Int) < 0) = false := decide_eq_false (by omega)
    have hq00 : ¬ ((q : Int) < 0) := by omega
    have hrl := HSh.out q hlt
    obtain ⟨vq, hvq⟩ : ∃ v, zipI min xs (rowOf t q) = v := ⟨_, rfl⟩
    obtain ⟨oq, hoq⟩ : ∃ v, l.filter (cutP (rowOf t q)) = v := ⟨_, rfl⟩
    have hrv := (ack_row HOk.out hlt).1
    have HBq : Hid (cutB xs l (rowOf t q) = true) := cut_yes HCk.out hrv
    have HVq : Hid (cutVs xs (rowOf t q) true = vq) := hvq
    have HOq : Hid (cutOs l (rowOf t q) true = oq) := hoq
    have HIq : Hid (inCart vs os vq oq = true) := by rw [← hvq, ← hoq]; exact HIN.out q hlt
    have hlq : vq.length ≤ 4 := by rw [← hvq]; exact Nat.le_of_eq (cart_vecs (cart_cut HCk.out hrv)).1
    have hlqo : oq.length ≤ 400 := by rw [← hoq]; exact Nat.le_trans (List.length_filter_le _ _) a6
    clear hvq hoq hrv
    have q0 := one_cell HXt11.out
    go_upto_region 12 with fail
    clear q0
    obtain ⟨w12, hzw⟩ : ∃ z, w11.drew = z := ⟨_, rfl⟩
    have hb : Below w11.heap.size w11 w12 := by rw [← hzw]; exact ⟨rfl, rfl, rfl, Nat.le_refl _, fun _ _ => rfl⟩
    have HG12 : Hid (Below w11.heap.size w11 w12) := hb
    have HR12 := Lib.hid (HR11.out.below hb (by omega))
    have HXt12 := Lib.hid ((hb.block _ (lt_of_block HXt11.out)).trans HXt11.out)
    have HT12 := Lib.hid (HT11.out.below hb (by omega))
    have HXr12 := Lib.hid (HXr11.out.below hb (by omega))
    have hs12 := hb.size
    have HB12 := Lib.hid (HB11.out.trans (hb.mono (by omega)))
    have HVA12 := Lib.hid (HVA11.out.below hb (by omega))
    have HOA12 := Lib.hid (HOA11.out.below hb (by omega))
    have HXa12 := Lib.hid ((hb.block _ (lt_of_row HXa11.out)).trans HXa11.out)
    have HVN12 := Lib.hid (HVN11.out.below hb (by omega))
    have HON12 := Lib.hid (HON11.out.below hb (by omega))
    have HXn12 := Lib.hid ((hb.block _ (lt_of_row HXn11.out)).trans HXn11.out)
    have HC12 := Lib.hid (HC11.out.trans (hb.mono (by omega)))
    clear hb HB11 HVA11 HOA11 HXa11 HVN11 HON11 HXn11 HC11
    clear HT11 HXr11
    clear HR11 HXt11
    have hS : w12.cell? ⟨w0.heap.size, 0, none⟩ = some (.slice (some ⟨ab, ao, none⟩) 4 c) ∧ w12.cell? ⟨w2.heap.size, 0, none⟩ = some (.slice ava 4 avc) ∧ w12.cell? ⟨w2.heap.size, 1, none⟩ = some (.slice aoa l.length aoc) ∧ w12.cell? ⟨ab, ao + q, none⟩ = some (.slice ai (rowOf t q).length ci) := ⟨one_cell HXt12.out, (pair_cells HXa12.out).1, (pair_cells HXa12.out).2, (HG12.out.cell (p := ⟨ab, ao + q, none⟩) habl).trans HAC.out⟩
    refine wp_region_held_drew (S := fun w' => w'.cell? ⟨w0.heap.size, 0, none⟩ = some (.slice (some ⟨ab, ao, none⟩) 4 c) ∧ w'.cell? ⟨w2.heap.size, 0, none⟩ = some (.slice ava 4 avc) ∧ w'.cell? ⟨w2.heap.size, 1, none⟩ = some (.slice aoa l.length aoc) ∧ w'.cell? ⟨ab, ao + q, none⟩ = some (.slice ai (rowOf t q).length ci)) (by kernel_rfl) (by rw [hzw]; exact hS) (fun hHeld => ?_)
    rw [hzw]
    clear hHeld hzw
    refine wpAnyH_take (i := 0) (oi := { dst := some 56, op := .load 31 (.tmp 4), type := 31, pos := "laws.go:1743", after := #[], guard := none }) (v := ?_) rfl (by kernel_rfl) (by kernel_rfl) (by kernel_rfl) (fun _ _ _ h => h) (Or.inl ⟨by rfl, ?_⟩) (by assumption) ?_
    rotate_left
    · intro w hSw
      (try dsimp only at hSw)
      first | (go_simp; done) | (go_simp; with_reducible rfl)
    (try simp only [Act.put, List.setIfInBounds_toArray, List.set_cons_zero, List.set_cons_succ])
    refine wpAnyH_take (i := 1) (oi := { dst := some 57, op := .fieldAddr 26 (.tmp 3) 0, type := 0, pos := "laws.go:1743", after := #[], guard := none }) (v := ?_) rfl (by kernel_rfl) (by kernel_rfl) (by kernel_rfl) (fun _ _ _ h => h) (Or.inl ⟨by rfl, ?_⟩) (by assumption) ?_
    rotate_left
    · intro w hSw
      (try dsimp only at hSw)
      first | (go_simp; done) | (go_simp; with_reducible rfl)
    (try simp only [Act.put, List.setIfInBounds_toArray, List.set_cons_zero, List.set_cons_succ])
    refine wpAnyH_take (i := 2) (oi := { dst := some 58, op := .load 24 (.tmp 57), type := 24, pos := "laws.go:1743", after := #[⟨1, .data⟩], guard := none }) (v := ?_) rfl (by kernel_rfl) (by kernel_rfl) (by kernel_rfl) (fun _ _ _ h => h) (Or.inl ⟨by rfl, ?_⟩) (by assumption) ?_
    rotate_left
    · intro w hSw
      (try dsimp only at hSw)
      first | (go_simp; done) | (go_simp; with_reducible rfl)
    (try simp only [Act.put, List.setIfInBounds_toArray, List.set_cons_zero, List.set_cons_succ])
    refine wpAnyH_take (i := 3) (oi := { dst := some 59, op := .move (.tmp 9), type := 3, pos := "laws.go:1743", after := #[], guard := none }) (v := ?_) rfl (by kernel_rfl) (by kernel_rfl) (by kernel_rfl) (fun _ _ _ h => h) (Or.inl ⟨by rfl, ?_⟩) (by assumption) ?_
    rotate_left
    · intro w hSw
      (try dsimp only at hSw)
      first | (go_simp; done) | (go_simp; with_reducible rfl)
    (try simp only [Act.put, List.setIfInBounds_toArray, List.set_cons_zero, List.set_cons_succ])
    refine wpAnyH_take (i := 4) (oi := { dst := some 60, op := .indexAddr 24 (.tmp 58) (.tmp 59), type := 0, pos := "laws.go:1743", after := #[⟨2, .data⟩, ⟨3, .data⟩], guard := none }) (v := ?_) rfl (by kernel_rfl) (by kernel_rfl) (by kernel_rfl) (fun _ _ _ h => h) (Or.inl ⟨by rfl, ?_⟩) (by assumption) ?_
    rotate_left
    · intro w hSw
      (try dsimp only at hSw)
      first | (go_simp; done) | (go_simp; with_reducible rfl)
    (try simp only [Act.put, List.setIfInBounds_toArray, List.set_cons_zero, List.set_cons_succ])
    refine wpAnyH_take (i := 5) (oi := { dst := some 61, op := .load 28 (.tmp 60), type := 28, pos := "laws.go:1743", after := #[⟨4, .data⟩], guard := none }) (v := ?_) rfl (by kernel_rfl) (by kernel_rfl) (by kernel_rfl) (fun _ _ _ h => h) (Or.inl ⟨by rfl, ?_⟩) (by assumption) ?_
    rotate_left
    · intro w hSw
      (try dsimp only at hSw)
      first | (go_simp; done) | (go_simp; with_reducible rfl)
    (try simp only [Act.put, List.setIfInBounds_toArray, List.set_cons_zero, List.set_cons_succ])
    refine wpAnyH_ready (rs := [6, 10]) (by kernel_rfl) (by simp) ?_
    refine AllReadyH.cons (o := { dst := some 62, op := .call { callee := .value (.func 19), args := #[.tmp 56, .tmp 61], argTypes := #[31, 28] }, type := 38, pos := "laws.go:1743", after := #[⟨0, .data⟩, ⟨5, .data⟩], guard := none }) rfl (fun K hK => ?_) ?_
    · skip
      go_simp
      go_at_call 19
      have hc := implCut w12 w12.heap.size ava aoa ai 4 avc l.length aoc (rowOf t q).length ci xs l (rowOf t q) (HVA12.out.more (by omega)) (HOA12.out.more (by omega)) (HXr12.out.more (by omega)) (Nat.le_refl _) (by omega) HCa.out.1 ⟨by omega, HCa.out.2.1⟩ HIa.out (by omega)
      rw [HBq.out, HVq.out, HOq.out] at hc
      refine hc.mono ?_
      clear hc
      rintro e w13 ⟨yva, yvc, yoa, yoc, mid, rfl, hov, hop, hm1, hm2, hb, hcn⟩
      have HCy := Lib.hid hcn
      have hov := hov.more (Nat.le_refl _) hm2
      clear hcn
      have HR13 := Lib.hid (HR12.out.below hb (by omega))
      have HXt13 := Lib.hid ((hb.block _ (lt_of_block HXt12.out)).trans HXt12.out)
      have HT13 := Lib.hid (HT12.out.below hb (by omega))
      have HXr13 := Lib.hid (HXr12.out.below hb (by omega))
      have hs13 := hb.size
      have HB13 := Lib.hid (HB12.out.trans (hb.mono (by omega)))
      have HVA13 := Lib.hid (HVA12.out.below hb (by omega))
      have HOA13 := Lib.hid (HOA12.out.below hb (by omega))
      have HXa13 := Lib.hid ((hb.block _ (lt_of_row HXa12.out)).trans HXa12.out)
      have HVN13 := Lib.hid (HVN12.out.below hb (by omega))
      have HON13 := Lib.hid (HON12.out.below hb (by omega))
      have HXn13 := Lib.hid ((hb.block _ (lt_of_row HXn12.out)).trans HXn12.out)
      have HC13 := Lib.hid (HC12.out.trans (hb.mono (by omega)))
      have HG13 := Lib.hid (HG12.out.trans (hb.mono (by omega)))
      clear hb HB12 HVA12 HOA12 HXa12 HVN12 HON12 HXn12 HC12 HG12
      clear HT12 HXr12
      clear HR12 HXt12
      refine hK.out _ _ ⟨one_cell HXt13.out, (pair_cells HXa13.out).1, (pair_cells HXa13.out).2, (HG13.out.cell (p := ⟨ab, ao + q, none⟩) habl).trans HAC.out⟩ (fun hHeld2 => ?_)
      clear hK K
      (try simp only [Act.put, List.setIfInBounds_toArray, List.set_cons_zero, List.set_cons_succ])
      have HVY13 := Lib.hid hov.ints
      have HOY13 := Lib.hid hop.ops
      clear hov hop hm1 hm2
      refine wpAnyH_take (i := 7) (oi := { dst := some 55, op := .move (.tmp 62), type := 38, pos := "laws.go:1743", after := #[⟨6, .data⟩], guard := none }) (v := ?_) rfl (by kernel_rfl) (by kernel_rfl) (by kernel_rfl) (fun _ _ _ h => h) (Or.inl ⟨by rfl, ?_⟩) (by assumption) ?_
      rotate_left
      · intro w hSw
        (try dsimp only at hSw)
        first | (go_simp; done) | (go_simp; with_reducible rfl)
      (try simp only [Act.put, List.setIfInBounds_toArray, List.set_cons_zero, List.set_cons_succ])
      refine wpAnyH_take (i := 8) (oi := { dst := some 63, op := .extract (.tmp 55) 0, type := 31, pos := "laws.go:1743", after := #[⟨7, .data⟩], guard := none }) (v := ?_) rfl (by kernel_rfl) (by kernel_rfl) (by kernel_rfl) (fun _ _ _ h => h) (Or.inl ⟨by rfl, ?_⟩) (by assumption) ?_
      rotate_left
      · intro w hSw
        (try dsimp only at hSw)
        first | (go_simp; done) | (go_simp; with_reducible rfl)
      (try simp only [Act.put, List.setIfInBounds_toArray, List.set_cons_zero, List.set_cons_succ])
      refine wpAnyH_take (i := 9) (oi := { dst := some 64, op := .extract (.tmp 55) 1, type := 4, pos := "laws.go:1743", after := #[⟨7, .data⟩, { on := 11, ground := Ground.gcOnly Departure.lateStores }], guard := none }) (v := ?_) rfl (by kernel_rfl) (by kernel_rfl) (by kernel_rfl) (fun _ _ _ h => h) (Or.inl ⟨by rfl, ?_⟩) (by assumption) ?_
      rotate_left
      · intro w hSw
        (try dsimp only at hSw)
        first | (go_simp; done) | (go_simp; with_reducible rfl)
      (try simp only [Act.put, List.setIfInBounds_toArray, List.set_cons_zero, List.set_cons_succ])
      refine wpAnyH_ready (rs := [10]) (by kernel_rfl) (by simp) ?_
      refine AllReadyH.cons (o := { dst := some 10, op := .alloc 31, type := 0, pos := "laws.go:1743", after := #[], guard := none }) rfl (fun K hK => ?_) AllReadyH.nil
      have hbA : Below w13.heap.size w13 (w13.alloc (.cells #[.slice none 0 0, .slice none 0 0] 31)) := (Below.refl _ w13).alloc (Nat.le_refl _) _
      have hX := boxAt (Below.refl _ (w13.alloc (.cells #[.slice none 0 0, .slice none 0 0] 31)))
      go_simp
      refine hK.out _ _ ⟨(hbA.cell (p := ⟨w0.heap.size, 0, none⟩) (lt_of_block HXt13.out)).trans (one_cell HXt13.out), (hbA.cell (p := ⟨w2.heap.size, 0, none⟩) (lt_of_row HXa13.out)).trans ((pair_cells HXa13.out).1), (hbA.cell (p := ⟨w2.heap.size, 1, none⟩) (lt_of_row HXa13.out)).trans ((pair_cells HXa13.out).2), (hbA.cell (p := ⟨ab, ao + q, none⟩) (Nat.lt_of_lt_of_le habl (by omega))).trans ((HG13.out.cell (p := ⟨ab, ao + q, none⟩) habl).trans HAC.out)⟩ (fun hHeldA => ?_)
      clear hK K
      (try simp only [Act.put, List.setIfInBounds_toArray, List.set_cons_zero, List.set_cons_succ])
      generalize w13.alloc (.cells #[.slice none 0 0, .slice none 0 0] 31) = z at hHeldA hbA hX ⊢
      obtain ⟨r0, r1⟩ := pair_cells hX
      obtain ⟨f0, f1⟩ := pair_frozen hX
      have hb : Below w13.heap.size w13 ((z.setCell ⟨w13.heap.size, 0, none⟩ (.slice yva vq.length yvc)).setCell ⟨w13.heap.size, 1, none⟩ (.slice yoa oq.length yoc)) := (hbA.setCell (p := ⟨w13.heap.size, 0, none⟩) (Nat.le_refl _) _).setCell (p := ⟨w13.heap.size, 1, none⟩) (Nat.le_refl _) _
      have hXf := pair_set (.slice yva vq.length yvc) (.slice yoa oq.length yoc) hX
      refine wpAnyH_ready (rs := [11]) (by kernel_rfl) (by simp) ?_
      refine AllReadyH.cons (o := { dst := none, op := .store 31 (.tmp 10) (.tmp 63), type := 0, pos := "laws.go:1743", after := #[⟨10, .data⟩, ⟨8, .data⟩, ⟨6, .chain⟩, ⟨0, .phase⟩, ⟨1, .phase⟩, ⟨2, .phase⟩, ⟨3, .phase⟩, ⟨4, .phase⟩, ⟨5, .phase⟩, ⟨6, .phase⟩, ⟨7, .phase⟩, ⟨8, .phase⟩, ⟨9, .textOnly .lateStores⟩, ⟨10, .phase⟩], guard := none }) rfl (fun K hK => ?_) AllReadyH.nil
      go_simp
      refine hK.out _ _ ⟨(hb.cell (p := ⟨w0.heap.size, 0, none⟩) (lt_of_block HXt13.out)).trans (one_cell HXt13.out), (hb.cell (p := ⟨w2.heap.size, 0, none⟩) (lt_of_row HXa13.out)).trans ((pair_cells HXa13.out).1), (hb.cell (p := ⟨w2.heap.size, 1, none⟩) (lt_of_row HXa13.out)).trans ((pair_cells HXa13.out).2), (hb.cell (p := ⟨ab, ao + q, none⟩) (Nat.lt_of_lt_of_le habl (by omega))).trans ((HG13.out.cell (p := ⟨ab, ao + q, none⟩) habl).trans HAC.out)⟩ (fun hHeldF => ?_)
      clear hK K r0 r1 f0 f1
      (try simp only [Act.put, List.setIfInBounds_toArray, List.set_cons_zero, List.set_cons_succ])
      refine wpAnyH_take (i := 12) (oi := { dst := some 11, op := .assign (.tmp 64), type := 4, pos := "laws.go:1743", after := #[⟨9, .data⟩, ⟨11, .chain⟩, ⟨0, .phase⟩, ⟨1, .phase⟩, ⟨2, .phase⟩, ⟨3, .phase⟩, ⟨4, .phase⟩, ⟨5, .phase⟩, ⟨6, .phase⟩, ⟨7, .phase⟩, ⟨8, .phase⟩, ⟨9, .phase⟩, ⟨10, .phase⟩, ⟨11, .phase⟩], guard := none }) (v := ?_) rfl (by kernel_rfl) (by kernel_rfl) (by kernel_rfl) (fun _ _ _ h => h) (Or.inl ⟨by rfl, ?_⟩) (by assumption) ?_
      rotate_left
      · intro w hSw
        (try dsimp only at hSw)
        first | (go_simp; done) | (go_simp; with_reducible rfl)
      (try simp only [Act.put, List.setIfInBounds_toArray, List.set_cons_zero, List.set_cons_succ])
      refine wpAnyH_done (by kernel_rfl) ?_ _
      clear hHeldF hbA hX
      generalize (z.setCell ⟨w13.heap.size, 0, none⟩ (.slice yva vq.length yvc)).setCell ⟨w13.heap.size, 1, none⟩ (.slice yoa oq.length yoc) = w14 at hb hXf ⊢
      have HXy14 := Lib.hid hXf
      clear hXf
      have HR14 := Lib.hid (HR13.out.below hb (by omega))
      have HXt14 := Lib.hid ((hb.block _ (lt_of_block HXt13.out)).trans HXt13.out)
      have HT14 := Lib.hid (HT13.out.below hb (by omega))
      have HXr14 := Lib.hid (HXr13.out.below hb (by omega))
      have hs14 := hb.size
      have HB14 := Lib.hid (HB13.out.trans (hb.mono (by omega)))
      have HVA14 := Lib.hid (HVA13.out.below hb (by omega))
      have HOA14 := Lib.hid (HOA13.out.below hb (by omega))
      have HXa14 := Lib.hid ((hb.block _ (lt_of_row HXa13.out)).trans HXa13.out)
      have HVN14 := Lib.hid (HVN13.out.below hb (by omega))
      have HON14 := Lib.hid (HON13.out.below hb (by omega))
      have HXn14 := Lib.hid ((hb.block _ (lt_of_row HXn13.out)).trans HXn13.out)
      have HC14 := Lib.hid (HC13.out.trans (hb.mono (by omega)))
      have HG14 := Lib.hid (HG13.out.trans (hb.mono (by omega)))
      have HVY14 := Lib.hid (HVY13.out.below hb (by omega))
      have HOY14 := Lib.hid (HOY13.out.below hb (by omega))
      clear hb HB13 HVA13 HOA13 HXa13 HVN13 HON13 HXn13 HC13 HG13 HVY13 HOY13
      clear HT13 HXr13
      clear HR13 HXt13
      obtain ⟨c00, c01⟩ := pair_cells HXn14.out
      obtain ⟨c10, c11⟩ := pair_cells HXy14.out
      go_wp2_with fail
      have hc := implWithinC w14 w14.heap.size nva noa yva yoa vs.length nvc os.length noc vq.length yvc oq.length yoc vs os vq oq (HVN14.out.more (by omega)) (HON14.out.more (by omega)) (HVY14.out.more (by omega)) (HOY14.out.more (by omega)) (Nat.le_refl _) (by omega) HCn.out.1 ⟨by omega, HCn.out.2.1⟩ (by omega) HCy.out.1 ⟨by omega, HCy.out.2.1⟩
      rw [HIq.out] at hc
      refine hc.mono ?_
      clear hc
      rintro e w15 ⟨rfl, hb⟩
      clear c00 c01 c10 c11
      have HR15 := Lib.hid (HR14.out.below hb (by omega))
      have HXt15 := Lib.hid ((hb.block _ (lt_of_block HXt14.out)).trans HXt14.out)
      have HT15 := Lib.hid (HT14.out.below hb (by omega))
      have HXr15 := Lib.hid (HXr14.out.below hb (by omega))
      have hs15 := hb.size
      have HB15 := Lib.hid (HB14.out.trans (hb.mono (by omega)))
      have HVA15 := Lib.hid (HVA14.out.below hb (by omega))
      have HOA15 := Lib.hid (HOA14.out.below hb (by omega))
      have HXa15 := Lib.hid ((hb.block _ (lt_of_row HXa14.out)).trans HXa14.out)
      have HVN15 := Lib.hid (HVN14.out.below hb (by omega))
      have HON15 := Lib.hid (HON14.out.below hb (by omega))
      have HXn15 := Lib.hid ((hb.block _ (lt_of_row HXn14.out)).trans HXn14.out)
      have HC15 := Lib.hid (HC14.out.trans (hb.mono (by omega)))
      have HG15 := Lib.hid (HG14.out.trans (hb.mono (by omega)))
      have HVY15 := Lib.hid (HVY14.out.below hb (by omega))
      have HOY15 := Lib.hid (HOY14.out.below hb (by omega))
      have HXy15 := Lib.hid ((hb.block _ (lt_of_row HXy14.out)).trans HXy14.out)
      clear hb HB14 HVA14 HOA14 HXa14 HVN14 HON14 HXn14 HC14 HG14 HVY14 HOY14 HXy14
      clear HT14 HXr14
      clear HR14 HXt14
      go_wp2
      go_roundw
      case rel => exact ⟨q + 1, by omega, by go_num, HC15⟩
      case measure => simp [intOf]; omega
    refine AllReadyH.cons (o := { dst := some 10, op := .alloc 31, type := 0, pos := "laws.go:1743", after := #[], guard := none }) rfl (fun K hK => ?_) AllReadyH.nil
    have hb : Below w12.heap.size w12 (w12.alloc (.cells #[.slice none 0 0, .slice none 0 0] 31)) := (Below.refl _ w12).alloc (Nat.le_refl _) _
    have hX := boxAt (Below.refl _ (w12.alloc (.cells #[.slice none 0 0, .slice none 0 0] 31)))
    go_simp
    refine hK.out _ _ ⟨(hb.cell (p := ⟨w0.heap.size, 0, none⟩) (lt_of_block HXt12.out)).trans (one_cell HXt12.out), (hb.cell (p := ⟨w2.heap.size, 0, none⟩) (lt_of_row HXa12.out)).trans ((pair_cells HXa12.out).1), (hb.cell (p := ⟨w2.heap.size, 1, none⟩) (lt_of_row HXa12.out)).trans ((pair_cells HXa12.out).2), (hb.cell (p := ⟨ab, ao + q, none⟩) (Nat.lt_of_lt_of_le habl (by omega))).trans ((HG12.out.cell (p := ⟨ab, ao + q, none⟩) habl).trans HAC.out)⟩ (fun hHeldA => ?_)
    clear hK K
    (try simp only [Act.put, List.setIfInBounds_toArray, List.set_cons_zero, List.set_cons_succ])
    generalize w12.alloc (.cells #[.slice none 0 0, .slice none 0 0] 31) = w13 at hHeldA hb hX ⊢
    have hlt1 := lt_of_row hX
    have HE13 := Lib.hid hb
    have HXz13 := Lib.hid hX
    clear hX
    have HR13 := Lib.hid (HR12.out.below hb (by omega))
    have HXt13 := Lib.hid ((hb.block _ (lt_of_block HXt12.out)).trans HXt12.out)
    have HT13 := Lib.hid (HT12.out.below hb (by omega))
    have HXr13 := Lib.hid (HXr12.out.below hb (by omega))
    have hs13 := hb.size
    have HB13 := Lib.hid (HB12.out.trans (hb.mono (by omega)))
    have HVA13 := Lib.hid (HVA12.out.below hb (by omega))
    have HOA13 := Lib.hid (HOA12.out.below hb (by omega))
    have HXa13 := Lib.hid ((hb.block _ (lt_of_row HXa12.out)).trans HXa12.out)
    have HVN13 := Lib.hid (HVN12.out.below hb (by omega))
    have HON13 := Lib.hid (HON12.out.below hb (by omega))
    have HXn13 := Lib.hid ((hb.block _ (lt_of_row HXn12.out)).trans HXn12.out)
    have HC13 := Lib.hid (HC12.out.trans (hb.mono (by omega)))
    have HG13 := Lib.hid (HG12.out.trans (hb.mono (by omega)))
    clear hb
    refine wpAnyH_ready (rs := [6]) (by kernel_rfl) (by simp) ?_
    refine AllReadyH.cons (o := { dst := some 62, op := .call { callee := .value (.func 19), args := #[.tmp 56, .tmp 61], argTypes := #[31, 28] }, type := 38, pos := "laws.go:1743", after := #[⟨0, .data⟩, ⟨5, .data⟩], guard := none }) rfl (fun K hK => ?_) AllReadyH.nil
    go_simp
    go_at_call 19
    have hc := implCut w13 w13.heap.size ava aoa ai 4 avc l.length aoc (rowOf t q).length ci xs l (rowOf t q) (HVA13.out.more (by omega)) (HOA13.out.more (by omega)) (HXr13.out.more (by omega)) (Nat.le_refl _) (by omega) HCa.out.1 ⟨by omega, HCa.out.2.1⟩ HIa.out (by omega)
    rw [HBq.out, HVq.out, HOq.out] at hc
    refine hc.mono ?_
    clear hc
    rintro e w14 ⟨yva, yvc, yoa, yoc, mid, rfl, hov, hop, hm1, hm2, hb, hcn⟩
    have HCy := Lib.hid hcn
    have hov := hov.more (Nat.le_refl _) hm2
    clear hcn
    have HR14 := Lib.hid (HR13.out.below hb (by omega))
    have HXt14 := Lib.hid ((hb.block _ (lt_of_block HXt13.out)).trans HXt13.out)
    have HT14 := Lib.hid (HT13.out.below hb (by omega))
    have HXr14 := Lib.hid (HXr13.out.below hb (by omega))
    have hs14 := hb.size
    have HB14 := Lib.hid (HB13.out.trans (hb.mono (by omega)))
    have HVA14 := Lib.hid (HVA13.out.below hb (by omega))
    have HOA14 := Lib.hid (HOA13.out.below hb (by omega))
    have HXa14 := Lib.hid ((hb.block _ (lt_of_row HXa13.out)).trans HXa13.out)
    have HVN14 := Lib.hid (HVN13.out.below hb (by omega))
    have HON14 := Lib.hid (HON13.out.below hb (by omega))
    have HXn14 := Lib.hid ((hb.block _ (lt_of_row HXn13.out)).trans HXn13.out)
    have HC14 := Lib.hid (HC13.out.trans (hb.mono (by omega)))
    have HG14 := Lib.hid (HG13.out.trans (hb.mono (by omega)))
    have HE14 := Lib.hid (HE13.out.trans (hb.mono (by omega)))
    have HXz14 := Lib.hid ((hb.block _ (lt_of_row HXz13.out)).trans HXz13.out)
    clear hb HB13 HVA13 HOA13 HXa13 HVN13 HON13 HXn13 HC13 HG13 HE13 HXz13
    clear HT13 HXr13
    clear HR13 HXt13
    refine hK.out _ _ ⟨one_cell HXt14.out, (pair_cells HXa14.out).1, (pair_cells HXa14.out).2, (HG14.out.cell (p := ⟨ab, ao + q, none⟩) habl).trans HAC.out⟩ (fun hHeld2 => ?_)
    clear hK K
    (try simp only [Act.put, List.setIfInBounds_toArray, List.set_cons_zero, List.set_cons_succ])
    refine wpAnyH_take (i := 7) (oi := { dst := some 55, op := .move (.tmp 62), type := 38, pos := "laws.go:1743", after := #[⟨6, .data⟩], guard := none }) (v := ?_) rfl (by kernel_rfl) (by kernel_rfl) (by kernel_rfl) (fun _ _ _ h => h) (Or.inl ⟨by rfl, ?_⟩) (by assumption) ?_
    rotate_left
    · intro w hSw
      (try dsimp only at hSw)
      first | (go_simp; done) | (go_simp; with_reducible rfl)
    (try simp only [Act.put, List.setIfInBounds_toArray, List.set_cons_zero, List.set_cons_succ])
    refine wpAnyH_take (i := 8) (oi := { dst := some 63, op := .extract (.tmp 55) 0, type := 31, pos := "laws.go:1743", after := #[⟨7, .data⟩], guard := none }) (v := ?_) rfl (by kernel_rfl) (by kernel_rfl) (by kernel_rfl) (fun _ _ _ h => h) (Or.inl ⟨by rfl, ?_⟩) (by assumption) ?_
    rotate_left
    · intro w hSw
      (try dsimp only at hSw)
      first | (go_simp; done) | (go_simp; with_reducible rfl)
    (try simp only [Act.put, List.setIfInBounds_toArray, List.set_cons_zero, List.set_cons_succ])
    refine wpAnyH_take (i := 9) (oi := { dst := some 64, op := .extract (.tmp 55) 1, type := 4, pos := "laws.go:1743", after := #[⟨7, .data⟩, { on := 11, ground := Ground.gcOnly Departure.lateStores }], guard := none }) (v := ?_) rfl (by kernel_rfl) (by kernel_rfl) (by kernel_rfl) (fun _ _ _ h => h) (Or.inl ⟨by rfl, ?_⟩) (by assumption) ?_
    rotate_left
    · intro w hSw
      (try dsimp only at hSw)
      first | (go_simp; done) | (go_simp; with_reducible rfl)
    (try simp only [Act.put, List.setIfInBounds_toArray, List.set_cons_zero, List.set_cons_succ])
    obtain ⟨r0, r1⟩ := pair_cells HXz14.out
    obtain ⟨f0, f1⟩ := pair_frozen HXz14.out
    have hbr : Below w12.heap.size w12 ((w14.setCell ⟨w12.heap.size, 0, none⟩ (.slice yva vq.length yvc)).setCell ⟨w12.heap.size, 1, none⟩ (.slice yoa oq.length yoc)) := (HE14.out.setCell (p := ⟨w12.heap.size, 0, none⟩) (Nat.le_refl _) _).setCell (p := ⟨w12.heap.size, 1, none⟩) (Nat.le_refl _) _
    have hXf := pair_set (.slice yva vq.length yvc) (.slice yoa oq.length yoc) HXz14.out
    have hVf := (hov.kept (w' := (w14.setCell ⟨w12.heap.size, 0, none⟩ (.slice yva vq.length yvc)).setCell ⟨w12.heap.size, 1, none⟩ (.slice yoa oq.length yoc)) fun j h1 h2 => pair_other _ _ (by omega)).ints
    have hOf := (hop.kept (w' := (w14.setCell ⟨w12.heap.size, 0, none⟩ (.slice yva vq.length yvc)).setCell ⟨w12.heap.size, 1, none⟩ (.slice yoa oq.length yoc)) fun j h1 h2 => pair_other _ _ (by omega)).ops
    have hsz : ((w14.setCell ⟨w12.heap.size, 0, none⟩ (.slice yva vq.length yvc)).setCell ⟨w12.heap.size, 1, none⟩ (.slice yoa oq.length yoc)).heap.size = w14.heap.size := pair_size _ _ _ _
    clear hov hop
    refine wpAnyH_ready (rs := [11]) (by kernel_rfl) (by simp) ?_
    refine AllReadyH.cons (o := { dst := none, op := .store 31 (.tmp 10) (.tmp 63), type := 0, pos := "laws.go:1743", after := #[⟨10, .data⟩, ⟨8, .data⟩, ⟨6, .chain⟩, ⟨0, .phase⟩, ⟨1, .phase⟩, ⟨2, .phase⟩, ⟨3, .phase⟩, ⟨4, .phase⟩, ⟨5, .phase⟩, ⟨6, .phase⟩, ⟨7, .phase⟩, ⟨8, .phase⟩, ⟨9, .textOnly .lateStores⟩, ⟨10, .phase⟩], guard := none }) rfl (fun K hK => ?_) AllReadyH.nil
    go_simp
    refine hK.out _ _ ⟨(hbr.cell (p := ⟨w0.heap.size, 0, none⟩) (lt_of_block HXt12.out)).trans (one_cell HXt12.out), (hbr.cell (p := ⟨w2.heap.size, 0, none⟩) (lt_of_row HXa12.out)).trans ((pair_cells HXa12.out).1), (hbr.cell (p := ⟨w2.heap.size, 1, none⟩) (lt_of_row HXa12.out)).trans ((pair_cells HXa12.out).2), (hbr.cell (p := ⟨ab, ao + q, none⟩) (Nat.lt_of_lt_of_le habl (by omega))).trans ((HG12.out.cell (p := ⟨ab, ao + q, none⟩) habl).trans HAC.out)⟩ (fun hHeldF => ?_)
    clear hK K r0 r1 f0 f1
    (try simp only [Act.put, List.setIfInBounds_toArray, List.set_cons_zero, List.set_cons_succ])
    refine wpAnyH_take (i := 12) (oi := { dst := some 11, op := .assign (.tmp 64), type := 4, pos := "laws.go:1743", after := #[⟨9, .data⟩, ⟨11, .chain⟩, ⟨0, .phase⟩, ⟨1, .phase⟩, ⟨2, .phase⟩, ⟨3, .phase⟩, ⟨4, .phase⟩, ⟨5, .phase⟩, ⟨6, .phase⟩, ⟨7, .phase⟩, ⟨8, .phase⟩, ⟨9, .phase⟩, ⟨10, .phase⟩, ⟨11, .phase⟩], guard := none }) (v := ?_) rfl (by kernel_rfl) (by kernel_rfl) (by kernel_rfl) (fun _ _ _ h => h) (Or.inl ⟨by rfl, ?_⟩) (by assumption) ?_
    rotate_left
    · intro w hSw
      (try dsimp only at hSw)
      first | (go_simp; done) | (go_simp; with_reducible rfl)
    (try simp only [Act.put, List.setIfInBounds_toArray, List.set_cons_zero, List.set_cons_succ])
    refine wpAnyH_done (by kernel_rfl) ?_ _
    clear hHeldF
    generalize (w14.setCell ⟨w12.heap.size, 0, none⟩ (.slice yva vq.length yvc)).setCell ⟨w12.heap.size, 1, none⟩ (.slice yoa oq.length yoc) = w13 at hbr hXf hVf hOf hsz ⊢
    have hb := hbr
    clear hbr
    have HR13 := Lib.hid (HR12.out.below hb (by omega))
    have HXt13 := Lib.hid ((hb.block _ (lt_of_block HXt12.out)).trans HXt12.out)
    have HT13 := Lib.hid (HT12.out.below hb (by omega))
    have HXr13 := Lib.hid (HXr12.out.below hb (by omega))
    have hs13 := hb.size
    have HB13 := Lib.hid (HB12.out.trans (hb.mono (by omega)))
    have HVA13 := Lib.hid (HVA12.out.below hb (by omega))
    have HOA13 := Lib.hid (HOA12.out.below hb (by omega))
    have HXa13 := Lib.hid ((hb.block _ (lt_of_row HXa12.out)).trans HXa12.out)
    have HVN13 := Lib.hid (HVN12.out.below hb (by omega))
    have HON13 := Lib.hid (HON12.out.below hb (by omega))
    have HXn13 := Lib.hid ((hb.block _ (lt_of_row HXn12.out)).trans HXn12.out)
    have HC13 := Lib.hid (HC12.out.trans (hb.mono (by omega)))
    have HG13 := Lib.hid (HG12.out.trans (hb.mono (by omega)))
    clear hb HB12 HVA12 HOA12 HXa12 HVN12 HON12 HXn12 HC12 HG12
    clear HT12 HXr12
    clear HR12 HXt12
    have HVY13 := Lib.hid (hVf.more (Nat.le_of_eq hsz.symm))
    have HOY13 := Lib.hid (hOf.more (Nat.le_of_eq hsz.symm))
    have HXy13 := Lib.hid hXf
    clear hVf hOf hXf
    obtain ⟨c00, c01⟩ := pair_cells HXn13.out
    obtain ⟨c10, c11⟩ := pair_cells HXy13.out
    go_wp2_with fail
    have hc := implWithinC w13 w13.heap.size nva noa yva yoa vs.length nvc os.length noc vq.length yvc oq.length yoc vs os vq oq (HVN13.out.more (by omega)) (HON13.out.more (by omega)) (HVY13.out.more (by omega)) (HOY13.out.more (by omega)) (Nat.le_refl _) (by omega) HCn.out.1 ⟨by omega, HCn.out.2.1⟩ (by omega) HCy.out.1 ⟨by omega, HCy.out.2.1⟩
    rw [HIq.out] at hc
    refine hc.mono ?_
    clear hc
    rintro e w14 ⟨rfl, hb⟩
    clear c00 c01 c10 c11
    have HR14 := Lib.hid (HR13.out.below hb (by omega))
    have HXt14 := Lib.hid ((hb.block _ (lt_of_block HXt13.out)).trans HXt13.out)
    have HT14 := Lib.hid (HT13.out.below hb (by omega))
    have HXr14 := Lib.hid (HXr13.out.below hb (by omega))
    have hs14 := hb.size
    have HB14 := Lib.hid (HB13.out.trans (hb.mono (by omega)))
    have HVA14 := Lib.hid (HVA13.out.below hb (by omega))
    have HOA14 := Lib.hid (HOA13.out.below hb (by omega))
    have HXa14 := Lib.hid ((hb.block _ (lt_of_row HXa13.out)).trans HXa13.out)
    have HVN14 := Lib.hid (HVN13.out.below hb (by omega))
    have HON14 := Lib.hid (HON13.out.below hb (by omega))
    have HXn14 := Lib.hid ((hb.block _ (lt_of_row HXn13.out)).trans HXn13.out)
    have HC14 := Lib.hid (HC13.out.trans (hb.mono (by omega)))
    have HG14 := Lib.hid (HG13.out.trans (hb.mono (by omega)))
    have HVY14 := Lib.hid (HVY13.out.below hb (by omega))
    have HOY14 := Lib.hid (HOY13.out.below hb (by omega))
    have HXy14 := Lib.hid ((hb.block _ (lt_of_row HXy13.out)).trans HXy13.out)
    clear hb HB13 HVA13 HOA13 HXa13 HVN13 HON13 HXn13 HC13 HG13 HVY13 HOY13 HXy13
    clear HT13 HXr13
    clear HR13 HXt13
    go_wp2
    go_roundw
    case rel => exact ⟨q + 1, by omega, by go_num, HC14⟩
    case measure => simp [intOf]; omega
end Go.Proofs.Ytejhmakfbmhhhaa
