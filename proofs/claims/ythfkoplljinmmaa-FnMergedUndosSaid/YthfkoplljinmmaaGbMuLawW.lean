/- The walk of the law FnMergedUndos. -/
import Derived.Test.YthfkoplljinmmaaGb34
import Derived.Test.YthfkoplljinmmaaGb23
import Derived.Test.YthfkoplljinmmaaGb26
import Derived.Deep.Cut
import Derived.Test.YthfkoplljinmmaaGbS
namespace Go.Proofs.Ythfkoplljinmmaa
open Go.RowKit
set_option linter.unusedVariables false
set_option linter.unusedSimpArgs false

/-- The greatest number of undos, from n0 on, of the first k operations under a name. -/
def runU (n0 : Int) (l : List OpV) (d s : Int) : Nat → Int
  | 0 => n0
  | k + 1 => if (atOp l k).dev = d ∧ (atOp l k).seq = s then max (runU n0 l d s k) (atOp l k).undos else runU n0 l d s k
theorem runU_miss {n0 : Int} {l : List OpV} {d s : Int} : ∀ k, (∀ j, j < k → ¬ eqN l j d s) → runU n0 l d s k = n0
  | 0, _ => rfl
  | k + 1, h => by
    have hne : ¬ ((atOp l k).dev = d ∧ (atOp l k).seq = s) := h k (by omega)
    rw [runU, if_neg hne]
    exact runU_miss k fun j hj => h j (by omega)
theorem runU_hit {n0 : Int} {l : List OpV} {d s : Int} (hl : incB l = true) {i : Nat} (hi : i < l.length) (he : eqN l i d s) : ∀ k, k ≤ l.length → runU n0 l d s k = if i < k then max n0 (atOp l i).undos else n0
  | 0, _ => by rw [if_neg (by omega)]; rfl
  | k + 1, hk => by
    rw [runU, runU_hit hl hi he k (by omega)]
    by_cases e : i = k
    · subst e
      have he' : (atOp l i).dev = d ∧ (atOp l i).seq = s := he
      rw [if_pos he', if_neg (by omega), if_pos (by omega)]
    · have hne : ¬ ((atOp l k).dev = d ∧ (atOp l k).seq = s) := fun h => e (inc_uniq hl hi (by omega) he h)
      rw [if_neg hne]
      by_cases h : i < k
      · rw [if_pos h, if_pos (by omega)]
      · rw [if_neg h, if_neg (by omega)]
theorem runU_get {xs : List Int} {l : List OpV} (h : cartB xs l = true) {n0 : Int} {d : Nat} (hd : d < 4) (s : Nat) : runU n0 l (d : Int) ((s : Int) + 1) l.length = match getO l (d : Int) ((s : Int) + 1) with | none => n0 | some a => max n0 a.undos := by
  rcases get_cases h hd s with ⟨hs, hg⟩ | ⟨hs, hg⟩
  · rw [hg]
    obtain ⟨h5, h6⟩ := cart_has h hd hs
    rw [runU_hit (cart_inc h) h5 h6 l.length (Nat.le_refl _), if_pos h5]
  · rw [hg]
    refine runU_miss _ fun j hj e => ?_
    have := setF_hit (cart_inc h) l.length (Nat.le_refl _) j hj
    rw [e.1, e.2] at this
    have hg' : setF l l.length (d : Int) ((s : Int) + 1) = none := hg
    rw [hg'] at this
    cases this
theorem runU_merged {xs ys : List Int} {l m : List OpV} (h : mergedB xs l ys m = true) {i : Nat} (hi : i < (mergeL (maxV xs ys) l m).length) :
    runU (runU 0 l (atOp (mergeL (maxV xs ys) l m) i).dev (atOp (mergeL (maxV xs ys) l m) i).seq l.length) m (atOp (mergeL (maxV xs ys) l m) i).dev (atOp (mergeL (maxV xs ys) l m) i).seq m.length = (atOp (mergeL (maxV xs ys) l m) i).undos := by
  obtain ⟨h1, h2, h3⟩ := mergedB_parts h
  have hM := cart_merged h1 h2 h3
  obtain ⟨d, hd, a1, a2, _, a3, a4⟩ := cart_at hM hi
  have e : stOf (maxV xs ys) (d + 1) = stOf (maxV xs ys) d + ((maxV xs ys).getD d 0).toNat := rfl
  have ev : atOp (mergeL (maxV xs ys) l m) i = joinAt l m (d : Int) (((i - stOf (maxV xs ys) d : Nat) : Int) + 1) := by
    have := listP_at (maxV xs ys) (mergeF l m) hd (s := i - stOf (maxV xs ys) d) (by omega)
    rw [show stOf (maxV xs ys) d + (i - stOf (maxV xs ys) d) = i by omega] at this
    exact this
  rw [a3, a4, ev, runU_get h1 hd, runU_get h2 hd]
  unfold joinAt
  have pos : ∀ {zs : List Int} {k : List OpV} (hk : cartB zs k = true) {o : OpV} {s : Int}, getO k (d : Int) s = some o → 0 ≤ o.undos := fun hk o s hg => by
    obtain ⟨j, hj, _, rfl⟩ := setF_some _ hg
    exact (op_bounds (cart_op hk hj)).2.2.2.2.2.1
  rcases hl : getO l (d : Int) (((i - stOf (maxV xs ys) d : Nat) : Int) + 1) with _ | a
  · rcases hm : getO m (d : Int) (((i - stOf (maxV xs ys) d : Nat) : Int) + 1) with _ | b
    · rfl
    · have := pos h2 hm
      show max 0 b.undos = b.undos
      omega
  · have := pos h1 hl
    rcases hm : getO m (d : Int) (((i - stOf (maxV xs ys) d : Nat) : Int) + 1) with _ | b
    · show max 0 a.undos = a.undos
      omega
    · have := pos h2 hm
      show max (max 0 a.undos) b.undos = max a.undos b.undos
      omega
set_option maxRecDepth 100000 in
set_option maxHeartbeats 16000000 in
theorem fnMergedUndosWalk (a : Option Addr) (len cap : Nat) (zs : List Int) (w : World) (h : IsRow .u8 w a len cap zs) :
    Calls Try.prog 6 #[.slice a len cap] w fun e w' => e = .returned (.bool true) ∧ Below w.heap.size w w' := by
  by_cases hbig : len ≤ 1048576
  rotate_left
  · go_enter Try.func6, Try.ntmps6
    go_wp2_with fail
    refine (bigYes a len cap hbig w).mono ?_
    rintro e w' ⟨rfl, rfl⟩
    go_wp2
    go_ret
    exact ⟨rfl, Below.refl _ _⟩
  have hsrc := Lib.hid (src_of_row h hbig)
  clear h
  go_enter Try.func6, Try.ntmps6
  go_wp2_with fail
  refine (bigNo a len cap hbig w).mono ?_
  rintro e w' ⟨rfl, rfl⟩
  go_wp2_with fail
  refine (drawMerged w w.heap.size a len cap (Nat.le_refl _) hsrc.out).mono ?_
  rintro e w0 ⟨⟨ava, avc, aoa, ano, aoc⟩, ⟨bva, bvc, boa, bno, boc⟩, rfl, hx, hy, hb0⟩
  obtain ⟨xs, l, e1, a1, a2, a3, a4, a5, a6⟩ := hx
  obtain ⟨ys, m, e2, b1, b2, b3, b4, b5, b6⟩ := hy
  have e1 : ano = l.length := e1
  have e2 : bno = m.length := e2
  subst e1 e2
  have HVA0 := Lib.hid a1.ints
  have HOA0 := Lib.hid a2.ops
  have HVB0 := Lib.hid b1.ints
  have HOB0 := Lib.hid b2.ops
  have HB0 := Lib.hid hb0
  have HCa := Lib.hid a4
  have HCb := Lib.hid b4
  have HIa : Hid (∀ i, i < l.length → (atOp l i).item.size ≤ 1048576) := fun i hi => Nat.le_trans (a5 i hi) (by omega)
  have HIb : Hid (∀ i, i < m.length → (atOp m i).item.size ≤ 1048576) := fun i hi => Nat.le_trans (b5 i hi) (by omega)
  have hs0 := hb0.size
  clear a1 a2 a3 a4 a5 b1 b2 b3 b4 b5 hb0
  dsimp only
  go_upto_region 4 with fail
  have hT := Two.mk0 w0 #[.slice ava 4 avc, .slice aoa l.length aoc] #[.slice bva 4 bvc, .slice boa m.length boc] 27
  have HXa1 := Lib.hid hT.fst
  have HXb1 := Lib.hid hT.snd
  have hb := hT.bel
  clear hT
  generalize (w0.alloc (.cells #[.slice ava 4 avc, .slice aoa l.length aoc] 27)).alloc (.cells #[.slice bva 4 bvc, .slice boa m.length boc] 27) = w1 at hb HXa1 HXb1 ⊢
  have hs1 := hb.size
  have HVA1 := Lib.hid (HVA0.out.below hb (by omega))
  have HOA1 := Lib.hid (HOA0.out.below hb (by omega))
  have HVB1 := Lib.hid (HVB0.out.below hb (by omega))
  have HOB1 := Lib.hid (HOB0.out.below hb (by omega))
  have HB1 := Lib.hid (HB0.out.trans (hb.mono (by omega)))
  clear hb HVA0 HOA0 HVB0 HOB0 HB0
  obtain ⟨R, hR⟩ : ∃ R, mergedB xs l ys m = R := ⟨_, rfl⟩
  have HR := Lib.hid hR
  obtain ⟨vs, hvs⟩ : ∃ vs, mergedV xs ys R = vs := ⟨_, rfl⟩
  obtain ⟨os, hos⟩ : ∃ os, mergedO xs ys l m R = os := ⟨_, rfl⟩
  have HVs := Lib.hid hvs
  have HOs := Lib.hid hos
  have hlv : vs.length ≤ 4 := by rw [← hvs]; exact mergedVs_len xs ys l m R hR
  have hlo : os.length ≤ 200 := by rw [← hos]; exact mergedOs_len xs ys l m R hR
  clear hR hvs hos
  obtain ⟨c00, c01⟩ := pair_cells HXa1.out
  obtain ⟨c10, c11⟩ := pair_cells HXb1.out
  go_wp2_with fail
  have hc := implMergedK w1 w1.heap.size ava aoa bva boa 4 avc l.length aoc 4 bvc m.length boc xs l ys m (HVA1.out.more (by omega)) (HOA1.out.more (by omega)) (HVB1.out.more (by omega)) (HOB1.out.more (by omega)) (Nat.le_refl _) (by omega) HCa.out.1 ⟨by omega, HCa.out.2.1⟩ HIa.out (by omega) HCb.out.1 ⟨by omega, HCb.out.2.1⟩ HIb.out
  rw [HR.out, HVs.out, HOs.out] at hc
  refine hc.mono ?_
  clear hc
  rintro e w2 ⟨mva, mvc, moa, moc, mid, rfl, hov, hop, hm1, hm2, hb, _⟩
  clear c00 c01 c10 c11
  have hov := hov.more (Nat.le_refl _) hm2
  clear hm1 hm2
  have hs2 := hb.size
  have HVA2 := Lib.hid (HVA1.out.below hb (by omega))
  have HOA2 := Lib.hid (HOA1.out.below hb (by omega))
  have HVB2 := Lib.hid (HVB1.out.below hb (by omega))
  have HOB2 := Lib.hid (HOB1.out.below hb (by omega))
  have HB2 := Lib.hid (HB1.out.trans (hb.mono (by omega)))
  have HXa2 := Lib.hid ((hb.block _ (lt_of_row HXa1.out)).trans HXa1.out)
  have HXb2 := Lib.hid ((hb.block _ (lt_of_row HXb1.out)).trans HXb1.out)
  clear hb HVA1 HOA1 HVB1 HOB1 HB1 HXa1 HXb1
  have HVM2 := Lib.hid hov.ints
  have HOM2 := Lib.hid hop.ops
  clear hov hop
  go_upto_region 5 with fail
  have hb : Below w2.heap.size w2 (w2.alloc (.cells #[.slice mva vs.length mvc, .slice moa os.length moc] 27)) := (Below.refl _ _).alloc (Nat.le_refl _) _
  have HXm3 := Lib.hid (boxAt (Below.refl _ (w2.alloc (.cells #[.slice mva vs.length mvc, .slice moa os.length moc] 27))))
  generalize w2.alloc (.cells #[.slice mva vs.length mvc, .slice moa os.length moc] 27) = w3 at hb HXm3 ⊢
  have hs3 := hb.size
  have HVA3 := Lib.hid (HVA2.out.below hb (by omega))
  have HOA3 := Lib.hid (HOA2.out.below hb (by omega))
  have HVB3 := Lib.hid (HVB2.out.below hb (by omega))
  have HOB3 := Lib.hid (HOB2.out.below hb (by omega))
  have HB3 := Lib.hid (HB2.out.trans (hb.mono (by omega)))
  have HXa3 := Lib.hid ((hb.block _ (lt_of_row HXa2.out)).trans HXa2.out)
  have HXb3 := Lib.hid ((hb.block _ (lt_of_row HXb2.out)).trans HXb2.out)
  have HVM3 := Lib.hid (HVM2.out.below hb (by omega))
  have HOM3 := Lib.hid (HOM2.out.below hb (by omega))
  clear hb HVA2 HOA2 HVB2 HOB2 HB2 HXa2 HXb2 HVM2 HOM2
  obtain ⟨c00, c01⟩ := pair_cells HXa3.out
  obtain ⟨c10, c11⟩ := pair_cells HXb3.out
  go_wp2_with fail
  have hc := specMergedC w3 w3.heap.size ava aoa bva boa 4 avc l.length aoc 4 bvc m.length boc xs l ys m (HVA3.out.more (by omega)) (HOA3.out.more (by omega)) (HVB3.out.more (by omega)) (HOB3.out.more (by omega)) (Nat.le_refl _) (by omega) (by omega) HIa.out (by omega) (by omega) HIb.out
  rw [HR.out] at hc
  refine hc.mono ?_
  clear hc
  rintro e w4 ⟨wva, wvc, woa, woc, rfl, _, _, hb, _, _⟩
  clear c00 c01 c10 c11
  have hs4 := hb.size
  have HVA4 := Lib.hid (HVA3.out.below hb (by omega))
  have HOA4 := Lib.hid (HOA3.out.below hb (by omega))
  have HVB4 := Lib.hid (HVB3.out.below hb (by omega))
  have HOB4 := Lib.hid (HOB3.out.below hb (by omega))
  have HB4 := Lib.hid (HB3.out.trans (hb.mono (by omega)))
  have HXa4 := Lib.hid ((hb.block _ (lt_of_row HXa3.out)).trans HXa3.out)
  have HXb4 := Lib.hid ((hb.block _ (lt_of_row HXb3.out)).trans HXb3.out)
  have HVM4 := Lib.hid (HVM3.out.below hb (by omega))
  have HOM4 := Lib.hid (HOM3.out.below hb (by omega))
  have HXm4 := Lib.hid ((hb.block _ (lt_of_row HXm3.out)).trans HXm3.out)
  clear hb HVA3 HOA3 HVB3 HOB3 HB3 HXa3 HXb3 HVM3 HOM3 HXm3
  generalize mergedVs xs ys R = ws
  generalize mergedOs xs ys l m R = wo
  go_upto_region 6 with fail
  have hb : Below w4.heap.size w4 (w4.alloc (.cells #[.slice wva ws.length wvc, .slice woa wo.length woc] 27)) := (Below.refl _ _).alloc (Nat.le_refl _) _
  have HXw5 := Lib.hid (boxAt (Below.refl _ (w4.alloc (.cells #[.slice wva ws.length wvc, .slice woa wo.length woc] 27))))
  generalize w4.alloc (.cells #[.slice wva ws.length wvc, .slice woa wo.length woc] 27) = w5 at hb HXw5 ⊢
  have hs5 := hb.size
  have HVA5 := Lib.hid (HVA4.out.below hb (by omega))
  have HOA5 := Lib.hid (HOA4.out.below hb (by omega))
  have HVB5 := Lib.hid (HVB4.out.below hb (by omega))
  have HOB5 := Lib.hid (HOB4.out.below hb (by omega))
  have HB5 := Lib.hid (HB4.out.trans (hb.mono (by omega)))
  have HXa5 := Lib.hid ((hb.block _ (lt_of_row HXa4.out)).trans HXa4.out)
  have HXb5 := Lib.hid ((hb.block _ (lt_of_row HXb4.out)).trans HXb4.out)
  have HVM5 := Lib.hid (HVM4.out.below hb (by omega))
  have HOM5 := Lib.hid (HOM4.out.below hb (by omega))
  have HXm5 := Lib.hid ((hb.block _ (lt_of_row HXm4.out)).trans HXm4.out)
  clear hb HVA4 HOA4 HVB4 HOB4 HB4 HXa4 HXb4 HVM4 HOM4 HXm4
  cases R
  · go_wp2
    go_ret
    exact ⟨rfl, HB5.out⟩
  have HU : Hid (∀ i, i < os.length → runU (runU 0 l (atOp os i).dev (atOp os i).seq l.length) m (atOp os i).dev (atOp os i).seq m.length = (atOp os i).undos) := fun i hi => by
    have eos : mergeL (maxV xs ys) l m = os := HOs.out
    rw [← eos] at hi ⊢
    exact runU_merged HR.out hi
  go_wp2
  go_loopw [9] (fun i wr => ∃ q : Nat, q ≤ os.length ∧ i = .int .i64 (q : Int) ∧ Hid (Below w5.heap.size w5 wr)) (fun i _ => os.length - (intOf i).toNat)
  case atStart => exact ⟨0, Nat.zero_le _, rfl, Below.refl _ _⟩
  case round =>
    obtain ⟨q, hq, rfl, HBr⟩ := hrel
    have hsr := HBr.out.size
    obtain ⟨cm0, cm1⟩ := pair_cells ((HBr.out.block _ (lt_of_row HXm5.out)).trans HXm5.out)
    by_cases hlt : q < os.length
    rotate_left
    · have HE := Lib.hid (HB5.out.trans (HBr.out.mono (by omega)))
      go_wp2
      go_ret
      exact ⟨rfl, HE.out⟩
    have hqi : (q : Int) < (os.length : Int) := by omega
    have hUq := Lib.hid (HU.out q hlt)
    obtain ⟨x, hx⟩ : ∃ x, atOp os q = x := ⟨_, rfl⟩
    have HX := Lib.hid hx
    rw [hx] at hUq
    clear hx
    go_wp2
    go_loopw [10, 11] (fun nn j wr => ∃ r : Nat, r ≤ l.length ∧ j = .int .i64 (r : Int) ∧ nn = .int .i64 (runU 0 l x.dev x.seq r) ∧ Hid (Below w5.heap.size w5 wr)) (fun _ j _ => l.length - (intOf j).toNat)
    case atStart => exact ⟨0, Nat.zero_le _, rfl, rfl, HBr⟩
    case round =>
      obtain ⟨r, hr, rfl, rfl, HBs⟩ := hrel
      have hss := HBs.out.size
      obtain ⟨cm0, cm1⟩ := pair_cells ((HBs.out.block _ (lt_of_row HXm5.out)).trans HXm5.out)
      obtain ⟨ca0, ca1⟩ := pair_cells ((HBs.out.block _ (lt_of_row HXa5.out)).trans HXa5.out)
      by_cases hrl : r < l.length
      rotate_left
      · have hre : ¬ ((r : Int) < (l.length : Int)) := by omega
        have hrr : l.length = r := by omega
        rw [hrr] at hUq
        clear hrr hrl hr
        obtain ⟨r1, rfl⟩ : ∃ r1, r1 = r := ⟨_, rfl⟩
        clear HBr hsr
        have HBr := HBs
        go_wp2
        clear cm0 cm1 ca0 ca1 hre
        go_loopw [10, 12] (fun nn j wr => ∃ r : Nat, r ≤ m.length ∧ j = .int .i64 (r : Int) ∧ nn = .int .i64 (runU (runU 0 l x.dev x.seq r1) m x.dev x.seq r) ∧ Hid (Below w5.heap.size w5 wr)) (fun _ j _ => m.length - (intOf j).toNat)
        case atStart => exact ⟨0, Nat.zero_le _, rfl, rfl, HBr⟩
        case round =>
          obtain ⟨r, hr, rfl, rfl, HBs⟩ := hrel
          have hss := HBs.out.size
          obtain ⟨cm0, cm1⟩ := pair_cells ((HBs.out.block _ (lt_of_row HXm5.out)).trans HXm5.out)
          obtain ⟨ca0, ca1⟩ := pair_cells ((HBs.out.block _ (lt_of_row HXb5.out)).trans HXb5.out)
          by_cases hrl : r < m.length
          rotate_left
          · have hre : ¬ ((r : Int) < (m.length : Int)) := by omega
            have hrr : m.length = r := by omega
            rw [hrr] at hUq
            clear hrr hrl hr
            obtain ⟨mb, mo, rfl, hmb, hmo⟩ := (HOM5.out.below HBs.out (by omega)).2 q hlt
            have hxo : OpAt wr mb (mo + q * 8) (atOp os q) := hmo
            rw [HX.out] at hxo
            have d7 := hxo.2.2.2.2.2.2.2
            clear hmo hxo
            rw [hUq.out]
            go_wp2
            go_roundw
            case rel => exact ⟨q + 1, by omega, by go_num, HBs⟩
            case measure => simp [intOf]; omega
          have hri : (r : Int) < (m.length : Int) := by omega
          have hr0 : decide ((r : Int) < 0) = false := decide_eq_false (by omega)
          have hr00 : ¬ ((r : Int) < 0) := by omega
          have hq0 : decide ((q : Int) < 0) = false := decide_eq_false (by omega)
          have hq00 : ¬ ((q : Int) < 0) := by omega
          have hm2 := (HOM5.out.below HBs.out (by omega)).2 q hlt
          have ha2 := (HOB5.out.below HBs.out (by omega)).2 r hrl
          obtain ⟨mb, mo, rfl, hmb, hmo⟩ := hm2
          obtain ⟨ab, abo, rfl, hab, hao⟩ := ha2
          have hxo : OpAt wr mb (mo + q * 8) (atOp os q) := hmo
          have hyo : OpAt wr ab (abo + r * 8) (atOp m r) := hao
          rw [HX.out] at hxo
          clear hmo hao
          have HStep : Hid (runU (runU 0 l x.dev x.seq r1) m x.dev x.seq (r + 1) = if (atOp m r).dev = x.dev ∧ (atOp m r).seq = x.seq then max (runU (runU 0 l x.dev x.seq r1) m x.dev x.seq r) (atOp m r).undos else runU (runU 0 l x.dev x.seq r1) m x.dev x.seq r) := rfl
          generalize runU (runU 0 l x.dev x.seq r1) m x.dev x.seq r = U at HStep ⊢
          generalize atOp m r = y at hyo HStep
          obtain ⟨d0, d1, d2, d3, d4, d5, d6, d7⟩ := hxo
          obtain ⟨e0, e1, e2, e3, e4, e5, e6, e7⟩ := hyo
          clear d2 d3 d4 d5 d6 d7 e2 e3 e4 e5 e6
          by_cases hdv : y.dev = x.dev
          rotate_left
          · have bdv : (y.dev == x.dev) = false := by rw [beq_eq_false_iff_ne]; exact hdv
            have HE := Lib.hid (HStep.out.trans (if_neg fun h => hdv h.1))
            clear hdv
            have hS : wr.drew.cell? ⟨w0.heap.size + 1, 1, none⟩ = some (.slice (some ⟨ab, abo, none⟩) m.length boc) ∧ wr.drew.cell? ⟨w2.heap.size, 1, none⟩ = some (.slice (some ⟨mb, mo, none⟩) os.length moc) ∧ wr.drew.cell? ⟨ab, abo + r * 8, none⟩ = some (.int .i64 y.dev) ∧ wr.drew.cell? ⟨ab, abo + r * 8 + 1, none⟩ = some (.int .i64 y.seq) ∧ wr.drew.cell? ⟨mb, mo + q * 8, none⟩ = some (.int .i64 x.dev) ∧ wr.drew.cell? ⟨mb, mo + q * 8 + 1, none⟩ = some (.int .i64 x.seq) := ⟨ca1, cm1, e0, e1, d0, d1⟩
            go_wp2_with fail
            refine wp_region_held_drew (S := fun w' => w'.cell? ⟨w0.heap.size + 1, 1, none⟩ = some (.slice (some ⟨ab, abo, none⟩) m.length boc) ∧ w'.cell? ⟨w2.heap.size, 1, none⟩ = some (.slice (some ⟨mb, mo, none⟩) os.length moc) ∧ w'.cell? ⟨ab, abo + r * 8, none⟩ = some (.int .i64 y.dev) ∧ w'.cell? ⟨ab, abo + r * 8 + 1, none⟩ = some (.int .i64 y.seq) ∧ w'.cell? ⟨mb, mo + q * 8, none⟩ = some (.int .i64 x.dev) ∧ w'.cell? ⟨mb, mo + q * 8 + 1, none⟩ = some (.int .i64 x.seq)) (by kernel_rfl) hS (fun hHeld => ?_)
            refine wpAnyH_take (i := 0) (oi := { dst := some 99, op := Op.fieldAddr 27 (Operand.tmp 4) 1, type := 0, pos := "laws.go:1509", after := #[], guard := none }) (v := ?_) rfl (by kernel_rfl) (by kernel_rfl) (by kernel_rfl) (fun _ _ _ h => h) (Or.inl ⟨by rfl, ?_⟩) (by assumption) ?_
            rotate_left
            · intro w hSw
              (try dsimp only at hSw)
              first | (go_simp; done) | (go_simp; with_reducible rfl)
            (try simp only [Act.put, List.setIfInBounds_toArray, List.set_cons_zero, List.set_cons_succ])
            refine wpAnyH_take (i := 1) (oi := { dst := some 100, op := Op.load 25 (Operand.tmp 99), type := 25, pos := "laws.go:1509", after := #[{ on := 0, ground := Ground.data }], guard := none }) (v := ?_) rfl (by kernel_rfl) (by kernel_rfl) (by kernel_rfl) (fun _ _ _ h => h) (Or.inl ⟨by rfl, ?_⟩) (by assumption) ?_
            rotate_left
            · intro w hSw
              (try dsimp only at hSw)
              first | (go_simp; done) | (go_simp; with_reducible rfl)
            (try simp only [Act.put, List.setIfInBounds_toArray, List.set_cons_zero, List.set_cons_succ])
            refine wpAnyH_take (i := 2) (oi := { dst := some 101, op := Op.move (Operand.tmp 12), type := 3, pos := "laws.go:1509", after := #[], guard := none }) (v := ?_) rfl (by kernel_rfl) (by kernel_rfl) (by kernel_rfl) (fun _ _ _ h => h) (Or.inl ⟨by rfl, ?_⟩) (by assumption) ?_
            rotate_left
            · intro w hSw
              (try dsimp only at hSw)
              first | (go_simp; done) | (go_simp; with_reducible rfl)
            (try simp only [Act.put, List.setIfInBounds_toArray, List.set_cons_zero, List.set_cons_succ])
            refine wpAnyH_take (i := 3) (oi := { dst := some 102, op := Op.indexAddr 25 (Operand.tmp 100) (Operand.tmp 101), type := 0, pos := "laws.go:1509", after := #[{ on := 1, ground := Ground.data }, { on := 2, ground := Ground.data }], guard := none }) (v := ?_) rfl (by kernel_rfl) (by kernel_rfl) (by kernel_rfl) (fun _ _ _ h => h) (Or.inl ⟨by rfl, ?_⟩) (by assumption) ?_
            rotate_left
            · intro w hSw
              (try dsimp only at hSw)
              first | (go_simp; done) | (go_simp; with_reducible rfl)
            (try simp only [Act.put, List.setIfInBounds_toArray, List.set_cons_zero, List.set_cons_succ])
            refine wpAnyH_take (i := 4) (oi := { dst := some 103, op := Op.fieldAddr 36 (Operand.tmp 102) 0, type := 0, pos := "laws.go:1509", after := #[{ on := 3, ground := Ground.data }], guard := none }) (v := ?_) rfl (by kernel_rfl) (by kernel_rfl) (by kernel_rfl) (fun _ _ _ h => h) (Or.inl ⟨by rfl, ?_⟩) (by assumption) ?_
            rotate_left
            · intro w hSw
              (try dsimp only at hSw)
              first | (go_simp; done) | (go_simp; with_reducible rfl)
            (try simp only [Act.put, List.setIfInBounds_toArray, List.set_cons_zero, List.set_cons_succ])
            refine wpAnyH_take (i := 5) (oi := { dst := some 104, op := Op.load 2 (Operand.tmp 103), type := 2, pos := "laws.go:1509", after := #[{ on := 4, ground := Ground.data }], guard := none }) (v := ?_) rfl (by kernel_rfl) (by kernel_rfl) (by kernel_rfl) (fun _ _ _ h => h) (Or.inl ⟨by rfl, ?_⟩) (by assumption) ?_
            rotate_left
            · intro w hSw
              (try dsimp only at hSw)
              first | (go_simp; done) | (go_simp; with_reducible rfl)
            (try simp only [Act.put, List.setIfInBounds_toArray, List.set_cons_zero, List.set_cons_succ])
            refine wpAnyH_take (i := 6) (oi := { dst := some 105, op := Op.fieldAddr 27 (Operand.tmp 5) 1, type := 0, pos := "laws.go:1509", after := #[], guard := none }) (v := ?_) rfl (by kernel_rfl) (by kernel_rfl) (by kernel_rfl) (fun _ _ _ h => h) (Or.inl ⟨by rfl, ?_⟩) (by assumption) ?_
            rotate_left
            · intro w hSw
              (try dsimp only at hSw)
              first | (go_simp; done) | (go_simp; with_reducible rfl)
            (try simp only [Act.put, List.setIfInBounds_toArray, List.set_cons_zero, List.set_cons_succ])
            refine wpAnyH_take (i := 7) (oi := { dst := some 106, op := Op.load 25 (Operand.tmp 105), type := 25, pos := "laws.go:1509", after := #[{ on := 6, ground := Ground.data }], guard := none }) (v := ?_) rfl (by kernel_rfl) (by kernel_rfl) (by kernel_rfl) (fun _ _ _ h => h) (Or.inl ⟨by rfl, ?_⟩) (by assumption) ?_
            rotate_left
            · intro w hSw
              (try dsimp only at hSw)
              first | (go_simp; done) | (go_simp; with_reducible rfl)
            (try simp only [Act.put, List.setIfInBounds_toArray, List.set_cons_zero, List.set_cons_succ])
            refine wpAnyH_take (i := 8) (oi := { dst := some 107, op := Op.move (Operand.tmp 9), type := 3, pos := "laws.go:1509", after := #[], guard := none }) (v := ?_) rfl (by kernel_rfl) (by kernel_rfl) (by kernel_rfl) (fun _ _ _ h => h) (Or.inl ⟨by rfl, ?_⟩) (by assumption) ?_
            rotate_left
            · intro w hSw
              (try dsimp only at hSw)
              first | (go_simp; done) | (go_simp; with_reducible rfl)
            (try simp only [Act.put, List.setIfInBounds_toArray, List.set_cons_zero, List.set_cons_succ])
            refine wpAnyH_take (i := 9) (oi := { dst := some 108, op := Op.indexAddr 25 (Operand.tmp 106) (Operand.tmp 107), type := 0, pos := "laws.go:1509", after := #[{ on := 7, ground := Ground.data }, { on := 8, ground := Ground.data }], guard := none }) (v := ?_) rfl (by kernel_rfl) (by kernel_rfl) (by kernel_rfl) (fun _ _ _ h => h) (Or.inl ⟨by rfl, ?_⟩) (by assumption) ?_
            rotate_left
            · intro w hSw
              (try dsimp only at hSw)
              first | (go_simp; done) | (go_simp; with_reducible rfl)
            (try simp only [Act.put, List.setIfInBounds_toArray, List.set_cons_zero, List.set_cons_succ])
            refine wpAnyH_take (i := 10) (oi := { dst := some 109, op := Op.fieldAddr 36 (Operand.tmp 108) 0, type := 0, pos := "laws.go:1509", after := #[{ on := 9, ground := Ground.data }], guard := none }) (v := ?_) rfl (by kernel_rfl) (by kernel_rfl) (by kernel_rfl) (fun _ _ _ h => h) (Or.inl ⟨by rfl, ?_⟩) (by assumption) ?_
            rotate_left
            · intro w hSw
              (try dsimp only at hSw)
              first | (go_simp; done) | (go_simp; with_reducible rfl)
            (try simp only [Act.put, List.setIfInBounds_toArray, List.set_cons_zero, List.set_cons_succ])
            refine wpAnyH_take (i := 11) (oi := { dst := some 110, op := Op.load 2 (Operand.tmp 109), type := 2, pos := "laws.go:1509", after := #[{ on := 10, ground := Ground.data }], guard := none }) (v := ?_) rfl (by kernel_rfl) (by kernel_rfl) (by kernel_rfl) (fun _ _ _ h => h) (Or.inl ⟨by rfl, ?_⟩) (by assumption) ?_
            rotate_left
            · intro w hSw
              (try dsimp only at hSw)
              first | (go_simp; done) | (go_simp; with_reducible rfl)
            (try simp only [Act.put, List.setIfInBounds_toArray, List.set_cons_zero, List.set_cons_succ])
            refine wpAnyH_take (i := 12) (oi := { dst := some 111, op := Op.binOp BinOp.eql 2 (Operand.tmp 104) (Operand.tmp 110) 2, type := 4, pos := "laws.go:1509", after := #[{ on := 5, ground := Ground.data }, { on := 11, ground := Ground.data }], guard := none }) (v := ?_) rfl (by kernel_rfl) (by kernel_rfl) (by kernel_rfl) (fun _ _ _ h => h) (Or.inl ⟨by rfl, ?_⟩) (by assumption) ?_
            rotate_left
            · intro w hSw
              (try dsimp only at hSw)
              first | (go_simp; done) | (go_simp; with_reducible rfl)
            (try simp only [Act.put, List.setIfInBounds_toArray, List.set_cons_zero, List.set_cons_succ])
            refine wpAnyH_take (i := 13) (oi := { dst := some 112, op := Op.move (Operand.tmp 111), type := 4, pos := "laws.go:1509", after := #[{ on := 12, ground := Ground.data }], guard := none }) (v := ?_) rfl (by kernel_rfl) (by kernel_rfl) (by kernel_rfl) (fun _ _ _ h => h) (Or.inl ⟨by rfl, ?_⟩) (by assumption) ?_
            rotate_left
            · intro w hSw
              (try dsimp only at hSw)
              first | (go_simp; done) | (go_simp; with_reducible rfl)
            (try simp only [Act.put, List.setIfInBounds_toArray, List.set_cons_zero, List.set_cons_succ])
            refine wpAnyH_take (i := 14) (oi := { dst := some 113, op := Op.fieldAddr 27 (Operand.tmp 4) 1, type := 0, pos := "laws.go:1509", after := #[{ on := 13, ground := Ground.guard }], guard := some (13, true) }) (v := undef) rfl (by kernel_rfl) (by kernel_rfl) (by kernel_rfl) (fun _ _ _ h => h) (Or.inr ⟨by rfl, rfl⟩) (by assumption) ?_
            (try simp only [Act.put, List.setIfInBounds_toArray, List.set_cons_zero, List.set_cons_succ])
            refine wpAnyH_take (i := 15) (oi := { dst := some 114, op := Op.load 25 (Operand.tmp 113), type := 25, pos := "laws.go:1509", after := #[{ on := 14, ground := Ground.data }, { on := 13, ground := Ground.guard }], guard := some (13, true) }) (v := undef) rfl (by kernel_rfl) (by kernel_rfl) (by kernel_rfl) (fun _ _ _ h => h) (Or.inr ⟨by rfl, rfl⟩) (by assumption) ?_
            (try simp only [Act.put, List.setIfInBounds_toArray, List.set_cons_zero, List.set_cons_succ])
            refine wpAnyH_take (i := 16) (oi := { dst := some 115, op := Op.move (Operand.tmp 12), type := 3, pos := "laws.go:1509", after := #[{ on := 13, ground := Ground.guard }], guard := some (13, true) }) (v := undef) rfl (by kernel_rfl) (by kernel_rfl) (by kernel_rfl) (fun _ _ _ h => h) (Or.inr ⟨by rfl, rfl⟩) (by assumption) ?_
            (try simp only [Act.put, List.setIfInBounds_toArray, List.set_cons_zero, List.set_cons_succ])
            refine wpAnyH_take (i := 17) (oi := { dst := some 116, op := Op.indexAddr 25 (Operand.tmp 114) (Operand.tmp 115), type := 0, pos := "laws.go:1509", after := #[{ on := 15, ground := Ground.data }, { on := 16, ground := Ground.data }, { on := 13, ground := Ground.guard }], guard := some (13, true) }) (v := undef) rfl (by kernel_rfl) (by kernel_rfl) (by kernel_rfl) (fun _ _ _ h => h) (Or.inr ⟨by rfl, rfl⟩) (by assumption) ?_
            (try simp only [Act.put, List.setIfInBounds_toArray, List.set_cons_zero, List.set_cons_succ])
            refine wpAnyH_take (i := 18) (oi := { dst := some 117, op := Op.fieldAddr 36 (Operand.tmp 116) 1, type := 0, pos := "laws.go:1509", after := #[{ on := 17, ground := Ground.data }, { on := 13, ground := Ground.guard }], guard := some (13, true) }) (v := undef) rfl (by kernel_rfl) (by kernel_rfl) (by kernel_rfl) (fun _ _ _ h => h) (Or.inr ⟨by rfl, rfl⟩) (by assumption) ?_
            (try simp only [Act.put, List.setIfInBounds_toArray, List.set_cons_zero, List.set_cons_succ])
            refine wpAnyH_take (i := 19) (oi := { dst := some 118, op := Op.load 2 (Operand.tmp 117), type := 2, pos := "laws.go:1509", after := #[{ on := 18, ground := Ground.data }, { on := 13, ground := Ground.guard }], guard := some (13, true) }) (v := undef) rfl (by kernel_rfl) (by kernel_rfl) (by kernel_rfl) (fun _ _ _ h => h) (Or.inr ⟨by rfl, rfl⟩) (by assumption) ?_
            (try simp only [Act.put, List.setIfInBounds_toArray, List.set_cons_zero, List.set_cons_succ])
            refine wpAnyH_take (i := 20) (oi := { dst := some 119, op := Op.fieldAddr 27 (Operand.tmp 5) 1, type := 0, pos := "laws.go:1509", after := #[{ on := 13, ground := Ground.guard }], guard := some (13, true) }) (v := undef) rfl (by kernel_rfl) (by kernel_rfl) (by kernel_rfl) (fun _ _ _ h => h) (Or.inr ⟨by rfl, rfl⟩) (by assumption) ?_
            (try simp only [Act.put, List.setIfInBounds_toArray, List.set_cons_zero, List.set_cons_succ])
            refine wpAnyH_take (i := 21) (oi := { dst := some 120, op := Op.load 25 (Operand.tmp 119), type := 25, pos := "laws.go:1509", after := #[{ on := 20, ground := Ground.data }, { on := 13, ground := Ground.guard }], guard := some (13, true) }) (v := undef) rfl (by kernel_rfl) (by kernel_rfl) (by kernel_rfl) (fun _ _ _ h => h) (Or.inr ⟨by rfl, rfl⟩) (by assumption) ?_
            (try simp only [Act.put, List.setIfInBounds_toArray, List.set_cons_zero, List.set_cons_succ])
            refine wpAnyH_take (i := 22) (oi := { dst := some 121, op := Op.move (Operand.tmp 9), type := 3, pos := "laws.go:1509", after := #[{ on := 13, ground := Ground.guard }], guard := some (13, true) }) (v := undef) rfl (by kernel_rfl) (by kernel_rfl) (by kernel_rfl) (fun _ _ _ h => h) (Or.inr ⟨by rfl, rfl⟩) (by assumption) ?_
            (try simp only [Act.put, List.setIfInBounds_toArray, List.set_cons_zero, List.set_cons_succ])
            refine wpAnyH_take (i := 23) (oi := { dst := some 122, op := Op.indexAddr 25 (Operand.tmp 120) (Operand.tmp 121), type := 0, pos := "laws.go:1509", after := #[{ on := 21, ground := Ground.data }, { on := 22, ground := Ground.data }, { on := 13, ground := Ground.guard }], guard := some (13, true) }) (v := undef) rfl (by kernel_rfl) (by kernel_rfl) (by kernel_rfl) (fun _ _ _ h => h) (Or.inr ⟨by rfl, rfl⟩) (by assumption) ?_
            (try simp only [Act.put, List.setIfInBounds_toArray, List.set_cons_zero, List.set_cons_succ])
            refine wpAnyH_take (i := 24) (oi := { dst := some 123, op := Op.fieldAddr 36 (Operand.tmp 122) 1, type := 0, pos := "laws.go:1509", after := #[{ on := 23, ground := Ground.data }, { on := 13, ground := Ground.guard }], guard := some (13, true) }) (v := undef) rfl (by kernel_rfl) (by kernel_rfl) (by kernel_rfl) (fun _ _ _ h => h) (Or.inr ⟨by rfl, rfl⟩) (by assumption) ?_
            (try simp only [Act.put, List.setIfInBounds_toArray, List.set_cons_zero, List.set_cons_succ])
            refine wpAnyH_take (i := 25) (oi := { dst := some 124, op := Op.load 2 (Operand.tmp 123), type := 2, pos := "laws.go:1509", after := #[{ on := 24, ground := Ground.data }, { on := 13, ground := Ground.guard }], guard := some (13, true) }) (v := undef) rfl (by kernel_rfl) (by kernel_rfl) (by kernel_rfl) (fun _ _ _ h => h) (Or.inr ⟨by rfl, rfl⟩) (by assumption) ?_
            (try simp only [Act.put, List.setIfInBounds_toArray, List.set_cons_zero, List.set_cons_succ])
            refine wpAnyH_take (i := 26) (oi := { dst := some 125, op := Op.binOp BinOp.eql 2 (Operand.tmp 118) (Operand.tmp 124) 2, type := 4, pos := "laws.go:1509", after := #[{ on := 19, ground := Ground.data }, { on := 25, ground := Ground.data }, { on := 13, ground := Ground.guard }], guard := some (13, true) }) (v := undef) rfl (by kernel_rfl) (by kernel_rfl) (by kernel_rfl) (fun _ _ _ h => h) (Or.inr ⟨by rfl, rfl⟩) (by assumption) ?_
            (try simp only [Act.put, List.setIfInBounds_toArray, List.set_cons_zero, List.set_cons_succ])
            refine wpAnyH_take (i := 27) (oi := { dst := some 126, op := Op.pick (Operand.tmp 112) (Operand.tmp 125) (Operand.const (Value.bool false)), type := 4, pos := "laws.go:1509", after := #[{ on := 13, ground := Ground.data }, { on := 26, ground := Ground.data }], guard := none }) (v := ?_) rfl (by kernel_rfl) (by kernel_rfl) (by kernel_rfl) (fun _ _ _ h => h) (Or.inl ⟨by rfl, ?_⟩) (by assumption) ?_
            rotate_left
            · intro w hSw
              (try dsimp only at hSw)
              first | (go_simp; done) | (go_simp; with_reducible rfl)
            (try simp only [Act.put, List.setIfInBounds_toArray, List.set_cons_zero, List.set_cons_succ])
            refine wpAnyH_done (by kernel_rfl) ?_ _
            clear hS hHeld
            go_wp2
            go_roundw
            case rel => exact ⟨r + 1, by omega, by go_num, by rw [HE.out], HBs.out.drew⟩
            case measure => simp [intOf]; omega
          have bdv : (y.dev == x.dev) = true := by rw [hdv]; exact beq_self_eq_true _
          by_cases hsq : y.seq = x.seq
          rotate_left
          · have bsq : (y.seq == x.seq) = false := by rw [beq_eq_false_iff_ne]; exact hsq
            have HE := Lib.hid (HStep.out.trans (if_neg fun h => hsq h.2))
            clear hsq hdv
            have hS : wr.drew.cell? ⟨w0.heap.size + 1, 1, none⟩ = some (.slice (some ⟨ab, abo, none⟩) m.length boc) ∧ wr.drew.cell? ⟨w2.heap.size, 1, none⟩ = some (.slice (some ⟨mb, mo, none⟩) os.length moc) ∧ wr.drew.cell? ⟨ab, abo + r * 8, none⟩ = some (.int .i64 y.dev) ∧ wr.drew.cell? ⟨ab, abo + r * 8 + 1, none⟩ = some (.int .i64 y.seq) ∧ wr.drew.cell? ⟨mb, mo + q * 8, none⟩ = some (.int .i64 x.dev) ∧ wr.drew.cell? ⟨mb, mo + q * 8 + 1, none⟩ = some (.int .i64 x.seq) := ⟨ca1, cm1, e0, e1, d0, d1⟩
            go_wp2_with fail
            refine wp_region_held_drew (S := fun w' => w'.cell? ⟨w0.heap.size + 1, 1, none⟩ = some (.slice (some ⟨ab, abo, none⟩) m.length boc) ∧ w'.cell? ⟨w2.heap.size, 1, none⟩ = some (.slice (some ⟨mb, mo, none⟩) os.length moc) ∧ w'.cell? ⟨ab, abo + r * 8, none⟩ = some (.int .i64 y.dev) ∧ w'.cell? ⟨ab, abo + r * 8 + 1, none⟩ = some (.int .i64 y.seq) ∧ w'.cell? ⟨mb, mo + q * 8, none⟩ = some (.int .i64 x.dev) ∧ w'.cell? ⟨mb, mo + q * 8 + 1, none⟩ = some (.int .i64 x.seq)) (by kernel_rfl) hS (fun hHeld => ?_)
            refine wpAnyH_take (i := 0) (oi := { dst := some 99, op := Op.fieldAddr 27 (Operand.tmp 4) 1, type := 0, pos := "laws.go:1509", after := #[], guard := none }) (v := ?_) rfl (by kernel_rfl) (by kernel_rfl) (by kernel_rfl) (fun _ _ _ h => h) (Or.inl ⟨by rfl, ?_⟩) (by assumption) ?_
            rotate_left
            · intro w hSw
              (try dsimp only at hSw)
              first | (go_simp; done) | (go_simp; with_reducible rfl)
            (try simp only [Act.put, List.setIfInBounds_toArray, List.set_cons_zero, List.set_cons_succ])
            refine wpAnyH_take (i := 1) (oi := { dst := some 100, op := Op.load 25 (Operand.tmp 99), type := 25, pos := "laws.go:1509", after := #[{ on := 0, ground := Ground.data }], guard := none }) (v := ?_) rfl (by kernel_rfl) (by kernel_rfl) (by kernel_rfl) (fun _ _ _ h => h) (Or.inl ⟨by rfl, ?_⟩) (by assumption) ?_
            rotate_left
            · intro w hSw
              (try dsimp only at hSw)
              first | (go_simp; done) | (go_simp; with_reducible rfl)
            (try simp only [Act.put, List.setIfInBounds_toArray, List.set_cons_zero, List.set_cons_succ])
            refine wpAnyH_take (i := 2) (oi := { dst := some 101, op := Op.move (Operand.tmp 12), type := 3, pos := "laws.go:1509", after := #[], guard := none }) (v := ?_) rfl (by kernel_rfl) (by kernel_rfl) (by kernel_rfl) (fun _ _ _ h => h) (Or.inl ⟨by rfl, ?_⟩) (by assumption) ?_
            rotate_left
            · intro w hSw
              (try dsimp only at hSw)
              first | (go_simp; done) | (go_simp; with_reducible rfl)
            (try simp only [Act.put, List.setIfInBounds_toArray, List.set_cons_zero, List.set_cons_succ])
            refine wpAnyH_take (i := 3) (oi := { dst := some 102, op := Op.indexAddr 25 (Operand.tmp 100) (Operand.tmp 101), type := 0, pos := "laws.go:1509", after := #[{ on := 1, ground := Ground.data }, { on := 2, ground := Ground.data }], guard := none }) (v := ?_) rfl (by kernel_rfl) (by kernel_rfl) (by kernel_rfl) (fun _ _ _ h => h) (Or.inl ⟨by rfl, ?_⟩) (by assumption) ?_
            rotate_left
            · intro w hSw
              (try dsimp only at hSw)
              first | (go_simp; done) | (go_simp; with_reducible rfl)
            (try simp only [Act.put, List.setIfInBounds_toArray, List.set_cons_zero, List.set_cons_succ])
            refine wpAnyH_take (i := 4) (oi := { dst := some 103, op := Op.fieldAddr 36 (Operand.tmp 102) 0, type := 0, pos := "laws.go:1509", after := #[{ on := 3, ground := Ground.data }], guard := none }) (v := ?_) rfl (by kernel_rfl) (by kernel_rfl) (by kernel_rfl) (fun _ _ _ h => h) (Or.inl ⟨by rfl, ?_⟩) (by assumption) ?_
            rotate_left
            · intro w hSw
              (try dsimp only at hSw)
              first | (go_simp; done) | (go_simp; with_reducible rfl)
            (try simp only [Act.put, List.setIfInBounds_toArray, List.set_cons_zero, List.set_cons_succ])
            refine wpAnyH_take (i := 5) (oi := { dst := some 104, op := Op.load 2 (Operand.tmp 103), type := 2, pos := "laws.go:1509", after := #[{ on := 4, ground := Ground.data }], guard := none }) (v := ?_) rfl (by kernel_rfl) (by kernel_rfl) (by kernel_rfl) (fun _ _ _ h => h) (Or.inl ⟨by rfl, ?_⟩) (by assumption) ?_
            rotate_left
            · intro w hSw
              (try dsimp only at hSw)
              first | (go_simp; done) | (go_simp; with_reducible rfl)
            (try simp only [Act.put, List.setIfInBounds_toArray, List.set_cons_zero, List.set_cons_succ])
            refine wpAnyH_take (i := 6) (oi := { dst := some 105, op := Op.fieldAddr 27 (Operand.tmp 5) 1, type := 0, pos := "laws.go:1509", after := #[], guard := none }) (v := ?_) rfl (by kernel_rfl) (by kernel_rfl) (by kernel_rfl) (fun _ _ _ h => h) (Or.inl ⟨by rfl, ?_⟩) (by assumption) ?_
            rotate_left
            · intro w hSw
              (try dsimp only at hSw)
              first | (go_simp; done) | (go_simp; with_reducible rfl)
            (try simp only [Act.put, List.setIfInBounds_toArray, List.set_cons_zero, List.set_cons_succ])
            refine wpAnyH_take (i := 7) (oi := { dst := some 106, op := Op.load 25 (Operand.tmp 105), type := 25, pos := "laws.go:1509", after := #[{ on := 6, ground := Ground.data }], guard := none }) (v := ?_) rfl (by kernel_rfl) (by kernel_rfl) (by kernel_rfl) (fun _ _ _ h => h) (Or.inl ⟨by rfl, ?_⟩) (by assumption) ?_
            rotate_left
            · intro w hSw
              (try dsimp only at hSw)
              first | (go_simp; done) | (go_simp; with_reducible rfl)
            (try simp only [Act.put, List.setIfInBounds_toArray, List.set_cons_zero, List.set_cons_succ])
            refine wpAnyH_take (i := 8) (oi := { dst := some 107, op := Op.move (Operand.tmp 9), type := 3, pos := "laws.go:1509", after := #[], guard := none }) (v := ?_) rfl (by kernel_rfl) (by kernel_rfl) (by kernel_rfl) (fun _ _ _ h => h) (Or.inl ⟨by rfl, ?_⟩) (by assumption) ?_
            rotate_left
            · intro w hSw
              (try dsimp only at hSw)
              first | (go_simp; done) | (go_simp; with_reducible rfl)
            (try simp only [Act.put, List.setIfInBounds_toArray, List.set_cons_zero, List.set_cons_succ])
            refine wpAnyH_take (i := 9) (oi := { dst := some 108, op := Op.indexAddr 25 (Operand.tmp 106) (Operand.tmp 107), type := 0, pos := "laws.go:1509", after := #[{ on := 7, ground := Ground.data }, { on := 8, ground := Ground.data }], guard := none }) (v := ?_) rfl (by kernel_rfl) (by kernel_rfl) (by kernel_rfl) (fun _ _ _ h => h) (Or.inl ⟨by rfl, ?_⟩) (by assumption) ?_
            rotate_left
            · intro w hSw
              (try dsimp only at hSw)
              first | (go_simp; done) | (go_simp; with_reducible rfl)
            (try simp only [Act.put, List.setIfInBounds_toArray, List.set_cons_zero, List.set_cons_succ])
            refine wpAnyH_take (i := 10) (oi := { dst := some 109, op := Op.fieldAddr 36 (Operand.tmp 108) 0, type := 0, pos := "laws.go:1509", after := #[{ on := 9, ground := Ground.data }], guard := none }) (v := ?_) rfl (by kernel_rfl) (by kernel_rfl) (by kernel_rfl) (fun _ _ _ h => h) (Or.inl ⟨by rfl, ?_⟩) (by assumption) ?_
            rotate_left
            · intro w hSw
              (try dsimp only at hSw)
              first | (go_simp; done) | (go_simp; with_reducible rfl)
            (try simp only [Act.put, List.setIfInBounds_toArray, List.set_cons_zero, List.set_cons_succ])
            refine wpAnyH_take (i := 11) (oi := { dst := some 110, op := Op.load 2 (Operand.tmp 109), type := 2, pos := "laws.go:1509", after := #[{ on := 10, ground := Ground.data }], guard := none }) (v := ?_) rfl (by kernel_rfl) (by kernel_rfl) (by kernel_rfl) (fun _ _ _ h => h) (Or.inl ⟨by rfl, ?_⟩) (by assumption) ?_
            rotate_left
            · intro w hSw
              (try dsimp only at hSw)
              first | (go_simp; done) | (go_simp; with_reducible rfl)
            (try simp only [Act.put, List.setIfInBounds_toArray, List.set_cons_zero, List.set_cons_succ])
            refine wpAnyH_take (i := 12) (oi := { dst := some 111, op := Op.binOp BinOp.eql 2 (Operand.tmp 104) (Operand.tmp 110) 2, type := 4, pos := "laws.go:1509", after := #[{ on := 5, ground := Ground.data }, { on := 11, ground := Ground.data }], guard := none }) (v := ?_) rfl (by kernel_rfl) (by kernel_rfl) (by kernel_rfl) (fun _ _ _ h => h) (Or.inl ⟨by rfl, ?_⟩) (by assumption) ?_
            rotate_left
            · intro w hSw
              (try dsimp only at hSw)
              first | (go_simp; done) | (go_simp; with_reducible rfl)
            (try simp only [Act.put, List.setIfInBounds_toArray, List.set_cons_zero, List.set_cons_succ])
            refine wpAnyH_take (i := 13) (oi := { dst := some 112, op := Op.move (Operand.tmp 111), type := 4, pos := "laws.go:1509", after := #[{ on := 12, ground := Ground.data }], guard := none }) (v := ?_) rfl (by kernel_rfl) (by kernel_rfl) (by kernel_rfl) (fun _ _ _ h => h) (Or.inl ⟨by rfl, ?_⟩) (by assumption) ?_
            rotate_left
            · intro w hSw
              (try dsimp only at hSw)
              first | (go_simp; done) | (go_simp; with_reducible rfl)
            (try simp only [Act.put, List.setIfInBounds_toArray, List.set_cons_zero, List.set_cons_succ])
            refine wpAnyH_take (i := 14) (oi := { dst := some 113, op := Op.fieldAddr 27 (Operand.tmp 4) 1, type := 0, pos := "laws.go:1509", after := #[{ on := 13, ground := Ground.guard }], guard := some (13, true) }) (v := ?_) rfl (by kernel_rfl) (by kernel_rfl) (by kernel_rfl) (fun _ _ _ h => h) (Or.inl ⟨by rfl, ?_⟩) (by assumption) ?_
            rotate_left
            · intro w hSw
              (try dsimp only at hSw)
              first | (go_simp; done) | (go_simp; with_reducible rfl)
            (try simp only [Act.put, List.setIfInBounds_toArray, List.set_cons_zero, List.set_cons_succ])
            refine wpAnyH_take (i := 15) (oi := { dst := some 114, op := Op.load 25 (Operand.tmp 113), type := 25, pos := "laws.go:1509", after := #[{ on := 14, ground := Ground.data }, { on := 13, ground := Ground.guard }], guard := some (13, true) }) (v := ?_) rfl (by kernel_rfl) (by kernel_rfl) (by kernel_rfl) (fun _ _ _ h => h) (Or.inl ⟨by rfl, ?_⟩) (by assumption) ?_
            rotate_left
            · intro w hSw
              (try dsimp only at hSw)
              first | (go_simp; done) | (go_simp; with_reducible rfl)
            (try simp only [Act.put, List.setIfInBounds_toArray, List.set_cons_zero, List.set_cons_succ])
            refine wpAnyH_take (i := 16) (oi := { dst := some 115, op := Op.move (Operand.tmp 12), type := 3, pos := "laws.go:1509", after := #[{ on := 13, ground := Ground.guard }], guard := some (13, true) }) (v := ?_) rfl (by kernel_rfl) (by kernel_rfl) (by kernel_rfl) (fun _ _ _ h => h) (Or.inl ⟨by rfl, ?_⟩) (by assumption) ?_
            rotate_left
            · intro w hSw
              (try dsimp only at hSw)
              first | (go_simp; done) | (go_simp; with_reducible rfl)
            (try simp only [Act.put, List.setIfInBounds_toArray, List.set_cons_zero, List.set_cons_succ])
            refine wpAnyH_take (i := 17) (oi := { dst := some 116, op := Op.indexAddr 25 (Operand.tmp 114) (Operand.tmp 115), type := 0, pos := "laws.go:1509", after := #[{ on := 15, ground := Ground.data }, { on := 16, ground := Ground.data }, { on := 13, ground := Ground.guard }], guard := some (13, true) }) (v := ?_) rfl (by kernel_rfl) (by kernel_rfl) (by kernel_rfl) (fun _ _ _ h => h) (Or.inl ⟨by rfl, ?_⟩) (by assumption) ?_
            rotate_left
            · intro w hSw
              (try dsimp only at hSw)
              first | (go_simp; done) | (go_simp; with_reducible rfl)
            (try simp only [Act.put, List.setIfInBounds_toArray, List.set_cons_zero, List.set_cons_succ])
            refine wpAnyH_take (i := 18) (oi := { dst := some 117, op := Op.fieldAddr 36 (Operand.tmp 116) 1, type := 0, pos := "laws.go:1509", after := #[{ on := 17, ground := Ground.data }, { on := 13, ground := Ground.guard }], guard := some (13, true) }) (v := ?_) rfl (by kernel_rfl) (by kernel_rfl) (by kernel_rfl) (fun _ _ _ h => h) (Or.inl ⟨by rfl, ?_⟩) (by assumption) ?_
            rotate_left
            · intro w hSw
              (try dsimp only at hSw)
              first | (go_simp; done) | (go_simp; with_reducible rfl)
            (try simp only [Act.put, List.setIfInBounds_toArray, List.set_cons_zero, List.set_cons_succ])
            refine wpAnyH_take (i := 19) (oi := { dst := some 118, op := Op.load 2 (Operand.tmp 117), type := 2, pos := "laws.go:1509", after := #[{ on := 18, ground := Ground.data }, { on := 13, ground := Ground.guard }], guard := some (13, true) }) (v := ?_) rfl (by kernel_rfl) (by kernel_rfl) (by kernel_rfl) (fun _ _ _ h => h) (Or.inl ⟨by rfl, ?_⟩) (by assumption) ?_
            rotate_left
            · intro w hSw
              (try dsimp only at hSw)
              first | (go_simp; done) | (go_simp; with_reducible rfl)
            (try simp only [Act.put, List.setIfInBounds_toArray, List.set_cons_zero, List.set_cons_succ])
            refine wpAnyH_take (i := 20) (oi := { dst := some 119, op := Op.fieldAddr 27 (Operand.tmp 5) 1, type := 0, pos := "laws.go:1509", after := #[{ on := 13, ground := Ground.guard }], guard := some (13, true) }) (v := ?_) rfl (by kernel_rfl) (by kernel_rfl) (by kernel_rfl) (fun _ _ _ h => h) (Or.inl ⟨by rfl, ?_⟩) (by assumption) ?_
            rotate_left
            · intro w hSw
              (try dsimp only at hSw)
              first | (go_simp; done) | (go_simp; with_reducible rfl)
            (try simp only [Act.put, List.setIfInBounds_toArray, List.set_cons_zero, List.set_cons_succ])
            refine wpAnyH_take (i := 21) (oi := { dst := some 120, op := Op.load 25 (Operand.tmp 119), type := 25, pos := "laws.go:1509", after := #[{ on := 20, ground := Ground.data }, { on := 13, ground := Ground.guard }], guard := some (13, true) }) (v := ?_) rfl (by kernel_rfl) (by kernel_rfl) (by kernel_rfl) (fun _ _ _ h => h) (Or.inl ⟨by rfl, ?_⟩) (by assumption) ?_
            rotate_left
            · intro w hSw
              (try dsimp only at hSw)
              first | (go_simp; done) | (go_simp; with_reducible rfl)
            (try simp only [Act.put, List.setIfInBounds_toArray, List.set_cons_zero, List.set_cons_succ])
            refine wpAnyH_take (i := 22) (oi := { dst := some 121, op := Op.move (Operand.tmp 9), type := 3, pos := "laws.go:1509", after := #[{ on := 13, ground := Ground.guard }], guard := some (13, true) }) (v := ?_) rfl (by kernel_rfl) (by kernel_rfl) (by kernel_rfl) (fun _ _ _ h => h) (Or.inl ⟨by rfl, ?_⟩) (by assumption) ?_
            rotate_left
            · intro w hSw
              (try dsimp only at hSw)
              first | (go_simp; done) | (go_simp; with_reducible rfl)
            (try simp only [Act.put, List.setIfInBounds_toArray, List.set_cons_zero, List.set_cons_succ])
            refine wpAnyH_take (i := 23) (oi := { dst := some 122, op := Op.indexAddr 25 (Operand.tmp 120) (Operand.tmp 121), type := 0, pos := "laws.go:1509", after := #[{ on := 21, ground := Ground.data }, { on := 22, ground := Ground.data }, { on := 13, ground := Ground.guard }], guard := some (13, true) }) (v := ?_) rfl (by kernel_rfl) (by kernel_rfl) (by kernel_rfl) (fun _ _ _ h => h) (Or.inl ⟨by rfl, ?_⟩) (by assumption) ?_
            rotate_left
            · intro w hSw
              (try dsimp only at hSw)
              first | (go_simp; done) | (go_simp; with_reducible rfl)
            (try simp only [Act.put, List.setIfInBounds_toArray, List.set_cons_zero, List.set_cons_succ])
            refine wpAnyH_take (i := 24) (oi := { dst := some 123, op := Op.fieldAddr 36 (Operand.tmp 122) 1, type := 0, pos := "laws.go:1509", after := #[{ on := 23, ground := Ground.data }, { on := 13, ground := Ground.guard }], guard := some (13, true) }) (v := ?_) rfl (by kernel_rfl) (by kernel_rfl) (by kernel_rfl) (fun _ _ _ h => h) (Or.inl ⟨by rfl, ?_⟩) (by assumption) ?_
            rotate_left
            · intro w hSw
              (try dsimp only at hSw)
              first | (go_simp; done) | (go_simp; with_reducible rfl)
            (try simp only [Act.put, List.setIfInBounds_toArray, List.set_cons_zero, List.set_cons_succ])
            refine wpAnyH_take (i := 25) (oi := { dst := some 124, op := Op.load 2 (Operand.tmp 123), type := 2, pos := "laws.go:1509", after := #[{ on := 24, ground := Ground.data }, { on := 13, ground := Ground.guard }], guard := some (13, true) }) (v := ?_) rfl (by kernel_rfl) (by kernel_rfl) (by kernel_rfl) (fun _ _ _ h => h) (Or.inl ⟨by rfl, ?_⟩) (by assumption) ?_
            rotate_left
            · intro w hSw
              (try dsimp only at hSw)
              first | (go_simp; done) | (go_simp; with_reducible rfl)
            (try simp only [Act.put, List.setIfInBounds_toArray, List.set_cons_zero, List.set_cons_succ])
            refine wpAnyH_take (i := 26) (oi := { dst := some 125, op := Op.binOp BinOp.eql 2 (Operand.tmp 118) (Operand.tmp 124) 2, type := 4, pos := "laws.go:1509", after := #[{ on := 19, ground := Ground.data }, { on := 25, ground := Ground.data }, { on := 13, ground := Ground.guard }], guard := some (13, true) }) (v := ?_) rfl (by kernel_rfl) (by kernel_rfl) (by kernel_rfl) (fun _ _ _ h => h) (Or.inl ⟨by rfl, ?_⟩) (by assumption) ?_
            rotate_left
            · intro w hSw
              (try dsimp only at hSw)
              first | (go_simp; done) | (go_simp; with_reducible rfl)
            (try simp only [Act.put, List.setIfInBounds_toArray, List.set_cons_zero, List.set_cons_succ])
            refine wpAnyH_take (i := 27) (oi := { dst := some 126, op := Op.pick (Operand.tmp 112) (Operand.tmp 125) (Operand.const (Value.bool false)), type := 4, pos := "laws.go:1509", after := #[{ on := 13, ground := Ground.data }, { on := 26, ground := Ground.data }], guard := none }) (v := ?_) rfl (by kernel_rfl) (by kernel_rfl) (by kernel_rfl) (fun _ _ _ h => h) (Or.inl ⟨by rfl, ?_⟩) (by assumption) ?_
            rotate_left
            · intro w hSw
              (try dsimp only at hSw)
              first | (go_simp; done) | (go_simp; with_reducible rfl)
            (try simp only [Act.put, List.setIfInBounds_toArray, List.set_cons_zero, List.set_cons_succ])
            refine wpAnyH_done (by kernel_rfl) ?_ _
            clear hS hHeld
            go_wp2
            go_roundw
            case rel => exact ⟨r + 1, by omega, by go_num, by rw [HE.out], HBs.out.drew⟩
            case measure => simp [intOf]; omega
          have bsq : (y.seq == x.seq) = true := by rw [hsq]; exact beq_self_eq_true _
          have HE := Lib.hid (HStep.out.trans (if_pos ⟨hdv, hsq⟩))
          clear hsq hdv
          have hS : wr.drew.cell? ⟨w0.heap.size + 1, 1, none⟩ = some (.slice (some ⟨ab, abo, none⟩) m.length boc) ∧ wr.drew.cell? ⟨w2.heap.size, 1, none⟩ = some (.slice (some ⟨mb, mo, none⟩) os.length moc) ∧ wr.drew.cell? ⟨ab, abo + r * 8, none⟩ = some (.int .i64 y.dev) ∧ wr.drew.cell? ⟨ab, abo + r * 8 + 1, none⟩ = some (.int .i64 y.seq) ∧ wr.drew.cell? ⟨mb, mo + q * 8, none⟩ = some (.int .i64 x.dev) ∧ wr.drew.cell? ⟨mb, mo + q * 8 + 1, none⟩ = some (.int .i64 x.seq) := ⟨ca1, cm1, e0, e1, d0, d1⟩
          go_wp2_with fail
          refine wp_region_held_drew (S := fun w' => w'.cell? ⟨w0.heap.size + 1, 1, none⟩ = some (.slice (some ⟨ab, abo, none⟩) m.length boc) ∧ w'.cell? ⟨w2.heap.size, 1, none⟩ = some (.slice (some ⟨mb, mo, none⟩) os.length moc) ∧ w'.cell? ⟨ab, abo + r * 8, none⟩ = some (.int .i64 y.dev) ∧ w'.cell? ⟨ab, abo + r * 8 + 1, none⟩ = some (.int .i64 y.seq) ∧ w'.cell? ⟨mb, mo + q * 8, none⟩ = some (.int .i64 x.dev) ∧ w'.cell? ⟨mb, mo + q * 8 + 1, none⟩ = some (.int .i64 x.seq)) (by kernel_rfl) hS (fun hHeld => ?_)
          refine wpAnyH_take (i := 0) (oi := { dst := some 99, op := Op.fieldAddr 27 (Operand.tmp 4) 1, type := 0, pos := "laws.go:1509", after := #[], guard := none }) (v := ?_) rfl (by kernel_rfl) (by kernel_rfl) (by kernel_rfl) (fun _ _ _ h => h) (Or.inl ⟨by rfl, ?_⟩) (by assumption) ?_
          rotate_left
          · intro w hSw
            (try dsimp only at hSw)
            first | (go_simp; done) | (go_simp; with_reducible rfl)
          (try simp only [Act.put, List.setIfInBounds_toArray, List.set_cons_zero, List.set_cons_succ])
          refine wpAnyH_take (i := 1) (oi := { dst := some 100, op := Op.load 25 (Operand.tmp 99), type := 25, pos := "laws.go:1509", after := #[{ on := 0, ground := Ground.data }], guard := none }) (v := ?_) rfl (by kernel_rfl) (by kernel_rfl) (by kernel_rfl) (fun _ _ _ h => h) (Or.inl ⟨by rfl, ?_⟩) (by assumption) ?_
          rotate_left
          · intro w hSw
            (try dsimp only at hSw)
            first | (go_simp; done) | (go_simp; with_reducible rfl)
          (try simp only [Act.put, List.setIfInBounds_toArray, List.set_cons_zero, List.set_cons_succ])
          refine wpAnyH_take (i := 2) (oi := { dst := some 101, op := Op.move (Operand.tmp 12), type := 3, pos := "laws.go:1509", after := #[], guard := none }) (v := ?_) rfl (by kernel_rfl) (by kernel_rfl) (by kernel_rfl) (fun _ _ _ h => h) (Or.inl ⟨by rfl, ?_⟩) (by assumption) ?_
          rotate_left
          · intro w hSw
            (try dsimp only at hSw)
            first | (go_simp; done) | (go_simp; with_reducible rfl)
          (try simp only [Act.put, List.setIfInBounds_toArray, List.set_cons_zero, List.set_cons_succ])
          refine wpAnyH_take (i := 3) (oi := { dst := some 102, op := Op.indexAddr 25 (Operand.tmp 100) (Operand.tmp 101), type := 0, pos := "laws.go:1509", after := #[{ on := 1, ground := Ground.data }, { on := 2, ground := Ground.data }], guard := none }) (v := ?_) rfl (by kernel_rfl) (by kernel_rfl) (by kernel_rfl) (fun _ _ _ h => h) (Or.inl ⟨by rfl, ?_⟩) (by assumption) ?_
          rotate_left
          · intro w hSw
            (try dsimp only at hSw)
            first | (go_simp; done) | (go_simp; with_reducible rfl)
          (try simp only [Act.put, List.setIfInBounds_toArray, List.set_cons_zero, List.set_cons_succ])
          refine wpAnyH_take (i := 4) (oi := { dst := some 103, op := Op.fieldAddr 36 (Operand.tmp 102) 0, type := 0, pos := "laws.go:1509", after := #[{ on := 3, ground := Ground.data }], guard := none }) (v := ?_) rfl (by kernel_rfl) (by kernel_rfl) (by kernel_rfl) (fun _ _ _ h => h) (Or.inl ⟨by rfl, ?_⟩) (by assumption) ?_
          rotate_left
          · intro w hSw
            (try dsimp only at hSw)
            first | (go_simp; done) | (go_simp; with_reducible rfl)
          (try simp only [Act.put, List.setIfInBounds_toArray, List.set_cons_zero, List.set_cons_succ])
          refine wpAnyH_take (i := 5) (oi := { dst := some 104, op := Op.load 2 (Operand.tmp 103), type := 2, pos := "laws.go:1509", after := #[{ on := 4, ground := Ground.data }], guard := none }) (v := ?_) rfl (by kernel_rfl) (by kernel_rfl) (by kernel_rfl) (fun _ _ _ h => h) (Or.inl ⟨by rfl, ?_⟩) (by assumption) ?_
          rotate_left
          · intro w hSw
            (try dsimp only at hSw)
            first | (go_simp; done) | (go_simp; with_reducible rfl)
          (try simp only [Act.put, List.setIfInBounds_toArray, List.set_cons_zero, List.set_cons_succ])
          refine wpAnyH_take (i := 6) (oi := { dst := some 105, op := Op.fieldAddr 27 (Operand.tmp 5) 1, type := 0, pos := "laws.go:1509", after := #[], guard := none }) (v := ?_) rfl (by kernel_rfl) (by kernel_rfl) (by kernel_rfl) (fun _ _ _ h => h) (Or.inl ⟨by rfl, ?_⟩) (by assumption) ?_
          rotate_left
          · intro w hSw
            (try dsimp only at hSw)
            first | (go_simp; done) | (go_simp; with_reducible rfl)
          (try simp only [Act.put, List.setIfInBounds_toArray, List.set_cons_zero, List.set_cons_succ])
          refine wpAnyH_take (i := 7) (oi := { dst := some 106, op := Op.load 25 (Operand.tmp 105), type := 25, pos := "laws.go:1509", after := #[{ on := 6, ground := Ground.data }], guard := none }) (v := ?_) rfl (by kernel_rfl) (by kernel_rfl) (by kernel_rfl) (fun _ _ _ h => h) (Or.inl ⟨by rfl, ?_⟩) (by assumption) ?_
          rotate_left
          · intro w hSw
            (try dsimp only at hSw)
            first | (go_simp; done) | (go_simp; with_reducible rfl)
          (try simp only [Act.put, List.setIfInBounds_toArray, List.set_cons_zero, List.set_cons_succ])
          refine wpAnyH_take (i := 8) (oi := { dst := some 107, op := Op.move (Operand.tmp 9), type := 3, pos := "laws.go:1509", after := #[], guard := none }) (v := ?_) rfl (by kernel_rfl) (by kernel_rfl) (by kernel_rfl) (fun _ _ _ h => h) (Or.inl ⟨by rfl, ?_⟩) (by assumption) ?_
          rotate_left
          · intro w hSw
            (try dsimp only at hSw)
            first | (go_simp; done) | (go_simp; with_reducible rfl)
          (try simp only [Act.put, List.setIfInBounds_toArray, List.set_cons_zero, List.set_cons_succ])
          refine wpAnyH_take (i := 9) (oi := { dst := some 108, op := Op.indexAddr 25 (Operand.tmp 106) (Operand.tmp 107), type := 0, pos := "laws.go:1509", after := #[{ on := 7, ground := Ground.data }, { on := 8, ground := Ground.data }], guard := none }) (v := ?_) rfl (by kernel_rfl) (by kernel_rfl) (by kernel_rfl) (fun _ _ _ h => h) (Or.inl ⟨by rfl, ?_⟩) (by assumption) ?_
          rotate_left
          · intro w hSw
            (try dsimp only at hSw)
            first | (go_simp; done) | (go_simp; with_reducible rfl)
          (try simp only [Act.put, List.setIfInBounds_toArray, List.set_cons_zero, List.set_cons_succ])
          refine wpAnyH_take (i := 10) (oi := { dst := some 109, op := Op.fieldAddr 36 (Operand.tmp 108) 0, type := 0, pos := "laws.go:1509", after := #[{ on := 9, ground := Ground.data }], guard := none }) (v := ?_) rfl (by kernel_rfl) (by kernel_rfl) (by kernel_rfl) (fun _ _ _ h => h) (Or.inl ⟨by rfl, ?_⟩) (by assumption) ?_
          rotate_left
          · intro w hSw
            (try dsimp only at hSw)
            first | (go_simp; done) | (go_simp; with_reducible rfl)
          (try simp only [Act.put, List.setIfInBounds_toArray, List.set_cons_zero, List.set_cons_succ])
          refine wpAnyH_take (i := 11) (oi := { dst := some 110, op := Op.load 2 (Operand.tmp 109), type := 2, pos := "laws.go:1509", after := #[{ on := 10, ground := Ground.data }], guard := none }) (v := ?_) rfl (by kernel_rfl) (by kernel_rfl) (by kernel_rfl) (fun _ _ _ h => h) (Or.inl ⟨by rfl, ?_⟩) (by assumption) ?_
          rotate_left
          · intro w hSw
            (try dsimp only at hSw)
            first | (go_simp; done) | (go_simp; with_reducible rfl)
          (try simp only [Act.put, List.setIfInBounds_toArray, List.set_cons_zero, List.set_cons_succ])
          refine wpAnyH_take (i := 12) (oi := { dst := some 111, op := Op.binOp BinOp.eql 2 (Operand.tmp 104) (Operand.tmp 110) 2, type := 4, pos := "laws.go:1509", after := #[{ on := 5, ground := Ground.data }, { on := 11, ground := Ground.data }], guard := none }) (v := ?_) rfl (by kernel_rfl) (by kernel_rfl) (by kernel_rfl) (fun _ _ _ h => h) (Or.inl ⟨by rfl, ?_⟩) (by assumption) ?_
          rotate_left
          · intro w hSw
            (try dsimp only at hSw)
            first | (go_simp; done) | (go_simp; with_reducible rfl)
          (try simp only [Act.put, List.setIfInBounds_toArray, List.set_cons_zero, List.set_cons_succ])
          refine wpAnyH_take (i := 13) (oi := { dst := some 112, op := Op.move (Operand.tmp 111), type := 4, pos := "laws.go:1509", after := #[{ on := 12, ground := Ground.data }], guard := none }) (v := ?_) rfl (by kernel_rfl) (by kernel_rfl) (by kernel_rfl) (fun _ _ _ h => h) (Or.inl ⟨by rfl, ?_⟩) (by assumption) ?_
          rotate_left
          · intro w hSw
            (try dsimp only at hSw)
            first | (go_simp; done) | (go_simp; with_reducible rfl)
          (try simp only [Act.put, List.setIfInBounds_toArray, List.set_cons_zero, List.set_cons_succ])
          refine wpAnyH_take (i := 14) (oi := { dst := some 113, op := Op.fieldAddr 27 (Operand.tmp 4) 1, type := 0, pos := "laws.go:1509", after := #[{ on := 13, ground := Ground.guard }], guard := some (13, true) }) (v := ?_) rfl (by kernel_rfl) (by kernel_rfl) (by kernel_rfl) (fun _ _ _ h => h) (Or.inl ⟨by rfl, ?_⟩) (by assumption) ?_
          rotate_left
          · intro w hSw
            (try dsimp only at hSw)
            first | (go_simp; done) | (go_simp; with_reducible rfl)
          (try simp only [Act.put, List.setIfInBounds_toArray, List.set_cons_zero, List.set_cons_succ])
          refine wpAnyH_take (i := 15) (oi := { dst := some 114, op := Op.load 25 (Operand.tmp 113), type := 25, pos := "laws.go:1509", after := #[{ on := 14, ground := Ground.data }, { on := 13, ground := Ground.guard }], guard := some (13, true) }) (v := ?_) rfl (by kernel_rfl) (by kernel_rfl) (by kernel_rfl) (fun _ _ _ h => h) (Or.inl ⟨by rfl, ?_⟩) (by assumption) ?_
          rotate_left
          · intro w hSw
            (try dsimp only at hSw)
            first | (go_simp; done) | (go_simp; with_reducible rfl)
          (try simp only [Act.put, List.setIfInBounds_toArray, List.set_cons_zero, List.set_cons_succ])
          refine wpAnyH_take (i := 16) (oi := { dst := some 115, op := Op.move (Operand.tmp 12), type := 3, pos := "laws.go:1509", after := #[{ on := 13, ground := Ground.guard }], guard := some (13, true) }) (v := ?_) rfl (by kernel_rfl) (by kernel_rfl) (by kernel_rfl) (fun _ _ _ h => h) (Or.inl ⟨by rfl, ?_⟩) (by assumption) ?_
          rotate_left
          · intro w hSw
            (try dsimp only at hSw)
            first | (go_simp; done) | (go_simp; with_reducible rfl)
          (try simp only [Act.put, List.setIfInBounds_toArray, List.set_cons_zero, List.set_cons_succ])
          refine wpAnyH_take (i := 17) (oi := { dst := some 116, op := Op.indexAddr 25 (Operand.tmp 114) (Operand.tmp 115), type := 0, pos := "laws.go:1509", after := #[{ on := 15, ground := Ground.data }, { on := 16, ground := Ground.data }, { on := 13, ground := Ground.guard }], guard := some (13, true) }) (v := ?_) rfl (by kernel_rfl) (by kernel_rfl) (by kernel_rfl) (fun _ _ _ h => h) (Or.inl ⟨by rfl, ?_⟩) (by assumption) ?_
          rotate_left
          · intro w hSw
            (try dsimp only at hSw)
            first | (go_simp; done) | (go_simp; with_reducible rfl)
          (try simp only [Act.put, List.setIfInBounds_toArray, List.set_cons_zero, List.set_cons_succ])
          refine wpAnyH_take (i := 18) (oi := { dst := some 117, op := Op.fieldAddr 36 (Operand.tmp 116) 1, type := 0, pos := "laws.go:1509", after := #[{ on := 17, ground := Ground.data }, { on := 13, ground := Ground.guard }], guard := some (13, true) }) (v := ?_) rfl (by kernel_rfl) (by kernel_rfl) (by kernel_rfl) (fun _ _ _ h => h) (Or.inl ⟨by rfl, ?_⟩) (by assumption) ?_
          rotate_left
          · intro w hSw
            (try dsimp only at hSw)
            first | (go_simp; done) | (go_simp; with_reducible rfl)
          (try simp only [Act.put, List.setIfInBounds_toArray, List.set_cons_zero, List.set_cons_succ])
          refine wpAnyH_take (i := 19) (oi := { dst := some 118, op := Op.load 2 (Operand.tmp 117), type := 2, pos := "laws.go:1509", after := #[{ on := 18, ground := Ground.data }, { on := 13, ground := Ground.guard }], guard := some (13, true) }) (v := ?_) rfl (by kernel_rfl) (by kernel_rfl) (by kernel_rfl) (fun _ _ _ h => h) (Or.inl ⟨by rfl, ?_⟩) (by assumption) ?_
          rotate_left
          · intro w hSw
            (try dsimp only at hSw)
            first | (go_simp; done) | (go_simp; with_reducible rfl)
          (try simp only [Act.put, List.setIfInBounds_toArray, List.set_cons_zero, List.set_cons_succ])
          refine wpAnyH_take (i := 20) (oi := { dst := some 119, op := Op.fieldAddr 27 (Operand.tmp 5) 1, type := 0, pos := "laws.go:1509", after := #[{ on := 13, ground := Ground.guard }], guard := some (13, true) }) (v := ?_) rfl (by kernel_rfl) (by kernel_rfl) (by kernel_rfl) (fun _ _ _ h => h) (Or.inl ⟨by rfl, ?_⟩) (by assumption) ?_
          rotate_left
          · intro w hSw
            (try dsimp only at hSw)
            first | (go_simp; done) | (go_simp; with_reducible rfl)
          (try simp only [Act.put, List.setIfInBounds_toArray, List.set_cons_zero, List.set_cons_succ])
          refine wpAnyH_take (i := 21) (oi := { dst := some 120, op := Op.load 25 (Operand.tmp 119), type := 25, pos := "laws.go:1509", after := #[{ on := 20, ground := Ground.data }, { on := 13, ground := Ground.guard }], guard := some (13, true) }) (v := ?_) rfl (by kernel_rfl) (by kernel_rfl) (by kernel_rfl) (fun _ _ _ h => h) (Or.inl ⟨by rfl, ?_⟩) (by assumption) ?_
          rotate_left
          · intro w hSw
            (try dsimp only at hSw)
            first | (go_simp; done) | (go_simp; with_reducible rfl)
          (try simp only [Act.put, List.setIfInBounds_toArray, List.set_cons_zero, List.set_cons_succ])
          refine wpAnyH_take (i := 22) (oi := { dst := some 121, op := Op.move (Operand.tmp 9), type := 3, pos := "laws.go:1509", after := #[{ on := 13, ground := Ground.guard }], guard := some (13, true) }) (v := ?_) rfl (by kernel_rfl) (by kernel_rfl) (by kernel_rfl) (fun _ _ _ h => h) (Or.inl ⟨by rfl, ?_⟩) (by assumption) ?_
          rotate_left
          · intro w hSw
            (try dsimp only at hSw)
            first | (go_simp; done) | (go_simp; with_reducible rfl)
          (try simp only [Act.put, List.setIfInBounds_toArray, List.set_cons_zero, List.set_cons_succ])
          refine wpAnyH_take (i := 23) (oi := { dst := some 122, op := Op.indexAddr 25 (Operand.tmp 120) (Operand.tmp 121), type := 0, pos := "laws.go:1509", after := #[{ on := 21, ground := Ground.data }, { on := 22, ground := Ground.data }, { on := 13, ground := Ground.guard }], guard := some (13, true) }) (v := ?_) rfl (by kernel_rfl) (by kernel_rfl) (by kernel_rfl) (fun _ _ _ h => h) (Or.inl ⟨by rfl, ?_⟩) (by assumption) ?_
          rotate_left
          · intro w hSw
            (try dsimp only at hSw)
            first | (go_simp; done) | (go_simp; with_reducible rfl)
          (try simp only [Act.put, List.setIfInBounds_toArray, List.set_cons_zero, List.set_cons_succ])
          refine wpAnyH_take (i := 24) (oi := { dst := some 123, op := Op.fieldAddr 36 (Operand.tmp 122) 1, type := 0, pos := "laws.go:1509", after := #[{ on := 23, ground := Ground.data }, { on := 13, ground := Ground.guard }], guard := some (13, true) }) (v := ?_) rfl (by kernel_rfl) (by kernel_rfl) (by kernel_rfl) (fun _ _ _ h => h) (Or.inl ⟨by rfl, ?_⟩) (by assumption) ?_
          rotate_left
          · intro w hSw
            (try dsimp only at hSw)
            first | (go_simp; done) | (go_simp; with_reducible rfl)
          (try simp only [Act.put, List.setIfInBounds_toArray, List.set_cons_zero, List.set_cons_succ])
          refine wpAnyH_take (i := 25) (oi := { dst := some 124, op := Op.load 2 (Operand.tmp 123), type := 2, pos := "laws.go:1509", after := #[{ on := 24, ground := Ground.data }, { on := 13, ground := Ground.guard }], guard := some (13, true) }) (v := ?_) rfl (by kernel_rfl) (by kernel_rfl) (by kernel_rfl) (fun _ _ _ h => h) (Or.inl ⟨by rfl, ?_⟩) (by assumption) ?_
          rotate_left
          · intro w hSw
            (try dsimp only at hSw)
            first | (go_simp; done) | (go_simp; with_reducible rfl)
          (try simp only [Act.put, List.setIfInBounds_toArray, List.set_cons_zero, List.set_cons_succ])
          refine wpAnyH_take (i := 26) (oi := { dst := some 125, op := Op.binOp BinOp.eql 2 (Operand.tmp 118) (Operand.tmp 124) 2, type := 4, pos := "laws.go:1509", after := #[{ on := 19, ground := Ground.data }, { on := 25, ground := Ground.data }, { on := 13, ground := Ground.guard }], guard := some (13, true) }) (v := ?_) rfl (by kernel_rfl) (by kernel_rfl) (by kernel_rfl) (fun _ _ _ h => h) (Or.inl ⟨by rfl, ?_⟩) (by assumption) ?_
          rotate_left
          · intro w hSw
            (try dsimp only at hSw)
            first | (go_simp; done) | (go_simp; with_reducible rfl)
          (try simp only [Act.put, List.setIfInBounds_toArray, List.set_cons_zero, List.set_cons_succ])
          refine wpAnyH_take (i := 27) (oi := { dst := some 126, op := Op.pick (Operand.tmp 112) (Operand.tmp 125) (Operand.const (Value.bool false)), type := 4, pos := "laws.go:1509", after := #[{ on := 13, ground := Ground.data }, { on := 26, ground := Ground.data }], guard := none }) (v := ?_) rfl (by kernel_rfl) (by kernel_rfl) (by kernel_rfl) (fun _ _ _ h => h) (Or.inl ⟨by rfl, ?_⟩) (by assumption) ?_
          rotate_left
          · intro w hSw
            (try dsimp only at hSw)
            first | (go_simp; done) | (go_simp; with_reducible rfl)
          (try simp only [Act.put, List.setIfInBounds_toArray, List.set_cons_zero, List.set_cons_succ])
          refine wpAnyH_done (by kernel_rfl) ?_ _
          clear hS hHeld
          go_wp2
          go_roundw
          case rel => exact ⟨r + 1, by omega, by go_num, by rw [HE.out], HBs.out.drew⟩
          case measure => simp [intOf]; omega
      have hri : (r : Int) < (l.length : Int) := by omega
      have hr0 : decide ((r : Int) < 0) = false := decide_eq_false (by omega)
      have hr00 : ¬ ((r : Int) < 0) := by omega
      have hq0 : decide ((q : Int) < 0) = false := decide_eq_false (by omega)
      have hq00 : ¬ ((q : Int) < 0) := by omega
      have hm2 := (HOM5.out.below HBs.out (by omega)).2 q hlt
      have ha2 := (HOA5.out.below HBs.out (by omega)).2 r hrl
      obtain ⟨mb, mo, rfl, hmb, hmo⟩ := hm2
      obtain ⟨ab, abo, rfl, hab, hao⟩ := ha2
      have hxo : OpAt wr mb (mo + q * 8) (atOp os q) := hmo
      have hyo : OpAt wr ab (abo + r * 8) (atOp l r) := hao
      rw [HX.out] at hxo
      clear hmo hao
      have HStep : Hid (runU 0 l x.dev x.seq (r + 1) = if (atOp l r).dev = x.dev ∧ (atOp l r).seq = x.seq then max (runU 0 l x.dev x.seq r) (atOp l r).undos else runU 0 l x.dev x.seq r) := rfl
      generalize runU 0 l x.dev x.seq r = U at HStep ⊢
      generalize atOp l r = y at hyo HStep
      obtain ⟨d0, d1, d2, d3, d4, d5, d6, d7⟩ := hxo
      obtain ⟨e0, e1, e2, e3, e4, e5, e6, e7⟩ := hyo
      clear d2 d3 d4 d5 d6 d7 e2 e3 e4 e5 e6
      by_cases hdv : y.dev = x.dev
      rotate_left
      · have bdv : (y.dev == x.dev) = false := by rw [beq_eq_false_iff_ne]; exact hdv
        have HE := Lib.hid (HStep.out.trans (if_neg fun h => hdv h.1))
        clear hdv
        have hS : wr.drew.cell? ⟨w0.heap.size, 1, none⟩ = some (.slice (some ⟨ab, abo, none⟩) l.length aoc) ∧ wr.drew.cell? ⟨w2.heap.size, 1, none⟩ = some (.slice (some ⟨mb, mo, none⟩) os.length moc) ∧ wr.drew.cell? ⟨ab, abo + r * 8, none⟩ = some (.int .i64 y.dev) ∧ wr.drew.cell? ⟨ab, abo + r * 8 + 1, none⟩ = some (.int .i64 y.seq) ∧ wr.drew.cell? ⟨mb, mo + q * 8, none⟩ = some (.int .i64 x.dev) ∧ wr.drew.cell? ⟨mb, mo + q * 8 + 1, none⟩ = some (.int .i64 x.seq) := ⟨ca1, cm1, e0, e1, d0, d1⟩
        go_wp2_with fail
        refine wp_region_held_drew (S := fun w' => w'.cell? ⟨w0.heap.size, 1, none⟩ = some (.slice (some ⟨ab, abo, none⟩) l.length aoc) ∧ w'.cell? ⟨w2.heap.size, 1, none⟩ = some (.slice (some ⟨mb, mo, none⟩) os.length moc) ∧ w'.cell? ⟨ab, abo + r * 8, none⟩ = some (.int .i64 y.dev) ∧ w'.cell? ⟨ab, abo + r * 8 + 1, none⟩ = some (.int .i64 y.seq) ∧ w'.cell? ⟨mb, mo + q * 8, none⟩ = some (.int .i64 x.dev) ∧ w'.cell? ⟨mb, mo + q * 8 + 1, none⟩ = some (.int .i64 x.seq)) (by kernel_rfl) hS (fun hHeld => ?_)
        refine wpAnyH_take (i := 0) (oi := { dst := some 56, op := Op.fieldAddr 27 (Operand.tmp 3) 1, type := 0, pos := "laws.go:1504", after := #[], guard := none }) (v := ?_) rfl (by kernel_rfl) (by kernel_rfl) (by kernel_rfl) (fun _ _ _ h => h) (Or.inl ⟨by rfl, ?_⟩) (by assumption) ?_
        rotate_left
        · intro w hSw
          (try dsimp only at hSw)
          first | (go_simp; done) | (go_simp; with_reducible rfl)
        (try simp only [Act.put, List.setIfInBounds_toArray, List.set_cons_zero, List.set_cons_succ])
        refine wpAnyH_take (i := 1) (oi := { dst := some 57, op := Op.load 25 (Operand.tmp 56), type := 25, pos := "laws.go:1504", after := #[{ on := 0, ground := Ground.data }], guard := none }) (v := ?_) rfl (by kernel_rfl) (by kernel_rfl) (by kernel_rfl) (fun _ _ _ h => h) (Or.inl ⟨by rfl, ?_⟩) (by assumption) ?_
        rotate_left
        · intro w hSw
          (try dsimp only at hSw)
          first | (go_simp; done) | (go_simp; with_reducible rfl)
        (try simp only [Act.put, List.setIfInBounds_toArray, List.set_cons_zero, List.set_cons_succ])
        refine wpAnyH_take (i := 2) (oi := { dst := some 58, op := Op.move (Operand.tmp 11), type := 3, pos := "laws.go:1504", after := #[], guard := none }) (v := ?_) rfl (by kernel_rfl) (by kernel_rfl) (by kernel_rfl) (fun _ _ _ h => h) (Or.inl ⟨by rfl, ?_⟩) (by assumption) ?_
        rotate_left
        · intro w hSw
          (try dsimp only at hSw)
          first | (go_simp; done) | (go_simp; with_reducible rfl)
        (try simp only [Act.put, List.setIfInBounds_toArray, List.set_cons_zero, List.set_cons_succ])
        refine wpAnyH_take (i := 3) (oi := { dst := some 59, op := Op.indexAddr 25 (Operand.tmp 57) (Operand.tmp 58), type := 0, pos := "laws.go:1504", after := #[{ on := 1, ground := Ground.data }, { on := 2, ground := Ground.data }], guard := none }) (v := ?_) rfl (by kernel_rfl) (by kernel_rfl) (by kernel_rfl) (fun _ _ _ h => h) (Or.inl ⟨by rfl, ?_⟩) (by assumption) ?_
        rotate_left
        · intro w hSw
          (try dsimp only at hSw)
          first | (go_simp; done) | (go_simp; with_reducible rfl)
        (try simp only [Act.put, List.setIfInBounds_toArray, List.set_cons_zero, List.set_cons_succ])
        refine wpAnyH_take (i := 4) (oi := { dst := some 60, op := Op.fieldAddr 36 (Operand.tmp 59) 0, type := 0, pos := "laws.go:1504", after := #[{ on := 3, ground := Ground.data }], guard := none }) (v := ?_) rfl (by kernel_rfl) (by kernel_rfl) (by kernel_rfl) (fun _ _ _ h => h) (Or.inl ⟨by rfl, ?_⟩) (by assumption) ?_
        rotate_left
        · intro w hSw
          (try dsimp only at hSw)
          first | (go_simp; done) | (go_simp; with_reducible rfl)
        (try simp only [Act.put, List.setIfInBounds_toArray, List.set_cons_zero, List.set_cons_succ])
        refine wpAnyH_take (i := 5) (oi := { dst := some 61, op := Op.load 2 (Operand.tmp 60), type := 2, pos := "laws.go:1504", after := #[{ on := 4, ground := Ground.data }], guard := none }) (v := ?_) rfl (by kernel_rfl) (by kernel_rfl) (by kernel_rfl) (fun _ _ _ h => h) (Or.inl ⟨by rfl, ?_⟩) (by assumption) ?_
        rotate_left
        · intro w hSw
          (try dsimp only at hSw)
          first | (go_simp; done) | (go_simp; with_reducible rfl)
        (try simp only [Act.put, List.setIfInBounds_toArray, List.set_cons_zero, List.set_cons_succ])
        refine wpAnyH_take (i := 6) (oi := { dst := some 62, op := Op.fieldAddr 27 (Operand.tmp 5) 1, type := 0, pos := "laws.go:1504", after := #[], guard := none }) (v := ?_) rfl (by kernel_rfl) (by kernel_rfl) (by kernel_rfl) (fun _ _ _ h => h) (Or.inl ⟨by rfl, ?_⟩) (by assumption) ?_
        rotate_left
        · intro w hSw
          (try dsimp only at hSw)
          first | (go_simp; done) | (go_simp; with_reducible rfl)
        (try simp only [Act.put, List.setIfInBounds_toArray, List.set_cons_zero, List.set_cons_succ])
        refine wpAnyH_take (i := 7) (oi := { dst := some 63, op := Op.load 25 (Operand.tmp 62), type := 25, pos := "laws.go:1504", after := #[{ on := 6, ground := Ground.data }], guard := none }) (v := ?_) rfl (by kernel_rfl) (by kernel_rfl) (by kernel_rfl) (fun _ _ _ h => h) (Or.inl ⟨by rfl, ?_⟩) (by assumption) ?_
        rotate_left
        · intro w hSw
          (try dsimp only at hSw)
          first | (go_simp; done) | (go_simp; with_reducible rfl)
        (try simp only [Act.put, List.setIfInBounds_toArray, List.set_cons_zero, List.set_cons_succ])
        refine wpAnyH_take (i := 8) (oi := { dst := some 64, op := Op.move (Operand.tmp 9), type := 3, pos := "laws.go:1504", after := #[], guard := none }) (v := ?_) rfl (by kernel_rfl) (by kernel_rfl) (by kernel_rfl) (fun _ _ _ h => h) (Or.inl ⟨by rfl, ?_⟩) (by assumption) ?_
        rotate_left
        · intro w hSw
          (try dsimp only at hSw)
          first | (go_simp; done) | (go_simp; with_reducible rfl)
        (try simp only [Act.put, List.setIfInBounds_toArray, List.set_cons_zero, List.set_cons_succ])
        refine wpAnyH_take (i := 9) (oi := { dst := some 65, op := Op.indexAddr 25 (Operand.tmp 63) (Operand.tmp 64), type := 0, pos := "laws.go:1504", after := #[{ on := 7, ground := Ground.data }, { on := 8, ground := Ground.data }], guard := none }) (v := ?_) rfl (by kernel_rfl) (by kernel_rfl) (by kernel_rfl) (fun _ _ _ h => h) (Or.inl ⟨by rfl, ?_⟩) (by assumption) ?_
        rotate_left
        · intro w hSw
          (try dsimp only at hSw)
          first | (go_simp; done) | (go_simp; with_reducible rfl)
        (try simp only [Act.put, List.setIfInBounds_toArray, List.set_cons_zero, List.set_cons_succ])
        refine wpAnyH_take (i := 10) (oi := { dst := some 66, op := Op.fieldAddr 36 (Operand.tmp 65) 0, type := 0, pos := "laws.go:1504", after := #[{ on := 9, ground := Ground.data }], guard := none }) (v := ?_) rfl (by kernel_rfl) (by kernel_rfl) (by kernel_rfl) (fun _ _ _ h => h) (Or.inl ⟨by rfl, ?_⟩) (by assumption) ?_
        rotate_left
        · intro w hSw
          (try dsimp only at hSw)
          first | (go_simp; done) | (go_simp; with_reducible rfl)
        (try simp only [Act.put, List.setIfInBounds_toArray, List.set_cons_zero, List.set_cons_succ])
        refine wpAnyH_take (i := 11) (oi := { dst := some 67, op := Op.load 2 (Operand.tmp 66), type := 2, pos := "laws.go:1504", after := #[{ on := 10, ground := Ground.data }], guard := none }) (v := ?_) rfl (by kernel_rfl) (by kernel_rfl) (by kernel_rfl) (fun _ _ _ h => h) (Or.inl ⟨by rfl, ?_⟩) (by assumption) ?_
        rotate_left
        · intro w hSw
          (try dsimp only at hSw)
          first | (go_simp; done) | (go_simp; with_reducible rfl)
        (try simp only [Act.put, List.setIfInBounds_toArray, List.set_cons_zero, List.set_cons_succ])
        refine wpAnyH_take (i := 12) (oi := { dst := some 68, op := Op.binOp BinOp.eql 2 (Operand.tmp 61) (Operand.tmp 67) 2, type := 4, pos := "laws.go:1504", after := #[{ on := 5, ground := Ground.data }, { on := 11, ground := Ground.data }], guard := none }) (v := ?_) rfl (by kernel_rfl) (by kernel_rfl) (by kernel_rfl) (fun _ _ _ h => h) (Or.inl ⟨by rfl, ?_⟩) (by assumption) ?_
        rotate_left
        · intro w hSw
          (try dsimp only at hSw)
          first | (go_simp; done) | (go_simp; with_reducible rfl)
        (try simp only [Act.put, List.setIfInBounds_toArray, List.set_cons_zero, List.set_cons_succ])
        refine wpAnyH_take (i := 13) (oi := { dst := some 69, op := Op.move (Operand.tmp 68), type := 4, pos := "laws.go:1504", after := #[{ on := 12, ground := Ground.data }], guard := none }) (v := ?_) rfl (by kernel_rfl) (by kernel_rfl) (by kernel_rfl) (fun _ _ _ h => h) (Or.inl ⟨by rfl, ?_⟩) (by assumption) ?_
        rotate_left
        · intro w hSw
          (try dsimp only at hSw)
          first | (go_simp; done) | (go_simp; with_reducible rfl)
        (try simp only [Act.put, List.setIfInBounds_toArray, List.set_cons_zero, List.set_cons_succ])
        refine wpAnyH_take (i := 14) (oi := { dst := some 70, op := Op.fieldAddr 27 (Operand.tmp 3) 1, type := 0, pos := "laws.go:1504", after := #[{ on := 13, ground := Ground.guard }], guard := some (13, true) }) (v := undef) rfl (by kernel_rfl) (by kernel_rfl) (by kernel_rfl) (fun _ _ _ h => h) (Or.inr ⟨by rfl, rfl⟩) (by assumption) ?_
        (try simp only [Act.put, List.setIfInBounds_toArray, List.set_cons_zero, List.set_cons_succ])
        refine wpAnyH_take (i := 15) (oi := { dst := some 71, op := Op.load 25 (Operand.tmp 70), type := 25, pos := "laws.go:1504", after := #[{ on := 14, ground := Ground.data }, { on := 13, ground := Ground.guard }], guard := some (13, true) }) (v := undef) rfl (by kernel_rfl) (by kernel_rfl) (by kernel_rfl) (fun _ _ _ h => h) (Or.inr ⟨by rfl, rfl⟩) (by assumption) ?_
        (try simp only [Act.put, List.setIfInBounds_toArray, List.set_cons_zero, List.set_cons_succ])
        refine wpAnyH_take (i := 16) (oi := { dst := some 72, op := Op.move (Operand.tmp 11), type := 3, pos := "laws.go:1504", after := #[{ on := 13, ground := Ground.guard }], guard := some (13, true) }) (v := undef) rfl (by kernel_rfl) (by kernel_rfl) (by kernel_rfl) (fun _ _ _ h => h) (Or.inr ⟨by rfl, rfl⟩) (by assumption) ?_
        (try simp only [Act.put, List.setIfInBounds_toArray, List.set_cons_zero, List.set_cons_succ])
        refine wpAnyH_take (i := 17) (oi := { dst := some 73, op := Op.indexAddr 25 (Operand.tmp 71) (Operand.tmp 72), type := 0, pos := "laws.go:1504", after := #[{ on := 15, ground := Ground.data }, { on := 16, ground := Ground.data }, { on := 13, ground := Ground.guard }], guard := some (13, true) }) (v := undef) rfl (by kernel_rfl) (by kernel_rfl) (by kernel_rfl) (fun _ _ _ h => h) (Or.inr ⟨by rfl, rfl⟩) (by assumption) ?_
        (try simp only [Act.put, List.setIfInBounds_toArray, List.set_cons_zero, List.set_cons_succ])
        refine wpAnyH_take (i := 18) (oi := { dst := some 74, op := Op.fieldAddr 36 (Operand.tmp 73) 1, type := 0, pos := "laws.go:1504", after := #[{ on := 17, ground := Ground.data }, { on := 13, ground := Ground.guard }], guard := some (13, true) }) (v := undef) rfl (by kernel_rfl) (by kernel_rfl) (by kernel_rfl) (fun _ _ _ h => h) (Or.inr ⟨by rfl, rfl⟩) (by assumption) ?_
        (try simp only [Act.put, List.setIfInBounds_toArray, List.set_cons_zero, List.set_cons_succ])
        refine wpAnyH_take (i := 19) (oi := { dst := some 75, op := Op.load 2 (Operand.tmp 74), type := 2, pos := "laws.go:1504", after := #[{ on := 18, ground := Ground.data }, { on := 13, ground := Ground.guard }], guard := some (13, true) }) (v := undef) rfl (by kernel_rfl) (by kernel_rfl) (by kernel_rfl) (fun _ _ _ h => h) (Or.inr ⟨by rfl, rfl⟩) (by assumption) ?_
        (try simp only [Act.put, List.setIfInBounds_toArray, List.set_cons_zero, List.set_cons_succ])
        refine wpAnyH_take (i := 20) (oi := { dst := some 76, op := Op.fieldAddr 27 (Operand.tmp 5) 1, type := 0, pos := "laws.go:1504", after := #[{ on := 13, ground := Ground.guard }], guard := some (13, true) }) (v := undef) rfl (by kernel_rfl) (by kernel_rfl) (by kernel_rfl) (fun _ _ _ h => h) (Or.inr ⟨by rfl, rfl⟩) (by assumption) ?_
        (try simp only [Act.put, List.setIfInBounds_toArray, List.set_cons_zero, List.set_cons_succ])
        refine wpAnyH_take (i := 21) (oi := { dst := some 77, op := Op.load 25 (Operand.tmp 76), type := 25, pos := "laws.go:1504", after := #[{ on := 20, ground := Ground.data }, { on := 13, ground := Ground.guard }], guard := some (13, true) }) (v := undef) rfl (by kernel_rfl) (by kernel_rfl) (by kernel_rfl) (fun _ _ _ h => h) (Or.inr ⟨by rfl, rfl⟩) (by assumption) ?_
        (try simp only [Act.put, List.setIfInBounds_toArray, List.set_cons_zero, List.set_cons_succ])
        refine wpAnyH_take (i := 22) (oi := { dst := some 78, op := Op.move (Operand.tmp 9), type := 3, pos := "laws.go:1504", after := #[{ on := 13, ground := Ground.guard }], guard := some (13, true) }) (v := undef) rfl (by kernel_rfl) (by kernel_rfl) (by kernel_rfl) (fun _ _ _ h => h) (Or.inr ⟨by rfl, rfl⟩) (by assumption) ?_
        (try simp only [Act.put, List.setIfInBounds_toArray, List.set_cons_zero, List.set_cons_succ])
        refine wpAnyH_take (i := 23) (oi := { dst := some 79, op := Op.indexAddr 25 (Operand.tmp 77) (Operand.tmp 78), type := 0, pos := "laws.go:1504", after := #[{ on := 21, ground := Ground.data }, { on := 22, ground := Ground.data }, { on := 13, ground := Ground.guard }], guard := some (13, true) }) (v := undef) rfl (by kernel_rfl) (by kernel_rfl) (by kernel_rfl) (fun _ _ _ h => h) (Or.inr ⟨by rfl, rfl⟩) (by assumption) ?_
        (try simp only [Act.put, List.setIfInBounds_toArray, List.set_cons_zero, List.set_cons_succ])
        refine wpAnyH_take (i := 24) (oi := { dst := some 80, op := Op.fieldAddr 36 (Operand.tmp 79) 1, type := 0, pos := "laws.go:1504", after := #[{ on := 23, ground := Ground.data }, { on := 13, ground := Ground.guard }], guard := some (13, true) }) (v := undef) rfl (by kernel_rfl) (by kernel_rfl) (by kernel_rfl) (fun _ _ _ h => h) (Or.inr ⟨by rfl, rfl⟩) (by assumption) ?_
        (try simp only [Act.put, List.setIfInBounds_toArray, List.set_cons_zero, List.set_cons_succ])
        refine wpAnyH_take (i := 25) (oi := { dst := some 81, op := Op.load 2 (Operand.tmp 80), type := 2, pos := "laws.go:1504", after := #[{ on := 24, ground := Ground.data }, { on := 13, ground := Ground.guard }], guard := some (13, true) }) (v := undef) rfl (by kernel_rfl) (by kernel_rfl) (by kernel_rfl) (fun _ _ _ h => h) (Or.inr ⟨by rfl, rfl⟩) (by assumption) ?_
        (try simp only [Act.put, List.setIfInBounds_toArray, List.set_cons_zero, List.set_cons_succ])
        refine wpAnyH_take (i := 26) (oi := { dst := some 82, op := Op.binOp BinOp.eql 2 (Operand.tmp 75) (Operand.tmp 81) 2, type := 4, pos := "laws.go:1504", after := #[{ on := 19, ground := Ground.data }, { on := 25, ground := Ground.data }, { on := 13, ground := Ground.guard }], guard := some (13, true) }) (v := undef) rfl (by kernel_rfl) (by kernel_rfl) (by kernel_rfl) (fun _ _ _ h => h) (Or.inr ⟨by rfl, rfl⟩) (by assumption) ?_
        (try simp only [Act.put, List.setIfInBounds_toArray, List.set_cons_zero, List.set_cons_succ])
        refine wpAnyH_take (i := 27) (oi := { dst := some 83, op := Op.pick (Operand.tmp 69) (Operand.tmp 82) (Operand.const (Value.bool false)), type := 4, pos := "laws.go:1504", after := #[{ on := 13, ground := Ground.data }, { on := 26, ground := Ground.data }], guard := none }) (v := ?_) rfl (by kernel_rfl) (by kernel_rfl) (by kernel_rfl) (fun _ _ _ h => h) (Or.inl ⟨by rfl, ?_⟩) (by assumption) ?_
        rotate_left
        · intro w hSw
          (try dsimp only at hSw)
          first | (go_simp; done) | (go_simp; with_reducible rfl)
        (try simp only [Act.put, List.setIfInBounds_toArray, List.set_cons_zero, List.set_cons_succ])
        refine wpAnyH_done (by kernel_rfl) ?_ _
        clear hS hHeld
        go_wp2
        go_roundw
        case rel => exact ⟨r + 1, by omega, by go_num, by rw [HE.out], HBs.out.drew⟩
        case measure => simp [intOf]; omega
      have bdv : (y.dev == x.dev) = true := by rw [hdv]; exact beq_self_eq_true _
      by_cases hsq : y.seq = x.seq
      rotate_left
      · have bsq : (y.seq == x.seq) = false := by rw [beq_eq_false_iff_ne]; exact hsq
        have HE := Lib.hid (HStep.out.trans (if_neg fun h => hsq h.2))
        clear hsq hdv
        have hS : wr.drew.cell? ⟨w0.heap.size, 1, none⟩ = some (.slice (some ⟨ab, abo, none⟩) l.length aoc) ∧ wr.drew.cell? ⟨w2.heap.size, 1, none⟩ = some (.slice (some ⟨mb, mo, none⟩) os.length moc) ∧ wr.drew.cell? ⟨ab, abo + r * 8, none⟩ = some (.int .i64 y.dev) ∧ wr.drew.cell? ⟨ab, abo + r * 8 + 1, none⟩ = some (.int .i64 y.seq) ∧ wr.drew.cell? ⟨mb, mo + q * 8, none⟩ = some (.int .i64 x.dev) ∧ wr.drew.cell? ⟨mb, mo + q * 8 + 1, none⟩ = some (.int .i64 x.seq) := ⟨ca1, cm1, e0, e1, d0, d1⟩
        go_wp2_with fail
        refine wp_region_held_drew (S := fun w' => w'.cell? ⟨w0.heap.size, 1, none⟩ = some (.slice (some ⟨ab, abo, none⟩) l.length aoc) ∧ w'.cell? ⟨w2.heap.size, 1, none⟩ = some (.slice (some ⟨mb, mo, none⟩) os.length moc) ∧ w'.cell? ⟨ab, abo + r * 8, none⟩ = some (.int .i64 y.dev) ∧ w'.cell? ⟨ab, abo + r * 8 + 1, none⟩ = some (.int .i64 y.seq) ∧ w'.cell? ⟨mb, mo + q * 8, none⟩ = some (.int .i64 x.dev) ∧ w'.cell? ⟨mb, mo + q * 8 + 1, none⟩ = some (.int .i64 x.seq)) (by kernel_rfl) hS (fun hHeld => ?_)
        refine wpAnyH_take (i := 0) (oi := { dst := some 56, op := Op.fieldAddr 27 (Operand.tmp 3) 1, type := 0, pos := "laws.go:1504", after := #[], guard := none }) (v := ?_) rfl (by kernel_rfl) (by kernel_rfl) (by kernel_rfl) (fun _ _ _ h => h) (Or.inl ⟨by rfl, ?_⟩) (by assumption) ?_
        rotate_left
        · intro w hSw
          (try dsimp only at hSw)
          first | (go_simp; done) | (go_simp; with_reducible rfl)
        (try simp only [Act.put, List.setIfInBounds_toArray, List.set_cons_zero, List.set_cons_succ])
        refine wpAnyH_take (i := 1) (oi := { dst := some 57, op := Op.load 25 (Operand.tmp 56), type := 25, pos := "laws.go:1504", after := #[{ on := 0, ground := Ground.data }], guard := none }) (v := ?_) rfl (by kernel_rfl) (by kernel_rfl) (by kernel_rfl) (fun _ _ _ h => h) (Or.inl ⟨by rfl, ?_⟩) (by assumption) ?_
        rotate_left
        · intro w hSw
          (try dsimp only at hSw)
          first | (go_simp; done) | (go_simp; with_reducible rfl)
        (try simp only [Act.put, List.setIfInBounds_toArray, List.set_cons_zero, List.set_cons_succ])
        refine wpAnyH_take (i := 2) (oi := { dst := some 58, op := Op.move (Operand.tmp 11), type := 3, pos := "laws.go:1504", after := #[], guard := none }) (v := ?_) rfl (by kernel_rfl) (by kernel_rfl) (by kernel_rfl) (fun _ _ _ h => h) (Or.inl ⟨by rfl, ?_⟩) (by assumption) ?_
        rotate_left
        · intro w hSw
          (try dsimp only at hSw)
          first | (go_simp; done) | (go_simp; with_reducible rfl)
        (try simp only [Act.put, List.setIfInBounds_toArray, List.set_cons_zero, List.set_cons_succ])
        refine wpAnyH_take (i := 3) (oi := { dst := some 59, op := Op.indexAddr 25 (Operand.tmp 57) (Operand.tmp 58), type := 0, pos := "laws.go:1504", after := #[{ on := 1, ground := Ground.data }, { on := 2, ground := Ground.data }], guard := none }) (v := ?_) rfl (by kernel_rfl) (by kernel_rfl) (by kernel_rfl) (fun _ _ _ h => h) (Or.inl ⟨by rfl, ?_⟩) (by assumption) ?_
        rotate_left
        · intro w hSw
          (try dsimp only at hSw)
          first | (go_simp; done) | (go_simp; with_reducible rfl)
        (try simp only [Act.put, List.setIfInBounds_toArray, List.set_cons_zero, List.set_cons_succ])
        refine wpAnyH_take (i := 4) (oi := { dst := some 60, op := Op.fieldAddr 36 (Operand.tmp 59) 0, type := 0, pos := "laws.go:1504", after := #[{ on := 3, ground := Ground.data }], guard := none }) (v := ?_) rfl (by kernel_rfl) (by kernel_rfl) (by kernel_rfl) (fun _ _ _ h => h) (Or.inl ⟨by rfl, ?_⟩) (by assumption) ?_
        rotate_left
        · intro w hSw
          (try dsimp only at hSw)
          first | (go_simp; done) | (go_simp; with_reducible rfl)
        (try simp only [Act.put, List.setIfInBounds_toArray, List.set_cons_zero, List.set_cons_succ])
        refine wpAnyH_take (i := 5) (oi := { dst := some 61, op := Op.load 2 (Operand.tmp 60), type := 2, pos := "laws.go:1504", after := #[{ on := 4, ground := Ground.data }], guard := none }) (v := ?_) rfl (by kernel_rfl) (by kernel_rfl) (by kernel_rfl) (fun _ _ _ h => h) (Or.inl ⟨by rfl, ?_⟩) (by assumption) ?_
        rotate_left
        · intro w hSw
          (try dsimp only at hSw)
          first | (go_simp; done) | (go_simp; with_reducible rfl)
        (try simp only [Act.put, List.setIfInBounds_toArray, List.set_cons_zero, List.set_cons_succ])
        refine wpAnyH_take (i := 6) (oi := { dst := some 62, op := Op.fieldAddr 27 (Operand.tmp 5) 1, type := 0, pos := "laws.go:1504", after := #[], guard := none }) (v := ?_) rfl (by kernel_rfl) (by kernel_rfl) (by kernel_rfl) (fun _ _ _ h => h) (Or.inl ⟨by rfl, ?_⟩) (by assumption) ?_
        rotate_left
        · intro w hSw
          (try dsimp only at hSw)
          first | (go_simp; done) | (go_simp; with_reducible rfl)
        (try simp only [Act.put, List.setIfInBounds_toArray, List.set_cons_zero, List.set_cons_succ])
        refine wpAnyH_take (i := 7) (oi := { dst := some 63, op := Op.load 25 (Operand.tmp 62), type := 25, pos := "laws.go:1504", after := #[{ on := 6, ground := Ground.data }], guard := none }) (v := ?_) rfl (by kernel_rfl) (by kernel_rfl) (by kernel_rfl) (fun _ _ _ h => h) (Or.inl ⟨by rfl, ?_⟩) (by assumption) ?_
        rotate_left
        · intro w hSw
          (try dsimp only at hSw)
          first | (go_simp; done) | (go_simp; with_reducible rfl)
        (try simp only [Act.put, List.setIfInBounds_toArray, List.set_cons_zero, List.set_cons_succ])
        refine wpAnyH_take (i := 8) (oi := { dst := some 64, op := Op.move (Operand.tmp 9), type := 3, pos := "laws.go:1504", after := #[], guard := none }) (v := ?_) rfl (by kernel_rfl) (by kernel_rfl) (by kernel_rfl) (fun _ _ _ h => h) (Or.inl ⟨by rfl, ?_⟩) (by assumption) ?_
        rotate_left
        · intro w hSw
          (try dsimp only at hSw)
          first | (go_simp; done) | (go_simp; with_reducible rfl)
        (try simp only [Act.put, List.setIfInBounds_toArray, List.set_cons_zero, List.set_cons_succ])
        refine wpAnyH_take (i := 9) (oi := { dst := some 65, op := Op.indexAddr 25 (Operand.tmp 63) (Operand.tmp 64), type := 0, pos := "laws.go:1504", after := #[{ on := 7, ground := Ground.data }, { on := 8, ground := Ground.data }], guard := none }) (v := ?_) rfl (by kernel_rfl) (by kernel_rfl) (by kernel_rfl) (fun _ _ _ h => h) (Or.inl ⟨by rfl, ?_⟩) (by assumption) ?_
        rotate_left
        · intro w hSw
          (try dsimp only at hSw)
          first | (go_simp; done) | (go_simp; with_reducible rfl)
        (try simp only [Act.put, List.setIfInBounds_toArray, List.set_cons_zero, List.set_cons_succ])
        refine wpAnyH_take (i := 10) (oi := { dst := some 66, op := Op.fieldAddr 36 (Operand.tmp 65) 0, type := 0, pos := "laws.go:1504", after := #[{ on := 9, ground := Ground.data }], guard := none }) (v := ?_) rfl (by kernel_rfl) (by kernel_rfl) (by kernel_rfl) (fun _ _ _ h => h) (Or.inl ⟨by rfl, ?_⟩) (by assumption) ?_
        rotate_left
        · intro w hSw
          (try dsimp only at hSw)
          first | (go_simp; done) | (go_simp; with_reducible rfl)
        (try simp only [Act.put, List.setIfInBounds_toArray, List.set_cons_zero, List.set_cons_succ])
        refine wpAnyH_take (i := 11) (oi := { dst := some 67, op := Op.load 2 (Operand.tmp 66), type := 2, pos := "laws.go:1504", after := #[{ on := 10, ground := Ground.data }], guard := none }) (v := ?_) rfl (by kernel_rfl) (by kernel_rfl) (by kernel_rfl) (fun _ _ _ h => h) (Or.inl ⟨by rfl, ?_⟩) (by assumption) ?_
        rotate_left
        · intro w hSw
          (try dsimp only at hSw)
          first | (go_simp; done) | (go_simp; with_reducible rfl)
        (try simp only [Act.put, List.setIfInBounds_toArray, List.set_cons_zero, List.set_cons_succ])
        refine wpAnyH_take (i := 12) (oi := { dst := some 68, op := Op.binOp BinOp.eql 2 (Operand.tmp 61) (Operand.tmp 67) 2, type := 4, pos := "laws.go:1504", after := #[{ on := 5, ground := Ground.data }, { on := 11, ground := Ground.data }], guard := none }) (v := ?_) rfl (by kernel_rfl) (by kernel_rfl) (by kernel_rfl) (fun _ _ _ h => h) (Or.inl ⟨by rfl, ?_⟩) (by assumption) ?_
        rotate_left
        · intro w hSw
          (try dsimp only at hSw)
          first | (go_simp; done) | (go_simp; with_reducible rfl)
        (try simp only [Act.put, List.setIfInBounds_toArray, List.set_cons_zero, List.set_cons_succ])
        refine wpAnyH_take (i := 13) (oi := { dst := some 69, op := Op.move (Operand.tmp 68), type := 4, pos := "laws.go:1504", after := #[{ on := 12, ground := Ground.data }], guard := none }) (v := ?_) rfl (by kernel_rfl) (by kernel_rfl) (by kernel_rfl) (fun _ _ _ h => h) (Or.inl ⟨by rfl, ?_⟩) (by assumption) ?_
        rotate_left
        · intro w hSw
          (try dsimp only at hSw)
          first | (go_simp; done) | (go_simp; with_reducible rfl)
        (try simp only [Act.put, List.setIfInBounds_toArray, List.set_cons_zero, List.set_cons_succ])
        refine wpAnyH_take (i := 14) (oi := { dst := some 70, op := Op.fieldAddr 27 (Operand.tmp 3) 1, type := 0, pos := "laws.go:1504", after := #[{ on := 13, ground := Ground.guard }], guard := some (13, true) }) (v := ?_) rfl (by kernel_rfl) (by kernel_rfl) (by kernel_rfl) (fun _ _ _ h => h) (Or.inl ⟨by rfl, ?_⟩) (by assumption) ?_
        rotate_left
        · intro w hSw
          (try dsimp only at hSw)
          first | (go_simp; done) | (go_simp; with_reducible rfl)
        (try simp only [Act.put, List.setIfInBounds_toArray, List.set_cons_zero, List.set_cons_succ])
        refine wpAnyH_take (i := 15) (oi := { dst := some 71, op := Op.load 25 (Operand.tmp 70), type := 25, pos := "laws.go:1504", after := #[{ on := 14, ground := Ground.data }, { on := 13, ground := Ground.guard }], guard := some (13, true) }) (v := ?_) rfl (by kernel_rfl) (by kernel_rfl) (by kernel_rfl) (fun _ _ _ h => h) (Or.inl ⟨by rfl, ?_⟩) (by assumption) ?_
        rotate_left
        · intro w hSw
          (try dsimp only at hSw)
          first | (go_simp; done) | (go_simp; with_reducible rfl)
        (try simp only [Act.put, List.setIfInBounds_toArray, List.set_cons_zero, List.set_cons_succ])
        refine wpAnyH_take (i := 16) (oi := { dst := some 72, op := Op.move (Operand.tmp 11), type := 3, pos := "laws.go:1504", after := #[{ on := 13, ground := Ground.guard }], guard := some (13, true) }) (v := ?_) rfl (by kernel_rfl) (by kernel_rfl) (by kernel_rfl) (fun _ _ _ h => h) (Or.inl ⟨by rfl, ?_⟩) (by assumption) ?_
        rotate_left
        · intro w hSw
          (try dsimp only at hSw)
          first | (go_simp; done) | (go_simp; with_reducible rfl)
        (try simp only [Act.put, List.setIfInBounds_toArray, List.set_cons_zero, List.set_cons_succ])
        refine wpAnyH_take (i := 17) (oi := { dst := some 73, op := Op.indexAddr 25 (Operand.tmp 71) (Operand.tmp 72), type := 0, pos := "laws.go:1504", after := #[{ on := 15, ground := Ground.data }, { on := 16, ground := Ground.data }, { on := 13, ground := Ground.guard }], guard := some (13, true) }) (v := ?_) rfl (by kernel_rfl) (by kernel_rfl) (by kernel_rfl) (fun _ _ _ h => h) (Or.inl ⟨by rfl, ?_⟩) (by assumption) ?_
        rotate_left
        · intro w hSw
          (try dsimp only at hSw)
          first | (go_simp; done) | (go_simp; with_reducible rfl)
        (try simp only [Act.put, List.setIfInBounds_toArray, List.set_cons_zero, List.set_cons_succ])
        refine wpAnyH_take (i := 18) (oi := { dst := some 74, op := Op.fieldAddr 36 (Operand.tmp 73) 1, type := 0, pos := "laws.go:1504", after := #[{ on := 17, ground := Ground.data }, { on := 13, ground := Ground.guard }], guard := some (13, true) }) (v := ?_) rfl (by kernel_rfl) (by kernel_rfl) (by kernel_rfl) (fun _ _ _ h => h) (Or.inl ⟨by rfl, ?_⟩) (by assumption) ?_
        rotate_left
        · intro w hSw
          (try dsimp only at hSw)
          first | (go_simp; done) | (go_simp; with_reducible rfl)
        (try simp only [Act.put, List.setIfInBounds_toArray, List.set_cons_zero, List.set_cons_succ])
        refine wpAnyH_take (i := 19) (oi := { dst := some 75, op := Op.load 2 (Operand.tmp 74), type := 2, pos := "laws.go:1504", after := #[{ on := 18, ground := Ground.data }, { on := 13, ground := Ground.guard }], guard := some (13, true) }) (v := ?_) rfl (by kernel_rfl) (by kernel_rfl) (by kernel_rfl) (fun _ _ _ h => h) (Or.inl ⟨by rfl, ?_⟩) (by assumption) ?_
        rotate_left
        · intro w hSw
          (try dsimp only at hSw)
          first | (go_simp; done) | (go_simp; with_reducible rfl)
        (try simp only [Act.put, List.setIfInBounds_toArray, List.set_cons_zero, List.set_cons_succ])
        refine wpAnyH_take (i := 20) (oi := { dst := some 76, op := Op.fieldAddr 27 (Operand.tmp 5) 1, type := 0, pos := "laws.go:1504", after := #[{ on := 13, ground := Ground.guard }], guard := some (13, true) }) (v := ?_) rfl (by kernel_rfl) (by kernel_rfl) (by kernel_rfl) (fun _ _ _ h => h) (Or.inl ⟨by rfl, ?_⟩) (by assumption) ?_
        rotate_left
        · intro w hSw
          (try dsimp only at hSw)
          first | (go_simp; done) | (go_simp; with_reducible rfl)
        (try simp only [Act.put, List.setIfInBounds_toArray, List.set_cons_zero, List.set_cons_succ])
        refine wpAnyH_take (i := 21) (oi := { dst := some 77, op := Op.load 25 (Operand.tmp 76), type := 25, pos := "laws.go:1504", after := #[{ on := 20, ground := Ground.data }, { on := 13, ground := Ground.guard }], guard := some (13, true) }) (v := ?_) rfl (by kernel_rfl) (by kernel_rfl) (by kernel_rfl) (fun _ _ _ h => h) (Or.inl ⟨by rfl, ?_⟩) (by assumption) ?_
        rotate_left
        · intro w hSw
          (try dsimp only at hSw)
          first | (go_simp; done) | (go_simp; with_reducible rfl)
        (try simp only [Act.put, List.setIfInBounds_toArray, List.set_cons_zero, List.set_cons_succ])
        refine wpAnyH_take (i := 22) (oi := { dst := some 78, op := Op.move (Operand.tmp 9), type := 3, pos := "laws.go:1504", after := #[{ on := 13, ground := Ground.guard }], guard := some (13, true) }) (v := ?_) rfl (by kernel_rfl) (by kernel_rfl) (by kernel_rfl) (fun _ _ _ h => h) (Or.inl ⟨by rfl, ?_⟩) (by assumption) ?_
        rotate_left
        · intro w hSw
          (try dsimp only at hSw)
          first | (go_simp; done) | (go_simp; with_reducible rfl)
        (try simp only [Act.put, List.setIfInBounds_toArray, List.set_cons_zero, List.set_cons_succ])
        refine wpAnyH_take (i := 23) (oi := { dst := some 79, op := Op.indexAddr 25 (Operand.tmp 77) (Operand.tmp 78), type := 0, pos := "laws.go:1504", after := #[{ on := 21, ground := Ground.data }, { on := 22, ground := Ground.data }, { on := 13, ground := Ground.guard }], guard := some (13, true) }) (v := ?_) rfl (by kernel_rfl) (by kernel_rfl) (by kernel_rfl) (fun _ _ _ h => h) (Or.inl ⟨by rfl, ?_⟩) (by assumption) ?_
        rotate_left
        · intro w hSw
          (try dsimp only at hSw)
          first | (go_simp; done) | (go_simp; with_reducible rfl)
        (try simp only [Act.put, List.setIfInBounds_toArray, List.set_cons_zero, List.set_cons_succ])
        refine wpAnyH_take (i := 24) (oi := { dst := some 80, op := Op.fieldAddr 36 (Operand.tmp 79) 1, type := 0, pos := "laws.go:1504", after := #[{ on := 23, ground := Ground.data }, { on := 13, ground := Ground.guard }], guard := some (13, true) }) (v := ?_) rfl (by kernel_rfl) (by kernel_rfl) (by kernel_rfl) (fun _ _ _ h => h) (Or.inl ⟨by rfl, ?_⟩) (by assumption) ?_
        rotate_left
        · intro w hSw
          (try dsimp only at hSw)
          first | (go_simp; done) | (go_simp; with_reducible rfl)
        (try simp only [Act.put, List.setIfInBounds_toArray, List.set_cons_zero, List.set_cons_succ])
        refine wpAnyH_take (i := 25) (oi := { dst := some 81, op := Op.load 2 (Operand.tmp 80), type := 2, pos := "laws.go:1504", after := #[{ on := 24, ground := Ground.data }, { on := 13, ground := Ground.guard }], guard := some (13, true) }) (v := ?_) rfl (by kernel_rfl) (by kernel_rfl) (by kernel_rfl) (fun _ _ _ h => h) (Or.inl ⟨by rfl, ?_⟩) (by assumption) ?_
        rotate_left
        · intro w hSw
          (try dsimp only at hSw)
          first | (go_simp; done) | (go_simp; with_reducible rfl)
        (try simp only [Act.put, List.setIfInBounds_toArray, List.set_cons_zero, List.set_cons_succ])
        refine wpAnyH_take (i := 26) (oi := { dst := some 82, op := Op.binOp BinOp.eql 2 (Operand.tmp 75) (Operand.tmp 81) 2, type := 4, pos := "laws.go:1504", after := #[{ on := 19, ground := Ground.data }, { on := 25, ground := Ground.data }, { on := 13, ground := Ground.guard }], guard := some (13, true) }) (v := ?_) rfl (by kernel_rfl) (by kernel_rfl) (by kernel_rfl) (fun _ _ _ h => h) (Or.inl ⟨by rfl, ?_⟩) (by assumption) ?_
        rotate_left
        · intro w hSw
          (try dsimp only at hSw)
          first | (go_simp; done) | (go_simp; with_reducible rfl)
        (try simp only [Act.put, List.setIfInBounds_toArray, List.set_cons_zero, List.set_cons_succ])
        refine wpAnyH_take (i := 27) (oi := { dst := some 83, op := Op.pick (Operand.tmp 69) (Operand.tmp 82) (Operand.const (Value.bool false)), type := 4, pos := "laws.go:1504", after := #[{ on := 13, ground := Ground.data }, { on := 26, ground := Ground.data }], guard := none }) (v := ?_) rfl (by kernel_rfl) (by kernel_rfl) (by kernel_rfl) (fun _ _ _ h => h) (Or.inl ⟨by rfl, ?_⟩) (by assumption) ?_
        rotate_left
        · intro w hSw
          (try dsimp only at hSw)
          first | (go_simp; done) | (go_simp; with_reducible rfl)
        (try simp only [Act.put, List.setIfInBounds_toArray, List.set_cons_zero, List.set_cons_succ])
        refine wpAnyH_done (by kernel_rfl) ?_ _
        clear hS hHeld
        go_wp2
        go_roundw
        case rel => exact ⟨r + 1, by omega, by go_num, by rw [HE.out], HBs.out.drew⟩
        case measure => simp [intOf]; omega
      have bsq : (y.seq == x.seq) = true := by rw [hsq]; exact beq_self_eq_true _
      have HE := Lib.hid (HStep.out.trans (if_pos ⟨hdv, hsq⟩))
      clear hsq hdv
      have hS : wr.drew.cell? ⟨w0.heap.size, 1, none⟩ = some (.slice (some ⟨ab, abo, none⟩) l.length aoc) ∧ wr.drew.cell? ⟨w2.heap.size, 1, none⟩ = some (.slice (some ⟨mb, mo, none⟩) os.length moc) ∧ wr.drew.cell? ⟨ab, abo + r * 8, none⟩ = some (.int .i64 y.dev) ∧ wr.drew.cell? ⟨ab, abo + r * 8 + 1, none⟩ = some (.int .i64 y.seq) ∧ wr.drew.cell? ⟨mb, mo + q * 8, none⟩ = some (.int .i64 x.dev) ∧ wr.drew.cell? ⟨mb, mo + q * 8 + 1, none⟩ = some (.int .i64 x.seq) := ⟨ca1, cm1, e0, e1, d0, d1⟩
      go_wp2_with fail
      refine wp_region_held_drew (S := fun w' => w'.cell? ⟨w0.heap.size, 1, none⟩ = some (.slice (some ⟨ab, abo, none⟩) l.length aoc) ∧ w'.cell? ⟨w2.heap.size, 1, none⟩ = some (.slice (some ⟨mb, mo, none⟩) os.length moc) ∧ w'.cell? ⟨ab, abo + r * 8, none⟩ = some (.int .i64 y.dev) ∧ w'.cell? ⟨ab, abo + r * 8 + 1, none⟩ = some (.int .i64 y.seq) ∧ w'.cell? ⟨mb, mo + q * 8, none⟩ = some (.int .i64 x.dev) ∧ w'.cell? ⟨mb, mo + q * 8 + 1, none⟩ = some (.int .i64 x.seq)) (by kernel_rfl) hS (fun hHeld => ?_)
      refine wpAnyH_take (i := 0) (oi := { dst := some 56, op := Op.fieldAddr 27 (Operand.tmp 3) 1, type := 0, pos := "laws.go:1504", after := #[], guard := none }) (v := ?_) rfl (by kernel_rfl) (by kernel_rfl) (by kernel_rfl) (fun _ _ _ h => h) (Or.inl ⟨by rfl, ?_⟩) (by assumption) ?_
      rotate_left
      · intro w hSw
        (try dsimp only at hSw)
        first | (go_simp; done) | (go_simp; with_reducible rfl)
      (try simp only [Act.put, List.setIfInBounds_toArray, List.set_cons_zero, List.set_cons_succ])
      refine wpAnyH_take (i := 1) (oi := { dst := some 57, op := Op.load 25 (Operand.tmp 56), type := 25, pos := "laws.go:1504", after := #[{ on := 0, ground := Ground.data }], guard := none }) (v := ?_) rfl (by kernel_rfl) (by kernel_rfl) (by kernel_rfl) (fun _ _ _ h => h) (Or.inl ⟨by rfl, ?_⟩) (by assumption) ?_
      rotate_left
      · intro w hSw
        (try dsimp only at hSw)
        first | (go_simp; done) | (go_simp; with_reducible rfl)
      (try simp only [Act.put, List.setIfInBounds_toArray, List.set_cons_zero, List.set_cons_succ])
      refine wpAnyH_take (i := 2) (oi := { dst := some 58, op := Op.move (Operand.tmp 11), type := 3, pos := "laws.go:1504", after := #[], guard := none }) (v := ?_) rfl (by kernel_rfl) (by kernel_rfl) (by kernel_rfl) (fun _ _ _ h => h) (Or.inl ⟨by rfl, ?_⟩) (by assumption) ?_
      rotate_left
      · intro w hSw
        (try dsimp only at hSw)
        first | (go_simp; done) | (go_simp; with_reducible rfl)
      (try simp only [Act.put, List.setIfInBounds_toArray, List.set_cons_zero, List.set_cons_succ])
      refine wpAnyH_take (i := 3) (oi := { dst := some 59, op := Op.indexAddr 25 (Operand.tmp 57) (Operand.tmp 58), type := 0, pos := "laws.go:1504", after := #[{ on := 1, ground := Ground.data }, { on := 2, ground := Ground.data }], guard := none }) (v := ?_) rfl (by kernel_rfl) (by kernel_rfl) (by kernel_rfl) (fun _ _ _ h => h) (Or.inl ⟨by rfl, ?_⟩) (by assumption) ?_
      rotate_left
      · intro w hSw
        (try dsimp only at hSw)
        first | (go_simp; done) | (go_simp; with_reducible rfl)
      (try simp only [Act.put, List.setIfInBounds_toArray, List.set_cons_zero, List.set_cons_succ])
      refine wpAnyH_take (i := 4) (oi := { dst := some 60, op := Op.fieldAddr 36 (Operand.tmp 59) 0, type := 0, pos := "laws.go:1504", after := #[{ on := 3, ground := Ground.data }], guard := none }) (v := ?_) rfl (by kernel_rfl) (by kernel_rfl) (by kernel_rfl) (fun _ _ _ h => h) (Or.inl ⟨by rfl, ?_⟩) (by assumption) ?_
      rotate_left
      · intro w hSw
        (try dsimp only at hSw)
        first | (go_simp; done) | (go_simp; with_reducible rfl)
      (try simp only [Act.put, List.setIfInBounds_toArray, List.set_cons_zero, List.set_cons_succ])
      refine wpAnyH_take (i := 5) (oi := { dst := some 61, op := Op.load 2 (Operand.tmp 60), type := 2, pos := "laws.go:1504", after := #[{ on := 4, ground := Ground.data }], guard := none }) (v := ?_) rfl (by kernel_rfl) (by kernel_rfl) (by kernel_rfl) (fun _ _ _ h => h) (Or.inl ⟨by rfl, ?_⟩) (by assumption) ?_
      rotate_left
      · intro w hSw
        (try dsimp only at hSw)
        first | (go_simp; done) | (go_simp; with_reducible rfl)
      (try simp only [Act.put, List.setIfInBounds_toArray, List.set_cons_zero, List.set_cons_succ])
      refine wpAnyH_take (i := 6) (oi := { dst := some 62, op := Op.fieldAddr 27 (Operand.tmp 5) 1, type := 0, pos := "laws.go:1504", after := #[], guard := none }) (v := ?_) rfl (by kernel_rfl) (by kernel_rfl) (by kernel_rfl) (fun _ _ _ h => h) (Or.inl ⟨by rfl, ?_⟩) (by assumption) ?_
      rotate_left
      · intro w hSw
        (try dsimp only at hSw)
        first | (go_simp; done) | (go_simp; with_reducible rfl)
      (try simp only [Act.put, List.setIfInBounds_toArray, List.set_cons_zero, List.set_cons_succ])
      refine wpAnyH_take (i := 7) (oi := { dst := some 63, op := Op.load 25 (Operand.tmp 62), type := 25, pos := "laws.go:1504", after := #[{ on := 6, ground := Ground.data }], guard := none }) (v := ?_) rfl (by kernel_rfl) (by kernel_rfl) (by kernel_rfl) (fun _ _ _ h => h) (Or.inl ⟨by rfl, ?_⟩) (by assumption) ?_
      rotate_left
      · intro w hSw
        (try dsimp only at hSw)
        first | (go_simp; done) | (go_simp; with_reducible rfl)
      (try simp only [Act.put, List.setIfInBounds_toArray, List.set_cons_zero, List.set_cons_succ])
      refine wpAnyH_take (i := 8) (oi := { dst := some 64, op := Op.move (Operand.tmp 9), type := 3, pos := "laws.go:1504", after := #[], guard := none }) (v := ?_) rfl (by kernel_rfl) (by kernel_rfl) (by kernel_rfl) (fun _ _ _ h => h) (Or.inl ⟨by rfl, ?_⟩) (by assumption) ?_
      rotate_left
      · intro w hSw
        (try dsimp only at hSw)
        first | (go_simp; done) | (go_simp; with_reducible rfl)
      (try simp only [Act.put, List.setIfInBounds_toArray, List.set_cons_zero, List.set_cons_succ])
      refine wpAnyH_take (i := 9) (oi := { dst := some 65, op := Op.indexAddr 25 (Operand.tmp 63) (Operand.tmp 64), type := 0, pos := "laws.go:1504", after := #[{ on := 7, ground := Ground.data }, { on := 8, ground := Ground.data }], guard := none }) (v := ?_) rfl (by kernel_rfl) (by kernel_rfl) (by kernel_rfl) (fun _ _ _ h => h) (Or.inl ⟨by rfl, ?_⟩) (by assumption) ?_
      rotate_left
      · intro w hSw
        (try dsimp only at hSw)
        first | (go_simp; done) | (go_simp; with_reducible rfl)
      (try simp only [Act.put, List.setIfInBounds_toArray, List.set_cons_zero, List.set_cons_succ])
      refine wpAnyH_take (i := 10) (oi := { dst := some 66, op := Op.fieldAddr 36 (Operand.tmp 65) 0, type := 0, pos := "laws.go:1504", after := #[{ on := 9, ground := Ground.data }], guard := none }) (v := ?_) rfl (by kernel_rfl) (by kernel_rfl) (by kernel_rfl) (fun _ _ _ h => h) (Or.inl ⟨by rfl, ?_⟩) (by assumption) ?_
      rotate_left
      · intro w hSw
        (try dsimp only at hSw)
        first | (go_simp; done) | (go_simp; with_reducible rfl)
      (try simp only [Act.put, List.setIfInBounds_toArray, List.set_cons_zero, List.set_cons_succ])
      refine wpAnyH_take (i := 11) (oi := { dst := some 67, op := Op.load 2 (Operand.tmp 66), type := 2, pos := "laws.go:1504", after := #[{ on := 10, ground := Ground.data }], guard := none }) (v := ?_) rfl (by kernel_rfl) (by kernel_rfl) (by kernel_rfl) (fun _ _ _ h => h) (Or.inl ⟨by rfl, ?_⟩) (by assumption) ?_
      rotate_left
      · intro w hSw
        (try dsimp only at hSw)
        first | (go_simp; done) | (go_simp; with_reducible rfl)
      (try simp only [Act.put, List.setIfInBounds_toArray, List.set_cons_zero, List.set_cons_succ])
      refine wpAnyH_take (i := 12) (oi := { dst := some 68, op := Op.binOp BinOp.eql 2 (Operand.tmp 61) (Operand.tmp 67) 2, type := 4, pos := "laws.go:1504", after := #[{ on := 5, ground := Ground.data }, { on := 11, ground := Ground.data }], guard := none }) (v := ?_) rfl (by kernel_rfl) (by kernel_rfl) (by kernel_rfl) (fun _ _ _ h => h) (Or.inl ⟨by rfl, ?_⟩) (by assumption) ?_
      rotate_left
      · intro w hSw
        (try dsimp only at hSw)
        first | (go_simp; done) | (go_simp; with_reducible rfl)
      (try simp only [Act.put, List.setIfInBounds_toArray, List.set_cons_zero, List.set_cons_succ])
      refine wpAnyH_take (i := 13) (oi := { dst := some 69, op := Op.move (Operand.tmp 68), type := 4, pos := "laws.go:1504", after := #[{ on := 12, ground := Ground.data }], guard := none }) (v := ?_) rfl (by kernel_rfl) (by kernel_rfl) (by kernel_rfl) (fun _ _ _ h => h) (Or.inl ⟨by rfl, ?_⟩) (by assumption) ?_
      rotate_left
      · intro w hSw
        (try dsimp only at hSw)
        first | (go_simp; done) | (go_simp; with_reducible rfl)
      (try simp only [Act.put, List.setIfInBounds_toArray, List.set_cons_zero, List.set_cons_succ])
      refine wpAnyH_take (i := 14) (oi := { dst := some 70, op := Op.fieldAddr 27 (Operand.tmp 3) 1, type := 0, pos := "laws.go:1504", after := #[{ on := 13, ground := Ground.guard }], guard := some (13, true) }) (v := ?_) rfl (by kernel_rfl) (by kernel_rfl) (by kernel_rfl) (fun _ _ _ h => h) (Or.inl ⟨by rfl, ?_⟩) (by assumption) ?_
      rotate_left
      · intro w hSw
        (try dsimp only at hSw)
        first | (go_simp; done) | (go_simp; with_reducible rfl)
      (try simp only [Act.put, List.setIfInBounds_toArray, List.set_cons_zero, List.set_cons_succ])
      refine wpAnyH_take (i := 15) (oi := { dst := some 71, op := Op.load 25 (Operand.tmp 70), type := 25, pos := "laws.go:1504", after := #[{ on := 14, ground := Ground.data }, { on := 13, ground := Ground.guard }], guard := some (13, true) }) (v := ?_) rfl (by kernel_rfl) (by kernel_rfl) (by kernel_rfl) (fun _ _ _ h => h) (Or.inl ⟨by rfl, ?_⟩) (by assumption) ?_
      rotate_left
      · intro w hSw
        (try dsimp only at hSw)
        first | (go_simp; done) | (go_simp; with_reducible rfl)
      (try simp only [Act.put, List.setIfInBounds_toArray, List.set_cons_zero, List.set_cons_succ])
      refine wpAnyH_take (i := 16) (oi := { dst := some 72, op := Op.move (Operand.tmp 11), type := 3, pos := "laws.go:1504", after := #[{ on := 13, ground := Ground.guard }], guard := some (13, true) }) (v := ?_) rfl (by kernel_rfl) (by kernel_rfl) (by kernel_rfl) (fun _ _ _ h => h) (Or.inl ⟨by rfl, ?_⟩) (by assumption) ?_
      rotate_left
      · intro w hSw
        (try dsimp only at hSw)
        first | (go_simp; done) | (go_simp; with_reducible rfl)
      (try simp only [Act.put, List.setIfInBounds_toArray, List.set_cons_zero, List.set_cons_succ])
      refine wpAnyH_take (i := 17) (oi := { dst := some 73, op := Op.indexAddr 25 (Operand.tmp 71) (Operand.tmp 72), type := 0, pos := "laws.go:1504", after := #[{ on := 15, ground := Ground.data }, { on := 16, ground := Ground.data }, { on := 13, ground := Ground.guard }], guard := some (13, true) }) (v := ?_) rfl (by kernel_rfl) (by kernel_rfl) (by kernel_rfl) (fun _ _ _ h => h) (Or.inl ⟨by rfl, ?_⟩) (by assumption) ?_
      rotate_left
      · intro w hSw
        (try dsimp only at hSw)
        first | (go_simp; done) | (go_simp; with_reducible rfl)
      (try simp only [Act.put, List.setIfInBounds_toArray, List.set_cons_zero, List.set_cons_succ])
      refine wpAnyH_take (i := 18) (oi := { dst := some 74, op := Op.fieldAddr 36 (Operand.tmp 73) 1, type := 0, pos := "laws.go:1504", after := #[{ on := 17, ground := Ground.data }, { on := 13, ground := Ground.guard }], guard := some (13, true) }) (v := ?_) rfl (by kernel_rfl) (by kernel_rfl) (by kernel_rfl) (fun _ _ _ h => h) (Or.inl ⟨by rfl, ?_⟩) (by assumption) ?_
      rotate_left
      · intro w hSw
        (try dsimp only at hSw)
        first | (go_simp; done) | (go_simp; with_reducible rfl)
      (try simp only [Act.put, List.setIfInBounds_toArray, List.set_cons_zero, List.set_cons_succ])
      refine wpAnyH_take (i := 19) (oi := { dst := some 75, op := Op.load 2 (Operand.tmp 74), type := 2, pos := "laws.go:1504", after := #[{ on := 18, ground := Ground.data }, { on := 13, ground := Ground.guard }], guard := some (13, true) }) (v := ?_) rfl (by kernel_rfl) (by kernel_rfl) (by kernel_rfl) (fun _ _ _ h => h) (Or.inl ⟨by rfl, ?_⟩) (by assumption) ?_
      rotate_left
      · intro w hSw
        (try dsimp only at hSw)
        first | (go_simp; done) | (go_simp; with_reducible rfl)
      (try simp only [Act.put, List.setIfInBounds_toArray, List.set_cons_zero, List.set_cons_succ])
      refine wpAnyH_take (i := 20) (oi := { dst := some 76, op := Op.fieldAddr 27 (Operand.tmp 5) 1, type := 0, pos := "laws.go:1504", after := #[{ on := 13, ground := Ground.guard }], guard := some (13, true) }) (v := ?_) rfl (by kernel_rfl) (by kernel_rfl) (by kernel_rfl) (fun _ _ _ h => h) (Or.inl ⟨by rfl, ?_⟩) (by assumption) ?_
      rotate_left
      · intro w hSw
        (try dsimp only at hSw)
        first | (go_simp; done) | (go_simp; with_reducible rfl)
      (try simp only [Act.put, List.setIfInBounds_toArray, List.set_cons_zero, List.set_cons_succ])
      refine wpAnyH_take (i := 21) (oi := { dst := some 77, op := Op.load 25 (Operand.tmp 76), type := 25, pos := "laws.go:1504", after := #[{ on := 20, ground := Ground.data }, { on := 13, ground := Ground.guard }], guard := some (13, true) }) (v := ?_) rfl (by kernel_rfl) (by kernel_rfl) (by kernel_rfl) (fun _ _ _ h => h) (Or.inl ⟨by rfl, ?_⟩) (by assumption) ?_
      rotate_left
      · intro w hSw
        (try dsimp only at hSw)
        first | (go_simp; done) | (go_simp; with_reducible rfl)
      (try simp only [Act.put, List.setIfInBounds_toArray, List.set_cons_zero, List.set_cons_succ])
      refine wpAnyH_take (i := 22) (oi := { dst := some 78, op := Op.move (Operand.tmp 9), type := 3, pos := "laws.go:1504", after := #[{ on := 13, ground := Ground.guard }], guard := some (13, true) }) (v := ?_) rfl (by kernel_rfl) (by kernel_rfl) (by kernel_rfl) (fun _ _ _ h => h) (Or.inl ⟨by rfl, ?_⟩) (by assumption) ?_
      rotate_left
      · intro w hSw
        (try dsimp only at hSw)
        first | (go_simp; done) | (go_simp; with_reducible rfl)
      (try simp only [Act.put, List.setIfInBounds_toArray, List.set_cons_zero, List.set_cons_succ])
      refine wpAnyH_take (i := 23) (oi := { dst := some 79, op := Op.indexAddr 25 (Operand.tmp 77) (Operand.tmp 78), type := 0, pos := "laws.go:1504", after := #[{ on := 21, ground := Ground.data }, { on := 22, ground := Ground.data }, { on := 13, ground := Ground.guard }], guard := some (13, true) }) (v := ?_) rfl (by kernel_rfl) (by kernel_rfl) (by kernel_rfl) (fun _ _ _ h => h) (Or.inl ⟨by rfl, ?_⟩) (by assumption) ?_
      rotate_left
      · intro w hSw
        (try dsimp only at hSw)
        first | (go_simp; done) | (go_simp; with_reducible rfl)
      (try simp only [Act.put, List.setIfInBounds_toArray, List.set_cons_zero, List.set_cons_succ])
      refine wpAnyH_take (i := 24) (oi := { dst := some 80, op := Op.fieldAddr 36 (Operand.tmp 79) 1, type := 0, pos := "laws.go:1504", after := #[{ on := 23, ground := Ground.data }, { on := 13, ground := Ground.guard }], guard := some (13, true) }) (v := ?_) rfl (by kernel_rfl) (by kernel_rfl) (by kernel_rfl) (fun _ _ _ h => h) (Or.inl ⟨by rfl, ?_⟩) (by assumption) ?_
      rotate_left
      · intro w hSw
        (try dsimp only at hSw)
        first | (go_simp; done) | (go_simp; with_reducible rfl)
      (try simp only [Act.put, List.setIfInBounds_toArray, List.set_cons_zero, List.set_cons_succ])
      refine wpAnyH_take (i := 25) (oi := { dst := some 81, op := Op.load 2 (Operand.tmp 80), type := 2, pos := "laws.go:1504", after := #[{ on := 24, ground := Ground.data }, { on := 13, ground := Ground.guard }], guard := some (13, true) }) (v := ?_) rfl (by kernel_rfl) (by kernel_rfl) (by kernel_rfl) (fun _ _ _ h => h) (Or.inl ⟨by rfl, ?_⟩) (by assumption) ?_
      rotate_left
      · intro w hSw
        (try dsimp only at hSw)
        first | (go_simp; done) | (go_simp; with_reducible rfl)
      (try simp only [Act.put, List.setIfInBounds_toArray, List.set_cons_zero, List.set_cons_succ])
      refine wpAnyH_take (i := 26) (oi := { dst := some 82, op := Op.binOp BinOp.eql 2 (Operand.tmp 75) (Operand.tmp 81) 2, type := 4, pos := "laws.go:1504", after := #[{ on := 19, ground := Ground.data }, { on := 25, ground := Ground.data }, { on := 13, ground := Ground.guard }], guard := some (13, true) }) (v := ?_) rfl (by kernel_rfl) (by kernel_rfl) (by kernel_rfl) (fun _ _ _ h => h) (Or.inl ⟨by rfl, ?_⟩) (by assumption) ?_
      rotate_left
      · intro w hSw
        (try dsimp only at hSw)
        first | (go_simp; done) | (go_simp; with_reducible rfl)
      (try simp only [Act.put, List.setIfInBounds_toArray, List.set_cons_zero, List.set_cons_succ])
      refine wpAnyH_take (i := 27) (oi := { dst := some 83, op := Op.pick (Operand.tmp 69) (Operand.tmp 82) (Operand.const (Value.bool false)), type := 4, pos := "laws.go:1504", after := #[{ on := 13, ground := Ground.data }, { on := 26, ground := Ground.data }], guard := none }) (v := ?_) rfl (by kernel_rfl) (by kernel_rfl) (by kernel_rfl) (fun _ _ _ h => h) (Or.inl ⟨by rfl, ?_⟩) (by assumption) ?_
      rotate_left
      · intro w hSw
        (try dsimp only at hSw)
        first | (go_simp; done) | (go_simp; with_reducible rfl)
      (try simp only [Act.put, List.setIfInBounds_toArray, List.set_cons_zero, List.set_cons_succ])
      refine wpAnyH_done (by kernel_rfl) ?_ _
      clear hS hHeld
      go_wp2
      go_roundw
      case rel => exact ⟨r + 1, by omega, by go_num, by rw [HE.out], HBs.out.drew⟩
      case measure => simp [intOf]; omega
end Go.Proofs.Ythfkoplljinmmaa
