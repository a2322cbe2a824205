/- The walk of the law FnAbsent. -/
import Derived.Test.YtejhmakfbmhhhaaGreatGw46
import Derived.Test.YtejhmakfbmhhhaaGreatGw47
import Derived.Test.YtejhmakfbmhhhaaGreatGw43
import Derived.Test.YtejhmakfbmhhhaaGreatGw25
import Derived.Deep.Cut
namespace Go.Proofs.YtejhmakfbmhhhaaGreat
open Go.RowKit
set_option linter.unusedVariables false
set_option linter.unusedSimpArgs false

set_option maxRecDepth 100000 in
set_option maxHeartbeats 16000000 in
theorem fnAbsentWalk (a : Option Addr) (len cap : Nat) (zs : List Int) (w : World) (h : IsRow .u8 w a len cap zs) :
    Calls Tryz.prog 4 #[.slice a len cap] w fun e w' => e = .returned (.bool true) ∧ Below w.heap.size w w' := by
  by_cases hbig : len ≤ 1048576
  rotate_left
  · go_enter Tryz.func4, Tryz.ntmps4
    go_wp2_with fail
    refine (bigYes a len cap hbig w).mono ?_
    rintro e w' ⟨rfl, rfl⟩
    go_wp2
    go_ret
    exact ⟨rfl, Below.refl _ _⟩
  have hsrc := Lib.hid (src_of_row h hbig)
  clear h
  go_enter Tryz.func4, Tryz.ntmps4
  go_wp2_with fail
  refine (bigNo a len cap hbig w).mono ?_
  rintro e w' ⟨rfl, rfl⟩
  go_wp2_with fail
  refine (drawItemsOf w w.heap.size a len cap (Nat.le_refl _) hsrc.out).mono ?_
  rintro e w0 ⟨⟨ava, avc, aoa, ano, aoc⟩, rfl, hx, hb0⟩
  obtain ⟨xs, l, e1, a1, a2, a3, a4, a5, a6⟩ := hx
  have e1 : ano = l.length := e1
  subst e1
  have HVA0 := Lib.hid a1.ints
  have HOA0 := Lib.hid a2.ops
  have HB0 := Lib.hid hb0
  have HCv := Lib.hid a3
  have HCa := Lib.hid a4
  have HIa : Hid (∀ i, i < l.length → (atOp l i).item.size ≤ 1048576) := fun i hi => Nat.le_trans (a5 i hi) (by omega)
  have hs0 := hb0.size
  clear a1 a2 a3 a4 a5 hb0
  dsimp only
  go_upto_region 4 with fail
  have hb : Below w0.heap.size w0 (w0.alloc (.cells #[.slice ava 4 avc, .slice aoa l.length aoc] 27)) := (Below.refl _ _).alloc (Nat.le_refl _) _
  have HXa1 := Lib.hid (boxAt (Below.refl _ (w0.alloc (.cells #[.slice ava 4 avc, .slice aoa l.length aoc] 27))))
  generalize w0.alloc (.cells #[.slice ava 4 avc, .slice aoa l.length aoc] 27) = w1 at hb HXa1 ⊢
  have hs1 := hb.size
  have HVA1 := Lib.hid (HVA0.out.below hb (by omega))
  have HOA1 := Lib.hid (HOA0.out.below hb (by omega))
  have HB1 := Lib.hid (HB0.out.trans (hb.mono (by omega)))
  clear hb HVA0 HOA0 HB0
  have hit : ∀ o ∈ l, o.item.size ≤ 1048576 := fun o ho => by
    obtain ⟨i, hi, e⟩ := List.mem_iff_getElem.1 ho
    have := HIa.out i hi
    unfold atOp at this
    rw [List.getD_eq_getElem?_getD, List.getElem?_eq_getElem hi] at this
    rw [← e]
    exact this
  have hll : (itemsN xs l).length ≤ 160 := itemsN_len
  obtain ⟨N, hN⟩ : ∃ x, itemsN xs l = x := ⟨_, rfl⟩
  rw [hN] at hll
  have HN := Lib.hid hN
  clear hN
  obtain ⟨c00, c01⟩ := pair_cells HXa1.out
  go_wp2_with fail
  have hc := implItems w1 w1.heap.size ava aoa 4 avc l.length aoc xs l (HVA1.out.more (by omega)) (HOA1.out.more (by omega)) (Nat.le_refl _) (by omega) HCa.out.1 ⟨by omega, HCa.out.2.1⟩ hit
  unfold ItemsPost at hc
  rw [HN.out] at hc
  refine hc.mono ?_
  clear hc
  rintro e w2 ⟨na, nc, rfl, hns, hb⟩
  clear c00 c01
  have hs2 := hb.size
  have HVA2 := Lib.hid (HVA1.out.below hb (by omega))
  have HOA2 := Lib.hid (HOA1.out.below hb (by omega))
  have HB2 := Lib.hid (HB1.out.trans (hb.mono (by omega)))
  have HXa2 := Lib.hid ((hb.block _ (lt_of_row HXa1.out)).trans HXa1.out)
  clear hb HVA1 HOA1 HB1 HXa1
  have HS2 := Lib.hid hns.strs
  clear hns
  obtain ⟨c00, c01⟩ := pair_cells HXa2.out
  go_wp2_with fail
  have hc := specItems w2 w2.heap.size ava aoa 4 avc l.length aoc xs l (HVA2.out.more (by omega)) (HOA2.out.more (by omega)) (Nat.le_refl _) (by omega) (by omega) HIa.out
  unfold ItemsPost at hc
  rw [HN.out] at hc
  refine hc.mono ?_
  clear hc
  rintro e w3 ⟨qa, qc, rfl, hns, hb⟩
  clear c00 c01
  have HS3 := Lib.hid (HS2.out.below hb (by omega))
  have hs3 := hb.size
  have HVA3 := Lib.hid (HVA2.out.below hb (by omega))
  have HOA3 := Lib.hid (HOA2.out.below hb (by omega))
  have HB3 := Lib.hid (HB2.out.trans (hb.mono (by omega)))
  have HXa3 := Lib.hid ((hb.block _ (lt_of_row HXa2.out)).trans HXa2.out)
  clear hb HVA2 HOA2 HB2 HXa2
  clear HS2
  have HQ3 := Lib.hid hns.strs
  clear hns
  go_wp2_with fail
  refine (sameTextsE w3 w3.heap.size w3.heap.size na qa N.length nc qc N (HS3.out.more (by omega)) (HQ3.out.more (by omega)) (Nat.le_refl _) (Nat.le_refl _) (by omega)).mono ?_
  rintro e w4 ⟨rfl, hb⟩
  have HS4 := Lib.hid (HS3.out.below hb (by omega))
  have HQ4 := Lib.hid (HQ3.out.below hb (by omega))
  have hs4 := hb.size
  have HVA4 := Lib.hid (HVA3.out.below hb (by omega))
  have HOA4 := Lib.hid (HOA3.out.below hb (by omega))
  have HB4 := Lib.hid (HB3.out.trans (hb.mono (by omega)))
  have HXa4 := Lib.hid ((hb.block _ (lt_of_row HXa3.out)).trans HXa3.out)
  clear hb HVA3 HOA3 HB3 HXa3
  clear HS3 HQ3
  clear HQ4
  obtain ⟨ca, hca⟩ : ∃ b, cartB xs l = b := ⟨_, rfl⟩
  have Hca := Lib.hid hca
  clear hca
  obtain ⟨c00, c01⟩ := pair_cells HXa4.out
  go_wp2_with fail
  have hc := specCartOk w4 w4.heap.size ava aoa 4 avc l.length aoc xs l (HVA4.out.more (by omega)) (HOA4.out.more (by omega)) (Nat.le_refl _) (by omega) (by omega) HIa.out
  rw [Hca.out] at hc
  refine hc.mono ?_
  clear hc
  rintro e w5 ⟨rfl, hb⟩
  clear c00 c01
  have HS5 := Lib.hid (HS4.out.below hb (by omega))
  have hs5 := hb.size
  have HVA5 := Lib.hid (HVA4.out.below hb (by omega))
  have HOA5 := Lib.hid (HOA4.out.below hb (by omega))
  have HB5 := Lib.hid (HB4.out.trans (hb.mono (by omega)))
  have HXa5 := Lib.hid ((hb.block _ (lt_of_row HXa4.out)).trans HXa4.out)
  clear hb HVA4 HOA4 HB4 HXa4
  clear HS4
  cases ca
  · skip
    obtain ⟨c00, c01⟩ := pair_cells HXa5.out
    go_wp2_with fail
    have hc := specItems w5 w5.heap.size ava aoa 4 avc l.length aoc xs l (HVA5.out.more (by omega)) (HOA5.out.more (by omega)) (Nat.le_refl _) (by omega) (by omega) HIa.out
    unfold ItemsPost at hc
    rw [HN.out] at hc
    refine hc.mono ?_
    clear hc
    rintro e w6 ⟨qa, qc, rfl, hns, hb⟩
    clear c00 c01
    have HS6 := Lib.hid (HS5.out.below hb (by omega))
    have hs6 := hb.size
    have HVA6 := Lib.hid (HVA5.out.below hb (by omega))
    have HOA6 := Lib.hid (HOA5.out.below hb (by omega))
    have HB6 := Lib.hid (HB5.out.trans (hb.mono (by omega)))
    have HXa6 := Lib.hid ((hb.block _ (lt_of_row HXa5.out)).trans HXa5.out)
    clear hb HVA5 HOA5 HB5 HXa5
    clear HS5
    have HQ6 := Lib.hid hns.strs
    clear hns
    go_wp2_with fail
    refine (sameTextsE w6 w6.heap.size w6.heap.size na qa N.length nc qc N (HS6.out.more (by omega)) (HQ6.out.more (by omega)) (Nat.le_refl _) (Nat.le_refl _) (by omega)).mono ?_
    rintro e w7 ⟨rfl, hb⟩
    have HS7 := Lib.hid (HS6.out.below hb (by omega))
    have HQ7 := Lib.hid (HQ6.out.below hb (by omega))
    have hs7 := hb.size
    have HVA7 := Lib.hid (HVA6.out.below hb (by omega))
    have HOA7 := Lib.hid (HOA6.out.below hb (by omega))
    have HB7 := Lib.hid (HB6.out.trans (hb.mono (by omega)))
    have HXa7 := Lib.hid ((hb.block _ (lt_of_row HXa6.out)).trans HXa6.out)
    clear hb HVA6 HOA6 HB6 HXa6
    clear HS6 HQ6
    go_wp2
    go_ret
    exact ⟨rfl, HB7.out⟩
  go_wp2
  go_loopw [5] (fun i wr => ∃ q : Nat, q ≤ l.length ∧ i = .int .i64 (q : Int) ∧ Hid (Below w5.heap.size w5 wr)) (fun i _ => l.length - (intOf i).toNat)
  case atStart => exact ⟨0, Nat.zero_le _, rfl, Below.refl _ _⟩
  case round =>
    obtain ⟨q, hq, rfl, HBr⟩ := hrel
    have hb : Below w5.heap.size w5 wr := HBr.out
    obtain ⟨w6, hwr⟩ : ∃ z, z = wr := ⟨_, rfl⟩
    subst hwr
    have HS6 := Lib.hid (HS5.out.below hb (by omega))
    have hs6 := hb.size
    have HVA6 := Lib.hid (HVA5.out.below hb (by omega))
    have HOA6 := Lib.hid (HOA5.out.below hb (by omega))
    have HB6 := Lib.hid (HB5.out.trans (hb.mono (by omega)))
    have HXa6 := Lib.hid ((hb.block _ (lt_of_row HXa5.out)).trans HXa5.out)
    clear hb HVA5 HOA5 HB5 HXa5
    clear HS5
    by_cases hlt : q < l.length
    rotate_left
    · skip
      obtain rfl : q = l.length := by omega
      clear hlt hq
      have hqi : ¬ ((l.length : Int) < (l.length : Int)) := by omega
      obtain ⟨c00, c01⟩ := pair_cells HXa6.out
      go_wp2
      go_ret
      exact ⟨rfl, HB6.out⟩
    have hqi : (q : Int) < (l.length : Int) := by omega
    have hq0 : ¬ ((q : Int) < 0) := by omega
    obtain ⟨ob, oo, haoa, hob, hao⟩ := (HOA6.out.more (B' := w6.heap.size) (by omega)).2 q hlt
    have hao : OpAt w6 ob (oo + q * 8) (atOp l q) := hao
    have hsh := shown_iff Hca.out hlt
    have hun := fun hh => unshown Hca.out (x := (atOp l q).item) hh
    have his := HIa.out q hlt
    obtain ⟨x, hx⟩ : ∃ x, atOp l q = x := ⟨_, rfl⟩
    rw [hx] at hao hsh hun his
    clear hx
    obtain ⟨_, _, _, _, d4, _, _, _⟩ := hao
    obtain ⟨IT, hIT⟩ : ∃ t, x.item = t := ⟨_, rfl⟩
    rw [hIT] at d4 hsh hun his
    clear hIT
    have hlp := levelN_pos xs l IT
    rw [HN.out] at hsh
    obtain ⟨lv, hlv⟩ : ∃ t, levelN xs l IT = t := ⟨_, rfl⟩
    rw [hlv] at hsh hun hlp
    have HLv := Lib.hid hlv
    have Hsh := Lib.hid hsh
    have Hun := Lib.hid hun
    clear hlv hsh hun
    have HD6 := Lib.hid d4
    clear d4
    subst haoa
    obtain ⟨c00, c01⟩ := pair_cells HXa6.out
    go_wp2
    clear c00 c01
    go_loopw [6, 7] (fun b i wr => ∃ (p : Nat) (v : Bool), p ≤ N.length ∧ i = .int .i64 (p : Int) ∧ b = .bool v ∧ Hid (v = true ↔ IT ∈ N.take p) ∧ Hid (Below w6.heap.size w6 wr)) (fun _ i _ => N.length - (intOf i).toNat)
    case atStart => exact ⟨0, false, Nat.zero_le _, rfl, rfl, by show _ ↔ _; simp, Below.refl _ _⟩
    case round =>
      obtain ⟨p, v, hp, rfl, rfl, HVv, HBq⟩ := hrel
      have hb : Below w6.heap.size w6 wr := HBq.out
      obtain ⟨w7, hwr⟩ : ∃ z, z = wr := ⟨_, rfl⟩
      subst hwr
      have HD7 := Lib.hid ((hb.cell (p := ⟨ob, oo + q * 8 + 4, none⟩) (by show ob < _; omega)).trans HD6.out)
      have HS7 := Lib.hid (HS6.out.below hb (by omega))
      have hs7 := hb.size
      have HVA7 := Lib.hid (HVA6.out.below hb (by omega))
      have HOA7 := Lib.hid (HOA6.out.below hb (by omega))
      have HB7 := Lib.hid (HB6.out.trans (hb.mono (by omega)))
      have HXa7 := Lib.hid ((hb.block _ (lt_of_row HXa6.out)).trans HXa6.out)
      clear hb HVA6 HOA6 HB6 HXa6
      clear HS6
      clear HD6
      by_cases hpl : p < N.length
      · skip
        obtain ⟨nb, no, hna, hnb, hnc⟩ := HS7.out.2 p hpl
        have hpi : (p : Int) < (N.length : Int) := by omega
        have hp0 : ¬ ((p : Int) < 0) := by omega
        have hTk := take_getS N p hpl
        obtain ⟨y, hy⟩ : ∃ y, N.getD p ⟨#[]⟩ = y := ⟨_, rfl⟩
        rw [hy] at hnc hTk
        clear hy
        subst hna
        have HTk := Lib.hid hTk
        clear hTk
        obtain ⟨c00, c01⟩ := pair_cells HXa7.out
        have d4 := HD7.out
        have hy1 := hnc
        cases v
        · by_cases e : y = IT
          · have hce : (y.toList == IT.toList) = true := by rw [e]; exact beq_self_eq_true _
            have HNx : Hid (true = true ↔ IT ∈ N.take (p + 1)) := by
              show _ ↔ _
              rw [HTk.out]
              have := HVv.out
              simp [e]
            go_wp2
            go_quiet (fail)
            go_wp2
            go_roundw
            case rel => exact ⟨p + 1, true, by omega, by go_num, rfl, (by show _ ↔ _; have := HNx.out; simpa using this), HBq.out.trans ((below_quiet (Below.refl _ _) nq).mono HBq.out.size)⟩
            case measure => simp [intOf]; omega
          · have hce : (y.toList == IT.toList) = false := by rw [beq_eq_false_iff_ne]; exact fun h => e (text_extS h)
            have HNx : Hid (false = true ↔ IT ∈ N.take (p + 1)) := by
              show _ ↔ _
              rw [HTk.out]
              have := HVv.out
              simp at this ⊢
              exact ⟨this, fun h => e h.symm⟩
            go_wp2
            go_quiet (fail)
            go_wp2
            go_roundw
            case rel => exact ⟨p + 1, false, by omega, by go_num, rfl, (by show _ ↔ _; have := HNx.out; simpa using this), HBq.out.trans ((below_quiet (Below.refl _ _) nq).mono HBq.out.size)⟩
            case measure => simp [intOf]; omega
        · skip
          have HNx : Hid (true = true ↔ IT ∈ N.take (p + 1)) := by
            show _ ↔ _
            rw [HTk.out]
            have := HVv.out
            simp at this ⊢
            exact .inl this
          go_wp2
          go_quiet (fail)
          go_wp2
          go_roundw
          case rel => exact ⟨p + 1, true, by omega, by go_num, rfl, (by show _ ↔ _; have := HNx.out; simpa using this), HBq.out.trans ((below_quiet (Below.refl _ _) nq).mono HBq.out.size)⟩
          case measure => simp [intOf]; omega
      · skip
        obtain rfl : p = N.length := by omega
        rw [List.take_length] at HVv
        clear hpl hp
        have hpi : ¬ ((N.length : Int) < (N.length : Int)) := by omega
        have hrm : Int.tmod lv 2 = lv % 2 := Int.tmod_eq_emod_of_nonneg hlp
        go_upto_region 15 with fail
        by_cases hin : lv % 2 = 1
        · skip
          have hv : v = true := by exact HVv.out.2 (Hsh.out.2 hin)
          have hmb : (lv % 2 == 1) = true := by rw [hin]; rfl
          subst hv
          have HBk7 : Hid (Below w7.heap.size w7 w7) := Below.refl _ _
          go_wp2_with fail
          obtain ⟨w8, hzw⟩ : ∃ z, w7.drew = z := ⟨_, rfl⟩
          have hb : Below w7.heap.size w7 w8 := by rw [← hzw]; exact ⟨rfl, rfl, rfl, Nat.le_refl _, fun _ _ => rfl⟩
          have HD8 := Lib.hid ((hb.cell (p := ⟨ob, oo + q * 8 + 4, none⟩) (by show ob < _; omega)).trans HD7.out)
          have HS8 := Lib.hid (HS7.out.below hb (by omega))
          have hs8 := hb.size
          have HVA8 := Lib.hid (HVA7.out.below hb (by omega))
          have HOA8 := Lib.hid (HOA7.out.below hb (by omega))
          have HB8 := Lib.hid (HB7.out.trans (hb.mono (by omega)))
          have HXa8 := Lib.hid ((hb.block _ (lt_of_row HXa7.out)).trans HXa7.out)
          have HBk8 := Lib.hid (HBk7.out.trans (hb.mono (by omega)))
          clear hb HVA7 HOA7 HB7 HXa7 HBk7
          clear HS7
          clear HD7
          have hS : w8.cell? ⟨w0.heap.size, 0, none⟩ = some (.slice ava 4 avc) ∧ w8.cell? ⟨w0.heap.size, 1, none⟩ = some (.slice (some ⟨ob, oo, none⟩) l.length aoc) ∧ w8.cell? ⟨ob, oo + q * 8 + 4, none⟩ = some (.string IT) := ⟨(pair_cells HXa8.out).1, (pair_cells HXa8.out).2, HD8.out⟩
          refine wp_region_held_drew (S := fun w' => w'.cell? ⟨w0.heap.size, 0, none⟩ = some (.slice ava 4 avc) ∧ w'.cell? ⟨w0.heap.size, 1, none⟩ = some (.slice (some ⟨ob, oo, none⟩) l.length aoc) ∧ w'.cell? ⟨ob, oo + q * 8 + 4, none⟩ = some (.string IT)) (by kernel_rfl) (by rw [hzw]; exact hS) (fun hHeld => ?_)
          rw [hzw]
          clear hHeld hzw
          refine wpAnyH_take (i := 0) (oi := { dst := some 55, op := .move (.tmp 6), type := 4, pos := "laws.go:366", after := #[], guard := none }) (v := ?_) rfl (by kernel_rfl) (by kernel_rfl) (by kernel_rfl) (fun _ _ _ h => h) (Or.inl ⟨by rfl, ?_⟩) (by assumption) ?_
          rotate_left
          · intro w hSw
            (try dsimp only at hSw)
            first | (go_simp; done) | (go_simp; with_reducible rfl)
          (try simp only [Act.put, List.setIfInBounds_toArray, List.set_cons_zero, List.set_cons_succ])
          refine wpAnyH_take (i := 1) (oi := { dst := some 56, op := .load 27 (.tmp 3), type := 27, pos := "laws.go:366", after := #[], guard := none }) (v := ?_) rfl (by kernel_rfl) (by kernel_rfl) (by kernel_rfl) (fun _ _ _ h => h) (Or.inl ⟨by rfl, ?_⟩) (by assumption) ?_
          rotate_left
          · intro w hSw
            (try dsimp only at hSw)
            first | (go_simp; done) | (go_simp; with_reducible rfl)
          (try simp only [Act.put, List.setIfInBounds_toArray, List.set_cons_zero, List.set_cons_succ])
          refine wpAnyH_take (i := 2) (oi := { dst := some 57, op := .fieldAddr 27 (.tmp 3) 1, type := 0, pos := "laws.go:366", after := #[], guard := none }) (v := ?_) rfl (by kernel_rfl) (by kernel_rfl) (by kernel_rfl) (fun _ _ _ h => h) (Or.inl ⟨by rfl, ?_⟩) (by assumption) ?_
          rotate_left
          · intro w hSw
            (try dsimp only at hSw)
            first | (go_simp; done) | (go_simp; with_reducible rfl)
          (try simp only [Act.put, List.setIfInBounds_toArray, List.set_cons_zero, List.set_cons_succ])
          refine wpAnyH_take (i := 3) (oi := { dst := some 58, op := .load 25 (.tmp 57), type := 25, pos := "laws.go:366", after := #[⟨2, .data⟩], guard := none }) (v := ?_) rfl (by kernel_rfl) (by kernel_rfl) (by kernel_rfl) (fun _ _ _ h => h) (Or.inl ⟨by rfl, ?_⟩) (by assumption) ?_
          rotate_left
          · intro w hSw
            (try dsimp only at hSw)
            first | (go_simp; done) | (go_simp; with_reducible rfl)
          (try simp only [Act.put, List.setIfInBounds_toArray, List.set_cons_zero, List.set_cons_succ])
          refine wpAnyH_take (i := 4) (oi := { dst := some 59, op := .move (.tmp 5), type := 3, pos := "laws.go:366", after := #[], guard := none }) (v := ?_) rfl (by kernel_rfl) (by kernel_rfl) (by kernel_rfl) (fun _ _ _ h => h) (Or.inl ⟨by rfl, ?_⟩) (by assumption) ?_
          rotate_left
          · intro w hSw
            (try dsimp only at hSw)
            first | (go_simp; done) | (go_simp; with_reducible rfl)
          (try simp only [Act.put, List.setIfInBounds_toArray, List.set_cons_zero, List.set_cons_succ])
          refine wpAnyH_take (i := 5) (oi := { dst := some 60, op := .indexAddr 25 (.tmp 58) (.tmp 59), type := 0, pos := "laws.go:366", after := #[⟨3, .data⟩, ⟨4, .data⟩], guard := none }) (v := ?_) rfl (by kernel_rfl) (by kernel_rfl) (by kernel_rfl) (fun _ _ _ h => h) (Or.inl ⟨by rfl, ?_⟩) (by assumption) ?_
          rotate_left
          · intro w hSw
            (try dsimp only at hSw)
            first | (go_simp; done) | (go_simp; with_reducible rfl)
          (try simp only [Act.put, List.setIfInBounds_toArray, List.set_cons_zero, List.set_cons_succ])
          refine wpAnyH_take (i := 6) (oi := { dst := some 61, op := .fieldAddr 39 (.tmp 60) 4, type := 0, pos := "laws.go:366", after := #[⟨5, .data⟩], guard := none }) (v := ?_) rfl (by kernel_rfl) (by kernel_rfl) (by kernel_rfl) (fun _ _ _ h => h) (Or.inl ⟨by rfl, ?_⟩) (by assumption) ?_
          rotate_left
          · intro w hSw
            (try dsimp only at hSw)
            first | (go_simp; done) | (go_simp; with_reducible rfl)
          (try simp only [Act.put, List.setIfInBounds_toArray, List.set_cons_zero, List.set_cons_succ])
          refine wpAnyH_take (i := 7) (oi := { dst := some 62, op := .load 9 (.tmp 61), type := 9, pos := "laws.go:366", after := #[⟨6, .data⟩], guard := none }) (v := ?_) rfl (by kernel_rfl) (by kernel_rfl) (by kernel_rfl) (fun _ _ _ h => h) (Or.inl ⟨by rfl, ?_⟩) (by assumption) ?_
          rotate_left
          · intro w hSw
            (try dsimp only at hSw)
            first | (go_simp; done) | (go_simp; with_reducible rfl)
          (try simp only [Act.put, List.setIfInBounds_toArray, List.set_cons_zero, List.set_cons_succ])
          refine wpAnyH_ready (rs := [8]) (by kernel_rfl) (by simp) ?_
          refine AllReadyH.cons (o := { dst := some 63, op := .call { callee := .value (.func 17), args := #[.tmp 56, .tmp 62], argTypes := #[27, 9] }, type := 2, pos := "laws.go:366", after := #[⟨1, .data⟩, ⟨7, .data⟩], guard := none }) rfl (fun K hK => ?_) AllReadyH.nil
          go_simp
          go_at_call 17
          refine (implLevel w8 w8.heap.size ava (some ⟨ob, oo, none⟩) 4 avc l.length aoc xs l IT (HVA8.out.more (by omega)) (HOA8.out.more (by omega)) (Nat.le_refl _) (by omega) HCa.out.1 ⟨by omega, HCa.out.2.1⟩).mono ?_
          rintro e w9 ⟨rfl, hb⟩
          rw [HLv.out]
          have HD9 := Lib.hid ((hb.cell (p := ⟨ob, oo + q * 8 + 4, none⟩) (by show ob < _; omega)).trans HD8.out)
          have HS9 := Lib.hid (HS8.out.below hb (by omega))
          have hs9 := hb.size
          have HVA9 := Lib.hid (HVA8.out.below hb (by omega))
          have HOA9 := Lib.hid (HOA8.out.below hb (by omega))
          have HB9 := Lib.hid (HB8.out.trans (hb.mono (by omega)))
          have HXa9 := Lib.hid ((hb.block _ (lt_of_row HXa8.out)).trans HXa8.out)
          have HBk9 := Lib.hid (HBk8.out.trans (hb.mono (by omega)))
          clear hb HVA8 HOA8 HB8 HXa8 HBk8
          clear HS8
          clear HD8
          have hS2 : w9.cell? ⟨w0.heap.size, 0, none⟩ = some (.slice ava 4 avc) ∧ w9.cell? ⟨w0.heap.size, 1, none⟩ = some (.slice (some ⟨ob, oo, none⟩) l.length aoc) ∧ w9.cell? ⟨ob, oo + q * 8 + 4, none⟩ = some (.string IT) := ⟨(pair_cells HXa9.out).1, (pair_cells HXa9.out).2, HD9.out⟩
          refine hK.out _ _ hS2 (fun hHeld3 => ?_)
          clear hK K
          (try simp only [Act.put, List.setIfInBounds_toArray, List.set_cons_zero, List.set_cons_succ])
          clear hHeld3
          refine wpAnyH_take (i := 9) (oi := { dst := some 64, op := .binOp .rem 2 (.tmp 63) (.const (Value.int IntKind.i64 2)) 2, type := 2, pos := "laws.go:366", after := #[⟨8, .data⟩], guard := none }) (v := ?_) rfl (by kernel_rfl) (by kernel_rfl) (by kernel_rfl) (fun _ _ _ h => h) (Or.inl ⟨by rfl, ?_⟩) (by assumption) ?_
          rotate_left
          · intro w hSw
            (try dsimp only at hSw)
            first | (go_simp; done) | (go_simp; with_reducible rfl)
          (try simp only [Act.put, List.setIfInBounds_toArray, List.set_cons_zero, List.set_cons_succ])
          refine wpAnyH_take (i := 10) (oi := { dst := some 65, op := .binOp .eql 2 (.tmp 64) (.const (Value.int IntKind.i64 1)) 2, type := 4, pos := "laws.go:366", after := #[⟨9, .data⟩], guard := none }) (v := ?_) rfl (by kernel_rfl) (by kernel_rfl) (by kernel_rfl) (fun _ _ _ h => h) (Or.inl ⟨by rfl, ?_⟩) (by assumption) ?_
          rotate_left
          · intro w hSw
            (try dsimp only at hSw)
            first | (go_simp; done) | (go_simp; with_reducible rfl)
          (try simp only [Act.put, List.setIfInBounds_toArray, List.set_cons_zero, List.set_cons_succ])
          refine wpAnyH_take (i := 11) (oi := { dst := some 66, op := .binOp .neq 4 (.tmp 55) (.tmp 65) 4, type := 4, pos := "laws.go:366", after := #[⟨0, .data⟩, ⟨10, .data⟩], guard := none }) (v := ?_) rfl (by kernel_rfl) (by kernel_rfl) (by kernel_rfl) (fun _ _ _ h => h) (Or.inl ⟨by rfl, ?_⟩) (by assumption) ?_
          rotate_left
          · intro w hSw
            (try dsimp only at hSw)
            first | (go_simp; done) | (go_simp; with_reducible rfl)
          (try simp only [Act.put, List.setIfInBounds_toArray, List.set_cons_zero, List.set_cons_succ])
          refine wpAnyH_take (i := 12) (oi := { dst := some 67, op := .move (.tmp 66), type := 4, pos := "laws.go:366", after := #[⟨11, .data⟩, ⟨8, .chain⟩], guard := none }) (v := ?_) rfl (by kernel_rfl) (by kernel_rfl) (by kernel_rfl) (fun _ _ _ h => h) (Or.inl ⟨by rfl, ?_⟩) (by assumption) ?_
          rotate_left
          · intro w hSw
            (try dsimp only at hSw)
            first | (go_simp; done) | (go_simp; with_reducible rfl)
          (try simp only [Act.put, List.setIfInBounds_toArray, List.set_cons_zero, List.set_cons_succ])
          refine wpAnyH_take (i := 13) (oi := { dst := some 68, op := .move (.tmp 6), type := 4, pos := "laws.go:366", after := #[⟨12, .guard⟩], guard := some (12, false) }) (v := ?_) rfl (by kernel_rfl) (by kernel_rfl) (by kernel_rfl) (fun _ _ _ h => h) (Or.inl ⟨by rfl, ?_⟩) (by assumption) ?_
          rotate_left
          · intro w hSw
            (try dsimp only at hSw)
            first | (go_simp; done) | (go_simp; with_reducible rfl)
          (try simp only [Act.put, List.setIfInBounds_toArray, List.set_cons_zero, List.set_cons_succ])
          refine wpAnyH_take (i := 14) (oi := { dst := some 69, op := .unOp .not 4 (.tmp 68), type := 4, pos := "laws.go:366", after := #[⟨13, .data⟩, ⟨12, .guard⟩], guard := some (12, false) }) (v := ?_) rfl (by kernel_rfl) (by kernel_rfl) (by kernel_rfl) (fun _ _ _ h => h) (Or.inl ⟨by rfl, ?_⟩) (by assumption) ?_
          rotate_left
          · intro w hSw
            (try dsimp only at hSw)
            first | (go_simp; done) | (go_simp; with_reducible rfl)
          (try simp only [Act.put, List.setIfInBounds_toArray, List.set_cons_zero, List.set_cons_succ])
          refine wpAnyH_take (i := 15) (oi := { dst := some 70, op := .move (.tmp 69), type := 4, pos := "laws.go:366", after := #[⟨14, .data⟩, ⟨12, .chain⟩, ⟨12, .guard⟩], guard := some (12, false) }) (v := ?_) rfl (by kernel_rfl) (by kernel_rfl) (by kernel_rfl) (fun _ _ _ h => h) (Or.inl ⟨by rfl, ?_⟩) (by assumption) ?_
          rotate_left
          · intro w hSw
            (try dsimp only at hSw)
            first | (go_simp; done) | (go_simp; with_reducible rfl)
          (try simp only [Act.put, List.setIfInBounds_toArray, List.set_cons_zero, List.set_cons_succ])
          refine wpAnyH_take (i := 16) (oi := { dst := some 71, op := .load 27 (.tmp 3), type := 27, pos := "laws.go:366", after := #[⟨15, .guard⟩], guard := some (15, true) }) (v := undef) rfl (by kernel_rfl) (by kernel_rfl) (by kernel_rfl) (fun _ _ _ h => h) (Or.inr ⟨by rfl, rfl⟩) (by assumption) ?_
          (try simp only [Act.put, List.setIfInBounds_toArray, List.set_cons_zero, List.set_cons_succ])
          refine wpAnyH_take (i := 17) (oi := { dst := some 72, op := .fieldAddr 27 (.tmp 3) 1, type := 0, pos := "laws.go:366", after := #[⟨15, .guard⟩], guard := some (15, true) }) (v := undef) rfl (by kernel_rfl) (by kernel_rfl) (by kernel_rfl) (fun _ _ _ h => h) (Or.inr ⟨by rfl, rfl⟩) (by assumption) ?_
          (try simp only [Act.put, List.setIfInBounds_toArray, List.set_cons_zero, List.set_cons_succ])
          refine wpAnyH_take (i := 18) (oi := { dst := some 73, op := .load 25 (.tmp 72), type := 25, pos := "laws.go:366", after := #[⟨17, .data⟩, ⟨15, .guard⟩], guard := some (15, true) }) (v := undef) rfl (by kernel_rfl) (by kernel_rfl) (by kernel_rfl) (fun _ _ _ h => h) (Or.inr ⟨by rfl, rfl⟩) (by assumption) ?_
          (try simp only [Act.put, List.setIfInBounds_toArray, List.set_cons_zero, List.set_cons_succ])
          refine wpAnyH_take (i := 19) (oi := { dst := some 74, op := .move (.tmp 5), type := 3, pos := "laws.go:366", after := #[⟨15, .guard⟩], guard := some (15, true) }) (v := undef) rfl (by kernel_rfl) (by kernel_rfl) (by kernel_rfl) (fun _ _ _ h => h) (Or.inr ⟨by rfl, rfl⟩) (by assumption) ?_
          (try simp only [Act.put, List.setIfInBounds_toArray, List.set_cons_zero, List.set_cons_succ])
          refine wpAnyH_take (i := 20) (oi := { dst := some 75, op := .indexAddr 25 (.tmp 73) (.tmp 74), type := 0, pos := "laws.go:366", after := #[⟨18, .data⟩, ⟨19, .data⟩, ⟨15, .guard⟩], guard := some (15, true) }) (v := undef) rfl (by kernel_rfl) (by kernel_rfl) (by kernel_rfl) (fun _ _ _ h => h) (Or.inr ⟨by rfl, rfl⟩) (by assumption) ?_
          (try simp only [Act.put, List.setIfInBounds_toArray, List.set_cons_zero, List.set_cons_succ])
          refine wpAnyH_take (i := 21) (oi := { dst := some 76, op := .fieldAddr 39 (.tmp 75) 4, type := 0, pos := "laws.go:366", after := #[⟨20, .data⟩, ⟨15, .guard⟩], guard := some (15, true) }) (v := undef) rfl (by kernel_rfl) (by kernel_rfl) (by kernel_rfl) (fun _ _ _ h => h) (Or.inr ⟨by rfl, rfl⟩) (by assumption) ?_
          (try simp only [Act.put, List.setIfInBounds_toArray, List.set_cons_zero, List.set_cons_succ])
          refine wpAnyH_take (i := 22) (oi := { dst := some 77, op := .load 9 (.tmp 76), type := 9, pos := "laws.go:366", after := #[⟨21, .data⟩, ⟨15, .guard⟩], guard := some (15, true) }) (v := undef) rfl (by kernel_rfl) (by kernel_rfl) (by kernel_rfl) (fun _ _ _ h => h) (Or.inr ⟨by rfl, rfl⟩) (by assumption) ?_
          (try simp only [Act.put, List.setIfInBounds_toArray, List.set_cons_zero, List.set_cons_succ])
          refine wpAnyH_take (i := 23) (oi := { dst := some 78, op := .call { callee := .value (.func 18), args := #[.tmp 71, .tmp 77], argTypes := #[27, 9] }, type := 2, pos := "laws.go:366", after := #[⟨16, .data⟩, ⟨22, .data⟩, ⟨15, .chain⟩, ⟨15, .guard⟩], guard := some (15, true) }) (v := undef) rfl (by kernel_rfl) (by kernel_rfl) (by kernel_rfl) (fun _ _ _ h => h) (Or.inr ⟨by rfl, rfl⟩) (by assumption) ?_
          (try simp only [Act.put, List.setIfInBounds_toArray, List.set_cons_zero, List.set_cons_succ])
          refine wpAnyH_take (i := 24) (oi := { dst := some 79, op := .binOp .neq 2 (.tmp 78) (.const (Value.int IntKind.i64 0)) 2, type := 4, pos := "laws.go:366", after := #[⟨23, .data⟩, ⟨15, .guard⟩], guard := some (15, true) }) (v := undef) rfl (by kernel_rfl) (by kernel_rfl) (by kernel_rfl) (fun _ _ _ h => h) (Or.inr ⟨by rfl, rfl⟩) (by assumption) ?_
          (try simp only [Act.put, List.setIfInBounds_toArray, List.set_cons_zero, List.set_cons_succ])
          refine wpAnyH_take (i := 25) (oi := { dst := some 80, op := .move (.tmp 79), type := 4, pos := "laws.go:366", after := #[⟨24, .data⟩, ⟨23, .chain⟩, ⟨15, .guard⟩], guard := some (15, true) }) (v := undef) rfl (by kernel_rfl) (by kernel_rfl) (by kernel_rfl) (fun _ _ _ h => h) (Or.inr ⟨by rfl, rfl⟩) (by assumption) ?_
          (try simp only [Act.put, List.setIfInBounds_toArray, List.set_cons_zero, List.set_cons_succ])
          refine wpAnyH_take (i := 26) (oi := { dst := some 81, op := .load 27 (.tmp 3), type := 27, pos := "laws.go:366", after := #[⟨25, .guard⟩], guard := some (25, false) }) (v := undef) rfl (by kernel_rfl) (by kernel_rfl) (by kernel_rfl) (fun _ _ _ h => h) (Or.inr ⟨by rfl, rfl⟩) (by assumption) ?_
          (try simp only [Act.put, List.setIfInBounds_toArray, List.set_cons_zero, List.set_cons_succ])
          refine wpAnyH_take (i := 27) (oi := { dst := some 82, op := .fieldAddr 27 (.tmp 3) 1, type := 0, pos := "laws.go:366", after := #[⟨25, .guard⟩], guard := some (25, false) }) (v := undef) rfl (by kernel_rfl) (by kernel_rfl) (by kernel_rfl) (fun _ _ _ h => h) (Or.inr ⟨by rfl, rfl⟩) (by assumption) ?_
          (try simp only [Act.put, List.setIfInBounds_toArray, List.set_cons_zero, List.set_cons_succ])
          refine wpAnyH_take (i := 28) (oi := { dst := some 83, op := .load 25 (.tmp 82), type := 25, pos := "laws.go:366", after := #[⟨27, .data⟩, ⟨25, .guard⟩], guard := some (25, false) }) (v := undef) rfl (by kernel_rfl) (by kernel_rfl) (by kernel_rfl) (fun _ _ _ h => h) (Or.inr ⟨by rfl, rfl⟩) (by assumption) ?_
          (try simp only [Act.put, List.setIfInBounds_toArray, List.set_cons_zero, List.set_cons_succ])
          refine wpAnyH_take (i := 29) (oi := { dst := some 84, op := .move (.tmp 5), type := 3, pos := "laws.go:366", after := #[⟨25, .guard⟩], guard := some (25, false) }) (v := undef) rfl (by kernel_rfl) (by kernel_rfl) (by kernel_rfl) (fun _ _ _ h => h) (Or.inr ⟨by rfl, rfl⟩) (by assumption) ?_
          (try simp only [Act.put, List.setIfInBounds_toArray, List.set_cons_zero, List.set_cons_succ])
          refine wpAnyH_take (i := 30) (oi := { dst := some 85, op := .indexAddr 25 (.tmp 83) (.tmp 84), type := 0, pos := "laws.go:366", after := #[⟨28, .data⟩, ⟨29, .data⟩, ⟨25, .guard⟩], guard := some (25, false) }) (v := undef) rfl (by kernel_rfl) (by kernel_rfl) (by kernel_rfl) (fun _ _ _ h => h) (Or.inr ⟨by rfl, rfl⟩) (by assumption) ?_
          (try simp only [Act.put, List.setIfInBounds_toArray, List.set_cons_zero, List.set_cons_succ])
          refine wpAnyH_take (i := 31) (oi := { dst := some 86, op := .fieldAddr 39 (.tmp 85) 4, type := 0, pos := "laws.go:366", after := #[⟨30, .data⟩, ⟨25, .guard⟩], guard := some (25, false) }) (v := undef) rfl (by kernel_rfl) (by kernel_rfl) (by kernel_rfl) (fun _ _ _ h => h) (Or.inr ⟨by rfl, rfl⟩) (by assumption) ?_
          (try simp only [Act.put, List.setIfInBounds_toArray, List.set_cons_zero, List.set_cons_succ])
          refine wpAnyH_take (i := 32) (oi := { dst := some 87, op := .load 9 (.tmp 86), type := 9, pos := "laws.go:366", after := #[⟨31, .data⟩, ⟨25, .guard⟩], guard := some (25, false) }) (v := undef) rfl (by kernel_rfl) (by kernel_rfl) (by kernel_rfl) (fun _ _ _ h => h) (Or.inr ⟨by rfl, rfl⟩) (by assumption) ?_
          (try simp only [Act.put, List.setIfInBounds_toArray, List.set_cons_zero, List.set_cons_succ])
          refine wpAnyH_take (i := 33) (oi := { dst := some 88, op := .call { callee := .value (.func 19), args := #[.tmp 81, .tmp 87], argTypes := #[27, 9] }, type := 4, pos := "laws.go:366", after := #[⟨26, .data⟩, ⟨32, .data⟩, ⟨25, .chain⟩, ⟨25, .guard⟩], guard := some (25, false) }) (v := undef) rfl (by kernel_rfl) (by kernel_rfl) (by kernel_rfl) (fun _ _ _ h => h) (Or.inr ⟨by rfl, rfl⟩) (by assumption) ?_
          (try simp only [Act.put, List.setIfInBounds_toArray, List.set_cons_zero, List.set_cons_succ])
          refine wpAnyH_take (i := 34) (oi := { dst := some 89, op := .pick (.tmp 80) (.const (Value.bool true)) (.tmp 88), type := 4, pos := "laws.go:366", after := #[⟨25, .data⟩, ⟨33, .data⟩, ⟨15, .guard⟩], guard := some (15, true) }) (v := undef) rfl (by kernel_rfl) (by kernel_rfl) (by kernel_rfl) (fun _ _ _ h => h) (Or.inr ⟨by rfl, rfl⟩) (by assumption) ?_
          (try simp only [Act.put, List.setIfInBounds_toArray, List.set_cons_zero, List.set_cons_succ])
          refine wpAnyH_take (i := 35) (oi := { dst := some 90, op := .pick (.tmp 70) (.tmp 89) (.const (Value.bool false)), type := 4, pos := "laws.go:366", after := #[⟨15, .data⟩, ⟨34, .data⟩, ⟨12, .guard⟩], guard := some (12, false) }) (v := ?_) rfl (by kernel_rfl) (by kernel_rfl) (by kernel_rfl) (fun _ _ _ h => h) (Or.inl ⟨by rfl, ?_⟩) (by assumption) ?_
          rotate_left
          · intro w hSw
            (try dsimp only at hSw)
            first | (go_simp; done) | (go_simp; with_reducible rfl)
          (try simp only [Act.put, List.setIfInBounds_toArray, List.set_cons_zero, List.set_cons_succ])
          refine wpAnyH_take (i := 36) (oi := { dst := some 91, op := .pick (.tmp 67) (.const (Value.bool true)) (.tmp 90), type := 4, pos := "laws.go:366", after := #[⟨12, .data⟩, ⟨35, .data⟩], guard := none }) (v := ?_) rfl (by kernel_rfl) (by kernel_rfl) (by kernel_rfl) (fun _ _ _ h => h) (Or.inl ⟨by rfl, ?_⟩) (by assumption) ?_
          rotate_left
          · intro w hSw
            (try dsimp only at hSw)
            first | (go_simp; done) | (go_simp; with_reducible rfl)
          (try simp only [Act.put, List.setIfInBounds_toArray, List.set_cons_zero, List.set_cons_succ])
          refine wpAnyH_done (by kernel_rfl) ?_ _
          go_wp2
          go_roundw
          case rel => exact ⟨q + 1, by omega, by go_num, HBr.out.trans ((HBq.out.trans (HBk9.out.mono HBq.out.size)).mono HBr.out.size)⟩
          case measure => simp [intOf]; omega
        · skip
          have hv : v = false := by cases hvv : v; rfl; exact absurd (Hsh.out.1 (HVv.out.1 hvv)) hin
          have hmb : (lv % 2 == 1) = false := by rw [beq_eq_false_iff_ne]; exact hin
          have HZ := Lib.hid (Hun.out hin)
          subst hv
          have HBk7 : Hid (Below w7.heap.size w7 w7) := Below.refl _ _
          go_wp2_with fail
          obtain ⟨w8, hzw⟩ : ∃ z, w7.drew = z := ⟨_, rfl⟩
          have hb : Below w7.heap.size w7 w8 := by rw [← hzw]; exact ⟨rfl, rfl, rfl, Nat.le_refl _, fun _ _ => rfl⟩
          have HD8 := Lib.hid ((hb.cell (p := ⟨ob, oo + q * 8 + 4, none⟩) (by show ob < _; omega)).trans HD7.out)
          have HS8 := Lib.hid (HS7.out.below hb (by omega))
          have hs8 := hb.size
          have HVA8 := Lib.hid (HVA7.out.below hb (by omega))
          have HOA8 := Lib.hid (HOA7.out.below hb (by omega))
          have HB8 := Lib.hid (HB7.out.trans (hb.mono (by omega)))
          have HXa8 := Lib.hid ((hb.block _ (lt_of_row HXa7.out)).trans HXa7.out)
          have HBk8 := Lib.hid (HBk7.out.trans (hb.mono (by omega)))
          clear hb HVA7 HOA7 HB7 HXa7 HBk7
          clear HS7
          clear HD7
          have hS : w8.cell? ⟨w0.heap.size, 0, none⟩ = some (.slice ava 4 avc) ∧ w8.cell? ⟨w0.heap.size, 1, none⟩ = some (.slice (some ⟨ob, oo, none⟩) l.length aoc) ∧ w8.cell? ⟨ob, oo + q * 8 + 4, none⟩ = some (.string IT) := ⟨(pair_cells HXa8.out).1, (pair_cells HXa8.out).2, HD8.out⟩
          refine wp_region_held_drew (S := fun w' => w'.cell? ⟨w0.heap.size, 0, none⟩ = some (.slice ava 4 avc) ∧ w'.cell? ⟨w0.heap.size, 1, none⟩ = some (.slice (some ⟨ob, oo, none⟩) l.length aoc) ∧ w'.cell? ⟨ob, oo + q * 8 + 4, none⟩ = some (.string IT)) (by kernel_rfl) (by rw [hzw]; exact hS) (fun hHeld => ?_)
          rw [hzw]
          clear hHeld hzw
          refine wpAnyH_take (i := 0) (oi := { dst := some 55, op := .move (.tmp 6), type := 4, pos := "laws.go:366", after := #[], guard := none }) (v := ?_) rfl (by kernel_rfl) (by kernel_rfl) (by kernel_rfl) (fun _ _ _ h => h) (Or.inl ⟨by rfl, ?_⟩) (by assumption) ?_
          rotate_left
          · intro w hSw
            (try dsimp only at hSw)
            first | (go_simp; done) | (go_simp; with_reducible rfl)
          (try simp only [Act.put, List.setIfInBounds_toArray, List.set_cons_zero, List.set_cons_succ])
          refine wpAnyH_take (i := 1) (oi := { dst := some 56, op := .load 27 (.tmp 3), type := 27, pos := "laws.go:366", after := #[], guard := none }) (v := ?_) rfl (by kernel_rfl) (by kernel_rfl) (by kernel_rfl) (fun _ _ _ h => h) (Or.inl ⟨by rfl, ?_⟩) (by assumption) ?_
          rotate_left
          · intro w hSw
            (try dsimp only at hSw)
            first | (go_simp; done) | (go_simp; with_reducible rfl)
          (try simp only [Act.put, List.setIfInBounds_toArray, List.set_cons_zero, List.set_cons_succ])
          refine wpAnyH_take (i := 2) (oi := { dst := some 57, op := .fieldAddr 27 (.tmp 3) 1, type := 0, pos := "laws.go:366", after := #[], guard := none }) (v := ?_) rfl (by kernel_rfl) (by kernel_rfl) (by kernel_rfl) (fun _ _ _ h => h) (Or.inl ⟨by rfl, ?_⟩) (by assumption) ?_
          rotate_left
          · intro w hSw
            (try dsimp only at hSw)
            first | (go_simp; done) | (go_simp; with_reducible rfl)
          (try simp only [Act.put, List.setIfInBounds_toArray, List.set_cons_zero, List.set_cons_succ])
          refine wpAnyH_take (i := 3) (oi := { dst := some 58, op := .load 25 (.tmp 57), type := 25, pos := "laws.go:366", after := #[⟨2, .data⟩], guard := none }) (v := ?_) rfl (by kernel_rfl) (by kernel_rfl) (by kernel_rfl) (fun _ _ _ h => h) (Or.inl ⟨by rfl, ?_⟩) (by assumption) ?_
          rotate_left
          · intro w hSw
            (try dsimp only at hSw)
            first | (go_simp; done) | (go_simp; with_reducible rfl)
          (try simp only [Act.put, List.setIfInBounds_toArray, List.set_cons_zero, List.set_cons_succ])
          refine wpAnyH_take (i := 4) (oi := { dst := some 59, op := .move (.tmp 5), type := 3, pos := "laws.go:366", after := #[], guard := none }) (v := ?_) rfl (by kernel_rfl) (by kernel_rfl) (by kernel_rfl) (fun _ _ _ h => h) (Or.inl ⟨by rfl, ?_⟩) (by assumption) ?_
          rotate_left
          · intro w hSw
            (try dsimp only at hSw)
            first | (go_simp; done) | (go_simp; with_reducible rfl)
          (try simp only [Act.put, List.setIfInBounds_toArray, List.set_cons_zero, List.set_cons_succ])
          refine wpAnyH_take (i := 5) (oi := { dst := some 60, op := .indexAddr 25 (.tmp 58) (.tmp 59), type := 0, pos := "laws.go:366", after := #[⟨3, .data⟩, ⟨4, .data⟩], guard := none }) (v := ?_) rfl (by kernel_rfl) (by kernel_rfl) (by kernel_rfl) (fun _ _ _ h => h) (Or.inl ⟨by rfl, ?_⟩) (by assumption) ?_
          rotate_left
          · intro w hSw
            (try dsimp only at hSw)
            first | (go_simp; done) | (go_simp; with_reducible rfl)
          (try simp only [Act.put, List.setIfInBounds_toArray, List.set_cons_zero, List.set_cons_succ])
          refine wpAnyH_take (i := 6) (oi := { dst := some 61, op := .fieldAddr 39 (.tmp 60) 4, type := 0, pos := "laws.go:366", after := #[⟨5, .data⟩], guard := none }) (v := ?_) rfl (by kernel_rfl) (by kernel_rfl) (by kernel_rfl) (fun _ _ _ h => h) (Or.inl ⟨by rfl, ?_⟩) (by assumption) ?_
          rotate_left
          · intro w hSw
            (try dsimp only at hSw)
            first | (go_simp; done) | (go_simp; with_reducible rfl)
          (try simp only [Act.put, List.setIfInBounds_toArray, List.set_cons_zero, List.set_cons_succ])
          refine wpAnyH_take (i := 7) (oi := { dst := some 62, op := .load 9 (.tmp 61), type := 9, pos := "laws.go:366", after := #[⟨6, .data⟩], guard := none }) (v := ?_) rfl (by kernel_rfl) (by kernel_rfl) (by kernel_rfl) (fun _ _ _ h => h) (Or.inl ⟨by rfl, ?_⟩) (by assumption) ?_
          rotate_left
          · intro w hSw
            (try dsimp only at hSw)
            first | (go_simp; done) | (go_simp; with_reducible rfl)
          (try simp only [Act.put, List.setIfInBounds_toArray, List.set_cons_zero, List.set_cons_succ])
          refine wpAnyH_ready (rs := [8]) (by kernel_rfl) (by simp) ?_
          refine AllReadyH.cons (o := { dst := some 63, op := .call { callee := .value (.func 17), args := #[.tmp 56, .tmp 62], argTypes := #[27, 9] }, type := 2, pos := "laws.go:366", after := #[⟨1, .data⟩, ⟨7, .data⟩], guard := none }) rfl (fun K hK => ?_) AllReadyH.nil
          go_simp
          go_at_call 17
          refine (implLevel w8 w8.heap.size ava (some ⟨ob, oo, none⟩) 4 avc l.length aoc xs l IT (HVA8.out.more (by omega)) (HOA8.out.more (by omega)) (Nat.le_refl _) (by omega) HCa.out.1 ⟨by omega, HCa.out.2.1⟩).mono ?_
          rintro e w9 ⟨rfl, hb⟩
          rw [HLv.out]
          have HD9 := Lib.hid ((hb.cell (p := ⟨ob, oo + q * 8 + 4, none⟩) (by show ob < _; omega)).trans HD8.out)
          have HS9 := Lib.hid (HS8.out.below hb (by omega))
          have hs9 := hb.size
          have HVA9 := Lib.hid (HVA8.out.below hb (by omega))
          have HOA9 := Lib.hid (HOA8.out.below hb (by omega))
          have HB9 := Lib.hid (HB8.out.trans (hb.mono (by omega)))
          have HXa9 := Lib.hid ((hb.block _ (lt_of_row HXa8.out)).trans HXa8.out)
          have HBk9 := Lib.hid (HBk8.out.trans (hb.mono (by omega)))
          clear hb HVA8 HOA8 HB8 HXa8 HBk8
          clear HS8
          clear HD8
          have hS2 : w9.cell? ⟨w0.heap.size, 0, none⟩ = some (.slice ava 4 avc) ∧ w9.cell? ⟨w0.heap.size, 1, none⟩ = some (.slice (some ⟨ob, oo, none⟩) l.length aoc) ∧ w9.cell? ⟨ob, oo + q * 8 + 4, none⟩ = some (.string IT) := ⟨(pair_cells HXa9.out).1, (pair_cells HXa9.out).2, HD9.out⟩
          refine hK.out _ _ hS2 (fun hHeld3 => ?_)
          clear hK K
          (try simp only [Act.put, List.setIfInBounds_toArray, List.set_cons_zero, List.set_cons_succ])
          clear hHeld3
          refine wpAnyH_take (i := 9) (oi := { dst := some 64, op := .binOp .rem 2 (.tmp 63) (.const (Value.int IntKind.i64 2)) 2, type := 2, pos := "laws.go:366", after := #[⟨8, .data⟩], guard := none }) (v := ?_) rfl (by kernel_rfl) (by kernel_rfl) (by kernel_rfl) (fun _ _ _ h => h) (Or.inl ⟨by rfl, ?_⟩) (by assumption) ?_
          rotate_left
          · intro w hSw
            (try dsimp only at hSw)
            first | (go_simp; done) | (go_simp; with_reducible rfl)
          (try simp only [Act.put, List.setIfInBounds_toArray, List.set_cons_zero, List.set_cons_succ])
          refine wpAnyH_take (i := 10) (oi := { dst := some 65, op := .binOp .eql 2 (.tmp 64) (.const (Value.int IntKind.i64 1)) 2, type := 4, pos := "laws.go:366", after := #[⟨9, .data⟩], guard := none }) (v := ?_) rfl (by kernel_rfl) (by kernel_rfl) (by kernel_rfl) (fun _ _ _ h => h) (Or.inl ⟨by rfl, ?_⟩) (by assumption) ?_
          rotate_left
          · intro w hSw
            (try dsimp only at hSw)
            first | (go_simp; done) | (go_simp; with_reducible rfl)
          (try simp only [Act.put, List.setIfInBounds_toArray, List.set_cons_zero, List.set_cons_succ])
          refine wpAnyH_take (i := 11) (oi := { dst := some 66, op := .binOp .neq 4 (.tmp 55) (.tmp 65) 4, type := 4, pos := "laws.go:366", after := #[⟨0, .data⟩, ⟨10, .data⟩], guard := none }) (v := ?_) rfl (by kernel_rfl) (by kernel_rfl) (by kernel_rfl) (fun _ _ _ h => h) (Or.inl ⟨by rfl, ?_⟩) (by assumption) ?_
          rotate_left
          · intro w hSw
            (try dsimp only at hSw)
            first | (go_simp; done) | (go_simp; with_reducible rfl)
          (try simp only [Act.put, List.setIfInBounds_toArray, List.set_cons_zero, List.set_cons_succ])
          refine wpAnyH_take (i := 12) (oi := { dst := some 67, op := .move (.tmp 66), type := 4, pos := "laws.go:366", after := #[⟨11, .data⟩, ⟨8, .chain⟩], guard := none }) (v := ?_) rfl (by kernel_rfl) (by kernel_rfl) (by kernel_rfl) (fun _ _ _ h => h) (Or.inl ⟨by rfl, ?_⟩) (by assumption) ?_
          rotate_left
          · intro w hSw
            (try dsimp only at hSw)
            first | (go_simp; done) | (go_simp; with_reducible rfl)
          (try simp only [Act.put, List.setIfInBounds_toArray, List.set_cons_zero, List.set_cons_succ])
          refine wpAnyH_take (i := 13) (oi := { dst := some 68, op := .move (.tmp 6), type := 4, pos := "laws.go:366", after := #[⟨12, .guard⟩], guard := some (12, false) }) (v := ?_) rfl (by kernel_rfl) (by kernel_rfl) (by kernel_rfl) (fun _ _ _ h => h) (Or.inl ⟨by rfl, ?_⟩) (by assumption) ?_
          rotate_left
          · intro w hSw
            (try dsimp only at hSw)
            first | (go_simp; done) | (go_simp; with_reducible rfl)
          (try simp only [Act.put, List.setIfInBounds_toArray, List.set_cons_zero, List.set_cons_succ])
          refine wpAnyH_take (i := 14) (oi := { dst := some 69, op := .unOp .not 4 (.tmp 68), type := 4, pos := "laws.go:366", after := #[⟨13, .data⟩, ⟨12, .guard⟩], guard := some (12, false) }) (v := ?_) rfl (by kernel_rfl) (by kernel_rfl) (by kernel_rfl) (fun _ _ _ h => h) (Or.inl ⟨by rfl, ?_⟩) (by assumption) ?_
          rotate_left
          · intro w hSw
            (try dsimp only at hSw)
            first | (go_simp; done) | (go_simp; with_reducible rfl)
          (try simp only [Act.put, List.setIfInBounds_toArray, List.set_cons_zero, List.set_cons_succ])
          refine wpAnyH_take (i := 15) (oi := { dst := some 70, op := .move (.tmp 69), type := 4, pos := "laws.go:366", after := #[⟨14, .data⟩, ⟨12, .chain⟩, ⟨12, .guard⟩], guard := some (12, false) }) (v := ?_) rfl (by kernel_rfl) (by kernel_rfl) (by kernel_rfl) (fun _ _ _ h => h) (Or.inl ⟨by rfl, ?_⟩) (by assumption) ?_
          rotate_left
          · intro w hSw
            (try dsimp only at hSw)
            first | (go_simp; done) | (go_simp; with_reducible rfl)
          (try simp only [Act.put, List.setIfInBounds_toArray, List.set_cons_zero, List.set_cons_succ])
          refine wpAnyH_take (i := 16) (oi := { dst := some 71, op := .load 27 (.tmp 3), type := 27, pos := "laws.go:366", after := #[⟨15, .guard⟩], guard := some (15, true) }) (v := ?_) rfl (by kernel_rfl) (by kernel_rfl) (by kernel_rfl) (fun _ _ _ h => h) (Or.inl ⟨by rfl, ?_⟩) (by assumption) ?_
          rotate_left
          · intro w hSw
            (try dsimp only at hSw)
            first | (go_simp; done) | (go_simp; with_reducible rfl)
          (try simp only [Act.put, List.setIfInBounds_toArray, List.set_cons_zero, List.set_cons_succ])
          refine wpAnyH_take (i := 17) (oi := { dst := some 72, op := .fieldAddr 27 (.tmp 3) 1, type := 0, pos := "laws.go:366", after := #[⟨15, .guard⟩], guard := some (15, true) }) (v := ?_) rfl (by kernel_rfl) (by kernel_rfl) (by kernel_rfl) (fun _ _ _ h => h) (Or.inl ⟨by rfl, ?_⟩) (by assumption) ?_
          rotate_left
          · intro w hSw
            (try dsimp only at hSw)
            first | (go_simp; done) | (go_simp; with_reducible rfl)
          (try simp only [Act.put, List.setIfInBounds_toArray, List.set_cons_zero, List.set_cons_succ])
          refine wpAnyH_take (i := 18) (oi := { dst := some 73, op := .load 25 (.tmp 72), type := 25, pos := "laws.go:366", after := #[⟨17, .data⟩, ⟨15, .guard⟩], guard := some (15, true) }) (v := ?_) rfl (by kernel_rfl) (by kernel_rfl) (by kernel_rfl) (fun _ _ _ h => h) (Or.inl ⟨by rfl, ?_⟩) (by assumption) ?_
          rotate_left
          · intro w hSw
            (try dsimp only at hSw)
            first | (go_simp; done) | (go_simp; with_reducible rfl)
          (try simp only [Act.put, List.setIfInBounds_toArray, List.set_cons_zero, List.set_cons_succ])
          refine wpAnyH_take (i := 19) (oi := { dst := some 74, op := .move (.tmp 5), type := 3, pos := "laws.go:366", after := #[⟨15, .guard⟩], guard := some (15, true) }) (v := ?_) rfl (by kernel_rfl) (by kernel_rfl) (by kernel_rfl) (fun _ _ _ h => h) (Or.inl ⟨by rfl, ?_⟩) (by assumption) ?_
          rotate_left
          · intro w hSw
            (try dsimp only at hSw)
            first | (go_simp; done) | (go_simp; with_reducible rfl)
          (try simp only [Act.put, List.setIfInBounds_toArray, List.set_cons_zero, List.set_cons_succ])
          refine wpAnyH_take (i := 20) (oi := { dst := some 75, op := .indexAddr 25 (.tmp 73) (.tmp 74), type := 0, pos := "laws.go:366", after := #[⟨18, .data⟩, ⟨19, .data⟩, ⟨15, .guard⟩], guard := some (15, true) }) (v := ?_) rfl (by kernel_rfl) (by kernel_rfl) (by kernel_rfl) (fun _ _ _ h => h) (Or.inl ⟨by rfl, ?_⟩) (by assumption) ?_
          rotate_left
          · intro w hSw
            (try dsimp only at hSw)
            first | (go_simp; done) | (go_simp; with_reducible rfl)
          (try simp only [Act.put, List.setIfInBounds_toArray, List.set_cons_zero, List.set_cons_succ])
          refine wpAnyH_take (i := 21) (oi := { dst := some 76, op := .fieldAddr 39 (.tmp 75) 4, type := 0, pos := "laws.go:366", after := #[⟨20, .data⟩, ⟨15, .guard⟩], guard := some (15, true) }) (v := ?_) rfl (by kernel_rfl) (by kernel_rfl) (by kernel_rfl) (fun _ _ _ h => h) (Or.inl ⟨by rfl, ?_⟩) (by assumption) ?_
          rotate_left
          · intro w hSw
            (try dsimp only at hSw)
            first | (go_simp; done) | (go_simp; with_reducible rfl)
          (try simp only [Act.put, List.setIfInBounds_toArray, List.set_cons_zero, List.set_cons_succ])
          refine wpAnyH_take (i := 22) (oi := { dst := some 77, op := .load 9 (.tmp 76), type := 9, pos := "laws.go:366", after := #[⟨21, .data⟩, ⟨15, .guard⟩], guard := some (15, true) }) (v := ?_) rfl (by kernel_rfl) (by kernel_rfl) (by kernel_rfl) (fun _ _ _ h => h) (Or.inl ⟨by rfl, ?_⟩) (by assumption) ?_
          rotate_left
          · intro w hSw
            (try dsimp only at hSw)
            first | (go_simp; done) | (go_simp; with_reducible rfl)
          (try simp only [Act.put, List.setIfInBounds_toArray, List.set_cons_zero, List.set_cons_succ])
          refine wpAnyH_ready (rs := [23]) (by kernel_rfl) (by simp) ?_
          refine AllReadyH.cons (o := { dst := some 78, op := .call { callee := .value (.func 18), args := #[.tmp 71, .tmp 77], argTypes := #[27, 9] }, type := 2, pos := "laws.go:366", after := #[⟨16, .data⟩, ⟨22, .data⟩, ⟨15, .chain⟩, ⟨15, .guard⟩], guard := some (15, true) }) rfl (fun K hK => ?_) AllReadyH.nil
          go_simp
          go_at_call 18
          refine (implQtyOf w9 w9.heap.size ava (some ⟨ob, oo, none⟩) 4 avc l.length aoc xs l IT (HVA9.out.more (by omega)) (HOA9.out.more (by omega)) (Nat.le_refl _) (by omega) his HCa.out.1 ⟨by omega, HCa.out.2.1⟩).mono ?_
          rintro e w10 ⟨rfl, hb⟩
          rw [HZ.out.1]
          have HD10 := Lib.hid ((hb.cell (p := ⟨ob, oo + q * 8 + 4, none⟩) (by show ob < _; omega)).trans HD9.out)
          have HS10 := Lib.hid (HS9.out.below hb (by omega))
          have hs10 := hb.size
          have HVA10 := Lib.hid (HVA9.out.below hb (by omega))
          have HOA10 := Lib.hid (HOA9.out.below hb (by omega))
          have HB10 := Lib.hid (HB9.out.trans (hb.mono (by omega)))
          have HXa10 := Lib.hid ((hb.block _ (lt_of_row HXa9.out)).trans HXa9.out)
          have HBk10 := Lib.hid (HBk9.out.trans (hb.mono (by omega)))
          clear hb HVA9 HOA9 HB9 HXa9 HBk9
          clear HS9
          clear HD9
          have hS4 : w10.cell? ⟨w0.heap.size, 0, none⟩ = some (.slice ava 4 avc) ∧ w10.cell? ⟨w0.heap.size, 1, none⟩ = some (.slice (some ⟨ob, oo, none⟩) l.length aoc) ∧ w10.cell? ⟨ob, oo + q * 8 + 4, none⟩ = some (.string IT) := ⟨(pair_cells HXa10.out).1, (pair_cells HXa10.out).2, HD10.out⟩
          refine hK.out _ _ hS4 (fun hHeld5 => ?_)
          clear hK K
          (try simp only [Act.put, List.setIfInBounds_toArray, List.set_cons_zero, List.set_cons_succ])
          clear hHeld5
          refine wpAnyH_take (i := 24) (oi := { dst := some 79, op := .binOp .neq 2 (.tmp 78) (.const (Value.int IntKind.i64 0)) 2, type := 4, pos := "laws.go:366", after := #[⟨23, .data⟩, ⟨15, .guard⟩], guard := some (15, true) }) (v := ?_) rfl (by kernel_rfl) (by kernel_rfl) (by kernel_rfl) (fun _ _ _ h => h) (Or.inl ⟨by rfl, ?_⟩) (by assumption) ?_
          rotate_left
          · intro w hSw
            (try dsimp only at hSw)
            first | (go_simp; done) | (go_simp; with_reducible rfl)
          (try simp only [Act.put, List.setIfInBounds_toArray, List.set_cons_zero, List.set_cons_succ])
          refine wpAnyH_take (i := 25) (oi := { dst := some 80, op := .move (.tmp 79), type := 4, pos := "laws.go:366", after := #[⟨24, .data⟩, ⟨23, .chain⟩, ⟨15, .guard⟩], guard := some (15, true) }) (v := ?_) rfl (by kernel_rfl) (by kernel_rfl) (by kernel_rfl) (fun _ _ _ h => h) (Or.inl ⟨by rfl, ?_⟩) (by assumption) ?_
          rotate_left
          · intro w hSw
            (try dsimp only at hSw)
            first | (go_simp; done) | (go_simp; with_reducible rfl)
          (try simp only [Act.put, List.setIfInBounds_toArray, List.set_cons_zero, List.set_cons_succ])
          refine wpAnyH_take (i := 26) (oi := { dst := some 81, op := .load 27 (.tmp 3), type := 27, pos := "laws.go:366", after := #[⟨25, .guard⟩], guard := some (25, false) }) (v := ?_) rfl (by kernel_rfl) (by kernel_rfl) (by kernel_rfl) (fun _ _ _ h => h) (Or.inl ⟨by rfl, ?_⟩) (by assumption) ?_
          rotate_left
          · intro w hSw
            (try dsimp only at hSw)
            first | (go_simp; done) | (go_simp; with_reducible rfl)
          (try simp only [Act.put, List.setIfInBounds_toArray, List.set_cons_zero, List.set_cons_succ])
          refine wpAnyH_take (i := 27) (oi := { dst := some 82, op := .fieldAddr 27 (.tmp 3) 1, type := 0, pos := "laws.go:366", after := #[⟨25, .guard⟩], guard := some (25, false) }) (v := ?_) rfl (by kernel_rfl) (by kernel_rfl) (by kernel_rfl) (fun _ _ _ h => h) (Or.inl ⟨by rfl, ?_⟩) (by assumption) ?_
          rotate_left
          · intro w hSw
            (try dsimp only at hSw)
            first | (go_simp; done) | (go_simp; with_reducible rfl)
          (try simp only [Act.put, List.setIfInBounds_toArray, List.set_cons_zero, List.set_cons_succ])
          refine wpAnyH_take (i := 28) (oi := { dst := some 83, op := .load 25 (.tmp 82), type := 25, pos := "laws.go:366", after := #[⟨27, .data⟩, ⟨25, .guard⟩], guard := some (25, false) }) (v := ?_) rfl (by kernel_rfl) (by kernel_rfl) (by kernel_rfl) (fun _ _ _ h => h) (Or.inl ⟨by rfl, ?_⟩) (by assumption) ?_
          rotate_left
          · intro w hSw
            (try dsimp only at hSw)
            first | (go_simp; done) | (go_simp; with_reducible rfl)
          (try simp only [Act.put, List.setIfInBounds_toArray, List.set_cons_zero, List.set_cons_succ])
          refine wpAnyH_take (i := 29) (oi := { dst := some 84, op := .move (.tmp 5), type := 3, pos := "laws.go:366", after := #[⟨25, .guard⟩], guard := some (25, false) }) (v := ?_) rfl (by kernel_rfl) (by kernel_rfl) (by kernel_rfl) (fun _ _ _ h => h) (Or.inl ⟨by rfl, ?_⟩) (by assumption) ?_
          rotate_left
          · intro w hSw
            (try dsimp only at hSw)
            first | (go_simp; done) | (go_simp; with_reducible rfl)
          (try simp only [Act.put, List.setIfInBounds_toArray, List.set_cons_zero, List.set_cons_succ])
          refine wpAnyH_take (i := 30) (oi := { dst := some 85, op := .indexAddr 25 (.tmp 83) (.tmp 84), type := 0, pos := "laws.go:366", after := #[⟨28, .data⟩, ⟨29, .data⟩, ⟨25, .guard⟩], guard := some (25, false) }) (v := ?_) rfl (by kernel_rfl) (by kernel_rfl) (by kernel_rfl) (fun _ _ _ h => h) (Or.inl ⟨by rfl, ?_⟩) (by assumption) ?_
          rotate_left
          · intro w hSw
            (try dsimp only at hSw)
            first | (go_simp; done) | (go_simp; with_reducible rfl)
          (try simp only [Act.put, List.setIfInBounds_toArray, List.set_cons_zero, List.set_cons_succ])
          refine wpAnyH_take (i := 31) (oi := { dst := some 86, op := .fieldAddr 39 (.tmp 85) 4, type := 0, pos := "laws.go:366", after := #[⟨30, .data⟩, ⟨25, .guard⟩], guard := some (25, false) }) (v := ?_) rfl (by kernel_rfl) (by kernel_rfl) (by kernel_rfl) (fun _ _ _ h => h) (Or.inl ⟨by rfl, ?_⟩) (by assumption) ?_
          rotate_left
          · intro w hSw
            (try dsimp only at hSw)
            first | (go_simp; done) | (go_simp; with_reducible rfl)
          (try simp only [Act.put, List.setIfInBounds_toArray, List.set_cons_zero, List.set_cons_succ])
          refine wpAnyH_take (i := 32) (oi := { dst := some 87, op := .load 9 (.tmp 86), type := 9, pos := "laws.go:366", after := #[⟨31, .data⟩, ⟨25, .guard⟩], guard := some (25, false) }) (v := ?_) rfl (by kernel_rfl) (by kernel_rfl) (by kernel_rfl) (fun _ _ _ h => h) (Or.inl ⟨by rfl, ?_⟩) (by assumption) ?_
          rotate_left
          · intro w hSw
            (try dsimp only at hSw)
            first | (go_simp; done) | (go_simp; with_reducible rfl)
          (try simp only [Act.put, List.setIfInBounds_toArray, List.set_cons_zero, List.set_cons_succ])
          refine wpAnyH_ready (rs := [33]) (by kernel_rfl) (by simp) ?_
          refine AllReadyH.cons (o := { dst := some 88, op := .call { callee := .value (.func 19), args := #[.tmp 81, .tmp 87], argTypes := #[27, 9] }, type := 4, pos := "laws.go:366", after := #[⟨26, .data⟩, ⟨32, .data⟩, ⟨25, .chain⟩, ⟨25, .guard⟩], guard := some (25, false) }) rfl (fun K hK => ?_) AllReadyH.nil
          go_simp
          go_at_call 19
          refine (implSavedOf w10 w10.heap.size ava (some ⟨ob, oo, none⟩) 4 avc l.length aoc xs l IT (HVA10.out.more (by omega)) (HOA10.out.more (by omega)) (Nat.le_refl _) (by omega) his HCa.out.1 ⟨by omega, HCa.out.2.1⟩).mono ?_
          rintro e w11 ⟨rfl, hb⟩
          rw [HZ.out.2]
          have HD11 := Lib.hid ((hb.cell (p := ⟨ob, oo + q * 8 + 4, none⟩) (by show ob < _; omega)).trans HD10.out)
          have HS11 := Lib.hid (HS10.out.below hb (by omega))
          have hs11 := hb.size
          have HVA11 := Lib.hid (HVA10.out.below hb (by omega))
          have HOA11 := Lib.hid (HOA10.out.below hb (by omega))
          have HB11 := Lib.hid (HB10.out.trans (hb.mono (by omega)))
          have HXa11 := Lib.hid ((hb.block _ (lt_of_row HXa10.out)).trans HXa10.out)
          have HBk11 := Lib.hid (HBk10.out.trans (hb.mono (by omega)))
          clear hb HVA10 HOA10 HB10 HXa10 HBk10
          clear HS10
          clear HD10
          have hS6 : w11.cell? ⟨w0.heap.size, 0, none⟩ = some (.slice ava 4 avc) ∧ w11.cell? ⟨w0.heap.size, 1, none⟩ = some (.slice (some ⟨ob, oo, none⟩) l.length aoc) ∧ w11.cell? ⟨ob, oo + q * 8 + 4, none⟩ = some (.string IT) := ⟨(pair_cells HXa11.out).1, (pair_cells HXa11.out).2, HD11.out⟩
          refine hK.out _ _ hS6 (fun hHeld7 => ?_)
          clear hK K
          (try simp only [Act.put, List.setIfInBounds_toArray, List.set_cons_zero, List.set_cons_succ])
          clear hHeld7
          refine wpAnyH_take (i := 34) (oi := { dst := some 89, op := .pick (.tmp 80) (.const (Value.bool true)) (.tmp 88), type := 4, pos := "laws.go:366", after := #[⟨25, .data⟩, ⟨33, .data⟩, ⟨15, .guard⟩], guard := some (15, true) }) (v := ?_) rfl (by kernel_rfl) (by kernel_rfl) (by kernel_rfl) (fun _ _ _ h => h) (Or.inl ⟨by rfl, ?_⟩) (by assumption) ?_
          rotate_left
          · intro w hSw
            (try dsimp only at hSw)
            first | (go_simp; done) | (go_simp; with_reducible rfl)
          (try simp only [Act.put, List.setIfInBounds_toArray, List.set_cons_zero, List.set_cons_succ])
          refine wpAnyH_take (i := 35) (oi := { dst := some 90, op := .pick (.tmp 70) (.tmp 89) (.const (Value.bool false)), type := 4, pos := "laws.go:366", after := #[⟨15, .data⟩, ⟨34, .data⟩, ⟨12, .guard⟩], guard := some (12, false) }) (v := ?_) rfl (by kernel_rfl) (by kernel_rfl) (by kernel_rfl) (fun _ _ _ h => h) (Or.inl ⟨by rfl, ?_⟩) (by assumption) ?_
          rotate_left
          · intro w hSw
            (try dsimp only at hSw)
            first | (go_simp; done) | (go_simp; with_reducible rfl)
          (try simp only [Act.put, List.setIfInBounds_toArray, List.set_cons_zero, List.set_cons_succ])
          refine wpAnyH_take (i := 36) (oi := { dst := some 91, op := .pick (.tmp 67) (.const (Value.bool true)) (.tmp 90), type := 4, pos := "laws.go:366", after := #[⟨12, .data⟩, ⟨35, .data⟩], guard := none }) (v := ?_) rfl (by kernel_rfl) (by kernel_rfl) (by kernel_rfl) (fun _ _ _ h => h) (Or.inl ⟨by rfl, ?_⟩) (by assumption) ?_
          rotate_left
          · intro w hSw
            (try dsimp only at hSw)
            first | (go_simp; done) | (go_simp; with_reducible rfl)
          (try simp only [Act.put, List.setIfInBounds_toArray, List.set_cons_zero, List.set_cons_succ])
          refine wpAnyH_done (by kernel_rfl) ?_ _
          go_wp2
          go_roundw
          case rel => exact ⟨q + 1, by omega, by go_num, HBr.out.trans ((HBq.out.trans (HBk11.out.mono HBq.out.size)).mono HBr.out.size)⟩
          case measure => simp [intOf]; omega
end Go.Proofs.YtejhmakfbmhhhaaGreat
