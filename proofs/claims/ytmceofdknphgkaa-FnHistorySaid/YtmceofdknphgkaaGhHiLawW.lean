/- The walk of the law FnHistory. -/
import Derived.Test.YtmceofdknphgkaaGa33
import Derived.Test.YtmceofdknphgkaaGhHistI
import Derived.Test.YtmceofdknphgkaaGa23
import Derived.Test.YtmceofdknphgkaaGa25
import Derived.Deep.Cut
import Derived.Test.YtmceofdknphgkaaGhS
namespace Go.Proofs.Ytmceofdknphgkaa
open Go.RowKit
set_option linter.unusedVariables false
set_option linter.unusedSimpArgs false

/-- Is an operation among the first k of a list? -/
def inF (l : List OpV) (x : OpV) : Nat → Bool
  | 0 => false
  | k + 1 => inF l x k || decide (atOp l k = x)
theorem inF_of {l : List OpV} {x : OpV} {j : Nat} (e : atOp l j = x) : ∀ k, j < k → inF l x k = true
  | k + 1, h => by
    rw [inF]
    by_cases hj : j = k
    · subst hj
      rw [decide_eq_true e, Bool.or_true]
    · rw [inF_of e k (by omega), Bool.true_or]
theorem atOp_get {l : List OpV} {i : Nat} (h : i < l.length) : atOp l i = l[i] := by
  unfold atOp
  rw [List.getD_eq_getElem?_getD, List.getElem?_eq_getElem h]
  rfl
theorem hist_from {xs : List Int} {l : List OpV} (h : cartB xs l = true) {q : Nat} (hq : q < (histL xs l).length) : ∃ j, j < l.length ∧ atOp l j = atOp (histL xs l) q := by
  rw [atOp_get hq]
  have hm := List.getElem_mem hq
  generalize (histL xs l)[q] = y at hm
  rw [hist_yes h] at hm
  exact (sort_mem l l.length (Nat.le_refl _) _).1 hm
theorem hist_in {xs : List Int} {l : List OpV} (h : cartB xs l = true) {q : Nat} (hq : q < (histL xs l).length) : inF l (atOp (histL xs l) q) l.length = true := by
  obtain ⟨j, hj, e⟩ := hist_from h hq
  exact inF_of e _ hj
theorem hist_ok {xs : List Int} {l : List OpV} (h : cartB xs l = true) {q : Nat} (hq : q < (histL xs l).length) : (atOp (histL xs l) q).ok = true := by
  obtain ⟨j, hj, e⟩ := hist_from h hq
  rw [← e]
  exact cart_op h hj
theorem hist_bef {xs : List Int} {l : List OpV} (h : cartB xs l = true) {q : Nat} (hq : q + 1 < (histL xs l).length) : befV (atOp (histL xs l) q) (atOp (histL xs l) (q + 1)) = true := by
  rw [befV_ok (hist_ok h (by omega)) (hist_ok h hq), atOp_get (by omega : q < (histL xs l).length), atOp_get hq]
  have hs : SortedO (histL xs l) := by
    rw [hist_yes h]
    exact sort_sorted (cart_inc h) l.length (Nat.le_refl _)
  exact List.pairwise_iff_getElem.1 hs q (q + 1) (by omega) hq (by omega)
theorem hist_full {xs : List Int} {l : List OpV} (h : cartB xs l = true) : (histL xs l).length = l.length := by
  rw [hist_yes h, sort_len l l.length (Nat.le_refl _)]
theorem val_true {b : Bool} (h : b = true) : Value.bool b = .bool true := by rw [h]
set_option maxRecDepth 100000 in
set_option maxHeartbeats 16000000 in
theorem fnHistoryWalk (a : Option Addr) (len cap : Nat) (zs : List Int) (w : World) (h : IsRow .u8 w a len cap zs) :
    Calls Try.prog 5 #[.slice a len cap] w fun e w' => e = .returned (.bool true) ∧ Below w.heap.size w w' := by
  by_cases hbig : len ≤ 1048576
  rotate_left
  · go_enter Try.func5, Try.ntmps5
    go_wp2_with fail
    refine (bigYes a len cap hbig w).mono ?_
    rintro e w' ⟨rfl, rfl⟩
    go_wp2
    go_ret
    exact ⟨rfl, Below.refl _ _⟩
  have hsrc := Lib.hid (src_of_row h hbig)
  clear h
  go_enter Try.func5, Try.ntmps5
  go_wp2_with fail
  refine (bigNo a len cap hbig w).mono ?_
  rintro e w' ⟨rfl, rfl⟩
  go_wp2_with fail
  refine (drawHistory w w.heap.size a len cap (Nat.le_refl _) hsrc.out).mono ?_
  rintro e w0 ⟨⟨ava, avc, aoa, ano, aoc⟩, rfl, hx, hb0⟩
  obtain ⟨xs, l, e1, a1, a2, a3, a4, a5, a6⟩ := hx
  have e1 : ano = l.length := e1
  subst e1
  have HVA0 := Lib.hid a1.ints
  have HOA0 := Lib.hid a2.ops
  have HB0 := Lib.hid hb0
  have HCv := Lib.hid a3
  have HCa := Lib.hid a4
  have HIa : Hid (∀ i, i < l.length → (atOp l i).item.size ≤ 1048576) := fun i hi => Nat.le_trans (a5 i hi) (by omega)
  have hs0 := hb0.size
  clear a1 a2 a3 a4 a5 hb0
  dsimp only
  go_upto_region 4 with fail
  have hb : Below w0.heap.size w0 (w0.alloc (.cells #[.slice ava 4 avc, .slice aoa l.length aoc] 27)) := (Below.refl _ _).alloc (Nat.le_refl _) _
  have HXa1 := Lib.hid (boxAt (Below.refl _ (w0.alloc (.cells #[.slice ava 4 avc, .slice aoa l.length aoc] 27))))
  generalize w0.alloc (.cells #[.slice ava 4 avc, .slice aoa l.length aoc] 27) = w1 at hb HXa1 ⊢
  have hs1 := hb.size
  have HVA1 := Lib.hid (HVA0.out.below hb (by omega))
  have HOA1 := Lib.hid (HOA0.out.below hb (by omega))
  have HB1 := Lib.hid (HB0.out.trans (hb.mono (by omega)))
  clear hb HVA0 HOA0 HB0
  obtain ⟨hs, hhs⟩ : ∃ hs, histL xs l = hs := ⟨_, rfl⟩
  have HHs := Lib.hid hhs
  have hlh : hs.length ≤ 400 := by rw [← hhs]; exact Nat.le_trans (hist_len xs l) a6
  clear hhs
  obtain ⟨c00, c01⟩ := pair_cells HXa1.out
  go_wp2_with fail
  have hc := implHistory w1 w1.heap.size ava aoa 4 avc l.length aoc xs l (HVA1.out.more (by omega)) (HOA1.out.more (by omega)) (Nat.le_refl _) (by omega) HCv.out.1 HCa.out.1 ⟨by omega, HCa.out.2.1⟩ HCa.out.2.2 HIa.out
  rw [HHs.out] at hc
  refine hc.mono ?_
  clear hc
  rintro e w2 ⟨hla, hlc, rfl, hop, hb⟩
  clear c00 c01
  have hs2 := hb.size
  have HVA2 := Lib.hid (HVA1.out.below hb (by omega))
  have HOA2 := Lib.hid (HOA1.out.below hb (by omega))
  have HB2 := Lib.hid (HB1.out.trans (hb.mono (by omega)))
  have HXa2 := Lib.hid ((hb.block _ (lt_of_row HXa1.out)).trans HXa1.out)
  clear hb HVA1 HOA1 HB1 HXa1
  have HOH2 := Lib.hid hop.ops
  clear hop
  obtain ⟨c00, c01⟩ := pair_cells HXa2.out
  go_wp2_with fail
  have hc := specHistory w2 w2.heap.size ava aoa 4 avc l.length aoc xs l (HVA2.out.more (by omega)) (HOA2.out.more (by omega)) (Nat.le_refl _) (by omega) (by omega) HIa.out
  rw [HHs.out] at hc
  refine hc.mono ?_
  clear hc
  rintro e w3 ⟨sla, slc, rfl, hop, hb⟩
  clear c00 c01
  have HOH3 := Lib.hid (HOH2.out.below hb (by omega))
  have hs3 := hb.size
  have HVA3 := Lib.hid (HVA2.out.below hb (by omega))
  have HOA3 := Lib.hid (HOA2.out.below hb (by omega))
  have HB3 := Lib.hid (HB2.out.trans (hb.mono (by omega)))
  have HXa3 := Lib.hid ((hb.block _ (lt_of_row HXa2.out)).trans HXa2.out)
  clear hb HVA2 HOA2 HB2 HXa2
  clear HOH2
  have HOS3 := Lib.hid hop.ops
  clear hop
  obtain ⟨c00, c01⟩ := pair_cells HXa3.out
  go_wp2_with fail
  refine (sameOps w3 w3.heap.size w3.heap.size hla sla hs.length hlc hs.length slc hs hs (HOH3.out.more (by omega)) HOS3.out (Nat.le_refl _) (Nat.le_refl _) (by omega) (by omega)).mono ?_
  rintro e w4 ⟨rfl, hb⟩
  rw [decide_eq_true rfl]
  clear HOS3
  clear c00 c01
  have HOH4 := Lib.hid (HOH3.out.below hb (by omega))
  have hs4 := hb.size
  have HVA4 := Lib.hid (HVA3.out.below hb (by omega))
  have HOA4 := Lib.hid (HOA3.out.below hb (by omega))
  have HB4 := Lib.hid (HB3.out.trans (hb.mono (by omega)))
  have HXa4 := Lib.hid ((hb.block _ (lt_of_row HXa3.out)).trans HXa3.out)
  clear hb HVA3 HOA3 HB3 HXa3
  clear HOH3
  obtain ⟨ca, hca⟩ : ∃ b, cartB xs l = b := ⟨_, rfl⟩
  have HCar := Lib.hid hca
  clear hca
  obtain ⟨c00, c01⟩ := pair_cells HXa4.out
  go_wp2_with fail
  have hc := specCartOk w4 w4.heap.size ava aoa 4 avc l.length aoc xs l (HVA4.out.more (by omega)) (HOA4.out.more (by omega)) (Nat.le_refl _) (by omega) (by omega) HIa.out
  rw [HCar.out] at hc
  refine hc.mono ?_
  clear hc
  rintro e w5 ⟨rfl, hb⟩
  clear c00 c01
  have HOH5 := Lib.hid (HOH4.out.below hb (by omega))
  have hs5 := hb.size
  have HVA5 := Lib.hid (HVA4.out.below hb (by omega))
  have HOA5 := Lib.hid (HOA4.out.below hb (by omega))
  have HB5 := Lib.hid (HB4.out.trans (hb.mono (by omega)))
  have HXa5 := Lib.hid ((hb.block _ (lt_of_row HXa4.out)).trans HXa4.out)
  clear hb HVA4 HOA4 HB4 HXa4
  clear HOH4
  cases ca
  · skip
    obtain ⟨c00, c01⟩ := pair_cells HXa5.out
    go_wp2_with fail
    have hc := specHistory w5 w5.heap.size ava aoa 4 avc l.length aoc xs l (HVA5.out.more (by omega)) (HOA5.out.more (by omega)) (Nat.le_refl _) (by omega) (by omega) HIa.out
    rw [HHs.out] at hc
    refine hc.mono ?_
    clear hc
    rintro e w6 ⟨sla, slc, rfl, hop, hb⟩
    clear c00 c01
    have HOH6 := Lib.hid (HOH5.out.below hb (by omega))
    have hs6 := hb.size
    have HVA6 := Lib.hid (HVA5.out.below hb (by omega))
    have HOA6 := Lib.hid (HOA5.out.below hb (by omega))
    have HB6 := Lib.hid (HB5.out.trans (hb.mono (by omega)))
    have HXa6 := Lib.hid ((hb.block _ (lt_of_row HXa5.out)).trans HXa5.out)
    clear hb HVA5 HOA5 HB5 HXa5
    clear HOH5
    have HOS6 := Lib.hid hop.ops
    clear hop
    obtain ⟨c00, c01⟩ := pair_cells HXa6.out
    go_wp2_with fail
    refine (sameOps w6 w6.heap.size w6.heap.size hla sla hs.length hlc hs.length slc hs hs (HOH6.out.more (by omega)) HOS6.out (Nat.le_refl _) (Nat.le_refl _) (by omega) (by omega)).mono ?_
    rintro e w7 ⟨rfl, hb⟩
    rw [decide_eq_true rfl]
    clear HOS6
    clear c00 c01
    have HOH7 := Lib.hid (HOH6.out.below hb (by omega))
    have hs7 := hb.size
    have HVA7 := Lib.hid (HVA6.out.below hb (by omega))
    have HOA7 := Lib.hid (HOA6.out.below hb (by omega))
    have HB7 := Lib.hid (HB6.out.trans (hb.mono (by omega)))
    have HXa7 := Lib.hid ((hb.block _ (lt_of_row HXa6.out)).trans HXa6.out)
    clear hb HVA6 HOA6 HB6 HXa6
    clear HOH6
    go_wp2
    go_ret
    exact ⟨rfl, HB7.out⟩
  have HI : Hid (∀ q, q < hs.length → inF l (atOp hs q) l.length = true) := by
    show ∀ q, _
    rw [← HHs.out]
    exact fun q hq => hist_in HCar.out hq
  have HP : Hid (∀ q, q + 1 < hs.length → befV (atOp hs q) (atOp hs (q + 1)) = true) := by
    show ∀ q, _
    rw [← HHs.out]
    exact fun q hq => hist_bef HCar.out hq
  have HFull : Hid (l.length = hs.length) := by show _ = _; rw [← HHs.out]; exact (hist_full HCar.out).symm
  go_wp2
  go_loopw [5] (fun i wr => ∃ q : Nat, q ≤ hs.length ∧ i = .int .i64 (q : Int) ∧ Hid (Below w5.heap.size w5 wr)) (fun i _ => hs.length - (intOf i).toNat)
  case atStart => exact ⟨0, Nat.zero_le _, rfl, Below.refl _ _⟩
  case round =>
    obtain ⟨q, hq, rfl, HBr⟩ := hrel
    have hsr := HBr.out.size
    by_cases hlt : q < hs.length
    rotate_left
    · have HE := Lib.hid (HB5.out.trans (HBr.out.mono (by omega)))
      obtain ⟨ca0, ca1⟩ := pair_cells ((HBr.out.block _ (lt_of_row HXa5.out)).trans HXa5.out)
      rw [HFull.out] at ca1
      go_wp2
      go_ret
      exact ⟨rfl, HE.out⟩
    have hqi : (q : Int) < (hs.length : Int) := by omega
    have hq0 : decide ((q : Int) < 0) = false := decide_eq_false (by omega)
    have hq00 : ¬ ((q : Int) < 0) := by omega
    have HIq := Lib.hid (HI.out q hlt)
    have HPq : Hid (∀ p, p + 1 = q → befV (atOp hs p) (atOp hs q) = true) := by
      intro p hp
      subst hp
      exact HP.out p hlt
    have HX0 : Hid (∃ x, x = atOp hs q) := ⟨_, rfl⟩
    obtain ⟨x, hx⟩ := HX0.out
    have HX := Lib.hid hx
    rw [← hx] at HIq HPq
    clear hx HX0
    go_wp2
    go_loopw [6, 7] (fun b j wr => ∃ r : Nat, r ≤ l.length ∧ j = .int .i64 (r : Int) ∧ b = .bool (inF l x r) ∧ Hid (Below w5.heap.size w5 wr)) (fun _ j _ => l.length - (intOf j).toNat)
    case atStart => exact ⟨0, Nat.zero_le _, rfl, rfl, HBr⟩
    case round =>
      clear HBr hsr
      obtain ⟨r, hr, rfl, rfl, HBr⟩ := hrel
      have hsr := HBr.out.size
      obtain ⟨ca0, ca1⟩ := pair_cells ((HBr.out.block _ (lt_of_row HXa5.out)).trans HXa5.out)
      have HOr := Lib.hid (HOA5.out.below HBr.out (by omega))
      have HHr := Lib.hid (HOH5.out.below HBr.out (by omega))
      obtain ⟨xb, xo, rfl, hxb, hxo⟩ := HHr.out.2 q hlt
      have hxo : OpAt wr xb (xo + q * 8) (atOp hs q) := hxo
      rw [← HX.out] at hxo
      by_cases hrl : r < l.length
      rotate_left
      · have hre : ¬ ((r : Int) < (l.length : Int)) := by omega
        have hrr : l.length = r := by omega
        rw [hrr] at HIq
        rw [HIq.out]
        clear hrr hrl hr
        go_upto_region 15 with fail
        clear ca0 ca1 hre
        rcases Nat.eq_zero_or_pos q with h0 | h0
        · subst h0
          have hg0 : ¬ ((0 : Int) < ((0 : Nat) : Int)) := by omega
          go_wp2_with fail
          refine wp_region_held_drew (S := fun w' => True) (by kernel_rfl) trivial (fun hHeld => ?_)
          refine wpAnyH_take (i := 0) (oi := { dst := some 54, op := .move (.tmp 6), type := 4, pos := "laws.go:772", after := #[], guard := none }) (v := ?_) rfl (by kernel_rfl) (by kernel_rfl) (by kernel_rfl) (fun _ _ _ h => h) (Or.inl ⟨by rfl, ?_⟩) (by assumption) ?_
          rotate_left
          · intro w hSw
            (try dsimp only at hSw)
            first | (go_simp; done) | (go_simp; with_reducible rfl)
          (try simp only [Act.put, List.setIfInBounds_toArray, List.set_cons_zero, List.set_cons_succ])
          refine wpAnyH_take (i := 1) (oi := { dst := some 55, op := .unOp .not 4 (.tmp 54), type := 4, pos := "laws.go:772", after := #[⟨0, .data⟩], guard := none }) (v := ?_) rfl (by kernel_rfl) (by kernel_rfl) (by kernel_rfl) (fun _ _ _ h => h) (Or.inl ⟨by rfl, ?_⟩) (by assumption) ?_
          rotate_left
          · intro w hSw
            (try dsimp only at hSw)
            first | (go_simp; done) | (go_simp; with_reducible rfl)
          (try simp only [Act.put, List.setIfInBounds_toArray, List.set_cons_zero, List.set_cons_succ])
          refine wpAnyH_take (i := 2) (oi := { dst := some 56, op := .move (.tmp 55), type := 4, pos := "laws.go:772", after := #[⟨1, .data⟩], guard := none }) (v := ?_) rfl (by kernel_rfl) (by kernel_rfl) (by kernel_rfl) (fun _ _ _ h => h) (Or.inl ⟨by rfl, ?_⟩) (by assumption) ?_
          rotate_left
          · intro w hSw
            (try dsimp only at hSw)
            first | (go_simp; done) | (go_simp; with_reducible rfl)
          (try simp only [Act.put, List.setIfInBounds_toArray, List.set_cons_zero, List.set_cons_succ])
          refine wpAnyH_take (i := 3) (oi := { dst := some 57, op := .move (.tmp 5), type := 3, pos := "laws.go:772", after := #[⟨2, .guard⟩], guard := some (2, false) }) (v := ?_) rfl (by kernel_rfl) (by kernel_rfl) (by kernel_rfl) (fun _ _ _ h => h) (Or.inl ⟨by rfl, ?_⟩) (by assumption) ?_
          rotate_left
          · intro w hSw
            (try dsimp only at hSw)
            first | (go_simp; done) | (go_simp; with_reducible rfl)
          (try simp only [Act.put, List.setIfInBounds_toArray, List.set_cons_zero, List.set_cons_succ])
          refine wpAnyH_take (i := 4) (oi := { dst := some 58, op := .binOp .gtr 3 (.tmp 57) (.const (Value.int IntKind.i64 0)) 3, type := 4, pos := "laws.go:772", after := #[⟨3, .data⟩, ⟨2, .guard⟩], guard := some (2, false) }) (v := ?_) rfl (by kernel_rfl) (by kernel_rfl) (by kernel_rfl) (fun _ _ _ h => h) (Or.inl ⟨by rfl, ?_⟩) (by assumption) ?_
          rotate_left
          · intro w hSw
            (try dsimp only at hSw)
            first | (go_simp; done) | (go_simp; with_reducible rfl)
          (try simp only [Act.put, List.setIfInBounds_toArray, List.set_cons_zero, List.set_cons_succ])
          refine wpAnyH_take (i := 5) (oi := { dst := some 59, op := .move (.tmp 58), type := 4, pos := "laws.go:772", after := #[⟨4, .data⟩, ⟨2, .chain⟩, ⟨2, .guard⟩], guard := some (2, false) }) (v := ?_) rfl (by kernel_rfl) (by kernel_rfl) (by kernel_rfl) (fun _ _ _ h => h) (Or.inl ⟨by rfl, ?_⟩) (by assumption) ?_
          rotate_left
          · intro w hSw
            (try dsimp only at hSw)
            first | (go_simp; done) | (go_simp; with_reducible rfl)
          (try simp only [Act.put, List.setIfInBounds_toArray, List.set_cons_zero, List.set_cons_succ])
          refine wpAnyH_take (i := 6) (oi := { dst := some 60, op := .move (.tmp 4), type := 25, pos := "laws.go:772", after := #[⟨5, .guard⟩], guard := some (5, true) }) (v := undef) rfl (by kernel_rfl) (by kernel_rfl) (by kernel_rfl) (fun _ _ _ h => h) (Or.inr ⟨by rfl, rfl⟩) (by assumption) ?_
          (try simp only [Act.put, List.setIfInBounds_toArray, List.set_cons_zero, List.set_cons_succ])
          refine wpAnyH_take (i := 7) (oi := { dst := some 61, op := .move (.tmp 5), type := 3, pos := "laws.go:772", after := #[⟨5, .guard⟩], guard := some (5, true) }) (v := undef) rfl (by kernel_rfl) (by kernel_rfl) (by kernel_rfl) (fun _ _ _ h => h) (Or.inr ⟨by rfl, rfl⟩) (by assumption) ?_
          (try simp only [Act.put, List.setIfInBounds_toArray, List.set_cons_zero, List.set_cons_succ])
          refine wpAnyH_take (i := 8) (oi := { dst := some 62, op := .binOp .sub 3 (.tmp 61) (.const (Value.int IntKind.i64 1)) 3, type := 3, pos := "laws.go:772", after := #[⟨7, .data⟩, ⟨5, .guard⟩], guard := some (5, true) }) (v := undef) rfl (by kernel_rfl) (by kernel_rfl) (by kernel_rfl) (fun _ _ _ h => h) (Or.inr ⟨by rfl, rfl⟩) (by assumption) ?_
          (try simp only [Act.put, List.setIfInBounds_toArray, List.set_cons_zero, List.set_cons_succ])
          refine wpAnyH_take (i := 9) (oi := { dst := some 63, op := .indexAddr 25 (.tmp 60) (.tmp 62), type := 0, pos := "laws.go:772", after := #[⟨6, .data⟩, ⟨8, .data⟩, ⟨5, .guard⟩], guard := some (5, true) }) (v := undef) rfl (by kernel_rfl) (by kernel_rfl) (by kernel_rfl) (fun _ _ _ h => h) (Or.inr ⟨by rfl, rfl⟩) (by assumption) ?_
          (try simp only [Act.put, List.setIfInBounds_toArray, List.set_cons_zero, List.set_cons_succ])
          refine wpAnyH_take (i := 10) (oi := { dst := some 64, op := .load 34 (.tmp 63), type := 34, pos := "laws.go:772", after := #[⟨9, .data⟩, ⟨5, .guard⟩], guard := some (5, true) }) (v := undef) rfl (by kernel_rfl) (by kernel_rfl) (by kernel_rfl) (fun _ _ _ h => h) (Or.inr ⟨by rfl, rfl⟩) (by assumption) ?_
          (try simp only [Act.put, List.setIfInBounds_toArray, List.set_cons_zero, List.set_cons_succ])
          refine wpAnyH_take (i := 11) (oi := { dst := some 65, op := .move (.tmp 4), type := 25, pos := "laws.go:772", after := #[⟨5, .guard⟩], guard := some (5, true) }) (v := undef) rfl (by kernel_rfl) (by kernel_rfl) (by kernel_rfl) (fun _ _ _ h => h) (Or.inr ⟨by rfl, rfl⟩) (by assumption) ?_
          (try simp only [Act.put, List.setIfInBounds_toArray, List.set_cons_zero, List.set_cons_succ])
          refine wpAnyH_take (i := 12) (oi := { dst := some 66, op := .move (.tmp 5), type := 3, pos := "laws.go:772", after := #[⟨5, .guard⟩], guard := some (5, true) }) (v := undef) rfl (by kernel_rfl) (by kernel_rfl) (by kernel_rfl) (fun _ _ _ h => h) (Or.inr ⟨by rfl, rfl⟩) (by assumption) ?_
          (try simp only [Act.put, List.setIfInBounds_toArray, List.set_cons_zero, List.set_cons_succ])
          refine wpAnyH_take (i := 13) (oi := { dst := some 67, op := .indexAddr 25 (.tmp 65) (.tmp 66), type := 0, pos := "laws.go:772", after := #[⟨11, .data⟩, ⟨12, .data⟩, ⟨5, .guard⟩], guard := some (5, true) }) (v := undef) rfl (by kernel_rfl) (by kernel_rfl) (by kernel_rfl) (fun _ _ _ h => h) (Or.inr ⟨by rfl, rfl⟩) (by assumption) ?_
          (try simp only [Act.put, List.setIfInBounds_toArray, List.set_cons_zero, List.set_cons_succ])
          refine wpAnyH_take (i := 14) (oi := { dst := some 68, op := .load 34 (.tmp 67), type := 34, pos := "laws.go:772", after := #[⟨13, .data⟩, ⟨5, .guard⟩], guard := some (5, true) }) (v := undef) rfl (by kernel_rfl) (by kernel_rfl) (by kernel_rfl) (fun _ _ _ h => h) (Or.inr ⟨by rfl, rfl⟩) (by assumption) ?_
          (try simp only [Act.put, List.setIfInBounds_toArray, List.set_cons_zero, List.set_cons_succ])
          refine wpAnyH_take (i := 15) (oi := { dst := some 69, op := .call { callee := .value (.func 32), args := #[.tmp 64, .tmp 68], argTypes := #[34, 34] }, type := 4, pos := "laws.go:772", after := #[⟨10, .data⟩, ⟨14, .data⟩, ⟨5, .chain⟩, ⟨5, .guard⟩], guard := some (5, true) }) (v := undef) rfl (by kernel_rfl) (by kernel_rfl) (by kernel_rfl) (fun _ _ _ h => h) (Or.inr ⟨by rfl, rfl⟩) (by assumption) ?_
          (try simp only [Act.put, List.setIfInBounds_toArray, List.set_cons_zero, List.set_cons_succ])
          refine wpAnyH_take (i := 16) (oi := { dst := some 70, op := .unOp .not 4 (.tmp 69), type := 4, pos := "laws.go:772", after := #[⟨15, .data⟩, ⟨5, .guard⟩], guard := some (5, true) }) (v := undef) rfl (by kernel_rfl) (by kernel_rfl) (by kernel_rfl) (fun _ _ _ h => h) (Or.inr ⟨by rfl, rfl⟩) (by assumption) ?_
          (try simp only [Act.put, List.setIfInBounds_toArray, List.set_cons_zero, List.set_cons_succ])
          refine wpAnyH_take (i := 17) (oi := { dst := some 71, op := .pick (.tmp 59) (.tmp 70) (.const (Value.bool false)), type := 4, pos := "laws.go:772", after := #[⟨5, .data⟩, ⟨16, .data⟩, ⟨2, .guard⟩], guard := some (2, false) }) (v := ?_) rfl (by kernel_rfl) (by kernel_rfl) (by kernel_rfl) (fun _ _ _ h => h) (Or.inl ⟨by rfl, ?_⟩) (by assumption) ?_
          rotate_left
          · intro w hSw
            (try dsimp only at hSw)
            first | (go_simp; done) | (go_simp; with_reducible rfl)
          (try simp only [Act.put, List.setIfInBounds_toArray, List.set_cons_zero, List.set_cons_succ])
          refine wpAnyH_take (i := 18) (oi := { dst := some 72, op := .pick (.tmp 56) (.const (Value.bool true)) (.tmp 71), type := 4, pos := "laws.go:772", after := #[⟨2, .data⟩, ⟨17, .data⟩], guard := none }) (v := ?_) rfl (by kernel_rfl) (by kernel_rfl) (by kernel_rfl) (fun _ _ _ h => h) (Or.inl ⟨by rfl, ?_⟩) (by assumption) ?_
          rotate_left
          · intro w hSw
            (try dsimp only at hSw)
            first | (go_simp; done) | (go_simp; with_reducible rfl)
          (try simp only [Act.put, List.setIfInBounds_toArray, List.set_cons_zero, List.set_cons_succ])
          refine wpAnyH_done (by kernel_rfl) ?_ _
          go_wp2
          go_roundw
          case rel => exact ⟨1, by omega, by go_num, HBr.out.drew⟩
          case measure => simp [intOf]; omega
        obtain ⟨p, hp⟩ : ∃ p, p + 1 = q := ⟨q - 1, by omega⟩
        obtain ⟨yb, yo, hye, hyb, hyo⟩ := HHr.out.2 p (by omega)
        cases hye
        have hyo : OpAt wr xb (xo + p * 8) (atOp hs p) := hyo
        have HPp := Lib.hid (HPq.out p hp)
        generalize atOp hs p = y at hyo HPp
        have hqp : (q : Int) - 1 = (p : Int) := by omega
        have hpi : (p : Int) < (hs.length : Int) := by omega
        have hp0 : decide ((p : Int) < 0) = false := decide_eq_false (by omega)
        have hp00 : ¬ ((p : Int) < 0) := by omega
        have hqpos : (0 : Int) < (q : Int) := by omega
        have hpin : (1 : Int) ≤ (q : Int) := by omega
        have hwrap : IntKind.i64.wrap ((q : Int) - 1) = (p : Int) := (IntWalk.i64_in _ (by omega)).trans hqp
        obtain ⟨d0, d1, d2, d3, d4, d5, d6, d7⟩ := hyo
        obtain ⟨e0, e1, e2, e3, e4, e5, e6, e7⟩ := hxo
        clear hp hqp
        have hxl : xb < wr.heap.size := by omega
        have hS : wr.drew.cell? ⟨xb, xo + p * 8, none⟩ = some (.int .i64 y.dev) ∧ wr.drew.cell? ⟨xb, xo + p * 8 + 1, none⟩ = some (.int .i64 y.seq) ∧ wr.drew.cell? ⟨xb, xo + p * 8 + 2, none⟩ = some (.int .i64 y.stamp) ∧ wr.drew.cell? ⟨xb, xo + p * 8 + 3, none⟩ = some (.int .i64 y.kind) ∧ wr.drew.cell? ⟨xb, xo + p * 8 + 4, none⟩ = some (.string y.item) ∧ wr.drew.cell? ⟨xb, xo + p * 8 + 5, none⟩ = some (.int .i64 y.qty) ∧ wr.drew.cell? ⟨xb, xo + p * 8 + 6, none⟩ = some (.int .i64 y.level) ∧ wr.drew.cell? ⟨xb, xo + p * 8 + 7, none⟩ = some (.int .i64 y.undos) ∧ wr.drew.cell? ⟨xb, xo + q * 8, none⟩ = some (.int .i64 x.dev) ∧ wr.drew.cell? ⟨xb, xo + q * 8 + 1, none⟩ = some (.int .i64 x.seq) ∧ wr.drew.cell? ⟨xb, xo + q * 8 + 2, none⟩ = some (.int .i64 x.stamp) ∧ wr.drew.cell? ⟨xb, xo + q * 8 + 3, none⟩ = some (.int .i64 x.kind) ∧ wr.drew.cell? ⟨xb, xo + q * 8 + 4, none⟩ = some (.string x.item) ∧ wr.drew.cell? ⟨xb, xo + q * 8 + 5, none⟩ = some (.int .i64 x.qty) ∧ wr.drew.cell? ⟨xb, xo + q * 8 + 6, none⟩ = some (.int .i64 x.level) ∧ wr.drew.cell? ⟨xb, xo + q * 8 + 7, none⟩ = some (.int .i64 x.undos) := ⟨d0, d1, d2, d3, d4, d5, d6, d7, e0, e1, e2, e3, e4, e5, e6, e7⟩
        go_wp2_with fail
        refine wp_region_held_drew (S := fun w' => w'.cell? ⟨xb, xo + p * 8, none⟩ = some (.int .i64 y.dev) ∧ w'.cell? ⟨xb, xo + p * 8 + 1, none⟩ = some (.int .i64 y.seq) ∧ w'.cell? ⟨xb, xo + p * 8 + 2, none⟩ = some (.int .i64 y.stamp) ∧ w'.cell? ⟨xb, xo + p * 8 + 3, none⟩ = some (.int .i64 y.kind) ∧ w'.cell? ⟨xb, xo + p * 8 + 4, none⟩ = some (.string y.item) ∧ w'.cell? ⟨xb, xo + p * 8 + 5, none⟩ = some (.int .i64 y.qty) ∧ w'.cell? ⟨xb, xo + p * 8 + 6, none⟩ = some (.int .i64 y.level) ∧ w'.cell? ⟨xb, xo + p * 8 + 7, none⟩ = some (.int .i64 y.undos) ∧ w'.cell? ⟨xb, xo + q * 8, none⟩ = some (.int .i64 x.dev) ∧ w'.cell? ⟨xb, xo + q * 8 + 1, none⟩ = some (.int .i64 x.seq) ∧ w'.cell? ⟨xb, xo + q * 8 + 2, none⟩ = some (.int .i64 x.stamp) ∧ w'.cell? ⟨xb, xo + q * 8 + 3, none⟩ = some (.int .i64 x.kind) ∧ w'.cell? ⟨xb, xo + q * 8 + 4, none⟩ = some (.string x.item) ∧ w'.cell? ⟨xb, xo + q * 8 + 5, none⟩ = some (.int .i64 x.qty) ∧ w'.cell? ⟨xb, xo + q * 8 + 6, none⟩ = some (.int .i64 x.level) ∧ w'.cell? ⟨xb, xo + q * 8 + 7, none⟩ = some (.int .i64 x.undos)) (by kernel_rfl) hS (fun hHeld => ?_)
        refine wpAnyH_take (i := 0) (oi := { dst := some 54, op := .move (.tmp 6), type := 4, pos := "laws.go:772", after := #[], guard := none }) (v := ?_) rfl (by kernel_rfl) (by kernel_rfl) (by kernel_rfl) (fun _ _ _ h => h) (Or.inl ⟨by rfl, ?_⟩) (by assumption) ?_
        rotate_left
        · intro w hSw
          (try dsimp only at hSw)
          first | (go_simp; done) | (go_simp; with_reducible rfl)
        (try simp only [Act.put, List.setIfInBounds_toArray, List.set_cons_zero, List.set_cons_succ])
        refine wpAnyH_take (i := 1) (oi := { dst := some 55, op := .unOp .not 4 (.tmp 54), type := 4, pos := "laws.go:772", after := #[⟨0, .data⟩], guard := none }) (v := ?_) rfl (by kernel_rfl) (by kernel_rfl) (by kernel_rfl) (fun _ _ _ h => h) (Or.inl ⟨by rfl, ?_⟩) (by assumption) ?_
        rotate_left
        · intro w hSw
          (try dsimp only at hSw)
          first | (go_simp; done) | (go_simp; with_reducible rfl)
        (try simp only [Act.put, List.setIfInBounds_toArray, List.set_cons_zero, List.set_cons_succ])
        refine wpAnyH_take (i := 2) (oi := { dst := some 56, op := .move (.tmp 55), type := 4, pos := "laws.go:772", after := #[⟨1, .data⟩], guard := none }) (v := ?_) rfl (by kernel_rfl) (by kernel_rfl) (by kernel_rfl) (fun _ _ _ h => h) (Or.inl ⟨by rfl, ?_⟩) (by assumption) ?_
        rotate_left
        · intro w hSw
          (try dsimp only at hSw)
          first | (go_simp; done) | (go_simp; with_reducible rfl)
        (try simp only [Act.put, List.setIfInBounds_toArray, List.set_cons_zero, List.set_cons_succ])
        refine wpAnyH_take (i := 3) (oi := { dst := some 57, op := .move (.tmp 5), type := 3, pos := "laws.go:772", after := #[⟨2, .guard⟩], guard := some (2, false) }) (v := ?_) rfl (by kernel_rfl) (by kernel_rfl) (by kernel_rfl) (fun _ _ _ h => h) (Or.inl ⟨by rfl, ?_⟩) (by assumption) ?_
        rotate_left
        · intro w hSw
          (try dsimp only at hSw)
          first | (go_simp; done) | (go_simp; with_reducible rfl)
        (try simp only [Act.put, List.setIfInBounds_toArray, List.set_cons_zero, List.set_cons_succ])
        refine wpAnyH_take (i := 4) (oi := { dst := some 58, op := .binOp .gtr 3 (.tmp 57) (.const (Value.int IntKind.i64 0)) 3, type := 4, pos := "laws.go:772", after := #[⟨3, .data⟩, ⟨2, .guard⟩], guard := some (2, false) }) (v := ?_) rfl (by kernel_rfl) (by kernel_rfl) (by kernel_rfl) (fun _ _ _ h => h) (Or.inl ⟨by rfl, ?_⟩) (by assumption) ?_
        rotate_left
        · intro w hSw
          (try dsimp only at hSw)
          first | (go_simp; done) | (go_simp; with_reducible rfl)
        (try simp only [Act.put, List.setIfInBounds_toArray, List.set_cons_zero, List.set_cons_succ])
        refine wpAnyH_take (i := 5) (oi := { dst := some 59, op := .move (.tmp 58), type := 4, pos := "laws.go:772", after := #[⟨4, .data⟩, ⟨2, .chain⟩, ⟨2, .guard⟩], guard := some (2, false) }) (v := ?_) rfl (by kernel_rfl) (by kernel_rfl) (by kernel_rfl) (fun _ _ _ h => h) (Or.inl ⟨by rfl, ?_⟩) (by assumption) ?_
        rotate_left
        · intro w hSw
          (try dsimp only at hSw)
          first | (go_simp; done) | (go_simp; with_reducible rfl)
        (try simp only [Act.put, List.setIfInBounds_toArray, List.set_cons_zero, List.set_cons_succ])
        refine wpAnyH_take (i := 6) (oi := { dst := some 60, op := .move (.tmp 4), type := 25, pos := "laws.go:772", after := #[⟨5, .guard⟩], guard := some (5, true) }) (v := ?_) rfl (by kernel_rfl) (by kernel_rfl) (by kernel_rfl) (fun _ _ _ h => h) (Or.inl ⟨by rfl, ?_⟩) (by assumption) ?_
        rotate_left
        · intro w hSw
          (try dsimp only at hSw)
          first | (go_simp; done) | (go_simp; with_reducible rfl)
        (try simp only [Act.put, List.setIfInBounds_toArray, List.set_cons_zero, List.set_cons_succ])
        refine wpAnyH_take (i := 7) (oi := { dst := some 61, op := .move (.tmp 5), type := 3, pos := "laws.go:772", after := #[⟨5, .guard⟩], guard := some (5, true) }) (v := ?_) rfl (by kernel_rfl) (by kernel_rfl) (by kernel_rfl) (fun _ _ _ h => h) (Or.inl ⟨by rfl, ?_⟩) (by assumption) ?_
        rotate_left
        · intro w hSw
          (try dsimp only at hSw)
          first | (go_simp; done) | (go_simp; with_reducible rfl)
        (try simp only [Act.put, List.setIfInBounds_toArray, List.set_cons_zero, List.set_cons_succ])
        refine wpAnyH_take (i := 8) (oi := { dst := some 62, op := .binOp .sub 3 (.tmp 61) (.const (Value.int IntKind.i64 1)) 3, type := 3, pos := "laws.go:772", after := #[⟨7, .data⟩, ⟨5, .guard⟩], guard := some (5, true) }) (v := ?_) rfl (by kernel_rfl) (by kernel_rfl) (by kernel_rfl) (fun _ _ _ h => h) (Or.inl ⟨by rfl, ?_⟩) (by assumption) ?_
        rotate_left
        · intro w hSw
          (try dsimp only at hSw)
          first | (go_simp; done) | (go_simp; with_reducible rfl)
        (try simp only [Act.put, List.setIfInBounds_toArray, List.set_cons_zero, List.set_cons_succ])
        refine wpAnyH_take (i := 9) (oi := { dst := some 63, op := .indexAddr 25 (.tmp 60) (.tmp 62), type := 0, pos := "laws.go:772", after := #[⟨6, .data⟩, ⟨8, .data⟩, ⟨5, .guard⟩], guard := some (5, true) }) (v := ?_) rfl (by kernel_rfl) (by kernel_rfl) (by kernel_rfl) (fun _ _ _ h => h) (Or.inl ⟨by rfl, ?_⟩) (by assumption) ?_
        rotate_left
        · intro w hSw
          (try dsimp only at hSw)
          first | (go_simp; done) | (go_simp; with_reducible rfl)
        (try simp only [Act.put, List.setIfInBounds_toArray, List.set_cons_zero, List.set_cons_succ])
        refine wpAnyH_take (i := 10) (oi := { dst := some 64, op := .load 34 (.tmp 63), type := 34, pos := "laws.go:772", after := #[⟨9, .data⟩, ⟨5, .guard⟩], guard := some (5, true) }) (v := ?_) rfl (by kernel_rfl) (by kernel_rfl) (by kernel_rfl) (fun _ _ _ h => h) (Or.inl ⟨by rfl, ?_⟩) (by assumption) ?_
        rotate_left
        · intro w hSw
          (try dsimp only at hSw)
          first | (go_simp; done) | (go_simp; with_reducible rfl)
        (try simp only [Act.put, List.setIfInBounds_toArray, List.set_cons_zero, List.set_cons_succ])
        refine wpAnyH_take (i := 11) (oi := { dst := some 65, op := .move (.tmp 4), type := 25, pos := "laws.go:772", after := #[⟨5, .guard⟩], guard := some (5, true) }) (v := ?_) rfl (by kernel_rfl) (by kernel_rfl) (by kernel_rfl) (fun _ _ _ h => h) (Or.inl ⟨by rfl, ?_⟩) (by assumption) ?_
        rotate_left
        · intro w hSw
          (try dsimp only at hSw)
          first | (go_simp; done) | (go_simp; with_reducible rfl)
        (try simp only [Act.put, List.setIfInBounds_toArray, List.set_cons_zero, List.set_cons_succ])
        refine wpAnyH_take (i := 12) (oi := { dst := some 66, op := .move (.tmp 5), type := 3, pos := "laws.go:772", after := #[⟨5, .guard⟩], guard := some (5, true) }) (v := ?_) rfl (by kernel_rfl) (by kernel_rfl) (by kernel_rfl) (fun _ _ _ h => h) (Or.inl ⟨by rfl, ?_⟩) (by assumption) ?_
        rotate_left
        · intro w hSw
          (try dsimp only at hSw)
          first | (go_simp; done) | (go_simp; with_reducible rfl)
        (try simp only [Act.put, List.setIfInBounds_toArray, List.set_cons_zero, List.set_cons_succ])
        refine wpAnyH_take (i := 13) (oi := { dst := some 67, op := .indexAddr 25 (.tmp 65) (.tmp 66), type := 0, pos := "laws.go:772", after := #[⟨11, .data⟩, ⟨12, .data⟩, ⟨5, .guard⟩], guard := some (5, true) }) (v := ?_) rfl (by kernel_rfl) (by kernel_rfl) (by kernel_rfl) (fun _ _ _ h => h) (Or.inl ⟨by rfl, ?_⟩) (by assumption) ?_
        rotate_left
        · intro w hSw
          (try dsimp only at hSw)
          first | (go_simp; done) | (go_simp; with_reducible rfl)
        (try simp only [Act.put, List.setIfInBounds_toArray, List.set_cons_zero, List.set_cons_succ])
        refine wpAnyH_take (i := 14) (oi := { dst := some 68, op := .load 34 (.tmp 67), type := 34, pos := "laws.go:772", after := #[⟨13, .data⟩, ⟨5, .guard⟩], guard := some (5, true) }) (v := ?_) rfl (by kernel_rfl) (by kernel_rfl) (by kernel_rfl) (fun _ _ _ h => h) (Or.inl ⟨by rfl, ?_⟩) (by assumption) ?_
        rotate_left
        · intro w hSw
          (try dsimp only at hSw)
          first | (go_simp; done) | (go_simp; with_reducible rfl)
        (try simp only [Act.put, List.setIfInBounds_toArray, List.set_cons_zero, List.set_cons_succ])
        refine wpAnyH_ready (rs := [15]) (by kernel_rfl) (by simp) ?_
        refine AllReadyH.cons (o := { dst := some 69, op := .call { callee := .value (.func 32), args := #[.tmp 64, .tmp 68], argTypes := #[34, 34] }, type := 4, pos := "laws.go:772", after := #[⟨10, .data⟩, ⟨14, .data⟩, ⟨5, .chain⟩, ⟨5, .guard⟩], guard := some (5, true) }) rfl (fun K hK => ?_) AllReadyH.nil
        go_simp
        go_at_call 32
        refine (implBefore y.dev y.seq y.stamp y.kind y.item y.qty y.level y.undos x.dev x.seq x.stamp x.kind x.item x.qty x.level x.undos _).mono ?_
        rintro e w2 ⟨rfl, hb⟩
        have hbv : befB y.dev y.seq y.stamp y.kind y.item y.qty y.level y.undos x.dev x.seq x.stamp x.kind x.item x.qty x.level x.undos = true := HPp.out
        rw [hbv]
        have hS2 : w2.cell? ⟨xb, xo + p * 8, none⟩ = some (.int .i64 y.dev) ∧ w2.cell? ⟨xb, xo + p * 8 + 1, none⟩ = some (.int .i64 y.seq) ∧ w2.cell? ⟨xb, xo + p * 8 + 2, none⟩ = some (.int .i64 y.stamp) ∧ w2.cell? ⟨xb, xo + p * 8 + 3, none⟩ = some (.int .i64 y.kind) ∧ w2.cell? ⟨xb, xo + p * 8 + 4, none⟩ = some (.string y.item) ∧ w2.cell? ⟨xb, xo + p * 8 + 5, none⟩ = some (.int .i64 y.qty) ∧ w2.cell? ⟨xb, xo + p * 8 + 6, none⟩ = some (.int .i64 y.level) ∧ w2.cell? ⟨xb, xo + p * 8 + 7, none⟩ = some (.int .i64 y.undos) ∧ w2.cell? ⟨xb, xo + q * 8, none⟩ = some (.int .i64 x.dev) ∧ w2.cell? ⟨xb, xo + q * 8 + 1, none⟩ = some (.int .i64 x.seq) ∧ w2.cell? ⟨xb, xo + q * 8 + 2, none⟩ = some (.int .i64 x.stamp) ∧ w2.cell? ⟨xb, xo + q * 8 + 3, none⟩ = some (.int .i64 x.kind) ∧ w2.cell? ⟨xb, xo + q * 8 + 4, none⟩ = some (.string x.item) ∧ w2.cell? ⟨xb, xo + q * 8 + 5, none⟩ = some (.int .i64 x.qty) ∧ w2.cell? ⟨xb, xo + q * 8 + 6, none⟩ = some (.int .i64 x.level) ∧ w2.cell? ⟨xb, xo + q * 8 + 7, none⟩ = some (.int .i64 x.undos) := ⟨(hb.cell (by show xb < wr.heap.size; omega)).trans hS.1, (hb.cell (by show xb < wr.heap.size; omega)).trans hS.2.1, (hb.cell (by show xb < wr.heap.size; omega)).trans hS.2.2.1, (hb.cell (by show xb < wr.heap.size; omega)).trans hS.2.2.2.1, (hb.cell (by show xb < wr.heap.size; omega)).trans hS.2.2.2.2.1, (hb.cell (by show xb < wr.heap.size; omega)).trans hS.2.2.2.2.2.1, (hb.cell (by show xb < wr.heap.size; omega)).trans hS.2.2.2.2.2.2.1, (hb.cell (by show xb < wr.heap.size; omega)).trans hS.2.2.2.2.2.2.2.1, (hb.cell (by show xb < wr.heap.size; omega)).trans hS.2.2.2.2.2.2.2.2.1, (hb.cell (by show xb < wr.heap.size; omega)).trans hS.2.2.2.2.2.2.2.2.2.1, (hb.cell (by show xb < wr.heap.size; omega)).trans hS.2.2.2.2.2.2.2.2.2.2.1, (hb.cell (by show xb < wr.heap.size; omega)).trans hS.2.2.2.2.2.2.2.2.2.2.2.1, (hb.cell (by show xb < wr.heap.size; omega)).trans hS.2.2.2.2.2.2.2.2.2.2.2.2.1, (hb.cell (by show xb < wr.heap.size; omega)).trans hS.2.2.2.2.2.2.2.2.2.2.2.2.2.1, (hb.cell (by show xb < wr.heap.size; omega)).trans hS.2.2.2.2.2.2.2.2.2.2.2.2.2.2.1, (hb.cell (by show xb < wr.heap.size; omega)).trans hS.2.2.2.2.2.2.2.2.2.2.2.2.2.2.2⟩
        have HB2 : Hid (Below w5.heap.size w5 w2) := HBr.out.trans ((⟨hb.os, hb.tape, hb.output, hb.size, hb.block⟩ : Below wr.heap.size wr w2).mono (by omega))
        refine hK.out _ _ hS2 (fun hHeld2 => ?_)
        clear hK K
        (try simp only [Act.put, List.setIfInBounds_toArray, List.set_cons_zero, List.set_cons_succ])
        refine wpAnyH_take (i := 16) (oi := { dst := some 70, op := .unOp .not 4 (.tmp 69), type := 4, pos := "laws.go:772", after := #[⟨15, .data⟩, ⟨5, .guard⟩], guard := some (5, true) }) (v := ?_) rfl (by kernel_rfl) (by kernel_rfl) (by kernel_rfl) (fun _ _ _ h => h) (Or.inl ⟨by rfl, ?_⟩) (by assumption) ?_
        rotate_left
        · intro w hSw
          (try dsimp only at hSw)
          first | (go_simp; done) | (go_simp; with_reducible rfl)
        (try simp only [Act.put, List.setIfInBounds_toArray, List.set_cons_zero, List.set_cons_succ])
        refine wpAnyH_take (i := 17) (oi := { dst := some 71, op := .pick (.tmp 59) (.tmp 70) (.const (Value.bool false)), type := 4, pos := "laws.go:772", after := #[⟨5, .data⟩, ⟨16, .data⟩, ⟨2, .guard⟩], guard := some (2, false) }) (v := ?_) rfl (by kernel_rfl) (by kernel_rfl) (by kernel_rfl) (fun _ _ _ h => h) (Or.inl ⟨by rfl, ?_⟩) (by assumption) ?_
        rotate_left
        · intro w hSw
          (try dsimp only at hSw)
          first | (go_simp; done) | (go_simp; with_reducible rfl)
        (try simp only [Act.put, List.setIfInBounds_toArray, List.set_cons_zero, List.set_cons_succ])
        refine wpAnyH_take (i := 18) (oi := { dst := some 72, op := .pick (.tmp 56) (.const (Value.bool true)) (.tmp 71), type := 4, pos := "laws.go:772", after := #[⟨2, .data⟩, ⟨17, .data⟩], guard := none }) (v := ?_) rfl (by kernel_rfl) (by kernel_rfl) (by kernel_rfl) (fun _ _ _ h => h) (Or.inl ⟨by rfl, ?_⟩) (by assumption) ?_
        rotate_left
        · intro w hSw
          (try dsimp only at hSw)
          first | (go_simp; done) | (go_simp; with_reducible rfl)
        (try simp only [Act.put, List.setIfInBounds_toArray, List.set_cons_zero, List.set_cons_succ])
        refine wpAnyH_done (by kernel_rfl) ?_ _
        go_wp2
        go_roundw
        case rel => exact ⟨q + 1, by omega, by go_num, HB2⟩
        case measure => simp [intOf]; omega
      have hri : (r : Int) < (l.length : Int) := by omega
      have hr0 : decide ((r : Int) < 0) = false := decide_eq_false (by omega)
      have hr00 : ¬ ((r : Int) < 0) := by omega
      obtain ⟨ab, ao, rfl, hab, hao⟩ := HOr.out.2 r hrl
      have hao : OpAt wr ab (ao + r * 8) (atOp l r) := hao
      have HStep : Hid (inF l x (r + 1) = (inF l x r || decide (atOp l r = x))) := rfl
      generalize inF l x r = b at HStep ⊢
      generalize atOp l r = y at hao HStep
      obtain ⟨d0, d1, d2, d3, d4, d5, d6, d7⟩ := hao
      obtain ⟨e0, e1, e2, e3, e4, e5, e6, e7⟩ := hxo
      cases b
      rotate_left
      · have HE : Hid (inF l x (r + 1) = true) := HStep.out.trans (Bool.true_or _)
        clear d0 d1 d2 d3 d4 d5 d6 d7 e0 e1 e2 e3 e4 e5 e6 e7
        go_wp2_with fail
        refine wp_region_held_drew (S := fun w' => True) (by kernel_rfl) trivial (fun hHeld => ?_)
        refine wpAnyH_take (i := 0) (oi := { dst := some 41, op := .move (.tmp 6), type := 4, pos := "laws.go:770", after := #[], guard := none }) (v := ?_) rfl (by kernel_rfl) (by kernel_rfl) (by kernel_rfl) (fun _ _ _ h => h) (Or.inl ⟨by rfl, ?_⟩) (by assumption) ?_
        rotate_left
        · intro w hSw
          (try dsimp only at hSw)
          first | (go_simp; done) | (go_simp; with_reducible rfl)
        (try simp only [Act.put, List.setIfInBounds_toArray, List.set_cons_zero, List.set_cons_succ])
        refine wpAnyH_take (i := 1) (oi := { dst := some 42, op := .move (.tmp 41), type := 4, pos := "laws.go:770", after := #[⟨0, .data⟩], guard := none }) (v := ?_) rfl (by kernel_rfl) (by kernel_rfl) (by kernel_rfl) (fun _ _ _ h => h) (Or.inl ⟨by rfl, ?_⟩) (by assumption) ?_
        rotate_left
        · intro w hSw
          (try dsimp only at hSw)
          first | (go_simp; done) | (go_simp; with_reducible rfl)
        (try simp only [Act.put, List.setIfInBounds_toArray, List.set_cons_zero, List.set_cons_succ])
        refine wpAnyH_take (i := 2) (oi := { dst := some 43, op := .fieldAddr 27 (.tmp 3) 1, type := 0, pos := "laws.go:770", after := #[⟨1, .guard⟩], guard := some (1, false) }) (v := undef) rfl (by kernel_rfl) (by kernel_rfl) (by kernel_rfl) (fun _ _ _ h => h) (Or.inr ⟨by rfl, rfl⟩) (by assumption) ?_
        (try simp only [Act.put, List.setIfInBounds_toArray, List.set_cons_zero, List.set_cons_succ])
        refine wpAnyH_take (i := 3) (oi := { dst := some 44, op := .load 25 (.tmp 43), type := 25, pos := "laws.go:770", after := #[⟨2, .data⟩, ⟨1, .guard⟩], guard := some (1, false) }) (v := undef) rfl (by kernel_rfl) (by kernel_rfl) (by kernel_rfl) (fun _ _ _ h => h) (Or.inr ⟨by rfl, rfl⟩) (by assumption) ?_
        (try simp only [Act.put, List.setIfInBounds_toArray, List.set_cons_zero, List.set_cons_succ])
        refine wpAnyH_take (i := 4) (oi := { dst := some 45, op := .move (.tmp 7), type := 3, pos := "laws.go:770", after := #[⟨1, .guard⟩], guard := some (1, false) }) (v := undef) rfl (by kernel_rfl) (by kernel_rfl) (by kernel_rfl) (fun _ _ _ h => h) (Or.inr ⟨by rfl, rfl⟩) (by assumption) ?_
        (try simp only [Act.put, List.setIfInBounds_toArray, List.set_cons_zero, List.set_cons_succ])
        refine wpAnyH_take (i := 5) (oi := { dst := some 46, op := .indexAddr 25 (.tmp 44) (.tmp 45), type := 0, pos := "laws.go:770", after := #[⟨3, .data⟩, ⟨4, .data⟩, ⟨1, .guard⟩], guard := some (1, false) }) (v := undef) rfl (by kernel_rfl) (by kernel_rfl) (by kernel_rfl) (fun _ _ _ h => h) (Or.inr ⟨by rfl, rfl⟩) (by assumption) ?_
        (try simp only [Act.put, List.setIfInBounds_toArray, List.set_cons_zero, List.set_cons_succ])
        refine wpAnyH_take (i := 6) (oi := { dst := some 47, op := .load 34 (.tmp 46), type := 34, pos := "laws.go:770", after := #[⟨5, .data⟩, ⟨1, .guard⟩], guard := some (1, false) }) (v := undef) rfl (by kernel_rfl) (by kernel_rfl) (by kernel_rfl) (fun _ _ _ h => h) (Or.inr ⟨by rfl, rfl⟩) (by assumption) ?_
        (try simp only [Act.put, List.setIfInBounds_toArray, List.set_cons_zero, List.set_cons_succ])
        refine wpAnyH_take (i := 7) (oi := { dst := some 48, op := .move (.tmp 4), type := 25, pos := "laws.go:770", after := #[⟨1, .guard⟩], guard := some (1, false) }) (v := undef) rfl (by kernel_rfl) (by kernel_rfl) (by kernel_rfl) (fun _ _ _ h => h) (Or.inr ⟨by rfl, rfl⟩) (by assumption) ?_
        (try simp only [Act.put, List.setIfInBounds_toArray, List.set_cons_zero, List.set_cons_succ])
        refine wpAnyH_take (i := 8) (oi := { dst := some 49, op := .move (.tmp 5), type := 3, pos := "laws.go:770", after := #[⟨1, .guard⟩], guard := some (1, false) }) (v := undef) rfl (by kernel_rfl) (by kernel_rfl) (by kernel_rfl) (fun _ _ _ h => h) (Or.inr ⟨by rfl, rfl⟩) (by assumption) ?_
        (try simp only [Act.put, List.setIfInBounds_toArray, List.set_cons_zero, List.set_cons_succ])
        refine wpAnyH_take (i := 9) (oi := { dst := some 50, op := .indexAddr 25 (.tmp 48) (.tmp 49), type := 0, pos := "laws.go:770", after := #[⟨7, .data⟩, ⟨8, .data⟩, ⟨1, .guard⟩], guard := some (1, false) }) (v := undef) rfl (by kernel_rfl) (by kernel_rfl) (by kernel_rfl) (fun _ _ _ h => h) (Or.inr ⟨by rfl, rfl⟩) (by assumption) ?_
        (try simp only [Act.put, List.setIfInBounds_toArray, List.set_cons_zero, List.set_cons_succ])
        refine wpAnyH_take (i := 10) (oi := { dst := some 51, op := .load 34 (.tmp 50), type := 34, pos := "laws.go:770", after := #[⟨9, .data⟩, ⟨1, .guard⟩], guard := some (1, false) }) (v := undef) rfl (by kernel_rfl) (by kernel_rfl) (by kernel_rfl) (fun _ _ _ h => h) (Or.inr ⟨by rfl, rfl⟩) (by assumption) ?_
        (try simp only [Act.put, List.setIfInBounds_toArray, List.set_cons_zero, List.set_cons_succ])
        refine wpAnyH_take (i := 11) (oi := { dst := some 52, op := .binOp .eql 34 (.tmp 47) (.tmp 51) 34, type := 4, pos := "laws.go:770", after := #[⟨6, .data⟩, ⟨10, .data⟩, ⟨1, .guard⟩], guard := some (1, false) }) (v := undef) rfl (by kernel_rfl) (by kernel_rfl) (by kernel_rfl) (fun _ _ _ h => h) (Or.inr ⟨by rfl, rfl⟩) (by assumption) ?_
        (try simp only [Act.put, List.setIfInBounds_toArray, List.set_cons_zero, List.set_cons_succ])
        refine wpAnyH_take (i := 12) (oi := { dst := some 53, op := .pick (.tmp 42) (.const (Value.bool true)) (.tmp 52), type := 4, pos := "laws.go:770", after := #[⟨1, .data⟩, ⟨11, .data⟩], guard := none }) (v := ?_) rfl (by kernel_rfl) (by kernel_rfl) (by kernel_rfl) (fun _ _ _ h => h) (Or.inl ⟨by rfl, ?_⟩) (by assumption) ?_
        rotate_left
        · intro w hSw
          (try dsimp only at hSw)
          first | (go_simp; done) | (go_simp; with_reducible rfl)
        (try simp only [Act.put, List.setIfInBounds_toArray, List.set_cons_zero, List.set_cons_succ])
        refine wpAnyH_take (i := 13) (oi := { dst := some 6, op := .assign (.tmp 53), type := 4, pos := "laws.go:770", after := #[⟨12, .data⟩, ⟨1, .chain⟩, ⟨0, .phase⟩, ⟨1, .phase⟩, ⟨2, .phase⟩, ⟨3, .phase⟩, ⟨4, .phase⟩, ⟨5, .phase⟩, ⟨6, .phase⟩, ⟨7, .phase⟩, ⟨8, .phase⟩, ⟨9, .phase⟩, ⟨10, .phase⟩, ⟨11, .phase⟩, ⟨12, .phase⟩], guard := none }) (v := ?_) rfl (by kernel_rfl) (by kernel_rfl) (by kernel_rfl) (fun _ _ _ h => h) (Or.inl ⟨by rfl, ?_⟩) (by assumption) ?_
        rotate_left
        · intro w hSw
          (try dsimp only at hSw)
          first | (go_simp; done) | (go_simp; with_reducible rfl)
        (try simp only [Act.put, List.setIfInBounds_toArray, List.set_cons_zero, List.set_cons_succ])
        refine wpAnyH_done (by kernel_rfl) ?_ _
        go_wp2
        go_roundw
        case rel => exact ⟨r + 1, by omega, by go_num, by rw [HE.out], HBr.out.drew⟩
        case measure => simp [intOf]; omega
      by_cases e : y = x
      · subst e
        have HE : Hid (inF l y (r + 1) = true) := HStep.out.trans (by rw [decide_eq_true rfl]; rfl)
        have hS : wr.drew.cell? ⟨w0.heap.size, 1, none⟩ = some (.slice (some ⟨ab, ao, none⟩) l.length aoc) ∧ wr.drew.cell? ⟨ab, ao + r * 8, none⟩ = some (.int .i64 y.dev) ∧ wr.drew.cell? ⟨ab, ao + r * 8 + 1, none⟩ = some (.int .i64 y.seq) ∧ wr.drew.cell? ⟨ab, ao + r * 8 + 2, none⟩ = some (.int .i64 y.stamp) ∧ wr.drew.cell? ⟨ab, ao + r * 8 + 3, none⟩ = some (.int .i64 y.kind) ∧ wr.drew.cell? ⟨ab, ao + r * 8 + 4, none⟩ = some (.string y.item) ∧ wr.drew.cell? ⟨ab, ao + r * 8 + 5, none⟩ = some (.int .i64 y.qty) ∧ wr.drew.cell? ⟨ab, ao + r * 8 + 6, none⟩ = some (.int .i64 y.level) ∧ wr.drew.cell? ⟨ab, ao + r * 8 + 7, none⟩ = some (.int .i64 y.undos) ∧ wr.drew.cell? ⟨xb, xo + q * 8, none⟩ = some (.int .i64 y.dev) ∧ wr.drew.cell? ⟨xb, xo + q * 8 + 1, none⟩ = some (.int .i64 y.seq) ∧ wr.drew.cell? ⟨xb, xo + q * 8 + 2, none⟩ = some (.int .i64 y.stamp) ∧ wr.drew.cell? ⟨xb, xo + q * 8 + 3, none⟩ = some (.int .i64 y.kind) ∧ wr.drew.cell? ⟨xb, xo + q * 8 + 4, none⟩ = some (.string y.item) ∧ wr.drew.cell? ⟨xb, xo + q * 8 + 5, none⟩ = some (.int .i64 y.qty) ∧ wr.drew.cell? ⟨xb, xo + q * 8 + 6, none⟩ = some (.int .i64 y.level) ∧ wr.drew.cell? ⟨xb, xo + q * 8 + 7, none⟩ = some (.int .i64 y.undos) := ⟨ca1, d0, d1, d2, d3, d4, d5, d6, d7, e0, e1, e2, e3, e4, e5, e6, e7⟩
        go_wp2_with fail
        refine wp_region_held_drew (S := fun w' => w'.cell? ⟨w0.heap.size, 1, none⟩ = some (.slice (some ⟨ab, ao, none⟩) l.length aoc) ∧ w'.cell? ⟨ab, ao + r * 8, none⟩ = some (.int .i64 y.dev) ∧ w'.cell? ⟨ab, ao + r * 8 + 1, none⟩ = some (.int .i64 y.seq) ∧ w'.cell? ⟨ab, ao + r * 8 + 2, none⟩ = some (.int .i64 y.stamp) ∧ w'.cell? ⟨ab, ao + r * 8 + 3, none⟩ = some (.int .i64 y.kind) ∧ w'.cell? ⟨ab, ao + r * 8 + 4, none⟩ = some (.string y.item) ∧ w'.cell? ⟨ab, ao + r * 8 + 5, none⟩ = some (.int .i64 y.qty) ∧ w'.cell? ⟨ab, ao + r * 8 + 6, none⟩ = some (.int .i64 y.level) ∧ w'.cell? ⟨ab, ao + r * 8 + 7, none⟩ = some (.int .i64 y.undos) ∧ w'.cell? ⟨xb, xo + q * 8, none⟩ = some (.int .i64 y.dev) ∧ w'.cell? ⟨xb, xo + q * 8 + 1, none⟩ = some (.int .i64 y.seq) ∧ w'.cell? ⟨xb, xo + q * 8 + 2, none⟩ = some (.int .i64 y.stamp) ∧ w'.cell? ⟨xb, xo + q * 8 + 3, none⟩ = some (.int .i64 y.kind) ∧ w'.cell? ⟨xb, xo + q * 8 + 4, none⟩ = some (.string y.item) ∧ w'.cell? ⟨xb, xo + q * 8 + 5, none⟩ = some (.int .i64 y.qty) ∧ w'.cell? ⟨xb, xo + q * 8 + 6, none⟩ = some (.int .i64 y.level) ∧ w'.cell? ⟨xb, xo + q * 8 + 7, none⟩ = some (.int .i64 y.undos)) (by kernel_rfl) hS (fun hHeld => ?_)
        refine wpAnyH_take (i := 0) (oi := { dst := some 41, op := .move (.tmp 6), type := 4, pos := "laws.go:770", after := #[], guard := none }) (v := ?_) rfl (by kernel_rfl) (by kernel_rfl) (by kernel_rfl) (fun _ _ _ h => h) (Or.inl ⟨by rfl, ?_⟩) (by assumption) ?_
        rotate_left
        · intro w hSw
          (try dsimp only at hSw)
          first | (go_simp; done) | (go_simp; with_reducible rfl)
        (try simp only [Act.put, List.setIfInBounds_toArray, List.set_cons_zero, List.set_cons_succ])
        refine wpAnyH_take (i := 1) (oi := { dst := some 42, op := .move (.tmp 41), type := 4, pos := "laws.go:770", after := #[⟨0, .data⟩], guard := none }) (v := ?_) rfl (by kernel_rfl) (by kernel_rfl) (by kernel_rfl) (fun _ _ _ h => h) (Or.inl ⟨by rfl, ?_⟩) (by assumption) ?_
        rotate_left
        · intro w hSw
          (try dsimp only at hSw)
          first | (go_simp; done) | (go_simp; with_reducible rfl)
        (try simp only [Act.put, List.setIfInBounds_toArray, List.set_cons_zero, List.set_cons_succ])
        refine wpAnyH_take (i := 2) (oi := { dst := some 43, op := .fieldAddr 27 (.tmp 3) 1, type := 0, pos := "laws.go:770", after := #[⟨1, .guard⟩], guard := some (1, false) }) (v := ?_) rfl (by kernel_rfl) (by kernel_rfl) (by kernel_rfl) (fun _ _ _ h => h) (Or.inl ⟨by rfl, ?_⟩) (by assumption) ?_
        rotate_left
        · intro w hSw
          (try dsimp only at hSw)
          first | (go_simp; done) | (go_simp; with_reducible rfl)
        (try simp only [Act.put, List.setIfInBounds_toArray, List.set_cons_zero, List.set_cons_succ])
        refine wpAnyH_take (i := 3) (oi := { dst := some 44, op := .load 25 (.tmp 43), type := 25, pos := "laws.go:770", after := #[⟨2, .data⟩, ⟨1, .guard⟩], guard := some (1, false) }) (v := ?_) rfl (by kernel_rfl) (by kernel_rfl) (by kernel_rfl) (fun _ _ _ h => h) (Or.inl ⟨by rfl, ?_⟩) (by assumption) ?_
        rotate_left
        · intro w hSw
          (try dsimp only at hSw)
          first | (go_simp; done) | (go_simp; with_reducible rfl)
        (try simp only [Act.put, List.setIfInBounds_toArray, List.set_cons_zero, List.set_cons_succ])
        refine wpAnyH_take (i := 4) (oi := { dst := some 45, op := .move (.tmp 7), type := 3, pos := "laws.go:770", after := #[⟨1, .guard⟩], guard := some (1, false) }) (v := ?_) rfl (by kernel_rfl) (by kernel_rfl) (by kernel_rfl) (fun _ _ _ h => h) (Or.inl ⟨by rfl, ?_⟩) (by assumption) ?_
        rotate_left
        · intro w hSw
          (try dsimp only at hSw)
          first | (go_simp; done) | (go_simp; with_reducible rfl)
        (try simp only [Act.put, List.setIfInBounds_toArray, List.set_cons_zero, List.set_cons_succ])
        refine wpAnyH_take (i := 5) (oi := { dst := some 46, op := .indexAddr 25 (.tmp 44) (.tmp 45), type := 0, pos := "laws.go:770", after := #[⟨3, .data⟩, ⟨4, .data⟩, ⟨1, .guard⟩], guard := some (1, false) }) (v := ?_) rfl (by kernel_rfl) (by kernel_rfl) (by kernel_rfl) (fun _ _ _ h => h) (Or.inl ⟨by rfl, ?_⟩) (by assumption) ?_
        rotate_left
        · intro w hSw
          (try dsimp only at hSw)
          first | (go_simp; done) | (go_simp; with_reducible rfl)
        (try simp only [Act.put, List.setIfInBounds_toArray, List.set_cons_zero, List.set_cons_succ])
        refine wpAnyH_take (i := 6) (oi := { dst := some 47, op := .load 34 (.tmp 46), type := 34, pos := "laws.go:770", after := #[⟨5, .data⟩, ⟨1, .guard⟩], guard := some (1, false) }) (v := ?_) rfl (by kernel_rfl) (by kernel_rfl) (by kernel_rfl) (fun _ _ _ h => h) (Or.inl ⟨by rfl, ?_⟩) (by assumption) ?_
        rotate_left
        · intro w hSw
          (try dsimp only at hSw)
          first | (go_simp; done) | (go_simp; with_reducible rfl)
        (try simp only [Act.put, List.setIfInBounds_toArray, List.set_cons_zero, List.set_cons_succ])
        refine wpAnyH_take (i := 7) (oi := { dst := some 48, op := .move (.tmp 4), type := 25, pos := "laws.go:770", after := #[⟨1, .guard⟩], guard := some (1, false) }) (v := ?_) rfl (by kernel_rfl) (by kernel_rfl) (by kernel_rfl) (fun _ _ _ h => h) (Or.inl ⟨by rfl, ?_⟩) (by assumption) ?_
        rotate_left
        · intro w hSw
          (try dsimp only at hSw)
          first | (go_simp; done) | (go_simp; with_reducible rfl)
        (try simp only [Act.put, List.setIfInBounds_toArray, List.set_cons_zero, List.set_cons_succ])
        refine wpAnyH_take (i := 8) (oi := { dst := some 49, op := .move (.tmp 5), type := 3, pos := "laws.go:770", after := #[⟨1, .guard⟩], guard := some (1, false) }) (v := ?_) rfl (by kernel_rfl) (by kernel_rfl) (by kernel_rfl) (fun _ _ _ h => h) (Or.inl ⟨by rfl, ?_⟩) (by assumption) ?_
        rotate_left
        · intro w hSw
          (try dsimp only at hSw)
          first | (go_simp; done) | (go_simp; with_reducible rfl)
        (try simp only [Act.put, List.setIfInBounds_toArray, List.set_cons_zero, List.set_cons_succ])
        refine wpAnyH_take (i := 9) (oi := { dst := some 50, op := .indexAddr 25 (.tmp 48) (.tmp 49), type := 0, pos := "laws.go:770", after := #[⟨7, .data⟩, ⟨8, .data⟩, ⟨1, .guard⟩], guard := some (1, false) }) (v := ?_) rfl (by kernel_rfl) (by kernel_rfl) (by kernel_rfl) (fun _ _ _ h => h) (Or.inl ⟨by rfl, ?_⟩) (by assumption) ?_
        rotate_left
        · intro w hSw
          (try dsimp only at hSw)
          first | (go_simp; done) | (go_simp; with_reducible rfl)
        (try simp only [Act.put, List.setIfInBounds_toArray, List.set_cons_zero, List.set_cons_succ])
        refine wpAnyH_take (i := 10) (oi := { dst := some 51, op := .load 34 (.tmp 50), type := 34, pos := "laws.go:770", after := #[⟨9, .data⟩, ⟨1, .guard⟩], guard := some (1, false) }) (v := ?_) rfl (by kernel_rfl) (by kernel_rfl) (by kernel_rfl) (fun _ _ _ h => h) (Or.inl ⟨by rfl, ?_⟩) (by assumption) ?_
        rotate_left
        · intro w hSw
          (try dsimp only at hSw)
          first | (go_simp; done) | (go_simp; with_reducible rfl)
        (try simp only [Act.put, List.setIfInBounds_toArray, List.set_cons_zero, List.set_cons_succ])
        refine wpAnyH_take (i := 11) (oi := { dst := some 52, op := .binOp .eql 34 (.tmp 47) (.tmp 51) 34, type := 4, pos := "laws.go:770", after := #[⟨6, .data⟩, ⟨10, .data⟩, ⟨1, .guard⟩], guard := some (1, false) }) (v := ?_) rfl (by kernel_rfl) (by kernel_rfl) (by kernel_rfl) (fun _ _ _ h => h) (Or.inl ⟨by rfl, ?_⟩) (by assumption) ?_
        rotate_left
        · intro w hSw
          (try dsimp only at hSw)
          first | (go_simp; done) | (go_simp; with_reducible rfl)
        (try simp only [Act.put, List.setIfInBounds_toArray, List.set_cons_zero, List.set_cons_succ])
        refine wpAnyH_take (i := 12) (oi := { dst := some 53, op := .pick (.tmp 42) (.const (Value.bool true)) (.tmp 52), type := 4, pos := "laws.go:770", after := #[⟨1, .data⟩, ⟨11, .data⟩], guard := none }) (v := ?_) rfl (by kernel_rfl) (by kernel_rfl) (by kernel_rfl) (fun _ _ _ h => h) (Or.inl ⟨by rfl, ?_⟩) (by assumption) ?_
        rotate_left
        · intro w hSw
          (try dsimp only at hSw)
          first | (go_simp; done) | (go_simp; with_reducible rfl)
        (try simp only [Act.put, List.setIfInBounds_toArray, List.set_cons_zero, List.set_cons_succ])
        refine wpAnyH_take (i := 13) (oi := { dst := some 6, op := .assign (.tmp 53), type := 4, pos := "laws.go:770", after := #[⟨12, .data⟩, ⟨1, .chain⟩, ⟨0, .phase⟩, ⟨1, .phase⟩, ⟨2, .phase⟩, ⟨3, .phase⟩, ⟨4, .phase⟩, ⟨5, .phase⟩, ⟨6, .phase⟩, ⟨7, .phase⟩, ⟨8, .phase⟩, ⟨9, .phase⟩, ⟨10, .phase⟩, ⟨11, .phase⟩, ⟨12, .phase⟩], guard := none }) (v := ?_) rfl (by kernel_rfl) (by kernel_rfl) (by kernel_rfl) (fun _ _ _ h => h) (Or.inl ⟨by rfl, ?_⟩) (by assumption) ?_
        rotate_left
        · intro w hSw
          (try dsimp only at hSw)
          first | (go_simp; done) | (go_simp; with_reducible rfl)
        (try simp only [Act.put, List.setIfInBounds_toArray, List.set_cons_zero, List.set_cons_succ])
        refine wpAnyH_done (by kernel_rfl) ?_ _
        clear hS hHeld d0 d1 d2 d3 d4 d5 d6 d7 e0 e1 e2 e3 e4 e5 e6 e7
        go_wp2
        go_roundw
        case rel => exact ⟨r + 1, by omega, by go_num, by rw [HE.out], HBr.out.drew⟩
        case measure => simp [intOf]; omega
      have HF := Lib.hid (full_no e)
      have HE : Hid (inF l x (r + 1) = false) := HStep.out.trans (by rw [decide_eq_false e]; rfl)
      clear e
      have hS : wr.drew.cell? ⟨w0.heap.size, 1, none⟩ = some (.slice (some ⟨ab, ao, none⟩) l.length aoc) ∧ wr.drew.cell? ⟨ab, ao + r * 8, none⟩ = some (.int .i64 y.dev) ∧ wr.drew.cell? ⟨ab, ao + r * 8 + 1, none⟩ = some (.int .i64 y.seq) ∧ wr.drew.cell? ⟨ab, ao + r * 8 + 2, none⟩ = some (.int .i64 y.stamp) ∧ wr.drew.cell? ⟨ab, ao + r * 8 + 3, none⟩ = some (.int .i64 y.kind) ∧ wr.drew.cell? ⟨ab, ao + r * 8 + 4, none⟩ = some (.string y.item) ∧ wr.drew.cell? ⟨ab, ao + r * 8 + 5, none⟩ = some (.int .i64 y.qty) ∧ wr.drew.cell? ⟨ab, ao + r * 8 + 6, none⟩ = some (.int .i64 y.level) ∧ wr.drew.cell? ⟨ab, ao + r * 8 + 7, none⟩ = some (.int .i64 y.undos) ∧ wr.drew.cell? ⟨xb, xo + q * 8, none⟩ = some (.int .i64 x.dev) ∧ wr.drew.cell? ⟨xb, xo + q * 8 + 1, none⟩ = some (.int .i64 x.seq) ∧ wr.drew.cell? ⟨xb, xo + q * 8 + 2, none⟩ = some (.int .i64 x.stamp) ∧ wr.drew.cell? ⟨xb, xo + q * 8 + 3, none⟩ = some (.int .i64 x.kind) ∧ wr.drew.cell? ⟨xb, xo + q * 8 + 4, none⟩ = some (.string x.item) ∧ wr.drew.cell? ⟨xb, xo + q * 8 + 5, none⟩ = some (.int .i64 x.qty) ∧ wr.drew.cell? ⟨xb, xo + q * 8 + 6, none⟩ = some (.int .i64 x.level) ∧ wr.drew.cell? ⟨xb, xo + q * 8 + 7, none⟩ = some (.int .i64 x.undos) := ⟨ca1, d0, d1, d2, d3, d4, d5, d6, d7, e0, e1, e2, e3, e4, e5, e6, e7⟩
      go_wp2_with fail
      refine wp_region_held_drew (S := fun w' => w'.cell? ⟨w0.heap.size, 1, none⟩ = some (.slice (some ⟨ab, ao, none⟩) l.length aoc) ∧ w'.cell? ⟨ab, ao + r * 8, none⟩ = some (.int .i64 y.dev) ∧ w'.cell? ⟨ab, ao + r * 8 + 1, none⟩ = some (.int .i64 y.seq) ∧ w'.cell? ⟨ab, ao + r * 8 + 2, none⟩ = some (.int .i64 y.stamp) ∧ w'.cell? ⟨ab, ao + r * 8 + 3, none⟩ = some (.int .i64 y.kind) ∧ w'.cell? ⟨ab, ao + r * 8 + 4, none⟩ = some (.string y.item) ∧ w'.cell? ⟨ab, ao + r * 8 + 5, none⟩ = some (.int .i64 y.qty) ∧ w'.cell? ⟨ab, ao + r * 8 + 6, none⟩ = some (.int .i64 y.level) ∧ w'.cell? ⟨ab, ao + r * 8 + 7, none⟩ = some (.int .i64 y.undos) ∧ w'.cell? ⟨xb, xo + q * 8, none⟩ = some (.int .i64 x.dev) ∧ w'.cell? ⟨xb, xo + q * 8 + 1, none⟩ = some (.int .i64 x.seq) ∧ w'.cell? ⟨xb, xo + q * 8 + 2, none⟩ = some (.int .i64 x.stamp) ∧ w'.cell? ⟨xb, xo + q * 8 + 3, none⟩ = some (.int .i64 x.kind) ∧ w'.cell? ⟨xb, xo + q * 8 + 4, none⟩ = some (.string x.item) ∧ w'.cell? ⟨xb, xo + q * 8 + 5, none⟩ = some (.int .i64 x.qty) ∧ w'.cell? ⟨xb, xo + q * 8 + 6, none⟩ = some (.int .i64 x.level) ∧ w'.cell? ⟨xb, xo + q * 8 + 7, none⟩ = some (.int .i64 x.undos)) (by kernel_rfl) hS (fun hHeld => ?_)
      refine wpAnyH_take (i := 0) (oi := { dst := some 41, op := .move (.tmp 6), type := 4, pos := "laws.go:770", after := #[], guard := none }) (v := ?_) rfl (by kernel_rfl) (by kernel_rfl) (by kernel_rfl) (fun _ _ _ h => h) (Or.inl ⟨by rfl, ?_⟩) (by assumption) ?_
      rotate_left
      · intro w hSw
        (try dsimp only at hSw)
        first | (go_simp; done) | (go_simp; with_reducible rfl)
      (try simp only [Act.put, List.setIfInBounds_toArray, List.set_cons_zero, List.set_cons_succ])
      refine wpAnyH_take (i := 1) (oi := { dst := some 42, op := .move (.tmp 41), type := 4, pos := "laws.go:770", after := #[⟨0, .data⟩], guard := none }) (v := ?_) rfl (by kernel_rfl) (by kernel_rfl) (by kernel_rfl) (fun _ _ _ h => h) (Or.inl ⟨by rfl, ?_⟩) (by assumption) ?_
      rotate_left
      · intro w hSw
        (try dsimp only at hSw)
        first | (go_simp; done) | (go_simp; with_reducible rfl)
      (try simp only [Act.put, List.setIfInBounds_toArray, List.set_cons_zero, List.set_cons_succ])
      refine wpAnyH_take (i := 2) (oi := { dst := some 43, op := .fieldAddr 27 (.tmp 3) 1, type := 0, pos := "laws.go:770", after := #[⟨1, .guard⟩], guard := some (1, false) }) (v := ?_) rfl (by kernel_rfl) (by kernel_rfl) (by kernel_rfl) (fun _ _ _ h => h) (Or.inl ⟨by rfl, ?_⟩) (by assumption) ?_
      rotate_left
      · intro w hSw
        (try dsimp only at hSw)
        first | (go_simp; done) | (go_simp; with_reducible rfl)
      (try simp only [Act.put, List.setIfInBounds_toArray, List.set_cons_zero, List.set_cons_succ])
      refine wpAnyH_take (i := 3) (oi := { dst := some 44, op := .load 25 (.tmp 43), type := 25, pos := "laws.go:770", after := #[⟨2, .data⟩, ⟨1, .guard⟩], guard := some (1, false) }) (v := ?_) rfl (by kernel_rfl) (by kernel_rfl) (by kernel_rfl) (fun _ _ _ h => h) (Or.inl ⟨by rfl, ?_⟩) (by assumption) ?_
      rotate_left
      · intro w hSw
        (try dsimp only at hSw)
        first | (go_simp; done) | (go_simp; with_reducible rfl)
      (try simp only [Act.put, List.setIfInBounds_toArray, List.set_cons_zero, List.set_cons_succ])
      refine wpAnyH_take (i := 4) (oi := { dst := some 45, op := .move (.tmp 7), type := 3, pos := "laws.go:770", after := #[⟨1, .guard⟩], guard := some (1, false) }) (v := ?_) rfl (by kernel_rfl) (by kernel_rfl) (by kernel_rfl) (fun _ _ _ h => h) (Or.inl ⟨by rfl, ?_⟩) (by assumption) ?_
      rotate_left
      · intro w hSw
        (try dsimp only at hSw)
        first | (go_simp; done) | (go_simp; with_reducible rfl)
      (try simp only [Act.put, List.setIfInBounds_toArray, List.set_cons_zero, List.set_cons_succ])
      refine wpAnyH_take (i := 5) (oi := { dst := some 46, op := .indexAddr 25 (.tmp 44) (.tmp 45), type := 0, pos := "laws.go:770", after := #[⟨3, .data⟩, ⟨4, .data⟩, ⟨1, .guard⟩], guard := some (1, false) }) (v := ?_) rfl (by kernel_rfl) (by kernel_rfl) (by kernel_rfl) (fun _ _ _ h => h) (Or.inl ⟨by rfl, ?_⟩) (by assumption) ?_
      rotate_left
      · intro w hSw
        (try dsimp only at hSw)
        first | (go_simp; done) | (go_simp; with_reducible rfl)
      (try simp only [Act.put, List.setIfInBounds_toArray, List.set_cons_zero, List.set_cons_succ])
      refine wpAnyH_take (i := 6) (oi := { dst := some 47, op := .load 34 (.tmp 46), type := 34, pos := "laws.go:770", after := #[⟨5, .data⟩, ⟨1, .guard⟩], guard := some (1, false) }) (v := ?_) rfl (by kernel_rfl) (by kernel_rfl) (by kernel_rfl) (fun _ _ _ h => h) (Or.inl ⟨by rfl, ?_⟩) (by assumption) ?_
      rotate_left
      · intro w hSw
        (try dsimp only at hSw)
        first | (go_simp; done) | (go_simp; with_reducible rfl)
      (try simp only [Act.put, List.setIfInBounds_toArray, List.set_cons_zero, List.set_cons_succ])
      refine wpAnyH_take (i := 7) (oi := { dst := some 48, op := .move (.tmp 4), type := 25, pos := "laws.go:770", after := #[⟨1, .guard⟩], guard := some (1, false) }) (v := ?_) rfl (by kernel_rfl) (by kernel_rfl) (by kernel_rfl) (fun _ _ _ h => h) (Or.inl ⟨by rfl, ?_⟩) (by assumption) ?_
      rotate_left
      · intro w hSw
        (try dsimp only at hSw)
        first | (go_simp; done) | (go_simp; with_reducible rfl)
      (try simp only [Act.put, List.setIfInBounds_toArray, List.set_cons_zero, List.set_cons_succ])
      refine wpAnyH_take (i := 8) (oi := { dst := some 49, op := .move (.tmp 5), type := 3, pos := "laws.go:770", after := #[⟨1, .guard⟩], guard := some (1, false) }) (v := ?_) rfl (by kernel_rfl) (by kernel_rfl) (by kernel_rfl) (fun _ _ _ h => h) (Or.inl ⟨by rfl, ?_⟩) (by assumption) ?_
      rotate_left
      · intro w hSw
        (try dsimp only at hSw)
        first | (go_simp; done) | (go_simp; with_reducible rfl)
      (try simp only [Act.put, List.setIfInBounds_toArray, List.set_cons_zero, List.set_cons_succ])
      refine wpAnyH_take (i := 9) (oi := { dst := some 50, op := .indexAddr 25 (.tmp 48) (.tmp 49), type := 0, pos := "laws.go:770", after := #[⟨7, .data⟩, ⟨8, .data⟩, ⟨1, .guard⟩], guard := some (1, false) }) (v := ?_) rfl (by kernel_rfl) (by kernel_rfl) (by kernel_rfl) (fun _ _ _ h => h) (Or.inl ⟨by rfl, ?_⟩) (by assumption) ?_
      rotate_left
      · intro w hSw
        (try dsimp only at hSw)
        first | (go_simp; done) | (go_simp; with_reducible rfl)
      (try simp only [Act.put, List.setIfInBounds_toArray, List.set_cons_zero, List.set_cons_succ])
      refine wpAnyH_take (i := 10) (oi := { dst := some 51, op := .load 34 (.tmp 50), type := 34, pos := "laws.go:770", after := #[⟨9, .data⟩, ⟨1, .guard⟩], guard := some (1, false) }) (v := ?_) rfl (by kernel_rfl) (by kernel_rfl) (by kernel_rfl) (fun _ _ _ h => h) (Or.inl ⟨by rfl, ?_⟩) (by assumption) ?_
      rotate_left
      · intro w hSw
        (try dsimp only at hSw)
        first | (go_simp; done) | (go_simp; with_reducible rfl)
      (try simp only [Act.put, List.setIfInBounds_toArray, List.set_cons_zero, List.set_cons_succ])
      refine wpAnyH_take (i := 11) (oi := { dst := some 52, op := .binOp .eql 34 (.tmp 47) (.tmp 51) 34, type := 4, pos := "laws.go:770", after := #[⟨6, .data⟩, ⟨10, .data⟩, ⟨1, .guard⟩], guard := some (1, false) }) (v := .bool false) rfl (by kernel_rfl) (by kernel_rfl) (by kernel_rfl) (fun _ _ _ h => h) (Or.inl ⟨by rfl, ?_⟩) (by assumption) ?_
      · intro w hSw
        (try dsimp only at hSw)
        obtain ⟨c, c0, c1, c2, c3, c4, c5, c6, c7, g0, g1, g2, g3, g4, g5, g6, g7⟩ := hSw
        go_simp
        intros
        intro hlast
        exact absurd (full_of (a := y) (b := x) (by assumption) (by assumption) (by assumption) (by assumption) (by first | assumption | exact congrArg ByteArray.toList (by assumption)) (by assumption) (by assumption) (by assumption)) (by rw [HF.out]; decide)
      (try simp only [Act.put, List.setIfInBounds_toArray, List.set_cons_zero, List.set_cons_succ])
      refine wpAnyH_take (i := 12) (oi := { dst := some 53, op := .pick (.tmp 42) (.const (Value.bool true)) (.tmp 52), type := 4, pos := "laws.go:770", after := #[⟨1, .data⟩, ⟨11, .data⟩], guard := none }) (v := ?_) rfl (by kernel_rfl) (by kernel_rfl) (by kernel_rfl) (fun _ _ _ h => h) (Or.inl ⟨by rfl, ?_⟩) (by assumption) ?_
      rotate_left
      · intro w hSw
        (try dsimp only at hSw)
        first | (go_simp; done) | (go_simp; with_reducible rfl)
      (try simp only [Act.put, List.setIfInBounds_toArray, List.set_cons_zero, List.set_cons_succ])
      refine wpAnyH_take (i := 13) (oi := { dst := some 6, op := .assign (.tmp 53), type := 4, pos := "laws.go:770", after := #[⟨12, .data⟩, ⟨1, .chain⟩, ⟨0, .phase⟩, ⟨1, .phase⟩, ⟨2, .phase⟩, ⟨3, .phase⟩, ⟨4, .phase⟩, ⟨5, .phase⟩, ⟨6, .phase⟩, ⟨7, .phase⟩, ⟨8, .phase⟩, ⟨9, .phase⟩, ⟨10, .phase⟩, ⟨11, .phase⟩, ⟨12, .phase⟩], guard := none }) (v := ?_) rfl (by kernel_rfl) (by kernel_rfl) (by kernel_rfl) (fun _ _ _ h => h) (Or.inl ⟨by rfl, ?_⟩) (by assumption) ?_
      rotate_left
      · intro w hSw
        (try dsimp only at hSw)
        first | (go_simp; done) | (go_simp; with_reducible rfl)
      (try simp only [Act.put, List.setIfInBounds_toArray, List.set_cons_zero, List.set_cons_succ])
      refine wpAnyH_done (by kernel_rfl) ?_ _
      clear hS hHeld d0 d1 d2 d3 d4 d5 d6 d7 e0 e1 e2 e3 e4 e5 e6 e7
      go_wp2
      go_roundw
      case rel => exact ⟨r + 1, by omega, by go_num, by rw [HE.out], HBr.out.drew⟩
      case measure => simp [intOf]; omega
end Go.Proofs.Ytmceofdknphgkaa
