/- The walk of the law FnHeard. -/
import Derived.Test.YtmceofdknphgkaaHedM
import Derived.Deep.Cut
namespace Go.Proofs.Ytmceofdknphgkaa
open Go.RowKit
set_option linter.unusedVariables false
set_option linter.unusedSimpArgs false

theorem heardB_parts {l : List (List Int)} {dev : Int} {ys : List Int} (h : heardB l dev ys = true) : ackOk l = true ∧ vecOk ys = true ∧ ∃ d : Nat, d < 4 ∧ dev = (d : Int) := by
  unfold heardB at h
  simp only [Bool.and_eq_true] at h
  have h2 := inB_iff.1 h.2.1
  exact ⟨h.1, h.2.2, dev.toNat, by omega, by omega⟩
theorem IRows.mores {w : World} {B B' : Nat} {a : Option Addr} {n : Nat} {l : List (List Int)} (h : IRows w B a n l) (hB : B ≤ B') : IRows w B' a n l :=
  ⟨h.1, fun i hi => by
    obtain ⟨b, off, ai, ci, e, hb, hc, hx⟩ := h.2 i hi
    exact ⟨b, off, ai, ci, e, by omega, hc, hx.more hB⟩⟩
theorem ackNew4 {w w' : World} {e : Ending} (h : AckPost newAcks w e w') : ∃ g c f, e = .returned (.agg #[.slice (some ⟨g, 0, none⟩) 4 c]) ∧ RowsAt w' w.heap.size w'.heap.size g 4 f (rowOf newAcks) ∧ Below w.heap.size w w' := by
  obtain ⟨g, c, rfl, ⟨f, hr⟩, hb⟩ := h
  exact ⟨g, c, f, rfl, hr, hb⟩
set_option maxRecDepth 100000 in
set_option maxHeartbeats 16000000 in
theorem fnHeardWalk (a : Option Addr) (len cap : Nat) (zs : List Int) (w : World) (h : IsRow .u8 w a len cap zs) :
    Calls Try.prog 11 #[.slice a len cap] w fun e w' => e = .returned (.bool true) ∧ Below w.heap.size w w' := by
  by_cases hbig : len ≤ 1048576
  rotate_left
  · go_enter Try.func11, Try.ntmps11
    go_wp2_with fail
    refine (bigYes a len cap hbig w).mono ?_
    rintro e w' ⟨rfl, rfl⟩
    go_wp2
    go_ret
    exact ⟨rfl, Below.refl _ _⟩
  have hsrc := Lib.hid (src_of_row h hbig)
  clear h
  go_enter Try.func11, Try.ntmps11
  go_wp2_with fail
  refine (bigNo a len cap hbig w).mono ?_
  rintro e w' ⟨rfl, rfl⟩
  go_wp2_with fail
  refine (drawHeard w w.heap.size a len cap (Nat.le_refl _) hsrc.out).mono ?_
  rintro e w0 ⟨aa, n, c, X, l, dev, av, nv, cv, ys, hn4, hnv4, rfl, hrows, hy, hb0⟩
  have HRa0 := Lib.hid hrows.irows
  have HSa : Hid (∀ i, i < n → (rowOf l i).length ≤ 1048576) := fun i hi => Nat.le_trans (hrows.short i hi) (by omega)
  have HY0 := Lib.hid hy
  have HB0 := Lib.hid hb0
  have hs0 := hb0.size
  clear hrows hy hb0
  dsimp only
  have HNw : Hid (∀ i, i < 4 → (rowOf newAcks i).length ≤ 1048576) := fun i hi => by rw [newAcks_row hi]; decide
  go_upto_region 4 with fail
  have hb : Below w0.heap.size w0 (w0.alloc (.cells #[.slice aa n c] 66)) := (Below.refl _ _).alloc (Nat.le_refl _) _
  have HXa1 := Lib.hid (heap_alloc_new w0 (.cells #[.slice aa n c] 66))
  generalize w0.alloc (.cells #[.slice aa n c] 66) = w1 at hb HXa1 ⊢
  have hs1 := hb.size
  have HRa1 := Lib.hid (HRa0.out.below hb (by omega))
  have HY1 := Lib.hid (HY0.out.below hb (by omega))
  have HB1 := Lib.hid (HB0.out.trans (hb.mono (by omega)))
  clear hb HRa0 HY0 HB0
  obtain ⟨bH, hbH⟩ : ∃ b, heardB l dev ys = b := ⟨_, rfl⟩
  have HbH := Lib.hid hbH
  clear hbH
  cases bH
  · skip
    have q0 := one_cell HXa1.out
    go_wp2_with fail
    refine (implHeard w1 w1.heap.size aa av n c nv cv dev l ys (HRa1.out.mores (by omega)) (HY1.out.more (by omega)) (Nat.le_refl _) (by omega) (by omega) HSa.out).mono ?_
    rintro e w2 ⟨⟨hyes, _⟩ | ⟨_, rfl⟩, hb⟩
    · rw [HbH.out] at hyes; cases hyes
    clear q0
    have hs2 := hb.size
    have HRa2 := Lib.hid (HRa1.out.below hb (by omega))
    have HY2 := Lib.hid (HY1.out.below hb (by omega))
    have HB2 := Lib.hid (HB1.out.trans (hb.mono (by omega)))
    have HXa2 := Lib.hid ((hb.block _ (lt_of_block HXa1.out)).trans HXa1.out)
    clear hb HRa1 HY1 HB1 HXa1
    go_upto_region 5 with fail
    have hb : Below w2.heap.size w2 (w2.alloc (.cells #[.slice none 0 0] 66)) := (Below.refl _ _).alloc (Nat.le_refl _) _
    have HXn3 := Lib.hid (heap_alloc_new w2 (.cells #[.slice none 0 0] 66))
    generalize w2.alloc (.cells #[.slice none 0 0] 66) = w3 at hb HXn3 ⊢
    have hs3 := hb.size
    have HRa3 := Lib.hid (HRa2.out.below hb (by omega))
    have HY3 := Lib.hid (HY2.out.below hb (by omega))
    have HB3 := Lib.hid (HB2.out.trans (hb.mono (by omega)))
    have HXa3 := Lib.hid ((hb.block _ (lt_of_block HXa2.out)).trans HXa2.out)
    clear hb HRa2 HY2 HB2 HXa2
    have q0 := one_cell HXa3.out
    go_wp2_with fail
    refine (specHeard w3 w3.heap.size aa av n c nv cv dev l ys (HRa3.out.mores (by omega)) (HY3.out.more (by omega)) (Nat.le_refl _) (by omega) (by omega) HSa.out).mono ?_
    rintro e w4 ⟨⟨hyes, _⟩ | ⟨_, rfl⟩, hb⟩
    · rw [HbH.out] at hyes; cases hyes
    clear q0
    have hs4 := hb.size
    have HRa4 := Lib.hid (HRa3.out.below hb (by omega))
    have HY4 := Lib.hid (HY3.out.below hb (by omega))
    have HB4 := Lib.hid (HB3.out.trans (hb.mono (by omega)))
    have HXa4 := Lib.hid ((hb.block _ (lt_of_block HXa3.out)).trans HXa3.out)
    have HXn4 := Lib.hid ((hb.block _ (lt_of_block HXn3.out)).trans HXn3.out)
    clear hb HRa3 HY3 HB3 HXa3 HXn3
    go_upto_region 6 with fail
    have hb : Below w4.heap.size w4 (w4.alloc (.cells #[.slice none 0 0] 66)) := (Below.refl _ _).alloc (Nat.le_refl _) _
    have HXt5 := Lib.hid (heap_alloc_new w4 (.cells #[.slice none 0 0] 66))
    generalize w4.alloc (.cells #[.slice none 0 0] 66) = w5 at hb HXt5 ⊢
    have hs5 := hb.size
    have HRa5 := Lib.hid (HRa4.out.below hb (by omega))
    have HY5 := Lib.hid (HY4.out.below hb (by omega))
    have HB5 := Lib.hid (HB4.out.trans (hb.mono (by omega)))
    have HXa5 := Lib.hid ((hb.block _ (lt_of_block HXa4.out)).trans HXa4.out)
    have HXn5 := Lib.hid ((hb.block _ (lt_of_block HXn4.out)).trans HXn4.out)
    clear hb HRa4 HY4 HB4 HXa4 HXn4
    go_wp2_with fail
    refine (drawAcksOk w5 w.heap.size a len cap (by have := HB5.out.size; omega) (src_below hsrc.out HB5.out)).mono ?_
    rintro e w6 ⟨xa, xn, xc, xX, xl, hxn, rfl, hrows, hb⟩
    have HRx := Lib.hid hrows.irows
    have HSx : Hid (∀ i, i < xn → (rowOf xl i).length ≤ 1048576) := fun i hi => Nat.le_trans (hrows.short i hi) (by omega)
    clear hrows
    dsimp only
    have hs6 := hb.size
    have HRa6 := Lib.hid (HRa5.out.below hb (by omega))
    have HY6 := Lib.hid (HY5.out.below hb (by omega))
    have HB6 := Lib.hid (HB5.out.trans (hb.mono (by omega)))
    have HXa6 := Lib.hid ((hb.block _ (lt_of_block HXa5.out)).trans HXa5.out)
    have HXn6 := Lib.hid ((hb.block _ (lt_of_block HXn5.out)).trans HXn5.out)
    have HXt6 := Lib.hid ((hb.block _ (lt_of_block HXt5.out)).trans HXt5.out)
    clear hb HRa5 HY5 HB5 HXa5 HXn5 HXt5
    have HRx6 := HRx
    clear HRx
    go_upto_region 7 with fail
    have hb : Below w6.heap.size w6 (w6.alloc (.cells #[.slice xa xn xc] 66)) := (Below.refl _ _).alloc (Nat.le_refl _) _
    have HXx7 := Lib.hid (heap_alloc_new w6 (.cells #[.slice xa xn xc] 66))
    generalize w6.alloc (.cells #[.slice xa xn xc] 66) = w7 at hb HXx7 ⊢
    have hs7 := hb.size
    have HRa7 := Lib.hid (HRa6.out.below hb (by omega))
    have HY7 := Lib.hid (HY6.out.below hb (by omega))
    have HB7 := Lib.hid (HB6.out.trans (hb.mono (by omega)))
    have HXa7 := Lib.hid ((hb.block _ (lt_of_block HXa6.out)).trans HXa6.out)
    have HXn7 := Lib.hid ((hb.block _ (lt_of_block HXn6.out)).trans HXn6.out)
    have HXt7 := Lib.hid ((hb.block _ (lt_of_block HXt6.out)).trans HXt6.out)
    have HRx7 := Lib.hid (HRx6.out.below hb (by omega))
    clear hb HRa6 HY6 HB6 HXa6 HXn6 HXt6 HRx6
    go_wp2_with fail
    refine (drawStable w7 w.heap.size a len cap (by have := HB7.out.size; omega) (src_below hsrc.out HB7.out)).mono ?_
    rintro e w8 ⟨ya, yn, yc, yX, yl, hyn, rfl, hrows, hb⟩
    have HRy := Lib.hid hrows.irows
    have HSy : Hid (∀ i, i < yn → (rowOf yl i).length ≤ 1048576) := fun i hi => Nat.le_trans (hrows.short i hi) (by omega)
    clear hrows
    dsimp only
    have hs8 := hb.size
    have HRa8 := Lib.hid (HRa7.out.below hb (by omega))
    have HY8 := Lib.hid (HY7.out.below hb (by omega))
    have HB8 := Lib.hid (HB7.out.trans (hb.mono (by omega)))
    have HXa8 := Lib.hid ((hb.block _ (lt_of_block HXa7.out)).trans HXa7.out)
    have HXn8 := Lib.hid ((hb.block _ (lt_of_block HXn7.out)).trans HXn7.out)
    have HXt8 := Lib.hid ((hb.block _ (lt_of_block HXt7.out)).trans HXt7.out)
    have HRx8 := Lib.hid (HRx7.out.below hb (by omega))
    have HXx8 := Lib.hid ((hb.block _ (lt_of_block HXx7.out)).trans HXx7.out)
    clear hb HRa7 HY7 HB7 HXa7 HXn7 HXt7 HRx7 HXx7
    have HRy8 := HRy
    clear HRy
    go_upto_region 8 with fail
    have hb : Below w8.heap.size w8 (w8.alloc (.cells #[.slice ya yn yc] 66)) := (Below.refl _ _).alloc (Nat.le_refl _) _
    have HXy9 := Lib.hid (heap_alloc_new w8 (.cells #[.slice ya yn yc] 66))
    generalize w8.alloc (.cells #[.slice ya yn yc] 66) = w9 at hb HXy9 ⊢
    have hs9 := hb.size
    have HRa9 := Lib.hid (HRa8.out.below hb (by omega))
    have HY9 := Lib.hid (HY8.out.below hb (by omega))
    have HB9 := Lib.hid (HB8.out.trans (hb.mono (by omega)))
    have HXa9 := Lib.hid ((hb.block _ (lt_of_block HXa8.out)).trans HXa8.out)
    have HXn9 := Lib.hid ((hb.block _ (lt_of_block HXn8.out)).trans HXn8.out)
    have HXt9 := Lib.hid ((hb.block _ (lt_of_block HXt8.out)).trans HXt8.out)
    have HRx9 := Lib.hid (HRx8.out.below hb (by omega))
    have HXx9 := Lib.hid ((hb.block _ (lt_of_block HXx8.out)).trans HXx8.out)
    have HRy9 := Lib.hid (HRy8.out.below hb (by omega))
    clear hb HRa8 HY8 HB8 HXa8 HXn8 HXt8 HRx8 HXx8 HRy8
    have HSt : Hid ((stableL yl).length ≤ 4) := by
      show _ ≤ 4
      cases hk : ackOk yl
      · rw [stable_no hk]; exact Nat.zero_le _
      · have := vec_len (stable_vec hk); omega
    obtain ⟨w10, hzw⟩ : ∃ z, w9.drew = z := ⟨_, rfl⟩
    have hb : Below w9.heap.size w9 w10 := by rw [← hzw]; exact ⟨rfl, rfl, rfl, Nat.le_refl _, fun _ _ => rfl⟩
    have hs10 := hb.size
    have HRa10 := Lib.hid (HRa9.out.below hb (by omega))
    have HY10 := Lib.hid (HY9.out.below hb (by omega))
    have HB10 := Lib.hid (HB9.out.trans (hb.mono (by omega)))
    have HXa10 := Lib.hid ((hb.block _ (lt_of_block HXa9.out)).trans HXa9.out)
    have HXn10 := Lib.hid ((hb.block _ (lt_of_block HXn9.out)).trans HXn9.out)
    have HXt10 := Lib.hid ((hb.block _ (lt_of_block HXt9.out)).trans HXt9.out)
    have HRx10 := Lib.hid (HRx9.out.below hb (by omega))
    have HXx10 := Lib.hid ((hb.block _ (lt_of_block HXx9.out)).trans HXx9.out)
    have HRy10 := Lib.hid (HRy9.out.below hb (by omega))
    have HXy10 := Lib.hid ((hb.block _ (lt_of_block HXy9.out)).trans HXy9.out)
    clear hb HRa9 HY9 HB9 HXa9 HXn9 HXt9 HRx9 HXx9 HRy9 HXy9
    have hS : w10.cell? ⟨w2.heap.size, 0, none⟩ = some (.slice none 0 0) ∧ w10.cell? ⟨w4.heap.size, 0, none⟩ = some (.slice none 0 0) ∧ w10.cell? ⟨w6.heap.size, 0, none⟩ = some (.slice xa xn xc) ∧ w10.cell? ⟨w8.heap.size, 0, none⟩ = some (.slice ya yn yc) := ⟨one_cell HXn10.out, one_cell HXt10.out, one_cell HXx10.out, one_cell HXy10.out⟩
    refine wp_region_held_drew (S := fun w' => w'.cell? ⟨w2.heap.size, 0, none⟩ = some (.slice none 0 0) ∧ w'.cell? ⟨w4.heap.size, 0, none⟩ = some (.slice none 0 0) ∧ w'.cell? ⟨w6.heap.size, 0, none⟩ = some (.slice xa xn xc) ∧ w'.cell? ⟨w8.heap.size, 0, none⟩ = some (.slice ya yn yc)) (by kernel_rfl) (by rw [hzw]; exact hS) (fun hHeld => ?_)
    rw [hzw]
    clear hHeld hzw
    refine wpAnyH_take (i := 0) (oi := { dst := some 41, op := Op.move (Operand.tmp 7), type := 4, pos := "laws.go:1377", after := #[], guard := none }) (v := ?_) rfl (by kernel_rfl) (by kernel_rfl) (by kernel_rfl) (fun _ _ _ h => h) (Or.inl ⟨by rfl, ?_⟩) (by assumption) ?_
    rotate_left
    · intro w hSw
      (try dsimp only at hSw)
      first | (go_simp; done) | (go_simp; with_reducible rfl)
    (try simp only [Act.put, List.setIfInBounds_toArray, List.set_cons_zero, List.set_cons_succ])
    refine wpAnyH_take (i := 1) (oi := { dst := some 42, op := Op.move (Operand.tmp 9), type := 4, pos := "laws.go:1377", after := #[], guard := none }) (v := ?_) rfl (by kernel_rfl) (by kernel_rfl) (by kernel_rfl) (fun _ _ _ h => h) (Or.inl ⟨by rfl, ?_⟩) (by assumption) ?_
    rotate_left
    · intro w hSw
      (try dsimp only at hSw)
      first | (go_simp; done) | (go_simp; with_reducible rfl)
    (try simp only [Act.put, List.setIfInBounds_toArray, List.set_cons_zero, List.set_cons_succ])
    refine wpAnyH_take (i := 2) (oi := { dst := some 43, op := Op.binOp BinOp.neq 4 (Operand.tmp 41) (Operand.tmp 42) 4, type := 4, pos := "laws.go:1377", after := #[{ on := 0, ground := Ground.data }, { on := 1, ground := Ground.data }], guard := none }) (v := ?_) rfl (by kernel_rfl) (by kernel_rfl) (by kernel_rfl) (fun _ _ _ h => h) (Or.inl ⟨by rfl, ?_⟩) (by assumption) ?_
    rotate_left
    · intro w hSw
      (try dsimp only at hSw)
      first | (go_simp; done) | (go_simp; with_reducible rfl)
    (try simp only [Act.put, List.setIfInBounds_toArray, List.set_cons_zero, List.set_cons_succ])
    refine wpAnyH_take (i := 3) (oi := { dst := some 44, op := Op.move (Operand.tmp 43), type := 4, pos := "laws.go:1377", after := #[{ on := 2, ground := Ground.data }], guard := none }) (v := ?_) rfl (by kernel_rfl) (by kernel_rfl) (by kernel_rfl) (fun _ _ _ h => h) (Or.inl ⟨by rfl, ?_⟩) (by assumption) ?_
    rotate_left
    · intro w hSw
      (try dsimp only at hSw)
      first | (go_simp; done) | (go_simp; with_reducible rfl)
    (try simp only [Act.put, List.setIfInBounds_toArray, List.set_cons_zero, List.set_cons_succ])
    refine wpAnyH_take (i := 4) (oi := { dst := some 45, op := Op.load 66 (Operand.tmp 6), type := 66, pos := "laws.go:1377", after := #[{ on := 3, ground := Ground.guard }], guard := some (3, false) }) (v := ?_) rfl (by kernel_rfl) (by kernel_rfl) (by kernel_rfl) (fun _ _ _ h => h) (Or.inl ⟨by rfl, ?_⟩) (by assumption) ?_
    rotate_left
    · intro w hSw
      (try dsimp only at hSw)
      first | (go_simp; done) | (go_simp; with_reducible rfl)
    (try simp only [Act.put, List.setIfInBounds_toArray, List.set_cons_zero, List.set_cons_succ])
    refine wpAnyH_take (i := 5) (oi := { dst := some 46, op := Op.load 66 (Operand.tmp 8), type := 66, pos := "laws.go:1377", after := #[{ on := 3, ground := Ground.guard }], guard := some (3, false) }) (v := ?_) rfl (by kernel_rfl) (by kernel_rfl) (by kernel_rfl) (fun _ _ _ h => h) (Or.inl ⟨by rfl, ?_⟩) (by assumption) ?_
    rotate_left
    · intro w hSw
      (try dsimp only at hSw)
      first | (go_simp; done) | (go_simp; with_reducible rfl)
    (try simp only [Act.put, List.setIfInBounds_toArray, List.set_cons_zero, List.set_cons_succ])
    refine wpAnyH_ready (rs := [6]) (by kernel_rfl) (by simp) ?_
    refine AllReadyH.cons (o := { dst := some 47, op := Op.call { callee := Callee.value (Operand.func 66), args := #[Operand.tmp 45, Operand.tmp 46], argTypes := #[66, 66] }, type := 4, pos := "laws.go:1377", after := #[{ on := 4, ground := Ground.data }, { on := 5, ground := Ground.data }, { on := 3, ground := Ground.chain }, { on := 3, ground := Ground.guard }], guard := some (3, false) }) rfl (fun K hK => ?_) AllReadyH.nil
    go_simp
    go_at_call 66
    refine (sameAcks w10 w10.heap.size w10.heap.size none none 0 0 0 0 [] [] (irows_nil _ _ _) (irows_nil _ _ _) (Nat.le_refl _) (Nat.le_refl _) (by omega) (by omega) (fun i hi => absurd hi (Nat.not_lt_zero _)) (fun i hi => absurd hi (Nat.not_lt_zero _))).mono ?_
    rintro e w11 ⟨rfl, hb⟩
    rw [decide_eq_true rfl]
    have hs11 := hb.size
    have HRa11 := Lib.hid (HRa10.out.below hb (by omega))
    have HY11 := Lib.hid (HY10.out.below hb (by omega))
    have HB11 := Lib.hid (HB10.out.trans (hb.mono (by omega)))
    have HXa11 := Lib.hid ((hb.block _ (lt_of_block HXa10.out)).trans HXa10.out)
    have HXn11 := Lib.hid ((hb.block _ (lt_of_block HXn10.out)).trans HXn10.out)
    have HXt11 := Lib.hid ((hb.block _ (lt_of_block HXt10.out)).trans HXt10.out)
    have HRx11 := Lib.hid (HRx10.out.below hb (by omega))
    have HXx11 := Lib.hid ((hb.block _ (lt_of_block HXx10.out)).trans HXx10.out)
    have HRy11 := Lib.hid (HRy10.out.below hb (by omega))
    have HXy11 := Lib.hid ((hb.block _ (lt_of_block HXy10.out)).trans HXy10.out)
    clear hb HRa10 HY10 HB10 HXa10 HXn10 HXt10 HRx10 HXx10 HRy10 HXy10
    have hS2 : w11.cell? ⟨w2.heap.size, 0, none⟩ = some (.slice none 0 0) ∧ w11.cell? ⟨w4.heap.size, 0, none⟩ = some (.slice none 0 0) ∧ w11.cell? ⟨w6.heap.size, 0, none⟩ = some (.slice xa xn xc) ∧ w11.cell? ⟨w8.heap.size, 0, none⟩ = some (.slice ya yn yc) := ⟨one_cell HXn11.out, one_cell HXt11.out, one_cell HXx11.out, one_cell HXy11.out⟩
    refine hK.out _ _ hS2 (fun hHeld3 => ?_)
    clear hK K
    (try simp only [Act.put, List.setIfInBounds_toArray, List.set_cons_zero, List.set_cons_succ])
    clear hHeld3
    refine wpAnyH_take (i := 7) (oi := { dst := some 48, op := Op.unOp UnOp.not 4 (Operand.tmp 47), type := 4, pos := "laws.go:1377", after := #[{ on := 6, ground := Ground.data }, { on := 3, ground := Ground.guard }], guard := some (3, false) }) (v := ?_) rfl (by kernel_rfl) (by kernel_rfl) (by kernel_rfl) (fun _ _ _ h => h) (Or.inl ⟨by rfl, ?_⟩) (by assumption) ?_
    rotate_left
    · intro w hSw
      (try dsimp only at hSw)
      first | (go_simp; done) | (go_simp; with_reducible rfl)
    (try simp only [Act.put, List.setIfInBounds_toArray, List.set_cons_zero, List.set_cons_succ])
    refine wpAnyH_take (i := 8) (oi := { dst := some 49, op := Op.pick (Operand.tmp 44) (Operand.const (Value.bool true)) (Operand.tmp 48), type := 4, pos := "laws.go:1377", after := #[{ on := 3, ground := Ground.data }, { on := 7, ground := Ground.data }], guard := none }) (v := ?_) rfl (by kernel_rfl) (by kernel_rfl) (by kernel_rfl) (fun _ _ _ h => h) (Or.inl ⟨by rfl, ?_⟩) (by assumption) ?_
    rotate_left
    · intro w hSw
      (try dsimp only at hSw)
      first | (go_simp; done) | (go_simp; with_reducible rfl)
    (try simp only [Act.put, List.setIfInBounds_toArray, List.set_cons_zero, List.set_cons_succ])
    refine wpAnyH_take (i := 9) (oi := { dst := some 50, op := Op.move (Operand.tmp 49), type := 4, pos := "laws.go:1377", after := #[{ on := 8, ground := Ground.data }, { on := 6, ground := Ground.chain }], guard := none }) (v := ?_) rfl (by kernel_rfl) (by kernel_rfl) (by kernel_rfl) (fun _ _ _ h => h) (Or.inl ⟨by rfl, ?_⟩) (by assumption) ?_
    rotate_left
    · intro w hSw
      (try dsimp only at hSw)
      first | (go_simp; done) | (go_simp; with_reducible rfl)
    (try simp only [Act.put, List.setIfInBounds_toArray, List.set_cons_zero, List.set_cons_succ])
    refine wpAnyH_take (i := 10) (oi := { dst := some 51, op := Op.load 66 (Operand.tmp 10), type := 66, pos := "laws.go:1377", after := #[{ on := 9, ground := Ground.guard }], guard := some (9, false) }) (v := ?_) rfl (by kernel_rfl) (by kernel_rfl) (by kernel_rfl) (fun _ _ _ h => h) (Or.inl ⟨by rfl, ?_⟩) (by assumption) ?_
    rotate_left
    · intro w hSw
      (try dsimp only at hSw)
      first | (go_simp; done) | (go_simp; with_reducible rfl)
    (try simp only [Act.put, List.setIfInBounds_toArray, List.set_cons_zero, List.set_cons_succ])
    refine wpAnyH_take (i := 12) (oi := { dst := some 53, op := Op.load 66 (Operand.tmp 10), type := 66, pos := "laws.go:1377", after := #[{ on := 9, ground := Ground.guard }], guard := some (9, false) }) (v := ?_) rfl (by kernel_rfl) (by kernel_rfl) (by kernel_rfl) (fun _ _ _ h => h) (Or.inl ⟨by rfl, ?_⟩) (by assumption) ?_
    rotate_left
    · intro w hSw
      (try dsimp only at hSw)
      first | (go_simp; done) | (go_simp; with_reducible rfl)
    (try simp only [Act.put, List.setIfInBounds_toArray, List.set_cons_zero, List.set_cons_succ])
    refine wpAnyH_ready (rs := [11]) (by kernel_rfl) (by simp) ?_
    refine AllReadyH.cons (o := { dst := some 52, op := Op.call { callee := Callee.value (Operand.func 67), args := #[Operand.tmp 51], argTypes := #[66] }, type := 4, pos := "laws.go:1377", after := #[{ on := 10, ground := Ground.data }, { on := 9, ground := Ground.chain }, { on := 9, ground := Ground.guard }], guard := some (9, false) }) rfl (fun K hK => ?_) AllReadyH.nil
    go_simp
    go_at_call 67
    refine (implAcksOk w11 w11.heap.size xa xn xc xl (HRx11.out.mores (by omega)) (Nat.le_refl _) HSx.out).mono ?_
    rintro e w12 ⟨rfl, hb⟩
    have hs12 := hb.size
    have HRa12 := Lib.hid (HRa11.out.below hb (by omega))
    have HY12 := Lib.hid (HY11.out.below hb (by omega))
    have HB12 := Lib.hid (HB11.out.trans (hb.mono (by omega)))
    have HXa12 := Lib.hid ((hb.block _ (lt_of_block HXa11.out)).trans HXa11.out)
    have HXn12 := Lib.hid ((hb.block _ (lt_of_block HXn11.out)).trans HXn11.out)
    have HXt12 := Lib.hid ((hb.block _ (lt_of_block HXt11.out)).trans HXt11.out)
    have HRx12 := Lib.hid (HRx11.out.below hb (by omega))
    have HXx12 := Lib.hid ((hb.block _ (lt_of_block HXx11.out)).trans HXx11.out)
    have HRy12 := Lib.hid (HRy11.out.below hb (by omega))
    have HXy12 := Lib.hid ((hb.block _ (lt_of_block HXy11.out)).trans HXy11.out)
    clear hb HRa11 HY11 HB11 HXa11 HXn11 HXt11 HRx11 HXx11 HRy11 HXy11
    have hS4 : w12.cell? ⟨w2.heap.size, 0, none⟩ = some (.slice none 0 0) ∧ w12.cell? ⟨w4.heap.size, 0, none⟩ = some (.slice none 0 0) ∧ w12.cell? ⟨w6.heap.size, 0, none⟩ = some (.slice xa xn xc) ∧ w12.cell? ⟨w8.heap.size, 0, none⟩ = some (.slice ya yn yc) := ⟨one_cell HXn12.out, one_cell HXt12.out, one_cell HXx12.out, one_cell HXy12.out⟩
    refine hK.out _ _ hS4 (fun hHeld5 => ?_)
    clear hK K
    (try simp only [Act.put, List.setIfInBounds_toArray, List.set_cons_zero, List.set_cons_succ])
    clear hHeld5
    refine wpAnyH_ready (rs := [13]) (by kernel_rfl) (by simp) ?_
    refine AllReadyH.cons (o := { dst := some 54, op := Op.call { callee := Callee.value (Operand.func 61), args := #[Operand.tmp 53], argTypes := #[66] }, type := 4, pos := "laws.go:1377", after := #[{ on := 12, ground := Ground.data }, { on := 11, ground := Ground.chain }, { on := 9, ground := Ground.guard }], guard := some (9, false) }) rfl (fun K hK => ?_) AllReadyH.nil
    go_simp
    go_at_call 61
    refine (specAcksOk w12 w12.heap.size xa xn xc xl (HRx12.out.mores (by omega)) (Nat.le_refl _) (by omega) HSx.out).mono ?_
    rintro e w13 ⟨rfl, hb⟩
    have hs13 := hb.size
    have HRa13 := Lib.hid (HRa12.out.below hb (by omega))
    have HY13 := Lib.hid (HY12.out.below hb (by omega))
    have HB13 := Lib.hid (HB12.out.trans (hb.mono (by omega)))
    have HXa13 := Lib.hid ((hb.block _ (lt_of_block HXa12.out)).trans HXa12.out)
    have HXn13 := Lib.hid ((hb.block _ (lt_of_block HXn12.out)).trans HXn12.out)
    have HXt13 := Lib.hid ((hb.block _ (lt_of_block HXt12.out)).trans HXt12.out)
    have HRx13 := Lib.hid (HRx12.out.below hb (by omega))
    have HXx13 := Lib.hid ((hb.block _ (lt_of_block HXx12.out)).trans HXx12.out)
    have HRy13 := Lib.hid (HRy12.out.below hb (by omega))
    have HXy13 := Lib.hid ((hb.block _ (lt_of_block HXy12.out)).trans HXy12.out)
    clear hb HRa12 HY12 HB12 HXa12 HXn12 HXt12 HRx12 HXx12 HRy12 HXy12
    have hS6 : w13.cell? ⟨w2.heap.size, 0, none⟩ = some (.slice none 0 0) ∧ w13.cell? ⟨w4.heap.size, 0, none⟩ = some (.slice none 0 0) ∧ w13.cell? ⟨w6.heap.size, 0, none⟩ = some (.slice xa xn xc) ∧ w13.cell? ⟨w8.heap.size, 0, none⟩ = some (.slice ya yn yc) := ⟨one_cell HXn13.out, one_cell HXt13.out, one_cell HXx13.out, one_cell HXy13.out⟩
    refine hK.out _ _ hS6 (fun hHeld7 => ?_)
    clear hK K
    (try simp only [Act.put, List.setIfInBounds_toArray, List.set_cons_zero, List.set_cons_succ])
    clear hHeld7
    refine wpAnyH_take (i := 14) (oi := { dst := some 55, op := Op.binOp BinOp.neq 4 (Operand.tmp 52) (Operand.tmp 54) 4, type := 4, pos := "laws.go:1377", after := #[{ on := 11, ground := Ground.data }, { on := 13, ground := Ground.data }, { on := 9, ground := Ground.guard }], guard := some (9, false) }) (v := ?_) rfl (by kernel_rfl) (by kernel_rfl) (by kernel_rfl) (fun _ _ _ h => h) (Or.inl ⟨by rfl, ?_⟩) (by assumption) ?_
    rotate_left
    · intro w hSw
      (try dsimp only at hSw)
      first | (go_simp; done) | (go_simp; with_reducible rfl)
    (try simp only [Act.put, List.setIfInBounds_toArray, List.set_cons_zero, List.set_cons_succ])
    refine wpAnyH_take (i := 15) (oi := { dst := some 56, op := Op.pick (Operand.tmp 50) (Operand.const (Value.bool true)) (Operand.tmp 55), type := 4, pos := "laws.go:1377", after := #[{ on := 9, ground := Ground.data }, { on := 14, ground := Ground.data }], guard := none }) (v := ?_) rfl (by kernel_rfl) (by kernel_rfl) (by kernel_rfl) (fun _ _ _ h => h) (Or.inl ⟨by rfl, ?_⟩) (by assumption) ?_
    rotate_left
    · intro w hSw
      (try dsimp only at hSw)
      first | (go_simp; done) | (go_simp; with_reducible rfl)
    (try simp only [Act.put, List.setIfInBounds_toArray, List.set_cons_zero, List.set_cons_succ])
    refine wpAnyH_take (i := 16) (oi := { dst := some 57, op := Op.move (Operand.tmp 56), type := 4, pos := "laws.go:1377", after := #[{ on := 15, ground := Ground.data }, { on := 13, ground := Ground.chain }], guard := none }) (v := ?_) rfl (by kernel_rfl) (by kernel_rfl) (by kernel_rfl) (fun _ _ _ h => h) (Or.inl ⟨by rfl, ?_⟩) (by assumption) ?_
    rotate_left
    · intro w hSw
      (try dsimp only at hSw)
      first | (go_simp; done) | (go_simp; with_reducible rfl)
    (try simp only [Act.put, List.setIfInBounds_toArray, List.set_cons_zero, List.set_cons_succ])
    refine wpAnyH_take (i := 17) (oi := { dst := some 58, op := Op.load 66 (Operand.tmp 11), type := 66, pos := "laws.go:1377", after := #[{ on := 16, ground := Ground.guard }], guard := some (16, false) }) (v := ?_) rfl (by kernel_rfl) (by kernel_rfl) (by kernel_rfl) (fun _ _ _ h => h) (Or.inl ⟨by rfl, ?_⟩) (by assumption) ?_
    rotate_left
    · intro w hSw
      (try dsimp only at hSw)
      first | (go_simp; done) | (go_simp; with_reducible rfl)
    (try simp only [Act.put, List.setIfInBounds_toArray, List.set_cons_zero, List.set_cons_succ])
    refine wpAnyH_take (i := 19) (oi := { dst := some 60, op := Op.load 66 (Operand.tmp 11), type := 66, pos := "laws.go:1377", after := #[{ on := 16, ground := Ground.guard }], guard := some (16, false) }) (v := ?_) rfl (by kernel_rfl) (by kernel_rfl) (by kernel_rfl) (fun _ _ _ h => h) (Or.inl ⟨by rfl, ?_⟩) (by assumption) ?_
    rotate_left
    · intro w hSw
      (try dsimp only at hSw)
      first | (go_simp; done) | (go_simp; with_reducible rfl)
    (try simp only [Act.put, List.setIfInBounds_toArray, List.set_cons_zero, List.set_cons_succ])
    refine wpAnyH_ready (rs := [18]) (by kernel_rfl) (by simp) ?_
    refine AllReadyH.cons (o := { dst := some 59, op := Op.call { callee := Callee.value (Operand.func 59), args := #[Operand.tmp 58], argTypes := #[66] }, type := 24, pos := "laws.go:1377", after := #[{ on := 17, ground := Ground.data }, { on := 16, ground := Ground.chain }, { on := 16, ground := Ground.guard }], guard := some (16, false) }) rfl (fun K hK => ?_) AllReadyH.nil
    go_simp
    go_at_call 59
    refine (implStable w13 w13.heap.size ya yn yc yl (HRy13.out.mores (by omega)) (Nat.le_refl _) HSy.out).mono ?_
    rintro e w14 ⟨s1, sc1, rfl, ho, hb⟩
    have hs14 := hb.size
    have HRa14 := Lib.hid (HRa13.out.below hb (by omega))
    have HY14 := Lib.hid (HY13.out.below hb (by omega))
    have HB14 := Lib.hid (HB13.out.trans (hb.mono (by omega)))
    have HXa14 := Lib.hid ((hb.block _ (lt_of_block HXa13.out)).trans HXa13.out)
    have HXn14 := Lib.hid ((hb.block _ (lt_of_block HXn13.out)).trans HXn13.out)
    have HXt14 := Lib.hid ((hb.block _ (lt_of_block HXt13.out)).trans HXt13.out)
    have HRx14 := Lib.hid (HRx13.out.below hb (by omega))
    have HXx14 := Lib.hid ((hb.block _ (lt_of_block HXx13.out)).trans HXx13.out)
    have HRy14 := Lib.hid (HRy13.out.below hb (by omega))
    have HXy14 := Lib.hid ((hb.block _ (lt_of_block HXy13.out)).trans HXy13.out)
    clear hb HRa13 HY13 HB13 HXa13 HXn13 HXt13 HRx13 HXx13 HRy13 HXy13
    have HT114 := Lib.hid ho.ints
    have hS8 : w14.cell? ⟨w2.heap.size, 0, none⟩ = some (.slice none 0 0) ∧ w14.cell? ⟨w4.heap.size, 0, none⟩ = some (.slice none 0 0) ∧ w14.cell? ⟨w6.heap.size, 0, none⟩ = some (.slice xa xn xc) ∧ w14.cell? ⟨w8.heap.size, 0, none⟩ = some (.slice ya yn yc) := ⟨one_cell HXn14.out, one_cell HXt14.out, one_cell HXx14.out, one_cell HXy14.out⟩
    refine hK.out _ _ hS8 (fun hHeld9 => ?_)
    clear hK K
    (try simp only [Act.put, List.setIfInBounds_toArray, List.set_cons_zero, List.set_cons_succ])
    clear hHeld9
    refine wpAnyH_ready (rs := [20]) (by kernel_rfl) (by simp) ?_
    refine AllReadyH.cons (o := { dst := some 61, op := Op.call { callee := Callee.value (Operand.func 60), args := #[Operand.tmp 60], argTypes := #[66] }, type := 24, pos := "laws.go:1377", after := #[{ on := 19, ground := Ground.data }, { on := 18, ground := Ground.chain }, { on := 16, ground := Ground.guard }], guard := some (16, false) }) rfl (fun K hK => ?_) AllReadyH.nil
    go_simp
    go_at_call 60
    refine (specStable w14 w14.heap.size ya yn yc yl (HRy14.out.mores (by omega)) (Nat.le_refl _) (by omega) HSy.out).mono ?_
    rintro e w15 ⟨s2, sc2, rfl, ho2, hb⟩
    have hs15 := hb.size
    have HRa15 := Lib.hid (HRa14.out.below hb (by omega))
    have HY15 := Lib.hid (HY14.out.below hb (by omega))
    have HB15 := Lib.hid (HB14.out.trans (hb.mono (by omega)))
    have HXa15 := Lib.hid ((hb.block _ (lt_of_block HXa14.out)).trans HXa14.out)
    have HXn15 := Lib.hid ((hb.block _ (lt_of_block HXn14.out)).trans HXn14.out)
    have HXt15 := Lib.hid ((hb.block _ (lt_of_block HXt14.out)).trans HXt14.out)
    have HRx15 := Lib.hid (HRx14.out.below hb (by omega))
    have HXx15 := Lib.hid ((hb.block _ (lt_of_block HXx14.out)).trans HXx14.out)
    have HRy15 := Lib.hid (HRy14.out.below hb (by omega))
    have HXy15 := Lib.hid ((hb.block _ (lt_of_block HXy14.out)).trans HXy14.out)
    have HT115 := Lib.hid (HT114.out.below hb (by omega))
    clear hb HRa14 HY14 HB14 HXa14 HXn14 HXt14 HRx14 HXx14 HRy14 HXy14 HT114
    have HT215 := Lib.hid ho2.ints
    have hS10 : w15.cell? ⟨w2.heap.size, 0, none⟩ = some (.slice none 0 0) ∧ w15.cell? ⟨w4.heap.size, 0, none⟩ = some (.slice none 0 0) ∧ w15.cell? ⟨w6.heap.size, 0, none⟩ = some (.slice xa xn xc) ∧ w15.cell? ⟨w8.heap.size, 0, none⟩ = some (.slice ya yn yc) := ⟨one_cell HXn15.out, one_cell HXt15.out, one_cell HXx15.out, one_cell HXy15.out⟩
    refine hK.out _ _ hS10 (fun hHeld11 => ?_)
    clear hK K
    (try simp only [Act.put, List.setIfInBounds_toArray, List.set_cons_zero, List.set_cons_succ])
    clear hHeld11
    refine wpAnyH_ready (rs := [21]) (by kernel_rfl) (by simp) ?_
    refine AllReadyH.cons (o := { dst := some 62, op := Op.call { callee := Callee.value (Operand.func 20), args := #[Operand.tmp 59, Operand.tmp 61], argTypes := #[24, 24] }, type := 4, pos := "laws.go:1377", after := #[{ on := 18, ground := Ground.data }, { on := 20, ground := Ground.data }, { on := 20, ground := Ground.chain }, { on := 16, ground := Ground.guard }], guard := some (16, false) }) rfl (fun K hK => ?_) AllReadyH.nil
    go_simp
    go_at_call 20
    refine (sameInts w15 w15.heap.size w15.heap.size s1 s2 (stableL yl).length sc1 (stableL yl).length sc2 (stableL yl) (stableL yl) (HT115.out.more (by omega)) (HT215.out.more (by omega)) (by have := HSt.out; omega) (by have := HSt.out; omega)).mono ?_
    rintro e w16 ⟨rfl, hsm⟩
    have hb : Below w15.heap.size w15 w16 := hsm.below _
    clear hsm
    rw [decide_eq_true rfl]
    have hs16 := hb.size
    have HRa16 := Lib.hid (HRa15.out.below hb (by omega))
    have HY16 := Lib.hid (HY15.out.below hb (by omega))
    have HB16 := Lib.hid (HB15.out.trans (hb.mono (by omega)))
    have HXa16 := Lib.hid ((hb.block _ (lt_of_block HXa15.out)).trans HXa15.out)
    have HXn16 := Lib.hid ((hb.block _ (lt_of_block HXn15.out)).trans HXn15.out)
    have HXt16 := Lib.hid ((hb.block _ (lt_of_block HXt15.out)).trans HXt15.out)
    have HRx16 := Lib.hid (HRx15.out.below hb (by omega))
    have HXx16 := Lib.hid ((hb.block _ (lt_of_block HXx15.out)).trans HXx15.out)
    have HRy16 := Lib.hid (HRy15.out.below hb (by omega))
    have HXy16 := Lib.hid ((hb.block _ (lt_of_block HXy15.out)).trans HXy15.out)
    have HT116 := Lib.hid (HT115.out.below hb (by omega))
    have HT216 := Lib.hid (HT215.out.below hb (by omega))
    clear hb HRa15 HY15 HB15 HXa15 HXn15 HXt15 HRx15 HXx15 HRy15 HXy15 HT115 HT215
    have hS12 : w16.cell? ⟨w2.heap.size, 0, none⟩ = some (.slice none 0 0) ∧ w16.cell? ⟨w4.heap.size, 0, none⟩ = some (.slice none 0 0) ∧ w16.cell? ⟨w6.heap.size, 0, none⟩ = some (.slice xa xn xc) ∧ w16.cell? ⟨w8.heap.size, 0, none⟩ = some (.slice ya yn yc) := ⟨one_cell HXn16.out, one_cell HXt16.out, one_cell HXx16.out, one_cell HXy16.out⟩
    refine hK.out _ _ hS12 (fun hHeld13 => ?_)
    clear hK K
    (try simp only [Act.put, List.setIfInBounds_toArray, List.set_cons_zero, List.set_cons_succ])
    clear hHeld13
    refine wpAnyH_take (i := 22) (oi := { dst := some 63, op := Op.unOp UnOp.not 4 (Operand.tmp 62), type := 4, pos := "laws.go:1377", after := #[{ on := 21, ground := Ground.data }, { on := 16, ground := Ground.guard }], guard := some (16, false) }) (v := ?_) rfl (by kernel_rfl) (by kernel_rfl) (by kernel_rfl) (fun _ _ _ h => h) (Or.inl ⟨by rfl, ?_⟩) (by assumption) ?_
    rotate_left
    · intro w hSw
      (try dsimp only at hSw)
      first | (go_simp; done) | (go_simp; with_reducible rfl)
    (try simp only [Act.put, List.setIfInBounds_toArray, List.set_cons_zero, List.set_cons_succ])
    refine wpAnyH_take (i := 23) (oi := { dst := some 64, op := Op.pick (Operand.tmp 57) (Operand.const (Value.bool true)) (Operand.tmp 63), type := 4, pos := "laws.go:1377", after := #[{ on := 16, ground := Ground.data }, { on := 22, ground := Ground.data }], guard := none }) (v := ?_) rfl (by kernel_rfl) (by kernel_rfl) (by kernel_rfl) (fun _ _ _ h => h) (Or.inl ⟨by rfl, ?_⟩) (by assumption) ?_
    rotate_left
    · intro w hSw
      (try dsimp only at hSw)
      first | (go_simp; done) | (go_simp; with_reducible rfl)
    (try simp only [Act.put, List.setIfInBounds_toArray, List.set_cons_zero, List.set_cons_succ])
    refine wpAnyH_take (i := 24) (oi := { dst := some 65, op := Op.move (Operand.tmp 64), type := 4, pos := "laws.go:1377", after := #[{ on := 23, ground := Ground.data }, { on := 21, ground := Ground.chain }], guard := none }) (v := ?_) rfl (by kernel_rfl) (by kernel_rfl) (by kernel_rfl) (fun _ _ _ h => h) (Or.inl ⟨by rfl, ?_⟩) (by assumption) ?_
    rotate_left
    · intro w hSw
      (try dsimp only at hSw)
      first | (go_simp; done) | (go_simp; with_reducible rfl)
    (try simp only [Act.put, List.setIfInBounds_toArray, List.set_cons_zero, List.set_cons_succ])
    refine wpAnyH_ready (rs := [25]) (by kernel_rfl) (by simp) ?_
    refine AllReadyH.cons (o := { dst := some 66, op := Op.call { callee := Callee.value (Operand.func 68), args := #[], argTypes := #[] }, type := 66, pos := "laws.go:1377", after := #[{ on := 24, ground := Ground.chain }, { on := 24, ground := Ground.guard }], guard := some (24, false) }) rfl (fun K hK => ?_) AllReadyH.nil
    go_simp
    go_at_call 68
    refine ((implAcksNew w16).mono fun _ _ h => ackNew4 h).mono ?_
    rintro e w17 ⟨ng1, nc1, nf1, rfl, hra, hb⟩
    have hs17 := hb.size
    have HRa17 := Lib.hid (HRa16.out.below hb (by omega))
    have HY17 := Lib.hid (HY16.out.below hb (by omega))
    have HB17 := Lib.hid (HB16.out.trans (hb.mono (by omega)))
    have HXa17 := Lib.hid ((hb.block _ (lt_of_block HXa16.out)).trans HXa16.out)
    have HXn17 := Lib.hid ((hb.block _ (lt_of_block HXn16.out)).trans HXn16.out)
    have HXt17 := Lib.hid ((hb.block _ (lt_of_block HXt16.out)).trans HXt16.out)
    have HRx17 := Lib.hid (HRx16.out.below hb (by omega))
    have HXx17 := Lib.hid ((hb.block _ (lt_of_block HXx16.out)).trans HXx16.out)
    have HRy17 := Lib.hid (HRy16.out.below hb (by omega))
    have HXy17 := Lib.hid ((hb.block _ (lt_of_block HXy16.out)).trans HXy16.out)
    have HT117 := Lib.hid (HT116.out.below hb (by omega))
    have HT217 := Lib.hid (HT216.out.below hb (by omega))
    clear hb HRa16 HY16 HB16 HXa16 HXn16 HXt16 HRx16 HXx16 HRy16 HXy16 HT116 HT216
    have HN117 := Lib.hid (hra.irows (rfl : newAcks.length = 4))
    have hS14 : w17.cell? ⟨w2.heap.size, 0, none⟩ = some (.slice none 0 0) ∧ w17.cell? ⟨w4.heap.size, 0, none⟩ = some (.slice none 0 0) ∧ w17.cell? ⟨w6.heap.size, 0, none⟩ = some (.slice xa xn xc) ∧ w17.cell? ⟨w8.heap.size, 0, none⟩ = some (.slice ya yn yc) := ⟨one_cell HXn17.out, one_cell HXt17.out, one_cell HXx17.out, one_cell HXy17.out⟩
    refine hK.out _ _ hS14 (fun hHeld15 => ?_)
    clear hK K
    (try simp only [Act.put, List.setIfInBounds_toArray, List.set_cons_zero, List.set_cons_succ])
    clear hHeld15
    refine wpAnyH_ready (rs := [26]) (by kernel_rfl) (by simp) ?_
    refine AllReadyH.cons (o := { dst := some 67, op := Op.call { callee := Callee.value (Operand.func 69), args := #[], argTypes := #[] }, type := 66, pos := "laws.go:1377", after := #[{ on := 25, ground := Ground.chain }, { on := 24, ground := Ground.guard }], guard := some (24, false) }) rfl (fun K hK => ?_) AllReadyH.nil
    go_simp
    go_at_call 69
    refine ((specAcksNew w17).mono fun _ _ h => ackNew4 h).mono ?_
    rintro e w18 ⟨ng2, nc2, nf2, rfl, hra2, hb⟩
    have hs18 := hb.size
    have HRa18 := Lib.hid (HRa17.out.below hb (by omega))
    have HY18 := Lib.hid (HY17.out.below hb (by omega))
    have HB18 := Lib.hid (HB17.out.trans (hb.mono (by omega)))
    have HXa18 := Lib.hid ((hb.block _ (lt_of_block HXa17.out)).trans HXa17.out)
    have HXn18 := Lib.hid ((hb.block _ (lt_of_block HXn17.out)).trans HXn17.out)
    have HXt18 := Lib.hid ((hb.block _ (lt_of_block HXt17.out)).trans HXt17.out)
    have HRx18 := Lib.hid (HRx17.out.below hb (by omega))
    have HXx18 := Lib.hid ((hb.block _ (lt_of_block HXx17.out)).trans HXx17.out)
    have HRy18 := Lib.hid (HRy17.out.below hb (by omega))
    have HXy18 := Lib.hid ((hb.block _ (lt_of_block HXy17.out)).trans HXy17.out)
    have HT118 := Lib.hid (HT117.out.below hb (by omega))
    have HT218 := Lib.hid (HT217.out.below hb (by omega))
    have HN118 := Lib.hid (HN117.out.below hb (by omega))
    clear hb HRa17 HY17 HB17 HXa17 HXn17 HXt17 HRx17 HXx17 HRy17 HXy17 HT117 HT217 HN117
    have HN218 := Lib.hid (hra2.irows (rfl : newAcks.length = 4))
    have hS16 : w18.cell? ⟨w2.heap.size, 0, none⟩ = some (.slice none 0 0) ∧ w18.cell? ⟨w4.heap.size, 0, none⟩ = some (.slice none 0 0) ∧ w18.cell? ⟨w6.heap.size, 0, none⟩ = some (.slice xa xn xc) ∧ w18.cell? ⟨w8.heap.size, 0, none⟩ = some (.slice ya yn yc) := ⟨one_cell HXn18.out, one_cell HXt18.out, one_cell HXx18.out, one_cell HXy18.out⟩
    refine hK.out _ _ hS16 (fun hHeld17 => ?_)
    clear hK K
    (try simp only [Act.put, List.setIfInBounds_toArray, List.set_cons_zero, List.set_cons_succ])
    clear hHeld17
    refine wpAnyH_ready (rs := [27]) (by kernel_rfl) (by simp) ?_
    refine AllReadyH.cons (o := { dst := some 68, op := Op.call { callee := Callee.value (Operand.func 66), args := #[Operand.tmp 66, Operand.tmp 67], argTypes := #[66, 66] }, type := 4, pos := "laws.go:1377", after := #[{ on := 25, ground := Ground.data }, { on := 26, ground := Ground.data }, { on := 26, ground := Ground.chain }, { on := 24, ground := Ground.guard }], guard := some (24, false) }) rfl (fun K hK => ?_) AllReadyH.nil
    go_simp
    go_at_call 66
    refine (sameAcks w18 w18.heap.size w18.heap.size (some ⟨ng1, 0, none⟩) (some ⟨ng2, 0, none⟩) 4 nc1 4 nc2 newAcks newAcks (HN118.out.mores (by omega)) (HN218.out.mores (by omega)) (Nat.le_refl _) (Nat.le_refl _) (by omega) (by omega) HNw.out HNw.out).mono ?_
    rintro e w19 ⟨rfl, hb⟩
    rw [decide_eq_true rfl]
    have hs19 := hb.size
    have HRa19 := Lib.hid (HRa18.out.below hb (by omega))
    have HY19 := Lib.hid (HY18.out.below hb (by omega))
    have HB19 := Lib.hid (HB18.out.trans (hb.mono (by omega)))
    have HXa19 := Lib.hid ((hb.block _ (lt_of_block HXa18.out)).trans HXa18.out)
    have HXn19 := Lib.hid ((hb.block _ (lt_of_block HXn18.out)).trans HXn18.out)
    have HXt19 := Lib.hid ((hb.block _ (lt_of_block HXt18.out)).trans HXt18.out)
    have HRx19 := Lib.hid (HRx18.out.below hb (by omega))
    have HXx19 := Lib.hid ((hb.block _ (lt_of_block HXx18.out)).trans HXx18.out)
    have HRy19 := Lib.hid (HRy18.out.below hb (by omega))
    have HXy19 := Lib.hid ((hb.block _ (lt_of_block HXy18.out)).trans HXy18.out)
    have HT119 := Lib.hid (HT118.out.below hb (by omega))
    have HT219 := Lib.hid (HT218.out.below hb (by omega))
    have HN119 := Lib.hid (HN118.out.below hb (by omega))
    have HN219 := Lib.hid (HN218.out.below hb (by omega))
    clear hb HRa18 HY18 HB18 HXa18 HXn18 HXt18 HRx18 HXx18 HRy18 HXy18 HT118 HT218 HN118 HN218
    have hS18 : w19.cell? ⟨w2.heap.size, 0, none⟩ = some (.slice none 0 0) ∧ w19.cell? ⟨w4.heap.size, 0, none⟩ = some (.slice none 0 0) ∧ w19.cell? ⟨w6.heap.size, 0, none⟩ = some (.slice xa xn xc) ∧ w19.cell? ⟨w8.heap.size, 0, none⟩ = some (.slice ya yn yc) := ⟨one_cell HXn19.out, one_cell HXt19.out, one_cell HXx19.out, one_cell HXy19.out⟩
    refine hK.out _ _ hS18 (fun hHeld19 => ?_)
    clear hK K
    (try simp only [Act.put, List.setIfInBounds_toArray, List.set_cons_zero, List.set_cons_succ])
    clear hHeld19
    refine wpAnyH_take (i := 28) (oi := { dst := some 69, op := Op.unOp UnOp.not 4 (Operand.tmp 68), type := 4, pos := "laws.go:1377", after := #[{ on := 27, ground := Ground.data }, { on := 24, ground := Ground.guard }], guard := some (24, false) }) (v := ?_) rfl (by kernel_rfl) (by kernel_rfl) (by kernel_rfl) (fun _ _ _ h => h) (Or.inl ⟨by rfl, ?_⟩) (by assumption) ?_
    rotate_left
    · intro w hSw
      (try dsimp only at hSw)
      first | (go_simp; done) | (go_simp; with_reducible rfl)
    (try simp only [Act.put, List.setIfInBounds_toArray, List.set_cons_zero, List.set_cons_succ])
    refine wpAnyH_take (i := 29) (oi := { dst := some 70, op := Op.pick (Operand.tmp 65) (Operand.const (Value.bool true)) (Operand.tmp 69), type := 4, pos := "laws.go:1377", after := #[{ on := 24, ground := Ground.data }, { on := 28, ground := Ground.data }], guard := none }) (v := ?_) rfl (by kernel_rfl) (by kernel_rfl) (by kernel_rfl) (fun _ _ _ h => h) (Or.inl ⟨by rfl, ?_⟩) (by assumption) ?_
    rotate_left
    · intro w hSw
      (try dsimp only at hSw)
      first | (go_simp; done) | (go_simp; with_reducible rfl)
    (try simp only [Act.put, List.setIfInBounds_toArray, List.set_cons_zero, List.set_cons_succ])
    refine wpAnyH_take (i := 30) (oi := { dst := some 71, op := Op.move (Operand.tmp 70), type := 4, pos := "laws.go:1377", after := #[{ on := 29, ground := Ground.data }, { on := 27, ground := Ground.chain }], guard := none }) (v := ?_) rfl (by kernel_rfl) (by kernel_rfl) (by kernel_rfl) (fun _ _ _ h => h) (Or.inl ⟨by rfl, ?_⟩) (by assumption) ?_
    rotate_left
    · intro w hSw
      (try dsimp only at hSw)
      first | (go_simp; done) | (go_simp; with_reducible rfl)
    (try simp only [Act.put, List.setIfInBounds_toArray, List.set_cons_zero, List.set_cons_succ])
    refine wpAnyH_take (i := 31) (oi := { dst := some 72, op := Op.move (Operand.tmp 7), type := 4, pos := "laws.go:1377", after := #[{ on := 30, ground := Ground.guard }], guard := some (30, false) }) (v := ?_) rfl (by kernel_rfl) (by kernel_rfl) (by kernel_rfl) (fun _ _ _ h => h) (Or.inl ⟨by rfl, ?_⟩) (by assumption) ?_
    rotate_left
    · intro w hSw
      (try dsimp only at hSw)
      first | (go_simp; done) | (go_simp; with_reducible rfl)
    (try simp only [Act.put, List.setIfInBounds_toArray, List.set_cons_zero, List.set_cons_succ])
    refine wpAnyH_take (i := 32) (oi := { dst := some 73, op := Op.unOp UnOp.not 4 (Operand.tmp 72), type := 4, pos := "laws.go:1377", after := #[{ on := 31, ground := Ground.data }, { on := 30, ground := Ground.guard }], guard := some (30, false) }) (v := ?_) rfl (by kernel_rfl) (by kernel_rfl) (by kernel_rfl) (fun _ _ _ h => h) (Or.inl ⟨by rfl, ?_⟩) (by assumption) ?_
    rotate_left
    · intro w hSw
      (try dsimp only at hSw)
      first | (go_simp; done) | (go_simp; with_reducible rfl)
    (try simp only [Act.put, List.setIfInBounds_toArray, List.set_cons_zero, List.set_cons_succ])
    refine wpAnyH_take (i := 33) (oi := { dst := some 74, op := Op.pick (Operand.tmp 71) (Operand.const (Value.bool true)) (Operand.tmp 73), type := 4, pos := "laws.go:1377", after := #[{ on := 30, ground := Ground.data }, { on := 32, ground := Ground.data }], guard := none }) (v := ?_) rfl (by kernel_rfl) (by kernel_rfl) (by kernel_rfl) (fun _ _ _ h => h) (Or.inl ⟨by rfl, ?_⟩) (by assumption) ?_
    rotate_left
    · intro w hSw
      (try dsimp only at hSw)
      first | (go_simp; done) | (go_simp; with_reducible rfl)
    (try simp only [Act.put, List.setIfInBounds_toArray, List.set_cons_zero, List.set_cons_succ])
    refine wpAnyH_done (by kernel_rfl) ?_ _
    clear HT119 HT219 HN119 HN219
    go_upto_region 9 with fail
    obtain ⟨w20, hzw⟩ : ∃ z, w19.drew = z := ⟨_, rfl⟩
    have hb : Below w19.heap.size w19 w20 := by rw [← hzw]; exact ⟨rfl, rfl, rfl, Nat.le_refl _, fun _ _ => rfl⟩
    have hs20 := hb.size
    have HRa20 := Lib.hid (HRa19.out.below hb (by omega))
    have HY20 := Lib.hid (HY19.out.below hb (by omega))
    have HB20 := Lib.hid (HB19.out.trans (hb.mono (by omega)))
    have HXa20 := Lib.hid ((hb.block _ (lt_of_block HXa19.out)).trans HXa19.out)
    have HXn20 := Lib.hid ((hb.block _ (lt_of_block HXn19.out)).trans HXn19.out)
    have HXt20 := Lib.hid ((hb.block _ (lt_of_block HXt19.out)).trans HXt19.out)
    have HRx20 := Lib.hid (HRx19.out.below hb (by omega))
    have HXx20 := Lib.hid ((hb.block _ (lt_of_block HXx19.out)).trans HXx19.out)
    have HRy20 := Lib.hid (HRy19.out.below hb (by omega))
    have HXy20 := Lib.hid ((hb.block _ (lt_of_block HXy19.out)).trans HXy19.out)
    clear hb HRa19 HY19 HB19 HXa19 HXn19 HXt19 HRx19 HXx19 HRy19 HXy19
    have hS : w20.cell? ⟨w2.heap.size, 0, none⟩ = some (.slice none 0 0) ∧ w20.cell? ⟨w4.heap.size, 0, none⟩ = some (.slice none 0 0) ∧ w20.cell? ⟨w6.heap.size, 0, none⟩ = some (.slice xa xn xc) ∧ w20.cell? ⟨w8.heap.size, 0, none⟩ = some (.slice ya yn yc) := ⟨one_cell HXn20.out, one_cell HXt20.out, one_cell HXx20.out, one_cell HXy20.out⟩
    refine wp_region_held_drew (S := fun w' => w'.cell? ⟨w2.heap.size, 0, none⟩ = some (.slice none 0 0) ∧ w'.cell? ⟨w4.heap.size, 0, none⟩ = some (.slice none 0 0) ∧ w'.cell? ⟨w6.heap.size, 0, none⟩ = some (.slice xa xn xc) ∧ w'.cell? ⟨w8.heap.size, 0, none⟩ = some (.slice ya yn yc)) (by kernel_rfl) (by rw [hzw]; exact hS) (fun hHeld => ?_)
    rw [hzw]
    clear hHeld hzw
    refine wpAnyH_take (i := 0) (oi := { dst := some 75, op := Op.move (Operand.tmp 7), type := 4, pos := "laws.go:1378", after := #[], guard := none }) (v := ?_) rfl (by kernel_rfl) (by kernel_rfl) (by kernel_rfl) (fun _ _ _ h => h) (Or.inl ⟨by rfl, ?_⟩) (by assumption) ?_
    rotate_left
    · intro w hSw
      (try dsimp only at hSw)
      first | (go_simp; done) | (go_simp; with_reducible rfl)
    (try simp only [Act.put, List.setIfInBounds_toArray, List.set_cons_zero, List.set_cons_succ])
    refine wpAnyH_take (i := 1) (oi := { dst := some 76, op := Op.move (Operand.tmp 9), type := 4, pos := "laws.go:1378", after := #[], guard := none }) (v := ?_) rfl (by kernel_rfl) (by kernel_rfl) (by kernel_rfl) (fun _ _ _ h => h) (Or.inl ⟨by rfl, ?_⟩) (by assumption) ?_
    rotate_left
    · intro w hSw
      (try dsimp only at hSw)
      first | (go_simp; done) | (go_simp; with_reducible rfl)
    (try simp only [Act.put, List.setIfInBounds_toArray, List.set_cons_zero, List.set_cons_succ])
    refine wpAnyH_take (i := 2) (oi := { dst := some 77, op := Op.binOp BinOp.eql 4 (Operand.tmp 75) (Operand.tmp 76) 4, type := 4, pos := "laws.go:1378", after := #[{ on := 0, ground := Ground.data }, { on := 1, ground := Ground.data }], guard := none }) (v := ?_) rfl (by kernel_rfl) (by kernel_rfl) (by kernel_rfl) (fun _ _ _ h => h) (Or.inl ⟨by rfl, ?_⟩) (by assumption) ?_
    rotate_left
    · intro w hSw
      (try dsimp only at hSw)
      first | (go_simp; done) | (go_simp; with_reducible rfl)
    (try simp only [Act.put, List.setIfInBounds_toArray, List.set_cons_zero, List.set_cons_succ])
    refine wpAnyH_take (i := 3) (oi := { dst := some 78, op := Op.move (Operand.tmp 77), type := 4, pos := "laws.go:1378", after := #[{ on := 2, ground := Ground.data }], guard := none }) (v := ?_) rfl (by kernel_rfl) (by kernel_rfl) (by kernel_rfl) (fun _ _ _ h => h) (Or.inl ⟨by rfl, ?_⟩) (by assumption) ?_
    rotate_left
    · intro w hSw
      (try dsimp only at hSw)
      first | (go_simp; done) | (go_simp; with_reducible rfl)
    (try simp only [Act.put, List.setIfInBounds_toArray, List.set_cons_zero, List.set_cons_succ])
    refine wpAnyH_take (i := 4) (oi := { dst := some 79, op := Op.load 66 (Operand.tmp 6), type := 66, pos := "laws.go:1378", after := #[{ on := 3, ground := Ground.guard }], guard := some (3, true) }) (v := ?_) rfl (by kernel_rfl) (by kernel_rfl) (by kernel_rfl) (fun _ _ _ h => h) (Or.inl ⟨by rfl, ?_⟩) (by assumption) ?_
    rotate_left
    · intro w hSw
      (try dsimp only at hSw)
      first | (go_simp; done) | (go_simp; with_reducible rfl)
    (try simp only [Act.put, List.setIfInBounds_toArray, List.set_cons_zero, List.set_cons_succ])
    refine wpAnyH_take (i := 5) (oi := { dst := some 80, op := Op.load 66 (Operand.tmp 8), type := 66, pos := "laws.go:1378", after := #[{ on := 3, ground := Ground.guard }], guard := some (3, true) }) (v := ?_) rfl (by kernel_rfl) (by kernel_rfl) (by kernel_rfl) (fun _ _ _ h => h) (Or.inl ⟨by rfl, ?_⟩) (by assumption) ?_
    rotate_left
    · intro w hSw
      (try dsimp only at hSw)
      first | (go_simp; done) | (go_simp; with_reducible rfl)
    (try simp only [Act.put, List.setIfInBounds_toArray, List.set_cons_zero, List.set_cons_succ])
    refine wpAnyH_ready (rs := [6]) (by kernel_rfl) (by simp) ?_
    refine AllReadyH.cons (o := { dst := some 81, op := Op.call { callee := Callee.value (Operand.func 66), args := #[Operand.tmp 79, Operand.tmp 80], argTypes := #[66, 66] }, type := 4, pos := "laws.go:1378", after := #[{ on := 4, ground := Ground.data }, { on := 5, ground := Ground.data }, { on := 3, ground := Ground.chain }, { on := 3, ground := Ground.guard }], guard := some (3, true) }) rfl (fun K hK => ?_) AllReadyH.nil
    go_simp
    go_at_call 66
    refine (sameAcks w20 w20.heap.size w20.heap.size none none 0 0 0 0 [] [] (irows_nil _ _ _) (irows_nil _ _ _) (Nat.le_refl _) (Nat.le_refl _) (by omega) (by omega) (fun i hi => absurd hi (Nat.not_lt_zero _)) (fun i hi => absurd hi (Nat.not_lt_zero _))).mono ?_
    rintro e w21 ⟨rfl, hb⟩
    rw [decide_eq_true rfl]
    have hs21 := hb.size
    have HRa21 := Lib.hid (HRa20.out.below hb (by omega))
    have HY21 := Lib.hid (HY20.out.below hb (by omega))
    have HB21 := Lib.hid (HB20.out.trans (hb.mono (by omega)))
    have HXa21 := Lib.hid ((hb.block _ (lt_of_block HXa20.out)).trans HXa20.out)
    have HXn21 := Lib.hid ((hb.block _ (lt_of_block HXn20.out)).trans HXn20.out)
    have HXt21 := Lib.hid ((hb.block _ (lt_of_block HXt20.out)).trans HXt20.out)
    have HRx21 := Lib.hid (HRx20.out.below hb (by omega))
    have HXx21 := Lib.hid ((hb.block _ (lt_of_block HXx20.out)).trans HXx20.out)
    have HRy21 := Lib.hid (HRy20.out.below hb (by omega))
    have HXy21 := Lib.hid ((hb.block _ (lt_of_block HXy20.out)).trans HXy20.out)
    clear hb HRa20 HY20 HB20 HXa20 HXn20 HXt20 HRx20 HXx20 HRy20 HXy20
    have hS2 : w21.cell? ⟨w2.heap.size, 0, none⟩ = some (.slice none 0 0) ∧ w21.cell? ⟨w4.heap.size, 0, none⟩ = some (.slice none 0 0) ∧ w21.cell? ⟨w6.heap.size, 0, none⟩ = some (.slice xa xn xc) ∧ w21.cell? ⟨w8.heap.size, 0, none⟩ = some (.slice ya yn yc) := ⟨one_cell HXn21.out, one_cell HXt21.out, one_cell HXx21.out, one_cell HXy21.out⟩
    refine hK.out _ _ hS2 (fun hHeld3 => ?_)
    clear hK K
    (try simp only [Act.put, List.setIfInBounds_toArray, List.set_cons_zero, List.set_cons_succ])
    clear hHeld3
    refine wpAnyH_take (i := 7) (oi := { dst := some 82, op := Op.pick (Operand.tmp 78) (Operand.tmp 81) (Operand.const (Value.bool false)), type := 4, pos := "laws.go:1378", after := #[{ on := 3, ground := Ground.data }, { on := 6, ground := Ground.data }], guard := none }) (v := ?_) rfl (by kernel_rfl) (by kernel_rfl) (by kernel_rfl) (fun _ _ _ h => h) (Or.inl ⟨by rfl, ?_⟩) (by assumption) ?_
    rotate_left
    · intro w hSw
      (try dsimp only at hSw)
      first | (go_simp; done) | (go_simp; with_reducible rfl)
    (try simp only [Act.put, List.setIfInBounds_toArray, List.set_cons_zero, List.set_cons_succ])
    refine wpAnyH_take (i := 8) (oi := { dst := some 83, op := Op.move (Operand.tmp 82), type := 4, pos := "laws.go:1378", after := #[{ on := 7, ground := Ground.data }, { on := 6, ground := Ground.chain }], guard := none }) (v := ?_) rfl (by kernel_rfl) (by kernel_rfl) (by kernel_rfl) (fun _ _ _ h => h) (Or.inl ⟨by rfl, ?_⟩) (by assumption) ?_
    rotate_left
    · intro w hSw
      (try dsimp only at hSw)
      first | (go_simp; done) | (go_simp; with_reducible rfl)
    (try simp only [Act.put, List.setIfInBounds_toArray, List.set_cons_zero, List.set_cons_succ])
    refine wpAnyH_take (i := 9) (oi := { dst := some 84, op := Op.load 66 (Operand.tmp 10), type := 66, pos := "laws.go:1378", after := #[{ on := 8, ground := Ground.guard }], guard := some (8, true) }) (v := ?_) rfl (by kernel_rfl) (by kernel_rfl) (by kernel_rfl) (fun _ _ _ h => h) (Or.inl ⟨by rfl, ?_⟩) (by assumption) ?_
    rotate_left
    · intro w hSw
      (try dsimp only at hSw)
      first | (go_simp; done) | (go_simp; with_reducible rfl)
    (try simp only [Act.put, List.setIfInBounds_toArray, List.set_cons_zero, List.set_cons_succ])
    refine wpAnyH_take (i := 11) (oi := { dst := some 86, op := Op.load 66 (Operand.tmp 10), type := 66, pos := "laws.go:1378", after := #[{ on := 8, ground := Ground.guard }], guard := some (8, true) }) (v := ?_) rfl (by kernel_rfl) (by kernel_rfl) (by kernel_rfl) (fun _ _ _ h => h) (Or.inl ⟨by rfl, ?_⟩) (by assumption) ?_
    rotate_left
    · intro w hSw
      (try dsimp only at hSw)
      first | (go_simp; done) | (go_simp; with_reducible rfl)
    (try simp only [Act.put, List.setIfInBounds_toArray, List.set_cons_zero, List.set_cons_succ])
    refine wpAnyH_ready (rs := [10]) (by kernel_rfl) (by simp) ?_
    refine AllReadyH.cons (o := { dst := some 85, op := Op.call { callee := Callee.value (Operand.func 67), args := #[Operand.tmp 84], argTypes := #[66] }, type := 4, pos := "laws.go:1378", after := #[{ on := 9, ground := Ground.data }, { on := 8, ground := Ground.chain }, { on := 8, ground := Ground.guard }], guard := some (8, true) }) rfl (fun K hK => ?_) AllReadyH.nil
    go_simp
    go_at_call 67
    refine (implAcksOk w21 w21.heap.size xa xn xc xl (HRx21.out.mores (by omega)) (Nat.le_refl _) HSx.out).mono ?_
    rintro e w22 ⟨rfl, hb⟩
    have hs22 := hb.size
    have HRa22 := Lib.hid (HRa21.out.below hb (by omega))
    have HY22 := Lib.hid (HY21.out.below hb (by omega))
    have HB22 := Lib.hid (HB21.out.trans (hb.mono (by omega)))
    have HXa22 := Lib.hid ((hb.block _ (lt_of_block HXa21.out)).trans HXa21.out)
    have HXn22 := Lib.hid ((hb.block _ (lt_of_block HXn21.out)).trans HXn21.out)
    have HXt22 := Lib.hid ((hb.block _ (lt_of_block HXt21.out)).trans HXt21.out)
    have HRx22 := Lib.hid (HRx21.out.below hb (by omega))
    have HXx22 := Lib.hid ((hb.block _ (lt_of_block HXx21.out)).trans HXx21.out)
    have HRy22 := Lib.hid (HRy21.out.below hb (by omega))
    have HXy22 := Lib.hid ((hb.block _ (lt_of_block HXy21.out)).trans HXy21.out)
    clear hb HRa21 HY21 HB21 HXa21 HXn21 HXt21 HRx21 HXx21 HRy21 HXy21
    have hS4 : w22.cell? ⟨w2.heap.size, 0, none⟩ = some (.slice none 0 0) ∧ w22.cell? ⟨w4.heap.size, 0, none⟩ = some (.slice none 0 0) ∧ w22.cell? ⟨w6.heap.size, 0, none⟩ = some (.slice xa xn xc) ∧ w22.cell? ⟨w8.heap.size, 0, none⟩ = some (.slice ya yn yc) := ⟨one_cell HXn22.out, one_cell HXt22.out, one_cell HXx22.out, one_cell HXy22.out⟩
    refine hK.out _ _ hS4 (fun hHeld5 => ?_)
    clear hK K
    (try simp only [Act.put, List.setIfInBounds_toArray, List.set_cons_zero, List.set_cons_succ])
    clear hHeld5
    refine wpAnyH_ready (rs := [12]) (by kernel_rfl) (by simp) ?_
    refine AllReadyH.cons (o := { dst := some 87, op := Op.call { callee := Callee.value (Operand.func 61), args := #[Operand.tmp 86], argTypes := #[66] }, type := 4, pos := "laws.go:1378", after := #[{ on := 11, ground := Ground.data }, { on := 10, ground := Ground.chain }, { on := 8, ground := Ground.guard }], guard := some (8, true) }) rfl (fun K hK => ?_) AllReadyH.nil
    go_simp
    go_at_call 61
    refine (specAcksOk w22 w22.heap.size xa xn xc xl (HRx22.out.mores (by omega)) (Nat.le_refl _) (by omega) HSx.out).mono ?_
    rintro e w23 ⟨rfl, hb⟩
    have hs23 := hb.size
    have HRa23 := Lib.hid (HRa22.out.below hb (by omega))
    have HY23 := Lib.hid (HY22.out.below hb (by omega))
    have HB23 := Lib.hid (HB22.out.trans (hb.mono (by omega)))
    have HXa23 := Lib.hid ((hb.block _ (lt_of_block HXa22.out)).trans HXa22.out)
    have HXn23 := Lib.hid ((hb.block _ (lt_of_block HXn22.out)).trans HXn22.out)
    have HXt23 := Lib.hid ((hb.block _ (lt_of_block HXt22.out)).trans HXt22.out)
    have HRx23 := Lib.hid (HRx22.out.below hb (by omega))
    have HXx23 := Lib.hid ((hb.block _ (lt_of_block HXx22.out)).trans HXx22.out)
    have HRy23 := Lib.hid (HRy22.out.below hb (by omega))
    have HXy23 := Lib.hid ((hb.block _ (lt_of_block HXy22.out)).trans HXy22.out)
    clear hb HRa22 HY22 HB22 HXa22 HXn22 HXt22 HRx22 HXx22 HRy22 HXy22
    have hS6 : w23.cell? ⟨w2.heap.size, 0, none⟩ = some (.slice none 0 0) ∧ w23.cell? ⟨w4.heap.size, 0, none⟩ = some (.slice none 0 0) ∧ w23.cell? ⟨w6.heap.size, 0, none⟩ = some (.slice xa xn xc) ∧ w23.cell? ⟨w8.heap.size, 0, none⟩ = some (.slice ya yn yc) := ⟨one_cell HXn23.out, one_cell HXt23.out, one_cell HXx23.out, one_cell HXy23.out⟩
    refine hK.out _ _ hS6 (fun hHeld7 => ?_)
    clear hK K
    (try simp only [Act.put, List.setIfInBounds_toArray, List.set_cons_zero, List.set_cons_succ])
    clear hHeld7
    refine wpAnyH_take (i := 13) (oi := { dst := some 88, op := Op.binOp BinOp.eql 4 (Operand.tmp 85) (Operand.tmp 87) 4, type := 4, pos := "laws.go:1378", after := #[{ on := 10, ground := Ground.data }, { on := 12, ground := Ground.data }, { on := 8, ground := Ground.guard }], guard := some (8, true) }) (v := ?_) rfl (by kernel_rfl) (by kernel_rfl) (by kernel_rfl) (fun _ _ _ h => h) (Or.inl ⟨by rfl, ?_⟩) (by assumption) ?_
    rotate_left
    · intro w hSw
      (try dsimp only at hSw)
      first | (go_simp; done) | (go_simp; with_reducible rfl)
    (try simp only [Act.put, List.setIfInBounds_toArray, List.set_cons_zero, List.set_cons_succ])
    refine wpAnyH_take (i := 14) (oi := { dst := some 89, op := Op.pick (Operand.tmp 83) (Operand.tmp 88) (Operand.const (Value.bool false)), type := 4, pos := "laws.go:1378", after := #[{ on := 8, ground := Ground.data }, { on := 13, ground := Ground.data }], guard := none }) (v := ?_) rfl (by kernel_rfl) (by kernel_rfl) (by kernel_rfl) (fun _ _ _ h => h) (Or.inl ⟨by rfl, ?_⟩) (by assumption) ?_
    rotate_left
    · intro w hSw
      (try dsimp only at hSw)
      first | (go_simp; done) | (go_simp; with_reducible rfl)
    (try simp only [Act.put, List.setIfInBounds_toArray, List.set_cons_zero, List.set_cons_succ])
    refine wpAnyH_take (i := 15) (oi := { dst := some 90, op := Op.move (Operand.tmp 89), type := 4, pos := "laws.go:1378", after := #[{ on := 14, ground := Ground.data }, { on := 12, ground := Ground.chain }], guard := none }) (v := ?_) rfl (by kernel_rfl) (by kernel_rfl) (by kernel_rfl) (fun _ _ _ h => h) (Or.inl ⟨by rfl, ?_⟩) (by assumption) ?_
    rotate_left
    · intro w hSw
      (try dsimp only at hSw)
      first | (go_simp; done) | (go_simp; with_reducible rfl)
    (try simp only [Act.put, List.setIfInBounds_toArray, List.set_cons_zero, List.set_cons_succ])
    refine wpAnyH_take (i := 16) (oi := { dst := some 91, op := Op.load 66 (Operand.tmp 11), type := 66, pos := "laws.go:1378", after := #[{ on := 15, ground := Ground.guard }], guard := some (15, true) }) (v := ?_) rfl (by kernel_rfl) (by kernel_rfl) (by kernel_rfl) (fun _ _ _ h => h) (Or.inl ⟨by rfl, ?_⟩) (by assumption) ?_
    rotate_left
    · intro w hSw
      (try dsimp only at hSw)
      first | (go_simp; done) | (go_simp; with_reducible rfl)
    (try simp only [Act.put, List.setIfInBounds_toArray, List.set_cons_zero, List.set_cons_succ])
    refine wpAnyH_take (i := 18) (oi := { dst := some 93, op := Op.load 66 (Operand.tmp 11), type := 66, pos := "laws.go:1378", after := #[{ on := 15, ground := Ground.guard }], guard := some (15, true) }) (v := ?_) rfl (by kernel_rfl) (by kernel_rfl) (by kernel_rfl) (fun _ _ _ h => h) (Or.inl ⟨by rfl, ?_⟩) (by assumption) ?_
    rotate_left
    · intro w hSw
      (try dsimp only at hSw)
      first | (go_simp; done) | (go_simp; with_reducible rfl)
    (try simp only [Act.put, List.setIfInBounds_toArray, List.set_cons_zero, List.set_cons_succ])
    refine wpAnyH_ready (rs := [17]) (by kernel_rfl) (by simp) ?_
    refine AllReadyH.cons (o := { dst := some 92, op := Op.call { callee := Callee.value (Operand.func 59), args := #[Operand.tmp 91], argTypes := #[66] }, type := 24, pos := "laws.go:1378", after := #[{ on := 16, ground := Ground.data }, { on := 15, ground := Ground.chain }, { on := 15, ground := Ground.guard }], guard := some (15, true) }) rfl (fun K hK => ?_) AllReadyH.nil
    go_simp
    go_at_call 59
    refine (implStable w23 w23.heap.size ya yn yc yl (HRy23.out.mores (by omega)) (Nat.le_refl _) HSy.out).mono ?_
    rintro e w24 ⟨s1, sc1, rfl, ho, hb⟩
    have hs24 := hb.size
    have HRa24 := Lib.hid (HRa23.out.below hb (by omega))
    have HY24 := Lib.hid (HY23.out.below hb (by omega))
    have HB24 := Lib.hid (HB23.out.trans (hb.mono (by omega)))
    have HXa24 := Lib.hid ((hb.block _ (lt_of_block HXa23.out)).trans HXa23.out)
    have HXn24 := Lib.hid ((hb.block _ (lt_of_block HXn23.out)).trans HXn23.out)
    have HXt24 := Lib.hid ((hb.block _ (lt_of_block HXt23.out)).trans HXt23.out)
    have HRx24 := Lib.hid (HRx23.out.below hb (by omega))
    have HXx24 := Lib.hid ((hb.block _ (lt_of_block HXx23.out)).trans HXx23.out)
    have HRy24 := Lib.hid (HRy23.out.below hb (by omega))
    have HXy24 := Lib.hid ((hb.block _ (lt_of_block HXy23.out)).trans HXy23.out)
    clear hb HRa23 HY23 HB23 HXa23 HXn23 HXt23 HRx23 HXx23 HRy23 HXy23
    have HT124 := Lib.hid ho.ints
    have hS8 : w24.cell? ⟨w2.heap.size, 0, none⟩ = some (.slice none 0 0) ∧ w24.cell? ⟨w4.heap.size, 0, none⟩ = some (.slice none 0 0) ∧ w24.cell? ⟨w6.heap.size, 0, none⟩ = some (.slice xa xn xc) ∧ w24.cell? ⟨w8.heap.size, 0, none⟩ = some (.slice ya yn yc) := ⟨one_cell HXn24.out, one_cell HXt24.out, one_cell HXx24.out, one_cell HXy24.out⟩
    refine hK.out _ _ hS8 (fun hHeld9 => ?_)
    clear hK K
    (try simp only [Act.put, List.setIfInBounds_toArray, List.set_cons_zero, List.set_cons_succ])
    clear hHeld9
    refine wpAnyH_ready (rs := [19]) (by kernel_rfl) (by simp) ?_
    refine AllReadyH.cons (o := { dst := some 94, op := Op.call { callee := Callee.value (Operand.func 60), args := #[Operand.tmp 93], argTypes := #[66] }, type := 24, pos := "laws.go:1378", after := #[{ on := 18, ground := Ground.data }, { on := 17, ground := Ground.chain }, { on := 15, ground := Ground.guard }], guard := some (15, true) }) rfl (fun K hK => ?_) AllReadyH.nil
    go_simp
    go_at_call 60
    refine (specStable w24 w24.heap.size ya yn yc yl (HRy24.out.mores (by omega)) (Nat.le_refl _) (by omega) HSy.out).mono ?_
    rintro e w25 ⟨s2, sc2, rfl, ho2, hb⟩
    have hs25 := hb.size
    have HRa25 := Lib.hid (HRa24.out.below hb (by omega))
    have HY25 := Lib.hid (HY24.out.below hb (by omega))
    have HB25 := Lib.hid (HB24.out.trans (hb.mono (by omega)))
    have HXa25 := Lib.hid ((hb.block _ (lt_of_block HXa24.out)).trans HXa24.out)
    have HXn25 := Lib.hid ((hb.block _ (lt_of_block HXn24.out)).trans HXn24.out)
    have HXt25 := Lib.hid ((hb.block _ (lt_of_block HXt24.out)).trans HXt24.out)
    have HRx25 := Lib.hid (HRx24.out.below hb (by omega))
    have HXx25 := Lib.hid ((hb.block _ (lt_of_block HXx24.out)).trans HXx24.out)
    have HRy25 := Lib.hid (HRy24.out.below hb (by omega))
    have HXy25 := Lib.hid ((hb.block _ (lt_of_block HXy24.out)).trans HXy24.out)
    have HT125 := Lib.hid (HT124.out.below hb (by omega))
    clear hb HRa24 HY24 HB24 HXa24 HXn24 HXt24 HRx24 HXx24 HRy24 HXy24 HT124
    have HT225 := Lib.hid ho2.ints
    have hS10 : w25.cell? ⟨w2.heap.size, 0, none⟩ = some (.slice none 0 0) ∧ w25.cell? ⟨w4.heap.size, 0, none⟩ = some (.slice none 0 0) ∧ w25.cell? ⟨w6.heap.size, 0, none⟩ = some (.slice xa xn xc) ∧ w25.cell? ⟨w8.heap.size, 0, none⟩ = some (.slice ya yn yc) := ⟨one_cell HXn25.out, one_cell HXt25.out, one_cell HXx25.out, one_cell HXy25.out⟩
    refine hK.out _ _ hS10 (fun hHeld11 => ?_)
    clear hK K
    (try simp only [Act.put, List.setIfInBounds_toArray, List.set_cons_zero, List.set_cons_succ])
    clear hHeld11
    refine wpAnyH_ready (rs := [20]) (by kernel_rfl) (by simp) ?_
    refine AllReadyH.cons (o := { dst := some 95, op := Op.call { callee := Callee.value (Operand.func 20), args := #[Operand.tmp 92, Operand.tmp 94], argTypes := #[24, 24] }, type := 4, pos := "laws.go:1378", after := #[{ on := 17, ground := Ground.data }, { on := 19, ground := Ground.data }, { on := 19, ground := Ground.chain }, { on := 15, ground := Ground.guard }], guard := some (15, true) }) rfl (fun K hK => ?_) AllReadyH.nil
    go_simp
    go_at_call 20
    refine (sameInts w25 w25.heap.size w25.heap.size s1 s2 (stableL yl).length sc1 (stableL yl).length sc2 (stableL yl) (stableL yl) (HT125.out.more (by omega)) (HT225.out.more (by omega)) (by have := HSt.out; omega) (by have := HSt.out; omega)).mono ?_
    rintro e w26 ⟨rfl, hsm⟩
    have hb : Below w25.heap.size w25 w26 := hsm.below _
    clear hsm
    rw [decide_eq_true rfl]
    have hs26 := hb.size
    have HRa26 := Lib.hid (HRa25.out.below hb (by omega))
    have HY26 := Lib.hid (HY25.out.below hb (by omega))
    have HB26 := Lib.hid (HB25.out.trans (hb.mono (by omega)))
    have HXa26 := Lib.hid ((hb.block _ (lt_of_block HXa25.out)).trans HXa25.out)
    have HXn26 := Lib.hid ((hb.block _ (lt_of_block HXn25.out)).trans HXn25.out)
    have HXt26 := Lib.hid ((hb.block _ (lt_of_block HXt25.out)).trans HXt25.out)
    have HRx26 := Lib.hid (HRx25.out.below hb (by omega))
    have HXx26 := Lib.hid ((hb.block _ (lt_of_block HXx25.out)).trans HXx25.out)
    have HRy26 := Lib.hid (HRy25.out.below hb (by omega))
    have HXy26 := Lib.hid ((hb.block _ (lt_of_block HXy25.out)).trans HXy25.out)
    have HT126 := Lib.hid (HT125.out.below hb (by omega))
    have HT226 := Lib.hid (HT225.out.below hb (by omega))
    clear hb HRa25 HY25 HB25 HXa25 HXn25 HXt25 HRx25 HXx25 HRy25 HXy25 HT125 HT225
    have hS12 : w26.cell? ⟨w2.heap.size, 0, none⟩ = some (.slice none 0 0) ∧ w26.cell? ⟨w4.heap.size, 0, none⟩ = some (.slice none 0 0) ∧ w26.cell? ⟨w6.heap.size, 0, none⟩ = some (.slice xa xn xc) ∧ w26.cell? ⟨w8.heap.size, 0, none⟩ = some (.slice ya yn yc) := ⟨one_cell HXn26.out, one_cell HXt26.out, one_cell HXx26.out, one_cell HXy26.out⟩
    refine hK.out _ _ hS12 (fun hHeld13 => ?_)
    clear hK K
    (try simp only [Act.put, List.setIfInBounds_toArray, List.set_cons_zero, List.set_cons_succ])
    clear hHeld13
    refine wpAnyH_take (i := 21) (oi := { dst := some 96, op := Op.pick (Operand.tmp 90) (Operand.tmp 95) (Operand.const (Value.bool false)), type := 4, pos := "laws.go:1378", after := #[{ on := 15, ground := Ground.data }, { on := 20, ground := Ground.data }], guard := none }) (v := ?_) rfl (by kernel_rfl) (by kernel_rfl) (by kernel_rfl) (fun _ _ _ h => h) (Or.inl ⟨by rfl, ?_⟩) (by assumption) ?_
    rotate_left
    · intro w hSw
      (try dsimp only at hSw)
      first | (go_simp; done) | (go_simp; with_reducible rfl)
    (try simp only [Act.put, List.setIfInBounds_toArray, List.set_cons_zero, List.set_cons_succ])
    refine wpAnyH_take (i := 22) (oi := { dst := some 97, op := Op.move (Operand.tmp 96), type := 4, pos := "laws.go:1378", after := #[{ on := 21, ground := Ground.data }, { on := 20, ground := Ground.chain }], guard := none }) (v := ?_) rfl (by kernel_rfl) (by kernel_rfl) (by kernel_rfl) (fun _ _ _ h => h) (Or.inl ⟨by rfl, ?_⟩) (by assumption) ?_
    rotate_left
    · intro w hSw
      (try dsimp only at hSw)
      first | (go_simp; done) | (go_simp; with_reducible rfl)
    (try simp only [Act.put, List.setIfInBounds_toArray, List.set_cons_zero, List.set_cons_succ])
    refine wpAnyH_ready (rs := [23]) (by kernel_rfl) (by simp) ?_
    refine AllReadyH.cons (o := { dst := some 98, op := Op.call { callee := Callee.value (Operand.func 68), args := #[], argTypes := #[] }, type := 66, pos := "laws.go:1378", after := #[{ on := 22, ground := Ground.chain }, { on := 22, ground := Ground.guard }], guard := some (22, true) }) rfl (fun K hK => ?_) AllReadyH.nil
    go_simp
    go_at_call 68
    refine ((implAcksNew w26).mono fun _ _ h => ackNew4 h).mono ?_
    rintro e w27 ⟨ng1, nc1, nf1, rfl, hra, hb⟩
    have hs27 := hb.size
    have HRa27 := Lib.hid (HRa26.out.below hb (by omega))
    have HY27 := Lib.hid (HY26.out.below hb (by omega))
    have HB27 := Lib.hid (HB26.out.trans (hb.mono (by omega)))
    have HXa27 := Lib.hid ((hb.block _ (lt_of_block HXa26.out)).trans HXa26.out)
    have HXn27 := Lib.hid ((hb.block _ (lt_of_block HXn26.out)).trans HXn26.out)
    have HXt27 := Lib.hid ((hb.block _ (lt_of_block HXt26.out)).trans HXt26.out)
    have HRx27 := Lib.hid (HRx26.out.below hb (by omega))
    have HXx27 := Lib.hid ((hb.block _ (lt_of_block HXx26.out)).trans HXx26.out)
    have HRy27 := Lib.hid (HRy26.out.below hb (by omega))
    have HXy27 := Lib.hid ((hb.block _ (lt_of_block HXy26.out)).trans HXy26.out)
    have HT127 := Lib.hid (HT126.out.below hb (by omega))
    have HT227 := Lib.hid (HT226.out.below hb (by omega))
    clear hb HRa26 HY26 HB26 HXa26 HXn26 HXt26 HRx26 HXx26 HRy26 HXy26 HT126 HT226
    have HN127 := Lib.hid (hra.irows (rfl : newAcks.length = 4))
    have hS14 : w27.cell? ⟨w2.heap.size, 0, none⟩ = some (.slice none 0 0) ∧ w27.cell? ⟨w4.heap.size, 0, none⟩ = some (.slice none 0 0) ∧ w27.cell? ⟨w6.heap.size, 0, none⟩ = some (.slice xa xn xc) ∧ w27.cell? ⟨w8.heap.size, 0, none⟩ = some (.slice ya yn yc) := ⟨one_cell HXn27.out, one_cell HXt27.out, one_cell HXx27.out, one_cell HXy27.out⟩
    refine hK.out _ _ hS14 (fun hHeld15 => ?_)
    clear hK K
    (try simp only [Act.put, List.setIfInBounds_toArray, List.set_cons_zero, List.set_cons_succ])
    clear hHeld15
    refine wpAnyH_ready (rs := [24]) (by kernel_rfl) (by simp) ?_
    refine AllReadyH.cons (o := { dst := some 99, op := Op.call { callee := Callee.value (Operand.func 69), args := #[], argTypes := #[] }, type := 66, pos := "laws.go:1378", after := #[{ on := 23, ground := Ground.chain }, { on := 22, ground := Ground.guard }], guard := some (22, true) }) rfl (fun K hK => ?_) AllReadyH.nil
    go_simp
    go_at_call 69
    refine ((specAcksNew w27).mono fun _ _ h => ackNew4 h).mono ?_
    rintro e w28 ⟨ng2, nc2, nf2, rfl, hra2, hb⟩
    have hs28 := hb.size
    have HRa28 := Lib.hid (HRa27.out.below hb (by omega))
    have HY28 := Lib.hid (HY27.out.below hb (by omega))
    have HB28 := Lib.hid (HB27.out.trans (hb.mono (by omega)))
    have HXa28 := Lib.hid ((hb.block _ (lt_of_block HXa27.out)).trans HXa27.out)
    have HXn28 := Lib.hid ((hb.block _ (lt_of_block HXn27.out)).trans HXn27.out)
    have HXt28 := Lib.hid ((hb.block _ (lt_of_block HXt27.out)).trans HXt27.out)
    have HRx28 := Lib.hid (HRx27.out.below hb (by omega))
    have HXx28 := Lib.hid ((hb.block _ (lt_of_block HXx27.out)).trans HXx27.out)
    have HRy28 := Lib.hid (HRy27.out.below hb (by omega))
    have HXy28 := Lib.hid ((hb.block _ (lt_of_block HXy27.out)).trans HXy27.out)
    have HT128 := Lib.hid (HT127.out.below hb (by omega))
    have HT228 := Lib.hid (HT227.out.below hb (by omega))
    have HN128 := Lib.hid (HN127.out.below hb (by omega))
    clear hb HRa27 HY27 HB27 HXa27 HXn27 HXt27 HRx27 HXx27 HRy27 HXy27 HT127 HT227 HN127
    have HN228 := Lib.hid (hra2.irows (rfl : newAcks.length = 4))
    have hS16 : w28.cell? ⟨w2.heap.size, 0, none⟩ = some (.slice none 0 0) ∧ w28.cell? ⟨w4.heap.size, 0, none⟩ = some (.slice none 0 0) ∧ w28.cell? ⟨w6.heap.size, 0, none⟩ = some (.slice xa xn xc) ∧ w28.cell? ⟨w8.heap.size, 0, none⟩ = some (.slice ya yn yc) := ⟨one_cell HXn28.out, one_cell HXt28.out, one_cell HXx28.out, one_cell HXy28.out⟩
    refine hK.out _ _ hS16 (fun hHeld17 => ?_)
    clear hK K
    (try simp only [Act.put, List.setIfInBounds_toArray, List.set_cons_zero, List.set_cons_succ])
    clear hHeld17
    refine wpAnyH_ready (rs := [25]) (by kernel_rfl) (by simp) ?_
    refine AllReadyH.cons (o := { dst := some 100, op := Op.call { callee := Callee.value (Operand.func 66), args := #[Operand.tmp 98, Operand.tmp 99], argTypes := #[66, 66] }, type := 4, pos := "laws.go:1378", after := #[{ on := 23, ground := Ground.data }, { on := 24, ground := Ground.data }, { on := 24, ground := Ground.chain }, { on := 22, ground := Ground.guard }], guard := some (22, true) }) rfl (fun K hK => ?_) AllReadyH.nil
    go_simp
    go_at_call 66
    refine (sameAcks w28 w28.heap.size w28.heap.size (some ⟨ng1, 0, none⟩) (some ⟨ng2, 0, none⟩) 4 nc1 4 nc2 newAcks newAcks (HN128.out.mores (by omega)) (HN228.out.mores (by omega)) (Nat.le_refl _) (Nat.le_refl _) (by omega) (by omega) HNw.out HNw.out).mono ?_
    rintro e w29 ⟨rfl, hb⟩
    rw [decide_eq_true rfl]
    have hs29 := hb.size
    have HRa29 := Lib.hid (HRa28.out.below hb (by omega))
    have HY29 := Lib.hid (HY28.out.below hb (by omega))
    have HB29 := Lib.hid (HB28.out.trans (hb.mono (by omega)))
    have HXa29 := Lib.hid ((hb.block _ (lt_of_block HXa28.out)).trans HXa28.out)
    have HXn29 := Lib.hid ((hb.block _ (lt_of_block HXn28.out)).trans HXn28.out)
    have HXt29 := Lib.hid ((hb.block _ (lt_of_block HXt28.out)).trans HXt28.out)
    have HRx29 := Lib.hid (HRx28.out.below hb (by omega))
    have HXx29 := Lib.hid ((hb.block _ (lt_of_block HXx28.out)).trans HXx28.out)
    have HRy29 := Lib.hid (HRy28.out.below hb (by omega))
    have HXy29 := Lib.hid ((hb.block _ (lt_of_block HXy28.out)).trans HXy28.out)
    have HT129 := Lib.hid (HT128.out.below hb (by omega))
    have HT229 := Lib.hid (HT228.out.below hb (by omega))
    have HN129 := Lib.hid (HN128.out.below hb (by omega))
    have HN229 := Lib.hid (HN228.out.below hb (by omega))
    clear hb HRa28 HY28 HB28 HXa28 HXn28 HXt28 HRx28 HXx28 HRy28 HXy28 HT128 HT228 HN128 HN228
    have hS18 : w29.cell? ⟨w2.heap.size, 0, none⟩ = some (.slice none 0 0) ∧ w29.cell? ⟨w4.heap.size, 0, none⟩ = some (.slice none 0 0) ∧ w29.cell? ⟨w6.heap.size, 0, none⟩ = some (.slice xa xn xc) ∧ w29.cell? ⟨w8.heap.size, 0, none⟩ = some (.slice ya yn yc) := ⟨one_cell HXn29.out, one_cell HXt29.out, one_cell HXx29.out, one_cell HXy29.out⟩
    refine hK.out _ _ hS18 (fun hHeld19 => ?_)
    clear hK K
    (try simp only [Act.put, List.setIfInBounds_toArray, List.set_cons_zero, List.set_cons_succ])
    clear hHeld19
    refine wpAnyH_take (i := 26) (oi := { dst := some 101, op := Op.pick (Operand.tmp 97) (Operand.tmp 100) (Operand.const (Value.bool false)), type := 4, pos := "laws.go:1378", after := #[{ on := 22, ground := Ground.data }, { on := 25, ground := Ground.data }], guard := none }) (v := ?_) rfl (by kernel_rfl) (by kernel_rfl) (by kernel_rfl) (fun _ _ _ h => h) (Or.inl ⟨by rfl, ?_⟩) (by assumption) ?_
    rotate_left
    · intro w hSw
      (try dsimp only at hSw)
      first | (go_simp; done) | (go_simp; with_reducible rfl)
    (try simp only [Act.put, List.setIfInBounds_toArray, List.set_cons_zero, List.set_cons_succ])
    refine wpAnyH_take (i := 27) (oi := { dst := some 2, op := Op.assign (Operand.tmp 101), type := 4, pos := "laws.go:1378", after := #[{ on := 26, ground := Ground.data }, { on := 25, ground := Ground.chain }, { on := 0, ground := Ground.phase }, { on := 1, ground := Ground.phase }, { on := 2, ground := Ground.phase }, { on := 3, ground := Ground.phase }, { on := 4, ground := Ground.phase }, { on := 5, ground := Ground.phase }, { on := 6, ground := Ground.phase }, { on := 7, ground := Ground.phase }, { on := 8, ground := Ground.phase }, { on := 9, ground := Ground.phase }, { on := 10, ground := Ground.phase }, { on := 11, ground := Ground.phase }, { on := 12, ground := Ground.phase }, { on := 13, ground := Ground.phase }, { on := 14, ground := Ground.phase }, { on := 15, ground := Ground.phase }, { on := 16, ground := Ground.phase }, { on := 17, ground := Ground.phase }, { on := 18, ground := Ground.phase }, { on := 19, ground := Ground.phase }, { on := 20, ground := Ground.phase }, { on := 21, ground := Ground.phase }, { on := 22, ground := Ground.phase }, { on := 23, ground := Ground.phase }, { on := 24, ground := Ground.phase }, { on := 25, ground := Ground.phase }, { on := 26, ground := Ground.phase }], guard := none }) (v := ?_) rfl (by kernel_rfl) (by kernel_rfl) (by kernel_rfl) (fun _ _ _ h => h) (Or.inl ⟨by rfl, ?_⟩) (by assumption) ?_
    rotate_left
    · intro w hSw
      (try dsimp only at hSw)
      first | (go_simp; done) | (go_simp; with_reducible rfl)
    (try simp only [Act.put, List.setIfInBounds_toArray, List.set_cons_zero, List.set_cons_succ])
    refine wpAnyH_done (by kernel_rfl) ?_ _
    go_wp2
    go_ret
    exact ⟨rfl, HB29.out⟩
  · skip
    obtain ⟨hal, hyo, d, hd4, hdv⟩ := heardB_parts HbH.out
    subst hdv
    have hl4 : l.length = 4 := (ack_row hal (i := 0) (by omega)).2
    obtain rfl : n = 4 := by rw [← HRa1.out.1]; exact hl4
    have hf := heard_facts hal hd4 hyo
    obtain ⟨KR, hKR⟩ : ∃ KR, heardRows l d ys = KR := ⟨_, rfl⟩
    rw [hKR] at hf
    have HK := Lib.hid hKR
    obtain ⟨hkO, hkA, hkV, hkR, hkS, hkE⟩ := hf
    have HkA := Lib.hid hkA
    have HkV := Lib.hid hkV
    have HkR := Lib.hid hkR
    have HkS := Lib.hid hkS
    have HkE := Lib.hid hkE
    have HkH : Hid (heardB KR (d : Int) ys = true) := heard_yes hkO (by unfold inB; exact decide_eq_true (by omega)) hyo
    have hK4 : KR.length = 4 := (ack_row hkO (i := 0) (by omega)).2
    have HSk : Hid (∀ i, i < 4 → (rowOf KR i).length ≤ 1048576) := fun i hi => by have := vec_len (ack_row hkO hi).1; omega
    have HK4 := Lib.hid hK4
    have hsl : (stableL l).length ≤ 4 := by have := vec_len (stable_vec hal); omega
    have hsk : (stableL KR).length ≤ 4 := by have := vec_len (stable_vec hkO); omega
    clear hKR hal hyo hkO hkA hkV hkR hkS hkE hl4 hK4
    have q0 := one_cell HXa1.out
    go_wp2_with fail
    refine (implHeard w1 w1.heap.size aa av 4 c nv cv (d : Int) l ys (HRa1.out.mores (by omega)) (HY1.out.more (by omega)) (Nat.le_refl _) (by omega) (by omega) HSa.out).mono ?_
    rintro e w2 ⟨⟨_, d', mg, mc, mf, _, hdd, rfl, hra⟩ | ⟨hno, _⟩, hb⟩
    rotate_left
    · rw [HbH.out] at hno; cases hno
    obtain rfl : d = d' := by omega
    rw [HK.out] at hra
    clear hdd
    clear q0
    have hs2 := hb.size
    have HRa2 := Lib.hid (HRa1.out.below hb (by omega))
    have HY2 := Lib.hid (HY1.out.below hb (by omega))
    have HB2 := Lib.hid (HB1.out.trans (hb.mono (by omega)))
    have HXa2 := Lib.hid ((hb.block _ (lt_of_block HXa1.out)).trans HXa1.out)
    clear hb HRa1 HY1 HB1 HXa1
    have HRm2 := Lib.hid (hra.irows HK4.out)
    clear hra
    go_upto_region 5 with fail
    have hb : Below w2.heap.size w2 (w2.alloc (.cells #[.slice (some ⟨mg, 0, none⟩) 4 mc] 66)) := (Below.refl _ _).alloc (Nat.le_refl _) _
    have HXn3 := Lib.hid (heap_alloc_new w2 (.cells #[.slice (some ⟨mg, 0, none⟩) 4 mc] 66))
    generalize w2.alloc (.cells #[.slice (some ⟨mg, 0, none⟩) 4 mc] 66) = w3 at hb HXn3 ⊢
    have hs3 := hb.size
    have HRa3 := Lib.hid (HRa2.out.below hb (by omega))
    have HY3 := Lib.hid (HY2.out.below hb (by omega))
    have HB3 := Lib.hid (HB2.out.trans (hb.mono (by omega)))
    have HXa3 := Lib.hid ((hb.block _ (lt_of_block HXa2.out)).trans HXa2.out)
    have HRm3 := Lib.hid (HRm2.out.below hb (by omega))
    clear hb HRa2 HY2 HB2 HXa2 HRm2
    have q0 := one_cell HXa3.out
    go_wp2_with fail
    refine (specHeard w3 w3.heap.size aa av 4 c nv cv (d : Int) l ys (HRa3.out.mores (by omega)) (HY3.out.more (by omega)) (Nat.le_refl _) (by omega) (by omega) HSa.out).mono ?_
    rintro e w4 ⟨⟨_, d', tg, tc, tf, _, hdd, rfl, hra⟩ | ⟨hno, _⟩, hb⟩
    rotate_left
    · rw [HbH.out] at hno; cases hno
    obtain rfl : d = d' := by omega
    rw [HK.out] at hra
    clear hdd
    clear q0
    have hs4 := hb.size
    have HRa4 := Lib.hid (HRa3.out.below hb (by omega))
    have HY4 := Lib.hid (HY3.out.below hb (by omega))
    have HB4 := Lib.hid (HB3.out.trans (hb.mono (by omega)))
    have HXa4 := Lib.hid ((hb.block _ (lt_of_block HXa3.out)).trans HXa3.out)
    have HRm4 := Lib.hid (HRm3.out.below hb (by omega))
    have HXn4 := Lib.hid ((hb.block _ (lt_of_block HXn3.out)).trans HXn3.out)
    clear hb HRa3 HY3 HB3 HXa3 HRm3 HXn3
    have HRt4 := Lib.hid (hra.irows HK4.out)
    clear hra
    go_upto_region 6 with fail
    have hb : Below w4.heap.size w4 (w4.alloc (.cells #[.slice (some ⟨tg, 0, none⟩) 4 tc] 66)) := (Below.refl _ _).alloc (Nat.le_refl _) _
    have HXt5 := Lib.hid (heap_alloc_new w4 (.cells #[.slice (some ⟨tg, 0, none⟩) 4 tc] 66))
    generalize w4.alloc (.cells #[.slice (some ⟨tg, 0, none⟩) 4 tc] 66) = w5 at hb HXt5 ⊢
    have hs5 := hb.size
    have HRa5 := Lib.hid (HRa4.out.below hb (by omega))
    have HY5 := Lib.hid (HY4.out.below hb (by omega))
    have HB5 := Lib.hid (HB4.out.trans (hb.mono (by omega)))
    have HXa5 := Lib.hid ((hb.block _ (lt_of_block HXa4.out)).trans HXa4.out)
    have HRm5 := Lib.hid (HRm4.out.below hb (by omega))
    have HXn5 := Lib.hid ((hb.block _ (lt_of_block HXn4.out)).trans HXn4.out)
    have HRt5 := Lib.hid (HRt4.out.below hb (by omega))
    clear hb HRa4 HY4 HB4 HXa4 HRm4 HXn4 HRt4
    go_wp2_with fail
    refine (drawAcksOk w5 w.heap.size a len cap (by have := HB5.out.size; omega) (src_below hsrc.out HB5.out)).mono ?_
    rintro e w6 ⟨xa, xn, xc, xX, xl, hxn, rfl, hrows, hb⟩
    have HRx := Lib.hid hrows.irows
    have HSx : Hid (∀ i, i < xn → (rowOf xl i).length ≤ 1048576) := fun i hi => Nat.le_trans (hrows.short i hi) (by omega)
    clear hrows
    dsimp only
    have hs6 := hb.size
    have HRa6 := Lib.hid (HRa5.out.below hb (by omega))
    have HY6 := Lib.hid (HY5.out.below hb (by omega))
    have HB6 := Lib.hid (HB5.out.trans (hb.mono (by omega)))
    have HXa6 := Lib.hid ((hb.block _ (lt_of_block HXa5.out)).trans HXa5.out)
    have HRm6 := Lib.hid (HRm5.out.below hb (by omega))
    have HXn6 := Lib.hid ((hb.block _ (lt_of_block HXn5.out)).trans HXn5.out)
    have HRt6 := Lib.hid (HRt5.out.below hb (by omega))
    have HXt6 := Lib.hid ((hb.block _ (lt_of_block HXt5.out)).trans HXt5.out)
    clear hb HRa5 HY5 HB5 HXa5 HRm5 HXn5 HRt5 HXt5
    have HRx6 := HRx
    clear HRx
    go_upto_region 7 with fail
    have hb : Below w6.heap.size w6 (w6.alloc (.cells #[.slice xa xn xc] 66)) := (Below.refl _ _).alloc (Nat.le_refl _) _
    have HXx7 := Lib.hid (heap_alloc_new w6 (.cells #[.slice xa xn xc] 66))
    generalize w6.alloc (.cells #[.slice xa xn xc] 66) = w7 at hb HXx7 ⊢
    have hs7 := hb.size
    have HRa7 := Lib.hid (HRa6.out.below hb (by omega))
    have HY7 := Lib.hid (HY6.out.below hb (by omega))
    have HB7 := Lib.hid (HB6.out.trans (hb.mono (by omega)))
    have HXa7 := Lib.hid ((hb.block _ (lt_of_block HXa6.out)).trans HXa6.out)
    have HRm7 := Lib.hid (HRm6.out.below hb (by omega))
    have HXn7 := Lib.hid ((hb.block _ (lt_of_block HXn6.out)).trans HXn6.out)
    have HRt7 := Lib.hid (HRt6.out.below hb (by omega))
    have HXt7 := Lib.hid ((hb.block _ (lt_of_block HXt6.out)).trans HXt6.out)
    have HRx7 := Lib.hid (HRx6.out.below hb (by omega))
    clear hb HRa6 HY6 HB6 HXa6 HRm6 HXn6 HRt6 HXt6 HRx6
    go_wp2_with fail
    refine (drawStable w7 w.heap.size a len cap (by have := HB7.out.size; omega) (src_below hsrc.out HB7.out)).mono ?_
    rintro e w8 ⟨ya, yn, yc, yX, yl, hyn, rfl, hrows, hb⟩
    have HRy := Lib.hid hrows.irows
    have HSy : Hid (∀ i, i < yn → (rowOf yl i).length ≤ 1048576) := fun i hi => Nat.le_trans (hrows.short i hi) (by omega)
    clear hrows
    dsimp only
    have hs8 := hb.size
    have HRa8 := Lib.hid (HRa7.out.below hb (by omega))
    have HY8 := Lib.hid (HY7.out.below hb (by omega))
    have HB8 := Lib.hid (HB7.out.trans (hb.mono (by omega)))
    have HXa8 := Lib.hid ((hb.block _ (lt_of_block HXa7.out)).trans HXa7.out)
    have HRm8 := Lib.hid (HRm7.out.below hb (by omega))
    have HXn8 := Lib.hid ((hb.block _ (lt_of_block HXn7.out)).trans HXn7.out)
    have HRt8 := Lib.hid (HRt7.out.below hb (by omega))
    have HXt8 := Lib.hid ((hb.block _ (lt_of_block HXt7.out)).trans HXt7.out)
    have HRx8 := Lib.hid (HRx7.out.below hb (by omega))
    have HXx8 := Lib.hid ((hb.block _ (lt_of_block HXx7.out)).trans HXx7.out)
    clear hb HRa7 HY7 HB7 HXa7 HRm7 HXn7 HRt7 HXt7 HRx7 HXx7
    have HRy8 := HRy
    clear HRy
    go_upto_region 8 with fail
    have hb : Below w8.heap.size w8 (w8.alloc (.cells #[.slice ya yn yc] 66)) := (Below.refl _ _).alloc (Nat.le_refl _) _
    have HXy9 := Lib.hid (heap_alloc_new w8 (.cells #[.slice ya yn yc] 66))
    generalize w8.alloc (.cells #[.slice ya yn yc] 66) = w9 at hb HXy9 ⊢
    have hs9 := hb.size
    have HRa9 := Lib.hid (HRa8.out.below hb (by omega))
    have HY9 := Lib.hid (HY8.out.below hb (by omega))
    have HB9 := Lib.hid (HB8.out.trans (hb.mono (by omega)))
    have HXa9 := Lib.hid ((hb.block _ (lt_of_block HXa8.out)).trans HXa8.out)
    have HRm9 := Lib.hid (HRm8.out.below hb (by omega))
    have HXn9 := Lib.hid ((hb.block _ (lt_of_block HXn8.out)).trans HXn8.out)
    have HRt9 := Lib.hid (HRt8.out.below hb (by omega))
    have HXt9 := Lib.hid ((hb.block _ (lt_of_block HXt8.out)).trans HXt8.out)
    have HRx9 := Lib.hid (HRx8.out.below hb (by omega))
    have HXx9 := Lib.hid ((hb.block _ (lt_of_block HXx8.out)).trans HXx8.out)
    have HRy9 := Lib.hid (HRy8.out.below hb (by omega))
    clear hb HRa8 HY8 HB8 HXa8 HRm8 HXn8 HRt8 HXt8 HRx8 HXx8 HRy8
    have HSt : Hid ((stableL yl).length ≤ 4) := by
      show _ ≤ 4
      cases hk : ackOk yl
      · rw [stable_no hk]; exact Nat.zero_le _
      · have := vec_len (stable_vec hk); omega
    obtain ⟨w10, hzw⟩ : ∃ z, w9.drew = z := ⟨_, rfl⟩
    have hb : Below w9.heap.size w9 w10 := by rw [← hzw]; exact ⟨rfl, rfl, rfl, Nat.le_refl _, fun _ _ => rfl⟩
    have hs10 := hb.size
    have HRa10 := Lib.hid (HRa9.out.below hb (by omega))
    have HY10 := Lib.hid (HY9.out.below hb (by omega))
    have HB10 := Lib.hid (HB9.out.trans (hb.mono (by omega)))
    have HXa10 := Lib.hid ((hb.block _ (lt_of_block HXa9.out)).trans HXa9.out)
    have HRm10 := Lib.hid (HRm9.out.below hb (by omega))
    have HXn10 := Lib.hid ((hb.block _ (lt_of_block HXn9.out)).trans HXn9.out)
    have HRt10 := Lib.hid (HRt9.out.below hb (by omega))
    have HXt10 := Lib.hid ((hb.block _ (lt_of_block HXt9.out)).trans HXt9.out)
    have HRx10 := Lib.hid (HRx9.out.below hb (by omega))
    have HXx10 := Lib.hid ((hb.block _ (lt_of_block HXx9.out)).trans HXx9.out)
    have HRy10 := Lib.hid (HRy9.out.below hb (by omega))
    have HXy10 := Lib.hid ((hb.block _ (lt_of_block HXy9.out)).trans HXy9.out)
    clear hb HRa9 HY9 HB9 HXa9 HRm9 HXn9 HRt9 HXt9 HRx9 HXx9 HRy9 HXy9
    have hS : w10.cell? ⟨w2.heap.size, 0, none⟩ = some (.slice (some ⟨mg, 0, none⟩) 4 mc) ∧ w10.cell? ⟨w4.heap.size, 0, none⟩ = some (.slice (some ⟨tg, 0, none⟩) 4 tc) ∧ w10.cell? ⟨w6.heap.size, 0, none⟩ = some (.slice xa xn xc) ∧ w10.cell? ⟨w8.heap.size, 0, none⟩ = some (.slice ya yn yc) := ⟨one_cell HXn10.out, one_cell HXt10.out, one_cell HXx10.out, one_cell HXy10.out⟩
    refine wp_region_held_drew (S := fun w' => w'.cell? ⟨w2.heap.size, 0, none⟩ = some (.slice (some ⟨mg, 0, none⟩) 4 mc) ∧ w'.cell? ⟨w4.heap.size, 0, none⟩ = some (.slice (some ⟨tg, 0, none⟩) 4 tc) ∧ w'.cell? ⟨w6.heap.size, 0, none⟩ = some (.slice xa xn xc) ∧ w'.cell? ⟨w8.heap.size, 0, none⟩ = some (.slice ya yn yc)) (by kernel_rfl) (by rw [hzw]; exact hS) (fun hHeld => ?_)
    rw [hzw]
    clear hHeld hzw
    refine wpAnyH_take (i := 0) (oi := { dst := some 41, op := Op.move (Operand.tmp 7), type := 4, pos := "laws.go:1377", after := #[], guard := none }) (v := ?_) rfl (by kernel_rfl) (by kernel_rfl) (by kernel_rfl) (fun _ _ _ h => h) (Or.inl ⟨by rfl, ?_⟩) (by assumption) ?_
    rotate_left
    · intro w hSw
      (try dsimp only at hSw)
      first | (go_simp; done) | (go_simp; with_reducible rfl)
    (try simp only [Act.put, List.setIfInBounds_toArray, List.set_cons_zero, List.set_cons_succ])
    refine wpAnyH_take (i := 1) (oi := { dst := some 42, op := Op.move (Operand.tmp 9), type := 4, pos := "laws.go:1377", after := #[], guard := none }) (v := ?_) rfl (by kernel_rfl) (by kernel_rfl) (by kernel_rfl) (fun _ _ _ h => h) (Or.inl ⟨by rfl, ?_⟩) (by assumption) ?_
    rotate_left
    · intro w hSw
      (try dsimp only at hSw)
      first | (go_simp; done) | (go_simp; with_reducible rfl)
    (try simp only [Act.put, List.setIfInBounds_toArray, List.set_cons_zero, List.set_cons_succ])
    refine wpAnyH_take (i := 2) (oi := { dst := some 43, op := Op.binOp BinOp.neq 4 (Operand.tmp 41) (Operand.tmp 42) 4, type := 4, pos := "laws.go:1377", after := #[{ on := 0, ground := Ground.data }, { on := 1, ground := Ground.data }], guard := none }) (v := ?_) rfl (by kernel_rfl) (by kernel_rfl) (by kernel_rfl) (fun _ _ _ h => h) (Or.inl ⟨by rfl, ?_⟩) (by assumption) ?_
    rotate_left
    · intro w hSw
      (try dsimp only at hSw)
      first | (go_simp; done) | (go_simp; with_reducible rfl)
    (try simp only [Act.put, List.setIfInBounds_toArray, List.set_cons_zero, List.set_cons_succ])
    refine wpAnyH_take (i := 3) (oi := { dst := some 44, op := Op.move (Operand.tmp 43), type := 4, pos := "laws.go:1377", after := #[{ on := 2, ground := Ground.data }], guard := none }) (v := ?_) rfl (by kernel_rfl) (by kernel_rfl) (by kernel_rfl) (fun _ _ _ h => h) (Or.inl ⟨by rfl, ?_⟩) (by assumption) ?_
    rotate_left
    · intro w hSw
      (try dsimp only at hSw)
      first | (go_simp; done) | (go_simp; with_reducible rfl)
    (try simp only [Act.put, List.setIfInBounds_toArray, List.set_cons_zero, List.set_cons_succ])
    refine wpAnyH_take (i := 4) (oi := { dst := some 45, op := Op.load 66 (Operand.tmp 6), type := 66, pos := "laws.go:1377", after := #[{ on := 3, ground := Ground.guard }], guard := some (3, false) }) (v := ?_) rfl (by kernel_rfl) (by kernel_rfl) (by kernel_rfl) (fun _ _ _ h => h) (Or.inl ⟨by rfl, ?_⟩) (by assumption) ?_
    rotate_left
    · intro w hSw
      (try dsimp only at hSw)
      first | (go_simp; done) | (go_simp; with_reducible rfl)
    (try simp only [Act.put, List.setIfInBounds_toArray, List.set_cons_zero, List.set_cons_succ])
    refine wpAnyH_take (i := 5) (oi := { dst := some 46, op := Op.load 66 (Operand.tmp 8), type := 66, pos := "laws.go:1377", after := #[{ on := 3, ground := Ground.guard }], guard := some (3, false) }) (v := ?_) rfl (by kernel_rfl) (by kernel_rfl) (by kernel_rfl) (fun _ _ _ h => h) (Or.inl ⟨by rfl, ?_⟩) (by assumption) ?_
    rotate_left
    · intro w hSw
      (try dsimp only at hSw)
      first | (go_simp; done) | (go_simp; with_reducible rfl)
    (try simp only [Act.put, List.setIfInBounds_toArray, List.set_cons_zero, List.set_cons_succ])
    refine wpAnyH_ready (rs := [6]) (by kernel_rfl) (by simp) ?_
    refine AllReadyH.cons (o := { dst := some 47, op := Op.call { callee := Callee.value (Operand.func 66), args := #[Operand.tmp 45, Operand.tmp 46], argTypes := #[66, 66] }, type := 4, pos := "laws.go:1377", after := #[{ on := 4, ground := Ground.data }, { on := 5, ground := Ground.data }, { on := 3, ground := Ground.chain }, { on := 3, ground := Ground.guard }], guard := some (3, false) }) rfl (fun K hK => ?_) AllReadyH.nil
    go_simp
    go_at_call 66
    refine (sameAcks w10 w10.heap.size w10.heap.size (some ⟨mg, 0, none⟩) (some ⟨tg, 0, none⟩) 4 mc 4 tc KR KR (HRm10.out.mores (by omega)) (HRt10.out.mores (by omega)) (Nat.le_refl _) (Nat.le_refl _) (by omega) (by omega) HSk.out HSk.out).mono ?_
    rintro e w11 ⟨rfl, hb⟩
    rw [decide_eq_true rfl]
    have hs11 := hb.size
    have HRa11 := Lib.hid (HRa10.out.below hb (by omega))
    have HY11 := Lib.hid (HY10.out.below hb (by omega))
    have HB11 := Lib.hid (HB10.out.trans (hb.mono (by omega)))
    have HXa11 := Lib.hid ((hb.block _ (lt_of_block HXa10.out)).trans HXa10.out)
    have HRm11 := Lib.hid (HRm10.out.below hb (by omega))
    have HXn11 := Lib.hid ((hb.block _ (lt_of_block HXn10.out)).trans HXn10.out)
    have HRt11 := Lib.hid (HRt10.out.below hb (by omega))
    have HXt11 := Lib.hid ((hb.block _ (lt_of_block HXt10.out)).trans HXt10.out)
    have HRx11 := Lib.hid (HRx10.out.below hb (by omega))
    have HXx11 := Lib.hid ((hb.block _ (lt_of_block HXx10.out)).trans HXx10.out)
    have HRy11 := Lib.hid (HRy10.out.below hb (by omega))
    have HXy11 := Lib.hid ((hb.block _ (lt_of_block HXy10.out)).trans HXy10.out)
    clear hb HRa10 HY10 HB10 HXa10 HRm10 HXn10 HRt10 HXt10 HRx10 HXx10 HRy10 HXy10
    have hS2 : w11.cell? ⟨w2.heap.size, 0, none⟩ = some (.slice (some ⟨mg, 0, none⟩) 4 mc) ∧ w11.cell? ⟨w4.heap.size, 0, none⟩ = some (.slice (some ⟨tg, 0, none⟩) 4 tc) ∧ w11.cell? ⟨w6.heap.size, 0, none⟩ = some (.slice xa xn xc) ∧ w11.cell? ⟨w8.heap.size, 0, none⟩ = some (.slice ya yn yc) := ⟨one_cell HXn11.out, one_cell HXt11.out, one_cell HXx11.out, one_cell HXy11.out⟩
    refine hK.out _ _ hS2 (fun hHeld3 => ?_)
    clear hK K
    (try simp only [Act.put, List.setIfInBounds_toArray, List.set_cons_zero, List.set_cons_succ])
    clear hHeld3
    refine wpAnyH_take (i := 7) (oi := { dst := some 48, op := Op.unOp UnOp.not 4 (Operand.tmp 47), type := 4, pos := "laws.go:1377", after := #[{ on := 6, ground := Ground.data }, { on := 3, ground := Ground.guard }], guard := some (3, false) }) (v := ?_) rfl (by kernel_rfl) (by kernel_rfl) (by kernel_rfl) (fun _ _ _ h => h) (Or.inl ⟨by rfl, ?_⟩) (by assumption) ?_
    rotate_left
    · intro w hSw
      (try dsimp only at hSw)
      first | (go_simp; done) | (go_simp; with_reducible rfl)
    (try simp only [Act.put, List.setIfInBounds_toArray, List.set_cons_zero, List.set_cons_succ])
    refine wpAnyH_take (i := 8) (oi := { dst := some 49, op := Op.pick (Operand.tmp 44) (Operand.const (Value.bool true)) (Operand.tmp 48), type := 4, pos := "laws.go:1377", after := #[{ on := 3, ground := Ground.data }, { on := 7, ground := Ground.data }], guard := none }) (v := ?_) rfl (by kernel_rfl) (by kernel_rfl) (by kernel_rfl) (fun _ _ _ h => h) (Or.inl ⟨by rfl, ?_⟩) (by assumption) ?_
    rotate_left
    · intro w hSw
      (try dsimp only at hSw)
      first | (go_simp; done) | (go_simp; with_reducible rfl)
    (try simp only [Act.put, List.setIfInBounds_toArray, List.set_cons_zero, List.set_cons_succ])
    refine wpAnyH_take (i := 9) (oi := { dst := some 50, op := Op.move (Operand.tmp 49), type := 4, pos := "laws.go:1377", after := #[{ on := 8, ground := Ground.data }, { on := 6, ground := Ground.chain }], guard := none }) (v := ?_) rfl (by kernel_rfl) (by kernel_rfl) (by kernel_rfl) (fun _ _ _ h => h) (Or.inl ⟨by rfl, ?_⟩) (by assumption) ?_
    rotate_left
    · intro w hSw
      (try dsimp only at hSw)
      first | (go_simp; done) | (go_simp; with_reducible rfl)
    (try simp only [Act.put, List.setIfInBounds_toArray, List.set_cons_zero, List.set_cons_succ])
    refine wpAnyH_take (i := 10) (oi := { dst := some 51, op := Op.load 66 (Operand.tmp 10), type := 66, pos := "laws.go:1377", after := #[{ on := 9, ground := Ground.guard }], guard := some (9, false) }) (v := ?_) rfl (by kernel_rfl) (by kernel_rfl) (by kernel_rfl) (fun _ _ _ h => h) (Or.inl ⟨by rfl, ?_⟩) (by assumption) ?_
    rotate_left
    · intro w hSw
      (try dsimp only at hSw)
      first | (go_simp; done) | (go_simp; with_reducible rfl)
    (try simp only [Act.put, List.setIfInBounds_toArray, List.set_cons_zero, List.set_cons_succ])
    refine wpAnyH_take (i := 12) (oi := { dst := some 53, op := Op.load 66 (Operand.tmp 10), type := 66, pos := "laws.go:1377", after := #[{ on := 9, ground := Ground.guard }], guard := some (9, false) }) (v := ?_) rfl (by kernel_rfl) (by kernel_rfl) (by kernel_rfl) (fun _ _ _ h => h) (Or.inl ⟨by rfl, ?_⟩) (by assumption) ?_
    rotate_left
    · intro w hSw
      (try dsimp only at hSw)
      first | (go_simp; done) | (go_simp; with_reducible rfl)
    (try simp only [Act.put, List.setIfInBounds_toArray, List.set_cons_zero, List.set_cons_succ])
    refine wpAnyH_ready (rs := [11]) (by kernel_rfl) (by simp) ?_
    refine AllReadyH.cons (o := { dst := some 52, op := Op.call { callee := Callee.value (Operand.func 67), args := #[Operand.tmp 51], argTypes := #[66] }, type := 4, pos := "laws.go:1377", after := #[{ on := 10, ground := Ground.data }, { on := 9, ground := Ground.chain }, { on := 9, ground := Ground.guard }], guard := some (9, false) }) rfl (fun K hK => ?_) AllReadyH.nil
    go_simp
    go_at_call 67
    refine (implAcksOk w11 w11.heap.size xa xn xc xl (HRx11.out.mores (by omega)) (Nat.le_refl _) HSx.out).mono ?_
    rintro e w12 ⟨rfl, hb⟩
    have hs12 := hb.size
    have HRa12 := Lib.hid (HRa11.out.below hb (by omega))
    have HY12 := Lib.hid (HY11.out.below hb (by omega))
    have HB12 := Lib.hid (HB11.out.trans (hb.mono (by omega)))
    have HXa12 := Lib.hid ((hb.block _ (lt_of_block HXa11.out)).trans HXa11.out)
    have HRm12 := Lib.hid (HRm11.out.below hb (by omega))
    have HXn12 := Lib.hid ((hb.block _ (lt_of_block HXn11.out)).trans HXn11.out)
    have HRt12 := Lib.hid (HRt11.out.below hb (by omega))
    have HXt12 := Lib.hid ((hb.block _ (lt_of_block HXt11.out)).trans HXt11.out)
    have HRx12 := Lib.hid (HRx11.out.below hb (by omega))
    have HXx12 := Lib.hid ((hb.block _ (lt_of_block HXx11.out)).trans HXx11.out)
    have HRy12 := Lib.hid (HRy11.out.below hb (by omega))
    have HXy12 := Lib.hid ((hb.block _ (lt_of_block HXy11.out)).trans HXy11.out)
    clear hb HRa11 HY11 HB11 HXa11 HRm11 HXn11 HRt11 HXt11 HRx11 HXx11 HRy11 HXy11
    have hS4 : w12.cell? ⟨w2.heap.size, 0, none⟩ = some (.slice (some ⟨mg, 0, none⟩) 4 mc) ∧ w12.cell? ⟨w4.heap.size, 0, none⟩ = some (.slice (some ⟨tg, 0, none⟩) 4 tc) ∧ w12.cell? ⟨w6.heap.size, 0, none⟩ = some (.slice xa xn xc) ∧ w12.cell? ⟨w8.heap.size, 0, none⟩ = some (.slice ya yn yc) := ⟨one_cell HXn12.out, one_cell HXt12.out, one_cell HXx12.out, one_cell HXy12.out⟩
    refine hK.out _ _ hS4 (fun hHeld5 => ?_)
    clear hK K
    (try simp only [Act.put, List.setIfInBounds_toArray, List.set_cons_zero, List.set_cons_succ])
    clear hHeld5
    refine wpAnyH_ready (rs := [13]) (by kernel_rfl) (by simp) ?_
    refine AllReadyH.cons (o := { dst := some 54, op := Op.call { callee := Callee.value (Operand.func 61), args := #[Operand.tmp 53], argTypes := #[66] }, type := 4, pos := "laws.go:1377", after := #[{ on := 12, ground := Ground.data }, { on := 11, ground := Ground.chain }, { on := 9, ground := Ground.guard }], guard := some (9, false) }) rfl (fun K hK => ?_) AllReadyH.nil
    go_simp
    go_at_call 61
    refine (specAcksOk w12 w12.heap.size xa xn xc xl (HRx12.out.mores (by omega)) (Nat.le_refl _) (by omega) HSx.out).mono ?_
    rintro e w13 ⟨rfl, hb⟩
    have hs13 := hb.size
    have HRa13 := Lib.hid (HRa12.out.below hb (by omega))
    have HY13 := Lib.hid (HY12.out.below hb (by omega))
    have HB13 := Lib.hid (HB12.out.trans (hb.mono (by omega)))
    have HXa13 := Lib.hid ((hb.block _ (lt_of_block HXa12.out)).trans HXa12.out)
    have HRm13 := Lib.hid (HRm12.out.below hb (by omega))
    have HXn13 := Lib.hid ((hb.block _ (lt_of_block HXn12.out)).trans HXn12.out)
    have HRt13 := Lib.hid (HRt12.out.below hb (by omega))
    have HXt13 := Lib.hid ((hb.block _ (lt_of_block HXt12.out)).trans HXt12.out)
    have HRx13 := Lib.hid (HRx12.out.below hb (by omega))
    have HXx13 := Lib.hid ((hb.block _ (lt_of_block HXx12.out)).trans HXx12.out)
    have HRy13 := Lib.hid (HRy12.out.below hb (by omega))
    have HXy13 := Lib.hid ((hb.block _ (lt_of_block HXy12.out)).trans HXy12.out)
    clear hb HRa12 HY12 HB12 HXa12 HRm12 HXn12 HRt12 HXt12 HRx12 HXx12 HRy12 HXy12
    have hS6 : w13.cell? ⟨w2.heap.size, 0, none⟩ = some (.slice (some ⟨mg, 0, none⟩) 4 mc) ∧ w13.cell? ⟨w4.heap.size, 0, none⟩ = some (.slice (some ⟨tg, 0, none⟩) 4 tc) ∧ w13.cell? ⟨w6.heap.size, 0, none⟩ = some (.slice xa xn xc) ∧ w13.cell? ⟨w8.heap.size, 0, none⟩ = some (.slice ya yn yc) := ⟨one_cell HXn13.out, one_cell HXt13.out, one_cell HXx13.out, one_cell HXy13.out⟩
    refine hK.out _ _ hS6 (fun hHeld7 => ?_)
    clear hK K
    (try simp only [Act.put, List.setIfInBounds_toArray, List.set_cons_zero, List.set_cons_succ])
    clear hHeld7
    refine wpAnyH_take (i := 14) (oi := { dst := some 55, op := Op.binOp BinOp.neq 4 (Operand.tmp 52) (Operand.tmp 54) 4, type := 4, pos := "laws.go:1377", after := #[{ on := 11, ground := Ground.data }, { on := 13, ground := Ground.data }, { on := 9, ground := Ground.guard }], guard := some (9, false) }) (v := ?_) rfl (by kernel_rfl) (by kernel_rfl) (by kernel_rfl) (fun _ _ _ h => h) (Or.inl ⟨by rfl, ?_⟩) (by assumption) ?_
    rotate_left
    · intro w hSw
      (try dsimp only at hSw)
      first | (go_simp; done) | (go_simp; with_reducible rfl)
    (try simp only [Act.put, List.setIfInBounds_toArray, List.set_cons_zero, List.set_cons_succ])
    refine wpAnyH_take (i := 15) (oi := { dst := some 56, op := Op.pick (Operand.tmp 50) (Operand.const (Value.bool true)) (Operand.tmp 55), type := 4, pos := "laws.go:1377", after := #[{ on := 9, ground := Ground.data }, { on := 14, ground := Ground.data }], guard := none }) (v := ?_) rfl (by kernel_rfl) (by kernel_rfl) (by kernel_rfl) (fun _ _ _ h => h) (Or.inl ⟨by rfl, ?_⟩) (by assumption) ?_
    rotate_left
    · intro w hSw
      (try dsimp only at hSw)
      first | (go_simp; done) | (go_simp; with_reducible rfl)
    (try simp only [Act.put, List.setIfInBounds_toArray, List.set_cons_zero, List.set_cons_succ])
    refine wpAnyH_take (i := 16) (oi := { dst := some 57, op := Op.move (Operand.tmp 56), type := 4, pos := "laws.go:1377", after := #[{ on := 15, ground := Ground.data }, { on := 13, ground := Ground.chain }], guard := none }) (v := ?_) rfl (by kernel_rfl) (by kernel_rfl) (by kernel_rfl) (fun _ _ _ h => h) (Or.inl ⟨by rfl, ?_⟩) (by assumption) ?_
    rotate_left
    · intro w hSw
      (try dsimp only at hSw)
      first | (go_simp; done) | (go_simp; with_reducible rfl)
    (try simp only [Act.put, List.setIfInBounds_toArray, List.set_cons_zero, List.set_cons_succ])
    refine wpAnyH_take (i := 17) (oi := { dst := some 58, op := Op.load 66 (Operand.tmp 11), type := 66, pos := "laws.go:1377", after := #[{ on := 16, ground := Ground.guard }], guard := some (16, false) }) (v := ?_) rfl (by kernel_rfl) (by kernel_rfl) (by kernel_rfl) (fun _ _ _ h => h) (Or.inl ⟨by rfl, ?_⟩) (by assumption) ?_
    rotate_left
    · intro w hSw
      (try dsimp only at hSw)
      first | (go_simp; done) | (go_simp; with_reducible rfl)
    (try simp only [Act.put, List.setIfInBounds_toArray, List.set_cons_zero, List.set_cons_succ])
    refine wpAnyH_take (i := 19) (oi := { dst := some 60, op := Op.load 66 (Operand.tmp 11), type := 66, pos := "laws.go:1377", after := #[{ on := 16, ground := Ground.guard }], guard := some (16, false) }) (v := ?_) rfl (by kernel_rfl) (by kernel_rfl) (by kernel_rfl) (fun _ _ _ h => h) (Or.inl ⟨by rfl, ?_⟩) (by assumption) ?_
    rotate_left
    · intro w hSw
      (try dsimp only at hSw)
      first | (go_simp; done) | (go_simp; with_reducible rfl)
    (try simp only [Act.put, List.setIfInBounds_toArray, List.set_cons_zero, List.set_cons_succ])
    refine wpAnyH_ready (rs := [18]) (by kernel_rfl) (by simp) ?_
    refine AllReadyH.cons (o := { dst := some 59, op := Op.call { callee := Callee.value (Operand.func 59), args := #[Operand.tmp 58], argTypes := #[66] }, type := 24, pos := "laws.go:1377", after := #[{ on := 17, ground := Ground.data }, { on := 16, ground := Ground.chain }, { on := 16, ground := Ground.guard }], guard := some (16, false) }) rfl (fun K hK => ?_) AllReadyH.nil
    go_simp
    go_at_call 59
    refine (implStable w13 w13.heap.size ya yn yc yl (HRy13.out.mores (by omega)) (Nat.le_refl _) HSy.out).mono ?_
    rintro e w14 ⟨s1, sc1, rfl, ho, hb⟩
    have hs14 := hb.size
    have HRa14 := Lib.hid (HRa13.out.below hb (by omega))
    have HY14 := Lib.hid (HY13.out.below hb (by omega))
    have HB14 := Lib.hid (HB13.out.trans (hb.mono (by omega)))
    have HXa14 := Lib.hid ((hb.block _ (lt_of_block HXa13.out)).trans HXa13.out)
    have HRm14 := Lib.hid (HRm13.out.below hb (by omega))
    have HXn14 := Lib.hid ((hb.block _ (lt_of_block HXn13.out)).trans HXn13.out)
    have HRt14 := Lib.hid (HRt13.out.below hb (by omega))
    have HXt14 := Lib.hid ((hb.block _ (lt_of_block HXt13.out)).trans HXt13.out)
    have HRx14 := Lib.hid (HRx13.out.below hb (by omega))
    have HXx14 := Lib.hid ((hb.block _ (lt_of_block HXx13.out)).trans HXx13.out)
    have HRy14 := Lib.hid (HRy13.out.below hb (by omega))
    have HXy14 := Lib.hid ((hb.block _ (lt_of_block HXy13.out)).trans HXy13.out)
    clear hb HRa13 HY13 HB13 HXa13 HRm13 HXn13 HRt13 HXt13 HRx13 HXx13 HRy13 HXy13
    have HT114 := Lib.hid ho.ints
    have hS8 : w14.cell? ⟨w2.heap.size, 0, none⟩ = some (.slice (some ⟨mg, 0, none⟩) 4 mc) ∧ w14.cell? ⟨w4.heap.size, 0, none⟩ = some (.slice (some ⟨tg, 0, none⟩) 4 tc) ∧ w14.cell? ⟨w6.heap.size, 0, none⟩ = some (.slice xa xn xc) ∧ w14.cell? ⟨w8.heap.size, 0, none⟩ = some (.slice ya yn yc) := ⟨one_cell HXn14.out, one_cell HXt14.out, one_cell HXx14.out, one_cell HXy14.out⟩
    refine hK.out _ _ hS8 (fun hHeld9 => ?_)
    clear hK K
    (try simp only [Act.put, List.setIfInBounds_toArray, List.set_cons_zero, List.set_cons_succ])
    clear hHeld9
    refine wpAnyH_ready (rs := [20]) (by kernel_rfl) (by simp) ?_
    refine AllReadyH.cons (o := { dst := some 61, op := Op.call { callee := Callee.value (Operand.func 60), args := #[Operand.tmp 60], argTypes := #[66] }, type := 24, pos := "laws.go:1377", after := #[{ on := 19, ground := Ground.data }, { on := 18, ground := Ground.chain }, { on := 16, ground := Ground.guard }], guard := some (16, false) }) rfl (fun K hK => ?_) AllReadyH.nil
    go_simp
    go_at_call 60
    refine (specStable w14 w14.heap.size ya yn yc yl (HRy14.out.mores (by omega)) (Nat.le_refl _) (by omega) HSy.out).mono ?_
    rintro e w15 ⟨s2, sc2, rfl, ho2, hb⟩
    have hs15 := hb.size
    have HRa15 := Lib.hid (HRa14.out.below hb (by omega))
    have HY15 := Lib.hid (HY14.out.below hb (by omega))
    have HB15 := Lib.hid (HB14.out.trans (hb.mono (by omega)))
    have HXa15 := Lib.hid ((hb.block _ (lt_of_block HXa14.out)).trans HXa14.out)
    have HRm15 := Lib.hid (HRm14.out.below hb (by omega))
    have HXn15 := Lib.hid ((hb.block _ (lt_of_block HXn14.out)).trans HXn14.out)
    have HRt15 := Lib.hid (HRt14.out.below hb (by omega))
    have HXt15 := Lib.hid ((hb.block _ (lt_of_block HXt14.out)).trans HXt14.out)
    have HRx15 := Lib.hid (HRx14.out.below hb (by omega))
    have HXx15 := Lib.hid ((hb.block _ (lt_of_block HXx14.out)).trans HXx14.out)
    have HRy15 := Lib.hid (HRy14.out.below hb (by omega))
    have HXy15 := Lib.hid ((hb.block _ (lt_of_block HXy14.out)).trans HXy14.out)
    have HT115 := Lib.hid (HT114.out.below hb (by omega))
    clear hb HRa14 HY14 HB14 HXa14 HRm14 HXn14 HRt14 HXt14 HRx14 HXx14 HRy14 HXy14 HT114
    have HT215 := Lib.hid ho2.ints
    have hS10 : w15.cell? ⟨w2.heap.size, 0, none⟩ = some (.slice (some ⟨mg, 0, none⟩) 4 mc) ∧ w15.cell? ⟨w4.heap.size, 0, none⟩ = some (.slice (some ⟨tg, 0, none⟩) 4 tc) ∧ w15.cell? ⟨w6.heap.size, 0, none⟩ = some (.slice xa xn xc) ∧ w15.cell? ⟨w8.heap.size, 0, none⟩ = some (.slice ya yn yc) := ⟨one_cell HXn15.out, one_cell HXt15.out, one_cell HXx15.out, one_cell HXy15.out⟩
    refine hK.out _ _ hS10 (fun hHeld11 => ?_)
    clear hK K
    (try simp only [Act.put, List.setIfInBounds_toArray, List.set_cons_zero, List.set_cons_succ])
    clear hHeld11
    refine wpAnyH_ready (rs := [21]) (by kernel_rfl) (by simp) ?_
    refine AllReadyH.cons (o := { dst := some 62, op := Op.call { callee := Callee.value (Operand.func 20), args := #[Operand.tmp 59, Operand.tmp 61], argTypes := #[24, 24] }, type := 4, pos := "laws.go:1377", after := #[{ on := 18, ground := Ground.data }, { on := 20, ground := Ground.data }, { on := 20, ground := Ground.chain }, { on := 16, ground := Ground.guard }], guard := some (16, false) }) rfl (fun K hK => ?_) AllReadyH.nil
    go_simp
    go_at_call 20
    refine (sameInts w15 w15.heap.size w15.heap.size s1 s2 (stableL yl).length sc1 (stableL yl).length sc2 (stableL yl) (stableL yl) (HT115.out.more (by omega)) (HT215.out.more (by omega)) (by have := HSt.out; omega) (by have := HSt.out; omega)).mono ?_
    rintro e w16 ⟨rfl, hsm⟩
    have hb : Below w15.heap.size w15 w16 := hsm.below _
    clear hsm
    rw [decide_eq_true rfl]
    have hs16 := hb.size
    have HRa16 := Lib.hid (HRa15.out.below hb (by omega))
    have HY16 := Lib.hid (HY15.out.below hb (by omega))
    have HB16 := Lib.hid (HB15.out.trans (hb.mono (by omega)))
    have HXa16 := Lib.hid ((hb.block _ (lt_of_block HXa15.out)).trans HXa15.out)
    have HRm16 := Lib.hid (HRm15.out.below hb (by omega))
    have HXn16 := Lib.hid ((hb.block _ (lt_of_block HXn15.out)).trans HXn15.out)
    have HRt16 := Lib.hid (HRt15.out.below hb (by omega))
    have HXt16 := Lib.hid ((hb.block _ (lt_of_block HXt15.out)).trans HXt15.out)
    have HRx16 := Lib.hid (HRx15.out.below hb (by omega))
    have HXx16 := Lib.hid ((hb.block _ (lt_of_block HXx15.out)).trans HXx15.out)
    have HRy16 := Lib.hid (HRy15.out.below hb (by omega))
    have HXy16 := Lib.hid ((hb.block _ (lt_of_block HXy15.out)).trans HXy15.out)
    have HT116 := Lib.hid (HT115.out.below hb (by omega))
    have HT216 := Lib.hid (HT215.out.below hb (by omega))
    clear hb HRa15 HY15 HB15 HXa15 HRm15 HXn15 HRt15 HXt15 HRx15 HXx15 HRy15 HXy15 HT115 HT215
    have hS12 : w16.cell? ⟨w2.heap.size, 0, none⟩ = some (.slice (some ⟨mg, 0, none⟩) 4 mc) ∧ w16.cell? ⟨w4.heap.size, 0, none⟩ = some (.slice (some ⟨tg, 0, none⟩) 4 tc) ∧ w16.cell? ⟨w6.heap.size, 0, none⟩ = some (.slice xa xn xc) ∧ w16.cell? ⟨w8.heap.size, 0, none⟩ = some (.slice ya yn yc) := ⟨one_cell HXn16.out, one_cell HXt16.out, one_cell HXx16.out, one_cell HXy16.out⟩
    refine hK.out _ _ hS12 (fun hHeld13 => ?_)
    clear hK K
    (try simp only [Act.put, List.setIfInBounds_toArray, List.set_cons_zero, List.set_cons_succ])
    clear hHeld13
    refine wpAnyH_take (i := 22) (oi := { dst := some 63, op := Op.unOp UnOp.not 4 (Operand.tmp 62), type := 4, pos := "laws.go:1377", after := #[{ on := 21, ground := Ground.data }, { on := 16, ground := Ground.guard }], guard := some (16, false) }) (v := ?_) rfl (by kernel_rfl) (by kernel_rfl) (by kernel_rfl) (fun _ _ _ h => h) (Or.inl ⟨by rfl, ?_⟩) (by assumption) ?_
    rotate_left
    · intro w hSw
      (try dsimp only at hSw)
      first | (go_simp; done) | (go_simp; with_reducible rfl)
    (try simp only [Act.put, List.setIfInBounds_toArray, List.set_cons_zero, List.set_cons_succ])
    refine wpAnyH_take (i := 23) (oi := { dst := some 64, op := Op.pick (Operand.tmp 57) (Operand.const (Value.bool true)) (Operand.tmp 63), type := 4, pos := "laws.go:1377", after := #[{ on := 16, ground := Ground.data }, { on := 22, ground := Ground.data }], guard := none }) (v := ?_) rfl (by kernel_rfl) (by kernel_rfl) (by kernel_rfl) (fun _ _ _ h => h) (Or.inl ⟨by rfl, ?_⟩) (by assumption) ?_
    rotate_left
    · intro w hSw
      (try dsimp only at hSw)
      first | (go_simp; done) | (go_simp; with_reducible rfl)
    (try simp only [Act.put, List.setIfInBounds_toArray, List.set_cons_zero, List.set_cons_succ])
    refine wpAnyH_take (i := 24) (oi := { dst := some 65, op := Op.move (Operand.tmp 64), type := 4, pos := "laws.go:1377", after := #[{ on := 23, ground := Ground.data }, { on := 21, ground := Ground.chain }], guard := none }) (v := ?_) rfl (by kernel_rfl) (by kernel_rfl) (by kernel_rfl) (fun _ _ _ h => h) (Or.inl ⟨by rfl, ?_⟩) (by assumption) ?_
    rotate_left
    · intro w hSw
      (try dsimp only at hSw)
      first | (go_simp; done) | (go_simp; with_reducible rfl)
    (try simp only [Act.put, List.setIfInBounds_toArray, List.set_cons_zero, List.set_cons_succ])
    refine wpAnyH_ready (rs := [25]) (by kernel_rfl) (by simp) ?_
    refine AllReadyH.cons (o := { dst := some 66, op := Op.call { callee := Callee.value (Operand.func 68), args := #[], argTypes := #[] }, type := 66, pos := "laws.go:1377", after := #[{ on := 24, ground := Ground.chain }, { on := 24, ground := Ground.guard }], guard := some (24, false) }) rfl (fun K hK => ?_) AllReadyH.nil
    go_simp
    go_at_call 68
    refine ((implAcksNew w16).mono fun _ _ h => ackNew4 h).mono ?_
    rintro e w17 ⟨ng1, nc1, nf1, rfl, hra, hb⟩
    have hs17 := hb.size
    have HRa17 := Lib.hid (HRa16.out.below hb (by omega))
    have HY17 := Lib.hid (HY16.out.below hb (by omega))
    have HB17 := Lib.hid (HB16.out.trans (hb.mono (by omega)))
    have HXa17 := Lib.hid ((hb.block _ (lt_of_block HXa16.out)).trans HXa16.out)
    have HRm17 := Lib.hid (HRm16.out.below hb (by omega))
    have HXn17 := Lib.hid ((hb.block _ (lt_of_block HXn16.out)).trans HXn16.out)
    have HRt17 := Lib.hid (HRt16.out.below hb (by omega))
    have HXt17 := Lib.hid ((hb.block _ (lt_of_block HXt16.out)).trans HXt16.out)
    have HRx17 := Lib.hid (HRx16.out.below hb (by omega))
    have HXx17 := Lib.hid ((hb.block _ (lt_of_block HXx16.out)).trans HXx16.out)
    have HRy17 := Lib.hid (HRy16.out.below hb (by omega))
    have HXy17 := Lib.hid ((hb.block _ (lt_of_block HXy16.out)).trans HXy16.out)
    have HT117 := Lib.hid (HT116.out.below hb (by omega))
    have HT217 := Lib.hid (HT216.out.below hb (by omega))
    clear hb HRa16 HY16 HB16 HXa16 HRm16 HXn16 HRt16 HXt16 HRx16 HXx16 HRy16 HXy16 HT116 HT216
    have HN117 := Lib.hid (hra.irows (rfl : newAcks.length = 4))
    have hS14 : w17.cell? ⟨w2.heap.size, 0, none⟩ = some (.slice (some ⟨mg, 0, none⟩) 4 mc) ∧ w17.cell? ⟨w4.heap.size, 0, none⟩ = some (.slice (some ⟨tg, 0, none⟩) 4 tc) ∧ w17.cell? ⟨w6.heap.size, 0, none⟩ = some (.slice xa xn xc) ∧ w17.cell? ⟨w8.heap.size, 0, none⟩ = some (.slice ya yn yc) := ⟨one_cell HXn17.out, one_cell HXt17.out, one_cell HXx17.out, one_cell HXy17.out⟩
    refine hK.out _ _ hS14 (fun hHeld15 => ?_)
    clear hK K
    (try simp only [Act.put, List.setIfInBounds_toArray, List.set_cons_zero, List.set_cons_succ])
    clear hHeld15
    refine wpAnyH_ready (rs := [26]) (by kernel_rfl) (by simp) ?_
    refine AllReadyH.cons (o := { dst := some 67, op := Op.call { callee := Callee.value (Operand.func 69), args := #[], argTypes := #[] }, type := 66, pos := "laws.go:1377", after := #[{ on := 25, ground := Ground.chain }, { on := 24, ground := Ground.guard }], guard := some (24, false) }) rfl (fun K hK => ?_) AllReadyH.nil
    go_simp
    go_at_call 69
    refine ((specAcksNew w17).mono fun _ _ h => ackNew4 h).mono ?_
    rintro e w18 ⟨ng2, nc2, nf2, rfl, hra2, hb⟩
    have hs18 := hb.size
    have HRa18 := Lib.hid (HRa17.out.below hb (by omega))
    have HY18 := Lib.hid (HY17.out.below hb (by omega))
    have HB18 := Lib.hid (HB17.out.trans (hb.mono (by omega)))
    have HXa18 := Lib.hid ((hb.block _ (lt_of_block HXa17.out)).trans HXa17.out)
    have HRm18 := Lib.hid (HRm17.out.below hb (by omega))
    have HXn18 := Lib.hid ((hb.block _ (lt_of_block HXn17.out)).trans HXn17.out)
    have HRt18 := Lib.hid (HRt17.out.below hb (by omega))
    have HXt18 := Lib.hid ((hb.block _ (lt_of_block HXt17.out)).trans HXt17.out)
    have HRx18 := Lib.hid (HRx17.out.below hb (by omega))
    have HXx18 := Lib.hid ((hb.block _ (lt_of_block HXx17.out)).trans HXx17.out)
    have HRy18 := Lib.hid (HRy17.out.below hb (by omega))
    have HXy18 := Lib.hid ((hb.block _ (lt_of_block HXy17.out)).trans HXy17.out)
    have HT118 := Lib.hid (HT117.out.below hb (by omega))
    have HT218 := Lib.hid (HT217.out.below hb (by omega))
    have HN118 := Lib.hid (HN117.out.below hb (by omega))
    clear hb HRa17 HY17 HB17 HXa17 HRm17 HXn17 HRt17 HXt17 HRx17 HXx17 HRy17 HXy17 HT117 HT217 HN117
    have HN218 := Lib.hid (hra2.irows (rfl : newAcks.length = 4))
    have hS16 : w18.cell? ⟨w2.heap.size, 0, none⟩ = some (.slice (some ⟨mg, 0, none⟩) 4 mc) ∧ w18.cell? ⟨w4.heap.size, 0, none⟩ = some (.slice (some ⟨tg, 0, none⟩) 4 tc) ∧ w18.cell? ⟨w6.heap.size, 0, none⟩ = some (.slice xa xn xc) ∧ w18.cell? ⟨w8.heap.size, 0, none⟩ = some (.slice ya yn yc) := ⟨one_cell HXn18.out, one_cell HXt18.out, one_cell HXx18.out, one_cell HXy18.out⟩
    refine hK.out _ _ hS16 (fun hHeld17 => ?_)
    clear hK K
    (try simp only [Act.put, List.setIfInBounds_toArray, List.set_cons_zero, List.set_cons_succ])
    clear hHeld17
    refine wpAnyH_ready (rs := [27]) (by kernel_rfl) (by simp) ?_
    refine AllReadyH.cons (o := { dst := some 68, op := Op.call { callee := Callee.value (Operand.func 66), args := #[Operand.tmp 66, Operand.tmp 67], argTypes := #[66, 66] }, type := 4, pos := "laws.go:1377", after := #[{ on := 25, ground := Ground.data }, { on := 26, ground := Ground.data }, { on := 26, ground := Ground.chain }, { on := 24, ground := Ground.guard }], guard := some (24, false) }) rfl (fun K hK => ?_) AllReadyH.nil
    go_simp
    go_at_call 66
    refine (sameAcks w18 w18.heap.size w18.heap.size (some ⟨ng1, 0, none⟩) (some ⟨ng2, 0, none⟩) 4 nc1 4 nc2 newAcks newAcks (HN118.out.mores (by omega)) (HN218.out.mores (by omega)) (Nat.le_refl _) (Nat.le_refl _) (by omega) (by omega) HNw.out HNw.out).mono ?_
    rintro e w19 ⟨rfl, hb⟩
    rw [decide_eq_true rfl]
    have hs19 := hb.size
    have HRa19 := Lib.hid (HRa18.out.below hb (by omega))
    have HY19 := Lib.hid (HY18.out.below hb (by omega))
    have HB19 := Lib.hid (HB18.out.trans (hb.mono (by omega)))
    have HXa19 := Lib.hid ((hb.block _ (lt_of_block HXa18.out)).trans HXa18.out)
    have HRm19 := Lib.hid (HRm18.out.below hb (by omega))
    have HXn19 := Lib.hid ((hb.block _ (lt_of_block HXn18.out)).trans HXn18.out)
    have HRt19 := Lib.hid (HRt18.out.below hb (by omega))
    have HXt19 := Lib.hid ((hb.block _ (lt_of_block HXt18.out)).trans HXt18.out)
    have HRx19 := Lib.hid (HRx18.out.below hb (by omega))
    have HXx19 := Lib.hid ((hb.block _ (lt_of_block HXx18.out)).trans HXx18.out)
    have HRy19 := Lib.hid (HRy18.out.below hb (by omega))
    have HXy19 := Lib.hid ((hb.block _ (lt_of_block HXy18.out)).trans HXy18.out)
    have HT119 := Lib.hid (HT118.out.below hb (by omega))
    have HT219 := Lib.hid (HT218.out.below hb (by omega))
    have HN119 := Lib.hid (HN118.out.below hb (by omega))
    have HN219 := Lib.hid (HN218.out.below hb (by omega))
    clear hb HRa18 HY18 HB18 HXa18 HRm18 HXn18 HRt18 HXt18 HRx18 HXx18 HRy18 HXy18 HT118 HT218 HN118 HN218
    have hS18 : w19.cell? ⟨w2.heap.size, 0, none⟩ = some (.slice (some ⟨mg, 0, none⟩) 4 mc) ∧ w19.cell? ⟨w4.heap.size, 0, none⟩ = some (.slice (some ⟨tg, 0, none⟩) 4 tc) ∧ w19.cell? ⟨w6.heap.size, 0, none⟩ = some (.slice xa xn xc) ∧ w19.cell? ⟨w8.heap.size, 0, none⟩ = some (.slice ya yn yc) := ⟨one_cell HXn19.out, one_cell HXt19.out, one_cell HXx19.out, one_cell HXy19.out⟩
    refine hK.out _ _ hS18 (fun hHeld19 => ?_)
    clear hK K
    (try simp only [Act.put, List.setIfInBounds_toArray, List.set_cons_zero, List.set_cons_succ])
    clear hHeld19
    refine wpAnyH_take (i := 28) (oi := { dst := some 69, op := Op.unOp UnOp.not 4 (Operand.tmp 68), type := 4, pos := "laws.go:1377", after := #[{ on := 27, ground := Ground.data }, { on := 24, ground := Ground.guard }], guard := some (24, false) }) (v := ?_) rfl (by kernel_rfl) (by kernel_rfl) (by kernel_rfl) (fun _ _ _ h => h) (Or.inl ⟨by rfl, ?_⟩) (by assumption) ?_
    rotate_left
    · intro w hSw
      (try dsimp only at hSw)
      first | (go_simp; done) | (go_simp; with_reducible rfl)
    (try simp only [Act.put, List.setIfInBounds_toArray, List.set_cons_zero, List.set_cons_succ])
    refine wpAnyH_take (i := 29) (oi := { dst := some 70, op := Op.pick (Operand.tmp 65) (Operand.const (Value.bool true)) (Operand.tmp 69), type := 4, pos := "laws.go:1377", after := #[{ on := 24, ground := Ground.data }, { on := 28, ground := Ground.data }], guard := none }) (v := ?_) rfl (by kernel_rfl) (by kernel_rfl) (by kernel_rfl) (fun _ _ _ h => h) (Or.inl ⟨by rfl, ?_⟩) (by assumption) ?_
    rotate_left
    · intro w hSw
      (try dsimp only at hSw)
      first | (go_simp; done) | (go_simp; with_reducible rfl)
    (try simp only [Act.put, List.setIfInBounds_toArray, List.set_cons_zero, List.set_cons_succ])
    refine wpAnyH_take (i := 30) (oi := { dst := some 71, op := Op.move (Operand.tmp 70), type := 4, pos := "laws.go:1377", after := #[{ on := 29, ground := Ground.data }, { on := 27, ground := Ground.chain }], guard := none }) (v := ?_) rfl (by kernel_rfl) (by kernel_rfl) (by kernel_rfl) (fun _ _ _ h => h) (Or.inl ⟨by rfl, ?_⟩) (by assumption) ?_
    rotate_left
    · intro w hSw
      (try dsimp only at hSw)
      first | (go_simp; done) | (go_simp; with_reducible rfl)
    (try simp only [Act.put, List.setIfInBounds_toArray, List.set_cons_zero, List.set_cons_succ])
    refine wpAnyH_take (i := 31) (oi := { dst := some 72, op := Op.move (Operand.tmp 7), type := 4, pos := "laws.go:1377", after := #[{ on := 30, ground := Ground.guard }], guard := some (30, false) }) (v := ?_) rfl (by kernel_rfl) (by kernel_rfl) (by kernel_rfl) (fun _ _ _ h => h) (Or.inl ⟨by rfl, ?_⟩) (by assumption) ?_
    rotate_left
    · intro w hSw
      (try dsimp only at hSw)
      first | (go_simp; done) | (go_simp; with_reducible rfl)
    (try simp only [Act.put, List.setIfInBounds_toArray, List.set_cons_zero, List.set_cons_succ])
    refine wpAnyH_take (i := 32) (oi := { dst := some 73, op := Op.unOp UnOp.not 4 (Operand.tmp 72), type := 4, pos := "laws.go:1377", after := #[{ on := 31, ground := Ground.data }, { on := 30, ground := Ground.guard }], guard := some (30, false) }) (v := ?_) rfl (by kernel_rfl) (by kernel_rfl) (by kernel_rfl) (fun _ _ _ h => h) (Or.inl ⟨by rfl, ?_⟩) (by assumption) ?_
    rotate_left
    · intro w hSw
      (try dsimp only at hSw)
      first | (go_simp; done) | (go_simp; with_reducible rfl)
    (try simp only [Act.put, List.setIfInBounds_toArray, List.set_cons_zero, List.set_cons_succ])
    refine wpAnyH_take (i := 33) (oi := { dst := some 74, op := Op.pick (Operand.tmp 71) (Operand.const (Value.bool true)) (Operand.tmp 73), type := 4, pos := "laws.go:1377", after := #[{ on := 30, ground := Ground.data }, { on := 32, ground := Ground.data }], guard := none }) (v := ?_) rfl (by kernel_rfl) (by kernel_rfl) (by kernel_rfl) (fun _ _ _ h => h) (Or.inl ⟨by rfl, ?_⟩) (by assumption) ?_
    rotate_left
    · intro w hSw
      (try dsimp only at hSw)
      first | (go_simp; done) | (go_simp; with_reducible rfl)
    (try simp only [Act.put, List.setIfInBounds_toArray, List.set_cons_zero, List.set_cons_succ])
    refine wpAnyH_done (by kernel_rfl) ?_ _
    clear HT119 HT219 HN119 HN219
    clear HRx19 HRy19 HXx19 HXy19 HRt19 HXt19
    go_wp2
    go_loopw [12] (fun i wr => ∃ q : Nat, q ≤ 4 ∧ i = .int .i64 (q : Int) ∧ Hid (Below w19.heap.size w19 wr)) (fun i _ => 4 - (intOf i).toNat)
    case atStart => exact ⟨0, Nat.zero_le _, rfl, Below.refl _ _⟩
    case round =>
      obtain ⟨q, hq, rfl, HBr⟩ := hrel
      have hsr := HBr.out.size
      obtain ⟨w20, hwr⟩ : ∃ z, z = wr := ⟨_, rfl⟩
      subst hwr
      have hb : Below w19.heap.size w19 w20 := HBr.out
      have hs20 := hb.size
      have HRa20 := Lib.hid (HRa19.out.below hb (by omega))
      have HY20 := Lib.hid (HY19.out.below hb (by omega))
      have HB20 := Lib.hid (HB19.out.trans (hb.mono (by omega)))
      have HXa20 := Lib.hid ((hb.block _ (lt_of_block HXa19.out)).trans HXa19.out)
      have HRm20 := Lib.hid (HRm19.out.below hb (by omega))
      have HXn20 := Lib.hid ((hb.block _ (lt_of_block HXn19.out)).trans HXn19.out)
      clear hb HRa19 HY19 HB19 HXa19 HRm19 HXn19
      have HC20 := HBr
      clear HBr
      by_cases hlt : q < 4
      rotate_left
      · skip
        obtain rfl : q = 4 := by omega
        clear hlt hq
        have q0 := one_cell HXn20.out
        go_wp2_with fail
        refine (implHeard w20 w20.heap.size (some ⟨mg, 0, none⟩) av 4 mc nv cv (d : Int) KR ys (HRm20.out.mores (by omega)) (HY20.out.more (by omega)) (Nat.le_refl _) (by omega) (by omega) HSk.out).mono ?_
        rintro e w21 ⟨⟨_, d', ug, uc, uf, _, hdd, rfl, hra⟩ | ⟨hno, _⟩, hb⟩
        rotate_left
        · rw [HkH.out] at hno; cases hno
        obtain rfl : d = d' := by omega
        rw [HkA.out] at hra
        clear hdd
        clear q0
        have hs21 := hb.size
        have HRa21 := Lib.hid (HRa20.out.below hb (by omega))
        have HY21 := Lib.hid (HY20.out.below hb (by omega))
        have HB21 := Lib.hid (HB20.out.trans (hb.mono (by omega)))
        have HXa21 := Lib.hid ((hb.block _ (lt_of_block HXa20.out)).trans HXa20.out)
        have HRm21 := Lib.hid (HRm20.out.below hb (by omega))
        have HXn21 := Lib.hid ((hb.block _ (lt_of_block HXn20.out)).trans HXn20.out)
        have HC21 := Lib.hid (HC20.out.trans (hb.mono (by omega)))
        clear hb HRa20 HY20 HB20 HXa20 HRm20 HXn20 HC20
        have HRu21 := Lib.hid (hra.irows HK4.out)
        clear hra
        go_upto_region 16 with fail
        have hb : Below w21.heap.size w21 (w21.alloc (.cells #[.slice (some ⟨ug, 0, none⟩) 4 uc] 66)) := (Below.refl _ _).alloc (Nat.le_refl _) _
        have HXu22 := Lib.hid (heap_alloc_new w21 (.cells #[.slice (some ⟨ug, 0, none⟩) 4 uc] 66))
        generalize w21.alloc (.cells #[.slice (some ⟨ug, 0, none⟩) 4 uc] 66) = w22 at hb HXu22 ⊢
        have hs22 := hb.size
        have HRa22 := Lib.hid (HRa21.out.below hb (by omega))
        have HY22 := Lib.hid (HY21.out.below hb (by omega))
        have HB22 := Lib.hid (HB21.out.trans (hb.mono (by omega)))
        have HXa22 := Lib.hid ((hb.block _ (lt_of_block HXa21.out)).trans HXa21.out)
        have HRm22 := Lib.hid (HRm21.out.below hb (by omega))
        have HXn22 := Lib.hid ((hb.block _ (lt_of_block HXn21.out)).trans HXn21.out)
        have HC22 := Lib.hid (HC21.out.trans (hb.mono (by omega)))
        have HRu22 := Lib.hid (HRu21.out.below hb (by omega))
        clear hb HRa21 HY21 HB21 HXa21 HRm21 HXn21 HC21 HRu21
        obtain ⟨mb, mo, mi, mci, me, hmb, hmc, hmx⟩ := HRm22.out.2 d hd4
        injection me with me
        injection me with me1 me2
        subst me1 me2
        have HXrm : Hid (Ints w22 w22.heap.size mi (rowOf KR d).length (rowOf KR d)) := hmx.more (by omega)
        have HMC : Hid (w22.cell? ⟨mg, d, none⟩ = some (.slice mi (rowOf KR d).length mci)) := by rw [Nat.zero_add] at hmc; exact hmc
        have hmgl := block_lt_of_cell hmc
        clear hmb hmc hmx
        obtain ⟨ab, ao, ai, ci, rfl, hab, hac, hax⟩ := HRa22.out.2 d hd4
        have HXra : Hid (Ints w22 w22.heap.size ai (rowOf l d).length (rowOf l d)) := hax.more (by omega)
        have HAC : Hid (w22.cell? ⟨ab, ao + d, none⟩ = some (.slice ai (rowOf l d).length ci)) := hac
        have habl := block_lt_of_cell hac
        clear hab hac hax
        have HXrm22 := HXrm
        have HXra22 := HXra
        clear HXrm HXra
        have hdi : (d : Int) < 4 := by omega
        have hdd0 : decide ((d : Int) < 0) = false := decide_eq_false (by omega)
        have hdd1 : ¬ ((d : Int) < 0) := by omega
        go_upto_region 16 with fail
        obtain ⟨w23, hzw⟩ : ∃ z, w22.drew = z := ⟨_, rfl⟩
        have hb : Below w22.heap.size w22 w23 := by rw [← hzw]; exact ⟨rfl, rfl, rfl, Nat.le_refl _, fun _ _ => rfl⟩
        have HG23 : Hid (Below w22.heap.size w22 w23) := hb
        have hs23 := hb.size
        have HRa23 := Lib.hid (HRa22.out.below hb (by omega))
        have HY23 := Lib.hid (HY22.out.below hb (by omega))
        have HB23 := Lib.hid (HB22.out.trans (hb.mono (by omega)))
        have HXa23 := Lib.hid ((hb.block _ (lt_of_block HXa22.out)).trans HXa22.out)
        have HRm23 := Lib.hid (HRm22.out.below hb (by omega))
        have HXn23 := Lib.hid ((hb.block _ (lt_of_block HXn22.out)).trans HXn22.out)
        have HC23 := Lib.hid (HC22.out.trans (hb.mono (by omega)))
        have HRu23 := Lib.hid (HRu22.out.below hb (by omega))
        have HXu23 := Lib.hid ((hb.block _ (lt_of_block HXu22.out)).trans HXu22.out)
        have HXrm23 := Lib.hid (HXrm22.out.below hb (by omega))
        have HXra23 := Lib.hid (HXra22.out.below hb (by omega))
        clear hb HRa22 HY22 HB22 HXa22 HRm22 HXn22 HC22 HRu22 HXu22 HXrm22 HXra22
        have hS : w23.cell? ⟨w0.heap.size, 0, none⟩ = some (.slice (some ⟨ab, ao, none⟩) 4 c) ∧ w23.cell? ⟨w2.heap.size, 0, none⟩ = some (.slice (some ⟨mg, 0, none⟩) 4 mc) ∧ w23.cell? ⟨w21.heap.size, 0, none⟩ = some (.slice (some ⟨ug, 0, none⟩) 4 uc) ∧ w23.cell? ⟨ab, ao + d, none⟩ = some (.slice ai (rowOf l d).length ci) ∧ w23.cell? ⟨mg, d, none⟩ = some (.slice mi (rowOf KR d).length mci) := ⟨one_cell HXa23.out, one_cell HXn23.out, one_cell HXu23.out, (HG23.out.cell (p := ⟨ab, ao + d, none⟩) habl).trans HAC.out, (HG23.out.cell (p := ⟨mg, d, none⟩) hmgl).trans HMC.out⟩
        refine wp_region_held_drew (S := fun w' => w'.cell? ⟨w0.heap.size, 0, none⟩ = some (.slice (some ⟨ab, ao, none⟩) 4 c) ∧ w'.cell? ⟨w2.heap.size, 0, none⟩ = some (.slice (some ⟨mg, 0, none⟩) 4 mc) ∧ w'.cell? ⟨w21.heap.size, 0, none⟩ = some (.slice (some ⟨ug, 0, none⟩) 4 uc) ∧ w'.cell? ⟨ab, ao + d, none⟩ = some (.slice ai (rowOf l d).length ci) ∧ w'.cell? ⟨mg, d, none⟩ = some (.slice mi (rowOf KR d).length mci)) (by kernel_rfl) (by rw [hzw]; exact hS) (fun hHeld => ?_)
        rw [hzw]
        clear hHeld hzw
        refine wpAnyH_take (i := 0) (oi := { dst := some 133, op := Op.move (Operand.tmp 5), type := 24, pos := "laws.go:1386", after := #[], guard := none }) (v := ?_) rfl (by kernel_rfl) (by kernel_rfl) (by kernel_rfl) (fun _ _ _ h => h) (Or.inl ⟨by rfl, ?_⟩) (by assumption) ?_
        rotate_left
        · intro w hSw
          (try dsimp only at hSw)
          first | (go_simp; done) | (go_simp; with_reducible rfl)
        (try simp only [Act.put, List.setIfInBounds_toArray, List.set_cons_zero, List.set_cons_succ])
        refine wpAnyH_take (i := 1) (oi := { dst := some 134, op := Op.fieldAddr 66 (Operand.tmp 6) 0, type := 0, pos := "laws.go:1386", after := #[], guard := none }) (v := ?_) rfl (by kernel_rfl) (by kernel_rfl) (by kernel_rfl) (fun _ _ _ h => h) (Or.inl ⟨by rfl, ?_⟩) (by assumption) ?_
        rotate_left
        · intro w hSw
          (try dsimp only at hSw)
          first | (go_simp; done) | (go_simp; with_reducible rfl)
        (try simp only [Act.put, List.setIfInBounds_toArray, List.set_cons_zero, List.set_cons_succ])
        refine wpAnyH_take (i := 2) (oi := { dst := some 135, op := Op.load 64 (Operand.tmp 134), type := 64, pos := "laws.go:1386", after := #[{ on := 1, ground := Ground.data }], guard := none }) (v := ?_) rfl (by kernel_rfl) (by kernel_rfl) (by kernel_rfl) (fun _ _ _ h => h) (Or.inl ⟨by rfl, ?_⟩) (by assumption) ?_
        rotate_left
        · intro w hSw
          (try dsimp only at hSw)
          first | (go_simp; done) | (go_simp; with_reducible rfl)
        (try simp only [Act.put, List.setIfInBounds_toArray, List.set_cons_zero, List.set_cons_succ])
        refine wpAnyH_take (i := 3) (oi := { dst := some 136, op := Op.move (Operand.tmp 4), type := 2, pos := "laws.go:1386", after := #[], guard := none }) (v := ?_) rfl (by kernel_rfl) (by kernel_rfl) (by kernel_rfl) (fun _ _ _ h => h) (Or.inl ⟨by rfl, ?_⟩) (by assumption) ?_
        rotate_left
        · intro w hSw
          (try dsimp only at hSw)
          first | (go_simp; done) | (go_simp; with_reducible rfl)
        (try simp only [Act.put, List.setIfInBounds_toArray, List.set_cons_zero, List.set_cons_succ])
        refine wpAnyH_take (i := 4) (oi := { dst := some 137, op := Op.indexAddr 64 (Operand.tmp 135) (Operand.tmp 136), type := 0, pos := "laws.go:1386", after := #[{ on := 2, ground := Ground.data }, { on := 3, ground := Ground.data }], guard := none }) (v := ?_) rfl (by kernel_rfl) (by kernel_rfl) (by kernel_rfl) (fun _ _ _ h => h) (Or.inl ⟨by rfl, ?_⟩) (by assumption) ?_
        rotate_left
        · intro w hSw
          (try dsimp only at hSw)
          first | (go_simp; done) | (go_simp; with_reducible rfl)
        (try simp only [Act.put, List.setIfInBounds_toArray, List.set_cons_zero, List.set_cons_succ])
        refine wpAnyH_take (i := 5) (oi := { dst := some 138, op := Op.load 24 (Operand.tmp 137), type := 24, pos := "laws.go:1386", after := #[{ on := 4, ground := Ground.data }], guard := none }) (v := ?_) rfl (by kernel_rfl) (by kernel_rfl) (by kernel_rfl) (fun _ _ _ h => h) (Or.inl ⟨by rfl, ?_⟩) (by assumption) ?_
        rotate_left
        · intro w hSw
          (try dsimp only at hSw)
          first | (go_simp; done) | (go_simp; with_reducible rfl)
        (try simp only [Act.put, List.setIfInBounds_toArray, List.set_cons_zero, List.set_cons_succ])
        refine wpAnyH_ready (rs := [6]) (by kernel_rfl) (by simp) ?_
        refine AllReadyH.cons (o := { dst := some 139, op := Op.call { callee := Callee.value (Operand.func 70), args := #[Operand.tmp 133, Operand.tmp 138], argTypes := #[24, 24] }, type := 4, pos := "laws.go:1386", after := #[{ on := 0, ground := Ground.data }, { on := 5, ground := Ground.data }], guard := none }) rfl (fun K hK => ?_) AllReadyH.nil
        go_simp
        go_at_call 70
        refine (implWithin w23 w23.heap.size av mi nv cv (rowOf KR d).length mci ys (rowOf KR d) (HY23.out.more (by omega)) (HXrm23.out.more (by omega)) (Nat.le_refl _) (by omega) (HSk.out d hd4)).mono ?_
        rintro e w24 ⟨rfl, hb⟩
        rw [HkV.out]
        have hs24 := hb.size
        have HRa24 := Lib.hid (HRa23.out.below hb (by omega))
        have HY24 := Lib.hid (HY23.out.below hb (by omega))
        have HB24 := Lib.hid (HB23.out.trans (hb.mono (by omega)))
        have HXa24 := Lib.hid ((hb.block _ (lt_of_block HXa23.out)).trans HXa23.out)
        have HRm24 := Lib.hid (HRm23.out.below hb (by omega))
        have HXn24 := Lib.hid ((hb.block _ (lt_of_block HXn23.out)).trans HXn23.out)
        have HC24 := Lib.hid (HC23.out.trans (hb.mono (by omega)))
        have HRu24 := Lib.hid (HRu23.out.below hb (by omega))
        have HXu24 := Lib.hid ((hb.block _ (lt_of_block HXu23.out)).trans HXu23.out)
        have HXrm24 := Lib.hid (HXrm23.out.below hb (by omega))
        have HXra24 := Lib.hid (HXra23.out.below hb (by omega))
        have HG24 := Lib.hid (HG23.out.trans (hb.mono (by omega)))
        clear hb HRa23 HY23 HB23 HXa23 HRm23 HXn23 HC23 HRu23 HXu23 HXrm23 HXra23 HG23
        have hS2 : w24.cell? ⟨w0.heap.size, 0, none⟩ = some (.slice (some ⟨ab, ao, none⟩) 4 c) ∧ w24.cell? ⟨w2.heap.size, 0, none⟩ = some (.slice (some ⟨mg, 0, none⟩) 4 mc) ∧ w24.cell? ⟨w21.heap.size, 0, none⟩ = some (.slice (some ⟨ug, 0, none⟩) 4 uc) ∧ w24.cell? ⟨ab, ao + d, none⟩ = some (.slice ai (rowOf l d).length ci) ∧ w24.cell? ⟨mg, d, none⟩ = some (.slice mi (rowOf KR d).length mci) := ⟨one_cell HXa24.out, one_cell HXn24.out, one_cell HXu24.out, (HG24.out.cell (p := ⟨ab, ao + d, none⟩) habl).trans HAC.out, (HG24.out.cell (p := ⟨mg, d, none⟩) hmgl).trans HMC.out⟩
        refine hK.out _ _ hS2 (fun hHeld3 => ?_)
        clear hK K
        (try simp only [Act.put, List.setIfInBounds_toArray, List.set_cons_zero, List.set_cons_succ])
        clear hHeld3
        refine wpAnyH_take (i := 7) (oi := { dst := some 140, op := Op.move (Operand.tmp 139), type := 4, pos := "laws.go:1386", after := #[{ on := 6, ground := Ground.data }, { on := 6, ground := Ground.chain }], guard := none }) (v := ?_) rfl (by kernel_rfl) (by kernel_rfl) (by kernel_rfl) (fun _ _ _ h => h) (Or.inl ⟨by rfl, ?_⟩) (by assumption) ?_
        rotate_left
        · intro w hSw
          (try dsimp only at hSw)
          first | (go_simp; done) | (go_simp; with_reducible rfl)
        (try simp only [Act.put, List.setIfInBounds_toArray, List.set_cons_zero, List.set_cons_succ])
        refine wpAnyH_take (i := 8) (oi := { dst := some 141, op := Op.fieldAddr 66 (Operand.tmp 3) 0, type := 0, pos := "laws.go:1386", after := #[{ on := 7, ground := Ground.guard }], guard := some (7, true) }) (v := ?_) rfl (by kernel_rfl) (by kernel_rfl) (by kernel_rfl) (fun _ _ _ h => h) (Or.inl ⟨by rfl, ?_⟩) (by assumption) ?_
        rotate_left
        · intro w hSw
          (try dsimp only at hSw)
          first | (go_simp; done) | (go_simp; with_reducible rfl)
        (try simp only [Act.put, List.setIfInBounds_toArray, List.set_cons_zero, List.set_cons_succ])
        refine wpAnyH_take (i := 9) (oi := { dst := some 142, op := Op.load 64 (Operand.tmp 141), type := 64, pos := "laws.go:1386", after := #[{ on := 8, ground := Ground.data }, { on := 7, ground := Ground.guard }], guard := some (7, true) }) (v := ?_) rfl (by kernel_rfl) (by kernel_rfl) (by kernel_rfl) (fun _ _ _ h => h) (Or.inl ⟨by rfl, ?_⟩) (by assumption) ?_
        rotate_left
        · intro w hSw
          (try dsimp only at hSw)
          first | (go_simp; done) | (go_simp; with_reducible rfl)
        (try simp only [Act.put, List.setIfInBounds_toArray, List.set_cons_zero, List.set_cons_succ])
        refine wpAnyH_take (i := 10) (oi := { dst := some 143, op := Op.move (Operand.tmp 4), type := 2, pos := "laws.go:1386", after := #[{ on := 7, ground := Ground.guard }], guard := some (7, true) }) (v := ?_) rfl (by kernel_rfl) (by kernel_rfl) (by kernel_rfl) (fun _ _ _ h => h) (Or.inl ⟨by rfl, ?_⟩) (by assumption) ?_
        rotate_left
        · intro w hSw
          (try dsimp only at hSw)
          first | (go_simp; done) | (go_simp; with_reducible rfl)
        (try simp only [Act.put, List.setIfInBounds_toArray, List.set_cons_zero, List.set_cons_succ])
        refine wpAnyH_take (i := 11) (oi := { dst := some 144, op := Op.indexAddr 64 (Operand.tmp 142) (Operand.tmp 143), type := 0, pos := "laws.go:1386", after := #[{ on := 9, ground := Ground.data }, { on := 10, ground := Ground.data }, { on := 7, ground := Ground.guard }], guard := some (7, true) }) (v := ?_) rfl (by kernel_rfl) (by kernel_rfl) (by kernel_rfl) (fun _ _ _ h => h) (Or.inl ⟨by rfl, ?_⟩) (by assumption) ?_
        rotate_left
        · intro w hSw
          (try dsimp only at hSw)
          first | (go_simp; done) | (go_simp; with_reducible rfl)
        (try simp only [Act.put, List.setIfInBounds_toArray, List.set_cons_zero, List.set_cons_succ])
        refine wpAnyH_take (i := 12) (oi := { dst := some 145, op := Op.load 24 (Operand.tmp 144), type := 24, pos := "laws.go:1386", after := #[{ on := 11, ground := Ground.data }, { on := 7, ground := Ground.guard }], guard := some (7, true) }) (v := ?_) rfl (by kernel_rfl) (by kernel_rfl) (by kernel_rfl) (fun _ _ _ h => h) (Or.inl ⟨by rfl, ?_⟩) (by assumption) ?_
        rotate_left
        · intro w hSw
          (try dsimp only at hSw)
          first | (go_simp; done) | (go_simp; with_reducible rfl)
        (try simp only [Act.put, List.setIfInBounds_toArray, List.set_cons_zero, List.set_cons_succ])
        refine wpAnyH_take (i := 13) (oi := { dst := some 146, op := Op.fieldAddr 66 (Operand.tmp 6) 0, type := 0, pos := "laws.go:1386", after := #[{ on := 7, ground := Ground.guard }], guard := some (7, true) }) (v := ?_) rfl (by kernel_rfl) (by kernel_rfl) (by kernel_rfl) (fun _ _ _ h => h) (Or.inl ⟨by rfl, ?_⟩) (by assumption) ?_
        rotate_left
        · intro w hSw
          (try dsimp only at hSw)
          first | (go_simp; done) | (go_simp; with_reducible rfl)
        (try simp only [Act.put, List.setIfInBounds_toArray, List.set_cons_zero, List.set_cons_succ])
        refine wpAnyH_take (i := 14) (oi := { dst := some 147, op := Op.load 64 (Operand.tmp 146), type := 64, pos := "laws.go:1386", after := #[{ on := 13, ground := Ground.data }, { on := 7, ground := Ground.guard }], guard := some (7, true) }) (v := ?_) rfl (by kernel_rfl) (by kernel_rfl) (by kernel_rfl) (fun _ _ _ h => h) (Or.inl ⟨by rfl, ?_⟩) (by assumption) ?_
        rotate_left
        · intro w hSw
          (try dsimp only at hSw)
          first | (go_simp; done) | (go_simp; with_reducible rfl)
        (try simp only [Act.put, List.setIfInBounds_toArray, List.set_cons_zero, List.set_cons_succ])
        refine wpAnyH_take (i := 15) (oi := { dst := some 148, op := Op.move (Operand.tmp 4), type := 2, pos := "laws.go:1386", after := #[{ on := 7, ground := Ground.guard }], guard := some (7, true) }) (v := ?_) rfl (by kernel_rfl) (by kernel_rfl) (by kernel_rfl) (fun _ _ _ h => h) (Or.inl ⟨by rfl, ?_⟩) (by assumption) ?_
        rotate_left
        · intro w hSw
          (try dsimp only at hSw)
          first | (go_simp; done) | (go_simp; with_reducible rfl)
        (try simp only [Act.put, List.setIfInBounds_toArray, List.set_cons_zero, List.set_cons_succ])
        refine wpAnyH_take (i := 16) (oi := { dst := some 149, op := Op.indexAddr 64 (Operand.tmp 147) (Operand.tmp 148), type := 0, pos := "laws.go:1386", after := #[{ on := 14, ground := Ground.data }, { on := 15, ground := Ground.data }, { on := 7, ground := Ground.guard }], guard := some (7, true) }) (v := ?_) rfl (by kernel_rfl) (by kernel_rfl) (by kernel_rfl) (fun _ _ _ h => h) (Or.inl ⟨by rfl, ?_⟩) (by assumption) ?_
        rotate_left
        · intro w hSw
          (try dsimp only at hSw)
          first | (go_simp; done) | (go_simp; with_reducible rfl)
        (try simp only [Act.put, List.setIfInBounds_toArray, List.set_cons_zero, List.set_cons_succ])
        refine wpAnyH_take (i := 17) (oi := { dst := some 150, op := Op.load 24 (Operand.tmp 149), type := 24, pos := "laws.go:1386", after := #[{ on := 16, ground := Ground.data }, { on := 7, ground := Ground.guard }], guard := some (7, true) }) (v := ?_) rfl (by kernel_rfl) (by kernel_rfl) (by kernel_rfl) (fun _ _ _ h => h) (Or.inl ⟨by rfl, ?_⟩) (by assumption) ?_
        rotate_left
        · intro w hSw
          (try dsimp only at hSw)
          first | (go_simp; done) | (go_simp; with_reducible rfl)
        (try simp only [Act.put, List.setIfInBounds_toArray, List.set_cons_zero, List.set_cons_succ])
        refine wpAnyH_ready (rs := [18]) (by kernel_rfl) (by simp) ?_
        refine AllReadyH.cons (o := { dst := some 151, op := Op.call { callee := Callee.value (Operand.func 70), args := #[Operand.tmp 145, Operand.tmp 150], argTypes := #[24, 24] }, type := 4, pos := "laws.go:1386", after := #[{ on := 12, ground := Ground.data }, { on := 17, ground := Ground.data }, { on := 7, ground := Ground.chain }, { on := 7, ground := Ground.guard }], guard := some (7, true) }) rfl (fun K hK => ?_) AllReadyH.nil
        go_simp
        go_at_call 70
        refine (implWithin w24 w24.heap.size ai mi (rowOf l d).length ci (rowOf KR d).length mci (rowOf l d) (rowOf KR d) (HXra24.out.more (by omega)) (HXrm24.out.more (by omega)) (Nat.le_refl _) (HSa.out d hd4) (HSk.out d hd4)).mono ?_
        rintro e w25 ⟨rfl, hb⟩
        rw [HkR.out]
        have hs25 := hb.size
        have HRa25 := Lib.hid (HRa24.out.below hb (by omega))
        have HY25 := Lib.hid (HY24.out.below hb (by omega))
        have HB25 := Lib.hid (HB24.out.trans (hb.mono (by omega)))
        have HXa25 := Lib.hid ((hb.block _ (lt_of_block HXa24.out)).trans HXa24.out)
        have HRm25 := Lib.hid (HRm24.out.below hb (by omega))
        have HXn25 := Lib.hid ((hb.block _ (lt_of_block HXn24.out)).trans HXn24.out)
        have HC25 := Lib.hid (HC24.out.trans (hb.mono (by omega)))
        have HRu25 := Lib.hid (HRu24.out.below hb (by omega))
        have HXu25 := Lib.hid ((hb.block _ (lt_of_block HXu24.out)).trans HXu24.out)
        have HXrm25 := Lib.hid (HXrm24.out.below hb (by omega))
        have HXra25 := Lib.hid (HXra24.out.below hb (by omega))
        have HG25 := Lib.hid (HG24.out.trans (hb.mono (by omega)))
        clear hb HRa24 HY24 HB24 HXa24 HRm24 HXn24 HC24 HRu24 HXu24 HXrm24 HXra24 HG24
        have hS4 : w25.cell? ⟨w0.heap.size, 0, none⟩ = some (.slice (some ⟨ab, ao, none⟩) 4 c) ∧ w25.cell? ⟨w2.heap.size, 0, none⟩ = some (.slice (some ⟨mg, 0, none⟩) 4 mc) ∧ w25.cell? ⟨w21.heap.size, 0, none⟩ = some (.slice (some ⟨ug, 0, none⟩) 4 uc) ∧ w25.cell? ⟨ab, ao + d, none⟩ = some (.slice ai (rowOf l d).length ci) ∧ w25.cell? ⟨mg, d, none⟩ = some (.slice mi (rowOf KR d).length mci) := ⟨one_cell HXa25.out, one_cell HXn25.out, one_cell HXu25.out, (HG25.out.cell (p := ⟨ab, ao + d, none⟩) habl).trans HAC.out, (HG25.out.cell (p := ⟨mg, d, none⟩) hmgl).trans HMC.out⟩
        refine hK.out _ _ hS4 (fun hHeld5 => ?_)
        clear hK K
        (try simp only [Act.put, List.setIfInBounds_toArray, List.set_cons_zero, List.set_cons_succ])
        clear hHeld5
        refine wpAnyH_take (i := 19) (oi := { dst := some 152, op := Op.pick (Operand.tmp 140) (Operand.tmp 151) (Operand.const (Value.bool false)), type := 4, pos := "laws.go:1386", after := #[{ on := 7, ground := Ground.data }, { on := 18, ground := Ground.data }], guard := none }) (v := ?_) rfl (by kernel_rfl) (by kernel_rfl) (by kernel_rfl) (fun _ _ _ h => h) (Or.inl ⟨by rfl, ?_⟩) (by assumption) ?_
        rotate_left
        · intro w hSw
          (try dsimp only at hSw)
          first | (go_simp; done) | (go_simp; with_reducible rfl)
        (try simp only [Act.put, List.setIfInBounds_toArray, List.set_cons_zero, List.set_cons_succ])
        refine wpAnyH_take (i := 20) (oi := { dst := some 153, op := Op.move (Operand.tmp 152), type := 4, pos := "laws.go:1386", after := #[{ on := 19, ground := Ground.data }, { on := 18, ground := Ground.chain }], guard := none }) (v := ?_) rfl (by kernel_rfl) (by kernel_rfl) (by kernel_rfl) (fun _ _ _ h => h) (Or.inl ⟨by rfl, ?_⟩) (by assumption) ?_
        rotate_left
        · intro w hSw
          (try dsimp only at hSw)
          first | (go_simp; done) | (go_simp; with_reducible rfl)
        (try simp only [Act.put, List.setIfInBounds_toArray, List.set_cons_zero, List.set_cons_succ])
        refine wpAnyH_take (i := 21) (oi := { dst := some 154, op := Op.move (Operand.tmp 14), type := 4, pos := "laws.go:1386", after := #[{ on := 20, ground := Ground.guard }], guard := some (20, true) }) (v := ?_) rfl (by kernel_rfl) (by kernel_rfl) (by kernel_rfl) (fun _ _ _ h => h) (Or.inl ⟨by rfl, ?_⟩) (by assumption) ?_
        rotate_left
        · intro w hSw
          (try dsimp only at hSw)
          first | (go_simp; done) | (go_simp; with_reducible rfl)
        (try simp only [Act.put, List.setIfInBounds_toArray, List.set_cons_zero, List.set_cons_succ])
        refine wpAnyH_take (i := 22) (oi := { dst := some 155, op := Op.pick (Operand.tmp 153) (Operand.tmp 154) (Operand.const (Value.bool false)), type := 4, pos := "laws.go:1386", after := #[{ on := 20, ground := Ground.data }, { on := 21, ground := Ground.data }], guard := none }) (v := ?_) rfl (by kernel_rfl) (by kernel_rfl) (by kernel_rfl) (fun _ _ _ h => h) (Or.inl ⟨by rfl, ?_⟩) (by assumption) ?_
        rotate_left
        · intro w hSw
          (try dsimp only at hSw)
          first | (go_simp; done) | (go_simp; with_reducible rfl)
        (try simp only [Act.put, List.setIfInBounds_toArray, List.set_cons_zero, List.set_cons_succ])
        refine wpAnyH_take (i := 23) (oi := { dst := some 156, op := Op.move (Operand.tmp 155), type := 4, pos := "laws.go:1386", after := #[{ on := 22, ground := Ground.data }, { on := 20, ground := Ground.chain }], guard := none }) (v := ?_) rfl (by kernel_rfl) (by kernel_rfl) (by kernel_rfl) (fun _ _ _ h => h) (Or.inl ⟨by rfl, ?_⟩) (by assumption) ?_
        rotate_left
        · intro w hSw
          (try dsimp only at hSw)
          first | (go_simp; done) | (go_simp; with_reducible rfl)
        (try simp only [Act.put, List.setIfInBounds_toArray, List.set_cons_zero, List.set_cons_succ])
        refine wpAnyH_take (i := 24) (oi := { dst := some 157, op := Op.load 66 (Operand.tmp 13), type := 66, pos := "laws.go:1386", after := #[{ on := 23, ground := Ground.guard }], guard := some (23, true) }) (v := ?_) rfl (by kernel_rfl) (by kernel_rfl) (by kernel_rfl) (fun _ _ _ h => h) (Or.inl ⟨by rfl, ?_⟩) (by assumption) ?_
        rotate_left
        · intro w hSw
          (try dsimp only at hSw)
          first | (go_simp; done) | (go_simp; with_reducible rfl)
        (try simp only [Act.put, List.setIfInBounds_toArray, List.set_cons_zero, List.set_cons_succ])
        refine wpAnyH_take (i := 25) (oi := { dst := some 158, op := Op.load 66 (Operand.tmp 6), type := 66, pos := "laws.go:1386", after := #[{ on := 23, ground := Ground.guard }], guard := some (23, true) }) (v := ?_) rfl (by kernel_rfl) (by kernel_rfl) (by kernel_rfl) (fun _ _ _ h => h) (Or.inl ⟨by rfl, ?_⟩) (by assumption) ?_
        rotate_left
        · intro w hSw
          (try dsimp only at hSw)
          first | (go_simp; done) | (go_simp; with_reducible rfl)
        (try simp only [Act.put, List.setIfInBounds_toArray, List.set_cons_zero, List.set_cons_succ])
        refine wpAnyH_ready (rs := [26]) (by kernel_rfl) (by simp) ?_
        refine AllReadyH.cons (o := { dst := some 159, op := Op.call { callee := Callee.value (Operand.func 66), args := #[Operand.tmp 157, Operand.tmp 158], argTypes := #[66, 66] }, type := 4, pos := "laws.go:1386", after := #[{ on := 24, ground := Ground.data }, { on := 25, ground := Ground.data }, { on := 23, ground := Ground.chain }, { on := 23, ground := Ground.guard }], guard := some (23, true) }) rfl (fun K hK => ?_) AllReadyH.nil
        go_simp
        go_at_call 66
        refine (sameAcks w25 w25.heap.size w25.heap.size (some ⟨ug, 0, none⟩) (some ⟨mg, 0, none⟩) 4 uc 4 mc KR KR (HRu25.out.mores (by omega)) (HRm25.out.mores (by omega)) (Nat.le_refl _) (Nat.le_refl _) (by omega) (by omega) HSk.out HSk.out).mono ?_
        rintro e w26 ⟨rfl, hb⟩
        rw [decide_eq_true rfl]
        have hs26 := hb.size
        have HRa26 := Lib.hid (HRa25.out.below hb (by omega))
        have HY26 := Lib.hid (HY25.out.below hb (by omega))
        have HB26 := Lib.hid (HB25.out.trans (hb.mono (by omega)))
        have HXa26 := Lib.hid ((hb.block _ (lt_of_block HXa25.out)).trans HXa25.out)
        have HRm26 := Lib.hid (HRm25.out.below hb (by omega))
        have HXn26 := Lib.hid ((hb.block _ (lt_of_block HXn25.out)).trans HXn25.out)
        have HC26 := Lib.hid (HC25.out.trans (hb.mono (by omega)))
        have HRu26 := Lib.hid (HRu25.out.below hb (by omega))
        have HXu26 := Lib.hid ((hb.block _ (lt_of_block HXu25.out)).trans HXu25.out)
        have HXrm26 := Lib.hid (HXrm25.out.below hb (by omega))
        have HXra26 := Lib.hid (HXra25.out.below hb (by omega))
        have HG26 := Lib.hid (HG25.out.trans (hb.mono (by omega)))
        clear hb HRa25 HY25 HB25 HXa25 HRm25 HXn25 HC25 HRu25 HXu25 HXrm25 HXra25 HG25
        have hS6 : w26.cell? ⟨w0.heap.size, 0, none⟩ = some (.slice (some ⟨ab, ao, none⟩) 4 c) ∧ w26.cell? ⟨w2.heap.size, 0, none⟩ = some (.slice (some ⟨mg, 0, none⟩) 4 mc) ∧ w26.cell? ⟨w21.heap.size, 0, none⟩ = some (.slice (some ⟨ug, 0, none⟩) 4 uc) ∧ w26.cell? ⟨ab, ao + d, none⟩ = some (.slice ai (rowOf l d).length ci) ∧ w26.cell? ⟨mg, d, none⟩ = some (.slice mi (rowOf KR d).length mci) := ⟨one_cell HXa26.out, one_cell HXn26.out, one_cell HXu26.out, (HG26.out.cell (p := ⟨ab, ao + d, none⟩) habl).trans HAC.out, (HG26.out.cell (p := ⟨mg, d, none⟩) hmgl).trans HMC.out⟩
        refine hK.out _ _ hS6 (fun hHeld7 => ?_)
        clear hK K
        (try simp only [Act.put, List.setIfInBounds_toArray, List.set_cons_zero, List.set_cons_succ])
        clear hHeld7
        refine wpAnyH_take (i := 27) (oi := { dst := some 160, op := Op.pick (Operand.tmp 156) (Operand.tmp 159) (Operand.const (Value.bool false)), type := 4, pos := "laws.go:1386", after := #[{ on := 23, ground := Ground.data }, { on := 26, ground := Ground.data }], guard := none }) (v := ?_) rfl (by kernel_rfl) (by kernel_rfl) (by kernel_rfl) (fun _ _ _ h => h) (Or.inl ⟨by rfl, ?_⟩) (by assumption) ?_
        rotate_left
        · intro w hSw
          (try dsimp only at hSw)
          first | (go_simp; done) | (go_simp; with_reducible rfl)
        (try simp only [Act.put, List.setIfInBounds_toArray, List.set_cons_zero, List.set_cons_succ])
        refine wpAnyH_take (i := 28) (oi := { dst := some 161, op := Op.move (Operand.tmp 160), type := 4, pos := "laws.go:1386", after := #[{ on := 27, ground := Ground.data }, { on := 26, ground := Ground.chain }], guard := none }) (v := ?_) rfl (by kernel_rfl) (by kernel_rfl) (by kernel_rfl) (fun _ _ _ h => h) (Or.inl ⟨by rfl, ?_⟩) (by assumption) ?_
        rotate_left
        · intro w hSw
          (try dsimp only at hSw)
          first | (go_simp; done) | (go_simp; with_reducible rfl)
        (try simp only [Act.put, List.setIfInBounds_toArray, List.set_cons_zero, List.set_cons_succ])
        refine wpAnyH_take (i := 29) (oi := { dst := some 162, op := Op.load 66 (Operand.tmp 3), type := 66, pos := "laws.go:1386", after := #[{ on := 28, ground := Ground.guard }], guard := some (28, true) }) (v := ?_) rfl (by kernel_rfl) (by kernel_rfl) (by kernel_rfl) (fun _ _ _ h => h) (Or.inl ⟨by rfl, ?_⟩) (by assumption) ?_
        rotate_left
        · intro w hSw
          (try dsimp only at hSw)
          first | (go_simp; done) | (go_simp; with_reducible rfl)
        (try simp only [Act.put, List.setIfInBounds_toArray, List.set_cons_zero, List.set_cons_succ])
        refine wpAnyH_take (i := 31) (oi := { dst := some 164, op := Op.load 66 (Operand.tmp 6), type := 66, pos := "laws.go:1386", after := #[{ on := 28, ground := Ground.guard }], guard := some (28, true) }) (v := ?_) rfl (by kernel_rfl) (by kernel_rfl) (by kernel_rfl) (fun _ _ _ h => h) (Or.inl ⟨by rfl, ?_⟩) (by assumption) ?_
        rotate_left
        · intro w hSw
          (try dsimp only at hSw)
          first | (go_simp; done) | (go_simp; with_reducible rfl)
        (try simp only [Act.put, List.setIfInBounds_toArray, List.set_cons_zero, List.set_cons_succ])
        refine wpAnyH_ready (rs := [30]) (by kernel_rfl) (by simp) ?_
        refine AllReadyH.cons (o := { dst := some 163, op := Op.call { callee := Callee.value (Operand.func 59), args := #[Operand.tmp 162], argTypes := #[66] }, type := 24, pos := "laws.go:1386", after := #[{ on := 29, ground := Ground.data }, { on := 28, ground := Ground.chain }, { on := 28, ground := Ground.guard }], guard := some (28, true) }) rfl (fun K hK => ?_) AllReadyH.nil
        go_simp
        go_at_call 59
        refine (implStable w26 w26.heap.size (some ⟨ab, ao, none⟩) 4 c l (HRa26.out.mores (by omega)) (Nat.le_refl _) HSa.out).mono ?_
        rintro e w27 ⟨s1, sc1, rfl, ho, hb⟩
        have hs27 := hb.size
        have HRa27 := Lib.hid (HRa26.out.below hb (by omega))
        have HY27 := Lib.hid (HY26.out.below hb (by omega))
        have HB27 := Lib.hid (HB26.out.trans (hb.mono (by omega)))
        have HXa27 := Lib.hid ((hb.block _ (lt_of_block HXa26.out)).trans HXa26.out)
        have HRm27 := Lib.hid (HRm26.out.below hb (by omega))
        have HXn27 := Lib.hid ((hb.block _ (lt_of_block HXn26.out)).trans HXn26.out)
        have HC27 := Lib.hid (HC26.out.trans (hb.mono (by omega)))
        have HRu27 := Lib.hid (HRu26.out.below hb (by omega))
        have HXu27 := Lib.hid ((hb.block _ (lt_of_block HXu26.out)).trans HXu26.out)
        have HXrm27 := Lib.hid (HXrm26.out.below hb (by omega))
        have HXra27 := Lib.hid (HXra26.out.below hb (by omega))
        have HG27 := Lib.hid (HG26.out.trans (hb.mono (by omega)))
        clear hb HRa26 HY26 HB26 HXa26 HRm26 HXn26 HC26 HRu26 HXu26 HXrm26 HXra26 HG26
        have HT127 := Lib.hid ho.ints
        have hS8 : w27.cell? ⟨w0.heap.size, 0, none⟩ = some (.slice (some ⟨ab, ao, none⟩) 4 c) ∧ w27.cell? ⟨w2.heap.size, 0, none⟩ = some (.slice (some ⟨mg, 0, none⟩) 4 mc) ∧ w27.cell? ⟨w21.heap.size, 0, none⟩ = some (.slice (some ⟨ug, 0, none⟩) 4 uc) ∧ w27.cell? ⟨ab, ao + d, none⟩ = some (.slice ai (rowOf l d).length ci) ∧ w27.cell? ⟨mg, d, none⟩ = some (.slice mi (rowOf KR d).length mci) := ⟨one_cell HXa27.out, one_cell HXn27.out, one_cell HXu27.out, (HG27.out.cell (p := ⟨ab, ao + d, none⟩) habl).trans HAC.out, (HG27.out.cell (p := ⟨mg, d, none⟩) hmgl).trans HMC.out⟩
        refine hK.out _ _ hS8 (fun hHeld9 => ?_)
        clear hK K
        (try simp only [Act.put, List.setIfInBounds_toArray, List.set_cons_zero, List.set_cons_succ])
        clear hHeld9
        refine wpAnyH_ready (rs := [32]) (by kernel_rfl) (by simp) ?_
        refine AllReadyH.cons (o := { dst := some 165, op := Op.call { callee := Callee.value (Operand.func 59), args := #[Operand.tmp 164], argTypes := #[66] }, type := 24, pos := "laws.go:1386", after := #[{ on := 31, ground := Ground.data }, { on := 30, ground := Ground.chain }, { on := 28, ground := Ground.guard }], guard := some (28, true) }) rfl (fun K hK => ?_) AllReadyH.nil
        go_simp
        go_at_call 59
        refine (implStable w27 w27.heap.size (some ⟨mg, 0, none⟩) 4 mc KR (HRm27.out.mores (by omega)) (Nat.le_refl _) HSk.out).mono ?_
        rintro e w28 ⟨s2, sc2, rfl, ho2, hb⟩
        have hs28 := hb.size
        have HRa28 := Lib.hid (HRa27.out.below hb (by omega))
        have HY28 := Lib.hid (HY27.out.below hb (by omega))
        have HB28 := Lib.hid (HB27.out.trans (hb.mono (by omega)))
        have HXa28 := Lib.hid ((hb.block _ (lt_of_block HXa27.out)).trans HXa27.out)
        have HRm28 := Lib.hid (HRm27.out.below hb (by omega))
        have HXn28 := Lib.hid ((hb.block _ (lt_of_block HXn27.out)).trans HXn27.out)
        have HC28 := Lib.hid (HC27.out.trans (hb.mono (by omega)))
        have HRu28 := Lib.hid (HRu27.out.below hb (by omega))
        have HXu28 := Lib.hid ((hb.block _ (lt_of_block HXu27.out)).trans HXu27.out)
        have HXrm28 := Lib.hid (HXrm27.out.below hb (by omega))
        have HXra28 := Lib.hid (HXra27.out.below hb (by omega))
        have HG28 := Lib.hid (HG27.out.trans (hb.mono (by omega)))
        have HT128 := Lib.hid (HT127.out.below hb (by omega))
        clear hb HRa27 HY27 HB27 HXa27 HRm27 HXn27 HC27 HRu27 HXu27 HXrm27 HXra27 HG27 HT127
        have HT228 := Lib.hid ho2.ints
        have hS10 : w28.cell? ⟨w0.heap.size, 0, none⟩ = some (.slice (some ⟨ab, ao, none⟩) 4 c) ∧ w28.cell? ⟨w2.heap.size, 0, none⟩ = some (.slice (some ⟨mg, 0, none⟩) 4 mc) ∧ w28.cell? ⟨w21.heap.size, 0, none⟩ = some (.slice (some ⟨ug, 0, none⟩) 4 uc) ∧ w28.cell? ⟨ab, ao + d, none⟩ = some (.slice ai (rowOf l d).length ci) ∧ w28.cell? ⟨mg, d, none⟩ = some (.slice mi (rowOf KR d).length mci) := ⟨one_cell HXa28.out, one_cell HXn28.out, one_cell HXu28.out, (HG28.out.cell (p := ⟨ab, ao + d, none⟩) habl).trans HAC.out, (HG28.out.cell (p := ⟨mg, d, none⟩) hmgl).trans HMC.out⟩
        refine hK.out _ _ hS10 (fun hHeld11 => ?_)
        clear hK K
        (try simp only [Act.put, List.setIfInBounds_toArray, List.set_cons_zero, List.set_cons_succ])
        clear hHeld11
        refine wpAnyH_ready (rs := [33]) (by kernel_rfl) (by simp) ?_
        refine AllReadyH.cons (o := { dst := some 166, op := Op.call { callee := Callee.value (Operand.func 70), args := #[Operand.tmp 163, Operand.tmp 165], argTypes := #[24, 24] }, type := 4, pos := "laws.go:1386", after := #[{ on := 30, ground := Ground.data }, { on := 32, ground := Ground.data }, { on := 32, ground := Ground.chain }, { on := 28, ground := Ground.guard }], guard := some (28, true) }) rfl (fun K hK => ?_) AllReadyH.nil
        go_simp
        go_at_call 70
        refine (implWithin w28 w28.heap.size s1 s2 (stableL l).length sc1 (stableL KR).length sc2 (stableL l) (stableL KR) (HT128.out.more (by omega)) (HT228.out.more (by omega)) (Nat.le_refl _) (by omega) (by omega)).mono ?_
        rintro e w29 ⟨rfl, hb⟩
        rw [HkS.out]
        have hs29 := hb.size
        have HRa29 := Lib.hid (HRa28.out.below hb (by omega))
        have HY29 := Lib.hid (HY28.out.below hb (by omega))
        have HB29 := Lib.hid (HB28.out.trans (hb.mono (by omega)))
        have HXa29 := Lib.hid ((hb.block _ (lt_of_block HXa28.out)).trans HXa28.out)
        have HRm29 := Lib.hid (HRm28.out.below hb (by omega))
        have HXn29 := Lib.hid ((hb.block _ (lt_of_block HXn28.out)).trans HXn28.out)
        have HC29 := Lib.hid (HC28.out.trans (hb.mono (by omega)))
        have HRu29 := Lib.hid (HRu28.out.below hb (by omega))
        have HXu29 := Lib.hid ((hb.block _ (lt_of_block HXu28.out)).trans HXu28.out)
        have HXrm29 := Lib.hid (HXrm28.out.below hb (by omega))
        have HXra29 := Lib.hid (HXra28.out.below hb (by omega))
        have HG29 := Lib.hid (HG28.out.trans (hb.mono (by omega)))
        have HT129 := Lib.hid (HT128.out.below hb (by omega))
        have HT229 := Lib.hid (HT228.out.below hb (by omega))
        clear hb HRa28 HY28 HB28 HXa28 HRm28 HXn28 HC28 HRu28 HXu28 HXrm28 HXra28 HG28 HT128 HT228
        have hS12 : w29.cell? ⟨w0.heap.size, 0, none⟩ = some (.slice (some ⟨ab, ao, none⟩) 4 c) ∧ w29.cell? ⟨w2.heap.size, 0, none⟩ = some (.slice (some ⟨mg, 0, none⟩) 4 mc) ∧ w29.cell? ⟨w21.heap.size, 0, none⟩ = some (.slice (some ⟨ug, 0, none⟩) 4 uc) ∧ w29.cell? ⟨ab, ao + d, none⟩ = some (.slice ai (rowOf l d).length ci) ∧ w29.cell? ⟨mg, d, none⟩ = some (.slice mi (rowOf KR d).length mci) := ⟨one_cell HXa29.out, one_cell HXn29.out, one_cell HXu29.out, (HG29.out.cell (p := ⟨ab, ao + d, none⟩) habl).trans HAC.out, (HG29.out.cell (p := ⟨mg, d, none⟩) hmgl).trans HMC.out⟩
        refine hK.out _ _ hS12 (fun hHeld13 => ?_)
        clear hK K
        (try simp only [Act.put, List.setIfInBounds_toArray, List.set_cons_zero, List.set_cons_succ])
        clear hHeld13
        refine wpAnyH_take (i := 34) (oi := { dst := some 167, op := Op.pick (Operand.tmp 161) (Operand.tmp 166) (Operand.const (Value.bool false)), type := 4, pos := "laws.go:1386", after := #[{ on := 28, ground := Ground.data }, { on := 33, ground := Ground.data }], guard := none }) (v := ?_) rfl (by kernel_rfl) (by kernel_rfl) (by kernel_rfl) (fun _ _ _ h => h) (Or.inl ⟨by rfl, ?_⟩) (by assumption) ?_
        rotate_left
        · intro w hSw
          (try dsimp only at hSw)
          first | (go_simp; done) | (go_simp; with_reducible rfl)
        (try simp only [Act.put, List.setIfInBounds_toArray, List.set_cons_zero, List.set_cons_succ])
        refine wpAnyH_take (i := 35) (oi := { dst := some 2, op := Op.assign (Operand.tmp 167), type := 4, pos := "laws.go:1386", after := #[{ on := 34, ground := Ground.data }, { on := 33, ground := Ground.chain }, { on := 0, ground := Ground.phase }, { on := 1, ground := Ground.phase }, { on := 2, ground := Ground.phase }, { on := 3, ground := Ground.phase }, { on := 4, ground := Ground.phase }, { on := 5, ground := Ground.phase }, { on := 6, ground := Ground.phase }, { on := 7, ground := Ground.phase }, { on := 8, ground := Ground.phase }, { on := 9, ground := Ground.phase }, { on := 10, ground := Ground.phase }, { on := 11, ground := Ground.phase }, { on := 12, ground := Ground.phase }, { on := 13, ground := Ground.phase }, { on := 14, ground := Ground.phase }, { on := 15, ground := Ground.phase }, { on := 16, ground := Ground.phase }, { on := 17, ground := Ground.phase }, { on := 18, ground := Ground.phase }, { on := 19, ground := Ground.phase }, { on := 20, ground := Ground.phase }, { on := 21, ground := Ground.phase }, { on := 22, ground := Ground.phase }, { on := 23, ground := Ground.phase }, { on := 24, ground := Ground.phase }, { on := 25, ground := Ground.phase }, { on := 26, ground := Ground.phase }, { on := 27, ground := Ground.phase }, { on := 28, ground := Ground.phase }, { on := 29, ground := Ground.phase }, { on := 30, ground := Ground.phase }, { on := 31, ground := Ground.phase }, { on := 32, ground := Ground.phase }, { on := 33, ground := Ground.phase }, { on := 34, ground := Ground.phase }], guard := none }) (v := ?_) rfl (by kernel_rfl) (by kernel_rfl) (by kernel_rfl) (fun _ _ _ h => h) (Or.inl ⟨by rfl, ?_⟩) (by assumption) ?_
        rotate_left
        · intro w hSw
          (try dsimp only at hSw)
          first | (go_simp; done) | (go_simp; with_reducible rfl)
        (try simp only [Act.put, List.setIfInBounds_toArray, List.set_cons_zero, List.set_cons_succ])
        refine wpAnyH_done (by kernel_rfl) ?_ _
        go_wp2
        go_ret
        exact ⟨rfl, HB29.out⟩
      have hqi : (q : Int) < 4 := by omega
      have hq0 : decide ((q : Int) < 0) = false := decide_eq_false (by omega)
      have hq00 : ¬ ((q : Int) < 0) := by omega
      by_cases hqd : q = d
      · skip
        subst hqd
        have hne : ((q : Int) != (q : Int)) = false := bne_self_eq_false _
        have q0 := one_cell HXn20.out
        go_upto_region 13 with fail
        clear q0
        obtain ⟨w21, hzw⟩ : ∃ z, w20.drew = z := ⟨_, rfl⟩
        have hb : Below w20.heap.size w20 w21 := by rw [← hzw]; exact ⟨rfl, rfl, rfl, Nat.le_refl _, fun _ _ => rfl⟩
        have hs21 := hb.size
        have HRa21 := Lib.hid (HRa20.out.below hb (by omega))
        have HY21 := Lib.hid (HY20.out.below hb (by omega))
        have HB21 := Lib.hid (HB20.out.trans (hb.mono (by omega)))
        have HXa21 := Lib.hid ((hb.block _ (lt_of_block HXa20.out)).trans HXa20.out)
        have HRm21 := Lib.hid (HRm20.out.below hb (by omega))
        have HXn21 := Lib.hid ((hb.block _ (lt_of_block HXn20.out)).trans HXn20.out)
        have HC21 := Lib.hid (HC20.out.trans (hb.mono (by omega)))
        clear hb HRa20 HY20 HB20 HXa20 HRm20 HXn20 HC20
        have hS : w21.cell? ⟨w2.heap.size, 0, none⟩ = some (.slice (some ⟨mg, 0, none⟩) 4 mc) := one_cell HXn21.out
        refine wp_region_held_drew (S := fun w' => w'.cell? ⟨w2.heap.size, 0, none⟩ = some (.slice (some ⟨mg, 0, none⟩) 4 mc)) (by kernel_rfl) (by rw [hzw]; exact hS) (fun hHeld => ?_)
        rw [hzw]
        clear hHeld hzw
        refine wpAnyH_take (i := 0) (oi := { dst := some 109, op := Op.move (Operand.tmp 12), type := 3, pos := "laws.go:1381", after := #[], guard := none }) (v := ?_) rfl (by kernel_rfl) (by kernel_rfl) (by kernel_rfl) (fun _ _ _ h => h) (Or.inl ⟨by rfl, ?_⟩) (by assumption) ?_
        rotate_left
        · intro w hSw
          (try dsimp only at hSw)
          first | (go_simp; done) | (go_simp; with_reducible rfl)
        (try simp only [Act.put, List.setIfInBounds_toArray, List.set_cons_zero, List.set_cons_succ])
        refine wpAnyH_take (i := 1) (oi := { dst := some 110, op := Op.move (Operand.tmp 4), type := 2, pos := "laws.go:1381", after := #[], guard := none }) (v := ?_) rfl (by kernel_rfl) (by kernel_rfl) (by kernel_rfl) (fun _ _ _ h => h) (Or.inl ⟨by rfl, ?_⟩) (by assumption) ?_
        rotate_left
        · intro w hSw
          (try dsimp only at hSw)
          first | (go_simp; done) | (go_simp; with_reducible rfl)
        (try simp only [Act.put, List.setIfInBounds_toArray, List.set_cons_zero, List.set_cons_succ])
        refine wpAnyH_take (i := 2) (oi := { dst := some 111, op := Op.binOp BinOp.neq 2 (Operand.tmp 109) (Operand.tmp 110) 2, type := 4, pos := "laws.go:1381", after := #[{ on := 0, ground := Ground.data }, { on := 1, ground := Ground.data }], guard := none }) (v := ?_) rfl (by kernel_rfl) (by kernel_rfl) (by kernel_rfl) (fun _ _ _ h => h) (Or.inl ⟨by rfl, ?_⟩) (by assumption) ?_
        rotate_left
        · intro w hSw
          (try dsimp only at hSw)
          first | (go_simp; done) | (go_simp; with_reducible rfl)
        (try simp only [Act.put, List.setIfInBounds_toArray, List.set_cons_zero, List.set_cons_succ])
        refine wpAnyH_take (i := 3) (oi := { dst := some 112, op := Op.move (Operand.tmp 111), type := 4, pos := "laws.go:1381", after := #[{ on := 2, ground := Ground.data }], guard := none }) (v := ?_) rfl (by kernel_rfl) (by kernel_rfl) (by kernel_rfl) (fun _ _ _ h => h) (Or.inl ⟨by rfl, ?_⟩) (by assumption) ?_
        rotate_left
        · intro w hSw
          (try dsimp only at hSw)
          first | (go_simp; done) | (go_simp; with_reducible rfl)
        (try simp only [Act.put, List.setIfInBounds_toArray, List.set_cons_zero, List.set_cons_succ])
        refine wpAnyH_take (i := 4) (oi := { dst := some 113, op := Op.fieldAddr 66 (Operand.tmp 6) 0, type := 0, pos := "laws.go:1381", after := #[{ on := 3, ground := Ground.guard }], guard := some (3, true) }) (v := undef) rfl (by kernel_rfl) (by kernel_rfl) (by kernel_rfl) (fun _ _ _ h => h) (Or.inr ⟨by rfl, rfl⟩) (by assumption) ?_
        (try simp only [Act.put, List.setIfInBounds_toArray, List.set_cons_zero, List.set_cons_succ])
        refine wpAnyH_take (i := 5) (oi := { dst := some 114, op := Op.load 64 (Operand.tmp 113), type := 64, pos := "laws.go:1381", after := #[{ on := 4, ground := Ground.data }, { on := 3, ground := Ground.guard }], guard := some (3, true) }) (v := undef) rfl (by kernel_rfl) (by kernel_rfl) (by kernel_rfl) (fun _ _ _ h => h) (Or.inr ⟨by rfl, rfl⟩) (by assumption) ?_
        (try simp only [Act.put, List.setIfInBounds_toArray, List.set_cons_zero, List.set_cons_succ])
        refine wpAnyH_take (i := 6) (oi := { dst := some 115, op := Op.move (Operand.tmp 12), type := 3, pos := "laws.go:1381", after := #[{ on := 3, ground := Ground.guard }], guard := some (3, true) }) (v := undef) rfl (by kernel_rfl) (by kernel_rfl) (by kernel_rfl) (fun _ _ _ h => h) (Or.inr ⟨by rfl, rfl⟩) (by assumption) ?_
        (try simp only [Act.put, List.setIfInBounds_toArray, List.set_cons_zero, List.set_cons_succ])
        refine wpAnyH_take (i := 7) (oi := { dst := some 116, op := Op.indexAddr 64 (Operand.tmp 114) (Operand.tmp 115), type := 0, pos := "laws.go:1381", after := #[{ on := 5, ground := Ground.data }, { on := 6, ground := Ground.data }, { on := 3, ground := Ground.guard }], guard := some (3, true) }) (v := undef) rfl (by kernel_rfl) (by kernel_rfl) (by kernel_rfl) (fun _ _ _ h => h) (Or.inr ⟨by rfl, rfl⟩) (by assumption) ?_
        (try simp only [Act.put, List.setIfInBounds_toArray, List.set_cons_zero, List.set_cons_succ])
        refine wpAnyH_take (i := 8) (oi := { dst := some 117, op := Op.load 24 (Operand.tmp 116), type := 24, pos := "laws.go:1381", after := #[{ on := 7, ground := Ground.data }, { on := 3, ground := Ground.guard }], guard := some (3, true) }) (v := undef) rfl (by kernel_rfl) (by kernel_rfl) (by kernel_rfl) (fun _ _ _ h => h) (Or.inr ⟨by rfl, rfl⟩) (by assumption) ?_
        (try simp only [Act.put, List.setIfInBounds_toArray, List.set_cons_zero, List.set_cons_succ])
        refine wpAnyH_take (i := 9) (oi := { dst := some 118, op := Op.fieldAddr 66 (Operand.tmp 3) 0, type := 0, pos := "laws.go:1381", after := #[{ on := 3, ground := Ground.guard }], guard := some (3, true) }) (v := undef) rfl (by kernel_rfl) (by kernel_rfl) (by kernel_rfl) (fun _ _ _ h => h) (Or.inr ⟨by rfl, rfl⟩) (by assumption) ?_
        (try simp only [Act.put, List.setIfInBounds_toArray, List.set_cons_zero, List.set_cons_succ])
        refine wpAnyH_take (i := 10) (oi := { dst := some 119, op := Op.load 64 (Operand.tmp 118), type := 64, pos := "laws.go:1381", after := #[{ on := 9, ground := Ground.data }, { on := 3, ground := Ground.guard }], guard := some (3, true) }) (v := undef) rfl (by kernel_rfl) (by kernel_rfl) (by kernel_rfl) (fun _ _ _ h => h) (Or.inr ⟨by rfl, rfl⟩) (by assumption) ?_
        (try simp only [Act.put, List.setIfInBounds_toArray, List.set_cons_zero, List.set_cons_succ])
        refine wpAnyH_take (i := 11) (oi := { dst := some 120, op := Op.move (Operand.tmp 12), type := 3, pos := "laws.go:1381", after := #[{ on := 3, ground := Ground.guard }], guard := some (3, true) }) (v := undef) rfl (by kernel_rfl) (by kernel_rfl) (by kernel_rfl) (fun _ _ _ h => h) (Or.inr ⟨by rfl, rfl⟩) (by assumption) ?_
        (try simp only [Act.put, List.setIfInBounds_toArray, List.set_cons_zero, List.set_cons_succ])
        refine wpAnyH_take (i := 12) (oi := { dst := some 121, op := Op.indexAddr 64 (Operand.tmp 119) (Operand.tmp 120), type := 0, pos := "laws.go:1381", after := #[{ on := 10, ground := Ground.data }, { on := 11, ground := Ground.data }, { on := 3, ground := Ground.guard }], guard := some (3, true) }) (v := undef) rfl (by kernel_rfl) (by kernel_rfl) (by kernel_rfl) (fun _ _ _ h => h) (Or.inr ⟨by rfl, rfl⟩) (by assumption) ?_
        (try simp only [Act.put, List.setIfInBounds_toArray, List.set_cons_zero, List.set_cons_succ])
        refine wpAnyH_take (i := 13) (oi := { dst := some 122, op := Op.load 24 (Operand.tmp 121), type := 24, pos := "laws.go:1381", after := #[{ on := 12, ground := Ground.data }, { on := 3, ground := Ground.guard }], guard := some (3, true) }) (v := undef) rfl (by kernel_rfl) (by kernel_rfl) (by kernel_rfl) (fun _ _ _ h => h) (Or.inr ⟨by rfl, rfl⟩) (by assumption) ?_
        (try simp only [Act.put, List.setIfInBounds_toArray, List.set_cons_zero, List.set_cons_succ])
        refine wpAnyH_take (i := 14) (oi := { dst := some 123, op := Op.call { callee := Callee.value (Operand.func 20), args := #[Operand.tmp 117, Operand.tmp 122], argTypes := #[24, 24] }, type := 4, pos := "laws.go:1381", after := #[{ on := 8, ground := Ground.data }, { on := 13, ground := Ground.data }, { on := 3, ground := Ground.chain }, { on := 3, ground := Ground.guard }], guard := some (3, true) }) (v := undef) rfl (by kernel_rfl) (by kernel_rfl) (by kernel_rfl) (fun _ _ _ h => h) (Or.inr ⟨by rfl, rfl⟩) (by assumption) ?_
        (try simp only [Act.put, List.setIfInBounds_toArray, List.set_cons_zero, List.set_cons_succ])
        refine wpAnyH_take (i := 15) (oi := { dst := some 124, op := Op.unOp UnOp.not 4 (Operand.tmp 123), type := 4, pos := "laws.go:1381", after := #[{ on := 14, ground := Ground.data }, { on := 3, ground := Ground.guard }], guard := some (3, true) }) (v := undef) rfl (by kernel_rfl) (by kernel_rfl) (by kernel_rfl) (fun _ _ _ h => h) (Or.inr ⟨by rfl, rfl⟩) (by assumption) ?_
        (try simp only [Act.put, List.setIfInBounds_toArray, List.set_cons_zero, List.set_cons_succ])
        refine wpAnyH_take (i := 16) (oi := { dst := some 125, op := Op.pick (Operand.tmp 112) (Operand.tmp 124) (Operand.const (Value.bool false)), type := 4, pos := "laws.go:1381", after := #[{ on := 3, ground := Ground.data }, { on := 15, ground := Ground.data }], guard := none }) (v := ?_) rfl (by kernel_rfl) (by kernel_rfl) (by kernel_rfl) (fun _ _ _ h => h) (Or.inl ⟨by rfl, ?_⟩) (by assumption) ?_
        rotate_left
        · intro w hSw
          (try dsimp only at hSw)
          first | (go_simp; done) | (go_simp; with_reducible rfl)
        (try simp only [Act.put, List.setIfInBounds_toArray, List.set_cons_zero, List.set_cons_succ])
        refine wpAnyH_done (by kernel_rfl) ?_ _
        skip
        go_wp2
        go_roundw
        case rel => exact ⟨q + 1, by omega, by go_num, HC21⟩
        case measure => simp [intOf]; omega
      · skip
        have hne : ((q : Int) != (d : Int)) = true := by simp; omega
        have HEq := Lib.hid (HkE.out q hlt hqd)
        obtain ⟨mb, mo, mi, mci, me, hmb, hmc, hmx⟩ := HRm20.out.2 q hlt
        injection me with me
        injection me with me1 me2
        subst me1 me2
        have HXrm : Hid (Ints w20 w20.heap.size mi (rowOf KR q).length (rowOf KR q)) := hmx.more (by omega)
        have HMC : Hid (w20.cell? ⟨mg, q, none⟩ = some (.slice mi (rowOf KR q).length mci)) := by rw [Nat.zero_add] at hmc; exact hmc
        have hmgl := block_lt_of_cell hmc
        clear hmb hmc hmx
        obtain ⟨ab, ao, ai, ci, rfl, hab, hac, hax⟩ := HRa20.out.2 q hlt
        have HXra : Hid (Ints w20 w20.heap.size ai (rowOf l q).length (rowOf l q)) := hax.more (by omega)
        have HAC : Hid (w20.cell? ⟨ab, ao + q, none⟩ = some (.slice ai (rowOf l q).length ci)) := hac
        have habl := block_lt_of_cell hac
        clear hab hac hax
        have HXrm20 := HXrm
        have HXra20 := HXra
        clear HXrm HXra
        have q0 := one_cell HXn20.out
        go_upto_region 13 with fail
        clear q0
        obtain ⟨w21, hzw⟩ : ∃ z, w20.drew = z := ⟨_, rfl⟩
        have hb : Below w20.heap.size w20 w21 := by rw [← hzw]; exact ⟨rfl, rfl, rfl, Nat.le_refl _, fun _ _ => rfl⟩
        have HG21 : Hid (Below w20.heap.size w20 w21) := hb
        have hs21 := hb.size
        have HRa21 := Lib.hid (HRa20.out.below hb (by omega))
        have HY21 := Lib.hid (HY20.out.below hb (by omega))
        have HB21 := Lib.hid (HB20.out.trans (hb.mono (by omega)))
        have HXa21 := Lib.hid ((hb.block _ (lt_of_block HXa20.out)).trans HXa20.out)
        have HRm21 := Lib.hid (HRm20.out.below hb (by omega))
        have HXn21 := Lib.hid ((hb.block _ (lt_of_block HXn20.out)).trans HXn20.out)
        have HC21 := Lib.hid (HC20.out.trans (hb.mono (by omega)))
        have HXrm21 := Lib.hid (HXrm20.out.below hb (by omega))
        have HXra21 := Lib.hid (HXra20.out.below hb (by omega))
        clear hb HRa20 HY20 HB20 HXa20 HRm20 HXn20 HC20 HXrm20 HXra20
        have hS : w21.cell? ⟨w0.heap.size, 0, none⟩ = some (.slice (some ⟨ab, ao, none⟩) 4 c) ∧ w21.cell? ⟨w2.heap.size, 0, none⟩ = some (.slice (some ⟨mg, 0, none⟩) 4 mc) ∧ w21.cell? ⟨ab, ao + q, none⟩ = some (.slice ai (rowOf l q).length ci) ∧ w21.cell? ⟨mg, q, none⟩ = some (.slice mi (rowOf KR q).length mci) := ⟨one_cell HXa21.out, one_cell HXn21.out, (HG21.out.cell (p := ⟨ab, ao + q, none⟩) habl).trans HAC.out, (HG21.out.cell (p := ⟨mg, q, none⟩) hmgl).trans HMC.out⟩
        refine wp_region_held_drew (S := fun w' => w'.cell? ⟨w0.heap.size, 0, none⟩ = some (.slice (some ⟨ab, ao, none⟩) 4 c) ∧ w'.cell? ⟨w2.heap.size, 0, none⟩ = some (.slice (some ⟨mg, 0, none⟩) 4 mc) ∧ w'.cell? ⟨ab, ao + q, none⟩ = some (.slice ai (rowOf l q).length ci) ∧ w'.cell? ⟨mg, q, none⟩ = some (.slice mi (rowOf KR q).length mci)) (by kernel_rfl) (by rw [hzw]; exact hS) (fun hHeld => ?_)
        rw [hzw]
        clear hHeld hzw
        refine wpAnyH_take (i := 0) (oi := { dst := some 109, op := Op.move (Operand.tmp 12), type := 3, pos := "laws.go:1381", after := #[], guard := none }) (v := ?_) rfl (by kernel_rfl) (by kernel_rfl) (by kernel_rfl) (fun _ _ _ h => h) (Or.inl ⟨by rfl, ?_⟩) (by assumption) ?_
        rotate_left
        · intro w hSw
          (try dsimp only at hSw)
          first | (go_simp; done) | (go_simp; with_reducible rfl)
        (try simp only [Act.put, List.setIfInBounds_toArray, List.set_cons_zero, List.set_cons_succ])
        refine wpAnyH_take (i := 1) (oi := { dst := some 110, op := Op.move (Operand.tmp 4), type := 2, pos := "laws.go:1381", after := #[], guard := none }) (v := ?_) rfl (by kernel_rfl) (by kernel_rfl) (by kernel_rfl) (fun _ _ _ h => h) (Or.inl ⟨by rfl, ?_⟩) (by assumption) ?_
        rotate_left
        · intro w hSw
          (try dsimp only at hSw)
          first | (go_simp; done) | (go_simp; with_reducible rfl)
        (try simp only [Act.put, List.setIfInBounds_toArray, List.set_cons_zero, List.set_cons_succ])
        refine wpAnyH_take (i := 2) (oi := { dst := some 111, op := Op.binOp BinOp.neq 2 (Operand.tmp 109) (Operand.tmp 110) 2, type := 4, pos := "laws.go:1381", after := #[{ on := 0, ground := Ground.data }, { on := 1, ground := Ground.data }], guard := none }) (v := ?_) rfl (by kernel_rfl) (by kernel_rfl) (by kernel_rfl) (fun _ _ _ h => h) (Or.inl ⟨by rfl, ?_⟩) (by assumption) ?_
        rotate_left
        · intro w hSw
          (try dsimp only at hSw)
          first | (go_simp; done) | (go_simp; with_reducible rfl)
        (try simp only [Act.put, List.setIfInBounds_toArray, List.set_cons_zero, List.set_cons_succ])
        refine wpAnyH_take (i := 3) (oi := { dst := some 112, op := Op.move (Operand.tmp 111), type := 4, pos := "laws.go:1381", after := #[{ on := 2, ground := Ground.data }], guard := none }) (v := ?_) rfl (by kernel_rfl) (by kernel_rfl) (by kernel_rfl) (fun _ _ _ h => h) (Or.inl ⟨by rfl, ?_⟩) (by assumption) ?_
        rotate_left
        · intro w hSw
          (try dsimp only at hSw)
          first | (go_simp; done) | (go_simp; with_reducible rfl)
        (try simp only [Act.put, List.setIfInBounds_toArray, List.set_cons_zero, List.set_cons_succ])
        refine wpAnyH_take (i := 4) (oi := { dst := some 113, op := Op.fieldAddr 66 (Operand.tmp 6) 0, type := 0, pos := "laws.go:1381", after := #[{ on := 3, ground := Ground.guard }], guard := some (3, true) }) (v := ?_) rfl (by kernel_rfl) (by kernel_rfl) (by kernel_rfl) (fun _ _ _ h => h) (Or.inl ⟨by rfl, ?_⟩) (by assumption) ?_
        rotate_left
        · intro w hSw
          (try dsimp only at hSw)
          first | (go_simp; done) | (go_simp; with_reducible rfl)
        (try simp only [Act.put, List.setIfInBounds_toArray, List.set_cons_zero, List.set_cons_succ])
        refine wpAnyH_take (i := 5) (oi := { dst := some 114, op := Op.load 64 (Operand.tmp 113), type := 64, pos := "laws.go:1381", after := #[{ on := 4, ground := Ground.data }, { on := 3, ground := Ground.guard }], guard := some (3, true) }) (v := ?_) rfl (by kernel_rfl) (by kernel_rfl) (by kernel_rfl) (fun _ _ _ h => h) (Or.inl ⟨by rfl, ?_⟩) (by assumption) ?_
        rotate_left
        · intro w hSw
          (try dsimp only at hSw)
          first | (go_simp; done) | (go_simp; with_reducible rfl)
        (try simp only [Act.put, List.setIfInBounds_toArray, List.set_cons_zero, List.set_cons_succ])
        refine wpAnyH_take (i := 6) (oi := { dst := some 115, op := Op.move (Operand.tmp 12), type := 3, pos := "laws.go:1381", after := #[{ on := 3, ground := Ground.guard }], guard := some (3, true) }) (v := ?_) rfl (by kernel_rfl) (by kernel_rfl) (by kernel_rfl) (fun _ _ _ h => h) (Or.inl ⟨by rfl, ?_⟩) (by assumption) ?_
        rotate_left
        · intro w hSw
          (try dsimp only at hSw)
          first | (go_simp; done) | (go_simp; with_reducible rfl)
        (try simp only [Act.put, List.setIfInBounds_toArray, List.set_cons_zero, List.set_cons_succ])
        refine wpAnyH_take (i := 7) (oi := { dst := some 116, op := Op.indexAddr 64 (Operand.tmp 114) (Operand.tmp 115), type := 0, pos := "laws.go:1381", after := #[{ on := 5, ground := Ground.data }, { on := 6, ground := Ground.data }, { on := 3, ground := Ground.guard }], guard := some (3, true) }) (v := ?_) rfl (by kernel_rfl) (by kernel_rfl) (by kernel_rfl) (fun _ _ _ h => h) (Or.inl ⟨by rfl, ?_⟩) (by assumption) ?_
        rotate_left
        · intro w hSw
          (try dsimp only at hSw)
          first | (go_simp; done) | (go_simp; with_reducible rfl)
        (try simp only [Act.put, List.setIfInBounds_toArray, List.set_cons_zero, List.set_cons_succ])
        refine wpAnyH_take (i := 8) (oi := { dst := some 117, op := Op.load 24 (Operand.tmp 116), type := 24, pos := "laws.go:1381", after := #[{ on := 7, ground := Ground.data }, { on := 3, ground := Ground.guard }], guard := some (3, true) }) (v := ?_) rfl (by kernel_rfl) (by kernel_rfl) (by kernel_rfl) (fun _ _ _ h => h) (Or.inl ⟨by rfl, ?_⟩) (by assumption) ?_
        rotate_left
        · intro w hSw
          (try dsimp only at hSw)
          first | (go_simp; done) | (go_simp; with_reducible rfl)
        (try simp only [Act.put, List.setIfInBounds_toArray, List.set_cons_zero, List.set_cons_succ])
        refine wpAnyH_take (i := 9) (oi := { dst := some 118, op := Op.fieldAddr 66 (Operand.tmp 3) 0, type := 0, pos := "laws.go:1381", after := #[{ on := 3, ground := Ground.guard }], guard := some (3, true) }) (v := ?_) rfl (by kernel_rfl) (by kernel_rfl) (by kernel_rfl) (fun _ _ _ h => h) (Or.inl ⟨by rfl, ?_⟩) (by assumption) ?_
        rotate_left
        · intro w hSw
          (try dsimp only at hSw)
          first | (go_simp; done) | (go_simp; with_reducible rfl)
        (try simp only [Act.put, List.setIfInBounds_toArray, List.set_cons_zero, List.set_cons_succ])
        refine wpAnyH_take (i := 10) (oi := { dst := some 119, op := Op.load 64 (Operand.tmp 118), type := 64, pos := "laws.go:1381", after := #[{ on := 9, ground := Ground.data }, { on := 3, ground := Ground.guard }], guard := some (3, true) }) (v := ?_) rfl (by kernel_rfl) (by kernel_rfl) (by kernel_rfl) (fun _ _ _ h => h) (Or.inl ⟨by rfl, ?_⟩) (by assumption) ?_
        rotate_left
        · intro w hSw
          (try dsimp only at hSw)
          first | (go_simp; done) | (go_simp; with_reducible rfl)
        (try simp only [Act.put, List.setIfInBounds_toArray, List.set_cons_zero, List.set_cons_succ])
        refine wpAnyH_take (i := 11) (oi := { dst := some 120, op := Op.move (Operand.tmp 12), type := 3, pos := "laws.go:1381", after := #[{ on := 3, ground := Ground.guard }], guard := some (3, true) }) (v := ?_) rfl (by kernel_rfl) (by kernel_rfl) (by kernel_rfl) (fun _ _ _ h => h) (Or.inl ⟨by rfl, ?_⟩) (by assumption) ?_
        rotate_left
        · intro w hSw
          (try dsimp only at hSw)
          first | (go_simp; done) | (go_simp; with_reducible rfl)
        (try simp only [Act.put, List.setIfInBounds_toArray, List.set_cons_zero, List.set_cons_succ])
        refine wpAnyH_take (i := 12) (oi := { dst := some 121, op := Op.indexAddr 64 (Operand.tmp 119) (Operand.tmp 120), type := 0, pos := "laws.go:1381", after := #[{ on := 10, ground := Ground.data }, { on := 11, ground := Ground.data }, { on := 3, ground := Ground.guard }], guard := some (3, true) }) (v := ?_) rfl (by kernel_rfl) (by kernel_rfl) (by kernel_rfl) (fun _ _ _ h => h) (Or.inl ⟨by rfl, ?_⟩) (by assumption) ?_
        rotate_left
        · intro w hSw
          (try dsimp only at hSw)
          first | (go_simp; done) | (go_simp; with_reducible rfl)
        (try simp only [Act.put, List.setIfInBounds_toArray, List.set_cons_zero, List.set_cons_succ])
        refine wpAnyH_take (i := 13) (oi := { dst := some 122, op := Op.load 24 (Operand.tmp 121), type := 24, pos := "laws.go:1381", after := #[{ on := 12, ground := Ground.data }, { on := 3, ground := Ground.guard }], guard := some (3, true) }) (v := ?_) rfl (by kernel_rfl) (by kernel_rfl) (by kernel_rfl) (fun _ _ _ h => h) (Or.inl ⟨by rfl, ?_⟩) (by assumption) ?_
        rotate_left
        · intro w hSw
          (try dsimp only at hSw)
          first | (go_simp; done) | (go_simp; with_reducible rfl)
        (try simp only [Act.put, List.setIfInBounds_toArray, List.set_cons_zero, List.set_cons_succ])
        refine wpAnyH_ready (rs := [14]) (by kernel_rfl) (by simp) ?_
        refine AllReadyH.cons (o := { dst := some 123, op := Op.call { callee := Callee.value (Operand.func 20), args := #[Operand.tmp 117, Operand.tmp 122], argTypes := #[24, 24] }, type := 4, pos := "laws.go:1381", after := #[{ on := 8, ground := Ground.data }, { on := 13, ground := Ground.data }, { on := 3, ground := Ground.chain }, { on := 3, ground := Ground.guard }], guard := some (3, true) }) rfl (fun K hK => ?_) AllReadyH.nil
        go_simp
        go_at_call 20
        refine (sameInts w21 w21.heap.size w21.heap.size mi ai (rowOf KR q).length mci (rowOf l q).length ci (rowOf KR q) (rowOf l q) (HXrm21.out.more (by omega)) (HXra21.out.more (by omega)) (HSk.out q hlt) (HSa.out q hlt)).mono ?_
        rintro e w22 ⟨rfl, hsm⟩
        have hb : Below w21.heap.size w21 w22 := hsm.below _
        clear hsm
        rw [decide_eq_true HEq.out]
        have hs22 := hb.size
        have HRa22 := Lib.hid (HRa21.out.below hb (by omega))
        have HY22 := Lib.hid (HY21.out.below hb (by omega))
        have HB22 := Lib.hid (HB21.out.trans (hb.mono (by omega)))
        have HXa22 := Lib.hid ((hb.block _ (lt_of_block HXa21.out)).trans HXa21.out)
        have HRm22 := Lib.hid (HRm21.out.below hb (by omega))
        have HXn22 := Lib.hid ((hb.block _ (lt_of_block HXn21.out)).trans HXn21.out)
        have HC22 := Lib.hid (HC21.out.trans (hb.mono (by omega)))
        have HXrm22 := Lib.hid (HXrm21.out.below hb (by omega))
        have HXra22 := Lib.hid (HXra21.out.below hb (by omega))
        have HG22 := Lib.hid (HG21.out.trans (hb.mono (by omega)))
        clear hb HRa21 HY21 HB21 HXa21 HRm21 HXn21 HC21 HXrm21 HXra21 HG21
        have hS2 : w22.cell? ⟨w0.heap.size, 0, none⟩ = some (.slice (some ⟨ab, ao, none⟩) 4 c) ∧ w22.cell? ⟨w2.heap.size, 0, none⟩ = some (.slice (some ⟨mg, 0, none⟩) 4 mc) ∧ w22.cell? ⟨ab, ao + q, none⟩ = some (.slice ai (rowOf l q).length ci) ∧ w22.cell? ⟨mg, q, none⟩ = some (.slice mi (rowOf KR q).length mci) := ⟨one_cell HXa22.out, one_cell HXn22.out, (HG22.out.cell (p := ⟨ab, ao + q, none⟩) habl).trans HAC.out, (HG22.out.cell (p := ⟨mg, q, none⟩) hmgl).trans HMC.out⟩
        refine hK.out _ _ hS2 (fun hHeld3 => ?_)
        clear hK K
        (try simp only [Act.put, List.setIfInBounds_toArray, List.set_cons_zero, List.set_cons_succ])
        clear hHeld3
        refine wpAnyH_take (i := 15) (oi := { dst := some 124, op := Op.unOp UnOp.not 4 (Operand.tmp 123), type := 4, pos := "laws.go:1381", after := #[{ on := 14, ground := Ground.data }, { on := 3, ground := Ground.guard }], guard := some (3, true) }) (v := ?_) rfl (by kernel_rfl) (by kernel_rfl) (by kernel_rfl) (fun _ _ _ h => h) (Or.inl ⟨by rfl, ?_⟩) (by assumption) ?_
        rotate_left
        · intro w hSw
          (try dsimp only at hSw)
          first | (go_simp; done) | (go_simp; with_reducible rfl)
        (try simp only [Act.put, List.setIfInBounds_toArray, List.set_cons_zero, List.set_cons_succ])
        refine wpAnyH_take (i := 16) (oi := { dst := some 125, op := Op.pick (Operand.tmp 112) (Operand.tmp 124) (Operand.const (Value.bool false)), type := 4, pos := "laws.go:1381", after := #[{ on := 3, ground := Ground.data }, { on := 15, ground := Ground.data }], guard := none }) (v := ?_) rfl (by kernel_rfl) (by kernel_rfl) (by kernel_rfl) (fun _ _ _ h => h) (Or.inl ⟨by rfl, ?_⟩) (by assumption) ?_
        rotate_left
        · intro w hSw
          (try dsimp only at hSw)
          first | (go_simp; done) | (go_simp; with_reducible rfl)
        (try simp only [Act.put, List.setIfInBounds_toArray, List.set_cons_zero, List.set_cons_succ])
        refine wpAnyH_done (by kernel_rfl) ?_ _
        go_wp2
        go_roundw
        case rel => exact ⟨q + 1, by omega, by go_num, HC22⟩
        case measure => simp [intOf]; omega
end Go.Proofs.Ytmceofdknphgkaa
