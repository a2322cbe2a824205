/- The walk of laws.sameAcks. -/
import Derived.Test.YtmceofdknphgkaaHrdW
import Derived.Deep.Cut
namespace Go.Proofs.Ytmceofdknphgkaa
open Go.RowKit
set_option linter.unusedVariables false
set_option linter.unusedSimpArgs false

theorem rows_ext {l m : List (List Int)} (hl : l.length = m.length) (h : ∀ i, i < l.length → rowOf l i = rowOf m i) : l = m := by
  refine List.ext_getElem hl fun i h1 h2 => ?_
  have := h i h1
  unfold rowOf at this
  rw [List.getD_eq_getElem?_getD, List.getElem?_eq_getElem h1, List.getD_eq_getElem?_getD, List.getElem?_eq_getElem h2] at this
  exact this
set_option maxRecDepth 100000 in
set_option maxHeartbeats 4000000 in
theorem sameAcks (w : World) (B B' : Nat) (a a' : Option Addr) (n c n' c' : Nat) (l m : List (List Int)) (h : IRows w B a n l) (h' : IRows w B' a' n' m) (hB : B ≤ w.heap.size) (hB' : B' ≤ w.heap.size) (hn : n ≤ 1048576) (hn' : n' ≤ 1048576) (hr : ∀ i, i < n → (rowOf l i).length ≤ 1048576) (hr' : ∀ i, i < n' → (rowOf m i).length ≤ 1048576) :
    Calls Try.prog 66 #[.agg #[.slice a n c], .agg #[.slice a' n' c']] w fun e w' => e = .returned (.bool (decide (l = m))) ∧ Below w.heap.size w w' := by
  have hb0 : Below w.heap.size w ((w.alloc (.cells #[.slice a n c] 66)).alloc (.cells #[.slice a' n' c'] 66)) := ((Below.refl _ w).alloc (Nat.le_refl _) _).alloc (by simp) _
  have HX : Hid (((w.alloc (.cells #[.slice a n c] 66)).alloc (.cells #[.slice a' n' c'] 66)).heap[w.heap.size]? = some (.cells #[.slice a n c] 66 (0, 0))) := heap_alloc2_old _ _ _
  have HY : Hid (((w.alloc (.cells #[.slice a n c] 66)).alloc (.cells #[.slice a' n' c'] 66)).heap[w.heap.size + 1]? = some (.cells #[.slice a' n' c'] 66 (0, 0))) := heap_alloc2_new _ _ _
  have HL := Lib.hid (h.below hb0 hB)
  have HM := Lib.hid (h'.below hb0 hB')
  have HB := Lib.hid hb0
  have HR := Lib.hid hr
  have HR' := Lib.hid hr'
  have hsz : w.heap.size + 1 < ((w.alloc (.cells #[.slice a n c] 66)).alloc (.cells #[.slice a' n' c'] 66)).heap.size := by simp
  clear h h' hb0 hr hr'
  go_enter Try.func66, Try.ntmps66
  go_upto_region 1 with fail
  generalize (w.alloc (.cells #[.slice a n c] 66)).alloc (.cells #[.slice a' n' c'] 66) = w0 at HX HY HL HM HB hsz ⊢
  have q0 := one_cell HX.out
  have q1 := one_cell HY.out
  by_cases hnn : n = n'
  rotate_left
  · have hne : ((n : Int) != (n' : Int)) = true := by simp; omega
    have hf : decide (l = m) = false := decide_eq_false fun e => hnn (by rw [← HL.out.1, ← HM.out.1, e])
    have Hf := Lib.hid hf
    clear hnn hf
    go_wp2
    go_ret
    exact ⟨by rw [Hf.out]; rfl, HB.out⟩
  subst hnn
  have hne : ((n : Int) != (n : Int)) = false := bne_self_eq_false _
  go_wp2
  clear q0 q1
  go_loopw [5] (fun i wr => ∃ k : Nat, k ≤ n ∧ i = .int .i64 (k : Int) ∧ Hid (∀ j, j < k → rowOf l j = rowOf m j) ∧ Hid (Below w0.heap.size w0 wr)) (fun i _ => n - (intOf i).toNat)
  case atStart => exact ⟨0, Nat.zero_le _, rfl, fun j hj => absurd hj (Nat.not_lt_zero _), Below.refl _ _⟩
  case round =>
    obtain ⟨k, hk, rfl, HE, HBr⟩ := hrel
    have hsr := HBr.out.size
    have q0 := one_cell ((HBr.out.block _ (by omega)).trans HX.out)
    have q1 := one_cell ((HBr.out.block _ (by omega)).trans HY.out)
    by_cases hlt : k < n
    rotate_left
    · obtain rfl : k = n := by omega
      have ht : decide (l = m) = true := decide_eq_true (rows_ext (by rw [HL.out.1, HM.out.1]) fun i hi => HE.out i (by rw [← HL.out.1]; exact hi))
      have HBe := Lib.hid (HB.out.trans (HBr.out.mono (by omega)))
      have Ht := Lib.hid ht
      clear ht
      go_wp2
      go_ret
      exact ⟨by rw [Ht.out]; rfl, HBe.out⟩
    obtain ⟨b, off, ai, ci, rfl, hb, hc, hx⟩ := (HL.out.below HBr.out (by omega)).2 k hlt
    obtain ⟨b', off', ai', ci', rfl, hb', hc', hx'⟩ := (HM.out.below HBr.out (by omega)).2 k hlt
    have hki : (k : Int) < (n : Int) := by omega
    have hk0 : decide ((k : Int) < 0) = false := decide_eq_false (by omega)
    have hk00 : ¬ ((k : Int) < 0) := by omega
    have hbl := block_lt_of_cell hc
    have hbl' := block_lt_of_cell hc'
    go_upto_region 6 with fail
    obtain ⟨z0, hz0⟩ : ∃ z, wr.drew = z := ⟨_, rfl⟩
    have gz : Below wr.heap.size wr z0 := by rw [← hz0]; exact ⟨rfl, rfl, rfl, Nat.le_refl _, fun _ _ => rfl⟩
    have hS : z0.cell? ⟨w.heap.size, 0, none⟩ = some (.slice (some ⟨b, off, none⟩) n c) ∧ z0.cell? ⟨w.heap.size + 1, 0, none⟩ = some (.slice (some ⟨b', off', none⟩) n c') ∧ z0.cell? ⟨b, off + k, none⟩ = some (.slice ai (rowOf l k).length ci) ∧ z0.cell? ⟨b', off' + k, none⟩ = some (.slice ai' (rowOf m k).length ci') := by rw [← hz0]; exact ⟨q0, q1, hc, hc'⟩
    refine wp_region_held_drew (S := fun w' => w'.cell? ⟨w.heap.size, 0, none⟩ = some (.slice (some ⟨b, off, none⟩) n c) ∧ w'.cell? ⟨w.heap.size + 1, 0, none⟩ = some (.slice (some ⟨b', off', none⟩) n c') ∧ w'.cell? ⟨b, off + k, none⟩ = some (.slice ai (rowOf l k).length ci) ∧ w'.cell? ⟨b', off' + k, none⟩ = some (.slice ai' (rowOf m k).length ci')) (by kernel_rfl) (by rw [hz0]; exact hS) (fun hHeld => ?_)
    rw [hz0]
    clear hHeld hz0
    refine wpAnyH_take (i := 0) (oi := { dst := some 20, op := Op.fieldAddr 66 (Operand.tmp 2) 0, type := 0, pos := "laws.go:1360", after := #[], guard := none }) (v := ?_) rfl (by kernel_rfl) (by kernel_rfl) (by kernel_rfl) (fun _ _ _ h => h) (Or.inl ⟨by rfl, ?_⟩) (by assumption) ?_
    rotate_left
    · intro w hSw
      (try dsimp only at hSw)
      first | (go_simp; done) | (go_simp; with_reducible rfl)
    (try simp only [Act.put, List.setIfInBounds_toArray, List.set_cons_zero, List.set_cons_succ])
    refine wpAnyH_take (i := 1) (oi := { dst := some 21, op := Op.load 64 (Operand.tmp 20), type := 64, pos := "laws.go:1360", after := #[{ on := 0, ground := Ground.data }], guard := none }) (v := ?_) rfl (by kernel_rfl) (by kernel_rfl) (by kernel_rfl) (fun _ _ _ h => h) (Or.inl ⟨by rfl, ?_⟩) (by assumption) ?_
    rotate_left
    · intro w hSw
      (try dsimp only at hSw)
      first | (go_simp; done) | (go_simp; with_reducible rfl)
    (try simp only [Act.put, List.setIfInBounds_toArray, List.set_cons_zero, List.set_cons_succ])
    refine wpAnyH_take (i := 2) (oi := { dst := some 22, op := Op.move (Operand.tmp 5), type := 3, pos := "laws.go:1360", after := #[], guard := none }) (v := ?_) rfl (by kernel_rfl) (by kernel_rfl) (by kernel_rfl) (fun _ _ _ h => h) (Or.inl ⟨by rfl, ?_⟩) (by assumption) ?_
    rotate_left
    · intro w hSw
      (try dsimp only at hSw)
      first | (go_simp; done) | (go_simp; with_reducible rfl)
    (try simp only [Act.put, List.setIfInBounds_toArray, List.set_cons_zero, List.set_cons_succ])
    refine wpAnyH_take (i := 3) (oi := { dst := some 23, op := Op.indexAddr 64 (Operand.tmp 21) (Operand.tmp 22), type := 0, pos := "laws.go:1360", after := #[{ on := 1, ground := Ground.data }, { on := 2, ground := Ground.data }], guard := none }) (v := ?_) rfl (by kernel_rfl) (by kernel_rfl) (by kernel_rfl) (fun _ _ _ h => h) (Or.inl ⟨by rfl, ?_⟩) (by assumption) ?_
    rotate_left
    · intro w hSw
      (try dsimp only at hSw)
      first | (go_simp; done) | (go_simp; with_reducible rfl)
    (try simp only [Act.put, List.setIfInBounds_toArray, List.set_cons_zero, List.set_cons_succ])
    refine wpAnyH_take (i := 4) (oi := { dst := some 24, op := Op.load 24 (Operand.tmp 23), type := 24, pos := "laws.go:1360", after := #[{ on := 3, ground := Ground.data }], guard := none }) (v := ?_) rfl (by kernel_rfl) (by kernel_rfl) (by kernel_rfl) (fun _ _ _ h => h) (Or.inl ⟨by rfl, ?_⟩) (by assumption) ?_
    rotate_left
    · intro w hSw
      (try dsimp only at hSw)
      first | (go_simp; done) | (go_simp; with_reducible rfl)
    (try simp only [Act.put, List.setIfInBounds_toArray, List.set_cons_zero, List.set_cons_succ])
    refine wpAnyH_take (i := 5) (oi := { dst := some 25, op := Op.fieldAddr 66 (Operand.tmp 3) 0, type := 0, pos := "laws.go:1360", after := #[], guard := none }) (v := ?_) rfl (by kernel_rfl) (by kernel_rfl) (by kernel_rfl) (fun _ _ _ h => h) (Or.inl ⟨by rfl, ?_⟩) (by assumption) ?_
    rotate_left
    · intro w hSw
      (try dsimp only at hSw)
      first | (go_simp; done) | (go_simp; with_reducible rfl)
    (try simp only [Act.put, List.setIfInBounds_toArray, List.set_cons_zero, List.set_cons_succ])
    refine wpAnyH_take (i := 6) (oi := { dst := some 26, op := Op.load 64 (Operand.tmp 25), type := 64, pos := "laws.go:1360", after := #[{ on := 5, ground := Ground.data }], guard := none }) (v := ?_) rfl (by kernel_rfl) (by kernel_rfl) (by kernel_rfl) (fun _ _ _ h => h) (Or.inl ⟨by rfl, ?_⟩) (by assumption) ?_
    rotate_left
    · intro w hSw
      (try dsimp only at hSw)
      first | (go_simp; done) | (go_simp; with_reducible rfl)
    (try simp only [Act.put, List.setIfInBounds_toArray, List.set_cons_zero, List.set_cons_succ])
    refine wpAnyH_take (i := 7) (oi := { dst := some 27, op := Op.move (Operand.tmp 5), type := 3, pos := "laws.go:1360", after := #[], guard := none }) (v := ?_) rfl (by kernel_rfl) (by kernel_rfl) (by kernel_rfl) (fun _ _ _ h => h) (Or.inl ⟨by rfl, ?_⟩) (by assumption) ?_
    rotate_left
    · intro w hSw
      (try dsimp only at hSw)
      first | (go_simp; done) | (go_simp; with_reducible rfl)
    (try simp only [Act.put, List.setIfInBounds_toArray, List.set_cons_zero, List.set_cons_succ])
    refine wpAnyH_take (i := 8) (oi := { dst := some 28, op := Op.indexAddr 64 (Operand.tmp 26) (Operand.tmp 27), type := 0, pos := "laws.go:1360", after := #[{ on := 6, ground := Ground.data }, { on := 7, ground := Ground.data }], guard := none }) (v := ?_) rfl (by kernel_rfl) (by kernel_rfl) (by kernel_rfl) (fun _ _ _ h => h) (Or.inl ⟨by rfl, ?_⟩) (by assumption) ?_
    rotate_left
    · intro w hSw
      (try dsimp only at hSw)
      first | (go_simp; done) | (go_simp; with_reducible rfl)
    (try simp only [Act.put, List.setIfInBounds_toArray, List.set_cons_zero, List.set_cons_succ])
    refine wpAnyH_take (i := 9) (oi := { dst := some 29, op := Op.load 24 (Operand.tmp 28), type := 24, pos := "laws.go:1360", after := #[{ on := 8, ground := Ground.data }], guard := none }) (v := ?_) rfl (by kernel_rfl) (by kernel_rfl) (by kernel_rfl) (fun _ _ _ h => h) (Or.inl ⟨by rfl, ?_⟩) (by assumption) ?_
    rotate_left
    · intro w hSw
      (try dsimp only at hSw)
      first | (go_simp; done) | (go_simp; with_reducible rfl)
    (try simp only [Act.put, List.setIfInBounds_toArray, List.set_cons_zero, List.set_cons_succ])
    refine wpAnyH_ready (rs := [10]) (by kernel_rfl) (by simp) ?_
    refine AllReadyH.cons (o := { dst := some 30, op := Op.call { callee := Callee.value (Operand.func 20), args := #[Operand.tmp 24, Operand.tmp 29], argTypes := #[24, 24] }, type := 4, pos := "laws.go:1360", after := #[{ on := 4, ground := Ground.data }, { on := 9, ground := Ground.data }], guard := none }) rfl (fun K hK => ?_) AllReadyH.nil
    go_simp
    go_at_call 20
    refine (sameInts z0 z0.heap.size z0.heap.size ai ai' (rowOf l k).length ci (rowOf m k).length ci' (rowOf l k) (rowOf m k) ((hx.below gz (by omega)).more (by have := gz.size; omega)) ((hx'.below gz (by omega)).more (by have := gz.size; omega)) (HR.out k hlt) (HR'.out k hlt)).mono ?_
    rintro e z1 ⟨rfl, hSm⟩
    have hbs := hSm.below z0.heap.size
    have hb1 : Below wr.heap.size wr z1 := gz.trans (hbs.mono gz.size)
    have hS1 : z1.cell? ⟨w.heap.size, 0, none⟩ = some (.slice (some ⟨b, off, none⟩) n c) ∧ z1.cell? ⟨w.heap.size + 1, 0, none⟩ = some (.slice (some ⟨b', off', none⟩) n c') ∧ z1.cell? ⟨b, off + k, none⟩ = some (.slice ai (rowOf l k).length ci) ∧ z1.cell? ⟨b', off' + k, none⟩ = some (.slice ai' (rowOf m k).length ci') := ⟨(hb1.cell (p := ⟨w.heap.size, 0, none⟩) (by show w.heap.size < _; omega)).trans q0, (hb1.cell (p := ⟨w.heap.size + 1, 0, none⟩) (by show w.heap.size + 1 < _; omega)).trans q1, (hb1.cell hbl).trans hc, (hb1.cell hbl').trans hc'⟩
    have HBn := Lib.hid (HBr.out.trans (hb1.mono hsr))
    clear hSm hbs hb1
    refine hK.out _ _ hS1 (fun hHeld2 => ?_)
    clear hK K
    (try simp only [Act.put, List.setIfInBounds_toArray, List.set_cons_zero, List.set_cons_succ])
    by_cases he : rowOf l k = rowOf m k
    · skip
      rw [decide_eq_true he]
      have HE2 : Hid (∀ j, j < k + 1 → rowOf l j = rowOf m j) := fun j hj => by
        rcases Nat.lt_or_ge j k with h | h
        · exact HE.out j h
        · obtain rfl : j = k := by omega
          exact he
      clear he
      refine wpAnyH_take (i := 11) (oi := { dst := some 31, op := Op.unOp UnOp.not 4 (Operand.tmp 30), type := 4, pos := "laws.go:1360", after := #[{ on := 10, ground := Ground.data }], guard := none }) (v := ?_) rfl (by kernel_rfl) (by kernel_rfl) (by kernel_rfl) (fun _ _ _ h => h) (Or.inl ⟨by rfl, ?_⟩) (by assumption) ?_
      rotate_left
      · intro w hSw
        (try dsimp only at hSw)
        first | (go_simp; done) | (go_simp; with_reducible rfl)
      (try simp only [Act.put, List.setIfInBounds_toArray, List.set_cons_zero, List.set_cons_succ])
      refine wpAnyH_done (by kernel_rfl) ?_ _
      clear hS hS1 q0 q1 hc hc'
      go_wp2
      go_roundw
      case rel => exact ⟨k + 1, by omega, by go_num, HE2, HBn⟩
      case measure => simp [intOf]; omega
    · skip
      rw [decide_eq_false he]
      have hf : decide (l = m) = false := decide_eq_false fun e => he (by rw [e])
      have Hf := Lib.hid hf
      have HBe := Lib.hid (HB.out.trans (HBn.out.mono (by omega)))
      clear he hf
      refine wpAnyH_take (i := 11) (oi := { dst := some 31, op := Op.unOp UnOp.not 4 (Operand.tmp 30), type := 4, pos := "laws.go:1360", after := #[{ on := 10, ground := Ground.data }], guard := none }) (v := ?_) rfl (by kernel_rfl) (by kernel_rfl) (by kernel_rfl) (fun _ _ _ h => h) (Or.inl ⟨by rfl, ?_⟩) (by assumption) ?_
      rotate_left
      · intro w hSw
        (try dsimp only at hSw)
        first | (go_simp; done) | (go_simp; with_reducible rfl)
      (try simp only [Act.put, List.setIfInBounds_toArray, List.set_cons_zero, List.set_cons_succ])
      refine wpAnyH_done (by kernel_rfl) ?_ _
      clear hS hS1 q0 q1 hc hc'
      go_wp2
      go_ret
      exact ⟨by rw [Hf.out]; rfl, HBe.out⟩
end Go.Proofs.Ytmceofdknphgkaa
