/- What a valid part is; the walks of spec.PartOk and of impl.PartOk. -/
import Derived.Test.YtcebolkooohjhaaByNumW
import Derived.Deep.Cut
namespace Go.Proofs.Ytcebolkooohjhaa
open Go.RowKit


def okAt (xs : List Int) (l : List OpV) (i : Nat) : Bool := (atOp l i).ok && decide ((atOp l i).seq ≤ xs.getD (atOp l i).dev.toNat 0)
def partB (xs : List Int) (l : List OpV) : Bool := vecOk xs && ((List.range l.length).all (okAt xs l) && incB l)
theorem part_vec {xs : List Int} {l : List OpV} (h : vecOk xs = false) : partB xs l = false := by unfold partB; rw [h]; rfl
theorem part_ok_no {xs : List Int} {l : List OpV} {i : Nat} (hi : i < l.length) (h : okAt xs l i = false) : partB xs l = false := by
  have e : (List.range l.length).all (okAt xs l) = false := by
    rw [List.all_eq_false]
    exact ⟨i, by simpa using hi, by simp [h]⟩
  unfold partB
  rw [e]
  simp
theorem part_inc_no {xs : List Int} {l : List OpV} {i : Nat} (hi : i < l.length) (h : incAt l i = false) : partB xs l = false := by
  unfold partB
  rw [inc_no hi h]
  simp
theorem part_all {xs : List Int} {l : List OpV} (h : vecOk xs = true) (h1 : ∀ i, i < l.length → okAt xs l i = true) : partB xs l = incB l := by
  have e1 : (List.range l.length).all (okAt xs l) = true := by
    rw [List.all_eq_true]
    intro d hm
    exact h1 d (by simpa using hm)
  unfold partB
  rw [h, e1]
  rfl
theorem part_yes {xs : List Int} {l : List OpV} (h : vecOk xs = true) (h1 : ∀ i, i < l.length → okAt xs l i = true) (h2 : ∀ i, i < l.length → incAt l i = true) : partB xs l = true := (part_all h h1).trans (inc_yes h2)
theorem okAt_bad {xs : List Int} {l : List OpV} {i : Nat} (h : (atOp l i).ok = false) : okAt xs l i = false := by unfold okAt; rw [h]; rfl
theorem okAt_far {xs : List Int} {l : List OpV} {i : Nat} (h : xs.getD (atOp l i).dev.toNat 0 < (atOp l i).seq) : okAt xs l i = false := by
  unfold okAt; rw [decide_eq_false (by omega)]; simp
theorem okAt_yes {xs : List Int} {l : List OpV} {i : Nat} (h : (atOp l i).ok = true) (h2 : (atOp l i).seq ≤ xs.getD (atOp l i).dev.toNat 0) : okAt xs l i = true := by
  unfold okAt; rw [h, decide_eq_true h2]; rfl
theorem op_dev {o : OpV} (h : o.ok = true) : 0 ≤ o.dev ∧ o.dev ≤ 3 := by
  unfold OpV.ok opB headB at h
  simp only [Bool.and_eq_true] at h
  exact inB_iff.1 h.1.1

set_option linter.unusedSimpArgs false in
set_option maxRecDepth 100000 in
set_option maxHeartbeats 4000000 in
theorem specPartOk (w : World) (B : Nat) (av ao : Option Addr) (nv cv no co : Nat) (xs : List Int) (l : List OpV) (hx : Ints w B av nv xs) (h : Ops w B ao no l) (hB : B ≤ w.heap.size) (hv : nv ≤ 1048576) (hn : no ≤ 1048576) (hm : ∀ i, i < no → (atOp l i).item.size ≤ 1048576) :
    Calls Try.prog 9 #[.agg #[.slice av nv cv, .slice ao no co]] w fun e w' => e = .returned (.bool (partB xs l)) ∧ Below w.heap.size w w' := by
  have hb0 : Below w.heap.size w (w.alloc (.cells #[.slice av nv cv, .slice ao no co] 30)) := (Below.refl _ w).alloc (Nat.le_refl _) _
  have HV := Lib.hid (hx.below hb0 hB)
  have HO := Lib.hid (h.below hb0 hB)
  have HB := Lib.hid hb0
  have HX := Lib.hid (boxAt (Below.refl _ (w.alloc (.cells #[.slice av nv cv, .slice ao no co] 30))))
  have HL := Lib.hid h.1
  have hsz : w.heap.size < (w.alloc (.cells #[.slice av nv cv, .slice ao no co] 30)).heap.size := by show _ < (w.heap.push _).size; simp
  have HM := Lib.hid hm
  clear hm
  clear hx h hb0
  rcases hvk : vecOk xs with _ | _
  · have HF := Lib.hid (part_vec (l := l) hvk)
    have HK := Lib.hid hvk
    clear hvk
    go_enter Try.func9, Try.ntmps9
    go_wp2_with fail
    refine (specVecOk _ B av nv cv xs HV.out hv).mono ?_
    rintro e w1 ⟨rfl, rfl⟩
    rw [HK.out]
    go_wp2
    go_ret
    exact ⟨by rw [HF.out]; rfl, HB.out⟩
  have HK := Lib.hid hvk
  have h4 : nv = 4 := HV.out.1.symm.trans (vec_at hvk (d := 0) (by omega)).2.2
  subst h4
  have HY := Lib.hid (part_yes (l := l) hvk)
  have HNo := Lib.hid (fun i (hi : i < no) => part_ok_no (xs := xs) (l := l) (i := i) (by rw [HL.out]; exact hi))
  have HNi := Lib.hid (fun i (hi : i < no) => part_inc_no (xs := xs) (l := l) (i := i) (by rw [HL.out]; exact hi))
  clear hvk
  go_enter Try.func9, Try.ntmps9
  go_wp2_with fail
  generalize w.alloc (.cells #[.slice av 4 cv, .slice ao no co] 30) = w0 at HV HO HB HX hsz ⊢
  refine (specVecOk _ B av 4 cv xs HV.out hv).mono ?_
  rintro e w1 ⟨rfl, rfl⟩
  rw [HK.out]
  obtain ⟨c0, c1⟩ := pair_cells HX.out
  go_wp2
  go_loopw [3] (fun i wr => ∃ k : Nat, k ≤ no ∧ i = .int .i64 k ∧ Hid ((∀ i, i < k → okAt xs l i = true) ∧ ∀ i, i < k → incAt l i = true) ∧ Hid (Below w0.heap.size w0 wr)) (fun i _ => no - (intOf i).toNat)
  case atStart => exact ⟨0, Nat.zero_le _, rfl, ⟨fun i hi => by omega, fun i hi => by omega⟩, Below.refl _ _⟩
  case round =>
    obtain ⟨k, hk, rfl, HR, HBr⟩ := hrel
    clear c0 c1
    obtain ⟨c0, c1⟩ := pair_cells ((HBr.out.block _ (by omega)).trans HX.out)
    by_cases hlt : k < no
    rotate_left
    · obtain rfl : k = no := by omega
      have HF := Lib.hid (HY.out (by rw [HL.out]; exact HR.out.1) (by rw [HL.out]; exact HR.out.2))
      go_wp2
      go_ret
      exact ⟨by rw [HF.out]; rfl, HB.out.trans (HBr.out.mono HB.out.size)⟩
    obtain ⟨b, off, hao, hb, ho⟩ := HO.out.2 k hlt
    have HJ : Hid (∀ j, j < no → OpAt w0 b (off + j * 8) (atOp l j)) := fun j hj => by
      obtain ⟨b', off', e, _, h⟩ := HO.out.2 j hj
      rw [hao] at e
      injection e with e
      injection e with e1 e2
      subst e1 e2
      exact h
    subst hao
    have HOk : Hid (OpAt w0 b (off + k * 8) (atOp l k)) := ho
    clear ho
    have HIt := Lib.hid (HM.out k hlt)
    have H1 := Lib.hid (fun h => HNo.out k hlt (okAt_bad (xs := xs) h))
    have H2 := Lib.hid (fun h => HNo.out k hlt (okAt_far (xs := xs) h))
    have H3 := Lib.hid (fun h => okAt_yes (xs := xs) (l := l) (i := k) h)
    have HIn : Hid (incAt l k = (decide (k = 0) || numB (atOp l (k - 1)).dev (atOp l (k - 1)).seq (atOp l k).dev (atOp l k).seq)) := rfl
    obtain ⟨x, hx⟩ : ∃ x, atOp l k = x := ⟨_, rfl⟩
    rw [hx] at HOk HIt H1 H2 H3 HIn
    have HXx := Lib.hid hx
    clear hx
    obtain ⟨e0, e1, e2, e3, e4, e5, e6, e7⟩ := HOk.out.kept (HBr.out.block b (by omega))
    go_upto_region 7 with fail
    have HX1 := Lib.hid (boxAt (Below.refl _ (wr.alloc (.cells #[.int .i64 x.dev, .int .i64 x.seq, .int .i64 x.stamp, .int .i64 x.kind, .string x.item, .int .i64 x.qty, .int .i64 x.level, .int .i64 x.undos] 48))))
    have HB1 := Lib.hid (HBr.out.alloc HBr.out.size (.cells #[.int .i64 x.dev, .int .i64 x.seq, .int .i64 x.stamp, .int .i64 x.kind, .string x.item, .int .i64 x.qty, .int .i64 x.level, .int .i64 x.undos] 48))
    generalize wr.alloc (.cells #[.int .i64 x.dev, .int .i64 x.seq, .int .i64 x.stamp, .int .i64 x.kind, .string x.item, .int .i64 x.qty, .int .i64 x.level, .int .i64 x.undos] 48) = w1 at HX1 HB1 ⊢
    generalize wr.heap.size = bo at HX1 ⊢
    clear e0 e1 e2 e3 e4 e5 e6 e7 HBr c0 c1
    have ⟨d0, d1, d2, d3, d4, d5, d6, d7⟩ : OpAt w1 bo 0 x := ⟨cell_of_row _ _ _ _ _ _ HX1.out, cell_of_row _ _ _ _ _ _ HX1.out, cell_of_row _ _ _ _ _ _ HX1.out, cell_of_row _ _ _ _ _ _ HX1.out, cell_of_row _ _ _ _ _ _ HX1.out, cell_of_row _ _ _ _ _ _ HX1.out, cell_of_row _ _ _ _ _ _ HX1.out, cell_of_row _ _ _ _ _ _ HX1.out⟩
    simp only [Nat.zero_add] at d0 d1 d2 d3 d4 d5 d6 d7
    have HCt : Hid (∀ W, Calls Try.prog 28 #[.agg #[.int .i64 x.dev, .int .i64 x.seq, .int .i64 x.stamp, .int .i64 x.kind, .string x.item, .int .i64 x.qty, .int .i64 x.level, .int .i64 x.undos]] W fun e w' => e = .returned (.bool (opB x.dev x.seq x.stamp x.kind x.item x.qty x.level x.undos)) ∧ Below W.heap.size W w') := fun W => specOpOk x.dev x.seq x.stamp x.kind x.item x.qty x.level x.undos W HIt.out
    rcases hok : opB x.dev x.seq x.stamp x.kind x.item x.qty x.level x.undos with _ | _
    · have HF := Lib.hid (H1.out hok)
      rw [hok] at HCt
      clear hok
      have hS : w1.drew.cell? ⟨bo, 0, none⟩ = some (.int .i64 x.dev) ∧ w1.drew.cell? ⟨bo, 1, none⟩ = some (.int .i64 x.seq) ∧ w1.drew.cell? ⟨bo, 2, none⟩ = some (.int .i64 x.stamp) ∧ w1.drew.cell? ⟨bo, 3, none⟩ = some (.int .i64 x.kind) ∧ w1.drew.cell? ⟨bo, 4, none⟩ = some (.string x.item) ∧ w1.drew.cell? ⟨bo, 5, none⟩ = some (.int .i64 x.qty) ∧ w1.drew.cell? ⟨bo, 6, none⟩ = some (.int .i64 x.level) ∧ w1.drew.cell? ⟨bo, 7, none⟩ = some (.int .i64 x.undos) := ⟨d0, d1, d2, d3, d4, d5, d6, d7⟩
      go_wp2_with fail
      refine wp_region_held_drew (S := fun w' => w'.cell? ⟨bo, 0, none⟩ = some (.int .i64 x.dev) ∧ w'.cell? ⟨bo, 1, none⟩ = some (.int .i64 x.seq) ∧ w'.cell? ⟨bo, 2, none⟩ = some (.int .i64 x.stamp) ∧ w'.cell? ⟨bo, 3, none⟩ = some (.int .i64 x.kind) ∧ w'.cell? ⟨bo, 4, none⟩ = some (.string x.item) ∧ w'.cell? ⟨bo, 5, none⟩ = some (.int .i64 x.qty) ∧ w'.cell? ⟨bo, 6, none⟩ = some (.int .i64 x.level) ∧ w'.cell? ⟨bo, 7, none⟩ = some (.int .i64 x.undos)) (by kernel_rfl) hS (fun hHeld => ?_)
      refine wpAnyH_take (i := 0) (oi := { dst := some 21, op := Op.load 48 (Operand.tmp 4), type := 48, pos := "l07_deltas.go:11", after := #[], guard := none }) (v := ?_) rfl (by kernel_rfl) (by kernel_rfl) (by kernel_rfl) (fun _ _ _ h => h) (Or.inl ⟨by rfl, ?_⟩) (by assumption) ?_
      rotate_left
      · intro w hSw
        (try dsimp only at hSw)
        first | (go_simp; done) | (go_simp; with_reducible rfl)
      (try simp only [Act.put, List.setIfInBounds_toArray, List.set_cons_zero, List.set_cons_succ])
      refine wpAnyH_ready (rs := [1]) (by kernel_rfl) (by simp) ?_
      refine AllReadyH.cons (o := { dst := some 22, op := Op.call { callee := Callee.value (Operand.func 28), args := #[Operand.tmp 21], argTypes := #[48] }, type := 4, pos := "l07_deltas.go:11", after := #[{ on := 0, ground := Ground.data }], guard := none }) rfl (fun K hK => ?_) AllReadyH.nil
      go_simp
      go_at_call 28
      refine (HCt.out _).mono ?_
      rintro e w2 ⟨rfl, hb2⟩
      obtain ⟨q0, q1, q2, q3, q4, q5, q6, q7⟩ := hS
      refine hK.out _ _ ⟨(hb2.cell (block_lt_of_cell q0)).trans q0, (hb2.cell (block_lt_of_cell q1)).trans q1, (hb2.cell (block_lt_of_cell q2)).trans q2, (hb2.cell (block_lt_of_cell q3)).trans q3, (hb2.cell (block_lt_of_cell q4)).trans q4, (hb2.cell (block_lt_of_cell q5)).trans q5, (hb2.cell (block_lt_of_cell q6)).trans q6, (hb2.cell (block_lt_of_cell q7)).trans q7⟩ (fun hHeld2 => ?_)
      clear hK K
      (try simp only [Act.put, List.setIfInBounds_toArray, List.set_cons_zero, List.set_cons_succ])
      clear q0 q1 q2 q3 q4 q5 q6 q7
      refine wpAnyH_take (i := 2) (oi := { dst := some 23, op := Op.unOp UnOp.not 4 (Operand.tmp 22), type := 4, pos := "l07_deltas.go:11", after := #[{ on := 1, ground := Ground.data }], guard := none }) (v := ?_) rfl (by kernel_rfl) (by kernel_rfl) (by kernel_rfl) (fun _ _ _ h => h) (Or.inl ⟨by rfl, ?_⟩) (by assumption) ?_
      rotate_left
      · intro w hSw
        (try dsimp only at hSw)
        first | (go_simp; done) | (go_simp; with_reducible rfl)
      (try simp only [Act.put, List.setIfInBounds_toArray, List.set_cons_zero, List.set_cons_succ])
      refine wpAnyH_take (i := 3) (oi := { dst := some 24, op := Op.move (Operand.tmp 23), type := 4, pos := "l07_deltas.go:11", after := #[{ on := 2, ground := Ground.data }, { on := 1, ground := Ground.chain }], guard := none }) (v := ?_) rfl (by kernel_rfl) (by kernel_rfl) (by kernel_rfl) (fun _ _ _ h => h) (Or.inl ⟨by rfl, ?_⟩) (by assumption) ?_
      rotate_left
      · intro w hSw
        (try dsimp only at hSw)
        first | (go_simp; done) | (go_simp; with_reducible rfl)
      (try simp only [Act.put, List.setIfInBounds_toArray, List.set_cons_zero, List.set_cons_succ])
      refine wpAnyH_take (i := 4) (oi := { dst := some 25, op := Op.fieldAddr 48 (Operand.tmp 4) 1, type := 0, pos := "l07_deltas.go:11", after := #[{ on := 3, ground := Ground.guard }], guard := some (3, false) }) (v := undef) rfl (by kernel_rfl) (by kernel_rfl) (by kernel_rfl) (fun _ _ _ h => h) (Or.inr ⟨by rfl, rfl⟩) (by assumption) ?_
      (try simp only [Act.put, List.setIfInBounds_toArray, List.set_cons_zero, List.set_cons_succ])
      refine wpAnyH_take (i := 5) (oi := { dst := some 26, op := Op.load 2 (Operand.tmp 25), type := 2, pos := "l07_deltas.go:11", after := #[{ on := 4, ground := Ground.data }, { on := 3, ground := Ground.guard }], guard := some (3, false) }) (v := undef) rfl (by kernel_rfl) (by kernel_rfl) (by kernel_rfl) (fun _ _ _ h => h) (Or.inr ⟨by rfl, rfl⟩) (by assumption) ?_
      (try simp only [Act.put, List.setIfInBounds_toArray, List.set_cons_zero, List.set_cons_succ])
      refine wpAnyH_take (i := 6) (oi := { dst := some 27, op := Op.fieldAddr 30 (Operand.tmp 1) 0, type := 0, pos := "l07_deltas.go:11", after := #[{ on := 3, ground := Ground.guard }], guard := some (3, false) }) (v := undef) rfl (by kernel_rfl) (by kernel_rfl) (by kernel_rfl) (fun _ _ _ h => h) (Or.inr ⟨by rfl, rfl⟩) (by assumption) ?_
      (try simp only [Act.put, List.setIfInBounds_toArray, List.set_cons_zero, List.set_cons_succ])
      refine wpAnyH_take (i := 7) (oi := { dst := some 28, op := Op.load 22 (Operand.tmp 27), type := 22, pos := "l07_deltas.go:11", after := #[{ on := 6, ground := Ground.data }, { on := 3, ground := Ground.guard }], guard := some (3, false) }) (v := undef) rfl (by kernel_rfl) (by kernel_rfl) (by kernel_rfl) (fun _ _ _ h => h) (Or.inr ⟨by rfl, rfl⟩) (by assumption) ?_
      (try simp only [Act.put, List.setIfInBounds_toArray, List.set_cons_zero, List.set_cons_succ])
      refine wpAnyH_take (i := 8) (oi := { dst := some 29, op := Op.fieldAddr 48 (Operand.tmp 4) 0, type := 0, pos := "l07_deltas.go:11", after := #[{ on := 3, ground := Ground.guard }], guard := some (3, false) }) (v := undef) rfl (by kernel_rfl) (by kernel_rfl) (by kernel_rfl) (fun _ _ _ h => h) (Or.inr ⟨by rfl, rfl⟩) (by assumption) ?_
      (try simp only [Act.put, List.setIfInBounds_toArray, List.set_cons_zero, List.set_cons_succ])
      refine wpAnyH_take (i := 9) (oi := { dst := some 30, op := Op.load 2 (Operand.tmp 29), type := 2, pos := "l07_deltas.go:11", after := #[{ on := 8, ground := Ground.data }, { on := 3, ground := Ground.guard }], guard := some (3, false) }) (v := undef) rfl (by kernel_rfl) (by kernel_rfl) (by kernel_rfl) (fun _ _ _ h => h) (Or.inr ⟨by rfl, rfl⟩) (by assumption) ?_
      (try simp only [Act.put, List.setIfInBounds_toArray, List.set_cons_zero, List.set_cons_succ])
      refine wpAnyH_take (i := 10) (oi := { dst := some 31, op := Op.indexAddr 22 (Operand.tmp 28) (Operand.tmp 30), type := 0, pos := "l07_deltas.go:11", after := #[{ on := 7, ground := Ground.data }, { on := 9, ground := Ground.data }, { on := 3, ground := Ground.guard }], guard := some (3, false) }) (v := undef) rfl (by kernel_rfl) (by kernel_rfl) (by kernel_rfl) (fun _ _ _ h => h) (Or.inr ⟨by rfl, rfl⟩) (by assumption) ?_
      (try simp only [Act.put, List.setIfInBounds_toArray, List.set_cons_zero, List.set_cons_succ])
      refine wpAnyH_take (i := 11) (oi := { dst := some 32, op := Op.load 2 (Operand.tmp 31), type := 2, pos := "l07_deltas.go:11", after := #[{ on := 10, ground := Ground.data }, { on := 3, ground := Ground.guard }], guard := some (3, false) }) (v := undef) rfl (by kernel_rfl) (by kernel_rfl) (by kernel_rfl) (fun _ _ _ h => h) (Or.inr ⟨by rfl, rfl⟩) (by assumption) ?_
      (try simp only [Act.put, List.setIfInBounds_toArray, List.set_cons_zero, List.set_cons_succ])
      refine wpAnyH_take (i := 12) (oi := { dst := some 33, op := Op.binOp BinOp.gtr 2 (Operand.tmp 26) (Operand.tmp 32) 2, type := 4, pos := "l07_deltas.go:11", after := #[{ on := 5, ground := Ground.data }, { on := 11, ground := Ground.data }, { on := 3, ground := Ground.guard }], guard := some (3, false) }) (v := undef) rfl (by kernel_rfl) (by kernel_rfl) (by kernel_rfl) (fun _ _ _ h => h) (Or.inr ⟨by rfl, rfl⟩) (by assumption) ?_
      (try simp only [Act.put, List.setIfInBounds_toArray, List.set_cons_zero, List.set_cons_succ])
      refine wpAnyH_take (i := 13) (oi := { dst := some 34, op := Op.pick (Operand.tmp 24) (Operand.const (Value.bool true)) (Operand.tmp 33), type := 4, pos := "l07_deltas.go:11", after := #[{ on := 3, ground := Ground.data }, { on := 12, ground := Ground.data }], guard := none }) (v := ?_) rfl (by kernel_rfl) (by kernel_rfl) (by kernel_rfl) (fun _ _ _ h => h) (Or.inl ⟨by rfl, ?_⟩) (by assumption) ?_
      rotate_left
      · intro w hSw
        (try dsimp only at hSw)
        first | (go_simp; done) | (go_simp; with_reducible rfl)
      (try simp only [Act.put, List.setIfInBounds_toArray, List.set_cons_zero, List.set_cons_succ])
      refine wpAnyH_done (by kernel_rfl) ?_ _
      have HB2 := Lib.hid (HB1.out.trans ((Below.mk hb2.os hb2.tape hb2.output hb2.size hb2.block : Below w1.heap.size w1 w2).mono HB1.out.size))
      clear hb2 hHeld hHeld2 d0 d1 d2 d3 d4 d5 d6 d7
      go_wp2
      go_ret
      exact ⟨by rw [HF.out]; rfl, HB.out.trans (HB2.out.mono HB.out.size)⟩
    obtain ⟨g1, g2⟩ := op_dev (o := x) hok
    obtain ⟨d, hd⟩ := Int.eq_ofNat_of_zero_le g1
    have hd4 : d < 4 := by omega
    have hdi : (d : Int) < 4 := by omega
    obtain ⟨bv, ov, rfl, hbv, hcv⟩ := HV.out.2 d hd4
    have cv0 := (HB1.out.cell (p := ⟨bv, ov + d, none⟩) (by show bv < w0.heap.size; omega)).trans hcv
    have hdn : x.dev.toNat = d := by omega
    obtain ⟨c0, c1⟩ := pair_cells ((HB1.out.block _ (by omega)).trans HX.out)
    rw [hdn] at H2 H3
    rw [hok] at HCt
    rw [hd] at d0 HCt
    have H3' := Lib.hid (H3.out hok)
    clear hok hcv g1 g2
    have HCv : Hid (∀ w2, Below w1.heap.size w1 w2 → w2.cell? ⟨bv, ov + d, none⟩ = w1.cell? ⟨bv, ov + d, none⟩) := fun w2 h => h.cell (block_lt_of_cell cv0)
    generalize hy : xs.getD d 0 = y at H2 H3' cv0
    clear hy H3
    have hS : w1.drew.cell? ⟨bo, 0, none⟩ = some (.int .i64 (d : Int)) ∧ w1.drew.cell? ⟨bo, 1, none⟩ = some (.int .i64 x.seq) ∧ w1.drew.cell? ⟨bo, 2, none⟩ = some (.int .i64 x.stamp) ∧ w1.drew.cell? ⟨bo, 3, none⟩ = some (.int .i64 x.kind) ∧ w1.drew.cell? ⟨bo, 4, none⟩ = some (.string x.item) ∧ w1.drew.cell? ⟨bo, 5, none⟩ = some (.int .i64 x.qty) ∧ w1.drew.cell? ⟨bo, 6, none⟩ = some (.int .i64 x.level) ∧ w1.drew.cell? ⟨bo, 7, none⟩ = some (.int .i64 x.undos) ∧ w1.drew.cell? ⟨w.heap.size, 0, none⟩ = some (.slice (some ⟨bv, ov, none⟩) 4 cv) ∧ w1.drew.cell? ⟨w.heap.size, 1, none⟩ = some (.slice (some ⟨b, off, none⟩) no co) ∧ w1.drew.cell? ⟨bv, ov + d, none⟩ = some (.int .i64 y) := ⟨d0, d1, d2, d3, d4, d5, d6, d7, c0, c1, cv0⟩
    rcases hle : decide (y < x.seq) with _ | _
    rotate_left
    · have HF := Lib.hid (H2.out (of_decide_eq_true hle))
      go_wp2_with fail
      go_region_held3 (fun w' => w'.cell? ⟨bo, 0, none⟩ = some (.int .i64 (d : Int)) ∧ w'.cell? ⟨bo, 1, none⟩ = some (.int .i64 x.seq) ∧ w'.cell? ⟨bo, 2, none⟩ = some (.int .i64 x.stamp) ∧ w'.cell? ⟨bo, 3, none⟩ = some (.int .i64 x.kind) ∧ w'.cell? ⟨bo, 4, none⟩ = some (.string x.item) ∧ w'.cell? ⟨bo, 5, none⟩ = some (.int .i64 x.qty) ∧ w'.cell? ⟨bo, 6, none⟩ = some (.int .i64 x.level) ∧ w'.cell? ⟨bo, 7, none⟩ = some (.int .i64 x.undos) ∧ w'.cell? ⟨w.heap.size, 0, none⟩ = some (.slice (some ⟨bv, ov, none⟩) 4 cv) ∧ w'.cell? ⟨w.heap.size, 1, none⟩ = some (.slice (some ⟨b, off, none⟩) no co) ∧ w'.cell? ⟨bv, ov + d, none⟩ = some (.int .i64 y)) (first | with_reducible exact hS | with_reducible exact hS2)
        (first | (go_at_call 28; refine (HCt.out _).mono ?_; rintro e w2 ⟨rfl, hb2⟩; have ⟨q0, q1, q2, q3, q4, q5, q6, q7, q8, q9, q10⟩ := hS; have hS2 : w2.cell? ⟨bo, 0, none⟩ = some (.int .i64 (d : Int)) ∧ w2.cell? ⟨bo, 1, none⟩ = some (.int .i64 x.seq) ∧ w2.cell? ⟨bo, 2, none⟩ = some (.int .i64 x.stamp) ∧ w2.cell? ⟨bo, 3, none⟩ = some (.int .i64 x.kind) ∧ w2.cell? ⟨bo, 4, none⟩ = some (.string x.item) ∧ w2.cell? ⟨bo, 5, none⟩ = some (.int .i64 x.qty) ∧ w2.cell? ⟨bo, 6, none⟩ = some (.int .i64 x.level) ∧ w2.cell? ⟨bo, 7, none⟩ = some (.int .i64 x.undos) ∧ w2.cell? ⟨w.heap.size, 0, none⟩ = some (.slice (some ⟨bv, ov, none⟩) 4 cv) ∧ w2.cell? ⟨w.heap.size, 1, none⟩ = some (.slice (some ⟨b, off, none⟩) no co) ∧ w2.cell? ⟨bv, ov + d, none⟩ = some (.int .i64 y) := ⟨(hb2.cell (block_lt_of_cell q0)).trans q0, (hb2.cell (block_lt_of_cell q1)).trans q1, (hb2.cell (block_lt_of_cell q2)).trans q2, (hb2.cell (block_lt_of_cell q3)).trans q3, (hb2.cell (block_lt_of_cell q4)).trans q4, (hb2.cell (block_lt_of_cell q5)).trans q5, (hb2.cell (block_lt_of_cell q6)).trans q6, (hb2.cell (block_lt_of_cell q7)).trans q7, (hb2.cell (block_lt_of_cell q8)).trans q8, (hb2.cell (block_lt_of_cell q9)).trans q9, (hb2.cell (block_lt_of_cell q10)).trans q10⟩; clear q0 q1 q2 q3 q4 q5 q6 q7 q8 q9 q10))
      have HB2 := Lib.hid (HB1.out.trans ((Below.mk hb2.os hb2.tape hb2.output hb2.size hb2.block : Below w1.heap.size w1 w2).mono HB1.out.size))
      have HX2 := Lib.hid ((hb2.block _ (Array.getElem?_eq_some_iff.1 HX1.out).1).trans HX1.out)
      clear hb2 hS
      go_wp2
      go_ret
      exact ⟨by rw [HF.out]; rfl, HB.out.trans (HB2.out.mono HB.out.size)⟩
    have hle' : ¬ y < x.seq := of_decide_eq_false hle
    have HOK := Lib.hid (H3'.out (by omega))
    clear hle'
    go_wp2_with fail
    go_region_held3 (fun w' => w'.cell? ⟨bo, 0, none⟩ = some (.int .i64 (d : Int)) ∧ w'.cell? ⟨bo, 1, none⟩ = some (.int .i64 x.seq) ∧ w'.cell? ⟨bo, 2, none⟩ = some (.int .i64 x.stamp) ∧ w'.cell? ⟨bo, 3, none⟩ = some (.int .i64 x.kind) ∧ w'.cell? ⟨bo, 4, none⟩ = some (.string x.item) ∧ w'.cell? ⟨bo, 5, none⟩ = some (.int .i64 x.qty) ∧ w'.cell? ⟨bo, 6, none⟩ = some (.int .i64 x.level) ∧ w'.cell? ⟨bo, 7, none⟩ = some (.int .i64 x.undos) ∧ w'.cell? ⟨w.heap.size, 0, none⟩ = some (.slice (some ⟨bv, ov, none⟩) 4 cv) ∧ w'.cell? ⟨w.heap.size, 1, none⟩ = some (.slice (some ⟨b, off, none⟩) no co) ∧ w'.cell? ⟨bv, ov + d, none⟩ = some (.int .i64 y)) (first | with_reducible exact hS | with_reducible exact hS2)
      (first | (go_at_call 28; refine (HCt.out _).mono ?_; rintro e w2 ⟨rfl, hb2⟩; have ⟨q0, q1, q2, q3, q4, q5, q6, q7, q8, q9, q10⟩ := hS; have hS2 : w2.cell? ⟨bo, 0, none⟩ = some (.int .i64 (d : Int)) ∧ w2.cell? ⟨bo, 1, none⟩ = some (.int .i64 x.seq) ∧ w2.cell? ⟨bo, 2, none⟩ = some (.int .i64 x.stamp) ∧ w2.cell? ⟨bo, 3, none⟩ = some (.int .i64 x.kind) ∧ w2.cell? ⟨bo, 4, none⟩ = some (.string x.item) ∧ w2.cell? ⟨bo, 5, none⟩ = some (.int .i64 x.qty) ∧ w2.cell? ⟨bo, 6, none⟩ = some (.int .i64 x.level) ∧ w2.cell? ⟨bo, 7, none⟩ = some (.int .i64 x.undos) ∧ w2.cell? ⟨w.heap.size, 0, none⟩ = some (.slice (some ⟨bv, ov, none⟩) 4 cv) ∧ w2.cell? ⟨w.heap.size, 1, none⟩ = some (.slice (some ⟨b, off, none⟩) no co) ∧ w2.cell? ⟨bv, ov + d, none⟩ = some (.int .i64 y) := ⟨(hb2.cell (block_lt_of_cell q0)).trans q0, (hb2.cell (block_lt_of_cell q1)).trans q1, (hb2.cell (block_lt_of_cell q2)).trans q2, (hb2.cell (block_lt_of_cell q3)).trans q3, (hb2.cell (block_lt_of_cell q4)).trans q4, (hb2.cell (block_lt_of_cell q5)).trans q5, (hb2.cell (block_lt_of_cell q6)).trans q6, (hb2.cell (block_lt_of_cell q7)).trans q7, (hb2.cell (block_lt_of_cell q8)).trans q8, (hb2.cell (block_lt_of_cell q9)).trans q9, (hb2.cell (block_lt_of_cell q10)).trans q10⟩; clear q0 q1 q2 q3 q4 q5 q6 q7 q8 q9 q10))
    have HB2 := Lib.hid (HB1.out.trans ((Below.mk hb2.os hb2.tape hb2.output hb2.size hb2.block : Below w1.heap.size w1 w2).mono HB1.out.size))
    have HX2 := Lib.hid ((hb2.block _ (Array.getElem?_eq_some_iff.1 HX1.out).1).trans HX1.out)
    clear hb2 hS
    obtain ⟨q0, q1, q2, q3, q4, q5, q6, q7, q8, q9, q10⟩ := hS2
    clear d0 d1 d2 d3 d4 d5 d6 d7 c0 c1 cv0 HX1 HB1
    have d0 := q0
    have d1 := q1
    have c0 := q8
    have c1 := q9
    clear q0 q1 q2 q3 q4 q5 q6 q7 q8 q9 q10 hle
    by_cases hk0 : k = 0
    · have HIk : Hid (incAt l k = true) := by show _ = _; rw [HIn.out, decide_eq_true hk0]; rfl
      have hz : decide ((0 : Int) < (k : Int)) = false := decide_eq_false (by omega)
      have hzn : decide (0 < k) = false := decide_eq_false (by omega)
      clear hk0
      have HRn : Hid ((∀ i, i < k + 1 → okAt xs l i = true) ∧ ∀ i, i < k + 1 → incAt l i = true) := ⟨allp_step HR.out.1 HOK.out, allp_step HR.out.2 HIk.out⟩
      go_wp2_with fail
      go_quiet (fail)
      go_wp2
      go_roundw
      case rel => exact ⟨k + 1, by omega, by go_num, HRn, ⟨HB2.out.os, HB2.out.tape, HB2.out.output, HB2.out.size, HB2.out.block⟩⟩
      case measure => simp [intOf]; omega
    have hz : (0 : Int) < (k : Int) := by omega
    have hzn : 0 < k := by omega
    obtain ⟨j, hj⟩ : ∃ j, k = j + 1 := ⟨k - 1, by omega⟩
    have im : IntKind.i64.wrap ((k : Int) - 1) = (j : Int) := (IntWalk.i64_in _ (by omega)).trans (by omega)
    have i1 : (j : Int) < (no : Int) := by omega
    have HOj := Lib.hid (HJ.out j (by omega))
    have hkj : k - 1 = j := by omega
    have HIj : Hid (incAt l k = numB (atOp l j).dev (atOp l j).seq x.dev x.seq) := by show _ = _; rw [HIn.out, decide_eq_false (by omega), hkj]; rfl
    clear hj hkj
    clear HIn
    obtain ⟨z, hzz⟩ : ∃ z, atOp l j = z := ⟨_, rfl⟩
    rw [hzz] at HOj HIj
    clear hzz
    obtain ⟨e0, e1, e2, e3, e4, e5, e6, e7⟩ := HOj.out.kept (HB2.out.block b (by omega))
    have HNn := Lib.hid (fun h => HNi.out k hlt h)
    rw [hd] at HIj
    by_cases q1 : (d : Int) < z.dev
    · have HF := Lib.hid (HNn.out (by rw [HIj.out]; exact decide_eq_false (by omega)))
      go_wp2_with fail
      go_quiet (fail)
      go_wp2
      go_ret
      refine ⟨by rw [HF.out]; rfl, HB.out.trans (Below.mono (B := w0.heap.size) ?_ HB.out.size)⟩
      exact ⟨HB2.out.os, HB2.out.tape, HB2.out.output, HB2.out.size, HB2.out.block⟩
    have q1' : decide ((d : Int) < z.dev) = false := decide_eq_false (by omega)
    by_cases q2 : z.dev = (d : Int)
    rotate_left
    · have b2 : (z.dev == (d : Int)) = false := by rw [beq_eq_false_iff_ne]; exact q2
      have HIk : Hid (incAt l k = true) := by show _ = _; rw [HIj.out]; exact decide_eq_true (by omega)
      clear q2 q1
      have HRn : Hid ((∀ i, i < k + 1 → okAt xs l i = true) ∧ ∀ i, i < k + 1 → incAt l i = true) := ⟨allp_step HR.out.1 HOK.out, allp_step HR.out.2 HIk.out⟩
      go_wp2_with fail
      go_quiet (fail)
      go_wp2
      go_roundw
      case rel => exact ⟨k + 1, by omega, by go_num, HRn, ⟨HB2.out.os, HB2.out.tape, HB2.out.output, HB2.out.size, HB2.out.block⟩⟩
      case measure => simp [intOf]; omega
    have b2 : (z.dev == (d : Int)) = true := by rw [q2]; exact beq_self_eq_true _
    by_cases q3 : x.seq ≤ z.seq
    · have HF := Lib.hid (HNn.out (by rw [HIj.out]; exact decide_eq_false (by omega)))
      clear q2 q1
      go_wp2_with fail
      go_quiet (fail)
      go_wp2
      go_ret
      refine ⟨by rw [HF.out]; rfl, HB.out.trans (Below.mono (B := w0.heap.size) ?_ HB.out.size)⟩
      exact ⟨HB2.out.os, HB2.out.tape, HB2.out.output, HB2.out.size, HB2.out.block⟩
    have HIk : Hid (incAt l k = true) := by show _ = _; rw [HIj.out]; exact decide_eq_true (by omega)
    clear q2 q1
    have HRn : Hid ((∀ i, i < k + 1 → okAt xs l i = true) ∧ ∀ i, i < k + 1 → incAt l i = true) := ⟨allp_step HR.out.1 HOK.out, allp_step HR.out.2 HIk.out⟩
    go_wp2_with fail
    go_quiet (fail)
    go_wp2
    go_roundw
    case rel => exact ⟨k + 1, by omega, by go_num, HRn, ⟨HB2.out.os, HB2.out.tape, HB2.out.output, HB2.out.size, HB2.out.block⟩⟩
    case measure => simp [intOf]; omega
set_option linter.unusedSimpArgs false in
set_option maxRecDepth 100000 in
set_option maxHeartbeats 4000000 in
theorem implPartOk (w : World) (B : Nat) (av ao : Option Addr) (nv cv no co : Nat) (xs : List Int) (l : List OpV) (hx : Ints w B av nv xs) (h : Ops w B ao no l) (hB : B ≤ w.heap.size) (hv : nv ≤ 1048576) (hn : no ≤ 1048576) :
    Calls Try.prog 11 #[.agg #[.slice av nv cv, .slice ao no co]] w fun e w' => e = .returned (.bool (partB xs l)) ∧ Below w.heap.size w w' := by
  have hb0 : Below w.heap.size w (w.alloc (.cells #[.slice av nv cv, .slice ao no co] 30)) := (Below.refl _ w).alloc (Nat.le_refl _) _
  have HV := Lib.hid (hx.below hb0 hB)
  have HO := Lib.hid (h.below hb0 hB)
  have HB := Lib.hid hb0
  have HX := Lib.hid (boxAt (Below.refl _ (w.alloc (.cells #[.slice av nv cv, .slice ao no co] 30))))
  have HL := Lib.hid h.1
  have hsz : w.heap.size < (w.alloc (.cells #[.slice av nv cv, .slice ao no co] 30)).heap.size := by show _ < (w.heap.push _).size; simp
  clear hx h hb0
  rcases hvk : vecOk xs with _ | _
  · have HF := Lib.hid (part_vec (l := l) hvk)
    have HK := Lib.hid hvk
    clear hvk
    go_enter Try.func11, Try.ntmps11
    go_wp2_with fail
    refine (implVecOk _ B av nv cv xs HV.out hv).mono ?_
    rintro e w1 ⟨rfl, rfl⟩
    rw [HK.out]
    go_wp2
    go_ret
    exact ⟨by rw [HF.out]; rfl, HB.out⟩
  have HK := Lib.hid hvk
  have h4 : nv = 4 := HV.out.1.symm.trans (vec_at hvk (d := 0) (by omega)).2.2
  subst h4
  have HY := Lib.hid (part_yes (l := l) hvk)
  have HNo := Lib.hid (fun i (hi : i < no) => part_ok_no (xs := xs) (l := l) (i := i) (by rw [HL.out]; exact hi))
  have HNi := Lib.hid (fun i (hi : i < no) => part_inc_no (xs := xs) (l := l) (i := i) (by rw [HL.out]; exact hi))
  clear hvk
  go_enter Try.func11, Try.ntmps11
  go_wp2_with fail
  generalize w.alloc (.cells #[.slice av 4 cv, .slice ao no co] 30) = w0 at HV HO HB HX hsz ⊢
  refine (implVecOk _ B av 4 cv xs HV.out hv).mono ?_
  rintro e w1 ⟨rfl, rfl⟩
  rw [HK.out]
  obtain ⟨c0, c1⟩ := pair_cells HX.out
  go_wp2
  go_loopw [12] (fun i wr => ∃ k : Nat, k ≤ no ∧ i = .int .i64 k ∧ Hid (∀ i, i < k → okAt xs l i = true) ∧ Hid (Below w0.heap.size w0 wr)) (fun i _ => no - (intOf i).toNat)
  case atStart => exact ⟨0, Nat.zero_le _, rfl, fun i hi => by omega, Below.refl _ _⟩
  case round =>
    obtain ⟨k, hk, rfl, HR, HBr⟩ := hrel
    clear c0 c1
    obtain ⟨c0, c1⟩ := pair_cells ((HBr.out.block _ (by omega)).trans HX.out)
    by_cases hlt : k < no
    rotate_left
    · obtain rfl : k = no := by omega
      have HF := Lib.hid (part_all HK.out (l := l) (by rw [HL.out]; exact HR.out))
      have HOr := Lib.hid (HO.out.below HBr.out (by omega))
      go_wp2_with fail
      refine (numbered _ _ _ _).mono ?_
      rintro e w2 ⟨rfl, hb2⟩
      have HO2 := Lib.hid (HOr.out.below hb2 (by have := HBr.out.size; omega))
      have HB2 := Lib.hid (HBr.out.trans (hb2.mono HBr.out.size))
      have hs2 := hb2.size
      clear hb2 c0 c1
      go_wp2_with fail
      refine (increases w2 B ao k co l HO2.out (by have := HBr.out.size; omega) hn).mono ?_
      rintro e w3 ⟨rfl, hb3⟩
      have HB3 := Lib.hid (HB2.out.trans (hb3.mono HB2.out.size))
      clear hb3
      go_wp2
      go_ret
      exact ⟨by rw [HF.out]; rfl, HB.out.trans (HB3.out.mono HB.out.size)⟩
    obtain ⟨b, off, hao, hb, ho⟩ := HO.out.2 k hlt
    have HJ : Hid (∀ j, j < no → OpAt w0 b (off + j * 8) (atOp l j)) := fun j hj => by
      obtain ⟨b', off', e, _, h⟩ := HO.out.2 j hj
      rw [hao] at e
      injection e with e
      injection e with e1 e2
      subst e1 e2
      exact h
    subst hao
    have HOk : Hid (OpAt w0 b (off + k * 8) (atOp l k)) := ho
    clear ho
    have H1 := Lib.hid (fun h => HNo.out k hlt (okAt_bad (xs := xs) h))
    have H2 := Lib.hid (fun h => HNo.out k hlt (okAt_far (xs := xs) h))
    have H3 := Lib.hid (fun h => okAt_yes (xs := xs) (l := l) (i := k) h)
    have HIn : Hid (incAt l k = (decide (k = 0) || numB (atOp l (k - 1)).dev (atOp l (k - 1)).seq (atOp l k).dev (atOp l k).seq)) := rfl
    clear HIn
    obtain ⟨x, hx⟩ : ∃ x, atOp l k = x := ⟨_, rfl⟩
    rw [hx] at HOk H1 H2 H3
    clear hx
    obtain ⟨e0, e1, e2, e3, e4, e5, e6, e7⟩ := HOk.out.kept (HBr.out.block b (by omega))
    go_upto_region 6 with fail
    have HX1 := Lib.hid (boxAt (Below.refl _ (wr.alloc (.cells #[.int .i64 x.dev, .int .i64 x.seq, .int .i64 x.stamp, .int .i64 x.kind, .string x.item, .int .i64 x.qty, .int .i64 x.level, .int .i64 x.undos] 48))))
    have HB1 := Lib.hid (HBr.out.alloc HBr.out.size (.cells #[.int .i64 x.dev, .int .i64 x.seq, .int .i64 x.stamp, .int .i64 x.kind, .string x.item, .int .i64 x.qty, .int .i64 x.level, .int .i64 x.undos] 48))
    generalize wr.alloc (.cells #[.int .i64 x.dev, .int .i64 x.seq, .int .i64 x.stamp, .int .i64 x.kind, .string x.item, .int .i64 x.qty, .int .i64 x.level, .int .i64 x.undos] 48) = w1 at HX1 HB1 ⊢
    generalize wr.heap.size = bo at HX1 ⊢
    clear e0 e1 e2 e3 e4 e5 e6 e7 HBr c0 c1
    have ⟨d0, d1, d2, d3, d4, d5, d6, d7⟩ : OpAt w1 bo 0 x := ⟨cell_of_row _ _ _ _ _ _ HX1.out, cell_of_row _ _ _ _ _ _ HX1.out, cell_of_row _ _ _ _ _ _ HX1.out, cell_of_row _ _ _ _ _ _ HX1.out, cell_of_row _ _ _ _ _ _ HX1.out, cell_of_row _ _ _ _ _ _ HX1.out, cell_of_row _ _ _ _ _ _ HX1.out, cell_of_row _ _ _ _ _ _ HX1.out⟩
    simp only [Nat.zero_add] at d0 d1 d2 d3 d4 d5 d6 d7
    have HCt : Hid (∀ W, Calls Try.prog 32 #[.agg #[.int .i64 x.dev, .int .i64 x.seq, .int .i64 x.stamp, .int .i64 x.kind, .string x.item, .int .i64 x.qty, .int .i64 x.level, .int .i64 x.undos]] W fun e w' => e = .returned (.bool (opB x.dev x.seq x.stamp x.kind x.item x.qty x.level x.undos)) ∧ Below W.heap.size W w') := fun W => implOpOk x.dev x.seq x.stamp x.kind x.item x.qty x.level x.undos W
    rcases hok : opB x.dev x.seq x.stamp x.kind x.item x.qty x.level x.undos with _ | _
    · have HF := Lib.hid (H1.out hok)
      rw [hok] at HCt
      clear hok
      have hS : w1.drew.cell? ⟨bo, 0, none⟩ = some (.int .i64 x.dev) ∧ w1.drew.cell? ⟨bo, 1, none⟩ = some (.int .i64 x.seq) ∧ w1.drew.cell? ⟨bo, 2, none⟩ = some (.int .i64 x.stamp) ∧ w1.drew.cell? ⟨bo, 3, none⟩ = some (.int .i64 x.kind) ∧ w1.drew.cell? ⟨bo, 4, none⟩ = some (.string x.item) ∧ w1.drew.cell? ⟨bo, 5, none⟩ = some (.int .i64 x.qty) ∧ w1.drew.cell? ⟨bo, 6, none⟩ = some (.int .i64 x.level) ∧ w1.drew.cell? ⟨bo, 7, none⟩ = some (.int .i64 x.undos) := ⟨d0, d1, d2, d3, d4, d5, d6, d7⟩
      go_wp2_with fail
      refine wp_region_held_drew (S := fun w' => w'.cell? ⟨bo, 0, none⟩ = some (.int .i64 x.dev) ∧ w'.cell? ⟨bo, 1, none⟩ = some (.int .i64 x.seq) ∧ w'.cell? ⟨bo, 2, none⟩ = some (.int .i64 x.stamp) ∧ w'.cell? ⟨bo, 3, none⟩ = some (.int .i64 x.kind) ∧ w'.cell? ⟨bo, 4, none⟩ = some (.string x.item) ∧ w'.cell? ⟨bo, 5, none⟩ = some (.int .i64 x.qty) ∧ w'.cell? ⟨bo, 6, none⟩ = some (.int .i64 x.level) ∧ w'.cell? ⟨bo, 7, none⟩ = some (.int .i64 x.undos)) (by kernel_rfl) hS (fun hHeld => ?_)
      refine wpAnyH_take (i := 0) (oi := { dst := some 16, op := Op.load 48 (Operand.tmp 4), type := 48, pos := "l07_deltas.go:68", after := #[], guard := none }) (v := ?_) rfl (by kernel_rfl) (by kernel_rfl) (by kernel_rfl) (fun _ _ _ h => h) (Or.inl ⟨by rfl, ?_⟩) (by assumption) ?_
      rotate_left
      · intro w hSw
        (try dsimp only at hSw)
        first | (go_simp; done) | (go_simp; with_reducible rfl)
      (try simp only [Act.put, List.setIfInBounds_toArray, List.set_cons_zero, List.set_cons_succ])
      refine wpAnyH_ready (rs := [1]) (by kernel_rfl) (by simp) ?_
      refine AllReadyH.cons (o := { dst := some 17, op := Op.call { callee := Callee.value (Operand.func 32), args := #[Operand.tmp 16], argTypes := #[48] }, type := 4, pos := "l07_deltas.go:68", after := #[{ on := 0, ground := Ground.data }], guard := none }) rfl (fun K hK => ?_) AllReadyH.nil
      go_simp
      go_at_call 32
      refine (HCt.out _).mono ?_
      rintro e w2 ⟨rfl, hb2⟩
      obtain ⟨q0, q1, q2, q3, q4, q5, q6, q7⟩ := hS
      refine hK.out _ _ ⟨(hb2.cell (block_lt_of_cell q0)).trans q0, (hb2.cell (block_lt_of_cell q1)).trans q1, (hb2.cell (block_lt_of_cell q2)).trans q2, (hb2.cell (block_lt_of_cell q3)).trans q3, (hb2.cell (block_lt_of_cell q4)).trans q4, (hb2.cell (block_lt_of_cell q5)).trans q5, (hb2.cell (block_lt_of_cell q6)).trans q6, (hb2.cell (block_lt_of_cell q7)).trans q7⟩ (fun hHeld2 => ?_)
      clear hK K
      (try simp only [Act.put, List.setIfInBounds_toArray, List.set_cons_zero, List.set_cons_succ])
      clear q0 q1 q2 q3 q4 q5 q6 q7
      refine wpAnyH_take (i := 2) (oi := { dst := some 18, op := Op.unOp UnOp.not 4 (Operand.tmp 17), type := 4, pos := "l07_deltas.go:68", after := #[{ on := 1, ground := Ground.data }], guard := none }) (v := ?_) rfl (by kernel_rfl) (by kernel_rfl) (by kernel_rfl) (fun _ _ _ h => h) (Or.inl ⟨by rfl, ?_⟩) (by assumption) ?_
      rotate_left
      · intro w hSw
        (try dsimp only at hSw)
        first | (go_simp; done) | (go_simp; with_reducible rfl)
      (try simp only [Act.put, List.setIfInBounds_toArray, List.set_cons_zero, List.set_cons_succ])
      refine wpAnyH_take (i := 3) (oi := { dst := some 19, op := Op.move (Operand.tmp 18), type := 4, pos := "l07_deltas.go:68", after := #[{ on := 2, ground := Ground.data }, { on := 1, ground := Ground.chain }], guard := none }) (v := ?_) rfl (by kernel_rfl) (by kernel_rfl) (by kernel_rfl) (fun _ _ _ h => h) (Or.inl ⟨by rfl, ?_⟩) (by assumption) ?_
      rotate_left
      · intro w hSw
        (try dsimp only at hSw)
        first | (go_simp; done) | (go_simp; with_reducible rfl)
      (try simp only [Act.put, List.setIfInBounds_toArray, List.set_cons_zero, List.set_cons_succ])
      refine wpAnyH_take (i := 4) (oi := { dst := some 20, op := Op.fieldAddr 48 (Operand.tmp 4) 1, type := 0, pos := "l07_deltas.go:68", after := #[{ on := 3, ground := Ground.guard }], guard := some (3, false) }) (v := undef) rfl (by kernel_rfl) (by kernel_rfl) (by kernel_rfl) (fun _ _ _ h => h) (Or.inr ⟨by rfl, rfl⟩) (by assumption) ?_
      (try simp only [Act.put, List.setIfInBounds_toArray, List.set_cons_zero, List.set_cons_succ])
      refine wpAnyH_take (i := 5) (oi := { dst := some 21, op := Op.load 2 (Operand.tmp 20), type := 2, pos := "l07_deltas.go:68", after := #[{ on := 4, ground := Ground.data }, { on := 3, ground := Ground.guard }], guard := some (3, false) }) (v := undef) rfl (by kernel_rfl) (by kernel_rfl) (by kernel_rfl) (fun _ _ _ h => h) (Or.inr ⟨by rfl, rfl⟩) (by assumption) ?_
      (try simp only [Act.put, List.setIfInBounds_toArray, List.set_cons_zero, List.set_cons_succ])
      refine wpAnyH_take (i := 6) (oi := { dst := some 22, op := Op.fieldAddr 30 (Operand.tmp 1) 0, type := 0, pos := "l07_deltas.go:68", after := #[{ on := 3, ground := Ground.guard }], guard := some (3, false) }) (v := undef) rfl (by kernel_rfl) (by kernel_rfl) (by kernel_rfl) (fun _ _ _ h => h) (Or.inr ⟨by rfl, rfl⟩) (by assumption) ?_
      (try simp only [Act.put, List.setIfInBounds_toArray, List.set_cons_zero, List.set_cons_succ])
      refine wpAnyH_take (i := 7) (oi := { dst := some 23, op := Op.load 22 (Operand.tmp 22), type := 22, pos := "l07_deltas.go:68", after := #[{ on := 6, ground := Ground.data }, { on := 3, ground := Ground.guard }], guard := some (3, false) }) (v := undef) rfl (by kernel_rfl) (by kernel_rfl) (by kernel_rfl) (fun _ _ _ h => h) (Or.inr ⟨by rfl, rfl⟩) (by assumption) ?_
      (try simp only [Act.put, List.setIfInBounds_toArray, List.set_cons_zero, List.set_cons_succ])
      refine wpAnyH_take (i := 8) (oi := { dst := some 24, op := Op.fieldAddr 48 (Operand.tmp 4) 0, type := 0, pos := "l07_deltas.go:68", after := #[{ on := 3, ground := Ground.guard }], guard := some (3, false) }) (v := undef) rfl (by kernel_rfl) (by kernel_rfl) (by kernel_rfl) (fun _ _ _ h => h) (Or.inr ⟨by rfl, rfl⟩) (by assumption) ?_
      (try simp only [Act.put, List.setIfInBounds_toArray, List.set_cons_zero, List.set_cons_succ])
      refine wpAnyH_take (i := 9) (oi := { dst := some 25, op := Op.load 2 (Operand.tmp 24), type := 2, pos := "l07_deltas.go:68", after := #[{ on := 8, ground := Ground.data }, { on := 3, ground := Ground.guard }], guard := some (3, false) }) (v := undef) rfl (by kernel_rfl) (by kernel_rfl) (by kernel_rfl) (fun _ _ _ h => h) (Or.inr ⟨by rfl, rfl⟩) (by assumption) ?_
      (try simp only [Act.put, List.setIfInBounds_toArray, List.set_cons_zero, List.set_cons_succ])
      refine wpAnyH_take (i := 10) (oi := { dst := some 26, op := Op.indexAddr 22 (Operand.tmp 23) (Operand.tmp 25), type := 0, pos := "l07_deltas.go:68", after := #[{ on := 7, ground := Ground.data }, { on := 9, ground := Ground.data }, { on := 3, ground := Ground.guard }], guard := some (3, false) }) (v := undef) rfl (by kernel_rfl) (by kernel_rfl) (by kernel_rfl) (fun _ _ _ h => h) (Or.inr ⟨by rfl, rfl⟩) (by assumption) ?_
      (try simp only [Act.put, List.setIfInBounds_toArray, List.set_cons_zero, List.set_cons_succ])
      refine wpAnyH_take (i := 11) (oi := { dst := some 27, op := Op.load 2 (Operand.tmp 26), type := 2, pos := "l07_deltas.go:68", after := #[{ on := 10, ground := Ground.data }, { on := 3, ground := Ground.guard }], guard := some (3, false) }) (v := undef) rfl (by kernel_rfl) (by kernel_rfl) (by kernel_rfl) (fun _ _ _ h => h) (Or.inr ⟨by rfl, rfl⟩) (by assumption) ?_
      (try simp only [Act.put, List.setIfInBounds_toArray, List.set_cons_zero, List.set_cons_succ])
      refine wpAnyH_take (i := 12) (oi := { dst := some 28, op := Op.binOp BinOp.gtr 2 (Operand.tmp 21) (Operand.tmp 27) 2, type := 4, pos := "l07_deltas.go:68", after := #[{ on := 5, ground := Ground.data }, { on := 11, ground := Ground.data }, { on := 3, ground := Ground.guard }], guard := some (3, false) }) (v := undef) rfl (by kernel_rfl) (by kernel_rfl) (by kernel_rfl) (fun _ _ _ h => h) (Or.inr ⟨by rfl, rfl⟩) (by assumption) ?_
      (try simp only [Act.put, List.setIfInBounds_toArray, List.set_cons_zero, List.set_cons_succ])
      refine wpAnyH_take (i := 13) (oi := { dst := some 29, op := Op.pick (Operand.tmp 19) (Operand.const (Value.bool true)) (Operand.tmp 28), type := 4, pos := "l07_deltas.go:68", after := #[{ on := 3, ground := Ground.data }, { on := 12, ground := Ground.data }], guard := none }) (v := ?_) rfl (by kernel_rfl) (by kernel_rfl) (by kernel_rfl) (fun _ _ _ h => h) (Or.inl ⟨by rfl, ?_⟩) (by assumption) ?_
      rotate_left
      · intro w hSw
        (try dsimp only at hSw)
        first | (go_simp; done) | (go_simp; with_reducible rfl)
      (try simp only [Act.put, List.setIfInBounds_toArray, List.set_cons_zero, List.set_cons_succ])
      refine wpAnyH_done (by kernel_rfl) ?_ _
      have HB2 := Lib.hid (HB1.out.trans ((Below.mk hb2.os hb2.tape hb2.output hb2.size hb2.block : Below w1.heap.size w1 w2).mono HB1.out.size))
      clear hb2 hHeld hHeld2 d0 d1 d2 d3 d4 d5 d6 d7
      go_wp2
      go_ret
      exact ⟨by rw [HF.out]; rfl, HB.out.trans (HB2.out.mono HB.out.size)⟩
    obtain ⟨g1, g2⟩ := op_dev (o := x) hok
    obtain ⟨d, hd⟩ := Int.eq_ofNat_of_zero_le g1
    have hd4 : d < 4 := by omega
    have hdi : (d : Int) < 4 := by omega
    obtain ⟨bv, ov, rfl, hbv, hcv⟩ := HV.out.2 d hd4
    have cv0 := (HB1.out.cell (p := ⟨bv, ov + d, none⟩) (by show bv < w0.heap.size; omega)).trans hcv
    have hdn : x.dev.toNat = d := by omega
    obtain ⟨c0, c1⟩ := pair_cells ((HB1.out.block _ (by omega)).trans HX.out)
    rw [hdn] at H2 H3
    rw [hok] at HCt
    rw [hd] at d0 HCt
    have H3' := Lib.hid (H3.out hok)
    clear hok hcv g1 g2
    have HCv : Hid (∀ w2, Below w1.heap.size w1 w2 → w2.cell? ⟨bv, ov + d, none⟩ = w1.cell? ⟨bv, ov + d, none⟩) := fun w2 h => h.cell (block_lt_of_cell cv0)
    generalize hy : xs.getD d 0 = y at H2 H3' cv0
    clear hy H3
    have hS : w1.drew.cell? ⟨bo, 0, none⟩ = some (.int .i64 (d : Int)) ∧ w1.drew.cell? ⟨bo, 1, none⟩ = some (.int .i64 x.seq) ∧ w1.drew.cell? ⟨bo, 2, none⟩ = some (.int .i64 x.stamp) ∧ w1.drew.cell? ⟨bo, 3, none⟩ = some (.int .i64 x.kind) ∧ w1.drew.cell? ⟨bo, 4, none⟩ = some (.string x.item) ∧ w1.drew.cell? ⟨bo, 5, none⟩ = some (.int .i64 x.qty) ∧ w1.drew.cell? ⟨bo, 6, none⟩ = some (.int .i64 x.level) ∧ w1.drew.cell? ⟨bo, 7, none⟩ = some (.int .i64 x.undos) ∧ w1.drew.cell? ⟨w.heap.size, 0, none⟩ = some (.slice (some ⟨bv, ov, none⟩) 4 cv) ∧ w1.drew.cell? ⟨w.heap.size, 1, none⟩ = some (.slice (some ⟨b, off, none⟩) no co) ∧ w1.drew.cell? ⟨bv, ov + d, none⟩ = some (.int .i64 y) := ⟨d0, d1, d2, d3, d4, d5, d6, d7, c0, c1, cv0⟩
    rcases hle : decide (y < x.seq) with _ | _
    rotate_left
    · have HF := Lib.hid (H2.out (of_decide_eq_true hle))
      go_wp2_with fail
      go_region_held3 (fun w' => w'.cell? ⟨bo, 0, none⟩ = some (.int .i64 (d : Int)) ∧ w'.cell? ⟨bo, 1, none⟩ = some (.int .i64 x.seq) ∧ w'.cell? ⟨bo, 2, none⟩ = some (.int .i64 x.stamp) ∧ w'.cell? ⟨bo, 3, none⟩ = some (.int .i64 x.kind) ∧ w'.cell? ⟨bo, 4, none⟩ = some (.string x.item) ∧ w'.cell? ⟨bo, 5, none⟩ = some (.int .i64 x.qty) ∧ w'.cell? ⟨bo, 6, none⟩ = some (.int .i64 x.level) ∧ w'.cell? ⟨bo, 7, none⟩ = some (.int .i64 x.undos) ∧ w'.cell? ⟨w.heap.size, 0, none⟩ = some (.slice (some ⟨bv, ov, none⟩) 4 cv) ∧ w'.cell? ⟨w.heap.size, 1, none⟩ = some (.slice (some ⟨b, off, none⟩) no co) ∧ w'.cell? ⟨bv, ov + d, none⟩ = some (.int .i64 y)) (first | with_reducible exact hS | with_reducible exact hS2)
        (first | (go_at_call 32; refine (HCt.out _).mono ?_; rintro e w2 ⟨rfl, hb2⟩; have ⟨q0, q1, q2, q3, q4, q5, q6, q7, q8, q9, q10⟩ := hS; have hS2 : w2.cell? ⟨bo, 0, none⟩ = some (.int .i64 (d : Int)) ∧ w2.cell? ⟨bo, 1, none⟩ = some (.int .i64 x.seq) ∧ w2.cell? ⟨bo, 2, none⟩ = some (.int .i64 x.stamp) ∧ w2.cell? ⟨bo, 3, none⟩ = some (.int .i64 x.kind) ∧ w2.cell? ⟨bo, 4, none⟩ = some (.string x.item) ∧ w2.cell? ⟨bo, 5, none⟩ = some (.int .i64 x.qty) ∧ w2.cell? ⟨bo, 6, none⟩ = some (.int .i64 x.level) ∧ w2.cell? ⟨bo, 7, none⟩ = some (.int .i64 x.undos) ∧ w2.cell? ⟨w.heap.size, 0, none⟩ = some (.slice (some ⟨bv, ov, none⟩) 4 cv) ∧ w2.cell? ⟨w.heap.size, 1, none⟩ = some (.slice (some ⟨b, off, none⟩) no co) ∧ w2.cell? ⟨bv, ov + d, none⟩ = some (.int .i64 y) := ⟨(hb2.cell (block_lt_of_cell q0)).trans q0, (hb2.cell (block_lt_of_cell q1)).trans q1, (hb2.cell (block_lt_of_cell q2)).trans q2, (hb2.cell (block_lt_of_cell q3)).trans q3, (hb2.cell (block_lt_of_cell q4)).trans q4, (hb2.cell (block_lt_of_cell q5)).trans q5, (hb2.cell (block_lt_of_cell q6)).trans q6, (hb2.cell (block_lt_of_cell q7)).trans q7, (hb2.cell (block_lt_of_cell q8)).trans q8, (hb2.cell (block_lt_of_cell q9)).trans q9, (hb2.cell (block_lt_of_cell q10)).trans q10⟩; clear q0 q1 q2 q3 q4 q5 q6 q7 q8 q9 q10))
      have HB2 := Lib.hid (HB1.out.trans ((Below.mk hb2.os hb2.tape hb2.output hb2.size hb2.block : Below w1.heap.size w1 w2).mono HB1.out.size))
      have HX2 := Lib.hid ((hb2.block _ (Array.getElem?_eq_some_iff.1 HX1.out).1).trans HX1.out)
      clear hb2 hS
      go_wp2
      go_ret
      exact ⟨by rw [HF.out]; rfl, HB.out.trans (HB2.out.mono HB.out.size)⟩
    have hle' : ¬ y < x.seq := of_decide_eq_false hle
    have HOK := Lib.hid (H3'.out (by omega))
    clear hle'
    go_wp2_with fail
    go_region_held3 (fun w' => w'.cell? ⟨bo, 0, none⟩ = some (.int .i64 (d : Int)) ∧ w'.cell? ⟨bo, 1, none⟩ = some (.int .i64 x.seq) ∧ w'.cell? ⟨bo, 2, none⟩ = some (.int .i64 x.stamp) ∧ w'.cell? ⟨bo, 3, none⟩ = some (.int .i64 x.kind) ∧ w'.cell? ⟨bo, 4, none⟩ = some (.string x.item) ∧ w'.cell? ⟨bo, 5, none⟩ = some (.int .i64 x.qty) ∧ w'.cell? ⟨bo, 6, none⟩ = some (.int .i64 x.level) ∧ w'.cell? ⟨bo, 7, none⟩ = some (.int .i64 x.undos) ∧ w'.cell? ⟨w.heap.size, 0, none⟩ = some (.slice (some ⟨bv, ov, none⟩) 4 cv) ∧ w'.cell? ⟨w.heap.size, 1, none⟩ = some (.slice (some ⟨b, off, none⟩) no co) ∧ w'.cell? ⟨bv, ov + d, none⟩ = some (.int .i64 y)) (first | with_reducible exact hS | with_reducible exact hS2)
      (first | (go_at_call 32; refine (HCt.out _).mono ?_; rintro e w2 ⟨rfl, hb2⟩; have ⟨q0, q1, q2, q3, q4, q5, q6, q7, q8, q9, q10⟩ := hS; have hS2 : w2.cell? ⟨bo, 0, none⟩ = some (.int .i64 (d : Int)) ∧ w2.cell? ⟨bo, 1, none⟩ = some (.int .i64 x.seq) ∧ w2.cell? ⟨bo, 2, none⟩ = some (.int .i64 x.stamp) ∧ w2.cell? ⟨bo, 3, none⟩ = some (.int .i64 x.kind) ∧ w2.cell? ⟨bo, 4, none⟩ = some (.string x.item) ∧ w2.cell? ⟨bo, 5, none⟩ = some (.int .i64 x.qty) ∧ w2.cell? ⟨bo, 6, none⟩ = some (.int .i64 x.level) ∧ w2.cell? ⟨bo, 7, none⟩ = some (.int .i64 x.undos) ∧ w2.cell? ⟨w.heap.size, 0, none⟩ = some (.slice (some ⟨bv, ov, none⟩) 4 cv) ∧ w2.cell? ⟨w.heap.size, 1, none⟩ = some (.slice (some ⟨b, off, none⟩) no co) ∧ w2.cell? ⟨bv, ov + d, none⟩ = some (.int .i64 y) := ⟨(hb2.cell (block_lt_of_cell q0)).trans q0, (hb2.cell (block_lt_of_cell q1)).trans q1, (hb2.cell (block_lt_of_cell q2)).trans q2, (hb2.cell (block_lt_of_cell q3)).trans q3, (hb2.cell (block_lt_of_cell q4)).trans q4, (hb2.cell (block_lt_of_cell q5)).trans q5, (hb2.cell (block_lt_of_cell q6)).trans q6, (hb2.cell (block_lt_of_cell q7)).trans q7, (hb2.cell (block_lt_of_cell q8)).trans q8, (hb2.cell (block_lt_of_cell q9)).trans q9, (hb2.cell (block_lt_of_cell q10)).trans q10⟩; clear q0 q1 q2 q3 q4 q5 q6 q7 q8 q9 q10))
    have HB2 := Lib.hid (HB1.out.trans ((Below.mk hb2.os hb2.tape hb2.output hb2.size hb2.block : Below w1.heap.size w1 w2).mono HB1.out.size))
    have HX2 := Lib.hid ((hb2.block _ (Array.getElem?_eq_some_iff.1 HX1.out).1).trans HX1.out)
    clear hb2 hS
    have HRn := Lib.hid (allp_step HR.out HOK.out)
    go_wp2
    go_roundw
    case rel => exact ⟨k + 1, by omega, by go_num, HRn, HB2⟩
    case measure => simp [intOf]; omega
end Go.Proofs.Ytcebolkooohjhaa
