/- The walks of impl.copiedCart (a cart without operations), impl.uniformNet, impl.NetNew and spec.NetNew. -/
import Derived.Test.YtdmhibdhnejiiabNetM
namespace Go.Proofs.Ytdmhibdhnejiiab
open Go.RowKit

theorem copiedOpsNil (w : World) : Calls Try.prog 56 #[.slice none 0 0] w fun e w' => e = .returned (.slice none 0 0) ∧ w = w' := by
  go_enter Try.func56, Try.ntmps56
  go_wp2_with fail
  refine (cloneNil w).mono ?_
  rintro e w1 ⟨rfl, rfl⟩
  go_wp2
  refine wp_loop_rounds 1 ?_
  rw [rounds_succ]
  go_wp2
  go_ret
  exact ⟨rfl, rfl⟩
/-- What answers a cart without operations leaves. -/
def CartPost (xs : List Int) (w : World) (e : Ending) (w' : World) : Prop :=
  ∃ a cap, e = .returned (.agg #[.slice a 4 cap, .slice none 0 0]) ∧ Own w' w.heap.size w'.heap.size a 4 xs ∧ Below w.heap.size w w'
set_option linter.unusedSimpArgs false in
set_option maxRecDepth 100000 in
set_option maxHeartbeats 2000000 in
theorem copiedNil (w : World) (B g cv : Nat) (xs : List Int) (hx : Ints w B (some ⟨g, 0, none⟩) 4 xs) (hB : B ≤ w.heap.size) :
    Calls Try.prog 46 #[.agg #[.slice (some ⟨g, 0, none⟩) 4 cv, .slice none 0 0]] w (CartPost xs w) := by
  have hT := Two.mk0 w #[.slice (some ⟨g, 0, none⟩) 4 cv, .slice none 0 0] #[.slice none 0 0, .slice none 0 0] 51
  have HV := Lib.hid (hx.below hT.bel hB)
  have HT := Lib.hid hT
  have hxl : xs.length = 4 := hx.1
  clear hx hT
  go_enter Try.func46, Try.ntmps46
  go_upto_region 1 with fail
  rename_i KR hKR
  generalize (w.alloc (.cells #[.slice (some ⟨g, 0, none⟩) 4 cv, .slice none 0 0] 51)).alloc (.cells #[.slice none 0 0, .slice none 0 0] 51) = w0 at HV HT ⊢
  have hsz0 := HT.out.bel.size
  have hsz1 := lt_of_row HT.out.snd
  obtain ⟨z0, hz0e⟩ : ∃ z0, w0.drew = z0 := ⟨_, rfl⟩
  have g0 : Below w0.heap.size w0 z0 := by rw [← hz0e]; exact ⟨rfl, rfl, rfl, Nat.le_refl _, fun _ _ => rfl⟩
  have HVz := Lib.hid (HV.out.below g0 (by omega))
  have HTz := Lib.hid (HT.out.next g0)
  have hs0 := g0.size
  have hS := pair_cells HTz.out.fst
  clear g0 HV HT
  refine wp_region_held_drew (S := fun w' => w'.cell? ⟨w.heap.size, 0, none⟩ = some (.slice (some ⟨g, 0, none⟩) 4 cv) ∧ w'.cell? ⟨w.heap.size, 1, none⟩ = some (.slice none 0 0)) (by kernel_rfl) (by rw [hz0e]; exact hS) (fun hHeld => ?_)
  rw [hz0e]
  clear hHeld hz0e
  refine wpAnyH_take (i := 0) (oi := { dst := some 3, op := Op.fieldAddr 51 (Operand.tmp 1) 0, type := 0, pos := "l04_carts.go:95", after := #[], guard := none }) (v := ?_) rfl (by kernel_rfl) (by kernel_rfl) (by kernel_rfl) (fun _ _ _ h => h) (Or.inl ⟨by rfl, ?_⟩) (by assumption) ?_
  rotate_left
  · intro w hSw
    (try dsimp only at hSw)
    first | (go_simp; done) | (go_simp; with_reducible rfl)
  (try simp only [Act.put, List.setIfInBounds_toArray, List.set_cons_zero, List.set_cons_succ])
  refine wpAnyH_take (i := 1) (oi := { dst := some 4, op := Op.load 48 (Operand.tmp 3), type := 48, pos := "l04_carts.go:95", after := #[{ on := 0, ground := Ground.data }], guard := none }) (v := ?_) rfl (by kernel_rfl) (by kernel_rfl) (by kernel_rfl) (fun _ _ _ h => h) (Or.inl ⟨by rfl, ?_⟩) (by assumption) ?_
  rotate_left
  · intro w hSw
    (try dsimp only at hSw)
    first | (go_simp; done) | (go_simp; with_reducible rfl)
  (try simp only [Act.put, List.setIfInBounds_toArray, List.set_cons_zero, List.set_cons_succ])
  refine wpAnyH_take (i := 3) (oi := { dst := some 6, op := Op.fieldAddr 51 (Operand.tmp 1) 1, type := 0, pos := "l04_carts.go:95", after := #[], guard := none }) (v := ?_) rfl (by kernel_rfl) (by kernel_rfl) (by kernel_rfl) (fun _ _ _ h => h) (Or.inl ⟨by rfl, ?_⟩) (by assumption) ?_
  rotate_left
  · intro w hSw
    (try dsimp only at hSw)
    first | (go_simp; done) | (go_simp; with_reducible rfl)
  (try simp only [Act.put, List.setIfInBounds_toArray, List.set_cons_zero, List.set_cons_succ])
  refine wpAnyH_take (i := 4) (oi := { dst := some 7, op := Op.load 49 (Operand.tmp 6), type := 49, pos := "l04_carts.go:95", after := #[{ on := 3, ground := Ground.data }], guard := none }) (v := ?_) rfl (by kernel_rfl) (by kernel_rfl) (by kernel_rfl) (fun _ _ _ h => h) (Or.inl ⟨by rfl, ?_⟩) (by assumption) ?_
  rotate_left
  · intro w hSw
    (try dsimp only at hSw)
    first | (go_simp; done) | (go_simp; with_reducible rfl)
  (try simp only [Act.put, List.setIfInBounds_toArray, List.set_cons_zero, List.set_cons_succ])
  refine wpAnyH_ready (rs := [2]) (by kernel_rfl) (by simp) ?_
  refine AllReadyH.cons (o := { dst := some 5, op := Op.call { callee := Callee.value (Operand.func 55), args := #[Operand.tmp 4], argTypes := #[48] }, type := 48, pos := "l04_carts.go:95", after := #[{ on := 1, ground := Ground.data }], guard := none }) rfl (fun K hK => ?_) AllReadyH.nil
  go_simp
  go_at_call 55
  refine (cloneInts z0 B g 4 cv xs HVz.out (by omega) (by omega)).mono ?_
  rintro e w1 ⟨va, vc, rfl, hown, hb1⟩
  rw [hxl] at hown ⊢
  have HT1 := Lib.hid (HTz.out.next hb1)
  have HV1 := Lib.hid hown
  have hs1 := hb1.size
  have hS1 := pair_cells HT1.out.fst
  clear hb1 hown HVz HTz
  refine hK.out _ _ hS1 (fun hHeld2 => ?_)
  clear hK K
  (try simp only [Act.put, List.setIfInBounds_toArray, List.set_cons_zero, List.set_cons_succ])
  refine wpAnyH_ready (rs := [5]) (by kernel_rfl) (by simp) ?_
  refine AllReadyH.cons (o := { dst := some 8, op := Op.call { callee := Callee.value (Operand.func 56), args := #[Operand.tmp 7], argTypes := #[49] }, type := 49, pos := "l04_carts.go:95", after := #[{ on := 4, ground := Ground.data }, { on := 2, ground := Ground.chain }], guard := none }) rfl (fun K hK => ?_) AllReadyH.nil
  go_simp
  go_at_call 56
  refine (copiedOpsNil w1).mono ?_
  rintro e w2 ⟨rfl, rfl⟩
  refine hK.out _ _ hS1 (fun hHeld3 => ?_)
  clear hK K
  (try simp only [Act.put, List.setIfInBounds_toArray, List.set_cons_zero, List.set_cons_succ])
  refine wpAnyH_take (i := 6) (oi := { dst := some 9, op := Op.build 51 #[(0, Operand.tmp 5), (1, Operand.tmp 8)], type := 51, pos := "l04_carts.go:95", after := #[{ on := 2, ground := Ground.data }, { on := 5, ground := Ground.data }], guard := none }) (v := ?_) rfl (by kernel_rfl) (by kernel_rfl) (by kernel_rfl) (fun _ _ _ h => h) (Or.inl ⟨by rfl, ?_⟩) (by assumption) ?_
  rotate_left
  · intro w hSw
    (try dsimp only at hSw)
    first | (go_simp; done) | (go_simp; with_reducible rfl)
  (try simp only [Act.put, List.setIfInBounds_toArray, List.set_cons_zero, List.set_cons_succ])
  obtain ⟨r0, r1⟩ := pair_cells HT1.out.snd
  obtain ⟨fz0, fz1⟩ := pair_frozen HT1.out.snd
  have hS3 : ((w1.setCell ⟨w.heap.size + 1, 0, none⟩ (.slice va 4 vc)).setCell ⟨w.heap.size + 1, 1, none⟩ (.slice none 0 0)).cell? ⟨w.heap.size, 0, none⟩ = some (.slice (some ⟨g, 0, none⟩) 4 cv) ∧ ((w1.setCell ⟨w.heap.size + 1, 0, none⟩ (.slice va 4 vc)).setCell ⟨w.heap.size + 1, 1, none⟩ (.slice none 0 0)).cell? ⟨w.heap.size, 1, none⟩ = some (.slice none 0 0) := pair_cells ((pair_other _ _ (by omega)).trans HT1.out.fst)
  refine wpAnyH_ready (rs := [7]) (by kernel_rfl) (by simp) ?_
  refine AllReadyH.cons (o := { dst := none, op := Op.store 51 (Operand.tmp 2) (Operand.tmp 9), type := 0, pos := "l04_carts.go:95", after := #[{ on := 6, ground := Ground.data }, { on := 5, ground := Ground.chain }, { on := 0, ground := Ground.phase }, { on := 1, ground := Ground.phase }, { on := 2, ground := Ground.phase }, { on := 3, ground := Ground.phase }, { on := 4, ground := Ground.phase }, { on := 5, ground := Ground.phase }, { on := 6, ground := Ground.phase }], guard := none }) rfl (fun K hK => ?_) AllReadyH.nil
  go_simp
  refine hK.out _ _ hS3 (fun hHeld4 => ?_)
  clear hK K
  (try simp only [Act.put, List.setIfInBounds_toArray, List.set_cons_zero, List.set_cons_succ])
  refine wpAnyH_done (by kernel_rfl) ?_ _
  have HXr : Hid (((w1.setCell ⟨w.heap.size + 1, 0, none⟩ (.slice va 4 vc)).setCell ⟨w.heap.size + 1, 1, none⟩ (.slice none 0 0)).heap[w.heap.size + 1]? = some (.cells #[.slice va 4 vc, .slice none 0 0] 51 (0, 0))) := pair_set _ _ HT1.out.snd
  have HBr2 : Hid (Below w.heap.size w ((w1.setCell ⟨w.heap.size + 1, 0, none⟩ (.slice va 4 vc)).setCell ⟨w.heap.size + 1, 1, none⟩ (.slice none 0 0))) := (HT1.out.bel.setCell (by show _ ≤ w.heap.size + 1; omega) _).setCell (by show _ ≤ w.heap.size + 1; omega) _
  have HOv7 : Hid (Own ((w1.setCell ⟨w.heap.size + 1, 0, none⟩ (.slice va 4 vc)).setCell ⟨w.heap.size + 1, 1, none⟩ (.slice none 0 0)) z0.heap.size w1.heap.size va 4 xs) := HV1.out.kept fun q h1 h2 => pair_other _ _ (by omega)
  have hsz7 : ((w1.setCell ⟨w.heap.size + 1, 0, none⟩ (.slice va 4 vc)).setCell ⟨w.heap.size + 1, 1, none⟩ (.slice none 0 0)).heap.size = w1.heap.size := pair_size _ _ _ _
  clear hS hS1 hS3 hHeld2 hHeld3 hHeld4 r0 r1 fz0 fz1
  generalize (w1.setCell ⟨w.heap.size + 1, 0, none⟩ (.slice va 4 vc)).setCell ⟨w.heap.size + 1, 1, none⟩ (.slice none 0 0) = wf at HXr HBr2 HOv7 hsz7 ⊢
  obtain ⟨q0, q1⟩ := pair_cells HXr.out
  refine hKR _ _ ?_
  go_wp2
  exact bodyPost_ret (v := .agg #[.slice va 4 vc, .slice none 0 0]) (by simp [results, Try.results46, go_sem, q0, q1]) rfl ⟨va, vc, rfl, HOv7.out.more (by omega) (by omega), HBr2.out⟩
/-- What answers a net of four fresh carts leaves. -/
def NetPost (w : World) (e : Ending) (w' : World) : Prop :=
  ∃ g c l, e = .returned (.agg #[.slice (some ⟨g, 0, none⟩) 4 c, .slice none 0 0]) ∧ l.length = 4 ∧ NetAt w' w.heap.size g l (fun _ => zeros4) ∧ Below w.heap.size w w' 
theorem NetAt.other {w w' : World} {lo g : Nat} {l : List (Nat × Nat)} {V : Nat → List Int} (h : NetAt w lo g l V) (hs : w.heap.size = w'.heap.size) (hk : ∀ j, lo ≤ j → w'.heap[j]? = w.heap[j]?) : NetAt w' lo g l V := by
  obtain ⟨⟨h1, h2, cs, hg, hc⟩, hst⟩ := h
  exact ⟨⟨h1, by omega, cs, (hk g h1).trans hg, hc⟩, hst.kept (by omega) fun i hi => hk _ (hst.1 i hi).1⟩
theorem NetAt.more {w : World} {lo lo' g : Nat} {l : List (Nat × Nat)} {V : Nat → List Int} (h : NetAt w lo g l V) (hl : lo' ≤ lo) : NetAt w lo' g l V := by
  obtain ⟨⟨h1, h2, r⟩, hst⟩ := h
  exact ⟨⟨by omega, h2, r⟩, fun i hi => by obtain ⟨a, b, c⟩ := hst.1 i hi; exact ⟨by omega, b, c⟩, hst.2⟩
theorem opwpA {P : Program} {o : Oper} {a : Act} {w : World} {K : Act → World → Prop} {Q : Exit → Act → World → Prop} (x y : Operand) (ts : Array TypeId) (hop : o.op = Op.call { callee := Callee.builtin Builtin.append, args := #[x, y], argTypes := ts }) (v1 v2 : Value) {v' : Value} {w' : World} (h1 : a.eval x = v1) (h2 : a.eval y = v2)
    (hrun : (Builtin.append_ ts o.type #[v1, v2]).run P w = .ok v' w') (hK : K (a.put o.dst v') w') : Oper.wp P o a w K Q := by
  unfold Oper.wp
  simp [execOp, hop, resolve, invoke, builtin, h1, h2, hrun, Result.andThen]
  exact hK
set_option linter.unusedSimpArgs false in
set_option maxRecDepth 100000 in
set_option maxHeartbeats 4000000 in
theorem uniformNet (w : World) (B cg cc : Nat) (h : Ints w B (some ⟨cg, 0, none⟩) 4 zeros4) (hB : B ≤ w.heap.size) :
    Calls Try.prog 34 #[.agg #[.slice (some ⟨cg, 0, none⟩) 4 cc, .slice none 0 0]] w (NetPost w) := by
  have H := Lib.hid h
  clear h
  go_enter Try.func34, Try.ntmps34

  go_wp2
  generalize hw0 : ((w.alloc (.cells #[.slice (some ⟨cg, 0, none⟩) 4 cc, .slice none 0 0] 51)).alloc (.cells #[.slice none 0 0, .slice none 0 0] 35)).alloc (.cells #[.slice none 0 0, .slice none 0 0] 35) = w0
  have hz0 : w0.heap.size = w.heap.size + 3 := by rw [← hw0]; show (((w.heap.push _).push _).push _).size = _; simp
  have hz1 : (w.alloc (.cells #[.slice (some ⟨cg, 0, none⟩) 4 cc, .slice none 0 0] 51)).heap.size = w.heap.size + 1 := by show (w.heap.push _).size = _; simp
  have hz2 : ((w.alloc (.cells #[.slice (some ⟨cg, 0, none⟩) 4 cc, .slice none 0 0] 51)).alloc (.cells #[.slice none 0 0, .slice none 0 0] 35)).heap.size = w.heap.size + 1 + 1 := by show ((w.heap.push _).push _).size = _; simp
  have T1 : Hid (w0.heap[w.heap.size]? = some (.cells #[.slice (some ⟨cg, 0, none⟩) 4 cc, .slice none 0 0] 51 (0, 0))) := by rw [← hw0]; exact (Below.heap_alloc _ _ _ (by omega)).trans ((Below.heap_alloc _ _ _ (by omega)).trans (heap_alloc_new _ _))
  have TR : Hid (w0.heap[w.heap.size + 1]? = some (.cells #[.slice none 0 0, .slice none 0 0] 35 (0, 0))) := by rw [← hw0]; have := heap_alloc_new (w.alloc (.cells #[.slice (some ⟨cg, 0, none⟩) 4 cc, .slice none 0 0] 51)) (.cells #[.slice none 0 0, .slice none 0 0] 35); rw [hz1] at this; exact (Below.heap_alloc _ _ _ (by omega)).trans this
  have TN : Hid (w0.heap[w.heap.size + 1 + 1]? = some (.cells #[.slice none 0 0, .slice none 0 0] 35 (0, 0))) := by rw [← hw0]; have := heap_alloc_new ((w.alloc (.cells #[.slice (some ⟨cg, 0, none⟩) 4 cc, .slice none 0 0] 51)).alloc (.cells #[.slice none 0 0, .slice none 0 0] 35)) (.cells #[.slice none 0 0, .slice none 0 0] 35); rw [hz2] at this; exact this
  have HB0 : Hid (Below w.heap.size w w0) := by rw [← hw0]; exact (((Below.refl _ w).alloc (Nat.le_refl _) _).alloc (by omega) _).alloc (by omega) _
  clear hz1 hz2
  clear hw0
  go_loopw [4] (fun i wr => ∃ (k : Nat) (l : List (Nat × Nat)) (v : Value), k ≤ 4 ∧ i = .int .i64 (k : Int) ∧ Hid (l.length = k) ∧ Hid (NInv w wr (w.heap.size + 1 + 1) (w.heap.size + 3) v l) ∧ Hid (∀ j, j < w.heap.size + 3 → j ≠ (w.heap.size + 1 + 1) → wr.heap[j]? = w0.heap[j]?)) (fun i _ => 4 - (intOf i).toNat)
  case atStart => exact ⟨0, [], _, by omega, rfl, rfl, NInv.first _ _ _ _ TN.out HB0.out (by omega) (by omega) (by omega), fun _ _ _ => rfl⟩
  case round =>
    obtain ⟨k, l, v, hk, rfl, HL, HI, HF⟩ := hrel
    by_cases hlt : k < 4
    · have hki : (k : Int) < 4 := by omega
      go_upto_region 4 with fail
      rename_i KR hKR
      obtain ⟨z0, hz0e⟩ : ∃ z0, wr.drew = z0 := ⟨_, rfl⟩
      have HIz : Hid (NInv w z0 (w.heap.size + 1 + 1) (w.heap.size + 3) v l) := by rw [← hz0e]; exact HI.out.drew
      have HFz : Hid (∀ j, j < w.heap.size + 3 → j ≠ (w.heap.size + 1 + 1) → z0.heap[j]? = w0.heap[j]?) := by rw [← hz0e]; exact HF.out
      have n0 : z0.cell? ⟨w.heap.size + 1 + 1, 0, none⟩ = some v := cell_of_row _ _ _ _ _ _ HIz.out.box
      have hS0 : z0.cell? ⟨w.heap.size, 0, none⟩ = some (.slice (some ⟨cg, 0, none⟩) 4 cc) ∧ z0.cell? ⟨w.heap.size, 1, none⟩ = some (.slice none 0 0) := by
        have h0 := (HFz.out w.heap.size (by omega) (by omega)).trans T1.out
        exact pair_cells h0
      have HLT : Hid (w.heap.size < w.heap.size + 3) := by show _ < _; omega
      have HNE : Hid (w.heap.size ≠ (w.heap.size + 1 + 1)) := by show _ ≠ _; omega
      have hll : l.length ≤ 100 := by have := HL.out; omega
      clear HI HF
      refine wp_region_held_drew (S := fun w' => w'.cell? ⟨w.heap.size, 0, none⟩ = some (.slice (some ⟨cg, 0, none⟩) 4 cc) ∧ w'.cell? ⟨w.heap.size, 1, none⟩ = some (.slice none 0 0)) (by kernel_rfl) (by rw [hz0e]; exact hS0) (fun hHeld => ?_)
      rw [hz0e]
      clear hHeld
      refine wpAnyH_take (i := 0) (oi := { dst := some 6, op := Op.fieldAddr 35 (Operand.tmp 3) 0, type := 0, pos := "l09_nets.go:40", after := #[], guard := none }) (v := ?_) rfl (by kernel_rfl) (by kernel_rfl) (by kernel_rfl) (fun _ _ _ h => h) (Or.inl ⟨by rfl, ?_⟩) (by assumption) ?_
      rotate_left
      · intro w hSw
        (try dsimp only at hSw)
        first | (go_simp; done) | (go_simp; with_reducible rfl)
      (try simp only [Act.put, List.setIfInBounds_toArray, List.set_cons_zero, List.set_cons_succ])
      refine wpAnyH_take (i := 2) (oi := { dst := some 8, op := Op.load 51 (Operand.tmp 1), type := 51, pos := "l09_nets.go:40", after := #[], guard := none }) (v := ?_) rfl (by kernel_rfl) (by kernel_rfl) (by kernel_rfl) (fun _ _ _ h => h) (Or.inl ⟨by rfl, ?_⟩) (by assumption) ?_
      rotate_left
      · intro w hSw
        (try dsimp only at hSw)
        first | (go_simp; done) | (go_simp; with_reducible rfl)
      (try simp only [Act.put, List.setIfInBounds_toArray, List.set_cons_zero, List.set_cons_succ])
      refine wpAnyH_ready (rs := [1, 3]) (by kernel_rfl) (by simp) ?_
      refine (AllReadyH.cons (o := { dst := some 7, op := Op.load 32 (Operand.tmp 6), type := 32, pos := "l09_nets.go:40", after := #[{ on := 0, ground := Ground.data }], guard := none }) rfl (fun K hK => ?_) (AllReadyH.cons (o := { dst := some 9, op := Op.call { callee := Callee.value (Operand.func 46), args := #[Operand.tmp 8], argTypes := #[51] }, type := 51, pos := "l09_nets.go:40", after := #[{ on := 2, ground := Ground.data }], guard := none }) rfl (fun K hK => ?_) AllReadyH.nil))
      ·
        go_simp
        refine hK.out _ _ hS0 (fun hHeldL => ?_)
        clear hK K hHeldL
        (try simp only [Act.put, List.setIfInBounds_toArray, List.set_cons_zero, List.set_cons_succ])
        refine wpAnyH_ready (rs := [3]) (by kernel_rfl) (by simp) ?_
        refine (AllReadyH.cons (o := { dst := some 9, op := Op.call { callee := Callee.value (Operand.func 46), args := #[Operand.tmp 8], argTypes := #[51] }, type := 51, pos := "l09_nets.go:40", after := #[{ on := 2, ground := Ground.data }], guard := none }) rfl (fun K hK => ?_) AllReadyH.nil)
        go_simp
        go_at_call 46
        refine (copiedNil z0 B cg cc zeros4 ((H.out.below HIz.out.bel hB)) (Nat.le_trans hB HIz.out.bel.size)).mono ?_
        rintro e z1 ⟨a, c, rfl, ho, hb1⟩
        obtain ⟨g, va, vc, z3, rfl, hrun, _, n1, nA, n3, f3, hI4, hK5⟩ := HIz.out.push (c := c) hb1 ho hll
        have hS1 : z1.cell? ⟨w.heap.size, 0, none⟩ = some (.slice (some ⟨cg, 0, none⟩) 4 cc) ∧ z1.cell? ⟨w.heap.size, 1, none⟩ = some (.slice none 0 0) := ⟨(World.cell?_of_block (a := ⟨w.heap.size, 0, none⟩) ((hK5 _ HLT.out).1)).trans hS0.1, (World.cell?_of_block (a := ⟨w.heap.size, 1, none⟩) ((hK5 _ HLT.out).1)).trans hS0.2⟩
        have hSA : (z1.alloc (.cells #[.slice (some ⟨g, 0, none⟩) 4 c, .slice none 0 0] 51)).cell? ⟨w.heap.size, 0, none⟩ = some (.slice (some ⟨cg, 0, none⟩) 4 cc) ∧ (z1.alloc (.cells #[.slice (some ⟨g, 0, none⟩) 4 c, .slice none 0 0] 51)).cell? ⟨w.heap.size, 1, none⟩ = some (.slice none 0 0) := ⟨(World.cell?_of_block (a := ⟨w.heap.size, 0, none⟩) ((hK5 _ HLT.out).2.1)).trans hS0.1, (World.cell?_of_block (a := ⟨w.heap.size, 1, none⟩) ((hK5 _ HLT.out).2.1)).trans hS0.2⟩
        have hS3 : z3.cell? ⟨w.heap.size, 0, none⟩ = some (.slice (some ⟨cg, 0, none⟩) 4 cc) ∧ z3.cell? ⟨w.heap.size, 1, none⟩ = some (.slice none 0 0) := ⟨(World.cell?_of_block (a := ⟨w.heap.size, 0, none⟩) ((hK5 _ HLT.out).2.2.1)).trans hS0.1, (World.cell?_of_block (a := ⟨w.heap.size, 1, none⟩) ((hK5 _ HLT.out).2.2.1)).trans hS0.2⟩
        have hS4 : (z3.setCell ⟨w.heap.size + 1 + 1, 0, none⟩ (.slice va (l.length + 1) vc)).cell? ⟨w.heap.size, 0, none⟩ = some (.slice (some ⟨cg, 0, none⟩) 4 cc) ∧ (z3.setCell ⟨w.heap.size + 1 + 1, 0, none⟩ (.slice va (l.length + 1) vc)).cell? ⟨w.heap.size, 1, none⟩ = some (.slice none 0 0) := ⟨(World.cell?_of_block (a := ⟨w.heap.size, 0, none⟩) (((hK5 _ HLT.out).2.2.2 HNE.out))).trans hS0.1, (World.cell?_of_block (a := ⟨w.heap.size, 1, none⟩) (((hK5 _ HLT.out).2.2.2 HNE.out))).trans hS0.2⟩
        have HI4 := Lib.hid hI4
        have HF4 : Hid (∀ j, j < w.heap.size + 3 → j ≠ (w.heap.size + 1 + 1) → (z3.setCell ⟨w.heap.size + 1 + 1, 0, none⟩ (.slice va (l.length + 1) vc)).heap[j]? = w0.heap[j]?) := fun j h1 h2 => ((hK5 j h1).2.2.2 h2).trans (HFz.out j h1 h2)
        clear ho hb1 hI4 hK5
        refine hK.out _ _ hS1 (fun hHeldC => ?_)
        clear hK K hHeldC
        (try simp only [Act.put, List.setIfInBounds_toArray, List.set_cons_zero, List.set_cons_succ])
        refine wpAnyH_ready (rs := [4]) (by kernel_rfl) (by simp) ?_
        refine (AllReadyH.cons (o := { dst := some 10, op := Op.buildSlice 32 1 #[(0, Operand.tmp 9)], type := 32, pos := "l09_nets.go:40", after := #[{ on := 3, ground := Ground.data }], guard := none }) rfl (fun K hK => ?_) AllReadyH.nil)
        go_simp
        refine hK.out _ _ hSA (fun hHeldB => ?_)
        clear hK K hHeldB
        (try simp only [Act.put, List.setIfInBounds_toArray, List.set_cons_zero, List.set_cons_succ])
        refine wpAnyH_ready (rs := [5]) (by kernel_rfl) (by simp) ?_
        refine (AllReadyH.cons (o := { dst := some 11, op := Op.call { callee := Callee.builtin Builtin.append, args := #[Operand.tmp 7, Operand.tmp 10], argTypes := #[32, 32] }, type := 32, pos := "l09_nets.go:40", after := #[{ on := 1, ground := Ground.data }, { on := 4, ground := Ground.data }, { on := 3, ground := Ground.chain }], guard := none }) rfl (fun K hK => ?_) AllReadyH.nil)
        rw [if_pos (by rfl)]
        refine opwpA _ _ _ rfl _ _ rfl rfl hrun ?_
        refine hK.out _ _ hS3 (fun hHeldA => ?_)
        clear hK K hHeldA
        (try simp only [Act.put, List.setIfInBounds_toArray, List.set_cons_zero, List.set_cons_succ])
        refine wpAnyH_take (i := 6) (oi := { dst := some 12, op := Op.fieldAddr 35 (Operand.tmp 3) 0, type := 0, pos := "l09_nets.go:40", after := #[{ on := 0, ground := Ground.phase }, { on := 1, ground := Ground.phase }, { on := 2, ground := Ground.phase }, { on := 3, ground := Ground.phase }, { on := 4, ground := Ground.phase }, { on := 5, ground := Ground.phase }], guard := none }) (v := ?_) rfl (by kernel_rfl) (by kernel_rfl) (by kernel_rfl) (fun _ _ _ h => h) (Or.inl ⟨by rfl, ?_⟩) (by assumption) ?_
        rotate_left
        · intro w hSw
          (try dsimp only at hSw)
          first | (go_simp; done) | (go_simp; with_reducible rfl)
        (try simp only [Act.put, List.setIfInBounds_toArray, List.set_cons_zero, List.set_cons_succ])
        refine wpAnyH_ready (rs := [7]) (by kernel_rfl) (by simp) ?_
        refine (AllReadyH.cons (o := { dst := none, op := Op.store 32 (Operand.tmp 12) (Operand.tmp 11), type := 0, pos := "l09_nets.go:40", after := #[{ on := 6, ground := Ground.data }, { on := 5, ground := Ground.data }, { on := 5, ground := Ground.chain }, { on := 0, ground := Ground.phase }, { on := 1, ground := Ground.phase }, { on := 2, ground := Ground.phase }, { on := 3, ground := Ground.phase }, { on := 4, ground := Ground.phase }, { on := 5, ground := Ground.phase }], guard := none }) rfl (fun K hK => ?_) AllReadyH.nil)
        go_simp
        refine hK.out _ _ hS4 (fun hHeldS => ?_)
        clear hK K hHeldS
        (try simp only [Act.put, List.setIfInBounds_toArray, List.set_cons_zero, List.set_cons_succ])
        refine wpAnyH_done (by kernel_rfl) ?_ _
        refine hKR _ _ ?_
        generalize z3.setCell ⟨w.heap.size + 1 + 1, 0, none⟩ (.slice va (l.length + 1) vc) = z4 at HI4 HF4 ⊢
        go_wp2
        go_roundw
        case rel => exact ⟨k + 1, l ++ [(g, c)], _, by omega, by go_num, (by show (l ++ [(g, c)]).length = k + 1; rw [List.length_append, HL.out]; rfl), HI4, HF4⟩
        case measure => simp [intOf]; omega
      ·
        go_simp
        go_at_call 46
        refine (copiedNil z0 B cg cc zeros4 ((H.out.below HIz.out.bel hB)) (Nat.le_trans hB HIz.out.bel.size)).mono ?_
        rintro e z1 ⟨a, c, rfl, ho, hb1⟩
        obtain ⟨g, va, vc, z3, rfl, hrun, _, n1, nA, n3, f3, hI4, hK5⟩ := HIz.out.push (c := c) hb1 ho hll
        have hS1 : z1.cell? ⟨w.heap.size, 0, none⟩ = some (.slice (some ⟨cg, 0, none⟩) 4 cc) ∧ z1.cell? ⟨w.heap.size, 1, none⟩ = some (.slice none 0 0) := ⟨(World.cell?_of_block (a := ⟨w.heap.size, 0, none⟩) ((hK5 _ HLT.out).1)).trans hS0.1, (World.cell?_of_block (a := ⟨w.heap.size, 1, none⟩) ((hK5 _ HLT.out).1)).trans hS0.2⟩
        have hSA : (z1.alloc (.cells #[.slice (some ⟨g, 0, none⟩) 4 c, .slice none 0 0] 51)).cell? ⟨w.heap.size, 0, none⟩ = some (.slice (some ⟨cg, 0, none⟩) 4 cc) ∧ (z1.alloc (.cells #[.slice (some ⟨g, 0, none⟩) 4 c, .slice none 0 0] 51)).cell? ⟨w.heap.size, 1, none⟩ = some (.slice none 0 0) := ⟨(World.cell?_of_block (a := ⟨w.heap.size, 0, none⟩) ((hK5 _ HLT.out).2.1)).trans hS0.1, (World.cell?_of_block (a := ⟨w.heap.size, 1, none⟩) ((hK5 _ HLT.out).2.1)).trans hS0.2⟩
        have hS3 : z3.cell? ⟨w.heap.size, 0, none⟩ = some (.slice (some ⟨cg, 0, none⟩) 4 cc) ∧ z3.cell? ⟨w.heap.size, 1, none⟩ = some (.slice none 0 0) := ⟨(World.cell?_of_block (a := ⟨w.heap.size, 0, none⟩) ((hK5 _ HLT.out).2.2.1)).trans hS0.1, (World.cell?_of_block (a := ⟨w.heap.size, 1, none⟩) ((hK5 _ HLT.out).2.2.1)).trans hS0.2⟩
        have hS4 : (z3.setCell ⟨w.heap.size + 1 + 1, 0, none⟩ (.slice va (l.length + 1) vc)).cell? ⟨w.heap.size, 0, none⟩ = some (.slice (some ⟨cg, 0, none⟩) 4 cc) ∧ (z3.setCell ⟨w.heap.size + 1 + 1, 0, none⟩ (.slice va (l.length + 1) vc)).cell? ⟨w.heap.size, 1, none⟩ = some (.slice none 0 0) := ⟨(World.cell?_of_block (a := ⟨w.heap.size, 0, none⟩) (((hK5 _ HLT.out).2.2.2 HNE.out))).trans hS0.1, (World.cell?_of_block (a := ⟨w.heap.size, 1, none⟩) (((hK5 _ HLT.out).2.2.2 HNE.out))).trans hS0.2⟩
        have HI4 := Lib.hid hI4
        have HF4 : Hid (∀ j, j < w.heap.size + 3 → j ≠ (w.heap.size + 1 + 1) → (z3.setCell ⟨w.heap.size + 1 + 1, 0, none⟩ (.slice va (l.length + 1) vc)).heap[j]? = w0.heap[j]?) := fun j h1 h2 => ((hK5 j h1).2.2.2 h2).trans (HFz.out j h1 h2)
        clear ho hb1 hI4 hK5
        refine hK.out _ _ hS1 (fun hHeldC => ?_)
        clear hK K hHeldC
        (try simp only [Act.put, List.setIfInBounds_toArray, List.set_cons_zero, List.set_cons_succ])
        refine wpAnyH_ready (rs := [1, 4]) (by kernel_rfl) (by simp) ?_
        refine (AllReadyH.cons (o := { dst := some 7, op := Op.load 32 (Operand.tmp 6), type := 32, pos := "l09_nets.go:40", after := #[{ on := 0, ground := Ground.data }], guard := none }) rfl (fun K hK => ?_) (AllReadyH.cons (o := { dst := some 10, op := Op.buildSlice 32 1 #[(0, Operand.tmp 9)], type := 32, pos := "l09_nets.go:40", after := #[{ on := 3, ground := Ground.data }], guard := none }) rfl (fun K hK => ?_) AllReadyH.nil))
        ·
          go_simp
          refine hK.out _ _ hS1 (fun hHeldL => ?_)
          clear hK K hHeldL
          (try simp only [Act.put, List.setIfInBounds_toArray, List.set_cons_zero, List.set_cons_succ])
          refine wpAnyH_ready (rs := [4]) (by kernel_rfl) (by simp) ?_
          refine (AllReadyH.cons (o := { dst := some 10, op := Op.buildSlice 32 1 #[(0, Operand.tmp 9)], type := 32, pos := "l09_nets.go:40", after := #[{ on := 3, ground := Ground.data }], guard := none }) rfl (fun K hK => ?_) AllReadyH.nil)
          go_simp
          refine hK.out _ _ hSA (fun hHeldB => ?_)
          clear hK K hHeldB
          (try simp only [Act.put, List.setIfInBounds_toArray, List.set_cons_zero, List.set_cons_succ])
          refine wpAnyH_ready (rs := [5]) (by kernel_rfl) (by simp) ?_
          refine (AllReadyH.cons (o := { dst := some 11, op := Op.call { callee := Callee.builtin Builtin.append, args := #[Operand.tmp 7, Operand.tmp 10], argTypes := #[32, 32] }, type := 32, pos := "l09_nets.go:40", after := #[{ on := 1, ground := Ground.data }, { on := 4, ground := Ground.data }, { on := 3, ground := Ground.chain }], guard := none }) rfl (fun K hK => ?_) AllReadyH.nil)
          rw [if_pos (by rfl)]
          refine opwpA _ _ _ rfl _ _ rfl rfl hrun ?_
          refine hK.out _ _ hS3 (fun hHeldA => ?_)
          clear hK K hHeldA
          (try simp only [Act.put, List.setIfInBounds_toArray, List.set_cons_zero, List.set_cons_succ])
          refine wpAnyH_take (i := 6) (oi := { dst := some 12, op := Op.fieldAddr 35 (Operand.tmp 3) 0, type := 0, pos := "l09_nets.go:40", after := #[{ on := 0, ground := Ground.phase }, { on := 1, ground := Ground.phase }, { on := 2, ground := Ground.phase }, { on := 3, ground := Ground.phase }, { on := 4, ground := Ground.phase }, { on := 5, ground := Ground.phase }], guard := none }) (v := ?_) rfl (by kernel_rfl) (by kernel_rfl) (by kernel_rfl) (fun _ _ _ h => h) (Or.inl ⟨by rfl, ?_⟩) (by assumption) ?_
          rotate_left
          · intro w hSw
            (try dsimp only at hSw)
            first | (go_simp; done) | (go_simp; with_reducible rfl)
          (try simp only [Act.put, List.setIfInBounds_toArray, List.set_cons_zero, List.set_cons_succ])
          refine wpAnyH_ready (rs := [7]) (by kernel_rfl) (by simp) ?_
          refine (AllReadyH.cons (o := { dst := none, op := Op.store 32 (Operand.tmp 12) (Operand.tmp 11), type := 0, pos := "l09_nets.go:40", after := #[{ on := 6, ground := Ground.data }, { on := 5, ground := Ground.data }, { on := 5, ground := Ground.chain }, { on := 0, ground := Ground.phase }, { on := 1, ground := Ground.phase }, { on := 2, ground := Ground.phase }, { on := 3, ground := Ground.phase }, { on := 4, ground := Ground.phase }, { on := 5, ground := Ground.phase }], guard := none }) rfl (fun K hK => ?_) AllReadyH.nil)
          go_simp
          refine hK.out _ _ hS4 (fun hHeldS => ?_)
          clear hK K hHeldS
          (try simp only [Act.put, List.setIfInBounds_toArray, List.set_cons_zero, List.set_cons_succ])
          refine wpAnyH_done (by kernel_rfl) ?_ _
          refine hKR _ _ ?_
          generalize z3.setCell ⟨w.heap.size + 1 + 1, 0, none⟩ (.slice va (l.length + 1) vc) = z4 at HI4 HF4 ⊢
          go_wp2
          go_roundw
          case rel => exact ⟨k + 1, l ++ [(g, c)], _, by omega, by go_num, (by show (l ++ [(g, c)]).length = k + 1; rw [List.length_append, HL.out]; rfl), HI4, HF4⟩
          case measure => simp [intOf]; omega
        ·
          go_simp
          refine hK.out _ _ hSA (fun hHeldB => ?_)
          clear hK K hHeldB
          (try simp only [Act.put, List.setIfInBounds_toArray, List.set_cons_zero, List.set_cons_succ])
          refine wpAnyH_ready (rs := [1]) (by kernel_rfl) (by simp) ?_
          refine (AllReadyH.cons (o := { dst := some 7, op := Op.load 32 (Operand.tmp 6), type := 32, pos := "l09_nets.go:40", after := #[{ on := 0, ground := Ground.data }], guard := none }) rfl (fun K hK => ?_) AllReadyH.nil)
          go_simp
          refine hK.out _ _ hSA (fun hHeldL => ?_)
          clear hK K hHeldL
          (try simp only [Act.put, List.setIfInBounds_toArray, List.set_cons_zero, List.set_cons_succ])
          refine wpAnyH_ready (rs := [5]) (by kernel_rfl) (by simp) ?_
          refine (AllReadyH.cons (o := { dst := some 11, op := Op.call { callee := Callee.builtin Builtin.append, args := #[Operand.tmp 7, Operand.tmp 10], argTypes := #[32, 32] }, type := 32, pos := "l09_nets.go:40", after := #[{ on := 1, ground := Ground.data }, { on := 4, ground := Ground.data }, { on := 3, ground := Ground.chain }], guard := none }) rfl (fun K hK => ?_) AllReadyH.nil)
          rw [if_pos (by rfl)]
          refine opwpA _ _ _ rfl _ _ rfl rfl hrun ?_
          refine hK.out _ _ hS3 (fun hHeldA => ?_)
          clear hK K hHeldA
          (try simp only [Act.put, List.setIfInBounds_toArray, List.set_cons_zero, List.set_cons_succ])
          refine wpAnyH_take (i := 6) (oi := { dst := some 12, op := Op.fieldAddr 35 (Operand.tmp 3) 0, type := 0, pos := "l09_nets.go:40", after := #[{ on := 0, ground := Ground.phase }, { on := 1, ground := Ground.phase }, { on := 2, ground := Ground.phase }, { on := 3, ground := Ground.phase }, { on := 4, ground := Ground.phase }, { on := 5, ground := Ground.phase }], guard := none }) (v := ?_) rfl (by kernel_rfl) (by kernel_rfl) (by kernel_rfl) (fun _ _ _ h => h) (Or.inl ⟨by rfl, ?_⟩) (by assumption) ?_
          rotate_left
          · intro w hSw
            (try dsimp only at hSw)
            first | (go_simp; done) | (go_simp; with_reducible rfl)
          (try simp only [Act.put, List.setIfInBounds_toArray, List.set_cons_zero, List.set_cons_succ])
          refine wpAnyH_ready (rs := [7]) (by kernel_rfl) (by simp) ?_
          refine (AllReadyH.cons (o := { dst := none, op := Op.store 32 (Operand.tmp 12) (Operand.tmp 11), type := 0, pos := "l09_nets.go:40", after := #[{ on := 6, ground := Ground.data }, { on := 5, ground := Ground.data }, { on := 5, ground := Ground.chain }, { on := 0, ground := Ground.phase }, { on := 1, ground := Ground.phase }, { on := 2, ground := Ground.phase }, { on := 3, ground := Ground.phase }, { on := 4, ground := Ground.phase }, { on := 5, ground := Ground.phase }], guard := none }) rfl (fun K hK => ?_) AllReadyH.nil)
          go_simp
          refine hK.out _ _ hS4 (fun hHeldS => ?_)
          clear hK K hHeldS
          (try simp only [Act.put, List.setIfInBounds_toArray, List.set_cons_zero, List.set_cons_succ])
          refine wpAnyH_done (by kernel_rfl) ?_ _
          refine hKR _ _ ?_
          generalize z3.setCell ⟨w.heap.size + 1 + 1, 0, none⟩ (.slice va (l.length + 1) vc) = z4 at HI4 HF4 ⊢
          go_wp2
          go_roundw
          case rel => exact ⟨k + 1, l ++ [(g, c)], _, by omega, by go_num, (by show (l ++ [(g, c)]).length = k + 1; rw [List.length_append, HL.out]; rfl), HI4, HF4⟩
          case measure => simp [intOf]; omega
    · obtain rfl : k = 4 := by omega
      have hnet0 := HI.out.net (by rw [HL.out]; omega)
      rw [HL.out] at hnet0
      obtain ⟨g, c, rfl, hnet⟩ := hnet0
      have HNt := Lib.hid hnet
      obtain ⟨n0, n1⟩ := pair_cells HI.out.box
      have hR := (HF.out (w.heap.size + 1) (by omega) (by omega)).trans TR.out
      obtain ⟨r0, r1⟩ := pair_cells hR
      obtain ⟨q0, q1⟩ := pair_frozen hR
      have HX := Lib.hid (pair_set (.slice (some ⟨g, 0, none⟩) 4 c) (.slice none 0 0) hR)
      have HN4 : Hid (NetAt ((wr.setCell ⟨w.heap.size + 1, 0, none⟩ (.slice (some ⟨g, 0, none⟩) 4 c)).setCell ⟨w.heap.size + 1, 1, none⟩ (.slice none 0 0)) w.heap.size g l (fun _ => zeros4)) := (HNt.out.other (pair_size _ _ _ _).symm fun j hj => pair_other _ _ (by omega)).more (by omega)
      have HB4 : Hid (Below w.heap.size w ((wr.setCell ⟨w.heap.size + 1, 0, none⟩ (.slice (some ⟨g, 0, none⟩) 4 c)).setCell ⟨w.heap.size + 1, 1, none⟩ (.slice none 0 0))) := (HI.out.bel.setCell (by show _ ≤ w.heap.size + 1; omega) _).setCell (by show _ ≤ w.heap.size + 1; omega) _
      clear hR hnet
      go_wp2
      generalize (wr.setCell ⟨w.heap.size + 1, 0, none⟩ (.slice (some ⟨g, 0, none⟩) 4 c)).setCell ⟨w.heap.size + 1, 1, none⟩ (.slice none 0 0) = wf at HX HN4 HB4 ⊢
      obtain ⟨d0, d1⟩ := pair_cells HX.out
      exact bodyPost_ret (v := .agg #[.slice (some ⟨g, 0, none⟩) 4 c, .slice none 0 0]) (by simp [results, Try.results34, go_sem, d0, d1]) rfl ⟨g, c, l, rfl, HL.out, HN4.out, HB4.out⟩
set_option linter.unusedSimpArgs false in
set_option maxRecDepth 100000 in
set_option maxHeartbeats 4000000 in
theorem specNetNew (w : World) : Calls Try.prog 18 #[] w (NetPost w) := by
  go_enter Try.func18, Try.ntmps18
  go_wp2
  generalize hw0 : (w.alloc (.cells #[.slice none 0 0, .slice none 0 0] 35)).alloc (.cells #[.slice none 0 0, .slice none 0 0] 35) = w0
  have hz0 : w0.heap.size = w.heap.size + 2 := by rw [← hw0]; show ((w.heap.push _).push _).size = _; simp
  have hz1 : (w.alloc (.cells #[.slice none 0 0, .slice none 0 0] 35)).heap.size = w.heap.size + 1 := by show (w.heap.push _).size = _; simp
  have TR : Hid (w0.heap[w.heap.size]? = some (.cells #[.slice none 0 0, .slice none 0 0] 35 (0, 0))) := by rw [← hw0]; exact (Below.heap_alloc _ _ _ (by omega)).trans (heap_alloc_new _ _)
  have TN : Hid (w0.heap[w.heap.size + 1]? = some (.cells #[.slice none 0 0, .slice none 0 0] 35 (0, 0))) := by rw [← hw0]; have := heap_alloc_new (w.alloc (.cells #[.slice none 0 0, .slice none 0 0] 35)) (.cells #[.slice none 0 0, .slice none 0 0] 35); rw [hz1] at this; exact this
  have HB0 : Hid (Below w.heap.size w w0) := by rw [← hw0]; exact ((Below.refl _ w).alloc (Nat.le_refl _) _).alloc (by omega) _
  clear hz1
  clear hw0
  go_loopw [2] (fun i wr => ∃ (k : Nat) (l : List (Nat × Nat)) (v : Value), k ≤ 4 ∧ i = .int .i64 (k : Int) ∧ Hid (l.length = k) ∧ Hid (NInv w wr (w.heap.size + 1) (w.heap.size + 2) v l) ∧ Hid (∀ j, j < w.heap.size + 2 → j ≠ (w.heap.size + 1) → wr.heap[j]? = w0.heap[j]?)) (fun i _ => 4 - (intOf i).toNat)
  case atStart => exact ⟨0, [], _, by omega, rfl, rfl, NInv.first _ _ _ _ TN.out HB0.out (by omega) (by omega) (by omega), fun _ _ _ => rfl⟩
  case round =>
    obtain ⟨k, l, v, hk, rfl, HL, HI, HF⟩ := hrel
    by_cases hlt : k < 4
    · have hki : (k : Int) < 4 := by omega
      go_upto_region 5 with fail
      rename_i KR hKR
      obtain ⟨z0, hz0e⟩ : ∃ z0, wr.drew = z0 := ⟨_, rfl⟩
      have HIz : Hid (NInv w z0 (w.heap.size + 1) (w.heap.size + 2) v l) := by rw [← hz0e]; exact HI.out.drew
      have HFz : Hid (∀ j, j < w.heap.size + 2 → j ≠ (w.heap.size + 1) → z0.heap[j]? = w0.heap[j]?) := by rw [← hz0e]; exact HF.out
      have n0 : z0.cell? ⟨w.heap.size + 1, 0, none⟩ = some v := cell_of_row _ _ _ _ _ _ HIz.out.box
      have hS0 : True := trivial
      have HLT : Hid (w.heap.size < w.heap.size + 2) := by show _ < _; omega
      have HNE : Hid (w.heap.size ≠ (w.heap.size + 1)) := by show _ ≠ _; omega
      have hll : l.length ≤ 100 := by have := HL.out; omega
      clear HI HF
      refine wp_region_held_drew (S := fun w' => True) (by kernel_rfl) trivial (fun hHeld => ?_)
      rw [hz0e]
      clear hHeld
      refine wpAnyH_take (i := 0) (oi := { dst := some 8, op := Op.fieldAddr 35 (Operand.tmp 1) 0, type := 0, pos := "l09_nets.go:8", after := #[], guard := none }) (v := ?_) rfl (by kernel_rfl) (by kernel_rfl) (by kernel_rfl) (fun _ _ _ h => h) (Or.inl ⟨by rfl, ?_⟩) (by assumption) ?_
      rotate_left
      · intro w hSw
        (try dsimp only at hSw)
        first | (go_simp; done) | (go_simp; with_reducible rfl)
      (try simp only [Act.put, List.setIfInBounds_toArray, List.set_cons_zero, List.set_cons_succ])
      refine wpAnyH_ready (rs := [1, 2]) (by kernel_rfl) (by simp) ?_
      refine (AllReadyH.cons (o := { dst := some 9, op := Op.load 32 (Operand.tmp 8), type := 32, pos := "l09_nets.go:8", after := #[{ on := 0, ground := Ground.data }], guard := none }) rfl (fun K hK => ?_) (AllReadyH.cons (o := { dst := some 10, op := Op.call { callee := Callee.value (Operand.func 33), args := #[], argTypes := #[] }, type := 51, pos := "l09_nets.go:8", after := #[], guard := none }) rfl (fun K hK => ?_) AllReadyH.nil))
      ·
        go_simp
        refine hK.out _ _ hS0 (fun hHeldL => ?_)
        clear hK K hHeldL
        (try simp only [Act.put, List.setIfInBounds_toArray, List.set_cons_zero, List.set_cons_succ])
        refine wpAnyH_ready (rs := [2]) (by kernel_rfl) (by simp) ?_
        refine (AllReadyH.cons (o := { dst := some 10, op := Op.call { callee := Callee.value (Operand.func 33), args := #[], argTypes := #[] }, type := 51, pos := "l09_nets.go:8", after := #[], guard := none }) rfl (fun K hK => ?_) AllReadyH.nil)
        go_simp
        go_at_call 33
        refine (specCartNew z0).mono ?_
        rintro e z1 ⟨a, c, rfl, ho, hb1⟩
        obtain ⟨g, va, vc, z3, rfl, hrun, _, n1, nA, n3, f3, hI4, hK5⟩ := HIz.out.push (c := c) hb1 ho hll
        have hS1 : True := trivial
        have hSA : True := trivial
        have hS3 : True := trivial
        have hS4 : True := trivial
        have HI4 := Lib.hid hI4
        have HF4 : Hid (∀ j, j < w.heap.size + 2 → j ≠ (w.heap.size + 1) → (z3.setCell ⟨w.heap.size + 1, 0, none⟩ (.slice va (l.length + 1) vc)).heap[j]? = w0.heap[j]?) := fun j h1 h2 => ((hK5 j h1).2.2.2 h2).trans (HFz.out j h1 h2)
        clear ho hb1 hI4 hK5
        refine hK.out _ _ hS1 (fun hHeldC => ?_)
        clear hK K hHeldC
        (try simp only [Act.put, List.setIfInBounds_toArray, List.set_cons_zero, List.set_cons_succ])
        refine wpAnyH_ready (rs := [3]) (by kernel_rfl) (by simp) ?_
        refine (AllReadyH.cons (o := { dst := some 11, op := Op.buildSlice 32 1 #[(0, Operand.tmp 10)], type := 32, pos := "l09_nets.go:8", after := #[{ on := 2, ground := Ground.data }], guard := none }) rfl (fun K hK => ?_) AllReadyH.nil)
        go_simp
        refine hK.out _ _ hSA (fun hHeldB => ?_)
        clear hK K hHeldB
        (try simp only [Act.put, List.setIfInBounds_toArray, List.set_cons_zero, List.set_cons_succ])
        refine wpAnyH_ready (rs := [4]) (by kernel_rfl) (by simp) ?_
        refine (AllReadyH.cons (o := { dst := some 12, op := Op.call { callee := Callee.builtin Builtin.append, args := #[Operand.tmp 9, Operand.tmp 11], argTypes := #[32, 32] }, type := 32, pos := "l09_nets.go:8", after := #[{ on := 1, ground := Ground.data }, { on := 3, ground := Ground.data }, { on := 2, ground := Ground.chain }], guard := none }) rfl (fun K hK => ?_) AllReadyH.nil)
        rw [if_pos (by rfl)]
        refine opwpA _ _ _ rfl _ _ rfl rfl hrun ?_
        refine hK.out _ _ hS3 (fun hHeldA => ?_)
        clear hK K hHeldA
        (try simp only [Act.put, List.setIfInBounds_toArray, List.set_cons_zero, List.set_cons_succ])
        refine wpAnyH_take (i := 5) (oi := { dst := some 13, op := Op.fieldAddr 35 (Operand.tmp 1) 0, type := 0, pos := "l09_nets.go:8", after := #[{ on := 0, ground := Ground.phase }, { on := 1, ground := Ground.phase }, { on := 2, ground := Ground.phase }, { on := 3, ground := Ground.phase }, { on := 4, ground := Ground.phase }], guard := none }) (v := ?_) rfl (by kernel_rfl) (by kernel_rfl) (by kernel_rfl) (fun _ _ _ h => h) (Or.inl ⟨by rfl, ?_⟩) (by assumption) ?_
        rotate_left
        · intro w hSw
          (try dsimp only at hSw)
          first | (go_simp; done) | (go_simp; with_reducible rfl)
        (try simp only [Act.put, List.setIfInBounds_toArray, List.set_cons_zero, List.set_cons_succ])
        refine wpAnyH_ready (rs := [6]) (by kernel_rfl) (by simp) ?_
        refine (AllReadyH.cons (o := { dst := none, op := Op.store 32 (Operand.tmp 13) (Operand.tmp 12), type := 0, pos := "l09_nets.go:8", after := #[{ on := 5, ground := Ground.data }, { on := 4, ground := Ground.data }, { on := 4, ground := Ground.chain }, { on := 0, ground := Ground.phase }, { on := 1, ground := Ground.phase }, { on := 2, ground := Ground.phase }, { on := 3, ground := Ground.phase }, { on := 4, ground := Ground.phase }], guard := none }) rfl (fun K hK => ?_) AllReadyH.nil)
        go_simp
        refine hK.out _ _ hS4 (fun hHeldS => ?_)
        clear hK K hHeldS
        (try simp only [Act.put, List.setIfInBounds_toArray, List.set_cons_zero, List.set_cons_succ])
        refine wpAnyH_done (by kernel_rfl) ?_ _
        refine hKR _ _ ?_
        generalize z3.setCell ⟨w.heap.size + 1, 0, none⟩ (.slice va (l.length + 1) vc) = z4 at HI4 HF4 ⊢
        go_wp2
        go_roundw
        case rel => exact ⟨k + 1, l ++ [(g, c)], _, by omega, by go_num, (by show (l ++ [(g, c)]).length = k + 1; rw [List.length_append, HL.out]; rfl), HI4, HF4⟩
        case measure => simp [intOf]; omega
      ·
        go_simp
        go_at_call 33
        refine (specCartNew z0).mono ?_
        rintro e z1 ⟨a, c, rfl, ho, hb1⟩
        obtain ⟨g, va, vc, z3, rfl, hrun, _, n1, nA, n3, f3, hI4, hK5⟩ := HIz.out.push (c := c) hb1 ho hll
        have hS1 : True := trivial
        have hSA : True := trivial
        have hS3 : True := trivial
        have hS4 : True := trivial
        have HI4 := Lib.hid hI4
        have HF4 : Hid (∀ j, j < w.heap.size + 2 → j ≠ (w.heap.size + 1) → (z3.setCell ⟨w.heap.size + 1, 0, none⟩ (.slice va (l.length + 1) vc)).heap[j]? = w0.heap[j]?) := fun j h1 h2 => ((hK5 j h1).2.2.2 h2).trans (HFz.out j h1 h2)
        clear ho hb1 hI4 hK5
        refine hK.out _ _ hS1 (fun hHeldC => ?_)
        clear hK K hHeldC
        (try simp only [Act.put, List.setIfInBounds_toArray, List.set_cons_zero, List.set_cons_succ])
        refine wpAnyH_ready (rs := [1, 3]) (by kernel_rfl) (by simp) ?_
        refine (AllReadyH.cons (o := { dst := some 9, op := Op.load 32 (Operand.tmp 8), type := 32, pos := "l09_nets.go:8", after := #[{ on := 0, ground := Ground.data }], guard := none }) rfl (fun K hK => ?_) (AllReadyH.cons (o := { dst := some 11, op := Op.buildSlice 32 1 #[(0, Operand.tmp 10)], type := 32, pos := "l09_nets.go:8", after := #[{ on := 2, ground := Ground.data }], guard := none }) rfl (fun K hK => ?_) AllReadyH.nil))
        ·
          go_simp
          refine hK.out _ _ hS1 (fun hHeldL => ?_)
          clear hK K hHeldL
          (try simp only [Act.put, List.setIfInBounds_toArray, List.set_cons_zero, List.set_cons_succ])
          refine wpAnyH_ready (rs := [3]) (by kernel_rfl) (by simp) ?_
          refine (AllReadyH.cons (o := { dst := some 11, op := Op.buildSlice 32 1 #[(0, Operand.tmp 10)], type := 32, pos := "l09_nets.go:8", after := #[{ on := 2, ground := Ground.data }], guard := none }) rfl (fun K hK => ?_) AllReadyH.nil)
          go_simp
          refine hK.out _ _ hSA (fun hHeldB => ?_)
          clear hK K hHeldB
          (try simp only [Act.put, List.setIfInBounds_toArray, List.set_cons_zero, List.set_cons_succ])
          refine wpAnyH_ready (rs := [4]) (by kernel_rfl) (by simp) ?_
          refine (AllReadyH.cons (o := { dst := some 12, op := Op.call { callee := Callee.builtin Builtin.append, args := #[Operand.tmp 9, Operand.tmp 11], argTypes := #[32, 32] }, type := 32, pos := "l09_nets.go:8", after := #[{ on := 1, ground := Ground.data }, { on := 3, ground := Ground.data }, { on := 2, ground := Ground.chain }], guard := none }) rfl (fun K hK => ?_) AllReadyH.nil)
          rw [if_pos (by rfl)]
          refine opwpA _ _ _ rfl _ _ rfl rfl hrun ?_
          refine hK.out _ _ hS3 (fun hHeldA => ?_)
          clear hK K hHeldA
          (try simp only [Act.put, List.setIfInBounds_toArray, List.set_cons_zero, List.set_cons_succ])
          refine wpAnyH_take (i := 5) (oi := { dst := some 13, op := Op.fieldAddr 35 (Operand.tmp 1) 0, type := 0, pos := "l09_nets.go:8", after := #[{ on := 0, ground := Ground.phase }, { on := 1, ground := Ground.phase }, { on := 2, ground := Ground.phase }, { on := 3, ground := Ground.phase }, { on := 4, ground := Ground.phase }], guard := none }) (v := ?_) rfl (by kernel_rfl) (by kernel_rfl) (by kernel_rfl) (fun _ _ _ h => h) (Or.inl ⟨by rfl, ?_⟩) (by assumption) ?_
          rotate_left
          · intro w hSw
            (try dsimp only at hSw)
            first | (go_simp; done) | (go_simp; with_reducible rfl)
          (try simp only [Act.put, List.setIfInBounds_toArray, List.set_cons_zero, List.set_cons_succ])
          refine wpAnyH_ready (rs := [6]) (by kernel_rfl) (by simp) ?_
          refine (AllReadyH.cons (o := { dst := none, op := Op.store 32 (Operand.tmp 13) (Operand.tmp 12), type := 0, pos := "l09_nets.go:8", after := #[{ on := 5, ground := Ground.data }, { on := 4, ground := Ground.data }, { on := 4, ground := Ground.chain }, { on := 0, ground := Ground.phase }, { on := 1, ground := Ground.phase }, { on := 2, ground := Ground.phase }, { on := 3, ground := Ground.phase }, { on := 4, ground := Ground.phase }], guard := none }) rfl (fun K hK => ?_) AllReadyH.nil)
          go_simp
          refine hK.out _ _ hS4 (fun hHeldS => ?_)
          clear hK K hHeldS
          (try simp only [Act.put, List.setIfInBounds_toArray, List.set_cons_zero, List.set_cons_succ])
          refine wpAnyH_done (by kernel_rfl) ?_ _
          refine hKR _ _ ?_
          generalize z3.setCell ⟨w.heap.size + 1, 0, none⟩ (.slice va (l.length + 1) vc) = z4 at HI4 HF4 ⊢
          go_wp2
          go_roundw
          case rel => exact ⟨k + 1, l ++ [(g, c)], _, by omega, by go_num, (by show (l ++ [(g, c)]).length = k + 1; rw [List.length_append, HL.out]; rfl), HI4, HF4⟩
          case measure => simp [intOf]; omega
        ·
          go_simp
          refine hK.out _ _ hSA (fun hHeldB => ?_)
          clear hK K hHeldB
          (try simp only [Act.put, List.setIfInBounds_toArray, List.set_cons_zero, List.set_cons_succ])
          refine wpAnyH_ready (rs := [1]) (by kernel_rfl) (by simp) ?_
          refine (AllReadyH.cons (o := { dst := some 9, op := Op.load 32 (Operand.tmp 8), type := 32, pos := "l09_nets.go:8", after := #[{ on := 0, ground := Ground.data }], guard := none }) rfl (fun K hK => ?_) AllReadyH.nil)
          go_simp
          refine hK.out _ _ hSA (fun hHeldL => ?_)
          clear hK K hHeldL
          (try simp only [Act.put, List.setIfInBounds_toArray, List.set_cons_zero, List.set_cons_succ])
          refine wpAnyH_ready (rs := [4]) (by kernel_rfl) (by simp) ?_
          refine (AllReadyH.cons (o := { dst := some 12, op := Op.call { callee := Callee.builtin Builtin.append, args := #[Operand.tmp 9, Operand.tmp 11], argTypes := #[32, 32] }, type := 32, pos := "l09_nets.go:8", after := #[{ on := 1, ground := Ground.data }, { on := 3, ground := Ground.data }, { on := 2, ground := Ground.chain }], guard := none }) rfl (fun K hK => ?_) AllReadyH.nil)
          rw [if_pos (by rfl)]
          refine opwpA _ _ _ rfl _ _ rfl rfl hrun ?_
          refine hK.out _ _ hS3 (fun hHeldA => ?_)
          clear hK K hHeldA
          (try simp only [Act.put, List.setIfInBounds_toArray, List.set_cons_zero, List.set_cons_succ])
          refine wpAnyH_take (i := 5) (oi := { dst := some 13, op := Op.fieldAddr 35 (Operand.tmp 1) 0, type := 0, pos := "l09_nets.go:8", after := #[{ on := 0, ground := Ground.phase }, { on := 1, ground := Ground.phase }, { on := 2, ground := Ground.phase }, { on := 3, ground := Ground.phase }, { on := 4, ground := Ground.phase }], guard := none }) (v := ?_) rfl (by kernel_rfl) (by kernel_rfl) (by kernel_rfl) (fun _ _ _ h => h) (Or.inl ⟨by rfl, ?_⟩) (by assumption) ?_
          rotate_left
          · intro w hSw
            (try dsimp only at hSw)
            first | (go_simp; done) | (go_simp; with_reducible rfl)
          (try simp only [Act.put, List.setIfInBounds_toArray, List.set_cons_zero, List.set_cons_succ])
          refine wpAnyH_ready (rs := [6]) (by kernel_rfl) (by simp) ?_
          refine (AllReadyH.cons (o := { dst := none, op := Op.store 32 (Operand.tmp 13) (Operand.tmp 12), type := 0, pos := "l09_nets.go:8", after := #[{ on := 5, ground := Ground.data }, { on := 4, ground := Ground.data }, { on := 4, ground := Ground.chain }, { on := 0, ground := Ground.phase }, { on := 1, ground := Ground.phase }, { on := 2, ground := Ground.phase }, { on := 3, ground := Ground.phase }, { on := 4, ground := Ground.phase }], guard := none }) rfl (fun K hK => ?_) AllReadyH.nil)
          go_simp
          refine hK.out _ _ hS4 (fun hHeldS => ?_)
          clear hK K hHeldS
          (try simp only [Act.put, List.setIfInBounds_toArray, List.set_cons_zero, List.set_cons_succ])
          refine wpAnyH_done (by kernel_rfl) ?_ _
          refine hKR _ _ ?_
          generalize z3.setCell ⟨w.heap.size + 1, 0, none⟩ (.slice va (l.length + 1) vc) = z4 at HI4 HF4 ⊢
          go_wp2
          go_roundw
          case rel => exact ⟨k + 1, l ++ [(g, c)], _, by omega, by go_num, (by show (l ++ [(g, c)]).length = k + 1; rw [List.length_append, HL.out]; rfl), HI4, HF4⟩
          case measure => simp [intOf]; omega
    · obtain rfl : k = 4 := by omega
      have hnet0 := HI.out.net (by rw [HL.out]; omega)
      rw [HL.out] at hnet0
      obtain ⟨g, c, rfl, hnet⟩ := hnet0
      have HNt := Lib.hid hnet
      obtain ⟨n0, n1⟩ := pair_cells HI.out.box
      have hR := (HF.out (w.heap.size) (by omega) (by omega)).trans TR.out
      obtain ⟨r0, r1⟩ := pair_cells hR
      obtain ⟨q0, q1⟩ := pair_frozen hR
      have HX := Lib.hid (pair_set (.slice (some ⟨g, 0, none⟩) 4 c) (.slice none 0 0) hR)
      have HN4 : Hid (NetAt ((wr.setCell ⟨w.heap.size, 0, none⟩ (.slice (some ⟨g, 0, none⟩) 4 c)).setCell ⟨w.heap.size, 1, none⟩ (.slice none 0 0)) w.heap.size g l (fun _ => zeros4)) := (HNt.out.other (pair_size _ _ _ _).symm fun j hj => pair_other _ _ (by omega)).more (by omega)
      have HB4 : Hid (Below w.heap.size w ((wr.setCell ⟨w.heap.size, 0, none⟩ (.slice (some ⟨g, 0, none⟩) 4 c)).setCell ⟨w.heap.size, 1, none⟩ (.slice none 0 0))) := (HI.out.bel.setCell (by show _ ≤ w.heap.size; omega) _).setCell (by show _ ≤ w.heap.size; omega) _
      clear hR hnet
      go_wp2
      generalize (wr.setCell ⟨w.heap.size, 0, none⟩ (.slice (some ⟨g, 0, none⟩) 4 c)).setCell ⟨w.heap.size, 1, none⟩ (.slice none 0 0) = wf at HX HN4 HB4 ⊢
      obtain ⟨d0, d1⟩ := pair_cells HX.out
      exact bodyPost_ret (v := .agg #[.slice (some ⟨g, 0, none⟩) 4 c, .slice none 0 0]) (by simp [results, Try.results18, go_sem, d0, d1]) rfl ⟨g, c, l, rfl, HL.out, HN4.out, HB4.out⟩
end Go.Proofs.Ytdmhibdhnejiiab
