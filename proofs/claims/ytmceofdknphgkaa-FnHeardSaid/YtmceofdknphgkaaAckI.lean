/- The walks of (impl.ackRows).acks, of spec.AcksNew and impl.AcksNew. -/
import Derived.Test.YtmceofdknphgkaaAckR
import Derived.Deep.Cut
namespace Go.Proofs.Ytmceofdknphgkaa
open Go.RowKit
set_option linter.unusedVariables false
set_option linter.unusedSimpArgs false

def zeros4 : List Int := [0, 0, 0, 0]
theorem zero_made4 : ∀ W : World, (Instr.makeSlice 24 (.int .i64 4) (.int .i64 4)).run Try.prog W = .ok (.slice (some ⟨W.heap.size, 0, none⟩) 4 4) (W.alloc (.cells #[.int .i64 0, .int .i64 0, .int .i64 0, .int .i64 0] 2)) := by
  obtain ⟨i0, hi, hz0, hz1, hz2⟩ := info_parts Try.infoI64
  intro W
  have h := run_make (P := Try.prog) W 24 2 i0 (.int .i64 0) Try.underlying24 hi hz0 .i64 .i64 4 4 (by omega) (by omega) (by rw [hz2]; omega) (by omega)
  rw [hz1] at h
  have e : madeCells (Value.int .i64 0).cells (Int.toNat 4 * 1) = #[.int .i64 0, .int .i64 0, .int .i64 0, .int .i64 0] := by kernel_rfl
  rw [e] at h
  exact h
theorem l2ZeroA (w : World) : Calls Try.prog 139 #[] w fun e w' => ∃ a cap, e = .returned (.slice a 4 cap) ∧ Own w' w.heap.size w'.heap.size a 4 zeros4 ∧ Below w.heap.size w w' := by
  have hm := zero_made4
  go_enter Try.func139, Try.ntmps139
  go_wp2
  go_ret
  refine ⟨_, _, rfl, own_fresh (xs := zeros4) (heap_alloc_new _ _) (by show _ < (w.heap.push _).size; simp), (Below.refl _ _).alloc (Nat.le_refl _) _⟩
theorem vlist4 (w : World) (x0 x1 x2 x3 : Int) : Calls Try.prog 133 #[.agg #[.int .i64 x0, .int .i64 x1, .int .i64 x2, .int .i64 x3]] w fun e w' => ∃ a cap, e = .returned (.slice a 4 cap) ∧ Own w' w.heap.size w'.heap.size a 4 [x0, x1, x2, x3] ∧ Below w.heap.size w w' := vlist w x0 x1 x2 x3
def pk (g0 g1 g2 g3 : Nat) (i : Nat) : Nat := if i = 0 then g0 else if i = 1 then g1 else if i = 2 then g2 else g3
theorem pk_index (g0 g1 g2 g3 k : Nat) (hk : k < 4) (W : World) : (Instr.index 136 (.agg #[.pointer (some ⟨g0, 0, none⟩), .pointer (some ⟨g1, 0, none⟩), .pointer (some ⟨g2, 0, none⟩), .pointer (some ⟨g3, 0, none⟩)]) (.int .i64 (k : Int))).run Try.prog W = .ok (.pointer (some ⟨pk g0 g1 g2 g3 k, 0, none⟩)) W := by
  obtain rfl | rfl | rfl | rfl : k = 0 ∨ k = 1 ∨ k = 2 ∨ k = 3 := by omega
  all_goals kernel_rfl
theorem alloc3 (w : World) (o1 o2 o3 : Obj) : Below w.heap.size w (((w.alloc o1).alloc o2).alloc o3) ∧ (((w.alloc o1).alloc o2).alloc o3).heap[w.heap.size]? = some o1 ∧ (((w.alloc o1).alloc o2).alloc o3).heap[w.heap.size + 1]? = some o2 ∧ (((w.alloc o1).alloc o2).alloc o3).heap[w.heap.size + 1 + 1]? = some o3 ∧ (((w.alloc o1).alloc o2).alloc o3).heap.size = w.heap.size + 3 := by
  have hz1 : (w.alloc o1).heap.size = w.heap.size + 1 := by show (w.heap.push _).size = _; simp
  have hz2 : ((w.alloc o1).alloc o2).heap.size = w.heap.size + 1 + 1 := by show ((w.heap.push _).push _).size = _; simp
  refine ⟨(((Below.refl _ w).alloc (Nat.le_refl _) _).alloc (by omega) _).alloc (by omega) _, ?_, ?_, ?_, by show (((w.heap.push _).push _).push _).size = _; simp⟩
  · exact (Below.heap_alloc _ _ _ (by omega)).trans ((Below.heap_alloc _ _ _ (by omega)).trans (heap_alloc_new _ _))
  · have := heap_alloc_new (w.alloc o1) o2
    rw [hz1] at this
    exact (Below.heap_alloc _ _ _ (by omega)).trans this
  · have := heap_alloc_new ((w.alloc o1).alloc o2) o3
    rw [hz2] at this
    exact this
theorem alloc2 (w : World) (o1 o2 : Obj) : Below w.heap.size w ((w.alloc o1).alloc o2) ∧ ((w.alloc o1).alloc o2).heap[w.heap.size]? = some o1 ∧ ((w.alloc o1).alloc o2).heap[w.heap.size + 1]? = some o2 ∧ ((w.alloc o1).alloc o2).heap.size = w.heap.size + 2 := by
  have hz1 : (w.alloc o1).heap.size = w.heap.size + 1 := by show (w.heap.push _).size = _; simp
  refine ⟨((Below.refl _ w).alloc (Nat.le_refl _) _).alloc (by omega) _, ?_, ?_, by show ((w.heap.push _).push _).size = _; simp⟩
  · exact (Below.heap_alloc _ _ _ (by omega)).trans (heap_alloc_new _ _)
  · have := heap_alloc_new (w.alloc o1) o2
    rw [hz1] at this
    exact this
set_option maxRecDepth 100000 in
set_option maxHeartbeats 4000000 in
theorem implAcks (w : World) (g0 g1 g2 g3 : Nat) (l : List (List Int)) (hl : l.length = 4) (hv : ∀ i, i < 4 → vecOk (rowOf l i) = true) (h : ∀ i, i < 4 → w.heap[pk g0 g1 g2 g3 i]? = some (.cells ((rowOf l i).map (Value.int .i64)).toArray 142 (0, 0))) :
    Calls Try.prog 137 #[.agg #[.pointer (some ⟨g0, 0, none⟩), .pointer (some ⟨g1, 0, none⟩), .pointer (some ⟨g2, 0, none⟩), .pointer (some ⟨g3, 0, none⟩)]] w (AckPost l w) := by
  have H := Lib.hid h
  have HV := Lib.hid hv
  have HL := Lib.hid hl
  clear h hv hl
  go_enter Try.func137, Try.ntmps137
  go_wp2
  obtain ⟨hB0, h1, h2, h3, hz0⟩ := alloc3 w (.cells #[.pointer (some ⟨g0, 0, none⟩), .pointer (some ⟨g1, 0, none⟩), .pointer (some ⟨g2, 0, none⟩), .pointer (some ⟨g3, 0, none⟩)] 136) (.cells #[.slice none 0 0] 66) (.cells #[.slice none 0 0] 66)
  generalize ((w.alloc (.cells #[.pointer (some ⟨g0, 0, none⟩), .pointer (some ⟨g1, 0, none⟩), .pointer (some ⟨g2, 0, none⟩), .pointer (some ⟨g3, 0, none⟩)] 136)).alloc (.cells #[.slice none 0 0] 66)).alloc (.cells #[.slice none 0 0] 66) = w0 at hB0 h1 h2 h3 hz0 ⊢
  have HB0 := Lib.hid hB0
  have TR := Lib.hid h2
  have TN := Lib.hid h3
  clear hB0 h1 h2 h3
  go_loopw [7] (fun i wr => ∃ (k : Nat) (v : Value) (f : Nat → Nat), k ≤ 4 ∧ i = .int .i64 (k : Int) ∧ Hid (AInv w wr (w.heap.size + 1 + 1) (w.heap.size + 3) k v f (rowOf l)) ∧ Hid (∀ j, j < w.heap.size + 3 → j ≠ w.heap.size + 1 + 1 → wr.heap[j]? = w0.heap[j]?)) (fun i _ => 4 - (intOf i).toNat)
  case atStart => exact ⟨0, _, _, by omega, rfl, AInv.first _ _ _ _ _ TN.out HB0.out (by omega) (by omega) (by omega), fun _ _ _ => rfl⟩
  case round =>
    obtain ⟨k, v, f, hk, rfl, HI, HF⟩ := hrel
    by_cases hlt : k < 4
    · have hki : (k : Int) < 4 := by omega
      have hidx := pk_index g0 g1 g2 g3 k hlt
      have hgk := H.out k hlt
      obtain ⟨x0, x1, x2, x3, hx⟩ := four (HV.out k hlt)
      rw [hx] at hgk
      generalize pk g0 g1 g2 g3 k = gk at hidx hgk
      have hgl := lt_of_block hgk
      have HG : Hid (w0.heap[gk]? = some (.cells (arr4 x0 x1 x2 x3) 142 (0, 0))) := (HB0.out.block gk hgl).trans hgk
      have HX := Lib.hid hx
      clear hgk hx
      go_upto_region 5 with fail
      rename_i KR hKR
      obtain ⟨z0, hz0e⟩ : ∃ z0, wr.drew = z0 := ⟨_, rfl⟩
      have HIz : Hid (AInv w z0 (w.heap.size + 1 + 1) (w.heap.size + 3) k v f (rowOf l)) := by rw [← hz0e]; exact HI.out.drew
      have HFz : Hid (∀ j, j < w.heap.size + 3 → j ≠ w.heap.size + 1 + 1 → z0.heap[j]? = w0.heap[j]?) := by rw [← hz0e]; exact HF.out
      have n0 : z0.cell? ⟨w.heap.size + 1 + 1, 0, none⟩ = some v := one_cell HIz.out.box
      have hS0 : z0.cell? ⟨gk, 0, none⟩ = some (.int .i64 x0) ∧ z0.cell? ⟨gk, 1, none⟩ = some (.int .i64 x1) ∧ z0.cell? ⟨gk, 2, none⟩ = some (.int .i64 x2) ∧ z0.cell? ⟨gk, 3, none⟩ = some (.int .i64 x3) := (cells4 ((HFz.out gk (by omega) (by omega)).trans HG.out)).1
      clear HI HF
      refine wp_region_held_drew (S := fun w' => w'.cell? ⟨gk, 0, none⟩ = some (.int .i64 x0) ∧ w'.cell? ⟨gk, 1, none⟩ = some (.int .i64 x1) ∧ w'.cell? ⟨gk, 2, none⟩ = some (.int .i64 x2) ∧ w'.cell? ⟨gk, 3, none⟩ = some (.int .i64 x3)) (by kernel_rfl) (by (try rw [hz0e]); exact hS0) (fun hHeld => ?_)
      rw [hz0e]
      clear hHeld
      refine wpAnyH_take (i := 0) (oi := { dst := some 10, op := Op.fieldAddr 66 (Operand.tmp 3) 0, type := 0, pos := "l13_stable.go:28", after := #[], guard := none }) (v := ?_) rfl (by kernel_rfl) (by kernel_rfl) (by kernel_rfl) (fun _ _ _ h => h) (Or.inl ⟨by rfl, ?_⟩) (by assumption) ?_
      rotate_left
      · intro w hSw
        (try dsimp only at hSw)
        first | (go_simp; done) | (go_simp; with_reducible rfl)
      (try simp only [Act.put, List.setIfInBounds_toArray, List.set_cons_zero, List.set_cons_succ])
      refine wpAnyH_take (i := 2) (oi := { dst := some 12, op := Op.move (Operand.tmp 5), type := 134, pos := "l13_stable.go:28", after := #[], guard := none }) (v := ?_) rfl (by kernel_rfl) (by kernel_rfl) (by kernel_rfl) (fun _ _ _ h => h) (Or.inl ⟨by rfl, ?_⟩) (by assumption) ?_
      rotate_left
      · intro w hSw
        (try dsimp only at hSw)
        first | (go_simp; done) | (go_simp; with_reducible rfl)
      (try simp only [Act.put, List.setIfInBounds_toArray, List.set_cons_zero, List.set_cons_succ])
      refine wpAnyH_take (i := 3) (oi := { dst := some 13, op := Op.nilCheck (Operand.tmp 12), type := 0, pos := "l13_stable.go:28", after := #[{ on := 2, ground := Ground.data }], guard := none }) (v := ?_) rfl (by kernel_rfl) (by kernel_rfl) (by kernel_rfl) (fun _ _ _ h => h) (Or.inl ⟨by rfl, ?_⟩) (by assumption) ?_
      rotate_left
      · intro w hSw
        (try dsimp only at hSw)
        first | (go_simp; done) | (go_simp; with_reducible rfl)
      (try simp only [Act.put, List.setIfInBounds_toArray, List.set_cons_zero, List.set_cons_succ])
      refine wpAnyH_take (i := 4) (oi := { dst := some 14, op := Op.load 142 (Operand.tmp 13), type := 142, pos := "l13_stable.go:28", after := #[{ on := 3, ground := Ground.data }], guard := none }) (v := ?_) rfl (by kernel_rfl) (by kernel_rfl) (by kernel_rfl) (fun _ _ _ h => h) (Or.inl ⟨by rfl, ?_⟩) (by assumption) ?_
      rotate_left
      · intro w hSw
        (try dsimp only at hSw)
        first | (go_simp; done) | (go_simp; with_reducible rfl)
      (try simp only [Act.put, List.setIfInBounds_toArray, List.set_cons_zero, List.set_cons_succ])
      refine wpAnyH_ready (rs := [1, 5]) (by kernel_rfl) (by simp) ?_
      refine (AllReadyH.cons (o := { dst := some 11, op := Op.load 64 (Operand.tmp 10), type := 64, pos := "l13_stable.go:28", after := #[{ on := 0, ground := Ground.data }], guard := none }) rfl (fun K hK => ?_) (AllReadyH.cons (o := { dst := some 15, op := Op.call { callee := Callee.value (Operand.func 133), args := #[Operand.tmp 14], argTypes := #[134] }, type := 24, pos := "l13_stable.go:28", after := #[{ on := 4, ground := Ground.data }], guard := none }) rfl (fun K hK => ?_) AllReadyH.nil))
      ·
        go_simp
        refine hK.out _ _ hS0 (fun hHeldL => ?_)
        clear hK K hHeldL
        (try simp only [Act.put, List.setIfInBounds_toArray, List.set_cons_zero, List.set_cons_succ])
        refine wpAnyH_ready (rs := [5]) (by kernel_rfl) (by simp) ?_
        refine (AllReadyH.cons (o := { dst := some 15, op := Op.call { callee := Callee.value (Operand.func 133), args := #[Operand.tmp 14], argTypes := #[134] }, type := 24, pos := "l13_stable.go:28", after := #[{ on := 4, ground := Ground.data }], guard := none }) rfl (fun K hK => ?_) AllReadyH.nil)
        go_simp
        go_at_call 133
        refine (vlist4 z0 x0 x1 x2 x3).mono ?_
        rintro e z1 ⟨a, c, rfl, ho, hb1⟩
        have HI1 := HIz.out.next hb1
        rw [← HX.out] at ho
        obtain ⟨f', va, vc, z3, hrun, n1, nA, n3, f3, hI4, hK5⟩ := HI1.push (c := c) ho HIz.out.hi (fun i hi => (HIz.out.stock i hi).2) (by omega)
        have HF1 : Hid (∀ j, j < w.heap.size + 3 → j ≠ w.heap.size + 1 + 1 → z1.heap[j]? = w0.heap[j]?) := fun j h1 h2 => (hb1.block j (by have := HIz.out.hi; omega)).trans (HFz.out j h1 h2)
        have HFA : Hid (∀ j, j < w.heap.size + 3 → j ≠ w.heap.size + 1 + 1 → (z1.alloc (.cells #[.slice a 4 c] 24)).heap[j]? = w0.heap[j]?) := fun j h1 h2 => (hK5 j h1).1.trans (HF1.out j h1 h2)
        have HF3 : Hid (∀ j, j < w.heap.size + 3 → j ≠ w.heap.size + 1 + 1 → z3.heap[j]? = w0.heap[j]?) := fun j h1 h2 => (hK5 j h1).2.1.trans (HF1.out j h1 h2)
        have HF4 : Hid (∀ j, j < w.heap.size + 3 → j ≠ w.heap.size + 1 + 1 → (z3.setCell ⟨w.heap.size + 1 + 1, 0, none⟩ (.slice va (k + 1) vc)).heap[j]? = w0.heap[j]?) := fun j h1 h2 => ((hK5 j h1).2.2 h2).trans (HF1.out j h1 h2)
        have hS1 : z1.cell? ⟨gk, 0, none⟩ = some (.int .i64 x0) ∧ z1.cell? ⟨gk, 1, none⟩ = some (.int .i64 x1) ∧ z1.cell? ⟨gk, 2, none⟩ = some (.int .i64 x2) ∧ z1.cell? ⟨gk, 3, none⟩ = some (.int .i64 x3) := (cells4 ((HF1.out gk (by omega) (by omega)).trans HG.out)).1
        have hSA : (z1.alloc (.cells #[.slice a 4 c] 24)).cell? ⟨gk, 0, none⟩ = some (.int .i64 x0) ∧ (z1.alloc (.cells #[.slice a 4 c] 24)).cell? ⟨gk, 1, none⟩ = some (.int .i64 x1) ∧ (z1.alloc (.cells #[.slice a 4 c] 24)).cell? ⟨gk, 2, none⟩ = some (.int .i64 x2) ∧ (z1.alloc (.cells #[.slice a 4 c] 24)).cell? ⟨gk, 3, none⟩ = some (.int .i64 x3) := (cells4 ((HFA.out gk (by omega) (by omega)).trans HG.out)).1
        have hS3 : z3.cell? ⟨gk, 0, none⟩ = some (.int .i64 x0) ∧ z3.cell? ⟨gk, 1, none⟩ = some (.int .i64 x1) ∧ z3.cell? ⟨gk, 2, none⟩ = some (.int .i64 x2) ∧ z3.cell? ⟨gk, 3, none⟩ = some (.int .i64 x3) := (cells4 ((HF3.out gk (by omega) (by omega)).trans HG.out)).1
        have hS4 : (z3.setCell ⟨w.heap.size + 1 + 1, 0, none⟩ (.slice va (k + 1) vc)).cell? ⟨gk, 0, none⟩ = some (.int .i64 x0) ∧ (z3.setCell ⟨w.heap.size + 1 + 1, 0, none⟩ (.slice va (k + 1) vc)).cell? ⟨gk, 1, none⟩ = some (.int .i64 x1) ∧ (z3.setCell ⟨w.heap.size + 1 + 1, 0, none⟩ (.slice va (k + 1) vc)).cell? ⟨gk, 2, none⟩ = some (.int .i64 x2) ∧ (z3.setCell ⟨w.heap.size + 1 + 1, 0, none⟩ (.slice va (k + 1) vc)).cell? ⟨gk, 3, none⟩ = some (.int .i64 x3) := (cells4 ((HF4.out gk (by omega) (by omega)).trans HG.out)).1
        have HI4 := Lib.hid hI4
        clear ho hb1 hI4 hK5 HI1 HF1 HFA HF3
        refine hK.out _ _ hS1 (fun hHeldC => ?_)
        clear hK K hHeldC
        (try simp only [Act.put, List.setIfInBounds_toArray, List.set_cons_zero, List.set_cons_succ])
        refine wpAnyH_ready (rs := [6]) (by kernel_rfl) (by simp) ?_
        refine (AllReadyH.cons (o := { dst := some 16, op := Op.buildSlice 64 1 #[(0, Operand.tmp 15)], type := 64, pos := "l13_stable.go:28", after := #[{ on := 5, ground := Ground.data }], guard := none }) rfl (fun K hK => ?_) AllReadyH.nil)
        go_simp
        refine hK.out _ _ hSA (fun hHeldB => ?_)
        clear hK K hHeldB
        (try simp only [Act.put, List.setIfInBounds_toArray, List.set_cons_zero, List.set_cons_succ])
        refine wpAnyH_ready (rs := [7]) (by kernel_rfl) (by simp) ?_
        refine (AllReadyH.cons (o := { dst := some 17, op := Op.call { callee := Callee.builtin Builtin.append, args := #[Operand.tmp 11, Operand.tmp 16], argTypes := #[64, 64] }, type := 64, pos := "l13_stable.go:28", after := #[{ on := 1, ground := Ground.data }, { on := 6, ground := Ground.data }, { on := 5, ground := Ground.chain }], guard := none }) rfl (fun K hK => ?_) AllReadyH.nil)
        rw [if_pos (by rfl)]
        refine opwpR _ _ _ rfl _ _ rfl rfl hrun ?_
        refine hK.out _ _ hS3 (fun hHeldA => ?_)
        clear hK K hHeldA
        (try simp only [Act.put, List.setIfInBounds_toArray, List.set_cons_zero, List.set_cons_succ])
        refine wpAnyH_take (i := 8) (oi := { dst := some 18, op := Op.fieldAddr 66 (Operand.tmp 3) 0, type := 0, pos := "l13_stable.go:28", after := #[{ on := 0, ground := Ground.phase }, { on := 1, ground := Ground.phase }, { on := 2, ground := Ground.phase }, { on := 3, ground := Ground.phase }, { on := 4, ground := Ground.phase }, { on := 5, ground := Ground.phase }, { on := 6, ground := Ground.phase }, { on := 7, ground := Ground.phase }], guard := none }) (v := ?_) rfl (by kernel_rfl) (by kernel_rfl) (by kernel_rfl) (fun _ _ _ h => h) (Or.inl ⟨by rfl, ?_⟩) (by assumption) ?_
        rotate_left
        · intro w hSw
          (try dsimp only at hSw)
          first | (go_simp; done) | (go_simp; with_reducible rfl)
        (try simp only [Act.put, List.setIfInBounds_toArray, List.set_cons_zero, List.set_cons_succ])
        refine wpAnyH_ready (rs := [9]) (by kernel_rfl) (by simp) ?_
        refine (AllReadyH.cons (o := { dst := none, op := Op.store 64 (Operand.tmp 18) (Operand.tmp 17), type := 0, pos := "l13_stable.go:28", after := #[{ on := 8, ground := Ground.data }, { on := 7, ground := Ground.data }, { on := 7, ground := Ground.chain }, { on := 0, ground := Ground.phase }, { on := 1, ground := Ground.phase }, { on := 2, ground := Ground.phase }, { on := 3, ground := Ground.phase }, { on := 4, ground := Ground.phase }, { on := 5, ground := Ground.phase }, { on := 6, ground := Ground.phase }, { on := 7, ground := Ground.phase }], guard := none }) rfl (fun K hK => ?_) AllReadyH.nil)
        go_simp
        refine hK.out _ _ hS4 (fun hHeldS => ?_)
        clear hK K hHeldS
        (try simp only [Act.put, List.setIfInBounds_toArray, List.set_cons_zero, List.set_cons_succ])
        refine wpAnyH_done (by kernel_rfl) ?_ _
        refine hKR _ _ ?_
        generalize z3.setCell ⟨w.heap.size + 1 + 1, 0, none⟩ (.slice va (k + 1) vc) = z4 at HI4 HF4 ⊢
        go_wp2
        go_roundw
        case rel => exact ⟨k + 1, _, f', by omega, by go_num, HI4, HF4⟩
        case measure => simp [intOf]; omega
      ·
        go_simp
        go_at_call 133
        refine (vlist4 z0 x0 x1 x2 x3).mono ?_
        rintro e z1 ⟨a, c, rfl, ho, hb1⟩
        have HI1 := HIz.out.next hb1
        rw [← HX.out] at ho
        obtain ⟨f', va, vc, z3, hrun, n1, nA, n3, f3, hI4, hK5⟩ := HI1.push (c := c) ho HIz.out.hi (fun i hi => (HIz.out.stock i hi).2) (by omega)
        have HF1 : Hid (∀ j, j < w.heap.size + 3 → j ≠ w.heap.size + 1 + 1 → z1.heap[j]? = w0.heap[j]?) := fun j h1 h2 => (hb1.block j (by have := HIz.out.hi; omega)).trans (HFz.out j h1 h2)
        have HFA : Hid (∀ j, j < w.heap.size + 3 → j ≠ w.heap.size + 1 + 1 → (z1.alloc (.cells #[.slice a 4 c] 24)).heap[j]? = w0.heap[j]?) := fun j h1 h2 => (hK5 j h1).1.trans (HF1.out j h1 h2)
        have HF3 : Hid (∀ j, j < w.heap.size + 3 → j ≠ w.heap.size + 1 + 1 → z3.heap[j]? = w0.heap[j]?) := fun j h1 h2 => (hK5 j h1).2.1.trans (HF1.out j h1 h2)
        have HF4 : Hid (∀ j, j < w.heap.size + 3 → j ≠ w.heap.size + 1 + 1 → (z3.setCell ⟨w.heap.size + 1 + 1, 0, none⟩ (.slice va (k + 1) vc)).heap[j]? = w0.heap[j]?) := fun j h1 h2 => ((hK5 j h1).2.2 h2).trans (HF1.out j h1 h2)
        have hS1 : z1.cell? ⟨gk, 0, none⟩ = some (.int .i64 x0) ∧ z1.cell? ⟨gk, 1, none⟩ = some (.int .i64 x1) ∧ z1.cell? ⟨gk, 2, none⟩ = some (.int .i64 x2) ∧ z1.cell? ⟨gk, 3, none⟩ = some (.int .i64 x3) := (cells4 ((HF1.out gk (by omega) (by omega)).trans HG.out)).1
        have hSA : (z1.alloc (.cells #[.slice a 4 c] 24)).cell? ⟨gk, 0, none⟩ = some (.int .i64 x0) ∧ (z1.alloc (.cells #[.slice a 4 c] 24)).cell? ⟨gk, 1, none⟩ = some (.int .i64 x1) ∧ (z1.alloc (.cells #[.slice a 4 c] 24)).cell? ⟨gk, 2, none⟩ = some (.int .i64 x2) ∧ (z1.alloc (.cells #[.slice a 4 c] 24)).cell? ⟨gk, 3, none⟩ = some (.int .i64 x3) := (cells4 ((HFA.out gk (by omega) (by omega)).trans HG.out)).1
        have hS3 : z3.cell? ⟨gk, 0, none⟩ = some (.int .i64 x0) ∧ z3.cell? ⟨gk, 1, none⟩ = some (.int .i64 x1) ∧ z3.cell? ⟨gk, 2, none⟩ = some (.int .i64 x2) ∧ z3.cell? ⟨gk, 3, none⟩ = some (.int .i64 x3) := (cells4 ((HF3.out gk (by omega) (by omega)).trans HG.out)).1
        have hS4 : (z3.setCell ⟨w.heap.size + 1 + 1, 0, none⟩ (.slice va (k + 1) vc)).cell? ⟨gk, 0, none⟩ = some (.int .i64 x0) ∧ (z3.setCell ⟨w.heap.size + 1 + 1, 0, none⟩ (.slice va (k + 1) vc)).cell? ⟨gk, 1, none⟩ = some (.int .i64 x1) ∧ (z3.setCell ⟨w.heap.size + 1 + 1, 0, none⟩ (.slice va (k + 1) vc)).cell? ⟨gk, 2, none⟩ = some (.int .i64 x2) ∧ (z3.setCell ⟨w.heap.size + 1 + 1, 0, none⟩ (.slice va (k + 1) vc)).cell? ⟨gk, 3, none⟩ = some (.int .i64 x3) := (cells4 ((HF4.out gk (by omega) (by omega)).trans HG.out)).1
        have HI4 := Lib.hid hI4
        clear ho hb1 hI4 hK5 HI1 HF1 HFA HF3
        refine hK.out _ _ hS1 (fun hHeldC => ?_)
        clear hK K hHeldC
        (try simp only [Act.put, List.setIfInBounds_toArray, List.set_cons_zero, List.set_cons_succ])
        refine wpAnyH_ready (rs := [1, 6]) (by kernel_rfl) (by simp) ?_
        refine (AllReadyH.cons (o := { dst := some 11, op := Op.load 64 (Operand.tmp 10), type := 64, pos := "l13_stable.go:28", after := #[{ on := 0, ground := Ground.data }], guard := none }) rfl (fun K hK => ?_) (AllReadyH.cons (o := { dst := some 16, op := Op.buildSlice 64 1 #[(0, Operand.tmp 15)], type := 64, pos := "l13_stable.go:28", after := #[{ on := 5, ground := Ground.data }], guard := none }) rfl (fun K hK => ?_) AllReadyH.nil))
        ·
          go_simp
          refine hK.out _ _ hS1 (fun hHeldL => ?_)
          clear hK K hHeldL
          (try simp only [Act.put, List.setIfInBounds_toArray, List.set_cons_zero, List.set_cons_succ])
          refine wpAnyH_ready (rs := [6]) (by kernel_rfl) (by simp) ?_
          refine (AllReadyH.cons (o := { dst := some 16, op := Op.buildSlice 64 1 #[(0, Operand.tmp 15)], type := 64, pos := "l13_stable.go:28", after := #[{ on := 5, ground := Ground.data }], guard := none }) rfl (fun K hK => ?_) AllReadyH.nil)
          go_simp
          refine hK.out _ _ hSA (fun hHeldB => ?_)
          clear hK K hHeldB
          (try simp only [Act.put, List.setIfInBounds_toArray, List.set_cons_zero, List.set_cons_succ])
          refine wpAnyH_ready (rs := [7]) (by kernel_rfl) (by simp) ?_
          refine (AllReadyH.cons (o := { dst := some 17, op := Op.call { callee := Callee.builtin Builtin.append, args := #[Operand.tmp 11, Operand.tmp 16], argTypes := #[64, 64] }, type := 64, pos := "l13_stable.go:28", after := #[{ on := 1, ground := Ground.data }, { on := 6, ground := Ground.data }, { on := 5, ground := Ground.chain }], guard := none }) rfl (fun K hK => ?_) AllReadyH.nil)
          rw [if_pos (by rfl)]
          refine opwpR _ _ _ rfl _ _ rfl rfl hrun ?_
          refine hK.out _ _ hS3 (fun hHeldA => ?_)
          clear hK K hHeldA
          (try simp only [Act.put, List.setIfInBounds_toArray, List.set_cons_zero, List.set_cons_succ])
          refine wpAnyH_take (i := 8) (oi := { dst := some 18, op := Op.fieldAddr 66 (Operand.tmp 3) 0, type := 0, pos := "l13_stable.go:28", after := #[{ on := 0, ground := Ground.phase }, { on := 1, ground := Ground.phase }, { on := 2, ground := Ground.phase }, { on := 3, ground := Ground.phase }, { on := 4, ground := Ground.phase }, { on := 5, ground := Ground.phase }, { on := 6, ground := Ground.phase }, { on := 7, ground := Ground.phase }], guard := none }) (v := ?_) rfl (by kernel_rfl) (by kernel_rfl) (by kernel_rfl) (fun _ _ _ h => h) (Or.inl ⟨by rfl, ?_⟩) (by assumption) ?_
          rotate_left
          · intro w hSw
            (try dsimp only at hSw)
            first | (go_simp; done) | (go_simp; with_reducible rfl)
          (try simp only [Act.put, List.setIfInBounds_toArray, List.set_cons_zero, List.set_cons_succ])
          refine wpAnyH_ready (rs := [9]) (by kernel_rfl) (by simp) ?_
          refine (AllReadyH.cons (o := { dst := none, op := Op.store 64 (Operand.tmp 18) (Operand.tmp 17), type := 0, pos := "l13_stable.go:28", after := #[{ on := 8, ground := Ground.data }, { on := 7, ground := Ground.data }, { on := 7, ground := Ground.chain }, { on := 0, ground := Ground.phase }, { on := 1, ground := Ground.phase }, { on := 2, ground := Ground.phase }, { on := 3, ground := Ground.phase }, { on := 4, ground := Ground.phase }, { on := 5, ground := Ground.phase }, { on := 6, ground := Ground.phase }, { on := 7, ground := Ground.phase }], guard := none }) rfl (fun K hK => ?_) AllReadyH.nil)
          go_simp
          refine hK.out _ _ hS4 (fun hHeldS => ?_)
          clear hK K hHeldS
          (try simp only [Act.put, List.setIfInBounds_toArray, List.set_cons_zero, List.set_cons_succ])
          refine wpAnyH_done (by kernel_rfl) ?_ _
          refine hKR _ _ ?_
          generalize z3.setCell ⟨w.heap.size + 1 + 1, 0, none⟩ (.slice va (k + 1) vc) = z4 at HI4 HF4 ⊢
          go_wp2
          go_roundw
          case rel => exact ⟨k + 1, _, f', by omega, by go_num, HI4, HF4⟩
          case measure => simp [intOf]; omega
        ·
          go_simp
          refine hK.out _ _ hSA (fun hHeldB => ?_)
          clear hK K hHeldB
          (try simp only [Act.put, List.setIfInBounds_toArray, List.set_cons_zero, List.set_cons_succ])
          refine wpAnyH_ready (rs := [1]) (by kernel_rfl) (by simp) ?_
          refine (AllReadyH.cons (o := { dst := some 11, op := Op.load 64 (Operand.tmp 10), type := 64, pos := "l13_stable.go:28", after := #[{ on := 0, ground := Ground.data }], guard := none }) rfl (fun K hK => ?_) AllReadyH.nil)
          go_simp
          refine hK.out _ _ hSA (fun hHeldL => ?_)
          clear hK K hHeldL
          (try simp only [Act.put, List.setIfInBounds_toArray, List.set_cons_zero, List.set_cons_succ])
          refine wpAnyH_ready (rs := [7]) (by kernel_rfl) (by simp) ?_
          refine (AllReadyH.cons (o := { dst := some 17, op := Op.call { callee := Callee.builtin Builtin.append, args := #[Operand.tmp 11, Operand.tmp 16], argTypes := #[64, 64] }, type := 64, pos := "l13_stable.go:28", after := #[{ on := 1, ground := Ground.data }, { on := 6, ground := Ground.data }, { on := 5, ground := Ground.chain }], guard := none }) rfl (fun K hK => ?_) AllReadyH.nil)
          rw [if_pos (by rfl)]
          refine opwpR _ _ _ rfl _ _ rfl rfl hrun ?_
          refine hK.out _ _ hS3 (fun hHeldA => ?_)
          clear hK K hHeldA
          (try simp only [Act.put, List.setIfInBounds_toArray, List.set_cons_zero, List.set_cons_succ])
          refine wpAnyH_take (i := 8) (oi := { dst := some 18, op := Op.fieldAddr 66 (Operand.tmp 3) 0, type := 0, pos := "l13_stable.go:28", after := #[{ on := 0, ground := Ground.phase }, { on := 1, ground := Ground.phase }, { on := 2, ground := Ground.phase }, { on := 3, ground := Ground.phase }, { on := 4, ground := Ground.phase }, { on := 5, ground := Ground.phase }, { on := 6, ground := Ground.phase }, { on := 7, ground := Ground.phase }], guard := none }) (v := ?_) rfl (by kernel_rfl) (by kernel_rfl) (by kernel_rfl) (fun _ _ _ h => h) (Or.inl ⟨by rfl, ?_⟩) (by assumption) ?_
          rotate_left
          · intro w hSw
            (try dsimp only at hSw)
            first | (go_simp; done) | (go_simp; with_reducible rfl)
          (try simp only [Act.put, List.setIfInBounds_toArray, List.set_cons_zero, List.set_cons_succ])
          refine wpAnyH_ready (rs := [9]) (by kernel_rfl) (by simp) ?_
          refine (AllReadyH.cons (o := { dst := none, op := Op.store 64 (Operand.tmp 18) (Operand.tmp 17), type := 0, pos := "l13_stable.go:28", after := #[{ on := 8, ground := Ground.data }, { on := 7, ground := Ground.data }, { on := 7, ground := Ground.chain }, { on := 0, ground := Ground.phase }, { on := 1, ground := Ground.phase }, { on := 2, ground := Ground.phase }, { on := 3, ground := Ground.phase }, { on := 4, ground := Ground.phase }, { on := 5, ground := Ground.phase }, { on := 6, ground := Ground.phase }, { on := 7, ground := Ground.phase }], guard := none }) rfl (fun K hK => ?_) AllReadyH.nil)
          go_simp
          refine hK.out _ _ hS4 (fun hHeldS => ?_)
          clear hK K hHeldS
          (try simp only [Act.put, List.setIfInBounds_toArray, List.set_cons_zero, List.set_cons_succ])
          refine wpAnyH_done (by kernel_rfl) ?_ _
          refine hKR _ _ ?_
          generalize z3.setCell ⟨w.heap.size + 1 + 1, 0, none⟩ (.slice va (k + 1) vc) = z4 at HI4 HF4 ⊢
          go_wp2
          go_roundw
          case rel => exact ⟨k + 1, _, f', by omega, by go_num, HI4, HF4⟩
          case measure => simp [intOf]; omega
    · obtain rfl : k = 4 := by omega
      obtain ⟨g, c, rfl, hrows⟩ := HI.out.rows (by omega) (fun i hi => vec_len (HV.out i hi))
      have HNt := Lib.hid hrows
      have n0 := one_cell HI.out.box
      have hR := (HF.out (w.heap.size + 1) (by omega) (by omega)).trans TR.out
      have r0 := one_cell hR
      have q0 : wr.frozen? ⟨w.heap.size + 1, 0, none⟩ = false := frozen_of_row _ _ _ _ _ hR
      have d0 : (wr.setCell ⟨w.heap.size + 1, 0, none⟩ (.slice (some ⟨g, 0, none⟩) 4 c)).cell? ⟨w.heap.size + 1, 0, none⟩ = some (.slice (some ⟨g, 0, none⟩) 4 c) := cell_set1 _ hR
      have hsz4 : (wr.setCell ⟨w.heap.size + 1, 0, none⟩ (.slice (some ⟨g, 0, none⟩) 4 c)).heap.size = wr.heap.size := by simp [World.setCell]
      have HN4 : Hid (RowsAt (wr.setCell ⟨w.heap.size + 1, 0, none⟩ (.slice (some ⟨g, 0, none⟩) 4 c)) w.heap.size (wr.setCell ⟨w.heap.size + 1, 0, none⟩ (.slice (some ⟨g, 0, none⟩) 4 c)).heap.size g 4 f (rowOf l)) := by rw [hsz4]; exact (HNt.out.kept fun j h1 h2 => heap_setCell_other _ _ _ _ (by show j ≠ w.heap.size + 1; omega)).more (by omega) (Nat.le_refl _)
      have HB4 : Hid (Below w.heap.size w (wr.setCell ⟨w.heap.size + 1, 0, none⟩ (.slice (some ⟨g, 0, none⟩) 4 c))) := HI.out.bel.setCell (by show _ ≤ w.heap.size + 1; omega) _
      have HD := Lib.hid d0
      clear hR hrows d0 hsz4
      go_wp2
      have d0 := HD.out
      generalize (wr.setCell ⟨w.heap.size + 1, 0, none⟩ (.slice (some ⟨g, 0, none⟩) 4 c)) = wf at d0 HN4 HB4 ⊢
      exact bodyPost_ret (v := .agg #[.slice (some ⟨g, 0, none⟩) 4 c]) (by simp [results, Try.results137, go_sem, d0]) rfl ⟨g, c, by rw [HL.out], ⟨f, by rw [HL.out]; exact HN4.out⟩, HB4.out⟩
def newAcks : List (List Int) := [zeros4, zeros4, zeros4, zeros4]
theorem newAcks_row {i : Nat} (h : i < 4) : rowOf newAcks i = zeros4 := by
  obtain rfl | rfl | rfl | rfl : i = 0 ∨ i = 1 ∨ i = 2 ∨ i = 3 := by omega
  all_goals rfl
set_option maxRecDepth 100000 in
set_option maxHeartbeats 4000000 in
theorem specAcksNew (w : World) : Calls Try.prog 69 #[] w (AckPost newAcks w) := by
  go_enter Try.func69, Try.ntmps69
  go_wp2
  obtain ⟨hB0, h2, h3, hz0⟩ := alloc2 w (.cells #[.slice none 0 0] 66) (.cells #[.slice none 0 0] 66)
  generalize (w.alloc (.cells #[.slice none 0 0] 66)).alloc (.cells #[.slice none 0 0] 66) = w0 at hB0 h2 h3 hz0 ⊢
  have HB0 := Lib.hid hB0
  have TR := Lib.hid h2
  have TN := Lib.hid h3
  clear hB0 h2 h3
  go_loopw [2] (fun i wr => ∃ (k : Nat) (v : Value) (f : Nat → Nat), k ≤ 4 ∧ i = .int .i64 (k : Int) ∧ Hid (AInv w wr (w.heap.size + 1) (w.heap.size + 2) k v f (rowOf newAcks)) ∧ Hid (∀ j, j < w.heap.size + 2 → j ≠ w.heap.size + 1 → wr.heap[j]? = w0.heap[j]?)) (fun i _ => 4 - (intOf i).toNat)
  case atStart => exact ⟨0, _, _, by omega, rfl, AInv.first _ _ _ _ _ TN.out HB0.out (by omega) (by omega) (by omega), fun _ _ _ => rfl⟩
  case round =>
    obtain ⟨k, v, f, hk, rfl, HI, HF⟩ := hrel
    by_cases hlt : k < 4
    · have hki : (k : Int) < 4 := by omega
      skip
      go_upto_region 5 with fail
      rename_i KR hKR
      obtain ⟨z0, hz0e⟩ : ∃ z0, wr.drew = z0 := ⟨_, rfl⟩
      have HIz : Hid (AInv w z0 (w.heap.size + 1) (w.heap.size + 2) k v f (rowOf newAcks)) := by rw [← hz0e]; exact HI.out.drew
      have HFz : Hid (∀ j, j < w.heap.size + 2 → j ≠ w.heap.size + 1 → z0.heap[j]? = w0.heap[j]?) := by rw [← hz0e]; exact HF.out
      have n0 : z0.cell? ⟨w.heap.size + 1, 0, none⟩ = some v := one_cell HIz.out.box
      have hS0 : True := trivial
      clear HI HF
      refine wp_region_held_drew (S := fun w' => True) (by kernel_rfl) (by (try rw [hz0e]); exact hS0) (fun hHeld => ?_)
      rw [hz0e]
      clear hHeld
      refine wpAnyH_take (i := 0) (oi := { dst := some 8, op := Op.fieldAddr 66 (Operand.tmp 1) 0, type := 0, pos := "l13_stable.go:8", after := #[], guard := none }) (v := ?_) rfl (by kernel_rfl) (by kernel_rfl) (by kernel_rfl) (fun _ _ _ h => h) (Or.inl ⟨by rfl, ?_⟩) (by assumption) ?_
      rotate_left
      · intro w hSw
        (try dsimp only at hSw)
        first | (go_simp; done) | (go_simp; with_reducible rfl)
      (try simp only [Act.put, List.setIfInBounds_toArray, List.set_cons_zero, List.set_cons_succ])
      refine wpAnyH_ready (rs := [1, 2]) (by kernel_rfl) (by simp) ?_
      refine (AllReadyH.cons (o := { dst := some 9, op := Op.load 64 (Operand.tmp 8), type := 64, pos := "l13_stable.go:8", after := #[{ on := 0, ground := Ground.data }], guard := none }) rfl (fun K hK => ?_) (AllReadyH.cons (o := { dst := some 10, op := Op.call { callee := Callee.value (Operand.func 139), args := #[], argTypes := #[] }, type := 24, pos := "l13_stable.go:8", after := #[], guard := none }) rfl (fun K hK => ?_) AllReadyH.nil))
      ·
        go_simp
        refine hK.out _ _ hS0 (fun hHeldL => ?_)
        clear hK K hHeldL
        (try simp only [Act.put, List.setIfInBounds_toArray, List.set_cons_zero, List.set_cons_succ])
        refine wpAnyH_ready (rs := [2]) (by kernel_rfl) (by simp) ?_
        refine (AllReadyH.cons (o := { dst := some 10, op := Op.call { callee := Callee.value (Operand.func 139), args := #[], argTypes := #[] }, type := 24, pos := "l13_stable.go:8", after := #[], guard := none }) rfl (fun K hK => ?_) AllReadyH.nil)
        go_simp
        go_at_call 139
        refine (l2ZeroA z0).mono ?_
        rintro e z1 ⟨a, c, rfl, ho, hb1⟩
        have HI1 := HIz.out.next hb1
        rw [← newAcks_row hlt] at ho
        obtain ⟨f', va, vc, z3, hrun, n1, nA, n3, f3, hI4, hK5⟩ := HI1.push (c := c) ho HIz.out.hi (fun i hi => (HIz.out.stock i hi).2) (by omega)
        have HF1 : Hid (∀ j, j < w.heap.size + 2 → j ≠ w.heap.size + 1 → z1.heap[j]? = w0.heap[j]?) := fun j h1 h2 => (hb1.block j (by have := HIz.out.hi; omega)).trans (HFz.out j h1 h2)
        have HFA : Hid (∀ j, j < w.heap.size + 2 → j ≠ w.heap.size + 1 → (z1.alloc (.cells #[.slice a 4 c] 24)).heap[j]? = w0.heap[j]?) := fun j h1 h2 => (hK5 j h1).1.trans (HF1.out j h1 h2)
        have HF3 : Hid (∀ j, j < w.heap.size + 2 → j ≠ w.heap.size + 1 → z3.heap[j]? = w0.heap[j]?) := fun j h1 h2 => (hK5 j h1).2.1.trans (HF1.out j h1 h2)
        have HF4 : Hid (∀ j, j < w.heap.size + 2 → j ≠ w.heap.size + 1 → (z3.setCell ⟨w.heap.size + 1, 0, none⟩ (.slice va (k + 1) vc)).heap[j]? = w0.heap[j]?) := fun j h1 h2 => ((hK5 j h1).2.2 h2).trans (HF1.out j h1 h2)
        have hS1 : True := trivial
        have hSA : True := trivial
        have hS3 : True := trivial
        have hS4 : True := trivial
        have HI4 := Lib.hid hI4
        clear ho hb1 hI4 hK5 HI1 HF1 HFA HF3
        refine hK.out _ _ hS1 (fun hHeldC => ?_)
        clear hK K hHeldC
        (try simp only [Act.put, List.setIfInBounds_toArray, List.set_cons_zero, List.set_cons_succ])
        refine wpAnyH_ready (rs := [3]) (by kernel_rfl) (by simp) ?_
        refine (AllReadyH.cons (o := { dst := some 11, op := Op.buildSlice 64 1 #[(0, Operand.tmp 10)], type := 64, pos := "l13_stable.go:8", after := #[{ on := 2, ground := Ground.data }], guard := none }) rfl (fun K hK => ?_) AllReadyH.nil)
        go_simp
        refine hK.out _ _ hSA (fun hHeldB => ?_)
        clear hK K hHeldB
        (try simp only [Act.put, List.setIfInBounds_toArray, List.set_cons_zero, List.set_cons_succ])
        refine wpAnyH_ready (rs := [4]) (by kernel_rfl) (by simp) ?_
        refine (AllReadyH.cons (o := { dst := some 12, op := Op.call { callee := Callee.builtin Builtin.append, args := #[Operand.tmp 9, Operand.tmp 11], argTypes := #[64, 64] }, type := 64, pos := "l13_stable.go:8", after := #[{ on := 1, ground := Ground.data }, { on := 3, ground := Ground.data }, { on := 2, ground := Ground.chain }], guard := none }) rfl (fun K hK => ?_) AllReadyH.nil)
        rw [if_pos (by rfl)]
        refine opwpR _ _ _ rfl _ _ rfl rfl hrun ?_
        refine hK.out _ _ hS3 (fun hHeldA => ?_)
        clear hK K hHeldA
        (try simp only [Act.put, List.setIfInBounds_toArray, List.set_cons_zero, List.set_cons_succ])
        refine wpAnyH_take (i := 5) (oi := { dst := some 13, op := Op.fieldAddr 66 (Operand.tmp 1) 0, type := 0, pos := "l13_stable.go:8", after := #[{ on := 0, ground := Ground.phase }, { on := 1, ground := Ground.phase }, { on := 2, ground := Ground.phase }, { on := 3, ground := Ground.phase }, { on := 4, ground := Ground.phase }], guard := none }) (v := ?_) rfl (by kernel_rfl) (by kernel_rfl) (by kernel_rfl) (fun _ _ _ h => h) (Or.inl ⟨by rfl, ?_⟩) (by assumption) ?_
        rotate_left
        · intro w hSw
          (try dsimp only at hSw)
          first | (go_simp; done) | (go_simp; with_reducible rfl)
        (try simp only [Act.put, List.setIfInBounds_toArray, List.set_cons_zero, List.set_cons_succ])
        refine wpAnyH_ready (rs := [6]) (by kernel_rfl) (by simp) ?_
        refine (AllReadyH.cons (o := { dst := none, op := Op.store 64 (Operand.tmp 13) (Operand.tmp 12), type := 0, pos := "l13_stable.go:8", after := #[{ on := 5, ground := Ground.data }, { on := 4, ground := Ground.data }, { on := 4, ground := Ground.chain }, { on := 0, ground := Ground.phase }, { on := 1, ground := Ground.phase }, { on := 2, ground := Ground.phase }, { on := 3, ground := Ground.phase }, { on := 4, ground := Ground.phase }], guard := none }) rfl (fun K hK => ?_) AllReadyH.nil)
        go_simp
        refine hK.out _ _ hS4 (fun hHeldS => ?_)
        clear hK K hHeldS
        (try simp only [Act.put, List.setIfInBounds_toArray, List.set_cons_zero, List.set_cons_succ])
        refine wpAnyH_done (by kernel_rfl) ?_ _
        refine hKR _ _ ?_
        generalize z3.setCell ⟨w.heap.size + 1, 0, none⟩ (.slice va (k + 1) vc) = z4 at HI4 HF4 ⊢
        go_wp2
        go_roundw
        case rel => exact ⟨k + 1, _, f', by omega, by go_num, HI4, HF4⟩
        case measure => simp [intOf]; omega
      ·
        go_simp
        go_at_call 139
        refine (l2ZeroA z0).mono ?_
        rintro e z1 ⟨a, c, rfl, ho, hb1⟩
        have HI1 := HIz.out.next hb1
        rw [← newAcks_row hlt] at ho
        obtain ⟨f', va, vc, z3, hrun, n1, nA, n3, f3, hI4, hK5⟩ := HI1.push (c := c) ho HIz.out.hi (fun i hi => (HIz.out.stock i hi).2) (by omega)
        have HF1 : Hid (∀ j, j < w.heap.size + 2 → j ≠ w.heap.size + 1 → z1.heap[j]? = w0.heap[j]?) := fun j h1 h2 => (hb1.block j (by have := HIz.out.hi; omega)).trans (HFz.out j h1 h2)
        have HFA : Hid (∀ j, j < w.heap.size + 2 → j ≠ w.heap.size + 1 → (z1.alloc (.cells #[.slice a 4 c] 24)).heap[j]? = w0.heap[j]?) := fun j h1 h2 => (hK5 j h1).1.trans (HF1.out j h1 h2)
        have HF3 : Hid (∀ j, j < w.heap.size + 2 → j ≠ w.heap.size + 1 → z3.heap[j]? = w0.heap[j]?) := fun j h1 h2 => (hK5 j h1).2.1.trans (HF1.out j h1 h2)
        have HF4 : Hid (∀ j, j < w.heap.size + 2 → j ≠ w.heap.size + 1 → (z3.setCell ⟨w.heap.size + 1, 0, none⟩ (.slice va (k + 1) vc)).heap[j]? = w0.heap[j]?) := fun j h1 h2 => ((hK5 j h1).2.2 h2).trans (HF1.out j h1 h2)
        have hS1 : True := trivial
        have hSA : True := trivial
        have hS3 : True := trivial
        have hS4 : True := trivial
        have HI4 := Lib.hid hI4
        clear ho hb1 hI4 hK5 HI1 HF1 HFA HF3
        refine hK.out _ _ hS1 (fun hHeldC => ?_)
        clear hK K hHeldC
        (try simp only [Act.put, List.setIfInBounds_toArray, List.set_cons_zero, List.set_cons_succ])
        refine wpAnyH_ready (rs := [1, 3]) (by kernel_rfl) (by simp) ?_
        refine (AllReadyH.cons (o := { dst := some 9, op := Op.load 64 (Operand.tmp 8), type := 64, pos := "l13_stable.go:8", after := #[{ on := 0, ground := Ground.data }], guard := none }) rfl (fun K hK => ?_) (AllReadyH.cons (o := { dst := some 11, op := Op.buildSlice 64 1 #[(0, Operand.tmp 10)], type := 64, pos := "l13_stable.go:8", after := #[{ on := 2, ground := Ground.data }], guard := none }) rfl (fun K hK => ?_) AllReadyH.nil))
        ·
          go_simp
          refine hK.out _ _ hS1 (fun hHeldL => ?_)
          clear hK K hHeldL
          (try simp only [Act.put, List.setIfInBounds_toArray, List.set_cons_zero, List.set_cons_succ])
          refine wpAnyH_ready (rs := [3]) (by kernel_rfl) (by simp) ?_
          refine (AllReadyH.cons (o := { dst := some 11, op := Op.buildSlice 64 1 #[(0, Operand.tmp 10)], type := 64, pos := "l13_stable.go:8", after := #[{ on := 2, ground := Ground.data }], guard := none }) rfl (fun K hK => ?_) AllReadyH.nil)
          go_simp
          refine hK.out _ _ hSA (fun hHeldB => ?_)
          clear hK K hHeldB
          (try simp only [Act.put, List.setIfInBounds_toArray, List.set_cons_zero, List.set_cons_succ])
          refine wpAnyH_ready (rs := [4]) (by kernel_rfl) (by simp) ?_
          refine (AllReadyH.cons (o := { dst := some 12, op := Op.call { callee := Callee.builtin Builtin.append, args := #[Operand.tmp 9, Operand.tmp 11], argTypes := #[64, 64] }, type := 64, pos := "l13_stable.go:8", after := #[{ on := 1, ground := Ground.data }, { on := 3, ground := Ground.data }, { on := 2, ground := Ground.chain }], guard := none }) rfl (fun K hK => ?_) AllReadyH.nil)
          rw [if_pos (by rfl)]
          refine opwpR _ _ _ rfl _ _ rfl rfl hrun ?_
          refine hK.out _ _ hS3 (fun hHeldA => ?_)
          clear hK K hHeldA
          (try simp only [Act.put, List.setIfInBounds_toArray, List.set_cons_zero, List.set_cons_succ])
          refine wpAnyH_take (i := 5) (oi := { dst := some 13, op := Op.fieldAddr 66 (Operand.tmp 1) 0, type := 0, pos := "l13_stable.go:8", after := #[{ on := 0, ground := Ground.phase }, { on := 1, ground := Ground.phase }, { on := 2, ground := Ground.phase }, { on := 3, ground := Ground.phase }, { on := 4, ground := Ground.phase }], guard := none }) (v := ?_) rfl (by kernel_rfl) (by kernel_rfl) (by kernel_rfl) (fun _ _ _ h => h) (Or.inl ⟨by rfl, ?_⟩) (by assumption) ?_
          rotate_left
          · intro w hSw
            (try dsimp only at hSw)
            first | (go_simp; done) | (go_simp; with_reducible rfl)
          (try simp only [Act.put, List.setIfInBounds_toArray, List.set_cons_zero, List.set_cons_succ])
          refine wpAnyH_ready (rs := [6]) (by kernel_rfl) (by simp) ?_
          refine (AllReadyH.cons (o := { dst := none, op := Op.store 64 (Operand.tmp 13) (Operand.tmp 12), type := 0, pos := "l13_stable.go:8", after := #[{ on := 5, ground := Ground.data }, { on := 4, ground := Ground.data }, { on := 4, ground := Ground.chain }, { on := 0, ground := Ground.phase }, { on := 1, ground := Ground.phase }, { on := 2, ground := Ground.phase }, { on := 3, ground := Ground.phase }, { on := 4, ground := Ground.phase }], guard := none }) rfl (fun K hK => ?_) AllReadyH.nil)
          go_simp
          refine hK.out _ _ hS4 (fun hHeldS => ?_)
          clear hK K hHeldS
          (try simp only [Act.put, List.setIfInBounds_toArray, List.set_cons_zero, List.set_cons_succ])
          refine wpAnyH_done (by kernel_rfl) ?_ _
          refine hKR _ _ ?_
          generalize z3.setCell ⟨w.heap.size + 1, 0, none⟩ (.slice va (k + 1) vc) = z4 at HI4 HF4 ⊢
          go_wp2
          go_roundw
          case rel => exact ⟨k + 1, _, f', by omega, by go_num, HI4, HF4⟩
          case measure => simp [intOf]; omega
        ·
          go_simp
          refine hK.out _ _ hSA (fun hHeldB => ?_)
          clear hK K hHeldB
          (try simp only [Act.put, List.setIfInBounds_toArray, List.set_cons_zero, List.set_cons_succ])
          refine wpAnyH_ready (rs := [1]) (by kernel_rfl) (by simp) ?_
          refine (AllReadyH.cons (o := { dst := some 9, op := Op.load 64 (Operand.tmp 8), type := 64, pos := "l13_stable.go:8", after := #[{ on := 0, ground := Ground.data }], guard := none }) rfl (fun K hK => ?_) AllReadyH.nil)
          go_simp
          refine hK.out _ _ hSA (fun hHeldL => ?_)
          clear hK K hHeldL
          (try simp only [Act.put, List.setIfInBounds_toArray, List.set_cons_zero, List.set_cons_succ])
          refine wpAnyH_ready (rs := [4]) (by kernel_rfl) (by simp) ?_
          refine (AllReadyH.cons (o := { dst := some 12, op := Op.call { callee := Callee.builtin Builtin.append, args := #[Operand.tmp 9, Operand.tmp 11], argTypes := #[64, 64] }, type := 64, pos := "l13_stable.go:8", after := #[{ on := 1, ground := Ground.data }, { on := 3, ground := Ground.data }, { on := 2, ground := Ground.chain }], guard := none }) rfl (fun K hK => ?_) AllReadyH.nil)
          rw [if_pos (by rfl)]
          refine opwpR _ _ _ rfl _ _ rfl rfl hrun ?_
          refine hK.out _ _ hS3 (fun hHeldA => ?_)
          clear hK K hHeldA
          (try simp only [Act.put, List.setIfInBounds_toArray, List.set_cons_zero, List.set_cons_succ])
          refine wpAnyH_take (i := 5) (oi := { dst := some 13, op := Op.fieldAddr 66 (Operand.tmp 1) 0, type := 0, pos := "l13_stable.go:8", after := #[{ on := 0, ground := Ground.phase }, { on := 1, ground := Ground.phase }, { on := 2, ground := Ground.phase }, { on := 3, ground := Ground.phase }, { on := 4, ground := Ground.phase }], guard := none }) (v := ?_) rfl (by kernel_rfl) (by kernel_rfl) (by kernel_rfl) (fun _ _ _ h => h) (Or.inl ⟨by rfl, ?_⟩) (by assumption) ?_
          rotate_left
          · intro w hSw
            (try dsimp only at hSw)
            first | (go_simp; done) | (go_simp; with_reducible rfl)
          (try simp only [Act.put, List.setIfInBounds_toArray, List.set_cons_zero, List.set_cons_succ])
          refine wpAnyH_ready (rs := [6]) (by kernel_rfl) (by simp) ?_
          refine (AllReadyH.cons (o := { dst := none, op := Op.store 64 (Operand.tmp 13) (Operand.tmp 12), type := 0, pos := "l13_stable.go:8", after := #[{ on := 5, ground := Ground.data }, { on := 4, ground := Ground.data }, { on := 4, ground := Ground.chain }, { on := 0, ground := Ground.phase }, { on := 1, ground := Ground.phase }, { on := 2, ground := Ground.phase }, { on := 3, ground := Ground.phase }, { on := 4, ground := Ground.phase }], guard := none }) rfl (fun K hK => ?_) AllReadyH.nil)
          go_simp
          refine hK.out _ _ hS4 (fun hHeldS => ?_)
          clear hK K hHeldS
          (try simp only [Act.put, List.setIfInBounds_toArray, List.set_cons_zero, List.set_cons_succ])
          refine wpAnyH_done (by kernel_rfl) ?_ _
          refine hKR _ _ ?_
          generalize z3.setCell ⟨w.heap.size + 1, 0, none⟩ (.slice va (k + 1) vc) = z4 at HI4 HF4 ⊢
          go_wp2
          go_roundw
          case rel => exact ⟨k + 1, _, f', by omega, by go_num, HI4, HF4⟩
          case measure => simp [intOf]; omega
    · obtain rfl : k = 4 := by omega
      obtain ⟨g, c, rfl, hrows⟩ := HI.out.rows (by omega) (fun i hi => by rw [newAcks_row hi]; rfl)
      have HNt := Lib.hid hrows
      have n0 := one_cell HI.out.box
      have hR := (HF.out (w.heap.size) (by omega) (by omega)).trans TR.out
      have r0 := one_cell hR
      have q0 : wr.frozen? ⟨w.heap.size, 0, none⟩ = false := frozen_of_row _ _ _ _ _ hR
      have d0 : (wr.setCell ⟨w.heap.size, 0, none⟩ (.slice (some ⟨g, 0, none⟩) 4 c)).cell? ⟨w.heap.size, 0, none⟩ = some (.slice (some ⟨g, 0, none⟩) 4 c) := cell_set1 _ hR
      have hsz4 : (wr.setCell ⟨w.heap.size, 0, none⟩ (.slice (some ⟨g, 0, none⟩) 4 c)).heap.size = wr.heap.size := by simp [World.setCell]
      have HN4 : Hid (RowsAt (wr.setCell ⟨w.heap.size, 0, none⟩ (.slice (some ⟨g, 0, none⟩) 4 c)) w.heap.size (wr.setCell ⟨w.heap.size, 0, none⟩ (.slice (some ⟨g, 0, none⟩) 4 c)).heap.size g 4 f (rowOf newAcks)) := by rw [hsz4]; exact (HNt.out.kept fun j h1 h2 => heap_setCell_other _ _ _ _ (by show j ≠ w.heap.size; omega)).more (by omega) (Nat.le_refl _)
      have HB4 : Hid (Below w.heap.size w (wr.setCell ⟨w.heap.size, 0, none⟩ (.slice (some ⟨g, 0, none⟩) 4 c))) := HI.out.bel.setCell (by show _ ≤ w.heap.size; omega) _
      have HD := Lib.hid d0
      clear hR hrows d0 hsz4
      go_wp2
      have d0 := HD.out
      generalize (wr.setCell ⟨w.heap.size, 0, none⟩ (.slice (some ⟨g, 0, none⟩) 4 c)) = wf at d0 HN4 HB4 ⊢
      exact bodyPost_ret (v := .agg #[.slice (some ⟨g, 0, none⟩) 4 c]) (by simp [results, Try.results69, go_sem, d0]) rfl ⟨g, c, rfl, ⟨f, HN4.out⟩, HB4.out⟩
end Go.Proofs.Ytmceofdknphgkaa
