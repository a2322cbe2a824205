/- The walk of impl.precedesNext. -/
import Derived.Test.YtjdodonhhlppjaaSortW
import Derived.Deep.Cut
namespace Go.Proofs.Ytjdodonhhlppjaa
open Go.RowKit

def befV (a b : OpV) : Bool := befB a.dev a.seq a.stamp a.kind a.item a.qty a.level a.undos b.dev b.seq b.stamp b.kind b.item b.qty b.level b.undos
/-- Does the list's first operation, if there is one, not precede x? -/
def headOk (L : List OpV) (x : OpV) : Bool := decide (L.length = 0) || !(befV (atOp L 0) x)
def precB (R : Nat → List OpV) (x : OpV) : Bool := (List.range 4).all fun e => headOk (R e) x
theorem prec_no {R : Nat → List OpV} {x : OpV} {e : Nat} (he : e < 4) (h : headOk (R e) x = false) : precB R x = false := by
  unfold precB
  rw [List.all_eq_false]
  exact ⟨e, by simpa using he, by simp [h]⟩
theorem prec_yes {R : Nat → List OpV} {x : OpV} (h : ∀ e, e < 4 → headOk (R e) x = true) : precB R x = true := by
  unfold precB
  rw [List.all_eq_true]
  intro e he
  exact h e (by simpa using he)
theorem headOk_nil {L : List OpV} {x : OpV} (h : L.length = 0) : headOk L x = true := by unfold headOk; rw [decide_eq_true h]; rfl
theorem headOk_at {L : List OpV} {x : OpV} (h : 0 < L.length) : headOk L x = !(befV (atOp L 0) x) := by unfold headOk; rw [decide_eq_false (by omega)]; rfl

set_option linter.unusedSimpArgs false in
set_option maxRecDepth 100000 in
set_option maxHeartbeats 16000000 in
theorem precedesNext (w : World) (B : Nat) (A : Nat → Option Addr) (N C : Nat → Nat) (R : Nat → List OpV) (x : OpV) (h : ∀ e, e < 4 → Ops w B (A e) (N e) (R e)) (hB : B ≤ w.heap.size) (hn : ∀ e, e < 4 → N e ≤ 1048576) :
    Calls Try.prog 50 #[.agg #[.int .i64 x.dev, .int .i64 x.seq, .int .i64 x.stamp, .int .i64 x.kind, .string x.item, .int .i64 x.qty, .int .i64 x.level, .int .i64 x.undos], .agg #[.slice (A 0) (N 0) (C 0), .slice (A 1) (N 1) (C 1), .slice (A 2) (N 2) (C 2), .slice (A 3) (N 3) (C 3)]] w fun e w' => e = .returned (.bool (precB R x)) ∧ Below w.heap.size w w' := by
  have hb0 : Below w.heap.size w ((w.alloc (.cells #[.int .i64 x.dev, .int .i64 x.seq, .int .i64 x.stamp, .int .i64 x.kind, .string x.item, .int .i64 x.qty, .int .i64 x.level, .int .i64 x.undos] 69)).alloc (.cells #[.slice (A 0) (N 0) (C 0), .slice (A 1) (N 1) (C 1), .slice (A 2) (N 2) (C 2), .slice (A 3) (N 3) (C 3)] 65)) := ((Below.refl _ w).alloc (Nat.le_refl _) _).alloc (by simp) _
  have HX : Hid (((w.alloc (.cells #[.int .i64 x.dev, .int .i64 x.seq, .int .i64 x.stamp, .int .i64 x.kind, .string x.item, .int .i64 x.qty, .int .i64 x.level, .int .i64 x.undos] 69)).alloc (.cells #[.slice (A 0) (N 0) (C 0), .slice (A 1) (N 1) (C 1), .slice (A 2) (N 2) (C 2), .slice (A 3) (N 3) (C 3)] 65)).heap[w.heap.size]? = some (.cells #[.int .i64 x.dev, .int .i64 x.seq, .int .i64 x.stamp, .int .i64 x.kind, .string x.item, .int .i64 x.qty, .int .i64 x.level, .int .i64 x.undos] 69 (0, 0))) := Lib.hid ((Below.heap_alloc _ _ _ (by simp)).trans (heap_alloc_new w _))
  have HR : Hid (((w.alloc (.cells #[.int .i64 x.dev, .int .i64 x.seq, .int .i64 x.stamp, .int .i64 x.kind, .string x.item, .int .i64 x.qty, .int .i64 x.level, .int .i64 x.undos] 69)).alloc (.cells #[.slice (A 0) (N 0) (C 0), .slice (A 1) (N 1) (C 1), .slice (A 2) (N 2) (C 2), .slice (A 3) (N 3) (C 3)] 65)).heap[w.heap.size + 1]? = some (.cells #[.slice (A 0) (N 0) (C 0), .slice (A 1) (N 1) (C 1), .slice (A 2) (N 2) (C 2), .slice (A 3) (N 3) (C 3)] 65 (0, 0))) := Lib.hid (by
    have e1 : (w.alloc (.cells #[.int .i64 x.dev, .int .i64 x.seq, .int .i64 x.stamp, .int .i64 x.kind, .string x.item, .int .i64 x.qty, .int .i64 x.level, .int .i64 x.undos] 69)).heap.size = w.heap.size + 1 := by simp
    rw [← e1]
    exact heap_alloc_new _ _)
  have HO := Lib.hid (fun e (he : e < 4) => (h e he).below hb0 hB)
  have HB := Lib.hid hb0
  have HN := Lib.hid hn
  clear h hb0 hn
  go_enter Try.func50, Try.ntmps50
  go_wp2_with fail
  generalize (w.alloc (.cells #[.int .i64 x.dev, .int .i64 x.seq, .int .i64 x.stamp, .int .i64 x.kind, .string x.item, .int .i64 x.qty, .int .i64 x.level, .int .i64 x.undos] 69)).alloc (.cells #[.slice (A 0) (N 0) (C 0), .slice (A 1) (N 1) (C 1), .slice (A 2) (N 2) (C 2), .slice (A 3) (N 3) (C 3)] 65) = w0 at HX HR HO HB ⊢
  have hlt1 := (Array.getElem?_eq_some_iff.1 HR.out).1
  have r0 := cell_of_row _ _ 0 _ _ _ HR.out
  have r1 := cell_of_row _ _ 1 _ _ _ HR.out
  have r2 := cell_of_row _ _ 2 _ _ _ HR.out
  have r3 := cell_of_row _ _ 3 _ _ _ HR.out
  simp only [List.getElem?_toArray, List.getElem?_cons_zero, List.getElem?_cons_succ] at r0 r1 r2 r3
  go_wp2
  have ix0 : ∀ (a0 a1 a2 a3 : Option Addr) (w : World), (Instr.index 65 (.agg #[.slice a0 (N 0) (C 0), .slice a1 (N 1) (C 1), .slice a2 (N 2) (C 2), .slice a3 (N 3) (C 3)]) (.int .i64 0)).run Try.prog w = .ok (.slice a0 (N 0) (C 0)) w := fun _ _ _ _ _ => by kernel_rfl
  have ix1 : ∀ (a0 a1 a2 a3 : Option Addr) (w : World), (Instr.index 65 (.agg #[.slice a0 (N 0) (C 0), .slice a1 (N 1) (C 1), .slice a2 (N 2) (C 2), .slice a3 (N 3) (C 3)]) (.int .i64 1)).run Try.prog w = .ok (.slice a1 (N 1) (C 1)) w := fun _ _ _ _ _ => by kernel_rfl
  have ix2 : ∀ (a0 a1 a2 a3 : Option Addr) (w : World), (Instr.index 65 (.agg #[.slice a0 (N 0) (C 0), .slice a1 (N 1) (C 1), .slice a2 (N 2) (C 2), .slice a3 (N 3) (C 3)]) (.int .i64 2)).run Try.prog w = .ok (.slice a2 (N 2) (C 2)) w := fun _ _ _ _ _ => by kernel_rfl
  have ix3 : ∀ (a0 a1 a2 a3 : Option Addr) (w : World), (Instr.index 65 (.agg #[.slice a0 (N 0) (C 0), .slice a1 (N 1) (C 1), .slice a2 (N 2) (C 2), .slice a3 (N 3) (C 3)]) (.int .i64 3)).run Try.prog w = .ok (.slice a3 (N 3) (C 3)) w := fun _ _ _ _ _ => by kernel_rfl
  go_loopw [8] (fun i wr => ∃ k : Nat, k ≤ 4 ∧ i = .int .i64 (k : Int) ∧ Hid (∀ e, e < k → headOk (R e) x = true) ∧ Hid (Below w0.heap.size w0 wr)) (fun i _ => 4 - (intOf i).toNat)
  case atStart => exact ⟨0, by omega, rfl, fun e he => absurd he (by omega), Below.refl _ _⟩
  case round =>
    obtain ⟨k, hk, rfl, HK, HBr⟩ := hrel
    clear r0 r1 r2 r3
    have hsr := HBr.out.size
    have hs0 := HB.out.size
    by_cases hlt : k < 4
    rotate_left
    · obtain rfl : k = 4 := by omega
      have HF := Lib.hid (prec_yes (R := R) (x := x) HK.out)
      go_wp2
      go_ret
      exact ⟨by rw [HF.out]; rfl, HB.out.trans (HBr.out.mono HB.out.size)⟩
    obtain ⟨e0, e1, e2, e3, e4, e5, e6, e7⟩ := op_cells ((HBr.out.block _ (by omega)).trans HX.out)
    obtain rfl | rfl | rfl | rfl : k = 0 ∨ k = 1 ∨ k = 2 ∨ k = 3 := by omega
    · have HOe := Lib.hid (HO.out 0 (by omega))
      have HNe := Lib.hid (HN.out 0 (by omega))
      have HNo := Lib.hid (fun h => prec_no (R := R) (x := x) (e := 0) (by omega) h)
      have hLe : (R 0).length = N 0 := HOe.out.1
      have HLe := Lib.hid hLe
      clear hLe
      have HS1 : Hid (headOk (R 0) x = true → ∀ e, e < 1 → headOk (R e) x = true) := fun h e he => by
        rcases Nat.lt_or_ge e 0 with h1 | h1
        · exact HK.out e h1
        · obtain rfl : e = 0 := by omega
          exact h
      by_cases hz : N 0 = 0
      · have HK2 := Lib.hid (HS1.out (headOk_nil (by rw [HLe.out]; exact hz)))
        have hzi : decide (0 < N 0) = false := decide_eq_false (by omega)
        have hS : wr.drew.cell? ⟨w.heap.size, 0, none⟩ = some (.int .i64 x.dev) ∧ wr.drew.cell? ⟨w.heap.size, 1, none⟩ = some (.int .i64 x.seq) ∧ wr.drew.cell? ⟨w.heap.size, 2, none⟩ = some (.int .i64 x.stamp) ∧ wr.drew.cell? ⟨w.heap.size, 3, none⟩ = some (.int .i64 x.kind) ∧ wr.drew.cell? ⟨w.heap.size, 4, none⟩ = some (.string x.item) ∧ wr.drew.cell? ⟨w.heap.size, 5, none⟩ = some (.int .i64 x.qty) ∧ wr.drew.cell? ⟨w.heap.size, 6, none⟩ = some (.int .i64 x.level) ∧ wr.drew.cell? ⟨w.heap.size, 7, none⟩ = some (.int .i64 x.undos) := ⟨e0, e1, e2, e3, e4, e5, e6, e7⟩
        clear hz
        go_wp2_with fail
        refine wp_region_held_drew (S := fun w' => w'.cell? ⟨w.heap.size, 0, none⟩ = some (.int .i64 x.dev) ∧ w'.cell? ⟨w.heap.size, 1, none⟩ = some (.int .i64 x.seq) ∧ w'.cell? ⟨w.heap.size, 2, none⟩ = some (.int .i64 x.stamp) ∧ w'.cell? ⟨w.heap.size, 3, none⟩ = some (.int .i64 x.kind) ∧ w'.cell? ⟨w.heap.size, 4, none⟩ = some (.string x.item) ∧ w'.cell? ⟨w.heap.size, 5, none⟩ = some (.int .i64 x.qty) ∧ w'.cell? ⟨w.heap.size, 6, none⟩ = some (.int .i64 x.level) ∧ w'.cell? ⟨w.heap.size, 7, none⟩ = some (.int .i64 x.undos)) (by kernel_rfl) hS (fun hHeld => ?_)
        refine wpAnyH_take (i := 0) (oi := { dst := some 11, op := Op.move (Operand.tmp 6), type := 27, pos := "l08_pages.go:12", after := #[], guard := none }) (v := ?_) rfl (by kernel_rfl) (by kernel_rfl) (by kernel_rfl) (fun _ _ _ h => h) (Or.inl ⟨by rfl, ?_⟩) (by assumption) ?_
        rotate_left
        · intro w hSw
          (try dsimp only at hSw)
          first | (go_simp; done) | (go_simp; with_reducible rfl)
        (try simp only [Act.put, List.setIfInBounds_toArray, List.set_cons_zero, List.set_cons_succ])
        refine wpAnyH_take (i := 1) (oi := { dst := some 12, op := Op.call { callee := Callee.builtin Builtin.len, args := #[Operand.tmp 11], argTypes := #[27] }, type := 3, pos := "l08_pages.go:12", after := #[{ on := 0, ground := Ground.data }], guard := none }) (v := ?_) rfl (by kernel_rfl) (by kernel_rfl) (by kernel_rfl) (fun _ _ _ h => h) (Or.inl ⟨by rfl, ?_⟩) (by assumption) ?_
        rotate_left
        · intro w hSw
          (try dsimp only at hSw)
          first | (go_simp; done) | (go_simp; with_reducible rfl)
        (try simp only [Act.put, List.setIfInBounds_toArray, List.set_cons_zero, List.set_cons_succ])
        refine wpAnyH_take (i := 2) (oi := { dst := some 13, op := Op.binOp BinOp.gtr 3 (Operand.tmp 12) (Operand.const (Value.int IntKind.i64 0)) 3, type := 4, pos := "l08_pages.go:12", after := #[{ on := 1, ground := Ground.data }], guard := none }) (v := ?_) rfl (by kernel_rfl) (by kernel_rfl) (by kernel_rfl) (fun _ _ _ h => h) (Or.inl ⟨by rfl, ?_⟩) (by assumption) ?_
        rotate_left
        · intro w hSw
          (try dsimp only at hSw)
          first | (go_simp; done) | (go_simp; with_reducible rfl)
        (try simp only [Act.put, List.setIfInBounds_toArray, List.set_cons_zero, List.set_cons_succ])
        refine wpAnyH_take (i := 3) (oi := { dst := some 14, op := Op.move (Operand.tmp 13), type := 4, pos := "l08_pages.go:12", after := #[{ on := 2, ground := Ground.data }], guard := none }) (v := ?_) rfl (by kernel_rfl) (by kernel_rfl) (by kernel_rfl) (fun _ _ _ h => h) (Or.inl ⟨by rfl, ?_⟩) (by assumption) ?_
        rotate_left
        · intro w hSw
          (try dsimp only at hSw)
          first | (go_simp; done) | (go_simp; with_reducible rfl)
        (try simp only [Act.put, List.setIfInBounds_toArray, List.set_cons_zero, List.set_cons_succ])
        refine wpAnyH_take (i := 4) (oi := { dst := some 15, op := Op.move (Operand.tmp 6), type := 27, pos := "l08_pages.go:12", after := #[{ on := 3, ground := Ground.guard }], guard := some (3, true) }) (v := undef) rfl (by kernel_rfl) (by kernel_rfl) (by kernel_rfl) (fun _ _ _ h => h) (Or.inr ⟨by rfl, rfl⟩) (by assumption) ?_
        (try simp only [Act.put, List.setIfInBounds_toArray, List.set_cons_zero, List.set_cons_succ])
        refine wpAnyH_take (i := 5) (oi := { dst := some 16, op := Op.indexAddr 27 (Operand.tmp 15) (Operand.const (Value.int IntKind.i64 0)), type := 0, pos := "l08_pages.go:12", after := #[{ on := 4, ground := Ground.data }, { on := 3, ground := Ground.guard }], guard := some (3, true) }) (v := undef) rfl (by kernel_rfl) (by kernel_rfl) (by kernel_rfl) (fun _ _ _ h => h) (Or.inr ⟨by rfl, rfl⟩) (by assumption) ?_
        (try simp only [Act.put, List.setIfInBounds_toArray, List.set_cons_zero, List.set_cons_succ])
        refine wpAnyH_take (i := 6) (oi := { dst := some 17, op := Op.load 69 (Operand.tmp 16), type := 69, pos := "l08_pages.go:12", after := #[{ on := 5, ground := Ground.data }, { on := 3, ground := Ground.guard }], guard := some (3, true) }) (v := undef) rfl (by kernel_rfl) (by kernel_rfl) (by kernel_rfl) (fun _ _ _ h => h) (Or.inr ⟨by rfl, rfl⟩) (by assumption) ?_
        (try simp only [Act.put, List.setIfInBounds_toArray, List.set_cons_zero, List.set_cons_succ])
        refine wpAnyH_take (i := 7) (oi := { dst := some 18, op := Op.load 69 (Operand.tmp 2), type := 69, pos := "l08_pages.go:12", after := #[{ on := 3, ground := Ground.guard }], guard := some (3, true) }) (v := undef) rfl (by kernel_rfl) (by kernel_rfl) (by kernel_rfl) (fun _ _ _ h => h) (Or.inr ⟨by rfl, rfl⟩) (by assumption) ?_
        (try simp only [Act.put, List.setIfInBounds_toArray, List.set_cons_zero, List.set_cons_succ])
        refine wpAnyH_take (i := 8) (oi := { dst := some 19, op := Op.call { callee := Callee.value (Operand.func 100), args := #[Operand.tmp 17, Operand.tmp 18], argTypes := #[69, 69] }, type := 4, pos := "l08_pages.go:12", after := #[{ on := 6, ground := Ground.data }, { on := 7, ground := Ground.data }, { on := 3, ground := Ground.chain }, { on := 3, ground := Ground.guard }], guard := some (3, true) }) (v := undef) rfl (by kernel_rfl) (by kernel_rfl) (by kernel_rfl) (fun _ _ _ h => h) (Or.inr ⟨by rfl, rfl⟩) (by assumption) ?_
        (try simp only [Act.put, List.setIfInBounds_toArray, List.set_cons_zero, List.set_cons_succ])
        refine wpAnyH_take (i := 9) (oi := { dst := some 20, op := Op.pick (Operand.tmp 14) (Operand.tmp 19) (Operand.const (Value.bool false)), type := 4, pos := "l08_pages.go:12", after := #[{ on := 3, ground := Ground.data }, { on := 8, ground := Ground.data }], guard := none }) (v := ?_) rfl (by kernel_rfl) (by kernel_rfl) (by kernel_rfl) (fun _ _ _ h => h) (Or.inl ⟨by rfl, ?_⟩) (by assumption) ?_
        rotate_left
        · intro w hSw
          (try dsimp only at hSw)
          first | (go_simp; done) | (go_simp; with_reducible rfl)
        (try simp only [Act.put, List.setIfInBounds_toArray, List.set_cons_zero, List.set_cons_succ])
        refine wpAnyH_done (by kernel_rfl) ?_ _
        have HBd : Hid (Below w0.heap.size w0 wr.drew) := ⟨HBr.out.os, HBr.out.tape, HBr.out.output, HBr.out.size, HBr.out.block⟩
        clear hS hHeld e0 e1 e2 e3 e4 e5 e6 e7
        go_wp2
        go_roundw
        case rel => exact ⟨1, by omega, by go_num, HK2, HBd⟩
        case measure => simp [intOf]
      have hzi : 0 < N 0 := by omega
      have hzi2 : (0 : Int) < (N 0 : Int) := by omega
      obtain ⟨b, off, hA, hb, ho⟩ := HOe.out.2 0 hzi
      have HOk : Hid (OpAt w0 b off (atOp (R 0) 0)) := by have := ho; rw [Nat.zero_mul, Nat.add_zero] at this; exact this
      clear ho hz
      have HHd := Lib.hid (headOk_at (L := R 0) (x := x) (by rw [HLe.out]; exact hzi))
      have HBv : Hid (befV (atOp (R 0) 0) x = befB (atOp (R 0) 0).dev (atOp (R 0) 0).seq (atOp (R 0) 0).stamp (atOp (R 0) 0).kind (atOp (R 0) 0).item (atOp (R 0) 0).qty (atOp (R 0) 0).level (atOp (R 0) 0).undos x.dev x.seq x.stamp x.kind x.item x.qty x.level x.undos) := rfl
      generalize atOp (R 0) 0 = y at HOk HHd HBv
      obtain ⟨d0, d1, d2, d3, d4, d5, d6, d7⟩ := HOk.out.kept (HBr.out.block b (by omega))
      have hS : wr.drew.cell? ⟨w.heap.size, 0, none⟩ = some (.int .i64 x.dev) ∧ wr.drew.cell? ⟨w.heap.size, 1, none⟩ = some (.int .i64 x.seq) ∧ wr.drew.cell? ⟨w.heap.size, 2, none⟩ = some (.int .i64 x.stamp) ∧ wr.drew.cell? ⟨w.heap.size, 3, none⟩ = some (.int .i64 x.kind) ∧ wr.drew.cell? ⟨w.heap.size, 4, none⟩ = some (.string x.item) ∧ wr.drew.cell? ⟨w.heap.size, 5, none⟩ = some (.int .i64 x.qty) ∧ wr.drew.cell? ⟨w.heap.size, 6, none⟩ = some (.int .i64 x.level) ∧ wr.drew.cell? ⟨w.heap.size, 7, none⟩ = some (.int .i64 x.undos) ∧ wr.drew.cell? ⟨b, off, none⟩ = some (.int .i64 y.dev) ∧ wr.drew.cell? ⟨b, off + 1, none⟩ = some (.int .i64 y.seq) ∧ wr.drew.cell? ⟨b, off + 2, none⟩ = some (.int .i64 y.stamp) ∧ wr.drew.cell? ⟨b, off + 3, none⟩ = some (.int .i64 y.kind) ∧ wr.drew.cell? ⟨b, off + 4, none⟩ = some (.string y.item) ∧ wr.drew.cell? ⟨b, off + 5, none⟩ = some (.int .i64 y.qty) ∧ wr.drew.cell? ⟨b, off + 6, none⟩ = some (.int .i64 y.level) ∧ wr.drew.cell? ⟨b, off + 7, none⟩ = some (.int .i64 y.undos) := ⟨e0, e1, e2, e3, e4, e5, e6, e7, d0, d1, d2, d3, d4, d5, d6, d7⟩
      go_wp2_with fail
      refine wp_region_held_drew (S := fun w' => w'.cell? ⟨w.heap.size, 0, none⟩ = some (.int .i64 x.dev) ∧ w'.cell? ⟨w.heap.size, 1, none⟩ = some (.int .i64 x.seq) ∧ w'.cell? ⟨w.heap.size, 2, none⟩ = some (.int .i64 x.stamp) ∧ w'.cell? ⟨w.heap.size, 3, none⟩ = some (.int .i64 x.kind) ∧ w'.cell? ⟨w.heap.size, 4, none⟩ = some (.string x.item) ∧ w'.cell? ⟨w.heap.size, 5, none⟩ = some (.int .i64 x.qty) ∧ w'.cell? ⟨w.heap.size, 6, none⟩ = some (.int .i64 x.level) ∧ w'.cell? ⟨w.heap.size, 7, none⟩ = some (.int .i64 x.undos) ∧ w'.cell? ⟨b, off, none⟩ = some (.int .i64 y.dev) ∧ w'.cell? ⟨b, off + 1, none⟩ = some (.int .i64 y.seq) ∧ w'.cell? ⟨b, off + 2, none⟩ = some (.int .i64 y.stamp) ∧ w'.cell? ⟨b, off + 3, none⟩ = some (.int .i64 y.kind) ∧ w'.cell? ⟨b, off + 4, none⟩ = some (.string y.item) ∧ w'.cell? ⟨b, off + 5, none⟩ = some (.int .i64 y.qty) ∧ w'.cell? ⟨b, off + 6, none⟩ = some (.int .i64 y.level) ∧ w'.cell? ⟨b, off + 7, none⟩ = some (.int .i64 y.undos)) (by kernel_rfl) hS (fun hHeld => ?_)
      refine wpAnyH_take (i := 0) (oi := { dst := some 11, op := Op.move (Operand.tmp 6), type := 27, pos := "l08_pages.go:12", after := #[], guard := none }) (v := ?_) rfl (by kernel_rfl) (by kernel_rfl) (by kernel_rfl) (fun _ _ _ h => h) (Or.inl ⟨by rfl, ?_⟩) (by assumption) ?_
      rotate_left
      · intro w hSw
        (try dsimp only at hSw)
        first | (go_simp; done) | (go_simp; with_reducible rfl)
      (try simp only [Act.put, List.setIfInBounds_toArray, List.set_cons_zero, List.set_cons_succ])
      refine wpAnyH_take (i := 1) (oi := { dst := some 12, op := Op.call { callee := Callee.builtin Builtin.len, args := #[Operand.tmp 11], argTypes := #[27] }, type := 3, pos := "l08_pages.go:12", after := #[{ on := 0, ground := Ground.data }], guard := none }) (v := ?_) rfl (by kernel_rfl) (by kernel_rfl) (by kernel_rfl) (fun _ _ _ h => h) (Or.inl ⟨by rfl, ?_⟩) (by assumption) ?_
      rotate_left
      · intro w hSw
        (try dsimp only at hSw)
        first | (go_simp; done) | (go_simp; with_reducible rfl)
      (try simp only [Act.put, List.setIfInBounds_toArray, List.set_cons_zero, List.set_cons_succ])
      refine wpAnyH_take (i := 2) (oi := { dst := some 13, op := Op.binOp BinOp.gtr 3 (Operand.tmp 12) (Operand.const (Value.int IntKind.i64 0)) 3, type := 4, pos := "l08_pages.go:12", after := #[{ on := 1, ground := Ground.data }], guard := none }) (v := ?_) rfl (by kernel_rfl) (by kernel_rfl) (by kernel_rfl) (fun _ _ _ h => h) (Or.inl ⟨by rfl, ?_⟩) (by assumption) ?_
      rotate_left
      · intro w hSw
        (try dsimp only at hSw)
        first | (go_simp; done) | (go_simp; with_reducible rfl)
      (try simp only [Act.put, List.setIfInBounds_toArray, List.set_cons_zero, List.set_cons_succ])
      refine wpAnyH_take (i := 3) (oi := { dst := some 14, op := Op.move (Operand.tmp 13), type := 4, pos := "l08_pages.go:12", after := #[{ on := 2, ground := Ground.data }], guard := none }) (v := ?_) rfl (by kernel_rfl) (by kernel_rfl) (by kernel_rfl) (fun _ _ _ h => h) (Or.inl ⟨by rfl, ?_⟩) (by assumption) ?_
      rotate_left
      · intro w hSw
        (try dsimp only at hSw)
        first | (go_simp; done) | (go_simp; with_reducible rfl)
      (try simp only [Act.put, List.setIfInBounds_toArray, List.set_cons_zero, List.set_cons_succ])
      refine wpAnyH_take (i := 4) (oi := { dst := some 15, op := Op.move (Operand.tmp 6), type := 27, pos := "l08_pages.go:12", after := #[{ on := 3, ground := Ground.guard }], guard := some (3, true) }) (v := ?_) rfl (by kernel_rfl) (by kernel_rfl) (by kernel_rfl) (fun _ _ _ h => h) (Or.inl ⟨by rfl, ?_⟩) (by assumption) ?_
      rotate_left
      · intro w hSw
        (try dsimp only at hSw)
        first | (go_simp; done) | (go_simp; with_reducible rfl)
      (try simp only [Act.put, List.setIfInBounds_toArray, List.set_cons_zero, List.set_cons_succ])
      refine wpAnyH_take (i := 5) (oi := { dst := some 16, op := Op.indexAddr 27 (Operand.tmp 15) (Operand.const (Value.int IntKind.i64 0)), type := 0, pos := "l08_pages.go:12", after := #[{ on := 4, ground := Ground.data }, { on := 3, ground := Ground.guard }], guard := some (3, true) }) (v := ?_) rfl (by kernel_rfl) (by kernel_rfl) (by kernel_rfl) (fun _ _ _ h => h) (Or.inl ⟨by rfl, ?_⟩) (by assumption) ?_
      rotate_left
      · intro w hSw
        (try dsimp only at hSw)
        first | (go_simp; done) | (go_simp; with_reducible rfl)
      (try simp only [Act.put, List.setIfInBounds_toArray, List.set_cons_zero, List.set_cons_succ])
      refine wpAnyH_take (i := 6) (oi := { dst := some 17, op := Op.load 69 (Operand.tmp 16), type := 69, pos := "l08_pages.go:12", after := #[{ on := 5, ground := Ground.data }, { on := 3, ground := Ground.guard }], guard := some (3, true) }) (v := ?_) rfl (by kernel_rfl) (by kernel_rfl) (by kernel_rfl) (fun _ _ _ h => h) (Or.inl ⟨by rfl, ?_⟩) (by assumption) ?_
      rotate_left
      · intro w hSw
        (try dsimp only at hSw)
        first | (go_simp; done) | (go_simp; with_reducible rfl)
      (try simp only [Act.put, List.setIfInBounds_toArray, List.set_cons_zero, List.set_cons_succ])
      refine wpAnyH_take (i := 7) (oi := { dst := some 18, op := Op.load 69 (Operand.tmp 2), type := 69, pos := "l08_pages.go:12", after := #[{ on := 3, ground := Ground.guard }], guard := some (3, true) }) (v := ?_) rfl (by kernel_rfl) (by kernel_rfl) (by kernel_rfl) (fun _ _ _ h => h) (Or.inl ⟨by rfl, ?_⟩) (by assumption) ?_
      rotate_left
      · intro w hSw
        (try dsimp only at hSw)
        first | (go_simp; done) | (go_simp; with_reducible rfl)
      (try simp only [Act.put, List.setIfInBounds_toArray, List.set_cons_zero, List.set_cons_succ])
      refine wpAnyH_ready (rs := [8]) (by kernel_rfl) (by simp) ?_
      refine AllReadyH.cons (o := { dst := some 19, op := Op.call { callee := Callee.value (Operand.func 100), args := #[Operand.tmp 17, Operand.tmp 18], argTypes := #[69, 69] }, type := 4, pos := "l08_pages.go:12", after := #[{ on := 6, ground := Ground.data }, { on := 7, ground := Ground.data }, { on := 3, ground := Ground.chain }, { on := 3, ground := Ground.guard }], guard := some (3, true) }) rfl (fun K hK => ?_) AllReadyH.nil
      go_simp
      go_at_call 100
      refine (implBefore y.dev y.seq y.stamp y.kind y.item y.qty y.level y.undos x.dev x.seq x.stamp x.kind x.item x.qty x.level x.undos _).mono ?_
      rintro e z1 ⟨rfl, hbz1⟩
      rw [← HBv.out]
      have hS1 : z1.cell? ⟨w.heap.size, 0, none⟩ = some (.int .i64 x.dev) ∧ z1.cell? ⟨w.heap.size, 1, none⟩ = some (.int .i64 x.seq) ∧ z1.cell? ⟨w.heap.size, 2, none⟩ = some (.int .i64 x.stamp) ∧ z1.cell? ⟨w.heap.size, 3, none⟩ = some (.int .i64 x.kind) ∧ z1.cell? ⟨w.heap.size, 4, none⟩ = some (.string x.item) ∧ z1.cell? ⟨w.heap.size, 5, none⟩ = some (.int .i64 x.qty) ∧ z1.cell? ⟨w.heap.size, 6, none⟩ = some (.int .i64 x.level) ∧ z1.cell? ⟨w.heap.size, 7, none⟩ = some (.int .i64 x.undos) ∧ z1.cell? ⟨b, off, none⟩ = some (.int .i64 y.dev) ∧ z1.cell? ⟨b, off + 1, none⟩ = some (.int .i64 y.seq) ∧ z1.cell? ⟨b, off + 2, none⟩ = some (.int .i64 y.stamp) ∧ z1.cell? ⟨b, off + 3, none⟩ = some (.int .i64 y.kind) ∧ z1.cell? ⟨b, off + 4, none⟩ = some (.string y.item) ∧ z1.cell? ⟨b, off + 5, none⟩ = some (.int .i64 y.qty) ∧ z1.cell? ⟨b, off + 6, none⟩ = some (.int .i64 y.level) ∧ z1.cell? ⟨b, off + 7, none⟩ = some (.int .i64 y.undos) := by
        obtain ⟨q0, q1, q2, q3, q4, q5, q6, q7, q8, q9, q10, q11, q12, q13, q14, q15⟩ := hS
        exact ⟨(hbz1.cell (block_lt_of_cell q0)).trans q0, (hbz1.cell (block_lt_of_cell q1)).trans q1, (hbz1.cell (block_lt_of_cell q2)).trans q2, (hbz1.cell (block_lt_of_cell q3)).trans q3, (hbz1.cell (block_lt_of_cell q4)).trans q4, (hbz1.cell (block_lt_of_cell q5)).trans q5, (hbz1.cell (block_lt_of_cell q6)).trans q6, (hbz1.cell (block_lt_of_cell q7)).trans q7, (hbz1.cell (block_lt_of_cell q8)).trans q8, (hbz1.cell (block_lt_of_cell q9)).trans q9, (hbz1.cell (block_lt_of_cell q10)).trans q10, (hbz1.cell (block_lt_of_cell q11)).trans q11, (hbz1.cell (block_lt_of_cell q12)).trans q12, (hbz1.cell (block_lt_of_cell q13)).trans q13, (hbz1.cell (block_lt_of_cell q14)).trans q14, (hbz1.cell (block_lt_of_cell q15)).trans q15⟩
      refine hK.out _ _ hS1 (fun hHeld2 => ?_)
      clear hK K
      (try simp only [Act.put, List.setIfInBounds_toArray, List.set_cons_zero, List.set_cons_succ])
      refine wpAnyH_take (i := 9) (oi := { dst := some 20, op := Op.pick (Operand.tmp 14) (Operand.tmp 19) (Operand.const (Value.bool false)), type := 4, pos := "l08_pages.go:12", after := #[{ on := 3, ground := Ground.data }, { on := 8, ground := Ground.data }], guard := none }) (v := ?_) rfl (by kernel_rfl) (by kernel_rfl) (by kernel_rfl) (fun _ _ _ h => h) (Or.inl ⟨by rfl, ?_⟩) (by assumption) ?_
      rotate_left
      · intro w hSw
        (try dsimp only at hSw)
        first | (go_simp; done) | (go_simp; with_reducible rfl)
      (try simp only [Act.put, List.setIfInBounds_toArray, List.set_cons_zero, List.set_cons_succ])
      refine wpAnyH_done (by kernel_rfl) ?_ _
      have hc1 : Below wr.heap.size wr z1 := Below.mk hbz1.os hbz1.tape hbz1.output hbz1.size hbz1.block
      have HBz := Lib.hid (HBr.out.trans (hc1.mono HBr.out.size))
      clear hS hS1 hHeld hHeld2 hbz1 hc1 d0 d1 d2 d3 d4 d5 d6 d7 e0 e1 e2 e3 e4 e5 e6 e7
      rcases hbf : befV y x with _ | _
      · have HK2 := Lib.hid (HS1.out (by rw [HHd.out, hbf]; rfl))
        clear hbf
        go_wp2
        simp only [← hA]
        clear hA
        go_roundw
        case rel => exact ⟨1, by omega, by go_num, HK2, HBz⟩
        case measure => simp [intOf]
      · have HF := Lib.hid (HNo.out (by rw [HHd.out, hbf]; rfl))
        clear hbf
        go_wp2
        go_ret
        exact ⟨by rw [HF.out]; rfl, HB.out.trans (HBz.out.mono HB.out.size)⟩
    · have HOe := Lib.hid (HO.out 1 (by omega))
      have HNe := Lib.hid (HN.out 1 (by omega))
      have HNo := Lib.hid (fun h => prec_no (R := R) (x := x) (e := 1) (by omega) h)
      have hLe : (R 1).length = N 1 := HOe.out.1
      have HLe := Lib.hid hLe
      clear hLe
      have HS1 : Hid (headOk (R 1) x = true → ∀ e, e < 2 → headOk (R e) x = true) := fun h e he => by
        rcases Nat.lt_or_ge e 1 with h1 | h1
        · exact HK.out e h1
        · obtain rfl : e = 1 := by omega
          exact h
      by_cases hz : N 1 = 0
      · have HK2 := Lib.hid (HS1.out (headOk_nil (by rw [HLe.out]; exact hz)))
        have hzi : decide (0 < N 1) = false := decide_eq_false (by omega)
        have hS : wr.drew.cell? ⟨w.heap.size, 0, none⟩ = some (.int .i64 x.dev) ∧ wr.drew.cell? ⟨w.heap.size, 1, none⟩ = some (.int .i64 x.seq) ∧ wr.drew.cell? ⟨w.heap.size, 2, none⟩ = some (.int .i64 x.stamp) ∧ wr.drew.cell? ⟨w.heap.size, 3, none⟩ = some (.int .i64 x.kind) ∧ wr.drew.cell? ⟨w.heap.size, 4, none⟩ = some (.string x.item) ∧ wr.drew.cell? ⟨w.heap.size, 5, none⟩ = some (.int .i64 x.qty) ∧ wr.drew.cell? ⟨w.heap.size, 6, none⟩ = some (.int .i64 x.level) ∧ wr.drew.cell? ⟨w.heap.size, 7, none⟩ = some (.int .i64 x.undos) := ⟨e0, e1, e2, e3, e4, e5, e6, e7⟩
        clear hz
        go_wp2_with fail
        refine wp_region_held_drew (S := fun w' => w'.cell? ⟨w.heap.size, 0, none⟩ = some (.int .i64 x.dev) ∧ w'.cell? ⟨w.heap.size, 1, none⟩ = some (.int .i64 x.seq) ∧ w'.cell? ⟨w.heap.size, 2, none⟩ = some (.int .i64 x.stamp) ∧ w'.cell? ⟨w.heap.size, 3, none⟩ = some (.int .i64 x.kind) ∧ w'.cell? ⟨w.heap.size, 4, none⟩ = some (.string x.item) ∧ w'.cell? ⟨w.heap.size, 5, none⟩ = some (.int .i64 x.qty) ∧ w'.cell? ⟨w.heap.size, 6, none⟩ = some (.int .i64 x.level) ∧ w'.cell? ⟨w.heap.size, 7, none⟩ = some (.int .i64 x.undos)) (by kernel_rfl) hS (fun hHeld => ?_)
        refine wpAnyH_take (i := 0) (oi := { dst := some 11, op := Op.move (Operand.tmp 6), type := 27, pos := "l08_pages.go:12", after := #[], guard := none }) (v := ?_) rfl (by kernel_rfl) (by kernel_rfl) (by kernel_rfl) (fun _ _ _ h => h) (Or.inl ⟨by rfl, ?_⟩) (by assumption) ?_
        rotate_left
        · intro w hSw
          (try dsimp only at hSw)
          first | (go_simp; done) | (go_simp; with_reducible rfl)
        (try simp only [Act.put, List.setIfInBounds_toArray, List.set_cons_zero, List.set_cons_succ])
        refine wpAnyH_take (i := 1) (oi := { dst := some 12, op := Op.call { callee := Callee.builtin Builtin.len, args := #[Operand.tmp 11], argTypes := #[27] }, type := 3, pos := "l08_pages.go:12", after := #[{ on := 0, ground := Ground.data }], guard := none }) (v := ?_) rfl (by kernel_rfl) (by kernel_rfl) (by kernel_rfl) (fun _ _ _ h => h) (Or.inl ⟨by rfl, ?_⟩) (by assumption) ?_
        rotate_left
        · intro w hSw
          (try dsimp only at hSw)
          first | (go_simp; done) | (go_simp; with_reducible rfl)
        (try simp only [Act.put, List.setIfInBounds_toArray, List.set_cons_zero, List.set_cons_succ])
        refine wpAnyH_take (i := 2) (oi := { dst := some 13, op := Op.binOp BinOp.gtr 3 (Operand.tmp 12) (Operand.const (Value.int IntKind.i64 0)) 3, type := 4, pos := "l08_pages.go:12", after := #[{ on := 1, ground := Ground.data }], guard := none }) (v := ?_) rfl (by kernel_rfl) (by kernel_rfl) (by kernel_rfl) (fun _ _ _ h => h) (Or.inl ⟨by rfl, ?_⟩) (by assumption) ?_
        rotate_left
        · intro w hSw
          (try dsimp only at hSw)
          first | (go_simp; done) | (go_simp; with_reducible rfl)
        (try simp only [Act.put, List.setIfInBounds_toArray, List.set_cons_zero, List.set_cons_succ])
        refine wpAnyH_take (i := 3) (oi := { dst := some 14, op := Op.move (Operand.tmp 13), type := 4, pos := "l08_pages.go:12", after := #[{ on := 2, ground := Ground.data }], guard := none }) (v := ?_) rfl (by kernel_rfl) (by kernel_rfl) (by kernel_rfl) (fun _ _ _ h => h) (Or.inl ⟨by rfl, ?_⟩) (by assumption) ?_
        rotate_left
        · intro w hSw
          (try dsimp only at hSw)
          first | (go_simp; done) | (go_simp; with_reducible rfl)
        (try simp only [Act.put, List.setIfInBounds_toArray, List.set_cons_zero, List.set_cons_succ])
        refine wpAnyH_take (i := 4) (oi := { dst := some 15, op := Op.move (Operand.tmp 6), type := 27, pos := "l08_pages.go:12", after := #[{ on := 3, ground := Ground.guard }], guard := some (3, true) }) (v := undef) rfl (by kernel_rfl) (by kernel_rfl) (by kernel_rfl) (fun _ _ _ h => h) (Or.inr ⟨by rfl, rfl⟩) (by assumption) ?_
        (try simp only [Act.put, List.setIfInBounds_toArray, List.set_cons_zero, List.set_cons_succ])
        refine wpAnyH_take (i := 5) (oi := { dst := some 16, op := Op.indexAddr 27 (Operand.tmp 15) (Operand.const (Value.int IntKind.i64 0)), type := 0, pos := "l08_pages.go:12", after := #[{ on := 4, ground := Ground.data }, { on := 3, ground := Ground.guard }], guard := some (3, true) }) (v := undef) rfl (by kernel_rfl) (by kernel_rfl) (by kernel_rfl) (fun _ _ _ h => h) (Or.inr ⟨by rfl, rfl⟩) (by assumption) ?_
        (try simp only [Act.put, List.setIfInBounds_toArray, List.set_cons_zero, List.set_cons_succ])
        refine wpAnyH_take (i := 6) (oi := { dst := some 17, op := Op.load 69 (Operand.tmp 16), type := 69, pos := "l08_pages.go:12", after := #[{ on := 5, ground := Ground.data }, { on := 3, ground := Ground.guard }], guard := some (3, true) }) (v := undef) rfl (by kernel_rfl) (by kernel_rfl) (by kernel_rfl) (fun _ _ _ h => h) (Or.inr ⟨by rfl, rfl⟩) (by assumption) ?_
        (try simp only [Act.put, List.setIfInBounds_toArray, List.set_cons_zero, List.set_cons_succ])
        refine wpAnyH_take (i := 7) (oi := { dst := some 18, op := Op.load 69 (Operand.tmp 2), type := 69, pos := "l08_pages.go:12", after := #[{ on := 3, ground := Ground.guard }], guard := some (3, true) }) (v := undef) rfl (by kernel_rfl) (by kernel_rfl) (by kernel_rfl) (fun _ _ _ h => h) (Or.inr ⟨by rfl, rfl⟩) (by assumption) ?_
        (try simp only [Act.put, List.setIfInBounds_toArray, List.set_cons_zero, List.set_cons_succ])
        refine wpAnyH_take (i := 8) (oi := { dst := some 19, op := Op.call { callee := Callee.value (Operand.func 100), args := #[Operand.tmp 17, Operand.tmp 18], argTypes := #[69, 69] }, type := 4, pos := "l08_pages.go:12", after := #[{ on := 6, ground := Ground.data }, { on := 7, ground := Ground.data }, { on := 3, ground := Ground.chain }, { on := 3, ground := Ground.guard }], guard := some (3, true) }) (v := undef) rfl (by kernel_rfl) (by kernel_rfl) (by kernel_rfl) (fun _ _ _ h => h) (Or.inr ⟨by rfl, rfl⟩) (by assumption) ?_
        (try simp only [Act.put, List.setIfInBounds_toArray, List.set_cons_zero, List.set_cons_succ])
        refine wpAnyH_take (i := 9) (oi := { dst := some 20, op := Op.pick (Operand.tmp 14) (Operand.tmp 19) (Operand.const (Value.bool false)), type := 4, pos := "l08_pages.go:12", after := #[{ on := 3, ground := Ground.data }, { on := 8, ground := Ground.data }], guard := none }) (v := ?_) rfl (by kernel_rfl) (by kernel_rfl) (by kernel_rfl) (fun _ _ _ h => h) (Or.inl ⟨by rfl, ?_⟩) (by assumption) ?_
        rotate_left
        · intro w hSw
          (try dsimp only at hSw)
          first | (go_simp; done) | (go_simp; with_reducible rfl)
        (try simp only [Act.put, List.setIfInBounds_toArray, List.set_cons_zero, List.set_cons_succ])
        refine wpAnyH_done (by kernel_rfl) ?_ _
        have HBd : Hid (Below w0.heap.size w0 wr.drew) := ⟨HBr.out.os, HBr.out.tape, HBr.out.output, HBr.out.size, HBr.out.block⟩
        clear hS hHeld e0 e1 e2 e3 e4 e5 e6 e7
        go_wp2
        go_roundw
        case rel => exact ⟨2, by omega, by go_num, HK2, HBd⟩
        case measure => simp [intOf]
      have hzi : 0 < N 1 := by omega
      have hzi2 : (0 : Int) < (N 1 : Int) := by omega
      obtain ⟨b, off, hA, hb, ho⟩ := HOe.out.2 0 hzi
      have HOk : Hid (OpAt w0 b off (atOp (R 1) 0)) := by have := ho; rw [Nat.zero_mul, Nat.add_zero] at this; exact this
      clear ho hz
      have HHd := Lib.hid (headOk_at (L := R 1) (x := x) (by rw [HLe.out]; exact hzi))
      have HBv : Hid (befV (atOp (R 1) 0) x = befB (atOp (R 1) 0).dev (atOp (R 1) 0).seq (atOp (R 1) 0).stamp (atOp (R 1) 0).kind (atOp (R 1) 0).item (atOp (R 1) 0).qty (atOp (R 1) 0).level (atOp (R 1) 0).undos x.dev x.seq x.stamp x.kind x.item x.qty x.level x.undos) := rfl
      generalize atOp (R 1) 0 = y at HOk HHd HBv
      obtain ⟨d0, d1, d2, d3, d4, d5, d6, d7⟩ := HOk.out.kept (HBr.out.block b (by omega))
      have hS : wr.drew.cell? ⟨w.heap.size, 0, none⟩ = some (.int .i64 x.dev) ∧ wr.drew.cell? ⟨w.heap.size, 1, none⟩ = some (.int .i64 x.seq) ∧ wr.drew.cell? ⟨w.heap.size, 2, none⟩ = some (.int .i64 x.stamp) ∧ wr.drew.cell? ⟨w.heap.size, 3, none⟩ = some (.int .i64 x.kind) ∧ wr.drew.cell? ⟨w.heap.size, 4, none⟩ = some (.string x.item) ∧ wr.drew.cell? ⟨w.heap.size, 5, none⟩ = some (.int .i64 x.qty) ∧ wr.drew.cell? ⟨w.heap.size, 6, none⟩ = some (.int .i64 x.level) ∧ wr.drew.cell? ⟨w.heap.size, 7, none⟩ = some (.int .i64 x.undos) ∧ wr.drew.cell? ⟨b, off, none⟩ = some (.int .i64 y.dev) ∧ wr.drew.cell? ⟨b, off + 1, none⟩ = some (.int .i64 y.seq) ∧ wr.drew.cell? ⟨b, off + 2, none⟩ = some (.int .i64 y.stamp) ∧ wr.drew.cell? ⟨b, off + 3, none⟩ = some (.int .i64 y.kind) ∧ wr.drew.cell? ⟨b, off + 4, none⟩ = some (.string y.item) ∧ wr.drew.cell? ⟨b, off + 5, none⟩ = some (.int .i64 y.qty) ∧ wr.drew.cell? ⟨b, off + 6, none⟩ = some (.int .i64 y.level) ∧ wr.drew.cell? ⟨b, off + 7, none⟩ = some (.int .i64 y.undos) := ⟨e0, e1, e2, e3, e4, e5, e6, e7, d0, d1, d2, d3, d4, d5, d6, d7⟩
      go_wp2_with fail
      refine wp_region_held_drew (S := fun w' => w'.cell? ⟨w.heap.size, 0, none⟩ = some (.int .i64 x.dev) ∧ w'.cell? ⟨w.heap.size, 1, none⟩ = some (.int .i64 x.seq) ∧ w'.cell? ⟨w.heap.size, 2, none⟩ = some (.int .i64 x.stamp) ∧ w'.cell? ⟨w.heap.size, 3, none⟩ = some (.int .i64 x.kind) ∧ w'.cell? ⟨w.heap.size, 4, none⟩ = some (.string x.item) ∧ w'.cell? ⟨w.heap.size, 5, none⟩ = some (.int .i64 x.qty) ∧ w'.cell? ⟨w.heap.size, 6, none⟩ = some (.int .i64 x.level) ∧ w'.cell? ⟨w.heap.size, 7, none⟩ = some (.int .i64 x.undos) ∧ w'.cell? ⟨b, off, none⟩ = some (.int .i64 y.dev) ∧ w'.cell? ⟨b, off + 1, none⟩ = some (.int .i64 y.seq) ∧ w'.cell? ⟨b, off + 2, none⟩ = some (.int .i64 y.stamp) ∧ w'.cell? ⟨b, off + 3, none⟩ = some (.int .i64 y.kind) ∧ w'.cell? ⟨b, off + 4, none⟩ = some (.string y.item) ∧ w'.cell? ⟨b, off + 5, none⟩ = some (.int .i64 y.qty) ∧ w'.cell? ⟨b, off + 6, none⟩ = some (.int .i64 y.level) ∧ w'.cell? ⟨b, off + 7, none⟩ = some (.int .i64 y.undos)) (by kernel_rfl) hS (fun hHeld => ?_)
      refine wpAnyH_take (i := 0) (oi := { dst := some 11, op := Op.move (Operand.tmp 6), type := 27, pos := "l08_pages.go:12", after := #[], guard := none }) (v := ?_) rfl (by kernel_rfl) (by kernel_rfl) (by kernel_rfl) (fun _ _ _ h => h) (Or.inl ⟨by rfl, ?_⟩) (by assumption) ?_
      rotate_left
      · intro w hSw
        (try dsimp only at hSw)
        first | (go_simp; done) | (go_simp; with_reducible rfl)
      (try simp only [Act.put, List.setIfInBounds_toArray, List.set_cons_zero, List.set_cons_succ])
      refine wpAnyH_take (i := 1) (oi := { dst := some 12, op := Op.call { callee := Callee.builtin Builtin.len, args := #[Operand.tmp 11], argTypes := #[27] }, type := 3, pos := "l08_pages.go:12", after := #[{ on := 0, ground := Ground.data }], guard := none }) (v := ?_) rfl (by kernel_rfl) (by kernel_rfl) (by kernel_rfl) (fun _ _ _ h => h) (Or.inl ⟨by rfl, ?_⟩) (by assumption) ?_
      rotate_left
      · intro w hSw
        (try dsimp only at hSw)
        first | (go_simp; done) | (go_simp; with_reducible rfl)
      (try simp only [Act.put, List.setIfInBounds_toArray, List.set_cons_zero, List.set_cons_succ])
      refine wpAnyH_take (i := 2) (oi := { dst := some 13, op := Op.binOp BinOp.gtr 3 (Operand.tmp 12) (Operand.const (Value.int IntKind.i64 0)) 3, type := 4, pos := "l08_pages.go:12", after := #[{ on := 1, ground := Ground.data }], guard := none }) (v := ?_) rfl (by kernel_rfl) (by kernel_rfl) (by kernel_rfl) (fun _ _ _ h => h) (Or.inl ⟨by rfl, ?_⟩) (by assumption) ?_
      rotate_left
      · intro w hSw
        (try dsimp only at hSw)
        first | (go_simp; done) | (go_simp; with_reducible rfl)
      (try simp only [Act.put, List.setIfInBounds_toArray, List.set_cons_zero, List.set_cons_succ])
      refine wpAnyH_take (i := 3) (oi := { dst := some 14, op := Op.move (Operand.tmp 13), type := 4, pos := "l08_pages.go:12", after := #[{ on := 2, ground := Ground.data }], guard := none }) (v := ?_) rfl (by kernel_rfl) (by kernel_rfl) (by kernel_rfl) (fun _ _ _ h => h) (Or.inl ⟨by rfl, ?_⟩) (by assumption) ?_
      rotate_left
      · intro w hSw
        (try dsimp only at hSw)
        first | (go_simp; done) | (go_simp; with_reducible rfl)
      (try simp only [Act.put, List.setIfInBounds_toArray, List.set_cons_zero, List.set_cons_succ])
      refine wpAnyH_take (i := 4) (oi := { dst := some 15, op := Op.move (Operand.tmp 6), type := 27, pos := "l08_pages.go:12", after := #[{ on := 3, ground := Ground.guard }], guard := some (3, true) }) (v := ?_) rfl (by kernel_rfl) (by kernel_rfl) (by kernel_rfl) (fun _ _ _ h => h) (Or.inl ⟨by rfl, ?_⟩) (by assumption) ?_
      rotate_left
      · intro w hSw
        (try dsimp only at hSw)
        first | (go_simp; done) | (go_simp; with_reducible rfl)
      (try simp only [Act.put, List.setIfInBounds_toArray, List.set_cons_zero, List.set_cons_succ])
      refine wpAnyH_take (i := 5) (oi := { dst := some 16, op := Op.indexAddr 27 (Operand.tmp 15) (Operand.const (Value.int IntKind.i64 0)), type := 0, pos := "l08_pages.go:12", after := #[{ on := 4, ground := Ground.data }, { on := 3, ground := Ground.guard }], guard := some (3, true) }) (v := ?_) rfl (by kernel_rfl) (by kernel_rfl) (by kernel_rfl) (fun _ _ _ h => h) (Or.inl ⟨by rfl, ?_⟩) (by assumption) ?_
      rotate_left
      · intro w hSw
        (try dsimp only at hSw)
        first | (go_simp; done) | (go_simp; with_reducible rfl)
      (try simp only [Act.put, List.setIfInBounds_toArray, List.set_cons_zero, List.set_cons_succ])
      refine wpAnyH_take (i := 6) (oi := { dst := some 17, op := Op.load 69 (Operand.tmp 16), type := 69, pos := "l08_pages.go:12", after := #[{ on := 5, ground := Ground.data }, { on := 3, ground := Ground.guard }], guard := some (3, true) }) (v := ?_) rfl (by kernel_rfl) (by kernel_rfl) (by kernel_rfl) (fun _ _ _ h => h) (Or.inl ⟨by rfl, ?_⟩) (by assumption) ?_
      rotate_left
      · intro w hSw
        (try dsimp only at hSw)
        first | (go_simp; done) | (go_simp; with_reducible rfl)
      (try simp only [Act.put, List.setIfInBounds_toArray, List.set_cons_zero, List.set_cons_succ])
      refine wpAnyH_take (i := 7) (oi := { dst := some 18, op := Op.load 69 (Operand.tmp 2), type := 69, pos := "l08_pages.go:12", after := #[{ on := 3, ground := Ground.guard }], guard := some (3, true) }) (v := ?_) rfl (by kernel_rfl) (by kernel_rfl) (by kernel_rfl) (fun _ _ _ h => h) (Or.inl ⟨by rfl, ?_⟩) (by assumption) ?_
      rotate_left
      · intro w hSw
        (try dsimp only at hSw)
        first | (go_simp; done) | (go_simp; with_reducible rfl)
      (try simp only [Act.put, List.setIfInBounds_toArray, List.set_cons_zero, List.set_cons_succ])
      refine wpAnyH_ready (rs := [8]) (by kernel_rfl) (by simp) ?_
      refine AllReadyH.cons (o := { dst := some 19, op := Op.call { callee := Callee.value (Operand.func 100), args := #[Operand.tmp 17, Operand.tmp 18], argTypes := #[69, 69] }, type := 4, pos := "l08_pages.go:12", after := #[{ on := 6, ground := Ground.data }, { on := 7, ground := Ground.data }, { on := 3, ground := Ground.chain }, { on := 3, ground := Ground.guard }], guard := some (3, true) }) rfl (fun K hK => ?_) AllReadyH.nil
      go_simp
      go_at_call 100
      refine (implBefore y.dev y.seq y.stamp y.kind y.item y.qty y.level y.undos x.dev x.seq x.stamp x.kind x.item x.qty x.level x.undos _).mono ?_
      rintro e z1 ⟨rfl, hbz1⟩
      rw [← HBv.out]
      have hS1 : z1.cell? ⟨w.heap.size, 0, none⟩ = some (.int .i64 x.dev) ∧ z1.cell? ⟨w.heap.size, 1, none⟩ = some (.int .i64 x.seq) ∧ z1.cell? ⟨w.heap.size, 2, none⟩ = some (.int .i64 x.stamp) ∧ z1.cell? ⟨w.heap.size, 3, none⟩ = some (.int .i64 x.kind) ∧ z1.cell? ⟨w.heap.size, 4, none⟩ = some (.string x.item) ∧ z1.cell? ⟨w.heap.size, 5, none⟩ = some (.int .i64 x.qty) ∧ z1.cell? ⟨w.heap.size, 6, none⟩ = some (.int .i64 x.level) ∧ z1.cell? ⟨w.heap.size, 7, none⟩ = some (.int .i64 x.undos) ∧ z1.cell? ⟨b, off, none⟩ = some (.int .i64 y.dev) ∧ z1.cell? ⟨b, off + 1, none⟩ = some (.int .i64 y.seq) ∧ z1.cell? ⟨b, off + 2, none⟩ = some (.int .i64 y.stamp) ∧ z1.cell? ⟨b, off + 3, none⟩ = some (.int .i64 y.kind) ∧ z1.cell? ⟨b, off + 4, none⟩ = some (.string y.item) ∧ z1.cell? ⟨b, off + 5, none⟩ = some (.int .i64 y.qty) ∧ z1.cell? ⟨b, off + 6, none⟩ = some (.int .i64 y.level) ∧ z1.cell? ⟨b, off + 7, none⟩ = some (.int .i64 y.undos) := by
        obtain ⟨q0, q1, q2, q3, q4, q5, q6, q7, q8, q9, q10, q11, q12, q13, q14, q15⟩ := hS
        exact ⟨(hbz1.cell (block_lt_of_cell q0)).trans q0, (hbz1.cell (block_lt_of_cell q1)).trans q1, (hbz1.cell (block_lt_of_cell q2)).trans q2, (hbz1.cell (block_lt_of_cell q3)).trans q3, (hbz1.cell (block_lt_of_cell q4)).trans q4, (hbz1.cell (block_lt_of_cell q5)).trans q5, (hbz1.cell (block_lt_of_cell q6)).trans q6, (hbz1.cell (block_lt_of_cell q7)).trans q7, (hbz1.cell (block_lt_of_cell q8)).trans q8, (hbz1.cell (block_lt_of_cell q9)).trans q9, (hbz1.cell (block_lt_of_cell q10)).trans q10, (hbz1.cell (block_lt_of_cell q11)).trans q11, (hbz1.cell (block_lt_of_cell q12)).trans q12, (hbz1.cell (block_lt_of_cell q13)).trans q13, (hbz1.cell (block_lt_of_cell q14)).trans q14, (hbz1.cell (block_lt_of_cell q15)).trans q15⟩
      refine hK.out _ _ hS1 (fun hHeld2 => ?_)
      clear hK K
      (try simp only [Act.put, List.setIfInBounds_toArray, List.set_cons_zero, List.set_cons_succ])
      refine wpAnyH_take (i := 9) (oi := { dst := some 20, op := Op.pick (Operand.tmp 14) (Operand.tmp 19) (Operand.const (Value.bool false)), type := 4, pos := "l08_pages.go:12", after := #[{ on := 3, ground := Ground.data }, { on := 8, ground := Ground.data }], guard := none }) (v := ?_) rfl (by kernel_rfl) (by kernel_rfl) (by kernel_rfl) (fun _ _ _ h => h) (Or.inl ⟨by rfl, ?_⟩) (by assumption) ?_
      rotate_left
      · intro w hSw
        (try dsimp only at hSw)
        first | (go_simp; done) | (go_simp; with_reducible rfl)
      (try simp only [Act.put, List.setIfInBounds_toArray, List.set_cons_zero, List.set_cons_succ])
      refine wpAnyH_done (by kernel_rfl) ?_ _
      have hc1 : Below wr.heap.size wr z1 := Below.mk hbz1.os hbz1.tape hbz1.output hbz1.size hbz1.block
      have HBz := Lib.hid (HBr.out.trans (hc1.mono HBr.out.size))
      clear hS hS1 hHeld hHeld2 hbz1 hc1 d0 d1 d2 d3 d4 d5 d6 d7 e0 e1 e2 e3 e4 e5 e6 e7
      rcases hbf : befV y x with _ | _
      · have HK2 := Lib.hid (HS1.out (by rw [HHd.out, hbf]; rfl))
        clear hbf
        go_wp2
        simp only [← hA]
        clear hA
        go_roundw
        case rel => exact ⟨2, by omega, by go_num, HK2, HBz⟩
        case measure => simp [intOf]
      · have HF := Lib.hid (HNo.out (by rw [HHd.out, hbf]; rfl))
        clear hbf
        go_wp2
        go_ret
        exact ⟨by rw [HF.out]; rfl, HB.out.trans (HBz.out.mono HB.out.size)⟩
    · have HOe := Lib.hid (HO.out 2 (by omega))
      have HNe := Lib.hid (HN.out 2 (by omega))
      have HNo := Lib.hid (fun h => prec_no (R := R) (x := x) (e := 2) (by omega) h)
      have hLe : (R 2).length = N 2 := HOe.out.1
      have HLe := Lib.hid hLe
      clear hLe
      have HS1 : Hid (headOk (R 2) x = true → ∀ e, e < 3 → headOk (R e) x = true) := fun h e he => by
        rcases Nat.lt_or_ge e 2 with h1 | h1
        · exact HK.out e h1
        · obtain rfl : e = 2 := by omega
          exact h
      by_cases hz : N 2 = 0
      · have HK2 := Lib.hid (HS1.out (headOk_nil (by rw [HLe.out]; exact hz)))
        have hzi : decide (0 < N 2) = false := decide_eq_false (by omega)
        have hS : wr.drew.cell? ⟨w.heap.size, 0, none⟩ = some (.int .i64 x.dev) ∧ wr.drew.cell? ⟨w.heap.size, 1, none⟩ = some (.int .i64 x.seq) ∧ wr.drew.cell? ⟨w.heap.size, 2, none⟩ = some (.int .i64 x.stamp) ∧ wr.drew.cell? ⟨w.heap.size, 3, none⟩ = some (.int .i64 x.kind) ∧ wr.drew.cell? ⟨w.heap.size, 4, none⟩ = some (.string x.item) ∧ wr.drew.cell? ⟨w.heap.size, 5, none⟩ = some (.int .i64 x.qty) ∧ wr.drew.cell? ⟨w.heap.size, 6, none⟩ = some (.int .i64 x.level) ∧ wr.drew.cell? ⟨w.heap.size, 7, none⟩ = some (.int .i64 x.undos) := ⟨e0, e1, e2, e3, e4, e5, e6, e7⟩
        clear hz
        go_wp2_with fail
        refine wp_region_held_drew (S := fun w' => w'.cell? ⟨w.heap.size, 0, none⟩ = some (.int .i64 x.dev) ∧ w'.cell? ⟨w.heap.size, 1, none⟩ = some (.int .i64 x.seq) ∧ w'.cell? ⟨w.heap.size, 2, none⟩ = some (.int .i64 x.stamp) ∧ w'.cell? ⟨w.heap.size, 3, none⟩ = some (.int .i64 x.kind) ∧ w'.cell? ⟨w.heap.size, 4, none⟩ = some (.string x.item) ∧ w'.cell? ⟨w.heap.size, 5, none⟩ = some (.int .i64 x.qty) ∧ w'.cell? ⟨w.heap.size, 6, none⟩ = some (.int .i64 x.level) ∧ w'.cell? ⟨w.heap.size, 7, none⟩ = some (.int .i64 x.undos)) (by kernel_rfl) hS (fun hHeld => ?_)
        refine wpAnyH_take (i := 0) (oi := { dst := some 11, op := Op.move (Operand.tmp 6), type := 27, pos := "l08_pages.go:12", after := #[], guard := none }) (v := ?_) rfl (by kernel_rfl) (by kernel_rfl) (by kernel_rfl) (fun _ _ _ h => h) (Or.inl ⟨by rfl, ?_⟩) (by assumption) ?_
        rotate_left
        · intro w hSw
          (try dsimp only at hSw)
          first | (go_simp; done) | (go_simp; with_reducible rfl)
        (try simp only [Act.put, List.setIfInBounds_toArray, List.set_cons_zero, List.set_cons_succ])
        refine wpAnyH_take (i := 1) (oi := { dst := some 12, op := Op.call { callee := Callee.builtin Builtin.len, args := #[Operand.tmp 11], argTypes := #[27] }, type := 3, pos := "l08_pages.go:12", after := #[{ on := 0, ground := Ground.data }], guard := none }) (v := ?_) rfl (by kernel_rfl) (by kernel_rfl) (by kernel_rfl) (fun _ _ _ h => h) (Or.inl ⟨by rfl, ?_⟩) (by assumption) ?_
        rotate_left
        · intro w hSw
          (try dsimp only at hSw)
          first | (go_simp; done) | (go_simp; with_reducible rfl)
        (try simp only [Act.put, List.setIfInBounds_toArray, List.set_cons_zero, List.set_cons_succ])
        refine wpAnyH_take (i := 2) (oi := { dst := some 13, op := Op.binOp BinOp.gtr 3 (Operand.tmp 12) (Operand.const (Value.int IntKind.i64 0)) 3, type := 4, pos := "l08_pages.go:12", after := #[{ on := 1, ground := Ground.data }], guard := none }) (v := ?_) rfl (by kernel_rfl) (by kernel_rfl) (by kernel_rfl) (fun _ _ _ h => h) (Or.inl ⟨by rfl, ?_⟩) (by assumption) ?_
        rotate_left
        · intro w hSw
          (try dsimp only at hSw)
          first | (go_simp; done) | (go_simp; with_reducible rfl)
        (try simp only [Act.put, List.setIfInBounds_toArray, List.set_cons_zero, List.set_cons_succ])
        refine wpAnyH_take (i := 3) (oi := { dst := some 14, op := Op.move (Operand.tmp 13), type := 4, pos := "l08_pages.go:12", after := #[{ on := 2, ground := Ground.data }], guard := none }) (v := ?_) rfl (by kernel_rfl) (by kernel_rfl) (by kernel_rfl) (fun _ _ _ h => h) (Or.inl ⟨by rfl, ?_⟩) (by assumption) ?_
        rotate_left
        · intro w hSw
          (try dsimp only at hSw)
          first | (go_simp; done) | (go_simp; with_reducible rfl)
        (try simp only [Act.put, List.setIfInBounds_toArray, List.set_cons_zero, List.set_cons_succ])
        refine wpAnyH_take (i := 4) (oi := { dst := some 15, op := Op.move (Operand.tmp 6), type := 27, pos := "l08_pages.go:12", after := #[{ on := 3, ground := Ground.guard }], guard := some (3, true) }) (v := undef) rfl (by kernel_rfl) (by kernel_rfl) (by kernel_rfl) (fun _ _ _ h => h) (Or.inr ⟨by rfl, rfl⟩) (by assumption) ?_
        (try simp only [Act.put, List.setIfInBounds_toArray, List.set_cons_zero, List.set_cons_succ])
        refine wpAnyH_take (i := 5) (oi := { dst := some 16, op := Op.indexAddr 27 (Operand.tmp 15) (Operand.const (Value.int IntKind.i64 0)), type := 0, pos := "l08_pages.go:12", after := #[{ on := 4, ground := Ground.data }, { on := 3, ground := Ground.guard }], guard := some (3, true) }) (v := undef) rfl (by kernel_rfl) (by kernel_rfl) (by kernel_rfl) (fun _ _ _ h => h) (Or.inr ⟨by rfl, rfl⟩) (by assumption) ?_
        (try simp only [Act.put, List.setIfInBounds_toArray, List.set_cons_zero, List.set_cons_succ])
        refine wpAnyH_take (i := 6) (oi := { dst := some 17, op := Op.load 69 (Operand.tmp 16), type := 69, pos := "l08_pages.go:12", after := #[{ on := 5, ground := Ground.data }, { on := 3, ground := Ground.guard }], guard := some (3, true) }) (v := undef) rfl (by kernel_rfl) (by kernel_rfl) (by kernel_rfl) (fun _ _ _ h => h) (Or.inr ⟨by rfl, rfl⟩) (by assumption) ?_
        (try simp only [Act.put, List.setIfInBounds_toArray, List.set_cons_zero, List.set_cons_succ])
        refine wpAnyH_take (i := 7) (oi := { dst := some 18, op := Op.load 69 (Operand.tmp 2), type := 69, pos := "l08_pages.go:12", after := #[{ on := 3, ground := Ground.guard }], guard := some (3, true) }) (v := undef) rfl (by kernel_rfl) (by kernel_rfl) (by kernel_rfl) (fun _ _ _ h => h) (Or.inr ⟨by rfl, rfl⟩) (by assumption) ?_
        (try simp only [Act.put, List.setIfInBounds_toArray, List.set_cons_zero, List.set_cons_succ])
        refine wpAnyH_take (i := 8) (oi := { dst := some 19, op := Op.call { callee := Callee.value (Operand.func 100), args := #[Operand.tmp 17, Operand.tmp 18], argTypes := #[69, 69] }, type := 4, pos := "l08_pages.go:12", after := #[{ on := 6, ground := Ground.data }, { on := 7, ground := Ground.data }, { on := 3, ground := Ground.chain }, { on := 3, ground := Ground.guard }], guard := some (3, true) }) (v := undef) rfl (by kernel_rfl) (by kernel_rfl) (by kernel_rfl) (fun _ _ _ h => h) (Or.inr ⟨by rfl, rfl⟩) (by assumption) ?_
        (try simp only [Act.put, List.setIfInBounds_toArray, List.set_cons_zero, List.set_cons_succ])
        refine wpAnyH_take (i := 9) (oi := { dst := some 20, op := Op.pick (Operand.tmp 14) (Operand.tmp 19) (Operand.const (Value.bool false)), type := 4, pos := "l08_pages.go:12", after := #[{ on := 3, ground := Ground.data }, { on := 8, ground := Ground.data }], guard := none }) (v := ?_) rfl (by kernel_rfl) (by kernel_rfl) (by kernel_rfl) (fun _ _ _ h => h) (Or.inl ⟨by rfl, ?_⟩) (by assumption) ?_
        rotate_left
        · intro w hSw
          (try dsimp only at hSw)
          first | (go_simp; done) | (go_simp; with_reducible rfl)
        (try simp only [Act.put, List.setIfInBounds_toArray, List.set_cons_zero, List.set_cons_succ])
        refine wpAnyH_done (by kernel_rfl) ?_ _
        have HBd : Hid (Below w0.heap.size w0 wr.drew) := ⟨HBr.out.os, HBr.out.tape, HBr.out.output, HBr.out.size, HBr.out.block⟩
        clear hS hHeld e0 e1 e2 e3 e4 e5 e6 e7
        go_wp2
        go_roundw
        case rel => exact ⟨3, by omega, by go_num, HK2, HBd⟩
        case measure => simp [intOf]
      have hzi : 0 < N 2 := by omega
      have hzi2 : (0 : Int) < (N 2 : Int) := by omega
      obtain ⟨b, off, hA, hb, ho⟩ := HOe.out.2 0 hzi
      have HOk : Hid (OpAt w0 b off (atOp (R 2) 0)) := by have := ho; rw [Nat.zero_mul, Nat.add_zero] at this; exact this
      clear ho hz
      have HHd := Lib.hid (headOk_at (L := R 2) (x := x) (by rw [HLe.out]; exact hzi))
      have HBv : Hid (befV (atOp (R 2) 0) x = befB (atOp (R 2) 0).dev (atOp (R 2) 0).seq (atOp (R 2) 0).stamp (atOp (R 2) 0).kind (atOp (R 2) 0).item (atOp (R 2) 0).qty (atOp (R 2) 0).level (atOp (R 2) 0).undos x.dev x.seq x.stamp x.kind x.item x.qty x.level x.undos) := rfl
      generalize atOp (R 2) 0 = y at HOk HHd HBv
      obtain ⟨d0, d1, d2, d3, d4, d5, d6, d7⟩ := HOk.out.kept (HBr.out.block b (by omega))
      have hS : wr.drew.cell? ⟨w.heap.size, 0, none⟩ = some (.int .i64 x.dev) ∧ wr.drew.cell? ⟨w.heap.size, 1, none⟩ = some (.int .i64 x.seq) ∧ wr.drew.cell? ⟨w.heap.size, 2, none⟩ = some (.int .i64 x.stamp) ∧ wr.drew.cell? ⟨w.heap.size, 3, none⟩ = some (.int .i64 x.kind) ∧ wr.drew.cell? ⟨w.heap.size, 4, none⟩ = some (.string x.item) ∧ wr.drew.cell? ⟨w.heap.size, 5, none⟩ = some (.int .i64 x.qty) ∧ wr.drew.cell? ⟨w.heap.size, 6, none⟩ = some (.int .i64 x.level) ∧ wr.drew.cell? ⟨w.heap.size, 7, none⟩ = some (.int .i64 x.undos) ∧ wr.drew.cell? ⟨b, off, none⟩ = some (.int .i64 y.dev) ∧ wr.drew.cell? ⟨b, off + 1, none⟩ = some (.int .i64 y.seq) ∧ wr.drew.cell? ⟨b, off + 2, none⟩ = some (.int .i64 y.stamp) ∧ wr.drew.cell? ⟨b, off + 3, none⟩ = some (.int .i64 y.kind) ∧ wr.drew.cell? ⟨b, off + 4, none⟩ = some (.string y.item) ∧ wr.drew.cell? ⟨b, off + 5, none⟩ = some (.int .i64 y.qty) ∧ wr.drew.cell? ⟨b, off + 6, none⟩ = some (.int .i64 y.level) ∧ wr.drew.cell? ⟨b, off + 7, none⟩ = some (.int .i64 y.undos) := ⟨e0, e1, e2, e3, e4, e5, e6, e7, d0, d1, d2, d3, d4, d5, d6, d7⟩
      go_wp2_with fail
      refine wp_region_held_drew (S := fun w' => w'.cell? ⟨w.heap.size, 0, none⟩ = some (.int .i64 x.dev) ∧ w'.cell? ⟨w.heap.size, 1, none⟩ = some (.int .i64 x.seq) ∧ w'.cell? ⟨w.heap.size, 2, none⟩ = some (.int .i64 x.stamp) ∧ w'.cell? ⟨w.heap.size, 3, none⟩ = some (.int .i64 x.kind) ∧ w'.cell? ⟨w.heap.size, 4, none⟩ = some (.string x.item) ∧ w'.cell? ⟨w.heap.size, 5, none⟩ = some (.int .i64 x.qty) ∧ w'.cell? ⟨w.heap.size, 6, none⟩ = some (.int .i64 x.level) ∧ w'.cell? ⟨w.heap.size, 7, none⟩ = some (.int .i64 x.undos) ∧ w'.cell? ⟨b, off, none⟩ = some (.int .i64 y.dev) ∧ w'.cell? ⟨b, off + 1, none⟩ = some (.int .i64 y.seq) ∧ w'.cell? ⟨b, off + 2, none⟩ = some (.int .i64 y.stamp) ∧ w'.cell? ⟨b, off + 3, none⟩ = some (.int .i64 y.kind) ∧ w'.cell? ⟨b, off + 4, none⟩ = some (.string y.item) ∧ w'.cell? ⟨b, off + 5, none⟩ = some (.int .i64 y.qty) ∧ w'.cell? ⟨b, off + 6, none⟩ = some (.int .i64 y.level) ∧ w'.cell? ⟨b, off + 7, none⟩ = some (.int .i64 y.undos)) (by kernel_rfl) hS (fun hHeld => ?_)
      refine wpAnyH_take (i := 0) (oi := { dst := some 11, op := Op.move (Operand.tmp 6), type := 27, pos := "l08_pages.go:12", after := #[], guard := none }) (v := ?_) rfl (by kernel_rfl) (by kernel_rfl) (by kernel_rfl) (fun _ _ _ h => h) (Or.inl ⟨by rfl, ?_⟩) (by assumption) ?_
      rotate_left
      · intro w hSw
        (try dsimp only at hSw)
        first | (go_simp; done) | (go_simp; with_reducible rfl)
      (try simp only [Act.put, List.setIfInBounds_toArray, List.set_cons_zero, List.set_cons_succ])
      refine wpAnyH_take (i := 1) (oi := { dst := some 12, op := Op.call { callee := Callee.builtin Builtin.len, args := #[Operand.tmp 11], argTypes := #[27] }, type := 3, pos := "l08_pages.go:12", after := #[{ on := 0, ground := Ground.data }], guard := none }) (v := ?_) rfl (by kernel_rfl) (by kernel_rfl) (by kernel_rfl) (fun _ _ _ h => h) (Or.inl ⟨by rfl, ?_⟩) (by assumption) ?_
      rotate_left
      · intro w hSw
        (try dsimp only at hSw)
        first | (go_simp; done) | (go_simp; with_reducible rfl)
      (try simp only [Act.put, List.setIfInBounds_toArray, List.set_cons_zero, List.set_cons_succ])
      refine wpAnyH_take (i := 2) (oi := { dst := some 13, op := Op.binOp BinOp.gtr 3 (Operand.tmp 12) (Operand.const (Value.int IntKind.i64 0)) 3, type := 4, pos := "l08_pages.go:12", after := #[{ on := 1, ground := Ground.data }], guard := none }) (v := ?_) rfl (by kernel_rfl) (by kernel_rfl) (by kernel_rfl) (fun _ _ _ h => h) (Or.inl ⟨by rfl, ?_⟩) (by assumption) ?_
      rotate_left
      · intro w hSw
        (try dsimp only at hSw)
        first | (go_simp; done) | (go_simp; with_reducible rfl)
      (try simp only [Act.put, List.setIfInBounds_toArray, List.set_cons_zero, List.set_cons_succ])
      refine wpAnyH_take (i := 3) (oi := { dst := some 14, op := Op.move (Operand.tmp 13), type := 4, pos := "l08_pages.go:12", after := #[{ on := 2, ground := Ground.data }], guard := none }) (v := ?_) rfl (by kernel_rfl) (by kernel_rfl) (by kernel_rfl) (fun _ _ _ h => h) (Or.inl ⟨by rfl, ?_⟩) (by assumption) ?_
      rotate_left
      · intro w hSw
        (try dsimp only at hSw)
        first | (go_simp; done) | (go_simp; with_reducible rfl)
      (try simp only [Act.put, List.setIfInBounds_toArray, List.set_cons_zero, List.set_cons_succ])
      refine wpAnyH_take (i := 4) (oi := { dst := some 15, op := Op.move (Operand.tmp 6), type := 27, pos := "l08_pages.go:12", after := #[{ on := 3, ground := Ground.guard }], guard := some (3, true) }) (v := ?_) rfl (by kernel_rfl) (by kernel_rfl) (by kernel_rfl) (fun _ _ _ h => h) (Or.inl ⟨by rfl, ?_⟩) (by assumption) ?_
      rotate_left
      · intro w hSw
        (try dsimp only at hSw)
        first | (go_simp; done) | (go_simp; with_reducible rfl)
      (try simp only [Act.put, List.setIfInBounds_toArray, List.set_cons_zero, List.set_cons_succ])
      refine wpAnyH_take (i := 5) (oi := { dst := some 16, op := Op.indexAddr 27 (Operand.tmp 15) (Operand.const (Value.int IntKind.i64 0)), type := 0, pos := "l08_pages.go:12", after := #[{ on := 4, ground := Ground.data }, { on := 3, ground := Ground.guard }], guard := some (3, true) }) (v := ?_) rfl (by kernel_rfl) (by kernel_rfl) (by kernel_rfl) (fun _ _ _ h => h) (Or.inl ⟨by rfl, ?_⟩) (by assumption) ?_
      rotate_left
      · intro w hSw
        (try dsimp only at hSw)
        first | (go_simp; done) | (go_simp; with_reducible rfl)
      (try simp only [Act.put, List.setIfInBounds_toArray, List.set_cons_zero, List.set_cons_succ])
      refine wpAnyH_take (i := 6) (oi := { dst := some 17, op := Op.load 69 (Operand.tmp 16), type := 69, pos := "l08_pages.go:12", after := #[{ on := 5, ground := Ground.data }, { on := 3, ground := Ground.guard }], guard := some (3, true) }) (v := ?_) rfl (by kernel_rfl) (by kernel_rfl) (by kernel_rfl) (fun _ _ _ h => h) (Or.inl ⟨by rfl, ?_⟩) (by assumption) ?_
      rotate_left
      · intro w hSw
        (try dsimp only at hSw)
        first | (go_simp; done) | (go_simp; with_reducible rfl)
      (try simp only [Act.put, List.setIfInBounds_toArray, List.set_cons_zero, List.set_cons_succ])
      refine wpAnyH_take (i := 7) (oi := { dst := some 18, op := Op.load 69 (Operand.tmp 2), type := 69, pos := "l08_pages.go:12", after := #[{ on := 3, ground := Ground.guard }], guard := some (3, true) }) (v := ?_) rfl (by kernel_rfl) (by kernel_rfl) (by kernel_rfl) (fun _ _ _ h => h) (Or.inl ⟨by rfl, ?_⟩) (by assumption) ?_
      rotate_left
      · intro w hSw
        (try dsimp only at hSw)
        first | (go_simp; done) | (go_simp; with_reducible rfl)
      (try simp only [Act.put, List.setIfInBounds_toArray, List.set_cons_zero, List.set_cons_succ])
      refine wpAnyH_ready (rs := [8]) (by kernel_rfl) (by simp) ?_
      refine AllReadyH.cons (o := { dst := some 19, op := Op.call { callee := Callee.value (Operand.func 100), args := #[Operand.tmp 17, Operand.tmp 18], argTypes := #[69, 69] }, type := 4, pos := "l08_pages.go:12", after := #[{ on := 6, ground := Ground.data }, { on := 7, ground := Ground.data }, { on := 3, ground := Ground.chain }, { on := 3, ground := Ground.guard }], guard := some (3, true) }) rfl (fun K hK => ?_) AllReadyH.nil
      go_simp
      go_at_call 100
      refine (implBefore y.dev y.seq y.stamp y.kind y.item y.qty y.level y.undos x.dev x.seq x.stamp x.kind x.item x.qty x.level x.undos _).mono ?_
      rintro e z1 ⟨rfl, hbz1⟩
      rw [← HBv.out]
      have hS1 : z1.cell? ⟨w.heap.size, 0, none⟩ = some (.int .i64 x.dev) ∧ z1.cell? ⟨w.heap.size, 1, none⟩ = some (.int .i64 x.seq) ∧ z1.cell? ⟨w.heap.size, 2, none⟩ = some (.int .i64 x.stamp) ∧ z1.cell? ⟨w.heap.size, 3, none⟩ = some (.int .i64 x.kind) ∧ z1.cell? ⟨w.heap.size, 4, none⟩ = some (.string x.item) ∧ z1.cell? ⟨w.heap.size, 5, none⟩ = some (.int .i64 x.qty) ∧ z1.cell? ⟨w.heap.size, 6, none⟩ = some (.int .i64 x.level) ∧ z1.cell? ⟨w.heap.size, 7, none⟩ = some (.int .i64 x.undos) ∧ z1.cell? ⟨b, off, none⟩ = some (.int .i64 y.dev) ∧ z1.cell? ⟨b, off + 1, none⟩ = some (.int .i64 y.seq) ∧ z1.cell? ⟨b, off + 2, none⟩ = some (.int .i64 y.stamp) ∧ z1.cell? ⟨b, off + 3, none⟩ = some (.int .i64 y.kind) ∧ z1.cell? ⟨b, off + 4, none⟩ = some (.string y.item) ∧ z1.cell? ⟨b, off + 5, none⟩ = some (.int .i64 y.qty) ∧ z1.cell? ⟨b, off + 6, none⟩ = some (.int .i64 y.level) ∧ z1.cell? ⟨b, off + 7, none⟩ = some (.int .i64 y.undos) := by
        obtain ⟨q0, q1, q2, q3, q4, q5, q6, q7, q8, q9, q10, q11, q12, q13, q14, q15⟩ := hS
        exact ⟨(hbz1.cell (block_lt_of_cell q0)).trans q0, (hbz1.cell (block_lt_of_cell q1)).trans q1, (hbz1.cell (block_lt_of_cell q2)).trans q2, (hbz1.cell (block_lt_of_cell q3)).trans q3, (hbz1.cell (block_lt_of_cell q4)).trans q4, (hbz1.cell (block_lt_of_cell q5)).trans q5, (hbz1.cell (block_lt_of_cell q6)).trans q6, (hbz1.cell (block_lt_of_cell q7)).trans q7, (hbz1.cell (block_lt_of_cell q8)).trans q8, (hbz1.cell (block_lt_of_cell q9)).trans q9, (hbz1.cell (block_lt_of_cell q10)).trans q10, (hbz1.cell (block_lt_of_cell q11)).trans q11, (hbz1.cell (block_lt_of_cell q12)).trans q12, (hbz1.cell (block_lt_of_cell q13)).trans q13, (hbz1.cell (block_lt_of_cell q14)).trans q14, (hbz1.cell (block_lt_of_cell q15)).trans q15⟩
      refine hK.out _ _ hS1 (fun hHeld2 => ?_)
      clear hK K
      (try simp only [Act.put, List.setIfInBounds_toArray, List.set_cons_zero, List.set_cons_succ])
      refine wpAnyH_take (i := 9) (oi := { dst := some 20, op := Op.pick (Operand.tmp 14) (Operand.tmp 19) (Operand.const (Value.bool false)), type := 4, pos := "l08_pages.go:12", after := #[{ on := 3, ground := Ground.data }, { on := 8, ground := Ground.data }], guard := none }) (v := ?_) rfl (by kernel_rfl) (by kernel_rfl) (by kernel_rfl) (fun _ _ _ h => h) (Or.inl ⟨by rfl, ?_⟩) (by assumption) ?_
      rotate_left
      · intro w hSw
        (try dsimp only at hSw)
        first | (go_simp; done) | (go_simp; with_reducible rfl)
      (try simp only [Act.put, List.setIfInBounds_toArray, List.set_cons_zero, List.set_cons_succ])
      refine wpAnyH_done (by kernel_rfl) ?_ _
      have hc1 : Below wr.heap.size wr z1 := Below.mk hbz1.os hbz1.tape hbz1.output hbz1.size hbz1.block
      have HBz := Lib.hid (HBr.out.trans (hc1.mono HBr.out.size))
      clear hS hS1 hHeld hHeld2 hbz1 hc1 d0 d1 d2 d3 d4 d5 d6 d7 e0 e1 e2 e3 e4 e5 e6 e7
      rcases hbf : befV y x with _ | _
      · have HK2 := Lib.hid (HS1.out (by rw [HHd.out, hbf]; rfl))
        clear hbf
        go_wp2
        simp only [← hA]
        clear hA
        go_roundw
        case rel => exact ⟨3, by omega, by go_num, HK2, HBz⟩
        case measure => simp [intOf]
      · have HF := Lib.hid (HNo.out (by rw [HHd.out, hbf]; rfl))
        clear hbf
        go_wp2
        go_ret
        exact ⟨by rw [HF.out]; rfl, HB.out.trans (HBz.out.mono HB.out.size)⟩
    · have HOe := Lib.hid (HO.out 3 (by omega))
      have HNe := Lib.hid (HN.out 3 (by omega))
      have HNo := Lib.hid (fun h => prec_no (R := R) (x := x) (e := 3) (by omega) h)
      have hLe : (R 3).length = N 3 := HOe.out.1
      have HLe := Lib.hid hLe
      clear hLe
      have HS1 : Hid (headOk (R 3) x = true → ∀ e, e < 4 → headOk (R e) x = true) := fun h e he => by
        rcases Nat.lt_or_ge e 3 with h1 | h1
        · exact HK.out e h1
        · obtain rfl : e = 3 := by omega
          exact h
      by_cases hz : N 3 = 0
      · have HK2 := Lib.hid (HS1.out (headOk_nil (by rw [HLe.out]; exact hz)))
        have hzi : decide (0 < N 3) = false := decide_eq_false (by omega)
        have hS : wr.drew.cell? ⟨w.heap.size, 0, none⟩ = some (.int .i64 x.dev) ∧ wr.drew.cell? ⟨w.heap.size, 1, none⟩ = some (.int .i64 x.seq) ∧ wr.drew.cell? ⟨w.heap.size, 2, none⟩ = some (.int .i64 x.stamp) ∧ wr.drew.cell? ⟨w.heap.size, 3, none⟩ = some (.int .i64 x.kind) ∧ wr.drew.cell? ⟨w.heap.size, 4, none⟩ = some (.string x.item) ∧ wr.drew.cell? ⟨w.heap.size, 5, none⟩ = some (.int .i64 x.qty) ∧ wr.drew.cell? ⟨w.heap.size, 6, none⟩ = some (.int .i64 x.level) ∧ wr.drew.cell? ⟨w.heap.size, 7, none⟩ = some (.int .i64 x.undos) := ⟨e0, e1, e2, e3, e4, e5, e6, e7⟩
        clear hz
        go_wp2_with fail
        refine wp_region_held_drew (S := fun w' => w'.cell? ⟨w.heap.size, 0, none⟩ = some (.int .i64 x.dev) ∧ w'.cell? ⟨w.heap.size, 1, none⟩ = some (.int .i64 x.seq) ∧ w'.cell? ⟨w.heap.size, 2, none⟩ = some (.int .i64 x.stamp) ∧ w'.cell? ⟨w.heap.size, 3, none⟩ = some (.int .i64 x.kind) ∧ w'.cell? ⟨w.heap.size, 4, none⟩ = some (.string x.item) ∧ w'.cell? ⟨w.heap.size, 5, none⟩ = some (.int .i64 x.qty) ∧ w'.cell? ⟨w.heap.size, 6, none⟩ = some (.int .i64 x.level) ∧ w'.cell? ⟨w.heap.size, 7, none⟩ = some (.int .i64 x.undos)) (by kernel_rfl) hS (fun hHeld => ?_)
        refine wpAnyH_take (i := 0) (oi := { dst := some 11, op := Op.move (Operand.tmp 6), type := 27, pos := "l08_pages.go:12", after := #[], guard := none }) (v := ?_) rfl (by kernel_rfl) (by kernel_rfl) (by kernel_rfl) (fun _ _ _ h => h) (Or.inl ⟨by rfl, ?_⟩) (by assumption) ?_
        rotate_left
        · intro w hSw
          (try dsimp only at hSw)
          first | (go_simp; done) | (go_simp; with_reducible rfl)
        (try simp only [Act.put, List.setIfInBounds_toArray, List.set_cons_zero, List.set_cons_succ])
        refine wpAnyH_take (i := 1) (oi := { dst := some 12, op := Op.call { callee := Callee.builtin Builtin.len, args := #[Operand.tmp 11], argTypes := #[27] }, type := 3, pos := "l08_pages.go:12", after := #[{ on := 0, ground := Ground.data }], guard := none }) (v := ?_) rfl (by kernel_rfl) (by kernel_rfl) (by kernel_rfl) (fun _ _ _ h => h) (Or.inl ⟨by rfl, ?_⟩) (by assumption) ?_
        rotate_left
        · intro w hSw
          (try dsimp only at hSw)
          first | (go_simp; done) | (go_simp; with_reducible rfl)
        (try simp only [Act.put, List.setIfInBounds_toArray, List.set_cons_zero, List.set_cons_succ])
        refine wpAnyH_take (i := 2) (oi := { dst := some 13, op := Op.binOp BinOp.gtr 3 (Operand.tmp 12) (Operand.const (Value.int IntKind.i64 0)) 3, type := 4, pos := "l08_pages.go:12", after := #[{ on := 1, ground := Ground.data }], guard := none }) (v := ?_) rfl (by kernel_rfl) (by kernel_rfl) (by kernel_rfl) (fun _ _ _ h => h) (Or.inl ⟨by rfl, ?_⟩) (by assumption) ?_
        rotate_left
        · intro w hSw
          (try dsimp only at hSw)
          first | (go_simp; done) | (go_simp; with_reducible rfl)
        (try simp only [Act.put, List.setIfInBounds_toArray, List.set_cons_zero, List.set_cons_succ])
        refine wpAnyH_take (i := 3) (oi := { dst := some 14, op := Op.move (Operand.tmp 13), type := 4, pos := "l08_pages.go:12", after := #[{ on := 2, ground := Ground.data }], guard := none }) (v := ?_) rfl (by kernel_rfl) (by kernel_rfl) (by kernel_rfl) (fun _ _ _ h => h) (Or.inl ⟨by rfl, ?_⟩) (by assumption) ?_
        rotate_left
        · intro w hSw
          (try dsimp only at hSw)
          first | (go_simp; done) | (go_simp; with_reducible rfl)
        (try simp only [Act.put, List.setIfInBounds_toArray, List.set_cons_zero, List.set_cons_succ])
        refine wpAnyH_take (i := 4) (oi := { dst := some 15, op := Op.move (Operand.tmp 6), type := 27, pos := "l08_pages.go:12", after := #[{ on := 3, ground := Ground.guard }], guard := some (3, true) }) (v := undef) rfl (by kernel_rfl) (by kernel_rfl) (by kernel_rfl) (fun _ _ _ h => h) (Or.inr ⟨by rfl, rfl⟩) (by assumption) ?_
        (try simp only [Act.put, List.setIfInBounds_toArray, List.set_cons_zero, List.set_cons_succ])
        refine wpAnyH_take (i := 5) (oi := { dst := some 16, op := Op.indexAddr 27 (Operand.tmp 15) (Operand.const (Value.int IntKind.i64 0)), type := 0, pos := "l08_pages.go:12", after := #[{ on := 4, ground := Ground.data }, { on := 3, ground := Ground.guard }], guard := some (3, true) }) (v := undef) rfl (by kernel_rfl) (by kernel_rfl) (by kernel_rfl) (fun _ _ _ h => h) (Or.inr ⟨by rfl, rfl⟩) (by assumption) ?_
        (try simp only [Act.put, List.setIfInBounds_toArray, List.set_cons_zero, List.set_cons_succ])
        refine wpAnyH_take (i := 6) (oi := { dst := some 17, op := Op.load 69 (Operand.tmp 16), type := 69, pos := "l08_pages.go:12", after := #[{ on := 5, ground := Ground.data }, { on := 3, ground := Ground.guard }], guard := some (3, true) }) (v := undef) rfl (by kernel_rfl) (by kernel_rfl) (by kernel_rfl) (fun _ _ _ h => h) (Or.inr ⟨by rfl, rfl⟩) (by assumption) ?_
        (try simp only [Act.put, List.setIfInBounds_toArray, List.set_cons_zero, List.set_cons_succ])
        refine wpAnyH_take (i := 7) (oi := { dst := some 18, op := Op.load 69 (Operand.tmp 2), type := 69, pos := "l08_pages.go:12", after := #[{ on := 3, ground := Ground.guard }], guard := some (3, true) }) (v := undef) rfl (by kernel_rfl) (by kernel_rfl) (by kernel_rfl) (fun _ _ _ h => h) (Or.inr ⟨by rfl, rfl⟩) (by assumption) ?_
        (try simp only [Act.put, List.setIfInBounds_toArray, List.set_cons_zero, List.set_cons_succ])
        refine wpAnyH_take (i := 8) (oi := { dst := some 19, op := Op.call { callee := Callee.value (Operand.func 100), args := #[Operand.tmp 17, Operand.tmp 18], argTypes := #[69, 69] }, type := 4, pos := "l08_pages.go:12", after := #[{ on := 6, ground := Ground.data }, { on := 7, ground := Ground.data }, { on := 3, ground := Ground.chain }, { on := 3, ground := Ground.guard }], guard := some (3, true) }) (v := undef) rfl (by kernel_rfl) (by kernel_rfl) (by kernel_rfl) (fun _ _ _ h => h) (Or.inr ⟨by rfl, rfl⟩) (by assumption) ?_
        (try simp only [Act.put, List.setIfInBounds_toArray, List.set_cons_zero, List.set_cons_succ])
        refine wpAnyH_take (i := 9) (oi := { dst := some 20, op := Op.pick (Operand.tmp 14) (Operand.tmp 19) (Operand.const (Value.bool false)), type := 4, pos := "l08_pages.go:12", after := #[{ on := 3, ground := Ground.data }, { on := 8, ground := Ground.data }], guard := none }) (v := ?_) rfl (by kernel_rfl) (by kernel_rfl) (by kernel_rfl) (fun _ _ _ h => h) (Or.inl ⟨by rfl, ?_⟩) (by assumption) ?_
        rotate_left
        · intro w hSw
          (try dsimp only at hSw)
          first | (go_simp; done) | (go_simp; with_reducible rfl)
        (try simp only [Act.put, List.setIfInBounds_toArray, List.set_cons_zero, List.set_cons_succ])
        refine wpAnyH_done (by kernel_rfl) ?_ _
        have HBd : Hid (Below w0.heap.size w0 wr.drew) := ⟨HBr.out.os, HBr.out.tape, HBr.out.output, HBr.out.size, HBr.out.block⟩
        clear hS hHeld e0 e1 e2 e3 e4 e5 e6 e7
        go_wp2
        go_roundw
        case rel => exact ⟨4, by omega, by go_num, HK2, HBd⟩
        case measure => simp [intOf]
      have hzi : 0 < N 3 := by omega
      have hzi2 : (0 : Int) < (N 3 : Int) := by omega
      obtain ⟨b, off, hA, hb, ho⟩ := HOe.out.2 0 hzi
      have HOk : Hid (OpAt w0 b off (atOp (R 3) 0)) := by have := ho; rw [Nat.zero_mul, Nat.add_zero] at this; exact this
      clear ho hz
      have HHd := Lib.hid (headOk_at (L := R 3) (x := x) (by rw [HLe.out]; exact hzi))
      have HBv : Hid (befV (atOp (R 3) 0) x = befB (atOp (R 3) 0).dev (atOp (R 3) 0).seq (atOp (R 3) 0).stamp (atOp (R 3) 0).kind (atOp (R 3) 0).item (atOp (R 3) 0).qty (atOp (R 3) 0).level (atOp (R 3) 0).undos x.dev x.seq x.stamp x.kind x.item x.qty x.level x.undos) := rfl
      generalize atOp (R 3) 0 = y at HOk HHd HBv
      obtain ⟨d0, d1, d2, d3, d4, d5, d6, d7⟩ := HOk.out.kept (HBr.out.block b (by omega))
      have hS : wr.drew.cell? ⟨w.heap.size, 0, none⟩ = some (.int .i64 x.dev) ∧ wr.drew.cell? ⟨w.heap.size, 1, none⟩ = some (.int .i64 x.seq) ∧ wr.drew.cell? ⟨w.heap.size, 2, none⟩ = some (.int .i64 x.stamp) ∧ wr.drew.cell? ⟨w.heap.size, 3, none⟩ = some (.int .i64 x.kind) ∧ wr.drew.cell? ⟨w.heap.size, 4, none⟩ = some (.string x.item) ∧ wr.drew.cell? ⟨w.heap.size, 5, none⟩ = some (.int .i64 x.qty) ∧ wr.drew.cell? ⟨w.heap.size, 6, none⟩ = some (.int .i64 x.level) ∧ wr.drew.cell? ⟨w.heap.size, 7, none⟩ = some (.int .i64 x.undos) ∧ wr.drew.cell? ⟨b, off, none⟩ = some (.int .i64 y.dev) ∧ wr.drew.cell? ⟨b, off + 1, none⟩ = some (.int .i64 y.seq) ∧ wr.drew.cell? ⟨b, off + 2, none⟩ = some (.int .i64 y.stamp) ∧ wr.drew.cell? ⟨b, off + 3, none⟩ = some (.int .i64 y.kind) ∧ wr.drew.cell? ⟨b, off + 4, none⟩ = some (.string y.item) ∧ wr.drew.cell? ⟨b, off + 5, none⟩ = some (.int .i64 y.qty) ∧ wr.drew.cell? ⟨b, off + 6, none⟩ = some (.int .i64 y.level) ∧ wr.drew.cell? ⟨b, off + 7, none⟩ = some (.int .i64 y.undos) := ⟨e0, e1, e2, e3, e4, e5, e6, e7, d0, d1, d2, d3, d4, d5, d6, d7⟩
      go_wp2_with fail
      refine wp_region_held_drew (S := fun w' => w'.cell? ⟨w.heap.size, 0, none⟩ = some (.int .i64 x.dev) ∧ w'.cell? ⟨w.heap.size, 1, none⟩ = some (.int .i64 x.seq) ∧ w'.cell? ⟨w.heap.size, 2, none⟩ = some (.int .i64 x.stamp) ∧ w'.cell? ⟨w.heap.size, 3, none⟩ = some (.int .i64 x.kind) ∧ w'.cell? ⟨w.heap.size, 4, none⟩ = some (.string x.item) ∧ w'.cell? ⟨w.heap.size, 5, none⟩ = some (.int .i64 x.qty) ∧ w'.cell? ⟨w.heap.size, 6, none⟩ = some (.int .i64 x.level) ∧ w'.cell? ⟨w.heap.size, 7, none⟩ = some (.int .i64 x.undos) ∧ w'.cell? ⟨b, off, none⟩ = some (.int .i64 y.dev) ∧ w'.cell? ⟨b, off + 1, none⟩ = some (.int .i64 y.seq) ∧ w'.cell? ⟨b, off + 2, none⟩ = some (.int .i64 y.stamp) ∧ w'.cell? ⟨b, off + 3, none⟩ = some (.int .i64 y.kind) ∧ w'.cell? ⟨b, off + 4, none⟩ = some (.string y.item) ∧ w'.cell? ⟨b, off + 5, none⟩ = some (.int .i64 y.qty) ∧ w'.cell? ⟨b, off + 6, none⟩ = some (.int .i64 y.level) ∧ w'.cell? ⟨b, off + 7, none⟩ = some (.int .i64 y.undos)) (by kernel_rfl) hS (fun hHeld => ?_)
      refine wpAnyH_take (i := 0) (oi := { dst := some 11, op := Op.move (Operand.tmp 6), type := 27, pos := "l08_pages.go:12", after := #[], guard := none }) (v := ?_) rfl (by kernel_rfl) (by kernel_rfl) (by kernel_rfl) (fun _ _ _ h => h) (Or.inl ⟨by rfl, ?_⟩) (by assumption) ?_
      rotate_left
      · intro w hSw
        (try dsimp only at hSw)
        first | (go_simp; done) | (go_simp; with_reducible rfl)
      (try simp only [Act.put, List.setIfInBounds_toArray, List.set_cons_zero, List.set_cons_succ])
      refine wpAnyH_take (i := 1) (oi := { dst := some 12, op := Op.call { callee := Callee.builtin Builtin.len, args := #[Operand.tmp 11], argTypes := #[27] }, type := 3, pos := "l08_pages.go:12", after := #[{ on := 0, ground := Ground.data }], guard := none }) (v := ?_) rfl (by kernel_rfl) (by kernel_rfl) (by kernel_rfl) (fun _ _ _ h => h) (Or.inl ⟨by rfl, ?_⟩) (by assumption) ?_
      rotate_left
      · intro w hSw
        (try dsimp only at hSw)
        first | (go_simp; done) | (go_simp; with_reducible rfl)
      (try simp only [Act.put, List.setIfInBounds_toArray, List.set_cons_zero, List.set_cons_succ])
      refine wpAnyH_take (i := 2) (oi := { dst := some 13, op := Op.binOp BinOp.gtr 3 (Operand.tmp 12) (Operand.const (Value.int IntKind.i64 0)) 3, type := 4, pos := "l08_pages.go:12", after := #[{ on := 1, ground := Ground.data }], guard := none }) (v := ?_) rfl (by kernel_rfl) (by kernel_rfl) (by kernel_rfl) (fun _ _ _ h => h) (Or.inl ⟨by rfl, ?_⟩) (by assumption) ?_
      rotate_left
      · intro w hSw
        (try dsimp only at hSw)
        first | (go_simp; done) | (go_simp; with_reducible rfl)
      (try simp only [Act.put, List.setIfInBounds_toArray, List.set_cons_zero, List.set_cons_succ])
      refine wpAnyH_take (i := 3) (oi := { dst := some 14, op := Op.move (Operand.tmp 13), type := 4, pos := "l08_pages.go:12", after := #[{ on := 2, ground := Ground.data }], guard := none }) (v := ?_) rfl (by kernel_rfl) (by kernel_rfl) (by kernel_rfl) (fun _ _ _ h => h) (Or.inl ⟨by rfl, ?_⟩) (by assumption) ?_
      rotate_left
      · intro w hSw
        (try dsimp only at hSw)
        first | (go_simp; done) | (go_simp; with_reducible rfl)
      (try simp only [Act.put, List.setIfInBounds_toArray, List.set_cons_zero, List.set_cons_succ])
      refine wpAnyH_take (i := 4) (oi := { dst := some 15, op := Op.move (Operand.tmp 6), type := 27, pos := "l08_pages.go:12", after := #[{ on := 3, ground := Ground.guard }], guard := some (3, true) }) (v := ?_) rfl (by kernel_rfl) (by kernel_rfl) (by kernel_rfl) (fun _ _ _ h => h) (Or.inl ⟨by rfl, ?_⟩) (by assumption) ?_
      rotate_left
      · intro w hSw
        (try dsimp only at hSw)
        first | (go_simp; done) | (go_simp; with_reducible rfl)
      (try simp only [Act.put, List.setIfInBounds_toArray, List.set_cons_zero, List.set_cons_succ])
      refine wpAnyH_take (i := 5) (oi := { dst := some 16, op := Op.indexAddr 27 (Operand.tmp 15) (Operand.const (Value.int IntKind.i64 0)), type := 0, pos := "l08_pages.go:12", after := #[{ on := 4, ground := Ground.data }, { on := 3, ground := Ground.guard }], guard := some (3, true) }) (v := ?_) rfl (by kernel_rfl) (by kernel_rfl) (by kernel_rfl) (fun _ _ _ h => h) (Or.inl ⟨by rfl, ?_⟩) (by assumption) ?_
      rotate_left
      · intro w hSw
        (try dsimp only at hSw)
        first | (go_simp; done) | (go_simp; with_reducible rfl)
      (try simp only [Act.put, List.setIfInBounds_toArray, List.set_cons_zero, List.set_cons_succ])
      refine wpAnyH_take (i := 6) (oi := { dst := some 17, op := Op.load 69 (Operand.tmp 16), type := 69, pos := "l08_pages.go:12", after := #[{ on := 5, ground := Ground.data }, { on := 3, ground := Ground.guard }], guard := some (3, true) }) (v := ?_) rfl (by kernel_rfl) (by kernel_rfl) (by kernel_rfl) (fun _ _ _ h => h) (Or.inl ⟨by rfl, ?_⟩) (by assumption) ?_
      rotate_left
      · intro w hSw
        (try dsimp only at hSw)
        first | (go_simp; done) | (go_simp; with_reducible rfl)
      (try simp only [Act.put, List.setIfInBounds_toArray, List.set_cons_zero, List.set_cons_succ])
      refine wpAnyH_take (i := 7) (oi := { dst := some 18, op := Op.load 69 (Operand.tmp 2), type := 69, pos := "l08_pages.go:12", after := #[{ on := 3, ground := Ground.guard }], guard := some (3, true) }) (v := ?_) rfl (by kernel_rfl) (by kernel_rfl) (by kernel_rfl) (fun _ _ _ h => h) (Or.inl ⟨by rfl, ?_⟩) (by assumption) ?_
      rotate_left
      · intro w hSw
        (try dsimp only at hSw)
        first | (go_simp; done) | (go_simp; with_reducible rfl)
      (try simp only [Act.put, List.setIfInBounds_toArray, List.set_cons_zero, List.set_cons_succ])
      refine wpAnyH_ready (rs := [8]) (by kernel_rfl) (by simp) ?_
      refine AllReadyH.cons (o := { dst := some 19, op := Op.call { callee := Callee.value (Operand.func 100), args := #[Operand.tmp 17, Operand.tmp 18], argTypes := #[69, 69] }, type := 4, pos := "l08_pages.go:12", after := #[{ on := 6, ground := Ground.data }, { on := 7, ground := Ground.data }, { on := 3, ground := Ground.chain }, { on := 3, ground := Ground.guard }], guard := some (3, true) }) rfl (fun K hK => ?_) AllReadyH.nil
      go_simp
      go_at_call 100
      refine (implBefore y.dev y.seq y.stamp y.kind y.item y.qty y.level y.undos x.dev x.seq x.stamp x.kind x.item x.qty x.level x.undos _).mono ?_
      rintro e z1 ⟨rfl, hbz1⟩
      rw [← HBv.out]
      have hS1 : z1.cell? ⟨w.heap.size, 0, none⟩ = some (.int .i64 x.dev) ∧ z1.cell? ⟨w.heap.size, 1, none⟩ = some (.int .i64 x.seq) ∧ z1.cell? ⟨w.heap.size, 2, none⟩ = some (.int .i64 x.stamp) ∧ z1.cell? ⟨w.heap.size, 3, none⟩ = some (.int .i64 x.kind) ∧ z1.cell? ⟨w.heap.size, 4, none⟩ = some (.string x.item) ∧ z1.cell? ⟨w.heap.size, 5, none⟩ = some (.int .i64 x.qty) ∧ z1.cell? ⟨w.heap.size, 6, none⟩ = some (.int .i64 x.level) ∧ z1.cell? ⟨w.heap.size, 7, none⟩ = some (.int .i64 x.undos) ∧ z1.cell? ⟨b, off, none⟩ = some (.int .i64 y.dev) ∧ z1.cell? ⟨b, off + 1, none⟩ = some (.int .i64 y.seq) ∧ z1.cell? ⟨b, off + 2, none⟩ = some (.int .i64 y.stamp) ∧ z1.cell? ⟨b, off + 3, none⟩ = some (.int .i64 y.kind) ∧ z1.cell? ⟨b, off + 4, none⟩ = some (.string y.item) ∧ z1.cell? ⟨b, off + 5, none⟩ = some (.int .i64 y.qty) ∧ z1.cell? ⟨b, off + 6, none⟩ = some (.int .i64 y.level) ∧ z1.cell? ⟨b, off + 7, none⟩ = some (.int .i64 y.undos) := by
        obtain ⟨q0, q1, q2, q3, q4, q5, q6, q7, q8, q9, q10, q11, q12, q13, q14, q15⟩ := hS
        exact ⟨(hbz1.cell (block_lt_of_cell q0)).trans q0, (hbz1.cell (block_lt_of_cell q1)).trans q1, (hbz1.cell (block_lt_of_cell q2)).trans q2, (hbz1.cell (block_lt_of_cell q3)).trans q3, (hbz1.cell (block_lt_of_cell q4)).trans q4, (hbz1.cell (block_lt_of_cell q5)).trans q5, (hbz1.cell (block_lt_of_cell q6)).trans q6, (hbz1.cell (block_lt_of_cell q7)).trans q7, (hbz1.cell (block_lt_of_cell q8)).trans q8, (hbz1.cell (block_lt_of_cell q9)).trans q9, (hbz1.cell (block_lt_of_cell q10)).trans q10, (hbz1.cell (block_lt_of_cell q11)).trans q11, (hbz1.cell (block_lt_of_cell q12)).trans q12, (hbz1.cell (block_lt_of_cell q13)).trans q13, (hbz1.cell (block_lt_of_cell q14)).trans q14, (hbz1.cell (block_lt_of_cell q15)).trans q15⟩
      refine hK.out _ _ hS1 (fun hHeld2 => ?_)
      clear hK K
      (try simp only [Act.put, List.setIfInBounds_toArray, List.set_cons_zero, List.set_cons_succ])
      refine wpAnyH_take (i := 9) (oi := { dst := some 20, op := Op.pick (Operand.tmp 14) (Operand.tmp 19) (Operand.const (Value.bool false)), type := 4, pos := "l08_pages.go:12", after := #[{ on := 3, ground := Ground.data }, { on := 8, ground := Ground.data }], guard := none }) (v := ?_) rfl (by kernel_rfl) (by kernel_rfl) (by kernel_rfl) (fun _ _ _ h => h) (Or.inl ⟨by rfl, ?_⟩) (by assumption) ?_
      rotate_left
      · intro w hSw
        (try dsimp only at hSw)
        first | (go_simp; done) | (go_simp; with_reducible rfl)
      (try simp only [Act.put, List.setIfInBounds_toArray, List.set_cons_zero, List.set_cons_succ])
      refine wpAnyH_done (by kernel_rfl) ?_ _
      have hc1 : Below wr.heap.size wr z1 := Below.mk hbz1.os hbz1.tape hbz1.output hbz1.size hbz1.block
      have HBz := Lib.hid (HBr.out.trans (hc1.mono HBr.out.size))
      clear hS hS1 hHeld hHeld2 hbz1 hc1 d0 d1 d2 d3 d4 d5 d6 d7 e0 e1 e2 e3 e4 e5 e6 e7
      rcases hbf : befV y x with _ | _
      · have HK2 := Lib.hid (HS1.out (by rw [HHd.out, hbf]; rfl))
        clear hbf
        go_wp2
        simp only [← hA]
        clear hA
        go_roundw
        case rel => exact ⟨4, by omega, by go_num, HK2, HBz⟩
        case measure => simp [intOf]
      · have HF := Lib.hid (HNo.out (by rw [HHd.out, hbf]; rfl))
        clear hbf
        go_wp2
        go_ret
        exact ⟨by rw [HF.out]; rfl, HB.out.trans (HBz.out.mono HB.out.size)⟩
end Go.Proofs.Ytjdodonhhlppjaa
