/- Walks and mathematics that several claims share, part 28. -/
import Derived.Test.YtejhmakfbmhhhaaGreatGx27
import Derived.Deep.Onto
import Derived.Deep.Cut
import Derived.Test.YtejhmakfbmhhhaaGreatGxA
namespace Go.Proofs.YtejhmakfbmhhhaaGreat
set_option maxRecDepth 100000
open Go.RowKit

end Go.Proofs.YtejhmakfbmhhhaaGreat

namespace Go.Proofs.YtejhmakfbmhhhaaGreat
set_option maxRecDepth 100000
open Go.RowKit

def befV (a b : OpV) : Bool := befB a.dev a.seq a.stamp a.kind a.item a.qty a.level a.undos b.dev b.seq b.stamp b.kind b.item b.qty b.level b.undos
/-- Does the list's first operation, if there is one, not precede x? -/
def headOk (L : List OpV) (x : OpV) : Bool := decide (L.length = 0) || !(befV (atOp L 0) x)
def precB (R : Nat → List OpV) (x : OpV) : Bool := (List.range 4).all fun e => headOk (R e) x
theorem prec_no {R : Nat → List OpV} {x : OpV} {e : Nat} (he : e < 4) (h : headOk (R e) x = false) : precB R x = false := by
 unfold precB
 rw [List.all_eq_false]
 exact ⟨e, by simpa using he, by simp [h]⟩
theorem prec_yes {R : Nat → List OpV} {x : OpV} (h : ∀ e, e < 4 → headOk (R e) x = true) : precB R x = true := by
 unfold precB
 rw [List.all_eq_true]
 intro e he
 exact h e (by simpa using he)
theorem headOk_nil {L : List OpV} {x : OpV} (h : L.length = 0) : headOk L x = true := by unfold headOk; rw [decide_eq_true h]; rfl
theorem headOk_at {L : List OpV} {x : OpV} (h : 0 < L.length) : headOk L x = !(befV (atOp L 0) x) := by unfold headOk; rw [decide_eq_false (by omega)]; rfl

set_option linter.unusedSimpArgs false in
set_option maxHeartbeats 80000000 in
theorem precedesNext (w : World) (B : Nat) (A : Nat → Option Addr) (N C : Nat → Nat) (R : Nat → List OpV) (x : OpV) (h : ∀ e, e < 4 → Ops w B (A e) (N e) (R e)) (hB : B ≤ w.heap.size) (hn : ∀ e, e < 4 → N e ≤ 1048576) :
  Calls Tryz.prog 62 #[.agg #[.int .i64 x.dev, .int .i64 x.seq, .int .i64 x.stamp, .int .i64 x.kind, .string x.item, .int .i64 x.qty, .int .i64 x.level, .int .i64 x.undos], .agg #[.slice (A 0) (N 0) (C 0), .slice (A 1) (N 1) (C 1), .slice (A 2) (N 2) (C 2), .slice (A 3) (N 3) (C 3)]] w fun e w' => e = .returned (.bool (precB R x)) ∧ Below w.heap.size w w' := by
 have hb0 : Below w.heap.size w ((w.alloc (.cells #[.int .i64 x.dev, .int .i64 x.seq, .int .i64 x.stamp, .int .i64 x.kind, .string x.item, .int .i64 x.qty, .int .i64 x.level, .int .i64 x.undos] 39)).alloc (.cells #[.slice (A 0) (N 0) (C 0), .slice (A 1) (N 1) (C 1), .slice (A 2) (N 2) (C 2), .slice (A 3) (N 3) (C 3)] 79)) := ((Below.refl _ w).alloc (Nat.le_refl _) _).alloc (by simp) _
 have HX : Hid (((w.alloc (.cells #[.int .i64 x.dev, .int .i64 x.seq, .int .i64 x.stamp, .int .i64 x.kind, .string x.item, .int .i64 x.qty, .int .i64 x.level, .int .i64 x.undos] 39)).alloc (.cells #[.slice (A 0) (N 0) (C 0), .slice (A 1) (N 1) (C 1), .slice (A 2) (N 2) (C 2), .slice (A 3) (N 3) (C 3)] 79)).heap[w.heap.size]? = some (.cells #[.int .i64 x.dev, .int .i64 x.seq, .int .i64 x.stamp, .int .i64 x.kind, .string x.item, .int .i64 x.qty, .int .i64 x.level, .int .i64 x.undos] 39 (0, 0))) := Lib.hid ((Below.heap_alloc _ _ _ (by simp)).trans (heap_alloc_new w _))
 have HR : Hid (((w.alloc (.cells #[.int .i64 x.dev, .int .i64 x.seq, .int .i64 x.stamp, .int .i64 x.kind, .string x.item, .int .i64 x.qty, .int .i64 x.level, .int .i64 x.undos] 39)).alloc (.cells #[.slice (A 0) (N 0) (C 0), .slice (A 1) (N 1) (C 1), .slice (A 2) (N 2) (C 2), .slice (A 3) (N 3) (C 3)] 79)).heap[w.heap.size + 1]? = some (.cells #[.slice (A 0) (N 0) (C 0), .slice (A 1) (N 1) (C 1), .slice (A 2) (N 2) (C 2), .slice (A 3) (N 3) (C 3)] 79 (0, 0))) := Lib.hid (by
  have e1 : (w.alloc (.cells #[.int .i64 x.dev, .int .i64 x.seq, .int .i64 x.stamp, .int .i64 x.kind, .string x.item, .int .i64 x.qty, .int .i64 x.level, .int .i64 x.undos] 39)).heap.size = w.heap.size + 1 := by simp
  rw [← e1]
  exact heap_alloc_new _ _)
 have HO := Lib.hid (fun e (he : e < 4) => (h e he).below hb0 hB)
 have HB := Lib.hid hb0
 have HN := Lib.hid hn
 clear h hb0 hn
 go_enter Tryz.func62, Tryz.ntmps62
 go_wp2_with fail
 generalize (w.alloc (.cells #[.int .i64 x.dev, .int .i64 x.seq, .int .i64 x.stamp, .int .i64 x.kind, .string x.item, .int .i64 x.qty, .int .i64 x.level, .int .i64 x.undos] 39)).alloc (.cells #[.slice (A 0) (N 0) (C 0), .slice (A 1) (N 1) (C 1), .slice (A 2) (N 2) (C 2), .slice (A 3) (N 3) (C 3)] 79) = w0 at HX HR HO HB ⊢
 have hlt1 := (Array.getElem?_eq_some_iff.1 HR.out).1
 have r0 := cell_of_row _ _ 0 _ _ _ HR.out
 have r1 := cell_of_row _ _ 1 _ _ _ HR.out
 have r2 := cell_of_row _ _ 2 _ _ _ HR.out
 have r3 := cell_of_row _ _ 3 _ _ _ HR.out
 simp only [List.getElem?_toArray, List.getElem?_cons_zero, List.getElem?_cons_succ] at r0 r1 r2 r3
 go_wp2
 have ix0 : ∀ (a0 a1 a2 a3 : Option Addr) (w : World), (Instr.index 79 (.agg #[.slice a0 (N 0) (C 0), .slice a1 (N 1) (C 1), .slice a2 (N 2) (C 2), .slice a3 (N 3) (C 3)]) (.int .i64 0)).run Tryz.prog w = .ok (.slice a0 (N 0) (C 0)) w := fun _ _ _ _ _ => by kernel_rfl
 have ix1 : ∀ (a0 a1 a2 a3 : Option Addr) (w : World), (Instr.index 79 (.agg #[.slice a0 (N 0) (C 0), .slice a1 (N 1) (C 1), .slice a2 (N 2) (C 2), .slice a3 (N 3) (C 3)]) (.int .i64 1)).run Tryz.prog w = .ok (.slice a1 (N 1) (C 1)) w := fun _ _ _ _ _ => by kernel_rfl
 have ix2 : ∀ (a0 a1 a2 a3 : Option Addr) (w : World), (Instr.index 79 (.agg #[.slice a0 (N 0) (C 0), .slice a1 (N 1) (C 1), .slice a2 (N 2) (C 2), .slice a3 (N 3) (C 3)]) (.int .i64 2)).run Tryz.prog w = .ok (.slice a2 (N 2) (C 2)) w := fun _ _ _ _ _ => by kernel_rfl
 have ix3 : ∀ (a0 a1 a2 a3 : Option Addr) (w : World), (Instr.index 79 (.agg #[.slice a0 (N 0) (C 0), .slice a1 (N 1) (C 1), .slice a2 (N 2) (C 2), .slice a3 (N 3) (C 3)]) (.int .i64 3)).run Tryz.prog w = .ok (.slice a3 (N 3) (C 3)) w := fun _ _ _ _ _ => by kernel_rfl
 go_loopw [8] (fun i wr => ∃ k : Nat, k ≤ 4 ∧ i = .int .i64 (k : Int) ∧ Hid (∀ e, e < k → headOk (R e) x = true) ∧ Hid (Below w0.heap.size w0 wr)) (fun i _ => 4 - (intOf i).toNat)
 case atStart => exact ⟨0, by omega, rfl, fun e he => absurd he (by omega), Below.refl _ _⟩
 case round =>
  obtain ⟨k, hk, rfl, HK, HBr⟩ := hrel
  clear r0 r1 r2 r3
  have hsr := HBr.out.size
  have hs0 := HB.out.size
  by_cases hlt : k < 4
  rotate_left
  ·obtain rfl : k = 4 := by omega
   have HF := Lib.hid (prec_yes (R := R) (x := x) HK.out)
   go_wp2
   go_ret
   exact ⟨by rw [HF.out]; rfl, HB.out.trans (HBr.out.mono HB.out.size)⟩
  obtain ⟨e0, e1, e2, e3, e4, e5, e6, e7⟩ := op_cells ((HBr.out.block _ (by omega)).trans HX.out)
  obtain rfl | rfl | rfl | rfl : k = 0 ∨ k = 1 ∨ k = 2 ∨ k = 3 := by omega
  ·have HOe := Lib.hid (HO.out 0 (by omega))
   have HNe := Lib.hid (HN.out 0 (by omega))
   have HNo := Lib.hid (fun h => prec_no (R := R) (x := x) (e := 0) (by omega) h)
   have hLe : (R 0).length = N 0 := HOe.out.1
   have HLe := Lib.hid hLe
   clear hLe
   have HS1 : Hid (headOk (R 0) x = true → ∀ e, e < 1 → headOk (R e) x = true) := fun h e he => by
    rcases Nat.lt_or_ge e 0 with h1 | h1
    ·exact HK.out e h1
    ·obtain rfl : e = 0 := by omega
     exact h
   by_cases hz : N 0 = 0
   ·have HK2 := Lib.hid (HS1.out (headOk_nil (by rw [HLe.out]; exact hz)))
    have hzi : decide (0 < N 0) = false := decide_eq_false (by omega)
    have hS : wr.drew.cell? ⟨w.heap.size, 0, none⟩ = some (.int .i64 x.dev) ∧ wr.drew.cell? ⟨w.heap.size, 1, none⟩ = some (.int .i64 x.seq) ∧ wr.drew.cell? ⟨w.heap.size, 2, none⟩ = some (.int .i64 x.stamp) ∧ wr.drew.cell? ⟨w.heap.size, 3, none⟩ = some (.int .i64 x.kind) ∧ wr.drew.cell? ⟨w.heap.size, 4, none⟩ = some (.string x.item) ∧ wr.drew.cell? ⟨w.heap.size, 5, none⟩ = some (.int .i64 x.qty) ∧ wr.drew.cell? ⟨w.heap.size, 6, none⟩ = some (.int .i64 x.level) ∧ wr.drew.cell? ⟨w.heap.size, 7, none⟩ = some (.int .i64 x.undos) := ⟨e0, e1, e2, e3, e4, e5, e6, e7⟩
    clear hz
    go_wp2_with fail
    refine wp_region_held_drew (S := fun w' => w'.cell? ⟨w.heap.size, 0, none⟩ = some (.int .i64 x.dev) ∧ w'.cell? ⟨w.heap.size, 1, none⟩ = some (.int .i64 x.seq) ∧ w'.cell? ⟨w.heap.size, 2, none⟩ = some (.int .i64 x.stamp) ∧ w'.cell? ⟨w.heap.size, 3, none⟩ = some (.int .i64 x.kind) ∧ w'.cell? ⟨w.heap.size, 4, none⟩ = some (.string x.item) ∧ w'.cell? ⟨w.heap.size, 5, none⟩ = some (.int .i64 x.qty) ∧ w'.cell? ⟨w.heap.size, 6, none⟩ = some (.int .i64 x.level) ∧ w'.cell? ⟨w.heap.size, 7, none⟩ = some (.int .i64 x.undos)) (by kernel_rfl) hS (fun hHeld => ?_)
    refine tk 0 { dst := some 11, op := .move (.tmp 6), type := 25, pos := "l08_pages.go:12", after := #[], guard := none } ?_
    (try simp only [Act.put, u1, u2, u3])
    refine tk 1 { dst := some 12, op := .call { callee := .builtin .len, args := #[.tmp 11], argTypes := #[25] }, type := 3, pos := "l08_pages.go:12", after := #[⟨0, .data⟩], guard := none } ?_
    (try simp only [Act.put, u1, u2, u3])
    refine tk 2 { dst := some 13, op := .binOp .gtr 3 (.tmp 12) (.const (Value.int IntKind.i64 0)) 3, type := 4, pos := "l08_pages.go:12", after := #[⟨1, .data⟩], guard := none } ?_
    (try simp only [Act.put, u1, u2, u3])
    refine tk 3 { dst := some 14, op := .move (.tmp 13), type := 4, pos := "l08_pages.go:12", after := #[⟨2, .data⟩], guard := none } ?_
    (try simp only [Act.put, u1, u2, u3])
    refine sk 4 { dst := some 15, op := .move (.tmp 6), type := 25, pos := "l08_pages.go:12", after := #[⟨3, .guard⟩], guard := some (3, true) } ?_
    (try simp only [Act.put, u1, u2, u3])
    refine sk 5 { dst := some 16, op := .indexAddr 25 (.tmp 15) (.const (Value.int IntKind.i64 0)), type := 0, pos := "l08_pages.go:12", after := #[⟨4, .data⟩, ⟨3, .guard⟩], guard := some (3, true) } ?_
    (try simp only [Act.put, u1, u2, u3])
    refine sk 6 { dst := some 17, op := .load 39 (.tmp 16), type := 39, pos := "l08_pages.go:12", after := #[⟨5, .data⟩, ⟨3, .guard⟩], guard := some (3, true) } ?_
    (try simp only [Act.put, u1, u2, u3])
    refine sk 7 { dst := some 18, op := .load 39 (.tmp 2), type := 39, pos := "l08_pages.go:12", after := #[⟨3, .guard⟩], guard := some (3, true) } ?_
    (try simp only [Act.put, u1, u2, u3])
    refine sk 8 { dst := some 19, op := .call { callee := .value (.func 92), args := #[.tmp 17, .tmp 18], argTypes := #[39, 39] }, type := 4, pos := "l08_pages.go:12", after := #[⟨6, .data⟩, ⟨7, .data⟩, ⟨3, .chain⟩, ⟨3, .guard⟩], guard := some (3, true) } ?_
    (try simp only [Act.put, u1, u2, u3])
    refine tk 9 { dst := some 20, op := .pick (.tmp 14) (.tmp 19) (.const (Value.bool false)), type := 4, pos := "l08_pages.go:12", after := #[⟨3, .data⟩, ⟨8, .data⟩], guard := none } ?_
    (try simp only [Act.put, u1, u2, u3])
    refine wpAnyH_done (by kernel_rfl) ?_ _
    have HBd : Hid (Below w0.heap.size w0 wr.drew) := ⟨HBr.out.os, HBr.out.tape, HBr.out.output, HBr.out.size, HBr.out.block⟩
    clear hS hHeld e0 e1 e2 e3 e4 e5 e6 e7
    go_wp2
    go_roundw
    case rel => exact ⟨1, by omega, by go_num, HK2, HBd⟩
    case measure => simp [intOf]
   have hzi : 0 < N 0 := by omega
   have hzi2 : (0 : Int) < (N 0 : Int) := by omega
   obtain ⟨b, off, hA, hb, ho⟩ := HOe.out.2 0 hzi
   have HOk : Hid (OpAt w0 b off (atOp (R 0) 0)) := by have := ho; rw [Nat.zero_mul, Nat.add_zero] at this; exact this
   clear ho hz
   have HHd := Lib.hid (headOk_at (L := R 0) (x := x) (by rw [HLe.out]; exact hzi))
   have HBv : Hid (befV (atOp (R 0) 0) x = befB (atOp (R 0) 0).dev (atOp (R 0) 0).seq (atOp (R 0) 0).stamp (atOp (R 0) 0).kind (atOp (R 0) 0).item (atOp (R 0) 0).qty (atOp (R 0) 0).level (atOp (R 0) 0).undos x.dev x.seq x.stamp x.kind x.item x.qty x.level x.undos) := rfl
   generalize atOp (R 0) 0 = y at HOk HHd HBv
   obtain ⟨d0, d1, d2, d3, d4, d5, d6, d7⟩ := HOk.out.kept (HBr.out.block b (by omega))
   have hS : wr.drew.cell? ⟨w.heap.size, 0, none⟩ = some (.int .i64 x.dev) ∧ wr.drew.cell? ⟨w.heap.size, 1, none⟩ = some (.int .i64 x.seq) ∧ wr.drew.cell? ⟨w.heap.size, 2, none⟩ = some (.int .i64 x.stamp) ∧ wr.drew.cell? ⟨w.heap.size, 3, none⟩ = some (.int .i64 x.kind) ∧ wr.drew.cell? ⟨w.heap.size, 4, none⟩ = some (.string x.item) ∧ wr.drew.cell? ⟨w.heap.size, 5, none⟩ = some (.int .i64 x.qty) ∧ wr.drew.cell? ⟨w.heap.size, 6, none⟩ = some (.int .i64 x.level) ∧ wr.drew.cell? ⟨w.heap.size, 7, none⟩ = some (.int .i64 x.undos) ∧ wr.drew.cell? ⟨b, off, none⟩ = some (.int .i64 y.dev) ∧ wr.drew.cell? ⟨b, off + 1, none⟩ = some (.int .i64 y.seq) ∧ wr.drew.cell? ⟨b, off + 2, none⟩ = some (.int .i64 y.stamp) ∧ wr.drew.cell? ⟨b, off + 3, none⟩ = some (.int .i64 y.kind) ∧ wr.drew.cell? ⟨b, off + 4, none⟩ = some (.string y.item) ∧ wr.drew.cell? ⟨b, off + 5, none⟩ = some (.int .i64 y.qty) ∧ wr.drew.cell? ⟨b, off + 6, none⟩ = some (.int .i64 y.level) ∧ wr.drew.cell? ⟨b, off + 7, none⟩ = some (.int .i64 y.undos) := ⟨e0, e1, e2, e3, e4, e5, e6, e7, d0, d1, d2, d3, d4, d5, d6, d7⟩
   go_wp2_with fail
   refine wp_region_held_drew (S := fun w' => w'.cell? ⟨w.heap.size, 0, none⟩ = some (.int .i64 x.dev) ∧ w'.cell? ⟨w.heap.size, 1, none⟩ = some (.int .i64 x.seq) ∧ w'.cell? ⟨w.heap.size, 2, none⟩ = some (.int .i64 x.stamp) ∧ w'.cell? ⟨w.heap.size, 3, none⟩ = some (.int .i64 x.kind) ∧ w'.cell? ⟨w.heap.size, 4, none⟩ = some (.string x.item) ∧ w'.cell? ⟨w.heap.size, 5, none⟩ = some (.int .i64 x.qty) ∧ w'.cell? ⟨w.heap.size, 6, none⟩ = some (.int .i64 x.level) ∧ w'.cell? ⟨w.heap.size, 7, none⟩ = some (.int .i64 x.undos) ∧ w'.cell? ⟨b, off, none⟩ = some (.int .i64 y.dev) ∧ w'.cell? ⟨b, off + 1, none⟩ = some (.int .i64 y.seq) ∧ w'.cell? ⟨b, off + 2, none⟩ = some (.int .i64 y.stamp) ∧ w'.cell? ⟨b, off + 3, none⟩ = some (.int .i64 y.kind) ∧ w'.cell? ⟨b, off + 4, none⟩ = some (.string y.item) ∧ w'.cell? ⟨b, off + 5, none⟩ = some (.int .i64 y.qty) ∧ w'.cell? ⟨b, off + 6, none⟩ = some (.int .i64 y.level) ∧ w'.cell? ⟨b, off + 7, none⟩ = some (.int .i64 y.undos)) (by kernel_rfl) hS (fun hHeld => ?_)
   refine tk 0 { dst := some 11, op := .move (.tmp 6), type := 25, pos := "l08_pages.go:12", after := #[], guard := none } ?_
   (try simp only [Act.put, u1, u2, u3])
   refine tk 1 { dst := some 12, op := .call { callee := .builtin .len, args := #[.tmp 11], argTypes := #[25] }, type := 3, pos := "l08_pages.go:12", after := #[⟨0, .data⟩], guard := none } ?_
   (try simp only [Act.put, u1, u2, u3])
   refine tk 2 { dst := some 13, op := .binOp .gtr 3 (.tmp 12) (.const (Value.int IntKind.i64 0)) 3, type := 4, pos := "l08_pages.go:12", after := #[⟨1, .data⟩], guard := none } ?_
   (try simp only [Act.put, u1, u2, u3])
   refine tk 3 { dst := some 14, op := .move (.tmp 13), type := 4, pos := "l08_pages.go:12", after := #[⟨2, .data⟩], guard := none } ?_
   (try simp only [Act.put, u1, u2, u3])
   refine tk 4 { dst := some 15, op := .move (.tmp 6), type := 25, pos := "l08_pages.go:12", after := #[⟨3, .guard⟩], guard := some (3, true) } ?_
   (try simp only [Act.put, u1, u2, u3])
   refine tk 5 { dst := some 16, op := .indexAddr 25 (.tmp 15) (.const (Value.int IntKind.i64 0)), type := 0, pos := "l08_pages.go:12", after := #[⟨4, .data⟩, ⟨3, .guard⟩], guard := some (3, true) } ?_
   (try simp only [Act.put, u1, u2, u3])
   refine tk 6 { dst := some 17, op := .load 39 (.tmp 16), type := 39, pos := "l08_pages.go:12", after := #[⟨5, .data⟩, ⟨3, .guard⟩], guard := some (3, true) } ?_
   (try simp only [Act.put, u1, u2, u3])
   refine tk 7 { dst := some 18, op := .load 39 (.tmp 2), type := 39, pos := "l08_pages.go:12", after := #[⟨3, .guard⟩], guard := some (3, true) } ?_
   (try simp only [Act.put, u1, u2, u3])
   refine wpAnyH_ready (rs := [8]) (by kernel_rfl) (by simp) ?_
   refine AllReadyH.cons (o := { dst := some 19, op := .call { callee := .value (.func 92), args := #[.tmp 17, .tmp 18], argTypes := #[39, 39] }, type := 4, pos := "l08_pages.go:12", after := #[⟨6, .data⟩, ⟨7, .data⟩, ⟨3, .chain⟩, ⟨3, .guard⟩], guard := some (3, true) }) rfl (fun K hK => ?_) AllReadyH.nil
   go_simp
   go_at_call 92
   refine (implBefore y.dev y.seq y.stamp y.kind y.item y.qty y.level y.undos x.dev x.seq x.stamp x.kind x.item x.qty x.level x.undos _).mono ?_
   rintro e z1 ⟨rfl, hbz1⟩
   rw [← HBv.out]
   have hS1 : z1.cell? ⟨w.heap.size, 0, none⟩ = some (.int .i64 x.dev) ∧ z1.cell? ⟨w.heap.size, 1, none⟩ = some (.int .i64 x.seq) ∧ z1.cell? ⟨w.heap.size, 2, none⟩ = some (.int .i64 x.stamp) ∧ z1.cell? ⟨w.heap.size, 3, none⟩ = some (.int .i64 x.kind) ∧ z1.cell? ⟨w.heap.size, 4, none⟩ = some (.string x.item) ∧ z1.cell? ⟨w.heap.size, 5, none⟩ = some (.int .i64 x.qty) ∧ z1.cell? ⟨w.heap.size, 6, none⟩ = some (.int .i64 x.level) ∧ z1.cell? ⟨w.heap.size, 7, none⟩ = some (.int .i64 x.undos) ∧ z1.cell? ⟨b, off, none⟩ = some (.int .i64 y.dev) ∧ z1.cell? ⟨b, off + 1, none⟩ = some (.int .i64 y.seq) ∧ z1.cell? ⟨b, off + 2, none⟩ = some (.int .i64 y.stamp) ∧ z1.cell? ⟨b, off + 3, none⟩ = some (.int .i64 y.kind) ∧ z1.cell? ⟨b, off + 4, none⟩ = some (.string y.item) ∧ z1.cell? ⟨b, off + 5, none⟩ = some (.int .i64 y.qty) ∧ z1.cell? ⟨b, off + 6, none⟩ = some (.int .i64 y.level) ∧ z1.cell? ⟨b, off + 7, none⟩ = some (.int .i64 y.undos) := by
    obtain ⟨q0, q1, q2, q3, q4, q5, q6, q7, q8, q9, q10, q11, q12, q13, q14, q15⟩ := hS
    exact ⟨(hbz1.cell (block_lt_of_cell q0)).trans q0, (hbz1.cell (block_lt_of_cell q1)).trans q1, (hbz1.cell (block_lt_of_cell q2)).trans q2, (hbz1.cell (block_lt_of_cell q3)).trans q3, (hbz1.cell (block_lt_of_cell q4)).trans q4, (hbz1.cell (block_lt_of_cell q5)).trans q5, (hbz1.cell (block_lt_of_cell q6)).trans q6, (hbz1.cell (block_lt_of_cell q7)).trans q7, (hbz1.cell (block_lt_of_cell q8)).trans q8, (hbz1.cell (block_lt_of_cell q9)).trans q9, (hbz1.cell (block_lt_of_cell q10)).trans q10, (hbz1.cell (block_lt_of_cell q11)).trans q11, (hbz1.cell (block_lt_of_cell q12)).trans q12, (hbz1.cell (block_lt_of_cell q13)).trans q13, (hbz1.cell (block_lt_of_cell q14)).trans q14, (hbz1.cell (block_lt_of_cell q15)).trans q15⟩
   refine hK.out _ _ hS1 (fun hHeld2 => ?_)
   clear hK K
   (try simp only [Act.put, u1, u2, u3])
   refine tk 9 { dst := some 20, op := .pick (.tmp 14) (.tmp 19) (.const (Value.bool false)), type := 4, pos := "l08_pages.go:12", after := #[⟨3, .data⟩, ⟨8, .data⟩], guard := none } ?_
   (try simp only [Act.put, u1, u2, u3])
   refine wpAnyH_done (by kernel_rfl) ?_ _
   have hc1 : Below wr.heap.size wr z1 := Below.mk hbz1.os hbz1.tape hbz1.output hbz1.size hbz1.block
   have HBz := Lib.hid (HBr.out.trans (hc1.mono HBr.out.size))
   clear hS hS1 hHeld hHeld2 hbz1 hc1 d0 d1 d2 d3 d4 d5 d6 d7 e0 e1 e2 e3 e4 e5 e6 e7
   rcases hbf : befV y x with _ | _
   ·have HK2 := Lib.hid (HS1.out (by rw [HHd.out, hbf]; rfl))
    clear hbf
    go_wp2
    simp only [← hA]
    clear hA
    go_roundw
    case rel => exact ⟨1, by omega, by go_num, HK2, HBz⟩
    case measure => simp [intOf]
   ·have HF := Lib.hid (HNo.out (by rw [HHd.out, hbf]; rfl))
    clear hbf
    go_wp2
    go_ret
    exact ⟨by rw [HF.out]; rfl, HB.out.trans (HBz.out.mono HB.out.size)⟩
  ·have HOe := Lib.hid (HO.out 1 (by omega))
   have HNe := Lib.hid (HN.out 1 (by omega))
   have HNo := Lib.hid (fun h => prec_no (R := R) (x := x) (e := 1) (by omega) h)
   have hLe : (R 1).length = N 1 := HOe.out.1
   have HLe := Lib.hid hLe
   clear hLe
   have HS1 : Hid (headOk (R 1) x = true → ∀ e, e < 2 → headOk (R e) x = true) := fun h e he => by
    rcases Nat.lt_or_ge e 1 with h1 | h1
    ·exact HK.out e h1
    ·obtain rfl : e = 1 := by omega
     exact h
   by_cases hz : N 1 = 0
   ·have HK2 := Lib.hid (HS1.out (headOk_nil (by rw [HLe.out]; exact hz)))
    have hzi : decide (0 < N 1) = false := decide_eq_false (by omega)
    have hS : wr.drew.cell? ⟨w.heap.size, 0, none⟩ = some (.int .i64 x.dev) ∧ wr.drew.cell? ⟨w.heap.size, 1, none⟩ = some (.int .i64 x.seq) ∧ wr.drew.cell? ⟨w.heap.size, 2, none⟩ = some (.int .i64 x.stamp) ∧ wr.drew.cell? ⟨w.heap.size, 3, none⟩ = some (.int .i64 x.kind) ∧ wr.drew.cell? ⟨w.heap.size, 4, none⟩ = some (.string x.item) ∧ wr.drew.cell? ⟨w.heap.size, 5, none⟩ = some (.int .i64 x.qty) ∧ wr.drew.cell? ⟨w.heap.size, 6, none⟩ = some (.int .i64 x.level) ∧ wr.drew.cell? ⟨w.heap.size, 7, none⟩ = some (.int .i64 x.undos) := ⟨e0, e1, e2, e3, e4, e5, e6, e7⟩
    clear hz
    go_wp2_with fail
    refine wp_region_held_drew (S := fun w' => w'.cell? ⟨w.heap.size, 0, none⟩ = some (.int .i64 x.dev) ∧ w'.cell? ⟨w.heap.size, 1, none⟩ = some (.int .i64 x.seq) ∧ w'.cell? ⟨w.heap.size, 2, none⟩ = some (.int .i64 x.stamp) ∧ w'.cell? ⟨w.heap.size, 3, none⟩ = some (.int .i64 x.kind) ∧ w'.cell? ⟨w.heap.size, 4, none⟩ = some (.string x.item) ∧ w'.cell? ⟨w.heap.size, 5, none⟩ = some (.int .i64 x.qty) ∧ w'.cell? ⟨w.heap.size, 6, none⟩ = some (.int .i64 x.level) ∧ w'.cell? ⟨w.heap.size, 7, none⟩ = some (.int .i64 x.undos)) (by kernel_rfl) hS (fun hHeld => ?_)
    refine tk 0 { dst := some 11, op := .move (.tmp 6), type := 25, pos := "l08_pages.go:12", after := #[], guard := none } ?_
    (try simp only [Act.put, u1, u2, u3])
    refine tk 1 { dst := some 12, op := .call { callee := .builtin .len, args := #[.tmp 11], argTypes := #[25] }, type := 3, pos := "l08_pages.go:12", after := #[⟨0, .data⟩], guard := none } ?_
    (try simp only [Act.put, u1, u2, u3])
    refine tk 2 { dst := some 13, op := .binOp .gtr 3 (.tmp 12) (.const (Value.int IntKind.i64 0)) 3, type := 4, pos := "l08_pages.go:12", after := #[⟨1, .data⟩], guard := none } ?_
    (try simp only [Act.put, u1, u2, u3])
    refine tk 3 { dst := some 14, op := .move (.tmp 13), type := 4, pos := "l08_pages.go:12", after := #[⟨2, .data⟩], guard := none } ?_
    (try simp only [Act.put, u1, u2, u3])
    refine sk 4 { dst := some 15, op := .move (.tmp 6), type := 25, pos := "l08_pages.go:12", after := #[⟨3, .guard⟩], guard := some (3, true) } ?_
    (try simp only [Act.put, u1, u2, u3])
    refine sk 5 { dst := some 16, op := .indexAddr 25 (.tmp 15) (.const (Value.int IntKind.i64 0)), type := 0, pos := "l08_pages.go:12", after := #[⟨4, .data⟩, ⟨3, .guard⟩], guard := some (3, true) } ?_
    (try simp only [Act.put, u1, u2, u3])
    refine sk 6 { dst := some 17, op := .load 39 (.tmp 16), type := 39, pos := "l08_pages.go:12", after := #[⟨5, .data⟩, ⟨3, .guard⟩], guard := some (3, true) } ?_
    (try simp only [Act.put, u1, u2, u3])
    refine sk 7 { dst := some 18, op := .load 39 (.tmp 2), type := 39, pos := "l08_pages.go:12", after := #[⟨3, .guard⟩], guard := some (3, true) } ?_
    (try simp only [Act.put, u1, u2, u3])
    refine sk 8 { dst := some 19, op := .call { callee := .value (.func 92), args := #[.tmp 17, .tmp 18], argTypes := #[39, 39] }, type := 4, pos := "l08_pages.go:12", after := #[⟨6, .data⟩, ⟨7, .data⟩, ⟨3, .chain⟩, ⟨3, .guard⟩], guard := some (3, true) } ?_
    (try simp only [Act.put, u1, u2, u3])
    refine tk 9 { dst := some 20, op := .pick (.tmp 14) (.tmp 19) (.const (Value.bool false)), type := 4, pos := "l08_pages.go:12", after := #[⟨3, .data⟩, ⟨8, .data⟩], guard := none } ?_
    (try simp only [Act.put, u1, u2, u3])
    refine wpAnyH_done (by kernel_rfl) ?_ _
    have HBd : Hid (Below w0.heap.size w0 wr.drew) := ⟨HBr.out.os, HBr.out.tape, HBr.out.output, HBr.out.size, HBr.out.block⟩
    clear hS hHeld e0 e1 e2 e3 e4 e5 e6 e7
    go_wp2
    go_roundw
    case rel => exact ⟨2, by omega, by go_num, HK2, HBd⟩
    case measure => simp [intOf]
   have hzi : 0 < N 1 := by omega
   have hzi2 : (0 : Int) < (N 1 : Int) := by omega
   obtain ⟨b, off, hA, hb, ho⟩ := HOe.out.2 0 hzi
   have HOk : Hid (OpAt w0 b off (atOp (R 1) 0)) := by have := ho; rw [Nat.zero_mul, Nat.add_zero] at this; exact this
   clear ho hz
   have HHd := Lib.hid (headOk_at (L := R 1) (x := x) (by rw [HLe.out]; exact hzi))
   have HBv : Hid (befV (atOp (R 1) 0) x = befB (atOp (R 1) 0).dev (atOp (R 1) 0).seq (atOp (R 1) 0).stamp (atOp (R 1) 0).kind (atOp (R 1) 0).item (atOp (R 1) 0).qty (atOp (R 1) 0).level (atOp (R 1) 0).undos x.dev x.seq x.stamp x.kind x.item x.qty x.level x.undos) := rfl
   generalize atOp (R 1) 0 = y at HOk HHd HBv
   obtain ⟨d0, d1, d2, d3, d4, d5, d6, d7⟩ := HOk.out.kept (HBr.out.block b (by omega))
   have hS : wr.drew.cell? ⟨w.heap.size, 0, none⟩ = some (.int .i64 x.dev) ∧ wr.drew.cell? ⟨w.heap.size, 1, none⟩ = some (.int .i64 x.seq) ∧ wr.drew.cell? ⟨w.heap.size, 2, none⟩ = some (.int .i64 x.stamp) ∧ wr.drew.cell? ⟨w.heap.size, 3, none⟩ = some (.int .i64 x.kind) ∧ wr.drew.cell? ⟨w.heap.size, 4, none⟩ = some (.string x.item) ∧ wr.drew.cell? ⟨w.heap.size, 5, none⟩ = some (.int .i64 x.qty) ∧ wr.drew.cell? ⟨w.heap.size, 6, none⟩ = some (.int .i64 x.level) ∧ wr.drew.cell? ⟨w.heap.size, 7, none⟩ = some (.int .i64 x.undos) ∧ wr.drew.cell? ⟨b, off, none⟩ = some (.int .i64 y.dev) ∧ wr.drew.cell? ⟨b, off + 1, none⟩ = some (.int .i64 y.seq) ∧ wr.drew.cell? ⟨b, off + 2, none⟩ = some (.int .i64 y.stamp) ∧ wr.drew.cell? ⟨b, off + 3, none⟩ = some (.int .i64 y.kind) ∧ wr.drew.cell? ⟨b, off + 4, none⟩ = some (.string y.item) ∧ wr.drew.cell? ⟨b, off + 5, none⟩ = some (.int .i64 y.qty) ∧ wr.drew.cell? ⟨b, off + 6, none⟩ = some (.int .i64 y.level) ∧ wr.drew.cell? ⟨b, off + 7, none⟩ = some (.int .i64 y.undos) := ⟨e0, e1, e2, e3, e4, e5, e6, e7, d0, d1, d2, d3, d4, d5, d6, d7⟩
   go_wp2_with fail
   refine wp_region_held_drew (S := fun w' => w'.cell? ⟨w.heap.size, 0, none⟩ = some (.int .i64 x.dev) ∧ w'.cell? ⟨w.heap.size, 1, none⟩ = some (.int .i64 x.seq) ∧ w'.cell? ⟨w.heap.size, 2, none⟩ = some (.int .i64 x.stamp) ∧ w'.cell? ⟨w.heap.size, 3, none⟩ = some (.int .i64 x.kind) ∧ w'.cell? ⟨w.heap.size, 4, none⟩ = some (.string x.item) ∧ w'.cell? ⟨w.heap.size, 5, none⟩ = some (.int .i64 x.qty) ∧ w'.cell? ⟨w.heap.size, 6, none⟩ = some (.int .i64 x.level) ∧ w'.cell? ⟨w.heap.size, 7, none⟩ = some (.int .i64 x.undos) ∧ w'.cell? ⟨b, off, none⟩ = some (.int .i64 y.dev) ∧ w'.cell? ⟨b, off + 1, none⟩ = some (.int .i64 y.seq) ∧ w'.cell? ⟨b, off + 2, none⟩ = some (.int .i64 y.stamp) ∧ w'.cell? ⟨b, off + 3, none⟩ = some (.int .i64 y.kind) ∧ w'.cell? ⟨b, off + 4, none⟩ = some (.string y.item) ∧ w'.cell? ⟨b, off + 5, none⟩ = some (.int .i64 y.qty) ∧ w'.cell? ⟨b, off + 6, none⟩ = some (.int .i64 y.level) ∧ w'.cell? ⟨b, off + 7, none⟩ = some (.int .i64 y.undos)) (by kernel_rfl) hS (fun hHeld => ?_)
   refine tk 0 { dst := some 11, op := .move (.tmp 6), type := 25, pos := "l08_pages.go:12", after := #[], guard := none } ?_
   (try simp only [Act.put, u1, u2, u3])
   refine tk 1 { dst := some 12, op := .call { callee := .builtin .len, args := #[.tmp 11], argTypes := #[25] }, type := 3, pos := "l08_pages.go:12", after := #[⟨0, .data⟩], guard := none } ?_
   (try simp only [Act.put, u1, u2, u3])
   refine tk 2 { dst := some 13, op := .binOp .gtr 3 (.tmp 12) (.const (Value.int IntKind.i64 0)) 3, type := 4, pos := "l08_pages.go:12", after := #[⟨1, .data⟩], guard := none } ?_
   (try simp only [Act.put, u1, u2, u3])
   refine tk 3 { dst := some 14, op := .move (.tmp 13), type := 4, pos := "l08_pages.go:12", after := #[⟨2, .data⟩], guard := none } ?_
   (try simp only [Act.put, u1, u2, u3])
   refine tk 4 { dst := some 15, op := .move (.tmp 6), type := 25, pos := "l08_pages.go:12", after := #[⟨3, .guard⟩], guard := some (3, true) } ?_
   (try simp only [Act.put, u1, u2, u3])
   refine tk 5 { dst := some 16, op := .indexAddr 25 (.tmp 15) (.const (Value.int IntKind.i64 0)), type := 0, pos := "l08_pages.go:12", after := #[⟨4, .data⟩, ⟨3, .guard⟩], guard := some (3, true) } ?_
   (try simp only [Act.put, u1, u2, u3])
   refine tk 6 { dst := some 17, op := .load 39 (.tmp 16), type := 39, pos := "l08_pages.go:12", after := #[⟨5, .data⟩, ⟨3, .guard⟩], guard := some (3, true) } ?_
   (try simp only [Act.put, u1, u2, u3])
   refine tk 7 { dst := some 18, op := .load 39 (.tmp 2), type := 39, pos := "l08_pages.go:12", after := #[⟨3, .guard⟩], guard := some (3, true) } ?_
   (try simp only [Act.put, u1, u2, u3])
   refine wpAnyH_ready (rs := [8]) (by kernel_rfl) (by simp) ?_
   refine AllReadyH.cons (o := { dst := some 19, op := .call { callee := .value (.func 92), args := #[.tmp 17, .tmp 18], argTypes := #[39, 39] }, type := 4, pos := "l08_pages.go:12", after := #[⟨6, .data⟩, ⟨7, .data⟩, ⟨3, .chain⟩, ⟨3, .guard⟩], guard := some (3, true) }) rfl (fun K hK => ?_) AllReadyH.nil
   go_simp
   go_at_call 92
   refine (implBefore y.dev y.seq y.stamp y.kind y.item y.qty y.level y.undos x.dev x.seq x.stamp x.kind x.item x.qty x.level x.undos _).mono ?_
   rintro e z1 ⟨rfl, hbz1⟩
   rw [← HBv.out]
   have hS1 : z1.cell? ⟨w.heap.size, 0, none⟩ = some (.int .i64 x.dev) ∧ z1.cell? ⟨w.heap.size, 1, none⟩ = some (.int .i64 x.seq) ∧ z1.cell? ⟨w.heap.size, 2, none⟩ = some (.int .i64 x.stamp) ∧ z1.cell? ⟨w.heap.size, 3, none⟩ = some (.int .i64 x.kind) ∧ z1.cell? ⟨w.heap.size, 4, none⟩ = some (.string x.item) ∧ z1.cell? ⟨w.heap.size, 5, none⟩ = some (.int .i64 x.qty) ∧ z1.cell? ⟨w.heap.size, 6, none⟩ = some (.int .i64 x.level) ∧ z1.cell? ⟨w.heap.size, 7, none⟩ = some (.int .i64 x.undos) ∧ z1.cell? ⟨b, off, none⟩ = some (.int .i64 y.dev) ∧ z1.cell? ⟨b, off + 1, none⟩ = some (.int .i64 y.seq) ∧ z1.cell? ⟨b, off + 2, none⟩ = some (.int .i64 y.stamp) ∧ z1.cell? ⟨b, off + 3, none⟩ = some (.int .i64 y.kind) ∧ z1.cell? ⟨b, off + 4, none⟩ = some (.string y.item) ∧ z1.cell? ⟨b, off + 5, none⟩ = some (.int .i64 y.qty) ∧ z1.cell? ⟨b, off + 6, none⟩ = some (.int .i64 y.level) ∧ z1.cell? ⟨b, off + 7, none⟩ = some (.int .i64 y.undos) := by
    obtain ⟨q0, q1, q2, q3, q4, q5, q6, q7, q8, q9, q10, q11, q12, q13, q14, q15⟩ := hS
    exact ⟨(hbz1.cell (block_lt_of_cell q0)).trans q0, (hbz1.cell (block_lt_of_cell q1)).trans q1, (hbz1.cell (block_lt_of_cell q2)).trans q2, (hbz1.cell (block_lt_of_cell q3)).trans q3, (hbz1.cell (block_lt_of_cell q4)).trans q4, (hbz1.cell (block_lt_of_cell q5)).trans q5, (hbz1.cell (block_lt_of_cell q6)).trans q6, (hbz1.cell (block_lt_of_cell q7)).trans q7, (hbz1.cell (block_lt_of_cell q8)).trans q8, (hbz1.cell (block_lt_of_cell q9)).trans q9, (hbz1.cell (block_lt_of_cell q10)).trans q10, (hbz1.cell (block_lt_of_cell q11)).trans q11, (hbz1.cell (block_lt_of_cell q12)).trans q12, (hbz1.cell (block_lt_of_cell q13)).trans q13, (hbz1.cell (block_lt_of_cell q14)).trans q14, (hbz1.cell (block_lt_of_cell q15)).trans q15⟩
   refine hK.out _ _ hS1 (fun hHeld2 => ?_)
   clear hK K
   (try simp only [Act.put, u1, u2, u3])
   refine tk 9 { dst := some 20, op := .pick (.tmp 14) (.tmp 19) (.const (Value.bool false)), type := 4, pos := "l08_pages.go:12", after := #[⟨3, .data⟩, ⟨8, .data⟩], guard := none } ?_
   (try simp only [Act.put, u1, u2, u3])
   refine wpAnyH_done (by kernel_rfl) ?_ _
   have hc1 : Below wr.heap.size wr z1 := Below.mk hbz1.os hbz1.tape hbz1.output hbz1.size hbz1.block
   have HBz := Lib.hid (HBr.out.trans (hc1.mono HBr.out.size))
   clear hS hS1 hHeld hHeld2 hbz1 hc1 d0 d1 d2 d3 d4 d5 d6 d7 e0 e1 e2 e3 e4 e5 e6 e7
   rcases hbf : befV y x with _ | _
   ·have HK2 := Lib.hid (HS1.out (by rw [HHd.out, hbf]; rfl))
    clear hbf
    go_wp2
    simp only [← hA]
    clear hA
    go_roundw
    case rel => exact ⟨2, by omega, by go_num, HK2, HBz⟩
    case measure => simp [intOf]
   ·have HF := Lib.hid (HNo.out (by rw [HHd.out, hbf]; rfl))
    clear hbf
    go_wp2
    go_ret
    exact ⟨by rw [HF.out]; rfl, HB.out.trans (HBz.out.mono HB.out.size)⟩
  ·have HOe := Lib.hid (HO.out 2 (by omega))
   have HNe := Lib.hid (HN.out 2 (by omega))
   have HNo := Lib.hid (fun h => prec_no (R := R) (x := x) (e := 2) (by omega) h)
   have hLe : (R 2).length = N 2 := HOe.out.1
   have HLe := Lib.hid hLe
   clear hLe
   have HS1 : Hid (headOk (R 2) x = true → ∀ e, e < 3 → headOk (R e) x = true) := fun h e he => by
    rcases Nat.lt_or_ge e 2 with h1 | h1
    ·exact HK.out e h1
    ·obtain rfl : e = 2 := by omega
     exact h
   by_cases hz : N 2 = 0
   ·have HK2 := Lib.hid (HS1.out (headOk_nil (by rw [HLe.out]; exact hz)))
    have hzi : decide (0 < N 2) = false := decide_eq_false (by omega)
    have hS : wr.drew.cell? ⟨w.heap.size, 0, none⟩ = some (.int .i64 x.dev) ∧ wr.drew.cell? ⟨w.heap.size, 1, none⟩ = some (.int .i64 x.seq) ∧ wr.drew.cell? ⟨w.heap.size, 2, none⟩ = some (.int .i64 x.stamp) ∧ wr.drew.cell? ⟨w.heap.size, 3, none⟩ = some (.int .i64 x.kind) ∧ wr.drew.cell? ⟨w.heap.size, 4, none⟩ = some (.string x.item) ∧ wr.drew.cell? ⟨w.heap.size, 5, none⟩ = some (.int .i64 x.qty) ∧ wr.drew.cell? ⟨w.heap.size, 6, none⟩ = some (.int .i64 x.level) ∧ wr.drew.cell? ⟨w.heap.size, 7, none⟩ = some (.int .i64 x.undos) := ⟨e0, e1, e2, e3, e4, e5, e6, e7⟩
    clear hz
    go_wp2_with fail
    refine wp_region_held_drew (S := fun w' => w'.cell? ⟨w.heap.size, 0, none⟩ = some (.int .i64 x.dev) ∧ w'.cell? ⟨w.heap.size, 1, none⟩ = some (.int .i64 x.seq) ∧ w'.cell? ⟨w.heap.size, 2, none⟩ = some (.int .i64 x.stamp) ∧ w'.cell? ⟨w.heap.size, 3, none⟩ = some (.int .i64 x.kind) ∧ w'.cell? ⟨w.heap.size, 4, none⟩ = some (.string x.item) ∧ w'.cell? ⟨w.heap.size, 5, none⟩ = some (.int .i64 x.qty) ∧ w'.cell? ⟨w.heap.size, 6, none⟩ = some (.int .i64 x.level) ∧ w'.cell? ⟨w.heap.size, 7, none⟩ = some (.int .i64 x.undos)) (by kernel_rfl) hS (fun hHeld => ?_)
    refine tk 0 { dst := some 11, op := .move (.tmp 6), type := 25, pos := "l08_pages.go:12", after := #[], guard := none } ?_
    (try simp only [Act.put, u1, u2, u3])
    refine tk 1 { dst := some 12, op := .call { callee := .builtin .len, args := #[.tmp 11], argTypes := #[25] }, type := 3, pos := "l08_pages.go:12", after := #[⟨0, .data⟩], guard := none } ?_
    (try simp only [Act.put, u1, u2, u3])
    refine tk 2 { dst := some 13, op := .binOp .gtr 3 (.tmp 12) (.const (Value.int IntKind.i64 0)) 3, type := 4, pos := "l08_pages.go:12", after := #[⟨1, .data⟩], guard := none } ?_
    (try simp only [Act.put, u1, u2, u3])
    refine tk 3 { dst := some 14, op := .move (.tmp 13), type := 4, pos := "l08_pages.go:12", after := #[⟨2, .data⟩], guard := none } ?_
    (try simp only [Act.put, u1, u2, u3])
    refine sk 4 { dst := some 15, op := .move (.tmp 6), type := 25, pos := "l08_pages.go:12", after := #[⟨3, .guard⟩], guard := some (3, true) } ?_
    (try simp only [Act.put, u1, u2, u3])
    refine sk 5 { dst := some 16, op := .indexAddr 25 (.tmp 15) (.const (Value.int IntKind.i64 0)), type := 0, pos := "l08_pages.go:12", after := #[⟨4, .data⟩, ⟨3, .guard⟩], guard := some (3, true) } ?_
    (try simp only [Act.put, u1, u2, u3])
    refine sk 6 { dst := some 17, op := .load 39 (.tmp 16), type := 39, pos := "l08_pages.go:12", after := #[⟨5, .data⟩, ⟨3, .guard⟩], guard := some (3, true) } ?_
    (try simp only [Act.put, u1, u2, u3])
    refine sk 7 { dst := some 18, op := .load 39 (.tmp 2), type := 39, pos := "l08_pages.go:12", after := #[⟨3, .guard⟩], guard := some (3, true) } ?_
    (try simp only [Act.put, u1, u2, u3])
    refine sk 8 { dst := some 19, op := .call { callee := .value (.func 92), args := #[.tmp 17, .tmp 18], argTypes := #[39, 39] }, type := 4, pos := "l08_pages.go:12", after := #[⟨6, .data⟩, ⟨7, .data⟩, ⟨3, .chain⟩, ⟨3, .guard⟩], guard := some (3, true) } ?_
    (try simp only [Act.put, u1, u2, u3])
    refine tk 9 { dst := some 20, op := .pick (.tmp 14) (.tmp 19) (.const (Value.bool false)), type := 4, pos := "l08_pages.go:12", after := #[⟨3, .data⟩, ⟨8, .data⟩], guard := none } ?_
    (try simp only [Act.put, u1, u2, u3])
    refine wpAnyH_done (by kernel_rfl) ?_ _
    have HBd : Hid (Below w0.heap.size w0 wr.drew) := ⟨HBr.out.os, HBr.out.tape, HBr.out.output, HBr.out.size, HBr.out.block⟩
    clear hS hHeld e0 e1 e2 e3 e4 e5 e6 e7
    go_wp2
    go_roundw
    case rel => exact ⟨3, by omega, by go_num, HK2, HBd⟩
    case measure => simp [intOf]
   have hzi : 0 < N 2 := by omega
   have hzi2 : (0 : Int) < (N 2 : Int) := by omega
   obtain ⟨b, off, hA, hb, ho⟩ := HOe.out.2 0 hzi
   have HOk : Hid (OpAt w0 b off (atOp (R 2) 0)) := by have := ho; rw [Nat.zero_mul, Nat.add_zero] at this; exact this
   clear ho hz
   have HHd := Lib.hid (headOk_at (L := R 2) (x := x) (by rw [HLe.out]; exact hzi))
   have HBv : Hid (befV (atOp (R 2) 0) x = befB (atOp (R 2) 0).dev (atOp (R 2) 0).seq (atOp (R 2) 0).stamp (atOp (R 2) 0).kind (atOp (R 2) 0).item (atOp (R 2) 0).qty (atOp (R 2) 0).level (atOp (R 2) 0).undos x.dev x.seq x.stamp x.kind x.item x.qty x.level x.undos) := rfl
   generalize atOp (R 2) 0 = y at HOk HHd HBv
   obtain ⟨d0, d1, d2, d3, d4, d5, d6, d7⟩ := HOk.out.kept (HBr.out.block b (by omega))
   have hS : wr.drew.cell? ⟨w.heap.size, 0, none⟩ = some (.int .i64 x.dev) ∧ wr.drew.cell? ⟨w.heap.size, 1, none⟩ = some (.int .i64 x.seq) ∧ wr.drew.cell? ⟨w.heap.size, 2, none⟩ = some (.int .i64 x.stamp) ∧ wr.drew.cell? ⟨w.heap.size, 3, none⟩ = some (.int .i64 x.kind) ∧ wr.drew.cell? ⟨w.heap.size, 4, none⟩ = some (.string x.item) ∧ wr.drew.cell? ⟨w.heap.size, 5, none⟩ = some (.int .i64 x.qty) ∧ wr.drew.cell? ⟨w.heap.size, 6, none⟩ = some (.int .i64 x.level) ∧ wr.drew.cell? ⟨w.heap.size, 7, none⟩ = some (.int .i64 x.undos) ∧ wr.drew.cell? ⟨b, off, none⟩ = some (.int .i64 y.dev) ∧ wr.drew.cell? ⟨b, off + 1, none⟩ = some (.int .i64 y.seq) ∧ wr.drew.cell? ⟨b, off + 2, none⟩ = some (.int .i64 y.stamp) ∧ wr.drew.cell? ⟨b, off + 3, none⟩ = some (.int .i64 y.kind) ∧ wr.drew.cell? ⟨b, off + 4, none⟩ = some (.string y.item) ∧ wr.drew.cell? ⟨b, off + 5, none⟩ = some (.int .i64 y.qty) ∧ wr.drew.cell? ⟨b, off + 6, none⟩ = some (.int .i64 y.level) ∧ wr.drew.cell? ⟨b, off + 7, none⟩ = some (.int .i64 y.undos) := ⟨e0, e1, e2, e3, e4, e5, e6, e7, d0, d1, d2, d3, d4, d5, d6, d7⟩
   go_wp2_with fail
   refine wp_region_held_drew (S := fun w' => w'.cell? ⟨w.heap.size, 0, none⟩ = some (.int .i64 x.dev) ∧ w'.cell? ⟨w.heap.size, 1, none⟩ = some (.int .i64 x.seq) ∧ w'.cell? ⟨w.heap.size, 2, none⟩ = some (.int .i64 x.stamp) ∧ w'.cell? ⟨w.heap.size, 3, none⟩ = some (.int .i64 x.kind) ∧ w'.cell? ⟨w.heap.size, 4, none⟩ = some (.string x.item) ∧ w'.cell? ⟨w.heap.size, 5, none⟩ = some (.int .i64 x.qty) ∧ w'.cell? ⟨w.heap.size, 6, none⟩ = some (.int .i64 x.level) ∧ w'.cell? ⟨w.heap.size, 7, none⟩ = some (.int .i64 x.undos) ∧ w'.cell? ⟨b, off, none⟩ = some (.int .i64 y.dev) ∧ w'.cell? ⟨b, off + 1, none⟩ = some (.int .i64 y.seq) ∧ w'.cell? ⟨b, off + 2, none⟩ = some (.int .i64 y.stamp) ∧ w'.cell? ⟨b, off + 3, none⟩ = some (.int .i64 y.kind) ∧ w'.cell? ⟨b, off + 4, none⟩ = some (.string y.item) ∧ w'.cell? ⟨b, off + 5, none⟩ = some (.int .i64 y.qty) ∧ w'.cell? ⟨b, off + 6, none⟩ = some (.int .i64 y.level) ∧ w'.cell? ⟨b, off + 7, none⟩ = some (.int .i64 y.undos)) (by kernel_rfl) hS (fun hHeld => ?_)
   refine tk 0 { dst := some 11, op := .move (.tmp 6), type := 25, pos := "l08_pages.go:12", after := #[], guard := none } ?_
   (try simp only [Act.put, u1, u2, u3])
   refine tk 1 { dst := some 12, op := .call { callee := .builtin .len, args := #[.tmp 11], argTypes := #[25] }, type := 3, pos := "l08_pages.go:12", after := #[⟨0, .data⟩], guard := none } ?_
   (try simp only [Act.put, u1, u2, u3])
   refine tk 2 { dst := some 13, op := .binOp .gtr 3 (.tmp 12) (.const (Value.int IntKind.i64 0)) 3, type := 4, pos := "l08_pages.go:12", after := #[⟨1, .data⟩], guard := none } ?_
   (try simp only [Act.put, u1, u2, u3])
   refine tk 3 { dst := some 14, op := .move (.tmp 13), type := 4, pos := "l08_pages.go:12", after := #[⟨2, .data⟩], guard := none } ?_
   (try simp only [Act.put, u1, u2, u3])
   refine tk 4 { dst := some 15, op := .move (.tmp 6), type := 25, pos := "l08_pages.go:12", after := #[⟨3, .guard⟩], guard := some (3, true) } ?_
   (try simp only [Act.put, u1, u2, u3])
   refine tk 5 { dst := some 16, op := .indexAddr 25 (.tmp 15) (.const (Value.int IntKind.i64 0)), type := 0, pos := "l08_pages.go:12", after := #[⟨4, .data⟩, ⟨3, .guard⟩], guard := some (3, true) } ?_
   (try simp only [Act.put, u1, u2, u3])
   refine tk 6 { dst := some 17, op := .load 39 (.tmp 16), type := 39, pos := "l08_pages.go:12", after := #[⟨5, .data⟩, ⟨3, .guard⟩], guard := some (3, true) } ?_
   (try simp only [Act.put, u1, u2, u3])
   refine tk 7 { dst := some 18, op := .load 39 (.tmp 2), type := 39, pos := "l08_pages.go:12", after := #[⟨3, .guard⟩], guard := some (3, true) } ?_
   (try simp only [Act.put, u1, u2, u3])
   refine wpAnyH_ready (rs := [8]) (by kernel_rfl) (by simp) ?_
   refine AllReadyH.cons (o := { dst := some 19, op := .call { callee := .value (.func 92), args := #[.tmp 17, .tmp 18], argTypes := #[39, 39] }, type := 4, pos := "l08_pages.go:12", after := #[⟨6, .data⟩, ⟨7, .data⟩, ⟨3, .chain⟩, ⟨3, .guard⟩], guard := some (3, true) }) rfl (fun K hK => ?_) AllReadyH.nil
   go_simp
   go_at_call 92
   refine (implBefore y.dev y.seq y.stamp y.kind y.item y.qty y.level y.undos x.dev x.seq x.stamp x.kind x.item x.qty x.level x.undos _).mono ?_
   rintro e z1 ⟨rfl, hbz1⟩
   rw [← HBv.out]
   have hS1 : z1.cell? ⟨w.heap.size, 0, none⟩ = some (.int .i64 x.dev) ∧ z1.cell? ⟨w.heap.size, 1, none⟩ = some (.int .i64 x.seq) ∧ z1.cell? ⟨w.heap.size, 2, none⟩ = some (.int .i64 x.stamp) ∧ z1.cell? ⟨w.heap.size, 3, none⟩ = some (.int .i64 x.kind) ∧ z1.cell? ⟨w.heap.size, 4, none⟩ = some (.string x.item) ∧ z1.cell? ⟨w.heap.size, 5, none⟩ = some (.int .i64 x.qty) ∧ z1.cell? ⟨w.heap.size, 6, none⟩ = some (.int .i64 x.level) ∧ z1.cell? ⟨w.heap.size, 7, none⟩ = some (.int .i64 x.undos) ∧ z1.cell? ⟨b, off, none⟩ = some (.int .i64 y.dev) ∧ z1.cell? ⟨b, off + 1, none⟩ = some (.int .i64 y.seq) ∧ z1.cell? ⟨b, off + 2, none⟩ = some (.int .i64 y.stamp) ∧ z1.cell? ⟨b, off + 3, none⟩ = some (.int .i64 y.kind) ∧ z1.cell? ⟨b, off + 4, none⟩ = some (.string y.item) ∧ z1.cell? ⟨b, off + 5, none⟩ = some (.int .i64 y.qty) ∧ z1.cell? ⟨b, off + 6, none⟩ = some (.int .i64 y.level) ∧ z1.cell? ⟨b, off + 7, none⟩ = some (.int .i64 y.undos) := by
    obtain ⟨q0, q1, q2, q3, q4, q5, q6, q7, q8, q9, q10, q11, q12, q13, q14, q15⟩ := hS
    exact ⟨(hbz1.cell (block_lt_of_cell q0)).trans q0, (hbz1.cell (block_lt_of_cell q1)).trans q1, (hbz1.cell (block_lt_of_cell q2)).trans q2, (hbz1.cell (block_lt_of_cell q3)).trans q3, (hbz1.cell (block_lt_of_cell q4)).trans q4, (hbz1.cell (block_lt_of_cell q5)).trans q5, (hbz1.cell (block_lt_of_cell q6)).trans q6, (hbz1.cell (block_lt_of_cell q7)).trans q7, (hbz1.cell (block_lt_of_cell q8)).trans q8, (hbz1.cell (block_lt_of_cell q9)).trans q9, (hbz1.cell (block_lt_of_cell q10)).trans q10, (hbz1.cell (block_lt_of_cell q11)).trans q11, (hbz1.cell (block_lt_of_cell q12)).trans q12, (hbz1.cell (block_lt_of_cell q13)).trans q13, (hbz1.cell (block_lt_of_cell q14)).trans q14, (hbz1.cell (block_lt_of_cell q15)).trans q15⟩
   refine hK.out _ _ hS1 (fun hHeld2 => ?_)
   clear hK K
   (try simp only [Act.put, u1, u2, u3])
   refine tk 9 { dst := some 20, op := .pick (.tmp 14) (.tmp 19) (.const (Value.bool false)), type := 4, pos := "l08_pages.go:12", after := #[⟨3, .data⟩, ⟨8, .data⟩], guard := none } ?_
   (try simp only [Act.put, u1, u2, u3])
   refine wpAnyH_done (by kernel_rfl) ?_ _
   have hc1 : Below wr.heap.size wr z1 := Below.mk hbz1.os hbz1.tape hbz1.output hbz1.size hbz1.block
   have HBz := Lib.hid (HBr.out.trans (hc1.mono HBr.out.size))
   clear hS hS1 hHeld hHeld2 hbz1 hc1 d0 d1 d2 d3 d4 d5 d6 d7 e0 e1 e2 e3 e4 e5 e6 e7
   rcases hbf : befV y x with _ | _
   ·have HK2 := Lib.hid (HS1.out (by rw [HHd.out, hbf]; rfl))
    clear hbf
    go_wp2
    simp only [← hA]
    clear hA
    go_roundw
    case rel => exact ⟨3, by omega, by go_num, HK2, HBz⟩
    case measure => simp [intOf]
   ·have HF := Lib.hid (HNo.out (by rw [HHd.out, hbf]; rfl))
    clear hbf
    go_wp2
    go_ret
    exact ⟨by rw [HF.out]; rfl, HB.out.trans (HBz.out.mono HB.out.size)⟩
  ·have HOe := Lib.hid (HO.out 3 (by omega))
   have HNe := Lib.hid (HN.out 3 (by omega))
   have HNo := Lib.hid (fun h => prec_no (R := R) (x := x) (e := 3) (by omega) h)
   have hLe : (R 3).length = N 3 := HOe.out.1
   have HLe := Lib.hid hLe
   clear hLe
   have HS1 : Hid (headOk (R 3) x = true → ∀ e, e < 4 → headOk (R e) x = true) := fun h e he => by
    rcases Nat.lt_or_ge e 3 with h1 | h1
    ·exact HK.out e h1
    ·obtain rfl : e = 3 := by omega
     exact h
   by_cases hz : N 3 = 0
   ·have HK2 := Lib.hid (HS1.out (headOk_nil (by rw [HLe.out]; exact hz)))
    have hzi : decide (0 < N 3) = false := decide_eq_false (by omega)
    have hS : wr.drew.cell? ⟨w.heap.size, 0, none⟩ = some (.int .i64 x.dev) ∧ wr.drew.cell? ⟨w.heap.size, 1, none⟩ = some (.int .i64 x.seq) ∧ wr.drew.cell? ⟨w.heap.size, 2, none⟩ = some (.int .i64 x.stamp) ∧ wr.drew.cell? ⟨w.heap.size, 3, none⟩ = some (.int .i64 x.kind) ∧ wr.drew.cell? ⟨w.heap.size, 4, none⟩ = some (.string x.item) ∧ wr.drew.cell? ⟨w.heap.size, 5, none⟩ = some (.int .i64 x.qty) ∧ wr.drew.cell? ⟨w.heap.size, 6, none⟩ = some (.int .i64 x.level) ∧ wr.drew.cell? ⟨w.heap.size, 7, none⟩ = some (.int .i64 x.undos) := ⟨e0, e1, e2, e3, e4, e5, e6, e7⟩
    clear hz
    go_wp2_with fail
    refine wp_region_held_drew (S := fun w' => w'.cell? ⟨w.heap.size, 0, none⟩ = some (.int .i64 x.dev) ∧ w'.cell? ⟨w.heap.size, 1, none⟩ = some (.int .i64 x.seq) ∧ w'.cell? ⟨w.heap.size, 2, none⟩ = some (.int .i64 x.stamp) ∧ w'.cell? ⟨w.heap.size, 3, none⟩ = some (.int .i64 x.kind) ∧ w'.cell? ⟨w.heap.size, 4, none⟩ = some (.string x.item) ∧ w'.cell? ⟨w.heap.size, 5, none⟩ = some (.int .i64 x.qty) ∧ w'.cell? ⟨w.heap.size, 6, none⟩ = some (.int .i64 x.level) ∧ w'.cell? ⟨w.heap.size, 7, none⟩ = some (.int .i64 x.undos)) (by kernel_rfl) hS (fun hHeld => ?_)
    refine tk 0 { dst := some 11, op := .move (.tmp 6), type := 25, pos := "l08_pages.go:12", after := #[], guard := none } ?_
    (try simp only [Act.put, u1, u2, u3])
    refine tk 1 { dst := some 12, op := .call { callee := .builtin .len, args := #[.tmp 11], argTypes := #[25] }, type := 3, pos := "l08_pages.go:12", after := #[⟨0, .data⟩], guard := none } ?_
    (try simp only [Act.put, u1, u2, u3])
    refine tk 2 { dst := some 13, op := .binOp .gtr 3 (.tmp 12) (.const (Value.int IntKind.i64 0)) 3, type := 4, pos := "l08_pages.go:12", after := #[⟨1, .data⟩], guard := none } ?_
    (try simp only [Act.put, u1, u2, u3])
    refine tk 3 { dst := some 14, op := .move (.tmp 13), type := 4, pos := "l08_pages.go:12", after := #[⟨2, .data⟩], guard := none } ?_
    (try simp only [Act.put, u1, u2, u3])
    refine sk 4 { dst := some 15, op := .move (.tmp 6), type := 25, pos := "l08_pages.go:12", after := #[⟨3, .guard⟩], guard := some (3, true) } ?_
    (try simp only [Act.put, u1, u2, u3])
    refine sk 5 { dst := some 16, op := .indexAddr 25 (.tmp 15) (.const (Value.int IntKind.i64 0)), type := 0, pos := "l08_pages.go:12", after := #[⟨4, .data⟩, ⟨3, .guard⟩], guard := some (3, true) } ?_
    (try simp only [Act.put, u1, u2, u3])
    refine sk 6 { dst := some 17, op := .load 39 (.tmp 16), type := 39, pos := "l08_pages.go:12", after := #[⟨5, .data⟩, ⟨3, .guard⟩], guard := some (3, true) } ?_
    (try simp only [Act.put, u1, u2, u3])
    refine sk 7 { dst := some 18, op := .load 39 (.tmp 2), type := 39, pos := "l08_pages.go:12", after := #[⟨3, .guard⟩], guard := some (3, true) } ?_
    (try simp only [Act.put, u1, u2, u3])
    refine sk 8 { dst := some 19, op := .call { callee := .value (.func 92), args := #[.tmp 17, .tmp 18], argTypes := #[39, 39] }, type := 4, pos := "l08_pages.go:12", after := #[⟨6, .data⟩, ⟨7, .data⟩, ⟨3, .chain⟩, ⟨3, .guard⟩], guard := some (3, true) } ?_
    (try simp only [Act.put, u1, u2, u3])
    refine tk 9 { dst := some 20, op := .pick (.tmp 14) (.tmp 19) (.const (Value.bool false)), type := 4, pos := "l08_pages.go:12", after := #[⟨3, .data⟩, ⟨8, .data⟩], guard := none } ?_
    (try simp only [Act.put, u1, u2, u3])
    refine wpAnyH_done (by kernel_rfl) ?_ _
    have HBd : Hid (Below w0.heap.size w0 wr.drew) := ⟨HBr.out.os, HBr.out.tape, HBr.out.output, HBr.out.size, HBr.out.block⟩
    clear hS hHeld e0 e1 e2 e3 e4 e5 e6 e7
    go_wp2
    go_roundw
    case rel => exact ⟨4, by omega, by go_num, HK2, HBd⟩
    case measure => simp [intOf]
   have hzi : 0 < N 3 := by omega
   have hzi2 : (0 : Int) < (N 3 : Int) := by omega
   obtain ⟨b, off, hA, hb, ho⟩ := HOe.out.2 0 hzi
   have HOk : Hid (OpAt w0 b off (atOp (R 3) 0)) := by have := ho; rw [Nat.zero_mul, Nat.add_zero] at this; exact this
   clear ho hz
   have HHd := Lib.hid (headOk_at (L := R 3) (x := x) (by rw [HLe.out]; exact hzi))
   have HBv : Hid (befV (atOp (R 3) 0) x = befB (atOp (R 3) 0).dev (atOp (R 3) 0).seq (atOp (R 3) 0).stamp (atOp (R 3) 0).kind (atOp (R 3) 0).item (atOp (R 3) 0).qty (atOp (R 3) 0).level (atOp (R 3) 0).undos x.dev x.seq x.stamp x.kind x.item x.qty x.level x.undos) := rfl
   generalize atOp (R 3) 0 = y at HOk HHd HBv
   obtain ⟨d0, d1, d2, d3, d4, d5, d6, d7⟩ := HOk.out.kept (HBr.out.block b (by omega))
   have hS : wr.drew.cell? ⟨w.heap.size, 0, none⟩ = some (.int .i64 x.dev) ∧ wr.drew.cell? ⟨w.heap.size, 1, none⟩ = some (.int .i64 x.seq) ∧ wr.drew.cell? ⟨w.heap.size, 2, none⟩ = some (.int .i64 x.stamp) ∧ wr.drew.cell? ⟨w.heap.size, 3, none⟩ = some (.int .i64 x.kind) ∧ wr.drew.cell? ⟨w.heap.size, 4, none⟩ = some (.string x.item) ∧ wr.drew.cell? ⟨w.heap.size, 5, none⟩ = some (.int .i64 x.qty) ∧ wr.drew.cell? ⟨w.heap.size, 6, none⟩ = some (.int .i64 x.level) ∧ wr.drew.cell? ⟨w.heap.size, 7, none⟩ = some (.int .i64 x.undos) ∧ wr.drew.cell? ⟨b, off, none⟩ = some (.int .i64 y.dev) ∧ wr.drew.cell? ⟨b, off + 1, none⟩ = some (.int .i64 y.seq) ∧ wr.drew.cell? ⟨b, off + 2, none⟩ = some (.int .i64 y.stamp) ∧ wr.drew.cell? ⟨b, off + 3, none⟩ = some (.int .i64 y.kind) ∧ wr.drew.cell? ⟨b, off + 4, none⟩ = some (.string y.item) ∧ wr.drew.cell? ⟨b, off + 5, none⟩ = some (.int .i64 y.qty) ∧ wr.drew.cell? ⟨b, off + 6, none⟩ = some (.int .i64 y.level) ∧ wr.drew.cell? ⟨b, off + 7, none⟩ = some (.int .i64 y.undos) := ⟨e0, e1, e2, e3, e4, e5, e6, e7, d0, d1, d2, d3, d4, d5, d6, d7⟩
   go_wp2_with fail
   refine wp_region_held_drew (S := fun w' => w'.cell? ⟨w.heap.size, 0, none⟩ = some (.int .i64 x.dev) ∧ w'.cell? ⟨w.heap.size, 1, none⟩ = some (.int .i64 x.seq) ∧ w'.cell? ⟨w.heap.size, 2, none⟩ = some (.int .i64 x.stamp) ∧ w'.cell? ⟨w.heap.size, 3, none⟩ = some (.int .i64 x.kind) ∧ w'.cell? ⟨w.heap.size, 4, none⟩ = some (.string x.item) ∧ w'.cell? ⟨w.heap.size, 5, none⟩ = some (.int .i64 x.qty) ∧ w'.cell? ⟨w.heap.size, 6, none⟩ = some (.int .i64 x.level) ∧ w'.cell? ⟨w.heap.size, 7, none⟩ = some (.int .i64 x.undos) ∧ w'.cell? ⟨b, off, none⟩ = some (.int .i64 y.dev) ∧ w'.cell? ⟨b, off + 1, none⟩ = some (.int .i64 y.seq) ∧ w'.cell? ⟨b, off + 2, none⟩ = some (.int .i64 y.stamp) ∧ w'.cell? ⟨b, off + 3, none⟩ = some (.int .i64 y.kind) ∧ w'.cell? ⟨b, off + 4, none⟩ = some (.string y.item) ∧ w'.cell? ⟨b, off + 5, none⟩ = some (.int .i64 y.qty) ∧ w'.cell? ⟨b, off + 6, none⟩ = some (.int .i64 y.level) ∧ w'.cell? ⟨b, off + 7, none⟩ = some (.int .i64 y.undos)) (by kernel_rfl) hS (fun hHeld => ?_)
   refine tk 0 { dst := some 11, op := .move (.tmp 6), type := 25, pos := "l08_pages.go:12", after := #[], guard := none } ?_
   (try simp only [Act.put, u1, u2, u3])
   refine tk 1 { dst := some 12, op := .call { callee := .builtin .len, args := #[.tmp 11], argTypes := #[25] }, type := 3, pos := "l08_pages.go:12", after := #[⟨0, .data⟩], guard := none } ?_
   (try simp only [Act.put, u1, u2, u3])
   refine tk 2 { dst := some 13, op := .binOp .gtr 3 (.tmp 12) (.const (Value.int IntKind.i64 0)) 3, type := 4, pos := "l08_pages.go:12", after := #[⟨1, .data⟩], guard := none } ?_
   (try simp only [Act.put, u1, u2, u3])
   refine tk 3 { dst := some 14, op := .move (.tmp 13), type := 4, pos := "l08_pages.go:12", after := #[⟨2, .data⟩], guard := none } ?_
   (try simp only [Act.put, u1, u2, u3])
   refine tk 4 { dst := some 15, op := .move (.tmp 6), type := 25, pos := "l08_pages.go:12", after := #[⟨3, .guard⟩], guard := some (3, true) } ?_
   (try simp only [Act.put, u1, u2, u3])
   refine tk 5 { dst := some 16, op := .indexAddr 25 (.tmp 15) (.const (Value.int IntKind.i64 0)), type := 0, pos := "l08_pages.go:12", after := #[⟨4, .data⟩, ⟨3, .guard⟩], guard := some (3, true) } ?_
   (try simp only [Act.put, u1, u2, u3])
   refine tk 6 { dst := some 17, op := .load 39 (.tmp 16), type := 39, pos := "l08_pages.go:12", after := #[⟨5, .data⟩, ⟨3, .guard⟩], guard := some (3, true) } ?_
   (try simp only [Act.put, u1, u2, u3])
   refine tk 7 { dst := some 18, op := .load 39 (.tmp 2), type := 39, pos := "l08_pages.go:12", after := #[⟨3, .guard⟩], guard := some (3, true) } ?_
   (try simp only [Act.put, u1, u2, u3])
   refine wpAnyH_ready (rs := [8]) (by kernel_rfl) (by simp) ?_
   refine AllReadyH.cons (o := { dst := some 19, op := .call { callee := .value (.func 92), args := #[.tmp 17, .tmp 18], argTypes := #[39, 39] }, type := 4, pos := "l08_pages.go:12", after := #[⟨6, .data⟩, ⟨7, .data⟩, ⟨3, .chain⟩, ⟨3, .guard⟩], guard := some (3, true) }) rfl (fun K hK => ?_) AllReadyH.nil
   go_simp
   go_at_call 92
   refine (implBefore y.dev y.seq y.stamp y.kind y.item y.qty y.level y.undos x.dev x.seq x.stamp x.kind x.item x.qty x.level x.undos _).mono ?_
   rintro e z1 ⟨rfl, hbz1⟩
   rw [← HBv.out]
   have hS1 : z1.cell? ⟨w.heap.size, 0, none⟩ = some (.int .i64 x.dev) ∧ z1.cell? ⟨w.heap.size, 1, none⟩ = some (.int .i64 x.seq) ∧ z1.cell? ⟨w.heap.size, 2, none⟩ = some (.int .i64 x.stamp) ∧ z1.cell? ⟨w.heap.size, 3, none⟩ = some (.int .i64 x.kind) ∧ z1.cell? ⟨w.heap.size, 4, none⟩ = some (.string x.item) ∧ z1.cell? ⟨w.heap.size, 5, none⟩ = some (.int .i64 x.qty) ∧ z1.cell? ⟨w.heap.size, 6, none⟩ = some (.int .i64 x.level) ∧ z1.cell? ⟨w.heap.size, 7, none⟩ = some (.int .i64 x.undos) ∧ z1.cell? ⟨b, off, none⟩ = some (.int .i64 y.dev) ∧ z1.cell? ⟨b, off + 1, none⟩ = some (.int .i64 y.seq) ∧ z1.cell? ⟨b, off + 2, none⟩ = some (.int .i64 y.stamp) ∧ z1.cell? ⟨b, off + 3, none⟩ = some (.int .i64 y.kind) ∧ z1.cell? ⟨b, off + 4, none⟩ = some (.string y.item) ∧ z1.cell? ⟨b, off + 5, none⟩ = some (.int .i64 y.qty) ∧ z1.cell? ⟨b, off + 6, none⟩ = some (.int .i64 y.level) ∧ z1.cell? ⟨b, off + 7, none⟩ = some (.int .i64 y.undos) := by
    obtain ⟨q0, q1, q2, q3, q4, q5, q6, q7, q8, q9, q10, q11, q12, q13, q14, q15⟩ := hS
    exact ⟨(hbz1.cell (block_lt_of_cell q0)).trans q0, (hbz1.cell (block_lt_of_cell q1)).trans q1, (hbz1.cell (block_lt_of_cell q2)).trans q2, (hbz1.cell (block_lt_of_cell q3)).trans q3, (hbz1.cell (block_lt_of_cell q4)).trans q4, (hbz1.cell (block_lt_of_cell q5)).trans q5, (hbz1.cell (block_lt_of_cell q6)).trans q6, (hbz1.cell (block_lt_of_cell q7)).trans q7, (hbz1.cell (block_lt_of_cell q8)).trans q8, (hbz1.cell (block_lt_of_cell q9)).trans q9, (hbz1.cell (block_lt_of_cell q10)).trans q10, (hbz1.cell (block_lt_of_cell q11)).trans q11, (hbz1.cell (block_lt_of_cell q12)).trans q12, (hbz1.cell (block_lt_of_cell q13)).trans q13, (hbz1.cell (block_lt_of_cell q14)).trans q14, (hbz1.cell (block_lt_of_cell q15)).trans q15⟩
   refine hK.out _ _ hS1 (fun hHeld2 => ?_)
   clear hK K
   (try simp only [Act.put, u1, u2, u3])
   refine tk 9 { dst := some 20, op := .pick (.tmp 14) (.tmp 19) (.const (Value.bool false)), type := 4, pos := "l08_pages.go:12", after := #[⟨3, .data⟩, ⟨8, .data⟩], guard := none } ?_
   (try simp only [Act.put, u1, u2, u3])
   refine wpAnyH_done (by kernel_rfl) ?_ _
   have hc1 : Below wr.heap.size wr z1 := Below.mk hbz1.os hbz1.tape hbz1.output hbz1.size hbz1.block
   have HBz := Lib.hid (HBr.out.trans (hc1.mono HBr.out.size))
   clear hS hS1 hHeld hHeld2 hbz1 hc1 d0 d1 d2 d3 d4 d5 d6 d7 e0 e1 e2 e3 e4 e5 e6 e7
   rcases hbf : befV y x with _ | _
   ·have HK2 := Lib.hid (HS1.out (by rw [HHd.out, hbf]; rfl))
    clear hbf
    go_wp2
    simp only [← hA]
    clear hA
    go_roundw
    case rel => exact ⟨4, by omega, by go_num, HK2, HBz⟩
    case measure => simp [intOf]
   ·have HF := Lib.hid (HNo.out (by rw [HHd.out, hbf]; rfl))
    clear hbf
    go_wp2
    go_ret
    exact ⟨by rw [HF.out]; rfl, HB.out.trans (HBz.out.mono HB.out.size)⟩
end Go.Proofs.YtejhmakfbmhhhaaGreat

namespace Go.Proofs.YtejhmakfbmhhhaaGreat
set_option maxRecDepth 100000
open Go.RowKit

theorem bef_iff {a b : OpV} : befO a b = true ↔ a.stamp < b.stamp ∨ (a.stamp = b.stamp ∧ (a.dev < b.dev ∨ (a.dev = b.dev ∧ a.seq < b.seq))) := by unfold befO preB; exact decide_eq_true_iff
theorem bef_trans {a b c : OpV} (h1 : befO a b = true) (h2 : befO b c = true) : befO a c = true := by rw [bef_iff] at *; omega
theorem bef_irr {a : OpV} (h : befO a a = true) : False := by rw [bef_iff] at h; omega
theorem bef_total (a b : OpV) : befO a b = true ∨ befO b a = true ∨ (a.dev = b.dev ∧ a.seq = b.seq) := by rw [bef_iff, bef_iff]; omega
theorem befV_ok {a b : OpV} (ha : a.ok = true) (hb : b.ok = true) : befV a b = befO a b := by
 have ha' : opB a.dev a.seq a.stamp a.kind a.item a.qty a.level a.undos = true := ha
 have hb' : opB b.dev b.seq b.stamp b.kind b.item b.qty b.level b.undos = true := hb
 unfold befV befB
 rw [ha', hb']
 rfl
def SortedO (L : List OpV) : Prop := L.Pairwise fun a b => befO a b = true
theorem ins_nil (x : OpV) : insO [] x = [x] := rfl
theorem ins_pos {y : OpV} {L : List OpV} {x : OpV} (h : befO y x = true) : insO (y :: L) x = y :: insO L x := by
 have e : cntO (y :: L) x = cntO L x + 1 := by
  unfold cntO
  rw [List.takeWhile_cons_of_pos (by simpa using h)]
  rfl
 unfold insO
 rw [e]
 rfl
theorem ins_neg {y : OpV} {L : List OpV} {x : OpV} (h : befO y x = false) : insO (y :: L) x = x :: y :: L := by
 have e : cntO (y :: L) x = 0 := by
  unfold cntO
  rw [List.takeWhile_cons_of_neg (by simp [h])]
  rfl
 unfold insO
 rw [e]
 rfl
theorem ins_mem (L : List OpV) (x y : OpV) : y ∈ insO L x ↔ y ∈ L ∨ y = x := by
 have e := List.take_append_drop (cntO L x) L
 unfold insO
 constructor
 ·intro h
  rcases List.mem_append.1 h with h | h
  ·rcases List.mem_append.1 h with h | h
   ·exact Or.inl (List.mem_of_mem_take h)
   ·exact Or.inr (List.mem_singleton.1 h)
  ·exact Or.inl (List.mem_of_mem_drop h)
 ·rintro (h | rfl)
  ·rw [← e] at h
   rcases List.mem_append.1 h with h | h
   ·exact List.mem_append.2 (Or.inl (List.mem_append.2 (Or.inl h)))
   ·exact List.mem_append.2 (Or.inr h)
  ·exact List.mem_append.2 (Or.inl (List.mem_append.2 (Or.inr (List.mem_singleton.2 rfl))))
theorem ins_sorted : ∀ {L : List OpV} {x : OpV}, SortedO L → (∀ y ∈ L, befO y x = true ∨ befO x y = true) → SortedO (insO L x)
 | [], x, _, _ => by rw [ins_nil]; exact List.pairwise_singleton _ _
 | y :: L, x, h, ht => by
  have hc := List.pairwise_cons.1 h
  rcases hb : befO y x with _ | _
  ·rw [ins_neg hb]
   have hxy : befO x y = true := (ht y (List.mem_cons_self)).resolve_left (by rw [hb]; simp)
   refine List.pairwise_cons.2 ⟨fun z hz => ?_, h⟩
   rcases List.mem_cons.1 hz with rfl | hz
   ·exact hxy
   ·exact bef_trans hxy (hc.1 z hz)
  ·rw [ins_pos hb]
   refine List.pairwise_cons.2 ⟨fun z hz => ?_, ins_sorted hc.2 fun z hz => ht z (List.mem_cons_of_mem _ hz)⟩
   rcases (ins_mem L x z).1 hz with hz | rfl
   ·exact hc.1 z hz
   ·exact hb
theorem sort_mem (l : List OpV) : ∀ k, k ≤ l.length → ∀ y, y ∈ sortTo l k ↔ ∃ j, j < k ∧ atOp l j = y
 | 0, _, y => by
  have : sortTo l 0 = [] := by rw [sortTo, List.take_zero]; rfl
  rw [this]
  simp
 | k + 1, h, y => by
  rw [sort_step (by omega), ins_mem, sort_mem l k (by omega)]
  constructor
  ·rintro (⟨j, hj, e⟩ | rfl)
   ·exact ⟨j, by omega, e⟩
   ·exact ⟨k, by omega, rfl⟩
  ·rintro ⟨j, hj, e⟩
   rcases Nat.lt_or_ge j k with h1 | h1
   ·exact Or.inl ⟨j, h1, e⟩
   ·obtain rfl : j = k := by omega
    exact Or.inr e.symm
theorem sort_sorted {l : List OpV} (h : incB l = true) : ∀ k, k ≤ l.length → SortedO (sortTo l k)
 | 0, _ => by
  have : sortTo l 0 = [] := by rw [sortTo, List.take_zero]; rfl
  rw [this]
  exact List.Pairwise.nil
 | k + 1, hk => by
  rw [sort_step (by omega)]
  refine ins_sorted (sort_sorted h k (by omega)) fun y hy => ?_
  obtain ⟨j, hj, rfl⟩ := (sort_mem l k (by omega) y).1 hy
  rcases bef_total (atOp l j) (atOp l k) with h1 | h1 | h1
  ·exact Or.inl h1
  ·exact Or.inr h1
  ·have := inc_uniq h (i := j) (j := k) (by omega) (by omega) (dev := (atOp l k).dev) (seq := (atOp l k).seq) h1 ⟨rfl, rfl⟩
   omega
theorem run_sorted {l : List OpV} {dev st c : Nat} (h : runB l dev st c = true) : ∀ i j, i < j → j < c → (atOp l (st + i)).stamp < (atOp l (st + j)).stamp := by
 intro i j hij hj
 induction j with
 | zero => omega
 | succ j ih =>
  have hf : fitB l dev st (j + 1) = true := by
   unfold runB at h
   rw [List.all_eq_true] at h
   exact h _ (by simpa using hj)
  unfold fitB at hf
  simp only [Bool.and_eq_true, decide_eq_true_eq] at hf
  rw [prev_step] at hf
  have hl := hf.2.2.2
  rcases Nat.lt_or_ge i j with h1 | h1
  ·exact Int.lt_trans (ih h1 (by omega)) hl
  ·obtain rfl : i = j := by omega
   exact hl
theorem seg_sorted {xs : List Int} {l : List OpV} {d : Nat} (h : devB xs l d = true) : SortedO (segOf xs l d) := by
 unfold devB at h
 rw [Bool.and_eq_true] at h
 refine List.pairwise_iff_getElem.2 fun i j hi hj hij => ?_
 have hjc : j < (xs.getD d 0).toNat := by unfold segOf at hj; rw [List.length_take] at hj; omega
 have e : ∀ i (hi : i < (segOf xs l d).length), (segOf xs l d)[i] = atOp (segOf xs l d) i := fun i hi => by
  unfold atOp; rw [List.getD_eq_getElem?_getD, List.getElem?_eq_getElem hi]; rfl
 rw [e i hi, e j hj]
 unfold segOf
 rw [at_cut (by omega), at_cut hjc, bef_iff]
 exact Or.inl (run_sorted h.2 i j hij hjc)
/-- What is left of the lists, R, is what is left of the history, T. -/
structure Merge (T : List OpV) (R : Nat → List OpV) : Prop where
 srt : SortedO T
 mem : ∀ y, y ∈ T ↔ ∃ e, e < 4 ∧ y ∈ R e
 run : ∀ e, e < 4 → SortedO (R e)
 dev : ∀ e, e < 4 → ∀ y ∈ R e, y.dev = (e : Int)
 ok : ∀ e, e < 4 → ∀ y ∈ R e, y.ok = true
theorem prec_all {R : Nat → List OpV} {x : OpV} (h : precB R x = true) {e : Nat} (he : e < 4) : headOk (R e) x = true := by
 unfold precB at h
 rw [List.all_eq_true] at h
 exact h e (by simpa using he)
theorem head_cons {y x : OpV} {r : List OpV} (h : headOk (y :: r) x = true) (hy : y.ok = true) (hx : x.ok = true) : befO y x = false := by
 rw [headOk_at (by simp)] at h
 have e : atOp (y :: r) 0 = y := rfl
 rw [e, befV_ok hy hx] at h
 simpa using h
theorem Merge.step {T : List OpV} {R : Nat → List OpV} (h : Merge T R) {d : Nat} (hd : d < 4) {x : OpV} {rest : List OpV} (hR : R d = x :: rest) (hp : precB R x = true) :
  ∃ T', T = x :: T' ∧ Merge T' (fun e => if e = d then rest else R e) := by
 have hxd : x ∈ R d := by rw [hR]; exact List.mem_cons_self
 have hxT : x ∈ T := (h.mem x).2 ⟨d, hd, hxd⟩
 have hxok := h.ok d hd x hxd
 cases T with
 | nil => cases hxT
 | cons t T' =>
  have hc := List.pairwise_cons.1 h.srt
  obtain ⟨e, he, hte⟩ := (h.mem t).1 List.mem_cons_self
  have htx : t = x := by
   rcases List.mem_cons.1 hxT with rfl | hx'
   ·rfl
   have hb := hc.1 x hx'
   exfalso
   have hH := prec_all hp he
   cases hRe : R e with
   | nil => rw [hRe] at hte; cases hte
   | cons y r =>
    rw [hRe] at hH hte
    have hyok := h.ok e he y (by rw [hRe]; exact List.mem_cons_self)
    have hf := head_cons hH hyok hxok
    have hs := h.run e he
    rw [hRe] at hs
    rcases List.mem_cons.1 hte with rfl | ht
    ·rw [hb] at hf; cases hf
    ·rw [bef_trans ((List.pairwise_cons.1 hs).1 t ht) hb] at hf; cases hf
  subst htx
  refine ⟨T', rfl, hc.2, fun y => ?_, fun e he => ?_, fun e he y hy => ?_, fun e he y hy => ?_⟩
  ·constructor
   ·intro hy
    obtain ⟨e2, he2, hy2⟩ := (h.mem y).1 (List.mem_cons_of_mem _ hy)
    refine ⟨e2, he2, ?_⟩
    by_cases e3 : e2 = d
    ·subst e3
     rw [if_pos rfl]
     rw [hR] at hy2
     rcases List.mem_cons.1 hy2 with rfl | h2
     ·exact absurd (hc.1 y hy) (fun h => bef_irr h)
     ·exact h2
    ·rw [if_neg e3]; exact hy2
   ·rintro ⟨e2, he2, hy2⟩
    by_cases e3 : e2 = d
    ·subst e3
     rw [if_pos rfl] at hy2
     have hs := h.run e2 he2
     rw [hR] at hs
     have hb := (List.pairwise_cons.1 hs).1 y hy2
     rcases List.mem_cons.1 ((h.mem y).2 ⟨e2, he2, by rw [hR]; exact List.mem_cons_of_mem _ hy2⟩) with rfl | h2
     ·exact (bef_irr hb).elim
     ·exact h2
    ·rw [if_neg e3] at hy2
     rcases List.mem_cons.1 ((h.mem y).2 ⟨e2, he2, hy2⟩) with rfl | h2
     ·have h1 := h.dev e2 he2 y hy2
      have h2 := h.dev d hd y hxd
      omega
     ·exact h2
  ·by_cases e3 : e = d
   ·subst e3
    rw [if_pos rfl]
    have hs := h.run e he
    rw [hR] at hs
    exact (List.pairwise_cons.1 hs).2
   ·rw [if_neg e3]; exact h.run e he
  ·by_cases e3 : e = d
   ·subst e3
    rw [if_pos rfl] at hy
    exact h.dev e he y (by rw [hR]; exact List.mem_cons_of_mem _ hy)
   ·rw [if_neg e3] at hy; exact h.dev e he y hy
  ·by_cases e3 : e = d
   ·subst e3
    rw [if_pos rfl] at hy
    exact h.ok e he y (by rw [hR]; exact List.mem_cons_of_mem _ hy)
   ·rw [if_neg e3] at hy; exact h.ok e he y hy
theorem Merge.stuck {T : List OpV} {R : Nat → List OpV} (h : Merge T R) (hp : ∀ d, d < 4 → ∀ x rest, R d = x :: rest → precB R x = false) : T = [] := by
 cases T with
 | nil => rfl
 | cons t T' =>
  exfalso
  have hc := List.pairwise_cons.1 h.srt
  obtain ⟨d, hd, htd⟩ := (h.mem t).1 List.mem_cons_self
  have hmin : ∀ e, e < 4 → ∀ y ∈ R e, befO y t = true → False := fun e he y hy hb => by
   rcases List.mem_cons.1 ((h.mem y).2 ⟨e, he, hy⟩) with rfl | h2
   ·exact bef_irr hb
   ·exact bef_irr (bef_trans hb (hc.1 y h2))
  have htok := h.ok d hd t htd
  cases hRd : R d with
  | nil => rw [hRd] at htd; cases htd
  | cons y r =>
   have hyt : y = t := by
    have htd' := htd
    rw [hRd] at htd'
    rcases List.mem_cons.1 htd' with e | h2
    ·exact e.symm
    ·have hs := h.run d hd
     rw [hRd] at hs
     exact (hmin d hd y (by rw [hRd]; exact List.mem_cons_self) ((List.pairwise_cons.1 hs).1 t h2)).elim
   subst hyt
   have h1 := hp d hd y r hRd
   have h2 : precB R y = true := prec_yes fun e he => by
    cases hRe : R e with
    | nil => exact headOk_nil rfl
    | cons z r2 =>
     have hz : z ∈ R e := by rw [hRe]; exact List.mem_cons_self
     rw [headOk_at (by simp)]
     have e1 : atOp (z :: r2) 0 = z := rfl
     rw [e1, befV_ok (h.ok e he z hz) htok]
     rcases hb : befO z y with _ | _
     ·rfl
     ·exact (hmin e he z hz hb).elim
   rw [h1] at h2
   cases h2
theorem Merge.start {xs : List Int} {l : List OpV} (h : cartB xs l = true) : Merge (sortTo l l.length) (fun e => segOf xs l e) := by
 obtain ⟨_, h1, h2⟩ := cart_true h
 refine ⟨sort_sorted (cart_inc h) _ (Nat.le_refl _), fun y => ?_, fun e he => seg_sorted (h1 e he), fun e he y hy => (seg_dev (h1 e he) y hy).2, fun e he y hy => (seg_dev (h1 e he) y hy).1⟩
 have hm : y ∈ sortTo l l.length ↔ y ∈ l := by
  rw [sort_mem l _ (Nat.le_refl _)]
  constructor
  ·rintro ⟨j, hj, rfl⟩
   unfold atOp
   rw [List.getD_eq_getElem?_getD, List.getElem?_eq_getElem hj]
   exact List.getElem_mem _
  ·intro hy
   obtain ⟨j, hj, e⟩ := List.mem_iff_getElem.1 hy
   exact ⟨j, hj, by unfold atOp; rw [List.getD_eq_getElem?_getD, List.getElem?_eq_getElem hj]; exact e⟩
 rw [hm]
 constructor
 ·intro hy
  rw [list_segs (xs := xs) h2] at hy
  rcases List.mem_append.1 hy with h | h
  ·exact ⟨0, by omega, h⟩
  rcases List.mem_append.1 h with h | h
  ·exact ⟨1, by omega, h⟩
  rcases List.mem_append.1 h with h | h
  ·exact ⟨2, by omega, h⟩
  ·exact ⟨3, by omega, h⟩
 ·rintro ⟨e, he, hy⟩
  exact List.mem_of_mem_drop (List.mem_of_mem_take hy)
end Go.Proofs.YtejhmakfbmhhhaaGreat

namespace Go.Proofs.YtejhmakfbmhhhaaGreat
set_option maxRecDepth 100000
open Go.RowKit

def histL (xs : List Int) (l : List OpV) : List OpV := if cartB xs l = true then sortTo l l.length else []
theorem hist_no {xs : List Int} {l : List OpV} (h : cartB xs l = false) : histL xs l = [] := by unfold histL; rw [h]; rfl
theorem hist_yes {xs : List Int} {l : List OpV} (h : cartB xs l = true) : histL xs l = sortTo l l.length := by unfold histL; rw [if_pos h]
theorem hist_len (xs : List Int) (l : List OpV) : (histL xs l).length ≤ l.length := by
 rcases h : cartB xs l with _ | _
 ·rw [hist_no h]; exact Nat.zero_le _
 ·rw [hist_yes h, sort_len l l.length (Nat.le_refl _)]; exact Nat.le_refl _

end Go.Proofs.YtejhmakfbmhhhaaGreat
