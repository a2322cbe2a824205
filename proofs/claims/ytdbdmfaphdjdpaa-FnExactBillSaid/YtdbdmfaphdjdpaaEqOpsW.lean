/- The walks of laws.eqOp, eqOpS, eqCart, szCart and toCart on carts that are the same. -/
import Derived.Test.YtdbdmfaphdjdpaaToOpsW
import Derived.Deep.Cut
namespace Go.Proofs.Ytdbdmfaphdjdpaa
open Go.RowKit

set_option maxRecDepth 100000 in
theorem eqOpV (x : OpV) (w : World) : Calls Try.prog 112 #[.agg #[.int .i64 x.dev, .int .i64 x.seq, .int .i64 x.stamp, .int .i64 x.kind, .string x.item, .int .i64 x.qty, .int .i64 x.level, .int .i64 x.undos], .agg #[.int .i64 x.dev, .int .i64 x.seq, .int .i64 x.stamp, .int .i64 x.kind, .string x.item, .int .i64 x.qty, .int .i64 x.level, .int .i64 x.undos]] w fun e w' => e = .returned (.bool true) ∧ Below w.heap.size w w' := by
  obtain ⟨dev, seq, stamp, kind, item, qty, level, undos⟩ := x
  simp only
  go_enter Try.func112, Try.ntmps112
  go_wp2
  go_ret
  exact ⟨rfl, ((Below.refl _ _).alloc (Nat.le_refl _) _).alloc (by simp) _⟩
set_option maxRecDepth 100000 in
set_option maxHeartbeats 2000000 in
theorem eqOpsV (w : World) (B B' : Nat) (a a' : Option Addr) (n cap cap' : Nat) (l : List OpV) (h : Ops w B a n l) (h' : Ops w B' a' n l) (hB : B ≤ w.heap.size) (hB' : B' ≤ w.heap.size) (hn : n ≤ 1048576) :
    Calls Try.prog 55 #[.slice a n cap, .slice a' n cap'] w fun e w' => e = .returned (.bool true) ∧ Below w.heap.size w w' := by
  have H := Lib.hid h
  have H' := Lib.hid h'
  clear h h'
  go_enter Try.func55, Try.ntmps55
  go_wp2
  go_loopw [5] (fun i wr => ∃ k : Nat, k ≤ n ∧ i = .int .i64 k ∧ Hid (Below w.heap.size w wr)) (fun i _ => n - (intOf i).toNat)
  case atStart => exact ⟨0, Nat.zero_le _, rfl, Below.refl _ _⟩
  case round =>
    obtain ⟨k, hk, rfl, HB⟩ := hrel
    by_cases hlt : k < n
    · obtain ⟨b, off, rfl, hb, ho⟩ := H.out.2 k hlt
      obtain ⟨b', off', rfl, hb', ho'⟩ := H'.out.2 k hlt
      have q1 := ho.kept (HB.out.block b (by omega))
      have q2 := ho'.kept (HB.out.block b' (by omega))
      clear ho ho'
      generalize l.getD k OpV.zero = x at q1 q2
      have r1 := q1.kept (w' := wr.drew) rfl
      have r2 := q2.kept (w' := wr.drew) rfl
      obtain ⟨c0, c1, c2, c3, c4, c5, c6, c7⟩ := r1
      obtain ⟨d0, d1, d2, d3, d4, d5, d6, d7⟩ := r2
      have hS0 : wr.drew.cell? ⟨b, off + k * 8, none⟩ = some (.int .i64 x.dev) ∧ wr.drew.cell? ⟨b, off + k * 8 + 1, none⟩ = some (.int .i64 x.seq) ∧ wr.drew.cell? ⟨b, off + k * 8 + 2, none⟩ = some (.int .i64 x.stamp) ∧ wr.drew.cell? ⟨b, off + k * 8 + 3, none⟩ = some (.int .i64 x.kind) ∧ wr.drew.cell? ⟨b, off + k * 8 + 4, none⟩ = some (.string x.item) ∧ wr.drew.cell? ⟨b, off + k * 8 + 5, none⟩ = some (.int .i64 x.qty) ∧ wr.drew.cell? ⟨b, off + k * 8 + 6, none⟩ = some (.int .i64 x.level) ∧ wr.drew.cell? ⟨b, off + k * 8 + 7, none⟩ = some (.int .i64 x.undos) ∧ wr.drew.cell? ⟨b', off' + k * 8, none⟩ = some (.int .i64 x.dev) ∧ wr.drew.cell? ⟨b', off' + k * 8 + 1, none⟩ = some (.int .i64 x.seq) ∧ wr.drew.cell? ⟨b', off' + k * 8 + 2, none⟩ = some (.int .i64 x.stamp) ∧ wr.drew.cell? ⟨b', off' + k * 8 + 3, none⟩ = some (.int .i64 x.kind) ∧ wr.drew.cell? ⟨b', off' + k * 8 + 4, none⟩ = some (.string x.item) ∧ wr.drew.cell? ⟨b', off' + k * 8 + 5, none⟩ = some (.int .i64 x.qty) ∧ wr.drew.cell? ⟨b', off' + k * 8 + 6, none⟩ = some (.int .i64 x.level) ∧ wr.drew.cell? ⟨b', off' + k * 8 + 7, none⟩ = some (.int .i64 x.undos) := ⟨c0, c1, c2, c3, c4, c5, c6, c7, d0, d1, d2, d3, d4, d5, d6, d7⟩
      clear c0 c1 c2 c3 c4 c5 c6 c7 d0 d1 d2 d3 d4 d5 d6 d7
      have hk0 : (0 : Int) ≤ (k : Int) := by omega
      have hk1 : (k : Int) < (n : Int) := by omega
      go_wp2_with fail
      go_region_held3 (fun w' => w'.cell? ⟨b, off + k * 8, none⟩ = some (.int .i64 x.dev) ∧ w'.cell? ⟨b, off + k * 8 + 1, none⟩ = some (.int .i64 x.seq) ∧ w'.cell? ⟨b, off + k * 8 + 2, none⟩ = some (.int .i64 x.stamp) ∧ w'.cell? ⟨b, off + k * 8 + 3, none⟩ = some (.int .i64 x.kind) ∧ w'.cell? ⟨b, off + k * 8 + 4, none⟩ = some (.string x.item) ∧ w'.cell? ⟨b, off + k * 8 + 5, none⟩ = some (.int .i64 x.qty) ∧ w'.cell? ⟨b, off + k * 8 + 6, none⟩ = some (.int .i64 x.level) ∧ w'.cell? ⟨b, off + k * 8 + 7, none⟩ = some (.int .i64 x.undos) ∧ w'.cell? ⟨b', off' + k * 8, none⟩ = some (.int .i64 x.dev) ∧ w'.cell? ⟨b', off' + k * 8 + 1, none⟩ = some (.int .i64 x.seq) ∧ w'.cell? ⟨b', off' + k * 8 + 2, none⟩ = some (.int .i64 x.stamp) ∧ w'.cell? ⟨b', off' + k * 8 + 3, none⟩ = some (.int .i64 x.kind) ∧ w'.cell? ⟨b', off' + k * 8 + 4, none⟩ = some (.string x.item) ∧ w'.cell? ⟨b', off' + k * 8 + 5, none⟩ = some (.int .i64 x.qty) ∧ w'.cell? ⟨b', off' + k * 8 + 6, none⟩ = some (.int .i64 x.level) ∧ w'.cell? ⟨b', off' + k * 8 + 7, none⟩ = some (.int .i64 x.undos)) (first | with_reducible exact hS0 | with_reducible exact hS1)
        (first | (go_at_call 112; refine (eqOpV x _).mono ?_; rintro e w1 ⟨rfl, hb1⟩; have q3 := q1.kept (w' := w1) (hb1.block b (by show b < wr.heap.size; have := HB.out.size; omega)); have q4 := q2.kept (w' := w1) (hb1.block b' (by show b' < wr.heap.size; have := HB.out.size; omega)); obtain ⟨g0, g1, g2, g3, g4, g5, g6, g7⟩ := q3; obtain ⟨m0, m1, m2, m3, m4, m5, m6, m7⟩ := q4; have hS1 : w1.cell? ⟨b, off + k * 8, none⟩ = some (.int .i64 x.dev) ∧ w1.cell? ⟨b, off + k * 8 + 1, none⟩ = some (.int .i64 x.seq) ∧ w1.cell? ⟨b, off + k * 8 + 2, none⟩ = some (.int .i64 x.stamp) ∧ w1.cell? ⟨b, off + k * 8 + 3, none⟩ = some (.int .i64 x.kind) ∧ w1.cell? ⟨b, off + k * 8 + 4, none⟩ = some (.string x.item) ∧ w1.cell? ⟨b, off + k * 8 + 5, none⟩ = some (.int .i64 x.qty) ∧ w1.cell? ⟨b, off + k * 8 + 6, none⟩ = some (.int .i64 x.level) ∧ w1.cell? ⟨b, off + k * 8 + 7, none⟩ = some (.int .i64 x.undos) ∧ w1.cell? ⟨b', off' + k * 8, none⟩ = some (.int .i64 x.dev) ∧ w1.cell? ⟨b', off' + k * 8 + 1, none⟩ = some (.int .i64 x.seq) ∧ w1.cell? ⟨b', off' + k * 8 + 2, none⟩ = some (.int .i64 x.stamp) ∧ w1.cell? ⟨b', off' + k * 8 + 3, none⟩ = some (.int .i64 x.kind) ∧ w1.cell? ⟨b', off' + k * 8 + 4, none⟩ = some (.string x.item) ∧ w1.cell? ⟨b', off' + k * 8 + 5, none⟩ = some (.int .i64 x.qty) ∧ w1.cell? ⟨b', off' + k * 8 + 6, none⟩ = some (.int .i64 x.level) ∧ w1.cell? ⟨b', off' + k * 8 + 7, none⟩ = some (.int .i64 x.undos) := ⟨g0, g1, g2, g3, g4, g5, g6, g7, m0, m1, m2, m3, m4, m5, m6, m7⟩; clear g0 g1 g2 g3 g4 g5 g6 g7 m0 m1 m2 m3 m4 m5 m6 m7))
      have HB1 := Lib.hid (HB.out.trans ((Below.mk hb1.os hb1.tape hb1.output hb1.size hb1.block : Below wr.heap.size wr w1).mono HB.out.size))
      clear hS0 hS1 hb1 q1 q2
      go_wp2
      go_roundw
      case rel => exact ⟨k + 1, by omega, by go_num, HB1⟩
      case measure => simp [intOf]; omega
    · go_wp2
      go_ret
      exact ⟨rfl, HB.out⟩
end Go.Proofs.Ytdbdmfaphdjdpaa
