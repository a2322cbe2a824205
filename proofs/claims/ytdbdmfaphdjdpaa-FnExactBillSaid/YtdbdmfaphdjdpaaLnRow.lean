/- Rows of lines in memory: each element is 3 cells; the walks of laws.eqLine, eqLineS. -/
import Derived.Test.YtdbdmfaphdjdpaaIntsW
import Derived.Deep.Cut
import Derived.Deep.RegionHeld3
import Derived.RegionTactic
import Derived.Handy
import Derived.Below
namespace Go.Proofs.Ytdbdmfaphdjdpaa
open Go.RowKit
set_option linter.unusedVariables false

structure LnV where
  item : ByteArray
  qty : Int
  saved : Bool
def LnV.zero : LnV := ⟨⟨#[]⟩, 0, false⟩
def LnAt (w : World) (b off : Nat) (o : LnV) : Prop := w.cell? ⟨b, off, none⟩ = some (.string o.item) ∧ w.cell? ⟨b, off + 1, none⟩ = some (.int .i64 o.qty) ∧ w.cell? ⟨b, off + 2, none⟩ = some (.bool o.saved)
theorem LnAt.kept {w w' : World} {b off : Nat} {o : LnV} (h : LnAt w b off o) (hb : w'.heap[b]? = w.heap[b]?) : LnAt w' b off o := by
  obtain ⟨h0, h1, h2⟩ := h
  exact ⟨(World.cell?_of_block (a := ⟨b, off, none⟩) hb).trans h0, (World.cell?_of_block (a := ⟨b, off + 1, none⟩) hb).trans h1, (World.cell?_of_block (a := ⟨b, off + 2, none⟩) hb).trans h2⟩
/-- A slice of n offers that reads as l; its row lies below block B. -/
def Lns (w : World) (B : Nat) (a : Option Addr) (n : Nat) (l : List LnV) : Prop :=
  l.length = n ∧ ∀ i, i < n → ∃ b off, a = some ⟨b, off, none⟩ ∧ b < B ∧ LnAt w b (off + i * 3) (l.getD i LnV.zero)
theorem Lns.kept {w w' : World} {B : Nat} {a : Option Addr} {n : Nat} {l : List LnV} (h : Lns w B a n l) (hk : ∀ k, k < B → w'.heap[k]? = w.heap[k]?) : Lns w' B a n l :=
  ⟨h.1, fun i hi => by obtain ⟨b, off, e, hb, ho⟩ := h.2 i hi; exact ⟨b, off, e, hb, ho.kept (hk b hb)⟩⟩
theorem Lns.below {w w' : World} {B B' : Nat} {a : Option Addr} {n : Nat} {l : List LnV} (h : Lns w B a n l) (hb : Below B' w w') (hB : B ≤ B') : Lns w' B a n l :=
  h.kept fun k hk => hb.block k (by omega)
theorem Lns.more {w : World} {B B' : Nat} {a : Option Addr} {n : Nat} {l : List LnV} (h : Lns w B a n l) (hB : B ≤ B') : Lns w B' a n l :=
  ⟨h.1, fun i hi => by obtain ⟨b, off, e, hb, ho⟩ := h.2 i hi; exact ⟨b, off, e, by omega, ho⟩⟩
set_option maxRecDepth 100000 in
theorem eqLnE (x : LnV) (w : World) : Calls Try.prog 96 #[.agg #[.string x.item, .int .i64 x.qty, .bool x.saved], .agg #[.string x.item, .int .i64 x.qty, .bool x.saved]] w fun e w' => e = .returned (.bool true) ∧ Below w.heap.size w w' := by
  obtain ⟨item, qty, saved⟩ := x
  simp only
  go_enter Try.func96, Try.ntmps96
  go_wp2
  go_ret
  exact ⟨rfl, ((Below.refl _ _).alloc (Nat.le_refl _) _).alloc (by simp) _⟩
set_option maxRecDepth 100000 in
set_option maxHeartbeats 2000000 in
theorem eqLns (w : World) (B B' : Nat) (a a' : Option Addr) (n cap cap' : Nat) (l : List LnV) (h : Lns w B a n l) (h' : Lns w B' a' n l) (hB : B ≤ w.heap.size) (hB' : B' ≤ w.heap.size) (hn : n ≤ 1048576) :
    Calls Try.prog 35 #[.slice a n cap, .slice a' n cap'] w fun e w' => e = .returned (.bool true) ∧ Below w.heap.size w w' := by
  have H := Lib.hid h
  have H' := Lib.hid h'
  clear h h'
  go_enter Try.func35, Try.ntmps35
  go_wp2
  go_loopw [5] (fun i wr => ∃ k : Nat, k ≤ n ∧ i = .int .i64 k ∧ Hid (Below w.heap.size w wr)) (fun i _ => n - (intOf i).toNat)
  case atStart => exact ⟨0, Nat.zero_le _, rfl, Below.refl _ _⟩
  case round =>
    obtain ⟨k, hk, rfl, HB⟩ := hrel
    by_cases hlt : k < n
    · obtain ⟨b, off, rfl, hb, ho⟩ := H.out.2 k hlt
      obtain ⟨b', off', rfl, hb', ho'⟩ := H'.out.2 k hlt
      have q1 := ho.kept (HB.out.block b (by omega))
      have q2 := ho'.kept (HB.out.block b' (by omega))
      clear ho ho'
      generalize l.getD k LnV.zero = x at q1 q2
      have r1 := q1.kept (w' := wr.drew) rfl
      have r2 := q2.kept (w' := wr.drew) rfl
      obtain ⟨c0, c1, c2⟩ := r1
      obtain ⟨d0, d1, d2⟩ := r2
      have hS0 : wr.drew.cell? ⟨b, off + k * 3, none⟩ = some (.string x.item) ∧ wr.drew.cell? ⟨b, off + k * 3 + 1, none⟩ = some (.int .i64 x.qty) ∧ wr.drew.cell? ⟨b, off + k * 3 + 2, none⟩ = some (.bool x.saved) ∧ wr.drew.cell? ⟨b', off' + k * 3, none⟩ = some (.string x.item) ∧ wr.drew.cell? ⟨b', off' + k * 3 + 1, none⟩ = some (.int .i64 x.qty) ∧ wr.drew.cell? ⟨b', off' + k * 3 + 2, none⟩ = some (.bool x.saved) := ⟨c0, c1, c2, d0, d1, d2⟩
      clear c0 c1 c2 d0 d1 d2
      have hk0 : (0 : Int) ≤ (k : Int) := by omega
      have hk1 : (k : Int) < (n : Int) := by omega
      go_wp2_with fail
      go_region_held3 (fun w' => w'.cell? ⟨b, off + k * 3, none⟩ = some (.string x.item) ∧ w'.cell? ⟨b, off + k * 3 + 1, none⟩ = some (.int .i64 x.qty) ∧ w'.cell? ⟨b, off + k * 3 + 2, none⟩ = some (.bool x.saved) ∧ w'.cell? ⟨b', off' + k * 3, none⟩ = some (.string x.item) ∧ w'.cell? ⟨b', off' + k * 3 + 1, none⟩ = some (.int .i64 x.qty) ∧ w'.cell? ⟨b', off' + k * 3 + 2, none⟩ = some (.bool x.saved)) (first | with_reducible exact hS0 | with_reducible exact hS1)
        (first | (go_at_call 96; refine (eqLnE x _).mono ?_; rintro e w1 ⟨rfl, hb1⟩; have q3 := q1.kept (w' := w1) (hb1.block b (by show b < wr.heap.size; have := HB.out.size; omega)); have q4 := q2.kept (w' := w1) (hb1.block b' (by show b' < wr.heap.size; have := HB.out.size; omega)); obtain ⟨g0, g1, g2⟩ := q3; obtain ⟨m0, m1, m2⟩ := q4; have hS1 : w1.cell? ⟨b, off + k * 3, none⟩ = some (.string x.item) ∧ w1.cell? ⟨b, off + k * 3 + 1, none⟩ = some (.int .i64 x.qty) ∧ w1.cell? ⟨b, off + k * 3 + 2, none⟩ = some (.bool x.saved) ∧ w1.cell? ⟨b', off' + k * 3, none⟩ = some (.string x.item) ∧ w1.cell? ⟨b', off' + k * 3 + 1, none⟩ = some (.int .i64 x.qty) ∧ w1.cell? ⟨b', off' + k * 3 + 2, none⟩ = some (.bool x.saved) := ⟨g0, g1, g2, m0, m1, m2⟩; clear g0 g1 g2 m0 m1 m2))
      have HB1 := Lib.hid (HB.out.trans ((Below.mk hb1.os hb1.tape hb1.output hb1.size hb1.block : Below wr.heap.size wr w1).mono HB.out.size))
      clear hS0 hS1 hb1 q1 q2
      go_wp2
      go_roundw
      case rel => exact ⟨k + 1, by omega, by go_num, HB1⟩
      case measure => simp [intOf]; omega
    · go_wp2
      go_ret
      exact ⟨rfl, HB.out⟩
end Go.Proofs.Ytdbdmfaphdjdpaa
