/- Walks and mathematics that several claims share, part 18. -/
import Derived.Test.YtjokbaaommicmaaGreatDoorGb12
import Derived.Deep.Cut
import Derived.Deep.RegionHeld3
import Derived.RegionTactic
import Derived.Handy
import Derived.Below
import Derived.Test.YtjokbaaommicmaaGreatDoorGbA
namespace Go.Proofs.YtjokbaaommicmaaGreatDoor
set_option maxRecDepth 100000
open Go.RowKit
set_option linter.unusedVariables false
structure CmV where
 kind : Int
 item : ByteArray
 qty : Int
 dev : Int
 seq : Int
def CmV.zero : CmV := ⟨0, ⟨#[]⟩, 0, 0, 0⟩
def CmAt (w : World) (b off : Nat) (o : CmV) : Prop := w.cell? ⟨b, off, none⟩ = some (.int .i64 o.kind) ∧ w.cell? ⟨b, off + 1, none⟩ = some (.string o.item) ∧ w.cell? ⟨b, off + 2, none⟩ = some (.int .i64 o.qty) ∧ w.cell? ⟨b, off + 3, none⟩ = some (.int .i64 o.dev) ∧ w.cell? ⟨b, off + 4, none⟩ = some (.int .i64 o.seq)
theorem CmAt.kept {w w' : World} {b off : Nat} {o : CmV} (h : CmAt w b off o) (hb : w'.heap[b]? = w.heap[b]?) : CmAt w' b off o := by
 obtain ⟨h0, h1, h2, h3, h4⟩ := h
 exact ⟨(World.cell?_of_block (a := ⟨b, off, none⟩) hb).trans h0, (World.cell?_of_block (a := ⟨b, off + 1, none⟩) hb).trans h1, (World.cell?_of_block (a := ⟨b, off + 2, none⟩) hb).trans h2, (World.cell?_of_block (a := ⟨b, off + 3, none⟩) hb).trans h3, (World.cell?_of_block (a := ⟨b, off + 4, none⟩) hb).trans h4⟩
/-- A slice of n commands that reads as l; its row lies below block B. -/
def Cms (w : World) (B : Nat) (a : Option Addr) (n : Nat) (l : List CmV) : Prop :=
 l.length = n ∧ ∀ i, i < n → ∃ b off, a = some ⟨b, off, none⟩ ∧ b < B ∧ CmAt w b (off + i * 5) (l.getD i CmV.zero)
theorem Cms.kept {w w' : World} {B : Nat} {a : Option Addr} {n : Nat} {l : List CmV} (h : Cms w B a n l) (hk : ∀ k, k < B → w'.heap[k]? = w.heap[k]?) : Cms w' B a n l :=
 ⟨h.1, fun i hi => by obtain ⟨b, off, e, hb, ho⟩ := h.2 i hi; exact ⟨b, off, e, hb, ho.kept (hk b hb)⟩⟩
theorem Cms.below {w w' : World} {B B' : Nat} {a : Option Addr} {n : Nat} {l : List CmV} (h : Cms w B a n l) (hb : Below B' w w') (hB : B ≤ B') : Cms w' B a n l :=
 h.kept fun k hk => hb.block k (by omega)
theorem Cms.more {w : World} {B B' : Nat} {a : Option Addr} {n : Nat} {l : List CmV} (h : Cms w B a n l) (hB : B ≤ B') : Cms w B' a n l :=
 ⟨h.1, fun i hi => by obtain ⟨b, off, e, hb, ho⟩ := h.2 i hi; exact ⟨b, off, e, by omega, ho⟩⟩
theorem eqCmE (x : CmV) (w : World) : Calls Tryz.prog 48 #[.agg #[.int .i64 x.kind, .string x.item, .int .i64 x.qty, .int .i64 x.dev, .int .i64 x.seq], .agg #[.int .i64 x.kind, .string x.item, .int .i64 x.qty, .int .i64 x.dev, .int .i64 x.seq]] w fun e w' => e = .returned (.bool true) ∧ Below w.heap.size w w' := by
 obtain ⟨kind, item, qty, dev, seq⟩ := x
 simp only
 go_enter Tryz.func48, Tryz.ntmps48
 go_wp2
 go_ret
 exact ⟨rfl, (bl).alloc (by simp) _⟩
set_option maxHeartbeats 10000000 in
theorem eqCms (w : World) (B B' : Nat) (a a' : Option Addr) (n cap cap' : Nat) (l : List CmV) (h : Cms w B a n l) (h' : Cms w B' a' n l) (hB : B ≤ w.heap.size) (hB' : B' ≤ w.heap.size) (hn : n ≤ 1048576) :
  Calls Tryz.prog 20 #[.slice a n cap, .slice a' n cap'] w fun e w' => e = .returned (.bool true) ∧ Below w.heap.size w w' := by
 have H := Lib.hid h
 have H' := Lib.hid h'
 clear h h'
 go_enter Tryz.func20, Tryz.ntmps20
 go_wp2
 go_loopw [5] (fun i wr => ∃ k : Nat, k ≤ n ∧ i = .int .i64 k ∧ Hid (Below w.heap.size w wr)) (fun i _ => n - (intOf i).toNat)
 case atStart => exact ⟨0, Nat.zero_le _, rfl, Below.refl _ _⟩
 case round =>
  obtain ⟨k, hk, rfl, HB⟩ := hrel
  by_cases hlt : k < n
  ·obtain ⟨b, off, rfl, hb, ho⟩ := H.out.2 k hlt
   obtain ⟨b', off', rfl, hb', ho'⟩ := H'.out.2 k hlt
   have q1 := ho.kept (HB.out.block b (by omega))
   have q2 := ho'.kept (HB.out.block b' (by omega))
   clear ho ho'
   generalize l.getD k CmV.zero = x at q1 q2
   have r1 := q1.kept (w' := wr.drew) rfl
   have r2 := q2.kept (w' := wr.drew) rfl
   obtain ⟨c0, c1, c2, c3, c4⟩ := r1
   obtain ⟨d0, d1, d2, d3, d4⟩ := r2
   have hS0 : wr.drew.cell? ⟨b, off + k * 5, none⟩ = some (.int .i64 x.kind) ∧ wr.drew.cell? ⟨b, off + k * 5 + 1, none⟩ = some (.string x.item) ∧ wr.drew.cell? ⟨b, off + k * 5 + 2, none⟩ = some (.int .i64 x.qty) ∧ wr.drew.cell? ⟨b, off + k * 5 + 3, none⟩ = some (.int .i64 x.dev) ∧ wr.drew.cell? ⟨b, off + k * 5 + 4, none⟩ = some (.int .i64 x.seq) ∧ wr.drew.cell? ⟨b', off' + k * 5, none⟩ = some (.int .i64 x.kind) ∧ wr.drew.cell? ⟨b', off' + k * 5 + 1, none⟩ = some (.string x.item) ∧ wr.drew.cell? ⟨b', off' + k * 5 + 2, none⟩ = some (.int .i64 x.qty) ∧ wr.drew.cell? ⟨b', off' + k * 5 + 3, none⟩ = some (.int .i64 x.dev) ∧ wr.drew.cell? ⟨b', off' + k * 5 + 4, none⟩ = some (.int .i64 x.seq) := ⟨c0, c1, c2, c3, c4, d0, d1, d2, d3, d4⟩
   clear c0 c1 c2 c3 c4 d0 d1 d2 d3 d4
   have hk0 : (0 : Int) ≤ (k : Int) := by omega
   have hk1 : (k : Int) < (n : Int) := by omega
   go_wp2_with fail
   go_region_held3 (fun w' => w'.cell? ⟨b, off + k * 5, none⟩ = some (.int .i64 x.kind) ∧ w'.cell? ⟨b, off + k * 5 + 1, none⟩ = some (.string x.item) ∧ w'.cell? ⟨b, off + k * 5 + 2, none⟩ = some (.int .i64 x.qty) ∧ w'.cell? ⟨b, off + k * 5 + 3, none⟩ = some (.int .i64 x.dev) ∧ w'.cell? ⟨b, off + k * 5 + 4, none⟩ = some (.int .i64 x.seq) ∧ w'.cell? ⟨b', off' + k * 5, none⟩ = some (.int .i64 x.kind) ∧ w'.cell? ⟨b', off' + k * 5 + 1, none⟩ = some (.string x.item) ∧ w'.cell? ⟨b', off' + k * 5 + 2, none⟩ = some (.int .i64 x.qty) ∧ w'.cell? ⟨b', off' + k * 5 + 3, none⟩ = some (.int .i64 x.dev) ∧ w'.cell? ⟨b', off' + k * 5 + 4, none⟩ = some (.int .i64 x.seq)) (first | with_reducible exact hS0 | with_reducible exact hS1)
    (first | (go_at_call 48; refine (eqCmE x _).mono ?_; rintro e w1 ⟨rfl, hb1⟩; have q3 := q1.kept (w' := w1) (hb1.block b (by show b < wr.heap.size; have := HB.out.size; omega)); have q4 := q2.kept (w' := w1) (hb1.block b' (by show b' < wr.heap.size; have := HB.out.size; omega)); obtain ⟨g0, g1, g2, g3, g4⟩ := q3; obtain ⟨m0, m1, m2, m3, m4⟩ := q4; have hS1 : w1.cell? ⟨b, off + k * 5, none⟩ = some (.int .i64 x.kind) ∧ w1.cell? ⟨b, off + k * 5 + 1, none⟩ = some (.string x.item) ∧ w1.cell? ⟨b, off + k * 5 + 2, none⟩ = some (.int .i64 x.qty) ∧ w1.cell? ⟨b, off + k * 5 + 3, none⟩ = some (.int .i64 x.dev) ∧ w1.cell? ⟨b, off + k * 5 + 4, none⟩ = some (.int .i64 x.seq) ∧ w1.cell? ⟨b', off' + k * 5, none⟩ = some (.int .i64 x.kind) ∧ w1.cell? ⟨b', off' + k * 5 + 1, none⟩ = some (.string x.item) ∧ w1.cell? ⟨b', off' + k * 5 + 2, none⟩ = some (.int .i64 x.qty) ∧ w1.cell? ⟨b', off' + k * 5 + 3, none⟩ = some (.int .i64 x.dev) ∧ w1.cell? ⟨b', off' + k * 5 + 4, none⟩ = some (.int .i64 x.seq) := ⟨g0, g1, g2, g3, g4, m0, m1, m2, m3, m4⟩; clear g0 g1 g2 g3 g4 m0 m1 m2 m3 m4))
   have HB1 := Lib.hid (HB.out.trans ((Below.mk hb1.os hb1.tape hb1.output hb1.size hb1.block : Below wr.heap.size wr w1).mono HB.out.size))
   clear hS0 hS1 hb1 q1 q2
   go_wp2
   go_roundw
   case rel => exact ⟨k + 1, by omega, by go_num, HB1⟩
   case measure => simp [intOf]; omega
  ·go_wp2
   go_ret
   exact ⟨rfl, HB.out⟩
/-- The cells of an element in a row. -/
def CmIn (cs : Array Value) (off : Nat) (o : CmV) : Prop := cs[off]? = some (.int .i64 o.kind) ∧ cs[off + 1]? = some (.string o.item) ∧ cs[off + 2]? = some (.int .i64 o.qty) ∧ cs[off + 3]? = some (.int .i64 o.dev) ∧ cs[off + 4]? = some (.int .i64 o.seq)
theorem CmIn.at {w : World} {g off : Nat} {T : TypeId} {cs : Array Value} {o : CmV} (hg : w.heap[g]? = some (.cells cs T (0, 0))) (h : CmIn cs off o) : CmAt w g off o := by
 obtain ⟨h0, h1, h2, h3, h4⟩ := h
 exact ⟨(cell_of_row _ _ _ _ _ _ hg).trans h0, (cell_of_row _ _ _ _ _ _ hg).trans h1, (cell_of_row _ _ _ _ _ _ hg).trans h2, (cell_of_row _ _ _ _ _ _ hg).trans h3, (cell_of_row _ _ _ _ _ _ hg).trans h4⟩
/-- A slice of them whose row, if it has elements, is a block between lo and hi. -/
def OwnCms (w : World) (lo hi : Nat) (a : Option Addr) (n : Nat) (l : List CmV) : Prop :=
 l.length = n ∧ (0 < n → ∃ g off cs, a = some ⟨g, off, none⟩ ∧ lo ≤ g ∧ g < hi ∧ w.heap[g]? = some (.cells cs 36 (0, 0)) ∧ off + n * 5 ≤ cs.size ∧ ∀ i, i < n → CmIn cs (off + i * 5) (l.getD i CmV.zero))
theorem OwnCms.rows {w : World} {lo hi : Nat} {a : Option Addr} {n : Nat} {l : List CmV} (h : OwnCms w lo hi a n l) : Cms w hi a n l :=
 ⟨h.1, fun i hi' => by
  obtain ⟨g, off, cs, e, _, h2, hg, _, hc⟩ := h.2 (by omega)
  exact ⟨g, off, e, h2, (hc i hi').at hg⟩⟩
theorem OwnCms.kept {w w' : World} {lo hi : Nat} {a : Option Addr} {n : Nat} {l : List CmV} (h : OwnCms w lo hi a n l) (hk : ∀ j, lo ≤ j → j < hi → w'.heap[j]? = w.heap[j]?) : OwnCms w' lo hi a n l :=
 ⟨h.1, fun hn => by
  obtain ⟨g, off, cs, e, h1, h2, hg, hs, hc⟩ := h.2 hn
  exact ⟨g, off, cs, e, h1, h2, (hk g h1 h2).trans hg, hs, hc⟩⟩
theorem OwnCms.below {w w' : World} {lo hi B : Nat} {a : Option Addr} {n : Nat} {l : List CmV} (h : OwnCms w lo hi a n l) (hb : Below B w w') (hB : hi ≤ B) : OwnCms w' lo hi a n l :=
 h.kept fun j _ h2 => hb.block j (by omega)
theorem OwnCms.more {w : World} {lo hi lo' hi' : Nat} {a : Option Addr} {n : Nat} {l : List CmV} (h : OwnCms w lo hi a n l) (h1 : lo' ≤ lo) (h2 : hi ≤ hi') : OwnCms w lo' hi' a n l :=
 ⟨h.1, fun hn => by
  obtain ⟨g, off, cs, e, a1, a2, r⟩ := h.2 hn
  exact ⟨g, off, cs, e, by omega, by omega, r⟩⟩
set_option linter.unusedVariables false

structure LnV where
 item : ByteArray
 qty : Int
 saved : Bool
def LnV.zero : LnV := ⟨⟨#[]⟩, 0, false⟩
def LnAt (w : World) (b off : Nat) (o : LnV) : Prop := w.cell? ⟨b, off, none⟩ = some (.string o.item) ∧ w.cell? ⟨b, off + 1, none⟩ = some (.int .i64 o.qty) ∧ w.cell? ⟨b, off + 2, none⟩ = some (.bool o.saved)
theorem LnAt.kept {w w' : World} {b off : Nat} {o : LnV} (h : LnAt w b off o) (hb : w'.heap[b]? = w.heap[b]?) : LnAt w' b off o := by
 obtain ⟨h0, h1, h2⟩ := h
 exact ⟨(World.cell?_of_block (a := ⟨b, off, none⟩) hb).trans h0, (World.cell?_of_block (a := ⟨b, off + 1, none⟩) hb).trans h1, (World.cell?_of_block (a := ⟨b, off + 2, none⟩) hb).trans h2⟩
/-- A slice of n offers that reads as l; its row lies below block B. -/
def Lns (w : World) (B : Nat) (a : Option Addr) (n : Nat) (l : List LnV) : Prop :=
 l.length = n ∧ ∀ i, i < n → ∃ b off, a = some ⟨b, off, none⟩ ∧ b < B ∧ LnAt w b (off + i * 3) (l.getD i LnV.zero)
theorem Lns.kept {w w' : World} {B : Nat} {a : Option Addr} {n : Nat} {l : List LnV} (h : Lns w B a n l) (hk : ∀ k, k < B → w'.heap[k]? = w.heap[k]?) : Lns w' B a n l :=
 ⟨h.1, fun i hi => by obtain ⟨b, off, e, hb, ho⟩ := h.2 i hi; exact ⟨b, off, e, hb, ho.kept (hk b hb)⟩⟩
theorem Lns.below {w w' : World} {B B' : Nat} {a : Option Addr} {n : Nat} {l : List LnV} (h : Lns w B a n l) (hb : Below B' w w') (hB : B ≤ B') : Lns w' B a n l :=
 h.kept fun k hk => hb.block k (by omega)
theorem Lns.more {w : World} {B B' : Nat} {a : Option Addr} {n : Nat} {l : List LnV} (h : Lns w B a n l) (hB : B ≤ B') : Lns w B' a n l :=
 ⟨h.1, fun i hi => by obtain ⟨b, off, e, hb, ho⟩ := h.2 i hi; exact ⟨b, off, e, by omega, ho⟩⟩
end Go.Proofs.YtjokbaaommicmaaGreatDoor
