/- Walks and mathematics that several claims share, part 21. -/
import Derived.Test.YtjokbaaommicmaaGreatDoorGb11
import Derived.Test.YtjokbaaommicmaaGreatDoorGb20
import Derived.Deep.Cut
import Derived.Test.YtjokbaaommicmaaGreatDoorGbA
namespace Go.Proofs.YtjokbaaommicmaaGreatDoor
set_option maxRecDepth 100000
open Go.RowKit

structure OpV where
 dev : Int
 seq : Int
 stamp : Int
 kind : Int
 item : ByteArray
 qty : Int
 level : Int
 undos : Int
def OpV.zero : OpV := ⟨0, 0, 0, 0, ⟨#[]⟩, 0, 0, 0⟩
def OpV.ok (o : OpV) : Bool := opB o.dev o.seq o.stamp o.kind o.item o.qty o.level o.undos
/-- At address ⟨b, off⟩ stands the operation o. -/
def OpAt (w : World) (b off : Nat) (o : OpV) : Prop := w.cell? ⟨b, off, none⟩ = some (.int .i64 o.dev) ∧ w.cell? ⟨b, off + 1, none⟩ = some (.int .i64 o.seq) ∧ w.cell? ⟨b, off + 2, none⟩ = some (.int .i64 o.stamp) ∧ w.cell? ⟨b, off + 3, none⟩ = some (.int .i64 o.kind) ∧ w.cell? ⟨b, off + 4, none⟩ = some (.string o.item) ∧ w.cell? ⟨b, off + 5, none⟩ = some (.int .i64 o.qty) ∧ w.cell? ⟨b, off + 6, none⟩ = some (.int .i64 o.level) ∧ w.cell? ⟨b, off + 7, none⟩ = some (.int .i64 o.undos)
theorem OpAt.kept {w w' : World} {b off : Nat} {o : OpV} (h : OpAt w b off o) (hb : w'.heap[b]? = w.heap[b]?) : OpAt w' b off o := by
 obtain ⟨h0, h1, h2, h3, h4, h5, h6, h7⟩ := h
 exact ⟨(World.cell?_of_block (a := ⟨b, off, none⟩) hb).trans h0, (World.cell?_of_block (a := ⟨b, off + 1, none⟩) hb).trans h1, (World.cell?_of_block (a := ⟨b, off + 2, none⟩) hb).trans h2, (World.cell?_of_block (a := ⟨b, off + 3, none⟩) hb).trans h3, (World.cell?_of_block (a := ⟨b, off + 4, none⟩) hb).trans h4, (World.cell?_of_block (a := ⟨b, off + 5, none⟩) hb).trans h5, (World.cell?_of_block (a := ⟨b, off + 6, none⟩) hb).trans h6, (World.cell?_of_block (a := ⟨b, off + 7, none⟩) hb).trans h7⟩
/-- A slice of n operations that reads as l; its row lies below block B. -/
def Ops (w : World) (B : Nat) (a : Option Addr) (n : Nat) (l : List OpV) : Prop :=
 l.length = n ∧ ∀ i, i < n → ∃ b off, a = some ⟨b, off, none⟩ ∧ b < B ∧ OpAt w b (off + i * 8) (l.getD i OpV.zero)
theorem Ops.kept {w w' : World} {B : Nat} {a : Option Addr} {n : Nat} {l : List OpV} (h : Ops w B a n l) (hk : ∀ k, k < B → w'.heap[k]? = w.heap[k]?) : Ops w' B a n l :=
 ⟨h.1, fun i hi => by obtain ⟨b, off, e, hb, ho⟩ := h.2 i hi; exact ⟨b, off, e, hb, ho.kept (hk b hb)⟩⟩
theorem Ops.below {w w' : World} {B B' : Nat} {a : Option Addr} {n : Nat} {l : List OpV} (h : Ops w B a n l) (hb : Below B' w w') (hB : B ≤ B') : Ops w' B a n l :=
 h.kept fun k hk => hb.block k (by omega)
theorem Ops.more {w : World} {B B' : Nat} {a : Option Addr} {n : Nat} {l : List OpV} (h : Ops w B a n l) (hB : B ≤ B') : Ops w B' a n l :=
 ⟨h.1, fun i hi => by obtain ⟨b, off, e, hb, ho⟩ := h.2 i hi; exact ⟨b, off, e, by omega, ho⟩⟩
/-- The bytes of the items of the first k operations. -/
def itemsTo (l : List OpV) (k : Nat) : Nat := ((l.take k).map fun o => o.item.size).sum
theorem itemsTo_step {l : List OpV} {k : Nat} (h : k < l.length) : itemsTo l (k + 1) = itemsTo l k + (l.getD k OpV.zero).item.size := by
 unfold itemsTo
 rw [List.take_succ_eq_append_getElem h, List.map_append, List.sum_append, List.getD_eq_getElem?_getD, List.getElem?_eq_getElem h]
 simp
theorem itemsTo_le (l : List OpV) (k : Nat) : ∀ m, k ≤ m → m ≤ l.length → itemsTo l k ≤ itemsTo l m
 | 0, h, _ => by obtain rfl : k = 0 := by omega
                 exact Nat.le_refl _
 | m + 1, h, hm => by
  rcases Nat.lt_or_ge k (m + 1) with h1 | h1
  ·have := itemsTo_le l k m (by omega) (by omega)
   rw [itemsTo_step (l := l) (k := m) (by omega)]
   omega
  ·obtain rfl : k = m + 1 := by omega
   exact Nat.le_refl _
def opsTotal (l : List OpV) : Nat := l.length + itemsTo l l.length

def SzPost (t left : Nat) (w : World) (e : Ending) (w' : World) : Prop := e = .returned (.int .i64 (if t ≤ left then ((left - t : Nat) : Int) else -1)) ∧ Below w.heap.size w w'
set_option maxHeartbeats 5000000 in
theorem szOps (w : World) (B : Nat) (a : Option Addr) (n cap : Nat) (l : List OpV) (h : Ops w B a n l) (hB : B ≤ w.heap.size) (hn : n ≤ maxLen) (hm : ∀ i, i < n → (l.getD i OpV.zero).item.size ≤ maxLen) (left : Nat) (hl : left ≤ 1048576) :
  Calls Tryz.prog 33 #[.slice a n cap, .int .i64 (left : Int)] w (SzPost (opsTotal l) left w) := by
 have hL := h.1
 have HT : Hid (opsTotal l = n + itemsTo l n) := by show opsTotal l = _; unfold opsTotal; rw [hL]
 have HLn := Lib.hid hL
 clear hL
 unfold maxLen at hn
 by_cases hbig : n ≤ left
 rotate_left
 ·have HF : Hid (¬ opsTotal l ≤ left) := by have := HT.out; show ¬ _; omega
  have hd : decide ((left : Int) - (n : Int) < 0) = true := decide_eq_true (by omega)
  go_enter Tryz.func33, Tryz.ntmps33
  go_wp2
  go_ret
  exact ⟨by rw [if_neg HF.out]; rfl, Below.refl _ _⟩
 have hd : decide ((left : Int) - (n : Int) < 0) = false := decide_eq_false (by omega)
 have H := Lib.hid h
 have HM := Lib.hid hm
 clear h hm
 go_enter Tryz.func33, Tryz.ntmps33
 go_wp2
 go_loopw [1, 5] (fun m i wr => ∃ k q : Nat, k ≤ n ∧ i = .int .i64 k ∧ m = .int .i64 q ∧ Hid (q + n + itemsTo l k = left) ∧ Hid (Below w.heap.size w wr)) (fun _ i _ => n - (intOf i).toNat)
 case atStart => exact ⟨0, left - n, Nat.zero_le _, rfl, by go_num, (by show _ = _; simp [itemsTo]; omega), Below.refl _ _⟩
 case round =>
  obtain ⟨k, q, hk, rfl, rfl, HQ, HB⟩ := hrel
  have hq : q ≤ 1048576 := by have := HQ.out; omega
  clear hd
  by_cases hlt : k < n
  ·obtain ⟨b, off, rfl, hb, ho⟩ := H.out.2 k hlt
   have hio := HM.out k hlt
   have HI := Lib.hid (itemsTo_step (l := l) (k := k) (by rw [HLn.out]; exact hlt))
   have HLe := Lib.hid (itemsTo_le l (k + 1) n hlt (by rw [HLn.out]; exact Nat.le_refl _))
   obtain ⟨c0, c1, c2, c3, c4, c5, c6, c7⟩ := ho.kept (HB.out.block b (by omega))
   clear ho
   generalize l.getD k OpV.zero = o at hio HI c0 c1 c2 c3 c4 c5 c6 c7
   by_cases hfit : o.item.size ≤ q
   ·have hl2 : decide (((q - o.item.size : Nat) : Int) < 0) = false := decide_eq_false (by omega)
    go_wp2_with fail
    refine (szOpYes o.dev o.seq o.stamp o.kind o.item o.qty o.level o.undos q hq hfit _).mono ?_
    rintro e w1 ⟨rfl, hb1⟩
    have HB1 := Lib.hid (HB.out.trans (hb1.mono HB.out.size))
    clear hb1 c0 c1 c2 c3 c4 c5 c6 c7
    go_wp2
    go_roundw
    case rel => exact ⟨k + 1, q - o.item.size, by omega, by go_num, rfl, (by have := HQ.out; have := HI.out; show _ = _; omega), HB1⟩
    case measure => simp [intOf]; omega
   ·have HF : Hid (¬ opsTotal l ≤ left) := by have := HT.out; have := HQ.out; have := HI.out; have := HLe.out; show ¬ _; omega
    go_wp2_with fail
    refine (szOpNo o.dev o.seq o.stamp o.kind o.item o.qty o.level o.undos q hq hio hfit _).mono ?_
    rintro e w1 ⟨rfl, hb1⟩
    have HB1 := Lib.hid (HB.out.trans (hb1.mono HB.out.size))
    clear hb1 c0 c1 c2 c3 c4 c5 c6 c7
    go_wp2
    go_ret
    exact ⟨by rw [if_neg HF.out]; rfl, HB1.out⟩
  ·obtain rfl : k = n := by omega
   have HF : Hid (opsTotal l ≤ left ∧ left - opsTotal l = q) := by have := HT.out; have := HQ.out; exact ⟨by omega, by omega⟩
   go_wp2
   go_ret
   exact ⟨by rw [if_pos HF.out.1, HF.out.2]; rfl, HB.out⟩
def putOp (cs : Array Value) (off : Nat) (o : OpV) : Array Value := ((((((((cs.setIfInBounds (off) (.int .i64 o.dev)).setIfInBounds (off + 1) (.int .i64 o.seq)).setIfInBounds (off + 2) (.int .i64 o.stamp)).setIfInBounds (off + 3) (.int .i64 o.kind)).setIfInBounds (off + 4) (.string o.item)).setIfInBounds (off + 5) (.int .i64 o.qty)).setIfInBounds (off + 6) (.int .i64 o.level)).setIfInBounds (off + 7) (.int .i64 o.undos))
theorem putOp_size (cs : Array Value) (off : Nat) (o : OpV) : (putOp cs off o).size = cs.size := by
 unfold putOp
 simp only [Array.size_setIfInBounds]
theorem putOp_far (cs : Array Value) (off m : Nat) (o : OpV) (h : m < off ∨ off + 8 ≤ m) : (putOp cs off o)[m]? = cs[m]? := by
 unfold putOp
 rw [Array.getElem?_setIfInBounds_ne (by omega), Array.getElem?_setIfInBounds_ne (by omega), Array.getElem?_setIfInBounds_ne (by omega), Array.getElem?_setIfInBounds_ne (by omega), Array.getElem?_setIfInBounds_ne (by omega), Array.getElem?_setIfInBounds_ne (by omega), Array.getElem?_setIfInBounds_ne (by omega), Array.getElem?_setIfInBounds_ne (by omega)]

theorem putOp_0 (cs : Array Value) (off : Nat) (o : OpV) (h : off + 8 ≤ cs.size) : (putOp cs off o)[off]? = some (.int .i64 o.dev) := by
 unfold putOp
 rw [Array.getElem?_setIfInBounds_ne (by omega), Array.getElem?_setIfInBounds_ne (by omega), Array.getElem?_setIfInBounds_ne (by omega), Array.getElem?_setIfInBounds_ne (by omega), Array.getElem?_setIfInBounds_ne (by omega), Array.getElem?_setIfInBounds_ne (by omega), Array.getElem?_setIfInBounds_ne (by omega), Array.getElem?_setIfInBounds_self_of_lt (by (try simp only [Array.size_setIfInBounds]); omega)]
theorem putOp_1 (cs : Array Value) (off : Nat) (o : OpV) (h : off + 8 ≤ cs.size) : (putOp cs off o)[off + 1]? = some (.int .i64 o.seq) := by
 unfold putOp
 rw [Array.getElem?_setIfInBounds_ne (by omega), Array.getElem?_setIfInBounds_ne (by omega), Array.getElem?_setIfInBounds_ne (by omega), Array.getElem?_setIfInBounds_ne (by omega), Array.getElem?_setIfInBounds_ne (by omega), Array.getElem?_setIfInBounds_ne (by omega), Array.getElem?_setIfInBounds_self_of_lt (by (try simp only [Array.size_setIfInBounds]); omega)]
theorem putOp_2 (cs : Array Value) (off : Nat) (o : OpV) (h : off + 8 ≤ cs.size) : (putOp cs off o)[off + 2]? = some (.int .i64 o.stamp) := by
 unfold putOp
 rw [Array.getElem?_setIfInBounds_ne (by omega), Array.getElem?_setIfInBounds_ne (by omega), Array.getElem?_setIfInBounds_ne (by omega), Array.getElem?_setIfInBounds_ne (by omega), Array.getElem?_setIfInBounds_ne (by omega), Array.getElem?_setIfInBounds_self_of_lt (by (try simp only [Array.size_setIfInBounds]); omega)]
theorem putOp_3 (cs : Array Value) (off : Nat) (o : OpV) (h : off + 8 ≤ cs.size) : (putOp cs off o)[off + 3]? = some (.int .i64 o.kind) := by
 unfold putOp
 rw [Array.getElem?_setIfInBounds_ne (by omega), Array.getElem?_setIfInBounds_ne (by omega), Array.getElem?_setIfInBounds_ne (by omega), Array.getElem?_setIfInBounds_ne (by omega), Array.getElem?_setIfInBounds_self_of_lt (by (try simp only [Array.size_setIfInBounds]); omega)]
theorem putOp_4 (cs : Array Value) (off : Nat) (o : OpV) (h : off + 8 ≤ cs.size) : (putOp cs off o)[off + 4]? = some (.string o.item) := by
 unfold putOp
 rw [Array.getElem?_setIfInBounds_ne (by omega), Array.getElem?_setIfInBounds_ne (by omega), Array.getElem?_setIfInBounds_ne (by omega), Array.getElem?_setIfInBounds_self_of_lt (by (try simp only [Array.size_setIfInBounds]); omega)]
theorem putOp_5 (cs : Array Value) (off : Nat) (o : OpV) (h : off + 8 ≤ cs.size) : (putOp cs off o)[off + 5]? = some (.int .i64 o.qty) := by
 unfold putOp
 rw [Array.getElem?_setIfInBounds_ne (by omega), Array.getElem?_setIfInBounds_ne (by omega), Array.getElem?_setIfInBounds_self_of_lt (by (try simp only [Array.size_setIfInBounds]); omega)]
theorem putOp_6 (cs : Array Value) (off : Nat) (o : OpV) (h : off + 8 ≤ cs.size) : (putOp cs off o)[off + 6]? = some (.int .i64 o.level) := by
 unfold putOp
 rw [Array.getElem?_setIfInBounds_ne (by omega), Array.getElem?_setIfInBounds_self_of_lt (by (try simp only [Array.size_setIfInBounds]); omega)]
theorem putOp_7 (cs : Array Value) (off : Nat) (o : OpV) (h : off + 8 ≤ cs.size) : (putOp cs off o)[off + 7]? = some (.int .i64 o.undos) := by
 unfold putOp
 rw [Array.getElem?_setIfInBounds_self_of_lt (by (try simp only [Array.size_setIfInBounds]); omega)]
theorem Tryz.infoOp : (Tryz.prog.info? 93).map (fun i => (i.zero, i.size, i.bytes)) = some (some (.agg #[.int .i64 0, .int .i64 0, .int .i64 0, .int .i64 0, .string ⟨#[]⟩, .int .i64 0, .int .i64 0, .int .i64 0]), 8, 72) := by kernel_rfl
/-- Block g holds n operations, of which the first k are l's. -/
def PartOps (w wr : World) (g n : Nat) (l : List OpV) (k : Nat) : Prop :=
 Below w.heap.size w wr ∧ ∃ cs : Array Value, wr.heap[g]? = some (.cells cs 93 (0, 0)) ∧ cs.size = n * 8 ∧ ∀ i, i < k → cs[i * 8]? = some (.int .i64 (l.getD i OpV.zero).dev) ∧ cs[i * 8 + 1]? = some (.int .i64 (l.getD i OpV.zero).seq) ∧ cs[i * 8 + 2]? = some (.int .i64 (l.getD i OpV.zero).stamp) ∧ cs[i * 8 + 3]? = some (.int .i64 (l.getD i OpV.zero).kind) ∧ cs[i * 8 + 4]? = some (.string (l.getD i OpV.zero).item) ∧ cs[i * 8 + 5]? = some (.int .i64 (l.getD i OpV.zero).qty) ∧ cs[i * 8 + 6]? = some (.int .i64 (l.getD i OpV.zero).level) ∧ cs[i * 8 + 7]? = some (.int .i64 (l.getD i OpV.zero).undos)
theorem PartOps.next {w wr w1 : World} {g n : Nat} {l : List OpV} {k : Nat} (h : PartOps w wr g n l k) (hb : Below wr.heap.size wr w1) : PartOps w w1 g n l k := by
 obtain ⟨h1, cs, hg, hs, hc⟩ := h
 exact ⟨h1.trans (hb.mono h1.size), cs, (hb.block _ (Array.getElem?_eq_some_iff.1 hg).1).trans hg, hs, hc⟩

def setAt (w : World) (b off : Nat) (o : OpV) : World := ((((((((w.setCell ⟨b, off, none⟩ (.int .i64 o.dev)).setCell ⟨b, off + 1, none⟩ (.int .i64 o.seq)).setCell ⟨b, off + 2, none⟩ (.int .i64 o.stamp)).setCell ⟨b, off + 3, none⟩ (.int .i64 o.kind)).setCell ⟨b, off + 4, none⟩ (.string o.item)).setCell ⟨b, off + 5, none⟩ (.int .i64 o.qty)).setCell ⟨b, off + 6, none⟩ (.int .i64 o.level)).setCell ⟨b, off + 7, none⟩ (.int .i64 o.undos))
theorem setAt_same {w : World} {b off : Nat} {cs : Array Value} {T : TypeId} (o : OpV) (h : w.heap[b]? = some (.cells cs T (0, 0))) : (setAt w b off o).heap[b]? = some (.cells (putOp cs off o) T (0, 0)) := by
 have h0 : (w.setCell ⟨b, off, none⟩ (.int .i64 o.dev)).heap[b]? = some (.cells (cs.setIfInBounds (off) (.int .i64 o.dev)) T (0, 0)) := heap_setCell_same _ _ _ _ _ _ h
 have h1 : ((w.setCell ⟨b, off, none⟩ (.int .i64 o.dev)).setCell ⟨b, off + 1, none⟩ (.int .i64 o.seq)).heap[b]? = some (.cells ((cs.setIfInBounds (off) (.int .i64 o.dev)).setIfInBounds (off + 1) (.int .i64 o.seq)) T (0, 0)) := heap_setCell_same _ _ _ _ _ _ h0
 have h2 : (((w.setCell ⟨b, off, none⟩ (.int .i64 o.dev)).setCell ⟨b, off + 1, none⟩ (.int .i64 o.seq)).setCell ⟨b, off + 2, none⟩ (.int .i64 o.stamp)).heap[b]? = some (.cells (((cs.setIfInBounds (off) (.int .i64 o.dev)).setIfInBounds (off + 1) (.int .i64 o.seq)).setIfInBounds (off + 2) (.int .i64 o.stamp)) T (0, 0)) := heap_setCell_same _ _ _ _ _ _ h1
 have h3 : ((((w.setCell ⟨b, off, none⟩ (.int .i64 o.dev)).setCell ⟨b, off + 1, none⟩ (.int .i64 o.seq)).setCell ⟨b, off + 2, none⟩ (.int .i64 o.stamp)).setCell ⟨b, off + 3, none⟩ (.int .i64 o.kind)).heap[b]? = some (.cells ((((cs.setIfInBounds (off) (.int .i64 o.dev)).setIfInBounds (off + 1) (.int .i64 o.seq)).setIfInBounds (off + 2) (.int .i64 o.stamp)).setIfInBounds (off + 3) (.int .i64 o.kind)) T (0, 0)) := heap_setCell_same _ _ _ _ _ _ h2
 have h4 : (((((w.setCell ⟨b, off, none⟩ (.int .i64 o.dev)).setCell ⟨b, off + 1, none⟩ (.int .i64 o.seq)).setCell ⟨b, off + 2, none⟩ (.int .i64 o.stamp)).setCell ⟨b, off + 3, none⟩ (.int .i64 o.kind)).setCell ⟨b, off + 4, none⟩ (.string o.item)).heap[b]? = some (.cells (((((cs.setIfInBounds (off) (.int .i64 o.dev)).setIfInBounds (off + 1) (.int .i64 o.seq)).setIfInBounds (off + 2) (.int .i64 o.stamp)).setIfInBounds (off + 3) (.int .i64 o.kind)).setIfInBounds (off + 4) (.string o.item)) T (0, 0)) := heap_setCell_same _ _ _ _ _ _ h3
 have h5 : ((((((w.setCell ⟨b, off, none⟩ (.int .i64 o.dev)).setCell ⟨b, off + 1, none⟩ (.int .i64 o.seq)).setCell ⟨b, off + 2, none⟩ (.int .i64 o.stamp)).setCell ⟨b, off + 3, none⟩ (.int .i64 o.kind)).setCell ⟨b, off + 4, none⟩ (.string o.item)).setCell ⟨b, off + 5, none⟩ (.int .i64 o.qty)).heap[b]? = some (.cells ((((((cs.setIfInBounds (off) (.int .i64 o.dev)).setIfInBounds (off + 1) (.int .i64 o.seq)).setIfInBounds (off + 2) (.int .i64 o.stamp)).setIfInBounds (off + 3) (.int .i64 o.kind)).setIfInBounds (off + 4) (.string o.item)).setIfInBounds (off + 5) (.int .i64 o.qty)) T (0, 0)) := heap_setCell_same _ _ _ _ _ _ h4
 have h6 : (((((((w.setCell ⟨b, off, none⟩ (.int .i64 o.dev)).setCell ⟨b, off + 1, none⟩ (.int .i64 o.seq)).setCell ⟨b, off + 2, none⟩ (.int .i64 o.stamp)).setCell ⟨b, off + 3, none⟩ (.int .i64 o.kind)).setCell ⟨b, off + 4, none⟩ (.string o.item)).setCell ⟨b, off + 5, none⟩ (.int .i64 o.qty)).setCell ⟨b, off + 6, none⟩ (.int .i64 o.level)).heap[b]? = some (.cells (((((((cs.setIfInBounds (off) (.int .i64 o.dev)).setIfInBounds (off + 1) (.int .i64 o.seq)).setIfInBounds (off + 2) (.int .i64 o.stamp)).setIfInBounds (off + 3) (.int .i64 o.kind)).setIfInBounds (off + 4) (.string o.item)).setIfInBounds (off + 5) (.int .i64 o.qty)).setIfInBounds (off + 6) (.int .i64 o.level)) T (0, 0)) := heap_setCell_same _ _ _ _ _ _ h5
 have h7 : ((((((((w.setCell ⟨b, off, none⟩ (.int .i64 o.dev)).setCell ⟨b, off + 1, none⟩ (.int .i64 o.seq)).setCell ⟨b, off + 2, none⟩ (.int .i64 o.stamp)).setCell ⟨b, off + 3, none⟩ (.int .i64 o.kind)).setCell ⟨b, off + 4, none⟩ (.string o.item)).setCell ⟨b, off + 5, none⟩ (.int .i64 o.qty)).setCell ⟨b, off + 6, none⟩ (.int .i64 o.level)).setCell ⟨b, off + 7, none⟩ (.int .i64 o.undos)).heap[b]? = some (.cells ((((((((cs.setIfInBounds (off) (.int .i64 o.dev)).setIfInBounds (off + 1) (.int .i64 o.seq)).setIfInBounds (off + 2) (.int .i64 o.stamp)).setIfInBounds (off + 3) (.int .i64 o.kind)).setIfInBounds (off + 4) (.string o.item)).setIfInBounds (off + 5) (.int .i64 o.qty)).setIfInBounds (off + 6) (.int .i64 o.level)).setIfInBounds (off + 7) (.int .i64 o.undos)) T (0, 0)) := heap_setCell_same _ _ _ _ _ _ h6
 exact h7
theorem setAt_other {w : World} {b off k : Nat} (o : OpV) (h : k ≠ b) : (setAt w b off o).heap[k]? = w.heap[k]? := by
 unfold setAt
 rw [heap_setCell_other _ _ _ _ h, heap_setCell_other _ _ _ _ h, heap_setCell_other _ _ _ _ h, heap_setCell_other _ _ _ _ h, heap_setCell_other _ _ _ _ h, heap_setCell_other _ _ _ _ h, heap_setCell_other _ _ _ _ h, heap_setCell_other _ _ _ _ h]
theorem setAt_below {B : Nat} {w0 w : World} {b off : Nat} (o : OpV) (h : Below B w0 w) (hb : B ≤ b) : Below B w0 (setAt w b off o) :=
 ((((((((h.setCell (p := ⟨b, off, none⟩) hb _).setCell (p := ⟨b, off + 1, none⟩) hb _).setCell (p := ⟨b, off + 2, none⟩) hb _).setCell (p := ⟨b, off + 3, none⟩) hb _).setCell (p := ⟨b, off + 4, none⟩) hb _).setCell (p := ⟨b, off + 5, none⟩) hb _).setCell (p := ⟨b, off + 6, none⟩) hb _).setCell (p := ⟨b, off + 7, none⟩) hb _)
theorem PartOps.step {w wr : World} {g n : Nat} {l : List OpV} {k : Nat} (h : PartOps w wr g n l k) (hg0 : w.heap.size ≤ g) (hk : k < n) : PartOps w (setAt wr g (k * 8) (l.getD k OpV.zero)) g n l (k + 1) := by
 obtain ⟨h1, cs, hg, hs, hc⟩ := h
 refine ⟨setAt_below _ h1 hg0, putOp cs (k * 8) (l.getD k OpV.zero), setAt_same _ hg, by rw [putOp_size]; exact hs, fun i hi => ?_⟩
 rcases Nat.lt_or_ge i k with hlt | hge
 ·obtain ⟨d0, d1, d2, d3, d4, d5, d6, d7⟩ := hc i hlt
  refine ⟨by rw [putOp_far _ _ _ _ (by omega)]; exact d0, by rw [putOp_far _ _ _ _ (by omega)]; exact d1, by rw [putOp_far _ _ _ _ (by omega)]; exact d2, by rw [putOp_far _ _ _ _ (by omega)]; exact d3, by rw [putOp_far _ _ _ _ (by omega)]; exact d4, by rw [putOp_far _ _ _ _ (by omega)]; exact d5, by rw [putOp_far _ _ _ _ (by omega)]; exact d6, by rw [putOp_far _ _ _ _ (by omega)]; exact d7⟩
 ·obtain rfl : i = k := by omega
  exact ⟨putOp_0 _ _ _ (by omega), putOp_1 _ _ _ (by omega), putOp_2 _ _ _ (by omega), putOp_3 _ _ _ (by omega), putOp_4 _ _ _ (by omega), putOp_5 _ _ _ (by omega), putOp_6 _ _ _ (by omega), putOp_7 _ _ _ (by omega)⟩
theorem PartOps.cells {w wr : World} {g n : Nat} {l : List OpV} {k : Nat} (h : PartOps w wr g n l k) (hk : k < n) : ∃ v0 v1 v2 v3 v4 v5 v6 v7, wr.cell? ⟨g, k * 8, none⟩ = some v0 ∧ wr.cell? ⟨g, k * 8 + 1, none⟩ = some v1 ∧ wr.cell? ⟨g, k * 8 + 2, none⟩ = some v2 ∧ wr.cell? ⟨g, k * 8 + 3, none⟩ = some v3 ∧ wr.cell? ⟨g, k * 8 + 4, none⟩ = some v4 ∧ wr.cell? ⟨g, k * 8 + 5, none⟩ = some v5 ∧ wr.cell? ⟨g, k * 8 + 6, none⟩ = some v6 ∧ wr.cell? ⟨g, k * 8 + 7, none⟩ = some v7 := by
 obtain ⟨h1, cs, hg, hs, hc⟩ := h
 have e : ∀ m, m < cs.size → wr.cell? ⟨g, m, none⟩ = some (cs.getD m undef) := fun m hm => by
  rw [cell_of_row _ _ _ _ _ _ hg, Array.getElem?_eq_getElem hm]
  simp [Array.getD, hm]
 exact ⟨_, _, _, _, _, _, _, _, e _ (by omega), e _ (by omega), e _ (by omega), e _ (by omega), e _ (by omega), e _ (by omega), e _ (by omega), e _ (by omega)⟩
theorem PartOps.frozen {w wr : World} {g n : Nat} {l : List OpV} {k : Nat} (h : PartOps w wr g n l k) (m : Nat) : wr.frozen? ⟨g, m, none⟩ = false := by
 obtain ⟨h1, cs, hg, hs, hc⟩ := h
 exact frozen_of_row _ _ _ _ _ hg
theorem PartOps.done {w wr : World} {g n : Nat} {l : List OpV} (h : PartOps w wr g n l n) (hl : l.length = n) {B : Nat} (hB : g < B) : Ops wr B (some ⟨g, 0, none⟩) n l := by
 obtain ⟨h1, cs, hg, hs, hc⟩ := h
 refine ⟨hl, fun i hi => ⟨g, 0, rfl, hB, ?_⟩⟩
 obtain ⟨d0, d1, d2, d3, d4, d5, d6, d7⟩ := hc i hi
 rw [Nat.zero_add]
 exact ⟨(cell_of_row _ _ _ _ _ _ hg).trans d0, (cell_of_row _ _ _ _ _ _ hg).trans d1, (cell_of_row _ _ _ _ _ _ hg).trans d2, (cell_of_row _ _ _ _ _ _ hg).trans d3, (cell_of_row _ _ _ _ _ _ hg).trans d4, (cell_of_row _ _ _ _ _ _ hg).trans d5, (cell_of_row _ _ _ _ _ _ hg).trans d6, (cell_of_row _ _ _ _ _ _ hg).trans d7⟩

/-- What a call leaves that hands back a new slice of operations: its block is new. -/
def FreshOps (l : List OpV) (w : World) (e : Ending) (w' : World) : Prop :=
 e = .returned (.slice (some ⟨w.heap.size, 0, none⟩) l.length l.length) ∧ Ops w' w'.heap.size (some ⟨w.heap.size, 0, none⟩) l.length l ∧ w.heap.size < w'.heap.size ∧ Below w.heap.size w w'
set_option maxHeartbeats 5000000 in
theorem toOps (w : World) (B : Nat) (a : Option Addr) (n cap : Nat) (l : List OpV) (h : Ops w B a n l) (hB : B ≤ w.heap.size) (hl : n ≤ 1048576) :
  Calls Tryz.prog 39 #[.slice a n cap] w (FreshOps l w) := by
 obtain ⟨i0, hi, hz0, hz1, hz2⟩ := info_parts Tryz.infoOp
 obtain ⟨M, hM⟩ : ∃ M, M = madeCells (Value.agg #[.int .i64 0, .int .i64 0, .int .i64 0, .int .i64 0, .string ⟨#[]⟩, .int .i64 0, .int .i64 0, .int .i64 0]).cells (((n : Nat) : Int).toNat * i0.size) := ⟨_, rfl⟩
 have hMs : M.size = n * 8 := by rw [hM, size_madeCells, hz1]; simp
 have hmk : ∀ W : World, (Instr.makeSlice 30 (.int .i64 (n : Int)) (.int .i64 (n : Int))).run Tryz.prog W = .ok (.slice (some ⟨W.heap.size, 0, none⟩) n n) (W.alloc (.cells M 93)) := fun W => by
  have h := run_make (P := Tryz.prog) W 30 93 i0 (.agg #[.int .i64 0, .int .i64 0, .int .i64 0, .int .i64 0, .string ⟨#[]⟩, .int .i64 0, .int .i64 0, .int .i64 0]) Tryz.underlying30 hi hz0 .i64 .i64 (n : Int) (n : Int) (by omega) (by omega) (by rw [hz2]; omega) (by omega)
  rw [← hM] at h
  simpa using h
 have hL := Lib.hid h.1
 have H := Lib.hid h
 have HM := Lib.hid hMs
 clear hM h hMs hi hz0 hz1 hz2
 go_enter Tryz.func39, Tryz.ntmps39
 go_wp2
 go_loopw [4] (fun i wr => ∃ k : Nat, k ≤ n ∧ i = .int .i64 k ∧ Hid (PartOps w wr w.heap.size n l k) ∧ Hid (w.heap.size < wr.heap.size)) (fun i _ => n - (intOf i).toNat)
 case atStart => exact ⟨0, Nat.zero_le _, rfl, ⟨bl, M, heap_alloc_new _ _, HM.out, fun j hj => by omega⟩, (by show _ < (w.heap.push _).size; simp)⟩
 case round =>
  obtain ⟨k, hk, rfl, HP, HW⟩ := hrel
  by_cases hlt : k < n
  ·obtain ⟨b, off, rfl, hb, ho⟩ := H.out.2 k hlt
   obtain ⟨c0, c1, c2, c3, c4, c5, c6, c7⟩ := ho.kept (HP.out.1.block b (by omega))
   clear ho
   generalize ho' : l.getD k OpV.zero = x at c0 c1 c2 c3 c4 c5 c6 c7
   have HXo := Lib.hid ho'
   clear ho'
   go_wp2_with fail
   refine (toOp x.dev x.seq x.stamp x.kind x.item x.qty x.level x.undos _).mono ?_
   rintro e w1 ⟨rfl, hb1⟩
   clear c0 c1 c2 c3 c4 c5 c6 c7
   have HP1 := Lib.hid (HP.out.next hb1)
   have hw1 : w.heap.size < w1.heap.size := by have := HW.out; have := hb1.size; omega
   have HS : Hid (PartOps w (setAt w1 w.heap.size (k * 8) x) w.heap.size n l (k + 1)) := by have := HP1.out.step (Nat.le_refl _) hlt; rw [HXo.out] at this; exact this
   obtain ⟨v0, v1, v2, v3, v4, v5, v6, v7, d0, d1, d2, d3, d4, d5, d6, d7⟩ := HP1.out.cells hlt
   have f0 := HP1.out.frozen (k * 8)
   have f1 := HP1.out.frozen (k * 8 + 1)
   have f2 := HP1.out.frozen (k * 8 + 2)
   have f3 := HP1.out.frozen (k * 8 + 3)
   have f4 := HP1.out.frozen (k * 8 + 4)
   have f5 := HP1.out.frozen (k * 8 + 5)
   have f6 := HP1.out.frozen (k * 8 + 6)
   have f7 := HP1.out.frozen (k * 8 + 7)
   have hsz : (setAt w1 w.heap.size (k * 8) x).heap.size = w1.heap.size := by unfold setAt; simp [World.setCell]
   clear hb1 HP HP1 HW
   go_wp2
   go_roundw
   case rel => exact ⟨k + 1, by omega, by go_num, HS, (by show _ < (setAt w1 w.heap.size (k * 8) x).heap.size; rw [hsz]; exact hw1)⟩
   case measure => simp [intOf]; omega
  ·obtain rfl : k = n := by omega
   have HD := Lib.hid (HP.out.done hL.out HW.out)
   go_wp2
   go_ret
   exact ⟨by rw [hL.out]; rfl, by rw [hL.out]; exact HD.out, HW.out, HP.out.1⟩
theorem eqOpV (x : OpV) (w : World) : Calls Tryz.prog 83 #[.agg #[.int .i64 x.dev, .int .i64 x.seq, .int .i64 x.stamp, .int .i64 x.kind, .string x.item, .int .i64 x.qty, .int .i64 x.level, .int .i64 x.undos], .agg #[.int .i64 x.dev, .int .i64 x.seq, .int .i64 x.stamp, .int .i64 x.kind, .string x.item, .int .i64 x.qty, .int .i64 x.level, .int .i64 x.undos]] w fun e w' => e = .returned (.bool true) ∧ Below w.heap.size w w' := by
 obtain ⟨dev, seq, stamp, kind, item, qty, level, undos⟩ := x
 simp only
 go_enter Tryz.func83, Tryz.ntmps83
 go_wp2
 go_ret
 exact ⟨rfl, (bl).alloc (by simp) _⟩
set_option maxHeartbeats 10000000 in
theorem eqOpsV (w : World) (B B' : Nat) (a a' : Option Addr) (n cap cap' : Nat) (l : List OpV) (h : Ops w B a n l) (h' : Ops w B' a' n l) (hB : B ≤ w.heap.size) (hB' : B' ≤ w.heap.size) (hn : n ≤ 1048576) :
  Calls Tryz.prog 43 #[.slice a n cap, .slice a' n cap'] w fun e w' => e = .returned (.bool true) ∧ Below w.heap.size w w' := by
 have H := Lib.hid h
 have H' := Lib.hid h'
 clear h h'
 go_enter Tryz.func43, Tryz.ntmps43
 go_wp2
 go_loopw [5] (fun i wr => ∃ k : Nat, k ≤ n ∧ i = .int .i64 k ∧ Hid (Below w.heap.size w wr)) (fun i _ => n - (intOf i).toNat)
 case atStart => exact ⟨0, Nat.zero_le _, rfl, Below.refl _ _⟩
 case round =>
  obtain ⟨k, hk, rfl, HB⟩ := hrel
  by_cases hlt : k < n
  ·obtain ⟨b, off, rfl, hb, ho⟩ := H.out.2 k hlt
   obtain ⟨b', off', rfl, hb', ho'⟩ := H'.out.2 k hlt
   have q1 := ho.kept (HB.out.block b (by omega))
   have q2 := ho'.kept (HB.out.block b' (by omega))
   clear ho ho'
   generalize l.getD k OpV.zero = x at q1 q2
   have r1 := q1.kept (w' := wr.drew) rfl
   have r2 := q2.kept (w' := wr.drew) rfl
   obtain ⟨c0, c1, c2, c3, c4, c5, c6, c7⟩ := r1
   obtain ⟨d0, d1, d2, d3, d4, d5, d6, d7⟩ := r2
   have hS0 : wr.drew.cell? ⟨b, off + k * 8, none⟩ = some (.int .i64 x.dev) ∧ wr.drew.cell? ⟨b, off + k * 8 + 1, none⟩ = some (.int .i64 x.seq) ∧ wr.drew.cell? ⟨b, off + k * 8 + 2, none⟩ = some (.int .i64 x.stamp) ∧ wr.drew.cell? ⟨b, off + k * 8 + 3, none⟩ = some (.int .i64 x.kind) ∧ wr.drew.cell? ⟨b, off + k * 8 + 4, none⟩ = some (.string x.item) ∧ wr.drew.cell? ⟨b, off + k * 8 + 5, none⟩ = some (.int .i64 x.qty) ∧ wr.drew.cell? ⟨b, off + k * 8 + 6, none⟩ = some (.int .i64 x.level) ∧ wr.drew.cell? ⟨b, off + k * 8 + 7, none⟩ = some (.int .i64 x.undos) ∧ wr.drew.cell? ⟨b', off' + k * 8, none⟩ = some (.int .i64 x.dev) ∧ wr.drew.cell? ⟨b', off' + k * 8 + 1, none⟩ = some (.int .i64 x.seq) ∧ wr.drew.cell? ⟨b', off' + k * 8 + 2, none⟩ = some (.int .i64 x.stamp) ∧ wr.drew.cell? ⟨b', off' + k * 8 + 3, none⟩ = some (.int .i64 x.kind) ∧ wr.drew.cell? ⟨b', off' + k * 8 + 4, none⟩ = some (.string x.item) ∧ wr.drew.cell? ⟨b', off' + k * 8 + 5, none⟩ = some (.int .i64 x.qty) ∧ wr.drew.cell? ⟨b', off' + k * 8 + 6, none⟩ = some (.int .i64 x.level) ∧ wr.drew.cell? ⟨b', off' + k * 8 + 7, none⟩ = some (.int .i64 x.undos) := ⟨c0, c1, c2, c3, c4, c5, c6, c7, d0, d1, d2, d3, d4, d5, d6, d7⟩
   clear c0 c1 c2 c3 c4 c5 c6 c7 d0 d1 d2 d3 d4 d5 d6 d7
   have hk0 : (0 : Int) ≤ (k : Int) := by omega
   have hk1 : (k : Int) < (n : Int) := by omega
   go_wp2_with fail
   go_region_held3 (fun w' => w'.cell? ⟨b, off + k * 8, none⟩ = some (.int .i64 x.dev) ∧ w'.cell? ⟨b, off + k * 8 + 1, none⟩ = some (.int .i64 x.seq) ∧ w'.cell? ⟨b, off + k * 8 + 2, none⟩ = some (.int .i64 x.stamp) ∧ w'.cell? ⟨b, off + k * 8 + 3, none⟩ = some (.int .i64 x.kind) ∧ w'.cell? ⟨b, off + k * 8 + 4, none⟩ = some (.string x.item) ∧ w'.cell? ⟨b, off + k * 8 + 5, none⟩ = some (.int .i64 x.qty) ∧ w'.cell? ⟨b, off + k * 8 + 6, none⟩ = some (.int .i64 x.level) ∧ w'.cell? ⟨b, off + k * 8 + 7, none⟩ = some (.int .i64 x.undos) ∧ w'.cell? ⟨b', off' + k * 8, none⟩ = some (.int .i64 x.dev) ∧ w'.cell? ⟨b', off' + k * 8 + 1, none⟩ = some (.int .i64 x.seq) ∧ w'.cell? ⟨b', off' + k * 8 + 2, none⟩ = some (.int .i64 x.stamp) ∧ w'.cell? ⟨b', off' + k * 8 + 3, none⟩ = some (.int .i64 x.kind) ∧ w'.cell? ⟨b', off' + k * 8 + 4, none⟩ = some (.string x.item) ∧ w'.cell? ⟨b', off' + k * 8 + 5, none⟩ = some (.int .i64 x.qty) ∧ w'.cell? ⟨b', off' + k * 8 + 6, none⟩ = some (.int .i64 x.level) ∧ w'.cell? ⟨b', off' + k * 8 + 7, none⟩ = some (.int .i64 x.undos)) (first | with_reducible exact hS0 | with_reducible exact hS1)
    (first | (go_at_call 83; refine (eqOpV x _).mono ?_; rintro e w1 ⟨rfl, hb1⟩; have q3 := q1.kept (w' := w1) (hb1.block b (by show b < wr.heap.size; have := HB.out.size; omega)); have q4 := q2.kept (w' := w1) (hb1.block b' (by show b' < wr.heap.size; have := HB.out.size; omega)); obtain ⟨g0, g1, g2, g3, g4, g5, g6, g7⟩ := q3; obtain ⟨m0, m1, m2, m3, m4, m5, m6, m7⟩ := q4; have hS1 : w1.cell? ⟨b, off + k * 8, none⟩ = some (.int .i64 x.dev) ∧ w1.cell? ⟨b, off + k * 8 + 1, none⟩ = some (.int .i64 x.seq) ∧ w1.cell? ⟨b, off + k * 8 + 2, none⟩ = some (.int .i64 x.stamp) ∧ w1.cell? ⟨b, off + k * 8 + 3, none⟩ = some (.int .i64 x.kind) ∧ w1.cell? ⟨b, off + k * 8 + 4, none⟩ = some (.string x.item) ∧ w1.cell? ⟨b, off + k * 8 + 5, none⟩ = some (.int .i64 x.qty) ∧ w1.cell? ⟨b, off + k * 8 + 6, none⟩ = some (.int .i64 x.level) ∧ w1.cell? ⟨b, off + k * 8 + 7, none⟩ = some (.int .i64 x.undos) ∧ w1.cell? ⟨b', off' + k * 8, none⟩ = some (.int .i64 x.dev) ∧ w1.cell? ⟨b', off' + k * 8 + 1, none⟩ = some (.int .i64 x.seq) ∧ w1.cell? ⟨b', off' + k * 8 + 2, none⟩ = some (.int .i64 x.stamp) ∧ w1.cell? ⟨b', off' + k * 8 + 3, none⟩ = some (.int .i64 x.kind) ∧ w1.cell? ⟨b', off' + k * 8 + 4, none⟩ = some (.string x.item) ∧ w1.cell? ⟨b', off' + k * 8 + 5, none⟩ = some (.int .i64 x.qty) ∧ w1.cell? ⟨b', off' + k * 8 + 6, none⟩ = some (.int .i64 x.level) ∧ w1.cell? ⟨b', off' + k * 8 + 7, none⟩ = some (.int .i64 x.undos) := ⟨g0, g1, g2, g3, g4, g5, g6, g7, m0, m1, m2, m3, m4, m5, m6, m7⟩; clear g0 g1 g2 g3 g4 g5 g6 g7 m0 m1 m2 m3 m4 m5 m6 m7))
   have HB1 := Lib.hid (HB.out.trans ((Below.mk hb1.os hb1.tape hb1.output hb1.size hb1.block : Below wr.heap.size wr w1).mono HB.out.size))
   clear hS0 hS1 hb1 q1 q2
   go_wp2
   go_roundw
   case rel => exact ⟨k + 1, by omega, by go_num, HB1⟩
   case measure => simp [intOf]; omega
  ·go_wp2
   go_ret
   exact ⟨rfl, HB.out⟩
theorem szInts (a : Option Addr) (n cap left : Nat) (hl : left ≤ 1048576) (hn : n ≤ maxLen) (w : World) : Calls Tryz.prog 32 #[.slice a n cap, .int .i64 (left : Int)] w fun e w' => e = .returned (.int .i64 (if n ≤ left then ((left - n : Nat) : Int) else -1)) ∧ w = w' := by
 unfold maxLen at hn
 by_cases h : n ≤ left
 ·have hd : decide ((left : Int) - (n : Int) < 0) = false := decide_eq_false (by omega)
  go_enter Tryz.func32, Tryz.ntmps32
  go_wp2
  go_ret
  exact ⟨ret_int (by omega), rfl⟩
 ·have hd : decide ((left : Int) - (n : Int) < 0) = true := decide_eq_true (by omega)
  go_enter Tryz.func32, Tryz.ntmps32
  go_wp2
  go_ret
  exact ⟨rfl, rfl⟩
set_option maxHeartbeats 5000000 in
theorem szCart (w : World) (B : Nat) (av ao : Option Addr) (nv cv no co : Nat) (l : List OpV) (h : Ops w B ao no l) (hB : B ≤ w.heap.size) (hv : nv ≤ maxLen) (hn : no ≤ maxLen) (hm : ∀ i, i < no → (l.getD i OpV.zero).item.size ≤ maxLen) (left : Nat) (hl : left ≤ 1048576) :
  Calls Tryz.prog 6 #[.agg #[.slice av nv cv, .slice ao no co], .int .i64 (left : Int)] w (SzPost (nv + opsTotal l) left w) := by
 have hb0 : Below w.heap.size w (w.alloc (.cells #[.slice av nv cv, .slice ao no co] 25)) := (Below.refl _ w).alloc (Nat.le_refl _) _
 have H := Lib.hid (h.below hb0 hB)
 have HB := Lib.hid hb0
 have hsz : w.heap.size ≤ (w.alloc (.cells #[.slice av nv cv, .slice ao no co] 25)).heap.size := hb0.size
 have HM := Lib.hid hm
 clear h hb0 hm
 by_cases h1 : nv ≤ left
 rotate_left
 ·have HF : Hid (¬ nv + opsTotal l ≤ left) := by show ¬ _; omega
  have HI : Hid ((if nv ≤ left then ((left - nv : Nat) : Int) else -1) = -1) := if_neg h1
  go_enter Tryz.func6, Tryz.ntmps6
  go_wp2_with fail
  refine (szInts av nv cv left hl hv _).mono ?_
  rintro e w1 ⟨rfl, rfl⟩
  rw [HI.out]
  go_wp2
  go_ret
  exact ⟨by rw [if_neg HF.out]; rfl, HB.out⟩
 have HI : Hid ((if nv ≤ left then ((left - nv : Nat) : Int) else -1) = ((left - nv : Nat) : Int)) := if_pos h1
 have hd : decide (((left - nv : Nat) : Int) < 0) = false := decide_eq_false (by omega)
 have hx : (w.alloc (.cells #[.slice av nv cv, .slice ao no co] 25)).heap[w.heap.size]? = some (.cells #[.slice av nv cv, .slice ao no co] 25 (0, 0)) := boxAt (Below.refl _ _)
 obtain ⟨c0, c1⟩ := pair_cells hx
 clear hx
 go_enter Tryz.func6, Tryz.ntmps6
 go_wp2_with fail
 refine (szInts av nv cv left hl hv _).mono ?_
 rintro e w1 ⟨rfl, rfl⟩
 rw [HI.out]
 go_wp2_with fail
 refine (szOps _ B ao no co l H.out (by omega) hn HM.out (left - nv) (by omega)).mono ?_
 rintro e w2 ⟨rfl, hb2⟩
 have HB2 := Lib.hid (HB.out.trans (hb2.mono HB.out.size))
 clear hb2 c0 c1
 by_cases h2 : opsTotal l ≤ left - nv
 ·rw [if_pos h2]
  have HF : Hid (nv + opsTotal l ≤ left ∧ left - (nv + opsTotal l) = left - nv - opsTotal l) := ⟨by omega, by omega⟩
  have hd2 : decide (((left - nv - opsTotal l : Nat) : Int) < 0) = false := decide_eq_false (by omega)
  go_wp2
  go_ret
  exact ⟨by rw [if_pos HF.out.1, HF.out.2]; rfl, HB2.out⟩
 ·rw [if_neg h2]
  have HF : Hid (¬ nv + opsTotal l ≤ left) := by show ¬ _; omega
  go_wp2
  go_ret
  exact ⟨by rw [if_neg HF.out]; rfl, HB2.out⟩
theorem ints_set {w : World} {B g : Nat} {n : Nat} {xs : List Int} {b i : Nat} {v : Value} (h : Ints w B (some ⟨g, 0, none⟩) n xs) (hne : g ≠ b) : Ints (w.setCell ⟨b, i, none⟩ v) B (some ⟨g, 0, none⟩) n xs :=
 ⟨h.1, fun j hj => by
  obtain ⟨c, off, e, hb, hc⟩ := h.2 j hj
  injection e with e
  injection e with e1 e2
  subst e1 e2
  exact ⟨g, 0, rfl, hb, (World.cell?_of_block (a := ⟨g, 0 + j, none⟩) (heap_setCell_other w ⟨b, i, none⟩ g v hne)).trans hc⟩⟩
theorem ops_set {w : World} {B g : Nat} {n : Nat} {l : List OpV} {b i : Nat} {v : Value} (h : Ops w B (some ⟨g, 0, none⟩) n l) (hne : g ≠ b) : Ops (w.setCell ⟨b, i, none⟩ v) B (some ⟨g, 0, none⟩) n l :=
 ⟨h.1, fun j hj => by
  obtain ⟨c, off, e, hb, hc⟩ := h.2 j hj
  injection e with e
  injection e with e1 e2
  subst e1 e2
  exact ⟨g, 0, rfl, hb, hc.kept (heap_setCell_other w ⟨b, i, none⟩ g v hne)⟩⟩

/-- A new cart with the same vector and operations is handed back. -/
def FreshCart (xs : List Int) (l : List OpV) (w : World) (e : Ending) (w' : World) : Prop :=
 ∃ av ao, e = .returned (.agg #[.slice av xs.length xs.length, .slice ao l.length l.length]) ∧ Ints w' w'.heap.size av xs.length xs ∧ Ops w' w'.heap.size ao l.length l ∧ Below w.heap.size w w'
structure Three (w w1 : World) (x y : Array Value) : Prop where
 arg : w1.heap[w.heap.size]? = some (.cells x 25 (0, 0))
 res : w1.heap[w.heap.size + 1]? = some (.cells #[.slice none 0 0, .slice none 0 0] 32 (0, 0))
 out : w1.heap[w.heap.size + 2]? = some (.cells y 32 (0, 0))
 bel : Below w.heap.size w w1
theorem Three.next {w w1 w2 : World} {x y : Array Value} (h : Three w w1 x y) (hb : Below w1.heap.size w1 w2) : Three w w2 x y :=
 ⟨(hb.block _ (Array.getElem?_eq_some_iff.1 h.arg).1).trans h.arg, (hb.block _ (Array.getElem?_eq_some_iff.1 h.res).1).trans h.res, (hb.block _ (Array.getElem?_eq_some_iff.1 h.out).1).trans h.out, h.bel.trans (hb.mono h.bel.size)⟩
theorem Three.put {w w1 : World} {x y : Array Value} (h : Three w w1 x y) (i : Nat) (v : Value) : Three w (w1.setCell ⟨w.heap.size + 2, i, none⟩ v) x (y.setIfInBounds i v) :=
 ⟨(heap_setCell_other _ _ _ _ (by show w.heap.size ≠ w.heap.size + 2; omega)).trans h.arg, (heap_setCell_other _ _ _ _ (by show w.heap.size + 1 ≠ w.heap.size + 2; omega)).trans h.res, heap_setCell_same _ _ _ _ _ _ h.out, h.bel.setCell (p := ⟨w.heap.size + 2, i, none⟩) (by show _ ≤ w.heap.size + 2; omega) v⟩
theorem three0 (w : World) (x y : Array Value) : Three w (((w.alloc (.cells x 25)).alloc (.cells #[.slice none 0 0, .slice none 0 0] 32)).alloc (.cells y 32)) x y := by
 have e1 : (w.heap.push (.cells x 25)).size = w.heap.size + 1 := by simp
 have e2 : ((w.heap.push (.cells x 25)).push (.cells #[.slice none 0 0, .slice none 0 0] 32)).size = w.heap.size + 2 := by simp
 refine ⟨?_, ?_, ?_, (((Below.refl _ w).alloc (Nat.le_refl _) _).alloc (by show _ ≤ (w.heap.push _).size; omega) _).alloc (by show _ ≤ ((w.heap.push _).push _).size; omega) _⟩
 ·show (((w.heap.push _).push _).push _)[_]? = _
  rw [Array.getElem?_push_lt (by omega), ← Array.getElem?_eq_getElem, Array.getElem?_push_lt (by omega), ← Array.getElem?_eq_getElem, Array.getElem?_push_size]
 ·show (((w.heap.push _).push _).push _)[_]? = _
  rw [Array.getElem?_push_lt (by omega), ← Array.getElem?_eq_getElem, ← e1, Array.getElem?_push_size]
 ·show (((w.heap.push _).push _).push _)[_]? = _
  rw [← e2, Array.getElem?_push_size]

set_option maxHeartbeats 10000000 in
theorem toCart (w : World) (B : Nat) (av ao : Option Addr) (nv cv no co : Nat) (xs : List Int) (l : List OpV) (hx : Ints w B av nv xs) (h : Ops w B ao no l) (hB : B ≤ w.heap.size) (hv : nv ≤ 1048576) (hn : no ≤ 1048576) :
  Calls Tryz.prog 9 #[.agg #[.slice av nv cv, .slice ao no co]] w (FreshCart xs l w) := by
 have H3 := Lib.hid (three0 w #[.slice av nv cv, .slice ao no co] #[.slice none 0 0, .slice none 0 0])
 have HX := Lib.hid (hx.below H3.out.bel hB)
 have HO := Lib.hid (h.below H3.out.bel hB)
 have hL : no = l.length := h.1.symm
 have hLx : nv = xs.length := hx.1.symm
 have HL := Lib.hid hL
 have HLx := Lib.hid hLx
 clear hx h hL hLx
 go_enter Tryz.func9, Tryz.ntmps9
 go_upto_region 2 with fail
 generalize ((w.alloc (.cells #[.slice av nv cv, .slice ao no co] 25)).alloc (.cells #[.slice none 0 0, .slice none 0 0] 32)).alloc (.cells #[.slice none 0 0, .slice none 0 0] 32) = w0 at H3 HX HO ⊢
 obtain ⟨c0, c1⟩ := pair_cells H3.out.arg
 have hsz0 := H3.out.bel.size
 have hlt0 : w.heap.size + 2 < w0.heap.size := (Array.getElem?_eq_some_iff.1 H3.out.out).1
 go_wp2_with fail
 refine (toInts w0 B av nv cv xs HX.out (by omega) hv).mono ?_
 rintro e w1 ⟨rfl, hg1, hb1⟩
 have hI1 := fresh_ints hg1 (lt_of_block hg1)
 have H31 := Lib.hid (H3.out.next hb1)
 have HO1 := Lib.hid (HO.out.below hb1 (by omega))
 have hs1 := hb1.size
 have hlt1 := lt_of_block hg1
 clear c0 c1 hg1 hb1 HO HX H3
 obtain ⟨d0, d1⟩ := pair_cells H31.out.out
 obtain ⟨f0, f1⟩ := pair_frozen H31.out.out
 have H32 : Hid (Three w (w1.setCell ⟨w.heap.size + 2, 0, none⟩ (.slice (some ⟨w0.heap.size, 0, none⟩) xs.length xs.length)) #[.slice av nv cv, .slice ao no co] #[.slice (some ⟨w0.heap.size, 0, none⟩) xs.length xs.length, .slice none 0 0]) := H31.out.put 0 _
 have HO2 : Hid (Ops (w1.setCell ⟨w.heap.size + 2, 0, none⟩ (.slice (some ⟨w0.heap.size, 0, none⟩) xs.length xs.length)) B ao no l) := HO1.out.kept fun k hk => heap_setCell_other _ _ _ _ (by show k ≠ w.heap.size + 2; omega)
 have HI2 : Hid (Ints (w1.setCell ⟨w.heap.size + 2, 0, none⟩ (.slice (some ⟨w0.heap.size, 0, none⟩) xs.length xs.length)) w1.heap.size (some ⟨w0.heap.size, 0, none⟩) xs.length xs) := ints_set hI1 (by show w0.heap.size ≠ w.heap.size + 2; omega)
 have hsz2 : (w1.setCell ⟨w.heap.size + 2, 0, none⟩ (.slice (some ⟨w0.heap.size, 0, none⟩) xs.length xs.length)).heap.size = w1.heap.size := by simp [World.setCell]
 go_upto_region 3 with fail
 generalize w1.setCell ⟨w.heap.size + 2, 0, none⟩ (.slice (some ⟨w0.heap.size, 0, none⟩) xs.length xs.length) = w2 at H32 HO2 HI2 hsz2 ⊢
 generalize w0.heap.size = g0 at H32 HI2 hsz0 hlt0 hs1 hlt1 ⊢
 clear d0 d1 f0 f1 H31 HO1 hI1
 obtain ⟨c0, c1⟩ := pair_cells H32.out.arg
 have hs2 : w1.heap.size ≤ w2.heap.size := Nat.le_of_eq hsz2.symm
 clear hsz2
 go_wp2_with fail
 refine (toOps w2 B ao no co l HO2.out (by omega) hn).mono ?_
 rintro e w3 ⟨rfl, ho3, hlt3, hb3⟩
 have H33 := Lib.hid (H32.out.next hb3)
 have HI3 := Lib.hid (HI2.out.below hb3 (by omega))
 have HO3 := Lib.hid ho3
 have hs3 := hb3.size
 clear c0 c1 hb3 ho3 H32 HI2 HO2
 obtain ⟨d0, d1⟩ := pair_cells H33.out.out
 obtain ⟨f0, f1⟩ := pair_frozen H33.out.out
 have H34 : Hid (Three w (w3.setCell ⟨w.heap.size + 2, 1, none⟩ (.slice (some ⟨w2.heap.size, 0, none⟩) l.length l.length)) #[.slice av nv cv, .slice ao no co] #[.slice (some ⟨g0, 0, none⟩) xs.length xs.length, .slice (some ⟨w2.heap.size, 0, none⟩) l.length l.length]) := H33.out.put 1 _
 have HI4 : Hid (Ints (w3.setCell ⟨w.heap.size + 2, 1, none⟩ (.slice (some ⟨w2.heap.size, 0, none⟩) l.length l.length)) w1.heap.size (some ⟨g0, 0, none⟩) xs.length xs) := ints_set HI3.out (by omega)
 have HO4 : Hid (Ops (w3.setCell ⟨w.heap.size + 2, 1, none⟩ (.slice (some ⟨w2.heap.size, 0, none⟩) l.length l.length)) w3.heap.size (some ⟨w2.heap.size, 0, none⟩) l.length l) := ops_set HO3.out (by show w2.heap.size ≠ w.heap.size + 2; omega)
 have hsz4 : (w3.setCell ⟨w.heap.size + 2, 1, none⟩ (.slice (some ⟨w2.heap.size, 0, none⟩) l.length l.length)).heap.size = w3.heap.size := by simp [World.setCell]
 have HIk : Hid (∀ v0 v1 : Value, Ints (((w3.setCell ⟨w.heap.size + 2, 1, none⟩ (.slice (some ⟨w2.heap.size, 0, none⟩) l.length l.length)).setCell ⟨w.heap.size + 1, 0, none⟩ v0).setCell ⟨w.heap.size + 1, 1, none⟩ v1) w3.heap.size (some ⟨g0, 0, none⟩) xs.length xs) := fun v0 v1 => ints_set (ints_set (HI4.out.more (by omega)) (by omega)) (by omega)
 have HOk : Hid (∀ v0 v1 : Value, Ops (((w3.setCell ⟨w.heap.size + 2, 1, none⟩ (.slice (some ⟨w2.heap.size, 0, none⟩) l.length l.length)).setCell ⟨w.heap.size + 1, 0, none⟩ v0).setCell ⟨w.heap.size + 1, 1, none⟩ v1) w3.heap.size (some ⟨w2.heap.size, 0, none⟩) l.length l) := fun v0 v1 => ops_set (ops_set HO4.out (by omega)) (by omega)
 rw [← hsz4] at HIk HOk
 go_upto_region 4 with fail
 generalize w3.setCell ⟨w.heap.size + 2, 1, none⟩ (.slice (some ⟨w2.heap.size, 0, none⟩) l.length l.length) = w4 at H34 HI4 HO4 hsz4 HIk HOk ⊢
 generalize some (⟨w2.heap.size, 0, none⟩ : Addr) = oa at H34 HO4 HOk ⊢
 generalize some (⟨g0, 0, none⟩ : Addr) = va at H34 HI4 HIk ⊢
 clear d0 d1 f0 f1 H33 HI3 HO3
 obtain ⟨d0, d1⟩ := pair_cells H34.out.out
 obtain ⟨e0, e1⟩ := pair_cells H34.out.res
 obtain ⟨f0, f1⟩ := pair_frozen H34.out.res
 have HX := Lib.hid (pair_set (.slice va xs.length xs.length) (.slice oa l.length l.length) H34.out.res)
 have HBf := Lib.hid ((H34.out.bel.setCell (p := ⟨w.heap.size + 1, 0, none⟩) (by show _ ≤ w.heap.size + 1; omega) (.slice va xs.length xs.length)).setCell (p := ⟨w.heap.size + 1, 1, none⟩) (by show _ ≤ w.heap.size + 1; omega) (.slice oa l.length l.length))
 have hszf := pair_size w4 (w.heap.size + 1) (.slice va xs.length xs.length) (.slice oa l.length l.length)
 have HIf : Hid (Ints ((w4.setCell ⟨w.heap.size + 1, 0, none⟩ (.slice va xs.length xs.length)).setCell ⟨w.heap.size + 1, 1, none⟩ (.slice oa l.length l.length)) w4.heap.size va xs.length xs) := HIk.out _ _
 have HOf : Hid (Ops ((w4.setCell ⟨w.heap.size + 1, 0, none⟩ (.slice va xs.length xs.length)).setCell ⟨w.heap.size + 1, 1, none⟩ (.slice oa l.length l.length)) w4.heap.size oa l.length l) := HOk.out _ _
 clear HIk HOk H34 HI4 HO4
 go_wp2
 generalize (w4.setCell ⟨w.heap.size + 1, 0, none⟩ (.slice va xs.length xs.length)).setCell ⟨w.heap.size + 1, 1, none⟩ (.slice oa l.length l.length) = wf at HX HBf hszf HIf HOf ⊢
 clear d0 d1 e0 e1 f0 f1
 obtain ⟨d0, d1⟩ := pair_cells HX.out
 exact bodyPost_ret (v := .agg #[.slice va xs.length xs.length, .slice oa l.length l.length]) (by simp [results, Tryz.results9, go_sem, d0, d1]) rfl ⟨va, oa, rfl, HIf.out.more (Nat.le_of_eq hszf.symm), HOf.out.more (Nat.le_of_eq hszf.symm), HBf.out⟩
def atOp (l : List OpV) (i : Nat) : OpV := l.getD i OpV.zero
def prevStamp (l : List OpV) (st i : Nat) : Int := if i = 0 then 0 else (atOp l (st + i - 1)).stamp
def fitB (l : List OpV) (dev st i : Nat) : Bool := (atOp l (st + i)).ok && (decide ((atOp l (st + i)).dev = (dev : Int)) && (decide ((atOp l (st + i)).seq = (i : Int) + 1) && decide (prevStamp l st i < (atOp l (st + i)).stamp)))
theorem fit_ok {l : List OpV} {dev st i : Nat} (h : (atOp l (st + i)).ok = false) : fitB l dev st i = false := by unfold fitB; rw [h]; rfl
theorem fit_dev {l : List OpV} {dev st i : Nat} (h : ¬ (atOp l (st + i)).dev = (dev : Int)) : fitB l dev st i = false := by unfold fitB; rw [decide_eq_false h]; simp
theorem fit_seq {l : List OpV} {dev st i : Nat} (h : ¬ (atOp l (st + i)).seq = (i : Int) + 1) : fitB l dev st i = false := by unfold fitB; rw [decide_eq_false h]; simp
theorem fit_stamp {l : List OpV} {dev st i : Nat} (h : ¬ prevStamp l st i < (atOp l (st + i)).stamp) : fitB l dev st i = false := by unfold fitB; rw [decide_eq_false h]; simp
theorem fit_yes {l : List OpV} {dev st i : Nat} (h1 : (atOp l (st + i)).ok = true) (h2 : (atOp l (st + i)).dev = (dev : Int)) (h3 : (atOp l (st + i)).seq = (i : Int) + 1) (h4 : prevStamp l st i < (atOp l (st + i)).stamp) : fitB l dev st i = true := by
 unfold fitB
 rw [h1, decide_eq_true h2, decide_eq_true h3, decide_eq_true h4]
 rfl
/-- The first c operations from place st on are those of a device, in order. -/
def runB (l : List OpV) (dev st c : Nat) : Bool := (List.range c).all (fitB l dev st)
theorem run_step {l : List OpV} {dev st k : Nat} (h : runB l dev st k = true) (hk : fitB l dev st k = true) : runB l dev st (k + 1) = true := by
 unfold runB at *
 rw [List.range_succ, List.all_append, h]
 simp [hk]
theorem run_stop {l : List OpV} {dev st k c : Nat} (hk : k < c) (h : fitB l dev st k = false) : runB l dev st c = false := by
 unfold runB
 rw [List.all_eq_false]
 exact ⟨k, by simpa using hk, by simp [h]⟩
theorem prev_step (l : List OpV) (st k : Nat) : prevStamp l st (k + 1) = (atOp l (st + k)).stamp := by
 unfold prevStamp
 rw [if_neg (by omega)]
 rfl

set_option maxHeartbeats 10000000 in
theorem deviceOk (w : World) (B : Nat) (a : Option Addr) (n cap dev : Nat) (l : List OpV) (h : Ops w B a n l) (hB : B ≤ w.heap.size) (hn : n ≤ 1048576) :
  Calls Tryz.prog 63 #[.slice a n cap, .int .i64 (dev : Int)] w fun e w' => e = .returned (.bool (runB l dev 0 n)) ∧ Below w.heap.size w w' := by
 have H := Lib.hid h
 clear h
 go_enter Tryz.func63, Tryz.ntmps63
 go_wp2
 go_loopw [5, 10] (fun s i wr => ∃ k : Nat, k ≤ n ∧ i = .int .i64 k ∧ s = .int .i64 (prevStamp l 0 k) ∧ Hid (runB l dev 0 k = true) ∧ Hid (Below w.heap.size w wr)) (fun _ i _ => n - (intOf i).toNat)
 case atStart => exact ⟨0, Nat.zero_le _, rfl, rfl, rfl, Below.refl _ _⟩
 case round =>
  obtain ⟨k, hk, rfl, rfl, HK, HB⟩ := hrel
  by_cases hlt : k < n
  rotate_left
  ·obtain rfl : k = n := by omega
   go_wp2
   go_ret
   exact ⟨by rw [HK.out]; rfl, HB.out⟩
  obtain ⟨b, off, rfl, hb, ho⟩ := H.out.2 k hlt
  obtain ⟨c0, c1, c2, c3, c4, c5, c6, c7⟩ := ho.kept (HB.out.block b (by omega))
  clear ho
  have HA : Hid (l.getD k OpV.zero = atOp l (0 + k)) := by show _ = _; rw [Nat.zero_add]; rfl
  have HPs := Lib.hid (prev_step l 0 k)
  have HY := Lib.hid (@fit_yes l dev 0 k)
  have H1 := Lib.hid (fun h => run_stop (c := n) hlt (@fit_ok l dev 0 k h))
  have H2 := Lib.hid (fun h => run_stop (c := n) hlt (@fit_dev l dev 0 k h))
  have H3 := Lib.hid (fun h => run_stop (c := n) hlt (@fit_seq l dev 0 k h))
  have H4 := Lib.hid (fun h => run_stop (c := n) hlt (@fit_stamp l dev 0 k h))
  have HN := Lib.hid (fun h => run_step (dev := dev) HK.out h)
  rw [HA.out] at c0 c1 c2 c3 c4 c5 c6 c7
  clear HA
  generalize atOp l (0 + k) = x at HPs HY H1 H2 H3 H4 c0 c1 c2 c3 c4 c5 c6 c7
  generalize prevStamp l 0 k = ps at HY H4 ⊢
  go_upto_region 5 with fail
  have HX := Lib.hid (boxAt (Below.refl _ (wr.alloc (.cells #[.int .i64 x.dev, .int .i64 x.seq, .int .i64 x.stamp, .int .i64 x.kind, .string x.item, .int .i64 x.qty, .int .i64 x.level, .int .i64 x.undos] 93))))
  have HB1 := Lib.hid (HB.out.alloc HB.out.size (.cells #[.int .i64 x.dev, .int .i64 x.seq, .int .i64 x.stamp, .int .i64 x.kind, .string x.item, .int .i64 x.qty, .int .i64 x.level, .int .i64 x.undos] 93))
  generalize wr.alloc (.cells #[.int .i64 x.dev, .int .i64 x.seq, .int .i64 x.stamp, .int .i64 x.kind, .string x.item, .int .i64 x.qty, .int .i64 x.level, .int .i64 x.undos] 93) = w1 at HX HB1 ⊢
  generalize wr.heap.size = bo at HX ⊢
  clear c0 c1 c2 c3 c4 c5 c6 c7 HB
  have ⟨d0, d1, d2, d3, d4, d5, d6, d7⟩ : OpAt w1 bo 0 x := ⟨cell_of_row _ _ _ _ _ _ HX.out, cell_of_row _ _ _ _ _ _ HX.out, cell_of_row _ _ _ _ _ _ HX.out, cell_of_row _ _ _ _ _ _ HX.out, cell_of_row _ _ _ _ _ _ HX.out, cell_of_row _ _ _ _ _ _ HX.out, cell_of_row _ _ _ _ _ _ HX.out, cell_of_row _ _ _ _ _ _ HX.out⟩
  simp only [Nat.zero_add] at d0 d1 d2 d3 d4 d5 d6 d7
  go_wp2_with fail
  refine (implOpOk x.dev x.seq x.stamp x.kind x.item x.qty x.level x.undos _).mono ?_
  rintro e w2 ⟨rfl, hb2⟩
  have HX2 := Lib.hid ((hb2.block _ (Array.getElem?_eq_some_iff.1 HX.out).1).trans HX.out)
  have HB2 := Lib.hid (HB1.out.trans (hb2.mono HB1.out.size))
  clear hb2 HX HB1 d0 d1 d2 d3 d4 d5 d6 d7
  have ⟨d0, d1, d2, d3, d4, d5, d6, d7⟩ : OpAt w2 bo 0 x := ⟨cell_of_row _ _ _ _ _ _ HX2.out, cell_of_row _ _ _ _ _ _ HX2.out, cell_of_row _ _ _ _ _ _ HX2.out, cell_of_row _ _ _ _ _ _ HX2.out, cell_of_row _ _ _ _ _ _ HX2.out, cell_of_row _ _ _ _ _ _ HX2.out, cell_of_row _ _ _ _ _ _ HX2.out, cell_of_row _ _ _ _ _ _ HX2.out⟩
  simp only [Nat.zero_add] at d0 d1 d2 d3 d4 d5 d6 d7
  rcases hok : opB x.dev x.seq x.stamp x.kind x.item x.qty x.level x.undos with _ | _
  ·have HF := Lib.hid (H1.out hok)
   clear hok
   go_wp2
   go_ret
   exact ⟨by rw [HF.out]; rfl, HB2.out⟩
  by_cases e1 : x.dev = (dev : Int)
  rotate_left
  ·have HF := Lib.hid (H2.out e1)
   have b1 : (x.dev != (dev : Int)) = true := by rw [bne_iff_ne]; exact e1
   clear hok e1
   go_wp2
   go_ret
   exact ⟨by rw [HF.out]; rfl, HB2.out⟩
  have b1 : (x.dev != (dev : Int)) = false := by rw [e1]; exact bne_self_eq_false _
  by_cases e2 : x.seq = (k : Int) + 1
  rotate_left
  ·have HF := Lib.hid (H3.out e2)
   have b2 : (x.seq != (k : Int) + 1) = true := by rw [bne_iff_ne]; exact e2
   clear hok e1 e2
   go_wp2
   go_ret
   exact ⟨by rw [HF.out]; rfl, HB2.out⟩
  have b2 : (x.seq != (k : Int) + 1) = false := by rw [e2]; exact bne_self_eq_false _
  by_cases e3 : ps < x.stamp
  rotate_left
  ·have HF := Lib.hid (H4.out (by first | exact e3 | exact Int.not_lt.1 e3))
   have b3 : decide (x.stamp ≤ ps) = true := decide_eq_true (by omega)
   clear hok e1 e2 e3
   go_wp2
   go_ret
   exact ⟨by rw [HF.out]; rfl, HB2.out⟩
  have b3 : decide (x.stamp ≤ ps) = false := decide_eq_false (by omega)
  have HF := Lib.hid (HN.out (HY.out hok e1 e2 e3))
  clear hok e1 e2 e3
  go_wp2
  go_roundw
  case rel => exact ⟨k + 1, by omega, by go_num, by rw [HPs.out], HF, HB2⟩
  case measure => simp [intOf]; omega
end Go.Proofs.YtjokbaaommicmaaGreatDoor
