/- Slices of operations in memory: each element is eight cells in a row. And the walk of laws.szOpS. -/
import Derived.Test.YtdbdmfaphdjdpaaOpLawsW
import Derived.Test.YtdbdmfaphdjdpaaPairBase
namespace Go.Proofs.Ytdbdmfaphdjdpaa
open Go.RowKit

structure OpV where
  dev : Int
  seq : Int
  stamp : Int
  kind : Int
  item : ByteArray
  qty : Int
  level : Int
  undos : Int
def OpV.zero : OpV := ⟨0, 0, 0, 0, ⟨#[]⟩, 0, 0, 0⟩
def OpV.ok (o : OpV) : Bool := opB o.dev o.seq o.stamp o.kind o.item o.qty o.level o.undos
/-- At address ⟨b, off⟩ stands the operation o. -/
def OpAt (w : World) (b off : Nat) (o : OpV) : Prop := w.cell? ⟨b, off, none⟩ = some (.int .i64 o.dev) ∧ w.cell? ⟨b, off + 1, none⟩ = some (.int .i64 o.seq) ∧ w.cell? ⟨b, off + 2, none⟩ = some (.int .i64 o.stamp) ∧ w.cell? ⟨b, off + 3, none⟩ = some (.int .i64 o.kind) ∧ w.cell? ⟨b, off + 4, none⟩ = some (.string o.item) ∧ w.cell? ⟨b, off + 5, none⟩ = some (.int .i64 o.qty) ∧ w.cell? ⟨b, off + 6, none⟩ = some (.int .i64 o.level) ∧ w.cell? ⟨b, off + 7, none⟩ = some (.int .i64 o.undos)
theorem OpAt.kept {w w' : World} {b off : Nat} {o : OpV} (h : OpAt w b off o) (hb : w'.heap[b]? = w.heap[b]?) : OpAt w' b off o := by
  obtain ⟨h0, h1, h2, h3, h4, h5, h6, h7⟩ := h
  exact ⟨(World.cell?_of_block (a := ⟨b, off, none⟩) hb).trans h0, (World.cell?_of_block (a := ⟨b, off + 1, none⟩) hb).trans h1, (World.cell?_of_block (a := ⟨b, off + 2, none⟩) hb).trans h2, (World.cell?_of_block (a := ⟨b, off + 3, none⟩) hb).trans h3, (World.cell?_of_block (a := ⟨b, off + 4, none⟩) hb).trans h4, (World.cell?_of_block (a := ⟨b, off + 5, none⟩) hb).trans h5, (World.cell?_of_block (a := ⟨b, off + 6, none⟩) hb).trans h6, (World.cell?_of_block (a := ⟨b, off + 7, none⟩) hb).trans h7⟩
/-- A slice of n operations that reads as l; its row lies below block B. -/
def Ops (w : World) (B : Nat) (a : Option Addr) (n : Nat) (l : List OpV) : Prop :=
  l.length = n ∧ ∀ i, i < n → ∃ b off, a = some ⟨b, off, none⟩ ∧ b < B ∧ OpAt w b (off + i * 8) (l.getD i OpV.zero)
theorem Ops.kept {w w' : World} {B : Nat} {a : Option Addr} {n : Nat} {l : List OpV} (h : Ops w B a n l) (hk : ∀ k, k < B → w'.heap[k]? = w.heap[k]?) : Ops w' B a n l :=
  ⟨h.1, fun i hi => by obtain ⟨b, off, e, hb, ho⟩ := h.2 i hi; exact ⟨b, off, e, hb, ho.kept (hk b hb)⟩⟩
theorem Ops.below {w w' : World} {B B' : Nat} {a : Option Addr} {n : Nat} {l : List OpV} (h : Ops w B a n l) (hb : Below B' w w') (hB : B ≤ B') : Ops w' B a n l :=
  h.kept fun k hk => hb.block k (by omega)
theorem Ops.more {w : World} {B B' : Nat} {a : Option Addr} {n : Nat} {l : List OpV} (h : Ops w B a n l) (hB : B ≤ B') : Ops w B' a n l :=
  ⟨h.1, fun i hi => by obtain ⟨b, off, e, hb, ho⟩ := h.2 i hi; exact ⟨b, off, e, by omega, ho⟩⟩
/-- The bytes of the items of the first k operations. -/
def itemsTo (l : List OpV) (k : Nat) : Nat := ((l.take k).map fun o => o.item.size).sum
theorem itemsTo_step {l : List OpV} {k : Nat} (h : k < l.length) : itemsTo l (k + 1) = itemsTo l k + (l.getD k OpV.zero).item.size := by
  unfold itemsTo
  rw [List.take_succ_eq_append_getElem h, List.map_append, List.sum_append, List.getD_eq_getElem?_getD, List.getElem?_eq_getElem h]
  simp
theorem itemsTo_le (l : List OpV) (k : Nat) : ∀ m, k ≤ m → m ≤ l.length → itemsTo l k ≤ itemsTo l m
  | 0, h, _ => by obtain rfl : k = 0 := by omega
                  exact Nat.le_refl _
  | m + 1, h, hm => by
    rcases Nat.lt_or_ge k (m + 1) with h1 | h1
    · have := itemsTo_le l k m (by omega) (by omega)
      rw [itemsTo_step (l := l) (k := m) (by omega)]
      omega
    · obtain rfl : k = m + 1 := by omega
      exact Nat.le_refl _
def opsTotal (l : List OpV) : Nat := l.length + itemsTo l l.length

def SzPost (t left : Nat) (w : World) (e : Ending) (w' : World) : Prop := e = .returned (.int .i64 (if t ≤ left then ((left - t : Nat) : Int) else -1)) ∧ Below w.heap.size w w'
set_option maxRecDepth 100000 in
set_option maxHeartbeats 1000000 in
theorem szOps (w : World) (B : Nat) (a : Option Addr) (n cap : Nat) (l : List OpV) (h : Ops w B a n l) (hB : B ≤ w.heap.size) (hn : n ≤ maxLen) (hm : ∀ i, i < n → (l.getD i OpV.zero).item.size ≤ maxLen) (left : Nat) (hl : left ≤ 1048576) :
    Calls Try.prog 44 #[.slice a n cap, .int .i64 (left : Int)] w (SzPost (opsTotal l) left w) := by
  have hL := h.1
  have HT : Hid (opsTotal l = n + itemsTo l n) := by show opsTotal l = _; unfold opsTotal; rw [hL]
  have HLn := Lib.hid hL
  clear hL
  unfold maxLen at hn
  by_cases hbig : n ≤ left
  rotate_left
  · have HF : Hid (¬ opsTotal l ≤ left) := by have := HT.out; show ¬ _; omega
    have hd : decide ((left : Int) - (n : Int) < 0) = true := decide_eq_true (by omega)
    go_enter Try.func44, Try.ntmps44
    go_wp2
    go_ret
    exact ⟨by rw [if_neg HF.out]; rfl, Below.refl _ _⟩
  have hd : decide ((left : Int) - (n : Int) < 0) = false := decide_eq_false (by omega)
  have H := Lib.hid h
  have HM := Lib.hid hm
  clear h hm
  go_enter Try.func44, Try.ntmps44
  go_wp2
  go_loopw [1, 5] (fun m i wr => ∃ k q : Nat, k ≤ n ∧ i = .int .i64 k ∧ m = .int .i64 q ∧ Hid (q + n + itemsTo l k = left) ∧ Hid (Below w.heap.size w wr)) (fun _ i _ => n - (intOf i).toNat)
  case atStart => exact ⟨0, left - n, Nat.zero_le _, rfl, by go_num, (by show _ = _; simp [itemsTo]; omega), Below.refl _ _⟩
  case round =>
    obtain ⟨k, q, hk, rfl, rfl, HQ, HB⟩ := hrel
    have hq : q ≤ 1048576 := by have := HQ.out; omega
    clear hd
    by_cases hlt : k < n
    · obtain ⟨b, off, rfl, hb, ho⟩ := H.out.2 k hlt
      have hio := HM.out k hlt
      have HI := Lib.hid (itemsTo_step (l := l) (k := k) (by rw [HLn.out]; exact hlt))
      have HLe := Lib.hid (itemsTo_le l (k + 1) n hlt (by rw [HLn.out]; exact Nat.le_refl _))
      obtain ⟨c0, c1, c2, c3, c4, c5, c6, c7⟩ := ho.kept (HB.out.block b (by omega))
      clear ho
      generalize l.getD k OpV.zero = o at hio HI c0 c1 c2 c3 c4 c5 c6 c7
      by_cases hfit : o.item.size ≤ q
      · have hl2 : decide (((q - o.item.size : Nat) : Int) < 0) = false := decide_eq_false (by omega)
        go_wp2_with fail
        refine (szOpYes o.dev o.seq o.stamp o.kind o.item o.qty o.level o.undos q hq hfit _).mono ?_
        rintro e w1 ⟨rfl, hb1⟩
        have HB1 := Lib.hid (HB.out.trans (hb1.mono HB.out.size))
        clear hb1 c0 c1 c2 c3 c4 c5 c6 c7
        go_wp2
        go_roundw
        case rel => exact ⟨k + 1, q - o.item.size, by omega, by go_num, rfl, (by have := HQ.out; have := HI.out; show _ = _; omega), HB1⟩
        case measure => simp [intOf]; omega
      · have HF : Hid (¬ opsTotal l ≤ left) := by have := HT.out; have := HQ.out; have := HI.out; have := HLe.out; show ¬ _; omega
        go_wp2_with fail
        refine (szOpNo o.dev o.seq o.stamp o.kind o.item o.qty o.level o.undos q hq hio hfit _).mono ?_
        rintro e w1 ⟨rfl, hb1⟩
        have HB1 := Lib.hid (HB.out.trans (hb1.mono HB.out.size))
        clear hb1 c0 c1 c2 c3 c4 c5 c6 c7
        go_wp2
        go_ret
        exact ⟨by rw [if_neg HF.out]; rfl, HB1.out⟩
    · obtain rfl : k = n := by omega
      have HF : Hid (opsTotal l ≤ left ∧ left - opsTotal l = q) := by have := HT.out; have := HQ.out; exact ⟨by omega, by omega⟩
      go_wp2
      go_ret
      exact ⟨by rw [if_pos HF.out.1, HF.out.2]; rfl, HB.out⟩
def putOp (cs : Array Value) (off : Nat) (o : OpV) : Array Value := ((((((((cs.setIfInBounds (off) (.int .i64 o.dev)).setIfInBounds (off + 1) (.int .i64 o.seq)).setIfInBounds (off + 2) (.int .i64 o.stamp)).setIfInBounds (off + 3) (.int .i64 o.kind)).setIfInBounds (off + 4) (.string o.item)).setIfInBounds (off + 5) (.int .i64 o.qty)).setIfInBounds (off + 6) (.int .i64 o.level)).setIfInBounds (off + 7) (.int .i64 o.undos))
theorem putOp_size (cs : Array Value) (off : Nat) (o : OpV) : (putOp cs off o).size = cs.size := by
  unfold putOp
  simp only [Array.size_setIfInBounds]
theorem putOp_far (cs : Array Value) (off m : Nat) (o : OpV) (h : m < off ∨ off + 8 ≤ m) : (putOp cs off o)[m]? = cs[m]? := by
  unfold putOp
  rw [Array.getElem?_setIfInBounds_ne (by omega), Array.getElem?_setIfInBounds_ne (by omega), Array.getElem?_setIfInBounds_ne (by omega), Array.getElem?_setIfInBounds_ne (by omega), Array.getElem?_setIfInBounds_ne (by omega), Array.getElem?_setIfInBounds_ne (by omega), Array.getElem?_setIfInBounds_ne (by omega), Array.getElem?_setIfInBounds_ne (by omega)]

theorem putOp_0 (cs : Array Value) (off : Nat) (o : OpV) (h : off + 8 ≤ cs.size) : (putOp cs off o)[off]? = some (.int .i64 o.dev) := by
  unfold putOp
  rw [Array.getElem?_setIfInBounds_ne (by omega), Array.getElem?_setIfInBounds_ne (by omega), Array.getElem?_setIfInBounds_ne (by omega), Array.getElem?_setIfInBounds_ne (by omega), Array.getElem?_setIfInBounds_ne (by omega), Array.getElem?_setIfInBounds_ne (by omega), Array.getElem?_setIfInBounds_ne (by omega), Array.getElem?_setIfInBounds_self_of_lt (by (try simp only [Array.size_setIfInBounds]); omega)]
theorem putOp_1 (cs : Array Value) (off : Nat) (o : OpV) (h : off + 8 ≤ cs.size) : (putOp cs off o)[off + 1]? = some (.int .i64 o.seq) := by
  unfold putOp
  rw [Array.getElem?_setIfInBounds_ne (by omega), Array.getElem?_setIfInBounds_ne (by omega), Array.getElem?_setIfInBounds_ne (by omega), Array.getElem?_setIfInBounds_ne (by omega), Array.getElem?_setIfInBounds_ne (by omega), Array.getElem?_setIfInBounds_ne (by omega), Array.getElem?_setIfInBounds_self_of_lt (by (try simp only [Array.size_setIfInBounds]); omega)]
theorem putOp_2 (cs : Array Value) (off : Nat) (o : OpV) (h : off + 8 ≤ cs.size) : (putOp cs off o)[off + 2]? = some (.int .i64 o.stamp) := by
  unfold putOp
  rw [Array.getElem?_setIfInBounds_ne (by omega), Array.getElem?_setIfInBounds_ne (by omega), Array.getElem?_setIfInBounds_ne (by omega), Array.getElem?_setIfInBounds_ne (by omega), Array.getElem?_setIfInBounds_ne (by omega), Array.getElem?_setIfInBounds_self_of_lt (by (try simp only [Array.size_setIfInBounds]); omega)]
theorem putOp_3 (cs : Array Value) (off : Nat) (o : OpV) (h : off + 8 ≤ cs.size) : (putOp cs off o)[off + 3]? = some (.int .i64 o.kind) := by
  unfold putOp
  rw [Array.getElem?_setIfInBounds_ne (by omega), Array.getElem?_setIfInBounds_ne (by omega), Array.getElem?_setIfInBounds_ne (by omega), Array.getElem?_setIfInBounds_ne (by omega), Array.getElem?_setIfInBounds_self_of_lt (by (try simp only [Array.size_setIfInBounds]); omega)]
theorem putOp_4 (cs : Array Value) (off : Nat) (o : OpV) (h : off + 8 ≤ cs.size) : (putOp cs off o)[off + 4]? = some (.string o.item) := by
  unfold putOp
  rw [Array.getElem?_setIfInBounds_ne (by omega), Array.getElem?_setIfInBounds_ne (by omega), Array.getElem?_setIfInBounds_ne (by omega), Array.getElem?_setIfInBounds_self_of_lt (by (try simp only [Array.size_setIfInBounds]); omega)]
theorem putOp_5 (cs : Array Value) (off : Nat) (o : OpV) (h : off + 8 ≤ cs.size) : (putOp cs off o)[off + 5]? = some (.int .i64 o.qty) := by
  unfold putOp
  rw [Array.getElem?_setIfInBounds_ne (by omega), Array.getElem?_setIfInBounds_ne (by omega), Array.getElem?_setIfInBounds_self_of_lt (by (try simp only [Array.size_setIfInBounds]); omega)]
theorem putOp_6 (cs : Array Value) (off : Nat) (o : OpV) (h : off + 8 ≤ cs.size) : (putOp cs off o)[off + 6]? = some (.int .i64 o.level) := by
  unfold putOp
  rw [Array.getElem?_setIfInBounds_ne (by omega), Array.getElem?_setIfInBounds_self_of_lt (by (try simp only [Array.size_setIfInBounds]); omega)]
theorem putOp_7 (cs : Array Value) (off : Nat) (o : OpV) (h : off + 8 ≤ cs.size) : (putOp cs off o)[off + 7]? = some (.int .i64 o.undos) := by
  unfold putOp
  rw [Array.getElem?_setIfInBounds_self_of_lt (by (try simp only [Array.size_setIfInBounds]); omega)]
end Go.Proofs.Ytdbdmfaphdjdpaa
