/- laws.FnExactIssueAll returns true for every cart, device and row of commands: what IssueAll answers, and that its arguments are left as they were. The card ties the four errors of package impl. -/
import Derived.Test.YtjokbaaommicmaaGreatDoorGb18
import Derived.Test.YtjokbaaommicmaaGreatDoorGb5
import Derived.Test.YtjokbaaommicmaaGreatDoorGb26
import Derived.Test.YtjokbaaommicmaaGreatDoorGb51
import Derived.Test.YtjokbaaommicmaaGreatDoorGb24
import Derived.Test.YtjokbaaommicmaaGreatDoorGb27
import Derived.Test.YtjokbaaommicmaaGreatDoorGb23
import Derived.DataReads
import Derived.Deep.Cut
import Derived.Deep.RegionHeld3
import Derived.Test.YtjokbaaommicmaaGreatDoorGbA
import Derived.Test.YtjokbaaommicmaaGreatDoorGb19
namespace Go.Proofs.YtjokbaaommicmaaGreatDoor
set_option maxRecDepth 100000
open Go.RowKit
set_option linter.unusedVariables false
open Go.ChangeShapes Go.WideShapes Go.ChangeAt
/-- The bytes of the items of the first k elements. -/
def CmitemsTo (l : List CmV) (k : Nat) : Nat := ((l.take k).map fun o => o.item.size).sum
theorem CmitemsTo_step {l : List CmV} {k : Nat} (h : k < l.length) : CmitemsTo l (k + 1) = CmitemsTo l k + (l.getD k CmV.zero).item.size := by
 unfold CmitemsTo
 rw [List.take_succ_eq_append_getElem h, List.map_append, List.sum_append, List.getD_eq_getElem?_getD, List.getElem?_eq_getElem h]
 simp
theorem CmitemsTo_le (l : List CmV) (k : Nat) : ∀ m, k ≤ m → m ≤ l.length → CmitemsTo l k ≤ CmitemsTo l m
 | 0, h, _ => by obtain rfl : k = 0 := by omega
                 exact Nat.le_refl _
 | m + 1, h, hm => by
  rcases Nat.lt_or_ge k (m + 1) with h1 | h1
  ·have := CmitemsTo_le l k m (by omega) (by omega)
   rw [CmitemsTo_step (l := l) (k := m) (by omega)]
   omega
  ·obtain rfl : k = m + 1 := by omega
   exact Nat.le_refl _
def CmTotal (l : List CmV) : Nat := l.length + CmitemsTo l l.length
theorem Cm_fit {l : List CmV} (h : CmTotal l ≤ 1048576) : l.length ≤ 1048576 ∧ ∀ i, i < l.length → (l.getD i CmV.zero).item.size ≤ 1048576 := by
 unfold CmTotal at h
 refine ⟨by omega, fun i hi => ?_⟩
 have h1 := CmitemsTo_step (l := l) (k := i) hi
 have h2 := CmitemsTo_le l (i + 1) l.length (by omega) (Nat.le_refl _)
 omega


theorem szCmYes (o : CmV) (left : Nat) (hl : left ≤ 1048576) (h : o.item.size ≤ left) (w : World) : Calls Tryz.prog 7 #[.agg #[.int .i64 o.kind, .string o.item, .int .i64 o.qty, .int .i64 o.dev, .int .i64 o.seq], .int .i64 (left : Int)] w fun e w' => e = .returned (.int .i64 ((left - o.item.size : Nat) : Int)) ∧ Below w.heap.size w w' := by
 rw [Int.ofNat_sub h]
 exact szCmdYesL o.kind o.item o.qty o.dev o.seq left hl h w
theorem szCmNo (o : CmV) (left : Nat) (hl : left ≤ 1048576) (hm : o.item.size ≤ maxLen) (h : ¬ o.item.size ≤ left) (w : World) : Calls Tryz.prog 7 #[.agg #[.int .i64 o.kind, .string o.item, .int .i64 o.qty, .int .i64 o.dev, .int .i64 o.seq], .int .i64 (left : Int)] w fun e w' => e = .returned (.int .i64 (-1)) ∧ Below w.heap.size w w' :=
 szCmdNoL o.kind o.item o.qty o.dev o.seq left hl hm h w
def SzCmPost (t left : Nat) (w : World) (e : Ending) (w' : World) : Prop := e = .returned (.int .i64 (if t ≤ left then ((left - t : Nat) : Int) else -1)) ∧ Below w.heap.size w w'
set_option maxHeartbeats 5000000 in
theorem szCms (w : World) (B : Nat) (a : Option Addr) (n cap : Nat) (l : List CmV) (h : Cms w B a n l) (hB : B ≤ w.heap.size) (hn : n ≤ maxLen) (hm : ∀ i, i < n → (l.getD i CmV.zero).item.size ≤ maxLen) (left : Nat) (hl : left ≤ 1048576) :
  Calls Tryz.prog 15 #[.slice a n cap, .int .i64 (left : Int)] w (SzCmPost (CmTotal l) left w) := by
 have hL := h.1
 have HT : Hid (CmTotal l = n + CmitemsTo l n) := by show CmTotal l = _; unfold CmTotal; rw [hL]
 have HLn := Lib.hid hL
 clear hL
 unfold maxLen at hn
 by_cases hbig : n ≤ left
 rotate_left
 ·have HF : Hid (¬ CmTotal l ≤ left) := by have := HT.out; show ¬ _; omega
  have hd : decide ((left : Int) - (n : Int) < 0) = true := decide_eq_true (by omega)
  go_enter Tryz.func15, Tryz.ntmps15
  go_wp2
  go_ret
  exact ⟨by rw [if_neg HF.out]; rfl, Below.refl _ _⟩
 have hd : decide ((left : Int) - (n : Int) < 0) = false := decide_eq_false (by omega)
 have H := Lib.hid h
 have HM := Lib.hid hm
 clear h hm
 go_enter Tryz.func15, Tryz.ntmps15
 go_wp2
 go_loopw [1, 5] (fun m i wr => ∃ k q : Nat, k ≤ n ∧ i = .int .i64 k ∧ m = .int .i64 q ∧ Hid (q + n + CmitemsTo l k = left) ∧ Hid (Below w.heap.size w wr)) (fun _ i _ => n - (intOf i).toNat)
 case atStart => exact ⟨0, left - n, Nat.zero_le _, rfl, by go_num, (by show _ = _; simp [CmitemsTo]; omega), Below.refl _ _⟩
 case round =>
  obtain ⟨k, q, hk, rfl, rfl, HQ, HB⟩ := hrel
  have hq : q ≤ 1048576 := by have := HQ.out; omega
  clear hd
  by_cases hlt : k < n
  ·obtain ⟨b, off, rfl, hb, ho⟩ := H.out.2 k hlt
   have hio := HM.out k hlt
   have HI := Lib.hid (CmitemsTo_step (l := l) (k := k) (by rw [HLn.out]; exact hlt))
   have HLe := Lib.hid (CmitemsTo_le l (k + 1) n hlt (by rw [HLn.out]; exact Nat.le_refl _))
   obtain ⟨c0, c1, c2, c3, c4⟩ := ho.kept (HB.out.block b (by omega))
   clear ho
   generalize l.getD k CmV.zero = o at hio HI c0 c1 c2 c3 c4
   by_cases hfit : o.item.size ≤ q
   ·have hl2 : decide (((q - o.item.size : Nat) : Int) < 0) = false := decide_eq_false (by omega)
    go_wp2_with fail
    refine (szCmYes o q hq hfit _).mono ?_
    rintro e w1 ⟨rfl, hb1⟩
    have HB1 := Lib.hid (HB.out.trans (hb1.mono HB.out.size))
    clear hb1 c0 c1 c2 c3 c4
    go_wp2
    go_roundw
    case rel => exact ⟨k + 1, q - o.item.size, by omega, by go_num, rfl, (by have := HQ.out; have := HI.out; show _ = _; omega), HB1⟩
    case measure => simp [intOf]; omega
   ·have HF : Hid (¬ CmTotal l ≤ left) := by have := HT.out; have := HQ.out; have := HI.out; have := HLe.out; show ¬ _; omega
    go_wp2_with fail
    refine (szCmNo o q hq hio hfit _).mono ?_
    rintro e w1 ⟨rfl, hb1⟩
    have HB1 := Lib.hid (HB.out.trans (hb1.mono HB.out.size))
    clear hb1 c0 c1 c2 c3 c4
    go_wp2
    go_ret
    exact ⟨by rw [if_neg HF.out]; rfl, HB1.out⟩
  ·obtain rfl : k = n := by omega
   have HF : Hid (CmTotal l ≤ left ∧ left - CmTotal l = q) := by have := HT.out; have := HQ.out; exact ⟨by omega, by omega⟩
   go_wp2
   go_ret
   exact ⟨by rw [if_pos HF.out.1, HF.out.2]; rfl, HB.out⟩

def Cmput (cs : Array Value) (off : Nat) (o : CmV) : Array Value := (((((cs.setIfInBounds (off) (.int .i64 o.kind)).setIfInBounds (off + 1) (.string o.item)).setIfInBounds (off + 2) (.int .i64 o.qty)).setIfInBounds (off + 3) (.int .i64 o.dev)).setIfInBounds (off + 4) (.int .i64 o.seq))
theorem Cmput_size (cs : Array Value) (off : Nat) (o : CmV) : (Cmput cs off o).size = cs.size := by
 unfold Cmput
 simp only [Array.size_setIfInBounds]
theorem Cmput_far (cs : Array Value) (off m : Nat) (o : CmV) (h : m < off ∨ off + 5 ≤ m) : (Cmput cs off o)[m]? = cs[m]? := by
 unfold Cmput
 rw [Array.getElem?_setIfInBounds_ne (by omega), Array.getElem?_setIfInBounds_ne (by omega), Array.getElem?_setIfInBounds_ne (by omega), Array.getElem?_setIfInBounds_ne (by omega), Array.getElem?_setIfInBounds_ne (by omega)]
theorem Cmput_0 (cs : Array Value) (off : Nat) (o : CmV) (h : off + 5 ≤ cs.size) : (Cmput cs off o)[off]? = some (.int .i64 o.kind) := by
 unfold Cmput
 rw [Array.getElem?_setIfInBounds_ne (by omega), Array.getElem?_setIfInBounds_ne (by omega), Array.getElem?_setIfInBounds_ne (by omega), Array.getElem?_setIfInBounds_ne (by omega), Array.getElem?_setIfInBounds_self_of_lt (by (try simp only [Array.size_setIfInBounds]); omega)]
theorem Cmput_1 (cs : Array Value) (off : Nat) (o : CmV) (h : off + 5 ≤ cs.size) : (Cmput cs off o)[off + 1]? = some (.string o.item) := by
 unfold Cmput
 rw [Array.getElem?_setIfInBounds_ne (by omega), Array.getElem?_setIfInBounds_ne (by omega), Array.getElem?_setIfInBounds_ne (by omega), Array.getElem?_setIfInBounds_self_of_lt (by (try simp only [Array.size_setIfInBounds]); omega)]
theorem Cmput_2 (cs : Array Value) (off : Nat) (o : CmV) (h : off + 5 ≤ cs.size) : (Cmput cs off o)[off + 2]? = some (.int .i64 o.qty) := by
 unfold Cmput
 rw [Array.getElem?_setIfInBounds_ne (by omega), Array.getElem?_setIfInBounds_ne (by omega), Array.getElem?_setIfInBounds_self_of_lt (by (try simp only [Array.size_setIfInBounds]); omega)]
theorem Cmput_3 (cs : Array Value) (off : Nat) (o : CmV) (h : off + 5 ≤ cs.size) : (Cmput cs off o)[off + 3]? = some (.int .i64 o.dev) := by
 unfold Cmput
 rw [Array.getElem?_setIfInBounds_ne (by omega), Array.getElem?_setIfInBounds_self_of_lt (by (try simp only [Array.size_setIfInBounds]); omega)]
theorem Cmput_4 (cs : Array Value) (off : Nat) (o : CmV) (h : off + 5 ≤ cs.size) : (Cmput cs off o)[off + 4]? = some (.int .i64 o.seq) := by
 unfold Cmput
 rw [Array.getElem?_setIfInBounds_self_of_lt (by (try simp only [Array.size_setIfInBounds]); omega)]
theorem Tryz.infoCm : (Tryz.prog.info? 36).map (fun i => (i.zero, i.size, i.bytes)) = some (some (.agg #[.int .i64 0, .string ⟨#[]⟩, .int .i64 0, .int .i64 0, .int .i64 0]), 5, 48) := by kernel_rfl
/-- Block g holds n elements, of which the first k are l's. -/
def PartCm (w wr : World) (g n : Nat) (l : List CmV) (k : Nat) : Prop :=
 Below w.heap.size w wr ∧ ∃ cs : Array Value, wr.heap[g]? = some (.cells cs 36 (0, 0)) ∧ cs.size = n * 5 ∧ ∀ i, i < k → cs[i * 5]? = some (.int .i64 (l.getD i CmV.zero).kind) ∧ cs[i * 5 + 1]? = some (.string (l.getD i CmV.zero).item) ∧ cs[i * 5 + 2]? = some (.int .i64 (l.getD i CmV.zero).qty) ∧ cs[i * 5 + 3]? = some (.int .i64 (l.getD i CmV.zero).dev) ∧ cs[i * 5 + 4]? = some (.int .i64 (l.getD i CmV.zero).seq)
theorem PartCm.next {w wr w1 : World} {g n : Nat} {l : List CmV} {k : Nat} (h : PartCm w wr g n l k) (hb : Below wr.heap.size wr w1) : PartCm w w1 g n l k := by
 obtain ⟨h1, cs, hg, hs, hc⟩ := h
 exact ⟨h1.trans (hb.mono h1.size), cs, (hb.block _ (Array.getElem?_eq_some_iff.1 hg).1).trans hg, hs, hc⟩
def CmsetAt (w : World) (b off : Nat) (o : CmV) : World := (((((w.setCell ⟨b, off, none⟩ (.int .i64 o.kind)).setCell ⟨b, off + 1, none⟩ (.string o.item)).setCell ⟨b, off + 2, none⟩ (.int .i64 o.qty)).setCell ⟨b, off + 3, none⟩ (.int .i64 o.dev)).setCell ⟨b, off + 4, none⟩ (.int .i64 o.seq))
theorem CmsetAt_same {w : World} {b off : Nat} {cs : Array Value} {T : TypeId} (o : CmV) (h : w.heap[b]? = some (.cells cs T (0, 0))) : (CmsetAt w b off o).heap[b]? = some (.cells (Cmput cs off o) T (0, 0)) := by
 have h0 : (w.setCell ⟨b, off, none⟩ (.int .i64 o.kind)).heap[b]? = some (.cells (cs.setIfInBounds (off) (.int .i64 o.kind)) T (0, 0)) := heap_setCell_same _ _ _ _ _ _ h
 have h1 : ((w.setCell ⟨b, off, none⟩ (.int .i64 o.kind)).setCell ⟨b, off + 1, none⟩ (.string o.item)).heap[b]? = some (.cells ((cs.setIfInBounds (off) (.int .i64 o.kind)).setIfInBounds (off + 1) (.string o.item)) T (0, 0)) := heap_setCell_same _ _ _ _ _ _ h0
 have h2 : (((w.setCell ⟨b, off, none⟩ (.int .i64 o.kind)).setCell ⟨b, off + 1, none⟩ (.string o.item)).setCell ⟨b, off + 2, none⟩ (.int .i64 o.qty)).heap[b]? = some (.cells (((cs.setIfInBounds (off) (.int .i64 o.kind)).setIfInBounds (off + 1) (.string o.item)).setIfInBounds (off + 2) (.int .i64 o.qty)) T (0, 0)) := heap_setCell_same _ _ _ _ _ _ h1
 have h3 : ((((w.setCell ⟨b, off, none⟩ (.int .i64 o.kind)).setCell ⟨b, off + 1, none⟩ (.string o.item)).setCell ⟨b, off + 2, none⟩ (.int .i64 o.qty)).setCell ⟨b, off + 3, none⟩ (.int .i64 o.dev)).heap[b]? = some (.cells ((((cs.setIfInBounds (off) (.int .i64 o.kind)).setIfInBounds (off + 1) (.string o.item)).setIfInBounds (off + 2) (.int .i64 o.qty)).setIfInBounds (off + 3) (.int .i64 o.dev)) T (0, 0)) := heap_setCell_same _ _ _ _ _ _ h2
 have h4 : (((((w.setCell ⟨b, off, none⟩ (.int .i64 o.kind)).setCell ⟨b, off + 1, none⟩ (.string o.item)).setCell ⟨b, off + 2, none⟩ (.int .i64 o.qty)).setCell ⟨b, off + 3, none⟩ (.int .i64 o.dev)).setCell ⟨b, off + 4, none⟩ (.int .i64 o.seq)).heap[b]? = some (.cells (((((cs.setIfInBounds (off) (.int .i64 o.kind)).setIfInBounds (off + 1) (.string o.item)).setIfInBounds (off + 2) (.int .i64 o.qty)).setIfInBounds (off + 3) (.int .i64 o.dev)).setIfInBounds (off + 4) (.int .i64 o.seq)) T (0, 0)) := heap_setCell_same _ _ _ _ _ _ h3
 exact h4
theorem CmsetAt_other {w : World} {b off k : Nat} (o : CmV) (h : k ≠ b) : (CmsetAt w b off o).heap[k]? = w.heap[k]? := by
 unfold CmsetAt
 rw [heap_setCell_other _ _ _ _ h, heap_setCell_other _ _ _ _ h, heap_setCell_other _ _ _ _ h, heap_setCell_other _ _ _ _ h, heap_setCell_other _ _ _ _ h]
theorem CmsetAt_below {B : Nat} {w0 w : World} {b off : Nat} (o : CmV) (h : Below B w0 w) (hb : B ≤ b) : Below B w0 (CmsetAt w b off o) :=
 (((((h.setCell (p := ⟨b, off, none⟩) hb _).setCell (p := ⟨b, off + 1, none⟩) hb _).setCell (p := ⟨b, off + 2, none⟩) hb _).setCell (p := ⟨b, off + 3, none⟩) hb _).setCell (p := ⟨b, off + 4, none⟩) hb _)
theorem PartCm.step {w wr : World} {g n : Nat} {l : List CmV} {k : Nat} (h : PartCm w wr g n l k) (hg0 : w.heap.size ≤ g) (hk : k < n) : PartCm w (CmsetAt wr g (k * 5) (l.getD k CmV.zero)) g n l (k + 1) := by
 obtain ⟨h1, cs, hg, hs, hc⟩ := h
 refine ⟨CmsetAt_below _ h1 hg0, Cmput cs (k * 5) (l.getD k CmV.zero), CmsetAt_same _ hg, by rw [Cmput_size]; exact hs, fun i hi => ?_⟩
 rcases Nat.lt_or_ge i k with hlt | hge
 ·obtain ⟨d0, d1, d2, d3, d4⟩ := hc i hlt
  exact ⟨(Cmput_far _ _ _ _ (by omega)).trans d0, (Cmput_far _ _ _ _ (by omega)).trans d1, (Cmput_far _ _ _ _ (by omega)).trans d2, (Cmput_far _ _ _ _ (by omega)).trans d3, (Cmput_far _ _ _ _ (by omega)).trans d4⟩
 ·obtain rfl : i = k := by omega
  exact ⟨Cmput_0 _ _ _ (by omega), Cmput_1 _ _ _ (by omega), Cmput_2 _ _ _ (by omega), Cmput_3 _ _ _ (by omega), Cmput_4 _ _ _ (by omega)⟩
theorem PartCm.cells {w wr : World} {g n : Nat} {l : List CmV} {k : Nat} (h : PartCm w wr g n l k) (hk : k < n) : ∃ v0 v1 v2 v3 v4, wr.cell? ⟨g, k * 5, none⟩ = some v0 ∧ wr.cell? ⟨g, k * 5 + 1, none⟩ = some v1 ∧ wr.cell? ⟨g, k * 5 + 2, none⟩ = some v2 ∧ wr.cell? ⟨g, k * 5 + 3, none⟩ = some v3 ∧ wr.cell? ⟨g, k * 5 + 4, none⟩ = some v4 := by
 obtain ⟨h1, cs, hg, hs, hc⟩ := h
 have e : ∀ m, m < cs.size → wr.cell? ⟨g, m, none⟩ = some (cs.getD m undef) := fun m hm => by
  rw [cell_of_row _ _ _ _ _ _ hg, Array.getElem?_eq_getElem hm]
  simp [Array.getD, hm]
 exact ⟨_, _, _, _, _, e _ (by omega), e _ (by omega), e _ (by omega), e _ (by omega), e _ (by omega)⟩
theorem PartCm.frozen {w wr : World} {g n : Nat} {l : List CmV} {k : Nat} (h : PartCm w wr g n l k) (m : Nat) : wr.frozen? ⟨g, m, none⟩ = false := by
 obtain ⟨h1, cs, hg, hs, hc⟩ := h
 exact frozen_of_row _ _ _ _ _ hg
theorem PartCm.own {w wr : World} {g n lo : Nat} {l : List CmV} (h : PartCm w wr g n l n) (hl : l.length = n) (hlo : lo ≤ g) {B : Nat} (hB : g < B) : OwnCms wr lo B (some ⟨g, 0, none⟩) n l := by
 obtain ⟨h1, cs, hg, hs, hc⟩ := h
 exact ⟨hl, fun _ => ⟨g, 0, cs, rfl, hlo, hB, hg, by omega, fun i hi => by rw [Nat.zero_add]; exact hc i hi⟩⟩
/-- What a call leaves that hands back a new slice of them: its block is new. -/
def FreshCm (l : List CmV) (w : World) (e : Ending) (w' : World) : Prop :=
 e = .returned (.slice (some ⟨w.heap.size, 0, none⟩) l.length l.length) ∧ OwnCms w' w.heap.size w'.heap.size (some ⟨w.heap.size, 0, none⟩) l.length l ∧ w.heap.size < w'.heap.size ∧ Below w.heap.size w w'
set_option maxHeartbeats 5000000 in
theorem toCms (w : World) (B : Nat) (a : Option Addr) (n cap : Nat) (l : List CmV) (h : Cms w B a n l) (hB : B ≤ w.heap.size) (hl : n ≤ 1048576) :
  Calls Tryz.prog 17 #[.slice a n cap] w (FreshCm l w) := by
 obtain ⟨i0, hi, hz0, hz1, hz2⟩ := info_parts Tryz.infoCm
 obtain ⟨M, hM⟩ : ∃ M, M = madeCells (Value.agg #[.int .i64 0, .string ⟨#[]⟩, .int .i64 0, .int .i64 0, .int .i64 0]).cells (((n : Nat) : Int).toNat * i0.size) := ⟨_, rfl⟩
 have hMs : M.size = n * 5 := by rw [hM, size_madeCells, hz1]; simp
 have hmk : ∀ W : World, (Instr.makeSlice 45 (.int .i64 (n : Int)) (.int .i64 (n : Int))).run Tryz.prog W = .ok (.slice (some ⟨W.heap.size, 0, none⟩) n n) (W.alloc (.cells M 36)) := fun W => by
  have h := run_make (P := Tryz.prog) W 45 36 i0 (.agg #[.int .i64 0, .string ⟨#[]⟩, .int .i64 0, .int .i64 0, .int .i64 0]) Tryz.underlying45 hi hz0 .i64 .i64 (n : Int) (n : Int) (by omega) (by omega) (by rw [hz2]; omega) (by omega)
  rw [← hM] at h
  simpa using h
 have hL := Lib.hid h.1
 have H := Lib.hid h
 have HM := Lib.hid hMs
 clear hM h hMs hi hz0 hz1 hz2
 go_enter Tryz.func17, Tryz.ntmps17
 go_wp2
 go_loopw [4] (fun i wr => ∃ k : Nat, k ≤ n ∧ i = .int .i64 k ∧ Hid (PartCm w wr w.heap.size n l k) ∧ Hid (w.heap.size < wr.heap.size)) (fun i _ => n - (intOf i).toNat)
 case atStart => exact ⟨0, Nat.zero_le _, rfl, ⟨bl, M, heap_alloc_new _ _, HM.out, fun j hj => by omega⟩, (by show _ < (w.heap.push _).size; simp)⟩
 case round =>
  obtain ⟨k, hk, rfl, HP, HW⟩ := hrel
  by_cases hlt : k < n
  ·obtain ⟨b, off, rfl, hb, ho⟩ := H.out.2 k hlt
   obtain ⟨c0, c1, c2, c3, c4⟩ := ho.kept (HP.out.1.block b (by omega))
   clear ho
   generalize ho' : l.getD k CmV.zero = x at c0 c1 c2 c3 c4
   have HXo := Lib.hid ho'
   clear ho'
   go_wp2_with fail
   refine (toCmdL x.kind x.item x.qty x.dev x.seq _).mono ?_
   rintro e w1 ⟨rfl, hb1⟩
   clear c0 c1 c2 c3 c4
   have HP1 := Lib.hid (HP.out.next hb1)
   have hw1 : w.heap.size < w1.heap.size := by have := HW.out; have := hb1.size; omega
   have HS : Hid (PartCm w (CmsetAt w1 w.heap.size (k * 5) x) w.heap.size n l (k + 1)) := by have := HP1.out.step (Nat.le_refl _) hlt; rw [HXo.out] at this; exact this
   obtain ⟨v0, v1, v2, v3, v4, d0, d1, d2, d3, d4⟩ := HP1.out.cells hlt
   have f0 := HP1.out.frozen (k * 5)
   have f1 := HP1.out.frozen (k * 5 + 1)
   have f2 := HP1.out.frozen (k * 5 + 2)
   have f3 := HP1.out.frozen (k * 5 + 3)
   have f4 := HP1.out.frozen (k * 5 + 4)
   have hsz : (CmsetAt w1 w.heap.size (k * 5) x).heap.size = w1.heap.size := by unfold CmsetAt; simp [World.setCell]
   clear hb1 HP HP1 HW
   go_wp2
   go_roundw
   case rel => exact ⟨k + 1, by omega, by go_num, HS, (by show _ < (CmsetAt w1 w.heap.size (k * 5) x).heap.size; rw [hsz]; exact hw1)⟩
   case measure => simp [intOf]; omega
  ·obtain rfl : k = n := by omega
   have HD := Lib.hid (HP.out.own hL.out (Nat.le_refl _) HW.out)
   go_wp2
   go_ret
   exact ⟨by rw [hL.out]; rfl, by rw [hL.out]; exact HD.out, HW.out, HP.out.1⟩

theorem Cmpick {P : Nat → CmV → Prop} : ∀ n, (∀ i, i < n → ∃ o, P i o) → ∃ l : List CmV, l.length = n ∧ ∀ i, i < n → P i (l.getD i CmV.zero)
 | 0, _ => ⟨[], rfl, fun i hi => by omega⟩
 | n + 1, h => by
  obtain ⟨l, hl, hp⟩ := Cmpick n (fun i hi => h i (by omega))
  obtain ⟨o, ho⟩ := h n (by omega)
  refine ⟨l ++ [o], by simp [hl], fun i hi => ?_⟩
  rcases Nat.lt_or_ge i n with h1 | h1
  ·rw [List.getD_eq_getElem?_getD, List.getElem?_append_left (by omega), ← List.getD_eq_getElem?_getD]
   exact hp i h1
  ·obtain rfl : i = n := by omega
   rw [List.getD_eq_getElem?_getD, List.getElem?_append_right (by omega)]
   simpa [hl] using ho
theorem Cmcells {H : Type} {enc : TypeId × Value → H} {W : World} {base : Nat} {spare : Nat → Bool} {held : Bool} {fuel : Nat} {cs : List Value} {y : DataW H × List MemPlace} (h : DataW.trod enc Tryz.prog W base spare held fuel 27 cs = some y) :
  ∃ o : CmV, cs = [.int .i64 o.kind, .string o.item, .int .i64 o.qty, .int .i64 o.dev, .int .i64 o.seq] ∧ o.item.size ≤ maxLen := by
 obtain ⟨xs, n, _, hx, hlc, hlen, hg⟩ := DataW.trod_struct Tryz.underlying27 h
 rw [cells_cmd] at hlc
 match cs, hlc with
 | [c0, c1, c2, c3, c4], _ =>
  match xs, hlen with
  | [y0, y1, y2, y3, y4], _ =>
   obtain ⟨a0, rfl, _⟩ := one_int (l := [c0, c1, c2, c3, c4]) (j := 0) rfl (hg 0 _ rfl) rfl
   obtain ⟨s, rfl, hs⟩ := one_str (l := [_, c1, c2, c3, c4]) (j := 1) rfl (hg 1 _ rfl) rfl
   obtain ⟨a2, rfl, _⟩ := one_int (l := [_, _, c2, c3, c4]) (j := 2) rfl (hg 2 _ rfl) rfl
   obtain ⟨a3, rfl, _⟩ := one_int (l := [_, _, _, c3, c4]) (j := 3) rfl (hg 3 _ rfl) rfl
   obtain ⟨a4, rfl, _⟩ := one_int (l := [_, _, _, _, c4]) (j := 4) rfl (hg 4 _ rfl) rfl
   exact ⟨⟨a0, s, a2, a3, a4⟩, rfl, hs⟩
theorem open_cmds {H : Type} {enc : TypeId × Value → H} {W : World} {r : Reach} {b0 : Nat} {v : Value} {d : DataW H} {p : List MemPlace} (hv : Value.okWide Tryz.prog W r b0 41 v) (h0 : DataW.Trod enc Tryz.prog W 0 (fun _ => true) true 41 v d p) :
  ∃ (ao : Option Addr) (no co : Nat) (l : List CmV), v = .slice ao no co ∧ Cms W W.heap.size ao no l ∧ no ≤ maxLen ∧ ∀ i, i < no → (l.getD i CmV.zero).item.size ≤ maxLen := by
 obtain ⟨a0, len0, cap0, rfl⟩ := okWide_slice Tryz.underlying41 hv
 obtain ⟨fuel, h⟩ := h0
 have e1 : (Value.slice a0 len0 cap0).cells.toList = [.slice a0 len0 cap0] := by simp [Value.cells]
 rw [e1] at h
 rcases DataW.trod_slice Tryz.underlying41 h with ⟨hc, _⟩ | ⟨a, len, cap, elems, rest, n, _, hc, _, _, hl, hm, hlen, hel, _, _⟩
 ·injection hc with hc
  rw [hc]
  exact ⟨none, 0, 0, [], rfl, ⟨rfl, fun i hi => by omega⟩, Nat.zero_le _, fun i hi => by omega⟩
 ·injection hc with hc
  rw [hc]
  have raw : ∀ i, i < len → ∃ o : CmV, (∀ j v, j < 5 → ([.int .i64 o.kind, .string o.item, .int .i64 o.qty, .int .i64 o.dev, .int .i64 o.seq] : List Value)[j]? = some v → W.cell? ((a.add (i * 5)).add j) = some v) ∧ o.item.size ≤ maxLen := fun i hi => by
   have h1 := hel i hi
   rw [List.getElem?_eq_getElem (by omega), Option.bind_eq_some_iff] at h1
   obtain ⟨cs, hcs, ht⟩ := h1
   rw [cells_cmd] at hcs
   obtain ⟨o, rfl, hs⟩ := Cmcells ht
   obtain ⟨_, _, hat⟩ := World.cells?_some hcs
   exact ⟨o, fun j v hj e => (hat j hj).trans e, hs⟩
  have key : ∀ i, i < len → ∃ o : CmV, (∃ b off, some a = some (⟨b, off, none⟩ : Addr) ∧ b < W.heap.size ∧ CmAt W b (off + i * 5) o) ∧ o.item.size ≤ maxLen := fun i hi => by
   obtain ⟨o0, q0, _⟩ := raw 0 (by omega)
   obtain ⟨o, q, hs⟩ := raw i hi
   obtain ⟨b, off, spot⟩ := a
   have hsp := World.cell?_spot (q0 0 _ (by omega) rfl)
   have hspot : spot = none := by simpa [Addr.add] using hsp
   subst hspot
   refine ⟨o, ⟨b, off, rfl, ?_, ?_⟩, hs⟩
   ·have := block_lt_of_cell (q 0 _ (by omega) rfl)
    rw [add_at, add_at] at this
    exact this
   ·simp only [add_at] at q
    exact ⟨q 0 _ (by omega) rfl, q 1 _ (by omega) rfl, q 2 _ (by omega) rfl, q 3 _ (by omega) rfl, q 4 _ (by omega) rfl⟩
  obtain ⟨l, hll, hp⟩ := Cmpick len key
  exact ⟨some a, len, cap, l, rfl, ⟨hll, fun i hi => (hp i hi).1⟩, by omega, fun i hi => (hp i hi).2⟩
end Go.Proofs.YtjokbaaommicmaaGreatDoor

namespace Go.Proofs.YtjokbaaommicmaaGreatDoor
set_option maxRecDepth 100000
open Go.RowKit
set_option linter.unusedVariables false
theorem OwnCms.beside {w w' : World} {lo hi lo' hi' : Nat} {a : Option Addr} {n : Nat} {l : List CmV} (h : OwnCms w lo hi a n l) (hb : Beside lo' hi' w w') (hd : hi ≤ lo' ∨ hi' ≤ lo) (hw : hi ≤ w.heap.size) : OwnCms w' lo hi a n l :=
 h.kept fun j h1 h2 => hb.block j (by omega) (by omega)


/-- What markCmdS leaves in an element. -/
def markCmV (K : Nat) : CmV := ⟨((K : Nat) : Int), mkT (K + 1), ((K + 2 : Nat) : Int), ((K + 3 : Nat) : Int), ((K + 4 : Nat) : Int)⟩
def CmMarks (k n : Nat) : List CmV := (List.range n).map fun i => markCmV (k + 5 * i)
theorem CmMarks_len (k n : Nat) : (CmMarks k n).length = n := by simp [CmMarks]
theorem CmMarks_at {k n i : Nat} (h : i < n) : (CmMarks k n).getD i CmV.zero = markCmV (k + 5 * i) := by
 rw [List.getD_eq_getElem?_getD]
 simp [CmMarks, h]
def mvalCm (K u : Nat) : Value := if u = 0 then .int .i64 ((K : Nat) : Int) else if u = 1 then .string (mkT (K + 1)) else if u = 2 then .int .i64 ((K + 2 : Nat) : Int) else if u = 3 then .int .i64 ((K + 3 : Nat) : Int) else .int .i64 ((K + 4 : Nat) : Int)
theorem CmIn_of_mvals {cs : Array Value} {off K : Nat} (h : ∀ u, u < 5 → cs[off + u]? = some (mvalCm K u)) : CmIn cs off (markCmV K) := ⟨h 0 (by omega), h 1 (by omega), h 2 (by omega), h 3 (by omega), h 4 (by omega)⟩
/-- How far the marking has come: j elements, and f fields of the next one. -/
structure MCm (g off n k j f : Nat) (w wr : World) : Prop where
 bes : Beside g (g + 1) w wr
 row : ∃ cs : Array Value, wr.heap[g]? = some (.cells cs 36 (0, 0)) ∧ off + n * 5 ≤ cs.size ∧ (∀ t, t < j → CmIn cs (off + t * 5) (markCmV (k + 5 * t))) ∧ ∀ u, u < f → cs[off + j * 5 + u]? = some (mvalCm (k + 5 * j) u)
theorem MCm.step {g off n k j f : Nat} {w w1 w2 : World} (h : MCm g off n k j f w w1) (hb : Below w1.heap.size w1 w2) : MCm g off n k j f w w2 := by
 obtain ⟨hbs, cs, hg, r⟩ := h
 exact ⟨hbs.step hb, cs, (hb.block _ (Array.getElem?_eq_some_iff.1 hg).1).trans hg, r⟩
theorem MCm.cell {g off n k j f : Nat} {w wr : World} (h : MCm g off n k j f w wr) (hj : j < n) (u : Nat) (hu : u < 5) : (∃ v, wr.cell? ⟨g, off + j * 5 + u, none⟩ = some v) ∧ wr.frozen? ⟨g, off + j * 5 + u, none⟩ = false := by
 obtain ⟨_, cs, hg, hs, _⟩ := h
 exact ⟨⟨cs[off + j * 5 + u]'(by omega), (cell_of_row _ _ _ _ _ _ hg).trans (Array.getElem?_eq_getElem (by omega))⟩, frozen_of_row _ _ _ _ _ hg⟩
theorem CmIn_far {cs : Array Value} {off m : Nat} {o : CmV} {v : Value} (h : CmIn cs off o) (hm : m < off ∨ off + 5 ≤ m) : CmIn (cs.setIfInBounds m v) off o := by
 obtain ⟨h0, h1, h2, h3, h4⟩ := h
 exact ⟨(Array.getElem?_setIfInBounds_ne (by omega)).trans h0, (Array.getElem?_setIfInBounds_ne (by omega)).trans h1, (Array.getElem?_setIfInBounds_ne (by omega)).trans h2, (Array.getElem?_setIfInBounds_ne (by omega)).trans h3, (Array.getElem?_setIfInBounds_ne (by omega)).trans h4⟩
theorem MCm.put {g off n k j f : Nat} {w wr : World} (h : MCm g off n k j f w wr) (hj : j < n) (hf : f < 5) {v : Value} (hv : v = mvalCm (k + 5 * j) f) : MCm g off n k j (f + 1) w (wr.setCell ⟨g, off + j * 5 + f, none⟩ v) := by
 obtain ⟨hbs, cs, hg, hs, ho, hu⟩ := h
 refine ⟨hbs.put, cs.setIfInBounds (off + j * 5 + f) v, heap_setCell_same _ _ _ _ _ _ hg, by simpa using hs, fun t ht => CmIn_far (ho t ht) (by omega), fun u hu' => ?_⟩
 rw [Array.getElem?_setIfInBounds]
 by_cases e : f = u
 ·subst e
  rw [if_pos rfl, if_pos (by omega), hv]
 ·rw [if_neg (by omega)]
  exact hu u (by omega)
theorem MCm.next {g off n k j : Nat} {w wr : World} (h : MCm g off n k j 5 w wr) : MCm g off n k (j + 1) 0 w wr := by
 obtain ⟨hbs, cs, hg, hs, ho, hu⟩ := h
 refine ⟨hbs, cs, hg, hs, fun t ht => ?_, fun u hu' => absurd hu' (by omega)⟩
 rcases Nat.lt_or_ge t j with h1 | h1
 ·exact ho t h1
 ·obtain rfl : t = j := by omega
  exact CmIn_of_mvals hu
def CmMarked (k n lo hi : Nat) (a : Option Addr) (w : World) (e : Ending) (w' : World) : Prop :=
 (∃ m : Nat, m = k + 5 * n ∧ e = .returned (.int .i64 (m : Int))) ∧ OwnCms w' lo hi a n (CmMarks k n) ∧ Beside lo hi w w'
theorem MCm.marked {g off n k lo hi m : Nat} {w wr : World} (h : MCm g off n k n 0 w wr) (h1 : lo ≤ g) (h2 : g < hi) (hm : m = k + 5 * n) : CmMarked k n lo hi (some ⟨g, off, none⟩) w (.returned (.int .i64 (m : Int))) wr := by
 obtain ⟨hbs, cs, hg, hs, ho, _⟩ := h
 exact ⟨⟨m, hm, rfl⟩, ⟨CmMarks_len _ _, fun _ => ⟨g, off, cs, rfl, h1, h2, hg, hs, fun i hi' => by rw [CmMarks_at hi']; exact ho i hi'⟩⟩, hbs.wide h1 h2⟩


set_option maxHeartbeats 20000000 in
theorem markCms (w : World) (lo hi : Nat) (a : Option Addr) (n cap : Nat) (l : List CmV) (h : OwnCms w lo hi a n l) (k : Nat) (hk0 : 0 < k) (hk : k ≤ 20000000) (hn : n ≤ 1048576) :
  Calls Tryz.prog 21 #[.slice a n cap, .int .i64 (k : Int)] w (CmMarked k n lo hi a w) := by
 by_cases h0 : 0 < n
 ·obtain ⟨g, off, cs, rfl, hlo, hhi, hg, hs, hc⟩ := h.2 h0
  have HM0 : Hid (MCm g off n k 0 0 w w) := ⟨Beside.refl _ _ _, cs, hg, hs, fun t ht => absurd ht (by omega), fun u hu => absurd hu (by omega)⟩
  have hgw := (Array.getElem?_eq_some_iff.1 hg).1
  clear h hg hs hc
  go_enter Tryz.func21, Tryz.ntmps21
  go_wp2
  go_loopw [1, 5] (fun m i wr => ∃ j q : Nat, j ≤ n ∧ i = .int .i64 (j : Int) ∧ m = .int .i64 (q : Int) ∧ Hid (q = k + 5 * j) ∧ Hid (MCm g off n k j 0 w wr)) (fun _ i _ => n - (intOf i).toNat)
  case atStart => exact ⟨0, k, by omega, rfl, rfl, rfl, HM0⟩
  case round =>
   obtain ⟨j, q0, hj, rfl, rfl, HQ0, HM0⟩ := hrel
   have hq0 : 0 < q0 ∧ q0 ≤ 30000000 := by have := HQ0.out; omega
   obtain ⟨hq0a, hq0b⟩ := hq0
   by_cases hlt : j < n
   rotate_left
   ·obtain rfl : j = n := by omega
    have HF := Lib.hid (HM0.out.marked hlo hhi HQ0.out)
    go_wp2
    go_ret
    exact HF.out
   skip
   obtain ⟨⟨v0, c0⟩, f0⟩ := HM0.out.cell hlt 0 (by omega)
   simp only [Nat.add_zero] at c0 f0
   have HM1 : Hid (MCm g off n k j 1 w (wr.setCell ⟨g, off + j * 5, none⟩ (.int .i64 (q0 : Int)))) := HM0.out.put hlt (by omega) (by rw [HQ0.out]; rfl)
   go_upto_region 5 with fail
   generalize wr.setCell ⟨g, off + j * 5, none⟩ (.int .i64 (q0 : Int)) = y1 at HM1 ⊢
   clear c0 f0 HM0 v0
   go_upto_region 6 with fail
   obtain ⟨q1, hqe⟩ : ∃ q : Nat, q = q0 + 1 := ⟨_, rfl⟩
   have hqi : (q0 : Int) + 1 = (q1 : Int) := by omega
   have HQ1 : Hid (q1 = k + 5 * j + 1) := by have := HQ0.out; show _ = _; omega
   have hq1a : 0 < q1 := by omega
   have hq1b : q1 ≤ 30000001 := by omega
   rw [hqi]
   clear hqi hqe hq0a hq0b HQ0
   go_wp2_with fail
   refine (markText (q1 : Int) q1 rfl (by omega) (by omega) _).mono ?_
   rintro e z1 ⟨rfl, hb4⟩
   have HM1' := Lib.hid (HM1.out.step hb4)
   clear HM1 hb4
   obtain ⟨⟨v1, c1⟩, f1⟩ := HM1'.out.cell hlt 1 (by omega)
   have HM2 : Hid (MCm g off n k j 2 w (z1.setCell ⟨g, off + j * 5 + 1, none⟩ (.string (mkT q1)))) := HM1'.out.put hlt (by omega) (by rw [HQ1.out]; rfl)
   go_upto_region 7 with fail
   generalize z1.setCell ⟨g, off + j * 5 + 1, none⟩ (.string (mkT q1)) = y2 at HM2 ⊢
   clear c1 f1 HM1' v1
   go_upto_region 8 with fail
   obtain ⟨q2, hqe⟩ : ∃ q : Nat, q = q1 + 1 := ⟨_, rfl⟩
   have hqi : (q1 : Int) + 1 = (q2 : Int) := by omega
   have HQ2 : Hid (q2 = k + 5 * j + 2) := by have := HQ1.out; show _ = _; omega
   have hq2a : 0 < q2 := by omega
   have hq2b : q2 ≤ 30000002 := by omega
   rw [hqi]
   clear hqi hqe hq1a hq1b HQ1
   obtain ⟨⟨v2, c2⟩, f2⟩ := HM2.out.cell hlt 2 (by omega)
   have HM3 : Hid (MCm g off n k j 3 w (y2.setCell ⟨g, off + j * 5 + 2, none⟩ (.int .i64 (q2 : Int)))) := HM2.out.put hlt (by omega) (by rw [HQ2.out]; rfl)
   go_upto_region 9 with fail
   generalize y2.setCell ⟨g, off + j * 5 + 2, none⟩ (.int .i64 (q2 : Int)) = y3 at HM3 ⊢
   clear c2 f2 HM2 v2
   go_upto_region 10 with fail
   obtain ⟨q3, hqe⟩ : ∃ q : Nat, q = q2 + 1 := ⟨_, rfl⟩
   have hqi : (q2 : Int) + 1 = (q3 : Int) := by omega
   have HQ3 : Hid (q3 = k + 5 * j + 3) := by have := HQ2.out; show _ = _; omega
   have hq3a : 0 < q3 := by omega
   have hq3b : q3 ≤ 30000003 := by omega
   rw [hqi]
   clear hqi hqe hq2a hq2b HQ2
   obtain ⟨⟨v3, c3⟩, f3⟩ := HM3.out.cell hlt 3 (by omega)
   have HM4 : Hid (MCm g off n k j 4 w (y3.setCell ⟨g, off + j * 5 + 3, none⟩ (.int .i64 (q3 : Int)))) := HM3.out.put hlt (by omega) (by rw [HQ3.out]; rfl)
   go_upto_region 11 with fail
   generalize y3.setCell ⟨g, off + j * 5 + 3, none⟩ (.int .i64 (q3 : Int)) = y4 at HM4 ⊢
   clear c3 f3 HM3 v3
   go_upto_region 12 with fail
   obtain ⟨q4, hqe⟩ : ∃ q : Nat, q = q3 + 1 := ⟨_, rfl⟩
   have hqi : (q3 : Int) + 1 = (q4 : Int) := by omega
   have HQ4 : Hid (q4 = k + 5 * j + 4) := by have := HQ3.out; show _ = _; omega
   have hq4a : 0 < q4 := by omega
   have hq4b : q4 ≤ 30000004 := by omega
   rw [hqi]
   clear hqi hqe hq3a hq3b HQ3
   obtain ⟨⟨v4, c4⟩, f4⟩ := HM4.out.cell hlt 4 (by omega)
   have HM5 : Hid (MCm g off n k j 5 w (y4.setCell ⟨g, off + j * 5 + 4, none⟩ (.int .i64 (q4 : Int)))) := HM4.out.put hlt (by omega) (by rw [HQ4.out]; rfl)
   go_upto_region 13 with fail
   generalize y4.setCell ⟨g, off + j * 5 + 4, none⟩ (.int .i64 (q4 : Int)) = y5 at HM5 ⊢
   clear c4 f4 HM4 v4
   have HMn := Lib.hid HM5.out.next
   go_wp2
   go_roundw
   case rel => exact ⟨j + 1, q4 + 1, by omega, by go_num, by go_num, (by have := HQ4.out; show q4 + 1 = k + 5 * (j + 1); omega), HMn⟩
   case measure => simp [intOf]; omega
 ·obtain rfl : n = 0 := by omega
  have HL := Lib.hid h.1
  clear h
  go_enter Tryz.func21, Tryz.ntmps21
  go_wp2
  refine wp_loop_rounds 1 ?_
  rw [rounds_succ]
  go_wp2
  go_ret
  exact ⟨⟨k, rfl, rfl⟩, ⟨rfl, fun hn => absurd hn (by omega)⟩, Beside.refl _ _ _⟩
set_option linter.unusedVariables false
set_option linter.unusedSimpArgs false

theorem eqIntsV (w : World) (B B' : Nat) (a a' : Option Addr) (n cap cap' : Nat) (xs : List Int) (h : Ints w B a xs.length xs) (h' : Ints w B' a' xs.length xs) (hl : xs.length ≤ 1048576) : Calls Tryz.prog 19 #[.slice a xs.length cap, .slice a' xs.length cap'] w fun e w' => e = .returned (.bool true) ∧ Below w.heap.size w w' :=
 (eqInts w B B' a a' _ cap _ cap' xs xs h h' hl hl).mono fun e w' ⟨h1, h2⟩ => ⟨by rw [h1, decide_eq_true rfl], h2.below _⟩
theorem markIntsV (w : World) (lo hi : Nat) (a : Option Addr) (n cap : Nat) (xs : List Int) (h : Own w lo hi a n xs) (k : Nat) (hk : k ≤ 20000000) (hn : n ≤ 1048576) : Calls Tryz.prog 22 #[.slice a n cap, .int .i64 (k : Int)] w fun e w' => (∃ m : Nat, Hid (m = k + n) ∧ e = .returned (.int .i64 (m : Int))) ∧ Own w' lo hi a n (marks k n) ∧ Beside lo hi w w' :=
 (mark w lo hi a n cap xs h k hk hn).mono fun e w' ⟨⟨m, h1, h2⟩, h3, h4⟩ => ⟨⟨m, h1, h2⟩, h3, h4.beside⟩
theorem heldIntsV (w : World) (B : Nat) (a : Option Addr) (n cap k : Nat) (h : Ints w B a n (marks k n)) (hk : k ≤ 4000000) (hn : n ≤ 1048576) : Calls Tryz.prog 23 #[.slice a n cap, .int .i64 (k : Int)] w fun e w' => e = .returned (.int .i64 ((k + n : Nat) : Int)) ∧ Below w.heap.size w w' :=
 (held w B a n cap k h hk hn).mono fun e w' ⟨h1, h2⟩ => ⟨h1, by rw [← h2]; exact Below.refl _ _⟩
set_option maxHeartbeats 80000000 in
theorem fnExactIssueAllWalk (E : Int → Addr) (av ao : Option Addr) (nv cv no co : Nat) (xs : List Int) (l : List OpV) (dev : Int) (ak : Option Addr) (nk ck : Nat) (cs : List CmV) (w : World) (hE : Errs w w.heap.size E) (hx : Ints w w.heap.size av nv xs) (h : Ops w w.heap.size ao no l) (hv : nv ≤ maxLen) (hn : no ≤ maxLen) (hm : ∀ i, i < no → (l.getD i OpV.zero).item.size ≤ maxLen) (hk : Cms w w.heap.size ak nk cs) (hnk : nk ≤ maxLen) (hkm : ∀ i, i < nk → (cs.getD i CmV.zero).item.size ≤ maxLen) : Calls Tryz.prog 4 #[.agg #[.slice av nv cv, .slice ao no co], .int .i64 dev, .slice ak nk ck] w fun e w' => e = .returned (.bool true) ∧ Below w.heap.size w w' := by
 have hb0 : Below w.heap.size w (w.alloc (.cells #[.slice av nv cv, .slice ao no co] 25)) := (Below.refl _ w).alloc (Nat.le_refl _) _
 have hX0 := heap_alloc_new w (.cells #[.slice av nv cv, .slice ao no co] 25)
 have HV0 := Lib.hid (hx.below hb0 (Nat.le_refl _))
 have HO0 := Lib.hid (h.below hb0 (Nat.le_refl _))
 have HK0 := Lib.hid (hk.below hb0 (Nat.le_refl _))
 have HE0 := Lib.hid (hE.below hb0 (Nat.le_refl _))
 have HB0 := Lib.hid hb0
 have HX0 := Lib.hid hX0
 have HLx := Lib.hid hx.1
 have HLo := Lib.hid h.1
 have HLk := Lib.hid hk.1
 have HM := Lib.hid hm
 have HKm := Lib.hid hkm
 have hs0 : w.heap.size + 1 ≤ (w.alloc (.cells #[.slice av nv cv, .slice ao no co] 25)).heap.size := by show _ ≤ (w.heap.push _).size; simp
 clear hx h hk hb0 hm hkm hE hX0
 go_enter Tryz.func4, Tryz.ntmps4
 go_upto_region 1 with fail
 generalize w.alloc (.cells #[.slice av nv cv, .slice ao no co] 25) = w0 at HV0 HO0 HK0 HE0 HX0 HB0 hs0 ⊢
 obtain ⟨c0, c1⟩ := pair_cells HX0.out
 go_wp2_with fail
 refine (szCart w0 w.heap.size av ao nv cv no co l HO0.out (by omega) hv hn HM.out 1048576 (Nat.le_refl _)).mono ?_
 rintro e w1 ⟨rfl, hb⟩
 clear c0 c1
 have hs1 := hb.size
 have HX1 := Lib.hid ((hb.block _ (Array.getElem?_eq_some_iff.1 HX0.out).1).trans HX0.out)
 have HV1 := Lib.hid (HV0.out.below hb (by omega))
 have HO1 := Lib.hid (HO0.out.below hb (by omega))
 have HK1 := Lib.hid (HK0.out.below hb (by omega))
 have HE1 := Lib.hid (HE0.out.below hb (by omega))
 have HB1 := Lib.hid (HB0.out.trans (hb.mono (by omega)))
 clear hb HX0 HV0 HO0 HK0 HE0 HB0
 by_cases hbig : nv + opsTotal l ≤ 1048576
 rotate_left
 ·rw [if_neg hbig]
  go_wp2
  go_ret
  exact ⟨rfl, HB1.out⟩
 rw [if_pos hbig]
 obtain ⟨hlo, hit⟩ := total_item (l := l) (t := 1048576) (by omega)
 have HIt := Lib.hid hit
 have hno : no ≤ 1048576 := by rw [← HLo.out]; exact hlo
 have hnv : nv ≤ 1048576 := by omega
 have hd : decide (((1048576 - (nv + opsTotal l) : Nat) : Int) < 0) = false := decide_eq_false (by omega)
 have HTot : Hid (nv + 8 * no ≤ 8388608) := by
  show _ ≤ _
  have : opsTotal l ≥ l.length := by unfold opsTotal; omega
  have := HLo.out
  omega
 clear hit hbig
 have hxl : xs.length ≤ 1048576 := by rw [HLx.out]; exact hnv
 obtain ⟨lf, hlf⟩ : ∃ lf, lf = 1048576 - (nv + opsTotal l) := ⟨_, rfl⟩
 rw [← hlf] at hd ⊢
 have hlf2 : lf ≤ 1048576 := by omega
 clear hlf
 go_wp2_with fail
 refine (szCms w1 w.heap.size ak nk ck cs HK1.out (by omega) hnk HKm.out lf hlf2).mono ?_
 rintro e w2 ⟨rfl, hb⟩
 have hs2 := hb.size
 have HX2 := Lib.hid ((hb.block _ (Array.getElem?_eq_some_iff.1 HX1.out).1).trans HX1.out)
 have HV2 := Lib.hid (HV1.out.below hb (by omega))
 have HO2 := Lib.hid (HO1.out.below hb (by omega))
 have HK2 := Lib.hid (HK1.out.below hb (by omega))
 have HE2 := Lib.hid (HE1.out.below hb (by omega))
 have HB2 := Lib.hid (HB1.out.trans (hb.mono (by omega)))
 clear hb HX1 HV1 HO1 HK1 HE1 HB1
 by_cases hbig : CmTotal cs ≤ lf
 rotate_left
 ·rw [if_neg hbig]
  go_wp2
  go_ret
  exact ⟨rfl, HB2.out⟩
 rw [if_pos hbig]
 obtain ⟨hkl0, hki0⟩ := Cm_fit (l := cs) (by omega)
 have hkl : nk ≤ 1048576 := by rw [← HLk.out]; exact hkl0
 have hcl : cs.length ≤ 1048576 := hkl0
 have HKi : Hid (∀ i, i < cs.length → (cs.getD i CmV.zero).item.size ≤ 1048576) := hki0
 have hd2 : decide (((lf - CmTotal cs : Nat) : Int) < 0) = false := decide_eq_false (by omega)
 clear hkl0 hki0 hbig
 obtain ⟨r, hr⟩ : ∃ r, iaR xs l dev cs = r := ⟨_, rfl⟩
 have HR := Lib.hid hr
 have hrl := iaR_len xs l dev cs
 rw [hr] at hrl
 obtain ⟨hzl, hml, hql⟩ := hrl
 clear hr
 obtain ⟨c0, c1⟩ := pair_cells HX2.out
 go_wp2_with fail
 refine (toCart w2 w.heap.size av ao nv cv no co xs l HV2.out HO2.out (by omega) hnv hno).mono ?_
 rintro e w3 ⟨va, oa, rfl, hi, ho, hb⟩
 clear c0 c1
 have hs3 := hb.size
 have HX3 := Lib.hid ((hb.block _ (Array.getElem?_eq_some_iff.1 HX2.out).1).trans HX2.out)
 have HV3 := Lib.hid (HV2.out.below hb (by omega))
 have HO3 := Lib.hid (HO2.out.below hb (by omega))
 have HK3 := Lib.hid (HK2.out.below hb (by omega))
 have HE3 := Lib.hid (HE2.out.below hb (by omega))
 have HB3 := Lib.hid (HB2.out.trans (hb.mono (by omega)))
 clear hb HX2 HV2 HO2 HK2 HE2 HB2
 have HP3 := Lib.hid hi
 have HQ3 := Lib.hid ho
 clear hi ho
 go_wp2_with fail
 refine (toCms w3 w.heap.size ak nk ck cs HK3.out (by omega) hkl).mono ?_
 rintro e w4 ⟨rfl, hu, hul, hb⟩
 have hs4 := hb.size
 have HX4 := Lib.hid ((hb.block _ (Array.getElem?_eq_some_iff.1 HX3.out).1).trans HX3.out)
 have HV4 := Lib.hid (HV3.out.below hb (by omega))
 have HO4 := Lib.hid (HO3.out.below hb (by omega))
 have HK4 := Lib.hid (HK3.out.below hb (by omega))
 have HE4 := Lib.hid (HE3.out.below hb (by omega))
 have HB4 := Lib.hid (HB3.out.trans (hb.mono (by omega)))
 have HP4 := Lib.hid (HP3.out.below hb (by omega))
 have HQ4 := Lib.hid (HQ3.out.below hb (by omega))
 clear hb HX3 HV3 HO3 HK3 HE3 HB3 HP3 HQ3
 have hsp := specIssueAll w4 w4.heap.size va oa (some ⟨w3.heap.size, 0, none⟩) xs.length xs.length l.length l.length cs.length cs.length xs l cs dev (HP4.out.more (by omega)) (HQ4.out.more (by omega)) hu.rows (Nat.le_refl _) (capsI HP4.out hxl) (capsO HQ4.out hlo) HIt.out HKi.out hxl hlo hcl
 rw [HR.out] at hsp
 go_wp2_with fail
 refine hsp.mono ?_
 clear hsp
 rintro e w5 ⟨sva, svc, soa, soc, ska, skc, rfl, hi, ho, hq, hb⟩
 clear hu hul
 have hs5 := hb.size
 have HX5 := Lib.hid ((hb.block _ (Array.getElem?_eq_some_iff.1 HX4.out).1).trans HX4.out)
 have HV5 := Lib.hid (HV4.out.below hb (by omega))
 have HO5 := Lib.hid (HO4.out.below hb (by omega))
 have HK5 := Lib.hid (HK4.out.below hb (by omega))
 have HE5 := Lib.hid (HE4.out.below hb (by omega))
 have HB5 := Lib.hid (HB4.out.trans (hb.mono (by omega)))
 clear hb HX4 HV4 HO4 HK4 HE4 HB4 HP4 HQ4
 have HS5 := Lib.hid hi
 have HT5 := Lib.hid ho
 have HQ5 := Lib.hid hq
 clear hi ho hq
 have hb : Below w5.heap.size w5 (w5.alloc (.cells #[.slice sva r.1.1.length svc, .slice soa r.1.2.length soc] 32)) := bl
 have HN6 := Lib.hid (heap_alloc_new w5 (.cells #[.slice sva r.1.1.length svc, .slice soa r.1.2.length soc] 32))
 go_upto_region 9 with fail
 generalize w5.alloc (.cells #[.slice sva r.1.1.length svc, .slice soa r.1.2.length soc] 32) = w6 at hb HN6 ⊢
 have hn6 : w5.heap.size < w6.heap.size := (Array.getElem?_eq_some_iff.1 HN6.out).1
 have hs6 := hb.size
 have HX6 := Lib.hid ((hb.block _ (Array.getElem?_eq_some_iff.1 HX5.out).1).trans HX5.out)
 have HV6 := Lib.hid (HV5.out.below hb (by omega))
 have HO6 := Lib.hid (HO5.out.below hb (by omega))
 have HK6 := Lib.hid (HK5.out.below hb (by omega))
 have HE6 := Lib.hid (HE5.out.below hb (by omega))
 have HB6 := Lib.hid (HB5.out.trans (hb.mono (by omega)))
 have HS6 := Lib.hid (HS5.out.below hb (by omega))
 have HT6 := Lib.hid (HT5.out.below hb (by omega))
 have HQ6 := Lib.hid (HQ5.out.below hb (by omega))
 clear hb HX5 HV5 HO5 HK5 HE5 HB5 HS5 HT5 HQ5
 generalize w5.heap.size = n5 at HN6 HS6 HT6 HQ6 hs5 hs6 hn6 ⊢
 obtain ⟨c0, c1⟩ := pair_cells HX6.out
 go_wp2_with fail
 refine (toCartO w6 w.heap.size av ao nv cv no co xs l HV6.out HO6.out (by omega) hnv hno).mono ?_
 rintro e w7 ⟨ga, gb, mid, rfl, hgA, hm1A, hm2A, hi, ho, hb⟩
 clear c0 c1
 have hs7 := hb.size
 have HX7 := Lib.hid ((hb.block _ (Array.getElem?_eq_some_iff.1 HX6.out).1).trans HX6.out)
 have HV7 := Lib.hid (HV6.out.below hb (by omega))
 have HO7 := Lib.hid (HO6.out.below hb (by omega))
 have HK7 := Lib.hid (HK6.out.below hb (by omega))
 have HE7 := Lib.hid (HE6.out.below hb (by omega))
 have HB7 := Lib.hid (HB6.out.trans (hb.mono (by omega)))
 have HS7 := Lib.hid (HS6.out.below hb (by omega))
 have HT7 := Lib.hid (HT6.out.below hb (by omega))
 have HQ7 := Lib.hid (HQ6.out.below hb (by omega))
 have HN7 := Lib.hid ((hb.block _ (Array.getElem?_eq_some_iff.1 HN6.out).1).trans HN6.out)
 clear hb HX6 HV6 HO6 HK6 HE6 HB6 HS6 HT6 HQ6 HN6
 have HI7 := Lib.hid hi
 have HG7 := Lib.hid ho
 clear hi ho
 generalize hn6' : w6.heap.size = n6 at HI7 hs6 hs7 hm1A hn6
 generalize hn7' : w7.heap.size = n7 at HG7 hm2A hs7
 have hb : Below w7.heap.size w7 (w7.alloc (.cells #[.slice ga xs.length xs.length, .slice gb l.length l.length] 32)) := bl
 have HY8 := Lib.hid (heap_alloc_new w7 (.cells #[.slice ga xs.length xs.length, .slice gb l.length l.length] 32))
 go_upto_region 10 with fail
 generalize w7.alloc (.cells #[.slice ga xs.length xs.length, .slice gb l.length l.length] 32) = w8 at hb HY8 ⊢
 have hn8 : w7.heap.size < w8.heap.size := (Array.getElem?_eq_some_iff.1 HY8.out).1
 have hs8 := hb.size
 have HX8 := Lib.hid ((hb.block _ (Array.getElem?_eq_some_iff.1 HX7.out).1).trans HX7.out)
 have HV8 := Lib.hid (HV7.out.below hb (by omega))
 have HO8 := Lib.hid (HO7.out.below hb (by omega))
 have HK8 := Lib.hid (HK7.out.below hb (by omega))
 have HE8 := Lib.hid (HE7.out.below hb (by omega))
 have HB8 := Lib.hid (HB7.out.trans (hb.mono (by omega)))
 have HS8 := Lib.hid (HS7.out.below hb (by omega))
 have HT8 := Lib.hid (HT7.out.below hb (by omega))
 have HQ8 := Lib.hid (HQ7.out.below hb (by omega))
 have HN8 := Lib.hid ((hb.block _ (Array.getElem?_eq_some_iff.1 HN7.out).1).trans HN7.out)
 have HI8 := Lib.hid (HI7.out.below hb (by omega))
 have HG8 := Lib.hid (HG7.out.below hb (by omega))
 clear hb HX7 HV7 HO7 HK7 HE7 HB7 HS7 HT7 HQ7 HN7 HI7 HG7
 rw [hn7'] at HY8 hs8 hn8
 (try rw [hn7'])
 clear hn6' hn7'
 go_wp2_with fail
 refine (toCms w8 w.heap.size ak nk ck cs HK8.out (by omega) hkl).mono ?_
 rintro e w9 ⟨rfl, hu, hul, hb⟩
 have hs9 := hb.size
 have HX9 := Lib.hid ((hb.block _ (Array.getElem?_eq_some_iff.1 HX8.out).1).trans HX8.out)
 have HV9 := Lib.hid (HV8.out.below hb (by omega))
 have HO9 := Lib.hid (HO8.out.below hb (by omega))
 have HK9 := Lib.hid (HK8.out.below hb (by omega))
 have HE9 := Lib.hid (HE8.out.below hb (by omega))
 have HB9 := Lib.hid (HB8.out.trans (hb.mono (by omega)))
 have HS9 := Lib.hid (HS8.out.below hb (by omega))
 have HT9 := Lib.hid (HT8.out.below hb (by omega))
 have HQ9 := Lib.hid (HQ8.out.below hb (by omega))
 have HN9 := Lib.hid ((hb.block _ (Array.getElem?_eq_some_iff.1 HN8.out).1).trans HN8.out)
 have HI9 := Lib.hid (HI8.out.below hb (by omega))
 have HG9 := Lib.hid (HG8.out.below hb (by omega))
 have HY9 := Lib.hid ((hb.block _ (Array.getElem?_eq_some_iff.1 HY8.out).1).trans HY8.out)
 clear hb HX8 HV8 HO8 HK8 HE8 HB8 HS8 HT8 HQ8 HN8 HI8 HG8 HY8
 have HU9 := Lib.hid hu
 clear hu
 generalize w8.heap.size = n8 at HU9 hs8 hs9 hn8 hul ⊢
 generalize hn9' : w9.heap.size = n9 at HU9 hs9 hul
 obtain ⟨c0, c1⟩ := pair_cells HY9.out
 have hsp := implIssueAll w9 n9 E (HE9.out.up (by omega)) ga gb (some ⟨n8, 0, none⟩) xs.length xs.length l.length l.length cs.length cs.length xs l cs dev (HI9.out.ints.more (by omega)) (HG9.out.ops.more (by omega)) HU9.out.rows (Nat.le_of_eq hn9'.symm) (capsI (HI9.out.ints) hxl) (capsO (HG9.out.ops) hlo) HIt.out HKi.out hxl hlo hcl
 rw [HR.out] at hsp
 go_wp2_with fail
 refine hsp.mono ?_
 clear hsp
 rintro e w10 ⟨gva, gvc, goa, goc, gka, gkc, glo, gm, ghi, q1, q2, rfl, hi, ho, hq, ⟨z1, z2, z3, z4, z5, z6, z7, z8⟩, hb⟩
 rw [hn9'] at z1 z5
 clear c0 c1
 have hs10 := hb.size
 have HX10 := Lib.hid ((hb.block _ (Array.getElem?_eq_some_iff.1 HX9.out).1).trans HX9.out)
 have HV10 := Lib.hid (HV9.out.below hb (by omega))
 have HO10 := Lib.hid (HO9.out.below hb (by omega))
 have HK10 := Lib.hid (HK9.out.below hb (by omega))
 have HE10 := Lib.hid (HE9.out.below hb (by omega))
 have HB10 := Lib.hid (HB9.out.trans (hb.mono (by omega)))
 have HS10 := Lib.hid (HS9.out.below hb (by omega))
 have HT10 := Lib.hid (HT9.out.below hb (by omega))
 have HQ10 := Lib.hid (HQ9.out.below hb (by omega))
 have HN10 := Lib.hid ((hb.block _ (Array.getElem?_eq_some_iff.1 HN9.out).1).trans HN9.out)
 have HI10 := Lib.hid (HI9.out.below hb (by omega))
 have HG10 := Lib.hid (HG9.out.below hb (by omega))
 have HY10 := Lib.hid ((hb.block _ (Array.getElem?_eq_some_iff.1 HY9.out).1).trans HY9.out)
 have HU10 := Lib.hid (HU9.out.below hb (by omega))
 clear hb HX9 HV9 HO9 HK9 HE9 HB9 HS9 HT9 HQ9 HN9 HI9 HG9 HY9 HU9
 rw [hn9'] at hs10
 clear hn9'
 have HA10 := Lib.hid hi
 have HC10 := Lib.hid ho
 have HZ10 := Lib.hid hq
 clear hi ho hq
 have hb : Below w10.heap.size w10 (w10.alloc (.cells #[.slice gva r.1.1.length gvc, .slice goa r.1.2.length goc] 32)) := bl
 have HD11 := Lib.hid (heap_alloc_new w10 (.cells #[.slice gva r.1.1.length gvc, .slice goa r.1.2.length goc] 32))
 go_upto_region 12 with fail
 generalize w10.alloc (.cells #[.slice gva r.1.1.length gvc, .slice goa r.1.2.length goc] 32) = w11 at hb HD11 ⊢
 have hn11 : w10.heap.size < w11.heap.size := (Array.getElem?_eq_some_iff.1 HD11.out).1
 have hs11 := hb.size
 have HX11 := Lib.hid ((hb.block _ (Array.getElem?_eq_some_iff.1 HX10.out).1).trans HX10.out)
 have HV11 := Lib.hid (HV10.out.below hb (by omega))
 have HO11 := Lib.hid (HO10.out.below hb (by omega))
 have HK11 := Lib.hid (HK10.out.below hb (by omega))
 have HE11 := Lib.hid (HE10.out.below hb (by omega))
 have HB11 := Lib.hid (HB10.out.trans (hb.mono (by omega)))
 have HS11 := Lib.hid (HS10.out.below hb (by omega))
 have HT11 := Lib.hid (HT10.out.below hb (by omega))
 have HQ11 := Lib.hid (HQ10.out.below hb (by omega))
 have HN11 := Lib.hid ((hb.block _ (Array.getElem?_eq_some_iff.1 HN10.out).1).trans HN10.out)
 have HI11 := Lib.hid (HI10.out.below hb (by omega))
 have HG11 := Lib.hid (HG10.out.below hb (by omega))
 have HY11 := Lib.hid ((hb.block _ (Array.getElem?_eq_some_iff.1 HY10.out).1).trans HY10.out)
 have HU11 := Lib.hid (HU10.out.below hb (by omega))
 have HA11 := Lib.hid (HA10.out.below hb (by omega))
 have HC11 := Lib.hid (HC10.out.below hb (by omega))
 have HZ11 := Lib.hid (HZ10.out.below hb (by omega))
 clear hb HX10 HV10 HO10 HK10 HE10 HB10 HS10 HT10 HQ10 HN10 HI10 HG10 HY10 HU10 HA10 HC10 HZ10
 generalize w10.heap.size = n10 at HD11 hs10 hs11 hn11 z4 z7 ⊢
 obtain ⟨c0, c1⟩ := pair_cells HD11.out
 obtain ⟨e0, e1⟩ := pair_cells HN11.out
 go_wp2_with fail
 refine (eqCartV w11 gva sva goa soa _ _ _ _ r.1.1 r.1.2 (HA11.out.ints.more (by omega)) (HS11.out.more (by omega)) (HC11.out.ops.more (by omega)) (HT11.out.more (by omega)) (by omega) (by omega)).mono ?_
 rintro e w12 ⟨rfl, hb⟩
 clear c0 c1 e0 e1
 have hs12 := hb.size
 have HX12 := Lib.hid ((hb.block _ (Array.getElem?_eq_some_iff.1 HX11.out).1).trans HX11.out)
 have HV12 := Lib.hid (HV11.out.below hb (by omega))
 have HO12 := Lib.hid (HO11.out.below hb (by omega))
 have HK12 := Lib.hid (HK11.out.below hb (by omega))
 have HE12 := Lib.hid (HE11.out.below hb (by omega))
 have HB12 := Lib.hid (HB11.out.trans (hb.mono (by omega)))
 have HS12 := Lib.hid (HS11.out.below hb (by omega))
 have HT12 := Lib.hid (HT11.out.below hb (by omega))
 have HQ12 := Lib.hid (HQ11.out.below hb (by omega))
 have HN12 := Lib.hid ((hb.block _ (Array.getElem?_eq_some_iff.1 HN11.out).1).trans HN11.out)
 have HI12 := Lib.hid (HI11.out.below hb (by omega))
 have HG12 := Lib.hid (HG11.out.below hb (by omega))
 have HY12 := Lib.hid ((hb.block _ (Array.getElem?_eq_some_iff.1 HY11.out).1).trans HY11.out)
 have HU12 := Lib.hid (HU11.out.below hb (by omega))
 have HA12 := Lib.hid (HA11.out.below hb (by omega))
 have HC12 := Lib.hid (HC11.out.below hb (by omega))
 have HZ12 := Lib.hid (HZ11.out.below hb (by omega))
 have HD12 := Lib.hid ((hb.block _ (Array.getElem?_eq_some_iff.1 HD11.out).1).trans HD11.out)
 clear hb HX11 HV11 HO11 HK11 HE11 HB11 HS11 HT11 HQ11 HN11 HI11 HG11 HY11 HU11 HA11 HC11 HZ11 HD11
 go_wp2_with fail
 refine (eqIntsV w12 _ _ gka ska r.2.length _ _ r.2 HZ12.out.ints HQ12.out (by omega)).mono ?_
 rintro e w13 ⟨rfl, hb⟩
 have hs13 := hb.size
 have HX13 := Lib.hid ((hb.block _ (Array.getElem?_eq_some_iff.1 HX12.out).1).trans HX12.out)
 have HV13 := Lib.hid (HV12.out.below hb (by omega))
 have HO13 := Lib.hid (HO12.out.below hb (by omega))
 have HK13 := Lib.hid (HK12.out.below hb (by omega))
 have HE13 := Lib.hid (HE12.out.below hb (by omega))
 have HB13 := Lib.hid (HB12.out.trans (hb.mono (by omega)))
 have HS13 := Lib.hid (HS12.out.below hb (by omega))
 have HT13 := Lib.hid (HT12.out.below hb (by omega))
 have HQ13 := Lib.hid (HQ12.out.below hb (by omega))
 have HN13 := Lib.hid ((hb.block _ (Array.getElem?_eq_some_iff.1 HN12.out).1).trans HN12.out)
 have HI13 := Lib.hid (HI12.out.below hb (by omega))
 have HG13 := Lib.hid (HG12.out.below hb (by omega))
 have HY13 := Lib.hid ((hb.block _ (Array.getElem?_eq_some_iff.1 HY12.out).1).trans HY12.out)
 have HU13 := Lib.hid (HU12.out.below hb (by omega))
 have HA13 := Lib.hid (HA12.out.below hb (by omega))
 have HC13 := Lib.hid (HC12.out.below hb (by omega))
 have HZ13 := Lib.hid (HZ12.out.below hb (by omega))
 have HD13 := Lib.hid ((hb.block _ (Array.getElem?_eq_some_iff.1 HD12.out).1).trans HD12.out)
 clear hb HX12 HV12 HO12 HK12 HE12 HB12 HS12 HT12 HQ12 HN12 HI12 HG12 HY12 HU12 HA12 HC12 HZ12 HD12
 have hS : w13.drew.cell? ⟨n7, 0, none⟩ = some (.slice ga xs.length xs.length) ∧ w13.drew.cell? ⟨n7, 1, none⟩ = some (.slice gb l.length l.length) ∧ w13.drew.cell? ⟨w.heap.size, 0, none⟩ = some (.slice av nv cv) ∧ w13.drew.cell? ⟨w.heap.size, 1, none⟩ = some (.slice ao no co) := ⟨(pair_cells HY13.out).1, (pair_cells HY13.out).2, (pair_cells HX13.out).1, (pair_cells HX13.out).2⟩
 go_wp2_with fail
 refine wp_region_held_drew (S := fun w' => w'.cell? ⟨n7, 0, none⟩ = some (.slice ga xs.length xs.length) ∧ w'.cell? ⟨n7, 1, none⟩ = some (.slice gb l.length l.length) ∧ w'.cell? ⟨w.heap.size, 0, none⟩ = some (.slice av nv cv) ∧ w'.cell? ⟨w.heap.size, 1, none⟩ = some (.slice ao no co)) (by kernel_rfl) hS (fun hHeld => ?_)
 refine tk 0 ⟨some 59, .load 32 (.tmp 10), 32, "exact.go:2712", #[], none⟩ ?_
 (try simp only [Act.put, u1, u2, u3])
 refine tk 1 ⟨some 60, .load 25 (.tmp 3), 25, "exact.go:2712", #[], none⟩ ?_
 (try simp only [Act.put, u1, u2, u3])
 refine rk 2 rfl (fun K hK => ?_)
 go_simp
 go_at_call 9
 refine (toCart w13.drew w.heap.size av ao nv cv no co xs l (HV13.out.kept (w' := w13.drew) fun _ _ => rfl) (HO13.out.kept (w' := w13.drew) fun _ _ => rfl) (by show _ ≤ w13.heap.size; omega) hnv hno).mono ?_
 rintro e z1' ⟨ka, kb, rfl, hi, ho, hbz⟩
 have hz1 : Below w13.heap.size w13 z1' := Below.mk hbz.os hbz.tape hbz.output hbz.size hbz.block
 have hS1 : z1'.cell? ⟨n7, 0, none⟩ = some (.slice ga xs.length xs.length) ∧ z1'.cell? ⟨n7, 1, none⟩ = some (.slice gb l.length l.length) ∧ z1'.cell? ⟨w.heap.size, 0, none⟩ = some (.slice av nv cv) ∧ z1'.cell? ⟨w.heap.size, 1, none⟩ = some (.slice ao no co) := ⟨(hbz.cell (block_lt_of_cell hS.1)).trans hS.1, (hbz.cell (block_lt_of_cell hS.2.1)).trans hS.2.1, (hbz.cell (block_lt_of_cell hS.2.2.1)).trans hS.2.2.1, (hbz.cell (block_lt_of_cell hS.2.2.2)).trans hS.2.2.2⟩
 refine hK.out _ _ hS1 (fun hHeld2 => ?_)
 clear hK K
 (try simp only [Act.put, u1, u2, u3])
 refine rk 3 rfl (fun K hK => ?_)
 go_simp
 go_at_call 12
 refine (eqCartV z1' ga ka gb kb _ _ _ _ xs l ((HI13.out.ints.below hz1 (by omega)).more (Nat.le_trans (by omega) hz1.size)) hi ((HG13.out.ops.below hz1 (by omega)).more (Nat.le_trans (by omega) hz1.size)) ho hxl hlo).mono ?_
 rintro e w14 ⟨rfl, hbw⟩
 have hS2 : w14.cell? ⟨n7, 0, none⟩ = some (.slice ga xs.length xs.length) ∧ w14.cell? ⟨n7, 1, none⟩ = some (.slice gb l.length l.length) ∧ w14.cell? ⟨w.heap.size, 0, none⟩ = some (.slice av nv cv) ∧ w14.cell? ⟨w.heap.size, 1, none⟩ = some (.slice ao no co) := ⟨(hbw.cell (block_lt_of_cell hS1.1)).trans hS1.1, (hbw.cell (block_lt_of_cell hS1.2.1)).trans hS1.2.1, (hbw.cell (block_lt_of_cell hS1.2.2.1)).trans hS1.2.2.1, (hbw.cell (block_lt_of_cell hS1.2.2.2)).trans hS1.2.2.2⟩
 refine hK.out _ _ hS2 (fun hHeld3 => ?_)
 clear hK K
 (try simp only [Act.put, u1, u2, u3])
 refine tk 4 ⟨some 63, .unOp .not 4 (.tmp 62), 4, "exact.go:2712", #[⟨3, .data⟩], none⟩ ?_
 (try simp only [Act.put, u1, u2, u3])
 refine wpAnyH_done (by kernel_rfl) ?_ _
 have hb : Below w13.heap.size w13 w14 := hz1.trans (hbw.mono hz1.size)
 clear hS hS1 hS2 hHeld hHeld2 hHeld3 hz1 hbz hbw hi ho
 have hs14 := hb.size
 have HX14 := Lib.hid ((hb.block _ (Array.getElem?_eq_some_iff.1 HX13.out).1).trans HX13.out)
 have HV14 := Lib.hid (HV13.out.below hb (by omega))
 have HO14 := Lib.hid (HO13.out.below hb (by omega))
 have HK14 := Lib.hid (HK13.out.below hb (by omega))
 have HE14 := Lib.hid (HE13.out.below hb (by omega))
 have HB14 := Lib.hid (HB13.out.trans (hb.mono (by omega)))
 have HS14 := Lib.hid (HS13.out.below hb (by omega))
 have HT14 := Lib.hid (HT13.out.below hb (by omega))
 have HQ14 := Lib.hid (HQ13.out.below hb (by omega))
 have HN14 := Lib.hid ((hb.block _ (Array.getElem?_eq_some_iff.1 HN13.out).1).trans HN13.out)
 have HI14 := Lib.hid (HI13.out.below hb (by omega))
 have HG14 := Lib.hid (HG13.out.below hb (by omega))
 have HY14 := Lib.hid ((hb.block _ (Array.getElem?_eq_some_iff.1 HY13.out).1).trans HY13.out)
 have HU14 := Lib.hid (HU13.out.below hb (by omega))
 have HA14 := Lib.hid (HA13.out.below hb (by omega))
 have HC14 := Lib.hid (HC13.out.below hb (by omega))
 have HZ14 := Lib.hid (HZ13.out.below hb (by omega))
 have HD14 := Lib.hid ((hb.block _ (Array.getElem?_eq_some_iff.1 HD13.out).1).trans HD13.out)
 clear hb HX13 HV13 HO13 HK13 HE13 HB13 HS13 HT13 HQ13 HN13 HI13 HG13 HY13 HU13 HA13 HC13 HZ13 HD13
 go_wp2_with fail
 refine (toCms w14 w.heap.size ak nk ck cs HK14.out (by omega) hkl).mono ?_
 rintro e w15 ⟨rfl, hu, hul2, hb⟩
 have hs15 := hb.size
 have HX15 := Lib.hid ((hb.block _ (Array.getElem?_eq_some_iff.1 HX14.out).1).trans HX14.out)
 have HV15 := Lib.hid (HV14.out.below hb (by omega))
 have HO15 := Lib.hid (HO14.out.below hb (by omega))
 have HK15 := Lib.hid (HK14.out.below hb (by omega))
 have HE15 := Lib.hid (HE14.out.below hb (by omega))
 have HB15 := Lib.hid (HB14.out.trans (hb.mono (by omega)))
 have HS15 := Lib.hid (HS14.out.below hb (by omega))
 have HT15 := Lib.hid (HT14.out.below hb (by omega))
 have HQ15 := Lib.hid (HQ14.out.below hb (by omega))
 have HN15 := Lib.hid ((hb.block _ (Array.getElem?_eq_some_iff.1 HN14.out).1).trans HN14.out)
 have HI15 := Lib.hid (HI14.out.below hb (by omega))
 have HG15 := Lib.hid (HG14.out.below hb (by omega))
 have HY15 := Lib.hid ((hb.block _ (Array.getElem?_eq_some_iff.1 HY14.out).1).trans HY14.out)
 have HU15 := Lib.hid (HU14.out.below hb (by omega))
 have HA15 := Lib.hid (HA14.out.below hb (by omega))
 have HC15 := Lib.hid (HC14.out.below hb (by omega))
 have HZ15 := Lib.hid (HZ14.out.below hb (by omega))
 have HD15 := Lib.hid ((hb.block _ (Array.getElem?_eq_some_iff.1 HD14.out).1).trans HD14.out)
 clear hb HX14 HV14 HO14 HK14 HE14 HB14 HS14 HT14 HQ14 HN14 HI14 HG14 HY14 HU14 HA14 HC14 HZ14 HD14
 go_wp2_with fail
 refine (eqCms w15 n9 w15.heap.size _ _ cs.length _ _ cs HU15.out.rows hu.rows (by omega) (Nat.le_refl _) hcl).mono ?_
 rintro e w16 ⟨rfl, hb⟩
 clear hu hul2
 have hs16 := hb.size
 have HX16 := Lib.hid ((hb.block _ (Array.getElem?_eq_some_iff.1 HX15.out).1).trans HX15.out)
 have HV16 := Lib.hid (HV15.out.below hb (by omega))
 have HO16 := Lib.hid (HO15.out.below hb (by omega))
 have HK16 := Lib.hid (HK15.out.below hb (by omega))
 have HE16 := Lib.hid (HE15.out.below hb (by omega))
 have HB16 := Lib.hid (HB15.out.trans (hb.mono (by omega)))
 have HS16 := Lib.hid (HS15.out.below hb (by omega))
 have HT16 := Lib.hid (HT15.out.below hb (by omega))
 have HQ16 := Lib.hid (HQ15.out.below hb (by omega))
 have HN16 := Lib.hid ((hb.block _ (Array.getElem?_eq_some_iff.1 HN15.out).1).trans HN15.out)
 have HI16 := Lib.hid (HI15.out.below hb (by omega))
 have HG16 := Lib.hid (HG15.out.below hb (by omega))
 have HY16 := Lib.hid ((hb.block _ (Array.getElem?_eq_some_iff.1 HY15.out).1).trans HY15.out)
 have HU16 := Lib.hid (HU15.out.below hb (by omega))
 have HA16 := Lib.hid (HA15.out.below hb (by omega))
 have HC16 := Lib.hid (HC15.out.below hb (by omega))
 have HZ16 := Lib.hid (HZ15.out.below hb (by omega))
 have HD16 := Lib.hid ((hb.block _ (Array.getElem?_eq_some_iff.1 HD15.out).1).trans HD15.out)
 clear hb HX15 HV15 HO15 HK15 HE15 HB15 HS15 HT15 HQ15 HN15 HI15 HG15 HY15 HU15 HA15 HC15 HZ15 HD15
 have hTot : 1 + xs.length + 8 * l.length ≤ 8388609 := by have := HTot.out; have := HLx.out; have := HLo.out; omega
 obtain ⟨c0, c1⟩ := pair_cells HY16.out
 go_wp2_with fail
 refine (markCartM w16 n6 mid n7 ga gb _ _ _ _ xs l HI16.out HG16.out (by omega) (by omega) (by omega) hxl hlo 1 (by omega) (by omega)).mono ?_
 rintro e w17 ⟨⟨k1, hk1, rfl⟩, -, -, hb⟩
 clear c0 c1
 have hs17 := hb.size
 have HX17 := Lib.hid ((hb.block _ (Array.getElem?_eq_some_iff.1 HX16.out).1 (by omega)).trans HX16.out)
 have HV17 := Lib.hid (HV16.out.kept fun j hj => hb.block j (by omega) (.inl (by omega)))
 have HO17 := Lib.hid (HO16.out.kept fun j hj => hb.block j (by omega) (.inl (by omega)))
 have HK17 := Lib.hid (HK16.out.kept fun j hj => hb.block j (by omega) (.inl (by omega)))
 have HE17 := Lib.hid (HE16.out.kept fun j hj => hb.block j (by omega) (.inl (by omega)))
 have HB17 := Lib.hid (HB16.out.trans (hb.below (by omega) (by omega)))
 have HS17 := Lib.hid (HS16.out.kept fun j hj => hb.block j (by omega) (.inl (by omega)))
 have HT17 := Lib.hid (HT16.out.kept fun j hj => hb.block j (by omega) (.inl (by omega)))
 have HQ17 := Lib.hid (HQ16.out.kept fun j hj => hb.block j (by omega) (.inl (by omega)))
 have HN17 := Lib.hid ((hb.block _ (Array.getElem?_eq_some_iff.1 HN16.out).1 (by omega)).trans HN16.out)
 have HY17 := Lib.hid ((hb.block _ (Array.getElem?_eq_some_iff.1 HY16.out).1 (by omega)).trans HY16.out)
 have HU17 := Lib.hid (HU16.out.beside hb (by omega) (by omega))
 have HA17 := Lib.hid (HA16.out.besideM hb (by omega) (by omega))
 have HC17 := Lib.hid (HC16.out.beside hb (by omega) (by omega))
 have HZ17 := Lib.hid (HZ16.out.besideM hb (by omega) (by omega))
 have HD17 := Lib.hid ((hb.block _ (Array.getElem?_eq_some_iff.1 HD16.out).1 (by omega)).trans HD16.out)
 clear hb HX16 HV16 HO16 HK16 HE16 HB16 HS16 HT16 HQ16 HN16 HI16 HG16 HY16 HU16 HA16 HC16 HZ16 HD16
 have hk1a : 0 < k1 ∧ k1 ≤ 10000000 := by have := hk1.out; omega
 obtain ⟨hk1b, hk1c⟩ := hk1a
 clear hk1 hTot
 go_wp2_with fail
 refine (markCms w17 n8 n9 _ _ _ cs HU17.out k1 hk1b (by omega) hcl).mono ?_
 rintro e w18 ⟨⟨k2, hk2, rfl⟩, -, hb⟩
 have hs18 := hb.size
 have HX18 := Lib.hid ((hb.block _ (Array.getElem?_eq_some_iff.1 HX17.out).1 (by omega)).trans HX17.out)
 have HV18 := Lib.hid (HV17.out.kept fun j hj => hb.block j (by omega) (.inl (by omega)))
 have HO18 := Lib.hid (HO17.out.kept fun j hj => hb.block j (by omega) (.inl (by omega)))
 have HK18 := Lib.hid (HK17.out.kept fun j hj => hb.block j (by omega) (.inl (by omega)))
 have HE18 := Lib.hid (HE17.out.kept fun j hj => hb.block j (by omega) (.inl (by omega)))
 have HB18 := Lib.hid (HB17.out.trans (hb.below (by omega) (by omega)))
 have HS18 := Lib.hid (HS17.out.kept fun j hj => hb.block j (by omega) (.inl (by omega)))
 have HT18 := Lib.hid (HT17.out.kept fun j hj => hb.block j (by omega) (.inl (by omega)))
 have HQ18 := Lib.hid (HQ17.out.kept fun j hj => hb.block j (by omega) (.inl (by omega)))
 have HN18 := Lib.hid ((hb.block _ (Array.getElem?_eq_some_iff.1 HN17.out).1 (by omega)).trans HN17.out)
 have HY18 := Lib.hid ((hb.block _ (Array.getElem?_eq_some_iff.1 HY17.out).1 (by omega)).trans HY17.out)
 have HA18 := Lib.hid (HA17.out.besideM hb (by omega) (by omega))
 have HC18 := Lib.hid (HC17.out.beside hb (by omega) (by omega))
 have HZ18 := Lib.hid (HZ17.out.besideM hb (by omega) (by omega))
 have HD18 := Lib.hid ((hb.block _ (Array.getElem?_eq_some_iff.1 HD17.out).1 (by omega)).trans HD17.out)
 clear hb HX17 HV17 HO17 HK17 HE17 HB17 HS17 HT17 HQ17 HN17 HY17 HU17 HA17 HC17 HZ17 HD17
 have hd3 : decide ((k2 : Int) < 0) = false := decide_eq_false (by omega)
 clear hk2
 obtain ⟨c0, c1⟩ := pair_cells HD18.out
 obtain ⟨e0, e1⟩ := pair_cells HN18.out
 go_wp2_with fail
 refine (eqCartV w18 gva sva goa soa _ _ _ _ r.1.1 r.1.2 (HA18.out.ints.more (by omega)) (HS18.out.more (by omega)) (HC18.out.ops.more (by omega)) (HT18.out.more (by omega)) (by omega) (by omega)).mono ?_
 rintro e w19 ⟨rfl, hb⟩
 clear c0 c1 e0 e1
 have hs19 := hb.size
 have HX19 := Lib.hid ((hb.block _ (Array.getElem?_eq_some_iff.1 HX18.out).1).trans HX18.out)
 have HV19 := Lib.hid (HV18.out.below hb (by omega))
 have HO19 := Lib.hid (HO18.out.below hb (by omega))
 have HK19 := Lib.hid (HK18.out.below hb (by omega))
 have HE19 := Lib.hid (HE18.out.below hb (by omega))
 have HB19 := Lib.hid (HB18.out.trans (hb.mono (by omega)))
 have HS19 := Lib.hid (HS18.out.below hb (by omega))
 have HT19 := Lib.hid (HT18.out.below hb (by omega))
 have HQ19 := Lib.hid (HQ18.out.below hb (by omega))
 have HN19 := Lib.hid ((hb.block _ (Array.getElem?_eq_some_iff.1 HN18.out).1).trans HN18.out)
 have HY19 := Lib.hid ((hb.block _ (Array.getElem?_eq_some_iff.1 HY18.out).1).trans HY18.out)
 have HA19 := Lib.hid (HA18.out.below hb (by omega))
 have HC19 := Lib.hid (HC18.out.below hb (by omega))
 have HZ19 := Lib.hid (HZ18.out.below hb (by omega))
 have HD19 := Lib.hid ((hb.block _ (Array.getElem?_eq_some_iff.1 HD18.out).1).trans HD18.out)
 clear hb HX18 HV18 HO18 HK18 HE18 HB18 HS18 HT18 HQ18 HN18 HY18 HA18 HC18 HZ18 HD18
 go_wp2_with fail
 refine (eqIntsV w19 _ _ gka ska r.2.length _ _ r.2 HZ19.out.ints HQ19.out (by omega)).mono ?_
 rintro e w20 ⟨rfl, hb⟩
 have hs20 := hb.size
 have HX20 := Lib.hid ((hb.block _ (Array.getElem?_eq_some_iff.1 HX19.out).1).trans HX19.out)
 have HV20 := Lib.hid (HV19.out.below hb (by omega))
 have HO20 := Lib.hid (HO19.out.below hb (by omega))
 have HK20 := Lib.hid (HK19.out.below hb (by omega))
 have HE20 := Lib.hid (HE19.out.below hb (by omega))
 have HB20 := Lib.hid (HB19.out.trans (hb.mono (by omega)))
 have HS20 := Lib.hid (HS19.out.below hb (by omega))
 have HT20 := Lib.hid (HT19.out.below hb (by omega))
 have HQ20 := Lib.hid (HQ19.out.below hb (by omega))
 have HN20 := Lib.hid ((hb.block _ (Array.getElem?_eq_some_iff.1 HN19.out).1).trans HN19.out)
 have HY20 := Lib.hid ((hb.block _ (Array.getElem?_eq_some_iff.1 HY19.out).1).trans HY19.out)
 have HA20 := Lib.hid (HA19.out.below hb (by omega))
 have HC20 := Lib.hid (HC19.out.below hb (by omega))
 have HZ20 := Lib.hid (HZ19.out.below hb (by omega))
 have HD20 := Lib.hid ((hb.block _ (Array.getElem?_eq_some_iff.1 HD19.out).1).trans HD19.out)
 clear hb HX19 HV19 HO19 HK19 HE19 HB19 HS19 HT19 HQ19 HN19 HY19 HA19 HC19 HZ19 HD19
 obtain ⟨c0, c1⟩ := pair_cells HD20.out
 go_wp2_with fail
 refine (markCartM w20 glo gm ghi gva goa _ _ _ _ r.1.1 r.1.2 HA20.out HC20.out (by omega) (by omega) (by omega) (by omega) (by omega) 1 (by omega) (by omega)).mono ?_
 rintro e w21 ⟨⟨k3, hk3, rfl⟩, hiM, hoM, hb⟩
 clear c0 c1
 have hs21 := hb.size
 have HX21 := Lib.hid ((hb.block _ (Array.getElem?_eq_some_iff.1 HX20.out).1 (by omega)).trans HX20.out)
 have HV21 := Lib.hid (HV20.out.kept fun j hj => hb.block j (by omega) (.inl (by omega)))
 have HO21 := Lib.hid (HO20.out.kept fun j hj => hb.block j (by omega) (.inl (by omega)))
 have HK21 := Lib.hid (HK20.out.kept fun j hj => hb.block j (by omega) (.inl (by omega)))
 have HE21 := Lib.hid (HE20.out.kept fun j hj => hb.block j (by omega) (.inl (by omega)))
 have HB21 := Lib.hid (HB20.out.trans (hb.below (by omega) (by omega)))
 have HS21 := Lib.hid (HS20.out.kept fun j hj => hb.block j (by omega) (.inl (by omega)))
 have HT21 := Lib.hid (HT20.out.kept fun j hj => hb.block j (by omega) (.inl (by omega)))
 have HQ21 := Lib.hid (HQ20.out.kept fun j hj => hb.block j (by omega) (.inl (by omega)))
 have HN21 := Lib.hid ((hb.block _ (Array.getElem?_eq_some_iff.1 HN20.out).1 (by omega)).trans HN20.out)
 have HY21 := Lib.hid ((hb.block _ (Array.getElem?_eq_some_iff.1 HY20.out).1 (by omega)).trans HY20.out)
 have HZ21 := Lib.hid (HZ20.out.besideM hb (by omega) (by omega))
 have HD21 := Lib.hid ((hb.block _ (Array.getElem?_eq_some_iff.1 HD20.out).1 (by omega)).trans HD20.out)
 clear hb HX20 HV20 HO20 HK20 HE20 HB20 HS20 HT20 HQ20 HN20 HY20 HA20 HC20 HZ20 HD20
 have HA21 := Lib.hid hiM
 have HC21 := Lib.hid hoM
 clear hiM hoM
 have HK3 : Hid (1 + r.1.1.length + 8 * r.1.2.length = k3) := hk3.out.symm
 have hk3b : k3 ≤ 10000 := by have := HK3.out; omega
 clear hk3
 go_wp2_with fail
 refine (markIntsV w21 q1 q2 gka _ _ r.2 HZ21.out k3 (by omega) (by omega)).mono ?_
 rintro e w22 ⟨⟨k4, hk4, rfl⟩, hqM, hb⟩
 have hs22 := hb.size
 have HX22 := Lib.hid ((hb.block _ (Array.getElem?_eq_some_iff.1 HX21.out).1 (by omega)).trans HX21.out)
 have HV22 := Lib.hid (HV21.out.kept fun j hj => hb.block j (by omega) (.inl (by omega)))
 have HO22 := Lib.hid (HO21.out.kept fun j hj => hb.block j (by omega) (.inl (by omega)))
 have HK22 := Lib.hid (HK21.out.kept fun j hj => hb.block j (by omega) (.inl (by omega)))
 have HE22 := Lib.hid (HE21.out.kept fun j hj => hb.block j (by omega) (.inl (by omega)))
 have HB22 := Lib.hid (HB21.out.trans (hb.below (by omega) (by omega)))
 have HS22 := Lib.hid (HS21.out.kept fun j hj => hb.block j (by omega) (.inl (by omega)))
 have HT22 := Lib.hid (HT21.out.kept fun j hj => hb.block j (by omega) (.inl (by omega)))
 have HQ22 := Lib.hid (HQ21.out.kept fun j hj => hb.block j (by omega) (.inl (by omega)))
 have HN22 := Lib.hid ((hb.block _ (Array.getElem?_eq_some_iff.1 HN21.out).1 (by omega)).trans HN21.out)
 have HY22 := Lib.hid ((hb.block _ (Array.getElem?_eq_some_iff.1 HY21.out).1 (by omega)).trans HY21.out)
 have HD22 := Lib.hid ((hb.block _ (Array.getElem?_eq_some_iff.1 HD21.out).1 (by omega)).trans HD21.out)
 have HA22 := Lib.hid (HA21.out.besideM hb (by omega) (by omega))
 have HC22 := Lib.hid (HC21.out.beside hb (by omega) (by omega))
 clear hb HX21 HV21 HO21 HK21 HE21 HB21 HS21 HT21 HQ21 HN21 HY21 HZ21 HD21 HA21 HC21
 have HZ22 := Lib.hid hqM
 clear hqM
 have HK4 : Hid (k3 + r.2.length = k4) := hk4.out.symm
 have hk4b : k4 ≤ 20000 := by have := HK4.out; omega
 clear hk4
 have hdk : decide ((k3 : Int) < 0) = false := decide_eq_false (by omega)
 have hdk4 : decide ((k4 : Int) < 0) = false := decide_eq_false (by omega)
 have hbk : ((k4 : Int) != (k4 : Int)) = false := bne_self_eq_false _
 obtain ⟨c0, c1⟩ := pair_cells HD22.out
 go_wp2_with fail
 refine (heldCart w22 ghi gva goa _ _ _ _ 1 (HA22.out.ints.more (by omega)) HC22.out.ops (by omega) (by omega) (by omega) (by omega) (by omega)).mono ?_
 rintro e w23 ⟨rfl, hb⟩
 rw [HK3.out]
 clear c0 c1
 have hs23 := hb.size
 have HX23 := Lib.hid ((hb.block _ (Array.getElem?_eq_some_iff.1 HX22.out).1).trans HX22.out)
 have HV23 := Lib.hid (HV22.out.below hb (by omega))
 have HO23 := Lib.hid (HO22.out.below hb (by omega))
 have HK23 := Lib.hid (HK22.out.below hb (by omega))
 have HE23 := Lib.hid (HE22.out.below hb (by omega))
 have HB23 := Lib.hid (HB22.out.trans (hb.mono (by omega)))
 have HS23 := Lib.hid (HS22.out.below hb (by omega))
 have HT23 := Lib.hid (HT22.out.below hb (by omega))
 have HQ23 := Lib.hid (HQ22.out.below hb (by omega))
 have HN23 := Lib.hid ((hb.block _ (Array.getElem?_eq_some_iff.1 HN22.out).1).trans HN22.out)
 have HY23 := Lib.hid ((hb.block _ (Array.getElem?_eq_some_iff.1 HY22.out).1).trans HY22.out)
 have HD23 := Lib.hid ((hb.block _ (Array.getElem?_eq_some_iff.1 HD22.out).1).trans HD22.out)
 have HA23 := Lib.hid (HA22.out.below hb (by omega))
 have HC23 := Lib.hid (HC22.out.below hb (by omega))
 have HZ23 := Lib.hid (HZ22.out.below hb (by omega))
 clear hb HX22 HV22 HO22 HK22 HE22 HB22 HS22 HT22 HQ22 HN22 HY22 HD22 HA22 HC22 HZ22
 go_wp2_with fail
 refine (heldIntsV w23 _ gka _ _ k3 HZ23.out.ints (by omega) (by omega)).mono ?_
 rintro e w24 ⟨rfl, hb⟩
 rw [HK4.out]
 have hs24 := hb.size
 have HX24 := Lib.hid ((hb.block _ (Array.getElem?_eq_some_iff.1 HX23.out).1).trans HX23.out)
 have HV24 := Lib.hid (HV23.out.below hb (by omega))
 have HO24 := Lib.hid (HO23.out.below hb (by omega))
 have HK24 := Lib.hid (HK23.out.below hb (by omega))
 have HE24 := Lib.hid (HE23.out.below hb (by omega))
 have HB24 := Lib.hid (HB23.out.trans (hb.mono (by omega)))
 have HS24 := Lib.hid (HS23.out.below hb (by omega))
 have HT24 := Lib.hid (HT23.out.below hb (by omega))
 have HQ24 := Lib.hid (HQ23.out.below hb (by omega))
 have HN24 := Lib.hid ((hb.block _ (Array.getElem?_eq_some_iff.1 HN23.out).1).trans HN23.out)
 have HY24 := Lib.hid ((hb.block _ (Array.getElem?_eq_some_iff.1 HY23.out).1).trans HY23.out)
 have HD24 := Lib.hid ((hb.block _ (Array.getElem?_eq_some_iff.1 HD23.out).1).trans HD23.out)
 have HA24 := Lib.hid (HA23.out.below hb (by omega))
 have HC24 := Lib.hid (HC23.out.below hb (by omega))
 have HZ24 := Lib.hid (HZ23.out.below hb (by omega))
 clear hb HX23 HV23 HO23 HK23 HE23 HB23 HS23 HT23 HQ23 HN23 HY23 HD23 HA23 HC23 HZ23
 obtain ⟨c0, c1⟩ := pair_cells HX24.out
 go_wp2_with fail
 refine (toCart w24 w.heap.size av ao nv cv no co xs l HV24.out HO24.out (by omega) hnv hno).mono ?_
 rintro e w25 ⟨vb, ob, rfl, hi, ho, hb⟩
 clear c0 c1
 have hs25 := hb.size
 have HX25 := Lib.hid ((hb.block _ (Array.getElem?_eq_some_iff.1 HX24.out).1).trans HX24.out)
 have HV25 := Lib.hid (HV24.out.below hb (by omega))
 have HO25 := Lib.hid (HO24.out.below hb (by omega))
 have HK25 := Lib.hid (HK24.out.below hb (by omega))
 have HE25 := Lib.hid (HE24.out.below hb (by omega))
 have HB25 := Lib.hid (HB24.out.trans (hb.mono (by omega)))
 have HS25 := Lib.hid (HS24.out.below hb (by omega))
 have HT25 := Lib.hid (HT24.out.below hb (by omega))
 have HQ25 := Lib.hid (HQ24.out.below hb (by omega))
 have HN25 := Lib.hid ((hb.block _ (Array.getElem?_eq_some_iff.1 HN24.out).1).trans HN24.out)
 have HY25 := Lib.hid ((hb.block _ (Array.getElem?_eq_some_iff.1 HY24.out).1).trans HY24.out)
 have HD25 := Lib.hid ((hb.block _ (Array.getElem?_eq_some_iff.1 HD24.out).1).trans HD24.out)
 have HA25 := Lib.hid (HA24.out.below hb (by omega))
 have HC25 := Lib.hid (HC24.out.below hb (by omega))
 have HZ25 := Lib.hid (HZ24.out.below hb (by omega))
 clear hb HX24 HV24 HO24 HK24 HE24 HB24 HS24 HT24 HQ24 HN24 HY24 HD24 HA24 HC24 HZ24
 have HP25 := Lib.hid hi
 have HG25 := Lib.hid ho
 clear hi ho
 go_wp2_with fail
 refine (toCms w25 w.heap.size ak nk ck cs HK25.out (by omega) hkl).mono ?_
 rintro e w26 ⟨rfl, hu, hul3, hb⟩
 have hs26 := hb.size
 have HX26 := Lib.hid ((hb.block _ (Array.getElem?_eq_some_iff.1 HX25.out).1).trans HX25.out)
 have HV26 := Lib.hid (HV25.out.below hb (by omega))
 have HO26 := Lib.hid (HO25.out.below hb (by omega))
 have HK26 := Lib.hid (HK25.out.below hb (by omega))
 have HE26 := Lib.hid (HE25.out.below hb (by omega))
 have HB26 := Lib.hid (HB25.out.trans (hb.mono (by omega)))
 have HS26 := Lib.hid (HS25.out.below hb (by omega))
 have HT26 := Lib.hid (HT25.out.below hb (by omega))
 have HQ26 := Lib.hid (HQ25.out.below hb (by omega))
 have HN26 := Lib.hid ((hb.block _ (Array.getElem?_eq_some_iff.1 HN25.out).1).trans HN25.out)
 have HY26 := Lib.hid ((hb.block _ (Array.getElem?_eq_some_iff.1 HY25.out).1).trans HY25.out)
 have HD26 := Lib.hid ((hb.block _ (Array.getElem?_eq_some_iff.1 HD25.out).1).trans HD25.out)
 have HA26 := Lib.hid (HA25.out.below hb (by omega))
 have HC26 := Lib.hid (HC25.out.below hb (by omega))
 have HZ26 := Lib.hid (HZ25.out.below hb (by omega))
 have HP26 := Lib.hid (HP25.out.below hb (by omega))
 have HG26 := Lib.hid (HG25.out.below hb (by omega))
 clear hb HX25 HV25 HO25 HK25 HE25 HB25 HS25 HT25 HQ25 HN25 HY25 HD25 HA25 HC25 HZ25 HP25 HG25
 have hsp := implIssueAll w26 w26.heap.size E (HE26.out.up (by omega)) vb ob (some ⟨w25.heap.size, 0, none⟩) xs.length xs.length l.length l.length cs.length cs.length xs l cs dev (HP26.out.more (by omega)) (HG26.out.more (by omega)) hu.rows (Nat.le_refl _) (capsI HP26.out hxl) (capsO HG26.out hlo) HIt.out HKi.out hxl hlo hcl
 rw [HR.out] at hsp
 go_wp2_with fail
 refine hsp.mono ?_
 clear hsp
 rintro e w27 ⟨hva, hvc, hoa, hoc, hka, hkc, hlo', hmm, hhi, p1, p2, rfl, hi, ho, hq, ⟨y1, y2, y3, y4, y5, y6, y7, y8⟩, hb⟩
 clear hu hul3
 have hs27 := hb.size
 have HX27 := Lib.hid ((hb.block _ (Array.getElem?_eq_some_iff.1 HX26.out).1).trans HX26.out)
 have HV27 := Lib.hid (HV26.out.below hb (by omega))
 have HO27 := Lib.hid (HO26.out.below hb (by omega))
 have HK27 := Lib.hid (HK26.out.below hb (by omega))
 have HE27 := Lib.hid (HE26.out.below hb (by omega))
 have HB27 := Lib.hid (HB26.out.trans (hb.mono (by omega)))
 have HS27 := Lib.hid (HS26.out.below hb (by omega))
 have HT27 := Lib.hid (HT26.out.below hb (by omega))
 have HQ27 := Lib.hid (HQ26.out.below hb (by omega))
 have HN27 := Lib.hid ((hb.block _ (Array.getElem?_eq_some_iff.1 HN26.out).1).trans HN26.out)
 have HY27 := Lib.hid ((hb.block _ (Array.getElem?_eq_some_iff.1 HY26.out).1).trans HY26.out)
 have HD27 := Lib.hid ((hb.block _ (Array.getElem?_eq_some_iff.1 HD26.out).1).trans HD26.out)
 have HA27 := Lib.hid (HA26.out.below hb (by omega))
 have HC27 := Lib.hid (HC26.out.below hb (by omega))
 have HZ27 := Lib.hid (HZ26.out.below hb (by omega))
 clear hb HX26 HV26 HO26 HK26 HE26 HB26 HS26 HT26 HQ26 HN26 HY26 HD26 HA26 HC26 HZ26 HP26 HG26
 have HJ27 := Lib.hid hi
 have HW27 := Lib.hid ho
 have HF27 := Lib.hid hq
 clear hi ho hq
 have hb : Below w27.heap.size w27 (w27.alloc (.cells #[.slice hva r.1.1.length hvc, .slice hoa r.1.2.length hoc] 32)) := bl
 have HH28 := Lib.hid (heap_alloc_new w27 (.cells #[.slice hva r.1.1.length hvc, .slice hoa r.1.2.length hoc] 32))
 go_upto_region 36 with fail
 generalize w27.alloc (.cells #[.slice hva r.1.1.length hvc, .slice hoa r.1.2.length hoc] 32) = w28 at hb HH28 ⊢
 have hn28 : w27.heap.size < w28.heap.size := (Array.getElem?_eq_some_iff.1 HH28.out).1
 have hs28 := hb.size
 have HX28 := Lib.hid ((hb.block _ (Array.getElem?_eq_some_iff.1 HX27.out).1).trans HX27.out)
 have HV28 := Lib.hid (HV27.out.below hb (by omega))
 have HO28 := Lib.hid (HO27.out.below hb (by omega))
 have HK28 := Lib.hid (HK27.out.below hb (by omega))
 have HE28 := Lib.hid (HE27.out.below hb (by omega))
 have HB28 := Lib.hid (HB27.out.trans (hb.mono (by omega)))
 have HS28 := Lib.hid (HS27.out.below hb (by omega))
 have HT28 := Lib.hid (HT27.out.below hb (by omega))
 have HQ28 := Lib.hid (HQ27.out.below hb (by omega))
 have HN28 := Lib.hid ((hb.block _ (Array.getElem?_eq_some_iff.1 HN27.out).1).trans HN27.out)
 have HY28 := Lib.hid ((hb.block _ (Array.getElem?_eq_some_iff.1 HY27.out).1).trans HY27.out)
 have HD28 := Lib.hid ((hb.block _ (Array.getElem?_eq_some_iff.1 HD27.out).1).trans HD27.out)
 have HA28 := Lib.hid (HA27.out.below hb (by omega))
 have HC28 := Lib.hid (HC27.out.below hb (by omega))
 have HZ28 := Lib.hid (HZ27.out.below hb (by omega))
 have HJ28 := Lib.hid (HJ27.out.below hb (by omega))
 have HW28 := Lib.hid (HW27.out.below hb (by omega))
 have HF28 := Lib.hid (HF27.out.below hb (by omega))
 clear hb HX27 HV27 HO27 HK27 HE27 HB27 HS27 HT27 HQ27 HN27 HY27 HD27 HA27 HC27 HZ27 HJ27 HW27 HF27
 obtain ⟨c0, c1⟩ := pair_cells HH28.out
 obtain ⟨e0, e1⟩ := pair_cells HN28.out
 go_wp2_with fail
 refine (eqCartV w28 hva sva hoa soa _ _ _ _ r.1.1 r.1.2 (HJ28.out.ints.more (by omega)) (HS28.out.more (by omega)) (HW28.out.ops.more (by omega)) (HT28.out.more (by omega)) (by omega) (by omega)).mono ?_
 rintro e w29 ⟨rfl, hb⟩
 clear c0 c1 e0 e1
 have hs29 := hb.size
 have HX29 := Lib.hid ((hb.block _ (Array.getElem?_eq_some_iff.1 HX28.out).1).trans HX28.out)
 have HV29 := Lib.hid (HV28.out.below hb (by omega))
 have HO29 := Lib.hid (HO28.out.below hb (by omega))
 have HK29 := Lib.hid (HK28.out.below hb (by omega))
 have HE29 := Lib.hid (HE28.out.below hb (by omega))
 have HB29 := Lib.hid (HB28.out.trans (hb.mono (by omega)))
 have HS29 := Lib.hid (HS28.out.below hb (by omega))
 have HT29 := Lib.hid (HT28.out.below hb (by omega))
 have HQ29 := Lib.hid (HQ28.out.below hb (by omega))
 have HN29 := Lib.hid ((hb.block _ (Array.getElem?_eq_some_iff.1 HN28.out).1).trans HN28.out)
 have HY29 := Lib.hid ((hb.block _ (Array.getElem?_eq_some_iff.1 HY28.out).1).trans HY28.out)
 have HD29 := Lib.hid ((hb.block _ (Array.getElem?_eq_some_iff.1 HD28.out).1).trans HD28.out)
 have HA29 := Lib.hid (HA28.out.below hb (by omega))
 have HC29 := Lib.hid (HC28.out.below hb (by omega))
 have HZ29 := Lib.hid (HZ28.out.below hb (by omega))
 have HJ29 := Lib.hid (HJ28.out.below hb (by omega))
 have HW29 := Lib.hid (HW28.out.below hb (by omega))
 have HF29 := Lib.hid (HF28.out.below hb (by omega))
 have HH29 := Lib.hid ((hb.block _ (Array.getElem?_eq_some_iff.1 HH28.out).1).trans HH28.out)
 clear hb HX28 HV28 HO28 HK28 HE28 HB28 HS28 HT28 HQ28 HN28 HY28 HD28 HA28 HC28 HZ28 HJ28 HW28 HF28 HH28
 go_wp2_with fail
 refine (eqIntsV w29 _ _ hka ska r.2.length _ _ r.2 HF29.out.ints HQ29.out (by omega)).mono ?_
 rintro e w30 ⟨rfl, hb⟩
 have hs30 := hb.size
 have HX30 := Lib.hid ((hb.block _ (Array.getElem?_eq_some_iff.1 HX29.out).1).trans HX29.out)
 have HV30 := Lib.hid (HV29.out.below hb (by omega))
 have HO30 := Lib.hid (HO29.out.below hb (by omega))
 have HK30 := Lib.hid (HK29.out.below hb (by omega))
 have HE30 := Lib.hid (HE29.out.below hb (by omega))
 have HB30 := Lib.hid (HB29.out.trans (hb.mono (by omega)))
 have HS30 := Lib.hid (HS29.out.below hb (by omega))
 have HT30 := Lib.hid (HT29.out.below hb (by omega))
 have HQ30 := Lib.hid (HQ29.out.below hb (by omega))
 have HN30 := Lib.hid ((hb.block _ (Array.getElem?_eq_some_iff.1 HN29.out).1).trans HN29.out)
 have HY30 := Lib.hid ((hb.block _ (Array.getElem?_eq_some_iff.1 HY29.out).1).trans HY29.out)
 have HD30 := Lib.hid ((hb.block _ (Array.getElem?_eq_some_iff.1 HD29.out).1).trans HD29.out)
 have HA30 := Lib.hid (HA29.out.below hb (by omega))
 have HC30 := Lib.hid (HC29.out.below hb (by omega))
 have HZ30 := Lib.hid (HZ29.out.below hb (by omega))
 have HJ30 := Lib.hid (HJ29.out.below hb (by omega))
 have HW30 := Lib.hid (HW29.out.below hb (by omega))
 have HF30 := Lib.hid (HF29.out.below hb (by omega))
 have HH30 := Lib.hid ((hb.block _ (Array.getElem?_eq_some_iff.1 HH29.out).1).trans HH29.out)
 clear hb HX29 HV29 HO29 HK29 HE29 HB29 HS29 HT29 HQ29 HN29 HY29 HD29 HA29 HC29 HZ29 HJ29 HW29 HF29 HH29
 obtain ⟨c0, c1⟩ := pair_cells HD30.out
 go_wp2_with fail
 refine (heldCart w30 ghi gva goa _ _ _ _ 1 (HA30.out.ints.more (by omega)) HC30.out.ops (by omega) (by omega) (by omega) (by omega) (by omega)).mono ?_
 rintro e w31 ⟨rfl, hb⟩
 rw [HK3.out]
 clear c0 c1
 have hs31 := hb.size
 have HX31 := Lib.hid ((hb.block _ (Array.getElem?_eq_some_iff.1 HX30.out).1).trans HX30.out)
 have HV31 := Lib.hid (HV30.out.below hb (by omega))
 have HO31 := Lib.hid (HO30.out.below hb (by omega))
 have HK31 := Lib.hid (HK30.out.below hb (by omega))
 have HE31 := Lib.hid (HE30.out.below hb (by omega))
 have HB31 := Lib.hid (HB30.out.trans (hb.mono (by omega)))
 have HS31 := Lib.hid (HS30.out.below hb (by omega))
 have HT31 := Lib.hid (HT30.out.below hb (by omega))
 have HQ31 := Lib.hid (HQ30.out.below hb (by omega))
 have HN31 := Lib.hid ((hb.block _ (Array.getElem?_eq_some_iff.1 HN30.out).1).trans HN30.out)
 have HY31 := Lib.hid ((hb.block _ (Array.getElem?_eq_some_iff.1 HY30.out).1).trans HY30.out)
 have HD31 := Lib.hid ((hb.block _ (Array.getElem?_eq_some_iff.1 HD30.out).1).trans HD30.out)
 have HA31 := Lib.hid (HA30.out.below hb (by omega))
 have HC31 := Lib.hid (HC30.out.below hb (by omega))
 have HZ31 := Lib.hid (HZ30.out.below hb (by omega))
 have HJ31 := Lib.hid (HJ30.out.below hb (by omega))
 have HW31 := Lib.hid (HW30.out.below hb (by omega))
 have HF31 := Lib.hid (HF30.out.below hb (by omega))
 have HH31 := Lib.hid ((hb.block _ (Array.getElem?_eq_some_iff.1 HH30.out).1).trans HH30.out)
 clear hb HX30 HV30 HO30 HK30 HE30 HB30 HS30 HT30 HQ30 HN30 HY30 HD30 HA30 HC30 HZ30 HJ30 HW30 HF30 HH30
 go_wp2_with fail
 refine (heldIntsV w31 _ gka _ _ k3 HZ31.out.ints (by omega) (by omega)).mono ?_
 rintro e w32 ⟨rfl, hb⟩
 rw [HK4.out]
 have hs32 := hb.size
 have HX32 := Lib.hid ((hb.block _ (Array.getElem?_eq_some_iff.1 HX31.out).1).trans HX31.out)
 have HV32 := Lib.hid (HV31.out.below hb (by omega))
 have HO32 := Lib.hid (HO31.out.below hb (by omega))
 have HK32 := Lib.hid (HK31.out.below hb (by omega))
 have HE32 := Lib.hid (HE31.out.below hb (by omega))
 have HB32 := Lib.hid (HB31.out.trans (hb.mono (by omega)))
 have HS32 := Lib.hid (HS31.out.below hb (by omega))
 have HT32 := Lib.hid (HT31.out.below hb (by omega))
 have HQ32 := Lib.hid (HQ31.out.below hb (by omega))
 have HN32 := Lib.hid ((hb.block _ (Array.getElem?_eq_some_iff.1 HN31.out).1).trans HN31.out)
 have HY32 := Lib.hid ((hb.block _ (Array.getElem?_eq_some_iff.1 HY31.out).1).trans HY31.out)
 have HD32 := Lib.hid ((hb.block _ (Array.getElem?_eq_some_iff.1 HD31.out).1).trans HD31.out)
 have HA32 := Lib.hid (HA31.out.below hb (by omega))
 have HC32 := Lib.hid (HC31.out.below hb (by omega))
 have HZ32 := Lib.hid (HZ31.out.below hb (by omega))
 have HJ32 := Lib.hid (HJ31.out.below hb (by omega))
 have HW32 := Lib.hid (HW31.out.below hb (by omega))
 have HF32 := Lib.hid (HF31.out.below hb (by omega))
 have HH32 := Lib.hid ((hb.block _ (Array.getElem?_eq_some_iff.1 HH31.out).1).trans HH31.out)
 clear hb HX31 HV31 HO31 HK31 HE31 HB31 HS31 HT31 HQ31 HN31 HY31 HD31 HA31 HC31 HZ31 HJ31 HW31 HF31 HH31
 go_wp2
 go_ret
 exact ⟨rfl, HB32.out⟩
end Go.Proofs.YtjokbaaommicmaaGreatDoor
namespace Go.Proofs.YtjokbaaommicmaaGreatDoor.fnExactIssueAll
open Go.ChangeShapes Go.WideShapes Go.ChangeAt Go.RowKit
open Go.ChangeMaps (open_string shut_string)
set_option linter.unusedVariables false

set_option maxRecDepth 100000 in
set_option maxHeartbeats 1000000 in
theorem contract (H : Type) (enc : TypeId × Value → H) (W : World) (base : Nat) (args : Array Value) (ds gs : List (DataW H)) (before : List MemPlace)
    (hval : ∀ (j : Nat) t v, Tryz.f4.params[j]? = some t → args[j]? = some v → Value.okWide Tryz.prog W .any base t v)
    (hW : DataW.Whole enc Tryz.prog Tryz.f4.params.toList Rows.fnExactIssueAllSpec.vars false W args.toList ds gs before) (hL : laidMetH Tryz.prog Rows.fnExactIssueAllRow.laid W) :
    Calls Tryz.prog 4 args W fun e W' => ∃ v, e = .returned v ∧ Rows.fnExactIssueAllSpec.post enc Tryz.prog Tryz.f4 false true false false W args v W' := by
  have hW' := hW
  obtain ⟨p, q, hA0, hV0, rfl, hfz, hnd⟩ := hW
  have hA : DataW.TrodAll enc Tryz.prog W 0 (fun _ => true) true Tryz.f4.params.toList args.toList ds p := hA0
  have hV : DataW.TrodVars enc Tryz.prog W (fun _ => true) ["loop.example/g00660/impl.errForm", "loop.example/g00660/impl.errNone", "loop.example/g00660/impl.errThere", "loop.example/g00660/impl.errFull"] gs q := hV0
  rw [Tryz.params4] at hA hval
  obtain ⟨v0, vs0, d0, ds0, p0, q0, hargs, rfl, rfl, h0, r0⟩ := trodAll_cons hA
  obtain ⟨v1, vs1, d1, ds1, p1, q1, rfl, rfl, rfl, h1, r1⟩ := trodAll_cons r0
  obtain ⟨v2, vs2, d2, ds2, p2, q2, rfl, rfl, rfl, h2, r2⟩ := trodAll_cons r1
  obtain ⟨rfl, rfl, rfl⟩ := trodAll_nil r2
  obtain rfl : args = #[v0, v1, v2] := by cases args; simp_all
  obtain ⟨E, hE⟩ := errs_of_laid hL
  have k0 := h0
  have lt0 : ∀ x ∈ p0, x.block < W.heap.size := by obtain ⟨m, hm⟩ := k0; exact DataW.trod_lt m _ _ _ hm
  obtain ⟨x0_0, x0_1, x0_2, x0_3, x0_4, x0_5, x0_6, x0_7, rfl, u0, w0, m0, n0, t0⟩ := open_cart (hval 0 25 v0 rfl rfl) h0
  obtain ⟨a1, rfl, rfl, rfl, w1⟩ := open_int Tryz.underlying2 (hval 1 2 v1 rfl rfl) h1
  have k2 := h2
  have lt2 : ∀ x ∈ p2, x.block < W.heap.size := by obtain ⟨m, hm⟩ := k2; exact DataW.trod_lt m _ _ _ hm
  obtain ⟨x2_0, x2_1, x2_2, x2_3, rfl, u2, m2, t2⟩ := open_cmds (hval 2 41 v2 rfl rfl) h2
  clear hA0 hV0
  have hgs : ∃ g1 g2 g3 g4, gs = [g1, g2, g3, g4] := by
    match gs, hV with
    | [g1, g2, g3, g4], _ => exact ⟨g1, g2, g3, g4, rfl⟩
    | [], h => exact h.elim
    | [_], h => obtain ⟨_, _, _, _, _, _, _, _, _, _, h', _⟩ := h; exact h'.elim
    | [_, _], h => obtain ⟨_, _, _, _, _, _, _, _, _, _, ⟨_, _, _, _, _, _, _, _, _, _, h', _⟩, _⟩ := h; exact h'.elim
    | [_, _, _], h => obtain ⟨_, _, _, _, _, _, _, _, _, _, ⟨_, _, _, _, _, _, _, _, _, _, ⟨_, _, _, _, _, _, _, _, _, _, h', _⟩, _⟩, _⟩ := h; exact h'.elim
    | _ :: _ :: _ :: _ :: _ :: _, h => obtain ⟨_, _, _, _, _, _, _, _, _, _, ⟨_, _, _, _, _, _, _, _, _, _, ⟨_, _, _, _, _, _, _, _, _, _, ⟨_, _, _, _, _, _, _, _, _, _, h', _⟩, _⟩, _⟩, _⟩ := h; exact h'.elim
  obtain ⟨g1, g2, g3, g4, rfl⟩ := hgs
  refine (fnExactIssueAllWalk E x0_0 x0_1 x0_2 x0_3 x0_4 x0_5 x0_6 x0_7 a1 x2_0 x2_1 x2_2 x2_3 W hE u0 w0 m0 n0 t0 u2 m2 t2).mono fun e W' ⟨he, bel⟩ => ?_
  subst he
  exact ⟨_, rfl, _, _, _, [], _, q, hW', trodAll_mk1 (shut_bool Tryz.underlying4 _), (trodAll_cons_mk (Below.trod seatLaidOut (by kernel_rfl) (of_decide_eq_true (by kernel_rfl)) k0 bel lt0) (trodAll_cons_mk (shut_int Tryz.underlying2 w1) (trodAll_cons_mk (Below.trod seatLaidOut (by kernel_rfl) (of_decide_eq_true (by kernel_rfl)) k2 bel lt2) trodAll_mk0))), bel.trodVars seatLaidOut vars_rowed hV, bel.frame _, fun h => by cases h⟩

set_option maxRecDepth 100000 in
theorem reads (os : Os) {H : Type} (enc : TypeId × Value → H) : ∃ x, DataW.whole enc Tryz.prog ((laidWorld os).forCall (fun _ _ => 0) ⟨#[], #[.agg #[.slice none 0 0, .slice none 0 0], .int .i64 0, .slice none 0 0], []⟩).memory Tryz.f4.params.toList Rows.fnExactIssueAllSpec.vars false (#[.agg #[.slice none 0 0, .slice none 0 0], .int .i64 0, .slice none 0 0] : Array Value).toList 8 = some x :=
  ⟨([.agg [.nil, .nil], .lit (.int .i64 0), .nil], [tok enc (.iface 240 (.pointer (some ⟨low + 0, 0, none⟩))), tok enc (.iface 240 (.pointer (some ⟨low + 1, 0, none⟩))), tok enc (.iface 240 (.pointer (some ⟨low + 2, 0, none⟩))), tok enc (.iface 240 (.pointer (some ⟨low + 3, 0, none⟩)))], [.cell 0 0, .cell 2 0, .cell 3 0, .cell 4 0]), by kernel_rfl⟩

set_option maxRecDepth 100000 in
theorem lifted (os : Os) (started : os.Started) (H : Type) (enc : TypeId × Value → H) (F : Stop.Interp) :
    ReturnsInHanded {} Tryz.checked os 4 .any ((OpenSpec.ofChange Rows.fnExactIssueAllSpec).preRow enc Tryz.prog Tryz.f4 Rows.fnExactIssueAllRow.domain false Rows.fnExactIssueAllRow.laid) (((OpenSpec.ofChange Rows.fnExactIssueAllSpec).at F).post enc Tryz.prog Tryz.f4 false true false false) := by
  obtain ⟨x, hx⟩ := reads os enc
  refine returnsInHanded_of_row (C := Tryz.checked) (s := OpenSpec.ofChange Rows.fnExactIssueAllSpec) seatOwn started (by kernel_rfl) Tryz.func4
    (witness_row_atRef (enc := enc) (C := Tryz.checked) false (laidWorld os) #[.agg #[.slice none 0 0, .slice none 0 0], .int .i64 0, .slice none 0 0] rfl (by kernel_rfl) (by kernel_rfl) (by kernel_rfl)
      (OpenSpec.preRow_of_cond 8 hx (by kernel_rfl) (fun k hk => by cases hk) (by kernel_rfl) (laid_met os _))) ?_
  intro W base args ds gs before hval hW _ _ _ hL _ _
  exact contract H enc W base args ds gs before hval hW hL

theorem said : Rows.FnExactIssueAllSaid :=
  OpenClaim.holds_of_cond 4 Tryz.f4 rfl rfl rfl rfl rfl rfl rfl ⟨rfl, rfl, rfl, rfl, rfl⟩ rfl rfl rfl rfl rfl (by kernel_rfl) Tryz.func4 (by kernel_rfl)
    (of_decide_eq_true (by kernel_rfl)) (by unfold Func.isWrapper; first | (rw [if_pos (by decide +kernel)]; kernel_rfl) | (rw [if_neg (by decide +kernel)]; exact ⟨rfl, rfl⟩))
    (fun os started H enc _ F => by rw [OpenClaim.pre_eq_preRow]; exact lifted os started H enc F)

theorem plain (f : FuncId) (fn : Func) (hf : Tryz.pinned.checked.prog.funcNamed "loop.example/g00660/laws.FnExactIssueAll" = some f) (hfn : Tryz.pinned.checked.prog.funcs[f]? = some fn) :
    true = Tryz.pinned.checked.prog.looks [] ∧ ∀ (j : Nat) t, fn.params[j]? = some t → Tryz.pinned.checked.prog.wantsStandIn t = false := by
  obtain rfl : f = 4 := Option.some.inj ((show Tryz.prog.funcNamed "loop.example/g00660/laws.FnExactIssueAll" = some 4 by kernel_rfl).symm.trans hf) |>.symm
  obtain rfl : fn = Tryz.f4 := (Option.some.inj (Tryz.func4.symm.trans hfn)).symm
  refine ⟨by kernel_rfl, fun j t ht => ?_⟩
  rw [Tryz.params4] at ht
  have hm : t = 25 ∨ t = 2 ∨ t = 41 := by simpa using Array.mem_of_getElem? ht
  rcases hm with rfl | rfl | rfl
  · exact (show Tryz.prog.wantsStandIn 25 = false by kernel_rfl)
  · exact (show Tryz.prog.wantsStandIn 2 = false by kernel_rfl)
  · exact (show Tryz.prog.wantsStandIn 41 = false by kernel_rfl)

theorem proved : Rows.FnExactIssueAllCardSaid :=
  Claim7.holds_tied_plain_at .later [] _ _ _ _ said (fun _ h => by cases h) (by kernel_rfl) (fun _ h => by cases h) fnExactIssueAll_row_tie rfl ⟨rfl, rfl⟩ (by kernel_rfl) rfl plain (by kernel_rfl)
#print axioms proved
end Go.Proofs.YtjokbaaommicmaaGreatDoor.fnExactIssueAll
