/- Rows of offers in memory: each element is 3 cells; the walks of laws.szOffer, szOfferS, toOffer, toOfferS, eqOffer, eqOfferS. -/
import Derived.Test.YtdbdmfaphdjdpaaIntsW
import Derived.Deep.Cut
import Derived.Deep.RegionHeld3
import Derived.RegionTactic
import Derived.Handy
import Derived.Below
namespace Go.Proofs.Ytdbdmfaphdjdpaa
open Go.RowKit
set_option linter.unusedVariables false

structure OfV where
  item : ByteArray
  buy : Int
  free : Int
def OfV.zero : OfV := ⟨⟨#[]⟩, 0, 0⟩
def OfAt (w : World) (b off : Nat) (o : OfV) : Prop := w.cell? ⟨b, off, none⟩ = some (.string o.item) ∧ w.cell? ⟨b, off + 1, none⟩ = some (.int .i64 o.buy) ∧ w.cell? ⟨b, off + 2, none⟩ = some (.int .i64 o.free)
theorem OfAt.kept {w w' : World} {b off : Nat} {o : OfV} (h : OfAt w b off o) (hb : w'.heap[b]? = w.heap[b]?) : OfAt w' b off o := by
  obtain ⟨h0, h1, h2⟩ := h
  exact ⟨(World.cell?_of_block (a := ⟨b, off, none⟩) hb).trans h0, (World.cell?_of_block (a := ⟨b, off + 1, none⟩) hb).trans h1, (World.cell?_of_block (a := ⟨b, off + 2, none⟩) hb).trans h2⟩
/-- A slice of n offers that reads as l; its row lies below block B. -/
def Ofs (w : World) (B : Nat) (a : Option Addr) (n : Nat) (l : List OfV) : Prop :=
  l.length = n ∧ ∀ i, i < n → ∃ b off, a = some ⟨b, off, none⟩ ∧ b < B ∧ OfAt w b (off + i * 3) (l.getD i OfV.zero)
theorem Ofs.kept {w w' : World} {B : Nat} {a : Option Addr} {n : Nat} {l : List OfV} (h : Ofs w B a n l) (hk : ∀ k, k < B → w'.heap[k]? = w.heap[k]?) : Ofs w' B a n l :=
  ⟨h.1, fun i hi => by obtain ⟨b, off, e, hb, ho⟩ := h.2 i hi; exact ⟨b, off, e, hb, ho.kept (hk b hb)⟩⟩
theorem Ofs.below {w w' : World} {B B' : Nat} {a : Option Addr} {n : Nat} {l : List OfV} (h : Ofs w B a n l) (hb : Below B' w w') (hB : B ≤ B') : Ofs w' B a n l :=
  h.kept fun k hk => hb.block k (by omega)
theorem Ofs.more {w : World} {B B' : Nat} {a : Option Addr} {n : Nat} {l : List OfV} (h : Ofs w B a n l) (hB : B ≤ B') : Ofs w B' a n l :=
  ⟨h.1, fun i hi => by obtain ⟨b, off, e, hb, ho⟩ := h.2 i hi; exact ⟨b, off, e, by omega, ho⟩⟩
/-- The bytes of the items of the first k elements. -/
def OfitemsTo (l : List OfV) (k : Nat) : Nat := ((l.take k).map fun o => o.item.size).sum
theorem OfitemsTo_step {l : List OfV} {k : Nat} (h : k < l.length) : OfitemsTo l (k + 1) = OfitemsTo l k + (l.getD k OfV.zero).item.size := by
  unfold OfitemsTo
  rw [List.take_succ_eq_append_getElem h, List.map_append, List.sum_append, List.getD_eq_getElem?_getD, List.getElem?_eq_getElem h]
  simp
theorem OfitemsTo_le (l : List OfV) (k : Nat) : ∀ m, k ≤ m → m ≤ l.length → OfitemsTo l k ≤ OfitemsTo l m
  | 0, h, _ => by obtain rfl : k = 0 := by omega
                  exact Nat.le_refl _
  | m + 1, h, hm => by
    rcases Nat.lt_or_ge k (m + 1) with h1 | h1
    · have := OfitemsTo_le l k m (by omega) (by omega)
      rw [OfitemsTo_step (l := l) (k := m) (by omega)]
      omega
    · obtain rfl : k = m + 1 := by omega
      exact Nat.le_refl _
def OfTotal (l : List OfV) : Nat := l.length + OfitemsTo l l.length
theorem Of_fit {l : List OfV} (h : OfTotal l ≤ 1048576) : l.length ≤ 1048576 ∧ ∀ i, i < l.length → (l.getD i OfV.zero).item.size ≤ 1048576 := by
  unfold OfTotal at h
  refine ⟨by omega, fun i hi => ?_⟩
  have h1 := OfitemsTo_step (l := l) (k := i) hi
  have h2 := OfitemsTo_le l (i + 1) l.length (by omega) (Nat.le_refl _)
  omega

set_option maxRecDepth 100000 in
theorem szOfYes (item : ByteArray) (buy : Int) (free : Int) (left : Nat) (hl : left ≤ 1048576) (h : item.size ≤ left) (w : World) : Calls Try.prog 82 #[.agg #[.string item, .int .i64 buy, .int .i64 free], .int .i64 (left : Int)] w fun e w' => e = .returned (.int .i64 ((left - item.size : Nat) : Int)) ∧ Below w.heap.size w w' := by
  have hd : decide ((left : Int) - (item.size : Int) < 0) = false := decide_eq_false (by omega)
  go_enter Try.func82, Try.ntmps82
  go_wp2
  go_ret
  exact ⟨by show Ending.returned (.int .i64 ((left : Int) - (item.size : Int))) = _; rw [Int.ofNat_sub h], (Below.refl _ _).alloc (Nat.le_refl _) _⟩
set_option maxRecDepth 100000 in
theorem szOfNo (item : ByteArray) (buy : Int) (free : Int) (left : Nat) (hl : left ≤ 1048576) (hm : item.size ≤ maxLen) (h : ¬ item.size ≤ left) (w : World) : Calls Try.prog 82 #[.agg #[.string item, .int .i64 buy, .int .i64 free], .int .i64 (left : Int)] w fun e w' => e = .returned (.int .i64 (-1)) ∧ Below w.heap.size w w' := by
  unfold maxLen at hm
  have hd : decide ((left : Int) - (item.size : Int) < 0) = true := decide_eq_true (by omega)
  go_enter Try.func82, Try.ntmps82
  go_wp2
  go_ret
  exact ⟨rfl, (Below.refl _ _).alloc (Nat.le_refl _) _⟩
set_option maxRecDepth 100000 in
theorem toOfE (item : ByteArray) (buy : Int) (free : Int) (w : World) : Calls Try.prog 90 #[.agg #[.string item, .int .i64 buy, .int .i64 free]] w fun e w' => e = .returned (.agg #[.string item, .int .i64 buy, .int .i64 free]) ∧ Below w.heap.size w w' := by
  go_enter Try.func90, Try.ntmps90
  go_wp2
  refine bodyPost_ret (v := .agg #[.string item, .int .i64 buy, .int .i64 free]) (by simp [results, Try.results90, go_sem]) rfl ⟨rfl, ?_⟩
  go_grown
def SzOfPost (t left : Nat) (w : World) (e : Ending) (w' : World) : Prop := e = .returned (.int .i64 (if t ≤ left then ((left - t : Nat) : Int) else -1)) ∧ Below w.heap.size w w'
set_option maxRecDepth 100000 in
set_option maxHeartbeats 1000000 in
theorem szOfs (w : World) (B : Nat) (a : Option Addr) (n cap : Nat) (l : List OfV) (h : Ofs w B a n l) (hB : B ≤ w.heap.size) (hn : n ≤ maxLen) (hm : ∀ i, i < n → (l.getD i OfV.zero).item.size ≤ maxLen) (left : Nat) (hl : left ≤ 1048576) :
    Calls Try.prog 28 #[.slice a n cap, .int .i64 (left : Int)] w (SzOfPost (OfTotal l) left w) := by
  have hL := h.1
  have HT : Hid (OfTotal l = n + OfitemsTo l n) := by show OfTotal l = _; unfold OfTotal; rw [hL]
  have HLn := Lib.hid hL
  clear hL
  unfold maxLen at hn
  by_cases hbig : n ≤ left
  rotate_left
  · have HF : Hid (¬ OfTotal l ≤ left) := by have := HT.out; show ¬ _; omega
    have hd : decide ((left : Int) - (n : Int) < 0) = true := decide_eq_true (by omega)
    go_enter Try.func28, Try.ntmps28
    go_wp2
    go_ret
    exact ⟨by rw [if_neg HF.out]; rfl, Below.refl _ _⟩
  have hd : decide ((left : Int) - (n : Int) < 0) = false := decide_eq_false (by omega)
  have H := Lib.hid h
  have HM := Lib.hid hm
  clear h hm
  go_enter Try.func28, Try.ntmps28
  go_wp2
  go_loopw [1, 5] (fun m i wr => ∃ k q : Nat, k ≤ n ∧ i = .int .i64 k ∧ m = .int .i64 q ∧ Hid (q + n + OfitemsTo l k = left) ∧ Hid (Below w.heap.size w wr)) (fun _ i _ => n - (intOf i).toNat)
  case atStart => exact ⟨0, left - n, Nat.zero_le _, rfl, by go_num, (by show _ = _; simp [OfitemsTo]; omega), Below.refl _ _⟩
  case round =>
    obtain ⟨k, q, hk, rfl, rfl, HQ, HB⟩ := hrel
    have hq : q ≤ 1048576 := by have := HQ.out; omega
    clear hd
    by_cases hlt : k < n
    · obtain ⟨b, off, rfl, hb, ho⟩ := H.out.2 k hlt
      have hio := HM.out k hlt
      have HI := Lib.hid (OfitemsTo_step (l := l) (k := k) (by rw [HLn.out]; exact hlt))
      have HLe := Lib.hid (OfitemsTo_le l (k + 1) n hlt (by rw [HLn.out]; exact Nat.le_refl _))
      obtain ⟨c0, c1, c2⟩ := ho.kept (HB.out.block b (by omega))
      clear ho
      generalize l.getD k OfV.zero = o at hio HI c0 c1 c2
      by_cases hfit : o.item.size ≤ q
      · have hl2 : decide (((q - o.item.size : Nat) : Int) < 0) = false := decide_eq_false (by omega)
        go_wp2_with fail
        refine (szOfYes o.item o.buy o.free q hq hfit _).mono ?_
        rintro e w1 ⟨rfl, hb1⟩
        have HB1 := Lib.hid (HB.out.trans (hb1.mono HB.out.size))
        clear hb1 c0 c1 c2
        go_wp2
        go_roundw
        case rel => exact ⟨k + 1, q - o.item.size, by omega, by go_num, rfl, (by have := HQ.out; have := HI.out; show _ = _; omega), HB1⟩
        case measure => simp [intOf]; omega
      · have HF : Hid (¬ OfTotal l ≤ left) := by have := HT.out; have := HQ.out; have := HI.out; have := HLe.out; show ¬ _; omega
        go_wp2_with fail
        refine (szOfNo o.item o.buy o.free q hq hio hfit _).mono ?_
        rintro e w1 ⟨rfl, hb1⟩
        have HB1 := Lib.hid (HB.out.trans (hb1.mono HB.out.size))
        clear hb1 c0 c1 c2
        go_wp2
        go_ret
        exact ⟨by rw [if_neg HF.out]; rfl, HB1.out⟩
    · obtain rfl : k = n := by omega
      have HF : Hid (OfTotal l ≤ left ∧ left - OfTotal l = q) := by have := HT.out; have := HQ.out; exact ⟨by omega, by omega⟩
      go_wp2
      go_ret
      exact ⟨by rw [if_pos HF.out.1, HF.out.2]; rfl, HB.out⟩
def Ofput (cs : Array Value) (off : Nat) (o : OfV) : Array Value := (((cs.setIfInBounds (off) (.string o.item)).setIfInBounds (off + 1) (.int .i64 o.buy)).setIfInBounds (off + 2) (.int .i64 o.free))
theorem Ofput_size (cs : Array Value) (off : Nat) (o : OfV) : (Ofput cs off o).size = cs.size := by
  unfold Ofput
  simp only [Array.size_setIfInBounds]
theorem Ofput_far (cs : Array Value) (off m : Nat) (o : OfV) (h : m < off ∨ off + 3 ≤ m) : (Ofput cs off o)[m]? = cs[m]? := by
  unfold Ofput
  rw [Array.getElem?_setIfInBounds_ne (by omega), Array.getElem?_setIfInBounds_ne (by omega), Array.getElem?_setIfInBounds_ne (by omega)]

theorem Ofput_0 (cs : Array Value) (off : Nat) (o : OfV) (h : off + 3 ≤ cs.size) : (Ofput cs off o)[off]? = some (.string o.item) := by
  unfold Ofput
  rw [Array.getElem?_setIfInBounds_ne (by omega), Array.getElem?_setIfInBounds_ne (by omega), Array.getElem?_setIfInBounds_self_of_lt (by (try simp only [Array.size_setIfInBounds]); omega)]
theorem Ofput_1 (cs : Array Value) (off : Nat) (o : OfV) (h : off + 3 ≤ cs.size) : (Ofput cs off o)[off + 1]? = some (.int .i64 o.buy) := by
  unfold Ofput
  rw [Array.getElem?_setIfInBounds_ne (by omega), Array.getElem?_setIfInBounds_self_of_lt (by (try simp only [Array.size_setIfInBounds]); omega)]
theorem Ofput_2 (cs : Array Value) (off : Nat) (o : OfV) (h : off + 3 ≤ cs.size) : (Ofput cs off o)[off + 2]? = some (.int .i64 o.free) := by
  unfold Ofput
  rw [Array.getElem?_setIfInBounds_self_of_lt (by (try simp only [Array.size_setIfInBounds]); omega)]
theorem Try.infoOf : (Try.prog.info? 120).map (fun i => (i.zero, i.size, i.bytes)) = some (some (.agg #[.string ⟨#[]⟩, .int .i64 0, .int .i64 0]), 3, 32) := by kernel_rfl
/-- Block g holds n elements, of which the first k are l's. -/
def PartOf (w wr : World) (g n : Nat) (l : List OfV) (k : Nat) : Prop :=
  Below w.heap.size w wr ∧ ∃ cs : Array Value, wr.heap[g]? = some (.cells cs 120 (0, 0)) ∧ cs.size = n * 3 ∧ ∀ i, i < k → cs[i * 3]? = some (.string (l.getD i OfV.zero).item) ∧ cs[i * 3 + 1]? = some (.int .i64 (l.getD i OfV.zero).buy) ∧ cs[i * 3 + 2]? = some (.int .i64 (l.getD i OfV.zero).free)
theorem PartOf.next {w wr w1 : World} {g n : Nat} {l : List OfV} {k : Nat} (h : PartOf w wr g n l k) (hb : Below wr.heap.size wr w1) : PartOf w w1 g n l k := by
  obtain ⟨h1, cs, hg, hs, hc⟩ := h
  exact ⟨h1.trans (hb.mono h1.size), cs, (hb.block _ (Array.getElem?_eq_some_iff.1 hg).1).trans hg, hs, hc⟩

def OfsetAt (w : World) (b off : Nat) (o : OfV) : World := (((w.setCell ⟨b, off, none⟩ (.string o.item)).setCell ⟨b, off + 1, none⟩ (.int .i64 o.buy)).setCell ⟨b, off + 2, none⟩ (.int .i64 o.free))
theorem OfsetAt_same {w : World} {b off : Nat} {cs : Array Value} {T : TypeId} (o : OfV) (h : w.heap[b]? = some (.cells cs T (0, 0))) : (OfsetAt w b off o).heap[b]? = some (.cells (Ofput cs off o) T (0, 0)) := by
  have h0 : (w.setCell ⟨b, off, none⟩ (.string o.item)).heap[b]? = some (.cells (cs.setIfInBounds (off) (.string o.item)) T (0, 0)) := heap_setCell_same _ _ _ _ _ _ h
  have h1 : ((w.setCell ⟨b, off, none⟩ (.string o.item)).setCell ⟨b, off + 1, none⟩ (.int .i64 o.buy)).heap[b]? = some (.cells ((cs.setIfInBounds (off) (.string o.item)).setIfInBounds (off + 1) (.int .i64 o.buy)) T (0, 0)) := heap_setCell_same _ _ _ _ _ _ h0
  have h2 : (((w.setCell ⟨b, off, none⟩ (.string o.item)).setCell ⟨b, off + 1, none⟩ (.int .i64 o.buy)).setCell ⟨b, off + 2, none⟩ (.int .i64 o.free)).heap[b]? = some (.cells (((cs.setIfInBounds (off) (.string o.item)).setIfInBounds (off + 1) (.int .i64 o.buy)).setIfInBounds (off + 2) (.int .i64 o.free)) T (0, 0)) := heap_setCell_same _ _ _ _ _ _ h1
  exact h2
theorem OfsetAt_other {w : World} {b off k : Nat} (o : OfV) (h : k ≠ b) : (OfsetAt w b off o).heap[k]? = w.heap[k]? := by
  unfold OfsetAt
  rw [heap_setCell_other _ _ _ _ h, heap_setCell_other _ _ _ _ h, heap_setCell_other _ _ _ _ h]
theorem OfsetAt_below {B : Nat} {w0 w : World} {b off : Nat} (o : OfV) (h : Below B w0 w) (hb : B ≤ b) : Below B w0 (OfsetAt w b off o) :=
  (((h.setCell (p := ⟨b, off, none⟩) hb _).setCell (p := ⟨b, off + 1, none⟩) hb _).setCell (p := ⟨b, off + 2, none⟩) hb _)
theorem PartOf.step {w wr : World} {g n : Nat} {l : List OfV} {k : Nat} (h : PartOf w wr g n l k) (hg0 : w.heap.size ≤ g) (hk : k < n) : PartOf w (OfsetAt wr g (k * 3) (l.getD k OfV.zero)) g n l (k + 1) := by
  obtain ⟨h1, cs, hg, hs, hc⟩ := h
  refine ⟨OfsetAt_below _ h1 hg0, Ofput cs (k * 3) (l.getD k OfV.zero), OfsetAt_same _ hg, by rw [Ofput_size]; exact hs, fun i hi => ?_⟩
  rcases Nat.lt_or_ge i k with hlt | hge
  · obtain ⟨d0, d1, d2⟩ := hc i hlt
    refine ⟨by rw [Ofput_far _ _ _ _ (by omega)]; exact d0, by rw [Ofput_far _ _ _ _ (by omega)]; exact d1, by rw [Ofput_far _ _ _ _ (by omega)]; exact d2⟩
  · obtain rfl : i = k := by omega
    exact ⟨Ofput_0 _ _ _ (by omega), Ofput_1 _ _ _ (by omega), Ofput_2 _ _ _ (by omega)⟩
theorem PartOf.cells {w wr : World} {g n : Nat} {l : List OfV} {k : Nat} (h : PartOf w wr g n l k) (hk : k < n) : ∃ v0 v1 v2, wr.cell? ⟨g, k * 3, none⟩ = some v0 ∧ wr.cell? ⟨g, k * 3 + 1, none⟩ = some v1 ∧ wr.cell? ⟨g, k * 3 + 2, none⟩ = some v2 := by
  obtain ⟨h1, cs, hg, hs, hc⟩ := h
  have e : ∀ m, m < cs.size → wr.cell? ⟨g, m, none⟩ = some (cs.getD m undef) := fun m hm => by
    rw [cell_of_row _ _ _ _ _ _ hg, Array.getElem?_eq_getElem hm]
    simp [Array.getD, hm]
  exact ⟨_, _, _, e _ (by omega), e _ (by omega), e _ (by omega)⟩
theorem PartOf.frozen {w wr : World} {g n : Nat} {l : List OfV} {k : Nat} (h : PartOf w wr g n l k) (m : Nat) : wr.frozen? ⟨g, m, none⟩ = false := by
  obtain ⟨h1, cs, hg, hs, hc⟩ := h
  exact frozen_of_row _ _ _ _ _ hg
theorem PartOf.done {w wr : World} {g n : Nat} {l : List OfV} (h : PartOf w wr g n l n) (hl : l.length = n) {B : Nat} (hB : g < B) : Ofs wr B (some ⟨g, 0, none⟩) n l := by
  obtain ⟨h1, cs, hg, hs, hc⟩ := h
  refine ⟨hl, fun i hi => ⟨g, 0, rfl, hB, ?_⟩⟩
  obtain ⟨d0, d1, d2⟩ := hc i hi
  rw [Nat.zero_add]
  exact ⟨(cell_of_row _ _ _ _ _ _ hg).trans d0, (cell_of_row _ _ _ _ _ _ hg).trans d1, (cell_of_row _ _ _ _ _ _ hg).trans d2⟩

/-- What a call leaves that hands back a new slice of them: its block is new. -/
def FreshOf (l : List OfV) (w : World) (e : Ending) (w' : World) : Prop :=
  e = .returned (.slice (some ⟨w.heap.size, 0, none⟩) l.length l.length) ∧ Ofs w' w'.heap.size (some ⟨w.heap.size, 0, none⟩) l.length l ∧ w.heap.size < w'.heap.size ∧ Below w.heap.size w w'
set_option maxRecDepth 100000 in
set_option maxHeartbeats 1000000 in
theorem toOfs (w : World) (B : Nat) (a : Option Addr) (n cap : Nat) (l : List OfV) (h : Ofs w B a n l) (hB : B ≤ w.heap.size) (hl : n ≤ 1048576) :
    Calls Try.prog 32 #[.slice a n cap] w (FreshOf l w) := by
  obtain ⟨i0, hi, hz0, hz1, hz2⟩ := info_parts Try.infoOf
  obtain ⟨M, hM⟩ : ∃ M, M = madeCells (Value.agg #[.string ⟨#[]⟩, .int .i64 0, .int .i64 0]).cells (((n : Nat) : Int).toNat * i0.size) := ⟨_, rfl⟩
  have hMs : M.size = n * 3 := by rw [hM, size_madeCells, hz1]; simp
  have hmk : ∀ W : World, (Instr.makeSlice 55 (.int .i64 (n : Int)) (.int .i64 (n : Int))).run Try.prog W = .ok (.slice (some ⟨W.heap.size, 0, none⟩) n n) (W.alloc (.cells M 120)) := fun W => by
    have h := run_make (P := Try.prog) W 55 120 i0 (.agg #[.string ⟨#[]⟩, .int .i64 0, .int .i64 0]) Try.underlying55 hi hz0 .i64 .i64 (n : Int) (n : Int) (by omega) (by omega) (by rw [hz2]; omega) (by omega)
    rw [← hM] at h
    simpa using h
  have hL := Lib.hid h.1
  have H := Lib.hid h
  have HM := Lib.hid hMs
  clear hM h hMs hi hz0 hz1 hz2
  go_enter Try.func32, Try.ntmps32
  go_wp2
  go_loopw [4] (fun i wr => ∃ k : Nat, k ≤ n ∧ i = .int .i64 k ∧ Hid (PartOf w wr w.heap.size n l k) ∧ Hid (w.heap.size < wr.heap.size)) (fun i _ => n - (intOf i).toNat)
  case atStart => exact ⟨0, Nat.zero_le _, rfl, ⟨(Below.refl _ _).alloc (Nat.le_refl _) _, M, heap_alloc_new _ _, HM.out, fun j hj => by omega⟩, (by show _ < (w.heap.push _).size; simp)⟩
  case round =>
    obtain ⟨k, hk, rfl, HP, HW⟩ := hrel
    by_cases hlt : k < n
    · obtain ⟨b, off, rfl, hb, ho⟩ := H.out.2 k hlt
      obtain ⟨c0, c1, c2⟩ := ho.kept (HP.out.1.block b (by omega))
      clear ho
      generalize ho' : l.getD k OfV.zero = x at c0 c1 c2
      have HXo := Lib.hid ho'
      clear ho'
      go_wp2_with fail
      refine (toOfE x.item x.buy x.free _).mono ?_
      rintro e w1 ⟨rfl, hb1⟩
      clear c0 c1 c2
      have HP1 := Lib.hid (HP.out.next hb1)
      have hw1 : w.heap.size < w1.heap.size := by have := HW.out; have := hb1.size; omega
      have HS : Hid (PartOf w (OfsetAt w1 w.heap.size (k * 3) x) w.heap.size n l (k + 1)) := by have := HP1.out.step (Nat.le_refl _) hlt; rw [HXo.out] at this; exact this
      obtain ⟨v0, v1, v2, d0, d1, d2⟩ := HP1.out.cells hlt
      have f0 := HP1.out.frozen (k * 3)
      have f1 := HP1.out.frozen (k * 3 + 1)
      have f2 := HP1.out.frozen (k * 3 + 2)
      have hsz : (OfsetAt w1 w.heap.size (k * 3) x).heap.size = w1.heap.size := by unfold OfsetAt; simp [World.setCell]
      clear hb1 HP HP1 HW
      go_wp2
      go_roundw
      case rel => exact ⟨k + 1, by omega, by go_num, HS, (by show _ < (OfsetAt w1 w.heap.size (k * 3) x).heap.size; rw [hsz]; exact hw1)⟩
      case measure => simp [intOf]; omega
    · obtain rfl : k = n := by omega
      have HD := Lib.hid (HP.out.done hL.out HW.out)
      go_wp2
      go_ret
      exact ⟨by rw [hL.out]; rfl, by rw [hL.out]; exact HD.out, HW.out, HP.out.1⟩
set_option maxRecDepth 100000 in
theorem eqOfE (x : OfV) (w : World) : Calls Try.prog 98 #[.agg #[.string x.item, .int .i64 x.buy, .int .i64 x.free], .agg #[.string x.item, .int .i64 x.buy, .int .i64 x.free]] w fun e w' => e = .returned (.bool true) ∧ Below w.heap.size w w' := by
  obtain ⟨item, buy, free⟩ := x
  simp only
  go_enter Try.func98, Try.ntmps98
  go_wp2
  go_ret
  exact ⟨rfl, ((Below.refl _ _).alloc (Nat.le_refl _) _).alloc (by simp) _⟩
set_option maxRecDepth 100000 in
set_option maxHeartbeats 2000000 in
theorem eqOfs (w : World) (B B' : Nat) (a a' : Option Addr) (n cap cap' : Nat) (l : List OfV) (h : Ofs w B a n l) (h' : Ofs w B' a' n l) (hB : B ≤ w.heap.size) (hB' : B' ≤ w.heap.size) (hn : n ≤ 1048576) :
    Calls Try.prog 37 #[.slice a n cap, .slice a' n cap'] w fun e w' => e = .returned (.bool true) ∧ Below w.heap.size w w' := by
  have H := Lib.hid h
  have H' := Lib.hid h'
  clear h h'
  go_enter Try.func37, Try.ntmps37
  go_wp2
  go_loopw [5] (fun i wr => ∃ k : Nat, k ≤ n ∧ i = .int .i64 k ∧ Hid (Below w.heap.size w wr)) (fun i _ => n - (intOf i).toNat)
  case atStart => exact ⟨0, Nat.zero_le _, rfl, Below.refl _ _⟩
  case round =>
    obtain ⟨k, hk, rfl, HB⟩ := hrel
    by_cases hlt : k < n
    · obtain ⟨b, off, rfl, hb, ho⟩ := H.out.2 k hlt
      obtain ⟨b', off', rfl, hb', ho'⟩ := H'.out.2 k hlt
      have q1 := ho.kept (HB.out.block b (by omega))
      have q2 := ho'.kept (HB.out.block b' (by omega))
      clear ho ho'
      generalize l.getD k OfV.zero = x at q1 q2
      have r1 := q1.kept (w' := wr.drew) rfl
      have r2 := q2.kept (w' := wr.drew) rfl
      obtain ⟨c0, c1, c2⟩ := r1
      obtain ⟨d0, d1, d2⟩ := r2
      have hS0 : wr.drew.cell? ⟨b, off + k * 3, none⟩ = some (.string x.item) ∧ wr.drew.cell? ⟨b, off + k * 3 + 1, none⟩ = some (.int .i64 x.buy) ∧ wr.drew.cell? ⟨b, off + k * 3 + 2, none⟩ = some (.int .i64 x.free) ∧ wr.drew.cell? ⟨b', off' + k * 3, none⟩ = some (.string x.item) ∧ wr.drew.cell? ⟨b', off' + k * 3 + 1, none⟩ = some (.int .i64 x.buy) ∧ wr.drew.cell? ⟨b', off' + k * 3 + 2, none⟩ = some (.int .i64 x.free) := ⟨c0, c1, c2, d0, d1, d2⟩
      clear c0 c1 c2 d0 d1 d2
      have hk0 : (0 : Int) ≤ (k : Int) := by omega
      have hk1 : (k : Int) < (n : Int) := by omega
      go_wp2_with fail
      go_region_held3 (fun w' => w'.cell? ⟨b, off + k * 3, none⟩ = some (.string x.item) ∧ w'.cell? ⟨b, off + k * 3 + 1, none⟩ = some (.int .i64 x.buy) ∧ w'.cell? ⟨b, off + k * 3 + 2, none⟩ = some (.int .i64 x.free) ∧ w'.cell? ⟨b', off' + k * 3, none⟩ = some (.string x.item) ∧ w'.cell? ⟨b', off' + k * 3 + 1, none⟩ = some (.int .i64 x.buy) ∧ w'.cell? ⟨b', off' + k * 3 + 2, none⟩ = some (.int .i64 x.free)) (first | with_reducible exact hS0 | with_reducible exact hS1)
        (first | (go_at_call 98; refine (eqOfE x _).mono ?_; rintro e w1 ⟨rfl, hb1⟩; have q3 := q1.kept (w' := w1) (hb1.block b (by show b < wr.heap.size; have := HB.out.size; omega)); have q4 := q2.kept (w' := w1) (hb1.block b' (by show b' < wr.heap.size; have := HB.out.size; omega)); obtain ⟨g0, g1, g2⟩ := q3; obtain ⟨m0, m1, m2⟩ := q4; have hS1 : w1.cell? ⟨b, off + k * 3, none⟩ = some (.string x.item) ∧ w1.cell? ⟨b, off + k * 3 + 1, none⟩ = some (.int .i64 x.buy) ∧ w1.cell? ⟨b, off + k * 3 + 2, none⟩ = some (.int .i64 x.free) ∧ w1.cell? ⟨b', off' + k * 3, none⟩ = some (.string x.item) ∧ w1.cell? ⟨b', off' + k * 3 + 1, none⟩ = some (.int .i64 x.buy) ∧ w1.cell? ⟨b', off' + k * 3 + 2, none⟩ = some (.int .i64 x.free) := ⟨g0, g1, g2, m0, m1, m2⟩; clear g0 g1 g2 m0 m1 m2))
      have HB1 := Lib.hid (HB.out.trans ((Below.mk hb1.os hb1.tape hb1.output hb1.size hb1.block : Below wr.heap.size wr w1).mono HB.out.size))
      clear hS0 hS1 hb1 q1 q2
      go_wp2
      go_roundw
      case rel => exact ⟨k + 1, by omega, by go_num, HB1⟩
      case measure => simp [intOf]; omega
    · go_wp2
      go_ret
      exact ⟨rfl, HB.out⟩
end Go.Proofs.Ytdbdmfaphdjdpaa
