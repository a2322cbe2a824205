/- Tables of rows of numbers: the walks of laws.szInt64SS, toInt64SS, eqInt64SS, szAcks, toAcks, eqAcks and of spec.AcksOk. -/
import Derived.Test.YtjmilgijdfibbaaRowsI
import Derived.Deep.Cut
import Derived.Deep.RegionHeld3
import Derived.RegionTactic
import Derived.Handy
import Derived.Below
namespace Go.Proofs.Ytjmilgijdfibbaa
open Go.RowKit
set_option linter.unusedVariables false

theorem ret_intA {x y : Int} (h : x = y) : Ending.returned (.int .i64 x) = .returned (.int .i64 y) := by rw [h]
theorem szRow (a : Option Addr) (n cap left : Nat) (hl : left ≤ 1048576) (hn : n ≤ maxLen) (w : World) : Calls Try.prog 113 #[.slice a n cap, .int .i64 (left : Int)] w fun e w' => e = .returned (.int .i64 (if n ≤ left then ((left - n : Nat) : Int) else -1)) ∧ w = w' := by
  unfold maxLen at hn
  by_cases h : n ≤ left
  · have hd : decide ((left : Int) - (n : Int) < 0) = false := decide_eq_false (by omega)
    go_enter Try.func113, Try.ntmps113
    go_wp2
    go_ret
    exact ⟨ret_intA (by omega), rfl⟩
  · have hd : decide ((left : Int) - (n : Int) < 0) = true := decide_eq_true (by omega)
    go_enter Try.func113, Try.ntmps113
    go_wp2
    go_ret
    exact ⟨rfl, rfl⟩
def rowsTotal (l : List (List Int)) : Nat := l.length + isum l l.length
def SzRows (t left : Nat) (w : World) (e : Ending) (w' : World) : Prop := e = .returned (.int .i64 (if t ≤ left then ((left - t : Nat) : Int) else -1)) ∧ Below w.heap.size w w'
set_option maxRecDepth 100000 in
set_option maxHeartbeats 1000000 in
theorem szRows (w : World) (B : Nat) (a : Option Addr) (n cap : Nat) (l : List (List Int)) (h : IRows w B a n l) (hB : B ≤ w.heap.size) (hn : n ≤ maxLen) (hm : ∀ i, i < n → (rowOf l i).length ≤ maxLen) (left : Nat) (hl : left ≤ 1048576) :
    Calls Try.prog 83 #[.slice a n cap, .int .i64 (left : Int)] w (SzRows (rowsTotal l) left w) := by
  have hL := h.1
  have HT : Hid (rowsTotal l = n + isum l n) := by show rowsTotal l = _; unfold rowsTotal; rw [hL]
  clear hL
  unfold maxLen at hn
  by_cases hbig : n ≤ left
  rotate_left
  · have HF : Hid (¬ rowsTotal l ≤ left) := by have := HT.out; show ¬ _; omega
    have hd : decide ((left : Int) - (n : Int) < 0) = true := decide_eq_true (by omega)
    go_enter Try.func83, Try.ntmps83
    go_wp2
    go_ret
    exact ⟨by rw [if_neg HF.out]; rfl, Below.refl _ _⟩
  have hd : decide ((left : Int) - (n : Int) < 0) = false := decide_eq_false (by omega)
  have H := Lib.hid h
  have HM := Lib.hid hm
  clear h hm
  go_enter Try.func83, Try.ntmps83
  go_wp2
  go_loopw [1, 5] (fun m i wr => ∃ k q : Nat, k ≤ n ∧ i = .int .i64 k ∧ m = .int .i64 q ∧ Hid (q + n + isum l k = left) ∧ Hid (Below w.heap.size w wr)) (fun _ i _ => n - (intOf i).toNat)
  case atStart => exact ⟨0, left - n, Nat.zero_le _, rfl, by go_num, (by show left - n + n + isum l 0 = left; have : isum l 0 = 0 := rfl; omega), Below.refl _ _⟩
  case round =>
    obtain ⟨k, q, hk, rfl, rfl, HQ, HB⟩ := hrel
    have hq : q ≤ 1048576 := by have := HQ.out; omega
    clear hd
    by_cases hlt : k < n
    · obtain ⟨b, off, ai, ci, rfl, hb, hc, hx⟩ := H.out.2 k hlt
      have hio := HM.out k hlt
      have HI : Hid (isum l (k + 1) = isum l k + (rowOf l k).length) := rfl
      have HLe := Lib.hid (isum_le l (show k + 1 ≤ n from hlt))
      have c0 := (World.cell?_of_block (a := ⟨b, off + k, none⟩) (HB.out.block b (by omega))).trans hc
      clear hc hx
      generalize (rowOf l k).length = z at hio HI c0
      go_wp2_with fail
      refine (szRow ai z ci q hq hio _).mono ?_
      rintro e w1 ⟨rfl, rfl⟩
      by_cases hfit : z ≤ q
      · rw [if_pos hfit]
        have hl2 : decide (((q - z : Nat) : Int) < 0) = false := decide_eq_false (by omega)
        go_wp2
        go_roundw
        case rel => exact ⟨k + 1, q - z, by omega, by go_num, rfl, (by have := HQ.out; have := HI.out; show _ = _; omega), HB⟩
        case measure => simp [intOf]; omega
      · have HF : Hid (¬ rowsTotal l ≤ left) := by have := HT.out; have := HQ.out; have := HI.out; have := HLe.out; show ¬ _; omega
        rw [if_neg hfit]
        go_wp2
        go_ret
        exact ⟨by rw [if_neg HF.out]; rfl, HB.out⟩
    · obtain rfl : k = n := by omega
      have HF : Hid (rowsTotal l ≤ left ∧ left - rowsTotal l = q) := by have := HT.out; have := HQ.out; exact ⟨by omega, by omega⟩
      go_wp2
      go_ret
      exact ⟨by rw [if_pos HF.out.1, HF.out.2]; rfl, HB.out⟩
theorem rows_fit {l : List (List Int)} (h : rowsTotal l ≤ 1048576) : l.length ≤ 1048576 ∧ ∀ i, i < l.length → (rowOf l i).length ≤ 1048576 := by
  unfold rowsTotal at h
  exact ⟨by omega, fun i hi => by have := row_le l hi; omega⟩

/-- A row of rows: block g holds n slices, the cells of the i-th, if it has any, lie in block f i; no two of these blocks are one. -/
def RowsAt (w : World) (lo hi g n : Nat) (f : Nat → Nat) (V : Nat → List Int) : Prop :=
  (lo ≤ g ∧ g < hi ∧ ∃ cs, w.heap[g]? = some (.cells cs 63 (0, 0)) ∧ ∀ i, i < n → ∃ ai ci, cs[i]? = some (.slice ai (V i).length ci) ∧ Own w (f i) (f i + 1) ai (V i).length (V i)) ∧ (∀ i, i < n → lo ≤ f i ∧ f i < hi ∧ f i ≠ g) ∧ ∀ i j, i < j → j < n → f i ≠ f j
theorem RowsAt.kept {w w' : World} {lo hi g n : Nat} {f : Nat → Nat} {V : Nat → List Int} (h : RowsAt w lo hi g n f V) (hk : ∀ j, lo ≤ j → j < hi → w'.heap[j]? = w.heap[j]?) : RowsAt w' lo hi g n f V := by
  obtain ⟨⟨h1, h2, cs, hg, hc⟩, hf, hd⟩ := h
  refine ⟨⟨h1, h2, cs, (hk g h1 h2).trans hg, fun i hi' => ?_⟩, hf, hd⟩
  obtain ⟨ai, ci, e, ho⟩ := hc i hi'
  exact ⟨ai, ci, e, ho.kept fun j q1 q2 => by have := hf i hi'; exact hk j (by omega) (by omega)⟩
theorem RowsAt.below {w w' : World} {lo hi g n B : Nat} {f : Nat → Nat} {V : Nat → List Int} (h : RowsAt w lo hi g n f V) (hb : Below B w w') (hB : hi ≤ B) : RowsAt w' lo hi g n f V :=
  h.kept fun j _ h2 => hb.block j (by omega)
theorem RowsAt.more {w : World} {lo hi lo' hi' g n : Nat} {f : Nat → Nat} {V : Nat → List Int} (h : RowsAt w lo hi g n f V) (h1 : lo' ≤ lo) (h2 : hi ≤ hi') : RowsAt w lo' hi' g n f V := by
  obtain ⟨⟨a1, a2, cs⟩, hf, hd⟩ := h
  exact ⟨⟨by omega, by omega, cs⟩, fun i hi' => by have := hf i hi'; omega, hd⟩
theorem RowsAt.irows {w : World} {lo hi g n : Nat} {f : Nat → Nat} {l : List (List Int)} (h : RowsAt w lo hi g n f (rowOf l)) (hl : l.length = n) : IRows w hi (some ⟨g, 0, none⟩) n l := by
  obtain ⟨⟨h1, h2, cs, hg, hc⟩, hf, hd⟩ := h
  refine ⟨hl, fun i hi' => ?_⟩
  obtain ⟨ai, ci, e, ho⟩ := hc i hi'
  refine ⟨g, 0, ai, ci, rfl, h2, ?_, (ho.ints).more (by have := hf i hi'; omega)⟩
  rw [Nat.zero_add]
  exact (cell_of_row _ _ _ _ _ _ hg).trans e

theorem Try.infoRow : (Try.prog.info? 63).map (fun i => (i.zero, i.size, i.bytes)) = some (some (.slice none 0 0), 1, 24) := by kernel_rfl
/-- What a call leaves that hands back a new row of new rows. -/
def FreshRows (l : List (List Int)) (w : World) (e : Ending) (w' : World) : Prop :=
  e = .returned (.slice (some ⟨w.heap.size, 0, none⟩) l.length l.length) ∧ (∃ f, RowsAt w' w.heap.size w'.heap.size w.heap.size l.length f (rowOf l)) ∧ Below w.heap.size w w'
/-- The row of toInt64SS when k of its rows are made. -/
def PartRows (w wr : World) (n : Nat) (l : List (List Int)) (k : Nat) : Prop :=
  Below w.heap.size w wr ∧ w.heap.size < wr.heap.size ∧ ∃ (f : Nat → Nat) (cs : Array Value), wr.heap[w.heap.size]? = some (.cells cs 63 (0, 0)) ∧ cs.size = n ∧ (∀ i, i < k → (∃ ai ci, cs[i]? = some (.slice ai (rowOf l i).length ci) ∧ Own wr (f i) (f i + 1) ai (rowOf l i).length (rowOf l i)) ∧ w.heap.size < f i ∧ f i < wr.heap.size) ∧ ∀ i j, i < j → j < k → f i < f j
theorem PartRows.step {w wr w1 : World} {n : Nat} {l : List (List Int)} {k : Nat} (h : PartRows w wr n l k) (hk : k < n) (hg : w1.heap[wr.heap.size]? = some (.cells ((rowOf l k).map (Value.int .i64)).toArray 2 (0, 0))) (hb : Below wr.heap.size wr w1) :
    PartRows w (w1.setCell ⟨w.heap.size, k, none⟩ (.slice (some ⟨wr.heap.size, 0, none⟩) (rowOf l k).length (rowOf l k).length)) n l (k + 1) ∧ (∃ v, w1.cell? ⟨w.heap.size, k, none⟩ = some v) ∧ w1.frozen? ⟨w.heap.size, k, none⟩ = false := by
  obtain ⟨h1, h2, f, cs, h3, h4, h5, h6⟩ := h
  have hg1 : w1.heap[w.heap.size]? = some (.cells cs 63 (0, 0)) := (hb.block _ h2).trans h3
  have hlt := lt_of_block hg
  have hsz : (w1.setCell ⟨w.heap.size, k, none⟩ (.slice (some ⟨wr.heap.size, 0, none⟩) (rowOf l k).length (rowOf l k).length)).heap.size = w1.heap.size := by simp [World.setCell]
  refine ⟨⟨(h1.trans (hb.mono h1.size)).setCell (Nat.le_refl _) _, by omega, fun i => if i = k then wr.heap.size else f i, cs.setIfInBounds k (.slice (some ⟨wr.heap.size, 0, none⟩) (rowOf l k).length (rowOf l k).length), heap_setCell_same _ _ _ _ _ _ hg1, by simpa using h4, fun i hi => ?_, fun i j hij hj => ?_⟩, ⟨cs[k], (cell_of_row _ _ _ _ _ _ hg1).trans (Array.getElem?_eq_getElem (by omega))⟩, frozen_of_row _ _ _ _ _ hg1⟩
  · by_cases e : i = k
    · subst e
      simp only [if_pos]
      refine ⟨⟨_, _, by rw [Array.getElem?_setIfInBounds, if_pos rfl, if_pos (by omega)], ?_⟩, h2, by omega⟩
      exact (own_fresh hg (Nat.lt_succ_self _)).kept fun j q1 q2 => heap_setCell_other _ _ _ _ (by show j ≠ w.heap.size; omega)
    · simp only [if_neg e]
      obtain ⟨⟨ai, ci, q, ho⟩, q1, q2⟩ := h5 i (by omega)
      refine ⟨⟨ai, ci, by rw [Array.getElem?_setIfInBounds, if_neg (fun q => e q.symm)]; exact q, ho.kept fun j r1 r2 => (heap_setCell_other _ _ _ _ (by show j ≠ w.heap.size; omega)).trans (hb.block j (by omega))⟩, q1, by omega⟩
  · have hi : i ≠ k := by omega
    simp only [if_neg hi]
    by_cases e : j = k
    · rw [if_pos e]
      exact (h5 i (by omega)).2.2
    · rw [if_neg e]
      exact h6 i j hij (by omega)
theorem PartRows.done {w wr : World} {n : Nat} {l : List (List Int)} (h : PartRows w wr n l n) : ∃ f, RowsAt wr w.heap.size wr.heap.size w.heap.size n f (rowOf l) := by
  obtain ⟨h1, h2, f, cs, h3, h4, h5, h6⟩ := h
  exact ⟨f, ⟨Nat.le_refl _, h2, cs, h3, fun i hi => (h5 i hi).1⟩, fun i hi => by have := (h5 i hi).2; omega, fun i j hij hj => by have := h6 i j hij hj; omega⟩
set_option maxRecDepth 100000 in
set_option maxHeartbeats 1000000 in
theorem toRows (w : World) (B : Nat) (a : Option Addr) (n cap : Nat) (l : List (List Int)) (h : IRows w B a n l) (hB : B ≤ w.heap.size) (hl : n ≤ 1048576) (hr : ∀ i, i < n → (rowOf l i).length ≤ 1048576) :
    Calls Try.prog 85 #[.slice a n cap] w (FreshRows l w) := by
  obtain ⟨i0, hi, hz0, hz1, hz2⟩ := info_parts Try.infoRow
  obtain ⟨M, hM⟩ : ∃ M, M = madeCells (Value.slice none 0 0).cells (((n : Nat) : Int).toNat * i0.size) := ⟨_, rfl⟩
  have hMs : M.size = n := by rw [hM, size_madeCells, hz1]; simp
  have hmk : ∀ W : World, (Instr.makeSlice 51 (.int .i64 (n : Int)) (.int .i64 (n : Int))).run Try.prog W = .ok (.slice (some ⟨W.heap.size, 0, none⟩) n n) (W.alloc (.cells M 63)) := fun W => by
    have h := run_make (P := Try.prog) W 51 63 i0 (.slice none 0 0) Try.underlying51 hi hz0 .i64 .i64 (n : Int) (n : Int) (by omega) (by omega) (by rw [hz2]; omega) (by omega)
    rw [← hM] at h
    simpa using h
  have hL := Lib.hid h.1
  have H := Lib.hid h
  have HM := Lib.hid hMs
  have HR := Lib.hid hr
  clear hM h hMs hi hz0 hz1 hz2 hr
  go_enter Try.func85, Try.ntmps85
  go_wp2
  go_loopw [4] (fun i wr => ∃ k : Nat, k ≤ n ∧ i = .int .i64 k ∧ Hid (PartRows w wr n l k)) (fun i _ => n - (intOf i).toNat)
  case atStart => exact ⟨0, Nat.zero_le _, rfl, (Below.refl _ _).alloc (Nat.le_refl _) _, (by show _ < (w.heap.push _).size; simp), fun _ => 0, M, heap_alloc_new _ _, HM.out, fun j hj => by omega, fun i j _ hj => by omega⟩
  case round =>
    obtain ⟨k, hk, rfl, HP⟩ := hrel
    by_cases hlt : k < n
    · obtain ⟨b, off, ai, ci, rfl, hb, hc, hx⟩ := H.out.2 k hlt
      have hb0 := HP.out.1
      have c0 := (World.cell?_of_block (a := ⟨b, off + k, none⟩) (hb0.block b (by omega))).trans hc
      have HXi := Lib.hid (hx.below hb0 hB)
      have HS := Lib.hid (fun w1 => HP.out.step (w1 := w1) hlt)
      have hro := HR.out k hlt
      have HBs := Lib.hid hb0.size
      clear hc hx hb0
      generalize rowOf l k = xs at c0 HXi HS hro
      go_wp2_with fail
      refine (toInts _ B ai _ ci xs HXi.out (by have := HBs.out; omega) hro).mono ?_
      rintro e w1 ⟨rfl, hg, hb1⟩
      obtain ⟨hP1, ⟨v, d0⟩, f0⟩ := HS.out w1 hg hb1
      have HP1 := Lib.hid hP1
      clear hP1 hg hb1 c0
      go_wp2
      go_roundw
      case rel => exact ⟨k + 1, by omega, by go_num, HP1⟩
      case measure => simp [intOf]; omega
    · obtain rfl : k = n := by omega
      have HD := Lib.hid HP.out.done
      go_wp2
      go_ret
      exact ⟨by rw [hL.out]; rfl, by rw [hL.out]; exact HD.out, HP.out.1⟩
end Go.Proofs.Ytjmilgijdfibbaa
