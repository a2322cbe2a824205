/- Rows of lines as arguments: the walks of laws.szLine, szLineS, toLine, toLineS. -/
import Derived.Test.YtdbdmfaphdjdpaaLnRow
namespace Go.Proofs.Ytdbdmfaphdjdpaa
open Go.RowKit
set_option linter.unusedVariables false
/-- The bytes of the items of the first k elements. -/
def LnitemsTo (l : List LnV) (k : Nat) : Nat := ((l.take k).map fun o => o.item.size).sum
theorem LnitemsTo_step {l : List LnV} {k : Nat} (h : k < l.length) : LnitemsTo l (k + 1) = LnitemsTo l k + (l.getD k LnV.zero).item.size := by
  unfold LnitemsTo
  rw [List.take_succ_eq_append_getElem h, List.map_append, List.sum_append, List.getD_eq_getElem?_getD, List.getElem?_eq_getElem h]
  simp
theorem LnitemsTo_le (l : List LnV) (k : Nat) : ∀ m, k ≤ m → m ≤ l.length → LnitemsTo l k ≤ LnitemsTo l m
  | 0, h, _ => by obtain rfl : k = 0 := by omega
                  exact Nat.le_refl _
  | m + 1, h, hm => by
    rcases Nat.lt_or_ge k (m + 1) with h1 | h1
    · have := LnitemsTo_le l k m (by omega) (by omega)
      rw [LnitemsTo_step (l := l) (k := m) (by omega)]
      omega
    · obtain rfl : k = m + 1 := by omega
      exact Nat.le_refl _
def LnTotal (l : List LnV) : Nat := l.length + LnitemsTo l l.length
theorem Ln_fit {l : List LnV} (h : LnTotal l ≤ 1048576) : l.length ≤ 1048576 ∧ ∀ i, i < l.length → (l.getD i LnV.zero).item.size ≤ 1048576 := by
  unfold LnTotal at h
  refine ⟨by omega, fun i hi => ?_⟩
  have h1 := LnitemsTo_step (l := l) (k := i) hi
  have h2 := LnitemsTo_le l (i + 1) l.length (by omega) (Nat.le_refl _)
  omega

set_option maxRecDepth 100000 in
theorem szLnYes (item : ByteArray) (qty : Int) (saved : Bool) (left : Nat) (hl : left ≤ 1048576) (h : item.size ≤ left) (w : World) : Calls Try.prog 80 #[.agg #[.string item, .int .i64 qty, .bool saved], .int .i64 (left : Int)] w fun e w' => e = .returned (.int .i64 ((left - item.size : Nat) : Int)) ∧ Below w.heap.size w w' := by
  have hd : decide ((left : Int) - (item.size : Int) < 0) = false := decide_eq_false (by omega)
  go_enter Try.func80, Try.ntmps80
  go_wp2
  go_ret
  exact ⟨by show Ending.returned (.int .i64 ((left : Int) - (item.size : Int))) = _; rw [Int.ofNat_sub h], (Below.refl _ _).alloc (Nat.le_refl _) _⟩
set_option maxRecDepth 100000 in
theorem szLnNo (item : ByteArray) (qty : Int) (saved : Bool) (left : Nat) (hl : left ≤ 1048576) (hm : item.size ≤ maxLen) (h : ¬ item.size ≤ left) (w : World) : Calls Try.prog 80 #[.agg #[.string item, .int .i64 qty, .bool saved], .int .i64 (left : Int)] w fun e w' => e = .returned (.int .i64 (-1)) ∧ Below w.heap.size w w' := by
  unfold maxLen at hm
  have hd : decide ((left : Int) - (item.size : Int) < 0) = true := decide_eq_true (by omega)
  go_enter Try.func80, Try.ntmps80
  go_wp2
  go_ret
  exact ⟨rfl, (Below.refl _ _).alloc (Nat.le_refl _) _⟩
set_option maxRecDepth 100000 in
theorem toLnE (item : ByteArray) (qty : Int) (saved : Bool) (w : World) : Calls Try.prog 88 #[.agg #[.string item, .int .i64 qty, .bool saved]] w fun e w' => e = .returned (.agg #[.string item, .int .i64 qty, .bool saved]) ∧ Below w.heap.size w w' := by
  go_enter Try.func88, Try.ntmps88
  go_wp2
  refine bodyPost_ret (v := .agg #[.string item, .int .i64 qty, .bool saved]) (by simp [results, Try.results88, go_sem]) rfl ⟨rfl, ?_⟩
  go_grown
def SzLnPost (t left : Nat) (w : World) (e : Ending) (w' : World) : Prop := e = .returned (.int .i64 (if t ≤ left then ((left - t : Nat) : Int) else -1)) ∧ Below w.heap.size w w'
set_option maxRecDepth 100000 in
set_option maxHeartbeats 1000000 in
theorem szLns (w : World) (B : Nat) (a : Option Addr) (n cap : Nat) (l : List LnV) (h : Lns w B a n l) (hB : B ≤ w.heap.size) (hn : n ≤ maxLen) (hm : ∀ i, i < n → (l.getD i LnV.zero).item.size ≤ maxLen) (left : Nat) (hl : left ≤ 1048576) :
    Calls Try.prog 26 #[.slice a n cap, .int .i64 (left : Int)] w (SzLnPost (LnTotal l) left w) := by
  have hL := h.1
  have HT : Hid (LnTotal l = n + LnitemsTo l n) := by show LnTotal l = _; unfold LnTotal; rw [hL]
  have HLn := Lib.hid hL
  clear hL
  unfold maxLen at hn
  by_cases hbig : n ≤ left
  rotate_left
  · have HF : Hid (¬ LnTotal l ≤ left) := by have := HT.out; show ¬ _; omega
    have hd : decide ((left : Int) - (n : Int) < 0) = true := decide_eq_true (by omega)
    go_enter Try.func26, Try.ntmps26
    go_wp2
    go_ret
    exact ⟨by rw [if_neg HF.out]; rfl, Below.refl _ _⟩
  have hd : decide ((left : Int) - (n : Int) < 0) = false := decide_eq_false (by omega)
  have H := Lib.hid h
  have HM := Lib.hid hm
  clear h hm
  go_enter Try.func26, Try.ntmps26
  go_wp2
  go_loopw [1, 5] (fun m i wr => ∃ k q : Nat, k ≤ n ∧ i = .int .i64 k ∧ m = .int .i64 q ∧ Hid (q + n + LnitemsTo l k = left) ∧ Hid (Below w.heap.size w wr)) (fun _ i _ => n - (intOf i).toNat)
  case atStart => exact ⟨0, left - n, Nat.zero_le _, rfl, by go_num, (by show _ = _; simp [LnitemsTo]; omega), Below.refl _ _⟩
  case round =>
    obtain ⟨k, q, hk, rfl, rfl, HQ, HB⟩ := hrel
    have hq : q ≤ 1048576 := by have := HQ.out; omega
    clear hd
    by_cases hlt : k < n
    · obtain ⟨b, off, rfl, hb, ho⟩ := H.out.2 k hlt
      have hio := HM.out k hlt
      have HI := Lib.hid (LnitemsTo_step (l := l) (k := k) (by rw [HLn.out]; exact hlt))
      have HLe := Lib.hid (LnitemsTo_le l (k + 1) n hlt (by rw [HLn.out]; exact Nat.le_refl _))
      obtain ⟨c0, c1, c2⟩ := ho.kept (HB.out.block b (by omega))
      clear ho
      generalize l.getD k LnV.zero = o at hio HI c0 c1 c2
      by_cases hfit : o.item.size ≤ q
      · have hl2 : decide (((q - o.item.size : Nat) : Int) < 0) = false := decide_eq_false (by omega)
        go_wp2_with fail
        refine (szLnYes o.item o.qty o.saved q hq hfit _).mono ?_
        rintro e w1 ⟨rfl, hb1⟩
        have HB1 := Lib.hid (HB.out.trans (hb1.mono HB.out.size))
        clear hb1 c0 c1 c2
        go_wp2
        go_roundw
        case rel => exact ⟨k + 1, q - o.item.size, by omega, by go_num, rfl, (by have := HQ.out; have := HI.out; show _ = _; omega), HB1⟩
        case measure => simp [intOf]; omega
      · have HF : Hid (¬ LnTotal l ≤ left) := by have := HT.out; have := HQ.out; have := HI.out; have := HLe.out; show ¬ _; omega
        go_wp2_with fail
        refine (szLnNo o.item o.qty o.saved q hq hio hfit _).mono ?_
        rintro e w1 ⟨rfl, hb1⟩
        have HB1 := Lib.hid (HB.out.trans (hb1.mono HB.out.size))
        clear hb1 c0 c1 c2
        go_wp2
        go_ret
        exact ⟨by rw [if_neg HF.out]; rfl, HB1.out⟩
    · obtain rfl : k = n := by omega
      have HF : Hid (LnTotal l ≤ left ∧ left - LnTotal l = q) := by have := HT.out; have := HQ.out; exact ⟨by omega, by omega⟩
      go_wp2
      go_ret
      exact ⟨by rw [if_pos HF.out.1, HF.out.2]; rfl, HB.out⟩
def Lnput (cs : Array Value) (off : Nat) (o : LnV) : Array Value := (((cs.setIfInBounds (off) (.string o.item)).setIfInBounds (off + 1) (.int .i64 o.qty)).setIfInBounds (off + 2) (.bool o.saved))
theorem Lnput_size (cs : Array Value) (off : Nat) (o : LnV) : (Lnput cs off o).size = cs.size := by
  unfold Lnput
  simp only [Array.size_setIfInBounds]
theorem Lnput_far (cs : Array Value) (off m : Nat) (o : LnV) (h : m < off ∨ off + 3 ≤ m) : (Lnput cs off o)[m]? = cs[m]? := by
  unfold Lnput
  rw [Array.getElem?_setIfInBounds_ne (by omega), Array.getElem?_setIfInBounds_ne (by omega), Array.getElem?_setIfInBounds_ne (by omega)]

theorem Lnput_0 (cs : Array Value) (off : Nat) (o : LnV) (h : off + 3 ≤ cs.size) : (Lnput cs off o)[off]? = some (.string o.item) := by
  unfold Lnput
  rw [Array.getElem?_setIfInBounds_ne (by omega), Array.getElem?_setIfInBounds_ne (by omega), Array.getElem?_setIfInBounds_self_of_lt (by (try simp only [Array.size_setIfInBounds]); omega)]
theorem Lnput_1 (cs : Array Value) (off : Nat) (o : LnV) (h : off + 3 ≤ cs.size) : (Lnput cs off o)[off + 1]? = some (.int .i64 o.qty) := by
  unfold Lnput
  rw [Array.getElem?_setIfInBounds_ne (by omega), Array.getElem?_setIfInBounds_self_of_lt (by (try simp only [Array.size_setIfInBounds]); omega)]
theorem Lnput_2 (cs : Array Value) (off : Nat) (o : LnV) (h : off + 3 ≤ cs.size) : (Lnput cs off o)[off + 2]? = some (.bool o.saved) := by
  unfold Lnput
  rw [Array.getElem?_setIfInBounds_self_of_lt (by (try simp only [Array.size_setIfInBounds]); omega)]
theorem Try.infoLn : (Try.prog.info? 117).map (fun i => (i.zero, i.size, i.bytes)) = some (some (.agg #[.string ⟨#[]⟩, .int .i64 0, .bool false]), 3, 32) := by kernel_rfl
/-- Block g holds n elements, of which the first k are l's. -/
def PartLn (w wr : World) (g n : Nat) (l : List LnV) (k : Nat) : Prop :=
  Below w.heap.size w wr ∧ ∃ cs : Array Value, wr.heap[g]? = some (.cells cs 117 (0, 0)) ∧ cs.size = n * 3 ∧ ∀ i, i < k → cs[i * 3]? = some (.string (l.getD i LnV.zero).item) ∧ cs[i * 3 + 1]? = some (.int .i64 (l.getD i LnV.zero).qty) ∧ cs[i * 3 + 2]? = some (.bool (l.getD i LnV.zero).saved)
theorem PartLn.next {w wr w1 : World} {g n : Nat} {l : List LnV} {k : Nat} (h : PartLn w wr g n l k) (hb : Below wr.heap.size wr w1) : PartLn w w1 g n l k := by
  obtain ⟨h1, cs, hg, hs, hc⟩ := h
  exact ⟨h1.trans (hb.mono h1.size), cs, (hb.block _ (Array.getElem?_eq_some_iff.1 hg).1).trans hg, hs, hc⟩

def LnsetAt (w : World) (b off : Nat) (o : LnV) : World := (((w.setCell ⟨b, off, none⟩ (.string o.item)).setCell ⟨b, off + 1, none⟩ (.int .i64 o.qty)).setCell ⟨b, off + 2, none⟩ (.bool o.saved))
theorem LnsetAt_same {w : World} {b off : Nat} {cs : Array Value} {T : TypeId} (o : LnV) (h : w.heap[b]? = some (.cells cs T (0, 0))) : (LnsetAt w b off o).heap[b]? = some (.cells (Lnput cs off o) T (0, 0)) := by
  have h0 : (w.setCell ⟨b, off, none⟩ (.string o.item)).heap[b]? = some (.cells (cs.setIfInBounds (off) (.string o.item)) T (0, 0)) := heap_setCell_same _ _ _ _ _ _ h
  have h1 : ((w.setCell ⟨b, off, none⟩ (.string o.item)).setCell ⟨b, off + 1, none⟩ (.int .i64 o.qty)).heap[b]? = some (.cells ((cs.setIfInBounds (off) (.string o.item)).setIfInBounds (off + 1) (.int .i64 o.qty)) T (0, 0)) := heap_setCell_same _ _ _ _ _ _ h0
  have h2 : (((w.setCell ⟨b, off, none⟩ (.string o.item)).setCell ⟨b, off + 1, none⟩ (.int .i64 o.qty)).setCell ⟨b, off + 2, none⟩ (.bool o.saved)).heap[b]? = some (.cells (((cs.setIfInBounds (off) (.string o.item)).setIfInBounds (off + 1) (.int .i64 o.qty)).setIfInBounds (off + 2) (.bool o.saved)) T (0, 0)) := heap_setCell_same _ _ _ _ _ _ h1
  exact h2
theorem LnsetAt_other {w : World} {b off k : Nat} (o : LnV) (h : k ≠ b) : (LnsetAt w b off o).heap[k]? = w.heap[k]? := by
  unfold LnsetAt
  rw [heap_setCell_other _ _ _ _ h, heap_setCell_other _ _ _ _ h, heap_setCell_other _ _ _ _ h]
theorem LnsetAt_below {B : Nat} {w0 w : World} {b off : Nat} (o : LnV) (h : Below B w0 w) (hb : B ≤ b) : Below B w0 (LnsetAt w b off o) :=
  (((h.setCell (p := ⟨b, off, none⟩) hb _).setCell (p := ⟨b, off + 1, none⟩) hb _).setCell (p := ⟨b, off + 2, none⟩) hb _)
theorem PartLn.step {w wr : World} {g n : Nat} {l : List LnV} {k : Nat} (h : PartLn w wr g n l k) (hg0 : w.heap.size ≤ g) (hk : k < n) : PartLn w (LnsetAt wr g (k * 3) (l.getD k LnV.zero)) g n l (k + 1) := by
  obtain ⟨h1, cs, hg, hs, hc⟩ := h
  refine ⟨LnsetAt_below _ h1 hg0, Lnput cs (k * 3) (l.getD k LnV.zero), LnsetAt_same _ hg, by rw [Lnput_size]; exact hs, fun i hi => ?_⟩
  rcases Nat.lt_or_ge i k with hlt | hge
  · obtain ⟨d0, d1, d2⟩ := hc i hlt
    refine ⟨by rw [Lnput_far _ _ _ _ (by omega)]; exact d0, by rw [Lnput_far _ _ _ _ (by omega)]; exact d1, by rw [Lnput_far _ _ _ _ (by omega)]; exact d2⟩
  · obtain rfl : i = k := by omega
    exact ⟨Lnput_0 _ _ _ (by omega), Lnput_1 _ _ _ (by omega), Lnput_2 _ _ _ (by omega)⟩
theorem PartLn.cells {w wr : World} {g n : Nat} {l : List LnV} {k : Nat} (h : PartLn w wr g n l k) (hk : k < n) : ∃ v0 v1 v2, wr.cell? ⟨g, k * 3, none⟩ = some v0 ∧ wr.cell? ⟨g, k * 3 + 1, none⟩ = some v1 ∧ wr.cell? ⟨g, k * 3 + 2, none⟩ = some v2 := by
  obtain ⟨h1, cs, hg, hs, hc⟩ := h
  have e : ∀ m, m < cs.size → wr.cell? ⟨g, m, none⟩ = some (cs.getD m undef) := fun m hm => by
    rw [cell_of_row _ _ _ _ _ _ hg, Array.getElem?_eq_getElem hm]
    simp [Array.getD, hm]
  exact ⟨_, _, _, e _ (by omega), e _ (by omega), e _ (by omega)⟩
theorem PartLn.frozen {w wr : World} {g n : Nat} {l : List LnV} {k : Nat} (h : PartLn w wr g n l k) (m : Nat) : wr.frozen? ⟨g, m, none⟩ = false := by
  obtain ⟨h1, cs, hg, hs, hc⟩ := h
  exact frozen_of_row _ _ _ _ _ hg
theorem PartLn.done {w wr : World} {g n : Nat} {l : List LnV} (h : PartLn w wr g n l n) (hl : l.length = n) {B : Nat} (hB : g < B) : Lns wr B (some ⟨g, 0, none⟩) n l := by
  obtain ⟨h1, cs, hg, hs, hc⟩ := h
  refine ⟨hl, fun i hi => ⟨g, 0, rfl, hB, ?_⟩⟩
  obtain ⟨d0, d1, d2⟩ := hc i hi
  rw [Nat.zero_add]
  exact ⟨(cell_of_row _ _ _ _ _ _ hg).trans d0, (cell_of_row _ _ _ _ _ _ hg).trans d1, (cell_of_row _ _ _ _ _ _ hg).trans d2⟩

/-- What a call leaves that hands back a new slice of them: its block is new. -/
def FreshLn (l : List LnV) (w : World) (e : Ending) (w' : World) : Prop :=
  e = .returned (.slice (some ⟨w.heap.size, 0, none⟩) l.length l.length) ∧ Lns w' w'.heap.size (some ⟨w.heap.size, 0, none⟩) l.length l ∧ w.heap.size < w'.heap.size ∧ Below w.heap.size w w'
set_option maxRecDepth 100000 in
set_option maxHeartbeats 1000000 in
theorem toLns (w : World) (B : Nat) (a : Option Addr) (n cap : Nat) (l : List LnV) (h : Lns w B a n l) (hB : B ≤ w.heap.size) (hl : n ≤ 1048576) :
    Calls Try.prog 30 #[.slice a n cap] w (FreshLn l w) := by
  obtain ⟨i0, hi, hz0, hz1, hz2⟩ := info_parts Try.infoLn
  obtain ⟨M, hM⟩ : ∃ M, M = madeCells (Value.agg #[.string ⟨#[]⟩, .int .i64 0, .bool false]).cells (((n : Nat) : Int).toNat * i0.size) := ⟨_, rfl⟩
  have hMs : M.size = n * 3 := by rw [hM, size_madeCells, hz1]; simp
  have hmk : ∀ W : World, (Instr.makeSlice 51 (.int .i64 (n : Int)) (.int .i64 (n : Int))).run Try.prog W = .ok (.slice (some ⟨W.heap.size, 0, none⟩) n n) (W.alloc (.cells M 117)) := fun W => by
    have h := run_make (P := Try.prog) W 51 117 i0 (.agg #[.string ⟨#[]⟩, .int .i64 0, .bool false]) Try.underlying51 hi hz0 .i64 .i64 (n : Int) (n : Int) (by omega) (by omega) (by rw [hz2]; omega) (by omega)
    rw [← hM] at h
    simpa using h
  have hL := Lib.hid h.1
  have H := Lib.hid h
  have HM := Lib.hid hMs
  clear hM h hMs hi hz0 hz1 hz2
  go_enter Try.func30, Try.ntmps30
  go_wp2
  go_loopw [4] (fun i wr => ∃ k : Nat, k ≤ n ∧ i = .int .i64 k ∧ Hid (PartLn w wr w.heap.size n l k) ∧ Hid (w.heap.size < wr.heap.size)) (fun i _ => n - (intOf i).toNat)
  case atStart => exact ⟨0, Nat.zero_le _, rfl, ⟨(Below.refl _ _).alloc (Nat.le_refl _) _, M, heap_alloc_new _ _, HM.out, fun j hj => by omega⟩, (by show _ < (w.heap.push _).size; simp)⟩
  case round =>
    obtain ⟨k, hk, rfl, HP, HW⟩ := hrel
    by_cases hlt : k < n
    · obtain ⟨b, off, rfl, hb, ho⟩ := H.out.2 k hlt
      obtain ⟨c0, c1, c2⟩ := ho.kept (HP.out.1.block b (by omega))
      clear ho
      generalize ho' : l.getD k LnV.zero = x at c0 c1 c2
      have HXo := Lib.hid ho'
      clear ho'
      go_wp2_with fail
      refine (toLnE x.item x.qty x.saved _).mono ?_
      rintro e w1 ⟨rfl, hb1⟩
      clear c0 c1 c2
      have HP1 := Lib.hid (HP.out.next hb1)
      have hw1 : w.heap.size < w1.heap.size := by have := HW.out; have := hb1.size; omega
      have HS : Hid (PartLn w (LnsetAt w1 w.heap.size (k * 3) x) w.heap.size n l (k + 1)) := by have := HP1.out.step (Nat.le_refl _) hlt; rw [HXo.out] at this; exact this
      obtain ⟨v0, v1, v2, d0, d1, d2⟩ := HP1.out.cells hlt
      have f0 := HP1.out.frozen (k * 3)
      have f1 := HP1.out.frozen (k * 3 + 1)
      have f2 := HP1.out.frozen (k * 3 + 2)
      have hsz : (LnsetAt w1 w.heap.size (k * 3) x).heap.size = w1.heap.size := by unfold LnsetAt; simp [World.setCell]
      clear hb1 HP HP1 HW
      go_wp2
      go_roundw
      case rel => exact ⟨k + 1, by omega, by go_num, HS, (by show _ < (LnsetAt w1 w.heap.size (k * 3) x).heap.size; rw [hsz]; exact hw1)⟩
      case measure => simp [intOf]; omega
    · obtain rfl : k = n := by omega
      have HD := Lib.hid (HP.out.done hL.out HW.out)
      go_wp2
      go_ret
      exact ⟨by rw [hL.out]; rfl, by rw [hL.out]; exact HD.out, HW.out, HP.out.1⟩
end Go.Proofs.Ytdbdmfaphdjdpaa
