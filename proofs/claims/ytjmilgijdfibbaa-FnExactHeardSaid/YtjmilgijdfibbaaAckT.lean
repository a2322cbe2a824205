/- The walks of laws.eqInt64SS, markInt64SS, heldInt64SS, and of szAcks, toAcks, eqAcks, markAcks, heldAcks; of spec.AcksOk. -/
import Derived.Test.YtjmilgijdfibbaaAckS
namespace Go.Proofs.Ytjmilgijdfibbaa
open Go.RowKit
set_option linter.unusedVariables false
set_option linter.unusedSimpArgs false

set_option maxRecDepth 100000 in
set_option maxHeartbeats 2000000 in
theorem eqRows (w : World) (B B' : Nat) (a a' : Option Addr) (n cap cap' : Nat) (l : List (List Int)) (h : IRows w B a n l) (h' : IRows w B' a' n l) (hB : B ≤ w.heap.size) (hB' : B' ≤ w.heap.size) (hn : n ≤ 1048576) (hr : ∀ i, i < n → (rowOf l i).length ≤ 1048576) :
    Calls Try.prog 80 #[.slice a n cap, .slice a' n cap'] w fun e w' => e = .returned (.bool true) ∧ Below w.heap.size w w' := by
  have H := Lib.hid h
  have H' := Lib.hid h'
  have HR := Lib.hid hr
  clear h h' hr
  go_enter Try.func80, Try.ntmps80
  go_wp2
  go_loopw [5] (fun i wr => ∃ k : Nat, k ≤ n ∧ i = .int .i64 k ∧ Hid (Below w.heap.size w wr)) (fun i _ => n - (intOf i).toNat)
  case atStart => exact ⟨0, Nat.zero_le _, rfl, Below.refl _ _⟩
  case round =>
    obtain ⟨k, hk, rfl, HB⟩ := hrel
    by_cases hlt : k < n
    · obtain ⟨b, off, ai, ci, rfl, hb, hc, hx⟩ := H.out.2 k hlt
      obtain ⟨b', off', ai', ci', rfl, hb', hc', hx'⟩ := H'.out.2 k hlt
      have hro := HR.out k hlt
      have c0 : wr.drew.cell? ⟨b, off + k, none⟩ = some (.slice ai (rowOf l k).length ci) := (World.cell?_of_block (a := ⟨b, off + k, none⟩) (HB.out.block b (by omega))).trans hc
      have d0 : wr.drew.cell? ⟨b', off' + k, none⟩ = some (.slice ai' (rowOf l k).length ci') := (World.cell?_of_block (a := ⟨b', off' + k, none⟩) (HB.out.block b' (by omega))).trans hc'
      have HX : Hid (Ints wr.drew B ai (rowOf l k).length (rowOf l k)) := hx.kept fun j hj => HB.out.block j (by omega)
      have HX' : Hid (Ints wr.drew B' ai' (rowOf l k).length (rowOf l k)) := hx'.kept fun j hj => HB.out.block j (by omega)
      clear hc hc' hx hx'
      generalize rowOf l k = xs at c0 d0 HX HX' hro
      have hS0 : wr.drew.cell? ⟨b, off + k, none⟩ = some (.slice ai xs.length ci) ∧ wr.drew.cell? ⟨b', off' + k, none⟩ = some (.slice ai' xs.length ci') := ⟨c0, d0⟩
      clear c0 d0
      have hk0 : (0 : Int) ≤ (k : Int) := by omega
      have hk1 : (k : Int) < (n : Int) := by omega
      go_wp2_with fail
      go_region_held3 (fun w' => w'.cell? ⟨b, off + k, none⟩ = some (.slice ai xs.length ci) ∧ w'.cell? ⟨b', off' + k, none⟩ = some (.slice ai' xs.length ci')) (first | with_reducible exact hS0 | with_reducible exact hS1)
        (first | (go_at_call 46; refine (eqInts wr.drew _ _ _ _ _ _ _ _ xs xs HX.out HX'.out hro hro).mono ?_; rintro e w1 ⟨rfl, hs1⟩; rw [decide_eq_true rfl]; have hS1 : w1.cell? ⟨b, off + k, none⟩ = some (.slice ai xs.length ci) ∧ w1.cell? ⟨b', off' + k, none⟩ = some (.slice ai' xs.length ci') := ⟨(World.cell?_of_block (a := ⟨b, off + k, none⟩) (hs1.block b)).trans hS0.1, (World.cell?_of_block (a := ⟨b', off' + k, none⟩) (hs1.block b')).trans hS0.2⟩))
      have hb1 := hs1.below wr.heap.size
      have HB1 := Lib.hid (HB.out.trans ((Below.mk hb1.os hb1.tape hb1.output hb1.size hb1.block : Below wr.heap.size wr w1).mono HB.out.size))
      clear hS0 hS1 hs1 hb1
      go_wp2
      go_roundw
      case rel => exact ⟨k + 1, by omega, by go_num, HB1⟩
      case measure => simp [intOf]; omega
    · go_wp2
      go_ret
      exact ⟨rfl, HB.out⟩

theorem one_cell {w : World} {g : Nat} {v : Value} {T : TypeId} (h : w.heap[g]? = some (.cells #[v] T (0, 0))) : w.cell? ⟨g, 0, none⟩ = some v := (cell_of_row _ _ 0 _ _ _ h).trans (by simp)
theorem cell_set1 {w : World} {g : Nat} {u : Value} {T : TypeId} (v : Value) (h : w.heap[g]? = some (.cells #[u] T (0, 0))) : (w.setCell ⟨g, 0, none⟩ v).cell? ⟨g, 0, none⟩ = some v := by
  have := heap_setCell_same _ _ 0 _ _ v h
  exact one_cell (by simpa using this)
theorem box_new {w w1 : World} {o : Obj} (hb : Below (w.alloc o).heap.size (w.alloc o) w1) : w1.heap[w.heap.size]? = some o := (hb.block _ (by simp)).trans (heap_alloc_new _ _)
set_option maxRecDepth 100000 in
theorem szAcks (w : World) (B : Nat) (a : Option Addr) (n cap : Nat) (l : List (List Int)) (h : IRows w B a n l) (hB : B ≤ w.heap.size) (hn : n ≤ maxLen) (hm : ∀ i, i < n → (rowOf l i).length ≤ maxLen) (left : Nat) (hl : left ≤ 1048576) :
    Calls Try.prog 39 #[.agg #[.slice a n cap], .int .i64 (left : Int)] w (SzRows (rowsTotal l) left w) := by
  have hb0 : Below w.heap.size w (w.alloc (.cells #[.slice a n cap] 58)) := (Below.refl _ w).alloc (Nat.le_refl _) _
  have H := Lib.hid (h.below hb0 hB)
  have HB := Lib.hid hb0
  have HM := Lib.hid hm
  have hsz : w.heap.size ≤ (w.alloc (.cells #[.slice a n cap] 58)).heap.size := hb0.size
  clear h hb0 hm
  go_enter Try.func39, Try.ntmps39
  go_wp2_with fail
  generalize w.alloc (.cells #[.slice a n cap] 58) = w0 at H HB hsz ⊢
  refine (szRows w0 B a n cap l H.out (by omega) hn HM.out left hl).mono ?_
  rintro e w1 ⟨rfl, hb1⟩
  have HB1 := Lib.hid (HB.out.trans (hb1.mono HB.out.size))
  clear hb1
  by_cases hfit : rowsTotal l ≤ left
  · have HF := Lib.hid hfit
    rw [if_pos hfit]
    have hd : decide (((left - rowsTotal l : Nat) : Int) < 0) = false := decide_eq_false (by omega)
    clear hfit
    go_wp2
    go_ret
    exact ⟨by rw [if_pos HF.out]; rfl, HB1.out⟩
  · have HF := Lib.hid hfit
    rw [if_neg hfit]
    clear hfit
    go_wp2
    go_ret
    exact ⟨by rw [if_neg HF.out]; rfl, HB1.out⟩
/-- What a call leaves that hands back a new table. -/
def FreshAcks (l : List (List Int)) (w : World) (e : Ending) (w' : World) : Prop :=
  ∃ g, e = .returned (.agg #[.slice (some ⟨g, 0, none⟩) l.length l.length]) ∧ (∃ f, RowsAt w' w.heap.size w'.heap.size g l.length f (rowOf l)) ∧ Below w.heap.size w w'
set_option maxRecDepth 100000 in
set_option maxHeartbeats 1000000 in
theorem toAcks (w : World) (B : Nat) (a : Option Addr) (n cap : Nat) (l : List (List Int)) (h : IRows w B a n l) (hB : B ≤ w.heap.size) (hl : n ≤ 1048576) (hr : ∀ i, i < n → (rowOf l i).length ≤ 1048576) :
    Calls Try.prog 41 #[.agg #[.slice a n cap]] w (FreshAcks l w) := by
  have hb0 : Below w.heap.size w (((w.alloc (.cells #[.slice a n cap] 58)).alloc (.cells #[.slice none 0 0] 53)).alloc (.cells #[.slice none 0 0] 53)) := (((Below.refl _ w).alloc (Nat.le_refl _) _).alloc (by show _ ≤ (w.heap.push _).size; simp) _).alloc (by show _ ≤ ((w.heap.push _).push _).size; simp; omega) _
  have H := Lib.hid (h.below hb0 hB)
  have HB := Lib.hid hb0
  have HR := Lib.hid hr
  have HX : Hid ((((w.alloc (.cells #[.slice a n cap] 58)).alloc (.cells #[.slice none 0 0] 53)).alloc (.cells #[.slice none 0 0] 53)).heap[w.heap.size + 1]? = some (.cells #[.slice none 0 0] 53 (0, 0))) := by
    show (((w.heap.push _).push _).push _)[_]? = _
    rw [Array.getElem?_push, if_neg (by simp), Array.getElem?_push, if_pos (by simp)]
  have HY : Hid ((((w.alloc (.cells #[.slice a n cap] 58)).alloc (.cells #[.slice none 0 0] 53)).alloc (.cells #[.slice none 0 0] 53)).heap[w.heap.size + 1 + 1]? = some (.cells #[.slice none 0 0] 53 (0, 0))) := by
    show (((w.heap.push _).push _).push _)[_]? = _
    rw [Array.getElem?_push, if_pos (by simp)]
  have HZ : Hid ((((w.alloc (.cells #[.slice a n cap] 58)).alloc (.cells #[.slice none 0 0] 53)).alloc (.cells #[.slice none 0 0] 53)).heap.size = w.heap.size + 3) := by
    show (((w.heap.push _).push _).push _).size = _
    simp
  clear h hb0 hr
  go_enter Try.func41, Try.ntmps41
  go_wp2_with fail
  generalize ((w.alloc (.cells #[.slice a n cap] 58)).alloc (.cells #[.slice none 0 0] 53)).alloc (.cells #[.slice none 0 0] 53) = w0 at H HB HX HY HZ ⊢
  have HL := Lib.hid H.out.1
  refine (toRows w0 B a n cap l H.out (by have := HZ.out; omega) hl HR.out).mono ?_
  rintro e w1 ⟨rfl, ⟨f, hf⟩, hb1⟩
  have hx1 := (hb1.block (w.heap.size + 1) (by have := HZ.out; omega)).trans HX.out
  have hy1 := (hb1.block (w.heap.size + 1 + 1) (by have := HZ.out; omega)).trans HY.out
  have c1 := one_cell hx1
  have c2 := one_cell hy1
  have f1 : w1.frozen? ⟨w.heap.size + 1, 0, none⟩ = false := frozen_of_row _ _ _ _ _ hx1
  have f2 : w1.frozen? ⟨w.heap.size + 1 + 1, 0, none⟩ = false := frozen_of_row _ _ _ _ _ hy1
  have HB1 := Lib.hid (HB.out.trans (hb1.mono HB.out.size))
  have HF : Hid (∀ v : Value, RowsAt ((w1.setCell ⟨w.heap.size + 1 + 1, 0, none⟩ v).setCell ⟨w.heap.size + 1, 0, none⟩ v) w.heap.size ((w1.setCell ⟨w.heap.size + 1 + 1, 0, none⟩ v).setCell ⟨w.heap.size + 1, 0, none⟩ v).heap.size w0.heap.size l.length f (rowOf l)) := fun v => by
    have hs : ((w1.setCell ⟨w.heap.size + 1 + 1, 0, none⟩ v).setCell ⟨w.heap.size + 1, 0, none⟩ v).heap.size = w1.heap.size := by simp [World.setCell]
    rw [hs]
    have hz := HZ.out
    exact (hf.kept (w' := (w1.setCell ⟨w.heap.size + 1 + 1, 0, none⟩ v).setCell ⟨w.heap.size + 1, 0, none⟩ v) fun j q1 q2 => (heap_setCell_other _ _ _ _ (by show j ≠ w.heap.size + 1; omega)).trans (heap_setCell_other _ _ _ _ (by show j ≠ w.heap.size + 1 + 1; omega))).more (by omega) (Nat.le_refl _)
  have HB2 : Hid (∀ v : Value, Below w.heap.size w ((w1.setCell ⟨w.heap.size + 1 + 1, 0, none⟩ v).setCell ⟨w.heap.size + 1, 0, none⟩ v)) := fun v => (HB1.out.setCell (by show w.heap.size ≤ w.heap.size + 1 + 1; omega) _).setCell (by show w.heap.size ≤ w.heap.size + 1; omega) _
  have HE : Hid (∀ v : Value, ((w1.setCell ⟨w.heap.size + 1 + 1, 0, none⟩ v).setCell ⟨w.heap.size + 1, 0, none⟩ v).cell? ⟨w.heap.size + 1, 0, none⟩ = some v) := fun v => cell_set1 (u := .slice none 0 0) (T := 53) v ((heap_setCell_other _ _ _ _ (by show w.heap.size + 1 ≠ w.heap.size + 1 + 1; omega)).trans hx1)
  clear hf hb1 hx1 hy1 HX HY
  generalize w0.heap.size = g0 at HF ⊢
  go_wp2
  have d0 := HE.out (.slice (some ⟨g0, 0, none⟩) l.length l.length)
  have HF2 := Lib.hid (HF.out (.slice (some ⟨g0, 0, none⟩) l.length l.length))
  have HB3 := Lib.hid (HB2.out (.slice (some ⟨g0, 0, none⟩) l.length l.length))
  clear HE HF HB2 c1 c2 f1 f2
  generalize (w1.setCell ⟨w.heap.size + 1 + 1, 0, none⟩ (.slice (some ⟨g0, 0, none⟩) l.length l.length)).setCell ⟨w.heap.size + 1, 0, none⟩ (.slice (some ⟨g0, 0, none⟩) l.length l.length) = wf at d0 HF2 HB3 ⊢
  exact bodyPost_ret (v := .agg #[.slice (some ⟨g0, 0, none⟩) l.length l.length]) (by simp [results, Try.results41, go_sem, d0]) rfl ⟨g0, rfl, ⟨f, HF2.out⟩, HB3.out⟩
set_option maxRecDepth 100000 in
theorem eqAcks (w : World) (B B' : Nat) (a a' : Option Addr) (n cap cap' : Nat) (l : List (List Int)) (h : IRows w B a n l) (h' : IRows w B' a' n l) (hB : B ≤ w.heap.size) (hB' : B' ≤ w.heap.size) (hn : n ≤ 1048576) (hr : ∀ i, i < n → (rowOf l i).length ≤ 1048576) :
    Calls Try.prog 36 #[.agg #[.slice a n cap], .agg #[.slice a' n cap']] w fun e w' => e = .returned (.bool true) ∧ Below w.heap.size w w' := by
  have hb0 : Below w.heap.size w ((w.alloc (.cells #[.slice a n cap] 53)).alloc (.cells #[.slice a' n cap'] 53)) := ((Below.refl _ w).alloc (Nat.le_refl _) _).alloc (by show _ ≤ (w.heap.push _).size; simp) _
  have H := Lib.hid (h.below hb0 hB)
  have H' := Lib.hid (h'.below hb0 hB')
  have HB := Lib.hid hb0
  have HR := Lib.hid hr
  have hsz : w.heap.size ≤ ((w.alloc (.cells #[.slice a n cap] 53)).alloc (.cells #[.slice a' n cap'] 53)).heap.size := hb0.size
  clear h h' hb0 hr
  go_enter Try.func36, Try.ntmps36
  go_wp2_with fail
  generalize (w.alloc (.cells #[.slice a n cap] 53)).alloc (.cells #[.slice a' n cap'] 53) = w0 at H H' HB hsz ⊢
  refine (eqRows w0 B B' a a' n cap cap' l H.out H'.out (by omega) (by omega) hn HR.out).mono ?_
  rintro e w1 ⟨rfl, hb1⟩
  have HB1 := Lib.hid (HB.out.trans (hb1.mono HB.out.size))
  clear hb1
  go_wp2
  go_ret
  exact ⟨rfl, HB1.out⟩

/-- How many numbers stand in the first k rows. -/
def vsum (V : Nat → List Int) : Nat → Nat
  | 0 => 0
  | k + 1 => vsum V k + (V k).length
theorem vsum_le (V : Nat → List Int) {i n : Nat} (h : i ≤ n) : vsum V i ≤ vsum V n := by
  induction n with
  | zero => obtain rfl : i = 0 := by omega
            exact Nat.le_refl _
  | succ n ih =>
    rcases Nat.lt_or_ge i (n + 1) with h1 | h1
    · have := ih (by omega)
      show _ ≤ vsum V n + _
      omega
    · obtain rfl : i = n + 1 := by omega
      exact Nat.le_refl _
theorem isum_v (l : List (List Int)) : ∀ k, vsum (rowOf l) k = isum l k
  | 0 => rfl
  | k + 1 => by show vsum (rowOf l) k + _ = isum l k + _; rw [isum_v l k]
/-- The rows when the first j are marked, from k on. -/
def markV (V : Nat → List Int) (k j : Nat) : Nat → List Int := fun i => if i < j then marks (k + vsum V i) (V i).length else V i
theorem markV_zero (V : Nat → List Int) (k : Nat) : markV V k 0 = V := by funext i; unfold markV; rw [if_neg (by omega)]
theorem markV_step (V : Nat → List Int) (k j : Nat) : (fun i => if i = j then marks (k + vsum V j) (V j).length else markV V k j i) = markV V k (j + 1) := by
  funext i
  unfold markV
  by_cases e : i = j
  · subst e; rw [if_pos rfl, if_pos (by omega)]
  · rw [if_neg e]
    by_cases h : i < j
    · rw [if_pos h, if_pos (by omega)]
    · rw [if_neg h, if_neg (by omega)]
theorem markV_at (V : Nat → List Int) (k j : Nat) : markV V k j j = V j := by unfold markV; rw [if_neg (by omega)]
theorem markV_in (V : Nat → List Int) {k n i : Nat} (h : i < n) : markV V k n i = marks (k + vsum V i) (V i).length := by unfold markV; rw [if_pos h]
theorem RowsAt.open {w : World} {lo hi g n : Nat} {f : Nat → Nat} {V : Nat → List Int} (h : RowsAt w lo hi g n f V) {i : Nat} (hi' : i < n) :
    ∃ ai ci, w.cell? ⟨g, i, none⟩ = some (.slice ai (V i).length ci) ∧ Own w (f i) (f i + 1) ai (V i).length (V i) ∧ lo ≤ f i ∧ f i < hi ∧
      ∀ (w' : World) (xs : List Int), xs.length = (V i).length → Outside (f i) (f i + 1) w w' → Own w' (f i) (f i + 1) ai (V i).length xs → RowsAt w' lo hi g n f (fun j => if j = i then xs else V j) := by
  obtain ⟨⟨h1, h2, cs, hg, hc⟩, hf, hd⟩ := h
  obtain ⟨ai, ci, e, ho⟩ := hc i hi'
  refine ⟨ai, ci, (cell_of_row _ _ _ _ _ _ hg).trans e, ho, (hf i hi').1, (hf i hi').2.1, fun w' xs hxl hO hx => ⟨⟨h1, h2, cs, (hO.block g (by have := (hf i hi').2.2; omega)).trans hg, fun j hj => ?_⟩, hf, hd⟩⟩
  by_cases q : j = i
  · subst q
    simp only [if_pos]
    exact ⟨ai, ci, by rw [hxl]; exact e, by rw [hxl]; exact hx⟩
  · simp only [if_neg q]
    obtain ⟨aj, cj, ej, hoj⟩ := hc j hj
    have hne : f j ≠ f i := by
      rcases Nat.lt_or_gt_of_ne q with r | r
      · exact hd j i r hi'
      · exact fun s => hd i j r hj s.symm
    exact ⟨aj, cj, ej, hoj.kept fun q h1 h2 => hO.block q (by omega)⟩
/-- What marking leaves. -/
def MarkRows (V : Nat → List Int) (k n lo hi g : Nat) (f : Nat → Nat) (w : World) (e : Ending) (w' : World) : Prop :=
  e = .returned (.int .i64 ((k + vsum V n : Nat) : Int)) ∧ RowsAt w' lo hi g n f (markV V k n) ∧ Outside lo hi w w'
set_option maxRecDepth 100000 in
set_option maxHeartbeats 1000000 in
theorem markRows (w : World) (lo hi g n cap : Nat) (f : Nat → Nat) (V : Nat → List Int) (h : RowsAt w lo hi g n f V) (k : Nat) (hk : k ≤ 2000000) (hn : n ≤ 1048576) (hs : vsum V n ≤ 1048576) :
    Calls Try.prog 81 #[.slice (some ⟨g, 0, none⟩) n cap, .int .i64 (k : Int)] w (MarkRows V k n lo hi g f w) := by
  have H := Lib.hid h
  clear h
  go_enter Try.func81, Try.ntmps81
  go_wp2
  go_loopw [1, 5] (fun m i wr => ∃ j q : Nat, j ≤ n ∧ i = .int .i64 (j : Int) ∧ m = .int .i64 (q : Int) ∧ Hid (q = k + vsum V j) ∧ Hid (RowsAt wr lo hi g n f (markV V k j)) ∧ Hid (Outside lo hi w wr)) (fun _ i _ => n - (intOf i).toNat)
  case atStart => exact ⟨0, k, by omega, rfl, rfl, rfl, by rw [markV_zero]; exact H.out, ⟨rfl, rfl, rfl, rfl, fun _ _ => rfl⟩⟩
  case round =>
    obtain ⟨j, q, hj, rfl, rfl, HQ, HN, HO⟩ := hrel
    have HLe := Lib.hid (vsum_le V hj)
    have hq : q ≤ 3048576 := by have := HQ.out; have := HLe.out; omega
    by_cases hlt : j < n
    · obtain ⟨ai, ci, c0, ho, g1, g2, hput⟩ := HN.out.open hlt
      rw [markV_at] at c0 ho hput
      have hlen : (V j).length ≤ 1048576 := by
        have := vsum_le V (show j + 1 ≤ n from hlt)
        have e : vsum V (j + 1) = vsum V j + (V j).length := rfl
        omega
      have HP := Lib.hid hput
      have HV : Hid (vsum V (j + 1) = vsum V j + (V j).length) := rfl
      clear hput
      have hji : (j : Int) < (n : Int) := by omega
      go_wp2_with fail
      refine (mark wr _ _ ai _ ci _ ho q (by omega) hlen).mono ?_
      rintro e w1 ⟨⟨m, hm, rfl⟩, ho1, hO⟩
      have hN1 := HP.out w1 _ (marks_len _ _) hO ho1
      rw [HQ.out, markV_step] at hN1
      have HN1 := Lib.hid hN1
      have HO1 : Hid (Outside lo hi w w1) := ⟨hO.os.trans HO.out.os, hO.tape.trans HO.out.tape, hO.output.trans HO.out.output, hO.size.trans HO.out.size, fun r hr => (hO.block r (by omega)).trans (HO.out.block r hr)⟩
      have HM := Lib.hid hm
      clear c0 ho ho1 hO hN1 hm
      go_wp2
      go_roundw
      case rel => exact ⟨j + 1, m, by omega, by go_num, rfl, (by have := HQ.out; have := HM.out; have := HV.out; show m = k + vsum V (j + 1); omega), HN1, HO1⟩
      case measure => simp [intOf]; omega
    · obtain rfl : j = n := by omega
      go_wp2
      go_ret
      exact ⟨by rw [HQ.out]; rfl, HN.out, HO.out⟩
set_option maxRecDepth 100000 in
set_option maxHeartbeats 1000000 in
theorem heldRows (w : World) (lo hi g n cap : Nat) (f : Nat → Nat) (V : Nat → List Int) (k : Nat) (h : RowsAt w lo hi g n f (markV V k n)) (hk : k ≤ 2000000) (hn : n ≤ 1048576) (hs : vsum V n ≤ 1048576) :
    Calls Try.prog 82 #[.slice (some ⟨g, 0, none⟩) n cap, .int .i64 (k : Int)] w fun e w' => e = .returned (.int .i64 ((k + vsum V n : Nat) : Int)) ∧ w = w' := by
  have H := Lib.hid h
  clear h
  go_enter Try.func82, Try.ntmps82
  go_wp2
  go_loop [1, 5] (fun m i => ∃ j q : Nat, j ≤ n ∧ i = .int .i64 (j : Int) ∧ m = .int .i64 (q : Int) ∧ Hid (q = k + vsum V j)) (fun _ i => n - (intOf i).toNat)
  case atStart => exact ⟨0, k, by omega, rfl, rfl, rfl⟩
  case round =>
    obtain ⟨j, q, hj, rfl, rfl, HQ⟩ := hrel
    have HLe := Lib.hid (vsum_le V hj)
    have hq : q ≤ 3048576 := by have := HQ.out; have := HLe.out; omega
    by_cases hlt : j < n
    · obtain ⟨ai, ci, c0, ho, g1, g2, hput⟩ := H.out.open hlt
      rw [markV_in V hlt, marks_len] at c0
      rw [markV_in V hlt, marks_len] at ho
      have hlen : (V j).length ≤ 1048576 := by
        have := vsum_le V (show j + 1 ≤ n from hlt)
        have e : vsum V (j + 1) = vsum V j + (V j).length := rfl
        omega
      have HV : Hid (vsum V (j + 1) = vsum V j + (V j).length) := rfl
      have hI := ho.ints
      rw [← HQ.out] at hI
      clear hput ho
      have hji : (j : Int) < (n : Int) := by omega
      have hd : decide (((q + (V j).length : Nat) : Int) < 0) = false := decide_eq_false (by omega)
      go_wp2_with fail
      refine (held w _ ai _ ci q hI (by omega) hlen).mono ?_
      rintro e w1 ⟨rfl, rfl⟩
      go_wp2
      go_round
      case rel => exact ⟨j + 1, q + (V j).length, by omega, by go_num, rfl, (by have := HQ.out; have := HV.out; show q + (V j).length = k + vsum V (j + 1); omega)⟩
      case measure => simp [intOf]; omega
    · obtain rfl : j = n := by omega
      go_wp2
      go_ret
      exact ⟨by rw [HQ.out]; rfl, rfl⟩
/-- Of the blocks that were there none has turned but those from lo up to hi. -/
structure BesideA (lo hi : Nat) (w w' : World) : Prop where
  os : w'.os = w.os
  tape : w'.tape = w.tape
  output : w'.output = w.output
  size : w.heap.size ≤ w'.heap.size
  block : ∀ j, j < w.heap.size → j < lo ∨ hi ≤ j → w'.heap[j]? = w.heap[j]?
theorem BesideA.below {lo hi B : Nat} {w w' : World} (h : BesideA lo hi w w') (hB : B ≤ lo) (hw : B ≤ w.heap.size) : Below B w w' := ⟨h.os, h.tape, h.output, h.size, fun k hk => h.block k (by omega) (.inl (by omega))⟩
set_option maxRecDepth 100000 in
theorem markAcks (w : World) (lo hi g n cap : Nat) (f : Nat → Nat) (V : Nat → List Int) (h : RowsAt w lo hi g n f V) (hh : hi ≤ w.heap.size) (k : Nat) (hk : k ≤ 2000000) (hn : n ≤ 1048576) (hs : vsum V n ≤ 1048576) :
    Calls Try.prog 37 #[.agg #[.slice (some ⟨g, 0, none⟩) n cap], .int .i64 (k : Int)] w fun e w' => e = .returned (.int .i64 ((k + vsum V n : Nat) : Int)) ∧ RowsAt w' lo hi g n f (markV V k n) ∧ BesideA lo hi w w' := by
  have hb0 : Below w.heap.size w (w.alloc (.cells #[.slice (some ⟨g, 0, none⟩) n cap] 53)) := (Below.refl _ w).alloc (Nat.le_refl _) _
  have H := Lib.hid (h.below hb0 hh)
  have HB := Lib.hid hb0
  clear h hb0
  go_enter Try.func37, Try.ntmps37
  go_wp2_with fail
  generalize w.alloc (.cells #[.slice (some ⟨g, 0, none⟩) n cap] 53) = w0 at H HB ⊢
  refine (markRows w0 lo hi g n cap f V H.out k hk hn hs).mono ?_
  rintro e w1 ⟨rfl, hr, ho⟩
  have HR := Lib.hid hr
  have HO : Hid (BesideA lo hi w w1) := ⟨ho.os.trans HB.out.os, ho.tape.trans HB.out.tape, ho.output.trans HB.out.output, by rw [ho.size]; exact HB.out.size, fun j h1 h2 => (ho.block j h2).trans (HB.out.block j h1)⟩
  clear hr ho
  go_wp2
  go_ret
  exact ⟨rfl, HR.out, HO.out⟩
set_option maxRecDepth 100000 in
theorem heldAcks (w : World) (lo hi g n cap : Nat) (f : Nat → Nat) (V : Nat → List Int) (k : Nat) (h : RowsAt w lo hi g n f (markV V k n)) (hh : hi ≤ w.heap.size) (hk : k ≤ 2000000) (hn : n ≤ 1048576) (hs : vsum V n ≤ 1048576) :
    Calls Try.prog 38 #[.agg #[.slice (some ⟨g, 0, none⟩) n cap], .int .i64 (k : Int)] w fun e w' => e = .returned (.int .i64 ((k + vsum V n : Nat) : Int)) ∧ Below w.heap.size w w' := by
  have hb0 : Below w.heap.size w (w.alloc (.cells #[.slice (some ⟨g, 0, none⟩) n cap] 53)) := (Below.refl _ w).alloc (Nat.le_refl _) _
  have H := Lib.hid (h.below hb0 hh)
  have HB := Lib.hid hb0
  have hd : decide (((k + vsum V n : Nat) : Int) < 0) = false := decide_eq_false (by omega)
  clear h hb0
  go_enter Try.func38, Try.ntmps38
  go_wp2_with fail
  generalize w.alloc (.cells #[.slice (some ⟨g, 0, none⟩) n cap] 53) = w0 at H HB ⊢
  refine (heldRows w0 lo hi g n cap f V k H.out hk hn hs).mono ?_
  rintro e w1 ⟨rfl, rfl⟩
  obtain ⟨s, hse⟩ : ∃ s, s = k + vsum V n := ⟨_, rfl⟩
  rw [← hse] at hd ⊢
  have HS := Lib.hid hse
  clear hse
  go_wp2
  go_ret
  exact ⟨by rw [← HS.out]; rfl, HB.out⟩
set_option maxRecDepth 100000 in
set_option maxHeartbeats 1000000 in
theorem specAcksOk (w : World) (B : Nat) (a : Option Addr) (n cap : Nat) (l : List (List Int)) (h : IRows w B a n l) (hB : B ≤ w.heap.size) (hn : n ≤ 1048576) (hr : ∀ i, i < n → (rowOf l i).length ≤ 1048576) :
    Calls Try.prog 40 #[.agg #[.slice a n cap]] w fun e w' => e = .returned (.bool (ackOk l)) ∧ Below w.heap.size w w' := by
  have hb0 : Below w.heap.size w (w.alloc (.cells #[.slice a n cap] 53)) := (Below.refl _ w).alloc (Nat.le_refl _) _
  have H := Lib.hid (h.below hb0 hB)
  have HB := Lib.hid hb0
  have HR := Lib.hid hr
  have HL := Lib.hid h.1
  have cb := one_cell (heap_alloc_new w (.cells #[.slice a n cap] 53))
  clear h hb0 hr
  go_enter Try.func40, Try.ntmps40
  go_wp2
  generalize w.alloc (.cells #[.slice a n cap] 53) = w0 at H HB cb ⊢
  go_loop [3] (fun i => ∃ k : Nat, k ≤ n ∧ i = .int .i64 (k : Int) ∧ Hid ((l.take k).all vecOk = true)) (fun i => n - (intOf i).toNat)
  case atStart => exact ⟨0, Nat.zero_le _, rfl, rfl⟩
  case round =>
    obtain ⟨k, hk, rfl, HA⟩ := hrel
    by_cases hlt : k < n
    · obtain ⟨b, off, ai, ci, rfl, hb, hc, hx⟩ := H.out.2 k hlt
      have hro := HR.out k hlt
      have hkl : k < l.length := by rw [HL.out]; exact hlt
      have HS := Lib.hid (fun h => ack_step hkl HA.out h)
      have HT := Lib.hid (fun h => ack_stop (l := l) hkl h)
      clear hkl
      generalize rowOf l k = xs at hc hx hro HS HT
      go_wp2_with fail
      refine (specVecOk w0 B ai _ ci xs hx hro).mono ?_
      rintro e w1 ⟨rfl, rfl⟩
      rcases hv : vecOk xs with _ | _
      · have HF := Lib.hid (HT.out hv)
        clear hv
        go_wp2
        go_ret
        exact ⟨ret_bool HF.out.symm, HB.out⟩
      · have HF := Lib.hid (HS.out hv)
        clear hv
        go_wp2
        go_round
        case rel => exact ⟨k + 1, by omega, by go_num, HF⟩
        case measure => simp [intOf]; omega
    · have HV : Hid (ackOk l = decide (l.length = 4)) := ack_end (by rw [HL.out]; exact hlt) HA.out
      go_wp2
      go_ret
      refine ⟨ret_bool ?_, HB.out⟩
      rw [HV.out, HL.out, Bool.eq_iff_iff]
      simp
      omega
end Go.Proofs.Ytjmilgijdfibbaa
