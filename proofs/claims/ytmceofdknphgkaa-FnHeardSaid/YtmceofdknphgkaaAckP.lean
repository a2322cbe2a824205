/- Tables as four pointers to rows: the walks of impl.ackRowsOf, impl.AcksNew and impl.AcksOk. -/
import Derived.Test.YtmceofdknphgkaaAckI
namespace Go.Proofs.Ytmceofdknphgkaa
open Go.RowKit
set_option linter.unusedVariables false
set_option linter.unusedSimpArgs false

theorem quad {w : World} {g : Nat} {T : TypeId} {a b c d : Value} (h : w.heap[g]? = some (.cells #[a, b, c, d] T (0, 0))) :
    (w.cell? ⟨g, 0, none⟩ = some a ∧ w.cell? ⟨g, 1, none⟩ = some b ∧ w.cell? ⟨g, 2, none⟩ = some c ∧ w.cell? ⟨g, 3, none⟩ = some d) ∧ ∀ i, w.frozen? ⟨g, i, none⟩ = false :=
  ⟨⟨(cell_of_row _ _ _ _ _ _ h).trans rfl, (cell_of_row _ _ _ _ _ _ h).trans rfl, (cell_of_row _ _ _ _ _ _ h).trans rfl, (cell_of_row _ _ _ _ _ _ h).trans rfl⟩, fun i => frozen_of_row _ _ _ _ _ h⟩
def quadSet (w : World) (g : Nat) (a b c d : Value) : World := (((w.setCell ⟨g, 0, none⟩ a).setCell ⟨g, 1, none⟩ b).setCell ⟨g, 2, none⟩ c).setCell ⟨g, 3, none⟩ d
theorem quadSet_same {w : World} {g : Nat} {T : TypeId} {a b c d : Value} (x y z u : Value) (h : w.heap[g]? = some (.cells #[a, b, c, d] T (0, 0))) : (quadSet w g x y z u).heap[g]? = some (.cells #[x, y, z, u] T (0, 0)) := by
  have h0 := heap_setCell_same _ _ 0 _ _ x h
  have h1 := heap_setCell_same _ _ 1 _ _ y h0
  have h2 := heap_setCell_same _ _ 2 _ _ z h1
  have h3 := heap_setCell_same _ _ 3 _ _ u h2
  exact h3
theorem quadSet_other {w : World} {g k : Nat} (x y z u : Value) (h : k ≠ g) : (quadSet w g x y z u).heap[k]? = w.heap[k]? :=
  (heap_setCell_other _ _ _ _ h).trans ((heap_setCell_other _ _ _ _ h).trans ((heap_setCell_other _ _ _ _ h).trans (heap_setCell_other _ _ _ _ h)))
theorem quadSet_size (w : World) (g : Nat) (x y z u : Value) : (quadSet w g x y z u).heap.size = w.heap.size := by simp [quadSet, World.setCell]
theorem quadSet_below {B : Nat} {w0 w : World} {g : Nat} (x y z u : Value) (h : Below B w0 w) (hg : B ≤ g) : Below B w0 (quadSet w g x y z u) :=
  (((h.setCell (p := ⟨g, 0, none⟩) hg _).setCell (p := ⟨g, 1, none⟩) hg _).setCell (p := ⟨g, 2, none⟩) hg _).setCell (p := ⟨g, 3, none⟩) hg _

def pv (f : Nat → Nat) (k i : Nat) : Value := if i < k then .pointer (some ⟨f i, 0, none⟩) else .pointer none
def ptrCells (f : Nat → Nat) (k : Nat) : Array Value := #[pv f k 0, pv f k 1, pv f k 2, pv f k 3]
theorem ptrCells_full (f : Nat → Nat) : ptrCells f 4 = #[.pointer (some ⟨f 0, 0, none⟩), .pointer (some ⟨f 1, 0, none⟩), .pointer (some ⟨f 2, 0, none⟩), .pointer (some ⟨f 3, 0, none⟩)] := rfl
theorem ptrCells_none (f : Nat → Nat) : ptrCells f 0 = #[.pointer none, .pointer none, .pointer none, .pointer none] := rfl
theorem ptrCells_put (f : Nat → Nat) (k x : Nat) (hk : k < 4) : (ptrCells f k).setIfInBounds k (.pointer (some ⟨x, 0, none⟩)) = ptrCells (fun i => if i = k then x else f i) (k + 1) := by
  obtain rfl | rfl | rfl | rfl : k = 0 ∨ k = 1 ∨ k = 2 ∨ k = 3 := by omega
  all_goals simp [ptrCells, pv]
/-- Four pointers in block P, of which the first k lead to rows. -/
structure PInv (w wr : World) (P k : Nat) (f : Nat → Nat) (V : Nat → List Int) : Prop where
  bel : Below w.heap.size w wr
  lo : w.heap.size ≤ P
  arr : wr.heap[P]? = some (.cells (ptrCells f k) 136 (0, 0))
  vec : ∀ i, i < k → P < f i ∧ f i < wr.heap.size ∧ wr.heap[f i]? = some (.cells ((V i).map (Value.int .i64)).toArray 142 (0, 0))
  inc : ∀ i j, i < j → j < k → f i < f j
theorem PInv.next {w wr w1 : World} {P k : Nat} {f : Nat → Nat} {V : Nat → List Int} (h : PInv w wr P k f V) (hb : Below wr.heap.size wr w1) : PInv w w1 P k f V := by
  have hs := hb.size
  exact ⟨h.bel.trans (hb.mono h.bel.size), h.lo, (hb.block P (lt_of_block h.arr)).trans h.arr, fun i hi => by
    obtain ⟨a, b, c⟩ := h.vec i hi
    exact ⟨a, by omega, (hb.block _ b).trans c⟩, h.inc⟩
theorem PInv.put {w wr w1 : World} {P k x : Nat} {f : Nat → Nat} {V : Nat → List Int} (h : PInv w wr P k f V) (hk : k < 4) (hb : Below wr.heap.size wr w1) (hx : wr.heap.size ≤ x) (hg : w1.heap[x]? = some (.cells ((V k).map (Value.int .i64)).toArray 142 (0, 0))) :
    PInv w (w1.setCell ⟨P, k, none⟩ (.pointer (some ⟨x, 0, none⟩))) P (k + 1) (fun i => if i = k then x else f i) V ∧ (∃ v, w1.cell? ⟨P, k, none⟩ = some v) ∧ w1.frozen? ⟨P, k, none⟩ = false := by
  have h1 := h.next hb
  have hP := lt_of_block h.arr
  have hxl := lt_of_block hg
  have hsz : (w1.setCell ⟨P, k, none⟩ (.pointer (some ⟨x, 0, none⟩))).heap.size = w1.heap.size := by simp [World.setCell]
  have hps : (ptrCells f k).size = 4 := rfl
  refine ⟨⟨h1.bel.setCell h.lo _, h.lo, ?_, fun i hi => ?_, fun i j hij hj => ?_⟩, ⟨(ptrCells f k)[k], (cell_of_row _ _ _ _ _ _ h1.arr).trans (Array.getElem?_eq_getElem (by omega))⟩, frozen_of_row _ _ _ _ _ h1.arr⟩
  · rw [heap_setCell_same _ _ _ _ _ _ h1.arr, ptrCells_put f k x hk]
  · by_cases e : i = k
    · subst e
      simp only [if_pos]
      exact ⟨by omega, by omega, (heap_setCell_other _ _ _ _ (by show x ≠ P; omega)).trans hg⟩
    · simp only [if_neg e]
      obtain ⟨a, b, c⟩ := h1.vec i (by omega)
      exact ⟨a, by omega, (heap_setCell_other _ _ _ _ (by show f i ≠ P; omega)).trans c⟩
  · have hi : i ≠ k := by omega
    simp only [if_neg hi]
    by_cases e : j = k
    · rw [if_pos e]
      have := (h.vec i (by omega)).2.1
      omega
    · rw [if_neg e]
      exact h.inc i j hij (by omega)
theorem pk_f (f : Nat → Nat) {i : Nat} (h : i < 4) : pk (f 0) (f 1) (f 2) (f 3) i = f i := by
  obtain rfl | rfl | rfl | rfl : i = 0 ∨ i = 1 ∨ i = 2 ∨ i = 3 := by omega
  all_goals rfl
set_option maxRecDepth 100000 in
set_option maxHeartbeats 2000000 in
theorem implAcksNew (w : World) : Calls Try.prog 68 #[] w (AckPost newAcks w) := by
  go_enter Try.func68, Try.ntmps68
  go_wp2
  obtain ⟨hB0, h2, h3, hz0⟩ := alloc2 w (.cells #[.slice none 0 0] 66) (.cells #[.pointer none, .pointer none, .pointer none, .pointer none] 136)
  generalize (w.alloc (.cells #[.slice none 0 0] 66)).alloc (.cells #[.pointer none, .pointer none, .pointer none, .pointer none] 136) = w0 at hB0 h2 h3 hz0 ⊢
  have HB0 := Lib.hid hB0
  have TR := Lib.hid h2
  have TN := Lib.hid h3
  clear hB0 h2 h3
  go_loopw [3] (fun i wr => ∃ (k : Nat) (f : Nat → Nat), k ≤ 4 ∧ i = .int .i64 (k : Int) ∧ Hid (PInv w wr (w.heap.size + 1) k f (fun _ => zeros4)) ∧ Hid (wr.heap[w.heap.size]? = some (.cells #[.slice none 0 0] 66 (0, 0)))) (fun i _ => 4 - (intOf i).toNat)
  case atStart => exact ⟨0, fun _ => 0, by omega, rfl, ⟨HB0.out, by omega, TN.out, fun i hi => absurd hi (by omega), fun i j _ hj => absurd hj (by omega)⟩, TR.out⟩
  case round =>
    obtain ⟨k, f, hk, rfl, HI, HR⟩ := hrel
    by_cases hlt : k < 4
    · have hki : (k : Int) < 4 := by omega
      have hb1 : Below wr.heap.size wr (wr.alloc (.cells #[.int .i64 0, .int .i64 0, .int .i64 0, .int .i64 0] 142)) := (Below.refl _ wr).alloc (Nat.le_refl _) _
      obtain ⟨hP, ⟨v, c0⟩, f0⟩ := HI.out.put hlt hb1 (Nat.le_refl _) (heap_alloc_new _ _)
      have HP := Lib.hid hP
      have HR1 : Hid (((wr.alloc (.cells #[.int .i64 0, .int .i64 0, .int .i64 0, .int .i64 0] 142)).setCell ⟨w.heap.size + 1, k, none⟩ (.pointer (some ⟨wr.heap.size, 0, none⟩))).heap[w.heap.size]? = some (.cells #[.slice none 0 0] 66 (0, 0))) := (heap_setCell_other _ _ _ _ (by show w.heap.size ≠ w.heap.size + 1; omega)).trans ((hb1.block _ (lt_of_block HR.out)).trans HR.out)
      clear hP hb1
      go_wp2
      go_roundw
      case rel => exact ⟨k + 1, _, by omega, by go_num, HP, HR1⟩
      case measure => simp [intOf]; omega
    · obtain rfl : k = 4 := by omega
      have ha := HI.out.arr
      rw [ptrCells_full] at ha
      obtain ⟨⟨c0, c1, c2, c3⟩, _⟩ := quad ha
      clear ha
      go_wp2_with fail
      refine (implAcks wr (f 0) (f 1) (f 2) (f 3) newAcks rfl (fun i hi => by rw [newAcks_row hi]; rfl) (fun i hi => by rw [pk_f f hi, newAcks_row hi]; exact (HI.out.vec i hi).2.2)).mono ?_
      rintro e w1 ⟨g, c, rfl, ⟨f', hr⟩, hb1⟩
      have hR := (hb1.block _ (lt_of_block HR.out)).trans HR.out
      have r0 := one_cell hR
      have q0 : w1.frozen? ⟨w.heap.size, 0, none⟩ = false := frozen_of_row _ _ _ _ _ hR
      have HS := HI.out.bel.size
      have hPl := lt_of_block HI.out.arr
      have HN4 : Hid (RowsAt (w1.setCell ⟨w.heap.size, 0, none⟩ (.slice (some ⟨g, 0, none⟩) newAcks.length c)) w.heap.size (w1.setCell ⟨w.heap.size, 0, none⟩ (.slice (some ⟨g, 0, none⟩) newAcks.length c)).heap.size g newAcks.length f' (rowOf newAcks)) := by
        rw [show (w1.setCell ⟨w.heap.size, 0, none⟩ (.slice (some ⟨g, 0, none⟩) newAcks.length c)).heap.size = w1.heap.size by simp [World.setCell]]
        exact (hr.kept fun j h1 h2 => heap_setCell_other _ _ _ _ (by show j ≠ w.heap.size; omega)).more (by omega) (Nat.le_refl _)
      have HB4 : Hid (Below w.heap.size w (w1.setCell ⟨w.heap.size, 0, none⟩ (.slice (some ⟨g, 0, none⟩) newAcks.length c))) := (HI.out.bel.trans (hb1.mono HS)).setCell (Nat.le_refl _) _
      have HD := Lib.hid (cell_set1 (.slice (some ⟨g, 0, none⟩) newAcks.length c) hR)
      clear hR hr hb1 c0 c1 c2 c3
      obtain ⟨n, hn⟩ : ∃ n, newAcks.length = n := ⟨_, rfl⟩
      rw [hn] at HN4 HB4 HD ⊢
      have HN := Lib.hid hn
      clear hn
      go_wp2
      have d0 := HD.out
      generalize w1.setCell ⟨w.heap.size, 0, none⟩ (.slice (some ⟨g, 0, none⟩) n c) = wf at d0 HN4 HB4 ⊢
      exact bodyPost_ret (v := .agg #[.slice (some ⟨g, 0, none⟩) n c]) (by simp [results, Try.results68, go_sem, d0]) rfl ⟨g, c, by rw [HN.out], ⟨f', by rw [HN.out]; exact HN4.out⟩, HB4.out⟩
/-- What a table's pointers are, and whether it is one. -/
def PtrsPost (l : List (List Int)) (w : World) (e : Ending) (w' : World) : Prop :=
  ((ackOk l = true ∧ ∃ f : Nat → Nat, e = .returned (.tuple #[.agg #[.pointer (some ⟨f 0, 0, none⟩), .pointer (some ⟨f 1, 0, none⟩), .pointer (some ⟨f 2, 0, none⟩), .pointer (some ⟨f 3, 0, none⟩)], .bool true]) ∧ (∀ i, i < 4 → w.heap.size ≤ f i ∧ f i < w'.heap.size ∧ w'.heap[f i]? = some (.cells ((rowOf l i).map (Value.int .i64)).toArray 142 (0, 0))) ∧ ∀ i j, i < j → j < 4 → f i < f j) ∨
    (ackOk l = false ∧ e = .returned (.tuple #[.agg #[.pointer none, .pointer none, .pointer none, .pointer none], .bool false]))) ∧ Below w.heap.size w w'
set_option maxRecDepth 100000 in
set_option maxHeartbeats 4000000 in
theorem ackRowsOf (w : World) (B : Nat) (a : Option Addr) (n cap : Nat) (l : List (List Int)) (h : IRows w B a n l) (hB : B ≤ w.heap.size) (hr : ∀ i, i < n → (rowOf l i).length ≤ 1048576) :
    Calls Try.prog 131 #[.agg #[.slice a n cap]] w (PtrsPost l w) := by
  obtain ⟨hB0, h1, h2, h3, hz0⟩ := alloc3 w (.cells #[.slice a n cap] 66) (.cells #[.pointer none, .pointer none, .pointer none, .pointer none] 136) (.cells #[.pointer none, .pointer none, .pointer none, .pointer none] 136)
  have HB0 := Lib.hid hB0
  have HRs := Lib.hid h2
  have HP0 := Lib.hid h3
  have HL := Lib.hid h.1
  have H := Lib.hid h
  have HRl := Lib.hid hr
  clear h hr hB0 h1 h2 h3 hz0
  by_cases h4 : n = 4
  rotate_left
  · have h4' : ((n : Int) != 4) = true := by simp; omega
    have HV : Hid (ackOk l = false) := ack_len (by rw [HL.out]; exact h4)
    clear h4
    go_enter Try.func131, Try.ntmps131
    go_wp2
    generalize ((w.alloc (.cells #[.slice a n cap] 66)).alloc (.cells #[.pointer none, .pointer none, .pointer none, .pointer none] 136)).alloc (.cells #[.pointer none, .pointer none, .pointer none, .pointer none] 136) = w0 at HB0 HRs HP0 ⊢
    obtain ⟨⟨c0, c1, c2, c3⟩, _⟩ := quad HRs.out
    exact bodyPost_ret (v := .tuple #[.agg #[.pointer none, .pointer none, .pointer none, .pointer none], .bool false]) (by simp [results, Try.results131, go_sem, c0, c1, c2, c3]) rfl ⟨.inr ⟨HV.out, rfl⟩, HB0.out⟩
  subst h4
  go_enter Try.func131, Try.ntmps131
  go_wp2
  generalize ((w.alloc (.cells #[.slice a 4 cap] 66)).alloc (.cells #[.pointer none, .pointer none, .pointer none, .pointer none] 136)).alloc (.cells #[.pointer none, .pointer none, .pointer none, .pointer none] 136) = w0 at HB0 HRs HP0 ⊢
  go_loopw [17] (fun i wr => ∃ (k : Nat) (f : Nat → Nat), k ≤ 4 ∧ i = .int .i64 (k : Int) ∧ Hid ((l.take k).all vecOk = true) ∧ Hid (PInv w wr (w.heap.size + 1 + 1) k f (rowOf l)) ∧ Hid (wr.heap[w.heap.size + 1]? = some (.cells #[.pointer none, .pointer none, .pointer none, .pointer none] 136 (0, 0)))) (fun i _ => 4 - (intOf i).toNat)
  case atStart => exact ⟨0, fun _ => 0, by omega, rfl, rfl, ⟨HB0.out, by omega, HP0.out, fun i hi => absurd hi (by omega), fun i j _ hj => absurd hj (by omega)⟩, HRs.out⟩
  case round =>
    obtain ⟨k, f, hk, rfl, HA, HI, HR⟩ := hrel
    by_cases hlt : k < 4
    · have hki : (k : Int) < 4 := by omega
      obtain ⟨b, off, ai, ci, rfl, hb, hc, hx⟩ := H.out.2 k hlt
      have hro := HRl.out k hlt
      have hkl : k < l.length := by rw [HL.out]; exact hlt
      have HBr := Lib.hid HI.out.bel
      have c0 : wr.cell? ⟨b, off + k, none⟩ = some (.slice ai (rowOf l k).length ci) := (World.cell?_of_block (a := ⟨b, off + k, none⟩) (HBr.out.block b (by omega))).trans hc
      have hI := hx.below HBr.out hB
      have hBw : B ≤ wr.heap.size := Nat.le_trans hB HBr.out.size
      clear hc hx
      rcases hok : vecOk (rowOf l k) with _ | _
      · have HF := Lib.hid (ack_stop (l := l) hkl hok)
        generalize rowOf l k = xs at c0 hI hro hok
        go_wp2_with fail
        refine (vectorOfNo wr B ai _ ci xs hI hBw hro hok).mono ?_
        rintro e w1 ⟨rfl, hb1⟩
        have hb2 : Below wr.heap.size wr (w1.alloc (.cells #[.int .i64 0, .int .i64 0, .int .i64 0, .int .i64 0] 142)) := hb1.alloc hb1.size _
        have hR := (hb2.block _ (lt_of_block HR.out)).trans HR.out
        obtain ⟨⟨d0, d1, d2, d3⟩, hfz⟩ := quad hR
        have f0 := hfz 0
        have f1 := hfz 1
        have f2 := hfz 2
        have f3 := hfz 3
        have HBf := Lib.hid (quadSet_below (g := w.heap.size + 1) (.pointer none) (.pointer none) (.pointer none) (.pointer none) (HBr.out.trans (hb2.mono HBr.out.size)) (by omega))
        have HRf := Lib.hid (quadSet_same (.pointer none) (.pointer none) (.pointer none) (.pointer none) hR)
        clear hb1 hb2 hR hfz c0
        unfold quadSet at HBf HRf
        go_wp2
        generalize ((((w1.alloc (.cells #[.int .i64 0, .int .i64 0, .int .i64 0, .int .i64 0] 142)).setCell ⟨w.heap.size + 1, 0, none⟩ (.pointer none)).setCell ⟨w.heap.size + 1, 1, none⟩ (.pointer none)).setCell ⟨w.heap.size + 1, 2, none⟩ (.pointer none)).setCell ⟨w.heap.size + 1, 3, none⟩ (.pointer none) = wf at HBf HRf ⊢
        clear d0 d1 d2 d3 f0 f1 f2 f3
        obtain ⟨⟨c0, c1, c2, c3⟩, _⟩ := quad HRf.out
        exact bodyPost_ret (v := .tuple #[.agg #[.pointer none, .pointer none, .pointer none, .pointer none], .bool false]) (by simp [results, Try.results131, go_sem, c0, c1, c2, c3]) rfl ⟨.inr ⟨HF.out, rfl⟩, HBf.out⟩
      · have HA1 := Lib.hid (ack_step hkl HA.out hok)
        obtain ⟨x0, x1, x2, x3, hx⟩ := four hok
        have HX := Lib.hid hx
        rw [hx] at c0 hI hok
        clear hx hro
        have hl4 : ([x0, x1, x2, x3] : List Int).length = 4 := rfl
        rw [hl4] at c0 hI
        go_wp2_with fail
        refine (vectorOfYes wr B ai ci x0 x1 x2 x3 hI hBw hok).mono ?_
        rintro e w1 ⟨rfl, hb1⟩
        have hb2 : Below wr.heap.size wr (w1.alloc (.cells #[.int .i64 x0, .int .i64 x1, .int .i64 x2, .int .i64 x3] 142)) := hb1.alloc hb1.size _
        obtain ⟨hP, ⟨v, e0⟩, f0⟩ := HI.out.put hlt hb2 hb1.size (by rw [HX.out]; exact heap_alloc_new _ _)
        have HP := Lib.hid hP
        have HR1 : Hid (((w1.alloc (.cells #[.int .i64 x0, .int .i64 x1, .int .i64 x2, .int .i64 x3] 142)).setCell ⟨w.heap.size + 1 + 1, k, none⟩ (.pointer (some ⟨w1.heap.size, 0, none⟩))).heap[w.heap.size + 1]? = some (.cells #[.pointer none, .pointer none, .pointer none, .pointer none] 136 (0, 0))) := (heap_setCell_other _ _ _ _ (by show w.heap.size + 1 ≠ w.heap.size + 1 + 1; omega)).trans ((hb2.block _ (lt_of_block HR.out)).trans HR.out)
        clear hP hb1 hb2 c0
        go_wp2
        go_roundw
        case rel => exact ⟨k + 1, _, by omega, by go_num, HA1, HP, HR1⟩
        case measure => simp [intOf]; omega
    · obtain rfl : k = 4 := by omega
      have HV : Hid (ackOk l = true) := (ack_end (by rw [HL.out]; omega) HA.out).trans (decide_eq_true HL.out)
      have ha := HI.out.arr
      rw [ptrCells_full] at ha
      obtain ⟨⟨c0, c1, c2, c3⟩, _⟩ := quad ha
      obtain ⟨⟨d0, d1, d2, d3⟩, hfz⟩ := quad HR.out
      have f0 := hfz 0
      have f1 := hfz 1
      have f2 := hfz 2
      have f3 := hfz 3
      have HBf := Lib.hid (quadSet_below (g := w.heap.size + 1) (.pointer (some ⟨f 0, 0, none⟩)) (.pointer (some ⟨f 1, 0, none⟩)) (.pointer (some ⟨f 2, 0, none⟩)) (.pointer (some ⟨f 3, 0, none⟩)) HI.out.bel (by omega))
      have HRf := Lib.hid (quadSet_same (.pointer (some ⟨f 0, 0, none⟩)) (.pointer (some ⟨f 1, 0, none⟩)) (.pointer (some ⟨f 2, 0, none⟩)) (.pointer (some ⟨f 3, 0, none⟩)) HR.out)
      have HVf : Hid (∀ i, i < 4 → w.heap.size ≤ f i ∧ f i < (quadSet wr (w.heap.size + 1) (.pointer (some ⟨f 0, 0, none⟩)) (.pointer (some ⟨f 1, 0, none⟩)) (.pointer (some ⟨f 2, 0, none⟩)) (.pointer (some ⟨f 3, 0, none⟩))).heap.size ∧ (quadSet wr (w.heap.size + 1) (.pointer (some ⟨f 0, 0, none⟩)) (.pointer (some ⟨f 1, 0, none⟩)) (.pointer (some ⟨f 2, 0, none⟩)) (.pointer (some ⟨f 3, 0, none⟩))).heap[f i]? = some (.cells ((rowOf l i).map (Value.int .i64)).toArray 142 (0, 0))) := fun i hi => by
        obtain ⟨q1, q2, q3⟩ := HI.out.vec i hi
        exact ⟨by omega, by rw [quadSet_size]; exact q2, (quadSet_other _ _ _ _ (by omega)).trans q3⟩
      have HInc := Lib.hid HI.out.inc
      clear ha hfz
      unfold quadSet at HBf HRf HVf
      go_wp2
      generalize (((wr.setCell ⟨w.heap.size + 1, 0, none⟩ (.pointer (some ⟨f 0, 0, none⟩))).setCell ⟨w.heap.size + 1, 1, none⟩ (.pointer (some ⟨f 1, 0, none⟩))).setCell ⟨w.heap.size + 1, 2, none⟩ (.pointer (some ⟨f 2, 0, none⟩))).setCell ⟨w.heap.size + 1, 3, none⟩ (.pointer (some ⟨f 3, 0, none⟩)) = wf at HBf HRf HVf ⊢
      clear c0 c1 c2 c3 d0 d1 d2 d3 f0 f1 f2 f3
      obtain ⟨⟨c0, c1, c2, c3⟩, _⟩ := quad HRf.out
      exact bodyPost_ret (v := .tuple #[.agg #[.pointer (some ⟨f 0, 0, none⟩), .pointer (some ⟨f 1, 0, none⟩), .pointer (some ⟨f 2, 0, none⟩), .pointer (some ⟨f 3, 0, none⟩)], .bool true]) (by simp [results, Try.results131, go_sem, c0, c1, c2, c3]) rfl ⟨.inl ⟨HV.out, f, rfl, HVf.out, HInc.out⟩, HBf.out⟩
set_option maxRecDepth 100000 in
theorem implAcksOk (w : World) (B : Nat) (a : Option Addr) (n cap : Nat) (l : List (List Int)) (h : IRows w B a n l) (hB : B ≤ w.heap.size) (hr : ∀ i, i < n → (rowOf l i).length ≤ 1048576) :
    Calls Try.prog 67 #[.agg #[.slice a n cap]] w fun e w' => e = .returned (.bool (ackOk l)) ∧ Below w.heap.size w w' := by
  have hb0 : Below w.heap.size w (w.alloc (.cells #[.slice a n cap] 66)) := (Below.refl _ w).alloc (Nat.le_refl _) _
  have H := Lib.hid (h.below hb0 hB)
  have HB := Lib.hid hb0
  have HR := Lib.hid hr
  have hsz : w.heap.size ≤ (w.alloc (.cells #[.slice a n cap] 66)).heap.size := hb0.size
  clear h hb0 hr
  go_enter Try.func67, Try.ntmps67
  go_wp2_with fail
  generalize w.alloc (.cells #[.slice a n cap] 66) = w0 at H HB hsz ⊢
  refine (ackRowsOf w0 B a n cap l H.out (by omega) HR.out).mono ?_
  rintro e w1 ⟨hcase, hb1⟩
  have HB1 := Lib.hid (HB.out.trans (hb1.mono HB.out.size))
  have hs1 : w.heap.size ≤ w1.heap.size := HB1.out.size
  clear hb1
  rcases hcase with ⟨hok, f, rfl, _, _⟩ | ⟨hok, rfl⟩
  · have HO := Lib.hid hok
    clear hok
    have HBa := Lib.hid (HB1.out.alloc hs1 (.cells #[.pointer (some ⟨f 0, 0, none⟩), .pointer (some ⟨f 1, 0, none⟩), .pointer (some ⟨f 2, 0, none⟩), .pointer (some ⟨f 3, 0, none⟩)] 136))
    go_wp2
    go_ret
    exact ⟨by rw [HO.out]; rfl, HBa.out⟩
  · have HO := Lib.hid hok
    clear hok
    have HBa := Lib.hid (HB1.out.alloc hs1 (.cells #[.pointer none, .pointer none, .pointer none, .pointer none] 136))
    go_wp2
    go_ret
    exact ⟨by rw [HO.out]; rfl, HBa.out⟩
end Go.Proofs.Ytmceofdknphgkaa
