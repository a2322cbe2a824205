/- Rows of a bill's rows of the call's own; the walks of laws.markRowS, heldRowS. -/
import Derived.Test.YtdbdmfaphdjdpaaRwRow
import Derived.Test.YtdbdmfaphdjdpaaMarkW
namespace Go.Proofs.Ytdbdmfaphdjdpaa
open Go.RowKit
set_option linter.unusedVariables false
/-- The cells of an element in a row. -/
def RwIn (cs : Array Value) (off : Nat) (o : RwV) : Prop := cs[off]? = some (.string o.item) ∧ cs[off + 1]? = some (.int .i64 o.qty) ∧ cs[off + 2]? = some (.int .i64 o.cents)
theorem RwIn.at {w : World} {g off : Nat} {T : TypeId} {cs : Array Value} {o : RwV} (hg : w.heap[g]? = some (.cells cs T (0, 0))) (h : RwIn cs off o) : RwAt w g off o := by
  obtain ⟨h0, h1, h2⟩ := h
  exact ⟨(cell_of_row _ _ _ _ _ _ hg).trans h0, (cell_of_row _ _ _ _ _ _ hg).trans h1, (cell_of_row _ _ _ _ _ _ hg).trans h2⟩
/-- A slice of them whose row, if it has elements, is a block between lo and hi. -/
def OwnRws (w : World) (lo hi : Nat) (a : Option Addr) (n : Nat) (l : List RwV) : Prop :=
  l.length = n ∧ (0 < n → ∃ g off cs, a = some ⟨g, off, none⟩ ∧ lo ≤ g ∧ g < hi ∧ w.heap[g]? = some (.cells cs 123 (0, 0)) ∧ off + n * 3 ≤ cs.size ∧ ∀ i, i < n → RwIn cs (off + i * 3) (l.getD i RwV.zero))
theorem OwnRws.rows {w : World} {lo hi : Nat} {a : Option Addr} {n : Nat} {l : List RwV} (h : OwnRws w lo hi a n l) : Rws w hi a n l :=
  ⟨h.1, fun i hi' => by
    obtain ⟨g, off, cs, e, _, h2, hg, _, hc⟩ := h.2 (by omega)
    exact ⟨g, off, e, h2, (hc i hi').at hg⟩⟩
theorem OwnRws.kept {w w' : World} {lo hi : Nat} {a : Option Addr} {n : Nat} {l : List RwV} (h : OwnRws w lo hi a n l) (hk : ∀ j, lo ≤ j → j < hi → w'.heap[j]? = w.heap[j]?) : OwnRws w' lo hi a n l :=
  ⟨h.1, fun hn => by
    obtain ⟨g, off, cs, e, h1, h2, hg, hs, hc⟩ := h.2 hn
    exact ⟨g, off, cs, e, h1, h2, (hk g h1 h2).trans hg, hs, hc⟩⟩
theorem OwnRws.below {w w' : World} {lo hi B : Nat} {a : Option Addr} {n : Nat} {l : List RwV} (h : OwnRws w lo hi a n l) (hb : Below B w w') (hB : hi ≤ B) : OwnRws w' lo hi a n l :=
  h.kept fun j _ h2 => hb.block j (by omega)
theorem OwnRws.more {w : World} {lo hi lo' hi' : Nat} {a : Option Addr} {n : Nat} {l : List RwV} (h : OwnRws w lo hi a n l) (h1 : lo' ≤ lo) (h2 : hi ≤ hi') : OwnRws w lo' hi' a n l :=
  ⟨h.1, fun hn => by
    obtain ⟨g, off, cs, e, a1, a2, r⟩ := h.2 hn
    exact ⟨g, off, cs, e, by omega, by omega, r⟩⟩
theorem own_noRw (w : World) (lo hi : Nat) (a : Option Addr) : OwnRws w lo hi a 0 [] := ⟨rfl, fun h => absurd h (by omega)⟩
/-- What a call answers that hands back a list of them of its own. -/
def RwPost (l : List RwV) (w : World) (e : Ending) (w' : World) : Prop := ∃ a c, e = .returned (.slice a l.length c) ∧ OwnRws w' w.heap.size w'.heap.size a l.length l ∧ Below w.heap.size w w'
theorem OwnRws.beside {w w' : World} {lo hi lo' hi' : Nat} {a : Option Addr} {n : Nat} {l : List RwV} (h : OwnRws w lo hi a n l) (hb : Beside lo' hi' w w') (hd : hi ≤ lo' ∨ hi' ≤ lo) (hw : hi ≤ w.heap.size) : OwnRws w' lo hi a n l :=
  h.kept fun j h1 h2 => hb.block j (by omega) (by omega)

/-- What markRowS leaves in an element. -/
def markRwV (K : Nat) : RwV := ⟨mkT K, ((K + 1 : Nat) : Int), ((K + 2 : Nat) : Int)⟩
def RwMarks (k n : Nat) : List RwV := (List.range n).map fun i => markRwV (k + 3 * i)
theorem RwMarks_len (k n : Nat) : (RwMarks k n).length = n := by simp [RwMarks]
theorem RwMarks_at {k n i : Nat} (h : i < n) : (RwMarks k n).getD i RwV.zero = markRwV (k + 3 * i) := by
  rw [List.getD_eq_getElem?_getD]
  simp [RwMarks, h]
def mvalRw (K u : Nat) : Value := if u = 0 then .string (mkT K) else if u = 1 then .int .i64 ((K + 1 : Nat) : Int) else .int .i64 ((K + 2 : Nat) : Int)
theorem RwIn_of_mvals {cs : Array Value} {off K : Nat} (h : ∀ u, u < 3 → cs[off + u]? = some (mvalRw K u)) : RwIn cs off (markRwV K) := ⟨h 0 (by omega), h 1 (by omega), h 2 (by omega)⟩
/-- How far the marking has come: j elements, and f fields of the next one. -/
structure MRw (g off n k j f : Nat) (w wr : World) : Prop where
  bes : Beside g (g + 1) w wr
  row : ∃ cs : Array Value, wr.heap[g]? = some (.cells cs 123 (0, 0)) ∧ off + n * 3 ≤ cs.size ∧ (∀ t, t < j → RwIn cs (off + t * 3) (markRwV (k + 3 * t))) ∧ ∀ u, u < f → cs[off + j * 3 + u]? = some (mvalRw (k + 3 * j) u)
theorem MRw.step {g off n k j f : Nat} {w w1 w2 : World} (h : MRw g off n k j f w w1) (hb : Below w1.heap.size w1 w2) : MRw g off n k j f w w2 := by
  obtain ⟨hbs, cs, hg, r⟩ := h
  exact ⟨hbs.step hb, cs, (hb.block _ (Array.getElem?_eq_some_iff.1 hg).1).trans hg, r⟩
theorem MRw.cell {g off n k j f : Nat} {w wr : World} (h : MRw g off n k j f w wr) (hj : j < n) (u : Nat) (hu : u < 3) : (∃ v, wr.cell? ⟨g, off + j * 3 + u, none⟩ = some v) ∧ wr.frozen? ⟨g, off + j * 3 + u, none⟩ = false := by
  obtain ⟨_, cs, hg, hs, _⟩ := h
  exact ⟨⟨cs[off + j * 3 + u]'(by omega), (cell_of_row _ _ _ _ _ _ hg).trans (Array.getElem?_eq_getElem (by omega))⟩, frozen_of_row _ _ _ _ _ hg⟩
theorem RwIn_far {cs : Array Value} {off m : Nat} {o : RwV} {v : Value} (h : RwIn cs off o) (hm : m < off ∨ off + 3 ≤ m) : RwIn (cs.setIfInBounds m v) off o := by
  obtain ⟨h0, h1, h2⟩ := h
  exact ⟨(Array.getElem?_setIfInBounds_ne (by omega)).trans h0, (Array.getElem?_setIfInBounds_ne (by omega)).trans h1, (Array.getElem?_setIfInBounds_ne (by omega)).trans h2⟩
theorem MRw.put {g off n k j f : Nat} {w wr : World} (h : MRw g off n k j f w wr) (hj : j < n) (hf : f < 3) {v : Value} (hv : v = mvalRw (k + 3 * j) f) : MRw g off n k j (f + 1) w (wr.setCell ⟨g, off + j * 3 + f, none⟩ v) := by
  obtain ⟨hbs, cs, hg, hs, ho, hu⟩ := h
  refine ⟨hbs.put, cs.setIfInBounds (off + j * 3 + f) v, heap_setCell_same _ _ _ _ _ _ hg, by simpa using hs, fun t ht => RwIn_far (ho t ht) (by omega), fun u hu' => ?_⟩
  rw [Array.getElem?_setIfInBounds]
  by_cases e : f = u
  · subst e
    rw [if_pos rfl, if_pos (by omega), hv]
  · rw [if_neg (by omega)]
    exact hu u (by omega)
theorem MRw.next {g off n k j : Nat} {w wr : World} (h : MRw g off n k j 3 w wr) : MRw g off n k (j + 1) 0 w wr := by
  obtain ⟨hbs, cs, hg, hs, ho, hu⟩ := h
  refine ⟨hbs, cs, hg, hs, fun t ht => ?_, fun u hu' => absurd hu' (by omega)⟩
  rcases Nat.lt_or_ge t j with h1 | h1
  · exact ho t h1
  · obtain rfl : t = j := by omega
    exact RwIn_of_mvals hu
def RwMarked (k n lo hi : Nat) (a : Option Addr) (w : World) (e : Ending) (w' : World) : Prop :=
  (∃ m : Nat, m = k + 3 * n ∧ e = .returned (.int .i64 (m : Int))) ∧ OwnRws w' lo hi a n (RwMarks k n) ∧ Beside lo hi w w'
theorem MRw.marked {g off n k lo hi m : Nat} {w wr : World} (h : MRw g off n k n 0 w wr) (h1 : lo ≤ g) (h2 : g < hi) (hm : m = k + 3 * n) : RwMarked k n lo hi (some ⟨g, off, none⟩) w (.returned (.int .i64 (m : Int))) wr := by
  obtain ⟨hbs, cs, hg, hs, ho, _⟩ := h
  exact ⟨⟨m, hm, rfl⟩, ⟨RwMarks_len _ _, fun _ => ⟨g, off, cs, rfl, h1, h2, hg, hs, fun i hi' => by rw [RwMarks_at hi']; exact ho i hi'⟩⟩, hbs.wide h1 h2⟩

set_option maxRecDepth 100000 in
set_option maxHeartbeats 4000000 in
theorem markRws (w : World) (lo hi : Nat) (a : Option Addr) (n cap : Nat) (l : List RwV) (h : OwnRws w lo hi a n l) (k : Nat) (hk0 : 0 < k) (hk : k ≤ 20000000) (hn : n ≤ 1048576) :
    Calls Try.prog 41 #[.slice a n cap, .int .i64 (k : Int)] w (RwMarked k n lo hi a w) := by
  by_cases h0 : 0 < n
  · obtain ⟨g, off, cs, rfl, hlo, hhi, hg, hs, hc⟩ := h.2 h0
    have HM0 : Hid (MRw g off n k 0 0 w w) := ⟨Beside.refl _ _ _, cs, hg, hs, fun t ht => absurd ht (by omega), fun u hu => absurd hu (by omega)⟩
    have hgw := (Array.getElem?_eq_some_iff.1 hg).1
    clear h hg hs hc
    go_enter Try.func41, Try.ntmps41
    go_wp2
    go_loopw [1, 5] (fun m i wr => ∃ j q : Nat, j ≤ n ∧ i = .int .i64 (j : Int) ∧ m = .int .i64 (q : Int) ∧ Hid (q = k + 3 * j) ∧ Hid (MRw g off n k j 0 w wr)) (fun _ i _ => n - (intOf i).toNat)
    case atStart => exact ⟨0, k, by omega, rfl, rfl, rfl, HM0⟩
    case round =>
      obtain ⟨j, q0, hj, rfl, rfl, HQ0, HM0⟩ := hrel
      have hq0 : 0 < q0 ∧ q0 ≤ 30000000 := by have := HQ0.out; omega
      obtain ⟨hq0a, hq0b⟩ := hq0
      by_cases hlt : j < n
      rotate_left
      · obtain rfl : j = n := by omega
        have HF := Lib.hid (HM0.out.marked hlo hhi HQ0.out)
        go_wp2
        go_ret
        exact HF.out
      go_wp2_with fail
      refine (markText (q0 : Int) q0 rfl (by omega) (by omega) _).mono ?_
      rintro e z0 ⟨rfl, hb4⟩
      have HM0' := Lib.hid (HM0.out.step hb4)
      clear HM0 hb4
      obtain ⟨⟨v0, c0⟩, f0⟩ := HM0'.out.cell hlt 0 (by omega)
      simp only [Nat.add_zero] at c0 f0
      have HM1 : Hid (MRw g off n k j 1 w (z0.setCell ⟨g, off + j * 3, none⟩ (.string (mkT q0)))) := HM0'.out.put hlt (by omega) (by rw [HQ0.out]; rfl)
      go_upto_region 5 with fail
      generalize z0.setCell ⟨g, off + j * 3, none⟩ (.string (mkT q0)) = y1 at HM1 ⊢
      clear c0 f0 HM0' v0
      go_upto_region 6 with fail
      obtain ⟨q1, hqe⟩ : ∃ q : Nat, q = q0 + 1 := ⟨_, rfl⟩
      have hqi : (q0 : Int) + 1 = (q1 : Int) := by omega
      have HQ1 : Hid (q1 = k + 3 * j + 1) := by have := HQ0.out; show _ = _; omega
      have hq1a : 0 < q1 := by omega
      have hq1b : q1 ≤ 30000001 := by omega
      rw [hqi]
      clear hqi hqe hq0a hq0b HQ0
      obtain ⟨⟨v1, c1⟩, f1⟩ := HM1.out.cell hlt 1 (by omega)
      have HM2 : Hid (MRw g off n k j 2 w (y1.setCell ⟨g, off + j * 3 + 1, none⟩ (.int .i64 (q1 : Int)))) := HM1.out.put hlt (by omega) (by rw [HQ1.out]; rfl)
      go_upto_region 7 with fail
      generalize y1.setCell ⟨g, off + j * 3 + 1, none⟩ (.int .i64 (q1 : Int)) = y2 at HM2 ⊢
      clear c1 f1 HM1 v1
      go_upto_region 8 with fail
      obtain ⟨q2, hqe⟩ : ∃ q : Nat, q = q1 + 1 := ⟨_, rfl⟩
      have hqi : (q1 : Int) + 1 = (q2 : Int) := by omega
      have HQ2 : Hid (q2 = k + 3 * j + 2) := by have := HQ1.out; show _ = _; omega
      have hq2a : 0 < q2 := by omega
      have hq2b : q2 ≤ 30000002 := by omega
      rw [hqi]
      clear hqi hqe hq1a hq1b HQ1
      obtain ⟨⟨v2, c2⟩, f2⟩ := HM2.out.cell hlt 2 (by omega)
      have HM3 : Hid (MRw g off n k j 3 w (y2.setCell ⟨g, off + j * 3 + 2, none⟩ (.int .i64 (q2 : Int)))) := HM2.out.put hlt (by omega) (by rw [HQ2.out]; rfl)
      go_upto_region 9 with fail
      generalize y2.setCell ⟨g, off + j * 3 + 2, none⟩ (.int .i64 (q2 : Int)) = y3 at HM3 ⊢
      clear c2 f2 HM2 v2
      have HMn := Lib.hid HM3.out.next
      go_wp2
      go_roundw
      case rel => exact ⟨j + 1, q2 + 1, by omega, by go_num, by go_num, (by have := HQ2.out; show q2 + 1 = k + 3 * (j + 1); omega), HMn⟩
      case measure => simp [intOf]; omega
  · obtain rfl : n = 0 := by omega
    have HL := Lib.hid h.1
    clear h
    go_enter Try.func41, Try.ntmps41
    go_wp2
    refine wp_loop_rounds 1 ?_
    rw [rounds_succ]
    go_wp2
    go_ret
    exact ⟨⟨k, rfl, rfl⟩, ⟨rfl, fun hn => absurd hn (by omega)⟩, Beside.refl _ _ _⟩
set_option maxRecDepth 100000 in
set_option maxHeartbeats 4000000 in
theorem heldRws (w : World) (B : Nat) (a : Option Addr) (n cap k : Nat) (h : Rws w B a n (RwMarks k n)) (hB : B ≤ w.heap.size) (hk0 : 0 < k) (hk : k ≤ 20000000) (hn : n ≤ 1048576) :
    Calls Try.prog 42 #[.slice a n cap, .int .i64 (k : Int)] w fun e w' => e = .returned (.int .i64 ((k + 3 * n : Nat) : Int)) ∧ Below w.heap.size w w' := by
  have H := Lib.hid h
  clear h
  go_enter Try.func42, Try.ntmps42
  go_wp2
  go_loopw [1, 5] (fun m i wr => ∃ j q : Nat, j ≤ n ∧ i = .int .i64 (j : Int) ∧ m = .int .i64 (q : Int) ∧ Hid (q = k + 3 * j) ∧ Hid (Below w.heap.size w wr)) (fun _ i _ => n - (intOf i).toNat)
  case atStart => exact ⟨0, k, by omega, rfl, rfl, rfl, Below.refl _ _⟩
  case round =>
    obtain ⟨j, q0, hj, rfl, rfl, HQ0, HB⟩ := hrel
    have hq0 : 0 < q0 ∧ q0 ≤ 30000000 := by have := HQ0.out; omega
    obtain ⟨hq0a, hq0b⟩ := hq0
    by_cases hlt : j < n
    rotate_left
    · obtain rfl : j = n := by omega
      have HE : Hid (k + 3 * j = q0) := HQ0.out.symm
      go_wp2
      go_ret
      exact ⟨by rw [HE.out]; rfl, HB.out⟩
    obtain ⟨b, off, rfl, hb, ho⟩ := H.out.2 j hlt
    rw [RwMarks_at hlt, ← HQ0.out] at ho
    obtain ⟨c0, c1, c2⟩ := ho.kept (HB.out.block b (by omega))
    clear ho
    obtain ⟨q1, hqe1⟩ : ∃ q : Nat, q = q0 + 1 := ⟨_, rfl⟩
    obtain ⟨q2, hqe2⟩ : ∃ q : Nat, q = q0 + 2 := ⟨_, rfl⟩
    simp only [markRwV, ← hqe1, ← hqe2] at c0 c1 c2
    have hqi1 : (q0 : Int) + 1 = (q1 : Int) := by omega
    have hqi2 : (q1 : Int) + 1 = (q2 : Int) := by omega
    have hqb : q1 ≤ 30000007 ∧ q2 ≤ 30000007 := by omega
    obtain ⟨b1, b2⟩ := hqb
    have HQn : Hid (q2 + 1 = k + 3 * (j + 1)) := by have := HQ0.out; show _ = _; omega
    clear hqe1 hqe2
    have HI1 := Lib.hid hqi1
    clear hqi1
    have HI2 := Lib.hid hqi2
    clear hqi2
    have hst : (!((mkT q0).toList == (mkT q0).toList)) = false := by rw [beq_self_eq_true]; rfl
    have hS : wr.drew.cell? ⟨b, off + j * 3, none⟩ = some (.string (mkT q0)) := c0
    go_wp2_with fail
    go_region_held3 (fun w' => w'.cell? ⟨b, off + j * 3, none⟩ = some (.string (mkT q0))) (first | with_reducible exact hS | with_reducible exact hS5)
      (first | (go_at_call 99; refine (markText (q0 : Int) q0 rfl (by omega) (by omega) _).mono ?_; rintro e w5 ⟨rfl, hb5⟩; have hS5 : w5.cell? ⟨b, off + j * 3, none⟩ = some (.string (mkT q0)) := (hb5.cell (block_lt_of_cell hS)).trans hS))
    have HB5 := Lib.hid (HB.out.trans ((Below.mk hb5.os hb5.tape hb5.output hb5.size hb5.block : Below wr.heap.size wr w5).mono HB.out.size))
    have d1 := (hb5.cell (p := ⟨b, off + j * 3 + 1, none⟩) (block_lt_of_cell c1)).trans c1
    have d2 := (hb5.cell (p := ⟨b, off + j * 3 + 2, none⟩) (block_lt_of_cell c2)).trans c2
    clear c0 c1 c2 hS hS5 hb5 HB
    go_upto_region 7 with fail
    rw [HI1.out]
    go_upto_region 10 with fail
    rw [HI2.out]
    go_wp2
    go_roundw
    case rel => exact ⟨j + 1, q2 + 1, by omega, by go_num, by go_num, HQn, HB5⟩
    case measure => simp [intOf]; omega
end Go.Proofs.Ytdbdmfaphdjdpaa
