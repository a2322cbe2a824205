/- Made of XPrMk, XOfMk, XBillO. -/
import Derived.Test.YtdbdmfaphdjdpaaRowPr
import Derived.Test.YtdbdmfaphdjdpaaMarkW
import Derived.Test.YtdbdmfaphdjdpaaRowOf
import Derived.Test.YtdbdmfaphdjdpaaLnArg
import Derived.Test.YtdbdmfaphdjdpaaLnMk
namespace Go.Proofs.Ytdbdmfaphdjdpaa
open Go.RowKit
set_option linter.unusedVariables false
/-- The cells of an element in a row. -/
def PrIn (cs : Array Value) (off : Nat) (o : PrV) : Prop := cs[off]? = some (.string o.item) ∧ cs[off + 1]? = some (.int .i64 o.cents)
theorem PrIn.at {w : World} {g off : Nat} {T : TypeId} {cs : Array Value} {o : PrV} (hg : w.heap[g]? = some (.cells cs T (0, 0))) (h : PrIn cs off o) : PrAt w g off o := by
  obtain ⟨h0, h1⟩ := h
  exact ⟨(cell_of_row _ _ _ _ _ _ hg).trans h0, (cell_of_row _ _ _ _ _ _ hg).trans h1⟩
/-- A slice of them whose row, if it has elements, is a block between lo and hi. -/
def OwnPrs (w : World) (lo hi : Nat) (a : Option Addr) (n : Nat) (l : List PrV) : Prop :=
  l.length = n ∧ (0 < n → ∃ g off cs, a = some ⟨g, off, none⟩ ∧ lo ≤ g ∧ g < hi ∧ w.heap[g]? = some (.cells cs 125 (0, 0)) ∧ off + n * 2 ≤ cs.size ∧ ∀ i, i < n → PrIn cs (off + i * 2) (l.getD i PrV.zero))
theorem OwnPrs.rows {w : World} {lo hi : Nat} {a : Option Addr} {n : Nat} {l : List PrV} (h : OwnPrs w lo hi a n l) : Prs w hi a n l :=
  ⟨h.1, fun i hi' => by
    obtain ⟨g, off, cs, e, _, h2, hg, _, hc⟩ := h.2 (by omega)
    exact ⟨g, off, e, h2, (hc i hi').at hg⟩⟩
theorem OwnPrs.kept {w w' : World} {lo hi : Nat} {a : Option Addr} {n : Nat} {l : List PrV} (h : OwnPrs w lo hi a n l) (hk : ∀ j, lo ≤ j → j < hi → w'.heap[j]? = w.heap[j]?) : OwnPrs w' lo hi a n l :=
  ⟨h.1, fun hn => by
    obtain ⟨g, off, cs, e, h1, h2, hg, hs, hc⟩ := h.2 hn
    exact ⟨g, off, cs, e, h1, h2, (hk g h1 h2).trans hg, hs, hc⟩⟩
theorem OwnPrs.below {w w' : World} {lo hi B : Nat} {a : Option Addr} {n : Nat} {l : List PrV} (h : OwnPrs w lo hi a n l) (hb : Below B w w') (hB : hi ≤ B) : OwnPrs w' lo hi a n l :=
  h.kept fun j _ h2 => hb.block j (by omega)
theorem OwnPrs.more {w : World} {lo hi lo' hi' : Nat} {a : Option Addr} {n : Nat} {l : List PrV} (h : OwnPrs w lo hi a n l) (h1 : lo' ≤ lo) (h2 : hi ≤ hi') : OwnPrs w lo' hi' a n l :=
  ⟨h.1, fun hn => by
    obtain ⟨g, off, cs, e, a1, a2, r⟩ := h.2 hn
    exact ⟨g, off, cs, e, by omega, by omega, r⟩⟩
theorem own_noPr (w : World) (lo hi : Nat) (a : Option Addr) : OwnPrs w lo hi a 0 [] := ⟨rfl, fun h => absurd h (by omega)⟩
/-- What a call answers that hands back a list of them of its own. -/
def PrPost (l : List PrV) (w : World) (e : Ending) (w' : World) : Prop := ∃ a c, e = .returned (.slice a l.length c) ∧ OwnPrs w' w.heap.size w'.heap.size a l.length l ∧ Below w.heap.size w w'
theorem OwnPrs.beside {w w' : World} {lo hi lo' hi' : Nat} {a : Option Addr} {n : Nat} {l : List PrV} (h : OwnPrs w lo hi a n l) (hb : Beside lo' hi' w w') (hd : hi ≤ lo' ∨ hi' ≤ lo) (hw : hi ≤ w.heap.size) : OwnPrs w' lo hi a n l :=
  h.kept fun j h1 h2 => hb.block j (by omega) (by omega)

/-- What markRowS leaves in an element. -/
def markPrV (K : Nat) : PrV := ⟨mkT K, ((K + 1 : Nat) : Int)⟩
def PrMarks (k n : Nat) : List PrV := (List.range n).map fun i => markPrV (k + 2 * i)
theorem PrMarks_len (k n : Nat) : (PrMarks k n).length = n := by simp [PrMarks]
theorem PrMarks_at {k n i : Nat} (h : i < n) : (PrMarks k n).getD i PrV.zero = markPrV (k + 2 * i) := by
  rw [List.getD_eq_getElem?_getD]
  simp [PrMarks, h]
def mvalPr (K u : Nat) : Value := if u = 0 then .string (mkT K) else .int .i64 ((K + 1 : Nat) : Int)
theorem PrIn_of_mvals {cs : Array Value} {off K : Nat} (h : ∀ u, u < 2 → cs[off + u]? = some (mvalPr K u)) : PrIn cs off (markPrV K) := ⟨h 0 (by omega), h 1 (by omega)⟩
/-- How far the marking has come: j elements, and f fields of the next one. -/
structure MPr (g off n k j f : Nat) (w wr : World) : Prop where
  bes : Beside g (g + 1) w wr
  row : ∃ cs : Array Value, wr.heap[g]? = some (.cells cs 125 (0, 0)) ∧ off + n * 2 ≤ cs.size ∧ (∀ t, t < j → PrIn cs (off + t * 2) (markPrV (k + 2 * t))) ∧ ∀ u, u < f → cs[off + j * 2 + u]? = some (mvalPr (k + 2 * j) u)
theorem MPr.step {g off n k j f : Nat} {w w1 w2 : World} (h : MPr g off n k j f w w1) (hb : Below w1.heap.size w1 w2) : MPr g off n k j f w w2 := by
  obtain ⟨hbs, cs, hg, r⟩ := h
  exact ⟨hbs.step hb, cs, (hb.block _ (Array.getElem?_eq_some_iff.1 hg).1).trans hg, r⟩
theorem MPr.cell {g off n k j f : Nat} {w wr : World} (h : MPr g off n k j f w wr) (hj : j < n) (u : Nat) (hu : u < 2) : (∃ v, wr.cell? ⟨g, off + j * 2 + u, none⟩ = some v) ∧ wr.frozen? ⟨g, off + j * 2 + u, none⟩ = false := by
  obtain ⟨_, cs, hg, hs, _⟩ := h
  exact ⟨⟨cs[off + j * 2 + u]'(by omega), (cell_of_row _ _ _ _ _ _ hg).trans (Array.getElem?_eq_getElem (by omega))⟩, frozen_of_row _ _ _ _ _ hg⟩
theorem PrIn_far {cs : Array Value} {off m : Nat} {o : PrV} {v : Value} (h : PrIn cs off o) (hm : m < off ∨ off + 2 ≤ m) : PrIn (cs.setIfInBounds m v) off o := by
  obtain ⟨h0, h1⟩ := h
  exact ⟨(Array.getElem?_setIfInBounds_ne (by omega)).trans h0, (Array.getElem?_setIfInBounds_ne (by omega)).trans h1⟩
theorem MPr.put {g off n k j f : Nat} {w wr : World} (h : MPr g off n k j f w wr) (hj : j < n) (hf : f < 2) {v : Value} (hv : v = mvalPr (k + 2 * j) f) : MPr g off n k j (f + 1) w (wr.setCell ⟨g, off + j * 2 + f, none⟩ v) := by
  obtain ⟨hbs, cs, hg, hs, ho, hu⟩ := h
  refine ⟨hbs.put, cs.setIfInBounds (off + j * 2 + f) v, heap_setCell_same _ _ _ _ _ _ hg, by simpa using hs, fun t ht => PrIn_far (ho t ht) (by omega), fun u hu' => ?_⟩
  rw [Array.getElem?_setIfInBounds]
  by_cases e : f = u
  · subst e
    rw [if_pos rfl, if_pos (by omega), hv]
  · rw [if_neg (by omega)]
    exact hu u (by omega)
theorem MPr.next {g off n k j : Nat} {w wr : World} (h : MPr g off n k j 2 w wr) : MPr g off n k (j + 1) 0 w wr := by
  obtain ⟨hbs, cs, hg, hs, ho, hu⟩ := h
  refine ⟨hbs, cs, hg, hs, fun t ht => ?_, fun u hu' => absurd hu' (by omega)⟩
  rcases Nat.lt_or_ge t j with h1 | h1
  · exact ho t h1
  · obtain rfl : t = j := by omega
    exact PrIn_of_mvals hu
def PrMarked (k n lo hi : Nat) (a : Option Addr) (w : World) (e : Ending) (w' : World) : Prop :=
  (∃ m : Nat, m = k + 2 * n ∧ e = .returned (.int .i64 (m : Int))) ∧ OwnPrs w' lo hi a n (PrMarks k n) ∧ Beside lo hi w w'
theorem MPr.marked {g off n k lo hi m : Nat} {w wr : World} (h : MPr g off n k n 0 w wr) (h1 : lo ≤ g) (h2 : g < hi) (hm : m = k + 2 * n) : PrMarked k n lo hi (some ⟨g, off, none⟩) w (.returned (.int .i64 (m : Int))) wr := by
  obtain ⟨hbs, cs, hg, hs, ho, _⟩ := h
  exact ⟨⟨m, hm, rfl⟩, ⟨PrMarks_len _ _, fun _ => ⟨g, off, cs, rfl, h1, h2, hg, hs, fun i hi' => by rw [PrMarks_at hi']; exact ho i hi'⟩⟩, hbs.wide h1 h2⟩

set_option maxRecDepth 100000 in
set_option maxHeartbeats 4000000 in
theorem markPrs (w : World) (lo hi : Nat) (a : Option Addr) (n cap : Nat) (l : List PrV) (h : OwnPrs w lo hi a n l) (k : Nat) (hk0 : 0 < k) (hk : k ≤ 20000000) (hn : n ≤ 1048576) :
    Calls Try.prog 39 #[.slice a n cap, .int .i64 (k : Int)] w (PrMarked k n lo hi a w) := by
  by_cases h0 : 0 < n
  · obtain ⟨g, off, cs, rfl, hlo, hhi, hg, hs, hc⟩ := h.2 h0
    have HM0 : Hid (MPr g off n k 0 0 w w) := ⟨Beside.refl _ _ _, cs, hg, hs, fun t ht => absurd ht (by omega), fun u hu => absurd hu (by omega)⟩
    have hgw := (Array.getElem?_eq_some_iff.1 hg).1
    clear h hg hs hc
    go_enter Try.func39, Try.ntmps39
    go_wp2
    go_loopw [1, 5] (fun m i wr => ∃ j q : Nat, j ≤ n ∧ i = .int .i64 (j : Int) ∧ m = .int .i64 (q : Int) ∧ Hid (q = k + 2 * j) ∧ Hid (MPr g off n k j 0 w wr)) (fun _ i _ => n - (intOf i).toNat)
    case atStart => exact ⟨0, k, by omega, rfl, rfl, rfl, HM0⟩
    case round =>
      obtain ⟨j, q0, hj, rfl, rfl, HQ0, HM0⟩ := hrel
      have hq0 : 0 < q0 ∧ q0 ≤ 30000000 := by have := HQ0.out; omega
      obtain ⟨hq0a, hq0b⟩ := hq0
      by_cases hlt : j < n
      rotate_left
      · obtain rfl : j = n := by omega
        have HF := Lib.hid (HM0.out.marked hlo hhi HQ0.out)
        go_wp2
        go_ret
        exact HF.out
      go_wp2_with fail
      refine (markText (q0 : Int) q0 rfl (by omega) (by omega) _).mono ?_
      rintro e z0 ⟨rfl, hb4⟩
      have HM0' := Lib.hid (HM0.out.step hb4)
      clear HM0 hb4
      obtain ⟨⟨v0, c0⟩, f0⟩ := HM0'.out.cell hlt 0 (by omega)
      simp only [Nat.add_zero] at c0 f0
      have HM1 : Hid (MPr g off n k j 1 w (z0.setCell ⟨g, off + j * 2, none⟩ (.string (mkT q0)))) := HM0'.out.put hlt (by omega) (by rw [HQ0.out]; rfl)
      go_upto_region 5 with fail
      generalize z0.setCell ⟨g, off + j * 2, none⟩ (.string (mkT q0)) = y1 at HM1 ⊢
      clear c0 f0 HM0' v0
      go_upto_region 6 with fail
      obtain ⟨q1, hqe⟩ : ∃ q : Nat, q = q0 + 1 := ⟨_, rfl⟩
      have hqi : (q0 : Int) + 1 = (q1 : Int) := by omega
      have HQ1 : Hid (q1 = k + 2 * j + 1) := by have := HQ0.out; show _ = _; omega
      have hq1a : 0 < q1 := by omega
      have hq1b : q1 ≤ 30000001 := by omega
      rw [hqi]
      clear hqi hqe hq0a hq0b HQ0
      obtain ⟨⟨v1, c1⟩, f1⟩ := HM1.out.cell hlt 1 (by omega)
      have HM2 : Hid (MPr g off n k j 2 w (y1.setCell ⟨g, off + j * 2 + 1, none⟩ (.int .i64 (q1 : Int)))) := HM1.out.put hlt (by omega) (by rw [HQ1.out]; rfl)
      go_upto_region 7 with fail
      generalize y1.setCell ⟨g, off + j * 2 + 1, none⟩ (.int .i64 (q1 : Int)) = y2 at HM2 ⊢
      clear c1 f1 HM1 v1
      have HMn := Lib.hid HM2.out.next
      go_wp2
      go_roundw
      case rel => exact ⟨j + 1, q1 + 1, by omega, by go_num, by go_num, (by have := HQ1.out; show q1 + 1 = k + 2 * (j + 1); omega), HMn⟩
      case measure => simp [intOf]; omega
  · obtain rfl : n = 0 := by omega
    have HL := Lib.hid h.1
    clear h
    go_enter Try.func39, Try.ntmps39
    go_wp2
    refine wp_loop_rounds 1 ?_
    rw [rounds_succ]
    go_wp2
    go_ret
    exact ⟨⟨k, rfl, rfl⟩, ⟨rfl, fun hn => absurd hn (by omega)⟩, Beside.refl _ _ _⟩
end Go.Proofs.Ytdbdmfaphdjdpaa
namespace Go.Proofs.Ytdbdmfaphdjdpaa
open Go.RowKit
set_option linter.unusedVariables false
/-- The cells of an element in a row. -/
def OfIn (cs : Array Value) (off : Nat) (o : OfV) : Prop := cs[off]? = some (.string o.item) ∧ cs[off + 1]? = some (.int .i64 o.buy) ∧ cs[off + 2]? = some (.int .i64 o.free)
theorem OfIn.at {w : World} {g off : Nat} {T : TypeId} {cs : Array Value} {o : OfV} (hg : w.heap[g]? = some (.cells cs T (0, 0))) (h : OfIn cs off o) : OfAt w g off o := by
  obtain ⟨h0, h1, h2⟩ := h
  exact ⟨(cell_of_row _ _ _ _ _ _ hg).trans h0, (cell_of_row _ _ _ _ _ _ hg).trans h1, (cell_of_row _ _ _ _ _ _ hg).trans h2⟩
/-- A slice of them whose row, if it has elements, is a block between lo and hi. -/
def OwnOfs (w : World) (lo hi : Nat) (a : Option Addr) (n : Nat) (l : List OfV) : Prop :=
  l.length = n ∧ (0 < n → ∃ g off cs, a = some ⟨g, off, none⟩ ∧ lo ≤ g ∧ g < hi ∧ w.heap[g]? = some (.cells cs 120 (0, 0)) ∧ off + n * 3 ≤ cs.size ∧ ∀ i, i < n → OfIn cs (off + i * 3) (l.getD i OfV.zero))
theorem OwnOfs.rows {w : World} {lo hi : Nat} {a : Option Addr} {n : Nat} {l : List OfV} (h : OwnOfs w lo hi a n l) : Ofs w hi a n l :=
  ⟨h.1, fun i hi' => by
    obtain ⟨g, off, cs, e, _, h2, hg, _, hc⟩ := h.2 (by omega)
    exact ⟨g, off, e, h2, (hc i hi').at hg⟩⟩
theorem OwnOfs.kept {w w' : World} {lo hi : Nat} {a : Option Addr} {n : Nat} {l : List OfV} (h : OwnOfs w lo hi a n l) (hk : ∀ j, lo ≤ j → j < hi → w'.heap[j]? = w.heap[j]?) : OwnOfs w' lo hi a n l :=
  ⟨h.1, fun hn => by
    obtain ⟨g, off, cs, e, h1, h2, hg, hs, hc⟩ := h.2 hn
    exact ⟨g, off, cs, e, h1, h2, (hk g h1 h2).trans hg, hs, hc⟩⟩
theorem OwnOfs.below {w w' : World} {lo hi B : Nat} {a : Option Addr} {n : Nat} {l : List OfV} (h : OwnOfs w lo hi a n l) (hb : Below B w w') (hB : hi ≤ B) : OwnOfs w' lo hi a n l :=
  h.kept fun j _ h2 => hb.block j (by omega)
theorem OwnOfs.more {w : World} {lo hi lo' hi' : Nat} {a : Option Addr} {n : Nat} {l : List OfV} (h : OwnOfs w lo hi a n l) (h1 : lo' ≤ lo) (h2 : hi ≤ hi') : OwnOfs w lo' hi' a n l :=
  ⟨h.1, fun hn => by
    obtain ⟨g, off, cs, e, a1, a2, r⟩ := h.2 hn
    exact ⟨g, off, cs, e, by omega, by omega, r⟩⟩
theorem own_noOf (w : World) (lo hi : Nat) (a : Option Addr) : OwnOfs w lo hi a 0 [] := ⟨rfl, fun h => absurd h (by omega)⟩
/-- What a call answers that hands back a list of them of its own. -/
def OfPost (l : List OfV) (w : World) (e : Ending) (w' : World) : Prop := ∃ a c, e = .returned (.slice a l.length c) ∧ OwnOfs w' w.heap.size w'.heap.size a l.length l ∧ Below w.heap.size w w'
theorem OwnOfs.beside {w w' : World} {lo hi lo' hi' : Nat} {a : Option Addr} {n : Nat} {l : List OfV} (h : OwnOfs w lo hi a n l) (hb : Beside lo' hi' w w') (hd : hi ≤ lo' ∨ hi' ≤ lo) (hw : hi ≤ w.heap.size) : OwnOfs w' lo hi a n l :=
  h.kept fun j h1 h2 => hb.block j (by omega) (by omega)

/-- What markRowS leaves in an element. -/
def markOfV (K : Nat) : OfV := ⟨mkT K, ((K + 1 : Nat) : Int), ((K + 2 : Nat) : Int)⟩
def OfMarks (k n : Nat) : List OfV := (List.range n).map fun i => markOfV (k + 3 * i)
theorem OfMarks_len (k n : Nat) : (OfMarks k n).length = n := by simp [OfMarks]
theorem OfMarks_at {k n i : Nat} (h : i < n) : (OfMarks k n).getD i OfV.zero = markOfV (k + 3 * i) := by
  rw [List.getD_eq_getElem?_getD]
  simp [OfMarks, h]
def mvalOf (K u : Nat) : Value := if u = 0 then .string (mkT K) else if u = 1 then .int .i64 ((K + 1 : Nat) : Int) else .int .i64 ((K + 2 : Nat) : Int)
theorem OfIn_of_mvals {cs : Array Value} {off K : Nat} (h : ∀ u, u < 3 → cs[off + u]? = some (mvalOf K u)) : OfIn cs off (markOfV K) := ⟨h 0 (by omega), h 1 (by omega), h 2 (by omega)⟩
/-- How far the marking has come: j elements, and f fields of the next one. -/
structure MOf (g off n k j f : Nat) (w wr : World) : Prop where
  bes : Beside g (g + 1) w wr
  row : ∃ cs : Array Value, wr.heap[g]? = some (.cells cs 120 (0, 0)) ∧ off + n * 3 ≤ cs.size ∧ (∀ t, t < j → OfIn cs (off + t * 3) (markOfV (k + 3 * t))) ∧ ∀ u, u < f → cs[off + j * 3 + u]? = some (mvalOf (k + 3 * j) u)
theorem MOf.step {g off n k j f : Nat} {w w1 w2 : World} (h : MOf g off n k j f w w1) (hb : Below w1.heap.size w1 w2) : MOf g off n k j f w w2 := by
  obtain ⟨hbs, cs, hg, r⟩ := h
  exact ⟨hbs.step hb, cs, (hb.block _ (Array.getElem?_eq_some_iff.1 hg).1).trans hg, r⟩
theorem MOf.cell {g off n k j f : Nat} {w wr : World} (h : MOf g off n k j f w wr) (hj : j < n) (u : Nat) (hu : u < 3) : (∃ v, wr.cell? ⟨g, off + j * 3 + u, none⟩ = some v) ∧ wr.frozen? ⟨g, off + j * 3 + u, none⟩ = false := by
  obtain ⟨_, cs, hg, hs, _⟩ := h
  exact ⟨⟨cs[off + j * 3 + u]'(by omega), (cell_of_row _ _ _ _ _ _ hg).trans (Array.getElem?_eq_getElem (by omega))⟩, frozen_of_row _ _ _ _ _ hg⟩
theorem OfIn_far {cs : Array Value} {off m : Nat} {o : OfV} {v : Value} (h : OfIn cs off o) (hm : m < off ∨ off + 3 ≤ m) : OfIn (cs.setIfInBounds m v) off o := by
  obtain ⟨h0, h1, h2⟩ := h
  exact ⟨(Array.getElem?_setIfInBounds_ne (by omega)).trans h0, (Array.getElem?_setIfInBounds_ne (by omega)).trans h1, (Array.getElem?_setIfInBounds_ne (by omega)).trans h2⟩
theorem MOf.put {g off n k j f : Nat} {w wr : World} (h : MOf g off n k j f w wr) (hj : j < n) (hf : f < 3) {v : Value} (hv : v = mvalOf (k + 3 * j) f) : MOf g off n k j (f + 1) w (wr.setCell ⟨g, off + j * 3 + f, none⟩ v) := by
  obtain ⟨hbs, cs, hg, hs, ho, hu⟩ := h
  refine ⟨hbs.put, cs.setIfInBounds (off + j * 3 + f) v, heap_setCell_same _ _ _ _ _ _ hg, by simpa using hs, fun t ht => OfIn_far (ho t ht) (by omega), fun u hu' => ?_⟩
  rw [Array.getElem?_setIfInBounds]
  by_cases e : f = u
  · subst e
    rw [if_pos rfl, if_pos (by omega), hv]
  · rw [if_neg (by omega)]
    exact hu u (by omega)
theorem MOf.next {g off n k j : Nat} {w wr : World} (h : MOf g off n k j 3 w wr) : MOf g off n k (j + 1) 0 w wr := by
  obtain ⟨hbs, cs, hg, hs, ho, hu⟩ := h
  refine ⟨hbs, cs, hg, hs, fun t ht => ?_, fun u hu' => absurd hu' (by omega)⟩
  rcases Nat.lt_or_ge t j with h1 | h1
  · exact ho t h1
  · obtain rfl : t = j := by omega
    exact OfIn_of_mvals hu
def OfMarked (k n lo hi : Nat) (a : Option Addr) (w : World) (e : Ending) (w' : World) : Prop :=
  (∃ m : Nat, m = k + 3 * n ∧ e = .returned (.int .i64 (m : Int))) ∧ OwnOfs w' lo hi a n (OfMarks k n) ∧ Beside lo hi w w'
theorem MOf.marked {g off n k lo hi m : Nat} {w wr : World} (h : MOf g off n k n 0 w wr) (h1 : lo ≤ g) (h2 : g < hi) (hm : m = k + 3 * n) : OfMarked k n lo hi (some ⟨g, off, none⟩) w (.returned (.int .i64 (m : Int))) wr := by
  obtain ⟨hbs, cs, hg, hs, ho, _⟩ := h
  exact ⟨⟨m, hm, rfl⟩, ⟨OfMarks_len _ _, fun _ => ⟨g, off, cs, rfl, h1, h2, hg, hs, fun i hi' => by rw [OfMarks_at hi']; exact ho i hi'⟩⟩, hbs.wide h1 h2⟩

set_option maxRecDepth 100000 in
set_option maxHeartbeats 4000000 in
theorem markOfs (w : World) (lo hi : Nat) (a : Option Addr) (n cap : Nat) (l : List OfV) (h : OwnOfs w lo hi a n l) (k : Nat) (hk0 : 0 < k) (hk : k ≤ 20000000) (hn : n ≤ 1048576) :
    Calls Try.prog 40 #[.slice a n cap, .int .i64 (k : Int)] w (OfMarked k n lo hi a w) := by
  by_cases h0 : 0 < n
  · obtain ⟨g, off, cs, rfl, hlo, hhi, hg, hs, hc⟩ := h.2 h0
    have HM0 : Hid (MOf g off n k 0 0 w w) := ⟨Beside.refl _ _ _, cs, hg, hs, fun t ht => absurd ht (by omega), fun u hu => absurd hu (by omega)⟩
    have hgw := (Array.getElem?_eq_some_iff.1 hg).1
    clear h hg hs hc
    go_enter Try.func40, Try.ntmps40
    go_wp2
    go_loopw [1, 5] (fun m i wr => ∃ j q : Nat, j ≤ n ∧ i = .int .i64 (j : Int) ∧ m = .int .i64 (q : Int) ∧ Hid (q = k + 3 * j) ∧ Hid (MOf g off n k j 0 w wr)) (fun _ i _ => n - (intOf i).toNat)
    case atStart => exact ⟨0, k, by omega, rfl, rfl, rfl, HM0⟩
    case round =>
      obtain ⟨j, q0, hj, rfl, rfl, HQ0, HM0⟩ := hrel
      have hq0 : 0 < q0 ∧ q0 ≤ 30000000 := by have := HQ0.out; omega
      obtain ⟨hq0a, hq0b⟩ := hq0
      by_cases hlt : j < n
      rotate_left
      · obtain rfl : j = n := by omega
        have HF := Lib.hid (HM0.out.marked hlo hhi HQ0.out)
        go_wp2
        go_ret
        exact HF.out
      go_wp2_with fail
      refine (markText (q0 : Int) q0 rfl (by omega) (by omega) _).mono ?_
      rintro e z0 ⟨rfl, hb4⟩
      have HM0' := Lib.hid (HM0.out.step hb4)
      clear HM0 hb4
      obtain ⟨⟨v0, c0⟩, f0⟩ := HM0'.out.cell hlt 0 (by omega)
      simp only [Nat.add_zero] at c0 f0
      have HM1 : Hid (MOf g off n k j 1 w (z0.setCell ⟨g, off + j * 3, none⟩ (.string (mkT q0)))) := HM0'.out.put hlt (by omega) (by rw [HQ0.out]; rfl)
      go_upto_region 5 with fail
      generalize z0.setCell ⟨g, off + j * 3, none⟩ (.string (mkT q0)) = y1 at HM1 ⊢
      clear c0 f0 HM0' v0
      go_upto_region 6 with fail
      obtain ⟨q1, hqe⟩ : ∃ q : Nat, q = q0 + 1 := ⟨_, rfl⟩
      have hqi : (q0 : Int) + 1 = (q1 : Int) := by omega
      have HQ1 : Hid (q1 = k + 3 * j + 1) := by have := HQ0.out; show _ = _; omega
      have hq1a : 0 < q1 := by omega
      have hq1b : q1 ≤ 30000001 := by omega
      rw [hqi]
      clear hqi hqe hq0a hq0b HQ0
      obtain ⟨⟨v1, c1⟩, f1⟩ := HM1.out.cell hlt 1 (by omega)
      have HM2 : Hid (MOf g off n k j 2 w (y1.setCell ⟨g, off + j * 3 + 1, none⟩ (.int .i64 (q1 : Int)))) := HM1.out.put hlt (by omega) (by rw [HQ1.out]; rfl)
      go_upto_region 7 with fail
      generalize y1.setCell ⟨g, off + j * 3 + 1, none⟩ (.int .i64 (q1 : Int)) = y2 at HM2 ⊢
      clear c1 f1 HM1 v1
      go_upto_region 8 with fail
      obtain ⟨q2, hqe⟩ : ∃ q : Nat, q = q1 + 1 := ⟨_, rfl⟩
      have hqi : (q1 : Int) + 1 = (q2 : Int) := by omega
      have HQ2 : Hid (q2 = k + 3 * j + 2) := by have := HQ1.out; show _ = _; omega
      have hq2a : 0 < q2 := by omega
      have hq2b : q2 ≤ 30000002 := by omega
      rw [hqi]
      clear hqi hqe hq1a hq1b HQ1
      obtain ⟨⟨v2, c2⟩, f2⟩ := HM2.out.cell hlt 2 (by omega)
      have HM3 : Hid (MOf g off n k j 3 w (y2.setCell ⟨g, off + j * 3 + 2, none⟩ (.int .i64 (q2 : Int)))) := HM2.out.put hlt (by omega) (by rw [HQ2.out]; rfl)
      go_upto_region 9 with fail
      generalize y2.setCell ⟨g, off + j * 3 + 2, none⟩ (.int .i64 (q2 : Int)) = y3 at HM3 ⊢
      clear c2 f2 HM2 v2
      have HMn := Lib.hid HM3.out.next
      go_wp2
      go_roundw
      case rel => exact ⟨j + 1, q2 + 1, by omega, by go_num, by go_num, (by have := HQ2.out; show q2 + 1 = k + 3 * (j + 1); omega), HMn⟩
      case measure => simp [intOf]; omega
  · obtain rfl : n = 0 := by omega
    have HL := Lib.hid h.1
    clear h
    go_enter Try.func40, Try.ntmps40
    go_wp2
    refine wp_loop_rounds 1 ?_
    rw [rounds_succ]
    go_wp2
    go_ret
    exact ⟨⟨k, rfl, rfl⟩, ⟨rfl, fun hn => absurd hn (by omega)⟩, Beside.refl _ _ _⟩
end Go.Proofs.Ytdbdmfaphdjdpaa
namespace Go.Proofs.Ytdbdmfaphdjdpaa
open Go.RowKit
set_option linter.unusedVariables false
set_option linter.unusedSimpArgs false

theorem ownLn_of {w wr : World} {n : Nat} {l : List LnV} (h : PartLn w wr w.heap.size n l n) (hl : l.length = n) : OwnLns wr w.heap.size (w.heap.size + 1) (some ⟨w.heap.size, 0, none⟩) n l := by
  obtain ⟨_, cs, hg, hs, hc⟩ := h
  refine ⟨hl, fun _ => ⟨w.heap.size, 0, cs, rfl, Nat.le_refl _, by omega, hg, by omega, fun i hi => ?_⟩⟩
  have := hc i hi
  rw [Nat.zero_add]
  exact this
set_option maxRecDepth 100000 in
set_option maxHeartbeats 1000000 in
theorem toLnsO (w : World) (B : Nat) (a : Option Addr) (n cap : Nat) (l : List LnV) (h : Lns w B a n l) (hB : B ≤ w.heap.size) (hl : n ≤ 1048576) :
    Calls Try.prog 30 #[.slice a n cap] w fun e w' => FreshLn l w e w' ∧ OwnLns w' w.heap.size (w.heap.size + 1) (some ⟨w.heap.size, 0, none⟩) l.length l := by
  obtain ⟨i0, hi, hz0, hz1, hz2⟩ := info_parts Try.infoLn
  obtain ⟨M, hM⟩ : ∃ M, M = madeCells (Value.agg #[.string ⟨#[]⟩, .int .i64 0, .bool false]).cells (((n : Nat) : Int).toNat * i0.size) := ⟨_, rfl⟩
  have hMs : M.size = n * 3 := by rw [hM, size_madeCells, hz1]; simp
  have hmk : ∀ W : World, (Instr.makeSlice 51 (.int .i64 (n : Int)) (.int .i64 (n : Int))).run Try.prog W = .ok (.slice (some ⟨W.heap.size, 0, none⟩) n n) (W.alloc (.cells M 117)) := fun W => by
    have h := run_make (P := Try.prog) W 51 117 i0 (.agg #[.string ⟨#[]⟩, .int .i64 0, .bool false]) Try.underlying51 hi hz0 .i64 .i64 (n : Int) (n : Int) (by omega) (by omega) (by rw [hz2]; omega) (by omega)
    rw [← hM] at h
    simpa using h
  have hL := Lib.hid h.1
  have H := Lib.hid h
  have HM := Lib.hid hMs
  clear hM h hMs hi hz0 hz1 hz2
  go_enter Try.func30, Try.ntmps30
  go_wp2
  go_loopw [4] (fun i wr => ∃ k : Nat, k ≤ n ∧ i = .int .i64 k ∧ Hid (PartLn w wr w.heap.size n l k) ∧ Hid (w.heap.size < wr.heap.size)) (fun i _ => n - (intOf i).toNat)
  case atStart => exact ⟨0, Nat.zero_le _, rfl, ⟨(Below.refl _ _).alloc (Nat.le_refl _) _, M, heap_alloc_new _ _, HM.out, fun j hj => by omega⟩, (by show _ < (w.heap.push _).size; simp)⟩
  case round =>
    obtain ⟨k, hk, rfl, HP, HW⟩ := hrel
    by_cases hlt : k < n
    · obtain ⟨b, off, rfl, hb, ho⟩ := H.out.2 k hlt
      obtain ⟨c0, c1, c2⟩ := ho.kept (HP.out.1.block b (by omega))
      clear ho
      generalize ho' : l.getD k LnV.zero = x at c0 c1 c2
      have HXo := Lib.hid ho'
      clear ho'
      go_wp2_with fail
      refine (toLnE x.item x.qty x.saved _).mono ?_
      rintro e w1 ⟨rfl, hb1⟩
      clear c0 c1 c2
      have HP1 := Lib.hid (HP.out.next hb1)
      have hw1 : w.heap.size < w1.heap.size := by have := HW.out; have := hb1.size; omega
      have HS : Hid (PartLn w (LnsetAt w1 w.heap.size (k * 3) x) w.heap.size n l (k + 1)) := by have := HP1.out.step (Nat.le_refl _) hlt; rw [HXo.out] at this; exact this
      obtain ⟨v0, v1, v2, d0, d1, d2⟩ := HP1.out.cells hlt
      have f0 := HP1.out.frozen (k * 3)
      have f1 := HP1.out.frozen (k * 3 + 1)
      have f2 := HP1.out.frozen (k * 3 + 2)
      have hsz : (LnsetAt w1 w.heap.size (k * 3) x).heap.size = w1.heap.size := by unfold LnsetAt; simp [World.setCell]
      clear hb1 HP HP1 HW
      go_wp2
      go_roundw
      case rel => exact ⟨k + 1, by omega, by go_num, HS, (by show _ < (LnsetAt w1 w.heap.size (k * 3) x).heap.size; rw [hsz]; exact hw1)⟩
      case measure => simp [intOf]; omega
    · obtain rfl : k = n := by omega
      have HD := Lib.hid (HP.out.done hL.out HW.out)
      go_wp2
      go_ret
      exact ⟨⟨by rw [hL.out]; rfl, by rw [hL.out]; exact HD.out, HW.out, HP.out.1⟩, by rw [hL.out]; exact ownLn_of HP.out hL.out⟩

theorem ownPr_of {w wr : World} {n : Nat} {l : List PrV} (h : PartPr w wr w.heap.size n l n) (hl : l.length = n) : OwnPrs wr w.heap.size (w.heap.size + 1) (some ⟨w.heap.size, 0, none⟩) n l := by
  obtain ⟨_, cs, hg, hs, hc⟩ := h
  refine ⟨hl, fun _ => ⟨w.heap.size, 0, cs, rfl, Nat.le_refl _, by omega, hg, by omega, fun i hi => ?_⟩⟩
  have := hc i hi
  rw [Nat.zero_add]
  exact this
set_option maxRecDepth 100000 in
set_option maxHeartbeats 1000000 in
theorem toPrsO (w : World) (B : Nat) (a : Option Addr) (n cap : Nat) (l : List PrV) (h : Prs w B a n l) (hB : B ≤ w.heap.size) (hl : n ≤ 1048576) :
    Calls Try.prog 31 #[.slice a n cap] w fun e w' => FreshPr l w e w' ∧ OwnPrs w' w.heap.size (w.heap.size + 1) (some ⟨w.heap.size, 0, none⟩) l.length l := by
  obtain ⟨i0, hi, hz0, hz1, hz2⟩ := info_parts Try.infoPr
  obtain ⟨M, hM⟩ : ∃ M, M = madeCells (Value.agg #[.string ⟨#[]⟩, .int .i64 0]).cells (((n : Nat) : Int).toNat * i0.size) := ⟨_, rfl⟩
  have hMs : M.size = n * 2 := by rw [hM, size_madeCells, hz1]; simp
  have hmk : ∀ W : World, (Instr.makeSlice 53 (.int .i64 (n : Int)) (.int .i64 (n : Int))).run Try.prog W = .ok (.slice (some ⟨W.heap.size, 0, none⟩) n n) (W.alloc (.cells M 125)) := fun W => by
    have h := run_make (P := Try.prog) W 53 125 i0 (.agg #[.string ⟨#[]⟩, .int .i64 0]) Try.underlying53 hi hz0 .i64 .i64 (n : Int) (n : Int) (by omega) (by omega) (by rw [hz2]; omega) (by omega)
    rw [← hM] at h
    simpa using h
  have hL := Lib.hid h.1
  have H := Lib.hid h
  have HM := Lib.hid hMs
  clear hM h hMs hi hz0 hz1 hz2
  go_enter Try.func31, Try.ntmps31
  go_wp2
  go_loopw [4] (fun i wr => ∃ k : Nat, k ≤ n ∧ i = .int .i64 k ∧ Hid (PartPr w wr w.heap.size n l k) ∧ Hid (w.heap.size < wr.heap.size)) (fun i _ => n - (intOf i).toNat)
  case atStart => exact ⟨0, Nat.zero_le _, rfl, ⟨(Below.refl _ _).alloc (Nat.le_refl _) _, M, heap_alloc_new _ _, HM.out, fun j hj => by omega⟩, (by show _ < (w.heap.push _).size; simp)⟩
  case round =>
    obtain ⟨k, hk, rfl, HP, HW⟩ := hrel
    by_cases hlt : k < n
    · obtain ⟨b, off, rfl, hb, ho⟩ := H.out.2 k hlt
      obtain ⟨c0, c1⟩ := ho.kept (HP.out.1.block b (by omega))
      clear ho
      generalize ho' : l.getD k PrV.zero = x at c0 c1
      have HXo := Lib.hid ho'
      clear ho'
      go_wp2_with fail
      refine (toPrE x.item x.cents _).mono ?_
      rintro e w1 ⟨rfl, hb1⟩
      clear c0 c1
      have HP1 := Lib.hid (HP.out.next hb1)
      have hw1 : w.heap.size < w1.heap.size := by have := HW.out; have := hb1.size; omega
      have HS : Hid (PartPr w (PrsetAt w1 w.heap.size (k * 2) x) w.heap.size n l (k + 1)) := by have := HP1.out.step (Nat.le_refl _) hlt; rw [HXo.out] at this; exact this
      obtain ⟨v0, v1, d0, d1⟩ := HP1.out.cells hlt
      have f0 := HP1.out.frozen (k * 2)
      have f1 := HP1.out.frozen (k * 2 + 1)
      have hsz : (PrsetAt w1 w.heap.size (k * 2) x).heap.size = w1.heap.size := by unfold PrsetAt; simp [World.setCell]
      clear hb1 HP HP1 HW
      go_wp2
      go_roundw
      case rel => exact ⟨k + 1, by omega, by go_num, HS, (by show _ < (PrsetAt w1 w.heap.size (k * 2) x).heap.size; rw [hsz]; exact hw1)⟩
      case measure => simp [intOf]; omega
    · obtain rfl : k = n := by omega
      have HD := Lib.hid (HP.out.done hL.out HW.out)
      go_wp2
      go_ret
      exact ⟨⟨by rw [hL.out]; rfl, by rw [hL.out]; exact HD.out, HW.out, HP.out.1⟩, by rw [hL.out]; exact ownPr_of HP.out hL.out⟩

theorem ownOf_of {w wr : World} {n : Nat} {l : List OfV} (h : PartOf w wr w.heap.size n l n) (hl : l.length = n) : OwnOfs wr w.heap.size (w.heap.size + 1) (some ⟨w.heap.size, 0, none⟩) n l := by
  obtain ⟨_, cs, hg, hs, hc⟩ := h
  refine ⟨hl, fun _ => ⟨w.heap.size, 0, cs, rfl, Nat.le_refl _, by omega, hg, by omega, fun i hi => ?_⟩⟩
  have := hc i hi
  rw [Nat.zero_add]
  exact this
set_option maxRecDepth 100000 in
set_option maxHeartbeats 1000000 in
theorem toOfsO (w : World) (B : Nat) (a : Option Addr) (n cap : Nat) (l : List OfV) (h : Ofs w B a n l) (hB : B ≤ w.heap.size) (hl : n ≤ 1048576) :
    Calls Try.prog 32 #[.slice a n cap] w fun e w' => FreshOf l w e w' ∧ OwnOfs w' w.heap.size (w.heap.size + 1) (some ⟨w.heap.size, 0, none⟩) l.length l := by
  obtain ⟨i0, hi, hz0, hz1, hz2⟩ := info_parts Try.infoOf
  obtain ⟨M, hM⟩ : ∃ M, M = madeCells (Value.agg #[.string ⟨#[]⟩, .int .i64 0, .int .i64 0]).cells (((n : Nat) : Int).toNat * i0.size) := ⟨_, rfl⟩
  have hMs : M.size = n * 3 := by rw [hM, size_madeCells, hz1]; simp
  have hmk : ∀ W : World, (Instr.makeSlice 55 (.int .i64 (n : Int)) (.int .i64 (n : Int))).run Try.prog W = .ok (.slice (some ⟨W.heap.size, 0, none⟩) n n) (W.alloc (.cells M 120)) := fun W => by
    have h := run_make (P := Try.prog) W 55 120 i0 (.agg #[.string ⟨#[]⟩, .int .i64 0, .int .i64 0]) Try.underlying55 hi hz0 .i64 .i64 (n : Int) (n : Int) (by omega) (by omega) (by rw [hz2]; omega) (by omega)
    rw [← hM] at h
    simpa using h
  have hL := Lib.hid h.1
  have H := Lib.hid h
  have HM := Lib.hid hMs
  clear hM h hMs hi hz0 hz1 hz2
  go_enter Try.func32, Try.ntmps32
  go_wp2
  go_loopw [4] (fun i wr => ∃ k : Nat, k ≤ n ∧ i = .int .i64 k ∧ Hid (PartOf w wr w.heap.size n l k) ∧ Hid (w.heap.size < wr.heap.size)) (fun i _ => n - (intOf i).toNat)
  case atStart => exact ⟨0, Nat.zero_le _, rfl, ⟨(Below.refl _ _).alloc (Nat.le_refl _) _, M, heap_alloc_new _ _, HM.out, fun j hj => by omega⟩, (by show _ < (w.heap.push _).size; simp)⟩
  case round =>
    obtain ⟨k, hk, rfl, HP, HW⟩ := hrel
    by_cases hlt : k < n
    · obtain ⟨b, off, rfl, hb, ho⟩ := H.out.2 k hlt
      obtain ⟨c0, c1, c2⟩ := ho.kept (HP.out.1.block b (by omega))
      clear ho
      generalize ho' : l.getD k OfV.zero = x at c0 c1 c2
      have HXo := Lib.hid ho'
      clear ho'
      go_wp2_with fail
      refine (toOfE x.item x.buy x.free _).mono ?_
      rintro e w1 ⟨rfl, hb1⟩
      clear c0 c1 c2
      have HP1 := Lib.hid (HP.out.next hb1)
      have hw1 : w.heap.size < w1.heap.size := by have := HW.out; have := hb1.size; omega
      have HS : Hid (PartOf w (OfsetAt w1 w.heap.size (k * 3) x) w.heap.size n l (k + 1)) := by have := HP1.out.step (Nat.le_refl _) hlt; rw [HXo.out] at this; exact this
      obtain ⟨v0, v1, v2, d0, d1, d2⟩ := HP1.out.cells hlt
      have f0 := HP1.out.frozen (k * 3)
      have f1 := HP1.out.frozen (k * 3 + 1)
      have f2 := HP1.out.frozen (k * 3 + 2)
      have hsz : (OfsetAt w1 w.heap.size (k * 3) x).heap.size = w1.heap.size := by unfold OfsetAt; simp [World.setCell]
      clear hb1 HP HP1 HW
      go_wp2
      go_roundw
      case rel => exact ⟨k + 1, by omega, by go_num, HS, (by show _ < (OfsetAt w1 w.heap.size (k * 3) x).heap.size; rw [hsz]; exact hw1)⟩
      case measure => simp [intOf]; omega
    · obtain rfl : k = n := by omega
      have HD := Lib.hid (HP.out.done hL.out HW.out)
      go_wp2
      go_ret
      exact ⟨⟨by rw [hL.out]; rfl, by rw [hL.out]; exact HD.out, HW.out, HP.out.1⟩, by rw [hL.out]; exact ownOf_of HP.out hL.out⟩

end Go.Proofs.Ytdbdmfaphdjdpaa
