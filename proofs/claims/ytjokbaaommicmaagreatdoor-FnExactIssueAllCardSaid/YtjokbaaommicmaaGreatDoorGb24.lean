/- Walks and mathematics that several claims share, part 24. -/
import Derived.Test.YtjokbaaommicmaaGreatDoorGb23
import Derived.Test.YtjokbaaommicmaaGreatDoorGb18
import Derived.Deep.AppendLies
import Derived.Lib.SliceRun
import Derived.Laws.BytesArg
import Derived.Deep.RegionHeld3
import Derived.Deep.Cut
import Derived.Test.YtjokbaaommicmaaGreatDoorGbA
namespace Go.Proofs.YtjokbaaommicmaaGreatDoor
set_option maxRecDepth 100000
open Go.RowKit

/-- The cells of an operation in a row. -/
def OpIn (cs : Array Value) (off : Nat) (o : OpV) : Prop := cs[off]? = some (.int .i64 o.dev) ∧ cs[off + 1]? = some (.int .i64 o.seq) ∧ cs[off + 2]? = some (.int .i64 o.stamp) ∧ cs[off + 3]? = some (.int .i64 o.kind) ∧ cs[off + 4]? = some (.string o.item) ∧ cs[off + 5]? = some (.int .i64 o.qty) ∧ cs[off + 6]? = some (.int .i64 o.level) ∧ cs[off + 7]? = some (.int .i64 o.undos)
theorem OpIn.at {w : World} {g off : Nat} {T : TypeId} {cs : Array Value} {o : OpV} (hg : w.heap[g]? = some (.cells cs T (0, 0))) (h : OpIn cs off o) : OpAt w g off o := by
 obtain ⟨h0, h1, h2, h3, h4, h5, h6, h7⟩ := h
 exact ⟨(cell_of_row _ _ _ _ _ _ hg).trans h0, (cell_of_row _ _ _ _ _ _ hg).trans h1, (cell_of_row _ _ _ _ _ _ hg).trans h2, (cell_of_row _ _ _ _ _ _ hg).trans h3, (cell_of_row _ _ _ _ _ _ hg).trans h4, (cell_of_row _ _ _ _ _ _ hg).trans h5, (cell_of_row _ _ _ _ _ _ hg).trans h6, (cell_of_row _ _ _ _ _ _ hg).trans h7⟩
/-- A slice of operations whose row, if it has elements, is a block between lo and hi. -/
def OwnOps (w : World) (lo hi : Nat) (a : Option Addr) (n : Nat) (l : List OpV) : Prop :=
 l.length = n ∧ (0 < n → ∃ g off cs, a = some ⟨g, off, none⟩ ∧ lo ≤ g ∧ g < hi ∧ w.heap[g]? = some (.cells cs 93 (0, 0)) ∧ off + n * 8 ≤ cs.size ∧ ∀ i, i < n → OpIn cs (off + i * 8) (l.getD i OpV.zero))
theorem OwnOps.ops {w : World} {lo hi : Nat} {a : Option Addr} {n : Nat} {l : List OpV} (h : OwnOps w lo hi a n l) : Ops w hi a n l :=
 ⟨h.1, fun i hi' => by
  obtain ⟨g, off, cs, e, _, h2, hg, _, hc⟩ := h.2 (by omega)
  exact ⟨g, off, e, h2, (hc i hi').at hg⟩⟩
theorem OwnOps.kept {w w' : World} {lo hi : Nat} {a : Option Addr} {n : Nat} {l : List OpV} (h : OwnOps w lo hi a n l) (hk : ∀ j, lo ≤ j → j < hi → w'.heap[j]? = w.heap[j]?) : OwnOps w' lo hi a n l :=
 ⟨h.1, fun hn => by
  obtain ⟨g, off, cs, e, h1, h2, hg, hs, hc⟩ := h.2 hn
  exact ⟨g, off, cs, e, h1, h2, (hk g h1 h2).trans hg, hs, hc⟩⟩
theorem OwnOps.below {w w' : World} {lo hi B : Nat} {a : Option Addr} {n : Nat} {l : List OpV} (h : OwnOps w lo hi a n l) (hb : Below B w w') (hB : hi ≤ B) : OwnOps w' lo hi a n l :=
 h.kept fun j _ h2 => hb.block j (by omega)
theorem OwnOps.more {w : World} {lo hi lo' hi' : Nat} {a : Option Addr} {n : Nat} {l : List OpV} (h : OwnOps w lo hi a n l) (h1 : lo' ≤ lo) (h2 : hi ≤ hi') : OwnOps w lo' hi' a n l :=
 ⟨h.1, fun hn => by
  obtain ⟨g, off, cs, e, a1, a2, r⟩ := h.2 hn
  exact ⟨g, off, cs, e, by omega, by omega, r⟩⟩
theorem own_none (w : World) (lo hi : Nat) (a : Option Addr) : OwnOps w lo hi a 0 [] := ⟨rfl, fun h => absurd h (by omega)⟩
/-- What a call answers that hands back a list of operations of its own. -/
def OpsPost (l : List OpV) (w : World) (e : Ending) (w' : World) : Prop := ∃ a c, e = .returned (.slice a l.length c) ∧ OwnOps w' w.heap.size w'.heap.size a l.length l ∧ Below w.heap.size w w'

/-- Of the blocks that were there none has turned but those from lo up to hi. -/
structure Beside (lo hi : Nat) (w w' : World) : Prop where
 os : w'.os = w.os
 tape : w'.tape = w.tape
 output : w'.output = w.output
 size : w.heap.size ≤ w'.heap.size
 block : ∀ j, j < w.heap.size → (j < lo ∨ hi ≤ j) → w'.heap[j]? = w.heap[j]?
theorem Beside.refl (lo hi : Nat) (w : World) : Beside lo hi w w := ⟨rfl, rfl, rfl, Nat.le_refl _, fun _ _ _ => rfl⟩
theorem Beside.step {lo hi : Nat} {w w1 w2 : World} (h : Beside lo hi w w1) (hb : Below w1.heap.size w1 w2) : Beside lo hi w w2 :=
 ⟨hb.os.trans h.os, hb.tape.trans h.tape, hb.output.trans h.output, Nat.le_trans h.size hb.size, fun j h1 h2 => (hb.block j (by have := h.size; omega)).trans (h.block j h1 h2)⟩
theorem Beside.put {w wr : World} {g i : Nat} {v : Value} (h : Beside g (g + 1) w wr) : Beside g (g + 1) w (wr.setCell ⟨g, i, none⟩ v) :=
 ⟨h.os, h.tape, h.output, by simpa [World.setCell] using h.size, fun j h1 h2 => (heap_setCell_other _ _ _ _ (by show j ≠ g; omega)).trans (h.block j h1 h2)⟩
theorem Beside.wide {lo hi lo' hi' : Nat} {w w' : World} (h : Beside lo hi w w') (h1 : lo' ≤ lo) (h2 : hi ≤ hi') : Beside lo' hi' w w' :=
 ⟨h.os, h.tape, h.output, h.size, fun j a b => h.block j a (by omega)⟩
theorem Beside.below {lo hi B : Nat} {w w' : World} (h : Beside lo hi w w') (hB : B ≤ lo) (hw : B ≤ w.heap.size) : Below B w w' := ⟨h.os, h.tape, h.output, h.size, fun k hk => h.block k (by omega) (.inl (by omega))⟩
theorem OwnOps.beside {w w' : World} {lo hi lo' hi' : Nat} {a : Option Addr} {n : Nat} {l : List OpV} (h : OwnOps w lo hi a n l) (hb : Beside lo' hi' w w') (hd : hi ≤ lo' ∨ hi' ≤ lo) (hw : hi ≤ w.heap.size) : OwnOps w' lo hi a n l :=
 h.kept fun j h1 h2 => hb.block j (by omega) (by omega)
theorem Ops.beside {w w' : World} {lo hi B : Nat} {a : Option Addr} {n : Nat} {l : List OpV} (h : Ops w B a n l) (hb : Beside lo hi w w') (hd : B ≤ lo) (hw : B ≤ w.heap.size) : Ops w' B a n l :=
 h.kept fun j h1 => hb.block j (by omega) (.inl (by omega))

/-- The text of a mark: the letter m and the digits of a number. -/
def digs : Nat → Nat → ByteArray → ByteArray
 | 0, _, out => out
 | f + 1, k, out => if k = 0 then out else digs f (k / 10) (strOfNums [48 + (k : Int) % 10] ++ out)
def mkT (m : Nat) : ByteArray := ⟨#[109]⟩ ++ digs m m ⟨#[]⟩
theorem digs_zero (f : Nat) (out : ByteArray) : digs f 0 out = out := by cases f <;> rfl
theorem digs_step {f k : Nat} (out : ByteArray) (h : 0 < k) (hf : k ≤ f) : ∃ f', k / 10 ≤ f' ∧ digs f k out = digs f' (k / 10) (strOfNums [48 + (k : Int) % 10] ++ out) := by
 obtain ⟨f', rfl⟩ : ∃ f', f = f' + 1 := ⟨f - 1, by omega⟩
 exact ⟨f', by omega, by show (if k = 0 then out else _) = _; rw [if_neg (by omega)]⟩
theorem run_digit (W : World) (z : Int) : (convert 52 9 (.slice (some ⟨W.heap.size, 0, none⟩) 1 1)).run Tryz.prog (W.alloc (.cells #[.int .u8 z] 5)) = .ok (.string (strOfNums [z])) (W.alloc (.cells #[.int .u8 z] 5)) := by
 refine run_convert_bytes_arg _ 52 5 Tryz.underlying52 Tryz.underlying5 W.heap.size 0 1 1 [z] rfl (fun i hi => ?_) 9 Tryz.underlying9
 rw [cell_of_row _ _ _ _ _ _ (heap_alloc_new W _)]
 match i, hi with
 | 0, _ => rfl
set_option maxHeartbeats 5000000 in
theorem markText (q : Int) (m : Nat) (hq : q = m) (hm : 0 < m) (hm2 : m ≤ 100000000) (w : World) : Calls Tryz.prog 49 #[.int .i64 q] w fun e w' => e = .returned (.string (mkT m)) ∧ Below w.heap.size w w' := by
 subst hq
 have HM : Hid (mkT m = ⟨#[109]⟩ ++ digs m m ⟨#[]⟩) := rfl
 have hmi : (0 : Int) < (m : Int) := by omega
 have hm0 : ¬ m = 0 := by omega
 have hcv := run_digit
 go_enter Tryz.func49, Tryz.ntmps49
 go_wp2
 go_loopw [0, 3] (fun n s wr => ∃ (j : Nat) (out : ByteArray), n = .int .i64 (j : Int) ∧ s = .string out ∧ j ≤ m ∧ out.size + j ≤ m ∧ Hid (∃ f, j ≤ f ∧ digs f j out = digs m m ⟨#[]⟩) ∧ Hid (Below w.heap.size w wr)) (fun n _ _ => (intOf n).toNat)
 case atStart => exact ⟨m, ⟨#[]⟩, rfl, rfl, Nat.le_refl _, (by show 0 + m ≤ m; omega), ⟨m, Nat.le_refl _, rfl⟩, Below.refl _ _⟩
 case round =>
  obtain ⟨j, out, rfl, rfl, hj, hsz, HD, HB⟩ := hrel
  by_cases h0 : 0 < j
  ·have hji : (0 : Int) < (j : Int) := by omega
   have hs0 : (strOfNums [48 + (j : Int) % 10]).size ≤ 1 := by rw [strOfNums_size]; exact Nat.le_refl _
   have hso : out.size ≤ 100000000 := by omega
   have HDn : Hid (∃ f, j / 10 ≤ f ∧ digs f (j / 10) (strOfNums [48 + (j : Int) % 10] ++ out) = digs m m ⟨#[]⟩) := by
    obtain ⟨f, hf, e⟩ := HD.out
    obtain ⟨f', hf', e'⟩ := digs_step out h0 hf
    exact ⟨f', hf', e'.symm.trans e⟩
   have hs1 : (strOfNums [48 + (j : Int) % 10] ++ out).size ≤ 1 + out.size := by rw [ByteArray.size_append, strOfNums_size]; exact Nat.le_refl _
   have HBn := Lib.hid (HB.out.alloc HB.out.size (.cells #[.int .u8 (48 + (j : Int) % 10)] 5))
   go_wp2
   go_roundw
   case rel => exact ⟨j / 10, _, by go_num, rfl, by omega, by omega, HDn, HBn⟩
   case measure => simp [intOf]; omega
  ·obtain rfl : j = 0 := by omega
   have HE : Hid (digs m m ⟨#[]⟩ = out) := by
    obtain ⟨f, _, e⟩ := HD.out
    rw [digs_zero] at e
    exact e.symm
   go_wp2
   go_ret
   exact ⟨by rw [HM.out, HE.out]; rfl, HB.out⟩

/-- What markOpS leaves in an operation. -/
def markOp (K : Nat) : OpV := ⟨((K : Nat) : Int), ((K + 1 : Nat) : Int), ((K + 2 : Nat) : Int), ((K + 3 : Nat) : Int), mkT (K + 4), ((K + 5 : Nat) : Int), ((K + 6 : Nat) : Int), ((K + 7 : Nat) : Int)⟩
def opMarks (k n : Nat) : List OpV := (List.range n).map fun i => markOp (k + 8 * i)
theorem opMarks_len (k n : Nat) : (opMarks k n).length = n := by simp [opMarks]
theorem opMarks_at {k n i : Nat} (h : i < n) : (opMarks k n).getD i OpV.zero = markOp (k + 8 * i) := by
 rw [List.getD_eq_getElem?_getD]
 simp [opMarks, h]
def mval (K u : Nat) : Value := if u = 4 then .string (mkT (K + 4)) else .int .i64 ((K + u : Nat) : Int)
theorem opIn_of_mvals {cs : Array Value} {off K : Nat} (h : ∀ u, u < 8 → cs[off + u]? = some (mval K u)) : OpIn cs off (markOp K) :=
 ⟨h 0 (by omega), h 1 (by omega), h 2 (by omega), h 3 (by omega), h 4 (by omega), h 5 (by omega), h 6 (by omega), h 7 (by omega)⟩
/-- How far markOpS has come: j operations are marked, and f fields of the next one. -/
structure MS (g off n k j f : Nat) (w wr : World) : Prop where
 bes : Beside g (g + 1) w wr
 row : ∃ cs : Array Value, wr.heap[g]? = some (.cells cs 93 (0, 0)) ∧ off + n * 8 ≤ cs.size ∧ (∀ t, t < j → OpIn cs (off + t * 8) (markOp (k + 8 * t))) ∧ ∀ u, u < f → cs[off + j * 8 + u]? = some (mval (k + 8 * j) u)
theorem MS.step {g off n k j f : Nat} {w w1 w2 : World} (h : MS g off n k j f w w1) (hb : Below w1.heap.size w1 w2) : MS g off n k j f w w2 := by
 obtain ⟨hbs, cs, hg, r⟩ := h
 exact ⟨hbs.step hb, cs, (hb.block _ (Array.getElem?_eq_some_iff.1 hg).1).trans hg, r⟩
theorem MS.cell {g off n k j f : Nat} {w wr : World} (h : MS g off n k j f w wr) (hj : j < n) (u : Nat) (hu : u < 8) : (∃ v, wr.cell? ⟨g, off + j * 8 + u, none⟩ = some v) ∧ wr.frozen? ⟨g, off + j * 8 + u, none⟩ = false := by
 obtain ⟨_, cs, hg, hs, _⟩ := h
 exact ⟨⟨cs[off + j * 8 + u]'(by omega), (cell_of_row _ _ _ _ _ _ hg).trans (Array.getElem?_eq_getElem (by omega))⟩, frozen_of_row _ _ _ _ _ hg⟩
theorem opIn_far {cs : Array Value} {off m : Nat} {o : OpV} {v : Value} (h : OpIn cs off o) (hm : m < off ∨ off + 8 ≤ m) : OpIn (cs.setIfInBounds m v) off o := by
 obtain ⟨h0, h1, h2, h3, h4, h5, h6, h7⟩ := h
 exact ⟨(Array.getElem?_setIfInBounds_ne (by omega)).trans h0, (Array.getElem?_setIfInBounds_ne (by omega)).trans h1, (Array.getElem?_setIfInBounds_ne (by omega)).trans h2, (Array.getElem?_setIfInBounds_ne (by omega)).trans h3, (Array.getElem?_setIfInBounds_ne (by omega)).trans h4, (Array.getElem?_setIfInBounds_ne (by omega)).trans h5, (Array.getElem?_setIfInBounds_ne (by omega)).trans h6, (Array.getElem?_setIfInBounds_ne (by omega)).trans h7⟩
theorem MS.put {g off n k j f : Nat} {w wr : World} (h : MS g off n k j f w wr) (hj : j < n) (hf : f < 8) {v : Value} (hv : v = mval (k + 8 * j) f) : MS g off n k j (f + 1) w (wr.setCell ⟨g, off + j * 8 + f, none⟩ v) := by
 obtain ⟨hbs, cs, hg, hs, ho, hu⟩ := h
 refine ⟨hbs.put, cs.setIfInBounds (off + j * 8 + f) v, heap_setCell_same _ _ _ _ _ _ hg, by simpa using hs, fun t ht => opIn_far (ho t ht) (by omega), fun u hu' => ?_⟩
 rw [Array.getElem?_setIfInBounds]
 by_cases e : f = u
 ·subst e
  rw [if_pos rfl, if_pos (by omega), hv]
 ·rw [if_neg (by omega)]
  exact hu u (by omega)
theorem MS.next {g off n k j : Nat} {w wr : World} (h : MS g off n k j 8 w wr) : MS g off n k (j + 1) 0 w wr := by
 obtain ⟨hbs, cs, hg, hs, ho, hu⟩ := h
 refine ⟨hbs, cs, hg, hs, fun t ht => ?_, fun u hu' => absurd hu' (by omega)⟩
 rcases Nat.lt_or_ge t j with h1 | h1
 ·exact ho t h1
 ·obtain rfl : t = j := by omega
  exact opIn_of_mvals hu
def OpsMarked (k n lo hi : Nat) (a : Option Addr) (w : World) (e : Ending) (w' : World) : Prop :=
 (∃ m : Nat, m = k + 8 * n ∧ e = .returned (.int .i64 (m : Int))) ∧ OwnOps w' lo hi a n (opMarks k n) ∧ Beside lo hi w w'
theorem MS.marked {g off n k lo hi m : Nat} {w wr : World} (h : MS g off n k n 0 w wr) (h1 : lo ≤ g) (h2 : g < hi) (hm : m = k + 8 * n) : OpsMarked k n lo hi (some ⟨g, off, none⟩) w (.returned (.int .i64 (m : Int))) wr := by
 obtain ⟨hbs, cs, hg, hs, ho, _⟩ := h
 exact ⟨⟨m, hm, rfl⟩, ⟨opMarks_len _ _, fun _ => ⟨g, off, cs, rfl, h1, h2, hg, hs, fun i hi' => by rw [opMarks_at hi']; exact ho i hi'⟩⟩, hbs.wide h1 h2⟩

set_option maxHeartbeats 20000000 in
theorem markOps (w : World) (lo hi : Nat) (a : Option Addr) (n cap : Nat) (l : List OpV) (h : OwnOps w lo hi a n l) (k : Nat) (hk0 : 0 < k) (hk : k ≤ 20000000) (hn : n ≤ 1048576) :
  Calls Tryz.prog 44 #[.slice a n cap, .int .i64 (k : Int)] w (OpsMarked k n lo hi a w) := by
 by_cases h0 : 0 < n
 ·obtain ⟨g, off, cs, rfl, hlo, hhi, hg, hs, hc⟩ := h.2 h0
  have HM0 : Hid (MS g off n k 0 0 w w) := ⟨Beside.refl _ _ _, cs, hg, hs, fun t ht => absurd ht (by omega), fun u hu => absurd hu (by omega)⟩
  have hgw := (Array.getElem?_eq_some_iff.1 hg).1
  clear h hg hs hc
  go_enter Tryz.func44, Tryz.ntmps44
  go_wp2
  go_loopw [1, 5] (fun m i wr => ∃ j q : Nat, j ≤ n ∧ i = .int .i64 (j : Int) ∧ m = .int .i64 (q : Int) ∧ Hid (q = k + 8 * j) ∧ Hid (MS g off n k j 0 w wr)) (fun _ i _ => n - (intOf i).toNat)
  case atStart => exact ⟨0, k, by omega, rfl, rfl, rfl, HM0⟩
  case round =>
   obtain ⟨j, q0, hj, rfl, rfl, HQ0, HM0⟩ := hrel
   have hq0 : 0 < q0 ∧ q0 ≤ 30000000 := by have := HQ0.out; omega
   obtain ⟨hq0a, hq0b⟩ := hq0
   by_cases hlt : j < n
   rotate_left
   ·obtain rfl : j = n := by omega
    have HF := Lib.hid (HM0.out.marked hlo hhi HQ0.out)
    go_wp2
    go_ret
    exact HF.out
   obtain ⟨⟨v0, c0⟩, f0⟩ := HM0.out.cell hlt 0 (by omega)
   simp only [Nat.add_zero] at c0 f0
   have HM1 : Hid (MS g off n k j 1 w (wr.setCell ⟨g, off + j * 8, none⟩ (.int .i64 (q0 : Int)))) := HM0.out.put hlt (by omega) (by rw [HQ0.out]; rfl)
   go_upto_region 5 with fail
   generalize wr.setCell ⟨g, off + j * 8, none⟩ (.int .i64 (q0 : Int)) = y1 at HM1 ⊢
   clear c0 f0 HM0 v0
   go_upto_region 6 with fail
   obtain ⟨q1, hqe⟩ : ∃ q : Nat, q = q0 + 1 := ⟨_, rfl⟩
   have hqi : (q0 : Int) + 1 = (q1 : Int) := by omega
   have HQ1 : Hid (q1 = k + 8 * j + 1) := by have := HQ0.out; show _ = _; omega
   have hq1a : 0 < q1 := by omega
   have hq1b : q1 ≤ 30000001 := by omega
   rw [hqi]
   clear hqi hqe hq0a hq0b HQ0
   obtain ⟨⟨v1, c1⟩, f1⟩ := HM1.out.cell hlt 1 (by omega)
   have HM2 : Hid (MS g off n k j 2 w (y1.setCell ⟨g, off + j * 8 + 1, none⟩ (.int .i64 (q1 : Int)))) := HM1.out.put hlt (by omega) (by rw [HQ1.out]; rfl)
   go_upto_region 7 with fail
   generalize y1.setCell ⟨g, off + j * 8 + 1, none⟩ (.int .i64 (q1 : Int)) = y2 at HM2 ⊢
   clear c1 f1 HM1 v1
   go_upto_region 8 with fail
   obtain ⟨q2, hqe⟩ : ∃ q : Nat, q = q1 + 1 := ⟨_, rfl⟩
   have hqi : (q1 : Int) + 1 = (q2 : Int) := by omega
   have HQ2 : Hid (q2 = k + 8 * j + 2) := by have := HQ1.out; show _ = _; omega
   have hq2a : 0 < q2 := by omega
   have hq2b : q2 ≤ 30000002 := by omega
   rw [hqi]
   clear hqi hqe hq1a hq1b HQ1
   obtain ⟨⟨v2, c2⟩, f2⟩ := HM2.out.cell hlt 2 (by omega)
   have HM3 : Hid (MS g off n k j 3 w (y2.setCell ⟨g, off + j * 8 + 2, none⟩ (.int .i64 (q2 : Int)))) := HM2.out.put hlt (by omega) (by rw [HQ2.out]; rfl)
   go_upto_region 9 with fail
   generalize y2.setCell ⟨g, off + j * 8 + 2, none⟩ (.int .i64 (q2 : Int)) = y3 at HM3 ⊢
   clear c2 f2 HM2 v2
   go_upto_region 10 with fail
   obtain ⟨q3, hqe⟩ : ∃ q : Nat, q = q2 + 1 := ⟨_, rfl⟩
   have hqi : (q2 : Int) + 1 = (q3 : Int) := by omega
   have HQ3 : Hid (q3 = k + 8 * j + 3) := by have := HQ2.out; show _ = _; omega
   have hq3a : 0 < q3 := by omega
   have hq3b : q3 ≤ 30000003 := by omega
   rw [hqi]
   clear hqi hqe hq2a hq2b HQ2
   obtain ⟨⟨v3, c3⟩, f3⟩ := HM3.out.cell hlt 3 (by omega)
   have HM4 : Hid (MS g off n k j 4 w (y3.setCell ⟨g, off + j * 8 + 3, none⟩ (.int .i64 (q3 : Int)))) := HM3.out.put hlt (by omega) (by rw [HQ3.out]; rfl)
   go_upto_region 11 with fail
   generalize y3.setCell ⟨g, off + j * 8 + 3, none⟩ (.int .i64 (q3 : Int)) = y4 at HM4 ⊢
   clear c3 f3 HM3 v3
   go_upto_region 12 with fail
   obtain ⟨q4, hqe⟩ : ∃ q : Nat, q = q3 + 1 := ⟨_, rfl⟩
   have hqi : (q3 : Int) + 1 = (q4 : Int) := by omega
   have HQ4 : Hid (q4 = k + 8 * j + 4) := by have := HQ3.out; show _ = _; omega
   have hq4a : 0 < q4 := by omega
   have hq4b : q4 ≤ 30000004 := by omega
   rw [hqi]
   clear hqi hqe hq3a hq3b HQ3
   go_wp2_with fail
   refine (markText (q4 : Int) q4 rfl (by omega) (by omega) _).mono ?_
   rintro e z4 ⟨rfl, hb4⟩
   have HM4' := Lib.hid (HM4.out.step hb4)
   clear HM4 hb4
   obtain ⟨⟨v4, c4⟩, f4⟩ := HM4'.out.cell hlt 4 (by omega)
   have HM5 : Hid (MS g off n k j 5 w (z4.setCell ⟨g, off + j * 8 + 4, none⟩ (.string (mkT q4)))) := HM4'.out.put hlt (by omega) (by rw [HQ4.out]; rfl)
   go_upto_region 13 with fail
   generalize z4.setCell ⟨g, off + j * 8 + 4, none⟩ (.string (mkT q4)) = y5 at HM5 ⊢
   clear c4 f4 HM4' v4
   go_upto_region 14 with fail
   obtain ⟨q5, hqe⟩ : ∃ q : Nat, q = q4 + 1 := ⟨_, rfl⟩
   have hqi : (q4 : Int) + 1 = (q5 : Int) := by omega
   have HQ5 : Hid (q5 = k + 8 * j + 5) := by have := HQ4.out; show _ = _; omega
   have hq5a : 0 < q5 := by omega
   have hq5b : q5 ≤ 30000005 := by omega
   rw [hqi]
   clear hqi hqe hq4a hq4b HQ4
   obtain ⟨⟨v5, c5⟩, f5⟩ := HM5.out.cell hlt 5 (by omega)
   have HM6 : Hid (MS g off n k j 6 w (y5.setCell ⟨g, off + j * 8 + 5, none⟩ (.int .i64 (q5 : Int)))) := HM5.out.put hlt (by omega) (by rw [HQ5.out]; rfl)
   go_upto_region 15 with fail
   generalize y5.setCell ⟨g, off + j * 8 + 5, none⟩ (.int .i64 (q5 : Int)) = y6 at HM6 ⊢
   clear c5 f5 HM5 v5
   go_upto_region 16 with fail
   obtain ⟨q6, hqe⟩ : ∃ q : Nat, q = q5 + 1 := ⟨_, rfl⟩
   have hqi : (q5 : Int) + 1 = (q6 : Int) := by omega
   have HQ6 : Hid (q6 = k + 8 * j + 6) := by have := HQ5.out; show _ = _; omega
   have hq6a : 0 < q6 := by omega
   have hq6b : q6 ≤ 30000006 := by omega
   rw [hqi]
   clear hqi hqe hq5a hq5b HQ5
   obtain ⟨⟨v6, c6⟩, f6⟩ := HM6.out.cell hlt 6 (by omega)
   have HM7 : Hid (MS g off n k j 7 w (y6.setCell ⟨g, off + j * 8 + 6, none⟩ (.int .i64 (q6 : Int)))) := HM6.out.put hlt (by omega) (by rw [HQ6.out]; rfl)
   go_upto_region 17 with fail
   generalize y6.setCell ⟨g, off + j * 8 + 6, none⟩ (.int .i64 (q6 : Int)) = y7 at HM7 ⊢
   clear c6 f6 HM6 v6
   go_upto_region 18 with fail
   obtain ⟨q7, hqe⟩ : ∃ q : Nat, q = q6 + 1 := ⟨_, rfl⟩
   have hqi : (q6 : Int) + 1 = (q7 : Int) := by omega
   have HQ7 : Hid (q7 = k + 8 * j + 7) := by have := HQ6.out; show _ = _; omega
   have hq7a : 0 < q7 := by omega
   have hq7b : q7 ≤ 30000007 := by omega
   rw [hqi]
   clear hqi hqe hq6a hq6b HQ6
   obtain ⟨⟨v7, c7⟩, f7⟩ := HM7.out.cell hlt 7 (by omega)
   have HM8 : Hid (MS g off n k j 8 w (y7.setCell ⟨g, off + j * 8 + 7, none⟩ (.int .i64 (q7 : Int)))) := HM7.out.put hlt (by omega) (by rw [HQ7.out]; rfl)
   go_upto_region 19 with fail
   generalize y7.setCell ⟨g, off + j * 8 + 7, none⟩ (.int .i64 (q7 : Int)) = y8 at HM8 ⊢
   clear c7 f7 HM7 v7
   have HMn := Lib.hid HM8.out.next
   go_wp2
   go_roundw
   case rel => exact ⟨j + 1, q7 + 1, by omega, by go_num, by go_num, (by have := HQ7.out; show q7 + 1 = k + 8 * (j + 1); omega), HMn⟩
   case measure => simp [intOf]; omega
 ·obtain rfl : n = 0 := by omega
  have HL := Lib.hid h.1
  clear h
  go_enter Tryz.func44, Tryz.ntmps44
  go_wp2
  refine wp_loop_rounds 1 ?_
  rw [rounds_succ]
  go_wp2
  go_ret
  exact ⟨⟨k, rfl, rfl⟩, ⟨rfl, fun hn => absurd hn (by omega)⟩, Beside.refl _ _ _⟩
set_option maxHeartbeats 20000000 in
theorem heldOps (w : World) (B : Nat) (a : Option Addr) (n cap k : Nat) (h : Ops w B a n (opMarks k n)) (hB : B ≤ w.heap.size) (hk0 : 0 < k) (hk : k ≤ 20000000) (hn : n ≤ 1048576) :
  Calls Tryz.prog 45 #[.slice a n cap, .int .i64 (k : Int)] w fun e w' => e = .returned (.int .i64 ((k + 8 * n : Nat) : Int)) ∧ Below w.heap.size w w' := by
 have H := Lib.hid h
 clear h
 go_enter Tryz.func45, Tryz.ntmps45
 go_wp2
 go_loopw [1, 5] (fun m i wr => ∃ j q : Nat, j ≤ n ∧ i = .int .i64 (j : Int) ∧ m = .int .i64 (q : Int) ∧ Hid (q = k + 8 * j) ∧ Hid (Below w.heap.size w wr)) (fun _ i _ => n - (intOf i).toNat)
 case atStart => exact ⟨0, k, by omega, rfl, rfl, rfl, Below.refl _ _⟩
 case round =>
  obtain ⟨j, q0, hj, rfl, rfl, HQ0, HB⟩ := hrel
  have hq0 : 0 < q0 ∧ q0 ≤ 30000000 := by have := HQ0.out; omega
  obtain ⟨hq0a, hq0b⟩ := hq0
  by_cases hlt : j < n
  rotate_left
  ·obtain rfl : j = n := by omega
   have HE : Hid (k + 8 * j = q0) := HQ0.out.symm
   go_wp2
   go_ret
   exact ⟨by rw [HE.out]; rfl, HB.out⟩
  obtain ⟨b, off, rfl, hb, ho⟩ := H.out.2 j hlt
  rw [opMarks_at hlt, ← HQ0.out] at ho
  obtain ⟨c0, c1, c2, c3, c4, c5, c6, c7⟩ := ho.kept (HB.out.block b (by omega))
  clear ho
  obtain ⟨q1, hqe1⟩ : ∃ q : Nat, q = q0 + 1 := ⟨_, rfl⟩
  obtain ⟨q2, hqe2⟩ : ∃ q : Nat, q = q0 + 2 := ⟨_, rfl⟩
  obtain ⟨q3, hqe3⟩ : ∃ q : Nat, q = q0 + 3 := ⟨_, rfl⟩
  obtain ⟨q4, hqe4⟩ : ∃ q : Nat, q = q0 + 4 := ⟨_, rfl⟩
  obtain ⟨q5, hqe5⟩ : ∃ q : Nat, q = q0 + 5 := ⟨_, rfl⟩
  obtain ⟨q6, hqe6⟩ : ∃ q : Nat, q = q0 + 6 := ⟨_, rfl⟩
  obtain ⟨q7, hqe7⟩ : ∃ q : Nat, q = q0 + 7 := ⟨_, rfl⟩
  simp only [markOp, ← hqe1, ← hqe2, ← hqe3, ← hqe4, ← hqe5, ← hqe6, ← hqe7] at c0 c1 c2 c3 c4 c5 c6 c7
  have hqi1 : (q0 : Int) + 1 = (q1 : Int) := by omega
  have hqi2 : (q1 : Int) + 1 = (q2 : Int) := by omega
  have hqi3 : (q2 : Int) + 1 = (q3 : Int) := by omega
  have hqi4 : (q3 : Int) + 1 = (q4 : Int) := by omega
  have hqi5 : (q4 : Int) + 1 = (q5 : Int) := by omega
  have hqi6 : (q5 : Int) + 1 = (q6 : Int) := by omega
  have hqi7 : (q6 : Int) + 1 = (q7 : Int) := by omega
  have hqb : q0 ≤ 30000007 ∧ q1 ≤ 30000007 ∧ q2 ≤ 30000007 ∧ q3 ≤ 30000007 ∧ q4 ≤ 30000007 ∧ q5 ≤ 30000007 ∧ q6 ≤ 30000007 ∧ q7 ≤ 30000007 := by omega
  obtain ⟨b0, b1, b2, b3, b4, b5, b6, b7⟩ := hqb
  have HQn : Hid (q7 + 1 = k + 8 * (j + 1)) := by have := HQ0.out; show _ = _; omega
  have hq4p : 0 < q4 := by omega
  clear hqe1 hqe2 hqe3 hqe4 hqe5 hqe6 hqe7
  have HI1 := Lib.hid hqi1
  clear hqi1
  have HI2 := Lib.hid hqi2
  clear hqi2
  have HI3 := Lib.hid hqi3
  clear hqi3
  have HI4 := Lib.hid hqi4
  clear hqi4
  have HI5 := Lib.hid hqi5
  clear hqi5
  have HI6 := Lib.hid hqi6
  clear hqi6
  have HI7 := Lib.hid hqi7
  clear hqi7
  go_upto_region 7 with fail
  rw [HI1.out]
  go_upto_region 10 with fail
  rw [HI2.out]
  go_upto_region 13 with fail
  rw [HI3.out]
  go_upto_region 16 with fail
  rw [HI4.out]
  have hst : ((mkT q4).toList == (mkT q4).toList) = true := beq_self_eq_true _
  have hS : wr.drew.cell? ⟨b, off + j * 8 + 4, none⟩ = some (.string (mkT q4)) := c4
  go_wp2_with fail
  go_region_held3 (fun w' => w'.cell? ⟨b, off + j * 8 + 4, none⟩ = some (.string (mkT q4))) (first | with_reducible exact hS | with_reducible exact hS5)
   (first | (go_at_call 49; refine (markText (q4 : Int) q4 rfl (by omega) (by omega) _).mono ?_; rintro e w5 ⟨rfl, hb5⟩; have hS5 : w5.cell? ⟨b, off + j * 8 + 4, none⟩ = some (.string (mkT q4)) := (hb5.cell (block_lt_of_cell hS)).trans hS))
  have HB5 := Lib.hid (HB.out.trans ((Below.mk hb5.os hb5.tape hb5.output hb5.size hb5.block : Below wr.heap.size wr w5).mono HB.out.size))
  have d5 := (hb5.cell (p := ⟨b, off + j * 8 + 5, none⟩) (block_lt_of_cell c5)).trans c5
  have d6 := (hb5.cell (p := ⟨b, off + j * 8 + 6, none⟩) (block_lt_of_cell c6)).trans c6
  have d7 := (hb5.cell (p := ⟨b, off + j * 8 + 7, none⟩) (block_lt_of_cell c7)).trans c7
  clear c0 c1 c2 c3 c4 c5 c6 c7 hS hS5 hb5 HB
  go_upto_region 19 with fail
  rw [HI5.out]
  go_upto_region 22 with fail
  rw [HI6.out]
  go_upto_region 25 with fail
  rw [HI7.out]
  go_wp2
  go_roundw
  case rel => exact ⟨j + 1, q7 + 1, by omega, by go_num, by go_num, HQn, HB5⟩
  case measure => simp [intOf]; omega
set_option linter.unusedVariables false
/-- The cells of an element in a row. -/
def LnIn (cs : Array Value) (off : Nat) (o : LnV) : Prop := cs[off]? = some (.string o.item) ∧ cs[off + 1]? = some (.int .i64 o.qty) ∧ cs[off + 2]? = some (.bool o.saved)
theorem LnIn.at {w : World} {g off : Nat} {T : TypeId} {cs : Array Value} {o : LnV} (hg : w.heap[g]? = some (.cells cs T (0, 0))) (h : LnIn cs off o) : LnAt w g off o := by
 obtain ⟨h0, h1, h2⟩ := h
 exact ⟨(cell_of_row _ _ _ _ _ _ hg).trans h0, (cell_of_row _ _ _ _ _ _ hg).trans h1, (cell_of_row _ _ _ _ _ _ hg).trans h2⟩
/-- A slice of them whose row, if it has elements, is a block between lo and hi. -/
def OwnLns (w : World) (lo hi : Nat) (a : Option Addr) (n : Nat) (l : List LnV) : Prop :=
 l.length = n ∧ (0 < n → ∃ g off cs, a = some ⟨g, off, none⟩ ∧ lo ≤ g ∧ g < hi ∧ w.heap[g]? = some (.cells cs 172 (0, 0)) ∧ off + n * 3 ≤ cs.size ∧ ∀ i, i < n → LnIn cs (off + i * 3) (l.getD i LnV.zero))
theorem OwnLns.rows {w : World} {lo hi : Nat} {a : Option Addr} {n : Nat} {l : List LnV} (h : OwnLns w lo hi a n l) : Lns w hi a n l :=
 ⟨h.1, fun i hi' => by
  obtain ⟨g, off, cs, e, _, h2, hg, _, hc⟩ := h.2 (by omega)
  exact ⟨g, off, e, h2, (hc i hi').at hg⟩⟩
theorem OwnLns.kept {w w' : World} {lo hi : Nat} {a : Option Addr} {n : Nat} {l : List LnV} (h : OwnLns w lo hi a n l) (hk : ∀ j, lo ≤ j → j < hi → w'.heap[j]? = w.heap[j]?) : OwnLns w' lo hi a n l :=
 ⟨h.1, fun hn => by
  obtain ⟨g, off, cs, e, h1, h2, hg, hs, hc⟩ := h.2 hn
  exact ⟨g, off, cs, e, h1, h2, (hk g h1 h2).trans hg, hs, hc⟩⟩
theorem OwnLns.below {w w' : World} {lo hi B : Nat} {a : Option Addr} {n : Nat} {l : List LnV} (h : OwnLns w lo hi a n l) (hb : Below B w w') (hB : hi ≤ B) : OwnLns w' lo hi a n l :=
 h.kept fun j _ h2 => hb.block j (by omega)
theorem OwnLns.more {w : World} {lo hi lo' hi' : Nat} {a : Option Addr} {n : Nat} {l : List LnV} (h : OwnLns w lo hi a n l) (h1 : lo' ≤ lo) (h2 : hi ≤ hi') : OwnLns w lo' hi' a n l :=
 ⟨h.1, fun hn => by
  obtain ⟨g, off, cs, e, a1, a2, r⟩ := h.2 hn
  exact ⟨g, off, cs, e, by omega, by omega, r⟩⟩
theorem OwnLns.beside {w w' : World} {lo hi lo' hi' : Nat} {a : Option Addr} {n : Nat} {l : List LnV} (h : OwnLns w lo hi a n l) (hb : Beside lo' hi' w w') (hd : hi ≤ lo' ∨ hi' ≤ lo) (hw : hi ≤ w.heap.size) : OwnLns w' lo hi a n l :=
 h.kept fun j h1 h2 => hb.block j (by omega) (by omega)

/-- What markLineS leaves in an element. -/
def markLnV (K : Nat) : LnV := ⟨mkT K, ((K + 1 : Nat) : Int), decide (((K + 2 : Nat) : Int) % 3 = 0)⟩
def LnMarks (k n : Nat) : List LnV := (List.range n).map fun i => markLnV (k + 3 * i)
theorem LnMarks_len (k n : Nat) : (LnMarks k n).length = n := by simp [LnMarks]
theorem LnMarks_at {k n i : Nat} (h : i < n) : (LnMarks k n).getD i LnV.zero = markLnV (k + 3 * i) := by
 rw [List.getD_eq_getElem?_getD]
 simp [LnMarks, h]
def mvalLn (K u : Nat) : Value := if u = 0 then .string (mkT K) else if u = 1 then .int .i64 ((K + 1 : Nat) : Int) else .bool (decide (((K + 2 : Nat) : Int) % 3 = 0))
theorem LnIn_of_mvals {cs : Array Value} {off K : Nat} (h : ∀ u, u < 3 → cs[off + u]? = some (mvalLn K u)) : LnIn cs off (markLnV K) := ⟨h 0 (by omega), h 1 (by omega), h 2 (by omega)⟩
/-- How far the marking has come: j elements, and f fields of the next one. -/
structure MLn (g off n k j f : Nat) (w wr : World) : Prop where
 bes : Beside g (g + 1) w wr
 row : ∃ cs : Array Value, wr.heap[g]? = some (.cells cs 172 (0, 0)) ∧ off + n * 3 ≤ cs.size ∧ (∀ t, t < j → LnIn cs (off + t * 3) (markLnV (k + 3 * t))) ∧ ∀ u, u < f → cs[off + j * 3 + u]? = some (mvalLn (k + 3 * j) u)
theorem MLn.step {g off n k j f : Nat} {w w1 w2 : World} (h : MLn g off n k j f w w1) (hb : Below w1.heap.size w1 w2) : MLn g off n k j f w w2 := by
 obtain ⟨hbs, cs, hg, r⟩ := h
 exact ⟨hbs.step hb, cs, (hb.block _ (Array.getElem?_eq_some_iff.1 hg).1).trans hg, r⟩
theorem MLn.cell {g off n k j f : Nat} {w wr : World} (h : MLn g off n k j f w wr) (hj : j < n) (u : Nat) (hu : u < 3) : (∃ v, wr.cell? ⟨g, off + j * 3 + u, none⟩ = some v) ∧ wr.frozen? ⟨g, off + j * 3 + u, none⟩ = false := by
 obtain ⟨_, cs, hg, hs, _⟩ := h
 exact ⟨⟨cs[off + j * 3 + u]'(by omega), (cell_of_row _ _ _ _ _ _ hg).trans (Array.getElem?_eq_getElem (by omega))⟩, frozen_of_row _ _ _ _ _ hg⟩
theorem LnIn_far {cs : Array Value} {off m : Nat} {o : LnV} {v : Value} (h : LnIn cs off o) (hm : m < off ∨ off + 3 ≤ m) : LnIn (cs.setIfInBounds m v) off o := by
 obtain ⟨h0, h1, h2⟩ := h
 exact ⟨(Array.getElem?_setIfInBounds_ne (by omega)).trans h0, (Array.getElem?_setIfInBounds_ne (by omega)).trans h1, (Array.getElem?_setIfInBounds_ne (by omega)).trans h2⟩
theorem MLn.put {g off n k j f : Nat} {w wr : World} (h : MLn g off n k j f w wr) (hj : j < n) (hf : f < 3) {v : Value} (hv : v = mvalLn (k + 3 * j) f) : MLn g off n k j (f + 1) w (wr.setCell ⟨g, off + j * 3 + f, none⟩ v) := by
 obtain ⟨hbs, cs, hg, hs, ho, hu⟩ := h
 refine ⟨hbs.put, cs.setIfInBounds (off + j * 3 + f) v, heap_setCell_same _ _ _ _ _ _ hg, by simpa using hs, fun t ht => LnIn_far (ho t ht) (by omega), fun u hu' => ?_⟩
 rw [Array.getElem?_setIfInBounds]
 by_cases e : f = u
 ·subst e
  rw [if_pos rfl, if_pos (by omega), hv]
 ·rw [if_neg (by omega)]
  exact hu u (by omega)
theorem MLn.next {g off n k j : Nat} {w wr : World} (h : MLn g off n k j 3 w wr) : MLn g off n k (j + 1) 0 w wr := by
 obtain ⟨hbs, cs, hg, hs, ho, hu⟩ := h
 refine ⟨hbs, cs, hg, hs, fun t ht => ?_, fun u hu' => absurd hu' (by omega)⟩
 rcases Nat.lt_or_ge t j with h1 | h1
 ·exact ho t h1
 ·obtain rfl : t = j := by omega
  exact LnIn_of_mvals hu
def LnMarked (k n lo hi : Nat) (a : Option Addr) (w : World) (e : Ending) (w' : World) : Prop :=
 (∃ m : Nat, m = k + 3 * n ∧ e = .returned (.int .i64 (m : Int))) ∧ OwnLns w' lo hi a n (LnMarks k n) ∧ Beside lo hi w w'
theorem MLn.marked {g off n k lo hi m : Nat} {w wr : World} (h : MLn g off n k n 0 w wr) (h1 : lo ≤ g) (h2 : g < hi) (hm : m = k + 3 * n) : LnMarked k n lo hi (some ⟨g, off, none⟩) w (.returned (.int .i64 (m : Int))) wr := by
 obtain ⟨hbs, cs, hg, hs, ho, _⟩ := h
 exact ⟨⟨m, hm, rfl⟩, ⟨LnMarks_len _ _, fun _ => ⟨g, off, cs, rfl, h1, h2, hg, hs, fun i hi' => by rw [LnMarks_at hi']; exact ho i hi'⟩⟩, hbs.wide h1 h2⟩

end Go.Proofs.YtjokbaaommicmaaGreatDoor
