/- Walks and mathematics that several claims share, part 13. -/
import Derived.Test.YthkagbnpcjidfaaGreatDoorGy8
import Derived.Test.YthkagbnpcjidfaaGreatDoorGy4
import Derived.Test.YthkagbnpcjidfaaGreatDoorGy7
import Derived.Test.YthkagbnpcjidfaaGreatDoorGy10
import Derived.Test.YthkagbnpcjidfaaGreatDoorGy11
import Derived.Test.YthkagbnpcjidfaaGreatDoorGy0
import Derived.Test.YthkagbnpcjidfaaGreatDoorGy2
import Derived.Test.YthkagbnpcjidfaaGreatDoorGy12
import Derived.Deep.AppendLies
import Derived.Lib.SliceRun
import Derived.Laws.BytesArg
import Derived.Deep.RegionHeld3
import Derived.Deep.Cut
import Derived.RegionTactic
import Derived.Handy
import Derived.Below
import Derived.Laws.EntriesVeiled
import Derived.Laws.Cover3
import Derived.Test.YthkagbnpcjidfaaGreatDoorGyA
namespace Go.Proofs.YthkagbnpcjidfaaGreatDoor
set_option maxHeartbeats 10000000
set_option maxRecDepth 100000
open Go.RowKit
set_option linter.unusedVariables false
set_option linter.unusedSimpArgs false

/-- The cells of an operation in a row. -/
def aAe (cs : Array Value) (off : Nat) (o : aA) : Prop := cs[off]? = some (.int .i64 o.dev) ∧ cs[off + 1]? = some (.int .i64 o.seq) ∧ cs[off + 2]? = some (.int .i64 o.stamp) ∧ cs[off + 3]? = some (.int .i64 o.kind) ∧ cs[off + 4]? = some (.string o.item) ∧ cs[off + 5]? = some (.int .i64 o.qty) ∧ cs[off + 6]? = some (.int .i64 o.level) ∧ cs[off + 7]? = some (.int .i64 o.undos)
theorem aAe.at {w : World} {g off : Nat} {T : TypeId} {cs : Array Value} {o : aA} (hg : w.heap[g]? = some (.cells cs T (0, 0))) (h : aAe cs off o) : xC w g off o := by
 obtain ⟨h0, h1, h2, h3, h4, h5, h6, h7⟩ := h
 exact ⟨(aRD hg).trans h0, (aRD hg).trans h1, (aRD hg).trans h2, (aRD hg).trans h3, (aRD hg).trans h4, (aRD hg).trans h5, (aRD hg).trans h6, (aRD hg).trans h7⟩
/-- A slice of operations whose row, if it has elements, is a block between lo and hi. -/
def bF (w : World) (lo hi : Nat) (a : Option Addr) (n : Nat) (l : List aA) : Prop :=
 l.length = n ∧ (0 < n → ∃ g off cs, a = some ⟨g, off, none⟩ ∧ lo ≤ g ∧ g < hi ∧ w.heap[g]? = some (.cells cs 50 (0, 0)) ∧ off + n * 8 ≤ cs.size ∧ ∀ i, i < n → aAe cs (off + i * 8) (l.getD i aA.zero))
theorem bF.ops {w : World} {lo hi : Nat} {a : Option Addr} {n : Nat} {l : List aA} (h : bF w lo hi a n l) : bS w hi a n l :=
 ⟨h.1, fun i hi' => by
  obtain ⟨g, off, cs, e, _, h2, hg, _, hc⟩ := h.2 (by omega)
  exact ⟨g, off, e, h2, (hc i hi').at hg⟩⟩
theorem bF.kept {w w' : World} {lo hi : Nat} {a : Option Addr} {n : Nat} {l : List aA} (h : bF w lo hi a n l) (hk : ∀ j, lo ≤ j → j < hi → w'.heap[j]? = w.heap[j]?) : bF w' lo hi a n l :=
 ⟨h.1, fun hn => by
  obtain ⟨g, off, cs, e, h1, h2, hg, hs, hc⟩ := h.2 hn; exact ⟨g, off, cs, e, h1, h2, (hk g h1 h2).trans hg, hs, hc⟩⟩
theorem bF.below {w w' : World} {lo hi B : Nat} {a : Option Addr} {n : Nat} {l : List aA} (h : bF w lo hi a n l) (hb : Below B w w') (hB : hi ≤ B) : bF w' lo hi a n l :=
 h.kept fun j _ h2 => hb.block j (by omega)
theorem bF.more {w : World} {lo hi lo' hi' : Nat} {a : Option Addr} {n : Nat} {l : List aA} (h : bF w lo hi a n l) (h1 : lo' ≤ lo) (h2 : hi ≤ hi') : bF w lo' hi' a n l :=
 ⟨h.1, fun hn => by
  obtain ⟨g, off, cs, e, a1, a2, r⟩ := h.2 hn; exact ⟨g, off, cs, e, by omega, by omega, r⟩⟩
theorem gD (w : World) (lo hi : Nat) (a : Option Addr) : bF w lo hi a 0 [] := ⟨rfl, fun h => absurd h (by omega)⟩
/-- What a call answers that hands back a list of operations of its own. -/
def aAF (l : List aA) (w : World) (e : Ending) (w' : World) : Prop := ∃ a c, e = .returned (.slice a l.length c) ∧ bF w' w.heap.size w'.heap.size a l.length l ∧ Below w.heap.size w w'

/-- Of the blocks that were there none has turned but those from lo up to hi. -/
structure gI (lo hi : Nat) (w w' : World) : Prop where
 os : w'.os = w.os
 tape : w'.tape = w.tape
 output : w'.output = w.output
 size : w.heap.size ≤ w'.heap.size
 block : ∀ j, j < w.heap.size → (j < lo ∨ hi ≤ j) → w'.heap[j]? = w.heap[j]?
theorem gI.refl (lo hi : Nat) (w : World) : gI lo hi w w := ⟨rfl, rfl, rfl, Nat.le_refl _, fun _ _ _ => rfl⟩
theorem gI.step {lo hi : Nat} {w w1 w2 : World} (h : gI lo hi w w1) (hb : Below w1.heap.size w1 w2) : gI lo hi w w2 :=
 ⟨hb.os.trans h.os, hb.tape.trans h.tape, hb.output.trans h.output, Nat.le_trans h.size hb.size, fun j h1 h2 => (hb.block j (by have := h.size; omega)).trans (h.block j h1 h2)⟩
theorem gI.put {w wr : World} {g i : Nat} {v : Value} (h : gI g (g + 1) w wr) : gI g (g + 1) w (wr.setCell ⟨g, i, none⟩ v) :=
 ⟨h.os, h.tape, h.output, by simpa [World.setCell] using h.size, fun j h1 h2 => (heap_setCell_other _ _ _ _ (by show j ≠ g; omega)).trans (h.block j h1 h2)⟩
theorem gI.wide {lo hi lo' hi' : Nat} {w w' : World} (h : gI lo hi w w') (h1 : lo' ≤ lo) (h2 : hi ≤ hi') : gI lo' hi' w w' :=
 ⟨h.os, h.tape, h.output, h.size, fun j a b => h.block j a (by omega)⟩
theorem gI.below {lo hi B : Nat} {w w' : World} (h : gI lo hi w w') (hB : B ≤ lo) (hw : B ≤ w.heap.size) : Below B w w' := ⟨h.os, h.tape, h.output, h.size, fun k hk => h.block k (by omega) (.inl (by omega))⟩
theorem bF.beside {w w' : World} {lo hi lo' hi' : Nat} {a : Option Addr} {n : Nat} {l : List aA} (h : bF w lo hi a n l) (hb : gI lo' hi' w w') (hd : hi ≤ lo' ∨ hi' ≤ lo) (hw : hi ≤ w.heap.size) : bF w' lo hi a n l :=
 h.kept fun j h1 h2 => hb.block j (by omega) (by omega)
theorem bS.beside {w w' : World} {lo hi B : Nat} {a : Option Addr} {n : Nat} {l : List aA} (h : bS w B a n l) (hb : gI lo hi w w') (hd : B ≤ lo) (hw : B ≤ w.heap.size) : bS w' B a n l :=
 h.kept fun j h1 => hb.block j (by omega) (.inl (by omega))

/-- The text of a mark: the letter m and the digits of a number. -/
def aNG : Nat → Nat → ByteArray → ByteArray
 | 0, _, out => out
 | f + 1, k, out => if k = 0 then out else aNG f (k / 10) (strOfNums [48 + (k : Int) % 10] ++ out)
def mkT (m : Nat) : ByteArray := ⟨#[109]⟩ ++ aNG m m ⟨#[]⟩
/-- What markOpS leaves in an operation. -/
def aH4 (K : Nat) : aA := ⟨((K : Nat) : Int), ((K + 1 : Nat) : Int), ((K + 2 : Nat) : Int), ((K + 3 : Nat) : Int), mkT (K + 4), ((K + 5 : Nat) : Int), ((K + 6 : Nat) : Int), ((K + 7 : Nat) : Int)⟩
def aJn (K u : Nat) : Value := if u = 4 then .string (mkT (K + 4)) else .int .i64 ((K + u : Nat) : Int)
theorem aDq {cs : Array Value} {off K : Nat} (h : ∀ u, u < 8 → cs[off + u]? = some (aJn K u)) : aAe cs off (aH4 K) :=
 ⟨h 0 (by omega), h 1 (by omega), h 2 (by omega), h 3 (by omega), h 4 (by omega), h 5 (by omega), h 6 (by omega), h 7 (by omega)⟩
/-- How far markOpS has come: j operations are marked, and f fields of the next one. -/
structure MS (g off n k j f : Nat) (w wr : World) : Prop where
 bes : gI g (g + 1) w wr
 row : ∃ cs : Array Value, wr.heap[g]? = some (.cells cs 50 (0, 0)) ∧ off + n * 8 ≤ cs.size ∧ (∀ t, t < j → aAe cs (off + t * 8) (aH4 (k + 8 * t))) ∧ ∀ u, u < f → cs[off + j * 8 + u]? = some (aJn (k + 8 * j) u)
theorem MS.step {g off n k j f : Nat} {w w1 w2 : World} (h : MS g off n k j f w w1) (hb : Below w1.heap.size w1 w2) : MS g off n k j f w w2 := by
 obtain ⟨uC, cs, hg, r⟩ := h
 exact ⟨uC.step hb, cs, (hb.block _ (aRB hg).1).trans hg, r⟩
theorem MS.cell {g off n k j f : Nat} {w wr : World} (h : MS g off n k j f w wr) (hj : j < n) (u : Nat) (hu : u < 8) : (∃ v, wr.cell? ⟨g, off + j * 8 + u, none⟩ = some v) ∧ wr.frozen? ⟨g, off + j * 8 + u, none⟩ = false := by
 obtain ⟨_, cs, hg, hs, _⟩ := h
 exact ⟨⟨cs[off + j * 8 + u]'(by omega), (aRD hg).trans (Array.getElem?_eq_getElem (by omega))⟩, aRE hg⟩
theorem aDX {cs : Array Value} {off m : Nat} {o : aA} {v : Value} (h : aAe cs off o) (hm : m < off ∨ off + 8 ≤ m) : aAe (cs.setIfInBounds m v) off o := by
 obtain ⟨h0, h1, h2, h3, h4, h5, h6, h7⟩ := h
 exact ⟨(Array.getElem?_setIfInBounds_ne (by omega)).trans h0, (Array.getElem?_setIfInBounds_ne (by omega)).trans h1, (Array.getElem?_setIfInBounds_ne (by omega)).trans h2, (Array.getElem?_setIfInBounds_ne (by omega)).trans h3, (Array.getElem?_setIfInBounds_ne (by omega)).trans h4, (Array.getElem?_setIfInBounds_ne (by omega)).trans h5, (Array.getElem?_setIfInBounds_ne (by omega)).trans h6, (Array.getElem?_setIfInBounds_ne (by omega)).trans h7⟩
theorem MS.put {g off n k j f : Nat} {w wr : World} (h : MS g off n k j f w wr) (hj : j < n) (hf : f < 8) {v : Value} (hv : v = aJn (k + 8 * j) f) : MS g off n k j (f + 1) w (wr.setCell ⟨g, off + j * 8 + f, none⟩ v) := by
 obtain ⟨uC, cs, hg, hs, ho, hu⟩ := h
 refine ⟨uC.put, cs.setIfInBounds (off + j * 8 + f) v, heap_setCell_same _ _ _ _ _ _ hg, by simpa using hs, fun t ht => aDX (ho t ht) (by omega), fun u hu' => ?_⟩
 rw [Array.getElem?_setIfInBounds]
 by_cases e : f = u
 ·subst e
  rw [if_pos rfl, if_pos (by omega), hv]
 ·rw [if_neg (by omega)]
  exact hu u (by omega)
theorem MS.next {g off n k j : Nat} {w wr : World} (h : MS g off n k j 8 w wr) : MS g off n k (j + 1) 0 w wr := by
 obtain ⟨uC, cs, hg, hs, ho, hu⟩ := h
 refine ⟨uC, cs, hg, hs, fun t ht => ?_, fun u hu' => absurd hu' (by omega)⟩
 rcases Nat.lt_or_ge t j with h1 | h1
 ·exact ho t h1
 ·obtain rfl : t = j := by omega
  exact aDq hu
set_option linter.unusedVariables false

structure aT where
 item : ByteArray
 qty : Int
 saved : Bool
def aT.zero : aT := ⟨⟨#[]⟩, 0, false⟩
def aCF (w : World) (b off : Nat) (o : aT) : Prop := w.cell? ⟨b, off, none⟩ = some (.string o.item) ∧ w.cell? ⟨b, off + 1, none⟩ = some (.int .i64 o.qty) ∧ w.cell? ⟨b, off + 2, none⟩ = some (.bool o.saved)
theorem aCF.kept {w w' : World} {b off : Nat} {o : aT} (h : aCF w b off o) (hb : w'.heap[b]? = w.heap[b]?) : aCF w' b off o := by
 obtain ⟨h0, h1, h2⟩ := h
 exact ⟨(World.cell?_of_block (a := ⟨b, off, none⟩) hb).trans h0, (World.cell?_of_block (a := ⟨b, off + 1, none⟩) hb).trans h1, (World.cell?_of_block (a := ⟨b, off + 2, none⟩) hb).trans h2⟩
/-- A slice of n offers that reads as l; its row lies below block B. -/
def E0 (w : World) (B : Nat) (a : Option Addr) (n : Nat) (l : List aT) : Prop :=
 l.length = n ∧ ∀ i, i < n → ∃ b off, a = some ⟨b, off, none⟩ ∧ b < B ∧ aCF w b (off + i * 3) (l.getD i aT.zero)
theorem E0.kept {w w' : World} {B : Nat} {a : Option Addr} {n : Nat} {l : List aT} (h : E0 w B a n l) (hk : ∀ k, k < B → w'.heap[k]? = w.heap[k]?) : E0 w' B a n l :=
 ⟨h.1, fun i hi => by obtain ⟨b, off, e, hb, ho⟩ := h.2 i hi; exact ⟨b, off, e, hb, ho.kept (hk b hb)⟩⟩
theorem E0.below {w w' : World} {B B' : Nat} {a : Option Addr} {n : Nat} {l : List aT} (h : E0 w B a n l) (hb : Below B' w w') (hB : B ≤ B') : E0 w' B a n l :=
 h.kept fun k hk => hb.block k (by omega)
theorem E0.more {w : World} {B B' : Nat} {a : Option Addr} {n : Nat} {l : List aT} (h : E0 w B a n l) (hB : B ≤ B') : E0 w B' a n l :=
 ⟨h.1, fun i hi => by obtain ⟨b, off, e, hb, ho⟩ := h.2 i hi; exact ⟨b, off, e, by omega, ho⟩⟩
def numB (d q d' q' : Int) : Bool := decide (d < d' ∨ (d = d' ∧ q < q'))
def aDx (l : List aA) (i : Nat) : Bool := decide (i = 0) || numB (aC l (i - 1)).dev (aC l (i - 1)).seq (aC l i).dev (aC l i).seq
def p6 (l : List aA) : Bool := (List.range l.length).all (aDx l)
theorem aL8 {l : List aA} (h : ∀ i, i < l.length → aDx l i = true) : p6 l = true := by
 unfold p6
 rw [List.all_eq_true]
 intro d hm
 exact h d (by simpa using hm)
theorem four {xs : List Int} (h : cU xs = true) : ∃ x0 x1 x2 x3, xs = [x0, x1, x2, x3] := by
 have h4 : xs.length = 4 := by unfold cU at h; simp only [Bool.and_eq_true, decide_eq_true_eq] at h; exact h.2
 match xs, h4 with
 | [x0, x1, x2, x3], _ => exact ⟨x0, x1, x2, x3, rfl⟩



theorem aIM (s : ByteArray) (h : s.size ≤ 1048576) (w : World) : Calls Tryz.prog 97 #[.string s] w fun e w' => e = .returned (.string s) ∧ Below w.heap.size w w' := by
 go_enter Tryz.func97, Tryz.ntmps97
 go_wp2_with fail
 refine (Tryz.stringslite_Clone s _ (by omega)).mono ?_
 rintro e w1 ⟨rfl, aI⟩
 go_wp2
 go_ret
 exact ⟨rfl, aI⟩
/-- What a line of an item is. -/
def zI (s : cW) : Int := if s.level % 2 = 1 then s.counted.qty else 0
def zH (s : cW) : Bool := if s.level % 2 = 1 then decide (s.placed.kind = 4) else false
def F0 (s : cW) (item : ByteArray) : ByteArray := if s.level % 2 = 1 then item else ⟨#[]⟩

theorem Tryz.sizeLine : (Tryz.prog.info? 39).map (·.size) = some 3 := by kernel_rfl
theorem aAy (s : cW) (item : ByteArray) (h0 : 0 ≤ s.level) (hi : item.size ≤ 1048576) (w : World) : Calls Tryz.prog 65 #[.agg s.cells, .string item] w fun e w' => e = .returned (.agg #[.string (F0 s item), .int .i64 (zI s), .bool (zH s)]) ∧ Below w.heap.size w w' := by
 have hx := Below.heap_alloc (w.alloc (.cells s.cells 96)) (.cells #[.string ⟨#[]⟩, .int .i64 0, .bool false] 39) w.heap.size (by simp)
 have HX : Hid (((w.alloc (.cells s.cells 96)).alloc (.cells #[.string ⟨#[]⟩, .int .i64 0, .bool false] 39)).heap[w.heap.size]? = some (.cells s.cells 96 (0, 0))) := hx.trans (World.alloc_heap_new w _)
 have HR : Hid (((w.alloc (.cells s.cells 96)).alloc (.cells #[.string ⟨#[]⟩, .int .i64 0, .bool false] 39)).heap[w.heap.size + 1]? = some (.cells #[.string ⟨#[]⟩, .int .i64 0, .bool false] 39 (0, 0))) := by
  have e : (w.alloc (.cells s.cells 96)).heap.size = w.heap.size + 1 := by simp
  show _ = _
  rw [← e]; exact World.alloc_heap_new _ _
 have HB : Hid (Below w.heap.size w ((w.alloc (.cells s.cells 96)).alloc (.cells #[.string ⟨#[]⟩, .int .i64 0, .bool false] 39))) := ((Below.refl _ w).alloc aRC _).alloc (by simp) _
 clear hx
 have HP := aRA h0
 clear h0
 by_cases hm : s.level % 2 = 1
 rotate_left
 ·have HI : Hid (F0 s item = ⟨#[]⟩ ∧ zI s = 0 ∧ zH s = false) := ⟨if_neg hm, if_neg hm, if_neg hm⟩
  have HD := aRA (decide_eq_false hm); clear hm
  go_enter Tryz.func65, Tryz.ntmps65
  go_wp2_with (refine wpList_load_row rfl 96 (.tmp 2) rfl w.heap.size rfl 96 s.cells (0, 0) _ HX.out Tryz.underlying96 rfl s.infoOf ?_)
  generalize (w.alloc (.cells s.cells 96)).alloc (.cells #[.string ⟨#[]⟩, .int .i64 0, .bool false] 39) = w0 at HX HR HB ⊢; refine (pA s HP.out w0).mono ?_
  rintro e w1 ⟨rfl, aI⟩; rw [HD.out]; have B2 := aRA ((aI.block _ (aRB HX.out).1).trans HX.out); have gN := aRA ((aI.block _ (aRB HR.out).1).trans HR.out); have cO := aRA (HB.out.trans (aI.mono HB.out.size)); clear aI HX HR HB
  go_wp2_with (refine wpList_store_row rfl 39 (.tmp 4) (.tmp 8) rfl (w.heap.size + 1) #[.string ⟨#[]⟩, .int .i64 0, .bool false] rfl rfl 39 _ gN.out Tryz.sizeLine rfl (by simp [Value.oneCell']) ?_)
  have HF := setRow_heap w1 (w.heap.size + 1) _ #[.string ⟨#[]⟩, .int .i64 0, .bool false] 39 (0, 0) gN.out; exact bodyPost_ret (results_cell_row rfl _ _ _ _ _ _ _ rfl HF Tryz.underlying39 rfl Tryz.sizeLine) rfl ⟨by rw [HI.out.1, HI.out.2.1, HI.out.2.2], gA cO.out (by omega) gN.out⟩
 have HI : Hid (F0 s item = item ∧ zI s = s.counted.qty ∧ zH s = decide (s.placed.kind = 4)) := ⟨if_pos hm, if_pos hm, if_pos hm⟩
 have HD := aRA (decide_eq_true hm)
 clear hm
 go_enter Tryz.func65, Tryz.ntmps65
 go_wp2_with (refine wpList_load_row rfl 96 (.tmp 2) rfl w.heap.size rfl 96 s.cells (0, 0) _ HX.out Tryz.underlying96 rfl s.infoOf ?_)
 generalize (w.alloc (.cells s.cells 96)).alloc (.cells #[.string ⟨#[]⟩, .int .i64 0, .bool false] 39) = w0 at HX HR HB ⊢
 refine (pA s HP.out w0).mono ?_
 rintro e w1 ⟨rfl, aI⟩
 rw [HD.out]
 have B2 := aRA ((aI.block _ (aRB HX.out).1).trans HX.out)
 have gN := aRA ((aI.block _ (aRB HR.out).1).trans HR.out)
 have cO := aRA (HB.out.trans (aI.mono HB.out.size))
 clear aI HX HR HB
 go_upto_region 3 with fail
 have eH : w1.drew.cell? ⟨w.heap.size, 6, none⟩ = some (.int .i64 s.counted.qty) ∧ w1.drew.cell? ⟨w.heap.size, 12, none⟩ = some (.int .i64 s.placed.kind) := ⟨(nV B2.out).2.2.2.2.2.2.1, (nV B2.out).2.2.2.2.2.2.2.2.2.2.2.2.1⟩
 have yV : w.heap.size + 1 < w1.heap.size := (aRB gN.out).1
 by_cases hk : s.placed.kind = 4
 ·have S0 : (s.placed.kind == 4) = true := by rw [hk]; rfl
  have HK := aRA (decide_eq_true hk); clear hk
  go_region_held3 (fun w' => w'.cell? ⟨w.heap.size, 6, none⟩ = some (.int .i64 s.counted.qty) ∧ w'.cell? ⟨w.heap.size, 12, none⟩ = some (.int .i64 s.placed.kind)) (first | with_reducible exact eH | with_reducible exact fZ | with_reducible exact iL _ _ _)
   (first | (go_at_call 97; refine (aIM item hi _).mono ?_; rintro e w2 ⟨rfl, aN⟩; have fZ : w2.cell? ⟨w.heap.size, 6, none⟩ = some (.int .i64 s.counted.qty) ∧ w2.cell? ⟨w.heap.size, 12, none⟩ = some (.int .i64 s.placed.kind) := ⟨(aN.cell (p := ⟨w.heap.size, 6, none⟩) (by show w.heap.size < w1.heap.size; omega)).trans eH.1, (aN.cell (p := ⟨w.heap.size, 12, none⟩) (by show w.heap.size < w1.heap.size; omega)).trans eH.2⟩; have A6 : w2.heap[w.heap.size + 1]? = some (.cells #[.string ⟨#[]⟩, .int .i64 0, .bool false] 39 (0, 0)) := (aN.block _ yV).trans gN.out; have iY := aRA A6; have e0 := cell_of_row w2 (w.heap.size + 1) 0 _ _ _ A6; have e1 := cell_of_row w2 (w.heap.size + 1) 1 _ _ _ A6; have e2 := cell_of_row w2 (w.heap.size + 1) 2 _ _ _ A6; have f0 := frozen_of_row w2 (w.heap.size + 1) 0 _ _ A6; have f1 := frozen_of_row w2 (w.heap.size + 1) 1 _ _ A6; have f2 := frozen_of_row w2 (w.heap.size + 1) 2 _ _ A6; simp only [List.getElem?_toArray, List.getElem?_cons_zero, List.getElem?_cons_succ] at e0 e1 e2; have iL : ∀ v0 v1 v2 : Value, (((w2.setCell ⟨w.heap.size + 1, 0, none⟩ v0).setCell ⟨w.heap.size + 1, 1, none⟩ v1).setCell ⟨w.heap.size + 1, 2, none⟩ v2).cell? ⟨w.heap.size, 6, none⟩ = some (.int .i64 s.counted.qty) ∧ (((w2.setCell ⟨w.heap.size + 1, 0, none⟩ v0).setCell ⟨w.heap.size + 1, 1, none⟩ v1).setCell ⟨w.heap.size + 1, 2, none⟩ v2).cell? ⟨w.heap.size, 12, none⟩ = some (.int .i64 s.placed.kind) := fun v0 v1 v2 => ⟨(World.cell?_of_block (a := ⟨w.heap.size, 6, none⟩) ((heap_setCell_other _ _ _ _ (by show w.heap.size ≠ w.heap.size + 1; omega)).trans ((heap_setCell_other _ _ _ _ (by show w.heap.size ≠ w.heap.size + 1; omega)).trans (heap_setCell_other _ _ _ _ (by show w.heap.size ≠ w.heap.size + 1; omega))))).trans fZ.1, (World.cell?_of_block (a := ⟨w.heap.size, 12, none⟩) ((heap_setCell_other _ _ _ _ (by show w.heap.size ≠ w.heap.size + 1; omega)).trans ((heap_setCell_other _ _ _ _ (by show w.heap.size ≠ w.heap.size + 1; omega)).trans (heap_setCell_other _ _ _ _ (by show w.heap.size ≠ w.heap.size + 1; omega))))).trans fZ.2⟩))
  have HF : (((w2.setCell ⟨w.heap.size + 1, 0, none⟩ (.string item)).setCell ⟨w.heap.size + 1, 1, none⟩ (.int .i64 s.counted.qty)).setCell ⟨w.heap.size + 1, 2, none⟩ (.bool true)).heap[w.heap.size + 1]? = some (.cells #[.string item, .int .i64 s.counted.qty, .bool true] 39 (0, 0)) := heap_setCell_same _ _ _ _ _ _ (heap_setCell_same _ _ _ _ _ _ (heap_setCell_same _ _ _ _ _ _ iY.out)); have S6 : Below w.heap.size w w2 := cO.out.trans ((Below.mk aN.os aN.tape aN.output aN.size aN.block : Below w1.heap.size w1 w2).mono cO.out.size); have dR := aRA (((S6.setCell (p := ⟨w.heap.size + 1, 0, none⟩) (by show _ ≤ w.heap.size + 1; omega) (.string item)).setCell (p := ⟨w.heap.size + 1, 1, none⟩) (by show _ ≤ w.heap.size + 1; omega) (.int .i64 s.counted.qty)).setCell (p := ⟨w.heap.size + 1, 2, none⟩) (by show _ ≤ w.heap.size + 1; omega) (.bool true))
  have HF' := aRA HF; clear eH fZ iL A6 e0 e1 e2 f0 f1 f2 aN S6 HF; generalize (((w2.setCell ⟨w.heap.size + 1, 0, none⟩ (.string item)).setCell ⟨w.heap.size + 1, 1, none⟩ (.int .i64 s.counted.qty)).setCell ⟨w.heap.size + 1, 2, none⟩ (.bool true)) = wf at HF' dR ⊢; go_wp2
  exact bodyPost_ret (results_cell_row rfl _ _ _ _ _ _ _ rfl HF'.out Tryz.underlying39 rfl Tryz.sizeLine) rfl ⟨by rw [HI.out.1, HI.out.2.1, HI.out.2.2, HK.out], dR.out⟩
 ·have S0 : (s.placed.kind == 4) = false := by rw [beq_eq_false_iff_ne]; exact hk
  have HK := aRA (decide_eq_false hk); clear hk
  go_region_held3 (fun w' => w'.cell? ⟨w.heap.size, 6, none⟩ = some (.int .i64 s.counted.qty) ∧ w'.cell? ⟨w.heap.size, 12, none⟩ = some (.int .i64 s.placed.kind)) (first | with_reducible exact eH | with_reducible exact fZ | with_reducible exact iL _ _ _)
   (first | (go_at_call 97; refine (aIM item hi _).mono ?_; rintro e w2 ⟨rfl, aN⟩; have fZ : w2.cell? ⟨w.heap.size, 6, none⟩ = some (.int .i64 s.counted.qty) ∧ w2.cell? ⟨w.heap.size, 12, none⟩ = some (.int .i64 s.placed.kind) := ⟨(aN.cell (p := ⟨w.heap.size, 6, none⟩) (by show w.heap.size < w1.heap.size; omega)).trans eH.1, (aN.cell (p := ⟨w.heap.size, 12, none⟩) (by show w.heap.size < w1.heap.size; omega)).trans eH.2⟩; have A6 : w2.heap[w.heap.size + 1]? = some (.cells #[.string ⟨#[]⟩, .int .i64 0, .bool false] 39 (0, 0)) := (aN.block _ yV).trans gN.out; have iY := aRA A6; have e0 := cell_of_row w2 (w.heap.size + 1) 0 _ _ _ A6; have e1 := cell_of_row w2 (w.heap.size + 1) 1 _ _ _ A6; have e2 := cell_of_row w2 (w.heap.size + 1) 2 _ _ _ A6; have f0 := frozen_of_row w2 (w.heap.size + 1) 0 _ _ A6; have f1 := frozen_of_row w2 (w.heap.size + 1) 1 _ _ A6; have f2 := frozen_of_row w2 (w.heap.size + 1) 2 _ _ A6; simp only [List.getElem?_toArray, List.getElem?_cons_zero, List.getElem?_cons_succ] at e0 e1 e2; have iL : ∀ v0 v1 v2 : Value, (((w2.setCell ⟨w.heap.size + 1, 0, none⟩ v0).setCell ⟨w.heap.size + 1, 1, none⟩ v1).setCell ⟨w.heap.size + 1, 2, none⟩ v2).cell? ⟨w.heap.size, 6, none⟩ = some (.int .i64 s.counted.qty) ∧ (((w2.setCell ⟨w.heap.size + 1, 0, none⟩ v0).setCell ⟨w.heap.size + 1, 1, none⟩ v1).setCell ⟨w.heap.size + 1, 2, none⟩ v2).cell? ⟨w.heap.size, 12, none⟩ = some (.int .i64 s.placed.kind) := fun v0 v1 v2 => ⟨(World.cell?_of_block (a := ⟨w.heap.size, 6, none⟩) ((heap_setCell_other _ _ _ _ (by show w.heap.size ≠ w.heap.size + 1; omega)).trans ((heap_setCell_other _ _ _ _ (by show w.heap.size ≠ w.heap.size + 1; omega)).trans (heap_setCell_other _ _ _ _ (by show w.heap.size ≠ w.heap.size + 1; omega))))).trans fZ.1, (World.cell?_of_block (a := ⟨w.heap.size, 12, none⟩) ((heap_setCell_other _ _ _ _ (by show w.heap.size ≠ w.heap.size + 1; omega)).trans ((heap_setCell_other _ _ _ _ (by show w.heap.size ≠ w.heap.size + 1; omega)).trans (heap_setCell_other _ _ _ _ (by show w.heap.size ≠ w.heap.size + 1; omega))))).trans fZ.2⟩))
  have HF : (((w2.setCell ⟨w.heap.size + 1, 0, none⟩ (.string item)).setCell ⟨w.heap.size + 1, 1, none⟩ (.int .i64 s.counted.qty)).setCell ⟨w.heap.size + 1, 2, none⟩ (.bool false)).heap[w.heap.size + 1]? = some (.cells #[.string item, .int .i64 s.counted.qty, .bool false] 39 (0, 0)) := heap_setCell_same _ _ _ _ _ _ (heap_setCell_same _ _ _ _ _ _ (heap_setCell_same _ _ _ _ _ _ iY.out)); have S6 : Below w.heap.size w w2 := cO.out.trans ((Below.mk aN.os aN.tape aN.output aN.size aN.block : Below w1.heap.size w1 w2).mono cO.out.size); have dR := aRA (((S6.setCell (p := ⟨w.heap.size + 1, 0, none⟩) (by show _ ≤ w.heap.size + 1; omega) (.string item)).setCell (p := ⟨w.heap.size + 1, 1, none⟩) (by show _ ≤ w.heap.size + 1; omega) (.int .i64 s.counted.qty)).setCell (p := ⟨w.heap.size + 1, 2, none⟩) (by show _ ≤ w.heap.size + 1; omega) (.bool false))
  have HF' := aRA HF; clear eH fZ iL A6 e0 e1 e2 f0 f1 f2 aN S6 HF; generalize (((w2.setCell ⟨w.heap.size + 1, 0, none⟩ (.string item)).setCell ⟨w.heap.size + 1, 1, none⟩ (.int .i64 s.counted.qty)).setCell ⟨w.heap.size + 1, 2, none⟩ (.bool false)) = wf at HF' dR ⊢; go_wp2
  exact bodyPost_ret (results_cell_row rfl _ _ _ _ _ _ _ rfl HF'.out Tryz.underlying39 rfl Tryz.sizeLine) rfl ⟨by rw [HI.out.1, HI.out.2.1, HI.out.2.2, HK.out], dR.out⟩
set_option linter.unusedVariables false
/-- The cells of an element in a row. -/
def xD (cs : Array Value) (off : Nat) (o : aT) : Prop := cs[off]? = some (.string o.item) ∧ cs[off + 1]? = some (.int .i64 o.qty) ∧ cs[off + 2]? = some (.bool o.saved)
theorem xD.at {w : World} {g off : Nat} {T : TypeId} {cs : Array Value} {o : aT} (hg : w.heap[g]? = some (.cells cs T (0, 0))) (h : xD cs off o) : aCF w g off o := by
 obtain ⟨h0, h1, h2⟩ := h
 exact ⟨(aRD hg).trans h0, (aRD hg).trans h1, (aRD hg).trans h2⟩
/-- A slice of them whose row, if it has elements, is a block between lo and hi. -/
def mJ (w : World) (lo hi : Nat) (a : Option Addr) (n : Nat) (l : List aT) : Prop :=
 l.length = n ∧ (0 < n → ∃ g off cs, a = some ⟨g, off, none⟩ ∧ lo ≤ g ∧ g < hi ∧ w.heap[g]? = some (.cells cs 39 (0, 0)) ∧ off + n * 3 ≤ cs.size ∧ ∀ i, i < n → xD cs (off + i * 3) (l.getD i aT.zero))
theorem mJ.rows {w : World} {lo hi : Nat} {a : Option Addr} {n : Nat} {l : List aT} (h : mJ w lo hi a n l) : E0 w hi a n l :=
 ⟨h.1, fun i hi' => by
  obtain ⟨g, off, cs, e, _, h2, hg, _, hc⟩ := h.2 (by omega)
  exact ⟨g, off, e, h2, (hc i hi').at hg⟩⟩
theorem mJ.kept {w w' : World} {lo hi : Nat} {a : Option Addr} {n : Nat} {l : List aT} (h : mJ w lo hi a n l) (hk : ∀ j, lo ≤ j → j < hi → w'.heap[j]? = w.heap[j]?) : mJ w' lo hi a n l :=
 ⟨h.1, fun hn => by
  obtain ⟨g, off, cs, e, h1, h2, hg, hs, hc⟩ := h.2 hn; exact ⟨g, off, cs, e, h1, h2, (hk g h1 h2).trans hg, hs, hc⟩⟩
theorem mJ.below {w w' : World} {lo hi B : Nat} {a : Option Addr} {n : Nat} {l : List aT} (h : mJ w lo hi a n l) (hb : Below B w w') (hB : hi ≤ B) : mJ w' lo hi a n l :=
 h.kept fun j _ h2 => hb.block j (by omega)
theorem mJ.more {w : World} {lo hi lo' hi' : Nat} {a : Option Addr} {n : Nat} {l : List aT} (h : mJ w lo hi a n l) (h1 : lo' ≤ lo) (h2 : hi ≤ hi') : mJ w lo' hi' a n l :=
 ⟨h.1, fun hn => by
  obtain ⟨g, off, cs, e, a1, a2, r⟩ := h.2 hn; exact ⟨g, off, cs, e, by omega, by omega, r⟩⟩
/-- What a call answers that hands back a list of them of its own. -/
def aAg (l : List aT) (w : World) (e : Ending) (w' : World) : Prop := ∃ a c, e = .returned (.slice a l.length c) ∧ mJ w' w.heap.size w'.heap.size a l.length l ∧ Below w.heap.size w w'
theorem mJ.beside {w w' : World} {lo hi lo' hi' : Nat} {a : Option Addr} {n : Nat} {l : List aT} (h : mJ w lo hi a n l) (hb : gI lo' hi' w w') (hd : hi ≤ lo' ∨ hi' ≤ lo) (hw : hi ≤ w.heap.size) : mJ w' lo hi a n l :=
 h.kept fun j h1 h2 => hb.block j (by omega) (by omega)

/-- What markLineS leaves in an element. -/
def aFL (K : Nat) : aT := ⟨mkT K, ((K + 1 : Nat) : Int), decide (((K + 2 : Nat) : Int) % 3 = 0)⟩
def aD1 (K u : Nat) : Value := if u = 0 then .string (mkT K) else if u = 1 then .int .i64 ((K + 1 : Nat) : Int) else .bool (decide (((K + 2 : Nat) : Int) % 3 = 0))
theorem aDv {cs : Array Value} {off K : Nat} (h : ∀ u, u < 3 → cs[off + u]? = some (aD1 K u)) : xD cs off (aFL K) := ⟨h 0 (by omega), h 1 (by omega), h 2 (by omega)⟩
/-- How far the marking has come: j elements, and f fields of the next one. -/
structure MLn (g off n k j f : Nat) (w wr : World) : Prop where
 bes : gI g (g + 1) w wr
 row : ∃ cs : Array Value, wr.heap[g]? = some (.cells cs 39 (0, 0)) ∧ off + n * 3 ≤ cs.size ∧ (∀ t, t < j → xD cs (off + t * 3) (aFL (k + 3 * t))) ∧ ∀ u, u < f → cs[off + j * 3 + u]? = some (aD1 (k + 3 * j) u)
theorem MLn.step {g off n k j f : Nat} {w w1 w2 : World} (h : MLn g off n k j f w w1) (hb : Below w1.heap.size w1 w2) : MLn g off n k j f w w2 := by
 obtain ⟨uC, cs, hg, r⟩ := h
 exact ⟨uC.step hb, cs, (hb.block _ (aRB hg).1).trans hg, r⟩
theorem MLn.cell {g off n k j f : Nat} {w wr : World} (h : MLn g off n k j f w wr) (hj : j < n) (u : Nat) (hu : u < 3) : (∃ v, wr.cell? ⟨g, off + j * 3 + u, none⟩ = some v) ∧ wr.frozen? ⟨g, off + j * 3 + u, none⟩ = false := by
 obtain ⟨_, cs, hg, hs, _⟩ := h
 exact ⟨⟨cs[off + j * 3 + u]'(by omega), (aRD hg).trans (Array.getElem?_eq_getElem (by omega))⟩, aRE hg⟩
theorem aKj {cs : Array Value} {off m : Nat} {o : aT} {v : Value} (h : xD cs off o) (hm : m < off ∨ off + 3 ≤ m) : xD (cs.setIfInBounds m v) off o := by
 obtain ⟨h0, h1, h2⟩ := h
 exact ⟨(Array.getElem?_setIfInBounds_ne (by omega)).trans h0, (Array.getElem?_setIfInBounds_ne (by omega)).trans h1, (Array.getElem?_setIfInBounds_ne (by omega)).trans h2⟩
theorem MLn.put {g off n k j f : Nat} {w wr : World} (h : MLn g off n k j f w wr) (hj : j < n) (hf : f < 3) {v : Value} (hv : v = aD1 (k + 3 * j) f) : MLn g off n k j (f + 1) w (wr.setCell ⟨g, off + j * 3 + f, none⟩ v) := by
 obtain ⟨uC, cs, hg, hs, ho, hu⟩ := h
 refine ⟨uC.put, cs.setIfInBounds (off + j * 3 + f) v, heap_setCell_same _ _ _ _ _ _ hg, by simpa using hs, fun t ht => aKj (ho t ht) (by omega), fun u hu' => ?_⟩
 rw [Array.getElem?_setIfInBounds]
 by_cases e : f = u
 ·subst e
  rw [if_pos rfl, if_pos (by omega), hv]
 ·rw [if_neg (by omega)]
  exact hu u (by omega)
theorem MLn.next {g off n k j : Nat} {w wr : World} (h : MLn g off n k j 3 w wr) : MLn g off n k (j + 1) 0 w wr := by
 obtain ⟨uC, cs, hg, hs, ho, hu⟩ := h
 refine ⟨uC, cs, hg, hs, fun t ht => ?_, fun u hu' => absurd hu' (by omega)⟩
 rcases Nat.lt_or_ge t j with h1 | h1
 ·exact ho t h1
 ·obtain rfl : t = j := by omega
  exact aDv hu
/-- The result's block, zero so far, and the operation's, beside the reader. -/
structure OpD (w w1 : World) (B g : Nat) (a : Option Addr) (len cap bo : Nat) (cs : Array Value) : Prop where
 res : w1.heap[w.heap.size]? = some (.cells #[.int .i64 0, .int .i64 0, .int .i64 0, .int .i64 0, .string ⟨#[]⟩, .int .i64 0, .int .i64 0, .int .i64 0] 50 (0, 0))
 opr : w1.heap[bo]? = some (.cells cs 50 (0, 0))
 own : w.heap.size < bo
 gr : w.grownBy w1 (some g)
 rd : Rd w1 B g a len cap
theorem OpD.next {w w1 w2 : World} {B g : Nat} {a : Option Addr} {len cap bo : Nat} {cs : Array Value} (h : OpD w w1 B g a len cap bo cs) (aK : g < w.heap.size) (hg : w1.grownBy w2 (some g)) (hr : Rd w2 B g a len cap) : OpD w w2 B g a len cap bo cs :=
 ⟨(hg.block _ (aRB h.res).1 (by simp; omega)).trans h.res, (hg.block _ (aRB h.opr).1 (by have := h.own; simp; omega)).trans h.opr, h.own, h.gr.trans hg, hr⟩
theorem OpD.put {w w1 : World} {B g : Nat} {a : Option Addr} {len cap bo : Nat} {cs : Array Value} (h : OpD w w1 B g a len cap bo cs) (hB : B ≤ w.heap.size) (aK : g < w.heap.size) (i : Nat) (v : Value) : OpD w (w1.setCell ⟨bo, i, none⟩ v) B g a len cap bo (cs.setIfInBounds i v) :=
 have aY := h.own
 ⟨(heap_setCell_other _ _ _ _ (by show w.heap.size ≠ bo; omega)).trans h.res, heap_setCell_same _ _ _ _ _ _ h.opr, h.own,
  ⟨h.gr.os, h.gr.tape, h.gr.output, Nat.le_trans h.gr.size (by simp [World.setCell]), fun k hk bH => (heap_setCell_other _ _ _ _ (by show k ≠ bo; omega)).trans (h.gr.block k hk bH)⟩,
  h.rd.kept fun k hk => heap_setCell_other _ _ _ _ (by show k ≠ bo; omega)⟩
theorem Res.next {w w1 w2 : World} {g : Nat} {cs : Array Value} {T : TypeId} (h : w1.heap[w.heap.size]? = some (.cells cs T (0, 0))) (hg : w1.grownBy w2 (some g)) (aK : g < w.heap.size) : w2.heap[w.heap.size]? = some (.cells cs T (0, 0)) :=
 (hg.block _ (aRB h).1 (by simp; omega)).trans h

def aI6 (xs : List Int) (l : List aA) (item : ByteArray) : Int := zI (cC item (counted xs l))
def aDR (xs : List Int) (l : List aA) (item : ByteArray) : Bool := zH (cC item (counted xs l))
theorem aCU {xs : List Int} {l : List aA} (h : aE xs l = true) (item : ByteArray) : cC item (counted xs l) = ⟨aG item l l.length, aU qV item l l.length, aU iC item l l.length⟩ := by
 unfold counted
 rw [if_pos h, yN h item _ aRC]
theorem aI5 {xs : List Int} {l : List aA} {item : ByteArray} (h : aE xs l = true) (h2 : aG item l l.length % 2 = 1) : aI6 xs l item = (aU qV item l l.length).qty := by
 unfold aI6
 rw [aCU h]
 exact if_pos h2
theorem aGc {xs : List Int} {l : List aA} {item : ByteArray} (h : aE xs l = true) (h2 : aG item l l.length % 2 = 1) : aDR xs l item = decide ((aU iC item l l.length).kind = 4) := by
 unfold aDR
 rw [aCU h]
 exact if_pos h2
end Go.Proofs.YthkagbnpcjidfaaGreatDoor
