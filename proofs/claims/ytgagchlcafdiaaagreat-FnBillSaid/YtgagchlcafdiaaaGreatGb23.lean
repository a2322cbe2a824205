/- Walks and mathematics that several claims share, part 23. -/
import Derived.Test.YtgagchlcafdiaaaGreatGb0
import Derived.Test.YtgagchlcafdiaaaGreatRows
import Derived.WalkKit
import Derived.WalkLawsBesides
import Derived.Lib.Hide
import Derived.OpenShut
import Derived.Deep.RegionHeld3
import Derived.RegionTactic
import Derived.Deep.QuietTactic
import Derived.BigQuiet
import Derived.Laws.Rows
import Derived.WalkSpells
import Derived.Maps.AppendAt
import Derived.Test.YtgagchlcafdiaaaGreatGbA
namespace Go.Proofs.YtgagchlcafdiaaaGreat
set_option maxRecDepth 100000
open Go.RowKit
set_option linter.unusedVariables false
set_option linter.unusedSimpArgs false

/-- A slice of bytes that came in: each of its cells holds a byte, below block B. -/
def Src (w : World) (B : Nat) (a : Option Addr) (len : Nat) : Prop :=
 len ≤ 1048576 ∧ ∀ i, i < len → ∃ b off z : Nat, a = some ⟨b, off, none⟩ ∧ b < B ∧ z < 256 ∧ w.cell? ⟨b, off + i, none⟩ = some (.int .u8 (z : Int))
/-- A reader at block g, from B on, over such a slice. -/
structure Rd (w : World) (B g : Nat) (a : Option Addr) (len cap : Nat) : Prop where
 own : B ≤ g
 cells : ∃ p : Nat, p ≤ len ∧ w.heap[g]? = some (.cells #[.slice a len cap, .int .i64 (p : Int)] 74 (0, 0))
 src : Src w B a len

theorem Src.kept {w w' : World} {B : Nat} {a : Option Addr} {len : Nat} (h : Src w B a len) (hk : ∀ k, k < B → w'.heap[k]? = w.heap[k]?) : Src w' B a len :=
 ⟨h.1, fun i hi => by
  obtain ⟨b, off, z, e, hb, hz, hc⟩ := h.2 i hi
  exact ⟨b, off, z, e, hb, hz, (World.cell?_of_block (hk b hb)).trans hc⟩⟩
theorem Rd.lt {w : World} {B g : Nat} {a : Option Addr} {len cap : Nat} (h : Rd w B g a len cap) : g < w.heap.size := by
 obtain ⟨p, _, hg⟩ := h.cells
 exact (Array.getElem?_eq_some_iff.1 hg).1
/-- The reader is as it was where its block and the blocks below B are. -/
theorem Rd.kept {w w' : World} {B g : Nat} {a : Option Addr} {len cap : Nat} (h : Rd w B g a len cap) (hk : ∀ k, k < B ∨ k = g → w'.heap[k]? = w.heap[k]?) : Rd w' B g a len cap :=
 ⟨h.own, by obtain ⟨p, hp, hg⟩ := h.cells; exact ⟨p, hp, (hk g (.inr rfl)).trans hg⟩, h.src.kept fun k hk' => hk k (.inl hk')⟩
theorem Rd.grown {w w' : World} {B g : Nat} {a : Option Addr} {len cap : Nat} {row : Option Nat} (h : Rd w B g a len cap) (hg : w.grownBy w' row) (hr : ∀ k, row = some k → B ≤ k ∧ k ≠ g) : Rd w' B g a len cap :=
 h.kept fun k hk => hg.block k (by have := h.lt; have := h.own; omega) (fun e => by have := hr k e.symm; omega)

/-- What a call of the reader that yields a number leaves. -/
def Yields (m : Nat) (w : World) (B g : Nat) (a : Option Addr) (len cap : Nat) (e : Ending) (w' : World) : Prop :=
 ∃ v : Nat, v < m ∧ e = .returned (.int .i64 (v : Int)) ∧ w.grownBy w' (some g) ∧ Rd w' B g a len cap

theorem grownBy_set (w : World) (n : Nat) (g i : Nat) (v : Value) (m : Nat) : w.grownBy (((w.drewN n).setCell ⟨g, i, none⟩ v).drewN m) (some g) :=
 ⟨rfl, rfl, rfl, by show w.heap.size ≤ ((w.drewN n).setCell ⟨g, i, none⟩ v).heap.size; simp [World.setCell], fun k hk hne => by
  show ((w.drewN n).setCell ⟨g, i, none⟩ v).heap[k]? = _
  rw [heap_setCell_other _ _ _ _ (fun e => hne (by rw [e]))]
  rfl⟩

theorem next_end {w : World} {B g b off : Nat} {len cap p z n m : Nat} (h : Rd w B g (some ⟨b, off, none⟩) len cap) (hg : w.heap[g]? = some (.cells #[.slice (some ⟨b, off, none⟩) len cap, .int .i64 (p : Int)] 74 (0, 0))) (hlt : p < len) (hz : z < 256) :
  Yields 256 w B g (some ⟨b, off, none⟩) len cap (.returned (.int .i64 (z : Int))) (((w.drewN n).setCell ⟨g, 1, none⟩ (.int .i64 ((p : Int) + 1))).drewN m) := by
 refine ⟨z, hz, rfl, grownBy_set w n g 1 _ m, h.own, ⟨p + 1, hlt, ?_⟩, h.src.kept fun k hk => ?_⟩
 ·show ((w.drewN n).setCell ⟨g, 1, none⟩ (.int .i64 ((p : Int) + 1))).heap[g]? = _
  rw [heap_setCell_same (w.drewN n) g 1 _ _ _ hg]
  rfl
 ·show ((w.drewN n).setCell ⟨g, 1, none⟩ (.int .i64 ((p : Int) + 1))).heap[k]? = _
  rw [heap_setCell_other _ _ _ _ (by have := h.own; show k ≠ g; omega)]
  rfl

theorem next (w : World) (B g : Nat) (a : Option Addr) (len cap : Nat) (h : Rd w B g a len cap) :
  Calls Tryz.prog 66 #[.pointer (some ⟨g, 0, none⟩)] w (Yields 256 w B g a len cap) := by
 obtain ⟨p, hp, hg⟩ := h.cells
 have hc0 : w.cell? ⟨g, 0, none⟩ = some (.slice a len cap) := cell_of_row _ _ _ _ _ _ hg
 have hc1 : w.cell? ⟨g, 1, none⟩ = some (.int .i64 (p : Int)) := cell_of_row _ _ _ _ _ _ hg
 have hf : w.frozen? ⟨g, 1, none⟩ = false := frozen_of_row _ _ _ _ _ hg
 by_cases hlt : p < len
 ·obtain ⟨b, off, z, rfl, hb, hz, hc⟩ := h.src.2 p hlt
  have hbg : b ≠ g := by have := h.own; omega
  have hlen := h.src.1
  have HG := Lib.hid hg
  have HH := Lib.hid h
  clear hg h
  go_enter Tryz.func66, Tryz.ntmps66
  go_wp2
  go_quiet (fail)
  go_wp2
  go_quiet (fail)
  go_wp2
  go_ret
  exact next_end HH.out HG.out hlt hz
 ·clear hf
  go_enter Tryz.func66, Tryz.ntmps66
  go_wp2
  go_quiet (fail)
  go_wp2
  go_ret
  exact ⟨0, by omega, rfl, ⟨rfl, rfl, rfl, Nat.le_refl _, fun _ _ _ => rfl⟩, h.kept fun _ _ => rfl⟩

theorem Yields.trans {m n : Nat} {w w1 w2 : World} {B g : Nat} {a : Option Addr} {len cap : Nat} {e : Ending} (h : w.grownBy w1 (some g)) (h2 : Yields m w1 B g a len cap e w2) (hmn : m ≤ n) : Yields n w B g a len cap e w2 := by
 obtain ⟨v, hv, he, hg, hr⟩ := h2
 exact ⟨v, by omega, he, h.trans hg, hr⟩

theorem v_mod (v n : Nat) : Ending.returned (.int .i64 ((v : Int) % (n : Int))) = .returned (.int .i64 ((v % n : Nat) : Int)) := by rw [Int.natCast_emod]

theorem below (w : World) (B g : Nat) (a : Option Addr) (len cap : Nat) (h : Rd w B g a len cap) (n : Nat) (hn : 0 < n) (hn2 : n ≤ 65536) :
  Calls Tryz.prog 39 #[.pointer (some ⟨g, 0, none⟩), .int .i64 (n : Int)] w (Yields n w B g a len cap) := by
 by_cases h1 : n ≤ 1
 ·obtain rfl : n = 1 := by omega
  go_enter Tryz.func39, Tryz.ntmps39
  go_wp2
  go_ret
  exact ⟨0, by omega, rfl, World.grownBy.refl _ _, h⟩
 ·by_cases h2 : n ≤ 256
  ·go_enter Tryz.func39, Tryz.ntmps39
   go_wp2_with fail
   refine (next w B g a len cap h).mono ?_
   rintro e w1 ⟨v, hv, rfl, hg, hr⟩
   have hb1 : (0 : Int) ≤ (v : Int) := by omega
   have hb2 : (0 : Int) < (n : Int) := by omega
   go_wp2
   go_ret
   exact ⟨v % n, Nat.mod_lt _ hn, v_mod v n, hg, hr⟩
  ·go_enter Tryz.func39, Tryz.ntmps39
   go_wp2_with fail
   refine (next w B g a len cap h).mono ?_
   rintro e w1 ⟨v, hv, rfl, hg, hr⟩
   go_wp2_with fail
   refine (next _ B g a len cap hr).mono ?_
   rintro e w2 ⟨u, hu, rfl, hg2, hr2⟩
   have hb2 : (0 : Int) < (n : Int) := by omega
   go_wp2
   go_ret
   refine ⟨(v * 256 + u) % n, Nat.mod_lt _ hn, ?_, hg.trans hg2, hr2⟩
   rw [← v_mod]
   simp
theorem belowI (w : World) (B g : Nat) (a : Option Addr) (len cap : Nat) (h : Rd w B g a len cap) (x : Int) (h0 : 0 < x) (h1 : x ≤ 65536) :
  Calls Tryz.prog 39 #[.pointer (some ⟨g, 0, none⟩), .int .i64 x] w (Yields x.toNat w B g a len cap) := by
 obtain ⟨n, rfl⟩ := Int.eq_ofNat_of_zero_le (Int.le_of_lt h0)
 exact below w B g a len cap h n (by omega) (by omega)
theorem grownBy_own {w w1 w2 : World} {g : Nat} {row : Option Nat} (h : w.grownBy w1 (some g)) (h2 : w1.grownBy w2 row) (hr : ∀ k, row = some k → w.heap.size ≤ k) : w.grownBy w2 (some g) :=
 ⟨h2.os.trans h.os, h2.tape.trans h.tape, h2.output.trans h.output, Nat.le_trans h.size h2.size, fun k hk hne =>
  (h2.block k (Nat.lt_of_lt_of_le hk h.size) (fun e => by have := hr k e.symm; omega)).trans (h.block k hk hne)⟩

theorem src_of_row {w : World} {a : Option Addr} {len cap : Nat} {zs : List Int} (h : IsRow .u8 w a len cap zs) (hl : len ≤ 1048576) : Src w w.heap.size a len := by
 refine ⟨hl, fun i hi => ?_⟩
 rcases h with ⟨_, rfl, _⟩ | ⟨x, rfl, hlc, _, hz, hc, hw⟩
 ·omega
 ·have hci := hc i (by omega)
  obtain ⟨b, off, rfl⟩ := add_plain (hc 0 (by omega))
  have ea := add_at b off i
  have hb := bounds_u8 (hw (zs.getD i 0) (by rw [List.getD_eq_getElem?_getD, List.getElem?_eq_getElem (by omega)]; simp))
  rw [ea] at hci
  refine ⟨b, off, (zs.getD i 0).toNat, rfl, block_lt_of_cell hci, by omega, ?_⟩
  rw [hci, Int.toNat_of_nonneg hb.1]

def Opens (w : World) (B : Nat) (a : Option Addr) (len cap : Nat) (e : Ending) (w' : World) : Prop :=
 e = .returned (.pointer (some ⟨w.heap.size, 0, none⟩)) ∧ w.grownBy w' none ∧ Rd w' B w.heap.size a len cap
theorem l1Open (w : World) (B : Nat) (a : Option Addr) (len cap : Nat) (hB : B ≤ w.heap.size) (h : Src w B a len) :
  Calls Tryz.prog 16 #[.slice a len cap] w (Opens w B a len cap) := by
 go_enter Tryz.func16, Tryz.ntmps16
 go_wp2
 go_ret
 exact ⟨rfl, World.grownBy_alloc _ _ _, hB, ⟨0, Nat.zero_le _, heap_alloc_new _ _⟩, h.kept fun k hk => Below.heap_alloc _ _ _ (by omega)⟩

theorem below_none {w w' : World} {B : Nat} (hg : w.grownBy w' none) (hB2 : B ≤ w.heap.size) : Below B w w' :=
 (Below.refl B w).grown hg hB2 (fun k hk => by cases hk)

/-- What a test of the reader leaves. -/
def YieldsBool (w : World) (B g : Nat) (a : Option Addr) (len cap : Nat) (e : Ending) (w' : World) : Prop :=
 ∃ v : Bool, e = .returned (.bool v) ∧ w.grownBy w' (some g) ∧ Rd w' B g a len cap
theorem once (w : World) (B g : Nat) (a : Option Addr) (len cap : Nat) (h : Rd w B g a len cap) (x : Int) (h0 : 0 < x) (h1 : x ≤ 65536) :
  Calls Tryz.prog 27 #[.pointer (some ⟨g, 0, none⟩), .int .i64 x] w (YieldsBool w B g a len cap) := by
 go_enter Tryz.func27, Tryz.ntmps27
 go_wp2_with fail
 refine (belowI w B g a len cap h x h0 h1).mono ?_
 rintro e w1 ⟨v, hv, rfl, hg, hr⟩
 go_wp2
 go_ret
 exact ⟨_, rfl, hg, hr⟩

theorem bigNo (a : Option Addr) (len cap : Nat) (h : len ≤ 1048576) (w : World) :
  Calls Tryz.prog 5 #[.slice a len cap] w fun e w' => e = .returned (.bool false) ∧ w = w' := by
 have hd : decide ((1048576 : Int) < (len : Int)) = false := decide_eq_false (by omega)
 go_enter Tryz.func5, Tryz.ntmps5
 go_wp2
 go_ret
 exact ⟨rfl, rfl⟩
theorem bigYes (a : Option Addr) (len cap : Nat) (h : ¬ len ≤ 1048576) (w : World) :
  Calls Tryz.prog 5 #[.slice a len cap] w fun e w' => e = .returned (.bool true) ∧ w = w' := by
 have hd : decide ((1048576 : Int) < (len : Int)) = true := decide_eq_true (by omega)
 go_enter Tryz.func5, Tryz.ntmps5
 go_wp2
 go_ret
 exact ⟨rfl, rfl⟩

/-- What a call of the reader that yields some number of a kind leaves. -/
def YieldsInt (k : IntKind) (w : World) (B g : Nat) (a : Option Addr) (len cap : Nat) (e : Ending) (w' : World) : Prop :=
 ∃ v : Int, e = .returned (.int k v) ∧ w.grownBy w' (some g) ∧ Rd w' B g a len cap

theorem rdWord (w : World) (B g : Nat) (a : Option Addr) (len cap : Nat) (h : Rd w B g a len cap) :
  Calls Tryz.prog 96 #[.pointer (some ⟨g, 0, none⟩)] w (YieldsInt .u64 w B g a len cap) := by
 have h0 := Lib.hid h
 clear h
 go_enter Tryz.func96, Tryz.ntmps96
 go_wp2
 go_loopw [3, 4] (fun x i wr => ∃ (k : Nat) (v : Int), k ≤ 8 ∧ i = .int .i64 k ∧ x = .int .u64 v ∧ Hid (w.grownBy wr (some g)) ∧ Hid (Rd wr B g a len cap)) (fun _ i _ => 8 - (intOf i).toNat)
 case atStart => exact ⟨0, 0, by omega, rfl, rfl, World.grownBy.refl _ _, h0⟩
 case round =>
  obtain ⟨k, v, hk, rfl, rfl, HG, HR⟩ := hrel
  by_cases hlt : k < 8
  ·go_wp2_with fail
   refine (next wr B g a len cap HR.out).mono ?_
   rintro e w1 ⟨z, hz, rfl, hg1, hr1⟩
   have HG1 := Lib.hid (HG.out.trans hg1)
   have HR1 := Lib.hid hr1
   clear hg1 hr1 hz
   go_wp2
   go_roundw
   case rel => exact ⟨k + 1, _, by omega, by go_num, rfl, HG1, HR1⟩
   case measure => simp [intOf]; omega
  ·go_wp2
   go_ret
   exact ⟨v, rfl, HG.out, HR.out⟩
theorem rdNear (w : World) (B g : Nat) (a : Option Addr) (len cap : Nat) (h : Rd w B g a len cap) (lo up : Int) (h1 : 0 ≤ lo) (h2 : lo ≤ up) (h3 : up ≤ 10000000) :
  Calls Tryz.prog 67 #[.pointer (some ⟨g, 0, none⟩), .int .i64 lo, .int .i64 up] w (YieldsInt .i64 w B g a len cap) := by
 go_enter Tryz.func67, Tryz.ntmps67
 go_wp2_with fail
 refine (belowI w B g a len cap h 8 (by omega) (by omega)).mono ?_
 rintro e w1 ⟨v, hv, rfl, hg1, hr1⟩
 have hv8 : v < 8 := hv
 clear hv h
 by_cases h0 : v = 0
 ·subst h0
  go_wp2
  go_ret
  exact ⟨lo, rfl, hg1, hr1⟩
 ·have n0 : ((v : Int) == 0) = false := by simp; omega
  by_cases e1 : v = 1
  ·subst e1
   go_wp2
   go_ret
   exact ⟨up, rfl, hg1, hr1⟩
  ·have n1 : ((v : Int) == 1) = false := by simp; omega
   have hlt : ¬ up < lo := by omega
   go_wp2_with fail
   refine (rdWord w1 B g a len cap hr1).mono ?_
   rintro e w2 ⟨x, rfl, hg2, hr2⟩
   go_wp2
   go_ret
   exact ⟨_, rfl, hg1.trans hg2, hr2⟩
def offCells (lo hi : Int) : Obj := .cells #[.int .i64 (lo - 1), .int .i64 (hi + 1), .int .i64 (-9223372036854775808), .int .i64 9223372036854775807] 2
theorem offCells_at {w : World} {b i : Nat} {lo up : Int} (h : w.heap[b]? = some (offCells lo up)) (hi : i < 4) : ∃ t : Int, w.cell? ⟨b, i, none⟩ = some (.int .i64 t) := by
 have e := cell_of_row w b i _ _ _ h
 match i, hi with
 | 0, _ => exact ⟨_, e⟩
 | 1, _ => exact ⟨_, e⟩
 | 2, _ => exact ⟨_, e⟩
 | 3, _ => exact ⟨_, e⟩

theorem rdOff (w : World) (B g : Nat) (a : Option Addr) (len cap : Nat) (h : Rd w B g a len cap) (lo up : Int) (h1 : 0 ≤ lo) (h2 : lo ≤ up) (h3 : up ≤ 10000000) :
  Calls Tryz.prog 40 #[.pointer (some ⟨g, 0, none⟩), .int .i64 lo, .int .i64 up] w (YieldsInt .i64 w B g a len cap) := by
 go_enter Tryz.func40, Tryz.ntmps40
 go_wp2_with fail
 refine (once w B g a len cap h 24 (by omega) (by omega)).mono ?_
 rintro e w1 ⟨v, rfl, hg1, hr1⟩
 clear h
 cases v
 ·go_wp2_with fail
  refine (rdNear w1 B g a len cap hr1 lo up h1 h2 h3).mono ?_
  rintro e w2 ⟨x, rfl, hg2, hr2⟩
  go_wp2
  go_ret
  exact ⟨x, rfl, hg1.trans hg2, hr2⟩
 ·have hr1' := Lib.hid (hr1.grown (World.grownBy_alloc w1 (offCells lo up) none) (fun k hk => by cases hk))
  have hg1' := Lib.hid (hg1.trans (World.grownBy_alloc w1 (offCells lo up) (some g)))
  have hgw : g < w1.heap.size := hr1.lt
  have hT : (w1.alloc (offCells lo up)).heap[w1.heap.size]? = some (offCells lo up) := heap_alloc_new _ _
  clear hr1 hg1
  go_wp2_with fail
  refine (belowI _ B g a len cap hr1'.out 4 (by omega) (by omega)).mono ?_
  rintro e w2 ⟨i, hi, rfl, hg2, hr2⟩
  have hi4 : i < 4 := hi
  have hi5 : (i : Int) < 4 := by omega
  have hT2 : w2.heap[w1.heap.size]? = some (offCells lo up) := (hg2.block _ (by simp) (by simp; omega)).trans hT
  obtain ⟨t, hct⟩ := offCells_at hT2 hi4
  have HG := Lib.hid hg2
  have HR := Lib.hid hr2
  clear hT hT2 hg2 hr2 hi
  go_wp2
  go_ret
  exact ⟨t, rfl, hg1'.out.trans HG.out, HR.out⟩
/-- What a call of the reader that yields an item's text leaves. -/
def YieldsText (m : Nat) (w : World) (B g : Nat) (a : Option Addr) (len cap : Nat) (e : Ending) (w' : World) : Prop :=
 ∃ t : ByteArray, t.size ≤ m ∧ e = .returned (.string t) ∧ w.grownBy w' (some g) ∧ Rd w' B g a len cap
def itemCells : Obj := .cells #[.string ⟨#[116, 101, 97]⟩, .string ⟨#[109, 105, 108, 107]⟩, .string ⟨#[101, 103, 103]⟩, .string ⟨#[111, 97, 116]⟩] 9
theorem itemCells_at {w : World} {b i : Nat} (h : w.heap[b]? = some itemCells) (hi : i < 4) : ∃ t : ByteArray, t.size ≤ 4 ∧ w.cell? ⟨b, i, none⟩ = some (.string t) := by
 have e := cell_of_row w b i _ _ _ h
 match i, hi with
 | 0, _ => exact ⟨_, by decide, e⟩
 | 1, _ => exact ⟨_, by decide, e⟩
 | 2, _ => exact ⟨_, by decide, e⟩
 | 3, _ => exact ⟨_, by decide, e⟩
theorem rdItem (w : World) (B g : Nat) (a : Option Addr) (len cap : Nat) (h : Rd w B g a len cap) :
  Calls Tryz.prog 28 #[.pointer (some ⟨g, 0, none⟩)] w (YieldsText 8 w B g a len cap) := by
 go_enter Tryz.func28, Tryz.ntmps28
 go_wp2_with fail
 refine (once w B g a len cap h 40 (by omega) (by omega)).mono ?_
 rintro e w1 ⟨v, rfl, hg1, hr1⟩
 clear h
 cases v
 ·have hr1' := Lib.hid (hr1.grown (World.grownBy_alloc w1 itemCells none) (fun k hk => by cases hk))
  have hg1' := Lib.hid (hg1.trans (World.grownBy_alloc w1 itemCells (some g)))
  have hgw : g < w1.heap.size := hr1.lt
  have hT : (w1.alloc itemCells).heap[w1.heap.size]? = some itemCells := heap_alloc_new _ _
  clear hr1 hg1
  go_wp2_with fail
  refine (belowI _ B g a len cap hr1'.out 4 (by omega) (by omega)).mono ?_
  rintro e w2 ⟨i, hi, rfl, hg2, hr2⟩
  have hi4 : i < 4 := hi
  have hi5 : (i : Int) < 4 := by omega
  have hT2 : w2.heap[w1.heap.size]? = some itemCells := (hg2.block _ (by simp) (by simp; omega)).trans hT
  obtain ⟨t, ht, hct⟩ := itemCells_at hT2 hi4
  have HG := Lib.hid hg2
  have HR := Lib.hid hr2
  clear hT hT2 hg2 hr2 hi
  go_wp2
  go_ret
  exact ⟨t, by omega, rfl, hg1'.out.trans HG.out, HR.out⟩
 ·go_wp2
  go_ret
  exact ⟨_, by decide, rfl, hg1, hr1⟩
end Go.Proofs.YtgagchlcafdiaaaGreat
