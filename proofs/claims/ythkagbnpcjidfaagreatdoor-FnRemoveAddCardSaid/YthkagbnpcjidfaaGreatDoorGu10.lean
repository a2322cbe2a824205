/- Walks and mathematics that several claims share, part 10. -/
import Derived.Test.YthkagbnpcjidfaaGreatDoorGu0
import Derived.Test.YthkagbnpcjidfaaGreatDoorRows
import Derived.WalkKit
import Derived.WalkLawsBesides
import Derived.Lib.Hide
import Derived.OpenShut
import Derived.Deep.RegionHeld3
import Derived.RegionTactic
import Derived.Deep.QuietTactic
import Derived.BigQuiet
import Derived.Laws.Rows
import Derived.WalkSpells
import Derived.Maps.AppendAt
namespace Go.Proofs.YthkagbnpcjidfaaGreatDoor
set_option maxRecDepth 100000
open Go.RowKit
set_option linter.unusedVariables false
set_option linter.unusedSimpArgs false
def Src (w : World) (B : Nat) (a : Option Addr) (len : Nat) : Prop :=
 len ≤ 1048576 ∧ ∀ i, i < len → ∃ b off z : Nat, a = some ⟨b, off, none⟩ ∧ b < B ∧ z < 256 ∧ w.cell? ⟨b, off + i, none⟩ = some (.int .u8 (z : Int))
structure Rd (w : World) (B g : Nat) (a : Option Addr) (len cap : Nat) : Prop where
 own : B ≤ g
 cells : ∃ p : Nat, p ≤ len ∧ w.heap[g]? = some (.cells #[.slice a len cap, .int .i64 (p : Int)] 110 (0, 0))
 src : Src w B a len
theorem Src.kept {w w' : World} {B : Nat} {a : Option Addr} {len : Nat} (h : Src w B a len) (hk : ∀ k, k < B → w'.heap[k]? = w.heap[k]?) : Src w' B a len :=
 ⟨h.1, fun i hi => by
  obtain ⟨b, off, z, e, hb, hz, hc⟩ := h.2 i hi; exact ⟨b, off, z, e, hb, hz, (World.cell?_of_block (hk b hb)).trans hc⟩⟩
theorem Rd.lt {w : World} {B g : Nat} {a : Option Addr} {len cap : Nat} (h : Rd w B g a len cap) : g < w.heap.size := by
 obtain ⟨p, _, hg⟩ := h.cells
 exact (aPp hg).1
theorem Rd.kept {w w' : World} {B g : Nat} {a : Option Addr} {len cap : Nat} (h : Rd w B g a len cap) (hk : ∀ k, k < B ∨ k = g → w'.heap[k]? = w.heap[k]?) : Rd w' B g a len cap :=
 ⟨h.own, by obtain ⟨p, hp, hg⟩ := h.cells; exact ⟨p, hp, (hk g (.inr rfl)).trans hg⟩, h.src.kept fun k qF => hk k (.inl qF)⟩
theorem Rd.grown {w w' : World} {B g : Nat} {a : Option Addr} {len cap : Nat} {row : Option Nat} (h : Rd w B g a len cap) (hg : w.grownBy w' row) (hr : ∀ k, row = some k → B ≤ k ∧ k ≠ g) : Rd w' B g a len cap :=
 h.kept fun k hk => hg.block k (by have := h.lt; have := h.own; omega) (fun e => by have := hr k e.symm; omega)
def Yields (m : Nat) (w : World) (B g : Nat) (a : Option Addr) (len cap : Nat) (e : Ending) (w' : World) : Prop :=
 ∃ v : Nat, v < m ∧ e = .returned (.int .i64 (v : Int)) ∧ w.grownBy w' (some g) ∧ Rd w' B g a len cap
theorem grownBy_set (w : World) (n : Nat) (g i : Nat) (v : Value) (m : Nat) : w.grownBy (((w.drewN n).setCell ⟨g, i, none⟩ v).drewN m) (some g) :=
 ⟨rfl, rfl, rfl, by show w.heap.size ≤ ((w.drewN n).setCell ⟨g, i, none⟩ v).heap.size; simp [World.setCell], fun k hk bO => by
  show ((w.drewN n).setCell ⟨g, i, none⟩ v).heap[k]? = _
  rw [heap_setCell_other _ _ _ _ (fun e => bO (by rw [e]))]
  rfl⟩
theorem aHS {w : World} {B g b off : Nat} {len cap p z n m : Nat} (h : Rd w B g (some ⟨b, off, none⟩) len cap) (hg : w.heap[g]? = some (.cells #[.slice (some ⟨b, off, none⟩) len cap, .int .i64 (p : Int)] 110 (0, 0))) (aJ : p < len) (hz : z < 256) :
  Yields 256 w B g (some ⟨b, off, none⟩) len cap (.returned (.int .i64 (z : Int))) (((w.drewN n).setCell ⟨g, 1, none⟩ (.int .i64 ((p : Int) + 1))).drewN m) := by
 refine ⟨z, hz, rfl, grownBy_set w n g 1 _ m, h.own, ⟨p + 1, aJ, ?_⟩, h.src.kept fun k hk => ?_⟩
 ·show ((w.drewN n).setCell ⟨g, 1, none⟩ (.int .i64 ((p : Int) + 1))).heap[g]? = _
  rw [heap_setCell_same (w.drewN n) g 1 _ _ _ hg]
  rfl
 ·show ((w.drewN n).setCell ⟨g, 1, none⟩ (.int .i64 ((p : Int) + 1))).heap[k]? = _
  rw [heap_setCell_other _ _ _ _ (by have := h.own; show k ≠ g; omega)]
  rfl
theorem next (w : World) (B g : Nat) (a : Option Addr) (len cap : Nat) (h : Rd w B g a len cap) :
  Calls Tryz.prog 106 #[.pointer (some ⟨g, 0, none⟩)] w (Yields 256 w B g a len cap) := by
 obtain ⟨p, hp, hg⟩ := h.cells
 have A7 : w.cell? ⟨g, 0, none⟩ = some (.slice a len cap) := aPr hg
 have hc1 : w.cell? ⟨g, 1, none⟩ = some (.int .i64 (p : Int)) := aPr hg
 have hf : w.frozen? ⟨g, 1, none⟩ = false := aPs hg
 by_cases aJ : p < len
 ·obtain ⟨b, off, z, rfl, hb, hz, hc⟩ := h.src.2 p aJ
  have hbg : b ≠ g := by have := h.own; omega
  have mQ := h.src.1; have HG := aPo hg; have HH := aPo h; clear hg h
  go_enter Tryz.func106, Tryz.ntmps106
  go_wp2
  go_quiet (fail)
  go_wp2
  go_quiet (fail)
  go_wp2
  go_ret
  exact aHS HH.out HG.out aJ hz
 ·clear hf
  go_enter Tryz.func106, Tryz.ntmps106
  go_wp2
  go_quiet (fail)
  go_wp2
  go_ret
  exact ⟨0, by omega, rfl, ⟨rfl, rfl, rfl, Nat.le_refl _, fun _ _ _ => rfl⟩, h.kept fun _ _ => rfl⟩
theorem Yields.trans {m n : Nat} {w w1 w2 : World} {B g : Nat} {a : Option Addr} {len cap : Nat} {e : Ending} (h : w.grownBy w1 (some g)) (h2 : Yields m w1 B g a len cap e w2) (hmn : m ≤ n) : Yields n w B g a len cap e w2 := by
 obtain ⟨v, hv, he, hg, hr⟩ := h2
 exact ⟨v, by omega, he, h.trans hg, hr⟩
theorem aJi (v n : Nat) : Ending.returned (.int .i64 ((v : Int) % (n : Int))) = .returned (.int .i64 ((v % n : Nat) : Int)) := by rw [Int.natCast_emod]
theorem below (w : World) (B g : Nat) (a : Option Addr) (len cap : Nat) (h : Rd w B g a len cap) (n : Nat) (hn : 0 < n) (A4 : n ≤ 65536) :
  Calls Tryz.prog 76 #[.pointer (some ⟨g, 0, none⟩), .int .i64 (n : Int)] w (Yields n w B g a len cap) := by
 by_cases h1 : n ≤ 1
 ·obtain rfl : n = 1 := by omega
  go_enter Tryz.func76, Tryz.ntmps76
  go_wp2
  go_ret
  exact ⟨0, by omega, rfl, World.grownBy.refl _ _, h⟩
 ·by_cases h2 : n ≤ 256
  ·go_enter Tryz.func76, Tryz.ntmps76
   go_wp2_with fail
   refine (next w B g a len cap h).mono ?_
   rintro e w1 ⟨v, hv, rfl, hg, hr⟩; have aG : (0 : Int) ≤ (v : Int) := by omega
   have aM : (0 : Int) < (n : Int) := by omega
   go_wp2
   go_ret
   exact ⟨v % n, Nat.mod_lt _ hn, aJi v n, hg, hr⟩
  ·go_enter Tryz.func76, Tryz.ntmps76
   go_wp2_with fail
   refine (next w B g a len cap h).mono ?_
   rintro e w1 ⟨v, hv, rfl, hg, hr⟩
   go_wp2_with fail
   refine (next _ B g a len cap hr).mono ?_
   rintro e w2 ⟨u, hu, rfl, eH, dU⟩; have aM : (0 : Int) < (n : Int) := by omega
   go_wp2
   go_ret
   refine ⟨(v * 256 + u) % n, Nat.mod_lt _ hn, ?_, hg.trans eH, dU⟩
   rw [← aJi]; simp
theorem lE (w : World) (B g : Nat) (a : Option Addr) (len cap : Nat) (h : Rd w B g a len cap) (x : Int) (h0 : 0 < x) (h1 : x ≤ 65536) :
  Calls Tryz.prog 76 #[.pointer (some ⟨g, 0, none⟩), .int .i64 x] w (Yields x.toNat w B g a len cap) := by
 obtain ⟨n, rfl⟩ := Int.eq_ofNat_of_zero_le (Int.le_of_lt h0)
 exact below w B g a len cap h n (by omega) (by omega)
theorem aAc {w : World} {a : Option Addr} {len cap : Nat} {zs : List Int} (h : IsRow .u8 w a len cap zs) (hl : len ≤ 1048576) : Src w w.heap.size a len := by
 refine ⟨hl, fun i hi => ?_⟩
 rcases h with ⟨_, rfl, _⟩ | ⟨x, rfl, hlc, _, hz, hc, hw⟩
 ·omega
 ·have hci := hc i (by omega)
  obtain ⟨b, off, rfl⟩ := add_plain (hc 0 (by omega))
  have ea := tD b off i; have hb := bounds_u8 (hw (zs.getD i 0) (by rw [List.getD_eq_getElem?_getD, List.getElem?_eq_getElem (by omega)]; simp))
  rw [ea] at hci; refine ⟨b, off, (zs.getD i 0).toNat, rfl, block_lt_of_cell hci, by omega, ?_⟩
  rw [hci, Int.toNat_of_nonneg hb.1]
def aM4 (w : World) (B : Nat) (a : Option Addr) (len cap : Nat) (e : Ending) (w' : World) : Prop :=
 e = .returned (.pointer (some ⟨w.heap.size, 0, none⟩)) ∧ w.grownBy w' none ∧ Rd w' B w.heap.size a len cap
theorem aLf (w : World) (B : Nat) (a : Option Addr) (len cap : Nat) (hB : B ≤ w.heap.size) (h : Src w B a len) :
  Calls Tryz.prog 38 #[.slice a len cap] w (aM4 w B a len cap) := by
 go_enter Tryz.func38, Tryz.ntmps38
 go_wp2
 go_ret
 exact ⟨rfl, World.grownBy_alloc _ _ _, hB, ⟨0, Nat.zero_le _, heap_alloc_new _ _⟩, h.kept fun k hk => Below.heap_alloc _ _ _ (by omega)⟩
def aFC (w : World) (B g : Nat) (a : Option Addr) (len cap : Nat) (e : Ending) (w' : World) : Prop :=
 ∃ v : Bool, e = .returned (.bool v) ∧ w.grownBy w' (some g) ∧ Rd w' B g a len cap
theorem aBf (w : World) (B g : Nat) (a : Option Addr) (len cap : Nat) (h : Rd w B g a len cap) (x : Int) (h0 : 0 < x) (h1 : x ≤ 65536) :
  Calls Tryz.prog 48 #[.pointer (some ⟨g, 0, none⟩), .int .i64 x] w (aFC w B g a len cap) := by
 go_enter Tryz.func48, Tryz.ntmps48
 go_wp2_with fail
 refine (lE w B g a len cap h x h0 h1).mono ?_
 rintro e w1 ⟨v, hv, rfl, hg, hr⟩
 go_wp2
 go_ret
 exact ⟨_, rfl, hg, hr⟩
theorem aJu (a : Option Addr) (len cap : Nat) (h : len ≤ 1048576) (w : World) :
  Calls Tryz.prog 15 #[.slice a len cap] w fun e w' => e = .returned (.bool false) ∧ w = w' := by
 have hd : decide ((1048576 : Int) < (len : Int)) = false := decide_eq_false (by omega)
 go_enter Tryz.func15, Tryz.ntmps15
 go_wp2
 go_ret
 exact ⟨rfl, rfl⟩
theorem aHo (a : Option Addr) (len cap : Nat) (h : ¬ len ≤ 1048576) (w : World) :
  Calls Tryz.prog 15 #[.slice a len cap] w fun e w' => e = .returned (.bool true) ∧ w = w' := by
 have hd : decide ((1048576 : Int) < (len : Int)) = true := decide_eq_true (by omega)
 go_enter Tryz.func15, Tryz.ntmps15
 go_wp2
 go_ret
 exact ⟨rfl, rfl⟩
def B9 (k : IntKind) (w : World) (B g : Nat) (a : Option Addr) (len cap : Nat) (e : Ending) (w' : World) : Prop :=
 ∃ v : Int, e = .returned (.int k v) ∧ w.grownBy w' (some g) ∧ Rd w' B g a len cap
theorem aKX (w : World) (B g : Nat) (a : Option Addr) (len cap : Nat) (h : Rd w B g a len cap) :
  Calls Tryz.prog 121 #[.pointer (some ⟨g, 0, none⟩)] w (B9 .u64 w B g a len cap) := by
 have h0 := aPo h
 clear h
 go_enter Tryz.func121, Tryz.ntmps121
 go_wp2
 go_loopw [3, 4] (fun x i wr => ∃ (k : Nat) (v : Int), k ≤ 8 ∧ i = .int .i64 k ∧ x = .int .u64 v ∧ Hid (w.grownBy wr (some g)) ∧ Hid (Rd wr B g a len cap)) (fun _ i _ => 8 - (intOf i).toNat)
 case atStart => exact ⟨0, 0, by omega, rfl, rfl, World.grownBy.refl _ _, h0⟩
 case round =>
  obtain ⟨k, v, hk, rfl, rfl, HG, HR⟩ := hrel
  by_cases aJ : k < 8
  ·go_wp2_with fail
   refine (next wr B g a len cap HR.out).mono ?_
   rintro e w1 ⟨z, hz, rfl, bZ, cX⟩; have C8 := aPo (HG.out.trans bZ); have fQ := aPo cX; clear bZ cX hz; go_wp2
   go_roundw
   case rel => exact ⟨k + 1, _, by omega, by go_num, rfl, C8, fQ⟩
   case measure => simp [intOf]; omega
  ·go_wp2
   go_ret
   exact ⟨v, rfl, HG.out, HR.out⟩
theorem aKY (w : World) (B g : Nat) (a : Option Addr) (len cap : Nat) (h : Rd w B g a len cap) (lo up : Int) (h1 : 0 ≤ lo) (h2 : lo ≤ up) (h3 : up ≤ 10000000) :
  Calls Tryz.prog 91 #[.pointer (some ⟨g, 0, none⟩), .int .i64 lo, .int .i64 up] w (B9 .i64 w B g a len cap) := by
 go_enter Tryz.func91, Tryz.ntmps91
 go_wp2_with fail
 refine (lE w B g a len cap h 8 (by omega) (by omega)).mono ?_
 rintro e w1 ⟨v, hv, rfl, bZ, cX⟩
 have hv8 : v < 8 := hv
 clear hv h
 by_cases h0 : v = 0
 ·subst h0
  go_wp2
  go_ret
  exact ⟨lo, rfl, bZ, cX⟩
 ·have n0 : ((v : Int) == 0) = false := by simp; omega
  by_cases e1 : v = 1
  ·subst e1
   go_wp2
   go_ret
   exact ⟨up, rfl, bZ, cX⟩
  ·have n1 : ((v : Int) == 1) = false := by simp; omega
   have aJ : ¬ up < lo := by omega
   go_wp2_with fail
   refine (aKX w1 B g a len cap cX).mono ?_
   rintro e w2 ⟨x, rfl, eH, dU⟩; go_wp2
   go_ret
   exact ⟨_, rfl, bZ.trans eH, dU⟩
def uI (lo hi : Int) : Obj := .cells #[.int .i64 (lo - 1), .int .i64 (hi + 1), .int .i64 (-9223372036854775808), .int .i64 9223372036854775807] 2
theorem aEa {w : World} {b i : Nat} {lo up : Int} (h : w.heap[b]? = some (uI lo up)) (hi : i < 4) : ∃ t : Int, w.cell? ⟨b, i, none⟩ = some (.int .i64 t) := by
 have e := cell_of_row w b i _ _ _ h
 match i, hi with
 | 0, _ => exact ⟨_, e⟩
 | 1, _ => exact ⟨_, e⟩
 | 2, _ => exact ⟨_, e⟩
 | 3, _ => exact ⟨_, e⟩
theorem zY (w : World) (B g : Nat) (a : Option Addr) (len cap : Nat) (h : Rd w B g a len cap) (lo up : Int) (h1 : 0 ≤ lo) (h2 : lo ≤ up) (h3 : up ≤ 10000000) :
  Calls Tryz.prog 49 #[.pointer (some ⟨g, 0, none⟩), .int .i64 lo, .int .i64 up] w (B9 .i64 w B g a len cap) := by
 go_enter Tryz.func49, Tryz.ntmps49
 go_wp2_with fail
 refine (aBf w B g a len cap h 24 (by omega) (by omega)).mono ?_
 rintro e w1 ⟨v, rfl, bZ, cX⟩
 clear h
 cases v
 ·go_wp2_with fail
  refine (aKY w1 B g a len cap cX lo up h1 h2 h3).mono ?_
  rintro e w2 ⟨x, rfl, eH, dU⟩; go_wp2
  go_ret
  exact ⟨x, rfl, bZ.trans eH, dU⟩
 ·have kL := aPo (cX.grown (World.grownBy_alloc w1 (uI lo up) none) (fun k hk => by cases hk))
  have iK := aPo (bZ.trans (World.grownBy_alloc w1 (uI lo up) (some g))); have jH : g < w1.heap.size := cX.lt; have hT : (w1.alloc (uI lo up)).heap[w1.heap.size]? = some (uI lo up) := heap_alloc_new _ _; clear cX bZ
  go_wp2_with fail
  refine (lE _ B g a len cap kL.out 4 (by omega) (by omega)).mono ?_
  rintro e w2 ⟨i, hi, rfl, eH, dU⟩; have hi4 : i < 4 := hi; have hi5 : (i : Int) < 4 := by omega
  have nR : w2.heap[w1.heap.size]? = some (uI lo up) := (eH.block _ (by simp) (by simp; omega)).trans hT
  obtain ⟨t, hct⟩ := aEa nR hi4; have HG := aPo eH; have HR := aPo dU; clear hT nR eH dU hi; go_wp2
  go_ret
  exact ⟨t, rfl, iK.out.trans HG.out, HR.out⟩
def aFB (m : Nat) (w : World) (B g : Nat) (a : Option Addr) (len cap : Nat) (e : Ending) (w' : World) : Prop :=
 ∃ t : ByteArray, t.size ≤ m ∧ e = .returned (.string t) ∧ w.grownBy w' (some g) ∧ Rd w' B g a len cap
def rU : Obj := .cells #[.string ⟨#[116, 101, 97]⟩, .string ⟨#[109, 105, 108, 107]⟩, .string ⟨#[101, 103, 103]⟩, .string ⟨#[111, 97, 116]⟩] 9
theorem aCR {w : World} {b i : Nat} (h : w.heap[b]? = some rU) (hi : i < 4) : ∃ t : ByteArray, t.size ≤ 4 ∧ w.cell? ⟨b, i, none⟩ = some (.string t) := by
 have e := cell_of_row w b i _ _ _ h
 match i, hi with
 | 0, _ => exact ⟨_, by decide, e⟩
 | 1, _ => exact ⟨_, by decide, e⟩
 | 2, _ => exact ⟨_, by decide, e⟩
 | 3, _ => exact ⟨_, by decide, e⟩
theorem aKZ (w : World) (B g : Nat) (a : Option Addr) (len cap : Nat) (h : Rd w B g a len cap) :
  Calls Tryz.prog 77 #[.pointer (some ⟨g, 0, none⟩)] w (aFB 8 w B g a len cap) := by
 go_enter Tryz.func77, Tryz.ntmps77
 go_wp2_with fail
 refine (aBf w B g a len cap h 40 (by omega) (by omega)).mono ?_
 rintro e w1 ⟨v, rfl, bZ, cX⟩
 clear h
 cases v
 ·have kL := aPo (cX.grown (World.grownBy_alloc w1 rU none) (fun k hk => by cases hk))
  have iK := aPo (bZ.trans (World.grownBy_alloc w1 rU (some g))); have jH : g < w1.heap.size := cX.lt; have hT : (w1.alloc rU).heap[w1.heap.size]? = some rU := heap_alloc_new _ _; clear cX bZ
  go_wp2_with fail
  refine (lE _ B g a len cap kL.out 4 (by omega) (by omega)).mono ?_
  rintro e w2 ⟨i, hi, rfl, eH, dU⟩; have hi4 : i < 4 := hi; have hi5 : (i : Int) < 4 := by omega
  have nR : w2.heap[w1.heap.size]? = some rU := (eH.block _ (by simp) (by simp; omega)).trans hT
  obtain ⟨t, ht, hct⟩ := aCR nR hi4; have HG := aPo eH; have HR := aPo dU; clear hT nR eH dU hi; go_wp2
  go_ret
  exact ⟨t, by omega, rfl, iK.out.trans HG.out, HR.out⟩
 ·go_wp2
  go_ret
  exact ⟨_, by decide, rfl, bZ, cX⟩
end Go.Proofs.YthkagbnpcjidfaaGreatDoor
