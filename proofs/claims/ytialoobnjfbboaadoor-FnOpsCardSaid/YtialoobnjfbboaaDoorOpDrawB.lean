/- The walks of the reader of drawn inputs: word, near, off (spec.l1Rd), for whatever bounds. -/
import Derived.Test.YtialoobnjfbboaaDoorRdBase
namespace Go.Proofs.YtialoobnjfbboaaDoor
open Go.RowKit

/-- What a call of the reader that yields some number of a kind leaves. -/
def YieldsInt (k : IntKind) (w : World) (B g : Nat) (a : Option Addr) (len cap : Nat) (e : Ending) (w' : World) : Prop :=
  ∃ v : Int, e = .returned (.int k v) ∧ w.grownBy w' (some g) ∧ Rd w' B g a len cap

set_option maxRecDepth 100000 in
theorem rdWord (w : World) (B g : Nat) (a : Option Addr) (len cap : Nat) (h : Rd w B g a len cap) :
    Calls Tryd.prog 43 #[.pointer (some ⟨g, 0, none⟩)] w (YieldsInt .u64 w B g a len cap) := by
  have h0 := Lib.hid h
  clear h
  go_enter Tryd.func43, Tryd.ntmps43
  go_wp2
  go_loopw [3, 4] (fun x i wr => ∃ (k : Nat) (v : Int), k ≤ 8 ∧ i = .int .i64 k ∧ x = .int .u64 v ∧ Hid (w.grownBy wr (some g)) ∧ Hid (Rd wr B g a len cap)) (fun _ i _ => 8 - (intOf i).toNat)
  case atStart => exact ⟨0, 0, by omega, rfl, rfl, World.grownBy.refl _ _, h0⟩
  case round =>
    obtain ⟨k, v, hk, rfl, rfl, HG, HR⟩ := hrel
    by_cases hlt : k < 8
    · go_wp2_with fail
      refine (next wr B g a len cap HR.out).mono ?_
      rintro e w1 ⟨z, hz, rfl, hg1, hr1⟩
      have HG1 := Lib.hid (HG.out.trans hg1)
      have HR1 := Lib.hid hr1
      clear hg1 hr1 hz
      go_wp2
      go_roundw
      case rel => exact ⟨k + 1, _, by omega, by go_num, rfl, HG1, HR1⟩
      case measure => simp [intOf]; omega
    · go_wp2
      go_ret
      exact ⟨v, rfl, HG.out, HR.out⟩
set_option maxRecDepth 100000 in
theorem rdNear (w : World) (B g : Nat) (a : Option Addr) (len cap : Nat) (h : Rd w B g a len cap) (lo up : Int) (h1 : 0 ≤ lo) (h2 : lo ≤ up) (h3 : up ≤ 100000) :
    Calls Tryd.prog 36 #[.pointer (some ⟨g, 0, none⟩), .int .i64 lo, .int .i64 up] w (YieldsInt .i64 w B g a len cap) := by
  go_enter Tryd.func36, Tryd.ntmps36
  go_wp2_with fail
  refine (belowI w B g a len cap h 8 (by omega) (by omega)).mono ?_
  rintro e w1 ⟨v, hv, rfl, hg1, hr1⟩
  have hv8 : v < 8 := hv
  clear hv h
  by_cases h0 : v = 0
  · subst h0
    go_wp2
    go_ret
    exact ⟨lo, rfl, hg1, hr1⟩
  · have n0 : ((v : Int) == 0) = false := by simp; omega
    by_cases e1 : v = 1
    · subst e1
      go_wp2
      go_ret
      exact ⟨up, rfl, hg1, hr1⟩
    · have n1 : ((v : Int) == 1) = false := by simp; omega
      have hlt : ¬ up < lo := by omega
      go_wp2_with fail
      refine (rdWord w1 B g a len cap hr1).mono ?_
      rintro e w2 ⟨x, rfl, hg2, hr2⟩
      go_wp2
      go_ret
      exact ⟨_, rfl, hg1.trans hg2, hr2⟩
def offCells (lo hi : Int) : Obj := .cells #[.int .i64 (lo - 1), .int .i64 (hi + 1), .int .i64 (-9223372036854775808), .int .i64 9223372036854775807] 2
theorem offCells_at {w : World} {b i : Nat} {lo up : Int} (h : w.heap[b]? = some (offCells lo up)) (hi : i < 4) : ∃ t : Int, w.cell? ⟨b, i, none⟩ = some (.int .i64 t) := by
  have e := cell_of_row w b i _ _ _ h
  match i, hi with
  | 0, _ => exact ⟨_, e⟩
  | 1, _ => exact ⟨_, e⟩
  | 2, _ => exact ⟨_, e⟩
  | 3, _ => exact ⟨_, e⟩

set_option maxRecDepth 100000 in
theorem rdOff (w : World) (B g : Nat) (a : Option Addr) (len cap : Nat) (h : Rd w B g a len cap) (lo up : Int) (h1 : 0 ≤ lo) (h2 : lo ≤ up) (h3 : up ≤ 100000) :
    Calls Tryd.prog 19 #[.pointer (some ⟨g, 0, none⟩), .int .i64 lo, .int .i64 up] w (YieldsInt .i64 w B g a len cap) := by
  go_enter Tryd.func19, Tryd.ntmps19
  go_wp2_with fail
  refine (once w B g a len cap h 24 (by omega) (by omega)).mono ?_
  rintro e w1 ⟨v, rfl, hg1, hr1⟩
  clear h
  cases v
  · go_wp2_with fail
    refine (rdNear w1 B g a len cap hr1 lo up h1 h2 h3).mono ?_
    rintro e w2 ⟨x, rfl, hg2, hr2⟩
    go_wp2
    go_ret
    exact ⟨x, rfl, hg1.trans hg2, hr2⟩
  · have hr1' := Lib.hid (hr1.grown (World.grownBy_alloc w1 (offCells lo up) none) (fun k hk => by cases hk))
    have hg1' := Lib.hid (hg1.trans (World.grownBy_alloc w1 (offCells lo up) (some g)))
    have hgw : g < w1.heap.size := hr1.lt
    have hT : (w1.alloc (offCells lo up)).heap[w1.heap.size]? = some (offCells lo up) := heap_alloc_new _ _
    clear hr1 hg1
    go_wp2_with fail
    refine (belowI _ B g a len cap hr1'.out 4 (by omega) (by omega)).mono ?_
    rintro e w2 ⟨i, hi, rfl, hg2, hr2⟩
    have hi4 : i < 4 := hi
    have hi5 : (i : Int) < 4 := by omega
    have hT2 : w2.heap[w1.heap.size]? = some (offCells lo up) := (hg2.block _ (by simp) (by simp; omega)).trans hT
    obtain ⟨t, hct⟩ := offCells_at hT2 hi4
    have HG := Lib.hid hg2
    have HR := Lib.hid hr2
    clear hT hT2 hg2 hr2 hi
    go_wp2
    go_ret
    exact ⟨t, rfl, hg1'.out.trans HG.out, HR.out⟩
/-- What a call of the reader that yields an item's text leaves. -/
def YieldsText (m : Nat) (w : World) (B g : Nat) (a : Option Addr) (len cap : Nat) (e : Ending) (w' : World) : Prop :=
  ∃ t : ByteArray, t.size ≤ m ∧ e = .returned (.string t) ∧ w.grownBy w' (some g) ∧ Rd w' B g a len cap
def itemCells : Obj := .cells #[.string ⟨#[116, 101, 97]⟩, .string ⟨#[109, 105, 108, 107]⟩, .string ⟨#[101, 103, 103]⟩, .string ⟨#[111, 97, 116]⟩] 9
theorem itemCells_at {w : World} {b i : Nat} (h : w.heap[b]? = some itemCells) (hi : i < 4) : ∃ t : ByteArray, t.size ≤ 4 ∧ w.cell? ⟨b, i, none⟩ = some (.string t) := by
  have e := cell_of_row w b i _ _ _ h
  match i, hi with
  | 0, _ => exact ⟨_, by decide, e⟩
  | 1, _ => exact ⟨_, by decide, e⟩
  | 2, _ => exact ⟨_, by decide, e⟩
  | 3, _ => exact ⟨_, by decide, e⟩
set_option maxRecDepth 100000 in
theorem rdItem (w : World) (B g : Nat) (a : Option Addr) (len cap : Nat) (h : Rd w B g a len cap) :
    Calls Tryd.prog 35 #[.pointer (some ⟨g, 0, none⟩)] w (YieldsText 8 w B g a len cap) := by
  go_enter Tryd.func35, Tryd.ntmps35
  go_wp2_with fail
  refine (once w B g a len cap h 40 (by omega) (by omega)).mono ?_
  rintro e w1 ⟨v, rfl, hg1, hr1⟩
  clear h
  cases v
  · have hr1' := Lib.hid (hr1.grown (World.grownBy_alloc w1 itemCells none) (fun k hk => by cases hk))
    have hg1' := Lib.hid (hg1.trans (World.grownBy_alloc w1 itemCells (some g)))
    have hgw : g < w1.heap.size := hr1.lt
    have hT : (w1.alloc itemCells).heap[w1.heap.size]? = some itemCells := heap_alloc_new _ _
    clear hr1 hg1
    go_wp2_with fail
    refine (belowI _ B g a len cap hr1'.out 4 (by omega) (by omega)).mono ?_
    rintro e w2 ⟨i, hi, rfl, hg2, hr2⟩
    have hi4 : i < 4 := hi
    have hi5 : (i : Int) < 4 := by omega
    have hT2 : w2.heap[w1.heap.size]? = some itemCells := (hg2.block _ (by simp) (by simp; omega)).trans hT
    obtain ⟨t, ht, hct⟩ := itemCells_at hT2 hi4
    have HG := Lib.hid hg2
    have HR := Lib.hid hr2
    clear hT hT2 hg2 hr2 hi
    go_wp2
    go_ret
    exact ⟨t, by omega, rfl, hg1'.out.trans HG.out, HR.out⟩
  · go_wp2
    go_ret
    exact ⟨_, by decide, rfl, hg1, hr1⟩
end Go.Proofs.YtialoobnjfbboaaDoor
