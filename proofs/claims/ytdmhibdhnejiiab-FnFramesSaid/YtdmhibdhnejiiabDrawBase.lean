/- The walks of the functions that draw texts (spec.l1Open, once, hurt, DrawTextOf). -/
import Derived.Test.YtdmhibdhnejiiabRdW
import Derived.Test.YtdmhibdhnejiiabRow
import Derived.IntWalk
import Derived.Deep.RegionWith
namespace Go.Proofs.Ytdmhibdhnejiiab
open Go.RowKit

theorem src_of_row {w : World} {a : Option Addr} {len cap : Nat} {zs : List Int} (h : IsRow .u8 w a len cap zs) (hl : len ≤ 1048576) : Src w w.heap.size a len := by
  refine ⟨hl, fun i hi => ?_⟩
  rcases h with ⟨_, rfl, _⟩ | ⟨x, rfl, hlc, _, hz, hc, hw⟩
  · omega
  · have hci := hc i (by omega)
    obtain ⟨b, off, rfl⟩ := add_plain (hc 0 (by omega))
    have ea := add_at b off i
    have hb := bounds_u8 (hw (zs.getD i 0) (by rw [List.getD_eq_getElem?_getD, List.getElem?_eq_getElem (by omega)]; simp))
    rw [ea] at hci
    refine ⟨b, off, (zs.getD i 0).toNat, rfl, block_lt_of_cell hci, by omega, ?_⟩
    rw [hci, Int.toNat_of_nonneg hb.1]

def Opens (w : World) (B : Nat) (a : Option Addr) (len cap : Nat) (e : Ending) (w' : World) : Prop :=
  e = .returned (.pointer (some ⟨w.heap.size, 0, none⟩)) ∧ w.grownBy w' none ∧ Rd w' B w.heap.size a len cap
set_option maxRecDepth 100000 in
theorem l1Open (w : World) (B : Nat) (a : Option Addr) (len cap : Nat) (hB : B ≤ w.heap.size) (h : Src w B a len) :
    Calls Try.prog 28 #[.slice a len cap] w (Opens w B a len cap) := by
  go_enter Try.func28, Try.ntmps28
  go_wp2
  go_ret
  exact ⟨rfl, World.grownBy_alloc _ _ _, hB, ⟨0, Nat.zero_le _, heap_alloc_new _ _⟩, h.kept fun k hk => Below.heap_alloc _ _ _ (by omega)⟩

theorem below_of {w w' : World} {B g : Nat} (hg : w.grownBy w' (some g)) (hB : B ≤ g) (hB2 : B ≤ w.heap.size) : Below B w w' :=
  (Below.refl B w).grown hg hB2 (fun k hk => by cases hk; exact hB)
theorem below_none {w w' : World} {B : Nat} (hg : w.grownBy w' none) (hB2 : B ≤ w.heap.size) : Below B w w' :=
  (Below.refl B w).grown hg hB2 (fun k hk => by cases hk)

/-- What a function that draws a text leaves: some text of at most m bytes, and nothing turned that was there. -/
def DrawsStr (m : Nat) (w : World) (e : Ending) (w' : World) : Prop := ∃ s : ByteArray, s.size ≤ m ∧ e = .returned (.string s) ∧ Below w.heap.size w w'

theorem src_below {w w' : World} {B : Nat} {a : Option Addr} {len : Nat} (h : Src w B a len) (hb : Below B w w') : Src w' B a len := h.kept hb.block

/-- What a test of the reader leaves. -/
def YieldsBool (w : World) (B g : Nat) (a : Option Addr) (len cap : Nat) (e : Ending) (w' : World) : Prop :=
  ∃ v : Bool, e = .returned (.bool v) ∧ w.grownBy w' (some g) ∧ Rd w' B g a len cap

theorem run_one (W : World) (z : Int) : (convert 29 9 (.slice (some ⟨W.heap.size, 0, none⟩) 1 1)).run Try.prog (W.alloc (.cells #[.int .u8 z] 5)) = .ok (.string (strOfNums [z])) (W.alloc (.cells #[.int .u8 z] 5)) := by
  refine run_convert_bytes_arg _ 29 5 Try.underlying29 Try.underlying5 W.heap.size 0 1 1 [z] rfl (fun i hi => ?_) 9 Try.underlying9
  rw [cell_of_row _ _ _ _ _ _ (heap_alloc_new W _)]
  match i, hi with
  | 0, _ => rfl

def hurtTexts : Obj := .cells #[.string ⟨#[0]⟩, .string ⟨#[97]⟩, .string ⟨#[10]⟩, .string ⟨#[255]⟩] 9
theorem hurtTexts_at {w : World} {b i : Nat} (h : w.heap[b]? = some hurtTexts) (hi : i < 4) : ∃ t : ByteArray, t.size ≤ 1 ∧ w.cell? ⟨b, i, none⟩ = some (.string t) := by
  have e := cell_of_row w b i _ _ _ h
  match i, hi with
  | 0, _ => exact ⟨_, Nat.le_refl _, e⟩
  | 1, _ => exact ⟨_, Nat.le_refl _, e⟩
  | 2, _ => exact ⟨_, Nat.le_refl _, e⟩
  | 3, _ => exact ⟨_, Nat.le_refl _, e⟩
theorem strOne (z : Int) : (strOfNums [z]).size ≤ 1 := by rw [strOfNums_size]; exact Nat.le_refl _

set_option maxRecDepth 100000 in
set_option maxHeartbeats 2000000 in
theorem hurt (w : World) (B g : Nat) (a : Option Addr) (len cap : Nat) (h : Rd w B g a len cap) (s : ByteArray) (hs : s.size ≤ 60000) :
    Calls Try.prog 31 #[.pointer (some ⟨g, 0, none⟩), .string s] w (YieldsStr (s.size + 1) w B g a len cap) := by
  go_enter Try.func31, Try.ntmps31
  go_wp2_with fail
  refine (belowI w B g a len cap h 6 (by omega) (by omega)).mono ?_
  rintro e w1 ⟨v, hv, rfl, hg1, hr1⟩
  have hv6 : v < 6 := hv
  clear hv h
  by_cases h1 : v = 1
  · subst h1
    go_wp2_with fail
    refine (belowI _ B g a len cap hr1 _ (by omega) (by omega)).mono ?_
    rintro e w2 ⟨i, hi, rfl, hg2, hr2⟩
    have hi1 : i ≤ s.size := by omega
    have hi2 : (i : Int) ≤ (s.size : Int) := by omega
    clear hi
    go_wp2
    go_ret
    exact ⟨s.extract 0 i, by rw [ByteArray.size_extract]; omega, rfl, hg1.trans hg2, hr2⟩
  · have n1 : ((v : Int) == 1) = false := by simp; omega
    by_cases h2 : v = 2
    · subst h2
      by_cases hs0 : 0 < s.size
      · have hs0' : (0 : Int) < (s.size : Int) := by omega
        go_wp2_with fail
        refine (belowI _ B g a len cap hr1 _ (by omega) (by omega)).mono ?_
        rintro e w2 ⟨i, hi, rfl, hg2, hr2⟩
        have hi1 : i < s.size := by omega
        have hi2 : (i : Int) ≤ (s.size : Int) := by omega
        have hi3 : (i : Int) + 1 ≤ (s.size : Int) := by omega
        have HR2 := Lib.hid hr2
        clear hi hr2
        have hcv := run_one
        have hwr : IntKind.i64.wrap ((i : Int) + 1) = (i : Int) + 1 := IntWalk.i64_in _ (by omega)
        have hw0 : (0 : Int) ≤ (i : Int) + 1 := by omega
        have hwt : ((i : Int) + 1).toNat = i + 1 := by omega
        go_wp2_with fail
        have hx1 : (s.extract 0 i).size ≤ 60000 := by rw [ByteArray.size_extract]; omega
        have hx3 : (s.extract (i + 1) s.size).size ≤ 60000 := by rw [ByteArray.size_extract]; omega
        have ha1 : ∀ (z : Int) (W : World), (Op.stringOp .add (s.extract 0 i) (strOfNums [z])).run Try.prog W = .ok (.string (s.extract 0 i ++ strOfNums [z])) W := fun z W => run_string_add_sum W _ _ (by have := strOne z; omega)
        have ha2 : ∀ (z : Int) (W : World), (Op.stringOp .add (s.extract 0 i ++ strOfNums [z]) (s.extract (i + 1) s.size)).run Try.prog W = .ok (.string (s.extract 0 i ++ strOfNums [z] ++ s.extract (i + 1) s.size)) W := fun z W => run_string_add_sum W _ _ (by rw [ByteArray.size_append]; have := strOne z; omega)
        go_region_with (go_at_call 29; refine (belowI _ B g a len cap (by exact HR2.out.kept fun _ _ => rfl) 256 (by omega) (by omega)).mono ?_; rintro e w3 ⟨z, hz, rfl, hg3, hr3⟩)
        clear ha1 ha2 hcv hwr hw0 hwt
        go_wp2
        go_ret
        have hg2' : w1.grownBy w2.drew (some g) := ⟨hg2.os, hg2.tape, hg2.output, hg2.size, hg2.block⟩
        have e5 := strOne (IntKind.u8.wrap (z : Int))
        refine ⟨_, ?_, rfl, ((hg1.trans hg2').trans hg3).trans (World.grownBy_alloc w3 _ (some g)), hr3.grown (World.grownBy_alloc w3 _ none) (fun k hk => by cases hk)⟩
        rw [ByteArray.size_append, ByteArray.size_append, ByteArray.size_extract, ByteArray.size_extract]
        omega
      · have hs0' : decide ((0 : Int) < (s.size : Int)) = false := decide_eq_false (by omega)
        go_wp2
        go_ret
        exact ⟨s, by omega, rfl, hg1, hr1⟩
    · have n2 : ((v : Int) == 2) = false := by simp; omega
      by_cases h3 : v = 3
      · subst h3
        have hr1' := Lib.hid (hr1.grown (World.grownBy_alloc w1 hurtTexts none) (fun k hk => by cases hk))
        have hg1' := Lib.hid (hg1.trans (World.grownBy_alloc w1 hurtTexts (some g)))
        have hgw : g < w1.heap.size := hr1.lt
        have hT : (w1.alloc hurtTexts).heap[w1.heap.size]? = some hurtTexts := heap_alloc_new _ _
        clear hr1 hg1
        go_wp2_with fail
        refine (belowI _ B g a len cap hr1'.out 4 (by omega) (by omega)).mono ?_
        rintro e w2 ⟨i, hi, rfl, hg2, hr2⟩
        have hi4 : i < 4 := hi
        have hi5 : (i : Int) < 4 := by omega
        have hT2 : w2.heap[w1.heap.size]? = some hurtTexts := (hg2.block _ (by simp) (by simp; omega)).trans hT
        obtain ⟨t, ht, hct⟩ := hurtTexts_at hT2 hi4
        have HG := Lib.hid hg2
        have HR := Lib.hid hr2
        clear hT hT2 hg2 hr2 hi
        go_wp2
        go_ret
        exact ⟨s ++ t, by rw [ByteArray.size_append]; omega, rfl, hg1'.out.trans HG.out, HR.out⟩
      · have n3 : ((v : Int) == 3) = false := by simp; omega
        go_wp2
        go_ret
        exact ⟨s, by omega, rfl, hg1, hr1⟩
end Go.Proofs.Ytdmhibdhnejiiab
