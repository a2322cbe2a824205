/- The walks of the reader's word, near, off, with the range of what they yield; of spec.DrawVarOf and spec.DrawReadVar. -/
import Derived.Test.YtjcfekljdkaaiaaDoorDrawBase
import Derived.Test.YtjcfekljdkaaiaaDoorTextsW
namespace Go.Proofs.YtjcfekljdkaaiaaDoor
open Go.RowKit

/-- A number of an int64. -/
def InR (v : Int) : Prop := -9223372036854775808 ≤ v ∧ v ≤ 9223372036854775807
theorem inR_wrap (x : Int) : InR (wrap64 x) := by unfold InR; simp only [wrap64]; omega
theorem inR_small {x : Int} (h0 : -1 ≤ x) (h1 : x ≤ 200000) : InR x := by unfold InR; omega
theorem inR_top {k : Nat} (h : k < 3) : InR (9223372036854775807 - (k : Int)) := by unfold InR; omega
theorem inR_fit {v : Int} (h : InR v) (h0 : 0 ≤ v) : Fit v.toNat := by unfold InR at h; unfold Fit; omega
/-- What a call of the reader that yields some number of a kind leaves. -/
def YieldsInt (k : IntKind) (w : World) (B g : Nat) (a : Option Addr) (len cap : Nat) (e : Ending) (w' : World) : Prop :=
  ∃ v : Int, e = .returned (.int k v) ∧ w.grownBy w' (some g) ∧ Rd w' B g a len cap

set_option maxRecDepth 100000 in
theorem rdWord (w : World) (B g : Nat) (a : Option Addr) (len cap : Nat) (h : Rd w B g a len cap) :
    Calls Tryd.prog 93 #[.pointer (some ⟨g, 0, none⟩)] w (YieldsInt .u64 w B g a len cap) := by
  have h0 := Lib.hid h
  clear h
  go_enter Tryd.func93, Tryd.ntmps93
  go_wp2
  go_loopw [3, 4] (fun x i wr => ∃ (k : Nat) (v : Int), k ≤ 8 ∧ i = .int .i64 k ∧ x = .int .u64 v ∧ Hid (w.grownBy wr (some g)) ∧ Hid (Rd wr B g a len cap)) (fun _ i _ => 8 - (intOf i).toNat)
  case atStart => exact ⟨0, 0, by omega, rfl, rfl, World.grownBy.refl _ _, h0⟩
  case round =>
    obtain ⟨k, v, hk, rfl, rfl, HG, HR⟩ := hrel
    by_cases hlt : k < 8
    · go_wp2_with fail
      refine (next wr B g a len cap HR.out).mono ?_
      rintro e w1 ⟨z, hz, rfl, hg1, hr1⟩
      have HG1 := Lib.hid (HG.out.trans hg1)
      have HR1 := Lib.hid hr1
      clear hg1 hr1 hz
      go_wp2
      go_roundw
      case rel => exact ⟨k + 1, _, by omega, by go_num, rfl, HG1, HR1⟩
      case measure => simp [intOf]; omega
    · go_wp2
      go_ret
      exact ⟨v, rfl, HG.out, HR.out⟩
theorem inR_pow {k : Nat} (h : k < 63) : InR (2 ^ k) := by
  have h1 : (2 : Nat) ^ k ≤ 2 ^ 62 := Nat.pow_le_pow_right (by omega) (by omega)
  have h2 : ((2 : Int) ^ k) = ((2 ^ k : Nat) : Int) := by rw [Int.natCast_pow]; rfl
  have h3 : (2 : Nat) ^ 62 = 4611686018427387904 := by decide
  generalize (2 : Nat) ^ k = m at h1 h2
  unfold InR
  rw [h2]
  omega
def YieldsR (w : World) (B g : Nat) (a : Option Addr) (len cap : Nat) (e : Ending) (w' : World) : Prop :=
  ∃ v : Int, InR v ∧ e = .returned (.int .i64 v) ∧ w.grownBy w' (some g) ∧ Rd w' B g a len cap
set_option maxRecDepth 100000 in
theorem rdNearR (w : World) (B g : Nat) (a : Option Addr) (len cap : Nat) (h : Rd w B g a len cap) (lo up : Int) (h1 : 0 ≤ lo) (h2 : lo ≤ up) (h3 : up ≤ 100000) :
    Calls Tryd.prog 82 #[.pointer (some ⟨g, 0, none⟩), .int .i64 lo, .int .i64 up] w (YieldsR w B g a len cap) := by
  go_enter Tryd.func82, Tryd.ntmps82
  go_wp2_with fail
  refine (belowI w B g a len cap h 8 (by omega) (by omega)).mono ?_
  rintro e w1 ⟨v, hv, rfl, hg1, hr1⟩
  have hv8 : v < 8 := hv
  clear hv h
  by_cases h0 : v = 0
  · subst h0
    go_wp2
    go_ret
    exact ⟨lo, inR_small (by omega) (by omega), rfl, hg1, hr1⟩
  · have n0 : ((v : Int) == 0) = false := by simp; omega
    by_cases e1 : v = 1
    · subst e1
      go_wp2
      go_ret
      exact ⟨up, inR_small (by omega) (by omega), rfl, hg1, hr1⟩
    · have n1 : ((v : Int) == 1) = false := by simp; omega
      have hlt : ¬ up < lo := by omega
      go_wp2_with fail
      refine (rdWord w1 B g a len cap hr1).mono ?_
      rintro e w2 ⟨x, rfl, hg2, hr2⟩
      go_wp2
      go_ret
      exact ⟨_, inR_wrap _, rfl, hg1.trans hg2, hr2⟩
def offCells (lo hi : Int) : Obj := .cells #[.int .i64 (lo - 1), .int .i64 (hi + 1), .int .i64 (-9223372036854775808), .int .i64 9223372036854775807] 2
theorem offCells_at {w : World} {b i : Nat} {lo up : Int} (h : w.heap[b]? = some (offCells lo up)) (hi : i < 4) (h1 : 0 ≤ lo) (h2 : lo ≤ up) (h3 : up ≤ 100000) : ∃ t : Int, InR t ∧ w.cell? ⟨b, i, none⟩ = some (.int .i64 t) := by
  have e := cell_of_row w b i _ _ _ h
  match i, hi with
  | 0, _ => exact ⟨_, inR_small (by omega) (by omega), e⟩
  | 1, _ => exact ⟨_, inR_small (by omega) (by omega), e⟩
  | 2, _ => exact ⟨_, by unfold InR; omega, e⟩
  | 3, _ => exact ⟨_, by unfold InR; omega, e⟩

set_option maxRecDepth 100000 in
theorem rdOffR (w : World) (B g : Nat) (a : Option Addr) (len cap : Nat) (h : Rd w B g a len cap) (lo up : Int) (h1 : 0 ≤ lo) (h2 : lo ≤ up) (h3 : up ≤ 100000) :
    Calls Tryd.prog 47 #[.pointer (some ⟨g, 0, none⟩), .int .i64 lo, .int .i64 up] w (YieldsR w B g a len cap) := by
  go_enter Tryd.func47, Tryd.ntmps47
  go_wp2_with fail
  refine (once w B g a len cap h 24 (by omega) (by omega)).mono ?_
  rintro e w1 ⟨v, rfl, hg1, hr1⟩
  clear h
  cases v
  · go_wp2_with fail
    refine (rdNearR w1 B g a len cap hr1 lo up h1 h2 h3).mono ?_
    rintro e w2 ⟨x, hx, rfl, hg2, hr2⟩
    go_wp2
    go_ret
    exact ⟨x, hx, rfl, hg1.trans hg2, hr2⟩
  · have hr1' := Lib.hid (hr1.grown (World.grownBy_alloc w1 (offCells lo up) none) (fun k hk => by cases hk))
    have hg1' := Lib.hid (hg1.trans (World.grownBy_alloc w1 (offCells lo up) (some g)))
    have hgw : g < w1.heap.size := hr1.lt
    have hT : (w1.alloc (offCells lo up)).heap[w1.heap.size]? = some (offCells lo up) := heap_alloc_new _ _
    clear hr1 hg1
    go_wp2_with fail
    refine (belowI _ B g a len cap hr1'.out 4 (by omega) (by omega)).mono ?_
    rintro e w2 ⟨i, hi, rfl, hg2, hr2⟩
    have hi4 : i < 4 := hi
    have hi5 : (i : Int) < 4 := by omega
    have hT2 : w2.heap[w1.heap.size]? = some (offCells lo up) := (hg2.block _ (by simp) (by simp; omega)).trans hT
    obtain ⟨t, htr, hct⟩ := offCells_at hT2 hi4 h1 h2 h3
    have HTR := Lib.hid htr
    clear htr
    have HG := Lib.hid hg2
    have HR := Lib.hid hr2
    clear hT hT2 hg2 hr2 hi
    go_wp2
    go_ret
    exact ⟨t, HTR.out, rfl, hg1'.out.trans HG.out, HR.out⟩
def DrawsVar (w : World) (e : Ending) (w' : World) : Prop := ∃ v : Int, InR v ∧ e = .returned (.int .i64 v) ∧ Below w.heap.size w w'
theorem src_wide {w : World} {B B' : Nat} {a : Option Addr} {len : Nat} (h : Src w B a len) (hB : B ≤ B') : Src w B' a len :=
  ⟨h.1, fun i hi => by obtain ⟨b, off, z, e, hb, r⟩ := h.2 i hi; exact ⟨b, off, z, e, by omega, r⟩⟩
set_option maxRecDepth 100000 in
set_option maxHeartbeats 1000000 in
theorem drawVarOf (w : World) (a : Option Addr) (len cap : Nat) (h : Src w w.heap.size a len) : Calls Tryd.prog 11 #[.slice a len cap] w (DrawsVar w) := by
  have HS := Lib.hid h
  clear h
  go_enter Tryd.func11, Tryd.ntmps11
  go_wp2_with fail
  refine (l1Open w w.heap.size a len cap (Nat.le_refl _) HS.out).mono ?_
  rintro e w1 ⟨rfl, hg1, hr1⟩
  go_wp2_with fail
  refine (belowI w1 w.heap.size w.heap.size a len cap hr1 4 (by omega) (by omega)).mono ?_
  rintro e w2 ⟨v, hv, rfl, hg2, hr2⟩
  have HB := Lib.hid ((below_none hg1 (Nat.le_refl _)).trans (below_of hg2 (Nat.le_refl _) hg1.size))
  have HR := Lib.hid hr2
  have hv4 : v < 4 := hv
  clear hg1 hr1 hg2 hr2 hv
  obtain rfl | rfl | rfl | rfl : v = 0 ∨ v = 1 ∨ v = 2 ∨ v = 3 := by omega
  · go_wp2_with fail
    refine (belowI w2 w.heap.size w.heap.size a len cap HR.out 63 (by omega) (by omega)).mono ?_
    rintro e w3 ⟨k, hk, rfl, hg3, hr3⟩
    have HBf := Lib.hid (HB.out.trans (below_of hg3 (Nat.le_refl _) HB.out.size))
    clear hg3 hr3
    have hk' : k < 63 := hk
    clear hk
    go_wp2
    go_ret
    exact ⟨_, by first | exact inR_wrap _ | exact inR_pow hk', rfl, HBf.out⟩
  · go_wp2_with fail
    refine (belowI w2 w.heap.size w.heap.size a len cap HR.out 3 (by omega) (by omega)).mono ?_
    rintro e w3 ⟨k, hk, rfl, hg3, hr3⟩
    have HBf := Lib.hid (HB.out.trans (below_of hg3 (Nat.le_refl _) HB.out.size))
    clear hg3 hr3
    have hk' : k < 3 := hk
    clear hk
    go_wp2
    go_ret
    exact ⟨_, by first | exact inR_top hk' | exact inR_wrap _, rfl, HBf.out⟩
  · go_wp2_with fail
    refine (rdOffR w2 w.heap.size w.heap.size a len cap HR.out 0 127 (by omega) (by omega) (by omega)).mono ?_
    rintro e w3 ⟨k, hk, rfl, hg3, hr3⟩
    have HBf := Lib.hid (HB.out.trans (below_of hg3 (Nat.le_refl _) HB.out.size))
    clear hg3 hr3
    have HK := Lib.hid hk
    clear hk
    go_wp2
    go_ret
    exact ⟨_, HK.out, rfl, HBf.out⟩
  · go_wp2_with fail
    refine (belowI w2 w.heap.size w.heap.size a len cap HR.out 20000 (by omega) (by omega)).mono ?_
    rintro e w3 ⟨k, hk, rfl, hg3, hr3⟩
    have HBf := Lib.hid (HB.out.trans (below_of hg3 (Nat.le_refl _) HB.out.size))
    clear hg3 hr3
    have hk' : k < 20000 := hk
    clear hk
    go_wp2
    go_ret
    exact ⟨_, inR_small (by omega) (by omega), rfl, HBf.out⟩
theorem specVarAny (n : Int) (h : InR n) (w : World) : Calls Tryd.prog 16 #[.int .i64 n] w fun e w' => (∃ s : ByteArray, s.size ≤ 9 ∧ e = .returned (.string s)) ∧ Below w.heap.size w w' := by
  by_cases h0 : n < 0
  · exact (specVarNeg n h0 w).mono fun e w' ⟨he, hw⟩ => ⟨⟨_, by decide, he⟩, hw ▸ Below.refl _ _⟩
  · obtain ⟨N, rfl⟩ := Int.eq_ofNat_of_zero_le (Int.not_lt.1 h0)
    have hF : Fit N := by have := inR_fit h (Int.not_lt.1 h0); rwa [Int.toNat_natCast] at this
    refine (specVar N hF w).mono fun e w' ⟨he, hb⟩ => ⟨⟨_, ?_, he⟩, hb⟩
    rw [strOfNums_size]
    exact varNums_len9 N (by unfold Fit at hF; exact hF)
set_option maxRecDepth 100000 in
theorem drawReadVar (w : World) (a : Option Addr) (len cap : Nat) (h : Src w w.heap.size a len) : Calls Tryd.prog 13 #[.slice a len cap] w (DrawsStr 40 w) := by
  have HS := Lib.hid h
  clear h
  go_enter Tryd.func13, Tryd.ntmps13
  go_wp2_with fail
  refine (l1Open w w.heap.size a len cap (Nat.le_refl _) HS.out).mono ?_
  rintro e w1 ⟨rfl, hg1, hr1⟩
  have HB1 := Lib.hid (below_none hg1 (Nat.le_refl _))
  have HR1 := Lib.hid hr1
  clear hg1 hr1
  go_wp2_with fail
  refine (drawVarOf w1 a len cap (src_wide (src_below HS.out HB1.out) HB1.out.size)).mono ?_
  rintro e w2 ⟨n, hn, rfl, hb2⟩
  go_wp2_with fail
  refine (specVarAny n hn w2).mono ?_
  rintro e w3 ⟨⟨s, hs, rfl⟩, hb3⟩
  have hbb : Below w1.heap.size w1 w3 := hb2.trans (hb3.mono hb2.size)
  have HR3 := Lib.hid (HR1.out.kept (w' := w3) fun k hk => hbb.block k (by have := HR1.out.lt; omega))
  have HB3 := Lib.hid (HB1.out.trans (hbb.mono HB1.out.size))
  clear hb2 hb3 hbb hn HR1 HB1
  go_wp2_with fail
  refine (once w3 w.heap.size w.heap.size a len cap HR3.out 3 (by omega) (by omega)).mono ?_
  rintro e w4 ⟨v, rfl, hg4, hr4⟩
  have HB4 := Lib.hid (HB3.out.trans (below_of hg4 (Nat.le_refl _) HB3.out.size))
  have HR4 := Lib.hid hr4
  clear hg4 hr4 HR3 HB3
  cases v
  · go_wp2_with fail
    refine (bytes w4 w.heap.size w.heap.size a len cap HR4.out 3 (by omega)).mono ?_
    rintro e w5 ⟨t, ht, rfl, hg5, hr5⟩
    have HB5 := Lib.hid (HB4.out.trans (below_of hg5 (Nat.le_refl _) HB4.out.size))
    clear hg5 hr5
    go_wp2
    go_ret
    exact ⟨_, by rw [ByteArray.size_append]; omega, rfl, HB5.out⟩
  · go_wp2_with fail
    refine (hurt w4 w.heap.size w.heap.size a len cap HR4.out _ (by omega)).mono ?_
    rintro e w5 ⟨t, ht, rfl, hg5, hr5⟩
    have HB5 := Lib.hid (HB4.out.trans (below_of hg5 (Nat.le_refl _) HB4.out.size))
    clear hg5 hr5
    go_wp2
    go_ret
    exact ⟨t, by omega, rfl, HB5.out⟩
end Go.Proofs.YtjcfekljdkaaiaaDoor
