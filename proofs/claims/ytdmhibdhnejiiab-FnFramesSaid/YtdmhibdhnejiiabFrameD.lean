/- The walks of the functions that draw frames: text (spec.l1Rd), DrawTakeFrames, DrawFrameOf; laws.sameTexts. -/
import Derived.Test.YtdmhibdhnejiiabDrawBase
import Derived.Test.YtdmhibdhnejiiabFrameQ
namespace Go.Proofs.Ytdmhibdhnejiiab
open Go.RowKit
set_option linter.unusedVariables false

def someTexts : Obj := .cells #[.string ⟨#[]⟩, .string ⟨#[97]⟩, .string ⟨#[120, 10]⟩, .string ⟨#[97, 98, 99]⟩, .string ⟨#[0]⟩] 9
theorem someTexts_at {w : World} {b i : Nat} (h : w.heap[b]? = some someTexts) (hi : i < 5) : ∃ t : ByteArray, t.size ≤ 3 ∧ w.cell? ⟨b, i, none⟩ = some (.string t) := by
  have e := cell_of_row w b i _ _ _ h
  match i, hi with
  | 0, _ => exact ⟨_, by decide, e⟩
  | 1, _ => exact ⟨_, by decide, e⟩
  | 2, _ => exact ⟨_, by decide, e⟩
  | 3, _ => exact ⟨_, by decide, e⟩
  | 4, _ => exact ⟨_, by decide, e⟩
set_option maxRecDepth 100000 in
theorem rdText (w : World) (B g : Nat) (a : Option Addr) (len cap : Nat) (h : Rd w B g a len cap) :
    Calls Try.prog 30 #[.pointer (some ⟨g, 0, none⟩)] w (YieldsStr 3 w B g a len cap) := by
  have hr1' := Lib.hid (h.grown (World.grownBy_alloc w someTexts none) (fun k hk => by cases hk))
  have hg1' := Lib.hid (World.grownBy_alloc w someTexts (some g))
  have hgw : g < w.heap.size := h.lt
  have hT : (w.alloc someTexts).heap[w.heap.size]? = some someTexts := heap_alloc_new _ _
  clear h
  go_enter Try.func30, Try.ntmps30
  go_wp2_with fail
  refine (belowI _ B g a len cap hr1'.out 5 (by omega) (by omega)).mono ?_
  rintro e w2 ⟨i, hi, rfl, hg2, hr2⟩
  have hi4 : i < 5 := hi
  have hi5 : (i : Int) < 5 := by omega
  have hT2 : w2.heap[w.heap.size]? = some someTexts := (hg2.block _ (by simp) (by simp; omega)).trans hT
  obtain ⟨t, ht, hct⟩ := someTexts_at hT2 hi4
  have HG := Lib.hid hg2
  have HR := Lib.hid hr2
  clear hT hT2 hg2 hr2 hi
  go_wp2
  go_ret
  exact ⟨t, ht, rfl, hg1'.out.trans HG.out, HR.out⟩
theorem rd_below {w w' : World} {B g : Nat} {a : Option Addr} {len cap : Nat} (h : Rd w B g a len cap) (hb : Below w.heap.size w w') : Rd w' B g a len cap :=
  h.kept fun k hk => hb.block k (by have := h.lt; have := h.own; omega)
set_option maxRecDepth 100000 in
set_option maxHeartbeats 1000000 in
theorem drawTake (w : World) (a : Option Addr) (len cap : Nat) (h : Src w w.heap.size a len) :
    Calls Try.prog 15 #[.slice a len cap] w (DrawsStr 40 w) := by
  have h' := Lib.hid h
  clear h
  go_enter Try.func15, Try.ntmps15
  go_wp2_with fail
  refine (l1Open w w.heap.size a len cap (Nat.le_refl _) ?_).mono ?_
  · exact ⟨h'.out.1, fun i hi => by obtain ⟨b, off, z, e, hb, r⟩ := h'.out.2 i hi; exact ⟨b, off, z, e, by omega, r⟩⟩
  rintro e w1 ⟨rfl, hg1, hr1⟩
  have HB1 := Lib.hid (below_none hg1 (Nat.le_refl _))
  have HR1 := Lib.hid hr1
  have hs1 := hg1.size
  clear hg1 hr1
  generalize hg : w.heap.size = g at HR1 hs1
  have hgl : w.heap.size ≤ g := by omega
  have HG := Lib.hid hg
  clear hg
  go_wp2_with fail
  refine (belowI w1 g g a len cap (by have := HR1.out; exact this) 4 (by omega) (by omega)).mono ?_
  rintro e w2 ⟨v, hv, rfl, hg2, hr2⟩
  have hv4 : v < 4 := hv
  have HB2 := Lib.hid (HB1.out.trans (below_of hg2 hgl HB1.out.size))
  have HR2 := Lib.hid hr2
  clear hg2 hr2 hv HB1 HR1 hs1
  go_wp2
  go_loopw [4, 5] (fun s i wr => ∃ (j : Nat) (t : ByteArray), i = .int .i64 (j : Int) ∧ s = .string t ∧ j ≤ 3 ∧ t.size + 11 * j ≤ 33 ∧ Hid (Below w.heap.size w wr) ∧ Hid (Rd wr g g a len cap)) (fun _ i _ => (intOf i).toNat)
  case atStart => exact ⟨v, ⟨#[]⟩, rfl, rfl, by omega, (by show 0 + 11 * v ≤ 33; omega), HB2, HR2⟩
  case round =>
    obtain ⟨j, t, rfl, rfl, hj, ht, HBr, HRr⟩ := hrel
    by_cases h0 : 0 < j
    · have hji : (0 : Int) < (j : Int) := by omega
      go_wp2_with fail
      refine (rdText wr g g a len cap HRr.out).mono ?_
      rintro e w3 ⟨x, hx, rfl, hg3, hr3⟩
      have HB3 := Lib.hid (HBr.out.trans (below_of hg3 hgl HBr.out.size))
      have HR3 := Lib.hid hr3
      clear hg3 hr3 HBr HRr
      go_wp2_with fail
      refine (specFrame x (by omega) w3).mono ?_
      rintro e w4 ⟨rfl, hb4⟩
      have HB4 := Lib.hid (HB3.out.trans (hb4.mono HB3.out.size))
      have HR4 := Lib.hid (rd_below HR3.out hb4)
      have hfs : (frameStr x).size ≤ 11 := by unfold frameStr; rw [ByteArray.size_append, headStr_size]; omega
      have has : (t ++ frameStr x).size ≤ t.size + 11 := by rw [ByteArray.size_append]; omega
      clear hb4 HB3 HR3
      go_wp2
      go_roundw
      case rel => exact ⟨j - 1, _, (by go_num), rfl, by omega, by omega, HB4, HR4⟩
      case measure => simp [intOf]; omega
    · obtain rfl : j = 0 := by omega
      go_wp2_with fail
      refine (hurt wr g g a len cap HRr.out t (by omega)).mono ?_
      rintro e w3 ⟨x, hx, rfl, hg3, hr3⟩
      have HB3 := Lib.hid (HBr.out.trans (below_of hg3 hgl HBr.out.size))
      clear hg3 hr3
      go_wp2
      go_ret
      exact ⟨x, by omega, rfl, HB3.out⟩
set_option maxRecDepth 100000 in
theorem drawFrame (w : World) (a : Option Addr) (len cap : Nat) (h : Src w w.heap.size a len) :
    Calls Try.prog 17 #[.slice a len cap] w (DrawsStr 8 w) := by
  have h' := Lib.hid h
  clear h
  go_enter Try.func17, Try.ntmps17
  go_wp2_with fail
  refine (l1Open w w.heap.size a len cap (Nat.le_refl _) ?_).mono ?_
  · exact ⟨h'.out.1, fun i hi => by obtain ⟨b, off, z, e, hb, r⟩ := h'.out.2 i hi; exact ⟨b, off, z, e, by omega, r⟩⟩
  rintro e w1 ⟨rfl, hg1, hr1⟩
  have HB1 := Lib.hid (below_none hg1 (Nat.le_refl _))
  have hs1 := hg1.size
  go_wp2_with fail
  refine (rdText w1 w.heap.size w.heap.size a len cap hr1).mono ?_
  rintro e w2 ⟨s, hs, rfl, hg2, hr2⟩
  have HB2 := Lib.hid (HB1.out.trans (below_of hg2 (Nat.le_refl _) hs1))
  go_wp2_with fail
  refine (bytes w2 w.heap.size w.heap.size a len cap hr2 5 (by omega)).mono ?_
  rintro e w3 ⟨x, hx, rfl, hg3, hr3⟩
  have HB3 := Lib.hid (HB2.out.trans (below_of hg3 (Nat.le_refl _) HB2.out.size))
  have hsx : (s ++ x).size ≤ 8 := by rw [ByteArray.size_append]; omega
  clear hg1 hr1 hg2 hr2 hg3 hr3 hs1
  go_wp2
  go_ret
  exact ⟨s ++ x, hsx, rfl, HB3.out⟩
set_option maxRecDepth 100000 in
theorem sameTexts (w : World) (B B' : Nat) (a a' : Option Addr) (len cap len' cap' : Nat) (xs ys : List ByteArray) (h : Strs w B a len xs) (h' : Strs w B' a' len' ys) (hl : len ≤ 1048576) (hl' : len' ≤ 1048576) :
    Calls Try.prog 16 #[.slice a len cap, .slice a' len' cap'] w (EqPostS xs ys w) := by
  have hL := Lib.hid h.1
  have hL' := Lib.hid h'.1
  have H := Lib.hid h
  have H' := Lib.hid h'
  clear h h'
  by_cases hn : len = len'
  · subst hn
    go_enter Try.func16, Try.ntmps16
    go_wp2
    go_loopw [5] (fun i wr => ∃ k n : Nat, k ≤ len ∧ i = .int .i64 k ∧ wr = w.drewN n ∧ Hid (xs.take k = ys.take k)) (fun i _ => len - (intOf i).toNat)
    case atStart => exact ⟨0, 0, Nat.zero_le _, rfl, rfl, rfl⟩
    case round =>
      obtain ⟨k, n, hk, rfl, rfl, HA⟩ := hrel
      by_cases hlt : k < len
      · obtain ⟨b, off, rfl, hb, hc⟩ := H.out.2 k hlt
        obtain ⟨b', off', rfl, hb', hc'⟩ := H'.out.2 k hlt
        obtain ⟨x, hx⟩ : ∃ x, x = xs.getD k ⟨#[]⟩ := ⟨_, rfl⟩
        obtain ⟨y, hy⟩ : ∃ y, y = ys.getD k ⟨#[]⟩ := ⟨_, rfl⟩
        rw [← hx] at hc
        rw [← hy] at hc'
        have HX := Lib.hid hx
        have HY := Lib.hid hy
        have hki : (k : Int) < (len : Int) := by omega
        clear hx hy
        by_cases e : x = y
        · have hne : (!(x.toList == y.toList)) = false := by rw [e]; simp
          have HS : Hid (xs.take (k + 1) = ys.take (k + 1)) := by
            show _ = _
            rw [take_getS xs k (by rw [hL.out]; exact hlt), take_getS ys k (by rw [hL'.out]; exact hlt), HA.out, ← HX.out, ← HY.out, e]
          clear e
          go_wp2
          go_quiet (fail)
          go_wp2
          go_roundw
          case rel => exact ⟨k + 1, n + nq, by omega, by go_num, rfl, HS⟩
          case measure => simp [intOf]; omega
        · have hne : (!(x.toList == y.toList)) = true := by
            rw [Bool.not_eq_true', beq_eq_false_iff_ne]; exact fun h => e (text_extS h)
          have HV : Hid (decide (xs = ys) = false) := decide_eq_false (fun h => e (by rw [HX.out, HY.out, h]))
          clear e
          go_wp2
          go_quiet (fail)
          go_wp2
          go_ret
          exact ⟨ret_boolS HV.out.symm, n + nq, World.drewN_drewN ..⟩
      · have HV : Hid (decide (xs = ys) = true) := decide_eq_true (by
          have := HA.out
          rwa [List.take_of_length_le (by have := hL.out; omega), List.take_of_length_le (by have := hL'.out; omega)] at this)
        go_wp2
        go_ret
        exact ⟨ret_boolS HV.out.symm, n, rfl⟩
  · have hne : ((len : Int) != (len' : Int)) = true := by simp; omega
    have HV : Hid (decide (xs = ys) = false) := decide_eq_false (fun e => hn (by rw [← hL.out, ← hL'.out, e]))
    go_enter Try.func16, Try.ntmps16
    go_wp2
    go_ret
    exact ⟨ret_boolS HV.out.symm, 0, rfl⟩
end Go.Proofs.Ytdmhibdhnejiiab
