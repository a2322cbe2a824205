/- The walks of the functions that draw vectors (spec.l1Rd: word, near, off, vec; DrawVecMax, DrawVecMin, DrawVecOk, DrawVecWithin). -/
import Derived.Test.YtmceofdknphgkaaRdBase
import Derived.Test.YtmceofdknphgkaaMaxW
import Derived.Test.YtmceofdknphgkaaMinW
namespace Go.Proofs.Ytmceofdknphgkaa
open Go.RowKit

/-- What a call of the reader that yields some number of a kind leaves. -/
def YieldsInt (k : IntKind) (w : World) (B g : Nat) (a : Option Addr) (len cap : Nat) (e : Ending) (w' : World) : Prop :=
  ∃ v : Int, e = .returned (.int k v) ∧ w.grownBy w' (some g) ∧ Rd w' B g a len cap

set_option maxRecDepth 100000 in
theorem word (w : World) (B g : Nat) (a : Option Addr) (len cap : Nat) (h : Rd w B g a len cap) :
    Calls Try.prog 174 #[.pointer (some ⟨g, 0, none⟩)] w (YieldsInt .u64 w B g a len cap) := by
  have h0 := Lib.hid h
  clear h
  go_enter Try.func174, Try.ntmps174
  go_wp2
  go_loopw [3, 4] (fun x i wr => ∃ (k : Nat) (v : Int), k ≤ 8 ∧ i = .int .i64 k ∧ x = .int .u64 v ∧ Hid (w.grownBy wr (some g)) ∧ Hid (Rd wr B g a len cap)) (fun _ i _ => 8 - (intOf i).toNat)
  case atStart => exact ⟨0, 0, by omega, rfl, rfl, World.grownBy.refl _ _, h0⟩
  case round =>
    obtain ⟨k, v, hk, rfl, rfl, HG, HR⟩ := hrel
    by_cases hlt : k < 8
    · go_wp2_with fail
      refine (next wr B g a len cap HR.out).mono ?_
      rintro e w1 ⟨z, hz, rfl, hg1, hr1⟩
      have HG1 := Lib.hid (HG.out.trans hg1)
      have HR1 := Lib.hid hr1
      clear hg1 hr1 hz
      go_wp2
      go_roundw
      case rel => exact ⟨k + 1, _, by omega, by go_num, rfl, HG1, HR1⟩
      case measure => simp [intOf]; omega
    · go_wp2
      go_ret
      exact ⟨v, rfl, HG.out, HR.out⟩

set_option maxRecDepth 100000 in
theorem near (w : World) (B g : Nat) (a : Option Addr) (len cap : Nat) (h : Rd w B g a len cap) :
    Calls Try.prog 161 #[.pointer (some ⟨g, 0, none⟩), .int .i64 0, .int .i64 40] w (YieldsInt .i64 w B g a len cap) := by
  go_enter Try.func161, Try.ntmps161
  go_wp2_with fail
  refine (belowI w B g a len cap h 8 (by omega) (by omega)).mono ?_
  rintro e w1 ⟨v, hv, rfl, hg1, hr1⟩
  have hv8 : v < 8 := hv
  clear hv h
  by_cases h0 : v = 0
  · subst h0
    go_wp2
    go_ret
    exact ⟨0, rfl, hg1, hr1⟩
  · have n0 : ((v : Int) == 0) = false := by simp; omega
    by_cases h1 : v = 1
    · subst h1
      go_wp2
      go_ret
      exact ⟨40, rfl, hg1, hr1⟩
    · have n1 : ((v : Int) == 1) = false := by simp; omega
      go_wp2_with fail
      refine (word w1 B g a len cap hr1).mono ?_
      rintro e w2 ⟨x, rfl, hg2, hr2⟩
      go_wp2
      go_ret
      exact ⟨_, rfl, hg1.trans hg2, hr2⟩

def offCells : Obj := .cells #[.int .i64 (-1), .int .i64 41, .int .i64 (-9223372036854775808), .int .i64 9223372036854775807] 2
theorem offCells_at {w : World} {b i : Nat} (h : w.heap[b]? = some offCells) (hi : i < 4) : ∃ t : Int, w.cell? ⟨b, i, none⟩ = some (.int .i64 t) := by
  have e := cell_of_row w b i _ _ _ h
  match i, hi with
  | 0, _ => exact ⟨_, e⟩
  | 1, _ => exact ⟨_, e⟩
  | 2, _ => exact ⟨_, e⟩
  | 3, _ => exact ⟨_, e⟩

set_option maxRecDepth 100000 in
theorem off (w : World) (B g : Nat) (a : Option Addr) (len cap : Nat) (h : Rd w B g a len cap) :
    Calls Try.prog 108 #[.pointer (some ⟨g, 0, none⟩), .int .i64 0, .int .i64 40] w (YieldsInt .i64 w B g a len cap) := by
  go_enter Try.func108, Try.ntmps108
  go_wp2_with fail
  refine (once w B g a len cap h 24 (by omega) (by omega)).mono ?_
  rintro e w1 ⟨v, rfl, hg1, hr1⟩
  clear h
  cases v
  · go_wp2_with fail
    refine (near w1 B g a len cap hr1).mono ?_
    rintro e w2 ⟨x, rfl, hg2, hr2⟩
    go_wp2
    go_ret
    exact ⟨x, rfl, hg1.trans hg2, hr2⟩
  · have hr1' := Lib.hid (hr1.grown (World.grownBy_alloc w1 offCells none) (fun k hk => by cases hk))
    have hg1' := Lib.hid (hg1.trans (World.grownBy_alloc w1 offCells (some g)))
    have hgw : g < w1.heap.size := hr1.lt
    have hT : (w1.alloc offCells).heap[w1.heap.size]? = some offCells := heap_alloc_new _ _
    clear hr1 hg1
    go_wp2_with fail
    refine (belowI _ B g a len cap hr1'.out 4 (by omega) (by omega)).mono ?_
    rintro e w2 ⟨i, hi, rfl, hg2, hr2⟩
    have hi4 : i < 4 := hi
    have hi5 : (i : Int) < 4 := by omega
    have hT2 : w2.heap[w1.heap.size]? = some offCells := (hg2.block _ (by simp) (by simp; omega)).trans hT
    obtain ⟨t, hct⟩ := offCells_at hT2 hi4
    have HG := Lib.hid hg2
    have HR := Lib.hid hr2
    clear hT hT2 hg2 hr2 hi
    go_wp2
    go_ret
    exact ⟨t, rfl, hg1'.out.trans HG.out, HR.out⟩

/-- Ints, whose row lies from lo on. -/
def IntsIn (w : World) (lo hi : Nat) (a : Option Addr) (n : Nat) (xs : List Int) : Prop := Ints w hi a n xs ∧ ∀ b off, 0 < n → a = some ⟨b, off, none⟩ → lo ≤ b
theorem IntsIn.grown {w w' : World} {lo hi g : Nat} {a : Option Addr} {n : Nat} {xs : List Int} (h : IntsIn w lo hi a n xs) (hg : w.grownBy w' (some g)) (hgl : g < lo) (hh : hi ≤ w.heap.size) : IntsIn w' lo hi a n xs :=
  ⟨⟨h.1.1, fun i hi' => by
    obtain ⟨b, o, e, hb, hc⟩ := h.1.2 i hi'
    have hlo := h.2 b o (by omega) e
    exact ⟨b, o, e, hb, (World.cell?_of_block (a := ⟨b, o + i, none⟩) (hg.block b (by omega) (fun e' => by cases e'; omega))).trans hc⟩⟩, h.2⟩
/-- What a call of the reader that yields a list leaves. -/
def YieldsVec (w : World) (B g : Nat) (a : Option Addr) (len cap : Nat) (e : Ending) (w' : World) : Prop :=
  ∃ (av : Option Addr) (n c : Nat) (xs : List Int), n ≤ 4 ∧ e = .returned (.slice av n c) ∧ IntsIn w' w.heap.size w'.heap.size av n xs ∧ w.grownBy w' (some g) ∧ Rd w' B g a len cap

theorem ints_of_own {w : World} {base : Nat} {v : Value} {n : Nat} {xs : List Int} (h : w.ownsRow base 2 1 v n (xs.map (Value.int .i64))) (hn : 0 < n) :
    ∃ g cap cur, v = .slice (some ⟨g, 0, none⟩) n cap ∧ base ≤ g ∧ n ≤ cap ∧ n ≤ cur.size ∧ w.heap[g]? = some (.cells cur 2 (0, 0)) ∧ ∀ i, i < n → cur[i]? = some (.int .i64 (xs.getD i 0)) := by
  have hl : xs.length = n := by have := h.1; simpa using this
  rcases h.2 with ⟨_, e⟩ | ⟨g, c, cur, e, hb, hg, hnc, _, hcs, ht⟩
  · omega
  · refine ⟨g, c, cur, e, hb, hnc, by omega, hg, fun i hi' => ?_⟩
    have h2 : (cur.toList.take (n * 1))[i]? = (xs.map (Value.int .i64))[i]? := by rw [ht]
    rw [Nat.mul_one, List.getElem?_take_of_lt hi', List.getElem?_map, List.getElem?_eq_getElem (by omega : i < xs.length)] at h2
    rw [← Array.getElem?_toList, h2, List.getD_eq_getElem?_getD, List.getElem?_eq_getElem (by omega)]
    rfl

theorem vec_ends {w W : World} {B g gv len cap c c' : Nat} {a : Option Addr} {xs : List Int} {cur : Array Value} (hh : W.heap[gv]? = some (.cells cur 2 (0, 0))) (hc : ∀ i, i < 4 → cur[i]? = some (.int .i64 (xs.getD i 0)))
    (hg : w.grownBy W (some g)) (hr : Rd W B g a len cap) (hv : w.heap.size ≤ gv) :
    YieldsVec w B g a len cap (.returned (.slice (some ⟨gv, 0, none⟩) 4 c)) W ∧ YieldsVec w B g a len cap (.returned (.slice (some ⟨gv, 1, none⟩) 3 c')) W := by
  have hlt := lt_of_block hh
  refine ⟨⟨some ⟨gv, 0, none⟩, 4, c, [xs.getD 0 0, xs.getD 1 0, xs.getD 2 0, xs.getD 3 0], by omega, rfl, ⟨⟨rfl, fun i hi => ⟨gv, 0, rfl, hlt, ?_⟩⟩, fun b o _ e => by cases e; exact hv⟩, hg, hr⟩,
    ⟨some ⟨gv, 1, none⟩, 3, c', [xs.getD 1 0, xs.getD 2 0, xs.getD 3 0], by omega, rfl, ⟨⟨rfl, fun i hi => ⟨gv, 1, rfl, hlt, ?_⟩⟩, fun b o _ e => by cases e; exact hv⟩, hg, hr⟩⟩
  · rw [cell_of_row _ _ _ _ _ _ hh]
    match i, hi with
    | 0, _ => exact hc 0 (by omega)
    | 1, _ => exact hc 1 (by omega)
    | 2, _ => exact hc 2 (by omega)
    | 3, _ => exact hc 3 (by omega)
  · rw [cell_of_row _ _ _ _ _ _ hh]
    match i, hi with
    | 0, _ => exact hc 1 (by omega)
    | 1, _ => exact hc 2 (by omega)
    | 2, _ => exact hc 3 (by omega)

set_option maxRecDepth 100000 in
set_option maxHeartbeats 1000000 in
theorem vec (w : World) (B g : Nat) (a : Option Addr) (len cap : Nat) (h : Rd w B g a len cap) :
    Calls Try.prog 130 #[.pointer (some ⟨g, 0, none⟩)] w (YieldsVec w B g a len cap) := by
  obtain ⟨i0, hi, hz0, hz1, hz2⟩ := info_parts Try.infoI64
  have hgw := h.lt
  have hBg := h.own
  have hr0 := Lib.hid (h.grown (World.grownBy_alloc w (.cells #[] 2) none) (fun k hk => by cases hk))
  have ho0 := Lib.hid (World.ownsRow_made (e := 2) (size := 1) w #[] 0 (Nat.le_refl w.heap.size) (by unfold maxLen; omega) rfl)
  have hg0 := Lib.hid (World.grownBy_alloc w (.cells #[] 2) (some g))
  clear h
  go_enter Try.func130, Try.ntmps130
  go_wp2
  go_loopw [3, 4] (fun v i wr => ∃ (k : Nat) (xs : List Int), k ≤ 4 ∧ i = .int .i64 k ∧ Hid (wr.ownsRow w.heap.size 2 1 v k (xs.map (Value.int .i64))) ∧ Hid (w.grownBy wr (some g)) ∧ Hid (Rd wr B g a len cap)) (fun _ i _ => 4 - (intOf i).toNat)
  case atStart => exact ⟨0, [], by omega, rfl, ho0, hg0, hr0⟩
  case round =>
    obtain ⟨k, xs, hk, rfl, HO, HG, HR⟩ := hrel
    have hB : w.heap.size ≤ wr.heap.size := HG.out.size
    by_cases hlt : k < 4
    · go_wp2_with fail
      refine (belowI _ B g a len cap HR.out 5 (by omega) (by omega)).mono ?_
      rintro e w2 ⟨z, hz, rfl, hg2, hr2⟩
      have hown2 := HO.out.kept hg2 (by
        rcases hu : Value.ownBlock _ with _ | j
        · exact .inl rfl
        · exact .inr (fun e => by have := (HO.out.lt j hu).1; have : j = g := by simpa using e
                                  omega))
      have hgr2 := HG.out.trans hg2
      have hB2 : w.heap.size ≤ w2.heap.size := hgr2.size
      clear hg2 HO HG HR hz
      go_wp2_with (at_builtin; refine wpList_append_own _ rfl _ _ 24 rfl w.heap.size 2 i0 (.int .i64 0) 1 8 Try.underlying24 hi hz0 hz1 hz2 rfl (by decide) _ _ _ rfl (hown2.alloc _) ⟨w2.heap.size, 0, none⟩ 1 1 [.int .i64 (z : Int)] rfl rfl ?c1 ?c2 ?c3 ?c4 ?c5 ?_)
      case c1 =>
        intro j u hj
        match j, hj with
        | 0, hj => simp at hj; subst hj; simp [Addr.add]
      case c2 => intro u hu; simp at hu; subst hu; rfl
      case c3 => unfold maxLen; omega
      case c4 => omega
      case c5 => simp; omega
      intro v' w3 hown3 hgrow3 _
      have hgr3 := grownBy_own (grownBy_own hgr2 (World.grownBy_alloc w2 _ none) (fun k hk => by cases hk)) hgrow3 (fun j hj => (hown2.lt j hj).1)
      have hr3 := (hr2.grown (World.grownBy_alloc w2 _ none) (fun k hk => by cases hk)).grown hgrow3 (fun j hj => by have h1 := (hown2.lt j hj).1; exact ⟨by omega, by omega⟩)
      have HO3 := Lib.hid (p := w3.ownsRow w.heap.size 2 1 v' (k + 1) ((xs ++ [(z : Int)]).map (Value.int .i64))) (by simpa using hown3)
      have HG3 := Lib.hid hgr3
      have HR3 := Lib.hid hr3
      clear hown3 hgrow3 hown2 hgr2 hr2 hgr3 hr3
      go_wp2
      go_roundw
      case rel => exact ⟨k + 1, xs ++ [(z : Int)], by omega, by go_num, HO3, HG3, HR3⟩
      case measure => simp [intOf]; omega
    · obtain rfl : k = 4 := by omega
      obtain ⟨gv, c, cur, rfl, hgv, hc4, hcs, hgh, hcc⟩ := ints_of_own HO.out (by omega)
      have HGH := Lib.hid hgh
      have HCC := Lib.hid hcc
      have hgvw : gv < wr.heap.size := lt_of_block hgh
      clear hgh hcc
      go_wp2_with fail
      refine (once wr B g a len cap HR.out 20 (by omega) (by omega)).mono ?_
      rintro e w2 ⟨v, rfl, hg2, hr2⟩
      have hB2 : wr.heap.size ≤ w2.heap.size := hg2.size
      have hgh2 : w2.heap[gv]? = some (.cells cur 2 (0, 0)) := (hg2.block gv hgvw (by simp; omega)).trans HGH.out
      have HG2 := Lib.hid (HG.out.trans hg2)
      have HR2 := Lib.hid hr2
      have HH2 := Lib.hid hgh2
      clear hg2 hr2 hgh2
      cases v
      · go_wp2_with fail
        refine (once w2 B g a len cap HR2.out 40 (by omega) (by omega)).mono ?_
        rintro e w3 ⟨v, rfl, hg3, hr3⟩
        have HE := Lib.hid (vec_ends (W := w3) (c := c) (c' := c - 1) ((hg3.block gv (by omega) (by simp; omega)).trans HH2.out) HCC.out (HG2.out.trans hg3) hr3 hgv)
        clear hg3 hr3
        cases v
        · go_wp2
          go_ret
          exact HE.out.1
        · go_wp2
          go_ret
          exact HE.out.2
      · go_wp2_with fail
        refine (off w2 B g a len cap HR2.out).mono ?_
        rintro e w3 ⟨x, rfl, hg3, hr3⟩
        have hB3 : w2.heap.size ≤ w3.heap.size := hg3.size
        have hgh3 : w3.heap[gv]? = some (.cells cur 2 (0, 0)) := (hg3.block gv (by omega) (by simp; omega)).trans HH2.out
        have c0 : w3.cell? ⟨gv, 0, none⟩ = some cur[0] := (cell_of_row _ _ _ _ _ _ hgh3).trans (Array.getElem?_eq_getElem (by omega))
        have f0 : w3.frozen? ⟨gv, 0, none⟩ = false := frozen_of_row _ _ _ _ _ hgh3
        generalize cur[0] = v0 at c0
        have HH4 : Hid ((w3.setCell ⟨gv, 0, none⟩ (.int .i64 x)).heap[gv]? = some (.cells (cur.setIfInBounds 0 (.int .i64 x)) 2 (0, 0))) := heap_setCell_same _ _ _ _ _ _ hgh3
        have HG4 : Hid (w.grownBy (w3.setCell ⟨gv, 0, none⟩ (.int .i64 x)) (some g)) := by
          have hg := HG2.out.trans hg3
          exact ⟨hg.os, hg.tape, hg.output, by simpa [World.setCell] using hg.size, fun j hj hne => (heap_setCell_other _ _ _ _ (by show j ≠ gv; omega)).trans (hg.block j hj hne)⟩
        have HR4 : Hid (Rd (w3.setCell ⟨gv, 0, none⟩ (.int .i64 x)) B g a len cap) := hr3.kept fun j hj => heap_setCell_other _ _ _ _ (by show j ≠ gv; omega)
        have hz4 : (w3.setCell ⟨gv, 0, none⟩ (.int .i64 x)).heap.size = w3.heap.size := by simp [World.setCell]
        have HZ4 := Lib.hid hz4
        have HC4 : Hid (∀ i, i < 4 → (cur.setIfInBounds 0 (.int .i64 x))[i]? = some (.int .i64 ((x :: xs.tail).getD i 0))) := by
          intro i hi'
          rw [Array.getElem?_setIfInBounds]
          by_cases e : 0 = i
          · subst e
            rw [if_pos rfl, if_pos (by omega)]
            rfl
          · rw [if_neg e, HCC.out i hi']
            congr 2
            match i, e, xs with
            | 0, e, _ => exact absurd rfl e
            | j + 1, _, [] => simp
            | j + 1, _, y :: ys => simp
        have hgv4 : gv < w3.heap.size := by omega
        clear hg3 hr3 hgh3 hz4
        go_wp2_with fail
        refine (once _ B g a len cap HR4.out 40 (by omega) (by omega)).mono ?_
        rintro e w5 ⟨v, rfl, hg5, hr5⟩
        have HE := Lib.hid (vec_ends (W := w5) (c := c) (c' := c - 1) ((hg5.block gv (by rw [HZ4.out]; exact hgv4) (by simp; omega)).trans HH4.out) HC4.out (HG4.out.trans hg5) hr5 hgv)
        clear hg5 hr5 c0 f0
        cases v
        · go_wp2
          go_ret
          exact HE.out.1
        · go_wp2
          go_ret
          exact HE.out.2

set_option maxRecDepth 100000 in
theorem sameInts (w : World) (B B' : Nat) (a a' : Option Addr) (len cap len' cap' : Nat) (xs ys : List Int) (h : Ints w B a len xs) (h' : Ints w B' a' len' ys) (hl : len ≤ 1048576) (hl' : len' ≤ 1048576) :
    Calls Try.prog 20 #[.slice a len cap, .slice a' len' cap'] w (EqPost xs ys w) := by
  have hL := Lib.hid h.1
  have hL' := Lib.hid h'.1
  have H := Lib.hid h
  have H' := Lib.hid h'
  clear h h'
  by_cases hn : len = len'
  · subst hn
    go_enter Try.func20, Try.ntmps20
    go_wp2
    go_loopw [5] (fun i wr => ∃ k n : Nat, k ≤ len ∧ i = .int .i64 k ∧ wr = w.drewN n ∧ Hid (xs.take k = ys.take k)) (fun i _ => len - (intOf i).toNat)
    case atStart => exact ⟨0, 0, Nat.zero_le _, rfl, rfl, rfl⟩
    case round =>
      obtain ⟨k, n, hk, rfl, rfl, HA⟩ := hrel
      by_cases hlt : k < len
      · obtain ⟨b, off, rfl, hb, hc⟩ := H.out.2 k hlt
        obtain ⟨b', off', rfl, hb', hc'⟩ := H'.out.2 k hlt
        obtain ⟨x, hx⟩ : ∃ x, x = xs.getD k 0 := ⟨_, rfl⟩
        obtain ⟨y, hy⟩ : ∃ y, y = ys.getD k 0 := ⟨_, rfl⟩
        rw [← hx] at hc
        rw [← hy] at hc'
        have HX := Lib.hid hx
        have HY := Lib.hid hy
        have hki : (k : Int) < (len : Int) := by omega
        clear hx hy
        by_cases e : x = y
        · subst e
          have HS : Hid (xs.take (k + 1) = ys.take (k + 1)) := list_eq_step (by rw [hL.out]; exact hlt) (by rw [hL'.out]; exact hlt) HA.out (by rw [← HX.out, ← HY.out])
          go_wp2
          go_quiet (fail)
          go_wp2
          go_roundw
          case rel => exact ⟨k + 1, n + nq, by omega, by go_num, rfl, HS⟩
          case measure => simp [intOf]; omega
        · have hne : (x != y) = true := by simpa using e
          have HV : Hid (decide (xs = ys) = false) := decide_eq_false (list_ne (k := k) (by rw [← HX.out, ← HY.out]; exact e))
          clear e
          go_wp2
          go_quiet (fail)
          go_wp2
          go_ret
          exact ⟨ret_bool HV.out.symm, n + nq, World.drewN_drewN ..⟩
      · have HV : Hid (decide (xs = ys) = true) := decide_eq_true (by
          have := HA.out
          rwa [List.take_of_length_le (by have := hL.out; omega), List.take_of_length_le (by have := hL'.out; omega)] at this)
        go_wp2
        go_ret
        exact ⟨ret_bool HV.out.symm, n, rfl⟩
  · have hne : ((len : Int) != (len' : Int)) = true := by simp; omega
    have HV : Hid (decide (xs = ys) = false) := decide_eq_false (fun e => hn (by rw [← hL.out, ← hL'.out, e]))
    go_enter Try.func20, Try.ntmps20
    go_wp2
    go_ret
    exact ⟨ret_bool HV.out.symm, 0, rfl⟩

/-- What a function that draws a list, or two, leaves. -/
def DrawsVec (w : World) (e : Ending) (w' : World) : Prop :=
  ∃ (av : Option Addr) (n c : Nat) (xs : List Int), n ≤ 4 ∧ e = .returned (.slice av n c) ∧ Ints w' w'.heap.size av n xs ∧ Below w.heap.size w w'
def DrawsVecs (w : World) (e : Ending) (w' : World) : Prop :=
  ∃ (av : Option Addr) (n c : Nat) (xs : List Int) (bv : Option Addr) (m d : Nat) (ys : List Int), n ≤ 4 ∧ m ≤ 4 ∧ e = .returned (.tuple #[.slice av n c, .slice bv m d]) ∧ Ints w' w'.heap.size av n xs ∧ Ints w' w'.heap.size bv m ys ∧ Below w.heap.size w w'
theorem src_more {w : World} {B B' : Nat} {a : Option Addr} {len : Nat} (h : Src w B a len) (hB : B ≤ B') : Src w B' a len :=
  ⟨h.1, fun i hi => by obtain ⟨b, off, z, e, hb, r⟩ := h.2 i hi; exact ⟨b, off, z, e, by omega, r⟩⟩




theorem zip_len4 (f : Int → Int → Int) (xs ys : List Int) : (vecZip f xs ys).length ≤ 4 := by
  cases hk : vecOk xs && vecOk ys
  · rw [vecZip_no hk]; simp
  · rw [vecZip_yes hk]
    rw [Bool.and_eq_true] at hk
    obtain ⟨x0, x1, x2, x3, rfl⟩ := four hk.1
    unfold zipI
    rw [List.length_zipWith]
    exact Nat.min_le_left _ _

end Go.Proofs.Ytmceofdknphgkaa
