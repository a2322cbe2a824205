/- The walks of the reader's dev (beside tables of rows) and of spec.DrawHeard. -/
import Derived.Test.YtmceofdknphgkaaAckE
import Derived.Deep.Cut
namespace Go.Proofs.Ytmceofdknphgkaa
open Go.RowKit
set_option linter.unusedVariables false
set_option linter.unusedSimpArgs false

set_option maxRecDepth 100000 in
theorem nearA (w : World) (B g : Nat) (a : Option Addr) (len cap : Nat) (h : Rd w B g a len cap) (lo up : Int) (h1 : 0 ≤ lo) (h2 : lo ≤ up) (h3 : up ≤ 100000) :
    Calls Try.prog 161 #[.pointer (some ⟨g, 0, none⟩), .int .i64 lo, .int .i64 up] w (YieldsInt .i64 w B g a len cap) := by
  go_enter Try.func161, Try.ntmps161
  go_wp2_with fail
  refine (belowI w B g a len cap h 8 (by omega) (by omega)).mono ?_
  rintro e w1 ⟨v, hv, rfl, hg1, hr1⟩
  have hv8 : v < 8 := hv
  clear hv h
  by_cases h0 : v = 0
  · subst h0
    go_wp2
    go_ret
    exact ⟨lo, rfl, hg1, hr1⟩
  · have n0 : ((v : Int) == 0) = false := by simp; omega
    by_cases e1 : v = 1
    · subst e1
      go_wp2
      go_ret
      exact ⟨up, rfl, hg1, hr1⟩
    · have n1 : ((v : Int) == 1) = false := by simp; omega
      have hlt : ¬ up < lo := by omega
      go_wp2_with fail
      refine (word w1 B g a len cap hr1).mono ?_
      rintro e w2 ⟨x, rfl, hg2, hr2⟩
      go_wp2
      go_ret
      exact ⟨_, rfl, hg1.trans hg2, hr2⟩
def offCellsA (lo hi : Int) : Obj := .cells #[.int .i64 (lo - 1), .int .i64 (hi + 1), .int .i64 (-9223372036854775808), .int .i64 9223372036854775807] 2
theorem offCellsA_at {w : World} {b i : Nat} {lo up : Int} (h : w.heap[b]? = some (offCellsA lo up)) (hi : i < 4) : ∃ t : Int, w.cell? ⟨b, i, none⟩ = some (.int .i64 t) := by
  have e := cell_of_row w b i _ _ _ h
  match i, hi with
  | 0, _ => exact ⟨_, e⟩
  | 1, _ => exact ⟨_, e⟩
  | 2, _ => exact ⟨_, e⟩
  | 3, _ => exact ⟨_, e⟩

set_option maxRecDepth 100000 in
theorem offA (w : World) (B g : Nat) (a : Option Addr) (len cap : Nat) (h : Rd w B g a len cap) (lo up : Int) (h1 : 0 ≤ lo) (h2 : lo ≤ up) (h3 : up ≤ 100000) :
    Calls Try.prog 108 #[.pointer (some ⟨g, 0, none⟩), .int .i64 lo, .int .i64 up] w (YieldsInt .i64 w B g a len cap) := by
  go_enter Try.func108, Try.ntmps108
  go_wp2_with fail
  refine (once w B g a len cap h 24 (by omega) (by omega)).mono ?_
  rintro e w1 ⟨v, rfl, hg1, hr1⟩
  clear h
  cases v
  · go_wp2_with fail
    refine (nearA w1 B g a len cap hr1 lo up h1 h2 h3).mono ?_
    rintro e w2 ⟨x, rfl, hg2, hr2⟩
    go_wp2
    go_ret
    exact ⟨x, rfl, hg1.trans hg2, hr2⟩
  · have hr1' := Lib.hid (hr1.grown (World.grownBy_alloc w1 (offCellsA lo up) none) (fun k hk => by cases hk))
    have hg1' := Lib.hid (hg1.trans (World.grownBy_alloc w1 (offCellsA lo up) (some g)))
    have hgw : g < w1.heap.size := hr1.lt
    have hT : (w1.alloc (offCellsA lo up)).heap[w1.heap.size]? = some (offCellsA lo up) := heap_alloc_new _ _
    clear hr1 hg1
    go_wp2_with fail
    refine (belowI _ B g a len cap hr1'.out 4 (by omega) (by omega)).mono ?_
    rintro e w2 ⟨i, hi, rfl, hg2, hr2⟩
    have hi4 : i < 4 := hi
    have hi5 : (i : Int) < 4 := by omega
    have hT2 : w2.heap[w1.heap.size]? = some (offCellsA lo up) := (hg2.block _ (by simp) (by simp; omega)).trans hT
    obtain ⟨t, hct⟩ := offCellsA_at hT2 hi4
    have HG := Lib.hid hg2
    have HR := Lib.hid hr2
    clear hT hT2 hg2 hr2 hi
    go_wp2
    go_ret
    exact ⟨t, rfl, hg1'.out.trans HG.out, HR.out⟩

def YieldsDev (w : World) (B g : Nat) (a : Option Addr) (len cap : Nat) (e : Ending) (w' : World) : Prop :=
  ∃ v : Int, e = .returned (.int .i64 v) ∧ w.grownBy w' (some g) ∧ Rd w' B g a len cap
set_option maxRecDepth 100000 in
theorem rdDevA (w : World) (B g : Nat) (a : Option Addr) (len cap : Nat) (h : Rd w B g a len cap) :
    Calls Try.prog 114 #[.pointer (some ⟨g, 0, none⟩)] w (YieldsDev w B g a len cap) := by
  go_enter Try.func114, Try.ntmps114
  go_wp2_with fail
  refine (once w B g a len cap h 40 (by omega) (by omega)).mono ?_
  rintro e w1 ⟨b, rfl, hg1, hr1⟩
  cases b
  · go_wp2_with fail
    refine (belowI w1 B g a len cap hr1 4 (by omega) (by omega)).mono ?_
    rintro e w2 ⟨v, hv, rfl, hg2, hr2⟩
    have hg := hg1.trans hg2
    go_wp2
    go_ret
    exact ⟨_, rfl, hg, hr2⟩
  · go_wp2_with fail
    refine (offA w1 B g a len cap hr1 0 3 (by omega) (by omega) (by omega)).mono ?_
    rintro e w2 ⟨v, rfl, hg2, hr2⟩
    have hg := hg1.trans hg2
    go_wp2
    go_ret
    exact ⟨_, rfl, hg, hr2⟩
def DrawsHeard (w : World) (e : Ending) (w' : World) : Prop :=
  ∃ (aa : Option Addr) (n c X : Nat) (l : List (List Int)) (dev : Int) (av : Option Addr) (nv cv : Nat) (ys : List Int), n ≤ 4 ∧ nv ≤ 4 ∧ e = .returned (.tuple #[.agg #[.slice aa n c], .int .i64 dev, .slice av nv cv]) ∧ RowsIn w' (w.heap.size + 1) X aa n l ∧ Ints w' w'.heap.size av nv ys ∧ Below w.heap.size w w'
set_option maxRecDepth 100000 in
set_option maxHeartbeats 4000000 in
theorem drawHeard (w : World) (B : Nat) (a : Option Addr) (len cap : Nat) (hB : B ≤ w.heap.size) (h : Src w B a len) :
    Calls Try.prog 62 #[.slice a len cap] w (DrawsHeard w) := by
  have hb0 : Below w.heap.size w (w.alloc (.cells #[.slice none 0 0] 66)) := (Below.refl _ w).alloc (Nat.le_refl _) _
  have HS0 := Lib.hid (h.kept (w' := w.alloc (.cells #[.slice none 0 0] 66)) fun k hk => hb0.block k (by omega))
  have HR0 := Lib.hid (heap_alloc_new w (.cells #[.slice none 0 0] 66))
  have HB0 := Lib.hid hb0
  have hz0 : Hid ((w.alloc (.cells #[.slice none 0 0] 66)).heap.size = w.heap.size + 1) := by show (w.heap.push _).size = _; simp
  clear h hb0
  go_enter Try.func62, Try.ntmps62
  go_wp2_with fail
  generalize w.alloc (.cells #[.slice none 0 0] 66) = w0 at HS0 HR0 HB0 hz0 ⊢
  refine (l1Open w0 B a len cap (by have := hz0.out; omega) HS0.out).mono ?_
  rintro e w1 ⟨rfl, hg1, hr1⟩
  have HR1 := Lib.hid ((hg1.block _ (by have := hz0.out; omega) (by intro e; cases e)).trans HR0.out)
  have HB1 := Lib.hid (HB0.out.grown hg1 (by have := hz0.out; omega) (fun k hk => by cases hk))
  have hs1 := hg1.size
  have hgl := hr1.lt
  have HRd1 := Lib.hid hr1
  have hgw : w.heap.size < w0.heap.size := by have := hz0.out; omega
  clear hg1 hr1 HS0 HR0 HB0 hz0
  generalize w0.heap.size = g at hs1 hgl HRd1 hgw ⊢
  go_wp2_with fail
  refine (acksD w1 B g a len cap HRd1.out).mono ?_
  rintro e w2 ⟨aa, n, c, X, l, hn, rfl, hrows, hX, hwX, hg2, hr2⟩
  have HK2 := Lib.hid hrows
  have HR2 := Lib.hid ((hg2.block w.heap.size (by omega) (by intro e; injection e with e; omega)).trans HR1.out)
  have HB2 := Lib.hid (HB1.out.grown hg2 HB1.out.size (fun k hk => by cases hk; omega))
  have HRd2 := Lib.hid hr2
  have hs2 := hg2.size
  clear hrows hg2 hr2 HR1 HB1 HRd1
  generalize w1.heap.size = lo at *
  go_upto_region 3 with fail
  have hal : Below w2.heap.size w2 (w2.alloc (.cells #[.slice aa n c] 66)) := (Below.refl _ _).alloc (Nat.le_refl _) _
  have HC3 := Lib.hid (heap_alloc_new w2 (.cells #[.slice aa n c] 66))
  have HK3 := Lib.hid (HK2.out.kept hal.size fun j h1 h2 h3 => hal.block j h1)
  have HR3 := Lib.hid ((hal.block _ (by omega)).trans HR2.out)
  have HB3 := Lib.hid (HB2.out.trans (hal.mono (by omega)))
  have HRd3 := Lib.hid (HRd2.out.kept fun k hk => hal.block k (by have := HRd2.out.lt; have := HRd2.out.own; omega))
  clear hal HK2 HR2 HB2 HRd2
  generalize w2.alloc (.cells #[.slice aa n c] 66) = w3 at HC3 HK3 HR3 HB3 HRd3 ⊢
  have hcl := lt_of_block HC3.out
  generalize w2.heap.size = cb at HC3 hcl hs2 hX ⊢
  go_wp2_with fail
  refine (rdDevA w3 B g a len cap HRd3.out).mono ?_
  rintro e w4 ⟨dev, rfl, hg4, hr4⟩
  have HC4 := Lib.hid ((hg4.block cb hcl (by intro e; injection e with e; omega)).trans HC3.out)
  have HK4 := Lib.hid (HK3.out.kept hg4.size fun j h1 h2 h3 => hg4.block j h1 (by intro e; injection e with e; omega))
  have HR4 := Lib.hid ((hg4.block _ (by omega) (by intro e; injection e with e; omega)).trans HR3.out)
  have HB4 := Lib.hid (HB3.out.grown hg4 HB3.out.size (fun k hk => by cases hk; omega))
  have HRd4 := Lib.hid hr4
  have hs4 := hg4.size
  clear hg4 hr4 HC3 HK3 HR3 HB3 HRd3
  go_upto_region 4 with fail
  have hS : w4.drew.cell? ⟨cb, 0, none⟩ = some (.slice aa n c) := one_cell HC4.out
  go_wp2_with fail
  refine wp_region_held_drew (S := fun w' => w'.cell? ⟨cb, 0, none⟩ = some (.slice aa n c)) (by kernel_rfl) hS (fun hHeld => ?_)
  refine wpAnyH_take (i := 0) (oi := { dst := some 14, op := Op.load 66 (Operand.tmp 6), type := 66, pos := "l13_stable.go:87", after := #[], guard := none }) (v := ?_) rfl (by kernel_rfl) (by kernel_rfl) (by kernel_rfl) (fun _ _ _ h => h) (Or.inl ⟨by rfl, ?_⟩) (by assumption) ?_
  rotate_left
  · intro w hSw
    (try dsimp only at hSw)
    first | (go_simp; done) | (go_simp; with_reducible rfl)
  (try simp only [Act.put, List.setIfInBounds_toArray, List.set_cons_zero, List.set_cons_succ])
  refine wpAnyH_take (i := 1) (oi := { dst := some 15, op := Op.move (Operand.tmp 7), type := 2, pos := "l13_stable.go:87", after := #[{ on := 4, ground := Ground.gcOnly Departure.lateStores }], guard := none }) (v := ?_) rfl (by kernel_rfl) (by kernel_rfl) (by kernel_rfl) (fun _ _ _ h => h) (Or.inl ⟨by rfl, ?_⟩) (by assumption) ?_
  rotate_left
  · intro w hSw
    (try dsimp only at hSw)
    first | (go_simp; done) | (go_simp; with_reducible rfl)
  (try simp only [Act.put, List.setIfInBounds_toArray, List.set_cons_zero, List.set_cons_succ])
  refine wpAnyH_take (i := 2) (oi := { dst := some 16, op := Op.move (Operand.tmp 5), type := 94, pos := "l13_stable.go:87", after := #[], guard := none }) (v := ?_) rfl (by kernel_rfl) (by kernel_rfl) (by kernel_rfl) (fun _ _ _ h => h) (Or.inl ⟨by rfl, ?_⟩) (by assumption) ?_
  rotate_left
  · intro w hSw
    (try dsimp only at hSw)
    first | (go_simp; done) | (go_simp; with_reducible rfl)
  (try simp only [Act.put, List.setIfInBounds_toArray, List.set_cons_zero, List.set_cons_succ])
  refine wpAnyH_ready (rs := [3]) (by kernel_rfl) (by simp) ?_
  refine AllReadyH.cons (o := { dst := some 17, op := Op.call { callee := Callee.value (Operand.func 130), args := #[Operand.tmp 16], argTypes := #[94] }, type := 24, pos := "l13_stable.go:87", after := #[{ on := 2, ground := Ground.data }], guard := none }) rfl (fun K hK => ?_) AllReadyH.nil
  go_simp
  go_at_call 130
  refine (vec w4.drew B g a len cap (HRd4.out.kept (w' := w4.drew) fun _ _ => rfl)).mono ?_
  rintro e w5 ⟨av, nv, cv, ys, hnv, rfl, hy, hg1, hr1⟩
  have hg5 : w4.grownBy w5 (some g) := ⟨hg1.os, hg1.tape, hg1.output, hg1.size, hg1.block⟩
  have HC5 := Lib.hid ((hg5.block cb (by omega) (by intro e; injection e with e; omega)).trans HC4.out)
  have HK5 := Lib.hid (HK4.out.kept hg5.size fun j h1 h2 h3 => hg5.block j h1 (by intro e; injection e with e; omega))
  have HR5 := Lib.hid ((hg5.block _ (by omega) (by intro e; injection e with e; omega)).trans HR4.out)
  have HB5 := Lib.hid (HB4.out.grown hg5 HB4.out.size (fun k hk => by cases hk; omega))
  have HY5 : Hid (IntsIn w5 w4.heap.size w5.heap.size av nv ys) := hy
  have hs5 := hg5.size
  have hS2 : w5.cell? ⟨cb, 0, none⟩ = some (.slice aa n c) := one_cell HC5.out
  clear hg1 hr1 hg5 hy HC4 HK4 HR4 HB4
  refine hK.out _ _ hS2 (fun hHeld2 => ?_)
  clear hK K
  (try simp only [Act.put, List.setIfInBounds_toArray, List.set_cons_zero, List.set_cons_succ])
  have r0 := one_cell HR5.out
  have rf : w5.frozen? ⟨w.heap.size, 0, none⟩ = false := frozen_of_row _ _ _ _ _ HR5.out
  have HD := Lib.hid (cell_set1 (.slice aa n c) HR5.out)
  have hsz : (w5.setCell ⟨w.heap.size, 0, none⟩ (.slice aa n c)).heap.size = w5.heap.size := by simp [World.setCell]
  have hko : ∀ j, j ≠ w.heap.size → (w5.setCell ⟨w.heap.size, 0, none⟩ (.slice aa n c)).heap[j]? = w5.heap[j]? := fun j hj => heap_setCell_other _ _ _ _ hj
  have HK6 := Lib.hid (HK5.out.kept (Nat.le_of_eq hsz.symm) fun j h1 h2 h3 => hko j (by omega))
  have HB6 := Lib.hid (HB5.out.setCell (p := ⟨w.heap.size, 0, none⟩) (Nat.le_refl _) (.slice aa n c))
  have hy6 : Ints (w5.setCell ⟨w.heap.size, 0, none⟩ (.slice aa n c)) (w5.setCell ⟨w.heap.size, 0, none⟩ (.slice aa n c)).heap.size av nv ys := by
    refine ⟨HY5.out.1.1, fun i hi => ?_⟩
    obtain ⟨b2, o2, e2, hb2, h2⟩ := HY5.out.1.2 i hi
    have hlo := HY5.out.2 b2 o2 (by omega) e2
    exact ⟨b2, o2, e2, by rw [hsz]; exact hb2, (World.cell?_of_block (a := ⟨b2, o2 + i, none⟩) (hko b2 (by omega))).trans h2⟩
  have HY6 := Lib.hid hy6
  have hS3 : (w5.setCell ⟨w.heap.size, 0, none⟩ (.slice aa n c)).cell? ⟨cb, 0, none⟩ = some (.slice aa n c) := (World.cell?_of_block (a := ⟨cb, 0, none⟩) (hko cb (by omega))).trans hS2
  clear hy6 hko hsz
  refine wpAnyH_ready (rs := [4]) (by kernel_rfl) (by simp) ?_
  refine AllReadyH.cons (o := { dst := none, op := Op.store 66 (Operand.tmp 2) (Operand.tmp 14), type := 0, pos := "l13_stable.go:87", after := #[{ on := 0, ground := Ground.data }, { on := 3, ground := Ground.chain }, { on := 0, ground := Ground.phase }, { on := 1, ground := Ground.textOnly Departure.lateStores }, { on := 2, ground := Ground.textOnly Departure.lateStores }, { on := 3, ground := Ground.textOnly Departure.lateStoresUnsure }], guard := none }) rfl (fun K hK => ?_) AllReadyH.nil
  go_simp
  refine hK.out _ _ hS3 (fun hHeld3 => ?_)
  clear hK K
  (try simp only [Act.put, List.setIfInBounds_toArray, List.set_cons_zero, List.set_cons_succ])
  refine wpAnyH_take (i := 5) (oi := { dst := some 3, op := Op.assign (Operand.tmp 15), type := 2, pos := "l13_stable.go:87", after := #[{ on := 1, ground := Ground.data }, { on := 4, ground := Ground.chain }, { on := 0, ground := Ground.phase }, { on := 1, ground := Ground.phase }, { on := 2, ground := Ground.textOnly Departure.lateStores }, { on := 3, ground := Ground.textOnly Departure.lateStoresUnsure }, { on := 4, ground := Ground.phase }], guard := none }) (v := ?_) rfl (by kernel_rfl) (by kernel_rfl) (by kernel_rfl) (fun _ _ _ h => h) (Or.inl ⟨by rfl, ?_⟩) (by assumption) ?_
  rotate_left
  · intro w hSw
    (try dsimp only at hSw)
    first | (go_simp; done) | (go_simp; with_reducible rfl)
  (try simp only [Act.put, List.setIfInBounds_toArray, List.set_cons_zero, List.set_cons_succ])
  refine wpAnyH_take (i := 6) (oi := { dst := some 4, op := Op.assign (Operand.tmp 17), type := 24, pos := "l13_stable.go:87", after := #[{ on := 3, ground := Ground.data }, { on := 5, ground := Ground.chain }, { on := 0, ground := Ground.phase }, { on := 1, ground := Ground.phase }, { on := 2, ground := Ground.phase }, { on := 3, ground := Ground.phase }, { on := 4, ground := Ground.phase }, { on := 5, ground := Ground.phase }], guard := none }) (v := ?_) rfl (by kernel_rfl) (by kernel_rfl) (by kernel_rfl) (fun _ _ _ h => h) (Or.inl ⟨by rfl, ?_⟩) (by assumption) ?_
  rotate_left
  · intro w hSw
    (try dsimp only at hSw)
    first | (go_simp; done) | (go_simp; with_reducible rfl)
  (try simp only [Act.put, List.setIfInBounds_toArray, List.set_cons_zero, List.set_cons_succ])
  refine wpAnyH_done (by kernel_rfl) ?_ _
  clear hS hS2 hS3 r0 rf
  have d0 := HD.out
  generalize w5.setCell ⟨w.heap.size, 0, none⟩ (.slice aa n c) = wf at d0 HK6 HB6 HY6 ⊢
  clear HD
  go_wp2
  exact bodyPost_ret (v := .tuple #[.agg #[.slice aa n c], .int .i64 dev, .slice av nv cv]) (by simp [results, Try.results62, go_sem, d0]) rfl ⟨aa, n, c, X, l, dev, av, nv, cv, ys, hn, hnv, rfl, HK6.out.less (by omega), HY6.out, HB6.out⟩
end Go.Proofs.Ytmceofdknphgkaa
