/- Walks and mathematics that several claims share, part 37. -/
import Derived.Test.YtgagchlcafdiaaaGreatGb22
import Derived.Test.YtgagchlcafdiaaaGreatGb25
import Derived.Test.YtgagchlcafdiaaaGreatGb36
import Derived.Deep.Cut
import Derived.Test.YtgagchlcafdiaaaGreatGbA
namespace Go.Proofs.YtgagchlcafdiaaaGreat
set_option maxRecDepth 100000
open Go.RowKit
set_option linter.unusedVariables false
set_option linter.unusedSimpArgs false
set_option linter.unusedVariables false
set_option linter.unusedSimpArgs false

/-- What merging leaves: when it may be done, a cart of the call's own. -/
def MrgW (w : World) (e : Ending) (w' : World) : Prop :=
 ∃ va nv vc oa no oc ok, e = .returned (.tuple #[.agg #[.slice va nv vc, .slice oa no oc], .bool ok]) ∧ Below w.heap.size w w' ∧ (ok = true → nv = 4 ∧ Crt w' w.heap.size w'.heap.size va vc oa no oc 400)
theorem mergedCrt (w : World) (lo1 hi1 lo2 hi2 : Nat) (x y : CartC) (hx : CrtC w lo1 hi1 x) (hy : CrtC w lo2 hi2 y) (h1 : hi1 ≤ w.heap.size) (h2 : hi2 ≤ w.heap.size) :
  Calls Tryz.prog 63 #[.agg #[.slice x.va 4 x.vc, .slice x.oa x.no x.oc], .agg #[.slice y.va 4 y.vc, .slice y.oa y.no y.oc]] w (MrgW w) := by
 obtain ⟨xs, l, e1, a1, a2, a3, a4, a5⟩ := hx
 obtain ⟨ys, m, e2, b1, b2, b3, b4, b5⟩ := hy
 rw [e1, e2]
 have n1 := a5.most
 have n2 := b5.most
 refine (specMergedC w w.heap.size x.va x.oa y.va y.oa 4 x.vc l.length x.oc 4 y.vc m.length y.oc xs l ys m (a1.ints.more h1) (a2.ops.more h1) (b1.ints.more h2) (b2.ops.more h2) (Nat.le_refl _) (by omega) (by omega) (fun i hi => Nat.le_trans (a5.item i hi) (by omega)) (by omega) (by omega) (fun i hi => Nat.le_trans (b5.item i hi) (by omega))).mono ?_
 rintro e w' ⟨va, vc, oa, oc, rfl, o1, o2, hb, c1, c2⟩
 refine ⟨va, _, vc, oa, _, oc, _, rfl, hb, fun hR => ?_⟩
 have hp : cartB xs l = true ∧ cartB ys m = true ∧ okM l m = true := by
  unfold mergedB at hR
  rw [Bool.and_eq_true, Bool.and_eq_true] at hR
  exact hR
 have hc := Bnd.of_cart (cart_merged hp.1 hp.2.1 hp.2.2)
 rw [hR] at o1 o2 c1 c2 ⊢
 have hl : (mergedVs xs ys true).length = 4 := hc.len
 rw [hl] at o1 c1
 exact ⟨hl, mergedVs xs ys true, mergedOs xs ys l m true, rfl, o1, o2, c1, c2, Bnd.more hc (by omega)⟩
theorem issueCrt (w : World) (lo hi1 : Nat) (x : CartC) (dev kind qty dv sq : Int) (item : ByteArray) (hx : CrtC w lo hi1 x) (h1 : hi1 ≤ w.heap.size) (hi : item.size ≤ 8) :
  Calls Tryz.prog 64 #[.agg #[.slice x.va 4 x.vc, .slice x.oa x.no x.oc], .int .i64 dev, .agg #[.int .i64 kind, .string item, .int .i64 qty, .int .i64 dv, .int .i64 sq]] w (IssW 320 w) := by
 obtain ⟨xs, l, e1, a1, a2, a3, a4, a5⟩ := hx
 rw [e1]
 have n1 := a5.most
 exact specIssue w w.heap.size x.va x.oa x.vc l.length x.oc xs l kind qty dv sq item (a1.ints.more h1) (a2.ops.more h1) (Nat.le_refl _) a3 a4 hi dev (fun i hi => Nat.le_trans (a5.item i hi) (by omega)) (by omega)
theorem grown_of {w w' : World} {g : Nat} (h : Below w.heap.size w w') : w.grownBy w' (some g) := ⟨h.os, h.tape, h.output, h.size, fun k hk _ => h.block k hk⟩
theorem grown_no {w w' : World} (h : Below w.heap.size w w') : w.grownBy w' none := ⟨h.os, h.tape, h.output, h.size, fun k hk _ => h.block k hk⟩
/-- What the loop of the reader's carts keeps: n carts in block q. -/
structure CrsL (w wr : World) (B g : Nat) (a : Option Addr) (len cap q : Nat) (l : List CartC) (n : Nat) : Prop where
 num : l.length = n
 row : CrsR wr w.heap.size q l
 grown : w.grownBy wr (some g)
 rd : Rd wr B g a len cap
 glt : g < w.heap.size
theorem CrsL.qlt {w wr : World} {B g : Nat} {a : Option Addr} {len cap q : Nat} {l : List CartC} {n : Nat} (h : CrsL w wr B g a len cap q l n) : q < wr.heap.size := by
 obtain ⟨cs, hq, _⟩ := h.row.cells
 exact (Array.getElem?_eq_some_iff.1 hq).1
theorem CrsL.step {w wr w1 : World} {B g : Nat} {a : Option Addr} {len cap q : Nat} {l : List CartC} {n : Nat} (h : CrsL w wr B g a len cap q l n) (hg : wr.grownBy w1 (some g)) (hr : Rd w1 B g a len cap) : CrsL w w1 B g a len cap q l n := by
 have hgl := h.glt
 have hlo := h.row.lo
 have hq := h.qlt
 have hs := hg.size
 have hk : ∀ j, j < wr.heap.size → j ≠ g → w1.heap[j]? = wr.heap[j]? := fun j h1 h2 => hg.block j h1 (by intro e; injection e with e; exact h2 e)
 obtain ⟨cs, hqc, hc⟩ := h.row.cells
 exact ⟨h.num, ⟨hlo, ⟨cs, (hk q hq (by omega)).trans hqc, hc⟩, fun i hi => (Crt.kept (h.row.crt i hi) fun j h1 h2 => hk j h2 (by omega)).more (Nat.le_refl _) hs (Nat.le_refl _)⟩, h.grown.trans hg, hr, hgl⟩
theorem CrsL.below {w wr w1 : World} {B g : Nat} {a : Option Addr} {len cap q : Nat} {l : List CartC} {n : Nat} (h : CrsL w wr B g a len cap q l n) (hb : Below wr.heap.size wr w1) : CrsL w w1 B g a len cap q l n :=
 h.step (grown_of hb) (h.rd.grown (grown_no hb) fun k hk => by cases hk)
/-- Another block of a cart is written. -/
theorem CrsL.box {w z : World} {B g b : Nat} {a : Option Addr} {len cap q : Nat} {l : List CartC} {n : Nat} {cs : Array Value} (u v : Value) (h : CrsL w z B g a len cap q l n) (hb : z.heap[b]? = some (.cells cs 49 (0, 0))) (hbw : w.heap.size ≤ b) (hbq : b ≠ q) : CrsL w ((z.setCell ⟨b, 0, none⟩ u).setCell ⟨b, 1, none⟩ v) B g a len cap q l n := by
 have hgl := h.glt
 have hB := h.rd.own
 have hz := pair_size z b u v
 have hk : ∀ j, j ≠ b → ((z.setCell ⟨b, 0, none⟩ u).setCell ⟨b, 1, none⟩ v).heap[j]? = z.heap[j]? := fun j hj => pair_other _ _ hj
 obtain ⟨cs', hqc, hc⟩ := h.row.cells
 have hgw := h.grown
 refine ⟨h.num, ⟨h.row.lo, ⟨cs', (hk q (fun e => hbq e.symm)).trans hqc, hc⟩, fun i hi => ?_⟩, ⟨hgw.os, hgw.tape, hgw.output, by rw [hz]; exact hgw.size, fun k h1 h2 => (hk k (by omega)).trans (hgw.block k h1 h2)⟩, h.rd.kept fun k hk' => hk k (by omega), hgl⟩
 rw [hz]
 exact Crt.other (h.row.crt i hi) hb fun j _ _ hne => hk j hne
/-- A cart of the row is exchanged. -/
theorem CrsL.set {w z : World} {B g : Nat} {a : Option Addr} {len cap q : Nat} {l : List CartC} {n : Nat} (h : CrsL w z B g a len cap q l n) {k : Nat} (hk : k < n) (x : CartC) (hx : CrtC z w.heap.size z.heap.size x) : CrsL w ((z.setCell ⟨q, k * 2, none⟩ (.slice x.va 4 x.vc)).setCell ⟨q, k * 2 + 1, none⟩ (.slice x.oa x.no x.oc)) B g a len cap q (l.set k x) n := by
 have hgl := h.glt
 have hB := h.rd.own
 have hlo := h.row.lo
 have hnum := h.num
 have hz : ((z.setCell ⟨q, k * 2, none⟩ (.slice x.va 4 x.vc)).setCell ⟨q, k * 2 + 1, none⟩ (.slice x.oa x.no x.oc)).heap.size = z.heap.size := by simp [World.setCell]
 have hkk : ∀ j, j ≠ q → ((z.setCell ⟨q, k * 2, none⟩ (.slice x.va 4 x.vc)).setCell ⟨q, k * 2 + 1, none⟩ (.slice x.oa x.no x.oc)).heap[j]? = z.heap[j]? := fun j hj => (heap_setCell_other _ _ _ _ hj).trans (heap_setCell_other _ _ _ _ hj)
 obtain ⟨cs, hqc, hc⟩ := h.row.cells
 have hgw := h.grown
 have h1 := heap_setCell_same _ _ (k * 2) _ _ (.slice x.va 4 x.vc) hqc
 have h2 := heap_setCell_same _ _ (k * 2 + 1) _ _ (.slice x.oa x.no x.oc) h1
 refine ⟨by rw [List.length_set]; exact hnum, ⟨hlo, ⟨_, h2, fun i hi => ?_⟩, fun i hi => ?_⟩, ⟨hgw.os, hgw.tape, hgw.output, by rw [hz]; exact hgw.size, fun j a1 a2 => (hkk j (by omega)).trans (hgw.block j a1 a2)⟩, h.rd.kept fun j hj => hkk j (by omega), hgl⟩
 ·rw [List.length_set] at hi
  obtain ⟨c0, c1⟩ := hc i hi
  obtain ⟨k0, k1⟩ := hc k (by omega)
  have z0 := (Array.getElem?_eq_some_iff.1 k0).1
  have z1 := (Array.getElem?_eq_some_iff.1 k1).1
  rw [cAt_set (by omega)]
  by_cases e : k = i
  ·subst e
   rw [if_pos rfl]
   refine ⟨?_, ?_⟩
   ·rw [Array.getElem?_setIfInBounds, if_neg (by omega), Array.getElem?_setIfInBounds, if_pos rfl, if_pos z0]
   ·rw [Array.getElem?_setIfInBounds, if_pos rfl, if_pos (by simpa using z1)]
  ·rw [if_neg e]
   refine ⟨?_, ?_⟩
   ·rw [Array.getElem?_setIfInBounds, if_neg (by omega), Array.getElem?_setIfInBounds, if_neg (by omega)]
    exact c0
   ·rw [Array.getElem?_setIfInBounds, if_neg (by omega), Array.getElem?_setIfInBounds, if_neg (by omega)]
    exact c1
 ·rw [List.length_set] at hi
  rw [hz, cAt_set (by omega)]
  split
  ·exact Crt.other hx hqc fun j _ _ hne => hkk j hne
  ·exact Crt.other (h.row.crt i hi) hqc fun j _ _ hne => hkk j hne
theorem CrsL.cell {w wr : World} {B g : Nat} {a : Option Addr} {len cap q : Nat} {l : List CartC} {n : Nat} (h : CrsL w wr B g a len cap q l n) : ∀ i, i < n → wr.cell? ⟨q, i * 2, none⟩ = some (.slice (cAt l i).va 4 (cAt l i).vc) ∧ wr.cell? ⟨q, i * 2 + 1, none⟩ = some (.slice (cAt l i).oa (cAt l i).no (cAt l i).oc) := fun i hi => by
 obtain ⟨cs, hq, hc⟩ := h.row.cells
 obtain ⟨c0, c1⟩ := hc i (by rw [h.num]; exact hi)
 exact ⟨(cell_of_row _ _ _ _ _ _ hq).trans c0, (cell_of_row _ _ _ _ _ _ hq).trans c1⟩
theorem CrsL.frozen {w wr : World} {B g : Nat} {a : Option Addr} {len cap q : Nat} {l : List CartC} {n : Nat} (h : CrsL w wr B g a len cap q l n) (i : Nat) : wr.frozen? ⟨q, i, none⟩ = false := by
 obtain ⟨cs, hq, hc⟩ := h.row.cells
 exact frozen_of_row _ _ _ _ _ hq
/-- What the reader's carts answer. -/
def YieldsCarts (n : Nat) (w : World) (B g : Nat) (a : Option Addr) (len cap : Nat) (e : Ending) (w' : World) : Prop :=
 ∃ q c l, e = .returned (.slice (some ⟨q, 0, none⟩) n c) ∧ CrsL w w' B g a len cap q l n

set_option maxHeartbeats 80000000 in
theorem rdCarts (w : World) (B g : Nat) (a : Option Addr) (len cap : Nat) (h : Rd w B g a len cap) (n most : Nat) (hn : 0 < n) (hn4 : n ≤ 4) (hm : most ≤ 60) :
  Calls Tryz.prog 38 #[.pointer (some ⟨g, 0, none⟩), .int .i64 (n : Int), .int .i64 (most : Int)] w (YieldsCarts n w B g a len cap) := by
 have hgl := h.lt
 have hBg := h.own
 have HRd := Lib.hid h
 have hb0 : Below w.heap.size w (w.alloc (.cells #[] 49)) := (Below.refl _ w).alloc (Nat.le_refl _) _
 have HI0 : Hid (CrsI (w.alloc (.cells #[] 49)) w.heap.size (.slice (some ⟨w.heap.size, 0, none⟩) 0 0) []) := ⟨World.ownsRow_made w #[] 0 (Nat.le_refl _) (by unfold maxLen; omega) rfl, fun i hi => absurd hi (by simp)⟩
 have HB0 := Lib.hid hb0
 clear h hb0
 go_enter Tryz.func38, Tryz.ntmps38
 go_wp2
 go_loopw [7, 8] (fun v i wr => ∃ (k : Nat) (vv : Value) (l : List CartC), k ≤ n ∧ vv = v ∧ i = .int .i64 (k : Int) ∧ l.length = k ∧ Hid (CrsI wr w.heap.size vv l) ∧ Hid (Below w.heap.size w wr)) (fun _ i _ => n - (intOf i).toNat)
 case atStart => exact ⟨0, _, [], Nat.zero_le _, rfl, rfl, rfl, HI0.out, HB0.out⟩
 case round =>
  obtain ⟨k, vv, l, hk, hvv, rfl, hl, HI, HB⟩ := hrel
  subst hvv
  have hsr := HB.out.size
  by_cases hlt : k < n
  ·have hki : (k : Int) < (n : Int) := by omega
   go_wp2_with fail
   refine (specCartNew wr).mono ?_
   rintro e w1 ⟨q, rfl, hcrt, hb1⟩
   have HI1 := Lib.hid (HI.out.below hb1)
   have HB1 := Lib.hid (HB.out.trans (hb1.mono hsr))
   have hs1 := hb1.size
   obtain ⟨va, vc, w2, hrun, hI2, hb2⟩ := HI1.out.push (by omega) (by omega) ⟨some ⟨q, 0, none⟩, 4, none, 0, 0⟩ (Crt.more hcrt hsr (Nat.le_refl _) (Nat.le_refl _))
   have HI2 := Lib.hid hI2
   have HB2 := Lib.hid (HB1.out.trans hb2)
   rw [hl] at hrun HI2
   clear hb1 hcrt hI2 hb2
   go_wp2_with (at_builtin; refine wpListApp rfl _ _ _ rfl _ _ rfl rfl hrun ?_)
   clear hrun
   go_wp2
   go_roundw
   case rel => exact ⟨k + 1, _, l ++ [⟨some ⟨q, 0, none⟩, 4, none, 0, 0⟩], by omega, rfl, by go_num, by simp [hl], HI2, HB2⟩
   case measure => simp [intOf]; omega
  obtain rfl : k = n := by omega
  obtain ⟨q, c, rfl, hR⟩ := HI.out.form (by omega)
  rw [hl]
  have HL : Hid (CrsL w wr B g a len cap q l k) := ⟨hl, hR, grown_below HB.out, HRd.out.kept fun j hj => HB.out.block j (by omega), hgl⟩
  clear hR hlt hk
  have hk0 : 0 ≤ (k : Int) := by omega
  have hmi : 0 ≤ (most : Int) := by omega
  have hmi2 : (most : Int) ≤ 60 := by omega
  go_wp2_with fail
  refine (belowI wr B g a len cap HL.out.rd ((most : Int) + 1) (by omega) (by omega)).mono ?_
  rintro e w1 ⟨r, hr, rfl, hg1, hr1⟩
  have HL1 := Lib.hid (HL.out.step hg1 hr1)
  have hr60 : r ≤ 60 := by omega
  clear hg1 hr1 HL HI HB hr HI0 HB0 HRd
  go_wp2
  go_loopw [9] (fun i ws => ∃ (r : Nat) (l : List CartC), r ≤ 60 ∧ i = .int .i64 (r : Int) ∧ Hid (CrsL w ws B g a len cap q l k)) (fun i _ => (intOf i).toNat)
  case atStart => exact ⟨r, l, hr60, rfl, HL1.out⟩
  case round =>
   clear hr60 HL1 hl
   obtain ⟨r, l, hr60, rfl, HL⟩ := hrel
   by_cases hr0 : 0 < r
   rotate_left
   ·obtain rfl : r = 0 := by omega
    have HE := HL
    go_wp2
    go_ret
    exact ⟨q, c, l, rfl, HE.out⟩
   have hri : (0 : Int) < (r : Int) := by omega
   have hqw := HL.out.row.lo
   go_wp2_with fail
   refine (below wr B g a len cap HL.out.rd k hn (by omega)).mono ?_
   rintro e w1 ⟨i, hik, rfl, hg1, hr1⟩
   have HL1 := Lib.hid (HL.out.step hg1 hr1)
   clear hg1 hr1 HL
   go_wp2_with fail
   refine (once w1 B g a len cap HL1.out.rd 3 (by omega) (by omega)).mono ?_
   rintro e w2 ⟨o1, rfl, hg2, hr2⟩
   have HL2 := Lib.hid (HL1.out.step hg2 hr2)
   clear hg2 hr2 HL1
   have hii : (i : Int) < (k : Int) := by omega
   have hi0 : decide ((i : Int) < 0) = false := decide_eq_false (by omega)
   have hi00 : ¬ ((i : Int) < 0) := by omega
   have hq2 := HL2.out.qlt
   cases o1
   rotate_left
   ·skip
    go_upto_region 11 with fail
    obtain ⟨y0, hy0e⟩ : ∃ y0, w2.drew = y0 := ⟨_, rfl⟩
    have hy0 : Below w2.heap.size w2 y0 := by rw [← hy0e]; exact ⟨rfl, rfl, rfl, Nat.le_refl _, fun _ _ => rfl⟩
    have HLy0 := Lib.hid (HL2.out.below hy0)
    have hsy0 := hy0.size
    have Sy0 : ∀ j, j < k → y0.cell? ⟨q, j * 2, none⟩ = some (.slice (cAt l j).va 4 (cAt l j).vc) ∧ y0.cell? ⟨q, j * 2 + 1, none⟩ = some (.slice (cAt l j).oa (cAt l j).no (cAt l j).oc) := HLy0.out.cell
    refine wp_region_held_drew (S := fun w' => ∀ j, j < k → w'.cell? ⟨q, j * 2, none⟩ = some (.slice (cAt l j).va 4 (cAt l j).vc) ∧ w'.cell? ⟨q, j * 2 + 1, none⟩ = some (.slice (cAt l j).oa (cAt l j).no (cAt l j).oc)) (by kernel_rfl) (by rw [hy0e]; exact Sy0) (fun hHeld => ?_)
    rw [hy0e]
    clear hHeld hy0e hy0
    refine wpAnyH_take (i := 0) (oi := ⟨some 39, .move (.tmp 7), 79, "l04_carts.go:146", #[], none⟩) (v := ?_) rfl (by kernel_rfl) (by kernel_rfl) (by kernel_rfl) (fun _ _ _ h => h) (Or.inl ⟨by rfl, ?_⟩) (by assumption) ?_
    rotate_left
    ·intro w hSw
     clear hSw
     first | (go_simp; done) | (go_simp; with_reducible rfl)
    (try simp only [Act.put, u1, u2, u3])
    refine wpAnyH_take (i := 1) (oi := ⟨some 40, .move (.tmp 10), 3, "l04_carts.go:146", #[], none⟩) (v := ?_) rfl (by kernel_rfl) (by kernel_rfl) (by kernel_rfl) (fun _ _ _ h => h) (Or.inl ⟨by rfl, ?_⟩) (by assumption) ?_
    rotate_left
    ·intro w hSw
     clear hSw
     first | (go_simp; done) | (go_simp; with_reducible rfl)
    (try simp only [Act.put, u1, u2, u3])
    refine wpAnyH_take (i := 2) (oi := ⟨some 41, .indexAddr 79 (.tmp 39) (.tmp 40), 0, "l04_carts.go:146", #[⟨0, .data⟩, ⟨1, .data⟩], none⟩) (v := ?_) rfl (by kernel_rfl) (by kernel_rfl) (by kernel_rfl) (fun _ _ _ h => h) (Or.inl ⟨by rfl, ?_⟩) (by assumption) ?_
    rotate_left
    ·intro w hSw
     clear hSw
     first | (go_simp; done) | (go_simp; with_reducible rfl)
    (try simp only [Act.put, u1, u2, u3])
    refine wpAnyH_take (i := 3) (oi := ⟨some 42, .load 49 (.tmp 41), 49, "l04_carts.go:146", #[⟨2, .data⟩], none⟩) (v := ?_) rfl (by kernel_rfl) (by kernel_rfl) (by kernel_rfl) (fun _ _ _ h => h) (Or.inl ⟨by rfl, ?_⟩) (by assumption) ?_
    rotate_left
    ·intro w hSw
     obtain ⟨c0, c1⟩ := hSw i hik
     clear hSw
     first | (go_simp; done) | (go_simp; with_reducible rfl)
    (try simp only [Act.put, u1, u2, u3])
    refine wpAnyH_take (i := 4) (oi := ⟨some 43, .move (.tmp 7), 79, "l04_carts.go:146", #[], none⟩) (v := ?_) rfl (by kernel_rfl) (by kernel_rfl) (by kernel_rfl) (fun _ _ _ h => h) (Or.inl ⟨by rfl, ?_⟩) (by assumption) ?_
    rotate_left
    ·intro w hSw
     clear hSw
     first | (go_simp; done) | (go_simp; with_reducible rfl)
    (try simp only [Act.put, u1, u2, u3])
    refine wpAnyH_take (i := 5) (oi := ⟨some 44, .move (.tmp 0), 43, "l04_carts.go:146", #[], none⟩) (v := ?_) rfl (by kernel_rfl) (by kernel_rfl) (by kernel_rfl) (fun _ _ _ h => h) (Or.inl ⟨by rfl, ?_⟩) (by assumption) ?_
    rotate_left
    ·intro w hSw
     clear hSw
     first | (go_simp; done) | (go_simp; with_reducible rfl)
    (try simp only [Act.put, u1, u2, u3])
    refine wpAnyH_take (i := 6) (oi := ⟨some 45, .move (.tmp 1), 3, "l04_carts.go:146", #[], none⟩) (v := ?_) rfl (by kernel_rfl) (by kernel_rfl) (by kernel_rfl) (fun _ _ _ h => h) (Or.inl ⟨by rfl, ?_⟩) (by assumption) ?_
    rotate_left
    ·intro w hSw
     clear hSw
     first | (go_simp; done) | (go_simp; with_reducible rfl)
    (try simp only [Act.put, u1, u2, u3])
    refine wpAnyH_ready (rs := [7, 14]) (by kernel_rfl) (by simp) ?_
    refine (AllReadyH.cons rfl (fun K hK => ?_) (AllReadyH.cons rfl (fun K hK => ?_) AllReadyH.nil))
    ·skip
     go_simp
     go_at_call 39
     refine (below y0 B g a len cap HLy0.out.rd k hn (by omega)).mono ?_
     rintro e y1 ⟨j, hjk, rfl, hgc, hrc⟩
     have hji : (j : Int) < (k : Int) := by omega
     have hj0 : decide ((j : Int) < 0) = false := decide_eq_false (by omega)
     have hj00 : ¬ ((j : Int) < 0) := by omega
     have HLy1 := Lib.hid (HLy0.out.step hgc hrc)
     have hsy1 : w2.heap.size ≤ y1.heap.size := Nat.le_trans hsy0 hgc.size
     have Sy1 : ∀ j, j < k → y1.cell? ⟨q, j * 2, none⟩ = some (.slice (cAt l j).va 4 (cAt l j).vc) ∧ y1.cell? ⟨q, j * 2 + 1, none⟩ = some (.slice (cAt l j).oa (cAt l j).no (cAt l j).oc) := HLy1.out.cell
     refine hK.out _ _ Sy1 (fun hHeldC => ?_)
     clear hK K hHeldC hgc hrc Sy0
     (try simp only [Act.put, u1, u2, u3])
     refine wpAnyH_take (i := 8) (oi := ⟨some 47, .indexAddr 79 (.tmp 43) (.tmp 46), 0, "l04_carts.go:146", #[⟨4, .data⟩, ⟨7, .data⟩], none⟩) (v := ?_) rfl (by kernel_rfl) (by kernel_rfl) (by kernel_rfl) (fun _ _ _ h => h) (Or.inl ⟨by rfl, ?_⟩) (by assumption) ?_
     rotate_left
     ·intro w hSw
      clear hSw
      first | (go_simp; done) | (go_simp; with_reducible rfl)
     (try simp only [Act.put, u1, u2, u3])
     refine wpAnyH_take (i := 9) (oi := ⟨some 48, .load 49 (.tmp 47), 49, "l04_carts.go:146", #[⟨8, .data⟩], none⟩) (v := ?_) rfl (by kernel_rfl) (by kernel_rfl) (by kernel_rfl) (fun _ _ _ h => h) (Or.inl ⟨by rfl, ?_⟩) (by assumption) ?_
     rotate_left
     ·intro w hSw
      obtain ⟨c0, c1⟩ := hSw j hjk
      clear hSw
      first | (go_simp; done) | (go_simp; with_reducible rfl)
     (try simp only [Act.put, u1, u2, u3])
     refine wpAnyH_ready (rs := [10, 14]) (by kernel_rfl) (by simp) ?_
     refine (AllReadyH.cons rfl (fun K hK => ?_) (AllReadyH.cons rfl (fun K hK => ?_) AllReadyH.nil))
     ·skip
      go_simp
      go_at_call 63
      refine (mergedCrt y1 w.heap.size y1.heap.size w.heap.size y1.heap.size (cAt l i) (cAt l j) (HLy1.out.row.crt i (by rw [HLy1.out.num]; exact hik)) (HLy1.out.row.crt j (by rw [HLy1.out.num]; exact hjk)) (Nat.le_refl _) (Nat.le_refl _)).mono ?_
      rintro e y2 ⟨va, nv, vc, oa, no, oc, ok, rfl, hbc, hcr⟩
      have HLy2 := Lib.hid (HLy1.out.below hbc)
      have hsy2 : w2.heap.size ≤ y2.heap.size := Nat.le_trans hsy1 hbc.size
      have Sy2 : ∀ j, j < k → y2.cell? ⟨q, j * 2, none⟩ = some (.slice (cAt l j).va 4 (cAt l j).vc) ∧ y2.cell? ⟨q, j * 2 + 1, none⟩ = some (.slice (cAt l j).oa (cAt l j).no (cAt l j).oc) := HLy2.out.cell
      have HCy2 : Hid (ok = true → nv = 4 ∧ Crt y2 y1.heap.size y2.heap.size va vc oa no oc 400) := hcr
      have hpzy2 := hbc.size
      refine hK.out _ _ Sy2 (fun hHeldP => ?_)
      clear hK K hHeldP hbc hcr Sy1
      (try simp only [Act.put, u1, u2, u3])
      refine wpAnyH_take (i := 11) (oi := ⟨some 38, .move (.tmp 49), 108, "l04_carts.go:146", #[⟨10, .data⟩], none⟩) (v := ?_) rfl (by kernel_rfl) (by kernel_rfl) (by kernel_rfl) (fun _ _ _ h => h) (Or.inl ⟨by rfl, ?_⟩) (by assumption) ?_
      rotate_left
      ·intro w hSw
       clear hSw
       first | (go_simp; done) | (go_simp; with_reducible rfl)
      (try simp only [Act.put, u1, u2, u3])
      refine wpAnyH_take (i := 12) (oi := ⟨some 50, .extract (.tmp 38) 0, 49, "l04_carts.go:146", #[⟨11, .data⟩], none⟩) (v := ?_) rfl (by kernel_rfl) (by kernel_rfl) (by kernel_rfl) (fun _ _ _ h => h) (Or.inl ⟨by rfl, ?_⟩) (by assumption) ?_
      rotate_left
      ·intro w hSw
       clear hSw
       first | (go_simp; done) | (go_simp; with_reducible rfl)
      (try simp only [Act.put, u1, u2, u3])
      refine wpAnyH_take (i := 13) (oi := ⟨some 51, .extract (.tmp 38) 1, 4, "l04_carts.go:146", #[⟨11, .data⟩, { on := 15, ground := Ground.gcOnly Departure.lateStores }], none⟩) (v := ?_) rfl (by kernel_rfl) (by kernel_rfl) (by kernel_rfl) (fun _ _ _ h => h) (Or.inl ⟨by rfl, ?_⟩) (by assumption) ?_
      rotate_left
      ·intro w hSw
       clear hSw
       first | (go_simp; done) | (go_simp; with_reducible rfl)
      (try simp only [Act.put, u1, u2, u3])
      refine wpAnyH_ready (rs := [14]) (by kernel_rfl) (by simp) ?_
      refine (AllReadyH.cons rfl (fun K hK => ?_) AllReadyH.nil)
      have hal : Below y2.heap.size y2 (y2.alloc (.cells #[.slice none 0 0, .slice none 0 0] 49)) := bl
      have hxn := boxAt (Below.refl _ (y2.alloc (.cells #[.slice none 0 0, .slice none 0 0] 49)))
      have HLA := Lib.hid (HLy2.out.below hal)
      have SA : ∀ j, j < k → (y2.alloc (.cells #[.slice none 0 0, .slice none 0 0] 49)).cell? ⟨q, j * 2, none⟩ = some (.slice (cAt l j).va 4 (cAt l j).vc) ∧ (y2.alloc (.cells #[.slice none 0 0, .slice none 0 0] 49)).cell? ⟨q, j * 2 + 1, none⟩ = some (.slice (cAt l j).oa (cAt l j).no (cAt l j).oc) := HLA.out.cell
      go_simp
      refine hK.out _ _ SA (fun hHeldA => ?_)
      clear hK K hHeldA
      (try simp only [Act.put, u1, u2, u3])
      generalize y2.alloc (.cells #[.slice none 0 0, .slice none 0 0] 49) = y3 at hal hxn HLA SA ⊢
      have Sy3 := SA
      clear SA Sy2
      have hxy3 := Lib.hid hxn
      have HLy3 := HLA
      have hsy3 : w2.heap.size ≤ y3.heap.size := Nat.le_trans hsy2 hal.size
      have HCy3 : Hid (ok = true → nv = 4 ∧ Crt y3 y1.heap.size y2.heap.size va vc oa no oc 400) := fun h => ⟨(HCy2.out h).1, (HCy2.out h).2.below hal (by omega)⟩
      clear hxn HLA hal
      have hxb := hxy3.out
      have hbl := (Array.getElem?_eq_some_iff.1 hxb).1
      have HLn := Lib.hid (HLy3.out.box (.slice va nv vc) (.slice oa no oc) hxb (by omega) (by omega))
      have HNn := Lib.hid (pair_set (.slice va nv vc) (.slice oa no oc) hxb)
      have HCn : Hid (ok = true → nv = 4 ∧ Crt ((y3.setCell ⟨y2.heap.size, 0, none⟩ (.slice va nv vc)).setCell ⟨y2.heap.size, 1, none⟩ (.slice oa no oc)) w.heap.size ((y3.setCell ⟨y2.heap.size, 0, none⟩ (.slice va nv vc)).setCell ⟨y2.heap.size, 1, none⟩ (.slice oa no oc)).heap.size va vc oa no oc 400) := fun h => ⟨(HCy3.out h).1, (Crt.other (HCy3.out h).2 hxb fun j _ _ hne => pair_other _ _ hne).more (by omega) (by rw [pair_size]; omega) (Nat.le_refl _)⟩
      obtain ⟨d0, d1⟩ := pair_cells hxb
      obtain ⟨f0, f1⟩ := pair_frozen hxb
      have SW : ∀ j, j < k → ((y3.setCell ⟨y2.heap.size, 0, none⟩ (.slice va nv vc)).setCell ⟨y2.heap.size, 1, none⟩ (.slice oa no oc)).cell? ⟨q, j * 2, none⟩ = some (.slice (cAt l j).va 4 (cAt l j).vc) ∧ ((y3.setCell ⟨y2.heap.size, 0, none⟩ (.slice va nv vc)).setCell ⟨y2.heap.size, 1, none⟩ (.slice oa no oc)).cell? ⟨q, j * 2 + 1, none⟩ = some (.slice (cAt l j).oa (cAt l j).no (cAt l j).oc) := HLn.out.cell
      refine rk 15 rfl (fun K hK => ?_)
      go_simp
      refine hK.out _ _ SW (fun hHeldB => ?_)
      clear hK K hHeldB d0 d1 f0 f1 SW hxb
      (try simp only [Act.put, u1, u2, u3])
      generalize (y3.setCell ⟨y2.heap.size, 0, none⟩ (.slice va nv vc)).setCell ⟨y2.heap.size, 1, none⟩ (.slice oa no oc) = zn at HNn HLn HCn ⊢
      have Szn : ∀ j, j < k → zn.cell? ⟨q, j * 2, none⟩ = some (.slice (cAt l j).va 4 (cAt l j).vc) ∧ zn.cell? ⟨q, j * 2 + 1, none⟩ = some (.slice (cAt l j).oa (cAt l j).no (cAt l j).oc) := HLn.out.cell
      refine wpAnyH_take (i := 16) (oi := ⟨some 12, .assign (.tmp 51), 4, "l04_carts.go:146", #[⟨13, .data⟩, ⟨15, .chain⟩, ⟨0, .phase⟩, ⟨1, .phase⟩, ⟨2, .phase⟩, ⟨3, .phase⟩, ⟨4, .phase⟩, ⟨5, .phase⟩, ⟨6, .phase⟩, ⟨7, .phase⟩, ⟨8, .phase⟩, ⟨9, .phase⟩, ⟨10, .phase⟩, ⟨11, .phase⟩, ⟨12, .phase⟩, ⟨13, .phase⟩, ⟨14, .phase⟩, ⟨15, .phase⟩], none⟩) (v := ?_) rfl (by kernel_rfl) (by kernel_rfl) (by kernel_rfl) (fun _ _ _ h => h) (Or.inl ⟨by rfl, ?_⟩) (by assumption) ?_
      rotate_left
      ·intro w hSw
       clear hSw
       first | (go_simp; done) | (go_simp; with_reducible rfl)
      (try simp only [Act.put, u1, u2, u3])
      refine wpAnyH_done (by kernel_rfl) ?_ _
      clear Szn
      cases ok
      ·skip
       go_wp2
       go_roundw
       case rel => exact ⟨r - 1, l, by omega, by go_num, HLn⟩
       case measure => simp [intOf]; omega
      obtain ⟨e4, hcn⟩ := HCn.out rfl
      subst e4
      have HLs := Lib.hid (HLn.out.set hik ⟨va, vc, oa, no, oc⟩ hcn)
      obtain ⟨x0, x1⟩ := pair_cells HNn.out
      obtain ⟨c0, c1⟩ := HLn.out.cell i hik
      have g0 := HLn.out.frozen (i * 2)
      have g1 := HLn.out.frozen (i * 2 + 1)
      clear hcn
      go_wp2
      go_roundw
      case rel => exact ⟨r - 1, l.set i ⟨va, vc, oa, no, oc⟩, by omega, by go_num, HLs⟩
      case measure => simp [intOf]; omega
     ·skip
      have hal : Below y1.heap.size y1 (y1.alloc (.cells #[.slice none 0 0, .slice none 0 0] 49)) := bl
      have hxn := boxAt (Below.refl _ (y1.alloc (.cells #[.slice none 0 0, .slice none 0 0] 49)))
      have HLA := Lib.hid (HLy1.out.below hal)
      have SA : ∀ j, j < k → (y1.alloc (.cells #[.slice none 0 0, .slice none 0 0] 49)).cell? ⟨q, j * 2, none⟩ = some (.slice (cAt l j).va 4 (cAt l j).vc) ∧ (y1.alloc (.cells #[.slice none 0 0, .slice none 0 0] 49)).cell? ⟨q, j * 2 + 1, none⟩ = some (.slice (cAt l j).oa (cAt l j).no (cAt l j).oc) := HLA.out.cell
      go_simp
      refine hK.out _ _ SA (fun hHeldA => ?_)
      clear hK K hHeldA
      (try simp only [Act.put, u1, u2, u3])
      generalize y1.alloc (.cells #[.slice none 0 0, .slice none 0 0] 49) = y4 at hal hxn HLA SA ⊢
      have Sy4 := SA
      clear SA Sy1
      have hxy4 := Lib.hid hxn
      have HLy4 := HLA
      have hsy4 : w2.heap.size ≤ y4.heap.size := Nat.le_trans hsy1 hal.size
      clear hxn HLA hal
      refine wpAnyH_ready (rs := [10]) (by kernel_rfl) (by simp) ?_
      refine (AllReadyH.cons rfl (fun K hK => ?_) AllReadyH.nil)
      go_simp
      go_at_call 63
      refine (mergedCrt y4 w.heap.size y4.heap.size w.heap.size y4.heap.size (cAt l i) (cAt l j) (HLy4.out.row.crt i (by rw [HLy4.out.num]; exact hik)) (HLy4.out.row.crt j (by rw [HLy4.out.num]; exact hjk)) (Nat.le_refl _) (Nat.le_refl _)).mono ?_
      rintro e y5 ⟨va, nv, vc, oa, no, oc, ok, rfl, hbc, hcr⟩
      have HLy5 := Lib.hid (HLy4.out.below hbc)
      have hsy5 : w2.heap.size ≤ y5.heap.size := Nat.le_trans hsy4 hbc.size
      have Sy5 : ∀ j, j < k → y5.cell? ⟨q, j * 2, none⟩ = some (.slice (cAt l j).va 4 (cAt l j).vc) ∧ y5.cell? ⟨q, j * 2 + 1, none⟩ = some (.slice (cAt l j).oa (cAt l j).no (cAt l j).oc) := HLy5.out.cell
      have hxy5 := Lib.hid ((hbc.block _ (Array.getElem?_eq_some_iff.1 hxy4.out).1).trans hxy4.out)
      have HCy5 : Hid (ok = true → nv = 4 ∧ Crt y5 y4.heap.size y5.heap.size va vc oa no oc 400) := hcr
      have hpzy5 := hbc.size
      refine hK.out _ _ Sy5 (fun hHeldP => ?_)
      clear hK K hHeldP hbc hcr Sy4
      (try simp only [Act.put, u1, u2, u3])
      refine wpAnyH_take (i := 11) (oi := ⟨some 38, .move (.tmp 49), 108, "l04_carts.go:146", #[⟨10, .data⟩], none⟩) (v := ?_) rfl (by kernel_rfl) (by kernel_rfl) (by kernel_rfl) (fun _ _ _ h => h) (Or.inl ⟨by rfl, ?_⟩) (by assumption) ?_
      rotate_left
      ·intro w hSw
       clear hSw
       first | (go_simp; done) | (go_simp; with_reducible rfl)
      (try simp only [Act.put, u1, u2, u3])
      refine wpAnyH_take (i := 12) (oi := ⟨some 50, .extract (.tmp 38) 0, 49, "l04_carts.go:146", #[⟨11, .data⟩], none⟩) (v := ?_) rfl (by kernel_rfl) (by kernel_rfl) (by kernel_rfl) (fun _ _ _ h => h) (Or.inl ⟨by rfl, ?_⟩) (by assumption) ?_
      rotate_left
      ·intro w hSw
       clear hSw
       first | (go_simp; done) | (go_simp; with_reducible rfl)
      (try simp only [Act.put, u1, u2, u3])
      refine wpAnyH_take (i := 13) (oi := ⟨some 51, .extract (.tmp 38) 1, 4, "l04_carts.go:146", #[⟨11, .data⟩, { on := 15, ground := Ground.gcOnly Departure.lateStores }], none⟩) (v := ?_) rfl (by kernel_rfl) (by kernel_rfl) (by kernel_rfl) (fun _ _ _ h => h) (Or.inl ⟨by rfl, ?_⟩) (by assumption) ?_
      rotate_left
      ·intro w hSw
       clear hSw
       first | (go_simp; done) | (go_simp; with_reducible rfl)
      (try simp only [Act.put, u1, u2, u3])
      have hxb := hxy5.out
      have hbl := (Array.getElem?_eq_some_iff.1 hxb).1
      have HLn := Lib.hid (HLy5.out.box (.slice va nv vc) (.slice oa no oc) hxb (by omega) (by omega))
      have HNn := Lib.hid (pair_set (.slice va nv vc) (.slice oa no oc) hxb)
      have HCn : Hid (ok = true → nv = 4 ∧ Crt ((y5.setCell ⟨y1.heap.size, 0, none⟩ (.slice va nv vc)).setCell ⟨y1.heap.size, 1, none⟩ (.slice oa no oc)) w.heap.size ((y5.setCell ⟨y1.heap.size, 0, none⟩ (.slice va nv vc)).setCell ⟨y1.heap.size, 1, none⟩ (.slice oa no oc)).heap.size va vc oa no oc 400) := fun h => ⟨(HCy5.out h).1, (Crt.other (HCy5.out h).2 hxb fun j _ _ hne => pair_other _ _ hne).more (by omega) (by rw [pair_size]; omega) (Nat.le_refl _)⟩
      obtain ⟨d0, d1⟩ := pair_cells hxb
      obtain ⟨f0, f1⟩ := pair_frozen hxb
      have SW : ∀ j, j < k → ((y5.setCell ⟨y1.heap.size, 0, none⟩ (.slice va nv vc)).setCell ⟨y1.heap.size, 1, none⟩ (.slice oa no oc)).cell? ⟨q, j * 2, none⟩ = some (.slice (cAt l j).va 4 (cAt l j).vc) ∧ ((y5.setCell ⟨y1.heap.size, 0, none⟩ (.slice va nv vc)).setCell ⟨y1.heap.size, 1, none⟩ (.slice oa no oc)).cell? ⟨q, j * 2 + 1, none⟩ = some (.slice (cAt l j).oa (cAt l j).no (cAt l j).oc) := HLn.out.cell
      refine rk 15 rfl (fun K hK => ?_)
      go_simp
      refine hK.out _ _ SW (fun hHeldB => ?_)
      clear hK K hHeldB d0 d1 f0 f1 SW hxb
      (try simp only [Act.put, u1, u2, u3])
      generalize (y5.setCell ⟨y1.heap.size, 0, none⟩ (.slice va nv vc)).setCell ⟨y1.heap.size, 1, none⟩ (.slice oa no oc) = zn at HNn HLn HCn ⊢
      have Szn : ∀ j, j < k → zn.cell? ⟨q, j * 2, none⟩ = some (.slice (cAt l j).va 4 (cAt l j).vc) ∧ zn.cell? ⟨q, j * 2 + 1, none⟩ = some (.slice (cAt l j).oa (cAt l j).no (cAt l j).oc) := HLn.out.cell
      refine wpAnyH_take (i := 16) (oi := ⟨some 12, .assign (.tmp 51), 4, "l04_carts.go:146", #[⟨13, .data⟩, ⟨15, .chain⟩, ⟨0, .phase⟩, ⟨1, .phase⟩, ⟨2, .phase⟩, ⟨3, .phase⟩, ⟨4, .phase⟩, ⟨5, .phase⟩, ⟨6, .phase⟩, ⟨7, .phase⟩, ⟨8, .phase⟩, ⟨9, .phase⟩, ⟨10, .phase⟩, ⟨11, .phase⟩, ⟨12, .phase⟩, ⟨13, .phase⟩, ⟨14, .phase⟩, ⟨15, .phase⟩], none⟩) (v := ?_) rfl (by kernel_rfl) (by kernel_rfl) (by kernel_rfl) (fun _ _ _ h => h) (Or.inl ⟨by rfl, ?_⟩) (by assumption) ?_
      rotate_left
      ·intro w hSw
       clear hSw
       first | (go_simp; done) | (go_simp; with_reducible rfl)
      (try simp only [Act.put, u1, u2, u3])
      refine wpAnyH_done (by kernel_rfl) ?_ _
      clear Szn
      cases ok
      ·skip
       go_wp2
       go_roundw
       case rel => exact ⟨r - 1, l, by omega, by go_num, HLn⟩
       case measure => simp [intOf]; omega
      obtain ⟨e4, hcn⟩ := HCn.out rfl
      subst e4
      have HLs := Lib.hid (HLn.out.set hik ⟨va, vc, oa, no, oc⟩ hcn)
      obtain ⟨x0, x1⟩ := pair_cells HNn.out
      obtain ⟨c0, c1⟩ := HLn.out.cell i hik
      have g0 := HLn.out.frozen (i * 2)
      have g1 := HLn.out.frozen (i * 2 + 1)
      clear hcn
      go_wp2
      go_roundw
      case rel => exact ⟨r - 1, l.set i ⟨va, vc, oa, no, oc⟩, by omega, by go_num, HLs⟩
      case measure => simp [intOf]; omega
    ·skip
     have hal : Below y0.heap.size y0 (y0.alloc (.cells #[.slice none 0 0, .slice none 0 0] 49)) := bl
     have hxn := boxAt (Below.refl _ (y0.alloc (.cells #[.slice none 0 0, .slice none 0 0] 49)))
     have HLA := Lib.hid (HLy0.out.below hal)
     have SA : ∀ j, j < k → (y0.alloc (.cells #[.slice none 0 0, .slice none 0 0] 49)).cell? ⟨q, j * 2, none⟩ = some (.slice (cAt l j).va 4 (cAt l j).vc) ∧ (y0.alloc (.cells #[.slice none 0 0, .slice none 0 0] 49)).cell? ⟨q, j * 2 + 1, none⟩ = some (.slice (cAt l j).oa (cAt l j).no (cAt l j).oc) := HLA.out.cell
     go_simp
     refine hK.out _ _ SA (fun hHeldA => ?_)
     clear hK K hHeldA
     (try simp only [Act.put, u1, u2, u3])
     generalize y0.alloc (.cells #[.slice none 0 0, .slice none 0 0] 49) = y6 at hal hxn HLA SA ⊢
     have Sy6 := SA
     clear SA Sy0
     have hxy6 := Lib.hid hxn
     have HLy6 := HLA
     have hsy6 : w2.heap.size ≤ y6.heap.size := Nat.le_trans hsy0 hal.size
     clear hxn HLA hal
     refine wpAnyH_ready (rs := [7]) (by kernel_rfl) (by simp) ?_
     refine (AllReadyH.cons rfl (fun K hK => ?_) AllReadyH.nil)
     go_simp
     go_at_call 39
     refine (below y6 B g a len cap HLy6.out.rd k hn (by omega)).mono ?_
     rintro e y7 ⟨j, hjk, rfl, hgc, hrc⟩
     have hji : (j : Int) < (k : Int) := by omega
     have hj0 : decide ((j : Int) < 0) = false := decide_eq_false (by omega)
     have hj00 : ¬ ((j : Int) < 0) := by omega
     have HLy7 := Lib.hid (HLy6.out.step hgc hrc)
     have hsy7 : w2.heap.size ≤ y7.heap.size := Nat.le_trans hsy6 hgc.size
     have Sy7 : ∀ j, j < k → y7.cell? ⟨q, j * 2, none⟩ = some (.slice (cAt l j).va 4 (cAt l j).vc) ∧ y7.cell? ⟨q, j * 2 + 1, none⟩ = some (.slice (cAt l j).oa (cAt l j).no (cAt l j).oc) := HLy7.out.cell
     have hxy7 := Lib.hid ((hgc.block _ (Array.getElem?_eq_some_iff.1 hxy6.out).1 (by intro e; injection e with e; omega)).trans hxy6.out)
     refine hK.out _ _ Sy7 (fun hHeldC => ?_)
     clear hK K hHeldC hgc hrc Sy6
     (try simp only [Act.put, u1, u2, u3])
     refine wpAnyH_take (i := 8) (oi := ⟨some 47, .indexAddr 79 (.tmp 43) (.tmp 46), 0, "l04_carts.go:146", #[⟨4, .data⟩, ⟨7, .data⟩], none⟩) (v := ?_) rfl (by kernel_rfl) (by kernel_rfl) (by kernel_rfl) (fun _ _ _ h => h) (Or.inl ⟨by rfl, ?_⟩) (by assumption) ?_
     rotate_left
     ·intro w hSw
      clear hSw
      first | (go_simp; done) | (go_simp; with_reducible rfl)
     (try simp only [Act.put, u1, u2, u3])
     refine wpAnyH_take (i := 9) (oi := ⟨some 48, .load 49 (.tmp 47), 49, "l04_carts.go:146", #[⟨8, .data⟩], none⟩) (v := ?_) rfl (by kernel_rfl) (by kernel_rfl) (by kernel_rfl) (fun _ _ _ h => h) (Or.inl ⟨by rfl, ?_⟩) (by assumption) ?_
     rotate_left
     ·intro w hSw
      obtain ⟨c0, c1⟩ := hSw j hjk
      clear hSw
      first | (go_simp; done) | (go_simp; with_reducible rfl)
     (try simp only [Act.put, u1, u2, u3])
     refine wpAnyH_ready (rs := [10]) (by kernel_rfl) (by simp) ?_
     refine (AllReadyH.cons rfl (fun K hK => ?_) AllReadyH.nil)
     go_simp
     go_at_call 63
     refine (mergedCrt y7 w.heap.size y7.heap.size w.heap.size y7.heap.size (cAt l i) (cAt l j) (HLy7.out.row.crt i (by rw [HLy7.out.num]; exact hik)) (HLy7.out.row.crt j (by rw [HLy7.out.num]; exact hjk)) (Nat.le_refl _) (Nat.le_refl _)).mono ?_
     rintro e y8 ⟨va, nv, vc, oa, no, oc, ok, rfl, hbc, hcr⟩
     have HLy8 := Lib.hid (HLy7.out.below hbc)
     have hsy8 : w2.heap.size ≤ y8.heap.size := Nat.le_trans hsy7 hbc.size
     have Sy8 : ∀ j, j < k → y8.cell? ⟨q, j * 2, none⟩ = some (.slice (cAt l j).va 4 (cAt l j).vc) ∧ y8.cell? ⟨q, j * 2 + 1, none⟩ = some (.slice (cAt l j).oa (cAt l j).no (cAt l j).oc) := HLy8.out.cell
     have hxy8 := Lib.hid ((hbc.block _ (Array.getElem?_eq_some_iff.1 hxy7.out).1).trans hxy7.out)
     have HCy8 : Hid (ok = true → nv = 4 ∧ Crt y8 y7.heap.size y8.heap.size va vc oa no oc 400) := hcr
     have hpzy8 := hbc.size
     refine hK.out _ _ Sy8 (fun hHeldP => ?_)
     clear hK K hHeldP hbc hcr Sy7
     (try simp only [Act.put, u1, u2, u3])
     refine wpAnyH_take (i := 11) (oi := ⟨some 38, .move (.tmp 49), 108, "l04_carts.go:146", #[⟨10, .data⟩], none⟩) (v := ?_) rfl (by kernel_rfl) (by kernel_rfl) (by kernel_rfl) (fun _ _ _ h => h) (Or.inl ⟨by rfl, ?_⟩) (by assumption) ?_
     rotate_left
     ·intro w hSw
      clear hSw
      first | (go_simp; done) | (go_simp; with_reducible rfl)
     (try simp only [Act.put, u1, u2, u3])
     refine wpAnyH_take (i := 12) (oi := ⟨some 50, .extract (.tmp 38) 0, 49, "l04_carts.go:146", #[⟨11, .data⟩], none⟩) (v := ?_) rfl (by kernel_rfl) (by kernel_rfl) (by kernel_rfl) (fun _ _ _ h => h) (Or.inl ⟨by rfl, ?_⟩) (by assumption) ?_
     rotate_left
     ·intro w hSw
      clear hSw
      first | (go_simp; done) | (go_simp; with_reducible rfl)
     (try simp only [Act.put, u1, u2, u3])
     refine wpAnyH_take (i := 13) (oi := ⟨some 51, .extract (.tmp 38) 1, 4, "l04_carts.go:146", #[⟨11, .data⟩, { on := 15, ground := Ground.gcOnly Departure.lateStores }], none⟩) (v := ?_) rfl (by kernel_rfl) (by kernel_rfl) (by kernel_rfl) (fun _ _ _ h => h) (Or.inl ⟨by rfl, ?_⟩) (by assumption) ?_
     rotate_left
     ·intro w hSw
      clear hSw
      first | (go_simp; done) | (go_simp; with_reducible rfl)
     (try simp only [Act.put, u1, u2, u3])
     have hxb := hxy8.out
     have hbl := (Array.getElem?_eq_some_iff.1 hxb).1
     have HLn := Lib.hid (HLy8.out.box (.slice va nv vc) (.slice oa no oc) hxb (by omega) (by omega))
     have HNn := Lib.hid (pair_set (.slice va nv vc) (.slice oa no oc) hxb)
     have HCn : Hid (ok = true → nv = 4 ∧ Crt ((y8.setCell ⟨y0.heap.size, 0, none⟩ (.slice va nv vc)).setCell ⟨y0.heap.size, 1, none⟩ (.slice oa no oc)) w.heap.size ((y8.setCell ⟨y0.heap.size, 0, none⟩ (.slice va nv vc)).setCell ⟨y0.heap.size, 1, none⟩ (.slice oa no oc)).heap.size va vc oa no oc 400) := fun h => ⟨(HCy8.out h).1, (Crt.other (HCy8.out h).2 hxb fun j _ _ hne => pair_other _ _ hne).more (by omega) (by rw [pair_size]; omega) (Nat.le_refl _)⟩
     obtain ⟨d0, d1⟩ := pair_cells hxb
     obtain ⟨f0, f1⟩ := pair_frozen hxb
     have SW : ∀ j, j < k → ((y8.setCell ⟨y0.heap.size, 0, none⟩ (.slice va nv vc)).setCell ⟨y0.heap.size, 1, none⟩ (.slice oa no oc)).cell? ⟨q, j * 2, none⟩ = some (.slice (cAt l j).va 4 (cAt l j).vc) ∧ ((y8.setCell ⟨y0.heap.size, 0, none⟩ (.slice va nv vc)).setCell ⟨y0.heap.size, 1, none⟩ (.slice oa no oc)).cell? ⟨q, j * 2 + 1, none⟩ = some (.slice (cAt l j).oa (cAt l j).no (cAt l j).oc) := HLn.out.cell
     refine rk 15 rfl (fun K hK => ?_)
     go_simp
     refine hK.out _ _ SW (fun hHeldB => ?_)
     clear hK K hHeldB d0 d1 f0 f1 SW hxb
     (try simp only [Act.put, u1, u2, u3])
     generalize (y8.setCell ⟨y0.heap.size, 0, none⟩ (.slice va nv vc)).setCell ⟨y0.heap.size, 1, none⟩ (.slice oa no oc) = zn at HNn HLn HCn ⊢
     have Szn : ∀ j, j < k → zn.cell? ⟨q, j * 2, none⟩ = some (.slice (cAt l j).va 4 (cAt l j).vc) ∧ zn.cell? ⟨q, j * 2 + 1, none⟩ = some (.slice (cAt l j).oa (cAt l j).no (cAt l j).oc) := HLn.out.cell
     refine wpAnyH_take (i := 16) (oi := ⟨some 12, .assign (.tmp 51), 4, "l04_carts.go:146", #[⟨13, .data⟩, ⟨15, .chain⟩, ⟨0, .phase⟩, ⟨1, .phase⟩, ⟨2, .phase⟩, ⟨3, .phase⟩, ⟨4, .phase⟩, ⟨5, .phase⟩, ⟨6, .phase⟩, ⟨7, .phase⟩, ⟨8, .phase⟩, ⟨9, .phase⟩, ⟨10, .phase⟩, ⟨11, .phase⟩, ⟨12, .phase⟩, ⟨13, .phase⟩, ⟨14, .phase⟩, ⟨15, .phase⟩], none⟩) (v := ?_) rfl (by kernel_rfl) (by kernel_rfl) (by kernel_rfl) (fun _ _ _ h => h) (Or.inl ⟨by rfl, ?_⟩) (by assumption) ?_
     rotate_left
     ·intro w hSw
      clear hSw
      first | (go_simp; done) | (go_simp; with_reducible rfl)
     (try simp only [Act.put, u1, u2, u3])
     refine wpAnyH_done (by kernel_rfl) ?_ _
     clear Szn
     cases ok
     ·skip
      go_wp2
      go_roundw
      case rel => exact ⟨r - 1, l, by omega, by go_num, HLn⟩
      case measure => simp [intOf]; omega
     obtain ⟨e4, hcn⟩ := HCn.out rfl
     subst e4
     have HLs := Lib.hid (HLn.out.set hik ⟨va, vc, oa, no, oc⟩ hcn)
     obtain ⟨x0, x1⟩ := pair_cells HNn.out
     obtain ⟨c0, c1⟩ := HLn.out.cell i hik
     have g0 := HLn.out.frozen (i * 2)
     have g1 := HLn.out.frozen (i * 2 + 1)
     clear hcn
     go_wp2
     go_roundw
     case rel => exact ⟨r - 1, l.set i ⟨va, vc, oa, no, oc⟩, by omega, by go_num, HLs⟩
     case measure => simp [intOf]; omega
   go_upto_region 14 with fail
   obtain ⟨y0, hy0e⟩ : ∃ y0, w2.drew = y0 := ⟨_, rfl⟩
   have hy0 : Below w2.heap.size w2 y0 := by rw [← hy0e]; exact ⟨rfl, rfl, rfl, Nat.le_refl _, fun _ _ => rfl⟩
   have HLy0 := Lib.hid (HL2.out.below hy0)
   have hsy0 := hy0.size
   have Sy0 : ∀ j, j < k → y0.cell? ⟨q, j * 2, none⟩ = some (.slice (cAt l j).va 4 (cAt l j).vc) ∧ y0.cell? ⟨q, j * 2 + 1, none⟩ = some (.slice (cAt l j).oa (cAt l j).no (cAt l j).oc) := HLy0.out.cell
   refine wp_region_held_drew (S := fun w' => ∀ j, j < k → w'.cell? ⟨q, j * 2, none⟩ = some (.slice (cAt l j).va 4 (cAt l j).vc) ∧ w'.cell? ⟨q, j * 2 + 1, none⟩ = some (.slice (cAt l j).oa (cAt l j).no (cAt l j).oc)) (by kernel_rfl) (by rw [hy0e]; exact Sy0) (fun hHeld => ?_)
   rw [hy0e]
   clear hHeld hy0e hy0
   refine wpAnyH_take (i := 0) (oi := ⟨some 58, .move (.tmp 7), 79, "l04_carts.go:152", #[], none⟩) (v := ?_) rfl (by kernel_rfl) (by kernel_rfl) (by kernel_rfl) (fun _ _ _ h => h) (Or.inl ⟨by rfl, ?_⟩) (by assumption) ?_
   rotate_left
   ·intro w hSw
    clear hSw
    first | (go_simp; done) | (go_simp; with_reducible rfl)
   (try simp only [Act.put, u1, u2, u3])
   refine wpAnyH_take (i := 1) (oi := ⟨some 59, .move (.tmp 10), 3, "l04_carts.go:152", #[], none⟩) (v := ?_) rfl (by kernel_rfl) (by kernel_rfl) (by kernel_rfl) (fun _ _ _ h => h) (Or.inl ⟨by rfl, ?_⟩) (by assumption) ?_
   rotate_left
   ·intro w hSw
    clear hSw
    first | (go_simp; done) | (go_simp; with_reducible rfl)
   (try simp only [Act.put, u1, u2, u3])
   refine wpAnyH_take (i := 2) (oi := ⟨some 60, .indexAddr 79 (.tmp 58) (.tmp 59), 0, "l04_carts.go:152", #[⟨0, .data⟩, ⟨1, .data⟩], none⟩) (v := ?_) rfl (by kernel_rfl) (by kernel_rfl) (by kernel_rfl) (fun _ _ _ h => h) (Or.inl ⟨by rfl, ?_⟩) (by assumption) ?_
   rotate_left
   ·intro w hSw
    clear hSw
    first | (go_simp; done) | (go_simp; with_reducible rfl)
   (try simp only [Act.put, u1, u2, u3])
   refine wpAnyH_take (i := 3) (oi := ⟨some 61, .load 49 (.tmp 60), 49, "l04_carts.go:152", #[⟨2, .data⟩], none⟩) (v := ?_) rfl (by kernel_rfl) (by kernel_rfl) (by kernel_rfl) (fun _ _ _ h => h) (Or.inl ⟨by rfl, ?_⟩) (by assumption) ?_
   rotate_left
   ·intro w hSw
    obtain ⟨c0, c1⟩ := hSw i hik
    clear hSw
    first | (go_simp; done) | (go_simp; with_reducible rfl)
   (try simp only [Act.put, u1, u2, u3])
   refine wpAnyH_take (i := 4) (oi := ⟨some 62, .move (.tmp 10), 3, "l04_carts.go:152", #[], none⟩) (v := ?_) rfl (by kernel_rfl) (by kernel_rfl) (by kernel_rfl) (fun _ _ _ h => h) (Or.inl ⟨by rfl, ?_⟩) (by assumption) ?_
   rotate_left
   ·intro w hSw
    clear hSw
    first | (go_simp; done) | (go_simp; with_reducible rfl)
   (try simp only [Act.put, u1, u2, u3])
   refine wpAnyH_take (i := 5) (oi := ⟨some 63, .move (.tmp 0), 43, "l04_carts.go:152", #[], none⟩) (v := ?_) rfl (by kernel_rfl) (by kernel_rfl) (by kernel_rfl) (fun _ _ _ h => h) (Or.inl ⟨by rfl, ?_⟩) (by assumption) ?_
   rotate_left
   ·intro w hSw
    clear hSw
    first | (go_simp; done) | (go_simp; with_reducible rfl)
   (try simp only [Act.put, u1, u2, u3])
   refine wpAnyH_ready (rs := [6, 11]) (by kernel_rfl) (by simp) ?_
   refine (AllReadyH.cons rfl (fun K hK => ?_) (AllReadyH.cons rfl (fun K hK => ?_) AllReadyH.nil))
   ·skip
    go_simp
    go_at_call 65
    refine (rdCmd y0 B g a len cap HLy0.out.rd (by omega)).mono ?_
    rintro e y1 ⟨kind, item, qty, dv, sq, hi8, rfl, hgc, hrc⟩
    have HLy1 := Lib.hid (HLy0.out.step hgc hrc)
    have hsy1 : w2.heap.size ≤ y1.heap.size := Nat.le_trans hsy0 hgc.size
    have Sy1 : ∀ j, j < k → y1.cell? ⟨q, j * 2, none⟩ = some (.slice (cAt l j).va 4 (cAt l j).vc) ∧ y1.cell? ⟨q, j * 2 + 1, none⟩ = some (.slice (cAt l j).oa (cAt l j).no (cAt l j).oc) := HLy1.out.cell
    refine hK.out _ _ Sy1 (fun hHeldC => ?_)
    clear hK K hHeldC hgc hrc Sy0
    (try simp only [Act.put, u1, u2, u3])
    refine wpAnyH_ready (rs := [7, 11]) (by kernel_rfl) (by simp) ?_
    refine (AllReadyH.cons rfl (fun K hK => ?_) (AllReadyH.cons rfl (fun K hK => ?_) AllReadyH.nil))
    ·skip
     go_simp
     go_at_call 64
     refine (issueCrt y1 w.heap.size y1.heap.size (cAt l i) (i : Int) kind qty dv sq item (HLy1.out.row.crt i (by rw [HLy1.out.num]; exact hik)) (Nat.le_refl _) hi8).mono ?_
     rintro e y2 ⟨va, nv, vc, oa, no, oc, code, rfl, hbc, hcr0⟩
     have hcr : code = 0 → nv = 4 ∧ Crt y2 y1.heap.size y2.heap.size va vc oa no oc 400 := fun h => ⟨(hcr0 h).1, (hcr0 h).2.more (Nat.le_refl _) (Nat.le_refl _) (by omega)⟩
     clear hcr0
     have HLy2 := Lib.hid (HLy1.out.below hbc)
     have hsy2 : w2.heap.size ≤ y2.heap.size := Nat.le_trans hsy1 hbc.size
     have Sy2 : ∀ j, j < k → y2.cell? ⟨q, j * 2, none⟩ = some (.slice (cAt l j).va 4 (cAt l j).vc) ∧ y2.cell? ⟨q, j * 2 + 1, none⟩ = some (.slice (cAt l j).oa (cAt l j).no (cAt l j).oc) := HLy2.out.cell
     have HCy2 : Hid (code = 0 → nv = 4 ∧ Crt y2 y1.heap.size y2.heap.size va vc oa no oc 400) := hcr
     have hpzy2 := hbc.size
     refine hK.out _ _ Sy2 (fun hHeldP => ?_)
     clear hK K hHeldP hbc hcr Sy1
     (try simp only [Act.put, u1, u2, u3])
     refine wpAnyH_take (i := 8) (oi := ⟨some 57, .move (.tmp 65), 110, "l04_carts.go:152", #[⟨7, .data⟩], none⟩) (v := ?_) rfl (by kernel_rfl) (by kernel_rfl) (by kernel_rfl) (fun _ _ _ h => h) (Or.inl ⟨by rfl, ?_⟩) (by assumption) ?_
     rotate_left
     ·intro w hSw
      clear hSw
      first | (go_simp; done) | (go_simp; with_reducible rfl)
     (try simp only [Act.put, u1, u2, u3])
     refine wpAnyH_take (i := 9) (oi := ⟨some 66, .extract (.tmp 57) 0, 49, "l04_carts.go:152", #[⟨8, .data⟩], none⟩) (v := ?_) rfl (by kernel_rfl) (by kernel_rfl) (by kernel_rfl) (fun _ _ _ h => h) (Or.inl ⟨by rfl, ?_⟩) (by assumption) ?_
     rotate_left
     ·intro w hSw
      clear hSw
      first | (go_simp; done) | (go_simp; with_reducible rfl)
     (try simp only [Act.put, u1, u2, u3])
     refine wpAnyH_take (i := 10) (oi := ⟨some 67, .extract (.tmp 57) 1, 2, "l04_carts.go:152", #[⟨8, .data⟩, { on := 12, ground := Ground.gcOnly Departure.lateStores }], none⟩) (v := ?_) rfl (by kernel_rfl) (by kernel_rfl) (by kernel_rfl) (fun _ _ _ h => h) (Or.inl ⟨by rfl, ?_⟩) (by assumption) ?_
     rotate_left
     ·intro w hSw
      clear hSw
      first | (go_simp; done) | (go_simp; with_reducible rfl)
     (try simp only [Act.put, u1, u2, u3])
     refine wpAnyH_ready (rs := [11]) (by kernel_rfl) (by simp) ?_
     refine (AllReadyH.cons rfl (fun K hK => ?_) AllReadyH.nil)
     have hal : Below y2.heap.size y2 (y2.alloc (.cells #[.slice none 0 0, .slice none 0 0] 49)) := bl
     have hxn := boxAt (Below.refl _ (y2.alloc (.cells #[.slice none 0 0, .slice none 0 0] 49)))
     have HLA := Lib.hid (HLy2.out.below hal)
     have SA : ∀ j, j < k → (y2.alloc (.cells #[.slice none 0 0, .slice none 0 0] 49)).cell? ⟨q, j * 2, none⟩ = some (.slice (cAt l j).va 4 (cAt l j).vc) ∧ (y2.alloc (.cells #[.slice none 0 0, .slice none 0 0] 49)).cell? ⟨q, j * 2 + 1, none⟩ = some (.slice (cAt l j).oa (cAt l j).no (cAt l j).oc) := HLA.out.cell
     go_simp
     refine hK.out _ _ SA (fun hHeldA => ?_)
     clear hK K hHeldA
     (try simp only [Act.put, u1, u2, u3])
     generalize y2.alloc (.cells #[.slice none 0 0, .slice none 0 0] 49) = y3 at hal hxn HLA SA ⊢
     have Sy3 := SA
     clear SA Sy2
     have hxy3 := Lib.hid hxn
     have HLy3 := HLA
     have hsy3 : w2.heap.size ≤ y3.heap.size := Nat.le_trans hsy2 hal.size
     have HCy3 : Hid (code = 0 → nv = 4 ∧ Crt y3 y1.heap.size y2.heap.size va vc oa no oc 400) := fun h => ⟨(HCy2.out h).1, (HCy2.out h).2.below hal (by omega)⟩
     clear hxn HLA hal
     have hxb := hxy3.out
     have hbl := (Array.getElem?_eq_some_iff.1 hxb).1
     have HLn := Lib.hid (HLy3.out.box (.slice va nv vc) (.slice oa no oc) hxb (by omega) (by omega))
     have HNn := Lib.hid (pair_set (.slice va nv vc) (.slice oa no oc) hxb)
     have HCn : Hid (code = 0 → nv = 4 ∧ Crt ((y3.setCell ⟨y2.heap.size, 0, none⟩ (.slice va nv vc)).setCell ⟨y2.heap.size, 1, none⟩ (.slice oa no oc)) w.heap.size ((y3.setCell ⟨y2.heap.size, 0, none⟩ (.slice va nv vc)).setCell ⟨y2.heap.size, 1, none⟩ (.slice oa no oc)).heap.size va vc oa no oc 400) := fun h => ⟨(HCy3.out h).1, (Crt.other (HCy3.out h).2 hxb fun j _ _ hne => pair_other _ _ hne).more (by omega) (by rw [pair_size]; omega) (Nat.le_refl _)⟩
     obtain ⟨d0, d1⟩ := pair_cells hxb
     obtain ⟨f0, f1⟩ := pair_frozen hxb
     have SW : ∀ j, j < k → ((y3.setCell ⟨y2.heap.size, 0, none⟩ (.slice va nv vc)).setCell ⟨y2.heap.size, 1, none⟩ (.slice oa no oc)).cell? ⟨q, j * 2, none⟩ = some (.slice (cAt l j).va 4 (cAt l j).vc) ∧ ((y3.setCell ⟨y2.heap.size, 0, none⟩ (.slice va nv vc)).setCell ⟨y2.heap.size, 1, none⟩ (.slice oa no oc)).cell? ⟨q, j * 2 + 1, none⟩ = some (.slice (cAt l j).oa (cAt l j).no (cAt l j).oc) := HLn.out.cell
     refine rk 12 rfl (fun K hK => ?_)
     go_simp
     refine hK.out _ _ SW (fun hHeldB => ?_)
     clear hK K hHeldB d0 d1 f0 f1 SW hxb
     (try simp only [Act.put, u1, u2, u3])
     generalize (y3.setCell ⟨y2.heap.size, 0, none⟩ (.slice va nv vc)).setCell ⟨y2.heap.size, 1, none⟩ (.slice oa no oc) = zn at HNn HLn HCn ⊢
     have Szn : ∀ j, j < k → zn.cell? ⟨q, j * 2, none⟩ = some (.slice (cAt l j).va 4 (cAt l j).vc) ∧ zn.cell? ⟨q, j * 2 + 1, none⟩ = some (.slice (cAt l j).oa (cAt l j).no (cAt l j).oc) := HLn.out.cell
     refine wpAnyH_take (i := 13) (oi := ⟨some 14, .assign (.tmp 67), 2, "l04_carts.go:152", #[⟨10, .data⟩, ⟨12, .chain⟩, ⟨0, .phase⟩, ⟨1, .phase⟩, ⟨2, .phase⟩, ⟨3, .phase⟩, ⟨4, .phase⟩, ⟨5, .phase⟩, ⟨6, .phase⟩, ⟨7, .phase⟩, ⟨8, .phase⟩, ⟨9, .phase⟩, ⟨10, .phase⟩, ⟨11, .phase⟩, ⟨12, .phase⟩], none⟩) (v := ?_) rfl (by kernel_rfl) (by kernel_rfl) (by kernel_rfl) (fun _ _ _ h => h) (Or.inl ⟨by rfl, ?_⟩) (by assumption) ?_
     rotate_left
     ·intro w hSw
      clear hSw
      first | (go_simp; done) | (go_simp; with_reducible rfl)
     (try simp only [Act.put, u1, u2, u3])
     refine wpAnyH_done (by kernel_rfl) ?_ _
     clear Szn
     by_cases hcd : code = 0
     rotate_left
     ·have en : (code == 0) = false := by rw [beq_eq_false_iff_ne]; exact hcd
      clear hcd
      go_wp2
      go_roundw
      case rel => exact ⟨r - 1, l, by omega, by go_num, HLn⟩
      case measure => simp [intOf]; omega
     subst hcd
     obtain ⟨e4, hcn⟩ := HCn.out rfl
     subst e4
     have HLs := Lib.hid (HLn.out.set hik ⟨va, vc, oa, no, oc⟩ hcn)
     obtain ⟨x0, x1⟩ := pair_cells HNn.out
     obtain ⟨c0, c1⟩ := HLn.out.cell i hik
     have g0 := HLn.out.frozen (i * 2)
     have g1 := HLn.out.frozen (i * 2 + 1)
     clear hcn
     go_wp2
     go_roundw
     case rel => exact ⟨r - 1, l.set i ⟨va, vc, oa, no, oc⟩, by omega, by go_num, HLs⟩
     case measure => simp [intOf]; omega
    ·skip
     have hal : Below y1.heap.size y1 (y1.alloc (.cells #[.slice none 0 0, .slice none 0 0] 49)) := bl
     have hxn := boxAt (Below.refl _ (y1.alloc (.cells #[.slice none 0 0, .slice none 0 0] 49)))
     have HLA := Lib.hid (HLy1.out.below hal)
     have SA : ∀ j, j < k → (y1.alloc (.cells #[.slice none 0 0, .slice none 0 0] 49)).cell? ⟨q, j * 2, none⟩ = some (.slice (cAt l j).va 4 (cAt l j).vc) ∧ (y1.alloc (.cells #[.slice none 0 0, .slice none 0 0] 49)).cell? ⟨q, j * 2 + 1, none⟩ = some (.slice (cAt l j).oa (cAt l j).no (cAt l j).oc) := HLA.out.cell
     go_simp
     refine hK.out _ _ SA (fun hHeldA => ?_)
     clear hK K hHeldA
     (try simp only [Act.put, u1, u2, u3])
     generalize y1.alloc (.cells #[.slice none 0 0, .slice none 0 0] 49) = y4 at hal hxn HLA SA ⊢
     have Sy4 := SA
     clear SA Sy1
     have hxy4 := Lib.hid hxn
     have HLy4 := HLA
     have hsy4 : w2.heap.size ≤ y4.heap.size := Nat.le_trans hsy1 hal.size
     clear hxn HLA hal
     refine wpAnyH_ready (rs := [7]) (by kernel_rfl) (by simp) ?_
     refine (AllReadyH.cons rfl (fun K hK => ?_) AllReadyH.nil)
     go_simp
     go_at_call 64
     refine (issueCrt y4 w.heap.size y4.heap.size (cAt l i) (i : Int) kind qty dv sq item (HLy4.out.row.crt i (by rw [HLy4.out.num]; exact hik)) (Nat.le_refl _) hi8).mono ?_
     rintro e y5 ⟨va, nv, vc, oa, no, oc, code, rfl, hbc, hcr0⟩
     have hcr : code = 0 → nv = 4 ∧ Crt y5 y4.heap.size y5.heap.size va vc oa no oc 400 := fun h => ⟨(hcr0 h).1, (hcr0 h).2.more (Nat.le_refl _) (Nat.le_refl _) (by omega)⟩
     clear hcr0
     have HLy5 := Lib.hid (HLy4.out.below hbc)
     have hsy5 : w2.heap.size ≤ y5.heap.size := Nat.le_trans hsy4 hbc.size
     have Sy5 : ∀ j, j < k → y5.cell? ⟨q, j * 2, none⟩ = some (.slice (cAt l j).va 4 (cAt l j).vc) ∧ y5.cell? ⟨q, j * 2 + 1, none⟩ = some (.slice (cAt l j).oa (cAt l j).no (cAt l j).oc) := HLy5.out.cell
     have hxy5 := Lib.hid ((hbc.block _ (Array.getElem?_eq_some_iff.1 hxy4.out).1).trans hxy4.out)
     have HCy5 : Hid (code = 0 → nv = 4 ∧ Crt y5 y4.heap.size y5.heap.size va vc oa no oc 400) := hcr
     have hpzy5 := hbc.size
     refine hK.out _ _ Sy5 (fun hHeldP => ?_)
     clear hK K hHeldP hbc hcr Sy4
     (try simp only [Act.put, u1, u2, u3])
     refine wpAnyH_take (i := 8) (oi := ⟨some 57, .move (.tmp 65), 110, "l04_carts.go:152", #[⟨7, .data⟩], none⟩) (v := ?_) rfl (by kernel_rfl) (by kernel_rfl) (by kernel_rfl) (fun _ _ _ h => h) (Or.inl ⟨by rfl, ?_⟩) (by assumption) ?_
     rotate_left
     ·intro w hSw
      clear hSw
      first | (go_simp; done) | (go_simp; with_reducible rfl)
     (try simp only [Act.put, u1, u2, u3])
     refine wpAnyH_take (i := 9) (oi := ⟨some 66, .extract (.tmp 57) 0, 49, "l04_carts.go:152", #[⟨8, .data⟩], none⟩) (v := ?_) rfl (by kernel_rfl) (by kernel_rfl) (by kernel_rfl) (fun _ _ _ h => h) (Or.inl ⟨by rfl, ?_⟩) (by assumption) ?_
     rotate_left
     ·intro w hSw
      clear hSw
      first | (go_simp; done) | (go_simp; with_reducible rfl)
     (try simp only [Act.put, u1, u2, u3])
     refine wpAnyH_take (i := 10) (oi := ⟨some 67, .extract (.tmp 57) 1, 2, "l04_carts.go:152", #[⟨8, .data⟩, { on := 12, ground := Ground.gcOnly Departure.lateStores }], none⟩) (v := ?_) rfl (by kernel_rfl) (by kernel_rfl) (by kernel_rfl) (fun _ _ _ h => h) (Or.inl ⟨by rfl, ?_⟩) (by assumption) ?_
     rotate_left
     ·intro w hSw
      clear hSw
      first | (go_simp; done) | (go_simp; with_reducible rfl)
     (try simp only [Act.put, u1, u2, u3])
     have hxb := hxy5.out
     have hbl := (Array.getElem?_eq_some_iff.1 hxb).1
     have HLn := Lib.hid (HLy5.out.box (.slice va nv vc) (.slice oa no oc) hxb (by omega) (by omega))
     have HNn := Lib.hid (pair_set (.slice va nv vc) (.slice oa no oc) hxb)
     have HCn : Hid (code = 0 → nv = 4 ∧ Crt ((y5.setCell ⟨y1.heap.size, 0, none⟩ (.slice va nv vc)).setCell ⟨y1.heap.size, 1, none⟩ (.slice oa no oc)) w.heap.size ((y5.setCell ⟨y1.heap.size, 0, none⟩ (.slice va nv vc)).setCell ⟨y1.heap.size, 1, none⟩ (.slice oa no oc)).heap.size va vc oa no oc 400) := fun h => ⟨(HCy5.out h).1, (Crt.other (HCy5.out h).2 hxb fun j _ _ hne => pair_other _ _ hne).more (by omega) (by rw [pair_size]; omega) (Nat.le_refl _)⟩
     obtain ⟨d0, d1⟩ := pair_cells hxb
     obtain ⟨f0, f1⟩ := pair_frozen hxb
     have SW : ∀ j, j < k → ((y5.setCell ⟨y1.heap.size, 0, none⟩ (.slice va nv vc)).setCell ⟨y1.heap.size, 1, none⟩ (.slice oa no oc)).cell? ⟨q, j * 2, none⟩ = some (.slice (cAt l j).va 4 (cAt l j).vc) ∧ ((y5.setCell ⟨y1.heap.size, 0, none⟩ (.slice va nv vc)).setCell ⟨y1.heap.size, 1, none⟩ (.slice oa no oc)).cell? ⟨q, j * 2 + 1, none⟩ = some (.slice (cAt l j).oa (cAt l j).no (cAt l j).oc) := HLn.out.cell
     refine rk 12 rfl (fun K hK => ?_)
     go_simp
     refine hK.out _ _ SW (fun hHeldB => ?_)
     clear hK K hHeldB d0 d1 f0 f1 SW hxb
     (try simp only [Act.put, u1, u2, u3])
     generalize (y5.setCell ⟨y1.heap.size, 0, none⟩ (.slice va nv vc)).setCell ⟨y1.heap.size, 1, none⟩ (.slice oa no oc) = zn at HNn HLn HCn ⊢
     have Szn : ∀ j, j < k → zn.cell? ⟨q, j * 2, none⟩ = some (.slice (cAt l j).va 4 (cAt l j).vc) ∧ zn.cell? ⟨q, j * 2 + 1, none⟩ = some (.slice (cAt l j).oa (cAt l j).no (cAt l j).oc) := HLn.out.cell
     refine wpAnyH_take (i := 13) (oi := ⟨some 14, .assign (.tmp 67), 2, "l04_carts.go:152", #[⟨10, .data⟩, ⟨12, .chain⟩, ⟨0, .phase⟩, ⟨1, .phase⟩, ⟨2, .phase⟩, ⟨3, .phase⟩, ⟨4, .phase⟩, ⟨5, .phase⟩, ⟨6, .phase⟩, ⟨7, .phase⟩, ⟨8, .phase⟩, ⟨9, .phase⟩, ⟨10, .phase⟩, ⟨11, .phase⟩, ⟨12, .phase⟩], none⟩) (v := ?_) rfl (by kernel_rfl) (by kernel_rfl) (by kernel_rfl) (fun _ _ _ h => h) (Or.inl ⟨by rfl, ?_⟩) (by assumption) ?_
     rotate_left
     ·intro w hSw
      clear hSw
      first | (go_simp; done) | (go_simp; with_reducible rfl)
     (try simp only [Act.put, u1, u2, u3])
     refine wpAnyH_done (by kernel_rfl) ?_ _
     clear Szn
     by_cases hcd : code = 0
     rotate_left
     ·have en : (code == 0) = false := by rw [beq_eq_false_iff_ne]; exact hcd
      clear hcd
      go_wp2
      go_roundw
      case rel => exact ⟨r - 1, l, by omega, by go_num, HLn⟩
      case measure => simp [intOf]; omega
     subst hcd
     obtain ⟨e4, hcn⟩ := HCn.out rfl
     subst e4
     have HLs := Lib.hid (HLn.out.set hik ⟨va, vc, oa, no, oc⟩ hcn)
     obtain ⟨x0, x1⟩ := pair_cells HNn.out
     obtain ⟨c0, c1⟩ := HLn.out.cell i hik
     have g0 := HLn.out.frozen (i * 2)
     have g1 := HLn.out.frozen (i * 2 + 1)
     clear hcn
     go_wp2
     go_roundw
     case rel => exact ⟨r - 1, l.set i ⟨va, vc, oa, no, oc⟩, by omega, by go_num, HLs⟩
     case measure => simp [intOf]; omega
   ·skip
    have hal : Below y0.heap.size y0 (y0.alloc (.cells #[.slice none 0 0, .slice none 0 0] 49)) := bl
    have hxn := boxAt (Below.refl _ (y0.alloc (.cells #[.slice none 0 0, .slice none 0 0] 49)))
    have HLA := Lib.hid (HLy0.out.below hal)
    have SA : ∀ j, j < k → (y0.alloc (.cells #[.slice none 0 0, .slice none 0 0] 49)).cell? ⟨q, j * 2, none⟩ = some (.slice (cAt l j).va 4 (cAt l j).vc) ∧ (y0.alloc (.cells #[.slice none 0 0, .slice none 0 0] 49)).cell? ⟨q, j * 2 + 1, none⟩ = some (.slice (cAt l j).oa (cAt l j).no (cAt l j).oc) := HLA.out.cell
    go_simp
    refine hK.out _ _ SA (fun hHeldA => ?_)
    clear hK K hHeldA
    (try simp only [Act.put, u1, u2, u3])
    generalize y0.alloc (.cells #[.slice none 0 0, .slice none 0 0] 49) = y6 at hal hxn HLA SA ⊢
    have Sy6 := SA
    clear SA Sy0
    have hxy6 := Lib.hid hxn
    have HLy6 := HLA
    have hsy6 : w2.heap.size ≤ y6.heap.size := Nat.le_trans hsy0 hal.size
    clear hxn HLA hal
    refine wpAnyH_ready (rs := [6]) (by kernel_rfl) (by simp) ?_
    refine (AllReadyH.cons rfl (fun K hK => ?_) AllReadyH.nil)
    go_simp
    go_at_call 65
    refine (rdCmd y6 B g a len cap HLy6.out.rd (by omega)).mono ?_
    rintro e y7 ⟨kind, item, qty, dv, sq, hi8, rfl, hgc, hrc⟩
    have HLy7 := Lib.hid (HLy6.out.step hgc hrc)
    have hsy7 : w2.heap.size ≤ y7.heap.size := Nat.le_trans hsy6 hgc.size
    have Sy7 : ∀ j, j < k → y7.cell? ⟨q, j * 2, none⟩ = some (.slice (cAt l j).va 4 (cAt l j).vc) ∧ y7.cell? ⟨q, j * 2 + 1, none⟩ = some (.slice (cAt l j).oa (cAt l j).no (cAt l j).oc) := HLy7.out.cell
    have hxy7 := Lib.hid ((hgc.block _ (Array.getElem?_eq_some_iff.1 hxy6.out).1 (by intro e; injection e with e; omega)).trans hxy6.out)
    refine hK.out _ _ Sy7 (fun hHeldC => ?_)
    clear hK K hHeldC hgc hrc Sy6
    (try simp only [Act.put, u1, u2, u3])
    refine wpAnyH_ready (rs := [7]) (by kernel_rfl) (by simp) ?_
    refine (AllReadyH.cons rfl (fun K hK => ?_) AllReadyH.nil)
    go_simp
    go_at_call 64
    refine (issueCrt y7 w.heap.size y7.heap.size (cAt l i) (i : Int) kind qty dv sq item (HLy7.out.row.crt i (by rw [HLy7.out.num]; exact hik)) (Nat.le_refl _) hi8).mono ?_
    rintro e y8 ⟨va, nv, vc, oa, no, oc, code, rfl, hbc, hcr0⟩
    have hcr : code = 0 → nv = 4 ∧ Crt y8 y7.heap.size y8.heap.size va vc oa no oc 400 := fun h => ⟨(hcr0 h).1, (hcr0 h).2.more (Nat.le_refl _) (Nat.le_refl _) (by omega)⟩
    clear hcr0
    have HLy8 := Lib.hid (HLy7.out.below hbc)
    have hsy8 : w2.heap.size ≤ y8.heap.size := Nat.le_trans hsy7 hbc.size
    have Sy8 : ∀ j, j < k → y8.cell? ⟨q, j * 2, none⟩ = some (.slice (cAt l j).va 4 (cAt l j).vc) ∧ y8.cell? ⟨q, j * 2 + 1, none⟩ = some (.slice (cAt l j).oa (cAt l j).no (cAt l j).oc) := HLy8.out.cell
    have hxy8 := Lib.hid ((hbc.block _ (Array.getElem?_eq_some_iff.1 hxy7.out).1).trans hxy7.out)
    have HCy8 : Hid (code = 0 → nv = 4 ∧ Crt y8 y7.heap.size y8.heap.size va vc oa no oc 400) := hcr
    have hpzy8 := hbc.size
    refine hK.out _ _ Sy8 (fun hHeldP => ?_)
    clear hK K hHeldP hbc hcr Sy7
    (try simp only [Act.put, u1, u2, u3])
    refine wpAnyH_take (i := 8) (oi := ⟨some 57, .move (.tmp 65), 110, "l04_carts.go:152", #[⟨7, .data⟩], none⟩) (v := ?_) rfl (by kernel_rfl) (by kernel_rfl) (by kernel_rfl) (fun _ _ _ h => h) (Or.inl ⟨by rfl, ?_⟩) (by assumption) ?_
    rotate_left
    ·intro w hSw
     clear hSw
     first | (go_simp; done) | (go_simp; with_reducible rfl)
    (try simp only [Act.put, u1, u2, u3])
    refine wpAnyH_take (i := 9) (oi := ⟨some 66, .extract (.tmp 57) 0, 49, "l04_carts.go:152", #[⟨8, .data⟩], none⟩) (v := ?_) rfl (by kernel_rfl) (by kernel_rfl) (by kernel_rfl) (fun _ _ _ h => h) (Or.inl ⟨by rfl, ?_⟩) (by assumption) ?_
    rotate_left
    ·intro w hSw
     clear hSw
     first | (go_simp; done) | (go_simp; with_reducible rfl)
    (try simp only [Act.put, u1, u2, u3])
    refine wpAnyH_take (i := 10) (oi := ⟨some 67, .extract (.tmp 57) 1, 2, "l04_carts.go:152", #[⟨8, .data⟩, { on := 12, ground := Ground.gcOnly Departure.lateStores }], none⟩) (v := ?_) rfl (by kernel_rfl) (by kernel_rfl) (by kernel_rfl) (fun _ _ _ h => h) (Or.inl ⟨by rfl, ?_⟩) (by assumption) ?_
    rotate_left
    ·intro w hSw
     clear hSw
     first | (go_simp; done) | (go_simp; with_reducible rfl)
    (try simp only [Act.put, u1, u2, u3])
    have hxb := hxy8.out
    have hbl := (Array.getElem?_eq_some_iff.1 hxb).1
    have HLn := Lib.hid (HLy8.out.box (.slice va nv vc) (.slice oa no oc) hxb (by omega) (by omega))
    have HNn := Lib.hid (pair_set (.slice va nv vc) (.slice oa no oc) hxb)
    have HCn : Hid (code = 0 → nv = 4 ∧ Crt ((y8.setCell ⟨y0.heap.size, 0, none⟩ (.slice va nv vc)).setCell ⟨y0.heap.size, 1, none⟩ (.slice oa no oc)) w.heap.size ((y8.setCell ⟨y0.heap.size, 0, none⟩ (.slice va nv vc)).setCell ⟨y0.heap.size, 1, none⟩ (.slice oa no oc)).heap.size va vc oa no oc 400) := fun h => ⟨(HCy8.out h).1, (Crt.other (HCy8.out h).2 hxb fun j _ _ hne => pair_other _ _ hne).more (by omega) (by rw [pair_size]; omega) (Nat.le_refl _)⟩
    obtain ⟨d0, d1⟩ := pair_cells hxb
    obtain ⟨f0, f1⟩ := pair_frozen hxb
    have SW : ∀ j, j < k → ((y8.setCell ⟨y0.heap.size, 0, none⟩ (.slice va nv vc)).setCell ⟨y0.heap.size, 1, none⟩ (.slice oa no oc)).cell? ⟨q, j * 2, none⟩ = some (.slice (cAt l j).va 4 (cAt l j).vc) ∧ ((y8.setCell ⟨y0.heap.size, 0, none⟩ (.slice va nv vc)).setCell ⟨y0.heap.size, 1, none⟩ (.slice oa no oc)).cell? ⟨q, j * 2 + 1, none⟩ = some (.slice (cAt l j).oa (cAt l j).no (cAt l j).oc) := HLn.out.cell
    refine rk 12 rfl (fun K hK => ?_)
    go_simp
    refine hK.out _ _ SW (fun hHeldB => ?_)
    clear hK K hHeldB d0 d1 f0 f1 SW hxb
    (try simp only [Act.put, u1, u2, u3])
    generalize (y8.setCell ⟨y0.heap.size, 0, none⟩ (.slice va nv vc)).setCell ⟨y0.heap.size, 1, none⟩ (.slice oa no oc) = zn at HNn HLn HCn ⊢
    have Szn : ∀ j, j < k → zn.cell? ⟨q, j * 2, none⟩ = some (.slice (cAt l j).va 4 (cAt l j).vc) ∧ zn.cell? ⟨q, j * 2 + 1, none⟩ = some (.slice (cAt l j).oa (cAt l j).no (cAt l j).oc) := HLn.out.cell
    refine wpAnyH_take (i := 13) (oi := ⟨some 14, .assign (.tmp 67), 2, "l04_carts.go:152", #[⟨10, .data⟩, ⟨12, .chain⟩, ⟨0, .phase⟩, ⟨1, .phase⟩, ⟨2, .phase⟩, ⟨3, .phase⟩, ⟨4, .phase⟩, ⟨5, .phase⟩, ⟨6, .phase⟩, ⟨7, .phase⟩, ⟨8, .phase⟩, ⟨9, .phase⟩, ⟨10, .phase⟩, ⟨11, .phase⟩, ⟨12, .phase⟩], none⟩) (v := ?_) rfl (by kernel_rfl) (by kernel_rfl) (by kernel_rfl) (fun _ _ _ h => h) (Or.inl ⟨by rfl, ?_⟩) (by assumption) ?_
    rotate_left
    ·intro w hSw
     clear hSw
     first | (go_simp; done) | (go_simp; with_reducible rfl)
    (try simp only [Act.put, u1, u2, u3])
    refine wpAnyH_done (by kernel_rfl) ?_ _
    clear Szn
    by_cases hcd : code = 0
    rotate_left
    ·have en : (code == 0) = false := by rw [beq_eq_false_iff_ne]; exact hcd
     clear hcd
     go_wp2
     go_roundw
     case rel => exact ⟨r - 1, l, by omega, by go_num, HLn⟩
     case measure => simp [intOf]; omega
    subst hcd
    obtain ⟨e4, hcn⟩ := HCn.out rfl
    subst e4
    have HLs := Lib.hid (HLn.out.set hik ⟨va, vc, oa, no, oc⟩ hcn)
    obtain ⟨x0, x1⟩ := pair_cells HNn.out
    obtain ⟨c0, c1⟩ := HLn.out.cell i hik
    have g0 := HLn.out.frozen (i * 2)
    have g1 := HLn.out.frozen (i * 2 + 1)
    clear hcn
    go_wp2
    go_roundw
    case rel => exact ⟨r - 1, l.set i ⟨va, vc, oa, no, oc⟩, by omega, by go_num, HLs⟩
    case measure => simp [intOf]; omega
end Go.Proofs.YtgagchlcafdiaaaGreat
