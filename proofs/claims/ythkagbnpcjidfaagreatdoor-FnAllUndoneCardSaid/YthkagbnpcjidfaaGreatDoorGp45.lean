/- Walks and mathematics that several claims share, part 45. -/
import Derived.Test.YthkagbnpcjidfaaGreatDoorGp42
import Derived.Test.YthkagbnpcjidfaaGreatDoorGp43
import Derived.Test.YthkagbnpcjidfaaGreatDoorGp44
import Derived.Deep.Cut
namespace Go.Proofs.YthkagbnpcjidfaaGreatDoor
set_option maxRecDepth 100000
open Go.RowKit
set_option linter.unusedVariables false
set_option linter.unusedSimpArgs false
def aOb (w : World) (e : Ending) (w' : World) : Prop :=
 ∃ va nv vc oa no oc ok, e = .returned (.tuple #[.agg #[.slice va nv vc, .slice oa no oc], .bool ok]) ∧ Below w.heap.size w w' ∧ (ok = true → nv = 4 ∧ fP w' w.heap.size w'.heap.size va vc oa no oc 400)
theorem Q3 (w : World) (lo1 hi1 lo2 hi2 : Nat) (x y : cB) (hx : tY w lo1 hi1 x) (hy : tY w lo2 hi2 y) (h1 : hi1 ≤ w.heap.size) (h2 : hi2 ≤ w.heap.size) :
  Calls Tryz.prog 105 #[.agg #[.slice x.va 4 x.vc, .slice x.oa x.no x.oc], .agg #[.slice y.va 4 y.vc, .slice y.oa y.no y.oc]] w (aOb w) := by
 obtain ⟨xs, l, e1, a1, a2, a3, a4, a5⟩ := hx
 obtain ⟨ys, m, e2, b1, b2, b3, b4, b5⟩ := hy
 rw [e1, e2]
 have n1 := a5.most
 have n2 := b5.most
 refine (aDL w w.heap.size x.va x.oa y.va y.oa 4 x.vc l.length x.oc 4 y.vc m.length y.oc xs l ys m (a1.ints.more h1) (a2.ops.more h1) (b1.ints.more h2) (b2.ops.more h2) aPw (by omega) (by omega) (fun i hi => Nat.le_trans (a5.item i hi) (by omega)) (by omega) (by omega) (fun i hi => Nat.le_trans (b5.item i hi) (by omega))).mono ?_
 rintro e w' ⟨va, vc, oa, oc, rfl, o1, o2, hb, c1, c2⟩
 refine ⟨va, _, vc, oa, _, oc, _, rfl, hb, fun hR => ?_⟩
 have hp : aD xs l = true ∧ aD ys m = true ∧ qP l m = true := by
  unfold kQ at hR; rw [Bool.and_eq_true, Bool.and_eq_true] at hR; exact hR
 have hc := sN.of_cart (i8 hp.1 hp.2.1 hp.2.2)
 rw [hR] at o1 o2 c1 c2 ⊢
 have hl : (uO xs ys true).length = 4 := hc.len
 rw [hl] at o1 c1
 exact ⟨hl, uO xs ys true, yH xs ys l m true, rfl, o1, o2, c1, c2, sN.more hc (by omega)⟩
theorem o8 (w : World) (lo hi1 : Nat) (x : cB) (dev kind qty dv sq : Int) (item : ByteArray) (hx : tY w lo hi1 x) (h1 : hi1 ≤ w.heap.size) (hi : item.size ≤ 8) :
  Calls Tryz.prog 18 #[.agg #[.slice x.va 4 x.vc, .slice x.oa x.no x.oc], .int .i64 dev, .agg #[.int .i64 kind, .string item, .int .i64 qty, .int .i64 dv, .int .i64 sq]] w (aIN 320 w) := by
 obtain ⟨xs, l, e1, a1, a2, a3, a4, a5⟩ := hx
 rw [e1]
 have n1 := a5.most
 exact aFY w w.heap.size x.va x.oa x.vc l.length x.oc xs l kind qty dv sq item (a1.ints.more h1) (a2.ops.more h1) aPw a3 a4 hi dev (fun i hi => Nat.le_trans (a5.item i hi) (by omega)) (by omega)
theorem grown_of {w w' : World} {g : Nat} (h : Below w.heap.size w w') : w.grownBy w' (some g) := ⟨h.os, h.tape, h.output, h.size, fun k hk _ => h.block k hk⟩
theorem J5 {w w' : World} (h : Below w.heap.size w w') : w.grownBy w' none := ⟨h.os, h.tape, h.output, h.size, fun k hk _ => h.block k hk⟩
structure mH (w wr : World) (B g : Nat) (a : Option Addr) (len cap q : Nat) (l : List cB) (n : Nat) : Prop where
 num : l.length = n
 row : aMY wr w.heap.size q l
 grown : w.grownBy wr (some g)
 rd : Rd wr B g a len cap
 glt : g < w.heap.size
theorem mH.qlt {w wr : World} {B g : Nat} {a : Option Addr} {len cap q : Nat} {l : List cB} {n : Nat} (h : mH w wr B g a len cap q l n) : q < wr.heap.size := by
 obtain ⟨cs, hq, _⟩ := h.row.cells
 exact (aPv hq).1
theorem mH.step {w wr w1 : World} {B g : Nat} {a : Option Addr} {len cap q : Nat} {l : List cB} {n : Nat} (h : mH w wr B g a len cap q l n) (hg : wr.grownBy w1 (some g)) (hr : Rd w1 B g a len cap) : mH w w1 B g a len cap q l n := by
 have tJ := h.glt
 have iQ := h.row.lo
 have hq := h.qlt
 have hs := hg.size
 have hk : ∀ j, j < wr.heap.size → j ≠ g → w1.heap[j]? = wr.heap[j]? := fun j h1 h2 => hg.block j h1 (by intro e; injection e with e; exact h2 e)
 obtain ⟨cs, hqc, hc⟩ := h.row.cells
 exact ⟨h.num, ⟨iQ, ⟨cs, (hk q hq (by omega)).trans hqc, hc⟩, fun i hi => (fP.kept (h.row.crt i hi) fun j h1 h2 => hk j h2 (by omega)).more aPw hs aPw⟩, h.grown.trans hg, hr, tJ⟩
theorem mH.below {w wr w1 : World} {B g : Nat} {a : Option Addr} {len cap q : Nat} {l : List cB} {n : Nat} (h : mH w wr B g a len cap q l n) (hb : Below wr.heap.size wr w1) : mH w w1 B g a len cap q l n :=
 h.step (grown_of hb) (h.rd.grown (J5 hb) fun k hk => by cases hk)
theorem mH.box {w z : World} {B g b : Nat} {a : Option Addr} {len cap q : Nat} {l : List cB} {n : Nat} {cs : Array Value} (u v : Value) (h : mH w z B g a len cap q l n) (hb : z.heap[b]? = some (.cells cs 27 (0, 0))) (hbw : w.heap.size ≤ b) (d8 : b ≠ q) : mH w ((z.setCell ⟨b, 0, none⟩ u).setCell ⟨b, 1, none⟩ v) B g a len cap q l n := by
 have tJ := h.glt
 have hB := h.rd.own
 have hz := aZ z b u v
 have hk : ∀ j, j ≠ b → ((z.setCell ⟨b, 0, none⟩ u).setCell ⟨b, 1, none⟩ v).heap[j]? = z.heap[j]? := fun j hj => aF _ _ hj
 obtain ⟨cs', hqc, hc⟩ := h.row.cells
 have jM := h.grown
 refine ⟨h.num, ⟨h.row.lo, ⟨cs', (hk q (fun e => d8 e.symm)).trans hqc, hc⟩, fun i hi => ?_⟩, ⟨jM.os, jM.tape, jM.output, by rw [hz]; exact jM.size, fun k h1 h2 => (hk k (by omega)).trans (jM.block k h1 h2)⟩, h.rd.kept fun k mY => hk k (by omega), tJ⟩
 rw [hz]
 exact fP.other (h.row.crt i hi) hb fun j _ _ bJ => hk j bJ
theorem mH.set {w z : World} {B g : Nat} {a : Option Addr} {len cap q : Nat} {l : List cB} {n : Nat} (h : mH w z B g a len cap q l n) {k : Nat} (hk : k < n) (x : cB) (hx : tY z w.heap.size z.heap.size x) : mH w ((z.setCell ⟨q, k * 2, none⟩ (.slice x.va 4 x.vc)).setCell ⟨q, k * 2 + 1, none⟩ (.slice x.oa x.no x.oc)) B g a len cap q (l.set k x) n := by
 have tJ := h.glt
 have hB := h.rd.own
 have iQ := h.row.lo
 have aNQ := h.num
 have hz : ((z.setCell ⟨q, k * 2, none⟩ (.slice x.va 4 x.vc)).setCell ⟨q, k * 2 + 1, none⟩ (.slice x.oa x.no x.oc)).heap.size = z.heap.size := by simp [World.setCell]
 have hkk : ∀ j, j ≠ q → ((z.setCell ⟨q, k * 2, none⟩ (.slice x.va 4 x.vc)).setCell ⟨q, k * 2 + 1, none⟩ (.slice x.oa x.no x.oc)).heap[j]? = z.heap[j]? := fun j hj => (heap_setCell_other _ _ _ _ hj).trans (heap_setCell_other _ _ _ _ hj)
 obtain ⟨cs, hqc, hc⟩ := h.row.cells
 have jM := h.grown
 have h1 := heap_setCell_same _ _ (k * 2) _ _ (.slice x.va 4 x.vc) hqc
 have h2 := heap_setCell_same _ _ (k * 2 + 1) _ _ (.slice x.oa x.no x.oc) h1
 refine ⟨by rw [List.length_set]; exact aNQ, ⟨iQ, ⟨_, h2, fun i hi => ?_⟩, fun i hi => ?_⟩, ⟨jM.os, jM.tape, jM.output, by rw [hz]; exact jM.size, fun j a1 a2 => (hkk j (by omega)).trans (jM.block j a1 a2)⟩, h.rd.kept fun j hj => hkk j (by omega), tJ⟩
 ·rw [List.length_set] at hi
  obtain ⟨c0, c1⟩ := hc i hi; obtain ⟨k0, k1⟩ := hc k (by omega)
  have z0 := (aPv k0).1; have z1 := (aPv k1).1; rw [aEx (by omega)]
  by_cases e : k = i
  ·subst e
   rw [if_pos rfl]; refine ⟨?_, ?_⟩
   ·rw [Array.getElem?_setIfInBounds, if_neg (by omega), Array.getElem?_setIfInBounds, if_pos rfl, if_pos z0]
   ·rw [Array.getElem?_setIfInBounds, if_pos rfl, if_pos (by simpa using z1)]
  ·rw [if_neg e]
   refine ⟨?_, ?_⟩
   ·rw [Array.getElem?_setIfInBounds, if_neg (by omega), Array.getElem?_setIfInBounds, if_neg (by omega)]
    exact c0
   ·rw [Array.getElem?_setIfInBounds, if_neg (by omega), Array.getElem?_setIfInBounds, if_neg (by omega)]
    exact c1
 ·rw [List.length_set] at hi
  rw [hz, aEx (by omega)]
  split
  ·exact fP.other hx hqc fun j _ _ bJ => hkk j bJ
  ·exact fP.other (h.row.crt i hi) hqc fun j _ _ bJ => hkk j bJ
theorem mH.cell {w wr : World} {B g : Nat} {a : Option Addr} {len cap q : Nat} {l : List cB} {n : Nat} (h : mH w wr B g a len cap q l n) : ∀ i, i < n → wr.cell? ⟨q, i * 2, none⟩ = some (.slice (aI l i).va 4 (aI l i).vc) ∧ wr.cell? ⟨q, i * 2 + 1, none⟩ = some (.slice (aI l i).oa (aI l i).no (aI l i).oc) := fun i hi => by
 obtain ⟨cs, hq, hc⟩ := h.row.cells
 obtain ⟨c0, c1⟩ := hc i (by rw [h.num]; exact hi)
 exact ⟨(aPx hq).trans c0, (aPx hq).trans c1⟩
theorem mH.frozen {w wr : World} {B g : Nat} {a : Option Addr} {len cap q : Nat} {l : List cB} {n : Nat} (h : mH w wr B g a len cap q l n) (i : Nat) : wr.frozen? ⟨q, i, none⟩ = false := by
 obtain ⟨cs, hq, hc⟩ := h.row.cells
 exact aPy hq
def j2 (n : Nat) (w : World) (B g : Nat) (a : Option Addr) (len cap : Nat) (e : Ending) (w' : World) : Prop :=
 ∃ q c l, e = .returned (.slice (some ⟨q, 0, none⟩) n c) ∧ mH w w' B g a len cap q l n
set_option maxHeartbeats 80000000 in
theorem aJN (w : World) (B g : Nat) (a : Option Addr) (len cap : Nat) (h : Rd w B g a len cap) (n most : Nat) (hn : 0 < n) (hn4 : n ≤ 4) (hm : most ≤ 60) :
  Calls Tryz.prog 75 #[.pointer (some ⟨g, 0, none⟩), .int .i64 (n : Int), .int .i64 (most : Int)] w (j2 n w B g a len cap) := by
 have tJ := h.lt
 have hBg := h.own
 have V3 := aPu h
 have bC : Below w.heap.size w (w.alloc (.cells #[] 27)) := (Below.refl _ w).alloc aPw _
 have HI0 : Hid (D6 (w.alloc (.cells #[] 27)) w.heap.size (.slice (some ⟨w.heap.size, 0, none⟩) 0 0) []) := ⟨World.ownsRow_made w #[] 0 aPw (by unfold maxLen; omega) rfl, fun i hi => absurd hi (by simp)⟩
 have tX := aPu bC
 clear h bC
 go_enter Tryz.func75, Tryz.ntmps75
 go_wp2
 go_loopw [7, 8] (fun v i wr => ∃ (k : Nat) (vv : Value) (l : List cB), k ≤ n ∧ vv = v ∧ i = .int .i64 (k : Int) ∧ l.length = k ∧ Hid (D6 wr w.heap.size vv l) ∧ Hid (Below w.heap.size w wr)) (fun _ i _ => n - (intOf i).toNat)
 case atStart => exact ⟨0, _, [], Nat.zero_le _, rfl, rfl, rfl, HI0.out, tX.out⟩
 case round =>
  obtain ⟨k, vv, l, hk, hvv, rfl, hl, HI, HB⟩ := hrel; subst hvv; have hsr := HB.out.size
  by_cases aK : k < n
  ·have hki : (k : Int) < (n : Int) := by omega
   go_wp2_with fail
   refine (aDM wr).mono ?_
   rintro e w1 ⟨q, rfl, aLt, aE⟩; have dU := aPu (HI.out.below aE); have cX := aPu (HB.out.trans (aE.mono hsr)); have dZ := aE.size; obtain ⟨va, vc, w2, hrun, hI2, aG⟩ := dU.out.push (by omega) (by omega) ⟨some ⟨q, 0, none⟩, 4, none, 0, 0⟩ (fP.more aLt hsr aPw aPw)
   have sL := aPu hI2; have bP := aPu (cX.out.trans aG); rw [hl] at hrun sL; clear aE aLt hI2 aG
   go_wp2_with (at_builtin; refine dB rfl _ _ _ rfl _ _ rfl rfl hrun ?_)
   clear hrun; go_wp2
   go_roundw
   case rel => exact ⟨k + 1, _, l ++ [⟨some ⟨q, 0, none⟩, 4, none, 0, 0⟩], by omega, rfl, by go_num, by simp [hl], sL, bP⟩
   case measure => simp [intOf]; omega
  obtain rfl : k = n := by omega
  obtain ⟨q, c, rfl, hR⟩ := HI.out.form (by omega)
  rw [hl]; have HL : Hid (mH w wr B g a len cap q l k) := ⟨hl, hR, i6 HB.out, V3.out.kept fun j hj => HB.out.block j (by omega), tJ⟩
  clear hR aK hk; have hk0 : 0 ≤ (k : Int) := by omega
  have hmi : 0 ≤ (most : Int) := by omega
  have aOW : (most : Int) ≤ 60 := by omega
  go_wp2_with fail
  refine (kY wr B g a len cap HL.out.rd ((most : Int) + 1) (by omega) (by omega)).mono ?_
  rintro e w1 ⟨r, hr, rfl, bY, cV⟩; have HL1 := aPu (HL.out.step bY cV); have aIb : r ≤ 60 := by omega
  clear bY cV HL HI HB hr HI0 tX V3; go_wp2
  go_loopw [9] (fun i ws => ∃ (r : Nat) (l : List cB), r ≤ 60 ∧ i = .int .i64 (r : Int) ∧ Hid (mH w ws B g a len cap q l k)) (fun i _ => (intOf i).toNat)
  case atStart => exact ⟨r, l, aIb, rfl, HL1.out⟩
  case round =>
   clear aIb HL1 hl; obtain ⟨r, l, aIb, rfl, HL⟩ := hrel
   by_cases nO : 0 < r
   rotate_left
   ·obtain rfl : r = 0 := by omega
    have HE := HL; go_wp2
    go_ret
    exact ⟨q, c, l, rfl, HE.out⟩
   have hri : (0 : Int) < (r : Int) := by omega
   have hqw := HL.out.row.lo
   go_wp2_with fail
   refine (below wr B g a len cap HL.out.rd k hn (by omega)).mono ?_
   rintro e w1 ⟨i, oL, rfl, bY, cV⟩; have HL1 := aPu (HL.out.step bY cV); clear bY cV HL
   go_wp2_with fail
   refine (aAQ w1 B g a len cap HL1.out.rd 3 (by omega) (by omega)).mono ?_
   rintro e w2 ⟨o1, rfl, eC, dN⟩; have HL2 := aPu (HL1.out.step eC dN); clear eC dN HL1; have hii : (i : Int) < (k : Int) := by omega
   have hi0 : decide ((i : Int) < 0) = false := decide_eq_false (by omega)
   have aPa : ¬ ((i : Int) < 0) := by omega
   have wN := HL2.out.qlt; cases o1
   rotate_left
   ·skip
    go_upto_region 11 with fail
    obtain ⟨y0, tB⟩ : ∃ y0, w2.drew = y0 := ⟨_, rfl⟩; have sA : Below w2.heap.size w2 y0 := by rw [← tB]; exact ⟨rfl, rfl, rfl, Nat.le_refl _, fun _ _ => rfl⟩
    have L7 := aPu (HL2.out.below sA); have aCX := sA.size; have Sy0 : ∀ j, j < k → y0.cell? ⟨q, j * 2, none⟩ = some (.slice (aI l j).va 4 (aI l j).vc) ∧ y0.cell? ⟨q, j * 2 + 1, none⟩ = some (.slice (aI l j).oa (aI l j).no (aI l j).oc) := L7.out.cell; refine wp_region_held_drew (S := fun w' => ∀ j, j < k → w'.cell? ⟨q, j * 2, none⟩ = some (.slice (aI l j).va 4 (aI l j).vc) ∧ w'.cell? ⟨q, j * 2 + 1, none⟩ = some (.slice (aI l j).oa (aI l j).no (aI l j).oc)) (by kernel_rfl) (by rw [tB]; exact Sy0) (fun aP => ?_)
    rw [tB]; clear aP tB sA; refine wpAnyH_take (i := 0) (oi := ⟨some 39, .move (.tmp 7), 111, "l04_carts.go:146", #[], none⟩) (v := ?_) rfl (by kernel_rfl) (by kernel_rfl) (by kernel_rfl) (fun _ _ _ h => h) (Or.inl ⟨by rfl, ?_⟩) (by assumption) ?_
    rotate_left
    ·intro w hSw
     clear hSw
     first | (go_simp; done) | (go_simp; with_reducible rfl)
    (try simp only [Act.put, u1, u2, u3])
    refine wpAnyH_take (i := 1) (oi := ⟨some 40, .move (.tmp 10), 3, "l04_carts.go:146", #[], none⟩) (v := ?_) rfl (by kernel_rfl) (by kernel_rfl) (by kernel_rfl) (fun _ _ _ h => h) (Or.inl ⟨by rfl, ?_⟩) (by assumption) ?_
    rotate_left
    ·intro w hSw
     clear hSw
     first | (go_simp; done) | (go_simp; with_reducible rfl)
    (try simp only [Act.put, u1, u2, u3])
    refine wpAnyH_take (i := 2) (oi := ⟨some 41, .indexAddr 111 (.tmp 39) (.tmp 40), 0, "l04_carts.go:146", #[⟨0, .data⟩, ⟨1, .data⟩], none⟩) (v := ?_) rfl (by kernel_rfl) (by kernel_rfl) (by kernel_rfl) (fun _ _ _ h => h) (Or.inl ⟨by rfl, ?_⟩) (by assumption) ?_
    rotate_left
    ·intro w hSw
     clear hSw
     first | (go_simp; done) | (go_simp; with_reducible rfl)
    (try simp only [Act.put, u1, u2, u3])
    refine wpAnyH_take (i := 3) (oi := ⟨some 42, .load 27 (.tmp 41), 27, "l04_carts.go:146", #[⟨2, .data⟩], none⟩) (v := ?_) rfl (by kernel_rfl) (by kernel_rfl) (by kernel_rfl) (fun _ _ _ h => h) (Or.inl ⟨by rfl, ?_⟩) (by assumption) ?_
    rotate_left
    ·intro w hSw
     obtain ⟨c0, c1⟩ := hSw i oL; clear hSw
     first | (go_simp; done) | (go_simp; with_reducible rfl)
    (try simp only [Act.put, u1, u2, u3])
    refine wpAnyH_take (i := 4) (oi := ⟨some 43, .move (.tmp 7), 111, "l04_carts.go:146", #[], none⟩) (v := ?_) rfl (by kernel_rfl) (by kernel_rfl) (by kernel_rfl) (fun _ _ _ h => h) (Or.inl ⟨by rfl, ?_⟩) (by assumption) ?_
    rotate_left
    ·intro w hSw
     clear hSw
     first | (go_simp; done) | (go_simp; with_reducible rfl)
    (try simp only [Act.put, u1, u2, u3])
    refine wpAnyH_take (i := 5) (oi := ⟨some 44, .move (.tmp 0), 57, "l04_carts.go:146", #[], none⟩) (v := ?_) rfl (by kernel_rfl) (by kernel_rfl) (by kernel_rfl) (fun _ _ _ h => h) (Or.inl ⟨by rfl, ?_⟩) (by assumption) ?_
    rotate_left
    ·intro w hSw
     clear hSw
     first | (go_simp; done) | (go_simp; with_reducible rfl)
    (try simp only [Act.put, u1, u2, u3])
    refine wpAnyH_take (i := 6) (oi := ⟨some 45, .move (.tmp 1), 3, "l04_carts.go:146", #[], none⟩) (v := ?_) rfl (by kernel_rfl) (by kernel_rfl) (by kernel_rfl) (fun _ _ _ h => h) (Or.inl ⟨by rfl, ?_⟩) (by assumption) ?_
    rotate_left
    ·intro w hSw
     clear hSw
     first | (go_simp; done) | (go_simp; with_reducible rfl)
    (try simp only [Act.put, u1, u2, u3])
    refine wpAnyH_ready (rs := [7, 14]) (by kernel_rfl) (by simp) ?_
    refine (AllReadyH.cons rfl (fun K hK => ?_) (AllReadyH.cons rfl (fun K hK => ?_) AllReadyH.nil))
    ·skip
     go_simp
     go_at_call 76
     refine (below y0 B g a len cap L7.out.rd k hn (by omega)).mono ?_
     rintro e y1 ⟨j, hjk, rfl, vK, yN⟩; have hji : (j : Int) < (k : Int) := by omega
     have hj0 : decide ((j : Int) < 0) = false := decide_eq_false (by omega)
     have p6 : ¬ ((j : Int) < 0) := by omega
     have uV := aPu (L7.out.step vK yN); have aCW : w2.heap.size ≤ y1.heap.size := Nat.le_trans aCX vK.size; have Sy1 : ∀ j, j < k → y1.cell? ⟨q, j * 2, none⟩ = some (.slice (aI l j).va 4 (aI l j).vc) ∧ y1.cell? ⟨q, j * 2 + 1, none⟩ = some (.slice (aI l j).oa (aI l j).no (aI l j).oc) := uV.out.cell; refine hK.out _ _ Sy1 (fun pN => ?_)
     clear hK K pN vK yN Sy0
     (try simp only [Act.put, u1, u2, u3])
     refine wpAnyH_take (i := 8) (oi := ⟨some 47, .indexAddr 111 (.tmp 43) (.tmp 46), 0, "l04_carts.go:146", #[⟨4, .data⟩, ⟨7, .data⟩], none⟩) (v := ?_) rfl (by kernel_rfl) (by kernel_rfl) (by kernel_rfl) (fun _ _ _ h => h) (Or.inl ⟨by rfl, ?_⟩) (by assumption) ?_
     rotate_left
     ·intro w hSw
      clear hSw
      first | (go_simp; done) | (go_simp; with_reducible rfl)
     (try simp only [Act.put, u1, u2, u3])
     refine wpAnyH_take (i := 9) (oi := ⟨some 48, .load 27 (.tmp 47), 27, "l04_carts.go:146", #[⟨8, .data⟩], none⟩) (v := ?_) rfl (by kernel_rfl) (by kernel_rfl) (by kernel_rfl) (fun _ _ _ h => h) (Or.inl ⟨by rfl, ?_⟩) (by assumption) ?_
     rotate_left
     ·intro w hSw
      obtain ⟨c0, c1⟩ := hSw j hjk; clear hSw
      first | (go_simp; done) | (go_simp; with_reducible rfl)
     (try simp only [Act.put, u1, u2, u3])
     refine wpAnyH_ready (rs := [10, 14]) (by kernel_rfl) (by simp) ?_
     refine (AllReadyH.cons rfl (fun K hK => ?_) (AllReadyH.cons rfl (fun K hK => ?_) AllReadyH.nil))
     ·skip
      go_simp
      go_at_call 105
      refine (Q3 y1 w.heap.size y1.heap.size w.heap.size y1.heap.size (aI l i) (aI l j) (uV.out.row.crt i (by rw [uV.out.num]; exact oL)) (uV.out.row.crt j (by rw [uV.out.num]; exact hjk)) aPw aPw).mono ?_
      rintro e y2 ⟨va, nv, vc, oa, no, oc, ok, rfl, eJ, jN⟩; have aDE := aPu (uV.out.below eJ); have aH9 : w2.heap.size ≤ y2.heap.size := Nat.le_trans aCW eJ.size; have Sy2 : ∀ j, j < k → y2.cell? ⟨q, j * 2, none⟩ = some (.slice (aI l j).va 4 (aI l j).vc) ∧ y2.cell? ⟨q, j * 2 + 1, none⟩ = some (.slice (aI l j).oa (aI l j).no (aI l j).oc) := aDE.out.cell; have aDI : Hid (ok = true → nv = 4 ∧ fP y2 y1.heap.size y2.heap.size va vc oa no oc 400) := jN; have aM6 := eJ.size; refine hK.out _ _ Sy2 (fun jP => ?_)
      clear hK K jP eJ jN Sy1
      (try simp only [Act.put, u1, u2, u3])
      refine wpAnyH_take (i := 11) (oi := ⟨some 38, .move (.tmp 49), 132, "l04_carts.go:146", #[⟨10, .data⟩], none⟩) (v := ?_) rfl (by kernel_rfl) (by kernel_rfl) (by kernel_rfl) (fun _ _ _ h => h) (Or.inl ⟨by rfl, ?_⟩) (by assumption) ?_
      rotate_left
      ·intro w hSw
       clear hSw
       first | (go_simp; done) | (go_simp; with_reducible rfl)
      (try simp only [Act.put, u1, u2, u3])
      refine wpAnyH_take (i := 12) (oi := ⟨some 50, .extract (.tmp 38) 0, 27, "l04_carts.go:146", #[⟨11, .data⟩], none⟩) (v := ?_) rfl (by kernel_rfl) (by kernel_rfl) (by kernel_rfl) (fun _ _ _ h => h) (Or.inl ⟨by rfl, ?_⟩) (by assumption) ?_
      rotate_left
      ·intro w hSw
       clear hSw
       first | (go_simp; done) | (go_simp; with_reducible rfl)
      (try simp only [Act.put, u1, u2, u3])
      refine wpAnyH_take (i := 13) (oi := ⟨some 51, .extract (.tmp 38) 1, 4, "l04_carts.go:146", #[⟨11, .data⟩, { on := 15, ground := Ground.gcOnly Departure.lateStores }], none⟩) (v := ?_) rfl (by kernel_rfl) (by kernel_rfl) (by kernel_rfl) (fun _ _ _ h => h) (Or.inl ⟨by rfl, ?_⟩) (by assumption) ?_
      rotate_left
      ·intro w hSw
       clear hSw
       first | (go_simp; done) | (go_simp; with_reducible rfl)
      (try simp only [Act.put, u1, u2, u3])
      refine wpAnyH_ready (rs := [14]) (by kernel_rfl) (by simp) ?_
      refine (AllReadyH.cons rfl (fun K hK => ?_) AllReadyH.nil)
      have dL : Below y2.heap.size y2 (y2.alloc (.cells #[.slice none 0 0, .slice none 0 0] 27)) := bl; have jE := bE (Below.refl _ (y2.alloc (.cells #[.slice none 0 0, .slice none 0 0] 27))); have lX := aPu (aDE.out.below dL); have SA : ∀ j, j < k → (y2.alloc (.cells #[.slice none 0 0, .slice none 0 0] 27)).cell? ⟨q, j * 2, none⟩ = some (.slice (aI l j).va 4 (aI l j).vc) ∧ (y2.alloc (.cells #[.slice none 0 0, .slice none 0 0] 27)).cell? ⟨q, j * 2 + 1, none⟩ = some (.slice (aI l j).oa (aI l j).no (aI l j).oc) := lX.out.cell
      go_simp
      refine hK.out _ _ SA (fun jR => ?_)
      clear hK K jR
      (try simp only [Act.put, u1, u2, u3])
      generalize y2.alloc (.cells #[.slice none 0 0, .slice none 0 0] 27) = y3 at dL jE lX SA ⊢; have Sy3 := SA; clear SA Sy2; have o9 := aPu jE; have aJc := lX; have aNF : w2.heap.size ≤ y3.heap.size := Nat.le_trans aH9 dL.size; have aDH : Hid (ok = true → nv = 4 ∧ fP y3 y1.heap.size y2.heap.size va vc oa no oc 400) := fun h => ⟨(aDI.out h).1, (aDI.out h).2.below dL (by omega)⟩
      clear jE lX dL; have fU := o9.out; have hbl := (aPv fU).1; have dO := aPu (aJc.out.box (.slice va nv vc) (.slice oa no oc) fU (by omega) (by omega))
      have lW := aPu (cF (.slice va nv vc) (.slice oa no oc) fU); have tW : Hid (ok = true → nv = 4 ∧ fP ((y3.setCell ⟨y2.heap.size, 0, none⟩ (.slice va nv vc)).setCell ⟨y2.heap.size, 1, none⟩ (.slice oa no oc)) w.heap.size ((y3.setCell ⟨y2.heap.size, 0, none⟩ (.slice va nv vc)).setCell ⟨y2.heap.size, 1, none⟩ (.slice oa no oc)).heap.size va vc oa no oc 400) := fun h => ⟨(aDH.out h).1, (fP.other (aDH.out h).2 fU fun j _ _ bJ => aF _ _ bJ).more (by omega) (by rw [aZ]; omega) aPw⟩
      obtain ⟨d0, d1⟩ := pair_cells fU; obtain ⟨f0, f1⟩ := aC fU; have SW : ∀ j, j < k → ((y3.setCell ⟨y2.heap.size, 0, none⟩ (.slice va nv vc)).setCell ⟨y2.heap.size, 1, none⟩ (.slice oa no oc)).cell? ⟨q, j * 2, none⟩ = some (.slice (aI l j).va 4 (aI l j).vc) ∧ ((y3.setCell ⟨y2.heap.size, 0, none⟩ (.slice va nv vc)).setCell ⟨y2.heap.size, 1, none⟩ (.slice oa no oc)).cell? ⟨q, j * 2 + 1, none⟩ = some (.slice (aI l j).oa (aI l j).no (aI l j).oc) := dO.out.cell; refine rk 15 rfl (fun K hK => ?_)
      go_simp
      refine hK.out _ _ SW (fun jQ => ?_)
      clear hK K jQ d0 d1 f0 f1 SW fU
      (try simp only [Act.put, u1, u2, u3])
      generalize (y3.setCell ⟨y2.heap.size, 0, none⟩ (.slice va nv vc)).setCell ⟨y2.heap.size, 1, none⟩ (.slice oa no oc) = zn at lW dO tW ⊢; have B6 : ∀ j, j < k → zn.cell? ⟨q, j * 2, none⟩ = some (.slice (aI l j).va 4 (aI l j).vc) ∧ zn.cell? ⟨q, j * 2 + 1, none⟩ = some (.slice (aI l j).oa (aI l j).no (aI l j).oc) := dO.out.cell; refine wpAnyH_take (i := 16) (oi := ⟨some 12, .assign (.tmp 51), 4, "l04_carts.go:146", #[⟨13, .data⟩, ⟨15, .chain⟩, ⟨0, .phase⟩, ⟨1, .phase⟩, ⟨2, .phase⟩, ⟨3, .phase⟩, ⟨4, .phase⟩, ⟨5, .phase⟩, ⟨6, .phase⟩, ⟨7, .phase⟩, ⟨8, .phase⟩, ⟨9, .phase⟩, ⟨10, .phase⟩, ⟨11, .phase⟩, ⟨12, .phase⟩, ⟨13, .phase⟩, ⟨14, .phase⟩, ⟨15, .phase⟩], none⟩) (v := ?_) rfl (by kernel_rfl) (by kernel_rfl) (by kernel_rfl) (fun _ _ _ h => h) (Or.inl ⟨by rfl, ?_⟩) (by assumption) ?_
      rotate_left
      ·intro w hSw
       clear hSw
       first | (go_simp; done) | (go_simp; with_reducible rfl)
      (try simp only [Act.put, u1, u2, u3])
      refine wpAnyH_done (by kernel_rfl) ?_ _
      clear B6; cases ok
      ·skip
       go_wp2
       go_roundw
       case rel => exact ⟨r - 1, l, by omega, by go_num, dO⟩
       case measure => simp [intOf]; omega
      obtain ⟨e4, kM⟩ := tW.out rfl; subst e4; have qC := aPu (dO.out.set oL ⟨va, vc, oa, no, oc⟩ kM); obtain ⟨x0, x1⟩ := pair_cells lW.out; obtain ⟨c0, c1⟩ := dO.out.cell i oL; have g0 := dO.out.frozen (i * 2); have g1 := dO.out.frozen (i * 2 + 1); clear kM; go_wp2
      go_roundw
      case rel => exact ⟨r - 1, l.set i ⟨va, vc, oa, no, oc⟩, by omega, by go_num, qC⟩
      case measure => simp [intOf]; omega
     ·skip
      have dL : Below y1.heap.size y1 (y1.alloc (.cells #[.slice none 0 0, .slice none 0 0] 27)) := bl; have jE := bE (Below.refl _ (y1.alloc (.cells #[.slice none 0 0, .slice none 0 0] 27))); have lX := aPu (uV.out.below dL); have SA : ∀ j, j < k → (y1.alloc (.cells #[.slice none 0 0, .slice none 0 0] 27)).cell? ⟨q, j * 2, none⟩ = some (.slice (aI l j).va 4 (aI l j).vc) ∧ (y1.alloc (.cells #[.slice none 0 0, .slice none 0 0] 27)).cell? ⟨q, j * 2 + 1, none⟩ = some (.slice (aI l j).oa (aI l j).no (aI l j).oc) := lX.out.cell
      go_simp
      refine hK.out _ _ SA (fun jR => ?_)
      clear hK K jR
      (try simp only [Act.put, u1, u2, u3])
      generalize y1.alloc (.cells #[.slice none 0 0, .slice none 0 0] 27) = y4 at dL jE lX SA ⊢; have Sy4 := SA; clear SA Sy1; have R9 := aPu jE; have L6 := lX; have aH8 : w2.heap.size ≤ y4.heap.size := Nat.le_trans aCW dL.size; clear jE lX dL; refine wpAnyH_ready (rs := [10]) (by kernel_rfl) (by simp) ?_
      refine (AllReadyH.cons rfl (fun K hK => ?_) AllReadyH.nil)
      go_simp
      go_at_call 105
      refine (Q3 y4 w.heap.size y4.heap.size w.heap.size y4.heap.size (aI l i) (aI l j) (L6.out.row.crt i (by rw [L6.out.num]; exact oL)) (L6.out.row.crt j (by rw [L6.out.num]; exact hjk)) aPw aPw).mono ?_
      rintro e y5 ⟨va, nv, vc, oa, no, oc, ok, rfl, eJ, jN⟩; have aDD := aPu (L6.out.below eJ); have aNE : w2.heap.size ≤ y5.heap.size := Nat.le_trans aH8 eJ.size; have Sy5 : ∀ j, j < k → y5.cell? ⟨q, j * 2, none⟩ = some (.slice (aI l j).va 4 (aI l j).vc) ∧ y5.cell? ⟨q, j * 2 + 1, none⟩ = some (.slice (aI l j).oa (aI l j).no (aI l j).oc) := aDD.out.cell; have R8 := aPu ((eJ.block _ (aPv R9.out).1).trans R9.out); have aDG : Hid (ok = true → nv = 4 ∧ fP y5 y4.heap.size y5.heap.size va vc oa no oc 400) := jN; have aM5 := eJ.size; refine hK.out _ _ Sy5 (fun jP => ?_)
      clear hK K jP eJ jN Sy4
      (try simp only [Act.put, u1, u2, u3])
      refine wpAnyH_take (i := 11) (oi := ⟨some 38, .move (.tmp 49), 132, "l04_carts.go:146", #[⟨10, .data⟩], none⟩) (v := ?_) rfl (by kernel_rfl) (by kernel_rfl) (by kernel_rfl) (fun _ _ _ h => h) (Or.inl ⟨by rfl, ?_⟩) (by assumption) ?_
      rotate_left
      ·intro w hSw
       clear hSw
       first | (go_simp; done) | (go_simp; with_reducible rfl)
      (try simp only [Act.put, u1, u2, u3])
      refine wpAnyH_take (i := 12) (oi := ⟨some 50, .extract (.tmp 38) 0, 27, "l04_carts.go:146", #[⟨11, .data⟩], none⟩) (v := ?_) rfl (by kernel_rfl) (by kernel_rfl) (by kernel_rfl) (fun _ _ _ h => h) (Or.inl ⟨by rfl, ?_⟩) (by assumption) ?_
      rotate_left
      ·intro w hSw
       clear hSw
       first | (go_simp; done) | (go_simp; with_reducible rfl)
      (try simp only [Act.put, u1, u2, u3])
      refine wpAnyH_take (i := 13) (oi := ⟨some 51, .extract (.tmp 38) 1, 4, "l04_carts.go:146", #[⟨11, .data⟩, { on := 15, ground := Ground.gcOnly Departure.lateStores }], none⟩) (v := ?_) rfl (by kernel_rfl) (by kernel_rfl) (by kernel_rfl) (fun _ _ _ h => h) (Or.inl ⟨by rfl, ?_⟩) (by assumption) ?_
      rotate_left
      ·intro w hSw
       clear hSw
       first | (go_simp; done) | (go_simp; with_reducible rfl)
      (try simp only [Act.put, u1, u2, u3])
      have fU := R8.out; have hbl := (aPv fU).1; have dO := aPu (aDD.out.box (.slice va nv vc) (.slice oa no oc) fU (by omega) (by omega))
      have lW := aPu (cF (.slice va nv vc) (.slice oa no oc) fU); have tW : Hid (ok = true → nv = 4 ∧ fP ((y5.setCell ⟨y1.heap.size, 0, none⟩ (.slice va nv vc)).setCell ⟨y1.heap.size, 1, none⟩ (.slice oa no oc)) w.heap.size ((y5.setCell ⟨y1.heap.size, 0, none⟩ (.slice va nv vc)).setCell ⟨y1.heap.size, 1, none⟩ (.slice oa no oc)).heap.size va vc oa no oc 400) := fun h => ⟨(aDG.out h).1, (fP.other (aDG.out h).2 fU fun j _ _ bJ => aF _ _ bJ).more (by omega) (by rw [aZ]; omega) aPw⟩
      obtain ⟨d0, d1⟩ := pair_cells fU; obtain ⟨f0, f1⟩ := aC fU; have SW : ∀ j, j < k → ((y5.setCell ⟨y1.heap.size, 0, none⟩ (.slice va nv vc)).setCell ⟨y1.heap.size, 1, none⟩ (.slice oa no oc)).cell? ⟨q, j * 2, none⟩ = some (.slice (aI l j).va 4 (aI l j).vc) ∧ ((y5.setCell ⟨y1.heap.size, 0, none⟩ (.slice va nv vc)).setCell ⟨y1.heap.size, 1, none⟩ (.slice oa no oc)).cell? ⟨q, j * 2 + 1, none⟩ = some (.slice (aI l j).oa (aI l j).no (aI l j).oc) := dO.out.cell; refine rk 15 rfl (fun K hK => ?_)
      go_simp
      refine hK.out _ _ SW (fun jQ => ?_)
      clear hK K jQ d0 d1 f0 f1 SW fU
      (try simp only [Act.put, u1, u2, u3])
      generalize (y5.setCell ⟨y1.heap.size, 0, none⟩ (.slice va nv vc)).setCell ⟨y1.heap.size, 1, none⟩ (.slice oa no oc) = zn at lW dO tW ⊢; have B6 : ∀ j, j < k → zn.cell? ⟨q, j * 2, none⟩ = some (.slice (aI l j).va 4 (aI l j).vc) ∧ zn.cell? ⟨q, j * 2 + 1, none⟩ = some (.slice (aI l j).oa (aI l j).no (aI l j).oc) := dO.out.cell; refine wpAnyH_take (i := 16) (oi := ⟨some 12, .assign (.tmp 51), 4, "l04_carts.go:146", #[⟨13, .data⟩, ⟨15, .chain⟩, ⟨0, .phase⟩, ⟨1, .phase⟩, ⟨2, .phase⟩, ⟨3, .phase⟩, ⟨4, .phase⟩, ⟨5, .phase⟩, ⟨6, .phase⟩, ⟨7, .phase⟩, ⟨8, .phase⟩, ⟨9, .phase⟩, ⟨10, .phase⟩, ⟨11, .phase⟩, ⟨12, .phase⟩, ⟨13, .phase⟩, ⟨14, .phase⟩, ⟨15, .phase⟩], none⟩) (v := ?_) rfl (by kernel_rfl) (by kernel_rfl) (by kernel_rfl) (fun _ _ _ h => h) (Or.inl ⟨by rfl, ?_⟩) (by assumption) ?_
      rotate_left
      ·intro w hSw
       clear hSw
       first | (go_simp; done) | (go_simp; with_reducible rfl)
      (try simp only [Act.put, u1, u2, u3])
      refine wpAnyH_done (by kernel_rfl) ?_ _
      clear B6; cases ok
      ·skip
       go_wp2
       go_roundw
       case rel => exact ⟨r - 1, l, by omega, by go_num, dO⟩
       case measure => simp [intOf]; omega
      obtain ⟨e4, kM⟩ := tW.out rfl; subst e4; have qC := aPu (dO.out.set oL ⟨va, vc, oa, no, oc⟩ kM); obtain ⟨x0, x1⟩ := pair_cells lW.out; obtain ⟨c0, c1⟩ := dO.out.cell i oL; have g0 := dO.out.frozen (i * 2); have g1 := dO.out.frozen (i * 2 + 1); clear kM; go_wp2
      go_roundw
      case rel => exact ⟨r - 1, l.set i ⟨va, vc, oa, no, oc⟩, by omega, by go_num, qC⟩
      case measure => simp [intOf]; omega
    ·skip
     have dL : Below y0.heap.size y0 (y0.alloc (.cells #[.slice none 0 0, .slice none 0 0] 27)) := bl; have jE := bE (Below.refl _ (y0.alloc (.cells #[.slice none 0 0, .slice none 0 0] 27))); have lX := aPu (L7.out.below dL); have SA : ∀ j, j < k → (y0.alloc (.cells #[.slice none 0 0, .slice none 0 0] 27)).cell? ⟨q, j * 2, none⟩ = some (.slice (aI l j).va 4 (aI l j).vc) ∧ (y0.alloc (.cells #[.slice none 0 0, .slice none 0 0] 27)).cell? ⟨q, j * 2 + 1, none⟩ = some (.slice (aI l j).oa (aI l j).no (aI l j).oc) := lX.out.cell
     go_simp
     refine hK.out _ _ SA (fun jR => ?_)
     clear hK K jR
     (try simp only [Act.put, u1, u2, u3])
     generalize y0.alloc (.cells #[.slice none 0 0, .slice none 0 0] 27) = y6 at dL jE lX SA ⊢; have Sy6 := SA; clear SA Sy0; have R7 := aPu jE; have aDC := lX; have aH7 : w2.heap.size ≤ y6.heap.size := Nat.le_trans aCX dL.size; clear jE lX dL; refine wpAnyH_ready (rs := [7]) (by kernel_rfl) (by simp) ?_
     refine (AllReadyH.cons rfl (fun K hK => ?_) AllReadyH.nil)
     go_simp
     go_at_call 76
     refine (below y6 B g a len cap aDC.out.rd k hn (by omega)).mono ?_
     rintro e y7 ⟨j, hjk, rfl, vK, yN⟩; have hji : (j : Int) < (k : Int) := by omega
     have hj0 : decide ((j : Int) < 0) = false := decide_eq_false (by omega)
     have p6 : ¬ ((j : Int) < 0) := by omega
     have zK := aPu (aDC.out.step vK yN); have aH6 : w2.heap.size ≤ y7.heap.size := Nat.le_trans aH7 vK.size; have Sy7 : ∀ j, j < k → y7.cell? ⟨q, j * 2, none⟩ = some (.slice (aI l j).va 4 (aI l j).vc) ∧ y7.cell? ⟨q, j * 2 + 1, none⟩ = some (.slice (aI l j).oa (aI l j).no (aI l j).oc) := zK.out.cell; have I9 := aPu ((vK.block _ (aPv R7.out).1 (by intro e; injection e with e; omega)).trans R7.out)
     refine hK.out _ _ Sy7 (fun pN => ?_)
     clear hK K pN vK yN Sy6
     (try simp only [Act.put, u1, u2, u3])
     refine wpAnyH_take (i := 8) (oi := ⟨some 47, .indexAddr 111 (.tmp 43) (.tmp 46), 0, "l04_carts.go:146", #[⟨4, .data⟩, ⟨7, .data⟩], none⟩) (v := ?_) rfl (by kernel_rfl) (by kernel_rfl) (by kernel_rfl) (fun _ _ _ h => h) (Or.inl ⟨by rfl, ?_⟩) (by assumption) ?_
     rotate_left
     ·intro w hSw
      clear hSw
      first | (go_simp; done) | (go_simp; with_reducible rfl)
     (try simp only [Act.put, u1, u2, u3])
     refine wpAnyH_take (i := 9) (oi := ⟨some 48, .load 27 (.tmp 47), 27, "l04_carts.go:146", #[⟨8, .data⟩], none⟩) (v := ?_) rfl (by kernel_rfl) (by kernel_rfl) (by kernel_rfl) (fun _ _ _ h => h) (Or.inl ⟨by rfl, ?_⟩) (by assumption) ?_
     rotate_left
     ·intro w hSw
      obtain ⟨c0, c1⟩ := hSw j hjk; clear hSw
      first | (go_simp; done) | (go_simp; with_reducible rfl)
     (try simp only [Act.put, u1, u2, u3])
     refine wpAnyH_ready (rs := [10]) (by kernel_rfl) (by simp) ?_
     refine (AllReadyH.cons rfl (fun K hK => ?_) AllReadyH.nil)
     go_simp
     go_at_call 105
     refine (Q3 y7 w.heap.size y7.heap.size w.heap.size y7.heap.size (aI l i) (aI l j) (zK.out.row.crt i (by rw [zK.out.num]; exact oL)) (zK.out.row.crt j (by rw [zK.out.num]; exact hjk)) aPw aPw).mono ?_
     rintro e y8 ⟨va, nv, vc, oa, no, oc, ok, rfl, eJ, jN⟩; have aDB := aPu (zK.out.below eJ); have aND : w2.heap.size ≤ y8.heap.size := Nat.le_trans aH6 eJ.size; have Sy8 : ∀ j, j < k → y8.cell? ⟨q, j * 2, none⟩ = some (.slice (aI l j).va 4 (aI l j).vc) ∧ y8.cell? ⟨q, j * 2 + 1, none⟩ = some (.slice (aI l j).oa (aI l j).no (aI l j).oc) := aDB.out.cell; have R6 := aPu ((eJ.block _ (aPv I9.out).1).trans I9.out); have aDF : Hid (ok = true → nv = 4 ∧ fP y8 y7.heap.size y8.heap.size va vc oa no oc 400) := jN; have aM4 := eJ.size; refine hK.out _ _ Sy8 (fun jP => ?_)
     clear hK K jP eJ jN Sy7
     (try simp only [Act.put, u1, u2, u3])
     refine wpAnyH_take (i := 11) (oi := ⟨some 38, .move (.tmp 49), 132, "l04_carts.go:146", #[⟨10, .data⟩], none⟩) (v := ?_) rfl (by kernel_rfl) (by kernel_rfl) (by kernel_rfl) (fun _ _ _ h => h) (Or.inl ⟨by rfl, ?_⟩) (by assumption) ?_
     rotate_left
     ·intro w hSw
      clear hSw
      first | (go_simp; done) | (go_simp; with_reducible rfl)
     (try simp only [Act.put, u1, u2, u3])
     refine wpAnyH_take (i := 12) (oi := ⟨some 50, .extract (.tmp 38) 0, 27, "l04_carts.go:146", #[⟨11, .data⟩], none⟩) (v := ?_) rfl (by kernel_rfl) (by kernel_rfl) (by kernel_rfl) (fun _ _ _ h => h) (Or.inl ⟨by rfl, ?_⟩) (by assumption) ?_
     rotate_left
     ·intro w hSw
      clear hSw
      first | (go_simp; done) | (go_simp; with_reducible rfl)
     (try simp only [Act.put, u1, u2, u3])
     refine wpAnyH_take (i := 13) (oi := ⟨some 51, .extract (.tmp 38) 1, 4, "l04_carts.go:146", #[⟨11, .data⟩, { on := 15, ground := Ground.gcOnly Departure.lateStores }], none⟩) (v := ?_) rfl (by kernel_rfl) (by kernel_rfl) (by kernel_rfl) (fun _ _ _ h => h) (Or.inl ⟨by rfl, ?_⟩) (by assumption) ?_
     rotate_left
     ·intro w hSw
      clear hSw
      first | (go_simp; done) | (go_simp; with_reducible rfl)
     (try simp only [Act.put, u1, u2, u3])
     have fU := R6.out; have hbl := (aPv fU).1; have dO := aPu (aDB.out.box (.slice va nv vc) (.slice oa no oc) fU (by omega) (by omega))
     have lW := aPu (cF (.slice va nv vc) (.slice oa no oc) fU); have tW : Hid (ok = true → nv = 4 ∧ fP ((y8.setCell ⟨y0.heap.size, 0, none⟩ (.slice va nv vc)).setCell ⟨y0.heap.size, 1, none⟩ (.slice oa no oc)) w.heap.size ((y8.setCell ⟨y0.heap.size, 0, none⟩ (.slice va nv vc)).setCell ⟨y0.heap.size, 1, none⟩ (.slice oa no oc)).heap.size va vc oa no oc 400) := fun h => ⟨(aDF.out h).1, (fP.other (aDF.out h).2 fU fun j _ _ bJ => aF _ _ bJ).more (by omega) (by rw [aZ]; omega) aPw⟩
     obtain ⟨d0, d1⟩ := pair_cells fU; obtain ⟨f0, f1⟩ := aC fU; have SW : ∀ j, j < k → ((y8.setCell ⟨y0.heap.size, 0, none⟩ (.slice va nv vc)).setCell ⟨y0.heap.size, 1, none⟩ (.slice oa no oc)).cell? ⟨q, j * 2, none⟩ = some (.slice (aI l j).va 4 (aI l j).vc) ∧ ((y8.setCell ⟨y0.heap.size, 0, none⟩ (.slice va nv vc)).setCell ⟨y0.heap.size, 1, none⟩ (.slice oa no oc)).cell? ⟨q, j * 2 + 1, none⟩ = some (.slice (aI l j).oa (aI l j).no (aI l j).oc) := dO.out.cell; refine rk 15 rfl (fun K hK => ?_)
     go_simp
     refine hK.out _ _ SW (fun jQ => ?_)
     clear hK K jQ d0 d1 f0 f1 SW fU
     (try simp only [Act.put, u1, u2, u3])
     generalize (y8.setCell ⟨y0.heap.size, 0, none⟩ (.slice va nv vc)).setCell ⟨y0.heap.size, 1, none⟩ (.slice oa no oc) = zn at lW dO tW ⊢; have B6 : ∀ j, j < k → zn.cell? ⟨q, j * 2, none⟩ = some (.slice (aI l j).va 4 (aI l j).vc) ∧ zn.cell? ⟨q, j * 2 + 1, none⟩ = some (.slice (aI l j).oa (aI l j).no (aI l j).oc) := dO.out.cell; refine wpAnyH_take (i := 16) (oi := ⟨some 12, .assign (.tmp 51), 4, "l04_carts.go:146", #[⟨13, .data⟩, ⟨15, .chain⟩, ⟨0, .phase⟩, ⟨1, .phase⟩, ⟨2, .phase⟩, ⟨3, .phase⟩, ⟨4, .phase⟩, ⟨5, .phase⟩, ⟨6, .phase⟩, ⟨7, .phase⟩, ⟨8, .phase⟩, ⟨9, .phase⟩, ⟨10, .phase⟩, ⟨11, .phase⟩, ⟨12, .phase⟩, ⟨13, .phase⟩, ⟨14, .phase⟩, ⟨15, .phase⟩], none⟩) (v := ?_) rfl (by kernel_rfl) (by kernel_rfl) (by kernel_rfl) (fun _ _ _ h => h) (Or.inl ⟨by rfl, ?_⟩) (by assumption) ?_
     rotate_left
     ·intro w hSw
      clear hSw
      first | (go_simp; done) | (go_simp; with_reducible rfl)
     (try simp only [Act.put, u1, u2, u3])
     refine wpAnyH_done (by kernel_rfl) ?_ _
     clear B6; cases ok
     ·skip
      go_wp2
      go_roundw
      case rel => exact ⟨r - 1, l, by omega, by go_num, dO⟩
      case measure => simp [intOf]; omega
     obtain ⟨e4, kM⟩ := tW.out rfl; subst e4; have qC := aPu (dO.out.set oL ⟨va, vc, oa, no, oc⟩ kM); obtain ⟨x0, x1⟩ := pair_cells lW.out; obtain ⟨c0, c1⟩ := dO.out.cell i oL; have g0 := dO.out.frozen (i * 2); have g1 := dO.out.frozen (i * 2 + 1); clear kM; go_wp2
     go_roundw
     case rel => exact ⟨r - 1, l.set i ⟨va, vc, oa, no, oc⟩, by omega, by go_num, qC⟩
     case measure => simp [intOf]; omega
   go_upto_region 14 with fail
   obtain ⟨y0, tB⟩ : ∃ y0, w2.drew = y0 := ⟨_, rfl⟩; have sA : Below w2.heap.size w2 y0 := by rw [← tB]; exact ⟨rfl, rfl, rfl, Nat.le_refl _, fun _ _ => rfl⟩
   have L7 := aPu (HL2.out.below sA); have aCX := sA.size; have Sy0 : ∀ j, j < k → y0.cell? ⟨q, j * 2, none⟩ = some (.slice (aI l j).va 4 (aI l j).vc) ∧ y0.cell? ⟨q, j * 2 + 1, none⟩ = some (.slice (aI l j).oa (aI l j).no (aI l j).oc) := L7.out.cell; refine wp_region_held_drew (S := fun w' => ∀ j, j < k → w'.cell? ⟨q, j * 2, none⟩ = some (.slice (aI l j).va 4 (aI l j).vc) ∧ w'.cell? ⟨q, j * 2 + 1, none⟩ = some (.slice (aI l j).oa (aI l j).no (aI l j).oc)) (by kernel_rfl) (by rw [tB]; exact Sy0) (fun aP => ?_)
   rw [tB]; clear aP tB sA; refine wpAnyH_take (i := 0) (oi := ⟨some 58, .move (.tmp 7), 111, "l04_carts.go:152", #[], none⟩) (v := ?_) rfl (by kernel_rfl) (by kernel_rfl) (by kernel_rfl) (fun _ _ _ h => h) (Or.inl ⟨by rfl, ?_⟩) (by assumption) ?_
   rotate_left
   ·intro w hSw
    clear hSw
    first | (go_simp; done) | (go_simp; with_reducible rfl)
   (try simp only [Act.put, u1, u2, u3])
   refine wpAnyH_take (i := 1) (oi := ⟨some 59, .move (.tmp 10), 3, "l04_carts.go:152", #[], none⟩) (v := ?_) rfl (by kernel_rfl) (by kernel_rfl) (by kernel_rfl) (fun _ _ _ h => h) (Or.inl ⟨by rfl, ?_⟩) (by assumption) ?_
   rotate_left
   ·intro w hSw
    clear hSw
    first | (go_simp; done) | (go_simp; with_reducible rfl)
   (try simp only [Act.put, u1, u2, u3])
   refine wpAnyH_take (i := 2) (oi := ⟨some 60, .indexAddr 111 (.tmp 58) (.tmp 59), 0, "l04_carts.go:152", #[⟨0, .data⟩, ⟨1, .data⟩], none⟩) (v := ?_) rfl (by kernel_rfl) (by kernel_rfl) (by kernel_rfl) (fun _ _ _ h => h) (Or.inl ⟨by rfl, ?_⟩) (by assumption) ?_
   rotate_left
   ·intro w hSw
    clear hSw
    first | (go_simp; done) | (go_simp; with_reducible rfl)
   (try simp only [Act.put, u1, u2, u3])
   refine wpAnyH_take (i := 3) (oi := ⟨some 61, .load 27 (.tmp 60), 27, "l04_carts.go:152", #[⟨2, .data⟩], none⟩) (v := ?_) rfl (by kernel_rfl) (by kernel_rfl) (by kernel_rfl) (fun _ _ _ h => h) (Or.inl ⟨by rfl, ?_⟩) (by assumption) ?_
   rotate_left
   ·intro w hSw
    obtain ⟨c0, c1⟩ := hSw i oL; clear hSw
    first | (go_simp; done) | (go_simp; with_reducible rfl)
   (try simp only [Act.put, u1, u2, u3])
   refine wpAnyH_take (i := 4) (oi := ⟨some 62, .move (.tmp 10), 3, "l04_carts.go:152", #[], none⟩) (v := ?_) rfl (by kernel_rfl) (by kernel_rfl) (by kernel_rfl) (fun _ _ _ h => h) (Or.inl ⟨by rfl, ?_⟩) (by assumption) ?_
   rotate_left
   ·intro w hSw
    clear hSw
    first | (go_simp; done) | (go_simp; with_reducible rfl)
   (try simp only [Act.put, u1, u2, u3])
   refine wpAnyH_take (i := 5) (oi := ⟨some 63, .move (.tmp 0), 57, "l04_carts.go:152", #[], none⟩) (v := ?_) rfl (by kernel_rfl) (by kernel_rfl) (by kernel_rfl) (fun _ _ _ h => h) (Or.inl ⟨by rfl, ?_⟩) (by assumption) ?_
   rotate_left
   ·intro w hSw
    clear hSw
    first | (go_simp; done) | (go_simp; with_reducible rfl)
   (try simp only [Act.put, u1, u2, u3])
   refine wpAnyH_ready (rs := [6, 11]) (by kernel_rfl) (by simp) ?_
   refine (AllReadyH.cons rfl (fun K hK => ?_) (AllReadyH.cons rfl (fun K hK => ?_) AllReadyH.nil))
   ·skip
    go_simp
    go_at_call 41
    refine (aEK y0 B g a len cap L7.out.rd (by omega)).mono ?_
    rintro e y1 ⟨kind, item, qty, dv, sq, hi8, rfl, vK, yN⟩; have uV := aPu (L7.out.step vK yN); have aCW : w2.heap.size ≤ y1.heap.size := Nat.le_trans aCX vK.size; have Sy1 : ∀ j, j < k → y1.cell? ⟨q, j * 2, none⟩ = some (.slice (aI l j).va 4 (aI l j).vc) ∧ y1.cell? ⟨q, j * 2 + 1, none⟩ = some (.slice (aI l j).oa (aI l j).no (aI l j).oc) := uV.out.cell; refine hK.out _ _ Sy1 (fun pN => ?_)
    clear hK K pN vK yN Sy0
    (try simp only [Act.put, u1, u2, u3])
    refine wpAnyH_ready (rs := [7, 11]) (by kernel_rfl) (by simp) ?_
    refine (AllReadyH.cons rfl (fun K hK => ?_) (AllReadyH.cons rfl (fun K hK => ?_) AllReadyH.nil))
    ·skip
     go_simp
     go_at_call 18
     refine (o8 y1 w.heap.size y1.heap.size (aI l i) (i : Int) kind qty dv sq item (uV.out.row.crt i (by rw [uV.out.num]; exact oL)) aPw hi8).mono ?_
     rintro e y2 ⟨va, nv, vc, oa, no, oc, code, rfl, eJ, yR⟩; have jN : code = 0 → nv = 4 ∧ fP y2 y1.heap.size y2.heap.size va vc oa no oc 400 := fun h => ⟨(yR h).1, (yR h).2.more aPw aPw (by omega)⟩
     clear yR; have aDE := aPu (uV.out.below eJ); have aH9 : w2.heap.size ≤ y2.heap.size := Nat.le_trans aCW eJ.size; have Sy2 : ∀ j, j < k → y2.cell? ⟨q, j * 2, none⟩ = some (.slice (aI l j).va 4 (aI l j).vc) ∧ y2.cell? ⟨q, j * 2 + 1, none⟩ = some (.slice (aI l j).oa (aI l j).no (aI l j).oc) := aDE.out.cell; have aDI : Hid (code = 0 → nv = 4 ∧ fP y2 y1.heap.size y2.heap.size va vc oa no oc 400) := jN; have aM6 := eJ.size; refine hK.out _ _ Sy2 (fun jP => ?_)
     clear hK K jP eJ jN Sy1
     (try simp only [Act.put, u1, u2, u3])
     refine wpAnyH_take (i := 8) (oi := ⟨some 57, .move (.tmp 65), 32, "l04_carts.go:152", #[⟨7, .data⟩], none⟩) (v := ?_) rfl (by kernel_rfl) (by kernel_rfl) (by kernel_rfl) (fun _ _ _ h => h) (Or.inl ⟨by rfl, ?_⟩) (by assumption) ?_
     rotate_left
     ·intro w hSw
      clear hSw
      first | (go_simp; done) | (go_simp; with_reducible rfl)
     (try simp only [Act.put, u1, u2, u3])
     refine wpAnyH_take (i := 9) (oi := ⟨some 66, .extract (.tmp 57) 0, 27, "l04_carts.go:152", #[⟨8, .data⟩], none⟩) (v := ?_) rfl (by kernel_rfl) (by kernel_rfl) (by kernel_rfl) (fun _ _ _ h => h) (Or.inl ⟨by rfl, ?_⟩) (by assumption) ?_
     rotate_left
     ·intro w hSw
      clear hSw
      first | (go_simp; done) | (go_simp; with_reducible rfl)
     (try simp only [Act.put, u1, u2, u3])
     refine wpAnyH_take (i := 10) (oi := ⟨some 67, .extract (.tmp 57) 1, 2, "l04_carts.go:152", #[⟨8, .data⟩, { on := 12, ground := Ground.gcOnly Departure.lateStores }], none⟩) (v := ?_) rfl (by kernel_rfl) (by kernel_rfl) (by kernel_rfl) (fun _ _ _ h => h) (Or.inl ⟨by rfl, ?_⟩) (by assumption) ?_
     rotate_left
     ·intro w hSw
      clear hSw
      first | (go_simp; done) | (go_simp; with_reducible rfl)
     (try simp only [Act.put, u1, u2, u3])
     refine wpAnyH_ready (rs := [11]) (by kernel_rfl) (by simp) ?_
     refine (AllReadyH.cons rfl (fun K hK => ?_) AllReadyH.nil)
     have dL : Below y2.heap.size y2 (y2.alloc (.cells #[.slice none 0 0, .slice none 0 0] 27)) := bl; have jE := bE (Below.refl _ (y2.alloc (.cells #[.slice none 0 0, .slice none 0 0] 27))); have lX := aPu (aDE.out.below dL); have SA : ∀ j, j < k → (y2.alloc (.cells #[.slice none 0 0, .slice none 0 0] 27)).cell? ⟨q, j * 2, none⟩ = some (.slice (aI l j).va 4 (aI l j).vc) ∧ (y2.alloc (.cells #[.slice none 0 0, .slice none 0 0] 27)).cell? ⟨q, j * 2 + 1, none⟩ = some (.slice (aI l j).oa (aI l j).no (aI l j).oc) := lX.out.cell
     go_simp
     refine hK.out _ _ SA (fun jR => ?_)
     clear hK K jR
     (try simp only [Act.put, u1, u2, u3])
     generalize y2.alloc (.cells #[.slice none 0 0, .slice none 0 0] 27) = y3 at dL jE lX SA ⊢; have Sy3 := SA; clear SA Sy2; have o9 := aPu jE; have aJc := lX; have aNF : w2.heap.size ≤ y3.heap.size := Nat.le_trans aH9 dL.size; have aDH : Hid (code = 0 → nv = 4 ∧ fP y3 y1.heap.size y2.heap.size va vc oa no oc 400) := fun h => ⟨(aDI.out h).1, (aDI.out h).2.below dL (by omega)⟩
     clear jE lX dL; have fU := o9.out; have hbl := (aPv fU).1; have dO := aPu (aJc.out.box (.slice va nv vc) (.slice oa no oc) fU (by omega) (by omega))
     have lW := aPu (cF (.slice va nv vc) (.slice oa no oc) fU); have tW : Hid (code = 0 → nv = 4 ∧ fP ((y3.setCell ⟨y2.heap.size, 0, none⟩ (.slice va nv vc)).setCell ⟨y2.heap.size, 1, none⟩ (.slice oa no oc)) w.heap.size ((y3.setCell ⟨y2.heap.size, 0, none⟩ (.slice va nv vc)).setCell ⟨y2.heap.size, 1, none⟩ (.slice oa no oc)).heap.size va vc oa no oc 400) := fun h => ⟨(aDH.out h).1, (fP.other (aDH.out h).2 fU fun j _ _ bJ => aF _ _ bJ).more (by omega) (by rw [aZ]; omega) aPw⟩
     obtain ⟨d0, d1⟩ := pair_cells fU; obtain ⟨f0, f1⟩ := aC fU; have SW : ∀ j, j < k → ((y3.setCell ⟨y2.heap.size, 0, none⟩ (.slice va nv vc)).setCell ⟨y2.heap.size, 1, none⟩ (.slice oa no oc)).cell? ⟨q, j * 2, none⟩ = some (.slice (aI l j).va 4 (aI l j).vc) ∧ ((y3.setCell ⟨y2.heap.size, 0, none⟩ (.slice va nv vc)).setCell ⟨y2.heap.size, 1, none⟩ (.slice oa no oc)).cell? ⟨q, j * 2 + 1, none⟩ = some (.slice (aI l j).oa (aI l j).no (aI l j).oc) := dO.out.cell; refine rk 12 rfl (fun K hK => ?_)
     go_simp
     refine hK.out _ _ SW (fun jQ => ?_)
     clear hK K jQ d0 d1 f0 f1 SW fU
     (try simp only [Act.put, u1, u2, u3])
     generalize (y3.setCell ⟨y2.heap.size, 0, none⟩ (.slice va nv vc)).setCell ⟨y2.heap.size, 1, none⟩ (.slice oa no oc) = zn at lW dO tW ⊢; have B6 : ∀ j, j < k → zn.cell? ⟨q, j * 2, none⟩ = some (.slice (aI l j).va 4 (aI l j).vc) ∧ zn.cell? ⟨q, j * 2 + 1, none⟩ = some (.slice (aI l j).oa (aI l j).no (aI l j).oc) := dO.out.cell; refine wpAnyH_take (i := 13) (oi := ⟨some 14, .assign (.tmp 67), 2, "l04_carts.go:152", #[⟨10, .data⟩, ⟨12, .chain⟩, ⟨0, .phase⟩, ⟨1, .phase⟩, ⟨2, .phase⟩, ⟨3, .phase⟩, ⟨4, .phase⟩, ⟨5, .phase⟩, ⟨6, .phase⟩, ⟨7, .phase⟩, ⟨8, .phase⟩, ⟨9, .phase⟩, ⟨10, .phase⟩, ⟨11, .phase⟩, ⟨12, .phase⟩], none⟩) (v := ?_) rfl (by kernel_rfl) (by kernel_rfl) (by kernel_rfl) (fun _ _ _ h => h) (Or.inl ⟨by rfl, ?_⟩) (by assumption) ?_
     rotate_left
     ·intro w hSw
      clear hSw
      first | (go_simp; done) | (go_simp; with_reducible rfl)
     (try simp only [Act.put, u1, u2, u3])
     refine wpAnyH_done (by kernel_rfl) ?_ _
     clear B6
     by_cases uF : code = 0
     rotate_left
     ·have en : (code == 0) = false := by rw [beq_eq_false_iff_ne]; exact uF
      clear uF; go_wp2
      go_roundw
      case rel => exact ⟨r - 1, l, by omega, by go_num, dO⟩
      case measure => simp [intOf]; omega
     subst uF; obtain ⟨e4, kM⟩ := tW.out rfl; subst e4; have qC := aPu (dO.out.set oL ⟨va, vc, oa, no, oc⟩ kM); obtain ⟨x0, x1⟩ := pair_cells lW.out; obtain ⟨c0, c1⟩ := dO.out.cell i oL; have g0 := dO.out.frozen (i * 2); have g1 := dO.out.frozen (i * 2 + 1); clear kM; go_wp2
     go_roundw
     case rel => exact ⟨r - 1, l.set i ⟨va, vc, oa, no, oc⟩, by omega, by go_num, qC⟩
     case measure => simp [intOf]; omega
    ·skip
     have dL : Below y1.heap.size y1 (y1.alloc (.cells #[.slice none 0 0, .slice none 0 0] 27)) := bl; have jE := bE (Below.refl _ (y1.alloc (.cells #[.slice none 0 0, .slice none 0 0] 27))); have lX := aPu (uV.out.below dL); have SA : ∀ j, j < k → (y1.alloc (.cells #[.slice none 0 0, .slice none 0 0] 27)).cell? ⟨q, j * 2, none⟩ = some (.slice (aI l j).va 4 (aI l j).vc) ∧ (y1.alloc (.cells #[.slice none 0 0, .slice none 0 0] 27)).cell? ⟨q, j * 2 + 1, none⟩ = some (.slice (aI l j).oa (aI l j).no (aI l j).oc) := lX.out.cell
     go_simp
     refine hK.out _ _ SA (fun jR => ?_)
     clear hK K jR
     (try simp only [Act.put, u1, u2, u3])
     generalize y1.alloc (.cells #[.slice none 0 0, .slice none 0 0] 27) = y4 at dL jE lX SA ⊢; have Sy4 := SA; clear SA Sy1; have R9 := aPu jE; have L6 := lX; have aH8 : w2.heap.size ≤ y4.heap.size := Nat.le_trans aCW dL.size; clear jE lX dL; refine wpAnyH_ready (rs := [7]) (by kernel_rfl) (by simp) ?_
     refine (AllReadyH.cons rfl (fun K hK => ?_) AllReadyH.nil)
     go_simp
     go_at_call 18
     refine (o8 y4 w.heap.size y4.heap.size (aI l i) (i : Int) kind qty dv sq item (L6.out.row.crt i (by rw [L6.out.num]; exact oL)) aPw hi8).mono ?_
     rintro e y5 ⟨va, nv, vc, oa, no, oc, code, rfl, eJ, yR⟩; have jN : code = 0 → nv = 4 ∧ fP y5 y4.heap.size y5.heap.size va vc oa no oc 400 := fun h => ⟨(yR h).1, (yR h).2.more aPw aPw (by omega)⟩
     clear yR; have aDD := aPu (L6.out.below eJ); have aNE : w2.heap.size ≤ y5.heap.size := Nat.le_trans aH8 eJ.size; have Sy5 : ∀ j, j < k → y5.cell? ⟨q, j * 2, none⟩ = some (.slice (aI l j).va 4 (aI l j).vc) ∧ y5.cell? ⟨q, j * 2 + 1, none⟩ = some (.slice (aI l j).oa (aI l j).no (aI l j).oc) := aDD.out.cell; have R8 := aPu ((eJ.block _ (aPv R9.out).1).trans R9.out); have aDG : Hid (code = 0 → nv = 4 ∧ fP y5 y4.heap.size y5.heap.size va vc oa no oc 400) := jN; have aM5 := eJ.size; refine hK.out _ _ Sy5 (fun jP => ?_)
     clear hK K jP eJ jN Sy4
     (try simp only [Act.put, u1, u2, u3])
     refine wpAnyH_take (i := 8) (oi := ⟨some 57, .move (.tmp 65), 32, "l04_carts.go:152", #[⟨7, .data⟩], none⟩) (v := ?_) rfl (by kernel_rfl) (by kernel_rfl) (by kernel_rfl) (fun _ _ _ h => h) (Or.inl ⟨by rfl, ?_⟩) (by assumption) ?_
     rotate_left
     ·intro w hSw
      clear hSw
      first | (go_simp; done) | (go_simp; with_reducible rfl)
     (try simp only [Act.put, u1, u2, u3])
     refine wpAnyH_take (i := 9) (oi := ⟨some 66, .extract (.tmp 57) 0, 27, "l04_carts.go:152", #[⟨8, .data⟩], none⟩) (v := ?_) rfl (by kernel_rfl) (by kernel_rfl) (by kernel_rfl) (fun _ _ _ h => h) (Or.inl ⟨by rfl, ?_⟩) (by assumption) ?_
     rotate_left
     ·intro w hSw
      clear hSw
      first | (go_simp; done) | (go_simp; with_reducible rfl)
     (try simp only [Act.put, u1, u2, u3])
     refine wpAnyH_take (i := 10) (oi := ⟨some 67, .extract (.tmp 57) 1, 2, "l04_carts.go:152", #[⟨8, .data⟩, { on := 12, ground := Ground.gcOnly Departure.lateStores }], none⟩) (v := ?_) rfl (by kernel_rfl) (by kernel_rfl) (by kernel_rfl) (fun _ _ _ h => h) (Or.inl ⟨by rfl, ?_⟩) (by assumption) ?_
     rotate_left
     ·intro w hSw
      clear hSw
      first | (go_simp; done) | (go_simp; with_reducible rfl)
     (try simp only [Act.put, u1, u2, u3])
     have fU := R8.out; have hbl := (aPv fU).1; have dO := aPu (aDD.out.box (.slice va nv vc) (.slice oa no oc) fU (by omega) (by omega))
     have lW := aPu (cF (.slice va nv vc) (.slice oa no oc) fU); have tW : Hid (code = 0 → nv = 4 ∧ fP ((y5.setCell ⟨y1.heap.size, 0, none⟩ (.slice va nv vc)).setCell ⟨y1.heap.size, 1, none⟩ (.slice oa no oc)) w.heap.size ((y5.setCell ⟨y1.heap.size, 0, none⟩ (.slice va nv vc)).setCell ⟨y1.heap.size, 1, none⟩ (.slice oa no oc)).heap.size va vc oa no oc 400) := fun h => ⟨(aDG.out h).1, (fP.other (aDG.out h).2 fU fun j _ _ bJ => aF _ _ bJ).more (by omega) (by rw [aZ]; omega) aPw⟩
     obtain ⟨d0, d1⟩ := pair_cells fU; obtain ⟨f0, f1⟩ := aC fU; have SW : ∀ j, j < k → ((y5.setCell ⟨y1.heap.size, 0, none⟩ (.slice va nv vc)).setCell ⟨y1.heap.size, 1, none⟩ (.slice oa no oc)).cell? ⟨q, j * 2, none⟩ = some (.slice (aI l j).va 4 (aI l j).vc) ∧ ((y5.setCell ⟨y1.heap.size, 0, none⟩ (.slice va nv vc)).setCell ⟨y1.heap.size, 1, none⟩ (.slice oa no oc)).cell? ⟨q, j * 2 + 1, none⟩ = some (.slice (aI l j).oa (aI l j).no (aI l j).oc) := dO.out.cell; refine rk 12 rfl (fun K hK => ?_)
     go_simp
     refine hK.out _ _ SW (fun jQ => ?_)
     clear hK K jQ d0 d1 f0 f1 SW fU
     (try simp only [Act.put, u1, u2, u3])
     generalize (y5.setCell ⟨y1.heap.size, 0, none⟩ (.slice va nv vc)).setCell ⟨y1.heap.size, 1, none⟩ (.slice oa no oc) = zn at lW dO tW ⊢; have B6 : ∀ j, j < k → zn.cell? ⟨q, j * 2, none⟩ = some (.slice (aI l j).va 4 (aI l j).vc) ∧ zn.cell? ⟨q, j * 2 + 1, none⟩ = some (.slice (aI l j).oa (aI l j).no (aI l j).oc) := dO.out.cell; refine wpAnyH_take (i := 13) (oi := ⟨some 14, .assign (.tmp 67), 2, "l04_carts.go:152", #[⟨10, .data⟩, ⟨12, .chain⟩, ⟨0, .phase⟩, ⟨1, .phase⟩, ⟨2, .phase⟩, ⟨3, .phase⟩, ⟨4, .phase⟩, ⟨5, .phase⟩, ⟨6, .phase⟩, ⟨7, .phase⟩, ⟨8, .phase⟩, ⟨9, .phase⟩, ⟨10, .phase⟩, ⟨11, .phase⟩, ⟨12, .phase⟩], none⟩) (v := ?_) rfl (by kernel_rfl) (by kernel_rfl) (by kernel_rfl) (fun _ _ _ h => h) (Or.inl ⟨by rfl, ?_⟩) (by assumption) ?_
     rotate_left
     ·intro w hSw
      clear hSw
      first | (go_simp; done) | (go_simp; with_reducible rfl)
     (try simp only [Act.put, u1, u2, u3])
     refine wpAnyH_done (by kernel_rfl) ?_ _
     clear B6
     by_cases uF : code = 0
     rotate_left
     ·have en : (code == 0) = false := by rw [beq_eq_false_iff_ne]; exact uF
      clear uF; go_wp2
      go_roundw
      case rel => exact ⟨r - 1, l, by omega, by go_num, dO⟩
      case measure => simp [intOf]; omega
     subst uF; obtain ⟨e4, kM⟩ := tW.out rfl; subst e4; have qC := aPu (dO.out.set oL ⟨va, vc, oa, no, oc⟩ kM); obtain ⟨x0, x1⟩ := pair_cells lW.out; obtain ⟨c0, c1⟩ := dO.out.cell i oL; have g0 := dO.out.frozen (i * 2); have g1 := dO.out.frozen (i * 2 + 1); clear kM; go_wp2
     go_roundw
     case rel => exact ⟨r - 1, l.set i ⟨va, vc, oa, no, oc⟩, by omega, by go_num, qC⟩
     case measure => simp [intOf]; omega
   ·skip
    have dL : Below y0.heap.size y0 (y0.alloc (.cells #[.slice none 0 0, .slice none 0 0] 27)) := bl; have jE := bE (Below.refl _ (y0.alloc (.cells #[.slice none 0 0, .slice none 0 0] 27))); have lX := aPu (L7.out.below dL); have SA : ∀ j, j < k → (y0.alloc (.cells #[.slice none 0 0, .slice none 0 0] 27)).cell? ⟨q, j * 2, none⟩ = some (.slice (aI l j).va 4 (aI l j).vc) ∧ (y0.alloc (.cells #[.slice none 0 0, .slice none 0 0] 27)).cell? ⟨q, j * 2 + 1, none⟩ = some (.slice (aI l j).oa (aI l j).no (aI l j).oc) := lX.out.cell
    go_simp
    refine hK.out _ _ SA (fun jR => ?_)
    clear hK K jR
    (try simp only [Act.put, u1, u2, u3])
    generalize y0.alloc (.cells #[.slice none 0 0, .slice none 0 0] 27) = y6 at dL jE lX SA ⊢; have Sy6 := SA; clear SA Sy0; have R7 := aPu jE; have aDC := lX; have aH7 : w2.heap.size ≤ y6.heap.size := Nat.le_trans aCX dL.size; clear jE lX dL; refine wpAnyH_ready (rs := [6]) (by kernel_rfl) (by simp) ?_
    refine (AllReadyH.cons rfl (fun K hK => ?_) AllReadyH.nil)
    go_simp
    go_at_call 41
    refine (aEK y6 B g a len cap aDC.out.rd (by omega)).mono ?_
    rintro e y7 ⟨kind, item, qty, dv, sq, hi8, rfl, vK, yN⟩; have zK := aPu (aDC.out.step vK yN); have aH6 : w2.heap.size ≤ y7.heap.size := Nat.le_trans aH7 vK.size; have Sy7 : ∀ j, j < k → y7.cell? ⟨q, j * 2, none⟩ = some (.slice (aI l j).va 4 (aI l j).vc) ∧ y7.cell? ⟨q, j * 2 + 1, none⟩ = some (.slice (aI l j).oa (aI l j).no (aI l j).oc) := zK.out.cell; have I9 := aPu ((vK.block _ (aPv R7.out).1 (by intro e; injection e with e; omega)).trans R7.out)
    refine hK.out _ _ Sy7 (fun pN => ?_)
    clear hK K pN vK yN Sy6
    (try simp only [Act.put, u1, u2, u3])
    refine wpAnyH_ready (rs := [7]) (by kernel_rfl) (by simp) ?_
    refine (AllReadyH.cons rfl (fun K hK => ?_) AllReadyH.nil)
    go_simp
    go_at_call 18
    refine (o8 y7 w.heap.size y7.heap.size (aI l i) (i : Int) kind qty dv sq item (zK.out.row.crt i (by rw [zK.out.num]; exact oL)) aPw hi8).mono ?_
    rintro e y8 ⟨va, nv, vc, oa, no, oc, code, rfl, eJ, yR⟩; have jN : code = 0 → nv = 4 ∧ fP y8 y7.heap.size y8.heap.size va vc oa no oc 400 := fun h => ⟨(yR h).1, (yR h).2.more aPw aPw (by omega)⟩
    clear yR; have aDB := aPu (zK.out.below eJ); have aND : w2.heap.size ≤ y8.heap.size := Nat.le_trans aH6 eJ.size; have Sy8 : ∀ j, j < k → y8.cell? ⟨q, j * 2, none⟩ = some (.slice (aI l j).va 4 (aI l j).vc) ∧ y8.cell? ⟨q, j * 2 + 1, none⟩ = some (.slice (aI l j).oa (aI l j).no (aI l j).oc) := aDB.out.cell; have R6 := aPu ((eJ.block _ (aPv I9.out).1).trans I9.out); have aDF : Hid (code = 0 → nv = 4 ∧ fP y8 y7.heap.size y8.heap.size va vc oa no oc 400) := jN; have aM4 := eJ.size; refine hK.out _ _ Sy8 (fun jP => ?_)
    clear hK K jP eJ jN Sy7
    (try simp only [Act.put, u1, u2, u3])
    refine wpAnyH_take (i := 8) (oi := ⟨some 57, .move (.tmp 65), 32, "l04_carts.go:152", #[⟨7, .data⟩], none⟩) (v := ?_) rfl (by kernel_rfl) (by kernel_rfl) (by kernel_rfl) (fun _ _ _ h => h) (Or.inl ⟨by rfl, ?_⟩) (by assumption) ?_
    rotate_left
    ·intro w hSw
     clear hSw
     first | (go_simp; done) | (go_simp; with_reducible rfl)
    (try simp only [Act.put, u1, u2, u3])
    refine wpAnyH_take (i := 9) (oi := ⟨some 66, .extract (.tmp 57) 0, 27, "l04_carts.go:152", #[⟨8, .data⟩], none⟩) (v := ?_) rfl (by kernel_rfl) (by kernel_rfl) (by kernel_rfl) (fun _ _ _ h => h) (Or.inl ⟨by rfl, ?_⟩) (by assumption) ?_
    rotate_left
    ·intro w hSw
     clear hSw
     first | (go_simp; done) | (go_simp; with_reducible rfl)
    (try simp only [Act.put, u1, u2, u3])
    refine wpAnyH_take (i := 10) (oi := ⟨some 67, .extract (.tmp 57) 1, 2, "l04_carts.go:152", #[⟨8, .data⟩, { on := 12, ground := Ground.gcOnly Departure.lateStores }], none⟩) (v := ?_) rfl (by kernel_rfl) (by kernel_rfl) (by kernel_rfl) (fun _ _ _ h => h) (Or.inl ⟨by rfl, ?_⟩) (by assumption) ?_
    rotate_left
    ·intro w hSw
     clear hSw
     first | (go_simp; done) | (go_simp; with_reducible rfl)
    (try simp only [Act.put, u1, u2, u3])
    have fU := R6.out; have hbl := (aPv fU).1; have dO := aPu (aDB.out.box (.slice va nv vc) (.slice oa no oc) fU (by omega) (by omega))
    have lW := aPu (cF (.slice va nv vc) (.slice oa no oc) fU); have tW : Hid (code = 0 → nv = 4 ∧ fP ((y8.setCell ⟨y0.heap.size, 0, none⟩ (.slice va nv vc)).setCell ⟨y0.heap.size, 1, none⟩ (.slice oa no oc)) w.heap.size ((y8.setCell ⟨y0.heap.size, 0, none⟩ (.slice va nv vc)).setCell ⟨y0.heap.size, 1, none⟩ (.slice oa no oc)).heap.size va vc oa no oc 400) := fun h => ⟨(aDF.out h).1, (fP.other (aDF.out h).2 fU fun j _ _ bJ => aF _ _ bJ).more (by omega) (by rw [aZ]; omega) aPw⟩
    obtain ⟨d0, d1⟩ := pair_cells fU; obtain ⟨f0, f1⟩ := aC fU; have SW : ∀ j, j < k → ((y8.setCell ⟨y0.heap.size, 0, none⟩ (.slice va nv vc)).setCell ⟨y0.heap.size, 1, none⟩ (.slice oa no oc)).cell? ⟨q, j * 2, none⟩ = some (.slice (aI l j).va 4 (aI l j).vc) ∧ ((y8.setCell ⟨y0.heap.size, 0, none⟩ (.slice va nv vc)).setCell ⟨y0.heap.size, 1, none⟩ (.slice oa no oc)).cell? ⟨q, j * 2 + 1, none⟩ = some (.slice (aI l j).oa (aI l j).no (aI l j).oc) := dO.out.cell; refine rk 12 rfl (fun K hK => ?_)
    go_simp
    refine hK.out _ _ SW (fun jQ => ?_)
    clear hK K jQ d0 d1 f0 f1 SW fU
    (try simp only [Act.put, u1, u2, u3])
    generalize (y8.setCell ⟨y0.heap.size, 0, none⟩ (.slice va nv vc)).setCell ⟨y0.heap.size, 1, none⟩ (.slice oa no oc) = zn at lW dO tW ⊢; have B6 : ∀ j, j < k → zn.cell? ⟨q, j * 2, none⟩ = some (.slice (aI l j).va 4 (aI l j).vc) ∧ zn.cell? ⟨q, j * 2 + 1, none⟩ = some (.slice (aI l j).oa (aI l j).no (aI l j).oc) := dO.out.cell; refine wpAnyH_take (i := 13) (oi := ⟨some 14, .assign (.tmp 67), 2, "l04_carts.go:152", #[⟨10, .data⟩, ⟨12, .chain⟩, ⟨0, .phase⟩, ⟨1, .phase⟩, ⟨2, .phase⟩, ⟨3, .phase⟩, ⟨4, .phase⟩, ⟨5, .phase⟩, ⟨6, .phase⟩, ⟨7, .phase⟩, ⟨8, .phase⟩, ⟨9, .phase⟩, ⟨10, .phase⟩, ⟨11, .phase⟩, ⟨12, .phase⟩], none⟩) (v := ?_) rfl (by kernel_rfl) (by kernel_rfl) (by kernel_rfl) (fun _ _ _ h => h) (Or.inl ⟨by rfl, ?_⟩) (by assumption) ?_
    rotate_left
    ·intro w hSw
     clear hSw
     first | (go_simp; done) | (go_simp; with_reducible rfl)
    (try simp only [Act.put, u1, u2, u3])
    refine wpAnyH_done (by kernel_rfl) ?_ _
    clear B6
    by_cases uF : code = 0
    rotate_left
    ·have en : (code == 0) = false := by rw [beq_eq_false_iff_ne]; exact uF
     clear uF; go_wp2
     go_roundw
     case rel => exact ⟨r - 1, l, by omega, by go_num, dO⟩
     case measure => simp [intOf]; omega
    subst uF; obtain ⟨e4, kM⟩ := tW.out rfl; subst e4; have qC := aPu (dO.out.set oL ⟨va, vc, oa, no, oc⟩ kM); obtain ⟨x0, x1⟩ := pair_cells lW.out; obtain ⟨c0, c1⟩ := dO.out.cell i oL; have g0 := dO.out.frozen (i * 2); have g1 := dO.out.frozen (i * 2 + 1); clear kM; go_wp2
    go_roundw
    case rel => exact ⟨r - 1, l.set i ⟨va, vc, oa, no, oc⟩, by omega, by go_num, qC⟩
    case measure => simp [intOf]; omega
end Go.Proofs.YthkagbnpcjidfaaGreatDoor
