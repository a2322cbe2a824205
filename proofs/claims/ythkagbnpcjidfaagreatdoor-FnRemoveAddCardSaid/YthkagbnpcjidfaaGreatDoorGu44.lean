/- Walks and mathematics that several claims share, part 44. -/
import Derived.Test.YthkagbnpcjidfaaGreatDoorGu41
import Derived.Test.YthkagbnpcjidfaaGreatDoorGu42
import Derived.Test.YthkagbnpcjidfaaGreatDoorGu43
import Derived.Deep.Cut
namespace Go.Proofs.YthkagbnpcjidfaaGreatDoor
set_option maxRecDepth 100000
open Go.RowKit
set_option linter.unusedVariables false
set_option linter.unusedSimpArgs false
def aOa (w : World) (e : Ending) (w' : World) : Prop :=
 ∃ va nv vc oa no oc ok, e = .returned (.tuple #[.agg #[.slice va nv vc, .slice oa no oc], .bool ok]) ∧ Below w.heap.size w w' ∧ (ok = true → nv = 4 ∧ fR w' w.heap.size w'.heap.size va vc oa no oc 400)
theorem Q4 (w : World) (lo1 hi1 lo2 hi2 : Nat) (x y : cC) (hx : tL w lo1 hi1 x) (hy : tL w lo2 hi2 y) (h1 : hi1 ≤ w.heap.size) (h2 : hi2 ≤ w.heap.size) :
  Calls Tryz.prog 105 #[.agg #[.slice x.va 4 x.vc, .slice x.oa x.no x.oc], .agg #[.slice y.va 4 y.vc, .slice y.oa y.no y.oc]] w (aOa w) := by
 obtain ⟨xs, l, e1, a1, a2, a3, a4, a5⟩ := hx
 obtain ⟨ys, m, e2, b1, b2, b3, b4, b5⟩ := hy
 rw [e1, e2]
 have n1 := a5.most
 have n2 := b5.most
 refine (aD6 w w.heap.size x.va x.oa y.va y.oa 4 x.vc l.length x.oc 4 y.vc m.length y.oc xs l ys m (a1.ints.more h1) (a2.ops.more h1) (b1.ints.more h2) (b2.ops.more h2) aPq (by omega) (by omega) (fun i hi => Nat.le_trans (a5.item i hi) (by omega)) (by omega) (by omega) (fun i hi => Nat.le_trans (b5.item i hi) (by omega))).mono ?_
 rintro e w' ⟨va, vc, oa, oc, rfl, o1, o2, hb, c1, c2⟩
 refine ⟨va, _, vc, oa, _, oc, _, rfl, hb, fun hR => ?_⟩
 have hp : aE xs l = true ∧ aE ys m = true ∧ qN l m = true := by
  unfold kR at hR; rw [Bool.and_eq_true, Bool.and_eq_true] at hR; exact hR
 have hc := sE.of_cart (g7 hp.1 hp.2.1 hp.2.2)
 rw [hR] at o1 o2 c1 c2 ⊢
 have hl : (uJ xs ys true).length = 4 := hc.len
 rw [hl] at o1 c1
 exact ⟨hl, uJ xs ys true, yG xs ys l m true, rfl, o1, o2, c1, c2, sE.more hc (by omega)⟩
theorem m8 (w : World) (lo hi1 : Nat) (x : cC) (dev kind qty dv sq : Int) (item : ByteArray) (hx : tL w lo hi1 x) (h1 : hi1 ≤ w.heap.size) (hi : item.size ≤ 8) :
  Calls Tryz.prog 18 #[.agg #[.slice x.va 4 x.vc, .slice x.oa x.no x.oc], .int .i64 dev, .agg #[.int .i64 kind, .string item, .int .i64 qty, .int .i64 dv, .int .i64 sq]] w (aI1 320 w) := by
 obtain ⟨xs, l, e1, a1, a2, a3, a4, a5⟩ := hx
 rw [e1]
 have n1 := a5.most
 exact aGc w w.heap.size x.va x.oa x.vc l.length x.oc xs l kind qty dv sq item (a1.ints.more h1) (a2.ops.more h1) aPq a3 a4 hi dev (fun i hi => Nat.le_trans (a5.item i hi) (by omega)) (by omega)
theorem grown_of {w w' : World} {g : Nat} (h : Below w.heap.size w w') : w.grownBy w' (some g) := ⟨h.os, h.tape, h.output, h.size, fun k hk _ => h.block k hk⟩
theorem K3 {w w' : World} (h : Below w.heap.size w w') : w.grownBy w' none := ⟨h.os, h.tape, h.output, h.size, fun k hk _ => h.block k hk⟩
structure mT (w wr : World) (B g : Nat) (a : Option Addr) (len cap q : Nat) (l : List cC) (n : Nat) : Prop where
 num : l.length = n
 row : aMK wr w.heap.size q l
 grown : w.grownBy wr (some g)
 rd : Rd wr B g a len cap
 glt : g < w.heap.size
theorem mT.qlt {w wr : World} {B g : Nat} {a : Option Addr} {len cap q : Nat} {l : List cC} {n : Nat} (h : mT w wr B g a len cap q l n) : q < wr.heap.size := by
 obtain ⟨cs, hq, _⟩ := h.row.cells
 exact (aPp hq).1
theorem mT.step {w wr w1 : World} {B g : Nat} {a : Option Addr} {len cap q : Nat} {l : List cC} {n : Nat} (h : mT w wr B g a len cap q l n) (hg : wr.grownBy w1 (some g)) (hr : Rd w1 B g a len cap) : mT w w1 B g a len cap q l n := by
 have sY := h.glt
 have iE := h.row.lo
 have hq := h.qlt
 have hs := hg.size
 have hk : ∀ j, j < wr.heap.size → j ≠ g → w1.heap[j]? = wr.heap[j]? := fun j h1 h2 => hg.block j h1 (by intro e; injection e with e; exact h2 e)
 obtain ⟨cs, hqc, hc⟩ := h.row.cells
 exact ⟨h.num, ⟨iE, ⟨cs, (hk q hq (by omega)).trans hqc, hc⟩, fun i hi => (fR.kept (h.row.crt i hi) fun j h1 h2 => hk j h2 (by omega)).more aPq hs aPq⟩, h.grown.trans hg, hr, sY⟩
theorem mT.below {w wr w1 : World} {B g : Nat} {a : Option Addr} {len cap q : Nat} {l : List cC} {n : Nat} (h : mT w wr B g a len cap q l n) (hb : Below wr.heap.size wr w1) : mT w w1 B g a len cap q l n :=
 h.step (grown_of hb) (h.rd.grown (K3 hb) fun k hk => by cases hk)
theorem mT.box {w z : World} {B g b : Nat} {a : Option Addr} {len cap q : Nat} {l : List cC} {n : Nat} {cs : Array Value} (u v : Value) (h : mT w z B g a len cap q l n) (hb : z.heap[b]? = some (.cells cs 27 (0, 0))) (hbw : w.heap.size ≤ b) (hbq : b ≠ q) : mT w ((z.setCell ⟨b, 0, none⟩ u).setCell ⟨b, 1, none⟩ v) B g a len cap q l n := by
 have sY := h.glt
 have hB := h.rd.own
 have hz := aY z b u v
 have hk : ∀ j, j ≠ b → ((z.setCell ⟨b, 0, none⟩ u).setCell ⟨b, 1, none⟩ v).heap[j]? = z.heap[j]? := fun j hj => aD _ _ hj
 obtain ⟨cs', hqc, hc⟩ := h.row.cells
 have jH := h.grown
 refine ⟨h.num, ⟨h.row.lo, ⟨cs', (hk q (fun e => hbq e.symm)).trans hqc, hc⟩, fun i hi => ?_⟩, ⟨jH.os, jH.tape, jH.output, by rw [hz]; exact jH.size, fun k h1 h2 => (hk k (by omega)).trans (jH.block k h1 h2)⟩, h.rd.kept fun k qF => hk k (by omega), sY⟩
 rw [hz]
 exact fR.other (h.row.crt i hi) hb fun j _ _ bO => hk j bO
theorem mT.set {w z : World} {B g : Nat} {a : Option Addr} {len cap q : Nat} {l : List cC} {n : Nat} (h : mT w z B g a len cap q l n) {k : Nat} (hk : k < n) (x : cC) (hx : tL z w.heap.size z.heap.size x) : mT w ((z.setCell ⟨q, k * 2, none⟩ (.slice x.va 4 x.vc)).setCell ⟨q, k * 2 + 1, none⟩ (.slice x.oa x.no x.oc)) B g a len cap q (l.set k x) n := by
 have sY := h.glt
 have hB := h.rd.own
 have iE := h.row.lo
 have aNK := h.num
 have hz : ((z.setCell ⟨q, k * 2, none⟩ (.slice x.va 4 x.vc)).setCell ⟨q, k * 2 + 1, none⟩ (.slice x.oa x.no x.oc)).heap.size = z.heap.size := by simp [World.setCell]
 have hkk : ∀ j, j ≠ q → ((z.setCell ⟨q, k * 2, none⟩ (.slice x.va 4 x.vc)).setCell ⟨q, k * 2 + 1, none⟩ (.slice x.oa x.no x.oc)).heap[j]? = z.heap[j]? := fun j hj => (heap_setCell_other _ _ _ _ hj).trans (heap_setCell_other _ _ _ _ hj)
 obtain ⟨cs, hqc, hc⟩ := h.row.cells
 have jH := h.grown
 have h1 := heap_setCell_same _ _ (k * 2) _ _ (.slice x.va 4 x.vc) hqc
 have h2 := heap_setCell_same _ _ (k * 2 + 1) _ _ (.slice x.oa x.no x.oc) h1
 refine ⟨by rw [List.length_set]; exact aNK, ⟨iE, ⟨_, h2, fun i hi => ?_⟩, fun i hi => ?_⟩, ⟨jH.os, jH.tape, jH.output, by rw [hz]; exact jH.size, fun j a1 a2 => (hkk j (by omega)).trans (jH.block j a1 a2)⟩, h.rd.kept fun j hj => hkk j (by omega), sY⟩
 ·rw [List.length_set] at hi
  obtain ⟨c0, c1⟩ := hc i hi; obtain ⟨k0, k1⟩ := hc k (by omega)
  have z0 := (aPp k0).1; have z1 := (aPp k1).1; rw [aEN (by omega)]
  by_cases e : k = i
  ·subst e
   rw [if_pos rfl]; refine ⟨?_, ?_⟩
   ·rw [Array.getElem?_setIfInBounds, if_neg (by omega), Array.getElem?_setIfInBounds, if_pos rfl, if_pos z0]
   ·rw [Array.getElem?_setIfInBounds, if_pos rfl, if_pos (by simpa using z1)]
  ·rw [if_neg e]
   refine ⟨?_, ?_⟩
   ·rw [Array.getElem?_setIfInBounds, if_neg (by omega), Array.getElem?_setIfInBounds, if_neg (by omega)]
    exact c0
   ·rw [Array.getElem?_setIfInBounds, if_neg (by omega), Array.getElem?_setIfInBounds, if_neg (by omega)]
    exact c1
 ·rw [List.length_set] at hi
  rw [hz, aEN (by omega)]
  split
  ·exact fR.other hx hqc fun j _ _ bO => hkk j bO
  ·exact fR.other (h.row.crt i hi) hqc fun j _ _ bO => hkk j bO
theorem mT.cell {w wr : World} {B g : Nat} {a : Option Addr} {len cap q : Nat} {l : List cC} {n : Nat} (h : mT w wr B g a len cap q l n) : ∀ i, i < n → wr.cell? ⟨q, i * 2, none⟩ = some (.slice (aH l i).va 4 (aH l i).vc) ∧ wr.cell? ⟨q, i * 2 + 1, none⟩ = some (.slice (aH l i).oa (aH l i).no (aH l i).oc) := fun i hi => by
 obtain ⟨cs, hq, hc⟩ := h.row.cells
 obtain ⟨c0, c1⟩ := hc i (by rw [h.num]; exact hi)
 exact ⟨(aPr hq).trans c0, (aPr hq).trans c1⟩
theorem mT.frozen {w wr : World} {B g : Nat} {a : Option Addr} {len cap q : Nat} {l : List cC} {n : Nat} (h : mT w wr B g a len cap q l n) (i : Nat) : wr.frozen? ⟨q, i, none⟩ = false := by
 obtain ⟨cs, hq, hc⟩ := h.row.cells
 exact aPs hq
def g9 (n : Nat) (w : World) (B g : Nat) (a : Option Addr) (len cap : Nat) (e : Ending) (w' : World) : Prop :=
 ∃ q c l, e = .returned (.slice (some ⟨q, 0, none⟩) n c) ∧ mT w w' B g a len cap q l n
set_option maxHeartbeats 80000000 in
theorem aJV (w : World) (B g : Nat) (a : Option Addr) (len cap : Nat) (h : Rd w B g a len cap) (n most : Nat) (hn : 0 < n) (hn4 : n ≤ 4) (hm : most ≤ 60) :
  Calls Tryz.prog 75 #[.pointer (some ⟨g, 0, none⟩), .int .i64 (n : Int), .int .i64 (most : Int)] w (g9 n w B g a len cap) := by
 have sY := h.lt
 have hBg := h.own
 have V4 := aPo h
 have bD : Below w.heap.size w (w.alloc (.cells #[] 27)) := (Below.refl _ w).alloc aPq _
 have HI0 : Hid (E4 (w.alloc (.cells #[] 27)) w.heap.size (.slice (some ⟨w.heap.size, 0, none⟩) 0 0) []) := ⟨World.ownsRow_made w #[] 0 aPq (by unfold maxLen; omega) rfl, fun i hi => absurd hi (by simp)⟩
 have pW := aPo bD
 clear h bD
 go_enter Tryz.func75, Tryz.ntmps75
 go_wp2
 go_loopw [7, 8] (fun v i wr => ∃ (k : Nat) (vv : Value) (l : List cC), k ≤ n ∧ vv = v ∧ i = .int .i64 (k : Int) ∧ l.length = k ∧ Hid (E4 wr w.heap.size vv l) ∧ Hid (Below w.heap.size w wr)) (fun _ i _ => n - (intOf i).toNat)
 case atStart => exact ⟨0, _, [], Nat.zero_le _, rfl, rfl, rfl, HI0.out, pW.out⟩
 case round =>
  obtain ⟨k, vv, l, hk, hvv, rfl, hl, HI, HB⟩ := hrel; subst hvv; have hsr := HB.out.size
  by_cases aJ : k < n
  ·have hki : (k : Int) < (n : Int) := by omega
   go_wp2_with fail
   refine (aD7 wr).mono ?_
   rintro e w1 ⟨q, rfl, aLy, aG⟩; have dZ := aPo (HI.out.below aG); have cU := aPo (HB.out.trans (aG.mono hsr)); have eZ := aG.size; obtain ⟨va, vc, w2, hrun, hI2, aM⟩ := dZ.out.push (by omega) (by omega) ⟨some ⟨q, 0, none⟩, 4, none, 0, 0⟩ (fR.more aLy hsr aPq aPq)
   have oL := aPo hI2; have bT := aPo (cU.out.trans aM); rw [hl] at hrun oL; clear aG aLy hI2 aM
   go_wp2_with (at_builtin; refine cY rfl _ _ _ rfl _ _ rfl rfl hrun ?_)
   clear hrun; go_wp2
   go_roundw
   case rel => exact ⟨k + 1, _, l ++ [⟨some ⟨q, 0, none⟩, 4, none, 0, 0⟩], by omega, rfl, by go_num, by simp [hl], oL, bT⟩
   case measure => simp [intOf]; omega
  obtain rfl : k = n := by omega
  obtain ⟨q, c, rfl, hR⟩ := HI.out.form (by omega)
  rw [hl]; have HL : Hid (mT w wr B g a len cap q l k) := ⟨hl, hR, d9 HB.out, V4.out.kept fun j hj => HB.out.block j (by omega), sY⟩
  clear hR aJ hk; have hk0 : 0 ≤ (k : Int) := by omega
  have hmi : 0 ≤ (most : Int) := by omega
  have aOR : (most : Int) ≤ 60 := by omega
  go_wp2_with fail
  refine (lE wr B g a len cap HL.out.rd ((most : Int) + 1) (by omega) (by omega)).mono ?_
  rintro e w1 ⟨r, hr, rfl, bZ, cX⟩; have HL1 := aPo (HL.out.step bZ cX); have aIr : r ≤ 60 := by omega
  clear bZ cX HL HI HB hr HI0 pW V4; go_wp2
  go_loopw [9] (fun i ws => ∃ (r : Nat) (l : List cC), r ≤ 60 ∧ i = .int .i64 (r : Int) ∧ Hid (mT w ws B g a len cap q l k)) (fun i _ => (intOf i).toNat)
  case atStart => exact ⟨r, l, aIr, rfl, HL1.out⟩
  case round =>
   clear aIr HL1 hl; obtain ⟨r, l, aIr, rfl, HL⟩ := hrel
   by_cases nP : 0 < r
   rotate_left
   ·obtain rfl : r = 0 := by omega
    have HE := HL; go_wp2
    go_ret
    exact ⟨q, c, l, rfl, HE.out⟩
   have hri : (0 : Int) < (r : Int) := by omega
   have hqw := HL.out.row.lo
   go_wp2_with fail
   refine (below wr B g a len cap HL.out.rd k hn (by omega)).mono ?_
   rintro e w1 ⟨i, oG, rfl, bZ, cX⟩; have HL1 := aPo (HL.out.step bZ cX); clear bZ cX HL
   go_wp2_with fail
   refine (aBf w1 B g a len cap HL1.out.rd 3 (by omega) (by omega)).mono ?_
   rintro e w2 ⟨o1, rfl, eH, dU⟩; have HL2 := aPo (HL1.out.step eH dU); clear eH dU HL1; have hii : (i : Int) < (k : Int) := by omega
   have hi0 : decide ((i : Int) < 0) = false := decide_eq_false (by omega)
   have aO3 : ¬ ((i : Int) < 0) := by omega
   have hq2 := HL2.out.qlt; cases o1
   rotate_left
   ·skip
    go_upto_region 11 with fail
    obtain ⟨y0, sU⟩ : ∃ y0, w2.drew = y0 := ⟨_, rfl⟩; have iT : Below w2.heap.size w2 y0 := by rw [← sU]; exact ⟨rfl, rfl, rfl, Nat.le_refl _, fun _ _ => rfl⟩
    have M1 := aPo (HL2.out.below iT); have aC1 := iT.size; have Sy0 : ∀ j, j < k → y0.cell? ⟨q, j * 2, none⟩ = some (.slice (aH l j).va 4 (aH l j).vc) ∧ y0.cell? ⟨q, j * 2 + 1, none⟩ = some (.slice (aH l j).oa (aH l j).no (aH l j).oc) := M1.out.cell; refine wp_region_held_drew (S := fun w' => ∀ j, j < k → w'.cell? ⟨q, j * 2, none⟩ = some (.slice (aH l j).va 4 (aH l j).vc) ∧ w'.cell? ⟨q, j * 2 + 1, none⟩ = some (.slice (aH l j).oa (aH l j).no (aH l j).oc)) (by kernel_rfl) (by rw [sU]; exact Sy0) (fun aL => ?_)
    rw [sU]; clear aL sU iT; refine wpAnyH_take (i := 0) (oi := ⟨some 39, .move (.tmp 7), 111, "l04_carts.go:146", #[], none⟩) (v := ?_) rfl (by kernel_rfl) (by kernel_rfl) (by kernel_rfl) (fun _ _ _ h => h) (Or.inl ⟨by rfl, ?_⟩) (by assumption) ?_
    rotate_left
    ·intro w hSw
     clear hSw
     first | (go_simp; done) | (go_simp; with_reducible rfl)
    (try simp only [Act.put, u1, u2, u3])
    refine wpAnyH_take (i := 1) (oi := ⟨some 40, .move (.tmp 10), 3, "l04_carts.go:146", #[], none⟩) (v := ?_) rfl (by kernel_rfl) (by kernel_rfl) (by kernel_rfl) (fun _ _ _ h => h) (Or.inl ⟨by rfl, ?_⟩) (by assumption) ?_
    rotate_left
    ·intro w hSw
     clear hSw
     first | (go_simp; done) | (go_simp; with_reducible rfl)
    (try simp only [Act.put, u1, u2, u3])
    refine wpAnyH_take (i := 2) (oi := ⟨some 41, .indexAddr 111 (.tmp 39) (.tmp 40), 0, "l04_carts.go:146", #[⟨0, .data⟩, ⟨1, .data⟩], none⟩) (v := ?_) rfl (by kernel_rfl) (by kernel_rfl) (by kernel_rfl) (fun _ _ _ h => h) (Or.inl ⟨by rfl, ?_⟩) (by assumption) ?_
    rotate_left
    ·intro w hSw
     clear hSw
     first | (go_simp; done) | (go_simp; with_reducible rfl)
    (try simp only [Act.put, u1, u2, u3])
    refine wpAnyH_take (i := 3) (oi := ⟨some 42, .load 27 (.tmp 41), 27, "l04_carts.go:146", #[⟨2, .data⟩], none⟩) (v := ?_) rfl (by kernel_rfl) (by kernel_rfl) (by kernel_rfl) (fun _ _ _ h => h) (Or.inl ⟨by rfl, ?_⟩) (by assumption) ?_
    rotate_left
    ·intro w hSw
     obtain ⟨c0, c1⟩ := hSw i oG; clear hSw
     first | (go_simp; done) | (go_simp; with_reducible rfl)
    (try simp only [Act.put, u1, u2, u3])
    refine wpAnyH_take (i := 4) (oi := ⟨some 43, .move (.tmp 7), 111, "l04_carts.go:146", #[], none⟩) (v := ?_) rfl (by kernel_rfl) (by kernel_rfl) (by kernel_rfl) (fun _ _ _ h => h) (Or.inl ⟨by rfl, ?_⟩) (by assumption) ?_
    rotate_left
    ·intro w hSw
     clear hSw
     first | (go_simp; done) | (go_simp; with_reducible rfl)
    (try simp only [Act.put, u1, u2, u3])
    refine wpAnyH_take (i := 5) (oi := ⟨some 44, .move (.tmp 0), 57, "l04_carts.go:146", #[], none⟩) (v := ?_) rfl (by kernel_rfl) (by kernel_rfl) (by kernel_rfl) (fun _ _ _ h => h) (Or.inl ⟨by rfl, ?_⟩) (by assumption) ?_
    rotate_left
    ·intro w hSw
     clear hSw
     first | (go_simp; done) | (go_simp; with_reducible rfl)
    (try simp only [Act.put, u1, u2, u3])
    refine wpAnyH_take (i := 6) (oi := ⟨some 45, .move (.tmp 1), 3, "l04_carts.go:146", #[], none⟩) (v := ?_) rfl (by kernel_rfl) (by kernel_rfl) (by kernel_rfl) (fun _ _ _ h => h) (Or.inl ⟨by rfl, ?_⟩) (by assumption) ?_
    rotate_left
    ·intro w hSw
     clear hSw
     first | (go_simp; done) | (go_simp; with_reducible rfl)
    (try simp only [Act.put, u1, u2, u3])
    refine wpAnyH_ready (rs := [7, 14]) (by kernel_rfl) (by simp) ?_
    refine (AllReadyH.cons rfl (fun K hK => ?_) (AllReadyH.cons rfl (fun K hK => ?_) AllReadyH.nil))
    ·skip
     go_simp
     go_at_call 76
     refine (below y0 B g a len cap M1.out.rd k hn (by omega)).mono ?_
     rintro e y1 ⟨j, hjk, rfl, vP, N0⟩; have hji : (j : Int) < (k : Int) := by omega
     have hj0 : decide ((j : Int) < 0) = false := decide_eq_false (by omega)
     have p5 : ¬ ((j : Int) < 0) := by omega
     have uY := aPo (M1.out.step vP N0); have aC0 : w2.heap.size ≤ y1.heap.size := Nat.le_trans aC1 vP.size; have Sy1 : ∀ j, j < k → y1.cell? ⟨q, j * 2, none⟩ = some (.slice (aH l j).va 4 (aH l j).vc) ∧ y1.cell? ⟨q, j * 2 + 1, none⟩ = some (.slice (aH l j).oa (aH l j).no (aH l j).oc) := uY.out.cell; refine hK.out _ _ Sy1 (fun pR => ?_)
     clear hK K pR vP N0 Sy0
     (try simp only [Act.put, u1, u2, u3])
     refine wpAnyH_take (i := 8) (oi := ⟨some 47, .indexAddr 111 (.tmp 43) (.tmp 46), 0, "l04_carts.go:146", #[⟨4, .data⟩, ⟨7, .data⟩], none⟩) (v := ?_) rfl (by kernel_rfl) (by kernel_rfl) (by kernel_rfl) (fun _ _ _ h => h) (Or.inl ⟨by rfl, ?_⟩) (by assumption) ?_
     rotate_left
     ·intro w hSw
      clear hSw
      first | (go_simp; done) | (go_simp; with_reducible rfl)
     (try simp only [Act.put, u1, u2, u3])
     refine wpAnyH_take (i := 9) (oi := ⟨some 48, .load 27 (.tmp 47), 27, "l04_carts.go:146", #[⟨8, .data⟩], none⟩) (v := ?_) rfl (by kernel_rfl) (by kernel_rfl) (by kernel_rfl) (fun _ _ _ h => h) (Or.inl ⟨by rfl, ?_⟩) (by assumption) ?_
     rotate_left
     ·intro w hSw
      obtain ⟨c0, c1⟩ := hSw j hjk; clear hSw
      first | (go_simp; done) | (go_simp; with_reducible rfl)
     (try simp only [Act.put, u1, u2, u3])
     refine wpAnyH_ready (rs := [10, 14]) (by kernel_rfl) (by simp) ?_
     refine (AllReadyH.cons rfl (fun K hK => ?_) (AllReadyH.cons rfl (fun K hK => ?_) AllReadyH.nil))
     ·skip
      go_simp
      go_at_call 105
      refine (Q4 y1 w.heap.size y1.heap.size w.heap.size y1.heap.size (aH l i) (aH l j) (uY.out.row.crt i (by rw [uY.out.num]; exact oG)) (uY.out.row.crt j (by rw [uY.out.num]; exact hjk)) aPq aPq).mono ?_
      rintro e y2 ⟨va, nv, vc, oa, no, oc, ok, rfl, eM, kE⟩; have aDS := aPo (uY.out.below eM); have aIp : w2.heap.size ≤ y2.heap.size := Nat.le_trans aC0 eM.size; have Sy2 : ∀ j, j < k → y2.cell? ⟨q, j * 2, none⟩ = some (.slice (aH l j).va 4 (aH l j).vc) ∧ y2.cell? ⟨q, j * 2 + 1, none⟩ = some (.slice (aH l j).oa (aH l j).no (aH l j).oc) := aDS.out.cell; have aDY : Hid (ok = true → nv = 4 ∧ fR y2 y1.heap.size y2.heap.size va vc oa no oc 400) := kE; have aMS := eM.size; refine hK.out _ _ Sy2 (fun jK => ?_)
      clear hK K jK eM kE Sy1
      (try simp only [Act.put, u1, u2, u3])
      refine wpAnyH_take (i := 11) (oi := ⟨some 38, .move (.tmp 49), 132, "l04_carts.go:146", #[⟨10, .data⟩], none⟩) (v := ?_) rfl (by kernel_rfl) (by kernel_rfl) (by kernel_rfl) (fun _ _ _ h => h) (Or.inl ⟨by rfl, ?_⟩) (by assumption) ?_
      rotate_left
      ·intro w hSw
       clear hSw
       first | (go_simp; done) | (go_simp; with_reducible rfl)
      (try simp only [Act.put, u1, u2, u3])
      refine wpAnyH_take (i := 12) (oi := ⟨some 50, .extract (.tmp 38) 0, 27, "l04_carts.go:146", #[⟨11, .data⟩], none⟩) (v := ?_) rfl (by kernel_rfl) (by kernel_rfl) (by kernel_rfl) (fun _ _ _ h => h) (Or.inl ⟨by rfl, ?_⟩) (by assumption) ?_
      rotate_left
      ·intro w hSw
       clear hSw
       first | (go_simp; done) | (go_simp; with_reducible rfl)
      (try simp only [Act.put, u1, u2, u3])
      refine wpAnyH_take (i := 13) (oi := ⟨some 51, .extract (.tmp 38) 1, 4, "l04_carts.go:146", #[⟨11, .data⟩, { on := 15, ground := Ground.gcOnly Departure.lateStores }], none⟩) (v := ?_) rfl (by kernel_rfl) (by kernel_rfl) (by kernel_rfl) (fun _ _ _ h => h) (Or.inl ⟨by rfl, ?_⟩) (by assumption) ?_
      rotate_left
      ·intro w hSw
       clear hSw
       first | (go_simp; done) | (go_simp; with_reducible rfl)
      (try simp only [Act.put, u1, u2, u3])
      refine wpAnyH_ready (rs := [14]) (by kernel_rfl) (by simp) ?_
      refine (AllReadyH.cons rfl (fun K hK => ?_) AllReadyH.nil)
      have dR : Below y2.heap.size y2 (y2.alloc (.cells #[.slice none 0 0, .slice none 0 0] 27)) := bl; have iU := bX (Below.refl _ (y2.alloc (.cells #[.slice none 0 0, .slice none 0 0] 27))); have mH := aPo (aDS.out.below dR); have SA : ∀ j, j < k → (y2.alloc (.cells #[.slice none 0 0, .slice none 0 0] 27)).cell? ⟨q, j * 2, none⟩ = some (.slice (aH l j).va 4 (aH l j).vc) ∧ (y2.alloc (.cells #[.slice none 0 0, .slice none 0 0] 27)).cell? ⟨q, j * 2 + 1, none⟩ = some (.slice (aH l j).oa (aH l j).no (aH l j).oc) := mH.out.cell
      go_simp
      refine hK.out _ _ SA (fun jM => ?_)
      clear hK K jM
      (try simp only [Act.put, u1, u2, u3])
      generalize y2.alloc (.cells #[.slice none 0 0, .slice none 0 0] 27) = y3 at dR iU mH SA ⊢; have Sy3 := SA; clear SA Sy2; have m9 := aPo iU; have aI8 := mH; have aNu : w2.heap.size ≤ y3.heap.size := Nat.le_trans aIp dR.size; have aDX : Hid (ok = true → nv = 4 ∧ fR y3 y1.heap.size y2.heap.size va vc oa no oc 400) := fun h => ⟨(aDY.out h).1, (aDY.out h).2.below dR (by omega)⟩
      clear iU mH dR; have fY := m9.out; have hbl := (aPp fY).1; have dV := aPo (aI8.out.box (.slice va nv vc) (.slice oa no oc) fY (by omega) (by omega))
      have mG := aPo (cE (.slice va nv vc) (.slice oa no oc) fY); have tK : Hid (ok = true → nv = 4 ∧ fR ((y3.setCell ⟨y2.heap.size, 0, none⟩ (.slice va nv vc)).setCell ⟨y2.heap.size, 1, none⟩ (.slice oa no oc)) w.heap.size ((y3.setCell ⟨y2.heap.size, 0, none⟩ (.slice va nv vc)).setCell ⟨y2.heap.size, 1, none⟩ (.slice oa no oc)).heap.size va vc oa no oc 400) := fun h => ⟨(aDX.out h).1, (fR.other (aDX.out h).2 fY fun j _ _ bO => aD _ _ bO).more (by omega) (by rw [aY]; omega) aPq⟩
      obtain ⟨d0, d1⟩ := pair_cells fY; obtain ⟨f0, f1⟩ := aB fY; have SW : ∀ j, j < k → ((y3.setCell ⟨y2.heap.size, 0, none⟩ (.slice va nv vc)).setCell ⟨y2.heap.size, 1, none⟩ (.slice oa no oc)).cell? ⟨q, j * 2, none⟩ = some (.slice (aH l j).va 4 (aH l j).vc) ∧ ((y3.setCell ⟨y2.heap.size, 0, none⟩ (.slice va nv vc)).setCell ⟨y2.heap.size, 1, none⟩ (.slice oa no oc)).cell? ⟨q, j * 2 + 1, none⟩ = some (.slice (aH l j).oa (aH l j).no (aH l j).oc) := dV.out.cell; refine rk 15 rfl (fun K hK => ?_)
      go_simp
      refine hK.out _ _ SW (fun jL => ?_)
      clear hK K jL d0 d1 f0 f1 SW fY
      (try simp only [Act.put, u1, u2, u3])
      generalize (y3.setCell ⟨y2.heap.size, 0, none⟩ (.slice va nv vc)).setCell ⟨y2.heap.size, 1, none⟩ (.slice oa no oc) = zn at mG dV tK ⊢; have C0 : ∀ j, j < k → zn.cell? ⟨q, j * 2, none⟩ = some (.slice (aH l j).va 4 (aH l j).vc) ∧ zn.cell? ⟨q, j * 2 + 1, none⟩ = some (.slice (aH l j).oa (aH l j).no (aH l j).oc) := dV.out.cell; refine wpAnyH_take (i := 16) (oi := ⟨some 12, .assign (.tmp 51), 4, "l04_carts.go:146", #[⟨13, .data⟩, ⟨15, .chain⟩, ⟨0, .phase⟩, ⟨1, .phase⟩, ⟨2, .phase⟩, ⟨3, .phase⟩, ⟨4, .phase⟩, ⟨5, .phase⟩, ⟨6, .phase⟩, ⟨7, .phase⟩, ⟨8, .phase⟩, ⟨9, .phase⟩, ⟨10, .phase⟩, ⟨11, .phase⟩, ⟨12, .phase⟩, ⟨13, .phase⟩, ⟨14, .phase⟩, ⟨15, .phase⟩], none⟩) (v := ?_) rfl (by kernel_rfl) (by kernel_rfl) (by kernel_rfl) (fun _ _ _ h => h) (Or.inl ⟨by rfl, ?_⟩) (by assumption) ?_
      rotate_left
      ·intro w hSw
       clear hSw
       first | (go_simp; done) | (go_simp; with_reducible rfl)
      (try simp only [Act.put, u1, u2, u3])
      refine wpAnyH_done (by kernel_rfl) ?_ _
      clear C0; cases ok
      ·skip
       go_wp2
       go_roundw
       case rel => exact ⟨r - 1, l, by omega, by go_num, dV⟩
       case measure => simp [intOf]; omega
      obtain ⟨e4, lY⟩ := tK.out rfl; subst e4; have oK := aPo (dV.out.set oG ⟨va, vc, oa, no, oc⟩ lY); obtain ⟨x0, x1⟩ := pair_cells mG.out; obtain ⟨c0, c1⟩ := dV.out.cell i oG; have g0 := dV.out.frozen (i * 2); have g1 := dV.out.frozen (i * 2 + 1); clear lY; go_wp2
      go_roundw
      case rel => exact ⟨r - 1, l.set i ⟨va, vc, oa, no, oc⟩, by omega, by go_num, oK⟩
      case measure => simp [intOf]; omega
     ·skip
      have dR : Below y1.heap.size y1 (y1.alloc (.cells #[.slice none 0 0, .slice none 0 0] 27)) := bl; have iU := bX (Below.refl _ (y1.alloc (.cells #[.slice none 0 0, .slice none 0 0] 27))); have mH := aPo (uY.out.below dR); have SA : ∀ j, j < k → (y1.alloc (.cells #[.slice none 0 0, .slice none 0 0] 27)).cell? ⟨q, j * 2, none⟩ = some (.slice (aH l j).va 4 (aH l j).vc) ∧ (y1.alloc (.cells #[.slice none 0 0, .slice none 0 0] 27)).cell? ⟨q, j * 2 + 1, none⟩ = some (.slice (aH l j).oa (aH l j).no (aH l j).oc) := mH.out.cell
      go_simp
      refine hK.out _ _ SA (fun jM => ?_)
      clear hK K jM
      (try simp only [Act.put, u1, u2, u3])
      generalize y1.alloc (.cells #[.slice none 0 0, .slice none 0 0] 27) = y4 at dR iU mH SA ⊢; have Sy4 := SA; clear SA Sy1; have S1 := aPo iU; have M0 := mH; have aIo : w2.heap.size ≤ y4.heap.size := Nat.le_trans aC0 dR.size; clear iU mH dR; refine wpAnyH_ready (rs := [10]) (by kernel_rfl) (by simp) ?_
      refine (AllReadyH.cons rfl (fun K hK => ?_) AllReadyH.nil)
      go_simp
      go_at_call 105
      refine (Q4 y4 w.heap.size y4.heap.size w.heap.size y4.heap.size (aH l i) (aH l j) (M0.out.row.crt i (by rw [M0.out.num]; exact oG)) (M0.out.row.crt j (by rw [M0.out.num]; exact hjk)) aPq aPq).mono ?_
      rintro e y5 ⟨va, nv, vc, oa, no, oc, ok, rfl, eM, kE⟩; have aDR := aPo (M0.out.below eM); have aNt : w2.heap.size ≤ y5.heap.size := Nat.le_trans aIo eM.size; have Sy5 : ∀ j, j < k → y5.cell? ⟨q, j * 2, none⟩ = some (.slice (aH l j).va 4 (aH l j).vc) ∧ y5.cell? ⟨q, j * 2 + 1, none⟩ = some (.slice (aH l j).oa (aH l j).no (aH l j).oc) := aDR.out.cell; have S0 := aPo ((eM.block _ (aPp S1.out).1).trans S1.out); have aDW : Hid (ok = true → nv = 4 ∧ fR y5 y4.heap.size y5.heap.size va vc oa no oc 400) := kE; have aMR := eM.size; refine hK.out _ _ Sy5 (fun jK => ?_)
      clear hK K jK eM kE Sy4
      (try simp only [Act.put, u1, u2, u3])
      refine wpAnyH_take (i := 11) (oi := ⟨some 38, .move (.tmp 49), 132, "l04_carts.go:146", #[⟨10, .data⟩], none⟩) (v := ?_) rfl (by kernel_rfl) (by kernel_rfl) (by kernel_rfl) (fun _ _ _ h => h) (Or.inl ⟨by rfl, ?_⟩) (by assumption) ?_
      rotate_left
      ·intro w hSw
       clear hSw
       first | (go_simp; done) | (go_simp; with_reducible rfl)
      (try simp only [Act.put, u1, u2, u3])
      refine wpAnyH_take (i := 12) (oi := ⟨some 50, .extract (.tmp 38) 0, 27, "l04_carts.go:146", #[⟨11, .data⟩], none⟩) (v := ?_) rfl (by kernel_rfl) (by kernel_rfl) (by kernel_rfl) (fun _ _ _ h => h) (Or.inl ⟨by rfl, ?_⟩) (by assumption) ?_
      rotate_left
      ·intro w hSw
       clear hSw
       first | (go_simp; done) | (go_simp; with_reducible rfl)
      (try simp only [Act.put, u1, u2, u3])
      refine wpAnyH_take (i := 13) (oi := ⟨some 51, .extract (.tmp 38) 1, 4, "l04_carts.go:146", #[⟨11, .data⟩, { on := 15, ground := Ground.gcOnly Departure.lateStores }], none⟩) (v := ?_) rfl (by kernel_rfl) (by kernel_rfl) (by kernel_rfl) (fun _ _ _ h => h) (Or.inl ⟨by rfl, ?_⟩) (by assumption) ?_
      rotate_left
      ·intro w hSw
       clear hSw
       first | (go_simp; done) | (go_simp; with_reducible rfl)
      (try simp only [Act.put, u1, u2, u3])
      have fY := S0.out; have hbl := (aPp fY).1; have dV := aPo (aDR.out.box (.slice va nv vc) (.slice oa no oc) fY (by omega) (by omega))
      have mG := aPo (cE (.slice va nv vc) (.slice oa no oc) fY); have tK : Hid (ok = true → nv = 4 ∧ fR ((y5.setCell ⟨y1.heap.size, 0, none⟩ (.slice va nv vc)).setCell ⟨y1.heap.size, 1, none⟩ (.slice oa no oc)) w.heap.size ((y5.setCell ⟨y1.heap.size, 0, none⟩ (.slice va nv vc)).setCell ⟨y1.heap.size, 1, none⟩ (.slice oa no oc)).heap.size va vc oa no oc 400) := fun h => ⟨(aDW.out h).1, (fR.other (aDW.out h).2 fY fun j _ _ bO => aD _ _ bO).more (by omega) (by rw [aY]; omega) aPq⟩
      obtain ⟨d0, d1⟩ := pair_cells fY; obtain ⟨f0, f1⟩ := aB fY; have SW : ∀ j, j < k → ((y5.setCell ⟨y1.heap.size, 0, none⟩ (.slice va nv vc)).setCell ⟨y1.heap.size, 1, none⟩ (.slice oa no oc)).cell? ⟨q, j * 2, none⟩ = some (.slice (aH l j).va 4 (aH l j).vc) ∧ ((y5.setCell ⟨y1.heap.size, 0, none⟩ (.slice va nv vc)).setCell ⟨y1.heap.size, 1, none⟩ (.slice oa no oc)).cell? ⟨q, j * 2 + 1, none⟩ = some (.slice (aH l j).oa (aH l j).no (aH l j).oc) := dV.out.cell; refine rk 15 rfl (fun K hK => ?_)
      go_simp
      refine hK.out _ _ SW (fun jL => ?_)
      clear hK K jL d0 d1 f0 f1 SW fY
      (try simp only [Act.put, u1, u2, u3])
      generalize (y5.setCell ⟨y1.heap.size, 0, none⟩ (.slice va nv vc)).setCell ⟨y1.heap.size, 1, none⟩ (.slice oa no oc) = zn at mG dV tK ⊢; have C0 : ∀ j, j < k → zn.cell? ⟨q, j * 2, none⟩ = some (.slice (aH l j).va 4 (aH l j).vc) ∧ zn.cell? ⟨q, j * 2 + 1, none⟩ = some (.slice (aH l j).oa (aH l j).no (aH l j).oc) := dV.out.cell; refine wpAnyH_take (i := 16) (oi := ⟨some 12, .assign (.tmp 51), 4, "l04_carts.go:146", #[⟨13, .data⟩, ⟨15, .chain⟩, ⟨0, .phase⟩, ⟨1, .phase⟩, ⟨2, .phase⟩, ⟨3, .phase⟩, ⟨4, .phase⟩, ⟨5, .phase⟩, ⟨6, .phase⟩, ⟨7, .phase⟩, ⟨8, .phase⟩, ⟨9, .phase⟩, ⟨10, .phase⟩, ⟨11, .phase⟩, ⟨12, .phase⟩, ⟨13, .phase⟩, ⟨14, .phase⟩, ⟨15, .phase⟩], none⟩) (v := ?_) rfl (by kernel_rfl) (by kernel_rfl) (by kernel_rfl) (fun _ _ _ h => h) (Or.inl ⟨by rfl, ?_⟩) (by assumption) ?_
      rotate_left
      ·intro w hSw
       clear hSw
       first | (go_simp; done) | (go_simp; with_reducible rfl)
      (try simp only [Act.put, u1, u2, u3])
      refine wpAnyH_done (by kernel_rfl) ?_ _
      clear C0; cases ok
      ·skip
       go_wp2
       go_roundw
       case rel => exact ⟨r - 1, l, by omega, by go_num, dV⟩
       case measure => simp [intOf]; omega
      obtain ⟨e4, lY⟩ := tK.out rfl; subst e4; have oK := aPo (dV.out.set oG ⟨va, vc, oa, no, oc⟩ lY); obtain ⟨x0, x1⟩ := pair_cells mG.out; obtain ⟨c0, c1⟩ := dV.out.cell i oG; have g0 := dV.out.frozen (i * 2); have g1 := dV.out.frozen (i * 2 + 1); clear lY; go_wp2
      go_roundw
      case rel => exact ⟨r - 1, l.set i ⟨va, vc, oa, no, oc⟩, by omega, by go_num, oK⟩
      case measure => simp [intOf]; omega
    ·skip
     have dR : Below y0.heap.size y0 (y0.alloc (.cells #[.slice none 0 0, .slice none 0 0] 27)) := bl; have iU := bX (Below.refl _ (y0.alloc (.cells #[.slice none 0 0, .slice none 0 0] 27))); have mH := aPo (M1.out.below dR); have SA : ∀ j, j < k → (y0.alloc (.cells #[.slice none 0 0, .slice none 0 0] 27)).cell? ⟨q, j * 2, none⟩ = some (.slice (aH l j).va 4 (aH l j).vc) ∧ (y0.alloc (.cells #[.slice none 0 0, .slice none 0 0] 27)).cell? ⟨q, j * 2 + 1, none⟩ = some (.slice (aH l j).oa (aH l j).no (aH l j).oc) := mH.out.cell
     go_simp
     refine hK.out _ _ SA (fun jM => ?_)
     clear hK K jM
     (try simp only [Act.put, u1, u2, u3])
     generalize y0.alloc (.cells #[.slice none 0 0, .slice none 0 0] 27) = y6 at dR iU mH SA ⊢; have Sy6 := SA; clear SA Sy0; have R9 := aPo iU; have aDQ := mH; have aIn : w2.heap.size ≤ y6.heap.size := Nat.le_trans aC1 dR.size; clear iU mH dR; refine wpAnyH_ready (rs := [7]) (by kernel_rfl) (by simp) ?_
     refine (AllReadyH.cons rfl (fun K hK => ?_) AllReadyH.nil)
     go_simp
     go_at_call 76
     refine (below y6 B g a len cap aDQ.out.rd k hn (by omega)).mono ?_
     rintro e y7 ⟨j, hjk, rfl, vP, N0⟩; have hji : (j : Int) < (k : Int) := by omega
     have hj0 : decide ((j : Int) < 0) = false := decide_eq_false (by omega)
     have p5 : ¬ ((j : Int) < 0) := by omega
     have zR := aPo (aDQ.out.step vP N0); have aIm : w2.heap.size ≤ y7.heap.size := Nat.le_trans aIn vP.size; have Sy7 : ∀ j, j < k → y7.cell? ⟨q, j * 2, none⟩ = some (.slice (aH l j).va 4 (aH l j).vc) ∧ y7.cell? ⟨q, j * 2 + 1, none⟩ = some (.slice (aH l j).oa (aH l j).no (aH l j).oc) := zR.out.cell; have J6 := aPo ((vP.block _ (aPp R9.out).1 (by intro e; injection e with e; omega)).trans R9.out)
     refine hK.out _ _ Sy7 (fun pR => ?_)
     clear hK K pR vP N0 Sy6
     (try simp only [Act.put, u1, u2, u3])
     refine wpAnyH_take (i := 8) (oi := ⟨some 47, .indexAddr 111 (.tmp 43) (.tmp 46), 0, "l04_carts.go:146", #[⟨4, .data⟩, ⟨7, .data⟩], none⟩) (v := ?_) rfl (by kernel_rfl) (by kernel_rfl) (by kernel_rfl) (fun _ _ _ h => h) (Or.inl ⟨by rfl, ?_⟩) (by assumption) ?_
     rotate_left
     ·intro w hSw
      clear hSw
      first | (go_simp; done) | (go_simp; with_reducible rfl)
     (try simp only [Act.put, u1, u2, u3])
     refine wpAnyH_take (i := 9) (oi := ⟨some 48, .load 27 (.tmp 47), 27, "l04_carts.go:146", #[⟨8, .data⟩], none⟩) (v := ?_) rfl (by kernel_rfl) (by kernel_rfl) (by kernel_rfl) (fun _ _ _ h => h) (Or.inl ⟨by rfl, ?_⟩) (by assumption) ?_
     rotate_left
     ·intro w hSw
      obtain ⟨c0, c1⟩ := hSw j hjk; clear hSw
      first | (go_simp; done) | (go_simp; with_reducible rfl)
     (try simp only [Act.put, u1, u2, u3])
     refine wpAnyH_ready (rs := [10]) (by kernel_rfl) (by simp) ?_
     refine (AllReadyH.cons rfl (fun K hK => ?_) AllReadyH.nil)
     go_simp
     go_at_call 105
     refine (Q4 y7 w.heap.size y7.heap.size w.heap.size y7.heap.size (aH l i) (aH l j) (zR.out.row.crt i (by rw [zR.out.num]; exact oG)) (zR.out.row.crt j (by rw [zR.out.num]; exact hjk)) aPq aPq).mono ?_
     rintro e y8 ⟨va, nv, vc, oa, no, oc, ok, rfl, eM, kE⟩; have aDP := aPo (zR.out.below eM); have aNs : w2.heap.size ≤ y8.heap.size := Nat.le_trans aIm eM.size; have Sy8 : ∀ j, j < k → y8.cell? ⟨q, j * 2, none⟩ = some (.slice (aH l j).va 4 (aH l j).vc) ∧ y8.cell? ⟨q, j * 2 + 1, none⟩ = some (.slice (aH l j).oa (aH l j).no (aH l j).oc) := aDP.out.cell; have R8 := aPo ((eM.block _ (aPp J6.out).1).trans J6.out); have aDV : Hid (ok = true → nv = 4 ∧ fR y8 y7.heap.size y8.heap.size va vc oa no oc 400) := kE; have aMQ := eM.size; refine hK.out _ _ Sy8 (fun jK => ?_)
     clear hK K jK eM kE Sy7
     (try simp only [Act.put, u1, u2, u3])
     refine wpAnyH_take (i := 11) (oi := ⟨some 38, .move (.tmp 49), 132, "l04_carts.go:146", #[⟨10, .data⟩], none⟩) (v := ?_) rfl (by kernel_rfl) (by kernel_rfl) (by kernel_rfl) (fun _ _ _ h => h) (Or.inl ⟨by rfl, ?_⟩) (by assumption) ?_
     rotate_left
     ·intro w hSw
      clear hSw
      first | (go_simp; done) | (go_simp; with_reducible rfl)
     (try simp only [Act.put, u1, u2, u3])
     refine wpAnyH_take (i := 12) (oi := ⟨some 50, .extract (.tmp 38) 0, 27, "l04_carts.go:146", #[⟨11, .data⟩], none⟩) (v := ?_) rfl (by kernel_rfl) (by kernel_rfl) (by kernel_rfl) (fun _ _ _ h => h) (Or.inl ⟨by rfl, ?_⟩) (by assumption) ?_
     rotate_left
     ·intro w hSw
      clear hSw
      first | (go_simp; done) | (go_simp; with_reducible rfl)
     (try simp only [Act.put, u1, u2, u3])
     refine wpAnyH_take (i := 13) (oi := ⟨some 51, .extract (.tmp 38) 1, 4, "l04_carts.go:146", #[⟨11, .data⟩, { on := 15, ground := Ground.gcOnly Departure.lateStores }], none⟩) (v := ?_) rfl (by kernel_rfl) (by kernel_rfl) (by kernel_rfl) (fun _ _ _ h => h) (Or.inl ⟨by rfl, ?_⟩) (by assumption) ?_
     rotate_left
     ·intro w hSw
      clear hSw
      first | (go_simp; done) | (go_simp; with_reducible rfl)
     (try simp only [Act.put, u1, u2, u3])
     have fY := R8.out; have hbl := (aPp fY).1; have dV := aPo (aDP.out.box (.slice va nv vc) (.slice oa no oc) fY (by omega) (by omega))
     have mG := aPo (cE (.slice va nv vc) (.slice oa no oc) fY); have tK : Hid (ok = true → nv = 4 ∧ fR ((y8.setCell ⟨y0.heap.size, 0, none⟩ (.slice va nv vc)).setCell ⟨y0.heap.size, 1, none⟩ (.slice oa no oc)) w.heap.size ((y8.setCell ⟨y0.heap.size, 0, none⟩ (.slice va nv vc)).setCell ⟨y0.heap.size, 1, none⟩ (.slice oa no oc)).heap.size va vc oa no oc 400) := fun h => ⟨(aDV.out h).1, (fR.other (aDV.out h).2 fY fun j _ _ bO => aD _ _ bO).more (by omega) (by rw [aY]; omega) aPq⟩
     obtain ⟨d0, d1⟩ := pair_cells fY; obtain ⟨f0, f1⟩ := aB fY; have SW : ∀ j, j < k → ((y8.setCell ⟨y0.heap.size, 0, none⟩ (.slice va nv vc)).setCell ⟨y0.heap.size, 1, none⟩ (.slice oa no oc)).cell? ⟨q, j * 2, none⟩ = some (.slice (aH l j).va 4 (aH l j).vc) ∧ ((y8.setCell ⟨y0.heap.size, 0, none⟩ (.slice va nv vc)).setCell ⟨y0.heap.size, 1, none⟩ (.slice oa no oc)).cell? ⟨q, j * 2 + 1, none⟩ = some (.slice (aH l j).oa (aH l j).no (aH l j).oc) := dV.out.cell; refine rk 15 rfl (fun K hK => ?_)
     go_simp
     refine hK.out _ _ SW (fun jL => ?_)
     clear hK K jL d0 d1 f0 f1 SW fY
     (try simp only [Act.put, u1, u2, u3])
     generalize (y8.setCell ⟨y0.heap.size, 0, none⟩ (.slice va nv vc)).setCell ⟨y0.heap.size, 1, none⟩ (.slice oa no oc) = zn at mG dV tK ⊢; have C0 : ∀ j, j < k → zn.cell? ⟨q, j * 2, none⟩ = some (.slice (aH l j).va 4 (aH l j).vc) ∧ zn.cell? ⟨q, j * 2 + 1, none⟩ = some (.slice (aH l j).oa (aH l j).no (aH l j).oc) := dV.out.cell; refine wpAnyH_take (i := 16) (oi := ⟨some 12, .assign (.tmp 51), 4, "l04_carts.go:146", #[⟨13, .data⟩, ⟨15, .chain⟩, ⟨0, .phase⟩, ⟨1, .phase⟩, ⟨2, .phase⟩, ⟨3, .phase⟩, ⟨4, .phase⟩, ⟨5, .phase⟩, ⟨6, .phase⟩, ⟨7, .phase⟩, ⟨8, .phase⟩, ⟨9, .phase⟩, ⟨10, .phase⟩, ⟨11, .phase⟩, ⟨12, .phase⟩, ⟨13, .phase⟩, ⟨14, .phase⟩, ⟨15, .phase⟩], none⟩) (v := ?_) rfl (by kernel_rfl) (by kernel_rfl) (by kernel_rfl) (fun _ _ _ h => h) (Or.inl ⟨by rfl, ?_⟩) (by assumption) ?_
     rotate_left
     ·intro w hSw
      clear hSw
      first | (go_simp; done) | (go_simp; with_reducible rfl)
     (try simp only [Act.put, u1, u2, u3])
     refine wpAnyH_done (by kernel_rfl) ?_ _
     clear C0; cases ok
     ·skip
      go_wp2
      go_roundw
      case rel => exact ⟨r - 1, l, by omega, by go_num, dV⟩
      case measure => simp [intOf]; omega
     obtain ⟨e4, lY⟩ := tK.out rfl; subst e4; have oK := aPo (dV.out.set oG ⟨va, vc, oa, no, oc⟩ lY); obtain ⟨x0, x1⟩ := pair_cells mG.out; obtain ⟨c0, c1⟩ := dV.out.cell i oG; have g0 := dV.out.frozen (i * 2); have g1 := dV.out.frozen (i * 2 + 1); clear lY; go_wp2
     go_roundw
     case rel => exact ⟨r - 1, l.set i ⟨va, vc, oa, no, oc⟩, by omega, by go_num, oK⟩
     case measure => simp [intOf]; omega
   go_upto_region 14 with fail
   obtain ⟨y0, sU⟩ : ∃ y0, w2.drew = y0 := ⟨_, rfl⟩; have iT : Below w2.heap.size w2 y0 := by rw [← sU]; exact ⟨rfl, rfl, rfl, Nat.le_refl _, fun _ _ => rfl⟩
   have M1 := aPo (HL2.out.below iT); have aC1 := iT.size; have Sy0 : ∀ j, j < k → y0.cell? ⟨q, j * 2, none⟩ = some (.slice (aH l j).va 4 (aH l j).vc) ∧ y0.cell? ⟨q, j * 2 + 1, none⟩ = some (.slice (aH l j).oa (aH l j).no (aH l j).oc) := M1.out.cell; refine wp_region_held_drew (S := fun w' => ∀ j, j < k → w'.cell? ⟨q, j * 2, none⟩ = some (.slice (aH l j).va 4 (aH l j).vc) ∧ w'.cell? ⟨q, j * 2 + 1, none⟩ = some (.slice (aH l j).oa (aH l j).no (aH l j).oc)) (by kernel_rfl) (by rw [sU]; exact Sy0) (fun aL => ?_)
   rw [sU]; clear aL sU iT; refine wpAnyH_take (i := 0) (oi := ⟨some 58, .move (.tmp 7), 111, "l04_carts.go:152", #[], none⟩) (v := ?_) rfl (by kernel_rfl) (by kernel_rfl) (by kernel_rfl) (fun _ _ _ h => h) (Or.inl ⟨by rfl, ?_⟩) (by assumption) ?_
   rotate_left
   ·intro w hSw
    clear hSw
    first | (go_simp; done) | (go_simp; with_reducible rfl)
   (try simp only [Act.put, u1, u2, u3])
   refine wpAnyH_take (i := 1) (oi := ⟨some 59, .move (.tmp 10), 3, "l04_carts.go:152", #[], none⟩) (v := ?_) rfl (by kernel_rfl) (by kernel_rfl) (by kernel_rfl) (fun _ _ _ h => h) (Or.inl ⟨by rfl, ?_⟩) (by assumption) ?_
   rotate_left
   ·intro w hSw
    clear hSw
    first | (go_simp; done) | (go_simp; with_reducible rfl)
   (try simp only [Act.put, u1, u2, u3])
   refine wpAnyH_take (i := 2) (oi := ⟨some 60, .indexAddr 111 (.tmp 58) (.tmp 59), 0, "l04_carts.go:152", #[⟨0, .data⟩, ⟨1, .data⟩], none⟩) (v := ?_) rfl (by kernel_rfl) (by kernel_rfl) (by kernel_rfl) (fun _ _ _ h => h) (Or.inl ⟨by rfl, ?_⟩) (by assumption) ?_
   rotate_left
   ·intro w hSw
    clear hSw
    first | (go_simp; done) | (go_simp; with_reducible rfl)
   (try simp only [Act.put, u1, u2, u3])
   refine wpAnyH_take (i := 3) (oi := ⟨some 61, .load 27 (.tmp 60), 27, "l04_carts.go:152", #[⟨2, .data⟩], none⟩) (v := ?_) rfl (by kernel_rfl) (by kernel_rfl) (by kernel_rfl) (fun _ _ _ h => h) (Or.inl ⟨by rfl, ?_⟩) (by assumption) ?_
   rotate_left
   ·intro w hSw
    obtain ⟨c0, c1⟩ := hSw i oG; clear hSw
    first | (go_simp; done) | (go_simp; with_reducible rfl)
   (try simp only [Act.put, u1, u2, u3])
   refine wpAnyH_take (i := 4) (oi := ⟨some 62, .move (.tmp 10), 3, "l04_carts.go:152", #[], none⟩) (v := ?_) rfl (by kernel_rfl) (by kernel_rfl) (by kernel_rfl) (fun _ _ _ h => h) (Or.inl ⟨by rfl, ?_⟩) (by assumption) ?_
   rotate_left
   ·intro w hSw
    clear hSw
    first | (go_simp; done) | (go_simp; with_reducible rfl)
   (try simp only [Act.put, u1, u2, u3])
   refine wpAnyH_take (i := 5) (oi := ⟨some 63, .move (.tmp 0), 57, "l04_carts.go:152", #[], none⟩) (v := ?_) rfl (by kernel_rfl) (by kernel_rfl) (by kernel_rfl) (fun _ _ _ h => h) (Or.inl ⟨by rfl, ?_⟩) (by assumption) ?_
   rotate_left
   ·intro w hSw
    clear hSw
    first | (go_simp; done) | (go_simp; with_reducible rfl)
   (try simp only [Act.put, u1, u2, u3])
   refine wpAnyH_ready (rs := [6, 11]) (by kernel_rfl) (by simp) ?_
   refine (AllReadyH.cons rfl (fun K hK => ?_) (AllReadyH.cons rfl (fun K hK => ?_) AllReadyH.nil))
   ·skip
    go_simp
    go_at_call 41
    refine (aE5 y0 B g a len cap M1.out.rd (by omega)).mono ?_
    rintro e y1 ⟨kind, item, qty, dv, sq, hi8, rfl, vP, N0⟩; have uY := aPo (M1.out.step vP N0); have aC0 : w2.heap.size ≤ y1.heap.size := Nat.le_trans aC1 vP.size; have Sy1 : ∀ j, j < k → y1.cell? ⟨q, j * 2, none⟩ = some (.slice (aH l j).va 4 (aH l j).vc) ∧ y1.cell? ⟨q, j * 2 + 1, none⟩ = some (.slice (aH l j).oa (aH l j).no (aH l j).oc) := uY.out.cell; refine hK.out _ _ Sy1 (fun pR => ?_)
    clear hK K pR vP N0 Sy0
    (try simp only [Act.put, u1, u2, u3])
    refine wpAnyH_ready (rs := [7, 11]) (by kernel_rfl) (by simp) ?_
    refine (AllReadyH.cons rfl (fun K hK => ?_) (AllReadyH.cons rfl (fun K hK => ?_) AllReadyH.nil))
    ·skip
     go_simp
     go_at_call 18
     refine (m8 y1 w.heap.size y1.heap.size (aH l i) (i : Int) kind qty dv sq item (uY.out.row.crt i (by rw [uY.out.num]; exact oG)) aPq hi8).mono ?_
     rintro e y2 ⟨va, nv, vc, oa, no, oc, code, rfl, eM, yS⟩; have kE : code = 0 → nv = 4 ∧ fR y2 y1.heap.size y2.heap.size va vc oa no oc 400 := fun h => ⟨(yS h).1, (yS h).2.more aPq aPq (by omega)⟩
     clear yS; have aDS := aPo (uY.out.below eM); have aIp : w2.heap.size ≤ y2.heap.size := Nat.le_trans aC0 eM.size; have Sy2 : ∀ j, j < k → y2.cell? ⟨q, j * 2, none⟩ = some (.slice (aH l j).va 4 (aH l j).vc) ∧ y2.cell? ⟨q, j * 2 + 1, none⟩ = some (.slice (aH l j).oa (aH l j).no (aH l j).oc) := aDS.out.cell; have aDY : Hid (code = 0 → nv = 4 ∧ fR y2 y1.heap.size y2.heap.size va vc oa no oc 400) := kE; have aMS := eM.size; refine hK.out _ _ Sy2 (fun jK => ?_)
     clear hK K jK eM kE Sy1
     (try simp only [Act.put, u1, u2, u3])
     refine wpAnyH_take (i := 8) (oi := ⟨some 57, .move (.tmp 65), 32, "l04_carts.go:152", #[⟨7, .data⟩], none⟩) (v := ?_) rfl (by kernel_rfl) (by kernel_rfl) (by kernel_rfl) (fun _ _ _ h => h) (Or.inl ⟨by rfl, ?_⟩) (by assumption) ?_
     rotate_left
     ·intro w hSw
      clear hSw
      first | (go_simp; done) | (go_simp; with_reducible rfl)
     (try simp only [Act.put, u1, u2, u3])
     refine wpAnyH_take (i := 9) (oi := ⟨some 66, .extract (.tmp 57) 0, 27, "l04_carts.go:152", #[⟨8, .data⟩], none⟩) (v := ?_) rfl (by kernel_rfl) (by kernel_rfl) (by kernel_rfl) (fun _ _ _ h => h) (Or.inl ⟨by rfl, ?_⟩) (by assumption) ?_
     rotate_left
     ·intro w hSw
      clear hSw
      first | (go_simp; done) | (go_simp; with_reducible rfl)
     (try simp only [Act.put, u1, u2, u3])
     refine wpAnyH_take (i := 10) (oi := ⟨some 67, .extract (.tmp 57) 1, 2, "l04_carts.go:152", #[⟨8, .data⟩, { on := 12, ground := Ground.gcOnly Departure.lateStores }], none⟩) (v := ?_) rfl (by kernel_rfl) (by kernel_rfl) (by kernel_rfl) (fun _ _ _ h => h) (Or.inl ⟨by rfl, ?_⟩) (by assumption) ?_
     rotate_left
     ·intro w hSw
      clear hSw
      first | (go_simp; done) | (go_simp; with_reducible rfl)
     (try simp only [Act.put, u1, u2, u3])
     refine wpAnyH_ready (rs := [11]) (by kernel_rfl) (by simp) ?_
     refine (AllReadyH.cons rfl (fun K hK => ?_) AllReadyH.nil)
     have dR : Below y2.heap.size y2 (y2.alloc (.cells #[.slice none 0 0, .slice none 0 0] 27)) := bl; have iU := bX (Below.refl _ (y2.alloc (.cells #[.slice none 0 0, .slice none 0 0] 27))); have mH := aPo (aDS.out.below dR); have SA : ∀ j, j < k → (y2.alloc (.cells #[.slice none 0 0, .slice none 0 0] 27)).cell? ⟨q, j * 2, none⟩ = some (.slice (aH l j).va 4 (aH l j).vc) ∧ (y2.alloc (.cells #[.slice none 0 0, .slice none 0 0] 27)).cell? ⟨q, j * 2 + 1, none⟩ = some (.slice (aH l j).oa (aH l j).no (aH l j).oc) := mH.out.cell
     go_simp
     refine hK.out _ _ SA (fun jM => ?_)
     clear hK K jM
     (try simp only [Act.put, u1, u2, u3])
     generalize y2.alloc (.cells #[.slice none 0 0, .slice none 0 0] 27) = y3 at dR iU mH SA ⊢; have Sy3 := SA; clear SA Sy2; have m9 := aPo iU; have aI8 := mH; have aNu : w2.heap.size ≤ y3.heap.size := Nat.le_trans aIp dR.size; have aDX : Hid (code = 0 → nv = 4 ∧ fR y3 y1.heap.size y2.heap.size va vc oa no oc 400) := fun h => ⟨(aDY.out h).1, (aDY.out h).2.below dR (by omega)⟩
     clear iU mH dR; have fY := m9.out; have hbl := (aPp fY).1; have dV := aPo (aI8.out.box (.slice va nv vc) (.slice oa no oc) fY (by omega) (by omega))
     have mG := aPo (cE (.slice va nv vc) (.slice oa no oc) fY); have tK : Hid (code = 0 → nv = 4 ∧ fR ((y3.setCell ⟨y2.heap.size, 0, none⟩ (.slice va nv vc)).setCell ⟨y2.heap.size, 1, none⟩ (.slice oa no oc)) w.heap.size ((y3.setCell ⟨y2.heap.size, 0, none⟩ (.slice va nv vc)).setCell ⟨y2.heap.size, 1, none⟩ (.slice oa no oc)).heap.size va vc oa no oc 400) := fun h => ⟨(aDX.out h).1, (fR.other (aDX.out h).2 fY fun j _ _ bO => aD _ _ bO).more (by omega) (by rw [aY]; omega) aPq⟩
     obtain ⟨d0, d1⟩ := pair_cells fY; obtain ⟨f0, f1⟩ := aB fY; have SW : ∀ j, j < k → ((y3.setCell ⟨y2.heap.size, 0, none⟩ (.slice va nv vc)).setCell ⟨y2.heap.size, 1, none⟩ (.slice oa no oc)).cell? ⟨q, j * 2, none⟩ = some (.slice (aH l j).va 4 (aH l j).vc) ∧ ((y3.setCell ⟨y2.heap.size, 0, none⟩ (.slice va nv vc)).setCell ⟨y2.heap.size, 1, none⟩ (.slice oa no oc)).cell? ⟨q, j * 2 + 1, none⟩ = some (.slice (aH l j).oa (aH l j).no (aH l j).oc) := dV.out.cell; refine rk 12 rfl (fun K hK => ?_)
     go_simp
     refine hK.out _ _ SW (fun jL => ?_)
     clear hK K jL d0 d1 f0 f1 SW fY
     (try simp only [Act.put, u1, u2, u3])
     generalize (y3.setCell ⟨y2.heap.size, 0, none⟩ (.slice va nv vc)).setCell ⟨y2.heap.size, 1, none⟩ (.slice oa no oc) = zn at mG dV tK ⊢; have C0 : ∀ j, j < k → zn.cell? ⟨q, j * 2, none⟩ = some (.slice (aH l j).va 4 (aH l j).vc) ∧ zn.cell? ⟨q, j * 2 + 1, none⟩ = some (.slice (aH l j).oa (aH l j).no (aH l j).oc) := dV.out.cell; refine wpAnyH_take (i := 13) (oi := ⟨some 14, .assign (.tmp 67), 2, "l04_carts.go:152", #[⟨10, .data⟩, ⟨12, .chain⟩, ⟨0, .phase⟩, ⟨1, .phase⟩, ⟨2, .phase⟩, ⟨3, .phase⟩, ⟨4, .phase⟩, ⟨5, .phase⟩, ⟨6, .phase⟩, ⟨7, .phase⟩, ⟨8, .phase⟩, ⟨9, .phase⟩, ⟨10, .phase⟩, ⟨11, .phase⟩, ⟨12, .phase⟩], none⟩) (v := ?_) rfl (by kernel_rfl) (by kernel_rfl) (by kernel_rfl) (fun _ _ _ h => h) (Or.inl ⟨by rfl, ?_⟩) (by assumption) ?_
     rotate_left
     ·intro w hSw
      clear hSw
      first | (go_simp; done) | (go_simp; with_reducible rfl)
     (try simp only [Act.put, u1, u2, u3])
     refine wpAnyH_done (by kernel_rfl) ?_ _
     clear C0
     by_cases tS : code = 0
     rotate_left
     ·have en : (code == 0) = false := by rw [beq_eq_false_iff_ne]; exact tS
      clear tS; go_wp2
      go_roundw
      case rel => exact ⟨r - 1, l, by omega, by go_num, dV⟩
      case measure => simp [intOf]; omega
     subst tS; obtain ⟨e4, lY⟩ := tK.out rfl; subst e4; have oK := aPo (dV.out.set oG ⟨va, vc, oa, no, oc⟩ lY); obtain ⟨x0, x1⟩ := pair_cells mG.out; obtain ⟨c0, c1⟩ := dV.out.cell i oG; have g0 := dV.out.frozen (i * 2); have g1 := dV.out.frozen (i * 2 + 1); clear lY; go_wp2
     go_roundw
     case rel => exact ⟨r - 1, l.set i ⟨va, vc, oa, no, oc⟩, by omega, by go_num, oK⟩
     case measure => simp [intOf]; omega
    ·skip
     have dR : Below y1.heap.size y1 (y1.alloc (.cells #[.slice none 0 0, .slice none 0 0] 27)) := bl; have iU := bX (Below.refl _ (y1.alloc (.cells #[.slice none 0 0, .slice none 0 0] 27))); have mH := aPo (uY.out.below dR); have SA : ∀ j, j < k → (y1.alloc (.cells #[.slice none 0 0, .slice none 0 0] 27)).cell? ⟨q, j * 2, none⟩ = some (.slice (aH l j).va 4 (aH l j).vc) ∧ (y1.alloc (.cells #[.slice none 0 0, .slice none 0 0] 27)).cell? ⟨q, j * 2 + 1, none⟩ = some (.slice (aH l j).oa (aH l j).no (aH l j).oc) := mH.out.cell
     go_simp
     refine hK.out _ _ SA (fun jM => ?_)
     clear hK K jM
     (try simp only [Act.put, u1, u2, u3])
     generalize y1.alloc (.cells #[.slice none 0 0, .slice none 0 0] 27) = y4 at dR iU mH SA ⊢; have Sy4 := SA; clear SA Sy1; have S1 := aPo iU; have M0 := mH; have aIo : w2.heap.size ≤ y4.heap.size := Nat.le_trans aC0 dR.size; clear iU mH dR; refine wpAnyH_ready (rs := [7]) (by kernel_rfl) (by simp) ?_
     refine (AllReadyH.cons rfl (fun K hK => ?_) AllReadyH.nil)
     go_simp
     go_at_call 18
     refine (m8 y4 w.heap.size y4.heap.size (aH l i) (i : Int) kind qty dv sq item (M0.out.row.crt i (by rw [M0.out.num]; exact oG)) aPq hi8).mono ?_
     rintro e y5 ⟨va, nv, vc, oa, no, oc, code, rfl, eM, yS⟩; have kE : code = 0 → nv = 4 ∧ fR y5 y4.heap.size y5.heap.size va vc oa no oc 400 := fun h => ⟨(yS h).1, (yS h).2.more aPq aPq (by omega)⟩
     clear yS; have aDR := aPo (M0.out.below eM); have aNt : w2.heap.size ≤ y5.heap.size := Nat.le_trans aIo eM.size; have Sy5 : ∀ j, j < k → y5.cell? ⟨q, j * 2, none⟩ = some (.slice (aH l j).va 4 (aH l j).vc) ∧ y5.cell? ⟨q, j * 2 + 1, none⟩ = some (.slice (aH l j).oa (aH l j).no (aH l j).oc) := aDR.out.cell; have S0 := aPo ((eM.block _ (aPp S1.out).1).trans S1.out); have aDW : Hid (code = 0 → nv = 4 ∧ fR y5 y4.heap.size y5.heap.size va vc oa no oc 400) := kE; have aMR := eM.size; refine hK.out _ _ Sy5 (fun jK => ?_)
     clear hK K jK eM kE Sy4
     (try simp only [Act.put, u1, u2, u3])
     refine wpAnyH_take (i := 8) (oi := ⟨some 57, .move (.tmp 65), 32, "l04_carts.go:152", #[⟨7, .data⟩], none⟩) (v := ?_) rfl (by kernel_rfl) (by kernel_rfl) (by kernel_rfl) (fun _ _ _ h => h) (Or.inl ⟨by rfl, ?_⟩) (by assumption) ?_
     rotate_left
     ·intro w hSw
      clear hSw
      first | (go_simp; done) | (go_simp; with_reducible rfl)
     (try simp only [Act.put, u1, u2, u3])
     refine wpAnyH_take (i := 9) (oi := ⟨some 66, .extract (.tmp 57) 0, 27, "l04_carts.go:152", #[⟨8, .data⟩], none⟩) (v := ?_) rfl (by kernel_rfl) (by kernel_rfl) (by kernel_rfl) (fun _ _ _ h => h) (Or.inl ⟨by rfl, ?_⟩) (by assumption) ?_
     rotate_left
     ·intro w hSw
      clear hSw
      first | (go_simp; done) | (go_simp; with_reducible rfl)
     (try simp only [Act.put, u1, u2, u3])
     refine wpAnyH_take (i := 10) (oi := ⟨some 67, .extract (.tmp 57) 1, 2, "l04_carts.go:152", #[⟨8, .data⟩, { on := 12, ground := Ground.gcOnly Departure.lateStores }], none⟩) (v := ?_) rfl (by kernel_rfl) (by kernel_rfl) (by kernel_rfl) (fun _ _ _ h => h) (Or.inl ⟨by rfl, ?_⟩) (by assumption) ?_
     rotate_left
     ·intro w hSw
      clear hSw
      first | (go_simp; done) | (go_simp; with_reducible rfl)
     (try simp only [Act.put, u1, u2, u3])
     have fY := S0.out; have hbl := (aPp fY).1; have dV := aPo (aDR.out.box (.slice va nv vc) (.slice oa no oc) fY (by omega) (by omega))
     have mG := aPo (cE (.slice va nv vc) (.slice oa no oc) fY); have tK : Hid (code = 0 → nv = 4 ∧ fR ((y5.setCell ⟨y1.heap.size, 0, none⟩ (.slice va nv vc)).setCell ⟨y1.heap.size, 1, none⟩ (.slice oa no oc)) w.heap.size ((y5.setCell ⟨y1.heap.size, 0, none⟩ (.slice va nv vc)).setCell ⟨y1.heap.size, 1, none⟩ (.slice oa no oc)).heap.size va vc oa no oc 400) := fun h => ⟨(aDW.out h).1, (fR.other (aDW.out h).2 fY fun j _ _ bO => aD _ _ bO).more (by omega) (by rw [aY]; omega) aPq⟩
     obtain ⟨d0, d1⟩ := pair_cells fY; obtain ⟨f0, f1⟩ := aB fY; have SW : ∀ j, j < k → ((y5.setCell ⟨y1.heap.size, 0, none⟩ (.slice va nv vc)).setCell ⟨y1.heap.size, 1, none⟩ (.slice oa no oc)).cell? ⟨q, j * 2, none⟩ = some (.slice (aH l j).va 4 (aH l j).vc) ∧ ((y5.setCell ⟨y1.heap.size, 0, none⟩ (.slice va nv vc)).setCell ⟨y1.heap.size, 1, none⟩ (.slice oa no oc)).cell? ⟨q, j * 2 + 1, none⟩ = some (.slice (aH l j).oa (aH l j).no (aH l j).oc) := dV.out.cell; refine rk 12 rfl (fun K hK => ?_)
     go_simp
     refine hK.out _ _ SW (fun jL => ?_)
     clear hK K jL d0 d1 f0 f1 SW fY
     (try simp only [Act.put, u1, u2, u3])
     generalize (y5.setCell ⟨y1.heap.size, 0, none⟩ (.slice va nv vc)).setCell ⟨y1.heap.size, 1, none⟩ (.slice oa no oc) = zn at mG dV tK ⊢; have C0 : ∀ j, j < k → zn.cell? ⟨q, j * 2, none⟩ = some (.slice (aH l j).va 4 (aH l j).vc) ∧ zn.cell? ⟨q, j * 2 + 1, none⟩ = some (.slice (aH l j).oa (aH l j).no (aH l j).oc) := dV.out.cell; refine wpAnyH_take (i := 13) (oi := ⟨some 14, .assign (.tmp 67), 2, "l04_carts.go:152", #[⟨10, .data⟩, ⟨12, .chain⟩, ⟨0, .phase⟩, ⟨1, .phase⟩, ⟨2, .phase⟩, ⟨3, .phase⟩, ⟨4, .phase⟩, ⟨5, .phase⟩, ⟨6, .phase⟩, ⟨7, .phase⟩, ⟨8, .phase⟩, ⟨9, .phase⟩, ⟨10, .phase⟩, ⟨11, .phase⟩, ⟨12, .phase⟩], none⟩) (v := ?_) rfl (by kernel_rfl) (by kernel_rfl) (by kernel_rfl) (fun _ _ _ h => h) (Or.inl ⟨by rfl, ?_⟩) (by assumption) ?_
     rotate_left
     ·intro w hSw
      clear hSw
      first | (go_simp; done) | (go_simp; with_reducible rfl)
     (try simp only [Act.put, u1, u2, u3])
     refine wpAnyH_done (by kernel_rfl) ?_ _
     clear C0
     by_cases tS : code = 0
     rotate_left
     ·have en : (code == 0) = false := by rw [beq_eq_false_iff_ne]; exact tS
      clear tS; go_wp2
      go_roundw
      case rel => exact ⟨r - 1, l, by omega, by go_num, dV⟩
      case measure => simp [intOf]; omega
     subst tS; obtain ⟨e4, lY⟩ := tK.out rfl; subst e4; have oK := aPo (dV.out.set oG ⟨va, vc, oa, no, oc⟩ lY); obtain ⟨x0, x1⟩ := pair_cells mG.out; obtain ⟨c0, c1⟩ := dV.out.cell i oG; have g0 := dV.out.frozen (i * 2); have g1 := dV.out.frozen (i * 2 + 1); clear lY; go_wp2
     go_roundw
     case rel => exact ⟨r - 1, l.set i ⟨va, vc, oa, no, oc⟩, by omega, by go_num, oK⟩
     case measure => simp [intOf]; omega
   ·skip
    have dR : Below y0.heap.size y0 (y0.alloc (.cells #[.slice none 0 0, .slice none 0 0] 27)) := bl; have iU := bX (Below.refl _ (y0.alloc (.cells #[.slice none 0 0, .slice none 0 0] 27))); have mH := aPo (M1.out.below dR); have SA : ∀ j, j < k → (y0.alloc (.cells #[.slice none 0 0, .slice none 0 0] 27)).cell? ⟨q, j * 2, none⟩ = some (.slice (aH l j).va 4 (aH l j).vc) ∧ (y0.alloc (.cells #[.slice none 0 0, .slice none 0 0] 27)).cell? ⟨q, j * 2 + 1, none⟩ = some (.slice (aH l j).oa (aH l j).no (aH l j).oc) := mH.out.cell
    go_simp
    refine hK.out _ _ SA (fun jM => ?_)
    clear hK K jM
    (try simp only [Act.put, u1, u2, u3])
    generalize y0.alloc (.cells #[.slice none 0 0, .slice none 0 0] 27) = y6 at dR iU mH SA ⊢; have Sy6 := SA; clear SA Sy0; have R9 := aPo iU; have aDQ := mH; have aIn : w2.heap.size ≤ y6.heap.size := Nat.le_trans aC1 dR.size; clear iU mH dR; refine wpAnyH_ready (rs := [6]) (by kernel_rfl) (by simp) ?_
    refine (AllReadyH.cons rfl (fun K hK => ?_) AllReadyH.nil)
    go_simp
    go_at_call 41
    refine (aE5 y6 B g a len cap aDQ.out.rd (by omega)).mono ?_
    rintro e y7 ⟨kind, item, qty, dv, sq, hi8, rfl, vP, N0⟩; have zR := aPo (aDQ.out.step vP N0); have aIm : w2.heap.size ≤ y7.heap.size := Nat.le_trans aIn vP.size; have Sy7 : ∀ j, j < k → y7.cell? ⟨q, j * 2, none⟩ = some (.slice (aH l j).va 4 (aH l j).vc) ∧ y7.cell? ⟨q, j * 2 + 1, none⟩ = some (.slice (aH l j).oa (aH l j).no (aH l j).oc) := zR.out.cell; have J6 := aPo ((vP.block _ (aPp R9.out).1 (by intro e; injection e with e; omega)).trans R9.out)
    refine hK.out _ _ Sy7 (fun pR => ?_)
    clear hK K pR vP N0 Sy6
    (try simp only [Act.put, u1, u2, u3])
    refine wpAnyH_ready (rs := [7]) (by kernel_rfl) (by simp) ?_
    refine (AllReadyH.cons rfl (fun K hK => ?_) AllReadyH.nil)
    go_simp
    go_at_call 18
    refine (m8 y7 w.heap.size y7.heap.size (aH l i) (i : Int) kind qty dv sq item (zR.out.row.crt i (by rw [zR.out.num]; exact oG)) aPq hi8).mono ?_
    rintro e y8 ⟨va, nv, vc, oa, no, oc, code, rfl, eM, yS⟩; have kE : code = 0 → nv = 4 ∧ fR y8 y7.heap.size y8.heap.size va vc oa no oc 400 := fun h => ⟨(yS h).1, (yS h).2.more aPq aPq (by omega)⟩
    clear yS; have aDP := aPo (zR.out.below eM); have aNs : w2.heap.size ≤ y8.heap.size := Nat.le_trans aIm eM.size; have Sy8 : ∀ j, j < k → y8.cell? ⟨q, j * 2, none⟩ = some (.slice (aH l j).va 4 (aH l j).vc) ∧ y8.cell? ⟨q, j * 2 + 1, none⟩ = some (.slice (aH l j).oa (aH l j).no (aH l j).oc) := aDP.out.cell; have R8 := aPo ((eM.block _ (aPp J6.out).1).trans J6.out); have aDV : Hid (code = 0 → nv = 4 ∧ fR y8 y7.heap.size y8.heap.size va vc oa no oc 400) := kE; have aMQ := eM.size; refine hK.out _ _ Sy8 (fun jK => ?_)
    clear hK K jK eM kE Sy7
    (try simp only [Act.put, u1, u2, u3])
    refine wpAnyH_take (i := 8) (oi := ⟨some 57, .move (.tmp 65), 32, "l04_carts.go:152", #[⟨7, .data⟩], none⟩) (v := ?_) rfl (by kernel_rfl) (by kernel_rfl) (by kernel_rfl) (fun _ _ _ h => h) (Or.inl ⟨by rfl, ?_⟩) (by assumption) ?_
    rotate_left
    ·intro w hSw
     clear hSw
     first | (go_simp; done) | (go_simp; with_reducible rfl)
    (try simp only [Act.put, u1, u2, u3])
    refine wpAnyH_take (i := 9) (oi := ⟨some 66, .extract (.tmp 57) 0, 27, "l04_carts.go:152", #[⟨8, .data⟩], none⟩) (v := ?_) rfl (by kernel_rfl) (by kernel_rfl) (by kernel_rfl) (fun _ _ _ h => h) (Or.inl ⟨by rfl, ?_⟩) (by assumption) ?_
    rotate_left
    ·intro w hSw
     clear hSw
     first | (go_simp; done) | (go_simp; with_reducible rfl)
    (try simp only [Act.put, u1, u2, u3])
    refine wpAnyH_take (i := 10) (oi := ⟨some 67, .extract (.tmp 57) 1, 2, "l04_carts.go:152", #[⟨8, .data⟩, { on := 12, ground := Ground.gcOnly Departure.lateStores }], none⟩) (v := ?_) rfl (by kernel_rfl) (by kernel_rfl) (by kernel_rfl) (fun _ _ _ h => h) (Or.inl ⟨by rfl, ?_⟩) (by assumption) ?_
    rotate_left
    ·intro w hSw
     clear hSw
     first | (go_simp; done) | (go_simp; with_reducible rfl)
    (try simp only [Act.put, u1, u2, u3])
    have fY := R8.out; have hbl := (aPp fY).1; have dV := aPo (aDP.out.box (.slice va nv vc) (.slice oa no oc) fY (by omega) (by omega))
    have mG := aPo (cE (.slice va nv vc) (.slice oa no oc) fY); have tK : Hid (code = 0 → nv = 4 ∧ fR ((y8.setCell ⟨y0.heap.size, 0, none⟩ (.slice va nv vc)).setCell ⟨y0.heap.size, 1, none⟩ (.slice oa no oc)) w.heap.size ((y8.setCell ⟨y0.heap.size, 0, none⟩ (.slice va nv vc)).setCell ⟨y0.heap.size, 1, none⟩ (.slice oa no oc)).heap.size va vc oa no oc 400) := fun h => ⟨(aDV.out h).1, (fR.other (aDV.out h).2 fY fun j _ _ bO => aD _ _ bO).more (by omega) (by rw [aY]; omega) aPq⟩
    obtain ⟨d0, d1⟩ := pair_cells fY; obtain ⟨f0, f1⟩ := aB fY; have SW : ∀ j, j < k → ((y8.setCell ⟨y0.heap.size, 0, none⟩ (.slice va nv vc)).setCell ⟨y0.heap.size, 1, none⟩ (.slice oa no oc)).cell? ⟨q, j * 2, none⟩ = some (.slice (aH l j).va 4 (aH l j).vc) ∧ ((y8.setCell ⟨y0.heap.size, 0, none⟩ (.slice va nv vc)).setCell ⟨y0.heap.size, 1, none⟩ (.slice oa no oc)).cell? ⟨q, j * 2 + 1, none⟩ = some (.slice (aH l j).oa (aH l j).no (aH l j).oc) := dV.out.cell; refine rk 12 rfl (fun K hK => ?_)
    go_simp
    refine hK.out _ _ SW (fun jL => ?_)
    clear hK K jL d0 d1 f0 f1 SW fY
    (try simp only [Act.put, u1, u2, u3])
    generalize (y8.setCell ⟨y0.heap.size, 0, none⟩ (.slice va nv vc)).setCell ⟨y0.heap.size, 1, none⟩ (.slice oa no oc) = zn at mG dV tK ⊢; have C0 : ∀ j, j < k → zn.cell? ⟨q, j * 2, none⟩ = some (.slice (aH l j).va 4 (aH l j).vc) ∧ zn.cell? ⟨q, j * 2 + 1, none⟩ = some (.slice (aH l j).oa (aH l j).no (aH l j).oc) := dV.out.cell; refine wpAnyH_take (i := 13) (oi := ⟨some 14, .assign (.tmp 67), 2, "l04_carts.go:152", #[⟨10, .data⟩, ⟨12, .chain⟩, ⟨0, .phase⟩, ⟨1, .phase⟩, ⟨2, .phase⟩, ⟨3, .phase⟩, ⟨4, .phase⟩, ⟨5, .phase⟩, ⟨6, .phase⟩, ⟨7, .phase⟩, ⟨8, .phase⟩, ⟨9, .phase⟩, ⟨10, .phase⟩, ⟨11, .phase⟩, ⟨12, .phase⟩], none⟩) (v := ?_) rfl (by kernel_rfl) (by kernel_rfl) (by kernel_rfl) (fun _ _ _ h => h) (Or.inl ⟨by rfl, ?_⟩) (by assumption) ?_
    rotate_left
    ·intro w hSw
     clear hSw
     first | (go_simp; done) | (go_simp; with_reducible rfl)
    (try simp only [Act.put, u1, u2, u3])
    refine wpAnyH_done (by kernel_rfl) ?_ _
    clear C0
    by_cases tS : code = 0
    rotate_left
    ·have en : (code == 0) = false := by rw [beq_eq_false_iff_ne]; exact tS
     clear tS; go_wp2
     go_roundw
     case rel => exact ⟨r - 1, l, by omega, by go_num, dV⟩
     case measure => simp [intOf]; omega
    subst tS; obtain ⟨e4, lY⟩ := tK.out rfl; subst e4; have oK := aPo (dV.out.set oG ⟨va, vc, oa, no, oc⟩ lY); obtain ⟨x0, x1⟩ := pair_cells mG.out; obtain ⟨c0, c1⟩ := dV.out.cell i oG; have g0 := dV.out.frozen (i * 2); have g1 := dV.out.frozen (i * 2 + 1); clear lY; go_wp2
    go_roundw
    case rel => exact ⟨r - 1, l.set i ⟨va, vc, oa, no, oc⟩, by omega, by go_num, oK⟩
    case measure => simp [intOf]; omega
end Go.Proofs.YthkagbnpcjidfaaGreatDoor
