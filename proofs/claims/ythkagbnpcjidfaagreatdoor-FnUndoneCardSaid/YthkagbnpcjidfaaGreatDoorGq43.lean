/- Walks and mathematics that several claims share, part 43. -/
import Derived.Test.YthkagbnpcjidfaaGreatDoorGq40
import Derived.Test.YthkagbnpcjidfaaGreatDoorGq41
import Derived.Test.YthkagbnpcjidfaaGreatDoorGq42
import Derived.Deep.Cut
namespace Go.Proofs.YthkagbnpcjidfaaGreatDoor
set_option maxRecDepth 100000
open Go.RowKit
set_option linter.unusedVariables false
set_option linter.unusedSimpArgs false
def aQa (w : World) (e : Ending) (w' : World) : Prop :=
 ∃ va nv vc oa no oc ok, e = .returned (.tuple #[.agg #[.slice va nv vc, .slice oa no oc], .bool ok]) ∧ Below w.heap.size w w' ∧ (ok = true → nv = 4 ∧ fK w' w.heap.size w'.heap.size va vc oa no oc 400)
theorem i6 (w : World) (lo1 hi1 lo2 hi2 : Nat) (x y : cF) (hx : vA w lo1 hi1 x) (hy : vA w lo2 hi2 y) (h1 : hi1 ≤ w.heap.size) (h2 : hi2 ≤ w.heap.size) :
  Calls Tryz.prog 105 #[.agg #[.slice x.va 4 x.vc, .slice x.oa x.no x.oc], .agg #[.slice y.va 4 y.vc, .slice y.oa y.no y.oc]] w (aQa w) := by
 obtain ⟨xs, l, e1, a1, a2, a3, a4, a5⟩ := hx
 obtain ⟨ys, m, e2, b1, b2, b3, b4, b5⟩ := hy
 rw [e1, e2]
 have n1 := a5.most
 have n2 := b5.most
 refine (aFH w w.heap.size x.va x.oa y.va y.oa 4 x.vc l.length x.oc 4 y.vc m.length y.oc xs l ys m (a1.ints.more h1) (a2.ops.more h1) (b1.ints.more h2) (b2.ops.more h2) aRr (by omega) (by omega) (fun i hi => Nat.le_trans (a5.item i hi) (by omega)) (by omega) (by omega) (fun i hi => Nat.le_trans (b5.item i hi) (by omega))).mono ?_
 rintro e w' ⟨va, vc, oa, oc, rfl, o1, o2, hb, c1, c2⟩
 refine ⟨va, _, vc, oa, _, oc, _, rfl, hb, fun hR => ?_⟩
 have hp : aD xs l = true ∧ aD ys m = true ∧ rF l m = true := by
  unfold kX at hR; rw [Bool.and_eq_true, Bool.and_eq_true] at hR; exact hR
 have hc := tC.of_cart (aAR hp.1 hp.2.1 hp.2.2)
 rw [hR] at o1 o2 c1 c2 ⊢
 have hl : (vW xs ys true).length = 4 := hc.len
 rw [hl] at o1 c1
 exact ⟨hl, vW xs ys true, A7 xs ys l m true, rfl, o1, o2, c1, c2, tC.more hc (by omega)⟩
theorem aA6 (w : World) (lo hi1 : Nat) (x : cF) (dev kind qty dv sq : Int) (item : ByteArray) (hx : vA w lo hi1 x) (h1 : hi1 ≤ w.heap.size) (hi : item.size ≤ 8) :
  Calls Tryz.prog 18 #[.agg #[.slice x.va 4 x.vc, .slice x.oa x.no x.oc], .int .i64 dev, .agg #[.int .i64 kind, .string item, .int .i64 qty, .int .i64 dv, .int .i64 sq]] w (aKx 320 w) := by
 obtain ⟨xs, l, e1, a1, a2, a3, a4, a5⟩ := hx
 rw [e1]
 have n1 := a5.most
 exact aHR w w.heap.size x.va x.oa x.vc l.length x.oc xs l kind qty dv sq item (a1.ints.more h1) (a2.ops.more h1) aRr a3 a4 hi dev (fun i hi => Nat.le_trans (a5.item i hi) (by omega)) (by omega)
theorem grown_of {w w' : World} {g : Nat} (h : Below w.heap.size w w') : w.grownBy w' (some g) := ⟨h.os, h.tape, h.output, h.size, fun k hk _ => h.block k hk⟩
theorem C3 {w w' : World} (h : Below w.heap.size w w') : w.grownBy w' none := ⟨h.os, h.tape, h.output, h.size, fun k hk _ => h.block k hk⟩
structure nG (w wr : World) (B g : Nat) (a : Option Addr) (len cap q : Nat) (l : List cF) (n : Nat) : Prop where
 num : l.length = n
 row : aOP wr w.heap.size q l
 grown : w.grownBy wr (some g)
 rd : Rd wr B g a len cap
 glt : g < w.heap.size
theorem nG.qlt {w wr : World} {B g : Nat} {a : Option Addr} {len cap q : Nat} {l : List cF} {n : Nat} (h : nG w wr B g a len cap q l n) : q < wr.heap.size := by
 obtain ⟨cs, hq, _⟩ := h.row.cells
 exact (aRq hq).1
theorem nG.step {w wr w1 : World} {B g : Nat} {a : Option Addr} {len cap q : Nat} {l : List cF} {n : Nat} (h : nG w wr B g a len cap q l n) (hg : wr.grownBy w1 (some g)) (hr : Rd w1 B g a len cap) : nG w w1 B g a len cap q l n := by
 have rI := h.glt
 have iS := h.row.lo
 have hq := h.qlt
 have hs := hg.size
 have hk : ∀ j, j < wr.heap.size → j ≠ g → w1.heap[j]? = wr.heap[j]? := fun j h1 h2 => hg.block j h1 (by intro e; injection e with e; exact h2 e)
 obtain ⟨cs, hqc, hc⟩ := h.row.cells
 exact ⟨h.num, ⟨iS, ⟨cs, (hk q hq (by omega)).trans hqc, hc⟩, fun i hi => (fK.kept (h.row.crt i hi) fun j h1 h2 => hk j h2 (by omega)).more aRr hs aRr⟩, h.grown.trans hg, hr, rI⟩
theorem nG.below {w wr w1 : World} {B g : Nat} {a : Option Addr} {len cap q : Nat} {l : List cF} {n : Nat} (h : nG w wr B g a len cap q l n) (hb : Below wr.heap.size wr w1) : nG w w1 B g a len cap q l n :=
 h.step (grown_of hb) (h.rd.grown (C3 hb) fun k hk => by cases hk)
theorem nG.box {w z : World} {B g b : Nat} {a : Option Addr} {len cap q : Nat} {l : List cF} {n : Nat} {cs : Array Value} (u v : Value) (h : nG w z B g a len cap q l n) (hb : z.heap[b]? = some (.cells cs 27 (0, 0))) (hbw : w.heap.size ≤ b) (hbq : b ≠ q) : nG w ((z.setCell ⟨b, 0, none⟩ u).setCell ⟨b, 1, none⟩ v) B g a len cap q l n := by
 have rI := h.glt
 have hB := h.rd.own
 have hz := bB z b u v
 have hk : ∀ j, j ≠ b → ((z.setCell ⟨b, 0, none⟩ u).setCell ⟨b, 1, none⟩ v).heap[j]? = z.heap[j]? := fun j hj => aE _ _ hj
 obtain ⟨cs', hqc, hc⟩ := h.row.cells
 have jG := h.grown
 refine ⟨h.num, ⟨h.row.lo, ⟨cs', (hk q (fun e => hbq e.symm)).trans hqc, hc⟩, fun i hi => ?_⟩, ⟨jG.os, jG.tape, jG.output, by rw [hz]; exact jG.size, fun k h1 h2 => (hk k (by omega)).trans (jG.block k h1 h2)⟩, h.rd.kept fun k nX => hk k (by omega), rI⟩
 rw [hz]
 exact fK.other (h.row.crt i hi) hb fun j _ _ bI => hk j bI
theorem nG.set {w z : World} {B g : Nat} {a : Option Addr} {len cap q : Nat} {l : List cF} {n : Nat} (h : nG w z B g a len cap q l n) {k : Nat} (hk : k < n) (x : cF) (hx : vA z w.heap.size z.heap.size x) : nG w ((z.setCell ⟨q, k * 2, none⟩ (.slice x.va 4 x.vc)).setCell ⟨q, k * 2 + 1, none⟩ (.slice x.oa x.no x.oc)) B g a len cap q (l.set k x) n := by
 have rI := h.glt
 have hB := h.rd.own
 have iS := h.row.lo
 have aPN := h.num
 have hz : ((z.setCell ⟨q, k * 2, none⟩ (.slice x.va 4 x.vc)).setCell ⟨q, k * 2 + 1, none⟩ (.slice x.oa x.no x.oc)).heap.size = z.heap.size := by simp [World.setCell]
 have hkk : ∀ j, j ≠ q → ((z.setCell ⟨q, k * 2, none⟩ (.slice x.va 4 x.vc)).setCell ⟨q, k * 2 + 1, none⟩ (.slice x.oa x.no x.oc)).heap[j]? = z.heap[j]? := fun j hj => (heap_setCell_other _ _ _ _ hj).trans (heap_setCell_other _ _ _ _ hj)
 obtain ⟨cs, hqc, hc⟩ := h.row.cells
 have jG := h.grown
 have h1 := heap_setCell_same _ _ (k * 2) _ _ (.slice x.va 4 x.vc) hqc
 have h2 := heap_setCell_same _ _ (k * 2 + 1) _ _ (.slice x.oa x.no x.oc) h1
 refine ⟨by rw [List.length_set]; exact aPN, ⟨iS, ⟨_, h2, fun i hi => ?_⟩, fun i hi => ?_⟩, ⟨jG.os, jG.tape, jG.output, by rw [hz]; exact jG.size, fun j a1 a2 => (hkk j (by omega)).trans (jG.block j a1 a2)⟩, h.rd.kept fun j hj => hkk j (by omega), rI⟩
 ·rw [List.length_set] at hi
  obtain ⟨c0, c1⟩ := hc i hi; obtain ⟨k0, k1⟩ := hc k (by omega)
  have z0 := (aRq k0).1; have z1 := (aRq k1).1; rw [aGr (by omega)]
  by_cases e : k = i
  ·subst e
   rw [if_pos rfl]; refine ⟨?_, ?_⟩
   ·rw [Array.getElem?_setIfInBounds, if_neg (by omega), Array.getElem?_setIfInBounds, if_pos rfl, if_pos z0]
   ·rw [Array.getElem?_setIfInBounds, if_pos rfl, if_pos (by simpa using z1)]
  ·rw [if_neg e]
   refine ⟨?_, ?_⟩
   ·rw [Array.getElem?_setIfInBounds, if_neg (by omega), Array.getElem?_setIfInBounds, if_neg (by omega)]
    exact c0
   ·rw [Array.getElem?_setIfInBounds, if_neg (by omega), Array.getElem?_setIfInBounds, if_neg (by omega)]
    exact c1
 ·rw [List.length_set] at hi
  rw [hz, aGr (by omega)]
  split
  ·exact fK.other hx hqc fun j _ _ bI => hkk j bI
  ·exact fK.other (h.row.crt i hi) hqc fun j _ _ bI => hkk j bI
theorem nG.cell {w wr : World} {B g : Nat} {a : Option Addr} {len cap q : Nat} {l : List cF} {n : Nat} (h : nG w wr B g a len cap q l n) : ∀ i, i < n → wr.cell? ⟨q, i * 2, none⟩ = some (.slice (aJ l i).va 4 (aJ l i).vc) ∧ wr.cell? ⟨q, i * 2 + 1, none⟩ = some (.slice (aJ l i).oa (aJ l i).no (aJ l i).oc) := fun i hi => by
 obtain ⟨cs, hq, hc⟩ := h.row.cells
 obtain ⟨c0, c1⟩ := hc i (by rw [h.num]; exact hi)
 exact ⟨(aRs hq).trans c0, (aRs hq).trans c1⟩
theorem nG.frozen {w wr : World} {B g : Nat} {a : Option Addr} {len cap q : Nat} {l : List cF} {n : Nat} (h : nG w wr B g a len cap q l n) (i : Nat) : wr.frozen? ⟨q, i, none⟩ = false := by
 obtain ⟨cs, hq, hc⟩ := h.row.cells
 exact aRt hq
def aAT (n : Nat) (w : World) (B g : Nat) (a : Option Addr) (len cap : Nat) (e : Ending) (w' : World) : Prop :=
 ∃ q c l, e = .returned (.slice (some ⟨q, 0, none⟩) n c) ∧ nG w w' B g a len cap q l n
set_option maxHeartbeats 80000000 in
theorem aLP (w : World) (B g : Nat) (a : Option Addr) (len cap : Nat) (h : Rd w B g a len cap) (n most : Nat) (hn : 0 < n) (hn4 : n ≤ 4) (hm : most ≤ 60) :
  Calls Tryz.prog 75 #[.pointer (some ⟨g, 0, none⟩), .int .i64 (n : Int), .int .i64 (most : Int)] w (aAT n w B g a len cap) := by
 have rI := h.lt
 have hBg := h.own
 have HRd := aRp h
 have bG : Below w.heap.size w (w.alloc (.cells #[] 27)) := (Below.refl _ w).alloc aRr _
 have HI0 : Hid (L7 (w.alloc (.cells #[] 27)) w.heap.size (.slice (some ⟨w.heap.size, 0, none⟩) 0 0) []) := ⟨World.ownsRow_made w #[] 0 aRr (by unfold maxLen; omega) rfl, fun i hi => absurd hi (by simp)⟩
 have oJ := aRp bG
 clear h bG
 go_enter Tryz.func75, Tryz.ntmps75
 go_wp2
 go_loopw [7, 8] (fun v i wr => ∃ (k : Nat) (vv : Value) (l : List cF), k ≤ n ∧ vv = v ∧ i = .int .i64 (k : Int) ∧ l.length = k ∧ Hid (L7 wr w.heap.size vv l) ∧ Hid (Below w.heap.size w wr)) (fun _ i _ => n - (intOf i).toNat)
 case atStart => exact ⟨0, _, [], Nat.zero_le _, rfl, rfl, rfl, HI0.out, oJ.out⟩
 case round =>
  obtain ⟨k, vv, l, hk, hvv, rfl, hl, HI, HB⟩ := hrel; subst hvv; have hsr := HB.out.size
  by_cases aM : k < n
  ·have hki : (k : Int) < (n : Int) := by omega
   go_wp2_with fail
   refine (aFI wr).mono ?_
   rintro e w1 ⟨q, rfl, aNw, aF⟩; have dZ := aRp (HI.out.below aF); have dK := aRp (HB.out.trans (aF.mono hsr)); have eL := aF.size; obtain ⟨va, vc, w2, hrun, hI2, aI⟩ := dZ.out.push (by omega) (by omega) ⟨some ⟨q, 0, none⟩, 4, none, 0, 0⟩ (fK.more aNw hsr aRr aRr)
   have qZ := aRp hI2; have cA := aRp (dK.out.trans aI); rw [hl] at hrun qZ; clear aF aNw hI2 aI
   go_wp2_with (at_builtin; refine dB rfl _ _ _ rfl _ _ rfl rfl hrun ?_)
   clear hrun; go_wp2
   go_roundw
   case rel => exact ⟨k + 1, _, l ++ [⟨some ⟨q, 0, none⟩, 4, none, 0, 0⟩], by omega, rfl, by go_num, by simp [hl], qZ, cA⟩
   case measure => simp [intOf]; omega
  obtain rfl : k = n := by omega
  obtain ⟨q, c, rfl, hR⟩ := HI.out.form (by omega)
  rw [hl]; have HL : Hid (nG w wr B g a len cap q l k) := ⟨hl, hR, aAP HB.out, HRd.out.kept fun j hj => HB.out.block j (by omega), rI⟩
  clear hR aM hk; have hk0 : 0 ≤ (k : Int) := by omega
  have hmi : 0 ≤ (most : Int) := by omega
  have aQP : (most : Int) ≤ 60 := by omega
  go_wp2_with fail
  refine (lH wr B g a len cap HL.out.rd ((most : Int) + 1) (by omega) (by omega)).mono ?_
  rintro e w1 ⟨r, hr, rfl, bZ, cR⟩; have HL1 := aRp (HL.out.step bZ cR); have aJY : r ≤ 60 := by omega
  clear bZ cR HL HI HB hr HI0 oJ HRd; go_wp2
  go_loopw [9] (fun i ws => ∃ (r : Nat) (l : List cF), r ≤ 60 ∧ i = .int .i64 (r : Int) ∧ Hid (nG w ws B g a len cap q l k)) (fun i _ => (intOf i).toNat)
  case atStart => exact ⟨r, l, aJY, rfl, HL1.out⟩
  case round =>
   clear aJY HL1 hl; obtain ⟨r, l, aJY, rfl, HL⟩ := hrel
   by_cases oL : 0 < r
   rotate_left
   ·obtain rfl : r = 0 := by omega
    have HE := HL; go_wp2
    go_ret
    exact ⟨q, c, l, rfl, HE.out⟩
   have hri : (0 : Int) < (r : Int) := by omega
   have hqw := HL.out.row.lo
   go_wp2_with fail
   refine (below wr B g a len cap HL.out.rd k hn (by omega)).mono ?_
   rintro e w1 ⟨i, pD, rfl, bZ, cR⟩; have HL1 := aRp (HL.out.step bZ cR); clear bZ cR HL
   go_wp2_with fail
   refine (aA2 w1 B g a len cap HL1.out.rd 3 (by omega) (by omega)).mono ?_
   rintro e w2 ⟨o1, rfl, eA, dL⟩; have HL2 := aRp (HL1.out.step eA dL); clear eA dL HL1; have hii : (i : Int) < (k : Int) := by omega
   have hi0 : decide ((i : Int) < 0) = false := decide_eq_false (by omega)
   have aQ6 : ¬ ((i : Int) < 0) := by omega
   have yM := HL2.out.qlt; cases o1
   rotate_left
   ·skip
    go_upto_region 11 with fail
    obtain ⟨y0, tR⟩ : ∃ y0, w2.drew = y0 := ⟨_, rfl⟩; have sQ : Below w2.heap.size w2 y0 := by rw [← tR]; exact ⟨rfl, rfl, rfl, Nat.le_refl _, fun _ _ => rfl⟩
    have V8 := aRp (HL2.out.below sQ); have aEG := sQ.size; have Sy0 : ∀ j, j < k → y0.cell? ⟨q, j * 2, none⟩ = some (.slice (aJ l j).va 4 (aJ l j).vc) ∧ y0.cell? ⟨q, j * 2 + 1, none⟩ = some (.slice (aJ l j).oa (aJ l j).no (aJ l j).oc) := V8.out.cell; refine wp_region_held_drew (S := fun w' => ∀ j, j < k → w'.cell? ⟨q, j * 2, none⟩ = some (.slice (aJ l j).va 4 (aJ l j).vc) ∧ w'.cell? ⟨q, j * 2 + 1, none⟩ = some (.slice (aJ l j).oa (aJ l j).no (aJ l j).oc)) (by kernel_rfl) (by rw [tR]; exact Sy0) (fun aO => ?_)
    rw [tR]; clear aO tR sQ; refine wpAnyH_take (i := 0) (oi := ⟨some 39, .move (.tmp 7), 111, "l04_carts.go:146", #[], none⟩) (v := ?_) rfl (by kernel_rfl) (by kernel_rfl) (by kernel_rfl) (fun _ _ _ h => h) (Or.inl ⟨by rfl, ?_⟩) (by assumption) ?_
    rotate_left
    ·intro w hSw
     clear hSw
     first | (go_simp; done) | (go_simp; with_reducible rfl)
    (try simp only [Act.put, u1, u2, u3])
    refine wpAnyH_take (i := 1) (oi := ⟨some 40, .move (.tmp 10), 3, "l04_carts.go:146", #[], none⟩) (v := ?_) rfl (by kernel_rfl) (by kernel_rfl) (by kernel_rfl) (fun _ _ _ h => h) (Or.inl ⟨by rfl, ?_⟩) (by assumption) ?_
    rotate_left
    ·intro w hSw
     clear hSw
     first | (go_simp; done) | (go_simp; with_reducible rfl)
    (try simp only [Act.put, u1, u2, u3])
    refine wpAnyH_take (i := 2) (oi := ⟨some 41, .indexAddr 111 (.tmp 39) (.tmp 40), 0, "l04_carts.go:146", #[⟨0, .data⟩, ⟨1, .data⟩], none⟩) (v := ?_) rfl (by kernel_rfl) (by kernel_rfl) (by kernel_rfl) (fun _ _ _ h => h) (Or.inl ⟨by rfl, ?_⟩) (by assumption) ?_
    rotate_left
    ·intro w hSw
     clear hSw
     first | (go_simp; done) | (go_simp; with_reducible rfl)
    (try simp only [Act.put, u1, u2, u3])
    refine wpAnyH_take (i := 3) (oi := ⟨some 42, .load 27 (.tmp 41), 27, "l04_carts.go:146", #[⟨2, .data⟩], none⟩) (v := ?_) rfl (by kernel_rfl) (by kernel_rfl) (by kernel_rfl) (fun _ _ _ h => h) (Or.inl ⟨by rfl, ?_⟩) (by assumption) ?_
    rotate_left
    ·intro w hSw
     obtain ⟨c0, c1⟩ := hSw i pD; clear hSw
     first | (go_simp; done) | (go_simp; with_reducible rfl)
    (try simp only [Act.put, u1, u2, u3])
    refine wpAnyH_take (i := 4) (oi := ⟨some 43, .move (.tmp 7), 111, "l04_carts.go:146", #[], none⟩) (v := ?_) rfl (by kernel_rfl) (by kernel_rfl) (by kernel_rfl) (fun _ _ _ h => h) (Or.inl ⟨by rfl, ?_⟩) (by assumption) ?_
    rotate_left
    ·intro w hSw
     clear hSw
     first | (go_simp; done) | (go_simp; with_reducible rfl)
    (try simp only [Act.put, u1, u2, u3])
    refine wpAnyH_take (i := 5) (oi := ⟨some 44, .move (.tmp 0), 57, "l04_carts.go:146", #[], none⟩) (v := ?_) rfl (by kernel_rfl) (by kernel_rfl) (by kernel_rfl) (fun _ _ _ h => h) (Or.inl ⟨by rfl, ?_⟩) (by assumption) ?_
    rotate_left
    ·intro w hSw
     clear hSw
     first | (go_simp; done) | (go_simp; with_reducible rfl)
    (try simp only [Act.put, u1, u2, u3])
    refine wpAnyH_take (i := 6) (oi := ⟨some 45, .move (.tmp 1), 3, "l04_carts.go:146", #[], none⟩) (v := ?_) rfl (by kernel_rfl) (by kernel_rfl) (by kernel_rfl) (fun _ _ _ h => h) (Or.inl ⟨by rfl, ?_⟩) (by assumption) ?_
    rotate_left
    ·intro w hSw
     clear hSw
     first | (go_simp; done) | (go_simp; with_reducible rfl)
    (try simp only [Act.put, u1, u2, u3])
    refine wpAnyH_ready (rs := [7, 14]) (by kernel_rfl) (by simp) ?_
    refine (AllReadyH.cons rfl (fun K hK => ?_) (AllReadyH.cons rfl (fun K hK => ?_) AllReadyH.nil))
    ·skip
     go_simp
     go_at_call 76
     refine (below y0 B g a len cap V8.out.rd k hn (by omega)).mono ?_
     rintro e y1 ⟨j, hjk, rfl, rJ, W9⟩; have hji : (j : Int) < (k : Int) := by omega
     have hj0 : decide ((j : Int) < 0) = false := decide_eq_false (by omega)
     have aBa : ¬ ((j : Int) < 0) := by omega
     have wI := aRp (V8.out.step rJ W9); have aEF : w2.heap.size ≤ y1.heap.size := Nat.le_trans aEG rJ.size; have Sy1 : ∀ j, j < k → y1.cell? ⟨q, j * 2, none⟩ = some (.slice (aJ l j).va 4 (aJ l j).vc) ∧ y1.cell? ⟨q, j * 2 + 1, none⟩ = some (.slice (aJ l j).oa (aJ l j).no (aJ l j).oc) := wI.out.cell; refine hK.out _ _ Sy1 (fun qM => ?_)
     clear hK K qM rJ W9 Sy0
     (try simp only [Act.put, u1, u2, u3])
     refine wpAnyH_take (i := 8) (oi := ⟨some 47, .indexAddr 111 (.tmp 43) (.tmp 46), 0, "l04_carts.go:146", #[⟨4, .data⟩, ⟨7, .data⟩], none⟩) (v := ?_) rfl (by kernel_rfl) (by kernel_rfl) (by kernel_rfl) (fun _ _ _ h => h) (Or.inl ⟨by rfl, ?_⟩) (by assumption) ?_
     rotate_left
     ·intro w hSw
      clear hSw
      first | (go_simp; done) | (go_simp; with_reducible rfl)
     (try simp only [Act.put, u1, u2, u3])
     refine wpAnyH_take (i := 9) (oi := ⟨some 48, .load 27 (.tmp 47), 27, "l04_carts.go:146", #[⟨8, .data⟩], none⟩) (v := ?_) rfl (by kernel_rfl) (by kernel_rfl) (by kernel_rfl) (fun _ _ _ h => h) (Or.inl ⟨by rfl, ?_⟩) (by assumption) ?_
     rotate_left
     ·intro w hSw
      obtain ⟨c0, c1⟩ := hSw j hjk; clear hSw
      first | (go_simp; done) | (go_simp; with_reducible rfl)
     (try simp only [Act.put, u1, u2, u3])
     refine wpAnyH_ready (rs := [10, 14]) (by kernel_rfl) (by simp) ?_
     refine (AllReadyH.cons rfl (fun K hK => ?_) (AllReadyH.cons rfl (fun K hK => ?_) AllReadyH.nil))
     ·skip
      go_simp
      go_at_call 105
      refine (i6 y1 w.heap.size y1.heap.size w.heap.size y1.heap.size (aJ l i) (aJ l j) (wI.out.row.crt i (by rw [wI.out.num]; exact pD)) (wI.out.row.crt j (by rw [wI.out.num]; exact hjk)) aRr aRr).mono ?_
      rintro e y2 ⟨va, nv, vc, oa, no, oc, ok, rfl, eM, jP⟩; have aFz := aRp (wI.out.below eM); have aJW : w2.heap.size ≤ y2.heap.size := Nat.le_trans aEF eM.size; have Sy2 : ∀ j, j < k → y2.cell? ⟨q, j * 2, none⟩ = some (.slice (aJ l j).va 4 (aJ l j).vc) ∧ y2.cell? ⟨q, j * 2 + 1, none⟩ = some (.slice (aJ l j).oa (aJ l j).no (aJ l j).oc) := aFz.out.cell; have aFD : Hid (ok = true → nv = 4 ∧ fK y2 y1.heap.size y2.heap.size va vc oa no oc 400) := jP; have aOX := eM.size; refine hK.out _ _ Sy2 (fun jR => ?_)
      clear hK K jR eM jP Sy1
      (try simp only [Act.put, u1, u2, u3])
      refine wpAnyH_take (i := 11) (oi := ⟨some 38, .move (.tmp 49), 132, "l04_carts.go:146", #[⟨10, .data⟩], none⟩) (v := ?_) rfl (by kernel_rfl) (by kernel_rfl) (by kernel_rfl) (fun _ _ _ h => h) (Or.inl ⟨by rfl, ?_⟩) (by assumption) ?_
      rotate_left
      ·intro w hSw
       clear hSw
       first | (go_simp; done) | (go_simp; with_reducible rfl)
      (try simp only [Act.put, u1, u2, u3])
      refine wpAnyH_take (i := 12) (oi := ⟨some 50, .extract (.tmp 38) 0, 27, "l04_carts.go:146", #[⟨11, .data⟩], none⟩) (v := ?_) rfl (by kernel_rfl) (by kernel_rfl) (by kernel_rfl) (fun _ _ _ h => h) (Or.inl ⟨by rfl, ?_⟩) (by assumption) ?_
      rotate_left
      ·intro w hSw
       clear hSw
       first | (go_simp; done) | (go_simp; with_reducible rfl)
      (try simp only [Act.put, u1, u2, u3])
      refine wpAnyH_take (i := 13) (oi := ⟨some 51, .extract (.tmp 38) 1, 4, "l04_carts.go:146", #[⟨11, .data⟩, { on := 15, ground := Ground.gcOnly Departure.lateStores }], none⟩) (v := ?_) rfl (by kernel_rfl) (by kernel_rfl) (by kernel_rfl) (fun _ _ _ h => h) (Or.inl ⟨by rfl, ?_⟩) (by assumption) ?_
      rotate_left
      ·intro w hSw
       clear hSw
       first | (go_simp; done) | (go_simp; with_reducible rfl)
      (try simp only [Act.put, u1, u2, u3])
      refine wpAnyH_ready (rs := [14]) (by kernel_rfl) (by simp) ?_
      refine (AllReadyH.cons rfl (fun K hK => ?_) AllReadyH.nil)
      have dJ : Below y2.heap.size y2 (y2.alloc (.cells #[.slice none 0 0, .slice none 0 0] 27)) := bl; have jF := bM (Below.refl _ (y2.alloc (.cells #[.slice none 0 0, .slice none 0 0] 27))); have mO := aRp (aFz.out.below dJ); have SA : ∀ j, j < k → (y2.alloc (.cells #[.slice none 0 0, .slice none 0 0] 27)).cell? ⟨q, j * 2, none⟩ = some (.slice (aJ l j).va 4 (aJ l j).vc) ∧ (y2.alloc (.cells #[.slice none 0 0, .slice none 0 0] 27)).cell? ⟨q, j * 2 + 1, none⟩ = some (.slice (aJ l j).oa (aJ l j).no (aJ l j).oc) := mO.out.cell
      go_simp
      refine hK.out _ _ SA (fun jT => ?_)
      clear hK K jT
      (try simp only [Act.put, u1, u2, u3])
      generalize y2.alloc (.cells #[.slice none 0 0, .slice none 0 0] 27) = y3 at dJ jF mO SA ⊢; have Sy3 := SA; clear SA Sy2; have aA7 := aRp jF; have aKJ := mO; have aPA : w2.heap.size ≤ y3.heap.size := Nat.le_trans aJW dJ.size; have aFC : Hid (ok = true → nv = 4 ∧ fK y3 y1.heap.size y2.heap.size va vc oa no oc 400) := fun h => ⟨(aFD.out h).1, (aFD.out h).2.below dJ (by omega)⟩
      clear jF mO dJ; have fS := aA7.out; have hbl := (aRq fS).1; have dU := aRp (aKJ.out.box (.slice va nv vc) (.slice oa no oc) fS (by omega) (by omega))
      have mN := aRp (cH (.slice va nv vc) (.slice oa no oc) fS); have uZ : Hid (ok = true → nv = 4 ∧ fK ((y3.setCell ⟨y2.heap.size, 0, none⟩ (.slice va nv vc)).setCell ⟨y2.heap.size, 1, none⟩ (.slice oa no oc)) w.heap.size ((y3.setCell ⟨y2.heap.size, 0, none⟩ (.slice va nv vc)).setCell ⟨y2.heap.size, 1, none⟩ (.slice oa no oc)).heap.size va vc oa no oc 400) := fun h => ⟨(aFC.out h).1, (fK.other (aFC.out h).2 fS fun j _ _ bI => aE _ _ bI).more (by omega) (by rw [bB]; omega) aRr⟩
      obtain ⟨d0, d1⟩ := pair_cells fS; obtain ⟨f0, f1⟩ := aC fS; have SW : ∀ j, j < k → ((y3.setCell ⟨y2.heap.size, 0, none⟩ (.slice va nv vc)).setCell ⟨y2.heap.size, 1, none⟩ (.slice oa no oc)).cell? ⟨q, j * 2, none⟩ = some (.slice (aJ l j).va 4 (aJ l j).vc) ∧ ((y3.setCell ⟨y2.heap.size, 0, none⟩ (.slice va nv vc)).setCell ⟨y2.heap.size, 1, none⟩ (.slice oa no oc)).cell? ⟨q, j * 2 + 1, none⟩ = some (.slice (aJ l j).oa (aJ l j).no (aJ l j).oc) := dU.out.cell; refine rk 15 rfl (fun K hK => ?_)
      go_simp
      refine hK.out _ _ SW (fun jS => ?_)
      clear hK K jS d0 d1 f0 f1 SW fS
      (try simp only [Act.put, u1, u2, u3])
      generalize (y3.setCell ⟨y2.heap.size, 0, none⟩ (.slice va nv vc)).setCell ⟨y2.heap.size, 1, none⟩ (.slice oa no oc) = zn at mN dU uZ ⊢; have I1 : ∀ j, j < k → zn.cell? ⟨q, j * 2, none⟩ = some (.slice (aJ l j).va 4 (aJ l j).vc) ∧ zn.cell? ⟨q, j * 2 + 1, none⟩ = some (.slice (aJ l j).oa (aJ l j).no (aJ l j).oc) := dU.out.cell; refine wpAnyH_take (i := 16) (oi := ⟨some 12, .assign (.tmp 51), 4, "l04_carts.go:146", #[⟨13, .data⟩, ⟨15, .chain⟩, ⟨0, .phase⟩, ⟨1, .phase⟩, ⟨2, .phase⟩, ⟨3, .phase⟩, ⟨4, .phase⟩, ⟨5, .phase⟩, ⟨6, .phase⟩, ⟨7, .phase⟩, ⟨8, .phase⟩, ⟨9, .phase⟩, ⟨10, .phase⟩, ⟨11, .phase⟩, ⟨12, .phase⟩, ⟨13, .phase⟩, ⟨14, .phase⟩, ⟨15, .phase⟩], none⟩) (v := ?_) rfl (by kernel_rfl) (by kernel_rfl) (by kernel_rfl) (fun _ _ _ h => h) (Or.inl ⟨by rfl, ?_⟩) (by assumption) ?_
      rotate_left
      ·intro w hSw
       clear hSw
       first | (go_simp; done) | (go_simp; with_reducible rfl)
      (try simp only [Act.put, u1, u2, u3])
      refine wpAnyH_done (by kernel_rfl) ?_ _
      clear I1; cases ok
      ·skip
       go_wp2
       go_roundw
       case rel => exact ⟨r - 1, l, by omega, by go_num, dU⟩
       case measure => simp [intOf]; omega
      obtain ⟨e4, kU⟩ := uZ.out rfl; subst e4; have qY := aRp (dU.out.set pD ⟨va, vc, oa, no, oc⟩ kU); obtain ⟨x0, x1⟩ := pair_cells mN.out; obtain ⟨c0, c1⟩ := dU.out.cell i pD; have g0 := dU.out.frozen (i * 2); have g1 := dU.out.frozen (i * 2 + 1); clear kU; go_wp2
      go_roundw
      case rel => exact ⟨r - 1, l.set i ⟨va, vc, oa, no, oc⟩, by omega, by go_num, qY⟩
      case measure => simp [intOf]; omega
     ·skip
      have dJ : Below y1.heap.size y1 (y1.alloc (.cells #[.slice none 0 0, .slice none 0 0] 27)) := bl; have jF := bM (Below.refl _ (y1.alloc (.cells #[.slice none 0 0, .slice none 0 0] 27))); have mO := aRp (wI.out.below dJ); have SA : ∀ j, j < k → (y1.alloc (.cells #[.slice none 0 0, .slice none 0 0] 27)).cell? ⟨q, j * 2, none⟩ = some (.slice (aJ l j).va 4 (aJ l j).vc) ∧ (y1.alloc (.cells #[.slice none 0 0, .slice none 0 0] 27)).cell? ⟨q, j * 2 + 1, none⟩ = some (.slice (aJ l j).oa (aJ l j).no (aJ l j).oc) := mO.out.cell
      go_simp
      refine hK.out _ _ SA (fun jT => ?_)
      clear hK K jT
      (try simp only [Act.put, u1, u2, u3])
      generalize y1.alloc (.cells #[.slice none 0 0, .slice none 0 0] 27) = y4 at dJ jF mO SA ⊢; have Sy4 := SA; clear SA Sy1; have l8 := aRp jF; have V7 := mO; have aJV : w2.heap.size ≤ y4.heap.size := Nat.le_trans aEF dJ.size; clear jF mO dJ; refine wpAnyH_ready (rs := [10]) (by kernel_rfl) (by simp) ?_
      refine (AllReadyH.cons rfl (fun K hK => ?_) AllReadyH.nil)
      go_simp
      go_at_call 105
      refine (i6 y4 w.heap.size y4.heap.size w.heap.size y4.heap.size (aJ l i) (aJ l j) (V7.out.row.crt i (by rw [V7.out.num]; exact pD)) (V7.out.row.crt j (by rw [V7.out.num]; exact hjk)) aRr aRr).mono ?_
      rintro e y5 ⟨va, nv, vc, oa, no, oc, ok, rfl, eM, jP⟩; have aFy := aRp (V7.out.below eM); have aPz : w2.heap.size ≤ y5.heap.size := Nat.le_trans aJV eM.size; have Sy5 : ∀ j, j < k → y5.cell? ⟨q, j * 2, none⟩ = some (.slice (aJ l j).va 4 (aJ l j).vc) ∧ y5.cell? ⟨q, j * 2 + 1, none⟩ = some (.slice (aJ l j).oa (aJ l j).no (aJ l j).oc) := aFy.out.cell; have l7 := aRp ((eM.block _ (aRq l8.out).1).trans l8.out); have aFB : Hid (ok = true → nv = 4 ∧ fK y5 y4.heap.size y5.heap.size va vc oa no oc 400) := jP; have aOW := eM.size; refine hK.out _ _ Sy5 (fun jR => ?_)
      clear hK K jR eM jP Sy4
      (try simp only [Act.put, u1, u2, u3])
      refine wpAnyH_take (i := 11) (oi := ⟨some 38, .move (.tmp 49), 132, "l04_carts.go:146", #[⟨10, .data⟩], none⟩) (v := ?_) rfl (by kernel_rfl) (by kernel_rfl) (by kernel_rfl) (fun _ _ _ h => h) (Or.inl ⟨by rfl, ?_⟩) (by assumption) ?_
      rotate_left
      ·intro w hSw
       clear hSw
       first | (go_simp; done) | (go_simp; with_reducible rfl)
      (try simp only [Act.put, u1, u2, u3])
      refine wpAnyH_take (i := 12) (oi := ⟨some 50, .extract (.tmp 38) 0, 27, "l04_carts.go:146", #[⟨11, .data⟩], none⟩) (v := ?_) rfl (by kernel_rfl) (by kernel_rfl) (by kernel_rfl) (fun _ _ _ h => h) (Or.inl ⟨by rfl, ?_⟩) (by assumption) ?_
      rotate_left
      ·intro w hSw
       clear hSw
       first | (go_simp; done) | (go_simp; with_reducible rfl)
      (try simp only [Act.put, u1, u2, u3])
      refine wpAnyH_take (i := 13) (oi := ⟨some 51, .extract (.tmp 38) 1, 4, "l04_carts.go:146", #[⟨11, .data⟩, { on := 15, ground := Ground.gcOnly Departure.lateStores }], none⟩) (v := ?_) rfl (by kernel_rfl) (by kernel_rfl) (by kernel_rfl) (fun _ _ _ h => h) (Or.inl ⟨by rfl, ?_⟩) (by assumption) ?_
      rotate_left
      ·intro w hSw
       clear hSw
       first | (go_simp; done) | (go_simp; with_reducible rfl)
      (try simp only [Act.put, u1, u2, u3])
      have fS := l7.out; have hbl := (aRq fS).1; have dU := aRp (aFy.out.box (.slice va nv vc) (.slice oa no oc) fS (by omega) (by omega))
      have mN := aRp (cH (.slice va nv vc) (.slice oa no oc) fS); have uZ : Hid (ok = true → nv = 4 ∧ fK ((y5.setCell ⟨y1.heap.size, 0, none⟩ (.slice va nv vc)).setCell ⟨y1.heap.size, 1, none⟩ (.slice oa no oc)) w.heap.size ((y5.setCell ⟨y1.heap.size, 0, none⟩ (.slice va nv vc)).setCell ⟨y1.heap.size, 1, none⟩ (.slice oa no oc)).heap.size va vc oa no oc 400) := fun h => ⟨(aFB.out h).1, (fK.other (aFB.out h).2 fS fun j _ _ bI => aE _ _ bI).more (by omega) (by rw [bB]; omega) aRr⟩
      obtain ⟨d0, d1⟩ := pair_cells fS; obtain ⟨f0, f1⟩ := aC fS; have SW : ∀ j, j < k → ((y5.setCell ⟨y1.heap.size, 0, none⟩ (.slice va nv vc)).setCell ⟨y1.heap.size, 1, none⟩ (.slice oa no oc)).cell? ⟨q, j * 2, none⟩ = some (.slice (aJ l j).va 4 (aJ l j).vc) ∧ ((y5.setCell ⟨y1.heap.size, 0, none⟩ (.slice va nv vc)).setCell ⟨y1.heap.size, 1, none⟩ (.slice oa no oc)).cell? ⟨q, j * 2 + 1, none⟩ = some (.slice (aJ l j).oa (aJ l j).no (aJ l j).oc) := dU.out.cell; refine rk 15 rfl (fun K hK => ?_)
      go_simp
      refine hK.out _ _ SW (fun jS => ?_)
      clear hK K jS d0 d1 f0 f1 SW fS
      (try simp only [Act.put, u1, u2, u3])
      generalize (y5.setCell ⟨y1.heap.size, 0, none⟩ (.slice va nv vc)).setCell ⟨y1.heap.size, 1, none⟩ (.slice oa no oc) = zn at mN dU uZ ⊢; have I1 : ∀ j, j < k → zn.cell? ⟨q, j * 2, none⟩ = some (.slice (aJ l j).va 4 (aJ l j).vc) ∧ zn.cell? ⟨q, j * 2 + 1, none⟩ = some (.slice (aJ l j).oa (aJ l j).no (aJ l j).oc) := dU.out.cell; refine wpAnyH_take (i := 16) (oi := ⟨some 12, .assign (.tmp 51), 4, "l04_carts.go:146", #[⟨13, .data⟩, ⟨15, .chain⟩, ⟨0, .phase⟩, ⟨1, .phase⟩, ⟨2, .phase⟩, ⟨3, .phase⟩, ⟨4, .phase⟩, ⟨5, .phase⟩, ⟨6, .phase⟩, ⟨7, .phase⟩, ⟨8, .phase⟩, ⟨9, .phase⟩, ⟨10, .phase⟩, ⟨11, .phase⟩, ⟨12, .phase⟩, ⟨13, .phase⟩, ⟨14, .phase⟩, ⟨15, .phase⟩], none⟩) (v := ?_) rfl (by kernel_rfl) (by kernel_rfl) (by kernel_rfl) (fun _ _ _ h => h) (Or.inl ⟨by rfl, ?_⟩) (by assumption) ?_
      rotate_left
      ·intro w hSw
       clear hSw
       first | (go_simp; done) | (go_simp; with_reducible rfl)
      (try simp only [Act.put, u1, u2, u3])
      refine wpAnyH_done (by kernel_rfl) ?_ _
      clear I1; cases ok
      ·skip
       go_wp2
       go_roundw
       case rel => exact ⟨r - 1, l, by omega, by go_num, dU⟩
       case measure => simp [intOf]; omega
      obtain ⟨e4, kU⟩ := uZ.out rfl; subst e4; have qY := aRp (dU.out.set pD ⟨va, vc, oa, no, oc⟩ kU); obtain ⟨x0, x1⟩ := pair_cells mN.out; obtain ⟨c0, c1⟩ := dU.out.cell i pD; have g0 := dU.out.frozen (i * 2); have g1 := dU.out.frozen (i * 2 + 1); clear kU; go_wp2
      go_roundw
      case rel => exact ⟨r - 1, l.set i ⟨va, vc, oa, no, oc⟩, by omega, by go_num, qY⟩
      case measure => simp [intOf]; omega
    ·skip
     have dJ : Below y0.heap.size y0 (y0.alloc (.cells #[.slice none 0 0, .slice none 0 0] 27)) := bl; have jF := bM (Below.refl _ (y0.alloc (.cells #[.slice none 0 0, .slice none 0 0] 27))); have mO := aRp (V8.out.below dJ); have SA : ∀ j, j < k → (y0.alloc (.cells #[.slice none 0 0, .slice none 0 0] 27)).cell? ⟨q, j * 2, none⟩ = some (.slice (aJ l j).va 4 (aJ l j).vc) ∧ (y0.alloc (.cells #[.slice none 0 0, .slice none 0 0] 27)).cell? ⟨q, j * 2 + 1, none⟩ = some (.slice (aJ l j).oa (aJ l j).no (aJ l j).oc) := mO.out.cell
     go_simp
     refine hK.out _ _ SA (fun jT => ?_)
     clear hK K jT
     (try simp only [Act.put, u1, u2, u3])
     generalize y0.alloc (.cells #[.slice none 0 0, .slice none 0 0] 27) = y6 at dJ jF mO SA ⊢; have Sy6 := SA; clear SA Sy0; have l6 := aRp jF; have aFx := mO; have aJU : w2.heap.size ≤ y6.heap.size := Nat.le_trans aEG dJ.size; clear jF mO dJ; refine wpAnyH_ready (rs := [7]) (by kernel_rfl) (by simp) ?_
     refine (AllReadyH.cons rfl (fun K hK => ?_) AllReadyH.nil)
     go_simp
     go_at_call 76
     refine (below y6 B g a len cap aFx.out.rd k hn (by omega)).mono ?_
     rintro e y7 ⟨j, hjk, rfl, rJ, W9⟩; have hji : (j : Int) < (k : Int) := by omega
     have hj0 : decide ((j : Int) < 0) = false := decide_eq_false (by omega)
     have aBa : ¬ ((j : Int) < 0) := by omega
     have F1 := aRp (aFx.out.step rJ W9); have aJT : w2.heap.size ≤ y7.heap.size := Nat.le_trans aJU rJ.size; have Sy7 : ∀ j, j < k → y7.cell? ⟨q, j * 2, none⟩ = some (.slice (aJ l j).va 4 (aJ l j).vc) ∧ y7.cell? ⟨q, j * 2 + 1, none⟩ = some (.slice (aJ l j).oa (aJ l j).no (aJ l j).oc) := F1.out.cell; have Q5 := aRp ((rJ.block _ (aRq l6.out).1 (by intro e; injection e with e; omega)).trans l6.out)
     refine hK.out _ _ Sy7 (fun qM => ?_)
     clear hK K qM rJ W9 Sy6
     (try simp only [Act.put, u1, u2, u3])
     refine wpAnyH_take (i := 8) (oi := ⟨some 47, .indexAddr 111 (.tmp 43) (.tmp 46), 0, "l04_carts.go:146", #[⟨4, .data⟩, ⟨7, .data⟩], none⟩) (v := ?_) rfl (by kernel_rfl) (by kernel_rfl) (by kernel_rfl) (fun _ _ _ h => h) (Or.inl ⟨by rfl, ?_⟩) (by assumption) ?_
     rotate_left
     ·intro w hSw
      clear hSw
      first | (go_simp; done) | (go_simp; with_reducible rfl)
     (try simp only [Act.put, u1, u2, u3])
     refine wpAnyH_take (i := 9) (oi := ⟨some 48, .load 27 (.tmp 47), 27, "l04_carts.go:146", #[⟨8, .data⟩], none⟩) (v := ?_) rfl (by kernel_rfl) (by kernel_rfl) (by kernel_rfl) (fun _ _ _ h => h) (Or.inl ⟨by rfl, ?_⟩) (by assumption) ?_
     rotate_left
     ·intro w hSw
      obtain ⟨c0, c1⟩ := hSw j hjk; clear hSw
      first | (go_simp; done) | (go_simp; with_reducible rfl)
     (try simp only [Act.put, u1, u2, u3])
     refine wpAnyH_ready (rs := [10]) (by kernel_rfl) (by simp) ?_
     refine (AllReadyH.cons rfl (fun K hK => ?_) AllReadyH.nil)
     go_simp
     go_at_call 105
     refine (i6 y7 w.heap.size y7.heap.size w.heap.size y7.heap.size (aJ l i) (aJ l j) (F1.out.row.crt i (by rw [F1.out.num]; exact pD)) (F1.out.row.crt j (by rw [F1.out.num]; exact hjk)) aRr aRr).mono ?_
     rintro e y8 ⟨va, nv, vc, oa, no, oc, ok, rfl, eM, jP⟩; have aFw := aRp (F1.out.below eM); have aPy : w2.heap.size ≤ y8.heap.size := Nat.le_trans aJT eM.size; have Sy8 : ∀ j, j < k → y8.cell? ⟨q, j * 2, none⟩ = some (.slice (aJ l j).va 4 (aJ l j).vc) ∧ y8.cell? ⟨q, j * 2 + 1, none⟩ = some (.slice (aJ l j).oa (aJ l j).no (aJ l j).oc) := aFw.out.cell; have l5 := aRp ((eM.block _ (aRq Q5.out).1).trans Q5.out); have aFA : Hid (ok = true → nv = 4 ∧ fK y8 y7.heap.size y8.heap.size va vc oa no oc 400) := jP; have aOV := eM.size; refine hK.out _ _ Sy8 (fun jR => ?_)
     clear hK K jR eM jP Sy7
     (try simp only [Act.put, u1, u2, u3])
     refine wpAnyH_take (i := 11) (oi := ⟨some 38, .move (.tmp 49), 132, "l04_carts.go:146", #[⟨10, .data⟩], none⟩) (v := ?_) rfl (by kernel_rfl) (by kernel_rfl) (by kernel_rfl) (fun _ _ _ h => h) (Or.inl ⟨by rfl, ?_⟩) (by assumption) ?_
     rotate_left
     ·intro w hSw
      clear hSw
      first | (go_simp; done) | (go_simp; with_reducible rfl)
     (try simp only [Act.put, u1, u2, u3])
     refine wpAnyH_take (i := 12) (oi := ⟨some 50, .extract (.tmp 38) 0, 27, "l04_carts.go:146", #[⟨11, .data⟩], none⟩) (v := ?_) rfl (by kernel_rfl) (by kernel_rfl) (by kernel_rfl) (fun _ _ _ h => h) (Or.inl ⟨by rfl, ?_⟩) (by assumption) ?_
     rotate_left
     ·intro w hSw
      clear hSw
      first | (go_simp; done) | (go_simp; with_reducible rfl)
     (try simp only [Act.put, u1, u2, u3])
     refine wpAnyH_take (i := 13) (oi := ⟨some 51, .extract (.tmp 38) 1, 4, "l04_carts.go:146", #[⟨11, .data⟩, { on := 15, ground := Ground.gcOnly Departure.lateStores }], none⟩) (v := ?_) rfl (by kernel_rfl) (by kernel_rfl) (by kernel_rfl) (fun _ _ _ h => h) (Or.inl ⟨by rfl, ?_⟩) (by assumption) ?_
     rotate_left
     ·intro w hSw
      clear hSw
      first | (go_simp; done) | (go_simp; with_reducible rfl)
     (try simp only [Act.put, u1, u2, u3])
     have fS := l5.out; have hbl := (aRq fS).1; have dU := aRp (aFw.out.box (.slice va nv vc) (.slice oa no oc) fS (by omega) (by omega))
     have mN := aRp (cH (.slice va nv vc) (.slice oa no oc) fS); have uZ : Hid (ok = true → nv = 4 ∧ fK ((y8.setCell ⟨y0.heap.size, 0, none⟩ (.slice va nv vc)).setCell ⟨y0.heap.size, 1, none⟩ (.slice oa no oc)) w.heap.size ((y8.setCell ⟨y0.heap.size, 0, none⟩ (.slice va nv vc)).setCell ⟨y0.heap.size, 1, none⟩ (.slice oa no oc)).heap.size va vc oa no oc 400) := fun h => ⟨(aFA.out h).1, (fK.other (aFA.out h).2 fS fun j _ _ bI => aE _ _ bI).more (by omega) (by rw [bB]; omega) aRr⟩
     obtain ⟨d0, d1⟩ := pair_cells fS; obtain ⟨f0, f1⟩ := aC fS; have SW : ∀ j, j < k → ((y8.setCell ⟨y0.heap.size, 0, none⟩ (.slice va nv vc)).setCell ⟨y0.heap.size, 1, none⟩ (.slice oa no oc)).cell? ⟨q, j * 2, none⟩ = some (.slice (aJ l j).va 4 (aJ l j).vc) ∧ ((y8.setCell ⟨y0.heap.size, 0, none⟩ (.slice va nv vc)).setCell ⟨y0.heap.size, 1, none⟩ (.slice oa no oc)).cell? ⟨q, j * 2 + 1, none⟩ = some (.slice (aJ l j).oa (aJ l j).no (aJ l j).oc) := dU.out.cell; refine rk 15 rfl (fun K hK => ?_)
     go_simp
     refine hK.out _ _ SW (fun jS => ?_)
     clear hK K jS d0 d1 f0 f1 SW fS
     (try simp only [Act.put, u1, u2, u3])
     generalize (y8.setCell ⟨y0.heap.size, 0, none⟩ (.slice va nv vc)).setCell ⟨y0.heap.size, 1, none⟩ (.slice oa no oc) = zn at mN dU uZ ⊢; have I1 : ∀ j, j < k → zn.cell? ⟨q, j * 2, none⟩ = some (.slice (aJ l j).va 4 (aJ l j).vc) ∧ zn.cell? ⟨q, j * 2 + 1, none⟩ = some (.slice (aJ l j).oa (aJ l j).no (aJ l j).oc) := dU.out.cell; refine wpAnyH_take (i := 16) (oi := ⟨some 12, .assign (.tmp 51), 4, "l04_carts.go:146", #[⟨13, .data⟩, ⟨15, .chain⟩, ⟨0, .phase⟩, ⟨1, .phase⟩, ⟨2, .phase⟩, ⟨3, .phase⟩, ⟨4, .phase⟩, ⟨5, .phase⟩, ⟨6, .phase⟩, ⟨7, .phase⟩, ⟨8, .phase⟩, ⟨9, .phase⟩, ⟨10, .phase⟩, ⟨11, .phase⟩, ⟨12, .phase⟩, ⟨13, .phase⟩, ⟨14, .phase⟩, ⟨15, .phase⟩], none⟩) (v := ?_) rfl (by kernel_rfl) (by kernel_rfl) (by kernel_rfl) (fun _ _ _ h => h) (Or.inl ⟨by rfl, ?_⟩) (by assumption) ?_
     rotate_left
     ·intro w hSw
      clear hSw
      first | (go_simp; done) | (go_simp; with_reducible rfl)
     (try simp only [Act.put, u1, u2, u3])
     refine wpAnyH_done (by kernel_rfl) ?_ _
     clear I1; cases ok
     ·skip
      go_wp2
      go_roundw
      case rel => exact ⟨r - 1, l, by omega, by go_num, dU⟩
      case measure => simp [intOf]; omega
     obtain ⟨e4, kU⟩ := uZ.out rfl; subst e4; have qY := aRp (dU.out.set pD ⟨va, vc, oa, no, oc⟩ kU); obtain ⟨x0, x1⟩ := pair_cells mN.out; obtain ⟨c0, c1⟩ := dU.out.cell i pD; have g0 := dU.out.frozen (i * 2); have g1 := dU.out.frozen (i * 2 + 1); clear kU; go_wp2
     go_roundw
     case rel => exact ⟨r - 1, l.set i ⟨va, vc, oa, no, oc⟩, by omega, by go_num, qY⟩
     case measure => simp [intOf]; omega
   go_upto_region 14 with fail
   obtain ⟨y0, tR⟩ : ∃ y0, w2.drew = y0 := ⟨_, rfl⟩; have sQ : Below w2.heap.size w2 y0 := by rw [← tR]; exact ⟨rfl, rfl, rfl, Nat.le_refl _, fun _ _ => rfl⟩
   have V8 := aRp (HL2.out.below sQ); have aEG := sQ.size; have Sy0 : ∀ j, j < k → y0.cell? ⟨q, j * 2, none⟩ = some (.slice (aJ l j).va 4 (aJ l j).vc) ∧ y0.cell? ⟨q, j * 2 + 1, none⟩ = some (.slice (aJ l j).oa (aJ l j).no (aJ l j).oc) := V8.out.cell; refine wp_region_held_drew (S := fun w' => ∀ j, j < k → w'.cell? ⟨q, j * 2, none⟩ = some (.slice (aJ l j).va 4 (aJ l j).vc) ∧ w'.cell? ⟨q, j * 2 + 1, none⟩ = some (.slice (aJ l j).oa (aJ l j).no (aJ l j).oc)) (by kernel_rfl) (by rw [tR]; exact Sy0) (fun aO => ?_)
   rw [tR]; clear aO tR sQ; refine wpAnyH_take (i := 0) (oi := ⟨some 58, .move (.tmp 7), 111, "l04_carts.go:152", #[], none⟩) (v := ?_) rfl (by kernel_rfl) (by kernel_rfl) (by kernel_rfl) (fun _ _ _ h => h) (Or.inl ⟨by rfl, ?_⟩) (by assumption) ?_
   rotate_left
   ·intro w hSw
    clear hSw
    first | (go_simp; done) | (go_simp; with_reducible rfl)
   (try simp only [Act.put, u1, u2, u3])
   refine wpAnyH_take (i := 1) (oi := ⟨some 59, .move (.tmp 10), 3, "l04_carts.go:152", #[], none⟩) (v := ?_) rfl (by kernel_rfl) (by kernel_rfl) (by kernel_rfl) (fun _ _ _ h => h) (Or.inl ⟨by rfl, ?_⟩) (by assumption) ?_
   rotate_left
   ·intro w hSw
    clear hSw
    first | (go_simp; done) | (go_simp; with_reducible rfl)
   (try simp only [Act.put, u1, u2, u3])
   refine wpAnyH_take (i := 2) (oi := ⟨some 60, .indexAddr 111 (.tmp 58) (.tmp 59), 0, "l04_carts.go:152", #[⟨0, .data⟩, ⟨1, .data⟩], none⟩) (v := ?_) rfl (by kernel_rfl) (by kernel_rfl) (by kernel_rfl) (fun _ _ _ h => h) (Or.inl ⟨by rfl, ?_⟩) (by assumption) ?_
   rotate_left
   ·intro w hSw
    clear hSw
    first | (go_simp; done) | (go_simp; with_reducible rfl)
   (try simp only [Act.put, u1, u2, u3])
   refine wpAnyH_take (i := 3) (oi := ⟨some 61, .load 27 (.tmp 60), 27, "l04_carts.go:152", #[⟨2, .data⟩], none⟩) (v := ?_) rfl (by kernel_rfl) (by kernel_rfl) (by kernel_rfl) (fun _ _ _ h => h) (Or.inl ⟨by rfl, ?_⟩) (by assumption) ?_
   rotate_left
   ·intro w hSw
    obtain ⟨c0, c1⟩ := hSw i pD; clear hSw
    first | (go_simp; done) | (go_simp; with_reducible rfl)
   (try simp only [Act.put, u1, u2, u3])
   refine wpAnyH_take (i := 4) (oi := ⟨some 62, .move (.tmp 10), 3, "l04_carts.go:152", #[], none⟩) (v := ?_) rfl (by kernel_rfl) (by kernel_rfl) (by kernel_rfl) (fun _ _ _ h => h) (Or.inl ⟨by rfl, ?_⟩) (by assumption) ?_
   rotate_left
   ·intro w hSw
    clear hSw
    first | (go_simp; done) | (go_simp; with_reducible rfl)
   (try simp only [Act.put, u1, u2, u3])
   refine wpAnyH_take (i := 5) (oi := ⟨some 63, .move (.tmp 0), 57, "l04_carts.go:152", #[], none⟩) (v := ?_) rfl (by kernel_rfl) (by kernel_rfl) (by kernel_rfl) (fun _ _ _ h => h) (Or.inl ⟨by rfl, ?_⟩) (by assumption) ?_
   rotate_left
   ·intro w hSw
    clear hSw
    first | (go_simp; done) | (go_simp; with_reducible rfl)
   (try simp only [Act.put, u1, u2, u3])
   refine wpAnyH_ready (rs := [6, 11]) (by kernel_rfl) (by simp) ?_
   refine (AllReadyH.cons rfl (fun K hK => ?_) (AllReadyH.cons rfl (fun K hK => ?_) AllReadyH.nil))
   ·skip
    go_simp
    go_at_call 41
    refine (aDy y0 B g a len cap V8.out.rd (by omega)).mono ?_
    rintro e y1 ⟨kind, item, qty, dv, sq, hi8, rfl, rJ, W9⟩; have wI := aRp (V8.out.step rJ W9); have aEF : w2.heap.size ≤ y1.heap.size := Nat.le_trans aEG rJ.size; have Sy1 : ∀ j, j < k → y1.cell? ⟨q, j * 2, none⟩ = some (.slice (aJ l j).va 4 (aJ l j).vc) ∧ y1.cell? ⟨q, j * 2 + 1, none⟩ = some (.slice (aJ l j).oa (aJ l j).no (aJ l j).oc) := wI.out.cell; refine hK.out _ _ Sy1 (fun qM => ?_)
    clear hK K qM rJ W9 Sy0
    (try simp only [Act.put, u1, u2, u3])
    refine wpAnyH_ready (rs := [7, 11]) (by kernel_rfl) (by simp) ?_
    refine (AllReadyH.cons rfl (fun K hK => ?_) (AllReadyH.cons rfl (fun K hK => ?_) AllReadyH.nil))
    ·skip
     go_simp
     go_at_call 18
     refine (aA6 y1 w.heap.size y1.heap.size (aJ l i) (i : Int) kind qty dv sq item (wI.out.row.crt i (by rw [wI.out.num]; exact pD)) aRr hi8).mono ?_
     rintro e y2 ⟨va, nv, vc, oa, no, oc, code, rfl, eM, B8⟩; have jP : code = 0 → nv = 4 ∧ fK y2 y1.heap.size y2.heap.size va vc oa no oc 400 := fun h => ⟨(B8 h).1, (B8 h).2.more aRr aRr (by omega)⟩
     clear B8; have aFz := aRp (wI.out.below eM); have aJW : w2.heap.size ≤ y2.heap.size := Nat.le_trans aEF eM.size; have Sy2 : ∀ j, j < k → y2.cell? ⟨q, j * 2, none⟩ = some (.slice (aJ l j).va 4 (aJ l j).vc) ∧ y2.cell? ⟨q, j * 2 + 1, none⟩ = some (.slice (aJ l j).oa (aJ l j).no (aJ l j).oc) := aFz.out.cell; have aFD : Hid (code = 0 → nv = 4 ∧ fK y2 y1.heap.size y2.heap.size va vc oa no oc 400) := jP; have aOX := eM.size; refine hK.out _ _ Sy2 (fun jR => ?_)
     clear hK K jR eM jP Sy1
     (try simp only [Act.put, u1, u2, u3])
     refine wpAnyH_take (i := 8) (oi := ⟨some 57, .move (.tmp 65), 32, "l04_carts.go:152", #[⟨7, .data⟩], none⟩) (v := ?_) rfl (by kernel_rfl) (by kernel_rfl) (by kernel_rfl) (fun _ _ _ h => h) (Or.inl ⟨by rfl, ?_⟩) (by assumption) ?_
     rotate_left
     ·intro w hSw
      clear hSw
      first | (go_simp; done) | (go_simp; with_reducible rfl)
     (try simp only [Act.put, u1, u2, u3])
     refine wpAnyH_take (i := 9) (oi := ⟨some 66, .extract (.tmp 57) 0, 27, "l04_carts.go:152", #[⟨8, .data⟩], none⟩) (v := ?_) rfl (by kernel_rfl) (by kernel_rfl) (by kernel_rfl) (fun _ _ _ h => h) (Or.inl ⟨by rfl, ?_⟩) (by assumption) ?_
     rotate_left
     ·intro w hSw
      clear hSw
      first | (go_simp; done) | (go_simp; with_reducible rfl)
     (try simp only [Act.put, u1, u2, u3])
     refine wpAnyH_take (i := 10) (oi := ⟨some 67, .extract (.tmp 57) 1, 2, "l04_carts.go:152", #[⟨8, .data⟩, { on := 12, ground := Ground.gcOnly Departure.lateStores }], none⟩) (v := ?_) rfl (by kernel_rfl) (by kernel_rfl) (by kernel_rfl) (fun _ _ _ h => h) (Or.inl ⟨by rfl, ?_⟩) (by assumption) ?_
     rotate_left
     ·intro w hSw
      clear hSw
      first | (go_simp; done) | (go_simp; with_reducible rfl)
     (try simp only [Act.put, u1, u2, u3])
     refine wpAnyH_ready (rs := [11]) (by kernel_rfl) (by simp) ?_
     refine (AllReadyH.cons rfl (fun K hK => ?_) AllReadyH.nil)
     have dJ : Below y2.heap.size y2 (y2.alloc (.cells #[.slice none 0 0, .slice none 0 0] 27)) := bl; have jF := bM (Below.refl _ (y2.alloc (.cells #[.slice none 0 0, .slice none 0 0] 27))); have mO := aRp (aFz.out.below dJ); have SA : ∀ j, j < k → (y2.alloc (.cells #[.slice none 0 0, .slice none 0 0] 27)).cell? ⟨q, j * 2, none⟩ = some (.slice (aJ l j).va 4 (aJ l j).vc) ∧ (y2.alloc (.cells #[.slice none 0 0, .slice none 0 0] 27)).cell? ⟨q, j * 2 + 1, none⟩ = some (.slice (aJ l j).oa (aJ l j).no (aJ l j).oc) := mO.out.cell
     go_simp
     refine hK.out _ _ SA (fun jT => ?_)
     clear hK K jT
     (try simp only [Act.put, u1, u2, u3])
     generalize y2.alloc (.cells #[.slice none 0 0, .slice none 0 0] 27) = y3 at dJ jF mO SA ⊢; have Sy3 := SA; clear SA Sy2; have aA7 := aRp jF; have aKJ := mO; have aPA : w2.heap.size ≤ y3.heap.size := Nat.le_trans aJW dJ.size; have aFC : Hid (code = 0 → nv = 4 ∧ fK y3 y1.heap.size y2.heap.size va vc oa no oc 400) := fun h => ⟨(aFD.out h).1, (aFD.out h).2.below dJ (by omega)⟩
     clear jF mO dJ; have fS := aA7.out; have hbl := (aRq fS).1; have dU := aRp (aKJ.out.box (.slice va nv vc) (.slice oa no oc) fS (by omega) (by omega))
     have mN := aRp (cH (.slice va nv vc) (.slice oa no oc) fS); have uZ : Hid (code = 0 → nv = 4 ∧ fK ((y3.setCell ⟨y2.heap.size, 0, none⟩ (.slice va nv vc)).setCell ⟨y2.heap.size, 1, none⟩ (.slice oa no oc)) w.heap.size ((y3.setCell ⟨y2.heap.size, 0, none⟩ (.slice va nv vc)).setCell ⟨y2.heap.size, 1, none⟩ (.slice oa no oc)).heap.size va vc oa no oc 400) := fun h => ⟨(aFC.out h).1, (fK.other (aFC.out h).2 fS fun j _ _ bI => aE _ _ bI).more (by omega) (by rw [bB]; omega) aRr⟩
     obtain ⟨d0, d1⟩ := pair_cells fS; obtain ⟨f0, f1⟩ := aC fS; have SW : ∀ j, j < k → ((y3.setCell ⟨y2.heap.size, 0, none⟩ (.slice va nv vc)).setCell ⟨y2.heap.size, 1, none⟩ (.slice oa no oc)).cell? ⟨q, j * 2, none⟩ = some (.slice (aJ l j).va 4 (aJ l j).vc) ∧ ((y3.setCell ⟨y2.heap.size, 0, none⟩ (.slice va nv vc)).setCell ⟨y2.heap.size, 1, none⟩ (.slice oa no oc)).cell? ⟨q, j * 2 + 1, none⟩ = some (.slice (aJ l j).oa (aJ l j).no (aJ l j).oc) := dU.out.cell; refine rk 12 rfl (fun K hK => ?_)
     go_simp
     refine hK.out _ _ SW (fun jS => ?_)
     clear hK K jS d0 d1 f0 f1 SW fS
     (try simp only [Act.put, u1, u2, u3])
     generalize (y3.setCell ⟨y2.heap.size, 0, none⟩ (.slice va nv vc)).setCell ⟨y2.heap.size, 1, none⟩ (.slice oa no oc) = zn at mN dU uZ ⊢; have I1 : ∀ j, j < k → zn.cell? ⟨q, j * 2, none⟩ = some (.slice (aJ l j).va 4 (aJ l j).vc) ∧ zn.cell? ⟨q, j * 2 + 1, none⟩ = some (.slice (aJ l j).oa (aJ l j).no (aJ l j).oc) := dU.out.cell; refine wpAnyH_take (i := 13) (oi := ⟨some 14, .assign (.tmp 67), 2, "l04_carts.go:152", #[⟨10, .data⟩, ⟨12, .chain⟩, ⟨0, .phase⟩, ⟨1, .phase⟩, ⟨2, .phase⟩, ⟨3, .phase⟩, ⟨4, .phase⟩, ⟨5, .phase⟩, ⟨6, .phase⟩, ⟨7, .phase⟩, ⟨8, .phase⟩, ⟨9, .phase⟩, ⟨10, .phase⟩, ⟨11, .phase⟩, ⟨12, .phase⟩], none⟩) (v := ?_) rfl (by kernel_rfl) (by kernel_rfl) (by kernel_rfl) (fun _ _ _ h => h) (Or.inl ⟨by rfl, ?_⟩) (by assumption) ?_
     rotate_left
     ·intro w hSw
      clear hSw
      first | (go_simp; done) | (go_simp; with_reducible rfl)
     (try simp only [Act.put, u1, u2, u3])
     refine wpAnyH_done (by kernel_rfl) ?_ _
     clear I1
     by_cases vH : code = 0
     rotate_left
     ·have en : (code == 0) = false := by rw [beq_eq_false_iff_ne]; exact vH
      clear vH; go_wp2
      go_roundw
      case rel => exact ⟨r - 1, l, by omega, by go_num, dU⟩
      case measure => simp [intOf]; omega
     subst vH; obtain ⟨e4, kU⟩ := uZ.out rfl; subst e4; have qY := aRp (dU.out.set pD ⟨va, vc, oa, no, oc⟩ kU); obtain ⟨x0, x1⟩ := pair_cells mN.out; obtain ⟨c0, c1⟩ := dU.out.cell i pD; have g0 := dU.out.frozen (i * 2); have g1 := dU.out.frozen (i * 2 + 1); clear kU; go_wp2
     go_roundw
     case rel => exact ⟨r - 1, l.set i ⟨va, vc, oa, no, oc⟩, by omega, by go_num, qY⟩
     case measure => simp [intOf]; omega
    ·skip
     have dJ : Below y1.heap.size y1 (y1.alloc (.cells #[.slice none 0 0, .slice none 0 0] 27)) := bl; have jF := bM (Below.refl _ (y1.alloc (.cells #[.slice none 0 0, .slice none 0 0] 27))); have mO := aRp (wI.out.below dJ); have SA : ∀ j, j < k → (y1.alloc (.cells #[.slice none 0 0, .slice none 0 0] 27)).cell? ⟨q, j * 2, none⟩ = some (.slice (aJ l j).va 4 (aJ l j).vc) ∧ (y1.alloc (.cells #[.slice none 0 0, .slice none 0 0] 27)).cell? ⟨q, j * 2 + 1, none⟩ = some (.slice (aJ l j).oa (aJ l j).no (aJ l j).oc) := mO.out.cell
     go_simp
     refine hK.out _ _ SA (fun jT => ?_)
     clear hK K jT
     (try simp only [Act.put, u1, u2, u3])
     generalize y1.alloc (.cells #[.slice none 0 0, .slice none 0 0] 27) = y4 at dJ jF mO SA ⊢; have Sy4 := SA; clear SA Sy1; have l8 := aRp jF; have V7 := mO; have aJV : w2.heap.size ≤ y4.heap.size := Nat.le_trans aEF dJ.size; clear jF mO dJ; refine wpAnyH_ready (rs := [7]) (by kernel_rfl) (by simp) ?_
     refine (AllReadyH.cons rfl (fun K hK => ?_) AllReadyH.nil)
     go_simp
     go_at_call 18
     refine (aA6 y4 w.heap.size y4.heap.size (aJ l i) (i : Int) kind qty dv sq item (V7.out.row.crt i (by rw [V7.out.num]; exact pD)) aRr hi8).mono ?_
     rintro e y5 ⟨va, nv, vc, oa, no, oc, code, rfl, eM, B8⟩; have jP : code = 0 → nv = 4 ∧ fK y5 y4.heap.size y5.heap.size va vc oa no oc 400 := fun h => ⟨(B8 h).1, (B8 h).2.more aRr aRr (by omega)⟩
     clear B8; have aFy := aRp (V7.out.below eM); have aPz : w2.heap.size ≤ y5.heap.size := Nat.le_trans aJV eM.size; have Sy5 : ∀ j, j < k → y5.cell? ⟨q, j * 2, none⟩ = some (.slice (aJ l j).va 4 (aJ l j).vc) ∧ y5.cell? ⟨q, j * 2 + 1, none⟩ = some (.slice (aJ l j).oa (aJ l j).no (aJ l j).oc) := aFy.out.cell; have l7 := aRp ((eM.block _ (aRq l8.out).1).trans l8.out); have aFB : Hid (code = 0 → nv = 4 ∧ fK y5 y4.heap.size y5.heap.size va vc oa no oc 400) := jP; have aOW := eM.size; refine hK.out _ _ Sy5 (fun jR => ?_)
     clear hK K jR eM jP Sy4
     (try simp only [Act.put, u1, u2, u3])
     refine wpAnyH_take (i := 8) (oi := ⟨some 57, .move (.tmp 65), 32, "l04_carts.go:152", #[⟨7, .data⟩], none⟩) (v := ?_) rfl (by kernel_rfl) (by kernel_rfl) (by kernel_rfl) (fun _ _ _ h => h) (Or.inl ⟨by rfl, ?_⟩) (by assumption) ?_
     rotate_left
     ·intro w hSw
      clear hSw
      first | (go_simp; done) | (go_simp; with_reducible rfl)
     (try simp only [Act.put, u1, u2, u3])
     refine wpAnyH_take (i := 9) (oi := ⟨some 66, .extract (.tmp 57) 0, 27, "l04_carts.go:152", #[⟨8, .data⟩], none⟩) (v := ?_) rfl (by kernel_rfl) (by kernel_rfl) (by kernel_rfl) (fun _ _ _ h => h) (Or.inl ⟨by rfl, ?_⟩) (by assumption) ?_
     rotate_left
     ·intro w hSw
      clear hSw
      first | (go_simp; done) | (go_simp; with_reducible rfl)
     (try simp only [Act.put, u1, u2, u3])
     refine wpAnyH_take (i := 10) (oi := ⟨some 67, .extract (.tmp 57) 1, 2, "l04_carts.go:152", #[⟨8, .data⟩, { on := 12, ground := Ground.gcOnly Departure.lateStores }], none⟩) (v := ?_) rfl (by kernel_rfl) (by kernel_rfl) (by kernel_rfl) (fun _ _ _ h => h) (Or.inl ⟨by rfl, ?_⟩) (by assumption) ?_
     rotate_left
     ·intro w hSw
      clear hSw
      first | (go_simp; done) | (go_simp; with_reducible rfl)
     (try simp only [Act.put, u1, u2, u3])
     have fS := l7.out; have hbl := (aRq fS).1; have dU := aRp (aFy.out.box (.slice va nv vc) (.slice oa no oc) fS (by omega) (by omega))
     have mN := aRp (cH (.slice va nv vc) (.slice oa no oc) fS); have uZ : Hid (code = 0 → nv = 4 ∧ fK ((y5.setCell ⟨y1.heap.size, 0, none⟩ (.slice va nv vc)).setCell ⟨y1.heap.size, 1, none⟩ (.slice oa no oc)) w.heap.size ((y5.setCell ⟨y1.heap.size, 0, none⟩ (.slice va nv vc)).setCell ⟨y1.heap.size, 1, none⟩ (.slice oa no oc)).heap.size va vc oa no oc 400) := fun h => ⟨(aFB.out h).1, (fK.other (aFB.out h).2 fS fun j _ _ bI => aE _ _ bI).more (by omega) (by rw [bB]; omega) aRr⟩
     obtain ⟨d0, d1⟩ := pair_cells fS; obtain ⟨f0, f1⟩ := aC fS; have SW : ∀ j, j < k → ((y5.setCell ⟨y1.heap.size, 0, none⟩ (.slice va nv vc)).setCell ⟨y1.heap.size, 1, none⟩ (.slice oa no oc)).cell? ⟨q, j * 2, none⟩ = some (.slice (aJ l j).va 4 (aJ l j).vc) ∧ ((y5.setCell ⟨y1.heap.size, 0, none⟩ (.slice va nv vc)).setCell ⟨y1.heap.size, 1, none⟩ (.slice oa no oc)).cell? ⟨q, j * 2 + 1, none⟩ = some (.slice (aJ l j).oa (aJ l j).no (aJ l j).oc) := dU.out.cell; refine rk 12 rfl (fun K hK => ?_)
     go_simp
     refine hK.out _ _ SW (fun jS => ?_)
     clear hK K jS d0 d1 f0 f1 SW fS
     (try simp only [Act.put, u1, u2, u3])
     generalize (y5.setCell ⟨y1.heap.size, 0, none⟩ (.slice va nv vc)).setCell ⟨y1.heap.size, 1, none⟩ (.slice oa no oc) = zn at mN dU uZ ⊢; have I1 : ∀ j, j < k → zn.cell? ⟨q, j * 2, none⟩ = some (.slice (aJ l j).va 4 (aJ l j).vc) ∧ zn.cell? ⟨q, j * 2 + 1, none⟩ = some (.slice (aJ l j).oa (aJ l j).no (aJ l j).oc) := dU.out.cell; refine wpAnyH_take (i := 13) (oi := ⟨some 14, .assign (.tmp 67), 2, "l04_carts.go:152", #[⟨10, .data⟩, ⟨12, .chain⟩, ⟨0, .phase⟩, ⟨1, .phase⟩, ⟨2, .phase⟩, ⟨3, .phase⟩, ⟨4, .phase⟩, ⟨5, .phase⟩, ⟨6, .phase⟩, ⟨7, .phase⟩, ⟨8, .phase⟩, ⟨9, .phase⟩, ⟨10, .phase⟩, ⟨11, .phase⟩, ⟨12, .phase⟩], none⟩) (v := ?_) rfl (by kernel_rfl) (by kernel_rfl) (by kernel_rfl) (fun _ _ _ h => h) (Or.inl ⟨by rfl, ?_⟩) (by assumption) ?_
     rotate_left
     ·intro w hSw
      clear hSw
      first | (go_simp; done) | (go_simp; with_reducible rfl)
     (try simp only [Act.put, u1, u2, u3])
     refine wpAnyH_done (by kernel_rfl) ?_ _
     clear I1
     by_cases vH : code = 0
     rotate_left
     ·have en : (code == 0) = false := by rw [beq_eq_false_iff_ne]; exact vH
      clear vH; go_wp2
      go_roundw
      case rel => exact ⟨r - 1, l, by omega, by go_num, dU⟩
      case measure => simp [intOf]; omega
     subst vH; obtain ⟨e4, kU⟩ := uZ.out rfl; subst e4; have qY := aRp (dU.out.set pD ⟨va, vc, oa, no, oc⟩ kU); obtain ⟨x0, x1⟩ := pair_cells mN.out; obtain ⟨c0, c1⟩ := dU.out.cell i pD; have g0 := dU.out.frozen (i * 2); have g1 := dU.out.frozen (i * 2 + 1); clear kU; go_wp2
     go_roundw
     case rel => exact ⟨r - 1, l.set i ⟨va, vc, oa, no, oc⟩, by omega, by go_num, qY⟩
     case measure => simp [intOf]; omega
   ·skip
    have dJ : Below y0.heap.size y0 (y0.alloc (.cells #[.slice none 0 0, .slice none 0 0] 27)) := bl; have jF := bM (Below.refl _ (y0.alloc (.cells #[.slice none 0 0, .slice none 0 0] 27))); have mO := aRp (V8.out.below dJ); have SA : ∀ j, j < k → (y0.alloc (.cells #[.slice none 0 0, .slice none 0 0] 27)).cell? ⟨q, j * 2, none⟩ = some (.slice (aJ l j).va 4 (aJ l j).vc) ∧ (y0.alloc (.cells #[.slice none 0 0, .slice none 0 0] 27)).cell? ⟨q, j * 2 + 1, none⟩ = some (.slice (aJ l j).oa (aJ l j).no (aJ l j).oc) := mO.out.cell
    go_simp
    refine hK.out _ _ SA (fun jT => ?_)
    clear hK K jT
    (try simp only [Act.put, u1, u2, u3])
    generalize y0.alloc (.cells #[.slice none 0 0, .slice none 0 0] 27) = y6 at dJ jF mO SA ⊢; have Sy6 := SA; clear SA Sy0; have l6 := aRp jF; have aFx := mO; have aJU : w2.heap.size ≤ y6.heap.size := Nat.le_trans aEG dJ.size; clear jF mO dJ; refine wpAnyH_ready (rs := [6]) (by kernel_rfl) (by simp) ?_
    refine (AllReadyH.cons rfl (fun K hK => ?_) AllReadyH.nil)
    go_simp
    go_at_call 41
    refine (aDy y6 B g a len cap aFx.out.rd (by omega)).mono ?_
    rintro e y7 ⟨kind, item, qty, dv, sq, hi8, rfl, rJ, W9⟩; have F1 := aRp (aFx.out.step rJ W9); have aJT : w2.heap.size ≤ y7.heap.size := Nat.le_trans aJU rJ.size; have Sy7 : ∀ j, j < k → y7.cell? ⟨q, j * 2, none⟩ = some (.slice (aJ l j).va 4 (aJ l j).vc) ∧ y7.cell? ⟨q, j * 2 + 1, none⟩ = some (.slice (aJ l j).oa (aJ l j).no (aJ l j).oc) := F1.out.cell; have Q5 := aRp ((rJ.block _ (aRq l6.out).1 (by intro e; injection e with e; omega)).trans l6.out)
    refine hK.out _ _ Sy7 (fun qM => ?_)
    clear hK K qM rJ W9 Sy6
    (try simp only [Act.put, u1, u2, u3])
    refine wpAnyH_ready (rs := [7]) (by kernel_rfl) (by simp) ?_
    refine (AllReadyH.cons rfl (fun K hK => ?_) AllReadyH.nil)
    go_simp
    go_at_call 18
    refine (aA6 y7 w.heap.size y7.heap.size (aJ l i) (i : Int) kind qty dv sq item (F1.out.row.crt i (by rw [F1.out.num]; exact pD)) aRr hi8).mono ?_
    rintro e y8 ⟨va, nv, vc, oa, no, oc, code, rfl, eM, B8⟩; have jP : code = 0 → nv = 4 ∧ fK y8 y7.heap.size y8.heap.size va vc oa no oc 400 := fun h => ⟨(B8 h).1, (B8 h).2.more aRr aRr (by omega)⟩
    clear B8; have aFw := aRp (F1.out.below eM); have aPy : w2.heap.size ≤ y8.heap.size := Nat.le_trans aJT eM.size; have Sy8 : ∀ j, j < k → y8.cell? ⟨q, j * 2, none⟩ = some (.slice (aJ l j).va 4 (aJ l j).vc) ∧ y8.cell? ⟨q, j * 2 + 1, none⟩ = some (.slice (aJ l j).oa (aJ l j).no (aJ l j).oc) := aFw.out.cell; have l5 := aRp ((eM.block _ (aRq Q5.out).1).trans Q5.out); have aFA : Hid (code = 0 → nv = 4 ∧ fK y8 y7.heap.size y8.heap.size va vc oa no oc 400) := jP; have aOV := eM.size; refine hK.out _ _ Sy8 (fun jR => ?_)
    clear hK K jR eM jP Sy7
    (try simp only [Act.put, u1, u2, u3])
    refine wpAnyH_take (i := 8) (oi := ⟨some 57, .move (.tmp 65), 32, "l04_carts.go:152", #[⟨7, .data⟩], none⟩) (v := ?_) rfl (by kernel_rfl) (by kernel_rfl) (by kernel_rfl) (fun _ _ _ h => h) (Or.inl ⟨by rfl, ?_⟩) (by assumption) ?_
    rotate_left
    ·intro w hSw
     clear hSw
     first | (go_simp; done) | (go_simp; with_reducible rfl)
    (try simp only [Act.put, u1, u2, u3])
    refine wpAnyH_take (i := 9) (oi := ⟨some 66, .extract (.tmp 57) 0, 27, "l04_carts.go:152", #[⟨8, .data⟩], none⟩) (v := ?_) rfl (by kernel_rfl) (by kernel_rfl) (by kernel_rfl) (fun _ _ _ h => h) (Or.inl ⟨by rfl, ?_⟩) (by assumption) ?_
    rotate_left
    ·intro w hSw
     clear hSw
     first | (go_simp; done) | (go_simp; with_reducible rfl)
    (try simp only [Act.put, u1, u2, u3])
    refine wpAnyH_take (i := 10) (oi := ⟨some 67, .extract (.tmp 57) 1, 2, "l04_carts.go:152", #[⟨8, .data⟩, { on := 12, ground := Ground.gcOnly Departure.lateStores }], none⟩) (v := ?_) rfl (by kernel_rfl) (by kernel_rfl) (by kernel_rfl) (fun _ _ _ h => h) (Or.inl ⟨by rfl, ?_⟩) (by assumption) ?_
    rotate_left
    ·intro w hSw
     clear hSw
     first | (go_simp; done) | (go_simp; with_reducible rfl)
    (try simp only [Act.put, u1, u2, u3])
    have fS := l5.out; have hbl := (aRq fS).1; have dU := aRp (aFw.out.box (.slice va nv vc) (.slice oa no oc) fS (by omega) (by omega))
    have mN := aRp (cH (.slice va nv vc) (.slice oa no oc) fS); have uZ : Hid (code = 0 → nv = 4 ∧ fK ((y8.setCell ⟨y0.heap.size, 0, none⟩ (.slice va nv vc)).setCell ⟨y0.heap.size, 1, none⟩ (.slice oa no oc)) w.heap.size ((y8.setCell ⟨y0.heap.size, 0, none⟩ (.slice va nv vc)).setCell ⟨y0.heap.size, 1, none⟩ (.slice oa no oc)).heap.size va vc oa no oc 400) := fun h => ⟨(aFA.out h).1, (fK.other (aFA.out h).2 fS fun j _ _ bI => aE _ _ bI).more (by omega) (by rw [bB]; omega) aRr⟩
    obtain ⟨d0, d1⟩ := pair_cells fS; obtain ⟨f0, f1⟩ := aC fS; have SW : ∀ j, j < k → ((y8.setCell ⟨y0.heap.size, 0, none⟩ (.slice va nv vc)).setCell ⟨y0.heap.size, 1, none⟩ (.slice oa no oc)).cell? ⟨q, j * 2, none⟩ = some (.slice (aJ l j).va 4 (aJ l j).vc) ∧ ((y8.setCell ⟨y0.heap.size, 0, none⟩ (.slice va nv vc)).setCell ⟨y0.heap.size, 1, none⟩ (.slice oa no oc)).cell? ⟨q, j * 2 + 1, none⟩ = some (.slice (aJ l j).oa (aJ l j).no (aJ l j).oc) := dU.out.cell; refine rk 12 rfl (fun K hK => ?_)
    go_simp
    refine hK.out _ _ SW (fun jS => ?_)
    clear hK K jS d0 d1 f0 f1 SW fS
    (try simp only [Act.put, u1, u2, u3])
    generalize (y8.setCell ⟨y0.heap.size, 0, none⟩ (.slice va nv vc)).setCell ⟨y0.heap.size, 1, none⟩ (.slice oa no oc) = zn at mN dU uZ ⊢; have I1 : ∀ j, j < k → zn.cell? ⟨q, j * 2, none⟩ = some (.slice (aJ l j).va 4 (aJ l j).vc) ∧ zn.cell? ⟨q, j * 2 + 1, none⟩ = some (.slice (aJ l j).oa (aJ l j).no (aJ l j).oc) := dU.out.cell; refine wpAnyH_take (i := 13) (oi := ⟨some 14, .assign (.tmp 67), 2, "l04_carts.go:152", #[⟨10, .data⟩, ⟨12, .chain⟩, ⟨0, .phase⟩, ⟨1, .phase⟩, ⟨2, .phase⟩, ⟨3, .phase⟩, ⟨4, .phase⟩, ⟨5, .phase⟩, ⟨6, .phase⟩, ⟨7, .phase⟩, ⟨8, .phase⟩, ⟨9, .phase⟩, ⟨10, .phase⟩, ⟨11, .phase⟩, ⟨12, .phase⟩], none⟩) (v := ?_) rfl (by kernel_rfl) (by kernel_rfl) (by kernel_rfl) (fun _ _ _ h => h) (Or.inl ⟨by rfl, ?_⟩) (by assumption) ?_
    rotate_left
    ·intro w hSw
     clear hSw
     first | (go_simp; done) | (go_simp; with_reducible rfl)
    (try simp only [Act.put, u1, u2, u3])
    refine wpAnyH_done (by kernel_rfl) ?_ _
    clear I1
    by_cases vH : code = 0
    rotate_left
    ·have en : (code == 0) = false := by rw [beq_eq_false_iff_ne]; exact vH
     clear vH; go_wp2
     go_roundw
     case rel => exact ⟨r - 1, l, by omega, by go_num, dU⟩
     case measure => simp [intOf]; omega
    subst vH; obtain ⟨e4, kU⟩ := uZ.out rfl; subst e4; have qY := aRp (dU.out.set pD ⟨va, vc, oa, no, oc⟩ kU); obtain ⟨x0, x1⟩ := pair_cells mN.out; obtain ⟨c0, c1⟩ := dU.out.cell i pD; have g0 := dU.out.frozen (i * 2); have g1 := dU.out.frozen (i * 2 + 1); clear kU; go_wp2
    go_roundw
    case rel => exact ⟨r - 1, l.set i ⟨va, vc, oa, no, oc⟩, by omega, by go_num, qY⟩
    case measure => simp [intOf]; omega
end Go.Proofs.YthkagbnpcjidfaaGreatDoor
