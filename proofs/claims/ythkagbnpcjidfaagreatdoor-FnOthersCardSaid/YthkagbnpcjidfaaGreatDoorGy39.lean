/- Walks and mathematics that several claims share, part 39. -/
import Derived.Test.YthkagbnpcjidfaaGreatDoorGy36
import Derived.Test.YthkagbnpcjidfaaGreatDoorGy37
import Derived.Test.YthkagbnpcjidfaaGreatDoorGy38
import Derived.Test.YthkagbnpcjidfaaGreatDoorGy21
import Derived.Deep.Cut
import Derived.Test.YthkagbnpcjidfaaGreatDoorGyA
namespace Go.Proofs.YthkagbnpcjidfaaGreatDoor
set_option maxRecDepth 100000
open Go.RowKit
set_option linter.unusedVariables false
set_option linter.unusedSimpArgs false
set_option linter.unusedVariables false
set_option linter.unusedSimpArgs false

/-- What merging leaves: when it may be done, a cart of the call's own. -/
def aQd (w : World) (e : Ending) (w' : World) : Prop :=
 ∃ va nv vc oa no oc ok, e = .returned (.tuple #[.agg #[.slice va nv vc, .slice oa no oc], .bool ok]) ∧ Below w.heap.size w w' ∧ (ok = true → nv = 4 ∧ gO w' w.heap.size w'.heap.size va vc oa no oc 400)
theorem l9 (w : World) (lo1 hi1 lo2 hi2 : Nat) (x y : cI) (hx : yB w lo1 hi1 x) (hy : yB w lo2 hi2 y) (h1 : hi1 ≤ w.heap.size) (h2 : hi2 ≤ w.heap.size) :
  Calls Tryz.prog 105 #[.agg #[.slice x.va 4 x.vc, .slice x.oa x.no x.oc], .agg #[.slice y.va 4 y.vc, .slice y.oa y.no y.oc]] w (aQd w) := by
 obtain ⟨xs, l, e1, a1, a2, a3, a4, a5⟩ := hx
 obtain ⟨ys, m, e2, b1, b2, b3, b4, b5⟩ := hy
 rw [e1, e2]
 have n1 := a5.most
 have n2 := b5.most
 refine (aFc w w.heap.size x.va x.oa y.va y.oa 4 x.vc l.length x.oc 4 y.vc m.length y.oc xs l ys m (a1.ints.more h1) (a2.ops.more h1) (b1.ints.more h2) (b2.ops.more h2) aRC (by omega) (by omega) (fun i hi => Nat.le_trans (a5.item i hi) (by omega)) (by omega) (by omega) (fun i hi => Nat.le_trans (b5.item i hi) (by omega))).mono ?_
 rintro e w' ⟨va, vc, oa, oc, rfl, o1, o2, hb, c1, c2⟩
 refine ⟨va, _, vc, oa, _, oc, _, rfl, hb, fun hR => ?_⟩
 have hp : aE xs l = true ∧ aE ys m = true ∧ tY l m = true := by
  unfold nC at hR; rw [Bool.and_eq_true, Bool.and_eq_true] at hR; exact hR
 have hc := vW.of_cart (aAT hp.1 hp.2.1 hp.2.2)
 rw [hR] at o1 o2 c1 c2 ⊢
 have hl : (yT xs ys true).length = 4 := hc.len
 rw [hl] at o1 c1
 exact ⟨hl, yT xs ys true, I3 xs ys l m true, rfl, o1, o2, c1, c2, vW.more hc (by omega)⟩
theorem aA5 (w : World) (lo hi1 : Nat) (x : cI) (dev kind qty dv sq : Int) (item : ByteArray) (hx : yB w lo hi1 x) (h1 : hi1 ≤ w.heap.size) (hi : item.size ≤ 8) :
  Calls Tryz.prog 18 #[.agg #[.slice x.va 4 x.vc, .slice x.oa x.no x.oc], .int .i64 dev, .agg #[.int .i64 kind, .string item, .int .i64 qty, .int .i64 dv, .int .i64 sq]] w (aKl 320 w) := by
 obtain ⟨xs, l, e1, a1, a2, a3, a4, a5⟩ := hx
 rw [e1]
 have n1 := a5.most
 exact aHA w w.heap.size x.va x.oa x.vc l.length x.oc xs l kind qty dv sq item (a1.ints.more h1) (a2.ops.more h1) aRC a3 a4 hi dev (fun i hi => Nat.le_trans (a5.item i hi) (by omega)) (by omega)
theorem grown_of {w w' : World} {g : Nat} (h : Below w.heap.size w w') : w.grownBy w' (some g) := ⟨h.os, h.tape, h.output, h.size, fun k hk _ => h.block k hk⟩
theorem V4 {w w' : World} (h : Below w.heap.size w w') : w.grownBy w' none := ⟨h.os, h.tape, h.output, h.size, fun k hk _ => h.block k hk⟩
/-- What the loop of the reader's carts keeps: n carts in block q. -/
structure pH (w wr : World) (B g : Nat) (a : Option Addr) (len cap q : Nat) (l : List cI) (n : Nat) : Prop where
 num : l.length = n
 row : aOF wr w.heap.size q l
 grown : w.grownBy wr (some g)
 rd : Rd wr B g a len cap
 glt : g < w.heap.size
theorem pH.qlt {w wr : World} {B g : Nat} {a : Option Addr} {len cap q : Nat} {l : List cI} {n : Nat} (h : pH w wr B g a len cap q l n) : q < wr.heap.size := by
 obtain ⟨cs, hq, _⟩ := h.row.cells
 exact (aRB hq).1
theorem pH.step {w wr w1 : World} {B g : Nat} {a : Option Addr} {len cap q : Nat} {l : List cI} {n : Nat} (h : pH w wr B g a len cap q l n) (hg : wr.grownBy w1 (some g)) (hr : Rd w1 B g a len cap) : pH w w1 B g a len cap q l n := by
 have wW := h.glt
 have jV := h.row.lo
 have hq := h.qlt
 have hs := hg.size
 have hk : ∀ j, j < wr.heap.size → j ≠ g → w1.heap[j]? = wr.heap[j]? := fun j h1 h2 => hg.block j h1 (by intro e; injection e with e; exact h2 e)
 obtain ⟨cs, hqc, hc⟩ := h.row.cells
 exact ⟨h.num, ⟨jV, ⟨cs, (hk q hq (by omega)).trans hqc, hc⟩, fun i hi => (gO.kept (h.row.crt i hi) fun j h1 h2 => hk j h2 (by omega)).more aRC hs aRC⟩, h.grown.trans hg, hr, wW⟩
theorem pH.below {w wr w1 : World} {B g : Nat} {a : Option Addr} {len cap q : Nat} {l : List cI} {n : Nat} (h : pH w wr B g a len cap q l n) (hb : Below wr.heap.size wr w1) : pH w w1 B g a len cap q l n :=
 h.step (grown_of hb) (h.rd.grown (V4 hb) fun k hk => by cases hk)
/-- Another block of a cart is written. -/
theorem pH.box {w z : World} {B g b : Nat} {a : Option Addr} {len cap q : Nat} {l : List cI} {n : Nat} {cs : Array Value} (u v : Value) (h : pH w z B g a len cap q l n) (hb : z.heap[b]? = some (.cells cs 27 (0, 0))) (hbw : w.heap.size ≤ b) (hbq : b ≠ q) : pH w ((z.setCell ⟨b, 0, none⟩ u).setCell ⟨b, 1, none⟩ v) B g a len cap q l n := by
 have wW := h.glt
 have hB := h.rd.own
 have hz := bA z b u v
 have hk : ∀ j, j ≠ b → ((z.setCell ⟨b, 0, none⟩ u).setCell ⟨b, 1, none⟩ v).heap[j]? = z.heap[j]? := fun j hj => aF _ _ hj
 obtain ⟨cs', hqc, hc⟩ := h.row.cells
 have lH := h.grown
 refine ⟨h.num, ⟨h.row.lo, ⟨cs', (hk q (fun e => hbq e.symm)).trans hqc, hc⟩, fun i hi => ?_⟩, ⟨lH.os, lH.tape, lH.output, by rw [hz]; exact lH.size, fun k h1 h2 => (hk k (by omega)).trans (lH.block k h1 h2)⟩, h.rd.kept fun k pJ => hk k (by omega), wW⟩
 rw [hz]
 exact gO.other (h.row.crt i hi) hb fun j _ _ bH => hk j bH
/-- A cart of the row is exchanged. -/
theorem pH.set {w z : World} {B g : Nat} {a : Option Addr} {len cap q : Nat} {l : List cI} {n : Nat} (h : pH w z B g a len cap q l n) {k : Nat} (hk : k < n) (x : cI) (hx : yB z w.heap.size z.heap.size x) : pH w ((z.setCell ⟨q, k * 2, none⟩ (.slice x.va 4 x.vc)).setCell ⟨q, k * 2 + 1, none⟩ (.slice x.oa x.no x.oc)) B g a len cap q (l.set k x) n := by
 have wW := h.glt
 have hB := h.rd.own
 have jV := h.row.lo
 have aPN := h.num
 have hz : ((z.setCell ⟨q, k * 2, none⟩ (.slice x.va 4 x.vc)).setCell ⟨q, k * 2 + 1, none⟩ (.slice x.oa x.no x.oc)).heap.size = z.heap.size := by simp [World.setCell]
 have Y3 : ∀ j, j ≠ q → ((z.setCell ⟨q, k * 2, none⟩ (.slice x.va 4 x.vc)).setCell ⟨q, k * 2 + 1, none⟩ (.slice x.oa x.no x.oc)).heap[j]? = z.heap[j]? := fun j hj => (heap_setCell_other _ _ _ _ hj).trans (heap_setCell_other _ _ _ _ hj)
 obtain ⟨cs, hqc, hc⟩ := h.row.cells
 have lH := h.grown
 have h1 := heap_setCell_same _ _ (k * 2) _ _ (.slice x.va 4 x.vc) hqc
 have h2 := heap_setCell_same _ _ (k * 2 + 1) _ _ (.slice x.oa x.no x.oc) h1
 refine ⟨by rw [List.length_set]; exact aPN, ⟨jV, ⟨_, h2, fun i hi => ?_⟩, fun i hi => ?_⟩, ⟨lH.os, lH.tape, lH.output, by rw [hz]; exact lH.size, fun j a1 a2 => (Y3 j (by omega)).trans (lH.block j a1 a2)⟩, h.rd.kept fun j hj => Y3 j (by omega), wW⟩
 ·rw [List.length_set] at hi
  obtain ⟨c0, c1⟩ := hc i hi; obtain ⟨k0, k1⟩ := hc k (by omega)
  have z0 := (aRB k0).1; have z1 := (aRB k1).1; rw [aF0 (by omega)]
  by_cases e : k = i
  ·subst e
   rw [if_pos rfl]; refine ⟨?_, ?_⟩
   ·rw [Array.getElem?_setIfInBounds, if_neg (by omega), Array.getElem?_setIfInBounds, if_pos rfl, if_pos z0]
   ·rw [Array.getElem?_setIfInBounds, if_pos rfl, if_pos (by simpa using z1)]
  ·rw [if_neg e]
   refine ⟨?_, ?_⟩
   ·rw [Array.getElem?_setIfInBounds, if_neg (by omega), Array.getElem?_setIfInBounds, if_neg (by omega)]
    exact c0
   ·rw [Array.getElem?_setIfInBounds, if_neg (by omega), Array.getElem?_setIfInBounds, if_neg (by omega)]
    exact c1
 ·rw [List.length_set] at hi
  rw [hz, aF0 (by omega)]
  split
  ·exact gO.other hx hqc fun j _ _ bH => Y3 j bH
  ·exact gO.other (h.row.crt i hi) hqc fun j _ _ bH => Y3 j bH
theorem pH.cell {w wr : World} {B g : Nat} {a : Option Addr} {len cap q : Nat} {l : List cI} {n : Nat} (h : pH w wr B g a len cap q l n) : ∀ i, i < n → wr.cell? ⟨q, i * 2, none⟩ = some (.slice (aL l i).va 4 (aL l i).vc) ∧ wr.cell? ⟨q, i * 2 + 1, none⟩ = some (.slice (aL l i).oa (aL l i).no (aL l i).oc) := fun i hi => by
 obtain ⟨cs, hq, hc⟩ := h.row.cells
 obtain ⟨c0, c1⟩ := hc i (by rw [h.num]; exact hi)
 exact ⟨(aRD hq).trans c0, (aRD hq).trans c1⟩
theorem pH.frozen {w wr : World} {B g : Nat} {a : Option Addr} {len cap q : Nat} {l : List cI} {n : Nat} (h : pH w wr B g a len cap q l n) (i : Nat) : wr.frozen? ⟨q, i, none⟩ = false := by
 obtain ⟨cs, hq, hc⟩ := h.row.cells
 exact aRE hq
/-- What the reader's carts answer. -/
def aAU (n : Nat) (w : World) (B g : Nat) (a : Option Addr) (len cap : Nat) (e : Ending) (w' : World) : Prop :=
 ∃ q c l, e = .returned (.slice (some ⟨q, 0, none⟩) n c) ∧ pH w w' B g a len cap q l n

set_option maxHeartbeats 80000000 in
theorem aLC (w : World) (B g : Nat) (a : Option Addr) (len cap : Nat) (h : Rd w B g a len cap) (n most : Nat) (hn : 0 < n) (hn4 : n ≤ 4) (hm : most ≤ 60) :
  Calls Tryz.prog 75 #[.pointer (some ⟨g, 0, none⟩), .int .i64 (n : Int), .int .i64 (most : Int)] w (aAU n w B g a len cap) := by
 have wW := h.lt
 have hBg := h.own
 have HRd := aRA h
 have aW : Below w.heap.size w (w.alloc (.cells #[] 27)) := (Below.refl _ w).alloc aRC _
 have HI0 : Hid (Q9 (w.alloc (.cells #[] 27)) w.heap.size (.slice (some ⟨w.heap.size, 0, none⟩) 0 0) []) := ⟨World.ownsRow_made w #[] 0 aRC (by unfold maxLen; omega) rfl, fun i hi => absurd hi (by simp)⟩
 have nA := aRA aW
 clear h aW
 go_enter Tryz.func75, Tryz.ntmps75
 go_wp2
 go_loopw [7, 8] (fun v i wr => ∃ (k : Nat) (vv : Value) (l : List cI), k ≤ n ∧ vv = v ∧ i = .int .i64 (k : Int) ∧ l.length = k ∧ Hid (Q9 wr w.heap.size vv l) ∧ Hid (Below w.heap.size w wr)) (fun _ i _ => n - (intOf i).toNat)
 case atStart => exact ⟨0, _, [], Nat.zero_le _, rfl, rfl, rfl, HI0.out, nA.out⟩
 case round =>
  obtain ⟨k, vv, l, hk, hvv, rfl, hl, HI, HB⟩ := hrel; subst hvv; have hsr := HB.out.size
  by_cases aK : k < n
  ·have hki : (k : Int) < (n : Int) := by omega
   go_wp2_with fail
   refine (aFd wr).mono ?_
   rintro e w1 ⟨q, rfl, aNm, aI⟩; have eW := aRA (HI.out.below aI); have cO := aRA (HB.out.trans (aI.mono hsr)); have fH := aI.size; obtain ⟨va, vc, w2, hrun, hI2, aN⟩ := eW.out.push (by omega) (by omega) ⟨some ⟨q, 0, none⟩, 4, none, 0, 0⟩ (gO.more aNm hsr aRC aRC)
   have sA := aRA hI2; have bK := aRA (cO.out.trans aN); rw [hl] at hrun sA; clear aI aNm hI2 aN
   go_wp2_with (at_builtin; refine cX rfl _ _ _ rfl _ _ rfl rfl hrun ?_)
   clear hrun; go_wp2
   go_roundw
   case rel => exact ⟨k + 1, _, l ++ [⟨some ⟨q, 0, none⟩, 4, none, 0, 0⟩], by omega, rfl, by go_num, by simp [hl], sA, bK⟩
   case measure => simp [intOf]; omega
  obtain rfl : k = n := by omega
  obtain ⟨q, c, rfl, hR⟩ := HI.out.form (by omega)
  rw [hl]; have HL : Hid (pH w wr B g a len cap q l k) := ⟨hl, hR, aAR HB.out, HRd.out.kept fun j hj => HB.out.block j (by omega), wW⟩
  clear hR aK hk; have yF : 0 ≤ (k : Int) := by omega
  have hmi : 0 ≤ (most : Int) := by omega
  have aQ1 : (most : Int) ≤ 60 := by omega
  go_wp2_with fail
  refine (nO wr B g a len cap HL.out.rd ((most : Int) + 1) (by omega) (by omega)).mono ?_
  rintro e w1 ⟨r, hr, rfl, cF, dI⟩; have HL1 := aRA (HL.out.step cF dI); have aJO : r ≤ 60 := by omega
  clear cF dI HL HI HB hr HI0 nA HRd; go_wp2
  go_loopw [9] (fun i ws => ∃ (r : Nat) (l : List cI), r ≤ 60 ∧ i = .int .i64 (r : Int) ∧ Hid (pH w ws B g a len cap q l k)) (fun i _ => (intOf i).toNat)
  case atStart => exact ⟨r, l, aJO, rfl, HL1.out⟩
  case round =>
   clear aJO HL1 hl; obtain ⟨r, l, aJO, rfl, HL⟩ := hrel
   by_cases qI : 0 < r
   rotate_left
   ·obtain rfl : r = 0 := by omega
    have HE := HL; go_wp2
    go_ret
    exact ⟨q, c, l, rfl, HE.out⟩
   have hri : (0 : Int) < (r : Int) := by omega
   have hqw := HL.out.row.lo
   go_wp2_with fail
   refine (below wr B g a len cap HL.out.rd k hn (by omega)).mono ?_
   rintro e w1 ⟨i, pU, rfl, cF, dI⟩; have HL1 := aRA (HL.out.step cF dI); clear cF dI HL
   go_wp2_with fail
   refine (aCm w1 B g a len cap HL1.out.rd 3 (by omega) (by omega)).mono ?_
   rintro e w2 ⟨o1, rfl, fI, eK⟩; have HL2 := aRA (HL1.out.step fI eK); clear fI eK HL1; have hii : (i : Int) < (k : Int) := by omega
   have hi0 : decide ((i : Int) < 0) = false := decide_eq_false (by omega)
   have aRf : ¬ ((i : Int) < 0) := by omega
   have hq2 := HL2.out.qlt; cases o1
   rotate_left
   ·skip
    go_upto_region 11 with fail
    obtain ⟨y0, wP⟩ : ∃ y0, w2.drew = y0 := ⟨_, rfl⟩; have vN : Below w2.heap.size w2 y0 := by rw [← wP]; exact ⟨rfl, rfl, rfl, Nat.le_refl _, fun _ _ => rfl⟩
    have X3 := aRA (HL2.out.below vN); have aEu := vN.size; have Sy0 : ∀ j, j < k → y0.cell? ⟨q, j * 2, none⟩ = some (.slice (aL l j).va 4 (aL l j).vc) ∧ y0.cell? ⟨q, j * 2 + 1, none⟩ = some (.slice (aL l j).oa (aL l j).no (aL l j).oc) := X3.out.cell; refine wp_region_held_drew (S := fun w' => ∀ j, j < k → w'.cell? ⟨q, j * 2, none⟩ = some (.slice (aL l j).va 4 (aL l j).vc) ∧ w'.cell? ⟨q, j * 2 + 1, none⟩ = some (.slice (aL l j).oa (aL l j).no (aL l j).oc)) (by kernel_rfl) (by rw [wP]; exact Sy0) (fun aP => ?_)
    rw [wP]; clear aP wP vN; refine wpAnyH_take (i := 0) (oi := ⟨some 39, .move (.tmp 7), 111, "l04_carts.go:146", #[], none⟩) (v := ?_) rfl (by kernel_rfl) (by kernel_rfl) (by kernel_rfl) (fun _ _ _ h => h) (Or.inl ⟨by rfl, ?_⟩) (by assumption) ?_
    rotate_left
    ·intro w hSw
     clear hSw
     first | (go_simp; done) | (go_simp; with_reducible rfl)
    (try simp only [Act.put, u1, u2, u3])
    refine wpAnyH_take (i := 1) (oi := ⟨some 40, .move (.tmp 10), 3, "l04_carts.go:146", #[], none⟩) (v := ?_) rfl (by kernel_rfl) (by kernel_rfl) (by kernel_rfl) (fun _ _ _ h => h) (Or.inl ⟨by rfl, ?_⟩) (by assumption) ?_
    rotate_left
    ·intro w hSw
     clear hSw
     first | (go_simp; done) | (go_simp; with_reducible rfl)
    (try simp only [Act.put, u1, u2, u3])
    refine wpAnyH_take (i := 2) (oi := ⟨some 41, .indexAddr 111 (.tmp 39) (.tmp 40), 0, "l04_carts.go:146", #[⟨0, .data⟩, ⟨1, .data⟩], none⟩) (v := ?_) rfl (by kernel_rfl) (by kernel_rfl) (by kernel_rfl) (fun _ _ _ h => h) (Or.inl ⟨by rfl, ?_⟩) (by assumption) ?_
    rotate_left
    ·intro w hSw
     clear hSw
     first | (go_simp; done) | (go_simp; with_reducible rfl)
    (try simp only [Act.put, u1, u2, u3])
    refine wpAnyH_take (i := 3) (oi := ⟨some 42, .load 27 (.tmp 41), 27, "l04_carts.go:146", #[⟨2, .data⟩], none⟩) (v := ?_) rfl (by kernel_rfl) (by kernel_rfl) (by kernel_rfl) (fun _ _ _ h => h) (Or.inl ⟨by rfl, ?_⟩) (by assumption) ?_
    rotate_left
    ·intro w hSw
     obtain ⟨c0, c1⟩ := hSw i pU; clear hSw
     first | (go_simp; done) | (go_simp; with_reducible rfl)
    (try simp only [Act.put, u1, u2, u3])
    refine wpAnyH_take (i := 4) (oi := ⟨some 43, .move (.tmp 7), 111, "l04_carts.go:146", #[], none⟩) (v := ?_) rfl (by kernel_rfl) (by kernel_rfl) (by kernel_rfl) (fun _ _ _ h => h) (Or.inl ⟨by rfl, ?_⟩) (by assumption) ?_
    rotate_left
    ·intro w hSw
     clear hSw
     first | (go_simp; done) | (go_simp; with_reducible rfl)
    (try simp only [Act.put, u1, u2, u3])
    refine wpAnyH_take (i := 5) (oi := ⟨some 44, .move (.tmp 0), 57, "l04_carts.go:146", #[], none⟩) (v := ?_) rfl (by kernel_rfl) (by kernel_rfl) (by kernel_rfl) (fun _ _ _ h => h) (Or.inl ⟨by rfl, ?_⟩) (by assumption) ?_
    rotate_left
    ·intro w hSw
     clear hSw
     first | (go_simp; done) | (go_simp; with_reducible rfl)
    (try simp only [Act.put, u1, u2, u3])
    refine wpAnyH_take (i := 6) (oi := ⟨some 45, .move (.tmp 1), 3, "l04_carts.go:146", #[], none⟩) (v := ?_) rfl (by kernel_rfl) (by kernel_rfl) (by kernel_rfl) (fun _ _ _ h => h) (Or.inl ⟨by rfl, ?_⟩) (by assumption) ?_
    rotate_left
    ·intro w hSw
     clear hSw
     first | (go_simp; done) | (go_simp; with_reducible rfl)
    (try simp only [Act.put, u1, u2, u3])
    refine wpAnyH_ready (rs := [7, 14]) (by kernel_rfl) (by simp) ?_
    refine (AllReadyH.cons rfl (fun K hK => ?_) (AllReadyH.cons rfl (fun K hK => ?_) AllReadyH.nil))
    ·skip
     go_simp
     go_at_call 76
     refine (below y0 B g a len cap X3.out.rd k hn (by omega)).mono ?_
     rintro e y1 ⟨j, hjk, rfl, uB, Y0⟩; have hji : (j : Int) < (k : Int) := by omega
     have hj0 : decide ((j : Int) < 0) = false := decide_eq_false (by omega)
     have aA9 : ¬ ((j : Int) < 0) := by omega
     have zD := aRA (X3.out.step uB Y0); have aEt : w2.heap.size ≤ y1.heap.size := Nat.le_trans aEu uB.size; have Sy1 : ∀ j, j < k → y1.cell? ⟨q, j * 2, none⟩ = some (.slice (aL l j).va 4 (aL l j).vc) ∧ y1.cell? ⟨q, j * 2 + 1, none⟩ = some (.slice (aL l j).oa (aL l j).no (aL l j).oc) := zD.out.cell; refine hK.out _ _ Sy1 (fun sP => ?_)
     clear hK K sP uB Y0 Sy0
     (try simp only [Act.put, u1, u2, u3])
     refine wpAnyH_take (i := 8) (oi := ⟨some 47, .indexAddr 111 (.tmp 43) (.tmp 46), 0, "l04_carts.go:146", #[⟨4, .data⟩, ⟨7, .data⟩], none⟩) (v := ?_) rfl (by kernel_rfl) (by kernel_rfl) (by kernel_rfl) (fun _ _ _ h => h) (Or.inl ⟨by rfl, ?_⟩) (by assumption) ?_
     rotate_left
     ·intro w hSw
      clear hSw
      first | (go_simp; done) | (go_simp; with_reducible rfl)
     (try simp only [Act.put, u1, u2, u3])
     refine wpAnyH_take (i := 9) (oi := ⟨some 48, .load 27 (.tmp 47), 27, "l04_carts.go:146", #[⟨8, .data⟩], none⟩) (v := ?_) rfl (by kernel_rfl) (by kernel_rfl) (by kernel_rfl) (fun _ _ _ h => h) (Or.inl ⟨by rfl, ?_⟩) (by assumption) ?_
     rotate_left
     ·intro w hSw
      obtain ⟨c0, c1⟩ := hSw j hjk; clear hSw
      first | (go_simp; done) | (go_simp; with_reducible rfl)
     (try simp only [Act.put, u1, u2, u3])
     refine wpAnyH_ready (rs := [10, 14]) (by kernel_rfl) (by simp) ?_
     refine (AllReadyH.cons rfl (fun K hK => ?_) (AllReadyH.cons rfl (fun K hK => ?_) AllReadyH.nil))
     ·skip
      go_simp
      go_at_call 105
      refine (l9 y1 w.heap.size y1.heap.size w.heap.size y1.heap.size (aL l i) (aL l j) (zD.out.row.crt i (by rw [zD.out.num]; exact pU)) (zD.out.row.crt j (by rw [zD.out.num]; exact hjk)) aRC aRC).mono ?_
      rintro e y2 ⟨va, nv, vc, oa, no, oc, ok, rfl, fO, lI⟩; have aE2 := aRA (zD.out.below fO); have aJM : w2.heap.size ≤ y2.heap.size := Nat.le_trans aEt fO.size; have Sy2 : ∀ j, j < k → y2.cell? ⟨q, j * 2, none⟩ = some (.slice (aL l j).va 4 (aL l j).vc) ∧ y2.cell? ⟨q, j * 2 + 1, none⟩ = some (.slice (aL l j).oa (aL l j).no (aL l j).oc) := aE2.out.cell; have aE8 : Hid (ok = true → nv = 4 ∧ gO y2 y1.heap.size y2.heap.size va vc oa no oc 400) := lI; have aOR := fO.size; refine hK.out _ _ Sy2 (fun lK => ?_)
      clear hK K lK fO lI Sy1
      (try simp only [Act.put, u1, u2, u3])
      refine wpAnyH_take (i := 11) (oi := ⟨some 38, .move (.tmp 49), 132, "l04_carts.go:146", #[⟨10, .data⟩], none⟩) (v := ?_) rfl (by kernel_rfl) (by kernel_rfl) (by kernel_rfl) (fun _ _ _ h => h) (Or.inl ⟨by rfl, ?_⟩) (by assumption) ?_
      rotate_left
      ·intro w hSw
       clear hSw
       first | (go_simp; done) | (go_simp; with_reducible rfl)
      (try simp only [Act.put, u1, u2, u3])
      refine wpAnyH_take (i := 12) (oi := ⟨some 50, .extract (.tmp 38) 0, 27, "l04_carts.go:146", #[⟨11, .data⟩], none⟩) (v := ?_) rfl (by kernel_rfl) (by kernel_rfl) (by kernel_rfl) (fun _ _ _ h => h) (Or.inl ⟨by rfl, ?_⟩) (by assumption) ?_
      rotate_left
      ·intro w hSw
       clear hSw
       first | (go_simp; done) | (go_simp; with_reducible rfl)
      (try simp only [Act.put, u1, u2, u3])
      refine wpAnyH_take (i := 13) (oi := ⟨some 51, .extract (.tmp 38) 1, 4, "l04_carts.go:146", #[⟨11, .data⟩, { on := 15, ground := Ground.gcOnly Departure.lateStores }], none⟩) (v := ?_) rfl (by kernel_rfl) (by kernel_rfl) (by kernel_rfl) (fun _ _ _ h => h) (Or.inl ⟨by rfl, ?_⟩) (by assumption) ?_
      rotate_left
      ·intro w hSw
       clear hSw
       first | (go_simp; done) | (go_simp; with_reducible rfl)
      (try simp only [Act.put, u1, u2, u3])
      refine wpAnyH_ready (rs := [14]) (by kernel_rfl) (by simp) ?_
      refine (AllReadyH.cons rfl (fun K hK => ?_) AllReadyH.nil)
      have eG : Below y2.heap.size y2 (y2.alloc (.cells #[.slice none 0 0, .slice none 0 0] 27)) := bl; have kP := bL (Below.refl _ (y2.alloc (.cells #[.slice none 0 0, .slice none 0 0] 27))); have oX := aRA (aE2.out.below eG); have SA : ∀ j, j < k → (y2.alloc (.cells #[.slice none 0 0, .slice none 0 0] 27)).cell? ⟨q, j * 2, none⟩ = some (.slice (aL l j).va 4 (aL l j).vc) ∧ (y2.alloc (.cells #[.slice none 0 0, .slice none 0 0] 27)).cell? ⟨q, j * 2 + 1, none⟩ = some (.slice (aL l j).oa (aL l j).no (aL l j).oc) := oX.out.cell
      go_simp
      refine hK.out _ _ SA (fun lM => ?_)
      clear hK K lM
      (try simp only [Act.put, u1, u2, u3])
      generalize y2.alloc (.cells #[.slice none 0 0, .slice none 0 0] 27) = y3 at eG kP oX SA ⊢; have Sy3 := SA; clear SA Sy2; have aA6 := aRA kP; have aKF := oX; have aPB : w2.heap.size ≤ y3.heap.size := Nat.le_trans aJM eG.size; have aE7 : Hid (ok = true → nv = 4 ∧ gO y3 y1.heap.size y2.heap.size va vc oa no oc 400) := fun h => ⟨(aE8.out h).1, (aE8.out h).2.below eG (by omega)⟩
      clear kP oX eG; have gV := aA6.out; have hbl := (aRB gV).1; have eL := aRA (aKF.out.box (.slice va nv vc) (.slice oa no oc) gV (by omega) (by omega))
      have oW := aRA (cK (.slice va nv vc) (.slice oa no oc) gV); have yA : Hid (ok = true → nv = 4 ∧ gO ((y3.setCell ⟨y2.heap.size, 0, none⟩ (.slice va nv vc)).setCell ⟨y2.heap.size, 1, none⟩ (.slice oa no oc)) w.heap.size ((y3.setCell ⟨y2.heap.size, 0, none⟩ (.slice va nv vc)).setCell ⟨y2.heap.size, 1, none⟩ (.slice oa no oc)).heap.size va vc oa no oc 400) := fun h => ⟨(aE7.out h).1, (gO.other (aE7.out h).2 gV fun j _ _ bH => aF _ _ bH).more (by omega) (by rw [bA]; omega) aRC⟩
      obtain ⟨d0, d1⟩ := pair_cells gV; obtain ⟨f0, f1⟩ := aD gV; have SW : ∀ j, j < k → ((y3.setCell ⟨y2.heap.size, 0, none⟩ (.slice va nv vc)).setCell ⟨y2.heap.size, 1, none⟩ (.slice oa no oc)).cell? ⟨q, j * 2, none⟩ = some (.slice (aL l j).va 4 (aL l j).vc) ∧ ((y3.setCell ⟨y2.heap.size, 0, none⟩ (.slice va nv vc)).setCell ⟨y2.heap.size, 1, none⟩ (.slice oa no oc)).cell? ⟨q, j * 2 + 1, none⟩ = some (.slice (aL l j).oa (aL l j).no (aL l j).oc) := eL.out.cell; refine rk 15 rfl (fun K hK => ?_)
      go_simp
      refine hK.out _ _ SW (fun lL => ?_)
      clear hK K lL d0 d1 f0 f1 SW gV
      (try simp only [Act.put, u1, u2, u3])
      generalize (y3.setCell ⟨y2.heap.size, 0, none⟩ (.slice va nv vc)).setCell ⟨y2.heap.size, 1, none⟩ (.slice oa no oc) = zn at oW eL yA ⊢; have O5 : ∀ j, j < k → zn.cell? ⟨q, j * 2, none⟩ = some (.slice (aL l j).va 4 (aL l j).vc) ∧ zn.cell? ⟨q, j * 2 + 1, none⟩ = some (.slice (aL l j).oa (aL l j).no (aL l j).oc) := eL.out.cell; refine wpAnyH_take (i := 16) (oi := ⟨some 12, .assign (.tmp 51), 4, "l04_carts.go:146", #[⟨13, .data⟩, ⟨15, .chain⟩, ⟨0, .phase⟩, ⟨1, .phase⟩, ⟨2, .phase⟩, ⟨3, .phase⟩, ⟨4, .phase⟩, ⟨5, .phase⟩, ⟨6, .phase⟩, ⟨7, .phase⟩, ⟨8, .phase⟩, ⟨9, .phase⟩, ⟨10, .phase⟩, ⟨11, .phase⟩, ⟨12, .phase⟩, ⟨13, .phase⟩, ⟨14, .phase⟩, ⟨15, .phase⟩], none⟩) (v := ?_) rfl (by kernel_rfl) (by kernel_rfl) (by kernel_rfl) (fun _ _ _ h => h) (Or.inl ⟨by rfl, ?_⟩) (by assumption) ?_
      rotate_left
      ·intro w hSw
       clear hSw
       first | (go_simp; done) | (go_simp; with_reducible rfl)
      (try simp only [Act.put, u1, u2, u3])
      refine wpAnyH_done (by kernel_rfl) ?_ _
      clear O5; cases ok
      ·skip
       go_wp2
       go_roundw
       case rel => exact ⟨r - 1, l, by omega, by go_num, eL⟩
       case measure => simp [intOf]; omega
      obtain ⟨e4, eY⟩ := yA.out rfl; subst e4; have tL := aRA (eL.out.set pU ⟨va, vc, oa, no, oc⟩ eY); obtain ⟨x0, x1⟩ := pair_cells oW.out; obtain ⟨c0, c1⟩ := eL.out.cell i pU; have g0 := eL.out.frozen (i * 2); have g1 := eL.out.frozen (i * 2 + 1); clear eY; go_wp2
      go_roundw
      case rel => exact ⟨r - 1, l.set i ⟨va, vc, oa, no, oc⟩, by omega, by go_num, tL⟩
      case measure => simp [intOf]; omega
     ·skip
      have eG : Below y1.heap.size y1 (y1.alloc (.cells #[.slice none 0 0, .slice none 0 0] 27)) := bl; have kP := bL (Below.refl _ (y1.alloc (.cells #[.slice none 0 0, .slice none 0 0] 27))); have oX := aRA (zD.out.below eG); have SA : ∀ j, j < k → (y1.alloc (.cells #[.slice none 0 0, .slice none 0 0] 27)).cell? ⟨q, j * 2, none⟩ = some (.slice (aL l j).va 4 (aL l j).vc) ∧ (y1.alloc (.cells #[.slice none 0 0, .slice none 0 0] 27)).cell? ⟨q, j * 2 + 1, none⟩ = some (.slice (aL l j).oa (aL l j).no (aL l j).oc) := oX.out.cell
      go_simp
      refine hK.out _ _ SA (fun lM => ?_)
      clear hK K lM
      (try simp only [Act.put, u1, u2, u3])
      generalize y1.alloc (.cells #[.slice none 0 0, .slice none 0 0] 27) = y4 at eG kP oX SA ⊢; have Sy4 := SA; clear SA Sy1; have q8 := aRA kP; have X2 := oX; have aJL : w2.heap.size ≤ y4.heap.size := Nat.le_trans aEt eG.size; clear kP oX eG; refine wpAnyH_ready (rs := [10]) (by kernel_rfl) (by simp) ?_
      refine (AllReadyH.cons rfl (fun K hK => ?_) AllReadyH.nil)
      go_simp
      go_at_call 105
      refine (l9 y4 w.heap.size y4.heap.size w.heap.size y4.heap.size (aL l i) (aL l j) (X2.out.row.crt i (by rw [X2.out.num]; exact pU)) (X2.out.row.crt j (by rw [X2.out.num]; exact hjk)) aRC aRC).mono ?_
      rintro e y5 ⟨va, nv, vc, oa, no, oc, ok, rfl, fO, lI⟩; have aE1 := aRA (X2.out.below fO); have aPA : w2.heap.size ≤ y5.heap.size := Nat.le_trans aJL fO.size; have Sy5 : ∀ j, j < k → y5.cell? ⟨q, j * 2, none⟩ = some (.slice (aL l j).va 4 (aL l j).vc) ∧ y5.cell? ⟨q, j * 2 + 1, none⟩ = some (.slice (aL l j).oa (aL l j).no (aL l j).oc) := aE1.out.cell; have q7 := aRA ((fO.block _ (aRB q8.out).1).trans q8.out); have aE6 : Hid (ok = true → nv = 4 ∧ gO y5 y4.heap.size y5.heap.size va vc oa no oc 400) := lI; have aOQ := fO.size; refine hK.out _ _ Sy5 (fun lK => ?_)
      clear hK K lK fO lI Sy4
      (try simp only [Act.put, u1, u2, u3])
      refine wpAnyH_take (i := 11) (oi := ⟨some 38, .move (.tmp 49), 132, "l04_carts.go:146", #[⟨10, .data⟩], none⟩) (v := ?_) rfl (by kernel_rfl) (by kernel_rfl) (by kernel_rfl) (fun _ _ _ h => h) (Or.inl ⟨by rfl, ?_⟩) (by assumption) ?_
      rotate_left
      ·intro w hSw
       clear hSw
       first | (go_simp; done) | (go_simp; with_reducible rfl)
      (try simp only [Act.put, u1, u2, u3])
      refine wpAnyH_take (i := 12) (oi := ⟨some 50, .extract (.tmp 38) 0, 27, "l04_carts.go:146", #[⟨11, .data⟩], none⟩) (v := ?_) rfl (by kernel_rfl) (by kernel_rfl) (by kernel_rfl) (fun _ _ _ h => h) (Or.inl ⟨by rfl, ?_⟩) (by assumption) ?_
      rotate_left
      ·intro w hSw
       clear hSw
       first | (go_simp; done) | (go_simp; with_reducible rfl)
      (try simp only [Act.put, u1, u2, u3])
      refine wpAnyH_take (i := 13) (oi := ⟨some 51, .extract (.tmp 38) 1, 4, "l04_carts.go:146", #[⟨11, .data⟩, { on := 15, ground := Ground.gcOnly Departure.lateStores }], none⟩) (v := ?_) rfl (by kernel_rfl) (by kernel_rfl) (by kernel_rfl) (fun _ _ _ h => h) (Or.inl ⟨by rfl, ?_⟩) (by assumption) ?_
      rotate_left
      ·intro w hSw
       clear hSw
       first | (go_simp; done) | (go_simp; with_reducible rfl)
      (try simp only [Act.put, u1, u2, u3])
      have gV := q7.out; have hbl := (aRB gV).1; have eL := aRA (aE1.out.box (.slice va nv vc) (.slice oa no oc) gV (by omega) (by omega))
      have oW := aRA (cK (.slice va nv vc) (.slice oa no oc) gV); have yA : Hid (ok = true → nv = 4 ∧ gO ((y5.setCell ⟨y1.heap.size, 0, none⟩ (.slice va nv vc)).setCell ⟨y1.heap.size, 1, none⟩ (.slice oa no oc)) w.heap.size ((y5.setCell ⟨y1.heap.size, 0, none⟩ (.slice va nv vc)).setCell ⟨y1.heap.size, 1, none⟩ (.slice oa no oc)).heap.size va vc oa no oc 400) := fun h => ⟨(aE6.out h).1, (gO.other (aE6.out h).2 gV fun j _ _ bH => aF _ _ bH).more (by omega) (by rw [bA]; omega) aRC⟩
      obtain ⟨d0, d1⟩ := pair_cells gV; obtain ⟨f0, f1⟩ := aD gV; have SW : ∀ j, j < k → ((y5.setCell ⟨y1.heap.size, 0, none⟩ (.slice va nv vc)).setCell ⟨y1.heap.size, 1, none⟩ (.slice oa no oc)).cell? ⟨q, j * 2, none⟩ = some (.slice (aL l j).va 4 (aL l j).vc) ∧ ((y5.setCell ⟨y1.heap.size, 0, none⟩ (.slice va nv vc)).setCell ⟨y1.heap.size, 1, none⟩ (.slice oa no oc)).cell? ⟨q, j * 2 + 1, none⟩ = some (.slice (aL l j).oa (aL l j).no (aL l j).oc) := eL.out.cell; refine rk 15 rfl (fun K hK => ?_)
      go_simp
      refine hK.out _ _ SW (fun lL => ?_)
      clear hK K lL d0 d1 f0 f1 SW gV
      (try simp only [Act.put, u1, u2, u3])
      generalize (y5.setCell ⟨y1.heap.size, 0, none⟩ (.slice va nv vc)).setCell ⟨y1.heap.size, 1, none⟩ (.slice oa no oc) = zn at oW eL yA ⊢; have O5 : ∀ j, j < k → zn.cell? ⟨q, j * 2, none⟩ = some (.slice (aL l j).va 4 (aL l j).vc) ∧ zn.cell? ⟨q, j * 2 + 1, none⟩ = some (.slice (aL l j).oa (aL l j).no (aL l j).oc) := eL.out.cell; refine wpAnyH_take (i := 16) (oi := ⟨some 12, .assign (.tmp 51), 4, "l04_carts.go:146", #[⟨13, .data⟩, ⟨15, .chain⟩, ⟨0, .phase⟩, ⟨1, .phase⟩, ⟨2, .phase⟩, ⟨3, .phase⟩, ⟨4, .phase⟩, ⟨5, .phase⟩, ⟨6, .phase⟩, ⟨7, .phase⟩, ⟨8, .phase⟩, ⟨9, .phase⟩, ⟨10, .phase⟩, ⟨11, .phase⟩, ⟨12, .phase⟩, ⟨13, .phase⟩, ⟨14, .phase⟩, ⟨15, .phase⟩], none⟩) (v := ?_) rfl (by kernel_rfl) (by kernel_rfl) (by kernel_rfl) (fun _ _ _ h => h) (Or.inl ⟨by rfl, ?_⟩) (by assumption) ?_
      rotate_left
      ·intro w hSw
       clear hSw
       first | (go_simp; done) | (go_simp; with_reducible rfl)
      (try simp only [Act.put, u1, u2, u3])
      refine wpAnyH_done (by kernel_rfl) ?_ _
      clear O5; cases ok
      ·skip
       go_wp2
       go_roundw
       case rel => exact ⟨r - 1, l, by omega, by go_num, eL⟩
       case measure => simp [intOf]; omega
      obtain ⟨e4, eY⟩ := yA.out rfl; subst e4; have tL := aRA (eL.out.set pU ⟨va, vc, oa, no, oc⟩ eY); obtain ⟨x0, x1⟩ := pair_cells oW.out; obtain ⟨c0, c1⟩ := eL.out.cell i pU; have g0 := eL.out.frozen (i * 2); have g1 := eL.out.frozen (i * 2 + 1); clear eY; go_wp2
      go_roundw
      case rel => exact ⟨r - 1, l.set i ⟨va, vc, oa, no, oc⟩, by omega, by go_num, tL⟩
      case measure => simp [intOf]; omega
    ·skip
     have eG : Below y0.heap.size y0 (y0.alloc (.cells #[.slice none 0 0, .slice none 0 0] 27)) := bl; have kP := bL (Below.refl _ (y0.alloc (.cells #[.slice none 0 0, .slice none 0 0] 27))); have oX := aRA (X3.out.below eG); have SA : ∀ j, j < k → (y0.alloc (.cells #[.slice none 0 0, .slice none 0 0] 27)).cell? ⟨q, j * 2, none⟩ = some (.slice (aL l j).va 4 (aL l j).vc) ∧ (y0.alloc (.cells #[.slice none 0 0, .slice none 0 0] 27)).cell? ⟨q, j * 2 + 1, none⟩ = some (.slice (aL l j).oa (aL l j).no (aL l j).oc) := oX.out.cell
     go_simp
     refine hK.out _ _ SA (fun lM => ?_)
     clear hK K lM
     (try simp only [Act.put, u1, u2, u3])
     generalize y0.alloc (.cells #[.slice none 0 0, .slice none 0 0] 27) = y6 at eG kP oX SA ⊢; have Sy6 := SA; clear SA Sy0; have q6 := aRA kP; have aE0 := oX; have aJK : w2.heap.size ≤ y6.heap.size := Nat.le_trans aEu eG.size; clear kP oX eG; refine wpAnyH_ready (rs := [7]) (by kernel_rfl) (by simp) ?_
     refine (AllReadyH.cons rfl (fun K hK => ?_) AllReadyH.nil)
     go_simp
     go_at_call 76
     refine (below y6 B g a len cap aE0.out.rd k hn (by omega)).mono ?_
     rintro e y7 ⟨j, hjk, rfl, uB, Y0⟩; have hji : (j : Int) < (k : Int) := by omega
     have hj0 : decide ((j : Int) < 0) = false := decide_eq_false (by omega)
     have aA9 : ¬ ((j : Int) < 0) := by omega
     have M0 := aRA (aE0.out.step uB Y0); have aJJ : w2.heap.size ≤ y7.heap.size := Nat.le_trans aJK uB.size; have Sy7 : ∀ j, j < k → y7.cell? ⟨q, j * 2, none⟩ = some (.slice (aL l j).va 4 (aL l j).vc) ∧ y7.cell? ⟨q, j * 2 + 1, none⟩ = some (.slice (aL l j).oa (aL l j).no (aL l j).oc) := M0.out.cell; have U9 := aRA ((uB.block _ (aRB q6.out).1 (by intro e; injection e with e; omega)).trans q6.out)
     refine hK.out _ _ Sy7 (fun sP => ?_)
     clear hK K sP uB Y0 Sy6
     (try simp only [Act.put, u1, u2, u3])
     refine wpAnyH_take (i := 8) (oi := ⟨some 47, .indexAddr 111 (.tmp 43) (.tmp 46), 0, "l04_carts.go:146", #[⟨4, .data⟩, ⟨7, .data⟩], none⟩) (v := ?_) rfl (by kernel_rfl) (by kernel_rfl) (by kernel_rfl) (fun _ _ _ h => h) (Or.inl ⟨by rfl, ?_⟩) (by assumption) ?_
     rotate_left
     ·intro w hSw
      clear hSw
      first | (go_simp; done) | (go_simp; with_reducible rfl)
     (try simp only [Act.put, u1, u2, u3])
     refine wpAnyH_take (i := 9) (oi := ⟨some 48, .load 27 (.tmp 47), 27, "l04_carts.go:146", #[⟨8, .data⟩], none⟩) (v := ?_) rfl (by kernel_rfl) (by kernel_rfl) (by kernel_rfl) (fun _ _ _ h => h) (Or.inl ⟨by rfl, ?_⟩) (by assumption) ?_
     rotate_left
     ·intro w hSw
      obtain ⟨c0, c1⟩ := hSw j hjk; clear hSw
      first | (go_simp; done) | (go_simp; with_reducible rfl)
     (try simp only [Act.put, u1, u2, u3])
     refine wpAnyH_ready (rs := [10]) (by kernel_rfl) (by simp) ?_
     refine (AllReadyH.cons rfl (fun K hK => ?_) AllReadyH.nil)
     go_simp
     go_at_call 105
     refine (l9 y7 w.heap.size y7.heap.size w.heap.size y7.heap.size (aL l i) (aL l j) (M0.out.row.crt i (by rw [M0.out.num]; exact pU)) (M0.out.row.crt j (by rw [M0.out.num]; exact hjk)) aRC aRC).mono ?_
     rintro e y8 ⟨va, nv, vc, oa, no, oc, ok, rfl, fO, lI⟩; have aEZ := aRA (M0.out.below fO); have aPz : w2.heap.size ≤ y8.heap.size := Nat.le_trans aJJ fO.size; have Sy8 : ∀ j, j < k → y8.cell? ⟨q, j * 2, none⟩ = some (.slice (aL l j).va 4 (aL l j).vc) ∧ y8.cell? ⟨q, j * 2 + 1, none⟩ = some (.slice (aL l j).oa (aL l j).no (aL l j).oc) := aEZ.out.cell; have q5 := aRA ((fO.block _ (aRB U9.out).1).trans U9.out); have aE5 : Hid (ok = true → nv = 4 ∧ gO y8 y7.heap.size y8.heap.size va vc oa no oc 400) := lI; have aOP := fO.size; refine hK.out _ _ Sy8 (fun lK => ?_)
     clear hK K lK fO lI Sy7
     (try simp only [Act.put, u1, u2, u3])
     refine wpAnyH_take (i := 11) (oi := ⟨some 38, .move (.tmp 49), 132, "l04_carts.go:146", #[⟨10, .data⟩], none⟩) (v := ?_) rfl (by kernel_rfl) (by kernel_rfl) (by kernel_rfl) (fun _ _ _ h => h) (Or.inl ⟨by rfl, ?_⟩) (by assumption) ?_
     rotate_left
     ·intro w hSw
      clear hSw
      first | (go_simp; done) | (go_simp; with_reducible rfl)
     (try simp only [Act.put, u1, u2, u3])
     refine wpAnyH_take (i := 12) (oi := ⟨some 50, .extract (.tmp 38) 0, 27, "l04_carts.go:146", #[⟨11, .data⟩], none⟩) (v := ?_) rfl (by kernel_rfl) (by kernel_rfl) (by kernel_rfl) (fun _ _ _ h => h) (Or.inl ⟨by rfl, ?_⟩) (by assumption) ?_
     rotate_left
     ·intro w hSw
      clear hSw
      first | (go_simp; done) | (go_simp; with_reducible rfl)
     (try simp only [Act.put, u1, u2, u3])
     refine wpAnyH_take (i := 13) (oi := ⟨some 51, .extract (.tmp 38) 1, 4, "l04_carts.go:146", #[⟨11, .data⟩, { on := 15, ground := Ground.gcOnly Departure.lateStores }], none⟩) (v := ?_) rfl (by kernel_rfl) (by kernel_rfl) (by kernel_rfl) (fun _ _ _ h => h) (Or.inl ⟨by rfl, ?_⟩) (by assumption) ?_
     rotate_left
     ·intro w hSw
      clear hSw
      first | (go_simp; done) | (go_simp; with_reducible rfl)
     (try simp only [Act.put, u1, u2, u3])
     have gV := q5.out; have hbl := (aRB gV).1; have eL := aRA (aEZ.out.box (.slice va nv vc) (.slice oa no oc) gV (by omega) (by omega))
     have oW := aRA (cK (.slice va nv vc) (.slice oa no oc) gV); have yA : Hid (ok = true → nv = 4 ∧ gO ((y8.setCell ⟨y0.heap.size, 0, none⟩ (.slice va nv vc)).setCell ⟨y0.heap.size, 1, none⟩ (.slice oa no oc)) w.heap.size ((y8.setCell ⟨y0.heap.size, 0, none⟩ (.slice va nv vc)).setCell ⟨y0.heap.size, 1, none⟩ (.slice oa no oc)).heap.size va vc oa no oc 400) := fun h => ⟨(aE5.out h).1, (gO.other (aE5.out h).2 gV fun j _ _ bH => aF _ _ bH).more (by omega) (by rw [bA]; omega) aRC⟩
     obtain ⟨d0, d1⟩ := pair_cells gV; obtain ⟨f0, f1⟩ := aD gV; have SW : ∀ j, j < k → ((y8.setCell ⟨y0.heap.size, 0, none⟩ (.slice va nv vc)).setCell ⟨y0.heap.size, 1, none⟩ (.slice oa no oc)).cell? ⟨q, j * 2, none⟩ = some (.slice (aL l j).va 4 (aL l j).vc) ∧ ((y8.setCell ⟨y0.heap.size, 0, none⟩ (.slice va nv vc)).setCell ⟨y0.heap.size, 1, none⟩ (.slice oa no oc)).cell? ⟨q, j * 2 + 1, none⟩ = some (.slice (aL l j).oa (aL l j).no (aL l j).oc) := eL.out.cell; refine rk 15 rfl (fun K hK => ?_)
     go_simp
     refine hK.out _ _ SW (fun lL => ?_)
     clear hK K lL d0 d1 f0 f1 SW gV
     (try simp only [Act.put, u1, u2, u3])
     generalize (y8.setCell ⟨y0.heap.size, 0, none⟩ (.slice va nv vc)).setCell ⟨y0.heap.size, 1, none⟩ (.slice oa no oc) = zn at oW eL yA ⊢; have O5 : ∀ j, j < k → zn.cell? ⟨q, j * 2, none⟩ = some (.slice (aL l j).va 4 (aL l j).vc) ∧ zn.cell? ⟨q, j * 2 + 1, none⟩ = some (.slice (aL l j).oa (aL l j).no (aL l j).oc) := eL.out.cell; refine wpAnyH_take (i := 16) (oi := ⟨some 12, .assign (.tmp 51), 4, "l04_carts.go:146", #[⟨13, .data⟩, ⟨15, .chain⟩, ⟨0, .phase⟩, ⟨1, .phase⟩, ⟨2, .phase⟩, ⟨3, .phase⟩, ⟨4, .phase⟩, ⟨5, .phase⟩, ⟨6, .phase⟩, ⟨7, .phase⟩, ⟨8, .phase⟩, ⟨9, .phase⟩, ⟨10, .phase⟩, ⟨11, .phase⟩, ⟨12, .phase⟩, ⟨13, .phase⟩, ⟨14, .phase⟩, ⟨15, .phase⟩], none⟩) (v := ?_) rfl (by kernel_rfl) (by kernel_rfl) (by kernel_rfl) (fun _ _ _ h => h) (Or.inl ⟨by rfl, ?_⟩) (by assumption) ?_
     rotate_left
     ·intro w hSw
      clear hSw
      first | (go_simp; done) | (go_simp; with_reducible rfl)
     (try simp only [Act.put, u1, u2, u3])
     refine wpAnyH_done (by kernel_rfl) ?_ _
     clear O5; cases ok
     ·skip
      go_wp2
      go_roundw
      case rel => exact ⟨r - 1, l, by omega, by go_num, eL⟩
      case measure => simp [intOf]; omega
     obtain ⟨e4, eY⟩ := yA.out rfl; subst e4; have tL := aRA (eL.out.set pU ⟨va, vc, oa, no, oc⟩ eY); obtain ⟨x0, x1⟩ := pair_cells oW.out; obtain ⟨c0, c1⟩ := eL.out.cell i pU; have g0 := eL.out.frozen (i * 2); have g1 := eL.out.frozen (i * 2 + 1); clear eY; go_wp2
     go_roundw
     case rel => exact ⟨r - 1, l.set i ⟨va, vc, oa, no, oc⟩, by omega, by go_num, tL⟩
     case measure => simp [intOf]; omega
   go_upto_region 14 with fail
   obtain ⟨y0, wP⟩ : ∃ y0, w2.drew = y0 := ⟨_, rfl⟩; have vN : Below w2.heap.size w2 y0 := by rw [← wP]; exact ⟨rfl, rfl, rfl, Nat.le_refl _, fun _ _ => rfl⟩
   have X3 := aRA (HL2.out.below vN); have aEu := vN.size; have Sy0 : ∀ j, j < k → y0.cell? ⟨q, j * 2, none⟩ = some (.slice (aL l j).va 4 (aL l j).vc) ∧ y0.cell? ⟨q, j * 2 + 1, none⟩ = some (.slice (aL l j).oa (aL l j).no (aL l j).oc) := X3.out.cell; refine wp_region_held_drew (S := fun w' => ∀ j, j < k → w'.cell? ⟨q, j * 2, none⟩ = some (.slice (aL l j).va 4 (aL l j).vc) ∧ w'.cell? ⟨q, j * 2 + 1, none⟩ = some (.slice (aL l j).oa (aL l j).no (aL l j).oc)) (by kernel_rfl) (by rw [wP]; exact Sy0) (fun aP => ?_)
   rw [wP]; clear aP wP vN; refine wpAnyH_take (i := 0) (oi := ⟨some 58, .move (.tmp 7), 111, "l04_carts.go:152", #[], none⟩) (v := ?_) rfl (by kernel_rfl) (by kernel_rfl) (by kernel_rfl) (fun _ _ _ h => h) (Or.inl ⟨by rfl, ?_⟩) (by assumption) ?_
   rotate_left
   ·intro w hSw
    clear hSw
    first | (go_simp; done) | (go_simp; with_reducible rfl)
   (try simp only [Act.put, u1, u2, u3])
   refine wpAnyH_take (i := 1) (oi := ⟨some 59, .move (.tmp 10), 3, "l04_carts.go:152", #[], none⟩) (v := ?_) rfl (by kernel_rfl) (by kernel_rfl) (by kernel_rfl) (fun _ _ _ h => h) (Or.inl ⟨by rfl, ?_⟩) (by assumption) ?_
   rotate_left
   ·intro w hSw
    clear hSw
    first | (go_simp; done) | (go_simp; with_reducible rfl)
   (try simp only [Act.put, u1, u2, u3])
   refine wpAnyH_take (i := 2) (oi := ⟨some 60, .indexAddr 111 (.tmp 58) (.tmp 59), 0, "l04_carts.go:152", #[⟨0, .data⟩, ⟨1, .data⟩], none⟩) (v := ?_) rfl (by kernel_rfl) (by kernel_rfl) (by kernel_rfl) (fun _ _ _ h => h) (Or.inl ⟨by rfl, ?_⟩) (by assumption) ?_
   rotate_left
   ·intro w hSw
    clear hSw
    first | (go_simp; done) | (go_simp; with_reducible rfl)
   (try simp only [Act.put, u1, u2, u3])
   refine wpAnyH_take (i := 3) (oi := ⟨some 61, .load 27 (.tmp 60), 27, "l04_carts.go:152", #[⟨2, .data⟩], none⟩) (v := ?_) rfl (by kernel_rfl) (by kernel_rfl) (by kernel_rfl) (fun _ _ _ h => h) (Or.inl ⟨by rfl, ?_⟩) (by assumption) ?_
   rotate_left
   ·intro w hSw
    obtain ⟨c0, c1⟩ := hSw i pU; clear hSw
    first | (go_simp; done) | (go_simp; with_reducible rfl)
   (try simp only [Act.put, u1, u2, u3])
   refine wpAnyH_take (i := 4) (oi := ⟨some 62, .move (.tmp 10), 3, "l04_carts.go:152", #[], none⟩) (v := ?_) rfl (by kernel_rfl) (by kernel_rfl) (by kernel_rfl) (fun _ _ _ h => h) (Or.inl ⟨by rfl, ?_⟩) (by assumption) ?_
   rotate_left
   ·intro w hSw
    clear hSw
    first | (go_simp; done) | (go_simp; with_reducible rfl)
   (try simp only [Act.put, u1, u2, u3])
   refine wpAnyH_take (i := 5) (oi := ⟨some 63, .move (.tmp 0), 57, "l04_carts.go:152", #[], none⟩) (v := ?_) rfl (by kernel_rfl) (by kernel_rfl) (by kernel_rfl) (fun _ _ _ h => h) (Or.inl ⟨by rfl, ?_⟩) (by assumption) ?_
   rotate_left
   ·intro w hSw
    clear hSw
    first | (go_simp; done) | (go_simp; with_reducible rfl)
   (try simp only [Act.put, u1, u2, u3])
   refine wpAnyH_ready (rs := [6, 11]) (by kernel_rfl) (by simp) ?_
   refine (AllReadyH.cons rfl (fun K hK => ?_) (AllReadyH.cons rfl (fun K hK => ?_) AllReadyH.nil))
   ·skip
    go_simp
    go_at_call 41
    refine (aGe y0 B g a len cap X3.out.rd (by omega)).mono ?_
    rintro e y1 ⟨kind, item, qty, dv, sq, hi8, rfl, uB, Y0⟩; have zD := aRA (X3.out.step uB Y0); have aEt : w2.heap.size ≤ y1.heap.size := Nat.le_trans aEu uB.size; have Sy1 : ∀ j, j < k → y1.cell? ⟨q, j * 2, none⟩ = some (.slice (aL l j).va 4 (aL l j).vc) ∧ y1.cell? ⟨q, j * 2 + 1, none⟩ = some (.slice (aL l j).oa (aL l j).no (aL l j).oc) := zD.out.cell; refine hK.out _ _ Sy1 (fun sP => ?_)
    clear hK K sP uB Y0 Sy0
    (try simp only [Act.put, u1, u2, u3])
    refine wpAnyH_ready (rs := [7, 11]) (by kernel_rfl) (by simp) ?_
    refine (AllReadyH.cons rfl (fun K hK => ?_) (AllReadyH.cons rfl (fun K hK => ?_) AllReadyH.nil))
    ·skip
     go_simp
     go_at_call 18
     refine (aA5 y1 w.heap.size y1.heap.size (aL l i) (i : Int) kind qty dv sq item (zD.out.row.crt i (by rw [zD.out.num]; exact pU)) aRC hi8).mono ?_
     rintro e y2 ⟨va, nv, vc, oa, no, oc, code, rfl, fO, J9⟩; have lI : code = 0 → nv = 4 ∧ gO y2 y1.heap.size y2.heap.size va vc oa no oc 400 := fun h => ⟨(J9 h).1, (J9 h).2.more aRC aRC (by omega)⟩
     clear J9; have aE2 := aRA (zD.out.below fO); have aJM : w2.heap.size ≤ y2.heap.size := Nat.le_trans aEt fO.size; have Sy2 : ∀ j, j < k → y2.cell? ⟨q, j * 2, none⟩ = some (.slice (aL l j).va 4 (aL l j).vc) ∧ y2.cell? ⟨q, j * 2 + 1, none⟩ = some (.slice (aL l j).oa (aL l j).no (aL l j).oc) := aE2.out.cell; have aE8 : Hid (code = 0 → nv = 4 ∧ gO y2 y1.heap.size y2.heap.size va vc oa no oc 400) := lI; have aOR := fO.size; refine hK.out _ _ Sy2 (fun lK => ?_)
     clear hK K lK fO lI Sy1
     (try simp only [Act.put, u1, u2, u3])
     refine wpAnyH_take (i := 8) (oi := ⟨some 57, .move (.tmp 65), 32, "l04_carts.go:152", #[⟨7, .data⟩], none⟩) (v := ?_) rfl (by kernel_rfl) (by kernel_rfl) (by kernel_rfl) (fun _ _ _ h => h) (Or.inl ⟨by rfl, ?_⟩) (by assumption) ?_
     rotate_left
     ·intro w hSw
      clear hSw
      first | (go_simp; done) | (go_simp; with_reducible rfl)
     (try simp only [Act.put, u1, u2, u3])
     refine wpAnyH_take (i := 9) (oi := ⟨some 66, .extract (.tmp 57) 0, 27, "l04_carts.go:152", #[⟨8, .data⟩], none⟩) (v := ?_) rfl (by kernel_rfl) (by kernel_rfl) (by kernel_rfl) (fun _ _ _ h => h) (Or.inl ⟨by rfl, ?_⟩) (by assumption) ?_
     rotate_left
     ·intro w hSw
      clear hSw
      first | (go_simp; done) | (go_simp; with_reducible rfl)
     (try simp only [Act.put, u1, u2, u3])
     refine wpAnyH_take (i := 10) (oi := ⟨some 67, .extract (.tmp 57) 1, 2, "l04_carts.go:152", #[⟨8, .data⟩, { on := 12, ground := Ground.gcOnly Departure.lateStores }], none⟩) (v := ?_) rfl (by kernel_rfl) (by kernel_rfl) (by kernel_rfl) (fun _ _ _ h => h) (Or.inl ⟨by rfl, ?_⟩) (by assumption) ?_
     rotate_left
     ·intro w hSw
      clear hSw
      first | (go_simp; done) | (go_simp; with_reducible rfl)
     (try simp only [Act.put, u1, u2, u3])
     refine wpAnyH_ready (rs := [11]) (by kernel_rfl) (by simp) ?_
     refine (AllReadyH.cons rfl (fun K hK => ?_) AllReadyH.nil)
     have eG : Below y2.heap.size y2 (y2.alloc (.cells #[.slice none 0 0, .slice none 0 0] 27)) := bl; have kP := bL (Below.refl _ (y2.alloc (.cells #[.slice none 0 0, .slice none 0 0] 27))); have oX := aRA (aE2.out.below eG); have SA : ∀ j, j < k → (y2.alloc (.cells #[.slice none 0 0, .slice none 0 0] 27)).cell? ⟨q, j * 2, none⟩ = some (.slice (aL l j).va 4 (aL l j).vc) ∧ (y2.alloc (.cells #[.slice none 0 0, .slice none 0 0] 27)).cell? ⟨q, j * 2 + 1, none⟩ = some (.slice (aL l j).oa (aL l j).no (aL l j).oc) := oX.out.cell
     go_simp
     refine hK.out _ _ SA (fun lM => ?_)
     clear hK K lM
     (try simp only [Act.put, u1, u2, u3])
     generalize y2.alloc (.cells #[.slice none 0 0, .slice none 0 0] 27) = y3 at eG kP oX SA ⊢; have Sy3 := SA; clear SA Sy2; have aA6 := aRA kP; have aKF := oX; have aPB : w2.heap.size ≤ y3.heap.size := Nat.le_trans aJM eG.size; have aE7 : Hid (code = 0 → nv = 4 ∧ gO y3 y1.heap.size y2.heap.size va vc oa no oc 400) := fun h => ⟨(aE8.out h).1, (aE8.out h).2.below eG (by omega)⟩
     clear kP oX eG; have gV := aA6.out; have hbl := (aRB gV).1; have eL := aRA (aKF.out.box (.slice va nv vc) (.slice oa no oc) gV (by omega) (by omega))
     have oW := aRA (cK (.slice va nv vc) (.slice oa no oc) gV); have yA : Hid (code = 0 → nv = 4 ∧ gO ((y3.setCell ⟨y2.heap.size, 0, none⟩ (.slice va nv vc)).setCell ⟨y2.heap.size, 1, none⟩ (.slice oa no oc)) w.heap.size ((y3.setCell ⟨y2.heap.size, 0, none⟩ (.slice va nv vc)).setCell ⟨y2.heap.size, 1, none⟩ (.slice oa no oc)).heap.size va vc oa no oc 400) := fun h => ⟨(aE7.out h).1, (gO.other (aE7.out h).2 gV fun j _ _ bH => aF _ _ bH).more (by omega) (by rw [bA]; omega) aRC⟩
     obtain ⟨d0, d1⟩ := pair_cells gV; obtain ⟨f0, f1⟩ := aD gV; have SW : ∀ j, j < k → ((y3.setCell ⟨y2.heap.size, 0, none⟩ (.slice va nv vc)).setCell ⟨y2.heap.size, 1, none⟩ (.slice oa no oc)).cell? ⟨q, j * 2, none⟩ = some (.slice (aL l j).va 4 (aL l j).vc) ∧ ((y3.setCell ⟨y2.heap.size, 0, none⟩ (.slice va nv vc)).setCell ⟨y2.heap.size, 1, none⟩ (.slice oa no oc)).cell? ⟨q, j * 2 + 1, none⟩ = some (.slice (aL l j).oa (aL l j).no (aL l j).oc) := eL.out.cell; refine rk 12 rfl (fun K hK => ?_)
     go_simp
     refine hK.out _ _ SW (fun lL => ?_)
     clear hK K lL d0 d1 f0 f1 SW gV
     (try simp only [Act.put, u1, u2, u3])
     generalize (y3.setCell ⟨y2.heap.size, 0, none⟩ (.slice va nv vc)).setCell ⟨y2.heap.size, 1, none⟩ (.slice oa no oc) = zn at oW eL yA ⊢; have O5 : ∀ j, j < k → zn.cell? ⟨q, j * 2, none⟩ = some (.slice (aL l j).va 4 (aL l j).vc) ∧ zn.cell? ⟨q, j * 2 + 1, none⟩ = some (.slice (aL l j).oa (aL l j).no (aL l j).oc) := eL.out.cell; refine wpAnyH_take (i := 13) (oi := ⟨some 14, .assign (.tmp 67), 2, "l04_carts.go:152", #[⟨10, .data⟩, ⟨12, .chain⟩, ⟨0, .phase⟩, ⟨1, .phase⟩, ⟨2, .phase⟩, ⟨3, .phase⟩, ⟨4, .phase⟩, ⟨5, .phase⟩, ⟨6, .phase⟩, ⟨7, .phase⟩, ⟨8, .phase⟩, ⟨9, .phase⟩, ⟨10, .phase⟩, ⟨11, .phase⟩, ⟨12, .phase⟩], none⟩) (v := ?_) rfl (by kernel_rfl) (by kernel_rfl) (by kernel_rfl) (fun _ _ _ h => h) (Or.inl ⟨by rfl, ?_⟩) (by assumption) ?_
     rotate_left
     ·intro w hSw
      clear hSw
      first | (go_simp; done) | (go_simp; with_reducible rfl)
     (try simp only [Act.put, u1, u2, u3])
     refine wpAnyH_done (by kernel_rfl) ?_ _
     clear O5
     by_cases yG : code = 0
     rotate_left
     ·have en : (code == 0) = false := by rw [beq_eq_false_iff_ne]; exact yG
      clear yG; go_wp2
      go_roundw
      case rel => exact ⟨r - 1, l, by omega, by go_num, eL⟩
      case measure => simp [intOf]; omega
     subst yG; obtain ⟨e4, eY⟩ := yA.out rfl; subst e4; have tL := aRA (eL.out.set pU ⟨va, vc, oa, no, oc⟩ eY); obtain ⟨x0, x1⟩ := pair_cells oW.out; obtain ⟨c0, c1⟩ := eL.out.cell i pU; have g0 := eL.out.frozen (i * 2); have g1 := eL.out.frozen (i * 2 + 1); clear eY; go_wp2
     go_roundw
     case rel => exact ⟨r - 1, l.set i ⟨va, vc, oa, no, oc⟩, by omega, by go_num, tL⟩
     case measure => simp [intOf]; omega
    ·skip
     have eG : Below y1.heap.size y1 (y1.alloc (.cells #[.slice none 0 0, .slice none 0 0] 27)) := bl; have kP := bL (Below.refl _ (y1.alloc (.cells #[.slice none 0 0, .slice none 0 0] 27))); have oX := aRA (zD.out.below eG); have SA : ∀ j, j < k → (y1.alloc (.cells #[.slice none 0 0, .slice none 0 0] 27)).cell? ⟨q, j * 2, none⟩ = some (.slice (aL l j).va 4 (aL l j).vc) ∧ (y1.alloc (.cells #[.slice none 0 0, .slice none 0 0] 27)).cell? ⟨q, j * 2 + 1, none⟩ = some (.slice (aL l j).oa (aL l j).no (aL l j).oc) := oX.out.cell
     go_simp
     refine hK.out _ _ SA (fun lM => ?_)
     clear hK K lM
     (try simp only [Act.put, u1, u2, u3])
     generalize y1.alloc (.cells #[.slice none 0 0, .slice none 0 0] 27) = y4 at eG kP oX SA ⊢; have Sy4 := SA; clear SA Sy1; have q8 := aRA kP; have X2 := oX; have aJL : w2.heap.size ≤ y4.heap.size := Nat.le_trans aEt eG.size; clear kP oX eG; refine wpAnyH_ready (rs := [7]) (by kernel_rfl) (by simp) ?_
     refine (AllReadyH.cons rfl (fun K hK => ?_) AllReadyH.nil)
     go_simp
     go_at_call 18
     refine (aA5 y4 w.heap.size y4.heap.size (aL l i) (i : Int) kind qty dv sq item (X2.out.row.crt i (by rw [X2.out.num]; exact pU)) aRC hi8).mono ?_
     rintro e y5 ⟨va, nv, vc, oa, no, oc, code, rfl, fO, J9⟩; have lI : code = 0 → nv = 4 ∧ gO y5 y4.heap.size y5.heap.size va vc oa no oc 400 := fun h => ⟨(J9 h).1, (J9 h).2.more aRC aRC (by omega)⟩
     clear J9; have aE1 := aRA (X2.out.below fO); have aPA : w2.heap.size ≤ y5.heap.size := Nat.le_trans aJL fO.size; have Sy5 : ∀ j, j < k → y5.cell? ⟨q, j * 2, none⟩ = some (.slice (aL l j).va 4 (aL l j).vc) ∧ y5.cell? ⟨q, j * 2 + 1, none⟩ = some (.slice (aL l j).oa (aL l j).no (aL l j).oc) := aE1.out.cell; have q7 := aRA ((fO.block _ (aRB q8.out).1).trans q8.out); have aE6 : Hid (code = 0 → nv = 4 ∧ gO y5 y4.heap.size y5.heap.size va vc oa no oc 400) := lI; have aOQ := fO.size; refine hK.out _ _ Sy5 (fun lK => ?_)
     clear hK K lK fO lI Sy4
     (try simp only [Act.put, u1, u2, u3])
     refine wpAnyH_take (i := 8) (oi := ⟨some 57, .move (.tmp 65), 32, "l04_carts.go:152", #[⟨7, .data⟩], none⟩) (v := ?_) rfl (by kernel_rfl) (by kernel_rfl) (by kernel_rfl) (fun _ _ _ h => h) (Or.inl ⟨by rfl, ?_⟩) (by assumption) ?_
     rotate_left
     ·intro w hSw
      clear hSw
      first | (go_simp; done) | (go_simp; with_reducible rfl)
     (try simp only [Act.put, u1, u2, u3])
     refine wpAnyH_take (i := 9) (oi := ⟨some 66, .extract (.tmp 57) 0, 27, "l04_carts.go:152", #[⟨8, .data⟩], none⟩) (v := ?_) rfl (by kernel_rfl) (by kernel_rfl) (by kernel_rfl) (fun _ _ _ h => h) (Or.inl ⟨by rfl, ?_⟩) (by assumption) ?_
     rotate_left
     ·intro w hSw
      clear hSw
      first | (go_simp; done) | (go_simp; with_reducible rfl)
     (try simp only [Act.put, u1, u2, u3])
     refine wpAnyH_take (i := 10) (oi := ⟨some 67, .extract (.tmp 57) 1, 2, "l04_carts.go:152", #[⟨8, .data⟩, { on := 12, ground := Ground.gcOnly Departure.lateStores }], none⟩) (v := ?_) rfl (by kernel_rfl) (by kernel_rfl) (by kernel_rfl) (fun _ _ _ h => h) (Or.inl ⟨by rfl, ?_⟩) (by assumption) ?_
     rotate_left
     ·intro w hSw
      clear hSw
      first | (go_simp; done) | (go_simp; with_reducible rfl)
     (try simp only [Act.put, u1, u2, u3])
     have gV := q7.out; have hbl := (aRB gV).1; have eL := aRA (aE1.out.box (.slice va nv vc) (.slice oa no oc) gV (by omega) (by omega))
     have oW := aRA (cK (.slice va nv vc) (.slice oa no oc) gV); have yA : Hid (code = 0 → nv = 4 ∧ gO ((y5.setCell ⟨y1.heap.size, 0, none⟩ (.slice va nv vc)).setCell ⟨y1.heap.size, 1, none⟩ (.slice oa no oc)) w.heap.size ((y5.setCell ⟨y1.heap.size, 0, none⟩ (.slice va nv vc)).setCell ⟨y1.heap.size, 1, none⟩ (.slice oa no oc)).heap.size va vc oa no oc 400) := fun h => ⟨(aE6.out h).1, (gO.other (aE6.out h).2 gV fun j _ _ bH => aF _ _ bH).more (by omega) (by rw [bA]; omega) aRC⟩
     obtain ⟨d0, d1⟩ := pair_cells gV; obtain ⟨f0, f1⟩ := aD gV; have SW : ∀ j, j < k → ((y5.setCell ⟨y1.heap.size, 0, none⟩ (.slice va nv vc)).setCell ⟨y1.heap.size, 1, none⟩ (.slice oa no oc)).cell? ⟨q, j * 2, none⟩ = some (.slice (aL l j).va 4 (aL l j).vc) ∧ ((y5.setCell ⟨y1.heap.size, 0, none⟩ (.slice va nv vc)).setCell ⟨y1.heap.size, 1, none⟩ (.slice oa no oc)).cell? ⟨q, j * 2 + 1, none⟩ = some (.slice (aL l j).oa (aL l j).no (aL l j).oc) := eL.out.cell; refine rk 12 rfl (fun K hK => ?_)
     go_simp
     refine hK.out _ _ SW (fun lL => ?_)
     clear hK K lL d0 d1 f0 f1 SW gV
     (try simp only [Act.put, u1, u2, u3])
     generalize (y5.setCell ⟨y1.heap.size, 0, none⟩ (.slice va nv vc)).setCell ⟨y1.heap.size, 1, none⟩ (.slice oa no oc) = zn at oW eL yA ⊢; have O5 : ∀ j, j < k → zn.cell? ⟨q, j * 2, none⟩ = some (.slice (aL l j).va 4 (aL l j).vc) ∧ zn.cell? ⟨q, j * 2 + 1, none⟩ = some (.slice (aL l j).oa (aL l j).no (aL l j).oc) := eL.out.cell; refine wpAnyH_take (i := 13) (oi := ⟨some 14, .assign (.tmp 67), 2, "l04_carts.go:152", #[⟨10, .data⟩, ⟨12, .chain⟩, ⟨0, .phase⟩, ⟨1, .phase⟩, ⟨2, .phase⟩, ⟨3, .phase⟩, ⟨4, .phase⟩, ⟨5, .phase⟩, ⟨6, .phase⟩, ⟨7, .phase⟩, ⟨8, .phase⟩, ⟨9, .phase⟩, ⟨10, .phase⟩, ⟨11, .phase⟩, ⟨12, .phase⟩], none⟩) (v := ?_) rfl (by kernel_rfl) (by kernel_rfl) (by kernel_rfl) (fun _ _ _ h => h) (Or.inl ⟨by rfl, ?_⟩) (by assumption) ?_
     rotate_left
     ·intro w hSw
      clear hSw
      first | (go_simp; done) | (go_simp; with_reducible rfl)
     (try simp only [Act.put, u1, u2, u3])
     refine wpAnyH_done (by kernel_rfl) ?_ _
     clear O5
     by_cases yG : code = 0
     rotate_left
     ·have en : (code == 0) = false := by rw [beq_eq_false_iff_ne]; exact yG
      clear yG; go_wp2
      go_roundw
      case rel => exact ⟨r - 1, l, by omega, by go_num, eL⟩
      case measure => simp [intOf]; omega
     subst yG; obtain ⟨e4, eY⟩ := yA.out rfl; subst e4; have tL := aRA (eL.out.set pU ⟨va, vc, oa, no, oc⟩ eY); obtain ⟨x0, x1⟩ := pair_cells oW.out; obtain ⟨c0, c1⟩ := eL.out.cell i pU; have g0 := eL.out.frozen (i * 2); have g1 := eL.out.frozen (i * 2 + 1); clear eY; go_wp2
     go_roundw
     case rel => exact ⟨r - 1, l.set i ⟨va, vc, oa, no, oc⟩, by omega, by go_num, tL⟩
     case measure => simp [intOf]; omega
   ·skip
    have eG : Below y0.heap.size y0 (y0.alloc (.cells #[.slice none 0 0, .slice none 0 0] 27)) := bl; have kP := bL (Below.refl _ (y0.alloc (.cells #[.slice none 0 0, .slice none 0 0] 27))); have oX := aRA (X3.out.below eG); have SA : ∀ j, j < k → (y0.alloc (.cells #[.slice none 0 0, .slice none 0 0] 27)).cell? ⟨q, j * 2, none⟩ = some (.slice (aL l j).va 4 (aL l j).vc) ∧ (y0.alloc (.cells #[.slice none 0 0, .slice none 0 0] 27)).cell? ⟨q, j * 2 + 1, none⟩ = some (.slice (aL l j).oa (aL l j).no (aL l j).oc) := oX.out.cell
    go_simp
    refine hK.out _ _ SA (fun lM => ?_)
    clear hK K lM
    (try simp only [Act.put, u1, u2, u3])
    generalize y0.alloc (.cells #[.slice none 0 0, .slice none 0 0] 27) = y6 at eG kP oX SA ⊢; have Sy6 := SA; clear SA Sy0; have q6 := aRA kP; have aE0 := oX; have aJK : w2.heap.size ≤ y6.heap.size := Nat.le_trans aEu eG.size; clear kP oX eG; refine wpAnyH_ready (rs := [6]) (by kernel_rfl) (by simp) ?_
    refine (AllReadyH.cons rfl (fun K hK => ?_) AllReadyH.nil)
    go_simp
    go_at_call 41
    refine (aGe y6 B g a len cap aE0.out.rd (by omega)).mono ?_
    rintro e y7 ⟨kind, item, qty, dv, sq, hi8, rfl, uB, Y0⟩; have M0 := aRA (aE0.out.step uB Y0); have aJJ : w2.heap.size ≤ y7.heap.size := Nat.le_trans aJK uB.size; have Sy7 : ∀ j, j < k → y7.cell? ⟨q, j * 2, none⟩ = some (.slice (aL l j).va 4 (aL l j).vc) ∧ y7.cell? ⟨q, j * 2 + 1, none⟩ = some (.slice (aL l j).oa (aL l j).no (aL l j).oc) := M0.out.cell; have U9 := aRA ((uB.block _ (aRB q6.out).1 (by intro e; injection e with e; omega)).trans q6.out)
    refine hK.out _ _ Sy7 (fun sP => ?_)
    clear hK K sP uB Y0 Sy6
    (try simp only [Act.put, u1, u2, u3])
    refine wpAnyH_ready (rs := [7]) (by kernel_rfl) (by simp) ?_
    refine (AllReadyH.cons rfl (fun K hK => ?_) AllReadyH.nil)
    go_simp
    go_at_call 18
    refine (aA5 y7 w.heap.size y7.heap.size (aL l i) (i : Int) kind qty dv sq item (M0.out.row.crt i (by rw [M0.out.num]; exact pU)) aRC hi8).mono ?_
    rintro e y8 ⟨va, nv, vc, oa, no, oc, code, rfl, fO, J9⟩; have lI : code = 0 → nv = 4 ∧ gO y8 y7.heap.size y8.heap.size va vc oa no oc 400 := fun h => ⟨(J9 h).1, (J9 h).2.more aRC aRC (by omega)⟩
    clear J9; have aEZ := aRA (M0.out.below fO); have aPz : w2.heap.size ≤ y8.heap.size := Nat.le_trans aJJ fO.size; have Sy8 : ∀ j, j < k → y8.cell? ⟨q, j * 2, none⟩ = some (.slice (aL l j).va 4 (aL l j).vc) ∧ y8.cell? ⟨q, j * 2 + 1, none⟩ = some (.slice (aL l j).oa (aL l j).no (aL l j).oc) := aEZ.out.cell; have q5 := aRA ((fO.block _ (aRB U9.out).1).trans U9.out); have aE5 : Hid (code = 0 → nv = 4 ∧ gO y8 y7.heap.size y8.heap.size va vc oa no oc 400) := lI; have aOP := fO.size; refine hK.out _ _ Sy8 (fun lK => ?_)
    clear hK K lK fO lI Sy7
    (try simp only [Act.put, u1, u2, u3])
    refine wpAnyH_take (i := 8) (oi := ⟨some 57, .move (.tmp 65), 32, "l04_carts.go:152", #[⟨7, .data⟩], none⟩) (v := ?_) rfl (by kernel_rfl) (by kernel_rfl) (by kernel_rfl) (fun _ _ _ h => h) (Or.inl ⟨by rfl, ?_⟩) (by assumption) ?_
    rotate_left
    ·intro w hSw
     clear hSw
     first | (go_simp; done) | (go_simp; with_reducible rfl)
    (try simp only [Act.put, u1, u2, u3])
    refine wpAnyH_take (i := 9) (oi := ⟨some 66, .extract (.tmp 57) 0, 27, "l04_carts.go:152", #[⟨8, .data⟩], none⟩) (v := ?_) rfl (by kernel_rfl) (by kernel_rfl) (by kernel_rfl) (fun _ _ _ h => h) (Or.inl ⟨by rfl, ?_⟩) (by assumption) ?_
    rotate_left
    ·intro w hSw
     clear hSw
     first | (go_simp; done) | (go_simp; with_reducible rfl)
    (try simp only [Act.put, u1, u2, u3])
    refine wpAnyH_take (i := 10) (oi := ⟨some 67, .extract (.tmp 57) 1, 2, "l04_carts.go:152", #[⟨8, .data⟩, { on := 12, ground := Ground.gcOnly Departure.lateStores }], none⟩) (v := ?_) rfl (by kernel_rfl) (by kernel_rfl) (by kernel_rfl) (fun _ _ _ h => h) (Or.inl ⟨by rfl, ?_⟩) (by assumption) ?_
    rotate_left
    ·intro w hSw
     clear hSw
     first | (go_simp; done) | (go_simp; with_reducible rfl)
    (try simp only [Act.put, u1, u2, u3])
    have gV := q5.out; have hbl := (aRB gV).1; have eL := aRA (aEZ.out.box (.slice va nv vc) (.slice oa no oc) gV (by omega) (by omega))
    have oW := aRA (cK (.slice va nv vc) (.slice oa no oc) gV); have yA : Hid (code = 0 → nv = 4 ∧ gO ((y8.setCell ⟨y0.heap.size, 0, none⟩ (.slice va nv vc)).setCell ⟨y0.heap.size, 1, none⟩ (.slice oa no oc)) w.heap.size ((y8.setCell ⟨y0.heap.size, 0, none⟩ (.slice va nv vc)).setCell ⟨y0.heap.size, 1, none⟩ (.slice oa no oc)).heap.size va vc oa no oc 400) := fun h => ⟨(aE5.out h).1, (gO.other (aE5.out h).2 gV fun j _ _ bH => aF _ _ bH).more (by omega) (by rw [bA]; omega) aRC⟩
    obtain ⟨d0, d1⟩ := pair_cells gV; obtain ⟨f0, f1⟩ := aD gV; have SW : ∀ j, j < k → ((y8.setCell ⟨y0.heap.size, 0, none⟩ (.slice va nv vc)).setCell ⟨y0.heap.size, 1, none⟩ (.slice oa no oc)).cell? ⟨q, j * 2, none⟩ = some (.slice (aL l j).va 4 (aL l j).vc) ∧ ((y8.setCell ⟨y0.heap.size, 0, none⟩ (.slice va nv vc)).setCell ⟨y0.heap.size, 1, none⟩ (.slice oa no oc)).cell? ⟨q, j * 2 + 1, none⟩ = some (.slice (aL l j).oa (aL l j).no (aL l j).oc) := eL.out.cell; refine rk 12 rfl (fun K hK => ?_)
    go_simp
    refine hK.out _ _ SW (fun lL => ?_)
    clear hK K lL d0 d1 f0 f1 SW gV
    (try simp only [Act.put, u1, u2, u3])
    generalize (y8.setCell ⟨y0.heap.size, 0, none⟩ (.slice va nv vc)).setCell ⟨y0.heap.size, 1, none⟩ (.slice oa no oc) = zn at oW eL yA ⊢; have O5 : ∀ j, j < k → zn.cell? ⟨q, j * 2, none⟩ = some (.slice (aL l j).va 4 (aL l j).vc) ∧ zn.cell? ⟨q, j * 2 + 1, none⟩ = some (.slice (aL l j).oa (aL l j).no (aL l j).oc) := eL.out.cell; refine wpAnyH_take (i := 13) (oi := ⟨some 14, .assign (.tmp 67), 2, "l04_carts.go:152", #[⟨10, .data⟩, ⟨12, .chain⟩, ⟨0, .phase⟩, ⟨1, .phase⟩, ⟨2, .phase⟩, ⟨3, .phase⟩, ⟨4, .phase⟩, ⟨5, .phase⟩, ⟨6, .phase⟩, ⟨7, .phase⟩, ⟨8, .phase⟩, ⟨9, .phase⟩, ⟨10, .phase⟩, ⟨11, .phase⟩, ⟨12, .phase⟩], none⟩) (v := ?_) rfl (by kernel_rfl) (by kernel_rfl) (by kernel_rfl) (fun _ _ _ h => h) (Or.inl ⟨by rfl, ?_⟩) (by assumption) ?_
    rotate_left
    ·intro w hSw
     clear hSw
     first | (go_simp; done) | (go_simp; with_reducible rfl)
    (try simp only [Act.put, u1, u2, u3])
    refine wpAnyH_done (by kernel_rfl) ?_ _
    clear O5
    by_cases yG : code = 0
    rotate_left
    ·have en : (code == 0) = false := by rw [beq_eq_false_iff_ne]; exact yG
     clear yG; go_wp2
     go_roundw
     case rel => exact ⟨r - 1, l, by omega, by go_num, eL⟩
     case measure => simp [intOf]; omega
    subst yG; obtain ⟨e4, eY⟩ := yA.out rfl; subst e4; have tL := aRA (eL.out.set pU ⟨va, vc, oa, no, oc⟩ eY); obtain ⟨x0, x1⟩ := pair_cells oW.out; obtain ⟨c0, c1⟩ := eL.out.cell i pU; have g0 := eL.out.frozen (i * 2); have g1 := eL.out.frozen (i * 2 + 1); clear eY; go_wp2
    go_roundw
    case rel => exact ⟨r - 1, l.set i ⟨va, vc, oa, no, oc⟩, by omega, by go_num, tL⟩
    case measure => simp [intOf]; omega
set_option linter.unusedVariables false

theorem aEj {x y : aA} (h : tQ x y = false) : ∀ L : List aA, tP (L ++ [x]) y = tP L y ++ [x]
 | [] => by rw [List.nil_append, aCy h, aFT]; rfl
 | z :: L => by
  rw [List.cons_append]; rcases hb : tQ z y with _ | _
  ·rw [aCy hb, aCy hb]; rfl
  ·rw [aCx hb, aCx hb, aEj h L]; rfl
theorem aFU {x : aA} : ∀ L : List aA, (∀ y, y ∈ L → tQ y x = true) → tP L x = L ++ [x]
 | [], _ => aFT x
 | z :: L, h => by
  rw [aCx (h z (List.mem_cons_self ..)), aFU L fun y hy => h y (List.mem_cons_of_mem _ hy)]
  rfl
theorem aDe {x : aA} : ∀ (B L : List aA), (∀ y, y ∈ B → tQ x y = false) → B.foldl tP (L ++ [x]) = B.foldl tP L ++ [x]
 | [], _, _ => rfl
 | y :: B, L, h => by
  rw [List.foldl_cons, List.foldl_cons, aEj (h y (List.mem_cons_self ..)), aDe B _ fun z hz => h z (List.mem_cons_of_mem _ hz)]
theorem aED {y : aA} : ∀ (A L : List aA), y ∈ A.foldl tP L → y ∈ A ∨ y ∈ L
 | [], L, h => .inr h
 | z :: A, L, h => by
  rw [List.foldl_cons] at h; rcases aED A _ h with q | q
  ·exact .inl (List.mem_cons_of_mem _ q)
  ·rcases (aL6 L z y).1 q with q | q
   ·exact .inr q
   ·exact .inl (by rw [q]; exact List.mem_cons_self ..)
/-- The newest operation is the last one of the history. -/
theorem aPV {xs : List Int} {l : List aA} (hc : aE xs l = true) {d : Nat} (hd : d < 4) {o : aA} (hok : (aJ xs l d o).ok = true) : aGy (dU xs d) (bO l d (aJ xs l d o)) = aGy xs l ++ [aJ xs l d o] := by
 have aAA := aC0 (xs := xs) (l := l) (d := d) (o := o)
 unfold aGy
 rw [if_pos hc, if_pos (K8 hc hd hok)]
 unfold aHF
 rw [List.take_length, List.take_length]
 generalize aJ xs l d o = x at aAA
 obtain ⟨A, B, e1, e2⟩ := zW l d x
 rw [e2]
 subst e1
 rw [List.foldl_append, List.foldl_append, List.foldl_cons, aFU (x := x) (A.foldl tP []) fun y hy => ?_, aDe B _ fun y hy => (aAA y (List.mem_append_right _ hy)).2]
 rcases aED A [] hy with q | q
 ·exact (aAA y (List.mem_append_left _ q)).1
 ·cases q
theorem aIg {xs : List Int} {l : List aA} {dev kind : Int} {item : ByteArray} {qty : Int} (hc : aE xs l = true) (hd : 0 ≤ dev ∧ dev ≤ 3) (hm : eN kind item qty 0 0 = true) (hk : kind ≤ 5) : bN xs l dev kind item qty 0 0 = if (eA xs l dev.toNat kind item qty).1 = 0 then eA xs l dev.toNat kind item qty else ((eA xs l dev.toNat kind item qty).1, xs, l) := by
 have := aAc hm
 unfold bN
 rw [if_pos ⟨hc, tC hd.1 hd.2, hm⟩]
 have h2 : jN xs l dev.toNat kind item qty 0 0 = eA xs l dev.toNat kind item qty := by
  unfold jN; rw [if_neg (by omega), if_neg (by omega), if_neg (by omega), if_neg (by omega)]
 rw [h2]
/-- A command on an item that may be done is taken, or there is no room. -/
theorem A0 {xs : List Int} {l : List aA} {dev kind : Int} {item : ByteArray} {qty : Int} (hc : aE xs l = true) (hd : 0 ≤ dev ∧ dev ≤ 3) (hm : eN kind item qty 0 0 = true) (hk : kind ≤ 5) (ho : (oneOf (aG item l l.length) (bG l item) kind item qty).2 = 0) :
  ((bN xs l dev kind item qty 0 0).1 = 4 ∨ (bN xs l dev kind item qty 0 0).1 = 0) := by
 rw [aIg hc hd hm hk]
 unfold eA
 dsimp only
 rw [if_pos ho]
 by_cases h : (aJ xs l dev.toNat (oneOf (aG item l l.length) (bG l item) kind item qty).1).ok = true
 ·rw [if_pos h, if_pos rfl]
  exact .inr rfl
 ·rw [if_neg h, if_neg (by decide)]
  exact .inl rfl
theorem aBD {xs : List Int} {l : List aA} (hc : aE xs l = true) {x : ByteArray} (h : aG x l l.length % 2 = 1) : iE x = true := by
 obtain ⟨i, hi, e, _⟩ := F1 x l l.length (by intro e; rw [e] at h; exact absurd h (by decide))
 have hok : dP (l.getD i aA.zero).dev (l.getD i aA.zero).seq (l.getD i aA.zero).stamp (l.getD i aA.zero).kind (l.getD i aA.zero).item (l.getD i aA.zero).qty (l.getD i aA.zero).level (l.getD i aA.zero).undos = true := fA hc hi
 rw [e] at hok
 unfold dP tE at hok
 simp only [Bool.and_eq_true] at hok
 exact hok.1.2.2.2.1
/-- An item that is there and not saved, saved and restored. -/
theorem aPc {xs : List Int} {l : List aA} (hc : aE xs l = true) {dev : Int} (hd : 0 ≤ dev ∧ dev ≤ 3) {x : ByteArray} (hx : aG x l l.length % 2 = 1) (hs : (bX l x).saved = false) {a b : Int × List Int × List aA} (ha : bN xs l dev 4 x 0 0 0 = a) (hb : bN a.2.1 a.2.2 dev 5 x 0 0 0 = b) :
  (a.1 = 4 ∨ a.1 = 0) ∧ (a.1 = 0 → aE a.2.1 a.2.2 = true ∧ (b.1 = 4 ∨ b.1 = 0) ∧ (b.1 = 0 → aO b.2.1 b.2.2 = aO xs l) ∧ bY a.2.1 a.2.2 = bY xs l ∧ (∀ y, x ≠ y → bX a.2.2 y = bX l y) ∧ bX a.2.2 x = ⟨x, (bX l x).qty, true⟩) := by
 have hi := aBD hc hx
 have hm4 : eN 4 x 0 0 0 = true := by unfold eN; rw [hi]; rfl
 have hm5 : eN 5 x 0 0 0 = true := by unfold eN; rw [hi]; rfl
 have eV : bG l x = false := hs
 have h4 := A0 (qty := 0) hc hd hm4 (by omega) (by rw [eV]; unfold oneOf; rw [if_neg (by decide), if_pos hx]; rfl)
 rw [ha] at h4
 refine ⟨h4, fun h0 => ?_⟩
 obtain ⟨_, _, _, _, ht⟩ := kZ (by rw [ha]; exact h0) (show (4 : Int) ≤ 5 by omega)
 rw [ha] at ht
 have hca := ht.cart hc (by omega)
 obtain ⟨g1, g2, g3, g4⟩ := ht.item.2.2.2.1 rfl
 have iG : bG a.2.2 x = true := congrArg aT.saved g4
 have h5 := A0 (qty := 0) hca hd hm5 (by omega) (by rw [iG]; unfold oneOf; rw [if_neg (by decide), if_pos g2]; rfl)
 rw [hb] at h5
 have pT := fun y (hy : x ≠ y) => ht.others hy
 refine ⟨hca, h5, fun h6 => ?_, ?_, fun y hy => (pT y hy).2, g4⟩
 ·obtain ⟨_, _, _, _, hu⟩ := kZ (by rw [hb]; exact h6) (show (5 : Int) ≤ 5 by omega)
  rw [hb] at hu; have hcb := hu.cart hca (by omega)
  obtain ⟨k1, k2, k3, k4⟩ := hu.item.2.2.2.2 rfl; refine n9 hc hcb (fun y => ?_) fun y hy => ?_
  ·by_cases e : x = y
   ·subst e
    exact ⟨fun _ => hx, fun _ => k2⟩
   ·rw [(hu.others e).1, (pT y e).1]
  ·by_cases e : x = y
   ·subst e
    rw [k4, g4]
    show (⟨x, (bX l x).qty, false⟩ : aT) = bX l x
    rw [← hs]
    rfl
   ·rw [(hu.others e).2, (pT y e).2]
 ·refine asc_one (oM _ _) (oM _ _) fun y => ?_
  rw [iK hca, iK hc]
  by_cases e : x = y
  ·subst e
   exact ⟨fun _ => hx, fun _ => g2⟩
  ·rw [(pT y e).1]
/-- What a line adds to a total. -/
def H8 (o : aT) : Int := if o.saved = true then 0 else o.qty
theorem aCe (L : List aT) : ∀ k, k ≤ L.length → kU L k = ((L.take k).map H8).sum
 | 0, _ => rfl
 | k + 1, h => by
  rw [kU, aCe L k (by omega), List.take_succ_eq_append_getElem (by omega), List.map_append, List.sum_append]
  have e : L.getD k aT.zero = L[k] := by rw [List.getD_eq_getElem?_getD, List.getElem?_eq_getElem (by omega)]; rfl
  rw [e]; unfold H8; simp only [List.map_cons, List.map_nil, List.sum_cons, List.sum_nil]
  split <;> omega
theorem aFy {x : ByteArray} {f g : ByteArray → Int} (hfg : ∀ y, x ≠ y → f y = g y) : ∀ I : List ByteArray, I.Nodup → ((I.map f).sum = (I.map g).sum ∨ x ∈ I) ∧ (x ∈ I → (I.map f).sum = (I.map g).sum - g x + f x)
 | [], _ => ⟨.inl rfl, fun h => by cases h⟩
 | y :: I, h => by
  obtain ⟨h1, h2⟩ := List.nodup_cons.1 h; obtain ⟨i1, i2⟩ := aFy hfg I h2; rw [List.map_cons, List.map_cons, List.sum_cons, List.sum_cons]
  by_cases e : x = y
  ·subst e
   refine ⟨.inr (List.mem_cons_self ..), fun _ => ?_⟩
   have := i1.resolve_right h1; omega
  ·have hy := hfg y e
   refine ⟨?_, fun hm => ?_⟩
   ·rcases i1 with q | q
    ·exact .inl (by omega)
    ·exact .inr (List.mem_cons_of_mem _ q)
   ·have := i2 ((List.mem_cons.1 hm).resolve_left e)
    omega
theorem aIR {I : List ByteArray} (h : Asc I) : I.Nodup := by
 unfold Asc at h
 exact h.imp fun {a b} hab e => by
  subst e; rw [I4] at hab; cases hab
/-- A saved line is no more to be paid. -/
theorem aOJ {xs ys : List Int} {l m : List aA} {x : ByteArray} (he : bY ys m = bY xs l) (hx : x ∈ bY xs l) (ho : ∀ y, x ≠ y → bX m y = bX l y) (hm : bX m x = ⟨x, (bX l x).qty, true⟩) (hs : (bX l x).saved = false) : tW ys m = tW xs l - (bX l x).qty := by
 unfold tW
 rw [aCe _ _ aRC, aCe _ _ aRC, List.take_length, List.take_length]
 unfold aO
 rw [he, List.map_map, List.map_map]
 have h := (aFy (x := x) (f := H8 ∘ bX m) (g := H8 ∘ bX l) (fun y hy => by show H8 _ = H8 _; rw [ho y hy]) (bY xs l) (aIR (oM xs l))).2 hx
 rw [h]
 have e1 : (H8 ∘ bX m) x = 0 := by show H8 (bX m x) = 0; rw [hm]; rfl
 have e2 : (H8 ∘ bX l) x = (bX l x).qty := by show H8 (bX l x) = _; unfold H8; rw [hs]; rfl
 rw [e1, e2]
 omega
/-- An item that is there, removed and added again. -/
theorem aOK {xs : List Int} {l : List aA} (hc : aE xs l = true) {dev : Int} (hd : 0 ≤ dev ∧ dev ≤ 3) {x : ByteArray} (hx : aG x l l.length % 2 = 1) {q : Int} (hq : 1 ≤ q ∧ q ≤ 999) {a b : Int × List Int × List aA} (ha : bN xs l dev 3 x 0 0 0 = a) (hb : bN a.2.1 a.2.2 dev 1 x q 0 0 = b) :
  (a.1 = 4 ∨ a.1 = 0) ∧ (a.1 = 0 → (b.1 = 4 ∨ b.1 = 0) ∧ (b.1 = 0 → aE b.2.1 b.2.2 = true ∧ aG x b.2.2 b.2.2.length % 2 = 1 ∧ bX b.2.2 x = ⟨x, q, false⟩)) := by
 have hi := aBD hc hx
 have hm3 : eN 3 x 0 0 0 = true := by unfold eN; rw [hi]; rfl
 have nY : eN 1 x q 0 0 = true := by unfold eN; rw [hi, tC hq.1 hq.2]; rfl
 have h4 := A0 (qty := 0) hc hd hm3 (by omega) (by unfold oneOf; rw [if_neg (by decide), if_pos hx]; rfl)
 rw [ha] at h4
 refine ⟨h4, fun h0 => ?_⟩
 obtain ⟨_, _, _, _, ht⟩ := kZ (by rw [ha]; exact h0) (show (3 : Int) ≤ 5 by omega)
 rw [ha] at ht
 have hca := ht.cart hc (by omega)
 obtain ⟨g1, g2⟩ := ht.item.2.2.1 rfl
 have h5 := A0 (qty := q) hca hd nY (by omega) (by unfold oneOf; rw [if_pos rfl, if_neg g2])
 rw [hb] at h5
 refine ⟨h5, fun h6 => ?_⟩
 obtain ⟨_, _, _, _, hu⟩ := kZ (by rw [hb]; exact h6) (show (1 : Int) ≤ 5 by omega)
 rw [hb] at hu
 obtain ⟨k1, k2, k3⟩ := hu.item.1 rfl
 exact ⟨hu.cart hca (by omega), k2, k3⟩
/-- An item that was added or set, set again. -/
theorem aHG {xs : List Int} {l : List aA} {dev kind : Int} {item : ByteArray} {qty dv sq : Int} {n m : Int × List Int × List aA} (hn : bN xs l dev kind item qty dv sq = n) (h0 : n.1 = 0) (hk : kind = 1 ∨ kind = 2) {q : Int} (hq : 1 ≤ q ∧ q ≤ 999) (hm : bN n.2.1 n.2.2 dev 2 item q 0 0 = m) :
  (m.1 = 4 ∨ m.1 = 0) ∧ (m.1 = 0 → aE m.2.1 m.2.2 = true ∧ aG item m.2.2 m.2.2.length % 2 = 1 ∧ (bX m.2.2 item).qty = q) := by
 obtain ⟨hc, hd, _, hi, ht⟩ := kZ (by rw [hn]; exact h0) (show kind ≤ 5 by omega)
 rw [hn] at ht
 have eY := ht.cart hc (by omega)
 have hx : aG item n.2.2 n.2.2.length % 2 = 1 := by
  rcases hk with e | e
  ·exact (ht.item.1 e).2.1
  ·exact (ht.item.2.1 e).2.1
 have iM : eN 2 item q 0 0 = true := by unfold eN; rw [hi, tC hq.1 hq.2]; rfl
 have h5 := A0 (qty := q) eY hd iM (by omega) (by unfold oneOf; rw [if_neg (by decide), if_pos hx]; rfl)
 rw [hm] at h5
 refine ⟨h5, fun h6 => ?_⟩
 obtain ⟨_, _, _, _, hu⟩ := kZ (by rw [hm]; exact h6) (show (2 : Int) ≤ 5 by omega)
 rw [hm] at hu
 obtain ⟨k1, k2, k3⟩ := hu.item.2.1 rfl
 exact ⟨hu.cart eY (by omega), k2, by rw [k3]⟩
end Go.Proofs.YthkagbnpcjidfaaGreatDoor
