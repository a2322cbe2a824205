/- Walks and mathematics that several claims share, part 41. -/
import Derived.Test.YthkagbnpcjidfaaGreatDoorGy39
import Derived.Test.YthkagbnpcjidfaaGreatDoorGy35
import Derived.Test.YthkagbnpcjidfaaGreatDoorGy36
import Derived.Test.YthkagbnpcjidfaaGreatDoorGy13
import Derived.Test.YthkagbnpcjidfaaGreatDoorGy23
import Derived.Test.YthkagbnpcjidfaaGreatDoorGy40
import Derived.Deep.Cut
import Derived.Test.YthkagbnpcjidfaaGreatDoorGyA
namespace Go.Proofs.YthkagbnpcjidfaaGreatDoor
set_option maxRecDepth 100000
open Go.RowKit
set_option linter.unusedVariables false
set_option linter.unusedSimpArgs false
set_option linter.unusedVariables false
set_option linter.unusedSimpArgs false

/-- A cart in memory of its own, that need not be valid and whose numbers are not bounded. -/
def nU (w : World) (lo hi : Nat) (x : cI) : Prop :=
 ∃ zs m, x.no = m.length ∧ Own w lo hi x.va 4 zs ∧ bF w lo hi x.oa m.length m ∧ bP x.va 4 x.vc ∧ bP x.oa m.length x.oc ∧ (∀ i, i < m.length → (aC m i).item.size ≤ 8) ∧ m.length ≤ 400
theorem yB.weak {w : World} {lo hi : Nat} {x : cI} (h : yB w lo hi x) : nU w lo hi x := by
 obtain ⟨zs, m, e, a, b, c, d, f⟩ := h
 exact ⟨zs, m, e, a, b, c, d, f.item, f.most⟩
theorem nU.more {w : World} {lo hi lo' hi' : Nat} {x : cI} (h : nU w lo hi x) (h1 : lo' ≤ lo) (h2 : hi ≤ hi') : nU w lo' hi' x := by
 obtain ⟨zs, m, e, a, b, c⟩ := h
 exact ⟨zs, m, e, a.more h1 h2, b.more h1 h2, c⟩
theorem nU.kept {w w' : World} {lo hi : Nat} {x : cI} (h : nU w lo hi x) (hk : ∀ j, lo ≤ j → j < hi → w'.heap[j]? = w.heap[j]?) : nU w' lo hi x := by
 obtain ⟨zs, m, e, a, b, c⟩ := h
 exact ⟨zs, m, e, a.kept hk, b.kept hk, c⟩
theorem nU.other {w w' : World} {lo hi q : Nat} {x : cI} {cs : Array Value} {fr : Nat × Nat} (h : nU w lo hi x) (hq : w.heap[q]? = some (.cells cs 27 fr)) (hk : ∀ j, lo ≤ j → j < hi → j ≠ q → w'.heap[j]? = w.heap[j]?) : nU w' lo hi x := by
 obtain ⟨zs, m, e, a, b, c⟩ := h
 refine ⟨zs, m, e, ⟨a.1, fun hn => ?_⟩, ⟨b.1, fun hn => ?_⟩, c⟩
 ·obtain ⟨g, aX, e1, h1, h2, hg, hc⟩ := a.2 hn
  have bH : g ≠ q := by
   intro e2
   rw [e2, hq] at hg; injection hg with hg; injection hg with _ hg; exact absurd hg (by decide)
  exact ⟨g, aX, e1, h1, h2, (hk g h1 h2 bH).trans hg, hc⟩
 ·obtain ⟨g, off, aX, e1, h1, h2, hg, hs, hc⟩ := b.2 hn
  have bH : g ≠ q := by
   intro e2
   rw [e2, hq] at hg; injection hg with hg; injection hg with _ hg; exact absurd hg (by decide)
  exact ⟨g, off, aX, e1, h1, h2, (hk g h1 h2 bH).trans hg, hs, hc⟩
def j4 (m : List aA) (i : Nat) (t : Int) : List aA := m.set i { aC m i with stamp := t }
/-- An operation's stamp is written where it lies. -/
theorem nU.stamp {w : World} {lo hi i : Nat} {x : cI} (h : nU w lo hi x) (hi' : i < x.no) (t : Int) :
  ∃ g off u, x.oa = some ⟨g, off, none⟩ ∧ lo ≤ g ∧ g < hi ∧ (∃ cs, w.heap[g]? = some (.cells cs 50 (0, 0))) ∧ w.cell? ⟨g, off + i * 8 + 2, none⟩ = some (.int .i64 u) ∧ w.frozen? ⟨g, off + i * 8 + 2, none⟩ = false ∧ nU (w.setCell ⟨g, off + i * 8 + 2, none⟩ (.int .i64 t)) lo hi x := by
 obtain ⟨zs, m, e, a, b, c1, c2, c3, c4⟩ := h
 rw [e] at hi'
 obtain ⟨g, off, cs, e1, h1, h2, hg, hs, hc⟩ := b.2 (by omega)
 have hx := hc i hi'
 have hl : (j4 m i t).length = m.length := by unfold j4; simp
 refine ⟨g, off, (aC m i).stamp, e1, h1, h2, ⟨cs, hg⟩, (hx.at hg).2.2.1, aRE hg, zs, j4 m i t, by rw [hl]; exact e, ⟨a.1, fun hn => ?_⟩, ⟨rfl, fun hn => ⟨g, off, cs.setIfInBounds (off + i * 8 + 2) (.int .i64 t), e1, h1, h2, heap_setCell_same _ _ _ _ _ _ hg, by rw [hl]; simpa using hs, fun j hj => ?_⟩⟩, c1, by rw [hl]; exact c2, fun j hj => ?_, by rw [hl]; exact c4⟩
 ·obtain ⟨q, aX, e2, a1, a2, a3, a4⟩ := a.2 hn
  have bH : q ≠ g := by
   intro eq
   rw [eq, hg] at a3; injection a3 with a3; injection a3 with _ a3; exact absurd a3 (by decide)
  exact ⟨q, aX, e2, a1, a2, (heap_setCell_other _ _ _ _ bH).trans a3, a4⟩
 ·rw [hl] at hj
  have hy := hc j hj; unfold j4; rw [jM hi']
  by_cases e2 : i = j
  ·subst e2
   rw [if_pos rfl]; obtain ⟨y0, y1, y2, y3, y4, y5, y6, y7⟩ := hy; have ne : ∀ q, q ≠ 2 → (cs.setIfInBounds (off + i * 8 + 2) (.int .i64 t))[off + i * 8 + q]? = cs[off + i * 8 + q]? := fun q hq => by rw [Array.getElem?_setIfInBounds, if_neg (by omega)]
   refine ⟨(ne 0 (by omega)).trans y0, (ne 1 (by omega)).trans y1, ?_, (ne 3 (by omega)).trans y3, (ne 4 (by omega)).trans y4, (ne 5 (by omega)).trans y5, (ne 6 (by omega)).trans y6, (ne 7 (by omega)).trans y7⟩
   rw [Array.getElem?_setIfInBounds, if_pos rfl, if_pos (aRB y2).1]
  ·rw [if_neg e2]
   have ne : ∀ q, q < 8 → (cs.setIfInBounds (off + i * 8 + 2) (.int .i64 t))[off + j * 8 + q]? = cs[off + j * 8 + q]? := fun q hq => by rw [Array.getElem?_setIfInBounds, if_neg (by omega)]
   obtain ⟨y0, y1, y2, y3, y4, y5, y6, y7⟩ := hy; exact ⟨(ne 0 (by omega)).trans y0, (ne 1 (by omega)).trans y1, (ne 2 (by omega)).trans y2, (ne 3 (by omega)).trans y3, (ne 4 (by omega)).trans y4, (ne 5 (by omega)).trans y5, (ne 6 (by omega)).trans y6, (ne 7 (by omega)).trans y7⟩
 ·rw [hl] at hj
  unfold j4 aC; rw [jM hi']
  split
  ·exact c3 i hi'
  ·exact c3 j hj
/-- The vector's first number is written where it lies. -/
theorem nU.vec {w : World} {lo hi : Nat} {x : cI} (h : nU w lo hi x) (t : Int) :
  ∃ g u, x.va = some ⟨g, 0, none⟩ ∧ lo ≤ g ∧ g < hi ∧ (∃ cs, w.heap[g]? = some (.cells cs 2 (0, 0))) ∧ w.cell? ⟨g, 0, none⟩ = some (.int .i64 u) ∧ w.frozen? ⟨g, 0, none⟩ = false ∧ nU (w.setCell ⟨g, 0, none⟩ (.int .i64 t)) lo hi x := by
 obtain ⟨zs, m, e, a, b, c⟩ := h
 have sN := a.1
 obtain ⟨g, aX, e1, h1, h2, hg, hc⟩ := a.2 (by omega)
 have hx := hc 0 (by omega)
 refine ⟨g, zs.getD 0 0, e1, h1, h2, ⟨aX, hg⟩, (aRD hg).trans hx, aRE hg, zs.set 0 t, m, e, ⟨by rw [List.length_set]; exact sN, fun hn => ⟨g, aX.setIfInBounds 0 (.int .i64 t), e1, h1, h2, heap_setCell_same _ _ _ _ _ _ hg, fun i hi => ?_⟩⟩, ⟨b.1, fun hn => ?_⟩, c⟩
 ·rw [Array.getElem?_setIfInBounds, jM (by omega)]
  by_cases e2 : 0 = i
  ·subst e2
   rw [if_pos rfl, if_pos rfl, if_pos (aRB hx).1]
  ·rw [if_neg e2, if_neg e2]
   exact hc i hi
 ·obtain ⟨q, off, cs, e2, a1, a2, a3, a4, a5⟩ := b.2 hn
  have bH : q ≠ g := by
   intro eq
   rw [eq, hg] at a3; injection a3 with a3; injection a3 with _ a3; exact absurd a3 (by decide)
  exact ⟨q, off, cs, e2, a1, a2, (heap_setCell_other _ _ _ _ bH).trans a3, a4, a5⟩
/-- What the reader's cart keeps: its cart in block cb, its result's block zero so far. -/
structure g8 (w wr : World) (B g : Nat) (a : Option Addr) (len cap cb : Nat) (x : cI) : Prop where
 box : wr.heap[cb]? = some (.cells #[.slice x.va 4 x.vc, .slice x.oa x.no x.oc] 27 (0, 0))
 res : wr.heap[w.heap.size]? = some (.cells #[.slice none 0 0, .slice none 0 0] 27 (0, 0))
 crt : nU wr (w.heap.size + 1) wr.heap.size x
 grown : w.grownBy wr (some g)
 rd : Rd wr B g a len cap
 glt : g < w.heap.size
 clo : w.heap.size < cb
theorem g8.step {w wr w1 : World} {B g : Nat} {a : Option Addr} {len cap cb : Nat} {x : cI} (h : g8 w wr B g a len cap cb x) (hg : wr.grownBy w1 (some g)) (hr : Rd w1 B g a len cap) : g8 w w1 B g a len cap cb x := by
 have wW := h.glt
 have D7 := h.clo
 have hs := hg.size
 have hk : ∀ j, j < wr.heap.size → j ≠ g → w1.heap[j]? = wr.heap[j]? := fun j h1 h2 => hg.block j h1 (by intro e; injection e with e; exact h2 e)
 exact ⟨(hk cb (aRB h.box).1 (by omega)).trans h.box, (hk _ (aRB h.res).1 (by omega)).trans h.res, (h.crt.kept fun j h1 h2 => hk j h2 (by omega)).more aRC hs, h.grown.trans hg, hr, wW, D7⟩
/-- A cell of a block behind the result's is written; the cart bears it. -/
theorem g8.cell1 {w z : World} {B g b i : Nat} {a : Option Addr} {len cap cb : Nat} {x : cI} {T : TypeId} {cs : Array Value} {v : Value} (h : g8 w z B g a len cap cb x) (hb : z.heap[b]? = some (.cells cs T (0, 0))) (hT : T ≠ 27) (jV : w.heap.size < b) (hc : nU (z.setCell ⟨b, i, none⟩ v) (w.heap.size + 1) z.heap.size x) : g8 w (z.setCell ⟨b, i, none⟩ v) B g a len cap cb x := by
 have wW := h.glt
 have D7 := h.clo
 have hB := h.rd.own
 have lH := h.grown
 have hz : (z.setCell ⟨b, i, none⟩ v).heap.size = z.heap.size := by simp [World.setCell]
 have hk : ∀ j, j ≠ b → (z.setCell ⟨b, i, none⟩ v).heap[j]? = z.heap[j]? := fun j hj => heap_setCell_other _ _ _ _ hj
 have hcb : cb ≠ b := by
  intro e
  have hx := h.box; rw [e, hb] at hx; injection hx with hx; injection hx with _ hx; exact hT hx
 exact ⟨(hk cb hcb).trans h.box, (hk _ (by omega)).trans h.res, by rw [hz]; exact hc, ⟨lH.os, lH.tape, lH.output, by rw [hz]; exact lH.size, fun k h1 h2 => (hk k (by omega)).trans (lH.block k h1 h2)⟩, h.rd.kept fun k pJ => hk k (by omega), wW, D7⟩
/-- Another cart is laid in the block. -/
theorem g8.turn {w z : World} {B g : Nat} {a : Option Addr} {len cap cb : Nat} {x : cI} (h : g8 w z B g a len cap cb x) (y : cI) (hy : nU z (w.heap.size + 1) z.heap.size y) : g8 w ((z.setCell ⟨cb, 0, none⟩ (.slice y.va 4 y.vc)).setCell ⟨cb, 1, none⟩ (.slice y.oa y.no y.oc)) B g a len cap cb y := by
 have wW := h.glt
 have D7 := h.clo
 have hB := h.rd.own
 have lH := h.grown
 have hz := bA z cb (.slice y.va 4 y.vc) (.slice y.oa y.no y.oc)
 have hk : ∀ j, j ≠ cb → ((z.setCell ⟨cb, 0, none⟩ (.slice y.va 4 y.vc)).setCell ⟨cb, 1, none⟩ (.slice y.oa y.no y.oc)).heap[j]? = z.heap[j]? := fun j hj => aF _ _ hj
 exact ⟨cK _ _ h.box, (hk _ (by omega)).trans h.res, by rw [hz]; exact hy.other h.box fun j _ _ bH => hk j bH, ⟨lH.os, lH.tape, lH.output, by rw [hz]; exact lH.size, fun k h1 h2 => (hk k (by omega)).trans (lH.block k h1 h2)⟩, h.rd.kept fun k pJ => hk k (by omega), wW, D7⟩
theorem aAZ (w : World) (B g : Nat) (a : Option Addr) (len cap : Nat) (h : Rd w B g a len cap) (n most : Nat) (hn : 0 < n) (hn4 : n ≤ 4) (hm : most ≤ 60) (x y : Int) (hx : x = (n : Int)) (hy : y = (most : Int)) :
  Calls Tryz.prog 75 #[.pointer (some ⟨g, 0, none⟩), .int .i64 x, .int .i64 y] w (aAU n w B g a len cap) := by
 subst hx hy
 exact aLC w B g a len cap h n most hn hn4 hm
/-- What the reader's cart answers. -/
def aBW (w : World) (B g : Nat) (a : Option Addr) (len cap : Nat) (e : Ending) (w' : World) : Prop :=
 ∃ x : cI, e = .returned (.agg #[.slice x.va 4 x.vc, .slice x.oa x.no x.oc]) ∧ nU w' w.heap.size w'.heap.size x ∧ w.grownBy w' (some g) ∧ Rd w' B g a len cap
theorem nU.len {w : World} {lo hi : Nat} {x : cI} (h : nU w lo hi x) : x.no ≤ 400 := by
 obtain ⟨zs, m, e, _, _, _, _, _, h4⟩ := h
 omega

theorem nU.caps {w : World} {lo hi : Nat} {x : cI} (h : nU w lo hi x) : x.no ≤ x.oc := by
 obtain ⟨zs, m, e, _, _, _, c, _⟩ := h
 have := c.1
 omega
theorem g8.out {w z : World} {B g : Nat} {a : Option Addr} {len cap cb : Nat} {x : cI} (h : g8 w z B g a len cap cb x) :
  Hid (((z.setCell ⟨w.heap.size, 0, none⟩ (.slice x.va 4 x.vc)).setCell ⟨w.heap.size, 1, none⟩ (.slice x.oa x.no x.oc)).heap[w.heap.size]? = some (.cells #[.slice x.va 4 x.vc, .slice x.oa x.no x.oc] 27 (0, 0))) ∧ Hid (aBW w B g a len cap (.returned (.agg #[.slice x.va 4 x.vc, .slice x.oa x.no x.oc])) ((z.setCell ⟨w.heap.size, 0, none⟩ (.slice x.va 4 x.vc)).setCell ⟨w.heap.size, 1, none⟩ (.slice x.oa x.no x.oc))) := by
 have wW := h.glt
 have hB := h.rd.own
 have lH := h.grown
 have hz := bA z w.heap.size (.slice x.va 4 x.vc) (.slice x.oa x.no x.oc)
 have hk : ∀ j, j ≠ w.heap.size → ((z.setCell ⟨w.heap.size, 0, none⟩ (.slice x.va 4 x.vc)).setCell ⟨w.heap.size, 1, none⟩ (.slice x.oa x.no x.oc)).heap[j]? = z.heap[j]? := fun j hj => aF _ _ hj
 exact ⟨cK _ _ h.res, x, rfl, ((h.crt.kept fun j h1 h2 => hk j (by omega)).more (by omega) (by rw [hz]; exact Nat.le_refl _)), ⟨lH.os, lH.tape, lH.output, by rw [hz]; exact lH.size, fun k h1 h2 => (hk k (by omega)).trans (lH.block k h1 h2)⟩, h.rd.kept fun k pJ => hk k (by omega)⟩
set_option maxHeartbeats 80000000 in
theorem aML (w : World) (B g : Nat) (a : Option Addr) (len cap : Nat) (h : Rd w B g a len cap) :
  Calls Tryz.prog 39 #[.pointer (some ⟨g, 0, none⟩)] w (aBW w B g a len cap) := by
 have wW := h.lt
 have hBg := h.own
 have aW : Below w.heap.size w (w.alloc (.cells #[.slice none 0 0, .slice none 0 0] 27)) := (Below.refl _ w).alloc aRC _
 have HRd := aRA (h.grown (V4 aW) fun k hk => by cases hk)
 have rX := aRA (bL (Below.refl _ (w.alloc (.cells #[.slice none 0 0, .slice none 0 0] 27))))
 have mF : w.heap.size < (w.alloc (.cells #[.slice none 0 0, .slice none 0 0] 27)).heap.size := by show _ < (w.heap.push _).size; simp
 have nA := aRA aW
 clear h aW
 go_enter Tryz.func39, Tryz.ntmps39
 go_wp2_with fail
 generalize w.alloc (.cells #[.slice none 0 0, .slice none 0 0] 27) = w0 at HRd rX nA mF ⊢
 refine (aAZ w0 B g a len cap HRd.out 3 16 (by omega) (by omega) (by omega) 3 16 rfl rfl).mono ?_
 rintro e w1 ⟨q, c, l, rfl, u5⟩
 have HL1 := aRA u5
 have fH := u5.grown.size
 have wU := u5.num
 have c0 : w1.cell? ⟨q, 0, none⟩ = some (.slice (aL l 0).va 4 (aL l 0).vc) := (u5.cell 0 (by omega)).1
 have c1 : w1.cell? ⟨q, 1, none⟩ = some (.slice (aL l 0).oa (aL l 0).no (aL l 0).oc) := (u5.cell 0 (by omega)).2
 have HX := aRA (yB.weak (u5.row.crt 0 (by rw [u5.num]; omega)))
 have gN := aRA ((u5.grown.block w.heap.size mF (by intro e; injection e with e; omega)).trans rX.out)
 have E4 := aRA ((aAR nA.out).trans u5.grown)
 clear u5 HRd rX
 generalize aL l 0 = x at c0 c1 HX
 go_upto_region 2 with fail
 have eG : Below w1.heap.size w1 (w1.alloc (.cells #[.slice x.va 4 x.vc, .slice x.oa x.no x.oc] 27)) := bl
 have sA : Hid (g8 w (w1.alloc (.cells #[.slice x.va 4 x.vc, .slice x.oa x.no x.oc] 27)) B g a len cap w1.heap.size x) := ⟨bL (Below.refl _ _), (eG.block _ (by omega)).trans gN.out, ((HX.out.kept fun j _ h2 => eG.block j h2).more (by omega) eG.size), E4.out.trans (grown_of eG), HL1.out.rd.grown (V4 eG) (fun k hk => by cases hk), wW, by omega⟩
 clear c0 c1 HX gN E4 HL1 wU
 generalize w1.alloc (.cells #[.slice x.va 4 x.vc, .slice x.oa x.no x.oc] 27) = w2 at sA ⊢
 clear eG
 generalize w1.heap.size = cb at sA fH ⊢
 have kP := sA.out.crt.len
 obtain ⟨q0, q1⟩ := pair_cells sA.out.box
 clear fH nA mF
 by_cases yD : x.no = 0
 ·have sL : ((x.no : Int) == 0) = true := by rw [yD]; rfl
  clear yD
  go_wp2_with fail
  refine (aAZ w2 B g a len cap sA.out.rd 1 10 (by omega) (by omega) (by omega) 1 10 rfl rfl).mono ?_
  rintro e w3 ⟨q, c, l, rfl, wU⟩; have iG := wU.grown.size; have hwz := sA.out.grown.size; have hn3 := wU.num; have c0 : w3.cell? ⟨q, 0, none⟩ = some (.slice (aL l 0).va 4 (aL l 0).vc) := (wU.cell 0 (by omega)).1
  have c1 : w3.cell? ⟨q, 1, none⟩ = some (.slice (aL l 0).oa (aL l 0).no (aL l 0).oc) := (wU.cell 0 (by omega)).2
  have HY := aRA ((yB.weak (wU.row.crt 0 (by omega))).more (lo' := w.heap.size + 1) (hi' := w3.heap.size) (by have := (aRB sA.out.res).1; omega) aRC)
  have uL := aRA (sA.out.step wU.grown wU.rd); clear wU hn3 sA q0 q1; generalize aL l 0 = y at c0 c1 HY; obtain ⟨q0, q1⟩ := pair_cells uL.out.box; obtain ⟨g0, g1⟩ := aD uL.out.box; have HIy := aRA (uL.out.turn y HY.out)
  go_upto_region 4 with fail
  clear q0 q1 g0 g1 c0 c1 uL HY; generalize (w3.setCell ⟨cb, 0, none⟩ (.slice y.va 4 y.vc)).setCell ⟨cb, 1, none⟩ (.slice y.oa y.no y.oc) = wy at HIy ⊢; clear iG hwz
  go_wp2_with fail
  refine (nO wy B g a len cap HIy.out.rd 40 (by omega) (by omega)).mono ?_
  rintro e w4 ⟨s, hs, rfl, D5, t6⟩; have gG := aRA (HIy.out.step D5 t6); clear D5 t6 HIy hs; have hxm := gG.out.crt.len
  by_cases Z1 : s = 38
  ·subst Z1
   by_cases yD : 0 < y.no
   ·have hxi : (0 : Int) < (y.no : Int) := by omega
    obtain ⟨oa, hoe⟩ : ∃ oa, y.oa = oa := ⟨_, rfl⟩; have vV := aRA hoe; clear hoe; obtain ⟨q0, q1⟩ := pair_cells gG.out.box; have hoc := gG.out.crt.caps; rw [vV.out] at q1
    go_upto_region 7 with fail
    have hS : w4.drew.cell? ⟨cb, 0, none⟩ = some (.slice y.va 4 y.vc) ∧ w4.drew.cell? ⟨cb, 1, none⟩ = some (.slice oa y.no y.oc) := ⟨q0, q1⟩
    go_wp2_with fail
    refine wp_region_held_drew (S := fun w' => w'.cell? ⟨cb, 0, none⟩ = some (.slice y.va 4 y.vc) ∧ w'.cell? ⟨cb, 1, none⟩ = some (.slice oa y.no y.oc)) (by kernel_rfl) hS (fun aP => ?_)
    refine tj 0 ?_
    refine tj 1 ?_
    refine tj 2 ?_
    refine tj 3 ?_
    refine tj 4 ?_
    refine tj 5 ?_
    refine tj 7 ?_
    refine rk 6 rfl (fun K hK => ?_)
    go_simp
    go_at_call 76
    refine (below w4.drew B g a len cap (gG.out.rd.kept (w' := w4.drew) fun _ _ => rfl) y.no yD (by omega)).mono ?_
    rintro e z1 ⟨j, hj, rfl, cF, dI⟩; have kA : w4.grownBy z1 (some g) := ⟨cF.os, cF.tape, cF.output, cF.size, cF.block⟩; have eW := aRA (gG.out.step kA dI); have eH : z1.cell? ⟨cb, 0, none⟩ = some (.slice y.va 4 y.vc) ∧ z1.cell? ⟨cb, 1, none⟩ = some (.slice oa y.no y.oc) := ⟨(pair_cells eW.out.box).1, by rw [← vV.out]; exact (pair_cells eW.out.box).2⟩
    clear cF dI kA; refine hK.out _ _ eH (fun bZ => ?_)
    clear hK K
    (try simp only [Act.put, u1, u2, u3])
    refine rk 8 rfl (fun K hK => ?_)
    go_simp
    go_at_call 49
    refine (M8 z1 B g a len cap eW.out.rd 1 9 (by omega) (by omega) (by omega)).mono ?_
    rintro e z2 ⟨t, rfl, fI, eK⟩; have lQ := aRA (eW.out.step fI eK); have fZ : z2.cell? ⟨cb, 0, none⟩ = some (.slice y.va 4 y.vc) ∧ z2.cell? ⟨cb, 1, none⟩ = some (.slice oa y.no y.oc) := ⟨(pair_cells lQ.out.box).1, by rw [← vV.out]; exact (pair_cells lQ.out.box).2⟩
    clear fI eK; refine hK.out _ _ fZ (fun fT => ?_)
    clear hK K
    (try simp only [Act.put, u1, u2, u3])
    have hji : (j : Int) < (y.no : Int) := by omega
    have hj0 : decide ((j : Int) < 0) = false := decide_eq_false (by omega)
    have aA9 : ¬ ((j : Int) < 0) := by omega
    obtain ⟨ob, off, u, A2, ho1, ho2, ⟨ocs, wS⟩, d0, f0, A4⟩ := lQ.out.crt.stamp hj t; have gY := aRA (lQ.out.cell1 wS (by decide) (by omega) A4)
    have aEx : oa = some ⟨ob, off, none⟩ := vV.out.symm.trans A2; subst aEx; clear A4 wS hS eH A2 q0 q1 aP bZ; refine tj 9 ?_
    refine tj 10 ?_
    have iL : (z2.setCell ⟨ob, off + j * 8 + 2, none⟩ (.int .i64 t)).cell? ⟨cb, 0, none⟩ = some (.slice y.va 4 y.vc) ∧ (z2.setCell ⟨ob, off + j * 8 + 2, none⟩ (.int .i64 t)).cell? ⟨cb, 1, none⟩ = some (.slice (some ⟨ob, off, none⟩) y.no y.oc) := ⟨(pair_cells gY.out.box).1, by rw [← vV.out]; exact (pair_cells gY.out.box).2⟩
    refine rk 11 rfl (fun K hK => ?_)
    go_simp
    refine hK.out _ _ iL (fun nL => ?_)
    clear hK K
    (try simp only [Act.put, u1, u2, u3])
    refine wpAnyH_done (by kernel_rfl) ?_ _
    clear fZ iL fT d0 f0 hji hj0 aA9 vV eW lQ; generalize z2.setCell ⟨ob, off + j * 8 + 2, none⟩ (.int .i64 t) = z3 at gY ⊢; obtain ⟨q0, q1⟩ := pair_cells gY.out.box; obtain ⟨r0, r1⟩ := pair_cells gY.out.res; obtain ⟨f0, f1⟩ := aD gY.out.res; obtain ⟨bV, mY⟩ := gY.out.out; go_wp2
    generalize (z3.setCell ⟨w.heap.size, 0, none⟩ (.slice y.va 4 y.vc)).setCell ⟨w.heap.size, 1, none⟩ (.slice y.oa y.no y.oc) = wf at bV mY ⊢; obtain ⟨p0, p1⟩ := pair_cells bV.out; exact bodyPost_ret (v := .agg #[.slice y.va 4 y.vc, .slice y.oa y.no y.oc]) (by simp [results, Tryz.results39, go_sem, p0, p1]) rfl mY.out
   ·have hxi : ¬ ((0 : Int) < (y.no : Int)) := by omega
    clear yD; obtain ⟨q0, q1⟩ := pair_cells gG.out.box; obtain ⟨r0, r1⟩ := pair_cells gG.out.res; obtain ⟨f0, f1⟩ := aD gG.out.res; obtain ⟨bV, mY⟩ := gG.out.out; go_wp2
    generalize (w4.setCell ⟨w.heap.size, 0, none⟩ (.slice y.va 4 y.vc)).setCell ⟨w.heap.size, 1, none⟩ (.slice y.oa y.no y.oc) = wf at bV mY ⊢; obtain ⟨p0, p1⟩ := pair_cells bV.out; exact bodyPost_ret (v := .agg #[.slice y.va 4 y.vc, .slice y.oa y.no y.oc]) (by simp [results, Tryz.results39, go_sem, p0, p1]) rfl mY.out
  have e38 : ((s : Int) == 38) = false := by rw [beq_eq_false_iff_ne]; omega
  by_cases h39 : s = 39
  ·subst h39
   clear e38 Z1; obtain ⟨va, hve⟩ : ∃ va, y.va = va := ⟨_, rfl⟩; have B3 := aRA hve; clear hve; obtain ⟨q0, q1⟩ := pair_cells gG.out.box; rw [B3.out] at q0
   go_upto_region 9 with fail
   have hS : w4.drew.cell? ⟨cb, 0, none⟩ = some (.slice va 4 y.vc) ∧ w4.drew.cell? ⟨cb, 1, none⟩ = some (.slice y.oa y.no y.oc) := ⟨q0, q1⟩
   go_wp2_with fail
   refine wp_region_held_drew (S := fun w' => w'.cell? ⟨cb, 0, none⟩ = some (.slice va 4 y.vc) ∧ w'.cell? ⟨cb, 1, none⟩ = some (.slice y.oa y.no y.oc)) (by kernel_rfl) hS (fun aP => ?_)
   refine tj 0 ?_
   refine tj 1 ?_
   refine tj 2 ?_
   refine rk 3 rfl (fun K hK => ?_)
   go_simp
   go_at_call 49
   refine (M8 w4.drew B g a len cap (gG.out.rd.kept (w' := w4.drew) fun _ _ => rfl) 0 5 (by omega) (by omega) (by omega)).mono ?_
   rintro e z2 ⟨t, rfl, cF, dI⟩; have kA : w4.grownBy z2 (some g) := ⟨cF.os, cF.tape, cF.output, cF.size, cF.block⟩; have lQ := aRA (gG.out.step kA dI); have fZ : z2.cell? ⟨cb, 0, none⟩ = some (.slice va 4 y.vc) ∧ z2.cell? ⟨cb, 1, none⟩ = some (.slice y.oa y.no y.oc) := ⟨by rw [← B3.out]; exact (pair_cells lQ.out.box).1, (pair_cells lQ.out.box).2⟩
   clear cF dI kA; refine hK.out _ _ fZ (fun bZ => ?_)
   clear hK K
   (try simp only [Act.put, u1, u2, u3])
   obtain ⟨vb, u, N2, ho1, ho2, ⟨ocs, wS⟩, d0, f0, A4⟩ := lQ.out.crt.vec t; have gY := aRA (lQ.out.cell1 wS (by decide) (by omega) A4)
   have aEr : va = some ⟨vb, 0, none⟩ := B3.out.symm.trans N2; subst aEr; clear A4 wS hS N2 q0 q1 aP; refine tj 4 ?_
   have iL : (z2.setCell ⟨vb, 0, none⟩ (.int .i64 t)).cell? ⟨cb, 0, none⟩ = some (.slice (some ⟨vb, 0, none⟩) 4 y.vc) ∧ (z2.setCell ⟨vb, 0, none⟩ (.int .i64 t)).cell? ⟨cb, 1, none⟩ = some (.slice y.oa y.no y.oc) := ⟨by rw [← B3.out]; exact (pair_cells gY.out.box).1, (pair_cells gY.out.box).2⟩
   refine rk 5 rfl (fun K hK => ?_)
   go_simp
   refine hK.out _ _ iL (fun nL => ?_)
   clear hK K
   (try simp only [Act.put, u1, u2, u3])
   refine wpAnyH_done (by kernel_rfl) ?_ _
   clear fZ iL bZ d0 f0 B3 lQ; generalize z2.setCell ⟨vb, 0, none⟩ (.int .i64 t) = z3 at gY ⊢; obtain ⟨q0, q1⟩ := pair_cells gY.out.box; obtain ⟨r0, r1⟩ := pair_cells gY.out.res; obtain ⟨f0, f1⟩ := aD gY.out.res; obtain ⟨bV, mY⟩ := gY.out.out; go_wp2
   generalize (z3.setCell ⟨w.heap.size, 0, none⟩ (.slice y.va 4 y.vc)).setCell ⟨w.heap.size, 1, none⟩ (.slice y.oa y.no y.oc) = wf at bV mY ⊢; obtain ⟨p0, p1⟩ := pair_cells bV.out; exact bodyPost_ret (v := .agg #[.slice y.va 4 y.vc, .slice y.oa y.no y.oc]) (by simp [results, Tryz.results39, go_sem, p0, p1]) rfl mY.out
  have e39 : ((s : Int) == 39) = false := by rw [beq_eq_false_iff_ne]; omega
  clear Z1 h39; obtain ⟨q0, q1⟩ := pair_cells gG.out.box; obtain ⟨r0, r1⟩ := pair_cells gG.out.res; obtain ⟨f0, f1⟩ := aD gG.out.res; obtain ⟨bV, mY⟩ := gG.out.out; go_wp2
  generalize (w4.setCell ⟨w.heap.size, 0, none⟩ (.slice y.va 4 y.vc)).setCell ⟨w.heap.size, 1, none⟩ (.slice y.oa y.no y.oc) = wf at bV mY ⊢; obtain ⟨p0, p1⟩ := pair_cells bV.out; exact bodyPost_ret (v := .agg #[.slice y.va 4 y.vc, .slice y.oa y.no y.oc]) (by simp [results, Tryz.results39, go_sem, p0, p1]) rfl mY.out
 have sL : ((x.no : Int) == 0) = false := by rw [beq_eq_false_iff_ne]; omega
 go_wp2_with fail
 refine (aCm w2 B g a len cap sA.out.rd 3 (by omega) (by omega)).mono ?_
 rintro e wo ⟨o1, rfl, hgo, hro⟩
 have HIo := aRA (sA.out.step hgo hro)
 clear hgo hro sA q0 q1
 obtain ⟨q0, q1⟩ := pair_cells HIo.out.box
 cases o1
 rotate_left
 ·skip
  go_wp2_with fail
  refine (aAZ wo B g a len cap HIo.out.rd 1 10 (by omega) (by omega) (by omega) 1 10 rfl rfl).mono ?_
  rintro e w3 ⟨q, c, l, rfl, wU⟩; have iG := wU.grown.size; have hwz := HIo.out.grown.size; have hn3 := wU.num; have c0 : w3.cell? ⟨q, 0, none⟩ = some (.slice (aL l 0).va 4 (aL l 0).vc) := (wU.cell 0 (by omega)).1
  have c1 : w3.cell? ⟨q, 1, none⟩ = some (.slice (aL l 0).oa (aL l 0).no (aL l 0).oc) := (wU.cell 0 (by omega)).2
  have HY := aRA ((yB.weak (wU.row.crt 0 (by omega))).more (lo' := w.heap.size + 1) (hi' := w3.heap.size) (by have := (aRB HIo.out.res).1; omega) aRC)
  have uL := aRA (HIo.out.step wU.grown wU.rd); clear wU hn3 HIo q0 q1; generalize aL l 0 = y at c0 c1 HY; obtain ⟨q0, q1⟩ := pair_cells uL.out.box; obtain ⟨g0, g1⟩ := aD uL.out.box; have HIy := aRA (uL.out.turn y HY.out)
  go_upto_region 4 with fail
  clear q0 q1 g0 g1 c0 c1 uL HY; generalize (w3.setCell ⟨cb, 0, none⟩ (.slice y.va 4 y.vc)).setCell ⟨cb, 1, none⟩ (.slice y.oa y.no y.oc) = wy at HIy ⊢; clear iG hwz
  go_wp2_with fail
  refine (nO wy B g a len cap HIy.out.rd 40 (by omega) (by omega)).mono ?_
  rintro e w4 ⟨s, hs, rfl, D5, t6⟩; have gG := aRA (HIy.out.step D5 t6); clear D5 t6 HIy hs; have hxm := gG.out.crt.len
  by_cases Z1 : s = 38
  ·subst Z1
   by_cases yD : 0 < y.no
   ·have hxi : (0 : Int) < (y.no : Int) := by omega
    obtain ⟨oa, hoe⟩ : ∃ oa, y.oa = oa := ⟨_, rfl⟩; have vV := aRA hoe; clear hoe; obtain ⟨q0, q1⟩ := pair_cells gG.out.box; have hoc := gG.out.crt.caps; rw [vV.out] at q1
    go_upto_region 7 with fail
    have hS : w4.drew.cell? ⟨cb, 0, none⟩ = some (.slice y.va 4 y.vc) ∧ w4.drew.cell? ⟨cb, 1, none⟩ = some (.slice oa y.no y.oc) := ⟨q0, q1⟩
    go_wp2_with fail
    refine wp_region_held_drew (S := fun w' => w'.cell? ⟨cb, 0, none⟩ = some (.slice y.va 4 y.vc) ∧ w'.cell? ⟨cb, 1, none⟩ = some (.slice oa y.no y.oc)) (by kernel_rfl) hS (fun aP => ?_)
    refine tj 0 ?_
    refine tj 1 ?_
    refine tj 2 ?_
    refine tj 3 ?_
    refine tj 4 ?_
    refine tj 5 ?_
    refine tj 7 ?_
    refine rk 6 rfl (fun K hK => ?_)
    go_simp
    go_at_call 76
    refine (below w4.drew B g a len cap (gG.out.rd.kept (w' := w4.drew) fun _ _ => rfl) y.no yD (by omega)).mono ?_
    rintro e z1 ⟨j, hj, rfl, cF, dI⟩; have kA : w4.grownBy z1 (some g) := ⟨cF.os, cF.tape, cF.output, cF.size, cF.block⟩; have eW := aRA (gG.out.step kA dI); have eH : z1.cell? ⟨cb, 0, none⟩ = some (.slice y.va 4 y.vc) ∧ z1.cell? ⟨cb, 1, none⟩ = some (.slice oa y.no y.oc) := ⟨(pair_cells eW.out.box).1, by rw [← vV.out]; exact (pair_cells eW.out.box).2⟩
    clear cF dI kA; refine hK.out _ _ eH (fun bZ => ?_)
    clear hK K
    (try simp only [Act.put, u1, u2, u3])
    refine rk 8 rfl (fun K hK => ?_)
    go_simp
    go_at_call 49
    refine (M8 z1 B g a len cap eW.out.rd 1 9 (by omega) (by omega) (by omega)).mono ?_
    rintro e z2 ⟨t, rfl, fI, eK⟩; have lQ := aRA (eW.out.step fI eK); have fZ : z2.cell? ⟨cb, 0, none⟩ = some (.slice y.va 4 y.vc) ∧ z2.cell? ⟨cb, 1, none⟩ = some (.slice oa y.no y.oc) := ⟨(pair_cells lQ.out.box).1, by rw [← vV.out]; exact (pair_cells lQ.out.box).2⟩
    clear fI eK; refine hK.out _ _ fZ (fun fT => ?_)
    clear hK K
    (try simp only [Act.put, u1, u2, u3])
    have hji : (j : Int) < (y.no : Int) := by omega
    have hj0 : decide ((j : Int) < 0) = false := decide_eq_false (by omega)
    have aA9 : ¬ ((j : Int) < 0) := by omega
    obtain ⟨ob, off, u, A2, ho1, ho2, ⟨ocs, wS⟩, d0, f0, A4⟩ := lQ.out.crt.stamp hj t; have gY := aRA (lQ.out.cell1 wS (by decide) (by omega) A4)
    have aEx : oa = some ⟨ob, off, none⟩ := vV.out.symm.trans A2; subst aEx; clear A4 wS hS eH A2 q0 q1 aP bZ; refine tj 9 ?_
    refine tj 10 ?_
    have iL : (z2.setCell ⟨ob, off + j * 8 + 2, none⟩ (.int .i64 t)).cell? ⟨cb, 0, none⟩ = some (.slice y.va 4 y.vc) ∧ (z2.setCell ⟨ob, off + j * 8 + 2, none⟩ (.int .i64 t)).cell? ⟨cb, 1, none⟩ = some (.slice (some ⟨ob, off, none⟩) y.no y.oc) := ⟨(pair_cells gY.out.box).1, by rw [← vV.out]; exact (pair_cells gY.out.box).2⟩
    refine rk 11 rfl (fun K hK => ?_)
    go_simp
    refine hK.out _ _ iL (fun nL => ?_)
    clear hK K
    (try simp only [Act.put, u1, u2, u3])
    refine wpAnyH_done (by kernel_rfl) ?_ _
    clear fZ iL fT d0 f0 hji hj0 aA9 vV eW lQ; generalize z2.setCell ⟨ob, off + j * 8 + 2, none⟩ (.int .i64 t) = z3 at gY ⊢; obtain ⟨q0, q1⟩ := pair_cells gY.out.box; obtain ⟨r0, r1⟩ := pair_cells gY.out.res; obtain ⟨f0, f1⟩ := aD gY.out.res; obtain ⟨bV, mY⟩ := gY.out.out; go_wp2
    generalize (z3.setCell ⟨w.heap.size, 0, none⟩ (.slice y.va 4 y.vc)).setCell ⟨w.heap.size, 1, none⟩ (.slice y.oa y.no y.oc) = wf at bV mY ⊢; obtain ⟨p0, p1⟩ := pair_cells bV.out; exact bodyPost_ret (v := .agg #[.slice y.va 4 y.vc, .slice y.oa y.no y.oc]) (by simp [results, Tryz.results39, go_sem, p0, p1]) rfl mY.out
   ·have hxi : ¬ ((0 : Int) < (y.no : Int)) := by omega
    clear yD; obtain ⟨q0, q1⟩ := pair_cells gG.out.box; obtain ⟨r0, r1⟩ := pair_cells gG.out.res; obtain ⟨f0, f1⟩ := aD gG.out.res; obtain ⟨bV, mY⟩ := gG.out.out; go_wp2
    generalize (w4.setCell ⟨w.heap.size, 0, none⟩ (.slice y.va 4 y.vc)).setCell ⟨w.heap.size, 1, none⟩ (.slice y.oa y.no y.oc) = wf at bV mY ⊢; obtain ⟨p0, p1⟩ := pair_cells bV.out; exact bodyPost_ret (v := .agg #[.slice y.va 4 y.vc, .slice y.oa y.no y.oc]) (by simp [results, Tryz.results39, go_sem, p0, p1]) rfl mY.out
  have e38 : ((s : Int) == 38) = false := by rw [beq_eq_false_iff_ne]; omega
  by_cases h39 : s = 39
  ·subst h39
   clear e38 Z1; obtain ⟨va, hve⟩ : ∃ va, y.va = va := ⟨_, rfl⟩; have B3 := aRA hve; clear hve; obtain ⟨q0, q1⟩ := pair_cells gG.out.box; rw [B3.out] at q0
   go_upto_region 9 with fail
   have hS : w4.drew.cell? ⟨cb, 0, none⟩ = some (.slice va 4 y.vc) ∧ w4.drew.cell? ⟨cb, 1, none⟩ = some (.slice y.oa y.no y.oc) := ⟨q0, q1⟩
   go_wp2_with fail
   refine wp_region_held_drew (S := fun w' => w'.cell? ⟨cb, 0, none⟩ = some (.slice va 4 y.vc) ∧ w'.cell? ⟨cb, 1, none⟩ = some (.slice y.oa y.no y.oc)) (by kernel_rfl) hS (fun aP => ?_)
   refine tj 0 ?_
   refine tj 1 ?_
   refine tj 2 ?_
   refine rk 3 rfl (fun K hK => ?_)
   go_simp
   go_at_call 49
   refine (M8 w4.drew B g a len cap (gG.out.rd.kept (w' := w4.drew) fun _ _ => rfl) 0 5 (by omega) (by omega) (by omega)).mono ?_
   rintro e z2 ⟨t, rfl, cF, dI⟩; have kA : w4.grownBy z2 (some g) := ⟨cF.os, cF.tape, cF.output, cF.size, cF.block⟩; have lQ := aRA (gG.out.step kA dI); have fZ : z2.cell? ⟨cb, 0, none⟩ = some (.slice va 4 y.vc) ∧ z2.cell? ⟨cb, 1, none⟩ = some (.slice y.oa y.no y.oc) := ⟨by rw [← B3.out]; exact (pair_cells lQ.out.box).1, (pair_cells lQ.out.box).2⟩
   clear cF dI kA; refine hK.out _ _ fZ (fun bZ => ?_)
   clear hK K
   (try simp only [Act.put, u1, u2, u3])
   obtain ⟨vb, u, N2, ho1, ho2, ⟨ocs, wS⟩, d0, f0, A4⟩ := lQ.out.crt.vec t; have gY := aRA (lQ.out.cell1 wS (by decide) (by omega) A4)
   have aEr : va = some ⟨vb, 0, none⟩ := B3.out.symm.trans N2; subst aEr; clear A4 wS hS N2 q0 q1 aP; refine tj 4 ?_
   have iL : (z2.setCell ⟨vb, 0, none⟩ (.int .i64 t)).cell? ⟨cb, 0, none⟩ = some (.slice (some ⟨vb, 0, none⟩) 4 y.vc) ∧ (z2.setCell ⟨vb, 0, none⟩ (.int .i64 t)).cell? ⟨cb, 1, none⟩ = some (.slice y.oa y.no y.oc) := ⟨by rw [← B3.out]; exact (pair_cells gY.out.box).1, (pair_cells gY.out.box).2⟩
   refine rk 5 rfl (fun K hK => ?_)
   go_simp
   refine hK.out _ _ iL (fun nL => ?_)
   clear hK K
   (try simp only [Act.put, u1, u2, u3])
   refine wpAnyH_done (by kernel_rfl) ?_ _
   clear fZ iL bZ d0 f0 B3 lQ; generalize z2.setCell ⟨vb, 0, none⟩ (.int .i64 t) = z3 at gY ⊢; obtain ⟨q0, q1⟩ := pair_cells gY.out.box; obtain ⟨r0, r1⟩ := pair_cells gY.out.res; obtain ⟨f0, f1⟩ := aD gY.out.res; obtain ⟨bV, mY⟩ := gY.out.out; go_wp2
   generalize (z3.setCell ⟨w.heap.size, 0, none⟩ (.slice y.va 4 y.vc)).setCell ⟨w.heap.size, 1, none⟩ (.slice y.oa y.no y.oc) = wf at bV mY ⊢; obtain ⟨p0, p1⟩ := pair_cells bV.out; exact bodyPost_ret (v := .agg #[.slice y.va 4 y.vc, .slice y.oa y.no y.oc]) (by simp [results, Tryz.results39, go_sem, p0, p1]) rfl mY.out
  have e39 : ((s : Int) == 39) = false := by rw [beq_eq_false_iff_ne]; omega
  clear Z1 h39; obtain ⟨q0, q1⟩ := pair_cells gG.out.box; obtain ⟨r0, r1⟩ := pair_cells gG.out.res; obtain ⟨f0, f1⟩ := aD gG.out.res; obtain ⟨bV, mY⟩ := gG.out.out; go_wp2
  generalize (w4.setCell ⟨w.heap.size, 0, none⟩ (.slice y.va 4 y.vc)).setCell ⟨w.heap.size, 1, none⟩ (.slice y.oa y.no y.oc) = wf at bV mY ⊢; obtain ⟨p0, p1⟩ := pair_cells bV.out; exact bodyPost_ret (v := .agg #[.slice y.va 4 y.vc, .slice y.oa y.no y.oc]) (by simp [results, Tryz.results39, go_sem, p0, p1]) rfl mY.out
 go_upto_region 4 with fail
 clear q0 q1 sL
 go_wp2_with fail
 refine (nO wo B g a len cap HIo.out.rd 40 (by omega) (by omega)).mono ?_
 rintro e w4 ⟨s, hs, rfl, D5, t6⟩
 have gG := aRA (HIo.out.step D5 t6)
 clear D5 t6 HIo hs
 have hxm := gG.out.crt.len
 by_cases Z1 : s = 38
 ·subst Z1
  by_cases yD : 0 < x.no
  ·have hxi : (0 : Int) < (x.no : Int) := by omega
   obtain ⟨oa, hoe⟩ : ∃ oa, x.oa = oa := ⟨_, rfl⟩; have vV := aRA hoe; clear hoe; obtain ⟨q0, q1⟩ := pair_cells gG.out.box; have hoc := gG.out.crt.caps; rw [vV.out] at q1
   go_upto_region 7 with fail
   have hS : w4.drew.cell? ⟨cb, 0, none⟩ = some (.slice x.va 4 x.vc) ∧ w4.drew.cell? ⟨cb, 1, none⟩ = some (.slice oa x.no x.oc) := ⟨q0, q1⟩
   go_wp2_with fail
   refine wp_region_held_drew (S := fun w' => w'.cell? ⟨cb, 0, none⟩ = some (.slice x.va 4 x.vc) ∧ w'.cell? ⟨cb, 1, none⟩ = some (.slice oa x.no x.oc)) (by kernel_rfl) hS (fun aP => ?_)
   refine tj 0 ?_
   refine tj 1 ?_
   refine tj 2 ?_
   refine tj 3 ?_
   refine tj 4 ?_
   refine tj 5 ?_
   refine tj 7 ?_
   refine rk 6 rfl (fun K hK => ?_)
   go_simp
   go_at_call 76
   refine (below w4.drew B g a len cap (gG.out.rd.kept (w' := w4.drew) fun _ _ => rfl) x.no yD (by omega)).mono ?_
   rintro e z1 ⟨j, hj, rfl, cF, dI⟩; have kA : w4.grownBy z1 (some g) := ⟨cF.os, cF.tape, cF.output, cF.size, cF.block⟩; have eW := aRA (gG.out.step kA dI); have eH : z1.cell? ⟨cb, 0, none⟩ = some (.slice x.va 4 x.vc) ∧ z1.cell? ⟨cb, 1, none⟩ = some (.slice oa x.no x.oc) := ⟨(pair_cells eW.out.box).1, by rw [← vV.out]; exact (pair_cells eW.out.box).2⟩
   clear cF dI kA; refine hK.out _ _ eH (fun bZ => ?_)
   clear hK K
   (try simp only [Act.put, u1, u2, u3])
   refine rk 8 rfl (fun K hK => ?_)
   go_simp
   go_at_call 49
   refine (M8 z1 B g a len cap eW.out.rd 1 9 (by omega) (by omega) (by omega)).mono ?_
   rintro e z2 ⟨t, rfl, fI, eK⟩; have lQ := aRA (eW.out.step fI eK); have fZ : z2.cell? ⟨cb, 0, none⟩ = some (.slice x.va 4 x.vc) ∧ z2.cell? ⟨cb, 1, none⟩ = some (.slice oa x.no x.oc) := ⟨(pair_cells lQ.out.box).1, by rw [← vV.out]; exact (pair_cells lQ.out.box).2⟩
   clear fI eK; refine hK.out _ _ fZ (fun fT => ?_)
   clear hK K
   (try simp only [Act.put, u1, u2, u3])
   have hji : (j : Int) < (x.no : Int) := by omega
   have hj0 : decide ((j : Int) < 0) = false := decide_eq_false (by omega)
   have aA9 : ¬ ((j : Int) < 0) := by omega
   obtain ⟨ob, off, u, A2, ho1, ho2, ⟨ocs, wS⟩, d0, f0, A4⟩ := lQ.out.crt.stamp hj t; have gY := aRA (lQ.out.cell1 wS (by decide) (by omega) A4)
   have aEx : oa = some ⟨ob, off, none⟩ := vV.out.symm.trans A2; subst aEx; clear A4 wS hS eH A2 q0 q1 aP bZ; refine tj 9 ?_
   refine tj 10 ?_
   have iL : (z2.setCell ⟨ob, off + j * 8 + 2, none⟩ (.int .i64 t)).cell? ⟨cb, 0, none⟩ = some (.slice x.va 4 x.vc) ∧ (z2.setCell ⟨ob, off + j * 8 + 2, none⟩ (.int .i64 t)).cell? ⟨cb, 1, none⟩ = some (.slice (some ⟨ob, off, none⟩) x.no x.oc) := ⟨(pair_cells gY.out.box).1, by rw [← vV.out]; exact (pair_cells gY.out.box).2⟩
   refine rk 11 rfl (fun K hK => ?_)
   go_simp
   refine hK.out _ _ iL (fun nL => ?_)
   clear hK K
   (try simp only [Act.put, u1, u2, u3])
   refine wpAnyH_done (by kernel_rfl) ?_ _
   clear fZ iL fT d0 f0 hji hj0 aA9 vV eW lQ; generalize z2.setCell ⟨ob, off + j * 8 + 2, none⟩ (.int .i64 t) = z3 at gY ⊢; obtain ⟨q0, q1⟩ := pair_cells gY.out.box; obtain ⟨r0, r1⟩ := pair_cells gY.out.res; obtain ⟨f0, f1⟩ := aD gY.out.res; obtain ⟨bV, mY⟩ := gY.out.out; go_wp2
   generalize (z3.setCell ⟨w.heap.size, 0, none⟩ (.slice x.va 4 x.vc)).setCell ⟨w.heap.size, 1, none⟩ (.slice x.oa x.no x.oc) = wf at bV mY ⊢; obtain ⟨p0, p1⟩ := pair_cells bV.out; exact bodyPost_ret (v := .agg #[.slice x.va 4 x.vc, .slice x.oa x.no x.oc]) (by simp [results, Tryz.results39, go_sem, p0, p1]) rfl mY.out
  ·omega
 have e38 : ((s : Int) == 38) = false := by rw [beq_eq_false_iff_ne]; omega
 by_cases h39 : s = 39
 ·subst h39
  clear e38 Z1; obtain ⟨va, hve⟩ : ∃ va, x.va = va := ⟨_, rfl⟩; have B3 := aRA hve; clear hve; obtain ⟨q0, q1⟩ := pair_cells gG.out.box; rw [B3.out] at q0
  go_upto_region 9 with fail
  have hS : w4.drew.cell? ⟨cb, 0, none⟩ = some (.slice va 4 x.vc) ∧ w4.drew.cell? ⟨cb, 1, none⟩ = some (.slice x.oa x.no x.oc) := ⟨q0, q1⟩
  go_wp2_with fail
  refine wp_region_held_drew (S := fun w' => w'.cell? ⟨cb, 0, none⟩ = some (.slice va 4 x.vc) ∧ w'.cell? ⟨cb, 1, none⟩ = some (.slice x.oa x.no x.oc)) (by kernel_rfl) hS (fun aP => ?_)
  refine tj 0 ?_
  refine tj 1 ?_
  refine tj 2 ?_
  refine rk 3 rfl (fun K hK => ?_)
  go_simp
  go_at_call 49
  refine (M8 w4.drew B g a len cap (gG.out.rd.kept (w' := w4.drew) fun _ _ => rfl) 0 5 (by omega) (by omega) (by omega)).mono ?_
  rintro e z2 ⟨t, rfl, cF, dI⟩; have kA : w4.grownBy z2 (some g) := ⟨cF.os, cF.tape, cF.output, cF.size, cF.block⟩; have lQ := aRA (gG.out.step kA dI); have fZ : z2.cell? ⟨cb, 0, none⟩ = some (.slice va 4 x.vc) ∧ z2.cell? ⟨cb, 1, none⟩ = some (.slice x.oa x.no x.oc) := ⟨by rw [← B3.out]; exact (pair_cells lQ.out.box).1, (pair_cells lQ.out.box).2⟩
  clear cF dI kA; refine hK.out _ _ fZ (fun bZ => ?_)
  clear hK K
  (try simp only [Act.put, u1, u2, u3])
  obtain ⟨vb, u, N2, ho1, ho2, ⟨ocs, wS⟩, d0, f0, A4⟩ := lQ.out.crt.vec t; have gY := aRA (lQ.out.cell1 wS (by decide) (by omega) A4)
  have aEr : va = some ⟨vb, 0, none⟩ := B3.out.symm.trans N2; subst aEr; clear A4 wS hS N2 q0 q1 aP; refine tj 4 ?_
  have iL : (z2.setCell ⟨vb, 0, none⟩ (.int .i64 t)).cell? ⟨cb, 0, none⟩ = some (.slice (some ⟨vb, 0, none⟩) 4 x.vc) ∧ (z2.setCell ⟨vb, 0, none⟩ (.int .i64 t)).cell? ⟨cb, 1, none⟩ = some (.slice x.oa x.no x.oc) := ⟨by rw [← B3.out]; exact (pair_cells gY.out.box).1, (pair_cells gY.out.box).2⟩
  refine rk 5 rfl (fun K hK => ?_)
  go_simp
  refine hK.out _ _ iL (fun nL => ?_)
  clear hK K
  (try simp only [Act.put, u1, u2, u3])
  refine wpAnyH_done (by kernel_rfl) ?_ _
  clear fZ iL bZ d0 f0 B3 lQ; generalize z2.setCell ⟨vb, 0, none⟩ (.int .i64 t) = z3 at gY ⊢; obtain ⟨q0, q1⟩ := pair_cells gY.out.box; obtain ⟨r0, r1⟩ := pair_cells gY.out.res; obtain ⟨f0, f1⟩ := aD gY.out.res; obtain ⟨bV, mY⟩ := gY.out.out; go_wp2
  generalize (z3.setCell ⟨w.heap.size, 0, none⟩ (.slice x.va 4 x.vc)).setCell ⟨w.heap.size, 1, none⟩ (.slice x.oa x.no x.oc) = wf at bV mY ⊢; obtain ⟨p0, p1⟩ := pair_cells bV.out; exact bodyPost_ret (v := .agg #[.slice x.va 4 x.vc, .slice x.oa x.no x.oc]) (by simp [results, Tryz.results39, go_sem, p0, p1]) rfl mY.out
 have e39 : ((s : Int) == 39) = false := by rw [beq_eq_false_iff_ne]; omega
 clear Z1 h39
 obtain ⟨q0, q1⟩ := pair_cells gG.out.box
 obtain ⟨r0, r1⟩ := pair_cells gG.out.res
 obtain ⟨f0, f1⟩ := aD gG.out.res
 obtain ⟨bV, mY⟩ := gG.out.out
 go_wp2
 generalize (w4.setCell ⟨w.heap.size, 0, none⟩ (.slice x.va 4 x.vc)).setCell ⟨w.heap.size, 1, none⟩ (.slice x.oa x.no x.oc) = wf at bV mY ⊢
 obtain ⟨p0, p1⟩ := pair_cells bV.out
 exact bodyPost_ret (v := .agg #[.slice x.va 4 x.vc, .slice x.oa x.no x.oc]) (by simp [results, Tryz.results39, go_sem, p0, p1]) rfl mY.out
set_option linter.unusedVariables false
set_option linter.unusedSimpArgs false

/-- A cart's block and a command's block for results, laid first, beside a reader. -/
structure Di (w wr : World) (B g : Nat) (a : Option Addr) (len cap : Nat) (u v : Array Value) : Prop where
 ra : wr.heap[w.heap.size]? = some (.cells u 27 (0, 0))
 rb : wr.heap[w.heap.size + 1]? = some (.cells v 29 (0, 0))
 bel : Below w.heap.size w wr
 rd : Rd wr B g a len cap
 glt : w.heap.size + 1 < g
theorem Di.step {w wr w1 : World} {B g : Nat} {a : Option Addr} {len cap : Nat} {u v : Array Value} (h : Di w wr B g a len cap u v) (hg : wr.grownBy w1 (some g)) (hr : Rd w1 B g a len cap) : Di w w1 B g a len cap u v := by
 have wW := h.glt
 have hs := h.bel.size
 have hk : ∀ j, j < wr.heap.size → j ≠ g → w1.heap[j]? = wr.heap[j]? := fun j h1 h2 => hg.block j h1 (by intro e; injection e with e; exact h2 e)
 exact ⟨(hk _ (aRB h.ra).1 (by omega)).trans h.ra, (hk _ (aRB h.rb).1 (by omega)).trans h.rb, h.bel.grown hg hs (fun k hk => by cases hk; omega), hr, wW⟩
theorem Di.box {w wr : World} {B g : Nat} {a : Option Addr} {len cap : Nat} {u v : Array Value} (h : Di w wr B g a len cap u v) (ob : Obj) : Di w (wr.alloc ob) B g a len cap u v := by
 have eG : Below wr.heap.size wr (wr.alloc ob) := bl
 exact h.step (grown_of eG) (h.rd.grown (V4 eG) fun k hk => by cases hk)
theorem Di.mk0 (w : World) : (((w.alloc (.cells #[.slice none 0 0, .slice none 0 0] 27)).alloc (.cells #[.int .i64 0, .string ⟨#[]⟩, .int .i64 0, .int .i64 0, .int .i64 0] 29)).heap[w.heap.size]? = some (.cells #[.slice none 0 0, .slice none 0 0] 27 (0, 0))) ∧ (((w.alloc (.cells #[.slice none 0 0, .slice none 0 0] 27)).alloc (.cells #[.int .i64 0, .string ⟨#[]⟩, .int .i64 0, .int .i64 0, .int .i64 0] 29)).heap[w.heap.size + 1]? = some (.cells #[.int .i64 0, .string ⟨#[]⟩, .int .i64 0, .int .i64 0, .int .i64 0] 29 (0, 0))) ∧ Below w.heap.size w ((w.alloc (.cells #[.slice none 0 0, .slice none 0 0] 27)).alloc (.cells #[.int .i64 0, .string ⟨#[]⟩, .int .i64 0, .int .i64 0, .int .i64 0] 29)) ∧ ((w.alloc (.cells #[.slice none 0 0, .slice none 0 0] 27)).alloc (.cells #[.int .i64 0, .string ⟨#[]⟩, .int .i64 0, .int .i64 0, .int .i64 0] 29)).heap.size = w.heap.size + 2 := by
 have e1 : (w.alloc (.cells #[.slice none 0 0, .slice none 0 0] 27)).heap.size = w.heap.size + 1 := by simp
 refine ⟨(Below.heap_alloc _ _ _ (by omega)).trans (heap_alloc_new _ _), ?_, ((Below.refl _ w).alloc aRC _).alloc (by simp) _, by simp⟩
 rw [← e1]; exact heap_alloc_new _ _
theorem aMc {w : World} {b : Nat} {c0 c1 c2 c3 c4 v0 v1 v2 v3 v4 : Value} {T : TypeId} (h : w.heap[b]? = some (.cells #[c0, c1, c2, c3, c4] T (0, 0))) :
  (((((w.setCell ⟨b, 0, none⟩ v0).setCell ⟨b, 1, none⟩ v1).setCell ⟨b, 2, none⟩ v2).setCell ⟨b, 3, none⟩ v3).setCell ⟨b, 4, none⟩ v4).heap[b]? = some (.cells #[v0, v1, v2, v3, v4] T (0, 0)) :=
 heap_setCell_same _ _ _ _ _ _ (heap_setCell_same _ _ _ _ _ _ (heap_setCell_same _ _ _ _ _ _ (heap_setCell_same _ _ _ _ _ _ (heap_setCell_same _ _ _ _ _ _ h))))
theorem aAB {w : World} {b k : Nat} {v0 v1 v2 v3 v4 : Value} (h : k ≠ b) : (((((w.setCell ⟨b, 0, none⟩ v0).setCell ⟨b, 1, none⟩ v1).setCell ⟨b, 2, none⟩ v2).setCell ⟨b, 3, none⟩ v3).setCell ⟨b, 4, none⟩ v4).heap[k]? = w.heap[k]? := by
 rw [heap_setCell_other _ _ _ _ h, heap_setCell_other _ _ _ _ h, heap_setCell_other _ _ _ _ h, heap_setCell_other _ _ _ _ h, heap_setCell_other _ _ _ _ h]
theorem aMb (w : World) (b : Nat) (v0 v1 v2 v3 v4 : Value) : (((((w.setCell ⟨b, 0, none⟩ v0).setCell ⟨b, 1, none⟩ v1).setCell ⟨b, 2, none⟩ v2).setCell ⟨b, 3, none⟩ v3).setCell ⟨b, 4, none⟩ v4).heap.size = w.heap.size := by simp [World.setCell]
theorem aMf {B : Nat} {w0 w : World} {b : Nat} {v0 v1 v2 v3 v4 : Value} (h : Below B w0 w) (hb : B ≤ b) : Below B w0 (((((w.setCell ⟨b, 0, none⟩ v0).setCell ⟨b, 1, none⟩ v1).setCell ⟨b, 2, none⟩ v2).setCell ⟨b, 3, none⟩ v3).setCell ⟨b, 4, none⟩ v4) :=
 ((((h.setCell (p := ⟨b, 0, none⟩) hb _).setCell (p := ⟨b, 1, none⟩) hb _).setCell (p := ⟨b, 2, none⟩) hb _).setCell (p := ⟨b, 3, none⟩) hb _).setCell (p := ⟨b, 4, none⟩) hb _
theorem aMe {w : World} {b : Nat} {cs : Array Value} {T : TypeId} (h : w.heap[b]? = some (.cells cs T (0, 0))) : w.frozen? ⟨b, 0, none⟩ = false ∧ w.frozen? ⟨b, 1, none⟩ = false ∧ w.frozen? ⟨b, 2, none⟩ = false ∧ w.frozen? ⟨b, 3, none⟩ = false ∧ w.frozen? ⟨b, 4, none⟩ = false :=
 ⟨aRE h, aRE h, aRE h, aRE h, aRE h⟩
theorem dN {w : World} {b : Nat} {v0 v1 v2 v3 v4 : Value} {T : TypeId} {fr : Nat × Nat} (h : w.heap[b]? = some (.cells #[v0, v1, v2, v3, v4] T fr)) : w.cell? ⟨b, 0, none⟩ = some v0 ∧ w.cell? ⟨b, 1, none⟩ = some v1 ∧ w.cell? ⟨b, 2, none⟩ = some v2 ∧ w.cell? ⟨b, 3, none⟩ = some v3 ∧ w.cell? ⟨b, 4, none⟩ = some v4 :=
 ⟨aRD h, aRD h, aRD h, aRD h, aRD h⟩
theorem nU.otherM {w w' : World} {lo hi q : Nat} {x : cI} {cs : Array Value} {fr : Nat × Nat} (h : nU w lo hi x) (hq : w.heap[q]? = some (.cells cs 29 fr)) (hk : ∀ j, lo ≤ j → j < hi → j ≠ q → w'.heap[j]? = w.heap[j]?) : nU w' lo hi x := by
 obtain ⟨zs, m, e, a, b, c⟩ := h
 refine ⟨zs, m, e, ⟨a.1, fun hn => ?_⟩, ⟨b.1, fun hn => ?_⟩, c⟩
 ·obtain ⟨g, aX, e1, h1, h2, hg, hc⟩ := a.2 hn
  have bH : g ≠ q := by
   intro e2
   rw [e2, hq] at hg; injection hg with hg; injection hg with _ hg; exact absurd hg (by decide)
  exact ⟨g, aX, e1, h1, h2, (hk g h1 h2 bH).trans hg, hc⟩
 ·obtain ⟨g, off, aX, e1, h1, h2, hg, hs, hc⟩ := b.2 hn
  have bH : g ≠ q := by
   intro e2
   rw [e2, hq] at hg; injection hg with hg; injection hg with _ hg; exact absurd hg (by decide)
  exact ⟨g, off, aX, e1, h1, h2, (hk g h1 h2 bH).trans hg, hs, hc⟩
def aKJ (w : World) (e : Ending) (w' : World) : Prop :=
 ∃ (x : cI) (dev kind : Int) (item : ByteArray) (qty dv sq : Int), item.size ≤ 8 ∧ e = .returned (.tuple #[.agg #[.slice x.va 4 x.vc, .slice x.oa x.no x.oc], .int .i64 dev, .agg #[.int .i64 kind, .string item, .int .i64 qty, .int .i64 dv, .int .i64 sq]]) ∧ nU w' w.heap.size w'.heap.size x ∧ Below w.heap.size w w'
def aQy (w : World) (e : Ending) (w' : World) : Prop :=
 ∃ (kind : Int) (item : ByteArray) (qty dv sq : Int), item.size ≤ 8 ∧ e = .returned (.agg #[.int .i64 kind, .string item, .int .i64 qty, .int .i64 dv, .int .i64 sq]) ∧ Below w.heap.size w w'
theorem aMK (w : World) (B g : Nat) (a : Option Addr) (len cap : Nat) (h : Rd w B g a len cap) :
  Calls Tryz.prog 40 #[.pointer (some ⟨g, 0, none⟩)] w (O4 .i64 w B g a len cap) := by
 go_enter Tryz.func40, Tryz.ntmps40
 go_wp2_with fail
 refine (aCm w B g a len cap h 40 (by omega) (by omega)).mono ?_
 rintro e w1 ⟨b, rfl, cF, dI⟩
 cases b
 ·go_wp2_with fail
  refine (nO w1 B g a len cap dI 4 (by omega) (by omega)).mono ?_
  rintro e w2 ⟨v, hv, rfl, fI, eK⟩; have hg := cF.trans fI; go_wp2
  go_ret
  exact ⟨_, rfl, hg, eK⟩
 ·go_wp2_with fail
  refine (M8 w1 B g a len cap dI 0 3 (by omega) (by omega) (by omega)).mono ?_
  rintro e w2 ⟨v, rfl, fI, eK⟩; have hg := cF.trans fI; go_wp2
  go_ret
  exact ⟨_, rfl, hg, eK⟩
set_option maxHeartbeats 80000000 in
theorem A8 (w : World) (B : Nat) (a : Option Addr) (len cap : Nat) (hB : B ≤ w.heap.size) (h : Src w B a len) :
  Calls Tryz.prog 16 #[.slice a len cap] w (aKJ w) := by
 obtain ⟨hra, Y1, aW, aNz⟩ := Di.mk0 w
 have hTs := aRA aNz
 have HS0 := aRA (h.kept (w' := (w.alloc (.cells #[.slice none 0 0, .slice none 0 0] 27)).alloc (.cells #[.int .i64 0, .string ⟨#[]⟩, .int .i64 0, .int .i64 0, .int .i64 0] 29)) fun k hk => aW.block k (by omega))
 have Z9 := aRA hra
 have kQ := aRA Y1
 have nA := aRA aW
 clear h hra Y1 aW aNz
 go_enter Tryz.func16, Tryz.ntmps16
 go_wp2_with fail
 generalize (w.alloc (.cells #[.slice none 0 0, .slice none 0 0] 27)).alloc (.cells #[.int .i64 0, .string ⟨#[]⟩, .int .i64 0, .int .i64 0, .int .i64 0] 29) = w0 at HS0 Z9 kQ nA hTs ⊢
 refine (aM2 w0 B a len cap (by have := hTs.out; omega) HS0.out).mono ?_
 rintro e w1 ⟨rfl, cF, dI⟩
 have sY : Hid (Di w w1 B w0.heap.size a len cap #[.slice none 0 0, .slice none 0 0] #[.int .i64 0, .string ⟨#[]⟩, .int .i64 0, .int .i64 0, .int .i64 0]) := ⟨(cF.block _ (by have := hTs.out; omega) (by intro e; cases e)).trans Z9.out, (cF.block _ (by have := hTs.out; omega) (by intro e; cases e)).trans kQ.out, nA.out.grown cF (by have := hTs.out; omega) (fun k hk => by cases hk), dI, by have := hTs.out; omega⟩
 clear cF dI HS0 Z9 kQ nA hTs
 generalize w0.heap.size = g at sY ⊢
 go_wp2_with fail
 refine (aML w1 B g a len cap sY.out.rd).mono ?_
 rintro e w2 ⟨x, rfl, hx, fI, eK⟩
 have M2 := aRA (sY.out.step fI eK)
 have hsw := sY.out.bel.size
 have wW := M2.out.glt
 have lH := sY.out.rd.lt
 have HX := aRA hx
 have r9 := fI.size
 have hBw := hB
 clear hx fI eK sY
 go_upto_region 3 with fail
 have HC3 := aRA (bL (Below.refl _ (w2.alloc (.cells #[.slice x.va 4 x.vc, .slice x.oa x.no x.oc] 27))))
 have HD3 := aRA (M2.out.box (.cells #[.slice x.va 4 x.vc, .slice x.oa x.no x.oc] 27))
 have oV := aRA (HX.out.kept (w' := w2.alloc (.cells #[.slice x.va 4 x.vc, .slice x.oa x.no x.oc] 27)) fun j _ h2 => Below.heap_alloc _ _ _ h2)
 have iG : w2.heap.size + 1 = (w2.alloc (.cells #[.slice x.va 4 x.vc, .slice x.oa x.no x.oc] 27)).heap.size := by simp
 clear M2 HX
 have aPt : w1.heap.size ≤ w2.heap.size := r9
 generalize w2.alloc (.cells #[.slice x.va 4 x.vc, .slice x.oa x.no x.oc] 27) = w3 at HC3 HD3 oV iG ⊢
 have hcg : w2.heap.size ≠ g := by omega
 have D7 : w2.heap.size < w3.heap.size := by omega
 generalize w2.heap.size = cb at HC3 oV iG hcg D7 aPt r9 ⊢
 have aRc : cb + 1 ≤ w3.heap.size := by omega
 clear iG
 go_wp2_with fail
 refine (aMK w3 B g a len cap HD3.out.rd).mono ?_
 rintro e w4 ⟨dev, rfl, D5, t6⟩
 have uN := aRA (HD3.out.step D5 t6)
 have HC4 := aRA ((D5.block cb (by omega) (by intro e; injection e with e; exact hcg e)).trans HC3.out)
 have D1 := D5.size
 have Z5 := aRA (oV.out.kept fun j h1 h2 => D5.block j (by omega) (by intro e; injection e with e; omega))
 clear D5 t6 HD3 HC3 oV
 have hS : w4.drew.cell? ⟨cb, 0, none⟩ = some (.slice x.va 4 x.vc) ∧ w4.drew.cell? ⟨cb, 1, none⟩ = some (.slice x.oa x.no x.oc) := pair_cells HC4.out
 go_wp2_with fail
 refine wp_region_held_drew (S := fun w' => w'.cell? ⟨cb, 0, none⟩ = some (.slice x.va 4 x.vc) ∧ w'.cell? ⟨cb, 1, none⟩ = some (.slice x.oa x.no x.oc)) (by kernel_rfl) hS (fun aP => ?_)
 refine tj 0 ?_
 refine tj 1 ?_
 refine tj 2 ?_
 refine rk 3 rfl (fun K hK => ?_)
 go_simp
 go_at_call 41
 refine (aGe w4.drew B g a len cap (uN.out.rd.kept (w' := w4.drew) fun _ _ => rfl) (by show _ ≤ w4.heap.size; omega)).mono ?_
 rintro e z1 ⟨kind, item, qty, dv, sq, hi, rfl, cF, dI⟩
 have kA : w4.grownBy z1 (some g) := ⟨cF.os, cF.tape, cF.output, cF.size, cF.block⟩
 have uM := aRA (uN.out.step kA dI)
 have aRj : cb < z1.heap.size := Nat.lt_of_lt_of_le (by omega) kA.size
 have HC5 := aRA ((kA.block cb (by omega) (by intro e; injection e with e; exact hcg e)).trans HC4.out)
 have hs5 := kA.size
 have HX5 := aRA ((Z5.out.kept fun j h1 h2 => kA.block j (by omega) (by intro e; injection e with e; omega)).more (lo' := w1.heap.size) (hi' := z1.heap.size) aRC (by omega))
 have S5 : z1.cell? ⟨cb, 0, none⟩ = some (.slice x.va 4 x.vc) ∧ z1.cell? ⟨cb, 1, none⟩ = some (.slice x.oa x.no x.oc) := pair_cells HC5.out
 clear cF dI kA
 refine hK.out _ _ S5 (fun bZ => ?_)
 clear hK K
 (try simp only [Act.put, u1, u2, u3])
 have xF := aRA (HX5.out.more (lo' := w.heap.size) (hi' := z1.heap.size) (by omega) aRC)
 have kc : nU ((z1.setCell ⟨w.heap.size, 0, none⟩ (.slice x.va 4 x.vc)).setCell ⟨w.heap.size, 1, none⟩ (.slice x.oa x.no x.oc)) w.heap.size z1.heap.size x := xF.out.other uM.out.ra fun j _ _ bH => aF _ _ bH
 obtain ⟨r0, r1⟩ := pair_cells uM.out.ra
 obtain ⟨f0, f1⟩ := aD uM.out.ra
 have aN0 := aRA (cK (.slice x.va 4 x.vc) (.slice x.oa x.no x.oc) uM.out.ra)
 have aEW : Hid (((z1.setCell ⟨w.heap.size, 0, none⟩ (.slice x.va 4 x.vc)).setCell ⟨w.heap.size, 1, none⟩ (.slice x.oa x.no x.oc)).heap[w.heap.size + 1]? = some (.cells #[.int .i64 0, .string ⟨#[]⟩, .int .i64 0, .int .i64 0, .int .i64 0] 29 (0, 0))) := (aF _ _ (by omega)).trans uM.out.rb
 have hB6 : Below w.heap.size w ((z1.setCell ⟨w.heap.size, 0, none⟩ (.slice x.va 4 x.vc)).setCell ⟨w.heap.size, 1, none⟩ (.slice x.oa x.no x.oc)) := uM.out.bel.trans (eM z1 w.heap.size 0 1 _ _)
 have hz6 := bA z1 w.heap.size (.slice x.va 4 x.vc) (.slice x.oa x.no x.oc)
 have aNk : z1.heap.size ≤ ((z1.setCell ⟨w.heap.size, 0, none⟩ (.slice x.va 4 x.vc)).setCell ⟨w.heap.size, 1, none⟩ (.slice x.oa x.no x.oc)).heap.size := Nat.le_of_eq hz6.symm
 have aPU : ((z1.setCell ⟨w.heap.size, 0, none⟩ (.slice x.va 4 x.vc)).setCell ⟨w.heap.size, 1, none⟩ (.slice x.oa x.no x.oc)).heap.size ≤ z1.heap.size := Nat.le_of_eq hz6
 clear hz6
 have HK6 := aRA kc
 have dC := aRA hB6
 clear kc hB6
 have oS : ((z1.setCell ⟨w.heap.size, 0, none⟩ (.slice x.va 4 x.vc)).setCell ⟨w.heap.size, 1, none⟩ (.slice x.oa x.no x.oc)).cell? ⟨cb, 0, none⟩ = some (.slice x.va 4 x.vc) ∧ ((z1.setCell ⟨w.heap.size, 0, none⟩ (.slice x.va 4 x.vc)).setCell ⟨w.heap.size, 1, none⟩ (.slice x.oa x.no x.oc)).cell? ⟨cb, 1, none⟩ = some (.slice x.oa x.no x.oc) := pair_cells ((aF _ _ (by omega)).trans HC5.out)
 refine rk 4 rfl (fun K hK => ?_)
 go_simp
 refine hK.out _ _ oS (fun fT => ?_)
 clear hK K
 (try simp only [Act.put, u1, u2, u3])
 clear r0 r1 f0 f1
 generalize ((z1.setCell ⟨w.heap.size, 0, none⟩ (.slice x.va 4 x.vc)).setCell ⟨w.heap.size, 1, none⟩ (.slice x.oa x.no x.oc)) = z6 at aN0 aEW dC HK6 oS aNk aPU fT ⊢
 refine tj 5 ?_
 obtain ⟨g0, g1, g2, g3, g4⟩ := dN aEW.out
 obtain ⟨f0, f1, f2, f3, f4⟩ := aMe aEW.out
 have x7 : (((((z6.setCell ⟨w.heap.size + 1, 0, none⟩ (.int .i64 kind)).setCell ⟨w.heap.size + 1, 1, none⟩ (.string item)).setCell ⟨w.heap.size + 1, 2, none⟩ (.int .i64 qty)).setCell ⟨w.heap.size + 1, 3, none⟩ (.int .i64 dv)).setCell ⟨w.heap.size + 1, 4, none⟩ (.int .i64 sq)).cell? ⟨cb, 0, none⟩ = some (.slice x.va 4 x.vc) ∧ (((((z6.setCell ⟨w.heap.size + 1, 0, none⟩ (.int .i64 kind)).setCell ⟨w.heap.size + 1, 1, none⟩ (.string item)).setCell ⟨w.heap.size + 1, 2, none⟩ (.int .i64 qty)).setCell ⟨w.heap.size + 1, 3, none⟩ (.int .i64 dv)).setCell ⟨w.heap.size + 1, 4, none⟩ (.int .i64 sq)).cell? ⟨cb, 1, none⟩ = some (.slice x.oa x.no x.oc) := ⟨(World.cell?_of_block (a := ⟨cb, 0, none⟩) (aAB (by show cb ≠ _; omega))).trans oS.1, (World.cell?_of_block (a := ⟨cb, 1, none⟩) (aAB (by show cb ≠ _; omega))).trans oS.2⟩
 have aNZ : Hid ((((((z6.setCell ⟨w.heap.size + 1, 0, none⟩ (.int .i64 kind)).setCell ⟨w.heap.size + 1, 1, none⟩ (.string item)).setCell ⟨w.heap.size + 1, 2, none⟩ (.int .i64 qty)).setCell ⟨w.heap.size + 1, 3, none⟩ (.int .i64 dv)).setCell ⟨w.heap.size + 1, 4, none⟩ (.int .i64 sq)).heap[w.heap.size]? = some (.cells #[.slice x.va 4 x.vc, .slice x.oa x.no x.oc] 27 (0, 0))) := (aAB (by omega)).trans aN0.out
 have aNY : Hid ((((((z6.setCell ⟨w.heap.size + 1, 0, none⟩ (.int .i64 kind)).setCell ⟨w.heap.size + 1, 1, none⟩ (.string item)).setCell ⟨w.heap.size + 1, 2, none⟩ (.int .i64 qty)).setCell ⟨w.heap.size + 1, 3, none⟩ (.int .i64 dv)).setCell ⟨w.heap.size + 1, 4, none⟩ (.int .i64 sq)).heap[w.heap.size + 1]? = some (.cells #[.int .i64 kind, .string item, .int .i64 qty, .int .i64 dv, .int .i64 sq] 29 (0, 0))) := aMc aEW.out
 have lR : Hid (Below w.heap.size w (((((z6.setCell ⟨w.heap.size + 1, 0, none⟩ (.int .i64 kind)).setCell ⟨w.heap.size + 1, 1, none⟩ (.string item)).setCell ⟨w.heap.size + 1, 2, none⟩ (.int .i64 qty)).setCell ⟨w.heap.size + 1, 3, none⟩ (.int .i64 dv)).setCell ⟨w.heap.size + 1, 4, none⟩ (.int .i64 sq))) := aMf dC.out (Nat.le_succ _)
 have HK7 : Hid (nU (((((z6.setCell ⟨w.heap.size + 1, 0, none⟩ (.int .i64 kind)).setCell ⟨w.heap.size + 1, 1, none⟩ (.string item)).setCell ⟨w.heap.size + 1, 2, none⟩ (.int .i64 qty)).setCell ⟨w.heap.size + 1, 3, none⟩ (.int .i64 dv)).setCell ⟨w.heap.size + 1, 4, none⟩ (.int .i64 sq)) w.heap.size (((((z6.setCell ⟨w.heap.size + 1, 0, none⟩ (.int .i64 kind)).setCell ⟨w.heap.size + 1, 1, none⟩ (.string item)).setCell ⟨w.heap.size + 1, 2, none⟩ (.int .i64 qty)).setCell ⟨w.heap.size + 1, 3, none⟩ (.int .i64 dv)).setCell ⟨w.heap.size + 1, 4, none⟩ (.int .i64 sq)).heap.size x) := by
  have h7 : nU (((((z6.setCell ⟨w.heap.size + 1, 0, none⟩ (.int .i64 kind)).setCell ⟨w.heap.size + 1, 1, none⟩ (.string item)).setCell ⟨w.heap.size + 1, 2, none⟩ (.int .i64 qty)).setCell ⟨w.heap.size + 1, 3, none⟩ (.int .i64 dv)).setCell ⟨w.heap.size + 1, 4, none⟩ (.int .i64 sq)) w.heap.size z1.heap.size x := HK6.out.otherM aEW.out fun j _ _ bH => aAB bH
  exact h7.more aRC (by rw [aMb]; exact aNk)
 refine rk 6 rfl (fun K hK => ?_)
 go_simp
 refine hK.out _ _ x7 (fun nL => ?_)
 clear hK K
 (try simp only [Act.put, u1, u2, u3])
 refine wpAnyH_done (by kernel_rfl) ?_ _
 clear g0 g1 g2 g3 g4 f0 f1 f2 f3 f4 x7 oS
 generalize (((((z6.setCell ⟨w.heap.size + 1, 0, none⟩ (.int .i64 kind)).setCell ⟨w.heap.size + 1, 1, none⟩ (.string item)).setCell ⟨w.heap.size + 1, 2, none⟩ (.int .i64 qty)).setCell ⟨w.heap.size + 1, 3, none⟩ (.int .i64 dv)).setCell ⟨w.heap.size + 1, 4, none⟩ (.int .i64 sq)) = wf at aNZ aNY lR HK7 ⊢
 obtain ⟨q0, q1⟩ := pair_cells aNZ.out
 obtain ⟨g0, g1, g2, g3, g4⟩ := dN aNY.out
 go_wp2
 exact bodyPost_ret (v := .tuple #[.agg #[.slice x.va 4 x.vc, .slice x.oa x.no x.oc], .int .i64 dev, .agg #[.int .i64 kind, .string item, .int .i64 qty, .int .i64 dv, .int .i64 sq]]) (by simp [results, Tryz.results16, go_sem, q0, q1, g0, g1, g2, g3, g4]) rfl ⟨x, dev, kind, item, qty, dv, sq, hi, rfl, HK7.out, lR.out⟩
set_option linter.unusedVariables false

theorem eZ.more {w : World} {B B' : Nat} {E : Int → Addr} (h : eZ w B E) (hB : B ≤ B') : eZ w B' E :=
 ⟨Nat.le_trans h.low hB, h.cells, fun c h1 h2 => by obtain ⟨a, r⟩ := h.lies c h1 h2; exact ⟨by omega, r⟩, h.ne, h.typ⟩
theorem yX (w : World) (x y : Array Value) (S T : TypeId) : ((w.alloc (.cells x S)).alloc (.cells y T)).heap[w.heap.size]? = some (.cells x S (0, 0)) ∧ ((w.alloc (.cells x S)).alloc (.cells y T)).heap[w.heap.size + 1]? = some (.cells y T (0, 0)) ∧ Below w.heap.size w ((w.alloc (.cells x S)).alloc (.cells y T)) := by
 have e1 : (w.alloc (.cells x S)).heap.size = w.heap.size + 1 := by simp
 refine ⟨(Below.heap_alloc _ _ _ (by omega)).trans (heap_alloc_new _ _), ?_, ((Below.refl _ w).alloc aRC _).alloc (by simp) _⟩
 rw [← e1]; exact heap_alloc_new _ _
theorem oK {w : World} {b : Nat} {v0 v1 v2 : Value} {T : TypeId} {fr : Nat × Nat} (h : w.heap[b]? = some (.cells #[v0, v1, v2] T fr)) : w.cell? ⟨b, 0, none⟩ = some v0 ∧ w.cell? ⟨b, 1, none⟩ = some v1 ∧ w.cell? ⟨b, 2, none⟩ = some v2 :=
 ⟨aRD h, aRD h, aRD h⟩
theorem aH6 {w : World} {b : Nat} {cs : Array Value} {T : TypeId} (h : w.heap[b]? = some (.cells cs T (0, 0))) : w.frozen? ⟨b, 0, none⟩ = false ∧ w.frozen? ⟨b, 1, none⟩ = false ∧ w.frozen? ⟨b, 2, none⟩ = false :=
 ⟨aRE h, aRE h, aRE h⟩
theorem aH5 {w : World} {b : Nat} {c0 c1 c2 v0 v1 v2 : Value} {T : TypeId} (h : w.heap[b]? = some (.cells #[c0, c1, c2] T (0, 0))) :
  (((w.setCell ⟨b, 0, none⟩ v0).setCell ⟨b, 1, none⟩ v1).setCell ⟨b, 2, none⟩ v2).heap[b]? = some (.cells #[v0, v1, v2] T (0, 0)) :=
 heap_setCell_same _ _ _ _ _ _ (heap_setCell_same _ _ _ _ _ _ (heap_setCell_same _ _ _ _ _ _ h))
theorem aH7 {B : Nat} {w0 w : World} {b : Nat} {v0 v1 v2 : Value} (h : Below B w0 w) (hb : B ≤ b) : Below B w0 (((w.setCell ⟨b, 0, none⟩ v0).setCell ⟨b, 1, none⟩ v1).setCell ⟨b, 2, none⟩ v2) :=
 ((h.setCell (p := ⟨b, 0, none⟩) hb _).setCell (p := ⟨b, 1, none⟩) hb _).setCell (p := ⟨b, 2, none⟩) hb _
/-- What a call of Issue hands back is at most a cart's size. -/
theorem mX {xs : List Int} {l : List aA} {dev kind : Int} {item : ByteArray} {qty dv sq k : Int} {zs : List Int} {m : List aA} (h : bN xs l dev kind item qty dv sq = (k, zs, m)) : zs.length ≤ 4 ∧ m.length ≤ 160 ∧ (∀ i, i < m.length → (aC m i).item.size ≤ 1048576) ∧ (k ≠ 1 → aE zs m = true) := by
 have hc := zJ xs l dev kind item qty dv sq
 rw [h] at hc
 rcases hc with hc | hc
 ·injection hc with h1 h2
  injection h2 with h2 h3; subst h1 h2 h3; exact ⟨Nat.zero_le _, Nat.zero_le _, fun i hi => absurd hi (Nat.not_lt_zero _), fun q => absurd rfl q⟩
 ·have hc : aE zs m = true := hc
  exact ⟨Nat.le_of_eq (fJ hc).1, eU hc, fun i hi => Nat.le_trans (dZ (fA hc hi)).2.2.2.2.1 (by omega), fun _ => hc⟩
theorem nD {m : List aA} (h : ∀ i, i < m.length → (aC m i).item.size ≤ 1048576) : ∀ o ∈ m, o.item.size ≤ 1048576 := fun o ho => by
 obtain ⟨i, hi, e⟩ := List.mem_iff_getElem.1 ho
 have := h i hi
 unfold aC at this
 rw [List.getD_eq_getElem?_getD, List.getElem?_eq_getElem hi] at this
 rw [← e]
 exact this
set_option linter.unusedVariables false
set_option linter.unusedSimpArgs false

/-- The line of an item. -/
def aEP (xs : List Int) (l : List aA) (x : ByteArray) (o : aT) (t : Bool) : Prop := (t = true ∧ x ∈ bY xs l ∧ o = bX l x) ∨ (t = false ∧ ¬ x ∈ bY xs l ∧ o = aT.zero)
theorem aEP.yes {xs : List Int} {l : List aA} {x : ByteArray} {o : aT} {t : Bool} (h : aEP xs l x o t) (hc : aE xs l = true) (hl : aG x l l.length % 2 = 1) : t = true ∧ o = bX l x := by
 rcases h with ⟨h1, _, h3⟩ | ⟨_, h2, _⟩
 ·exact ⟨h1, h3⟩
 ·exact absurd ((iK hc x).2 hl) h2
theorem aEP.no {xs : List Int} {l : List aA} {x : ByteArray} {o : aT} {t : Bool} (h : aEP xs l x o t) (hc : aE xs l = true) (hl : ¬ aG x l l.length % 2 = 1) : t = false ∧ o = aT.zero := by
 rcases h with ⟨_, h2, _⟩ | ⟨h1, _, h3⟩
 ·exact absurd ((iK hc x).1 h2) hl
 ·exact ⟨h1, h3⟩
theorem aGl {xs : List Int} {l : List aA} {i : Nat} (hi : i < (aO xs l).length) : ((aO xs l).getD i aT.zero).item ∈ bY xs l ∧ (aO xs l).getD i aT.zero = bX l ((aO xs l).getD i aT.zero).item := by
 obtain ⟨h, e⟩ := aD7 xs l hi
 have e2 : (bY xs l).getD i ⟨#[]⟩ = (bY xs l)[i] := by rw [List.getD_eq_getElem?_getD, List.getElem?_eq_getElem h]; rfl
 rw [e]
 refine ⟨?_, rfl⟩
 show (bY xs l).getD i ⟨#[]⟩ ∈ bY xs l
 rw [e2]
 exact List.getElem_mem h
theorem aLY {xs : List Int} {l : List aA} {x : ByteArray} (h : ∀ j, j < (aO xs l).length → ((aO xs l).getD j aT.zero).item ≠ x) : ¬ x ∈ bY xs l := fun hx => by
 obtain ⟨i, hi, e⟩ := List.mem_iff_getElem.1 hx
 have hl : (aO xs l).length = (bY xs l).length := by unfold aO; rw [List.length_map]
 have hi2 : i < (aO xs l).length := by omega
 obtain ⟨h1, e1⟩ := aD7 xs l hi2
 refine h i hi2 ?_
 rw [e1]
 show (bY xs l).getD i ⟨#[]⟩ = x
 rw [List.getD_eq_getElem?_getD, List.getElem?_eq_getElem hi]
 exact e
set_option maxHeartbeats 20000000 in
theorem aGo (w : World) (B : Nat) (av ao : Option Addr) (nv cv no co : Nat) (xs : List Int) (l : List aA) (item : ByteArray) (hx : Ints w B av nv xs) (h : bS w B ao no l) (hB : B ≤ w.heap.size) (hv : nv ≤ 1048576) (hc : no ≤ co) (cM : Fits no co) (hm : ∀ o ∈ l, o.item.size ≤ 1048576) :
  Calls Tryz.prog 25 #[.agg #[.slice av nv cv, .slice ao no co], .string item] w fun e w' => ∃ o t, e = .returned (.tuple #[.agg #[.string o.item, .int .i64 o.qty, .bool o.saved], .bool t]) ∧ aEP xs l item o t ∧ Below w.heap.size w w' := by
 obtain ⟨hra, Y1, aW⟩ := yX w #[.slice av nv cv, .slice ao no co] #[.string ⟨#[]⟩, .int .i64 0, .bool false] 27 39
 have HV := aRA (hx.below aW hB)
 have HO := aRA (h.below aW hB)
 have Z9 := aRA hra
 have kQ := aRA Y1
 have nA := aRA aW
 have mF := aW.size
 clear hx h hra Y1 aW
 go_enter Tryz.func25, Tryz.ntmps25
 go_upto_region 1 with fail
 generalize (w.alloc (.cells #[.slice av nv cv, .slice ao no co] 27)).alloc (.cells #[.string ⟨#[]⟩, .int .i64 0, .bool false] 39) = w0 at HV HO Z9 kQ nA mF ⊢
 obtain ⟨c0, c1⟩ := pair_cells Z9.out
 go_wp2_with fail
 refine (lG w0 w0.heap.size av ao nv cv no co xs l (HV.out.more (by omega)) (HO.out.more (by omega)) aRC hv hc cM hm).mono ?_
 rintro e w1 ⟨la, lc, rfl, jD, hb⟩
 have HL := aRA jD.rows
 have aEX := aRA ((hb.block _ (aB kQ.out)).trans kQ.out)
 have cO := aRA (nA.out.trans (hb.mono (by omega)))
 have hi1 := aRA fun i (hi : i < (aO xs l).length) => aGl (xs := xs) (l := l) hi
 have hn1 := aRA (aLY (xs := xs) (l := l) (x := item))
 have kI : (aO xs l).length ≤ 160 := by unfold aO; rw [List.length_map]; exact oN
 clear jD hb Z9 kQ nA HV HO c0 c1
 generalize aO xs l = LL at HL hi1 hn1 kI ⊢
 obtain ⟨g0, g1, g2⟩ := oK aEX.out
 go_wp2
 go_loopw [7] (fun i wr => ∃ q : Nat, q ≤ LL.length ∧ i = .int .i64 (q : Int) ∧ Hid (∀ j, j < q → (LL.getD j aT.zero).item ≠ item) ∧ wr = w1) (fun i _ => LL.length - (intOf i).toNat)
 case atStart => exact ⟨0, Nat.zero_le _, rfl, fun j hj => absurd hj (Nat.not_lt_zero _), rfl⟩
 case round =>
  obtain ⟨q, hq, rfl, HN, rfl⟩ := hrel
  by_cases aK : q < LL.length
  rotate_left
  ·have hM := hn1.out fun j hj => HN.out j (by omega)
   have HR := aRA (aH5 (v0 := .string ⟨#[]⟩) (v1 := .int .i64 0) (v2 := .bool false) aEX.out); have bK := aRA (aH7 (v0 := .string ⟨#[]⟩) (v1 := .int .i64 0) (v2 := .bool false) cO.out (Nat.le_succ w.heap.size)); obtain ⟨f0, f1, f2⟩ := aH6 aEX.out; go_wp2
   generalize (((wr.setCell ⟨w.heap.size + 1, 0, none⟩ (.string ⟨#[]⟩)).setCell ⟨w.heap.size + 1, 1, none⟩ (.int .i64 0)).setCell ⟨w.heap.size + 1, 2, none⟩ (.bool false)) = wf at HR bK ⊢; obtain ⟨q0, q1, q2⟩ := oK HR.out; exact bodyPost_ret (v := .tuple #[.agg #[.string ⟨#[]⟩, .int .i64 0, .bool false], .bool false]) (by simp [results, Tryz.results25, go_sem, q0, q1, q2]) rfl ⟨aT.zero, false, rfl, .inr ⟨rfl, hM, rfl⟩, bK.out⟩
  obtain ⟨b, off, rfl, hb, ho⟩ := HL.out.2 q aK; obtain ⟨d0, d1, d2⟩ := ho; have yU := hi1.out q aK; have hqe : Hid ((LL.getD q aT.zero).item = (LL.getD q aT.zero).item) := rfl; obtain ⟨y, hy⟩ : ∃ y, LL.getD q aT.zero = y := ⟨_, rfl⟩; rw [hy] at d0 d1 d2 yU; have HY := aRA hy; clear hy hqe; have HM := aRA yU; clear yU; have hki : (q : Int) < (LL.length : Int) := by omega
  by_cases he : y.item = item
  ·have aP1 : (y.item.toList == item.toList) = true := by rw [he]; exact beq_self_eq_true _
   have HHe := aRA he; clear he; have HR := aRA (aH5 (v0 := .string y.item) (v1 := .int .i64 y.qty) (v2 := .bool y.saved) aEX.out); have bK := aRA (aH7 (v0 := .string y.item) (v1 := .int .i64 y.qty) (v2 := .bool y.saved) cO.out (Nat.le_succ w.heap.size)); obtain ⟨f0, f1, f2⟩ := aH6 aEX.out; go_wp2
   generalize (((wr.setCell ⟨w.heap.size + 1, 0, none⟩ (.string y.item)).setCell ⟨w.heap.size + 1, 1, none⟩ (.int .i64 y.qty)).setCell ⟨w.heap.size + 1, 2, none⟩ (.bool y.saved)) = wf at HR bK ⊢; obtain ⟨q0, q1, q2⟩ := oK HR.out; exact bodyPost_ret (v := .tuple #[.agg #[.string y.item, .int .i64 y.qty, .bool y.saved], .bool true]) (by simp [results, Tryz.results25, go_sem, q0, q1, q2]) rfl ⟨y, true, rfl, .inl ⟨rfl, by have h := HM.out.1; rw [HHe.out] at h; exact h, by have h := HM.out.2; rw [HHe.out] at h; exact h⟩, bK.out⟩
  ·have aP1 : (y.item.toList == item.toList) = false := by
    cases hq2 : (y.item.toList == item.toList)
    ·rfl
    ·exact absurd (aBo (eq_of_beq hq2)) he
   have oC : Hid (∀ j, j < q + 1 → (LL.getD j aT.zero).item ≠ item) := fun j hj => by
    rcases Nat.lt_or_ge j q with h1 | h1
    ·exact HN.out j h1
    ·obtain rfl : j = q := by omega
     rw [HY.out]; exact he
   clear he; go_wp2
   go_roundw
   case rel => exact ⟨q + 1, by omega, by go_num, oC, trivial⟩
   case measure => simp [intOf]; omega
end Go.Proofs.YthkagbnpcjidfaaGreatDoor
