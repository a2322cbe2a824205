/- Walks and mathematics that several claims share, part 44. -/
import Derived.Test.YthkagbnpcjidfaaGreatDoorGq43
import Derived.Deep.Cut
namespace Go.Proofs.YthkagbnpcjidfaaGreatDoor
set_option maxRecDepth 100000
open Go.RowKit
set_option linter.unusedVariables false
set_option linter.unusedSimpArgs false
def lJ (w : World) (lo hi : Nat) (x : cF) : Prop :=
 ∃ zs m, x.no = m.length ∧ Own w lo hi x.va 4 zs ∧ bE w lo hi x.oa m.length m ∧ bY x.va 4 x.vc ∧ bY x.oa m.length x.oc ∧ (∀ i, i < m.length → (aB m i).item.size ≤ 8) ∧ m.length ≤ 400
theorem vA.weak {w : World} {lo hi : Nat} {x : cF} (h : vA w lo hi x) : lJ w lo hi x := by
 obtain ⟨zs, m, e, a, b, c, d, f⟩ := h
 exact ⟨zs, m, e, a, b, c, d, f.item, f.most⟩
theorem lJ.more {w : World} {lo hi lo' hi' : Nat} {x : cF} (h : lJ w lo hi x) (h1 : lo' ≤ lo) (h2 : hi ≤ hi') : lJ w lo' hi' x := by
 obtain ⟨zs, m, e, a, b, c⟩ := h
 exact ⟨zs, m, e, a.more h1 h2, b.more h1 h2, c⟩
theorem lJ.kept {w w' : World} {lo hi : Nat} {x : cF} (h : lJ w lo hi x) (hk : ∀ j, lo ≤ j → j < hi → w'.heap[j]? = w.heap[j]?) : lJ w' lo hi x := by
 obtain ⟨zs, m, e, a, b, c⟩ := h
 exact ⟨zs, m, e, a.kept hk, b.kept hk, c⟩
theorem lJ.other {w w' : World} {lo hi q : Nat} {x : cF} {cs : Array Value} {fr : Nat × Nat} (h : lJ w lo hi x) (hq : w.heap[q]? = some (.cells cs 27 fr)) (hk : ∀ j, lo ≤ j → j < hi → j ≠ q → w'.heap[j]? = w.heap[j]?) : lJ w' lo hi x := by
 obtain ⟨zs, m, e, a, b, c⟩ := h
 refine ⟨zs, m, e, ⟨a.1, fun hn => ?_⟩, ⟨b.1, fun hn => ?_⟩, c⟩
 ·obtain ⟨g, aY, e1, h1, h2, hg, hc⟩ := a.2 hn
  have bI : g ≠ q := by
   intro e2
   rw [e2, hq] at hg; injection hg with hg; injection hg with _ hg; exact absurd hg (by decide)
  exact ⟨g, aY, e1, h1, h2, (hk g h1 h2 bI).trans hg, hc⟩
 ·obtain ⟨g, off, aY, e1, h1, h2, hg, hs, hc⟩ := b.2 hn
  have bI : g ≠ q := by
   intro e2
   rw [e2, hq] at hg; injection hg with hg; injection hg with _ hg; exact absurd hg (by decide)
  exact ⟨g, off, aY, e1, h1, h2, (hk g h1 h2 bI).trans hg, hs, hc⟩
def Z7 (m : List aA) (i : Nat) (t : Int) : List aA := m.set i { aB m i with stamp := t }
theorem lJ.stamp {w : World} {lo hi i : Nat} {x : cF} (h : lJ w lo hi x) (hi' : i < x.no) (t : Int) :
  ∃ g off u, x.oa = some ⟨g, off, none⟩ ∧ lo ≤ g ∧ g < hi ∧ (∃ cs, w.heap[g]? = some (.cells cs 50 (0, 0))) ∧ w.cell? ⟨g, off + i * 8 + 2, none⟩ = some (.int .i64 u) ∧ w.frozen? ⟨g, off + i * 8 + 2, none⟩ = false ∧ lJ (w.setCell ⟨g, off + i * 8 + 2, none⟩ (.int .i64 t)) lo hi x := by
 obtain ⟨zs, m, e, a, b, c1, c2, c3, c4⟩ := h
 rw [e] at hi'
 obtain ⟨g, off, cs, e1, h1, h2, hg, hs, hc⟩ := b.2 (by omega)
 have hx := hc i hi'
 have hl : (Z7 m i t).length = m.length := by unfold Z7; simp
 refine ⟨g, off, (aB m i).stamp, e1, h1, h2, ⟨cs, hg⟩, (hx.at hg).2.2.1, aRt hg, zs, Z7 m i t, by rw [hl]; exact e, ⟨a.1, fun hn => ?_⟩, ⟨rfl, fun hn => ⟨g, off, cs.setIfInBounds (off + i * 8 + 2) (.int .i64 t), e1, h1, h2, heap_setCell_same _ _ _ _ _ _ hg, by rw [hl]; simpa using hs, fun j hj => ?_⟩⟩, c1, by rw [hl]; exact c2, fun j hj => ?_, by rw [hl]; exact c4⟩
 ·obtain ⟨q, aY, e2, a1, a2, a3, a4⟩ := a.2 hn
  have bI : q ≠ g := by
   intro eq
   rw [eq, hg] at a3; injection a3 with a3; injection a3 with _ a3; exact absurd a3 (by decide)
  exact ⟨q, aY, e2, a1, a2, (heap_setCell_other _ _ _ _ bI).trans a3, a4⟩
 ·rw [hl] at hj
  have hy := hc j hj; unfold Z7; rw [gF hi']
  by_cases e2 : i = j
  ·subst e2
   rw [if_pos rfl]; obtain ⟨y0, y1, y2, y3, y4, y5, y6, y7⟩ := hy; have ne : ∀ q, q ≠ 2 → (cs.setIfInBounds (off + i * 8 + 2) (.int .i64 t))[off + i * 8 + q]? = cs[off + i * 8 + q]? := fun q hq => by rw [Array.getElem?_setIfInBounds, if_neg (by omega)]
   refine ⟨(ne 0 (by omega)).trans y0, (ne 1 (by omega)).trans y1, ?_, (ne 3 (by omega)).trans y3, (ne 4 (by omega)).trans y4, (ne 5 (by omega)).trans y5, (ne 6 (by omega)).trans y6, (ne 7 (by omega)).trans y7⟩
   rw [Array.getElem?_setIfInBounds, if_pos rfl, if_pos (aRq y2).1]
  ·rw [if_neg e2]
   have ne : ∀ q, q < 8 → (cs.setIfInBounds (off + i * 8 + 2) (.int .i64 t))[off + j * 8 + q]? = cs[off + j * 8 + q]? := fun q hq => by rw [Array.getElem?_setIfInBounds, if_neg (by omega)]
   obtain ⟨y0, y1, y2, y3, y4, y5, y6, y7⟩ := hy; exact ⟨(ne 0 (by omega)).trans y0, (ne 1 (by omega)).trans y1, (ne 2 (by omega)).trans y2, (ne 3 (by omega)).trans y3, (ne 4 (by omega)).trans y4, (ne 5 (by omega)).trans y5, (ne 6 (by omega)).trans y6, (ne 7 (by omega)).trans y7⟩
 ·rw [hl] at hj
  unfold Z7 aB; rw [gF hi']
  split
  ·exact c3 i hi'
  ·exact c3 j hj
theorem lJ.vec {w : World} {lo hi : Nat} {x : cF} (h : lJ w lo hi x) (t : Int) :
  ∃ g u, x.va = some ⟨g, 0, none⟩ ∧ lo ≤ g ∧ g < hi ∧ (∃ cs, w.heap[g]? = some (.cells cs 2 (0, 0))) ∧ w.cell? ⟨g, 0, none⟩ = some (.int .i64 u) ∧ w.frozen? ⟨g, 0, none⟩ = false ∧ lJ (w.setCell ⟨g, 0, none⟩ (.int .i64 t)) lo hi x := by
 obtain ⟨zs, m, e, a, b, c⟩ := h
 have qK := a.1
 obtain ⟨g, aY, e1, h1, h2, hg, hc⟩ := a.2 (by omega)
 have hx := hc 0 (by omega)
 refine ⟨g, zs.getD 0 0, e1, h1, h2, ⟨aY, hg⟩, (aRs hg).trans hx, aRt hg, zs.set 0 t, m, e, ⟨by rw [List.length_set]; exact qK, fun hn => ⟨g, aY.setIfInBounds 0 (.int .i64 t), e1, h1, h2, heap_setCell_same _ _ _ _ _ _ hg, fun i hi => ?_⟩⟩, ⟨b.1, fun hn => ?_⟩, c⟩
 ·rw [Array.getElem?_setIfInBounds, gF (by omega)]
  by_cases e2 : 0 = i
  ·subst e2
   rw [if_pos rfl, if_pos rfl, if_pos (aRq hx).1]
  ·rw [if_neg e2, if_neg e2]
   exact hc i hi
 ·obtain ⟨q, off, cs, e2, a1, a2, a3, a4, a5⟩ := b.2 hn
  have bI : q ≠ g := by
   intro eq
   rw [eq, hg] at a3; injection a3 with a3; injection a3 with _ a3; exact absurd a3 (by decide)
  exact ⟨q, off, cs, e2, a1, a2, (heap_setCell_other _ _ _ _ bI).trans a3, a4, a5⟩
structure Y8 (w wr : World) (B g : Nat) (a : Option Addr) (len cap cb : Nat) (x : cF) : Prop where
 box : wr.heap[cb]? = some (.cells #[.slice x.va 4 x.vc, .slice x.oa x.no x.oc] 27 (0, 0))
 res : wr.heap[w.heap.size]? = some (.cells #[.slice none 0 0, .slice none 0 0] 27 (0, 0))
 crt : lJ wr (w.heap.size + 1) wr.heap.size x
 grown : w.grownBy wr (some g)
 rd : Rd wr B g a len cap
 glt : g < w.heap.size
 clo : w.heap.size < cb
theorem Y8.step {w wr w1 : World} {B g : Nat} {a : Option Addr} {len cap cb : Nat} {x : cF} (h : Y8 w wr B g a len cap cb x) (hg : wr.grownBy w1 (some g)) (hr : Rd w1 B g a len cap) : Y8 w w1 B g a len cap cb x := by
 have rI := h.glt
 have N3 := h.clo
 have hs := hg.size
 have hk : ∀ j, j < wr.heap.size → j ≠ g → w1.heap[j]? = wr.heap[j]? := fun j h1 h2 => hg.block j h1 (by intro e; injection e with e; exact h2 e)
 exact ⟨(hk cb (aRq h.box).1 (by omega)).trans h.box, (hk _ (aRq h.res).1 (by omega)).trans h.res, (h.crt.kept fun j h1 h2 => hk j h2 (by omega)).more aRr hs, h.grown.trans hg, hr, rI, N3⟩
theorem Y8.cell1 {w z : World} {B g b i : Nat} {a : Option Addr} {len cap cb : Nat} {x : cF} {T : TypeId} {cs : Array Value} {v : Value} (h : Y8 w z B g a len cap cb x) (hb : z.heap[b]? = some (.cells cs T (0, 0))) (hT : T ≠ 27) (iS : w.heap.size < b) (hc : lJ (z.setCell ⟨b, i, none⟩ v) (w.heap.size + 1) z.heap.size x) : Y8 w (z.setCell ⟨b, i, none⟩ v) B g a len cap cb x := by
 have rI := h.glt
 have N3 := h.clo
 have hB := h.rd.own
 have jG := h.grown
 have hz : (z.setCell ⟨b, i, none⟩ v).heap.size = z.heap.size := by simp [World.setCell]
 have hk : ∀ j, j ≠ b → (z.setCell ⟨b, i, none⟩ v).heap[j]? = z.heap[j]? := fun j hj => heap_setCell_other _ _ _ _ hj
 have hcb : cb ≠ b := by
  intro e
  have hx := h.box; rw [e, hb] at hx; injection hx with hx; injection hx with _ hx; exact hT hx
 exact ⟨(hk cb hcb).trans h.box, (hk _ (by omega)).trans h.res, by rw [hz]; exact hc, ⟨jG.os, jG.tape, jG.output, by rw [hz]; exact jG.size, fun k h1 h2 => (hk k (by omega)).trans (jG.block k h1 h2)⟩, h.rd.kept fun k nX => hk k (by omega), rI, N3⟩
theorem Y8.turn {w z : World} {B g : Nat} {a : Option Addr} {len cap cb : Nat} {x : cF} (h : Y8 w z B g a len cap cb x) (y : cF) (hy : lJ z (w.heap.size + 1) z.heap.size y) : Y8 w ((z.setCell ⟨cb, 0, none⟩ (.slice y.va 4 y.vc)).setCell ⟨cb, 1, none⟩ (.slice y.oa y.no y.oc)) B g a len cap cb y := by
 have rI := h.glt
 have N3 := h.clo
 have hB := h.rd.own
 have jG := h.grown
 have hz := bB z cb (.slice y.va 4 y.vc) (.slice y.oa y.no y.oc)
 have hk : ∀ j, j ≠ cb → ((z.setCell ⟨cb, 0, none⟩ (.slice y.va 4 y.vc)).setCell ⟨cb, 1, none⟩ (.slice y.oa y.no y.oc)).heap[j]? = z.heap[j]? := fun j hj => aE _ _ hj
 exact ⟨cH _ _ h.box, (hk _ (by omega)).trans h.res, by rw [hz]; exact hy.other h.box fun j _ _ bI => hk j bI, ⟨jG.os, jG.tape, jG.output, by rw [hz]; exact jG.size, fun k h1 h2 => (hk k (by omega)).trans (jG.block k h1 h2)⟩, h.rd.kept fun k nX => hk k (by omega), rI, N3⟩
theorem aAZ (w : World) (B g : Nat) (a : Option Addr) (len cap : Nat) (h : Rd w B g a len cap) (n most : Nat) (hn : 0 < n) (hn4 : n ≤ 4) (hm : most ≤ 60) (x y : Int) (hx : x = (n : Int)) (hy : y = (most : Int)) :
  Calls Tryz.prog 75 #[.pointer (some ⟨g, 0, none⟩), .int .i64 x, .int .i64 y] w (aAT n w B g a len cap) := by
 subst hx hy
 exact aLP w B g a len cap h n most hn hn4 hm
def aB6 (w : World) (B g : Nat) (a : Option Addr) (len cap : Nat) (e : Ending) (w' : World) : Prop :=
 ∃ x : cF, e = .returned (.agg #[.slice x.va 4 x.vc, .slice x.oa x.no x.oc]) ∧ lJ w' w.heap.size w'.heap.size x ∧ w.grownBy w' (some g) ∧ Rd w' B g a len cap
theorem lJ.len {w : World} {lo hi : Nat} {x : cF} (h : lJ w lo hi x) : x.no ≤ 400 := by
 obtain ⟨zs, m, e, _, _, _, _, _, h4⟩ := h
 omega
theorem lJ.caps {w : World} {lo hi : Nat} {x : cF} (h : lJ w lo hi x) : x.no ≤ x.oc := by
 obtain ⟨zs, m, e, _, _, _, c, _⟩ := h
 have := c.1
 omega
theorem Y8.out {w z : World} {B g : Nat} {a : Option Addr} {len cap cb : Nat} {x : cF} (h : Y8 w z B g a len cap cb x) :
  Hid (((z.setCell ⟨w.heap.size, 0, none⟩ (.slice x.va 4 x.vc)).setCell ⟨w.heap.size, 1, none⟩ (.slice x.oa x.no x.oc)).heap[w.heap.size]? = some (.cells #[.slice x.va 4 x.vc, .slice x.oa x.no x.oc] 27 (0, 0))) ∧ Hid (aB6 w B g a len cap (.returned (.agg #[.slice x.va 4 x.vc, .slice x.oa x.no x.oc])) ((z.setCell ⟨w.heap.size, 0, none⟩ (.slice x.va 4 x.vc)).setCell ⟨w.heap.size, 1, none⟩ (.slice x.oa x.no x.oc))) := by
 have rI := h.glt
 have hB := h.rd.own
 have jG := h.grown
 have hz := bB z w.heap.size (.slice x.va 4 x.vc) (.slice x.oa x.no x.oc)
 have hk : ∀ j, j ≠ w.heap.size → ((z.setCell ⟨w.heap.size, 0, none⟩ (.slice x.va 4 x.vc)).setCell ⟨w.heap.size, 1, none⟩ (.slice x.oa x.no x.oc)).heap[j]? = z.heap[j]? := fun j hj => aE _ _ hj
 exact ⟨cH _ _ h.res, x, rfl, ((h.crt.kept fun j h1 h2 => hk j (by omega)).more (by omega) (by rw [hz]; exact Nat.le_refl _)), ⟨jG.os, jG.tape, jG.output, by rw [hz]; exact jG.size, fun k h1 h2 => (hk k (by omega)).trans (jG.block k h1 h2)⟩, h.rd.kept fun k nX => hk k (by omega)⟩
set_option maxHeartbeats 80000000 in
theorem aMW (w : World) (B g : Nat) (a : Option Addr) (len cap : Nat) (h : Rd w B g a len cap) :
  Calls Tryz.prog 39 #[.pointer (some ⟨g, 0, none⟩)] w (aB6 w B g a len cap) := by
 have rI := h.lt
 have hBg := h.own
 have bG : Below w.heap.size w (w.alloc (.cells #[.slice none 0 0, .slice none 0 0] 27)) := (Below.refl _ w).alloc aRr _
 have HRd := aRp (h.grown (C3 bG) fun k hk => by cases hk)
 have nJ := aRp (bM (Below.refl _ (w.alloc (.cells #[.slice none 0 0, .slice none 0 0] 27))))
 have lC : w.heap.size < (w.alloc (.cells #[.slice none 0 0, .slice none 0 0] 27)).heap.size := by show _ < (w.heap.push _).size; simp
 have oJ := aRp bG
 clear h bG
 go_enter Tryz.func39, Tryz.ntmps39
 go_wp2_with fail
 generalize w.alloc (.cells #[.slice none 0 0, .slice none 0 0] 27) = w0 at HRd nJ oJ lC ⊢
 refine (aAZ w0 B g a len cap HRd.out 3 16 (by omega) (by omega) (by omega) 3 16 rfl rfl).mono ?_
 rintro e w1 ⟨q, c, l, rfl, o8⟩
 have HL1 := aRp o8
 have eL := o8.grown.size
 have tV := o8.num
 have c0 : w1.cell? ⟨q, 0, none⟩ = some (.slice (aJ l 0).va 4 (aJ l 0).vc) := (o8.cell 0 (by omega)).1
 have c1 : w1.cell? ⟨q, 1, none⟩ = some (.slice (aJ l 0).oa (aJ l 0).no (aJ l 0).oc) := (o8.cell 0 (by omega)).2
 have HX := aRp (vA.weak (o8.row.crt 0 (by rw [o8.num]; omega)))
 have gD := aRp ((o8.grown.block w.heap.size lC (by intro e; injection e with e; omega)).trans nJ.out)
 have tA := aRp ((aAP oJ.out).trans o8.grown)
 clear o8 HRd nJ
 generalize aJ l 0 = x at c0 c1 HX
 go_upto_region 2 with fail
 have dJ : Below w1.heap.size w1 (w1.alloc (.cells #[.slice x.va 4 x.vc, .slice x.oa x.no x.oc] 27)) := bl
 have qZ : Hid (Y8 w (w1.alloc (.cells #[.slice x.va 4 x.vc, .slice x.oa x.no x.oc] 27)) B g a len cap w1.heap.size x) := ⟨bM (Below.refl _ _), (dJ.block _ (by omega)).trans gD.out, ((HX.out.kept fun j _ h2 => dJ.block j h2).more (by omega) dJ.size), tA.out.trans (grown_of dJ), HL1.out.rd.grown (C3 dJ) (fun k hk => by cases hk), rI, by omega⟩
 clear c0 c1 HX gD tA HL1 tV
 generalize w1.alloc (.cells #[.slice x.va 4 x.vc, .slice x.oa x.no x.oc] 27) = w2 at qZ ⊢
 clear dJ
 generalize w1.heap.size = cb at qZ eL ⊢
 have jF := qZ.out.crt.len
 obtain ⟨q0, q1⟩ := pair_cells qZ.out.box
 clear eL oJ lC
 by_cases vC : x.no = 0
 ·have qH : ((x.no : Int) == 0) = true := by rw [vC]; rfl
  clear vC
  go_wp2_with fail
  refine (aAZ w2 B g a len cap qZ.out.rd 1 10 (by omega) (by omega) (by omega) 1 10 rfl rfl).mono ?_
  rintro e w3 ⟨q, c, l, rfl, tV⟩; have iD := tV.grown.size; have hwz := qZ.out.grown.size; have yN := tV.num; have c0 : w3.cell? ⟨q, 0, none⟩ = some (.slice (aJ l 0).va 4 (aJ l 0).vc) := (tV.cell 0 (by omega)).1
  have c1 : w3.cell? ⟨q, 1, none⟩ = some (.slice (aJ l 0).oa (aJ l 0).no (aJ l 0).oc) := (tV.cell 0 (by omega)).2
  have HY := aRp ((vA.weak (tV.row.crt 0 (by omega))).more (lo' := w.heap.size + 1) (hi' := w3.heap.size) (by have := (aRq qZ.out.res).1; omega) aRr)
  have rQ := aRp (qZ.out.step tV.grown tV.rd); clear tV yN qZ q0 q1; generalize aJ l 0 = y at c0 c1 HY; obtain ⟨q0, q1⟩ := pair_cells rQ.out.box; obtain ⟨g0, g1⟩ := aC rQ.out.box; have HIy := aRp (rQ.out.turn y HY.out)
  go_upto_region 4 with fail
  clear q0 q1 g0 g1 c0 c1 rQ HY; generalize (w3.setCell ⟨cb, 0, none⟩ (.slice y.va 4 y.vc)).setCell ⟨cb, 1, none⟩ (.slice y.oa y.no y.oc) = wy at HIy ⊢; clear iD hwz
  go_wp2_with fail
  refine (lH wy B g a len cap HIy.out.rd 40 (by omega) (by omega)).mono ?_
  rintro e w4 ⟨s, hs, rfl, rK, G3⟩; have fD := aRp (HIy.out.step rK G3); clear rK G3 HIy hs; have hxm := fD.out.crt.len
  by_cases X6 : s = 38
  ·subst X6
   by_cases vC : 0 < y.no
   ·have hxi : (0 : Int) < (y.no : Int) := by omega
    obtain ⟨oa, hoe⟩ : ∃ oa, y.oa = oa := ⟨_, rfl⟩; have sZ := aRp hoe; clear hoe; obtain ⟨q0, q1⟩ := pair_cells fD.out.box; have hoc := fD.out.crt.caps; rw [sZ.out] at q1
    go_upto_region 7 with fail
    have hS : w4.drew.cell? ⟨cb, 0, none⟩ = some (.slice y.va 4 y.vc) ∧ w4.drew.cell? ⟨cb, 1, none⟩ = some (.slice oa y.no y.oc) := ⟨q0, q1⟩
    go_wp2_with fail
    refine wp_region_held_drew (S := fun w' => w'.cell? ⟨cb, 0, none⟩ = some (.slice y.va 4 y.vc) ∧ w'.cell? ⟨cb, 1, none⟩ = some (.slice oa y.no y.oc)) (by kernel_rfl) hS (fun aO => ?_)
    refine tj 0 ?_
    refine tj 1 ?_
    refine tj 2 ?_
    refine tj 3 ?_
    refine tj 4 ?_
    refine tj 5 ?_
    refine tj 7 ?_
    refine rk 6 rfl (fun K hK => ?_)
    go_simp
    go_at_call 76
    refine (below w4.drew B g a len cap (fD.out.rd.kept (w' := w4.drew) fun _ _ => rfl) y.no vC (by omega)).mono ?_
    rintro e z1 ⟨j, hj, rfl, bZ, cR⟩; have iY : w4.grownBy z1 (some g) := ⟨bZ.os, bZ.tape, bZ.output, bZ.size, bZ.block⟩; have dZ := aRp (fD.out.step iY cR); have dQ : z1.cell? ⟨cb, 0, none⟩ = some (.slice y.va 4 y.vc) ∧ z1.cell? ⟨cb, 1, none⟩ = some (.slice oa y.no y.oc) := ⟨(pair_cells dZ.out.box).1, by rw [← sZ.out]; exact (pair_cells dZ.out.box).2⟩
    clear bZ cR iY; refine hK.out _ _ dQ (fun bQ => ?_)
    clear hK K
    (try simp only [Act.put, u1, u2, u3])
    refine rk 8 rfl (fun K hK => ?_)
    go_simp
    go_at_call 49
    refine (zC z1 B g a len cap dZ.out.rd 1 9 (by omega) (by omega) (by omega)).mono ?_
    rintro e z2 ⟨t, rfl, eA, dL⟩; have jX := aRp (dZ.out.step eA dL); have eD : z2.cell? ⟨cb, 0, none⟩ = some (.slice y.va 4 y.vc) ∧ z2.cell? ⟨cb, 1, none⟩ = some (.slice oa y.no y.oc) := ⟨(pair_cells jX.out.box).1, by rw [← sZ.out]; exact (pair_cells jX.out.box).2⟩
    clear eA dL; refine hK.out _ _ eD (fun dG => ?_)
    clear hK K
    (try simp only [Act.put, u1, u2, u3])
    have hji : (j : Int) < (y.no : Int) := by omega
    have hj0 : decide ((j : Int) < 0) = false := decide_eq_false (by omega)
    have aBa : ¬ ((j : Int) < 0) := by omega
    obtain ⟨ob, off, u, xD, ho1, ho2, ⟨ocs, tU⟩, d0, f0, tY⟩ := jX.out.crt.stamp hj t; have fW := aRp (jX.out.cell1 tU (by decide) (by omega) tY)
    have aEJ : oa = some ⟨ob, off, none⟩ := sZ.out.symm.trans xD; subst aEJ; clear tY tU hS dQ xD q0 q1 aO bQ; refine tj 9 ?_
    refine tj 10 ?_
    have eJ : (z2.setCell ⟨ob, off + j * 8 + 2, none⟩ (.int .i64 t)).cell? ⟨cb, 0, none⟩ = some (.slice y.va 4 y.vc) ∧ (z2.setCell ⟨ob, off + j * 8 + 2, none⟩ (.int .i64 t)).cell? ⟨cb, 1, none⟩ = some (.slice (some ⟨ob, off, none⟩) y.no y.oc) := ⟨(pair_cells fW.out.box).1, by rw [← sZ.out]; exact (pair_cells fW.out.box).2⟩
    refine rk 11 rfl (fun K hK => ?_)
    go_simp
    refine hK.out _ _ eJ (fun lD => ?_)
    clear hK K
    (try simp only [Act.put, u1, u2, u3])
    refine wpAnyH_done (by kernel_rfl) ?_ _
    clear eD eJ dG d0 f0 hji hj0 aBa sZ dZ jX; generalize z2.setCell ⟨ob, off + j * 8 + 2, none⟩ (.int .i64 t) = z3 at fW ⊢; obtain ⟨q0, q1⟩ := pair_cells fW.out.box; obtain ⟨r0, r1⟩ := pair_cells fW.out.res; obtain ⟨f0, f1⟩ := aC fW.out.res; obtain ⟨bL, kW⟩ := fW.out.out; go_wp2
    generalize (z3.setCell ⟨w.heap.size, 0, none⟩ (.slice y.va 4 y.vc)).setCell ⟨w.heap.size, 1, none⟩ (.slice y.oa y.no y.oc) = wf at bL kW ⊢; obtain ⟨p0, p1⟩ := pair_cells bL.out; exact bodyPost_ret (v := .agg #[.slice y.va 4 y.vc, .slice y.oa y.no y.oc]) (by simp [results, Tryz.results39, go_sem, p0, p1]) rfl kW.out
   ·have hxi : ¬ ((0 : Int) < (y.no : Int)) := by omega
    clear vC; obtain ⟨q0, q1⟩ := pair_cells fD.out.box; obtain ⟨r0, r1⟩ := pair_cells fD.out.res; obtain ⟨f0, f1⟩ := aC fD.out.res; obtain ⟨bL, kW⟩ := fD.out.out; go_wp2
    generalize (w4.setCell ⟨w.heap.size, 0, none⟩ (.slice y.va 4 y.vc)).setCell ⟨w.heap.size, 1, none⟩ (.slice y.oa y.no y.oc) = wf at bL kW ⊢; obtain ⟨p0, p1⟩ := pair_cells bL.out; exact bodyPost_ret (v := .agg #[.slice y.va 4 y.vc, .slice y.oa y.no y.oc]) (by simp [results, Tryz.results39, go_sem, p0, p1]) rfl kW.out
  have e38 : ((s : Int) == 38) = false := by rw [beq_eq_false_iff_ne]; omega
  by_cases h39 : s = 39
  ·subst h39
   clear e38 X6; obtain ⟨va, hve⟩ : ∃ va, y.va = va := ⟨_, rfl⟩; have xM := aRp hve; clear hve; obtain ⟨q0, q1⟩ := pair_cells fD.out.box; rw [xM.out] at q0
   go_upto_region 9 with fail
   have hS : w4.drew.cell? ⟨cb, 0, none⟩ = some (.slice va 4 y.vc) ∧ w4.drew.cell? ⟨cb, 1, none⟩ = some (.slice y.oa y.no y.oc) := ⟨q0, q1⟩
   go_wp2_with fail
   refine wp_region_held_drew (S := fun w' => w'.cell? ⟨cb, 0, none⟩ = some (.slice va 4 y.vc) ∧ w'.cell? ⟨cb, 1, none⟩ = some (.slice y.oa y.no y.oc)) (by kernel_rfl) hS (fun aO => ?_)
   refine tj 0 ?_
   refine tj 1 ?_
   refine tj 2 ?_
   refine rk 3 rfl (fun K hK => ?_)
   go_simp
   go_at_call 49
   refine (zC w4.drew B g a len cap (fD.out.rd.kept (w' := w4.drew) fun _ _ => rfl) 0 5 (by omega) (by omega) (by omega)).mono ?_
   rintro e z2 ⟨t, rfl, bZ, cR⟩; have iY : w4.grownBy z2 (some g) := ⟨bZ.os, bZ.tape, bZ.output, bZ.size, bZ.block⟩; have jX := aRp (fD.out.step iY cR); have eD : z2.cell? ⟨cb, 0, none⟩ = some (.slice va 4 y.vc) ∧ z2.cell? ⟨cb, 1, none⟩ = some (.slice y.oa y.no y.oc) := ⟨by rw [← xM.out]; exact (pair_cells jX.out.box).1, (pair_cells jX.out.box).2⟩
   clear bZ cR iY; refine hK.out _ _ eD (fun bQ => ?_)
   clear hK K
   (try simp only [Act.put, u1, u2, u3])
   obtain ⟨vb, u, G2, ho1, ho2, ⟨ocs, tU⟩, d0, f0, tY⟩ := jX.out.crt.vec t; have fW := aRp (jX.out.cell1 tU (by decide) (by omega) tY)
   have aEE : va = some ⟨vb, 0, none⟩ := xM.out.symm.trans G2; subst aEE; clear tY tU hS G2 q0 q1 aO; refine tj 4 ?_
   have eJ : (z2.setCell ⟨vb, 0, none⟩ (.int .i64 t)).cell? ⟨cb, 0, none⟩ = some (.slice (some ⟨vb, 0, none⟩) 4 y.vc) ∧ (z2.setCell ⟨vb, 0, none⟩ (.int .i64 t)).cell? ⟨cb, 1, none⟩ = some (.slice y.oa y.no y.oc) := ⟨by rw [← xM.out]; exact (pair_cells fW.out.box).1, (pair_cells fW.out.box).2⟩
   refine rk 5 rfl (fun K hK => ?_)
   go_simp
   refine hK.out _ _ eJ (fun lD => ?_)
   clear hK K
   (try simp only [Act.put, u1, u2, u3])
   refine wpAnyH_done (by kernel_rfl) ?_ _
   clear eD eJ bQ d0 f0 xM jX; generalize z2.setCell ⟨vb, 0, none⟩ (.int .i64 t) = z3 at fW ⊢; obtain ⟨q0, q1⟩ := pair_cells fW.out.box; obtain ⟨r0, r1⟩ := pair_cells fW.out.res; obtain ⟨f0, f1⟩ := aC fW.out.res; obtain ⟨bL, kW⟩ := fW.out.out; go_wp2
   generalize (z3.setCell ⟨w.heap.size, 0, none⟩ (.slice y.va 4 y.vc)).setCell ⟨w.heap.size, 1, none⟩ (.slice y.oa y.no y.oc) = wf at bL kW ⊢; obtain ⟨p0, p1⟩ := pair_cells bL.out; exact bodyPost_ret (v := .agg #[.slice y.va 4 y.vc, .slice y.oa y.no y.oc]) (by simp [results, Tryz.results39, go_sem, p0, p1]) rfl kW.out
  have e39 : ((s : Int) == 39) = false := by rw [beq_eq_false_iff_ne]; omega
  clear X6 h39; obtain ⟨q0, q1⟩ := pair_cells fD.out.box; obtain ⟨r0, r1⟩ := pair_cells fD.out.res; obtain ⟨f0, f1⟩ := aC fD.out.res; obtain ⟨bL, kW⟩ := fD.out.out; go_wp2
  generalize (w4.setCell ⟨w.heap.size, 0, none⟩ (.slice y.va 4 y.vc)).setCell ⟨w.heap.size, 1, none⟩ (.slice y.oa y.no y.oc) = wf at bL kW ⊢; obtain ⟨p0, p1⟩ := pair_cells bL.out; exact bodyPost_ret (v := .agg #[.slice y.va 4 y.vc, .slice y.oa y.no y.oc]) (by simp [results, Tryz.results39, go_sem, p0, p1]) rfl kW.out
 have qH : ((x.no : Int) == 0) = false := by rw [beq_eq_false_iff_ne]; omega
 go_wp2_with fail
 refine (aA2 w2 B g a len cap qZ.out.rd 3 (by omega) (by omega)).mono ?_
 rintro e wo ⟨o1, rfl, hgo, hro⟩
 have HIo := aRp (qZ.out.step hgo hro)
 clear hgo hro qZ q0 q1
 obtain ⟨q0, q1⟩ := pair_cells HIo.out.box
 cases o1
 rotate_left
 ·skip
  go_wp2_with fail
  refine (aAZ wo B g a len cap HIo.out.rd 1 10 (by omega) (by omega) (by omega) 1 10 rfl rfl).mono ?_
  rintro e w3 ⟨q, c, l, rfl, tV⟩; have iD := tV.grown.size; have hwz := HIo.out.grown.size; have yN := tV.num; have c0 : w3.cell? ⟨q, 0, none⟩ = some (.slice (aJ l 0).va 4 (aJ l 0).vc) := (tV.cell 0 (by omega)).1
  have c1 : w3.cell? ⟨q, 1, none⟩ = some (.slice (aJ l 0).oa (aJ l 0).no (aJ l 0).oc) := (tV.cell 0 (by omega)).2
  have HY := aRp ((vA.weak (tV.row.crt 0 (by omega))).more (lo' := w.heap.size + 1) (hi' := w3.heap.size) (by have := (aRq HIo.out.res).1; omega) aRr)
  have rQ := aRp (HIo.out.step tV.grown tV.rd); clear tV yN HIo q0 q1; generalize aJ l 0 = y at c0 c1 HY; obtain ⟨q0, q1⟩ := pair_cells rQ.out.box; obtain ⟨g0, g1⟩ := aC rQ.out.box; have HIy := aRp (rQ.out.turn y HY.out)
  go_upto_region 4 with fail
  clear q0 q1 g0 g1 c0 c1 rQ HY; generalize (w3.setCell ⟨cb, 0, none⟩ (.slice y.va 4 y.vc)).setCell ⟨cb, 1, none⟩ (.slice y.oa y.no y.oc) = wy at HIy ⊢; clear iD hwz
  go_wp2_with fail
  refine (lH wy B g a len cap HIy.out.rd 40 (by omega) (by omega)).mono ?_
  rintro e w4 ⟨s, hs, rfl, rK, G3⟩; have fD := aRp (HIy.out.step rK G3); clear rK G3 HIy hs; have hxm := fD.out.crt.len
  by_cases X6 : s = 38
  ·subst X6
   by_cases vC : 0 < y.no
   ·have hxi : (0 : Int) < (y.no : Int) := by omega
    obtain ⟨oa, hoe⟩ : ∃ oa, y.oa = oa := ⟨_, rfl⟩; have sZ := aRp hoe; clear hoe; obtain ⟨q0, q1⟩ := pair_cells fD.out.box; have hoc := fD.out.crt.caps; rw [sZ.out] at q1
    go_upto_region 7 with fail
    have hS : w4.drew.cell? ⟨cb, 0, none⟩ = some (.slice y.va 4 y.vc) ∧ w4.drew.cell? ⟨cb, 1, none⟩ = some (.slice oa y.no y.oc) := ⟨q0, q1⟩
    go_wp2_with fail
    refine wp_region_held_drew (S := fun w' => w'.cell? ⟨cb, 0, none⟩ = some (.slice y.va 4 y.vc) ∧ w'.cell? ⟨cb, 1, none⟩ = some (.slice oa y.no y.oc)) (by kernel_rfl) hS (fun aO => ?_)
    refine tj 0 ?_
    refine tj 1 ?_
    refine tj 2 ?_
    refine tj 3 ?_
    refine tj 4 ?_
    refine tj 5 ?_
    refine tj 7 ?_
    refine rk 6 rfl (fun K hK => ?_)
    go_simp
    go_at_call 76
    refine (below w4.drew B g a len cap (fD.out.rd.kept (w' := w4.drew) fun _ _ => rfl) y.no vC (by omega)).mono ?_
    rintro e z1 ⟨j, hj, rfl, bZ, cR⟩; have iY : w4.grownBy z1 (some g) := ⟨bZ.os, bZ.tape, bZ.output, bZ.size, bZ.block⟩; have dZ := aRp (fD.out.step iY cR); have dQ : z1.cell? ⟨cb, 0, none⟩ = some (.slice y.va 4 y.vc) ∧ z1.cell? ⟨cb, 1, none⟩ = some (.slice oa y.no y.oc) := ⟨(pair_cells dZ.out.box).1, by rw [← sZ.out]; exact (pair_cells dZ.out.box).2⟩
    clear bZ cR iY; refine hK.out _ _ dQ (fun bQ => ?_)
    clear hK K
    (try simp only [Act.put, u1, u2, u3])
    refine rk 8 rfl (fun K hK => ?_)
    go_simp
    go_at_call 49
    refine (zC z1 B g a len cap dZ.out.rd 1 9 (by omega) (by omega) (by omega)).mono ?_
    rintro e z2 ⟨t, rfl, eA, dL⟩; have jX := aRp (dZ.out.step eA dL); have eD : z2.cell? ⟨cb, 0, none⟩ = some (.slice y.va 4 y.vc) ∧ z2.cell? ⟨cb, 1, none⟩ = some (.slice oa y.no y.oc) := ⟨(pair_cells jX.out.box).1, by rw [← sZ.out]; exact (pair_cells jX.out.box).2⟩
    clear eA dL; refine hK.out _ _ eD (fun dG => ?_)
    clear hK K
    (try simp only [Act.put, u1, u2, u3])
    have hji : (j : Int) < (y.no : Int) := by omega
    have hj0 : decide ((j : Int) < 0) = false := decide_eq_false (by omega)
    have aBa : ¬ ((j : Int) < 0) := by omega
    obtain ⟨ob, off, u, xD, ho1, ho2, ⟨ocs, tU⟩, d0, f0, tY⟩ := jX.out.crt.stamp hj t; have fW := aRp (jX.out.cell1 tU (by decide) (by omega) tY)
    have aEJ : oa = some ⟨ob, off, none⟩ := sZ.out.symm.trans xD; subst aEJ; clear tY tU hS dQ xD q0 q1 aO bQ; refine tj 9 ?_
    refine tj 10 ?_
    have eJ : (z2.setCell ⟨ob, off + j * 8 + 2, none⟩ (.int .i64 t)).cell? ⟨cb, 0, none⟩ = some (.slice y.va 4 y.vc) ∧ (z2.setCell ⟨ob, off + j * 8 + 2, none⟩ (.int .i64 t)).cell? ⟨cb, 1, none⟩ = some (.slice (some ⟨ob, off, none⟩) y.no y.oc) := ⟨(pair_cells fW.out.box).1, by rw [← sZ.out]; exact (pair_cells fW.out.box).2⟩
    refine rk 11 rfl (fun K hK => ?_)
    go_simp
    refine hK.out _ _ eJ (fun lD => ?_)
    clear hK K
    (try simp only [Act.put, u1, u2, u3])
    refine wpAnyH_done (by kernel_rfl) ?_ _
    clear eD eJ dG d0 f0 hji hj0 aBa sZ dZ jX; generalize z2.setCell ⟨ob, off + j * 8 + 2, none⟩ (.int .i64 t) = z3 at fW ⊢; obtain ⟨q0, q1⟩ := pair_cells fW.out.box; obtain ⟨r0, r1⟩ := pair_cells fW.out.res; obtain ⟨f0, f1⟩ := aC fW.out.res; obtain ⟨bL, kW⟩ := fW.out.out; go_wp2
    generalize (z3.setCell ⟨w.heap.size, 0, none⟩ (.slice y.va 4 y.vc)).setCell ⟨w.heap.size, 1, none⟩ (.slice y.oa y.no y.oc) = wf at bL kW ⊢; obtain ⟨p0, p1⟩ := pair_cells bL.out; exact bodyPost_ret (v := .agg #[.slice y.va 4 y.vc, .slice y.oa y.no y.oc]) (by simp [results, Tryz.results39, go_sem, p0, p1]) rfl kW.out
   ·have hxi : ¬ ((0 : Int) < (y.no : Int)) := by omega
    clear vC; obtain ⟨q0, q1⟩ := pair_cells fD.out.box; obtain ⟨r0, r1⟩ := pair_cells fD.out.res; obtain ⟨f0, f1⟩ := aC fD.out.res; obtain ⟨bL, kW⟩ := fD.out.out; go_wp2
    generalize (w4.setCell ⟨w.heap.size, 0, none⟩ (.slice y.va 4 y.vc)).setCell ⟨w.heap.size, 1, none⟩ (.slice y.oa y.no y.oc) = wf at bL kW ⊢; obtain ⟨p0, p1⟩ := pair_cells bL.out; exact bodyPost_ret (v := .agg #[.slice y.va 4 y.vc, .slice y.oa y.no y.oc]) (by simp [results, Tryz.results39, go_sem, p0, p1]) rfl kW.out
  have e38 : ((s : Int) == 38) = false := by rw [beq_eq_false_iff_ne]; omega
  by_cases h39 : s = 39
  ·subst h39
   clear e38 X6; obtain ⟨va, hve⟩ : ∃ va, y.va = va := ⟨_, rfl⟩; have xM := aRp hve; clear hve; obtain ⟨q0, q1⟩ := pair_cells fD.out.box; rw [xM.out] at q0
   go_upto_region 9 with fail
   have hS : w4.drew.cell? ⟨cb, 0, none⟩ = some (.slice va 4 y.vc) ∧ w4.drew.cell? ⟨cb, 1, none⟩ = some (.slice y.oa y.no y.oc) := ⟨q0, q1⟩
   go_wp2_with fail
   refine wp_region_held_drew (S := fun w' => w'.cell? ⟨cb, 0, none⟩ = some (.slice va 4 y.vc) ∧ w'.cell? ⟨cb, 1, none⟩ = some (.slice y.oa y.no y.oc)) (by kernel_rfl) hS (fun aO => ?_)
   refine tj 0 ?_
   refine tj 1 ?_
   refine tj 2 ?_
   refine rk 3 rfl (fun K hK => ?_)
   go_simp
   go_at_call 49
   refine (zC w4.drew B g a len cap (fD.out.rd.kept (w' := w4.drew) fun _ _ => rfl) 0 5 (by omega) (by omega) (by omega)).mono ?_
   rintro e z2 ⟨t, rfl, bZ, cR⟩; have iY : w4.grownBy z2 (some g) := ⟨bZ.os, bZ.tape, bZ.output, bZ.size, bZ.block⟩; have jX := aRp (fD.out.step iY cR); have eD : z2.cell? ⟨cb, 0, none⟩ = some (.slice va 4 y.vc) ∧ z2.cell? ⟨cb, 1, none⟩ = some (.slice y.oa y.no y.oc) := ⟨by rw [← xM.out]; exact (pair_cells jX.out.box).1, (pair_cells jX.out.box).2⟩
   clear bZ cR iY; refine hK.out _ _ eD (fun bQ => ?_)
   clear hK K
   (try simp only [Act.put, u1, u2, u3])
   obtain ⟨vb, u, G2, ho1, ho2, ⟨ocs, tU⟩, d0, f0, tY⟩ := jX.out.crt.vec t; have fW := aRp (jX.out.cell1 tU (by decide) (by omega) tY)
   have aEE : va = some ⟨vb, 0, none⟩ := xM.out.symm.trans G2; subst aEE; clear tY tU hS G2 q0 q1 aO; refine tj 4 ?_
   have eJ : (z2.setCell ⟨vb, 0, none⟩ (.int .i64 t)).cell? ⟨cb, 0, none⟩ = some (.slice (some ⟨vb, 0, none⟩) 4 y.vc) ∧ (z2.setCell ⟨vb, 0, none⟩ (.int .i64 t)).cell? ⟨cb, 1, none⟩ = some (.slice y.oa y.no y.oc) := ⟨by rw [← xM.out]; exact (pair_cells fW.out.box).1, (pair_cells fW.out.box).2⟩
   refine rk 5 rfl (fun K hK => ?_)
   go_simp
   refine hK.out _ _ eJ (fun lD => ?_)
   clear hK K
   (try simp only [Act.put, u1, u2, u3])
   refine wpAnyH_done (by kernel_rfl) ?_ _
   clear eD eJ bQ d0 f0 xM jX; generalize z2.setCell ⟨vb, 0, none⟩ (.int .i64 t) = z3 at fW ⊢; obtain ⟨q0, q1⟩ := pair_cells fW.out.box; obtain ⟨r0, r1⟩ := pair_cells fW.out.res; obtain ⟨f0, f1⟩ := aC fW.out.res; obtain ⟨bL, kW⟩ := fW.out.out; go_wp2
   generalize (z3.setCell ⟨w.heap.size, 0, none⟩ (.slice y.va 4 y.vc)).setCell ⟨w.heap.size, 1, none⟩ (.slice y.oa y.no y.oc) = wf at bL kW ⊢; obtain ⟨p0, p1⟩ := pair_cells bL.out; exact bodyPost_ret (v := .agg #[.slice y.va 4 y.vc, .slice y.oa y.no y.oc]) (by simp [results, Tryz.results39, go_sem, p0, p1]) rfl kW.out
  have e39 : ((s : Int) == 39) = false := by rw [beq_eq_false_iff_ne]; omega
  clear X6 h39; obtain ⟨q0, q1⟩ := pair_cells fD.out.box; obtain ⟨r0, r1⟩ := pair_cells fD.out.res; obtain ⟨f0, f1⟩ := aC fD.out.res; obtain ⟨bL, kW⟩ := fD.out.out; go_wp2
  generalize (w4.setCell ⟨w.heap.size, 0, none⟩ (.slice y.va 4 y.vc)).setCell ⟨w.heap.size, 1, none⟩ (.slice y.oa y.no y.oc) = wf at bL kW ⊢; obtain ⟨p0, p1⟩ := pair_cells bL.out; exact bodyPost_ret (v := .agg #[.slice y.va 4 y.vc, .slice y.oa y.no y.oc]) (by simp [results, Tryz.results39, go_sem, p0, p1]) rfl kW.out
 go_upto_region 4 with fail
 clear q0 q1 qH
 go_wp2_with fail
 refine (lH wo B g a len cap HIo.out.rd 40 (by omega) (by omega)).mono ?_
 rintro e w4 ⟨s, hs, rfl, rK, G3⟩
 have fD := aRp (HIo.out.step rK G3)
 clear rK G3 HIo hs
 have hxm := fD.out.crt.len
 by_cases X6 : s = 38
 ·subst X6
  by_cases vC : 0 < x.no
  ·have hxi : (0 : Int) < (x.no : Int) := by omega
   obtain ⟨oa, hoe⟩ : ∃ oa, x.oa = oa := ⟨_, rfl⟩; have sZ := aRp hoe; clear hoe; obtain ⟨q0, q1⟩ := pair_cells fD.out.box; have hoc := fD.out.crt.caps; rw [sZ.out] at q1
   go_upto_region 7 with fail
   have hS : w4.drew.cell? ⟨cb, 0, none⟩ = some (.slice x.va 4 x.vc) ∧ w4.drew.cell? ⟨cb, 1, none⟩ = some (.slice oa x.no x.oc) := ⟨q0, q1⟩
   go_wp2_with fail
   refine wp_region_held_drew (S := fun w' => w'.cell? ⟨cb, 0, none⟩ = some (.slice x.va 4 x.vc) ∧ w'.cell? ⟨cb, 1, none⟩ = some (.slice oa x.no x.oc)) (by kernel_rfl) hS (fun aO => ?_)
   refine tj 0 ?_
   refine tj 1 ?_
   refine tj 2 ?_
   refine tj 3 ?_
   refine tj 4 ?_
   refine tj 5 ?_
   refine tj 7 ?_
   refine rk 6 rfl (fun K hK => ?_)
   go_simp
   go_at_call 76
   refine (below w4.drew B g a len cap (fD.out.rd.kept (w' := w4.drew) fun _ _ => rfl) x.no vC (by omega)).mono ?_
   rintro e z1 ⟨j, hj, rfl, bZ, cR⟩; have iY : w4.grownBy z1 (some g) := ⟨bZ.os, bZ.tape, bZ.output, bZ.size, bZ.block⟩; have dZ := aRp (fD.out.step iY cR); have dQ : z1.cell? ⟨cb, 0, none⟩ = some (.slice x.va 4 x.vc) ∧ z1.cell? ⟨cb, 1, none⟩ = some (.slice oa x.no x.oc) := ⟨(pair_cells dZ.out.box).1, by rw [← sZ.out]; exact (pair_cells dZ.out.box).2⟩
   clear bZ cR iY; refine hK.out _ _ dQ (fun bQ => ?_)
   clear hK K
   (try simp only [Act.put, u1, u2, u3])
   refine rk 8 rfl (fun K hK => ?_)
   go_simp
   go_at_call 49
   refine (zC z1 B g a len cap dZ.out.rd 1 9 (by omega) (by omega) (by omega)).mono ?_
   rintro e z2 ⟨t, rfl, eA, dL⟩; have jX := aRp (dZ.out.step eA dL); have eD : z2.cell? ⟨cb, 0, none⟩ = some (.slice x.va 4 x.vc) ∧ z2.cell? ⟨cb, 1, none⟩ = some (.slice oa x.no x.oc) := ⟨(pair_cells jX.out.box).1, by rw [← sZ.out]; exact (pair_cells jX.out.box).2⟩
   clear eA dL; refine hK.out _ _ eD (fun dG => ?_)
   clear hK K
   (try simp only [Act.put, u1, u2, u3])
   have hji : (j : Int) < (x.no : Int) := by omega
   have hj0 : decide ((j : Int) < 0) = false := decide_eq_false (by omega)
   have aBa : ¬ ((j : Int) < 0) := by omega
   obtain ⟨ob, off, u, xD, ho1, ho2, ⟨ocs, tU⟩, d0, f0, tY⟩ := jX.out.crt.stamp hj t; have fW := aRp (jX.out.cell1 tU (by decide) (by omega) tY)
   have aEJ : oa = some ⟨ob, off, none⟩ := sZ.out.symm.trans xD; subst aEJ; clear tY tU hS dQ xD q0 q1 aO bQ; refine tj 9 ?_
   refine tj 10 ?_
   have eJ : (z2.setCell ⟨ob, off + j * 8 + 2, none⟩ (.int .i64 t)).cell? ⟨cb, 0, none⟩ = some (.slice x.va 4 x.vc) ∧ (z2.setCell ⟨ob, off + j * 8 + 2, none⟩ (.int .i64 t)).cell? ⟨cb, 1, none⟩ = some (.slice (some ⟨ob, off, none⟩) x.no x.oc) := ⟨(pair_cells fW.out.box).1, by rw [← sZ.out]; exact (pair_cells fW.out.box).2⟩
   refine rk 11 rfl (fun K hK => ?_)
   go_simp
   refine hK.out _ _ eJ (fun lD => ?_)
   clear hK K
   (try simp only [Act.put, u1, u2, u3])
   refine wpAnyH_done (by kernel_rfl) ?_ _
   clear eD eJ dG d0 f0 hji hj0 aBa sZ dZ jX; generalize z2.setCell ⟨ob, off + j * 8 + 2, none⟩ (.int .i64 t) = z3 at fW ⊢; obtain ⟨q0, q1⟩ := pair_cells fW.out.box; obtain ⟨r0, r1⟩ := pair_cells fW.out.res; obtain ⟨f0, f1⟩ := aC fW.out.res; obtain ⟨bL, kW⟩ := fW.out.out; go_wp2
   generalize (z3.setCell ⟨w.heap.size, 0, none⟩ (.slice x.va 4 x.vc)).setCell ⟨w.heap.size, 1, none⟩ (.slice x.oa x.no x.oc) = wf at bL kW ⊢; obtain ⟨p0, p1⟩ := pair_cells bL.out; exact bodyPost_ret (v := .agg #[.slice x.va 4 x.vc, .slice x.oa x.no x.oc]) (by simp [results, Tryz.results39, go_sem, p0, p1]) rfl kW.out
  ·omega
 have e38 : ((s : Int) == 38) = false := by rw [beq_eq_false_iff_ne]; omega
 by_cases h39 : s = 39
 ·subst h39
  clear e38 X6; obtain ⟨va, hve⟩ : ∃ va, x.va = va := ⟨_, rfl⟩; have xM := aRp hve; clear hve; obtain ⟨q0, q1⟩ := pair_cells fD.out.box; rw [xM.out] at q0
  go_upto_region 9 with fail
  have hS : w4.drew.cell? ⟨cb, 0, none⟩ = some (.slice va 4 x.vc) ∧ w4.drew.cell? ⟨cb, 1, none⟩ = some (.slice x.oa x.no x.oc) := ⟨q0, q1⟩
  go_wp2_with fail
  refine wp_region_held_drew (S := fun w' => w'.cell? ⟨cb, 0, none⟩ = some (.slice va 4 x.vc) ∧ w'.cell? ⟨cb, 1, none⟩ = some (.slice x.oa x.no x.oc)) (by kernel_rfl) hS (fun aO => ?_)
  refine tj 0 ?_
  refine tj 1 ?_
  refine tj 2 ?_
  refine rk 3 rfl (fun K hK => ?_)
  go_simp
  go_at_call 49
  refine (zC w4.drew B g a len cap (fD.out.rd.kept (w' := w4.drew) fun _ _ => rfl) 0 5 (by omega) (by omega) (by omega)).mono ?_
  rintro e z2 ⟨t, rfl, bZ, cR⟩; have iY : w4.grownBy z2 (some g) := ⟨bZ.os, bZ.tape, bZ.output, bZ.size, bZ.block⟩; have jX := aRp (fD.out.step iY cR); have eD : z2.cell? ⟨cb, 0, none⟩ = some (.slice va 4 x.vc) ∧ z2.cell? ⟨cb, 1, none⟩ = some (.slice x.oa x.no x.oc) := ⟨by rw [← xM.out]; exact (pair_cells jX.out.box).1, (pair_cells jX.out.box).2⟩
  clear bZ cR iY; refine hK.out _ _ eD (fun bQ => ?_)
  clear hK K
  (try simp only [Act.put, u1, u2, u3])
  obtain ⟨vb, u, G2, ho1, ho2, ⟨ocs, tU⟩, d0, f0, tY⟩ := jX.out.crt.vec t; have fW := aRp (jX.out.cell1 tU (by decide) (by omega) tY)
  have aEE : va = some ⟨vb, 0, none⟩ := xM.out.symm.trans G2; subst aEE; clear tY tU hS G2 q0 q1 aO; refine tj 4 ?_
  have eJ : (z2.setCell ⟨vb, 0, none⟩ (.int .i64 t)).cell? ⟨cb, 0, none⟩ = some (.slice (some ⟨vb, 0, none⟩) 4 x.vc) ∧ (z2.setCell ⟨vb, 0, none⟩ (.int .i64 t)).cell? ⟨cb, 1, none⟩ = some (.slice x.oa x.no x.oc) := ⟨by rw [← xM.out]; exact (pair_cells fW.out.box).1, (pair_cells fW.out.box).2⟩
  refine rk 5 rfl (fun K hK => ?_)
  go_simp
  refine hK.out _ _ eJ (fun lD => ?_)
  clear hK K
  (try simp only [Act.put, u1, u2, u3])
  refine wpAnyH_done (by kernel_rfl) ?_ _
  clear eD eJ bQ d0 f0 xM jX; generalize z2.setCell ⟨vb, 0, none⟩ (.int .i64 t) = z3 at fW ⊢; obtain ⟨q0, q1⟩ := pair_cells fW.out.box; obtain ⟨r0, r1⟩ := pair_cells fW.out.res; obtain ⟨f0, f1⟩ := aC fW.out.res; obtain ⟨bL, kW⟩ := fW.out.out; go_wp2
  generalize (z3.setCell ⟨w.heap.size, 0, none⟩ (.slice x.va 4 x.vc)).setCell ⟨w.heap.size, 1, none⟩ (.slice x.oa x.no x.oc) = wf at bL kW ⊢; obtain ⟨p0, p1⟩ := pair_cells bL.out; exact bodyPost_ret (v := .agg #[.slice x.va 4 x.vc, .slice x.oa x.no x.oc]) (by simp [results, Tryz.results39, go_sem, p0, p1]) rfl kW.out
 have e39 : ((s : Int) == 39) = false := by rw [beq_eq_false_iff_ne]; omega
 clear X6 h39
 obtain ⟨q0, q1⟩ := pair_cells fD.out.box
 obtain ⟨r0, r1⟩ := pair_cells fD.out.res
 obtain ⟨f0, f1⟩ := aC fD.out.res
 obtain ⟨bL, kW⟩ := fD.out.out
 go_wp2
 generalize (w4.setCell ⟨w.heap.size, 0, none⟩ (.slice x.va 4 x.vc)).setCell ⟨w.heap.size, 1, none⟩ (.slice x.oa x.no x.oc) = wf at bL kW ⊢
 obtain ⟨p0, p1⟩ := pair_cells bL.out
 exact bodyPost_ret (v := .agg #[.slice x.va 4 x.vc, .slice x.oa x.no x.oc]) (by simp [results, Tryz.results39, go_sem, p0, p1]) rfl kW.out
structure Di (w wr : World) (B g : Nat) (a : Option Addr) (len cap : Nat) (u v : Array Value) : Prop where
 ra : wr.heap[w.heap.size]? = some (.cells u 27 (0, 0))
 rb : wr.heap[w.heap.size + 1]? = some (.cells v 29 (0, 0))
 bel : Below w.heap.size w wr
 rd : Rd wr B g a len cap
 glt : w.heap.size + 1 < g
theorem Di.step {w wr w1 : World} {B g : Nat} {a : Option Addr} {len cap : Nat} {u v : Array Value} (h : Di w wr B g a len cap u v) (hg : wr.grownBy w1 (some g)) (hr : Rd w1 B g a len cap) : Di w w1 B g a len cap u v := by
 have rI := h.glt
 have hs := h.bel.size
 have hk : ∀ j, j < wr.heap.size → j ≠ g → w1.heap[j]? = wr.heap[j]? := fun j h1 h2 => hg.block j h1 (by intro e; injection e with e; exact h2 e)
 exact ⟨(hk _ (aRq h.ra).1 (by omega)).trans h.ra, (hk _ (aRq h.rb).1 (by omega)).trans h.rb, h.bel.grown hg hs (fun k hk => by cases hk; omega), hr, rI⟩
theorem Di.box {w wr : World} {B g : Nat} {a : Option Addr} {len cap : Nat} {u v : Array Value} (h : Di w wr B g a len cap u v) (ob : Obj) : Di w (wr.alloc ob) B g a len cap u v := by
 have dJ : Below wr.heap.size wr (wr.alloc ob) := bl
 exact h.step (grown_of dJ) (h.rd.grown (C3 dJ) fun k hk => by cases hk)
theorem Di.mk0 (w : World) : (((w.alloc (.cells #[.slice none 0 0, .slice none 0 0] 27)).alloc (.cells #[.int .i64 0, .string ⟨#[]⟩, .int .i64 0, .int .i64 0, .int .i64 0] 29)).heap[w.heap.size]? = some (.cells #[.slice none 0 0, .slice none 0 0] 27 (0, 0))) ∧ (((w.alloc (.cells #[.slice none 0 0, .slice none 0 0] 27)).alloc (.cells #[.int .i64 0, .string ⟨#[]⟩, .int .i64 0, .int .i64 0, .int .i64 0] 29)).heap[w.heap.size + 1]? = some (.cells #[.int .i64 0, .string ⟨#[]⟩, .int .i64 0, .int .i64 0, .int .i64 0] 29 (0, 0))) ∧ Below w.heap.size w ((w.alloc (.cells #[.slice none 0 0, .slice none 0 0] 27)).alloc (.cells #[.int .i64 0, .string ⟨#[]⟩, .int .i64 0, .int .i64 0, .int .i64 0] 29)) ∧ ((w.alloc (.cells #[.slice none 0 0, .slice none 0 0] 27)).alloc (.cells #[.int .i64 0, .string ⟨#[]⟩, .int .i64 0, .int .i64 0, .int .i64 0] 29)).heap.size = w.heap.size + 2 := by
 have e1 : (w.alloc (.cells #[.slice none 0 0, .slice none 0 0] 27)).heap.size = w.heap.size + 1 := by simp
 refine ⟨(Below.heap_alloc _ _ _ (by omega)).trans (heap_alloc_new _ _), ?_, ((Below.refl _ w).alloc aRr _).alloc (by simp) _, by simp⟩
 rw [← e1]; exact heap_alloc_new _ _
theorem aCJ {w : World} {b : Nat} {c0 c1 c2 c3 c4 v0 v1 v2 v3 v4 : Value} {T : TypeId} (h : w.heap[b]? = some (.cells #[c0, c1, c2, c3, c4] T (0, 0))) :
  (((((w.setCell ⟨b, 0, none⟩ v0).setCell ⟨b, 1, none⟩ v1).setCell ⟨b, 2, none⟩ v2).setCell ⟨b, 3, none⟩ v3).setCell ⟨b, 4, none⟩ v4).heap[b]? = some (.cells #[v0, v1, v2, v3, v4] T (0, 0)) :=
 heap_setCell_same _ _ _ _ _ _ (heap_setCell_same _ _ _ _ _ _ (heap_setCell_same _ _ _ _ _ _ (heap_setCell_same _ _ _ _ _ _ (heap_setCell_same _ _ _ _ _ _ h))))
theorem aAw {w : World} {b k : Nat} {v0 v1 v2 v3 v4 : Value} (h : k ≠ b) : (((((w.setCell ⟨b, 0, none⟩ v0).setCell ⟨b, 1, none⟩ v1).setCell ⟨b, 2, none⟩ v2).setCell ⟨b, 3, none⟩ v3).setCell ⟨b, 4, none⟩ v4).heap[k]? = w.heap[k]? := by
 rw [heap_setCell_other _ _ _ _ h, heap_setCell_other _ _ _ _ h, heap_setCell_other _ _ _ _ h, heap_setCell_other _ _ _ _ h, heap_setCell_other _ _ _ _ h]
theorem aMn (w : World) (b : Nat) (v0 v1 v2 v3 v4 : Value) : (((((w.setCell ⟨b, 0, none⟩ v0).setCell ⟨b, 1, none⟩ v1).setCell ⟨b, 2, none⟩ v2).setCell ⟨b, 3, none⟩ v3).setCell ⟨b, 4, none⟩ v4).heap.size = w.heap.size := by simp [World.setCell]
theorem aCK {B : Nat} {w0 w : World} {b : Nat} {v0 v1 v2 v3 v4 : Value} (h : Below B w0 w) (hb : B ≤ b) : Below B w0 (((((w.setCell ⟨b, 0, none⟩ v0).setCell ⟨b, 1, none⟩ v1).setCell ⟨b, 2, none⟩ v2).setCell ⟨b, 3, none⟩ v3).setCell ⟨b, 4, none⟩ v4) :=
 ((((h.setCell (p := ⟨b, 0, none⟩) hb _).setCell (p := ⟨b, 1, none⟩) hb _).setCell (p := ⟨b, 2, none⟩) hb _).setCell (p := ⟨b, 3, none⟩) hb _).setCell (p := ⟨b, 4, none⟩) hb _
theorem aAx {w : World} {b : Nat} {cs : Array Value} {T : TypeId} (h : w.heap[b]? = some (.cells cs T (0, 0))) : w.frozen? ⟨b, 0, none⟩ = false ∧ w.frozen? ⟨b, 1, none⟩ = false ∧ w.frozen? ⟨b, 2, none⟩ = false ∧ w.frozen? ⟨b, 3, none⟩ = false ∧ w.frozen? ⟨b, 4, none⟩ = false :=
 ⟨aRt h, aRt h, aRt h, aRt h, aRt h⟩
theorem gG {w : World} {b : Nat} {v0 v1 v2 v3 v4 : Value} {T : TypeId} {fr : Nat × Nat} (h : w.heap[b]? = some (.cells #[v0, v1, v2, v3, v4] T fr)) : w.cell? ⟨b, 0, none⟩ = some v0 ∧ w.cell? ⟨b, 1, none⟩ = some v1 ∧ w.cell? ⟨b, 2, none⟩ = some v2 ∧ w.cell? ⟨b, 3, none⟩ = some v3 ∧ w.cell? ⟨b, 4, none⟩ = some v4 :=
 ⟨aRs h, aRs h, aRs h, aRs h, aRs h⟩
theorem lJ.otherM {w w' : World} {lo hi q : Nat} {x : cF} {cs : Array Value} {fr : Nat × Nat} (h : lJ w lo hi x) (hq : w.heap[q]? = some (.cells cs 29 fr)) (hk : ∀ j, lo ≤ j → j < hi → j ≠ q → w'.heap[j]? = w.heap[j]?) : lJ w' lo hi x := by
 obtain ⟨zs, m, e, a, b, c⟩ := h
 refine ⟨zs, m, e, ⟨a.1, fun hn => ?_⟩, ⟨b.1, fun hn => ?_⟩, c⟩
 ·obtain ⟨g, aY, e1, h1, h2, hg, hc⟩ := a.2 hn
  have bI : g ≠ q := by
   intro e2
   rw [e2, hq] at hg; injection hg with hg; injection hg with _ hg; exact absurd hg (by decide)
  exact ⟨g, aY, e1, h1, h2, (hk g h1 h2 bI).trans hg, hc⟩
 ·obtain ⟨g, off, aY, e1, h1, h2, hg, hs, hc⟩ := b.2 hn
  have bI : g ≠ q := by
   intro e2
   rw [e2, hq] at hg; injection hg with hg; injection hg with _ hg; exact absurd hg (by decide)
  exact ⟨g, off, aY, e1, h1, h2, (hk g h1 h2 bI).trans hg, hs, hc⟩
def aKN (w : World) (e : Ending) (w' : World) : Prop :=
 ∃ (x : cF) (dev kind : Int) (item : ByteArray) (qty dv sq : Int), item.size ≤ 8 ∧ e = .returned (.tuple #[.agg #[.slice x.va 4 x.vc, .slice x.oa x.no x.oc], .int .i64 dev, .agg #[.int .i64 kind, .string item, .int .i64 qty, .int .i64 dv, .int .i64 sq]]) ∧ lJ w' w.heap.size w'.heap.size x ∧ Below w.heap.size w w'
def aKO (w : World) (e : Ending) (w' : World) : Prop :=
 ∃ (kind : Int) (item : ByteArray) (qty dv sq : Int), item.size ≤ 8 ∧ e = .returned (.agg #[.int .i64 kind, .string item, .int .i64 qty, .int .i64 dv, .int .i64 sq]) ∧ Below w.heap.size w w'
theorem aMV (w : World) (B g : Nat) (a : Option Addr) (len cap : Nat) (h : Rd w B g a len cap) :
  Calls Tryz.prog 40 #[.pointer (some ⟨g, 0, none⟩)] w (I0 .i64 w B g a len cap) := by
 go_enter Tryz.func40, Tryz.ntmps40
 go_wp2_with fail
 refine (aA2 w B g a len cap h 40 (by omega) (by omega)).mono ?_
 rintro e w1 ⟨b, rfl, bZ, cR⟩
 cases b
 ·go_wp2_with fail
  refine (lH w1 B g a len cap cR 4 (by omega) (by omega)).mono ?_
  rintro e w2 ⟨v, hv, rfl, eA, dL⟩; have hg := bZ.trans eA; go_wp2
  go_ret
  exact ⟨_, rfl, hg, dL⟩
 ·go_wp2_with fail
  refine (zC w1 B g a len cap cR 0 3 (by omega) (by omega) (by omega)).mono ?_
  rintro e w2 ⟨v, rfl, eA, dL⟩; have hg := bZ.trans eA; go_wp2
  go_ret
  exact ⟨_, rfl, hg, dL⟩
set_option maxHeartbeats 80000000 in
theorem aDh (w : World) (B : Nat) (a : Option Addr) (len cap : Nat) (hB : B ≤ w.heap.size) (h : Src w B a len) :
  Calls Tryz.prog 16 #[.slice a len cap] w (aKN w) := by
 obtain ⟨hra, hrb, bG, aNJ⟩ := Di.mk0 w
 have xF := aRp aNJ
 have HS0 := aRp (h.kept (w' := (w.alloc (.cells #[.slice none 0 0, .slice none 0 0] 27)).alloc (.cells #[.int .i64 0, .string ⟨#[]⟩, .int .i64 0, .int .i64 0, .int .i64 0] 29)) fun k hk => bG.block k (by omega))
 have HRa := aRp hra
 have lI := aRp hrb
 have oJ := aRp bG
 clear h hra hrb bG aNJ
 go_enter Tryz.func16, Tryz.ntmps16
 go_wp2_with fail
 generalize (w.alloc (.cells #[.slice none 0 0, .slice none 0 0] 27)).alloc (.cells #[.int .i64 0, .string ⟨#[]⟩, .int .i64 0, .int .i64 0, .int .i64 0] 29) = w0 at HS0 HRa lI oJ xF ⊢
 refine (aIo w0 B a len cap (by have := xF.out; omega) HS0.out).mono ?_
 rintro e w1 ⟨rfl, bZ, cR⟩
 have lT : Hid (Di w w1 B w0.heap.size a len cap #[.slice none 0 0, .slice none 0 0] #[.int .i64 0, .string ⟨#[]⟩, .int .i64 0, .int .i64 0, .int .i64 0]) := ⟨(bZ.block _ (by have := xF.out; omega) (by intro e; cases e)).trans HRa.out, (bZ.block _ (by have := xF.out; omega) (by intro e; cases e)).trans lI.out, oJ.out.grown bZ (by have := xF.out; omega) (fun k hk => by cases hk), cR, by have := xF.out; omega⟩
 clear bZ cR HS0 HRa lI oJ xF
 generalize w0.heap.size = g at lT ⊢
 go_wp2_with fail
 refine (aMW w1 B g a len cap lT.out.rd).mono ?_
 rintro e w2 ⟨x, rfl, hx, eA, dL⟩
 have vS := aRp (lT.out.step eA dL)
 have hsw := lT.out.bel.size
 have rI := vS.out.glt
 have jG := lT.out.rd.lt
 have HX := aRp hx
 have Q6 := eA.size
 have hBw := hB
 clear hx eA dL lT
 go_upto_region 3 with fail
 have zB := aRp (bM (Below.refl _ (w2.alloc (.cells #[.slice x.va 4 x.vc, .slice x.oa x.no x.oc] 27))))
 have zA := aRp (vS.out.box (.cells #[.slice x.va 4 x.vc, .slice x.oa x.no x.oc] 27))
 have mM := aRp (HX.out.kept (w' := w2.alloc (.cells #[.slice x.va 4 x.vc, .slice x.oa x.no x.oc] 27)) fun j _ h2 => Below.heap_alloc _ _ _ h2)
 have iD : w2.heap.size + 1 = (w2.alloc (.cells #[.slice x.va 4 x.vc, .slice x.oa x.no x.oc] 27)).heap.size := by simp
 clear vS HX
 have aPr : w1.heap.size ≤ w2.heap.size := Q6
 generalize w2.alloc (.cells #[.slice x.va 4 x.vc, .slice x.oa x.no x.oc] 27) = w3 at zB zA mM iD ⊢
 have hcg : w2.heap.size ≠ g := by omega
 have N3 : w2.heap.size < w3.heap.size := by omega
 generalize w2.heap.size = cb at zB mM iD hcg N3 aPr Q6 ⊢
 have aQ2 : cb + 1 ≤ w3.heap.size := by omega
 clear iD
 go_wp2_with fail
 refine (aMV w3 B g a len cap zA.out.rd).mono ?_
 rintro e w4 ⟨dev, rfl, rK, G3⟩
 have mP := aRp (zA.out.step rK G3)
 have HC4 := aRp ((rK.block cb (by omega) (by intro e; injection e with e; exact hcg e)).trans zB.out)
 have vD := rK.size
 have uQ := aRp (mM.out.kept fun j h1 h2 => rK.block j (by omega) (by intro e; injection e with e; omega))
 clear rK G3 zA zB mM
 have hS : w4.drew.cell? ⟨cb, 0, none⟩ = some (.slice x.va 4 x.vc) ∧ w4.drew.cell? ⟨cb, 1, none⟩ = some (.slice x.oa x.no x.oc) := pair_cells HC4.out
 go_wp2_with fail
 refine wp_region_held_drew (S := fun w' => w'.cell? ⟨cb, 0, none⟩ = some (.slice x.va 4 x.vc) ∧ w'.cell? ⟨cb, 1, none⟩ = some (.slice x.oa x.no x.oc)) (by kernel_rfl) hS (fun aO => ?_)
 refine tj 0 ?_
 refine tj 1 ?_
 refine tj 2 ?_
 refine rk 3 rfl (fun K hK => ?_)
 go_simp
 go_at_call 41
 refine (aDy w4.drew B g a len cap (mP.out.rd.kept (w' := w4.drew) fun _ _ => rfl) (by show _ ≤ w4.heap.size; omega)).mono ?_
 rintro e z1 ⟨kind, item, qty, dv, sq, hi, rfl, bZ, cR⟩
 have iY : w4.grownBy z1 (some g) := ⟨bZ.os, bZ.tape, bZ.output, bZ.size, bZ.block⟩
 have oG := aRp (mP.out.step iY cR)
 have aRa : cb < z1.heap.size := Nat.lt_of_lt_of_le (by omega) iY.size
 have HC5 := aRp ((iY.block cb (by omega) (by intro e; injection e with e; exact hcg e)).trans HC4.out)
 have hs5 := iY.size
 have HX5 := aRp ((uQ.out.kept fun j h1 h2 => iY.block j (by omega) (by intro e; injection e with e; omega)).more (lo' := w1.heap.size) (hi' := z1.heap.size) aRr (by omega))
 have N5 : z1.cell? ⟨cb, 0, none⟩ = some (.slice x.va 4 x.vc) ∧ z1.cell? ⟨cb, 1, none⟩ = some (.slice x.oa x.no x.oc) := pair_cells HC5.out
 clear bZ cR iY
 refine hK.out _ _ N5 (fun bQ => ?_)
 clear hK K
 (try simp only [Act.put, u1, u2, u3])
 have uN := aRp (HX5.out.more (lo' := w.heap.size) (hi' := z1.heap.size) (by omega) aRr)
 have kc : lJ ((z1.setCell ⟨w.heap.size, 0, none⟩ (.slice x.va 4 x.vc)).setCell ⟨w.heap.size, 1, none⟩ (.slice x.oa x.no x.oc)) w.heap.size z1.heap.size x := uN.out.other oG.out.ra fun j _ _ bI => aE _ _ bI
 obtain ⟨r0, r1⟩ := pair_cells oG.out.ra
 obtain ⟨f0, f1⟩ := aC oG.out.ra
 have aOe := aRp (cH (.slice x.va 4 x.vc) (.slice x.oa x.no x.oc) oG.out.ra)
 have aFm : Hid (((z1.setCell ⟨w.heap.size, 0, none⟩ (.slice x.va 4 x.vc)).setCell ⟨w.heap.size, 1, none⟩ (.slice x.oa x.no x.oc)).heap[w.heap.size + 1]? = some (.cells #[.int .i64 0, .string ⟨#[]⟩, .int .i64 0, .int .i64 0, .int .i64 0] 29 (0, 0))) := (aE _ _ (by omega)).trans oG.out.rb
 have hB6 : Below w.heap.size w ((z1.setCell ⟨w.heap.size, 0, none⟩ (.slice x.va 4 x.vc)).setCell ⟨w.heap.size, 1, none⟩ (.slice x.oa x.no x.oc)) := oG.out.bel.trans (dW z1 w.heap.size 0 1 _ _)
 have j9 := bB z1 w.heap.size (.slice x.va 4 x.vc) (.slice x.oa x.no x.oc)
 have aNu : z1.heap.size ≤ ((z1.setCell ⟨w.heap.size, 0, none⟩ (.slice x.va 4 x.vc)).setCell ⟨w.heap.size, 1, none⟩ (.slice x.oa x.no x.oc)).heap.size := Nat.le_of_eq j9.symm
 have aPS : ((z1.setCell ⟨w.heap.size, 0, none⟩ (.slice x.va 4 x.vc)).setCell ⟨w.heap.size, 1, none⟩ (.slice x.oa x.no x.oc)).heap.size ≤ z1.heap.size := Nat.le_of_eq j9
 clear j9
 have HK6 := aRp kc
 have eC := aRp hB6
 clear kc hB6
 have mJ : ((z1.setCell ⟨w.heap.size, 0, none⟩ (.slice x.va 4 x.vc)).setCell ⟨w.heap.size, 1, none⟩ (.slice x.oa x.no x.oc)).cell? ⟨cb, 0, none⟩ = some (.slice x.va 4 x.vc) ∧ ((z1.setCell ⟨w.heap.size, 0, none⟩ (.slice x.va 4 x.vc)).setCell ⟨w.heap.size, 1, none⟩ (.slice x.oa x.no x.oc)).cell? ⟨cb, 1, none⟩ = some (.slice x.oa x.no x.oc) := pair_cells ((aE _ _ (by omega)).trans HC5.out)
 refine rk 4 rfl (fun K hK => ?_)
 go_simp
 refine hK.out _ _ mJ (fun dG => ?_)
 clear hK K
 (try simp only [Act.put, u1, u2, u3])
 clear r0 r1 f0 f1
 generalize ((z1.setCell ⟨w.heap.size, 0, none⟩ (.slice x.va 4 x.vc)).setCell ⟨w.heap.size, 1, none⟩ (.slice x.oa x.no x.oc)) = z6 at aOe aFm eC HK6 mJ aNu aPS dG ⊢
 refine tj 5 ?_
 obtain ⟨g0, g1, g2, g3, g4⟩ := gG aFm.out
 obtain ⟨f0, f1, f2, f3, f4⟩ := aAx aFm.out
 have p8 : (((((z6.setCell ⟨w.heap.size + 1, 0, none⟩ (.int .i64 kind)).setCell ⟨w.heap.size + 1, 1, none⟩ (.string item)).setCell ⟨w.heap.size + 1, 2, none⟩ (.int .i64 qty)).setCell ⟨w.heap.size + 1, 3, none⟩ (.int .i64 dv)).setCell ⟨w.heap.size + 1, 4, none⟩ (.int .i64 sq)).cell? ⟨cb, 0, none⟩ = some (.slice x.va 4 x.vc) ∧ (((((z6.setCell ⟨w.heap.size + 1, 0, none⟩ (.int .i64 kind)).setCell ⟨w.heap.size + 1, 1, none⟩ (.string item)).setCell ⟨w.heap.size + 1, 2, none⟩ (.int .i64 qty)).setCell ⟨w.heap.size + 1, 3, none⟩ (.int .i64 dv)).setCell ⟨w.heap.size + 1, 4, none⟩ (.int .i64 sq)).cell? ⟨cb, 1, none⟩ = some (.slice x.oa x.no x.oc) := ⟨(World.cell?_of_block (a := ⟨cb, 0, none⟩) (aAw (by show cb ≠ _; omega))).trans mJ.1, (World.cell?_of_block (a := ⟨cb, 1, none⟩) (aAw (by show cb ≠ _; omega))).trans mJ.2⟩
 have aOd : Hid ((((((z6.setCell ⟨w.heap.size + 1, 0, none⟩ (.int .i64 kind)).setCell ⟨w.heap.size + 1, 1, none⟩ (.string item)).setCell ⟨w.heap.size + 1, 2, none⟩ (.int .i64 qty)).setCell ⟨w.heap.size + 1, 3, none⟩ (.int .i64 dv)).setCell ⟨w.heap.size + 1, 4, none⟩ (.int .i64 sq)).heap[w.heap.size]? = some (.cells #[.slice x.va 4 x.vc, .slice x.oa x.no x.oc] 27 (0, 0))) := (aAw (by omega)).trans aOe.out
 have aOc : Hid ((((((z6.setCell ⟨w.heap.size + 1, 0, none⟩ (.int .i64 kind)).setCell ⟨w.heap.size + 1, 1, none⟩ (.string item)).setCell ⟨w.heap.size + 1, 2, none⟩ (.int .i64 qty)).setCell ⟨w.heap.size + 1, 3, none⟩ (.int .i64 dv)).setCell ⟨w.heap.size + 1, 4, none⟩ (.int .i64 sq)).heap[w.heap.size + 1]? = some (.cells #[.int .i64 kind, .string item, .int .i64 qty, .int .i64 dv, .int .i64 sq] 29 (0, 0))) := aCJ aFm.out
 have tB : Hid (Below w.heap.size w (((((z6.setCell ⟨w.heap.size + 1, 0, none⟩ (.int .i64 kind)).setCell ⟨w.heap.size + 1, 1, none⟩ (.string item)).setCell ⟨w.heap.size + 1, 2, none⟩ (.int .i64 qty)).setCell ⟨w.heap.size + 1, 3, none⟩ (.int .i64 dv)).setCell ⟨w.heap.size + 1, 4, none⟩ (.int .i64 sq))) := aCK eC.out (Nat.le_succ _)
 have HK7 : Hid (lJ (((((z6.setCell ⟨w.heap.size + 1, 0, none⟩ (.int .i64 kind)).setCell ⟨w.heap.size + 1, 1, none⟩ (.string item)).setCell ⟨w.heap.size + 1, 2, none⟩ (.int .i64 qty)).setCell ⟨w.heap.size + 1, 3, none⟩ (.int .i64 dv)).setCell ⟨w.heap.size + 1, 4, none⟩ (.int .i64 sq)) w.heap.size (((((z6.setCell ⟨w.heap.size + 1, 0, none⟩ (.int .i64 kind)).setCell ⟨w.heap.size + 1, 1, none⟩ (.string item)).setCell ⟨w.heap.size + 1, 2, none⟩ (.int .i64 qty)).setCell ⟨w.heap.size + 1, 3, none⟩ (.int .i64 dv)).setCell ⟨w.heap.size + 1, 4, none⟩ (.int .i64 sq)).heap.size x) := by
  have h7 : lJ (((((z6.setCell ⟨w.heap.size + 1, 0, none⟩ (.int .i64 kind)).setCell ⟨w.heap.size + 1, 1, none⟩ (.string item)).setCell ⟨w.heap.size + 1, 2, none⟩ (.int .i64 qty)).setCell ⟨w.heap.size + 1, 3, none⟩ (.int .i64 dv)).setCell ⟨w.heap.size + 1, 4, none⟩ (.int .i64 sq)) w.heap.size z1.heap.size x := HK6.out.otherM aFm.out fun j _ _ bI => aAw bI
  exact h7.more aRr (by rw [aMn]; exact aNu)
 refine rk 6 rfl (fun K hK => ?_)
 go_simp
 refine hK.out _ _ p8 (fun lD => ?_)
 clear hK K
 (try simp only [Act.put, u1, u2, u3])
 refine wpAnyH_done (by kernel_rfl) ?_ _
 clear g0 g1 g2 g3 g4 f0 f1 f2 f3 f4 p8 mJ
 generalize (((((z6.setCell ⟨w.heap.size + 1, 0, none⟩ (.int .i64 kind)).setCell ⟨w.heap.size + 1, 1, none⟩ (.string item)).setCell ⟨w.heap.size + 1, 2, none⟩ (.int .i64 qty)).setCell ⟨w.heap.size + 1, 3, none⟩ (.int .i64 dv)).setCell ⟨w.heap.size + 1, 4, none⟩ (.int .i64 sq)) = wf at aOd aOc tB HK7 ⊢
 obtain ⟨q0, q1⟩ := pair_cells aOd.out
 obtain ⟨g0, g1, g2, g3, g4⟩ := gG aOc.out
 go_wp2
 exact bodyPost_ret (v := .tuple #[.agg #[.slice x.va 4 x.vc, .slice x.oa x.no x.oc], .int .i64 dev, .agg #[.int .i64 kind, .string item, .int .i64 qty, .int .i64 dv, .int .i64 sq]]) (by simp [results, Tryz.results16, go_sem, q0, q1, g0, g1, g2, g3, g4]) rfl ⟨x, dev, kind, item, qty, dv, sq, hi, rfl, HK7.out, tB.out⟩
theorem eG.more {w : World} {B B' : Nat} {E : Int → Addr} (h : eG w B E) (hB : B ≤ B') : eG w B' E :=
 ⟨Nat.le_trans h.low hB, h.cells, fun c h1 h2 => by obtain ⟨a, r⟩ := h.lies c h1 h2; exact ⟨by omega, r⟩, h.ne, h.typ⟩
theorem aEY (w : World) (x y : Array Value) (S T : TypeId) : ((w.alloc (.cells x S)).alloc (.cells y T)).heap[w.heap.size]? = some (.cells x S (0, 0)) ∧ ((w.alloc (.cells x S)).alloc (.cells y T)).heap[w.heap.size + 1]? = some (.cells y T (0, 0)) ∧ Below w.heap.size w ((w.alloc (.cells x S)).alloc (.cells y T)) := by
 have e1 : (w.alloc (.cells x S)).heap.size = w.heap.size + 1 := by simp
 refine ⟨(Below.heap_alloc _ _ _ (by omega)).trans (heap_alloc_new _ _), ?_, ((Below.refl _ w).alloc aRr _).alloc (by simp) _⟩
 rw [← e1]; exact heap_alloc_new _ _
theorem aU {w w' : World} {g : Nat} {cs : Array Value} {T : TypeId} {fr : Nat × Nat} (hb : Below w.heap.size w w') (H : Hid (w.heap[g]? = some (.cells cs T fr))) : Hid (w'.heap[g]? = some (.cells cs T fr)) := (hb.block _ (bT H.out)).trans H.out
theorem fV {w0 w w' : World} {B : Nat} (hb : Below w.heap.size w w') (H : Hid (Below B w0 w)) (h : B ≤ w.heap.size := by omega) : Hid (Below B w0 w') := H.out.trans (hb.mono h)
theorem bC {w w' : World} {B n : Nat} {a : Option Addr} {l : List Int} (hb : Below w.heap.size w w') (H : Hid (Ints w B a n l)) (h : B ≤ w.heap.size := by omega) : Hid (Ints w' B a n l) := H.out.below hb h
theorem bD {w w' : World} {B n : Nat} {a : Option Addr} {l : List aA} (hb : Below w.heap.size w w') (H : Hid (bR w B a n l)) (h : B ≤ w.heap.size := by omega) : Hid (bR w' B a n l) := H.out.below hb h
theorem hU {w w' : World} {B : Nat} {E : Int → Addr} (hb : Below w.heap.size w w') (H : Hid (eG w B E)) (h : B ≤ w.heap.size := by omega) : Hid (eG w' B E) := H.out.below hb h
theorem cK {w w' : World} {p : Addr} {v : Value} (hb : Below w.heap.size w w') (H : Hid (w.cell? p = some v)) (h : p.block < w.heap.size := by dsimp only; omega) : Hid (w'.cell? p = some v) := (hb.cell (p := p) h).trans H.out
theorem wN {xs : List Int} {l : List aA} {dev kind : Int} {item : ByteArray} {qty dv sq k : Int} {zs : List Int} {m : List aA} (h : cD xs l dev kind item qty dv sq = (k, zs, m)) : zs.length ≤ 4 ∧ m.length ≤ 160 ∧ (∀ i, i < m.length → (aB m i).item.size ≤ 1048576) ∧ (k ≠ 1 → aD zs m = true) := by
 have hc := K5 xs l dev kind item qty dv sq
 rw [h] at hc
 rcases hc with hc | hc
 ·injection hc with h1 h2
  injection h2 with h2 h3; subst h1 h2 h3; exact ⟨Nat.zero_le _, Nat.zero_le _, fun i hi => absurd hi (Nat.not_lt_zero _), fun q => absurd rfl q⟩
 ·have hc : aD zs m = true := hc
  exact ⟨Nat.le_of_eq (eP hc).1, eF hc, fun i hi => Nat.le_trans (dI (fI hc hi)).2.2.2.2.1 (by omega), fun _ => hc⟩
theorem aAs {m : List aA} (h : ∀ i, i < m.length → (aB m i).item.size ≤ 1048576) : ∀ o ∈ m, o.item.size ≤ 1048576 := fun o ho => by
 obtain ⟨i, hi, e⟩ := List.mem_iff_getElem.1 ho
 have := h i hi
 unfold aB at this
 rw [List.getD_eq_getElem?_getD, List.getElem?_eq_getElem hi] at this
 rw [← e]
 exact this
end Go.Proofs.YthkagbnpcjidfaaGreatDoor
