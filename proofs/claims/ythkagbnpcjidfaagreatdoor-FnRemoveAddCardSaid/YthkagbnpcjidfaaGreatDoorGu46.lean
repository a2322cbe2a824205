/- Walks and mathematics that several claims share, part 46. -/
import Derived.Test.YthkagbnpcjidfaaGreatDoorGu44
import Derived.Test.YthkagbnpcjidfaaGreatDoorGu45
import Derived.Deep.Cut
namespace Go.Proofs.YthkagbnpcjidfaaGreatDoor
set_option maxRecDepth 100000
open Go.RowKit
set_option linter.unusedVariables false
set_option linter.unusedSimpArgs false
def lG (w : World) (lo hi : Nat) (x : cC) : Prop :=
 ∃ zs m, x.no = m.length ∧ Own w lo hi x.va 4 zs ∧ bB w lo hi x.oa m.length m ∧ bM x.va 4 x.vc ∧ bM x.oa m.length x.oc ∧ (∀ i, i < m.length → (aC m i).item.size ≤ 8) ∧ m.length ≤ 400
theorem tL.weak {w : World} {lo hi : Nat} {x : cC} (h : tL w lo hi x) : lG w lo hi x := by
 obtain ⟨zs, m, e, a, b, c, d, f⟩ := h
 exact ⟨zs, m, e, a, b, c, d, f.item, f.most⟩
theorem lG.more {w : World} {lo hi lo' hi' : Nat} {x : cC} (h : lG w lo hi x) (h1 : lo' ≤ lo) (h2 : hi ≤ hi') : lG w lo' hi' x := by
 obtain ⟨zs, m, e, a, b, c⟩ := h
 exact ⟨zs, m, e, a.more h1 h2, b.more h1 h2, c⟩
theorem lG.kept {w w' : World} {lo hi : Nat} {x : cC} (h : lG w lo hi x) (hk : ∀ j, lo ≤ j → j < hi → w'.heap[j]? = w.heap[j]?) : lG w' lo hi x := by
 obtain ⟨zs, m, e, a, b, c⟩ := h
 exact ⟨zs, m, e, a.kept hk, b.kept hk, c⟩
theorem lG.other {w w' : World} {lo hi q : Nat} {x : cC} {cs : Array Value} {fr : Nat × Nat} (h : lG w lo hi x) (hq : w.heap[q]? = some (.cells cs 27 fr)) (hk : ∀ j, lo ≤ j → j < hi → j ≠ q → w'.heap[j]? = w.heap[j]?) : lG w' lo hi x := by
 obtain ⟨zs, m, e, a, b, c⟩ := h
 refine ⟨zs, m, e, ⟨a.1, fun hn => ?_⟩, ⟨b.1, fun hn => ?_⟩, c⟩
 ·obtain ⟨g, aW, e1, h1, h2, hg, hc⟩ := a.2 hn
  have bO : g ≠ q := by
   intro e2
   rw [e2, hq] at hg; injection hg with hg; injection hg with _ hg; exact absurd hg (by decide)
  exact ⟨g, aW, e1, h1, h2, (hk g h1 h2 bO).trans hg, hc⟩
 ·obtain ⟨g, off, aW, e1, h1, h2, hg, hs, hc⟩ := b.2 hn
  have bO : g ≠ q := by
   intro e2
   rw [e2, hq] at hg; injection hg with hg; injection hg with _ hg; exact absurd hg (by decide)
  exact ⟨g, off, aW, e1, h1, h2, (hk g h1 h2 bO).trans hg, hs, hc⟩
def P3 (m : List aA) (i : Nat) (t : Int) : List aA := m.set i { aC m i with stamp := t }
theorem lG.stamp {w : World} {lo hi i : Nat} {x : cC} (h : lG w lo hi x) (hi' : i < x.no) (t : Int) :
  ∃ g off u, x.oa = some ⟨g, off, none⟩ ∧ lo ≤ g ∧ g < hi ∧ (∃ cs, w.heap[g]? = some (.cells cs 50 (0, 0))) ∧ w.cell? ⟨g, off + i * 8 + 2, none⟩ = some (.int .i64 u) ∧ w.frozen? ⟨g, off + i * 8 + 2, none⟩ = false ∧ lG (w.setCell ⟨g, off + i * 8 + 2, none⟩ (.int .i64 t)) lo hi x := by
 obtain ⟨zs, m, e, a, b, c1, c2, c3, c4⟩ := h
 rw [e] at hi'
 obtain ⟨g, off, cs, e1, h1, h2, hg, hs, hc⟩ := b.2 (by omega)
 have hx := hc i hi'
 have hl : (P3 m i t).length = m.length := by unfold P3; simp
 refine ⟨g, off, (aC m i).stamp, e1, h1, h2, ⟨cs, hg⟩, (hx.at hg).2.2.1, aPs hg, zs, P3 m i t, by rw [hl]; exact e, ⟨a.1, fun hn => ?_⟩, ⟨rfl, fun hn => ⟨g, off, cs.setIfInBounds (off + i * 8 + 2) (.int .i64 t), e1, h1, h2, heap_setCell_same _ _ _ _ _ _ hg, by rw [hl]; simpa using hs, fun j hj => ?_⟩⟩, c1, by rw [hl]; exact c2, fun j hj => ?_, by rw [hl]; exact c4⟩
 ·obtain ⟨q, aW, e2, a1, a2, a3, a4⟩ := a.2 hn
  have bO : q ≠ g := by
   intro eq
   rw [eq, hg] at a3; injection a3 with a3; injection a3 with _ a3; exact absurd a3 (by decide)
  exact ⟨q, aW, e2, a1, a2, (heap_setCell_other _ _ _ _ bO).trans a3, a4⟩
 ·rw [hl] at hj
  have hy := hc j hj; unfold P3; rw [jZ hi']
  by_cases e2 : i = j
  ·subst e2
   rw [if_pos rfl]; obtain ⟨y0, y1, y2, y3, y4, y5, y6, y7⟩ := hy; have ne : ∀ q, q ≠ 2 → (cs.setIfInBounds (off + i * 8 + 2) (.int .i64 t))[off + i * 8 + q]? = cs[off + i * 8 + q]? := fun q hq => by rw [Array.getElem?_setIfInBounds, if_neg (by omega)]
   refine ⟨(ne 0 (by omega)).trans y0, (ne 1 (by omega)).trans y1, ?_, (ne 3 (by omega)).trans y3, (ne 4 (by omega)).trans y4, (ne 5 (by omega)).trans y5, (ne 6 (by omega)).trans y6, (ne 7 (by omega)).trans y7⟩
   rw [Array.getElem?_setIfInBounds, if_pos rfl, if_pos (aPp y2).1]
  ·rw [if_neg e2]
   have ne : ∀ q, q < 8 → (cs.setIfInBounds (off + i * 8 + 2) (.int .i64 t))[off + j * 8 + q]? = cs[off + j * 8 + q]? := fun q hq => by rw [Array.getElem?_setIfInBounds, if_neg (by omega)]
   obtain ⟨y0, y1, y2, y3, y4, y5, y6, y7⟩ := hy; exact ⟨(ne 0 (by omega)).trans y0, (ne 1 (by omega)).trans y1, (ne 2 (by omega)).trans y2, (ne 3 (by omega)).trans y3, (ne 4 (by omega)).trans y4, (ne 5 (by omega)).trans y5, (ne 6 (by omega)).trans y6, (ne 7 (by omega)).trans y7⟩
 ·rw [hl] at hj
  unfold P3 aC; rw [jZ hi']
  split
  ·exact c3 i hi'
  ·exact c3 j hj
theorem lG.vec {w : World} {lo hi : Nat} {x : cC} (h : lG w lo hi x) (t : Int) :
  ∃ g u, x.va = some ⟨g, 0, none⟩ ∧ lo ≤ g ∧ g < hi ∧ (∃ cs, w.heap[g]? = some (.cells cs 2 (0, 0))) ∧ w.cell? ⟨g, 0, none⟩ = some (.int .i64 u) ∧ w.frozen? ⟨g, 0, none⟩ = false ∧ lG (w.setCell ⟨g, 0, none⟩ (.int .i64 t)) lo hi x := by
 obtain ⟨zs, m, e, a, b, c⟩ := h
 have pP := a.1
 obtain ⟨g, aW, e1, h1, h2, hg, hc⟩ := a.2 (by omega)
 have hx := hc 0 (by omega)
 refine ⟨g, zs.getD 0 0, e1, h1, h2, ⟨aW, hg⟩, (aPr hg).trans hx, aPs hg, zs.set 0 t, m, e, ⟨by rw [List.length_set]; exact pP, fun hn => ⟨g, aW.setIfInBounds 0 (.int .i64 t), e1, h1, h2, heap_setCell_same _ _ _ _ _ _ hg, fun i hi => ?_⟩⟩, ⟨b.1, fun hn => ?_⟩, c⟩
 ·rw [Array.getElem?_setIfInBounds, jZ (by omega)]
  by_cases e2 : 0 = i
  ·subst e2
   rw [if_pos rfl, if_pos rfl, if_pos (aPp hx).1]
  ·rw [if_neg e2, if_neg e2]
   exact hc i hi
 ·obtain ⟨q, off, cs, e2, a1, a2, a3, a4, a5⟩ := b.2 hn
  have bO : q ≠ g := by
   intro eq
   rw [eq, hg] at a3; injection a3 with a3; injection a3 with _ a3; exact absurd a3 (by decide)
  exact ⟨q, off, cs, e2, a1, a2, (heap_setCell_other _ _ _ _ bO).trans a3, a4, a5⟩
structure O7 (w wr : World) (B g : Nat) (a : Option Addr) (len cap cb : Nat) (x : cC) : Prop where
 box : wr.heap[cb]? = some (.cells #[.slice x.va 4 x.vc, .slice x.oa x.no x.oc] 27 (0, 0))
 res : wr.heap[w.heap.size]? = some (.cells #[.slice none 0 0, .slice none 0 0] 27 (0, 0))
 crt : lG wr (w.heap.size + 1) wr.heap.size x
 grown : w.grownBy wr (some g)
 rd : Rd wr B g a len cap
 glt : g < w.heap.size
 clo : w.heap.size < cb
theorem O7.step {w wr w1 : World} {B g : Nat} {a : Option Addr} {len cap cb : Nat} {x : cC} (h : O7 w wr B g a len cap cb x) (hg : wr.grownBy w1 (some g)) (hr : Rd w1 B g a len cap) : O7 w w1 B g a len cap cb x := by
 have sY := h.glt
 have Z8 := h.clo
 have hs := hg.size
 have hk : ∀ j, j < wr.heap.size → j ≠ g → w1.heap[j]? = wr.heap[j]? := fun j h1 h2 => hg.block j h1 (by intro e; injection e with e; exact h2 e)
 exact ⟨(hk cb (aPp h.box).1 (by omega)).trans h.box, (hk _ (aPp h.res).1 (by omega)).trans h.res, (h.crt.kept fun j h1 h2 => hk j h2 (by omega)).more aPq hs, h.grown.trans hg, hr, sY, Z8⟩
theorem O7.cell1 {w z : World} {B g b i : Nat} {a : Option Addr} {len cap cb : Nat} {x : cC} {T : TypeId} {cs : Array Value} {v : Value} (h : O7 w z B g a len cap cb x) (hb : z.heap[b]? = some (.cells cs T (0, 0))) (hT : T ≠ 27) (iE : w.heap.size < b) (hc : lG (z.setCell ⟨b, i, none⟩ v) (w.heap.size + 1) z.heap.size x) : O7 w (z.setCell ⟨b, i, none⟩ v) B g a len cap cb x := by
 have sY := h.glt
 have Z8 := h.clo
 have hB := h.rd.own
 have jH := h.grown
 have hz : (z.setCell ⟨b, i, none⟩ v).heap.size = z.heap.size := by simp [World.setCell]
 have hk : ∀ j, j ≠ b → (z.setCell ⟨b, i, none⟩ v).heap[j]? = z.heap[j]? := fun j hj => heap_setCell_other _ _ _ _ hj
 have hcb : cb ≠ b := by
  intro e
  have hx := h.box; rw [e, hb] at hx; injection hx with hx; injection hx with _ hx; exact hT hx
 exact ⟨(hk cb hcb).trans h.box, (hk _ (by omega)).trans h.res, by rw [hz]; exact hc, ⟨jH.os, jH.tape, jH.output, by rw [hz]; exact jH.size, fun k h1 h2 => (hk k (by omega)).trans (jH.block k h1 h2)⟩, h.rd.kept fun k qF => hk k (by omega), sY, Z8⟩
theorem O7.turn {w z : World} {B g : Nat} {a : Option Addr} {len cap cb : Nat} {x : cC} (h : O7 w z B g a len cap cb x) (y : cC) (hy : lG z (w.heap.size + 1) z.heap.size y) : O7 w ((z.setCell ⟨cb, 0, none⟩ (.slice y.va 4 y.vc)).setCell ⟨cb, 1, none⟩ (.slice y.oa y.no y.oc)) B g a len cap cb y := by
 have sY := h.glt
 have Z8 := h.clo
 have hB := h.rd.own
 have jH := h.grown
 have hz := aY z cb (.slice y.va 4 y.vc) (.slice y.oa y.no y.oc)
 have hk : ∀ j, j ≠ cb → ((z.setCell ⟨cb, 0, none⟩ (.slice y.va 4 y.vc)).setCell ⟨cb, 1, none⟩ (.slice y.oa y.no y.oc)).heap[j]? = z.heap[j]? := fun j hj => aD _ _ hj
 exact ⟨cE _ _ h.box, (hk _ (by omega)).trans h.res, by rw [hz]; exact hy.other h.box fun j _ _ bO => hk j bO, ⟨jH.os, jH.tape, jH.output, by rw [hz]; exact jH.size, fun k h1 h2 => (hk k (by omega)).trans (jH.block k h1 h2)⟩, h.rd.kept fun k qF => hk k (by omega), sY, Z8⟩
theorem l8 (w : World) (B g : Nat) (a : Option Addr) (len cap : Nat) (h : Rd w B g a len cap) (n most : Nat) (hn : 0 < n) (hn4 : n ≤ 4) (hm : most ≤ 60) (x y : Int) (hx : x = (n : Int)) (hy : y = (most : Int)) :
  Calls Tryz.prog 75 #[.pointer (some ⟨g, 0, none⟩), .int .i64 x, .int .i64 y] w (g9 n w B g a len cap) := by
 subst hx hy
 exact aJV w B g a len cap h n most hn hn4 hm
def aAE (w : World) (B g : Nat) (a : Option Addr) (len cap : Nat) (e : Ending) (w' : World) : Prop :=
 ∃ x : cC, e = .returned (.agg #[.slice x.va 4 x.vc, .slice x.oa x.no x.oc]) ∧ lG w' w.heap.size w'.heap.size x ∧ w.grownBy w' (some g) ∧ Rd w' B g a len cap
theorem lG.len {w : World} {lo hi : Nat} {x : cC} (h : lG w lo hi x) : x.no ≤ 400 := by
 obtain ⟨zs, m, e, _, _, _, _, _, h4⟩ := h
 omega
theorem lG.caps {w : World} {lo hi : Nat} {x : cC} (h : lG w lo hi x) : x.no ≤ x.oc := by
 obtain ⟨zs, m, e, _, _, _, c, _⟩ := h
 have := c.1
 omega
theorem O7.out {w z : World} {B g : Nat} {a : Option Addr} {len cap cb : Nat} {x : cC} (h : O7 w z B g a len cap cb x) :
  Hid (((z.setCell ⟨w.heap.size, 0, none⟩ (.slice x.va 4 x.vc)).setCell ⟨w.heap.size, 1, none⟩ (.slice x.oa x.no x.oc)).heap[w.heap.size]? = some (.cells #[.slice x.va 4 x.vc, .slice x.oa x.no x.oc] 27 (0, 0))) ∧ Hid (aAE w B g a len cap (.returned (.agg #[.slice x.va 4 x.vc, .slice x.oa x.no x.oc])) ((z.setCell ⟨w.heap.size, 0, none⟩ (.slice x.va 4 x.vc)).setCell ⟨w.heap.size, 1, none⟩ (.slice x.oa x.no x.oc))) := by
 have sY := h.glt
 have hB := h.rd.own
 have jH := h.grown
 have hz := aY z w.heap.size (.slice x.va 4 x.vc) (.slice x.oa x.no x.oc)
 have hk : ∀ j, j ≠ w.heap.size → ((z.setCell ⟨w.heap.size, 0, none⟩ (.slice x.va 4 x.vc)).setCell ⟨w.heap.size, 1, none⟩ (.slice x.oa x.no x.oc)).heap[j]? = z.heap[j]? := fun j hj => aD _ _ hj
 exact ⟨cE _ _ h.res, x, rfl, ((h.crt.kept fun j h1 h2 => hk j (by omega)).more (by omega) (by rw [hz]; exact Nat.le_refl _)), ⟨jH.os, jH.tape, jH.output, by rw [hz]; exact jH.size, fun k h1 h2 => (hk k (by omega)).trans (jH.block k h1 h2)⟩, h.rd.kept fun k qF => hk k (by omega)⟩
set_option maxHeartbeats 80000000 in
theorem aK1 (w : World) (B g : Nat) (a : Option Addr) (len cap : Nat) (h : Rd w B g a len cap) :
  Calls Tryz.prog 39 #[.pointer (some ⟨g, 0, none⟩)] w (aAE w B g a len cap) := by
 have sY := h.lt
 have hBg := h.own
 have bD : Below w.heap.size w (w.alloc (.cells #[.slice none 0 0, .slice none 0 0] 27)) := (Below.refl _ w).alloc aPq _
 have V4 := aPo (h.grown (K3 bD) fun k hk => by cases hk)
 have oV := aPo (bX (Below.refl _ (w.alloc (.cells #[.slice none 0 0, .slice none 0 0] 27))))
 have jW : w.heap.size < (w.alloc (.cells #[.slice none 0 0, .slice none 0 0] 27)).heap.size := by show _ < (w.heap.push _).size; simp
 have pW := aPo bD
 clear h bD
 go_enter Tryz.func39, Tryz.ntmps39
 go_wp2_with fail
 generalize w.alloc (.cells #[.slice none 0 0, .slice none 0 0] 27) = w0 at V4 oV pW jW ⊢
 refine (l8 w0 B g a len cap V4.out 3 16 (by omega) (by omega) (by omega) 3 16 rfl rfl).mono ?_
 rintro e w1 ⟨q, c, l, rfl, T1⟩
 have HL1 := aPo T1
 have eZ := T1.grown.size
 have sX := T1.num
 have c0 : w1.cell? ⟨q, 0, none⟩ = some (.slice (aH l 0).va 4 (aH l 0).vc) := (T1.cell 0 (by omega)).1
 have c1 : w1.cell? ⟨q, 1, none⟩ = some (.slice (aH l 0).oa (aH l 0).no (aH l 0).oc) := (T1.cell 0 (by omega)).2
 have HX := aPo (tL.weak (T1.row.crt 0 (by rw [T1.num]; omega)))
 have fQ := aPo ((T1.grown.block w.heap.size jW (by intro e; injection e with e; omega)).trans oV.out)
 have C8 := aPo ((d9 pW.out).trans T1.grown)
 clear T1 V4 oV
 generalize aH l 0 = x at c0 c1 HX
 go_upto_region 2 with fail
 have dR : Below w1.heap.size w1 (w1.alloc (.cells #[.slice x.va 4 x.vc, .slice x.oa x.no x.oc] 27)) := bl
 have oL : Hid (O7 w (w1.alloc (.cells #[.slice x.va 4 x.vc, .slice x.oa x.no x.oc] 27)) B g a len cap w1.heap.size x) := ⟨bX (Below.refl _ _), (dR.block _ (by omega)).trans fQ.out, ((HX.out.kept fun j _ h2 => dR.block j h2).more (by omega) dR.size), C8.out.trans (grown_of dR), HL1.out.rd.grown (K3 dR) (fun k hk => by cases hk), sY, by omega⟩
 clear c0 c1 HX fQ C8 HL1 sX
 generalize w1.alloc (.cells #[.slice x.va 4 x.vc, .slice x.oa x.no x.oc] 27) = w2 at oL ⊢
 clear dR
 generalize w1.heap.size = cb at oL eZ ⊢
 have iU := oL.out.crt.len
 obtain ⟨q0, q1⟩ := pair_cells oL.out.box
 clear eZ pW jW
 by_cases qD : x.no = 0
 ·have pM : ((x.no : Int) == 0) = true := by rw [qD]; rfl
  clear qD
  go_wp2_with fail
  refine (l8 w2 B g a len cap oL.out.rd 1 10 (by omega) (by omega) (by omega) 1 10 rfl rfl).mono ?_
  rintro e w3 ⟨q, c, l, rfl, sX⟩; have gO := sX.grown.size; have hwz := oL.out.grown.size; have hn3 := sX.num; have c0 : w3.cell? ⟨q, 0, none⟩ = some (.slice (aH l 0).va 4 (aH l 0).vc) := (sX.cell 0 (by omega)).1
  have c1 : w3.cell? ⟨q, 1, none⟩ = some (.slice (aH l 0).oa (aH l 0).no (aH l 0).oc) := (sX.cell 0 (by omega)).2
  have HY := aPo ((tL.weak (sX.row.crt 0 (by omega))).more (lo' := w.heap.size + 1) (hi' := w3.heap.size) (by have := (aPp oL.out.res).1; omega) aPq)
  have tJ := aPo (oL.out.step sX.grown sX.rd); clear sX hn3 oL q0 q1; generalize aH l 0 = y at c0 c1 HY; obtain ⟨q0, q1⟩ := pair_cells tJ.out.box; obtain ⟨g0, g1⟩ := aB tJ.out.box; have HIy := aPo (tJ.out.turn y HY.out)
  go_upto_region 4 with fail
  clear q0 q1 g0 g1 c0 c1 tJ HY; generalize (w3.setCell ⟨cb, 0, none⟩ (.slice y.va 4 y.vc)).setCell ⟨cb, 1, none⟩ (.slice y.oa y.no y.oc) = wy at HIy ⊢; clear gO hwz
  go_wp2_with fail
  refine (lE wy B g a len cap HIy.out.rd 40 (by omega) (by omega)).mono ?_
  rintro e w4 ⟨s, hs, rfl, wP, S6⟩; have fL := aPo (HIy.out.step wP S6); clear wP S6 HIy hs; have hxm := fL.out.crt.len
  by_cases N7 : s = 38
  ·subst N7
   by_cases qD : 0 < y.no
   ·have hxi : (0 : Int) < (y.no : Int) := by omega
    obtain ⟨oa, hoe⟩ : ∃ oa, y.oa = oa := ⟨_, rfl⟩; have sC := aPo hoe; clear hoe; obtain ⟨q0, q1⟩ := pair_cells fL.out.box; have hoc := fL.out.crt.caps; rw [sC.out] at q1
    go_upto_region 7 with fail
    have hS : w4.drew.cell? ⟨cb, 0, none⟩ = some (.slice y.va 4 y.vc) ∧ w4.drew.cell? ⟨cb, 1, none⟩ = some (.slice oa y.no y.oc) := ⟨q0, q1⟩
    go_wp2_with fail
    refine wp_region_held_drew (S := fun w' => w'.cell? ⟨cb, 0, none⟩ = some (.slice y.va 4 y.vc) ∧ w'.cell? ⟨cb, 1, none⟩ = some (.slice oa y.no y.oc)) (by kernel_rfl) hS (fun aL => ?_)
    refine tj 0 ?_
    refine tj 1 ?_
    refine tj 2 ?_
    refine tj 3 ?_
    refine tj 4 ?_
    refine tj 5 ?_
    refine tj 7 ?_
    refine rk 6 rfl (fun K hK => ?_)
    go_simp
    go_at_call 76
    refine (below w4.drew B g a len cap (fL.out.rd.kept (w' := w4.drew) fun _ _ => rfl) y.no qD (by omega)).mono ?_
    rintro e z1 ⟨j, hj, rfl, bZ, cX⟩; have iK : w4.grownBy z1 (some g) := ⟨bZ.os, bZ.tape, bZ.output, bZ.size, bZ.block⟩; have dZ := aPo (fL.out.step iK cX); have bG : z1.cell? ⟨cb, 0, none⟩ = some (.slice y.va 4 y.vc) ∧ z1.cell? ⟨cb, 1, none⟩ = some (.slice oa y.no y.oc) := ⟨(pair_cells dZ.out.box).1, by rw [← sC.out]; exact (pair_cells dZ.out.box).2⟩
    clear bZ cX iK; refine hK.out _ _ bG (fun bS => ?_)
    clear hK K
    (try simp only [Act.put, u1, u2, u3])
    refine rk 8 rfl (fun K hK => ?_)
    go_simp
    go_at_call 49
    refine (zY z1 B g a len cap dZ.out.rd 1 9 (by omega) (by omega) (by omega)).mono ?_
    rintro e z2 ⟨t, rfl, eH, dU⟩; have jS := aPo (dZ.out.step eH dU); have eD : z2.cell? ⟨cb, 0, none⟩ = some (.slice y.va 4 y.vc) ∧ z2.cell? ⟨cb, 1, none⟩ = some (.slice oa y.no y.oc) := ⟨(pair_cells jS.out.box).1, by rw [← sC.out]; exact (pair_cells jS.out.box).2⟩
    clear eH dU; refine hK.out _ _ eD (fun dQ => ?_)
    clear hK K
    (try simp only [Act.put, u1, u2, u3])
    have hji : (j : Int) < (y.no : Int) := by omega
    have hj0 : decide ((j : Int) < 0) = false := decide_eq_false (by omega)
    have p5 : ¬ ((j : Int) < 0) := by omega
    obtain ⟨ob, off, u, vN, ho1, ho2, ⟨ocs, sW⟩, d0, f0, vQ⟩ := jS.out.crt.stamp hj t; have fZ := aPo (jS.out.cell1 sW (by decide) (by omega) vQ)
    have aC5 : oa = some ⟨ob, off, none⟩ := sC.out.symm.trans vN; subst aC5; clear vQ sW hS bG vN q0 q1 aL bS; refine tj 9 ?_
    refine tj 10 ?_
    have gI : (z2.setCell ⟨ob, off + j * 8 + 2, none⟩ (.int .i64 t)).cell? ⟨cb, 0, none⟩ = some (.slice y.va 4 y.vc) ∧ (z2.setCell ⟨ob, off + j * 8 + 2, none⟩ (.int .i64 t)).cell? ⟨cb, 1, none⟩ = some (.slice (some ⟨ob, off, none⟩) y.no y.oc) := ⟨(pair_cells fZ.out.box).1, by rw [← sC.out]; exact (pair_cells fZ.out.box).2⟩
    refine rk 11 rfl (fun K hK => ?_)
    go_simp
    refine hK.out _ _ gI (fun lC => ?_)
    clear hK K
    (try simp only [Act.put, u1, u2, u3])
    refine wpAnyH_done (by kernel_rfl) ?_ _
    clear eD gI dQ d0 f0 hji hj0 p5 sC dZ jS; generalize z2.setCell ⟨ob, off + j * 8 + 2, none⟩ (.int .i64 t) = z3 at fZ ⊢; obtain ⟨q0, q1⟩ := pair_cells fZ.out.box; obtain ⟨r0, r1⟩ := pair_cells fZ.out.res; obtain ⟨f0, f1⟩ := aB fZ.out.res; obtain ⟨bR, kP⟩ := fZ.out.out; go_wp2
    generalize (z3.setCell ⟨w.heap.size, 0, none⟩ (.slice y.va 4 y.vc)).setCell ⟨w.heap.size, 1, none⟩ (.slice y.oa y.no y.oc) = wf at bR kP ⊢; obtain ⟨p0, p1⟩ := pair_cells bR.out; exact bodyPost_ret (v := .agg #[.slice y.va 4 y.vc, .slice y.oa y.no y.oc]) (by simp [results, Tryz.results39, go_sem, p0, p1]) rfl kP.out
   ·have hxi : ¬ ((0 : Int) < (y.no : Int)) := by omega
    clear qD; obtain ⟨q0, q1⟩ := pair_cells fL.out.box; obtain ⟨r0, r1⟩ := pair_cells fL.out.res; obtain ⟨f0, f1⟩ := aB fL.out.res; obtain ⟨bR, kP⟩ := fL.out.out; go_wp2
    generalize (w4.setCell ⟨w.heap.size, 0, none⟩ (.slice y.va 4 y.vc)).setCell ⟨w.heap.size, 1, none⟩ (.slice y.oa y.no y.oc) = wf at bR kP ⊢; obtain ⟨p0, p1⟩ := pair_cells bR.out; exact bodyPost_ret (v := .agg #[.slice y.va 4 y.vc, .slice y.oa y.no y.oc]) (by simp [results, Tryz.results39, go_sem, p0, p1]) rfl kP.out
  have e38 : ((s : Int) == 38) = false := by rw [beq_eq_false_iff_ne]; omega
  by_cases h39 : s = 39
  ·subst h39
   clear e38 N7; obtain ⟨va, hve⟩ : ∃ va, y.va = va := ⟨_, rfl⟩; have vV := aPo hve; clear hve; obtain ⟨q0, q1⟩ := pair_cells fL.out.box; rw [vV.out] at q0
   go_upto_region 9 with fail
   have hS : w4.drew.cell? ⟨cb, 0, none⟩ = some (.slice va 4 y.vc) ∧ w4.drew.cell? ⟨cb, 1, none⟩ = some (.slice y.oa y.no y.oc) := ⟨q0, q1⟩
   go_wp2_with fail
   refine wp_region_held_drew (S := fun w' => w'.cell? ⟨cb, 0, none⟩ = some (.slice va 4 y.vc) ∧ w'.cell? ⟨cb, 1, none⟩ = some (.slice y.oa y.no y.oc)) (by kernel_rfl) hS (fun aL => ?_)
   refine tj 0 ?_
   refine tj 1 ?_
   refine tj 2 ?_
   refine rk 3 rfl (fun K hK => ?_)
   go_simp
   go_at_call 49
   refine (zY w4.drew B g a len cap (fL.out.rd.kept (w' := w4.drew) fun _ _ => rfl) 0 5 (by omega) (by omega) (by omega)).mono ?_
   rintro e z2 ⟨t, rfl, bZ, cX⟩; have iK : w4.grownBy z2 (some g) := ⟨bZ.os, bZ.tape, bZ.output, bZ.size, bZ.block⟩; have jS := aPo (fL.out.step iK cX); have eD : z2.cell? ⟨cb, 0, none⟩ = some (.slice va 4 y.vc) ∧ z2.cell? ⟨cb, 1, none⟩ = some (.slice y.oa y.no y.oc) := ⟨by rw [← vV.out]; exact (pair_cells jS.out.box).1, (pair_cells jS.out.box).2⟩
   clear bZ cX iK; refine hK.out _ _ eD (fun bS => ?_)
   clear hK K
   (try simp only [Act.put, u1, u2, u3])
   obtain ⟨vb, u, A2, ho1, ho2, ⟨ocs, sW⟩, d0, f0, vQ⟩ := jS.out.crt.vec t; have fZ := aPo (jS.out.cell1 sW (by decide) (by omega) vQ)
   have aCZ : va = some ⟨vb, 0, none⟩ := vV.out.symm.trans A2; subst aCZ; clear vQ sW hS A2 q0 q1 aL; refine tj 4 ?_
   have gI : (z2.setCell ⟨vb, 0, none⟩ (.int .i64 t)).cell? ⟨cb, 0, none⟩ = some (.slice (some ⟨vb, 0, none⟩) 4 y.vc) ∧ (z2.setCell ⟨vb, 0, none⟩ (.int .i64 t)).cell? ⟨cb, 1, none⟩ = some (.slice y.oa y.no y.oc) := ⟨by rw [← vV.out]; exact (pair_cells fZ.out.box).1, (pair_cells fZ.out.box).2⟩
   refine rk 5 rfl (fun K hK => ?_)
   go_simp
   refine hK.out _ _ gI (fun lC => ?_)
   clear hK K
   (try simp only [Act.put, u1, u2, u3])
   refine wpAnyH_done (by kernel_rfl) ?_ _
   clear eD gI bS d0 f0 vV jS; generalize z2.setCell ⟨vb, 0, none⟩ (.int .i64 t) = z3 at fZ ⊢; obtain ⟨q0, q1⟩ := pair_cells fZ.out.box; obtain ⟨r0, r1⟩ := pair_cells fZ.out.res; obtain ⟨f0, f1⟩ := aB fZ.out.res; obtain ⟨bR, kP⟩ := fZ.out.out; go_wp2
   generalize (z3.setCell ⟨w.heap.size, 0, none⟩ (.slice y.va 4 y.vc)).setCell ⟨w.heap.size, 1, none⟩ (.slice y.oa y.no y.oc) = wf at bR kP ⊢; obtain ⟨p0, p1⟩ := pair_cells bR.out; exact bodyPost_ret (v := .agg #[.slice y.va 4 y.vc, .slice y.oa y.no y.oc]) (by simp [results, Tryz.results39, go_sem, p0, p1]) rfl kP.out
  have e39 : ((s : Int) == 39) = false := by rw [beq_eq_false_iff_ne]; omega
  clear N7 h39; obtain ⟨q0, q1⟩ := pair_cells fL.out.box; obtain ⟨r0, r1⟩ := pair_cells fL.out.res; obtain ⟨f0, f1⟩ := aB fL.out.res; obtain ⟨bR, kP⟩ := fL.out.out; go_wp2
  generalize (w4.setCell ⟨w.heap.size, 0, none⟩ (.slice y.va 4 y.vc)).setCell ⟨w.heap.size, 1, none⟩ (.slice y.oa y.no y.oc) = wf at bR kP ⊢; obtain ⟨p0, p1⟩ := pair_cells bR.out; exact bodyPost_ret (v := .agg #[.slice y.va 4 y.vc, .slice y.oa y.no y.oc]) (by simp [results, Tryz.results39, go_sem, p0, p1]) rfl kP.out
 have pM : ((x.no : Int) == 0) = false := by rw [beq_eq_false_iff_ne]; omega
 go_wp2_with fail
 refine (aBf w2 B g a len cap oL.out.rd 3 (by omega) (by omega)).mono ?_
 rintro e wo ⟨o1, rfl, hgo, hro⟩
 have HIo := aPo (oL.out.step hgo hro)
 clear hgo hro oL q0 q1
 obtain ⟨q0, q1⟩ := pair_cells HIo.out.box
 cases o1
 rotate_left
 ·skip
  go_wp2_with fail
  refine (l8 wo B g a len cap HIo.out.rd 1 10 (by omega) (by omega) (by omega) 1 10 rfl rfl).mono ?_
  rintro e w3 ⟨q, c, l, rfl, sX⟩; have gO := sX.grown.size; have hwz := HIo.out.grown.size; have hn3 := sX.num; have c0 : w3.cell? ⟨q, 0, none⟩ = some (.slice (aH l 0).va 4 (aH l 0).vc) := (sX.cell 0 (by omega)).1
  have c1 : w3.cell? ⟨q, 1, none⟩ = some (.slice (aH l 0).oa (aH l 0).no (aH l 0).oc) := (sX.cell 0 (by omega)).2
  have HY := aPo ((tL.weak (sX.row.crt 0 (by omega))).more (lo' := w.heap.size + 1) (hi' := w3.heap.size) (by have := (aPp HIo.out.res).1; omega) aPq)
  have tJ := aPo (HIo.out.step sX.grown sX.rd); clear sX hn3 HIo q0 q1; generalize aH l 0 = y at c0 c1 HY; obtain ⟨q0, q1⟩ := pair_cells tJ.out.box; obtain ⟨g0, g1⟩ := aB tJ.out.box; have HIy := aPo (tJ.out.turn y HY.out)
  go_upto_region 4 with fail
  clear q0 q1 g0 g1 c0 c1 tJ HY; generalize (w3.setCell ⟨cb, 0, none⟩ (.slice y.va 4 y.vc)).setCell ⟨cb, 1, none⟩ (.slice y.oa y.no y.oc) = wy at HIy ⊢; clear gO hwz
  go_wp2_with fail
  refine (lE wy B g a len cap HIy.out.rd 40 (by omega) (by omega)).mono ?_
  rintro e w4 ⟨s, hs, rfl, wP, S6⟩; have fL := aPo (HIy.out.step wP S6); clear wP S6 HIy hs; have hxm := fL.out.crt.len
  by_cases N7 : s = 38
  ·subst N7
   by_cases qD : 0 < y.no
   ·have hxi : (0 : Int) < (y.no : Int) := by omega
    obtain ⟨oa, hoe⟩ : ∃ oa, y.oa = oa := ⟨_, rfl⟩; have sC := aPo hoe; clear hoe; obtain ⟨q0, q1⟩ := pair_cells fL.out.box; have hoc := fL.out.crt.caps; rw [sC.out] at q1
    go_upto_region 7 with fail
    have hS : w4.drew.cell? ⟨cb, 0, none⟩ = some (.slice y.va 4 y.vc) ∧ w4.drew.cell? ⟨cb, 1, none⟩ = some (.slice oa y.no y.oc) := ⟨q0, q1⟩
    go_wp2_with fail
    refine wp_region_held_drew (S := fun w' => w'.cell? ⟨cb, 0, none⟩ = some (.slice y.va 4 y.vc) ∧ w'.cell? ⟨cb, 1, none⟩ = some (.slice oa y.no y.oc)) (by kernel_rfl) hS (fun aL => ?_)
    refine tj 0 ?_
    refine tj 1 ?_
    refine tj 2 ?_
    refine tj 3 ?_
    refine tj 4 ?_
    refine tj 5 ?_
    refine tj 7 ?_
    refine rk 6 rfl (fun K hK => ?_)
    go_simp
    go_at_call 76
    refine (below w4.drew B g a len cap (fL.out.rd.kept (w' := w4.drew) fun _ _ => rfl) y.no qD (by omega)).mono ?_
    rintro e z1 ⟨j, hj, rfl, bZ, cX⟩; have iK : w4.grownBy z1 (some g) := ⟨bZ.os, bZ.tape, bZ.output, bZ.size, bZ.block⟩; have dZ := aPo (fL.out.step iK cX); have bG : z1.cell? ⟨cb, 0, none⟩ = some (.slice y.va 4 y.vc) ∧ z1.cell? ⟨cb, 1, none⟩ = some (.slice oa y.no y.oc) := ⟨(pair_cells dZ.out.box).1, by rw [← sC.out]; exact (pair_cells dZ.out.box).2⟩
    clear bZ cX iK; refine hK.out _ _ bG (fun bS => ?_)
    clear hK K
    (try simp only [Act.put, u1, u2, u3])
    refine rk 8 rfl (fun K hK => ?_)
    go_simp
    go_at_call 49
    refine (zY z1 B g a len cap dZ.out.rd 1 9 (by omega) (by omega) (by omega)).mono ?_
    rintro e z2 ⟨t, rfl, eH, dU⟩; have jS := aPo (dZ.out.step eH dU); have eD : z2.cell? ⟨cb, 0, none⟩ = some (.slice y.va 4 y.vc) ∧ z2.cell? ⟨cb, 1, none⟩ = some (.slice oa y.no y.oc) := ⟨(pair_cells jS.out.box).1, by rw [← sC.out]; exact (pair_cells jS.out.box).2⟩
    clear eH dU; refine hK.out _ _ eD (fun dQ => ?_)
    clear hK K
    (try simp only [Act.put, u1, u2, u3])
    have hji : (j : Int) < (y.no : Int) := by omega
    have hj0 : decide ((j : Int) < 0) = false := decide_eq_false (by omega)
    have p5 : ¬ ((j : Int) < 0) := by omega
    obtain ⟨ob, off, u, vN, ho1, ho2, ⟨ocs, sW⟩, d0, f0, vQ⟩ := jS.out.crt.stamp hj t; have fZ := aPo (jS.out.cell1 sW (by decide) (by omega) vQ)
    have aC5 : oa = some ⟨ob, off, none⟩ := sC.out.symm.trans vN; subst aC5; clear vQ sW hS bG vN q0 q1 aL bS; refine tj 9 ?_
    refine tj 10 ?_
    have gI : (z2.setCell ⟨ob, off + j * 8 + 2, none⟩ (.int .i64 t)).cell? ⟨cb, 0, none⟩ = some (.slice y.va 4 y.vc) ∧ (z2.setCell ⟨ob, off + j * 8 + 2, none⟩ (.int .i64 t)).cell? ⟨cb, 1, none⟩ = some (.slice (some ⟨ob, off, none⟩) y.no y.oc) := ⟨(pair_cells fZ.out.box).1, by rw [← sC.out]; exact (pair_cells fZ.out.box).2⟩
    refine rk 11 rfl (fun K hK => ?_)
    go_simp
    refine hK.out _ _ gI (fun lC => ?_)
    clear hK K
    (try simp only [Act.put, u1, u2, u3])
    refine wpAnyH_done (by kernel_rfl) ?_ _
    clear eD gI dQ d0 f0 hji hj0 p5 sC dZ jS; generalize z2.setCell ⟨ob, off + j * 8 + 2, none⟩ (.int .i64 t) = z3 at fZ ⊢; obtain ⟨q0, q1⟩ := pair_cells fZ.out.box; obtain ⟨r0, r1⟩ := pair_cells fZ.out.res; obtain ⟨f0, f1⟩ := aB fZ.out.res; obtain ⟨bR, kP⟩ := fZ.out.out; go_wp2
    generalize (z3.setCell ⟨w.heap.size, 0, none⟩ (.slice y.va 4 y.vc)).setCell ⟨w.heap.size, 1, none⟩ (.slice y.oa y.no y.oc) = wf at bR kP ⊢; obtain ⟨p0, p1⟩ := pair_cells bR.out; exact bodyPost_ret (v := .agg #[.slice y.va 4 y.vc, .slice y.oa y.no y.oc]) (by simp [results, Tryz.results39, go_sem, p0, p1]) rfl kP.out
   ·have hxi : ¬ ((0 : Int) < (y.no : Int)) := by omega
    clear qD; obtain ⟨q0, q1⟩ := pair_cells fL.out.box; obtain ⟨r0, r1⟩ := pair_cells fL.out.res; obtain ⟨f0, f1⟩ := aB fL.out.res; obtain ⟨bR, kP⟩ := fL.out.out; go_wp2
    generalize (w4.setCell ⟨w.heap.size, 0, none⟩ (.slice y.va 4 y.vc)).setCell ⟨w.heap.size, 1, none⟩ (.slice y.oa y.no y.oc) = wf at bR kP ⊢; obtain ⟨p0, p1⟩ := pair_cells bR.out; exact bodyPost_ret (v := .agg #[.slice y.va 4 y.vc, .slice y.oa y.no y.oc]) (by simp [results, Tryz.results39, go_sem, p0, p1]) rfl kP.out
  have e38 : ((s : Int) == 38) = false := by rw [beq_eq_false_iff_ne]; omega
  by_cases h39 : s = 39
  ·subst h39
   clear e38 N7; obtain ⟨va, hve⟩ : ∃ va, y.va = va := ⟨_, rfl⟩; have vV := aPo hve; clear hve; obtain ⟨q0, q1⟩ := pair_cells fL.out.box; rw [vV.out] at q0
   go_upto_region 9 with fail
   have hS : w4.drew.cell? ⟨cb, 0, none⟩ = some (.slice va 4 y.vc) ∧ w4.drew.cell? ⟨cb, 1, none⟩ = some (.slice y.oa y.no y.oc) := ⟨q0, q1⟩
   go_wp2_with fail
   refine wp_region_held_drew (S := fun w' => w'.cell? ⟨cb, 0, none⟩ = some (.slice va 4 y.vc) ∧ w'.cell? ⟨cb, 1, none⟩ = some (.slice y.oa y.no y.oc)) (by kernel_rfl) hS (fun aL => ?_)
   refine tj 0 ?_
   refine tj 1 ?_
   refine tj 2 ?_
   refine rk 3 rfl (fun K hK => ?_)
   go_simp
   go_at_call 49
   refine (zY w4.drew B g a len cap (fL.out.rd.kept (w' := w4.drew) fun _ _ => rfl) 0 5 (by omega) (by omega) (by omega)).mono ?_
   rintro e z2 ⟨t, rfl, bZ, cX⟩; have iK : w4.grownBy z2 (some g) := ⟨bZ.os, bZ.tape, bZ.output, bZ.size, bZ.block⟩; have jS := aPo (fL.out.step iK cX); have eD : z2.cell? ⟨cb, 0, none⟩ = some (.slice va 4 y.vc) ∧ z2.cell? ⟨cb, 1, none⟩ = some (.slice y.oa y.no y.oc) := ⟨by rw [← vV.out]; exact (pair_cells jS.out.box).1, (pair_cells jS.out.box).2⟩
   clear bZ cX iK; refine hK.out _ _ eD (fun bS => ?_)
   clear hK K
   (try simp only [Act.put, u1, u2, u3])
   obtain ⟨vb, u, A2, ho1, ho2, ⟨ocs, sW⟩, d0, f0, vQ⟩ := jS.out.crt.vec t; have fZ := aPo (jS.out.cell1 sW (by decide) (by omega) vQ)
   have aCZ : va = some ⟨vb, 0, none⟩ := vV.out.symm.trans A2; subst aCZ; clear vQ sW hS A2 q0 q1 aL; refine tj 4 ?_
   have gI : (z2.setCell ⟨vb, 0, none⟩ (.int .i64 t)).cell? ⟨cb, 0, none⟩ = some (.slice (some ⟨vb, 0, none⟩) 4 y.vc) ∧ (z2.setCell ⟨vb, 0, none⟩ (.int .i64 t)).cell? ⟨cb, 1, none⟩ = some (.slice y.oa y.no y.oc) := ⟨by rw [← vV.out]; exact (pair_cells fZ.out.box).1, (pair_cells fZ.out.box).2⟩
   refine rk 5 rfl (fun K hK => ?_)
   go_simp
   refine hK.out _ _ gI (fun lC => ?_)
   clear hK K
   (try simp only [Act.put, u1, u2, u3])
   refine wpAnyH_done (by kernel_rfl) ?_ _
   clear eD gI bS d0 f0 vV jS; generalize z2.setCell ⟨vb, 0, none⟩ (.int .i64 t) = z3 at fZ ⊢; obtain ⟨q0, q1⟩ := pair_cells fZ.out.box; obtain ⟨r0, r1⟩ := pair_cells fZ.out.res; obtain ⟨f0, f1⟩ := aB fZ.out.res; obtain ⟨bR, kP⟩ := fZ.out.out; go_wp2
   generalize (z3.setCell ⟨w.heap.size, 0, none⟩ (.slice y.va 4 y.vc)).setCell ⟨w.heap.size, 1, none⟩ (.slice y.oa y.no y.oc) = wf at bR kP ⊢; obtain ⟨p0, p1⟩ := pair_cells bR.out; exact bodyPost_ret (v := .agg #[.slice y.va 4 y.vc, .slice y.oa y.no y.oc]) (by simp [results, Tryz.results39, go_sem, p0, p1]) rfl kP.out
  have e39 : ((s : Int) == 39) = false := by rw [beq_eq_false_iff_ne]; omega
  clear N7 h39; obtain ⟨q0, q1⟩ := pair_cells fL.out.box; obtain ⟨r0, r1⟩ := pair_cells fL.out.res; obtain ⟨f0, f1⟩ := aB fL.out.res; obtain ⟨bR, kP⟩ := fL.out.out; go_wp2
  generalize (w4.setCell ⟨w.heap.size, 0, none⟩ (.slice y.va 4 y.vc)).setCell ⟨w.heap.size, 1, none⟩ (.slice y.oa y.no y.oc) = wf at bR kP ⊢; obtain ⟨p0, p1⟩ := pair_cells bR.out; exact bodyPost_ret (v := .agg #[.slice y.va 4 y.vc, .slice y.oa y.no y.oc]) (by simp [results, Tryz.results39, go_sem, p0, p1]) rfl kP.out
 go_upto_region 4 with fail
 clear q0 q1 pM
 go_wp2_with fail
 refine (lE wo B g a len cap HIo.out.rd 40 (by omega) (by omega)).mono ?_
 rintro e w4 ⟨s, hs, rfl, wP, S6⟩
 have fL := aPo (HIo.out.step wP S6)
 clear wP S6 HIo hs
 have hxm := fL.out.crt.len
 by_cases N7 : s = 38
 ·subst N7
  by_cases qD : 0 < x.no
  ·have hxi : (0 : Int) < (x.no : Int) := by omega
   obtain ⟨oa, hoe⟩ : ∃ oa, x.oa = oa := ⟨_, rfl⟩; have sC := aPo hoe; clear hoe; obtain ⟨q0, q1⟩ := pair_cells fL.out.box; have hoc := fL.out.crt.caps; rw [sC.out] at q1
   go_upto_region 7 with fail
   have hS : w4.drew.cell? ⟨cb, 0, none⟩ = some (.slice x.va 4 x.vc) ∧ w4.drew.cell? ⟨cb, 1, none⟩ = some (.slice oa x.no x.oc) := ⟨q0, q1⟩
   go_wp2_with fail
   refine wp_region_held_drew (S := fun w' => w'.cell? ⟨cb, 0, none⟩ = some (.slice x.va 4 x.vc) ∧ w'.cell? ⟨cb, 1, none⟩ = some (.slice oa x.no x.oc)) (by kernel_rfl) hS (fun aL => ?_)
   refine tj 0 ?_
   refine tj 1 ?_
   refine tj 2 ?_
   refine tj 3 ?_
   refine tj 4 ?_
   refine tj 5 ?_
   refine tj 7 ?_
   refine rk 6 rfl (fun K hK => ?_)
   go_simp
   go_at_call 76
   refine (below w4.drew B g a len cap (fL.out.rd.kept (w' := w4.drew) fun _ _ => rfl) x.no qD (by omega)).mono ?_
   rintro e z1 ⟨j, hj, rfl, bZ, cX⟩; have iK : w4.grownBy z1 (some g) := ⟨bZ.os, bZ.tape, bZ.output, bZ.size, bZ.block⟩; have dZ := aPo (fL.out.step iK cX); have bG : z1.cell? ⟨cb, 0, none⟩ = some (.slice x.va 4 x.vc) ∧ z1.cell? ⟨cb, 1, none⟩ = some (.slice oa x.no x.oc) := ⟨(pair_cells dZ.out.box).1, by rw [← sC.out]; exact (pair_cells dZ.out.box).2⟩
   clear bZ cX iK; refine hK.out _ _ bG (fun bS => ?_)
   clear hK K
   (try simp only [Act.put, u1, u2, u3])
   refine rk 8 rfl (fun K hK => ?_)
   go_simp
   go_at_call 49
   refine (zY z1 B g a len cap dZ.out.rd 1 9 (by omega) (by omega) (by omega)).mono ?_
   rintro e z2 ⟨t, rfl, eH, dU⟩; have jS := aPo (dZ.out.step eH dU); have eD : z2.cell? ⟨cb, 0, none⟩ = some (.slice x.va 4 x.vc) ∧ z2.cell? ⟨cb, 1, none⟩ = some (.slice oa x.no x.oc) := ⟨(pair_cells jS.out.box).1, by rw [← sC.out]; exact (pair_cells jS.out.box).2⟩
   clear eH dU; refine hK.out _ _ eD (fun dQ => ?_)
   clear hK K
   (try simp only [Act.put, u1, u2, u3])
   have hji : (j : Int) < (x.no : Int) := by omega
   have hj0 : decide ((j : Int) < 0) = false := decide_eq_false (by omega)
   have p5 : ¬ ((j : Int) < 0) := by omega
   obtain ⟨ob, off, u, vN, ho1, ho2, ⟨ocs, sW⟩, d0, f0, vQ⟩ := jS.out.crt.stamp hj t; have fZ := aPo (jS.out.cell1 sW (by decide) (by omega) vQ)
   have aC5 : oa = some ⟨ob, off, none⟩ := sC.out.symm.trans vN; subst aC5; clear vQ sW hS bG vN q0 q1 aL bS; refine tj 9 ?_
   refine tj 10 ?_
   have gI : (z2.setCell ⟨ob, off + j * 8 + 2, none⟩ (.int .i64 t)).cell? ⟨cb, 0, none⟩ = some (.slice x.va 4 x.vc) ∧ (z2.setCell ⟨ob, off + j * 8 + 2, none⟩ (.int .i64 t)).cell? ⟨cb, 1, none⟩ = some (.slice (some ⟨ob, off, none⟩) x.no x.oc) := ⟨(pair_cells fZ.out.box).1, by rw [← sC.out]; exact (pair_cells fZ.out.box).2⟩
   refine rk 11 rfl (fun K hK => ?_)
   go_simp
   refine hK.out _ _ gI (fun lC => ?_)
   clear hK K
   (try simp only [Act.put, u1, u2, u3])
   refine wpAnyH_done (by kernel_rfl) ?_ _
   clear eD gI dQ d0 f0 hji hj0 p5 sC dZ jS; generalize z2.setCell ⟨ob, off + j * 8 + 2, none⟩ (.int .i64 t) = z3 at fZ ⊢; obtain ⟨q0, q1⟩ := pair_cells fZ.out.box; obtain ⟨r0, r1⟩ := pair_cells fZ.out.res; obtain ⟨f0, f1⟩ := aB fZ.out.res; obtain ⟨bR, kP⟩ := fZ.out.out; go_wp2
   generalize (z3.setCell ⟨w.heap.size, 0, none⟩ (.slice x.va 4 x.vc)).setCell ⟨w.heap.size, 1, none⟩ (.slice x.oa x.no x.oc) = wf at bR kP ⊢; obtain ⟨p0, p1⟩ := pair_cells bR.out; exact bodyPost_ret (v := .agg #[.slice x.va 4 x.vc, .slice x.oa x.no x.oc]) (by simp [results, Tryz.results39, go_sem, p0, p1]) rfl kP.out
  ·omega
 have e38 : ((s : Int) == 38) = false := by rw [beq_eq_false_iff_ne]; omega
 by_cases h39 : s = 39
 ·subst h39
  clear e38 N7; obtain ⟨va, hve⟩ : ∃ va, x.va = va := ⟨_, rfl⟩; have vV := aPo hve; clear hve; obtain ⟨q0, q1⟩ := pair_cells fL.out.box; rw [vV.out] at q0
  go_upto_region 9 with fail
  have hS : w4.drew.cell? ⟨cb, 0, none⟩ = some (.slice va 4 x.vc) ∧ w4.drew.cell? ⟨cb, 1, none⟩ = some (.slice x.oa x.no x.oc) := ⟨q0, q1⟩
  go_wp2_with fail
  refine wp_region_held_drew (S := fun w' => w'.cell? ⟨cb, 0, none⟩ = some (.slice va 4 x.vc) ∧ w'.cell? ⟨cb, 1, none⟩ = some (.slice x.oa x.no x.oc)) (by kernel_rfl) hS (fun aL => ?_)
  refine tj 0 ?_
  refine tj 1 ?_
  refine tj 2 ?_
  refine rk 3 rfl (fun K hK => ?_)
  go_simp
  go_at_call 49
  refine (zY w4.drew B g a len cap (fL.out.rd.kept (w' := w4.drew) fun _ _ => rfl) 0 5 (by omega) (by omega) (by omega)).mono ?_
  rintro e z2 ⟨t, rfl, bZ, cX⟩; have iK : w4.grownBy z2 (some g) := ⟨bZ.os, bZ.tape, bZ.output, bZ.size, bZ.block⟩; have jS := aPo (fL.out.step iK cX); have eD : z2.cell? ⟨cb, 0, none⟩ = some (.slice va 4 x.vc) ∧ z2.cell? ⟨cb, 1, none⟩ = some (.slice x.oa x.no x.oc) := ⟨by rw [← vV.out]; exact (pair_cells jS.out.box).1, (pair_cells jS.out.box).2⟩
  clear bZ cX iK; refine hK.out _ _ eD (fun bS => ?_)
  clear hK K
  (try simp only [Act.put, u1, u2, u3])
  obtain ⟨vb, u, A2, ho1, ho2, ⟨ocs, sW⟩, d0, f0, vQ⟩ := jS.out.crt.vec t; have fZ := aPo (jS.out.cell1 sW (by decide) (by omega) vQ)
  have aCZ : va = some ⟨vb, 0, none⟩ := vV.out.symm.trans A2; subst aCZ; clear vQ sW hS A2 q0 q1 aL; refine tj 4 ?_
  have gI : (z2.setCell ⟨vb, 0, none⟩ (.int .i64 t)).cell? ⟨cb, 0, none⟩ = some (.slice (some ⟨vb, 0, none⟩) 4 x.vc) ∧ (z2.setCell ⟨vb, 0, none⟩ (.int .i64 t)).cell? ⟨cb, 1, none⟩ = some (.slice x.oa x.no x.oc) := ⟨by rw [← vV.out]; exact (pair_cells fZ.out.box).1, (pair_cells fZ.out.box).2⟩
  refine rk 5 rfl (fun K hK => ?_)
  go_simp
  refine hK.out _ _ gI (fun lC => ?_)
  clear hK K
  (try simp only [Act.put, u1, u2, u3])
  refine wpAnyH_done (by kernel_rfl) ?_ _
  clear eD gI bS d0 f0 vV jS; generalize z2.setCell ⟨vb, 0, none⟩ (.int .i64 t) = z3 at fZ ⊢; obtain ⟨q0, q1⟩ := pair_cells fZ.out.box; obtain ⟨r0, r1⟩ := pair_cells fZ.out.res; obtain ⟨f0, f1⟩ := aB fZ.out.res; obtain ⟨bR, kP⟩ := fZ.out.out; go_wp2
  generalize (z3.setCell ⟨w.heap.size, 0, none⟩ (.slice x.va 4 x.vc)).setCell ⟨w.heap.size, 1, none⟩ (.slice x.oa x.no x.oc) = wf at bR kP ⊢; obtain ⟨p0, p1⟩ := pair_cells bR.out; exact bodyPost_ret (v := .agg #[.slice x.va 4 x.vc, .slice x.oa x.no x.oc]) (by simp [results, Tryz.results39, go_sem, p0, p1]) rfl kP.out
 have e39 : ((s : Int) == 39) = false := by rw [beq_eq_false_iff_ne]; omega
 clear N7 h39
 obtain ⟨q0, q1⟩ := pair_cells fL.out.box
 obtain ⟨r0, r1⟩ := pair_cells fL.out.res
 obtain ⟨f0, f1⟩ := aB fL.out.res
 obtain ⟨bR, kP⟩ := fL.out.out
 go_wp2
 generalize (w4.setCell ⟨w.heap.size, 0, none⟩ (.slice x.va 4 x.vc)).setCell ⟨w.heap.size, 1, none⟩ (.slice x.oa x.no x.oc) = wf at bR kP ⊢
 obtain ⟨p0, p1⟩ := pair_cells bR.out
 exact bodyPost_ret (v := .agg #[.slice x.va 4 x.vc, .slice x.oa x.no x.oc]) (by simp [results, Tryz.results39, go_sem, p0, p1]) rfl kP.out
structure Di (w wr : World) (B g : Nat) (a : Option Addr) (len cap : Nat) (u v : Array Value) : Prop where
 ra : wr.heap[w.heap.size]? = some (.cells u 27 (0, 0))
 rb : wr.heap[w.heap.size + 1]? = some (.cells v 29 (0, 0))
 bel : Below w.heap.size w wr
 rd : Rd wr B g a len cap
 glt : w.heap.size + 1 < g
theorem Di.step {w wr w1 : World} {B g : Nat} {a : Option Addr} {len cap : Nat} {u v : Array Value} (h : Di w wr B g a len cap u v) (hg : wr.grownBy w1 (some g)) (hr : Rd w1 B g a len cap) : Di w w1 B g a len cap u v := by
 have sY := h.glt
 have hs := h.bel.size
 have hk : ∀ j, j < wr.heap.size → j ≠ g → w1.heap[j]? = wr.heap[j]? := fun j h1 h2 => hg.block j h1 (by intro e; injection e with e; exact h2 e)
 exact ⟨(hk _ (aPp h.ra).1 (by omega)).trans h.ra, (hk _ (aPp h.rb).1 (by omega)).trans h.rb, h.bel.grown hg hs (fun k hk => by cases hk; omega), hr, sY⟩
theorem Di.box {w wr : World} {B g : Nat} {a : Option Addr} {len cap : Nat} {u v : Array Value} (h : Di w wr B g a len cap u v) (ob : Obj) : Di w (wr.alloc ob) B g a len cap u v := by
 have dR : Below wr.heap.size wr (wr.alloc ob) := bl
 exact h.step (grown_of dR) (h.rd.grown (K3 dR) fun k hk => by cases hk)
theorem Di.mk0 (w : World) : (((w.alloc (.cells #[.slice none 0 0, .slice none 0 0] 27)).alloc (.cells #[.int .i64 0, .string ⟨#[]⟩, .int .i64 0, .int .i64 0, .int .i64 0] 29)).heap[w.heap.size]? = some (.cells #[.slice none 0 0, .slice none 0 0] 27 (0, 0))) ∧ (((w.alloc (.cells #[.slice none 0 0, .slice none 0 0] 27)).alloc (.cells #[.int .i64 0, .string ⟨#[]⟩, .int .i64 0, .int .i64 0, .int .i64 0] 29)).heap[w.heap.size + 1]? = some (.cells #[.int .i64 0, .string ⟨#[]⟩, .int .i64 0, .int .i64 0, .int .i64 0] 29 (0, 0))) ∧ Below w.heap.size w ((w.alloc (.cells #[.slice none 0 0, .slice none 0 0] 27)).alloc (.cells #[.int .i64 0, .string ⟨#[]⟩, .int .i64 0, .int .i64 0, .int .i64 0] 29)) ∧ ((w.alloc (.cells #[.slice none 0 0, .slice none 0 0] 27)).alloc (.cells #[.int .i64 0, .string ⟨#[]⟩, .int .i64 0, .int .i64 0, .int .i64 0] 29)).heap.size = w.heap.size + 2 := by
 have e1 : (w.alloc (.cells #[.slice none 0 0, .slice none 0 0] 27)).heap.size = w.heap.size + 1 := by simp
 refine ⟨(Below.heap_alloc _ _ _ (by omega)).trans (heap_alloc_new _ _), ?_, ((Below.refl _ w).alloc aPq _).alloc (by simp) _, by simp⟩
 rw [← e1]; exact heap_alloc_new _ _
theorem aKs {w : World} {b : Nat} {c0 c1 c2 c3 c4 v0 v1 v2 v3 v4 : Value} {T : TypeId} (h : w.heap[b]? = some (.cells #[c0, c1, c2, c3, c4] T (0, 0))) :
  (((((w.setCell ⟨b, 0, none⟩ v0).setCell ⟨b, 1, none⟩ v1).setCell ⟨b, 2, none⟩ v2).setCell ⟨b, 3, none⟩ v3).setCell ⟨b, 4, none⟩ v4).heap[b]? = some (.cells #[v0, v1, v2, v3, v4] T (0, 0)) :=
 heap_setCell_same _ _ _ _ _ _ (heap_setCell_same _ _ _ _ _ _ (heap_setCell_same _ _ _ _ _ _ (heap_setCell_same _ _ _ _ _ _ (heap_setCell_same _ _ _ _ _ _ h))))
theorem X9 {w : World} {b k : Nat} {v0 v1 v2 v3 v4 : Value} (h : k ≠ b) : (((((w.setCell ⟨b, 0, none⟩ v0).setCell ⟨b, 1, none⟩ v1).setCell ⟨b, 2, none⟩ v2).setCell ⟨b, 3, none⟩ v3).setCell ⟨b, 4, none⟩ v4).heap[k]? = w.heap[k]? := by
 rw [heap_setCell_other _ _ _ _ h, heap_setCell_other _ _ _ _ h, heap_setCell_other _ _ _ _ h, heap_setCell_other _ _ _ _ h, heap_setCell_other _ _ _ _ h]
theorem aKr (w : World) (b : Nat) (v0 v1 v2 v3 v4 : Value) : (((((w.setCell ⟨b, 0, none⟩ v0).setCell ⟨b, 1, none⟩ v1).setCell ⟨b, 2, none⟩ v2).setCell ⟨b, 3, none⟩ v3).setCell ⟨b, 4, none⟩ v4).heap.size = w.heap.size := by simp [World.setCell]
theorem aKv {B : Nat} {w0 w : World} {b : Nat} {v0 v1 v2 v3 v4 : Value} (h : Below B w0 w) (hb : B ≤ b) : Below B w0 (((((w.setCell ⟨b, 0, none⟩ v0).setCell ⟨b, 1, none⟩ v1).setCell ⟨b, 2, none⟩ v2).setCell ⟨b, 3, none⟩ v3).setCell ⟨b, 4, none⟩ v4) :=
 ((((h.setCell (p := ⟨b, 0, none⟩) hb _).setCell (p := ⟨b, 1, none⟩) hb _).setCell (p := ⟨b, 2, none⟩) hb _).setCell (p := ⟨b, 3, none⟩) hb _).setCell (p := ⟨b, 4, none⟩) hb _
theorem aKu {w : World} {b : Nat} {cs : Array Value} {T : TypeId} (h : w.heap[b]? = some (.cells cs T (0, 0))) : w.frozen? ⟨b, 0, none⟩ = false ∧ w.frozen? ⟨b, 1, none⟩ = false ∧ w.frozen? ⟨b, 2, none⟩ = false ∧ w.frozen? ⟨b, 3, none⟩ = false ∧ w.frozen? ⟨b, 4, none⟩ = false :=
 ⟨aPs h, aPs h, aPs h, aPs h, aPs h⟩
theorem aDf {w : World} {b : Nat} {v0 v1 v2 v3 v4 : Value} {T : TypeId} {fr : Nat × Nat} (h : w.heap[b]? = some (.cells #[v0, v1, v2, v3, v4] T fr)) : w.cell? ⟨b, 0, none⟩ = some v0 ∧ w.cell? ⟨b, 1, none⟩ = some v1 ∧ w.cell? ⟨b, 2, none⟩ = some v2 ∧ w.cell? ⟨b, 3, none⟩ = some v3 ∧ w.cell? ⟨b, 4, none⟩ = some v4 :=
 ⟨aPr h, aPr h, aPr h, aPr h, aPr h⟩
theorem lG.otherM {w w' : World} {lo hi q : Nat} {x : cC} {cs : Array Value} {fr : Nat × Nat} (h : lG w lo hi x) (hq : w.heap[q]? = some (.cells cs 29 fr)) (hk : ∀ j, lo ≤ j → j < hi → j ≠ q → w'.heap[j]? = w.heap[j]?) : lG w' lo hi x := by
 obtain ⟨zs, m, e, a, b, c⟩ := h
 refine ⟨zs, m, e, ⟨a.1, fun hn => ?_⟩, ⟨b.1, fun hn => ?_⟩, c⟩
 ·obtain ⟨g, aW, e1, h1, h2, hg, hc⟩ := a.2 hn
  have bO : g ≠ q := by
   intro e2
   rw [e2, hq] at hg; injection hg with hg; injection hg with _ hg; exact absurd hg (by decide)
  exact ⟨g, aW, e1, h1, h2, (hk g h1 h2 bO).trans hg, hc⟩
 ·obtain ⟨g, off, aW, e1, h1, h2, hg, hs, hc⟩ := b.2 hn
  have bO : g ≠ q := by
   intro e2
   rw [e2, hq] at hg; injection hg with hg; injection hg with _ hg; exact absurd hg (by decide)
  exact ⟨g, off, aW, e1, h1, h2, (hk g h1 h2 bO).trans hg, hs, hc⟩
def aJe (w : World) (e : Ending) (w' : World) : Prop :=
 ∃ (x : cC) (dev kind : Int) (item : ByteArray) (qty dv sq : Int), item.size ≤ 8 ∧ e = .returned (.tuple #[.agg #[.slice x.va 4 x.vc, .slice x.oa x.no x.oc], .int .i64 dev, .agg #[.int .i64 kind, .string item, .int .i64 qty, .int .i64 dv, .int .i64 sq]]) ∧ lG w' w.heap.size w'.heap.size x ∧ Below w.heap.size w w'
theorem aK0 (w : World) (B g : Nat) (a : Option Addr) (len cap : Nat) (h : Rd w B g a len cap) :
  Calls Tryz.prog 40 #[.pointer (some ⟨g, 0, none⟩)] w (B9 .i64 w B g a len cap) := by
 go_enter Tryz.func40, Tryz.ntmps40
 go_wp2_with fail
 refine (aBf w B g a len cap h 40 (by omega) (by omega)).mono ?_
 rintro e w1 ⟨b, rfl, bZ, cX⟩
 cases b
 ·go_wp2_with fail
  refine (lE w1 B g a len cap cX 4 (by omega) (by omega)).mono ?_
  rintro e w2 ⟨v, hv, rfl, eH, dU⟩; have hg := bZ.trans eH; go_wp2
  go_ret
  exact ⟨_, rfl, hg, dU⟩
 ·go_wp2_with fail
  refine (zY w1 B g a len cap cX 0 3 (by omega) (by omega) (by omega)).mono ?_
  rintro e w2 ⟨v, rfl, eH, dU⟩; have hg := bZ.trans eH; go_wp2
  go_ret
  exact ⟨_, rfl, hg, dU⟩
set_option maxHeartbeats 80000000 in
theorem aBV (w : World) (B : Nat) (a : Option Addr) (len cap : Nat) (hB : B ≤ w.heap.size) (h : Src w B a len) :
  Calls Tryz.prog 16 #[.slice a len cap] w (aJe w) := by
 obtain ⟨F4, N1, bD, aLM⟩ := Di.mk0 w
 have c8 := aPo aLM
 have HS0 := aPo (h.kept (w' := (w.alloc (.cells #[.slice none 0 0, .slice none 0 0] 27)).alloc (.cells #[.int .i64 0, .string ⟨#[]⟩, .int .i64 0, .int .i64 0, .int .i64 0] 29)) fun k hk => bD.block k (by omega))
 have zM := aPo F4
 have iV := aPo N1
 have pW := aPo bD
 clear h F4 N1 bD aLM
 go_enter Tryz.func16, Tryz.ntmps16
 go_wp2_with fail
 generalize (w.alloc (.cells #[.slice none 0 0, .slice none 0 0] 27)).alloc (.cells #[.int .i64 0, .string ⟨#[]⟩, .int .i64 0, .int .i64 0, .int .i64 0] 29) = w0 at HS0 zM iV pW c8 ⊢
 refine (aLf w0 B a len cap (by have := c8.out; omega) HS0.out).mono ?_
 rintro e w1 ⟨rfl, bZ, cX⟩
 have pV : Hid (Di w w1 B w0.heap.size a len cap #[.slice none 0 0, .slice none 0 0] #[.int .i64 0, .string ⟨#[]⟩, .int .i64 0, .int .i64 0, .int .i64 0]) := ⟨(bZ.block _ (by have := c8.out; omega) (by intro e; cases e)).trans zM.out, (bZ.block _ (by have := c8.out; omega) (by intro e; cases e)).trans iV.out, pW.out.grown bZ (by have := c8.out; omega) (fun k hk => by cases hk), cX, by have := c8.out; omega⟩
 clear bZ cX HS0 zM iV pW c8
 generalize w0.heap.size = g at pV ⊢
 go_wp2_with fail
 refine (aK1 w1 B g a len cap pV.out.rd).mono ?_
 rintro e w2 ⟨x, rfl, hx, eH, dU⟩
 have zS := aPo (pV.out.step eH dU)
 have hsw := pV.out.bel.size
 have sY := zS.out.glt
 have jH := pV.out.rd.lt
 have HX := aPo hx
 have o8 := eH.size
 have hBw := hB
 clear hx eH dU pV
 go_upto_region 3 with fail
 have j7 := aPo (bX (Below.refl _ (w2.alloc (.cells #[.slice x.va 4 x.vc, .slice x.oa x.no x.oc] 27))))
 have j5 := aPo (zS.out.box (.cells #[.slice x.va 4 x.vc, .slice x.oa x.no x.oc] 27))
 have mD := aPo (HX.out.kept (w' := w2.alloc (.cells #[.slice x.va 4 x.vc, .slice x.oa x.no x.oc] 27)) fun j _ h2 => Below.heap_alloc _ _ _ h2)
 have gO : w2.heap.size + 1 = (w2.alloc (.cells #[.slice x.va 4 x.vc, .slice x.oa x.no x.oc] 27)).heap.size := by simp
 clear zS HX
 have aNl : w1.heap.size ≤ w2.heap.size := o8
 generalize w2.alloc (.cells #[.slice x.va 4 x.vc, .slice x.oa x.no x.oc] 27) = w3 at j7 j5 mD gO ⊢
 have hcg : w2.heap.size ≠ g := by omega
 have Z8 : w2.heap.size < w3.heap.size := by omega
 generalize w2.heap.size = cb at j7 mD gO hcg Z8 aNl o8 ⊢
 have aO0 : cb + 1 ≤ w3.heap.size := by omega
 clear gO
 go_wp2_with fail
 refine (aK0 w3 B g a len cap j5.out.rd).mono ?_
 rintro e w4 ⟨dev, rfl, wP, S6⟩
 have qY := aPo (j5.out.step wP S6)
 have HC4 := aPo ((wP.block cb (by omega) (by intro e; injection e with e; exact hcg e)).trans j7.out)
 have F3 := wP.size
 have O1 := aPo (mD.out.kept fun j h1 h2 => wP.block j (by omega) (by intro e; injection e with e; omega))
 clear wP S6 j5 j7 mD
 have hS : w4.drew.cell? ⟨cb, 0, none⟩ = some (.slice x.va 4 x.vc) ∧ w4.drew.cell? ⟨cb, 1, none⟩ = some (.slice x.oa x.no x.oc) := pair_cells HC4.out
 go_wp2_with fail
 refine wp_region_held_drew (S := fun w' => w'.cell? ⟨cb, 0, none⟩ = some (.slice x.va 4 x.vc) ∧ w'.cell? ⟨cb, 1, none⟩ = some (.slice x.oa x.no x.oc)) (by kernel_rfl) hS (fun aL => ?_)
 refine tj 0 ?_
 refine tj 1 ?_
 refine tj 2 ?_
 refine rk 3 rfl (fun K hK => ?_)
 go_simp
 go_at_call 41
 refine (aE5 w4.drew B g a len cap (qY.out.rd.kept (w' := w4.drew) fun _ _ => rfl) (by show _ ≤ w4.heap.size; omega)).mono ?_
 rintro e z1 ⟨kind, item, qty, dv, sq, hi, rfl, bZ, cX⟩
 have iK : w4.grownBy z1 (some g) := ⟨bZ.os, bZ.tape, bZ.output, bZ.size, bZ.block⟩
 have qX := aPo (qY.out.step iK cX)
 have aO7 : cb < z1.heap.size := Nat.lt_of_lt_of_le (by omega) iK.size
 have HC5 := aPo ((iK.block cb (by omega) (by intro e; injection e with e; exact hcg e)).trans HC4.out)
 have hs5 := iK.size
 have HX5 := aPo ((O1.out.kept fun j h1 h2 => iK.block j (by omega) (by intro e; injection e with e; omega)).more (lo' := w1.heap.size) (hi' := z1.heap.size) aPq (by omega))
 have F9 : z1.cell? ⟨cb, 0, none⟩ = some (.slice x.va 4 x.vc) ∧ z1.cell? ⟨cb, 1, none⟩ = some (.slice x.oa x.no x.oc) := pair_cells HC5.out
 clear bZ cX iK
 refine hK.out _ _ F9 (fun bS => ?_)
 clear hK K
 (try simp only [Act.put, u1, u2, u3])
 have tG := aPo (HX5.out.more (lo' := w.heap.size) (hi' := z1.heap.size) (by omega) aPq)
 have kc : lG ((z1.setCell ⟨w.heap.size, 0, none⟩ (.slice x.va 4 x.vc)).setCell ⟨w.heap.size, 1, none⟩ (.slice x.oa x.no x.oc)) w.heap.size z1.heap.size x := tG.out.other qX.out.ra fun j _ _ bO => aD _ _ bO
 obtain ⟨r0, r1⟩ := pair_cells qX.out.ra
 obtain ⟨f0, f1⟩ := aB qX.out.ra
 have aMd := aPo (cE (.slice x.va 4 x.vc) (.slice x.oa x.no x.oc) qX.out.ra)
 have aDI : Hid (((z1.setCell ⟨w.heap.size, 0, none⟩ (.slice x.va 4 x.vc)).setCell ⟨w.heap.size, 1, none⟩ (.slice x.oa x.no x.oc)).heap[w.heap.size + 1]? = some (.cells #[.int .i64 0, .string ⟨#[]⟩, .int .i64 0, .int .i64 0, .int .i64 0] 29 (0, 0))) := (aD _ _ (by omega)).trans qX.out.rb
 have hB6 : Below w.heap.size w ((z1.setCell ⟨w.heap.size, 0, none⟩ (.slice x.va 4 x.vc)).setCell ⟨w.heap.size, 1, none⟩ (.slice x.oa x.no x.oc)) := qX.out.bel.trans (dY z1 w.heap.size 0 1 _ _)
 have hz6 := aY z1 w.heap.size (.slice x.va 4 x.vc) (.slice x.oa x.no x.oc)
 have aLw : z1.heap.size ≤ ((z1.setCell ⟨w.heap.size, 0, none⟩ (.slice x.va 4 x.vc)).setCell ⟨w.heap.size, 1, none⟩ (.slice x.oa x.no x.oc)).heap.size := Nat.le_of_eq hz6.symm
 have aNR : ((z1.setCell ⟨w.heap.size, 0, none⟩ (.slice x.va 4 x.vc)).setCell ⟨w.heap.size, 1, none⟩ (.slice x.oa x.no x.oc)).heap.size ≤ z1.heap.size := Nat.le_of_eq hz6
 clear hz6
 have HK6 := aPo kc
 have eN := aPo hB6
 clear kc hB6
 have lZ : ((z1.setCell ⟨w.heap.size, 0, none⟩ (.slice x.va 4 x.vc)).setCell ⟨w.heap.size, 1, none⟩ (.slice x.oa x.no x.oc)).cell? ⟨cb, 0, none⟩ = some (.slice x.va 4 x.vc) ∧ ((z1.setCell ⟨w.heap.size, 0, none⟩ (.slice x.va 4 x.vc)).setCell ⟨w.heap.size, 1, none⟩ (.slice x.oa x.no x.oc)).cell? ⟨cb, 1, none⟩ = some (.slice x.oa x.no x.oc) := pair_cells ((aD _ _ (by omega)).trans HC5.out)
 refine rk 4 rfl (fun K hK => ?_)
 go_simp
 refine hK.out _ _ lZ (fun dQ => ?_)
 clear hK K
 (try simp only [Act.put, u1, u2, u3])
 clear r0 r1 f0 f1
 generalize ((z1.setCell ⟨w.heap.size, 0, none⟩ (.slice x.va 4 x.vc)).setCell ⟨w.heap.size, 1, none⟩ (.slice x.oa x.no x.oc)) = z6 at aMd aDI eN HK6 lZ aLw aNR dQ ⊢
 refine tj 5 ?_
 obtain ⟨g0, g1, g2, g3, g4⟩ := aDf aDI.out
 obtain ⟨f0, f1, f2, f3, f4⟩ := aKu aDI.out
 have T5 : (((((z6.setCell ⟨w.heap.size + 1, 0, none⟩ (.int .i64 kind)).setCell ⟨w.heap.size + 1, 1, none⟩ (.string item)).setCell ⟨w.heap.size + 1, 2, none⟩ (.int .i64 qty)).setCell ⟨w.heap.size + 1, 3, none⟩ (.int .i64 dv)).setCell ⟨w.heap.size + 1, 4, none⟩ (.int .i64 sq)).cell? ⟨cb, 0, none⟩ = some (.slice x.va 4 x.vc) ∧ (((((z6.setCell ⟨w.heap.size + 1, 0, none⟩ (.int .i64 kind)).setCell ⟨w.heap.size + 1, 1, none⟩ (.string item)).setCell ⟨w.heap.size + 1, 2, none⟩ (.int .i64 qty)).setCell ⟨w.heap.size + 1, 3, none⟩ (.int .i64 dv)).setCell ⟨w.heap.size + 1, 4, none⟩ (.int .i64 sq)).cell? ⟨cb, 1, none⟩ = some (.slice x.oa x.no x.oc) := ⟨(World.cell?_of_block (a := ⟨cb, 0, none⟩) (X9 (by show cb ≠ _; omega))).trans lZ.1, (World.cell?_of_block (a := ⟨cb, 1, none⟩) (X9 (by show cb ≠ _; omega))).trans lZ.2⟩
 have aMc : Hid ((((((z6.setCell ⟨w.heap.size + 1, 0, none⟩ (.int .i64 kind)).setCell ⟨w.heap.size + 1, 1, none⟩ (.string item)).setCell ⟨w.heap.size + 1, 2, none⟩ (.int .i64 qty)).setCell ⟨w.heap.size + 1, 3, none⟩ (.int .i64 dv)).setCell ⟨w.heap.size + 1, 4, none⟩ (.int .i64 sq)).heap[w.heap.size]? = some (.cells #[.slice x.va 4 x.vc, .slice x.oa x.no x.oc] 27 (0, 0))) := (X9 (by omega)).trans aMd.out
 have aMb : Hid ((((((z6.setCell ⟨w.heap.size + 1, 0, none⟩ (.int .i64 kind)).setCell ⟨w.heap.size + 1, 1, none⟩ (.string item)).setCell ⟨w.heap.size + 1, 2, none⟩ (.int .i64 qty)).setCell ⟨w.heap.size + 1, 3, none⟩ (.int .i64 dv)).setCell ⟨w.heap.size + 1, 4, none⟩ (.int .i64 sq)).heap[w.heap.size + 1]? = some (.cells #[.int .i64 kind, .string item, .int .i64 qty, .int .i64 dv, .int .i64 sq] 29 (0, 0))) := aKs aDI.out
 have D3 : Hid (Below w.heap.size w (((((z6.setCell ⟨w.heap.size + 1, 0, none⟩ (.int .i64 kind)).setCell ⟨w.heap.size + 1, 1, none⟩ (.string item)).setCell ⟨w.heap.size + 1, 2, none⟩ (.int .i64 qty)).setCell ⟨w.heap.size + 1, 3, none⟩ (.int .i64 dv)).setCell ⟨w.heap.size + 1, 4, none⟩ (.int .i64 sq))) := aKv eN.out (Nat.le_succ _)
 have HK7 : Hid (lG (((((z6.setCell ⟨w.heap.size + 1, 0, none⟩ (.int .i64 kind)).setCell ⟨w.heap.size + 1, 1, none⟩ (.string item)).setCell ⟨w.heap.size + 1, 2, none⟩ (.int .i64 qty)).setCell ⟨w.heap.size + 1, 3, none⟩ (.int .i64 dv)).setCell ⟨w.heap.size + 1, 4, none⟩ (.int .i64 sq)) w.heap.size (((((z6.setCell ⟨w.heap.size + 1, 0, none⟩ (.int .i64 kind)).setCell ⟨w.heap.size + 1, 1, none⟩ (.string item)).setCell ⟨w.heap.size + 1, 2, none⟩ (.int .i64 qty)).setCell ⟨w.heap.size + 1, 3, none⟩ (.int .i64 dv)).setCell ⟨w.heap.size + 1, 4, none⟩ (.int .i64 sq)).heap.size x) := by
  have h7 : lG (((((z6.setCell ⟨w.heap.size + 1, 0, none⟩ (.int .i64 kind)).setCell ⟨w.heap.size + 1, 1, none⟩ (.string item)).setCell ⟨w.heap.size + 1, 2, none⟩ (.int .i64 qty)).setCell ⟨w.heap.size + 1, 3, none⟩ (.int .i64 dv)).setCell ⟨w.heap.size + 1, 4, none⟩ (.int .i64 sq)) w.heap.size z1.heap.size x := HK6.out.otherM aDI.out fun j _ _ bO => X9 bO
  exact h7.more aPq (by rw [aKr]; exact aLw)
 refine rk 6 rfl (fun K hK => ?_)
 go_simp
 refine hK.out _ _ T5 (fun lC => ?_)
 clear hK K
 (try simp only [Act.put, u1, u2, u3])
 refine wpAnyH_done (by kernel_rfl) ?_ _
 clear g0 g1 g2 g3 g4 f0 f1 f2 f3 f4 T5 lZ
 generalize (((((z6.setCell ⟨w.heap.size + 1, 0, none⟩ (.int .i64 kind)).setCell ⟨w.heap.size + 1, 1, none⟩ (.string item)).setCell ⟨w.heap.size + 1, 2, none⟩ (.int .i64 qty)).setCell ⟨w.heap.size + 1, 3, none⟩ (.int .i64 dv)).setCell ⟨w.heap.size + 1, 4, none⟩ (.int .i64 sq)) = wf at aMc aMb D3 HK7 ⊢
 obtain ⟨q0, q1⟩ := pair_cells aMc.out
 obtain ⟨g0, g1, g2, g3, g4⟩ := aDf aMb.out
 go_wp2
 exact bodyPost_ret (v := .tuple #[.agg #[.slice x.va 4 x.vc, .slice x.oa x.no x.oc], .int .i64 dev, .agg #[.int .i64 kind, .string item, .int .i64 qty, .int .i64 dv, .int .i64 sq]]) (by simp [results, Tryz.results16, go_sem, q0, q1, g0, g1, g2, g3, g4]) rfl ⟨x, dev, kind, item, qty, dv, sq, hi, rfl, HK7.out, D3.out⟩
theorem eG.more {w : World} {B B' : Nat} {E : Int → Addr} (h : eG w B E) (hB : B ≤ B') : eG w B' E :=
 ⟨Nat.le_trans h.low hB, h.cells, fun c h1 h2 => by obtain ⟨a, r⟩ := h.lies c h1 h2; exact ⟨by omega, r⟩, h.ne, h.typ⟩
theorem q9 (w : World) (x y : Array Value) (S T : TypeId) : ((w.alloc (.cells x S)).alloc (.cells y T)).heap[w.heap.size]? = some (.cells x S (0, 0)) ∧ ((w.alloc (.cells x S)).alloc (.cells y T)).heap[w.heap.size + 1]? = some (.cells y T (0, 0)) ∧ Below w.heap.size w ((w.alloc (.cells x S)).alloc (.cells y T)) := by
 have e1 : (w.alloc (.cells x S)).heap.size = w.heap.size + 1 := by simp
 refine ⟨(Below.heap_alloc _ _ _ (by omega)).trans (heap_alloc_new _ _), ?_, ((Below.refl _ w).alloc aPq _).alloc (by simp) _⟩
 rw [← e1]; exact heap_alloc_new _ _
theorem Q7 {w : World} {b : Nat} {v0 v1 v2 : Value} {T : TypeId} {fr : Nat × Nat} (h : w.heap[b]? = some (.cells #[v0, v1, v2] T fr)) : w.cell? ⟨b, 0, none⟩ = some v0 ∧ w.cell? ⟨b, 1, none⟩ = some v1 ∧ w.cell? ⟨b, 2, none⟩ = some v2 :=
 ⟨aPr h, aPr h, aPr h⟩
theorem aCD {w : World} {b : Nat} {cs : Array Value} {T : TypeId} (h : w.heap[b]? = some (.cells cs T (0, 0))) : w.frozen? ⟨b, 0, none⟩ = false ∧ w.frozen? ⟨b, 1, none⟩ = false ∧ w.frozen? ⟨b, 2, none⟩ = false :=
 ⟨aPs h, aPs h, aPs h⟩
theorem aCC {w : World} {b : Nat} {c0 c1 c2 v0 v1 v2 : Value} {T : TypeId} (h : w.heap[b]? = some (.cells #[c0, c1, c2] T (0, 0))) :
  (((w.setCell ⟨b, 0, none⟩ v0).setCell ⟨b, 1, none⟩ v1).setCell ⟨b, 2, none⟩ v2).heap[b]? = some (.cells #[v0, v1, v2] T (0, 0)) :=
 heap_setCell_same _ _ _ _ _ _ (heap_setCell_same _ _ _ _ _ _ (heap_setCell_same _ _ _ _ _ _ h))
theorem aCE {B : Nat} {w0 w : World} {b : Nat} {v0 v1 v2 : Value} (h : Below B w0 w) (hb : B ≤ b) : Below B w0 (((w.setCell ⟨b, 0, none⟩ v0).setCell ⟨b, 1, none⟩ v1).setCell ⟨b, 2, none⟩ v2) :=
 ((h.setCell (p := ⟨b, 0, none⟩) hb _).setCell (p := ⟨b, 1, none⟩) hb _).setCell (p := ⟨b, 2, none⟩) hb _
theorem cK {w w' : World} {g : Nat} {cs : Array Value} {T : TypeId} {fr : Nat × Nat} (hb : Below w.heap.size w w') (H : Hid (w.heap[g]? = some (.cells cs T fr))) : Hid (w'.heap[g]? = some (.cells cs T fr)) := (hb.block _ (bF H.out)).trans H.out
theorem fC {w0 w w' : World} {B : Nat} (hb : Below w.heap.size w w') (H : Hid (Below B w0 w)) (h : B ≤ w.heap.size := by omega) : Hid (Below B w0 w') := H.out.trans (hb.mono h)
theorem eQ {w w' : World} {B n : Nat} {a : Option Addr} {l : List Int} (hb : Below w.heap.size w w') (H : Hid (Ints w B a n l)) (h : B ≤ w.heap.size := by omega) : Hid (Ints w' B a n l) := H.out.below hb h
theorem eR {w w' : World} {B n : Nat} {a : Option Addr} {l : List aA} (hb : Below w.heap.size w w') (H : Hid (bP w B a n l)) (h : B ≤ w.heap.size := by omega) : Hid (bP w' B a n l) := H.out.below hb h
theorem jP {w w' : World} {B : Nat} {E : Int → Addr} (hb : Below w.heap.size w w') (H : Hid (eG w B E)) (h : B ≤ w.heap.size := by omega) : Hid (eG w' B E) := H.out.below hb h
theorem oU {w w' : World} {p : Addr} {v : Value} (hb : Below w.heap.size w w') (H : Hid (w.cell? p = some v)) (h : p.block < w.heap.size := by dsimp only; omega) : Hid (w'.cell? p = some v) := (hb.cell (p := p) h).trans H.out
theorem vC {xs : List Int} {l : List aA} {dev kind : Int} {item : ByteArray} {qty dv sq k : Int} {zs : List Int} {m : List aA} (h : dI xs l dev kind item qty dv sq = (k, zs, m)) : zs.length ≤ 4 ∧ m.length ≤ 160 ∧ (∀ i, i < m.length → (aC m i).item.size ≤ 1048576) ∧ (k ≠ 1 → aE zs m = true) := by
 have hc := Z2 xs l dev kind item qty dv sq
 rw [h] at hc
 rcases hc with hc | hc
 ·injection hc with h1 h2
  injection h2 with h2 h3; subst h1 h2 h3; exact ⟨Nat.zero_le _, Nat.zero_le _, fun i hi => absurd hi (Nat.not_lt_zero _), fun q => absurd rfl q⟩
 ·have hc : aE zs m = true := hc
  exact ⟨Nat.le_of_eq (iH hc).1, eF hc, fun i hi => Nat.le_trans (dK (eU hc hi)).2.2.2.2.1 (by omega), fun _ => hc⟩
theorem uK {m : List aA} (h : ∀ i, i < m.length → (aC m i).item.size ≤ 1048576) : ∀ o ∈ m, o.item.size ≤ 1048576 := fun o ho => by
 obtain ⟨i, hi, e⟩ := List.mem_iff_getElem.1 ho
 have := h i hi
 unfold aC at this
 rw [List.getD_eq_getElem?_getD, List.getElem?_eq_getElem hi] at this
 rw [← e]
 exact this
def U4 (xs : List Int) (l : List aA) (x : ByteArray) (o : aS) (t : Bool) : Prop := (t = true ∧ x ∈ cF xs l ∧ o = cG l x) ∨ (t = false ∧ ¬ x ∈ cF xs l ∧ o = aS.zero)
theorem U4.yes {xs : List Int} {l : List aA} {x : ByteArray} {o : aS} {t : Bool} (h : U4 xs l x o t) (hc : aE xs l = true) (hl : aI x l l.length % 2 = 1) : t = true ∧ o = cG l x := by
 rcases h with ⟨h1, _, h3⟩ | ⟨_, h2, _⟩
 ·exact ⟨h1, h3⟩
 ·exact absurd ((jF hc x).2 hl) h2
theorem U4.no {xs : List Int} {l : List aA} {x : ByteArray} {o : aS} {t : Bool} (h : U4 xs l x o t) (hc : aE xs l = true) (hl : ¬ aI x l l.length % 2 = 1) : t = false ∧ o = aS.zero := by
 rcases h with ⟨_, h2, _⟩ | ⟨h1, _, h3⟩
 ·exact absurd ((jF hc x).1 h2) hl
 ·exact ⟨h1, h3⟩
theorem aAn {xs : List Int} {l : List aA} {i : Nat} (hi : i < (aZ xs l).length) : ((aZ xs l).getD i aS.zero).item ∈ cF xs l ∧ (aZ xs l).getD i aS.zero = cG l ((aZ xs l).getD i aS.zero).item := by
 obtain ⟨h, e⟩ := aCI xs l hi
 have e2 : (cF xs l).getD i ⟨#[]⟩ = (cF xs l)[i] := by rw [List.getD_eq_getElem?_getD, List.getElem?_eq_getElem h]; rfl
 rw [e]
 refine ⟨?_, rfl⟩
 show (cF xs l).getD i ⟨#[]⟩ ∈ cF xs l
 rw [e2]
 exact List.getElem_mem h
theorem aKi {xs : List Int} {l : List aA} {x : ByteArray} (h : ∀ j, j < (aZ xs l).length → ((aZ xs l).getD j aS.zero).item ≠ x) : ¬ x ∈ cF xs l := fun hx => by
 obtain ⟨i, hi, e⟩ := List.mem_iff_getElem.1 hx
 have hl : (aZ xs l).length = (cF xs l).length := by unfold aZ; rw [List.length_map]
 have hi2 : i < (aZ xs l).length := by omega
 obtain ⟨h1, e1⟩ := aCI xs l hi2
 refine h i hi2 ?_
 rw [e1]
 show (cF xs l).getD i ⟨#[]⟩ = x
 rw [List.getD_eq_getElem?_getD, List.getElem?_eq_getElem hi]
 exact e
set_option maxHeartbeats 20000000 in
theorem aJm (w : World) (B : Nat) (av ao : Option Addr) (nv cv no co : Nat) (xs : List Int) (l : List aA) (item : ByteArray) (hx : Ints w B av nv xs) (h : bP w B ao no l) (hB : B ≤ w.heap.size) (hv : nv ≤ 1048576) (hc : no ≤ co) (dP : Fits no co) (hm : ∀ o ∈ l, o.item.size ≤ 1048576) :
  Calls Tryz.prog 25 #[.agg #[.slice av nv cv, .slice ao no co], .string item] w fun e w' => ∃ o t, e = .returned (.tuple #[.agg #[.string o.item, .int .i64 o.qty, .bool o.saved], .bool t]) ∧ U4 xs l item o t ∧ Below w.heap.size w w' := by
 obtain ⟨F4, N1, bD⟩ := q9 w #[.slice av nv cv, .slice ao no co] #[.string ⟨#[]⟩, .int .i64 0, .bool false] 27 39
 have HV := aPo (hx.below bD hB)
 have HO := aPo (h.below bD hB)
 have zM := aPo F4
 have iV := aPo N1
 have pW := aPo bD
 have jW := bD.size
 clear hx h F4 N1 bD
 go_enter Tryz.func25, Tryz.ntmps25
 go_upto_region 1 with fail
 generalize (w.alloc (.cells #[.slice av nv cv, .slice ao no co] 27)).alloc (.cells #[.string ⟨#[]⟩, .int .i64 0, .bool false] 39) = w0 at HV HO zM iV pW jW ⊢
 obtain ⟨c0, c1⟩ := pair_cells zM.out
 go_wp2_with fail
 refine (vL w0 w0.heap.size av ao nv cv no co xs l (HV.out.more (by omega)) (HO.out.more (by omega)) aPq hv hc dP hm).mono ?_
 rintro e w1 ⟨la, lc, rfl, pO, hb⟩
 have HL := aPo pO.rows
 have aDJ := aPo ((hb.block _ (bF iV.out)).trans iV.out)
 have cU := aPo (pW.out.trans (hb.mono (by omega)))
 have hi1 := aPo fun i (hi : i < (aZ xs l).length) => aAn (xs := xs) (l := l) hi
 have hn1 := aPo (aKi (xs := xs) (l := l) (x := item))
 have lA : (aZ xs l).length ≤ 160 := by unfold aZ; rw [List.length_map]; exact sQ
 clear pO hb zM iV pW HV HO c0 c1
 generalize aZ xs l = LL at HL hi1 hn1 lA ⊢
 obtain ⟨g0, g1, g2⟩ := Q7 aDJ.out
 go_wp2
 go_loopw [7] (fun i wr => ∃ q : Nat, q ≤ LL.length ∧ i = .int .i64 (q : Int) ∧ Hid (∀ j, j < q → (LL.getD j aS.zero).item ≠ item) ∧ wr = w1) (fun i _ => LL.length - (intOf i).toNat)
 case atStart => exact ⟨0, Nat.zero_le _, rfl, fun j hj => absurd hj (Nat.not_lt_zero _), rfl⟩
 case round =>
  obtain ⟨q, hq, rfl, HN, rfl⟩ := hrel
  by_cases aJ : q < LL.length
  rotate_left
  ·have hM := hn1.out fun j hj => HN.out j (by omega)
   have HR := aPo (aCC (v0 := .string ⟨#[]⟩) (v1 := .int .i64 0) (v2 := .bool false) aDJ.out); have bT := aPo (aCE (v0 := .string ⟨#[]⟩) (v1 := .int .i64 0) (v2 := .bool false) cU.out (Nat.le_succ w.heap.size)); obtain ⟨f0, f1, f2⟩ := aCD aDJ.out; go_wp2
   generalize (((wr.setCell ⟨w.heap.size + 1, 0, none⟩ (.string ⟨#[]⟩)).setCell ⟨w.heap.size + 1, 1, none⟩ (.int .i64 0)).setCell ⟨w.heap.size + 1, 2, none⟩ (.bool false)) = wf at HR bT ⊢; obtain ⟨q0, q1, q2⟩ := Q7 HR.out; exact bodyPost_ret (v := .tuple #[.agg #[.string ⟨#[]⟩, .int .i64 0, .bool false], .bool false]) (by simp [results, Tryz.results25, go_sem, q0, q1, q2]) rfl ⟨aS.zero, false, rfl, .inr ⟨rfl, hM, rfl⟩, bT.out⟩
  obtain ⟨b, off, rfl, hb, ho⟩ := HL.out.2 q aJ; obtain ⟨d0, d1, d2⟩ := ho; have uL := hi1.out q aJ; have hqe : Hid ((LL.getD q aS.zero).item = (LL.getD q aS.zero).item) := rfl; obtain ⟨y, hy⟩ : ∃ y, LL.getD q aS.zero = y := ⟨_, rfl⟩; rw [hy] at d0 d1 d2 uL; have HY := aPo hy; clear hy hqe; have HM := aPo uL; clear uL; have hki : (q : Int) < (LL.length : Int) := by omega
  by_cases he : y.item = item
  ·have aNY : (y.item.toList == item.toList) = true := by rw [he]; exact beq_self_eq_true _
   have HHe := aPo he; clear he; have HR := aPo (aCC (v0 := .string y.item) (v1 := .int .i64 y.qty) (v2 := .bool y.saved) aDJ.out); have bT := aPo (aCE (v0 := .string y.item) (v1 := .int .i64 y.qty) (v2 := .bool y.saved) cU.out (Nat.le_succ w.heap.size)); obtain ⟨f0, f1, f2⟩ := aCD aDJ.out; go_wp2
   generalize (((wr.setCell ⟨w.heap.size + 1, 0, none⟩ (.string y.item)).setCell ⟨w.heap.size + 1, 1, none⟩ (.int .i64 y.qty)).setCell ⟨w.heap.size + 1, 2, none⟩ (.bool y.saved)) = wf at HR bT ⊢; obtain ⟨q0, q1, q2⟩ := Q7 HR.out; exact bodyPost_ret (v := .tuple #[.agg #[.string y.item, .int .i64 y.qty, .bool y.saved], .bool true]) (by simp [results, Tryz.results25, go_sem, q0, q1, q2]) rfl ⟨y, true, rfl, .inl ⟨rfl, by have h := HM.out.1; rw [HHe.out] at h; exact h, by have h := HM.out.2; rw [HHe.out] at h; exact h⟩, bT.out⟩
  ·have aNY : (y.item.toList == item.toList) = false := by
    cases hq2 : (y.item.toList == item.toList)
    ·rfl
    ·exact absurd (aEX (eq_of_beq hq2)) he
   have lN : Hid (∀ j, j < q + 1 → (LL.getD j aS.zero).item ≠ item) := fun j hj => by
    rcases Nat.lt_or_ge j q with h1 | h1
    ·exact HN.out j h1
    ·obtain rfl : j = q := by omega
     rw [HY.out]; exact he
   clear he; go_wp2
   go_roundw
   case rel => exact ⟨q + 1, by omega, by go_num, lN, trivial⟩
   case measure => simp [intOf]; omega
theorem aK4 {w : World} {lo hi : Nat} {a : Option Addr} {n : Nat} {l : List Int} (h : Own w lo hi a n l) : ∀ g off, a = some ⟨g, off, none⟩ → 0 < n → lo ≤ g := fun g off e hn => by
 obtain ⟨g', aW, e1, h1, _⟩ := h.2 hn
 rw [e1] at e
 injection e with e
 injection e with e
 omega
theorem aGq {w : World} {lo hi : Nat} {a : Option Addr} {n : Nat} {l : List aA} (h : bB w lo hi a n l) : ∀ g off, a = some ⟨g, off, none⟩ → 0 < n → lo ≤ g := fun g off e hn => by
 obtain ⟨g', sM, aW, e1, h1, _⟩ := h.2 hn
 rw [e1] at e
 injection e with e
 injection e with e
 omega
theorem aIb {w w' : World} {B nb : Nat} {a : Option Addr} {n : Nat} {l : List Int} (h : Ints w B a n l) (bO : ∀ g off, a = some ⟨g, off, none⟩ → 0 < n → g ≠ nb) (hk : ∀ j, j ≠ nb → w'.heap[j]? = w.heap[j]?) : Ints w' B a n l :=
 ⟨h.1, fun i hi => by
  obtain ⟨b, off, e, hb, hc⟩ := h.2 i hi; exact ⟨b, off, e, hb, (World.cell?_of_block (a := ⟨b, off + i, none⟩) (hk b (bO b off e (by omega)))).trans hc⟩⟩
theorem aJ5 {w w' : World} {B nb : Nat} {a : Option Addr} {n : Nat} {l : List aA} (h : bP w B a n l) (bO : ∀ g off, a = some ⟨g, off, none⟩ → 0 < n → g ≠ nb) (hk : ∀ j, j ≠ nb → w'.heap[j]? = w.heap[j]?) : bP w' B a n l :=
 ⟨h.1, fun i hi => by
  obtain ⟨b, off, e, hb, hc⟩ := h.2 i hi; exact ⟨b, off, e, hb, hc.kept (hk b (bO b off e (by omega)))⟩⟩
structure aPi (nb : Nat) (va oa : Option Addr) (nv vc no oc : Nat) (ys : List Int) (ul : List aA) (W : World) : Prop where
 box : W.heap[nb]? = some (.cells #[.slice va nv vc, .slice oa no oc] 27 (0, 0))
 vec : Ints W W.heap.size va nv ys
 ops : bP W W.heap.size oa no ul
 vcap : bM va nv vc
 ocap : bM oa no oc
 small : nv ≤ 4 ∧ no ≤ 400
 len : ul.length = no
 item : ∀ i, i < no → (aC ul i).item.size ≤ 1048576
theorem aAd {G : Prop} {F : Nat → Option Addr → Nat → Option Addr → Nat → World → Prop} (T : Nat → Option Addr → Nat → Option Addr → Nat → World → Prop) (h1 : (∀ a b c d e f, F a b c d e f → T a b c d e f) → G) (h2 : ∀ a b c d e f, F a b c d e f → T a b c d e f) : G := h1 h2
theorem aKV {G : Prop} {F : Nat → aS → Bool → World → Prop} (T : Nat → aS → Bool → World → Prop) (h1 : (∀ a b c d, F a b c d → T a b c d) → G) (h2 : ∀ a b c d, F a b c d → T a b c d) : G := h1 h2
theorem aKn {w : World} {B : Nat} {a : Option Addr} {n : Nat} {l : List Int} (h : Ints w B a n l) : ∀ g off, a = some ⟨g, off, none⟩ → 0 < n → g < B := fun g off e hn => by
 obtain ⟨b, sM, e1, hb, _⟩ := h.2 0 hn
 rw [e1] at e
 injection e with e
 injection e with e
 omega
theorem aK7 {w : World} {B : Nat} {a : Option Addr} {n : Nat} {l : List aA} (h : bP w B a n l) : ∀ g off, a = some ⟨g, off, none⟩ → 0 < n → g < B := fun g off e hn => by
 obtain ⟨b, sM, e1, hb, _⟩ := h.2 0 hn
 rw [e1] at e
 injection e with e
 injection e with e
 omega
def oR (W : World) (zs : List Int) (m : List aA) (nW : Nat) (va : Option Addr) (vc : Nat) (oa : Option Addr) (oc : Nat) (wT : World) : Prop :=
 Below W.heap.size W wT ∧ W.heap.size ≤ nW ∧ wT.heap[nW]? = some (.cells #[.slice none 0 0, .slice none 0 0] 27 (0, 0)) ∧ Ints wT wT.heap.size va zs.length zs ∧ bP wT wT.heap.size oa m.length m ∧ bM va zs.length vc ∧ bM oa m.length oc ∧ (∀ g off, va = some ⟨g, off, none⟩ → 0 < zs.length → g ≠ nW) ∧ (∀ g off, oa = some ⟨g, off, none⟩ → 0 < m.length → g ≠ nW)
theorem oR.first {W y : World} {zs : List Int} {m : List aA} {va oa : Option Addr} {vc oc bY : Nat} (hb : Below W.heap.size W y) (gW : Own y W.heap.size bY va zs.length zs) (eA : bB y bY y.heap.size oa m.length m) (h1 : W.heap.size ≤ bY) (h2 : bY ≤ y.heap.size) (c1 : bM va zs.length vc) (c2 : bM oa m.length oc) :
  oR W zs m y.heap.size va vc oa oc (y.alloc (.cells #[.slice none 0 0, .slice none 0 0] 27)) := by
 have t2 : Below y.heap.size y (y.alloc (.cells #[.slice none 0 0, .slice none 0 0] 27)) := bl
 have i1 := (gW.more aPq h2).ints
 have o1 := eA.ops
 exact ⟨hb.trans (t2.mono hb.size), hb.size, heap_alloc_new _ _, (i1.below t2 aPq).more t2.size, (o1.below t2 aPq).more t2.size, c1, c2, fun g off e hn => Nat.ne_of_lt (aKn i1 g off e hn), fun g off e hn => Nat.ne_of_lt (aK7 o1 g off e hn)⟩
theorem oR.behind {W y0 y : World} {zs : List Int} {m : List aA} {va oa : Option Addr} {vc oc bY : Nat} (h0 : y0 = W.alloc (.cells #[.slice none 0 0, .slice none 0 0] 27)) (hb : Below y0.heap.size y0 y) (gW : Own y y0.heap.size bY va zs.length zs) (eA : bB y bY y.heap.size oa m.length m) (h1 : y0.heap.size ≤ bY) (h2 : bY ≤ y.heap.size) (c1 : bM va zs.length vc) (c2 : bM oa m.length oc) :
  oR W zs m W.heap.size va vc oa oc y := by
 have t1 : Below W.heap.size W y0 := by rw [h0]; exact bl
 have hn : y0.heap[W.heap.size]? = some (.cells #[.slice none 0 0, .slice none 0 0] 27 (0, 0)) := by rw [h0]; exact heap_alloc_new _ _
 have hl := bF hn
 have i1 := (gW.more aPq h2).ints
 have o1 := eA.ops
 exact ⟨t1.trans (hb.mono t1.size), Nat.le_refl _, (hb.block _ hl).trans hn, i1, o1, c1, c2, fun g off e hn => by have := aK4 gW g off e hn; omega, fun g off e hn => by have := aGq eA g off e hn; omega⟩
theorem oR.store {W wT : World} {zs : List Int} {m : List aA} {nW : Nat} {va oa : Option Addr} {vc oc : Nat} (h : oR W zs m nW va vc oa oc wT) {w' : World} (hw : w' = (wT.setCell ⟨nW, 0, none⟩ (.slice va zs.length vc)).setCell ⟨nW, 1, none⟩ (.slice oa m.length oc)) :
  Below W.heap.size W w' ∧ w'.heap[nW]? = some (.cells #[.slice va zs.length vc, .slice oa m.length oc] 27 (0, 0)) ∧ Ints w' w'.heap.size va zs.length zs ∧ bP w' w'.heap.size oa m.length m := by
 obtain ⟨hb, hn, qR, hi, ho, _, _, n1, n2⟩ := h
 subst hw
 exact ⟨(hb.setCell (p := ⟨nW, 0, none⟩) hn _).setCell (p := ⟨nW, 1, none⟩) hn _, cE _ _ qR, (aIb hi n1 fun j hj => aD _ _ hj).more (by rw [aY]; exact Nat.le_refl _), (aJ5 ho n2 fun j hj => aD _ _ hj).more (by rw [aY]; exact Nat.le_refl _)⟩
end Go.Proofs.YthkagbnpcjidfaaGreatDoor
