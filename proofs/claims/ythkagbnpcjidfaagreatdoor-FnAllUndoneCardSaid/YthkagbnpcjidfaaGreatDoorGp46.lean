/- Walks and mathematics that several claims share, part 46. -/
import Derived.Test.YthkagbnpcjidfaaGreatDoorGp45
import Derived.Deep.Cut
namespace Go.Proofs.YthkagbnpcjidfaaGreatDoor
set_option maxRecDepth 100000
open Go.RowKit
set_option linter.unusedVariables false
set_option linter.unusedSimpArgs false
def lD (w : World) (lo hi : Nat) (x : cB) : Prop :=
 ∃ zs m, x.no = m.length ∧ Own w lo hi x.va 4 zs ∧ bB w lo hi x.oa m.length m ∧ bQ x.va 4 x.vc ∧ bQ x.oa m.length x.oc ∧ (∀ i, i < m.length → (aB m i).item.size ≤ 8) ∧ m.length ≤ 400
theorem tY.weak {w : World} {lo hi : Nat} {x : cB} (h : tY w lo hi x) : lD w lo hi x := by
 obtain ⟨zs, m, e, a, b, c, d, f⟩ := h
 exact ⟨zs, m, e, a, b, c, d, f.item, f.most⟩
theorem lD.more {w : World} {lo hi lo' hi' : Nat} {x : cB} (h : lD w lo hi x) (h1 : lo' ≤ lo) (h2 : hi ≤ hi') : lD w lo' hi' x := by
 obtain ⟨zs, m, e, a, b, c⟩ := h
 exact ⟨zs, m, e, a.more h1 h2, b.more h1 h2, c⟩
theorem lD.kept {w w' : World} {lo hi : Nat} {x : cB} (h : lD w lo hi x) (hk : ∀ j, lo ≤ j → j < hi → w'.heap[j]? = w.heap[j]?) : lD w' lo hi x := by
 obtain ⟨zs, m, e, a, b, c⟩ := h
 exact ⟨zs, m, e, a.kept hk, b.kept hk, c⟩
theorem lD.other {w w' : World} {lo hi q : Nat} {x : cB} {cs : Array Value} {fr : Nat × Nat} (h : lD w lo hi x) (hq : w.heap[q]? = some (.cells cs 27 fr)) (hk : ∀ j, lo ≤ j → j < hi → j ≠ q → w'.heap[j]? = w.heap[j]?) : lD w' lo hi x := by
 obtain ⟨zs, m, e, a, b, c⟩ := h
 refine ⟨zs, m, e, ⟨a.1, fun hn => ?_⟩, ⟨b.1, fun hn => ?_⟩, c⟩
 ·obtain ⟨g, aV, e1, h1, h2, hg, hc⟩ := a.2 hn
  have bJ : g ≠ q := by
   intro e2
   rw [e2, hq] at hg; injection hg with hg; injection hg with _ hg; exact absurd hg (by decide)
  exact ⟨g, aV, e1, h1, h2, (hk g h1 h2 bJ).trans hg, hc⟩
 ·obtain ⟨g, off, aV, e1, h1, h2, hg, hs, hc⟩ := b.2 hn
  have bJ : g ≠ q := by
   intro e2
   rw [e2, hq] at hg; injection hg with hg; injection hg with _ hg; exact absurd hg (by decide)
  exact ⟨g, off, aV, e1, h1, h2, (hk g h1 h2 bJ).trans hg, hs, hc⟩
def P0 (m : List aA) (i : Nat) (t : Int) : List aA := m.set i { aB m i with stamp := t }
theorem lD.stamp {w : World} {lo hi i : Nat} {x : cB} (h : lD w lo hi x) (hi' : i < x.no) (t : Int) :
  ∃ g off u, x.oa = some ⟨g, off, none⟩ ∧ lo ≤ g ∧ g < hi ∧ (∃ cs, w.heap[g]? = some (.cells cs 50 (0, 0))) ∧ w.cell? ⟨g, off + i * 8 + 2, none⟩ = some (.int .i64 u) ∧ w.frozen? ⟨g, off + i * 8 + 2, none⟩ = false ∧ lD (w.setCell ⟨g, off + i * 8 + 2, none⟩ (.int .i64 t)) lo hi x := by
 obtain ⟨zs, m, e, a, b, c1, c2, c3, c4⟩ := h
 rw [e] at hi'
 obtain ⟨g, off, cs, e1, h1, h2, hg, hs, hc⟩ := b.2 (by omega)
 have hx := hc i hi'
 have hl : (P0 m i t).length = m.length := by unfold P0; simp
 refine ⟨g, off, (aB m i).stamp, e1, h1, h2, ⟨cs, hg⟩, (hx.at hg).2.2.1, aPy hg, zs, P0 m i t, by rw [hl]; exact e, ⟨a.1, fun hn => ?_⟩, ⟨rfl, fun hn => ⟨g, off, cs.setIfInBounds (off + i * 8 + 2) (.int .i64 t), e1, h1, h2, heap_setCell_same _ _ _ _ _ _ hg, by rw [hl]; simpa using hs, fun j hj => ?_⟩⟩, c1, by rw [hl]; exact c2, fun j hj => ?_, by rw [hl]; exact c4⟩
 ·obtain ⟨q, aV, e2, a1, a2, a3, a4⟩ := a.2 hn
  have bJ : q ≠ g := by
   intro eq
   rw [eq, hg] at a3; injection a3 with a3; injection a3 with _ a3; exact absurd a3 (by decide)
  exact ⟨q, aV, e2, a1, a2, (heap_setCell_other _ _ _ _ bJ).trans a3, a4⟩
 ·rw [hl] at hj
  have hy := hc j hj; unfold P0; rw [gZ hi']
  by_cases e2 : i = j
  ·subst e2
   rw [if_pos rfl]; obtain ⟨y0, y1, y2, y3, y4, y5, y6, y7⟩ := hy; have ne : ∀ q, q ≠ 2 → (cs.setIfInBounds (off + i * 8 + 2) (.int .i64 t))[off + i * 8 + q]? = cs[off + i * 8 + q]? := fun q hq => by rw [Array.getElem?_setIfInBounds, if_neg (by omega)]
   refine ⟨(ne 0 (by omega)).trans y0, (ne 1 (by omega)).trans y1, ?_, (ne 3 (by omega)).trans y3, (ne 4 (by omega)).trans y4, (ne 5 (by omega)).trans y5, (ne 6 (by omega)).trans y6, (ne 7 (by omega)).trans y7⟩
   rw [Array.getElem?_setIfInBounds, if_pos rfl, if_pos (aPv y2).1]
  ·rw [if_neg e2]
   have ne : ∀ q, q < 8 → (cs.setIfInBounds (off + i * 8 + 2) (.int .i64 t))[off + j * 8 + q]? = cs[off + j * 8 + q]? := fun q hq => by rw [Array.getElem?_setIfInBounds, if_neg (by omega)]
   obtain ⟨y0, y1, y2, y3, y4, y5, y6, y7⟩ := hy; exact ⟨(ne 0 (by omega)).trans y0, (ne 1 (by omega)).trans y1, (ne 2 (by omega)).trans y2, (ne 3 (by omega)).trans y3, (ne 4 (by omega)).trans y4, (ne 5 (by omega)).trans y5, (ne 6 (by omega)).trans y6, (ne 7 (by omega)).trans y7⟩
 ·rw [hl] at hj
  unfold P0 aB; rw [gZ hi']
  split
  ·exact c3 i hi'
  ·exact c3 j hj
theorem lD.vec {w : World} {lo hi : Nat} {x : cB} (h : lD w lo hi x) (t : Int) :
  ∃ g u, x.va = some ⟨g, 0, none⟩ ∧ lo ≤ g ∧ g < hi ∧ (∃ cs, w.heap[g]? = some (.cells cs 2 (0, 0))) ∧ w.cell? ⟨g, 0, none⟩ = some (.int .i64 u) ∧ w.frozen? ⟨g, 0, none⟩ = false ∧ lD (w.setCell ⟨g, 0, none⟩ (.int .i64 t)) lo hi x := by
 obtain ⟨zs, m, e, a, b, c⟩ := h
 have pM := a.1
 obtain ⟨g, aV, e1, h1, h2, hg, hc⟩ := a.2 (by omega)
 have hx := hc 0 (by omega)
 refine ⟨g, zs.getD 0 0, e1, h1, h2, ⟨aV, hg⟩, (aPx hg).trans hx, aPy hg, zs.set 0 t, m, e, ⟨by rw [List.length_set]; exact pM, fun hn => ⟨g, aV.setIfInBounds 0 (.int .i64 t), e1, h1, h2, heap_setCell_same _ _ _ _ _ _ hg, fun i hi => ?_⟩⟩, ⟨b.1, fun hn => ?_⟩, c⟩
 ·rw [Array.getElem?_setIfInBounds, gZ (by omega)]
  by_cases e2 : 0 = i
  ·subst e2
   rw [if_pos rfl, if_pos rfl, if_pos (aPv hx).1]
  ·rw [if_neg e2, if_neg e2]
   exact hc i hi
 ·obtain ⟨q, off, cs, e2, a1, a2, a3, a4, a5⟩ := b.2 hn
  have bJ : q ≠ g := by
   intro eq
   rw [eq, hg] at a3; injection a3 with a3; injection a3 with _ a3; exact absurd a3 (by decide)
  exact ⟨q, off, cs, e2, a1, a2, (heap_setCell_other _ _ _ _ bJ).trans a3, a4, a5⟩
structure O4 (w wr : World) (B g : Nat) (a : Option Addr) (len cap cb : Nat) (x : cB) : Prop where
 box : wr.heap[cb]? = some (.cells #[.slice x.va 4 x.vc, .slice x.oa x.no x.oc] 27 (0, 0))
 res : wr.heap[w.heap.size]? = some (.cells #[.slice none 0 0, .slice none 0 0] 27 (0, 0))
 crt : lD wr (w.heap.size + 1) wr.heap.size x
 grown : w.grownBy wr (some g)
 rd : Rd wr B g a len cap
 glt : g < w.heap.size
 clo : w.heap.size < cb
theorem O4.step {w wr w1 : World} {B g : Nat} {a : Option Addr} {len cap cb : Nat} {x : cB} (h : O4 w wr B g a len cap cb x) (hg : wr.grownBy w1 (some g)) (hr : Rd w1 B g a len cap) : O4 w w1 B g a len cap cb x := by
 have tJ := h.glt
 have F3 := h.clo
 have hs := hg.size
 have hk : ∀ j, j < wr.heap.size → j ≠ g → w1.heap[j]? = wr.heap[j]? := fun j h1 h2 => hg.block j h1 (by intro e; injection e with e; exact h2 e)
 exact ⟨(hk cb (aPv h.box).1 (by omega)).trans h.box, (hk _ (aPv h.res).1 (by omega)).trans h.res, (h.crt.kept fun j h1 h2 => hk j h2 (by omega)).more aPw hs, h.grown.trans hg, hr, tJ, F3⟩
theorem O4.cell1 {w z : World} {B g b i : Nat} {a : Option Addr} {len cap cb : Nat} {x : cB} {T : TypeId} {cs : Array Value} {v : Value} (h : O4 w z B g a len cap cb x) (hb : z.heap[b]? = some (.cells cs T (0, 0))) (hT : T ≠ 27) (iQ : w.heap.size < b) (hc : lD (z.setCell ⟨b, i, none⟩ v) (w.heap.size + 1) z.heap.size x) : O4 w (z.setCell ⟨b, i, none⟩ v) B g a len cap cb x := by
 have tJ := h.glt
 have F3 := h.clo
 have hB := h.rd.own
 have jM := h.grown
 have hz : (z.setCell ⟨b, i, none⟩ v).heap.size = z.heap.size := by simp [World.setCell]
 have hk : ∀ j, j ≠ b → (z.setCell ⟨b, i, none⟩ v).heap[j]? = z.heap[j]? := fun j hj => heap_setCell_other _ _ _ _ hj
 have hcb : cb ≠ b := by
  intro e
  have hx := h.box; rw [e, hb] at hx; injection hx with hx; injection hx with _ hx; exact hT hx
 exact ⟨(hk cb hcb).trans h.box, (hk _ (by omega)).trans h.res, by rw [hz]; exact hc, ⟨jM.os, jM.tape, jM.output, by rw [hz]; exact jM.size, fun k h1 h2 => (hk k (by omega)).trans (jM.block k h1 h2)⟩, h.rd.kept fun k mY => hk k (by omega), tJ, F3⟩
theorem O4.turn {w z : World} {B g : Nat} {a : Option Addr} {len cap cb : Nat} {x : cB} (h : O4 w z B g a len cap cb x) (y : cB) (hy : lD z (w.heap.size + 1) z.heap.size y) : O4 w ((z.setCell ⟨cb, 0, none⟩ (.slice y.va 4 y.vc)).setCell ⟨cb, 1, none⟩ (.slice y.oa y.no y.oc)) B g a len cap cb y := by
 have tJ := h.glt
 have F3 := h.clo
 have hB := h.rd.own
 have jM := h.grown
 have hz := aZ z cb (.slice y.va 4 y.vc) (.slice y.oa y.no y.oc)
 have hk : ∀ j, j ≠ cb → ((z.setCell ⟨cb, 0, none⟩ (.slice y.va 4 y.vc)).setCell ⟨cb, 1, none⟩ (.slice y.oa y.no y.oc)).heap[j]? = z.heap[j]? := fun j hj => aF _ _ hj
 exact ⟨cF _ _ h.box, (hk _ (by omega)).trans h.res, by rw [hz]; exact hy.other h.box fun j _ _ bJ => hk j bJ, ⟨jM.os, jM.tape, jM.output, by rw [hz]; exact jM.size, fun k h1 h2 => (hk k (by omega)).trans (jM.block k h1 h2)⟩, h.rd.kept fun k mY => hk k (by omega), tJ, F3⟩
theorem m6 (w : World) (B g : Nat) (a : Option Addr) (len cap : Nat) (h : Rd w B g a len cap) (n most : Nat) (hn : 0 < n) (hn4 : n ≤ 4) (hm : most ≤ 60) (x y : Int) (hx : x = (n : Int)) (hy : y = (most : Int)) :
  Calls Tryz.prog 75 #[.pointer (some ⟨g, 0, none⟩), .int .i64 x, .int .i64 y] w (j2 n w B g a len cap) := by
 subst hx hy
 exact aJN w B g a len cap h n most hn hn4 hm
def aAH (w : World) (B g : Nat) (a : Option Addr) (len cap : Nat) (e : Ending) (w' : World) : Prop :=
 ∃ x : cB, e = .returned (.agg #[.slice x.va 4 x.vc, .slice x.oa x.no x.oc]) ∧ lD w' w.heap.size w'.heap.size x ∧ w.grownBy w' (some g) ∧ Rd w' B g a len cap
theorem lD.len {w : World} {lo hi : Nat} {x : cB} (h : lD w lo hi x) : x.no ≤ 400 := by
 obtain ⟨zs, m, e, _, _, _, _, _, h4⟩ := h
 omega
theorem lD.caps {w : World} {lo hi : Nat} {x : cB} (h : lD w lo hi x) : x.no ≤ x.oc := by
 obtain ⟨zs, m, e, _, _, _, c, _⟩ := h
 have := c.1
 omega
theorem O4.out {w z : World} {B g : Nat} {a : Option Addr} {len cap cb : Nat} {x : cB} (h : O4 w z B g a len cap cb x) :
  Hid (((z.setCell ⟨w.heap.size, 0, none⟩ (.slice x.va 4 x.vc)).setCell ⟨w.heap.size, 1, none⟩ (.slice x.oa x.no x.oc)).heap[w.heap.size]? = some (.cells #[.slice x.va 4 x.vc, .slice x.oa x.no x.oc] 27 (0, 0))) ∧ Hid (aAH w B g a len cap (.returned (.agg #[.slice x.va 4 x.vc, .slice x.oa x.no x.oc])) ((z.setCell ⟨w.heap.size, 0, none⟩ (.slice x.va 4 x.vc)).setCell ⟨w.heap.size, 1, none⟩ (.slice x.oa x.no x.oc))) := by
 have tJ := h.glt
 have hB := h.rd.own
 have jM := h.grown
 have hz := aZ z w.heap.size (.slice x.va 4 x.vc) (.slice x.oa x.no x.oc)
 have hk : ∀ j, j ≠ w.heap.size → ((z.setCell ⟨w.heap.size, 0, none⟩ (.slice x.va 4 x.vc)).setCell ⟨w.heap.size, 1, none⟩ (.slice x.oa x.no x.oc)).heap[j]? = z.heap[j]? := fun j hj => aF _ _ hj
 exact ⟨cF _ _ h.res, x, rfl, ((h.crt.kept fun j h1 h2 => hk j (by omega)).more (by omega) (by rw [hz]; exact Nat.le_refl _)), ⟨jM.os, jM.tape, jM.output, by rw [hz]; exact jM.size, fun k h1 h2 => (hk k (by omega)).trans (jM.block k h1 h2)⟩, h.rd.kept fun k mY => hk k (by omega)⟩
set_option maxHeartbeats 80000000 in
theorem aKU (w : World) (B g : Nat) (a : Option Addr) (len cap : Nat) (h : Rd w B g a len cap) :
  Calls Tryz.prog 39 #[.pointer (some ⟨g, 0, none⟩)] w (aAH w B g a len cap) := by
 have tJ := h.lt
 have hBg := h.own
 have bC : Below w.heap.size w (w.alloc (.cells #[.slice none 0 0, .slice none 0 0] 27)) := (Below.refl _ w).alloc aPw _
 have V3 := aPu (h.grown (J5 bC) fun k hk => by cases hk)
 have pA := aPu (bE (Below.refl _ (w.alloc (.cells #[.slice none 0 0, .slice none 0 0] 27))))
 have lQ : w.heap.size < (w.alloc (.cells #[.slice none 0 0, .slice none 0 0] 27)).heap.size := by show _ < (w.heap.push _).size; simp
 have tX := aPu bC
 clear h bC
 go_enter Tryz.func39, Tryz.ntmps39
 go_wp2_with fail
 generalize w.alloc (.cells #[.slice none 0 0, .slice none 0 0] 27) = w0 at V3 pA tX lQ ⊢
 refine (m6 w0 B g a len cap V3.out 3 16 (by omega) (by omega) (by omega) 3 16 rfl rfl).mono ?_
 rintro e w1 ⟨q, c, l, rfl, S9⟩
 have HL1 := aPu S9
 have dZ := S9.grown.size
 have tH := S9.num
 have c0 : w1.cell? ⟨q, 0, none⟩ = some (.slice (aI l 0).va 4 (aI l 0).vc) := (S9.cell 0 (by omega)).1
 have c1 : w1.cell? ⟨q, 1, none⟩ = some (.slice (aI l 0).oa (aI l 0).no (aI l 0).oc) := (S9.cell 0 (by omega)).2
 have HX := aPu (tY.weak (S9.row.crt 0 (by rw [S9.num]; omega)))
 have gK := aPu ((S9.grown.block w.heap.size lQ (by intro e; injection e with e; omega)).trans pA.out)
 have sM := aPu ((i6 tX.out).trans S9.grown)
 clear S9 V3 pA
 generalize aI l 0 = x at c0 c1 HX
 go_upto_region 2 with fail
 have dL : Below w1.heap.size w1 (w1.alloc (.cells #[.slice x.va 4 x.vc, .slice x.oa x.no x.oc] 27)) := bl
 have sL : Hid (O4 w (w1.alloc (.cells #[.slice x.va 4 x.vc, .slice x.oa x.no x.oc] 27)) B g a len cap w1.heap.size x) := ⟨bE (Below.refl _ _), (dL.block _ (by omega)).trans gK.out, ((HX.out.kept fun j _ h2 => dL.block j h2).more (by omega) dL.size), sM.out.trans (grown_of dL), HL1.out.rd.grown (J5 dL) (fun k hk => by cases hk), tJ, by omega⟩
 clear c0 c1 HX gK sM HL1 tH
 generalize w1.alloc (.cells #[.slice x.va 4 x.vc, .slice x.oa x.no x.oc] 27) = w2 at sL ⊢
 clear dL
 generalize w1.heap.size = cb at sL dZ ⊢
 have jE := sL.out.crt.len
 obtain ⟨q0, q1⟩ := pair_cells sL.out.box
 clear dZ tX lQ
 by_cases uA : x.no = 0
 ·have pK : ((x.no : Int) == 0) = true := by rw [uA]; rfl
  clear uA
  go_wp2_with fail
  refine (m6 w2 B g a len cap sL.out.rd 1 10 (by omega) (by omega) (by omega) 1 10 rfl rfl).mono ?_
  rintro e w3 ⟨q, c, l, rfl, tH⟩; have hU := tH.grown.size; have hwz := sL.out.grown.size; have hn3 := tH.num; have c0 : w3.cell? ⟨q, 0, none⟩ = some (.slice (aI l 0).va 4 (aI l 0).vc) := (tH.cell 0 (by omega)).1
  have c1 : w3.cell? ⟨q, 1, none⟩ = some (.slice (aI l 0).oa (aI l 0).no (aI l 0).oc) := (tH.cell 0 (by omega)).2
  have HY := aPu ((tY.weak (tH.row.crt 0 (by omega))).more (lo' := w.heap.size + 1) (hi' := w3.heap.size) (by have := (aPv sL.out.res).1; omega) aPw)
  have tV := aPu (sL.out.step tH.grown tH.rd); clear tH hn3 sL q0 q1; generalize aI l 0 = y at c0 c1 HY; obtain ⟨q0, q1⟩ := pair_cells tV.out.box; obtain ⟨g0, g1⟩ := aC tV.out.box; have HIy := aPu (tV.out.turn y HY.out)
  go_upto_region 4 with fail
  clear q0 q1 g0 g1 c0 c1 tV HY; generalize (w3.setCell ⟨cb, 0, none⟩ (.slice y.va 4 y.vc)).setCell ⟨cb, 1, none⟩ (.slice y.oa y.no y.oc) = wy at HIy ⊢; clear hU hwz
  go_wp2_with fail
  refine (kY wy B g a len cap HIy.out.rd 40 (by omega) (by omega)).mono ?_
  rintro e w4 ⟨s, hs, rfl, wQ, S4⟩; have fK := aPu (HIy.out.step wQ S4); clear wQ S4 HIy hs; have hxm := fK.out.crt.len
  by_cases M8 : s = 38
  ·subst M8
   by_cases uA : 0 < y.no
   ·have hxi : (0 : Int) < (y.no : Int) := by omega
    obtain ⟨oa, hoe⟩ : ∃ oa, y.oa = oa := ⟨_, rfl⟩; have sI := aPu hoe; clear hoe; obtain ⟨q0, q1⟩ := pair_cells fK.out.box; have hoc := fK.out.crt.caps; rw [sI.out] at q1
    go_upto_region 7 with fail
    have hS : w4.drew.cell? ⟨cb, 0, none⟩ = some (.slice y.va 4 y.vc) ∧ w4.drew.cell? ⟨cb, 1, none⟩ = some (.slice oa y.no y.oc) := ⟨q0, q1⟩
    go_wp2_with fail
    refine wp_region_held_drew (S := fun w' => w'.cell? ⟨cb, 0, none⟩ = some (.slice y.va 4 y.vc) ∧ w'.cell? ⟨cb, 1, none⟩ = some (.slice oa y.no y.oc)) (by kernel_rfl) hS (fun aP => ?_)
    refine tj 0 ?_
    refine tj 1 ?_
    refine tj 2 ?_
    refine tj 3 ?_
    refine tj 4 ?_
    refine tj 5 ?_
    refine tj 7 ?_
    refine rk 6 rfl (fun K hK => ?_)
    go_simp
    go_at_call 76
    refine (below w4.drew B g a len cap (fK.out.rd.kept (w' := w4.drew) fun _ _ => rfl) y.no uA (by omega)).mono ?_
    rintro e z1 ⟨j, hj, rfl, bY, cV⟩; have iV : w4.grownBy z1 (some g) := ⟨bY.os, bY.tape, bY.output, bY.size, bY.block⟩; have dU := aPu (fK.out.step iV cV); have dM : z1.cell? ⟨cb, 0, none⟩ = some (.slice y.va 4 y.vc) ∧ z1.cell? ⟨cb, 1, none⟩ = some (.slice oa y.no y.oc) := ⟨(pair_cells dU.out.box).1, by rw [← sI.out]; exact (pair_cells dU.out.box).2⟩
    clear bY cV iV; refine hK.out _ _ dM (fun bG => ?_)
    clear hK K
    (try simp only [Act.put, u1, u2, u3])
    refine rk 8 rfl (fun K hK => ?_)
    go_simp
    go_at_call 49
    refine (zV z1 B g a len cap dU.out.rd 1 9 (by omega) (by omega) (by omega)).mono ?_
    rintro e z2 ⟨t, rfl, eC, dN⟩; have jU := aPu (dU.out.step eC dN); have eK : z2.cell? ⟨cb, 0, none⟩ = some (.slice y.va 4 y.vc) ∧ z2.cell? ⟨cb, 1, none⟩ = some (.slice oa y.no y.oc) := ⟨(pair_cells jU.out.box).1, by rw [← sI.out]; exact (pair_cells jU.out.box).2⟩
    clear eC dN; refine hK.out _ _ eK (fun fI => ?_)
    clear hK K
    (try simp only [Act.put, u1, u2, u3])
    have hji : (j : Int) < (y.no : Int) := by omega
    have hj0 : decide ((j : Int) < 0) = false := decide_eq_false (by omega)
    have p6 : ¬ ((j : Int) < 0) := by omega
    obtain ⟨ob, off, u, vI, ho1, ho2, ⟨ocs, tE⟩, d0, f0, tL⟩ := jU.out.crt.stamp hj t; have fE := aPu (jU.out.cell1 tE (by decide) (by omega) tL)
    have aC2 : oa = some ⟨ob, off, none⟩ := sI.out.symm.trans vI; subst aC2; clear tL tE hS dM vI q0 q1 aP bG; refine tj 9 ?_
    refine tj 10 ?_
    have fV : (z2.setCell ⟨ob, off + j * 8 + 2, none⟩ (.int .i64 t)).cell? ⟨cb, 0, none⟩ = some (.slice y.va 4 y.vc) ∧ (z2.setCell ⟨ob, off + j * 8 + 2, none⟩ (.int .i64 t)).cell? ⟨cb, 1, none⟩ = some (.slice (some ⟨ob, off, none⟩) y.no y.oc) := ⟨(pair_cells fE.out.box).1, by rw [← sI.out]; exact (pair_cells fE.out.box).2⟩
    refine rk 11 rfl (fun K hK => ?_)
    go_simp
    refine hK.out _ _ fV (fun kW => ?_)
    clear hK K
    (try simp only [Act.put, u1, u2, u3])
    refine wpAnyH_done (by kernel_rfl) ?_ _
    clear eK fV fI d0 f0 hji hj0 p6 sI dU jU; generalize z2.setCell ⟨ob, off + j * 8 + 2, none⟩ (.int .i64 t) = z3 at fE ⊢; obtain ⟨q0, q1⟩ := pair_cells fE.out.box; obtain ⟨r0, r1⟩ := pair_cells fE.out.res; obtain ⟨f0, f1⟩ := aC fE.out.res; obtain ⟨bM, kO⟩ := fE.out.out; go_wp2
    generalize (z3.setCell ⟨w.heap.size, 0, none⟩ (.slice y.va 4 y.vc)).setCell ⟨w.heap.size, 1, none⟩ (.slice y.oa y.no y.oc) = wf at bM kO ⊢; obtain ⟨p0, p1⟩ := pair_cells bM.out; exact bodyPost_ret (v := .agg #[.slice y.va 4 y.vc, .slice y.oa y.no y.oc]) (by simp [results, Tryz.results39, go_sem, p0, p1]) rfl kO.out
   ·have hxi : ¬ ((0 : Int) < (y.no : Int)) := by omega
    clear uA; obtain ⟨q0, q1⟩ := pair_cells fK.out.box; obtain ⟨r0, r1⟩ := pair_cells fK.out.res; obtain ⟨f0, f1⟩ := aC fK.out.res; obtain ⟨bM, kO⟩ := fK.out.out; go_wp2
    generalize (w4.setCell ⟨w.heap.size, 0, none⟩ (.slice y.va 4 y.vc)).setCell ⟨w.heap.size, 1, none⟩ (.slice y.oa y.no y.oc) = wf at bM kO ⊢; obtain ⟨p0, p1⟩ := pair_cells bM.out; exact bodyPost_ret (v := .agg #[.slice y.va 4 y.vc, .slice y.oa y.no y.oc]) (by simp [results, Tryz.results39, go_sem, p0, p1]) rfl kO.out
  have e38 : ((s : Int) == 38) = false := by rw [beq_eq_false_iff_ne]; omega
  by_cases h39 : s = 39
  ·subst h39
   clear e38 M8; obtain ⟨va, hve⟩ : ∃ va, y.va = va := ⟨_, rfl⟩; have vR := aPu hve; clear hve; obtain ⟨q0, q1⟩ := pair_cells fK.out.box; rw [vR.out] at q0
   go_upto_region 9 with fail
   have hS : w4.drew.cell? ⟨cb, 0, none⟩ = some (.slice va 4 y.vc) ∧ w4.drew.cell? ⟨cb, 1, none⟩ = some (.slice y.oa y.no y.oc) := ⟨q0, q1⟩
   go_wp2_with fail
   refine wp_region_held_drew (S := fun w' => w'.cell? ⟨cb, 0, none⟩ = some (.slice va 4 y.vc) ∧ w'.cell? ⟨cb, 1, none⟩ = some (.slice y.oa y.no y.oc)) (by kernel_rfl) hS (fun aP => ?_)
   refine tj 0 ?_
   refine tj 1 ?_
   refine tj 2 ?_
   refine rk 3 rfl (fun K hK => ?_)
   go_simp
   go_at_call 49
   refine (zV w4.drew B g a len cap (fK.out.rd.kept (w' := w4.drew) fun _ _ => rfl) 0 5 (by omega) (by omega) (by omega)).mono ?_
   rintro e z2 ⟨t, rfl, bY, cV⟩; have iV : w4.grownBy z2 (some g) := ⟨bY.os, bY.tape, bY.output, bY.size, bY.block⟩; have jU := aPu (fK.out.step iV cV); have eK : z2.cell? ⟨cb, 0, none⟩ = some (.slice va 4 y.vc) ∧ z2.cell? ⟨cb, 1, none⟩ = some (.slice y.oa y.no y.oc) := ⟨by rw [← vR.out]; exact (pair_cells jU.out.box).1, (pair_cells jU.out.box).2⟩
   clear bY cV iV; refine hK.out _ _ eK (fun bG => ?_)
   clear hK K
   (try simp only [Act.put, u1, u2, u3])
   obtain ⟨vb, u, A2, ho1, ho2, ⟨ocs, tE⟩, d0, f0, tL⟩ := jU.out.crt.vec t; have fE := aPu (jU.out.cell1 tE (by decide) (by omega) tL)
   have aCV : va = some ⟨vb, 0, none⟩ := vR.out.symm.trans A2; subst aCV; clear tL tE hS A2 q0 q1 aP; refine tj 4 ?_
   have fV : (z2.setCell ⟨vb, 0, none⟩ (.int .i64 t)).cell? ⟨cb, 0, none⟩ = some (.slice (some ⟨vb, 0, none⟩) 4 y.vc) ∧ (z2.setCell ⟨vb, 0, none⟩ (.int .i64 t)).cell? ⟨cb, 1, none⟩ = some (.slice y.oa y.no y.oc) := ⟨by rw [← vR.out]; exact (pair_cells fE.out.box).1, (pair_cells fE.out.box).2⟩
   refine rk 5 rfl (fun K hK => ?_)
   go_simp
   refine hK.out _ _ fV (fun kW => ?_)
   clear hK K
   (try simp only [Act.put, u1, u2, u3])
   refine wpAnyH_done (by kernel_rfl) ?_ _
   clear eK fV bG d0 f0 vR jU; generalize z2.setCell ⟨vb, 0, none⟩ (.int .i64 t) = z3 at fE ⊢; obtain ⟨q0, q1⟩ := pair_cells fE.out.box; obtain ⟨r0, r1⟩ := pair_cells fE.out.res; obtain ⟨f0, f1⟩ := aC fE.out.res; obtain ⟨bM, kO⟩ := fE.out.out; go_wp2
   generalize (z3.setCell ⟨w.heap.size, 0, none⟩ (.slice y.va 4 y.vc)).setCell ⟨w.heap.size, 1, none⟩ (.slice y.oa y.no y.oc) = wf at bM kO ⊢; obtain ⟨p0, p1⟩ := pair_cells bM.out; exact bodyPost_ret (v := .agg #[.slice y.va 4 y.vc, .slice y.oa y.no y.oc]) (by simp [results, Tryz.results39, go_sem, p0, p1]) rfl kO.out
  have e39 : ((s : Int) == 39) = false := by rw [beq_eq_false_iff_ne]; omega
  clear M8 h39; obtain ⟨q0, q1⟩ := pair_cells fK.out.box; obtain ⟨r0, r1⟩ := pair_cells fK.out.res; obtain ⟨f0, f1⟩ := aC fK.out.res; obtain ⟨bM, kO⟩ := fK.out.out; go_wp2
  generalize (w4.setCell ⟨w.heap.size, 0, none⟩ (.slice y.va 4 y.vc)).setCell ⟨w.heap.size, 1, none⟩ (.slice y.oa y.no y.oc) = wf at bM kO ⊢; obtain ⟨p0, p1⟩ := pair_cells bM.out; exact bodyPost_ret (v := .agg #[.slice y.va 4 y.vc, .slice y.oa y.no y.oc]) (by simp [results, Tryz.results39, go_sem, p0, p1]) rfl kO.out
 have pK : ((x.no : Int) == 0) = false := by rw [beq_eq_false_iff_ne]; omega
 go_wp2_with fail
 refine (aAQ w2 B g a len cap sL.out.rd 3 (by omega) (by omega)).mono ?_
 rintro e wo ⟨o1, rfl, hgo, hro⟩
 have HIo := aPu (sL.out.step hgo hro)
 clear hgo hro sL q0 q1
 obtain ⟨q0, q1⟩ := pair_cells HIo.out.box
 cases o1
 rotate_left
 ·skip
  go_wp2_with fail
  refine (m6 wo B g a len cap HIo.out.rd 1 10 (by omega) (by omega) (by omega) 1 10 rfl rfl).mono ?_
  rintro e w3 ⟨q, c, l, rfl, tH⟩; have hU := tH.grown.size; have hwz := HIo.out.grown.size; have hn3 := tH.num; have c0 : w3.cell? ⟨q, 0, none⟩ = some (.slice (aI l 0).va 4 (aI l 0).vc) := (tH.cell 0 (by omega)).1
  have c1 : w3.cell? ⟨q, 1, none⟩ = some (.slice (aI l 0).oa (aI l 0).no (aI l 0).oc) := (tH.cell 0 (by omega)).2
  have HY := aPu ((tY.weak (tH.row.crt 0 (by omega))).more (lo' := w.heap.size + 1) (hi' := w3.heap.size) (by have := (aPv HIo.out.res).1; omega) aPw)
  have tV := aPu (HIo.out.step tH.grown tH.rd); clear tH hn3 HIo q0 q1; generalize aI l 0 = y at c0 c1 HY; obtain ⟨q0, q1⟩ := pair_cells tV.out.box; obtain ⟨g0, g1⟩ := aC tV.out.box; have HIy := aPu (tV.out.turn y HY.out)
  go_upto_region 4 with fail
  clear q0 q1 g0 g1 c0 c1 tV HY; generalize (w3.setCell ⟨cb, 0, none⟩ (.slice y.va 4 y.vc)).setCell ⟨cb, 1, none⟩ (.slice y.oa y.no y.oc) = wy at HIy ⊢; clear hU hwz
  go_wp2_with fail
  refine (kY wy B g a len cap HIy.out.rd 40 (by omega) (by omega)).mono ?_
  rintro e w4 ⟨s, hs, rfl, wQ, S4⟩; have fK := aPu (HIy.out.step wQ S4); clear wQ S4 HIy hs; have hxm := fK.out.crt.len
  by_cases M8 : s = 38
  ·subst M8
   by_cases uA : 0 < y.no
   ·have hxi : (0 : Int) < (y.no : Int) := by omega
    obtain ⟨oa, hoe⟩ : ∃ oa, y.oa = oa := ⟨_, rfl⟩; have sI := aPu hoe; clear hoe; obtain ⟨q0, q1⟩ := pair_cells fK.out.box; have hoc := fK.out.crt.caps; rw [sI.out] at q1
    go_upto_region 7 with fail
    have hS : w4.drew.cell? ⟨cb, 0, none⟩ = some (.slice y.va 4 y.vc) ∧ w4.drew.cell? ⟨cb, 1, none⟩ = some (.slice oa y.no y.oc) := ⟨q0, q1⟩
    go_wp2_with fail
    refine wp_region_held_drew (S := fun w' => w'.cell? ⟨cb, 0, none⟩ = some (.slice y.va 4 y.vc) ∧ w'.cell? ⟨cb, 1, none⟩ = some (.slice oa y.no y.oc)) (by kernel_rfl) hS (fun aP => ?_)
    refine tj 0 ?_
    refine tj 1 ?_
    refine tj 2 ?_
    refine tj 3 ?_
    refine tj 4 ?_
    refine tj 5 ?_
    refine tj 7 ?_
    refine rk 6 rfl (fun K hK => ?_)
    go_simp
    go_at_call 76
    refine (below w4.drew B g a len cap (fK.out.rd.kept (w' := w4.drew) fun _ _ => rfl) y.no uA (by omega)).mono ?_
    rintro e z1 ⟨j, hj, rfl, bY, cV⟩; have iV : w4.grownBy z1 (some g) := ⟨bY.os, bY.tape, bY.output, bY.size, bY.block⟩; have dU := aPu (fK.out.step iV cV); have dM : z1.cell? ⟨cb, 0, none⟩ = some (.slice y.va 4 y.vc) ∧ z1.cell? ⟨cb, 1, none⟩ = some (.slice oa y.no y.oc) := ⟨(pair_cells dU.out.box).1, by rw [← sI.out]; exact (pair_cells dU.out.box).2⟩
    clear bY cV iV; refine hK.out _ _ dM (fun bG => ?_)
    clear hK K
    (try simp only [Act.put, u1, u2, u3])
    refine rk 8 rfl (fun K hK => ?_)
    go_simp
    go_at_call 49
    refine (zV z1 B g a len cap dU.out.rd 1 9 (by omega) (by omega) (by omega)).mono ?_
    rintro e z2 ⟨t, rfl, eC, dN⟩; have jU := aPu (dU.out.step eC dN); have eK : z2.cell? ⟨cb, 0, none⟩ = some (.slice y.va 4 y.vc) ∧ z2.cell? ⟨cb, 1, none⟩ = some (.slice oa y.no y.oc) := ⟨(pair_cells jU.out.box).1, by rw [← sI.out]; exact (pair_cells jU.out.box).2⟩
    clear eC dN; refine hK.out _ _ eK (fun fI => ?_)
    clear hK K
    (try simp only [Act.put, u1, u2, u3])
    have hji : (j : Int) < (y.no : Int) := by omega
    have hj0 : decide ((j : Int) < 0) = false := decide_eq_false (by omega)
    have p6 : ¬ ((j : Int) < 0) := by omega
    obtain ⟨ob, off, u, vI, ho1, ho2, ⟨ocs, tE⟩, d0, f0, tL⟩ := jU.out.crt.stamp hj t; have fE := aPu (jU.out.cell1 tE (by decide) (by omega) tL)
    have aC2 : oa = some ⟨ob, off, none⟩ := sI.out.symm.trans vI; subst aC2; clear tL tE hS dM vI q0 q1 aP bG; refine tj 9 ?_
    refine tj 10 ?_
    have fV : (z2.setCell ⟨ob, off + j * 8 + 2, none⟩ (.int .i64 t)).cell? ⟨cb, 0, none⟩ = some (.slice y.va 4 y.vc) ∧ (z2.setCell ⟨ob, off + j * 8 + 2, none⟩ (.int .i64 t)).cell? ⟨cb, 1, none⟩ = some (.slice (some ⟨ob, off, none⟩) y.no y.oc) := ⟨(pair_cells fE.out.box).1, by rw [← sI.out]; exact (pair_cells fE.out.box).2⟩
    refine rk 11 rfl (fun K hK => ?_)
    go_simp
    refine hK.out _ _ fV (fun kW => ?_)
    clear hK K
    (try simp only [Act.put, u1, u2, u3])
    refine wpAnyH_done (by kernel_rfl) ?_ _
    clear eK fV fI d0 f0 hji hj0 p6 sI dU jU; generalize z2.setCell ⟨ob, off + j * 8 + 2, none⟩ (.int .i64 t) = z3 at fE ⊢; obtain ⟨q0, q1⟩ := pair_cells fE.out.box; obtain ⟨r0, r1⟩ := pair_cells fE.out.res; obtain ⟨f0, f1⟩ := aC fE.out.res; obtain ⟨bM, kO⟩ := fE.out.out; go_wp2
    generalize (z3.setCell ⟨w.heap.size, 0, none⟩ (.slice y.va 4 y.vc)).setCell ⟨w.heap.size, 1, none⟩ (.slice y.oa y.no y.oc) = wf at bM kO ⊢; obtain ⟨p0, p1⟩ := pair_cells bM.out; exact bodyPost_ret (v := .agg #[.slice y.va 4 y.vc, .slice y.oa y.no y.oc]) (by simp [results, Tryz.results39, go_sem, p0, p1]) rfl kO.out
   ·have hxi : ¬ ((0 : Int) < (y.no : Int)) := by omega
    clear uA; obtain ⟨q0, q1⟩ := pair_cells fK.out.box; obtain ⟨r0, r1⟩ := pair_cells fK.out.res; obtain ⟨f0, f1⟩ := aC fK.out.res; obtain ⟨bM, kO⟩ := fK.out.out; go_wp2
    generalize (w4.setCell ⟨w.heap.size, 0, none⟩ (.slice y.va 4 y.vc)).setCell ⟨w.heap.size, 1, none⟩ (.slice y.oa y.no y.oc) = wf at bM kO ⊢; obtain ⟨p0, p1⟩ := pair_cells bM.out; exact bodyPost_ret (v := .agg #[.slice y.va 4 y.vc, .slice y.oa y.no y.oc]) (by simp [results, Tryz.results39, go_sem, p0, p1]) rfl kO.out
  have e38 : ((s : Int) == 38) = false := by rw [beq_eq_false_iff_ne]; omega
  by_cases h39 : s = 39
  ·subst h39
   clear e38 M8; obtain ⟨va, hve⟩ : ∃ va, y.va = va := ⟨_, rfl⟩; have vR := aPu hve; clear hve; obtain ⟨q0, q1⟩ := pair_cells fK.out.box; rw [vR.out] at q0
   go_upto_region 9 with fail
   have hS : w4.drew.cell? ⟨cb, 0, none⟩ = some (.slice va 4 y.vc) ∧ w4.drew.cell? ⟨cb, 1, none⟩ = some (.slice y.oa y.no y.oc) := ⟨q0, q1⟩
   go_wp2_with fail
   refine wp_region_held_drew (S := fun w' => w'.cell? ⟨cb, 0, none⟩ = some (.slice va 4 y.vc) ∧ w'.cell? ⟨cb, 1, none⟩ = some (.slice y.oa y.no y.oc)) (by kernel_rfl) hS (fun aP => ?_)
   refine tj 0 ?_
   refine tj 1 ?_
   refine tj 2 ?_
   refine rk 3 rfl (fun K hK => ?_)
   go_simp
   go_at_call 49
   refine (zV w4.drew B g a len cap (fK.out.rd.kept (w' := w4.drew) fun _ _ => rfl) 0 5 (by omega) (by omega) (by omega)).mono ?_
   rintro e z2 ⟨t, rfl, bY, cV⟩; have iV : w4.grownBy z2 (some g) := ⟨bY.os, bY.tape, bY.output, bY.size, bY.block⟩; have jU := aPu (fK.out.step iV cV); have eK : z2.cell? ⟨cb, 0, none⟩ = some (.slice va 4 y.vc) ∧ z2.cell? ⟨cb, 1, none⟩ = some (.slice y.oa y.no y.oc) := ⟨by rw [← vR.out]; exact (pair_cells jU.out.box).1, (pair_cells jU.out.box).2⟩
   clear bY cV iV; refine hK.out _ _ eK (fun bG => ?_)
   clear hK K
   (try simp only [Act.put, u1, u2, u3])
   obtain ⟨vb, u, A2, ho1, ho2, ⟨ocs, tE⟩, d0, f0, tL⟩ := jU.out.crt.vec t; have fE := aPu (jU.out.cell1 tE (by decide) (by omega) tL)
   have aCV : va = some ⟨vb, 0, none⟩ := vR.out.symm.trans A2; subst aCV; clear tL tE hS A2 q0 q1 aP; refine tj 4 ?_
   have fV : (z2.setCell ⟨vb, 0, none⟩ (.int .i64 t)).cell? ⟨cb, 0, none⟩ = some (.slice (some ⟨vb, 0, none⟩) 4 y.vc) ∧ (z2.setCell ⟨vb, 0, none⟩ (.int .i64 t)).cell? ⟨cb, 1, none⟩ = some (.slice y.oa y.no y.oc) := ⟨by rw [← vR.out]; exact (pair_cells fE.out.box).1, (pair_cells fE.out.box).2⟩
   refine rk 5 rfl (fun K hK => ?_)
   go_simp
   refine hK.out _ _ fV (fun kW => ?_)
   clear hK K
   (try simp only [Act.put, u1, u2, u3])
   refine wpAnyH_done (by kernel_rfl) ?_ _
   clear eK fV bG d0 f0 vR jU; generalize z2.setCell ⟨vb, 0, none⟩ (.int .i64 t) = z3 at fE ⊢; obtain ⟨q0, q1⟩ := pair_cells fE.out.box; obtain ⟨r0, r1⟩ := pair_cells fE.out.res; obtain ⟨f0, f1⟩ := aC fE.out.res; obtain ⟨bM, kO⟩ := fE.out.out; go_wp2
   generalize (z3.setCell ⟨w.heap.size, 0, none⟩ (.slice y.va 4 y.vc)).setCell ⟨w.heap.size, 1, none⟩ (.slice y.oa y.no y.oc) = wf at bM kO ⊢; obtain ⟨p0, p1⟩ := pair_cells bM.out; exact bodyPost_ret (v := .agg #[.slice y.va 4 y.vc, .slice y.oa y.no y.oc]) (by simp [results, Tryz.results39, go_sem, p0, p1]) rfl kO.out
  have e39 : ((s : Int) == 39) = false := by rw [beq_eq_false_iff_ne]; omega
  clear M8 h39; obtain ⟨q0, q1⟩ := pair_cells fK.out.box; obtain ⟨r0, r1⟩ := pair_cells fK.out.res; obtain ⟨f0, f1⟩ := aC fK.out.res; obtain ⟨bM, kO⟩ := fK.out.out; go_wp2
  generalize (w4.setCell ⟨w.heap.size, 0, none⟩ (.slice y.va 4 y.vc)).setCell ⟨w.heap.size, 1, none⟩ (.slice y.oa y.no y.oc) = wf at bM kO ⊢; obtain ⟨p0, p1⟩ := pair_cells bM.out; exact bodyPost_ret (v := .agg #[.slice y.va 4 y.vc, .slice y.oa y.no y.oc]) (by simp [results, Tryz.results39, go_sem, p0, p1]) rfl kO.out
 go_upto_region 4 with fail
 clear q0 q1 pK
 go_wp2_with fail
 refine (kY wo B g a len cap HIo.out.rd 40 (by omega) (by omega)).mono ?_
 rintro e w4 ⟨s, hs, rfl, wQ, S4⟩
 have fK := aPu (HIo.out.step wQ S4)
 clear wQ S4 HIo hs
 have hxm := fK.out.crt.len
 by_cases M8 : s = 38
 ·subst M8
  by_cases uA : 0 < x.no
  ·have hxi : (0 : Int) < (x.no : Int) := by omega
   obtain ⟨oa, hoe⟩ : ∃ oa, x.oa = oa := ⟨_, rfl⟩; have sI := aPu hoe; clear hoe; obtain ⟨q0, q1⟩ := pair_cells fK.out.box; have hoc := fK.out.crt.caps; rw [sI.out] at q1
   go_upto_region 7 with fail
   have hS : w4.drew.cell? ⟨cb, 0, none⟩ = some (.slice x.va 4 x.vc) ∧ w4.drew.cell? ⟨cb, 1, none⟩ = some (.slice oa x.no x.oc) := ⟨q0, q1⟩
   go_wp2_with fail
   refine wp_region_held_drew (S := fun w' => w'.cell? ⟨cb, 0, none⟩ = some (.slice x.va 4 x.vc) ∧ w'.cell? ⟨cb, 1, none⟩ = some (.slice oa x.no x.oc)) (by kernel_rfl) hS (fun aP => ?_)
   refine tj 0 ?_
   refine tj 1 ?_
   refine tj 2 ?_
   refine tj 3 ?_
   refine tj 4 ?_
   refine tj 5 ?_
   refine tj 7 ?_
   refine rk 6 rfl (fun K hK => ?_)
   go_simp
   go_at_call 76
   refine (below w4.drew B g a len cap (fK.out.rd.kept (w' := w4.drew) fun _ _ => rfl) x.no uA (by omega)).mono ?_
   rintro e z1 ⟨j, hj, rfl, bY, cV⟩; have iV : w4.grownBy z1 (some g) := ⟨bY.os, bY.tape, bY.output, bY.size, bY.block⟩; have dU := aPu (fK.out.step iV cV); have dM : z1.cell? ⟨cb, 0, none⟩ = some (.slice x.va 4 x.vc) ∧ z1.cell? ⟨cb, 1, none⟩ = some (.slice oa x.no x.oc) := ⟨(pair_cells dU.out.box).1, by rw [← sI.out]; exact (pair_cells dU.out.box).2⟩
   clear bY cV iV; refine hK.out _ _ dM (fun bG => ?_)
   clear hK K
   (try simp only [Act.put, u1, u2, u3])
   refine rk 8 rfl (fun K hK => ?_)
   go_simp
   go_at_call 49
   refine (zV z1 B g a len cap dU.out.rd 1 9 (by omega) (by omega) (by omega)).mono ?_
   rintro e z2 ⟨t, rfl, eC, dN⟩; have jU := aPu (dU.out.step eC dN); have eK : z2.cell? ⟨cb, 0, none⟩ = some (.slice x.va 4 x.vc) ∧ z2.cell? ⟨cb, 1, none⟩ = some (.slice oa x.no x.oc) := ⟨(pair_cells jU.out.box).1, by rw [← sI.out]; exact (pair_cells jU.out.box).2⟩
   clear eC dN; refine hK.out _ _ eK (fun fI => ?_)
   clear hK K
   (try simp only [Act.put, u1, u2, u3])
   have hji : (j : Int) < (x.no : Int) := by omega
   have hj0 : decide ((j : Int) < 0) = false := decide_eq_false (by omega)
   have p6 : ¬ ((j : Int) < 0) := by omega
   obtain ⟨ob, off, u, vI, ho1, ho2, ⟨ocs, tE⟩, d0, f0, tL⟩ := jU.out.crt.stamp hj t; have fE := aPu (jU.out.cell1 tE (by decide) (by omega) tL)
   have aC2 : oa = some ⟨ob, off, none⟩ := sI.out.symm.trans vI; subst aC2; clear tL tE hS dM vI q0 q1 aP bG; refine tj 9 ?_
   refine tj 10 ?_
   have fV : (z2.setCell ⟨ob, off + j * 8 + 2, none⟩ (.int .i64 t)).cell? ⟨cb, 0, none⟩ = some (.slice x.va 4 x.vc) ∧ (z2.setCell ⟨ob, off + j * 8 + 2, none⟩ (.int .i64 t)).cell? ⟨cb, 1, none⟩ = some (.slice (some ⟨ob, off, none⟩) x.no x.oc) := ⟨(pair_cells fE.out.box).1, by rw [← sI.out]; exact (pair_cells fE.out.box).2⟩
   refine rk 11 rfl (fun K hK => ?_)
   go_simp
   refine hK.out _ _ fV (fun kW => ?_)
   clear hK K
   (try simp only [Act.put, u1, u2, u3])
   refine wpAnyH_done (by kernel_rfl) ?_ _
   clear eK fV fI d0 f0 hji hj0 p6 sI dU jU; generalize z2.setCell ⟨ob, off + j * 8 + 2, none⟩ (.int .i64 t) = z3 at fE ⊢; obtain ⟨q0, q1⟩ := pair_cells fE.out.box; obtain ⟨r0, r1⟩ := pair_cells fE.out.res; obtain ⟨f0, f1⟩ := aC fE.out.res; obtain ⟨bM, kO⟩ := fE.out.out; go_wp2
   generalize (z3.setCell ⟨w.heap.size, 0, none⟩ (.slice x.va 4 x.vc)).setCell ⟨w.heap.size, 1, none⟩ (.slice x.oa x.no x.oc) = wf at bM kO ⊢; obtain ⟨p0, p1⟩ := pair_cells bM.out; exact bodyPost_ret (v := .agg #[.slice x.va 4 x.vc, .slice x.oa x.no x.oc]) (by simp [results, Tryz.results39, go_sem, p0, p1]) rfl kO.out
  ·omega
 have e38 : ((s : Int) == 38) = false := by rw [beq_eq_false_iff_ne]; omega
 by_cases h39 : s = 39
 ·subst h39
  clear e38 M8; obtain ⟨va, hve⟩ : ∃ va, x.va = va := ⟨_, rfl⟩; have vR := aPu hve; clear hve; obtain ⟨q0, q1⟩ := pair_cells fK.out.box; rw [vR.out] at q0
  go_upto_region 9 with fail
  have hS : w4.drew.cell? ⟨cb, 0, none⟩ = some (.slice va 4 x.vc) ∧ w4.drew.cell? ⟨cb, 1, none⟩ = some (.slice x.oa x.no x.oc) := ⟨q0, q1⟩
  go_wp2_with fail
  refine wp_region_held_drew (S := fun w' => w'.cell? ⟨cb, 0, none⟩ = some (.slice va 4 x.vc) ∧ w'.cell? ⟨cb, 1, none⟩ = some (.slice x.oa x.no x.oc)) (by kernel_rfl) hS (fun aP => ?_)
  refine tj 0 ?_
  refine tj 1 ?_
  refine tj 2 ?_
  refine rk 3 rfl (fun K hK => ?_)
  go_simp
  go_at_call 49
  refine (zV w4.drew B g a len cap (fK.out.rd.kept (w' := w4.drew) fun _ _ => rfl) 0 5 (by omega) (by omega) (by omega)).mono ?_
  rintro e z2 ⟨t, rfl, bY, cV⟩; have iV : w4.grownBy z2 (some g) := ⟨bY.os, bY.tape, bY.output, bY.size, bY.block⟩; have jU := aPu (fK.out.step iV cV); have eK : z2.cell? ⟨cb, 0, none⟩ = some (.slice va 4 x.vc) ∧ z2.cell? ⟨cb, 1, none⟩ = some (.slice x.oa x.no x.oc) := ⟨by rw [← vR.out]; exact (pair_cells jU.out.box).1, (pair_cells jU.out.box).2⟩
  clear bY cV iV; refine hK.out _ _ eK (fun bG => ?_)
  clear hK K
  (try simp only [Act.put, u1, u2, u3])
  obtain ⟨vb, u, A2, ho1, ho2, ⟨ocs, tE⟩, d0, f0, tL⟩ := jU.out.crt.vec t; have fE := aPu (jU.out.cell1 tE (by decide) (by omega) tL)
  have aCV : va = some ⟨vb, 0, none⟩ := vR.out.symm.trans A2; subst aCV; clear tL tE hS A2 q0 q1 aP; refine tj 4 ?_
  have fV : (z2.setCell ⟨vb, 0, none⟩ (.int .i64 t)).cell? ⟨cb, 0, none⟩ = some (.slice (some ⟨vb, 0, none⟩) 4 x.vc) ∧ (z2.setCell ⟨vb, 0, none⟩ (.int .i64 t)).cell? ⟨cb, 1, none⟩ = some (.slice x.oa x.no x.oc) := ⟨by rw [← vR.out]; exact (pair_cells fE.out.box).1, (pair_cells fE.out.box).2⟩
  refine rk 5 rfl (fun K hK => ?_)
  go_simp
  refine hK.out _ _ fV (fun kW => ?_)
  clear hK K
  (try simp only [Act.put, u1, u2, u3])
  refine wpAnyH_done (by kernel_rfl) ?_ _
  clear eK fV bG d0 f0 vR jU; generalize z2.setCell ⟨vb, 0, none⟩ (.int .i64 t) = z3 at fE ⊢; obtain ⟨q0, q1⟩ := pair_cells fE.out.box; obtain ⟨r0, r1⟩ := pair_cells fE.out.res; obtain ⟨f0, f1⟩ := aC fE.out.res; obtain ⟨bM, kO⟩ := fE.out.out; go_wp2
  generalize (z3.setCell ⟨w.heap.size, 0, none⟩ (.slice x.va 4 x.vc)).setCell ⟨w.heap.size, 1, none⟩ (.slice x.oa x.no x.oc) = wf at bM kO ⊢; obtain ⟨p0, p1⟩ := pair_cells bM.out; exact bodyPost_ret (v := .agg #[.slice x.va 4 x.vc, .slice x.oa x.no x.oc]) (by simp [results, Tryz.results39, go_sem, p0, p1]) rfl kO.out
 have e39 : ((s : Int) == 39) = false := by rw [beq_eq_false_iff_ne]; omega
 clear M8 h39
 obtain ⟨q0, q1⟩ := pair_cells fK.out.box
 obtain ⟨r0, r1⟩ := pair_cells fK.out.res
 obtain ⟨f0, f1⟩ := aC fK.out.res
 obtain ⟨bM, kO⟩ := fK.out.out
 go_wp2
 generalize (w4.setCell ⟨w.heap.size, 0, none⟩ (.slice x.va 4 x.vc)).setCell ⟨w.heap.size, 1, none⟩ (.slice x.oa x.no x.oc) = wf at bM kO ⊢
 obtain ⟨p0, p1⟩ := pair_cells bM.out
 exact bodyPost_ret (v := .agg #[.slice x.va 4 x.vc, .slice x.oa x.no x.oc]) (by simp [results, Tryz.results39, go_sem, p0, p1]) rfl kO.out
structure Di (w wr : World) (B g : Nat) (a : Option Addr) (len cap : Nat) (u v : Array Value) : Prop where
 ra : wr.heap[w.heap.size]? = some (.cells u 27 (0, 0))
 rb : wr.heap[w.heap.size + 1]? = some (.cells v 29 (0, 0))
 bel : Below w.heap.size w wr
 rd : Rd wr B g a len cap
 glt : w.heap.size + 1 < g
theorem Di.step {w wr w1 : World} {B g : Nat} {a : Option Addr} {len cap : Nat} {u v : Array Value} (h : Di w wr B g a len cap u v) (hg : wr.grownBy w1 (some g)) (hr : Rd w1 B g a len cap) : Di w w1 B g a len cap u v := by
 have tJ := h.glt
 have hs := h.bel.size
 have hk : ∀ j, j < wr.heap.size → j ≠ g → w1.heap[j]? = wr.heap[j]? := fun j h1 h2 => hg.block j h1 (by intro e; injection e with e; exact h2 e)
 exact ⟨(hk _ (aPv h.ra).1 (by omega)).trans h.ra, (hk _ (aPv h.rb).1 (by omega)).trans h.rb, h.bel.grown hg hs (fun k hk => by cases hk; omega), hr, tJ⟩
theorem Di.box {w wr : World} {B g : Nat} {a : Option Addr} {len cap : Nat} {u v : Array Value} (h : Di w wr B g a len cap u v) (ob : Obj) : Di w (wr.alloc ob) B g a len cap u v := by
 have dL : Below wr.heap.size wr (wr.alloc ob) := bl
 exact h.step (grown_of dL) (h.rd.grown (J5 dL) fun k hk => by cases hk)
theorem Di.mk0 (w : World) : (((w.alloc (.cells #[.slice none 0 0, .slice none 0 0] 27)).alloc (.cells #[.int .i64 0, .string ⟨#[]⟩, .int .i64 0, .int .i64 0, .int .i64 0] 29)).heap[w.heap.size]? = some (.cells #[.slice none 0 0, .slice none 0 0] 27 (0, 0))) ∧ (((w.alloc (.cells #[.slice none 0 0, .slice none 0 0] 27)).alloc (.cells #[.int .i64 0, .string ⟨#[]⟩, .int .i64 0, .int .i64 0, .int .i64 0] 29)).heap[w.heap.size + 1]? = some (.cells #[.int .i64 0, .string ⟨#[]⟩, .int .i64 0, .int .i64 0, .int .i64 0] 29 (0, 0))) ∧ Below w.heap.size w ((w.alloc (.cells #[.slice none 0 0, .slice none 0 0] 27)).alloc (.cells #[.int .i64 0, .string ⟨#[]⟩, .int .i64 0, .int .i64 0, .int .i64 0] 29)) ∧ ((w.alloc (.cells #[.slice none 0 0, .slice none 0 0] 27)).alloc (.cells #[.int .i64 0, .string ⟨#[]⟩, .int .i64 0, .int .i64 0, .int .i64 0] 29)).heap.size = w.heap.size + 2 := by
 have e1 : (w.alloc (.cells #[.slice none 0 0, .slice none 0 0] 27)).heap.size = w.heap.size + 1 := by simp
 refine ⟨(Below.heap_alloc _ _ _ (by omega)).trans (heap_alloc_new _ _), ?_, ((Below.refl _ w).alloc aPw _).alloc (by simp) _, by simp⟩
 rw [← e1]; exact heap_alloc_new _ _
theorem aKm {w : World} {b : Nat} {c0 c1 c2 c3 c4 v0 v1 v2 v3 v4 : Value} {T : TypeId} (h : w.heap[b]? = some (.cells #[c0, c1, c2, c3, c4] T (0, 0))) :
  (((((w.setCell ⟨b, 0, none⟩ v0).setCell ⟨b, 1, none⟩ v1).setCell ⟨b, 2, none⟩ v2).setCell ⟨b, 3, none⟩ v3).setCell ⟨b, 4, none⟩ v4).heap[b]? = some (.cells #[v0, v1, v2, v3, v4] T (0, 0)) :=
 heap_setCell_same _ _ _ _ _ _ (heap_setCell_same _ _ _ _ _ _ (heap_setCell_same _ _ _ _ _ _ (heap_setCell_same _ _ _ _ _ _ (heap_setCell_same _ _ _ _ _ _ h))))
theorem Y0 {w : World} {b k : Nat} {v0 v1 v2 v3 v4 : Value} (h : k ≠ b) : (((((w.setCell ⟨b, 0, none⟩ v0).setCell ⟨b, 1, none⟩ v1).setCell ⟨b, 2, none⟩ v2).setCell ⟨b, 3, none⟩ v3).setCell ⟨b, 4, none⟩ v4).heap[k]? = w.heap[k]? := by
 rw [heap_setCell_other _ _ _ _ h, heap_setCell_other _ _ _ _ h, heap_setCell_other _ _ _ _ h, heap_setCell_other _ _ _ _ h, heap_setCell_other _ _ _ _ h]
theorem aKl (w : World) (b : Nat) (v0 v1 v2 v3 v4 : Value) : (((((w.setCell ⟨b, 0, none⟩ v0).setCell ⟨b, 1, none⟩ v1).setCell ⟨b, 2, none⟩ v2).setCell ⟨b, 3, none⟩ v3).setCell ⟨b, 4, none⟩ v4).heap.size = w.heap.size := by simp [World.setCell]
theorem aKp {B : Nat} {w0 w : World} {b : Nat} {v0 v1 v2 v3 v4 : Value} (h : Below B w0 w) (hb : B ≤ b) : Below B w0 (((((w.setCell ⟨b, 0, none⟩ v0).setCell ⟨b, 1, none⟩ v1).setCell ⟨b, 2, none⟩ v2).setCell ⟨b, 3, none⟩ v3).setCell ⟨b, 4, none⟩ v4) :=
 ((((h.setCell (p := ⟨b, 0, none⟩) hb _).setCell (p := ⟨b, 1, none⟩) hb _).setCell (p := ⟨b, 2, none⟩) hb _).setCell (p := ⟨b, 3, none⟩) hb _).setCell (p := ⟨b, 4, none⟩) hb _
theorem aKo {w : World} {b : Nat} {cs : Array Value} {T : TypeId} (h : w.heap[b]? = some (.cells cs T (0, 0))) : w.frozen? ⟨b, 0, none⟩ = false ∧ w.frozen? ⟨b, 1, none⟩ = false ∧ w.frozen? ⟨b, 2, none⟩ = false ∧ w.frozen? ⟨b, 3, none⟩ = false ∧ w.frozen? ⟨b, 4, none⟩ = false :=
 ⟨aPy h, aPy h, aPy h, aPy h, aPy h⟩
theorem aDc {w : World} {b : Nat} {v0 v1 v2 v3 v4 : Value} {T : TypeId} {fr : Nat × Nat} (h : w.heap[b]? = some (.cells #[v0, v1, v2, v3, v4] T fr)) : w.cell? ⟨b, 0, none⟩ = some v0 ∧ w.cell? ⟨b, 1, none⟩ = some v1 ∧ w.cell? ⟨b, 2, none⟩ = some v2 ∧ w.cell? ⟨b, 3, none⟩ = some v3 ∧ w.cell? ⟨b, 4, none⟩ = some v4 :=
 ⟨aPx h, aPx h, aPx h, aPx h, aPx h⟩
theorem lD.otherM {w w' : World} {lo hi q : Nat} {x : cB} {cs : Array Value} {fr : Nat × Nat} (h : lD w lo hi x) (hq : w.heap[q]? = some (.cells cs 29 fr)) (hk : ∀ j, lo ≤ j → j < hi → j ≠ q → w'.heap[j]? = w.heap[j]?) : lD w' lo hi x := by
 obtain ⟨zs, m, e, a, b, c⟩ := h
 refine ⟨zs, m, e, ⟨a.1, fun hn => ?_⟩, ⟨b.1, fun hn => ?_⟩, c⟩
 ·obtain ⟨g, aV, e1, h1, h2, hg, hc⟩ := a.2 hn
  have bJ : g ≠ q := by
   intro e2
   rw [e2, hq] at hg; injection hg with hg; injection hg with _ hg; exact absurd hg (by decide)
  exact ⟨g, aV, e1, h1, h2, (hk g h1 h2 bJ).trans hg, hc⟩
 ·obtain ⟨g, off, aV, e1, h1, h2, hg, hs, hc⟩ := b.2 hn
  have bJ : g ≠ q := by
   intro e2
   rw [e2, hq] at hg; injection hg with hg; injection hg with _ hg; exact absurd hg (by decide)
  exact ⟨g, off, aV, e1, h1, h2, (hk g h1 h2 bJ).trans hg, hs, hc⟩
def aJh (w : World) (e : Ending) (w' : World) : Prop :=
 ∃ (x : cB) (dev kind : Int) (item : ByteArray) (qty dv sq : Int), item.size ≤ 8 ∧ e = .returned (.tuple #[.agg #[.slice x.va 4 x.vc, .slice x.oa x.no x.oc], .int .i64 dev, .agg #[.int .i64 kind, .string item, .int .i64 qty, .int .i64 dv, .int .i64 sq]]) ∧ lD w' w.heap.size w'.heap.size x ∧ Below w.heap.size w w'
theorem aKT (w : World) (B g : Nat) (a : Option Addr) (len cap : Nat) (h : Rd w B g a len cap) :
  Calls Tryz.prog 40 #[.pointer (some ⟨g, 0, none⟩)] w (B5 .i64 w B g a len cap) := by
 go_enter Tryz.func40, Tryz.ntmps40
 go_wp2_with fail
 refine (aAQ w B g a len cap h 40 (by omega) (by omega)).mono ?_
 rintro e w1 ⟨b, rfl, bY, cV⟩
 cases b
 ·go_wp2_with fail
  refine (kY w1 B g a len cap cV 4 (by omega) (by omega)).mono ?_
  rintro e w2 ⟨v, hv, rfl, eC, dN⟩; have hg := bY.trans eC; go_wp2
  go_ret
  exact ⟨_, rfl, hg, dN⟩
 ·go_wp2_with fail
  refine (zV w1 B g a len cap cV 0 3 (by omega) (by omega) (by omega)).mono ?_
  rintro e w2 ⟨v, rfl, eC, dN⟩; have hg := bY.trans eC; go_wp2
  go_ret
  exact ⟨_, rfl, hg, dN⟩
set_option maxHeartbeats 80000000 in
theorem aBQ (w : World) (B : Nat) (a : Option Addr) (len cap : Nat) (hB : B ≤ w.heap.size) (h : Src w B a len) :
  Calls Tryz.prog 16 #[.slice a len cap] w (aJh w) := by
 obtain ⟨hra, hrb, bC, aLG⟩ := Di.mk0 w
 have d9 := aPu aLG
 have HS0 := aPu (h.kept (w' := (w.alloc (.cells #[.slice none 0 0, .slice none 0 0] 27)).alloc (.cells #[.int .i64 0, .string ⟨#[]⟩, .int .i64 0, .int .i64 0, .int .i64 0] 29)) fun k hk => bC.block k (by omega))
 have HRa := aPu hra
 have lA := aPu hrb
 have tX := aPu bC
 clear h hra hrb bC aLG
 go_enter Tryz.func16, Tryz.ntmps16
 go_wp2_with fail
 generalize (w.alloc (.cells #[.slice none 0 0, .slice none 0 0] 27)).alloc (.cells #[.int .i64 0, .string ⟨#[]⟩, .int .i64 0, .int .i64 0, .int .i64 0] 29) = w0 at HS0 HRa lA tX d9 ⊢
 refine (aLa w0 B a len cap (by have := d9.out; omega) HS0.out).mono ?_
 rintro e w1 ⟨rfl, bY, cV⟩
 have pT : Hid (Di w w1 B w0.heap.size a len cap #[.slice none 0 0, .slice none 0 0] #[.int .i64 0, .string ⟨#[]⟩, .int .i64 0, .int .i64 0, .int .i64 0]) := ⟨(bY.block _ (by have := d9.out; omega) (by intro e; cases e)).trans HRa.out, (bY.block _ (by have := d9.out; omega) (by intro e; cases e)).trans lA.out, tX.out.grown bY (by have := d9.out; omega) (fun k hk => by cases hk), cV, by have := d9.out; omega⟩
 clear bY cV HS0 HRa lA tX d9
 generalize w0.heap.size = g at pT ⊢
 go_wp2_with fail
 refine (aKU w1 B g a len cap pT.out.rd).mono ?_
 rintro e w2 ⟨x, rfl, hx, eC, dN⟩
 have zL := aPu (pT.out.step eC dN)
 have hsw := pT.out.bel.size
 have tJ := zL.out.glt
 have jM := pT.out.rd.lt
 have HX := aPu hx
 have aCZ := eC.size
 have hBw := hB
 clear hx eC dN pT
 go_upto_region 3 with fail
 have l5 := aPu (bE (Below.refl _ (w2.alloc (.cells #[.slice x.va 4 x.vc, .slice x.oa x.no x.oc] 27))))
 have j8 := aPu (zL.out.box (.cells #[.slice x.va 4 x.vc, .slice x.oa x.no x.oc] 27))
 have lU := aPu (HX.out.kept (w' := w2.alloc (.cells #[.slice x.va 4 x.vc, .slice x.oa x.no x.oc] 27)) fun j _ h2 => Below.heap_alloc _ _ _ h2)
 have hU : w2.heap.size + 1 = (w2.alloc (.cells #[.slice x.va 4 x.vc, .slice x.oa x.no x.oc] 27)).heap.size := by simp
 clear zL HX
 have aNw : w1.heap.size ≤ w2.heap.size := aCZ
 generalize w2.alloc (.cells #[.slice x.va 4 x.vc, .slice x.oa x.no x.oc] 27) = w3 at l5 j8 lU hU ⊢
 have hcg : w2.heap.size ≠ g := by omega
 have F3 : w2.heap.size < w3.heap.size := by omega
 generalize w2.heap.size = cb at l5 lU hU hcg F3 aNw aCZ ⊢
 have aO6 : cb + 1 ≤ w3.heap.size := by omega
 clear hU
 go_wp2_with fail
 refine (aKT w3 B g a len cap j8.out.rd).mono ?_
 rintro e w4 ⟨dev, rfl, wQ, S4⟩
 have rD := aPu (j8.out.step wQ S4)
 have HC4 := aPu ((wQ.block cb (by omega) (by intro e; injection e with e; exact hcg e)).trans l5.out)
 have F0 := wQ.size
 have N6 := aPu (lU.out.kept fun j h1 h2 => wQ.block j (by omega) (by intro e; injection e with e; omega))
 clear wQ S4 j8 l5 lU
 have hS : w4.drew.cell? ⟨cb, 0, none⟩ = some (.slice x.va 4 x.vc) ∧ w4.drew.cell? ⟨cb, 1, none⟩ = some (.slice x.oa x.no x.oc) := pair_cells HC4.out
 go_wp2_with fail
 refine wp_region_held_drew (S := fun w' => w'.cell? ⟨cb, 0, none⟩ = some (.slice x.va 4 x.vc) ∧ w'.cell? ⟨cb, 1, none⟩ = some (.slice x.oa x.no x.oc)) (by kernel_rfl) hS (fun aP => ?_)
 refine tj 0 ?_
 refine tj 1 ?_
 refine tj 2 ?_
 refine rk 3 rfl (fun K hK => ?_)
 go_simp
 go_at_call 41
 refine (aEK w4.drew B g a len cap (rD.out.rd.kept (w' := w4.drew) fun _ _ => rfl) (by show _ ≤ w4.heap.size; omega)).mono ?_
 rintro e z1 ⟨kind, item, qty, dv, sq, hi, rfl, bY, cV⟩
 have iV : w4.grownBy z1 (some g) := ⟨bY.os, bY.tape, bY.output, bY.size, bY.block⟩
 have rC := aPu (rD.out.step iV cV)
 have aPe : cb < z1.heap.size := Nat.lt_of_lt_of_le (by omega) iV.size
 have HC5 := aPu ((iV.block cb (by omega) (by intro e; injection e with e; exact hcg e)).trans HC4.out)
 have hs5 := iV.size
 have HX5 := aPu ((N6.out.kept fun j h1 h2 => iV.block j (by omega) (by intro e; injection e with e; omega)).more (lo' := w1.heap.size) (hi' := z1.heap.size) aPw (by omega))
 have F5 : z1.cell? ⟨cb, 0, none⟩ = some (.slice x.va 4 x.vc) ∧ z1.cell? ⟨cb, 1, none⟩ = some (.slice x.oa x.no x.oc) := pair_cells HC5.out
 clear bY cV iV
 refine hK.out _ _ F5 (fun bG => ?_)
 clear hK K
 (try simp only [Act.put, u1, u2, u3])
 have tU := aPu (HX5.out.more (lo' := w.heap.size) (hi' := z1.heap.size) (by omega) aPw)
 have kc : lD ((z1.setCell ⟨w.heap.size, 0, none⟩ (.slice x.va 4 x.vc)).setCell ⟨w.heap.size, 1, none⟩ (.slice x.oa x.no x.oc)) w.heap.size z1.heap.size x := tU.out.other rC.out.ra fun j _ _ bJ => aF _ _ bJ
 obtain ⟨r0, r1⟩ := pair_cells rC.out.ra
 obtain ⟨f0, f1⟩ := aC rC.out.ra
 have aMj := aPu (cF (.slice x.va 4 x.vc) (.slice x.oa x.no x.oc) rC.out.ra)
 have aDv : Hid (((z1.setCell ⟨w.heap.size, 0, none⟩ (.slice x.va 4 x.vc)).setCell ⟨w.heap.size, 1, none⟩ (.slice x.oa x.no x.oc)).heap[w.heap.size + 1]? = some (.cells #[.int .i64 0, .string ⟨#[]⟩, .int .i64 0, .int .i64 0, .int .i64 0] 29 (0, 0))) := (aF _ _ (by omega)).trans rC.out.rb
 have hB6 : Below w.heap.size w ((z1.setCell ⟨w.heap.size, 0, none⟩ (.slice x.va 4 x.vc)).setCell ⟨w.heap.size, 1, none⟩ (.slice x.oa x.no x.oc)) := rC.out.bel.trans (dR z1 w.heap.size 0 1 _ _)
 have hz6 := aZ z1 w.heap.size (.slice x.va 4 x.vc) (.slice x.oa x.no x.oc)
 have aLp : z1.heap.size ≤ ((z1.setCell ⟨w.heap.size, 0, none⟩ (.slice x.va 4 x.vc)).setCell ⟨w.heap.size, 1, none⟩ (.slice x.oa x.no x.oc)).heap.size := Nat.le_of_eq hz6.symm
 have aNU : ((z1.setCell ⟨w.heap.size, 0, none⟩ (.slice x.va 4 x.vc)).setCell ⟨w.heap.size, 1, none⟩ (.slice x.oa x.no x.oc)).heap.size ≤ z1.heap.size := Nat.le_of_eq hz6
 clear hz6
 have HK6 := aPu kc
 have fA := aPu hB6
 clear kc hB6
 have lS : ((z1.setCell ⟨w.heap.size, 0, none⟩ (.slice x.va 4 x.vc)).setCell ⟨w.heap.size, 1, none⟩ (.slice x.oa x.no x.oc)).cell? ⟨cb, 0, none⟩ = some (.slice x.va 4 x.vc) ∧ ((z1.setCell ⟨w.heap.size, 0, none⟩ (.slice x.va 4 x.vc)).setCell ⟨w.heap.size, 1, none⟩ (.slice x.oa x.no x.oc)).cell? ⟨cb, 1, none⟩ = some (.slice x.oa x.no x.oc) := pair_cells ((aF _ _ (by omega)).trans HC5.out)
 refine rk 4 rfl (fun K hK => ?_)
 go_simp
 refine hK.out _ _ lS (fun fI => ?_)
 clear hK K
 (try simp only [Act.put, u1, u2, u3])
 clear r0 r1 f0 f1
 generalize ((z1.setCell ⟨w.heap.size, 0, none⟩ (.slice x.va 4 x.vc)).setCell ⟨w.heap.size, 1, none⟩ (.slice x.oa x.no x.oc)) = z6 at aMj aDv fA HK6 lS aLp aNU fI ⊢
 refine tj 5 ?_
 obtain ⟨g0, g1, g2, g3, g4⟩ := aDc aDv.out
 obtain ⟨f0, f1, f2, f3, f4⟩ := aKo aDv.out
 have T3 : (((((z6.setCell ⟨w.heap.size + 1, 0, none⟩ (.int .i64 kind)).setCell ⟨w.heap.size + 1, 1, none⟩ (.string item)).setCell ⟨w.heap.size + 1, 2, none⟩ (.int .i64 qty)).setCell ⟨w.heap.size + 1, 3, none⟩ (.int .i64 dv)).setCell ⟨w.heap.size + 1, 4, none⟩ (.int .i64 sq)).cell? ⟨cb, 0, none⟩ = some (.slice x.va 4 x.vc) ∧ (((((z6.setCell ⟨w.heap.size + 1, 0, none⟩ (.int .i64 kind)).setCell ⟨w.heap.size + 1, 1, none⟩ (.string item)).setCell ⟨w.heap.size + 1, 2, none⟩ (.int .i64 qty)).setCell ⟨w.heap.size + 1, 3, none⟩ (.int .i64 dv)).setCell ⟨w.heap.size + 1, 4, none⟩ (.int .i64 sq)).cell? ⟨cb, 1, none⟩ = some (.slice x.oa x.no x.oc) := ⟨(World.cell?_of_block (a := ⟨cb, 0, none⟩) (Y0 (by show cb ≠ _; omega))).trans lS.1, (World.cell?_of_block (a := ⟨cb, 1, none⟩) (Y0 (by show cb ≠ _; omega))).trans lS.2⟩
 have aMi : Hid ((((((z6.setCell ⟨w.heap.size + 1, 0, none⟩ (.int .i64 kind)).setCell ⟨w.heap.size + 1, 1, none⟩ (.string item)).setCell ⟨w.heap.size + 1, 2, none⟩ (.int .i64 qty)).setCell ⟨w.heap.size + 1, 3, none⟩ (.int .i64 dv)).setCell ⟨w.heap.size + 1, 4, none⟩ (.int .i64 sq)).heap[w.heap.size]? = some (.cells #[.slice x.va 4 x.vc, .slice x.oa x.no x.oc] 27 (0, 0))) := (Y0 (by omega)).trans aMj.out
 have aMh : Hid ((((((z6.setCell ⟨w.heap.size + 1, 0, none⟩ (.int .i64 kind)).setCell ⟨w.heap.size + 1, 1, none⟩ (.string item)).setCell ⟨w.heap.size + 1, 2, none⟩ (.int .i64 qty)).setCell ⟨w.heap.size + 1, 3, none⟩ (.int .i64 dv)).setCell ⟨w.heap.size + 1, 4, none⟩ (.int .i64 sq)).heap[w.heap.size + 1]? = some (.cells #[.int .i64 kind, .string item, .int .i64 qty, .int .i64 dv, .int .i64 sq] 29 (0, 0))) := aKm aDv.out
 have oA : Hid (Below w.heap.size w (((((z6.setCell ⟨w.heap.size + 1, 0, none⟩ (.int .i64 kind)).setCell ⟨w.heap.size + 1, 1, none⟩ (.string item)).setCell ⟨w.heap.size + 1, 2, none⟩ (.int .i64 qty)).setCell ⟨w.heap.size + 1, 3, none⟩ (.int .i64 dv)).setCell ⟨w.heap.size + 1, 4, none⟩ (.int .i64 sq))) := aKp fA.out (Nat.le_succ _)
 have HK7 : Hid (lD (((((z6.setCell ⟨w.heap.size + 1, 0, none⟩ (.int .i64 kind)).setCell ⟨w.heap.size + 1, 1, none⟩ (.string item)).setCell ⟨w.heap.size + 1, 2, none⟩ (.int .i64 qty)).setCell ⟨w.heap.size + 1, 3, none⟩ (.int .i64 dv)).setCell ⟨w.heap.size + 1, 4, none⟩ (.int .i64 sq)) w.heap.size (((((z6.setCell ⟨w.heap.size + 1, 0, none⟩ (.int .i64 kind)).setCell ⟨w.heap.size + 1, 1, none⟩ (.string item)).setCell ⟨w.heap.size + 1, 2, none⟩ (.int .i64 qty)).setCell ⟨w.heap.size + 1, 3, none⟩ (.int .i64 dv)).setCell ⟨w.heap.size + 1, 4, none⟩ (.int .i64 sq)).heap.size x) := by
  have h7 : lD (((((z6.setCell ⟨w.heap.size + 1, 0, none⟩ (.int .i64 kind)).setCell ⟨w.heap.size + 1, 1, none⟩ (.string item)).setCell ⟨w.heap.size + 1, 2, none⟩ (.int .i64 qty)).setCell ⟨w.heap.size + 1, 3, none⟩ (.int .i64 dv)).setCell ⟨w.heap.size + 1, 4, none⟩ (.int .i64 sq)) w.heap.size z1.heap.size x := HK6.out.otherM aDv.out fun j _ _ bJ => Y0 bJ
  exact h7.more aPw (by rw [aKl]; exact aLp)
 refine rk 6 rfl (fun K hK => ?_)
 go_simp
 refine hK.out _ _ T3 (fun kW => ?_)
 clear hK K
 (try simp only [Act.put, u1, u2, u3])
 refine wpAnyH_done (by kernel_rfl) ?_ _
 clear g0 g1 g2 g3 g4 f0 f1 f2 f3 f4 T3 lS
 generalize (((((z6.setCell ⟨w.heap.size + 1, 0, none⟩ (.int .i64 kind)).setCell ⟨w.heap.size + 1, 1, none⟩ (.string item)).setCell ⟨w.heap.size + 1, 2, none⟩ (.int .i64 qty)).setCell ⟨w.heap.size + 1, 3, none⟩ (.int .i64 dv)).setCell ⟨w.heap.size + 1, 4, none⟩ (.int .i64 sq)) = wf at aMi aMh oA HK7 ⊢
 obtain ⟨q0, q1⟩ := pair_cells aMi.out
 obtain ⟨g0, g1, g2, g3, g4⟩ := aDc aMh.out
 go_wp2
 exact bodyPost_ret (v := .tuple #[.agg #[.slice x.va 4 x.vc, .slice x.oa x.no x.oc], .int .i64 dev, .agg #[.int .i64 kind, .string item, .int .i64 qty, .int .i64 dv, .int .i64 sq]]) (by simp [results, Tryz.results16, go_sem, q0, q1, g0, g1, g2, g3, g4]) rfl ⟨x, dev, kind, item, qty, dv, sq, hi, rfl, HK7.out, oA.out⟩
theorem eA.more {w : World} {B B' : Nat} {E : Int → Addr} (h : eA w B E) (hB : B ≤ B') : eA w B' E :=
 ⟨Nat.le_trans h.low hB, h.cells, fun c h1 h2 => by obtain ⟨a, r⟩ := h.lies c h1 h2; exact ⟨by omega, r⟩, h.ne, h.typ⟩
theorem aDh (w : World) (x y : Array Value) (S T : TypeId) : ((w.alloc (.cells x S)).alloc (.cells y T)).heap[w.heap.size]? = some (.cells x S (0, 0)) ∧ ((w.alloc (.cells x S)).alloc (.cells y T)).heap[w.heap.size + 1]? = some (.cells y T (0, 0)) ∧ Below w.heap.size w ((w.alloc (.cells x S)).alloc (.cells y T)) := by
 have e1 : (w.alloc (.cells x S)).heap.size = w.heap.size + 1 := by simp
 refine ⟨(Below.heap_alloc _ _ _ (by omega)).trans (heap_alloc_new _ _), ?_, ((Below.refl _ w).alloc aPw _).alloc (by simp) _⟩
 rw [← e1]; exact heap_alloc_new _ _
theorem eD {w w' : World} {g : Nat} {cs : Array Value} {T : TypeId} {fr : Nat × Nat} (hb : Below w.heap.size w w') (H : Hid (w.heap[g]? = some (.cells cs T fr))) : Hid (w'.heap[g]? = some (.cells cs T fr)) := (hb.block _ (bS H.out)).trans H.out
theorem kN {w0 w w' : World} {B : Nat} (hb : Below w.heap.size w w') (H : Hid (Below B w0 w)) (h : B ≤ w.heap.size := by omega) : Hid (Below B w0 w') := H.out.trans (hb.mono h)
theorem eX {w w' : World} {B n : Nat} {a : Option Addr} {l : List Int} (hb : Below w.heap.size w w') (H : Hid (Ints w B a n l)) (h : B ≤ w.heap.size := by omega) : Hid (Ints w' B a n l) := H.out.below hb h
theorem eY {w w' : World} {B n : Nat} {a : Option Addr} {l : List aA} (hb : Below w.heap.size w w') (H : Hid (bK w B a n l)) (h : B ≤ w.heap.size := by omega) : Hid (bK w' B a n l) := H.out.below hb h
theorem pZ {w w' : World} {B : Nat} {E : Int → Addr} (hb : Below w.heap.size w w') (H : Hid (eA w B E)) (h : B ≤ w.heap.size := by omega) : Hid (eA w' B E) := H.out.below hb h
theorem Z0 {xs : List Int} {l : List aA} {dev kind : Int} {item : ByteArray} {qty dv sq k : Int} {zs : List Int} {m : List aA} (h : cH xs l dev kind item qty dv sq = (k, zs, m)) : zs.length ≤ 4 ∧ m.length ≤ 160 ∧ (∀ i, i < m.length → (aB m i).item.size ≤ 1048576) ∧ (k ≠ 1 → aD zs m = true) := by
 have hc := Z1 xs l dev kind item qty dv sq
 rw [h] at hc
 rcases hc with hc | hc
 ·injection hc with h1 h2
  injection h2 with h2 h3; subst h1 h2 h3; exact ⟨Nat.zero_le _, Nat.zero_le _, fun i hi => absurd hi (Nat.not_lt_zero _), fun q => absurd rfl q⟩
 ·have hc : aD zs m = true := hc
  exact ⟨Nat.le_of_eq (eP hc).1, eL hc, fun i hi => Nat.le_trans (dG (eT hc hi)).2.2.2.2.1 (by omega), fun _ => hc⟩
end Go.Proofs.YthkagbnpcjidfaaGreatDoor
