/- Walks and mathematics that several claims share, part 38. -/
import Derived.Test.YtgagchlcafdiaaaGreatGb37
import Derived.Deep.Cut
import Derived.Test.YtgagchlcafdiaaaGreatGbA
namespace Go.Proofs.YtgagchlcafdiaaaGreat
set_option maxRecDepth 100000
open Go.RowKit
set_option linter.unusedVariables false
set_option linter.unusedSimpArgs false
set_option linter.unusedVariables false
set_option linter.unusedSimpArgs false

/-- A cart in memory of its own, that need not be valid and whose numbers are not bounded. -/
def Crw (w : World) (lo hi : Nat) (x : CartC) : Prop :=
 ∃ zs m, x.no = m.length ∧ Own w lo hi x.va 4 zs ∧ OwnOps w lo hi x.oa m.length m ∧ Caps x.va 4 x.vc ∧ Caps x.oa m.length x.oc ∧ (∀ i, i < m.length → (atOp m i).item.size ≤ 8) ∧ m.length ≤ 400
theorem CrtC.weak {w : World} {lo hi : Nat} {x : CartC} (h : CrtC w lo hi x) : Crw w lo hi x := by
 obtain ⟨zs, m, e, a, b, c, d, f⟩ := h
 exact ⟨zs, m, e, a, b, c, d, f.item, f.most⟩
theorem Crw.more {w : World} {lo hi lo' hi' : Nat} {x : CartC} (h : Crw w lo hi x) (h1 : lo' ≤ lo) (h2 : hi ≤ hi') : Crw w lo' hi' x := by
 obtain ⟨zs, m, e, a, b, c⟩ := h
 exact ⟨zs, m, e, a.more h1 h2, b.more h1 h2, c⟩
theorem Crw.kept {w w' : World} {lo hi : Nat} {x : CartC} (h : Crw w lo hi x) (hk : ∀ j, lo ≤ j → j < hi → w'.heap[j]? = w.heap[j]?) : Crw w' lo hi x := by
 obtain ⟨zs, m, e, a, b, c⟩ := h
 exact ⟨zs, m, e, a.kept hk, b.kept hk, c⟩
theorem Crw.other {w w' : World} {lo hi q : Nat} {x : CartC} {cs : Array Value} {fr : Nat × Nat} (h : Crw w lo hi x) (hq : w.heap[q]? = some (.cells cs 49 fr)) (hk : ∀ j, lo ≤ j → j < hi → j ≠ q → w'.heap[j]? = w.heap[j]?) : Crw w' lo hi x := by
 obtain ⟨zs, m, e, a, b, c⟩ := h
 refine ⟨zs, m, e, ⟨a.1, fun hn => ?_⟩, ⟨b.1, fun hn => ?_⟩, c⟩
 ·obtain ⟨g, cur, e1, h1, h2, hg, hc⟩ := a.2 hn
  have hne : g ≠ q := by
   intro e2
   rw [e2, hq] at hg
   injection hg with hg
   injection hg with _ hg
   exact absurd hg (by decide)
  exact ⟨g, cur, e1, h1, h2, (hk g h1 h2 hne).trans hg, hc⟩
 ·obtain ⟨g, off, cur, e1, h1, h2, hg, hs, hc⟩ := b.2 hn
  have hne : g ≠ q := by
   intro e2
   rw [e2, hq] at hg
   injection hg with hg
   injection hg with _ hg
   exact absurd hg (by decide)
  exact ⟨g, off, cur, e1, h1, h2, (hk g h1 h2 hne).trans hg, hs, hc⟩
def stampL (m : List OpV) (i : Nat) (t : Int) : List OpV := m.set i { atOp m i with stamp := t }
/-- An operation's stamp is written where it lies. -/
theorem Crw.stamp {w : World} {lo hi i : Nat} {x : CartC} (h : Crw w lo hi x) (hi' : i < x.no) (t : Int) :
  ∃ g off u, x.oa = some ⟨g, off, none⟩ ∧ lo ≤ g ∧ g < hi ∧ (∃ cs, w.heap[g]? = some (.cells cs 84 (0, 0))) ∧ w.cell? ⟨g, off + i * 8 + 2, none⟩ = some (.int .i64 u) ∧ w.frozen? ⟨g, off + i * 8 + 2, none⟩ = false ∧ Crw (w.setCell ⟨g, off + i * 8 + 2, none⟩ (.int .i64 t)) lo hi x := by
 obtain ⟨zs, m, e, a, b, c1, c2, c3, c4⟩ := h
 rw [e] at hi'
 obtain ⟨g, off, cs, e1, h1, h2, hg, hs, hc⟩ := b.2 (by omega)
 have hx := hc i hi'
 have hl : (stampL m i t).length = m.length := by unfold stampL; simp
 refine ⟨g, off, (atOp m i).stamp, e1, h1, h2, ⟨cs, hg⟩, (hx.at hg).2.2.1, frozen_of_row _ _ _ _ _ hg, zs, stampL m i t, by rw [hl]; exact e, ⟨a.1, fun hn => ?_⟩, ⟨rfl, fun hn => ⟨g, off, cs.setIfInBounds (off + i * 8 + 2) (.int .i64 t), e1, h1, h2, heap_setCell_same _ _ _ _ _ _ hg, by rw [hl]; simpa using hs, fun j hj => ?_⟩⟩, c1, by rw [hl]; exact c2, fun j hj => ?_, by rw [hl]; exact c4⟩
 ·obtain ⟨q, cur, e2, a1, a2, a3, a4⟩ := a.2 hn
  have hne : q ≠ g := by
   intro eq
   rw [eq, hg] at a3
   injection a3 with a3
   injection a3 with _ a3
   exact absurd a3 (by decide)
  exact ⟨q, cur, e2, a1, a2, (heap_setCell_other _ _ _ _ hne).trans a3, a4⟩
 ·rw [hl] at hj
  have hy := hc j hj
  unfold stampL
  rw [set_getD hi']
  by_cases e2 : i = j
  ·subst e2
   rw [if_pos rfl]
   obtain ⟨y0, y1, y2, y3, y4, y5, y6, y7⟩ := hy
   have ne : ∀ q, q ≠ 2 → (cs.setIfInBounds (off + i * 8 + 2) (.int .i64 t))[off + i * 8 + q]? = cs[off + i * 8 + q]? := fun q hq => by rw [Array.getElem?_setIfInBounds, if_neg (by omega)]
   refine ⟨(ne 0 (by omega)).trans y0, (ne 1 (by omega)).trans y1, ?_, (ne 3 (by omega)).trans y3, (ne 4 (by omega)).trans y4, (ne 5 (by omega)).trans y5, (ne 6 (by omega)).trans y6, (ne 7 (by omega)).trans y7⟩
   rw [Array.getElem?_setIfInBounds, if_pos rfl, if_pos (Array.getElem?_eq_some_iff.1 y2).1]
  ·rw [if_neg e2]
   have ne : ∀ q, q < 8 → (cs.setIfInBounds (off + i * 8 + 2) (.int .i64 t))[off + j * 8 + q]? = cs[off + j * 8 + q]? := fun q hq => by rw [Array.getElem?_setIfInBounds, if_neg (by omega)]
   obtain ⟨y0, y1, y2, y3, y4, y5, y6, y7⟩ := hy
   exact ⟨(ne 0 (by omega)).trans y0, (ne 1 (by omega)).trans y1, (ne 2 (by omega)).trans y2, (ne 3 (by omega)).trans y3, (ne 4 (by omega)).trans y4, (ne 5 (by omega)).trans y5, (ne 6 (by omega)).trans y6, (ne 7 (by omega)).trans y7⟩
 ·rw [hl] at hj
  unfold stampL atOp
  rw [set_getD hi']
  split
  ·exact c3 i hi'
  ·exact c3 j hj
/-- The vector's first number is written where it lies. -/
theorem Crw.vec {w : World} {lo hi : Nat} {x : CartC} (h : Crw w lo hi x) (t : Int) :
  ∃ g u, x.va = some ⟨g, 0, none⟩ ∧ lo ≤ g ∧ g < hi ∧ (∃ cs, w.heap[g]? = some (.cells cs 2 (0, 0))) ∧ w.cell? ⟨g, 0, none⟩ = some (.int .i64 u) ∧ w.frozen? ⟨g, 0, none⟩ = false ∧ Crw (w.setCell ⟨g, 0, none⟩ (.int .i64 t)) lo hi x := by
 obtain ⟨zs, m, e, a, b, c⟩ := h
 have hl4 := a.1
 obtain ⟨g, cur, e1, h1, h2, hg, hc⟩ := a.2 (by omega)
 have hx := hc 0 (by omega)
 refine ⟨g, zs.getD 0 0, e1, h1, h2, ⟨cur, hg⟩, (cell_of_row _ _ _ _ _ _ hg).trans hx, frozen_of_row _ _ _ _ _ hg, zs.set 0 t, m, e, ⟨by rw [List.length_set]; exact hl4, fun hn => ⟨g, cur.setIfInBounds 0 (.int .i64 t), e1, h1, h2, heap_setCell_same _ _ _ _ _ _ hg, fun i hi => ?_⟩⟩, ⟨b.1, fun hn => ?_⟩, c⟩
 ·rw [Array.getElem?_setIfInBounds, set_getD (by omega)]
  by_cases e2 : 0 = i
  ·subst e2
   rw [if_pos rfl, if_pos rfl, if_pos (Array.getElem?_eq_some_iff.1 hx).1]
  ·rw [if_neg e2, if_neg e2]
   exact hc i hi
 ·obtain ⟨q, off, cs, e2, a1, a2, a3, a4, a5⟩ := b.2 hn
  have hne : q ≠ g := by
   intro eq
   rw [eq, hg] at a3
   injection a3 with a3
   injection a3 with _ a3
   exact absurd a3 (by decide)
  exact ⟨q, off, cs, e2, a1, a2, (heap_setCell_other _ _ _ _ hne).trans a3, a4, a5⟩
/-- What the reader's cart keeps: its cart in block cb, its result's block zero so far. -/
structure CtI (w wr : World) (B g : Nat) (a : Option Addr) (len cap cb : Nat) (x : CartC) : Prop where
 box : wr.heap[cb]? = some (.cells #[.slice x.va 4 x.vc, .slice x.oa x.no x.oc] 49 (0, 0))
 res : wr.heap[w.heap.size]? = some (.cells #[.slice none 0 0, .slice none 0 0] 49 (0, 0))
 crt : Crw wr (w.heap.size + 1) wr.heap.size x
 grown : w.grownBy wr (some g)
 rd : Rd wr B g a len cap
 glt : g < w.heap.size
 clo : w.heap.size < cb
theorem CtI.step {w wr w1 : World} {B g : Nat} {a : Option Addr} {len cap cb : Nat} {x : CartC} (h : CtI w wr B g a len cap cb x) (hg : wr.grownBy w1 (some g)) (hr : Rd w1 B g a len cap) : CtI w w1 B g a len cap cb x := by
 have hgl := h.glt
 have hcl := h.clo
 have hs := hg.size
 have hk : ∀ j, j < wr.heap.size → j ≠ g → w1.heap[j]? = wr.heap[j]? := fun j h1 h2 => hg.block j h1 (by intro e; injection e with e; exact h2 e)
 exact ⟨(hk cb (Array.getElem?_eq_some_iff.1 h.box).1 (by omega)).trans h.box, (hk _ (Array.getElem?_eq_some_iff.1 h.res).1 (by omega)).trans h.res, (h.crt.kept fun j h1 h2 => hk j h2 (by omega)).more (Nat.le_refl _) hs, h.grown.trans hg, hr, hgl, hcl⟩
/-- A cell of a block behind the result's is written; the cart bears it. -/
theorem CtI.cell1 {w z : World} {B g b i : Nat} {a : Option Addr} {len cap cb : Nat} {x : CartC} {T : TypeId} {cs : Array Value} {v : Value} (h : CtI w z B g a len cap cb x) (hb : z.heap[b]? = some (.cells cs T (0, 0))) (hT : T ≠ 49) (hlo : w.heap.size < b) (hc : Crw (z.setCell ⟨b, i, none⟩ v) (w.heap.size + 1) z.heap.size x) : CtI w (z.setCell ⟨b, i, none⟩ v) B g a len cap cb x := by
 have hgl := h.glt
 have hcl := h.clo
 have hB := h.rd.own
 have hgw := h.grown
 have hz : (z.setCell ⟨b, i, none⟩ v).heap.size = z.heap.size := by simp [World.setCell]
 have hk : ∀ j, j ≠ b → (z.setCell ⟨b, i, none⟩ v).heap[j]? = z.heap[j]? := fun j hj => heap_setCell_other _ _ _ _ hj
 have hcb : cb ≠ b := by
  intro e
  have hx := h.box
  rw [e, hb] at hx
  injection hx with hx
  injection hx with _ hx
  exact hT hx
 exact ⟨(hk cb hcb).trans h.box, (hk _ (by omega)).trans h.res, by rw [hz]; exact hc, ⟨hgw.os, hgw.tape, hgw.output, by rw [hz]; exact hgw.size, fun k h1 h2 => (hk k (by omega)).trans (hgw.block k h1 h2)⟩, h.rd.kept fun k hk' => hk k (by omega), hgl, hcl⟩
/-- Another cart is laid in the block. -/
theorem CtI.turn {w z : World} {B g : Nat} {a : Option Addr} {len cap cb : Nat} {x : CartC} (h : CtI w z B g a len cap cb x) (y : CartC) (hy : Crw z (w.heap.size + 1) z.heap.size y) : CtI w ((z.setCell ⟨cb, 0, none⟩ (.slice y.va 4 y.vc)).setCell ⟨cb, 1, none⟩ (.slice y.oa y.no y.oc)) B g a len cap cb y := by
 have hgl := h.glt
 have hcl := h.clo
 have hB := h.rd.own
 have hgw := h.grown
 have hz := pair_size z cb (.slice y.va 4 y.vc) (.slice y.oa y.no y.oc)
 have hk : ∀ j, j ≠ cb → ((z.setCell ⟨cb, 0, none⟩ (.slice y.va 4 y.vc)).setCell ⟨cb, 1, none⟩ (.slice y.oa y.no y.oc)).heap[j]? = z.heap[j]? := fun j hj => pair_other _ _ hj
 exact ⟨pair_set _ _ h.box, (hk _ (by omega)).trans h.res, by rw [hz]; exact hy.other h.box fun j _ _ hne => hk j hne, ⟨hgw.os, hgw.tape, hgw.output, by rw [hz]; exact hgw.size, fun k h1 h2 => (hk k (by omega)).trans (hgw.block k h1 h2)⟩, h.rd.kept fun k hk' => hk k (by omega), hgl, hcl⟩
theorem rdCartsI (w : World) (B g : Nat) (a : Option Addr) (len cap : Nat) (h : Rd w B g a len cap) (n most : Nat) (hn : 0 < n) (hn4 : n ≤ 4) (hm : most ≤ 60) (x y : Int) (hx : x = (n : Int)) (hy : y = (most : Int)) :
  Calls Tryz.prog 38 #[.pointer (some ⟨g, 0, none⟩), .int .i64 x, .int .i64 y] w (YieldsCarts n w B g a len cap) := by
 subst hx hy
 exact rdCarts w B g a len cap h n most hn hn4 hm
/-- What the reader's cart answers. -/
def YieldsCart (w : World) (B g : Nat) (a : Option Addr) (len cap : Nat) (e : Ending) (w' : World) : Prop :=
 ∃ x : CartC, e = .returned (.agg #[.slice x.va 4 x.vc, .slice x.oa x.no x.oc]) ∧ Crw w' w.heap.size w'.heap.size x ∧ w.grownBy w' (some g) ∧ Rd w' B g a len cap
theorem Crw.len {w : World} {lo hi : Nat} {x : CartC} (h : Crw w lo hi x) : x.no ≤ 400 := by
 obtain ⟨zs, m, e, _, _, _, _, _, h4⟩ := h
 omega

theorem Crw.caps {w : World} {lo hi : Nat} {x : CartC} (h : Crw w lo hi x) : x.no ≤ x.oc := by
 obtain ⟨zs, m, e, _, _, _, c, _⟩ := h
 have := c.1
 omega
theorem CtI.out {w z : World} {B g : Nat} {a : Option Addr} {len cap cb : Nat} {x : CartC} (h : CtI w z B g a len cap cb x) :
  Hid (((z.setCell ⟨w.heap.size, 0, none⟩ (.slice x.va 4 x.vc)).setCell ⟨w.heap.size, 1, none⟩ (.slice x.oa x.no x.oc)).heap[w.heap.size]? = some (.cells #[.slice x.va 4 x.vc, .slice x.oa x.no x.oc] 49 (0, 0))) ∧ Hid (YieldsCart w B g a len cap (.returned (.agg #[.slice x.va 4 x.vc, .slice x.oa x.no x.oc])) ((z.setCell ⟨w.heap.size, 0, none⟩ (.slice x.va 4 x.vc)).setCell ⟨w.heap.size, 1, none⟩ (.slice x.oa x.no x.oc))) := by
 have hgl := h.glt
 have hB := h.rd.own
 have hgw := h.grown
 have hz := pair_size z w.heap.size (.slice x.va 4 x.vc) (.slice x.oa x.no x.oc)
 have hk : ∀ j, j ≠ w.heap.size → ((z.setCell ⟨w.heap.size, 0, none⟩ (.slice x.va 4 x.vc)).setCell ⟨w.heap.size, 1, none⟩ (.slice x.oa x.no x.oc)).heap[j]? = z.heap[j]? := fun j hj => pair_other _ _ hj
 exact ⟨pair_set _ _ h.res, x, rfl, ((h.crt.kept fun j h1 h2 => hk j (by omega)).more (by omega) (by rw [hz]; exact Nat.le_refl _)), ⟨hgw.os, hgw.tape, hgw.output, by rw [hz]; exact hgw.size, fun k h1 h2 => (hk k (by omega)).trans (hgw.block k h1 h2)⟩, h.rd.kept fun k hk' => hk k (by omega)⟩
set_option maxHeartbeats 80000000 in
theorem rdCart (w : World) (B g : Nat) (a : Option Addr) (len cap : Nat) (h : Rd w B g a len cap) :
  Calls Tryz.prog 18 #[.pointer (some ⟨g, 0, none⟩)] w (YieldsCart w B g a len cap) := by
 have hgl := h.lt
 have hBg := h.own
 have hb0 : Below w.heap.size w (w.alloc (.cells #[.slice none 0 0, .slice none 0 0] 49)) := (Below.refl _ w).alloc (Nat.le_refl _) _
 have HRd := Lib.hid (h.grown (grown_no hb0) fun k hk => by cases hk)
 have HR0 := Lib.hid (boxAt (Below.refl _ (w.alloc (.cells #[.slice none 0 0, .slice none 0 0] 49))))
 have hs0 : w.heap.size < (w.alloc (.cells #[.slice none 0 0, .slice none 0 0] 49)).heap.size := by show _ < (w.heap.push _).size; simp
 have HB0 := Lib.hid hb0
 clear h hb0
 go_enter Tryz.func18, Tryz.ntmps18
 go_wp2_with fail
 generalize w.alloc (.cells #[.slice none 0 0, .slice none 0 0] 49) = w0 at HRd HR0 HB0 hs0 ⊢
 refine (rdCartsI w0 B g a len cap HRd.out 3 16 (by omega) (by omega) (by omega) 3 16 rfl rfl).mono ?_
 rintro e w1 ⟨q, c, l, rfl, hl1⟩
 have HL1 := Lib.hid hl1
 have hs1 := hl1.grown.size
 have hl3 := hl1.num
 have c0 : w1.cell? ⟨q, 0, none⟩ = some (.slice (cAt l 0).va 4 (cAt l 0).vc) := (hl1.cell 0 (by omega)).1
 have c1 : w1.cell? ⟨q, 1, none⟩ = some (.slice (cAt l 0).oa (cAt l 0).no (cAt l 0).oc) := (hl1.cell 0 (by omega)).2
 have HX := Lib.hid (CrtC.weak (hl1.row.crt 0 (by rw [hl1.num]; omega)))
 have HR1 := Lib.hid ((hl1.grown.block w.heap.size hs0 (by intro e; injection e with e; omega)).trans HR0.out)
 have HG1 := Lib.hid ((grown_below HB0.out).trans hl1.grown)
 clear hl1 HRd HR0
 generalize cAt l 0 = x at c0 c1 HX
 go_upto_region 2 with fail
 have hal : Below w1.heap.size w1 (w1.alloc (.cells #[.slice x.va 4 x.vc, .slice x.oa x.no x.oc] 49)) := bl
 have HI2 : Hid (CtI w (w1.alloc (.cells #[.slice x.va 4 x.vc, .slice x.oa x.no x.oc] 49)) B g a len cap w1.heap.size x) := ⟨boxAt (Below.refl _ _), (hal.block _ (by omega)).trans HR1.out, ((HX.out.kept fun j _ h2 => hal.block j h2).more (by omega) hal.size), HG1.out.trans (grown_of hal), HL1.out.rd.grown (grown_no hal) (fun k hk => by cases hk), hgl, by omega⟩
 clear c0 c1 HX HR1 HG1 HL1 hl3
 generalize w1.alloc (.cells #[.slice x.va 4 x.vc, .slice x.oa x.no x.oc] 49) = w2 at HI2 ⊢
 clear hal
 generalize w1.heap.size = cb at HI2 hs1 ⊢
 have hxn := HI2.out.crt.len
 obtain ⟨q0, q1⟩ := pair_cells HI2.out.box
 clear hs1 HB0 hs0
 by_cases hx0 : x.no = 0
 ·have hxe : ((x.no : Int) == 0) = true := by rw [hx0]; rfl
  clear hx0
  go_wp2_with fail
  refine (rdCartsI w2 B g a len cap HI2.out.rd 1 10 (by omega) (by omega) (by omega) 1 10 rfl rfl).mono ?_
  rintro e w3 ⟨q, c, l, rfl, hl3⟩
  have hs3 := hl3.grown.size
  have hwz := HI2.out.grown.size
  have hn3 := hl3.num
  have c0 : w3.cell? ⟨q, 0, none⟩ = some (.slice (cAt l 0).va 4 (cAt l 0).vc) := (hl3.cell 0 (by omega)).1
  have c1 : w3.cell? ⟨q, 1, none⟩ = some (.slice (cAt l 0).oa (cAt l 0).no (cAt l 0).oc) := (hl3.cell 0 (by omega)).2
  have HY := Lib.hid ((CrtC.weak (hl3.row.crt 0 (by omega))).more (lo' := w.heap.size + 1) (hi' := w3.heap.size) (by have := (Array.getElem?_eq_some_iff.1 HI2.out.res).1; omega) (Nat.le_refl _))
  have HI3 := Lib.hid (HI2.out.step hl3.grown hl3.rd)
  clear hl3 hn3 HI2 q0 q1
  generalize cAt l 0 = y at c0 c1 HY
  obtain ⟨q0, q1⟩ := pair_cells HI3.out.box
  obtain ⟨g0, g1⟩ := pair_frozen HI3.out.box
  have HIy := Lib.hid (HI3.out.turn y HY.out)
  go_upto_region 4 with fail
  clear q0 q1 g0 g1 c0 c1 HI3 HY
  generalize (w3.setCell ⟨cb, 0, none⟩ (.slice y.va 4 y.vc)).setCell ⟨cb, 1, none⟩ (.slice y.oa y.no y.oc) = wy at HIy ⊢
  clear hs3 hwz
  go_wp2_with fail
  refine (belowI wy B g a len cap HIy.out.rd 40 (by omega) (by omega)).mono ?_
  rintro e w4 ⟨s, hs, rfl, hg4, hr4⟩
  have HI4 := Lib.hid (HIy.out.step hg4 hr4)
  clear hg4 hr4 HIy hs
  have hxm := HI4.out.crt.len
  by_cases h38 : s = 38
  ·subst h38
   by_cases hx0 : 0 < y.no
   ·have hxi : (0 : Int) < (y.no : Int) := by omega
    obtain ⟨oa, hoe⟩ : ∃ oa, y.oa = oa := ⟨_, rfl⟩
    have HOa := Lib.hid hoe
    clear hoe
    obtain ⟨q0, q1⟩ := pair_cells HI4.out.box
    have hoc := HI4.out.crt.caps
    rw [HOa.out] at q1
    go_upto_region 7 with fail
    have hS : w4.drew.cell? ⟨cb, 0, none⟩ = some (.slice y.va 4 y.vc) ∧ w4.drew.cell? ⟨cb, 1, none⟩ = some (.slice oa y.no y.oc) := ⟨q0, q1⟩
    go_wp2_with fail
    refine wp_region_held_drew (S := fun w' => w'.cell? ⟨cb, 0, none⟩ = some (.slice y.va 4 y.vc) ∧ w'.cell? ⟨cb, 1, none⟩ = some (.slice oa y.no y.oc)) (by kernel_rfl) hS (fun hHeld => ?_)
    refine tj 0 ?_
    refine tj 1 ?_
    refine tj 2 ?_
    refine tj 3 ?_
    refine tj 4 ?_
    refine tj 5 ?_
    refine tj 7 ?_
    refine rk 6 rfl (fun K hK => ?_)
    go_simp
    go_at_call 39
    refine (below w4.drew B g a len cap (HI4.out.rd.kept (w' := w4.drew) fun _ _ => rfl) y.no hx0 (by omega)).mono ?_
    rintro e z1 ⟨j, hj, rfl, hg1, hr1⟩
    have hg1' : w4.grownBy z1 (some g) := ⟨hg1.os, hg1.tape, hg1.output, hg1.size, hg1.block⟩
    have HI1 := Lib.hid (HI4.out.step hg1' hr1)
    have hS1 : z1.cell? ⟨cb, 0, none⟩ = some (.slice y.va 4 y.vc) ∧ z1.cell? ⟨cb, 1, none⟩ = some (.slice oa y.no y.oc) := ⟨(pair_cells HI1.out.box).1, by rw [← HOa.out]; exact (pair_cells HI1.out.box).2⟩
    clear hg1 hr1 hg1'
    refine hK.out _ _ hS1 (fun hHeld2 => ?_)
    clear hK K
    (try simp only [Act.put, u1, u2, u3])
    refine rk 8 rfl (fun K hK => ?_)
    go_simp
    go_at_call 40
    refine (rdOff z1 B g a len cap HI1.out.rd 1 9 (by omega) (by omega) (by omega)).mono ?_
    rintro e z2 ⟨t, rfl, hg2, hr2⟩
    have HIz := Lib.hid (HI1.out.step hg2 hr2)
    have hS2 : z2.cell? ⟨cb, 0, none⟩ = some (.slice y.va 4 y.vc) ∧ z2.cell? ⟨cb, 1, none⟩ = some (.slice oa y.no y.oc) := ⟨(pair_cells HIz.out.box).1, by rw [← HOa.out]; exact (pair_cells HIz.out.box).2⟩
    clear hg2 hr2
    refine hK.out _ _ hS2 (fun hHeld3 => ?_)
    clear hK K
    (try simp only [Act.put, u1, u2, u3])
    have hji : (j : Int) < (y.no : Int) := by omega
    have hj0 : decide ((j : Int) < 0) = false := decide_eq_false (by omega)
    have hj00 : ¬ ((j : Int) < 0) := by omega
    obtain ⟨ob, off, u, hoa, ho1, ho2, ⟨ocs, hob⟩, d0, f0, hcw⟩ := HIz.out.crt.stamp hj t
    have HIw := Lib.hid (HIz.out.cell1 hob (by decide) (by omega) hcw)
    have hoa2 : oa = some ⟨ob, off, none⟩ := HOa.out.symm.trans hoa
    subst hoa2
    clear hcw hob hS hS1 hoa q0 q1 hHeld hHeld2
    refine tj 9 ?_
    refine tj 10 ?_
    have hS3 : (z2.setCell ⟨ob, off + j * 8 + 2, none⟩ (.int .i64 t)).cell? ⟨cb, 0, none⟩ = some (.slice y.va 4 y.vc) ∧ (z2.setCell ⟨ob, off + j * 8 + 2, none⟩ (.int .i64 t)).cell? ⟨cb, 1, none⟩ = some (.slice (some ⟨ob, off, none⟩) y.no y.oc) := ⟨(pair_cells HIw.out.box).1, by rw [← HOa.out]; exact (pair_cells HIw.out.box).2⟩
    refine rk 11 rfl (fun K hK => ?_)
    go_simp
    refine hK.out _ _ hS3 (fun hHeld4 => ?_)
    clear hK K
    (try simp only [Act.put, u1, u2, u3])
    refine wpAnyH_done (by kernel_rfl) ?_ _
    clear hS2 hS3 hHeld3 d0 f0 hji hj0 hj00 HOa HI1 HIz
    generalize z2.setCell ⟨ob, off + j * 8 + 2, none⟩ (.int .i64 t) = z3 at HIw ⊢
    obtain ⟨q0, q1⟩ := pair_cells HIw.out.box
    obtain ⟨r0, r1⟩ := pair_cells HIw.out.res
    obtain ⟨f0, f1⟩ := pair_frozen HIw.out.res
    obtain ⟨HX6, HY6⟩ := HIw.out.out
    go_wp2
    generalize (z3.setCell ⟨w.heap.size, 0, none⟩ (.slice y.va 4 y.vc)).setCell ⟨w.heap.size, 1, none⟩ (.slice y.oa y.no y.oc) = wf at HX6 HY6 ⊢
    obtain ⟨p0, p1⟩ := pair_cells HX6.out
    exact bodyPost_ret (v := .agg #[.slice y.va 4 y.vc, .slice y.oa y.no y.oc]) (by simp [results, Tryz.results18, go_sem, p0, p1]) rfl HY6.out
   ·have hxi : ¬ ((0 : Int) < (y.no : Int)) := by omega
    clear hx0
    obtain ⟨q0, q1⟩ := pair_cells HI4.out.box
    obtain ⟨r0, r1⟩ := pair_cells HI4.out.res
    obtain ⟨f0, f1⟩ := pair_frozen HI4.out.res
    obtain ⟨HX6, HY6⟩ := HI4.out.out
    go_wp2
    generalize (w4.setCell ⟨w.heap.size, 0, none⟩ (.slice y.va 4 y.vc)).setCell ⟨w.heap.size, 1, none⟩ (.slice y.oa y.no y.oc) = wf at HX6 HY6 ⊢
    obtain ⟨p0, p1⟩ := pair_cells HX6.out
    exact bodyPost_ret (v := .agg #[.slice y.va 4 y.vc, .slice y.oa y.no y.oc]) (by simp [results, Tryz.results18, go_sem, p0, p1]) rfl HY6.out
  have e38 : ((s : Int) == 38) = false := by rw [beq_eq_false_iff_ne]; omega
  by_cases h39 : s = 39
  ·subst h39
   clear e38 h38
   obtain ⟨va, hve⟩ : ∃ va, y.va = va := ⟨_, rfl⟩
   have HVa := Lib.hid hve
   clear hve
   obtain ⟨q0, q1⟩ := pair_cells HI4.out.box
   rw [HVa.out] at q0
   go_upto_region 9 with fail
   have hS : w4.drew.cell? ⟨cb, 0, none⟩ = some (.slice va 4 y.vc) ∧ w4.drew.cell? ⟨cb, 1, none⟩ = some (.slice y.oa y.no y.oc) := ⟨q0, q1⟩
   go_wp2_with fail
   refine wp_region_held_drew (S := fun w' => w'.cell? ⟨cb, 0, none⟩ = some (.slice va 4 y.vc) ∧ w'.cell? ⟨cb, 1, none⟩ = some (.slice y.oa y.no y.oc)) (by kernel_rfl) hS (fun hHeld => ?_)
   refine tj 0 ?_
   refine tj 1 ?_
   refine tj 2 ?_
   refine rk 3 rfl (fun K hK => ?_)
   go_simp
   go_at_call 40
   refine (rdOff w4.drew B g a len cap (HI4.out.rd.kept (w' := w4.drew) fun _ _ => rfl) 0 5 (by omega) (by omega) (by omega)).mono ?_
   rintro e z2 ⟨t, rfl, hg1, hr1⟩
   have hg1' : w4.grownBy z2 (some g) := ⟨hg1.os, hg1.tape, hg1.output, hg1.size, hg1.block⟩
   have HIz := Lib.hid (HI4.out.step hg1' hr1)
   have hS2 : z2.cell? ⟨cb, 0, none⟩ = some (.slice va 4 y.vc) ∧ z2.cell? ⟨cb, 1, none⟩ = some (.slice y.oa y.no y.oc) := ⟨by rw [← HVa.out]; exact (pair_cells HIz.out.box).1, (pair_cells HIz.out.box).2⟩
   clear hg1 hr1 hg1'
   refine hK.out _ _ hS2 (fun hHeld2 => ?_)
   clear hK K
   (try simp only [Act.put, u1, u2, u3])
   obtain ⟨vb, u, hva, ho1, ho2, ⟨ocs, hob⟩, d0, f0, hcw⟩ := HIz.out.crt.vec t
   have HIw := Lib.hid (HIz.out.cell1 hob (by decide) (by omega) hcw)
   have hva2 : va = some ⟨vb, 0, none⟩ := HVa.out.symm.trans hva
   subst hva2
   clear hcw hob hS hva q0 q1 hHeld
   refine tj 4 ?_
   have hS3 : (z2.setCell ⟨vb, 0, none⟩ (.int .i64 t)).cell? ⟨cb, 0, none⟩ = some (.slice (some ⟨vb, 0, none⟩) 4 y.vc) ∧ (z2.setCell ⟨vb, 0, none⟩ (.int .i64 t)).cell? ⟨cb, 1, none⟩ = some (.slice y.oa y.no y.oc) := ⟨by rw [← HVa.out]; exact (pair_cells HIw.out.box).1, (pair_cells HIw.out.box).2⟩
   refine rk 5 rfl (fun K hK => ?_)
   go_simp
   refine hK.out _ _ hS3 (fun hHeld4 => ?_)
   clear hK K
   (try simp only [Act.put, u1, u2, u3])
   refine wpAnyH_done (by kernel_rfl) ?_ _
   clear hS2 hS3 hHeld2 d0 f0 HVa HIz
   generalize z2.setCell ⟨vb, 0, none⟩ (.int .i64 t) = z3 at HIw ⊢
   obtain ⟨q0, q1⟩ := pair_cells HIw.out.box
   obtain ⟨r0, r1⟩ := pair_cells HIw.out.res
   obtain ⟨f0, f1⟩ := pair_frozen HIw.out.res
   obtain ⟨HX6, HY6⟩ := HIw.out.out
   go_wp2
   generalize (z3.setCell ⟨w.heap.size, 0, none⟩ (.slice y.va 4 y.vc)).setCell ⟨w.heap.size, 1, none⟩ (.slice y.oa y.no y.oc) = wf at HX6 HY6 ⊢
   obtain ⟨p0, p1⟩ := pair_cells HX6.out
   exact bodyPost_ret (v := .agg #[.slice y.va 4 y.vc, .slice y.oa y.no y.oc]) (by simp [results, Tryz.results18, go_sem, p0, p1]) rfl HY6.out
  have e39 : ((s : Int) == 39) = false := by rw [beq_eq_false_iff_ne]; omega
  clear h38 h39
  obtain ⟨q0, q1⟩ := pair_cells HI4.out.box
  obtain ⟨r0, r1⟩ := pair_cells HI4.out.res
  obtain ⟨f0, f1⟩ := pair_frozen HI4.out.res
  obtain ⟨HX6, HY6⟩ := HI4.out.out
  go_wp2
  generalize (w4.setCell ⟨w.heap.size, 0, none⟩ (.slice y.va 4 y.vc)).setCell ⟨w.heap.size, 1, none⟩ (.slice y.oa y.no y.oc) = wf at HX6 HY6 ⊢
  obtain ⟨p0, p1⟩ := pair_cells HX6.out
  exact bodyPost_ret (v := .agg #[.slice y.va 4 y.vc, .slice y.oa y.no y.oc]) (by simp [results, Tryz.results18, go_sem, p0, p1]) rfl HY6.out
 have hxe : ((x.no : Int) == 0) = false := by rw [beq_eq_false_iff_ne]; omega
 go_wp2_with fail
 refine (once w2 B g a len cap HI2.out.rd 3 (by omega) (by omega)).mono ?_
 rintro e wo ⟨o1, rfl, hgo, hro⟩
 have HIo := Lib.hid (HI2.out.step hgo hro)
 clear hgo hro HI2 q0 q1
 obtain ⟨q0, q1⟩ := pair_cells HIo.out.box
 cases o1
 rotate_left
 ·skip
  go_wp2_with fail
  refine (rdCartsI wo B g a len cap HIo.out.rd 1 10 (by omega) (by omega) (by omega) 1 10 rfl rfl).mono ?_
  rintro e w3 ⟨q, c, l, rfl, hl3⟩
  have hs3 := hl3.grown.size
  have hwz := HIo.out.grown.size
  have hn3 := hl3.num
  have c0 : w3.cell? ⟨q, 0, none⟩ = some (.slice (cAt l 0).va 4 (cAt l 0).vc) := (hl3.cell 0 (by omega)).1
  have c1 : w3.cell? ⟨q, 1, none⟩ = some (.slice (cAt l 0).oa (cAt l 0).no (cAt l 0).oc) := (hl3.cell 0 (by omega)).2
  have HY := Lib.hid ((CrtC.weak (hl3.row.crt 0 (by omega))).more (lo' := w.heap.size + 1) (hi' := w3.heap.size) (by have := (Array.getElem?_eq_some_iff.1 HIo.out.res).1; omega) (Nat.le_refl _))
  have HI3 := Lib.hid (HIo.out.step hl3.grown hl3.rd)
  clear hl3 hn3 HIo q0 q1
  generalize cAt l 0 = y at c0 c1 HY
  obtain ⟨q0, q1⟩ := pair_cells HI3.out.box
  obtain ⟨g0, g1⟩ := pair_frozen HI3.out.box
  have HIy := Lib.hid (HI3.out.turn y HY.out)
  go_upto_region 4 with fail
  clear q0 q1 g0 g1 c0 c1 HI3 HY
  generalize (w3.setCell ⟨cb, 0, none⟩ (.slice y.va 4 y.vc)).setCell ⟨cb, 1, none⟩ (.slice y.oa y.no y.oc) = wy at HIy ⊢
  clear hs3 hwz
  go_wp2_with fail
  refine (belowI wy B g a len cap HIy.out.rd 40 (by omega) (by omega)).mono ?_
  rintro e w4 ⟨s, hs, rfl, hg4, hr4⟩
  have HI4 := Lib.hid (HIy.out.step hg4 hr4)
  clear hg4 hr4 HIy hs
  have hxm := HI4.out.crt.len
  by_cases h38 : s = 38
  ·subst h38
   by_cases hx0 : 0 < y.no
   ·have hxi : (0 : Int) < (y.no : Int) := by omega
    obtain ⟨oa, hoe⟩ : ∃ oa, y.oa = oa := ⟨_, rfl⟩
    have HOa := Lib.hid hoe
    clear hoe
    obtain ⟨q0, q1⟩ := pair_cells HI4.out.box
    have hoc := HI4.out.crt.caps
    rw [HOa.out] at q1
    go_upto_region 7 with fail
    have hS : w4.drew.cell? ⟨cb, 0, none⟩ = some (.slice y.va 4 y.vc) ∧ w4.drew.cell? ⟨cb, 1, none⟩ = some (.slice oa y.no y.oc) := ⟨q0, q1⟩
    go_wp2_with fail
    refine wp_region_held_drew (S := fun w' => w'.cell? ⟨cb, 0, none⟩ = some (.slice y.va 4 y.vc) ∧ w'.cell? ⟨cb, 1, none⟩ = some (.slice oa y.no y.oc)) (by kernel_rfl) hS (fun hHeld => ?_)
    refine tj 0 ?_
    refine tj 1 ?_
    refine tj 2 ?_
    refine tj 3 ?_
    refine tj 4 ?_
    refine tj 5 ?_
    refine tj 7 ?_
    refine rk 6 rfl (fun K hK => ?_)
    go_simp
    go_at_call 39
    refine (below w4.drew B g a len cap (HI4.out.rd.kept (w' := w4.drew) fun _ _ => rfl) y.no hx0 (by omega)).mono ?_
    rintro e z1 ⟨j, hj, rfl, hg1, hr1⟩
    have hg1' : w4.grownBy z1 (some g) := ⟨hg1.os, hg1.tape, hg1.output, hg1.size, hg1.block⟩
    have HI1 := Lib.hid (HI4.out.step hg1' hr1)
    have hS1 : z1.cell? ⟨cb, 0, none⟩ = some (.slice y.va 4 y.vc) ∧ z1.cell? ⟨cb, 1, none⟩ = some (.slice oa y.no y.oc) := ⟨(pair_cells HI1.out.box).1, by rw [← HOa.out]; exact (pair_cells HI1.out.box).2⟩
    clear hg1 hr1 hg1'
    refine hK.out _ _ hS1 (fun hHeld2 => ?_)
    clear hK K
    (try simp only [Act.put, u1, u2, u3])
    refine rk 8 rfl (fun K hK => ?_)
    go_simp
    go_at_call 40
    refine (rdOff z1 B g a len cap HI1.out.rd 1 9 (by omega) (by omega) (by omega)).mono ?_
    rintro e z2 ⟨t, rfl, hg2, hr2⟩
    have HIz := Lib.hid (HI1.out.step hg2 hr2)
    have hS2 : z2.cell? ⟨cb, 0, none⟩ = some (.slice y.va 4 y.vc) ∧ z2.cell? ⟨cb, 1, none⟩ = some (.slice oa y.no y.oc) := ⟨(pair_cells HIz.out.box).1, by rw [← HOa.out]; exact (pair_cells HIz.out.box).2⟩
    clear hg2 hr2
    refine hK.out _ _ hS2 (fun hHeld3 => ?_)
    clear hK K
    (try simp only [Act.put, u1, u2, u3])
    have hji : (j : Int) < (y.no : Int) := by omega
    have hj0 : decide ((j : Int) < 0) = false := decide_eq_false (by omega)
    have hj00 : ¬ ((j : Int) < 0) := by omega
    obtain ⟨ob, off, u, hoa, ho1, ho2, ⟨ocs, hob⟩, d0, f0, hcw⟩ := HIz.out.crt.stamp hj t
    have HIw := Lib.hid (HIz.out.cell1 hob (by decide) (by omega) hcw)
    have hoa2 : oa = some ⟨ob, off, none⟩ := HOa.out.symm.trans hoa
    subst hoa2
    clear hcw hob hS hS1 hoa q0 q1 hHeld hHeld2
    refine tj 9 ?_
    refine tj 10 ?_
    have hS3 : (z2.setCell ⟨ob, off + j * 8 + 2, none⟩ (.int .i64 t)).cell? ⟨cb, 0, none⟩ = some (.slice y.va 4 y.vc) ∧ (z2.setCell ⟨ob, off + j * 8 + 2, none⟩ (.int .i64 t)).cell? ⟨cb, 1, none⟩ = some (.slice (some ⟨ob, off, none⟩) y.no y.oc) := ⟨(pair_cells HIw.out.box).1, by rw [← HOa.out]; exact (pair_cells HIw.out.box).2⟩
    refine rk 11 rfl (fun K hK => ?_)
    go_simp
    refine hK.out _ _ hS3 (fun hHeld4 => ?_)
    clear hK K
    (try simp only [Act.put, u1, u2, u3])
    refine wpAnyH_done (by kernel_rfl) ?_ _
    clear hS2 hS3 hHeld3 d0 f0 hji hj0 hj00 HOa HI1 HIz
    generalize z2.setCell ⟨ob, off + j * 8 + 2, none⟩ (.int .i64 t) = z3 at HIw ⊢
    obtain ⟨q0, q1⟩ := pair_cells HIw.out.box
    obtain ⟨r0, r1⟩ := pair_cells HIw.out.res
    obtain ⟨f0, f1⟩ := pair_frozen HIw.out.res
    obtain ⟨HX6, HY6⟩ := HIw.out.out
    go_wp2
    generalize (z3.setCell ⟨w.heap.size, 0, none⟩ (.slice y.va 4 y.vc)).setCell ⟨w.heap.size, 1, none⟩ (.slice y.oa y.no y.oc) = wf at HX6 HY6 ⊢
    obtain ⟨p0, p1⟩ := pair_cells HX6.out
    exact bodyPost_ret (v := .agg #[.slice y.va 4 y.vc, .slice y.oa y.no y.oc]) (by simp [results, Tryz.results18, go_sem, p0, p1]) rfl HY6.out
   ·have hxi : ¬ ((0 : Int) < (y.no : Int)) := by omega
    clear hx0
    obtain ⟨q0, q1⟩ := pair_cells HI4.out.box
    obtain ⟨r0, r1⟩ := pair_cells HI4.out.res
    obtain ⟨f0, f1⟩ := pair_frozen HI4.out.res
    obtain ⟨HX6, HY6⟩ := HI4.out.out
    go_wp2
    generalize (w4.setCell ⟨w.heap.size, 0, none⟩ (.slice y.va 4 y.vc)).setCell ⟨w.heap.size, 1, none⟩ (.slice y.oa y.no y.oc) = wf at HX6 HY6 ⊢
    obtain ⟨p0, p1⟩ := pair_cells HX6.out
    exact bodyPost_ret (v := .agg #[.slice y.va 4 y.vc, .slice y.oa y.no y.oc]) (by simp [results, Tryz.results18, go_sem, p0, p1]) rfl HY6.out
  have e38 : ((s : Int) == 38) = false := by rw [beq_eq_false_iff_ne]; omega
  by_cases h39 : s = 39
  ·subst h39
   clear e38 h38
   obtain ⟨va, hve⟩ : ∃ va, y.va = va := ⟨_, rfl⟩
   have HVa := Lib.hid hve
   clear hve
   obtain ⟨q0, q1⟩ := pair_cells HI4.out.box
   rw [HVa.out] at q0
   go_upto_region 9 with fail
   have hS : w4.drew.cell? ⟨cb, 0, none⟩ = some (.slice va 4 y.vc) ∧ w4.drew.cell? ⟨cb, 1, none⟩ = some (.slice y.oa y.no y.oc) := ⟨q0, q1⟩
   go_wp2_with fail
   refine wp_region_held_drew (S := fun w' => w'.cell? ⟨cb, 0, none⟩ = some (.slice va 4 y.vc) ∧ w'.cell? ⟨cb, 1, none⟩ = some (.slice y.oa y.no y.oc)) (by kernel_rfl) hS (fun hHeld => ?_)
   refine tj 0 ?_
   refine tj 1 ?_
   refine tj 2 ?_
   refine rk 3 rfl (fun K hK => ?_)
   go_simp
   go_at_call 40
   refine (rdOff w4.drew B g a len cap (HI4.out.rd.kept (w' := w4.drew) fun _ _ => rfl) 0 5 (by omega) (by omega) (by omega)).mono ?_
   rintro e z2 ⟨t, rfl, hg1, hr1⟩
   have hg1' : w4.grownBy z2 (some g) := ⟨hg1.os, hg1.tape, hg1.output, hg1.size, hg1.block⟩
   have HIz := Lib.hid (HI4.out.step hg1' hr1)
   have hS2 : z2.cell? ⟨cb, 0, none⟩ = some (.slice va 4 y.vc) ∧ z2.cell? ⟨cb, 1, none⟩ = some (.slice y.oa y.no y.oc) := ⟨by rw [← HVa.out]; exact (pair_cells HIz.out.box).1, (pair_cells HIz.out.box).2⟩
   clear hg1 hr1 hg1'
   refine hK.out _ _ hS2 (fun hHeld2 => ?_)
   clear hK K
   (try simp only [Act.put, u1, u2, u3])
   obtain ⟨vb, u, hva, ho1, ho2, ⟨ocs, hob⟩, d0, f0, hcw⟩ := HIz.out.crt.vec t
   have HIw := Lib.hid (HIz.out.cell1 hob (by decide) (by omega) hcw)
   have hva2 : va = some ⟨vb, 0, none⟩ := HVa.out.symm.trans hva
   subst hva2
   clear hcw hob hS hva q0 q1 hHeld
   refine tj 4 ?_
   have hS3 : (z2.setCell ⟨vb, 0, none⟩ (.int .i64 t)).cell? ⟨cb, 0, none⟩ = some (.slice (some ⟨vb, 0, none⟩) 4 y.vc) ∧ (z2.setCell ⟨vb, 0, none⟩ (.int .i64 t)).cell? ⟨cb, 1, none⟩ = some (.slice y.oa y.no y.oc) := ⟨by rw [← HVa.out]; exact (pair_cells HIw.out.box).1, (pair_cells HIw.out.box).2⟩
   refine rk 5 rfl (fun K hK => ?_)
   go_simp
   refine hK.out _ _ hS3 (fun hHeld4 => ?_)
   clear hK K
   (try simp only [Act.put, u1, u2, u3])
   refine wpAnyH_done (by kernel_rfl) ?_ _
   clear hS2 hS3 hHeld2 d0 f0 HVa HIz
   generalize z2.setCell ⟨vb, 0, none⟩ (.int .i64 t) = z3 at HIw ⊢
   obtain ⟨q0, q1⟩ := pair_cells HIw.out.box
   obtain ⟨r0, r1⟩ := pair_cells HIw.out.res
   obtain ⟨f0, f1⟩ := pair_frozen HIw.out.res
   obtain ⟨HX6, HY6⟩ := HIw.out.out
   go_wp2
   generalize (z3.setCell ⟨w.heap.size, 0, none⟩ (.slice y.va 4 y.vc)).setCell ⟨w.heap.size, 1, none⟩ (.slice y.oa y.no y.oc) = wf at HX6 HY6 ⊢
   obtain ⟨p0, p1⟩ := pair_cells HX6.out
   exact bodyPost_ret (v := .agg #[.slice y.va 4 y.vc, .slice y.oa y.no y.oc]) (by simp [results, Tryz.results18, go_sem, p0, p1]) rfl HY6.out
  have e39 : ((s : Int) == 39) = false := by rw [beq_eq_false_iff_ne]; omega
  clear h38 h39
  obtain ⟨q0, q1⟩ := pair_cells HI4.out.box
  obtain ⟨r0, r1⟩ := pair_cells HI4.out.res
  obtain ⟨f0, f1⟩ := pair_frozen HI4.out.res
  obtain ⟨HX6, HY6⟩ := HI4.out.out
  go_wp2
  generalize (w4.setCell ⟨w.heap.size, 0, none⟩ (.slice y.va 4 y.vc)).setCell ⟨w.heap.size, 1, none⟩ (.slice y.oa y.no y.oc) = wf at HX6 HY6 ⊢
  obtain ⟨p0, p1⟩ := pair_cells HX6.out
  exact bodyPost_ret (v := .agg #[.slice y.va 4 y.vc, .slice y.oa y.no y.oc]) (by simp [results, Tryz.results18, go_sem, p0, p1]) rfl HY6.out
 go_upto_region 4 with fail
 clear q0 q1 hxe
 go_wp2_with fail
 refine (belowI wo B g a len cap HIo.out.rd 40 (by omega) (by omega)).mono ?_
 rintro e w4 ⟨s, hs, rfl, hg4, hr4⟩
 have HI4 := Lib.hid (HIo.out.step hg4 hr4)
 clear hg4 hr4 HIo hs
 have hxm := HI4.out.crt.len
 by_cases h38 : s = 38
 ·subst h38
  by_cases hx0 : 0 < x.no
  ·have hxi : (0 : Int) < (x.no : Int) := by omega
   obtain ⟨oa, hoe⟩ : ∃ oa, x.oa = oa := ⟨_, rfl⟩
   have HOa := Lib.hid hoe
   clear hoe
   obtain ⟨q0, q1⟩ := pair_cells HI4.out.box
   have hoc := HI4.out.crt.caps
   rw [HOa.out] at q1
   go_upto_region 7 with fail
   have hS : w4.drew.cell? ⟨cb, 0, none⟩ = some (.slice x.va 4 x.vc) ∧ w4.drew.cell? ⟨cb, 1, none⟩ = some (.slice oa x.no x.oc) := ⟨q0, q1⟩
   go_wp2_with fail
   refine wp_region_held_drew (S := fun w' => w'.cell? ⟨cb, 0, none⟩ = some (.slice x.va 4 x.vc) ∧ w'.cell? ⟨cb, 1, none⟩ = some (.slice oa x.no x.oc)) (by kernel_rfl) hS (fun hHeld => ?_)
   refine tj 0 ?_
   refine tj 1 ?_
   refine tj 2 ?_
   refine tj 3 ?_
   refine tj 4 ?_
   refine tj 5 ?_
   refine tj 7 ?_
   refine rk 6 rfl (fun K hK => ?_)
   go_simp
   go_at_call 39
   refine (below w4.drew B g a len cap (HI4.out.rd.kept (w' := w4.drew) fun _ _ => rfl) x.no hx0 (by omega)).mono ?_
   rintro e z1 ⟨j, hj, rfl, hg1, hr1⟩
   have hg1' : w4.grownBy z1 (some g) := ⟨hg1.os, hg1.tape, hg1.output, hg1.size, hg1.block⟩
   have HI1 := Lib.hid (HI4.out.step hg1' hr1)
   have hS1 : z1.cell? ⟨cb, 0, none⟩ = some (.slice x.va 4 x.vc) ∧ z1.cell? ⟨cb, 1, none⟩ = some (.slice oa x.no x.oc) := ⟨(pair_cells HI1.out.box).1, by rw [← HOa.out]; exact (pair_cells HI1.out.box).2⟩
   clear hg1 hr1 hg1'
   refine hK.out _ _ hS1 (fun hHeld2 => ?_)
   clear hK K
   (try simp only [Act.put, u1, u2, u3])
   refine rk 8 rfl (fun K hK => ?_)
   go_simp
   go_at_call 40
   refine (rdOff z1 B g a len cap HI1.out.rd 1 9 (by omega) (by omega) (by omega)).mono ?_
   rintro e z2 ⟨t, rfl, hg2, hr2⟩
   have HIz := Lib.hid (HI1.out.step hg2 hr2)
   have hS2 : z2.cell? ⟨cb, 0, none⟩ = some (.slice x.va 4 x.vc) ∧ z2.cell? ⟨cb, 1, none⟩ = some (.slice oa x.no x.oc) := ⟨(pair_cells HIz.out.box).1, by rw [← HOa.out]; exact (pair_cells HIz.out.box).2⟩
   clear hg2 hr2
   refine hK.out _ _ hS2 (fun hHeld3 => ?_)
   clear hK K
   (try simp only [Act.put, u1, u2, u3])
   have hji : (j : Int) < (x.no : Int) := by omega
   have hj0 : decide ((j : Int) < 0) = false := decide_eq_false (by omega)
   have hj00 : ¬ ((j : Int) < 0) := by omega
   obtain ⟨ob, off, u, hoa, ho1, ho2, ⟨ocs, hob⟩, d0, f0, hcw⟩ := HIz.out.crt.stamp hj t
   have HIw := Lib.hid (HIz.out.cell1 hob (by decide) (by omega) hcw)
   have hoa2 : oa = some ⟨ob, off, none⟩ := HOa.out.symm.trans hoa
   subst hoa2
   clear hcw hob hS hS1 hoa q0 q1 hHeld hHeld2
   refine tj 9 ?_
   refine tj 10 ?_
   have hS3 : (z2.setCell ⟨ob, off + j * 8 + 2, none⟩ (.int .i64 t)).cell? ⟨cb, 0, none⟩ = some (.slice x.va 4 x.vc) ∧ (z2.setCell ⟨ob, off + j * 8 + 2, none⟩ (.int .i64 t)).cell? ⟨cb, 1, none⟩ = some (.slice (some ⟨ob, off, none⟩) x.no x.oc) := ⟨(pair_cells HIw.out.box).1, by rw [← HOa.out]; exact (pair_cells HIw.out.box).2⟩
   refine rk 11 rfl (fun K hK => ?_)
   go_simp
   refine hK.out _ _ hS3 (fun hHeld4 => ?_)
   clear hK K
   (try simp only [Act.put, u1, u2, u3])
   refine wpAnyH_done (by kernel_rfl) ?_ _
   clear hS2 hS3 hHeld3 d0 f0 hji hj0 hj00 HOa HI1 HIz
   generalize z2.setCell ⟨ob, off + j * 8 + 2, none⟩ (.int .i64 t) = z3 at HIw ⊢
   obtain ⟨q0, q1⟩ := pair_cells HIw.out.box
   obtain ⟨r0, r1⟩ := pair_cells HIw.out.res
   obtain ⟨f0, f1⟩ := pair_frozen HIw.out.res
   obtain ⟨HX6, HY6⟩ := HIw.out.out
   go_wp2
   generalize (z3.setCell ⟨w.heap.size, 0, none⟩ (.slice x.va 4 x.vc)).setCell ⟨w.heap.size, 1, none⟩ (.slice x.oa x.no x.oc) = wf at HX6 HY6 ⊢
   obtain ⟨p0, p1⟩ := pair_cells HX6.out
   exact bodyPost_ret (v := .agg #[.slice x.va 4 x.vc, .slice x.oa x.no x.oc]) (by simp [results, Tryz.results18, go_sem, p0, p1]) rfl HY6.out
  ·omega
 have e38 : ((s : Int) == 38) = false := by rw [beq_eq_false_iff_ne]; omega
 by_cases h39 : s = 39
 ·subst h39
  clear e38 h38
  obtain ⟨va, hve⟩ : ∃ va, x.va = va := ⟨_, rfl⟩
  have HVa := Lib.hid hve
  clear hve
  obtain ⟨q0, q1⟩ := pair_cells HI4.out.box
  rw [HVa.out] at q0
  go_upto_region 9 with fail
  have hS : w4.drew.cell? ⟨cb, 0, none⟩ = some (.slice va 4 x.vc) ∧ w4.drew.cell? ⟨cb, 1, none⟩ = some (.slice x.oa x.no x.oc) := ⟨q0, q1⟩
  go_wp2_with fail
  refine wp_region_held_drew (S := fun w' => w'.cell? ⟨cb, 0, none⟩ = some (.slice va 4 x.vc) ∧ w'.cell? ⟨cb, 1, none⟩ = some (.slice x.oa x.no x.oc)) (by kernel_rfl) hS (fun hHeld => ?_)
  refine tj 0 ?_
  refine tj 1 ?_
  refine tj 2 ?_
  refine rk 3 rfl (fun K hK => ?_)
  go_simp
  go_at_call 40
  refine (rdOff w4.drew B g a len cap (HI4.out.rd.kept (w' := w4.drew) fun _ _ => rfl) 0 5 (by omega) (by omega) (by omega)).mono ?_
  rintro e z2 ⟨t, rfl, hg1, hr1⟩
  have hg1' : w4.grownBy z2 (some g) := ⟨hg1.os, hg1.tape, hg1.output, hg1.size, hg1.block⟩
  have HIz := Lib.hid (HI4.out.step hg1' hr1)
  have hS2 : z2.cell? ⟨cb, 0, none⟩ = some (.slice va 4 x.vc) ∧ z2.cell? ⟨cb, 1, none⟩ = some (.slice x.oa x.no x.oc) := ⟨by rw [← HVa.out]; exact (pair_cells HIz.out.box).1, (pair_cells HIz.out.box).2⟩
  clear hg1 hr1 hg1'
  refine hK.out _ _ hS2 (fun hHeld2 => ?_)
  clear hK K
  (try simp only [Act.put, u1, u2, u3])
  obtain ⟨vb, u, hva, ho1, ho2, ⟨ocs, hob⟩, d0, f0, hcw⟩ := HIz.out.crt.vec t
  have HIw := Lib.hid (HIz.out.cell1 hob (by decide) (by omega) hcw)
  have hva2 : va = some ⟨vb, 0, none⟩ := HVa.out.symm.trans hva
  subst hva2
  clear hcw hob hS hva q0 q1 hHeld
  refine tj 4 ?_
  have hS3 : (z2.setCell ⟨vb, 0, none⟩ (.int .i64 t)).cell? ⟨cb, 0, none⟩ = some (.slice (some ⟨vb, 0, none⟩) 4 x.vc) ∧ (z2.setCell ⟨vb, 0, none⟩ (.int .i64 t)).cell? ⟨cb, 1, none⟩ = some (.slice x.oa x.no x.oc) := ⟨by rw [← HVa.out]; exact (pair_cells HIw.out.box).1, (pair_cells HIw.out.box).2⟩
  refine rk 5 rfl (fun K hK => ?_)
  go_simp
  refine hK.out _ _ hS3 (fun hHeld4 => ?_)
  clear hK K
  (try simp only [Act.put, u1, u2, u3])
  refine wpAnyH_done (by kernel_rfl) ?_ _
  clear hS2 hS3 hHeld2 d0 f0 HVa HIz
  generalize z2.setCell ⟨vb, 0, none⟩ (.int .i64 t) = z3 at HIw ⊢
  obtain ⟨q0, q1⟩ := pair_cells HIw.out.box
  obtain ⟨r0, r1⟩ := pair_cells HIw.out.res
  obtain ⟨f0, f1⟩ := pair_frozen HIw.out.res
  obtain ⟨HX6, HY6⟩ := HIw.out.out
  go_wp2
  generalize (z3.setCell ⟨w.heap.size, 0, none⟩ (.slice x.va 4 x.vc)).setCell ⟨w.heap.size, 1, none⟩ (.slice x.oa x.no x.oc) = wf at HX6 HY6 ⊢
  obtain ⟨p0, p1⟩ := pair_cells HX6.out
  exact bodyPost_ret (v := .agg #[.slice x.va 4 x.vc, .slice x.oa x.no x.oc]) (by simp [results, Tryz.results18, go_sem, p0, p1]) rfl HY6.out
 have e39 : ((s : Int) == 39) = false := by rw [beq_eq_false_iff_ne]; omega
 clear h38 h39
 obtain ⟨q0, q1⟩ := pair_cells HI4.out.box
 obtain ⟨r0, r1⟩ := pair_cells HI4.out.res
 obtain ⟨f0, f1⟩ := pair_frozen HI4.out.res
 obtain ⟨HX6, HY6⟩ := HI4.out.out
 go_wp2
 generalize (w4.setCell ⟨w.heap.size, 0, none⟩ (.slice x.va 4 x.vc)).setCell ⟨w.heap.size, 1, none⟩ (.slice x.oa x.no x.oc) = wf at HX6 HY6 ⊢
 obtain ⟨p0, p1⟩ := pair_cells HX6.out
 exact bodyPost_ret (v := .agg #[.slice x.va 4 x.vc, .slice x.oa x.no x.oc]) (by simp [results, Tryz.results18, go_sem, p0, p1]) rfl HY6.out
end Go.Proofs.YtgagchlcafdiaaaGreat
