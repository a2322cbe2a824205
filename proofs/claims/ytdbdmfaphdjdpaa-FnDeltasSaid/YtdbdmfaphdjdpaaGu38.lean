/- Walks and mathematics that several claims share, part 38. -/
import Derived.Test.YtdbdmfaphdjdpaaGu37
import Derived.Test.YtdbdmfaphdjdpaaGu26
import Derived.Test.YtdbdmfaphdjdpaaGu19
import Derived.Test.YtdbdmfaphdjdpaaGu27
import Derived.Test.YtdbdmfaphdjdpaaGu28
import Derived.Deep.Cut
import Derived.Test.YtdbdmfaphdjdpaaGuA
namespace Go.Proofs.Ytdbdmfaphdjdpaa
set_option maxRecDepth 100000
open Go.RowKit
set_option linter.unusedVariables false
set_option linter.unusedSimpArgs false

/-- A cart in memory of its own, that need not be valid and whose numbers are not bounded. -/
def Crw (w : World) (lo hi : Nat) (x : CartC) : Prop :=
 ∃ zs m, x.no = m.length ∧ Own w lo hi x.va 4 zs ∧ OwnOps w lo hi x.oa m.length m ∧ Caps x.va 4 x.vc ∧ Caps x.oa m.length x.oc ∧ (∀ i, i < m.length → (atOp m i).item.size ≤ 8) ∧ m.length ≤ 400
theorem CrtC.weak {w : World} {lo hi : Nat} {x : CartC} (h : CrtC w lo hi x) : Crw w lo hi x := by
 obtain ⟨zs, m, e, a, b, c, d, f⟩ := h
 exact ⟨zs, m, e, a, b, c, d, f.item, f.most⟩
theorem Crw.more {w : World} {lo hi lo' hi' : Nat} {x : CartC} (h : Crw w lo hi x) (h1 : lo' ≤ lo) (h2 : hi ≤ hi') : Crw w lo' hi' x := by
 obtain ⟨zs, m, e, a, b, c⟩ := h
 exact ⟨zs, m, e, a.more h1 h2, b.more h1 h2, c⟩
theorem Crw.kept {w w' : World} {lo hi : Nat} {x : CartC} (h : Crw w lo hi x) (hk : ∀ j, lo ≤ j → j < hi → w'.heap[j]? = w.heap[j]?) : Crw w' lo hi x := by
 obtain ⟨zs, m, e, a, b, c⟩ := h
 exact ⟨zs, m, e, a.kept hk, b.kept hk, c⟩
theorem Crw.other {w w' : World} {lo hi q : Nat} {x : CartC} {cs : Array Value} {fr : Nat × Nat} (h : Crw w lo hi x) (hq : w.heap[q]? = some (.cells cs 29 fr)) (hk : ∀ j, lo ≤ j → j < hi → j ≠ q → w'.heap[j]? = w.heap[j]?) : Crw w' lo hi x := by
 obtain ⟨zs, m, e, a, b, c⟩ := h
 refine ⟨zs, m, e, ⟨a.1, fun hn => ?_⟩, ⟨b.1, fun hn => ?_⟩, c⟩
 ·obtain ⟨g, cur, e1, h1, h2, hg, hc⟩ := a.2 hn
  have hne : g ≠ q := by
   intro e2
   rw [e2, hq] at hg
   injection hg with hg
   injection hg with _ hg
   exact absurd hg (by decide)
  exact ⟨g, cur, e1, h1, h2, (hk g h1 h2 hne).trans hg, hc⟩
 ·obtain ⟨g, off, cur, e1, h1, h2, hg, hs, hc⟩ := b.2 hn
  have hne : g ≠ q := by
   intro e2
   rw [e2, hq] at hg
   injection hg with hg
   injection hg with _ hg
   exact absurd hg (by decide)
  exact ⟨g, off, cur, e1, h1, h2, (hk g h1 h2 hne).trans hg, hs, hc⟩
def stampL (m : List OpV) (i : Nat) (t : Int) : List OpV := m.set i { atOp m i with stamp := t }
/-- An operation's stamp is written where it lies. -/
theorem Crw.stamp {w : World} {lo hi i : Nat} {x : CartC} (h : Crw w lo hi x) (hi' : i < x.no) (t : Int) :
  ∃ g off u, x.oa = some ⟨g, off, none⟩ ∧ lo ≤ g ∧ g < hi ∧ (∃ cs, w.heap[g]? = some (.cells cs 77 (0, 0))) ∧ w.cell? ⟨g, off + i * 8 + 2, none⟩ = some (.int .i64 u) ∧ w.frozen? ⟨g, off + i * 8 + 2, none⟩ = false ∧ Crw (w.setCell ⟨g, off + i * 8 + 2, none⟩ (.int .i64 t)) lo hi x := by
 obtain ⟨zs, m, e, a, b, c1, c2, c3, c4⟩ := h
 rw [e] at hi'
 obtain ⟨g, off, cs, e1, h1, h2, hg, hs, hc⟩ := b.2 (by omega)
 have hx := hc i hi'
 have hl : (stampL m i t).length = m.length := by unfold stampL; simp
 refine ⟨g, off, (atOp m i).stamp, e1, h1, h2, ⟨cs, hg⟩, (hx.at hg).2.2.1, frozen_of_row _ _ _ _ _ hg, zs, stampL m i t, by rw [hl]; exact e, ⟨a.1, fun hn => ?_⟩, ⟨rfl, fun hn => ⟨g, off, cs.setIfInBounds (off + i * 8 + 2) (.int .i64 t), e1, h1, h2, heap_setCell_same _ _ _ _ _ _ hg, by rw [hl]; simpa using hs, fun j hj => ?_⟩⟩, c1, by rw [hl]; exact c2, fun j hj => ?_, by rw [hl]; exact c4⟩
 ·obtain ⟨q, cur, e2, a1, a2, a3, a4⟩ := a.2 hn
  have hne : q ≠ g := by
   intro eq
   rw [eq, hg] at a3
   injection a3 with a3
   injection a3 with _ a3
   exact absurd a3 (by decide)
  exact ⟨q, cur, e2, a1, a2, (heap_setCell_other _ _ _ _ hne).trans a3, a4⟩
 ·rw [hl] at hj
  have hy := hc j hj
  unfold stampL
  rw [set_getD hi']
  by_cases e2 : i = j
  ·subst e2
   rw [if_pos rfl]
   obtain ⟨y0, y1, y2, y3, y4, y5, y6, y7⟩ := hy
   have ne : ∀ q, q ≠ 2 → (cs.setIfInBounds (off + i * 8 + 2) (.int .i64 t))[off + i * 8 + q]? = cs[off + i * 8 + q]? := fun q hq => by rw [Array.getElem?_setIfInBounds, if_neg (by omega)]
   refine ⟨(ne 0 (by omega)).trans y0, (ne 1 (by omega)).trans y1, ?_, (ne 3 (by omega)).trans y3, (ne 4 (by omega)).trans y4, (ne 5 (by omega)).trans y5, (ne 6 (by omega)).trans y6, (ne 7 (by omega)).trans y7⟩
   rw [Array.getElem?_setIfInBounds, if_pos rfl, if_pos (Array.getElem?_eq_some_iff.1 y2).1]
  ·rw [if_neg e2]
   have ne : ∀ q, q < 8 → (cs.setIfInBounds (off + i * 8 + 2) (.int .i64 t))[off + j * 8 + q]? = cs[off + j * 8 + q]? := fun q hq => by rw [Array.getElem?_setIfInBounds, if_neg (by omega)]
   obtain ⟨y0, y1, y2, y3, y4, y5, y6, y7⟩ := hy
   exact ⟨(ne 0 (by omega)).trans y0, (ne 1 (by omega)).trans y1, (ne 2 (by omega)).trans y2, (ne 3 (by omega)).trans y3, (ne 4 (by omega)).trans y4, (ne 5 (by omega)).trans y5, (ne 6 (by omega)).trans y6, (ne 7 (by omega)).trans y7⟩
 ·rw [hl] at hj
  unfold stampL atOp
  rw [set_getD hi']
  split
  ·exact c3 i hi'
  ·exact c3 j hj
/-- The vector's first number is written where it lies. -/
theorem Crw.vec {w : World} {lo hi : Nat} {x : CartC} (h : Crw w lo hi x) (t : Int) :
  ∃ g u, x.va = some ⟨g, 0, none⟩ ∧ lo ≤ g ∧ g < hi ∧ (∃ cs, w.heap[g]? = some (.cells cs 2 (0, 0))) ∧ w.cell? ⟨g, 0, none⟩ = some (.int .i64 u) ∧ w.frozen? ⟨g, 0, none⟩ = false ∧ Crw (w.setCell ⟨g, 0, none⟩ (.int .i64 t)) lo hi x := by
 obtain ⟨zs, m, e, a, b, c⟩ := h
 have hl4 := a.1
 obtain ⟨g, cur, e1, h1, h2, hg, hc⟩ := a.2 (by omega)
 have hx := hc 0 (by omega)
 refine ⟨g, zs.getD 0 0, e1, h1, h2, ⟨cur, hg⟩, (cell_of_row _ _ _ _ _ _ hg).trans hx, frozen_of_row _ _ _ _ _ hg, zs.set 0 t, m, e, ⟨by rw [List.length_set]; exact hl4, fun hn => ⟨g, cur.setIfInBounds 0 (.int .i64 t), e1, h1, h2, heap_setCell_same _ _ _ _ _ _ hg, fun i hi => ?_⟩⟩, ⟨b.1, fun hn => ?_⟩, c⟩
 ·rw [Array.getElem?_setIfInBounds, set_getD (by omega)]
  by_cases e2 : 0 = i
  ·subst e2
   rw [if_pos rfl, if_pos rfl, if_pos (Array.getElem?_eq_some_iff.1 hx).1]
  ·rw [if_neg e2, if_neg e2]
   exact hc i hi
 ·obtain ⟨q, off, cs, e2, a1, a2, a3, a4, a5⟩ := b.2 hn
  have hne : q ≠ g := by
   intro eq
   rw [eq, hg] at a3
   injection a3 with a3
   injection a3 with _ a3
   exact absurd a3 (by decide)
  exact ⟨q, off, cs, e2, a1, a2, (heap_setCell_other _ _ _ _ hne).trans a3, a4, a5⟩
/-- What the reader's cart keeps: its cart in block cb, its result's block zero so far. -/
structure CtI (w wr : World) (B g : Nat) (a : Option Addr) (len cap cb : Nat) (x : CartC) : Prop where
 box : wr.heap[cb]? = some (.cells #[.slice x.va 4 x.vc, .slice x.oa x.no x.oc] 29 (0, 0))
 res : wr.heap[w.heap.size]? = some (.cells #[.slice none 0 0, .slice none 0 0] 29 (0, 0))
 crt : Crw wr (w.heap.size + 1) wr.heap.size x
 grown : w.grownBy wr (some g)
 rd : Rd wr B g a len cap
 glt : g < w.heap.size
 clo : w.heap.size < cb
theorem CtI.step {w wr w1 : World} {B g : Nat} {a : Option Addr} {len cap cb : Nat} {x : CartC} (h : CtI w wr B g a len cap cb x) (hg : wr.grownBy w1 (some g)) (hr : Rd w1 B g a len cap) : CtI w w1 B g a len cap cb x := by
 have hgl := h.glt
 have hcl := h.clo
 have hs := hg.size
 have hk : ∀ j, j < wr.heap.size → j ≠ g → w1.heap[j]? = wr.heap[j]? := fun j h1 h2 => hg.block j h1 (by intro e; injection e with e; exact h2 e)
 exact ⟨(hk cb (Array.getElem?_eq_some_iff.1 h.box).1 (by omega)).trans h.box, (hk _ (Array.getElem?_eq_some_iff.1 h.res).1 (by omega)).trans h.res, (h.crt.kept fun j h1 h2 => hk j h2 (by omega)).more (Nat.le_refl _) hs, h.grown.trans hg, hr, hgl, hcl⟩
/-- A cell of a block behind the result's is written; the cart bears it. -/
theorem CtI.cell1 {w z : World} {B g b i : Nat} {a : Option Addr} {len cap cb : Nat} {x : CartC} {T : TypeId} {cs : Array Value} {v : Value} (h : CtI w z B g a len cap cb x) (hb : z.heap[b]? = some (.cells cs T (0, 0))) (hT : T ≠ 29) (hlo : w.heap.size < b) (hc : Crw (z.setCell ⟨b, i, none⟩ v) (w.heap.size + 1) z.heap.size x) : CtI w (z.setCell ⟨b, i, none⟩ v) B g a len cap cb x := by
 have hgl := h.glt
 have hcl := h.clo
 have hB := h.rd.own
 have hgw := h.grown
 have hz : (z.setCell ⟨b, i, none⟩ v).heap.size = z.heap.size := by simp [World.setCell]
 have hk : ∀ j, j ≠ b → (z.setCell ⟨b, i, none⟩ v).heap[j]? = z.heap[j]? := fun j hj => heap_setCell_other _ _ _ _ hj
 have hcb : cb ≠ b := by
  intro e
  have hx := h.box
  rw [e, hb] at hx
  injection hx with hx
  injection hx with _ hx
  exact hT hx
 exact ⟨(hk cb hcb).trans h.box, (hk _ (by omega)).trans h.res, by rw [hz]; exact hc, ⟨hgw.os, hgw.tape, hgw.output, by rw [hz]; exact hgw.size, fun k h1 h2 => (hk k (by omega)).trans (hgw.block k h1 h2)⟩, h.rd.kept fun k hk' => hk k (by omega), hgl, hcl⟩
/-- Another cart is laid in the block. -/
theorem CtI.turn {w z : World} {B g : Nat} {a : Option Addr} {len cap cb : Nat} {x : CartC} (h : CtI w z B g a len cap cb x) (y : CartC) (hy : Crw z (w.heap.size + 1) z.heap.size y) : CtI w ((z.setCell ⟨cb, 0, none⟩ (.slice y.va 4 y.vc)).setCell ⟨cb, 1, none⟩ (.slice y.oa y.no y.oc)) B g a len cap cb y := by
 have hgl := h.glt
 have hcl := h.clo
 have hB := h.rd.own
 have hgw := h.grown
 have hz := pair_size z cb (.slice y.va 4 y.vc) (.slice y.oa y.no y.oc)
 have hk : ∀ j, j ≠ cb → ((z.setCell ⟨cb, 0, none⟩ (.slice y.va 4 y.vc)).setCell ⟨cb, 1, none⟩ (.slice y.oa y.no y.oc)).heap[j]? = z.heap[j]? := fun j hj => pair_other _ _ hj
 exact ⟨pair_set _ _ h.box, (hk _ (by omega)).trans h.res, by rw [hz]; exact hy.other h.box fun j _ _ hne => hk j hne, ⟨hgw.os, hgw.tape, hgw.output, by rw [hz]; exact hgw.size, fun k h1 h2 => (hk k (by omega)).trans (hgw.block k h1 h2)⟩, h.rd.kept fun k hk' => hk k (by omega), hgl, hcl⟩
theorem rdCartsI (w : World) (B g : Nat) (a : Option Addr) (len cap : Nat) (h : Rd w B g a len cap) (n most : Nat) (hn : 0 < n) (hn4 : n ≤ 4) (hm : most ≤ 60) (x y : Int) (hx : x = (n : Int)) (hy : y = (most : Int)) :
  Calls Try.prog 61 #[.pointer (some ⟨g, 0, none⟩), .int .i64 x, .int .i64 y] w (YieldsCarts n w B g a len cap) := by
 subst hx hy
 exact rdCarts w B g a len cap h n most hn hn4 hm
/-- What the reader's cart answers. -/
def YieldsCart (w : World) (B g : Nat) (a : Option Addr) (len cap : Nat) (e : Ending) (w' : World) : Prop :=
 ∃ x : CartC, e = .returned (.agg #[.slice x.va 4 x.vc, .slice x.oa x.no x.oc]) ∧ Crw w' w.heap.size w'.heap.size x ∧ w.grownBy w' (some g) ∧ Rd w' B g a len cap
theorem Crw.len {w : World} {lo hi : Nat} {x : CartC} (h : Crw w lo hi x) : x.no ≤ 400 := by
 obtain ⟨zs, m, e, _, _, _, _, _, h4⟩ := h
 omega

theorem Crw.caps {w : World} {lo hi : Nat} {x : CartC} (h : Crw w lo hi x) : x.no ≤ x.oc := by
 obtain ⟨zs, m, e, _, _, _, c, _⟩ := h
 have := c.1
 omega
theorem CtI.out {w z : World} {B g : Nat} {a : Option Addr} {len cap cb : Nat} {x : CartC} (h : CtI w z B g a len cap cb x) :
  Hid (((z.setCell ⟨w.heap.size, 0, none⟩ (.slice x.va 4 x.vc)).setCell ⟨w.heap.size, 1, none⟩ (.slice x.oa x.no x.oc)).heap[w.heap.size]? = some (.cells #[.slice x.va 4 x.vc, .slice x.oa x.no x.oc] 29 (0, 0))) ∧ Hid (YieldsCart w B g a len cap (.returned (.agg #[.slice x.va 4 x.vc, .slice x.oa x.no x.oc])) ((z.setCell ⟨w.heap.size, 0, none⟩ (.slice x.va 4 x.vc)).setCell ⟨w.heap.size, 1, none⟩ (.slice x.oa x.no x.oc))) := by
 have hgl := h.glt
 have hB := h.rd.own
 have hgw := h.grown
 have hz := pair_size z w.heap.size (.slice x.va 4 x.vc) (.slice x.oa x.no x.oc)
 have hk : ∀ j, j ≠ w.heap.size → ((z.setCell ⟨w.heap.size, 0, none⟩ (.slice x.va 4 x.vc)).setCell ⟨w.heap.size, 1, none⟩ (.slice x.oa x.no x.oc)).heap[j]? = z.heap[j]? := fun j hj => pair_other _ _ hj
 exact ⟨pair_set _ _ h.res, x, rfl, ((h.crt.kept fun j h1 h2 => hk j (by omega)).more (by omega) (by rw [hz]; exact Nat.le_refl _)), ⟨hgw.os, hgw.tape, hgw.output, by rw [hz]; exact hgw.size, fun k h1 h2 => (hk k (by omega)).trans (hgw.block k h1 h2)⟩, h.rd.kept fun k hk' => hk k (by omega)⟩
set_option maxHeartbeats 80000000 in
theorem rdCart (w : World) (B g : Nat) (a : Option Addr) (len cap : Nat) (h : Rd w B g a len cap) :
  Calls Try.prog 118 #[.pointer (some ⟨g, 0, none⟩)] w (YieldsCart w B g a len cap) := by
 have hgl := h.lt
 have hBg := h.own
 have hb0 : Below w.heap.size w (w.alloc (.cells #[.slice none 0 0, .slice none 0 0] 29)) := (Below.refl _ w).alloc (Nat.le_refl _) _
 have HRd := Lib.hid (h.grown (grown_no hb0) fun k hk => by cases hk)
 have HR0 := Lib.hid (boxAt (Below.refl _ (w.alloc (.cells #[.slice none 0 0, .slice none 0 0] 29))))
 have hs0 : w.heap.size < (w.alloc (.cells #[.slice none 0 0, .slice none 0 0] 29)).heap.size := by show _ < (w.heap.push _).size; simp
 have HB0 := Lib.hid hb0
 clear h hb0
 go_enter Try.func118, Try.ntmps118
 go_wp2_with fail
 generalize w.alloc (.cells #[.slice none 0 0, .slice none 0 0] 29) = w0 at HRd HR0 HB0 hs0 ⊢
 refine (rdCartsI w0 B g a len cap HRd.out 3 16 (by omega) (by omega) (by omega) 3 16 rfl rfl).mono ?_
 rintro e w1 ⟨q, c, l, rfl, hl1⟩
 have HL1 := Lib.hid hl1
 have hs1 := hl1.grown.size
 have hl3 := hl1.num
 have c0 : w1.cell? ⟨q, 0, none⟩ = some (.slice (cAt l 0).va 4 (cAt l 0).vc) := (hl1.cell 0 (by omega)).1
 have c1 : w1.cell? ⟨q, 1, none⟩ = some (.slice (cAt l 0).oa (cAt l 0).no (cAt l 0).oc) := (hl1.cell 0 (by omega)).2
 have HX := Lib.hid (CrtC.weak (hl1.row.crt 0 (by rw [hl1.num]; omega)))
 have HR1 := Lib.hid ((hl1.grown.block w.heap.size hs0 (by intro e; injection e with e; omega)).trans HR0.out)
 have HG1 := Lib.hid ((grown_below HB0.out).trans hl1.grown)
 clear hl1 HRd HR0
 generalize cAt l 0 = x at c0 c1 HX
 go_upto_region 2 with fail
 have hal : Below w1.heap.size w1 (w1.alloc (.cells #[.slice x.va 4 x.vc, .slice x.oa x.no x.oc] 29)) := bl
 have HI2 : Hid (CtI w (w1.alloc (.cells #[.slice x.va 4 x.vc, .slice x.oa x.no x.oc] 29)) B g a len cap w1.heap.size x) := ⟨boxAt (Below.refl _ _), (hal.block _ (by omega)).trans HR1.out, ((HX.out.kept fun j _ h2 => hal.block j h2).more (by omega) hal.size), HG1.out.trans (grown_of hal), HL1.out.rd.grown (grown_no hal) (fun k hk => by cases hk), hgl, by omega⟩
 clear c0 c1 HX HR1 HG1 HL1 hl3
 generalize w1.alloc (.cells #[.slice x.va 4 x.vc, .slice x.oa x.no x.oc] 29) = w2 at HI2 ⊢
 clear hal
 generalize w1.heap.size = cb at HI2 hs1 ⊢
 have hxn := HI2.out.crt.len
 obtain ⟨q0, q1⟩ := pair_cells HI2.out.box
 clear hs1 HB0 hs0
 by_cases hx0 : x.no = 0
 ·have hxe : ((x.no : Int) == 0) = true := by rw [hx0]; rfl
  clear hx0
  go_wp2_with fail
  refine (rdCartsI w2 B g a len cap HI2.out.rd 1 10 (by omega) (by omega) (by omega) 1 10 rfl rfl).mono ?_
  rintro e w3 ⟨q, c, l, rfl, hl3⟩
  have hs3 := hl3.grown.size
  have hwz := HI2.out.grown.size
  have hn3 := hl3.num
  have c0 : w3.cell? ⟨q, 0, none⟩ = some (.slice (cAt l 0).va 4 (cAt l 0).vc) := (hl3.cell 0 (by omega)).1
  have c1 : w3.cell? ⟨q, 1, none⟩ = some (.slice (cAt l 0).oa (cAt l 0).no (cAt l 0).oc) := (hl3.cell 0 (by omega)).2
  have HY := Lib.hid ((CrtC.weak (hl3.row.crt 0 (by omega))).more (lo' := w.heap.size + 1) (hi' := w3.heap.size) (by have := (Array.getElem?_eq_some_iff.1 HI2.out.res).1; omega) (Nat.le_refl _))
  have HI3 := Lib.hid (HI2.out.step hl3.grown hl3.rd)
  clear hl3 hn3 HI2 q0 q1
  generalize cAt l 0 = y at c0 c1 HY
  obtain ⟨q0, q1⟩ := pair_cells HI3.out.box
  obtain ⟨g0, g1⟩ := pair_frozen HI3.out.box
  have HIy := Lib.hid (HI3.out.turn y HY.out)
  go_upto_region 4 with fail
  clear q0 q1 g0 g1 c0 c1 HI3 HY
  generalize (w3.setCell ⟨cb, 0, none⟩ (.slice y.va 4 y.vc)).setCell ⟨cb, 1, none⟩ (.slice y.oa y.no y.oc) = wy at HIy ⊢
  clear hs3 hwz
  go_wp2_with fail
  refine (belowI wy B g a len cap HIy.out.rd 40 (by omega) (by omega)).mono ?_
  rintro e w4 ⟨s, hs, rfl, hg4, hr4⟩
  have HI4 := Lib.hid (HIy.out.step hg4 hr4)
  clear hg4 hr4 HIy hs
  have hxm := HI4.out.crt.len
  by_cases h38 : s = 38
  ·subst h38
   by_cases hx0 : 0 < y.no
   ·have hxi : (0 : Int) < (y.no : Int) := by omega
    obtain ⟨oa, hoe⟩ : ∃ oa, y.oa = oa := ⟨_, rfl⟩
    have HOa := Lib.hid hoe
    clear hoe
    obtain ⟨q0, q1⟩ := pair_cells HI4.out.box
    have hoc := HI4.out.crt.caps
    rw [HOa.out] at q1
    go_upto_region 7 with fail
    have hS : w4.drew.cell? ⟨cb, 0, none⟩ = some (.slice y.va 4 y.vc) ∧ w4.drew.cell? ⟨cb, 1, none⟩ = some (.slice oa y.no y.oc) := ⟨q0, q1⟩
    go_wp2_with fail
    refine wp_region_held_drew (S := fun w' => w'.cell? ⟨cb, 0, none⟩ = some (.slice y.va 4 y.vc) ∧ w'.cell? ⟨cb, 1, none⟩ = some (.slice oa y.no y.oc)) (by kernel_rfl) hS (fun hHeld => ?_)
    refine tk 0 ⟨some 28, .fieldAddr 29 (.tmp 3) 1, 0, "l04_carts.go:168", #[], none⟩ ?_
    (try simp only [Act.put, u1, u2, u3])
    refine tk 1 ⟨some 29, .load 27 (.tmp 28), 27, "l04_carts.go:168", #[⟨0, .data⟩], none⟩ ?_
    (try simp only [Act.put, u1, u2, u3])
    refine tk 2 ⟨some 30, .move (.tmp 0), 84, "l04_carts.go:168", #[], none⟩ ?_
    (try simp only [Act.put, u1, u2, u3])
    refine tk 3 ⟨some 31, .fieldAddr 29 (.tmp 3) 1, 0, "l04_carts.go:168", #[], none⟩ ?_
    (try simp only [Act.put, u1, u2, u3])
    refine tk 4 ⟨some 32, .load 27 (.tmp 31), 27, "l04_carts.go:168", #[⟨3, .data⟩], none⟩ ?_
    (try simp only [Act.put, u1, u2, u3])
    refine tk 5 ⟨some 33, .call ⟨.builtin .len, #[.tmp 32], #[27]⟩, 3, "l04_carts.go:168", #[⟨4, .data⟩], none⟩ ?_
    (try simp only [Act.put, u1, u2, u3])
    refine tk 7 ⟨some 35, .move (.tmp 0), 84, "l04_carts.go:168", #[], none⟩ ?_
    (try simp only [Act.put, u1, u2, u3])
    refine rk 6 rfl (fun K hK => ?_)
    go_simp
    go_at_call 63
    refine (below w4.drew B g a len cap (HI4.out.rd.kept (w' := w4.drew) fun _ _ => rfl) y.no hx0 (by omega)).mono ?_
    rintro e z1 ⟨j, hj, rfl, hg1, hr1⟩
    have hg1' : w4.grownBy z1 (some g) := ⟨hg1.os, hg1.tape, hg1.output, hg1.size, hg1.block⟩
    have HI1 := Lib.hid (HI4.out.step hg1' hr1)
    have hS1 : z1.cell? ⟨cb, 0, none⟩ = some (.slice y.va 4 y.vc) ∧ z1.cell? ⟨cb, 1, none⟩ = some (.slice oa y.no y.oc) := ⟨(pair_cells HI1.out.box).1, by rw [← HOa.out]; exact (pair_cells HI1.out.box).2⟩
    clear hg1 hr1 hg1'
    refine hK.out _ _ hS1 (fun hHeld2 => ?_)
    clear hK K
    (try simp only [Act.put, u1, u2, u3])
    refine rk 8 rfl (fun K hK => ?_)
    go_simp
    go_at_call 75
    refine (rdOff z1 B g a len cap HI1.out.rd 1 9 (by omega) (by omega) (by omega)).mono ?_
    rintro e z2 ⟨t, rfl, hg2, hr2⟩
    have HIz := Lib.hid (HI1.out.step hg2 hr2)
    have hS2 : z2.cell? ⟨cb, 0, none⟩ = some (.slice y.va 4 y.vc) ∧ z2.cell? ⟨cb, 1, none⟩ = some (.slice oa y.no y.oc) := ⟨(pair_cells HIz.out.box).1, by rw [← HOa.out]; exact (pair_cells HIz.out.box).2⟩
    clear hg2 hr2
    refine hK.out _ _ hS2 (fun hHeld3 => ?_)
    clear hK K
    (try simp only [Act.put, u1, u2, u3])
    have hji : (j : Int) < (y.no : Int) := by omega
    have hj0 : decide ((j : Int) < 0) = false := decide_eq_false (by omega)
    have hj00 : ¬ ((j : Int) < 0) := by omega
    obtain ⟨ob, off, u, hoa, ho1, ho2, ⟨ocs, hob⟩, d0, f0, hcw⟩ := HIz.out.crt.stamp hj t
    have HIw := Lib.hid (HIz.out.cell1 hob (by decide) (by omega) hcw)
    have hoa2 : oa = some ⟨ob, off, none⟩ := HOa.out.symm.trans hoa
    subst hoa2
    clear hcw hob hS hS1 hoa q0 q1 hHeld hHeld2
    refine tk 9 ⟨some 37, .indexAddr 27 (.tmp 29) (.tmp 34), 0, "l04_carts.go:168", #[⟨1, .data⟩, ⟨6, .data⟩, ⟨0, .phase⟩, ⟨1, .phase⟩, ⟨2, .phase⟩, ⟨3, .phase⟩, ⟨4, .phase⟩, ⟨5, .phase⟩, ⟨6, .phase⟩, ⟨7, .phase⟩, ⟨8, .phase⟩], none⟩ ?_
    (try simp only [Act.put, u1, u2, u3])
    refine tk 10 ⟨some 38, .fieldAddr 77 (.tmp 37) 2, 0, "l04_carts.go:168", #[⟨9, .data⟩, ⟨0, .phase⟩, ⟨1, .phase⟩, ⟨2, .phase⟩, ⟨3, .phase⟩, ⟨4, .phase⟩, ⟨5, .phase⟩, ⟨6, .phase⟩, ⟨7, .phase⟩, ⟨8, .phase⟩], none⟩ ?_
    (try simp only [Act.put, u1, u2, u3])
    have hS3 : (z2.setCell ⟨ob, off + j * 8 + 2, none⟩ (.int .i64 t)).cell? ⟨cb, 0, none⟩ = some (.slice y.va 4 y.vc) ∧ (z2.setCell ⟨ob, off + j * 8 + 2, none⟩ (.int .i64 t)).cell? ⟨cb, 1, none⟩ = some (.slice (some ⟨ob, off, none⟩) y.no y.oc) := ⟨(pair_cells HIw.out.box).1, by rw [← HOa.out]; exact (pair_cells HIw.out.box).2⟩
    refine rk 11 rfl (fun K hK => ?_)
    go_simp
    refine hK.out _ _ hS3 (fun hHeld4 => ?_)
    clear hK K
    (try simp only [Act.put, u1, u2, u3])
    refine wpAnyH_done (by kernel_rfl) ?_ _
    clear hS2 hS3 hHeld3 d0 f0 hji hj0 hj00 HOa HI1 HIz
    generalize z2.setCell ⟨ob, off + j * 8 + 2, none⟩ (.int .i64 t) = z3 at HIw ⊢
    obtain ⟨q0, q1⟩ := pair_cells HIw.out.box
    obtain ⟨r0, r1⟩ := pair_cells HIw.out.res
    obtain ⟨f0, f1⟩ := pair_frozen HIw.out.res
    obtain ⟨HX6, HY6⟩ := HIw.out.out
    go_wp2
    generalize (z3.setCell ⟨w.heap.size, 0, none⟩ (.slice y.va 4 y.vc)).setCell ⟨w.heap.size, 1, none⟩ (.slice y.oa y.no y.oc) = wf at HX6 HY6 ⊢
    obtain ⟨p0, p1⟩ := pair_cells HX6.out
    exact bodyPost_ret (v := .agg #[.slice y.va 4 y.vc, .slice y.oa y.no y.oc]) (by simp [results, Try.results118, go_sem, p0, p1]) rfl HY6.out
   ·have hxi : ¬ ((0 : Int) < (y.no : Int)) := by omega
    clear hx0
    obtain ⟨q0, q1⟩ := pair_cells HI4.out.box
    obtain ⟨r0, r1⟩ := pair_cells HI4.out.res
    obtain ⟨f0, f1⟩ := pair_frozen HI4.out.res
    obtain ⟨HX6, HY6⟩ := HI4.out.out
    go_wp2
    generalize (w4.setCell ⟨w.heap.size, 0, none⟩ (.slice y.va 4 y.vc)).setCell ⟨w.heap.size, 1, none⟩ (.slice y.oa y.no y.oc) = wf at HX6 HY6 ⊢
    obtain ⟨p0, p1⟩ := pair_cells HX6.out
    exact bodyPost_ret (v := .agg #[.slice y.va 4 y.vc, .slice y.oa y.no y.oc]) (by simp [results, Try.results118, go_sem, p0, p1]) rfl HY6.out
  have e38 : ((s : Int) == 38) = false := by rw [beq_eq_false_iff_ne]; omega
  by_cases h39 : s = 39
  ·subst h39
   clear e38 h38
   obtain ⟨va, hve⟩ : ∃ va, y.va = va := ⟨_, rfl⟩
   have HVa := Lib.hid hve
   clear hve
   obtain ⟨q0, q1⟩ := pair_cells HI4.out.box
   rw [HVa.out] at q0
   go_upto_region 9 with fail
   have hS : w4.drew.cell? ⟨cb, 0, none⟩ = some (.slice va 4 y.vc) ∧ w4.drew.cell? ⟨cb, 1, none⟩ = some (.slice y.oa y.no y.oc) := ⟨q0, q1⟩
   go_wp2_with fail
   refine wp_region_held_drew (S := fun w' => w'.cell? ⟨cb, 0, none⟩ = some (.slice va 4 y.vc) ∧ w'.cell? ⟨cb, 1, none⟩ = some (.slice y.oa y.no y.oc)) (by kernel_rfl) hS (fun hHeld => ?_)
   refine tk 0 ⟨some 41, .fieldAddr 29 (.tmp 3) 0, 0, "l04_carts.go:171", #[], none⟩ ?_
   (try simp only [Act.put, u1, u2, u3])
   refine tk 1 ⟨some 42, .load 22 (.tmp 41), 22, "l04_carts.go:171", #[⟨0, .data⟩], none⟩ ?_
   (try simp only [Act.put, u1, u2, u3])
   refine tk 2 ⟨some 43, .move (.tmp 0), 84, "l04_carts.go:171", #[], none⟩ ?_
   (try simp only [Act.put, u1, u2, u3])
   refine rk 3 rfl (fun K hK => ?_)
   go_simp
   go_at_call 75
   refine (rdOff w4.drew B g a len cap (HI4.out.rd.kept (w' := w4.drew) fun _ _ => rfl) 0 5 (by omega) (by omega) (by omega)).mono ?_
   rintro e z2 ⟨t, rfl, hg1, hr1⟩
   have hg1' : w4.grownBy z2 (some g) := ⟨hg1.os, hg1.tape, hg1.output, hg1.size, hg1.block⟩
   have HIz := Lib.hid (HI4.out.step hg1' hr1)
   have hS2 : z2.cell? ⟨cb, 0, none⟩ = some (.slice va 4 y.vc) ∧ z2.cell? ⟨cb, 1, none⟩ = some (.slice y.oa y.no y.oc) := ⟨by rw [← HVa.out]; exact (pair_cells HIz.out.box).1, (pair_cells HIz.out.box).2⟩
   clear hg1 hr1 hg1'
   refine hK.out _ _ hS2 (fun hHeld2 => ?_)
   clear hK K
   (try simp only [Act.put, u1, u2, u3])
   obtain ⟨vb, u, hva, ho1, ho2, ⟨ocs, hob⟩, d0, f0, hcw⟩ := HIz.out.crt.vec t
   have HIw := Lib.hid (HIz.out.cell1 hob (by decide) (by omega) hcw)
   have hva2 : va = some ⟨vb, 0, none⟩ := HVa.out.symm.trans hva
   subst hva2
   clear hcw hob hS hva q0 q1 hHeld
   refine tk 4 ⟨some 45, .indexAddr 22 (.tmp 42) (.const (Value.int IntKind.i64 0)), 0, "l04_carts.go:171", #[⟨1, .data⟩, ⟨0, .phase⟩, ⟨1, .phase⟩, ⟨2, .phase⟩, ⟨3, .phase⟩], none⟩ ?_
   (try simp only [Act.put, u1, u2, u3])
   have hS3 : (z2.setCell ⟨vb, 0, none⟩ (.int .i64 t)).cell? ⟨cb, 0, none⟩ = some (.slice (some ⟨vb, 0, none⟩) 4 y.vc) ∧ (z2.setCell ⟨vb, 0, none⟩ (.int .i64 t)).cell? ⟨cb, 1, none⟩ = some (.slice y.oa y.no y.oc) := ⟨by rw [← HVa.out]; exact (pair_cells HIw.out.box).1, (pair_cells HIw.out.box).2⟩
   refine rk 5 rfl (fun K hK => ?_)
   go_simp
   refine hK.out _ _ hS3 (fun hHeld4 => ?_)
   clear hK K
   (try simp only [Act.put, u1, u2, u3])
   refine wpAnyH_done (by kernel_rfl) ?_ _
   clear hS2 hS3 hHeld2 d0 f0 HVa HIz
   generalize z2.setCell ⟨vb, 0, none⟩ (.int .i64 t) = z3 at HIw ⊢
   obtain ⟨q0, q1⟩ := pair_cells HIw.out.box
   obtain ⟨r0, r1⟩ := pair_cells HIw.out.res
   obtain ⟨f0, f1⟩ := pair_frozen HIw.out.res
   obtain ⟨HX6, HY6⟩ := HIw.out.out
   go_wp2
   generalize (z3.setCell ⟨w.heap.size, 0, none⟩ (.slice y.va 4 y.vc)).setCell ⟨w.heap.size, 1, none⟩ (.slice y.oa y.no y.oc) = wf at HX6 HY6 ⊢
   obtain ⟨p0, p1⟩ := pair_cells HX6.out
   exact bodyPost_ret (v := .agg #[.slice y.va 4 y.vc, .slice y.oa y.no y.oc]) (by simp [results, Try.results118, go_sem, p0, p1]) rfl HY6.out
  have e39 : ((s : Int) == 39) = false := by rw [beq_eq_false_iff_ne]; omega
  clear h38 h39
  obtain ⟨q0, q1⟩ := pair_cells HI4.out.box
  obtain ⟨r0, r1⟩ := pair_cells HI4.out.res
  obtain ⟨f0, f1⟩ := pair_frozen HI4.out.res
  obtain ⟨HX6, HY6⟩ := HI4.out.out
  go_wp2
  generalize (w4.setCell ⟨w.heap.size, 0, none⟩ (.slice y.va 4 y.vc)).setCell ⟨w.heap.size, 1, none⟩ (.slice y.oa y.no y.oc) = wf at HX6 HY6 ⊢
  obtain ⟨p0, p1⟩ := pair_cells HX6.out
  exact bodyPost_ret (v := .agg #[.slice y.va 4 y.vc, .slice y.oa y.no y.oc]) (by simp [results, Try.results118, go_sem, p0, p1]) rfl HY6.out
 have hxe : ((x.no : Int) == 0) = false := by rw [beq_eq_false_iff_ne]; omega
 go_wp2_with fail
 refine (once w2 B g a len cap HI2.out.rd 3 (by omega) (by omega)).mono ?_
 rintro e wo ⟨o1, rfl, hgo, hro⟩
 have HIo := Lib.hid (HI2.out.step hgo hro)
 clear hgo hro HI2 q0 q1
 obtain ⟨q0, q1⟩ := pair_cells HIo.out.box
 cases o1
 rotate_left
 ·skip
  go_wp2_with fail
  refine (rdCartsI wo B g a len cap HIo.out.rd 1 10 (by omega) (by omega) (by omega) 1 10 rfl rfl).mono ?_
  rintro e w3 ⟨q, c, l, rfl, hl3⟩
  have hs3 := hl3.grown.size
  have hwz := HIo.out.grown.size
  have hn3 := hl3.num
  have c0 : w3.cell? ⟨q, 0, none⟩ = some (.slice (cAt l 0).va 4 (cAt l 0).vc) := (hl3.cell 0 (by omega)).1
  have c1 : w3.cell? ⟨q, 1, none⟩ = some (.slice (cAt l 0).oa (cAt l 0).no (cAt l 0).oc) := (hl3.cell 0 (by omega)).2
  have HY := Lib.hid ((CrtC.weak (hl3.row.crt 0 (by omega))).more (lo' := w.heap.size + 1) (hi' := w3.heap.size) (by have := (Array.getElem?_eq_some_iff.1 HIo.out.res).1; omega) (Nat.le_refl _))
  have HI3 := Lib.hid (HIo.out.step hl3.grown hl3.rd)
  clear hl3 hn3 HIo q0 q1
  generalize cAt l 0 = y at c0 c1 HY
  obtain ⟨q0, q1⟩ := pair_cells HI3.out.box
  obtain ⟨g0, g1⟩ := pair_frozen HI3.out.box
  have HIy := Lib.hid (HI3.out.turn y HY.out)
  go_upto_region 4 with fail
  clear q0 q1 g0 g1 c0 c1 HI3 HY
  generalize (w3.setCell ⟨cb, 0, none⟩ (.slice y.va 4 y.vc)).setCell ⟨cb, 1, none⟩ (.slice y.oa y.no y.oc) = wy at HIy ⊢
  clear hs3 hwz
  go_wp2_with fail
  refine (belowI wy B g a len cap HIy.out.rd 40 (by omega) (by omega)).mono ?_
  rintro e w4 ⟨s, hs, rfl, hg4, hr4⟩
  have HI4 := Lib.hid (HIy.out.step hg4 hr4)
  clear hg4 hr4 HIy hs
  have hxm := HI4.out.crt.len
  by_cases h38 : s = 38
  ·subst h38
   by_cases hx0 : 0 < y.no
   ·have hxi : (0 : Int) < (y.no : Int) := by omega
    obtain ⟨oa, hoe⟩ : ∃ oa, y.oa = oa := ⟨_, rfl⟩
    have HOa := Lib.hid hoe
    clear hoe
    obtain ⟨q0, q1⟩ := pair_cells HI4.out.box
    have hoc := HI4.out.crt.caps
    rw [HOa.out] at q1
    go_upto_region 7 with fail
    have hS : w4.drew.cell? ⟨cb, 0, none⟩ = some (.slice y.va 4 y.vc) ∧ w4.drew.cell? ⟨cb, 1, none⟩ = some (.slice oa y.no y.oc) := ⟨q0, q1⟩
    go_wp2_with fail
    refine wp_region_held_drew (S := fun w' => w'.cell? ⟨cb, 0, none⟩ = some (.slice y.va 4 y.vc) ∧ w'.cell? ⟨cb, 1, none⟩ = some (.slice oa y.no y.oc)) (by kernel_rfl) hS (fun hHeld => ?_)
    refine tk 0 ⟨some 28, .fieldAddr 29 (.tmp 3) 1, 0, "l04_carts.go:168", #[], none⟩ ?_
    (try simp only [Act.put, u1, u2, u3])
    refine tk 1 ⟨some 29, .load 27 (.tmp 28), 27, "l04_carts.go:168", #[⟨0, .data⟩], none⟩ ?_
    (try simp only [Act.put, u1, u2, u3])
    refine tk 2 ⟨some 30, .move (.tmp 0), 84, "l04_carts.go:168", #[], none⟩ ?_
    (try simp only [Act.put, u1, u2, u3])
    refine tk 3 ⟨some 31, .fieldAddr 29 (.tmp 3) 1, 0, "l04_carts.go:168", #[], none⟩ ?_
    (try simp only [Act.put, u1, u2, u3])
    refine tk 4 ⟨some 32, .load 27 (.tmp 31), 27, "l04_carts.go:168", #[⟨3, .data⟩], none⟩ ?_
    (try simp only [Act.put, u1, u2, u3])
    refine tk 5 ⟨some 33, .call ⟨.builtin .len, #[.tmp 32], #[27]⟩, 3, "l04_carts.go:168", #[⟨4, .data⟩], none⟩ ?_
    (try simp only [Act.put, u1, u2, u3])
    refine tk 7 ⟨some 35, .move (.tmp 0), 84, "l04_carts.go:168", #[], none⟩ ?_
    (try simp only [Act.put, u1, u2, u3])
    refine rk 6 rfl (fun K hK => ?_)
    go_simp
    go_at_call 63
    refine (below w4.drew B g a len cap (HI4.out.rd.kept (w' := w4.drew) fun _ _ => rfl) y.no hx0 (by omega)).mono ?_
    rintro e z1 ⟨j, hj, rfl, hg1, hr1⟩
    have hg1' : w4.grownBy z1 (some g) := ⟨hg1.os, hg1.tape, hg1.output, hg1.size, hg1.block⟩
    have HI1 := Lib.hid (HI4.out.step hg1' hr1)
    have hS1 : z1.cell? ⟨cb, 0, none⟩ = some (.slice y.va 4 y.vc) ∧ z1.cell? ⟨cb, 1, none⟩ = some (.slice oa y.no y.oc) := ⟨(pair_cells HI1.out.box).1, by rw [← HOa.out]; exact (pair_cells HI1.out.box).2⟩
    clear hg1 hr1 hg1'
    refine hK.out _ _ hS1 (fun hHeld2 => ?_)
    clear hK K
    (try simp only [Act.put, u1, u2, u3])
    refine rk 8 rfl (fun K hK => ?_)
    go_simp
    go_at_call 75
    refine (rdOff z1 B g a len cap HI1.out.rd 1 9 (by omega) (by omega) (by omega)).mono ?_
    rintro e z2 ⟨t, rfl, hg2, hr2⟩
    have HIz := Lib.hid (HI1.out.step hg2 hr2)
    have hS2 : z2.cell? ⟨cb, 0, none⟩ = some (.slice y.va 4 y.vc) ∧ z2.cell? ⟨cb, 1, none⟩ = some (.slice oa y.no y.oc) := ⟨(pair_cells HIz.out.box).1, by rw [← HOa.out]; exact (pair_cells HIz.out.box).2⟩
    clear hg2 hr2
    refine hK.out _ _ hS2 (fun hHeld3 => ?_)
    clear hK K
    (try simp only [Act.put, u1, u2, u3])
    have hji : (j : Int) < (y.no : Int) := by omega
    have hj0 : decide ((j : Int) < 0) = false := decide_eq_false (by omega)
    have hj00 : ¬ ((j : Int) < 0) := by omega
    obtain ⟨ob, off, u, hoa, ho1, ho2, ⟨ocs, hob⟩, d0, f0, hcw⟩ := HIz.out.crt.stamp hj t
    have HIw := Lib.hid (HIz.out.cell1 hob (by decide) (by omega) hcw)
    have hoa2 : oa = some ⟨ob, off, none⟩ := HOa.out.symm.trans hoa
    subst hoa2
    clear hcw hob hS hS1 hoa q0 q1 hHeld hHeld2
    refine tk 9 ⟨some 37, .indexAddr 27 (.tmp 29) (.tmp 34), 0, "l04_carts.go:168", #[⟨1, .data⟩, ⟨6, .data⟩, ⟨0, .phase⟩, ⟨1, .phase⟩, ⟨2, .phase⟩, ⟨3, .phase⟩, ⟨4, .phase⟩, ⟨5, .phase⟩, ⟨6, .phase⟩, ⟨7, .phase⟩, ⟨8, .phase⟩], none⟩ ?_
    (try simp only [Act.put, u1, u2, u3])
    refine tk 10 ⟨some 38, .fieldAddr 77 (.tmp 37) 2, 0, "l04_carts.go:168", #[⟨9, .data⟩, ⟨0, .phase⟩, ⟨1, .phase⟩, ⟨2, .phase⟩, ⟨3, .phase⟩, ⟨4, .phase⟩, ⟨5, .phase⟩, ⟨6, .phase⟩, ⟨7, .phase⟩, ⟨8, .phase⟩], none⟩ ?_
    (try simp only [Act.put, u1, u2, u3])
    have hS3 : (z2.setCell ⟨ob, off + j * 8 + 2, none⟩ (.int .i64 t)).cell? ⟨cb, 0, none⟩ = some (.slice y.va 4 y.vc) ∧ (z2.setCell ⟨ob, off + j * 8 + 2, none⟩ (.int .i64 t)).cell? ⟨cb, 1, none⟩ = some (.slice (some ⟨ob, off, none⟩) y.no y.oc) := ⟨(pair_cells HIw.out.box).1, by rw [← HOa.out]; exact (pair_cells HIw.out.box).2⟩
    refine rk 11 rfl (fun K hK => ?_)
    go_simp
    refine hK.out _ _ hS3 (fun hHeld4 => ?_)
    clear hK K
    (try simp only [Act.put, u1, u2, u3])
    refine wpAnyH_done (by kernel_rfl) ?_ _
    clear hS2 hS3 hHeld3 d0 f0 hji hj0 hj00 HOa HI1 HIz
    generalize z2.setCell ⟨ob, off + j * 8 + 2, none⟩ (.int .i64 t) = z3 at HIw ⊢
    obtain ⟨q0, q1⟩ := pair_cells HIw.out.box
    obtain ⟨r0, r1⟩ := pair_cells HIw.out.res
    obtain ⟨f0, f1⟩ := pair_frozen HIw.out.res
    obtain ⟨HX6, HY6⟩ := HIw.out.out
    go_wp2
    generalize (z3.setCell ⟨w.heap.size, 0, none⟩ (.slice y.va 4 y.vc)).setCell ⟨w.heap.size, 1, none⟩ (.slice y.oa y.no y.oc) = wf at HX6 HY6 ⊢
    obtain ⟨p0, p1⟩ := pair_cells HX6.out
    exact bodyPost_ret (v := .agg #[.slice y.va 4 y.vc, .slice y.oa y.no y.oc]) (by simp [results, Try.results118, go_sem, p0, p1]) rfl HY6.out
   ·have hxi : ¬ ((0 : Int) < (y.no : Int)) := by omega
    clear hx0
    obtain ⟨q0, q1⟩ := pair_cells HI4.out.box
    obtain ⟨r0, r1⟩ := pair_cells HI4.out.res
    obtain ⟨f0, f1⟩ := pair_frozen HI4.out.res
    obtain ⟨HX6, HY6⟩ := HI4.out.out
    go_wp2
    generalize (w4.setCell ⟨w.heap.size, 0, none⟩ (.slice y.va 4 y.vc)).setCell ⟨w.heap.size, 1, none⟩ (.slice y.oa y.no y.oc) = wf at HX6 HY6 ⊢
    obtain ⟨p0, p1⟩ := pair_cells HX6.out
    exact bodyPost_ret (v := .agg #[.slice y.va 4 y.vc, .slice y.oa y.no y.oc]) (by simp [results, Try.results118, go_sem, p0, p1]) rfl HY6.out
  have e38 : ((s : Int) == 38) = false := by rw [beq_eq_false_iff_ne]; omega
  by_cases h39 : s = 39
  ·subst h39
   clear e38 h38
   obtain ⟨va, hve⟩ : ∃ va, y.va = va := ⟨_, rfl⟩
   have HVa := Lib.hid hve
   clear hve
   obtain ⟨q0, q1⟩ := pair_cells HI4.out.box
   rw [HVa.out] at q0
   go_upto_region 9 with fail
   have hS : w4.drew.cell? ⟨cb, 0, none⟩ = some (.slice va 4 y.vc) ∧ w4.drew.cell? ⟨cb, 1, none⟩ = some (.slice y.oa y.no y.oc) := ⟨q0, q1⟩
   go_wp2_with fail
   refine wp_region_held_drew (S := fun w' => w'.cell? ⟨cb, 0, none⟩ = some (.slice va 4 y.vc) ∧ w'.cell? ⟨cb, 1, none⟩ = some (.slice y.oa y.no y.oc)) (by kernel_rfl) hS (fun hHeld => ?_)
   refine tk 0 ⟨some 41, .fieldAddr 29 (.tmp 3) 0, 0, "l04_carts.go:171", #[], none⟩ ?_
   (try simp only [Act.put, u1, u2, u3])
   refine tk 1 ⟨some 42, .load 22 (.tmp 41), 22, "l04_carts.go:171", #[⟨0, .data⟩], none⟩ ?_
   (try simp only [Act.put, u1, u2, u3])
   refine tk 2 ⟨some 43, .move (.tmp 0), 84, "l04_carts.go:171", #[], none⟩ ?_
   (try simp only [Act.put, u1, u2, u3])
   refine rk 3 rfl (fun K hK => ?_)
   go_simp
   go_at_call 75
   refine (rdOff w4.drew B g a len cap (HI4.out.rd.kept (w' := w4.drew) fun _ _ => rfl) 0 5 (by omega) (by omega) (by omega)).mono ?_
   rintro e z2 ⟨t, rfl, hg1, hr1⟩
   have hg1' : w4.grownBy z2 (some g) := ⟨hg1.os, hg1.tape, hg1.output, hg1.size, hg1.block⟩
   have HIz := Lib.hid (HI4.out.step hg1' hr1)
   have hS2 : z2.cell? ⟨cb, 0, none⟩ = some (.slice va 4 y.vc) ∧ z2.cell? ⟨cb, 1, none⟩ = some (.slice y.oa y.no y.oc) := ⟨by rw [← HVa.out]; exact (pair_cells HIz.out.box).1, (pair_cells HIz.out.box).2⟩
   clear hg1 hr1 hg1'
   refine hK.out _ _ hS2 (fun hHeld2 => ?_)
   clear hK K
   (try simp only [Act.put, u1, u2, u3])
   obtain ⟨vb, u, hva, ho1, ho2, ⟨ocs, hob⟩, d0, f0, hcw⟩ := HIz.out.crt.vec t
   have HIw := Lib.hid (HIz.out.cell1 hob (by decide) (by omega) hcw)
   have hva2 : va = some ⟨vb, 0, none⟩ := HVa.out.symm.trans hva
   subst hva2
   clear hcw hob hS hva q0 q1 hHeld
   refine tk 4 ⟨some 45, .indexAddr 22 (.tmp 42) (.const (Value.int IntKind.i64 0)), 0, "l04_carts.go:171", #[⟨1, .data⟩, ⟨0, .phase⟩, ⟨1, .phase⟩, ⟨2, .phase⟩, ⟨3, .phase⟩], none⟩ ?_
   (try simp only [Act.put, u1, u2, u3])
   have hS3 : (z2.setCell ⟨vb, 0, none⟩ (.int .i64 t)).cell? ⟨cb, 0, none⟩ = some (.slice (some ⟨vb, 0, none⟩) 4 y.vc) ∧ (z2.setCell ⟨vb, 0, none⟩ (.int .i64 t)).cell? ⟨cb, 1, none⟩ = some (.slice y.oa y.no y.oc) := ⟨by rw [← HVa.out]; exact (pair_cells HIw.out.box).1, (pair_cells HIw.out.box).2⟩
   refine rk 5 rfl (fun K hK => ?_)
   go_simp
   refine hK.out _ _ hS3 (fun hHeld4 => ?_)
   clear hK K
   (try simp only [Act.put, u1, u2, u3])
   refine wpAnyH_done (by kernel_rfl) ?_ _
   clear hS2 hS3 hHeld2 d0 f0 HVa HIz
   generalize z2.setCell ⟨vb, 0, none⟩ (.int .i64 t) = z3 at HIw ⊢
   obtain ⟨q0, q1⟩ := pair_cells HIw.out.box
   obtain ⟨r0, r1⟩ := pair_cells HIw.out.res
   obtain ⟨f0, f1⟩ := pair_frozen HIw.out.res
   obtain ⟨HX6, HY6⟩ := HIw.out.out
   go_wp2
   generalize (z3.setCell ⟨w.heap.size, 0, none⟩ (.slice y.va 4 y.vc)).setCell ⟨w.heap.size, 1, none⟩ (.slice y.oa y.no y.oc) = wf at HX6 HY6 ⊢
   obtain ⟨p0, p1⟩ := pair_cells HX6.out
   exact bodyPost_ret (v := .agg #[.slice y.va 4 y.vc, .slice y.oa y.no y.oc]) (by simp [results, Try.results118, go_sem, p0, p1]) rfl HY6.out
  have e39 : ((s : Int) == 39) = false := by rw [beq_eq_false_iff_ne]; omega
  clear h38 h39
  obtain ⟨q0, q1⟩ := pair_cells HI4.out.box
  obtain ⟨r0, r1⟩ := pair_cells HI4.out.res
  obtain ⟨f0, f1⟩ := pair_frozen HI4.out.res
  obtain ⟨HX6, HY6⟩ := HI4.out.out
  go_wp2
  generalize (w4.setCell ⟨w.heap.size, 0, none⟩ (.slice y.va 4 y.vc)).setCell ⟨w.heap.size, 1, none⟩ (.slice y.oa y.no y.oc) = wf at HX6 HY6 ⊢
  obtain ⟨p0, p1⟩ := pair_cells HX6.out
  exact bodyPost_ret (v := .agg #[.slice y.va 4 y.vc, .slice y.oa y.no y.oc]) (by simp [results, Try.results118, go_sem, p0, p1]) rfl HY6.out
 go_upto_region 4 with fail
 clear q0 q1 hxe
 go_wp2_with fail
 refine (belowI wo B g a len cap HIo.out.rd 40 (by omega) (by omega)).mono ?_
 rintro e w4 ⟨s, hs, rfl, hg4, hr4⟩
 have HI4 := Lib.hid (HIo.out.step hg4 hr4)
 clear hg4 hr4 HIo hs
 have hxm := HI4.out.crt.len
 by_cases h38 : s = 38
 ·subst h38
  by_cases hx0 : 0 < x.no
  ·have hxi : (0 : Int) < (x.no : Int) := by omega
   obtain ⟨oa, hoe⟩ : ∃ oa, x.oa = oa := ⟨_, rfl⟩
   have HOa := Lib.hid hoe
   clear hoe
   obtain ⟨q0, q1⟩ := pair_cells HI4.out.box
   have hoc := HI4.out.crt.caps
   rw [HOa.out] at q1
   go_upto_region 7 with fail
   have hS : w4.drew.cell? ⟨cb, 0, none⟩ = some (.slice x.va 4 x.vc) ∧ w4.drew.cell? ⟨cb, 1, none⟩ = some (.slice oa x.no x.oc) := ⟨q0, q1⟩
   go_wp2_with fail
   refine wp_region_held_drew (S := fun w' => w'.cell? ⟨cb, 0, none⟩ = some (.slice x.va 4 x.vc) ∧ w'.cell? ⟨cb, 1, none⟩ = some (.slice oa x.no x.oc)) (by kernel_rfl) hS (fun hHeld => ?_)
   refine tk 0 ⟨some 28, .fieldAddr 29 (.tmp 3) 1, 0, "l04_carts.go:168", #[], none⟩ ?_
   (try simp only [Act.put, u1, u2, u3])
   refine tk 1 ⟨some 29, .load 27 (.tmp 28), 27, "l04_carts.go:168", #[⟨0, .data⟩], none⟩ ?_
   (try simp only [Act.put, u1, u2, u3])
   refine tk 2 ⟨some 30, .move (.tmp 0), 84, "l04_carts.go:168", #[], none⟩ ?_
   (try simp only [Act.put, u1, u2, u3])
   refine tk 3 ⟨some 31, .fieldAddr 29 (.tmp 3) 1, 0, "l04_carts.go:168", #[], none⟩ ?_
   (try simp only [Act.put, u1, u2, u3])
   refine tk 4 ⟨some 32, .load 27 (.tmp 31), 27, "l04_carts.go:168", #[⟨3, .data⟩], none⟩ ?_
   (try simp only [Act.put, u1, u2, u3])
   refine tk 5 ⟨some 33, .call ⟨.builtin .len, #[.tmp 32], #[27]⟩, 3, "l04_carts.go:168", #[⟨4, .data⟩], none⟩ ?_
   (try simp only [Act.put, u1, u2, u3])
   refine tk 7 ⟨some 35, .move (.tmp 0), 84, "l04_carts.go:168", #[], none⟩ ?_
   (try simp only [Act.put, u1, u2, u3])
   refine rk 6 rfl (fun K hK => ?_)
   go_simp
   go_at_call 63
   refine (below w4.drew B g a len cap (HI4.out.rd.kept (w' := w4.drew) fun _ _ => rfl) x.no hx0 (by omega)).mono ?_
   rintro e z1 ⟨j, hj, rfl, hg1, hr1⟩
   have hg1' : w4.grownBy z1 (some g) := ⟨hg1.os, hg1.tape, hg1.output, hg1.size, hg1.block⟩
   have HI1 := Lib.hid (HI4.out.step hg1' hr1)
   have hS1 : z1.cell? ⟨cb, 0, none⟩ = some (.slice x.va 4 x.vc) ∧ z1.cell? ⟨cb, 1, none⟩ = some (.slice oa x.no x.oc) := ⟨(pair_cells HI1.out.box).1, by rw [← HOa.out]; exact (pair_cells HI1.out.box).2⟩
   clear hg1 hr1 hg1'
   refine hK.out _ _ hS1 (fun hHeld2 => ?_)
   clear hK K
   (try simp only [Act.put, u1, u2, u3])
   refine rk 8 rfl (fun K hK => ?_)
   go_simp
   go_at_call 75
   refine (rdOff z1 B g a len cap HI1.out.rd 1 9 (by omega) (by omega) (by omega)).mono ?_
   rintro e z2 ⟨t, rfl, hg2, hr2⟩
   have HIz := Lib.hid (HI1.out.step hg2 hr2)
   have hS2 : z2.cell? ⟨cb, 0, none⟩ = some (.slice x.va 4 x.vc) ∧ z2.cell? ⟨cb, 1, none⟩ = some (.slice oa x.no x.oc) := ⟨(pair_cells HIz.out.box).1, by rw [← HOa.out]; exact (pair_cells HIz.out.box).2⟩
   clear hg2 hr2
   refine hK.out _ _ hS2 (fun hHeld3 => ?_)
   clear hK K
   (try simp only [Act.put, u1, u2, u3])
   have hji : (j : Int) < (x.no : Int) := by omega
   have hj0 : decide ((j : Int) < 0) = false := decide_eq_false (by omega)
   have hj00 : ¬ ((j : Int) < 0) := by omega
   obtain ⟨ob, off, u, hoa, ho1, ho2, ⟨ocs, hob⟩, d0, f0, hcw⟩ := HIz.out.crt.stamp hj t
   have HIw := Lib.hid (HIz.out.cell1 hob (by decide) (by omega) hcw)
   have hoa2 : oa = some ⟨ob, off, none⟩ := HOa.out.symm.trans hoa
   subst hoa2
   clear hcw hob hS hS1 hoa q0 q1 hHeld hHeld2
   refine tk 9 ⟨some 37, .indexAddr 27 (.tmp 29) (.tmp 34), 0, "l04_carts.go:168", #[⟨1, .data⟩, ⟨6, .data⟩, ⟨0, .phase⟩, ⟨1, .phase⟩, ⟨2, .phase⟩, ⟨3, .phase⟩, ⟨4, .phase⟩, ⟨5, .phase⟩, ⟨6, .phase⟩, ⟨7, .phase⟩, ⟨8, .phase⟩], none⟩ ?_
   (try simp only [Act.put, u1, u2, u3])
   refine tk 10 ⟨some 38, .fieldAddr 77 (.tmp 37) 2, 0, "l04_carts.go:168", #[⟨9, .data⟩, ⟨0, .phase⟩, ⟨1, .phase⟩, ⟨2, .phase⟩, ⟨3, .phase⟩, ⟨4, .phase⟩, ⟨5, .phase⟩, ⟨6, .phase⟩, ⟨7, .phase⟩, ⟨8, .phase⟩], none⟩ ?_
   (try simp only [Act.put, u1, u2, u3])
   have hS3 : (z2.setCell ⟨ob, off + j * 8 + 2, none⟩ (.int .i64 t)).cell? ⟨cb, 0, none⟩ = some (.slice x.va 4 x.vc) ∧ (z2.setCell ⟨ob, off + j * 8 + 2, none⟩ (.int .i64 t)).cell? ⟨cb, 1, none⟩ = some (.slice (some ⟨ob, off, none⟩) x.no x.oc) := ⟨(pair_cells HIw.out.box).1, by rw [← HOa.out]; exact (pair_cells HIw.out.box).2⟩
   refine rk 11 rfl (fun K hK => ?_)
   go_simp
   refine hK.out _ _ hS3 (fun hHeld4 => ?_)
   clear hK K
   (try simp only [Act.put, u1, u2, u3])
   refine wpAnyH_done (by kernel_rfl) ?_ _
   clear hS2 hS3 hHeld3 d0 f0 hji hj0 hj00 HOa HI1 HIz
   generalize z2.setCell ⟨ob, off + j * 8 + 2, none⟩ (.int .i64 t) = z3 at HIw ⊢
   obtain ⟨q0, q1⟩ := pair_cells HIw.out.box
   obtain ⟨r0, r1⟩ := pair_cells HIw.out.res
   obtain ⟨f0, f1⟩ := pair_frozen HIw.out.res
   obtain ⟨HX6, HY6⟩ := HIw.out.out
   go_wp2
   generalize (z3.setCell ⟨w.heap.size, 0, none⟩ (.slice x.va 4 x.vc)).setCell ⟨w.heap.size, 1, none⟩ (.slice x.oa x.no x.oc) = wf at HX6 HY6 ⊢
   obtain ⟨p0, p1⟩ := pair_cells HX6.out
   exact bodyPost_ret (v := .agg #[.slice x.va 4 x.vc, .slice x.oa x.no x.oc]) (by simp [results, Try.results118, go_sem, p0, p1]) rfl HY6.out
  ·omega
 have e38 : ((s : Int) == 38) = false := by rw [beq_eq_false_iff_ne]; omega
 by_cases h39 : s = 39
 ·subst h39
  clear e38 h38
  obtain ⟨va, hve⟩ : ∃ va, x.va = va := ⟨_, rfl⟩
  have HVa := Lib.hid hve
  clear hve
  obtain ⟨q0, q1⟩ := pair_cells HI4.out.box
  rw [HVa.out] at q0
  go_upto_region 9 with fail
  have hS : w4.drew.cell? ⟨cb, 0, none⟩ = some (.slice va 4 x.vc) ∧ w4.drew.cell? ⟨cb, 1, none⟩ = some (.slice x.oa x.no x.oc) := ⟨q0, q1⟩
  go_wp2_with fail
  refine wp_region_held_drew (S := fun w' => w'.cell? ⟨cb, 0, none⟩ = some (.slice va 4 x.vc) ∧ w'.cell? ⟨cb, 1, none⟩ = some (.slice x.oa x.no x.oc)) (by kernel_rfl) hS (fun hHeld => ?_)
  refine tk 0 ⟨some 41, .fieldAddr 29 (.tmp 3) 0, 0, "l04_carts.go:171", #[], none⟩ ?_
  (try simp only [Act.put, u1, u2, u3])
  refine tk 1 ⟨some 42, .load 22 (.tmp 41), 22, "l04_carts.go:171", #[⟨0, .data⟩], none⟩ ?_
  (try simp only [Act.put, u1, u2, u3])
  refine tk 2 ⟨some 43, .move (.tmp 0), 84, "l04_carts.go:171", #[], none⟩ ?_
  (try simp only [Act.put, u1, u2, u3])
  refine rk 3 rfl (fun K hK => ?_)
  go_simp
  go_at_call 75
  refine (rdOff w4.drew B g a len cap (HI4.out.rd.kept (w' := w4.drew) fun _ _ => rfl) 0 5 (by omega) (by omega) (by omega)).mono ?_
  rintro e z2 ⟨t, rfl, hg1, hr1⟩
  have hg1' : w4.grownBy z2 (some g) := ⟨hg1.os, hg1.tape, hg1.output, hg1.size, hg1.block⟩
  have HIz := Lib.hid (HI4.out.step hg1' hr1)
  have hS2 : z2.cell? ⟨cb, 0, none⟩ = some (.slice va 4 x.vc) ∧ z2.cell? ⟨cb, 1, none⟩ = some (.slice x.oa x.no x.oc) := ⟨by rw [← HVa.out]; exact (pair_cells HIz.out.box).1, (pair_cells HIz.out.box).2⟩
  clear hg1 hr1 hg1'
  refine hK.out _ _ hS2 (fun hHeld2 => ?_)
  clear hK K
  (try simp only [Act.put, u1, u2, u3])
  obtain ⟨vb, u, hva, ho1, ho2, ⟨ocs, hob⟩, d0, f0, hcw⟩ := HIz.out.crt.vec t
  have HIw := Lib.hid (HIz.out.cell1 hob (by decide) (by omega) hcw)
  have hva2 : va = some ⟨vb, 0, none⟩ := HVa.out.symm.trans hva
  subst hva2
  clear hcw hob hS hva q0 q1 hHeld
  refine tk 4 ⟨some 45, .indexAddr 22 (.tmp 42) (.const (Value.int IntKind.i64 0)), 0, "l04_carts.go:171", #[⟨1, .data⟩, ⟨0, .phase⟩, ⟨1, .phase⟩, ⟨2, .phase⟩, ⟨3, .phase⟩], none⟩ ?_
  (try simp only [Act.put, u1, u2, u3])
  have hS3 : (z2.setCell ⟨vb, 0, none⟩ (.int .i64 t)).cell? ⟨cb, 0, none⟩ = some (.slice (some ⟨vb, 0, none⟩) 4 x.vc) ∧ (z2.setCell ⟨vb, 0, none⟩ (.int .i64 t)).cell? ⟨cb, 1, none⟩ = some (.slice x.oa x.no x.oc) := ⟨by rw [← HVa.out]; exact (pair_cells HIw.out.box).1, (pair_cells HIw.out.box).2⟩
  refine rk 5 rfl (fun K hK => ?_)
  go_simp
  refine hK.out _ _ hS3 (fun hHeld4 => ?_)
  clear hK K
  (try simp only [Act.put, u1, u2, u3])
  refine wpAnyH_done (by kernel_rfl) ?_ _
  clear hS2 hS3 hHeld2 d0 f0 HVa HIz
  generalize z2.setCell ⟨vb, 0, none⟩ (.int .i64 t) = z3 at HIw ⊢
  obtain ⟨q0, q1⟩ := pair_cells HIw.out.box
  obtain ⟨r0, r1⟩ := pair_cells HIw.out.res
  obtain ⟨f0, f1⟩ := pair_frozen HIw.out.res
  obtain ⟨HX6, HY6⟩ := HIw.out.out
  go_wp2
  generalize (z3.setCell ⟨w.heap.size, 0, none⟩ (.slice x.va 4 x.vc)).setCell ⟨w.heap.size, 1, none⟩ (.slice x.oa x.no x.oc) = wf at HX6 HY6 ⊢
  obtain ⟨p0, p1⟩ := pair_cells HX6.out
  exact bodyPost_ret (v := .agg #[.slice x.va 4 x.vc, .slice x.oa x.no x.oc]) (by simp [results, Try.results118, go_sem, p0, p1]) rfl HY6.out
 have e39 : ((s : Int) == 39) = false := by rw [beq_eq_false_iff_ne]; omega
 clear h38 h39
 obtain ⟨q0, q1⟩ := pair_cells HI4.out.box
 obtain ⟨r0, r1⟩ := pair_cells HI4.out.res
 obtain ⟨f0, f1⟩ := pair_frozen HI4.out.res
 obtain ⟨HX6, HY6⟩ := HI4.out.out
 go_wp2
 generalize (w4.setCell ⟨w.heap.size, 0, none⟩ (.slice x.va 4 x.vc)).setCell ⟨w.heap.size, 1, none⟩ (.slice x.oa x.no x.oc) = wf at HX6 HY6 ⊢
 obtain ⟨p0, p1⟩ := pair_cells HX6.out
 exact bodyPost_ret (v := .agg #[.slice x.va 4 x.vc, .slice x.oa x.no x.oc]) (by simp [results, Try.results118, go_sem, p0, p1]) rfl HY6.out
set_option linter.unusedVariables false
set_option linter.unusedSimpArgs false

/-- Two blocks for results, laid first, beside a reader. -/
structure D2 (w wr : World) (B g : Nat) (a : Option Addr) (len cap : Nat) (u v : Array Value) : Prop where
 ra : wr.heap[w.heap.size]? = some (.cells u 29 (0, 0))
 rb : wr.heap[w.heap.size + 1]? = some (.cells v 29 (0, 0))
 bel : Below w.heap.size w wr
 rd : Rd wr B g a len cap
 glt : w.heap.size + 1 < g
theorem D2.step {w wr w1 : World} {B g : Nat} {a : Option Addr} {len cap : Nat} {u v : Array Value} (h : D2 w wr B g a len cap u v) (hg : wr.grownBy w1 (some g)) (hr : Rd w1 B g a len cap) : D2 w w1 B g a len cap u v := by
 have hgl := h.glt
 have hs := h.bel.size
 have hk : ∀ j, j < wr.heap.size → j ≠ g → w1.heap[j]? = wr.heap[j]? := fun j h1 h2 => hg.block j h1 (by intro e; injection e with e; exact h2 e)
 exact ⟨(hk _ (Array.getElem?_eq_some_iff.1 h.ra).1 (by omega)).trans h.ra, (hk _ (Array.getElem?_eq_some_iff.1 h.rb).1 (by omega)).trans h.rb, h.bel.grown hg hs (fun k hk => by cases hk; omega), hr, hgl⟩
/-- What a draw of two carts answers. -/
def DrawsTwo (w : World) (e : Ending) (w' : World) : Prop :=
 ∃ x y : CartC, e = .returned (.tuple #[.agg #[.slice x.va 4 x.vc, .slice x.oa x.no x.oc], .agg #[.slice y.va 4 y.vc, .slice y.oa y.no y.oc]]) ∧ Crw w' w.heap.size w'.heap.size x ∧ Crw w' w.heap.size w'.heap.size y ∧ Below w.heap.size w w'
/-- Both results are laid. -/
theorem D2.out {w z : World} {B g : Nat} {a : Option Addr} {len cap : Nat} {u0 u1 v0 v1 : Value} {x y : CartC} (h : D2 w z B g a len cap #[u0, u1] #[v0, v1]) (hx : Crw z w.heap.size z.heap.size x) (hy : Crw z w.heap.size z.heap.size y) :
  Hid (((((z.setCell ⟨w.heap.size, 0, none⟩ (.slice x.va 4 x.vc)).setCell ⟨w.heap.size, 1, none⟩ (.slice x.oa x.no x.oc)).setCell ⟨w.heap.size + 1, 0, none⟩ (.slice y.va 4 y.vc)).setCell ⟨w.heap.size + 1, 1, none⟩ (.slice y.oa y.no y.oc)).heap[w.heap.size]? = some (.cells #[.slice x.va 4 x.vc, .slice x.oa x.no x.oc] 29 (0, 0))) ∧
  Hid (((((z.setCell ⟨w.heap.size, 0, none⟩ (.slice x.va 4 x.vc)).setCell ⟨w.heap.size, 1, none⟩ (.slice x.oa x.no x.oc)).setCell ⟨w.heap.size + 1, 0, none⟩ (.slice y.va 4 y.vc)).setCell ⟨w.heap.size + 1, 1, none⟩ (.slice y.oa y.no y.oc)).heap[w.heap.size + 1]? = some (.cells #[.slice y.va 4 y.vc, .slice y.oa y.no y.oc] 29 (0, 0))) ∧
  Hid (DrawsTwo w (.returned (.tuple #[.agg #[.slice x.va 4 x.vc, .slice x.oa x.no x.oc], .agg #[.slice y.va 4 y.vc, .slice y.oa y.no y.oc]])) ((((z.setCell ⟨w.heap.size, 0, none⟩ (.slice x.va 4 x.vc)).setCell ⟨w.heap.size, 1, none⟩ (.slice x.oa x.no x.oc)).setCell ⟨w.heap.size + 1, 0, none⟩ (.slice y.va 4 y.vc)).setCell ⟨w.heap.size + 1, 1, none⟩ (.slice y.oa y.no y.oc))) := by
 have e1 := pair_set (.slice x.va 4 x.vc) (.slice x.oa x.no x.oc) h.ra
 have hb : ((z.setCell ⟨w.heap.size, 0, none⟩ (.slice x.va 4 x.vc)).setCell ⟨w.heap.size, 1, none⟩ (.slice x.oa x.no x.oc)).heap[w.heap.size + 1]? = some (.cells #[v0, v1] 29 (0, 0)) := (pair_other _ _ (by omega)).trans h.rb
 have e2 := pair_set (.slice y.va 4 y.vc) (.slice y.oa y.no y.oc) hb
 have z1 := pair_size z w.heap.size (.slice x.va 4 x.vc) (.slice x.oa x.no x.oc)
 have z2 := pair_size ((z.setCell ⟨w.heap.size, 0, none⟩ (.slice x.va 4 x.vc)).setCell ⟨w.heap.size, 1, none⟩ (.slice x.oa x.no x.oc)) (w.heap.size + 1) (.slice y.va 4 y.vc) (.slice y.oa y.no y.oc)
 have kp : ∀ c : CartC, Crw z w.heap.size z.heap.size c → Crw ((((z.setCell ⟨w.heap.size, 0, none⟩ (.slice x.va 4 x.vc)).setCell ⟨w.heap.size, 1, none⟩ (.slice x.oa x.no x.oc)).setCell ⟨w.heap.size + 1, 0, none⟩ (.slice y.va 4 y.vc)).setCell ⟨w.heap.size + 1, 1, none⟩ (.slice y.oa y.no y.oc)) w.heap.size ((((z.setCell ⟨w.heap.size, 0, none⟩ (.slice x.va 4 x.vc)).setCell ⟨w.heap.size, 1, none⟩ (.slice x.oa x.no x.oc)).setCell ⟨w.heap.size + 1, 0, none⟩ (.slice y.va 4 y.vc)).setCell ⟨w.heap.size + 1, 1, none⟩ (.slice y.oa y.no y.oc)).heap.size c := fun c hc => by
  rw [z2, z1]
  have c1 : Crw ((z.setCell ⟨w.heap.size, 0, none⟩ (.slice x.va 4 x.vc)).setCell ⟨w.heap.size, 1, none⟩ (.slice x.oa x.no x.oc)) w.heap.size z.heap.size c := hc.other h.ra fun j _ _ hne => pair_other _ _ hne
  exact c1.other hb fun j _ _ hne => pair_other _ _ hne
 exact ⟨(pair_other _ _ (by omega)).trans e1, e2, x, y, rfl, kp x hx, kp y hy, (h.bel.trans (below_set2 z w.heap.size 0 1 _ _)).trans ((below_set2 _ (w.heap.size + 1) 0 1 _ _).mono (by omega))⟩

set_option maxHeartbeats 80000000 in
theorem drawMerged (w : World) (B : Nat) (a : Option Addr) (len cap : Nat) (hB : B ≤ w.heap.size) (h : Src w B a len) :
  Calls Try.prog 71 #[.slice a len cap] w (DrawsTwo w) := by
 have hT := Two.mk0 w #[.slice none 0 0, .slice none 0 0] #[.slice none 0 0, .slice none 0 0] 29
 have hTs : Hid (((w.alloc (.cells #[.slice none 0 0, .slice none 0 0] 29)).alloc (.cells #[.slice none 0 0, .slice none 0 0] 29)).heap.size = w.heap.size + 2) := by show _ = _; simp
 have HS0 := Lib.hid (h.kept (w' := (w.alloc (.cells #[.slice none 0 0, .slice none 0 0] 29)).alloc (.cells #[.slice none 0 0, .slice none 0 0] 29)) fun k hk => hT.bel.block k (by omega))
 have HT := Lib.hid hT
 clear h hT
 go_enter Try.func71, Try.ntmps71
 go_wp2_with fail
 generalize (w.alloc (.cells #[.slice none 0 0, .slice none 0 0] 29)).alloc (.cells #[.slice none 0 0, .slice none 0 0] 29) = w0 at HS0 HT hTs ⊢
 refine (l1Open w0 B a len cap (by have := hTs.out; omega) HS0.out).mono ?_
 rintro e w1 ⟨rfl, hg1, hr1⟩
 have HD1 : Hid (D2 w w1 B w0.heap.size a len cap #[.slice none 0 0, .slice none 0 0] #[.slice none 0 0, .slice none 0 0]) := ⟨(hg1.block _ (by have := hTs.out; omega) (by intro e; cases e)).trans HT.out.fst, (hg1.block _ (by have := hTs.out; omega) (by intro e; cases e)).trans HT.out.snd, HT.out.bel.grown hg1 (by have := hTs.out; omega) (fun k hk => by cases hk), hr1, by have := hTs.out; omega⟩
 clear hg1 hr1 HS0 HT hTs
 generalize w0.heap.size = g at HD1 ⊢
 go_wp2_with fail
 refine (once w1 B g a len cap HD1.out.rd 12 (by omega) (by omega)).mono ?_
 rintro e w2 ⟨o1, rfl, hg2, hr2⟩
 have HD2 := Lib.hid (HD1.out.step hg2 hr2)
 clear hg2 hr2 HD1
 have hgl := HD2.out.glt
 cases o1
 rotate_left
 ·go_wp2_with fail
  refine (rdCart w2 B g a len cap HD2.out.rd).mono ?_
  rintro e w3 ⟨x, rfl, hx, hg3, hr3⟩
  have HD3 := Lib.hid (HD2.out.step hg3 hr3)
  have HX := Lib.hid hx
  have hs3 := hg3.size
  have hw2 := HD2.out.bel.size
  have hgw2 := HD2.out.rd.lt
  have hw22 := lt_of_row HD2.out.rb
  clear hx hg3 hr3 HD2
  go_upto_region 4 with fail
  have hal : Below w3.heap.size w3 (w3.alloc (.cells #[.slice x.va 4 x.vc, .slice x.oa x.no x.oc] 29)) := bl
  have HC4 := Lib.hid (boxAt (Below.refl _ (w3.alloc (.cells #[.slice x.va 4 x.vc, .slice x.oa x.no x.oc] 29))))
  have HD4 := Lib.hid (HD3.out.step (grown_of hal) (HD3.out.rd.grown (grown_no hal) fun k hk => by cases hk))
  have HX4 := Lib.hid (HX.out.kept fun j _ h2 => hal.block j h2)
  have hs4 := hal.size
  clear hal HD3 HX
  generalize w3.alloc (.cells #[.slice x.va 4 x.vc, .slice x.oa x.no x.oc] 29) = w4 at HC4 HD4 HX4 hs4 ⊢
  have hcl := lt_of_row HC4.out
  have hcg : w3.heap.size ≠ g := by omega
  have hcg2 : w.heap.size + 1 < w3.heap.size := by omega
  generalize w3.heap.size = cb at HC4 HX4 hs4 hcl hcg hcg2 ⊢
  have hS : w4.drew.cell? ⟨cb, 0, none⟩ = some (.slice x.va 4 x.vc) ∧ w4.drew.cell? ⟨cb, 1, none⟩ = some (.slice x.oa x.no x.oc) := pair_cells HC4.out
  go_wp2_with fail
  refine wp_region_held_drew (S := fun w' => w'.cell? ⟨cb, 0, none⟩ = some (.slice x.va 4 x.vc) ∧ w'.cell? ⟨cb, 1, none⟩ = some (.slice x.oa x.no x.oc)) (by kernel_rfl) hS (fun hHeld => ?_)
  refine tk 0 ⟨some 13, .load 29 (.tmp 5), 29, "l04_carts.go:189", #[], none⟩ ?_
  (try simp only [Act.put, u1, u2, u3])
  refine tk 1 ⟨some 14, .move (.tmp 4), 84, "l04_carts.go:189", #[], none⟩ ?_
  (try simp only [Act.put, u1, u2, u3])
  refine rk 2 rfl (fun K hK => ?_)
  go_simp
  go_at_call 118
  refine (rdCart w4.drew B g a len cap (HD4.out.rd.kept (w' := w4.drew) fun _ _ => rfl)).mono ?_
  rintro e z1 ⟨y, rfl, hy, hg1, hr1⟩
  have hg1' : w4.grownBy z1 (some g) := ⟨hg1.os, hg1.tape, hg1.output, hg1.size, hg1.block⟩
  have HD5 := Lib.hid (HD4.out.step hg1' hr1)
  have HC5 := Lib.hid ((hg1'.block cb hcl (by intro e; injection e with e; exact hcg e)).trans HC4.out)
  have HY5 := Lib.hid (hy.more (lo' := w.heap.size) (hi' := z1.heap.size) (by show _ ≤ w4.heap.size; omega) (Nat.le_refl _))
  have HX5 := Lib.hid ((HX4.out.kept fun j h1 h2 => hg1'.block j (by omega) (by intro e; injection e with e; omega)).more hw2 (by have := hg1'.size; omega : cb ≤ z1.heap.size))
  have hS1 : z1.cell? ⟨cb, 0, none⟩ = some (.slice x.va 4 x.vc) ∧ z1.cell? ⟨cb, 1, none⟩ = some (.slice x.oa x.no x.oc) := pair_cells HC5.out
  clear hy hg1 hr1 hg1'
  refine hK.out _ _ hS1 (fun hHeld2 => ?_)
  clear hK K
  (try simp only [Act.put, u1, u2, u3])
  obtain ⟨HFa, HFb, HF⟩ := HD5.out.out HX5.out HY5.out
  obtain ⟨r0, r1⟩ := pair_cells HD5.out.ra
  obtain ⟨f0, f1⟩ := pair_frozen HD5.out.ra
  have hSa : ((z1.setCell ⟨w.heap.size, 0, none⟩ (.slice x.va 4 x.vc)).setCell ⟨w.heap.size, 1, none⟩ (.slice x.oa x.no x.oc)).cell? ⟨cb, 0, none⟩ = some (.slice x.va 4 x.vc) ∧ ((z1.setCell ⟨w.heap.size, 0, none⟩ (.slice x.va 4 x.vc)).setCell ⟨w.heap.size, 1, none⟩ (.slice x.oa x.no x.oc)).cell? ⟨cb, 1, none⟩ = some (.slice x.oa x.no x.oc) := pair_cells ((pair_other _ _ (by omega)).trans HC5.out)
  refine rk 3 rfl (fun K hK => ?_)
  go_simp
  refine hK.out _ _ hSa (fun hHeld3 => ?_)
  clear hK K
  (try simp only [Act.put, u1, u2, u3])
  clear r0 r1 f0 f1
  have hrb : ((z1.setCell ⟨w.heap.size, 0, none⟩ (.slice x.va 4 x.vc)).setCell ⟨w.heap.size, 1, none⟩ (.slice x.oa x.no x.oc)).heap[w.heap.size + 1]? = _ := (pair_other _ _ (by omega)).trans HD5.out.rb
  obtain ⟨r0, r1⟩ := pair_cells hrb
  obtain ⟨f0, f1⟩ := pair_frozen hrb
  clear hrb
  have hSb : ((((z1.setCell ⟨w.heap.size, 0, none⟩ (.slice x.va 4 x.vc)).setCell ⟨w.heap.size, 1, none⟩ (.slice x.oa x.no x.oc)).setCell ⟨w.heap.size + 1, 0, none⟩ (.slice y.va 4 y.vc)).setCell ⟨w.heap.size + 1, 1, none⟩ (.slice y.oa y.no y.oc)).cell? ⟨cb, 0, none⟩ = some (.slice x.va 4 x.vc) ∧ ((((z1.setCell ⟨w.heap.size, 0, none⟩ (.slice x.va 4 x.vc)).setCell ⟨w.heap.size, 1, none⟩ (.slice x.oa x.no x.oc)).setCell ⟨w.heap.size + 1, 0, none⟩ (.slice y.va 4 y.vc)).setCell ⟨w.heap.size + 1, 1, none⟩ (.slice y.oa y.no y.oc)).cell? ⟨cb, 1, none⟩ = some (.slice x.oa x.no x.oc) := pair_cells ((pair_other _ _ (by omega)).trans <| (pair_other _ _ (by omega)).trans HC5.out)
  refine rk 4 rfl (fun K hK => ?_)
  go_simp
  refine hK.out _ _ hSb (fun hHeld4 => ?_)
  clear hK K
  (try simp only [Act.put, u1, u2, u3])
  refine wpAnyH_done (by kernel_rfl) ?_ _
  clear r0 r1 f0 f1 hSa hSb
  generalize (((z1.setCell ⟨w.heap.size, 0, none⟩ (.slice x.va 4 x.vc)).setCell ⟨w.heap.size, 1, none⟩ (.slice x.oa x.no x.oc)).setCell ⟨w.heap.size + 1, 0, none⟩ (.slice y.va 4 y.vc)).setCell ⟨w.heap.size + 1, 1, none⟩ (.slice y.oa y.no y.oc) = wf at HFa HFb HF ⊢
  obtain ⟨p0, p1⟩ := pair_cells HFa.out
  obtain ⟨p2, p3⟩ := pair_cells HFb.out
  go_wp2
  exact bodyPost_ret (v := .tuple #[.agg #[.slice x.va 4 x.vc, .slice x.oa x.no x.oc], .agg #[.slice y.va 4 y.vc, .slice y.oa y.no y.oc]]) (by simp [results, Try.results71, go_sem, p0, p1, p2, p3]) rfl HF.out
 go_wp2_with fail
 refine (rdCartsI w2 B g a len cap HD2.out.rd 3 20 (by omega) (by omega) (by omega) 3 20 rfl rfl).mono ?_
 rintro e w3 ⟨q, c, l, rfl, hl3⟩
 have hw2 := HD2.out.bel.size
 have hs3 := hl3.grown.size
 have hn3 := hl3.num
 have hlo := hl3.row.lo
 have HD3 := Lib.hid (HD2.out.step hl3.grown hl3.rd)
 have HX := Lib.hid ((CrtC.weak (hl3.row.crt 0 (by omega))).more hw2 (Nat.le_refl _))
 have HY := Lib.hid ((CrtC.weak (hl3.row.crt 1 (by omega))).more hw2 (Nat.le_refl _))
 have hq2 : w.heap.size + 1 < w2.heap.size := (Array.getElem?_eq_some_iff.1 HD2.out.rb).1
 obtain ⟨cs, hcs⟩ : ∃ cs, w3.heap[q]? = some (.cells cs 29 (0, 0)) := by
  obtain ⟨cs, h, _⟩ := hl3.row.cells
  exact ⟨cs, h⟩
 have HQ := Lib.hid hcs
 have k0 : w3.cell? ⟨q, 0, none⟩ = some (.slice (cAt l 0).va 4 (cAt l 0).vc) := (hl3.cell 0 (by omega)).1
 have k1 : w3.cell? ⟨q, 1, none⟩ = some (.slice (cAt l 0).oa (cAt l 0).no (cAt l 0).oc) := (hl3.cell 0 (by omega)).2
 have k2 : w3.cell? ⟨q, 2, none⟩ = some (.slice (cAt l 1).va 4 (cAt l 1).vc) := (hl3.cell 1 (by omega)).1
 have k3 : w3.cell? ⟨q, 3, none⟩ = some (.slice (cAt l 1).oa (cAt l 1).no (cAt l 1).oc) := (hl3.cell 1 (by omega)).2
 clear hl3 hn3 HD2 hcs
 generalize cAt l 0 = x at k0 k1 HX
 generalize cAt l 1 = y at k2 k3 HY
 go_upto_region 6 with fail
 have hS : w3.drew.cell? ⟨q, 0, none⟩ = some (.slice x.va 4 x.vc) ∧ w3.drew.cell? ⟨q, 1, none⟩ = some (.slice x.oa x.no x.oc) ∧ w3.drew.cell? ⟨q, 2, none⟩ = some (.slice y.va 4 y.vc) ∧ w3.drew.cell? ⟨q, 3, none⟩ = some (.slice y.oa y.no y.oc) := ⟨k0, k1, k2, k3⟩
 obtain ⟨z1, hz1e⟩ : ∃ z1, w3.drew = z1 := ⟨_, rfl⟩
 have gz : Below w3.heap.size w3 z1 := by rw [← hz1e]; exact ⟨rfl, rfl, rfl, Nat.le_refl _, fun _ _ => rfl⟩
 have HD5 := Lib.hid (HD3.out.step (grown_of gz) (HD3.out.rd.grown (grown_no gz) fun k hk => by cases hk))
 have HX5 := Lib.hid ((HX.out.kept fun j _ h2 => gz.block j h2).more (Nat.le_refl _) gz.size)
 have HY5 := Lib.hid ((HY.out.kept fun j _ h2 => gz.block j h2).more (Nat.le_refl _) gz.size)
 rw [hz1e] at hS
 refine wp_region_held_drew (S := fun w' => w'.cell? ⟨q, 0, none⟩ = some (.slice x.va 4 x.vc) ∧ w'.cell? ⟨q, 1, none⟩ = some (.slice x.oa x.no x.oc) ∧ w'.cell? ⟨q, 2, none⟩ = some (.slice y.va 4 y.vc) ∧ w'.cell? ⟨q, 3, none⟩ = some (.slice y.oa y.no y.oc)) (by kernel_rfl) (by rw [hz1e]; exact hS) (fun hHeld => ?_)
 rw [hz1e]
 clear hHeld hz1e gz HD3 HX HY k0 k1 k2 k3
 refine tk 0 ⟨some 18, .move (.tmp 6), 86, "l04_carts.go:192", #[], none⟩ ?_
 (try simp only [Act.put, u1, u2, u3])
 refine tk 1 ⟨some 19, .indexAddr 86 (.tmp 18) (.const (Value.int IntKind.i64 0)), 0, "l04_carts.go:192", #[⟨0, .data⟩], none⟩ ?_
 (try simp only [Act.put, u1, u2, u3])
 refine tk 2 ⟨some 20, .load 29 (.tmp 19), 29, "l04_carts.go:192", #[⟨1, .data⟩], none⟩ ?_
 (try simp only [Act.put, u1, u2, u3])
 refine tk 3 ⟨some 21, .move (.tmp 6), 86, "l04_carts.go:192", #[{ on := 6, ground := Ground.gcOnly Departure.lateStores }], none⟩ ?_
 (try simp only [Act.put, u1, u2, u3])
 refine tk 4 ⟨some 22, .indexAddr 86 (.tmp 21) (.const (Value.int IntKind.i64 1)), 0, "l04_carts.go:192", #[⟨3, .data⟩, { on := 6, ground := Ground.gcOnly Departure.lateStores }], none⟩ ?_
 (try simp only [Act.put, u1, u2, u3])
 refine tk 5 ⟨some 23, .load 29 (.tmp 22), 29, "l04_carts.go:192", #[⟨4, .data⟩, { on := 6, ground := Ground.gcOnly Departure.lateStores }], none⟩ ?_
 (try simp only [Act.put, u1, u2, u3])
 have hqa : q ≠ w.heap.size := by omega
 have hqb : q ≠ w.heap.size + 1 := by omega
 obtain ⟨HFa, HFb, HF⟩ := HD5.out.out HX5.out HY5.out
 obtain ⟨r0, r1⟩ := pair_cells HD5.out.ra
 obtain ⟨f0, f1⟩ := pair_frozen HD5.out.ra
 have hSa : ((z1.setCell ⟨w.heap.size, 0, none⟩ (.slice x.va 4 x.vc)).setCell ⟨w.heap.size, 1, none⟩ (.slice x.oa x.no x.oc)).cell? ⟨q, 0, none⟩ = some (.slice x.va 4 x.vc) ∧ ((z1.setCell ⟨w.heap.size, 0, none⟩ (.slice x.va 4 x.vc)).setCell ⟨w.heap.size, 1, none⟩ (.slice x.oa x.no x.oc)).cell? ⟨q, 1, none⟩ = some (.slice x.oa x.no x.oc) ∧ ((z1.setCell ⟨w.heap.size, 0, none⟩ (.slice x.va 4 x.vc)).setCell ⟨w.heap.size, 1, none⟩ (.slice x.oa x.no x.oc)).cell? ⟨q, 2, none⟩ = some (.slice y.va 4 y.vc) ∧ ((z1.setCell ⟨w.heap.size, 0, none⟩ (.slice x.va 4 x.vc)).setCell ⟨w.heap.size, 1, none⟩ (.slice x.oa x.no x.oc)).cell? ⟨q, 3, none⟩ = some (.slice y.oa y.no y.oc) := ⟨(World.cell?_of_block (a := ⟨q, _, none⟩) (pair_other _ _ hqa)).trans hS.1, (World.cell?_of_block (a := ⟨q, _, none⟩) (pair_other _ _ hqa)).trans hS.2.1, (World.cell?_of_block (a := ⟨q, _, none⟩) (pair_other _ _ hqa)).trans hS.2.2.1, (World.cell?_of_block (a := ⟨q, _, none⟩) (pair_other _ _ hqa)).trans hS.2.2.2⟩
 refine rk 6 rfl (fun K hK => ?_)
 go_simp
 refine hK.out _ _ hSa (fun hHeld3 => ?_)
 clear hK K
 (try simp only [Act.put, u1, u2, u3])
 clear r0 r1 f0 f1
 have hrb : ((z1.setCell ⟨w.heap.size, 0, none⟩ (.slice x.va 4 x.vc)).setCell ⟨w.heap.size, 1, none⟩ (.slice x.oa x.no x.oc)).heap[w.heap.size + 1]? = _ := (pair_other _ _ (by omega)).trans HD5.out.rb
 obtain ⟨r0, r1⟩ := pair_cells hrb
 obtain ⟨f0, f1⟩ := pair_frozen hrb
 clear hrb
 have hSb : ((((z1.setCell ⟨w.heap.size, 0, none⟩ (.slice x.va 4 x.vc)).setCell ⟨w.heap.size, 1, none⟩ (.slice x.oa x.no x.oc)).setCell ⟨w.heap.size + 1, 0, none⟩ (.slice y.va 4 y.vc)).setCell ⟨w.heap.size + 1, 1, none⟩ (.slice y.oa y.no y.oc)).cell? ⟨q, 0, none⟩ = some (.slice x.va 4 x.vc) ∧ ((((z1.setCell ⟨w.heap.size, 0, none⟩ (.slice x.va 4 x.vc)).setCell ⟨w.heap.size, 1, none⟩ (.slice x.oa x.no x.oc)).setCell ⟨w.heap.size + 1, 0, none⟩ (.slice y.va 4 y.vc)).setCell ⟨w.heap.size + 1, 1, none⟩ (.slice y.oa y.no y.oc)).cell? ⟨q, 1, none⟩ = some (.slice x.oa x.no x.oc) ∧ ((((z1.setCell ⟨w.heap.size, 0, none⟩ (.slice x.va 4 x.vc)).setCell ⟨w.heap.size, 1, none⟩ (.slice x.oa x.no x.oc)).setCell ⟨w.heap.size + 1, 0, none⟩ (.slice y.va 4 y.vc)).setCell ⟨w.heap.size + 1, 1, none⟩ (.slice y.oa y.no y.oc)).cell? ⟨q, 2, none⟩ = some (.slice y.va 4 y.vc) ∧ ((((z1.setCell ⟨w.heap.size, 0, none⟩ (.slice x.va 4 x.vc)).setCell ⟨w.heap.size, 1, none⟩ (.slice x.oa x.no x.oc)).setCell ⟨w.heap.size + 1, 0, none⟩ (.slice y.va 4 y.vc)).setCell ⟨w.heap.size + 1, 1, none⟩ (.slice y.oa y.no y.oc)).cell? ⟨q, 3, none⟩ = some (.slice y.oa y.no y.oc) := ⟨(World.cell?_of_block (a := ⟨q, _, none⟩) ((pair_other _ _ hqb).trans (pair_other _ _ hqa))).trans hS.1, (World.cell?_of_block (a := ⟨q, _, none⟩) ((pair_other _ _ hqb).trans (pair_other _ _ hqa))).trans hS.2.1, (World.cell?_of_block (a := ⟨q, _, none⟩) ((pair_other _ _ hqb).trans (pair_other _ _ hqa))).trans hS.2.2.1, (World.cell?_of_block (a := ⟨q, _, none⟩) ((pair_other _ _ hqb).trans (pair_other _ _ hqa))).trans hS.2.2.2⟩
 refine rk 7 rfl (fun K hK => ?_)
 go_simp
 refine hK.out _ _ hSb (fun hHeld4 => ?_)
 clear hK K
 (try simp only [Act.put, u1, u2, u3])
 refine wpAnyH_done (by kernel_rfl) ?_ _
 clear r0 r1 f0 f1 hSa hSb
 generalize (((z1.setCell ⟨w.heap.size, 0, none⟩ (.slice x.va 4 x.vc)).setCell ⟨w.heap.size, 1, none⟩ (.slice x.oa x.no x.oc)).setCell ⟨w.heap.size + 1, 0, none⟩ (.slice y.va 4 y.vc)).setCell ⟨w.heap.size + 1, 1, none⟩ (.slice y.oa y.no y.oc) = wf at HFa HFb HF ⊢
 obtain ⟨p0, p1⟩ := pair_cells HFa.out
 obtain ⟨p2, p3⟩ := pair_cells HFb.out
 go_wp2
 exact bodyPost_ret (v := .tuple #[.agg #[.slice x.va 4 x.vc, .slice x.oa x.no x.oc], .agg #[.slice y.va 4 y.vc, .slice y.oa y.no y.oc]]) (by simp [results, Try.results71, go_sem, p0, p1, p2, p3]) rfl HF.out
set_option linter.unusedVariables false
set_option linter.unusedSimpArgs false

/-- Two blocks for results, laid first. -/
structure D3 (w wr : World) (u v : Array Value) : Prop where
 ra : wr.heap[w.heap.size]? = some (.cells u 29 (0, 0))
 rb : wr.heap[w.heap.size + 1]? = some (.cells v 29 (0, 0))
 bel : Below w.heap.size w wr
theorem D3.next {w wr w1 : World} {u v : Array Value} (h : D3 w wr u v) (hb : Below wr.heap.size wr w1) : D3 w w1 u v :=
 ⟨(hb.block _ (lt_of_row h.ra)).trans h.ra, (hb.block _ (lt_of_row h.rb)).trans h.rb, h.bel.trans (hb.mono h.bel.size)⟩
theorem D3.out {w z : World} {u0 u1 v0 v1 : Value} {x y : CartC} (h : D3 w z #[u0, u1] #[v0, v1]) (hx : Crw z w.heap.size z.heap.size x) (hy : Crw z w.heap.size z.heap.size y) :
  Hid (((((z.setCell ⟨w.heap.size, 0, none⟩ (.slice x.va 4 x.vc)).setCell ⟨w.heap.size, 1, none⟩ (.slice x.oa x.no x.oc)).setCell ⟨w.heap.size + 1, 0, none⟩ (.slice y.va 4 y.vc)).setCell ⟨w.heap.size + 1, 1, none⟩ (.slice y.oa y.no y.oc)).heap[w.heap.size]? = some (.cells #[.slice x.va 4 x.vc, .slice x.oa x.no x.oc] 29 (0, 0))) ∧
  Hid (((((z.setCell ⟨w.heap.size, 0, none⟩ (.slice x.va 4 x.vc)).setCell ⟨w.heap.size, 1, none⟩ (.slice x.oa x.no x.oc)).setCell ⟨w.heap.size + 1, 0, none⟩ (.slice y.va 4 y.vc)).setCell ⟨w.heap.size + 1, 1, none⟩ (.slice y.oa y.no y.oc)).heap[w.heap.size + 1]? = some (.cells #[.slice y.va 4 y.vc, .slice y.oa y.no y.oc] 29 (0, 0))) ∧
  Hid (DrawsTwo w (.returned (.tuple #[.agg #[.slice x.va 4 x.vc, .slice x.oa x.no x.oc], .agg #[.slice y.va 4 y.vc, .slice y.oa y.no y.oc]])) ((((z.setCell ⟨w.heap.size, 0, none⟩ (.slice x.va 4 x.vc)).setCell ⟨w.heap.size, 1, none⟩ (.slice x.oa x.no x.oc)).setCell ⟨w.heap.size + 1, 0, none⟩ (.slice y.va 4 y.vc)).setCell ⟨w.heap.size + 1, 1, none⟩ (.slice y.oa y.no y.oc))) := by
 have e1 := pair_set (.slice x.va 4 x.vc) (.slice x.oa x.no x.oc) h.ra
 have hb : ((z.setCell ⟨w.heap.size, 0, none⟩ (.slice x.va 4 x.vc)).setCell ⟨w.heap.size, 1, none⟩ (.slice x.oa x.no x.oc)).heap[w.heap.size + 1]? = some (.cells #[v0, v1] 29 (0, 0)) := (pair_other _ _ (by omega)).trans h.rb
 have e2 := pair_set (.slice y.va 4 y.vc) (.slice y.oa y.no y.oc) hb
 have z1 := pair_size z w.heap.size (.slice x.va 4 x.vc) (.slice x.oa x.no x.oc)
 have z2 := pair_size ((z.setCell ⟨w.heap.size, 0, none⟩ (.slice x.va 4 x.vc)).setCell ⟨w.heap.size, 1, none⟩ (.slice x.oa x.no x.oc)) (w.heap.size + 1) (.slice y.va 4 y.vc) (.slice y.oa y.no y.oc)
 have kp : ∀ c : CartC, Crw z w.heap.size z.heap.size c → Crw ((((z.setCell ⟨w.heap.size, 0, none⟩ (.slice x.va 4 x.vc)).setCell ⟨w.heap.size, 1, none⟩ (.slice x.oa x.no x.oc)).setCell ⟨w.heap.size + 1, 0, none⟩ (.slice y.va 4 y.vc)).setCell ⟨w.heap.size + 1, 1, none⟩ (.slice y.oa y.no y.oc)) w.heap.size ((((z.setCell ⟨w.heap.size, 0, none⟩ (.slice x.va 4 x.vc)).setCell ⟨w.heap.size, 1, none⟩ (.slice x.oa x.no x.oc)).setCell ⟨w.heap.size + 1, 0, none⟩ (.slice y.va 4 y.vc)).setCell ⟨w.heap.size + 1, 1, none⟩ (.slice y.oa y.no y.oc)).heap.size c := fun c hc => by
  rw [z2, z1]
  have c1 : Crw ((z.setCell ⟨w.heap.size, 0, none⟩ (.slice x.va 4 x.vc)).setCell ⟨w.heap.size, 1, none⟩ (.slice x.oa x.no x.oc)) w.heap.size z.heap.size c := hc.other h.ra fun j _ _ hne => pair_other _ _ hne
  exact c1.other hb fun j _ _ hne => pair_other _ _ hne
 exact ⟨(pair_other _ _ (by omega)).trans e1, e2, x, y, rfl, kp x hx, kp y hy, (h.bel.trans (below_set2 z w.heap.size 0 1 _ _)).trans ((below_set2 _ (w.heap.size + 1) 0 1 _ _).mono (by omega))⟩
/-- Ints, whose row lies from lo on. -/
def IntsIn (w : World) (lo hi : Nat) (a : Option Addr) (n : Nat) (xs : List Int) : Prop := Ints w hi a n xs ∧ ∀ b off, 0 < n → a = some ⟨b, off, none⟩ → lo ≤ b
theorem IntsIn.grown {w w' : World} {lo hi g : Nat} {a : Option Addr} {n : Nat} {xs : List Int} (h : IntsIn w lo hi a n xs) (hg : w.grownBy w' (some g)) (hgl : g < lo) (hh : hi ≤ w.heap.size) : IntsIn w' lo hi a n xs :=
 ⟨⟨h.1.1, fun i hi' => by
  obtain ⟨b, o, e, hb, hc⟩ := h.1.2 i hi'
  have hlo := h.2 b o (by omega) e
  exact ⟨b, o, e, hb, (World.cell?_of_block (a := ⟨b, o + i, none⟩) (hg.block b (by omega) (fun e' => by cases e'; omega))).trans hc⟩⟩, h.2⟩
set_option linter.unusedVariables false
set_option linter.unusedSimpArgs false

/-- A block for the result, laid first, beside a reader. -/
structure D1 (w wr : World) (B g : Nat) (a : Option Addr) (len cap : Nat) (u : Array Value) : Prop where
 ra : wr.heap[w.heap.size]? = some (.cells u 29 (0, 0))
 bel : Below w.heap.size w wr
 rd : Rd wr B g a len cap
 glt : w.heap.size < g
theorem D1.step {w wr w1 : World} {B g : Nat} {a : Option Addr} {len cap : Nat} {u : Array Value} (h : D1 w wr B g a len cap u) (hg : wr.grownBy w1 (some g)) (hr : Rd w1 B g a len cap) : D1 w w1 B g a len cap u := by
 have hgl := h.glt
 have hs := h.bel.size
 have hk : ∀ j, j < wr.heap.size → j ≠ g → w1.heap[j]? = wr.heap[j]? := fun j h1 h2 => hg.block j h1 (by intro e; injection e with e; exact h2 e)
 exact ⟨(hk _ (Array.getElem?_eq_some_iff.1 h.ra).1 (by omega)).trans h.ra, h.bel.grown hg hs (fun k hk => by cases hk; omega), hr, hgl⟩
theorem D1.box {w wr : World} {B g : Nat} {a : Option Addr} {len cap : Nat} {u : Array Value} (h : D1 w wr B g a len cap u) (ob : Obj) : D1 w (wr.alloc ob) B g a len cap u := by
 have hal : Below wr.heap.size wr (wr.alloc ob) := bl
 exact h.step (grown_of hal) (h.rd.grown (grown_no hal) fun k hk => by cases hk)
theorem IntsIn.set2 {z : World} {lo hi b n : Nat} {a : Option Addr} {xs : List Int} {u v : Value} (h : IntsIn z lo hi a n xs) (hb : b < lo) : IntsIn ((z.setCell ⟨b, 0, none⟩ u).setCell ⟨b, 1, none⟩ v) lo hi a n xs :=
 ⟨⟨h.1.1, fun i hi' => by
  obtain ⟨bb, o, e, hbb, hc⟩ := h.1.2 i hi'
  have hlo := h.2 bb o (by omega) e
  exact ⟨bb, o, e, hbb, (World.cell?_of_block (a := ⟨bb, o + i, none⟩) (pair_other (k := bb) _ _ (by omega))).trans hc⟩⟩, h.2⟩
set_option linter.unusedVariables false
set_option linter.unusedSimpArgs false

set_option maxHeartbeats 80000000 in
theorem drawDeltaOf (w : World) (B : Nat) (a : Option Addr) (len cap : Nat) (hB : B ≤ w.heap.size) (h : Src w B a len) :
  Calls Try.prog 20 #[.slice a len cap] w (DrawsTwo w) := by
 have hT := Two.mk0 w #[.slice none 0 0, .slice none 0 0] #[.slice none 0 0, .slice none 0 0] 29
 have HS0 := Lib.hid (h.kept (w' := (w.alloc (.cells #[.slice none 0 0, .slice none 0 0] 29)).alloc (.cells #[.slice none 0 0, .slice none 0 0] 29)) fun k hk => hT.bel.block k (by omega))
 have HD0 : Hid (D3 w ((w.alloc (.cells #[.slice none 0 0, .slice none 0 0] 29)).alloc (.cells #[.slice none 0 0, .slice none 0 0] 29)) #[.slice none 0 0, .slice none 0 0] #[.slice none 0 0, .slice none 0 0]) := ⟨hT.fst, hT.snd, hT.bel⟩
 clear h hT
 go_enter Try.func20, Try.ntmps20
 go_wp2_with fail
 generalize (w.alloc (.cells #[.slice none 0 0, .slice none 0 0] 29)).alloc (.cells #[.slice none 0 0, .slice none 0 0] 29) = w0 at HS0 HD0 ⊢
 have hs0 := HD0.out.bel.size
 have hlt0 := lt_of_row HD0.out.rb
 refine (drawMerged w0 B a len cap (by omega) HS0.out).mono ?_
 rintro e w1 ⟨x, y, rfl, hx, hy, hb1⟩
 have HD1 := Lib.hid (HD0.out.next hb1)
 have hs1 := hb1.size
 obtain ⟨HE0, HE1, HE2⟩ := HD1.out.out (hx.more (by omega) (Nat.le_refl _)) (hy.more (by omega) (Nat.le_refl _))
 obtain ⟨r0, r1⟩ := pair_cells HD1.out.ra
 obtain ⟨f0, f1⟩ := pair_frozen HD1.out.ra
 obtain ⟨r2, r3⟩ := pair_cells HD1.out.rb
 obtain ⟨f2, f3⟩ := pair_frozen HD1.out.rb
 clear hx hy hb1 HD0 HD1 HS0
 go_wp2
 change bodyPost _ _ _ _ _ ((((w1.setCell ⟨w.heap.size, 0, none⟩ (.slice x.va 4 x.vc)).setCell ⟨w.heap.size, 1, none⟩ (.slice x.oa x.no x.oc)).setCell ⟨w.heap.size + 1, 0, none⟩ (.slice y.va 4 y.vc)).setCell ⟨w.heap.size + 1, 1, none⟩ (.slice y.oa y.no y.oc))
 generalize (((w1.setCell ⟨w.heap.size, 0, none⟩ (.slice x.va 4 x.vc)).setCell ⟨w.heap.size, 1, none⟩ (.slice x.oa x.no x.oc)).setCell ⟨w.heap.size + 1, 0, none⟩ (.slice y.va 4 y.vc)).setCell ⟨w.heap.size + 1, 1, none⟩ (.slice y.oa y.no y.oc) = wf at HE0 HE1 HE2 ⊢
 obtain ⟨q0, q1⟩ := pair_cells HE0.out
 obtain ⟨q2, q3⟩ := pair_cells HE1.out
 exact bodyPost_ret (v := .tuple #[.agg #[.slice x.va 4 x.vc, .slice x.oa x.no x.oc], .agg #[.slice y.va 4 y.vc, .slice y.oa y.no y.oc]]) (by simp [results, Try.results20, go_sem, q0, q1, q2, q3]) rfl HE2.out
set_option linter.unusedVariables false
set_option linter.unusedSimpArgs false

/-- A row of operations above a block, and not in another one. -/
def OpsFar (w : World) (lo p : Nat) (a : Option Addr) (n : Nat) (l : List OpV) : Prop := Ops w w.heap.size a n l ∧ ∀ b o, 0 < n → a = some ⟨b, o, none⟩ → lo ≤ b ∧ b ≠ p
def IntsFar (w : World) (lo p : Nat) (a : Option Addr) (n : Nat) (xs : List Int) : Prop := Ints w w.heap.size a n xs ∧ ∀ b o, 0 < n → a = some ⟨b, o, none⟩ → lo ≤ b ∧ b ≠ p
theorem OpsFar.kept {w w' : World} {lo p n : Nat} {a : Option Addr} {l : List OpV} (h : OpsFar w lo p a n l) (hk : ∀ j, lo ≤ j → j < w.heap.size → j ≠ p → w'.heap[j]? = w.heap[j]?) (hs : w.heap.size ≤ w'.heap.size) : OpsFar w' lo p a n l :=
 ⟨⟨h.1.1, fun i hi => by
  obtain ⟨b, off, e, hb, ho⟩ := h.1.2 i hi
  obtain ⟨h1, h2⟩ := h.2 b off (by omega) e
  exact ⟨b, off, e, by omega, ho.kept (hk b h1 hb h2)⟩⟩, h.2⟩
theorem IntsFar.kept {w w' : World} {lo p n : Nat} {a : Option Addr} {xs : List Int} (h : IntsFar w lo p a n xs) (hk : ∀ j, lo ≤ j → j < w.heap.size → j ≠ p → w'.heap[j]? = w.heap[j]?) (hs : w.heap.size ≤ w'.heap.size) : IntsFar w' lo p a n xs :=
 ⟨⟨h.1.1, fun i hi => by
  obtain ⟨b, off, e, hb, ho⟩ := h.1.2 i hi
  obtain ⟨h1, h2⟩ := h.2 b off (by omega) e
  exact ⟨b, off, e, by omega, (World.cell?_of_block (a := ⟨b, off + i, none⟩) (hk b h1 hb h2)).trans ho⟩⟩, h.2⟩
theorem far_ints {w : World} {lo p l0 h0 n : Nat} {a : Option Addr} {xs : List Int} (h : Own w l0 h0 a n xs) (hlo : lo ≤ l0) (hp : p < l0 ∨ h0 ≤ p) (hs : h0 ≤ w.heap.size) : IntsFar w lo p a n xs :=
 ⟨h.ints.more hs, fun b o hn e => by
  obtain ⟨g, cs, e1, g1, g2, _⟩ := h.2 hn
  rw [e] at e1
  injection e1 with e1
  injection e1 with e1
  omega⟩
theorem delOs_items {l m : List OpV} {N : Nat} (R : Bool) (h : ∀ i, i < l.length → (atOp l i).item.size ≤ N) : ∀ i, i < (delOs l m R).length → (atOp (delOs l m R) i).item.size ≤ N := by
 unfold delOs
 split
 ·exact filt_items2 h
 ·intro i hi; exact absurd hi (by simp)
end Go.Proofs.Ytdbdmfaphdjdpaa
