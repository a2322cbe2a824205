/- Walks and mathematics that several claims share, part 38. -/
import Derived.Test.YtjokbaaommicmaaGreatDoorGb28
import Derived.Test.YtjokbaaommicmaaGreatDoorGb30
import Derived.Test.YtjokbaaommicmaaGreatDoorGb23
import Derived.Test.YtjokbaaommicmaaGreatDoorGbA
namespace Go.Proofs.YtjokbaaommicmaaGreatDoor
set_option maxRecDepth 100000
open Go.RowKit

/-- What a call answers that hands back a cart of its own and a code. -/
def IssN (code : Int) (zs : List Int) (L : List OpV) (w : World) (e : Ending) (w' : World) : Prop := ∃ va vc oa oc, e = .returned (.tuple #[.agg #[.slice va zs.length vc, .slice oa L.length oc], .int .i64 code]) ∧ Own w' w.heap.size w'.heap.size va zs.length zs ∧ OwnOps w' w.heap.size w'.heap.size oa L.length L ∧ Below w.heap.size w w' ∧ Caps va zs.length vc ∧ Caps oa L.length oc
def TglP (xs : List Int) (l : List OpV) (dev seq : Int) (w : World) (e : Ending) (w' : World) : Prop :=
 ((∀ j, j < l.length → ¬ ((atOp l j).dev = dev ∧ (atOp l j).seq = seq)) ∧ IssN 2 [] [] w e w') ∨ ∃ i, i < l.length ∧ ((atOp l i).dev = dev ∧ (atOp l i).seq = seq) ∧ (((atOp l i).undos = 50 ∧ IssN 4 [] [] w e w') ∨ ((atOp l i).undos ≠ 50 ∧ IssN 0 xs (togU l i) w e w'))
/-- An operation's count of takings back, raised where it lies. -/
theorem OwnOps.bump {w : World} {lo hi : Nat} {a : Option Addr} {l : List OpV} {i : Nat} (h : OwnOps w lo hi a l.length l) (hi' : i < l.length) :
  ∃ g off, a = some ⟨g, off, none⟩ ∧ lo ≤ g ∧ g < hi ∧ w.cell? ⟨g, off + i * 8 + 7, none⟩ = some (.int .i64 (atOp l i).undos) ∧ w.frozen? ⟨g, off + i * 8 + 7, none⟩ = false ∧ (∃ cs, w.heap[g]? = some (.cells cs 93 (0, 0))) ∧
   OwnOps (w.setCell ⟨g, off + i * 8 + 7, none⟩ (.int .i64 ((atOp l i).undos + 1))) lo hi a (togU l i).length (togU l i) := by
 obtain ⟨g, off, cs, e, h1, h2, hg, hs, hc⟩ := h.2 (by omega)
 have hx := hc i hi'
 refine ⟨g, off, e, h1, h2, (hx.at hg).2.2.2.2.2.2.2, frozen_of_row _ _ _ _ _ hg, ⟨cs, hg⟩, rfl, fun hn => ⟨g, off, cs.setIfInBounds (off + i * 8 + 7) (.int .i64 ((atOp l i).undos + 1)), e, h1, h2, heap_setCell_same _ _ _ _ _ _ hg, by rw [togL_len]; simpa using hs, fun j hj => ?_⟩⟩
 rw [togL_len] at hj
 have hy := hc j hj
 unfold togU
 rw [set_getD hi']
 by_cases e2 : i = j
 ·subst e2
  rw [if_pos rfl]
  obtain ⟨y0, y1, y2, y3, y4, y5, y6, y7⟩ := hy
  have ne : ∀ q, q < 7 → (cs.setIfInBounds (off + i * 8 + 7) (.int .i64 ((atOp l i).undos + 1)))[off + i * 8 + q]? = cs[off + i * 8 + q]? := fun q hq => by rw [Array.getElem?_setIfInBounds, if_neg (by omega)]
  refine ⟨(ne 0 (by omega)).trans y0, (ne 1 (by omega)).trans y1, (ne 2 (by omega)).trans y2, (ne 3 (by omega)).trans y3, (ne 4 (by omega)).trans y4, (ne 5 (by omega)).trans y5, (ne 6 (by omega)).trans y6, ?_⟩
  rw [Array.getElem?_setIfInBounds, if_pos rfl, if_pos (by omega)]
  rfl
 ·rw [if_neg e2]
  have ne : ∀ q, q < 8 → (cs.setIfInBounds (off + i * 8 + 7) (.int .i64 ((atOp l i).undos + 1)))[off + j * 8 + q]? = cs[off + j * 8 + q]? := fun q hq => by rw [Array.getElem?_setIfInBounds, if_neg (by omega)]
  obtain ⟨y0, y1, y2, y3, y4, y5, y6, y7⟩ := hy
  exact ⟨(ne 0 (by omega)).trans y0, (ne 1 (by omega)).trans y1, (ne 2 (by omega)).trans y2, (ne 3 (by omega)).trans y3, (ne 4 (by omega)).trans y4, (ne 5 (by omega)).trans y5, (ne 6 (by omega)).trans y6, (ne 7 (by omega)).trans y7⟩

set_option linter.unusedSimpArgs false in
set_option maxHeartbeats 20000000 in
theorem l6Toggle (w : World) (B : Nat) (av ao : Option Addr) (nv cv no co : Nat) (xs : List Int) (l : List OpV) (dev seq : Int) (hx : Ints w B av nv xs) (h : Ops w B ao no l) (hB : B ≤ w.heap.size) (hcv : av = none → cv = 0) (hco : ao = none → co = 0) (hv : nv ≤ 1048576) (hn : no ≤ 1048576) (hu : ∀ i, i < l.length → 0 ≤ (atOp l i).undos ∧ (atOp l i).undos ≤ 50) :
  Calls Tryz.prog 71 #[.agg #[.slice av nv cv, .slice ao no co], .int .i64 dev, .int .i64 seq] w (TglP xs l dev seq w) := by
 obtain rfl := h.1
 have hT := Two.mk0 w #[.slice av nv cv, .slice ao l.length co] #[.slice none 0 0, .slice none 0 0] 32
 have HV := Lib.hid (hx.below hT.bel hB)
 have HO := Lib.hid (h.below hT.bel hB)
 have HT := Lib.hid hT
 have HU := Lib.hid hu
 clear hx h hT hu
 go_enter Tryz.func71, Tryz.ntmps71
 go_upto_region 1 with fail
 generalize (w.alloc (.cells #[.slice av nv cv, .slice ao l.length co] 32)).alloc (.cells #[.slice none 0 0, .slice none 0 0] 32) = w0 at HV HO HT ⊢
 obtain ⟨q0, q1⟩ := pair_cells HT.out.fst
 have hsz := lt_of_row HT.out.snd
 go_wp2_with fail
 refine (l4AtT w0 B ao _ co l dev seq HO.out hn).mono ?_
 rintro e w1 ⟨rfl, ⟨i, hil, he1, he2, rfl⟩ | ⟨hno, rfl⟩⟩
 ·have hin : i < l.length := hil
  have he := And.intro he1 he2
  clear he1 he2
  obtain ⟨b, off, rfl, hb, ho⟩ := HO.out.2 i hin
  obtain ⟨u0, u50⟩ := HU.out i hil
  have hii : (i : Int) < (l.length : Int) := by omega
  have c7 := ho.2.2.2.2.2.2.2
  have HE := Lib.hid he
  obtain ⟨u, hue⟩ : ∃ u, u = (l.getD i OpV.zero).undos := ⟨_, rfl⟩
  rw [← hue] at c7
  have HUe : Hid (u = (atOp l i).undos) := hue
  have u0' : 0 ≤ u ∧ u ≤ 50 := by rw [HUe.out]; exact ⟨u0, u50⟩
  obtain ⟨v0, v50⟩ := u0'
  clear ho he hue u0 u50
  by_cases h50 : u = 50
  ·have hub : (u == 50) = true := by rw [h50]; rfl
   have H5 : Hid ((atOp l i).undos = 50) := HUe.out.symm.trans h50
   obtain ⟨r0, r1⟩ := pair_cells HT.out.snd
   obtain ⟨g0, g1⟩ := pair_frozen HT.out.snd
   have HX6 := Lib.hid (pair_set (.slice none 0 0) (.slice none 0 0) HT.out.snd)
   have HB6 : Hid (Below w.heap.size w ((w0.setCell ⟨w.heap.size + 1, 0, none⟩ (.slice none 0 0)).setCell ⟨w.heap.size + 1, 1, none⟩ (.slice none 0 0))) := HT.out.bel.trans ((below_set2 w0 (w.heap.size + 1) 0 1 _ _).mono (by omega))
   clear h50
   go_wp2
   generalize (w0.setCell ⟨w.heap.size + 1, 0, none⟩ (.slice none 0 0)).setCell ⟨w.heap.size + 1, 1, none⟩ (.slice none 0 0) = wf at HX6 HB6 ⊢
   obtain ⟨p0, p1⟩ := pair_cells HX6.out
   exact bodyPost_ret (v := .tuple #[.agg #[.slice none 0 0, .slice none 0 0], .int .i64 4]) (by simp [results, Tryz.results71, go_sem, p0, p1]) rfl (.inr ⟨i, hil, HE.out, .inl ⟨H5.out, none, 0, none, 0, rfl, own_nilP _ _ _ _, own_none _ _ _ _, HB6.out, caps_nil, caps_nil⟩⟩)
  ·have hub : (u == 50) = false := by rw [beq_eq_false_iff_ne]; exact h50
   have H5 : Hid ((atOp l i).undos ≠ 50) := fun e => h50 (HUe.out.trans e)
   clear h50
   go_wp2_with fail
   refine (l4Copy w0 B av _ nv cv _ co xs l HV.out HO.out (by have := HT.out.bel.size; omega) hcv (fun h => by cases h) hv hn).mono ?_
   rintro e w2 ⟨va, vc, oa, oc, rfl, hov, hop, hb2, hcav, hcao⟩
   have HT2 := Lib.hid (HT.out.next hb2)
   have hs2 := hb2.size
   clear hb2 q0 q1 c7 HV
   go_upto_region 7 with fail
   have hal : Below w2.heap.size w2 (w2.alloc (.cells #[.slice va xs.length vc, .slice oa l.length oc] 32)) := bl
   have HX3 : Hid ((w2.alloc (.cells #[.slice va xs.length vc, .slice oa l.length oc] 32)).heap[w2.heap.size]? = some (.cells #[.slice va xs.length vc, .slice oa l.length oc] 32 (0, 0))) := boxAt (Below.refl _ _)
   have HT3 := Lib.hid (HT2.out.next hal)
   have HOv3 := Lib.hid (hov.below hal (Nat.le_refl _))
   have HOp3 := Lib.hid (hop.below hal (Nat.le_refl _))
   have hs3 := hal.size
   clear hov hop HT2 hal
   generalize w2.alloc (.cells #[.slice va xs.length vc, .slice oa l.length oc] 32) = w3 at HX3 HT3 HOv3 HOp3 hs3 ⊢
   obtain ⟨g, o1, rfl, hg1, hg2, d7, f7, ⟨cs, hcs⟩, hbump⟩ := HOp3.out.bump hil
   rw [← HUe.out] at d7 hbump
   have HBump := Lib.hid hbump
   have HOv4 : Hid (Own (w3.setCell ⟨g, o1 + i * 8 + 7, none⟩ (.int .i64 (u + 1))) w0.heap.size w2.heap.size va xs.length xs) := by
    refine ⟨HOv3.out.1, fun hn0 => ?_⟩
    obtain ⟨q, cur, e, a1, a2, a3, a4⟩ := HOv3.out.2 hn0
    have hne : q ≠ g := by
     intro eq
     rw [eq, hcs] at a3
     injection a3 with a3
     injection a3 with _ a3
     exact absurd a3 (by decide)
    exact ⟨q, cur, e, a1, a2, (heap_setCell_other _ _ _ _ hne).trans a3, a4⟩
   have HX4 : Hid ((w3.setCell ⟨g, o1 + i * 8 + 7, none⟩ (.int .i64 (u + 1))).heap[w2.heap.size]? = some (.cells #[.slice va xs.length vc, .slice (some ⟨g, o1, none⟩) l.length oc] 32 (0, 0))) := (heap_setCell_other _ _ _ _ (by show w2.heap.size ≠ g; omega)).trans HX3.out
   have HR4 : Hid ((w3.setCell ⟨g, o1 + i * 8 + 7, none⟩ (.int .i64 (u + 1))).heap[w.heap.size + 1]? = some (.cells #[.slice none 0 0, .slice none 0 0] 32 (0, 0))) := (heap_setCell_other _ _ _ _ (by show w.heap.size + 1 ≠ g; omega)).trans HT3.out.snd
   have HB4 : Hid (Below w.heap.size w (w3.setCell ⟨g, o1 + i * 8 + 7, none⟩ (.int .i64 (u + 1)))) := HT3.out.bel.setCell (by show _ ≤ g; omega) _
   have hz4 : (w3.setCell ⟨g, o1 + i * 8 + 7, none⟩ (.int .i64 (u + 1))).heap.size = w3.heap.size := by simp [World.setCell]
   obtain ⟨x0, x1⟩ := pair_cells HX3.out
   have hu9 : u + 1 ≤ 51 := by omega
   have HCv := Lib.hid hcav
   have HBs : Hid (w.heap.size ≤ w0.heap.size) := HT.out.bel.size
   clear hbump hcs HOp3 HOv3 HT3 HX3 hcav
   go_upto_region 8 with fail
   generalize w3.setCell ⟨g, o1 + i * 8 + 7, none⟩ (.int .i64 (u + 1)) = w4 at HBump HOv4 HX4 HR4 HB4 hz4 ⊢
   clear x0 x1 d7 f7
   obtain ⟨x0, x1⟩ := pair_cells HX4.out
   obtain ⟨r0, r1⟩ := pair_cells HR4.out
   obtain ⟨f0, f1⟩ := pair_frozen HR4.out
   have HX5 := Lib.hid (pair_set (.slice va xs.length vc) (.slice (some ⟨g, o1, none⟩) l.length oc) HR4.out)
   have HBt := below_set2 w4 (w.heap.size + 1) 0 1 (.slice va xs.length vc) (.slice (some ⟨g, o1, none⟩) l.length oc)
   have HOt : ∀ j, j ≠ w.heap.size + 1 → ((w4.setCell ⟨w.heap.size + 1, 0, none⟩ (.slice va xs.length vc)).setCell ⟨w.heap.size + 1, 1, none⟩ (.slice (some ⟨g, o1, none⟩) l.length oc)).heap[j]? = w4.heap[j]? := fun j hj => pair_other _ _ hj
   have HZ := Lib.hid (pair_size w4 (w.heap.size + 1) (.slice va xs.length vc) (.slice (some ⟨g, o1, none⟩) l.length oc))
   have HB5 := Lib.hid (HB4.out.trans (HBt.mono (by omega)))
   have HOv5 := Lib.hid (HOv4.out.kept fun j h1 h2 => HOt j (by omega))
   have HOp5 := Lib.hid (HBump.out.kept fun j h1 h2 => HOt j (by omega))
   clear HBt HOt
   go_wp2
   generalize (w4.setCell ⟨w.heap.size + 1, 0, none⟩ (.slice va xs.length vc)).setCell ⟨w.heap.size + 1, 1, none⟩ (.slice (some ⟨g, o1, none⟩) l.length oc) = wf at HX5 HZ HB5 HOv5 HOp5 ⊢
   obtain ⟨p0, p1⟩ := pair_cells HX5.out
   have hzf := HZ.out
   have htl := togL_len l i
   refine bodyPost_ret (v := .tuple #[.agg #[.slice va xs.length vc, .slice (some ⟨g, o1, none⟩) l.length oc], .int .i64 0]) (by simp [results, Tryz.results71, go_sem, p0, p1]) rfl (.inr ⟨i, hil, HE.out, .inr ⟨H5.out, va, vc, some ⟨g, o1, none⟩, oc, by rw [togL_len], ?_, ?_, HB5.out, HCv.out, by rw [togL_len]; exact hcao⟩⟩)
   ·exact HOv5.out.more (by have := HBs.out; omega) (by omega)
   ·exact HOp5.out.more (by have := HBs.out; omega) (by omega)
 ·have HE := Lib.hid hno
  obtain ⟨r0, r1⟩ := pair_cells HT.out.snd
  obtain ⟨g0, g1⟩ := pair_frozen HT.out.snd
  have HX6 := Lib.hid (pair_set (.slice none 0 0) (.slice none 0 0) HT.out.snd)
  have HB6 : Hid (Below w.heap.size w ((w0.setCell ⟨w.heap.size + 1, 0, none⟩ (.slice none 0 0)).setCell ⟨w.heap.size + 1, 1, none⟩ (.slice none 0 0))) := HT.out.bel.trans ((below_set2 w0 (w.heap.size + 1) 0 1 _ _).mono (by omega))
  clear hno
  go_wp2
  generalize (w0.setCell ⟨w.heap.size + 1, 0, none⟩ (.slice none 0 0)).setCell ⟨w.heap.size + 1, 1, none⟩ (.slice none 0 0) = wf at HX6 HB6 ⊢
  obtain ⟨p0, p1⟩ := pair_cells HX6.out
  exact bodyPost_ret (v := .tuple #[.agg #[.slice none 0 0, .slice none 0 0], .int .i64 2]) (by simp [results, Tryz.results71, go_sem, p0, p1]) rfl (.inl ⟨HE.out, none, 0, none, 0, rfl, own_nilP _ _ _ _, own_none _ _ _ _, HB6.out, caps_nil, caps_nil⟩)
set_option linter.unusedVariables false

/-- Bounds of a cart that need not be valid: at most N operations. -/
structure Bnd (zs : List Int) (m : List OpV) (N : Nat) : Prop where
 len : zs.length = 4
 num : ∀ d, d < 4 → 0 ≤ zs.getD d 0 ∧ zs.getD d 0 ≤ 1000
 stamp : ∀ i, i < m.length → (atOp m i).stamp ≤ 200000
 item : ∀ i, i < m.length → (atOp m i).item.size ≤ 8
 most : m.length ≤ N
theorem Bnd.more {zs : List Int} {m : List OpV} {N N' : Nat} (h : Bnd zs m N) (hN : N ≤ N') : Bnd zs m N' := ⟨h.len, h.num, h.stamp, h.item, Nat.le_trans h.most hN⟩
theorem Bnd.of_cart {xs : List Int} {l : List OpV} (h : cartB xs l = true) : Bnd xs l 160 := by
 obtain ⟨h1, h2⟩ := cart_vecs h
 refine ⟨h1, fun d hd => ?_, fun i hi => ?_, fun i hi => ?_, cart_length h⟩
 ·have := h2 d hd
  omega
 ·have := op_bounds (cart_op h hi)
  omega
 ·have := op_bounds (cart_op h hi)
  omega
theorem putL_at {l : List OpV} {d : Nat} {o : OpV} {i : Nat} (hi : i < (putL l d o).length) : atOp (putL l d o) i = o ∨ ∃ j, j < l.length ∧ atOp (putL l d o) i = atOp l j := by
 have hm : (putL l d o)[i] ∈ putL l d o := List.getElem_mem hi
 have e : atOp (putL l d o) i = (putL l d o)[i] := by
  unfold atOp
  rw [List.getD_eq_getElem?_getD, List.getElem?_eq_getElem hi]
  rfl
 rw [e]
 generalize (putL l d o)[i] = x at hm
 have hm : x ∈ l.take (putAt (d : Int) l) ++ [o] ++ l.drop (putAt (d : Int) l) := hm
 rw [List.mem_append, List.mem_append, List.mem_singleton] at hm
 have hx : x = o ∨ x ∈ l := by
  rcases hm with (h | h) | h
  ·exact .inr (List.mem_of_mem_take h)
  ·exact .inl h
  ·exact .inr (List.mem_of_mem_drop h)
 rcases hx with h | h
 ·exact .inl h
 ·obtain ⟨j, hj, e⟩ := List.mem_iff_getElem.1 h
  refine .inr ⟨j, hj, ?_⟩
  unfold atOp
  rw [List.getD_eq_getElem?_getD, List.getElem?_eq_getElem hj, ← e]
  rfl
theorem Bnd.put {zs : List Int} {m : List OpV} {N d : Nat} {o : OpV} (h : Bnd zs m N) (hd : d < 4) (hok : (nextOp zs m d o).ok = true) : Bnd (putV zs d) (putL m d (nextOp zs m d o)) (N + 1) := by
 obtain ⟨b1, b2, b3, b4, b5, _⟩ := op_bounds hok
 have hs : (nextOp zs m d o).seq = zs.getD d 0 + 1 := rfl
 refine ⟨by unfold putV; rw [List.length_set]; exact h.len, fun e he => ?_, fun i hi => ?_, fun i hi => ?_, by rw [putL_len]; have := h.most; omega⟩
 ·unfold putV
  rw [set_getD (by rw [h.len]; exact hd)]
  split
  ·omega
  ·exact h.num e he
 ·rcases putL_at hi with e | ⟨j, hj, e⟩
  ·rw [e]; omega
  ·rw [e]; exact h.stamp j hj
 ·rcases putL_at hi with e | ⟨j, hj, e⟩
  ·rw [e]; exact b5
  ·rw [e]; exact h.item j hj
/-- A cart in memory of its own, between the blocks lo and hi, with bounds. -/
def Crt (w : World) (lo hi : Nat) (va : Option Addr) (vc : Nat) (oa : Option Addr) (no oc N : Nat) : Prop :=
 ∃ zs m, no = m.length ∧ Own w lo hi va 4 zs ∧ OwnOps w lo hi oa m.length m ∧ Caps va 4 vc ∧ Caps oa m.length oc ∧ Bnd zs m N
theorem Crt.more {w : World} {lo hi lo' hi' : Nat} {va oa : Option Addr} {vc no oc N N' : Nat} (h : Crt w lo hi va vc oa no oc N) (h1 : lo' ≤ lo) (h2 : hi ≤ hi') (h3 : N ≤ N') : Crt w lo' hi' va vc oa no oc N' := by
 obtain ⟨zs, m, e, a, b, c, d, f⟩ := h
 exact ⟨zs, m, e, a.more h1 h2, b.more h1 h2, c, d, f.more h3⟩
theorem Crt.kept {w w' : World} {lo hi : Nat} {va oa : Option Addr} {vc no oc N : Nat} (h : Crt w lo hi va vc oa no oc N) (hk : ∀ j, lo ≤ j → j < hi → w'.heap[j]? = w.heap[j]?) : Crt w' lo hi va vc oa no oc N := by
 obtain ⟨zs, m, e, a, b, c, d, f⟩ := h
 exact ⟨zs, m, e, a.kept hk, b.kept hk, c, d, f⟩
theorem Crt.below {w w' : World} {lo hi B : Nat} {va oa : Option Addr} {vc no oc N : Nat} (h : Crt w lo hi va vc oa no oc N) (hb : Below B w w') (hB : hi ≤ B) : Crt w' lo hi va vc oa no oc N :=
 h.kept fun j _ h2 => hb.block j (by omega)
set_option linter.unusedVariables false

theorem crtStore {w0 z : World} {b lo hi g n k : Nat} {va oa : Option Addr} {zs : List Int} {m : List OpV} {x y : Value} {T : TypeId} (u v : Value) (hbel : Below b w0 z) (hbox : z.heap[g]? = some (.cells #[x, y] T (0, 0))) (hn : b ≤ g) (hne : hi ≤ g ∨ g < lo) (h1 : Own z lo hi va n zs) (h2 : OwnOps z lo hi oa k m) :
  Hid (((z.setCell ⟨g, 0, none⟩ u).setCell ⟨g, 1, none⟩ v).heap[g]? = some (.cells #[u, v] T (0, 0))) ∧ Hid (Own ((z.setCell ⟨g, 0, none⟩ u).setCell ⟨g, 1, none⟩ v) lo hi va n zs) ∧ Hid (OwnOps ((z.setCell ⟨g, 0, none⟩ u).setCell ⟨g, 1, none⟩ v) lo hi oa k m) ∧ Below b w0 ((z.setCell ⟨g, 0, none⟩ u).setCell ⟨g, 1, none⟩ v) ∧ z.heap.size ≤ ((z.setCell ⟨g, 0, none⟩ u).setCell ⟨g, 1, none⟩ v).heap.size :=
 ⟨pair_set u v hbox, h1.kept fun j a1 a2 => pair_other _ _ (by omega), h2.kept fun j a1 a2 => pair_other _ _ (by omega), (hbel.setCell (p := ⟨g, 0, none⟩) hn u).setCell (p := ⟨g, 1, none⟩) hn v, Nat.le_of_eq (pair_size _ _ _ _).symm⟩
end Go.Proofs.YtjokbaaommicmaaGreatDoor
