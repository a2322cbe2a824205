/- Walks and mathematics that several claims share, part 16. -/
import Derived.Test.YthkagbnpcjidfaaGreatDoorGy15
import Derived.Test.YthkagbnpcjidfaaGreatDoorGy9
import Derived.Test.YthkagbnpcjidfaaGreatDoorGy8
import Derived.Test.YthkagbnpcjidfaaGreatDoorGyA
namespace Go.Proofs.YthkagbnpcjidfaaGreatDoor
set_option maxHeartbeats 20000000
set_option maxRecDepth 100000
open Go.RowKit
set_option linter.unusedVariables false
set_option linter.unusedSimpArgs false

/-- What a call answers that hands back a cart of its own and a code. -/
def tR (code : Int) (zs : List Int) (L : List aA) (w : World) (e : Ending) (w' : World) : Prop := ∃ va vc oa oc, e = .returned (.tuple #[.agg #[.slice va zs.length vc, .slice oa L.length oc], .int .i64 code]) ∧ Own w' w.heap.size w'.heap.size va zs.length zs ∧ bF w' w.heap.size w'.heap.size oa L.length L ∧ Below w.heap.size w w' ∧ bP va zs.length vc ∧ bP oa L.length oc
def aEO (xs : List Int) (l : List aA) (dev seq : Int) (w : World) (e : Ending) (w' : World) : Prop :=
 ((∀ j, j < l.length → ¬ ((aC l j).dev = dev ∧ (aC l j).seq = seq)) ∧ tR 2 [] [] w e w') ∨ ∃ i, i < l.length ∧ ((aC l i).dev = dev ∧ (aC l i).seq = seq) ∧ (((aC l i).undos = 50 ∧ tR 4 [] [] w e w') ∨ ((aC l i).undos ≠ 50 ∧ tR 0 xs (fB l i) w e w'))
/-- An operation's count of takings back, raised where it lies. -/
theorem bF.bump {w : World} {lo hi : Nat} {a : Option Addr} {l : List aA} {i : Nat} (h : bF w lo hi a l.length l) (hi' : i < l.length) :
  ∃ g off, a = some ⟨g, off, none⟩ ∧ lo ≤ g ∧ g < hi ∧ w.cell? ⟨g, off + i * 8 + 7, none⟩ = some (.int .i64 (aC l i).undos) ∧ w.frozen? ⟨g, off + i * 8 + 7, none⟩ = false ∧ (∃ cs, w.heap[g]? = some (.cells cs 50 (0, 0))) ∧
   bF (w.setCell ⟨g, off + i * 8 + 7, none⟩ (.int .i64 ((aC l i).undos + 1))) lo hi a (fB l i).length (fB l i) := by
 obtain ⟨g, off, cs, e, h1, h2, hg, hs, hc⟩ := h.2 (by omega)
 have hx := hc i hi'
 refine ⟨g, off, e, h1, h2, (hx.at hg).2.2.2.2.2.2.2, aRE hg, ⟨cs, hg⟩, rfl, fun hn => ⟨g, off, cs.setIfInBounds (off + i * 8 + 7) (.int .i64 ((aC l i).undos + 1)), e, h1, h2, heap_setCell_same _ _ _ _ _ _ hg, by rw [nH]; simpa using hs, fun j hj => ?_⟩⟩
 rw [nH] at hj
 have hy := hc j hj
 unfold fB
 rw [jM hi']
 by_cases e2 : i = j
 ·subst e2
  rw [if_pos rfl]; obtain ⟨y0, y1, y2, y3, y4, y5, y6, y7⟩ := hy; have ne : ∀ q, q < 7 → (cs.setIfInBounds (off + i * 8 + 7) (.int .i64 ((aC l i).undos + 1)))[off + i * 8 + q]? = cs[off + i * 8 + q]? := fun q hq => by rw [Array.getElem?_setIfInBounds, if_neg (by omega)]
  refine ⟨(ne 0 (by omega)).trans y0, (ne 1 (by omega)).trans y1, (ne 2 (by omega)).trans y2, (ne 3 (by omega)).trans y3, (ne 4 (by omega)).trans y4, (ne 5 (by omega)).trans y5, (ne 6 (by omega)).trans y6, ?_⟩
  rw [Array.getElem?_setIfInBounds, if_pos rfl, if_pos (by omega)]
  rfl
 ·rw [if_neg e2]
  have ne : ∀ q, q < 8 → (cs.setIfInBounds (off + i * 8 + 7) (.int .i64 ((aC l i).undos + 1)))[off + j * 8 + q]? = cs[off + j * 8 + q]? := fun q hq => by rw [Array.getElem?_setIfInBounds, if_neg (by omega)]
  obtain ⟨y0, y1, y2, y3, y4, y5, y6, y7⟩ := hy; exact ⟨(ne 0 (by omega)).trans y0, (ne 1 (by omega)).trans y1, (ne 2 (by omega)).trans y2, (ne 3 (by omega)).trans y3, (ne 4 (by omega)).trans y4, (ne 5 (by omega)).trans y5, (ne 6 (by omega)).trans y6, (ne 7 (by omega)).trans y7⟩

set_option linter.unusedSimpArgs false in
theorem aA4 (w : World) (B : Nat) (av ao : Option Addr) (nv cv no co : Nat) (xs : List Int) (l : List aA) (dev seq : Int) (hx : Ints w B av nv xs) (h : bS w B ao no l) (hB : B ≤ w.heap.size) (bI : av = none → cv = 0) (bM : ao = none → co = 0) (hv : nv ≤ 1048576) (hn : no ≤ 1048576) (hu : ∀ i, i < l.length → 0 ≤ (aC l i).undos ∧ (aC l i).undos ≤ 50) :
  Calls Tryz.prog 86 #[.agg #[.slice av nv cv, .slice ao no co], .int .i64 dev, .int .i64 seq] w (aEO xs l dev seq w) := by
 obtain rfl := h.1
 have hT := xB.mk0 w #[.slice av nv cv, .slice ao l.length co] #[.slice none 0 0, .slice none 0 0] 27
 have HV := aRA (hx.below hT.bel hB)
 have HO := aRA (h.below hT.bel hB)
 have HT := aRA hT
 have HU := aRA hu
 clear hx h hT hu
 go_enter Tryz.func86, Tryz.ntmps86
 go_upto_region 1 with fail
 generalize (w.alloc (.cells #[.slice av nv cv, .slice ao l.length co] 27)).alloc (.cells #[.slice none 0 0, .slice none 0 0] 27) = w0 at HV HO HT ⊢
 obtain ⟨q0, q1⟩ := pair_cells HT.out.fst
 have dK := aB HT.out.snd
 go_wp2_with fail
 refine (aKR w0 B ao _ co l dev seq HO.out hn).mono ?_
 rintro e w1 ⟨rfl, ⟨i, tJ, he1, J8, rfl⟩ | ⟨hM, rfl⟩⟩
 ·have hin : i < l.length := tJ
  have he := And.intro he1 J8; clear he1 J8; obtain ⟨b, off, rfl, hb, ho⟩ := HO.out.2 i hin; obtain ⟨u0, u50⟩ := HU.out i tJ; have hii : (i : Int) < (l.length : Int) := by omega
  have c7 := ho.2.2.2.2.2.2.2; have HE := aRA he; obtain ⟨u, I9⟩ : ∃ u, u = (l.getD i aA.zero).undos := ⟨_, rfl⟩; rw [← I9] at c7; have HUe : Hid (u = (aC l i).undos) := I9; have u0' : 0 ≤ u ∧ u ≤ 50 := by rw [HUe.out]; exact ⟨u0, u50⟩
  obtain ⟨v0, v50⟩ := u0'; clear ho he I9 u0 u50
  by_cases h50 : u = 50
  ·have hub : (u == 50) = true := by rw [h50]; rfl
   have H5 : Hid ((aC l i).undos = 50) := HUe.out.symm.trans h50; obtain ⟨r0, r1⟩ := pair_cells HT.out.snd; obtain ⟨g0, g1⟩ := aD HT.out.snd; have bV := aRA (cK (.slice none 0 0) (.slice none 0 0) HT.out.snd); have dC : Hid (Below w.heap.size w ((w0.setCell ⟨w.heap.size + 1, 0, none⟩ (.slice none 0 0)).setCell ⟨w.heap.size + 1, 1, none⟩ (.slice none 0 0))) := HT.out.bel.trans ((eM w0 (w.heap.size + 1) 0 1 _ _).mono (by omega))
   clear h50; go_wp2
   generalize (w0.setCell ⟨w.heap.size + 1, 0, none⟩ (.slice none 0 0)).setCell ⟨w.heap.size + 1, 1, none⟩ (.slice none 0 0) = wf at bV dC ⊢; obtain ⟨p0, p1⟩ := pair_cells bV.out; exact bodyPost_ret (v := .tuple #[.agg #[.slice none 0 0, .slice none 0 0], .int .i64 4]) (by simp [results, Tryz.results86, go_sem, p0, p1]) rfl (.inr ⟨i, tJ, HE.out, .inl ⟨H5.out, none, 0, none, 0, rfl, qQ _ _ _ _, gD _ _ _ _, dC.out, dA, dA⟩⟩)
  ·have hub : (u == 50) = false := by rw [beq_eq_false_iff_ne]; exact h50
   have H5 : Hid ((aC l i).undos ≠ 50) := fun e => h50 (HUe.out.trans e)
   clear h50
   go_wp2_with fail
   refine (aEc w0 B av _ nv cv _ co xs l HV.out HO.out (by have := HT.out.bel.size; omega) bI (fun h => by cases h) hv hn).mono ?_
   rintro e w2 ⟨va, vc, oa, oc, rfl, dH, cD, aN, aNs, aP4⟩; have aM := aRA (HT.out.next aN); have eV := aN.size; clear aN q0 q1 c7 HV
   go_upto_region 7 with fail
   have eG : Below w2.heap.size w2 (w2.alloc (.cells #[.slice va xs.length vc, .slice oa l.length oc] 27)) := bl; have oV : Hid ((w2.alloc (.cells #[.slice va xs.length vc, .slice oa l.length oc] 27)).heap[w2.heap.size]? = some (.cells #[.slice va xs.length vc, .slice oa l.length oc] 27 (0, 0))) := bL (Below.refl _ _); have bJ := aRA (aM.out.next eG); have aG7 := aRA (dH.below eG aRC); have aKz := aRA (cD.below eG aRC); have iG := eG.size; clear dH cD aM eG; generalize w2.alloc (.cells #[.slice va xs.length vc, .slice oa l.length oc] 27) = w3 at oV bJ aG7 aKz iG ⊢; obtain ⟨g, o1, rfl, cF, fI, d7, f7, ⟨cs, hcs⟩, aGB⟩ := aKz.out.bump tJ; rw [← HUe.out] at d7 aGB; have aLu := aRA aGB; have aN7 : Hid (Own (w3.setCell ⟨g, o1 + i * 8 + 7, none⟩ (.int .i64 (u + 1))) w0.heap.size w2.heap.size va xs.length xs) := by
    refine ⟨aG7.out.1, fun hn0 => ?_⟩
    obtain ⟨q, aX, e, a1, a2, a3, a4⟩ := aG7.out.2 hn0; have bH : q ≠ g := by
     intro eq
     rw [eq, hcs] at a3; injection a3 with a3; injection a3 with _ a3; exact absurd a3 (by decide)
    exact ⟨q, aX, e, a1, a2, (heap_setCell_other _ _ _ _ bH).trans a3, a4⟩
   have Z5 : Hid ((w3.setCell ⟨g, o1 + i * 8 + 7, none⟩ (.int .i64 (u + 1))).heap[w2.heap.size]? = some (.cells #[.slice va xs.length vc, .slice (some ⟨g, o1, none⟩) l.length oc] 27 (0, 0))) := (heap_setCell_other _ _ _ _ (by show w2.heap.size ≠ g; omega)).trans oV.out
   have HR4 : Hid ((w3.setCell ⟨g, o1 + i * 8 + 7, none⟩ (.int .i64 (u + 1))).heap[w.heap.size + 1]? = some (.cells #[.slice none 0 0, .slice none 0 0] 27 (0, 0))) := (heap_setCell_other _ _ _ _ (by show w.heap.size + 1 ≠ g; omega)).trans bJ.out.snd
   have jI : Hid (Below w.heap.size w (w3.setCell ⟨g, o1 + i * 8 + 7, none⟩ (.int .i64 (u + 1)))) := bJ.out.bel.setCell (by show _ ≤ g; omega) _
   have hz4 : (w3.setCell ⟨g, o1 + i * 8 + 7, none⟩ (.int .i64 (u + 1))).heap.size = w3.heap.size := by simp [World.setCell]
   obtain ⟨x0, x1⟩ := pair_cells oV.out; have hu9 : u + 1 ≤ 51 := by omega
   have kS := aRA aNs; have HBs : Hid (w.heap.size ≤ w0.heap.size) := HT.out.bel.size; clear aGB hcs aKz aG7 bJ oV aNs
   go_upto_region 8 with fail
   generalize w3.setCell ⟨g, o1 + i * 8 + 7, none⟩ (.int .i64 (u + 1)) = w4 at aLu aN7 Z5 HR4 jI hz4 ⊢; clear x0 x1 d7 f7; obtain ⟨x0, x1⟩ := pair_cells Z5.out; obtain ⟨r0, r1⟩ := pair_cells HR4.out; obtain ⟨f0, f1⟩ := aD HR4.out; have HX5 := aRA (cK (.slice va xs.length vc) (.slice (some ⟨g, o1, none⟩) l.length oc) HR4.out); have HBt := eM w4 (w.heap.size + 1) 0 1 (.slice va xs.length vc) (.slice (some ⟨g, o1, none⟩) l.length oc); have HOt : ∀ j, j ≠ w.heap.size + 1 → ((w4.setCell ⟨w.heap.size + 1, 0, none⟩ (.slice va xs.length vc)).setCell ⟨w.heap.size + 1, 1, none⟩ (.slice (some ⟨g, o1, none⟩) l.length oc)).heap[j]? = w4.heap[j]? := fun j hj => aF _ _ hj
   have HZ := aRA (bA w4 (w.heap.size + 1) (.slice va xs.length vc) (.slice (some ⟨g, o1, none⟩) l.length oc)); have gZ := aRA (jI.out.trans (HBt.mono (by omega)))
   have aN6 := aRA (aN7.out.kept fun j h1 h2 => HOt j (by omega))
   have aOd := aRA (aLu.out.kept fun j h1 h2 => HOt j (by omega))
   clear HBt HOt; go_wp2
   generalize (w4.setCell ⟨w.heap.size + 1, 0, none⟩ (.slice va xs.length vc)).setCell ⟨w.heap.size + 1, 1, none⟩ (.slice (some ⟨g, o1, none⟩) l.length oc) = wf at HX5 HZ gZ aN6 aOd ⊢; obtain ⟨p0, p1⟩ := pair_cells HX5.out; have X8 := HZ.out; have htl := nH l i; refine bodyPost_ret (v := .tuple #[.agg #[.slice va xs.length vc, .slice (some ⟨g, o1, none⟩) l.length oc], .int .i64 0]) (by simp [results, Tryz.results86, go_sem, p0, p1]) rfl (.inr ⟨i, tJ, HE.out, .inr ⟨H5.out, va, vc, some ⟨g, o1, none⟩, oc, by rw [nH], ?_, ?_, gZ.out, kS.out, by rw [nH]; exact aP4⟩⟩)
   ·exact aN6.out.more (by have := HBs.out; omega) (by omega)
   ·exact aOd.out.more (by have := HBs.out; omega) (by omega)
 ·have HE := aRA hM
  obtain ⟨r0, r1⟩ := pair_cells HT.out.snd; obtain ⟨g0, g1⟩ := aD HT.out.snd; have bV := aRA (cK (.slice none 0 0) (.slice none 0 0) HT.out.snd); have dC : Hid (Below w.heap.size w ((w0.setCell ⟨w.heap.size + 1, 0, none⟩ (.slice none 0 0)).setCell ⟨w.heap.size + 1, 1, none⟩ (.slice none 0 0))) := HT.out.bel.trans ((eM w0 (w.heap.size + 1) 0 1 _ _).mono (by omega))
  clear hM; go_wp2
  generalize (w0.setCell ⟨w.heap.size + 1, 0, none⟩ (.slice none 0 0)).setCell ⟨w.heap.size + 1, 1, none⟩ (.slice none 0 0) = wf at bV dC ⊢; obtain ⟨p0, p1⟩ := pair_cells bV.out; exact bodyPost_ret (v := .tuple #[.agg #[.slice none 0 0, .slice none 0 0], .int .i64 2]) (by simp [results, Tryz.results86, go_sem, p0, p1]) rfl (.inl ⟨HE.out, none, 0, none, 0, rfl, qQ _ _ _ _, gD _ _ _ _, dC.out, dA, dA⟩)
set_option linter.unusedVariables false

/-- Bounds of a cart that need not be valid: at most N operations. -/
structure vW (zs : List Int) (m : List aA) (N : Nat) : Prop where
 len : zs.length = 4
 num : ∀ d, d < 4 → 0 ≤ zs.getD d 0 ∧ zs.getD d 0 ≤ 1000
 stamp : ∀ i, i < m.length → (aC m i).stamp ≤ 200000
 item : ∀ i, i < m.length → (aC m i).item.size ≤ 8
 most : m.length ≤ N
theorem vW.more {zs : List Int} {m : List aA} {N N' : Nat} (h : vW zs m N) (hN : N ≤ N') : vW zs m N' := ⟨h.len, h.num, h.stamp, h.item, Nat.le_trans h.most hN⟩
theorem vW.of_cart {xs : List Int} {l : List aA} (h : aE xs l = true) : vW xs l 160 := by
 obtain ⟨h1, h2⟩ := fJ h
 refine ⟨h1, fun d hd => ?_, fun i hi => ?_, fun i hi => ?_, eU h⟩
 ·have := h2 d hd
  omega
 ·have := dZ (fA h hi)
  omega
 ·have := dZ (fA h hi)
  omega
theorem aFG {l : List aA} {d : Nat} {o : aA} {i : Nat} (hi : i < (bO l d o).length) : aC (bO l d o) i = o ∨ ∃ j, j < l.length ∧ aC (bO l d o) i = aC l j := by
 have hm : (bO l d o)[i] ∈ bO l d o := List.getElem_mem hi
 have e : aC (bO l d o) i = (bO l d o)[i] := by
  unfold aC; rw [List.getD_eq_getElem?_getD, List.getElem?_eq_getElem hi]
  rfl
 rw [e]
 generalize (bO l d o)[i] = x at hm
 have hm : x ∈ l.take (putAt (d : Int) l) ++ [o] ++ l.drop (putAt (d : Int) l) := hm
 rw [List.mem_append, List.mem_append, List.mem_singleton] at hm
 have hx : x = o ∨ x ∈ l := by
  rcases hm with (h | h) | h
  ·exact .inr (List.mem_of_mem_take h)
  ·exact .inl h
  ·exact .inr (List.mem_of_mem_drop h)
 rcases hx with h | h
 ·exact .inl h
 ·obtain ⟨j, hj, e⟩ := List.mem_iff_getElem.1 h
  refine .inr ⟨j, hj, ?_⟩
  unfold aC; rw [List.getD_eq_getElem?_getD, List.getElem?_eq_getElem hj, ← e]
  rfl
theorem vW.put {zs : List Int} {m : List aA} {N d : Nat} {o : aA} (h : vW zs m N) (hd : d < 4) (hok : (aJ zs m d o).ok = true) : vW (dU zs d) (bO m d (aJ zs m d o)) (N + 1) := by
 obtain ⟨b1, b2, b3, b4, b5, _⟩ := dZ hok
 have hs : (aJ zs m d o).seq = zs.getD d 0 + 1 := rfl
 refine ⟨by unfold dU; rw [List.length_set]; exact h.len, fun e he => ?_, fun i hi => ?_, fun i hi => ?_, by rw [uT]; have := h.most; omega⟩
 ·unfold dU
  rw [jM (by rw [h.len]; exact hd)]
  split
  ·omega
  ·exact h.num e he
 ·rcases aFG hi with e | ⟨j, hj, e⟩
  ·rw [e]; omega
  ·rw [e]; exact h.stamp j hj
 ·rcases aFG hi with e | ⟨j, hj, e⟩
  ·rw [e]; exact b5
  ·rw [e]; exact h.item j hj
/-- A cart in memory of its own, between the blocks lo and hi, with bounds. -/
def gO (w : World) (lo hi : Nat) (va : Option Addr) (vc : Nat) (oa : Option Addr) (no oc N : Nat) : Prop :=
 ∃ zs m, no = m.length ∧ Own w lo hi va 4 zs ∧ bF w lo hi oa m.length m ∧ bP va 4 vc ∧ bP oa m.length oc ∧ vW zs m N
theorem gO.more {w : World} {lo hi lo' hi' : Nat} {va oa : Option Addr} {vc no oc N N' : Nat} (h : gO w lo hi va vc oa no oc N) (h1 : lo' ≤ lo) (h2 : hi ≤ hi') (h3 : N ≤ N') : gO w lo' hi' va vc oa no oc N' := by
 obtain ⟨zs, m, e, a, b, c, d, f⟩ := h
 exact ⟨zs, m, e, a.more h1 h2, b.more h1 h2, c, d, f.more h3⟩
theorem gO.kept {w w' : World} {lo hi : Nat} {va oa : Option Addr} {vc no oc N : Nat} (h : gO w lo hi va vc oa no oc N) (hk : ∀ j, lo ≤ j → j < hi → w'.heap[j]? = w.heap[j]?) : gO w' lo hi va vc oa no oc N := by
 obtain ⟨zs, m, e, a, b, c, d, f⟩ := h
 exact ⟨zs, m, e, a.kept hk, b.kept hk, c, d, f⟩
theorem gO.below {w w' : World} {lo hi B : Nat} {va oa : Option Addr} {vc no oc N : Nat} (h : gO w lo hi va vc oa no oc N) (hb : Below B w w') (hB : hi ≤ B) : gO w' lo hi va vc oa no oc N :=
 h.kept fun j _ h2 => hb.block j (by omega)
/-- What a command leaves: when it is accepted, a cart of the call's own. -/
def aKl (N : Nat) (w : World) (e : Ending) (w' : World) : Prop :=
 ∃ va nv vc oa no oc code, e = .returned (.tuple #[.agg #[.slice va nv vc, .slice oa no oc], .int .i64 code]) ∧ Below w.heap.size w w' ∧ (code = 0 → nv = 4 ∧ gO w' w.heap.size w'.heap.size va vc oa no oc N)
theorem tR.weak {code : Int} {zs : List Int} {L : List aA} {N : Nat} {w w' : World} {e : Ending} (h : tR code zs L w e w') (hb : code = 0 → vW zs L N) : aKl N w e w' := by
 obtain ⟨va, vc, oa, oc, rfl, h1, h2, h3, h4, h5⟩ := h
 refine ⟨va, _, vc, oa, _, oc, code, rfl, h3, fun hc => ?_⟩
 have hB := hb hc
 have h6 := hB.len
 rw [h6] at h1 h4 ⊢
 exact ⟨rfl, zs, L, rfl, h1, h2, h4, h5, hB⟩
set_option linter.unusedVariables false

theorem aBb {w0 z : World} {b lo hi g n k : Nat} {va oa : Option Addr} {zs : List Int} {m : List aA} {x y : Value} {T : TypeId} (u v : Value) (oG : Below b w0 z) (Q2 : z.heap[g]? = some (.cells #[x, y] T (0, 0))) (hn : b ≤ g) (bH : hi ≤ g ∨ g < lo) (h1 : Own z lo hi va n zs) (h2 : bF z lo hi oa k m) :
  Hid (((z.setCell ⟨g, 0, none⟩ u).setCell ⟨g, 1, none⟩ v).heap[g]? = some (.cells #[u, v] T (0, 0))) ∧ Hid (Own ((z.setCell ⟨g, 0, none⟩ u).setCell ⟨g, 1, none⟩ v) lo hi va n zs) ∧ Hid (bF ((z.setCell ⟨g, 0, none⟩ u).setCell ⟨g, 1, none⟩ v) lo hi oa k m) ∧ Below b w0 ((z.setCell ⟨g, 0, none⟩ u).setCell ⟨g, 1, none⟩ v) ∧ z.heap.size ≤ ((z.setCell ⟨g, 0, none⟩ u).setCell ⟨g, 1, none⟩ v).heap.size :=
 ⟨cK u v Q2, h1.kept fun j a1 a2 => aF _ _ (by omega), h2.kept fun j a1 a2 => aF _ _ (by omega), (oG.setCell (p := ⟨g, 0, none⟩) hn u).setCell (p := ⟨g, 1, none⟩) hn v, Nat.le_of_eq (bA _ _ _ _).symm⟩
end Go.Proofs.YthkagbnpcjidfaaGreatDoor
