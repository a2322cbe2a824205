/- Walks and mathematics that several claims share, part 19. -/
import Derived.Test.YthkagbnpcjidfaaGreatDoorGp18
namespace Go.Proofs.YthkagbnpcjidfaaGreatDoor
set_option maxRecDepth 100000
open Go.RowKit
set_option linter.unusedVariables false
set_option linter.unusedSimpArgs false
def uT (code : Int) (zs : List Int) (L : List aA) (w : World) (e : Ending) (w' : World) : Prop := ∃ va vc oa oc, e = .returned (.tuple #[.agg #[.slice va zs.length vc, .slice oa L.length oc], .int .i64 code]) ∧ Own w' w.heap.size w'.heap.size va zs.length zs ∧ bB w' w.heap.size w'.heap.size oa L.length L ∧ Below w.heap.size w w' ∧ bQ va zs.length vc ∧ bQ oa L.length oc
def aDm (xs : List Int) (l : List aA) (dev seq : Int) (w : World) (e : Ending) (w' : World) : Prop :=
 ((∀ j, j < l.length → ¬ ((aB l j).dev = dev ∧ (aB l j).seq = seq)) ∧ uT 2 [] [] w e w') ∨ ∃ i, i < l.length ∧ ((aB l i).dev = dev ∧ (aB l i).seq = seq) ∧ (((aB l i).undos = 50 ∧ uT 4 [] [] w e w') ∨ ((aB l i).undos ≠ 50 ∧ uT 0 xs (dI l i) w e w'))
theorem bB.bump {w : World} {lo hi : Nat} {a : Option Addr} {l : List aA} {i : Nat} (h : bB w lo hi a l.length l) (hi' : i < l.length) :
  ∃ g off, a = some ⟨g, off, none⟩ ∧ lo ≤ g ∧ g < hi ∧ w.cell? ⟨g, off + i * 8 + 7, none⟩ = some (.int .i64 (aB l i).undos) ∧ w.frozen? ⟨g, off + i * 8 + 7, none⟩ = false ∧ (∃ cs, w.heap[g]? = some (.cells cs 50 (0, 0))) ∧
   bB (w.setCell ⟨g, off + i * 8 + 7, none⟩ (.int .i64 ((aB l i).undos + 1))) lo hi a (dI l i).length (dI l i) := by
 obtain ⟨g, off, cs, e, h1, h2, hg, hs, hc⟩ := h.2 (by omega)
 have hx := hc i hi'
 refine ⟨g, off, e, h1, h2, (hx.at hg).2.2.2.2.2.2.2, aPy hg, ⟨cs, hg⟩, rfl, fun hn => ⟨g, off, cs.setIfInBounds (off + i * 8 + 7) (.int .i64 ((aB l i).undos + 1)), e, h1, h2, heap_setCell_same _ _ _ _ _ _ hg, by rw [jY]; simpa using hs, fun j hj => ?_⟩⟩
 rw [jY] at hj
 have hy := hc j hj
 unfold dI
 rw [gZ hi']
 by_cases e2 : i = j
 ·subst e2
  rw [if_pos rfl]; obtain ⟨y0, y1, y2, y3, y4, y5, y6, y7⟩ := hy; have ne : ∀ q, q < 7 → (cs.setIfInBounds (off + i * 8 + 7) (.int .i64 ((aB l i).undos + 1)))[off + i * 8 + q]? = cs[off + i * 8 + q]? := fun q hq => by rw [Array.getElem?_setIfInBounds, if_neg (by omega)]
  refine ⟨(ne 0 (by omega)).trans y0, (ne 1 (by omega)).trans y1, (ne 2 (by omega)).trans y2, (ne 3 (by omega)).trans y3, (ne 4 (by omega)).trans y4, (ne 5 (by omega)).trans y5, (ne 6 (by omega)).trans y6, ?_⟩
  rw [Array.getElem?_setIfInBounds, if_pos rfl, if_pos (by omega)]
  rfl
 ·rw [if_neg e2]
  have ne : ∀ q, q < 8 → (cs.setIfInBounds (off + i * 8 + 7) (.int .i64 ((aB l i).undos + 1)))[off + j * 8 + q]? = cs[off + j * 8 + q]? := fun q hq => by rw [Array.getElem?_setIfInBounds, if_neg (by omega)]
  obtain ⟨y0, y1, y2, y3, y4, y5, y6, y7⟩ := hy; exact ⟨(ne 0 (by omega)).trans y0, (ne 1 (by omega)).trans y1, (ne 2 (by omega)).trans y2, (ne 3 (by omega)).trans y3, (ne 4 (by omega)).trans y4, (ne 5 (by omega)).trans y5, (ne 6 (by omega)).trans y6, (ne 7 (by omega)).trans y7⟩
set_option linter.unusedSimpArgs false in
set_option maxHeartbeats 20000000 in
theorem n9 (w : World) (B : Nat) (av ao : Option Addr) (nv cv no co : Nat) (xs : List Int) (l : List aA) (dev seq : Int) (hx : Ints w B av nv xs) (h : bK w B ao no l) (hB : B ≤ w.heap.size) (bX : av = none → cv = 0) (cD : ao = none → co = 0) (hv : nv ≤ 1048576) (hn : no ≤ 1048576) (hu : ∀ i, i < l.length → 0 ≤ (aB l i).undos ∧ (aB l i).undos ≤ 50) :
  Calls Tryz.prog 86 #[.agg #[.slice av nv cv, .slice ao no co], .int .i64 dev, .int .i64 seq] w (aDm xs l dev seq w) := by
 obtain rfl := h.1
 have hT := qZ.mk0 w #[.slice av nv cv, .slice ao l.length co] #[.slice none 0 0, .slice none 0 0] 27
 have HV := aPu (hx.below hT.bel hB)
 have HO := aPu (h.below hT.bel hB)
 have HT := aPu hT
 have HU := aPu hu
 clear hx h hT hu
 go_enter Tryz.func86, Tryz.ntmps86
 go_upto_region 1 with fail
 generalize (w.alloc (.cells #[.slice av nv cv, .slice ao l.length co] 27)).alloc (.cells #[.slice none 0 0, .slice none 0 0] 27) = w0 at HV HO HT ⊢
 obtain ⟨q0, q1⟩ := pair_cells HT.out.fst
 have cP := bS HT.out.snd
 go_wp2_with fail
 refine (aJq w0 B ao _ co l dev seq HO.out hn).mono ?_
 rintro e w1 ⟨rfl, ⟨i, pY, he1, tK, rfl⟩ | ⟨iP, rfl⟩⟩
 ·have hin : i < l.length := pY
  have he := And.intro he1 tK; clear he1 tK; obtain ⟨b, off, rfl, hb, ho⟩ := HO.out.2 i hin; obtain ⟨u0, u50⟩ := HU.out i pY; have hii : (i : Int) < (l.length : Int) := by omega
  have c7 := ho.2.2.2.2.2.2.2; have HE := aPu he; obtain ⟨u, uB⟩ : ∃ u, u = (l.getD i aA.zero).undos := ⟨_, rfl⟩; rw [← uB] at c7; have HUe : Hid (u = (aB l i).undos) := uB; have u0' : 0 ≤ u ∧ u ≤ 50 := by rw [HUe.out]; exact ⟨u0, u50⟩
  obtain ⟨v0, v50⟩ := u0'; clear ho he uB u0 u50
  by_cases g9 : u = 50
  ·have hub : (u == 50) = true := by rw [g9]; rfl
   have H5 : Hid ((aB l i).undos = 50) := HUe.out.symm.trans g9; obtain ⟨r0, r1⟩ := pair_cells HT.out.snd; obtain ⟨g0, g1⟩ := aC HT.out.snd; have bM := aPu (cF (.slice none 0 0) (.slice none 0 0) HT.out.snd); have fA : Hid (Below w.heap.size w ((w0.setCell ⟨w.heap.size + 1, 0, none⟩ (.slice none 0 0)).setCell ⟨w.heap.size + 1, 1, none⟩ (.slice none 0 0))) := HT.out.bel.trans ((dR w0 (w.heap.size + 1) 0 1 _ _).mono (by omega))
   clear g9; go_wp2
   generalize (w0.setCell ⟨w.heap.size + 1, 0, none⟩ (.slice none 0 0)).setCell ⟨w.heap.size + 1, 1, none⟩ (.slice none 0 0) = wf at bM fA ⊢; obtain ⟨p0, p1⟩ := pair_cells bM.out; exact bodyPost_ret (v := .tuple #[.agg #[.slice none 0 0, .slice none 0 0], .int .i64 4]) (by simp [results, Tryz.results86, go_sem, p0, p1]) rfl (.inr ⟨i, pY, HE.out, .inl ⟨H5.out, none, 0, none, 0, rfl, oF _ _ _ _, dV _ _ _ _, fA.out, cN, cN⟩⟩)
  ·have hub : (u == 50) = false := by rw [beq_eq_false_iff_ne]; exact g9
   have H5 : Hid ((aB l i).undos ≠ 50) := fun e => g9 (HUe.out.trans e)
   clear g9
   go_wp2_with fail
   refine (aCK w0 B av _ nv cv _ co xs l HV.out HO.out (by have := HT.out.bel.size; omega) bX (fun h => by cases h) hv hn).mono ?_
   rintro e w2 ⟨va, vc, oa, oc, rfl, kB, dX, aG, aLz, aN2⟩; have aJ := aPu (HT.out.next aG); have dS := aG.size; clear aG q0 q1 c7 HV
   go_upto_region 7 with fail
   have dL : Below w2.heap.size w2 (w2.alloc (.cells #[.slice va xs.length vc, .slice oa l.length oc] 27)) := bl; have lU : Hid ((w2.alloc (.cells #[.slice va xs.length vc, .slice oa l.length oc] 27)).heap[w2.heap.size]? = some (.cells #[.slice va xs.length vc, .slice oa l.length oc] 27 (0, 0))) := bE (Below.refl _ _); have bD := aPu (aJ.out.next dL); have aFB := aPu (kB.below dL aPw); have aI4 := aPu (dX.below dL aPw); have hU := dL.size; clear kB dX aJ dL; generalize w2.alloc (.cells #[.slice va xs.length vc, .slice oa l.length oc] 27) = w3 at lU bD aFB aI4 hU ⊢; obtain ⟨g, o1, rfl, bY, eC, d7, f7, ⟨cs, hcs⟩, aE9⟩ := aI4.out.bump pY; rw [← HUe.out] at d7 aE9; have aJD := aPu aE9; have aMo : Hid (Own (w3.setCell ⟨g, o1 + i * 8 + 7, none⟩ (.int .i64 (u + 1))) w0.heap.size w2.heap.size va xs.length xs) := by
    refine ⟨aFB.out.1, fun hn0 => ?_⟩
    obtain ⟨q, aV, e, a1, a2, a3, a4⟩ := aFB.out.2 hn0; have bJ : q ≠ g := by
     intro eq
     rw [eq, hcs] at a3; injection a3 with a3; injection a3 with _ a3; exact absurd a3 (by decide)
    exact ⟨q, aV, e, a1, a2, (heap_setCell_other _ _ _ _ bJ).trans a3, a4⟩
   have N6 : Hid ((w3.setCell ⟨g, o1 + i * 8 + 7, none⟩ (.int .i64 (u + 1))).heap[w2.heap.size]? = some (.cells #[.slice va xs.length vc, .slice (some ⟨g, o1, none⟩) l.length oc] 27 (0, 0))) := (heap_setCell_other _ _ _ _ (by show w2.heap.size ≠ g; omega)).trans lU.out
   have HR4 : Hid ((w3.setCell ⟨g, o1 + i * 8 + 7, none⟩ (.int .i64 (u + 1))).heap[w.heap.size + 1]? = some (.cells #[.slice none 0 0, .slice none 0 0] 27 (0, 0))) := (heap_setCell_other _ _ _ _ (by show w.heap.size + 1 ≠ g; omega)).trans bD.out.snd
   have lC : Hid (Below w.heap.size w (w3.setCell ⟨g, o1 + i * 8 + 7, none⟩ (.int .i64 (u + 1)))) := bD.out.bel.setCell (by show _ ≤ g; omega) _
   have hz4 : (w3.setCell ⟨g, o1 + i * 8 + 7, none⟩ (.int .i64 (u + 1))).heap.size = w3.heap.size := by simp [World.setCell]
   obtain ⟨x0, x1⟩ := pair_cells lU.out; have hu9 : u + 1 ≤ 51 := by omega
   have nZ := aPu aLz; have HBs : Hid (w.heap.size ≤ w0.heap.size) := HT.out.bel.size; clear aE9 hcs aI4 aFB bD lU aLz
   go_upto_region 8 with fail
   generalize w3.setCell ⟨g, o1 + i * 8 + 7, none⟩ (.int .i64 (u + 1)) = w4 at aJD aMo N6 HR4 lC hz4 ⊢; clear x0 x1 d7 f7; obtain ⟨x0, x1⟩ := pair_cells N6.out; obtain ⟨r0, r1⟩ := pair_cells HR4.out; obtain ⟨f0, f1⟩ := aC HR4.out; have HX5 := aPu (cF (.slice va xs.length vc) (.slice (some ⟨g, o1, none⟩) l.length oc) HR4.out); have HBt := dR w4 (w.heap.size + 1) 0 1 (.slice va xs.length vc) (.slice (some ⟨g, o1, none⟩) l.length oc); have HOt : ∀ j, j ≠ w.heap.size + 1 → ((w4.setCell ⟨w.heap.size + 1, 0, none⟩ (.slice va xs.length vc)).setCell ⟨w.heap.size + 1, 1, none⟩ (.slice (some ⟨g, o1, none⟩) l.length oc)).heap[j]? = w4.heap[j]? := fun j hj => aF _ _ hj
   have HZ := aPu (aZ w4 (w.heap.size + 1) (.slice va xs.length vc) (.slice (some ⟨g, o1, none⟩) l.length oc)); have oB := aPu (lC.out.trans (HBt.mono (by omega)))
   have aMn := aPu (aMo.out.kept fun j h1 h2 => HOt j (by omega))
   have aMu := aPu (aJD.out.kept fun j h1 h2 => HOt j (by omega))
   clear HBt HOt; go_wp2
   generalize (w4.setCell ⟨w.heap.size + 1, 0, none⟩ (.slice va xs.length vc)).setCell ⟨w.heap.size + 1, 1, none⟩ (.slice (some ⟨g, o1, none⟩) l.length oc) = wf at HX5 HZ oB aMn aMu ⊢; obtain ⟨p0, p1⟩ := pair_cells HX5.out; have M3 := HZ.out; have htl := jY l i; refine bodyPost_ret (v := .tuple #[.agg #[.slice va xs.length vc, .slice (some ⟨g, o1, none⟩) l.length oc], .int .i64 0]) (by simp [results, Tryz.results86, go_sem, p0, p1]) rfl (.inr ⟨i, pY, HE.out, .inr ⟨H5.out, va, vc, some ⟨g, o1, none⟩, oc, by rw [jY], ?_, ?_, oB.out, nZ.out, by rw [jY]; exact aN2⟩⟩)
   ·exact aMn.out.more (by have := HBs.out; omega) (by omega)
   ·exact aMu.out.more (by have := HBs.out; omega) (by omega)
 ·have HE := aPu iP
  obtain ⟨r0, r1⟩ := pair_cells HT.out.snd; obtain ⟨g0, g1⟩ := aC HT.out.snd; have bM := aPu (cF (.slice none 0 0) (.slice none 0 0) HT.out.snd); have fA : Hid (Below w.heap.size w ((w0.setCell ⟨w.heap.size + 1, 0, none⟩ (.slice none 0 0)).setCell ⟨w.heap.size + 1, 1, none⟩ (.slice none 0 0))) := HT.out.bel.trans ((dR w0 (w.heap.size + 1) 0 1 _ _).mono (by omega))
  clear iP; go_wp2
  generalize (w0.setCell ⟨w.heap.size + 1, 0, none⟩ (.slice none 0 0)).setCell ⟨w.heap.size + 1, 1, none⟩ (.slice none 0 0) = wf at bM fA ⊢; obtain ⟨p0, p1⟩ := pair_cells bM.out; exact bodyPost_ret (v := .tuple #[.agg #[.slice none 0 0, .slice none 0 0], .int .i64 2]) (by simp [results, Tryz.results86, go_sem, p0, p1]) rfl (.inl ⟨HE.out, none, 0, none, 0, rfl, oF _ _ _ _, dV _ _ _ _, fA.out, cN, cN⟩)
structure sN (zs : List Int) (m : List aA) (N : Nat) : Prop where
 len : zs.length = 4
 num : ∀ d, d < 4 → 0 ≤ zs.getD d 0 ∧ zs.getD d 0 ≤ 1000
 stamp : ∀ i, i < m.length → (aB m i).stamp ≤ 200000
 item : ∀ i, i < m.length → (aB m i).item.size ≤ 8
 most : m.length ≤ N
theorem sN.more {zs : List Int} {m : List aA} {N N' : Nat} (h : sN zs m N) (hN : N ≤ N') : sN zs m N' := ⟨h.len, h.num, h.stamp, h.item, Nat.le_trans h.most hN⟩
theorem sN.of_cart {xs : List Int} {l : List aA} (h : aD xs l = true) : sN xs l 160 := by
 obtain ⟨h1, h2⟩ := eP h
 refine ⟨h1, fun d hd => ?_, fun i hi => ?_, fun i hi => ?_, eL h⟩
 ·have := h2 d hd
  omega
 ·have := dG (eT h hi)
  omega
 ·have := dG (eT h hi)
  omega
theorem aEf {l : List aA} {d : Nat} {o : aA} {i : Nat} (hi : i < (bN l d o).length) : aB (bN l d o) i = o ∨ ∃ j, j < l.length ∧ aB (bN l d o) i = aB l j := by
 have hm : (bN l d o)[i] ∈ bN l d o := List.getElem_mem hi
 have e : aB (bN l d o) i = (bN l d o)[i] := by
  unfold aB; rw [List.getD_eq_getElem?_getD, List.getElem?_eq_getElem hi]
  rfl
 rw [e]
 generalize (bN l d o)[i] = x at hm
 have hm : x ∈ l.take (putAt (d : Int) l) ++ [o] ++ l.drop (putAt (d : Int) l) := hm
 rw [List.mem_append, List.mem_append, List.mem_singleton] at hm
 have hx : x = o ∨ x ∈ l := by
  rcases hm with (h | h) | h
  ·exact .inr (List.mem_of_mem_take h)
  ·exact .inl h
  ·exact .inr (List.mem_of_mem_drop h)
 rcases hx with h | h
 ·exact .inl h
 ·obtain ⟨j, hj, e⟩ := List.mem_iff_getElem.1 h
  refine .inr ⟨j, hj, ?_⟩
  unfold aB; rw [List.getD_eq_getElem?_getD, List.getElem?_eq_getElem hj, ← e]
  rfl
theorem sN.put {zs : List Int} {m : List aA} {N d : Nat} {o : aA} (h : sN zs m N) (hd : d < 4) (hok : (aN zs m d o).ok = true) : sN (dF zs d) (bN m d (aN zs m d o)) (N + 1) := by
 obtain ⟨b1, b2, b3, b4, b5, _⟩ := dG hok
 have hs : (aN zs m d o).seq = zs.getD d 0 + 1 := rfl
 refine ⟨by unfold dF; rw [List.length_set]; exact h.len, fun e he => ?_, fun i hi => ?_, fun i hi => ?_, by rw [rL]; have := h.most; omega⟩
 ·unfold dF
  rw [gZ (by rw [h.len]; exact hd)]
  split
  ·omega
  ·exact h.num e he
 ·rcases aEf hi with e | ⟨j, hj, e⟩
  ·rw [e]; omega
  ·rw [e]; exact h.stamp j hj
 ·rcases aEf hi with e | ⟨j, hj, e⟩
  ·rw [e]; exact b5
  ·rw [e]; exact h.item j hj
def fP (w : World) (lo hi : Nat) (va : Option Addr) (vc : Nat) (oa : Option Addr) (no oc N : Nat) : Prop :=
 ∃ zs m, no = m.length ∧ Own w lo hi va 4 zs ∧ bB w lo hi oa m.length m ∧ bQ va 4 vc ∧ bQ oa m.length oc ∧ sN zs m N
theorem fP.more {w : World} {lo hi lo' hi' : Nat} {va oa : Option Addr} {vc no oc N N' : Nat} (h : fP w lo hi va vc oa no oc N) (h1 : lo' ≤ lo) (h2 : hi ≤ hi') (h3 : N ≤ N') : fP w lo' hi' va vc oa no oc N' := by
 obtain ⟨zs, m, e, a, b, c, d, f⟩ := h
 exact ⟨zs, m, e, a.more h1 h2, b.more h1 h2, c, d, f.more h3⟩
theorem fP.kept {w w' : World} {lo hi : Nat} {va oa : Option Addr} {vc no oc N : Nat} (h : fP w lo hi va vc oa no oc N) (hk : ∀ j, lo ≤ j → j < hi → w'.heap[j]? = w.heap[j]?) : fP w' lo hi va vc oa no oc N := by
 obtain ⟨zs, m, e, a, b, c, d, f⟩ := h
 exact ⟨zs, m, e, a.kept hk, b.kept hk, c, d, f⟩
theorem fP.below {w w' : World} {lo hi B : Nat} {va oa : Option Addr} {vc no oc N : Nat} (h : fP w lo hi va vc oa no oc N) (hb : Below B w w') (hB : hi ≤ B) : fP w' lo hi va vc oa no oc N :=
 h.kept fun j _ h2 => hb.block j (by omega)
def aIN (N : Nat) (w : World) (e : Ending) (w' : World) : Prop :=
 ∃ va nv vc oa no oc code, e = .returned (.tuple #[.agg #[.slice va nv vc, .slice oa no oc], .int .i64 code]) ∧ Below w.heap.size w w' ∧ (code = 0 → nv = 4 ∧ fP w' w.heap.size w'.heap.size va vc oa no oc N)
theorem uT.weak {code : Int} {zs : List Int} {L : List aA} {N : Nat} {w w' : World} {e : Ending} (h : uT code zs L w e w') (hb : code = 0 → sN zs L N) : aIN N w e w' := by
 obtain ⟨va, vc, oa, oc, rfl, h1, h2, h3, h4, h5⟩ := h
 refine ⟨va, _, vc, oa, _, oc, code, rfl, h3, fun hc => ?_⟩
 have hB := hb hc
 have h6 := hB.len
 rw [h6] at h1 h4 ⊢
 exact ⟨rfl, zs, L, rfl, h1, h2, h4, h5, hB⟩
theorem p9 {w0 z : World} {b lo hi g n k : Nat} {va oa : Option Addr} {zs : List Int} {m : List aA} {x y : Value} {T : TypeId} (u v : Value) (uQ : Below b w0 z) (C7 : z.heap[g]? = some (.cells #[x, y] T (0, 0))) (hn : b ≤ g) (bJ : hi ≤ g ∨ g < lo) (h1 : Own z lo hi va n zs) (h2 : bB z lo hi oa k m) :
  Hid (((z.setCell ⟨g, 0, none⟩ u).setCell ⟨g, 1, none⟩ v).heap[g]? = some (.cells #[u, v] T (0, 0))) ∧ Hid (Own ((z.setCell ⟨g, 0, none⟩ u).setCell ⟨g, 1, none⟩ v) lo hi va n zs) ∧ Hid (bB ((z.setCell ⟨g, 0, none⟩ u).setCell ⟨g, 1, none⟩ v) lo hi oa k m) ∧ Below b w0 ((z.setCell ⟨g, 0, none⟩ u).setCell ⟨g, 1, none⟩ v) ∧ z.heap.size ≤ ((z.setCell ⟨g, 0, none⟩ u).setCell ⟨g, 1, none⟩ v).heap.size :=
 ⟨cF u v C7, h1.kept fun j a1 a2 => aF _ _ (by omega), h2.kept fun j a1 a2 => aF _ _ (by omega), (uQ.setCell (p := ⟨g, 0, none⟩) hn u).setCell (p := ⟨g, 1, none⟩) hn v, Nat.le_of_eq (aZ _ _ _ _).symm⟩
end Go.Proofs.YthkagbnpcjidfaaGreatDoor
