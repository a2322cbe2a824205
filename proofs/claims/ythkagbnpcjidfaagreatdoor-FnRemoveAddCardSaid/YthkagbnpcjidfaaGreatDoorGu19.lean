/- Walks and mathematics that several claims share, part 19. -/
import Derived.Test.YthkagbnpcjidfaaGreatDoorGu18
namespace Go.Proofs.YthkagbnpcjidfaaGreatDoor
set_option maxRecDepth 100000
open Go.RowKit
set_option linter.unusedVariables false
set_option linter.unusedSimpArgs false
def L2 (code : Int) (zs : List Int) (L : List aA) (w : World) (e : Ending) (w' : World) : Prop := ∃ va vc oa oc, e = .returned (.tuple #[.agg #[.slice va zs.length vc, .slice oa L.length oc], .int .i64 code]) ∧ Own w' w.heap.size w'.heap.size va zs.length zs ∧ bB w' w.heap.size w'.heap.size oa L.length L ∧ Below w.heap.size w w' ∧ bM va zs.length vc ∧ bM oa L.length oc
def aDo (xs : List Int) (l : List aA) (dev seq : Int) (w : World) (e : Ending) (w' : World) : Prop :=
 ((∀ j, j < l.length → ¬ ((aC l j).dev = dev ∧ (aC l j).seq = seq)) ∧ L2 2 [] [] w e w') ∨ ∃ i, i < l.length ∧ ((aC l i).dev = dev ∧ (aC l i).seq = seq) ∧ (((aC l i).undos = 50 ∧ L2 4 [] [] w e w') ∨ ((aC l i).undos ≠ 50 ∧ L2 0 xs (lO l i) w e w'))
theorem bB.bump {w : World} {lo hi : Nat} {a : Option Addr} {l : List aA} {i : Nat} (h : bB w lo hi a l.length l) (hi' : i < l.length) :
  ∃ g off, a = some ⟨g, off, none⟩ ∧ lo ≤ g ∧ g < hi ∧ w.cell? ⟨g, off + i * 8 + 7, none⟩ = some (.int .i64 (aC l i).undos) ∧ w.frozen? ⟨g, off + i * 8 + 7, none⟩ = false ∧ (∃ cs, w.heap[g]? = some (.cells cs 50 (0, 0))) ∧
   bB (w.setCell ⟨g, off + i * 8 + 7, none⟩ (.int .i64 ((aC l i).undos + 1))) lo hi a (lO l i).length (lO l i) := by
 obtain ⟨g, off, cs, e, h1, h2, hg, hs, hc⟩ := h.2 (by omega)
 have hx := hc i hi'
 refine ⟨g, off, e, h1, h2, (hx.at hg).2.2.2.2.2.2.2, aPs hg, ⟨cs, hg⟩, rfl, fun hn => ⟨g, off, cs.setIfInBounds (off + i * 8 + 7) (.int .i64 ((aC l i).undos + 1)), e, h1, h2, heap_setCell_same _ _ _ _ _ _ hg, by rw [rB]; simpa using hs, fun j hj => ?_⟩⟩
 rw [rB] at hj
 have hy := hc j hj
 unfold lO
 rw [jZ hi']
 by_cases e2 : i = j
 ·subst e2
  rw [if_pos rfl]; obtain ⟨y0, y1, y2, y3, y4, y5, y6, y7⟩ := hy; have ne : ∀ q, q < 7 → (cs.setIfInBounds (off + i * 8 + 7) (.int .i64 ((aC l i).undos + 1)))[off + i * 8 + q]? = cs[off + i * 8 + q]? := fun q hq => by rw [Array.getElem?_setIfInBounds, if_neg (by omega)]
  refine ⟨(ne 0 (by omega)).trans y0, (ne 1 (by omega)).trans y1, (ne 2 (by omega)).trans y2, (ne 3 (by omega)).trans y3, (ne 4 (by omega)).trans y4, (ne 5 (by omega)).trans y5, (ne 6 (by omega)).trans y6, ?_⟩
  rw [Array.getElem?_setIfInBounds, if_pos rfl, if_pos (by omega)]
  rfl
 ·rw [if_neg e2]
  have ne : ∀ q, q < 8 → (cs.setIfInBounds (off + i * 8 + 7) (.int .i64 ((aC l i).undos + 1)))[off + j * 8 + q]? = cs[off + j * 8 + q]? := fun q hq => by rw [Array.getElem?_setIfInBounds, if_neg (by omega)]
  obtain ⟨y0, y1, y2, y3, y4, y5, y6, y7⟩ := hy; exact ⟨(ne 0 (by omega)).trans y0, (ne 1 (by omega)).trans y1, (ne 2 (by omega)).trans y2, (ne 3 (by omega)).trans y3, (ne 4 (by omega)).trans y4, (ne 5 (by omega)).trans y5, (ne 6 (by omega)).trans y6, (ne 7 (by omega)).trans y7⟩
set_option linter.unusedSimpArgs false in
set_option maxHeartbeats 20000000 in
theorem m7 (w : World) (B : Nat) (av ao : Option Addr) (nv cv no co : Nat) (xs : List Int) (l : List aA) (dev seq : Int) (hx : Ints w B av nv xs) (h : bP w B ao no l) (hB : B ≤ w.heap.size) (bW : av = none → cv = 0) (cB : ao = none → co = 0) (hv : nv ≤ 1048576) (hn : no ≤ 1048576) (hu : ∀ i, i < l.length → 0 ≤ (aC l i).undos ∧ (aC l i).undos ≤ 50) :
  Calls Tryz.prog 86 #[.agg #[.slice av nv cv, .slice ao no co], .int .i64 dev, .int .i64 seq] w (aDo xs l dev seq w) := by
 obtain rfl := h.1
 have hT := tV.mk0 w #[.slice av nv cv, .slice ao l.length co] #[.slice none 0 0, .slice none 0 0] 27
 have HV := aPo (hx.below hT.bel hB)
 have HO := aPo (h.below hT.bel hB)
 have HT := aPo hT
 have HU := aPo hu
 clear hx h hT hu
 go_enter Tryz.func86, Tryz.ntmps86
 go_upto_region 1 with fail
 generalize (w.alloc (.cells #[.slice av nv cv, .slice ao l.length co] 27)).alloc (.cells #[.slice none 0 0, .slice none 0 0] 27) = w0 at HV HO HT ⊢
 obtain ⟨q0, q1⟩ := pair_cells HT.out.fst
 have dC := bF HT.out.snd
 go_wp2_with fail
 refine (aJn w0 B ao _ co l dev seq HO.out hn).mono ?_
 rintro e w1 ⟨rfl, ⟨i, qH, he1, yR, rfl⟩ | ⟨hM, rfl⟩⟩
 ·have hin : i < l.length := qH
  have he := And.intro he1 yR; clear he1 yR; obtain ⟨b, off, rfl, hb, ho⟩ := HO.out.2 i hin; obtain ⟨u0, u50⟩ := HU.out i qH; have hii : (i : Int) < (l.length : Int) := by omega
  have c7 := ho.2.2.2.2.2.2.2; have HE := aPo he; obtain ⟨u, yL⟩ : ∃ u, u = (l.getD i aA.zero).undos := ⟨_, rfl⟩; rw [← yL] at c7; have HUe : Hid (u = (aC l i).undos) := yL; have u0' : 0 ≤ u ∧ u ≤ 50 := by rw [HUe.out]; exact ⟨u0, u50⟩
  obtain ⟨v0, v50⟩ := u0'; clear ho he yL u0 u50
  by_cases d8 : u = 50
  ·have hub : (u == 50) = true := by rw [d8]; rfl
   have H5 : Hid ((aC l i).undos = 50) := HUe.out.symm.trans d8; obtain ⟨r0, r1⟩ := pair_cells HT.out.snd; obtain ⟨g0, g1⟩ := aB HT.out.snd; have bR := aPo (cE (.slice none 0 0) (.slice none 0 0) HT.out.snd); have eN : Hid (Below w.heap.size w ((w0.setCell ⟨w.heap.size + 1, 0, none⟩ (.slice none 0 0)).setCell ⟨w.heap.size + 1, 1, none⟩ (.slice none 0 0))) := HT.out.bel.trans ((dY w0 (w.heap.size + 1) 0 1 _ _).mono (by omega))
   clear d8; go_wp2
   generalize (w0.setCell ⟨w.heap.size + 1, 0, none⟩ (.slice none 0 0)).setCell ⟨w.heap.size + 1, 1, none⟩ (.slice none 0 0) = wf at bR eN ⊢; obtain ⟨p0, p1⟩ := pair_cells bR.out; exact bodyPost_ret (v := .tuple #[.agg #[.slice none 0 0, .slice none 0 0], .int .i64 4]) (by simp [results, Tryz.results86, go_sem, p0, p1]) rfl (.inr ⟨i, qH, HE.out, .inl ⟨H5.out, none, 0, none, 0, rfl, nX _ _ _ _, fH _ _ _ _, eN.out, cN, cN⟩⟩)
  ·have hub : (u == 50) = false := by rw [beq_eq_false_iff_ne]; exact d8
   have H5 : Hid ((aC l i).undos ≠ 50) := fun e => d8 (HUe.out.trans e)
   clear d8
   go_wp2_with fail
   refine (aCN w0 B av _ nv cv _ co xs l HV.out HO.out (by have := HT.out.bel.size; omega) bW (fun h => by cases h) hv hn).mono ?_
   rintro e w2 ⟨va, vc, oa, oc, rfl, gW, eA, aM, aLF, aN1⟩; have aK := aPo (HT.out.next aM); have eC := aM.size; clear aM q0 q1 c7 HV
   go_upto_region 7 with fail
   have dR : Below w2.heap.size w2 (w2.alloc (.cells #[.slice va xs.length vc, .slice oa l.length oc] 27)) := bl; have mD : Hid ((w2.alloc (.cells #[.slice va xs.length vc, .slice oa l.length oc] 27)).heap[w2.heap.size]? = some (.cells #[.slice va xs.length vc, .slice oa l.length oc] 27 (0, 0))) := bX (Below.refl _ _); have bH := aPo (aK.out.next dR); have aFP := aPo (gW.below dR aPq); have aI5 := aPo (eA.below dR aPq); have gO := dR.size; clear gW eA aK dR; generalize w2.alloc (.cells #[.slice va xs.length vc, .slice oa l.length oc] 27) = w3 at mD bH aFP aI5 gO ⊢; obtain ⟨g, o1, rfl, bZ, eH, d7, f7, ⟨cs, hcs⟩, aFo⟩ := aI5.out.bump qH; rw [← HUe.out] at d7 aFo; have aJO := aPo aFo; have aMi : Hid (Own (w3.setCell ⟨g, o1 + i * 8 + 7, none⟩ (.int .i64 (u + 1))) w0.heap.size w2.heap.size va xs.length xs) := by
    refine ⟨aFP.out.1, fun hn0 => ?_⟩
    obtain ⟨q, aW, e, a1, a2, a3, a4⟩ := aFP.out.2 hn0; have bO : q ≠ g := by
     intro eq
     rw [eq, hcs] at a3; injection a3 with a3; injection a3 with _ a3; exact absurd a3 (by decide)
    exact ⟨q, aW, e, a1, a2, (heap_setCell_other _ _ _ _ bO).trans a3, a4⟩
   have O1 : Hid ((w3.setCell ⟨g, o1 + i * 8 + 7, none⟩ (.int .i64 (u + 1))).heap[w2.heap.size]? = some (.cells #[.slice va xs.length vc, .slice (some ⟨g, o1, none⟩) l.length oc] 27 (0, 0))) := (heap_setCell_other _ _ _ _ (by show w2.heap.size ≠ g; omega)).trans mD.out
   have HR4 : Hid ((w3.setCell ⟨g, o1 + i * 8 + 7, none⟩ (.int .i64 (u + 1))).heap[w.heap.size + 1]? = some (.cells #[.slice none 0 0, .slice none 0 0] 27 (0, 0))) := (heap_setCell_other _ _ _ _ (by show w.heap.size + 1 ≠ g; omega)).trans bH.out.snd
   have lF : Hid (Below w.heap.size w (w3.setCell ⟨g, o1 + i * 8 + 7, none⟩ (.int .i64 (u + 1)))) := bH.out.bel.setCell (by show _ ≤ g; omega) _
   have hz4 : (w3.setCell ⟨g, o1 + i * 8 + 7, none⟩ (.int .i64 (u + 1))).heap.size = w3.heap.size := by simp [World.setCell]
   obtain ⟨x0, x1⟩ := pair_cells mD.out; have hu9 : u + 1 ≤ 51 := by omega
   have nM := aPo aLF; have HBs : Hid (w.heap.size ≤ w0.heap.size) := HT.out.bel.size; clear aFo hcs aI5 aFP bH mD aLF
   go_upto_region 8 with fail
   generalize w3.setCell ⟨g, o1 + i * 8 + 7, none⟩ (.int .i64 (u + 1)) = w4 at aJO aMi O1 HR4 lF hz4 ⊢; clear x0 x1 d7 f7; obtain ⟨x0, x1⟩ := pair_cells O1.out; obtain ⟨r0, r1⟩ := pair_cells HR4.out; obtain ⟨f0, f1⟩ := aB HR4.out; have HX5 := aPo (cE (.slice va xs.length vc) (.slice (some ⟨g, o1, none⟩) l.length oc) HR4.out); have HBt := dY w4 (w.heap.size + 1) 0 1 (.slice va xs.length vc) (.slice (some ⟨g, o1, none⟩) l.length oc); have HOt : ∀ j, j ≠ w.heap.size + 1 → ((w4.setCell ⟨w.heap.size + 1, 0, none⟩ (.slice va xs.length vc)).setCell ⟨w.heap.size + 1, 1, none⟩ (.slice (some ⟨g, o1, none⟩) l.length oc)).heap[j]? = w4.heap[j]? := fun j hj => aD _ _ hj
   have HZ := aPo (aY w4 (w.heap.size + 1) (.slice va xs.length vc) (.slice (some ⟨g, o1, none⟩) l.length oc)); have oX := aPo (lF.out.trans (HBt.mono (by omega)))
   have aMh := aPo (aMi.out.kept fun j h1 h2 => HOt j (by omega))
   have aMo := aPo (aJO.out.kept fun j h1 h2 => HOt j (by omega))
   clear HBt HOt; go_wp2
   generalize (w4.setCell ⟨w.heap.size + 1, 0, none⟩ (.slice va xs.length vc)).setCell ⟨w.heap.size + 1, 1, none⟩ (.slice (some ⟨g, o1, none⟩) l.length oc) = wf at HX5 HZ oX aMh aMo ⊢; obtain ⟨p0, p1⟩ := pair_cells HX5.out; have M7 := HZ.out; have htl := rB l i; refine bodyPost_ret (v := .tuple #[.agg #[.slice va xs.length vc, .slice (some ⟨g, o1, none⟩) l.length oc], .int .i64 0]) (by simp [results, Tryz.results86, go_sem, p0, p1]) rfl (.inr ⟨i, qH, HE.out, .inr ⟨H5.out, va, vc, some ⟨g, o1, none⟩, oc, by rw [rB], ?_, ?_, oX.out, nM.out, by rw [rB]; exact aN1⟩⟩)
   ·exact aMh.out.more (by have := HBs.out; omega) (by omega)
   ·exact aMo.out.more (by have := HBs.out; omega) (by omega)
 ·have HE := aPo hM
  obtain ⟨r0, r1⟩ := pair_cells HT.out.snd; obtain ⟨g0, g1⟩ := aB HT.out.snd; have bR := aPo (cE (.slice none 0 0) (.slice none 0 0) HT.out.snd); have eN : Hid (Below w.heap.size w ((w0.setCell ⟨w.heap.size + 1, 0, none⟩ (.slice none 0 0)).setCell ⟨w.heap.size + 1, 1, none⟩ (.slice none 0 0))) := HT.out.bel.trans ((dY w0 (w.heap.size + 1) 0 1 _ _).mono (by omega))
  clear hM; go_wp2
  generalize (w0.setCell ⟨w.heap.size + 1, 0, none⟩ (.slice none 0 0)).setCell ⟨w.heap.size + 1, 1, none⟩ (.slice none 0 0) = wf at bR eN ⊢; obtain ⟨p0, p1⟩ := pair_cells bR.out; exact bodyPost_ret (v := .tuple #[.agg #[.slice none 0 0, .slice none 0 0], .int .i64 2]) (by simp [results, Tryz.results86, go_sem, p0, p1]) rfl (.inl ⟨HE.out, none, 0, none, 0, rfl, nX _ _ _ _, fH _ _ _ _, eN.out, cN, cN⟩)
structure sE (zs : List Int) (m : List aA) (N : Nat) : Prop where
 len : zs.length = 4
 num : ∀ d, d < 4 → 0 ≤ zs.getD d 0 ∧ zs.getD d 0 ≤ 1000
 stamp : ∀ i, i < m.length → (aC m i).stamp ≤ 200000
 item : ∀ i, i < m.length → (aC m i).item.size ≤ 8
 most : m.length ≤ N
theorem sE.more {zs : List Int} {m : List aA} {N N' : Nat} (h : sE zs m N) (hN : N ≤ N') : sE zs m N' := ⟨h.len, h.num, h.stamp, h.item, Nat.le_trans h.most hN⟩
theorem sE.of_cart {xs : List Int} {l : List aA} (h : aE xs l = true) : sE xs l 160 := by
 obtain ⟨h1, h2⟩ := iH h
 refine ⟨h1, fun d hd => ?_, fun i hi => ?_, fun i hi => ?_, eF h⟩
 ·have := h2 d hd
  omega
 ·have := dK (eU h hi)
  omega
 ·have := dK (eU h hi)
  omega
theorem aEw {l : List aA} {d : Nat} {o : aA} {i : Nat} (hi : i < (cI l d o).length) : aC (cI l d o) i = o ∨ ∃ j, j < l.length ∧ aC (cI l d o) i = aC l j := by
 have hm : (cI l d o)[i] ∈ cI l d o := List.getElem_mem hi
 have e : aC (cI l d o) i = (cI l d o)[i] := by
  unfold aC; rw [List.getD_eq_getElem?_getD, List.getElem?_eq_getElem hi]
  rfl
 rw [e]
 generalize (cI l d o)[i] = x at hm
 have hm : x ∈ l.take (putAt (d : Int) l) ++ [o] ++ l.drop (putAt (d : Int) l) := hm
 rw [List.mem_append, List.mem_append, List.mem_singleton] at hm
 have hx : x = o ∨ x ∈ l := by
  rcases hm with (h | h) | h
  ·exact .inr (List.mem_of_mem_take h)
  ·exact .inl h
  ·exact .inr (List.mem_of_mem_drop h)
 rcases hx with h | h
 ·exact .inl h
 ·obtain ⟨j, hj, e⟩ := List.mem_iff_getElem.1 h
  refine .inr ⟨j, hj, ?_⟩
  unfold aC; rw [List.getD_eq_getElem?_getD, List.getElem?_eq_getElem hj, ← e]
  rfl
theorem sE.put {zs : List Int} {m : List aA} {N d : Nat} {o : aA} (h : sE zs m N) (hd : d < 4) (hok : (aQ zs m d o).ok = true) : sE (eE zs d) (cI m d (aQ zs m d o)) (N + 1) := by
 obtain ⟨b1, b2, b3, b4, b5, _⟩ := dK hok
 have hs : (aQ zs m d o).seq = zs.getD d 0 + 1 := rfl
 refine ⟨by unfold eE; rw [List.length_set]; exact h.len, fun e he => ?_, fun i hi => ?_, fun i hi => ?_, by rw [uD]; have := h.most; omega⟩
 ·unfold eE
  rw [jZ (by rw [h.len]; exact hd)]
  split
  ·omega
  ·exact h.num e he
 ·rcases aEw hi with e | ⟨j, hj, e⟩
  ·rw [e]; omega
  ·rw [e]; exact h.stamp j hj
 ·rcases aEw hi with e | ⟨j, hj, e⟩
  ·rw [e]; exact b5
  ·rw [e]; exact h.item j hj
def fR (w : World) (lo hi : Nat) (va : Option Addr) (vc : Nat) (oa : Option Addr) (no oc N : Nat) : Prop :=
 ∃ zs m, no = m.length ∧ Own w lo hi va 4 zs ∧ bB w lo hi oa m.length m ∧ bM va 4 vc ∧ bM oa m.length oc ∧ sE zs m N
theorem fR.more {w : World} {lo hi lo' hi' : Nat} {va oa : Option Addr} {vc no oc N N' : Nat} (h : fR w lo hi va vc oa no oc N) (h1 : lo' ≤ lo) (h2 : hi ≤ hi') (h3 : N ≤ N') : fR w lo' hi' va vc oa no oc N' := by
 obtain ⟨zs, m, e, a, b, c, d, f⟩ := h
 exact ⟨zs, m, e, a.more h1 h2, b.more h1 h2, c, d, f.more h3⟩
theorem fR.kept {w w' : World} {lo hi : Nat} {va oa : Option Addr} {vc no oc N : Nat} (h : fR w lo hi va vc oa no oc N) (hk : ∀ j, lo ≤ j → j < hi → w'.heap[j]? = w.heap[j]?) : fR w' lo hi va vc oa no oc N := by
 obtain ⟨zs, m, e, a, b, c, d, f⟩ := h
 exact ⟨zs, m, e, a.kept hk, b.kept hk, c, d, f⟩
theorem fR.below {w w' : World} {lo hi B : Nat} {va oa : Option Addr} {vc no oc N : Nat} (h : fR w lo hi va vc oa no oc N) (hb : Below B w w') (hB : hi ≤ B) : fR w' lo hi va vc oa no oc N :=
 h.kept fun j _ h2 => hb.block j (by omega)
def aI1 (N : Nat) (w : World) (e : Ending) (w' : World) : Prop :=
 ∃ va nv vc oa no oc code, e = .returned (.tuple #[.agg #[.slice va nv vc, .slice oa no oc], .int .i64 code]) ∧ Below w.heap.size w w' ∧ (code = 0 → nv = 4 ∧ fR w' w.heap.size w'.heap.size va vc oa no oc N)
theorem L2.weak {code : Int} {zs : List Int} {L : List aA} {N : Nat} {w w' : World} {e : Ending} (h : L2 code zs L w e w') (hb : code = 0 → sE zs L N) : aI1 N w e w' := by
 obtain ⟨va, vc, oa, oc, rfl, h1, h2, h3, h4, h5⟩ := h
 refine ⟨va, _, vc, oa, _, oc, code, rfl, h3, fun hc => ?_⟩
 have hB := hb hc
 have h6 := hB.len
 rw [h6] at h1 h4 ⊢
 exact ⟨rfl, zs, L, rfl, h1, h2, h4, h5, hB⟩
theorem p8 {w0 z : World} {b lo hi g n k : Nat} {va oa : Option Addr} {zs : List Int} {m : List aA} {x y : Value} {T : TypeId} (u v : Value) (uN : Below b w0 z) (D8 : z.heap[g]? = some (.cells #[x, y] T (0, 0))) (hn : b ≤ g) (bO : hi ≤ g ∨ g < lo) (h1 : Own z lo hi va n zs) (h2 : bB z lo hi oa k m) :
  Hid (((z.setCell ⟨g, 0, none⟩ u).setCell ⟨g, 1, none⟩ v).heap[g]? = some (.cells #[u, v] T (0, 0))) ∧ Hid (Own ((z.setCell ⟨g, 0, none⟩ u).setCell ⟨g, 1, none⟩ v) lo hi va n zs) ∧ Hid (bB ((z.setCell ⟨g, 0, none⟩ u).setCell ⟨g, 1, none⟩ v) lo hi oa k m) ∧ Below b w0 ((z.setCell ⟨g, 0, none⟩ u).setCell ⟨g, 1, none⟩ v) ∧ z.heap.size ≤ ((z.setCell ⟨g, 0, none⟩ u).setCell ⟨g, 1, none⟩ v).heap.size :=
 ⟨cE u v D8, h1.kept fun j a1 a2 => aD _ _ (by omega), h2.kept fun j a1 a2 => aD _ _ (by omega), (uN.setCell (p := ⟨g, 0, none⟩) hn u).setCell (p := ⟨g, 1, none⟩) hn v, Nat.le_of_eq (aY _ _ _ _).symm⟩
end Go.Proofs.YthkagbnpcjidfaaGreatDoor
