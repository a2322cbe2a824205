/- Walks and mathematics that several claims share, part 47. -/
import Derived.Test.YthkagbnpcjidfaaGreatDoorGp25
import Derived.Deep.Cut
namespace Go.Proofs.YthkagbnpcjidfaaGreatDoor
set_option maxRecDepth 100000
open Go.RowKit
set_option linter.unusedVariables false
set_option linter.unusedSimpArgs false
theorem aFe {q : aA → Bool} {m : List aA} {N : Nat} (h : ∀ i, i < m.length → (aB m i).item.size ≤ N) : ∀ i, i < (m.filter q).length → ((m.filter q).getD i aA.zero).item.size ≤ N := fun i hi => by
 rw [List.getD_eq_getElem?_getD, List.getElem?_eq_getElem hi]
 have hm : (m.filter q)[i] ∈ m := (List.mem_filter.1 (List.getElem_mem hi)).1
 obtain ⟨j, hj, e⟩ := List.mem_iff_getElem.1 hm
 have := h j hj
 unfold aB at this
 rw [List.getD_eq_getElem?_getD, List.getElem?_eq_getElem hj] at this
 rw [← e]
 exact this
theorem aEl {o : aA} (h : o.ok = true) : rH o.dev o.seq o.stamp o.kind o.item o.qty o.level o.undos = oY o := by
 unfold rH oY
 have h' : dK o.dev o.seq o.stamp o.kind o.item o.qty o.level o.undos = true := h
 rw [h']
 rfl
set_option linter.unusedSimpArgs false in
set_option maxHeartbeats 40000000 in
theorem aDW (w : World) (B : Nat) (av ao bv bo : Option Addr) (nv cv no co mv dv mo eo : Nat) (xs : List Int) (l : List aA) (ys : List Int) (m : List aA) (hx : Ints w B av nv xs) (h : bK w B ao no l) (hy : Ints w B bv mv ys) (g : bK w B bo mo m) (hB : B ≤ w.heap.size) (hv : nv ≤ 1048576) (hc : no ≤ co) (cM : Fits no co) (wM : mv ≤ 1048576) (he : mo ≤ eo) (tK : Fits mo eo) (nP : ∀ i, i < mo → (aB m i).item.size ≤ 1048576) :
  Calls Tryz.prog 30 #[.agg #[.slice av nv cv, .slice ao no co], .agg #[.slice bv mv dv, .slice bo mo eo]] w (xR (O6 xs l ys m) w) := by
 have tF : no ≤ 1048576 := cM.1
 have aOz : mo ≤ 1048576 := tK.1
 obtain ⟨i0, aNW, gI, jK, jB⟩ := info_parts Tryz.infoOp
 have hT := qZ.mk0 w #[.slice av nv cv, .slice ao no co] #[.slice bv mv dv, .slice bo mo eo] 27
 have HV := aPu (hx.below hT.bel hB)
 have HO := aPu (h.below hT.bel hB)
 have HY := aPu (hy.below hT.bel hB)
 have HG := aPu (g.below hT.bel hB)
 have HT := aPu hT
 have HL := aPu h.1
 have W3 := aPu g.1
 have HM2 := aPu nP
 have hBw := hB
 have hn : no ≤ 1048576 := cM.1
 have vJ : mo ≤ 1048576 := tK.1
 clear hx h hy g hT nP hB
 go_enter Tryz.func30, Tryz.ntmps30
 go_wp2_with fail
 generalize (w.alloc (.cells #[.slice av nv cv, .slice ao no co] 27)).alloc (.cells #[.slice bv mv dv, .slice bo mo eo] 27) = w0 at HV HO HY HG HT ⊢
 have aE1 := HT.out.bel.size
 have qG := bS HT.out.snd
 refine (iM w0 B av ao nv cv no co xs l HV.out HO.out (by omega) hv hc cM).mono ?_
 rintro e w1 ⟨rfl, aE⟩
 have cI := aPu (HO.out.below aE (by omega))
 have HY1 := aPu (HY.out.below aE (by omega))
 have sM := aPu (HG.out.below aE (by omega))
 have aT := aPu (HT.out.next aE)
 have dZ := aE.size
 clear aE HV HO HY HG HT
 rcases hca : aD xs l with _ | _
 ·have HF := aPu (aFR (xs := xs) (l := l) (ys := ys) (m := m) (by rw [hca]; rfl))
  clear hca; go_wp2
  go_ret
  exact ⟨none, 0, by rw [HF.out]; rfl, by rw [HF.out]; exact dV _ _ _ _, aT.out.bel⟩
 obtain ⟨b0, b1⟩ := pair_cells aT.out.snd
 go_wp2_with fail
 refine (iM w1 B bv bo mv dv mo eo ys m HY1.out sM.out (by omega) wM he tK).mono ?_
 rintro e w2 ⟨rfl, aG⟩
 have fZ := aPu (cI.out.below aG (by omega))
 have W6 := aPu (sM.out.below aG (by omega))
 have aJ := aPu (aT.out.next aG)
 have dS := aG.size
 clear aG cI HY1 sM aT b0 b1
 rcases hcb : aD ys m with _ | _
 ·have HF := aPu (aFR (xs := xs) (l := l) (ys := ys) (m := m) (by rw [hca, hcb]; rfl))
  clear hca hcb; go_wp2
  go_ret
  exact ⟨none, 0, by rw [HF.out]; rfl, by rw [HF.out]; exact dV _ _ _ _, aJ.out.bel⟩
 have HF := aPu (X4 (xs := xs) (l := l) (ys := ys) (m := m) (by rw [hca, hcb]; rfl))
 have L8 := aPu (pP hca)
 have aOi := aPu (fun i (hi : i < l.length) => aAC hca hi)
 have aOh := aPu (fun i (hi : i < m.length) => aAC hcb hi)
 clear hca hcb
 obtain ⟨a0, a1⟩ := pair_cells aJ.out.fst
 go_wp2_with fail
 refine (aHC w2 ao no co).mono ?_
 rintro e w3 ⟨rfl, aR⟩
 have pS := aPu (fZ.out.below aR (by omega))
 have HG3 := aPu (W6.out.below aR (by omega))
 have bD := aPu (aJ.out.next aR)
 have hU := aR.size
 clear aR fZ W6 aJ a0 a1
 go_upto_region 4 with fail
 have cW : Below w3.heap.size w3 (w3.alloc (.cells #[.slice ao no co, .func (.func 98) #[] #[]] 102)) := bl
 have vW := aPu (bE (Below.refl _ (w3.alloc (.cells #[.slice ao no co, .func (.func 98) #[] #[]] 102))))
 have hn4 : w3.heap.size + 1 ≤ (w3.alloc (.cells #[.slice ao no co, .func (.func 98) #[] #[]] 102)).heap.size := by show _ ≤ (w3.heap.push _).size; simp
 generalize w3.alloc (.cells #[.slice ao no co, .func (.func 98) #[] #[]] 102) = w4 at cW vW hn4 ⊢
 have nV := aPu (pS.out.below cW (by omega))
 have HG4 := aPu (HG3.out.below cW (by omega))
 have fJ := aPu (bD.out.next cW)
 generalize w3.heap.size = nb at vW hn4 hU ⊢
 clear cW pS HG3 bD
 obtain ⟨b0, b1⟩ := pair_cells fJ.out.snd
 go_wp2
 go_loopw [6, 25] (fun v i wr => ∃ (k : Nat) (vv : Value), k ≤ mo ∧ vv = v ∧ i = .int .i64 (k : Int) ∧ Hid (wr.ownsRow (nb + 1) 50 8 v ((m.take k).filter (iI l)).length (aH ((m.take k).filter (iI l)))) ∧ Hid (Below (nb + 1) w4 wr)) (fun _ i _ => mo - (intOf i).toNat)
 case atStart => exact ⟨0, _, Nat.zero_le _, rfl, rfl, World.ownsRow_nil _ _ _ _, Below.refl _ _⟩
 case round =>
  obtain ⟨k, vv, hk, hvv, rfl, HR, cS⟩ := hrel; subst hvv; clear b0 b1; have hsr := cS.out.size
  by_cases aK : k < mo
  rotate_left
  ·obtain rfl : k = mo := by omega
   have HTk : Hid (m.take k = m) := by show _ = _; rw [← W3.out]; exact List.take_length
   rw [HTk.out] at HR; have G4 := aPu (aFe (q := iI l) (m := m) (N := 1048576) (fun i hi => HM2.out i (by rw [← W3.out]; exact hi)))
   have aJw : (m.filter (iI l)).length ≤ 1048576 := by have := List.length_filter_le (iI l) m; have := W3.out; omega
   generalize m.filter (iI l) = L at HR HF G4 aJw; have HP : Hid (∃ a c, vv = .slice a L.length c ∧ (a = none → c = 0) ∧ bB wr (nb + 1) wr.heap.size a L.length L) := by
    have hr := HR.out; rcases hr.2 with ⟨e, e2⟩ | ⟨g, c, aV, e, r⟩
    ·subst e
     rw [e2] at hr ⊢; exact ⟨none, 0, rfl, fun _ => rfl, eG hr aPw⟩
    ·subst e
     exact ⟨_, c, rfl, (fun h => by cases h), eG hr aPw⟩
   obtain ⟨ra, rc, rfl, yN, aY⟩ := HP.out; have HOo := aPu aY; have HRc := aPu yN; clear aY yN HP HR
   go_wp2_with fail
   refine (aBS wr wr.heap.size ra L.length rc L HOo.out.ops aPw aJw HRc.out G4.out).mono ?_
   rintro e w5 ⟨fa, fc, rfl, hfo, aU⟩; have HFo := aPu (hfo.more (lo' := w.heap.size) (by omega) aPw)
   have oM : Below w4.heap.size w4 wr → True := fun _ => trivial
   have bT : Hid (Below w.heap.size w w5) := by
    have h1 : Below w.heap.size w wr := fJ.out.bel.trans (cS.out.mono (by omega))
    exact h1.trans (aU.mono h1.size)
   clear hfo aU oM HOo; go_wp2
   go_ret
   exact ⟨fa, fc, by rw [HF.out]; rfl, by rw [HF.out]; exact HFo.out, bT.out⟩
  have bZ := aPu (aGY (q := iI l) (l := m) (k := k) (by rw [W3.out]; exact aK))
  have HOr := aPu (nV.out.below cS.out (by omega))
  have W5 := aPu (HG4.out.below cS.out (by omega))
  have HNr := aPu ((cS.out.block _ (by omega)).trans vW.out)
  obtain ⟨b, off, rfl, hb, ho⟩ := W5.out.2 k aK; have lV : Hid (nI wr b (off + k * 8) (aB m k)) := ho; have kU : ((m.take k).filter (iI l)).length ≤ 1048576 := by
   have := List.length_filter_le (iI l) (m.take k); have := List.length_take_le k m; omega
  have HUx := aPu (aEl (aOh.out k (by rw [W3.out]; exact aK)))
  have HTn : Hid ((∀ j, j < l.length → ¬ mM l j (aB m k).dev (aB m k).seq) → iI l (aB m k) = false) := fun h => aFT h
  have HTy : Hid (∀ i, i < l.length → mM l i (aB m k).dev (aB m k).seq → iI l (aB m k) = (oY (aB l i) != oY (aB m k))) := fun i hi e => aJF L8.out hi e
  clear ho W5; generalize (m.take k).filter (iI l) = L at HR bZ kU; generalize aB m k = x at lV bZ HUx HTn HTy; obtain ⟨d0, d1, d2, d3, d4, d5, d6, d7⟩ := lV.out; have hki : (k : Int) < (mo : Int) := by omega
  go_upto_region 8 with fail
  have aU : Below wr.heap.size wr (wr.alloc (.cells #[.int .i64 x.dev, .int .i64 x.seq, .int .i64 x.stamp, .int .i64 x.kind, .string x.item, .int .i64 x.qty, .int .i64 x.level, .int .i64 x.undos] 50)) := bl; have HXo := aPu (bE (Below.refl _ (wr.alloc (.cells #[.int .i64 x.dev, .int .i64 x.seq, .int .i64 x.stamp, .int .i64 x.kind, .string x.item, .int .i64 x.qty, .int .i64 x.level, .int .i64 x.undos] 50)))); have aI3 := aPu (jI HR.out aU); have zJ := aPu (HOr.out.below aU (by omega))
  have HN5 := aPu ((aU.block _ (by omega)).trans HNr.out)
  have oB := aPu (cS.out.trans (aU.mono (by omega)))
  have hs5 := aU.size; generalize wr.alloc (.cells #[.int .i64 x.dev, .int .i64 x.seq, .int .i64 x.stamp, .int .i64 x.kind, .string x.item, .int .i64 x.qty, .int .i64 x.level, .int .i64 x.undos] 50) = w5 at aU HXo aI3 zJ HN5 oB hs5 ⊢; generalize wr.heap.size = ob at HXo hs5 hsr ⊢; clear aU HR HOr HNr lV d0 d1 d2 d3 d4 d5 d6 d7 cS; obtain ⟨p0, p1⟩ := pair_cells HN5.out; obtain ⟨d0, d1, d2, d3, d4, d5, d6, d7⟩ := aM HXo.out
  go_wp2_with fail
  refine (aD2 w5 B ao no co l x zJ.out (by omega) hn L8.out).mono ?_
  rintro e w6 ⟨⟨v, rfl, c8⟩, jF⟩; have qD := aPu c8; have aFA := aPu (jI aI3.out jF); have aBb := aPu ((jF.block _ (aPv HXo.out).1).trans HXo.out); have fA := aPu (oB.out.trans (jF.mono (by omega)))
  have S2 := jF.size; clear c8 jF aI3 HXo zJ HN5 oB p0 p1 d0 d1 d2 d3 d4 d5 d6 d7; rcases qD.out with ⟨i, hi, hei, rfl⟩ | ⟨aJv, rfl⟩
  rotate_left
  ·have HE : Hid ((m.take (k + 1)).filter (iI l) = L) := by show _ = _; rw [bZ.out, HTn.out aJv]; rfl
   clear aJv qD
   go_upto_region 9 with fail
   have nQ : Below w6.heap.size w6 (w6.alloc (.cells #[.int .i64 0, .int .i64 0, .int .i64 0, .int .i64 0, .string ⟨#[]⟩, .int .i64 0, .int .i64 0, .int .i64 0] 50)) := bl; have HZo := aPu (bE (Below.refl _ (w6.alloc (.cells #[.int .i64 0, .int .i64 0, .int .i64 0, .int .i64 0, .string ⟨#[]⟩, .int .i64 0, .int .i64 0, .int .i64 0] 50)))); have aDx := aPu (jI aFA.out nQ); have aFt := aPu ((nQ.block _ (aPv aBb.out).1).trans aBb.out); have oA := aPu (fA.out.trans (nQ.mono (by omega)))
   have Z5 := nQ.size; generalize w6.alloc (.cells #[.int .i64 0, .int .i64 0, .int .i64 0, .int .i64 0, .string ⟨#[]⟩, .int .i64 0, .int .i64 0, .int .i64 0] 50) = w7 at nQ HZo aDx aFt oA Z5 ⊢; generalize w6.heap.size = zb at HZo Z5 S2 ⊢; clear nQ aFA aBb fA; have hS : True := trivial
   go_wp2_with fail
   refine wp_region_held_drew (S := fun w' => True) (by kernel_rfl) hS (fun aP => ?_)
   refine tk 0 ⟨some 35, .move (.tmp 10), 4, "l07_deltas.go:112", #[], none⟩ ?_
   (try simp only [Act.put, u1, u2, u3])
   refine tk 1 ⟨some 36, .move (.tmp 35), 4, "l07_deltas.go:112", #[⟨0, .data⟩], none⟩ ?_
   (try simp only [Act.put, u1, u2, u3])
   refine sk 2 ⟨some 37, .load 50 (.tmp 9), 50, "l07_deltas.go:112", #[⟨1, .guard⟩], some (1, true)⟩ ?_
   (try simp only [Act.put, u1, u2, u3])
   refine sk 3 ⟨some 38, .call { callee := .value (.func 31), args := #[.tmp 37], argTypes := #[50] }, 4, "l07_deltas.go:112", #[⟨2, .data⟩, ⟨1, .chain⟩, ⟨1, .guard⟩], some (1, true)⟩ ?_
   (try simp only [Act.put, u1, u2, u3])
   refine sk 4 ⟨some 39, .load 50 (.tmp 8), 50, "l07_deltas.go:112", #[⟨1, .guard⟩], some (1, true)⟩ ?_
   (try simp only [Act.put, u1, u2, u3])
   refine sk 5 ⟨some 40, .call { callee := .value (.func 31), args := #[.tmp 39], argTypes := #[50] }, 4, "l07_deltas.go:112", #[⟨4, .data⟩, ⟨3, .chain⟩, ⟨1, .guard⟩], some (1, true)⟩ ?_
   (try simp only [Act.put, u1, u2, u3])
   refine sk 6 ⟨some 41, .binOp .neq 4 (.tmp 38) (.tmp 40) 4, 4, "l07_deltas.go:112", #[⟨3, .data⟩, ⟨5, .data⟩, ⟨1, .guard⟩], some (1, true)⟩ ?_
   (try simp only [Act.put, u1, u2, u3])
   refine tk 7 ⟨some 42, .pick (.tmp 36) (.tmp 41) (.const (.bool false)), 4, "l07_deltas.go:112", #[⟨1, .data⟩, ⟨6, .data⟩], none⟩ ?_
   (try simp only [Act.put, u1, u2, u3])
   refine wpAnyH_done (by kernel_rfl) ?_ _
   have HBe : Hid (Below (nb + 1) w4 w7.drew) := ⟨oA.out.os, oA.out.tape, oA.out.output, oA.out.size, oA.out.block⟩; have V2 : Hid (w7.drew.ownsRow (nb + 1) 50 8 vv L.length (aH L)) := aDx.out.drew; rw [← HE.out] at V2; clear hS aP; go_wp2
   go_roundw
   case rel => exact ⟨k + 1, _, by omega, rfl, by go_num, V2, HBe⟩
   case measure => simp [intOf]; omega
  have HTg := aPu (HTy.out i hi hei); have HUy := aPu (aEl (aOi.out i hi)); clear hei qD; generalize aB l i = y at HTg HUy ⊢; obtain ⟨ly, hly⟩ : ∃ b, oY y = b := ⟨_, rfl⟩; obtain ⟨lx, hlx⟩ : ∃ b, oY x = b := ⟨_, rfl⟩; have HLy : Hid (rH y.dev y.seq y.stamp y.kind y.item y.qty y.level y.undos = ly) := HUy.out.trans hly; have sK : Hid (rH x.dev x.seq x.stamp x.kind x.item x.qty x.level x.undos = lx) := HUx.out.trans hlx; rw [hly, hlx] at HTg; clear hly hlx; obtain ⟨tb, d8⟩ : ∃ b, (ly != lx) = b := ⟨_, rfl⟩; rw [d8] at HTg; have hbx : (ly == lx) = !tb := by rw [← d8]; cases ly <;> cases lx <;> rfl
  unfold wY
  go_upto_region 9 with fail
  have nQ : Below w6.heap.size w6 (w6.alloc (.cells #[.int .i64 y.dev, .int .i64 y.seq, .int .i64 y.stamp, .int .i64 y.kind, .string y.item, .int .i64 y.qty, .int .i64 y.level, .int .i64 y.undos] 50)) := bl; have HZo := aPu (bE (Below.refl _ (w6.alloc (.cells #[.int .i64 y.dev, .int .i64 y.seq, .int .i64 y.stamp, .int .i64 y.kind, .string y.item, .int .i64 y.qty, .int .i64 y.level, .int .i64 y.undos] 50)))); have aDx := aPu (jI aFA.out nQ); have aFt := aPu ((nQ.block _ (aPv aBb.out).1).trans aBb.out); have oA := aPu (fA.out.trans (nQ.mono (by omega)))
  have Z5 := nQ.size; generalize w6.alloc (.cells #[.int .i64 y.dev, .int .i64 y.seq, .int .i64 y.stamp, .int .i64 y.kind, .string y.item, .int .i64 y.qty, .int .i64 y.level, .int .i64 y.undos] 50) = w7 at nQ HZo aDx aFt oA Z5 ⊢; generalize w6.heap.size = zb at HZo Z5 S2 ⊢; clear nQ aFA aBb fA; obtain ⟨d0, d1, d2, d3, d4, d5, d6, d7⟩ := aM aFt.out; obtain ⟨e0, e1, e2, e3, e4, e5, e6, e7⟩ := aM HZo.out; have hS : w7.drew.cell? ⟨ob, 0, none⟩ = some (.int .i64 x.dev) ∧ w7.drew.cell? ⟨ob, 1, none⟩ = some (.int .i64 x.seq) ∧ w7.drew.cell? ⟨ob, 2, none⟩ = some (.int .i64 x.stamp) ∧ w7.drew.cell? ⟨ob, 3, none⟩ = some (.int .i64 x.kind) ∧ w7.drew.cell? ⟨ob, 4, none⟩ = some (.string x.item) ∧ w7.drew.cell? ⟨ob, 5, none⟩ = some (.int .i64 x.qty) ∧ w7.drew.cell? ⟨ob, 6, none⟩ = some (.int .i64 x.level) ∧ w7.drew.cell? ⟨ob, 7, none⟩ = some (.int .i64 x.undos) ∧ w7.drew.cell? ⟨zb, 0, none⟩ = some (.int .i64 y.dev) ∧ w7.drew.cell? ⟨zb, 1, none⟩ = some (.int .i64 y.seq) ∧ w7.drew.cell? ⟨zb, 2, none⟩ = some (.int .i64 y.stamp) ∧ w7.drew.cell? ⟨zb, 3, none⟩ = some (.int .i64 y.kind) ∧ w7.drew.cell? ⟨zb, 4, none⟩ = some (.string y.item) ∧ w7.drew.cell? ⟨zb, 5, none⟩ = some (.int .i64 y.qty) ∧ w7.drew.cell? ⟨zb, 6, none⟩ = some (.int .i64 y.level) ∧ w7.drew.cell? ⟨zb, 7, none⟩ = some (.int .i64 y.undos) := ⟨d0, d1, d2, d3, d4, d5, d6, d7, e0, e1, e2, e3, e4, e5, e6, e7⟩
  go_wp2_with fail
  refine wp_region_held_drew (S := fun w' => w'.cell? ⟨ob, 0, none⟩ = some (.int .i64 x.dev) ∧ w'.cell? ⟨ob, 1, none⟩ = some (.int .i64 x.seq) ∧ w'.cell? ⟨ob, 2, none⟩ = some (.int .i64 x.stamp) ∧ w'.cell? ⟨ob, 3, none⟩ = some (.int .i64 x.kind) ∧ w'.cell? ⟨ob, 4, none⟩ = some (.string x.item) ∧ w'.cell? ⟨ob, 5, none⟩ = some (.int .i64 x.qty) ∧ w'.cell? ⟨ob, 6, none⟩ = some (.int .i64 x.level) ∧ w'.cell? ⟨ob, 7, none⟩ = some (.int .i64 x.undos) ∧ w'.cell? ⟨zb, 0, none⟩ = some (.int .i64 y.dev) ∧ w'.cell? ⟨zb, 1, none⟩ = some (.int .i64 y.seq) ∧ w'.cell? ⟨zb, 2, none⟩ = some (.int .i64 y.stamp) ∧ w'.cell? ⟨zb, 3, none⟩ = some (.int .i64 y.kind) ∧ w'.cell? ⟨zb, 4, none⟩ = some (.string y.item) ∧ w'.cell? ⟨zb, 5, none⟩ = some (.int .i64 y.qty) ∧ w'.cell? ⟨zb, 6, none⟩ = some (.int .i64 y.level) ∧ w'.cell? ⟨zb, 7, none⟩ = some (.int .i64 y.undos)) (by kernel_rfl) hS (fun aP => ?_)
  refine tk 0 ⟨some 35, .move (.tmp 10), 4, "l07_deltas.go:112", #[], none⟩ ?_
  (try simp only [Act.put, u1, u2, u3])
  refine tk 1 ⟨some 36, .move (.tmp 35), 4, "l07_deltas.go:112", #[⟨0, .data⟩], none⟩ ?_
  (try simp only [Act.put, u1, u2, u3])
  refine tk 2 ⟨some 37, .load 50 (.tmp 9), 50, "l07_deltas.go:112", #[⟨1, .guard⟩], some (1, true)⟩ ?_
  (try simp only [Act.put, u1, u2, u3])
  refine tk 4 ⟨some 39, .load 50 (.tmp 8), 50, "l07_deltas.go:112", #[⟨1, .guard⟩], some (1, true)⟩ ?_
  (try simp only [Act.put, u1, u2, u3])
  refine rk 3 rfl (fun K hK => ?_)
  go_simp
  go_at_call 31
  refine (yK y.dev y.seq y.stamp y.kind y.item y.qty y.level y.undos _).mono ?_
  rintro e z1 ⟨rfl, dH⟩; rw [HLy.out]; have aIs : z1.cell? ⟨ob, 0, none⟩ = some (.int .i64 x.dev) ∧ z1.cell? ⟨ob, 1, none⟩ = some (.int .i64 x.seq) ∧ z1.cell? ⟨ob, 2, none⟩ = some (.int .i64 x.stamp) ∧ z1.cell? ⟨ob, 3, none⟩ = some (.int .i64 x.kind) ∧ z1.cell? ⟨ob, 4, none⟩ = some (.string x.item) ∧ z1.cell? ⟨ob, 5, none⟩ = some (.int .i64 x.qty) ∧ z1.cell? ⟨ob, 6, none⟩ = some (.int .i64 x.level) ∧ z1.cell? ⟨ob, 7, none⟩ = some (.int .i64 x.undos) ∧ z1.cell? ⟨zb, 0, none⟩ = some (.int .i64 y.dev) ∧ z1.cell? ⟨zb, 1, none⟩ = some (.int .i64 y.seq) ∧ z1.cell? ⟨zb, 2, none⟩ = some (.int .i64 y.stamp) ∧ z1.cell? ⟨zb, 3, none⟩ = some (.int .i64 y.kind) ∧ z1.cell? ⟨zb, 4, none⟩ = some (.string y.item) ∧ z1.cell? ⟨zb, 5, none⟩ = some (.int .i64 y.qty) ∧ z1.cell? ⟨zb, 6, none⟩ = some (.int .i64 y.level) ∧ z1.cell? ⟨zb, 7, none⟩ = some (.int .i64 y.undos) := by
   obtain ⟨q0, q1, q2, q3, q4, q5, q6, q7, q8, q9, yD, yC, yB, yA, xZ, xY⟩ := hS; exact ⟨(dH.cell (block_lt_of_cell q0)).trans q0, (dH.cell (block_lt_of_cell q1)).trans q1, (dH.cell (block_lt_of_cell q2)).trans q2, (dH.cell (block_lt_of_cell q3)).trans q3, (dH.cell (block_lt_of_cell q4)).trans q4, (dH.cell (block_lt_of_cell q5)).trans q5, (dH.cell (block_lt_of_cell q6)).trans q6, (dH.cell (block_lt_of_cell q7)).trans q7, (dH.cell (block_lt_of_cell q8)).trans q8, (dH.cell (block_lt_of_cell q9)).trans q9, (dH.cell (block_lt_of_cell yD)).trans yD, (dH.cell (block_lt_of_cell yC)).trans yC, (dH.cell (block_lt_of_cell yB)).trans yB, (dH.cell (block_lt_of_cell yA)).trans yA, (dH.cell (block_lt_of_cell xZ)).trans xZ, (dH.cell (block_lt_of_cell xY)).trans xY⟩
  refine hK.out _ _ aIs (fun bG => ?_)
  clear hK K
  (try simp only [Act.put, u1, u2, u3])
  refine rk 5 rfl (fun K hK => ?_)
  go_simp
  go_at_call 31
  refine (yK x.dev x.seq x.stamp x.kind x.item x.qty x.level x.undos _).mono ?_
  rintro e z2 ⟨rfl, dY⟩; rw [sK.out]; have aLH : z2.cell? ⟨ob, 0, none⟩ = some (.int .i64 x.dev) ∧ z2.cell? ⟨ob, 1, none⟩ = some (.int .i64 x.seq) ∧ z2.cell? ⟨ob, 2, none⟩ = some (.int .i64 x.stamp) ∧ z2.cell? ⟨ob, 3, none⟩ = some (.int .i64 x.kind) ∧ z2.cell? ⟨ob, 4, none⟩ = some (.string x.item) ∧ z2.cell? ⟨ob, 5, none⟩ = some (.int .i64 x.qty) ∧ z2.cell? ⟨ob, 6, none⟩ = some (.int .i64 x.level) ∧ z2.cell? ⟨ob, 7, none⟩ = some (.int .i64 x.undos) ∧ z2.cell? ⟨zb, 0, none⟩ = some (.int .i64 y.dev) ∧ z2.cell? ⟨zb, 1, none⟩ = some (.int .i64 y.seq) ∧ z2.cell? ⟨zb, 2, none⟩ = some (.int .i64 y.stamp) ∧ z2.cell? ⟨zb, 3, none⟩ = some (.int .i64 y.kind) ∧ z2.cell? ⟨zb, 4, none⟩ = some (.string y.item) ∧ z2.cell? ⟨zb, 5, none⟩ = some (.int .i64 y.qty) ∧ z2.cell? ⟨zb, 6, none⟩ = some (.int .i64 y.level) ∧ z2.cell? ⟨zb, 7, none⟩ = some (.int .i64 y.undos) := by
   obtain ⟨q0, q1, q2, q3, q4, q5, q6, q7, q8, q9, yD, yC, yB, yA, xZ, xY⟩ := aIs; exact ⟨(dY.cell (block_lt_of_cell q0)).trans q0, (dY.cell (block_lt_of_cell q1)).trans q1, (dY.cell (block_lt_of_cell q2)).trans q2, (dY.cell (block_lt_of_cell q3)).trans q3, (dY.cell (block_lt_of_cell q4)).trans q4, (dY.cell (block_lt_of_cell q5)).trans q5, (dY.cell (block_lt_of_cell q6)).trans q6, (dY.cell (block_lt_of_cell q7)).trans q7, (dY.cell (block_lt_of_cell q8)).trans q8, (dY.cell (block_lt_of_cell q9)).trans q9, (dY.cell (block_lt_of_cell yD)).trans yD, (dY.cell (block_lt_of_cell yC)).trans yC, (dY.cell (block_lt_of_cell yB)).trans yB, (dY.cell (block_lt_of_cell yA)).trans yA, (dY.cell (block_lt_of_cell xZ)).trans xZ, (dY.cell (block_lt_of_cell xY)).trans xY⟩
  refine hK.out _ _ aLH (fun fI => ?_)
  clear hK K
  (try simp only [Act.put, u1, u2, u3])
  refine tk 6 ⟨some 41, .binOp .neq 4 (.tmp 38) (.tmp 40) 4, 4, "l07_deltas.go:112", #[⟨3, .data⟩, ⟨5, .data⟩, ⟨1, .guard⟩], some (1, true)⟩ ?_
  (try simp only [Act.put, u1, u2, u3])
  refine tk 7 ⟨some 42, .pick (.tmp 36) (.tmp 41) (.const (.bool false)), 4, "l07_deltas.go:112", #[⟨1, .data⟩, ⟨6, .data⟩], none⟩ ?_
  (try simp only [Act.put, u1, u2, u3])
  refine wpAnyH_done (by kernel_rfl) ?_ _
  have hc1 : Below w7.heap.size w7 z1 := Below.mk dH.os dH.tape dH.output dH.size dH.block; have cM : Below w7.heap.size w7 z2 := hc1.trans (dY.mono hc1.size); have HBe := aPu (oA.out.trans (cM.mono (by omega)))
  have V2 := aPu (jI aDx.out cM); obtain ⟨q0, q1, q2, q3, q4, q5, q6, q7, q8, q9, yD, yC, yB, yA, xZ, xY⟩ := aLH; have hsy : w4.heap.size ≤ z2.heap.size := by have := cM.size; omega
  clear hS aIs aP bG fI dH dY hc1 cM d0 d1 d2 d3 d4 d5 d6 d7 e0 e1 e2 e3 e4 e5 e6 e7; cases tb
  ·have HE : Hid ((m.take (k + 1)).filter (iI l) = L) := by show _ = _; rw [bZ.out, HTg.out]; rfl
   rw [← HE.out] at V2; clear q0 q1 q2 q3 q4 q5 q6 q7 q8 q9 yD yC yB yA xZ xY; go_wp2
   go_roundw
   case rel => exact ⟨k + 1, _, by omega, rfl, by go_num, V2, HBe⟩
   case measure => simp [intOf]; omega
  have HE : Hid ((m.take (k + 1)).filter (iI l) = L ++ [x]) := by show _ = _; rw [bZ.out, HTg.out]; rfl
  have tD := V2.out.alloc (.cells #[.int .i64 x.dev, .int .i64 x.seq, .int .i64 x.stamp, .int .i64 x.kind, .string x.item, .int .i64 x.qty, .int .i64 x.level, .int .i64 x.undos] 50)
  go_wp2_with (at_builtin; refine wpList_append_own _ rfl _ _ 25 rfl (nb + 1) 50 i0 (.agg #[.int .i64 0, .int .i64 0, .int .i64 0, .int .i64 0, .string ⟨#[]⟩, .int .i64 0, .int .i64 0, .int .i64 0]) 8 72 Tryz.underlying25 aNW gI jK jB rfl (by decide) _ _ _ rfl tD ⟨z2.heap.size, 0, none⟩ 1 1 (bR x) rfl ?c0 ?c1 ?c2 ?c3 ?c4 ?c5 ?_)
  case c0 => rfl
  case c1 => exact zY z2 x
  case c2 =>
   intro u hu
   exact iG [x] u (by show u ∈ bR x ++ []; rw [List.append_nil]; exact hu)
  case c3 => unfold maxLen; omega
  case c4 => omega
  case c5 => simp; omega
  intro v' z3 gF gP _
  have bP := aPu ((HBe.out.alloc (by omega) (.cells #[.int .i64 x.dev, .int .i64 x.seq, .int .i64 x.stamp, .int .i64 x.kind, .string x.item, .int .i64 x.qty, .int .i64 x.level, .int .i64 x.undos] 50)).grown gP (by simp; omega) (fun j hj => (tD.lt j hj).1))
  have kP : Hid (z3.ownsRow (nb + 1) 50 8 v' ((m.take (k + 1)).filter (iI l)).length (aH ((m.take (k + 1)).filter (iI l)))) := by
   show World.ownsRow _ _ _ _ _ _ _
   rw [HE.out, iK, List.length_append]; exact gF
  clear gF gP tD V2 q0 q1 q2 q3 q4 q5 q6 q7 q8 q9 yD yC yB yA xZ xY; go_wp2
  go_roundw
  case rel => exact ⟨k + 1, _, by omega, rfl, by go_num, kP, bP⟩
  case measure => simp [intOf]; omega
end Go.Proofs.YthkagbnpcjidfaaGreatDoor
