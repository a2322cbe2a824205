/- Walks and mathematics that several claims share, part 42. -/
import Derived.Test.YthkagbnpcjidfaaGreatDoorGq29
import Derived.Test.YthkagbnpcjidfaaGreatDoorGq27
import Derived.Laws.MakeOwn
import Derived.Deep.Cut
import Derived.Deep.RegionHeld3
namespace Go.Proofs.YthkagbnpcjidfaaGreatDoor
set_option maxRecDepth 100000
open Go.RowKit
set_option linter.unusedVariables false
set_option linter.unusedSimpArgs false
theorem aAp {w : World} {base b i n : Nat} {v u : Value} {xs : List Value} (h : w.ownsRow base 50 8 v n xs) (hb : ∀ g, v.ownBlock = some g → g ≠ b) : (w.setCell ⟨b, i, none⟩ u).ownsRow base 50 8 v n xs := by
 refine h.kept (row := some b) ⟨rfl, rfl, rfl, by simp [World.setCell], fun j _ bI => heap_setCell_other _ _ _ _ (fun e => bI (by rw [e]))⟩ ?_
 rcases hg : v.ownBlock with _ | g
 ·exact .inl rfl
 ·refine .inr fun e => ?_
  injection e with e; exact hb g hg e
theorem gX.len {w : World} {b n : Nat} {f : Int → Int → Option aA} (h : gX w b n f) : ∃ c : Nat, c ≤ n ∧ ∀ ty, (Builtin.len_ #[82] ty #[.map (some b)]).run Tryz.prog w = .ok (.int .i64 (c : Int)) w := by
 obtain ⟨D, h1, _⟩ := h
 exact ⟨_, h1.size_le, fun ty => h1.len Tryz.underlying82 ty⟩
def aKt (ok : Bool) (zs : List Int) (L : List aA) (w : World) (e : Ending) (w' : World) : Prop := ∃ va vc oa oc, e = .returned (.tuple #[.agg #[.slice va zs.length vc, .slice oa L.length oc], .bool ok]) ∧ Own w' w.heap.size w'.heap.size va zs.length zs ∧ bE w' w.heap.size w'.heap.size oa L.length L ∧ Below w.heap.size w w'
def I2 (ok : Bool) (zs : List Int) (L : List aA) (w : World) (e : Ending) (w' : World) : Prop := ∃ va vc oa oc, e = .returned (.tuple #[.agg #[.slice va zs.length vc, .slice oa L.length oc], .bool ok]) ∧ Own w' w.heap.size w'.heap.size va zs.length zs ∧ bE w' w.heap.size w'.heap.size oa L.length L ∧ Below w.heap.size w w' ∧ bY va zs.length vc ∧ bY oa L.length oc
theorem I2.read {ok : Bool} {zs : List Int} {L : List aA} {w : World} (e : Ending) (w' : World) (h : I2 ok zs L w e w') : aKt ok zs L w e w' := by
 obtain ⟨va, vc, oa, oc, h1, h2, h3, h4, _⟩ := h
 exact ⟨va, vc, oa, oc, h1, h2, h3, h4⟩
theorem pM.set2S {w w1 : World} {x y : Array Value} {z0 z1 : Value} {S T U : TypeId} (h : pM w w1 x y #[z0, z1] S T U) (u v : Value) :
  ((w1.setCell ⟨w.heap.size + 1 + 1, 0, none⟩ u).setCell ⟨w.heap.size + 1 + 1, 1, none⟩ v).heap[w.heap.size + 1 + 1]? = some (.cells #[u, v] U (0, 0)) ∧ Below w.heap.size w ((w1.setCell ⟨w.heap.size + 1 + 1, 0, none⟩ u).setCell ⟨w.heap.size + 1 + 1, 1, none⟩ v) :=
 ⟨cH _ _ h.res, (h.bel.setCell (by show _ ≤ w.heap.size + 1 + 1; omega) _).setCell (by show _ ≤ w.heap.size + 1 + 1; omega) _⟩
theorem P4 (w : World) (lo hi : Nat) (a : Option Addr) : Own w lo hi a 0 [] := ⟨rfl, fun h => absurd h (by omega)⟩
theorem aCY {a b : aA} : eW a b = eW b a := by
 rcases h : eW a b with _ | _
 ·rcases h2 : eW b a with _ | _
  ·rfl
  ·have e := A1 h2
   rw [e] at h; have := aCX b a.undos; have h3 : eW (b.with a.undos) b = eW b (b.with a.undos) := by unfold eW aA.with; simp
   rw [h3, this] at h; cases h
 ·have e := A1 h
  rw [e]; have h3 : eW (a.with b.undos) a = eW a (a.with b.undos) := by unfold eW aA.with; simp
  rw [h3]; exact (aCX a b.undos).symm
def nF (ob : Nat) (zv : Option Addr) (zc : Nat) (zs : List Int) (F : Nat → Nat → aA) (w2 wr : World) (d s : Nat) : Prop :=
 ∃ oa oc, wr.heap[ob]? = some (.cells #[.slice zv 4 zc, .slice oa (eH zs F d s).length oc] 27 (0, 0)) ∧ wr.ownsRow (ob + 1) 50 8 (.slice oa (eH zs F d s).length oc) (eH zs F d s).length (aG (eH zs F d s)) ∧ Below ob w2 wr
def okP (l m : List aA) (d s : Nat) : Prop := ∀ a b, lE l (d : Int) ((s : Int) + 1) = some a → lE m (d : Int) ((s : Int) + 1) = some b → eW a b = true
theorem wL {P : Program} {o : Oper} {a : Act} {w : World} {K : Act → World → Prop} {Q : Exit → Act → World → Prop} (x y : Operand) (ts : Array TypeId) (dY : o.op = Op.call { callee := Callee.builtin Builtin.append, args := #[x, y], argTypes := ts }) (v1 v2 : Value) {v' : Value} {w' : World} (h1 : a.eval x = v1) (h2 : a.eval y = v2)
  (hrun : (Builtin.append_ ts o.type #[v1, v2]).run P w = .ok v' w') (hK : K (a.put o.dst v') w') : Oper.wp P o a w K Q := by
 unfold Oper.wp
 simp [execOp, dY, resolve, invoke, builtin, h1, h2, hrun, Result.andThen]
 exact hK
theorem aIi (zs : List Int) (F : Nat → Nat → aA) (d s : Nat) {i : Nat} (hi : i < (eH zs F d s).length) : ∃ e t, aB (eH zs F d s) i = F e t := by
 have hm : (eH zs F d s)[i] ∈ eH zs F d s := List.getElem_mem hi
 have ha : aB (eH zs F d s) i = (eH zs F d s)[i] := by unfold aB; rw [List.getD_eq_getElem?_getD, List.getElem?_eq_getElem hi]; rfl
 rw [ha]
 unfold eH at hm ⊢
 rcases List.mem_append.1 hm with h | h
 ·obtain ⟨e, _, h2⟩ := List.mem_flatMap.1 h
  obtain ⟨t, _, h3⟩ := List.mem_map.1 h2; exact ⟨e, t, h3.symm⟩
 ·obtain ⟨t, _, h3⟩ := List.mem_map.1 h
  exact ⟨d, t, h3.symm⟩
theorem pM.low {w w1 w2 : World} {x y z : Array Value} {S T U : TypeId} {B : Nat} (h : pM w w1 x y z S T U) (hb : Below B w1 w2) (hB : w.heap.size + 1 + 1 < B) : pM w w2 x y z S T U :=
 ⟨(hb.block _ (by omega)).trans h.fst, (hb.block _ (by omega)).trans h.snd, (hb.block _ hB).trans h.res, h.bel.trans (hb.mono (by omega))⟩
theorem aL9 {zs : List Int} {l m : List aA} {ys : List Int} (h2 : aD ys m = true) (hz : ∀ d, d < 4 → ys.getD d 0 ≤ zs.getD d 0) (h : ∀ d, d < 4 → ∀ s : Nat, (s : Int) < zs.getD d 0 → okP l m d s) : rF l m = true :=
 aMa fun i hi => by
  obtain ⟨d, hd, _, _, _, h3, _⟩ := qT h2 hi; have hq := aEV h2 hi h3; have hzd := hz d hd; obtain ⟨s, hs⟩ : ∃ s : Nat, (s : Int) + 1 = (aB m i).seq := ⟨((aB m i).seq - 1).toNat, by omega⟩
  have hp := h d hd s (by omega)
  unfold okP at hp; rw [← h3, hs] at hp; have hm : lE m (aB m i).dev (aB m i).seq = some (aB m i) := sA (sD h2) m.length aRr i hi; rcases hg : lE l (aB m i).dev (aB m i).seq with _ | a
  ·exact aJm hg
  ·rw [aA3 hg, aCY]
   exact hp a _ hg hm
theorem aJk {l m : List aA} {d s : Nat} {a b : aA} {k : Nat} (hk : k < m.length) (hb : aB m k = b) (e : b.dev = (d : Int) ∧ b.seq = (s : Int) + 1) (ha : lE l (d : Int) ((s : Int) + 1) = some a) (h : eW a b = false) : rF l m = false :=
 aJl hk (by rw [aA3 (y := a) (by rw [hb, e.1, e.2]; exact ha), hb, aCY]; exact h)
def vW (xs ys : List Int) (ok : Bool) : List Int := if ok = true then lV xs ys else []
def A7 (xs ys : List Int) (l m : List aA) (ok : Bool) : List aA := if ok = true then i7 (lV xs ys) l m else []
set_option linter.unusedSimpArgs false in
set_option maxHeartbeats 80000000 in
theorem aJE (w : World) (B : Nat) (av ao bv bo : Option Addr) (nv cv no co mv dv mo eo : Nat) (xs : List Int) (l : List aA) (ys : List Int) (m : List aA) (hx : Ints w B av nv xs) (h : bR w B ao no l) (hy : Ints w B bv mv ys) (g : bR w B bo mo m) (hB : B ≤ w.heap.size) (hv : nv ≤ 1048576) (hn : no ≤ 1048576) (hm : ∀ i, i < no → (aB l i).item.size ≤ 1048576) (yL : mv ≤ 1048576) (yO : mo ≤ 1048576) (mH : ∀ i, i < mo → (aB m i).item.size ≤ 1048576) (hca : aD xs l = true) (hcb : aD ys m = true) :
  Calls Tryz.prog 131 #[.agg #[.slice av nv cv, .slice ao no co], .agg #[.slice bv mv dv, .slice bo mo eo]] w (I2 (rF l m) (vW xs ys (rF l m)) (A7 xs ys l m (rF l m)) w) := by
 obtain ⟨i0, hi, gR, kH, jN⟩ := info_parts Tryz.infoOp
 have hT := pM.mk0 w #[.slice av nv cv, .slice ao no co] #[.slice bv mv dv, .slice bo mo eo] #[.slice none 0 0, .slice none 0 0] 27 27 27
 have HV := aRp (hx.below hT.bel hB)
 have HO := aRp (h.below hT.bel hB)
 have HY := aRp (hy.below hT.bel hB)
 have HG := aRp (g.below hT.bel hB)
 have HT := aRp hT
 have HL := aRp h.1
 have HLm := aRp g.1
 have hvA := (jW hca).1
 have hvB := (jW hcb).1
 have hv4 := (fO hvA (d := 0) (by omega)).2.2
 have aNf := (fO hvB (d := 0) (by omega)).2.2
 have HVm := aRp (aCv hvA hvB)
 have HZv : Hid (M1 max xs ys = lV xs ys) := by show _ = _; rw [aBy (by rw [hvA, hvB]; rfl)]; rfl
 have hz4 : (lV xs ys).length = 4 := (fO HVm.out (d := 0) (by omega)).2.2
 have HZd : Hid (∀ d, d < 4 → (lV xs ys).getD d 0 = max (xs.getD d 0) (ys.getD d 0)) := fun d hd => aCw hv4 aNf hd
 have J8 : Hid (∀ d s, (dF l m d s).item.size ≤ 1048576) := fun d s => aFO (N := 1048576) (fun i hi => hm i (by rw [← h.1]; exact hi)) (fun i hi => mH i (by rw [← g.1]; exact hi)) d s
 have nL := aRp hca
 have pW := aRp hcb
 have HVd := aRp (fun d (hd : d < 4) => fO (aCv hvA hvB) hd)
 have hBw := hB
 clear hx h hy g hT hB hm mH hca hcb hvA hvB hv4 aNf
 go_enter Tryz.func131, Tryz.ntmps131
 go_wp2_with fail
 generalize ((w.alloc (.cells #[.slice av nv cv, .slice ao no co] 27)).alloc (.cells #[.slice bv mv dv, .slice bo mo eo] 27)).alloc (.cells #[.slice none 0 0, .slice none 0 0] 27) = w0 at HV HO HY HG HT ⊢
 have aGR := HT.out.bel.size
 have rB := bT HT.out.res
 refine (aI9 w0 B B av bv nv cv mv dv xs ys HV.out HY.out (by omega) (by omega) hv yL).mono ?_
 rintro e w1 ⟨zv, zc, rfl, aZ, aF, hcz⟩
 rw [HZv.out, hz4] at aZ hcz ⊢
 have HCz := aRp hcz
 clear hcz
 have cV := aRp (HO.out.below aF (by omega))
 have tA := aRp (HG.out.below aF (by omega))
 have aR := aRp (HT.out.next aF)
 have HZ1 := aRp aZ
 have eL := aF.size
 clear aF HV HO HY HG HT aZ HZv
 go_upto_region 2 with fail
 have aI : Below w1.heap.size w1 (w1.alloc (.cells #[.slice zv 4 zc, .slice none 0 0] 27)) := bl
 have qP := aRp (bM (Below.refl _ (w1.alloc (.cells #[.slice zv 4 zc, .slice none 0 0] 27))))
 have fJ := aRp (cV.out.below aI (by omega))
 have HG2 := aRp (tA.out.below aI (by omega))
 have aN := aRp (aR.out.next aI)
 have s8 := aRp (HZ1.out.below aI aRr)
 generalize w1.alloc (.cells #[.slice zv 4 zc, .slice none 0 0] 27) = w2 at aI qP fJ HG2 aN s8 ⊢
 have eB := aI.size
 have l9 := bT qP.out
 generalize tU : w1.heap.size = ob at qP eB l9 eL s8 ⊢
 clear aI cV tA aR HZ1 tU
 have aOm : Hid (nF ob zv zc (lV xs ys) (dF l m) w2 w2 0 0) := ⟨none, 0, qP.out, ⟨rfl, .inl ⟨rfl, rfl⟩⟩, Below.refl _ _⟩
 generalize mF : lV xs ys = zs at *
 go_wp2
 go_loopw [7] (fun i wr => ∃ d : Nat, d ≤ 4 ∧ i = .int .i64 (d : Int) ∧ Hid (nF ob zv zc zs (dF l m) w2 wr d 0) ∧ Hid (∀ e, e < d → ∀ s : Nat, (s : Int) < zs.getD e 0 → okP l m e s)) (fun i _ => 4 - (intOf i).toNat)
 case atStart => exact ⟨0, by omega, rfl, aOm, aRp (fun e he => absurd he (by omega))⟩
 case round =>
  obtain ⟨d, hd, rfl, HOu, pU⟩ := hrel; clear aOm qP
  by_cases aM : d < 4
  rotate_left
  ·obtain rfl : d = 4 := by omega
   obtain ⟨oa, oc, K6, jO, vY⟩ := HOu.out; have hok : rF l m = true := aL9 pW.out (fun d hd => by rw [HZd.out d hd]; omega) pU.out
   have aQi := aRp hok; have HCm : Hid (aD zs (eH zs (dF l m) 4 0) = true) := by
    show _ = _
    rw [← mF]; exact aAR nL.out pW.out hok
   have HMv : Hid (vW xs ys (rF l m) = zs) := by show _ = _; rw [hok, ← mF]; rfl
   have HMo : Hid (A7 xs ys l m (rF l m) = eH zs (dF l m) 4 0) := by show _ = _; rw [hok, ← mF]; rfl
   have nD : (eH zs (dF l m) 4 0).length ≤ 1048576 := by
    rw [sN]; have h2 := aAm HVm.out 4 (by omega)
    omega
   have aOy : Hid (∀ i, i < (eH zs (dF l m) 4 0).length → (aB (eH zs (dF l m) 4 0) i).item.size ≤ 1048576) := fun i hi => by
    obtain ⟨d, s, e⟩ := aIi zs (dF l m) 4 0 hi; rw [e]; exact J8.out d s
   have J4 := aRp K6; have sG := aRp jO; have HBL := aRp vY; have oD := aRp (aN.out.low vY (by omega))
   have HZr := aRp (s8.out.below vY aRr); have aPM : ob < wr.heap.size := bT K6; clear K6 jO vY HOu hok mF nL pW pU s8 HZd J8; generalize eH zs (dF l m) 4 0 = L at J4 sG HCm HMo aOy nD; have aOp := aRp (fP sG.out (Nat.le_refl wr.heap.size)); have pH := aRp (fY sG.out); obtain ⟨z0, cZ⟩ : ∃ z0, wr.drew = z0 := ⟨_, rfl⟩; have hS : z0.cell? ⟨ob, 0, none⟩ = some (.slice zv 4 zc) ∧ z0.cell? ⟨ob, 1, none⟩ = some (.slice oa L.length oc) := by rw [← cZ]; exact pair_cells J4.out
   have HT0 : Hid (pM w z0 #[.slice av nv cv, .slice ao no co] #[.slice bv mv dv, .slice bo mo eo] #[.slice none 0 0, .slice none 0 0] 27 27 27) := by rw [← cZ]; exact ⟨oD.out.fst, oD.out.snd, oD.out.res, ⟨oD.out.bel.os, oD.out.bel.tape, oD.out.bel.output, oD.out.bel.size, oD.out.bel.block⟩⟩
   have HZ0 : Hid (Own z0 w0.heap.size ob zv 4 zs) := by rw [← cZ]; exact HZr.out.kept (w' := wr.drew) fun _ _ _ => rfl
   have HO0 : Hid (bE z0 (ob + 1) z0.heap.size oa L.length L) := by rw [← cZ]; exact aOp.out.kept (w' := wr.drew) fun _ _ _ => rfl
   have aJZ : ob ≤ z0.heap.size := by rw [← cZ]; exact Nat.le_of_lt aPM
   clear J4 sG oD HZr aOp
   go_upto_region 19 with fail
   go_wp2_with fail
   refine wp_region_held_drew (S := fun w' => w'.cell? ⟨ob, 0, none⟩ = some (.slice zv 4 zc) ∧ w'.cell? ⟨ob, 1, none⟩ = some (.slice oa L.length oc)) (by kernel_rfl) (by rw [cZ]; exact hS) (fun aO => ?_)
   rw [cZ]; clear aO; refine tj 0 ?_
   refine tj 1 ?_
   refine rk 2 rfl (fun K hK => ?_)
   go_simp
   go_at_call 36
   refine (tH z0 z0.heap.size zv oa 4 zc L.length oc zs L (HZ0.out.ints.more aJZ) HO0.out.ops aRr (by omega) nD aOy.out).mono ?_
   rintro e w5 ⟨rfl, aW⟩; rw [HCm.out]; have N5 : w5.cell? ⟨ob, 0, none⟩ = some (.slice zv 4 zc) ∧ w5.cell? ⟨ob, 1, none⟩ = some (.slice oa L.length oc) := ⟨(aW.cell (block_lt_of_cell hS.1)).trans hS.1, (aW.cell (block_lt_of_cell hS.2)).trans hS.2⟩; refine hK.out _ _ N5 (fun bQ => ?_)
   clear hK K
   (try simp only [Act.put, u1, u2, u3])
   have vO := aRp (HT0.out.next aW); have HZ5 := aRp (HZ0.out.below aW aJZ); have HO5 := aRp ((HO0.out.below aW aRr).more aRr aW.size); have aQN : ob ≤ w5.heap.size := Nat.le_trans aJZ aW.size; obtain ⟨r0, r1⟩ := pair_cells vO.out.res; obtain ⟨fz0, fz1⟩ := aC vO.out.res; have hrl := bT aN.out.res; have X3 : ((w5.setCell ⟨w.heap.size + 1 + 1, 0, none⟩ (.slice zv 4 zc)).setCell ⟨w.heap.size + 1 + 1, 1, none⟩ (.slice oa L.length oc)).cell? ⟨ob, 0, none⟩ = some (.slice zv 4 zc) ∧ ((w5.setCell ⟨w.heap.size + 1 + 1, 0, none⟩ (.slice zv 4 zc)).setCell ⟨w.heap.size + 1 + 1, 1, none⟩ (.slice oa L.length oc)).cell? ⟨ob, 1, none⟩ = some (.slice oa L.length oc) := ⟨(cell_of_block (aE _ _ (by omega))).trans N5.1, (cell_of_block (aE _ _ (by omega))).trans N5.2⟩
   have pG := aRp (vO.out.set2S (.slice zv 4 zc) (.slice oa L.length oc)).1; have oI := aRp (vO.out.set2S (.slice zv 4 zc) (.slice oa L.length oc)).2; have aGQ : ((w5.setCell ⟨w.heap.size + 1 + 1, 0, none⟩ (.slice zv 4 zc)).setCell ⟨w.heap.size + 1 + 1, 1, none⟩ (.slice oa L.length oc)).heap.size = w5.heap.size := bB _ _ _ _; have xK : Hid (Own ((w5.setCell ⟨w.heap.size + 1 + 1, 0, none⟩ (.slice zv 4 zc)).setCell ⟨w.heap.size + 1 + 1, 1, none⟩ (.slice oa L.length oc)) w0.heap.size ob zv 4 zs) := HZ5.out.kept fun j h1 h2 => aE _ _ (by omega)
   have HO6 : Hid (bE ((w5.setCell ⟨w.heap.size + 1 + 1, 0, none⟩ (.slice zv 4 zc)).setCell ⟨w.heap.size + 1 + 1, 1, none⟩ (.slice oa L.length oc)) (ob + 1) w5.heap.size oa L.length L) := HO5.out.kept fun j h1 h2 => aE _ _ (by omega)
   refine rk 3 rfl (fun K hK => ?_)
   go_simp
   refine hK.out _ _ X3 (fun jU => ?_)
   clear hK K
   (try simp only [Act.put, u1, u2, u3])
   refine tj 4 ?_
   refine wpAnyH_done (by kernel_rfl) ?_ _
   clear hS N5 X3 bQ jU aW HT0 HZ0 HO0 vO HZ5 HO5 r0 r1 fz0 fz1; generalize (w5.setCell ⟨w.heap.size + 1 + 1, 0, none⟩ (.slice zv 4 zc)).setCell ⟨w.heap.size + 1 + 1, 1, none⟩ (.slice oa L.length oc) = wf at pG oI xK HO6 aGQ ⊢; obtain ⟨q0, q1⟩ := pair_cells pG.out; go_wp2
   exact bodyPost_ret (v := .tuple #[.agg #[.slice zv 4 zc, .slice oa L.length oc], .bool true]) (by simp [results, Tryz.results131, go_sem, q0, q1]) rfl ⟨zv, zc, oa, oc, by rw [HMv.out, HMo.out, aQi.out, hz4], by rw [HMv.out, hz4]; exact xK.out.more (by omega) (by omega), by rw [HMo.out]; exact HO6.out.more (by omega) (by omega), oI.out, by rw [HMv.out, hz4]; exact HCz.out, by rw [HMo.out]; exact pH.out⟩
  obtain ⟨g1, g2, _⟩ := HVd.out d aM; obtain ⟨q, hq⟩ := Int.eq_ofNat_of_zero_le g1; have hdi : (d : Int) < 4 := by omega
  have aOn : Hid (Below ob w2 wr) := by obtain ⟨_, _, _, _, h⟩ := HOu.out; exact h
  have HZc : Hid (∀ vb vo, zv = some ⟨vb, vo, none⟩ → w2.cell? ⟨vb, vo + d, none⟩ = some (.int .i64 (q : Int))) := fun vb vo e => by
   obtain ⟨vb', vo', e', _, hc⟩ := s8.out.ints.2 d aM; rw [e] at e'; cases e'; rw [hq] at hc; exact hc
  have HZr := aRp (s8.out.ints.below aOn.out aRr); obtain ⟨vb, vo, rfl, hvb, _⟩ := HZr.out.2 d aM; clear HZr; go_wp2
  go_loopw [8] (fun sq wr => ∃ s : Nat, s ≤ q ∧ sq = .int .i64 ((s : Int) + 1) ∧ Hid (nF ob (some ⟨vb, vo, none⟩) zc zs (dF l m) w2 wr d s) ∧ Hid (∀ e, e < s → okP l m d e)) (fun sq _ => q + 1 - (intOf sq).toNat)
  case atStart => exact ⟨0, Nat.zero_le _, rfl, HOu, aRp (fun e he => absurd he (by omega))⟩
  case round =>
   obtain ⟨s, hsq, rfl, aOo, aOs⟩ := hrel; clear HOu aOn; obtain ⟨oa, oc, K6, jO, vY⟩ := aOo.out; have J4 := aRp K6; have sG := aRp jO; have HBL := aRp vY; have aGT := bT K6; have oD := aRp (aN.out.low vY (by omega))
   have HOr := aRp (fJ.out.below vY (by omega))
   have HGr := aRp (HG2.out.below vY (by omega))
   have c0 := (vY.cell (p := ⟨vb, vo + d, none⟩) hvb).trans (HZc.out vb vo rfl); obtain ⟨o0, o1⟩ := pair_cells K6; clear K6 jO vY aOo
   by_cases vG : s < q
   rotate_left
   ·obtain rfl : s = q := by omega
    have aPZ : ¬ ((s : Int) + 1 ≤ (s : Int)) := by omega
    have sY : Hid (nF ob (some ⟨vb, vo, none⟩) zc zs (dF l m) w2 wr (d + 1) 0) := by
     show nF _ _ _ _ _ _ _ _ _
     unfold nF; rw [zE, hq]; exact ⟨oa, oc, J4.out, sG.out, HBL.out⟩
    have aQh : Hid (∀ e, e < d + 1 → ∀ s : Nat, (s : Int) < zs.getD e 0 → okP l m e s) := fun e he t ht => by
     rcases Nat.lt_or_ge e d with h1 | h1
     ·exact pU.out e h1 t ht
     ·obtain rfl : e = d := by omega
      exact aOs.out t (by rw [hq] at ht; omega)
    clear J4 sG HBL; go_wp2
    go_roundw
    case rel => exact ⟨d + 1, by omega, by go_num, sY, aQh⟩
    case measure => simp [intOf]; omega
   have aPZ : (s : Int) + 1 ≤ (q : Int) := by omega
   have hmx := HZd.out d aM; rw [hq] at hmx; have HMx := aRp hmx; clear hmx; have cI := aRp (zD zs (dF l m) d s); have nD : (eH zs (dF l m) d s).length ≤ 1048576 := by
    rw [sN]; have h1 := jI zs d 4 (by omega)
    have h2 := aAm HVm.out 4 (by omega)
    omega
   have aKL : Hid (dF l m d s = nT l m (d : Int) ((s : Int) + 1)) := rfl; have aQk : Hid ((s : Int) < xs.getD d 0 → (∀ j, j < no → ¬ C5 l j (d : Int) ((s : Int) + 1)) → False) := fun h1 h2 => by
    obtain ⟨h3, h4⟩ := C7 nL.out aM h1; exact h2 _ (by rw [← HL.out]; exact h3) h4
   have aQj : Hid ((s : Int) < ys.getD d 0 → (∀ j, j < mo → ¬ C5 m j (d : Int) ((s : Int) + 1)) → False) := fun h1 h2 => by
    obtain ⟨h3, h4⟩ := C7 pW.out aM h1; exact h2 _ (by rw [← HLm.out]; exact h3) h4
   have aKG : Hid (okP l m d s → ∀ e, e < s + 1 → okP l m d e) := fun h e he => by
    rcases Nat.lt_or_ge e s with h1 | h1
    ·exact aOs.out e h1
    ·obtain rfl : e = s := by omega
     exact h
   generalize eH zs (dF l m) d s = L at J4 sG cI nD o0 o1 ⊢; obtain ⟨a0, a1⟩ := pair_cells oD.out.fst; obtain ⟨b0, b1⟩ := pair_cells oD.out.snd
   go_wp2_with fail
   refine (aJF wr B ao no co l (d : Int) ((s : Int) + 1) HOr.out hn).mono ?_
   rintro e w5 ⟨hor, rfl⟩; rcases hor with ⟨i, qV, hie, rfl⟩ | ⟨iR, rfl⟩
   rotate_left
   ·have bZ : lE l (d : Int) ((s : Int) + 1) = none := F6 _ fun j hj => iR j (by rw [← HL.out]; exact hj)
    have vB : (s : Int) < ys.getD d 0 := by
     have hmx := HMx.out; rcases Int.lt_or_le (s : Int) (xs.getD d 0) with h1 | h1
     ·exact (aQk.out h1 iR).elim
     ·omega
    have HNo := aRp iR; clear iR
    go_wp2_with fail
    refine (aJF wr B bo mo eo m (d : Int) ((s : Int) + 1) HGr.out yO).mono ?_
    rintro e w5 ⟨hor, rfl⟩; obtain ⟨k, hkm, hke, rfl⟩ : ∃ k : Nat, k < mo ∧ C5 m k (d : Int) ((s : Int) + 1) ∧ e = .returned (.int .i64 (k : Int)) := hor.resolve_right (fun h => aQj.out vB h.1)
    clear hor; obtain ⟨b2, aQ, rfl, aI, ho2⟩ := HGr.out.2 k hkm; have xR : Hid (rD wr b2 (aQ + k * 8) (aB m k)) := ho2; have eA : lE m (d : Int) ((s : Int) + 1) = some (aB m k) := by
     have := sA (sD pW.out) m.length aRr k (by rw [HLm.out]; exact hkm)
     rw [hke.1, hke.2] at this; exact this
    have HFy : Hid (dF l m d s = aB m k) := by show _ = _; rw [aKL.out]; unfold nT; rw [bZ, eA]
    have HE := aRp (aKG.out fun a b ha hb => by rw [bZ] at ha; cases ha)
    have hki : (k : Int) < (mo : Int) := by omega
    clear ho2 bZ eA hke vB; generalize aB m k = y at xR HFy; obtain ⟨c0', q7, q6, c3', c4', c5', c6', c7'⟩ := xR.out; have hSw : wr.cell? ⟨w.heap.size + 1, 1, none⟩ = some (.slice (some ⟨b2, aQ, none⟩) mo eo) ∧ wr.cell? ⟨b2, aQ + k * 8, none⟩ = some (.int .i64 y.dev) ∧ wr.cell? ⟨b2, aQ + k * 8 + 1, none⟩ = some (.int .i64 y.seq) ∧ wr.cell? ⟨b2, aQ + k * 8 + 2, none⟩ = some (.int .i64 y.stamp) ∧ wr.cell? ⟨b2, aQ + k * 8 + 3, none⟩ = some (.int .i64 y.kind) ∧ wr.cell? ⟨b2, aQ + k * 8 + 4, none⟩ = some (.string y.item) ∧ wr.cell? ⟨b2, aQ + k * 8 + 5, none⟩ = some (.int .i64 y.qty) ∧ wr.cell? ⟨b2, aQ + k * 8 + 6, none⟩ = some (.int .i64 y.level) ∧ wr.cell? ⟨b2, aQ + k * 8 + 7, none⟩ = some (.int .i64 y.undos) := ⟨b1, c0', q7, q6, c3', c4', c5', c6', c7'⟩; clear a0 a1 b0 b1 c0 o0 o1 c0' q7 q6 c3' c4' c5' c6' c7' xR
    go_upto_region 14 with fail
    obtain ⟨z0, cZ⟩ : ∃ z0, wr.drew = z0 := ⟨_, rfl⟩; have hS : z0.cell? ⟨w.heap.size + 1, 1, none⟩ = some (.slice (some ⟨b2, aQ, none⟩) mo eo) ∧ z0.cell? ⟨b2, aQ + k * 8, none⟩ = some (.int .i64 y.dev) ∧ z0.cell? ⟨b2, aQ + k * 8 + 1, none⟩ = some (.int .i64 y.seq) ∧ z0.cell? ⟨b2, aQ + k * 8 + 2, none⟩ = some (.int .i64 y.stamp) ∧ z0.cell? ⟨b2, aQ + k * 8 + 3, none⟩ = some (.int .i64 y.kind) ∧ z0.cell? ⟨b2, aQ + k * 8 + 4, none⟩ = some (.string y.item) ∧ z0.cell? ⟨b2, aQ + k * 8 + 5, none⟩ = some (.int .i64 y.qty) ∧ z0.cell? ⟨b2, aQ + k * 8 + 6, none⟩ = some (.int .i64 y.level) ∧ z0.cell? ⟨b2, aQ + k * 8 + 7, none⟩ = some (.int .i64 y.undos) := ⟨by rw [← cZ]; exact hSw.1, by rw [← cZ]; exact hSw.2.1, by rw [← cZ]; exact hSw.2.2.1, by rw [← cZ]; exact hSw.2.2.2.1, by rw [← cZ]; exact hSw.2.2.2.2.1, by rw [← cZ]; exact hSw.2.2.2.2.2.1, by rw [← cZ]; exact hSw.2.2.2.2.2.2.1, by rw [← cZ]; exact hSw.2.2.2.2.2.2.2.1, by rw [← cZ]; exact hSw.2.2.2.2.2.2.2.2⟩
    have ob0 : Hid (z0.heap[ob]? = some (.cells #[.slice (some ⟨vb, vo, none⟩) 4 zc, .slice oa L.length oc] 27 (0, 0))) := by rw [← cZ]; exact J4.out
    have aD5 : z0.ownsRow (ob + 1) 50 8 (.slice oa L.length oc) L.length (aG L) := by rw [← cZ]; exact sG.out
    have aJn : ob < z0.heap.size := by rw [← cZ]; exact aGT
    have aEO : Hid (Below ob wr z0) := by rw [← cZ]; exact ⟨rfl, rfl, rfl, Nat.le_refl _, fun _ _ => rfl⟩
    have o1 := (pair_cells ob0.out).2; have A3 := aD5.alloc (.cells #[.int .i64 y.dev, .int .i64 y.seq, .int .i64 y.stamp, .int .i64 y.kind, .string y.item, .int .i64 y.qty, .int .i64 y.level, .int .i64 y.undos] 50); have jC : Below ob z0 (z0.alloc (.cells #[.int .i64 y.dev, .int .i64 y.seq, .int .i64 y.stamp, .int .i64 y.kind, .string y.item, .int .i64 y.qty, .int .i64 y.level, .int .i64 y.undos] 50)) := (Below.refl ob z0).alloc (by omega) _
    obtain ⟨v', z2, hrun, iF, eZ, _⟩ := run_append_own (P := Tryz.prog) (z0.alloc (.cells #[.int .i64 y.dev, .int .i64 y.seq, .int .i64 y.stamp, .int .i64 y.kind, .string y.item, .int .i64 y.qty, .int .i64 y.level, .int .i64 y.undos] 50)) (ob + 1) 25 25 50 i0 (.agg #[.int .i64 0, .int .i64 0, .int .i64 0, .int .i64 0, .string ⟨#[]⟩, .int .i64 0, .int .i64 0, .int .i64 0]) 8 72 Tryz.underlying25 hi gR kH jN rfl (by decide) _ _ _ A3 ⟨z0.heap.size, 0, none⟩ 1 1 (bX y) rfl (d8 z0 y) (fun u hu => jH [y] u (by show u ∈ bX y ++ []; rw [List.append_nil]; exact hu)) (by unfold maxLen; omega) (by omega) (by show _ ≤ (z0.heap.push _).size; simp; omega)
    have kF : Below ob z0 z2 := jC.grown eZ (Nat.le_trans (by omega) jC.size) (fun q hq => by have := (A3.lt q hq).1; omega)
    obtain ⟨eO, eN, rfl⟩ : ∃ eO eN, v' = .slice eO (L.length + 1) eN := by
     rcases iF.2 with ⟨_, e2⟩ | ⟨_, c2, _, e2, _⟩
     ·omega
     ·exact ⟨_, c2, e2⟩
    have ob1 : Hid ((z0.alloc (.cells #[.int .i64 y.dev, .int .i64 y.seq, .int .i64 y.stamp, .int .i64 y.kind, .string y.item, .int .i64 y.qty, .int .i64 y.level, .int .i64 y.undos] 50)).heap[ob]? = some (.cells #[.slice (some ⟨vb, vo, none⟩) 4 zc, .slice oa L.length oc] 27 (0, 0))) := (Below.heap_alloc _ _ _ aJn).trans ob0.out; have i2 : Hid (z2.heap[ob]? = some (.cells #[.slice (some ⟨vb, vo, none⟩) 4 zc, .slice oa L.length oc] 27 (0, 0))) := (eZ.block ob (by show _ < (z0.heap.push _).size; simp; omega) (fun h => by have := (A3.lt ob h.symm).1; omega)).trans ob1.out
    have o11 := (pair_cells ob1.out).2; have o12 := (pair_cells i2.out).2; have fz2 := (aC i2.out).2; have zT : Hid ((z2.setCell ⟨ob, 1, none⟩ (.slice eO (L.length + 1) eN)).heap[ob]? = some (.cells #[.slice (some ⟨vb, vo, none⟩) 4 zc, .slice eO (L.length + 1) eN] 27 (0, 0))) := heap_setCell_same _ _ _ _ _ _ i2.out; have zR : Hid ((z2.setCell ⟨ob, 1, none⟩ (.slice eO (L.length + 1) eN)).ownsRow (ob + 1) 50 8 (.slice eO (L.length + 1) eN) (L.length + 1) (aG L ++ bX y)) := aAp iF (fun q hq => by have := (iF.lt q hq).1; omega)
    have kE : Below ob z0 (z2.setCell ⟨ob, 1, none⟩ (.slice eO (L.length + 1) eN)) := kF.setCell aRr _; have zU : Hid (Below ob wr (z2.setCell ⟨ob, 1, none⟩ (.slice eO (L.length + 1) eN))) := aEO.out.trans kE; have hSd : z0.cell? ⟨w.heap.size + 1, 1, none⟩ = some (.slice (some ⟨b2, aQ, none⟩) mo eo) ∧ z0.cell? ⟨b2, aQ + k * 8, none⟩ = some (.int .i64 y.dev) ∧ z0.cell? ⟨b2, aQ + k * 8 + 1, none⟩ = some (.int .i64 y.seq) ∧ z0.cell? ⟨b2, aQ + k * 8 + 2, none⟩ = some (.int .i64 y.stamp) ∧ z0.cell? ⟨b2, aQ + k * 8 + 3, none⟩ = some (.int .i64 y.kind) ∧ z0.cell? ⟨b2, aQ + k * 8 + 4, none⟩ = some (.string y.item) ∧ z0.cell? ⟨b2, aQ + k * 8 + 5, none⟩ = some (.int .i64 y.qty) ∧ z0.cell? ⟨b2, aQ + k * 8 + 6, none⟩ = some (.int .i64 y.level) ∧ z0.cell? ⟨b2, aQ + k * 8 + 7, none⟩ = some (.int .i64 y.undos) := hS; have dQ : (z0.alloc (.cells #[.int .i64 y.dev, .int .i64 y.seq, .int .i64 y.stamp, .int .i64 y.kind, .string y.item, .int .i64 y.qty, .int .i64 y.level, .int .i64 y.undos] 50)).cell? ⟨w.heap.size + 1, 1, none⟩ = some (.slice (some ⟨b2, aQ, none⟩) mo eo) ∧ (z0.alloc (.cells #[.int .i64 y.dev, .int .i64 y.seq, .int .i64 y.stamp, .int .i64 y.kind, .string y.item, .int .i64 y.qty, .int .i64 y.level, .int .i64 y.undos] 50)).cell? ⟨b2, aQ + k * 8, none⟩ = some (.int .i64 y.dev) ∧ (z0.alloc (.cells #[.int .i64 y.dev, .int .i64 y.seq, .int .i64 y.stamp, .int .i64 y.kind, .string y.item, .int .i64 y.qty, .int .i64 y.level, .int .i64 y.undos] 50)).cell? ⟨b2, aQ + k * 8 + 1, none⟩ = some (.int .i64 y.seq) ∧ (z0.alloc (.cells #[.int .i64 y.dev, .int .i64 y.seq, .int .i64 y.stamp, .int .i64 y.kind, .string y.item, .int .i64 y.qty, .int .i64 y.level, .int .i64 y.undos] 50)).cell? ⟨b2, aQ + k * 8 + 2, none⟩ = some (.int .i64 y.stamp) ∧ (z0.alloc (.cells #[.int .i64 y.dev, .int .i64 y.seq, .int .i64 y.stamp, .int .i64 y.kind, .string y.item, .int .i64 y.qty, .int .i64 y.level, .int .i64 y.undos] 50)).cell? ⟨b2, aQ + k * 8 + 3, none⟩ = some (.int .i64 y.kind) ∧ (z0.alloc (.cells #[.int .i64 y.dev, .int .i64 y.seq, .int .i64 y.stamp, .int .i64 y.kind, .string y.item, .int .i64 y.qty, .int .i64 y.level, .int .i64 y.undos] 50)).cell? ⟨b2, aQ + k * 8 + 4, none⟩ = some (.string y.item) ∧ (z0.alloc (.cells #[.int .i64 y.dev, .int .i64 y.seq, .int .i64 y.stamp, .int .i64 y.kind, .string y.item, .int .i64 y.qty, .int .i64 y.level, .int .i64 y.undos] 50)).cell? ⟨b2, aQ + k * 8 + 5, none⟩ = some (.int .i64 y.qty) ∧ (z0.alloc (.cells #[.int .i64 y.dev, .int .i64 y.seq, .int .i64 y.stamp, .int .i64 y.kind, .string y.item, .int .i64 y.qty, .int .i64 y.level, .int .i64 y.undos] 50)).cell? ⟨b2, aQ + k * 8 + 6, none⟩ = some (.int .i64 y.level) ∧ (z0.alloc (.cells #[.int .i64 y.dev, .int .i64 y.seq, .int .i64 y.stamp, .int .i64 y.kind, .string y.item, .int .i64 y.qty, .int .i64 y.level, .int .i64 y.undos] 50)).cell? ⟨b2, aQ + k * 8 + 7, none⟩ = some (.int .i64 y.undos) := ⟨(jC.cell (by show w.heap.size + 1 < ob; omega)).trans hS.1, (jC.cell (by show b2 < ob; omega)).trans hS.2.1, (jC.cell (by show b2 < ob; omega)).trans hS.2.2.1, (jC.cell (by show b2 < ob; omega)).trans hS.2.2.2.1, (jC.cell (by show b2 < ob; omega)).trans hS.2.2.2.2.1, (jC.cell (by show b2 < ob; omega)).trans hS.2.2.2.2.2.1, (jC.cell (by show b2 < ob; omega)).trans hS.2.2.2.2.2.2.1, (jC.cell (by show b2 < ob; omega)).trans hS.2.2.2.2.2.2.2.1, (jC.cell (by show b2 < ob; omega)).trans hS.2.2.2.2.2.2.2.2⟩
    have eD : z2.cell? ⟨w.heap.size + 1, 1, none⟩ = some (.slice (some ⟨b2, aQ, none⟩) mo eo) ∧ z2.cell? ⟨b2, aQ + k * 8, none⟩ = some (.int .i64 y.dev) ∧ z2.cell? ⟨b2, aQ + k * 8 + 1, none⟩ = some (.int .i64 y.seq) ∧ z2.cell? ⟨b2, aQ + k * 8 + 2, none⟩ = some (.int .i64 y.stamp) ∧ z2.cell? ⟨b2, aQ + k * 8 + 3, none⟩ = some (.int .i64 y.kind) ∧ z2.cell? ⟨b2, aQ + k * 8 + 4, none⟩ = some (.string y.item) ∧ z2.cell? ⟨b2, aQ + k * 8 + 5, none⟩ = some (.int .i64 y.qty) ∧ z2.cell? ⟨b2, aQ + k * 8 + 6, none⟩ = some (.int .i64 y.level) ∧ z2.cell? ⟨b2, aQ + k * 8 + 7, none⟩ = some (.int .i64 y.undos) := ⟨(kF.cell (by show w.heap.size + 1 < ob; omega)).trans hS.1, (kF.cell (by show b2 < ob; omega)).trans hS.2.1, (kF.cell (by show b2 < ob; omega)).trans hS.2.2.1, (kF.cell (by show b2 < ob; omega)).trans hS.2.2.2.1, (kF.cell (by show b2 < ob; omega)).trans hS.2.2.2.2.1, (kF.cell (by show b2 < ob; omega)).trans hS.2.2.2.2.2.1, (kF.cell (by show b2 < ob; omega)).trans hS.2.2.2.2.2.2.1, (kF.cell (by show b2 < ob; omega)).trans hS.2.2.2.2.2.2.2.1, (kF.cell (by show b2 < ob; omega)).trans hS.2.2.2.2.2.2.2.2⟩
    have eJ : (z2.setCell ⟨ob, 1, none⟩ (.slice eO (L.length + 1) eN)).cell? ⟨w.heap.size + 1, 1, none⟩ = some (.slice (some ⟨b2, aQ, none⟩) mo eo) ∧ (z2.setCell ⟨ob, 1, none⟩ (.slice eO (L.length + 1) eN)).cell? ⟨b2, aQ + k * 8, none⟩ = some (.int .i64 y.dev) ∧ (z2.setCell ⟨ob, 1, none⟩ (.slice eO (L.length + 1) eN)).cell? ⟨b2, aQ + k * 8 + 1, none⟩ = some (.int .i64 y.seq) ∧ (z2.setCell ⟨ob, 1, none⟩ (.slice eO (L.length + 1) eN)).cell? ⟨b2, aQ + k * 8 + 2, none⟩ = some (.int .i64 y.stamp) ∧ (z2.setCell ⟨ob, 1, none⟩ (.slice eO (L.length + 1) eN)).cell? ⟨b2, aQ + k * 8 + 3, none⟩ = some (.int .i64 y.kind) ∧ (z2.setCell ⟨ob, 1, none⟩ (.slice eO (L.length + 1) eN)).cell? ⟨b2, aQ + k * 8 + 4, none⟩ = some (.string y.item) ∧ (z2.setCell ⟨ob, 1, none⟩ (.slice eO (L.length + 1) eN)).cell? ⟨b2, aQ + k * 8 + 5, none⟩ = some (.int .i64 y.qty) ∧ (z2.setCell ⟨ob, 1, none⟩ (.slice eO (L.length + 1) eN)).cell? ⟨b2, aQ + k * 8 + 6, none⟩ = some (.int .i64 y.level) ∧ (z2.setCell ⟨ob, 1, none⟩ (.slice eO (L.length + 1) eN)).cell? ⟨b2, aQ + k * 8 + 7, none⟩ = some (.int .i64 y.undos) := ⟨(kE.cell (by show w.heap.size + 1 < ob; omega)).trans hS.1, (kE.cell (by show b2 < ob; omega)).trans hS.2.1, (kE.cell (by show b2 < ob; omega)).trans hS.2.2.1, (kE.cell (by show b2 < ob; omega)).trans hS.2.2.2.1, (kE.cell (by show b2 < ob; omega)).trans hS.2.2.2.2.1, (kE.cell (by show b2 < ob; omega)).trans hS.2.2.2.2.2.1, (kE.cell (by show b2 < ob; omega)).trans hS.2.2.2.2.2.2.1, (kE.cell (by show b2 < ob; omega)).trans hS.2.2.2.2.2.2.2.1, (kE.cell (by show b2 < ob; omega)).trans hS.2.2.2.2.2.2.2.2⟩
    clear hSw J4 sG aD5 aEO
    go_wp2_with fail
    refine wp_region_held_drew (S := fun w' => w'.cell? ⟨w.heap.size + 1, 1, none⟩ = some (.slice (some ⟨b2, aQ, none⟩) mo eo) ∧ w'.cell? ⟨b2, aQ + k * 8, none⟩ = some (.int .i64 y.dev) ∧ w'.cell? ⟨b2, aQ + k * 8 + 1, none⟩ = some (.int .i64 y.seq) ∧ w'.cell? ⟨b2, aQ + k * 8 + 2, none⟩ = some (.int .i64 y.stamp) ∧ w'.cell? ⟨b2, aQ + k * 8 + 3, none⟩ = some (.int .i64 y.kind) ∧ w'.cell? ⟨b2, aQ + k * 8 + 4, none⟩ = some (.string y.item) ∧ w'.cell? ⟨b2, aQ + k * 8 + 5, none⟩ = some (.int .i64 y.qty) ∧ w'.cell? ⟨b2, aQ + k * 8 + 6, none⟩ = some (.int .i64 y.level) ∧ w'.cell? ⟨b2, aQ + k * 8 + 7, none⟩ = some (.int .i64 y.undos)) (by kernel_rfl) (by rw [cZ]; exact hS) (fun aO => ?_)
    rw [cZ]; clear aO; refine tj 0 ?_
    refine tj 2 ?_
    refine tj 3 ?_
    refine tj 4 ?_
    refine tj 5 ?_
    refine tj 6 ?_
    refine wpAnyH_ready (rs := [1, 7]) (by kernel_rfl) (by simp) ?_
    refine AllReadyH.cons rfl (fun K hK => ?_) (AllReadyH.cons rfl (fun K hK => ?_) AllReadyH.nil)
    all_goals go_simp
    ·refine hK.out _ _ hSd (fun iE => ?_)
     clear hK K
     (try simp only [Act.put, u1, u2, u3])
     refine rk 7 rfl (fun K hK => ?_)
     go_simp
     refine hK.out _ _ dQ (fun rN => ?_)
     clear hK K
     (try simp only [Act.put, u1, u2, u3])
     refine rk 8 rfl (fun K hK => ?_)
     rw [if_pos (by rfl)]
     refine wL _ _ _ rfl _ _ rfl rfl hrun ?_
     refine hK.out _ _ eD (fun tZ => ?_)
     clear hK K
     (try simp only [Act.put, u1, u2, u3])
     refine tj 9 ?_
     refine rk 10 rfl (fun K hK => ?_)
     go_simp
     refine hK.out _ _ eJ (fun rM => ?_)
     clear hK K
     (try simp only [Act.put, u1, u2, u3])
     refine wpAnyH_done (by kernel_rfl) ?_ _
     have sY : Hid (nF ob (some ⟨vb, vo, none⟩) zc zs (dF l m) w2 (z2.setCell ⟨ob, 1, none⟩ (.slice eO (L.length + 1) eN)) d (s + 1)) := by
      show nF _ _ _ _ _ _ _ _ _
      unfold nF; rw [cI.out, HFy.out, jK, List.length_append]; exact ⟨eO, eN, zT.out, zR.out, HBL.out.trans zU.out⟩
     clear zT zR zU hSd dQ eD eJ hS ob0 ob1 i2 o1 o11 o12 fz2 hrun iF eZ A3 jC kF kE rN iE tZ rM; go_wp2
     go_roundw
     case rel => exact ⟨s + 1, by omega, by go_num, sY, HE⟩
     case measure => simp [intOf]; omega
    ·refine hK.out _ _ dQ (fun iE => ?_)
     clear hK K
     (try simp only [Act.put, u1, u2, u3])
     refine rk 1 rfl (fun K hK => ?_)
     go_simp
     refine hK.out _ _ dQ (fun rN => ?_)
     clear hK K
     (try simp only [Act.put, u1, u2, u3])
     refine rk 8 rfl (fun K hK => ?_)
     rw [if_pos (by rfl)]
     refine wL _ _ _ rfl _ _ rfl rfl hrun ?_
     refine hK.out _ _ eD (fun tZ => ?_)
     clear hK K
     (try simp only [Act.put, u1, u2, u3])
     refine tj 9 ?_
     refine rk 10 rfl (fun K hK => ?_)
     go_simp
     refine hK.out _ _ eJ (fun rM => ?_)
     clear hK K
     (try simp only [Act.put, u1, u2, u3])
     refine wpAnyH_done (by kernel_rfl) ?_ _
     have sY : Hid (nF ob (some ⟨vb, vo, none⟩) zc zs (dF l m) w2 (z2.setCell ⟨ob, 1, none⟩ (.slice eO (L.length + 1) eN)) d (s + 1)) := by
      show nF _ _ _ _ _ _ _ _ _
      unfold nF; rw [cI.out, HFy.out, jK, List.length_append]; exact ⟨eO, eN, zT.out, zR.out, HBL.out.trans zU.out⟩
     clear zT zR zU hSd dQ eD eJ hS ob0 ob1 i2 o1 o11 o12 fz2 hrun iF eZ A3 jC kF kE rN iE tZ rM; go_wp2
     go_roundw
     case rel => exact ⟨s + 1, by omega, by go_num, sY, HE⟩
     case measure => simp [intOf]; omega
   have HXi : Hid (lE l (d : Int) ((s : Int) + 1) = some (aB l i)) := by
    show _ = _
    have := sA (sD nL.out) l.length aRr i (by rw [HL.out]; exact qV)
    rw [hie.1, hie.2] at this; exact this
   obtain ⟨aX, aT, rfl, aRg, ho1⟩ := HOr.out.2 i qV; have O7 : Hid (rD wr aX (aT + i * 8) (aB l i)) := ho1; have hii : (i : Int) < (no : Int) := by omega
   have hi0 : ¬ ((i : Int) < 0) := by omega
   clear ho1 hie; generalize aB l i = x at HXi O7
   go_wp2_with fail
   refine (aJF wr B bo mo eo m (d : Int) ((s : Int) + 1) HGr.out yO).mono ?_
   rintro e w5 ⟨hor, rfl⟩; rcases hor with ⟨k, hkm, hke, rfl⟩ | ⟨iR, rfl⟩
   rotate_left
   ·have eA : lE m (d : Int) ((s : Int) + 1) = none := F6 _ fun j hj => iR j (by rw [← HLm.out]; exact hj)
    have HFy : Hid (dF l m d s = x) := by show _ = _; rw [aKL.out]; unfold nT; rw [HXi.out, eA]
    have HE := aRp (aKG.out fun a b ha hb => by rw [eA] at hb; cases hb)
    clear iR eA; obtain ⟨c0', q7, q6, c3', c4', c5', c6', c7'⟩ := O7.out; have hSw : wr.cell? ⟨w.heap.size, 1, none⟩ = some (.slice (some ⟨aX, aT, none⟩) no co) ∧ wr.cell? ⟨aX, aT + i * 8, none⟩ = some (.int .i64 x.dev) ∧ wr.cell? ⟨aX, aT + i * 8 + 1, none⟩ = some (.int .i64 x.seq) ∧ wr.cell? ⟨aX, aT + i * 8 + 2, none⟩ = some (.int .i64 x.stamp) ∧ wr.cell? ⟨aX, aT + i * 8 + 3, none⟩ = some (.int .i64 x.kind) ∧ wr.cell? ⟨aX, aT + i * 8 + 4, none⟩ = some (.string x.item) ∧ wr.cell? ⟨aX, aT + i * 8 + 5, none⟩ = some (.int .i64 x.qty) ∧ wr.cell? ⟨aX, aT + i * 8 + 6, none⟩ = some (.int .i64 x.level) ∧ wr.cell? ⟨aX, aT + i * 8 + 7, none⟩ = some (.int .i64 x.undos) := ⟨a1, c0', q7, q6, c3', c4', c5', c6', c7'⟩; clear a0 a1 b0 b1 c0 o0 o1 c0' q7 q6 c3' c4' c5' c6' c7' O7
    go_upto_region 16 with fail
    obtain ⟨z0, cZ⟩ : ∃ z0, wr.drew = z0 := ⟨_, rfl⟩; have hS : z0.cell? ⟨w.heap.size, 1, none⟩ = some (.slice (some ⟨aX, aT, none⟩) no co) ∧ z0.cell? ⟨aX, aT + i * 8, none⟩ = some (.int .i64 x.dev) ∧ z0.cell? ⟨aX, aT + i * 8 + 1, none⟩ = some (.int .i64 x.seq) ∧ z0.cell? ⟨aX, aT + i * 8 + 2, none⟩ = some (.int .i64 x.stamp) ∧ z0.cell? ⟨aX, aT + i * 8 + 3, none⟩ = some (.int .i64 x.kind) ∧ z0.cell? ⟨aX, aT + i * 8 + 4, none⟩ = some (.string x.item) ∧ z0.cell? ⟨aX, aT + i * 8 + 5, none⟩ = some (.int .i64 x.qty) ∧ z0.cell? ⟨aX, aT + i * 8 + 6, none⟩ = some (.int .i64 x.level) ∧ z0.cell? ⟨aX, aT + i * 8 + 7, none⟩ = some (.int .i64 x.undos) := ⟨by rw [← cZ]; exact hSw.1, by rw [← cZ]; exact hSw.2.1, by rw [← cZ]; exact hSw.2.2.1, by rw [← cZ]; exact hSw.2.2.2.1, by rw [← cZ]; exact hSw.2.2.2.2.1, by rw [← cZ]; exact hSw.2.2.2.2.2.1, by rw [← cZ]; exact hSw.2.2.2.2.2.2.1, by rw [← cZ]; exact hSw.2.2.2.2.2.2.2.1, by rw [← cZ]; exact hSw.2.2.2.2.2.2.2.2⟩
    have ob0 : Hid (z0.heap[ob]? = some (.cells #[.slice (some ⟨vb, vo, none⟩) 4 zc, .slice oa L.length oc] 27 (0, 0))) := by rw [← cZ]; exact J4.out
    have aD5 : z0.ownsRow (ob + 1) 50 8 (.slice oa L.length oc) L.length (aG L) := by rw [← cZ]; exact sG.out
    have aJn : ob < z0.heap.size := by rw [← cZ]; exact aGT
    have aEO : Hid (Below ob wr z0) := by rw [← cZ]; exact ⟨rfl, rfl, rfl, Nat.le_refl _, fun _ _ => rfl⟩
    have o1 := (pair_cells ob0.out).2; have A3 := aD5.alloc (.cells #[.int .i64 x.dev, .int .i64 x.seq, .int .i64 x.stamp, .int .i64 x.kind, .string x.item, .int .i64 x.qty, .int .i64 x.level, .int .i64 x.undos] 50); have jC : Below ob z0 (z0.alloc (.cells #[.int .i64 x.dev, .int .i64 x.seq, .int .i64 x.stamp, .int .i64 x.kind, .string x.item, .int .i64 x.qty, .int .i64 x.level, .int .i64 x.undos] 50)) := (Below.refl ob z0).alloc (by omega) _
    obtain ⟨v', z2, hrun, iF, eZ, _⟩ := run_append_own (P := Tryz.prog) (z0.alloc (.cells #[.int .i64 x.dev, .int .i64 x.seq, .int .i64 x.stamp, .int .i64 x.kind, .string x.item, .int .i64 x.qty, .int .i64 x.level, .int .i64 x.undos] 50)) (ob + 1) 25 25 50 i0 (.agg #[.int .i64 0, .int .i64 0, .int .i64 0, .int .i64 0, .string ⟨#[]⟩, .int .i64 0, .int .i64 0, .int .i64 0]) 8 72 Tryz.underlying25 hi gR kH jN rfl (by decide) _ _ _ A3 ⟨z0.heap.size, 0, none⟩ 1 1 (bX x) rfl (d8 z0 x) (fun u hu => jH [x] u (by show u ∈ bX x ++ []; rw [List.append_nil]; exact hu)) (by unfold maxLen; omega) (by omega) (by show _ ≤ (z0.heap.push _).size; simp; omega)
    have kF : Below ob z0 z2 := jC.grown eZ (Nat.le_trans (by omega) jC.size) (fun q hq => by have := (A3.lt q hq).1; omega)
    obtain ⟨eO, eN, rfl⟩ : ∃ eO eN, v' = .slice eO (L.length + 1) eN := by
     rcases iF.2 with ⟨_, e2⟩ | ⟨_, c2, _, e2, _⟩
     ·omega
     ·exact ⟨_, c2, e2⟩
    have ob1 : Hid ((z0.alloc (.cells #[.int .i64 x.dev, .int .i64 x.seq, .int .i64 x.stamp, .int .i64 x.kind, .string x.item, .int .i64 x.qty, .int .i64 x.level, .int .i64 x.undos] 50)).heap[ob]? = some (.cells #[.slice (some ⟨vb, vo, none⟩) 4 zc, .slice oa L.length oc] 27 (0, 0))) := (Below.heap_alloc _ _ _ aJn).trans ob0.out; have i2 : Hid (z2.heap[ob]? = some (.cells #[.slice (some ⟨vb, vo, none⟩) 4 zc, .slice oa L.length oc] 27 (0, 0))) := (eZ.block ob (by show _ < (z0.heap.push _).size; simp; omega) (fun h => by have := (A3.lt ob h.symm).1; omega)).trans ob1.out
    have o11 := (pair_cells ob1.out).2; have o12 := (pair_cells i2.out).2; have fz2 := (aC i2.out).2; have zT : Hid ((z2.setCell ⟨ob, 1, none⟩ (.slice eO (L.length + 1) eN)).heap[ob]? = some (.cells #[.slice (some ⟨vb, vo, none⟩) 4 zc, .slice eO (L.length + 1) eN] 27 (0, 0))) := heap_setCell_same _ _ _ _ _ _ i2.out; have zR : Hid ((z2.setCell ⟨ob, 1, none⟩ (.slice eO (L.length + 1) eN)).ownsRow (ob + 1) 50 8 (.slice eO (L.length + 1) eN) (L.length + 1) (aG L ++ bX x)) := aAp iF (fun q hq => by have := (iF.lt q hq).1; omega)
    have kE : Below ob z0 (z2.setCell ⟨ob, 1, none⟩ (.slice eO (L.length + 1) eN)) := kF.setCell aRr _; have zU : Hid (Below ob wr (z2.setCell ⟨ob, 1, none⟩ (.slice eO (L.length + 1) eN))) := aEO.out.trans kE; have hSd : z0.cell? ⟨w.heap.size, 1, none⟩ = some (.slice (some ⟨aX, aT, none⟩) no co) ∧ z0.cell? ⟨aX, aT + i * 8, none⟩ = some (.int .i64 x.dev) ∧ z0.cell? ⟨aX, aT + i * 8 + 1, none⟩ = some (.int .i64 x.seq) ∧ z0.cell? ⟨aX, aT + i * 8 + 2, none⟩ = some (.int .i64 x.stamp) ∧ z0.cell? ⟨aX, aT + i * 8 + 3, none⟩ = some (.int .i64 x.kind) ∧ z0.cell? ⟨aX, aT + i * 8 + 4, none⟩ = some (.string x.item) ∧ z0.cell? ⟨aX, aT + i * 8 + 5, none⟩ = some (.int .i64 x.qty) ∧ z0.cell? ⟨aX, aT + i * 8 + 6, none⟩ = some (.int .i64 x.level) ∧ z0.cell? ⟨aX, aT + i * 8 + 7, none⟩ = some (.int .i64 x.undos) := hS; have dQ : (z0.alloc (.cells #[.int .i64 x.dev, .int .i64 x.seq, .int .i64 x.stamp, .int .i64 x.kind, .string x.item, .int .i64 x.qty, .int .i64 x.level, .int .i64 x.undos] 50)).cell? ⟨w.heap.size, 1, none⟩ = some (.slice (some ⟨aX, aT, none⟩) no co) ∧ (z0.alloc (.cells #[.int .i64 x.dev, .int .i64 x.seq, .int .i64 x.stamp, .int .i64 x.kind, .string x.item, .int .i64 x.qty, .int .i64 x.level, .int .i64 x.undos] 50)).cell? ⟨aX, aT + i * 8, none⟩ = some (.int .i64 x.dev) ∧ (z0.alloc (.cells #[.int .i64 x.dev, .int .i64 x.seq, .int .i64 x.stamp, .int .i64 x.kind, .string x.item, .int .i64 x.qty, .int .i64 x.level, .int .i64 x.undos] 50)).cell? ⟨aX, aT + i * 8 + 1, none⟩ = some (.int .i64 x.seq) ∧ (z0.alloc (.cells #[.int .i64 x.dev, .int .i64 x.seq, .int .i64 x.stamp, .int .i64 x.kind, .string x.item, .int .i64 x.qty, .int .i64 x.level, .int .i64 x.undos] 50)).cell? ⟨aX, aT + i * 8 + 2, none⟩ = some (.int .i64 x.stamp) ∧ (z0.alloc (.cells #[.int .i64 x.dev, .int .i64 x.seq, .int .i64 x.stamp, .int .i64 x.kind, .string x.item, .int .i64 x.qty, .int .i64 x.level, .int .i64 x.undos] 50)).cell? ⟨aX, aT + i * 8 + 3, none⟩ = some (.int .i64 x.kind) ∧ (z0.alloc (.cells #[.int .i64 x.dev, .int .i64 x.seq, .int .i64 x.stamp, .int .i64 x.kind, .string x.item, .int .i64 x.qty, .int .i64 x.level, .int .i64 x.undos] 50)).cell? ⟨aX, aT + i * 8 + 4, none⟩ = some (.string x.item) ∧ (z0.alloc (.cells #[.int .i64 x.dev, .int .i64 x.seq, .int .i64 x.stamp, .int .i64 x.kind, .string x.item, .int .i64 x.qty, .int .i64 x.level, .int .i64 x.undos] 50)).cell? ⟨aX, aT + i * 8 + 5, none⟩ = some (.int .i64 x.qty) ∧ (z0.alloc (.cells #[.int .i64 x.dev, .int .i64 x.seq, .int .i64 x.stamp, .int .i64 x.kind, .string x.item, .int .i64 x.qty, .int .i64 x.level, .int .i64 x.undos] 50)).cell? ⟨aX, aT + i * 8 + 6, none⟩ = some (.int .i64 x.level) ∧ (z0.alloc (.cells #[.int .i64 x.dev, .int .i64 x.seq, .int .i64 x.stamp, .int .i64 x.kind, .string x.item, .int .i64 x.qty, .int .i64 x.level, .int .i64 x.undos] 50)).cell? ⟨aX, aT + i * 8 + 7, none⟩ = some (.int .i64 x.undos) := ⟨(jC.cell (by show w.heap.size < ob; omega)).trans hS.1, (jC.cell (by show aX < ob; omega)).trans hS.2.1, (jC.cell (by show aX < ob; omega)).trans hS.2.2.1, (jC.cell (by show aX < ob; omega)).trans hS.2.2.2.1, (jC.cell (by show aX < ob; omega)).trans hS.2.2.2.2.1, (jC.cell (by show aX < ob; omega)).trans hS.2.2.2.2.2.1, (jC.cell (by show aX < ob; omega)).trans hS.2.2.2.2.2.2.1, (jC.cell (by show aX < ob; omega)).trans hS.2.2.2.2.2.2.2.1, (jC.cell (by show aX < ob; omega)).trans hS.2.2.2.2.2.2.2.2⟩
    have eD : z2.cell? ⟨w.heap.size, 1, none⟩ = some (.slice (some ⟨aX, aT, none⟩) no co) ∧ z2.cell? ⟨aX, aT + i * 8, none⟩ = some (.int .i64 x.dev) ∧ z2.cell? ⟨aX, aT + i * 8 + 1, none⟩ = some (.int .i64 x.seq) ∧ z2.cell? ⟨aX, aT + i * 8 + 2, none⟩ = some (.int .i64 x.stamp) ∧ z2.cell? ⟨aX, aT + i * 8 + 3, none⟩ = some (.int .i64 x.kind) ∧ z2.cell? ⟨aX, aT + i * 8 + 4, none⟩ = some (.string x.item) ∧ z2.cell? ⟨aX, aT + i * 8 + 5, none⟩ = some (.int .i64 x.qty) ∧ z2.cell? ⟨aX, aT + i * 8 + 6, none⟩ = some (.int .i64 x.level) ∧ z2.cell? ⟨aX, aT + i * 8 + 7, none⟩ = some (.int .i64 x.undos) := ⟨(kF.cell (by show w.heap.size < ob; omega)).trans hS.1, (kF.cell (by show aX < ob; omega)).trans hS.2.1, (kF.cell (by show aX < ob; omega)).trans hS.2.2.1, (kF.cell (by show aX < ob; omega)).trans hS.2.2.2.1, (kF.cell (by show aX < ob; omega)).trans hS.2.2.2.2.1, (kF.cell (by show aX < ob; omega)).trans hS.2.2.2.2.2.1, (kF.cell (by show aX < ob; omega)).trans hS.2.2.2.2.2.2.1, (kF.cell (by show aX < ob; omega)).trans hS.2.2.2.2.2.2.2.1, (kF.cell (by show aX < ob; omega)).trans hS.2.2.2.2.2.2.2.2⟩
    have eJ : (z2.setCell ⟨ob, 1, none⟩ (.slice eO (L.length + 1) eN)).cell? ⟨w.heap.size, 1, none⟩ = some (.slice (some ⟨aX, aT, none⟩) no co) ∧ (z2.setCell ⟨ob, 1, none⟩ (.slice eO (L.length + 1) eN)).cell? ⟨aX, aT + i * 8, none⟩ = some (.int .i64 x.dev) ∧ (z2.setCell ⟨ob, 1, none⟩ (.slice eO (L.length + 1) eN)).cell? ⟨aX, aT + i * 8 + 1, none⟩ = some (.int .i64 x.seq) ∧ (z2.setCell ⟨ob, 1, none⟩ (.slice eO (L.length + 1) eN)).cell? ⟨aX, aT + i * 8 + 2, none⟩ = some (.int .i64 x.stamp) ∧ (z2.setCell ⟨ob, 1, none⟩ (.slice eO (L.length + 1) eN)).cell? ⟨aX, aT + i * 8 + 3, none⟩ = some (.int .i64 x.kind) ∧ (z2.setCell ⟨ob, 1, none⟩ (.slice eO (L.length + 1) eN)).cell? ⟨aX, aT + i * 8 + 4, none⟩ = some (.string x.item) ∧ (z2.setCell ⟨ob, 1, none⟩ (.slice eO (L.length + 1) eN)).cell? ⟨aX, aT + i * 8 + 5, none⟩ = some (.int .i64 x.qty) ∧ (z2.setCell ⟨ob, 1, none⟩ (.slice eO (L.length + 1) eN)).cell? ⟨aX, aT + i * 8 + 6, none⟩ = some (.int .i64 x.level) ∧ (z2.setCell ⟨ob, 1, none⟩ (.slice eO (L.length + 1) eN)).cell? ⟨aX, aT + i * 8 + 7, none⟩ = some (.int .i64 x.undos) := ⟨(kE.cell (by show w.heap.size < ob; omega)).trans hS.1, (kE.cell (by show aX < ob; omega)).trans hS.2.1, (kE.cell (by show aX < ob; omega)).trans hS.2.2.1, (kE.cell (by show aX < ob; omega)).trans hS.2.2.2.1, (kE.cell (by show aX < ob; omega)).trans hS.2.2.2.2.1, (kE.cell (by show aX < ob; omega)).trans hS.2.2.2.2.2.1, (kE.cell (by show aX < ob; omega)).trans hS.2.2.2.2.2.2.1, (kE.cell (by show aX < ob; omega)).trans hS.2.2.2.2.2.2.2.1, (kE.cell (by show aX < ob; omega)).trans hS.2.2.2.2.2.2.2.2⟩
    clear hSw J4 sG aD5 aEO
    go_wp2_with fail
    refine wp_region_held_drew (S := fun w' => w'.cell? ⟨w.heap.size, 1, none⟩ = some (.slice (some ⟨aX, aT, none⟩) no co) ∧ w'.cell? ⟨aX, aT + i * 8, none⟩ = some (.int .i64 x.dev) ∧ w'.cell? ⟨aX, aT + i * 8 + 1, none⟩ = some (.int .i64 x.seq) ∧ w'.cell? ⟨aX, aT + i * 8 + 2, none⟩ = some (.int .i64 x.stamp) ∧ w'.cell? ⟨aX, aT + i * 8 + 3, none⟩ = some (.int .i64 x.kind) ∧ w'.cell? ⟨aX, aT + i * 8 + 4, none⟩ = some (.string x.item) ∧ w'.cell? ⟨aX, aT + i * 8 + 5, none⟩ = some (.int .i64 x.qty) ∧ w'.cell? ⟨aX, aT + i * 8 + 6, none⟩ = some (.int .i64 x.level) ∧ w'.cell? ⟨aX, aT + i * 8 + 7, none⟩ = some (.int .i64 x.undos)) (by kernel_rfl) (by rw [cZ]; exact hS) (fun aO => ?_)
    rw [cZ]; clear aO; refine tj 0 ?_
    refine tj 2 ?_
    refine tj 3 ?_
    refine tj 4 ?_
    refine tj 5 ?_
    refine tj 6 ?_
    refine wpAnyH_ready (rs := [1, 7]) (by kernel_rfl) (by simp) ?_
    refine AllReadyH.cons rfl (fun K hK => ?_) (AllReadyH.cons rfl (fun K hK => ?_) AllReadyH.nil)
    all_goals go_simp
    ·refine hK.out _ _ hSd (fun iE => ?_)
     clear hK K
     (try simp only [Act.put, u1, u2, u3])
     refine rk 7 rfl (fun K hK => ?_)
     go_simp
     refine hK.out _ _ dQ (fun rN => ?_)
     clear hK K
     (try simp only [Act.put, u1, u2, u3])
     refine rk 8 rfl (fun K hK => ?_)
     rw [if_pos (by rfl)]
     refine wL _ _ _ rfl _ _ rfl rfl hrun ?_
     refine hK.out _ _ eD (fun tZ => ?_)
     clear hK K
     (try simp only [Act.put, u1, u2, u3])
     refine tj 9 ?_
     refine rk 10 rfl (fun K hK => ?_)
     go_simp
     refine hK.out _ _ eJ (fun rM => ?_)
     clear hK K
     (try simp only [Act.put, u1, u2, u3])
     refine wpAnyH_done (by kernel_rfl) ?_ _
     have sY : Hid (nF ob (some ⟨vb, vo, none⟩) zc zs (dF l m) w2 (z2.setCell ⟨ob, 1, none⟩ (.slice eO (L.length + 1) eN)) d (s + 1)) := by
      show nF _ _ _ _ _ _ _ _ _
      unfold nF; rw [cI.out, HFy.out, jK, List.length_append]; exact ⟨eO, eN, zT.out, zR.out, HBL.out.trans zU.out⟩
     clear zT zR zU hSd dQ eD eJ hS ob0 ob1 i2 o1 o11 o12 fz2 hrun iF eZ A3 jC kF kE rN iE tZ rM; go_wp2
     go_roundw
     case rel => exact ⟨s + 1, by omega, by go_num, sY, HE⟩
     case measure => simp [intOf]; omega
    ·refine hK.out _ _ dQ (fun iE => ?_)
     clear hK K
     (try simp only [Act.put, u1, u2, u3])
     refine rk 1 rfl (fun K hK => ?_)
     go_simp
     refine hK.out _ _ dQ (fun rN => ?_)
     clear hK K
     (try simp only [Act.put, u1, u2, u3])
     refine rk 8 rfl (fun K hK => ?_)
     rw [if_pos (by rfl)]
     refine wL _ _ _ rfl _ _ rfl rfl hrun ?_
     refine hK.out _ _ eD (fun tZ => ?_)
     clear hK K
     (try simp only [Act.put, u1, u2, u3])
     refine tj 9 ?_
     refine rk 10 rfl (fun K hK => ?_)
     go_simp
     refine hK.out _ _ eJ (fun rM => ?_)
     clear hK K
     (try simp only [Act.put, u1, u2, u3])
     refine wpAnyH_done (by kernel_rfl) ?_ _
     have sY : Hid (nF ob (some ⟨vb, vo, none⟩) zc zs (dF l m) w2 (z2.setCell ⟨ob, 1, none⟩ (.slice eO (L.length + 1) eN)) d (s + 1)) := by
      show nF _ _ _ _ _ _ _ _ _
      unfold nF; rw [cI.out, HFy.out, jK, List.length_append]; exact ⟨eO, eN, zT.out, zR.out, HBL.out.trans zU.out⟩
     clear zT zR zU hSd dQ eD eJ hS ob0 ob1 i2 o1 o11 o12 fz2 hrun iF eZ A3 jC kF kE rN iE tZ rM; go_wp2
     go_roundw
     case rel => exact ⟨s + 1, by omega, by go_num, sY, HE⟩
     case measure => simp [intOf]; omega
   obtain ⟨b2, aQ, rfl, aI, ho2⟩ := HGr.out.2 k hkm; have xR : Hid (rD wr b2 (aQ + k * 8) (aB m k)) := ho2; have HYk : Hid (lE m (d : Int) ((s : Int) + 1) = some (aB m k)) := by
    show _ = _
    have := sA (sD pW.out) m.length aRr k (by rw [HLm.out]; exact hkm)
    rw [hke.1, hke.2] at this; exact this
   have I9 : Hid (eW x (aB m k) = false → rF l m = false) := fun h => aJk (by rw [HLm.out]; exact hkm) rfl hke HXi.out h
   have hki : (k : Int) < (mo : Int) := by omega
   have hk0 : ¬ ((k : Int) < 0) := by omega
   clear ho2 hke; generalize aB m k = y at xR HYk I9; obtain ⟨c0', q7, q6, c3', c4', c5', c6', c7'⟩ := O7.out; obtain ⟨e0', e1', e2', e3', e4', e5', e6', e7'⟩ := xR.out; have hS : wr.drew.cell? ⟨w.heap.size, 1, none⟩ = some (.slice (some ⟨aX, aT, none⟩) no co) ∧ wr.drew.cell? ⟨w.heap.size + 1, 1, none⟩ = some (.slice (some ⟨b2, aQ, none⟩) mo eo) ∧ (wr.drew.cell? ⟨aX, aT + i * 8, none⟩ = some (.int .i64 x.dev) ∧ wr.drew.cell? ⟨aX, aT + i * 8 + 1, none⟩ = some (.int .i64 x.seq) ∧ wr.drew.cell? ⟨aX, aT + i * 8 + 2, none⟩ = some (.int .i64 x.stamp) ∧ wr.drew.cell? ⟨aX, aT + i * 8 + 3, none⟩ = some (.int .i64 x.kind) ∧ wr.drew.cell? ⟨aX, aT + i * 8 + 4, none⟩ = some (.string x.item) ∧ wr.drew.cell? ⟨aX, aT + i * 8 + 5, none⟩ = some (.int .i64 x.qty) ∧ wr.drew.cell? ⟨aX, aT + i * 8 + 6, none⟩ = some (.int .i64 x.level) ∧ wr.drew.cell? ⟨aX, aT + i * 8 + 7, none⟩ = some (.int .i64 x.undos)) ∧ wr.drew.cell? ⟨b2, aQ + k * 8, none⟩ = some (.int .i64 y.dev) ∧ wr.drew.cell? ⟨b2, aQ + k * 8 + 1, none⟩ = some (.int .i64 y.seq) ∧ wr.drew.cell? ⟨b2, aQ + k * 8 + 2, none⟩ = some (.int .i64 y.stamp) ∧ wr.drew.cell? ⟨b2, aQ + k * 8 + 3, none⟩ = some (.int .i64 y.kind) ∧ wr.drew.cell? ⟨b2, aQ + k * 8 + 4, none⟩ = some (.string y.item) ∧ wr.drew.cell? ⟨b2, aQ + k * 8 + 5, none⟩ = some (.int .i64 y.qty) ∧ wr.drew.cell? ⟨b2, aQ + k * 8 + 6, none⟩ = some (.int .i64 y.level) ∧ wr.drew.cell? ⟨b2, aQ + k * 8 + 7, none⟩ = some (.int .i64 y.undos) := ⟨a1, b1, ⟨c0', q7, q6, c3', c4', c5', c6', c7'⟩, e0', e1', e2', e3', e4', e5', e6', e7'⟩; clear a0 a1 b0 b1 c0 o0 o1 c0' q7 q6 c3' c4' c5' c6' c7' e0' e1' e2' e3' e4' e5' e6' e7' O7 xR HOr HGr
   go_upto_region 17 with fail
   have HTd := aRp (oD.out); rcases hsm : eW x y with _ | _
   ·have HNo := aRp (I9.out hsm)
    have xN := aRp hsm; clear hsm
    go_wp2_with fail
    refine wp_region_held_drew (S := fun w' => w'.cell? ⟨w.heap.size, 1, none⟩ = some (.slice (some ⟨aX, aT, none⟩) no co) ∧ w'.cell? ⟨w.heap.size + 1, 1, none⟩ = some (.slice (some ⟨b2, aQ, none⟩) mo eo) ∧ (w'.cell? ⟨aX, aT + i * 8, none⟩ = some (.int .i64 x.dev) ∧ w'.cell? ⟨aX, aT + i * 8 + 1, none⟩ = some (.int .i64 x.seq) ∧ w'.cell? ⟨aX, aT + i * 8 + 2, none⟩ = some (.int .i64 x.stamp) ∧ w'.cell? ⟨aX, aT + i * 8 + 3, none⟩ = some (.int .i64 x.kind) ∧ w'.cell? ⟨aX, aT + i * 8 + 4, none⟩ = some (.string x.item) ∧ w'.cell? ⟨aX, aT + i * 8 + 5, none⟩ = some (.int .i64 x.qty) ∧ w'.cell? ⟨aX, aT + i * 8 + 6, none⟩ = some (.int .i64 x.level) ∧ w'.cell? ⟨aX, aT + i * 8 + 7, none⟩ = some (.int .i64 x.undos)) ∧ w'.cell? ⟨b2, aQ + k * 8, none⟩ = some (.int .i64 y.dev) ∧ w'.cell? ⟨b2, aQ + k * 8 + 1, none⟩ = some (.int .i64 y.seq) ∧ w'.cell? ⟨b2, aQ + k * 8 + 2, none⟩ = some (.int .i64 y.stamp) ∧ w'.cell? ⟨b2, aQ + k * 8 + 3, none⟩ = some (.int .i64 y.kind) ∧ w'.cell? ⟨b2, aQ + k * 8 + 4, none⟩ = some (.string y.item) ∧ w'.cell? ⟨b2, aQ + k * 8 + 5, none⟩ = some (.int .i64 y.qty) ∧ w'.cell? ⟨b2, aQ + k * 8 + 6, none⟩ = some (.int .i64 y.level) ∧ w'.cell? ⟨b2, aQ + k * 8 + 7, none⟩ = some (.int .i64 y.undos)) (by kernel_rfl) hS (fun aO => ?_)
    refine tj 0 ?_
    refine tj 1 ?_
    refine tj 2 ?_
    refine tj 3 ?_
    refine tj 4 ?_
    refine tj 5 ?_
    refine tj 6 ?_
    refine tj 7 ?_
    refine tj 8 ?_
    refine tj 9 ?_
    refine rk 10 rfl (fun K hK => ?_)
    go_simp
    go_at_call 151
    refine (aIn x y wr.drew).mono ?_
    rintro e w5 ⟨rfl, aW⟩; rw [xN.out]; have N5 : w5.cell? ⟨w.heap.size, 1, none⟩ = some (.slice (some ⟨aX, aT, none⟩) no co) ∧ w5.cell? ⟨w.heap.size + 1, 1, none⟩ = some (.slice (some ⟨b2, aQ, none⟩) mo eo) ∧ (w5.cell? ⟨aX, aT + i * 8, none⟩ = some (.int .i64 x.dev) ∧ w5.cell? ⟨aX, aT + i * 8 + 1, none⟩ = some (.int .i64 x.seq) ∧ w5.cell? ⟨aX, aT + i * 8 + 2, none⟩ = some (.int .i64 x.stamp) ∧ w5.cell? ⟨aX, aT + i * 8 + 3, none⟩ = some (.int .i64 x.kind) ∧ w5.cell? ⟨aX, aT + i * 8 + 4, none⟩ = some (.string x.item) ∧ w5.cell? ⟨aX, aT + i * 8 + 5, none⟩ = some (.int .i64 x.qty) ∧ w5.cell? ⟨aX, aT + i * 8 + 6, none⟩ = some (.int .i64 x.level) ∧ w5.cell? ⟨aX, aT + i * 8 + 7, none⟩ = some (.int .i64 x.undos)) ∧ w5.cell? ⟨b2, aQ + k * 8, none⟩ = some (.int .i64 y.dev) ∧ w5.cell? ⟨b2, aQ + k * 8 + 1, none⟩ = some (.int .i64 y.seq) ∧ w5.cell? ⟨b2, aQ + k * 8 + 2, none⟩ = some (.int .i64 y.stamp) ∧ w5.cell? ⟨b2, aQ + k * 8 + 3, none⟩ = some (.int .i64 y.kind) ∧ w5.cell? ⟨b2, aQ + k * 8 + 4, none⟩ = some (.string y.item) ∧ w5.cell? ⟨b2, aQ + k * 8 + 5, none⟩ = some (.int .i64 y.qty) ∧ w5.cell? ⟨b2, aQ + k * 8 + 6, none⟩ = some (.int .i64 y.level) ∧ w5.cell? ⟨b2, aQ + k * 8 + 7, none⟩ = some (.int .i64 y.undos) := ⟨(aW.cell (block_lt_of_cell hS.1)).trans hS.1, (aW.cell (block_lt_of_cell hS.2.1)).trans hS.2.1, ⟨(aW.cell (block_lt_of_cell hS.2.2.1.1)).trans hS.2.2.1.1, (aW.cell (block_lt_of_cell hS.2.2.1.2.1)).trans hS.2.2.1.2.1, (aW.cell (block_lt_of_cell hS.2.2.1.2.2.1)).trans hS.2.2.1.2.2.1, (aW.cell (block_lt_of_cell hS.2.2.1.2.2.2.1)).trans hS.2.2.1.2.2.2.1, (aW.cell (block_lt_of_cell hS.2.2.1.2.2.2.2.1)).trans hS.2.2.1.2.2.2.2.1, (aW.cell (block_lt_of_cell hS.2.2.1.2.2.2.2.2.1)).trans hS.2.2.1.2.2.2.2.2.1, (aW.cell (block_lt_of_cell hS.2.2.1.2.2.2.2.2.2.1)).trans hS.2.2.1.2.2.2.2.2.2.1, (aW.cell (block_lt_of_cell hS.2.2.1.2.2.2.2.2.2.2)).trans hS.2.2.1.2.2.2.2.2.2.2⟩, (aW.cell (block_lt_of_cell hS.2.2.2.1)).trans hS.2.2.2.1, (aW.cell (block_lt_of_cell hS.2.2.2.2.1)).trans hS.2.2.2.2.1, (aW.cell (block_lt_of_cell hS.2.2.2.2.2.1)).trans hS.2.2.2.2.2.1, (aW.cell (block_lt_of_cell hS.2.2.2.2.2.2.1)).trans hS.2.2.2.2.2.2.1, (aW.cell (block_lt_of_cell hS.2.2.2.2.2.2.2.1)).trans hS.2.2.2.2.2.2.2.1, (aW.cell (block_lt_of_cell hS.2.2.2.2.2.2.2.2.1)).trans hS.2.2.2.2.2.2.2.2.1, (aW.cell (block_lt_of_cell hS.2.2.2.2.2.2.2.2.2.1)).trans hS.2.2.2.2.2.2.2.2.2.1, (aW.cell (block_lt_of_cell hS.2.2.2.2.2.2.2.2.2.2)).trans hS.2.2.2.2.2.2.2.2.2.2⟩
    refine hK.out _ _ N5 (fun bQ => ?_)
    clear hK K
    (try simp only [Act.put, u1, u2, u3])
    refine tj 11 ?_
    refine tj 12 ?_
    refine wpAnyH_done (by kernel_rfl) ?_ _
    have aV : Below wr.heap.size wr w5 := ⟨aW.os, aW.tape, aW.output, aW.size, aW.block⟩; have vO := aRp (oD.out.next aV); have HF : Hid (rF l m = false) := HNo.out; clear hS N5 aO bQ aW aV J4 sG HBL oD HTd nL pW; obtain ⟨r0, r1⟩ := pair_cells vO.out.res; obtain ⟨fz0, fz1⟩ := aC vO.out.res; have pG := aRp (vO.out.set2S (.slice none 0 0) (.slice none 0 0)).1; have oI := aRp (vO.out.set2S (.slice none 0 0) (.slice none 0 0)).2; go_wp2
    change bodyPost _ _ _ _ _ ((w5.setCell ⟨w.heap.size + 1 + 1, 0, none⟩ (.slice none 0 0)).setCell ⟨w.heap.size + 1 + 1, 1, none⟩ (.slice none 0 0))
    generalize (w5.setCell ⟨w.heap.size + 1 + 1, 0, none⟩ (.slice none 0 0)).setCell ⟨w.heap.size + 1 + 1, 1, none⟩ (.slice none 0 0) = wf at pG oI ⊢; obtain ⟨q0, q1⟩ := pair_cells pG.out; exact bodyPost_ret (v := .tuple #[.agg #[.slice none 0 0, .slice none 0 0], .bool false]) (by simp [results, Tryz.results131, go_sem, q0, q1]) rfl ⟨none, 0, none, 0, by rw [HF.out]; rfl, by rw [HF.out]; exact P4 _ _ _ _, by rw [HF.out]; exact fA _ _ _ _, oI.out, by rw [HF.out]; exact cP, by rw [HF.out]; exact cP⟩
   obtain ⟨u, rfl⟩ : ∃ u, y = x.with u := ⟨_, A1 hsm⟩; have xN := aRp hsm; have HFy : Hid (dF l m d s = x.with (max x.undos u)) := by show _ = _; rw [aKL.out]; unfold nT; rw [HXi.out, HYk.out]; rfl
   have HE := aRp (aKG.out fun a b ha hb => by rw [HXi.out] at ha; rw [HYk.out] at hb; cases ha; cases hb; exact xN.out)
   clear hsm
   change wr.drew.cell? ⟨w.heap.size, 1, none⟩ = some (.slice (some ⟨aX, aT, none⟩) no co) ∧ wr.drew.cell? ⟨w.heap.size + 1, 1, none⟩ = some (.slice (some ⟨b2, aQ, none⟩) mo eo) ∧ (wr.drew.cell? ⟨aX, aT + i * 8, none⟩ = some (.int .i64 x.dev) ∧ wr.drew.cell? ⟨aX, aT + i * 8 + 1, none⟩ = some (.int .i64 x.seq) ∧ wr.drew.cell? ⟨aX, aT + i * 8 + 2, none⟩ = some (.int .i64 x.stamp) ∧ wr.drew.cell? ⟨aX, aT + i * 8 + 3, none⟩ = some (.int .i64 x.kind) ∧ wr.drew.cell? ⟨aX, aT + i * 8 + 4, none⟩ = some (.string x.item) ∧ wr.drew.cell? ⟨aX, aT + i * 8 + 5, none⟩ = some (.int .i64 x.qty) ∧ wr.drew.cell? ⟨aX, aT + i * 8 + 6, none⟩ = some (.int .i64 x.level) ∧ wr.drew.cell? ⟨aX, aT + i * 8 + 7, none⟩ = some (.int .i64 x.undos)) ∧ wr.drew.cell? ⟨b2, aQ + k * 8, none⟩ = some (.int .i64 x.dev) ∧ wr.drew.cell? ⟨b2, aQ + k * 8 + 1, none⟩ = some (.int .i64 x.seq) ∧ wr.drew.cell? ⟨b2, aQ + k * 8 + 2, none⟩ = some (.int .i64 x.stamp) ∧ wr.drew.cell? ⟨b2, aQ + k * 8 + 3, none⟩ = some (.int .i64 x.kind) ∧ wr.drew.cell? ⟨b2, aQ + k * 8 + 4, none⟩ = some (.string x.item) ∧ wr.drew.cell? ⟨b2, aQ + k * 8 + 5, none⟩ = some (.int .i64 x.qty) ∧ wr.drew.cell? ⟨b2, aQ + k * 8 + 6, none⟩ = some (.int .i64 x.level) ∧ wr.drew.cell? ⟨b2, aQ + k * 8 + 7, none⟩ = some (.int .i64 u) at hS
   go_wp2_with fail
   refine wp_region_held_drew (S := fun w' => w'.cell? ⟨w.heap.size, 1, none⟩ = some (.slice (some ⟨aX, aT, none⟩) no co) ∧ w'.cell? ⟨w.heap.size + 1, 1, none⟩ = some (.slice (some ⟨b2, aQ, none⟩) mo eo) ∧ (w'.cell? ⟨aX, aT + i * 8, none⟩ = some (.int .i64 x.dev) ∧ w'.cell? ⟨aX, aT + i * 8 + 1, none⟩ = some (.int .i64 x.seq) ∧ w'.cell? ⟨aX, aT + i * 8 + 2, none⟩ = some (.int .i64 x.stamp) ∧ w'.cell? ⟨aX, aT + i * 8 + 3, none⟩ = some (.int .i64 x.kind) ∧ w'.cell? ⟨aX, aT + i * 8 + 4, none⟩ = some (.string x.item) ∧ w'.cell? ⟨aX, aT + i * 8 + 5, none⟩ = some (.int .i64 x.qty) ∧ w'.cell? ⟨aX, aT + i * 8 + 6, none⟩ = some (.int .i64 x.level) ∧ w'.cell? ⟨aX, aT + i * 8 + 7, none⟩ = some (.int .i64 x.undos)) ∧ w'.cell? ⟨b2, aQ + k * 8, none⟩ = some (.int .i64 x.dev) ∧ w'.cell? ⟨b2, aQ + k * 8 + 1, none⟩ = some (.int .i64 x.seq) ∧ w'.cell? ⟨b2, aQ + k * 8 + 2, none⟩ = some (.int .i64 x.stamp) ∧ w'.cell? ⟨b2, aQ + k * 8 + 3, none⟩ = some (.int .i64 x.kind) ∧ w'.cell? ⟨b2, aQ + k * 8 + 4, none⟩ = some (.string x.item) ∧ w'.cell? ⟨b2, aQ + k * 8 + 5, none⟩ = some (.int .i64 x.qty) ∧ w'.cell? ⟨b2, aQ + k * 8 + 6, none⟩ = some (.int .i64 x.level) ∧ w'.cell? ⟨b2, aQ + k * 8 + 7, none⟩ = some (.int .i64 u)) (by kernel_rfl) hS (fun aO => ?_)
   refine tj 0 ?_
   refine tj 1 ?_
   refine tj 2 ?_
   refine tj 3 ?_
   refine tj 4 ?_
   refine tj 5 ?_
   refine tj 6 ?_
   refine tj 7 ?_
   refine tj 8 ?_
   refine tj 9 ?_
   refine rk 10 rfl (fun K hK => ?_)
   go_simp
   go_at_call 151
   refine (aIn x (x.with u) wr.drew).mono ?_
   rintro e w5 ⟨rfl, aW⟩; rw [xN.out]; have N5 : w5.cell? ⟨w.heap.size, 1, none⟩ = some (.slice (some ⟨aX, aT, none⟩) no co) ∧ w5.cell? ⟨w.heap.size + 1, 1, none⟩ = some (.slice (some ⟨b2, aQ, none⟩) mo eo) ∧ (w5.cell? ⟨aX, aT + i * 8, none⟩ = some (.int .i64 x.dev) ∧ w5.cell? ⟨aX, aT + i * 8 + 1, none⟩ = some (.int .i64 x.seq) ∧ w5.cell? ⟨aX, aT + i * 8 + 2, none⟩ = some (.int .i64 x.stamp) ∧ w5.cell? ⟨aX, aT + i * 8 + 3, none⟩ = some (.int .i64 x.kind) ∧ w5.cell? ⟨aX, aT + i * 8 + 4, none⟩ = some (.string x.item) ∧ w5.cell? ⟨aX, aT + i * 8 + 5, none⟩ = some (.int .i64 x.qty) ∧ w5.cell? ⟨aX, aT + i * 8 + 6, none⟩ = some (.int .i64 x.level) ∧ w5.cell? ⟨aX, aT + i * 8 + 7, none⟩ = some (.int .i64 x.undos)) ∧ w5.cell? ⟨b2, aQ + k * 8, none⟩ = some (.int .i64 x.dev) ∧ w5.cell? ⟨b2, aQ + k * 8 + 1, none⟩ = some (.int .i64 x.seq) ∧ w5.cell? ⟨b2, aQ + k * 8 + 2, none⟩ = some (.int .i64 x.stamp) ∧ w5.cell? ⟨b2, aQ + k * 8 + 3, none⟩ = some (.int .i64 x.kind) ∧ w5.cell? ⟨b2, aQ + k * 8 + 4, none⟩ = some (.string x.item) ∧ w5.cell? ⟨b2, aQ + k * 8 + 5, none⟩ = some (.int .i64 x.qty) ∧ w5.cell? ⟨b2, aQ + k * 8 + 6, none⟩ = some (.int .i64 x.level) ∧ w5.cell? ⟨b2, aQ + k * 8 + 7, none⟩ = some (.int .i64 u) := ⟨(aW.cell (block_lt_of_cell hS.1)).trans hS.1, (aW.cell (block_lt_of_cell hS.2.1)).trans hS.2.1, ⟨(aW.cell (block_lt_of_cell hS.2.2.1.1)).trans hS.2.2.1.1, (aW.cell (block_lt_of_cell hS.2.2.1.2.1)).trans hS.2.2.1.2.1, (aW.cell (block_lt_of_cell hS.2.2.1.2.2.1)).trans hS.2.2.1.2.2.1, (aW.cell (block_lt_of_cell hS.2.2.1.2.2.2.1)).trans hS.2.2.1.2.2.2.1, (aW.cell (block_lt_of_cell hS.2.2.1.2.2.2.2.1)).trans hS.2.2.1.2.2.2.2.1, (aW.cell (block_lt_of_cell hS.2.2.1.2.2.2.2.2.1)).trans hS.2.2.1.2.2.2.2.2.1, (aW.cell (block_lt_of_cell hS.2.2.1.2.2.2.2.2.2.1)).trans hS.2.2.1.2.2.2.2.2.2.1, (aW.cell (block_lt_of_cell hS.2.2.1.2.2.2.2.2.2.2)).trans hS.2.2.1.2.2.2.2.2.2.2⟩, (aW.cell (block_lt_of_cell hS.2.2.2.1)).trans hS.2.2.2.1, (aW.cell (block_lt_of_cell hS.2.2.2.2.1)).trans hS.2.2.2.2.1, (aW.cell (block_lt_of_cell hS.2.2.2.2.2.1)).trans hS.2.2.2.2.2.1, (aW.cell (block_lt_of_cell hS.2.2.2.2.2.2.1)).trans hS.2.2.2.2.2.2.1, (aW.cell (block_lt_of_cell hS.2.2.2.2.2.2.2.1)).trans hS.2.2.2.2.2.2.2.1, (aW.cell (block_lt_of_cell hS.2.2.2.2.2.2.2.2.1)).trans hS.2.2.2.2.2.2.2.2.1, (aW.cell (block_lt_of_cell hS.2.2.2.2.2.2.2.2.2.1)).trans hS.2.2.2.2.2.2.2.2.2.1, (aW.cell (block_lt_of_cell hS.2.2.2.2.2.2.2.2.2.2)).trans hS.2.2.2.2.2.2.2.2.2.2⟩
   refine hK.out _ _ N5 (fun bQ => ?_)
   clear hK K
   (try simp only [Act.put, u1, u2, u3])
   refine tj 11 ?_
   refine tj 12 ?_
   refine wpAnyH_done (by kernel_rfl) ?_ _
   have aV : Below wr.heap.size wr w5 := ⟨aW.os, aW.tape, aW.output, aW.size, aW.block⟩; have aOx := aRp ((aV.block _ aGT).trans J4.out); have aHq := aRp (A4 sG.out aV); have aOK := aRp (HBL.out.trans (aV.mono (by omega)))
   have aK3 : ob < w5.heap.size := Nat.lt_of_lt_of_le aGT aV.size; have J2 := aRp N5; have HLt : Hid (∀ g, (Value.slice oa L.length oc).ownBlock = some g → g < w5.heap.size) := fun g hg => (aHq.out.lt g hg).2
   clear hS N5 aO bQ aW aV J4 sG HBL oD HTd HXi HYk I9; obtain ⟨a1, b1, ⟨d0, d1, d2, d3, d4, d5, d6, d7⟩, e0', e1', e2', e3', e4', e5', e6', e7'⟩ := J2.out
   go_upto_region 11 with fail
   have hM : Below w5.heap.size w5 (w5.alloc (.cells #[.int .i64 x.dev, .int .i64 x.seq, .int .i64 x.stamp, .int .i64 x.kind, .string x.item, .int .i64 x.qty, .int .i64 x.level, .int .i64 x.undos] 50)) := bl; have bL := aRp (bM (Below.refl _ (w5.alloc (.cells #[.int .i64 x.dev, .int .i64 x.seq, .int .i64 x.stamp, .int .i64 x.kind, .string x.item, .int .i64 x.qty, .int .i64 x.level, .int .i64 x.undos] 50)))); have b16 := (hM.cell (block_lt_of_cell b1)).trans b1; have e76 := (hM.cell (block_lt_of_cell e7')).trans e7'; have aKI := aRp ((hM.block _ aK3).trans aOx.out); have aHp := aRp (A4 aHq.out hM); have aBu := aRp (aOK.out.trans (hM.mono (by omega)))
   clear a1 b1 d0 d1 d2 d3 d4 d5 d6 d7 e0' e1' e2' e3' e4' e5' e6' e7' J2 aOx aHq aOK; generalize w5.alloc (.cells #[.int .i64 x.dev, .int .i64 x.seq, .int .i64 x.stamp, .int .i64 x.kind, .string x.item, .int .i64 x.qty, .int .i64 x.level, .int .i64 x.undos] 50) = w6 at hM bL b16 e76 aKI aHp aBu ⊢; have M9 := hM.size; have hx6 := bT bL.out; generalize w5.heap.size = nb at bL M9 hx6 aK3 HLt ⊢; clear hM; obtain ⟨z0, cZ⟩ : ∃ z0, w6.drew = z0 := ⟨_, rfl⟩; have X9 : Hid (z0.heap[nb]? = some (.cells #[.int .i64 x.dev, .int .i64 x.seq, .int .i64 x.stamp, .int .i64 x.kind, .string x.item, .int .i64 x.qty, .int .i64 x.level, .int .i64 x.undos] 50 (0, 0))) := by rw [← cZ]; exact bL.out
   have aOw : Hid (z0.heap[ob]? = some (.cells #[.slice (some ⟨vb, vo, none⟩) 4 zc, .slice oa L.length oc] 27 (0, 0))) := by rw [← cZ]; exact aKI.out
   have aLt : Hid (z0.ownsRow (ob + 1) 50 8 (.slice oa L.length oc) L.length (aG L)) := by rw [← cZ]; exact aHp.out
   have aOJ : Hid (Below ob w2 z0) := by rw [← cZ]; exact ⟨aBu.out.os, aBu.out.tape, aBu.out.output, aBu.out.size, aBu.out.block⟩
   have hS : z0.cell? ⟨w.heap.size + 1, 1, none⟩ = some (.slice (some ⟨b2, aQ, none⟩) mo eo) ∧ z0.cell? ⟨b2, aQ + k * 8 + 7, none⟩ = some (.int .i64 u) := by rw [← cZ]; exact ⟨b16, e76⟩
   have aPn : z0.heap.size = w6.heap.size := by rw [← cZ]; rfl
   clear bL aKI aHp aBu b16 e76; obtain ⟨e0, e1, e2, e3, e4, e5, e6, e7⟩ := aH X9.out; obtain ⟨f0, f1, f2, f3, f4, f5, f6, f7⟩ := cB X9.out; have HX8 : Hid ((z0.setCell ⟨nb, 7, none⟩ (.int .i64 (max x.undos u))).heap[nb]? = some (.cells #[.int .i64 x.dev, .int .i64 x.seq, .int .i64 x.stamp, .int .i64 x.kind, .string x.item, .int .i64 x.qty, .int .i64 x.level, .int .i64 (max x.undos u)] 50 (0, 0))) := heap_setCell_same _ _ _ _ _ _ X9.out; have aCQ : Hid ((z0.setCell ⟨nb, 7, none⟩ (.int .i64 (max x.undos u))).heap[ob]? = some (.cells #[.slice (some ⟨vb, vo, none⟩) 4 zc, .slice oa L.length oc] 27 (0, 0))) := (heap_setCell_other _ _ _ _ (by show ob ≠ nb; omega)).trans aOw.out
   have aDT : Hid ((z0.setCell ⟨nb, 7, none⟩ (.int .i64 (max x.undos u))).ownsRow (ob + 1) 50 8 (.slice oa L.length oc) L.length (aG L)) := aAp aLt.out (fun q hq => by have := HLt.out q hq; omega)
   have aHB : Hid (Below ob w2 (z0.setCell ⟨nb, 7, none⟩ (.int .i64 (max x.undos u)))) := aOJ.out.setCell (by show ob ≤ nb; omega) _
   have hS8 : (z0.setCell ⟨nb, 7, none⟩ (.int .i64 (max x.undos u))).cell? ⟨w.heap.size + 1, 1, none⟩ = some (.slice (some ⟨b2, aQ, none⟩) mo eo) ∧ (z0.setCell ⟨nb, 7, none⟩ (.int .i64 (max x.undos u))).cell? ⟨b2, aQ + k * 8 + 7, none⟩ = some (.int .i64 u) := ⟨(cell_of_block (heap_setCell_other _ _ _ _ (by show w.heap.size + 1 ≠ nb; omega))).trans hS.1, (cell_of_block (heap_setCell_other _ _ _ _ (by show b2 ≠ nb; omega))).trans hS.2⟩
   have aJR : (z0.setCell ⟨nb, 7, none⟩ (.int .i64 (max x.undos u))).heap.size = z0.heap.size := World.size_setCell _ _ _
   go_wp2_with fail
   refine wp_region_held_drew (S := fun w' => w'.cell? ⟨w.heap.size + 1, 1, none⟩ = some (.slice (some ⟨b2, aQ, none⟩) mo eo) ∧ w'.cell? ⟨b2, aQ + k * 8 + 7, none⟩ = some (.int .i64 u)) (by kernel_rfl) (by rw [cZ]; exact hS) (fun aO => ?_)
   rw [cZ]; clear aO; refine tj 0 ?_
   refine tj 2 ?_
   refine tj 3 ?_
   refine tj 4 ?_
   refine tj 5 ?_
   refine tj 6 ?_
   refine tj 7 ?_
   refine rk 1 rfl (fun K hK => ?_)
   go_simp
   refine hK.out _ _ hS (fun rN => ?_)
   clear hK K
   (try simp only [Act.put, u1, u2, u3])
   refine tj 8 ?_
   refine tj 9 ?_
   refine rk 10 rfl (fun K hK => ?_)
   go_simp
   refine hK.out _ _ hS8 (fun iE => ?_)
   clear hK K
   (try simp only [Act.put, u1, u2, u3])
   refine wpAnyH_done (by kernel_rfl) ?_ _
   clear hS hS8 rN iE X9 aOw aLt aOJ e0 e1 e2 e3 e4 e5 e6 e7 f0 f1 f2 f3 f4 f5 f6 f7; generalize hmx : max x.undos u = mx at HX8 aCQ aDT aHB aJR HFy ⊢; generalize z0.setCell ⟨nb, 7, none⟩ (.int .i64 mx) = w8 at HX8 aCQ aDT aHB aJR ⊢; clear hmx cZ aJR aPn; obtain ⟨e0, e1, e2, e3, e4, e5, e6, e7⟩ := aH HX8.out; obtain ⟨o0, o1⟩ := pair_cells aCQ.out; have aOY := bT aCQ.out; have Q8 := aDT.out.alloc (.cells #[.int .i64 x.dev, .int .i64 x.seq, .int .i64 x.stamp, .int .i64 x.kind, .string x.item, .int .i64 x.qty, .int .i64 x.level, .int .i64 mx] 50)
   go_upto_region 12 with fail
   have aOB : Hid (dF l m d s = x.with mx) := HFy.out; generalize hX : x.with mx = xx at aOB
   go_wp2_with (at_builtin; refine wpList_append_own _ rfl _ _ 25 rfl (ob + 1) 50 i0 (.agg #[.int .i64 0, .int .i64 0, .int .i64 0, .int .i64 0, .string ⟨#[]⟩, .int .i64 0, .int .i64 0, .int .i64 0]) 8 72 Tryz.underlying25 hi gR kH jN rfl (by decide) _ _ _ rfl Q8 ⟨w8.heap.size, 0, none⟩ 1 1 (bX xx) rfl ?c0 ?c1 ?c2 ?c3 ?c4 ?c5 ?_)
   case c0 => rfl
   case c1 =>
    rw [← hX]; exact d8 w8 (x.with mx)
   case c2 =>
    intro u hu
    exact jH [xx] u (by show u ∈ bX xx ++ []; rw [List.append_nil]; exact hu)
   case c3 => unfold maxLen; omega
   case c4 => omega
   case c5 => simp; omega
   intro v' w9 iF iN _
   have aNH : Below ob w8 w9 := ((Below.refl ob w8).alloc (by omega) (.cells #[.int .i64 x.dev, .int .i64 x.seq, .int .i64 x.stamp, .int .i64 x.kind, .string x.item, .int .i64 x.qty, .int .i64 x.level, .int .i64 mx] 50)).grown iN (by simp; omega) (fun j hj => by have := (Q8.lt j hj).1; omega)
   have aHx : Hid (w9.heap[ob]? = some (.cells #[.slice (some ⟨vb, vo, none⟩) 4 zc, .slice oa L.length oc] 27 (0, 0))) := (iN.block ob (by show _ < (w8.heap.push _).size; simp; omega) (fun h => by have := (Q8.lt ob h.symm).1; omega)).trans ((Below.heap_alloc _ _ _ aOY).trans aCQ.out)
   obtain ⟨eO, eN, rfl⟩ : ∃ eO eN, v' = .slice eO (L.length + 1) eN := by
    rcases iF.2 with ⟨_, e2⟩ | ⟨_, c2, _, e2, _⟩
    ·omega
    ·exact ⟨_, c2, e2⟩
   have aOH : Hid ((w9.setCell ⟨ob, 1, none⟩ (.slice eO (L.length + 1) eN)).heap[ob]? = some (.cells #[.slice (some ⟨vb, vo, none⟩) 4 zc, .slice eO (L.length + 1) eN] 27 (0, 0))) := heap_setCell_same _ _ _ _ _ _ aHx.out; have aLs : Hid ((w9.setCell ⟨ob, 1, none⟩ (.slice eO (L.length + 1) eN)).ownsRow (ob + 1) 50 8 (.slice eO (L.length + 1) eN) (L.length + 1) (aG L ++ bX xx)) := aAp iF (fun q hq => by have := (iF.lt q hq).1; omega)
   have aOI : Hid (Below ob w2 (w9.setCell ⟨ob, 1, none⟩ (.slice eO (L.length + 1) eN))) := (aHB.out.trans (aNH.mono (by omega))).setCell aRr _
   have sY : Hid (nF ob (some ⟨vb, vo, none⟩) zc zs (dF l m) w2 (w9.setCell ⟨ob, 1, none⟩ (.slice eO (L.length + 1) eN)) d (s + 1)) := by
    show nF _ _ _ _ _ _ _ _ _
    unfold nF; rw [cI.out, aOB.out, jK, List.length_append]; exact ⟨eO, eN, aOH.out, aLs.out, aOI.out⟩
   have o19 := (pair_cells aHx.out).2; have fz9 := (aC aHx.out).2; clear Q8 iF iN aDT aHB HX8 aCQ e0 e1 e2 e3 e4 e5 e6 e7 o0 o1 aOH aLs aOI aHx aNH; go_wp2
   go_roundw
   case rel => exact ⟨s + 1, by omega, by go_num, sY, HE⟩
   case measure => simp [intOf]; omega
set_option linter.unusedSimpArgs false in
set_option maxHeartbeats 40000000 in
theorem aFH (w : World) (B : Nat) (av ao bv bo : Option Addr) (nv cv no co mv dv mo eo : Nat) (xs : List Int) (l : List aA) (ys : List Int) (m : List aA) (hx : Ints w B av nv xs) (h : bR w B ao no l) (hy : Ints w B bv mv ys) (g : bR w B bo mo m) (hB : B ≤ w.heap.size) (hv : nv ≤ 1048576) (hn : no ≤ 1048576) (hm : ∀ i, i < no → (aB l i).item.size ≤ 1048576) (yL : mv ≤ 1048576) (yO : mo ≤ 1048576) (mH : ∀ i, i < mo → (aB m i).item.size ≤ 1048576) :
  Calls Tryz.prog 105 #[.agg #[.slice av nv cv, .slice ao no co], .agg #[.slice bv mv dv, .slice bo mo eo]] w (I2 (kX xs l ys m) (vW xs ys (kX xs l ys m)) (A7 xs ys l m (kX xs l ys m)) w) := by
 have hT := pM.mk0 w #[.slice av nv cv, .slice ao no co] #[.slice bv mv dv, .slice bo mo eo] #[.slice none 0 0, .slice none 0 0] 27 27 27
 have HV := aRp (hx.below hT.bel hB)
 have HO := aRp (h.below hT.bel hB)
 have HY := aRp (hy.below hT.bel hB)
 have HG := aRp (g.below hT.bel hB)
 have HT := aRp hT
 have HM := aRp hm
 have HM2 := aRp mH
 have hBw := hB
 clear hx h hy g hT hB hm mH
 go_enter Tryz.func105, Tryz.ntmps105
 go_wp2_with fail
 generalize ((w.alloc (.cells #[.slice av nv cv, .slice ao no co] 27)).alloc (.cells #[.slice bv mv dv, .slice bo mo eo] 27)).alloc (.cells #[.slice none 0 0, .slice none 0 0] 27) = w0 at HV HO HY HG HT ⊢
 have aGR := HT.out.bel.size
 have rB := bT HT.out.res
 refine (tH w0 B av ao nv cv no co xs l HV.out HO.out (by omega) hv hn HM.out).mono ?_
 rintro e w1 ⟨rfl, aF⟩
 have iV := aRp (HV.out.below aF (by omega))
 have cV := aRp (HO.out.below aF (by omega))
 have HY1 := aRp (HY.out.below aF (by omega))
 have tA := aRp (HG.out.below aF (by omega))
 have aR := aRp (HT.out.next aF)
 have eL := aF.size
 clear aF HV HO HY HG HT
 rcases hca : aD xs l with _ | _
 ·have HF := aRp (aIg (ys := ys) (m := m) hca)
  clear hca; obtain ⟨r0, r1⟩ := pair_cells aR.out.res; obtain ⟨fz0, fz1⟩ := aC aR.out.res; have pG := aRp (aR.out.set2S (.slice none 0 0) (.slice none 0 0)).1; have oI := aRp (aR.out.set2S (.slice none 0 0) (.slice none 0 0)).2; go_wp2
  change bodyPost _ _ _ _ _ ((w1.setCell ⟨w.heap.size + 1 + 1, 0, none⟩ (.slice none 0 0)).setCell ⟨w.heap.size + 1 + 1, 1, none⟩ (.slice none 0 0))
  generalize (w1.setCell ⟨w.heap.size + 1 + 1, 0, none⟩ (.slice none 0 0)).setCell ⟨w.heap.size + 1 + 1, 1, none⟩ (.slice none 0 0) = wf at pG oI ⊢; obtain ⟨q0, q1⟩ := pair_cells pG.out; exact bodyPost_ret (v := .tuple #[.agg #[.slice none 0 0, .slice none 0 0], .bool false]) (by simp [results, Tryz.results105, go_sem, q0, q1]) rfl ⟨none, 0, none, 0, by rw [HF.out]; rfl, by rw [HF.out]; exact P4 _ _ _ _, by rw [HF.out]; exact fA _ _ _ _, oI.out, by rw [HF.out]; exact cP, by rw [HF.out]; exact cP⟩
 obtain ⟨b0, b1⟩ := pair_cells aR.out.snd
 go_wp2_with fail
 refine (tH w1 B bv bo mv dv mo eo ys m HY1.out tA.out (by omega) yL yO HM2.out).mono ?_
 rintro e w2 ⟨rfl, aI⟩
 have jZ := aRp (iV.out.below aI (by omega))
 have fJ := aRp (cV.out.below aI (by omega))
 have HY2 := aRp (HY1.out.below aI (by omega))
 have HG2 := aRp (tA.out.below aI (by omega))
 have aN := aRp (aR.out.next aI)
 have eB := aI.size
 have aQK := bT aN.out.res
 clear aI iV cV HY1 tA aR b0 b1
 rcases hcb : aD ys m with _ | _
 ·have HF := aRp (aIf (xs := xs) (l := l) hcb)
  clear hca hcb; obtain ⟨r0, r1⟩ := pair_cells aN.out.res; obtain ⟨fz0, fz1⟩ := aC aN.out.res; have pG := aRp (aN.out.set2S (.slice none 0 0) (.slice none 0 0)).1; have oI := aRp (aN.out.set2S (.slice none 0 0) (.slice none 0 0)).2; go_wp2
  change bodyPost _ _ _ _ _ ((w2.setCell ⟨w.heap.size + 1 + 1, 0, none⟩ (.slice none 0 0)).setCell ⟨w.heap.size + 1 + 1, 1, none⟩ (.slice none 0 0))
  generalize (w2.setCell ⟨w.heap.size + 1 + 1, 0, none⟩ (.slice none 0 0)).setCell ⟨w.heap.size + 1 + 1, 1, none⟩ (.slice none 0 0) = wf at pG oI ⊢; obtain ⟨q0, q1⟩ := pair_cells pG.out; exact bodyPost_ret (v := .tuple #[.agg #[.slice none 0 0, .slice none 0 0], .bool false]) (by simp [results, Tryz.results105, go_sem, q0, q1]) rfl ⟨none, 0, none, 0, by rw [HF.out]; rfl, by rw [HF.out]; exact P4 _ _ _ _, by rw [HF.out]; exact fA _ _ _ _, oI.out, by rw [HF.out]; exact cP, by rw [HF.out]; exact cP⟩
 have HFk := aRp (aIe hca hcb)
 obtain ⟨a0, a1⟩ := pair_cells aN.out.fst
 obtain ⟨b0, b1⟩ := pair_cells aN.out.snd
 go_wp2_with fail
 refine (aJE w2 B av ao bv bo nv cv no co mv dv mo eo xs l ys m jZ.out fJ.out HY2.out HG2.out (by omega) hv hn HM.out yL yO HM2.out hca hcb).mono ?_
 rintro e w3 ⟨va, vc, oa, oc, rfl, hiv, dY, aS, bU, cC⟩
 rw [← HFk.out] at hiv dY bU cC ⊢
 have oH := aRp bU
 have pH := aRp cC
 clear bU cC
 have bF := aRp (aN.out.next aS)
 have HI := aRp hiv
 have HP := aRp dY
 have iD := aS.size
 clear hiv dY aS jZ fJ HY2 HG2 aN a0 a1 b0 b1 hca hcb
 generalize mF : vW xs ys (kX xs l ys m) = zs at HI oH ⊢
 generalize hLs : A7 xs ys l m (kX xs l ys m) = L at HP pH ⊢
 have HZs := aRp mF
 have qY := aRp hLs
 clear mF hLs
 rcases hok : kX xs l ys m with _ | _
 ·have HF := aRp hok
  clear hok
  go_upto_region 4 with fail
  have cW : Below w3.heap.size w3 (w3.alloc (.cells #[.slice va zs.length vc, .slice oa L.length oc] 27)) := bl; have fZ := aRp (bF.out.next cW); generalize w3.alloc (.cells #[.slice va zs.length vc, .slice oa L.length oc] 27) = w4 at cW fZ ⊢; clear cW; obtain ⟨r0, r1⟩ := pair_cells fZ.out.res; obtain ⟨fz0, fz1⟩ := aC fZ.out.res; have pG := aRp (fZ.out.set2S (.slice none 0 0) (.slice none 0 0)).1; have oI := aRp (fZ.out.set2S (.slice none 0 0) (.slice none 0 0)).2; go_wp2
  change bodyPost _ _ _ _ _ ((w4.setCell ⟨w.heap.size + 1 + 1, 0, none⟩ (.slice none 0 0)).setCell ⟨w.heap.size + 1 + 1, 1, none⟩ (.slice none 0 0))
  generalize (w4.setCell ⟨w.heap.size + 1 + 1, 0, none⟩ (.slice none 0 0)).setCell ⟨w.heap.size + 1 + 1, 1, none⟩ (.slice none 0 0) = wf at pG oI ⊢; obtain ⟨q0, q1⟩ := pair_cells pG.out; exact bodyPost_ret (v := .tuple #[.agg #[.slice none 0 0, .slice none 0 0], .bool false]) (by simp [results, Tryz.results105, go_sem, q0, q1]) rfl ⟨none, 0, none, 0, by rw [HF.out]; rfl, by rw [HF.out]; exact P4 _ _ _ _, by rw [HF.out]; exact fA _ _ _ _, oI.out, by rw [HF.out]; exact cP, by rw [HF.out]; exact cP⟩
 have HF := aRp hok
 clear hok
 go_upto_region 4 with fail
 have cW : Below w3.heap.size w3 (w3.alloc (.cells #[.slice va zs.length vc, .slice oa L.length oc] 27)) := bl
 have fZ := aRp (bF.out.next cW)
 have uQ := aRp (bM (Below.refl _ (w3.alloc (.cells #[.slice va zs.length vc, .slice oa L.length oc] 27))))
 have fD := aRp (HI.out.below cW aRr)
 have oO := aRp (HP.out.below cW aRr)
 generalize w3.alloc (.cells #[.slice va zs.length vc, .slice oa L.length oc] 27) = w4 at cW fZ uQ fD oO ⊢
 have vD := cW.size
 clear cW bF HI HP
 obtain ⟨r0, r1⟩ := pair_cells fZ.out.res
 obtain ⟨fz0, fz1⟩ := aC fZ.out.res
 obtain ⟨x0, x1⟩ := pair_cells uQ.out
 have hrl := bT fZ.out.res
 have pG := aRp (fZ.out.set2S (.slice va zs.length vc) (.slice oa L.length oc)).1
 have oI := aRp (fZ.out.set2S (.slice va zs.length vc) (.slice oa L.length oc)).2
 have aGQ : ((w4.setCell ⟨w.heap.size + 1 + 1, 0, none⟩ (.slice va zs.length vc)).setCell ⟨w.heap.size + 1 + 1, 1, none⟩ (.slice oa L.length oc)).heap.size = w4.heap.size := bB _ _ _ _
 have xK : Hid (Own ((w4.setCell ⟨w.heap.size + 1 + 1, 0, none⟩ (.slice va zs.length vc)).setCell ⟨w.heap.size + 1 + 1, 1, none⟩ (.slice oa L.length oc)) w2.heap.size w3.heap.size va zs.length zs) := fD.out.kept fun j h1 h2 => aE _ _ (by omega)
 have HO6 : Hid (bE ((w4.setCell ⟨w.heap.size + 1 + 1, 0, none⟩ (.slice va zs.length vc)).setCell ⟨w.heap.size + 1 + 1, 1, none⟩ (.slice oa L.length oc)) w2.heap.size w3.heap.size oa L.length L) := oO.out.kept fun j h1 h2 => aE _ _ (by omega)
 have HsM : Hid (w4.heap.size = ((w4.setCell ⟨w.heap.size + 1 + 1, 0, none⟩ (.slice va zs.length vc)).setCell ⟨w.heap.size + 1 + 1, 1, none⟩ (.slice oa L.length oc)).heap.size) := aGQ.symm
 clear aGQ
 go_wp2
 change bodyPost _ _ _ _ _ ((w4.setCell ⟨w.heap.size + 1 + 1, 0, none⟩ (.slice va zs.length vc)).setCell ⟨w.heap.size + 1 + 1, 1, none⟩ (.slice oa L.length oc))
 generalize (w4.setCell ⟨w.heap.size + 1 + 1, 0, none⟩ (.slice va zs.length vc)).setCell ⟨w.heap.size + 1 + 1, 1, none⟩ (.slice oa L.length oc) = wf at pG oI xK HO6 HsM ⊢
 obtain ⟨q0, q1⟩ := pair_cells pG.out
 have hsm := HsM.out
 exact bodyPost_ret (v := .tuple #[.agg #[.slice va zs.length vc, .slice oa L.length oc], .bool true]) (by simp [results, Tryz.results105, go_sem, q0, q1]) rfl ⟨va, vc, oa, oc, by rw [HZs.out, qY.out, HF.out], by rw [HZs.out]; exact xK.out.more (by omega) (by omega), by rw [qY.out]; exact HO6.out.more (by omega) (by omega), oI.out, by rw [HZs.out]; exact oH.out, by rw [qY.out]; exact pH.out⟩
end Go.Proofs.YthkagbnpcjidfaaGreatDoor
