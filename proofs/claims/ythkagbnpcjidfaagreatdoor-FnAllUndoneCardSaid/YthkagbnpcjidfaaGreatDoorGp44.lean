/- Walks and mathematics that several claims share, part 44. -/
import Derived.Test.YthkagbnpcjidfaaGreatDoorGp32
import Derived.Test.YthkagbnpcjidfaaGreatDoorGp30
import Derived.Laws.MakeOwn
import Derived.Deep.Cut
import Derived.Deep.RegionHeld3
namespace Go.Proofs.YthkagbnpcjidfaaGreatDoor
set_option maxRecDepth 100000
open Go.RowKit
set_option linter.unusedVariables false
set_option linter.unusedSimpArgs false
theorem X7 {w : World} {base b i n : Nat} {v u : Value} {xs : List Value} (h : w.ownsRow base 50 8 v n xs) (hb : ∀ g, v.ownBlock = some g → g ≠ b) : (w.setCell ⟨b, i, none⟩ u).ownsRow base 50 8 v n xs := by
 refine h.kept (row := some b) ⟨rfl, rfl, rfl, by simp [World.setCell], fun j _ bJ => heap_setCell_other _ _ _ _ (fun e => bJ (by rw [e]))⟩ ?_
 rcases hg : v.ownBlock with _ | g
 ·exact .inl rfl
 ·refine .inr fun e => ?_
  injection e with e; exact hb g hg e
theorem jG.len {w : World} {b n : Nat} {f : Int → Int → Option aA} (h : jG w b n f) : ∃ c : Nat, c ≤ n ∧ ∀ ty, (Builtin.len_ #[82] ty #[.map (some b)]).run Tryz.prog w = .ok (.int .i64 (c : Int)) w := by
 obtain ⟨D, h1, _⟩ := h
 exact ⟨_, h1.size_le, fun ty => h1.len Tryz.underlying82 ty⟩
def aB3 (ok : Bool) (zs : List Int) (L : List aA) (w : World) (e : Ending) (w' : World) : Prop := ∃ va vc oa oc, e = .returned (.tuple #[.agg #[.slice va zs.length vc, .slice oa L.length oc], .bool ok]) ∧ Own w' w.heap.size w'.heap.size va zs.length zs ∧ bB w' w.heap.size w'.heap.size oa L.length L ∧ Below w.heap.size w w' ∧ bQ va zs.length vc ∧ bQ oa L.length oc
theorem tR.set2S {w w1 : World} {x y : Array Value} {z0 z1 : Value} {S T U : TypeId} (h : tR w w1 x y #[z0, z1] S T U) (u v : Value) :
  ((w1.setCell ⟨w.heap.size + 1 + 1, 0, none⟩ u).setCell ⟨w.heap.size + 1 + 1, 1, none⟩ v).heap[w.heap.size + 1 + 1]? = some (.cells #[u, v] U (0, 0)) ∧ Below w.heap.size w ((w1.setCell ⟨w.heap.size + 1 + 1, 0, none⟩ u).setCell ⟨w.heap.size + 1 + 1, 1, none⟩ v) :=
 ⟨cF _ _ h.res, (h.bel.setCell (by show _ ≤ w.heap.size + 1 + 1; omega) _).setCell (by show _ ≤ w.heap.size + 1 + 1; omega) _⟩
theorem H6 (w : World) (lo hi : Nat) (a : Option Addr) : Own w lo hi a 0 [] := ⟨rfl, fun h => absurd h (by omega)⟩
theorem aBu {a b : aA} : iW a b = iW b a := by
 rcases h : iW a b with _ | _
 ·rcases h2 : iW b a with _ | _
  ·rfl
  ·have e := G7 h2
   rw [e] at h; have := aBt b a.undos; have h3 : iW (b.with a.undos) b = iW b (b.with a.undos) := by unfold iW aA.with; simp
   rw [h3, this] at h; cases h
 ·have e := G7 h
  rw [e]; have h3 : iW (a.with b.undos) a = iW a (a.with b.undos) := by unfold iW aA.with; simp
  rw [h3]; exact (aBt a b.undos).symm
def mG (ob : Nat) (zv : Option Addr) (zc : Nat) (zs : List Int) (F : Nat → Nat → aA) (w2 wr : World) (d s : Nat) : Prop :=
 ∃ oa oc, wr.heap[ob]? = some (.cells #[.slice zv 4 zc, .slice oa (eE zs F d s).length oc] 27 (0, 0)) ∧ wr.ownsRow (ob + 1) 50 8 (.slice oa (eE zs F d s).length oc) (eE zs F d s).length (aH (eE zs F d s)) ∧ Below ob w2 wr
def okP (l m : List aA) (d s : Nat) : Prop := ∀ a b, kX l (d : Int) ((s : Int) + 1) = some a → kX m (d : Int) ((s : Int) + 1) = some b → iW a b = true
theorem uY {P : Program} {o : Oper} {a : Act} {w : World} {K : Act → World → Prop} {Q : Exit → Act → World → Prop} (x y : Operand) (ts : Array TypeId) (dX : o.op = Op.call { callee := Callee.builtin Builtin.append, args := #[x, y], argTypes := ts }) (v1 v2 : Value) {v' : Value} {w' : World} (h1 : a.eval x = v1) (h2 : a.eval y = v2)
  (hrun : (Builtin.append_ ts o.type #[v1, v2]).run P w = .ok v' w') (hK : K (a.put o.dst v') w') : Oper.wp P o a w K Q := by
 unfold Oper.wp
 simp [execOp, dX, resolve, invoke, builtin, h1, h2, hrun, Result.andThen]
 exact hK
theorem aGs (zs : List Int) (F : Nat → Nat → aA) (d s : Nat) {i : Nat} (hi : i < (eE zs F d s).length) : ∃ e t, aB (eE zs F d s) i = F e t := by
 have hm : (eE zs F d s)[i] ∈ eE zs F d s := List.getElem_mem hi
 have ha : aB (eE zs F d s) i = (eE zs F d s)[i] := by unfold aB; rw [List.getD_eq_getElem?_getD, List.getElem?_eq_getElem hi]; rfl
 rw [ha]
 unfold eE at hm ⊢
 rcases List.mem_append.1 hm with h | h
 ·obtain ⟨e, _, h2⟩ := List.mem_flatMap.1 h
  obtain ⟨t, _, h3⟩ := List.mem_map.1 h2; exact ⟨e, t, h3.symm⟩
 ·obtain ⟨t, _, h3⟩ := List.mem_map.1 h
  exact ⟨d, t, h3.symm⟩
theorem tR.low {w w1 w2 : World} {x y z : Array Value} {S T U : TypeId} {B : Nat} (h : tR w w1 x y z S T U) (hb : Below B w1 w2) (hB : w.heap.size + 1 + 1 < B) : tR w w2 x y z S T U :=
 ⟨(hb.block _ (by omega)).trans h.fst, (hb.block _ (by omega)).trans h.snd, (hb.block _ hB).trans h.res, h.bel.trans (hb.mono (by omega))⟩
theorem aJ7 {zs : List Int} {l m : List aA} {ys : List Int} (h2 : aD ys m = true) (hz : ∀ d, d < 4 → ys.getD d 0 ≤ zs.getD d 0) (h : ∀ d, d < 4 → ∀ s : Nat, (s : Int) < zs.getD d 0 → okP l m d s) : qP l m = true :=
 aJ8 fun i hi => by
  obtain ⟨d, hd, _, _, _, h3, _⟩ := pW h2 hi; have hq := aDf h2 hi h3; have hzd := hz d hd; obtain ⟨s, hs⟩ : ∃ s : Nat, (s : Int) + 1 = (aB m i).seq := ⟨((aB m i).seq - 1).toNat, by omega⟩
  have hp := h d hd s (by omega)
  unfold okP at hp; rw [← h3, hs] at hp; have hm : kX m (aB m i).dev (aB m i).seq = some (aB m i) := uK (pP h2) m.length aPw i hi; rcases hg : kX l (aB m i).dev (aB m i).seq with _ | a
  ·exact aHA hg
  ·rw [m8 hg, aBu]
   exact hp a _ hg hm
theorem aHy {l m : List aA} {d s : Nat} {a b : aA} {k : Nat} (hk : k < m.length) (hb : aB m k = b) (e : b.dev = (d : Int) ∧ b.seq = (s : Int) + 1) (ha : kX l (d : Int) ((s : Int) + 1) = some a) (h : iW a b = false) : qP l m = false :=
 aHz hk (by rw [m8 (y := a) (by rw [hb, e.1, e.2]; exact ha), hb, aBu]; exact h)
def uO (xs ys : List Int) (ok : Bool) : List Int := if ok = true then lK xs ys else []
def yH (xs ys : List Int) (l m : List aA) (ok : Bool) : List aA := if ok = true then Q4 (lK xs ys) l m else []
set_option linter.unusedSimpArgs false in
set_option maxHeartbeats 80000000 in
theorem aHU (w : World) (B : Nat) (av ao bv bo : Option Addr) (nv cv no co mv dv mo eo : Nat) (xs : List Int) (l : List aA) (ys : List Int) (m : List aA) (hx : Ints w B av nv xs) (h : bK w B ao no l) (hy : Ints w B bv mv ys) (g : bK w B bo mo m) (hB : B ≤ w.heap.size) (hv : nv ≤ 1048576) (hn : no ≤ 1048576) (hm : ∀ i, i < no → (aB l i).item.size ≤ 1048576) (wM : mv ≤ 1048576) (vJ : mo ≤ 1048576) (nP : ∀ i, i < mo → (aB m i).item.size ≤ 1048576) (hca : aD xs l = true) (hcb : aD ys m = true) :
  Calls Tryz.prog 131 #[.agg #[.slice av nv cv, .slice ao no co], .agg #[.slice bv mv dv, .slice bo mo eo]] w (aB3 (qP l m) (uO xs ys (qP l m)) (yH xs ys l m (qP l m)) w) := by
 obtain ⟨i0, hi, gI, jK, jB⟩ := info_parts Tryz.infoOp
 have hT := tR.mk0 w #[.slice av nv cv, .slice ao no co] #[.slice bv mv dv, .slice bo mo eo] #[.slice none 0 0, .slice none 0 0] 27 27 27
 have HV := aPu (hx.below hT.bel hB)
 have HO := aPu (h.below hT.bel hB)
 have HY := aPu (hy.below hT.bel hB)
 have HG := aPu (g.below hT.bel hB)
 have HT := aPu hT
 have HL := aPu h.1
 have W3 := aPu g.1
 have hvA := (fX hca).1
 have hvB := (fX hcb).1
 have hv4 := (eM hvA (d := 0) (by omega)).2.2
 have aLf := (eM hvB (d := 0) (by omega)).2.2
 have HVm := aPu (aAS hvA hvB)
 have HZv : Hid (D9 max xs ys = lK xs ys) := by show _ = _; rw [aAa (by rw [hvA, hvB]; rfl)]; rfl
 have hz4 : (lK xs ys).length = 4 := (eM HVm.out (d := 0) (by omega)).2.2
 have HZd : Hid (∀ d, d < 4 → (lK xs ys).getD d 0 = max (xs.getD d 0) (ys.getD d 0)) := fun d hd => aAT hv4 aLf hd
 have G4 : Hid (∀ d s, (dE l m d s).item.size ≤ 1048576) := fun d s => aDS (N := 1048576) (fun i hi => hm i (by rw [← h.1]; exact hi)) (fun i hi => nP i (by rw [← g.1]; exact hi)) d s
 have oQ := aPu hca
 have vY := aPu hcb
 have HVd := aPu (fun d (hd : d < 4) => eM (aAS hvA hvB) hd)
 have hBw := hB
 clear hx h hy g hT hB hm nP hca hcb hvA hvB hv4 aLf
 go_enter Tryz.func131, Tryz.ntmps131
 go_wp2_with fail
 generalize ((w.alloc (.cells #[.slice av nv cv, .slice ao no co] 27)).alloc (.cells #[.slice bv mv dv, .slice bo mo eo] 27)).alloc (.cells #[.slice none 0 0, .slice none 0 0] 27) = w0 at HV HO HY HG HT ⊢
 have aE1 := HT.out.bel.size
 have qG := bS HT.out.res
 refine (aHm w0 B B av bv nv cv mv dv xs ys HV.out HY.out (by omega) (by omega) hv wM).mono ?_
 rintro e w1 ⟨zv, zc, rfl, aY, aE, hcz⟩
 rw [HZv.out, hz4] at aY hcz ⊢
 have HCz := aPu hcz
 clear hcz
 have cI := aPu (HO.out.below aE (by omega))
 have sM := aPu (HG.out.below aE (by omega))
 have aT := aPu (HT.out.next aE)
 have HZ1 := aPu aY
 have dZ := aE.size
 clear aE HV HO HY HG HT aY HZv
 go_upto_region 2 with fail
 have aG : Below w1.heap.size w1 (w1.alloc (.cells #[.slice zv 4 zc, .slice none 0 0] 27)) := bl
 have nT := aPu (bE (Below.refl _ (w1.alloc (.cells #[.slice zv 4 zc, .slice none 0 0] 27))))
 have fZ := aPu (cI.out.below aG (by omega))
 have W6 := aPu (sM.out.below aG (by omega))
 have aJ := aPu (aT.out.next aG)
 have U3 := aPu (HZ1.out.below aG aPw)
 generalize w1.alloc (.cells #[.slice zv 4 zc, .slice none 0 0] 27) = w2 at aG nT fZ W6 aJ U3 ⊢
 have dS := aG.size
 have S0 := bS nT.out
 generalize tE : w1.heap.size = ob at nT dS S0 dZ U3 ⊢
 clear aG cI sM aT HZ1 tE
 have aMp : Hid (mG ob zv zc (lK xs ys) (dE l m) w2 w2 0 0) := ⟨none, 0, nT.out, ⟨rfl, .inl ⟨rfl, rfl⟩⟩, Below.refl _ _⟩
 generalize lP : lK xs ys = zs at *
 go_wp2
 go_loopw [7] (fun i wr => ∃ d : Nat, d ≤ 4 ∧ i = .int .i64 (d : Int) ∧ Hid (mG ob zv zc zs (dE l m) w2 wr d 0) ∧ Hid (∀ e, e < d → ∀ s : Nat, (s : Int) < zs.getD e 0 → okP l m e s)) (fun i _ => 4 - (intOf i).toNat)
 case atStart => exact ⟨0, by omega, rfl, aMp, aPu (fun e he => absurd he (by omega))⟩
 case round =>
  obtain ⟨d, hd, rfl, HOu, lV⟩ := hrel; clear aMp nT
  by_cases aK : d < 4
  rotate_left
  ·obtain rfl : d = 4 := by omega
   obtain ⟨oa, oc, C7, jL, uQ⟩ := HOu.out; have hok : qP l m = true := aJ7 vY.out (fun d hd => by rw [HZd.out d hd]; omega) lV.out
   have aOj := aPu hok; have HCm : Hid (aD zs (eE zs (dE l m) 4 0) = true) := by
    show _ = _
    rw [← lP]; exact i8 oQ.out vY.out hok
   have HMv : Hid (uO xs ys (qP l m) = zs) := by show _ = _; rw [hok, ← lP]; rfl
   have HMo : Hid (yH xs ys l m (qP l m) = eE zs (dE l m) 4 0) := by show _ = _; rw [hok, ← lP]; rfl
   have kU : (eE zs (dE l m) 4 0).length ≤ 1048576 := by
    rw [rX]; have h2 := E0 HVm.out 4 (by omega)
    omega
   have aMG : Hid (∀ i, i < (eE zs (dE l m) 4 0).length → (aB (eE zs (dE l m) 4 0) i).item.size ≤ 1048576) := fun i hi => by
    obtain ⟨d, s, e⟩ := aGs zs (dE l m) 4 0 hi; rw [e]; exact G4.out d s
   have B8 := aPu C7; have rQ := aPu jL; have l6 := aPu uQ; have nJ := aPu (aJ.out.low uQ (by omega))
   have HZr := aPu (U3.out.below uQ aPw); have aNP : ob < wr.heap.size := bS C7; clear C7 jL uQ HOu hok lP oQ vY lV U3 HZd G4; generalize eE zs (dE l m) 4 0 = L at B8 rQ HCm HMo aMG kU; have aMs := aPu (eG rQ.out (Nat.le_refl wr.heap.size)); have oP := aPu (gB rQ.out); obtain ⟨z0, dA⟩ : ∃ z0, wr.drew = z0 := ⟨_, rfl⟩; have hS : z0.cell? ⟨ob, 0, none⟩ = some (.slice zv 4 zc) ∧ z0.cell? ⟨ob, 1, none⟩ = some (.slice oa L.length oc) := by rw [← dA]; exact pair_cells B8.out
   have j3 : Hid (tR w z0 #[.slice av nv cv, .slice ao no co] #[.slice bv mv dv, .slice bo mo eo] #[.slice none 0 0, .slice none 0 0] 27 27 27) := by rw [← dA]; exact ⟨nJ.out.fst, nJ.out.snd, nJ.out.res, ⟨nJ.out.bel.os, nJ.out.bel.tape, nJ.out.bel.output, nJ.out.bel.size, nJ.out.bel.block⟩⟩
   have HZ0 : Hid (Own z0 w0.heap.size ob zv 4 zs) := by rw [← dA]; exact HZr.out.kept (w' := wr.drew) fun _ _ _ => rfl
   have HO0 : Hid (bB z0 (ob + 1) z0.heap.size oa L.length L) := by rw [← dA]; exact aMs.out.kept (w' := wr.drew) fun _ _ _ => rfl
   have aIc : ob ≤ z0.heap.size := by rw [← dA]; exact Nat.le_of_lt aNP
   clear B8 rQ nJ HZr aMs
   go_upto_region 19 with fail
   go_wp2_with fail
   refine wp_region_held_drew (S := fun w' => w'.cell? ⟨ob, 0, none⟩ = some (.slice zv 4 zc) ∧ w'.cell? ⟨ob, 1, none⟩ = some (.slice oa L.length oc)) (by kernel_rfl) (by rw [dA]; exact hS) (fun aP => ?_)
   rw [dA]; clear aP; refine tj 0 ?_
   refine tj 1 ?_
   refine rk 2 rfl (fun K hK => ?_)
   go_simp
   go_at_call 36
   refine (sR z0 z0.heap.size zv oa 4 zc L.length oc zs L (HZ0.out.ints.more aIc) HO0.out.ops aPw (by omega) kU aMG.out).mono ?_
   rintro e w5 ⟨rfl, aU⟩; rw [HCm.out]; have F5 : w5.cell? ⟨ob, 0, none⟩ = some (.slice zv 4 zc) ∧ w5.cell? ⟨ob, 1, none⟩ = some (.slice oa L.length oc) := ⟨(aU.cell (block_lt_of_cell hS.1)).trans hS.1, (aU.cell (block_lt_of_cell hS.2)).trans hS.2⟩; refine hK.out _ _ F5 (fun bG => ?_)
   clear hK K
   (try simp only [Act.put, u1, u2, u3])
   have uI := aPu (j3.out.next aU); have HZ5 := aPu (HZ0.out.below aU aIc); have zJ := aPu ((HO0.out.below aU aPw).more aPw aU.size); have aOR : ob ≤ w5.heap.size := Nat.le_trans aIc aU.size; obtain ⟨r0, r1⟩ := pair_cells uI.out.res; obtain ⟨fz0, fz1⟩ := aC uI.out.res; have hrl := bS aJ.out.res; have hS6 : ((w5.setCell ⟨w.heap.size + 1 + 1, 0, none⟩ (.slice zv 4 zc)).setCell ⟨w.heap.size + 1 + 1, 1, none⟩ (.slice oa L.length oc)).cell? ⟨ob, 0, none⟩ = some (.slice zv 4 zc) ∧ ((w5.setCell ⟨w.heap.size + 1 + 1, 0, none⟩ (.slice zv 4 zc)).setCell ⟨w.heap.size + 1 + 1, 1, none⟩ (.slice oa L.length oc)).cell? ⟨ob, 1, none⟩ = some (.slice oa L.length oc) := ⟨(cell_of_block (aF _ _ (by omega))).trans F5.1, (cell_of_block (aF _ _ (by omega))).trans F5.2⟩
   have oO := aPu (uI.out.set2S (.slice zv 4 zc) (.slice oa L.length oc)).1; have nM := aPu (uI.out.set2S (.slice zv 4 zc) (.slice oa L.length oc)).2; have aE0 : ((w5.setCell ⟨w.heap.size + 1 + 1, 0, none⟩ (.slice zv 4 zc)).setCell ⟨w.heap.size + 1 + 1, 1, none⟩ (.slice oa L.length oc)).heap.size = w5.heap.size := aZ _ _ _ _; have HZ6 : Hid (Own ((w5.setCell ⟨w.heap.size + 1 + 1, 0, none⟩ (.slice zv 4 zc)).setCell ⟨w.heap.size + 1 + 1, 1, none⟩ (.slice oa L.length oc)) w0.heap.size ob zv 4 zs) := HZ5.out.kept fun j h1 h2 => aF _ _ (by omega)
   have HO6 : Hid (bB ((w5.setCell ⟨w.heap.size + 1 + 1, 0, none⟩ (.slice zv 4 zc)).setCell ⟨w.heap.size + 1 + 1, 1, none⟩ (.slice oa L.length oc)) (ob + 1) w5.heap.size oa L.length L) := zJ.out.kept fun j h1 h2 => aF _ _ (by omega)
   refine rk 3 rfl (fun K hK => ?_)
   go_simp
   refine hK.out _ _ hS6 (fun yW => ?_)
   clear hK K
   (try simp only [Act.put, u1, u2, u3])
   refine tj 4 ?_
   refine wpAnyH_done (by kernel_rfl) ?_ _
   clear hS F5 hS6 bG yW aU j3 HZ0 HO0 uI HZ5 zJ r0 r1 fz0 fz1; generalize (w5.setCell ⟨w.heap.size + 1 + 1, 0, none⟩ (.slice zv 4 zc)).setCell ⟨w.heap.size + 1 + 1, 1, none⟩ (.slice oa L.length oc) = wf at oO nM HZ6 HO6 aE0 ⊢; obtain ⟨q0, q1⟩ := pair_cells oO.out; go_wp2
   exact bodyPost_ret (v := .tuple #[.agg #[.slice zv 4 zc, .slice oa L.length oc], .bool true]) (by simp [results, Tryz.results131, go_sem, q0, q1]) rfl ⟨zv, zc, oa, oc, by rw [HMv.out, HMo.out, aOj.out, hz4], by rw [HMv.out, hz4]; exact HZ6.out.more (by omega) (by omega), by rw [HMo.out]; exact HO6.out.more (by omega) (by omega), nM.out, by rw [HMv.out, hz4]; exact HCz.out, by rw [HMo.out]; exact oP.out⟩
  obtain ⟨g1, g2, _⟩ := HVd.out d aK; obtain ⟨q, hq⟩ := Int.eq_ofNat_of_zero_le g1; have hdi : (d : Int) < 4 := by omega
  have aMq : Hid (Below ob w2 wr) := by obtain ⟨_, _, _, _, h⟩ := HOu.out; exact h
  have HZc : Hid (∀ vb vo, zv = some ⟨vb, vo, none⟩ → w2.cell? ⟨vb, vo + d, none⟩ = some (.int .i64 (q : Int))) := fun vb vo e => by
   obtain ⟨vb', vo', e', _, hc⟩ := U3.out.ints.2 d aK; rw [e] at e'; cases e'; rw [hq] at hc; exact hc
  have HZr := aPu (U3.out.ints.below aMq.out aPw); obtain ⟨vb, vo, rfl, hvb, _⟩ := HZr.out.2 d aK; clear HZr; go_wp2
  go_loopw [8] (fun sq wr => ∃ s : Nat, s ≤ q ∧ sq = .int .i64 ((s : Int) + 1) ∧ Hid (mG ob (some ⟨vb, vo, none⟩) zc zs (dE l m) w2 wr d s) ∧ Hid (∀ e, e < s → okP l m d e)) (fun sq _ => q + 1 - (intOf sq).toNat)
  case atStart => exact ⟨0, Nat.zero_le _, rfl, HOu, aPu (fun e he => absurd he (by omega))⟩
  case round =>
   obtain ⟨s, hsq, rfl, aMr, aMv⟩ := hrel; clear HOu aMq; obtain ⟨oa, oc, C7, jL, uQ⟩ := aMr.out; have B8 := aPu C7; have rQ := aPu jL; have l6 := aPu uQ; have aE4 := bS C7; have nJ := aPu (aJ.out.low uQ (by omega))
   have HOr := aPu (fZ.out.below uQ (by omega))
   have W5 := aPu (W6.out.below uQ (by omega))
   have c0 := (uQ.cell (p := ⟨vb, vo + d, none⟩) hvb).trans (HZc.out vb vo rfl); obtain ⟨o0, o1⟩ := pair_cells C7; clear C7 jL uQ aMr
   by_cases hls : s < q
   rotate_left
   ·obtain rfl : s = q := by omega
    have aN1 : ¬ ((s : Int) + 1 ≤ (s : Int)) := by omega
    have sH : Hid (mG ob (some ⟨vb, vo, none⟩) zc zs (dE l m) w2 wr (d + 1) 0) := by
     show mG _ _ _ _ _ _ _ _ _
     unfold mG; rw [xA, hq]; exact ⟨oa, oc, B8.out, rQ.out, l6.out⟩
    have aOg : Hid (∀ e, e < d + 1 → ∀ s : Nat, (s : Int) < zs.getD e 0 → okP l m e s) := fun e he t ht => by
     rcases Nat.lt_or_ge e d with h1 | h1
     ·exact lV.out e h1 t ht
     ·obtain rfl : e = d := by omega
      exact aMv.out t (by rw [hq] at ht; omega)
    clear B8 rQ l6; go_wp2
    go_roundw
    case rel => exact ⟨d + 1, by omega, by go_num, sH, aOg⟩
    case measure => simp [intOf]; omega
   have aN1 : (s : Int) + 1 ≤ (q : Int) := by omega
   have hmx := HZd.out d aK; rw [hq] at hmx; have HMx := aPu hmx; clear hmx; have bZ := aPu (wZ zs (dE l m) d s); have kU : (eE zs (dE l m) d s).length ≤ 1048576 := by
    rw [rX]; have h1 := hC zs d 4 (by omega)
    have h2 := E0 HVm.out 4 (by omega)
    omega
   have aJe : Hid (dE l m d s = mV l m (d : Int) ((s : Int) + 1)) := rfl; have aOm : Hid ((s : Int) < xs.getD d 0 → (∀ j, j < no → ¬ mM l j (d : Int) ((s : Int) + 1)) → False) := fun h1 h2 => by
    obtain ⟨h3, h4⟩ := zA oQ.out aK h1; exact h2 _ (by rw [← HL.out]; exact h3) h4
   have aOl : Hid ((s : Int) < ys.getD d 0 → (∀ j, j < mo → ¬ mM m j (d : Int) ((s : Int) + 1)) → False) := fun h1 h2 => by
    obtain ⟨h3, h4⟩ := zA vY.out aK h1; exact h2 _ (by rw [← W3.out]; exact h3) h4
   have aI5 : Hid (okP l m d s → ∀ e, e < s + 1 → okP l m d e) := fun h e he => by
    rcases Nat.lt_or_ge e s with h1 | h1
    ·exact aMv.out e h1
    ·obtain rfl : e = s := by omega
     exact h
   generalize eE zs (dE l m) d s = L at B8 rQ bZ kU o0 o1 ⊢; obtain ⟨a0, a1⟩ := pair_cells nJ.out.fst; obtain ⟨b0, b1⟩ := pair_cells nJ.out.snd
   go_wp2_with fail
   refine (aHV wr B ao no co l (d : Int) ((s : Int) + 1) HOr.out hn).mono ?_
   rintro e w5 ⟨hor, rfl⟩; rcases hor with ⟨i, pY, hie, rfl⟩ | ⟨iP, rfl⟩
   rotate_left
   ·have bY : kX l (d : Int) ((s : Int) + 1) = none := zU _ fun j hj => iP j (by rw [← HL.out]; exact hj)
    have tZ : (s : Int) < ys.getD d 0 := by
     have hmx := HMx.out; rcases Int.lt_or_le (s : Int) (xs.getD d 0) with h1 | h1
     ·exact (aOm.out h1 iP).elim
     ·omega
    have sJ := aPu iP; clear iP
    go_wp2_with fail
    refine (aHV wr B bo mo eo m (d : Int) ((s : Int) + 1) W5.out vJ).mono ?_
    rintro e w5 ⟨hor, rfl⟩; obtain ⟨k, hkm, hke, rfl⟩ : ∃ k : Nat, k < mo ∧ mM m k (d : Int) ((s : Int) + 1) ∧ e = .returned (.int .i64 (k : Int)) := hor.resolve_right (fun h => aOl.out tZ h.1)
    clear hor; obtain ⟨b2, aQ, rfl, aG, ho2⟩ := W5.out.2 k hkm; have vV : Hid (nI wr b2 (aQ + k * 8) (aB m k)) := ho2; have eC : kX m (d : Int) ((s : Int) + 1) = some (aB m k) := by
     have := uK (pP vY.out) m.length aPw k (by rw [W3.out]; exact hkm)
     rw [hke.1, hke.2] at this; exact this
    have HFy : Hid (dE l m d s = aB m k) := by show _ = _; rw [aJe.out]; unfold mV; rw [bY, eC]
    have HE := aPu (aI5.out fun a b ha hb => by rw [bY] at ha; cases ha)
    have hki : (k : Int) < (mo : Int) := by omega
    clear ho2 bY eC hke tZ; generalize aB m k = y at vV HFy; obtain ⟨c0', T9, T8, c3', c4', c5', c6', c7'⟩ := vV.out; have hSw : wr.cell? ⟨w.heap.size + 1, 1, none⟩ = some (.slice (some ⟨b2, aQ, none⟩) mo eo) ∧ wr.cell? ⟨b2, aQ + k * 8, none⟩ = some (.int .i64 y.dev) ∧ wr.cell? ⟨b2, aQ + k * 8 + 1, none⟩ = some (.int .i64 y.seq) ∧ wr.cell? ⟨b2, aQ + k * 8 + 2, none⟩ = some (.int .i64 y.stamp) ∧ wr.cell? ⟨b2, aQ + k * 8 + 3, none⟩ = some (.int .i64 y.kind) ∧ wr.cell? ⟨b2, aQ + k * 8 + 4, none⟩ = some (.string y.item) ∧ wr.cell? ⟨b2, aQ + k * 8 + 5, none⟩ = some (.int .i64 y.qty) ∧ wr.cell? ⟨b2, aQ + k * 8 + 6, none⟩ = some (.int .i64 y.level) ∧ wr.cell? ⟨b2, aQ + k * 8 + 7, none⟩ = some (.int .i64 y.undos) := ⟨b1, c0', T9, T8, c3', c4', c5', c6', c7'⟩; clear a0 a1 b0 b1 c0 o0 o1 c0' T9 T8 c3' c4' c5' c6' c7' vV
    go_upto_region 14 with fail
    obtain ⟨z0, dA⟩ : ∃ z0, wr.drew = z0 := ⟨_, rfl⟩; have hS : z0.cell? ⟨w.heap.size + 1, 1, none⟩ = some (.slice (some ⟨b2, aQ, none⟩) mo eo) ∧ z0.cell? ⟨b2, aQ + k * 8, none⟩ = some (.int .i64 y.dev) ∧ z0.cell? ⟨b2, aQ + k * 8 + 1, none⟩ = some (.int .i64 y.seq) ∧ z0.cell? ⟨b2, aQ + k * 8 + 2, none⟩ = some (.int .i64 y.stamp) ∧ z0.cell? ⟨b2, aQ + k * 8 + 3, none⟩ = some (.int .i64 y.kind) ∧ z0.cell? ⟨b2, aQ + k * 8 + 4, none⟩ = some (.string y.item) ∧ z0.cell? ⟨b2, aQ + k * 8 + 5, none⟩ = some (.int .i64 y.qty) ∧ z0.cell? ⟨b2, aQ + k * 8 + 6, none⟩ = some (.int .i64 y.level) ∧ z0.cell? ⟨b2, aQ + k * 8 + 7, none⟩ = some (.int .i64 y.undos) := ⟨by rw [← dA]; exact hSw.1, by rw [← dA]; exact hSw.2.1, by rw [← dA]; exact hSw.2.2.1, by rw [← dA]; exact hSw.2.2.2.1, by rw [← dA]; exact hSw.2.2.2.2.1, by rw [← dA]; exact hSw.2.2.2.2.2.1, by rw [← dA]; exact hSw.2.2.2.2.2.2.1, by rw [← dA]; exact hSw.2.2.2.2.2.2.2.1, by rw [← dA]; exact hSw.2.2.2.2.2.2.2.2⟩
    have ob0 : Hid (z0.heap[ob]? = some (.cells #[.slice (some ⟨vb, vo, none⟩) 4 zc, .slice oa L.length oc] 27 (0, 0))) := by rw [← dA]; exact B8.out
    have aCq : z0.ownsRow (ob + 1) 50 8 (.slice oa L.length oc) L.length (aH L) := by rw [← dA]; exact rQ.out
    have aHB : ob < z0.heap.size := by rw [← dA]; exact aE4
    have aC8 : Hid (Below ob wr z0) := by rw [← dA]; exact ⟨rfl, rfl, rfl, Nat.le_refl _, fun _ _ => rfl⟩
    have o1 := (pair_cells ob0.out).2; have xX := aCq.alloc (.cells #[.int .i64 y.dev, .int .i64 y.seq, .int .i64 y.stamp, .int .i64 y.kind, .string y.item, .int .i64 y.qty, .int .i64 y.level, .int .i64 y.undos] 50); have dH : Below ob z0 (z0.alloc (.cells #[.int .i64 y.dev, .int .i64 y.seq, .int .i64 y.stamp, .int .i64 y.kind, .string y.item, .int .i64 y.qty, .int .i64 y.level, .int .i64 y.undos] 50)) := (Below.refl ob z0).alloc (by omega) _
    obtain ⟨v', z2, hrun, gF, iR, _⟩ := run_append_own (P := Tryz.prog) (z0.alloc (.cells #[.int .i64 y.dev, .int .i64 y.seq, .int .i64 y.stamp, .int .i64 y.kind, .string y.item, .int .i64 y.qty, .int .i64 y.level, .int .i64 y.undos] 50)) (ob + 1) 25 25 50 i0 (.agg #[.int .i64 0, .int .i64 0, .int .i64 0, .int .i64 0, .string ⟨#[]⟩, .int .i64 0, .int .i64 0, .int .i64 0]) 8 72 Tryz.underlying25 hi gI jK jB rfl (by decide) _ _ _ xX ⟨z0.heap.size, 0, none⟩ 1 1 (bR y) rfl (zY z0 y) (fun u hu => iG [y] u (by show u ∈ bR y ++ []; rw [List.append_nil]; exact hu)) (by unfold maxLen; omega) (by omega) (by show _ ≤ (z0.heap.push _).size; simp; omega)
    have dY : Below ob z0 z2 := dH.grown iR (Nat.le_trans (by omega) dH.size) (fun q hq => by have := (xX.lt q hq).1; omega)
    obtain ⟨eO, eN, rfl⟩ : ∃ eO eN, v' = .slice eO (L.length + 1) eN := by
     rcases gF.2 with ⟨_, e2⟩ | ⟨_, c2, _, e2, _⟩
     ·omega
     ·exact ⟨_, c2, e2⟩
    have ob1 : Hid ((z0.alloc (.cells #[.int .i64 y.dev, .int .i64 y.seq, .int .i64 y.stamp, .int .i64 y.kind, .string y.item, .int .i64 y.qty, .int .i64 y.level, .int .i64 y.undos] 50)).heap[ob]? = some (.cells #[.slice (some ⟨vb, vo, none⟩) 4 zc, .slice oa L.length oc] 27 (0, 0))) := (Below.heap_alloc _ _ _ aHB).trans ob0.out; have Q0 : Hid (z2.heap[ob]? = some (.cells #[.slice (some ⟨vb, vo, none⟩) 4 zc, .slice oa L.length oc] 27 (0, 0))) := (iR.block ob (by show _ < (z0.heap.push _).size; simp; omega) (fun h => by have := (xX.lt ob h.symm).1; omega)).trans ob1.out
    have o11 := (pair_cells ob1.out).2; have o12 := (pair_cells Q0.out).2; have fz2 := (aC Q0.out).2; have xM : Hid ((z2.setCell ⟨ob, 1, none⟩ (.slice eO (L.length + 1) eN)).heap[ob]? = some (.cells #[.slice (some ⟨vb, vo, none⟩) 4 zc, .slice eO (L.length + 1) eN] 27 (0, 0))) := heap_setCell_same _ _ _ _ _ _ Q0.out; have xL : Hid ((z2.setCell ⟨ob, 1, none⟩ (.slice eO (L.length + 1) eN)).ownsRow (ob + 1) 50 8 (.slice eO (L.length + 1) eN) (L.length + 1) (aH L ++ bR y)) := X7 gF (fun q hq => by have := (gF.lt q hq).1; omega)
    have kA : Below ob z0 (z2.setCell ⟨ob, 1, none⟩ (.slice eO (L.length + 1) eN)) := dY.setCell aPw _; have xN : Hid (Below ob wr (z2.setCell ⟨ob, 1, none⟩ (.slice eO (L.length + 1) eN))) := aC8.out.trans kA; have hSd : z0.cell? ⟨w.heap.size + 1, 1, none⟩ = some (.slice (some ⟨b2, aQ, none⟩) mo eo) ∧ z0.cell? ⟨b2, aQ + k * 8, none⟩ = some (.int .i64 y.dev) ∧ z0.cell? ⟨b2, aQ + k * 8 + 1, none⟩ = some (.int .i64 y.seq) ∧ z0.cell? ⟨b2, aQ + k * 8 + 2, none⟩ = some (.int .i64 y.stamp) ∧ z0.cell? ⟨b2, aQ + k * 8 + 3, none⟩ = some (.int .i64 y.kind) ∧ z0.cell? ⟨b2, aQ + k * 8 + 4, none⟩ = some (.string y.item) ∧ z0.cell? ⟨b2, aQ + k * 8 + 5, none⟩ = some (.int .i64 y.qty) ∧ z0.cell? ⟨b2, aQ + k * 8 + 6, none⟩ = some (.int .i64 y.level) ∧ z0.cell? ⟨b2, aQ + k * 8 + 7, none⟩ = some (.int .i64 y.undos) := hS; have dM : (z0.alloc (.cells #[.int .i64 y.dev, .int .i64 y.seq, .int .i64 y.stamp, .int .i64 y.kind, .string y.item, .int .i64 y.qty, .int .i64 y.level, .int .i64 y.undos] 50)).cell? ⟨w.heap.size + 1, 1, none⟩ = some (.slice (some ⟨b2, aQ, none⟩) mo eo) ∧ (z0.alloc (.cells #[.int .i64 y.dev, .int .i64 y.seq, .int .i64 y.stamp, .int .i64 y.kind, .string y.item, .int .i64 y.qty, .int .i64 y.level, .int .i64 y.undos] 50)).cell? ⟨b2, aQ + k * 8, none⟩ = some (.int .i64 y.dev) ∧ (z0.alloc (.cells #[.int .i64 y.dev, .int .i64 y.seq, .int .i64 y.stamp, .int .i64 y.kind, .string y.item, .int .i64 y.qty, .int .i64 y.level, .int .i64 y.undos] 50)).cell? ⟨b2, aQ + k * 8 + 1, none⟩ = some (.int .i64 y.seq) ∧ (z0.alloc (.cells #[.int .i64 y.dev, .int .i64 y.seq, .int .i64 y.stamp, .int .i64 y.kind, .string y.item, .int .i64 y.qty, .int .i64 y.level, .int .i64 y.undos] 50)).cell? ⟨b2, aQ + k * 8 + 2, none⟩ = some (.int .i64 y.stamp) ∧ (z0.alloc (.cells #[.int .i64 y.dev, .int .i64 y.seq, .int .i64 y.stamp, .int .i64 y.kind, .string y.item, .int .i64 y.qty, .int .i64 y.level, .int .i64 y.undos] 50)).cell? ⟨b2, aQ + k * 8 + 3, none⟩ = some (.int .i64 y.kind) ∧ (z0.alloc (.cells #[.int .i64 y.dev, .int .i64 y.seq, .int .i64 y.stamp, .int .i64 y.kind, .string y.item, .int .i64 y.qty, .int .i64 y.level, .int .i64 y.undos] 50)).cell? ⟨b2, aQ + k * 8 + 4, none⟩ = some (.string y.item) ∧ (z0.alloc (.cells #[.int .i64 y.dev, .int .i64 y.seq, .int .i64 y.stamp, .int .i64 y.kind, .string y.item, .int .i64 y.qty, .int .i64 y.level, .int .i64 y.undos] 50)).cell? ⟨b2, aQ + k * 8 + 5, none⟩ = some (.int .i64 y.qty) ∧ (z0.alloc (.cells #[.int .i64 y.dev, .int .i64 y.seq, .int .i64 y.stamp, .int .i64 y.kind, .string y.item, .int .i64 y.qty, .int .i64 y.level, .int .i64 y.undos] 50)).cell? ⟨b2, aQ + k * 8 + 6, none⟩ = some (.int .i64 y.level) ∧ (z0.alloc (.cells #[.int .i64 y.dev, .int .i64 y.seq, .int .i64 y.stamp, .int .i64 y.kind, .string y.item, .int .i64 y.qty, .int .i64 y.level, .int .i64 y.undos] 50)).cell? ⟨b2, aQ + k * 8 + 7, none⟩ = some (.int .i64 y.undos) := ⟨(dH.cell (by show w.heap.size + 1 < ob; omega)).trans hS.1, (dH.cell (by show b2 < ob; omega)).trans hS.2.1, (dH.cell (by show b2 < ob; omega)).trans hS.2.2.1, (dH.cell (by show b2 < ob; omega)).trans hS.2.2.2.1, (dH.cell (by show b2 < ob; omega)).trans hS.2.2.2.2.1, (dH.cell (by show b2 < ob; omega)).trans hS.2.2.2.2.2.1, (dH.cell (by show b2 < ob; omega)).trans hS.2.2.2.2.2.2.1, (dH.cell (by show b2 < ob; omega)).trans hS.2.2.2.2.2.2.2.1, (dH.cell (by show b2 < ob; omega)).trans hS.2.2.2.2.2.2.2.2⟩
    have eK : z2.cell? ⟨w.heap.size + 1, 1, none⟩ = some (.slice (some ⟨b2, aQ, none⟩) mo eo) ∧ z2.cell? ⟨b2, aQ + k * 8, none⟩ = some (.int .i64 y.dev) ∧ z2.cell? ⟨b2, aQ + k * 8 + 1, none⟩ = some (.int .i64 y.seq) ∧ z2.cell? ⟨b2, aQ + k * 8 + 2, none⟩ = some (.int .i64 y.stamp) ∧ z2.cell? ⟨b2, aQ + k * 8 + 3, none⟩ = some (.int .i64 y.kind) ∧ z2.cell? ⟨b2, aQ + k * 8 + 4, none⟩ = some (.string y.item) ∧ z2.cell? ⟨b2, aQ + k * 8 + 5, none⟩ = some (.int .i64 y.qty) ∧ z2.cell? ⟨b2, aQ + k * 8 + 6, none⟩ = some (.int .i64 y.level) ∧ z2.cell? ⟨b2, aQ + k * 8 + 7, none⟩ = some (.int .i64 y.undos) := ⟨(dY.cell (by show w.heap.size + 1 < ob; omega)).trans hS.1, (dY.cell (by show b2 < ob; omega)).trans hS.2.1, (dY.cell (by show b2 < ob; omega)).trans hS.2.2.1, (dY.cell (by show b2 < ob; omega)).trans hS.2.2.2.1, (dY.cell (by show b2 < ob; omega)).trans hS.2.2.2.2.1, (dY.cell (by show b2 < ob; omega)).trans hS.2.2.2.2.2.1, (dY.cell (by show b2 < ob; omega)).trans hS.2.2.2.2.2.2.1, (dY.cell (by show b2 < ob; omega)).trans hS.2.2.2.2.2.2.2.1, (dY.cell (by show b2 < ob; omega)).trans hS.2.2.2.2.2.2.2.2⟩
    have fV : (z2.setCell ⟨ob, 1, none⟩ (.slice eO (L.length + 1) eN)).cell? ⟨w.heap.size + 1, 1, none⟩ = some (.slice (some ⟨b2, aQ, none⟩) mo eo) ∧ (z2.setCell ⟨ob, 1, none⟩ (.slice eO (L.length + 1) eN)).cell? ⟨b2, aQ + k * 8, none⟩ = some (.int .i64 y.dev) ∧ (z2.setCell ⟨ob, 1, none⟩ (.slice eO (L.length + 1) eN)).cell? ⟨b2, aQ + k * 8 + 1, none⟩ = some (.int .i64 y.seq) ∧ (z2.setCell ⟨ob, 1, none⟩ (.slice eO (L.length + 1) eN)).cell? ⟨b2, aQ + k * 8 + 2, none⟩ = some (.int .i64 y.stamp) ∧ (z2.setCell ⟨ob, 1, none⟩ (.slice eO (L.length + 1) eN)).cell? ⟨b2, aQ + k * 8 + 3, none⟩ = some (.int .i64 y.kind) ∧ (z2.setCell ⟨ob, 1, none⟩ (.slice eO (L.length + 1) eN)).cell? ⟨b2, aQ + k * 8 + 4, none⟩ = some (.string y.item) ∧ (z2.setCell ⟨ob, 1, none⟩ (.slice eO (L.length + 1) eN)).cell? ⟨b2, aQ + k * 8 + 5, none⟩ = some (.int .i64 y.qty) ∧ (z2.setCell ⟨ob, 1, none⟩ (.slice eO (L.length + 1) eN)).cell? ⟨b2, aQ + k * 8 + 6, none⟩ = some (.int .i64 y.level) ∧ (z2.setCell ⟨ob, 1, none⟩ (.slice eO (L.length + 1) eN)).cell? ⟨b2, aQ + k * 8 + 7, none⟩ = some (.int .i64 y.undos) := ⟨(kA.cell (by show w.heap.size + 1 < ob; omega)).trans hS.1, (kA.cell (by show b2 < ob; omega)).trans hS.2.1, (kA.cell (by show b2 < ob; omega)).trans hS.2.2.1, (kA.cell (by show b2 < ob; omega)).trans hS.2.2.2.1, (kA.cell (by show b2 < ob; omega)).trans hS.2.2.2.2.1, (kA.cell (by show b2 < ob; omega)).trans hS.2.2.2.2.2.1, (kA.cell (by show b2 < ob; omega)).trans hS.2.2.2.2.2.2.1, (kA.cell (by show b2 < ob; omega)).trans hS.2.2.2.2.2.2.2.1, (kA.cell (by show b2 < ob; omega)).trans hS.2.2.2.2.2.2.2.2⟩
    clear hSw B8 rQ aCq aC8
    go_wp2_with fail
    refine wp_region_held_drew (S := fun w' => w'.cell? ⟨w.heap.size + 1, 1, none⟩ = some (.slice (some ⟨b2, aQ, none⟩) mo eo) ∧ w'.cell? ⟨b2, aQ + k * 8, none⟩ = some (.int .i64 y.dev) ∧ w'.cell? ⟨b2, aQ + k * 8 + 1, none⟩ = some (.int .i64 y.seq) ∧ w'.cell? ⟨b2, aQ + k * 8 + 2, none⟩ = some (.int .i64 y.stamp) ∧ w'.cell? ⟨b2, aQ + k * 8 + 3, none⟩ = some (.int .i64 y.kind) ∧ w'.cell? ⟨b2, aQ + k * 8 + 4, none⟩ = some (.string y.item) ∧ w'.cell? ⟨b2, aQ + k * 8 + 5, none⟩ = some (.int .i64 y.qty) ∧ w'.cell? ⟨b2, aQ + k * 8 + 6, none⟩ = some (.int .i64 y.level) ∧ w'.cell? ⟨b2, aQ + k * 8 + 7, none⟩ = some (.int .i64 y.undos)) (by kernel_rfl) (by rw [dA]; exact hS) (fun aP => ?_)
    rw [dA]; clear aP; refine tj 0 ?_
    refine tj 2 ?_
    refine tj 3 ?_
    refine tj 4 ?_
    refine tj 5 ?_
    refine tj 6 ?_
    refine wpAnyH_ready (rs := [1, 7]) (by kernel_rfl) (by simp) ?_
    refine AllReadyH.cons rfl (fun K hK => ?_) (AllReadyH.cons rfl (fun K hK => ?_) AllReadyH.nil)
    all_goals go_simp
    ·refine hK.out _ _ hSd (fun qW => ?_)
     clear hK K
     (try simp only [Act.put, u1, u2, u3])
     refine rk 7 rfl (fun K hK => ?_)
     go_simp
     refine hK.out _ _ dM (fun qX => ?_)
     clear hK K
     (try simp only [Act.put, u1, u2, u3])
     refine rk 8 rfl (fun K hK => ?_)
     rw [if_pos (by rfl)]
     refine uY _ _ _ rfl _ _ rfl rfl hrun ?_
     refine hK.out _ _ eK (fun tN => ?_)
     clear hK K
     (try simp only [Act.put, u1, u2, u3])
     refine tj 9 ?_
     refine rk 10 rfl (fun K hK => ?_)
     go_simp
     refine hK.out _ _ fV (fun qV => ?_)
     clear hK K
     (try simp only [Act.put, u1, u2, u3])
     refine wpAnyH_done (by kernel_rfl) ?_ _
     have sH : Hid (mG ob (some ⟨vb, vo, none⟩) zc zs (dE l m) w2 (z2.setCell ⟨ob, 1, none⟩ (.slice eO (L.length + 1) eN)) d (s + 1)) := by
      show mG _ _ _ _ _ _ _ _ _
      unfold mG; rw [bZ.out, HFy.out, iK, List.length_append]; exact ⟨eO, eN, xM.out, xL.out, l6.out.trans xN.out⟩
     clear xM xL xN hSd dM eK fV hS ob0 ob1 Q0 o1 o11 o12 fz2 hrun gF iR xX dH dY kA qX qW tN qV; go_wp2
     go_roundw
     case rel => exact ⟨s + 1, by omega, by go_num, sH, HE⟩
     case measure => simp [intOf]; omega
    ·refine hK.out _ _ dM (fun qW => ?_)
     clear hK K
     (try simp only [Act.put, u1, u2, u3])
     refine rk 1 rfl (fun K hK => ?_)
     go_simp
     refine hK.out _ _ dM (fun qX => ?_)
     clear hK K
     (try simp only [Act.put, u1, u2, u3])
     refine rk 8 rfl (fun K hK => ?_)
     rw [if_pos (by rfl)]
     refine uY _ _ _ rfl _ _ rfl rfl hrun ?_
     refine hK.out _ _ eK (fun tN => ?_)
     clear hK K
     (try simp only [Act.put, u1, u2, u3])
     refine tj 9 ?_
     refine rk 10 rfl (fun K hK => ?_)
     go_simp
     refine hK.out _ _ fV (fun qV => ?_)
     clear hK K
     (try simp only [Act.put, u1, u2, u3])
     refine wpAnyH_done (by kernel_rfl) ?_ _
     have sH : Hid (mG ob (some ⟨vb, vo, none⟩) zc zs (dE l m) w2 (z2.setCell ⟨ob, 1, none⟩ (.slice eO (L.length + 1) eN)) d (s + 1)) := by
      show mG _ _ _ _ _ _ _ _ _
      unfold mG; rw [bZ.out, HFy.out, iK, List.length_append]; exact ⟨eO, eN, xM.out, xL.out, l6.out.trans xN.out⟩
     clear xM xL xN hSd dM eK fV hS ob0 ob1 Q0 o1 o11 o12 fz2 hrun gF iR xX dH dY kA qX qW tN qV; go_wp2
     go_roundw
     case rel => exact ⟨s + 1, by omega, by go_num, sH, HE⟩
     case measure => simp [intOf]; omega
   have HXi : Hid (kX l (d : Int) ((s : Int) + 1) = some (aB l i)) := by
    show _ = _
    have := uK (pP oQ.out) l.length aPw i (by rw [HL.out]; exact pY)
    rw [hie.1, hie.2] at this; exact this
   obtain ⟨aX, aS, rfl, aPk, ho1⟩ := HOr.out.2 i pY; have G3 : Hid (nI wr aX (aS + i * 8) (aB l i)) := ho1; have hii : (i : Int) < (no : Int) := by omega
   have hi0 : ¬ ((i : Int) < 0) := by omega
   clear ho1 hie; generalize aB l i = x at HXi G3
   go_wp2_with fail
   refine (aHV wr B bo mo eo m (d : Int) ((s : Int) + 1) W5.out vJ).mono ?_
   rintro e w5 ⟨hor, rfl⟩; rcases hor with ⟨k, hkm, hke, rfl⟩ | ⟨iP, rfl⟩
   rotate_left
   ·have eC : kX m (d : Int) ((s : Int) + 1) = none := zU _ fun j hj => iP j (by rw [← W3.out]; exact hj)
    have HFy : Hid (dE l m d s = x) := by show _ = _; rw [aJe.out]; unfold mV; rw [HXi.out, eC]
    have HE := aPu (aI5.out fun a b ha hb => by rw [eC] at hb; cases hb)
    clear iP eC; obtain ⟨c0', T9, T8, c3', c4', c5', c6', c7'⟩ := G3.out; have hSw : wr.cell? ⟨w.heap.size, 1, none⟩ = some (.slice (some ⟨aX, aS, none⟩) no co) ∧ wr.cell? ⟨aX, aS + i * 8, none⟩ = some (.int .i64 x.dev) ∧ wr.cell? ⟨aX, aS + i * 8 + 1, none⟩ = some (.int .i64 x.seq) ∧ wr.cell? ⟨aX, aS + i * 8 + 2, none⟩ = some (.int .i64 x.stamp) ∧ wr.cell? ⟨aX, aS + i * 8 + 3, none⟩ = some (.int .i64 x.kind) ∧ wr.cell? ⟨aX, aS + i * 8 + 4, none⟩ = some (.string x.item) ∧ wr.cell? ⟨aX, aS + i * 8 + 5, none⟩ = some (.int .i64 x.qty) ∧ wr.cell? ⟨aX, aS + i * 8 + 6, none⟩ = some (.int .i64 x.level) ∧ wr.cell? ⟨aX, aS + i * 8 + 7, none⟩ = some (.int .i64 x.undos) := ⟨a1, c0', T9, T8, c3', c4', c5', c6', c7'⟩; clear a0 a1 b0 b1 c0 o0 o1 c0' T9 T8 c3' c4' c5' c6' c7' G3
    go_upto_region 16 with fail
    obtain ⟨z0, dA⟩ : ∃ z0, wr.drew = z0 := ⟨_, rfl⟩; have hS : z0.cell? ⟨w.heap.size, 1, none⟩ = some (.slice (some ⟨aX, aS, none⟩) no co) ∧ z0.cell? ⟨aX, aS + i * 8, none⟩ = some (.int .i64 x.dev) ∧ z0.cell? ⟨aX, aS + i * 8 + 1, none⟩ = some (.int .i64 x.seq) ∧ z0.cell? ⟨aX, aS + i * 8 + 2, none⟩ = some (.int .i64 x.stamp) ∧ z0.cell? ⟨aX, aS + i * 8 + 3, none⟩ = some (.int .i64 x.kind) ∧ z0.cell? ⟨aX, aS + i * 8 + 4, none⟩ = some (.string x.item) ∧ z0.cell? ⟨aX, aS + i * 8 + 5, none⟩ = some (.int .i64 x.qty) ∧ z0.cell? ⟨aX, aS + i * 8 + 6, none⟩ = some (.int .i64 x.level) ∧ z0.cell? ⟨aX, aS + i * 8 + 7, none⟩ = some (.int .i64 x.undos) := ⟨by rw [← dA]; exact hSw.1, by rw [← dA]; exact hSw.2.1, by rw [← dA]; exact hSw.2.2.1, by rw [← dA]; exact hSw.2.2.2.1, by rw [← dA]; exact hSw.2.2.2.2.1, by rw [← dA]; exact hSw.2.2.2.2.2.1, by rw [← dA]; exact hSw.2.2.2.2.2.2.1, by rw [← dA]; exact hSw.2.2.2.2.2.2.2.1, by rw [← dA]; exact hSw.2.2.2.2.2.2.2.2⟩
    have ob0 : Hid (z0.heap[ob]? = some (.cells #[.slice (some ⟨vb, vo, none⟩) 4 zc, .slice oa L.length oc] 27 (0, 0))) := by rw [← dA]; exact B8.out
    have aCq : z0.ownsRow (ob + 1) 50 8 (.slice oa L.length oc) L.length (aH L) := by rw [← dA]; exact rQ.out
    have aHB : ob < z0.heap.size := by rw [← dA]; exact aE4
    have aC8 : Hid (Below ob wr z0) := by rw [← dA]; exact ⟨rfl, rfl, rfl, Nat.le_refl _, fun _ _ => rfl⟩
    have o1 := (pair_cells ob0.out).2; have xX := aCq.alloc (.cells #[.int .i64 x.dev, .int .i64 x.seq, .int .i64 x.stamp, .int .i64 x.kind, .string x.item, .int .i64 x.qty, .int .i64 x.level, .int .i64 x.undos] 50); have dH : Below ob z0 (z0.alloc (.cells #[.int .i64 x.dev, .int .i64 x.seq, .int .i64 x.stamp, .int .i64 x.kind, .string x.item, .int .i64 x.qty, .int .i64 x.level, .int .i64 x.undos] 50)) := (Below.refl ob z0).alloc (by omega) _
    obtain ⟨v', z2, hrun, gF, iR, _⟩ := run_append_own (P := Tryz.prog) (z0.alloc (.cells #[.int .i64 x.dev, .int .i64 x.seq, .int .i64 x.stamp, .int .i64 x.kind, .string x.item, .int .i64 x.qty, .int .i64 x.level, .int .i64 x.undos] 50)) (ob + 1) 25 25 50 i0 (.agg #[.int .i64 0, .int .i64 0, .int .i64 0, .int .i64 0, .string ⟨#[]⟩, .int .i64 0, .int .i64 0, .int .i64 0]) 8 72 Tryz.underlying25 hi gI jK jB rfl (by decide) _ _ _ xX ⟨z0.heap.size, 0, none⟩ 1 1 (bR x) rfl (zY z0 x) (fun u hu => iG [x] u (by show u ∈ bR x ++ []; rw [List.append_nil]; exact hu)) (by unfold maxLen; omega) (by omega) (by show _ ≤ (z0.heap.push _).size; simp; omega)
    have dY : Below ob z0 z2 := dH.grown iR (Nat.le_trans (by omega) dH.size) (fun q hq => by have := (xX.lt q hq).1; omega)
    obtain ⟨eO, eN, rfl⟩ : ∃ eO eN, v' = .slice eO (L.length + 1) eN := by
     rcases gF.2 with ⟨_, e2⟩ | ⟨_, c2, _, e2, _⟩
     ·omega
     ·exact ⟨_, c2, e2⟩
    have ob1 : Hid ((z0.alloc (.cells #[.int .i64 x.dev, .int .i64 x.seq, .int .i64 x.stamp, .int .i64 x.kind, .string x.item, .int .i64 x.qty, .int .i64 x.level, .int .i64 x.undos] 50)).heap[ob]? = some (.cells #[.slice (some ⟨vb, vo, none⟩) 4 zc, .slice oa L.length oc] 27 (0, 0))) := (Below.heap_alloc _ _ _ aHB).trans ob0.out; have Q0 : Hid (z2.heap[ob]? = some (.cells #[.slice (some ⟨vb, vo, none⟩) 4 zc, .slice oa L.length oc] 27 (0, 0))) := (iR.block ob (by show _ < (z0.heap.push _).size; simp; omega) (fun h => by have := (xX.lt ob h.symm).1; omega)).trans ob1.out
    have o11 := (pair_cells ob1.out).2; have o12 := (pair_cells Q0.out).2; have fz2 := (aC Q0.out).2; have xM : Hid ((z2.setCell ⟨ob, 1, none⟩ (.slice eO (L.length + 1) eN)).heap[ob]? = some (.cells #[.slice (some ⟨vb, vo, none⟩) 4 zc, .slice eO (L.length + 1) eN] 27 (0, 0))) := heap_setCell_same _ _ _ _ _ _ Q0.out; have xL : Hid ((z2.setCell ⟨ob, 1, none⟩ (.slice eO (L.length + 1) eN)).ownsRow (ob + 1) 50 8 (.slice eO (L.length + 1) eN) (L.length + 1) (aH L ++ bR x)) := X7 gF (fun q hq => by have := (gF.lt q hq).1; omega)
    have kA : Below ob z0 (z2.setCell ⟨ob, 1, none⟩ (.slice eO (L.length + 1) eN)) := dY.setCell aPw _; have xN : Hid (Below ob wr (z2.setCell ⟨ob, 1, none⟩ (.slice eO (L.length + 1) eN))) := aC8.out.trans kA; have hSd : z0.cell? ⟨w.heap.size, 1, none⟩ = some (.slice (some ⟨aX, aS, none⟩) no co) ∧ z0.cell? ⟨aX, aS + i * 8, none⟩ = some (.int .i64 x.dev) ∧ z0.cell? ⟨aX, aS + i * 8 + 1, none⟩ = some (.int .i64 x.seq) ∧ z0.cell? ⟨aX, aS + i * 8 + 2, none⟩ = some (.int .i64 x.stamp) ∧ z0.cell? ⟨aX, aS + i * 8 + 3, none⟩ = some (.int .i64 x.kind) ∧ z0.cell? ⟨aX, aS + i * 8 + 4, none⟩ = some (.string x.item) ∧ z0.cell? ⟨aX, aS + i * 8 + 5, none⟩ = some (.int .i64 x.qty) ∧ z0.cell? ⟨aX, aS + i * 8 + 6, none⟩ = some (.int .i64 x.level) ∧ z0.cell? ⟨aX, aS + i * 8 + 7, none⟩ = some (.int .i64 x.undos) := hS; have dM : (z0.alloc (.cells #[.int .i64 x.dev, .int .i64 x.seq, .int .i64 x.stamp, .int .i64 x.kind, .string x.item, .int .i64 x.qty, .int .i64 x.level, .int .i64 x.undos] 50)).cell? ⟨w.heap.size, 1, none⟩ = some (.slice (some ⟨aX, aS, none⟩) no co) ∧ (z0.alloc (.cells #[.int .i64 x.dev, .int .i64 x.seq, .int .i64 x.stamp, .int .i64 x.kind, .string x.item, .int .i64 x.qty, .int .i64 x.level, .int .i64 x.undos] 50)).cell? ⟨aX, aS + i * 8, none⟩ = some (.int .i64 x.dev) ∧ (z0.alloc (.cells #[.int .i64 x.dev, .int .i64 x.seq, .int .i64 x.stamp, .int .i64 x.kind, .string x.item, .int .i64 x.qty, .int .i64 x.level, .int .i64 x.undos] 50)).cell? ⟨aX, aS + i * 8 + 1, none⟩ = some (.int .i64 x.seq) ∧ (z0.alloc (.cells #[.int .i64 x.dev, .int .i64 x.seq, .int .i64 x.stamp, .int .i64 x.kind, .string x.item, .int .i64 x.qty, .int .i64 x.level, .int .i64 x.undos] 50)).cell? ⟨aX, aS + i * 8 + 2, none⟩ = some (.int .i64 x.stamp) ∧ (z0.alloc (.cells #[.int .i64 x.dev, .int .i64 x.seq, .int .i64 x.stamp, .int .i64 x.kind, .string x.item, .int .i64 x.qty, .int .i64 x.level, .int .i64 x.undos] 50)).cell? ⟨aX, aS + i * 8 + 3, none⟩ = some (.int .i64 x.kind) ∧ (z0.alloc (.cells #[.int .i64 x.dev, .int .i64 x.seq, .int .i64 x.stamp, .int .i64 x.kind, .string x.item, .int .i64 x.qty, .int .i64 x.level, .int .i64 x.undos] 50)).cell? ⟨aX, aS + i * 8 + 4, none⟩ = some (.string x.item) ∧ (z0.alloc (.cells #[.int .i64 x.dev, .int .i64 x.seq, .int .i64 x.stamp, .int .i64 x.kind, .string x.item, .int .i64 x.qty, .int .i64 x.level, .int .i64 x.undos] 50)).cell? ⟨aX, aS + i * 8 + 5, none⟩ = some (.int .i64 x.qty) ∧ (z0.alloc (.cells #[.int .i64 x.dev, .int .i64 x.seq, .int .i64 x.stamp, .int .i64 x.kind, .string x.item, .int .i64 x.qty, .int .i64 x.level, .int .i64 x.undos] 50)).cell? ⟨aX, aS + i * 8 + 6, none⟩ = some (.int .i64 x.level) ∧ (z0.alloc (.cells #[.int .i64 x.dev, .int .i64 x.seq, .int .i64 x.stamp, .int .i64 x.kind, .string x.item, .int .i64 x.qty, .int .i64 x.level, .int .i64 x.undos] 50)).cell? ⟨aX, aS + i * 8 + 7, none⟩ = some (.int .i64 x.undos) := ⟨(dH.cell (by show w.heap.size < ob; omega)).trans hS.1, (dH.cell (by show aX < ob; omega)).trans hS.2.1, (dH.cell (by show aX < ob; omega)).trans hS.2.2.1, (dH.cell (by show aX < ob; omega)).trans hS.2.2.2.1, (dH.cell (by show aX < ob; omega)).trans hS.2.2.2.2.1, (dH.cell (by show aX < ob; omega)).trans hS.2.2.2.2.2.1, (dH.cell (by show aX < ob; omega)).trans hS.2.2.2.2.2.2.1, (dH.cell (by show aX < ob; omega)).trans hS.2.2.2.2.2.2.2.1, (dH.cell (by show aX < ob; omega)).trans hS.2.2.2.2.2.2.2.2⟩
    have eK : z2.cell? ⟨w.heap.size, 1, none⟩ = some (.slice (some ⟨aX, aS, none⟩) no co) ∧ z2.cell? ⟨aX, aS + i * 8, none⟩ = some (.int .i64 x.dev) ∧ z2.cell? ⟨aX, aS + i * 8 + 1, none⟩ = some (.int .i64 x.seq) ∧ z2.cell? ⟨aX, aS + i * 8 + 2, none⟩ = some (.int .i64 x.stamp) ∧ z2.cell? ⟨aX, aS + i * 8 + 3, none⟩ = some (.int .i64 x.kind) ∧ z2.cell? ⟨aX, aS + i * 8 + 4, none⟩ = some (.string x.item) ∧ z2.cell? ⟨aX, aS + i * 8 + 5, none⟩ = some (.int .i64 x.qty) ∧ z2.cell? ⟨aX, aS + i * 8 + 6, none⟩ = some (.int .i64 x.level) ∧ z2.cell? ⟨aX, aS + i * 8 + 7, none⟩ = some (.int .i64 x.undos) := ⟨(dY.cell (by show w.heap.size < ob; omega)).trans hS.1, (dY.cell (by show aX < ob; omega)).trans hS.2.1, (dY.cell (by show aX < ob; omega)).trans hS.2.2.1, (dY.cell (by show aX < ob; omega)).trans hS.2.2.2.1, (dY.cell (by show aX < ob; omega)).trans hS.2.2.2.2.1, (dY.cell (by show aX < ob; omega)).trans hS.2.2.2.2.2.1, (dY.cell (by show aX < ob; omega)).trans hS.2.2.2.2.2.2.1, (dY.cell (by show aX < ob; omega)).trans hS.2.2.2.2.2.2.2.1, (dY.cell (by show aX < ob; omega)).trans hS.2.2.2.2.2.2.2.2⟩
    have fV : (z2.setCell ⟨ob, 1, none⟩ (.slice eO (L.length + 1) eN)).cell? ⟨w.heap.size, 1, none⟩ = some (.slice (some ⟨aX, aS, none⟩) no co) ∧ (z2.setCell ⟨ob, 1, none⟩ (.slice eO (L.length + 1) eN)).cell? ⟨aX, aS + i * 8, none⟩ = some (.int .i64 x.dev) ∧ (z2.setCell ⟨ob, 1, none⟩ (.slice eO (L.length + 1) eN)).cell? ⟨aX, aS + i * 8 + 1, none⟩ = some (.int .i64 x.seq) ∧ (z2.setCell ⟨ob, 1, none⟩ (.slice eO (L.length + 1) eN)).cell? ⟨aX, aS + i * 8 + 2, none⟩ = some (.int .i64 x.stamp) ∧ (z2.setCell ⟨ob, 1, none⟩ (.slice eO (L.length + 1) eN)).cell? ⟨aX, aS + i * 8 + 3, none⟩ = some (.int .i64 x.kind) ∧ (z2.setCell ⟨ob, 1, none⟩ (.slice eO (L.length + 1) eN)).cell? ⟨aX, aS + i * 8 + 4, none⟩ = some (.string x.item) ∧ (z2.setCell ⟨ob, 1, none⟩ (.slice eO (L.length + 1) eN)).cell? ⟨aX, aS + i * 8 + 5, none⟩ = some (.int .i64 x.qty) ∧ (z2.setCell ⟨ob, 1, none⟩ (.slice eO (L.length + 1) eN)).cell? ⟨aX, aS + i * 8 + 6, none⟩ = some (.int .i64 x.level) ∧ (z2.setCell ⟨ob, 1, none⟩ (.slice eO (L.length + 1) eN)).cell? ⟨aX, aS + i * 8 + 7, none⟩ = some (.int .i64 x.undos) := ⟨(kA.cell (by show w.heap.size < ob; omega)).trans hS.1, (kA.cell (by show aX < ob; omega)).trans hS.2.1, (kA.cell (by show aX < ob; omega)).trans hS.2.2.1, (kA.cell (by show aX < ob; omega)).trans hS.2.2.2.1, (kA.cell (by show aX < ob; omega)).trans hS.2.2.2.2.1, (kA.cell (by show aX < ob; omega)).trans hS.2.2.2.2.2.1, (kA.cell (by show aX < ob; omega)).trans hS.2.2.2.2.2.2.1, (kA.cell (by show aX < ob; omega)).trans hS.2.2.2.2.2.2.2.1, (kA.cell (by show aX < ob; omega)).trans hS.2.2.2.2.2.2.2.2⟩
    clear hSw B8 rQ aCq aC8
    go_wp2_with fail
    refine wp_region_held_drew (S := fun w' => w'.cell? ⟨w.heap.size, 1, none⟩ = some (.slice (some ⟨aX, aS, none⟩) no co) ∧ w'.cell? ⟨aX, aS + i * 8, none⟩ = some (.int .i64 x.dev) ∧ w'.cell? ⟨aX, aS + i * 8 + 1, none⟩ = some (.int .i64 x.seq) ∧ w'.cell? ⟨aX, aS + i * 8 + 2, none⟩ = some (.int .i64 x.stamp) ∧ w'.cell? ⟨aX, aS + i * 8 + 3, none⟩ = some (.int .i64 x.kind) ∧ w'.cell? ⟨aX, aS + i * 8 + 4, none⟩ = some (.string x.item) ∧ w'.cell? ⟨aX, aS + i * 8 + 5, none⟩ = some (.int .i64 x.qty) ∧ w'.cell? ⟨aX, aS + i * 8 + 6, none⟩ = some (.int .i64 x.level) ∧ w'.cell? ⟨aX, aS + i * 8 + 7, none⟩ = some (.int .i64 x.undos)) (by kernel_rfl) (by rw [dA]; exact hS) (fun aP => ?_)
    rw [dA]; clear aP; refine tj 0 ?_
    refine tj 2 ?_
    refine tj 3 ?_
    refine tj 4 ?_
    refine tj 5 ?_
    refine tj 6 ?_
    refine wpAnyH_ready (rs := [1, 7]) (by kernel_rfl) (by simp) ?_
    refine AllReadyH.cons rfl (fun K hK => ?_) (AllReadyH.cons rfl (fun K hK => ?_) AllReadyH.nil)
    all_goals go_simp
    ·refine hK.out _ _ hSd (fun qW => ?_)
     clear hK K
     (try simp only [Act.put, u1, u2, u3])
     refine rk 7 rfl (fun K hK => ?_)
     go_simp
     refine hK.out _ _ dM (fun qX => ?_)
     clear hK K
     (try simp only [Act.put, u1, u2, u3])
     refine rk 8 rfl (fun K hK => ?_)
     rw [if_pos (by rfl)]
     refine uY _ _ _ rfl _ _ rfl rfl hrun ?_
     refine hK.out _ _ eK (fun tN => ?_)
     clear hK K
     (try simp only [Act.put, u1, u2, u3])
     refine tj 9 ?_
     refine rk 10 rfl (fun K hK => ?_)
     go_simp
     refine hK.out _ _ fV (fun qV => ?_)
     clear hK K
     (try simp only [Act.put, u1, u2, u3])
     refine wpAnyH_done (by kernel_rfl) ?_ _
     have sH : Hid (mG ob (some ⟨vb, vo, none⟩) zc zs (dE l m) w2 (z2.setCell ⟨ob, 1, none⟩ (.slice eO (L.length + 1) eN)) d (s + 1)) := by
      show mG _ _ _ _ _ _ _ _ _
      unfold mG; rw [bZ.out, HFy.out, iK, List.length_append]; exact ⟨eO, eN, xM.out, xL.out, l6.out.trans xN.out⟩
     clear xM xL xN hSd dM eK fV hS ob0 ob1 Q0 o1 o11 o12 fz2 hrun gF iR xX dH dY kA qX qW tN qV; go_wp2
     go_roundw
     case rel => exact ⟨s + 1, by omega, by go_num, sH, HE⟩
     case measure => simp [intOf]; omega
    ·refine hK.out _ _ dM (fun qW => ?_)
     clear hK K
     (try simp only [Act.put, u1, u2, u3])
     refine rk 1 rfl (fun K hK => ?_)
     go_simp
     refine hK.out _ _ dM (fun qX => ?_)
     clear hK K
     (try simp only [Act.put, u1, u2, u3])
     refine rk 8 rfl (fun K hK => ?_)
     rw [if_pos (by rfl)]
     refine uY _ _ _ rfl _ _ rfl rfl hrun ?_
     refine hK.out _ _ eK (fun tN => ?_)
     clear hK K
     (try simp only [Act.put, u1, u2, u3])
     refine tj 9 ?_
     refine rk 10 rfl (fun K hK => ?_)
     go_simp
     refine hK.out _ _ fV (fun qV => ?_)
     clear hK K
     (try simp only [Act.put, u1, u2, u3])
     refine wpAnyH_done (by kernel_rfl) ?_ _
     have sH : Hid (mG ob (some ⟨vb, vo, none⟩) zc zs (dE l m) w2 (z2.setCell ⟨ob, 1, none⟩ (.slice eO (L.length + 1) eN)) d (s + 1)) := by
      show mG _ _ _ _ _ _ _ _ _
      unfold mG; rw [bZ.out, HFy.out, iK, List.length_append]; exact ⟨eO, eN, xM.out, xL.out, l6.out.trans xN.out⟩
     clear xM xL xN hSd dM eK fV hS ob0 ob1 Q0 o1 o11 o12 fz2 hrun gF iR xX dH dY kA qX qW tN qV; go_wp2
     go_roundw
     case rel => exact ⟨s + 1, by omega, by go_num, sH, HE⟩
     case measure => simp [intOf]; omega
   obtain ⟨b2, aQ, rfl, aG, ho2⟩ := W5.out.2 k hkm; have vV : Hid (nI wr b2 (aQ + k * 8) (aB m k)) := ho2; have HYk : Hid (kX m (d : Int) ((s : Int) + 1) = some (aB m k)) := by
    show _ = _
    have := uK (pP vY.out) m.length aPw k (by rw [W3.out]; exact hkm)
    rw [hke.1, hke.2] at this; exact this
   have aFx : Hid (iW x (aB m k) = false → qP l m = false) := fun h => aHy (by rw [W3.out]; exact hkm) rfl hke HXi.out h
   have hki : (k : Int) < (mo : Int) := by omega
   have hk0 : ¬ ((k : Int) < 0) := by omega
   clear ho2 hke; generalize aB m k = y at vV HYk aFx; obtain ⟨c0', T9, T8, c3', c4', c5', c6', c7'⟩ := G3.out; obtain ⟨e0', e1', e2', e3', e4', e5', e6', e7'⟩ := vV.out; have hS : wr.drew.cell? ⟨w.heap.size, 1, none⟩ = some (.slice (some ⟨aX, aS, none⟩) no co) ∧ wr.drew.cell? ⟨w.heap.size + 1, 1, none⟩ = some (.slice (some ⟨b2, aQ, none⟩) mo eo) ∧ (wr.drew.cell? ⟨aX, aS + i * 8, none⟩ = some (.int .i64 x.dev) ∧ wr.drew.cell? ⟨aX, aS + i * 8 + 1, none⟩ = some (.int .i64 x.seq) ∧ wr.drew.cell? ⟨aX, aS + i * 8 + 2, none⟩ = some (.int .i64 x.stamp) ∧ wr.drew.cell? ⟨aX, aS + i * 8 + 3, none⟩ = some (.int .i64 x.kind) ∧ wr.drew.cell? ⟨aX, aS + i * 8 + 4, none⟩ = some (.string x.item) ∧ wr.drew.cell? ⟨aX, aS + i * 8 + 5, none⟩ = some (.int .i64 x.qty) ∧ wr.drew.cell? ⟨aX, aS + i * 8 + 6, none⟩ = some (.int .i64 x.level) ∧ wr.drew.cell? ⟨aX, aS + i * 8 + 7, none⟩ = some (.int .i64 x.undos)) ∧ wr.drew.cell? ⟨b2, aQ + k * 8, none⟩ = some (.int .i64 y.dev) ∧ wr.drew.cell? ⟨b2, aQ + k * 8 + 1, none⟩ = some (.int .i64 y.seq) ∧ wr.drew.cell? ⟨b2, aQ + k * 8 + 2, none⟩ = some (.int .i64 y.stamp) ∧ wr.drew.cell? ⟨b2, aQ + k * 8 + 3, none⟩ = some (.int .i64 y.kind) ∧ wr.drew.cell? ⟨b2, aQ + k * 8 + 4, none⟩ = some (.string y.item) ∧ wr.drew.cell? ⟨b2, aQ + k * 8 + 5, none⟩ = some (.int .i64 y.qty) ∧ wr.drew.cell? ⟨b2, aQ + k * 8 + 6, none⟩ = some (.int .i64 y.level) ∧ wr.drew.cell? ⟨b2, aQ + k * 8 + 7, none⟩ = some (.int .i64 y.undos) := ⟨a1, b1, ⟨c0', T9, T8, c3', c4', c5', c6', c7'⟩, e0', e1', e2', e3', e4', e5', e6', e7'⟩; clear a0 a1 b0 b1 c0 o0 o1 c0' T9 T8 c3' c4' c5' c6' c7' e0' e1' e2' e3' e4' e5' e6' e7' G3 vV HOr W5
   go_upto_region 17 with fail
   have HTd := aPu (nJ.out); rcases hsm : iW x y with _ | _
   ·have sJ := aPu (aFx.out hsm)
    have zE := aPu hsm; clear hsm
    go_wp2_with fail
    refine wp_region_held_drew (S := fun w' => w'.cell? ⟨w.heap.size, 1, none⟩ = some (.slice (some ⟨aX, aS, none⟩) no co) ∧ w'.cell? ⟨w.heap.size + 1, 1, none⟩ = some (.slice (some ⟨b2, aQ, none⟩) mo eo) ∧ (w'.cell? ⟨aX, aS + i * 8, none⟩ = some (.int .i64 x.dev) ∧ w'.cell? ⟨aX, aS + i * 8 + 1, none⟩ = some (.int .i64 x.seq) ∧ w'.cell? ⟨aX, aS + i * 8 + 2, none⟩ = some (.int .i64 x.stamp) ∧ w'.cell? ⟨aX, aS + i * 8 + 3, none⟩ = some (.int .i64 x.kind) ∧ w'.cell? ⟨aX, aS + i * 8 + 4, none⟩ = some (.string x.item) ∧ w'.cell? ⟨aX, aS + i * 8 + 5, none⟩ = some (.int .i64 x.qty) ∧ w'.cell? ⟨aX, aS + i * 8 + 6, none⟩ = some (.int .i64 x.level) ∧ w'.cell? ⟨aX, aS + i * 8 + 7, none⟩ = some (.int .i64 x.undos)) ∧ w'.cell? ⟨b2, aQ + k * 8, none⟩ = some (.int .i64 y.dev) ∧ w'.cell? ⟨b2, aQ + k * 8 + 1, none⟩ = some (.int .i64 y.seq) ∧ w'.cell? ⟨b2, aQ + k * 8 + 2, none⟩ = some (.int .i64 y.stamp) ∧ w'.cell? ⟨b2, aQ + k * 8 + 3, none⟩ = some (.int .i64 y.kind) ∧ w'.cell? ⟨b2, aQ + k * 8 + 4, none⟩ = some (.string y.item) ∧ w'.cell? ⟨b2, aQ + k * 8 + 5, none⟩ = some (.int .i64 y.qty) ∧ w'.cell? ⟨b2, aQ + k * 8 + 6, none⟩ = some (.int .i64 y.level) ∧ w'.cell? ⟨b2, aQ + k * 8 + 7, none⟩ = some (.int .i64 y.undos)) (by kernel_rfl) hS (fun aP => ?_)
    refine tj 0 ?_
    refine tj 1 ?_
    refine tj 2 ?_
    refine tj 3 ?_
    refine tj 4 ?_
    refine tj 5 ?_
    refine tj 6 ?_
    refine tj 7 ?_
    refine tj 8 ?_
    refine tj 9 ?_
    refine rk 10 rfl (fun K hK => ?_)
    go_simp
    go_at_call 151
    refine (aGx x y wr.drew).mono ?_
    rintro e w5 ⟨rfl, aU⟩; rw [zE.out]; have F5 : w5.cell? ⟨w.heap.size, 1, none⟩ = some (.slice (some ⟨aX, aS, none⟩) no co) ∧ w5.cell? ⟨w.heap.size + 1, 1, none⟩ = some (.slice (some ⟨b2, aQ, none⟩) mo eo) ∧ (w5.cell? ⟨aX, aS + i * 8, none⟩ = some (.int .i64 x.dev) ∧ w5.cell? ⟨aX, aS + i * 8 + 1, none⟩ = some (.int .i64 x.seq) ∧ w5.cell? ⟨aX, aS + i * 8 + 2, none⟩ = some (.int .i64 x.stamp) ∧ w5.cell? ⟨aX, aS + i * 8 + 3, none⟩ = some (.int .i64 x.kind) ∧ w5.cell? ⟨aX, aS + i * 8 + 4, none⟩ = some (.string x.item) ∧ w5.cell? ⟨aX, aS + i * 8 + 5, none⟩ = some (.int .i64 x.qty) ∧ w5.cell? ⟨aX, aS + i * 8 + 6, none⟩ = some (.int .i64 x.level) ∧ w5.cell? ⟨aX, aS + i * 8 + 7, none⟩ = some (.int .i64 x.undos)) ∧ w5.cell? ⟨b2, aQ + k * 8, none⟩ = some (.int .i64 y.dev) ∧ w5.cell? ⟨b2, aQ + k * 8 + 1, none⟩ = some (.int .i64 y.seq) ∧ w5.cell? ⟨b2, aQ + k * 8 + 2, none⟩ = some (.int .i64 y.stamp) ∧ w5.cell? ⟨b2, aQ + k * 8 + 3, none⟩ = some (.int .i64 y.kind) ∧ w5.cell? ⟨b2, aQ + k * 8 + 4, none⟩ = some (.string y.item) ∧ w5.cell? ⟨b2, aQ + k * 8 + 5, none⟩ = some (.int .i64 y.qty) ∧ w5.cell? ⟨b2, aQ + k * 8 + 6, none⟩ = some (.int .i64 y.level) ∧ w5.cell? ⟨b2, aQ + k * 8 + 7, none⟩ = some (.int .i64 y.undos) := ⟨(aU.cell (block_lt_of_cell hS.1)).trans hS.1, (aU.cell (block_lt_of_cell hS.2.1)).trans hS.2.1, ⟨(aU.cell (block_lt_of_cell hS.2.2.1.1)).trans hS.2.2.1.1, (aU.cell (block_lt_of_cell hS.2.2.1.2.1)).trans hS.2.2.1.2.1, (aU.cell (block_lt_of_cell hS.2.2.1.2.2.1)).trans hS.2.2.1.2.2.1, (aU.cell (block_lt_of_cell hS.2.2.1.2.2.2.1)).trans hS.2.2.1.2.2.2.1, (aU.cell (block_lt_of_cell hS.2.2.1.2.2.2.2.1)).trans hS.2.2.1.2.2.2.2.1, (aU.cell (block_lt_of_cell hS.2.2.1.2.2.2.2.2.1)).trans hS.2.2.1.2.2.2.2.2.1, (aU.cell (block_lt_of_cell hS.2.2.1.2.2.2.2.2.2.1)).trans hS.2.2.1.2.2.2.2.2.2.1, (aU.cell (block_lt_of_cell hS.2.2.1.2.2.2.2.2.2.2)).trans hS.2.2.1.2.2.2.2.2.2.2⟩, (aU.cell (block_lt_of_cell hS.2.2.2.1)).trans hS.2.2.2.1, (aU.cell (block_lt_of_cell hS.2.2.2.2.1)).trans hS.2.2.2.2.1, (aU.cell (block_lt_of_cell hS.2.2.2.2.2.1)).trans hS.2.2.2.2.2.1, (aU.cell (block_lt_of_cell hS.2.2.2.2.2.2.1)).trans hS.2.2.2.2.2.2.1, (aU.cell (block_lt_of_cell hS.2.2.2.2.2.2.2.1)).trans hS.2.2.2.2.2.2.2.1, (aU.cell (block_lt_of_cell hS.2.2.2.2.2.2.2.2.1)).trans hS.2.2.2.2.2.2.2.2.1, (aU.cell (block_lt_of_cell hS.2.2.2.2.2.2.2.2.2.1)).trans hS.2.2.2.2.2.2.2.2.2.1, (aU.cell (block_lt_of_cell hS.2.2.2.2.2.2.2.2.2.2)).trans hS.2.2.2.2.2.2.2.2.2.2⟩
    refine hK.out _ _ F5 (fun bG => ?_)
    clear hK K
    (try simp only [Act.put, u1, u2, u3])
    refine tj 11 ?_
    refine tj 12 ?_
    refine wpAnyH_done (by kernel_rfl) ?_ _
    have aW : Below wr.heap.size wr w5 := ⟨aU.os, aU.tape, aU.output, aU.size, aU.block⟩; have uI := aPu (nJ.out.next aW); have HF : Hid (qP l m = false) := sJ.out; clear hS F5 aP bG aU aW B8 rQ l6 nJ HTd oQ vY; obtain ⟨r0, r1⟩ := pair_cells uI.out.res; obtain ⟨fz0, fz1⟩ := aC uI.out.res; have oO := aPu (uI.out.set2S (.slice none 0 0) (.slice none 0 0)).1; have nM := aPu (uI.out.set2S (.slice none 0 0) (.slice none 0 0)).2; go_wp2
    change bodyPost _ _ _ _ _ ((w5.setCell ⟨w.heap.size + 1 + 1, 0, none⟩ (.slice none 0 0)).setCell ⟨w.heap.size + 1 + 1, 1, none⟩ (.slice none 0 0))
    generalize (w5.setCell ⟨w.heap.size + 1 + 1, 0, none⟩ (.slice none 0 0)).setCell ⟨w.heap.size + 1 + 1, 1, none⟩ (.slice none 0 0) = wf at oO nM ⊢; obtain ⟨q0, q1⟩ := pair_cells oO.out; exact bodyPost_ret (v := .tuple #[.agg #[.slice none 0 0, .slice none 0 0], .bool false]) (by simp [results, Tryz.results131, go_sem, q0, q1]) rfl ⟨none, 0, none, 0, by rw [HF.out]; rfl, by rw [HF.out]; exact H6 _ _ _ _, by rw [HF.out]; exact dV _ _ _ _, nM.out, by rw [HF.out]; exact cN, by rw [HF.out]; exact cN⟩
   obtain ⟨u, rfl⟩ : ∃ u, y = x.with u := ⟨_, G7 hsm⟩; have zE := aPu hsm; have HFy : Hid (dE l m d s = x.with (max x.undos u)) := by show _ = _; rw [aJe.out]; unfold mV; rw [HXi.out, HYk.out]; rfl
   have HE := aPu (aI5.out fun a b ha hb => by rw [HXi.out] at ha; rw [HYk.out] at hb; cases ha; cases hb; exact zE.out)
   clear hsm
   change wr.drew.cell? ⟨w.heap.size, 1, none⟩ = some (.slice (some ⟨aX, aS, none⟩) no co) ∧ wr.drew.cell? ⟨w.heap.size + 1, 1, none⟩ = some (.slice (some ⟨b2, aQ, none⟩) mo eo) ∧ (wr.drew.cell? ⟨aX, aS + i * 8, none⟩ = some (.int .i64 x.dev) ∧ wr.drew.cell? ⟨aX, aS + i * 8 + 1, none⟩ = some (.int .i64 x.seq) ∧ wr.drew.cell? ⟨aX, aS + i * 8 + 2, none⟩ = some (.int .i64 x.stamp) ∧ wr.drew.cell? ⟨aX, aS + i * 8 + 3, none⟩ = some (.int .i64 x.kind) ∧ wr.drew.cell? ⟨aX, aS + i * 8 + 4, none⟩ = some (.string x.item) ∧ wr.drew.cell? ⟨aX, aS + i * 8 + 5, none⟩ = some (.int .i64 x.qty) ∧ wr.drew.cell? ⟨aX, aS + i * 8 + 6, none⟩ = some (.int .i64 x.level) ∧ wr.drew.cell? ⟨aX, aS + i * 8 + 7, none⟩ = some (.int .i64 x.undos)) ∧ wr.drew.cell? ⟨b2, aQ + k * 8, none⟩ = some (.int .i64 x.dev) ∧ wr.drew.cell? ⟨b2, aQ + k * 8 + 1, none⟩ = some (.int .i64 x.seq) ∧ wr.drew.cell? ⟨b2, aQ + k * 8 + 2, none⟩ = some (.int .i64 x.stamp) ∧ wr.drew.cell? ⟨b2, aQ + k * 8 + 3, none⟩ = some (.int .i64 x.kind) ∧ wr.drew.cell? ⟨b2, aQ + k * 8 + 4, none⟩ = some (.string x.item) ∧ wr.drew.cell? ⟨b2, aQ + k * 8 + 5, none⟩ = some (.int .i64 x.qty) ∧ wr.drew.cell? ⟨b2, aQ + k * 8 + 6, none⟩ = some (.int .i64 x.level) ∧ wr.drew.cell? ⟨b2, aQ + k * 8 + 7, none⟩ = some (.int .i64 u) at hS
   go_wp2_with fail
   refine wp_region_held_drew (S := fun w' => w'.cell? ⟨w.heap.size, 1, none⟩ = some (.slice (some ⟨aX, aS, none⟩) no co) ∧ w'.cell? ⟨w.heap.size + 1, 1, none⟩ = some (.slice (some ⟨b2, aQ, none⟩) mo eo) ∧ (w'.cell? ⟨aX, aS + i * 8, none⟩ = some (.int .i64 x.dev) ∧ w'.cell? ⟨aX, aS + i * 8 + 1, none⟩ = some (.int .i64 x.seq) ∧ w'.cell? ⟨aX, aS + i * 8 + 2, none⟩ = some (.int .i64 x.stamp) ∧ w'.cell? ⟨aX, aS + i * 8 + 3, none⟩ = some (.int .i64 x.kind) ∧ w'.cell? ⟨aX, aS + i * 8 + 4, none⟩ = some (.string x.item) ∧ w'.cell? ⟨aX, aS + i * 8 + 5, none⟩ = some (.int .i64 x.qty) ∧ w'.cell? ⟨aX, aS + i * 8 + 6, none⟩ = some (.int .i64 x.level) ∧ w'.cell? ⟨aX, aS + i * 8 + 7, none⟩ = some (.int .i64 x.undos)) ∧ w'.cell? ⟨b2, aQ + k * 8, none⟩ = some (.int .i64 x.dev) ∧ w'.cell? ⟨b2, aQ + k * 8 + 1, none⟩ = some (.int .i64 x.seq) ∧ w'.cell? ⟨b2, aQ + k * 8 + 2, none⟩ = some (.int .i64 x.stamp) ∧ w'.cell? ⟨b2, aQ + k * 8 + 3, none⟩ = some (.int .i64 x.kind) ∧ w'.cell? ⟨b2, aQ + k * 8 + 4, none⟩ = some (.string x.item) ∧ w'.cell? ⟨b2, aQ + k * 8 + 5, none⟩ = some (.int .i64 x.qty) ∧ w'.cell? ⟨b2, aQ + k * 8 + 6, none⟩ = some (.int .i64 x.level) ∧ w'.cell? ⟨b2, aQ + k * 8 + 7, none⟩ = some (.int .i64 u)) (by kernel_rfl) hS (fun aP => ?_)
   refine tj 0 ?_
   refine tj 1 ?_
   refine tj 2 ?_
   refine tj 3 ?_
   refine tj 4 ?_
   refine tj 5 ?_
   refine tj 6 ?_
   refine tj 7 ?_
   refine tj 8 ?_
   refine tj 9 ?_
   refine rk 10 rfl (fun K hK => ?_)
   go_simp
   go_at_call 151
   refine (aGx x (x.with u) wr.drew).mono ?_
   rintro e w5 ⟨rfl, aU⟩; rw [zE.out]; have F5 : w5.cell? ⟨w.heap.size, 1, none⟩ = some (.slice (some ⟨aX, aS, none⟩) no co) ∧ w5.cell? ⟨w.heap.size + 1, 1, none⟩ = some (.slice (some ⟨b2, aQ, none⟩) mo eo) ∧ (w5.cell? ⟨aX, aS + i * 8, none⟩ = some (.int .i64 x.dev) ∧ w5.cell? ⟨aX, aS + i * 8 + 1, none⟩ = some (.int .i64 x.seq) ∧ w5.cell? ⟨aX, aS + i * 8 + 2, none⟩ = some (.int .i64 x.stamp) ∧ w5.cell? ⟨aX, aS + i * 8 + 3, none⟩ = some (.int .i64 x.kind) ∧ w5.cell? ⟨aX, aS + i * 8 + 4, none⟩ = some (.string x.item) ∧ w5.cell? ⟨aX, aS + i * 8 + 5, none⟩ = some (.int .i64 x.qty) ∧ w5.cell? ⟨aX, aS + i * 8 + 6, none⟩ = some (.int .i64 x.level) ∧ w5.cell? ⟨aX, aS + i * 8 + 7, none⟩ = some (.int .i64 x.undos)) ∧ w5.cell? ⟨b2, aQ + k * 8, none⟩ = some (.int .i64 x.dev) ∧ w5.cell? ⟨b2, aQ + k * 8 + 1, none⟩ = some (.int .i64 x.seq) ∧ w5.cell? ⟨b2, aQ + k * 8 + 2, none⟩ = some (.int .i64 x.stamp) ∧ w5.cell? ⟨b2, aQ + k * 8 + 3, none⟩ = some (.int .i64 x.kind) ∧ w5.cell? ⟨b2, aQ + k * 8 + 4, none⟩ = some (.string x.item) ∧ w5.cell? ⟨b2, aQ + k * 8 + 5, none⟩ = some (.int .i64 x.qty) ∧ w5.cell? ⟨b2, aQ + k * 8 + 6, none⟩ = some (.int .i64 x.level) ∧ w5.cell? ⟨b2, aQ + k * 8 + 7, none⟩ = some (.int .i64 u) := ⟨(aU.cell (block_lt_of_cell hS.1)).trans hS.1, (aU.cell (block_lt_of_cell hS.2.1)).trans hS.2.1, ⟨(aU.cell (block_lt_of_cell hS.2.2.1.1)).trans hS.2.2.1.1, (aU.cell (block_lt_of_cell hS.2.2.1.2.1)).trans hS.2.2.1.2.1, (aU.cell (block_lt_of_cell hS.2.2.1.2.2.1)).trans hS.2.2.1.2.2.1, (aU.cell (block_lt_of_cell hS.2.2.1.2.2.2.1)).trans hS.2.2.1.2.2.2.1, (aU.cell (block_lt_of_cell hS.2.2.1.2.2.2.2.1)).trans hS.2.2.1.2.2.2.2.1, (aU.cell (block_lt_of_cell hS.2.2.1.2.2.2.2.2.1)).trans hS.2.2.1.2.2.2.2.2.1, (aU.cell (block_lt_of_cell hS.2.2.1.2.2.2.2.2.2.1)).trans hS.2.2.1.2.2.2.2.2.2.1, (aU.cell (block_lt_of_cell hS.2.2.1.2.2.2.2.2.2.2)).trans hS.2.2.1.2.2.2.2.2.2.2⟩, (aU.cell (block_lt_of_cell hS.2.2.2.1)).trans hS.2.2.2.1, (aU.cell (block_lt_of_cell hS.2.2.2.2.1)).trans hS.2.2.2.2.1, (aU.cell (block_lt_of_cell hS.2.2.2.2.2.1)).trans hS.2.2.2.2.2.1, (aU.cell (block_lt_of_cell hS.2.2.2.2.2.2.1)).trans hS.2.2.2.2.2.2.1, (aU.cell (block_lt_of_cell hS.2.2.2.2.2.2.2.1)).trans hS.2.2.2.2.2.2.2.1, (aU.cell (block_lt_of_cell hS.2.2.2.2.2.2.2.2.1)).trans hS.2.2.2.2.2.2.2.2.1, (aU.cell (block_lt_of_cell hS.2.2.2.2.2.2.2.2.2.1)).trans hS.2.2.2.2.2.2.2.2.2.1, (aU.cell (block_lt_of_cell hS.2.2.2.2.2.2.2.2.2.2)).trans hS.2.2.2.2.2.2.2.2.2.2⟩
   refine hK.out _ _ F5 (fun bG => ?_)
   clear hK K
   (try simp only [Act.put, u1, u2, u3])
   refine tj 11 ?_
   refine tj 12 ?_
   refine wpAnyH_done (by kernel_rfl) ?_ _
   have aW : Below wr.heap.size wr w5 := ⟨aU.os, aU.tape, aU.output, aU.size, aU.block⟩; have aME := aPu ((aW.block _ aE4).trans B8.out); have aFz := aPu (jI rQ.out aW); have aMU := aPu (l6.out.trans (aW.mono (by omega)))
   have aJu : ob < w5.heap.size := Nat.lt_of_lt_of_le aE4 aW.size; have j4 := aPu F5; have HLt : Hid (∀ g, (Value.slice oa L.length oc).ownBlock = some g → g < w5.heap.size) := fun g hg => (aFz.out.lt g hg).2
   clear hS F5 aP bG aU aW B8 rQ l6 nJ HTd HXi HYk aFx; obtain ⟨a1, b1, ⟨d0, d1, d2, d3, d4, d5, d6, d7⟩, e0', e1', e2', e3', e4', e5', e6', e7'⟩ := j4.out
   go_upto_region 11 with fail
   have jF : Below w5.heap.size w5 (w5.alloc (.cells #[.int .i64 x.dev, .int .i64 x.seq, .int .i64 x.stamp, .int .i64 x.kind, .string x.item, .int .i64 x.qty, .int .i64 x.level, .int .i64 x.undos] 50)) := bl; have bM := aPu (bE (Below.refl _ (w5.alloc (.cells #[.int .i64 x.dev, .int .i64 x.seq, .int .i64 x.stamp, .int .i64 x.kind, .string x.item, .int .i64 x.qty, .int .i64 x.level, .int .i64 x.undos] 50)))); have b16 := (jF.cell (block_lt_of_cell b1)).trans b1; have e76 := (jF.cell (block_lt_of_cell e7')).trans e7'; have aI9 := aPu ((jF.block _ aJu).trans aME.out); have aFy := aPu (jI aFz.out jF); have x7 := aPu (aMU.out.trans (jF.mono (by omega)))
   clear a1 b1 d0 d1 d2 d3 d4 d5 d6 d7 e0' e1' e2' e3' e4' e5' e6' e7' j4 aME aFz aMU; generalize w5.alloc (.cells #[.int .i64 x.dev, .int .i64 x.seq, .int .i64 x.stamp, .int .i64 x.kind, .string x.item, .int .i64 x.qty, .int .i64 x.level, .int .i64 x.undos] 50) = w6 at jF bM b16 e76 aI9 aFy x7 ⊢; have S2 := jF.size; have hx6 := bS bM.out; generalize w5.heap.size = nb at bM S2 hx6 aJu HLt ⊢; clear jF; obtain ⟨z0, dA⟩ : ∃ z0, w6.drew = z0 := ⟨_, rfl⟩; have N5 : Hid (z0.heap[nb]? = some (.cells #[.int .i64 x.dev, .int .i64 x.seq, .int .i64 x.stamp, .int .i64 x.kind, .string x.item, .int .i64 x.qty, .int .i64 x.level, .int .i64 x.undos] 50 (0, 0))) := by rw [← dA]; exact bM.out
   have aMD : Hid (z0.heap[ob]? = some (.cells #[.slice (some ⟨vb, vo, none⟩) 4 zc, .slice oa L.length oc] 27 (0, 0))) := by rw [← dA]; exact aI9.out
   have aJC : Hid (z0.ownsRow (ob + 1) 50 8 (.slice oa L.length oc) L.length (aH L)) := by rw [← dA]; exact aFy.out
   have aMT : Hid (Below ob w2 z0) := by rw [← dA]; exact ⟨x7.out.os, x7.out.tape, x7.out.output, x7.out.size, x7.out.block⟩
   have hS : z0.cell? ⟨w.heap.size + 1, 1, none⟩ = some (.slice (some ⟨b2, aQ, none⟩) mo eo) ∧ z0.cell? ⟨b2, aQ + k * 8 + 7, none⟩ = some (.int .i64 u) := by rw [← dA]; exact ⟨b16, e76⟩
   have aNs : z0.heap.size = w6.heap.size := by rw [← dA]; rfl
   clear bM aI9 aFy x7 b16 e76; obtain ⟨e0, e1, e2, e3, e4, e5, e6, e7⟩ := aM N5.out; obtain ⟨f0, f1, f2, f3, f4, f5, f6, f7⟩ := cL N5.out; have HX8 : Hid ((z0.setCell ⟨nb, 7, none⟩ (.int .i64 (max x.undos u))).heap[nb]? = some (.cells #[.int .i64 x.dev, .int .i64 x.seq, .int .i64 x.stamp, .int .i64 x.kind, .string x.item, .int .i64 x.qty, .int .i64 x.level, .int .i64 (max x.undos u)] 50 (0, 0))) := heap_setCell_same _ _ _ _ _ _ N5.out; have aBm : Hid ((z0.setCell ⟨nb, 7, none⟩ (.int .i64 (max x.undos u))).heap[ob]? = some (.cells #[.slice (some ⟨vb, vo, none⟩) 4 zc, .slice oa L.length oc] 27 (0, 0))) := (heap_setCell_other _ _ _ _ (by show ob ≠ nb; omega)).trans aMD.out
   have aCf : Hid ((z0.setCell ⟨nb, 7, none⟩ (.int .i64 (max x.undos u))).ownsRow (ob + 1) 50 8 (.slice oa L.length oc) L.length (aH L)) := X7 aJC.out (fun q hq => by have := HLt.out q hq; omega)
   have aFG : Hid (Below ob w2 (z0.setCell ⟨nb, 7, none⟩ (.int .i64 (max x.undos u)))) := aMT.out.setCell (by show ob ≤ nb; omega) _
   have hS8 : (z0.setCell ⟨nb, 7, none⟩ (.int .i64 (max x.undos u))).cell? ⟨w.heap.size + 1, 1, none⟩ = some (.slice (some ⟨b2, aQ, none⟩) mo eo) ∧ (z0.setCell ⟨nb, 7, none⟩ (.int .i64 (max x.undos u))).cell? ⟨b2, aQ + k * 8 + 7, none⟩ = some (.int .i64 u) := ⟨(cell_of_block (heap_setCell_other _ _ _ _ (by show w.heap.size + 1 ≠ nb; omega))).trans hS.1, (cell_of_block (heap_setCell_other _ _ _ _ (by show b2 ≠ nb; omega))).trans hS.2⟩
   have aH4 : (z0.setCell ⟨nb, 7, none⟩ (.int .i64 (max x.undos u))).heap.size = z0.heap.size := World.size_setCell _ _ _
   go_wp2_with fail
   refine wp_region_held_drew (S := fun w' => w'.cell? ⟨w.heap.size + 1, 1, none⟩ = some (.slice (some ⟨b2, aQ, none⟩) mo eo) ∧ w'.cell? ⟨b2, aQ + k * 8 + 7, none⟩ = some (.int .i64 u)) (by kernel_rfl) (by rw [dA]; exact hS) (fun aP => ?_)
   rw [dA]; clear aP; refine tj 0 ?_
   refine tj 2 ?_
   refine tj 3 ?_
   refine tj 4 ?_
   refine tj 5 ?_
   refine tj 6 ?_
   refine tj 7 ?_
   refine rk 1 rfl (fun K hK => ?_)
   go_simp
   refine hK.out _ _ hS (fun qX => ?_)
   clear hK K
   (try simp only [Act.put, u1, u2, u3])
   refine tj 8 ?_
   refine tj 9 ?_
   refine rk 10 rfl (fun K hK => ?_)
   go_simp
   refine hK.out _ _ hS8 (fun qW => ?_)
   clear hK K
   (try simp only [Act.put, u1, u2, u3])
   refine wpAnyH_done (by kernel_rfl) ?_ _
   clear hS hS8 qX qW N5 aMD aJC aMT e0 e1 e2 e3 e4 e5 e6 e7 f0 f1 f2 f3 f4 f5 f6 f7; generalize hmx : max x.undos u = mx at HX8 aBm aCf aFG aH4 HFy ⊢; generalize z0.setCell ⟨nb, 7, none⟩ (.int .i64 mx) = w8 at HX8 aBm aCf aFG aH4 ⊢; clear hmx dA aH4 aNs; obtain ⟨e0, e1, e2, e3, e4, e5, e6, e7⟩ := aM HX8.out; obtain ⟨o0, o1⟩ := pair_cells aBm.out; have aM7 := bS aBm.out; have tD := aCf.out.alloc (.cells #[.int .i64 x.dev, .int .i64 x.seq, .int .i64 x.stamp, .int .i64 x.kind, .string x.item, .int .i64 x.qty, .int .i64 x.level, .int .i64 mx] 50)
   go_upto_region 12 with fail
   have aMJ : Hid (dE l m d s = x.with mx) := HFy.out; generalize hX : x.with mx = xx at aMJ
   go_wp2_with (at_builtin; refine wpList_append_own _ rfl _ _ 25 rfl (ob + 1) 50 i0 (.agg #[.int .i64 0, .int .i64 0, .int .i64 0, .int .i64 0, .string ⟨#[]⟩, .int .i64 0, .int .i64 0, .int .i64 0]) 8 72 Tryz.underlying25 hi gI jK jB rfl (by decide) _ _ _ rfl tD ⟨w8.heap.size, 0, none⟩ 1 1 (bR xx) rfl ?c0 ?c1 ?c2 ?c3 ?c4 ?c5 ?_)
   case c0 => rfl
   case c1 =>
    rw [← hX]; exact zY w8 (x.with mx)
   case c2 =>
    intro u hu
    exact iG [xx] u (by show u ∈ bR xx ++ []; rw [List.append_nil]; exact hu)
   case c3 => unfold maxLen; omega
   case c4 => omega
   case c5 => simp; omega
   intro v' w9 gF gP _
   have aLE : Below ob w8 w9 := ((Below.refl ob w8).alloc (by omega) (.cells #[.int .i64 x.dev, .int .i64 x.seq, .int .i64 x.stamp, .int .i64 x.kind, .string x.item, .int .i64 x.qty, .int .i64 x.level, .int .i64 mx] 50)).grown gP (by simp; omega) (fun j hj => by have := (tD.lt j hj).1; omega)
   have aFC : Hid (w9.heap[ob]? = some (.cells #[.slice (some ⟨vb, vo, none⟩) 4 zc, .slice oa L.length oc] 27 (0, 0))) := (gP.block ob (by show _ < (w8.heap.push _).size; simp; omega) (fun h => by have := (tD.lt ob h.symm).1; omega)).trans ((Below.heap_alloc _ _ _ aM7).trans aBm.out)
   obtain ⟨eO, eN, rfl⟩ : ∃ eO eN, v' = .slice eO (L.length + 1) eN := by
    rcases gF.2 with ⟨_, e2⟩ | ⟨_, c2, _, e2, _⟩
    ·omega
    ·exact ⟨_, c2, e2⟩
   have aMR : Hid ((w9.setCell ⟨ob, 1, none⟩ (.slice eO (L.length + 1) eN)).heap[ob]? = some (.cells #[.slice (some ⟨vb, vo, none⟩) 4 zc, .slice eO (L.length + 1) eN] 27 (0, 0))) := heap_setCell_same _ _ _ _ _ _ aFC.out; have aJB : Hid ((w9.setCell ⟨ob, 1, none⟩ (.slice eO (L.length + 1) eN)).ownsRow (ob + 1) 50 8 (.slice eO (L.length + 1) eN) (L.length + 1) (aH L ++ bR xx)) := X7 gF (fun q hq => by have := (gF.lt q hq).1; omega)
   have aMS : Hid (Below ob w2 (w9.setCell ⟨ob, 1, none⟩ (.slice eO (L.length + 1) eN))) := (aFG.out.trans (aLE.mono (by omega))).setCell aPw _
   have sH : Hid (mG ob (some ⟨vb, vo, none⟩) zc zs (dE l m) w2 (w9.setCell ⟨ob, 1, none⟩ (.slice eO (L.length + 1) eN)) d (s + 1)) := by
    show mG _ _ _ _ _ _ _ _ _
    unfold mG; rw [bZ.out, aMJ.out, iK, List.length_append]; exact ⟨eO, eN, aMR.out, aJB.out, aMS.out⟩
   have o19 := (pair_cells aFC.out).2; have fz9 := (aC aFC.out).2; clear tD gF gP aCf aFG HX8 aBm e0 e1 e2 e3 e4 e5 e6 e7 o0 o1 aMR aJB aMS aFC aLE; go_wp2
   go_roundw
   case rel => exact ⟨s + 1, by omega, by go_num, sH, HE⟩
   case measure => simp [intOf]; omega
set_option linter.unusedSimpArgs false in
set_option maxHeartbeats 40000000 in
theorem aDL (w : World) (B : Nat) (av ao bv bo : Option Addr) (nv cv no co mv dv mo eo : Nat) (xs : List Int) (l : List aA) (ys : List Int) (m : List aA) (hx : Ints w B av nv xs) (h : bK w B ao no l) (hy : Ints w B bv mv ys) (g : bK w B bo mo m) (hB : B ≤ w.heap.size) (hv : nv ≤ 1048576) (hn : no ≤ 1048576) (hm : ∀ i, i < no → (aB l i).item.size ≤ 1048576) (wM : mv ≤ 1048576) (vJ : mo ≤ 1048576) (nP : ∀ i, i < mo → (aB m i).item.size ≤ 1048576) :
  Calls Tryz.prog 105 #[.agg #[.slice av nv cv, .slice ao no co], .agg #[.slice bv mv dv, .slice bo mo eo]] w (aB3 (kQ xs l ys m) (uO xs ys (kQ xs l ys m)) (yH xs ys l m (kQ xs l ys m)) w) := by
 have hT := tR.mk0 w #[.slice av nv cv, .slice ao no co] #[.slice bv mv dv, .slice bo mo eo] #[.slice none 0 0, .slice none 0 0] 27 27 27
 have HV := aPu (hx.below hT.bel hB)
 have HO := aPu (h.below hT.bel hB)
 have HY := aPu (hy.below hT.bel hB)
 have HG := aPu (g.below hT.bel hB)
 have HT := aPu hT
 have HM := aPu hm
 have HM2 := aPu nP
 have hBw := hB
 clear hx h hy g hT hB hm nP
 go_enter Tryz.func105, Tryz.ntmps105
 go_wp2_with fail
 generalize ((w.alloc (.cells #[.slice av nv cv, .slice ao no co] 27)).alloc (.cells #[.slice bv mv dv, .slice bo mo eo] 27)).alloc (.cells #[.slice none 0 0, .slice none 0 0] 27) = w0 at HV HO HY HG HT ⊢
 have aE1 := HT.out.bel.size
 have qG := bS HT.out.res
 refine (sR w0 B av ao nv cv no co xs l HV.out HO.out (by omega) hv hn HM.out).mono ?_
 rintro e w1 ⟨rfl, aE⟩
 have iA := aPu (HV.out.below aE (by omega))
 have cI := aPu (HO.out.below aE (by omega))
 have HY1 := aPu (HY.out.below aE (by omega))
 have sM := aPu (HG.out.below aE (by omega))
 have aT := aPu (HT.out.next aE)
 have dZ := aE.size
 clear aE HV HO HY HG HT
 rcases hca : aD xs l with _ | _
 ·have HF := aPu (aGq (ys := ys) (m := m) hca)
  clear hca; obtain ⟨r0, r1⟩ := pair_cells aT.out.res; obtain ⟨fz0, fz1⟩ := aC aT.out.res; have oO := aPu (aT.out.set2S (.slice none 0 0) (.slice none 0 0)).1; have nM := aPu (aT.out.set2S (.slice none 0 0) (.slice none 0 0)).2; go_wp2
  change bodyPost _ _ _ _ _ ((w1.setCell ⟨w.heap.size + 1 + 1, 0, none⟩ (.slice none 0 0)).setCell ⟨w.heap.size + 1 + 1, 1, none⟩ (.slice none 0 0))
  generalize (w1.setCell ⟨w.heap.size + 1 + 1, 0, none⟩ (.slice none 0 0)).setCell ⟨w.heap.size + 1 + 1, 1, none⟩ (.slice none 0 0) = wf at oO nM ⊢; obtain ⟨q0, q1⟩ := pair_cells oO.out; exact bodyPost_ret (v := .tuple #[.agg #[.slice none 0 0, .slice none 0 0], .bool false]) (by simp [results, Tryz.results105, go_sem, q0, q1]) rfl ⟨none, 0, none, 0, by rw [HF.out]; rfl, by rw [HF.out]; exact H6 _ _ _ _, by rw [HF.out]; exact dV _ _ _ _, nM.out, by rw [HF.out]; exact cN, by rw [HF.out]; exact cN⟩
 obtain ⟨b0, b1⟩ := pair_cells aT.out.snd
 go_wp2_with fail
 refine (sR w1 B bv bo mv dv mo eo ys m HY1.out sM.out (by omega) wM vJ HM2.out).mono ?_
 rintro e w2 ⟨rfl, aG⟩
 have jW := aPu (iA.out.below aG (by omega))
 have fZ := aPu (cI.out.below aG (by omega))
 have HY2 := aPu (HY1.out.below aG (by omega))
 have W6 := aPu (sM.out.below aG (by omega))
 have aJ := aPu (aT.out.next aG)
 have dS := aG.size
 have aOO := bS aJ.out.res
 clear aG iA cI HY1 sM aT b0 b1
 rcases hcb : aD ys m with _ | _
 ·have HF := aPu (aGp (xs := xs) (l := l) hcb)
  clear hca hcb; obtain ⟨r0, r1⟩ := pair_cells aJ.out.res; obtain ⟨fz0, fz1⟩ := aC aJ.out.res; have oO := aPu (aJ.out.set2S (.slice none 0 0) (.slice none 0 0)).1; have nM := aPu (aJ.out.set2S (.slice none 0 0) (.slice none 0 0)).2; go_wp2
  change bodyPost _ _ _ _ _ ((w2.setCell ⟨w.heap.size + 1 + 1, 0, none⟩ (.slice none 0 0)).setCell ⟨w.heap.size + 1 + 1, 1, none⟩ (.slice none 0 0))
  generalize (w2.setCell ⟨w.heap.size + 1 + 1, 0, none⟩ (.slice none 0 0)).setCell ⟨w.heap.size + 1 + 1, 1, none⟩ (.slice none 0 0) = wf at oO nM ⊢; obtain ⟨q0, q1⟩ := pair_cells oO.out; exact bodyPost_ret (v := .tuple #[.agg #[.slice none 0 0, .slice none 0 0], .bool false]) (by simp [results, Tryz.results105, go_sem, q0, q1]) rfl ⟨none, 0, none, 0, by rw [HF.out]; rfl, by rw [HF.out]; exact H6 _ _ _ _, by rw [HF.out]; exact dV _ _ _ _, nM.out, by rw [HF.out]; exact cN, by rw [HF.out]; exact cN⟩
 have HFk := aPu (aGo hca hcb)
 obtain ⟨a0, a1⟩ := pair_cells aJ.out.fst
 obtain ⟨b0, b1⟩ := pair_cells aJ.out.snd
 go_wp2_with fail
 refine (aHU w2 B av ao bv bo nv cv no co mv dv mo eo xs l ys m jW.out fZ.out HY2.out W6.out (by omega) hv hn HM.out wM vJ HM2.out hca hcb).mono ?_
 rintro e w3 ⟨va, vc, oa, oc, rfl, hiv, dX, aR, bX, cD⟩
 rw [← HFk.out] at hiv dX bX cD ⊢
 have nZ := aPu bX
 have oP := aPu cD
 clear bX cD
 have bD := aPu (aJ.out.next aR)
 have HI := aPu hiv
 have HP := aPu dX
 have hU := aR.size
 clear hiv dX aR jW fZ HY2 W6 aJ a0 a1 b0 b1 hca hcb
 generalize lP : uO xs ys (kQ xs l ys m) = zs at HI nZ ⊢
 generalize hLs : yH xs ys l m (kQ xs l ys m) = L at HP oP ⊢
 have HZs := aPu lP
 have qC := aPu hLs
 clear lP hLs
 rcases hok : kQ xs l ys m with _ | _
 ·have HF := aPu hok
  clear hok
  go_upto_region 4 with fail
  have cW : Below w3.heap.size w3 (w3.alloc (.cells #[.slice va zs.length vc, .slice oa L.length oc] 27)) := bl; have fJ := aPu (bD.out.next cW); generalize w3.alloc (.cells #[.slice va zs.length vc, .slice oa L.length oc] 27) = w4 at cW fJ ⊢; clear cW; obtain ⟨r0, r1⟩ := pair_cells fJ.out.res; obtain ⟨fz0, fz1⟩ := aC fJ.out.res; have oO := aPu (fJ.out.set2S (.slice none 0 0) (.slice none 0 0)).1; have nM := aPu (fJ.out.set2S (.slice none 0 0) (.slice none 0 0)).2; go_wp2
  change bodyPost _ _ _ _ _ ((w4.setCell ⟨w.heap.size + 1 + 1, 0, none⟩ (.slice none 0 0)).setCell ⟨w.heap.size + 1 + 1, 1, none⟩ (.slice none 0 0))
  generalize (w4.setCell ⟨w.heap.size + 1 + 1, 0, none⟩ (.slice none 0 0)).setCell ⟨w.heap.size + 1 + 1, 1, none⟩ (.slice none 0 0) = wf at oO nM ⊢; obtain ⟨q0, q1⟩ := pair_cells oO.out; exact bodyPost_ret (v := .tuple #[.agg #[.slice none 0 0, .slice none 0 0], .bool false]) (by simp [results, Tryz.results105, go_sem, q0, q1]) rfl ⟨none, 0, none, 0, by rw [HF.out]; rfl, by rw [HF.out]; exact H6 _ _ _ _, by rw [HF.out]; exact dV _ _ _ _, nM.out, by rw [HF.out]; exact cN, by rw [HF.out]; exact cN⟩
 have HF := aPu hok
 clear hok
 go_upto_region 4 with fail
 have cW : Below w3.heap.size w3 (w3.alloc (.cells #[.slice va zs.length vc, .slice oa L.length oc] 27)) := bl
 have fJ := aPu (bD.out.next cW)
 have N6 := aPu (bE (Below.refl _ (w3.alloc (.cells #[.slice va zs.length vc, .slice oa L.length oc] 27))))
 have fK := aPu (HI.out.below cW aPw)
 have nU := aPu (HP.out.below cW aPw)
 generalize w3.alloc (.cells #[.slice va zs.length vc, .slice oa L.length oc] 27) = w4 at cW fJ N6 fK nU ⊢
 have F0 := cW.size
 clear cW bD HI HP
 obtain ⟨r0, r1⟩ := pair_cells fJ.out.res
 obtain ⟨fz0, fz1⟩ := aC fJ.out.res
 obtain ⟨x0, x1⟩ := pair_cells N6.out
 have hrl := bS fJ.out.res
 have oO := aPu (fJ.out.set2S (.slice va zs.length vc) (.slice oa L.length oc)).1
 have nM := aPu (fJ.out.set2S (.slice va zs.length vc) (.slice oa L.length oc)).2
 have aE0 : ((w4.setCell ⟨w.heap.size + 1 + 1, 0, none⟩ (.slice va zs.length vc)).setCell ⟨w.heap.size + 1 + 1, 1, none⟩ (.slice oa L.length oc)).heap.size = w4.heap.size := aZ _ _ _ _
 have HZ6 : Hid (Own ((w4.setCell ⟨w.heap.size + 1 + 1, 0, none⟩ (.slice va zs.length vc)).setCell ⟨w.heap.size + 1 + 1, 1, none⟩ (.slice oa L.length oc)) w2.heap.size w3.heap.size va zs.length zs) := fK.out.kept fun j h1 h2 => aF _ _ (by omega)
 have HO6 : Hid (bB ((w4.setCell ⟨w.heap.size + 1 + 1, 0, none⟩ (.slice va zs.length vc)).setCell ⟨w.heap.size + 1 + 1, 1, none⟩ (.slice oa L.length oc)) w2.heap.size w3.heap.size oa L.length L) := nU.out.kept fun j h1 h2 => aF _ _ (by omega)
 have HsM : Hid (w4.heap.size = ((w4.setCell ⟨w.heap.size + 1 + 1, 0, none⟩ (.slice va zs.length vc)).setCell ⟨w.heap.size + 1 + 1, 1, none⟩ (.slice oa L.length oc)).heap.size) := aE0.symm
 clear aE0
 go_wp2
 change bodyPost _ _ _ _ _ ((w4.setCell ⟨w.heap.size + 1 + 1, 0, none⟩ (.slice va zs.length vc)).setCell ⟨w.heap.size + 1 + 1, 1, none⟩ (.slice oa L.length oc))
 generalize (w4.setCell ⟨w.heap.size + 1 + 1, 0, none⟩ (.slice va zs.length vc)).setCell ⟨w.heap.size + 1 + 1, 1, none⟩ (.slice oa L.length oc) = wf at oO nM HZ6 HO6 HsM ⊢
 obtain ⟨q0, q1⟩ := pair_cells oO.out
 have hsm := HsM.out
 exact bodyPost_ret (v := .tuple #[.agg #[.slice va zs.length vc, .slice oa L.length oc], .bool true]) (by simp [results, Tryz.results105, go_sem, q0, q1]) rfl ⟨va, vc, oa, oc, by rw [HZs.out, qC.out, HF.out], by rw [HZs.out]; exact HZ6.out.more (by omega) (by omega), by rw [qC.out]; exact HO6.out.more (by omega) (by omega), nM.out, by rw [HZs.out]; exact nZ.out, by rw [qC.out]; exact oP.out⟩
end Go.Proofs.YthkagbnpcjidfaaGreatDoor
