/- Walks and mathematics that several claims share, part 38. -/
import Derived.Test.YthkagbnpcjidfaaGreatDoorGy26
import Derived.Test.YthkagbnpcjidfaaGreatDoorGy21
import Derived.Test.YthkagbnpcjidfaaGreatDoorGy14
import Derived.Laws.MakeOwn
import Derived.Deep.Cut
import Derived.Deep.RegionHeld3
import Derived.Test.YthkagbnpcjidfaaGreatDoorGyA
namespace Go.Proofs.YthkagbnpcjidfaaGreatDoor
set_option maxRecDepth 100000
open Go.RowKit
set_option linter.unusedVariables false
set_option linter.unusedSimpArgs false

theorem aAu {w : World} {base b i n : Nat} {v u : Value} {xs : List Value} (h : w.ownsRow base 50 8 v n xs) (hb : ∀ g, v.ownBlock = some g → g ≠ b) : (w.setCell ⟨b, i, none⟩ u).ownsRow base 50 8 v n xs := by
 refine h.kept (row := some b) ⟨rfl, rfl, rfl, by simp [World.setCell], fun j _ bH => heap_setCell_other _ _ _ _ (fun e => bH (by rw [e]))⟩ ?_
 rcases hg : v.ownBlock with _ | g
 ·exact .inl rfl
 ·refine .inr fun e => ?_
  injection e with e; exact hb g hg e
theorem lA.len {w : World} {b n : Nat} {f : Int → Int → Option aA} (h : lA w b n f) : ∃ c : Nat, c ≤ n ∧ ∀ ty, (Builtin.len_ #[82] ty #[.map (some b)]).run Tryz.prog w = .ok (.int .i64 (c : Int)) w := by
 obtain ⟨D, h1, _⟩ := h
 exact ⟨_, h1.size_le, fun ty => h1.len Tryz.underlying82 ty⟩
/-- A cart that the call hands back, as it is read, and a flag. -/
def aKh (ok : Bool) (zs : List Int) (L : List aA) (w : World) (e : Ending) (w' : World) : Prop := ∃ va vc oa oc, e = .returned (.tuple #[.agg #[.slice va zs.length vc, .slice oa L.length oc], .bool ok]) ∧ Own w' w.heap.size w'.heap.size va zs.length zs ∧ bF w' w.heap.size w'.heap.size oa L.length L ∧ Below w.heap.size w w'
def O6 (ok : Bool) (zs : List Int) (L : List aA) (w : World) (e : Ending) (w' : World) : Prop := ∃ va vc oa oc, e = .returned (.tuple #[.agg #[.slice va zs.length vc, .slice oa L.length oc], .bool ok]) ∧ Own w' w.heap.size w'.heap.size va zs.length zs ∧ bF w' w.heap.size w'.heap.size oa L.length L ∧ Below w.heap.size w w' ∧ bP va zs.length vc ∧ bP oa L.length oc
theorem O6.read {ok : Bool} {zs : List Int} {L : List aA} {w : World} (e : Ending) (w' : World) (h : O6 ok zs L w e w') : aKh ok zs L w e w' := by
 obtain ⟨va, vc, oa, oc, h1, h2, h3, h4, _⟩ := h
 exact ⟨va, vc, oa, oc, h1, h2, h3, h4⟩
theorem yY.set2S {w w1 : World} {x y : Array Value} {z0 z1 : Value} {S T U : TypeId} (h : yY w w1 x y #[z0, z1] S T U) (u v : Value) :
  ((w1.setCell ⟨w.heap.size + 1 + 1, 0, none⟩ u).setCell ⟨w.heap.size + 1 + 1, 1, none⟩ v).heap[w.heap.size + 1 + 1]? = some (.cells #[u, v] U (0, 0)) ∧ Below w.heap.size w ((w1.setCell ⟨w.heap.size + 1 + 1, 0, none⟩ u).setCell ⟨w.heap.size + 1 + 1, 1, none⟩ v) :=
 ⟨cK _ _ h.res, (h.bel.setCell (by show _ ≤ w.heap.size + 1 + 1; omega) _).setCell (by show _ ≤ w.heap.size + 1 + 1; omega) _⟩
theorem U1 (w : World) (lo hi : Nat) (a : Option Addr) : Own w lo hi a 0 [] := ⟨rfl, fun h => absurd h (by omega)⟩
theorem aCW {a b : aA} : kG a b = kG b a := by
 rcases h : kG a b with _ | _
 ·rcases h2 : kG b a with _ | _
  ·rfl
  ·have e := T8 h2
   rw [e] at h; have := aCV b a.undos; have h3 : kG (b.with a.undos) b = kG b (b.with a.undos) := by unfold kG aA.with; simp
   rw [h3, this] at h; cases h
 ·have e := T8 h
  rw [e]; have h3 : kG (a.with b.undos) a = kG a (a.with b.undos) := by unfold kG aA.with; simp
  rw [h3]; exact (aCV a b.undos).symm
/-- The cart that is being made, in its box. -/
def pF (ob : Nat) (zv : Option Addr) (zc : Nat) (zs : List Int) (F : Nat → Nat → aA) (w2 wr : World) (d s : Nat) : Prop :=
 ∃ oa oc, wr.heap[ob]? = some (.cells #[.slice zv 4 zc, .slice oa (fK zs F d s).length oc] 27 (0, 0)) ∧ wr.ownsRow (ob + 1) 50 8 (.slice oa (fK zs F d s).length oc) (fK zs F d s).length (aH (fK zs F d s)) ∧ Below ob w2 wr
def okP (l m : List aA) (d s : Nat) : Prop := ∀ a b, nM l (d : Int) ((s : Int) + 1) = some a → nM m (d : Int) ((s : Int) + 1) = some b → kG a b = true
theorem zF {P : Program} {o : Oper} {a : Act} {w : World} {K : Act → World → Prop} {Q : Exit → Act → World → Prop} (x y : Operand) (ts : Array TypeId) (cD : o.op = Op.call { callee := Callee.builtin Builtin.append, args := #[x, y], argTypes := ts }) (v1 v2 : Value) {v' : Value} {w' : World} (h1 : a.eval x = v1) (h2 : a.eval y = v2)
  (hrun : (Builtin.append_ ts o.type #[v1, v2]).run P w = .ok v' w') (hK : K (a.put o.dst v') w') : Oper.wp P o a w K Q := by
 unfold Oper.wp
 simp [execOp, cD, resolve, invoke, builtin, h1, h2, hrun, Result.andThen]
 exact hK
theorem aH8 (zs : List Int) (F : Nat → Nat → aA) (d s : Nat) {i : Nat} (hi : i < (fK zs F d s).length) : ∃ e t, aC (fK zs F d s) i = F e t := by
 have hm : (fK zs F d s)[i] ∈ fK zs F d s := List.getElem_mem hi
 have ha : aC (fK zs F d s) i = (fK zs F d s)[i] := by unfold aC; rw [List.getD_eq_getElem?_getD, List.getElem?_eq_getElem hi]; rfl
 rw [ha]
 unfold fK at hm ⊢
 rcases List.mem_append.1 hm with h | h
 ·obtain ⟨e, _, h2⟩ := List.mem_flatMap.1 h
  obtain ⟨t, _, h3⟩ := List.mem_map.1 h2; exact ⟨e, t, h3.symm⟩
 ·obtain ⟨t, _, h3⟩ := List.mem_map.1 h
  exact ⟨d, t, h3.symm⟩
theorem yY.low {w w1 w2 : World} {x y z : Array Value} {S T U : TypeId} {B : Nat} (h : yY w w1 x y z S T U) (hb : Below B w1 w2) (hB : w.heap.size + 1 + 1 < B) : yY w w2 x y z S T U :=
 ⟨(hb.block _ (by omega)).trans h.fst, (hb.block _ (by omega)).trans h.snd, (hb.block _ hB).trans h.res, h.bel.trans (hb.mono (by omega))⟩
theorem aLV {zs : List Int} {l m : List aA} {ys : List Int} (h2 : aE ys m = true) (hz : ∀ d, d < 4 → ys.getD d 0 ≤ zs.getD d 0) (h : ∀ d, d < 4 → ∀ s : Nat, (s : Int) < zs.getD d 0 → okP l m d s) : tY l m = true :=
 aLW fun i hi => by
  obtain ⟨d, hd, _, _, _, h3, _⟩ := vS h2 hi; have hq := aEI h2 hi h3; have hzd := hz d hd; obtain ⟨s, hs⟩ : ∃ s : Nat, (s : Int) + 1 = (aC m i).seq := ⟨((aC m i).seq - 1).toNat, by omega⟩
  have hp := h d hd s (by omega)
  unfold okP at hp; rw [← h3, hs] at hp; have hm : nM m (aC m i).dev (aC m i).seq = some (aC m i) := yO (yW h2) m.length aRC i hi; rcases hg : nM l (aC m i).dev (aC m i).seq with _ | a
  ·exact aJe hg
  ·rw [aA2 hg, aCW]
   exact hp a _ hg hm
theorem aJc {l m : List aA} {d s : Nat} {a b : aA} {k : Nat} (hk : k < m.length) (hb : aC m k = b) (e : b.dev = (d : Int) ∧ b.seq = (s : Int) + 1) (ha : nM l (d : Int) ((s : Int) + 1) = some a) (h : kG a b = false) : tY l m = false :=
 aJd hk (by rw [aA2 (y := a) (by rw [hb, e.1, e.2]; exact ha), hb, aCW]; exact h)

def yT (xs ys : List Int) (ok : Bool) : List Int := if ok = true then oE xs ys else []
def I3 (xs ys : List Int) (l m : List aA) (ok : Bool) : List aA := if ok = true then m0 (oE xs ys) l m else []
set_option linter.unusedSimpArgs false in
set_option maxHeartbeats 80000000 in
theorem aJw (w : World) (B : Nat) (av ao bv bo : Option Addr) (nv cv no co mv dv mo eo : Nat) (xs : List Int) (l : List aA) (ys : List Int) (m : List aA) (hx : Ints w B av nv xs) (h : bS w B ao no l) (hy : Ints w B bv mv ys) (g : bS w B bo mo m) (hB : B ≤ w.heap.size) (hv : nv ≤ 1048576) (hn : no ≤ 1048576) (hm : ∀ i, i < no → (aC l i).item.size ≤ 1048576) (N3 : mv ≤ 1048576) (D2 : mo ≤ 1048576) (iM : ∀ i, i < mo → (aC m i).item.size ≤ 1048576) (hca : aE xs l = true) (hcb : aE ys m = true) :
  Calls Tryz.prog 131 #[.agg #[.slice av nv cv, .slice ao no co], .agg #[.slice bv mv dv, .slice bo mo eo]] w (O6 (tY l m) (yT xs ys (tY l m)) (I3 xs ys l m (tY l m)) w) := by
 obtain ⟨i0, hi, iF, kO, jU⟩ := info_parts Tryz.infoOp
 have hT := yY.mk0 w #[.slice av nv cv, .slice ao no co] #[.slice bv mv dv, .slice bo mo eo] #[.slice none 0 0, .slice none 0 0] 27 27 27
 have HV := aRA (hx.below hT.bel hB)
 have HO := aRA (h.below hT.bel hB)
 have HY := aRA (hy.below hT.bel hB)
 have HG := aRA (g.below hT.bel hB)
 have HT := aRA hT
 have HL := aRA h.1
 have HLm := aRA g.1
 have hvA := (lO hca).1
 have hvB := (lO hcb).1
 have hv4 := (gR hvA (d := 0) (by omega)).2.2
 have aM7 := (gR hvB (d := 0) (by omega)).2.2
 have HVm := aRA (aCp hvA hvB)
 have HZv : Hid (R3 max xs ys = oE xs ys) := by show _ = _; rw [aBm (by rw [hvA, hvB]; rfl)]; rfl
 have hz4 : (oE xs ys).length = 4 := (gR HVm.out (d := 0) (by omega)).2.2
 have HZd : Hid (∀ d, d < 4 → (oE xs ys).getD d 0 = max (xs.getD d 0) (ys.getD d 0)) := fun d hd => aCq hv4 aM7 hd
 have tM : Hid (∀ d s, (dX l m d s).item.size ≤ 1048576) := fun d s => aFj (N := 1048576) (fun i hi => hm i (by rw [← h.1]; exact hi)) (fun i hi => iM i (by rw [← g.1]; exact hi)) d s
 have iR := aRA hca
 have C1 := aRA hcb
 have HVd := aRA (fun d (hd : d < 4) => gR (aCp hvA hvB) hd)
 have hBw := hB
 clear hx h hy g hT hB hm iM hca hcb hvA hvB hv4 aM7
 go_enter Tryz.func131, Tryz.ntmps131
 go_wp2_with fail
 generalize ((w.alloc (.cells #[.slice av nv cv, .slice ao no co] 27)).alloc (.cells #[.slice bv mv dv, .slice bo mo eo] 27)).alloc (.cells #[.slice none 0 0, .slice none 0 0] 27) = w0 at HV HO HY HG HT ⊢
 have aJI := HT.out.bel.size
 have uV := aB HT.out.res
 refine (aIZ w0 B B av bv nv cv mv dv xs ys HV.out HY.out (by omega) (by omega) hv N3).mono ?_
 rintro e w1 ⟨zv, zc, rfl, aY, aI, hcz⟩
 rw [HZv.out, hz4] at aY hcz ⊢
 have HCz := aRA hcz
 clear hcz
 have dL := aRA (HO.out.below aI (by omega))
 have E4 := aRA (HG.out.below aI (by omega))
 have aZ := aRA (HT.out.next aI)
 have HZ1 := aRA aY
 have fH := aI.size
 clear aI HV HO HY HG HT aY HZv
 go_upto_region 2 with fail
 have aN : Below w1.heap.size w1 (w1.alloc (.cells #[.slice zv 4 zc, .slice none 0 0] 27)) := bl
 have sW := aRA (bL (Below.refl _ (w1.alloc (.cells #[.slice zv 4 zc, .slice none 0 0] 27))))
 have iZ := aRA (dL.out.below aN (by omega))
 have HG2 := aRA (E4.out.below aN (by omega))
 have aM := aRA (aZ.out.next aN)
 have HZ2 := aRA (HZ1.out.below aN aRC)
 generalize w1.alloc (.cells #[.slice zv 4 zc, .slice none 0 0] 27) = w2 at aN sW iZ HG2 aM HZ2 ⊢
 have eV := aN.size
 have q9 := aB sW.out
 generalize wS : w1.heap.size = ob at sW eV q9 fH HZ2 ⊢
 clear aN dL E4 aZ HZ1 wS
 have aN8 : Hid (pF ob zv zc (oE xs ys) (dX l m) w2 w2 0 0) := ⟨none, 0, sW.out, ⟨rfl, .inl ⟨rfl, rfl⟩⟩, Below.refl _ _⟩
 generalize oP : oE xs ys = zs at *
 go_wp2
 go_loopw [7] (fun i wr => ∃ d : Nat, d ≤ 4 ∧ i = .int .i64 (d : Int) ∧ Hid (pF ob zv zc zs (dX l m) w2 wr d 0) ∧ Hid (∀ e, e < d → ∀ s : Nat, (s : Int) < zs.getD e 0 → okP l m e s)) (fun i _ => 4 - (intOf i).toNat)
 case atStart => exact ⟨0, by omega, rfl, aN8, aRA (fun e he => absurd he (by omega))⟩
 case round =>
  obtain ⟨d, hd, rfl, HOu, E2⟩ := hrel; clear aN8 sW
  by_cases aK : d < 4
  rotate_left
  ·obtain rfl : d = 4 := by omega
   obtain ⟨oa, oc, Q2, gW, oG⟩ := HOu.out; have hok : tY l m = true := aLV C1.out (fun d hd => by rw [HZd.out d hd]; omega) E2.out
   have aQn := aRA hok; have HCm : Hid (aE zs (fK zs (dX l m) 4 0) = true) := by
    show _ = _
    rw [← oP]; exact aAT iR.out C1.out hok
   have HMv : Hid (yT xs ys (tY l m) = zs) := by show _ = _; rw [hok, ← oP]; rfl
   have HMo : Hid (I3 xs ys l m (tY l m) = fK zs (dX l m) 4 0) := by show _ = _; rw [hok, ← oP]; rfl
   have pE : (fK zs (dX l m) 4 0).length ≤ 1048576 := by
    rw [vL]; have h2 := aAs HVm.out 4 (by omega)
    omega
   have aOo : Hid (∀ i, i < (fK zs (dX l m) 4 0).length → (aC (fK zs (dX l m) 4 0) i).item.size ≤ 1048576) := fun i hi => by
    obtain ⟨d, s, e⟩ := aH8 zs (dX l m) 4 0 hi; rw [e]; exact tM.out d s
   have P1 := aRA Q2; have vD := aRA gW; have HBL := aRA oG; have qD := aRA (aM.out.low oG (by omega))
   have HZr := aRA (HZ2.out.below oG aRC); have aPM : ob < wr.heap.size := aB Q2; clear Q2 gW oG HOu hok oP iR C1 E2 HZ2 HZd tM; generalize fK zs (dX l m) 4 0 = L at P1 vD HCm HMo aOo pE; have aOb := aRA (gS vD.out (Nat.le_refl wr.heap.size)); have rO := aRA (hC vD.out); obtain ⟨z0, dO⟩ : ∃ z0, wr.drew = z0 := ⟨_, rfl⟩; have hS : z0.cell? ⟨ob, 0, none⟩ = some (.slice zv 4 zc) ∧ z0.cell? ⟨ob, 1, none⟩ = some (.slice oa L.length oc) := by rw [← dO]; exact pair_cells P1.out
   have Z8 : Hid (yY w z0 #[.slice av nv cv, .slice ao no co] #[.slice bv mv dv, .slice bo mo eo] #[.slice none 0 0, .slice none 0 0] 27 27 27) := by rw [← dO]; exact ⟨qD.out.fst, qD.out.snd, qD.out.res, ⟨qD.out.bel.os, qD.out.bel.tape, qD.out.bel.output, qD.out.bel.size, qD.out.bel.block⟩⟩
   have HZ0 : Hid (Own z0 w0.heap.size ob zv 4 zs) := by rw [← dO]; exact HZr.out.kept (w' := wr.drew) fun _ _ _ => rfl
   have HO0 : Hid (bF z0 (ob + 1) z0.heap.size oa L.length L) := by rw [← dO]; exact aOb.out.kept (w' := wr.drew) fun _ _ _ => rfl
   have aJP : ob ≤ z0.heap.size := by rw [← dO]; exact Nat.le_of_lt aPM
   clear P1 vD qD HZr aOb
   go_upto_region 19 with fail
   go_wp2_with fail
   refine wp_region_held_drew (S := fun w' => w'.cell? ⟨ob, 0, none⟩ = some (.slice zv 4 zc) ∧ w'.cell? ⟨ob, 1, none⟩ = some (.slice oa L.length oc)) (by kernel_rfl) (by rw [dO]; exact hS) (fun aP => ?_)
   rw [dO]; clear aP; refine tj 0 ?_
   refine tj 1 ?_
   refine rk 2 rfl (fun K hK => ?_)
   go_simp
   go_at_call 36
   refine (wF z0 z0.heap.size zv oa 4 zc L.length oc zs L (HZ0.out.ints.more aJP) HO0.out.ops aRC (by omega) pE aOo.out).mono ?_
   rintro e w5 ⟨rfl, bE⟩; rw [HCm.out]; have S5 : w5.cell? ⟨ob, 0, none⟩ = some (.slice zv 4 zc) ∧ w5.cell? ⟨ob, 1, none⟩ = some (.slice oa L.length oc) := ⟨(bE.cell (block_lt_of_cell hS.1)).trans hS.1, (bE.cell (block_lt_of_cell hS.2)).trans hS.2⟩; refine hK.out _ _ S5 (fun bZ => ?_)
   clear hK K
   (try simp only [Act.put, u1, u2, u3])
   have yI := aRA (Z8.out.next bE); have HZ5 := aRA (HZ0.out.below bE aJP); have HO5 := aRA ((HO0.out.below bE aRC).more aRC bE.size); have aQZ : ob ≤ w5.heap.size := Nat.le_trans aJP bE.size; obtain ⟨r0, r1⟩ := pair_cells yI.out.res; obtain ⟨fz0, fz1⟩ := aD yI.out.res; have hrl := aB aM.out.res; have hS6 : ((w5.setCell ⟨w.heap.size + 1 + 1, 0, none⟩ (.slice zv 4 zc)).setCell ⟨w.heap.size + 1 + 1, 1, none⟩ (.slice oa L.length oc)).cell? ⟨ob, 0, none⟩ = some (.slice zv 4 zc) ∧ ((w5.setCell ⟨w.heap.size + 1 + 1, 0, none⟩ (.slice zv 4 zc)).setCell ⟨w.heap.size + 1 + 1, 1, none⟩ (.slice oa L.length oc)).cell? ⟨ob, 1, none⟩ = some (.slice oa L.length oc) := ⟨(cell_of_block (aF _ _ (by omega))).trans S5.1, (cell_of_block (aF _ _ (by omega))).trans S5.2⟩
   have rM := aRA (yI.out.set2S (.slice zv 4 zc) (.slice oa L.length oc)).1; have qG := aRA (yI.out.set2S (.slice zv 4 zc) (.slice oa L.length oc)).2; have aGu : ((w5.setCell ⟨w.heap.size + 1 + 1, 0, none⟩ (.slice zv 4 zc)).setCell ⟨w.heap.size + 1 + 1, 1, none⟩ (.slice oa L.length oc)).heap.size = w5.heap.size := bA _ _ _ _; have HZ6 : Hid (Own ((w5.setCell ⟨w.heap.size + 1 + 1, 0, none⟩ (.slice zv 4 zc)).setCell ⟨w.heap.size + 1 + 1, 1, none⟩ (.slice oa L.length oc)) w0.heap.size ob zv 4 zs) := HZ5.out.kept fun j h1 h2 => aF _ _ (by omega)
   have HO6 : Hid (bF ((w5.setCell ⟨w.heap.size + 1 + 1, 0, none⟩ (.slice zv 4 zc)).setCell ⟨w.heap.size + 1 + 1, 1, none⟩ (.slice oa L.length oc)) (ob + 1) w5.heap.size oa L.length L) := HO5.out.kept fun j h1 h2 => aF _ _ (by omega)
   refine rk 3 rfl (fun K hK => ?_)
   go_simp
   refine hK.out _ _ hS6 (fun sQ => ?_)
   clear hK K
   (try simp only [Act.put, u1, u2, u3])
   refine tj 4 ?_
   refine wpAnyH_done (by kernel_rfl) ?_ _
   clear hS S5 hS6 bZ sQ bE Z8 HZ0 HO0 yI HZ5 HO5 r0 r1 fz0 fz1; generalize (w5.setCell ⟨w.heap.size + 1 + 1, 0, none⟩ (.slice zv 4 zc)).setCell ⟨w.heap.size + 1 + 1, 1, none⟩ (.slice oa L.length oc) = wf at rM qG HZ6 HO6 aGu ⊢; obtain ⟨q0, q1⟩ := pair_cells rM.out; go_wp2
   exact bodyPost_ret (v := .tuple #[.agg #[.slice zv 4 zc, .slice oa L.length oc], .bool true]) (by simp [results, Tryz.results131, go_sem, q0, q1]) rfl ⟨zv, zc, oa, oc, by rw [HMv.out, HMo.out, aQn.out, hz4], by rw [HMv.out, hz4]; exact HZ6.out.more (by omega) (by omega), by rw [HMo.out]; exact HO6.out.more (by omega) (by omega), qG.out, by rw [HMv.out, hz4]; exact HCz.out, by rw [HMo.out]; exact rO.out⟩
  obtain ⟨g1, g2, _⟩ := HVd.out d aK; obtain ⟨q, hq⟩ := Int.eq_ofNat_of_zero_le g1; have Y5 : (d : Int) < 4 := by omega
  have aN9 : Hid (Below ob w2 wr) := by obtain ⟨_, _, _, _, h⟩ := HOu.out; exact h
  have HZc : Hid (∀ vb vo, zv = some ⟨vb, vo, none⟩ → w2.cell? ⟨vb, vo + d, none⟩ = some (.int .i64 (q : Int))) := fun vb vo e => by
   obtain ⟨vb', vo', e', _, hc⟩ := HZ2.out.ints.2 d aK; rw [e] at e'; cases e'; rw [hq] at hc; exact hc
  have HZr := aRA (HZ2.out.ints.below aN9.out aRC); obtain ⟨vb, vo, rfl, hvb, _⟩ := HZr.out.2 d aK; clear HZr; go_wp2
  go_loopw [8] (fun sq wr => ∃ s : Nat, s ≤ q ∧ sq = .int .i64 ((s : Int) + 1) ∧ Hid (pF ob (some ⟨vb, vo, none⟩) zc zs (dX l m) w2 wr d s) ∧ Hid (∀ e, e < s → okP l m d e)) (fun sq _ => q + 1 - (intOf sq).toNat)
  case atStart => exact ⟨0, Nat.zero_le _, rfl, HOu, aRA (fun e he => absurd he (by omega))⟩
  case round =>
   obtain ⟨s, hsq, rfl, aOa, aOe⟩ := hrel; clear HOu aN9; obtain ⟨oa, oc, Q2, gW, oG⟩ := aOa.out; have P1 := aRA Q2; have vD := aRA gW; have HBL := aRA oG; have aGx := aB Q2; have qD := aRA (aM.out.low oG (by omega))
   have HOr := aRA (iZ.out.below oG (by omega))
   have HGr := aRA (HG2.out.below oG (by omega))
   have c0 := (oG.cell (p := ⟨vb, vo + d, none⟩) hvb).trans (HZc.out vb vo rfl); obtain ⟨o0, o1⟩ := pair_cells Q2; clear Q2 gW oG aOa
   by_cases jD : s < q
   rotate_left
   ·obtain rfl : s = q := by omega
    have aP3 : ¬ ((s : Int) + 1 ≤ (s : Int)) := by omega
    have vU : Hid (pF ob (some ⟨vb, vo, none⟩) zc zs (dX l m) w2 wr (d + 1) 0) := by
     show pF _ _ _ _ _ _ _ _ _
     unfold pF; rw [E9, hq]; exact ⟨oa, oc, P1.out, vD.out, HBL.out⟩
    have aQm : Hid (∀ e, e < d + 1 → ∀ s : Nat, (s : Int) < zs.getD e 0 → okP l m e s) := fun e he t ht => by
     rcases Nat.lt_or_ge e d with h1 | h1
     ·exact E2.out e h1 t ht
     ·obtain rfl : e = d := by omega
      exact aOe.out t (by rw [hq] at ht; omega)
    clear P1 vD HBL; go_wp2
    go_roundw
    case rel => exact ⟨d + 1, by omega, by go_num, vU, aQm⟩
    case measure => simp [intOf]; omega
   have aP3 : (s : Int) + 1 ≤ (q : Int) := by omega
   have hmx := HZd.out d aK; rw [hq] at hmx; have HMx := aRA hmx; clear hmx; have cZ := aRA (E8 zs (dX l m) d s); have pE : (fK zs (dX l m) d s).length ≤ 1048576 := by
    rw [vL]; have h1 := lD zs d 4 (by omega)
    have h2 := aAs HVm.out 4 (by omega)
    omega
   have aKH : Hid (dX l m d s = pS l m (d : Int) ((s : Int) + 1)) := rfl; have aQp : Hid ((s : Int) < xs.getD d 0 → (∀ j, j < no → ¬ K6 l j (d : Int) ((s : Int) + 1)) → False) := fun h1 h2 => by
    obtain ⟨h3, h4⟩ := K9 iR.out aK h1; exact h2 _ (by rw [← HL.out]; exact h3) h4
   have aQo : Hid ((s : Int) < ys.getD d 0 → (∀ j, j < mo → ¬ K6 m j (d : Int) ((s : Int) + 1)) → False) := fun h1 h2 => by
    obtain ⟨h3, h4⟩ := K9 C1.out aK h1; exact h2 _ (by rw [← HLm.out]; exact h3) h4
   have aKA : Hid (okP l m d s → ∀ e, e < s + 1 → okP l m d e) := fun h e he => by
    rcases Nat.lt_or_ge e s with h1 | h1
    ·exact aOe.out e h1
    ·obtain rfl : e = s := by omega
     exact h
   generalize fK zs (dX l m) d s = L at P1 vD cZ pE o0 o1 ⊢; obtain ⟨a0, a1⟩ := pair_cells qD.out.fst; obtain ⟨b0, b1⟩ := pair_cells qD.out.snd
   go_wp2_with fail
   refine (aJx wr B ao no co l (d : Int) ((s : Int) + 1) HOr.out hn).mono ?_
   rintro e w5 ⟨hor, rfl⟩; rcases hor with ⟨i, tJ, hie, rfl⟩ | ⟨hM, rfl⟩
   rotate_left
   ·have cF : nM l (d : Int) ((s : Int) + 1) = none := M7 _ fun j hj => hM j (by rw [← HL.out]; exact hj)
    have yC : (s : Int) < ys.getD d 0 := by
     have hmx := HMx.out; rcases Int.lt_or_le (s : Int) (xs.getD d 0) with h1 | h1
     ·exact (aQp.out h1 hM).elim
     ·omega
    have HNo := aRA hM; clear hM
    go_wp2_with fail
    refine (aJx wr B bo mo eo m (d : Int) ((s : Int) + 1) HGr.out D2).mono ?_
    rintro e w5 ⟨hor, rfl⟩; obtain ⟨k, hkm, R9, rfl⟩ : ∃ k : Nat, k < mo ∧ K6 m k (d : Int) ((s : Int) + 1) ∧ e = .returned (.int .i64 (k : Int)) := hor.resolve_right (fun h => aQo.out yC h.1)
    clear hor; obtain ⟨b2, aS, rfl, aN, ho2⟩ := HGr.out.2 k hkm; have B8 : Hid (xC wr b2 (aS + k * 8) (aC m k)) := ho2; have fI : nM m (d : Int) ((s : Int) + 1) = some (aC m k) := by
     have := yO (yW C1.out) m.length aRC k (by rw [HLm.out]; exact hkm)
     rw [R9.1, R9.2] at this; exact this
    have HFy : Hid (dX l m d s = aC m k) := by show _ = _; rw [aKH.out]; unfold pS; rw [cF, fI]
    have HE := aRA (aKA.out fun a b ha hb => by rw [cF] at ha; cases ha)
    have hki : (k : Int) < (mo : Int) := by omega
    clear ho2 cF fI R9 yC; generalize aC m k = y at B8 HFy; obtain ⟨c0', c1', c2', c3', c4', c5', c6', c7'⟩ := B8.out; have hSw : wr.cell? ⟨w.heap.size + 1, 1, none⟩ = some (.slice (some ⟨b2, aS, none⟩) mo eo) ∧ wr.cell? ⟨b2, aS + k * 8, none⟩ = some (.int .i64 y.dev) ∧ wr.cell? ⟨b2, aS + k * 8 + 1, none⟩ = some (.int .i64 y.seq) ∧ wr.cell? ⟨b2, aS + k * 8 + 2, none⟩ = some (.int .i64 y.stamp) ∧ wr.cell? ⟨b2, aS + k * 8 + 3, none⟩ = some (.int .i64 y.kind) ∧ wr.cell? ⟨b2, aS + k * 8 + 4, none⟩ = some (.string y.item) ∧ wr.cell? ⟨b2, aS + k * 8 + 5, none⟩ = some (.int .i64 y.qty) ∧ wr.cell? ⟨b2, aS + k * 8 + 6, none⟩ = some (.int .i64 y.level) ∧ wr.cell? ⟨b2, aS + k * 8 + 7, none⟩ = some (.int .i64 y.undos) := ⟨b1, c0', c1', c2', c3', c4', c5', c6', c7'⟩; clear a0 a1 b0 b1 c0 o0 o1 c0' c1' c2' c3' c4' c5' c6' c7' B8
    go_upto_region 14 with fail
    obtain ⟨z0, dO⟩ : ∃ z0, wr.drew = z0 := ⟨_, rfl⟩; have hS : z0.cell? ⟨w.heap.size + 1, 1, none⟩ = some (.slice (some ⟨b2, aS, none⟩) mo eo) ∧ z0.cell? ⟨b2, aS + k * 8, none⟩ = some (.int .i64 y.dev) ∧ z0.cell? ⟨b2, aS + k * 8 + 1, none⟩ = some (.int .i64 y.seq) ∧ z0.cell? ⟨b2, aS + k * 8 + 2, none⟩ = some (.int .i64 y.stamp) ∧ z0.cell? ⟨b2, aS + k * 8 + 3, none⟩ = some (.int .i64 y.kind) ∧ z0.cell? ⟨b2, aS + k * 8 + 4, none⟩ = some (.string y.item) ∧ z0.cell? ⟨b2, aS + k * 8 + 5, none⟩ = some (.int .i64 y.qty) ∧ z0.cell? ⟨b2, aS + k * 8 + 6, none⟩ = some (.int .i64 y.level) ∧ z0.cell? ⟨b2, aS + k * 8 + 7, none⟩ = some (.int .i64 y.undos) := ⟨by rw [← dO]; exact hSw.1, by rw [← dO]; exact hSw.2.1, by rw [← dO]; exact hSw.2.2.1, by rw [← dO]; exact hSw.2.2.2.1, by rw [← dO]; exact hSw.2.2.2.2.1, by rw [← dO]; exact hSw.2.2.2.2.2.1, by rw [← dO]; exact hSw.2.2.2.2.2.2.1, by rw [← dO]; exact hSw.2.2.2.2.2.2.2.1, by rw [← dO]; exact hSw.2.2.2.2.2.2.2.2⟩
    have ob0 : Hid (z0.heap[ob]? = some (.cells #[.slice (some ⟨vb, vo, none⟩) 4 zc, .slice oa L.length oc] 27 (0, 0))) := by rw [← dO]; exact P1.out
    have aDT : z0.ownsRow (ob + 1) 50 8 (.slice oa L.length oc) L.length (aH L) := by rw [← dO]; exact vD.out
    have aJf : ob < z0.heap.size := by rw [← dO]; exact aGx
    have aEB : Hid (Below ob wr z0) := by rw [← dO]; exact ⟨rfl, rfl, rfl, Nat.le_refl _, fun _ _ => rfl⟩
    have o1 := (pair_cells ob0.out).2; have H7 := aDT.alloc (.cells #[.int .i64 y.dev, .int .i64 y.seq, .int .i64 y.stamp, .int .i64 y.kind, .string y.item, .int .i64 y.qty, .int .i64 y.level, .int .i64 y.undos] 50); have kL : Below ob z0 (z0.alloc (.cells #[.int .i64 y.dev, .int .i64 y.seq, .int .i64 y.stamp, .int .i64 y.kind, .string y.item, .int .i64 y.qty, .int .i64 y.level, .int .i64 y.undos] 50)) := (Below.refl ob z0).alloc (by omega) _
    obtain ⟨v', z2, hrun, jE, jW, _⟩ := run_append_own (P := Tryz.prog) (z0.alloc (.cells #[.int .i64 y.dev, .int .i64 y.seq, .int .i64 y.stamp, .int .i64 y.kind, .string y.item, .int .i64 y.qty, .int .i64 y.level, .int .i64 y.undos] 50)) (ob + 1) 25 25 50 i0 (.agg #[.int .i64 0, .int .i64 0, .int .i64 0, .int .i64 0, .string ⟨#[]⟩, .int .i64 0, .int .i64 0, .int .i64 0]) 8 72 Tryz.underlying25 hi iF kO jU rfl (by decide) _ _ _ H7 ⟨z0.heap.size, 0, none⟩ 1 1 (cB y) rfl (j9 z0 y) (fun u hu => kX [y] u (by show u ∈ cB y ++ []; rw [List.append_nil]; exact hu)) (by unfold maxLen; omega) (by omega) (by show _ ≤ (z0.heap.push _).size; simp; omega)
    have mC : Below ob z0 z2 := kL.grown jW (Nat.le_trans (by omega) kL.size) (fun q hq => by have := (H7.lt q hq).1; omega)
    obtain ⟨fS, fR, rfl⟩ : ∃ fS fR, v' = .slice fS (L.length + 1) fR := by
     rcases jE.2 with ⟨_, e2⟩ | ⟨_, c2, _, e2, _⟩
     ·omega
     ·exact ⟨_, c2, e2⟩
    have ob1 : Hid ((z0.alloc (.cells #[.int .i64 y.dev, .int .i64 y.seq, .int .i64 y.stamp, .int .i64 y.kind, .string y.item, .int .i64 y.qty, .int .i64 y.level, .int .i64 y.undos] 50)).heap[ob]? = some (.cells #[.slice (some ⟨vb, vo, none⟩) 4 zc, .slice oa L.length oc] 27 (0, 0))) := (Below.heap_alloc _ _ _ aJf).trans ob0.out; have l8 : Hid (z2.heap[ob]? = some (.cells #[.slice (some ⟨vb, vo, none⟩) 4 zc, .slice oa L.length oc] 27 (0, 0))) := (jW.block ob (by show _ < (z0.heap.push _).size; simp; omega) (fun h => by have := (H7.lt ob h.symm).1; omega)).trans ob1.out
    have o11 := (pair_cells ob1.out).2; have o12 := (pair_cells l8.out).2; have fz2 := (aD l8.out).2; have G4 : Hid ((z2.setCell ⟨ob, 1, none⟩ (.slice fS (L.length + 1) fR)).heap[ob]? = some (.cells #[.slice (some ⟨vb, vo, none⟩) 4 zc, .slice fS (L.length + 1) fR] 27 (0, 0))) := heap_setCell_same _ _ _ _ _ _ l8.out; have G1 : Hid ((z2.setCell ⟨ob, 1, none⟩ (.slice fS (L.length + 1) fR)).ownsRow (ob + 1) 50 8 (.slice fS (L.length + 1) fR) (L.length + 1) (aH L ++ cB y)) := aAu jE (fun q hq => by have := (jE.lt q hq).1; omega)
    have mB : Below ob z0 (z2.setCell ⟨ob, 1, none⟩ (.slice fS (L.length + 1) fR)) := mC.setCell aRC _; have G5 : Hid (Below ob wr (z2.setCell ⟨ob, 1, none⟩ (.slice fS (L.length + 1) fR))) := aEB.out.trans mB; have hSd : z0.cell? ⟨w.heap.size + 1, 1, none⟩ = some (.slice (some ⟨b2, aS, none⟩) mo eo) ∧ z0.cell? ⟨b2, aS + k * 8, none⟩ = some (.int .i64 y.dev) ∧ z0.cell? ⟨b2, aS + k * 8 + 1, none⟩ = some (.int .i64 y.seq) ∧ z0.cell? ⟨b2, aS + k * 8 + 2, none⟩ = some (.int .i64 y.stamp) ∧ z0.cell? ⟨b2, aS + k * 8 + 3, none⟩ = some (.int .i64 y.kind) ∧ z0.cell? ⟨b2, aS + k * 8 + 4, none⟩ = some (.string y.item) ∧ z0.cell? ⟨b2, aS + k * 8 + 5, none⟩ = some (.int .i64 y.qty) ∧ z0.cell? ⟨b2, aS + k * 8 + 6, none⟩ = some (.int .i64 y.level) ∧ z0.cell? ⟨b2, aS + k * 8 + 7, none⟩ = some (.int .i64 y.undos) := hS; have eH : (z0.alloc (.cells #[.int .i64 y.dev, .int .i64 y.seq, .int .i64 y.stamp, .int .i64 y.kind, .string y.item, .int .i64 y.qty, .int .i64 y.level, .int .i64 y.undos] 50)).cell? ⟨w.heap.size + 1, 1, none⟩ = some (.slice (some ⟨b2, aS, none⟩) mo eo) ∧ (z0.alloc (.cells #[.int .i64 y.dev, .int .i64 y.seq, .int .i64 y.stamp, .int .i64 y.kind, .string y.item, .int .i64 y.qty, .int .i64 y.level, .int .i64 y.undos] 50)).cell? ⟨b2, aS + k * 8, none⟩ = some (.int .i64 y.dev) ∧ (z0.alloc (.cells #[.int .i64 y.dev, .int .i64 y.seq, .int .i64 y.stamp, .int .i64 y.kind, .string y.item, .int .i64 y.qty, .int .i64 y.level, .int .i64 y.undos] 50)).cell? ⟨b2, aS + k * 8 + 1, none⟩ = some (.int .i64 y.seq) ∧ (z0.alloc (.cells #[.int .i64 y.dev, .int .i64 y.seq, .int .i64 y.stamp, .int .i64 y.kind, .string y.item, .int .i64 y.qty, .int .i64 y.level, .int .i64 y.undos] 50)).cell? ⟨b2, aS + k * 8 + 2, none⟩ = some (.int .i64 y.stamp) ∧ (z0.alloc (.cells #[.int .i64 y.dev, .int .i64 y.seq, .int .i64 y.stamp, .int .i64 y.kind, .string y.item, .int .i64 y.qty, .int .i64 y.level, .int .i64 y.undos] 50)).cell? ⟨b2, aS + k * 8 + 3, none⟩ = some (.int .i64 y.kind) ∧ (z0.alloc (.cells #[.int .i64 y.dev, .int .i64 y.seq, .int .i64 y.stamp, .int .i64 y.kind, .string y.item, .int .i64 y.qty, .int .i64 y.level, .int .i64 y.undos] 50)).cell? ⟨b2, aS + k * 8 + 4, none⟩ = some (.string y.item) ∧ (z0.alloc (.cells #[.int .i64 y.dev, .int .i64 y.seq, .int .i64 y.stamp, .int .i64 y.kind, .string y.item, .int .i64 y.qty, .int .i64 y.level, .int .i64 y.undos] 50)).cell? ⟨b2, aS + k * 8 + 5, none⟩ = some (.int .i64 y.qty) ∧ (z0.alloc (.cells #[.int .i64 y.dev, .int .i64 y.seq, .int .i64 y.stamp, .int .i64 y.kind, .string y.item, .int .i64 y.qty, .int .i64 y.level, .int .i64 y.undos] 50)).cell? ⟨b2, aS + k * 8 + 6, none⟩ = some (.int .i64 y.level) ∧ (z0.alloc (.cells #[.int .i64 y.dev, .int .i64 y.seq, .int .i64 y.stamp, .int .i64 y.kind, .string y.item, .int .i64 y.qty, .int .i64 y.level, .int .i64 y.undos] 50)).cell? ⟨b2, aS + k * 8 + 7, none⟩ = some (.int .i64 y.undos) := ⟨(kL.cell (by show w.heap.size + 1 < ob; omega)).trans hS.1, (kL.cell (by show b2 < ob; omega)).trans hS.2.1, (kL.cell (by show b2 < ob; omega)).trans hS.2.2.1, (kL.cell (by show b2 < ob; omega)).trans hS.2.2.2.1, (kL.cell (by show b2 < ob; omega)).trans hS.2.2.2.2.1, (kL.cell (by show b2 < ob; omega)).trans hS.2.2.2.2.2.1, (kL.cell (by show b2 < ob; omega)).trans hS.2.2.2.2.2.2.1, (kL.cell (by show b2 < ob; omega)).trans hS.2.2.2.2.2.2.2.1, (kL.cell (by show b2 < ob; omega)).trans hS.2.2.2.2.2.2.2.2⟩
    have fZ : z2.cell? ⟨w.heap.size + 1, 1, none⟩ = some (.slice (some ⟨b2, aS, none⟩) mo eo) ∧ z2.cell? ⟨b2, aS + k * 8, none⟩ = some (.int .i64 y.dev) ∧ z2.cell? ⟨b2, aS + k * 8 + 1, none⟩ = some (.int .i64 y.seq) ∧ z2.cell? ⟨b2, aS + k * 8 + 2, none⟩ = some (.int .i64 y.stamp) ∧ z2.cell? ⟨b2, aS + k * 8 + 3, none⟩ = some (.int .i64 y.kind) ∧ z2.cell? ⟨b2, aS + k * 8 + 4, none⟩ = some (.string y.item) ∧ z2.cell? ⟨b2, aS + k * 8 + 5, none⟩ = some (.int .i64 y.qty) ∧ z2.cell? ⟨b2, aS + k * 8 + 6, none⟩ = some (.int .i64 y.level) ∧ z2.cell? ⟨b2, aS + k * 8 + 7, none⟩ = some (.int .i64 y.undos) := ⟨(mC.cell (by show w.heap.size + 1 < ob; omega)).trans hS.1, (mC.cell (by show b2 < ob; omega)).trans hS.2.1, (mC.cell (by show b2 < ob; omega)).trans hS.2.2.1, (mC.cell (by show b2 < ob; omega)).trans hS.2.2.2.1, (mC.cell (by show b2 < ob; omega)).trans hS.2.2.2.2.1, (mC.cell (by show b2 < ob; omega)).trans hS.2.2.2.2.2.1, (mC.cell (by show b2 < ob; omega)).trans hS.2.2.2.2.2.2.1, (mC.cell (by show b2 < ob; omega)).trans hS.2.2.2.2.2.2.2.1, (mC.cell (by show b2 < ob; omega)).trans hS.2.2.2.2.2.2.2.2⟩
    have iL : (z2.setCell ⟨ob, 1, none⟩ (.slice fS (L.length + 1) fR)).cell? ⟨w.heap.size + 1, 1, none⟩ = some (.slice (some ⟨b2, aS, none⟩) mo eo) ∧ (z2.setCell ⟨ob, 1, none⟩ (.slice fS (L.length + 1) fR)).cell? ⟨b2, aS + k * 8, none⟩ = some (.int .i64 y.dev) ∧ (z2.setCell ⟨ob, 1, none⟩ (.slice fS (L.length + 1) fR)).cell? ⟨b2, aS + k * 8 + 1, none⟩ = some (.int .i64 y.seq) ∧ (z2.setCell ⟨ob, 1, none⟩ (.slice fS (L.length + 1) fR)).cell? ⟨b2, aS + k * 8 + 2, none⟩ = some (.int .i64 y.stamp) ∧ (z2.setCell ⟨ob, 1, none⟩ (.slice fS (L.length + 1) fR)).cell? ⟨b2, aS + k * 8 + 3, none⟩ = some (.int .i64 y.kind) ∧ (z2.setCell ⟨ob, 1, none⟩ (.slice fS (L.length + 1) fR)).cell? ⟨b2, aS + k * 8 + 4, none⟩ = some (.string y.item) ∧ (z2.setCell ⟨ob, 1, none⟩ (.slice fS (L.length + 1) fR)).cell? ⟨b2, aS + k * 8 + 5, none⟩ = some (.int .i64 y.qty) ∧ (z2.setCell ⟨ob, 1, none⟩ (.slice fS (L.length + 1) fR)).cell? ⟨b2, aS + k * 8 + 6, none⟩ = some (.int .i64 y.level) ∧ (z2.setCell ⟨ob, 1, none⟩ (.slice fS (L.length + 1) fR)).cell? ⟨b2, aS + k * 8 + 7, none⟩ = some (.int .i64 y.undos) := ⟨(mB.cell (by show w.heap.size + 1 < ob; omega)).trans hS.1, (mB.cell (by show b2 < ob; omega)).trans hS.2.1, (mB.cell (by show b2 < ob; omega)).trans hS.2.2.1, (mB.cell (by show b2 < ob; omega)).trans hS.2.2.2.1, (mB.cell (by show b2 < ob; omega)).trans hS.2.2.2.2.1, (mB.cell (by show b2 < ob; omega)).trans hS.2.2.2.2.2.1, (mB.cell (by show b2 < ob; omega)).trans hS.2.2.2.2.2.2.1, (mB.cell (by show b2 < ob; omega)).trans hS.2.2.2.2.2.2.2.1, (mB.cell (by show b2 < ob; omega)).trans hS.2.2.2.2.2.2.2.2⟩
    clear hSw P1 vD aDT aEB
    go_wp2_with fail
    refine wp_region_held_drew (S := fun w' => w'.cell? ⟨w.heap.size + 1, 1, none⟩ = some (.slice (some ⟨b2, aS, none⟩) mo eo) ∧ w'.cell? ⟨b2, aS + k * 8, none⟩ = some (.int .i64 y.dev) ∧ w'.cell? ⟨b2, aS + k * 8 + 1, none⟩ = some (.int .i64 y.seq) ∧ w'.cell? ⟨b2, aS + k * 8 + 2, none⟩ = some (.int .i64 y.stamp) ∧ w'.cell? ⟨b2, aS + k * 8 + 3, none⟩ = some (.int .i64 y.kind) ∧ w'.cell? ⟨b2, aS + k * 8 + 4, none⟩ = some (.string y.item) ∧ w'.cell? ⟨b2, aS + k * 8 + 5, none⟩ = some (.int .i64 y.qty) ∧ w'.cell? ⟨b2, aS + k * 8 + 6, none⟩ = some (.int .i64 y.level) ∧ w'.cell? ⟨b2, aS + k * 8 + 7, none⟩ = some (.int .i64 y.undos)) (by kernel_rfl) (by rw [dO]; exact hS) (fun aP => ?_)
    rw [dO]; clear aP; refine tj 0 ?_
    refine tj 2 ?_
    refine tj 3 ?_
    refine tj 4 ?_
    refine tj 5 ?_
    refine tj 6 ?_
    refine wpAnyH_ready (rs := [1, 7]) (by kernel_rfl) (by simp) ?_
    refine AllReadyH.cons rfl (fun K hK => ?_) (AllReadyH.cons rfl (fun K hK => ?_) AllReadyH.nil)
    all_goals go_simp
    ·refine hK.out _ _ hSd (fun oT => ?_)
     clear hK K
     (try simp only [Act.put, u1, u2, u3])
     refine rk 7 rfl (fun K hK => ?_)
     go_simp
     refine hK.out _ _ eH (fun uG => ?_)
     clear hK K
     (try simp only [Act.put, u1, u2, u3])
     refine rk 8 rfl (fun K hK => ?_)
     rw [if_pos (by rfl)]
     refine zF _ _ _ rfl _ _ rfl rfl hrun ?_
     refine hK.out _ _ fZ (fun wZ => ?_)
     clear hK K
     (try simp only [Act.put, u1, u2, u3])
     refine tj 9 ?_
     refine rk 10 rfl (fun K hK => ?_)
     go_simp
     refine hK.out _ _ iL (fun uF => ?_)
     clear hK K
     (try simp only [Act.put, u1, u2, u3])
     refine wpAnyH_done (by kernel_rfl) ?_ _
     have vU : Hid (pF ob (some ⟨vb, vo, none⟩) zc zs (dX l m) w2 (z2.setCell ⟨ob, 1, none⟩ (.slice fS (L.length + 1) fR)) d (s + 1)) := by
      show pF _ _ _ _ _ _ _ _ _
      unfold pF; rw [cZ.out, HFy.out, lF, List.length_append]; exact ⟨fS, fR, G4.out, G1.out, HBL.out.trans G5.out⟩
     clear G4 G1 G5 hSd eH fZ iL hS ob0 ob1 l8 o1 o11 o12 fz2 hrun jE jW H7 kL mC mB uG oT wZ uF; go_wp2
     go_roundw
     case rel => exact ⟨s + 1, by omega, by go_num, vU, HE⟩
     case measure => simp [intOf]; omega
    ·refine hK.out _ _ eH (fun oT => ?_)
     clear hK K
     (try simp only [Act.put, u1, u2, u3])
     refine rk 1 rfl (fun K hK => ?_)
     go_simp
     refine hK.out _ _ eH (fun uG => ?_)
     clear hK K
     (try simp only [Act.put, u1, u2, u3])
     refine rk 8 rfl (fun K hK => ?_)
     rw [if_pos (by rfl)]
     refine zF _ _ _ rfl _ _ rfl rfl hrun ?_
     refine hK.out _ _ fZ (fun wZ => ?_)
     clear hK K
     (try simp only [Act.put, u1, u2, u3])
     refine tj 9 ?_
     refine rk 10 rfl (fun K hK => ?_)
     go_simp
     refine hK.out _ _ iL (fun uF => ?_)
     clear hK K
     (try simp only [Act.put, u1, u2, u3])
     refine wpAnyH_done (by kernel_rfl) ?_ _
     have vU : Hid (pF ob (some ⟨vb, vo, none⟩) zc zs (dX l m) w2 (z2.setCell ⟨ob, 1, none⟩ (.slice fS (L.length + 1) fR)) d (s + 1)) := by
      show pF _ _ _ _ _ _ _ _ _
      unfold pF; rw [cZ.out, HFy.out, lF, List.length_append]; exact ⟨fS, fR, G4.out, G1.out, HBL.out.trans G5.out⟩
     clear G4 G1 G5 hSd eH fZ iL hS ob0 ob1 l8 o1 o11 o12 fz2 hrun jE jW H7 kL mC mB uG oT wZ uF; go_wp2
     go_roundw
     case rel => exact ⟨s + 1, by omega, by go_num, vU, HE⟩
     case measure => simp [intOf]; omega
   have HXi : Hid (nM l (d : Int) ((s : Int) + 1) = some (aC l i)) := by
    show _ = _
    have := yO (yW iR.out) l.length aRC i (by rw [HL.out]; exact tJ)
    rw [hie.1, hie.2] at this; exact this
   obtain ⟨bC, aV, rfl, aRp, ho1⟩ := HOr.out.2 i tJ; have T2 : Hid (xC wr bC (aV + i * 8) (aC l i)) := ho1; have hii : (i : Int) < (no : Int) := by omega
   have hi0 : ¬ ((i : Int) < 0) := by omega
   clear ho1 hie; generalize aC l i = x at HXi T2
   go_wp2_with fail
   refine (aJx wr B bo mo eo m (d : Int) ((s : Int) + 1) HGr.out D2).mono ?_
   rintro e w5 ⟨hor, rfl⟩; rcases hor with ⟨k, hkm, R9, rfl⟩ | ⟨hM, rfl⟩
   rotate_left
   ·have fI : nM m (d : Int) ((s : Int) + 1) = none := M7 _ fun j hj => hM j (by rw [← HLm.out]; exact hj)
    have HFy : Hid (dX l m d s = x) := by show _ = _; rw [aKH.out]; unfold pS; rw [HXi.out, fI]
    have HE := aRA (aKA.out fun a b ha hb => by rw [fI] at hb; cases hb)
    clear hM fI; obtain ⟨c0', c1', c2', c3', c4', c5', c6', c7'⟩ := T2.out; have hSw : wr.cell? ⟨w.heap.size, 1, none⟩ = some (.slice (some ⟨bC, aV, none⟩) no co) ∧ wr.cell? ⟨bC, aV + i * 8, none⟩ = some (.int .i64 x.dev) ∧ wr.cell? ⟨bC, aV + i * 8 + 1, none⟩ = some (.int .i64 x.seq) ∧ wr.cell? ⟨bC, aV + i * 8 + 2, none⟩ = some (.int .i64 x.stamp) ∧ wr.cell? ⟨bC, aV + i * 8 + 3, none⟩ = some (.int .i64 x.kind) ∧ wr.cell? ⟨bC, aV + i * 8 + 4, none⟩ = some (.string x.item) ∧ wr.cell? ⟨bC, aV + i * 8 + 5, none⟩ = some (.int .i64 x.qty) ∧ wr.cell? ⟨bC, aV + i * 8 + 6, none⟩ = some (.int .i64 x.level) ∧ wr.cell? ⟨bC, aV + i * 8 + 7, none⟩ = some (.int .i64 x.undos) := ⟨a1, c0', c1', c2', c3', c4', c5', c6', c7'⟩; clear a0 a1 b0 b1 c0 o0 o1 c0' c1' c2' c3' c4' c5' c6' c7' T2
    go_upto_region 16 with fail
    obtain ⟨z0, dO⟩ : ∃ z0, wr.drew = z0 := ⟨_, rfl⟩; have hS : z0.cell? ⟨w.heap.size, 1, none⟩ = some (.slice (some ⟨bC, aV, none⟩) no co) ∧ z0.cell? ⟨bC, aV + i * 8, none⟩ = some (.int .i64 x.dev) ∧ z0.cell? ⟨bC, aV + i * 8 + 1, none⟩ = some (.int .i64 x.seq) ∧ z0.cell? ⟨bC, aV + i * 8 + 2, none⟩ = some (.int .i64 x.stamp) ∧ z0.cell? ⟨bC, aV + i * 8 + 3, none⟩ = some (.int .i64 x.kind) ∧ z0.cell? ⟨bC, aV + i * 8 + 4, none⟩ = some (.string x.item) ∧ z0.cell? ⟨bC, aV + i * 8 + 5, none⟩ = some (.int .i64 x.qty) ∧ z0.cell? ⟨bC, aV + i * 8 + 6, none⟩ = some (.int .i64 x.level) ∧ z0.cell? ⟨bC, aV + i * 8 + 7, none⟩ = some (.int .i64 x.undos) := ⟨by rw [← dO]; exact hSw.1, by rw [← dO]; exact hSw.2.1, by rw [← dO]; exact hSw.2.2.1, by rw [← dO]; exact hSw.2.2.2.1, by rw [← dO]; exact hSw.2.2.2.2.1, by rw [← dO]; exact hSw.2.2.2.2.2.1, by rw [← dO]; exact hSw.2.2.2.2.2.2.1, by rw [← dO]; exact hSw.2.2.2.2.2.2.2.1, by rw [← dO]; exact hSw.2.2.2.2.2.2.2.2⟩
    have ob0 : Hid (z0.heap[ob]? = some (.cells #[.slice (some ⟨vb, vo, none⟩) 4 zc, .slice oa L.length oc] 27 (0, 0))) := by rw [← dO]; exact P1.out
    have aDT : z0.ownsRow (ob + 1) 50 8 (.slice oa L.length oc) L.length (aH L) := by rw [← dO]; exact vD.out
    have aJf : ob < z0.heap.size := by rw [← dO]; exact aGx
    have aEB : Hid (Below ob wr z0) := by rw [← dO]; exact ⟨rfl, rfl, rfl, Nat.le_refl _, fun _ _ => rfl⟩
    have o1 := (pair_cells ob0.out).2; have H7 := aDT.alloc (.cells #[.int .i64 x.dev, .int .i64 x.seq, .int .i64 x.stamp, .int .i64 x.kind, .string x.item, .int .i64 x.qty, .int .i64 x.level, .int .i64 x.undos] 50); have kL : Below ob z0 (z0.alloc (.cells #[.int .i64 x.dev, .int .i64 x.seq, .int .i64 x.stamp, .int .i64 x.kind, .string x.item, .int .i64 x.qty, .int .i64 x.level, .int .i64 x.undos] 50)) := (Below.refl ob z0).alloc (by omega) _
    obtain ⟨v', z2, hrun, jE, jW, _⟩ := run_append_own (P := Tryz.prog) (z0.alloc (.cells #[.int .i64 x.dev, .int .i64 x.seq, .int .i64 x.stamp, .int .i64 x.kind, .string x.item, .int .i64 x.qty, .int .i64 x.level, .int .i64 x.undos] 50)) (ob + 1) 25 25 50 i0 (.agg #[.int .i64 0, .int .i64 0, .int .i64 0, .int .i64 0, .string ⟨#[]⟩, .int .i64 0, .int .i64 0, .int .i64 0]) 8 72 Tryz.underlying25 hi iF kO jU rfl (by decide) _ _ _ H7 ⟨z0.heap.size, 0, none⟩ 1 1 (cB x) rfl (j9 z0 x) (fun u hu => kX [x] u (by show u ∈ cB x ++ []; rw [List.append_nil]; exact hu)) (by unfold maxLen; omega) (by omega) (by show _ ≤ (z0.heap.push _).size; simp; omega)
    have mC : Below ob z0 z2 := kL.grown jW (Nat.le_trans (by omega) kL.size) (fun q hq => by have := (H7.lt q hq).1; omega)
    obtain ⟨fS, fR, rfl⟩ : ∃ fS fR, v' = .slice fS (L.length + 1) fR := by
     rcases jE.2 with ⟨_, e2⟩ | ⟨_, c2, _, e2, _⟩
     ·omega
     ·exact ⟨_, c2, e2⟩
    have ob1 : Hid ((z0.alloc (.cells #[.int .i64 x.dev, .int .i64 x.seq, .int .i64 x.stamp, .int .i64 x.kind, .string x.item, .int .i64 x.qty, .int .i64 x.level, .int .i64 x.undos] 50)).heap[ob]? = some (.cells #[.slice (some ⟨vb, vo, none⟩) 4 zc, .slice oa L.length oc] 27 (0, 0))) := (Below.heap_alloc _ _ _ aJf).trans ob0.out; have l8 : Hid (z2.heap[ob]? = some (.cells #[.slice (some ⟨vb, vo, none⟩) 4 zc, .slice oa L.length oc] 27 (0, 0))) := (jW.block ob (by show _ < (z0.heap.push _).size; simp; omega) (fun h => by have := (H7.lt ob h.symm).1; omega)).trans ob1.out
    have o11 := (pair_cells ob1.out).2; have o12 := (pair_cells l8.out).2; have fz2 := (aD l8.out).2; have G4 : Hid ((z2.setCell ⟨ob, 1, none⟩ (.slice fS (L.length + 1) fR)).heap[ob]? = some (.cells #[.slice (some ⟨vb, vo, none⟩) 4 zc, .slice fS (L.length + 1) fR] 27 (0, 0))) := heap_setCell_same _ _ _ _ _ _ l8.out; have G1 : Hid ((z2.setCell ⟨ob, 1, none⟩ (.slice fS (L.length + 1) fR)).ownsRow (ob + 1) 50 8 (.slice fS (L.length + 1) fR) (L.length + 1) (aH L ++ cB x)) := aAu jE (fun q hq => by have := (jE.lt q hq).1; omega)
    have mB : Below ob z0 (z2.setCell ⟨ob, 1, none⟩ (.slice fS (L.length + 1) fR)) := mC.setCell aRC _; have G5 : Hid (Below ob wr (z2.setCell ⟨ob, 1, none⟩ (.slice fS (L.length + 1) fR))) := aEB.out.trans mB; have hSd : z0.cell? ⟨w.heap.size, 1, none⟩ = some (.slice (some ⟨bC, aV, none⟩) no co) ∧ z0.cell? ⟨bC, aV + i * 8, none⟩ = some (.int .i64 x.dev) ∧ z0.cell? ⟨bC, aV + i * 8 + 1, none⟩ = some (.int .i64 x.seq) ∧ z0.cell? ⟨bC, aV + i * 8 + 2, none⟩ = some (.int .i64 x.stamp) ∧ z0.cell? ⟨bC, aV + i * 8 + 3, none⟩ = some (.int .i64 x.kind) ∧ z0.cell? ⟨bC, aV + i * 8 + 4, none⟩ = some (.string x.item) ∧ z0.cell? ⟨bC, aV + i * 8 + 5, none⟩ = some (.int .i64 x.qty) ∧ z0.cell? ⟨bC, aV + i * 8 + 6, none⟩ = some (.int .i64 x.level) ∧ z0.cell? ⟨bC, aV + i * 8 + 7, none⟩ = some (.int .i64 x.undos) := hS; have eH : (z0.alloc (.cells #[.int .i64 x.dev, .int .i64 x.seq, .int .i64 x.stamp, .int .i64 x.kind, .string x.item, .int .i64 x.qty, .int .i64 x.level, .int .i64 x.undos] 50)).cell? ⟨w.heap.size, 1, none⟩ = some (.slice (some ⟨bC, aV, none⟩) no co) ∧ (z0.alloc (.cells #[.int .i64 x.dev, .int .i64 x.seq, .int .i64 x.stamp, .int .i64 x.kind, .string x.item, .int .i64 x.qty, .int .i64 x.level, .int .i64 x.undos] 50)).cell? ⟨bC, aV + i * 8, none⟩ = some (.int .i64 x.dev) ∧ (z0.alloc (.cells #[.int .i64 x.dev, .int .i64 x.seq, .int .i64 x.stamp, .int .i64 x.kind, .string x.item, .int .i64 x.qty, .int .i64 x.level, .int .i64 x.undos] 50)).cell? ⟨bC, aV + i * 8 + 1, none⟩ = some (.int .i64 x.seq) ∧ (z0.alloc (.cells #[.int .i64 x.dev, .int .i64 x.seq, .int .i64 x.stamp, .int .i64 x.kind, .string x.item, .int .i64 x.qty, .int .i64 x.level, .int .i64 x.undos] 50)).cell? ⟨bC, aV + i * 8 + 2, none⟩ = some (.int .i64 x.stamp) ∧ (z0.alloc (.cells #[.int .i64 x.dev, .int .i64 x.seq, .int .i64 x.stamp, .int .i64 x.kind, .string x.item, .int .i64 x.qty, .int .i64 x.level, .int .i64 x.undos] 50)).cell? ⟨bC, aV + i * 8 + 3, none⟩ = some (.int .i64 x.kind) ∧ (z0.alloc (.cells #[.int .i64 x.dev, .int .i64 x.seq, .int .i64 x.stamp, .int .i64 x.kind, .string x.item, .int .i64 x.qty, .int .i64 x.level, .int .i64 x.undos] 50)).cell? ⟨bC, aV + i * 8 + 4, none⟩ = some (.string x.item) ∧ (z0.alloc (.cells #[.int .i64 x.dev, .int .i64 x.seq, .int .i64 x.stamp, .int .i64 x.kind, .string x.item, .int .i64 x.qty, .int .i64 x.level, .int .i64 x.undos] 50)).cell? ⟨bC, aV + i * 8 + 5, none⟩ = some (.int .i64 x.qty) ∧ (z0.alloc (.cells #[.int .i64 x.dev, .int .i64 x.seq, .int .i64 x.stamp, .int .i64 x.kind, .string x.item, .int .i64 x.qty, .int .i64 x.level, .int .i64 x.undos] 50)).cell? ⟨bC, aV + i * 8 + 6, none⟩ = some (.int .i64 x.level) ∧ (z0.alloc (.cells #[.int .i64 x.dev, .int .i64 x.seq, .int .i64 x.stamp, .int .i64 x.kind, .string x.item, .int .i64 x.qty, .int .i64 x.level, .int .i64 x.undos] 50)).cell? ⟨bC, aV + i * 8 + 7, none⟩ = some (.int .i64 x.undos) := ⟨(kL.cell (by show w.heap.size < ob; omega)).trans hS.1, (kL.cell (by show bC < ob; omega)).trans hS.2.1, (kL.cell (by show bC < ob; omega)).trans hS.2.2.1, (kL.cell (by show bC < ob; omega)).trans hS.2.2.2.1, (kL.cell (by show bC < ob; omega)).trans hS.2.2.2.2.1, (kL.cell (by show bC < ob; omega)).trans hS.2.2.2.2.2.1, (kL.cell (by show bC < ob; omega)).trans hS.2.2.2.2.2.2.1, (kL.cell (by show bC < ob; omega)).trans hS.2.2.2.2.2.2.2.1, (kL.cell (by show bC < ob; omega)).trans hS.2.2.2.2.2.2.2.2⟩
    have fZ : z2.cell? ⟨w.heap.size, 1, none⟩ = some (.slice (some ⟨bC, aV, none⟩) no co) ∧ z2.cell? ⟨bC, aV + i * 8, none⟩ = some (.int .i64 x.dev) ∧ z2.cell? ⟨bC, aV + i * 8 + 1, none⟩ = some (.int .i64 x.seq) ∧ z2.cell? ⟨bC, aV + i * 8 + 2, none⟩ = some (.int .i64 x.stamp) ∧ z2.cell? ⟨bC, aV + i * 8 + 3, none⟩ = some (.int .i64 x.kind) ∧ z2.cell? ⟨bC, aV + i * 8 + 4, none⟩ = some (.string x.item) ∧ z2.cell? ⟨bC, aV + i * 8 + 5, none⟩ = some (.int .i64 x.qty) ∧ z2.cell? ⟨bC, aV + i * 8 + 6, none⟩ = some (.int .i64 x.level) ∧ z2.cell? ⟨bC, aV + i * 8 + 7, none⟩ = some (.int .i64 x.undos) := ⟨(mC.cell (by show w.heap.size < ob; omega)).trans hS.1, (mC.cell (by show bC < ob; omega)).trans hS.2.1, (mC.cell (by show bC < ob; omega)).trans hS.2.2.1, (mC.cell (by show bC < ob; omega)).trans hS.2.2.2.1, (mC.cell (by show bC < ob; omega)).trans hS.2.2.2.2.1, (mC.cell (by show bC < ob; omega)).trans hS.2.2.2.2.2.1, (mC.cell (by show bC < ob; omega)).trans hS.2.2.2.2.2.2.1, (mC.cell (by show bC < ob; omega)).trans hS.2.2.2.2.2.2.2.1, (mC.cell (by show bC < ob; omega)).trans hS.2.2.2.2.2.2.2.2⟩
    have iL : (z2.setCell ⟨ob, 1, none⟩ (.slice fS (L.length + 1) fR)).cell? ⟨w.heap.size, 1, none⟩ = some (.slice (some ⟨bC, aV, none⟩) no co) ∧ (z2.setCell ⟨ob, 1, none⟩ (.slice fS (L.length + 1) fR)).cell? ⟨bC, aV + i * 8, none⟩ = some (.int .i64 x.dev) ∧ (z2.setCell ⟨ob, 1, none⟩ (.slice fS (L.length + 1) fR)).cell? ⟨bC, aV + i * 8 + 1, none⟩ = some (.int .i64 x.seq) ∧ (z2.setCell ⟨ob, 1, none⟩ (.slice fS (L.length + 1) fR)).cell? ⟨bC, aV + i * 8 + 2, none⟩ = some (.int .i64 x.stamp) ∧ (z2.setCell ⟨ob, 1, none⟩ (.slice fS (L.length + 1) fR)).cell? ⟨bC, aV + i * 8 + 3, none⟩ = some (.int .i64 x.kind) ∧ (z2.setCell ⟨ob, 1, none⟩ (.slice fS (L.length + 1) fR)).cell? ⟨bC, aV + i * 8 + 4, none⟩ = some (.string x.item) ∧ (z2.setCell ⟨ob, 1, none⟩ (.slice fS (L.length + 1) fR)).cell? ⟨bC, aV + i * 8 + 5, none⟩ = some (.int .i64 x.qty) ∧ (z2.setCell ⟨ob, 1, none⟩ (.slice fS (L.length + 1) fR)).cell? ⟨bC, aV + i * 8 + 6, none⟩ = some (.int .i64 x.level) ∧ (z2.setCell ⟨ob, 1, none⟩ (.slice fS (L.length + 1) fR)).cell? ⟨bC, aV + i * 8 + 7, none⟩ = some (.int .i64 x.undos) := ⟨(mB.cell (by show w.heap.size < ob; omega)).trans hS.1, (mB.cell (by show bC < ob; omega)).trans hS.2.1, (mB.cell (by show bC < ob; omega)).trans hS.2.2.1, (mB.cell (by show bC < ob; omega)).trans hS.2.2.2.1, (mB.cell (by show bC < ob; omega)).trans hS.2.2.2.2.1, (mB.cell (by show bC < ob; omega)).trans hS.2.2.2.2.2.1, (mB.cell (by show bC < ob; omega)).trans hS.2.2.2.2.2.2.1, (mB.cell (by show bC < ob; omega)).trans hS.2.2.2.2.2.2.2.1, (mB.cell (by show bC < ob; omega)).trans hS.2.2.2.2.2.2.2.2⟩
    clear hSw P1 vD aDT aEB
    go_wp2_with fail
    refine wp_region_held_drew (S := fun w' => w'.cell? ⟨w.heap.size, 1, none⟩ = some (.slice (some ⟨bC, aV, none⟩) no co) ∧ w'.cell? ⟨bC, aV + i * 8, none⟩ = some (.int .i64 x.dev) ∧ w'.cell? ⟨bC, aV + i * 8 + 1, none⟩ = some (.int .i64 x.seq) ∧ w'.cell? ⟨bC, aV + i * 8 + 2, none⟩ = some (.int .i64 x.stamp) ∧ w'.cell? ⟨bC, aV + i * 8 + 3, none⟩ = some (.int .i64 x.kind) ∧ w'.cell? ⟨bC, aV + i * 8 + 4, none⟩ = some (.string x.item) ∧ w'.cell? ⟨bC, aV + i * 8 + 5, none⟩ = some (.int .i64 x.qty) ∧ w'.cell? ⟨bC, aV + i * 8 + 6, none⟩ = some (.int .i64 x.level) ∧ w'.cell? ⟨bC, aV + i * 8 + 7, none⟩ = some (.int .i64 x.undos)) (by kernel_rfl) (by rw [dO]; exact hS) (fun aP => ?_)
    rw [dO]; clear aP; refine tj 0 ?_
    refine tj 2 ?_
    refine tj 3 ?_
    refine tj 4 ?_
    refine tj 5 ?_
    refine tj 6 ?_
    refine wpAnyH_ready (rs := [1, 7]) (by kernel_rfl) (by simp) ?_
    refine AllReadyH.cons rfl (fun K hK => ?_) (AllReadyH.cons rfl (fun K hK => ?_) AllReadyH.nil)
    all_goals go_simp
    ·refine hK.out _ _ hSd (fun oT => ?_)
     clear hK K
     (try simp only [Act.put, u1, u2, u3])
     refine rk 7 rfl (fun K hK => ?_)
     go_simp
     refine hK.out _ _ eH (fun uG => ?_)
     clear hK K
     (try simp only [Act.put, u1, u2, u3])
     refine rk 8 rfl (fun K hK => ?_)
     rw [if_pos (by rfl)]
     refine zF _ _ _ rfl _ _ rfl rfl hrun ?_
     refine hK.out _ _ fZ (fun wZ => ?_)
     clear hK K
     (try simp only [Act.put, u1, u2, u3])
     refine tj 9 ?_
     refine rk 10 rfl (fun K hK => ?_)
     go_simp
     refine hK.out _ _ iL (fun uF => ?_)
     clear hK K
     (try simp only [Act.put, u1, u2, u3])
     refine wpAnyH_done (by kernel_rfl) ?_ _
     have vU : Hid (pF ob (some ⟨vb, vo, none⟩) zc zs (dX l m) w2 (z2.setCell ⟨ob, 1, none⟩ (.slice fS (L.length + 1) fR)) d (s + 1)) := by
      show pF _ _ _ _ _ _ _ _ _
      unfold pF; rw [cZ.out, HFy.out, lF, List.length_append]; exact ⟨fS, fR, G4.out, G1.out, HBL.out.trans G5.out⟩
     clear G4 G1 G5 hSd eH fZ iL hS ob0 ob1 l8 o1 o11 o12 fz2 hrun jE jW H7 kL mC mB uG oT wZ uF; go_wp2
     go_roundw
     case rel => exact ⟨s + 1, by omega, by go_num, vU, HE⟩
     case measure => simp [intOf]; omega
    ·refine hK.out _ _ eH (fun oT => ?_)
     clear hK K
     (try simp only [Act.put, u1, u2, u3])
     refine rk 1 rfl (fun K hK => ?_)
     go_simp
     refine hK.out _ _ eH (fun uG => ?_)
     clear hK K
     (try simp only [Act.put, u1, u2, u3])
     refine rk 8 rfl (fun K hK => ?_)
     rw [if_pos (by rfl)]
     refine zF _ _ _ rfl _ _ rfl rfl hrun ?_
     refine hK.out _ _ fZ (fun wZ => ?_)
     clear hK K
     (try simp only [Act.put, u1, u2, u3])
     refine tj 9 ?_
     refine rk 10 rfl (fun K hK => ?_)
     go_simp
     refine hK.out _ _ iL (fun uF => ?_)
     clear hK K
     (try simp only [Act.put, u1, u2, u3])
     refine wpAnyH_done (by kernel_rfl) ?_ _
     have vU : Hid (pF ob (some ⟨vb, vo, none⟩) zc zs (dX l m) w2 (z2.setCell ⟨ob, 1, none⟩ (.slice fS (L.length + 1) fR)) d (s + 1)) := by
      show pF _ _ _ _ _ _ _ _ _
      unfold pF; rw [cZ.out, HFy.out, lF, List.length_append]; exact ⟨fS, fR, G4.out, G1.out, HBL.out.trans G5.out⟩
     clear G4 G1 G5 hSd eH fZ iL hS ob0 ob1 l8 o1 o11 o12 fz2 hrun jE jW H7 kL mC mB uG oT wZ uF; go_wp2
     go_roundw
     case rel => exact ⟨s + 1, by omega, by go_num, vU, HE⟩
     case measure => simp [intOf]; omega
   obtain ⟨b2, aS, rfl, aN, ho2⟩ := HGr.out.2 k hkm; have B8 : Hid (xC wr b2 (aS + k * 8) (aC m k)) := ho2; have HYk : Hid (nM m (d : Int) ((s : Int) + 1) = some (aC m k)) := by
    show _ = _
    have := yO (yW C1.out) m.length aRC k (by rw [HLm.out]; exact hkm)
    rw [R9.1, R9.2] at this; exact this
   have aG4 : Hid (kG x (aC m k) = false → tY l m = false) := fun h => aJc (by rw [HLm.out]; exact hkm) rfl R9 HXi.out h
   have hki : (k : Int) < (mo : Int) := by omega
   have yF : ¬ ((k : Int) < 0) := by omega
   clear ho2 R9; generalize aC m k = y at B8 HYk aG4; obtain ⟨c0', c1', c2', c3', c4', c5', c6', c7'⟩ := T2.out; obtain ⟨e0', e1', e2', e3', e4', e5', e6', e7'⟩ := B8.out; have hS : wr.drew.cell? ⟨w.heap.size, 1, none⟩ = some (.slice (some ⟨bC, aV, none⟩) no co) ∧ wr.drew.cell? ⟨w.heap.size + 1, 1, none⟩ = some (.slice (some ⟨b2, aS, none⟩) mo eo) ∧ (wr.drew.cell? ⟨bC, aV + i * 8, none⟩ = some (.int .i64 x.dev) ∧ wr.drew.cell? ⟨bC, aV + i * 8 + 1, none⟩ = some (.int .i64 x.seq) ∧ wr.drew.cell? ⟨bC, aV + i * 8 + 2, none⟩ = some (.int .i64 x.stamp) ∧ wr.drew.cell? ⟨bC, aV + i * 8 + 3, none⟩ = some (.int .i64 x.kind) ∧ wr.drew.cell? ⟨bC, aV + i * 8 + 4, none⟩ = some (.string x.item) ∧ wr.drew.cell? ⟨bC, aV + i * 8 + 5, none⟩ = some (.int .i64 x.qty) ∧ wr.drew.cell? ⟨bC, aV + i * 8 + 6, none⟩ = some (.int .i64 x.level) ∧ wr.drew.cell? ⟨bC, aV + i * 8 + 7, none⟩ = some (.int .i64 x.undos)) ∧ wr.drew.cell? ⟨b2, aS + k * 8, none⟩ = some (.int .i64 y.dev) ∧ wr.drew.cell? ⟨b2, aS + k * 8 + 1, none⟩ = some (.int .i64 y.seq) ∧ wr.drew.cell? ⟨b2, aS + k * 8 + 2, none⟩ = some (.int .i64 y.stamp) ∧ wr.drew.cell? ⟨b2, aS + k * 8 + 3, none⟩ = some (.int .i64 y.kind) ∧ wr.drew.cell? ⟨b2, aS + k * 8 + 4, none⟩ = some (.string y.item) ∧ wr.drew.cell? ⟨b2, aS + k * 8 + 5, none⟩ = some (.int .i64 y.qty) ∧ wr.drew.cell? ⟨b2, aS + k * 8 + 6, none⟩ = some (.int .i64 y.level) ∧ wr.drew.cell? ⟨b2, aS + k * 8 + 7, none⟩ = some (.int .i64 y.undos) := ⟨a1, b1, ⟨c0', c1', c2', c3', c4', c5', c6', c7'⟩, e0', e1', e2', e3', e4', e5', e6', e7'⟩; clear a0 a1 b0 b1 c0 o0 o1 c0' c1' c2' c3' c4' c5' c6' c7' e0' e1' e2' e3' e4' e5' e6' e7' T2 B8 HOr HGr
   go_upto_region 17 with fail
   have HTd := aRA (qD.out); rcases hsm : kG x y with _ | _
   ·have HNo := aRA (aG4.out hsm)
    have L6 := aRA hsm; clear hsm
    go_wp2_with fail
    refine wp_region_held_drew (S := fun w' => w'.cell? ⟨w.heap.size, 1, none⟩ = some (.slice (some ⟨bC, aV, none⟩) no co) ∧ w'.cell? ⟨w.heap.size + 1, 1, none⟩ = some (.slice (some ⟨b2, aS, none⟩) mo eo) ∧ (w'.cell? ⟨bC, aV + i * 8, none⟩ = some (.int .i64 x.dev) ∧ w'.cell? ⟨bC, aV + i * 8 + 1, none⟩ = some (.int .i64 x.seq) ∧ w'.cell? ⟨bC, aV + i * 8 + 2, none⟩ = some (.int .i64 x.stamp) ∧ w'.cell? ⟨bC, aV + i * 8 + 3, none⟩ = some (.int .i64 x.kind) ∧ w'.cell? ⟨bC, aV + i * 8 + 4, none⟩ = some (.string x.item) ∧ w'.cell? ⟨bC, aV + i * 8 + 5, none⟩ = some (.int .i64 x.qty) ∧ w'.cell? ⟨bC, aV + i * 8 + 6, none⟩ = some (.int .i64 x.level) ∧ w'.cell? ⟨bC, aV + i * 8 + 7, none⟩ = some (.int .i64 x.undos)) ∧ w'.cell? ⟨b2, aS + k * 8, none⟩ = some (.int .i64 y.dev) ∧ w'.cell? ⟨b2, aS + k * 8 + 1, none⟩ = some (.int .i64 y.seq) ∧ w'.cell? ⟨b2, aS + k * 8 + 2, none⟩ = some (.int .i64 y.stamp) ∧ w'.cell? ⟨b2, aS + k * 8 + 3, none⟩ = some (.int .i64 y.kind) ∧ w'.cell? ⟨b2, aS + k * 8 + 4, none⟩ = some (.string y.item) ∧ w'.cell? ⟨b2, aS + k * 8 + 5, none⟩ = some (.int .i64 y.qty) ∧ w'.cell? ⟨b2, aS + k * 8 + 6, none⟩ = some (.int .i64 y.level) ∧ w'.cell? ⟨b2, aS + k * 8 + 7, none⟩ = some (.int .i64 y.undos)) (by kernel_rfl) hS (fun aP => ?_)
    refine tj 0 ?_
    refine tj 1 ?_
    refine tj 2 ?_
    refine tj 3 ?_
    refine tj 4 ?_
    refine tj 5 ?_
    refine tj 6 ?_
    refine tj 7 ?_
    refine tj 8 ?_
    refine tj 9 ?_
    refine rk 10 rfl (fun K hK => ?_)
    go_simp
    go_at_call 151
    refine (aIe x y wr.drew).mono ?_
    rintro e w5 ⟨rfl, bE⟩; rw [L6.out]; have S5 : w5.cell? ⟨w.heap.size, 1, none⟩ = some (.slice (some ⟨bC, aV, none⟩) no co) ∧ w5.cell? ⟨w.heap.size + 1, 1, none⟩ = some (.slice (some ⟨b2, aS, none⟩) mo eo) ∧ (w5.cell? ⟨bC, aV + i * 8, none⟩ = some (.int .i64 x.dev) ∧ w5.cell? ⟨bC, aV + i * 8 + 1, none⟩ = some (.int .i64 x.seq) ∧ w5.cell? ⟨bC, aV + i * 8 + 2, none⟩ = some (.int .i64 x.stamp) ∧ w5.cell? ⟨bC, aV + i * 8 + 3, none⟩ = some (.int .i64 x.kind) ∧ w5.cell? ⟨bC, aV + i * 8 + 4, none⟩ = some (.string x.item) ∧ w5.cell? ⟨bC, aV + i * 8 + 5, none⟩ = some (.int .i64 x.qty) ∧ w5.cell? ⟨bC, aV + i * 8 + 6, none⟩ = some (.int .i64 x.level) ∧ w5.cell? ⟨bC, aV + i * 8 + 7, none⟩ = some (.int .i64 x.undos)) ∧ w5.cell? ⟨b2, aS + k * 8, none⟩ = some (.int .i64 y.dev) ∧ w5.cell? ⟨b2, aS + k * 8 + 1, none⟩ = some (.int .i64 y.seq) ∧ w5.cell? ⟨b2, aS + k * 8 + 2, none⟩ = some (.int .i64 y.stamp) ∧ w5.cell? ⟨b2, aS + k * 8 + 3, none⟩ = some (.int .i64 y.kind) ∧ w5.cell? ⟨b2, aS + k * 8 + 4, none⟩ = some (.string y.item) ∧ w5.cell? ⟨b2, aS + k * 8 + 5, none⟩ = some (.int .i64 y.qty) ∧ w5.cell? ⟨b2, aS + k * 8 + 6, none⟩ = some (.int .i64 y.level) ∧ w5.cell? ⟨b2, aS + k * 8 + 7, none⟩ = some (.int .i64 y.undos) := ⟨(bE.cell (block_lt_of_cell hS.1)).trans hS.1, (bE.cell (block_lt_of_cell hS.2.1)).trans hS.2.1, ⟨(bE.cell (block_lt_of_cell hS.2.2.1.1)).trans hS.2.2.1.1, (bE.cell (block_lt_of_cell hS.2.2.1.2.1)).trans hS.2.2.1.2.1, (bE.cell (block_lt_of_cell hS.2.2.1.2.2.1)).trans hS.2.2.1.2.2.1, (bE.cell (block_lt_of_cell hS.2.2.1.2.2.2.1)).trans hS.2.2.1.2.2.2.1, (bE.cell (block_lt_of_cell hS.2.2.1.2.2.2.2.1)).trans hS.2.2.1.2.2.2.2.1, (bE.cell (block_lt_of_cell hS.2.2.1.2.2.2.2.2.1)).trans hS.2.2.1.2.2.2.2.2.1, (bE.cell (block_lt_of_cell hS.2.2.1.2.2.2.2.2.2.1)).trans hS.2.2.1.2.2.2.2.2.2.1, (bE.cell (block_lt_of_cell hS.2.2.1.2.2.2.2.2.2.2)).trans hS.2.2.1.2.2.2.2.2.2.2⟩, (bE.cell (block_lt_of_cell hS.2.2.2.1)).trans hS.2.2.2.1, (bE.cell (block_lt_of_cell hS.2.2.2.2.1)).trans hS.2.2.2.2.1, (bE.cell (block_lt_of_cell hS.2.2.2.2.2.1)).trans hS.2.2.2.2.2.1, (bE.cell (block_lt_of_cell hS.2.2.2.2.2.2.1)).trans hS.2.2.2.2.2.2.1, (bE.cell (block_lt_of_cell hS.2.2.2.2.2.2.2.1)).trans hS.2.2.2.2.2.2.2.1, (bE.cell (block_lt_of_cell hS.2.2.2.2.2.2.2.2.1)).trans hS.2.2.2.2.2.2.2.2.1, (bE.cell (block_lt_of_cell hS.2.2.2.2.2.2.2.2.2.1)).trans hS.2.2.2.2.2.2.2.2.2.1, (bE.cell (block_lt_of_cell hS.2.2.2.2.2.2.2.2.2.2)).trans hS.2.2.2.2.2.2.2.2.2.2⟩
    refine hK.out _ _ S5 (fun bZ => ?_)
    clear hK K
    (try simp only [Act.put, u1, u2, u3])
    refine tj 11 ?_
    refine tj 12 ?_
    refine wpAnyH_done (by kernel_rfl) ?_ _
    have bD : Below wr.heap.size wr w5 := ⟨bE.os, bE.tape, bE.output, bE.size, bE.block⟩; have yI := aRA (qD.out.next bD); have HF : Hid (tY l m = false) := HNo.out; clear hS S5 aP bZ bE bD P1 vD HBL qD HTd iR C1; obtain ⟨r0, r1⟩ := pair_cells yI.out.res; obtain ⟨fz0, fz1⟩ := aD yI.out.res; have rM := aRA (yI.out.set2S (.slice none 0 0) (.slice none 0 0)).1; have qG := aRA (yI.out.set2S (.slice none 0 0) (.slice none 0 0)).2; go_wp2
    change bodyPost _ _ _ _ _ ((w5.setCell ⟨w.heap.size + 1 + 1, 0, none⟩ (.slice none 0 0)).setCell ⟨w.heap.size + 1 + 1, 1, none⟩ (.slice none 0 0))
    generalize (w5.setCell ⟨w.heap.size + 1 + 1, 0, none⟩ (.slice none 0 0)).setCell ⟨w.heap.size + 1 + 1, 1, none⟩ (.slice none 0 0) = wf at rM qG ⊢; obtain ⟨q0, q1⟩ := pair_cells rM.out; exact bodyPost_ret (v := .tuple #[.agg #[.slice none 0 0, .slice none 0 0], .bool false]) (by simp [results, Tryz.results131, go_sem, q0, q1]) rfl ⟨none, 0, none, 0, by rw [HF.out]; rfl, by rw [HF.out]; exact U1 _ _ _ _, by rw [HF.out]; exact gD _ _ _ _, qG.out, by rw [HF.out]; exact dA, by rw [HF.out]; exact dA⟩
   obtain ⟨u, rfl⟩ : ∃ u, y = x.with u := ⟨_, T8 hsm⟩; have L6 := aRA hsm; have HFy : Hid (dX l m d s = x.with (max x.undos u)) := by show _ = _; rw [aKH.out]; unfold pS; rw [HXi.out, HYk.out]; rfl
   have HE := aRA (aKA.out fun a b ha hb => by rw [HXi.out] at ha; rw [HYk.out] at hb; cases ha; cases hb; exact L6.out)
   clear hsm
   change wr.drew.cell? ⟨w.heap.size, 1, none⟩ = some (.slice (some ⟨bC, aV, none⟩) no co) ∧ wr.drew.cell? ⟨w.heap.size + 1, 1, none⟩ = some (.slice (some ⟨b2, aS, none⟩) mo eo) ∧ (wr.drew.cell? ⟨bC, aV + i * 8, none⟩ = some (.int .i64 x.dev) ∧ wr.drew.cell? ⟨bC, aV + i * 8 + 1, none⟩ = some (.int .i64 x.seq) ∧ wr.drew.cell? ⟨bC, aV + i * 8 + 2, none⟩ = some (.int .i64 x.stamp) ∧ wr.drew.cell? ⟨bC, aV + i * 8 + 3, none⟩ = some (.int .i64 x.kind) ∧ wr.drew.cell? ⟨bC, aV + i * 8 + 4, none⟩ = some (.string x.item) ∧ wr.drew.cell? ⟨bC, aV + i * 8 + 5, none⟩ = some (.int .i64 x.qty) ∧ wr.drew.cell? ⟨bC, aV + i * 8 + 6, none⟩ = some (.int .i64 x.level) ∧ wr.drew.cell? ⟨bC, aV + i * 8 + 7, none⟩ = some (.int .i64 x.undos)) ∧ wr.drew.cell? ⟨b2, aS + k * 8, none⟩ = some (.int .i64 x.dev) ∧ wr.drew.cell? ⟨b2, aS + k * 8 + 1, none⟩ = some (.int .i64 x.seq) ∧ wr.drew.cell? ⟨b2, aS + k * 8 + 2, none⟩ = some (.int .i64 x.stamp) ∧ wr.drew.cell? ⟨b2, aS + k * 8 + 3, none⟩ = some (.int .i64 x.kind) ∧ wr.drew.cell? ⟨b2, aS + k * 8 + 4, none⟩ = some (.string x.item) ∧ wr.drew.cell? ⟨b2, aS + k * 8 + 5, none⟩ = some (.int .i64 x.qty) ∧ wr.drew.cell? ⟨b2, aS + k * 8 + 6, none⟩ = some (.int .i64 x.level) ∧ wr.drew.cell? ⟨b2, aS + k * 8 + 7, none⟩ = some (.int .i64 u) at hS
   go_wp2_with fail
   refine wp_region_held_drew (S := fun w' => w'.cell? ⟨w.heap.size, 1, none⟩ = some (.slice (some ⟨bC, aV, none⟩) no co) ∧ w'.cell? ⟨w.heap.size + 1, 1, none⟩ = some (.slice (some ⟨b2, aS, none⟩) mo eo) ∧ (w'.cell? ⟨bC, aV + i * 8, none⟩ = some (.int .i64 x.dev) ∧ w'.cell? ⟨bC, aV + i * 8 + 1, none⟩ = some (.int .i64 x.seq) ∧ w'.cell? ⟨bC, aV + i * 8 + 2, none⟩ = some (.int .i64 x.stamp) ∧ w'.cell? ⟨bC, aV + i * 8 + 3, none⟩ = some (.int .i64 x.kind) ∧ w'.cell? ⟨bC, aV + i * 8 + 4, none⟩ = some (.string x.item) ∧ w'.cell? ⟨bC, aV + i * 8 + 5, none⟩ = some (.int .i64 x.qty) ∧ w'.cell? ⟨bC, aV + i * 8 + 6, none⟩ = some (.int .i64 x.level) ∧ w'.cell? ⟨bC, aV + i * 8 + 7, none⟩ = some (.int .i64 x.undos)) ∧ w'.cell? ⟨b2, aS + k * 8, none⟩ = some (.int .i64 x.dev) ∧ w'.cell? ⟨b2, aS + k * 8 + 1, none⟩ = some (.int .i64 x.seq) ∧ w'.cell? ⟨b2, aS + k * 8 + 2, none⟩ = some (.int .i64 x.stamp) ∧ w'.cell? ⟨b2, aS + k * 8 + 3, none⟩ = some (.int .i64 x.kind) ∧ w'.cell? ⟨b2, aS + k * 8 + 4, none⟩ = some (.string x.item) ∧ w'.cell? ⟨b2, aS + k * 8 + 5, none⟩ = some (.int .i64 x.qty) ∧ w'.cell? ⟨b2, aS + k * 8 + 6, none⟩ = some (.int .i64 x.level) ∧ w'.cell? ⟨b2, aS + k * 8 + 7, none⟩ = some (.int .i64 u)) (by kernel_rfl) hS (fun aP => ?_)
   refine tj 0 ?_
   refine tj 1 ?_
   refine tj 2 ?_
   refine tj 3 ?_
   refine tj 4 ?_
   refine tj 5 ?_
   refine tj 6 ?_
   refine tj 7 ?_
   refine tj 8 ?_
   refine tj 9 ?_
   refine rk 10 rfl (fun K hK => ?_)
   go_simp
   go_at_call 151
   refine (aIe x (x.with u) wr.drew).mono ?_
   rintro e w5 ⟨rfl, bE⟩; rw [L6.out]; have S5 : w5.cell? ⟨w.heap.size, 1, none⟩ = some (.slice (some ⟨bC, aV, none⟩) no co) ∧ w5.cell? ⟨w.heap.size + 1, 1, none⟩ = some (.slice (some ⟨b2, aS, none⟩) mo eo) ∧ (w5.cell? ⟨bC, aV + i * 8, none⟩ = some (.int .i64 x.dev) ∧ w5.cell? ⟨bC, aV + i * 8 + 1, none⟩ = some (.int .i64 x.seq) ∧ w5.cell? ⟨bC, aV + i * 8 + 2, none⟩ = some (.int .i64 x.stamp) ∧ w5.cell? ⟨bC, aV + i * 8 + 3, none⟩ = some (.int .i64 x.kind) ∧ w5.cell? ⟨bC, aV + i * 8 + 4, none⟩ = some (.string x.item) ∧ w5.cell? ⟨bC, aV + i * 8 + 5, none⟩ = some (.int .i64 x.qty) ∧ w5.cell? ⟨bC, aV + i * 8 + 6, none⟩ = some (.int .i64 x.level) ∧ w5.cell? ⟨bC, aV + i * 8 + 7, none⟩ = some (.int .i64 x.undos)) ∧ w5.cell? ⟨b2, aS + k * 8, none⟩ = some (.int .i64 x.dev) ∧ w5.cell? ⟨b2, aS + k * 8 + 1, none⟩ = some (.int .i64 x.seq) ∧ w5.cell? ⟨b2, aS + k * 8 + 2, none⟩ = some (.int .i64 x.stamp) ∧ w5.cell? ⟨b2, aS + k * 8 + 3, none⟩ = some (.int .i64 x.kind) ∧ w5.cell? ⟨b2, aS + k * 8 + 4, none⟩ = some (.string x.item) ∧ w5.cell? ⟨b2, aS + k * 8 + 5, none⟩ = some (.int .i64 x.qty) ∧ w5.cell? ⟨b2, aS + k * 8 + 6, none⟩ = some (.int .i64 x.level) ∧ w5.cell? ⟨b2, aS + k * 8 + 7, none⟩ = some (.int .i64 u) := ⟨(bE.cell (block_lt_of_cell hS.1)).trans hS.1, (bE.cell (block_lt_of_cell hS.2.1)).trans hS.2.1, ⟨(bE.cell (block_lt_of_cell hS.2.2.1.1)).trans hS.2.2.1.1, (bE.cell (block_lt_of_cell hS.2.2.1.2.1)).trans hS.2.2.1.2.1, (bE.cell (block_lt_of_cell hS.2.2.1.2.2.1)).trans hS.2.2.1.2.2.1, (bE.cell (block_lt_of_cell hS.2.2.1.2.2.2.1)).trans hS.2.2.1.2.2.2.1, (bE.cell (block_lt_of_cell hS.2.2.1.2.2.2.2.1)).trans hS.2.2.1.2.2.2.2.1, (bE.cell (block_lt_of_cell hS.2.2.1.2.2.2.2.2.1)).trans hS.2.2.1.2.2.2.2.2.1, (bE.cell (block_lt_of_cell hS.2.2.1.2.2.2.2.2.2.1)).trans hS.2.2.1.2.2.2.2.2.2.1, (bE.cell (block_lt_of_cell hS.2.2.1.2.2.2.2.2.2.2)).trans hS.2.2.1.2.2.2.2.2.2.2⟩, (bE.cell (block_lt_of_cell hS.2.2.2.1)).trans hS.2.2.2.1, (bE.cell (block_lt_of_cell hS.2.2.2.2.1)).trans hS.2.2.2.2.1, (bE.cell (block_lt_of_cell hS.2.2.2.2.2.1)).trans hS.2.2.2.2.2.1, (bE.cell (block_lt_of_cell hS.2.2.2.2.2.2.1)).trans hS.2.2.2.2.2.2.1, (bE.cell (block_lt_of_cell hS.2.2.2.2.2.2.2.1)).trans hS.2.2.2.2.2.2.2.1, (bE.cell (block_lt_of_cell hS.2.2.2.2.2.2.2.2.1)).trans hS.2.2.2.2.2.2.2.2.1, (bE.cell (block_lt_of_cell hS.2.2.2.2.2.2.2.2.2.1)).trans hS.2.2.2.2.2.2.2.2.2.1, (bE.cell (block_lt_of_cell hS.2.2.2.2.2.2.2.2.2.2)).trans hS.2.2.2.2.2.2.2.2.2.2⟩
   refine hK.out _ _ S5 (fun bZ => ?_)
   clear hK K
   (try simp only [Act.put, u1, u2, u3])
   refine tj 11 ?_
   refine tj 12 ?_
   refine wpAnyH_done (by kernel_rfl) ?_ _
   have bD : Below wr.heap.size wr w5 := ⟨bE.os, bE.tape, bE.output, bE.size, bE.block⟩; have aOl := aRA ((bD.block _ aGx).trans P1.out); have aG6 := aRA (H9 vD.out bD); have aOz := aRA (HBL.out.trans (bD.mono (by omega)))
   have aKV : ob < w5.heap.size := Nat.lt_of_lt_of_le aGx bD.size; have HS5 := aRA S5; have HLt : Hid (∀ g, (Value.slice oa L.length oc).ownBlock = some g → g < w5.heap.size) := fun g hg => (aG6.out.lt g hg).2
   clear hS S5 aP bZ bE bD P1 vD HBL qD HTd HXi HYk aG4; obtain ⟨a1, b1, ⟨d0, d1, d2, d3, d4, d5, d6, d7⟩, e0', e1', e2', e3', e4', e5', e6', e7'⟩ := HS5.out
   go_upto_region 11 with fail
   have oA : Below w5.heap.size w5 (w5.alloc (.cells #[.int .i64 x.dev, .int .i64 x.seq, .int .i64 x.stamp, .int .i64 x.kind, .string x.item, .int .i64 x.qty, .int .i64 x.level, .int .i64 x.undos] 50)) := bl; have bV := aRA (bL (Below.refl _ (w5.alloc (.cells #[.int .i64 x.dev, .int .i64 x.seq, .int .i64 x.stamp, .int .i64 x.kind, .string x.item, .int .i64 x.qty, .int .i64 x.level, .int .i64 x.undos] 50)))); have b16 := (oA.cell (block_lt_of_cell b1)).trans b1; have e76 := (oA.cell (block_lt_of_cell e7')).trans e7'; have aKD := aRA ((oA.block _ aKV).trans aOl.out); have aG5 := aRA (H9 aG6.out oA); have aBj := aRA (aOz.out.trans (oA.mono (by omega)))
   clear a1 b1 d0 d1 d2 d3 d4 d5 d6 d7 e0' e1' e2' e3' e4' e5' e6' e7' HS5 aOl aG6 aOz; generalize w5.alloc (.cells #[.int .i64 x.dev, .int .i64 x.seq, .int .i64 x.stamp, .int .i64 x.kind, .string x.item, .int .i64 x.qty, .int .i64 x.level, .int .i64 x.undos] 50) = w6 at oA bV b16 e76 aKD aG5 aBj ⊢; have wR := oA.size; have hx6 := aB bV.out; generalize w5.heap.size = nb at bV wR hx6 aKV HLt ⊢; clear oA; obtain ⟨z0, dO⟩ : ∃ z0, w6.drew = z0 := ⟨_, rfl⟩; have Z4 : Hid (z0.heap[nb]? = some (.cells #[.int .i64 x.dev, .int .i64 x.seq, .int .i64 x.stamp, .int .i64 x.kind, .string x.item, .int .i64 x.qty, .int .i64 x.level, .int .i64 x.undos] 50 (0, 0))) := by rw [← dO]; exact bV.out
   have aOk : Hid (z0.heap[ob]? = some (.cells #[.slice (some ⟨vb, vo, none⟩) 4 zc, .slice oa L.length oc] 27 (0, 0))) := by rw [← dO]; exact aKD.out
   have aLg : Hid (z0.ownsRow (ob + 1) 50 8 (.slice oa L.length oc) L.length (aH L)) := by rw [← dO]; exact aG5.out
   have aOy : Hid (Below ob w2 z0) := by rw [← dO]; exact ⟨aBj.out.os, aBj.out.tape, aBj.out.output, aBj.out.size, aBj.out.block⟩
   have hS : z0.cell? ⟨w.heap.size + 1, 1, none⟩ = some (.slice (some ⟨b2, aS, none⟩) mo eo) ∧ z0.cell? ⟨b2, aS + k * 8 + 7, none⟩ = some (.int .i64 u) := by rw [← dO]; exact ⟨b16, e76⟩
   have aPp : z0.heap.size = w6.heap.size := by rw [← dO]; rfl
   clear bV aKD aG5 aBj b16 e76; obtain ⟨e0, e1, e2, e3, e4, e5, e6, e7⟩ := aQ Z4.out; obtain ⟨f0, f1, f2, f3, f4, f5, f6, f7⟩ := dE Z4.out; have HX8 : Hid ((z0.setCell ⟨nb, 7, none⟩ (.int .i64 (max x.undos u))).heap[nb]? = some (.cells #[.int .i64 x.dev, .int .i64 x.seq, .int .i64 x.stamp, .int .i64 x.kind, .string x.item, .int .i64 x.qty, .int .i64 x.level, .int .i64 (max x.undos u)] 50 (0, 0))) := heap_setCell_same _ _ _ _ _ _ Z4.out; have aCL : Hid ((z0.setCell ⟨nb, 7, none⟩ (.int .i64 (max x.undos u))).heap[ob]? = some (.cells #[.slice (some ⟨vb, vo, none⟩) 4 zc, .slice oa L.length oc] 27 (0, 0))) := (heap_setCell_other _ _ _ _ (by show ob ≠ nb; omega)).trans aOk.out
   have aDD : Hid ((z0.setCell ⟨nb, 7, none⟩ (.int .i64 (max x.undos u))).ownsRow (ob + 1) 50 8 (.slice oa L.length oc) L.length (aH L)) := aAu aLg.out (fun q hq => by have := HLt.out q hq; omega)
   have aHj : Hid (Below ob w2 (z0.setCell ⟨nb, 7, none⟩ (.int .i64 (max x.undos u)))) := aOy.out.setCell (by show ob ≤ nb; omega) _
   have hS8 : (z0.setCell ⟨nb, 7, none⟩ (.int .i64 (max x.undos u))).cell? ⟨w.heap.size + 1, 1, none⟩ = some (.slice (some ⟨b2, aS, none⟩) mo eo) ∧ (z0.setCell ⟨nb, 7, none⟩ (.int .i64 (max x.undos u))).cell? ⟨b2, aS + k * 8 + 7, none⟩ = some (.int .i64 u) := ⟨(cell_of_block (heap_setCell_other _ _ _ _ (by show w.heap.size + 1 ≠ nb; omega))).trans hS.1, (cell_of_block (heap_setCell_other _ _ _ _ (by show b2 ≠ nb; omega))).trans hS.2⟩
   have aJG : (z0.setCell ⟨nb, 7, none⟩ (.int .i64 (max x.undos u))).heap.size = z0.heap.size := World.size_setCell _ _ _
   go_wp2_with fail
   refine wp_region_held_drew (S := fun w' => w'.cell? ⟨w.heap.size + 1, 1, none⟩ = some (.slice (some ⟨b2, aS, none⟩) mo eo) ∧ w'.cell? ⟨b2, aS + k * 8 + 7, none⟩ = some (.int .i64 u)) (by kernel_rfl) (by rw [dO]; exact hS) (fun aP => ?_)
   rw [dO]; clear aP; refine tj 0 ?_
   refine tj 2 ?_
   refine tj 3 ?_
   refine tj 4 ?_
   refine tj 5 ?_
   refine tj 6 ?_
   refine tj 7 ?_
   refine rk 1 rfl (fun K hK => ?_)
   go_simp
   refine hK.out _ _ hS (fun uG => ?_)
   clear hK K
   (try simp only [Act.put, u1, u2, u3])
   refine tj 8 ?_
   refine tj 9 ?_
   refine rk 10 rfl (fun K hK => ?_)
   go_simp
   refine hK.out _ _ hS8 (fun oT => ?_)
   clear hK K
   (try simp only [Act.put, u1, u2, u3])
   refine wpAnyH_done (by kernel_rfl) ?_ _
   clear hS hS8 uG oT Z4 aOk aLg aOy e0 e1 e2 e3 e4 e5 e6 e7 f0 f1 f2 f3 f4 f5 f6 f7; generalize hmx : max x.undos u = mx at HX8 aCL aDD aHj aJG HFy ⊢; generalize z0.setCell ⟨nb, 7, none⟩ (.int .i64 mx) = w8 at HX8 aCL aDD aHj aJG ⊢; clear hmx dO aJG aPp; obtain ⟨e0, e1, e2, e3, e4, e5, e6, e7⟩ := aQ HX8.out; obtain ⟨o0, o1⟩ := pair_cells aCL.out; have aOS := aB aCL.out; have V1 := aDD.out.alloc (.cells #[.int .i64 x.dev, .int .i64 x.seq, .int .i64 x.stamp, .int .i64 x.kind, .string x.item, .int .i64 x.qty, .int .i64 x.level, .int .i64 mx] 50)
   go_upto_region 12 with fail
   have aOr : Hid (dX l m d s = x.with mx) := HFy.out; generalize hX : x.with mx = xx at aOr
   go_wp2_with (at_builtin; refine wpList_append_own _ rfl _ _ 25 rfl (ob + 1) 50 i0 (.agg #[.int .i64 0, .int .i64 0, .int .i64 0, .int .i64 0, .string ⟨#[]⟩, .int .i64 0, .int .i64 0, .int .i64 0]) 8 72 Tryz.underlying25 hi iF kO jU rfl (by decide) _ _ _ rfl V1 ⟨w8.heap.size, 0, none⟩ 1 1 (cB xx) rfl ?c0 ?c1 ?c2 ?c3 ?c4 ?c5 ?_)
   case c0 => rfl
   case c1 =>
    rw [← hX]; exact j9 w8 (x.with mx)
   case c2 =>
    intro u hu
    exact kX [xx] u (by show u ∈ cB xx ++ []; rw [List.append_nil]; exact hu)
   case c3 => unfold maxLen; omega
   case c4 => omega
   case c5 => simp; omega
   intro v' w9 jE jO _
   have aNx : Below ob w8 w9 := ((Below.refl ob w8).alloc (by omega) (.cells #[.int .i64 x.dev, .int .i64 x.seq, .int .i64 x.stamp, .int .i64 x.kind, .string x.item, .int .i64 x.qty, .int .i64 x.level, .int .i64 mx] 50)).grown jO (by simp; omega) (fun j hj => by have := (V1.lt j hj).1; omega)
   have aHc : Hid (w9.heap[ob]? = some (.cells #[.slice (some ⟨vb, vo, none⟩) 4 zc, .slice oa L.length oc] 27 (0, 0))) := (jO.block ob (by show _ < (w8.heap.push _).size; simp; omega) (fun h => by have := (V1.lt ob h.symm).1; omega)).trans ((Below.heap_alloc _ _ _ aOS).trans aCL.out)
   obtain ⟨fS, fR, rfl⟩ : ∃ fS fR, v' = .slice fS (L.length + 1) fR := by
    rcases jE.2 with ⟨_, e2⟩ | ⟨_, c2, _, e2, _⟩
    ·omega
    ·exact ⟨_, c2, e2⟩
   have aOw : Hid ((w9.setCell ⟨ob, 1, none⟩ (.slice fS (L.length + 1) fR)).heap[ob]? = some (.cells #[.slice (some ⟨vb, vo, none⟩) 4 zc, .slice fS (L.length + 1) fR] 27 (0, 0))) := heap_setCell_same _ _ _ _ _ _ aHc.out; have aLf : Hid ((w9.setCell ⟨ob, 1, none⟩ (.slice fS (L.length + 1) fR)).ownsRow (ob + 1) 50 8 (.slice fS (L.length + 1) fR) (L.length + 1) (aH L ++ cB xx)) := aAu jE (fun q hq => by have := (jE.lt q hq).1; omega)
   have aOx : Hid (Below ob w2 (w9.setCell ⟨ob, 1, none⟩ (.slice fS (L.length + 1) fR))) := (aHj.out.trans (aNx.mono (by omega))).setCell aRC _
   have vU : Hid (pF ob (some ⟨vb, vo, none⟩) zc zs (dX l m) w2 (w9.setCell ⟨ob, 1, none⟩ (.slice fS (L.length + 1) fR)) d (s + 1)) := by
    show pF _ _ _ _ _ _ _ _ _
    unfold pF; rw [cZ.out, aOr.out, lF, List.length_append]; exact ⟨fS, fR, aOw.out, aLf.out, aOx.out⟩
   have o19 := (pair_cells aHc.out).2; have fz9 := (aD aHc.out).2; clear V1 jE jO aDD aHj HX8 aCL e0 e1 e2 e3 e4 e5 e6 e7 o0 o1 aOw aLf aOx aHc aNx; go_wp2
   go_roundw
   case rel => exact ⟨s + 1, by omega, by go_num, vU, HE⟩
   case measure => simp [intOf]; omega

set_option linter.unusedSimpArgs false in
set_option maxHeartbeats 40000000 in
theorem aFc (w : World) (B : Nat) (av ao bv bo : Option Addr) (nv cv no co mv dv mo eo : Nat) (xs : List Int) (l : List aA) (ys : List Int) (m : List aA) (hx : Ints w B av nv xs) (h : bS w B ao no l) (hy : Ints w B bv mv ys) (g : bS w B bo mo m) (hB : B ≤ w.heap.size) (hv : nv ≤ 1048576) (hn : no ≤ 1048576) (hm : ∀ i, i < no → (aC l i).item.size ≤ 1048576) (N3 : mv ≤ 1048576) (D2 : mo ≤ 1048576) (iM : ∀ i, i < mo → (aC m i).item.size ≤ 1048576) :
  Calls Tryz.prog 105 #[.agg #[.slice av nv cv, .slice ao no co], .agg #[.slice bv mv dv, .slice bo mo eo]] w (O6 (nC xs l ys m) (yT xs ys (nC xs l ys m)) (I3 xs ys l m (nC xs l ys m)) w) := by
 have hT := yY.mk0 w #[.slice av nv cv, .slice ao no co] #[.slice bv mv dv, .slice bo mo eo] #[.slice none 0 0, .slice none 0 0] 27 27 27
 have HV := aRA (hx.below hT.bel hB)
 have HO := aRA (h.below hT.bel hB)
 have HY := aRA (hy.below hT.bel hB)
 have HG := aRA (g.below hT.bel hB)
 have HT := aRA hT
 have HM := aRA hm
 have HM2 := aRA iM
 have hBw := hB
 clear hx h hy g hT hB hm iM
 go_enter Tryz.func105, Tryz.ntmps105
 go_wp2_with fail
 generalize ((w.alloc (.cells #[.slice av nv cv, .slice ao no co] 27)).alloc (.cells #[.slice bv mv dv, .slice bo mo eo] 27)).alloc (.cells #[.slice none 0 0, .slice none 0 0] 27) = w0 at HV HO HY HG HT ⊢
 have aJI := HT.out.bel.size
 have uV := aB HT.out.res
 refine (wF w0 B av ao nv cv no co xs l HV.out HO.out (by omega) hv hn HM.out).mono ?_
 rintro e w1 ⟨rfl, aI⟩
 have lP := aRA (HV.out.below aI (by omega))
 have dL := aRA (HO.out.below aI (by omega))
 have HY1 := aRA (HY.out.below aI (by omega))
 have E4 := aRA (HG.out.below aI (by omega))
 have aZ := aRA (HT.out.next aI)
 have fH := aI.size
 clear aI HV HO HY HG HT
 rcases hca : aE xs l with _ | _
 ·have HF := aRA (aH3 (ys := ys) (m := m) hca)
  clear hca; obtain ⟨r0, r1⟩ := pair_cells aZ.out.res; obtain ⟨fz0, fz1⟩ := aD aZ.out.res; have rM := aRA (aZ.out.set2S (.slice none 0 0) (.slice none 0 0)).1; have qG := aRA (aZ.out.set2S (.slice none 0 0) (.slice none 0 0)).2; go_wp2
  change bodyPost _ _ _ _ _ ((w1.setCell ⟨w.heap.size + 1 + 1, 0, none⟩ (.slice none 0 0)).setCell ⟨w.heap.size + 1 + 1, 1, none⟩ (.slice none 0 0))
  generalize (w1.setCell ⟨w.heap.size + 1 + 1, 0, none⟩ (.slice none 0 0)).setCell ⟨w.heap.size + 1 + 1, 1, none⟩ (.slice none 0 0) = wf at rM qG ⊢; obtain ⟨q0, q1⟩ := pair_cells rM.out; exact bodyPost_ret (v := .tuple #[.agg #[.slice none 0 0, .slice none 0 0], .bool false]) (by simp [results, Tryz.results105, go_sem, q0, q1]) rfl ⟨none, 0, none, 0, by rw [HF.out]; rfl, by rw [HF.out]; exact U1 _ _ _ _, by rw [HF.out]; exact gD _ _ _ _, qG.out, by rw [HF.out]; exact dA, by rw [HF.out]; exact dA⟩
 obtain ⟨b0, b1⟩ := pair_cells aZ.out.snd
 go_wp2_with fail
 refine (wF w1 B bv bo mv dv mo eo ys m HY1.out E4.out (by omega) N3 D2 HM2.out).mono ?_
 rintro e w2 ⟨rfl, aN⟩
 have mZ := aRA (lP.out.below aN (by omega))
 have iZ := aRA (dL.out.below aN (by omega))
 have HY2 := aRA (HY1.out.below aN (by omega))
 have HG2 := aRA (E4.out.below aN (by omega))
 have aM := aRA (aZ.out.next aN)
 have eV := aN.size
 have aQW := aB aM.out.res
 clear aN lP dL HY1 E4 aZ b0 b1
 rcases hcb : aE ys m with _ | _
 ·have HF := aRA (aH2 (xs := xs) (l := l) hcb)
  clear hca hcb; obtain ⟨r0, r1⟩ := pair_cells aM.out.res; obtain ⟨fz0, fz1⟩ := aD aM.out.res; have rM := aRA (aM.out.set2S (.slice none 0 0) (.slice none 0 0)).1; have qG := aRA (aM.out.set2S (.slice none 0 0) (.slice none 0 0)).2; go_wp2
  change bodyPost _ _ _ _ _ ((w2.setCell ⟨w.heap.size + 1 + 1, 0, none⟩ (.slice none 0 0)).setCell ⟨w.heap.size + 1 + 1, 1, none⟩ (.slice none 0 0))
  generalize (w2.setCell ⟨w.heap.size + 1 + 1, 0, none⟩ (.slice none 0 0)).setCell ⟨w.heap.size + 1 + 1, 1, none⟩ (.slice none 0 0) = wf at rM qG ⊢; obtain ⟨q0, q1⟩ := pair_cells rM.out; exact bodyPost_ret (v := .tuple #[.agg #[.slice none 0 0, .slice none 0 0], .bool false]) (by simp [results, Tryz.results105, go_sem, q0, q1]) rfl ⟨none, 0, none, 0, by rw [HF.out]; rfl, by rw [HF.out]; exact U1 _ _ _ _, by rw [HF.out]; exact gD _ _ _ _, qG.out, by rw [HF.out]; exact dA, by rw [HF.out]; exact dA⟩
 have HFk := aRA (aH1 hca hcb)
 obtain ⟨a0, a1⟩ := pair_cells aM.out.fst
 obtain ⟨b0, b1⟩ := pair_cells aM.out.snd
 go_wp2_with fail
 refine (aJw w2 B av ao bv bo nv cv no co mv dv mo eo xs l ys m mZ.out iZ.out HY2.out HG2.out (by omega) hv hn HM.out N3 D2 HM2.out hca hcb).mono ?_
 rintro e w3 ⟨va, vc, oa, oc, rfl, hiv, cD, bB, bI, bM⟩
 rw [← HFk.out] at hiv cD bI bM ⊢
 have kS := aRA bI
 have rO := aRA bM
 clear bI bM
 have bJ := aRA (aM.out.next bB)
 have HI := aRA hiv
 have HP := aRA cD
 have iG := bB.size
 clear hiv cD bB mZ iZ HY2 HG2 aM a0 a1 b0 b1 hca hcb
 generalize oP : yT xs ys (nC xs l ys m) = zs at HI kS ⊢
 generalize hLs : I3 xs ys l m (nC xs l ys m) = L at HP rO ⊢
 have HZs := aRA oP
 have tL := aRA hLs
 clear oP hLs
 rcases hok : nC xs l ys m with _ | _
 ·have HF := aRA hok
  clear hok
  go_upto_region 4 with fail
  have dY : Below w3.heap.size w3 (w3.alloc (.cells #[.slice va zs.length vc, .slice oa L.length oc] 27)) := bl; have iA := aRA (bJ.out.next dY); generalize w3.alloc (.cells #[.slice va zs.length vc, .slice oa L.length oc] 27) = w4 at dY iA ⊢; clear dY; obtain ⟨r0, r1⟩ := pair_cells iA.out.res; obtain ⟨fz0, fz1⟩ := aD iA.out.res; have rM := aRA (iA.out.set2S (.slice none 0 0) (.slice none 0 0)).1; have qG := aRA (iA.out.set2S (.slice none 0 0) (.slice none 0 0)).2; go_wp2
  change bodyPost _ _ _ _ _ ((w4.setCell ⟨w.heap.size + 1 + 1, 0, none⟩ (.slice none 0 0)).setCell ⟨w.heap.size + 1 + 1, 1, none⟩ (.slice none 0 0))
  generalize (w4.setCell ⟨w.heap.size + 1 + 1, 0, none⟩ (.slice none 0 0)).setCell ⟨w.heap.size + 1 + 1, 1, none⟩ (.slice none 0 0) = wf at rM qG ⊢; obtain ⟨q0, q1⟩ := pair_cells rM.out; exact bodyPost_ret (v := .tuple #[.agg #[.slice none 0 0, .slice none 0 0], .bool false]) (by simp [results, Tryz.results105, go_sem, q0, q1]) rfl ⟨none, 0, none, 0, by rw [HF.out]; rfl, by rw [HF.out]; exact U1 _ _ _ _, by rw [HF.out]; exact gD _ _ _ _, qG.out, by rw [HF.out]; exact dA, by rw [HF.out]; exact dA⟩
 have HF := aRA hok
 clear hok
 go_upto_region 4 with fail
 have dY : Below w3.heap.size w3 (w3.alloc (.cells #[.slice va zs.length vc, .slice oa L.length oc] 27)) := bl
 have iA := aRA (bJ.out.next dY)
 have Z5 := aRA (bL (Below.refl _ (w3.alloc (.cells #[.slice va zs.length vc, .slice oa L.length oc] 27))))
 have gG := aRA (HI.out.below dY aRC)
 have qM := aRA (HP.out.below dY aRC)
 generalize w3.alloc (.cells #[.slice va zs.length vc, .slice oa L.length oc] 27) = w4 at dY iA Z5 gG qM ⊢
 have D1 := dY.size
 clear dY bJ HI HP
 obtain ⟨r0, r1⟩ := pair_cells iA.out.res
 obtain ⟨fz0, fz1⟩ := aD iA.out.res
 obtain ⟨x0, x1⟩ := pair_cells Z5.out
 have hrl := aB iA.out.res
 have rM := aRA (iA.out.set2S (.slice va zs.length vc) (.slice oa L.length oc)).1
 have qG := aRA (iA.out.set2S (.slice va zs.length vc) (.slice oa L.length oc)).2
 have aGu : ((w4.setCell ⟨w.heap.size + 1 + 1, 0, none⟩ (.slice va zs.length vc)).setCell ⟨w.heap.size + 1 + 1, 1, none⟩ (.slice oa L.length oc)).heap.size = w4.heap.size := bA _ _ _ _
 have HZ6 : Hid (Own ((w4.setCell ⟨w.heap.size + 1 + 1, 0, none⟩ (.slice va zs.length vc)).setCell ⟨w.heap.size + 1 + 1, 1, none⟩ (.slice oa L.length oc)) w2.heap.size w3.heap.size va zs.length zs) := gG.out.kept fun j h1 h2 => aF _ _ (by omega)
 have HO6 : Hid (bF ((w4.setCell ⟨w.heap.size + 1 + 1, 0, none⟩ (.slice va zs.length vc)).setCell ⟨w.heap.size + 1 + 1, 1, none⟩ (.slice oa L.length oc)) w2.heap.size w3.heap.size oa L.length L) := qM.out.kept fun j h1 h2 => aF _ _ (by omega)
 have HsM : Hid (w4.heap.size = ((w4.setCell ⟨w.heap.size + 1 + 1, 0, none⟩ (.slice va zs.length vc)).setCell ⟨w.heap.size + 1 + 1, 1, none⟩ (.slice oa L.length oc)).heap.size) := aGu.symm
 clear aGu
 go_wp2
 change bodyPost _ _ _ _ _ ((w4.setCell ⟨w.heap.size + 1 + 1, 0, none⟩ (.slice va zs.length vc)).setCell ⟨w.heap.size + 1 + 1, 1, none⟩ (.slice oa L.length oc))
 generalize (w4.setCell ⟨w.heap.size + 1 + 1, 0, none⟩ (.slice va zs.length vc)).setCell ⟨w.heap.size + 1 + 1, 1, none⟩ (.slice oa L.length oc) = wf at rM qG HZ6 HO6 HsM ⊢
 obtain ⟨q0, q1⟩ := pair_cells rM.out
 have hsm := HsM.out
 exact bodyPost_ret (v := .tuple #[.agg #[.slice va zs.length vc, .slice oa L.length oc], .bool true]) (by simp [results, Tryz.results105, go_sem, q0, q1]) rfl ⟨va, vc, oa, oc, by rw [HZs.out, tL.out, HF.out], by rw [HZs.out]; exact HZ6.out.more (by omega) (by omega), by rw [tL.out]; exact HO6.out.more (by omega) (by omega), qG.out, by rw [HZs.out]; exact kS.out, by rw [tL.out]; exact rO.out⟩
end Go.Proofs.YthkagbnpcjidfaaGreatDoor
