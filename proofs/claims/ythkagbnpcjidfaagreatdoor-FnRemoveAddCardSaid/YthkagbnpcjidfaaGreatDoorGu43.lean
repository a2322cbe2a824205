/- Walks and mathematics that several claims share, part 43. -/
import Derived.Test.YthkagbnpcjidfaaGreatDoorGu31
import Derived.Test.YthkagbnpcjidfaaGreatDoorGu29
import Derived.Laws.MakeOwn
import Derived.Deep.Cut
import Derived.Deep.RegionHeld3
namespace Go.Proofs.YthkagbnpcjidfaaGreatDoor
set_option maxRecDepth 100000
open Go.RowKit
set_option linter.unusedVariables false
set_option linter.unusedSimpArgs false
theorem X3 {w : World} {base b i n : Nat} {v u : Value} {xs : List Value} (h : w.ownsRow base 50 8 v n xs) (hb : ∀ g, v.ownBlock = some g → g ≠ b) : (w.setCell ⟨b, i, none⟩ u).ownsRow base 50 8 v n xs := by
 refine h.kept (row := some b) ⟨rfl, rfl, rfl, by simp [World.setCell], fun j _ bO => heap_setCell_other _ _ _ _ (fun e => bO (by rw [e]))⟩ ?_
 rcases hg : v.ownBlock with _ | g
 ·exact .inl rfl
 ·refine .inr fun e => ?_
  injection e with e; exact hb g hg e
theorem jA.len {w : World} {b n : Nat} {f : Int → Int → Option aA} (h : jA w b n f) : ∃ c : Nat, c ≤ n ∧ ∀ ty, (Builtin.len_ #[82] ty #[.map (some b)]).run Tryz.prog w = .ok (.int .i64 (c : Int)) w := by
 obtain ⟨D, h1, _⟩ := h
 exact ⟨_, h1.size_le, fun ty => h1.len Tryz.underlying82 ty⟩
def aIX (ok : Bool) (zs : List Int) (L : List aA) (w : World) (e : Ending) (w' : World) : Prop := ∃ va vc oa oc, e = .returned (.tuple #[.agg #[.slice va zs.length vc, .slice oa L.length oc], .bool ok]) ∧ Own w' w.heap.size w'.heap.size va zs.length zs ∧ bB w' w.heap.size w'.heap.size oa L.length L ∧ Below w.heap.size w w'
def C1 (ok : Bool) (zs : List Int) (L : List aA) (w : World) (e : Ending) (w' : World) : Prop := ∃ va vc oa oc, e = .returned (.tuple #[.agg #[.slice va zs.length vc, .slice oa L.length oc], .bool ok]) ∧ Own w' w.heap.size w'.heap.size va zs.length zs ∧ bB w' w.heap.size w'.heap.size oa L.length L ∧ Below w.heap.size w w' ∧ bM va zs.length vc ∧ bM oa L.length oc
theorem C1.read {ok : Bool} {zs : List Int} {L : List aA} {w : World} (e : Ending) (w' : World) (h : C1 ok zs L w e w') : aIX ok zs L w e w' := by
 obtain ⟨va, vc, oa, oc, h1, h2, h3, h4, _⟩ := h
 exact ⟨va, vc, oa, oc, h1, h2, h3, h4⟩
theorem uQ.set2S {w w1 : World} {x y : Array Value} {z0 z1 : Value} {S T U : TypeId} (h : uQ w w1 x y #[z0, z1] S T U) (u v : Value) :
  ((w1.setCell ⟨w.heap.size + 1 + 1, 0, none⟩ u).setCell ⟨w.heap.size + 1 + 1, 1, none⟩ v).heap[w.heap.size + 1 + 1]? = some (.cells #[u, v] U (0, 0)) ∧ Below w.heap.size w ((w1.setCell ⟨w.heap.size + 1 + 1, 0, none⟩ u).setCell ⟨w.heap.size + 1 + 1, 1, none⟩ v) :=
 ⟨cE _ _ h.res, (h.bel.setCell (by show _ ≤ w.heap.size + 1 + 1; omega) _).setCell (by show _ ≤ w.heap.size + 1 + 1; omega) _⟩
theorem I4 (w : World) (lo hi : Nat) (a : Option Addr) : Own w lo hi a 0 [] := ⟨rfl, fun h => absurd h (by omega)⟩
theorem aBE {a b : aA} : iL a b = iL b a := by
 rcases h : iL a b with _ | _
 ·rcases h2 : iL b a with _ | _
  ·rfl
  ·have e := I1 h2
   rw [e] at h; have := aBD b a.undos; have h3 : iL (b.with a.undos) b = iL b (b.with a.undos) := by unfold iL aA.with; simp
   rw [h3, this] at h; cases h
 ·have e := I1 h
  rw [e]; have h3 : iL (a.with b.undos) a = iL a (a.with b.undos) := by unfold iL aA.with; simp
  rw [h3]; exact (aBD a b.undos).symm
def mS (ob : Nat) (zv : Option Addr) (zc : Nat) (zs : List Int) (F : Nat → Nat → aA) (w2 wr : World) (d s : Nat) : Prop :=
 ∃ oa oc, wr.heap[ob]? = some (.cells #[.slice zv 4 zc, .slice oa (eI zs F d s).length oc] 27 (0, 0)) ∧ wr.ownsRow (ob + 1) 50 8 (.slice oa (eI zs F d s).length oc) (eI zs F d s).length (aF (eI zs F d s)) ∧ Below ob w2 wr
def okP (l m : List aA) (d s : Nat) : Prop := ∀ a b, lD l (d : Int) ((s : Int) + 1) = some a → lD m (d : Int) ((s : Int) + 1) = some b → iL a b = true
theorem vA {P : Program} {o : Oper} {a : Act} {w : World} {K : Act → World → Prop} {Q : Exit → Act → World → Prop} (x y : Operand) (ts : Array TypeId) (eA : o.op = Op.call { callee := Callee.builtin Builtin.append, args := #[x, y], argTypes := ts }) (v1 v2 : Value) {v' : Value} {w' : World} (h1 : a.eval x = v1) (h2 : a.eval y = v2)
  (hrun : (Builtin.append_ ts o.type #[v1, v2]).run P w = .ok v' w') (hK : K (a.put o.dst v') w') : Oper.wp P o a w K Q := by
 unfold Oper.wp
 simp [execOp, eA, resolve, invoke, builtin, h1, h2, hrun, Result.andThen]
 exact hK
theorem aGG (zs : List Int) (F : Nat → Nat → aA) (d s : Nat) {i : Nat} (hi : i < (eI zs F d s).length) : ∃ e t, aC (eI zs F d s) i = F e t := by
 have hm : (eI zs F d s)[i] ∈ eI zs F d s := List.getElem_mem hi
 have ha : aC (eI zs F d s) i = (eI zs F d s)[i] := by unfold aC; rw [List.getD_eq_getElem?_getD, List.getElem?_eq_getElem hi]; rfl
 rw [ha]
 unfold eI at hm ⊢
 rcases List.mem_append.1 hm with h | h
 ·obtain ⟨e, _, h2⟩ := List.mem_flatMap.1 h
  obtain ⟨t, _, h3⟩ := List.mem_map.1 h2; exact ⟨e, t, h3.symm⟩
 ·obtain ⟨t, _, h3⟩ := List.mem_map.1 h
  exact ⟨d, t, h3.symm⟩
theorem uQ.low {w w1 w2 : World} {x y z : Array Value} {S T U : TypeId} {B : Nat} (h : uQ w w1 x y z S T U) (hb : Below B w1 w2) (hB : w.heap.size + 1 + 1 < B) : uQ w w2 x y z S T U :=
 ⟨(hb.block _ (by omega)).trans h.fst, (hb.block _ (by omega)).trans h.snd, (hb.block _ hB).trans h.res, h.bel.trans (hb.mono (by omega))⟩
theorem aKf {zs : List Int} {l m : List aA} {ys : List Int} (h2 : aE ys m = true) (hz : ∀ d, d < 4 → ys.getD d 0 ≤ zs.getD d 0) (h : ∀ d, d < 4 → ∀ s : Nat, (s : Int) < zs.getD d 0 → okP l m d s) : qN l m = true :=
 aKg fun i hi => by
  obtain ⟨d, hd, _, _, _, h3, _⟩ := uP h2 hi; have hq := aDi h2 hi h3; have hzd := hz d hd; obtain ⟨s, hs⟩ : ∃ s : Nat, (s : Int) + 1 = (aC m i).seq := ⟨((aC m i).seq - 1).toNat, by omega⟩
  have hp := h d hd s (by omega)
  unfold okP at hp; rw [← h3, hs] at hp; have hm : lD m (aC m i).dev (aC m i).seq = some (aC m i) := uC (uO h2) m.length aPq i hi; rcases hg : lD l (aC m i).dev (aC m i).seq with _ | a
  ·exact aHP hg
  ·rw [m0 hg, aBE]
   exact hp a _ hg hm
theorem aHN {l m : List aA} {d s : Nat} {a b : aA} {k : Nat} (hk : k < m.length) (hb : aC m k = b) (e : b.dev = (d : Int) ∧ b.seq = (s : Int) + 1) (ha : lD l (d : Int) ((s : Int) + 1) = some a) (h : iL a b = false) : qN l m = false :=
 aHO hk (by rw [m0 (y := a) (by rw [hb, e.1, e.2]; exact ha), hb, aBE]; exact h)
def uJ (xs ys : List Int) (ok : Bool) : List Int := if ok = true then lQ xs ys else []
def yG (xs ys : List Int) (l m : List aA) (ok : Bool) : List aA := if ok = true then Q5 (lQ xs ys) l m else []
set_option linter.unusedSimpArgs false in
set_option maxHeartbeats 80000000 in
theorem aH7 (w : World) (B : Nat) (av ao bv bo : Option Addr) (nv cv no co mv dv mo eo : Nat) (xs : List Int) (l : List aA) (ys : List Int) (m : List aA) (hx : Ints w B av nv xs) (h : bP w B ao no l) (hy : Ints w B bv mv ys) (g : bP w B bo mo m) (hB : B ≤ w.heap.size) (hv : nv ≤ 1048576) (hn : no ≤ 1048576) (hm : ∀ i, i < no → (aC l i).item.size ≤ 1048576) (M8 : mv ≤ 1048576) (A4 : mo ≤ 1048576) (iN : ∀ i, i < mo → (aC m i).item.size ≤ 1048576) (hca : aE xs l = true) (hcb : aE ys m = true) :
  Calls Tryz.prog 131 #[.agg #[.slice av nv cv, .slice ao no co], .agg #[.slice bv mv dv, .slice bo mo eo]] w (C1 (qN l m) (uJ xs ys (qN l m)) (yG xs ys l m (qN l m)) w) := by
 obtain ⟨i0, hi, gK, jV, iS⟩ := info_parts Tryz.infoOp
 have hT := uQ.mk0 w #[.slice av nv cv, .slice ao no co] #[.slice bv mv dv, .slice bo mo eo] #[.slice none 0 0, .slice none 0 0] 27 27 27
 have HV := aPo (hx.below hT.bel hB)
 have HO := aPo (h.below hT.bel hB)
 have HY := aPo (hy.below hT.bel hB)
 have HG := aPo (g.below hT.bel hB)
 have HT := aPo hT
 have HL := aPo h.1
 have HLm := aPo g.1
 have hvA := (jQ hca).1
 have hvB := (jQ hcb).1
 have hv4 := (fU hvA (d := 0) (by omega)).2.2
 have aLk := (fU hvB (d := 0) (by omega)).2.2
 have HVm := aPo (aBi hvA hvB)
 have HZv : Hid (E7 max xs ys = lQ xs ys) := by show _ = _; rw [aAa (by rw [hvA, hvB]; rfl)]; rfl
 have hz4 : (lQ xs ys).length = 4 := (fU HVm.out (d := 0) (by omega)).2.2
 have HZd : Hid (∀ d, d < 4 → (lQ xs ys).getD d 0 = max (xs.getD d 0) (ys.getD d 0)) := fun d hd => aBj hv4 aLk hd
 have j2 : Hid (∀ d s, (dH l m d s).item.size ≤ 1048576) := fun d s => aEc (N := 1048576) (fun i hi => hm i (by rw [← h.1]; exact hi)) (fun i hi => iN i (by rw [← g.1]; exact hi)) d s
 have iJ := aPo hca
 have jU := aPo hcb
 have HVd := aPo (fun d (hd : d < 4) => fU (aBi hvA hvB) hd)
 have hBw := hB
 clear hx h hy g hT hB hm iN hca hcb hvA hvB hv4 aLk
 go_enter Tryz.func131, Tryz.ntmps131
 go_wp2_with fail
 generalize ((w.alloc (.cells #[.slice av nv cv, .slice ao no co] 27)).alloc (.cells #[.slice bv mv dv, .slice bo mo eo] 27)).alloc (.cells #[.slice none 0 0, .slice none 0 0] 27) = w0 at HV HO HY HG HT ⊢
 have aIl := HT.out.bel.size
 have rH := bF HT.out.res
 refine (aHC w0 B B av bv nv cv mv dv xs ys HV.out HY.out (by omega) (by omega) hv M8).mono ?_
 rintro e w1 ⟨zv, zc, rfl, aU, aG, hcz⟩
 rw [HZv.out, hz4] at aU hcz ⊢
 have HCz := aPo hcz
 clear hcz
 have dD := aPo (HO.out.below aG (by omega))
 have C8 := aPo (HG.out.below aG (by omega))
 have bC := aPo (HT.out.next aG)
 have HZ1 := aPo aU
 have eZ := aG.size
 clear aG HV HO HY HG HT aU HZv
 go_upto_region 2 with fail
 have aM : Below w1.heap.size w1 (w1.alloc (.cells #[.slice zv 4 zc, .slice none 0 0] 27)) := bl
 have pU := aPo (bX (Below.refl _ (w1.alloc (.cells #[.slice zv 4 zc, .slice none 0 0] 27))))
 have gR := aPo (dD.out.below aM (by omega))
 have HG2 := aPo (C8.out.below aM (by omega))
 have aK := aPo (bC.out.next aM)
 have U5 := aPo (HZ1.out.below aM aPq)
 generalize w1.alloc (.cells #[.slice zv 4 zc, .slice none 0 0] 27) = w2 at aM pU gR HG2 aK U5 ⊢
 have eC := aM.size
 have S2 := bF pU.out
 generalize sW : w1.heap.size = ob at pU eC S2 eZ U5 ⊢
 clear aM dD C8 bC HZ1 sW
 have aMj : Hid (mS ob zv zc (lQ xs ys) (dH l m) w2 w2 0 0) := ⟨none, 0, pU.out, ⟨rfl, .inl ⟨rfl, rfl⟩⟩, Below.refl _ _⟩
 generalize lW : lQ xs ys = zs at *
 go_wp2
 go_loopw [7] (fun i wr => ∃ d : Nat, d ≤ 4 ∧ i = .int .i64 (d : Int) ∧ Hid (mS ob zv zc zs (dH l m) w2 wr d 0) ∧ Hid (∀ e, e < d → ∀ s : Nat, (s : Int) < zs.getD e 0 → okP l m e s)) (fun i _ => 4 - (intOf i).toNat)
 case atStart => exact ⟨0, by omega, rfl, aMj, aPo (fun e he => absurd he (by omega))⟩
 case round =>
  obtain ⟨d, hd, rfl, HOu, wU⟩ := hrel; clear aMj pU
  by_cases aJ : d < 4
  rotate_left
  ·obtain rfl : d = 4 := by omega
   obtain ⟨oa, oc, D8, jG, uN⟩ := HOu.out; have hok : qN l m = true := aKf jU.out (fun d hd => by rw [HZd.out d hd]; omega) wU.out
   have aOg := aPo hok; have HCm : Hid (aE zs (eI zs (dH l m) 4 0) = true) := by
    show _ = _
    rw [← lW]; exact g7 iJ.out jU.out hok
   have HMv : Hid (uJ xs ys (qN l m) = zs) := by show _ = _; rw [hok, ← lW]; rfl
   have HMo : Hid (yG xs ys l m (qN l m) = eI zs (dH l m) 4 0) := by show _ = _; rw [hok, ← lW]; rfl
   have mQ : (eI zs (dH l m) 4 0).length ≤ 1048576 := by
    rw [rS]; have h2 := X1 HVm.out 4 (by omega)
    omega
   have aMx : Hid (∀ i, i < (eI zs (dH l m) 4 0).length → (aC (eI zs (dH l m) 4 0) i).item.size ≤ 1048576) := fun i hi => by
    obtain ⟨d, s, e⟩ := aGG zs (dH l m) 4 0 hi; rw [e]; exact j2.out d s
   have C5 := aPo D8; have rN := aPo jG; have j8 := aPo uN; have nK := aPo (aK.out.low uN (by omega))
   have HZr := aPo (U5.out.below uN aPq); have aNJ : ob < wr.heap.size := bF D8; clear D8 jG uN HOu hok lW iJ jU wU U5 HZd j2; generalize eI zs (dH l m) 4 0 = L at C5 rN HCm HMo aMx mQ; have aMm := aPo (fV rN.out (Nat.le_refl wr.heap.size)); have oM := aPo (gA rN.out); obtain ⟨z0, dB⟩ : ∃ z0, wr.drew = z0 := ⟨_, rfl⟩; have hS : z0.cell? ⟨ob, 0, none⟩ = some (.slice zv 4 zc) ∧ z0.cell? ⟨ob, 1, none⟩ = some (.slice oa L.length oc) := by rw [← dB]; exact pair_cells C5.out
   have i6 : Hid (uQ w z0 #[.slice av nv cv, .slice ao no co] #[.slice bv mv dv, .slice bo mo eo] #[.slice none 0 0, .slice none 0 0] 27 27 27) := by rw [← dB]; exact ⟨nK.out.fst, nK.out.snd, nK.out.res, ⟨nK.out.bel.os, nK.out.bel.tape, nK.out.bel.output, nK.out.bel.size, nK.out.bel.block⟩⟩
   have HZ0 : Hid (Own z0 w0.heap.size ob zv 4 zs) := by rw [← dB]; exact HZr.out.kept (w' := wr.drew) fun _ _ _ => rfl
   have HO0 : Hid (bB z0 (ob + 1) z0.heap.size oa L.length L) := by rw [← dB]; exact aMm.out.kept (w' := wr.drew) fun _ _ _ => rfl
   have aIs : ob ≤ z0.heap.size := by rw [← dB]; exact Nat.le_of_lt aNJ
   clear C5 rN nK HZr aMm
   go_upto_region 19 with fail
   go_wp2_with fail
   refine wp_region_held_drew (S := fun w' => w'.cell? ⟨ob, 0, none⟩ = some (.slice zv 4 zc) ∧ w'.cell? ⟨ob, 1, none⟩ = some (.slice oa L.length oc)) (by kernel_rfl) (by rw [dB]; exact hS) (fun aL => ?_)
   rw [dB]; clear aL; refine tj 0 ?_
   refine tj 1 ?_
   refine rk 2 rfl (fun K hK => ?_)
   go_simp
   go_at_call 36
   refine (iW z0 z0.heap.size zv oa 4 zc L.length oc zs L (HZ0.out.ints.more aIs) HO0.out.ops aPq (by omega) mQ aMx.out).mono ?_
   rintro e w5 ⟨rfl, bA⟩; rw [HCm.out]; have F9 : w5.cell? ⟨ob, 0, none⟩ = some (.slice zv 4 zc) ∧ w5.cell? ⟨ob, 1, none⟩ = some (.slice oa L.length oc) := ⟨(bA.cell (block_lt_of_cell hS.1)).trans hS.1, (bA.cell (block_lt_of_cell hS.2)).trans hS.2⟩; refine hK.out _ _ F9 (fun bS => ?_)
   clear hK K
   (try simp only [Act.put, u1, u2, u3])
   have tX := aPo (i6.out.next bA); have HZ5 := aPo (HZ0.out.below bA aIs); have W3 := aPo ((HO0.out.below bA aPq).more aPq bA.size); have aOP : ob ≤ w5.heap.size := Nat.le_trans aIs bA.size; obtain ⟨r0, r1⟩ := pair_cells tX.out.res; obtain ⟨fz0, fz1⟩ := aB tX.out.res; have hrl := bF aK.out.res; have hS6 : ((w5.setCell ⟨w.heap.size + 1 + 1, 0, none⟩ (.slice zv 4 zc)).setCell ⟨w.heap.size + 1 + 1, 1, none⟩ (.slice oa L.length oc)).cell? ⟨ob, 0, none⟩ = some (.slice zv 4 zc) ∧ ((w5.setCell ⟨w.heap.size + 1 + 1, 0, none⟩ (.slice zv 4 zc)).setCell ⟨w.heap.size + 1 + 1, 1, none⟩ (.slice oa L.length oc)).cell? ⟨ob, 1, none⟩ = some (.slice oa L.length oc) := ⟨(cell_of_block (aD _ _ (by omega))).trans F9.1, (cell_of_block (aD _ _ (by omega))).trans F9.2⟩
   have oJ := aPo (tX.out.set2S (.slice zv 4 zc) (.slice oa L.length oc)).1; have nN := aPo (tX.out.set2S (.slice zv 4 zc) (.slice oa L.length oc)).2; have aFj : ((w5.setCell ⟨w.heap.size + 1 + 1, 0, none⟩ (.slice zv 4 zc)).setCell ⟨w.heap.size + 1 + 1, 1, none⟩ (.slice oa L.length oc)).heap.size = w5.heap.size := aY _ _ _ _; have HZ6 : Hid (Own ((w5.setCell ⟨w.heap.size + 1 + 1, 0, none⟩ (.slice zv 4 zc)).setCell ⟨w.heap.size + 1 + 1, 1, none⟩ (.slice oa L.length oc)) w0.heap.size ob zv 4 zs) := HZ5.out.kept fun j h1 h2 => aD _ _ (by omega)
   have HO6 : Hid (bB ((w5.setCell ⟨w.heap.size + 1 + 1, 0, none⟩ (.slice zv 4 zc)).setCell ⟨w.heap.size + 1 + 1, 1, none⟩ (.slice oa L.length oc)) (ob + 1) w5.heap.size oa L.length L) := W3.out.kept fun j h1 h2 => aD _ _ (by omega)
   refine rk 3 rfl (fun K hK => ?_)
   go_simp
   refine hK.out _ _ hS6 (fun jN => ?_)
   clear hK K
   (try simp only [Act.put, u1, u2, u3])
   refine tj 4 ?_
   refine wpAnyH_done (by kernel_rfl) ?_ _
   clear hS F9 hS6 bS jN bA i6 HZ0 HO0 tX HZ5 W3 r0 r1 fz0 fz1; generalize (w5.setCell ⟨w.heap.size + 1 + 1, 0, none⟩ (.slice zv 4 zc)).setCell ⟨w.heap.size + 1 + 1, 1, none⟩ (.slice oa L.length oc) = wf at oJ nN HZ6 HO6 aFj ⊢; obtain ⟨q0, q1⟩ := pair_cells oJ.out; go_wp2
   exact bodyPost_ret (v := .tuple #[.agg #[.slice zv 4 zc, .slice oa L.length oc], .bool true]) (by simp [results, Tryz.results131, go_sem, q0, q1]) rfl ⟨zv, zc, oa, oc, by rw [HMv.out, HMo.out, aOg.out, hz4], by rw [HMv.out, hz4]; exact HZ6.out.more (by omega) (by omega), by rw [HMo.out]; exact HO6.out.more (by omega) (by omega), nN.out, by rw [HMv.out, hz4]; exact HCz.out, by rw [HMo.out]; exact oM.out⟩
  obtain ⟨g1, g2, _⟩ := HVd.out d aJ; obtain ⟨q, hq⟩ := Int.eq_ofNat_of_zero_le g1; have hdi : (d : Int) < 4 := by omega
  have aMk : Hid (Below ob w2 wr) := by obtain ⟨_, _, _, _, h⟩ := HOu.out; exact h
  have HZc : Hid (∀ vb vo, zv = some ⟨vb, vo, none⟩ → w2.cell? ⟨vb, vo + d, none⟩ = some (.int .i64 (q : Int))) := fun vb vo e => by
   obtain ⟨vb', vo', e', _, hc⟩ := U5.out.ints.2 d aJ; rw [e] at e'; cases e'; rw [hq] at hc; exact hc
  have HZr := aPo (U5.out.ints.below aMk.out aPq); obtain ⟨vb, vo, rfl, hvb, _⟩ := HZr.out.2 d aJ; clear HZr; go_wp2
  go_loopw [8] (fun sq wr => ∃ s : Nat, s ≤ q ∧ sq = .int .i64 ((s : Int) + 1) ∧ Hid (mS ob (some ⟨vb, vo, none⟩) zc zs (dH l m) w2 wr d s) ∧ Hid (∀ e, e < s → okP l m d e)) (fun sq _ => q + 1 - (intOf sq).toNat)
  case atStart => exact ⟨0, Nat.zero_le _, rfl, HOu, aPo (fun e he => absurd he (by omega))⟩
  case round =>
   obtain ⟨s, hsq, rfl, aMl, aMp⟩ := hrel; clear HOu aMk; obtain ⟨oa, oc, D8, jG, uN⟩ := aMl.out; have C5 := aPo D8; have rN := aPo jG; have j8 := aPo uN; have aFl := bF D8; have nK := aPo (aK.out.low uN (by omega))
   have HOr := aPo (gR.out.below uN (by omega))
   have HGr := aPo (HG2.out.below uN (by omega))
   have c0 := (uN.cell (p := ⟨vb, vo + d, none⟩) hvb).trans (HZc.out vb vo rfl); obtain ⟨o0, o1⟩ := pair_cells D8; clear D8 jG uN aMl
   by_cases pO : s < q
   rotate_left
   ·obtain rfl : s = q := by omega
    have aN0 : ¬ ((s : Int) + 1 ≤ (s : Int)) := by omega
    have sB : Hid (mS ob (some ⟨vb, vo, none⟩) zc zs (dH l m) w2 wr (d + 1) 0) := by
     show mS _ _ _ _ _ _ _ _ _
     unfold mS; rw [wZ, hq]; exact ⟨oa, oc, C5.out, rN.out, j8.out⟩
    have aOf : Hid (∀ e, e < d + 1 → ∀ s : Nat, (s : Int) < zs.getD e 0 → okP l m e s) := fun e he t ht => by
     rcases Nat.lt_or_ge e d with h1 | h1
     ·exact wU.out e h1 t ht
     ·obtain rfl : e = d := by omega
      exact aMp.out t (by rw [hq] at ht; omega)
    clear C5 rN j8; go_wp2
    go_roundw
    case rel => exact ⟨d + 1, by omega, by go_num, sB, aOf⟩
    case measure => simp [intOf]; omega
   have aN0 : (s : Int) + 1 ≤ (q : Int) := by omega
   have hmx := HZd.out d aJ; rw [hq] at hmx; have HMx := aPo hmx; clear hmx; have cM := aPo (wY zs (dH l m) d s); have mQ : (eI zs (dH l m) d s).length ≤ 1048576 := by
    rw [rS]; have h1 := jB zs d 4 (by omega)
    have h2 := X1 HVm.out 4 (by omega)
    omega
   have aJb : Hid (dH l m d s = nD l m (d : Int) ((s : Int) + 1)) := rfl; have aOj : Hid ((s : Int) < xs.getD d 0 → (∀ j, j < no → ¬ yY l j (d : Int) ((s : Int) + 1)) → False) := fun h1 h2 => by
    obtain ⟨h3, h4⟩ := zA iJ.out aJ h1; exact h2 _ (by rw [← HL.out]; exact h3) h4
   have aOh : Hid ((s : Int) < ys.getD d 0 → (∀ j, j < mo → ¬ yY m j (d : Int) ((s : Int) + 1)) → False) := fun h1 h2 => by
    obtain ⟨h3, h4⟩ := zA jU.out aJ h1; exact h2 _ (by rw [← HLm.out]; exact h3) h4
   have aI6 : Hid (okP l m d s → ∀ e, e < s + 1 → okP l m d e) := fun h e he => by
    rcases Nat.lt_or_ge e s with h1 | h1
    ·exact aMp.out e h1
    ·obtain rfl : e = s := by omega
     exact h
   generalize eI zs (dH l m) d s = L at C5 rN cM mQ o0 o1 ⊢; obtain ⟨a0, a1⟩ := pair_cells nK.out.fst; obtain ⟨b0, b1⟩ := pair_cells nK.out.snd
   go_wp2_with fail
   refine (aH8 wr B ao no co l (d : Int) ((s : Int) + 1) HOr.out hn).mono ?_
   rintro e w5 ⟨hor, rfl⟩; rcases hor with ⟨i, qH, hie, rfl⟩ | ⟨hM, rfl⟩
   rotate_left
   ·have bZ : lD l (d : Int) ((s : Int) + 1) = none := zX _ fun j hj => hM j (by rw [← HL.out]; exact hj)
    have qC : (s : Int) < ys.getD d 0 := by
     have hmx := HMx.out; rcases Int.lt_or_le (s : Int) (xs.getD d 0) with h1 | h1
     ·exact (aOj.out h1 hM).elim
     ·omega
    have HNo := aPo hM; clear hM
    go_wp2_with fail
    refine (aH8 wr B bo mo eo m (d : Int) ((s : Int) + 1) HGr.out A4).mono ?_
    rintro e w5 ⟨hor, rfl⟩; obtain ⟨k, hkm, hke, rfl⟩ : ∃ k : Nat, k < mo ∧ yY m k (d : Int) ((s : Int) + 1) ∧ e = .returned (.int .i64 (k : Int)) := hor.resolve_right (fun h => aOh.out qC h.1)
    clear hor; obtain ⟨b2, aP, rfl, aM, ho2⟩ := HGr.out.2 k hkm; have wC : Hid (wJ wr b2 (aP + k * 8) (aC m k)) := ho2; have eH : lD m (d : Int) ((s : Int) + 1) = some (aC m k) := by
     have := uC (uO jU.out) m.length aPq k (by rw [HLm.out]; exact hkm)
     rw [hke.1, hke.2] at this; exact this
    have HFy : Hid (dH l m d s = aC m k) := by show _ = _; rw [aJb.out]; unfold nD; rw [bZ, eH]
    have HE := aPo (aI6.out fun a b ha hb => by rw [bZ] at ha; cases ha)
    have hki : (k : Int) < (mo : Int) := by omega
    clear ho2 bZ eH hke qC; generalize aC m k = y at wC HFy; obtain ⟨c0', U0, T9, c3', c4', c5', c6', c7'⟩ := wC.out; have hSw : wr.cell? ⟨w.heap.size + 1, 1, none⟩ = some (.slice (some ⟨b2, aP, none⟩) mo eo) ∧ wr.cell? ⟨b2, aP + k * 8, none⟩ = some (.int .i64 y.dev) ∧ wr.cell? ⟨b2, aP + k * 8 + 1, none⟩ = some (.int .i64 y.seq) ∧ wr.cell? ⟨b2, aP + k * 8 + 2, none⟩ = some (.int .i64 y.stamp) ∧ wr.cell? ⟨b2, aP + k * 8 + 3, none⟩ = some (.int .i64 y.kind) ∧ wr.cell? ⟨b2, aP + k * 8 + 4, none⟩ = some (.string y.item) ∧ wr.cell? ⟨b2, aP + k * 8 + 5, none⟩ = some (.int .i64 y.qty) ∧ wr.cell? ⟨b2, aP + k * 8 + 6, none⟩ = some (.int .i64 y.level) ∧ wr.cell? ⟨b2, aP + k * 8 + 7, none⟩ = some (.int .i64 y.undos) := ⟨b1, c0', U0, T9, c3', c4', c5', c6', c7'⟩; clear a0 a1 b0 b1 c0 o0 o1 c0' U0 T9 c3' c4' c5' c6' c7' wC
    go_upto_region 14 with fail
    obtain ⟨z0, dB⟩ : ∃ z0, wr.drew = z0 := ⟨_, rfl⟩; have hS : z0.cell? ⟨w.heap.size + 1, 1, none⟩ = some (.slice (some ⟨b2, aP, none⟩) mo eo) ∧ z0.cell? ⟨b2, aP + k * 8, none⟩ = some (.int .i64 y.dev) ∧ z0.cell? ⟨b2, aP + k * 8 + 1, none⟩ = some (.int .i64 y.seq) ∧ z0.cell? ⟨b2, aP + k * 8 + 2, none⟩ = some (.int .i64 y.stamp) ∧ z0.cell? ⟨b2, aP + k * 8 + 3, none⟩ = some (.int .i64 y.kind) ∧ z0.cell? ⟨b2, aP + k * 8 + 4, none⟩ = some (.string y.item) ∧ z0.cell? ⟨b2, aP + k * 8 + 5, none⟩ = some (.int .i64 y.qty) ∧ z0.cell? ⟨b2, aP + k * 8 + 6, none⟩ = some (.int .i64 y.level) ∧ z0.cell? ⟨b2, aP + k * 8 + 7, none⟩ = some (.int .i64 y.undos) := ⟨by rw [← dB]; exact hSw.1, by rw [← dB]; exact hSw.2.1, by rw [← dB]; exact hSw.2.2.1, by rw [← dB]; exact hSw.2.2.2.1, by rw [← dB]; exact hSw.2.2.2.2.1, by rw [← dB]; exact hSw.2.2.2.2.2.1, by rw [← dB]; exact hSw.2.2.2.2.2.2.1, by rw [← dB]; exact hSw.2.2.2.2.2.2.2.1, by rw [← dB]; exact hSw.2.2.2.2.2.2.2.2⟩
    have ob0 : Hid (z0.heap[ob]? = some (.cells #[.slice (some ⟨vb, vo, none⟩) 4 zc, .slice oa L.length oc] 27 (0, 0))) := by rw [← dB]; exact C5.out
    have aCs : z0.ownsRow (ob + 1) 50 8 (.slice oa L.length oc) L.length (aF L) := by rw [← dB]; exact rN.out
    have aHQ : ob < z0.heap.size := by rw [← dB]; exact aFl
    have aDb : Hid (Below ob wr z0) := by rw [← dB]; exact ⟨rfl, rfl, rfl, Nat.le_refl _, fun _ _ => rfl⟩
    have o1 := (pair_cells ob0.out).2; have yA := aCs.alloc (.cells #[.int .i64 y.dev, .int .i64 y.seq, .int .i64 y.stamp, .int .i64 y.kind, .string y.item, .int .i64 y.qty, .int .i64 y.level, .int .i64 y.undos] 50); have iP : Below ob z0 (z0.alloc (.cells #[.int .i64 y.dev, .int .i64 y.seq, .int .i64 y.stamp, .int .i64 y.kind, .string y.item, .int .i64 y.qty, .int .i64 y.level, .int .i64 y.undos] 50)) := (Below.refl ob z0).alloc (by omega) _
    obtain ⟨v', z2, hrun, gX, iF, _⟩ := run_append_own (P := Tryz.prog) (z0.alloc (.cells #[.int .i64 y.dev, .int .i64 y.seq, .int .i64 y.stamp, .int .i64 y.kind, .string y.item, .int .i64 y.qty, .int .i64 y.level, .int .i64 y.undos] 50)) (ob + 1) 25 25 50 i0 (.agg #[.int .i64 0, .int .i64 0, .int .i64 0, .int .i64 0, .string ⟨#[]⟩, .int .i64 0, .int .i64 0, .int .i64 0]) 8 72 Tryz.underlying25 hi gK jV iS rfl (by decide) _ _ _ yA ⟨z0.heap.size, 0, none⟩ 1 1 (bV y) rfl (P9 z0 y) (fun u hu => iY [y] u (by show u ∈ bV y ++ []; rw [List.append_nil]; exact hu)) (by unfold maxLen; omega) (by omega) (by show _ ≤ (z0.heap.push _).size; simp; omega)
    have kC : Below ob z0 z2 := iP.grown iF (Nat.le_trans (by omega) iP.size) (fun q hq => by have := (yA.lt q hq).1; omega)
    obtain ⟨eP, eO, rfl⟩ : ∃ eP eO, v' = .slice eP (L.length + 1) eO := by
     rcases gX.2 with ⟨_, e2⟩ | ⟨_, c2, _, e2, _⟩
     ·omega
     ·exact ⟨_, c2, e2⟩
    have ob1 : Hid ((z0.alloc (.cells #[.int .i64 y.dev, .int .i64 y.seq, .int .i64 y.stamp, .int .i64 y.kind, .string y.item, .int .i64 y.qty, .int .i64 y.level, .int .i64 y.undos] 50)).heap[ob]? = some (.cells #[.slice (some ⟨vb, vo, none⟩) 4 zc, .slice oa L.length oc] 27 (0, 0))) := (Below.heap_alloc _ _ _ aHQ).trans ob0.out; have Q3 : Hid (z2.heap[ob]? = some (.cells #[.slice (some ⟨vb, vo, none⟩) 4 zc, .slice oa L.length oc] 27 (0, 0))) := (iF.block ob (by show _ < (z0.heap.push _).size; simp; omega) (fun h => by have := (yA.lt ob h.symm).1; omega)).trans ob1.out
    have o11 := (pair_cells ob1.out).2; have o12 := (pair_cells Q3.out).2; have fz2 := (aB Q3.out).2; have xQ : Hid ((z2.setCell ⟨ob, 1, none⟩ (.slice eP (L.length + 1) eO)).heap[ob]? = some (.cells #[.slice (some ⟨vb, vo, none⟩) 4 zc, .slice eP (L.length + 1) eO] 27 (0, 0))) := heap_setCell_same _ _ _ _ _ _ Q3.out; have xN : Hid ((z2.setCell ⟨ob, 1, none⟩ (.slice eP (L.length + 1) eO)).ownsRow (ob + 1) 50 8 (.slice eP (L.length + 1) eO) (L.length + 1) (aF L ++ bV y)) := X3 gX (fun q hq => by have := (gX.lt q hq).1; omega)
    have kB : Below ob z0 (z2.setCell ⟨ob, 1, none⟩ (.slice eP (L.length + 1) eO)) := kC.setCell aPq _; have xR : Hid (Below ob wr (z2.setCell ⟨ob, 1, none⟩ (.slice eP (L.length + 1) eO))) := aDb.out.trans kB; have hSd : z0.cell? ⟨w.heap.size + 1, 1, none⟩ = some (.slice (some ⟨b2, aP, none⟩) mo eo) ∧ z0.cell? ⟨b2, aP + k * 8, none⟩ = some (.int .i64 y.dev) ∧ z0.cell? ⟨b2, aP + k * 8 + 1, none⟩ = some (.int .i64 y.seq) ∧ z0.cell? ⟨b2, aP + k * 8 + 2, none⟩ = some (.int .i64 y.stamp) ∧ z0.cell? ⟨b2, aP + k * 8 + 3, none⟩ = some (.int .i64 y.kind) ∧ z0.cell? ⟨b2, aP + k * 8 + 4, none⟩ = some (.string y.item) ∧ z0.cell? ⟨b2, aP + k * 8 + 5, none⟩ = some (.int .i64 y.qty) ∧ z0.cell? ⟨b2, aP + k * 8 + 6, none⟩ = some (.int .i64 y.level) ∧ z0.cell? ⟨b2, aP + k * 8 + 7, none⟩ = some (.int .i64 y.undos) := hS; have bG : (z0.alloc (.cells #[.int .i64 y.dev, .int .i64 y.seq, .int .i64 y.stamp, .int .i64 y.kind, .string y.item, .int .i64 y.qty, .int .i64 y.level, .int .i64 y.undos] 50)).cell? ⟨w.heap.size + 1, 1, none⟩ = some (.slice (some ⟨b2, aP, none⟩) mo eo) ∧ (z0.alloc (.cells #[.int .i64 y.dev, .int .i64 y.seq, .int .i64 y.stamp, .int .i64 y.kind, .string y.item, .int .i64 y.qty, .int .i64 y.level, .int .i64 y.undos] 50)).cell? ⟨b2, aP + k * 8, none⟩ = some (.int .i64 y.dev) ∧ (z0.alloc (.cells #[.int .i64 y.dev, .int .i64 y.seq, .int .i64 y.stamp, .int .i64 y.kind, .string y.item, .int .i64 y.qty, .int .i64 y.level, .int .i64 y.undos] 50)).cell? ⟨b2, aP + k * 8 + 1, none⟩ = some (.int .i64 y.seq) ∧ (z0.alloc (.cells #[.int .i64 y.dev, .int .i64 y.seq, .int .i64 y.stamp, .int .i64 y.kind, .string y.item, .int .i64 y.qty, .int .i64 y.level, .int .i64 y.undos] 50)).cell? ⟨b2, aP + k * 8 + 2, none⟩ = some (.int .i64 y.stamp) ∧ (z0.alloc (.cells #[.int .i64 y.dev, .int .i64 y.seq, .int .i64 y.stamp, .int .i64 y.kind, .string y.item, .int .i64 y.qty, .int .i64 y.level, .int .i64 y.undos] 50)).cell? ⟨b2, aP + k * 8 + 3, none⟩ = some (.int .i64 y.kind) ∧ (z0.alloc (.cells #[.int .i64 y.dev, .int .i64 y.seq, .int .i64 y.stamp, .int .i64 y.kind, .string y.item, .int .i64 y.qty, .int .i64 y.level, .int .i64 y.undos] 50)).cell? ⟨b2, aP + k * 8 + 4, none⟩ = some (.string y.item) ∧ (z0.alloc (.cells #[.int .i64 y.dev, .int .i64 y.seq, .int .i64 y.stamp, .int .i64 y.kind, .string y.item, .int .i64 y.qty, .int .i64 y.level, .int .i64 y.undos] 50)).cell? ⟨b2, aP + k * 8 + 5, none⟩ = some (.int .i64 y.qty) ∧ (z0.alloc (.cells #[.int .i64 y.dev, .int .i64 y.seq, .int .i64 y.stamp, .int .i64 y.kind, .string y.item, .int .i64 y.qty, .int .i64 y.level, .int .i64 y.undos] 50)).cell? ⟨b2, aP + k * 8 + 6, none⟩ = some (.int .i64 y.level) ∧ (z0.alloc (.cells #[.int .i64 y.dev, .int .i64 y.seq, .int .i64 y.stamp, .int .i64 y.kind, .string y.item, .int .i64 y.qty, .int .i64 y.level, .int .i64 y.undos] 50)).cell? ⟨b2, aP + k * 8 + 7, none⟩ = some (.int .i64 y.undos) := ⟨(iP.cell (by show w.heap.size + 1 < ob; omega)).trans hS.1, (iP.cell (by show b2 < ob; omega)).trans hS.2.1, (iP.cell (by show b2 < ob; omega)).trans hS.2.2.1, (iP.cell (by show b2 < ob; omega)).trans hS.2.2.2.1, (iP.cell (by show b2 < ob; omega)).trans hS.2.2.2.2.1, (iP.cell (by show b2 < ob; omega)).trans hS.2.2.2.2.2.1, (iP.cell (by show b2 < ob; omega)).trans hS.2.2.2.2.2.2.1, (iP.cell (by show b2 < ob; omega)).trans hS.2.2.2.2.2.2.2.1, (iP.cell (by show b2 < ob; omega)).trans hS.2.2.2.2.2.2.2.2⟩
    have eD : z2.cell? ⟨w.heap.size + 1, 1, none⟩ = some (.slice (some ⟨b2, aP, none⟩) mo eo) ∧ z2.cell? ⟨b2, aP + k * 8, none⟩ = some (.int .i64 y.dev) ∧ z2.cell? ⟨b2, aP + k * 8 + 1, none⟩ = some (.int .i64 y.seq) ∧ z2.cell? ⟨b2, aP + k * 8 + 2, none⟩ = some (.int .i64 y.stamp) ∧ z2.cell? ⟨b2, aP + k * 8 + 3, none⟩ = some (.int .i64 y.kind) ∧ z2.cell? ⟨b2, aP + k * 8 + 4, none⟩ = some (.string y.item) ∧ z2.cell? ⟨b2, aP + k * 8 + 5, none⟩ = some (.int .i64 y.qty) ∧ z2.cell? ⟨b2, aP + k * 8 + 6, none⟩ = some (.int .i64 y.level) ∧ z2.cell? ⟨b2, aP + k * 8 + 7, none⟩ = some (.int .i64 y.undos) := ⟨(kC.cell (by show w.heap.size + 1 < ob; omega)).trans hS.1, (kC.cell (by show b2 < ob; omega)).trans hS.2.1, (kC.cell (by show b2 < ob; omega)).trans hS.2.2.1, (kC.cell (by show b2 < ob; omega)).trans hS.2.2.2.1, (kC.cell (by show b2 < ob; omega)).trans hS.2.2.2.2.1, (kC.cell (by show b2 < ob; omega)).trans hS.2.2.2.2.2.1, (kC.cell (by show b2 < ob; omega)).trans hS.2.2.2.2.2.2.1, (kC.cell (by show b2 < ob; omega)).trans hS.2.2.2.2.2.2.2.1, (kC.cell (by show b2 < ob; omega)).trans hS.2.2.2.2.2.2.2.2⟩
    have gI : (z2.setCell ⟨ob, 1, none⟩ (.slice eP (L.length + 1) eO)).cell? ⟨w.heap.size + 1, 1, none⟩ = some (.slice (some ⟨b2, aP, none⟩) mo eo) ∧ (z2.setCell ⟨ob, 1, none⟩ (.slice eP (L.length + 1) eO)).cell? ⟨b2, aP + k * 8, none⟩ = some (.int .i64 y.dev) ∧ (z2.setCell ⟨ob, 1, none⟩ (.slice eP (L.length + 1) eO)).cell? ⟨b2, aP + k * 8 + 1, none⟩ = some (.int .i64 y.seq) ∧ (z2.setCell ⟨ob, 1, none⟩ (.slice eP (L.length + 1) eO)).cell? ⟨b2, aP + k * 8 + 2, none⟩ = some (.int .i64 y.stamp) ∧ (z2.setCell ⟨ob, 1, none⟩ (.slice eP (L.length + 1) eO)).cell? ⟨b2, aP + k * 8 + 3, none⟩ = some (.int .i64 y.kind) ∧ (z2.setCell ⟨ob, 1, none⟩ (.slice eP (L.length + 1) eO)).cell? ⟨b2, aP + k * 8 + 4, none⟩ = some (.string y.item) ∧ (z2.setCell ⟨ob, 1, none⟩ (.slice eP (L.length + 1) eO)).cell? ⟨b2, aP + k * 8 + 5, none⟩ = some (.int .i64 y.qty) ∧ (z2.setCell ⟨ob, 1, none⟩ (.slice eP (L.length + 1) eO)).cell? ⟨b2, aP + k * 8 + 6, none⟩ = some (.int .i64 y.level) ∧ (z2.setCell ⟨ob, 1, none⟩ (.slice eP (L.length + 1) eO)).cell? ⟨b2, aP + k * 8 + 7, none⟩ = some (.int .i64 y.undos) := ⟨(kB.cell (by show w.heap.size + 1 < ob; omega)).trans hS.1, (kB.cell (by show b2 < ob; omega)).trans hS.2.1, (kB.cell (by show b2 < ob; omega)).trans hS.2.2.1, (kB.cell (by show b2 < ob; omega)).trans hS.2.2.2.1, (kB.cell (by show b2 < ob; omega)).trans hS.2.2.2.2.1, (kB.cell (by show b2 < ob; omega)).trans hS.2.2.2.2.2.1, (kB.cell (by show b2 < ob; omega)).trans hS.2.2.2.2.2.2.1, (kB.cell (by show b2 < ob; omega)).trans hS.2.2.2.2.2.2.2.1, (kB.cell (by show b2 < ob; omega)).trans hS.2.2.2.2.2.2.2.2⟩
    clear hSw C5 rN aCs aDb
    go_wp2_with fail
    refine wp_region_held_drew (S := fun w' => w'.cell? ⟨w.heap.size + 1, 1, none⟩ = some (.slice (some ⟨b2, aP, none⟩) mo eo) ∧ w'.cell? ⟨b2, aP + k * 8, none⟩ = some (.int .i64 y.dev) ∧ w'.cell? ⟨b2, aP + k * 8 + 1, none⟩ = some (.int .i64 y.seq) ∧ w'.cell? ⟨b2, aP + k * 8 + 2, none⟩ = some (.int .i64 y.stamp) ∧ w'.cell? ⟨b2, aP + k * 8 + 3, none⟩ = some (.int .i64 y.kind) ∧ w'.cell? ⟨b2, aP + k * 8 + 4, none⟩ = some (.string y.item) ∧ w'.cell? ⟨b2, aP + k * 8 + 5, none⟩ = some (.int .i64 y.qty) ∧ w'.cell? ⟨b2, aP + k * 8 + 6, none⟩ = some (.int .i64 y.level) ∧ w'.cell? ⟨b2, aP + k * 8 + 7, none⟩ = some (.int .i64 y.undos)) (by kernel_rfl) (by rw [dB]; exact hS) (fun aL => ?_)
    rw [dB]; clear aL; refine tj 0 ?_
    refine tj 2 ?_
    refine tj 3 ?_
    refine tj 4 ?_
    refine tj 5 ?_
    refine tj 6 ?_
    refine wpAnyH_ready (rs := [1, 7]) (by kernel_rfl) (by simp) ?_
    refine AllReadyH.cons rfl (fun K hK => ?_) (AllReadyH.cons rfl (fun K hK => ?_) AllReadyH.nil)
    all_goals go_simp
    ·refine hK.out _ _ hSd (fun kF => ?_)
     clear hK K
     (try simp only [Act.put, u1, u2, u3])
     refine rk 7 rfl (fun K hK => ?_)
     go_simp
     refine hK.out _ _ bG (fun qT => ?_)
     clear hK K
     (try simp only [Act.put, u1, u2, u3])
     refine rk 8 rfl (fun K hK => ?_)
     rw [if_pos (by rfl)]
     refine vA _ _ _ rfl _ _ rfl rfl hrun ?_
     refine hK.out _ _ eD (fun tA => ?_)
     clear hK K
     (try simp only [Act.put, u1, u2, u3])
     refine tj 9 ?_
     refine rk 10 rfl (fun K hK => ?_)
     go_simp
     refine hK.out _ _ gI (fun oH => ?_)
     clear hK K
     (try simp only [Act.put, u1, u2, u3])
     refine wpAnyH_done (by kernel_rfl) ?_ _
     have sB : Hid (mS ob (some ⟨vb, vo, none⟩) zc zs (dH l m) w2 (z2.setCell ⟨ob, 1, none⟩ (.slice eP (L.length + 1) eO)) d (s + 1)) := by
      show mS _ _ _ _ _ _ _ _ _
      unfold mS; rw [cM.out, HFy.out, jD, List.length_append]; exact ⟨eP, eO, xQ.out, xN.out, j8.out.trans xR.out⟩
     clear xQ xN xR hSd bG eD gI hS ob0 ob1 Q3 o1 o11 o12 fz2 hrun gX iF yA iP kC kB qT kF tA oH; go_wp2
     go_roundw
     case rel => exact ⟨s + 1, by omega, by go_num, sB, HE⟩
     case measure => simp [intOf]; omega
    ·refine hK.out _ _ bG (fun kF => ?_)
     clear hK K
     (try simp only [Act.put, u1, u2, u3])
     refine rk 1 rfl (fun K hK => ?_)
     go_simp
     refine hK.out _ _ bG (fun qT => ?_)
     clear hK K
     (try simp only [Act.put, u1, u2, u3])
     refine rk 8 rfl (fun K hK => ?_)
     rw [if_pos (by rfl)]
     refine vA _ _ _ rfl _ _ rfl rfl hrun ?_
     refine hK.out _ _ eD (fun tA => ?_)
     clear hK K
     (try simp only [Act.put, u1, u2, u3])
     refine tj 9 ?_
     refine rk 10 rfl (fun K hK => ?_)
     go_simp
     refine hK.out _ _ gI (fun oH => ?_)
     clear hK K
     (try simp only [Act.put, u1, u2, u3])
     refine wpAnyH_done (by kernel_rfl) ?_ _
     have sB : Hid (mS ob (some ⟨vb, vo, none⟩) zc zs (dH l m) w2 (z2.setCell ⟨ob, 1, none⟩ (.slice eP (L.length + 1) eO)) d (s + 1)) := by
      show mS _ _ _ _ _ _ _ _ _
      unfold mS; rw [cM.out, HFy.out, jD, List.length_append]; exact ⟨eP, eO, xQ.out, xN.out, j8.out.trans xR.out⟩
     clear xQ xN xR hSd bG eD gI hS ob0 ob1 Q3 o1 o11 o12 fz2 hrun gX iF yA iP kC kB qT kF tA oH; go_wp2
     go_roundw
     case rel => exact ⟨s + 1, by omega, by go_num, sB, HE⟩
     case measure => simp [intOf]; omega
   have HXi : Hid (lD l (d : Int) ((s : Int) + 1) = some (aC l i)) := by
    show _ = _
    have := uC (uO iJ.out) l.length aPq i (by rw [HL.out]; exact qH)
    rw [hie.1, hie.2] at this; exact this
   obtain ⟨aX, aR, rfl, aPd, ho1⟩ := HOr.out.2 i qH; have G6 : Hid (wJ wr aX (aR + i * 8) (aC l i)) := ho1; have hii : (i : Int) < (no : Int) := by omega
   have hi0 : ¬ ((i : Int) < 0) := by omega
   clear ho1 hie; generalize aC l i = x at HXi G6
   go_wp2_with fail
   refine (aH8 wr B bo mo eo m (d : Int) ((s : Int) + 1) HGr.out A4).mono ?_
   rintro e w5 ⟨hor, rfl⟩; rcases hor with ⟨k, hkm, hke, rfl⟩ | ⟨hM, rfl⟩
   rotate_left
   ·have eH : lD m (d : Int) ((s : Int) + 1) = none := zX _ fun j hj => hM j (by rw [← HLm.out]; exact hj)
    have HFy : Hid (dH l m d s = x) := by show _ = _; rw [aJb.out]; unfold nD; rw [HXi.out, eH]
    have HE := aPo (aI6.out fun a b ha hb => by rw [eH] at hb; cases hb)
    clear hM eH; obtain ⟨c0', U0, T9, c3', c4', c5', c6', c7'⟩ := G6.out; have hSw : wr.cell? ⟨w.heap.size, 1, none⟩ = some (.slice (some ⟨aX, aR, none⟩) no co) ∧ wr.cell? ⟨aX, aR + i * 8, none⟩ = some (.int .i64 x.dev) ∧ wr.cell? ⟨aX, aR + i * 8 + 1, none⟩ = some (.int .i64 x.seq) ∧ wr.cell? ⟨aX, aR + i * 8 + 2, none⟩ = some (.int .i64 x.stamp) ∧ wr.cell? ⟨aX, aR + i * 8 + 3, none⟩ = some (.int .i64 x.kind) ∧ wr.cell? ⟨aX, aR + i * 8 + 4, none⟩ = some (.string x.item) ∧ wr.cell? ⟨aX, aR + i * 8 + 5, none⟩ = some (.int .i64 x.qty) ∧ wr.cell? ⟨aX, aR + i * 8 + 6, none⟩ = some (.int .i64 x.level) ∧ wr.cell? ⟨aX, aR + i * 8 + 7, none⟩ = some (.int .i64 x.undos) := ⟨a1, c0', U0, T9, c3', c4', c5', c6', c7'⟩; clear a0 a1 b0 b1 c0 o0 o1 c0' U0 T9 c3' c4' c5' c6' c7' G6
    go_upto_region 16 with fail
    obtain ⟨z0, dB⟩ : ∃ z0, wr.drew = z0 := ⟨_, rfl⟩; have hS : z0.cell? ⟨w.heap.size, 1, none⟩ = some (.slice (some ⟨aX, aR, none⟩) no co) ∧ z0.cell? ⟨aX, aR + i * 8, none⟩ = some (.int .i64 x.dev) ∧ z0.cell? ⟨aX, aR + i * 8 + 1, none⟩ = some (.int .i64 x.seq) ∧ z0.cell? ⟨aX, aR + i * 8 + 2, none⟩ = some (.int .i64 x.stamp) ∧ z0.cell? ⟨aX, aR + i * 8 + 3, none⟩ = some (.int .i64 x.kind) ∧ z0.cell? ⟨aX, aR + i * 8 + 4, none⟩ = some (.string x.item) ∧ z0.cell? ⟨aX, aR + i * 8 + 5, none⟩ = some (.int .i64 x.qty) ∧ z0.cell? ⟨aX, aR + i * 8 + 6, none⟩ = some (.int .i64 x.level) ∧ z0.cell? ⟨aX, aR + i * 8 + 7, none⟩ = some (.int .i64 x.undos) := ⟨by rw [← dB]; exact hSw.1, by rw [← dB]; exact hSw.2.1, by rw [← dB]; exact hSw.2.2.1, by rw [← dB]; exact hSw.2.2.2.1, by rw [← dB]; exact hSw.2.2.2.2.1, by rw [← dB]; exact hSw.2.2.2.2.2.1, by rw [← dB]; exact hSw.2.2.2.2.2.2.1, by rw [← dB]; exact hSw.2.2.2.2.2.2.2.1, by rw [← dB]; exact hSw.2.2.2.2.2.2.2.2⟩
    have ob0 : Hid (z0.heap[ob]? = some (.cells #[.slice (some ⟨vb, vo, none⟩) 4 zc, .slice oa L.length oc] 27 (0, 0))) := by rw [← dB]; exact C5.out
    have aCs : z0.ownsRow (ob + 1) 50 8 (.slice oa L.length oc) L.length (aF L) := by rw [← dB]; exact rN.out
    have aHQ : ob < z0.heap.size := by rw [← dB]; exact aFl
    have aDb : Hid (Below ob wr z0) := by rw [← dB]; exact ⟨rfl, rfl, rfl, Nat.le_refl _, fun _ _ => rfl⟩
    have o1 := (pair_cells ob0.out).2; have yA := aCs.alloc (.cells #[.int .i64 x.dev, .int .i64 x.seq, .int .i64 x.stamp, .int .i64 x.kind, .string x.item, .int .i64 x.qty, .int .i64 x.level, .int .i64 x.undos] 50); have iP : Below ob z0 (z0.alloc (.cells #[.int .i64 x.dev, .int .i64 x.seq, .int .i64 x.stamp, .int .i64 x.kind, .string x.item, .int .i64 x.qty, .int .i64 x.level, .int .i64 x.undos] 50)) := (Below.refl ob z0).alloc (by omega) _
    obtain ⟨v', z2, hrun, gX, iF, _⟩ := run_append_own (P := Tryz.prog) (z0.alloc (.cells #[.int .i64 x.dev, .int .i64 x.seq, .int .i64 x.stamp, .int .i64 x.kind, .string x.item, .int .i64 x.qty, .int .i64 x.level, .int .i64 x.undos] 50)) (ob + 1) 25 25 50 i0 (.agg #[.int .i64 0, .int .i64 0, .int .i64 0, .int .i64 0, .string ⟨#[]⟩, .int .i64 0, .int .i64 0, .int .i64 0]) 8 72 Tryz.underlying25 hi gK jV iS rfl (by decide) _ _ _ yA ⟨z0.heap.size, 0, none⟩ 1 1 (bV x) rfl (P9 z0 x) (fun u hu => iY [x] u (by show u ∈ bV x ++ []; rw [List.append_nil]; exact hu)) (by unfold maxLen; omega) (by omega) (by show _ ≤ (z0.heap.push _).size; simp; omega)
    have kC : Below ob z0 z2 := iP.grown iF (Nat.le_trans (by omega) iP.size) (fun q hq => by have := (yA.lt q hq).1; omega)
    obtain ⟨eP, eO, rfl⟩ : ∃ eP eO, v' = .slice eP (L.length + 1) eO := by
     rcases gX.2 with ⟨_, e2⟩ | ⟨_, c2, _, e2, _⟩
     ·omega
     ·exact ⟨_, c2, e2⟩
    have ob1 : Hid ((z0.alloc (.cells #[.int .i64 x.dev, .int .i64 x.seq, .int .i64 x.stamp, .int .i64 x.kind, .string x.item, .int .i64 x.qty, .int .i64 x.level, .int .i64 x.undos] 50)).heap[ob]? = some (.cells #[.slice (some ⟨vb, vo, none⟩) 4 zc, .slice oa L.length oc] 27 (0, 0))) := (Below.heap_alloc _ _ _ aHQ).trans ob0.out; have Q3 : Hid (z2.heap[ob]? = some (.cells #[.slice (some ⟨vb, vo, none⟩) 4 zc, .slice oa L.length oc] 27 (0, 0))) := (iF.block ob (by show _ < (z0.heap.push _).size; simp; omega) (fun h => by have := (yA.lt ob h.symm).1; omega)).trans ob1.out
    have o11 := (pair_cells ob1.out).2; have o12 := (pair_cells Q3.out).2; have fz2 := (aB Q3.out).2; have xQ : Hid ((z2.setCell ⟨ob, 1, none⟩ (.slice eP (L.length + 1) eO)).heap[ob]? = some (.cells #[.slice (some ⟨vb, vo, none⟩) 4 zc, .slice eP (L.length + 1) eO] 27 (0, 0))) := heap_setCell_same _ _ _ _ _ _ Q3.out; have xN : Hid ((z2.setCell ⟨ob, 1, none⟩ (.slice eP (L.length + 1) eO)).ownsRow (ob + 1) 50 8 (.slice eP (L.length + 1) eO) (L.length + 1) (aF L ++ bV x)) := X3 gX (fun q hq => by have := (gX.lt q hq).1; omega)
    have kB : Below ob z0 (z2.setCell ⟨ob, 1, none⟩ (.slice eP (L.length + 1) eO)) := kC.setCell aPq _; have xR : Hid (Below ob wr (z2.setCell ⟨ob, 1, none⟩ (.slice eP (L.length + 1) eO))) := aDb.out.trans kB; have hSd : z0.cell? ⟨w.heap.size, 1, none⟩ = some (.slice (some ⟨aX, aR, none⟩) no co) ∧ z0.cell? ⟨aX, aR + i * 8, none⟩ = some (.int .i64 x.dev) ∧ z0.cell? ⟨aX, aR + i * 8 + 1, none⟩ = some (.int .i64 x.seq) ∧ z0.cell? ⟨aX, aR + i * 8 + 2, none⟩ = some (.int .i64 x.stamp) ∧ z0.cell? ⟨aX, aR + i * 8 + 3, none⟩ = some (.int .i64 x.kind) ∧ z0.cell? ⟨aX, aR + i * 8 + 4, none⟩ = some (.string x.item) ∧ z0.cell? ⟨aX, aR + i * 8 + 5, none⟩ = some (.int .i64 x.qty) ∧ z0.cell? ⟨aX, aR + i * 8 + 6, none⟩ = some (.int .i64 x.level) ∧ z0.cell? ⟨aX, aR + i * 8 + 7, none⟩ = some (.int .i64 x.undos) := hS; have bG : (z0.alloc (.cells #[.int .i64 x.dev, .int .i64 x.seq, .int .i64 x.stamp, .int .i64 x.kind, .string x.item, .int .i64 x.qty, .int .i64 x.level, .int .i64 x.undos] 50)).cell? ⟨w.heap.size, 1, none⟩ = some (.slice (some ⟨aX, aR, none⟩) no co) ∧ (z0.alloc (.cells #[.int .i64 x.dev, .int .i64 x.seq, .int .i64 x.stamp, .int .i64 x.kind, .string x.item, .int .i64 x.qty, .int .i64 x.level, .int .i64 x.undos] 50)).cell? ⟨aX, aR + i * 8, none⟩ = some (.int .i64 x.dev) ∧ (z0.alloc (.cells #[.int .i64 x.dev, .int .i64 x.seq, .int .i64 x.stamp, .int .i64 x.kind, .string x.item, .int .i64 x.qty, .int .i64 x.level, .int .i64 x.undos] 50)).cell? ⟨aX, aR + i * 8 + 1, none⟩ = some (.int .i64 x.seq) ∧ (z0.alloc (.cells #[.int .i64 x.dev, .int .i64 x.seq, .int .i64 x.stamp, .int .i64 x.kind, .string x.item, .int .i64 x.qty, .int .i64 x.level, .int .i64 x.undos] 50)).cell? ⟨aX, aR + i * 8 + 2, none⟩ = some (.int .i64 x.stamp) ∧ (z0.alloc (.cells #[.int .i64 x.dev, .int .i64 x.seq, .int .i64 x.stamp, .int .i64 x.kind, .string x.item, .int .i64 x.qty, .int .i64 x.level, .int .i64 x.undos] 50)).cell? ⟨aX, aR + i * 8 + 3, none⟩ = some (.int .i64 x.kind) ∧ (z0.alloc (.cells #[.int .i64 x.dev, .int .i64 x.seq, .int .i64 x.stamp, .int .i64 x.kind, .string x.item, .int .i64 x.qty, .int .i64 x.level, .int .i64 x.undos] 50)).cell? ⟨aX, aR + i * 8 + 4, none⟩ = some (.string x.item) ∧ (z0.alloc (.cells #[.int .i64 x.dev, .int .i64 x.seq, .int .i64 x.stamp, .int .i64 x.kind, .string x.item, .int .i64 x.qty, .int .i64 x.level, .int .i64 x.undos] 50)).cell? ⟨aX, aR + i * 8 + 5, none⟩ = some (.int .i64 x.qty) ∧ (z0.alloc (.cells #[.int .i64 x.dev, .int .i64 x.seq, .int .i64 x.stamp, .int .i64 x.kind, .string x.item, .int .i64 x.qty, .int .i64 x.level, .int .i64 x.undos] 50)).cell? ⟨aX, aR + i * 8 + 6, none⟩ = some (.int .i64 x.level) ∧ (z0.alloc (.cells #[.int .i64 x.dev, .int .i64 x.seq, .int .i64 x.stamp, .int .i64 x.kind, .string x.item, .int .i64 x.qty, .int .i64 x.level, .int .i64 x.undos] 50)).cell? ⟨aX, aR + i * 8 + 7, none⟩ = some (.int .i64 x.undos) := ⟨(iP.cell (by show w.heap.size < ob; omega)).trans hS.1, (iP.cell (by show aX < ob; omega)).trans hS.2.1, (iP.cell (by show aX < ob; omega)).trans hS.2.2.1, (iP.cell (by show aX < ob; omega)).trans hS.2.2.2.1, (iP.cell (by show aX < ob; omega)).trans hS.2.2.2.2.1, (iP.cell (by show aX < ob; omega)).trans hS.2.2.2.2.2.1, (iP.cell (by show aX < ob; omega)).trans hS.2.2.2.2.2.2.1, (iP.cell (by show aX < ob; omega)).trans hS.2.2.2.2.2.2.2.1, (iP.cell (by show aX < ob; omega)).trans hS.2.2.2.2.2.2.2.2⟩
    have eD : z2.cell? ⟨w.heap.size, 1, none⟩ = some (.slice (some ⟨aX, aR, none⟩) no co) ∧ z2.cell? ⟨aX, aR + i * 8, none⟩ = some (.int .i64 x.dev) ∧ z2.cell? ⟨aX, aR + i * 8 + 1, none⟩ = some (.int .i64 x.seq) ∧ z2.cell? ⟨aX, aR + i * 8 + 2, none⟩ = some (.int .i64 x.stamp) ∧ z2.cell? ⟨aX, aR + i * 8 + 3, none⟩ = some (.int .i64 x.kind) ∧ z2.cell? ⟨aX, aR + i * 8 + 4, none⟩ = some (.string x.item) ∧ z2.cell? ⟨aX, aR + i * 8 + 5, none⟩ = some (.int .i64 x.qty) ∧ z2.cell? ⟨aX, aR + i * 8 + 6, none⟩ = some (.int .i64 x.level) ∧ z2.cell? ⟨aX, aR + i * 8 + 7, none⟩ = some (.int .i64 x.undos) := ⟨(kC.cell (by show w.heap.size < ob; omega)).trans hS.1, (kC.cell (by show aX < ob; omega)).trans hS.2.1, (kC.cell (by show aX < ob; omega)).trans hS.2.2.1, (kC.cell (by show aX < ob; omega)).trans hS.2.2.2.1, (kC.cell (by show aX < ob; omega)).trans hS.2.2.2.2.1, (kC.cell (by show aX < ob; omega)).trans hS.2.2.2.2.2.1, (kC.cell (by show aX < ob; omega)).trans hS.2.2.2.2.2.2.1, (kC.cell (by show aX < ob; omega)).trans hS.2.2.2.2.2.2.2.1, (kC.cell (by show aX < ob; omega)).trans hS.2.2.2.2.2.2.2.2⟩
    have gI : (z2.setCell ⟨ob, 1, none⟩ (.slice eP (L.length + 1) eO)).cell? ⟨w.heap.size, 1, none⟩ = some (.slice (some ⟨aX, aR, none⟩) no co) ∧ (z2.setCell ⟨ob, 1, none⟩ (.slice eP (L.length + 1) eO)).cell? ⟨aX, aR + i * 8, none⟩ = some (.int .i64 x.dev) ∧ (z2.setCell ⟨ob, 1, none⟩ (.slice eP (L.length + 1) eO)).cell? ⟨aX, aR + i * 8 + 1, none⟩ = some (.int .i64 x.seq) ∧ (z2.setCell ⟨ob, 1, none⟩ (.slice eP (L.length + 1) eO)).cell? ⟨aX, aR + i * 8 + 2, none⟩ = some (.int .i64 x.stamp) ∧ (z2.setCell ⟨ob, 1, none⟩ (.slice eP (L.length + 1) eO)).cell? ⟨aX, aR + i * 8 + 3, none⟩ = some (.int .i64 x.kind) ∧ (z2.setCell ⟨ob, 1, none⟩ (.slice eP (L.length + 1) eO)).cell? ⟨aX, aR + i * 8 + 4, none⟩ = some (.string x.item) ∧ (z2.setCell ⟨ob, 1, none⟩ (.slice eP (L.length + 1) eO)).cell? ⟨aX, aR + i * 8 + 5, none⟩ = some (.int .i64 x.qty) ∧ (z2.setCell ⟨ob, 1, none⟩ (.slice eP (L.length + 1) eO)).cell? ⟨aX, aR + i * 8 + 6, none⟩ = some (.int .i64 x.level) ∧ (z2.setCell ⟨ob, 1, none⟩ (.slice eP (L.length + 1) eO)).cell? ⟨aX, aR + i * 8 + 7, none⟩ = some (.int .i64 x.undos) := ⟨(kB.cell (by show w.heap.size < ob; omega)).trans hS.1, (kB.cell (by show aX < ob; omega)).trans hS.2.1, (kB.cell (by show aX < ob; omega)).trans hS.2.2.1, (kB.cell (by show aX < ob; omega)).trans hS.2.2.2.1, (kB.cell (by show aX < ob; omega)).trans hS.2.2.2.2.1, (kB.cell (by show aX < ob; omega)).trans hS.2.2.2.2.2.1, (kB.cell (by show aX < ob; omega)).trans hS.2.2.2.2.2.2.1, (kB.cell (by show aX < ob; omega)).trans hS.2.2.2.2.2.2.2.1, (kB.cell (by show aX < ob; omega)).trans hS.2.2.2.2.2.2.2.2⟩
    clear hSw C5 rN aCs aDb
    go_wp2_with fail
    refine wp_region_held_drew (S := fun w' => w'.cell? ⟨w.heap.size, 1, none⟩ = some (.slice (some ⟨aX, aR, none⟩) no co) ∧ w'.cell? ⟨aX, aR + i * 8, none⟩ = some (.int .i64 x.dev) ∧ w'.cell? ⟨aX, aR + i * 8 + 1, none⟩ = some (.int .i64 x.seq) ∧ w'.cell? ⟨aX, aR + i * 8 + 2, none⟩ = some (.int .i64 x.stamp) ∧ w'.cell? ⟨aX, aR + i * 8 + 3, none⟩ = some (.int .i64 x.kind) ∧ w'.cell? ⟨aX, aR + i * 8 + 4, none⟩ = some (.string x.item) ∧ w'.cell? ⟨aX, aR + i * 8 + 5, none⟩ = some (.int .i64 x.qty) ∧ w'.cell? ⟨aX, aR + i * 8 + 6, none⟩ = some (.int .i64 x.level) ∧ w'.cell? ⟨aX, aR + i * 8 + 7, none⟩ = some (.int .i64 x.undos)) (by kernel_rfl) (by rw [dB]; exact hS) (fun aL => ?_)
    rw [dB]; clear aL; refine tj 0 ?_
    refine tj 2 ?_
    refine tj 3 ?_
    refine tj 4 ?_
    refine tj 5 ?_
    refine tj 6 ?_
    refine wpAnyH_ready (rs := [1, 7]) (by kernel_rfl) (by simp) ?_
    refine AllReadyH.cons rfl (fun K hK => ?_) (AllReadyH.cons rfl (fun K hK => ?_) AllReadyH.nil)
    all_goals go_simp
    ·refine hK.out _ _ hSd (fun kF => ?_)
     clear hK K
     (try simp only [Act.put, u1, u2, u3])
     refine rk 7 rfl (fun K hK => ?_)
     go_simp
     refine hK.out _ _ bG (fun qT => ?_)
     clear hK K
     (try simp only [Act.put, u1, u2, u3])
     refine rk 8 rfl (fun K hK => ?_)
     rw [if_pos (by rfl)]
     refine vA _ _ _ rfl _ _ rfl rfl hrun ?_
     refine hK.out _ _ eD (fun tA => ?_)
     clear hK K
     (try simp only [Act.put, u1, u2, u3])
     refine tj 9 ?_
     refine rk 10 rfl (fun K hK => ?_)
     go_simp
     refine hK.out _ _ gI (fun oH => ?_)
     clear hK K
     (try simp only [Act.put, u1, u2, u3])
     refine wpAnyH_done (by kernel_rfl) ?_ _
     have sB : Hid (mS ob (some ⟨vb, vo, none⟩) zc zs (dH l m) w2 (z2.setCell ⟨ob, 1, none⟩ (.slice eP (L.length + 1) eO)) d (s + 1)) := by
      show mS _ _ _ _ _ _ _ _ _
      unfold mS; rw [cM.out, HFy.out, jD, List.length_append]; exact ⟨eP, eO, xQ.out, xN.out, j8.out.trans xR.out⟩
     clear xQ xN xR hSd bG eD gI hS ob0 ob1 Q3 o1 o11 o12 fz2 hrun gX iF yA iP kC kB qT kF tA oH; go_wp2
     go_roundw
     case rel => exact ⟨s + 1, by omega, by go_num, sB, HE⟩
     case measure => simp [intOf]; omega
    ·refine hK.out _ _ bG (fun kF => ?_)
     clear hK K
     (try simp only [Act.put, u1, u2, u3])
     refine rk 1 rfl (fun K hK => ?_)
     go_simp
     refine hK.out _ _ bG (fun qT => ?_)
     clear hK K
     (try simp only [Act.put, u1, u2, u3])
     refine rk 8 rfl (fun K hK => ?_)
     rw [if_pos (by rfl)]
     refine vA _ _ _ rfl _ _ rfl rfl hrun ?_
     refine hK.out _ _ eD (fun tA => ?_)
     clear hK K
     (try simp only [Act.put, u1, u2, u3])
     refine tj 9 ?_
     refine rk 10 rfl (fun K hK => ?_)
     go_simp
     refine hK.out _ _ gI (fun oH => ?_)
     clear hK K
     (try simp only [Act.put, u1, u2, u3])
     refine wpAnyH_done (by kernel_rfl) ?_ _
     have sB : Hid (mS ob (some ⟨vb, vo, none⟩) zc zs (dH l m) w2 (z2.setCell ⟨ob, 1, none⟩ (.slice eP (L.length + 1) eO)) d (s + 1)) := by
      show mS _ _ _ _ _ _ _ _ _
      unfold mS; rw [cM.out, HFy.out, jD, List.length_append]; exact ⟨eP, eO, xQ.out, xN.out, j8.out.trans xR.out⟩
     clear xQ xN xR hSd bG eD gI hS ob0 ob1 Q3 o1 o11 o12 fz2 hrun gX iF yA iP kC kB qT kF tA oH; go_wp2
     go_roundw
     case rel => exact ⟨s + 1, by omega, by go_num, sB, HE⟩
     case measure => simp [intOf]; omega
   obtain ⟨b2, aP, rfl, aM, ho2⟩ := HGr.out.2 k hkm; have wC : Hid (wJ wr b2 (aP + k * 8) (aC m k)) := ho2; have HYk : Hid (lD m (d : Int) ((s : Int) + 1) = some (aC m k)) := by
    show _ = _
    have := uC (uO jU.out) m.length aPq k (by rw [HLm.out]; exact hkm)
    rw [hke.1, hke.2] at this; exact this
   have aFM : Hid (iL x (aC m k) = false → qN l m = false) := fun h => aHN (by rw [HLm.out]; exact hkm) rfl hke HXi.out h
   have hki : (k : Int) < (mo : Int) := by omega
   have hk0 : ¬ ((k : Int) < 0) := by omega
   clear ho2 hke; generalize aC m k = y at wC HYk aFM; obtain ⟨c0', U0, T9, c3', c4', c5', c6', c7'⟩ := G6.out; obtain ⟨e0', e1', e2', e3', e4', e5', e6', e7'⟩ := wC.out; have hS : wr.drew.cell? ⟨w.heap.size, 1, none⟩ = some (.slice (some ⟨aX, aR, none⟩) no co) ∧ wr.drew.cell? ⟨w.heap.size + 1, 1, none⟩ = some (.slice (some ⟨b2, aP, none⟩) mo eo) ∧ (wr.drew.cell? ⟨aX, aR + i * 8, none⟩ = some (.int .i64 x.dev) ∧ wr.drew.cell? ⟨aX, aR + i * 8 + 1, none⟩ = some (.int .i64 x.seq) ∧ wr.drew.cell? ⟨aX, aR + i * 8 + 2, none⟩ = some (.int .i64 x.stamp) ∧ wr.drew.cell? ⟨aX, aR + i * 8 + 3, none⟩ = some (.int .i64 x.kind) ∧ wr.drew.cell? ⟨aX, aR + i * 8 + 4, none⟩ = some (.string x.item) ∧ wr.drew.cell? ⟨aX, aR + i * 8 + 5, none⟩ = some (.int .i64 x.qty) ∧ wr.drew.cell? ⟨aX, aR + i * 8 + 6, none⟩ = some (.int .i64 x.level) ∧ wr.drew.cell? ⟨aX, aR + i * 8 + 7, none⟩ = some (.int .i64 x.undos)) ∧ wr.drew.cell? ⟨b2, aP + k * 8, none⟩ = some (.int .i64 y.dev) ∧ wr.drew.cell? ⟨b2, aP + k * 8 + 1, none⟩ = some (.int .i64 y.seq) ∧ wr.drew.cell? ⟨b2, aP + k * 8 + 2, none⟩ = some (.int .i64 y.stamp) ∧ wr.drew.cell? ⟨b2, aP + k * 8 + 3, none⟩ = some (.int .i64 y.kind) ∧ wr.drew.cell? ⟨b2, aP + k * 8 + 4, none⟩ = some (.string y.item) ∧ wr.drew.cell? ⟨b2, aP + k * 8 + 5, none⟩ = some (.int .i64 y.qty) ∧ wr.drew.cell? ⟨b2, aP + k * 8 + 6, none⟩ = some (.int .i64 y.level) ∧ wr.drew.cell? ⟨b2, aP + k * 8 + 7, none⟩ = some (.int .i64 y.undos) := ⟨a1, b1, ⟨c0', U0, T9, c3', c4', c5', c6', c7'⟩, e0', e1', e2', e3', e4', e5', e6', e7'⟩; clear a0 a1 b0 b1 c0 o0 o1 c0' U0 T9 c3' c4' c5' c6' c7' e0' e1' e2' e3' e4' e5' e6' e7' G6 wC HOr HGr
   go_upto_region 17 with fail
   have HTd := aPo (nK.out); rcases hsm : iL x y with _ | _
   ·have HNo := aPo (aFM.out hsm)
    have zL := aPo hsm; clear hsm
    go_wp2_with fail
    refine wp_region_held_drew (S := fun w' => w'.cell? ⟨w.heap.size, 1, none⟩ = some (.slice (some ⟨aX, aR, none⟩) no co) ∧ w'.cell? ⟨w.heap.size + 1, 1, none⟩ = some (.slice (some ⟨b2, aP, none⟩) mo eo) ∧ (w'.cell? ⟨aX, aR + i * 8, none⟩ = some (.int .i64 x.dev) ∧ w'.cell? ⟨aX, aR + i * 8 + 1, none⟩ = some (.int .i64 x.seq) ∧ w'.cell? ⟨aX, aR + i * 8 + 2, none⟩ = some (.int .i64 x.stamp) ∧ w'.cell? ⟨aX, aR + i * 8 + 3, none⟩ = some (.int .i64 x.kind) ∧ w'.cell? ⟨aX, aR + i * 8 + 4, none⟩ = some (.string x.item) ∧ w'.cell? ⟨aX, aR + i * 8 + 5, none⟩ = some (.int .i64 x.qty) ∧ w'.cell? ⟨aX, aR + i * 8 + 6, none⟩ = some (.int .i64 x.level) ∧ w'.cell? ⟨aX, aR + i * 8 + 7, none⟩ = some (.int .i64 x.undos)) ∧ w'.cell? ⟨b2, aP + k * 8, none⟩ = some (.int .i64 y.dev) ∧ w'.cell? ⟨b2, aP + k * 8 + 1, none⟩ = some (.int .i64 y.seq) ∧ w'.cell? ⟨b2, aP + k * 8 + 2, none⟩ = some (.int .i64 y.stamp) ∧ w'.cell? ⟨b2, aP + k * 8 + 3, none⟩ = some (.int .i64 y.kind) ∧ w'.cell? ⟨b2, aP + k * 8 + 4, none⟩ = some (.string y.item) ∧ w'.cell? ⟨b2, aP + k * 8 + 5, none⟩ = some (.int .i64 y.qty) ∧ w'.cell? ⟨b2, aP + k * 8 + 6, none⟩ = some (.int .i64 y.level) ∧ w'.cell? ⟨b2, aP + k * 8 + 7, none⟩ = some (.int .i64 y.undos)) (by kernel_rfl) hS (fun aL => ?_)
    refine tj 0 ?_
    refine tj 1 ?_
    refine tj 2 ?_
    refine tj 3 ?_
    refine tj 4 ?_
    refine tj 5 ?_
    refine tj 6 ?_
    refine tj 7 ?_
    refine tj 8 ?_
    refine tj 9 ?_
    refine rk 10 rfl (fun K hK => ?_)
    go_simp
    go_at_call 151
    refine (aGM x y wr.drew).mono ?_
    rintro e w5 ⟨rfl, bA⟩; rw [zL.out]; have F9 : w5.cell? ⟨w.heap.size, 1, none⟩ = some (.slice (some ⟨aX, aR, none⟩) no co) ∧ w5.cell? ⟨w.heap.size + 1, 1, none⟩ = some (.slice (some ⟨b2, aP, none⟩) mo eo) ∧ (w5.cell? ⟨aX, aR + i * 8, none⟩ = some (.int .i64 x.dev) ∧ w5.cell? ⟨aX, aR + i * 8 + 1, none⟩ = some (.int .i64 x.seq) ∧ w5.cell? ⟨aX, aR + i * 8 + 2, none⟩ = some (.int .i64 x.stamp) ∧ w5.cell? ⟨aX, aR + i * 8 + 3, none⟩ = some (.int .i64 x.kind) ∧ w5.cell? ⟨aX, aR + i * 8 + 4, none⟩ = some (.string x.item) ∧ w5.cell? ⟨aX, aR + i * 8 + 5, none⟩ = some (.int .i64 x.qty) ∧ w5.cell? ⟨aX, aR + i * 8 + 6, none⟩ = some (.int .i64 x.level) ∧ w5.cell? ⟨aX, aR + i * 8 + 7, none⟩ = some (.int .i64 x.undos)) ∧ w5.cell? ⟨b2, aP + k * 8, none⟩ = some (.int .i64 y.dev) ∧ w5.cell? ⟨b2, aP + k * 8 + 1, none⟩ = some (.int .i64 y.seq) ∧ w5.cell? ⟨b2, aP + k * 8 + 2, none⟩ = some (.int .i64 y.stamp) ∧ w5.cell? ⟨b2, aP + k * 8 + 3, none⟩ = some (.int .i64 y.kind) ∧ w5.cell? ⟨b2, aP + k * 8 + 4, none⟩ = some (.string y.item) ∧ w5.cell? ⟨b2, aP + k * 8 + 5, none⟩ = some (.int .i64 y.qty) ∧ w5.cell? ⟨b2, aP + k * 8 + 6, none⟩ = some (.int .i64 y.level) ∧ w5.cell? ⟨b2, aP + k * 8 + 7, none⟩ = some (.int .i64 y.undos) := ⟨(bA.cell (block_lt_of_cell hS.1)).trans hS.1, (bA.cell (block_lt_of_cell hS.2.1)).trans hS.2.1, ⟨(bA.cell (block_lt_of_cell hS.2.2.1.1)).trans hS.2.2.1.1, (bA.cell (block_lt_of_cell hS.2.2.1.2.1)).trans hS.2.2.1.2.1, (bA.cell (block_lt_of_cell hS.2.2.1.2.2.1)).trans hS.2.2.1.2.2.1, (bA.cell (block_lt_of_cell hS.2.2.1.2.2.2.1)).trans hS.2.2.1.2.2.2.1, (bA.cell (block_lt_of_cell hS.2.2.1.2.2.2.2.1)).trans hS.2.2.1.2.2.2.2.1, (bA.cell (block_lt_of_cell hS.2.2.1.2.2.2.2.2.1)).trans hS.2.2.1.2.2.2.2.2.1, (bA.cell (block_lt_of_cell hS.2.2.1.2.2.2.2.2.2.1)).trans hS.2.2.1.2.2.2.2.2.2.1, (bA.cell (block_lt_of_cell hS.2.2.1.2.2.2.2.2.2.2)).trans hS.2.2.1.2.2.2.2.2.2.2⟩, (bA.cell (block_lt_of_cell hS.2.2.2.1)).trans hS.2.2.2.1, (bA.cell (block_lt_of_cell hS.2.2.2.2.1)).trans hS.2.2.2.2.1, (bA.cell (block_lt_of_cell hS.2.2.2.2.2.1)).trans hS.2.2.2.2.2.1, (bA.cell (block_lt_of_cell hS.2.2.2.2.2.2.1)).trans hS.2.2.2.2.2.2.1, (bA.cell (block_lt_of_cell hS.2.2.2.2.2.2.2.1)).trans hS.2.2.2.2.2.2.2.1, (bA.cell (block_lt_of_cell hS.2.2.2.2.2.2.2.2.1)).trans hS.2.2.2.2.2.2.2.2.1, (bA.cell (block_lt_of_cell hS.2.2.2.2.2.2.2.2.2.1)).trans hS.2.2.2.2.2.2.2.2.2.1, (bA.cell (block_lt_of_cell hS.2.2.2.2.2.2.2.2.2.2)).trans hS.2.2.2.2.2.2.2.2.2.2⟩
    refine hK.out _ _ F9 (fun bS => ?_)
    clear hK K
    (try simp only [Act.put, u1, u2, u3])
    refine tj 11 ?_
    refine tj 12 ?_
    refine wpAnyH_done (by kernel_rfl) ?_ _
    have aT : Below wr.heap.size wr w5 := ⟨bA.os, bA.tape, bA.output, bA.size, bA.block⟩; have tX := aPo (nK.out.next aT); have HF : Hid (qN l m = false) := HNo.out; clear hS F9 aL bS bA aT C5 rN j8 nK HTd iJ jU; obtain ⟨r0, r1⟩ := pair_cells tX.out.res; obtain ⟨fz0, fz1⟩ := aB tX.out.res; have oJ := aPo (tX.out.set2S (.slice none 0 0) (.slice none 0 0)).1; have nN := aPo (tX.out.set2S (.slice none 0 0) (.slice none 0 0)).2; go_wp2
    change bodyPost _ _ _ _ _ ((w5.setCell ⟨w.heap.size + 1 + 1, 0, none⟩ (.slice none 0 0)).setCell ⟨w.heap.size + 1 + 1, 1, none⟩ (.slice none 0 0))
    generalize (w5.setCell ⟨w.heap.size + 1 + 1, 0, none⟩ (.slice none 0 0)).setCell ⟨w.heap.size + 1 + 1, 1, none⟩ (.slice none 0 0) = wf at oJ nN ⊢; obtain ⟨q0, q1⟩ := pair_cells oJ.out; exact bodyPost_ret (v := .tuple #[.agg #[.slice none 0 0, .slice none 0 0], .bool false]) (by simp [results, Tryz.results131, go_sem, q0, q1]) rfl ⟨none, 0, none, 0, by rw [HF.out]; rfl, by rw [HF.out]; exact I4 _ _ _ _, by rw [HF.out]; exact fH _ _ _ _, nN.out, by rw [HF.out]; exact cN, by rw [HF.out]; exact cN⟩
   obtain ⟨u, rfl⟩ : ∃ u, y = x.with u := ⟨_, I1 hsm⟩; have zL := aPo hsm; have HFy : Hid (dH l m d s = x.with (max x.undos u)) := by show _ = _; rw [aJb.out]; unfold nD; rw [HXi.out, HYk.out]; rfl
   have HE := aPo (aI6.out fun a b ha hb => by rw [HXi.out] at ha; rw [HYk.out] at hb; cases ha; cases hb; exact zL.out)
   clear hsm
   change wr.drew.cell? ⟨w.heap.size, 1, none⟩ = some (.slice (some ⟨aX, aR, none⟩) no co) ∧ wr.drew.cell? ⟨w.heap.size + 1, 1, none⟩ = some (.slice (some ⟨b2, aP, none⟩) mo eo) ∧ (wr.drew.cell? ⟨aX, aR + i * 8, none⟩ = some (.int .i64 x.dev) ∧ wr.drew.cell? ⟨aX, aR + i * 8 + 1, none⟩ = some (.int .i64 x.seq) ∧ wr.drew.cell? ⟨aX, aR + i * 8 + 2, none⟩ = some (.int .i64 x.stamp) ∧ wr.drew.cell? ⟨aX, aR + i * 8 + 3, none⟩ = some (.int .i64 x.kind) ∧ wr.drew.cell? ⟨aX, aR + i * 8 + 4, none⟩ = some (.string x.item) ∧ wr.drew.cell? ⟨aX, aR + i * 8 + 5, none⟩ = some (.int .i64 x.qty) ∧ wr.drew.cell? ⟨aX, aR + i * 8 + 6, none⟩ = some (.int .i64 x.level) ∧ wr.drew.cell? ⟨aX, aR + i * 8 + 7, none⟩ = some (.int .i64 x.undos)) ∧ wr.drew.cell? ⟨b2, aP + k * 8, none⟩ = some (.int .i64 x.dev) ∧ wr.drew.cell? ⟨b2, aP + k * 8 + 1, none⟩ = some (.int .i64 x.seq) ∧ wr.drew.cell? ⟨b2, aP + k * 8 + 2, none⟩ = some (.int .i64 x.stamp) ∧ wr.drew.cell? ⟨b2, aP + k * 8 + 3, none⟩ = some (.int .i64 x.kind) ∧ wr.drew.cell? ⟨b2, aP + k * 8 + 4, none⟩ = some (.string x.item) ∧ wr.drew.cell? ⟨b2, aP + k * 8 + 5, none⟩ = some (.int .i64 x.qty) ∧ wr.drew.cell? ⟨b2, aP + k * 8 + 6, none⟩ = some (.int .i64 x.level) ∧ wr.drew.cell? ⟨b2, aP + k * 8 + 7, none⟩ = some (.int .i64 u) at hS
   go_wp2_with fail
   refine wp_region_held_drew (S := fun w' => w'.cell? ⟨w.heap.size, 1, none⟩ = some (.slice (some ⟨aX, aR, none⟩) no co) ∧ w'.cell? ⟨w.heap.size + 1, 1, none⟩ = some (.slice (some ⟨b2, aP, none⟩) mo eo) ∧ (w'.cell? ⟨aX, aR + i * 8, none⟩ = some (.int .i64 x.dev) ∧ w'.cell? ⟨aX, aR + i * 8 + 1, none⟩ = some (.int .i64 x.seq) ∧ w'.cell? ⟨aX, aR + i * 8 + 2, none⟩ = some (.int .i64 x.stamp) ∧ w'.cell? ⟨aX, aR + i * 8 + 3, none⟩ = some (.int .i64 x.kind) ∧ w'.cell? ⟨aX, aR + i * 8 + 4, none⟩ = some (.string x.item) ∧ w'.cell? ⟨aX, aR + i * 8 + 5, none⟩ = some (.int .i64 x.qty) ∧ w'.cell? ⟨aX, aR + i * 8 + 6, none⟩ = some (.int .i64 x.level) ∧ w'.cell? ⟨aX, aR + i * 8 + 7, none⟩ = some (.int .i64 x.undos)) ∧ w'.cell? ⟨b2, aP + k * 8, none⟩ = some (.int .i64 x.dev) ∧ w'.cell? ⟨b2, aP + k * 8 + 1, none⟩ = some (.int .i64 x.seq) ∧ w'.cell? ⟨b2, aP + k * 8 + 2, none⟩ = some (.int .i64 x.stamp) ∧ w'.cell? ⟨b2, aP + k * 8 + 3, none⟩ = some (.int .i64 x.kind) ∧ w'.cell? ⟨b2, aP + k * 8 + 4, none⟩ = some (.string x.item) ∧ w'.cell? ⟨b2, aP + k * 8 + 5, none⟩ = some (.int .i64 x.qty) ∧ w'.cell? ⟨b2, aP + k * 8 + 6, none⟩ = some (.int .i64 x.level) ∧ w'.cell? ⟨b2, aP + k * 8 + 7, none⟩ = some (.int .i64 u)) (by kernel_rfl) hS (fun aL => ?_)
   refine tj 0 ?_
   refine tj 1 ?_
   refine tj 2 ?_
   refine tj 3 ?_
   refine tj 4 ?_
   refine tj 5 ?_
   refine tj 6 ?_
   refine tj 7 ?_
   refine tj 8 ?_
   refine tj 9 ?_
   refine rk 10 rfl (fun K hK => ?_)
   go_simp
   go_at_call 151
   refine (aGM x (x.with u) wr.drew).mono ?_
   rintro e w5 ⟨rfl, bA⟩; rw [zL.out]; have F9 : w5.cell? ⟨w.heap.size, 1, none⟩ = some (.slice (some ⟨aX, aR, none⟩) no co) ∧ w5.cell? ⟨w.heap.size + 1, 1, none⟩ = some (.slice (some ⟨b2, aP, none⟩) mo eo) ∧ (w5.cell? ⟨aX, aR + i * 8, none⟩ = some (.int .i64 x.dev) ∧ w5.cell? ⟨aX, aR + i * 8 + 1, none⟩ = some (.int .i64 x.seq) ∧ w5.cell? ⟨aX, aR + i * 8 + 2, none⟩ = some (.int .i64 x.stamp) ∧ w5.cell? ⟨aX, aR + i * 8 + 3, none⟩ = some (.int .i64 x.kind) ∧ w5.cell? ⟨aX, aR + i * 8 + 4, none⟩ = some (.string x.item) ∧ w5.cell? ⟨aX, aR + i * 8 + 5, none⟩ = some (.int .i64 x.qty) ∧ w5.cell? ⟨aX, aR + i * 8 + 6, none⟩ = some (.int .i64 x.level) ∧ w5.cell? ⟨aX, aR + i * 8 + 7, none⟩ = some (.int .i64 x.undos)) ∧ w5.cell? ⟨b2, aP + k * 8, none⟩ = some (.int .i64 x.dev) ∧ w5.cell? ⟨b2, aP + k * 8 + 1, none⟩ = some (.int .i64 x.seq) ∧ w5.cell? ⟨b2, aP + k * 8 + 2, none⟩ = some (.int .i64 x.stamp) ∧ w5.cell? ⟨b2, aP + k * 8 + 3, none⟩ = some (.int .i64 x.kind) ∧ w5.cell? ⟨b2, aP + k * 8 + 4, none⟩ = some (.string x.item) ∧ w5.cell? ⟨b2, aP + k * 8 + 5, none⟩ = some (.int .i64 x.qty) ∧ w5.cell? ⟨b2, aP + k * 8 + 6, none⟩ = some (.int .i64 x.level) ∧ w5.cell? ⟨b2, aP + k * 8 + 7, none⟩ = some (.int .i64 u) := ⟨(bA.cell (block_lt_of_cell hS.1)).trans hS.1, (bA.cell (block_lt_of_cell hS.2.1)).trans hS.2.1, ⟨(bA.cell (block_lt_of_cell hS.2.2.1.1)).trans hS.2.2.1.1, (bA.cell (block_lt_of_cell hS.2.2.1.2.1)).trans hS.2.2.1.2.1, (bA.cell (block_lt_of_cell hS.2.2.1.2.2.1)).trans hS.2.2.1.2.2.1, (bA.cell (block_lt_of_cell hS.2.2.1.2.2.2.1)).trans hS.2.2.1.2.2.2.1, (bA.cell (block_lt_of_cell hS.2.2.1.2.2.2.2.1)).trans hS.2.2.1.2.2.2.2.1, (bA.cell (block_lt_of_cell hS.2.2.1.2.2.2.2.2.1)).trans hS.2.2.1.2.2.2.2.2.1, (bA.cell (block_lt_of_cell hS.2.2.1.2.2.2.2.2.2.1)).trans hS.2.2.1.2.2.2.2.2.2.1, (bA.cell (block_lt_of_cell hS.2.2.1.2.2.2.2.2.2.2)).trans hS.2.2.1.2.2.2.2.2.2.2⟩, (bA.cell (block_lt_of_cell hS.2.2.2.1)).trans hS.2.2.2.1, (bA.cell (block_lt_of_cell hS.2.2.2.2.1)).trans hS.2.2.2.2.1, (bA.cell (block_lt_of_cell hS.2.2.2.2.2.1)).trans hS.2.2.2.2.2.1, (bA.cell (block_lt_of_cell hS.2.2.2.2.2.2.1)).trans hS.2.2.2.2.2.2.1, (bA.cell (block_lt_of_cell hS.2.2.2.2.2.2.2.1)).trans hS.2.2.2.2.2.2.2.1, (bA.cell (block_lt_of_cell hS.2.2.2.2.2.2.2.2.1)).trans hS.2.2.2.2.2.2.2.2.1, (bA.cell (block_lt_of_cell hS.2.2.2.2.2.2.2.2.2.1)).trans hS.2.2.2.2.2.2.2.2.2.1, (bA.cell (block_lt_of_cell hS.2.2.2.2.2.2.2.2.2.2)).trans hS.2.2.2.2.2.2.2.2.2.2⟩
   refine hK.out _ _ F9 (fun bS => ?_)
   clear hK K
   (try simp only [Act.put, u1, u2, u3])
   refine tj 11 ?_
   refine tj 12 ?_
   refine wpAnyH_done (by kernel_rfl) ?_ _
   have aT : Below wr.heap.size wr w5 := ⟨bA.os, bA.tape, bA.output, bA.size, bA.block⟩; have aMr := aPo ((aT.block _ aFl).trans C5.out); have aFO := aPo (yC rN.out aT); have aMH := aPo (j8.out.trans (aT.mono (by omega)))
   have aJr : ob < w5.heap.size := Nat.lt_of_lt_of_le aFl aT.size; have i7 := aPo F9; have HLt : Hid (∀ g, (Value.slice oa L.length oc).ownBlock = some g → g < w5.heap.size) := fun g hg => (aFO.out.lt g hg).2
   clear hS F9 aL bS bA aT C5 rN j8 nK HTd HXi HYk aFM; obtain ⟨a1, b1, ⟨d0, d1, d2, d3, d4, d5, d6, d7⟩, e0', e1', e2', e3', e4', e5', e6', e7'⟩ := i7.out
   go_upto_region 11 with fail
   have lK : Below w5.heap.size w5 (w5.alloc (.cells #[.int .i64 x.dev, .int .i64 x.seq, .int .i64 x.stamp, .int .i64 x.kind, .string x.item, .int .i64 x.qty, .int .i64 x.level, .int .i64 x.undos] 50)) := bl; have bR := aPo (bX (Below.refl _ (w5.alloc (.cells #[.int .i64 x.dev, .int .i64 x.seq, .int .i64 x.stamp, .int .i64 x.kind, .string x.item, .int .i64 x.qty, .int .i64 x.level, .int .i64 x.undos] 50)))); have b16 := (lK.cell (block_lt_of_cell b1)).trans b1; have e76 := (lK.cell (block_lt_of_cell e7')).trans e7'; have aI7 := aPo ((lK.block _ aJr).trans aMr.out); have aFN := aPo (yC aFO.out lK); have x6 := aPo (aMH.out.trans (lK.mono (by omega)))
   clear a1 b1 d0 d1 d2 d3 d4 d5 d6 d7 e0' e1' e2' e3' e4' e5' e6' e7' i7 aMr aFO aMH; generalize w5.alloc (.cells #[.int .i64 x.dev, .int .i64 x.seq, .int .i64 x.stamp, .int .i64 x.kind, .string x.item, .int .i64 x.qty, .int .i64 x.level, .int .i64 x.undos] 50) = w6 at lK bR b16 e76 aI7 aFN x6 ⊢; have hs6 := lK.size; have hx6 := bF bR.out; generalize w5.heap.size = nb at bR hs6 hx6 aJr HLt ⊢; clear lK; obtain ⟨z0, dB⟩ : ∃ z0, w6.drew = z0 := ⟨_, rfl⟩; have O0 : Hid (z0.heap[nb]? = some (.cells #[.int .i64 x.dev, .int .i64 x.seq, .int .i64 x.stamp, .int .i64 x.kind, .string x.item, .int .i64 x.qty, .int .i64 x.level, .int .i64 x.undos] 50 (0, 0))) := by rw [← dB]; exact bR.out
   have aMq : Hid (z0.heap[ob]? = some (.cells #[.slice (some ⟨vb, vo, none⟩) 4 zc, .slice oa L.length oc] 27 (0, 0))) := by rw [← dB]; exact aI7.out
   have aJH : Hid (z0.ownsRow (ob + 1) 50 8 (.slice oa L.length oc) L.length (aF L)) := by rw [← dB]; exact aFN.out
   have aMG : Hid (Below ob w2 z0) := by rw [← dB]; exact ⟨x6.out.os, x6.out.tape, x6.out.output, x6.out.size, x6.out.block⟩
   have hS : z0.cell? ⟨w.heap.size + 1, 1, none⟩ = some (.slice (some ⟨b2, aP, none⟩) mo eo) ∧ z0.cell? ⟨b2, aP + k * 8 + 7, none⟩ = some (.int .i64 u) := by rw [← dB]; exact ⟨b16, e76⟩
   have aNh : z0.heap.size = w6.heap.size := by rw [← dB]; rfl
   clear bR aI7 aFN x6 b16 e76; obtain ⟨e0, e1, e2, e3, e4, e5, e6, e7⟩ := aN O0.out; obtain ⟨f0, f1, f2, f3, f4, f5, f6, f7⟩ := cP O0.out; have tI : Hid ((z0.setCell ⟨nb, 7, none⟩ (.int .i64 (max x.undos u))).heap[nb]? = some (.cells #[.int .i64 x.dev, .int .i64 x.seq, .int .i64 x.stamp, .int .i64 x.kind, .string x.item, .int .i64 x.qty, .int .i64 x.level, .int .i64 (max x.undos u)] 50 (0, 0))) := heap_setCell_same _ _ _ _ _ _ O0.out; have aBz : Hid ((z0.setCell ⟨nb, 7, none⟩ (.int .i64 (max x.undos u))).heap[ob]? = some (.cells #[.slice (some ⟨vb, vo, none⟩) 4 zc, .slice oa L.length oc] 27 (0, 0))) := (heap_setCell_other _ _ _ _ (by show ob ≠ nb; omega)).trans aMq.out
   have aCj : Hid ((z0.setCell ⟨nb, 7, none⟩ (.int .i64 (max x.undos u))).ownsRow (ob + 1) 50 8 (.slice oa L.length oc) L.length (aF L)) := X3 aJH.out (fun q hq => by have := HLt.out q hq; omega)
   have aFX : Hid (Below ob w2 (z0.setCell ⟨nb, 7, none⟩ (.int .i64 (max x.undos u)))) := aMG.out.setCell (by show ob ≤ nb; omega) _
   have hS8 : (z0.setCell ⟨nb, 7, none⟩ (.int .i64 (max x.undos u))).cell? ⟨w.heap.size + 1, 1, none⟩ = some (.slice (some ⟨b2, aP, none⟩) mo eo) ∧ (z0.setCell ⟨nb, 7, none⟩ (.int .i64 (max x.undos u))).cell? ⟨b2, aP + k * 8 + 7, none⟩ = some (.int .i64 u) := ⟨(cell_of_block (heap_setCell_other _ _ _ _ (by show w.heap.size + 1 ≠ nb; omega))).trans hS.1, (cell_of_block (heap_setCell_other _ _ _ _ (by show b2 ≠ nb; omega))).trans hS.2⟩
   have aIj : (z0.setCell ⟨nb, 7, none⟩ (.int .i64 (max x.undos u))).heap.size = z0.heap.size := World.size_setCell _ _ _
   go_wp2_with fail
   refine wp_region_held_drew (S := fun w' => w'.cell? ⟨w.heap.size + 1, 1, none⟩ = some (.slice (some ⟨b2, aP, none⟩) mo eo) ∧ w'.cell? ⟨b2, aP + k * 8 + 7, none⟩ = some (.int .i64 u)) (by kernel_rfl) (by rw [dB]; exact hS) (fun aL => ?_)
   rw [dB]; clear aL; refine tj 0 ?_
   refine tj 2 ?_
   refine tj 3 ?_
   refine tj 4 ?_
   refine tj 5 ?_
   refine tj 6 ?_
   refine tj 7 ?_
   refine rk 1 rfl (fun K hK => ?_)
   go_simp
   refine hK.out _ _ hS (fun qT => ?_)
   clear hK K
   (try simp only [Act.put, u1, u2, u3])
   refine tj 8 ?_
   refine tj 9 ?_
   refine rk 10 rfl (fun K hK => ?_)
   go_simp
   refine hK.out _ _ hS8 (fun kF => ?_)
   clear hK K
   (try simp only [Act.put, u1, u2, u3])
   refine wpAnyH_done (by kernel_rfl) ?_ _
   clear hS hS8 qT kF O0 aMq aJH aMG e0 e1 e2 e3 e4 e5 e6 e7 f0 f1 f2 f3 f4 f5 f6 f7; generalize hmx : max x.undos u = mx at tI aBz aCj aFX aIj HFy ⊢; generalize z0.setCell ⟨nb, 7, none⟩ (.int .i64 mx) = w8 at tI aBz aCj aFX aIj ⊢; clear hmx dB aIj aNh; obtain ⟨e0, e1, e2, e3, e4, e5, e6, e7⟩ := aN tI.out; obtain ⟨o0, o1⟩ := pair_cells aBz.out; have aMT := bF aBz.out; have J8 := aCj.out.alloc (.cells #[.int .i64 x.dev, .int .i64 x.seq, .int .i64 x.stamp, .int .i64 x.kind, .string x.item, .int .i64 x.qty, .int .i64 x.level, .int .i64 mx] 50)
   go_upto_region 12 with fail
   have aMA : Hid (dH l m d s = x.with mx) := HFy.out; generalize hX : x.with mx = xx at aMA
   go_wp2_with (at_builtin; refine wpList_append_own _ rfl _ _ 25 rfl (ob + 1) 50 i0 (.agg #[.int .i64 0, .int .i64 0, .int .i64 0, .int .i64 0, .string ⟨#[]⟩, .int .i64 0, .int .i64 0, .int .i64 0]) 8 72 Tryz.underlying25 hi gK jV iS rfl (by decide) _ _ _ rfl J8 ⟨w8.heap.size, 0, none⟩ 1 1 (bV xx) rfl ?c0 ?c1 ?c2 ?c3 ?c4 ?c5 ?_)
   case c0 => rfl
   case c1 =>
    rw [← hX]; exact P9 w8 (x.with mx)
   case c2 =>
    intro u hu
    exact iY [xx] u (by show u ∈ bV xx ++ []; rw [List.append_nil]; exact hu)
   case c3 => unfold maxLen; omega
   case c4 => omega
   case c5 => simp; omega
   intro v' w9 gX iB _
   have aLK : Below ob w8 w9 := ((Below.refl ob w8).alloc (by omega) (.cells #[.int .i64 x.dev, .int .i64 x.seq, .int .i64 x.stamp, .int .i64 x.kind, .string x.item, .int .i64 x.qty, .int .i64 x.level, .int .i64 mx] 50)).grown iB (by simp; omega) (fun j hj => by have := (J8.lt j hj).1; omega)
   have aFS : Hid (w9.heap[ob]? = some (.cells #[.slice (some ⟨vb, vo, none⟩) 4 zc, .slice oa L.length oc] 27 (0, 0))) := (iB.block ob (by show _ < (w8.heap.push _).size; simp; omega) (fun h => by have := (J8.lt ob h.symm).1; omega)).trans ((Below.heap_alloc _ _ _ aMT).trans aBz.out)
   obtain ⟨eP, eO, rfl⟩ : ∃ eP eO, v' = .slice eP (L.length + 1) eO := by
    rcases gX.2 with ⟨_, e2⟩ | ⟨_, c2, _, e2, _⟩
    ·omega
    ·exact ⟨_, c2, e2⟩
   have aME : Hid ((w9.setCell ⟨ob, 1, none⟩ (.slice eP (L.length + 1) eO)).heap[ob]? = some (.cells #[.slice (some ⟨vb, vo, none⟩) 4 zc, .slice eP (L.length + 1) eO] 27 (0, 0))) := heap_setCell_same _ _ _ _ _ _ aFS.out; have aJG : Hid ((w9.setCell ⟨ob, 1, none⟩ (.slice eP (L.length + 1) eO)).ownsRow (ob + 1) 50 8 (.slice eP (L.length + 1) eO) (L.length + 1) (aF L ++ bV xx)) := X3 gX (fun q hq => by have := (gX.lt q hq).1; omega)
   have aMF : Hid (Below ob w2 (w9.setCell ⟨ob, 1, none⟩ (.slice eP (L.length + 1) eO))) := (aFX.out.trans (aLK.mono (by omega))).setCell aPq _
   have sB : Hid (mS ob (some ⟨vb, vo, none⟩) zc zs (dH l m) w2 (w9.setCell ⟨ob, 1, none⟩ (.slice eP (L.length + 1) eO)) d (s + 1)) := by
    show mS _ _ _ _ _ _ _ _ _
    unfold mS; rw [cM.out, aMA.out, jD, List.length_append]; exact ⟨eP, eO, aME.out, aJG.out, aMF.out⟩
   have o19 := (pair_cells aFS.out).2; have fz9 := (aB aFS.out).2; clear J8 gX iB aCj aFX tI aBz e0 e1 e2 e3 e4 e5 e6 e7 o0 o1 aME aJG aMF aFS aLK; go_wp2
   go_roundw
   case rel => exact ⟨s + 1, by omega, by go_num, sB, HE⟩
   case measure => simp [intOf]; omega
set_option linter.unusedSimpArgs false in
set_option maxHeartbeats 40000000 in
theorem aD6 (w : World) (B : Nat) (av ao bv bo : Option Addr) (nv cv no co mv dv mo eo : Nat) (xs : List Int) (l : List aA) (ys : List Int) (m : List aA) (hx : Ints w B av nv xs) (h : bP w B ao no l) (hy : Ints w B bv mv ys) (g : bP w B bo mo m) (hB : B ≤ w.heap.size) (hv : nv ≤ 1048576) (hn : no ≤ 1048576) (hm : ∀ i, i < no → (aC l i).item.size ≤ 1048576) (M8 : mv ≤ 1048576) (A4 : mo ≤ 1048576) (iN : ∀ i, i < mo → (aC m i).item.size ≤ 1048576) :
  Calls Tryz.prog 105 #[.agg #[.slice av nv cv, .slice ao no co], .agg #[.slice bv mv dv, .slice bo mo eo]] w (C1 (kR xs l ys m) (uJ xs ys (kR xs l ys m)) (yG xs ys l m (kR xs l ys m)) w) := by
 have hT := uQ.mk0 w #[.slice av nv cv, .slice ao no co] #[.slice bv mv dv, .slice bo mo eo] #[.slice none 0 0, .slice none 0 0] 27 27 27
 have HV := aPo (hx.below hT.bel hB)
 have HO := aPo (h.below hT.bel hB)
 have HY := aPo (hy.below hT.bel hB)
 have HG := aPo (g.below hT.bel hB)
 have HT := aPo hT
 have HM := aPo hm
 have HM2 := aPo iN
 have hBw := hB
 clear hx h hy g hT hB hm iN
 go_enter Tryz.func105, Tryz.ntmps105
 go_wp2_with fail
 generalize ((w.alloc (.cells #[.slice av nv cv, .slice ao no co] 27)).alloc (.cells #[.slice bv mv dv, .slice bo mo eo] 27)).alloc (.cells #[.slice none 0 0, .slice none 0 0] 27) = w0 at HV HO HY HG HT ⊢
 have aIl := HT.out.bel.size
 have rH := bF HT.out.res
 refine (iW w0 B av ao nv cv no co xs l HV.out HO.out (by omega) hv hn HM.out).mono ?_
 rintro e w1 ⟨rfl, aG⟩
 have jR := aPo (HV.out.below aG (by omega))
 have dD := aPo (HO.out.below aG (by omega))
 have HY1 := aPo (HY.out.below aG (by omega))
 have C8 := aPo (HG.out.below aG (by omega))
 have bC := aPo (HT.out.next aG)
 have eZ := aG.size
 clear aG HV HO HY HG HT
 rcases hca : aE xs l with _ | _
 ·have HF := aPo (aGE (ys := ys) (m := m) hca)
  clear hca; obtain ⟨r0, r1⟩ := pair_cells bC.out.res; obtain ⟨fz0, fz1⟩ := aB bC.out.res; have oJ := aPo (bC.out.set2S (.slice none 0 0) (.slice none 0 0)).1; have nN := aPo (bC.out.set2S (.slice none 0 0) (.slice none 0 0)).2; go_wp2
  change bodyPost _ _ _ _ _ ((w1.setCell ⟨w.heap.size + 1 + 1, 0, none⟩ (.slice none 0 0)).setCell ⟨w.heap.size + 1 + 1, 1, none⟩ (.slice none 0 0))
  generalize (w1.setCell ⟨w.heap.size + 1 + 1, 0, none⟩ (.slice none 0 0)).setCell ⟨w.heap.size + 1 + 1, 1, none⟩ (.slice none 0 0) = wf at oJ nN ⊢; obtain ⟨q0, q1⟩ := pair_cells oJ.out; exact bodyPost_ret (v := .tuple #[.agg #[.slice none 0 0, .slice none 0 0], .bool false]) (by simp [results, Tryz.results105, go_sem, q0, q1]) rfl ⟨none, 0, none, 0, by rw [HF.out]; rfl, by rw [HF.out]; exact I4 _ _ _ _, by rw [HF.out]; exact fH _ _ _ _, nN.out, by rw [HF.out]; exact cN, by rw [HF.out]; exact cN⟩
 obtain ⟨b0, b1⟩ := pair_cells bC.out.snd
 go_wp2_with fail
 refine (iW w1 B bv bo mv dv mo eo ys m HY1.out C8.out (by omega) M8 A4 HM2.out).mono ?_
 rintro e w2 ⟨rfl, aM⟩
 have kQ := aPo (jR.out.below aM (by omega))
 have gR := aPo (dD.out.below aM (by omega))
 have HY2 := aPo (HY1.out.below aM (by omega))
 have HG2 := aPo (C8.out.below aM (by omega))
 have aK := aPo (bC.out.next aM)
 have eC := aM.size
 have aOM := bF aK.out.res
 clear aM jR dD HY1 C8 bC b0 b1
 rcases hcb : aE ys m with _ | _
 ·have HF := aPo (aGD (xs := xs) (l := l) hcb)
  clear hca hcb; obtain ⟨r0, r1⟩ := pair_cells aK.out.res; obtain ⟨fz0, fz1⟩ := aB aK.out.res; have oJ := aPo (aK.out.set2S (.slice none 0 0) (.slice none 0 0)).1; have nN := aPo (aK.out.set2S (.slice none 0 0) (.slice none 0 0)).2; go_wp2
  change bodyPost _ _ _ _ _ ((w2.setCell ⟨w.heap.size + 1 + 1, 0, none⟩ (.slice none 0 0)).setCell ⟨w.heap.size + 1 + 1, 1, none⟩ (.slice none 0 0))
  generalize (w2.setCell ⟨w.heap.size + 1 + 1, 0, none⟩ (.slice none 0 0)).setCell ⟨w.heap.size + 1 + 1, 1, none⟩ (.slice none 0 0) = wf at oJ nN ⊢; obtain ⟨q0, q1⟩ := pair_cells oJ.out; exact bodyPost_ret (v := .tuple #[.agg #[.slice none 0 0, .slice none 0 0], .bool false]) (by simp [results, Tryz.results105, go_sem, q0, q1]) rfl ⟨none, 0, none, 0, by rw [HF.out]; rfl, by rw [HF.out]; exact I4 _ _ _ _, by rw [HF.out]; exact fH _ _ _ _, nN.out, by rw [HF.out]; exact cN, by rw [HF.out]; exact cN⟩
 have HFk := aPo (aGC hca hcb)
 obtain ⟨a0, a1⟩ := pair_cells aK.out.fst
 obtain ⟨b0, b1⟩ := pair_cells aK.out.snd
 go_wp2_with fail
 refine (aH7 w2 B av ao bv bo nv cv no co mv dv mo eo xs l ys m kQ.out gR.out HY2.out HG2.out (by omega) hv hn HM.out M8 A4 HM2.out hca hcb).mono ?_
 rintro e w3 ⟨va, vc, oa, oc, rfl, hiv, eA, aV, bW, cB⟩
 rw [← HFk.out] at hiv eA bW cB ⊢
 have nM := aPo bW
 have oM := aPo cB
 clear bW cB
 have bH := aPo (aK.out.next aV)
 have HI := aPo hiv
 have HP := aPo eA
 have gO := aV.size
 clear hiv eA aV kQ gR HY2 HG2 aK a0 a1 b0 b1 hca hcb
 generalize lW : uJ xs ys (kR xs l ys m) = zs at HI nM ⊢
 generalize hLs : yG xs ys l m (kR xs l ys m) = L at HP oM ⊢
 have HZs := aPo lW
 have oK := aPo hLs
 clear lW hLs
 rcases hok : kR xs l ys m with _ | _
 ·have HF := aPo hok
  clear hok
  go_upto_region 4 with fail
  have dJ : Below w3.heap.size w3 (w3.alloc (.cells #[.slice va zs.length vc, .slice oa L.length oc] 27)) := bl; have gB := aPo (bH.out.next dJ); generalize w3.alloc (.cells #[.slice va zs.length vc, .slice oa L.length oc] 27) = w4 at dJ gB ⊢; clear dJ; obtain ⟨r0, r1⟩ := pair_cells gB.out.res; obtain ⟨fz0, fz1⟩ := aB gB.out.res; have oJ := aPo (gB.out.set2S (.slice none 0 0) (.slice none 0 0)).1; have nN := aPo (gB.out.set2S (.slice none 0 0) (.slice none 0 0)).2; go_wp2
  change bodyPost _ _ _ _ _ ((w4.setCell ⟨w.heap.size + 1 + 1, 0, none⟩ (.slice none 0 0)).setCell ⟨w.heap.size + 1 + 1, 1, none⟩ (.slice none 0 0))
  generalize (w4.setCell ⟨w.heap.size + 1 + 1, 0, none⟩ (.slice none 0 0)).setCell ⟨w.heap.size + 1 + 1, 1, none⟩ (.slice none 0 0) = wf at oJ nN ⊢; obtain ⟨q0, q1⟩ := pair_cells oJ.out; exact bodyPost_ret (v := .tuple #[.agg #[.slice none 0 0, .slice none 0 0], .bool false]) (by simp [results, Tryz.results105, go_sem, q0, q1]) rfl ⟨none, 0, none, 0, by rw [HF.out]; rfl, by rw [HF.out]; exact I4 _ _ _ _, by rw [HF.out]; exact fH _ _ _ _, nN.out, by rw [HF.out]; exact cN, by rw [HF.out]; exact cN⟩
 have HF := aPo hok
 clear hok
 go_upto_region 4 with fail
 have dJ : Below w3.heap.size w3 (w3.alloc (.cells #[.slice va zs.length vc, .slice oa L.length oc] 27)) := bl
 have gB := aPo (bH.out.next dJ)
 have O1 := aPo (bX (Below.refl _ (w3.alloc (.cells #[.slice va zs.length vc, .slice oa L.length oc] 27))))
 have fL := aPo (HI.out.below dJ aPq)
 have nT := aPo (HP.out.below dJ aPq)
 generalize w3.alloc (.cells #[.slice va zs.length vc, .slice oa L.length oc] 27) = w4 at dJ gB O1 fL nT ⊢
 have F3 := dJ.size
 clear dJ bH HI HP
 obtain ⟨r0, r1⟩ := pair_cells gB.out.res
 obtain ⟨fz0, fz1⟩ := aB gB.out.res
 obtain ⟨x0, x1⟩ := pair_cells O1.out
 have hrl := bF gB.out.res
 have oJ := aPo (gB.out.set2S (.slice va zs.length vc) (.slice oa L.length oc)).1
 have nN := aPo (gB.out.set2S (.slice va zs.length vc) (.slice oa L.length oc)).2
 have aFj : ((w4.setCell ⟨w.heap.size + 1 + 1, 0, none⟩ (.slice va zs.length vc)).setCell ⟨w.heap.size + 1 + 1, 1, none⟩ (.slice oa L.length oc)).heap.size = w4.heap.size := aY _ _ _ _
 have HZ6 : Hid (Own ((w4.setCell ⟨w.heap.size + 1 + 1, 0, none⟩ (.slice va zs.length vc)).setCell ⟨w.heap.size + 1 + 1, 1, none⟩ (.slice oa L.length oc)) w2.heap.size w3.heap.size va zs.length zs) := fL.out.kept fun j h1 h2 => aD _ _ (by omega)
 have HO6 : Hid (bB ((w4.setCell ⟨w.heap.size + 1 + 1, 0, none⟩ (.slice va zs.length vc)).setCell ⟨w.heap.size + 1 + 1, 1, none⟩ (.slice oa L.length oc)) w2.heap.size w3.heap.size oa L.length L) := nT.out.kept fun j h1 h2 => aD _ _ (by omega)
 have HsM : Hid (w4.heap.size = ((w4.setCell ⟨w.heap.size + 1 + 1, 0, none⟩ (.slice va zs.length vc)).setCell ⟨w.heap.size + 1 + 1, 1, none⟩ (.slice oa L.length oc)).heap.size) := aFj.symm
 clear aFj
 go_wp2
 change bodyPost _ _ _ _ _ ((w4.setCell ⟨w.heap.size + 1 + 1, 0, none⟩ (.slice va zs.length vc)).setCell ⟨w.heap.size + 1 + 1, 1, none⟩ (.slice oa L.length oc))
 generalize (w4.setCell ⟨w.heap.size + 1 + 1, 0, none⟩ (.slice va zs.length vc)).setCell ⟨w.heap.size + 1 + 1, 1, none⟩ (.slice oa L.length oc) = wf at oJ nN HZ6 HO6 HsM ⊢
 obtain ⟨q0, q1⟩ := pair_cells oJ.out
 have hsm := HsM.out
 exact bodyPost_ret (v := .tuple #[.agg #[.slice va zs.length vc, .slice oa L.length oc], .bool true]) (by simp [results, Tryz.results105, go_sem, q0, q1]) rfl ⟨va, vc, oa, oc, by rw [HZs.out, oK.out, HF.out], by rw [HZs.out]; exact HZ6.out.more (by omega) (by omega), by rw [oK.out]; exact HO6.out.more (by omega) (by omega), nN.out, by rw [HZs.out]; exact nM.out, by rw [oK.out]; exact oM.out⟩
end Go.Proofs.YthkagbnpcjidfaaGreatDoor
