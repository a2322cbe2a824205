/- Walks and mathematics that several claims share, part 36. -/
import Derived.Test.YtgagchlcafdiaaaGreatGb27
import Derived.Test.YtgagchlcafdiaaaGreatGb35
import Derived.Test.YtgagchlcafdiaaaGreatGb14
import Derived.Laws.MakeOwn
import Derived.Deep.Cut
import Derived.Deep.RegionHeld3
import Derived.Test.YtgagchlcafdiaaaGreatGbA
namespace Go.Proofs.YtgagchlcafdiaaaGreat
set_option maxRecDepth 100000
open Go.RowKit
set_option linter.unusedVariables false
set_option linter.unusedSimpArgs false

theorem row_put {w : World} {base b i n : Nat} {v u : Value} {xs : List Value} (h : w.ownsRow base 84 8 v n xs) (hb : ∀ g, v.ownBlock = some g → g ≠ b) : (w.setCell ⟨b, i, none⟩ u).ownsRow base 84 8 v n xs := by
 refine h.kept (row := some b) ⟨rfl, rfl, rfl, by simp [World.setCell], fun j _ hne => heap_setCell_other _ _ _ _ (fun e => hne (by rw [e]))⟩ ?_
 rcases hg : v.ownBlock with _ | g
 ·exact .inl rfl
 ·refine .inr fun e => ?_
  injection e with e
  exact hb g hg e
/-- A cart that the call hands back, as it is read, and a flag. -/
def ReadPost (ok : Bool) (zs : List Int) (L : List OpV) (w : World) (e : Ending) (w' : World) : Prop := ∃ va vc oa oc, e = .returned (.tuple #[.agg #[.slice va zs.length vc, .slice oa L.length oc], .bool ok]) ∧ Own w' w.heap.size w'.heap.size va zs.length zs ∧ OwnOps w' w.heap.size w'.heap.size oa L.length L ∧ Below w.heap.size w w'
def ReadPostC (ok : Bool) (zs : List Int) (L : List OpV) (w : World) (e : Ending) (w' : World) : Prop := ∃ va vc oa oc, e = .returned (.tuple #[.agg #[.slice va zs.length vc, .slice oa L.length oc], .bool ok]) ∧ Own w' w.heap.size w'.heap.size va zs.length zs ∧ OwnOps w' w.heap.size w'.heap.size oa L.length L ∧ Below w.heap.size w w' ∧ Caps va zs.length vc ∧ Caps oa L.length oc
theorem ReadPostC.read {ok : Bool} {zs : List Int} {L : List OpV} {w : World} (e : Ending) (w' : World) (h : ReadPostC ok zs L w e w') : ReadPost ok zs L w e w' := by
 obtain ⟨va, vc, oa, oc, h1, h2, h3, h4, _⟩ := h
 exact ⟨va, vc, oa, oc, h1, h2, h3, h4⟩
theorem TriF.set2S {w w1 : World} {x y : Array Value} {z0 z1 : Value} {S T U : TypeId} (h : TriF w w1 x y #[z0, z1] S T U) (u v : Value) :
  ((w1.setCell ⟨w.heap.size + 1 + 1, 0, none⟩ u).setCell ⟨w.heap.size + 1 + 1, 1, none⟩ v).heap[w.heap.size + 1 + 1]? = some (.cells #[u, v] U (0, 0)) ∧ Below w.heap.size w ((w1.setCell ⟨w.heap.size + 1 + 1, 0, none⟩ u).setCell ⟨w.heap.size + 1 + 1, 1, none⟩ v) :=
 ⟨pair_set _ _ h.res, (h.bel.setCell (by show _ ≤ w.heap.size + 1 + 1; omega) _).setCell (by show _ ≤ w.heap.size + 1 + 1; omega) _⟩
theorem own_nilS (w : World) (lo hi : Nat) (a : Option Addr) : Own w lo hi a 0 [] := ⟨rfl, fun h => absurd h (by omega)⟩
theorem same_symm {a b : OpV} : sameB a b = sameB b a := by
 rcases h : sameB a b with _ | _
 ·rcases h2 : sameB b a with _ | _
  ·rfl
  ·have e := same_yes h2
   rw [e] at h
   have := same_with b a.undos
   have h3 : sameB (b.with a.undos) b = sameB b (b.with a.undos) := by unfold sameB OpV.with; simp
   rw [h3, this] at h
   cases h
 ·have e := same_yes h
  rw [e]
  have h3 : sameB (a.with b.undos) a = sameB a (a.with b.undos) := by unfold sameB OpV.with; simp
  rw [h3]
  exact (same_with a b.undos).symm
/-- The cart that is being made, in its box. -/
def OutL (ob : Nat) (zv : Option Addr) (zc : Nat) (zs : List Int) (F : Nat → Nat → OpV) (w2 wr : World) (d s : Nat) : Prop :=
 ∃ oa oc, wr.heap[ob]? = some (.cells #[.slice zv 4 zc, .slice oa (listP zs F d s).length oc] 49 (0, 0)) ∧ wr.ownsRow (ob + 1) 84 8 (.slice oa (listP zs F d s).length oc) (listP zs F d s).length (opCells (listP zs F d s)) ∧ Below ob w2 wr
def okP (l m : List OpV) (d s : Nat) : Prop := ∀ a b, getO l (d : Int) ((s : Int) + 1) = some a → getO m (d : Int) ((s : Int) + 1) = some b → sameB a b = true
theorem opwp_append {P : Program} {o : Oper} {a : Act} {w : World} {K : Act → World → Prop} {Q : Exit → Act → World → Prop} (x y : Operand) (ts : Array TypeId) (hop : o.op = Op.call { callee := Callee.builtin Builtin.append, args := #[x, y], argTypes := ts }) (v1 v2 : Value) {v' : Value} {w' : World} (h1 : a.eval x = v1) (h2 : a.eval y = v2)
  (hrun : (Builtin.append_ ts o.type #[v1, v2]).run P w = .ok v' w') (hK : K (a.put o.dst v') w') : Oper.wp P o a w K Q := by
 unfold Oper.wp
 simp [execOp, hop, resolve, invoke, builtin, h1, h2, hrun, Result.andThen]
 exact hK
theorem listP_all (zs : List Int) (F : Nat → Nat → OpV) (d s : Nat) {i : Nat} (hi : i < (listP zs F d s).length) : ∃ e t, atOp (listP zs F d s) i = F e t := by
 have hm : (listP zs F d s)[i] ∈ listP zs F d s := List.getElem_mem hi
 have ha : atOp (listP zs F d s) i = (listP zs F d s)[i] := by unfold atOp; rw [List.getD_eq_getElem?_getD, List.getElem?_eq_getElem hi]; rfl
 rw [ha]
 unfold listP at hm ⊢
 rcases List.mem_append.1 hm with h | h
 ·obtain ⟨e, _, h2⟩ := List.mem_flatMap.1 h
  obtain ⟨t, _, h3⟩ := List.mem_map.1 h2
  exact ⟨e, t, h3.symm⟩
 ·obtain ⟨t, _, h3⟩ := List.mem_map.1 h
  exact ⟨d, t, h3.symm⟩
theorem TriF.low {w w1 w2 : World} {x y z : Array Value} {S T U : TypeId} {B : Nat} (h : TriF w w1 x y z S T U) (hb : Below B w1 w2) (hB : w.heap.size + 1 + 1 < B) : TriF w w2 x y z S T U :=
 ⟨(hb.block _ (by omega)).trans h.fst, (hb.block _ (by omega)).trans h.snd, (hb.block _ hB).trans h.res, h.bel.trans (hb.mono (by omega))⟩
theorem okP_end {zs : List Int} {l m : List OpV} {ys : List Int} (h2 : cartB ys m = true) (hz : ∀ d, d < 4 → ys.getD d 0 ≤ zs.getD d 0) (h : ∀ d, d < 4 → ∀ s : Nat, (s : Int) < zs.getD d 0 → okP l m d s) : okM l m = true :=
 okM_end fun i hi => by
  obtain ⟨d, hd, _, _, _, h3, _⟩ := cart_at h2 hi
  have hq := cart_seq h2 hi h3
  have hzd := hz d hd
  obtain ⟨s, hs⟩ : ∃ s : Nat, (s : Int) + 1 = (atOp m i).seq := ⟨((atOp m i).seq - 1).toNat, by omega⟩
  have hp := h d hd s (by omega)
  unfold okP at hp
  rw [← h3, hs] at hp
  have hm : getO m (atOp m i).dev (atOp m i).seq = some (atOp m i) := setF_hit (cart_inc h2) m.length (Nat.le_refl _) i hi
  rcases hg : getO l (atOp m i).dev (atOp m i).seq with _ | a
  ·exact okJ_none hg
  ·rw [okJ_some hg, same_symm]
   exact hp a _ hg hm
theorem okP_stop {l m : List OpV} {d s : Nat} {a b : OpV} {k : Nat} (hk : k < m.length) (hb : atOp m k = b) (e : b.dev = (d : Int) ∧ b.seq = (s : Int) + 1) (ha : getO l (d : Int) ((s : Int) + 1) = some a) (h : sameB a b = false) : okM l m = false :=
 okM_stop hk (by rw [okJ_some (y := a) (by rw [hb, e.1, e.2]; exact ha), hb, same_symm]; exact h)

def mergedVs (xs ys : List Int) (ok : Bool) : List Int := if ok = true then maxV xs ys else []
def mergedOs (xs ys : List Int) (l m : List OpV) (ok : Bool) : List OpV := if ok = true then mergeL (maxV xs ys) l m else []
set_option linter.unusedSimpArgs false in
set_option maxHeartbeats 80000000 in
theorem l4MergeC (w : World) (B : Nat) (av ao bv bo : Option Addr) (nv cv no co mv dv mo eo : Nat) (xs : List Int) (l : List OpV) (ys : List Int) (m : List OpV) (hx : Ints w B av nv xs) (h : Ops w B ao no l) (hy : Ints w B bv mv ys) (g : Ops w B bo mo m) (hB : B ≤ w.heap.size) (hv : nv ≤ 1048576) (hn : no ≤ 1048576) (hm : ∀ i, i < no → (atOp l i).item.size ≤ 1048576) (hv2 : mv ≤ 1048576) (hn2 : mo ≤ 1048576) (hm2 : ∀ i, i < mo → (atOp m i).item.size ≤ 1048576) (hca : cartB xs l = true) (hcb : cartB ys m = true) :
  Calls Tryz.prog 91 #[.agg #[.slice av nv cv, .slice ao no co], .agg #[.slice bv mv dv, .slice bo mo eo]] w (ReadPostC (okM l m) (mergedVs xs ys (okM l m)) (mergedOs xs ys l m (okM l m)) w) := by
 obtain ⟨i0, hi, hz0, hz1, hz2⟩ := info_parts Tryz.infoOp
 have hT := TriF.mk0 w #[.slice av nv cv, .slice ao no co] #[.slice bv mv dv, .slice bo mo eo] #[.slice none 0 0, .slice none 0 0] 49 49 49
 have HV := Lib.hid (hx.below hT.bel hB)
 have HO := Lib.hid (h.below hT.bel hB)
 have HY := Lib.hid (hy.below hT.bel hB)
 have HG := Lib.hid (g.below hT.bel hB)
 have HT := Lib.hid hT
 have HL := Lib.hid h.1
 have HLm := Lib.hid g.1
 have hvA := (cart_true hca).1
 have hvB := (cart_true hcb).1
 have hv4 := (vec_at hvA (d := 0) (by omega)).2.2
 have hv4b := (vec_at hvB (d := 0) (by omega)).2.2
 have HVm := Lib.hid (maxV_ok hvA hvB)
 have HZv : Hid (vecZip max xs ys = maxV xs ys) := by show _ = _; rw [vecZip_yes (by rw [hvA, hvB]; rfl)]; rfl
 have hz4 : (maxV xs ys).length = 4 := (vec_at HVm.out (d := 0) (by omega)).2.2
 have HZd : Hid (∀ d, d < 4 → (maxV xs ys).getD d 0 = max (xs.getD d 0) (ys.getD d 0)) := fun d hd => maxV_at hv4 hv4b hd
 have HIt : Hid (∀ d s, (mergeF l m d s).item.size ≤ 1048576) := fun d s => merge_items (N := 1048576) (fun i hi => hm i (by rw [← h.1]; exact hi)) (fun i hi => hm2 i (by rw [← g.1]; exact hi)) d s
 have HCa := Lib.hid hca
 have HCb := Lib.hid hcb
 have HVd := Lib.hid (fun d (hd : d < 4) => vec_at (maxV_ok hvA hvB) hd)
 have hBw := hB
 clear hx h hy g hT hB hm hm2 hca hcb hvA hvB hv4 hv4b
 go_enter Tryz.func91, Tryz.ntmps91
 go_wp2_with fail
 generalize ((w.alloc (.cells #[.slice av nv cv, .slice ao no co] 49)).alloc (.cells #[.slice bv mv dv, .slice bo mo eo] 49)).alloc (.cells #[.slice none 0 0, .slice none 0 0] 49) = w0 at HV HO HY HG HT ⊢
 have hsz0 := HT.out.bel.size
 have hsz1 := lt_of_row HT.out.res
 refine (specMaxC w0 B B av bv nv cv mv dv xs ys HV.out HY.out (by omega) (by omega) hv hv2).mono ?_
 rintro e w1 ⟨zv, zc, rfl, hown, hb1, hcz⟩
 rw [HZv.out, hz4] at hown hcz ⊢
 have HCz := Lib.hid hcz
 clear hcz
 have HO1 := Lib.hid (HO.out.below hb1 (by omega))
 have HG1 := Lib.hid (HG.out.below hb1 (by omega))
 have HT1 := Lib.hid (HT.out.next hb1)
 have HZ1 := Lib.hid hown
 have hs1 := hb1.size
 clear hb1 HV HO HY HG HT hown HZv
 go_upto_region 2 with fail
 have hb2 : Below w1.heap.size w1 (w1.alloc (.cells #[.slice zv 4 zc, .slice none 0 0] 49)) := bl
 have HX2 := Lib.hid (boxAt (Below.refl _ (w1.alloc (.cells #[.slice zv 4 zc, .slice none 0 0] 49))))
 have HO2 := Lib.hid (HO1.out.below hb2 (by omega))
 have HG2 := Lib.hid (HG1.out.below hb2 (by omega))
 have HT2 := Lib.hid (HT1.out.next hb2)
 have HZ2 := Lib.hid (HZ1.out.below hb2 (Nat.le_refl _))
 generalize w1.alloc (.cells #[.slice zv 4 zc, .slice none 0 0] 49) = w2 at hb2 HX2 HO2 HG2 HT2 HZ2 ⊢
 have hs2 := hb2.size
 have hx2 := lt_of_row HX2.out
 generalize hob : w1.heap.size = ob at HX2 hs2 hx2 hs1 HZ2 ⊢
 clear hb2 HO1 HG1 HT1 HZ1 hob
 have HOut : Hid (OutL ob zv zc (maxV xs ys) (mergeF l m) w2 w2 0 0) := ⟨none, 0, HX2.out, ⟨rfl, .inl ⟨rfl, rfl⟩⟩, Below.refl _ _⟩
 generalize hzs : maxV xs ys = zs at *
 go_wp2
 go_loopw [7] (fun i wr => ∃ d : Nat, d ≤ 4 ∧ i = .int .i64 (d : Int) ∧ Hid (OutL ob zv zc zs (mergeF l m) w2 wr d 0) ∧ Hid (∀ e, e < d → ∀ s : Nat, (s : Int) < zs.getD e 0 → okP l m e s)) (fun i _ => 4 - (intOf i).toNat)
 case atStart => exact ⟨0, by omega, rfl, HOut, Lib.hid (fun e he => absurd he (by omega))⟩
 case round =>
  obtain ⟨d, hd, rfl, HOu, HOk⟩ := hrel
  clear HOut HX2
  by_cases hlt : d < 4
  rotate_left
  ·obtain rfl : d = 4 := by omega
   obtain ⟨oa, oc, hbox, hrow, hbel⟩ := HOu.out
   have hok : okM l m = true := okP_end HCb.out (fun d hd => by rw [HZd.out d hd]; omega) HOk.out
   have HOKm := Lib.hid hok
   have HCm : Hid (cartB zs (listP zs (mergeF l m) 4 0) = true) := by
    show _ = _
    rw [← hzs]
    exact cart_merged HCa.out HCb.out hok
   have HMv : Hid (mergedVs xs ys (okM l m) = zs) := by show _ = _; rw [hok, ← hzs]; rfl
   have HMo : Hid (mergedOs xs ys l m (okM l m) = listP zs (mergeF l m) 4 0) := by show _ = _; rw [hok, ← hzs]; rfl
   have hlen : (listP zs (mergeF l m) 4 0).length ≤ 1048576 := by
    rw [listP_len]
    have h2 := stOf_le HVm.out 4 (by omega)
    omega
   have HIts : Hid (∀ i, i < (listP zs (mergeF l m) 4 0).length → (atOp (listP zs (mergeF l m) 4 0) i).item.size ≤ 1048576) := fun i hi => by
    obtain ⟨d, s, e⟩ := listP_all zs (mergeF l m) 4 0 hi
    rw [e]
    exact HIt.out d s
   have HOB := Lib.hid hbox
   have HROW := Lib.hid hrow
   have HBL := Lib.hid hbel
   have HTr := Lib.hid (HT2.out.low hbel (by omega))
   have HZr := Lib.hid (HZ2.out.below hbel (Nat.le_refl _))
   have hobz : ob < wr.heap.size := lt_of_row hbox
   clear hbox hrow hbel HOu hok hzs HCa HCb HOk HZ2 HZd HIt
   generalize listP zs (mergeF l m) 4 0 = L at HOB HROW HCm HMo HIts hlen
   have HOps := Lib.hid (own_of_cells HROW.out (Nat.le_refl wr.heap.size))
   have HCo := Lib.hid (caps_of_row HROW.out)
   obtain ⟨z0, hz0e⟩ : ∃ z0, wr.drew = z0 := ⟨_, rfl⟩
   have hS : z0.cell? ⟨ob, 0, none⟩ = some (.slice zv 4 zc) ∧ z0.cell? ⟨ob, 1, none⟩ = some (.slice oa L.length oc) := by rw [← hz0e]; exact pair_cells HOB.out
   have HT0 : Hid (TriF w z0 #[.slice av nv cv, .slice ao no co] #[.slice bv mv dv, .slice bo mo eo] #[.slice none 0 0, .slice none 0 0] 49 49 49) := by rw [← hz0e]; exact ⟨HTr.out.fst, HTr.out.snd, HTr.out.res, ⟨HTr.out.bel.os, HTr.out.bel.tape, HTr.out.bel.output, HTr.out.bel.size, HTr.out.bel.block⟩⟩
   have HZ0 : Hid (Own z0 w0.heap.size ob zv 4 zs) := by rw [← hz0e]; exact HZr.out.kept (w' := wr.drew) fun _ _ _ => rfl
   have HO0 : Hid (OwnOps z0 (ob + 1) z0.heap.size oa L.length L) := by rw [← hz0e]; exact HOps.out.kept (w' := wr.drew) fun _ _ _ => rfl
   have hob0 : ob ≤ z0.heap.size := by rw [← hz0e]; exact Nat.le_of_lt hobz
   clear HOB HROW HTr HZr HOps
   go_upto_region 19 with fail
   go_wp2_with fail
   refine wp_region_held_drew (S := fun w' => w'.cell? ⟨ob, 0, none⟩ = some (.slice zv 4 zc) ∧ w'.cell? ⟨ob, 1, none⟩ = some (.slice oa L.length oc)) (by kernel_rfl) (by rw [hz0e]; exact hS) (fun hHeld => ?_)
   rw [hz0e]
   clear hHeld
   refine tj 0 ?_
   refine tj 1 ?_
   refine rk 2 rfl (fun K hK => ?_)
   go_simp
   go_at_call 59
   refine (specCartOk z0 z0.heap.size zv oa 4 zc L.length oc zs L (HZ0.out.ints.more hob0) HO0.out.ops (Nat.le_refl _) (by omega) hlen HIts.out).mono ?_
   rintro e w5 ⟨rfl, hb5⟩
   rw [HCm.out]
   have hS5 : w5.cell? ⟨ob, 0, none⟩ = some (.slice zv 4 zc) ∧ w5.cell? ⟨ob, 1, none⟩ = some (.slice oa L.length oc) := ⟨(hb5.cell (block_lt_of_cell hS.1)).trans hS.1, (hb5.cell (block_lt_of_cell hS.2)).trans hS.2⟩
   refine hK.out _ _ hS5 (fun hHeld2 => ?_)
   clear hK K
   (try simp only [Act.put, u1, u2, u3])
   have HT5 := Lib.hid (HT0.out.next hb5)
   have HZ5 := Lib.hid (HZ0.out.below hb5 hob0)
   have HO5 := Lib.hid ((HO0.out.below hb5 (Nat.le_refl _)).more (Nat.le_refl _) hb5.size)
   have hob5 : ob ≤ w5.heap.size := Nat.le_trans hob0 hb5.size
   obtain ⟨r0, r1⟩ := pair_cells HT5.out.res
   obtain ⟨fz0, fz1⟩ := pair_frozen HT5.out.res
   have hrl := lt_of_row HT2.out.res
   have hS6 : ((w5.setCell ⟨w.heap.size + 1 + 1, 0, none⟩ (.slice zv 4 zc)).setCell ⟨w.heap.size + 1 + 1, 1, none⟩ (.slice oa L.length oc)).cell? ⟨ob, 0, none⟩ = some (.slice zv 4 zc) ∧ ((w5.setCell ⟨w.heap.size + 1 + 1, 0, none⟩ (.slice zv 4 zc)).setCell ⟨w.heap.size + 1 + 1, 1, none⟩ (.slice oa L.length oc)).cell? ⟨ob, 1, none⟩ = some (.slice oa L.length oc) := ⟨(cell_of_block (pair_other _ _ (by omega))).trans hS5.1, (cell_of_block (pair_other _ _ (by omega))).trans hS5.2⟩
   have HXr := Lib.hid (HT5.out.set2S (.slice zv 4 zc) (.slice oa L.length oc)).1
   have HBr2 := Lib.hid (HT5.out.set2S (.slice zv 4 zc) (.slice oa L.length oc)).2
   have hsz6 : ((w5.setCell ⟨w.heap.size + 1 + 1, 0, none⟩ (.slice zv 4 zc)).setCell ⟨w.heap.size + 1 + 1, 1, none⟩ (.slice oa L.length oc)).heap.size = w5.heap.size := pair_size _ _ _ _
   have HZ6 : Hid (Own ((w5.setCell ⟨w.heap.size + 1 + 1, 0, none⟩ (.slice zv 4 zc)).setCell ⟨w.heap.size + 1 + 1, 1, none⟩ (.slice oa L.length oc)) w0.heap.size ob zv 4 zs) := HZ5.out.kept fun j h1 h2 => pair_other _ _ (by omega)
   have HO6 : Hid (OwnOps ((w5.setCell ⟨w.heap.size + 1 + 1, 0, none⟩ (.slice zv 4 zc)).setCell ⟨w.heap.size + 1 + 1, 1, none⟩ (.slice oa L.length oc)) (ob + 1) w5.heap.size oa L.length L) := HO5.out.kept fun j h1 h2 => pair_other _ _ (by omega)
   refine rk 3 rfl (fun K hK => ?_)
   go_simp
   refine hK.out _ _ hS6 (fun hHeld5 => ?_)
   clear hK K
   (try simp only [Act.put, u1, u2, u3])
   refine tj 4 ?_
   refine wpAnyH_done (by kernel_rfl) ?_ _
   clear hS hS5 hS6 hHeld2 hHeld5 hb5 HT0 HZ0 HO0 HT5 HZ5 HO5 r0 r1 fz0 fz1
   generalize (w5.setCell ⟨w.heap.size + 1 + 1, 0, none⟩ (.slice zv 4 zc)).setCell ⟨w.heap.size + 1 + 1, 1, none⟩ (.slice oa L.length oc) = wf at HXr HBr2 HZ6 HO6 hsz6 ⊢
   obtain ⟨q0, q1⟩ := pair_cells HXr.out
   go_wp2
   exact bodyPost_ret (v := .tuple #[.agg #[.slice zv 4 zc, .slice oa L.length oc], .bool true]) (by simp [results, Tryz.results91, go_sem, q0, q1]) rfl ⟨zv, zc, oa, oc, by rw [HMv.out, HMo.out, HOKm.out, hz4], by rw [HMv.out, hz4]; exact HZ6.out.more (by omega) (by omega), by rw [HMo.out]; exact HO6.out.more (by omega) (by omega), HBr2.out, by rw [HMv.out, hz4]; exact HCz.out, by rw [HMo.out]; exact HCo.out⟩
  obtain ⟨g1, g2, _⟩ := HVd.out d hlt
  obtain ⟨q, hq⟩ := Int.eq_ofNat_of_zero_le g1
  have hdi : (d : Int) < 4 := by omega
  have HOuB : Hid (Below ob w2 wr) := by obtain ⟨_, _, _, _, h⟩ := HOu.out; exact h
  have HZc : Hid (∀ vb vo, zv = some ⟨vb, vo, none⟩ → w2.cell? ⟨vb, vo + d, none⟩ = some (.int .i64 (q : Int))) := fun vb vo e => by
   obtain ⟨vb', vo', e', _, hc⟩ := HZ2.out.ints.2 d hlt
   rw [e] at e'
   cases e'
   rw [hq] at hc
   exact hc
  have HZr := Lib.hid (HZ2.out.ints.below HOuB.out (Nat.le_refl _))
  obtain ⟨vb, vo, rfl, hvb, _⟩ := HZr.out.2 d hlt
  clear HZr
  go_wp2
  go_loopw [8] (fun sq wr => ∃ s : Nat, s ≤ q ∧ sq = .int .i64 ((s : Int) + 1) ∧ Hid (OutL ob (some ⟨vb, vo, none⟩) zc zs (mergeF l m) w2 wr d s) ∧ Hid (∀ e, e < s → okP l m d e)) (fun sq _ => q + 1 - (intOf sq).toNat)
  case atStart => exact ⟨0, Nat.zero_le _, rfl, HOu, Lib.hid (fun e he => absurd he (by omega))⟩
  case round =>
   obtain ⟨s, hsq, rfl, HOu2, HOk2⟩ := hrel
   clear HOu HOuB
   obtain ⟨oa, oc, hbox, hrow, hbel⟩ := HOu2.out
   have HOB := Lib.hid hbox
   have HROW := Lib.hid hrow
   have HBL := Lib.hid hbel
   have hobl := lt_of_row hbox
   have HTr := Lib.hid (HT2.out.low hbel (by omega))
   have HOr := Lib.hid (HO2.out.below hbel (by omega))
   have HGr := Lib.hid (HG2.out.below hbel (by omega))
   have c0 := (hbel.cell (p := ⟨vb, vo + d, none⟩) hvb).trans (HZc.out vb vo rfl)
   obtain ⟨o0, o1⟩ := pair_cells hbox
   clear hbox hrow hbel HOu2
   by_cases hls : s < q
   rotate_left
   ·obtain rfl : s = q := by omega
    have hcnd : ¬ ((s : Int) + 1 ≤ (s : Int)) := by omega
    have HOn : Hid (OutL ob (some ⟨vb, vo, none⟩) zc zs (mergeF l m) w2 wr (d + 1) 0) := by
     show OutL _ _ _ _ _ _ _ _ _
     unfold OutL
     rw [listP_next, hq]
     exact ⟨oa, oc, HOB.out, HROW.out, HBL.out⟩
    have HOkn : Hid (∀ e, e < d + 1 → ∀ s : Nat, (s : Int) < zs.getD e 0 → okP l m e s) := fun e he t ht => by
     rcases Nat.lt_or_ge e d with h1 | h1
     ·exact HOk.out e h1 t ht
     ·obtain rfl : e = d := by omega
      exact HOk2.out t (by rw [hq] at ht; omega)
    clear HOB HROW HBL
    go_wp2
    go_roundw
    case rel => exact ⟨d + 1, by omega, by go_num, HOn, HOkn⟩
    case measure => simp [intOf]; omega
   have hcnd : (s : Int) + 1 ≤ (q : Int) := by omega
   have hmx := HZd.out d hlt
   rw [hq] at hmx
   have HMx := Lib.hid hmx
   clear hmx
   have HSt := Lib.hid (listP_step zs (mergeF l m) d s)
   have hlen : (listP zs (mergeF l m) d s).length ≤ 1048576 := by
    rw [listP_len]
    have h1 := stOf_mono zs d 4 (by omega)
    have h2 := stOf_le HVm.out 4 (by omega)
    omega
   have HFds : Hid (mergeF l m d s = joinAt l m (d : Int) ((s : Int) + 1)) := rfl
   have HLno : Hid ((s : Int) < xs.getD d 0 → (∀ j, j < no → ¬ eqN l j (d : Int) ((s : Int) + 1)) → False) := fun h1 h2 => by
    obtain ⟨h3, h4⟩ := cart_has HCa.out hlt h1
    exact h2 _ (by rw [← HL.out]; exact h3) h4
   have HMno : Hid ((s : Int) < ys.getD d 0 → (∀ j, j < mo → ¬ eqN m j (d : Int) ((s : Int) + 1)) → False) := fun h1 h2 => by
    obtain ⟨h3, h4⟩ := cart_has HCb.out hlt h1
    exact h2 _ (by rw [← HLm.out]; exact h3) h4
   have HOk3 : Hid (okP l m d s → ∀ e, e < s + 1 → okP l m d e) := fun h e he => by
    rcases Nat.lt_or_ge e s with h1 | h1
    ·exact HOk2.out e h1
    ·obtain rfl : e = s := by omega
     exact h
   generalize listP zs (mergeF l m) d s = L at HOB HROW HSt hlen o0 o1 ⊢
   obtain ⟨a0, a1⟩ := pair_cells HTr.out.fst
   obtain ⟨b0, b1⟩ := pair_cells HTr.out.snd
   go_wp2_with fail
   refine (l4At wr B ao no co l (d : Int) ((s : Int) + 1) HOr.out hn).mono ?_
   rintro e w5 ⟨hor, rfl⟩
   rcases hor with ⟨i, hil, hie, rfl⟩ | ⟨hno, rfl⟩
   rotate_left
   ·have hg1 : getO l (d : Int) ((s : Int) + 1) = none := setF_miss _ fun j hj => hno j (by rw [← HL.out]; exact hj)
    have hy1 : (s : Int) < ys.getD d 0 := by
     have hmx := HMx.out
     rcases Int.lt_or_le (s : Int) (xs.getD d 0) with h1 | h1
     ·exact (HLno.out h1 hno).elim
     ·omega
    have HNo := Lib.hid hno
    clear hno
    go_wp2_with fail
    refine (l4At wr B bo mo eo m (d : Int) ((s : Int) + 1) HGr.out hn2).mono ?_
    rintro e w5 ⟨hor, rfl⟩
    obtain ⟨k, hkm, hke, rfl⟩ : ∃ k : Nat, k < mo ∧ eqN m k (d : Int) ((s : Int) + 1) ∧ e = .returned (.int .i64 (k : Int)) := hor.resolve_right (fun h => HMno.out hy1 h.1)
    clear hor
    obtain ⟨b2, off2, rfl, hb2, ho2⟩ := HGr.out.2 k hkm
    have HO8 : Hid (OpAt wr b2 (off2 + k * 8) (atOp m k)) := ho2
    have hg2 : getO m (d : Int) ((s : Int) + 1) = some (atOp m k) := by
     have := setF_hit (cart_inc HCb.out) m.length (Nat.le_refl _) k (by rw [HLm.out]; exact hkm)
     rw [hke.1, hke.2] at this
     exact this
    have HFy : Hid (mergeF l m d s = atOp m k) := by show _ = _; rw [HFds.out]; unfold joinAt; rw [hg1, hg2]
    have HE := Lib.hid (HOk3.out fun a b ha hb => by rw [hg1] at ha; cases ha)
    have hki : (k : Int) < (mo : Int) := by omega
    clear ho2 hg1 hg2 hke hy1
    generalize atOp m k = y at HO8 HFy
    obtain ⟨c0', c1', c2', c3', c4', c5', c6', c7'⟩ := HO8.out
    have hSw : wr.cell? ⟨w.heap.size + 1, 1, none⟩ = some (.slice (some ⟨b2, off2, none⟩) mo eo) ∧ wr.cell? ⟨b2, off2 + k * 8, none⟩ = some (.int .i64 y.dev) ∧ wr.cell? ⟨b2, off2 + k * 8 + 1, none⟩ = some (.int .i64 y.seq) ∧ wr.cell? ⟨b2, off2 + k * 8 + 2, none⟩ = some (.int .i64 y.stamp) ∧ wr.cell? ⟨b2, off2 + k * 8 + 3, none⟩ = some (.int .i64 y.kind) ∧ wr.cell? ⟨b2, off2 + k * 8 + 4, none⟩ = some (.string y.item) ∧ wr.cell? ⟨b2, off2 + k * 8 + 5, none⟩ = some (.int .i64 y.qty) ∧ wr.cell? ⟨b2, off2 + k * 8 + 6, none⟩ = some (.int .i64 y.level) ∧ wr.cell? ⟨b2, off2 + k * 8 + 7, none⟩ = some (.int .i64 y.undos) := ⟨b1, c0', c1', c2', c3', c4', c5', c6', c7'⟩
    clear a0 a1 b0 b1 c0 o0 o1 c0' c1' c2' c3' c4' c5' c6' c7' HO8
    go_upto_region 14 with fail
    obtain ⟨z0, hz0e⟩ : ∃ z0, wr.drew = z0 := ⟨_, rfl⟩
    have hS : z0.cell? ⟨w.heap.size + 1, 1, none⟩ = some (.slice (some ⟨b2, off2, none⟩) mo eo) ∧ z0.cell? ⟨b2, off2 + k * 8, none⟩ = some (.int .i64 y.dev) ∧ z0.cell? ⟨b2, off2 + k * 8 + 1, none⟩ = some (.int .i64 y.seq) ∧ z0.cell? ⟨b2, off2 + k * 8 + 2, none⟩ = some (.int .i64 y.stamp) ∧ z0.cell? ⟨b2, off2 + k * 8 + 3, none⟩ = some (.int .i64 y.kind) ∧ z0.cell? ⟨b2, off2 + k * 8 + 4, none⟩ = some (.string y.item) ∧ z0.cell? ⟨b2, off2 + k * 8 + 5, none⟩ = some (.int .i64 y.qty) ∧ z0.cell? ⟨b2, off2 + k * 8 + 6, none⟩ = some (.int .i64 y.level) ∧ z0.cell? ⟨b2, off2 + k * 8 + 7, none⟩ = some (.int .i64 y.undos) := ⟨by rw [← hz0e]; exact hSw.1, by rw [← hz0e]; exact hSw.2.1, by rw [← hz0e]; exact hSw.2.2.1, by rw [← hz0e]; exact hSw.2.2.2.1, by rw [← hz0e]; exact hSw.2.2.2.2.1, by rw [← hz0e]; exact hSw.2.2.2.2.2.1, by rw [← hz0e]; exact hSw.2.2.2.2.2.2.1, by rw [← hz0e]; exact hSw.2.2.2.2.2.2.2.1, by rw [← hz0e]; exact hSw.2.2.2.2.2.2.2.2⟩
    have ob0 : Hid (z0.heap[ob]? = some (.cells #[.slice (some ⟨vb, vo, none⟩) 4 zc, .slice oa L.length oc] 49 (0, 0))) := by rw [← hz0e]; exact HOB.out
    have row0 : z0.ownsRow (ob + 1) 84 8 (.slice oa L.length oc) L.length (opCells L) := by rw [← hz0e]; exact HROW.out
    have obl0 : ob < z0.heap.size := by rw [← hz0e]; exact hobl
    have hb0z : Hid (Below ob wr z0) := by rw [← hz0e]; exact ⟨rfl, rfl, rfl, Nat.le_refl _, fun _ _ => rfl⟩
    have o1 := (pair_cells ob0.out).2
    have row1 := row0.alloc (.cells #[.int .i64 y.dev, .int .i64 y.seq, .int .i64 y.stamp, .int .i64 y.kind, .string y.item, .int .i64 y.qty, .int .i64 y.level, .int .i64 y.undos] 84)
    have hbz1 : Below ob z0 (z0.alloc (.cells #[.int .i64 y.dev, .int .i64 y.seq, .int .i64 y.stamp, .int .i64 y.kind, .string y.item, .int .i64 y.qty, .int .i64 y.level, .int .i64 y.undos] 84)) := (Below.refl ob z0).alloc (by omega) _
    obtain ⟨v', z2, hrun, hown2, hgr, _⟩ := run_append_own (P := Tryz.prog) (z0.alloc (.cells #[.int .i64 y.dev, .int .i64 y.seq, .int .i64 y.stamp, .int .i64 y.kind, .string y.item, .int .i64 y.qty, .int .i64 y.level, .int .i64 y.undos] 84)) (ob + 1) 47 47 84 i0 (.agg #[.int .i64 0, .int .i64 0, .int .i64 0, .int .i64 0, .string ⟨#[]⟩, .int .i64 0, .int .i64 0, .int .i64 0]) 8 72 Tryz.underlying47 hi hz0 hz1 hz2 rfl (by decide) _ _ _ row1 ⟨z0.heap.size, 0, none⟩ 1 1 (opRow y) rfl (opRow_new z0 y) (fun u hu => opCells_one [y] u (by show u ∈ opRow y ++ []; rw [List.append_nil]; exact hu)) (by unfold maxLen; omega) (by omega) (by show _ ≤ (z0.heap.push _).size; simp; omega)
    have hbz2 : Below ob z0 z2 := hbz1.grown hgr (Nat.le_trans (by omega) hbz1.size) (fun q hq => by have := (row1.lt q hq).1; omega)
    obtain ⟨va2, vc2, rfl⟩ : ∃ va2 vc2, v' = .slice va2 (L.length + 1) vc2 := by
     rcases hown2.2 with ⟨_, e2⟩ | ⟨_, c2, _, e2, _⟩
     ·omega
     ·exact ⟨_, c2, e2⟩
    have ob1 : Hid ((z0.alloc (.cells #[.int .i64 y.dev, .int .i64 y.seq, .int .i64 y.stamp, .int .i64 y.kind, .string y.item, .int .i64 y.qty, .int .i64 y.level, .int .i64 y.undos] 84)).heap[ob]? = some (.cells #[.slice (some ⟨vb, vo, none⟩) 4 zc, .slice oa L.length oc] 49 (0, 0))) := (Below.heap_alloc _ _ _ obl0).trans ob0.out
    have ob2 : Hid (z2.heap[ob]? = some (.cells #[.slice (some ⟨vb, vo, none⟩) 4 zc, .slice oa L.length oc] 49 (0, 0))) := (hgr.block ob (by show _ < (z0.heap.push _).size; simp; omega) (fun h => by have := (row1.lt ob h.symm).1; omega)).trans ob1.out
    have o11 := (pair_cells ob1.out).2
    have o12 := (pair_cells ob2.out).2
    have fz2 := (pair_frozen ob2.out).2
    have HBOX3 : Hid ((z2.setCell ⟨ob, 1, none⟩ (.slice va2 (L.length + 1) vc2)).heap[ob]? = some (.cells #[.slice (some ⟨vb, vo, none⟩) 4 zc, .slice va2 (L.length + 1) vc2] 49 (0, 0))) := heap_setCell_same _ _ _ _ _ _ ob2.out
    have HROW3 : Hid ((z2.setCell ⟨ob, 1, none⟩ (.slice va2 (L.length + 1) vc2)).ownsRow (ob + 1) 84 8 (.slice va2 (L.length + 1) vc2) (L.length + 1) (opCells L ++ opRow y)) := row_put hown2 (fun q hq => by have := (hown2.lt q hq).1; omega)
    have hbz3 : Below ob z0 (z2.setCell ⟨ob, 1, none⟩ (.slice va2 (L.length + 1) vc2)) := hbz2.setCell (Nat.le_refl _) _
    have HBEL3 : Hid (Below ob wr (z2.setCell ⟨ob, 1, none⟩ (.slice va2 (L.length + 1) vc2))) := hb0z.out.trans hbz3
    have hSd : z0.cell? ⟨w.heap.size + 1, 1, none⟩ = some (.slice (some ⟨b2, off2, none⟩) mo eo) ∧ z0.cell? ⟨b2, off2 + k * 8, none⟩ = some (.int .i64 y.dev) ∧ z0.cell? ⟨b2, off2 + k * 8 + 1, none⟩ = some (.int .i64 y.seq) ∧ z0.cell? ⟨b2, off2 + k * 8 + 2, none⟩ = some (.int .i64 y.stamp) ∧ z0.cell? ⟨b2, off2 + k * 8 + 3, none⟩ = some (.int .i64 y.kind) ∧ z0.cell? ⟨b2, off2 + k * 8 + 4, none⟩ = some (.string y.item) ∧ z0.cell? ⟨b2, off2 + k * 8 + 5, none⟩ = some (.int .i64 y.qty) ∧ z0.cell? ⟨b2, off2 + k * 8 + 6, none⟩ = some (.int .i64 y.level) ∧ z0.cell? ⟨b2, off2 + k * 8 + 7, none⟩ = some (.int .i64 y.undos) := hS
    have hS1 : (z0.alloc (.cells #[.int .i64 y.dev, .int .i64 y.seq, .int .i64 y.stamp, .int .i64 y.kind, .string y.item, .int .i64 y.qty, .int .i64 y.level, .int .i64 y.undos] 84)).cell? ⟨w.heap.size + 1, 1, none⟩ = some (.slice (some ⟨b2, off2, none⟩) mo eo) ∧ (z0.alloc (.cells #[.int .i64 y.dev, .int .i64 y.seq, .int .i64 y.stamp, .int .i64 y.kind, .string y.item, .int .i64 y.qty, .int .i64 y.level, .int .i64 y.undos] 84)).cell? ⟨b2, off2 + k * 8, none⟩ = some (.int .i64 y.dev) ∧ (z0.alloc (.cells #[.int .i64 y.dev, .int .i64 y.seq, .int .i64 y.stamp, .int .i64 y.kind, .string y.item, .int .i64 y.qty, .int .i64 y.level, .int .i64 y.undos] 84)).cell? ⟨b2, off2 + k * 8 + 1, none⟩ = some (.int .i64 y.seq) ∧ (z0.alloc (.cells #[.int .i64 y.dev, .int .i64 y.seq, .int .i64 y.stamp, .int .i64 y.kind, .string y.item, .int .i64 y.qty, .int .i64 y.level, .int .i64 y.undos] 84)).cell? ⟨b2, off2 + k * 8 + 2, none⟩ = some (.int .i64 y.stamp) ∧ (z0.alloc (.cells #[.int .i64 y.dev, .int .i64 y.seq, .int .i64 y.stamp, .int .i64 y.kind, .string y.item, .int .i64 y.qty, .int .i64 y.level, .int .i64 y.undos] 84)).cell? ⟨b2, off2 + k * 8 + 3, none⟩ = some (.int .i64 y.kind) ∧ (z0.alloc (.cells #[.int .i64 y.dev, .int .i64 y.seq, .int .i64 y.stamp, .int .i64 y.kind, .string y.item, .int .i64 y.qty, .int .i64 y.level, .int .i64 y.undos] 84)).cell? ⟨b2, off2 + k * 8 + 4, none⟩ = some (.string y.item) ∧ (z0.alloc (.cells #[.int .i64 y.dev, .int .i64 y.seq, .int .i64 y.stamp, .int .i64 y.kind, .string y.item, .int .i64 y.qty, .int .i64 y.level, .int .i64 y.undos] 84)).cell? ⟨b2, off2 + k * 8 + 5, none⟩ = some (.int .i64 y.qty) ∧ (z0.alloc (.cells #[.int .i64 y.dev, .int .i64 y.seq, .int .i64 y.stamp, .int .i64 y.kind, .string y.item, .int .i64 y.qty, .int .i64 y.level, .int .i64 y.undos] 84)).cell? ⟨b2, off2 + k * 8 + 6, none⟩ = some (.int .i64 y.level) ∧ (z0.alloc (.cells #[.int .i64 y.dev, .int .i64 y.seq, .int .i64 y.stamp, .int .i64 y.kind, .string y.item, .int .i64 y.qty, .int .i64 y.level, .int .i64 y.undos] 84)).cell? ⟨b2, off2 + k * 8 + 7, none⟩ = some (.int .i64 y.undos) := ⟨(hbz1.cell (by show w.heap.size + 1 < ob; omega)).trans hS.1, (hbz1.cell (by show b2 < ob; omega)).trans hS.2.1, (hbz1.cell (by show b2 < ob; omega)).trans hS.2.2.1, (hbz1.cell (by show b2 < ob; omega)).trans hS.2.2.2.1, (hbz1.cell (by show b2 < ob; omega)).trans hS.2.2.2.2.1, (hbz1.cell (by show b2 < ob; omega)).trans hS.2.2.2.2.2.1, (hbz1.cell (by show b2 < ob; omega)).trans hS.2.2.2.2.2.2.1, (hbz1.cell (by show b2 < ob; omega)).trans hS.2.2.2.2.2.2.2.1, (hbz1.cell (by show b2 < ob; omega)).trans hS.2.2.2.2.2.2.2.2⟩
    have hS2 : z2.cell? ⟨w.heap.size + 1, 1, none⟩ = some (.slice (some ⟨b2, off2, none⟩) mo eo) ∧ z2.cell? ⟨b2, off2 + k * 8, none⟩ = some (.int .i64 y.dev) ∧ z2.cell? ⟨b2, off2 + k * 8 + 1, none⟩ = some (.int .i64 y.seq) ∧ z2.cell? ⟨b2, off2 + k * 8 + 2, none⟩ = some (.int .i64 y.stamp) ∧ z2.cell? ⟨b2, off2 + k * 8 + 3, none⟩ = some (.int .i64 y.kind) ∧ z2.cell? ⟨b2, off2 + k * 8 + 4, none⟩ = some (.string y.item) ∧ z2.cell? ⟨b2, off2 + k * 8 + 5, none⟩ = some (.int .i64 y.qty) ∧ z2.cell? ⟨b2, off2 + k * 8 + 6, none⟩ = some (.int .i64 y.level) ∧ z2.cell? ⟨b2, off2 + k * 8 + 7, none⟩ = some (.int .i64 y.undos) := ⟨(hbz2.cell (by show w.heap.size + 1 < ob; omega)).trans hS.1, (hbz2.cell (by show b2 < ob; omega)).trans hS.2.1, (hbz2.cell (by show b2 < ob; omega)).trans hS.2.2.1, (hbz2.cell (by show b2 < ob; omega)).trans hS.2.2.2.1, (hbz2.cell (by show b2 < ob; omega)).trans hS.2.2.2.2.1, (hbz2.cell (by show b2 < ob; omega)).trans hS.2.2.2.2.2.1, (hbz2.cell (by show b2 < ob; omega)).trans hS.2.2.2.2.2.2.1, (hbz2.cell (by show b2 < ob; omega)).trans hS.2.2.2.2.2.2.2.1, (hbz2.cell (by show b2 < ob; omega)).trans hS.2.2.2.2.2.2.2.2⟩
    have hS3 : (z2.setCell ⟨ob, 1, none⟩ (.slice va2 (L.length + 1) vc2)).cell? ⟨w.heap.size + 1, 1, none⟩ = some (.slice (some ⟨b2, off2, none⟩) mo eo) ∧ (z2.setCell ⟨ob, 1, none⟩ (.slice va2 (L.length + 1) vc2)).cell? ⟨b2, off2 + k * 8, none⟩ = some (.int .i64 y.dev) ∧ (z2.setCell ⟨ob, 1, none⟩ (.slice va2 (L.length + 1) vc2)).cell? ⟨b2, off2 + k * 8 + 1, none⟩ = some (.int .i64 y.seq) ∧ (z2.setCell ⟨ob, 1, none⟩ (.slice va2 (L.length + 1) vc2)).cell? ⟨b2, off2 + k * 8 + 2, none⟩ = some (.int .i64 y.stamp) ∧ (z2.setCell ⟨ob, 1, none⟩ (.slice va2 (L.length + 1) vc2)).cell? ⟨b2, off2 + k * 8 + 3, none⟩ = some (.int .i64 y.kind) ∧ (z2.setCell ⟨ob, 1, none⟩ (.slice va2 (L.length + 1) vc2)).cell? ⟨b2, off2 + k * 8 + 4, none⟩ = some (.string y.item) ∧ (z2.setCell ⟨ob, 1, none⟩ (.slice va2 (L.length + 1) vc2)).cell? ⟨b2, off2 + k * 8 + 5, none⟩ = some (.int .i64 y.qty) ∧ (z2.setCell ⟨ob, 1, none⟩ (.slice va2 (L.length + 1) vc2)).cell? ⟨b2, off2 + k * 8 + 6, none⟩ = some (.int .i64 y.level) ∧ (z2.setCell ⟨ob, 1, none⟩ (.slice va2 (L.length + 1) vc2)).cell? ⟨b2, off2 + k * 8 + 7, none⟩ = some (.int .i64 y.undos) := ⟨(hbz3.cell (by show w.heap.size + 1 < ob; omega)).trans hS.1, (hbz3.cell (by show b2 < ob; omega)).trans hS.2.1, (hbz3.cell (by show b2 < ob; omega)).trans hS.2.2.1, (hbz3.cell (by show b2 < ob; omega)).trans hS.2.2.2.1, (hbz3.cell (by show b2 < ob; omega)).trans hS.2.2.2.2.1, (hbz3.cell (by show b2 < ob; omega)).trans hS.2.2.2.2.2.1, (hbz3.cell (by show b2 < ob; omega)).trans hS.2.2.2.2.2.2.1, (hbz3.cell (by show b2 < ob; omega)).trans hS.2.2.2.2.2.2.2.1, (hbz3.cell (by show b2 < ob; omega)).trans hS.2.2.2.2.2.2.2.2⟩
    clear hSw HOB HROW row0 hb0z
    go_wp2_with fail
    refine wp_region_held_drew (S := fun w' => w'.cell? ⟨w.heap.size + 1, 1, none⟩ = some (.slice (some ⟨b2, off2, none⟩) mo eo) ∧ w'.cell? ⟨b2, off2 + k * 8, none⟩ = some (.int .i64 y.dev) ∧ w'.cell? ⟨b2, off2 + k * 8 + 1, none⟩ = some (.int .i64 y.seq) ∧ w'.cell? ⟨b2, off2 + k * 8 + 2, none⟩ = some (.int .i64 y.stamp) ∧ w'.cell? ⟨b2, off2 + k * 8 + 3, none⟩ = some (.int .i64 y.kind) ∧ w'.cell? ⟨b2, off2 + k * 8 + 4, none⟩ = some (.string y.item) ∧ w'.cell? ⟨b2, off2 + k * 8 + 5, none⟩ = some (.int .i64 y.qty) ∧ w'.cell? ⟨b2, off2 + k * 8 + 6, none⟩ = some (.int .i64 y.level) ∧ w'.cell? ⟨b2, off2 + k * 8 + 7, none⟩ = some (.int .i64 y.undos)) (by kernel_rfl) (by rw [hz0e]; exact hS) (fun hHeld => ?_)
    rw [hz0e]
    clear hHeld
    refine tj 0 ?_
    refine tj 2 ?_
    refine tj 3 ?_
    refine tj 4 ?_
    refine tj 5 ?_
    refine tj 6 ?_
    refine wpAnyH_ready (rs := [1, 7]) (by kernel_rfl) (by simp) ?_
    refine AllReadyH.cons rfl (fun K hK => ?_) (AllReadyH.cons rfl (fun K hK => ?_) AllReadyH.nil)
    all_goals go_simp
    ·refine hK.out _ _ hSd (fun hHeld7 => ?_)
     clear hK K
     (try simp only [Act.put, u1, u2, u3])
     refine rk 7 rfl (fun K hK => ?_)
     go_simp
     refine hK.out _ _ hS1 (fun hHeld6 => ?_)
     clear hK K
     (try simp only [Act.put, u1, u2, u3])
     refine rk 8 rfl (fun K hK => ?_)
     rw [if_pos (by rfl)]
     refine opwp_append _ _ _ rfl _ _ rfl rfl hrun ?_
     refine hK.out _ _ hS2 (fun hHeld8 => ?_)
     clear hK K
     (try simp only [Act.put, u1, u2, u3])
     refine tj 9 ?_
     refine rk 10 rfl (fun K hK => ?_)
     go_simp
     refine hK.out _ _ hS3 (fun hHeld9 => ?_)
     clear hK K
     (try simp only [Act.put, u1, u2, u3])
     refine wpAnyH_done (by kernel_rfl) ?_ _
     have HOn : Hid (OutL ob (some ⟨vb, vo, none⟩) zc zs (mergeF l m) w2 (z2.setCell ⟨ob, 1, none⟩ (.slice va2 (L.length + 1) vc2)) d (s + 1)) := by
      show OutL _ _ _ _ _ _ _ _ _
      unfold OutL
      rw [HSt.out, HFy.out, opCells_snoc, List.length_append]
      exact ⟨va2, vc2, HBOX3.out, HROW3.out, HBL.out.trans HBEL3.out⟩
     clear HBOX3 HROW3 HBEL3 hSd hS1 hS2 hS3 hS ob0 ob1 ob2 o1 o11 o12 fz2 hrun hown2 hgr row1 hbz1 hbz2 hbz3 hHeld6 hHeld7 hHeld8 hHeld9
     go_wp2
     go_roundw
     case rel => exact ⟨s + 1, by omega, by go_num, HOn, HE⟩
     case measure => simp [intOf]; omega
    ·refine hK.out _ _ hS1 (fun hHeld7 => ?_)
     clear hK K
     (try simp only [Act.put, u1, u2, u3])
     refine rk 1 rfl (fun K hK => ?_)
     go_simp
     refine hK.out _ _ hS1 (fun hHeld6 => ?_)
     clear hK K
     (try simp only [Act.put, u1, u2, u3])
     refine rk 8 rfl (fun K hK => ?_)
     rw [if_pos (by rfl)]
     refine opwp_append _ _ _ rfl _ _ rfl rfl hrun ?_
     refine hK.out _ _ hS2 (fun hHeld8 => ?_)
     clear hK K
     (try simp only [Act.put, u1, u2, u3])
     refine tj 9 ?_
     refine rk 10 rfl (fun K hK => ?_)
     go_simp
     refine hK.out _ _ hS3 (fun hHeld9 => ?_)
     clear hK K
     (try simp only [Act.put, u1, u2, u3])
     refine wpAnyH_done (by kernel_rfl) ?_ _
     have HOn : Hid (OutL ob (some ⟨vb, vo, none⟩) zc zs (mergeF l m) w2 (z2.setCell ⟨ob, 1, none⟩ (.slice va2 (L.length + 1) vc2)) d (s + 1)) := by
      show OutL _ _ _ _ _ _ _ _ _
      unfold OutL
      rw [HSt.out, HFy.out, opCells_snoc, List.length_append]
      exact ⟨va2, vc2, HBOX3.out, HROW3.out, HBL.out.trans HBEL3.out⟩
     clear HBOX3 HROW3 HBEL3 hSd hS1 hS2 hS3 hS ob0 ob1 ob2 o1 o11 o12 fz2 hrun hown2 hgr row1 hbz1 hbz2 hbz3 hHeld6 hHeld7 hHeld8 hHeld9
     go_wp2
     go_roundw
     case rel => exact ⟨s + 1, by omega, by go_num, HOn, HE⟩
     case measure => simp [intOf]; omega
   have HXi : Hid (getO l (d : Int) ((s : Int) + 1) = some (atOp l i)) := by
    show _ = _
    have := setF_hit (cart_inc HCa.out) l.length (Nat.le_refl _) i (by rw [HL.out]; exact hil)
    rw [hie.1, hie.2] at this
    exact this
   obtain ⟨b1', off1, rfl, hb1', ho1⟩ := HOr.out.2 i hil
   have HO7 : Hid (OpAt wr b1' (off1 + i * 8) (atOp l i)) := ho1
   have hii : (i : Int) < (no : Int) := by omega
   have hi0 : ¬ ((i : Int) < 0) := by omega
   clear ho1 hie
   generalize atOp l i = x at HXi HO7
   go_wp2_with fail
   refine (l4At wr B bo mo eo m (d : Int) ((s : Int) + 1) HGr.out hn2).mono ?_
   rintro e w5 ⟨hor, rfl⟩
   rcases hor with ⟨k, hkm, hke, rfl⟩ | ⟨hno, rfl⟩
   rotate_left
   ·have hg2 : getO m (d : Int) ((s : Int) + 1) = none := setF_miss _ fun j hj => hno j (by rw [← HLm.out]; exact hj)
    have HFy : Hid (mergeF l m d s = x) := by show _ = _; rw [HFds.out]; unfold joinAt; rw [HXi.out, hg2]
    have HE := Lib.hid (HOk3.out fun a b ha hb => by rw [hg2] at hb; cases hb)
    clear hno hg2
    obtain ⟨c0', c1', c2', c3', c4', c5', c6', c7'⟩ := HO7.out
    have hSw : wr.cell? ⟨w.heap.size, 1, none⟩ = some (.slice (some ⟨b1', off1, none⟩) no co) ∧ wr.cell? ⟨b1', off1 + i * 8, none⟩ = some (.int .i64 x.dev) ∧ wr.cell? ⟨b1', off1 + i * 8 + 1, none⟩ = some (.int .i64 x.seq) ∧ wr.cell? ⟨b1', off1 + i * 8 + 2, none⟩ = some (.int .i64 x.stamp) ∧ wr.cell? ⟨b1', off1 + i * 8 + 3, none⟩ = some (.int .i64 x.kind) ∧ wr.cell? ⟨b1', off1 + i * 8 + 4, none⟩ = some (.string x.item) ∧ wr.cell? ⟨b1', off1 + i * 8 + 5, none⟩ = some (.int .i64 x.qty) ∧ wr.cell? ⟨b1', off1 + i * 8 + 6, none⟩ = some (.int .i64 x.level) ∧ wr.cell? ⟨b1', off1 + i * 8 + 7, none⟩ = some (.int .i64 x.undos) := ⟨a1, c0', c1', c2', c3', c4', c5', c6', c7'⟩
    clear a0 a1 b0 b1 c0 o0 o1 c0' c1' c2' c3' c4' c5' c6' c7' HO7
    go_upto_region 16 with fail
    obtain ⟨z0, hz0e⟩ : ∃ z0, wr.drew = z0 := ⟨_, rfl⟩
    have hS : z0.cell? ⟨w.heap.size, 1, none⟩ = some (.slice (some ⟨b1', off1, none⟩) no co) ∧ z0.cell? ⟨b1', off1 + i * 8, none⟩ = some (.int .i64 x.dev) ∧ z0.cell? ⟨b1', off1 + i * 8 + 1, none⟩ = some (.int .i64 x.seq) ∧ z0.cell? ⟨b1', off1 + i * 8 + 2, none⟩ = some (.int .i64 x.stamp) ∧ z0.cell? ⟨b1', off1 + i * 8 + 3, none⟩ = some (.int .i64 x.kind) ∧ z0.cell? ⟨b1', off1 + i * 8 + 4, none⟩ = some (.string x.item) ∧ z0.cell? ⟨b1', off1 + i * 8 + 5, none⟩ = some (.int .i64 x.qty) ∧ z0.cell? ⟨b1', off1 + i * 8 + 6, none⟩ = some (.int .i64 x.level) ∧ z0.cell? ⟨b1', off1 + i * 8 + 7, none⟩ = some (.int .i64 x.undos) := ⟨by rw [← hz0e]; exact hSw.1, by rw [← hz0e]; exact hSw.2.1, by rw [← hz0e]; exact hSw.2.2.1, by rw [← hz0e]; exact hSw.2.2.2.1, by rw [← hz0e]; exact hSw.2.2.2.2.1, by rw [← hz0e]; exact hSw.2.2.2.2.2.1, by rw [← hz0e]; exact hSw.2.2.2.2.2.2.1, by rw [← hz0e]; exact hSw.2.2.2.2.2.2.2.1, by rw [← hz0e]; exact hSw.2.2.2.2.2.2.2.2⟩
    have ob0 : Hid (z0.heap[ob]? = some (.cells #[.slice (some ⟨vb, vo, none⟩) 4 zc, .slice oa L.length oc] 49 (0, 0))) := by rw [← hz0e]; exact HOB.out
    have row0 : z0.ownsRow (ob + 1) 84 8 (.slice oa L.length oc) L.length (opCells L) := by rw [← hz0e]; exact HROW.out
    have obl0 : ob < z0.heap.size := by rw [← hz0e]; exact hobl
    have hb0z : Hid (Below ob wr z0) := by rw [← hz0e]; exact ⟨rfl, rfl, rfl, Nat.le_refl _, fun _ _ => rfl⟩
    have o1 := (pair_cells ob0.out).2
    have row1 := row0.alloc (.cells #[.int .i64 x.dev, .int .i64 x.seq, .int .i64 x.stamp, .int .i64 x.kind, .string x.item, .int .i64 x.qty, .int .i64 x.level, .int .i64 x.undos] 84)
    have hbz1 : Below ob z0 (z0.alloc (.cells #[.int .i64 x.dev, .int .i64 x.seq, .int .i64 x.stamp, .int .i64 x.kind, .string x.item, .int .i64 x.qty, .int .i64 x.level, .int .i64 x.undos] 84)) := (Below.refl ob z0).alloc (by omega) _
    obtain ⟨v', z2, hrun, hown2, hgr, _⟩ := run_append_own (P := Tryz.prog) (z0.alloc (.cells #[.int .i64 x.dev, .int .i64 x.seq, .int .i64 x.stamp, .int .i64 x.kind, .string x.item, .int .i64 x.qty, .int .i64 x.level, .int .i64 x.undos] 84)) (ob + 1) 47 47 84 i0 (.agg #[.int .i64 0, .int .i64 0, .int .i64 0, .int .i64 0, .string ⟨#[]⟩, .int .i64 0, .int .i64 0, .int .i64 0]) 8 72 Tryz.underlying47 hi hz0 hz1 hz2 rfl (by decide) _ _ _ row1 ⟨z0.heap.size, 0, none⟩ 1 1 (opRow x) rfl (opRow_new z0 x) (fun u hu => opCells_one [x] u (by show u ∈ opRow x ++ []; rw [List.append_nil]; exact hu)) (by unfold maxLen; omega) (by omega) (by show _ ≤ (z0.heap.push _).size; simp; omega)
    have hbz2 : Below ob z0 z2 := hbz1.grown hgr (Nat.le_trans (by omega) hbz1.size) (fun q hq => by have := (row1.lt q hq).1; omega)
    obtain ⟨va2, vc2, rfl⟩ : ∃ va2 vc2, v' = .slice va2 (L.length + 1) vc2 := by
     rcases hown2.2 with ⟨_, e2⟩ | ⟨_, c2, _, e2, _⟩
     ·omega
     ·exact ⟨_, c2, e2⟩
    have ob1 : Hid ((z0.alloc (.cells #[.int .i64 x.dev, .int .i64 x.seq, .int .i64 x.stamp, .int .i64 x.kind, .string x.item, .int .i64 x.qty, .int .i64 x.level, .int .i64 x.undos] 84)).heap[ob]? = some (.cells #[.slice (some ⟨vb, vo, none⟩) 4 zc, .slice oa L.length oc] 49 (0, 0))) := (Below.heap_alloc _ _ _ obl0).trans ob0.out
    have ob2 : Hid (z2.heap[ob]? = some (.cells #[.slice (some ⟨vb, vo, none⟩) 4 zc, .slice oa L.length oc] 49 (0, 0))) := (hgr.block ob (by show _ < (z0.heap.push _).size; simp; omega) (fun h => by have := (row1.lt ob h.symm).1; omega)).trans ob1.out
    have o11 := (pair_cells ob1.out).2
    have o12 := (pair_cells ob2.out).2
    have fz2 := (pair_frozen ob2.out).2
    have HBOX3 : Hid ((z2.setCell ⟨ob, 1, none⟩ (.slice va2 (L.length + 1) vc2)).heap[ob]? = some (.cells #[.slice (some ⟨vb, vo, none⟩) 4 zc, .slice va2 (L.length + 1) vc2] 49 (0, 0))) := heap_setCell_same _ _ _ _ _ _ ob2.out
    have HROW3 : Hid ((z2.setCell ⟨ob, 1, none⟩ (.slice va2 (L.length + 1) vc2)).ownsRow (ob + 1) 84 8 (.slice va2 (L.length + 1) vc2) (L.length + 1) (opCells L ++ opRow x)) := row_put hown2 (fun q hq => by have := (hown2.lt q hq).1; omega)
    have hbz3 : Below ob z0 (z2.setCell ⟨ob, 1, none⟩ (.slice va2 (L.length + 1) vc2)) := hbz2.setCell (Nat.le_refl _) _
    have HBEL3 : Hid (Below ob wr (z2.setCell ⟨ob, 1, none⟩ (.slice va2 (L.length + 1) vc2))) := hb0z.out.trans hbz3
    have hSd : z0.cell? ⟨w.heap.size, 1, none⟩ = some (.slice (some ⟨b1', off1, none⟩) no co) ∧ z0.cell? ⟨b1', off1 + i * 8, none⟩ = some (.int .i64 x.dev) ∧ z0.cell? ⟨b1', off1 + i * 8 + 1, none⟩ = some (.int .i64 x.seq) ∧ z0.cell? ⟨b1', off1 + i * 8 + 2, none⟩ = some (.int .i64 x.stamp) ∧ z0.cell? ⟨b1', off1 + i * 8 + 3, none⟩ = some (.int .i64 x.kind) ∧ z0.cell? ⟨b1', off1 + i * 8 + 4, none⟩ = some (.string x.item) ∧ z0.cell? ⟨b1', off1 + i * 8 + 5, none⟩ = some (.int .i64 x.qty) ∧ z0.cell? ⟨b1', off1 + i * 8 + 6, none⟩ = some (.int .i64 x.level) ∧ z0.cell? ⟨b1', off1 + i * 8 + 7, none⟩ = some (.int .i64 x.undos) := hS
    have hS1 : (z0.alloc (.cells #[.int .i64 x.dev, .int .i64 x.seq, .int .i64 x.stamp, .int .i64 x.kind, .string x.item, .int .i64 x.qty, .int .i64 x.level, .int .i64 x.undos] 84)).cell? ⟨w.heap.size, 1, none⟩ = some (.slice (some ⟨b1', off1, none⟩) no co) ∧ (z0.alloc (.cells #[.int .i64 x.dev, .int .i64 x.seq, .int .i64 x.stamp, .int .i64 x.kind, .string x.item, .int .i64 x.qty, .int .i64 x.level, .int .i64 x.undos] 84)).cell? ⟨b1', off1 + i * 8, none⟩ = some (.int .i64 x.dev) ∧ (z0.alloc (.cells #[.int .i64 x.dev, .int .i64 x.seq, .int .i64 x.stamp, .int .i64 x.kind, .string x.item, .int .i64 x.qty, .int .i64 x.level, .int .i64 x.undos] 84)).cell? ⟨b1', off1 + i * 8 + 1, none⟩ = some (.int .i64 x.seq) ∧ (z0.alloc (.cells #[.int .i64 x.dev, .int .i64 x.seq, .int .i64 x.stamp, .int .i64 x.kind, .string x.item, .int .i64 x.qty, .int .i64 x.level, .int .i64 x.undos] 84)).cell? ⟨b1', off1 + i * 8 + 2, none⟩ = some (.int .i64 x.stamp) ∧ (z0.alloc (.cells #[.int .i64 x.dev, .int .i64 x.seq, .int .i64 x.stamp, .int .i64 x.kind, .string x.item, .int .i64 x.qty, .int .i64 x.level, .int .i64 x.undos] 84)).cell? ⟨b1', off1 + i * 8 + 3, none⟩ = some (.int .i64 x.kind) ∧ (z0.alloc (.cells #[.int .i64 x.dev, .int .i64 x.seq, .int .i64 x.stamp, .int .i64 x.kind, .string x.item, .int .i64 x.qty, .int .i64 x.level, .int .i64 x.undos] 84)).cell? ⟨b1', off1 + i * 8 + 4, none⟩ = some (.string x.item) ∧ (z0.alloc (.cells #[.int .i64 x.dev, .int .i64 x.seq, .int .i64 x.stamp, .int .i64 x.kind, .string x.item, .int .i64 x.qty, .int .i64 x.level, .int .i64 x.undos] 84)).cell? ⟨b1', off1 + i * 8 + 5, none⟩ = some (.int .i64 x.qty) ∧ (z0.alloc (.cells #[.int .i64 x.dev, .int .i64 x.seq, .int .i64 x.stamp, .int .i64 x.kind, .string x.item, .int .i64 x.qty, .int .i64 x.level, .int .i64 x.undos] 84)).cell? ⟨b1', off1 + i * 8 + 6, none⟩ = some (.int .i64 x.level) ∧ (z0.alloc (.cells #[.int .i64 x.dev, .int .i64 x.seq, .int .i64 x.stamp, .int .i64 x.kind, .string x.item, .int .i64 x.qty, .int .i64 x.level, .int .i64 x.undos] 84)).cell? ⟨b1', off1 + i * 8 + 7, none⟩ = some (.int .i64 x.undos) := ⟨(hbz1.cell (by show w.heap.size < ob; omega)).trans hS.1, (hbz1.cell (by show b1' < ob; omega)).trans hS.2.1, (hbz1.cell (by show b1' < ob; omega)).trans hS.2.2.1, (hbz1.cell (by show b1' < ob; omega)).trans hS.2.2.2.1, (hbz1.cell (by show b1' < ob; omega)).trans hS.2.2.2.2.1, (hbz1.cell (by show b1' < ob; omega)).trans hS.2.2.2.2.2.1, (hbz1.cell (by show b1' < ob; omega)).trans hS.2.2.2.2.2.2.1, (hbz1.cell (by show b1' < ob; omega)).trans hS.2.2.2.2.2.2.2.1, (hbz1.cell (by show b1' < ob; omega)).trans hS.2.2.2.2.2.2.2.2⟩
    have hS2 : z2.cell? ⟨w.heap.size, 1, none⟩ = some (.slice (some ⟨b1', off1, none⟩) no co) ∧ z2.cell? ⟨b1', off1 + i * 8, none⟩ = some (.int .i64 x.dev) ∧ z2.cell? ⟨b1', off1 + i * 8 + 1, none⟩ = some (.int .i64 x.seq) ∧ z2.cell? ⟨b1', off1 + i * 8 + 2, none⟩ = some (.int .i64 x.stamp) ∧ z2.cell? ⟨b1', off1 + i * 8 + 3, none⟩ = some (.int .i64 x.kind) ∧ z2.cell? ⟨b1', off1 + i * 8 + 4, none⟩ = some (.string x.item) ∧ z2.cell? ⟨b1', off1 + i * 8 + 5, none⟩ = some (.int .i64 x.qty) ∧ z2.cell? ⟨b1', off1 + i * 8 + 6, none⟩ = some (.int .i64 x.level) ∧ z2.cell? ⟨b1', off1 + i * 8 + 7, none⟩ = some (.int .i64 x.undos) := ⟨(hbz2.cell (by show w.heap.size < ob; omega)).trans hS.1, (hbz2.cell (by show b1' < ob; omega)).trans hS.2.1, (hbz2.cell (by show b1' < ob; omega)).trans hS.2.2.1, (hbz2.cell (by show b1' < ob; omega)).trans hS.2.2.2.1, (hbz2.cell (by show b1' < ob; omega)).trans hS.2.2.2.2.1, (hbz2.cell (by show b1' < ob; omega)).trans hS.2.2.2.2.2.1, (hbz2.cell (by show b1' < ob; omega)).trans hS.2.2.2.2.2.2.1, (hbz2.cell (by show b1' < ob; omega)).trans hS.2.2.2.2.2.2.2.1, (hbz2.cell (by show b1' < ob; omega)).trans hS.2.2.2.2.2.2.2.2⟩
    have hS3 : (z2.setCell ⟨ob, 1, none⟩ (.slice va2 (L.length + 1) vc2)).cell? ⟨w.heap.size, 1, none⟩ = some (.slice (some ⟨b1', off1, none⟩) no co) ∧ (z2.setCell ⟨ob, 1, none⟩ (.slice va2 (L.length + 1) vc2)).cell? ⟨b1', off1 + i * 8, none⟩ = some (.int .i64 x.dev) ∧ (z2.setCell ⟨ob, 1, none⟩ (.slice va2 (L.length + 1) vc2)).cell? ⟨b1', off1 + i * 8 + 1, none⟩ = some (.int .i64 x.seq) ∧ (z2.setCell ⟨ob, 1, none⟩ (.slice va2 (L.length + 1) vc2)).cell? ⟨b1', off1 + i * 8 + 2, none⟩ = some (.int .i64 x.stamp) ∧ (z2.setCell ⟨ob, 1, none⟩ (.slice va2 (L.length + 1) vc2)).cell? ⟨b1', off1 + i * 8 + 3, none⟩ = some (.int .i64 x.kind) ∧ (z2.setCell ⟨ob, 1, none⟩ (.slice va2 (L.length + 1) vc2)).cell? ⟨b1', off1 + i * 8 + 4, none⟩ = some (.string x.item) ∧ (z2.setCell ⟨ob, 1, none⟩ (.slice va2 (L.length + 1) vc2)).cell? ⟨b1', off1 + i * 8 + 5, none⟩ = some (.int .i64 x.qty) ∧ (z2.setCell ⟨ob, 1, none⟩ (.slice va2 (L.length + 1) vc2)).cell? ⟨b1', off1 + i * 8 + 6, none⟩ = some (.int .i64 x.level) ∧ (z2.setCell ⟨ob, 1, none⟩ (.slice va2 (L.length + 1) vc2)).cell? ⟨b1', off1 + i * 8 + 7, none⟩ = some (.int .i64 x.undos) := ⟨(hbz3.cell (by show w.heap.size < ob; omega)).trans hS.1, (hbz3.cell (by show b1' < ob; omega)).trans hS.2.1, (hbz3.cell (by show b1' < ob; omega)).trans hS.2.2.1, (hbz3.cell (by show b1' < ob; omega)).trans hS.2.2.2.1, (hbz3.cell (by show b1' < ob; omega)).trans hS.2.2.2.2.1, (hbz3.cell (by show b1' < ob; omega)).trans hS.2.2.2.2.2.1, (hbz3.cell (by show b1' < ob; omega)).trans hS.2.2.2.2.2.2.1, (hbz3.cell (by show b1' < ob; omega)).trans hS.2.2.2.2.2.2.2.1, (hbz3.cell (by show b1' < ob; omega)).trans hS.2.2.2.2.2.2.2.2⟩
    clear hSw HOB HROW row0 hb0z
    go_wp2_with fail
    refine wp_region_held_drew (S := fun w' => w'.cell? ⟨w.heap.size, 1, none⟩ = some (.slice (some ⟨b1', off1, none⟩) no co) ∧ w'.cell? ⟨b1', off1 + i * 8, none⟩ = some (.int .i64 x.dev) ∧ w'.cell? ⟨b1', off1 + i * 8 + 1, none⟩ = some (.int .i64 x.seq) ∧ w'.cell? ⟨b1', off1 + i * 8 + 2, none⟩ = some (.int .i64 x.stamp) ∧ w'.cell? ⟨b1', off1 + i * 8 + 3, none⟩ = some (.int .i64 x.kind) ∧ w'.cell? ⟨b1', off1 + i * 8 + 4, none⟩ = some (.string x.item) ∧ w'.cell? ⟨b1', off1 + i * 8 + 5, none⟩ = some (.int .i64 x.qty) ∧ w'.cell? ⟨b1', off1 + i * 8 + 6, none⟩ = some (.int .i64 x.level) ∧ w'.cell? ⟨b1', off1 + i * 8 + 7, none⟩ = some (.int .i64 x.undos)) (by kernel_rfl) (by rw [hz0e]; exact hS) (fun hHeld => ?_)
    rw [hz0e]
    clear hHeld
    refine tj 0 ?_
    refine tj 2 ?_
    refine tj 3 ?_
    refine tj 4 ?_
    refine tj 5 ?_
    refine tj 6 ?_
    refine wpAnyH_ready (rs := [1, 7]) (by kernel_rfl) (by simp) ?_
    refine AllReadyH.cons rfl (fun K hK => ?_) (AllReadyH.cons rfl (fun K hK => ?_) AllReadyH.nil)
    all_goals go_simp
    ·refine hK.out _ _ hSd (fun hHeld7 => ?_)
     clear hK K
     (try simp only [Act.put, u1, u2, u3])
     refine rk 7 rfl (fun K hK => ?_)
     go_simp
     refine hK.out _ _ hS1 (fun hHeld6 => ?_)
     clear hK K
     (try simp only [Act.put, u1, u2, u3])
     refine rk 8 rfl (fun K hK => ?_)
     rw [if_pos (by rfl)]
     refine opwp_append _ _ _ rfl _ _ rfl rfl hrun ?_
     refine hK.out _ _ hS2 (fun hHeld8 => ?_)
     clear hK K
     (try simp only [Act.put, u1, u2, u3])
     refine tj 9 ?_
     refine rk 10 rfl (fun K hK => ?_)
     go_simp
     refine hK.out _ _ hS3 (fun hHeld9 => ?_)
     clear hK K
     (try simp only [Act.put, u1, u2, u3])
     refine wpAnyH_done (by kernel_rfl) ?_ _
     have HOn : Hid (OutL ob (some ⟨vb, vo, none⟩) zc zs (mergeF l m) w2 (z2.setCell ⟨ob, 1, none⟩ (.slice va2 (L.length + 1) vc2)) d (s + 1)) := by
      show OutL _ _ _ _ _ _ _ _ _
      unfold OutL
      rw [HSt.out, HFy.out, opCells_snoc, List.length_append]
      exact ⟨va2, vc2, HBOX3.out, HROW3.out, HBL.out.trans HBEL3.out⟩
     clear HBOX3 HROW3 HBEL3 hSd hS1 hS2 hS3 hS ob0 ob1 ob2 o1 o11 o12 fz2 hrun hown2 hgr row1 hbz1 hbz2 hbz3 hHeld6 hHeld7 hHeld8 hHeld9
     go_wp2
     go_roundw
     case rel => exact ⟨s + 1, by omega, by go_num, HOn, HE⟩
     case measure => simp [intOf]; omega
    ·refine hK.out _ _ hS1 (fun hHeld7 => ?_)
     clear hK K
     (try simp only [Act.put, u1, u2, u3])
     refine rk 1 rfl (fun K hK => ?_)
     go_simp
     refine hK.out _ _ hS1 (fun hHeld6 => ?_)
     clear hK K
     (try simp only [Act.put, u1, u2, u3])
     refine rk 8 rfl (fun K hK => ?_)
     rw [if_pos (by rfl)]
     refine opwp_append _ _ _ rfl _ _ rfl rfl hrun ?_
     refine hK.out _ _ hS2 (fun hHeld8 => ?_)
     clear hK K
     (try simp only [Act.put, u1, u2, u3])
     refine tj 9 ?_
     refine rk 10 rfl (fun K hK => ?_)
     go_simp
     refine hK.out _ _ hS3 (fun hHeld9 => ?_)
     clear hK K
     (try simp only [Act.put, u1, u2, u3])
     refine wpAnyH_done (by kernel_rfl) ?_ _
     have HOn : Hid (OutL ob (some ⟨vb, vo, none⟩) zc zs (mergeF l m) w2 (z2.setCell ⟨ob, 1, none⟩ (.slice va2 (L.length + 1) vc2)) d (s + 1)) := by
      show OutL _ _ _ _ _ _ _ _ _
      unfold OutL
      rw [HSt.out, HFy.out, opCells_snoc, List.length_append]
      exact ⟨va2, vc2, HBOX3.out, HROW3.out, HBL.out.trans HBEL3.out⟩
     clear HBOX3 HROW3 HBEL3 hSd hS1 hS2 hS3 hS ob0 ob1 ob2 o1 o11 o12 fz2 hrun hown2 hgr row1 hbz1 hbz2 hbz3 hHeld6 hHeld7 hHeld8 hHeld9
     go_wp2
     go_roundw
     case rel => exact ⟨s + 1, by omega, by go_num, HOn, HE⟩
     case measure => simp [intOf]; omega
   obtain ⟨b2, off2, rfl, hb2, ho2⟩ := HGr.out.2 k hkm
   have HO8 : Hid (OpAt wr b2 (off2 + k * 8) (atOp m k)) := ho2
   have HYk : Hid (getO m (d : Int) ((s : Int) + 1) = some (atOp m k)) := by
    show _ = _
    have := setF_hit (cart_inc HCb.out) m.length (Nat.le_refl _) k (by rw [HLm.out]; exact hkm)
    rw [hke.1, hke.2] at this
    exact this
   have HStop : Hid (sameB x (atOp m k) = false → okM l m = false) := fun h => okP_stop (by rw [HLm.out]; exact hkm) rfl hke HXi.out h
   have hki : (k : Int) < (mo : Int) := by omega
   have hk0 : ¬ ((k : Int) < 0) := by omega
   clear ho2 hke
   generalize atOp m k = y at HO8 HYk HStop
   obtain ⟨c0', c1', c2', c3', c4', c5', c6', c7'⟩ := HO7.out
   obtain ⟨e0', e1', e2', e3', e4', e5', e6', e7'⟩ := HO8.out
   have hS : wr.drew.cell? ⟨w.heap.size, 1, none⟩ = some (.slice (some ⟨b1', off1, none⟩) no co) ∧ wr.drew.cell? ⟨w.heap.size + 1, 1, none⟩ = some (.slice (some ⟨b2, off2, none⟩) mo eo) ∧ (wr.drew.cell? ⟨b1', off1 + i * 8, none⟩ = some (.int .i64 x.dev) ∧ wr.drew.cell? ⟨b1', off1 + i * 8 + 1, none⟩ = some (.int .i64 x.seq) ∧ wr.drew.cell? ⟨b1', off1 + i * 8 + 2, none⟩ = some (.int .i64 x.stamp) ∧ wr.drew.cell? ⟨b1', off1 + i * 8 + 3, none⟩ = some (.int .i64 x.kind) ∧ wr.drew.cell? ⟨b1', off1 + i * 8 + 4, none⟩ = some (.string x.item) ∧ wr.drew.cell? ⟨b1', off1 + i * 8 + 5, none⟩ = some (.int .i64 x.qty) ∧ wr.drew.cell? ⟨b1', off1 + i * 8 + 6, none⟩ = some (.int .i64 x.level) ∧ wr.drew.cell? ⟨b1', off1 + i * 8 + 7, none⟩ = some (.int .i64 x.undos)) ∧ wr.drew.cell? ⟨b2, off2 + k * 8, none⟩ = some (.int .i64 y.dev) ∧ wr.drew.cell? ⟨b2, off2 + k * 8 + 1, none⟩ = some (.int .i64 y.seq) ∧ wr.drew.cell? ⟨b2, off2 + k * 8 + 2, none⟩ = some (.int .i64 y.stamp) ∧ wr.drew.cell? ⟨b2, off2 + k * 8 + 3, none⟩ = some (.int .i64 y.kind) ∧ wr.drew.cell? ⟨b2, off2 + k * 8 + 4, none⟩ = some (.string y.item) ∧ wr.drew.cell? ⟨b2, off2 + k * 8 + 5, none⟩ = some (.int .i64 y.qty) ∧ wr.drew.cell? ⟨b2, off2 + k * 8 + 6, none⟩ = some (.int .i64 y.level) ∧ wr.drew.cell? ⟨b2, off2 + k * 8 + 7, none⟩ = some (.int .i64 y.undos) := ⟨a1, b1, ⟨c0', c1', c2', c3', c4', c5', c6', c7'⟩, e0', e1', e2', e3', e4', e5', e6', e7'⟩
   clear a0 a1 b0 b1 c0 o0 o1 c0' c1' c2' c3' c4' c5' c6' c7' e0' e1' e2' e3' e4' e5' e6' e7' HO7 HO8 HOr HGr
   go_upto_region 17 with fail
   have HTd := Lib.hid (HTr.out)
   rcases hsm : sameB x y with _ | _
   ·have HNo := Lib.hid (HStop.out hsm)
    have HSm := Lib.hid hsm
    clear hsm
    go_wp2_with fail
    refine wp_region_held_drew (S := fun w' => w'.cell? ⟨w.heap.size, 1, none⟩ = some (.slice (some ⟨b1', off1, none⟩) no co) ∧ w'.cell? ⟨w.heap.size + 1, 1, none⟩ = some (.slice (some ⟨b2, off2, none⟩) mo eo) ∧ (w'.cell? ⟨b1', off1 + i * 8, none⟩ = some (.int .i64 x.dev) ∧ w'.cell? ⟨b1', off1 + i * 8 + 1, none⟩ = some (.int .i64 x.seq) ∧ w'.cell? ⟨b1', off1 + i * 8 + 2, none⟩ = some (.int .i64 x.stamp) ∧ w'.cell? ⟨b1', off1 + i * 8 + 3, none⟩ = some (.int .i64 x.kind) ∧ w'.cell? ⟨b1', off1 + i * 8 + 4, none⟩ = some (.string x.item) ∧ w'.cell? ⟨b1', off1 + i * 8 + 5, none⟩ = some (.int .i64 x.qty) ∧ w'.cell? ⟨b1', off1 + i * 8 + 6, none⟩ = some (.int .i64 x.level) ∧ w'.cell? ⟨b1', off1 + i * 8 + 7, none⟩ = some (.int .i64 x.undos)) ∧ w'.cell? ⟨b2, off2 + k * 8, none⟩ = some (.int .i64 y.dev) ∧ w'.cell? ⟨b2, off2 + k * 8 + 1, none⟩ = some (.int .i64 y.seq) ∧ w'.cell? ⟨b2, off2 + k * 8 + 2, none⟩ = some (.int .i64 y.stamp) ∧ w'.cell? ⟨b2, off2 + k * 8 + 3, none⟩ = some (.int .i64 y.kind) ∧ w'.cell? ⟨b2, off2 + k * 8 + 4, none⟩ = some (.string y.item) ∧ w'.cell? ⟨b2, off2 + k * 8 + 5, none⟩ = some (.int .i64 y.qty) ∧ w'.cell? ⟨b2, off2 + k * 8 + 6, none⟩ = some (.int .i64 y.level) ∧ w'.cell? ⟨b2, off2 + k * 8 + 7, none⟩ = some (.int .i64 y.undos)) (by kernel_rfl) hS (fun hHeld => ?_)
    refine tj 0 ?_
    refine tj 1 ?_
    refine tj 2 ?_
    refine tj 3 ?_
    refine tj 4 ?_
    refine tj 5 ?_
    refine tj 6 ?_
    refine tj 7 ?_
    refine tj 8 ?_
    refine tj 9 ?_
    refine rk 10 rfl (fun K hK => ?_)
    go_simp
    go_at_call 106
    refine (l4Same x y wr.drew).mono ?_
    rintro e w5 ⟨rfl, hb5⟩
    rw [HSm.out]
    have hS5 : w5.cell? ⟨w.heap.size, 1, none⟩ = some (.slice (some ⟨b1', off1, none⟩) no co) ∧ w5.cell? ⟨w.heap.size + 1, 1, none⟩ = some (.slice (some ⟨b2, off2, none⟩) mo eo) ∧ (w5.cell? ⟨b1', off1 + i * 8, none⟩ = some (.int .i64 x.dev) ∧ w5.cell? ⟨b1', off1 + i * 8 + 1, none⟩ = some (.int .i64 x.seq) ∧ w5.cell? ⟨b1', off1 + i * 8 + 2, none⟩ = some (.int .i64 x.stamp) ∧ w5.cell? ⟨b1', off1 + i * 8 + 3, none⟩ = some (.int .i64 x.kind) ∧ w5.cell? ⟨b1', off1 + i * 8 + 4, none⟩ = some (.string x.item) ∧ w5.cell? ⟨b1', off1 + i * 8 + 5, none⟩ = some (.int .i64 x.qty) ∧ w5.cell? ⟨b1', off1 + i * 8 + 6, none⟩ = some (.int .i64 x.level) ∧ w5.cell? ⟨b1', off1 + i * 8 + 7, none⟩ = some (.int .i64 x.undos)) ∧ w5.cell? ⟨b2, off2 + k * 8, none⟩ = some (.int .i64 y.dev) ∧ w5.cell? ⟨b2, off2 + k * 8 + 1, none⟩ = some (.int .i64 y.seq) ∧ w5.cell? ⟨b2, off2 + k * 8 + 2, none⟩ = some (.int .i64 y.stamp) ∧ w5.cell? ⟨b2, off2 + k * 8 + 3, none⟩ = some (.int .i64 y.kind) ∧ w5.cell? ⟨b2, off2 + k * 8 + 4, none⟩ = some (.string y.item) ∧ w5.cell? ⟨b2, off2 + k * 8 + 5, none⟩ = some (.int .i64 y.qty) ∧ w5.cell? ⟨b2, off2 + k * 8 + 6, none⟩ = some (.int .i64 y.level) ∧ w5.cell? ⟨b2, off2 + k * 8 + 7, none⟩ = some (.int .i64 y.undos) := ⟨(hb5.cell (block_lt_of_cell hS.1)).trans hS.1, (hb5.cell (block_lt_of_cell hS.2.1)).trans hS.2.1, ⟨(hb5.cell (block_lt_of_cell hS.2.2.1.1)).trans hS.2.2.1.1, (hb5.cell (block_lt_of_cell hS.2.2.1.2.1)).trans hS.2.2.1.2.1, (hb5.cell (block_lt_of_cell hS.2.2.1.2.2.1)).trans hS.2.2.1.2.2.1, (hb5.cell (block_lt_of_cell hS.2.2.1.2.2.2.1)).trans hS.2.2.1.2.2.2.1, (hb5.cell (block_lt_of_cell hS.2.2.1.2.2.2.2.1)).trans hS.2.2.1.2.2.2.2.1, (hb5.cell (block_lt_of_cell hS.2.2.1.2.2.2.2.2.1)).trans hS.2.2.1.2.2.2.2.2.1, (hb5.cell (block_lt_of_cell hS.2.2.1.2.2.2.2.2.2.1)).trans hS.2.2.1.2.2.2.2.2.2.1, (hb5.cell (block_lt_of_cell hS.2.2.1.2.2.2.2.2.2.2)).trans hS.2.2.1.2.2.2.2.2.2.2⟩, (hb5.cell (block_lt_of_cell hS.2.2.2.1)).trans hS.2.2.2.1, (hb5.cell (block_lt_of_cell hS.2.2.2.2.1)).trans hS.2.2.2.2.1, (hb5.cell (block_lt_of_cell hS.2.2.2.2.2.1)).trans hS.2.2.2.2.2.1, (hb5.cell (block_lt_of_cell hS.2.2.2.2.2.2.1)).trans hS.2.2.2.2.2.2.1, (hb5.cell (block_lt_of_cell hS.2.2.2.2.2.2.2.1)).trans hS.2.2.2.2.2.2.2.1, (hb5.cell (block_lt_of_cell hS.2.2.2.2.2.2.2.2.1)).trans hS.2.2.2.2.2.2.2.2.1, (hb5.cell (block_lt_of_cell hS.2.2.2.2.2.2.2.2.2.1)).trans hS.2.2.2.2.2.2.2.2.2.1, (hb5.cell (block_lt_of_cell hS.2.2.2.2.2.2.2.2.2.2)).trans hS.2.2.2.2.2.2.2.2.2.2⟩
    refine hK.out _ _ hS5 (fun hHeld2 => ?_)
    clear hK K
    (try simp only [Act.put, u1, u2, u3])
    refine tj 11 ?_
    refine tj 12 ?_
    refine wpAnyH_done (by kernel_rfl) ?_ _
    have hbb : Below wr.heap.size wr w5 := ⟨hb5.os, hb5.tape, hb5.output, hb5.size, hb5.block⟩
    have HT5 := Lib.hid (HTr.out.next hbb)
    have HF : Hid (okM l m = false) := HNo.out
    clear hS hS5 hHeld hHeld2 hb5 hbb HOB HROW HBL HTr HTd HCa HCb
    obtain ⟨r0, r1⟩ := pair_cells HT5.out.res
    obtain ⟨fz0, fz1⟩ := pair_frozen HT5.out.res
    have HXr := Lib.hid (HT5.out.set2S (.slice none 0 0) (.slice none 0 0)).1
    have HBr2 := Lib.hid (HT5.out.set2S (.slice none 0 0) (.slice none 0 0)).2
    go_wp2
    change bodyPost _ _ _ _ _ ((w5.setCell ⟨w.heap.size + 1 + 1, 0, none⟩ (.slice none 0 0)).setCell ⟨w.heap.size + 1 + 1, 1, none⟩ (.slice none 0 0))
    generalize (w5.setCell ⟨w.heap.size + 1 + 1, 0, none⟩ (.slice none 0 0)).setCell ⟨w.heap.size + 1 + 1, 1, none⟩ (.slice none 0 0) = wf at HXr HBr2 ⊢
    obtain ⟨q0, q1⟩ := pair_cells HXr.out
    exact bodyPost_ret (v := .tuple #[.agg #[.slice none 0 0, .slice none 0 0], .bool false]) (by simp [results, Tryz.results91, go_sem, q0, q1]) rfl ⟨none, 0, none, 0, by rw [HF.out]; rfl, by rw [HF.out]; exact own_nilS _ _ _ _, by rw [HF.out]; exact own_none _ _ _ _, HBr2.out, by rw [HF.out]; exact caps_nil, by rw [HF.out]; exact caps_nil⟩
   obtain ⟨u, rfl⟩ : ∃ u, y = x.with u := ⟨_, same_yes hsm⟩
   have HSm := Lib.hid hsm
   have HFy : Hid (mergeF l m d s = x.with (max x.undos u)) := by show _ = _; rw [HFds.out]; unfold joinAt; rw [HXi.out, HYk.out]; rfl
   have HE := Lib.hid (HOk3.out fun a b ha hb => by rw [HXi.out] at ha; rw [HYk.out] at hb; cases ha; cases hb; exact HSm.out)
   clear hsm
   change wr.drew.cell? ⟨w.heap.size, 1, none⟩ = some (.slice (some ⟨b1', off1, none⟩) no co) ∧ wr.drew.cell? ⟨w.heap.size + 1, 1, none⟩ = some (.slice (some ⟨b2, off2, none⟩) mo eo) ∧ (wr.drew.cell? ⟨b1', off1 + i * 8, none⟩ = some (.int .i64 x.dev) ∧ wr.drew.cell? ⟨b1', off1 + i * 8 + 1, none⟩ = some (.int .i64 x.seq) ∧ wr.drew.cell? ⟨b1', off1 + i * 8 + 2, none⟩ = some (.int .i64 x.stamp) ∧ wr.drew.cell? ⟨b1', off1 + i * 8 + 3, none⟩ = some (.int .i64 x.kind) ∧ wr.drew.cell? ⟨b1', off1 + i * 8 + 4, none⟩ = some (.string x.item) ∧ wr.drew.cell? ⟨b1', off1 + i * 8 + 5, none⟩ = some (.int .i64 x.qty) ∧ wr.drew.cell? ⟨b1', off1 + i * 8 + 6, none⟩ = some (.int .i64 x.level) ∧ wr.drew.cell? ⟨b1', off1 + i * 8 + 7, none⟩ = some (.int .i64 x.undos)) ∧ wr.drew.cell? ⟨b2, off2 + k * 8, none⟩ = some (.int .i64 x.dev) ∧ wr.drew.cell? ⟨b2, off2 + k * 8 + 1, none⟩ = some (.int .i64 x.seq) ∧ wr.drew.cell? ⟨b2, off2 + k * 8 + 2, none⟩ = some (.int .i64 x.stamp) ∧ wr.drew.cell? ⟨b2, off2 + k * 8 + 3, none⟩ = some (.int .i64 x.kind) ∧ wr.drew.cell? ⟨b2, off2 + k * 8 + 4, none⟩ = some (.string x.item) ∧ wr.drew.cell? ⟨b2, off2 + k * 8 + 5, none⟩ = some (.int .i64 x.qty) ∧ wr.drew.cell? ⟨b2, off2 + k * 8 + 6, none⟩ = some (.int .i64 x.level) ∧ wr.drew.cell? ⟨b2, off2 + k * 8 + 7, none⟩ = some (.int .i64 u) at hS
   go_wp2_with fail
   refine wp_region_held_drew (S := fun w' => w'.cell? ⟨w.heap.size, 1, none⟩ = some (.slice (some ⟨b1', off1, none⟩) no co) ∧ w'.cell? ⟨w.heap.size + 1, 1, none⟩ = some (.slice (some ⟨b2, off2, none⟩) mo eo) ∧ (w'.cell? ⟨b1', off1 + i * 8, none⟩ = some (.int .i64 x.dev) ∧ w'.cell? ⟨b1', off1 + i * 8 + 1, none⟩ = some (.int .i64 x.seq) ∧ w'.cell? ⟨b1', off1 + i * 8 + 2, none⟩ = some (.int .i64 x.stamp) ∧ w'.cell? ⟨b1', off1 + i * 8 + 3, none⟩ = some (.int .i64 x.kind) ∧ w'.cell? ⟨b1', off1 + i * 8 + 4, none⟩ = some (.string x.item) ∧ w'.cell? ⟨b1', off1 + i * 8 + 5, none⟩ = some (.int .i64 x.qty) ∧ w'.cell? ⟨b1', off1 + i * 8 + 6, none⟩ = some (.int .i64 x.level) ∧ w'.cell? ⟨b1', off1 + i * 8 + 7, none⟩ = some (.int .i64 x.undos)) ∧ w'.cell? ⟨b2, off2 + k * 8, none⟩ = some (.int .i64 x.dev) ∧ w'.cell? ⟨b2, off2 + k * 8 + 1, none⟩ = some (.int .i64 x.seq) ∧ w'.cell? ⟨b2, off2 + k * 8 + 2, none⟩ = some (.int .i64 x.stamp) ∧ w'.cell? ⟨b2, off2 + k * 8 + 3, none⟩ = some (.int .i64 x.kind) ∧ w'.cell? ⟨b2, off2 + k * 8 + 4, none⟩ = some (.string x.item) ∧ w'.cell? ⟨b2, off2 + k * 8 + 5, none⟩ = some (.int .i64 x.qty) ∧ w'.cell? ⟨b2, off2 + k * 8 + 6, none⟩ = some (.int .i64 x.level) ∧ w'.cell? ⟨b2, off2 + k * 8 + 7, none⟩ = some (.int .i64 u)) (by kernel_rfl) hS (fun hHeld => ?_)
   refine tj 0 ?_
   refine tj 1 ?_
   refine tj 2 ?_
   refine tj 3 ?_
   refine tj 4 ?_
   refine tj 5 ?_
   refine tj 6 ?_
   refine tj 7 ?_
   refine tj 8 ?_
   refine tj 9 ?_
   refine rk 10 rfl (fun K hK => ?_)
   go_simp
   go_at_call 106
   refine (l4Same x (x.with u) wr.drew).mono ?_
   rintro e w5 ⟨rfl, hb5⟩
   rw [HSm.out]
   have hS5 : w5.cell? ⟨w.heap.size, 1, none⟩ = some (.slice (some ⟨b1', off1, none⟩) no co) ∧ w5.cell? ⟨w.heap.size + 1, 1, none⟩ = some (.slice (some ⟨b2, off2, none⟩) mo eo) ∧ (w5.cell? ⟨b1', off1 + i * 8, none⟩ = some (.int .i64 x.dev) ∧ w5.cell? ⟨b1', off1 + i * 8 + 1, none⟩ = some (.int .i64 x.seq) ∧ w5.cell? ⟨b1', off1 + i * 8 + 2, none⟩ = some (.int .i64 x.stamp) ∧ w5.cell? ⟨b1', off1 + i * 8 + 3, none⟩ = some (.int .i64 x.kind) ∧ w5.cell? ⟨b1', off1 + i * 8 + 4, none⟩ = some (.string x.item) ∧ w5.cell? ⟨b1', off1 + i * 8 + 5, none⟩ = some (.int .i64 x.qty) ∧ w5.cell? ⟨b1', off1 + i * 8 + 6, none⟩ = some (.int .i64 x.level) ∧ w5.cell? ⟨b1', off1 + i * 8 + 7, none⟩ = some (.int .i64 x.undos)) ∧ w5.cell? ⟨b2, off2 + k * 8, none⟩ = some (.int .i64 x.dev) ∧ w5.cell? ⟨b2, off2 + k * 8 + 1, none⟩ = some (.int .i64 x.seq) ∧ w5.cell? ⟨b2, off2 + k * 8 + 2, none⟩ = some (.int .i64 x.stamp) ∧ w5.cell? ⟨b2, off2 + k * 8 + 3, none⟩ = some (.int .i64 x.kind) ∧ w5.cell? ⟨b2, off2 + k * 8 + 4, none⟩ = some (.string x.item) ∧ w5.cell? ⟨b2, off2 + k * 8 + 5, none⟩ = some (.int .i64 x.qty) ∧ w5.cell? ⟨b2, off2 + k * 8 + 6, none⟩ = some (.int .i64 x.level) ∧ w5.cell? ⟨b2, off2 + k * 8 + 7, none⟩ = some (.int .i64 u) := ⟨(hb5.cell (block_lt_of_cell hS.1)).trans hS.1, (hb5.cell (block_lt_of_cell hS.2.1)).trans hS.2.1, ⟨(hb5.cell (block_lt_of_cell hS.2.2.1.1)).trans hS.2.2.1.1, (hb5.cell (block_lt_of_cell hS.2.2.1.2.1)).trans hS.2.2.1.2.1, (hb5.cell (block_lt_of_cell hS.2.2.1.2.2.1)).trans hS.2.2.1.2.2.1, (hb5.cell (block_lt_of_cell hS.2.2.1.2.2.2.1)).trans hS.2.2.1.2.2.2.1, (hb5.cell (block_lt_of_cell hS.2.2.1.2.2.2.2.1)).trans hS.2.2.1.2.2.2.2.1, (hb5.cell (block_lt_of_cell hS.2.2.1.2.2.2.2.2.1)).trans hS.2.2.1.2.2.2.2.2.1, (hb5.cell (block_lt_of_cell hS.2.2.1.2.2.2.2.2.2.1)).trans hS.2.2.1.2.2.2.2.2.2.1, (hb5.cell (block_lt_of_cell hS.2.2.1.2.2.2.2.2.2.2)).trans hS.2.2.1.2.2.2.2.2.2.2⟩, (hb5.cell (block_lt_of_cell hS.2.2.2.1)).trans hS.2.2.2.1, (hb5.cell (block_lt_of_cell hS.2.2.2.2.1)).trans hS.2.2.2.2.1, (hb5.cell (block_lt_of_cell hS.2.2.2.2.2.1)).trans hS.2.2.2.2.2.1, (hb5.cell (block_lt_of_cell hS.2.2.2.2.2.2.1)).trans hS.2.2.2.2.2.2.1, (hb5.cell (block_lt_of_cell hS.2.2.2.2.2.2.2.1)).trans hS.2.2.2.2.2.2.2.1, (hb5.cell (block_lt_of_cell hS.2.2.2.2.2.2.2.2.1)).trans hS.2.2.2.2.2.2.2.2.1, (hb5.cell (block_lt_of_cell hS.2.2.2.2.2.2.2.2.2.1)).trans hS.2.2.2.2.2.2.2.2.2.1, (hb5.cell (block_lt_of_cell hS.2.2.2.2.2.2.2.2.2.2)).trans hS.2.2.2.2.2.2.2.2.2.2⟩
   refine hK.out _ _ hS5 (fun hHeld2 => ?_)
   clear hK K
   (try simp only [Act.put, u1, u2, u3])
   refine tj 11 ?_
   refine tj 12 ?_
   refine wpAnyH_done (by kernel_rfl) ?_ _
   have hbb : Below wr.heap.size wr w5 := ⟨hb5.os, hb5.tape, hb5.output, hb5.size, hb5.block⟩
   have HOB5 := Lib.hid ((hbb.block _ hobl).trans HOB.out)
   have HROW5 := Lib.hid (own_row_kept HROW.out hbb)
   have HBL5 := Lib.hid (HBL.out.trans (hbb.mono (by omega)))
   have hobl5 : ob < w5.heap.size := Nat.lt_of_lt_of_le hobl hbb.size
   have HS5 := Lib.hid hS5
   have HLt : Hid (∀ g, (Value.slice oa L.length oc).ownBlock = some g → g < w5.heap.size) := fun g hg => (HROW5.out.lt g hg).2
   clear hS hS5 hHeld hHeld2 hb5 hbb HOB HROW HBL HTr HTd HXi HYk HStop
   obtain ⟨a1, b1, ⟨d0, d1, d2, d3, d4, d5, d6, d7⟩, e0', e1', e2', e3', e4', e5', e6', e7'⟩ := HS5.out
   go_upto_region 11 with fail
   have hb6 : Below w5.heap.size w5 (w5.alloc (.cells #[.int .i64 x.dev, .int .i64 x.seq, .int .i64 x.stamp, .int .i64 x.kind, .string x.item, .int .i64 x.qty, .int .i64 x.level, .int .i64 x.undos] 84)) := bl
   have HX6 := Lib.hid (boxAt (Below.refl _ (w5.alloc (.cells #[.int .i64 x.dev, .int .i64 x.seq, .int .i64 x.stamp, .int .i64 x.kind, .string x.item, .int .i64 x.qty, .int .i64 x.level, .int .i64 x.undos] 84))))
   have b16 := (hb6.cell (block_lt_of_cell b1)).trans b1
   have e76 := (hb6.cell (block_lt_of_cell e7')).trans e7'
   have HOB6 := Lib.hid ((hb6.block _ hobl5).trans HOB5.out)
   have HROW6 := Lib.hid (own_row_kept HROW5.out hb6)
   have HBL6 := Lib.hid (HBL5.out.trans (hb6.mono (by omega)))
   clear a1 b1 d0 d1 d2 d3 d4 d5 d6 d7 e0' e1' e2' e3' e4' e5' e6' e7' HS5 HOB5 HROW5 HBL5
   generalize w5.alloc (.cells #[.int .i64 x.dev, .int .i64 x.seq, .int .i64 x.stamp, .int .i64 x.kind, .string x.item, .int .i64 x.qty, .int .i64 x.level, .int .i64 x.undos] 84) = w6 at hb6 HX6 b16 e76 HOB6 HROW6 HBL6 ⊢
   have hs6 := hb6.size
   have hx6 := lt_of_row HX6.out
   generalize w5.heap.size = nb at HX6 hs6 hx6 hobl5 HLt ⊢
   clear hb6
   obtain ⟨z0, hz0e⟩ : ∃ z0, w6.drew = z0 := ⟨_, rfl⟩
   have HX7 : Hid (z0.heap[nb]? = some (.cells #[.int .i64 x.dev, .int .i64 x.seq, .int .i64 x.stamp, .int .i64 x.kind, .string x.item, .int .i64 x.qty, .int .i64 x.level, .int .i64 x.undos] 84 (0, 0))) := by rw [← hz0e]; exact HX6.out
   have HOB7 : Hid (z0.heap[ob]? = some (.cells #[.slice (some ⟨vb, vo, none⟩) 4 zc, .slice oa L.length oc] 49 (0, 0))) := by rw [← hz0e]; exact HOB6.out
   have HROW7 : Hid (z0.ownsRow (ob + 1) 84 8 (.slice oa L.length oc) L.length (opCells L)) := by rw [← hz0e]; exact HROW6.out
   have HBL7 : Hid (Below ob w2 z0) := by rw [← hz0e]; exact ⟨HBL6.out.os, HBL6.out.tape, HBL6.out.output, HBL6.out.size, HBL6.out.block⟩
   have hS : z0.cell? ⟨w.heap.size + 1, 1, none⟩ = some (.slice (some ⟨b2, off2, none⟩) mo eo) ∧ z0.cell? ⟨b2, off2 + k * 8 + 7, none⟩ = some (.int .i64 u) := by rw [← hz0e]; exact ⟨b16, e76⟩
   have hzs0 : z0.heap.size = w6.heap.size := by rw [← hz0e]; rfl
   clear HX6 HOB6 HROW6 HBL6 b16 e76
   obtain ⟨e0, e1, e2, e3, e4, e5, e6, e7⟩ := op_cells HX7.out
   obtain ⟨f0, f1, f2, f3, f4, f5, f6, f7⟩ := op_frozen HX7.out
   have HX8 : Hid ((z0.setCell ⟨nb, 7, none⟩ (.int .i64 (max x.undos u))).heap[nb]? = some (.cells #[.int .i64 x.dev, .int .i64 x.seq, .int .i64 x.stamp, .int .i64 x.kind, .string x.item, .int .i64 x.qty, .int .i64 x.level, .int .i64 (max x.undos u)] 84 (0, 0))) := heap_setCell_same _ _ _ _ _ _ HX7.out
   have HOB8 : Hid ((z0.setCell ⟨nb, 7, none⟩ (.int .i64 (max x.undos u))).heap[ob]? = some (.cells #[.slice (some ⟨vb, vo, none⟩) 4 zc, .slice oa L.length oc] 49 (0, 0))) := (heap_setCell_other _ _ _ _ (by show ob ≠ nb; omega)).trans HOB7.out
   have HROW8 : Hid ((z0.setCell ⟨nb, 7, none⟩ (.int .i64 (max x.undos u))).ownsRow (ob + 1) 84 8 (.slice oa L.length oc) L.length (opCells L)) := row_put HROW7.out (fun q hq => by have := HLt.out q hq; omega)
   have HBL8 : Hid (Below ob w2 (z0.setCell ⟨nb, 7, none⟩ (.int .i64 (max x.undos u)))) := HBL7.out.setCell (by show ob ≤ nb; omega) _
   have hS8 : (z0.setCell ⟨nb, 7, none⟩ (.int .i64 (max x.undos u))).cell? ⟨w.heap.size + 1, 1, none⟩ = some (.slice (some ⟨b2, off2, none⟩) mo eo) ∧ (z0.setCell ⟨nb, 7, none⟩ (.int .i64 (max x.undos u))).cell? ⟨b2, off2 + k * 8 + 7, none⟩ = some (.int .i64 u) := ⟨(cell_of_block (heap_setCell_other _ _ _ _ (by show w.heap.size + 1 ≠ nb; omega))).trans hS.1, (cell_of_block (heap_setCell_other _ _ _ _ (by show b2 ≠ nb; omega))).trans hS.2⟩
   have hzs8 : (z0.setCell ⟨nb, 7, none⟩ (.int .i64 (max x.undos u))).heap.size = z0.heap.size := World.size_setCell _ _ _
   go_wp2_with fail
   refine wp_region_held_drew (S := fun w' => w'.cell? ⟨w.heap.size + 1, 1, none⟩ = some (.slice (some ⟨b2, off2, none⟩) mo eo) ∧ w'.cell? ⟨b2, off2 + k * 8 + 7, none⟩ = some (.int .i64 u)) (by kernel_rfl) (by rw [hz0e]; exact hS) (fun hHeld => ?_)
   rw [hz0e]
   clear hHeld
   refine tj 0 ?_
   refine tj 2 ?_
   refine tj 3 ?_
   refine tj 4 ?_
   refine tj 5 ?_
   refine tj 6 ?_
   refine tj 7 ?_
   refine rk 1 rfl (fun K hK => ?_)
   go_simp
   refine hK.out _ _ hS (fun hHeld6 => ?_)
   clear hK K
   (try simp only [Act.put, u1, u2, u3])
   refine tj 8 ?_
   refine tj 9 ?_
   refine rk 10 rfl (fun K hK => ?_)
   go_simp
   refine hK.out _ _ hS8 (fun hHeld7 => ?_)
   clear hK K
   (try simp only [Act.put, u1, u2, u3])
   refine wpAnyH_done (by kernel_rfl) ?_ _
   clear hS hS8 hHeld6 hHeld7 HX7 HOB7 HROW7 HBL7 e0 e1 e2 e3 e4 e5 e6 e7 f0 f1 f2 f3 f4 f5 f6 f7
   generalize hmx : max x.undos u = mx at HX8 HOB8 HROW8 HBL8 hzs8 HFy ⊢
   generalize z0.setCell ⟨nb, 7, none⟩ (.int .i64 mx) = w8 at HX8 HOB8 HROW8 HBL8 hzs8 ⊢
   clear hmx hz0e hzs8 hzs0
   obtain ⟨e0, e1, e2, e3, e4, e5, e6, e7⟩ := op_cells HX8.out
   obtain ⟨o0, o1⟩ := pair_cells HOB8.out
   have hobl8 := lt_of_row HOB8.out
   have hown1 := HROW8.out.alloc (.cells #[.int .i64 x.dev, .int .i64 x.seq, .int .i64 x.stamp, .int .i64 x.kind, .string x.item, .int .i64 x.qty, .int .i64 x.level, .int .i64 mx] 84)
   go_upto_region 12 with fail
   have HFy2 : Hid (mergeF l m d s = x.with mx) := HFy.out
   generalize hX : x.with mx = xx at HFy2
   go_wp2_with (at_builtin; refine wpList_append_own _ rfl _ _ 47 rfl (ob + 1) 84 i0 (.agg #[.int .i64 0, .int .i64 0, .int .i64 0, .int .i64 0, .string ⟨#[]⟩, .int .i64 0, .int .i64 0, .int .i64 0]) 8 72 Tryz.underlying47 hi hz0 hz1 hz2 rfl (by decide) _ _ _ rfl hown1 ⟨w8.heap.size, 0, none⟩ 1 1 (opRow xx) rfl ?c0 ?c1 ?c2 ?c3 ?c4 ?c5 ?_)
   case c0 => rfl
   case c1 =>
    rw [← hX]
    exact opRow_new w8 (x.with mx)
   case c2 =>
    intro u hu
    exact opCells_one [xx] u (by show u ∈ opRow xx ++ []; rw [List.append_nil]; exact hu)
   case c3 => unfold maxLen; omega
   case c4 => omega
   case c5 => simp; omega
   intro v' w9 hown2 hgrow _
   have hbb9 : Below ob w8 w9 := ((Below.refl ob w8).alloc (by omega) (.cells #[.int .i64 x.dev, .int .i64 x.seq, .int .i64 x.stamp, .int .i64 x.kind, .string x.item, .int .i64 x.qty, .int .i64 x.level, .int .i64 mx] 84)).grown hgrow (by simp; omega) (fun j hj => by have := (hown1.lt j hj).1; omega)
   have HOB9 : Hid (w9.heap[ob]? = some (.cells #[.slice (some ⟨vb, vo, none⟩) 4 zc, .slice oa L.length oc] 49 (0, 0))) := (hgrow.block ob (by show _ < (w8.heap.push _).size; simp; omega) (fun h => by have := (hown1.lt ob h.symm).1; omega)).trans ((Below.heap_alloc _ _ _ hobl8).trans HOB8.out)
   obtain ⟨va2, vc2, rfl⟩ : ∃ va2 vc2, v' = .slice va2 (L.length + 1) vc2 := by
    rcases hown2.2 with ⟨_, e2⟩ | ⟨_, c2, _, e2, _⟩
    ·omega
    ·exact ⟨_, c2, e2⟩
   have HBOX : Hid ((w9.setCell ⟨ob, 1, none⟩ (.slice va2 (L.length + 1) vc2)).heap[ob]? = some (.cells #[.slice (some ⟨vb, vo, none⟩) 4 zc, .slice va2 (L.length + 1) vc2] 49 (0, 0))) := heap_setCell_same _ _ _ _ _ _ HOB9.out
   have HROW9 : Hid ((w9.setCell ⟨ob, 1, none⟩ (.slice va2 (L.length + 1) vc2)).ownsRow (ob + 1) 84 8 (.slice va2 (L.length + 1) vc2) (L.length + 1) (opCells L ++ opRow xx)) := row_put hown2 (fun q hq => by have := (hown2.lt q hq).1; omega)
   have HBL9 : Hid (Below ob w2 (w9.setCell ⟨ob, 1, none⟩ (.slice va2 (L.length + 1) vc2))) := (HBL8.out.trans (hbb9.mono (by omega))).setCell (Nat.le_refl _) _
   have HOn : Hid (OutL ob (some ⟨vb, vo, none⟩) zc zs (mergeF l m) w2 (w9.setCell ⟨ob, 1, none⟩ (.slice va2 (L.length + 1) vc2)) d (s + 1)) := by
    show OutL _ _ _ _ _ _ _ _ _
    unfold OutL
    rw [HSt.out, HFy2.out, opCells_snoc, List.length_append]
    exact ⟨va2, vc2, HBOX.out, HROW9.out, HBL9.out⟩
   have o19 := (pair_cells HOB9.out).2
   have fz9 := (pair_frozen HOB9.out).2
   clear hown1 hown2 hgrow HROW8 HBL8 HX8 HOB8 e0 e1 e2 e3 e4 e5 e6 e7 o0 o1 HBOX HROW9 HBL9 HOB9 hbb9
   go_wp2
   go_roundw
   case rel => exact ⟨s + 1, by omega, by go_num, HOn, HE⟩
   case measure => simp [intOf]; omega

set_option linter.unusedSimpArgs false in
set_option maxHeartbeats 40000000 in
theorem specMergedC (w : World) (B : Nat) (av ao bv bo : Option Addr) (nv cv no co mv dv mo eo : Nat) (xs : List Int) (l : List OpV) (ys : List Int) (m : List OpV) (hx : Ints w B av nv xs) (h : Ops w B ao no l) (hy : Ints w B bv mv ys) (g : Ops w B bo mo m) (hB : B ≤ w.heap.size) (hv : nv ≤ 1048576) (hn : no ≤ 1048576) (hm : ∀ i, i < no → (atOp l i).item.size ≤ 1048576) (hv2 : mv ≤ 1048576) (hn2 : mo ≤ 1048576) (hm2 : ∀ i, i < mo → (atOp m i).item.size ≤ 1048576) :
  Calls Tryz.prog 63 #[.agg #[.slice av nv cv, .slice ao no co], .agg #[.slice bv mv dv, .slice bo mo eo]] w (ReadPostC (mergedB xs l ys m) (mergedVs xs ys (mergedB xs l ys m)) (mergedOs xs ys l m (mergedB xs l ys m)) w) := by
 have hT := TriF.mk0 w #[.slice av nv cv, .slice ao no co] #[.slice bv mv dv, .slice bo mo eo] #[.slice none 0 0, .slice none 0 0] 49 49 49
 have HV := Lib.hid (hx.below hT.bel hB)
 have HO := Lib.hid (h.below hT.bel hB)
 have HY := Lib.hid (hy.below hT.bel hB)
 have HG := Lib.hid (g.below hT.bel hB)
 have HT := Lib.hid hT
 have HM := Lib.hid hm
 have HM2 := Lib.hid hm2
 have hBw := hB
 clear hx h hy g hT hB hm hm2
 go_enter Tryz.func63, Tryz.ntmps63
 go_wp2_with fail
 generalize ((w.alloc (.cells #[.slice av nv cv, .slice ao no co] 49)).alloc (.cells #[.slice bv mv dv, .slice bo mo eo] 49)).alloc (.cells #[.slice none 0 0, .slice none 0 0] 49) = w0 at HV HO HY HG HT ⊢
 have hsz0 := HT.out.bel.size
 have hsz1 := lt_of_row HT.out.res
 refine (specCartOk w0 B av ao nv cv no co xs l HV.out HO.out (by omega) hv hn HM.out).mono ?_
 rintro e w1 ⟨rfl, hb1⟩
 have HV1 := Lib.hid (HV.out.below hb1 (by omega))
 have HO1 := Lib.hid (HO.out.below hb1 (by omega))
 have HY1 := Lib.hid (HY.out.below hb1 (by omega))
 have HG1 := Lib.hid (HG.out.below hb1 (by omega))
 have HT1 := Lib.hid (HT.out.next hb1)
 have hs1 := hb1.size
 clear hb1 HV HO HY HG HT
 rcases hca : cartB xs l with _ | _
 ·have HF := Lib.hid (mergedB_1 (ys := ys) (m := m) hca)
  clear hca
  obtain ⟨r0, r1⟩ := pair_cells HT1.out.res
  obtain ⟨fz0, fz1⟩ := pair_frozen HT1.out.res
  have HXr := Lib.hid (HT1.out.set2S (.slice none 0 0) (.slice none 0 0)).1
  have HBr2 := Lib.hid (HT1.out.set2S (.slice none 0 0) (.slice none 0 0)).2
  go_wp2
  change bodyPost _ _ _ _ _ ((w1.setCell ⟨w.heap.size + 1 + 1, 0, none⟩ (.slice none 0 0)).setCell ⟨w.heap.size + 1 + 1, 1, none⟩ (.slice none 0 0))
  generalize (w1.setCell ⟨w.heap.size + 1 + 1, 0, none⟩ (.slice none 0 0)).setCell ⟨w.heap.size + 1 + 1, 1, none⟩ (.slice none 0 0) = wf at HXr HBr2 ⊢
  obtain ⟨q0, q1⟩ := pair_cells HXr.out
  exact bodyPost_ret (v := .tuple #[.agg #[.slice none 0 0, .slice none 0 0], .bool false]) (by simp [results, Tryz.results63, go_sem, q0, q1]) rfl ⟨none, 0, none, 0, by rw [HF.out]; rfl, by rw [HF.out]; exact own_nilS _ _ _ _, by rw [HF.out]; exact own_none _ _ _ _, HBr2.out, by rw [HF.out]; exact caps_nil, by rw [HF.out]; exact caps_nil⟩
 obtain ⟨b0, b1⟩ := pair_cells HT1.out.snd
 go_wp2_with fail
 refine (specCartOk w1 B bv bo mv dv mo eo ys m HY1.out HG1.out (by omega) hv2 hn2 HM2.out).mono ?_
 rintro e w2 ⟨rfl, hb2⟩
 have HV2 := Lib.hid (HV1.out.below hb2 (by omega))
 have HO2 := Lib.hid (HO1.out.below hb2 (by omega))
 have HY2 := Lib.hid (HY1.out.below hb2 (by omega))
 have HG2 := Lib.hid (HG1.out.below hb2 (by omega))
 have HT2 := Lib.hid (HT1.out.next hb2)
 have hs2 := hb2.size
 have hrl2 := lt_of_row HT2.out.res
 clear hb2 HV1 HO1 HY1 HG1 HT1 b0 b1
 rcases hcb : cartB ys m with _ | _
 ·have HF := Lib.hid (mergedB_2 (xs := xs) (l := l) hcb)
  clear hca hcb
  obtain ⟨r0, r1⟩ := pair_cells HT2.out.res
  obtain ⟨fz0, fz1⟩ := pair_frozen HT2.out.res
  have HXr := Lib.hid (HT2.out.set2S (.slice none 0 0) (.slice none 0 0)).1
  have HBr2 := Lib.hid (HT2.out.set2S (.slice none 0 0) (.slice none 0 0)).2
  go_wp2
  change bodyPost _ _ _ _ _ ((w2.setCell ⟨w.heap.size + 1 + 1, 0, none⟩ (.slice none 0 0)).setCell ⟨w.heap.size + 1 + 1, 1, none⟩ (.slice none 0 0))
  generalize (w2.setCell ⟨w.heap.size + 1 + 1, 0, none⟩ (.slice none 0 0)).setCell ⟨w.heap.size + 1 + 1, 1, none⟩ (.slice none 0 0) = wf at HXr HBr2 ⊢
  obtain ⟨q0, q1⟩ := pair_cells HXr.out
  exact bodyPost_ret (v := .tuple #[.agg #[.slice none 0 0, .slice none 0 0], .bool false]) (by simp [results, Tryz.results63, go_sem, q0, q1]) rfl ⟨none, 0, none, 0, by rw [HF.out]; rfl, by rw [HF.out]; exact own_nilS _ _ _ _, by rw [HF.out]; exact own_none _ _ _ _, HBr2.out, by rw [HF.out]; exact caps_nil, by rw [HF.out]; exact caps_nil⟩
 have HFk := Lib.hid (mergedB_3 hca hcb)
 obtain ⟨a0, a1⟩ := pair_cells HT2.out.fst
 obtain ⟨b0, b1⟩ := pair_cells HT2.out.snd
 go_wp2_with fail
 refine (l4MergeC w2 B av ao bv bo nv cv no co mv dv mo eo xs l ys m HV2.out HO2.out HY2.out HG2.out (by omega) hv hn HM.out hv2 hn2 HM2.out hca hcb).mono ?_
 rintro e w3 ⟨va, vc, oa, oc, rfl, hiv, hop, hb3, hcv, hco⟩
 rw [← HFk.out] at hiv hop hcv hco ⊢
 have HCv := Lib.hid hcv
 have HCo := Lib.hid hco
 clear hcv hco
 have HT3 := Lib.hid (HT2.out.next hb3)
 have HI := Lib.hid hiv
 have HP := Lib.hid hop
 have hs3 := hb3.size
 clear hiv hop hb3 HV2 HO2 HY2 HG2 HT2 a0 a1 b0 b1 hca hcb
 generalize hzs : mergedVs xs ys (mergedB xs l ys m) = zs at HI HCv ⊢
 generalize hLs : mergedOs xs ys l m (mergedB xs l ys m) = L at HP HCo ⊢
 have HZs := Lib.hid hzs
 have HLs := Lib.hid hLs
 clear hzs hLs
 rcases hok : mergedB xs l ys m with _ | _
 ·have HF := Lib.hid hok
  clear hok
  go_upto_region 4 with fail
  have hb4 : Below w3.heap.size w3 (w3.alloc (.cells #[.slice va zs.length vc, .slice oa L.length oc] 49)) := bl
  have HT4 := Lib.hid (HT3.out.next hb4)
  generalize w3.alloc (.cells #[.slice va zs.length vc, .slice oa L.length oc] 49) = w4 at hb4 HT4 ⊢
  clear hb4
  obtain ⟨r0, r1⟩ := pair_cells HT4.out.res
  obtain ⟨fz0, fz1⟩ := pair_frozen HT4.out.res
  have HXr := Lib.hid (HT4.out.set2S (.slice none 0 0) (.slice none 0 0)).1
  have HBr2 := Lib.hid (HT4.out.set2S (.slice none 0 0) (.slice none 0 0)).2
  go_wp2
  change bodyPost _ _ _ _ _ ((w4.setCell ⟨w.heap.size + 1 + 1, 0, none⟩ (.slice none 0 0)).setCell ⟨w.heap.size + 1 + 1, 1, none⟩ (.slice none 0 0))
  generalize (w4.setCell ⟨w.heap.size + 1 + 1, 0, none⟩ (.slice none 0 0)).setCell ⟨w.heap.size + 1 + 1, 1, none⟩ (.slice none 0 0) = wf at HXr HBr2 ⊢
  obtain ⟨q0, q1⟩ := pair_cells HXr.out
  exact bodyPost_ret (v := .tuple #[.agg #[.slice none 0 0, .slice none 0 0], .bool false]) (by simp [results, Tryz.results63, go_sem, q0, q1]) rfl ⟨none, 0, none, 0, by rw [HF.out]; rfl, by rw [HF.out]; exact own_nilS _ _ _ _, by rw [HF.out]; exact own_none _ _ _ _, HBr2.out, by rw [HF.out]; exact caps_nil, by rw [HF.out]; exact caps_nil⟩
 have HF := Lib.hid hok
 clear hok
 go_upto_region 4 with fail
 have hb4 : Below w3.heap.size w3 (w3.alloc (.cells #[.slice va zs.length vc, .slice oa L.length oc] 49)) := bl
 have HT4 := Lib.hid (HT3.out.next hb4)
 have HX4 := Lib.hid (boxAt (Below.refl _ (w3.alloc (.cells #[.slice va zs.length vc, .slice oa L.length oc] 49))))
 have HI4 := Lib.hid (HI.out.below hb4 (Nat.le_refl _))
 have HP4 := Lib.hid (HP.out.below hb4 (Nat.le_refl _))
 generalize w3.alloc (.cells #[.slice va zs.length vc, .slice oa L.length oc] 49) = w4 at hb4 HT4 HX4 HI4 HP4 ⊢
 have hs4 := hb4.size
 clear hb4 HT3 HI HP
 obtain ⟨r0, r1⟩ := pair_cells HT4.out.res
 obtain ⟨fz0, fz1⟩ := pair_frozen HT4.out.res
 obtain ⟨x0, x1⟩ := pair_cells HX4.out
 have hrl := lt_of_row HT4.out.res
 have HXr := Lib.hid (HT4.out.set2S (.slice va zs.length vc) (.slice oa L.length oc)).1
 have HBr2 := Lib.hid (HT4.out.set2S (.slice va zs.length vc) (.slice oa L.length oc)).2
 have hsz6 : ((w4.setCell ⟨w.heap.size + 1 + 1, 0, none⟩ (.slice va zs.length vc)).setCell ⟨w.heap.size + 1 + 1, 1, none⟩ (.slice oa L.length oc)).heap.size = w4.heap.size := pair_size _ _ _ _
 have HZ6 : Hid (Own ((w4.setCell ⟨w.heap.size + 1 + 1, 0, none⟩ (.slice va zs.length vc)).setCell ⟨w.heap.size + 1 + 1, 1, none⟩ (.slice oa L.length oc)) w2.heap.size w3.heap.size va zs.length zs) := HI4.out.kept fun j h1 h2 => pair_other _ _ (by omega)
 have HO6 : Hid (OwnOps ((w4.setCell ⟨w.heap.size + 1 + 1, 0, none⟩ (.slice va zs.length vc)).setCell ⟨w.heap.size + 1 + 1, 1, none⟩ (.slice oa L.length oc)) w2.heap.size w3.heap.size oa L.length L) := HP4.out.kept fun j h1 h2 => pair_other _ _ (by omega)
 have HsM : Hid (w4.heap.size = ((w4.setCell ⟨w.heap.size + 1 + 1, 0, none⟩ (.slice va zs.length vc)).setCell ⟨w.heap.size + 1 + 1, 1, none⟩ (.slice oa L.length oc)).heap.size) := hsz6.symm
 clear hsz6
 go_wp2
 change bodyPost _ _ _ _ _ ((w4.setCell ⟨w.heap.size + 1 + 1, 0, none⟩ (.slice va zs.length vc)).setCell ⟨w.heap.size + 1 + 1, 1, none⟩ (.slice oa L.length oc))
 generalize (w4.setCell ⟨w.heap.size + 1 + 1, 0, none⟩ (.slice va zs.length vc)).setCell ⟨w.heap.size + 1 + 1, 1, none⟩ (.slice oa L.length oc) = wf at HXr HBr2 HZ6 HO6 HsM ⊢
 obtain ⟨q0, q1⟩ := pair_cells HXr.out
 have hsm := HsM.out
 exact bodyPost_ret (v := .tuple #[.agg #[.slice va zs.length vc, .slice oa L.length oc], .bool true]) (by simp [results, Tryz.results63, go_sem, q0, q1]) rfl ⟨va, vc, oa, oc, by rw [HZs.out, HLs.out, HF.out], by rw [HZs.out]; exact HZ6.out.more (by omega) (by omega), by rw [HLs.out]; exact HO6.out.more (by omega) (by omega), HBr2.out, by rw [HZs.out]; exact HCv.out, by rw [HLs.out]; exact HCo.out⟩
end Go.Proofs.YtgagchlcafdiaaaGreat
